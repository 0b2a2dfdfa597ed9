import Derived.Test.YtedmellodofajaaGreatDoorJ9
import Derived.BigRegion
import Derived.Test.YtedmellodofajaaGreatDoorJ1
import Derived.Test.YtedmellodofajaaGreatDoorJ8
import Derived.Deep.WholeRow
import Derived.Test.YtedmellodofajaaGreatDoorJ7
set_option linter.unusedVariables false
set_option linter.unusedSimpArgs false
set_option linter.unnecessarySimpa false
set_option linter.defProp false
set_option maxRecDepth 100000
set_option maxHeartbeats 8000000
namespace Go.Proofs.YtedmellodofajaaGreatDoor
open Go.RowKit
section
variable {a d y:NF} {D R U X xs ys:List NF} {I L P S Z Z2:LN} {ak bb cap fb g n q r s t vb jS:Nat} {w w' w1 w2 w5:World} {v v5 vp:Value} {e:Ending}
def afv(base:Nat)(m w:World)(fb vb:Nat)(D:List NF)(ak c:Nat)(U:List NF)(Z:LN)(a:NF)(i:Nat)(h:ST base m fb vb D ak c U Z)(F0:aB [] m w)(o:D[i]?=some a) :
 zF 195 #[zP fb,zI i] w λe w'=>∃v L,e=zR v/\PL w' v L/\(∀j∈L,j<D.length)/\(∀p,p∈parts a↔p∈L.map λj=>D.getD j .zero)/\L.length<=(parts a).length/\(L≠[]->∀x n cp,v=.slice (some x) n cp->x.block<m.heap.size\/x.block=w.heap.size)/\aB [] w w':=by
 obtain⟨f,L,cap,K⟩:=h.look o;have G:=K.lt;have hlen:=h.len;have t:=h.pP.2.2.2.2.2;have t0:=(F0.cell (p:=(zA fb)) (by show fb<_;omega) (by simp)).trans K.tab;have k0:=(F0.cell (p:=(zB vb (i*12))) t.2.2.2.1 (by simp)).trans K.get.1;have M:=(F0.cell (p:=(zB vb (i*12+7))) t.2.2.2.1 (by simp)).trans K.get.2.2.2.2.2.2.2.1;have P:=h.pP.1;have d:=h.num o h.pP.1;have kd:=K.kd;have KS:=K.sum;have KP:=K.pl;have H:=h.pP.2.2.2.1;have r:=h.pP.2.2.1;rw[kd]at k0;clear kd K;have u:D.getD i .zero=a:=by simp[List.getD,o]
 by_cases k:i=0
 .have:=d.1 k;subst this;subst k
  clear d;delta zF;go_in
  go_wp2;go_ret;exact⟨_,[],rfl,PL.nil _,by simp,by simp[parts],by simp,by simp,zK⟩
 have N:=abb k;have J:a≠.zero:=λe=>k (d.2 e)
 clear d;have I:(i:Int)<D.length:=by omega
 by_cases q:∃l,a=.sum l
 .obtain⟨l,rfl⟩:=q
  simp only[qW]at k0;have b:=KS l rfl;have HR:l.length=L.length/\∀p,p∈l↔p∈L.map λj=>D.getD j .zero:=by
   have ht:=Fe H b.1;refine⟨?_,λp=>?_⟩
   .rw[b.2.1,ags ht (Pz r b.2.2 b.1)];simp
   rw[b.2.1];exact iA ht
  delta zF;go_in
  go_wp2;go_ret;refine⟨_,L,rfl,KP.aC F0 (qV.nil _),b.1,by simpa[parts] using HR.2,by simp[parts,HR.1],?_,zK⟩;intro E x n cp e;obtain⟨O,c3,C,A⟩:=KP.1;obtain⟨g,off,B,z,_⟩:=A 0 (a1O.2 E);rw[C,B]at e;simp at e;obtain⟨rfl,_⟩:=e;exact .inl z
 have y:qW a≠4:=by cases a<;>simp_all[qW]
 have F:((qW a:Int)==4)=false:=by rw[a0j];omega
 have s:parts a=[a]:=by cases a<;>simp_all[parts]
 delta zF;go_in
 go_wp2;go_ret;refine⟨_,[i],rfl,?_,by simpa using G,?_,by simp[s],λ_ x n cp e=>by simp at e;obtain⟨rfl,_⟩:=e;exact .inr rfl,zJ⟩
 .exact PL.alG (base:=w.heap.size) (World.ownsRow_lit _ #[zI i] 1 (a0b _) (by unfold maxLen;omega) (by simp)) (by simp)
 intro p;rw[s];simp only[a0E,a1V,u]
def alH(A:NF):Prop:=∀(base:Nat) (w:World) (fb vb:Nat) (D:List NF) (ak c:Nat) (U:List NF) (Z:LN) (B:NF) (i j:Nat),ST base w fb vb D ak c U Z->D[i]?=some A->D[j]?=some B->(∀f∈uZ A B,f∈U) ->
    zF 186 #[zP fb,zI i,zI j] w (RQ base w fb vb D ak c U Z (aG A B))
def auU(h:∀x y,a≠.pair x y):((qW a:Int)==3)=false:=by
 rw[a0j];cases a<;>simp[qW]
 exact h _ _ rfl
def JD(A:NF):alH A:=by
 refine NF.ind (P:=alH) ?_ A;intro A ih base w fb vb D ak c U Z B i j b E C HU;obtain⟨f,L,cap,K⟩:=b.look E;obtain⟨f2,L2,aU,K2⟩:=b.look C;have aL:=K.lt;have M:=K2.lt;have hlen:=b.len;have t0:=K.tab;obtain⟨c0,c1,c2,c3,c4,c5,c6,c7,c8,c9,c10,c11⟩:=K.get;have S:=K2.get.2.2.2.2.2.2.2.2.1;have Xo:=b.pP.1;have HD1:=b.pP.2.1;have t:=b.num E b.pP.1;have n1:=b.num E b.pP.2.1;have q:=b.num C b.pP.1;have n:=b.num C b.pP.2.1;have kd:=K.kd;have te:=K.te;have G:=K2.te;obtain⟨av,m,I,_⟩:=K.pl.1;rw[I]at c7;clear I;have KP:=K.pair;have wA:=b.pP.2.2.2.1 A (a0B E);have wB:=b.pP.2.2.2.1 B (a0B C);have Be:=b.pP.2.2.2.2.2;rw[kd]at c0;rw[te]at c8;rw[G]at S;clear kd te G K K2;have aag:(i:Int)<D.length:=by omega
 have ng:(j:Int)<D.length:=by omega
 by_cases X:i=0
 .have:=t.1 X;subst this;subst X
  clear t n1 q n;delta zF;go_in
  go_wp2;go_ret;exact RQ.here (r:=0) b zK Xo
 have b0:=abb X;have m0:A≠.zero:=λe=>X (t.2 e)
 by_cases W:j=0
 .have:=q.1 W;subst this;subst W
  clear t n1 q n;delta zF;go_in
  go_wp2;go_ret;exact RQ.here (r:=0) b zK (by rw[fJ];exact Xo)
 have b1:=abb W;have p0:B≠.zero:=λe=>W (q.2 e)
 by_cases V:i=1
 .have:=n1.1 V;subst this;subst V
  clear t n1 q n;delta zF;go_in
  go_wp2;go_ret;exact RQ.here (r:=j) b zK C
 have b2:=afs V;have m1:A≠.one:=λe=>V (n1.2 e)
 by_cases T:j=1
 .have:=n.1 T;subst this;subst T
  clear t n1 q n;delta zF;go_in
  go_wp2;go_ret;exact RQ.here (r:=i) b zK (by rw[bF];exact E)
 have b3:=afs T;have p1:B≠.one:=λe=>T (n.2 e)
 clear t n1 q n;have Y:aP B=true:=by cases B<;>simp_all[aP]
 by_cases hp:∃x y,A=.pair x y
 .obtain⟨x,y,rfl⟩:=hp
  have u:=KP x y rfl;simp only[qW]at c0;delta zF;go_in
  go_wp2_with fail
  have F1:aB [] w (w.alloc (Obj.cells #[zI 3,.int .u64 (wd f.s 0),.int .u64 (wd f.s 1),.int .u64 (wd f.s 2),.int .u64 (wd f.s 3),zI f.fi,zI f.se,.slice av L.length m,.bool (dK (.pair x y)),zI f.lk,zI f.ak,zI f.lf] 272)):=zJ;have kv:=bD w (Obj.cells #[zI 3,.int .u64 (wd f.s 0),.int .u64 (wd f.s 1),.int .u64 (wd f.s 2),.int .u64 (wd f.s 3),zI f.fi,zI f.se,.slice av L.length m,.bool (dK (.pair x y)),zI f.lk,zI f.ak,zI f.lf] 272);have z1:(w.alloc (Obj.cells #[zI 3,.int .u64 (wd f.s 0),.int .u64 (wd f.s 1),.int .u64 (wd f.s 2),.int .u64 (wd f.s 3),zI f.fi,zI f.se,.slice av L.length m,.bool (dK (.pair x y)),zI f.lk,zI f.ak,zI f.lf] 272)).heap.size=w.heap.size+1:=by simp
  generalize w.alloc (Obj.cells #[zI 3,.int .u64 (wd f.s 0),.int .u64 (wd f.s 1),.int .u64 (wd f.s 2),.int .u64 (wd f.s 3),zI f.fi,zI f.se,.slice av L.length m,.bool (dK (.pair x y)),zI f.lk,zI f.ak,zI f.lf] 272)=w1 at F1 kv z1 |-;have l:=HU;rw[E5 Y]at l;refine(ih y (by simp[NF.size];omega) base w1 fb vb D ak c U Z B f.se j (b.aY F1) u.2 C (λg hg=>l g (by simp[hg]))).mono ?_;rintro e w2 ⟨Dp,R,r1,rfl,dY,lz,hq⟩;have q5:zC w2 w.heap.size 5 (zI f.fi):=by have:=hq.block (k:=w.heap.size) (by omega) (by omega) (by omega);rw[kv]at this;simp[World.cell?,this]
  have C2:=(ih x (by simp[NF.size];omega) base w2 fb Dp (D++R) ak c U Z (aG y B) f.fi r1 dY (rU u.1) lz (λg hg=>l g (by simp[hg])));have Q2:=FQ.aba F1 hq;have HT:aG (.pair x y) B=aG x (aG y B):=dA Y;clear l dY lz hq kv z1 F1 u c0 c1 c2 c3 c4 c5 c6 c7 c8 c9 c10 c11 t0 S ih;go_wp2_with fail
  refine C2.mono ?_;rintro e w3 d;have v:=RQ.later Q2 d;obtain⟨_,_,r3,rfl,_⟩:=d;go_wp2;go_ret;rw[HT];exact v
 have k3:=auU (a:=A) (λx y e=>hp ⟨x,y,e⟩);have N:dP A=true:=by cases A<;>simp_all[dP]
 have HT:aG A B=.pair A B:=aX N Y;have EF:(NF.pair A B)∈U:=HU _ (by rw[nA N Y];simp);have z:∀w',aB [] w w'->zF 183 #[zP fb,.agg #[zI 3,.int .u64 0,.int .u64 0,.int .u64 0,.int .u64 0,zI i,zI j,zN,.bool (dK A&&dK B),zI 0,zI 0,zI 0]] w' (RQ base w' fb vb D ak c U Z (.pair A B)):=by intro w' F;have H:=WC.then wA wB;rw[HT]at H;have:=Lc base w' fb vb D ak c U Z ⟨3,0,i,j,zN,dK A&&dK B,0,0,0⟩ [] (.pair A B) (b.aY F) (PL.nil _) (a2S 256) (.inr (.inl ⟨rfl,rfl,rfl,aL,M,A,B,E,C,rfl⟩)) H EF rfl rfl (aft Z);rw[afu 3 i j _ _ 3 i j rfl rfl rfl]at this;exact this
 clear EF HU;rw[HT];have F0:∀o,aB [] w (w.alloc o):=λo=>zK.alloc o
 have hv1:=Be.2.2.2.1;have hv0:fb<w.heap.size:=by omega
 have t0':∀o,zC (w.alloc o) fb 0 (zS vb D.length cap):=λo=>(((aB.refl [] w).alloc o).cell (p:=(zA fb)) hv0 (by simp)).trans t0
 have O:∀o,zC (w.alloc o) vb (j*12+8) (.bool (dK B)):=λo=>(((aB.refl [] w).alloc o).cell (p:=(zB vb (j*12+8))) hv1 (by simp)).trans S
 cases J:dK A with
 | true =>
   rw[J]at c8 z;cases h:dK B with
   | true =>
     rw[h]at S z;simp only[h]at O;delta zF;go_in
     go_wp2_with (go_at_call 183;refine(z _ (F0 _)).mono ?_;rintro e w3 d;have v:=RQ.first (F0 _) d;obtain⟨_,_,r3,rfl,_⟩:=d)
     go_ret;exact v
   | false =>
     rw[h]at S z;simp only[h]at O;delta zF;go_in
     go_wp2_with (go_at_call 183;refine(z _ (F0 _)).mono ?_;rintro e w3 d;have v:=RQ.first (F0 _) d;obtain⟨_,_,r3,rfl,_⟩:=d)
     go_ret;exact v
 | false =>
   rw[J]at c8 z;delta zF;go_in
   go_wp2_with (go_at_call 183;refine(z _ (F0 _)).mono ?_;rintro e w3 d;have v:=RQ.first (F0 _) d;obtain⟨_,_,r3,rfl,_⟩:=d)
   go_ret;exact v
theorem Cz {j:Nat}(h:D[j]?=some d):D.getD j .zero=d:=by simp[List.getD,h]
def any_take_succ(R:LN)(g:Nat->Bool)(j:Nat)(h:j<R.length):(R.take (j+1)).any g=((R.take j).any g||g R[j]):=by
 have e:R.take (j+1)=R.take j++[R[j]]:=by rw[a1c,a0a h];rfl
 rw[e,List.any_append];simp only[a3m,List.any_nil,Bool.or_false]
def ahE(base:Nat)(w:World)(fb vb:Nat)(D:List NF)(ak c:Nat)(U:List NF)(Z:LN)(v:Value)(L:LN)(l:List NF)(h:ST base w fb vb D ak c U Z)(W:NL .i64 w v L)(hL:L.length<=9500000000000)
 (N:∀j∈L,j<D.length) (ht:JY l) (E:∀p,p∈l↔p∈L.map λj=>D.getD j .zero) (C:WC (mkS (gU l))) (hU:2<=(gU l).length->mkS (gU l)∈U) :
 zF 197 #[zP fb,v] w (RQ base w fb vb D ak c U Z (mkS (gU l))):=by
 have hlen:=h.len;have R1:=afr v L w W hL;have Xo:=h.pP.1;have ND:=h.pP.2.2.1;have A:=h.pP.2.2.2.1;have RS:∀R,RO R L->gU (R.map λj=>D.getD j .zero)=gU l/\(gU l).length=R.length:=λR t=>arP ND A t N ht E
 have HW:=C;have HZ:=h.zs;obtain⟨av,cv,rfl,_⟩:=W;clear C ht E;delta zF;go_in
 go_wp2_with fail
 refine R1.mono ?_;rintro e w1 ⟨v',R,rfl,d,s,F1⟩;have su:=RS R s;have o:∀j∈R,j<D.length:=λj G=>N j ((s.2 j).1 G)
 have i:R.length<=D.length:=by
  rw[<-su.2,<-su.1];exact qP (Cb (xA _)) λx hx=>by obtain⟨j,G,rfl⟩:=a0q.1 (kK hx);exact MG (o j G)
 have H:=h.aY F1;obtain⟨T,P,rfl⟩:=aW d;obtain⟨a2,c2,e2,q⟩:=xV d;simp only[Value.slice.injEq,a1W]at e2;obtain⟨rfl,rfl⟩:=e2;clear R1 RS h N
 match R,i,su,s,o,d,q with
 | [],i,su,s,o,d,q =>
   have e:mkS (gU l)=.zero:=by rw[<-su.1];rfl
   clear q d;go_wp2;go_ret;rw[e];exact RQ.first F1 (RQ.here (r:=0) H zK Xo)
 | [r],i,su,s,o,d,q =>
   have e:mkS (gU l)=D.getD r .zero:=by rw[<-su.1];rfl
   have hr:r<D.length:=o r (by simp);obtain⟨g,off,rfl,hg,X⟩:=q 0 (by simp);simp only[List.getElem_cons_zero,a1Q]at X;clear q d;go_wp2;go_ret;rw[e];exact RQ.first F1 (RQ.here (r:=r) H zK (getD_some hr))
 | r::r'::R',i,su,s,o,d,q =>
   obtain⟨R,t⟩:∃R,R=r::r'::R':=⟨_,rfl⟩;have O:2<=R.length:=by rw[t];simp
   rw[<-t]at i su s o d q;have z:(r::r'::R').length=R.length:=by rw[t]
   rw[z];clear t z;have b0:=abb (a:=R.length) (by omega);have b1:=afs (a:=R.length) (by omega);go_wp2_with fail
   have V:∀w',aB [] w1 w'->zF 183 #[zP fb,.agg #[zI 4,.int .u64 0,.int .u64 0,.int .u64 0,.int .u64 0,zI 0,zI 0,.slice T R.length P,.bool ((R.take R.length).any λj=>dK (D.getD j .zero)),zI 0,zI 0,zI 0]] w' (RQ base w' fb vb D ak c U Z (mkS (gU l))):=by
    intro w' F;have M:mkS (gU l)=.sum (gU (R.map λj=>D.getD j .zero)):=by rw[su.1];exact amv (by rw[su.2];exact O)
    have EF:=hU (by rw[su.2];exact O);have y:=HW;rw[M]at EF y |-;have lV:PL w' (.slice T R.length P) R:=(PL.alG d (by omega)).aC F (qV.nil _);have I:((R.take R.length).any λj=>dK (D.getD j .zero))=dK (.sum (gU (R.map λj=>D.getD j .zero))):=by
     rw[a2h];show _=agc _;rw[Fh,any_congr (a:=gU (R.map λj=>D.getD j .zero)) (b:=R.map λj=>D.getD j .zero) (λp=>iA (Fe A o)),List.any_map]
     rfl
    have:=Lc base w' fb vb D ak c U Z ⟨4,0,0,0,.slice T R.length P,(R.take R.length).any λj=>dK (D.getD j .zero),0,0,0⟩ R _ (H.aY F) lV (a2S 256) (.inr (.inr (.inl ⟨rfl,rfl,rfl,rfl,s.1,o,rfl⟩))) y EF I rfl (λx n cc e E=>by simp at e;obtain⟨rfl,_⟩:=e;have h1:=(d.lt _ rfl).1;have O:=HZ _ E;omega);rw[afu 4 0 0 _ _ 4 0 0 rfl rfl rfl]at this;exact this
   go_loopg [6,22] R.length (λk vt vi wr=>∃j:Nat,j+k=R.length/\vi=zI j/\vt=.bool ((R.take j).any λj=>dK (D.getD j .zero))/\wr=w1)
   case atStart=>exact⟨0,by omega,rfl,by simp,rfl⟩
   case round =>
    obtain⟨j,G,rfl,rfl,C⟩:=hrel;subst C
    by_cases S:j<R.length
    .obtain⟨g,off,rfl,hg,X⟩:=q j S
     have J:=o R[j] (a0u S);obtain⟨f,L2,cap,K⟩:=H.look (getD_some J);have t0:=K.tab;have k8:=K.get.2.2.2.2.2.2.2.2.1;have I:=K.te;rw[I]at k8;have u:=any_take_succ R (λj=>dK (D.getD j .zero)) j S;clear K I;generalize R[j]=m at *;clear V;cases hb:(R.take j).any λj=>dK (D.getD j .zero)
     rw[hb]at u;have B:((R.take (j+1)).any λj=>dK (D.getD j .zero))=dK (D.getD m .zero):=by have:=u;rw[a3l]at this;exact this
     clear u hb;generalize dK (D.getD m .zero)=bm at *
     rotate_left
     rw[hb]at u;have B:((R.take (j+1)).any λj=>dK (D.getD j .zero))=true:=by have:=u;rw[Bool.true_or]at this;exact this
     clear u hb
     all_goals
      go_wp2;go_roundg (gk-1)
      case measure=>omega
      case rel=>exact⟨j+1,by omega,by go_num,by rw[B],rfl⟩
    have mK:j=R.length:=by omega
    subst mK;have N2:=V wr zK;clear V;generalize ((R.take R.length).any λj=>dK (D.getD j .zero))=tb at *;go_wp2_with (go_at_call 183;refine N2.mono ?_;rintro e w3 Y;have R3:=RQ.first F1 Y;obtain⟨_,_,r3,rfl,_⟩:=Y)
    go_ret;exact R3
def JL(D:List NF)(P:LN)(s:Nat)(X:List NF):Prop :=
 (∀q∈P,q<D.length)/\(∀p,p∈P.map (λj=>D.getD j .zero)↔p∈X/\dF p=false)/\s=bf X/\P.length<=X.length
theorem JL.nil(D:List NF):JL D [] 0 []:=⟨by simp,by simp,rfl,by simp⟩
theorem Xe(X:List NF)(d:NF):bf (X++[d])=bf X ||| bits d:=by rw[zh,tH];simp[bf]
theorem JL.set(h:JL D P s X):JL D P (s ||| t) (X++[.set t]):=by
 refine⟨h.1,λp=>?_,?_,?_⟩
 .rw[h.2.1 p]
  constructor
  .grind
  grind [dF]
 .rw[Xe,<-h.2.2.1];rfl
 have:=h.2.2.2;simp;omega
theorem JL.add(h:JL D P s X)(hq:D[q]?=some d)(hd:dF d=false):JL D (P++[q]) s (X++[d]):=by
 have a:=Cz hq;refine⟨?_,λp=>?_,?_,?_⟩
 .intro j b
  rcases a0e.1 b with e|e
  .exact h.1 j e
  grind
 .rw[a0P,a0e,h.2.1 p]
  simp only[a0E,a1V,a0w,a0e,a]
  constructor
  .grind
  grind
 .rw[Xe,<-h.2.2.1,UI hd];simp
 have:=h.2.2.2;simp;omega
def JL.congr{Y:List NF}(h:JL D P s X)(b:∀p,p∈X↔p∈Y)(c:X.length<=Y.length):JL D P s Y:=by
 refine⟨h.1,λp=>by rw[h.2.1 p,b p],?_,a0h h.2.2.2 c⟩;rw[h.2.2.1];refine GY λi=>?_
 rw[a0T,a1s,a1s];exact⟨λ⟨x,a,e⟩=>⟨x,(b x).1 a,e⟩,λ⟨x,a,e⟩=>⟨x,(b x).2 a,e⟩⟩
def JL.core(h:JL D P (bf X) X)(b:bf X=0):∀p,p∈bN X↔p∈P.map λj=>D.getD j .zero:=by
 intro p;rw[h.2.1 p,jl]
 constructor
 .grind
 intro a;exact .inl a
theorem abf(h:∀q∈P,q<D.length):(P.map λj=>(D++R).getD j .zero)=P.map λj=>D.getD j .zero:=by grind [List.map_congr_left,List.getD,List.getElem?_append_left]
def JL.coreS(h:JL D P (bf X) X)(b:bf X≠0)(a:(D++R)[r]?=some (.set (bf X))):∀p,p∈bN X↔p∈(P++[r]).map λj=>(D++R).getD j .zero:=by
 intro p;rw[a0P,a0e,abf h.1,h.2.1 p,jl];simp only[a0E,a1V,a0w,Cz a]
 constructor
 .grind
 grind
def BX(w:World)(bb s:Nat):Prop:=w.heap[bb]?=some (.cells #[.int .u64 (wd s 0),.int .u64 (wd s 1),.int .u64 (wd s 2),.int .u64 (wd s 3)] 261 (0,0))
theorem BX.lt(h:BX w bb s):bb<w.heap.size:=(a0c.1 h).1
theorem BX.aC(h:BX w bb s)(F:aB S w w')(a:bb∉S):BX w' bb s:=(F.block bb h.lt a).trans h
theorem BX.fz(h:BX w bb s)(o:Nat):w.frozen? (zB bb o)=false:=by unfold BX at h;simp[World.frozen?,h]
theorem BX.get(h:BX w bb s):w.cell? ⟨bb,0,none⟩=some (.int .u64 (wd s 0))/\w.cell? ⟨bb,1,none⟩=some (.int .u64 (wd s 1))/\w.cell? ⟨bb,2,none⟩=some (.int .u64 (wd s 2))/\w.cell? ⟨bb,3,none⟩=some (.int .u64 (wd s 3)):=by unfold BX at h;simp only[World.cell?,h];exact⟨rfl,rfl,rfl,rfl⟩
theorem BX.set(h:BX w bb s)(t:Nat):BX ((((w.setCell (zA bb) (.int .u64 (wd t 0))).setCell (zB bb 1) (.int .u64 (wd t 1))).setCell (zB bb 2) (.int .u64 (wd t 2))).setCell (zB bb 3) (.int .u64 (wd t 3))) bb t:=by
 unfold BX at h |-;simp only[World.setCell,a0v,h,a0G,a1x]
 rfl
structure OQ(w wr:World)(bb:Nat)(D:List NF)(vp:Value)(P:LN)(s:Nat)(X:List NF):Prop where
 il:IL w.heap.size wr vp P
 nb:vp.ownBlock≠some bb
 bx:BX wr bb s
 os:JL D P s X
 fr:aB [] w wr
 bw:w.heap.size<=bb
 sl:s<2 ^ 256
theorem OQ.aY{wr:World}(h:OQ w wr bb D vp P s X)(f:aB [] wr w'):OQ w w' bb D vp P s X :=
 ⟨fG h.il f (by simp),h.nb,h.bx.aC f (by simp),h.os,h.fr.trans f,h.bw,h.sl⟩
def BX.wu(h:BX w bb s):qV w [bb]:=by intro k a cur fz;simp at a;subst a;rw[h];simp
def PL.apY(h:PL w v L)(f:aB S w w')(d:∀a n c,v=.slice (some a) n c->a.block∉S):PL w' v L:=by refine⟨h.1.aC f d,?_,h.2.2⟩;intro a n c e;obtain⟨cur,fz,b⟩:=h.2.1 a n c e;exact⟨cur,fz,(f.block _ (a0c.1 b).1 (d a n c e)).trans b⟩
def OQ.joined{wr:World}(h:OQ w wr bb D vp P s X)(ht:t<2 ^ 256)(f:aB [bb] wr w')(hb:BX w' bb (s ||| t)):OQ w w' bb D vp P (s ||| t) (X++[.set t]):=by have b:=h.bw;refine⟨mO h.il f (λk a=>by simp;intro e;subst e;exact h.nb a),h.nb,hb,h.os.set,?_,h.bw,Nat.or_lt_two_pow h.sl ht⟩;exact⟨f.os.trans h.fr.os,f.tape.trans h.fr.tape,f.output.trans h.fr.output,a0h h.fr.size f.size,λk a _=>(f.block k (a0t a h.fr.size) (by simp;omega)).trans (h.fr.block k a (by simp))⟩
theorem OQ.add{wr:World} {o:Obj}(h:OQ w wr bb D vp P s X)(hq:D[q]?=some d)(hd:dF d=false)
 (f:IL w.heap.size w' (zS g (P.length+1) cap) (P++[q])) (b:(wr.alloc o).grownBy w' vp.ownBlock) (j:vp.ownBlock=some g\/g=(wr.alloc o).heap.size):OQ w w' bb D (zS g (P.length+1) cap) (P++[q]) s (X++[d]):=by
 have l:=h.bw;have m:=h.bx.lt;have F1:=(aB.refl [] wr).alloc o;have F2:aB vp.ownBlock.toList (wr.alloc o) w':=aB.fo b;have c:=h.aY F1;refine⟨f,?_,c.bx.aC F2 (λa=>by rw[a0H]at a;exact h.nb a),h.os.add hq hd,?_,h.bw,h.sl⟩
 .simp only[Value.ownBlock,ne_eq,Option.some.injEq]
  intro e;subst e;rcases j with e|e
  .exact h.nb e
  simp at e;omega
 exact c.fr.grown b (λk i=>.inr (h.il.lt k i).1)
def TE.apZ {base:Nat} {E:List (FV × LN)} {B:LN}(h:TE base w fb vb E B ak)(f:aB S w w')(i:fb∉S)(g:vb∉S)(d:∀e∈E,∀x n c,e.1.vp=.slice (some x) n c->x.block∉S):TE base w' fb vb E B ak:=by obtain⟨cap,ht,b⟩:=h.row;exact⟨⟨cap,ht.aC f i,mO b f (λk a=>by simp[Value.ownBlock]at a;subst a;exact g)⟩,λe he=>(h.pl e he).apY f (d e he),h.st,h.fb,a0h h.sz f.size⟩
def PL.blk(h:PL w v L) {x:Addr}{c:Nat}(e:v=.slice (some x) n c):x.block<w.heap.size:=by obtain⟨cur,fz,a⟩:=h.2.1 x n c e;exact(a0c.1 a).1
def aB.asw {a b:World}(h:aB S a.drew b):aB S a b:=⟨h.os,h.tape,h.output,h.size,h.block⟩
def ap0{a sz:Nat}(h:vp.ownBlock≠some g)(b:vp.ownBlock=some a\/a=sz)(c:g<sz):Value.ownBlock (zS a n cap)≠some g:=by
 intro e;simp[Value.ownBlock]at e;subst e;rcases b with e|e
 .exact h e
 omega
def akc(ls:List NF)(k:Nat):((ls.take k).flatMap parts).length<=(ls.flatMap parts).length:=by
 have e:ls.flatMap parts=(ls.take k).flatMap parts++(ls.drop k).flatMap parts:=by rw[<-List.flatMap_append,a1C]
 rw[e];simp
def Ld(M:LN)(f:Nat->NF)(j:Nat)(h:j<M.length)(X:List NF):X++(M.take (j+1)).map f=(X++(M.take j).map f)++[f M[j]]:=by
 have e:M.take (j+1)=M.take j++[M[j]]:=by rw[a1c,a0a h];rfl
 rw[e,a0P,a0M];rfl
def auV(h:dF a=false):((qW a:Int)==2)=false:=by rw[a0j];cases a<;>simp_all[qW,dF]
def afx(base:Nat)(w:World)(fb vb:Nat)(D:List NF)(ak c:Nat)(U:List NF)(Z:LN)(v:Value)(I:LN)(ls:List NF)(h:ST base w fb vb D ak c U Z)(hv:NL .i64 w v I)
 (hI:∀j∈I,j<D.length) (y:ls=I.map λj=>D.getD j .zero) (hU:Ff U ls) :
 zF 184 #[zP fb,v] w (RQ base w fb vb D ak c U Z (bQ ls)):=by
 obtain⟨ai,ci,rfl,hN⟩:=hv;have HN:=aj hN;have HS:=aj h;have HI:=aj hI;have HLS:=aj y;have HU:=aj hU;have hll:ls.length=I.length:=by rw[y];simp
 have hIl:I.length<=9000000000000:=by have:=hU.2.2.2;omega
 have hlen:=h.len;have Pj:=aj hll;clear hN hI y hU hll h;delta zF;go_in
 go_wp2_with fail
 go_loopg [5,16] I.length (λk vp vi wr=>∃(j:Nat) (P:LN) (s:Nat),j+k=I.length/\vi=zI j/\OQ w wr (w.heap.size+1) D vp P s ((ls.take j).flatMap parts))
 case atStart =>
  have F2:aB [] w ((w.alloc (Obj.cells #[] 3)).alloc (Obj.cells #[.int .u64 0,.int .u64 0,.int .u64 0,.int .u64 0] 261)):=((aB.refl _ _).alloc _).alloc _;refine⟨0,[],0,by omega,rfl,?_,by simp[Value.ownBlock],?_,JL.nil D,F2,by omega,a2S 256⟩
  .have:=World.ownsRow_lit (w:=w) (base:=w.heap.size) (e:=3) (size:=1) #[] 0 (a0b _) (by unfold maxLen;omega) (by simp)
   exact World.ownsRow.alloc this _
  have e:w.heap.size+1=(w.alloc (Obj.cells #[] 3)).heap.size:=by simp
  unfold BX;rw[e];have:=bD (w.alloc (Obj.cells #[] 3)) (Obj.cells #[.int .u64 0,.int .u64 0,.int .u64 0,.int .u64 0] 261);simpa[wd] using this
 case round =>
  obtain⟨j,P,s,hj,rfl,b⟩:=hrel;obtain⟨N,Vg⟩:∃N,N=wr:=⟨_,rfl⟩;subst Vg;obtain⟨go,iD⟩:∃go,go=gk:=⟨_,rfl⟩;subst iD;obtain⟨ap,m,rfl⟩:=aW b.il;have z:=aj b;have zo:=b.fr.size;have Nz:=b.bx.lt;clear b
  by_cases aL:j<I.length
  .obtain⟨g,off,rfl,hg,hc⟩:=HN.o j aL
   have oN:zC N g (off+j) (zI (I[j]:Nat)):=(z.o.fr.cell (p:=(zB g (off+j))) hg (by simp)).trans hc;have NG:=HI.o I[j] (a0u aL);have PO:=aj (afv base w N fb vb D ak c U Z _ I[j] HS.o z.o.fr (getD_some NG));have FL1:Z_ ((ls.take (j+1)).flatMap parts=(ls.take j).flatMap parts++parts (D.getD I[j] .zero)):=by
    show _=_;have e:ls.take (j+1)=ls.take j++[D.getD I[j] .zero]:=by
     rw[HLS.o,a1c];simp[aL]
    rw[e,List.flatMap_append];simp
   have hXL:((ls.take j).flatMap parts).length+(parts (D.getD I[j] .zero)).length<=9000000000000:=by
    have h1:=akc ls (j+1);rw[FL1.o,a0p]at h1;have:=HU.o.2.2.1;omega
   clear hc NG;generalize hIj:I[j]=i at *;generalize hDi:D.getD i .zero=a at *;clear hIj hDi;go_wp2_with fail
   refine(PO.o).mono ?_;rintro e w2 ⟨v2,M,rfl,lV,hM,nJ,hMl,ap1,aR⟩;obtain⟨a2,c2,rfl,_⟩:=lV.1;have BL2:Z_ (M≠[]->∀x n cp,(Value.slice a2 M.length c2)=.slice (some x) n cp->x.block<w.heap.size\/x.block=N.heap.size):=ap1;have OQ2:=aj (z.o.aY aR);have PL2:=aj lV;have HM:=aj hM;have HMM:=aj nJ;have z2:=aR.size;have jc:=z.o.il;have NE2:Z_ (∀x n cp,M≠[]->(Value.slice a2 M.length c2)=.slice (some x) n cp->Value.ownBlock (.slice ap P.length m)≠some x.block):=by
    intro x n cp bJ e e2;have h1:=jc.lt _ e2;rcases BL2.o bJ x n cp e with h2|h2<;>omega
   clear lV hM nJ ap1 aR jc PO z;go_wp2_with fail
   go_loopg [5,24] M.length (λk vp vi wr=>∃(l:Nat) (P:LN) (s:Nat),l+k=M.length/\vi=zI l/\OQ w wr (w.heap.size+1) D vp P s ((ls.take j).flatMap parts++(M.take l).map λj=>D.getD j .zero)/\PL wr (.slice a2 M.length c2) M/\Z_ (∀x n cp,M≠[]->(Value.slice a2 M.length c2)=.slice (some x) n cp->vp.ownBlock≠some x.block))
   case atStart=>exact⟨0,P,s,by omega,rfl,by simpa using OQ2.o,PL2,NE2⟩
   case round =>
    clear OQ2 PL2 NE2;obtain⟨l,W,s2,hj2,rfl,b,lV,NE⟩:=hrel;obtain⟨ap2,cp2,rfl⟩:=aW b.il;have O3:=aj b;have P3:=aj lV;have z3:=b.fr.size;have ayb:=b.bx.lt;have hP2:=b.os.2.2.2;have qj:=b.sl;have S3:=aj (HS.o.aY b.fr);have T:=b.bx.get;have g0:=b.bx.fz 0;have g1:=b.bx.fz 1;have g2:=b.bx.fz 2;have g3:=b.bx.fz 3;clear b lV
    by_cases ng:l<M.length
    .obtain⟨a3,c3,e3,h3⟩:=P3.o.1
     simp only[Value.slice.injEq,a1W]at e3;obtain⟨rfl,rfl⟩:=e3;obtain⟨g,off,rfl,iM,JK⟩:=h3 l ng;have bJ:M≠[]:=λe=>by rw[e]at ng;simp at ng
     have hmj:=HM.o M[l] (a0u ng);have hD3:=getD_some hmj;obtain⟨f,L2,cap,K⟩:=S3.o.look hD3;have t0:=K.tab;obtain⟨k0,k1,k2,k3,k4,_⟩:=K.get;have hkd:=K.kd;have KS:=aj K.set;have KT:=aj K.st;rw[hkd]at k0;have MT:=aj (Ld M (λj=>D.getD j .zero) l ng ((ls.take j).flatMap parts));have hX2:((ls.take j).flatMap parts++(M.take l).map λj=>D.getD j .zero).length<=9000000000000:=by
      simp only[a0p,a0y,a1k];omega
     clear h3 K hkd;have ayc:((M[l]:Nat):Int)<D.length:=by omega
     generalize M[l]=q at *;generalize D.getD q .zero=d at *;have HD3:=aj hD3;clear hD3;cases hsd:dF d
     .have JG:=auV hsd
      have MT2:Z_ (((ls.take j).flatMap parts++(M.take (l+1)).map λj=>D.getD j .zero)=((ls.take j).flatMap parts++(M.take l).map λj=>D.getD j .zero)++[d]):=MT.o;clear MT T k1 k2 k3 k4 g0 g1 g2 g3;go_wp2_with (first | (at_builtin;refine vG _ rfl _ _ rfl w.heap.size (.slice ap2 W.length cp2) W q wr.heap.size rfl (O3.o.il.alloc _) rfl (j6 _ _ _ _ rfl) (by omega) (by simp;omega) ?_;intro S V w5 aS H bq iE;have O5:=aj (O3.o.add HD3.o hsd aS H bq);have P5:=aj ((P3.o.aC ((aB.refl [] wr).alloc _) (qV.nil _)).apY (aB.fo H) (λa n cc e O=>by rw[a0H]at O;exact NE.o a n cc bJ e O));have N5:Z_ (∀x n cp,M≠[]->(Value.slice (some (zB g off)) M.length c2)=.slice (some x) n cp->Value.ownBlock (zS S (W.length+1) V)≠some x.block):=(λx n cc _ e=>by simp at e;obtain⟨rfl,_⟩:=e;exact ap0 (NE.o (zB g off) _ _ bJ rfl) bq (by simp;omega));clear aS H bq))
      go_roundg (gk-1)
      case measure=>omega
      case rel=>exact⟨l+1,W++[q],s2,by omega,by go_num,by rw[MT2.o];simpa using O5.o,P5,by simpa using N5⟩
     obtain⟨t,rfl⟩:∃t,d=.set t:=by cases d<;>simp[dF]at hsd;exact⟨_,rfl⟩
     have hft:f.s=t:=KS.o t rfl;have ht:=KT.o;rw[hft]at k1 k2 k3 k4 ht;clear hft;obtain⟨b0,b1,b2,T⟩:=T;have J:=aj (ahs s2 t wr.drew qj ht);simp only[bv]at J;have A:((qW (.set t):Nat):Int)=2:=rfl;rw[A]at k0;clear A;have MT2:Z_ (((ls.take j).flatMap parts++(M.take (l+1)).map λj=>D.getD j .zero)=((ls.take j).flatMap parts++(M.take l).map λj=>D.getD j .zero)++[.set t]):=MT.o;clear MT;go_wp2_with fail
     go_region_with (go_at_call 196;refine(J.o).mono ?_;rintro e w4 ⟨rfl,nL⟩;have B4:BX w4 (w.heap.size+1) s2:=BX.aC (show BX wr.drew (w.heap.size+1) s2 from O3.o.bx) nL (by simp);obtain⟨d0,d1,d2,d3⟩:=B4.get;have e0:=B4.fz 0;have e1:=B4.fz 1;have e2:=B4.fz 2;have e3:=B4.fz 3;have B5:=aj (B4.set (s2 ||| t));have F4:=aj nL;clear nL B4)
     all_goals
      have F5:Z_ (aB [w.heap.size+1] wr ((((w4.setCell (zA (w.heap.size+1)) (.int .u64 (wd (s2 ||| t) 0))).setCell (zB (w.heap.size+1) 1) (.int .u64 (wd (s2 ||| t) 1))).setCell (zB (w.heap.size+1) 2) (.int .u64 (wd (s2 ||| t) 2))).setCell (zB (w.heap.size+1) 3) (.int .u64 (wd (s2 ||| t) 3)))):=((((aB.asw F4).nil.setCell (.inl (by simp)) _).setCell (.inl (by simp)) _).setCell (.inl (by simp)) _).setCell (.inl (by simp)) _;have O5:=aj (O3.o.joined ht F5.o B5);have P5:=aj (P3.o.aC F5.o O3.o.bx.wu);clear b0 b1 b2 T d0 d1 d2 d3 e0 e1 e2 e3 g0 g1 g2 g3 k0 k1 k2 k3 k4 t0 J;go_wp2;go_roundg (gk-1)
      case measure=>omega
      case rel=>exact⟨l+1,W,s2 ||| t,by omega,by go_num,by rw[MT2.o];exact O5,P5,NE⟩
    have qI:l=M.length:=by omega
    have u:Z_ (OQ w wr (w.heap.size+1) D (.slice ap2 W.length cp2) W s2 ((ls.take (j+1)).flatMap parts)):=by
     have h:=O3.o;refine⟨h.il,h.nb,h.bx,?_,h.fr,h.bw,h.sl⟩;refine h.os.congr ?_ ?_
     .intro p
      rw[FL1.o,qI,a2h,a0e,a0e,<-HMM.o p]
     rw[FL1.o,qI,a2h,a0p,a0p,a0y];omega
    clear O3 P3 NE T g0 g1 g2 g3 qI;go_wp2;go_roundg (go-1)
    case measure=>omega
    case rel=>exact⟨j+1,W,s2,by omega,by go_num,u⟩
  have qI:j=I.length:=by omega
  have u:Z_ (OQ w N (w.heap.size+1) D (.slice ap P.length m) P s (ls.flatMap parts)):=by
   have h:=z.o;rw[qI,<-Pj.o,a2h]at h;exact h
  clear z qI;obtain⟨E,B,hE,hP,hUD,Gd,Gf⟩:=HS.o;have ayd:=HS.o.pP.2.2.2.2.2;have Y:s=bf (ls.flatMap parts):=u.o.os.2.2.1;have y:∀x∈ls,WC x:=by
   intro x hx;rw[HLS.o]at hx;obtain⟨k,A,rfl⟩:=a0q.1 hx;exact HS.o.pP.2.2.2.1 _ (MG (HI.o k A))
  have ap3:∀p∈ls.flatMap parts,wf p:=xC λx hx=>(y x hx).1
  have SE:=aj (apW base N fb vb E B D ak c U Z s (hE.aY u.o.fr) hP hUD Gd u.o.sl (λh0=>by rw[Y]at h0 |-;exact HU.o.1 h0) (Gf.mono u.o.fr.size));simp only[bv]at SE;obtain⟨b0,b1,b2,T⟩:=u.o.bx.get;have HT:Z_ (JY (bN (ls.flatMap parts))):=BU (J4 ap3);have HWC:Z_ (WC (mkS (gU (bN (ls.flatMap parts))))):=WC.bQ y;have HUO:Z_ (2<=(gU (bN (ls.flatMap parts))).length->mkS (gU (bN (ls.flatMap parts)))∈U):=HU.o.2.1;have hPl:P.length<=9000000000000:=a0h u.o.os.2.2.2 HU.o.2.2.1;have L:=aj Y;have HE:=aj hE;clear Y y ap3 hE;go_wp2_with fail
  refine(SE.o).mono ?_;rintro e X ⟨Dp,R,r,E',B',rfl,C,F,G,_,hr,hq,iG,xg⟩;have S3:Z_ (ST base X fb Dp (D++R) ak c U Z):=⟨E',B',C,F,G,Gd,xg⟩;have I3:Z_ (IL w.heap.size X (.slice ap P.length m) P):=mO u.o.il hq.fr (λk A=>by have:=(u.o.il.lt k A).1;simp;omega);have Q3:=aj (FQ.aba u.o.fr hq);have z3:=hq.fr.size;have HPD:Z_ (∀q∈P,q<(D++R).length):=λq hqq=>by have:=u.o.os.1 q hqq;simp;omega
  have OS4:Z_ (JL D P (bf (ls.flatMap parts)) (ls.flatMap parts)):=by have:=u.o.os;rw[L.o]at this;exact this
  have n0:=S3.o.num hr S3.o.pP.1
  by_cases h0:s=0
  .have hr0:r=0:=n0.2 (by simp[Ke,h0])
   subst hr0;have rC:bf (ls.flatMap parts)=0:=by rw[<-L.o];exact h0
   have SU:=aj (ahE base X fb Dp (D++R) ak c U Z (.slice ap P.length m) P (bN (ls.flatMap parts)) S3.o (xV I3) (by omega) HPD.o HT.o (λp=>by rw[abf OS4.o.1];exact OS4.o.core rC p) HWC.o HUO);clear hq hr iG C F G b0 b1 b2 T SE rC n0;go_wp2_with fail
   refine(SU.o).mono ?_;rintro e w6 fV;have R6:=aj (RQ.later Q3.o fV);obtain⟨_,_,r6,rfl,_⟩:=fV;go_wp2;go_ret;exact R6
  have hsn:Ke s=.set s:=by simp[Ke,h0]
  rw[hsn]at hr n0;have hr0:r≠0:=λe=>by have:=n0.1 e;simp at this
  have hbn:((r:Int) != 0)=true:=by rw[a1M];omega
  have rC:bf (ls.flatMap parts)≠0:=by rw[<-L.o];exact h0
  have hmv:=hq.mv;have hzo:=u.o.fr.size;have hrr:r<(D++R).length:=(a0d.1 hr).1;have hrj:(D++R)[r]?=some (.set (bf (ls.flatMap parts))):=by rw[<-L.o];exact hr
  have SU:Z_ (∀(w5:World) (S V:Nat) (o:Obj),IL w.heap.size w5 (zS S (P.length+1) V) (P++[r])->(X.alloc o).grownBy w5 (Value.ownBlock (.slice ap P.length m))->zF 197 #[zP fb,zS S (P.length+1) V] w5 (RQ base w fb vb D ak c U Z (mkS (gU (bN (ls.flatMap parts)))))):=by
   intro w5 S V o aS H;have hbk:∀k,k∈(Value.ownBlock (.slice ap P.length m)).toList->w.heap.size<=k/\k<N.heap.size:=λk A=>by
    rw[a0H]at A;exact u.o.il.lt k A
   have F5:aB (Value.ownBlock (.slice ap P.length m)).toList (X.alloc o) w5:=aB.fo H;have T4:=C.aY ((aB.refl [] X).alloc o);have T5:TE base w5 fb Dp E' B' ak:=by
    refine T4.apZ F5 (λO=>by have:=hbk _ O;omega) (λO=>by have:=hbk _ O;omega) ?_;intro e he x n cc e1 O;have A:=hbk _ O;rcases iG e he with h1|h1
    .have:=(HE.o.pl e h1).blk e1;omega
    rw[h1.1]at e1;simp at e1
   have Q5:FQ fb vb Dp w w5:=by
    refine⟨?_,Q3.o.mv⟩;exact(Q3.o.fr.alloc o).grown H (λk A=>.inr (u.o.il.lt k A).1)
   have hs:=ahE base w5 fb Dp (D++R) ak c U Z (zS S (P.length+1) V) (P++[r]) (bN (ls.flatMap parts)) ⟨E',B',T5,F,G,Gd,xg.mono (by have:=F5.size;simp at this;omega)⟩ (xV (by simpa[IL] using aS)) (by rw[a0p];simp only[a0r,a1e];omega) (λj hj=>by
    rcases a0e.1 hj with e|e
    .exact HPD.o j e
    simp at e;subst e;exact hrr) HT.o (OS4.o.coreS rC hrj) HWC.o HUO
   exact hs.mono λe w6 fV=>RQ.later Q5 fV
  clear hq hr iG C F G b0 b1 b2 T SE rC n0 hsn;go_wp2_with (first | (at_builtin;refine vG _ rfl _ _ rfl w.heap.size (.slice ap P.length m) P r X.heap.size rfl (I3.o.alloc _) rfl (j6 _ _ _ _ rfl) (by omega) (by simp;omega) ?_;intro S V w5 aS H bq iE;have C5:=aj (SU.o w5 S V _ aS H);clear aS H bq)|(go_at_call 197;refine(C5.o).mono ?_;rintro e w6 fV;have R6:=aj fV;obtain⟨_,_,r6,rfl,_⟩:=fV))
  go_ret;exact R6
def ST.more {base:Nat}{a:World}{c:Nat}(h:ST base w fb vb D ak c U Z)(f:aB [] w a)(g:∀k∈Z2,w.heap.size<=k/\k<a.heap.size):ST base a fb vb D ak c U (Z2++Z):=by
 obtain⟨E,B,j,o,m,l,i⟩:=h;refine⟨E,B,j.aY f,o,m,l,?_,?_⟩
 .intro k b
  rcases a0e.1 b with e|e
  .exact(g k e).2
  exact a0t (i.1 k e) f.size
 intro e he x n cc ex b;rcases a0e.1 b with d|d
 .have:=(j.pl e he).blk ex;have:=(g _ d).1;omega
 exact i.2 e he x n cc ex d
def ST.less {base:Nat}{c:Nat}(h:ST base w fb vb D ak c U (Z2++Z)):ST base w fb vb D ak c U Z:=by obtain⟨E,B,j,i,g,f,a⟩:=h;exact⟨E,B,j,i,g,f,λk d=>a.1 k (by simp[d]),λe he x n cc ex b=>a.2 e he x n cc ex (by simp[b])⟩
def ST.awG {base:Nat}{c:Nat}(h:ST base w fb vb D ak c U Z)(f:aB S w w')(l:fb∉S)(j:vb∉S)(i:∀k∈S,k∈Z):ST base w' fb vb D ak c U Z:=by obtain⟨E,B,k1,k2,d,b,a⟩:=h;exact⟨E,B,k1.apZ f l j (λe he x n cc ex g=>a.2 e he x n cc ex (i _ g)),k2,d,b,a.mono f.size⟩
def ST.akd {base:Nat}{c:Nat} {o:Obj}(h:ST base w fb vb D ak c U (v.ownBlock.toList++Z))(i:(w.alloc o).grownBy w5 v.ownBlock)(s:v.ownBlock=some g\/g=(w.alloc o).heap.size)(t:g<w5.heap.size)(m:fb∉v.ownBlock.toList)(l:vb∉v.ownBlock.toList):ST base w5 fb vb D ak c U ([g]++Z):=by
 have d:=(h.aY ((aB.refl [] w).alloc o)).awG (aB.fo i) m l (λk d=>by simp[d]);obtain⟨E,B,k1,k2,q,p,b⟩:=h;have hz:ZZ w E Z:=⟨λk d=>b.1 k (by simp[d]),λe he x n cc ex a=>b.2 e he x n cc ex (by simp[a])⟩;have r:w.heap.size<=w5.heap.size:=by have:=i.size;simp at this;omega
 refine⟨E,B,(k1.aY ((aB.refl [] w).alloc o)).apZ (aB.fo i) m l (λe he x n cc ex a=>b.2 e he x n cc ex (by simp[a])),k2,q,p,?_,?_⟩
 .intro k a
  rcases a0e.1 a with e|e
  .simp at e;omega
  exact a0t (hz.1 k e) r
 intro e he x n cc ex a;rcases a0e.1 a with f|f
 .simp at f
  have hb:=(k1.pl e he).blk ex;rcases s with j|j
  .exact b.2 e he x n cc ex (a0e.2 (.inl (by rw[a0H,j,f])))
  simp at j;omega
 exact hz.2 e he x n cc ex f
def RZ(base:Nat)(w:World)(fb vb:Nat)(D:List NF)(ak c:Nat)(U:List NF)(Z:LN)(y:NF)(r:Nat)(w':World):Prop :=
 ∃jS R,ST base w' fb jS (D++R) ak c U Z/\(D++R)[r]?=some y/\FQ fb vb jS w w'
def RZ.here {base:Nat}{c:Nat}(h:ST base w fb vb D ak c U Z)(f:aB [] w w')(a:D[r]?=some y):RZ base w fb vb D ak c U Z y r w' :=
 ⟨vb,[],by simpa using h.aY f,by simpa using a,FQ.keepR (FQ.refl _ _ _) f⟩
def RQ.rz {base:Nat}{c:Nat}(h:RQ base w fb vb D ak c U Z y e w'):∃r:Nat,e=zR (zI (r:Nat))/\RZ base w fb vb D ak c U Z y r w':=by obtain⟨jS,R,r,f,d,b,a⟩:=h;exact⟨r,f,jS,R,d,b,a⟩
def RZ.rq {base:Nat}{c:Nat}(h:RZ base w fb vb D ak c U Z y r w'):RQ base w fb vb D ak c U Z y (zR (zI (r:Nat))) w':=by obtain⟨jS,R,d,b,a⟩:=h;exact⟨jS,R,r,rfl,d,b,a⟩
theorem RZ.aY {base:Nat}{c:Nat}(h:RZ base w fb vb D ak c U Z y r w1)(f:aB [] w1 w2):RZ base w fb vb D ak c U Z y r w2:=by obtain⟨jS,R,d,b,a⟩:=h;exact⟨jS,R,d.aY f,b,FQ.keepR a f⟩
def RZ.call {base:Nat}{c:Nat}{b:NF} {fn:Nat} {args:Array Value}(h:RZ base w fb vb D ak c U Z y r w1)
 (g:∀(jS:Nat) (a:List NF),ST base w1 fb jS a ak c U Z->a[r]?=some y->(∀(i:Nat) (d:NF),D[i]?=some d->a[i]?=some d)->zF fn args w1 (RQ base w1 fb jS a ak c U Z b)):zF fn args w1 (RQ base w fb vb D ak c U Z b):=by
 obtain⟨jS,R,l,k,j⟩:=h;exact(g jS (D++R) l k (λi d hd=>rU hd)).mono λe w' f=>RQ.later j f
def Ob(base:Nat)(w:World)(fb vb:Nat)(D:List NF)(ak c:Nat)(U:List NF)(Z:LN)(a:NF)(i lo:Nat)(u:Option Nat)(h:ST base w fb vb D ak c U Z)(N:D[i]?=some a)(E:aj1 U a lo u)(jU:lo<=9)(T:∀n,u=some n->lo<=n/\n<=9) :
 zF 174 #[zP fb,zI i,zI lo,zI (Yt u)] w (RQ base w fb vb D ak c U Z (kD a lo u)):=by
 have J:=h.pP.2.1;rw[aj0];have I:∀(w1:World) (k r:Nat) (t:NF),RZ base w fb vb D ak c U Z t r w1->(∀f∈uZ a t,f∈U)->zF 186 #[zP fb,zI i,zI r] w1 (RQ base w fb vb D ak c U Z (aG a t)):=by intro w1 k r t h1 H;exact h1.call λjS L x B O=>JD a base w1 fb jS L ak c U Z t i r x (O _ _ N) B H
 cases u with
 | none =>
   have R:=anl base w fb vb D ak c U Z a i h N (E.1 rfl);have v:Yt none=-1:=rfl;rw[v];clear v;delta zF;go_in
   go_wp2_with fail
   refine R.mono ?_;rintro e w1 b;obtain⟨F,rfl,P⟩:=b.rz;have z:RZ base w fb vb D ak c U Z (eQ a 0 (yU a lo none)) F w1:=P;clear b P R;go_wp2_with fail
   go_loopg [9,10] 0 (λk g m wr=>g=zI F/\m=zI lo/\wr=w1)
   exact⟨rfl,rfl,rfl⟩
   .obtain⟨rfl,rfl,hw⟩:=hrel;subst hw;have uD:¬ ((lo:Int) < -1):=by omega
    go_wp2_with fail
    go_loopg [9,12] lo (λk g l wr=>∃(j r:Nat),j+k=lo/\l=zI j/\g=zI r/\RZ base w fb vb D ak c U Z (eQ a j (yU a lo none)) r wr)
    exact⟨0,F,by omega,rfl,rfl,z⟩
    .clear z;obtain⟨j,r,M,rfl,rfl,RR⟩:=hrel
     by_cases y:j<lo
     .have C:=I wr 0 r _ RR (E.2.2 j y)
      have A:eQ a (j+1) (yU a lo none)=aG a (eQ a j (yU a lo none)):=Qp _ _ _;clear RR;go_wp2_with fail
      refine C.mono ?_;rintro e w2 b;obtain⟨d,rfl,s⟩:=b.rz;clear b C;go_wp2;go_roundg (gk-1);exact⟨j+1,d,by omega,by go_num,rfl,by rw[A];exact s⟩;omega
     have p:j=lo:=by omega
     subst p;go_wp2;go_ret;exact RR.rq
 | some n =>
   obtain⟨KH,hn9⟩:=T n rfl;have v:Yt (some n)=(n:Int):=rfl;rw[v];clear v;have bJ:((n:Int) == -1)=false:=by rw[a0j];omega
   delta zF;go_in
   go_wp2_with fail
   go_loopg [9,10] (n-lo) (λk g m wr=>∃(j r:Nat),j+k=n-lo/\m=zI (lo+j:Nat)/\g=zI r/\RZ base w fb vb D ak c U Z (dG a j .one) r wr)
   exact⟨0,1,by omega,by simp,rfl,RZ.here h zK J⟩
   .obtain⟨j,r,M,rfl,rfl,RR⟩:=hrel
    by_cases y:j<n-lo
    .have G:=E.2.1 n rfl j y
     have C:=I wr 0 r _ RR G.1;have A:dG a (j+1) .one=iw (aG a (dG a j .one)) .one:=aaL _ _ _;have OK:=G.2;have X:((lo+j:Nat):Int)<n:=by omega
     clear RR G;go_wp2_with fail
     refine C.mono ?_;rintro e w2 b;obtain⟨d,rfl,s⟩:=b.rz;have S:∀o,o=Obj.cells #[zI d,zI 1] 3->zF 184 #[zP fb,zS w2.heap.size 2 2] (w2.alloc o) (RQ base w fb vb D ak c U Z (iw (aG a (dG a j .one)) .one)):=by
      rintro o rfl;have V:=s.aY ((aB.refl [] w2).alloc (Obj.cells #[zI d,zI 1] 3));refine V.call λjS L x B O=>?_
      have Y:IL w2.heap.size (w2.alloc (Obj.cells #[zI d,zI 1] 3)) (zS w2.heap.size 2 2) [d,1]:=World.ownsRow_lit _ #[zI d,zI 1] 2 (a0b _) (by unfold maxLen;omega) (by simp);refine afx base _ fb jS L ak c U Z (zS w2.heap.size 2 2) [d,1] [aG a (dG a j .one),.one] x (xV Y) ?_ ?_ OK
      .intro q hq
       simp at hq;rcases hq with rfl|rfl
       .exact(a0d.1 B).1
       exact(a0d.1 x.pP.2.1).1
      simp only[a0E,a1V,Cz B,Cz x.pP.2.1]
     clear b C;go_wp2_with fail
     refine(S _ rfl).mono ?_;rintro e w3 b;obtain⟨W,rfl,R3⟩:=b.rz;clear b S s;go_wp2;go_roundg (gk-1);exact⟨j+1,W,by omega,by go_num,rfl,by rw[A];exact R3⟩;omega
    have p:j=n-lo:=by omega
    have z:RZ base w fb vb D ak c U Z (eQ a 0 (yU a lo (some n))) r wr:=by have:=RR;rw[p]at this;exact this
    have X:¬ ((lo+j:Nat):Int)<n:=by omega
    clear RR p;go_wp2_with fail
    go_loopg [9,12] lo (λk g l wr=>∃(j r:Nat),j+k=lo/\l=zI j/\g=zI r/\RZ base w fb vb D ak c U Z (eQ a j (yU a lo (some n))) r wr)
    exact⟨0,r,by omega,rfl,rfl,z⟩
    .clear z;obtain⟨j,r,M,rfl,rfl,RR⟩:=hrel
     by_cases y:j<lo
     .have C:=I wr 0 r _ RR (E.2.2 j y)
      have A:eQ a (j+1) (yU a lo (some n))=aG a (eQ a j (yU a lo (some n))):=Qp _ _ _;clear RR;go_wp2_with fail
      refine C.mono ?_;rintro e w2 b;obtain⟨d,rfl,s⟩:=b.rz;clear b C;go_wp2;go_roundg (gk-1);exact⟨j+1,d,by omega,by go_num,rfl,by rw[A];exact s⟩;omega
     have p:j=lo:=by omega
     subst p;go_wp2;go_ret;exact RR.rq
def ST.ake {A:Nat->Prop} {base:Nat}{c:Nat}(h:ST base w fb vb D ak c U Z)(q:FQ fb vb jS w w'):pO A w w':=by
 obtain⟨E,B,b,_⟩:=h;obtain⟨cap,ht,_⟩:=b.row;obtain⟨_,_,cur,d⟩:=b.vbs;intro k _ ⟨g,fz,a⟩;have f:k<w.heap.size:=by rcases a with e|e<;>exact(a0c.1 e).1
 refine q.block f ?_ ?_
 .rintro rfl;rw[ht.1]at a;rcases a with e|e<;>simp at e
 rintro rfl;rw[d]at a;rcases a with e|e<;>simp at e
def NmC(x:RX):Prop:=∀(A:Nat->Prop) (base:Nat) (w:World) (fb vb:Nat) (D:List NF) (ak c:Nat) (U:List NF) (Z:LN) (p:Nat),ST base w fb vb D ak c U Z->XR A w p x->aaM U x->uO x->tL x ->
 zF 159 #[zP fb,zP p] w (RQ base w fb vb D ak c U Z (bn x))
def Oc(A:Nat->Prop)(base:Nat)(w:World)(fb vb:Nat)(D:List NF)(ak c:Nat)(U:List NF)(Z:LN)(v:Value)(b:LN)(l:List RX)(h:ST base w fb vb D ak c U Z)(j:XV A w v b)(q:mD A w b l)(L:zi U l)(J:Qq U l)(hd:mZ l)(ho:jm l)(G:∀y∈l,NmC y) :
 zF 175 #[zP fb,v] w (RQ base w fb vb D ak c U Z (sJ l)):=by
 obtain⟨a,cap,rfl⟩:=aW j.1;have hlen:=q.len;have S:=aj j;have HR:=aj q;have HN:=aj L;have u:=aj J;have HD:=aj hd;have HO:=aj ho;have HI:=aj G;have V:=aj h;have z:=aj h.pP.2.1;have uU:=j.2.2;have W:=aj hlen;clear j q L J hd ho G h hlen;delta zF;go_in
 go_wp2_with fail
 go_loopg [5,6] b.length (λk v5 v6 wr=>∃r:Nat,k<=b.length/\v6=zI ((k:Int)-1)/\v5=zI r/\RZ base w fb vb D ak c U Z (sJ (l.drop k)) r wr)
 case atStart=>exact⟨1,by omega,by go_num,rfl,RZ.here V.o (aB.refl _ _) (by rw[W.o,a2H];exact z)⟩
 case round =>
  obtain⟨r,hk,rfl,rfl,hz⟩:=hrel;have RR:=aj hz;clear hz;cases gk with
  | zero =>
    have R0:Z_ (RZ base w fb vb D ak c U Z (sJ l) r wr):=RR.o;clear RR;go_wp2;go_ret;exact R0.o.rq
  | succ m =>
    have n:m<l.length:=by have:=W.o;omega
    obtain⟨g,rfl⟩:∃g,a=some (zA g):=by
     rcases S.o.1.2 with⟨e,h⟩|⟨g,c,cur,e,_⟩
     .simp at e;omega
     simp at e;exact⟨g,e.1⟩
    obtain⟨Dp,R,N,d,hq⟩:=RR.o;have s:pO A w wr:=V.o.ake hq;obtain⟨p,I,H⟩:=(HR.o.aY s).get m n;have hc:=(S.o.aY s).cell I;have f:=a0u n;have C:=aj (HI.o _ f A base wr fb Dp (D++R) ak c U Z p N H (KQ.1 HN.o _ f) (JC HD.o f) (MX HO.o f));have HT:Z_ (sJ (l.drop m)=aG (bn l[m]) (sJ (l.drop (m+1)))):=by show _=_;rw[a0k n];rfl
    have CR:=aj (u.o.get m n);have x:=aj d;have HQ:=aj hq;have O:((m+1:Nat):Int)-1=m:=by omega
    rw[O];clear O s H f I N d hq RR;generalize bn l[m]=y at *;generalize sJ (l.drop (m+1))=t at *;have hmp:(m:Int)<b.length:=by omega
    go_wp2_with fail
    refine(C.o).mono ?_;rintro e w2 ⟨Aw,P,r2,rfl,X,F,E⟩;have T:=aj (JD y base w2 fb Aw (D++R++P) ak c U Z t r2 r X F (rU x) CR);have Q2:=aj (HQ.o.trans E);clear X F E C hc;go_wp2_with fail
    refine(T.o).mono ?_;rintro e Y M;have i:RQ base w fb vb D ak c U Z (aG y t) e Y:=RQ.later (R:=R++P) Q2.o (by simpa using M);obtain⟨r3,rfl,B⟩:=i.rz;have R3:=aj B;clear M i B T;go_wp2;go_roundg m
    case measure=>omega
    case rel=>exact⟨r3,by omega,by go_num,rfl,by rw[HT.o];exact R3⟩
def ST.Vv {base b2:Nat}{c:Nat}(h:ST base w fb vb D ak c U Z)(j:IL b2 w v I):fb∉v.ownBlock.toList/\vb∉v.ownBlock.toList:=by
 obtain⟨E,B,f,_⟩:=h;obtain⟨cap,ht,_⟩:=f.row;obtain⟨_,_,cur,i⟩:=f.vbs;have key:∀k,v.ownBlock=some k->∃cur,w.heap[k]?=some (.cells cur 3 (0,0)):=by
  intro k b;rcases j.2 with⟨e,_⟩|⟨g,cp,cur,e,_,l,_⟩
  .rw[e]at b;simp[Value.ownBlock]at b
  rw[e]at b;simp[Value.ownBlock]at b;subst b;exact⟨cur,l⟩
 constructor
 .intro a
  rw[a0H]at a;obtain⟨m,d⟩:=key _ a;rw[ht.1]at d;simp at d
 intro a;rw[a0H]at a;obtain⟨m,d⟩:=key _ a;rw[i]at d;simp at d
structure GQ(base:Nat)(w wr:World)(fb vb:Nat)(D:List NF)(ak c:Nat)(U:List NF)(Z:LN)(v5:Value)(I:LN)(X:List NF)(jS:Nat)(R:List NF):Prop where
 il:IL w.heap.size wr v5 I
 st:ST base wr fb jS (D++R) ak c U (v5.ownBlock.toList++Z)
 lt:∀q∈I,q<(D++R).length
 mp:X=I.map λj=>(D++R).getD j .zero
 fq:FQ fb vb jS w wr
def GQ.start {base:Nat}{c:Nat}(h:ST base w fb vb D ak c U Z):GQ base w (w.alloc (Obj.cells #[] 3)) fb vb D ak c U Z (zS w.heap.size 0 0) [] [] vb []:=by have F:=(aB.refl [] w).alloc (Obj.cells #[] 3);refine⟨World.ownsRow_lit _ #[] 0 (a0b _) (by unfold maxLen;omega) (by simp),?_,by simp,by simp,FQ.keepR (FQ.refl _ _ _) F⟩;rw[a0R];exact h.more F (λk a=>by simp[Value.ownBlock]at a;subst a;simp)
def GQ.turn {base:Nat}{wr:World}{b:Nat}{c:Nat}{g:List NF}(h:GQ base w wr fb vb D ak c U Z v5 I X jS R)(i:ST base w2 fb b (D++R++g) ak c U (v5.ownBlock.toList++Z))(hq:FQ fb jS b wr w2):GQ base w w2 fb vb D ak c U Z v5 I X b (R++g):=by
 have f:=h.st.Vv h.il;refine⟨mO h.il hq.fr (λk d=>?_),by rw[<-a0M];exact i,?_,?_,h.fq.trans hq⟩
 .simp only[a0l,a1U,a2V,not_or]
  exact⟨λe=>f.1 (by rw[a0H,<-e];exact d),λe=>f.2 (by rw[a0H,<-e];exact d)⟩
 .intro q a;have:=h.lt q a;simp at this |-;omega
 rw[<-a0M,abf h.lt];exact h.mp
theorem GQ.aY {base:Nat}{wr:World}{c:Nat}(h:GQ base w wr fb vb D ak c U Z v5 I X jS R)(f:aB [] wr w2):GQ base w w2 fb vb D ak c U Z v5 I X jS R :=
 ⟨fG h.il f (by simp),h.st.aY f,h.lt,h.mp,FQ.keepR h.fq f⟩
theorem GQ.add {base:Nat}{wr:World}{c:Nat} {o:Obj}(h:GQ base w wr fb vb D ak c U Z v5 I X jS R)(hq:(D++R)[q]?=some y)
 (d:IL w.heap.size w5 (zS g (I.length+1) cap) (I++[q])) (a:(wr.alloc o).grownBy w5 v5.ownBlock) (m:v5.ownBlock=some g\/g=(wr.alloc o).heap.size) (f:g<w5.heap.size):GQ base w w5 fb vb D ak c U Z (zS g (I.length+1) cap) (I++[q]) (X++[y]) jS R:=by
 have b:=h.st.Vv h.il;refine⟨d,h.st.akd a m f b.1 b.2,?_,?_,⟨(h.fq.fr.alloc o).grown a (λk i=>.inr (h.il.lt k i).1),h.fq.mv⟩⟩
 .intro j l
  rcases a0e.1 l with e|e
  .exact h.lt j e
  simp at e;subst e;exact(a0d.1 hq).1
 rw[a0P,<-h.mp];simp only[a0E,a1V,Cz hq]
def GQ.or {base:Nat}{wr:World}{c:Nat}(h:GQ base w wr fb vb D ak c U Z v5 I X jS R)(b:Ff U X) :
 zF 184 #[zP fb,v5] wr (RQ base w fb vb D ak c U Z (bQ X)) :=
 (afx base wr fb jS (D++R) ak c U Z v5 I X h.st.less (xV h.il) h.lt h.mp b).mono λe w' a=>RQ.later h.fq a
def Tv(A:Nat->Prop)(base:Nat)(w:World)(fb vb:Nat)(D:List NF)(ak c:Nat)(U:List NF)(Z:LN)(v:Value)(b:LN)(l:List RX)(h:ST base w fb vb D ak c U Z)(i:XV A w v b)(s:mD A w b l)(L:zi U l)(J:Ff U (iP l))(hd:mZ l)(ho:jm l)(E:∀y∈l,NmC y) :
 zF 173 #[zP fb,v] w (RQ base w fb vb D ak c U Z (bQ (iP l))):=by
 obtain⟨a,cap,rfl⟩:=aW i.1;have hlen:=s.len;have T:=aj i;have HR:=aj s;have HN:=aj L;have x:=aj J;have HD:=aj hd;have HO:=aj ho;have HI:=aj E;have V:=aj h;have uU:=i.2.2;have X:=aj hlen;clear i s L J hd ho E h hlen;delta zF;go_in
 go_wp2_with fail
 go_loopg [5,12] b.length (λk v5 n wr=>∃(j:Nat) (I:LN) (jS:Nat) (R:List NF),j+k=b.length/\n=zI j/\I.length<=j/\GQ base w wr fb vb D ak c U Z v5 I ((iP l).take j) jS R)
 case atStart=>exact⟨0,[],vb,[],by omega,rfl,by simp,GQ.start V⟩
 case round =>
  obtain⟨j,I,W,R,hj,rfl,hIl,m⟩:=hrel;obtain⟨t,c5,rfl⟩:=aW m.il;have G:=aj m;have zr:=m.fq.fr.size;clear m
  by_cases aL:j<b.length
  .have z:j<l.length:=by have:=X.o;omega
   obtain⟨g,rfl⟩:∃g,a=some (zA g):=by
    rcases T.o.1.2 with⟨e,h⟩|⟨g,c,cur,e,_⟩
    .simp at e;omega
    simp at e;exact⟨g,e.1⟩
   have u:pO A w wr:=V.o.ake G.o.fq;obtain⟨p,H,F⟩:=(HR.o.aY u).get j z;have hc:=(T.o.aY u).cell H;have d:=a0u z;have C:=aj (HI.o _ d A base wr fb W (D++R) ak c U ((Value.ownBlock (.slice t I.length c5)).toList++Z) p G.o.st F (KQ.1 HN.o _ d) (JC HD.o d) (MX HO.o d));have HT:Z_ ((iP l).take (j+1)=(iP l).take j++[bn l[j]]):=by show _=_;rw[uB,a1c];simp[z]
   clear u F d H;generalize bn l[j]=y at *;go_wp2_with fail
   refine(C.o).mono ?_;rintro e w2 ⟨Aw,S,q,rfl,Y,B,r⟩;have f:=aj (G.o.turn Y r);have z2:=r.fr.size;have tV:Z_ ((D++(R++S))[q]?=some y):=by show _=_;rw[<-a0M];exact B
   clear Y B r C hc G;go_wp2_with (first | (at_builtin;refine vG _ rfl _ _ rfl w.heap.size (.slice t I.length c5) I q w2.heap.size rfl (f.o.il.alloc _) rfl (j6 _ _ _ _ rfl) (by omega) (by simp;omega) ?_;intro gg aU w5 O P N iE;have G5:=aj (f.o.add tV.o O P N iE);clear O P N))
   go_roundg (gk-1)
   case measure=>omega
   case rel=>exact⟨j+1,I++[q],Aw,R++S,by omega,by go_num,by simp only[a0p,a0r,a1e];omega,by rw[HT.o];simpa using G5.o⟩
  have f:Z_ (GQ base w wr fb vb D ak c U Z (.slice t I.length c5) I (iP l) W R):=by
   have:=G.o;rw[a0C (by rw[uB,a0y];have:=X.o;omega)]at this;exact this
  have C:=aj (f.o.or x);clear G f;go_wp2_with fail
  refine(C.o).mono ?_;rintro e w3 M;have R3:=aj M;obtain⟨_,_,r3,rfl,_⟩:=M;go_wp2;go_ret;exact R3
theorem XB.get{eb:Nat}(h:XB w eb s):w.cell? ⟨eb,0,none⟩=some (.int .i64 0)/\w.cell? ⟨eb,1,none⟩=some (.int .u64 (wd s 0))/\w.cell? ⟨eb,2,none⟩=some (.int .u64 (wd s 1))/\w.cell? ⟨eb,3,none⟩=some (.int .u64 (wd s 2))/\w.cell? ⟨eb,4,none⟩=some (.int .u64 (wd s 3)):=by unfold XB at h;simp only[World.cell?,h];exact⟨rfl,rfl,rfl,rfl,rfl⟩
def ahG(s:Nat):NmC (.one s):=by
 intro A base w fb vb D ak c U Z p h a b hd ho;simp only[XR]at a;obtain⟨c0,c1,c2,c3,c4⟩:=a.2.get;have f:=aj (apX base w fb vb D ak c U Z s h ho b);simp only[bv]at f;have e:bn (.one s)=Ke s:=rfl;rw[e];clear a h b;delta zF;go_in
 go_wp2_with fail
 refine(f.o).mono ?_;rintro e i d;have g:=aj d;obtain⟨_,_,j,rfl,_⟩:=d;go_wp2;go_ret;exact g
def ahH(l:List RX)(m:∀y∈l,NmC y):NmC (.alt l):=by
 intro A base w fb vb D ak c U Z p h g b hd ho;simp only[XR]at g;obtain⟨_,v,k,f,d,i⟩:=g;have c0:=f.c0;have c5:=f.c5;have q:=aj (Tv A base w fb vb D ak c U Z v k l h d i b.1 b.2 hd ho.1 m);have e:bn (.alt l)=bQ (iP l):=rfl;rw[e];obtain⟨a,cap,rfl⟩:=aW d.1;clear f d i h b;delta zF;go_in
 go_wp2_with fail
 refine(q.o).mono ?_;rintro e r j;have n:=aj j;obtain⟨_,_,s,rfl,_⟩:=j;go_wp2;go_ret;exact n
def ahI(l:List RX)(m:∀y∈l,NmC y):NmC (.seq l):=by
 intro A base w fb vb D ak c U Z p h g b hd ho;simp only[XR]at g;obtain⟨_,v,k,f,d,i⟩:=g;have c0:=f.c0;have c5:=f.c5;have q:=aj (Oc A base w fb vb D ak c U Z v k l h d i b.1 b.2 hd ho m);have e:bn (.seq l)=sJ l:=rfl;rw[e];obtain⟨a,cap,rfl⟩:=aW d.1;clear f d i h b;delta zF;go_in
 go_wp2_with fail
 refine(q.o).mono ?_;rintro e r j;have n:=aj j;obtain⟨_,_,s,rfl,_⟩:=j;go_wp2;go_ret;exact n
def ahJ(x:RX)(lo:Nat)(a:Option Nat)(y:NmC x):NmC (.rep x lo a):=by
 intro A base w fb vb D ak c U Z p h l b hd ho;simp only[XR]at l;obtain⟨_,q,d,s⟩:=l;have c0:=d.c0;have c6:=d.c6;have F:=aj h;have C:=aj (y A base w fb vb D ak c U Z q h s b.1 hd.1 ho.1);have e:bn (.rep x lo a)=kD (bn x) lo a:=rfl;rw[e];have G:=aj b.2;have k:=hd.2;have B:=ho.2;have H:=aj d;have v:∃i fz,w.heap[p]?=some (.cells i 264 fz):=⟨_,_,d⟩;clear d s h b hd ho e;delta zF;go_in
 go_wp2_with fail
 refine(C.o).mono ?_;rintro e f g;obtain⟨jS,R,r,rfl,t,m,hq⟩:=g;have u:pO (λ_=>True) w f:=F.o.ake hq;have j:XW f p q lo (Yt a):=by
  obtain⟨i,fz,z⟩:=v;have:=u p trivial ⟨i,fz,.inl z⟩;exact this.trans H
 have c7:=j.c7;have c8:=j.c8;have E:Z_ (zF 174 #[zP fb,zI r,zI lo,zI (Yt a)] f.drew (RQ base w fb vb D ak c U Z (kD (bn x) lo a))) :=
  (Ob base f.drew fb jS (D++R) ak c U Z (bn x) r lo a (t.aY ((aB.refl _ _).drew)) m G.o k.1 (λn b=>⟨B n b,k.2 n b⟩)).mono λe w' h=>RQ.later (FQ.keepR hq ((aB.refl _ _).drew)) h
 clear u j t m hq C v;generalize Yt a=hz at *;go_wp2_with fail
 go_region_with (go_at_call 174;refine(E.o).mono ?_;rintro e I g;have R4:=aj g;obtain⟨_,_,J,rfl,_⟩:=g)
 all_goals
  go_wp2;go_ret;exact R4
mutual
theorem Le:∀(x:RX),NmC x
 | .one s=>ahG s
 | .seq l=>ahI l (ID l)
 | .alt l=>ahH l (ID l)
 | .rep x lo a=>ahJ x lo a (Le x)
theorem ID:∀(l:List RX),∀y∈l,NmC y
 | [],y,a=>by simp at a
 | x::r,y,a=>by
   rcases a0l.1 a with h|h
   .rw[h];exact Le x
   exact ID r y h
end
def LfC(d:NF):Prop:=∀(base:Nat) (w:World) (fb vb:Nat) (D:List NF) (ak c:Nat) (U:List NF) (Z:LN) (i:Nat),ST base w fb vb D ak c U Z->D[i]?=some d->Fg c U d->c<256->1<=ak ->
 zF 176 #[zP fb,zI i,.int .u8 c] w (RQ base w fb vb D ak c U Z (left c d))
def YC(a b:NF)(O:LfC a)(N:LfC b)(base:Nat)(w:World)(fb vb:Nat)(D:List NF)(ak c:Nat)(U:List NF)(Z:LN)(fi se:Nat)(kd t s1 s2 s lk C lf:Int)(te:Bool)(av:Option Addr)(nv z:Nat)
 (h:ST base w fb vb D ak c U Z) (h1:D[fi]?=some a) (h2:D[se]?=some b) (hn:Fg c U (.pair a b)) (hc:c<256) (ha:1<=ak) :
 zF 198 #[zP fb,.agg #[zI kd,.int .u64 t,.int .u64 s1,.int .u64 s2,.int .u64 s,zI fi,zI se,.slice av nv z,.bool te,zI lk,zI C,zI lf],.int .u8 c] w (RQ base w fb vb D ak c U Z (left c (.pair a b))):=by
 have HS:=aj h;have H1:=aj h1;have H2:=aj h2;have W:=aj hn;have Be:=h.pP.2.2.2.2.2;have F0:aB [] w (w.alloc (Obj.cells #[zI kd,.int .u64 t,.int .u64 s1,.int .u64 s2,.int .u64 s,zI fi,zI se,.slice av nv z,.bool te,zI lk,zI C,zI lf] 272)):=(aB.refl _ _).alloc _;have J:=bD w (Obj.cells #[zI kd,.int .u64 t,.int .u64 s1,.int .u64 s2,.int .u64 s,zI fi,zI se,.slice av nv z,.bool te,zI lk,zI C,zI lf] 272);have z0:(w.alloc (Obj.cells #[zI kd,.int .u64 t,.int .u64 s1,.int .u64 s2,.int .u64 s,zI fi,zI se,.slice av nv z,.bool te,zI lk,zI C,zI lf] 272)).heap.size=w.heap.size+1:=by simp
 clear h h1 h2 hn;delta zF;go_in
 go_wp2_with fail
 generalize w.alloc (Obj.cells #[zI kd,.int .u64 t,.int .u64 s1,.int .u64 s2,.int .u64 s,zI fi,zI se,.slice av nv z,.bool te,zI lk,zI C,zI lf] 272)=w0 at F0 J z0 |-;have A1:=aj (O base w0 fb vb D ak c U Z fi (HS.o.aY F0) H1.o W.o.1 hc ha);have Qb:=aj F0;have uh:=aj J;clear F0 J;refine(A1.o).mono ?_;rintro e w1 j;obtain⟨Dp,g,r1,rfl,m,lz,F⟩:=j;have B:=FQ.aba Qb.o F;have G:w1.heap[w.heap.size]?=w0.heap[w.heap.size]?:=F.block (by omega) (by omega) (by omega);rw[uh.o]at G;have p5:zC w1 w.heap.size 5 (zI fi):=by simp[World.cell?,G]
 have p6:zC w1 w.heap.size 6 (zI se):=by simp[World.cell?,G]
 have T:=aj (JD (left c a) base w1 fb Dp (D++g) ak c U Z b r1 se m lz (rU H2) W.o.2.1);have S1:=aj m;have Q1:=aj B;have P:=aj G;have zq1:=F.fr.size;have aye:=F.mv;clear m lz F B G A1;go_wp2_with fail
 refine(T.o).mono ?_;rintro e w2 j;obtain⟨Aw,k,d,rfl,Y,u,H⟩:=j;have I:w2.heap[w.heap.size]?=w1.heap[w.heap.size]?:=H.block (by omega) (by omega) (by omega);rw[P.o]at I;have u5:zC w2 w.heap.size 5 (zI fi):=by simp[World.cell?,I]
 have u6:zC w2 w.heap.size 6 (zI se):=by simp[World.cell?,I]
 have y:(D++g++k)[fi]?=some a:=rU (rU H1);obtain⟨f,L,cap,K⟩:=Y.look y;have t0:=K.tab;have M:=K.get.2.2.2.2.2.2.2.2.1;have aL:=K.lt;rw[K.te]at M;have S2:=aj Y;have Q2:=aj (FQ.trans Q1.o H);have tV:=aj u;have zq2:=H.fr.size;have ng:(fi:Int)<(D++g++k).length:=by omega
 clear K Y u H I T p5 p6 y;obtain⟨nD,x⟩:∃n,n=(D++g++k).length:=⟨_,rfl⟩;rw[<-x]at t0 aL ng;clear x;cases p:dK a with
 | false =>
   rw[p]at M;have X:Z_ (left c (.pair a b)=aG (left c a) b):=by show _=_;simp only[left,p];simp
   have E:Z_ (∀nq,RQ base w fb vb D ak c U Z (aG (left c a) b) (zR (zI (d:Nat))) (w2.drewN nq)):=λnq=>⟨Aw,g++k,d,rfl,by rw[<-a0M];exact S2.o.aY ((aB.refl _ _).drewN _),by rw[<-a0M];exact tV,FQ.keepR Q2.o ((aB.refl _ _).drewN _)⟩
   go_wp2_with fail
   go_quiet (fail)
   go_wp2;go_ret;rw[X.o];exact E.o _
 | true =>
   rw[p]at M;have X:Z_ (left c (.pair a b)=bQ [aG (left c a) b,left c b]):=by show _=_;simp only[left,p];simp;rfl
   have V:=W.o.2.2 p;have B1:=aj (λnq=>N base (w2.drewN nq) fb Aw (D++g++k) ak c U Z se (S2.o.aY ((aB.refl _ _).drewN _)) (rU (rU H2)) V.1 hc ha);have OK:=aj V.2;clear V p;go_wp2_with fail
   go_quiet (fail)
   go_wp2_with fail
   refine(B1.o _).mono ?_;rintro e i j;obtain⟨r,E,l,rfl,A,Ak,v⟩:=j;have OC:Z_ (∀o,o=Obj.cells #[zI d,zI l] 3->zF 184 #[zP fb,zS i.heap.size 2 2] (i.alloc o) (RQ base w fb vb D ak c U Z (bQ [aG (left c a) b,left c b]))):=by
    rintro o rfl;have F3:=(aB.refl [] i).alloc (Obj.cells #[zI d,zI l] 3);have S:=A.aY F3;have jc:IL i.heap.size (i.alloc (Obj.cells #[zI d,zI l] 3)) (zS i.heap.size 2 2) [d,l]:=World.ownsRow_lit _ #[zI d,zI l] 2 (a0b _) (by unfold maxLen;omega) (by simp);have u:(D++g++k++E)[d]?=some (aG (left c a) b):=rU tV;have Q4:FQ fb vb r w (i.alloc (Obj.cells #[zI d,zI l] 3)):=FQ.keepR (FQ.trans (FQ.keepR Q2.o ((aB.refl _ _).drewN _)) v) F3;refine(afx base _ fb r (D++g++k++E) ak c U Z (zS i.heap.size 2 2) [d,l] [aG (left c a) b,left c b] S (xV jc) ?_ ?_ OK).mono λe w' h=>RQ.later (R:=g++k++E) Q4 (by simpa[a0M] using h)
    .intro q hq
     simp only[a0l,a1U,a2V]at hq;rcases hq with rfl|rfl
     .exact(a0d.1 u).1
     exact(a0d.1 Ak).1
    simp only[a0E,a1V,Cz u,Cz Ak]
   clear A Ak v B1;go_wp2_with fail
   refine(OC.o _ rfl).mono ?_;rintro e w4 j;have R4:=aj j;obtain⟨_,_,r4,rfl,_⟩:=j;go_wp2;go_ret;rw[X.o];exact R4
theorem adJ(a:∀x∈ys,wf x)(h:xs.Perm ys):bQ xs=bQ ys :=
 vT (λx b=>a x (h.mem_iff.1 b)) a λp=>(h.flatMap_right parts).mem_iff
def Ff.perm(c:∀x∈ys,wf x)(h:xs.Perm ys)(k:Ff U ys):Ff U xs:=by
 have b:=h.flatMap_right parts;have d:bf (xs.flatMap parts)=bf (ys.flatMap parts):=GY λi=>by rw[a0T,a1s,a1s];exact⟨λ⟨x,a,e⟩=>⟨x,b.mem_iff.1 a,e⟩,λ⟨x,a,e⟩=>⟨x,b.mem_iff.2 a,e⟩⟩
 have j:gU (bN (xs.flatMap parts))=gU (bN (ys.flatMap parts)) :=
  GZ (xC λx a=>c x (h.mem_iff.1 a)) (xC c) (λp _=>b.mem_iff) d
 refine⟨λg=>?_,λf=>?_,?_,?_⟩
 .rw[d]at g |-;exact k.1 g
 .rw[adJ c h];rw[j]at f;exact k.2.1 f
 .rw[b.length_eq];exact k.2.2.1
 rw[h.length_eq];exact k.2.2.2
def ST.wu {base:Nat}{c:Nat}(h:ST base w fb vb D ak c U Z):qV w [fb,vb]:=h.pP.2.2.2.2.2.2.2.2.2
theorem abg(l:List NF)(ih:∀y∈l,LfC y)(base:Nat)(w:World)(fb vb:Nat)(D:List NF)(ak c:Nat)(U:List NF)(Z:LN)(L:LN)(kd f s1 s2 d lk m lf fi se:Int)(te:Bool)(av:Option Addr)(b:Nat)
 (h:ST base w fb vb D ak c U Z) (X:PL w (.slice av L.length b) L) (hl:∀j∈L,j<D.length) (i:(L.map λj=>D.getD j .zero).Perm l) (J:Fg c U (.sum l)) (hc:c<256) (ha:1<=ak) (W:∀x∈l,wf x) :
 Calls Tryz.prog 199 #[.pointer (some ⟨fb,0,none⟩),.agg #[.int .i64 kd,.int .u64 f,.int .u64 s1,.int .u64 s2,.int .u64 d,.int .i64 fi,.int .i64 se,.slice av L.length b,.bool te,.int .i64 lk,.int .i64 m,.int .i64 lf],.int .u8 c] w (RQ base w fb vb D ak c U Z (left c (.sum l))):=by
 have hLl:L.length<=9000000000000:=by have h1:=J.2.2.2.2;rw[fP,a0y]at h1;have h2:=i.length_eq;rw[a0y]at h2;omega
 have pm:(L.map λq=>left c (D.getD q .zero)).Perm (xy c l):=by rw[fP];have:=i.map (left c);rw[a2m]at this;exact this
 have wl:∀x∈xy c l,wf x:=by intro x V;rw[fP]at V;obtain⟨y,hy,rfl⟩:=a0q.1 V;exact gI c y (W y hy)
 have P:left c (.sum l)=bQ (L.map λq=>left c (D.getD q .zero)):=by rw[adJ wl pm];rfl
 have O:Ff U (L.map λq=>left c (D.getD q .zero)):=Ff.perm wl pm J.2;have u:aB [] w (w.alloc (Obj.cells #[.int .i64 kd,.int .u64 f,.int .u64 s1,.int .u64 s2,.int .u64 d,.int .i64 fi,.int .i64 se,.slice av L.length b,.bool te,.int .i64 lk,.int .i64 m,.int .i64 lf] 272)):=zJ;have S:∀o,((w.alloc (Obj.cells #[.int .i64 kd,.int .u64 f,.int .u64 s1,.int .u64 s2,.int .u64 d,.int .i64 fi,.int .i64 se,.slice av L.length b,.bool te,.int .i64 lk,.int .i64 m,.int .i64 lf] 272)).alloc o).cell? ⟨w.heap.size,7,none⟩=some (.slice av L.length b):=by
  intro o;rw[((aB.refl [] _).alloc o).cell (p:=⟨w.heap.size,7,none⟩) (by simp) (by simp)];have:=bD w (Obj.cells #[.int .i64 kd,.int .u64 f,.int .u64 s1,.int .u64 s2,.int .u64 d,.int .i64 fi,.int .i64 se,.slice av L.length b,.bool te,.int .i64 lk,.int .i64 m,.int .i64 lf] 272);simp only[World.cell?,this]
  rfl
 have HZ:(w.alloc (Obj.cells #[.int .i64 kd,.int .u64 f,.int .u64 s1,.int .u64 s2,.int .u64 d,.int .i64 fi,.int .i64 se,.slice av L.length b,.bool te,.int .i64 lk,.int .i64 m,.int .i64 lf] 272)).heap.size=w.heap.size+1:=by simp
 clear pm wl W;rw[P];go_in
 go_wp2_with fail
 generalize w.alloc (Obj.cells #[.int .i64 kd,.int .u64 f,.int .u64 s1,.int .u64 s2,.int .u64 d,.int .i64 fi,.int .i64 se,.slice av L.length b,.bool te,.int .i64 lk,.int .i64 m,.int .i64 lf] 272)=B at u S HZ |-;have hz:=HZ;clear HZ;have z0:=u.size;have gT:=hz;rw[<-gT];clear gT hz;clear S;go_loopg [7,15] L.length (λk v7 E wr=>∃(j:Nat) (I:LN) (jS:Nat) (R:List NF),j+k=L.length/\E=.int .i64 j/\I.length<=j/\GQ base B wr fb vb D ak c U Z v7 I ((L.take j).map λq=>left c (D.getD q .zero)) jS R/\PL wr (.slice av L.length b) L)
 exact⟨0,[],vb,[],by omega,rfl,by simp,GQ.start (h.aY u),(X.aC u (qV.nil _)).aC zJ (qV.nil _)⟩
 .obtain⟨j,I,Dp,R,hj,rfl,hIl,G,A⟩:=hrel;obtain⟨N,c5,rfl⟩:=aW G.il;have zr:=G.fq.fr.size
  by_cases z:j<L.length
  .obtain⟨a3,c3,e3,Y⟩:=A.1
   simp only[Value.slice.injEq,a1W]at e3;obtain⟨rfl,rfl⟩:=e3;obtain⟨g,off,rfl,iM,JK⟩:=Y j z;have ap1:g<w.heap.size:=X.blk rfl;have s:=hl L[j] (a0u z);have t:(D++R)[L[j]]?=some (D.getD L[j] .zero):=rU (getD_some s);have H:D.getD L[j] .zero∈l:=i.mem_iff.1 (a0q.2 ⟨L[j],a0u z,rfl⟩);have C:=ih _ H base wr fb Dp (D++R) ak c U ((Value.ownBlock (.slice N I.length c5)).toList++Z) L[j] G.st t (PD.1 J.1 _ H) hc ha;have HT:((L.take (j+1)).map λq=>left c (D.getD q .zero))=((L.take j).map λq=>left c (D.getD q .zero))++[left c (D.getD L[j] .zero)]:=by have:=Ld L (λq=>left c (D.getD q .zero)) j z [];exact this
   clear Y s t H;generalize left c (D.getD L[j] .zero)=y at *;generalize L[j]=q at *;go_wp2_with fail
   refine C.mono ?_;rintro e w2 ⟨Aw,R2,F,rfl,CE,T,v⟩;have r:=G.turn CE v;have P4:=A.aC v.fr G.st.wu;have z2:=v.fr.size;have tV:(D++(R++R2))[F]?=some y:=by rw[<-a0M];exact T
   clear CE T v C JK G A;go_wp2_with (first | (at_builtin;refine vG _ rfl _ _ rfl B.heap.size (.slice N I.length c5) I F w2.heap.size rfl (r.il.alloc _) rfl (j6 _ _ _ _ rfl) (by omega) (by simp;omega) ?_;intro gg aU w5 aS M bq iE;have G5:=r.add tV aS M bq iE;have P5:=((P4.aC ((aB.refl [] w2).alloc _) (qV.nil _)).apY (aB.fo M) (λa n cc e i=>by simp at e;obtain⟨rfl,_⟩:=e;rw[a0H]at i;have:=(r.il.lt _ i).1;simp at this;omega));clear aS M bq))
   go_roundg (gk-1);exact⟨j+1,I++[F],Aw,R++R2,by omega,by go_num,by simp only[a0p,a0r,a1e];omega,by rw[HT];simpa using G5,P5⟩;omega
  have r:GQ base B wr fb vb D ak c U Z (.slice N I.length c5) I (L.map λq=>left c (D.getD q .zero)) Dp R:=by have:=G;rw[a0C (by omega)]at this;exact this
  have C:=r.or O;clear G r A;go_wp2_with fail
  refine C.mono ?_;rintro e w3 fV;have R3:=RQ.first u fV;obtain⟨_,_,r3,rfl,_⟩:=fV;go_wp2;go_ret;exact R3
def acw(d:NF)(E:∀y:NF,y.size<d.size->LfC y)(base:Nat)(w:World)(fb vb:Nat)(D:List NF)(ak c:Nat)(U:List NF)(Z:LN)(i:Nat)(h:ST base w fb vb D ak c U Z)(I:D[i]?=some d)(V:Fg c U d)(t:c<256)(J:1<=ak) :
 zF 187 #[zP fb,zI i,.int .u8 c] w (RQ base w fb vb D ak c U Z (left c d)):=by
 obtain⟨f,L,cap,K⟩:=h.look I;have aL:=K.lt;have hlen:=h.len;have t0:=K.tab;obtain⟨c0,c1,c2,c3,c4,c5,c6,c7,c8,c9,c10,c11⟩:=K.get;obtain⟨av,u,k,_⟩:=K.pl.1;rw[k]at c7;rw[K.kd]at c0;have z:=aj K.pl;rw[k]at z;have KS:=aj K.set;have KP:=aj K.pair;have KT:=aj K.star;have KU:=aj K.sum;have n:=aj h;have HI:=aj I;have G:=aj V;have M:=aj h.pP.1;have R:=aj h.pP.2.1;have Y:=aj h.pP.2.2.2.1;have O:=aj h.pP.2.2.1;have aag:(i:Int)<D.length:=by omega
 clear K h I V k;have F0:Z_ (∀o,aB [] w (w.alloc o)):=λo=>(aB.refl _ _).alloc o
 cases d with
 | zero =>
   simp only[qW]at c0;delta zF;go_in
   go_wp2;go_ret;exact RQ.here (r:=0) n.o (F0.o _) M
 | one =>
   simp only[qW]at c0;delta zF;go_in
   go_wp2;go_ret;exact RQ.here (r:=0) n.o (F0.o _) M
 | set s =>
   have q:=KS.o s rfl;rw[q]at c1 c2 c3 c4;simp only[qW]at c0;have x:=aj (am8 s c);simp only[bv]at x;clear q;cases hb:s.testBit c with
   | true =>
     rw[hb]at x;have P:Z_ (left c (.set s)=.one):=by show _=_;simp[left,hb]
     clear hb;delta zF;go_in
     go_wp2_with fail
     refine(x.o _ t).mono ?_;rintro e w2 ⟨rfl,v⟩;have F2:=aj ((F0.o _).trans v);clear v;go_wp2;go_ret;rw[P.o];exact RQ.here (r:=1) n.o F2.o R
   | false =>
     rw[hb]at x;have P:Z_ (left c (.set s)=.zero):=by show _=_;simp[left,hb]
     clear hb;delta zF;go_in
     go_wp2_with fail
     refine(x.o _ t).mono ?_;rintro e w2 ⟨rfl,v⟩;have F2:=aj ((F0.o _).trans v);clear v;go_wp2;go_ret;rw[P.o];exact RQ.here (r:=0) n.o F2.o M
 | pair a b =>
   simp only[qW]at c0;have H:=KP.o a b rfl;have C:=aj (λ(w':World) (F:aB [] w w')=>YC a b (E a (by simp[NF.size];omega)) (E b (by simp[NF.size];omega)) base w' fb vb D ak c U Z f.fi f.se 3 (wd f.s 0) (wd f.s 1) (wd f.s 2) (wd f.s 3) f.lk f.ak f.lf f.te av L.length u (n.o.aY F) H.1 H.2 G.o t J);clear H;delta zF;go_in
   go_wp2_with fail
   refine(C.o _ (F0.o _)).mono ?_;rintro e A g;have N:=aj (RQ.first (F0.o _) g);obtain⟨_,_,B,rfl,_⟩:=g;go_wp2;go_ret;exact N
 | sum l =>
   simp only[qW]at c0;have m:=KU.o l rfl;have ht:=Fe Y.o m.1;have W:=Y.o _ (a0B HI);have X:(L.map λj=>D.getD j .zero).Perm l:=by
    refine(List.perm_ext_iff_of_nodup (Pz O.o m.2.2 m.1) ?_).2 λp=>?_
    .rw[m.2.1];exact Cb (xA _)
    rw[m.2.1];exact(iA ht).symm
   have C:=aj (λ(w':World) (F:aB [] w w')=>abg l (λy hy=>E y (by have:=dx hy;simp[NF.size];omega)) base w' fb vb D ak c U Z L 4 (wd f.s 0) (wd f.s 1) (wd f.s 2) (wd f.s 3) f.lk f.ak f.lf f.fi f.se f.te av u (n.o.aY F) (z.o.aC F (qV.nil _)) m.1 X G.o t J (kJ.1 W.1.1));clear m ht W X;delta zF;go_in
   go_wp2_with fail
   refine(C.o _ (F0.o _)).mono ?_;rintro e A g;have N:=aj (RQ.first (F0.o _) g);obtain⟨_,_,B,rfl,_⟩:=g;go_wp2;go_ret;exact N
 | star a =>
   simp only[qW]at c0;have S:=KT.o a rfl;have C:=aj (λ(w':World) (F:aB [] w w')=>E a (by simp[NF.size]) base w' fb vb D ak c U Z f.fi (n.o.aY F) S G.o.1 t J);clear S;delta zF;go_in
   go_wp2_with fail
   refine(C.o _ (F0.o _)).mono ?_;rintro e A g;obtain⟨B,rfl,hz⟩:=(RQ.first (F0.o _) g).rz;have T:Z_ (zF 186 #[zP fb,zI B,zI i] A (RQ base w fb vb D ak c U Z (left c (.star a)))):=hz.call λjS D' dY hr hD=>JD (left c a) base A fb jS D' ak c U Z (.star a) B i dY hr (hD _ _ HI) G.o.2
   clear g hz C;go_wp2_with fail
   refine(T.o).mono ?_;rintro e w4 g;have R4:=aj g;obtain⟨_,_,r4,rfl,_⟩:=g;go_wp2;go_ret;exact R4
end
section
variable {α:Type} {ab ak cap fb g i k r vb:Nat} {x:RX} {w w' w2 w5:World} {B F L Z nx ps v:LN} {f:FV} {D U:List NF} {X d:NF} {v5 v7 v8 va vn:Value} {n:Int} {St:List LN} {t:LB} {en:Ending}
theorem abh(f:FV)(L:List FV):fv (f::L)=f.cells.toList++fv L:=by simp[fv]
theorem Qw(f:FV):f.cells.toList.length=12:=by simp[FV.cells]
theorem afy:∀(L:List FV) (i k:Nat) (f a:FV) (u:Value),L[i]?=some f->k<12->f.cells.toList.set k u=a.cells.toList->(fv L).set (i*12+k) u=fv (L.set i a)
 | [],i,k,f,a,u,h,_,_=>by simp at h
 | g::L,0,k,f,a,u,h,c,b=>by grind [abh,Qw]
 | g::L,i+1,k,f,a,u,h,c,b=>by
   rw[abh,a1S,abh,<-afy L i k f a u (by simpa using h) c b];rw[a1v _ _ (by rw[Qw];omega),Qw]
   congr 2
   omega
theorem OG{β:Type}(g:α->β):∀(E:List α) (i:Nat) (e a:α),E[i]?=some e->g a=g e->(E.set i a).map g=E.map g
 | [],i,e,a,h,_=>by simp at h
 | x::E,0,e,a,h,b=>by simp at h;subst h;simp[b]
 | x::E,i+1,e,a,h,b=>by simp_all[OG]
def abj {E:List α}{j:Nat} {e x:α}(h:(E.set i e)[j]?=some x):(i=j/\x=e)\/E[j]?=some x:=by grind
def mem_set {E:List α} {e x:α}(h:x∈E.set i e):x=e\/x∈E:=by grind
def TE.memo {base:Nat} {E:List (FV × LN)}{a:Nat}(h:TE base w fb vb E B ak)(c:E[i]?=some (f,L)) :
 TE base ((w.setCell (zB vb (i*12+10)) (zI a)).setCell (zB vb (i*12+11)) (zI r)) fb vb (E.set i ({ f with ak:=a,lf:=r },L)) B ak:=by
 obtain⟨cap,ht,j⟩:=h.row;have q:=h.vbs;have n:=h.fb;have F:aB [vb] w ((w.setCell (zB vb (i*12+10)) (zI a)).setCell (zB vb (i*12+11)) (zI r)):=(zK.setCell (.inl (by simp)) _).setCell (.inl (by simp)) _;have hlen:(E.set i ({ f with ak:=a,lf:=r },L)).length=E.length:=by simp
 refine⟨⟨cap,?_,?_⟩,?_,?_,h.fb,a0h h.sz F.size⟩
 .rw[hlen];exact ht.aC F (by simp;omega)
 .rw[hlen]
  have g:(E.map Prod.fst).length=E.length:=by simp
  unfold FL at j |-;rw[g]at j;have o:=(World.ownsRow.stored j (i*12+10) (zI a)).1;have d:=(World.ownsRow.stored o (i*12+11) (zI r)).1;have l:(E.map Prod.fst)[i]?=some f:=by simp[c]
  rw[afy (E.map Prod.fst) i 10 f { f with ak:=a } (zI a) l (by decide) rfl]at d;have m:=(a0d.1 c).1;rw[afy ((E.map Prod.fst).set i { f with ak:=a }) i 11 { f with ak:=a } { f with ak:=a,lf:=r } (zI r) (by simp[m]) (by decide) rfl]at d;rw[List.set_set]at d;have p:(E.set i ({ f with ak:=a,lf:=r },L)).map Prod.fst=(E.map Prod.fst).set i { f with ak:=a,lf:=r }:=by rw[a2d]
  rw[p];simpa using d
 .intro e he
  rcases mem_set he with rfl|he
  .exact(h.pl (f,L) (a0B c)).aC F (λk b=>h.wu k (by simp at b;simp[b]))
  exact(h.pl e he).aC F (λk b=>h.wu k (by simp at b;simp[b]))
 intro e he;rcases mem_set he with rfl|he
 .exact h.st (f,L) (a0B c)
 exact h.st e he
def TP.memo {E:List (FV × LN)}{c:Nat}(h:TP E B D ak c)(l:E[i]?=some (f,L))(hd:D[i]?=some d)(p:D[r]?=some (left c d)) :
 TP (E.set i ({ f with ak:=ak,lf:=r },L)) B D ak c:=by
 have k:(E.set i ({ f with ak:=ak,lf:=r },L)).map kz=E.map kz:=OG kz E i (f,L) _ l rfl;refine⟨?_,?_,?_,?_,?_,?_⟩
 .rw[k];exact h.tb
 .intro b hb;rw[k];simpa using h.bu b hb
 .intro j e m he
  rw[k];rcases abj he with⟨rfl,rfl⟩|he
  .exact h.lk i (f,L) m l
  exact h.lk j e m he
 .intro j e a he g
  rcases abj he with⟨rfl,rfl⟩|he
  .exact h.te i (f,L) a l g
  exact h.te j e a he g
 .intro e he
  rcases mem_set he with rfl|he
  .simp
  exact h.al e he
 intro o j e a he g n;rcases abj he with⟨rfl,rfl⟩|he
 .grind
 exact h.mm o j e a he g n
def ST.memo {base:Nat}{c:Nat}(h:ST base w fb vb D ak c U Z)(g:D[i]?=some d)(l:D[r]?=some (left c d)) :
 ST base ((w.setCell (zB vb (i*12+10)) (zI ak)).setCell (zB vb (i*12+11)) (zI r)) fb vb D ak c U Z:=by
 obtain⟨E,B,hE,j,o,q,hz⟩:=h;have s:=(a0d.1 g).1;have p:=j.len;obtain⟨⟨f,L⟩,he⟩:∃e,E[i]?=some e:=⟨E[i]'(by omega),a0a (by omega)⟩;refine⟨_,B,hE.memo (a:=ak) (r:=r) he,j.memo he g l,o,q,?_,?_⟩
 .intro k m;have:=hz.1 k m;simpa using this
 intro e b x n cc ex;rcases mem_set b with rfl|b
 .exact hz.2 (f,L) (a0B he) x n cc ex
 exact hz.2 e b x n cc ex
def ST.ask {base:Nat}{c:Nat}(c2:Nat)(h:ST base w fb vb D ak c U Z):ST base (w.setCell (zB fb 1025) (zI ((ak+1:Nat):Int))) fb vb D (ak+1) c2 U Z:=by
 obtain⟨E,B,hE,a,f,g,hz⟩:=h;refine⟨E,B,hE.agr (ak+1),⟨a.tb,a.bu,a.lk,a.te,λe he=>Nat.le_succ_of_le (a.al e he),?_⟩,f,g,?_,hz.2⟩
 .intro _ i e d he _ j
  have:=a.al e (a0B he);omega
 intro k b;have:=hz.1 k b;simpa using this
theorem ST.cells {base:Nat}{c:Nat}(h:ST base w fb vb D ak c U Z):zC w fb 1025 (zI ak)/\(∀o,w.frozen? (zB fb o)=false)/\(∀o,w.frozen? (zB vb o)=false):=by obtain⟨E,B,hE,_⟩:=h;obtain⟨cap,ht,b⟩:=hE.row;refine⟨ht.awy,ht.fz,λo=>?_⟩;obtain⟨_,_,cur,a⟩:=hE.vbs;simp[World.frozen?,a]
def anm(d:NF):LfC d:=by
 refine NF.ind (P:=LfC) ?_ d;intro d y base w fb vb D ak c U Z i k q s z t;have FL:=λnq=>acw d y base (w.drewN nq) fb vb D ak c U Z i (k.aY (zK.drewN nq)) q s z t;obtain⟨f,L,cap,K⟩:=k.look q;have S:=K.lt;have t0:=K.tab;have o:=K.get.2.2.2.2.2.2.2.2.2.2.1;have m:=K.get.2.2.2.2.2.2.2.2.2.2.2;have p:=k.cells.1;have I:=K.mem;have F:(i:Int)<D.length:=by omega
 clear K s
 by_cases he:f.ak=ak
 .have hb:=awF he
  have G:∀nq,RQ base w fb vb D ak c U Z (left c d) (zR (zI (f.lf:Nat))) (w.drewN nq):=λnq=>RQ.here k (zK.drewN _) (I t he)
  clear FL he;delta zF;go_in
  go_wp2_with fail
  go_quiet (fail)
  go_wp2;go_ret;exact G _
 have hb:=atr he;clear he;delta zF;go_in
 go_wp2_with fail
 go_quiet (fail)
 go_wp2_with fail
 refine(FL _).mono ?_;rintro e w2 A;obtain⟨j,R,r,rfl,g,HR,hq⟩:=A;have u:=rU (R:=R) q;obtain⟨J,T,O,h⟩:=g.look u;have u0:=h.tab;have u10:=h.get.2.2.2.2.2.2.2.2.2.2.1;have u11:=h.get.2.2.2.2.2.2.2.2.2.2.2;have ul:=h.lt;obtain⟨E,l,a⟩:=g.cells;have M:=g.memo u HR;have V:=g.pP.2.2.2.2.2;have Q:=FQ.aba ((aB.refl [] w).drewN nq) hq;obtain⟨x,b⟩:∃n,n=(D++R).length:=⟨_,rfl⟩;rw[<-b]at u0 ul;clear h g hq b FL t0 o m p;have v:(i:Int)<x:=by omega
 have N:j≠fb:=by omega
 have C:=a (i*12+10);have B:=a (i*12+11);clear l a;go_wp2_with fail
 go_region
 have F4:FQ fb vb j w (((w2.setCell (zB j (i*12+10)) (zI ak)).setCell (zB j (i*12+11)) (zI r)).drew):=FQ.trans Q ⟨((zK.setCell (.inl (by simp)) _).setCell (.inl (by simp)) _).drew,.inl rfl⟩;have H:=M.aY (zK.drew);clear M Q;go_wp2;go_ret;exact⟨j,R,r,rfl,H,HR,F4⟩
def YE(base:Nat)(w:World)(fb vb:Nat)(D:List NF)(ak c c2:Nat)(U:List NF)(Z:LN)(i:Nat)(d:NF)(h:ST base w fb vb D ak c2 U Z)(f:D[i]?=some d)(b:Fg c U d)(k:c<256)(l:ak<=1000000) :
 zF 160 #[zP fb,zI i,.int .u8 c] w λe w'=>∃a R r,e=zR (zI (r:Nat))/\ST base w' fb a (D++R) (ak+1) c U Z/\(D++R)[r]?=some (left c d)/\FQ fb vb a w w':=by
 have m:=h.cells.1;have o:=h.cells.2.1 1025;have g:=h.ask c;have C:=anm d base _ fb vb D (ak+1) c U Z i g f b k (by omega);have F:=(show FQ fb vb vb w (w.setCell (zB fb 1025) (zI ((ak+1:Nat):Int))) from ⟨zK.setCell (.inl (by simp)) _,.inl rfl⟩);have j:((ak+1:Nat):Int)=(ak:Int)+1:=by omega
 rw[j]at C F;clear h g f b j;delta zF;go_in
 go_wp2_with fail
 refine C.mono ?_;rintro e w2 ⟨a,R,r,rfl,n,HR,hq⟩;have Q:=F.trans hq;clear hq C;go_wp2;go_ret;exact⟨a,R,r,rfl,n,HR,Q⟩
theorem aB.above {S T:LN} {a b c:World}(h:aB T a b)(k:aB S b c)(j:∀x∈S,a.heap.size<=x\/x∈T):aB T a c :=
 ⟨k.os.trans h.os,k.tape.trans h.tape,k.output.trans h.output,a0h h.size k.size,λi d f=>(k.block i (a0t d h.size) (λg=>(j i g).elim (λe=>by omega) f)).trans (h.block i d f)⟩
def ST.aty {base:Nat}{c:Nat}{Z2:LN}(h:ST base w fb vb D ak c U Z)(a:∀k∈Z2,k∈Z):ST base w fb vb D ak c U Z2:=by obtain⟨E,B,l,j,i,g,b⟩:=h;exact⟨E,B,l,j,i,g,λk f=>b.1 k (a k f),λe he x n cc ex d=>b.2 e he x n cc ex (a _ d)⟩
theorem ann(n b:Nat):(List.replicate n 0).getD b 0=0:=by grind
def ST.start{c:Nat}(ht:FT w fb va (List.replicate 1024 0) 0)(a:FL (fb+1) w va [fv0,fv1])(hz:fb+1<=w.heap.size)(l:NF.zero∈U/\NF.one∈U)(k:U.length<=1000000000000):∃vb,ST (fb+1) w fb vb [.zero,.one] 0 c U []:=by
 have f:∃vb cap,va=zS vb 2 cap:=by
  rcases a.2 with⟨_,e⟩|⟨g,cap,cur,e,_⟩
  .simp at e
  grind
 obtain⟨vb,cap,rfl⟩:=f;refine⟨vb,[(fv0,[]),(fv1,[])],List.replicate 1024 0,⟨⟨cap,ht,a⟩,?_,?_,a3j _,hz⟩,⟨⟨rfl,rfl,rfl,rfl,rfl,?_,by simp,?_⟩,?_,?_,?_,?_,?_⟩,?_,k,by simp,by intro e he x n cc ex;simp at he;rcases he with rfl|rfl<;>simp[fv0,fv1]at ex⟩
 .intro e he
  simp at he;rcases he with rfl|rfl<;>exact PL.nil _
 .intro e he
  simp at he;rcases he with rfl|rfl<;>exact a2S 256
 .grind
 .grind [hd,WC.zero,WC,WC.one]
 .intro b hb
  rw[ann];rcases zD mV (List.map kz [(fv0,[]),(fv1,[])]) b 2 with h|⟨j,m,_⟩
  .exact h.symm
  omega
 .grind
 .intro i e d he hd
  match i with
  | 0=>simp at he hd;subst he hd;rfl
  | 1=>simp at he hd;subst he hd;rfl
  | i+2=>simp at he
 .simp[fv0,fv1]
 .intro j;omega
 grind
structure AQ(X:NF)(wB wr:World)(ab fb:Nat)(U:List NF)(n:Int)(CL:LN)(vs vn:Value)(I:LN)(St:List LN)(nx:LN)(vb:Nat)(D:List NF)(ak c:Nat):Prop where
 st:ST (fb+1) wr fb vb D ak c U (vs.ownBlock.toList++vn.ownBlock.toList)
 mp:∀(j:Nat) (u:LN),St[j]?=some u->∃r,I[j]?=some r/\D[r]?=some (dW X u)
 il:IL (fb+1) wr vs I
 nl:IL (fb+1) wr vn nx
 ne:∀k,vs.ownBlock=some k->vn.ownBlock≠some k
 au:AB wr ab n CL zN vn
 ln:I.length=St.length
 fr:aB [ab] wB wr
 fe:fb=wB.heap.size
 lo:ab<wB.heap.size
def AQ.find {wB wr:World} {CL:LN}{vs:Value} {I:LN}{c:Nat}(h:AQ X wB wr ab fb U n CL vs vn I St nx vb D ak c)(m:D[r]?=some (dW X v)):I.findIdx (·==r)=Bi X St v:=by
 have f:=h.ln;have l:=h.st;have o:=h.mp;have i:=l.pP.2.2.2.1;have key:∀j (g:j<I.length) (d:j<St.length),(I[j]==r)=(name (dW X St[j])==name (dW X v)):=by
  intro j g d;obtain⟨q,k,p⟩:=o j St[j] (a0a d);rw[a0a g]at k;simp only[Option.some.injEq]at k;rw[k,a0T,a0W,a0W];rw[l.num p m]
  constructor
  .intro e;rw[e]
  exact UH (i _ (a0B p)).1 (i _ (a0B m)).1
 unfold Bi;clear o l i
 revert f key
 clear h
 induction I generalizing St with
 | nil =>
   intro f _;cases St with
   | nil=>rfl
   | cons a b=>simp at f
 | cons a I s =>
   intro f key;cases St with
   | nil=>simp at f
   | cons u St=>have k0:=key 0 (by simp) (by simp);simp only[List.getElem_cons_zero]at k0;rw[List.findIdx_cons,List.findIdx_cons,k0];have:=s (by simpa using f) (λj g d=>by have:=key (j+1) (by simpa using g) (by simpa using d);simpa using this);rw[this]
def AB.wu {cl:LN}(h:AB w ab n cl va vn):qV w [ab]:=by intro k a cur fz;simp at a;subst a;rw[h.1];simp
section
variable {X:NF} {wB wr:World} {ab fb:Nat} {U:List NF} {n:Int} {CL:LN} {vs vn:Value} {I:LN} {St:List LN} {nx:LN} {vb:Nat} {D:List NF} {ak c:Nat}
theorem AQ.aY(h:AQ X wB wr ab fb U n CL vs vn I St nx vb D ak c)(f:aB [] wr w2):AQ X wB w2 ab fb U n CL vs vn I St nx vb D ak c :=
 ⟨h.st.aY f,h.mp,fG h.il f (by simp),fG h.nl f (by simp),h.ne,h.au.aC f (by simp),h.ln,h.fr.above f (by simp),h.fe,h.lo⟩
def AQ.turn {b a c2:Nat} {R:List NF}(h:AQ X wB wr ab fb U n CL vs vn I St nx vb D ak c)(p:ST (fb+1) w2 fb b (D++R) a c2 U (vs.ownBlock.toList++vn.ownBlock.toList))(hq:FQ fb vb b wr w2):AQ X wB w2 ab fb U n CL vs vn I St nx b (D++R) a c2:=by
 have n1:=h.st.Vv h.il;have i:=h.st.Vv h.nl;have hb:=h.st.pP.2.2.2.2.2;have s:=h.fe;have q:=h.lo;have f:∀(v:Value),fb∉v.ownBlock.toList/\vb∉v.ownBlock.toList->∀k,v.ownBlock=some k->k ∉ [fb,vb]:=λv d k g=>by simp only[a0l,a1U,a2V,not_or];exact⟨λe=>d.1 (by rw[a0H,<-e];exact g),λe=>d.2 (by rw[a0H,<-e];exact g)⟩
 refine⟨p,?_,mO h.il hq.fr (f vs n1),mO h.nl hq.fr (f vn i),h.ne,h.au.aC hq.fr (by simp;omega),h.ln,h.fr.above hq.fr (by simp;omega),h.fe,h.lo⟩;intro j u l;obtain⟨r,o,m⟩:=h.mp j u l;exact⟨r,o,rU m⟩
def AQ.awI {o:Obj}(h:AQ X wB wr ab fb U n CL vs vn I St nx vb D ak c)(y:D[r]?=some (dW X v))(s:IL (fb+1) w5 (zS g (I.length+1) cap) (I++[r]))(l:(wr.alloc o).grownBy w5 vs.ownBlock)(m:vs.ownBlock=some g\/g=(wr.alloc o).heap.size)(t:g<w5.heap.size) :
 AQ X wB w5 ab fb U n CL (zS g (I.length+1) cap) vn (I++[r]) (St++[v]) nx vb D ak c:=by
 have n1:=h.st.Vv h.il;have G:=h.fe;have E:=h.lo;have C:=h.ln;have hz:=h.fr.size;have K:=h.aY ((aB.refl [] wr).alloc o);have F:aB vs.ownBlock.toList (wr.alloc o) w5:=aB.fo l;have b:∀k,k∈vs.ownBlock.toList->fb+1<=k:=λk a=>by rw[a0H]at a;exact(h.il.lt k a).1
 refine⟨h.st.akd l m t n1.1 n1.2,?_,s,mO K.nl F (λk a i=>by rw[a0H]at i;exact h.ne k i a),?_,K.au.aC F (λi=>by have:=b _ i;omega),by simp;omega,K.fr.above F (λx w=>.inl (by have:=b _ w;omega)),h.fe,h.lo⟩
 .intro j u f
  by_cases B:j<St.length
  .rw[a0s B]at f
   obtain⟨q,A,z⟩:=h.mp j u f;exact⟨q,by rw[a0s (by omega)];exact A,z⟩
  have p:=(a0d.1 f).1;simp at p;have:j=St.length:=by omega
  subst this;simp at f;subst f;exact⟨r,by rw[<-C];simp,y⟩
 intro k a d;simp[Value.ownBlock]at a;subst a;rcases m with e|e
 .exact h.ne _ e d
 have:=(h.nl.lt _ d).2;simp at e;omega
def AQ.addN{m:Nat} {o:Obj}(h:AQ X wB wr ab fb U n CL vs vn I St nx vb D ak c)(s:IL (fb+1) w5 (zS g (nx.length+1) cap) (nx++[m]))(l:(wr.alloc o).grownBy w5 vn.ownBlock)(p:vn.ownBlock=some g\/g=(wr.alloc o).heap.size)(t:g<w5.heap.size) :
 AQ X wB (w5.setCell (zB ab 258) (zS g (nx.length+1) cap)) ab fb U n CL vs (zS g (nx.length+1) cap) I St (nx++[m]) vb D ak c:=by
 have i:=h.st.Vv h.nl;have w:=h.fe;have v:=h.lo;have hz:=h.fr.size;have hb:=h.st.pP.2.2.2.2.2;have K:=h.aY ((aB.refl [] wr).alloc o);have F:aB vn.ownBlock.toList (wr.alloc o) w5:=aB.fo l;have d:∀k,k∈vn.ownBlock.toList->fb+1<=k:=λk b=>by rw[a0H]at b;exact(h.nl.lt k b).1
 have r:=K.au.aC F (λf=>by have:=d _ f;omega);have q:aB [ab] w5 (w5.setCell (zB ab 258) (zS g (nx.length+1) cap)):=zK.setCell (.inl (by simp)) _;have S5:ST (fb+1) w5 fb vb D ak c U (vs.ownBlock.toList++[g]):=by have:=(h.st.aty (Z2:=vn.ownBlock.toList++vs.ownBlock.toList) (λk b=>by simp only[a0e]at b |-;exact b.symm)).akd l p t i.1 i.2;exact this.aty (λk b=>by simp only[a0e]at b |-;exact b.symm)
 refine⟨?_,h.mp,?_,ownsRow_setCell_below s (a:=(zB ab 258)) (by show ab<fb+1;omega) _,?_,r.Ke _,h.ln,(K.fr.above F (λx u=>.inl (by have:=d _ u;omega))).above q (by simp),h.fe,h.lo⟩
 .exact S5.aC q (by simp;omega) (by simp;omega) r.wu
 .refine ownsRow_setCell_below (mO K.il F (λk b f=>by rw[a0H]at f;exact h.ne k b f)) (a:=(zB ab 258)) (by show ab<fb+1;omega) _
 intro k b j;simp[Value.ownBlock]at j;subst j;rcases p with e|e
 .exact h.ne _ b e
 have:=(h.il.lt _ b).2;simp at e;omega
end
def QL(base:Nat)(w:World)(v:Value)(L:List Bool):Prop:=w.ownsRow base 4 1 v L.length (L.map λb=>.bool b)
def YF(St:List LN)(f:LN->Bool)(j:Nat)(u:LN)(h:St[j]?=some u):(St.take (j+1)).map f=(St.take j).map f++[f u]:=by rw[a1c,h,a0P];rfl
def ahK {R:Bool × List LN × LN}(h:yz X F k i St nx=R)(a:St.length<=i):R=(true,St,nx):=by
 rw[<-h];cases k with
 | zero=>rfl
 | succ k=>rw[yz,a1Z a]
def ahL(w:World)(e:RX)(F CL:LN)(en:Ending)(w':World):Prop :=
 aB [] w w'/\((oC (bn e) F).1=false->en=zQ #[.agg Tryz.zeroCells102,.bool false]) /\
 ((oC (bn e) F).1=true->∃va vn,en=zQ #[.agg (zI F.length::(nv .u8 CL++[va,vn])).toArray,.bool true]/\QL w.heap.size w' va ((oC (bn e) F).2.1.map λu=>dK (dW (bn e) u))/\IL w.heap.size w' vn (oC (bn e) F).2.2)
def AQ.start{a:World} {CL:LN}{b:Nat}(i:ST (w2.heap.size+1) a w2.heap.size vb D 0 0 U [])(f:D[b]?=some X)(h:AB a ab n CL zN zN)(g:aB [ab] w2 a)(e:ab<w2.heap.size)(hz:w2.heap.size+1<=a.heap.size) :
 AQ X w2 (a.alloc (Obj.cells #[zI b] 3)) ab w2.heap.size U n CL (zS a.heap.size 1 1) zN [b] [[]] [] vb D 0 0:=by
 have F:=(aB.refl [] a).alloc (Obj.cells #[zI b] 3);refine⟨?_,?_,?_,World.ownsRow_nil _ _ _ _,by simp[Value.ownBlock],h.aC F (by simp),rfl,g.above F (by simp),rfl,e⟩
 .have:=i.more F (Z2:=[a.heap.size]) (λk d=>by simp at d;subst d;simp)
  simpa[Value.ownBlock] using this
 .intro j u c
  cases j with
  | zero=>simp at c;subst c;exact⟨b,rfl,f⟩
  | succ j=>simp at c
 exact BH (base:=a.heap.size) (World.ownsRow_lit _ #[zI b] 1 (a0b _) (by unfold maxLen;omega) (by simp)) hz
def adK(X:NF)(w:LN)(F:LN)(j c:Nat)(St:List LN)(nx:LN)(a:F[j]?=some c):rQ X w (F.drop j) St nx=if Bi X St (w++[c])=40 then (false,St,nx) else rQ X w (F.drop (j+1)) (if Bi X St (w++[c])=St.length then St++[w++[c]] else St) (nx++[Bi X St (w++[c])]):=by have b:=(a0d.1 a).1;have he:=(a0d.1 a).2;rw[a0k b,he,rQ]
structure awJ(e:RX)(F:LN)(wB wr:World)(ab:Nat)(CL:LN)(vs:Value)(i k:Nat)(I:LN)(St:List LN)(nx:LN)(vn:Value)(vb:Nat)(D:List NF)(c:Nat):Prop where
 aq:AQ (bn e) wB wr ab wB.heap.size (D7 e F) F.length CL vs vn I St nx vb D nx.length c
 go:yz (bn e) F k i St nx=oC (bn e) F
 wb:WB St
 le:nx.length<=i*F.length
 il:i<=St.length
structure InQ(e:RX)(F:LN)(wB wr:World)(ab:Nat)(CL:LN)(vs:Value)(i j:Nat)(w:LN)(RW:Bool × List LN × LN)(I:LN)(St:List LN)(nx:LN)(vn:Value)(vb:Nat)(D:List NF)(c:Nat):Prop where
 aq:AQ (bn e) wB wr ab wB.heap.size (D7 e F) F.length CL vs vn I St nx vb D nx.length c
 go:rQ (bn e) w (F.drop j) St nx=RW
 wb:WB St
 le:nx.length<=i*F.length+j
 il:St[i]?=some w
def abk{w:LN} {R:Bool × List LN × LN}(h:yz X F (k+1) i St nx=R)(a:St[i]?=some w) :
 R=(match rQ X w F St nx with | (false,r)=>(false,r)|(true,zY,AX)=>yz X F k (i+1) zY AX):=by
 rw[<-h,yz,a]
 rfl
def ap5{w:LN} {R:Bool × List LN × LN}(h:yz X F (k+1) i St nx=R)(c:St[i]?=some w):(rQ X w F St nx).2.1 <+: R.2.1:=by
 have e:=abk h c;rw[e]
 split
 .rename_i r a;rw[a];exact a0N _
 rename_i b d a;rw[a];exact ady X F k (i+1) b d
theorem Vx(A:Nat->Prop)(base:Nat)(w:World)(eb:Nat)(e:RX)(vS:Value)(S F CL:LN)(hx:XR A w eb e)(hs:BL base w vS S)(hS:S.length<=1000)(hF:gP S 256=F)(hCL:Xa S 256=CL)(ho:tL e)(hd:uO e)(hp:dI e<=40)(ht:jX e<=40)(hn:Dn e<=200) :
 Calls Tryz.prog 141 #[.pointer (some ⟨eb,0,none⟩),vS] w (ahL w e F CL):=by
 obtain⟨asl,aa5,rfl⟩:=aW hs;have HX:=aj hx;have HBS:=aj hs;have HF:=aj hF;have Ao:=aj hCL;clear hx hs hF hCL;have fI:Tryz.zeroCells102.all (·.oneCell')=true:=xH;have ap6:=run_storeCells_new (P:=Tryz.prog) (w.alloc (Obj.cells Tryz.zeroCells102 102)) 102 Tryz.zeroCells102 Tryz.zeroCells102 (by rw[jZ];exact H8) rfl fI;have hw1:(w.alloc (Obj.cells Tryz.zeroCells102 102)).heap.size=w.heap.size+1:=by simp
 rw[hw1]at ap6;clear fI hw1;go_enter Tryz.func141,Tryz.ntmps141
 go_wp2_with fail
 have F1:aB [] w ((w.alloc (Obj.cells Tryz.zeroCells102 102)).alloc (Obj.cells Tryz.zeroCells102 102)):=((aB.refl _ _).alloc _).alloc _;have S9:AB ((w.alloc (Obj.cells Tryz.zeroCells102 102)).alloc (Obj.cells Tryz.zeroCells102 102)) (w.heap.size+1) 0 (List.replicate 256 0) (.slice none 0 0) (.slice none 0 0):=by
  have:=AB.new (w.alloc (Obj.cells Tryz.zeroCells102 102));have hw1:(w.alloc (Obj.cells Tryz.zeroCells102 102)).heap.size=w.heap.size+1:=by simp
  rw[hw1]at this;exact this
 have hR1:((w.alloc (Obj.cells Tryz.zeroCells102 102)).alloc (Obj.cells Tryz.zeroCells102 102)).heap[w.heap.size]?=some (.cells Tryz.zeroCells102 102 (0,0)):=by
  rw[((aB.refl [] _).alloc _).block w.heap.size (by simp) (by simp)];exact bD _ _
 have fM:((w.alloc (Obj.cells Tryz.zeroCells102 102)).alloc (Obj.cells Tryz.zeroCells102 102)).heap.size=w.heap.size+2:=by simp
 generalize (w.alloc (Obj.cells Tryz.zeroCells102 102)).alloc (Obj.cells Tryz.zeroCells102 102)=w1 at F1 S9 hR1 fM |-;have sZ:=aj F1;have NQ:=aj hR1;have hSB:=aa6 base (w.heap.size+1) (.slice asl S.length aa5) S F CL (.slice none 0 0) (.slice none 0 0) w1 HF.o Ao.o (fG HBS.o F1 (by simp)) S9 hS (λe=>by have:=(HBS.o.lt _ e).2;omega);clear F1 hR1 S9 ap6;refine hSB.mono ?_;rintro en w2 ⟨vf,rfl,hul,ahB,aR⟩;obtain⟨af,aa7,rfl⟩:=aW hul;have z2:=aR.size;have UF:=aj hul;obtain⟨a2f,c2f,e2f,hNf⟩:=xV hul;simp only[Value.slice.injEq,a1W]at e2f;obtain⟨rfl,rfl⟩:=e2f;have NFF:=aj hNf;clear hNf;have A2:=aj ahB;have F2:=aj aR;clear hul ahB aR hSB;go_wp2_with fail
 refine(acv w2).mono ?_;rintro en w3 ⟨va,rfl,hft,Xn,bW⟩;have z3:=bW.size;have ayi:=hft.lt;obtain⟨vb0,ap7⟩:=ST.start (c:=0) (U:=D7 e F) hft Xn (by omega) am6 (am4 ho hd hp ht hn (by have:=xW S 256;rw[HF.o]at this;omega));have KX:pO A w w3:=by
  intro k _ ⟨cu,fz,hk⟩;have aL:k<w.heap.size:=by rcases hk with e|e<;>exact(a0c.1 e).1
  rw[bW.block k (by omega) (by simp),F2.o.block k (by omega) (by simp;omega),sZ.o.block k aL (by simp)]
 have NM:=aj (Le e A (w2.heap.size+1) w3 w2.heap.size vb0 [.zero,.one] 0 0 (D7 e F) [] eb ap7 (HX.o.aY KX) (YS ho hd hp (by omega) am5) hd ho);have S0:=aj ap7;have F3:=aj bW;clear hft Xn bW ap7 KX;go_wp2_with fail
 refine(NM.o).mono ?_;rintro en w4 ⟨Dp,R,r0,rfl,alJ,Sn,hq4⟩;have z4:=hq4.fr.size;have A4:AB w4 (w.heap.size+1) F.length CL (.slice none 0 0) (.slice none 0 0):=(A2.o.aC F3.o (by simp)).aC hq4.fr (by have:=S0.o.pP.2.2.2.2.2;simp;omega);have F4:aB [w.heap.size+1] w2 w4:=(F3.o.nil).above hq4.fr (by have:=S0.o.pP.2.2.2.2.2;simp;omega);have Q5:=aj (AQ.start alJ Sn A4 F4 (by omega) (by omega));have hFl:F.length<=256:=by have:=xW S 256;rw[HF.o]at this;exact this.1
 have HFb:Z_ (∀f∈F,f<256):=by have:=xW S 256;rw[HF.o]at this;exact this.2
 clear alJ Sn hq4 A4 F4 NM S0;go_wp2_with fail
 go_loopg [10,11] 41 (λk v10 v11 wr=>∃(i:Nat) (I:LN) (St:List LN) (nx:LN) (vn:Value) (vb:Nat) (D:List NF) (c:Nat),i+k=41/\v11=.int .i64 i/\awJ e F w2 wr (w.heap.size+1) CL v10 i k I St nx vn vb D c)
 case atStart=>exact⟨0,[r0],[[]],[],.slice none 0 0,Dp,_,0,by omega,rfl,⟨Q5,rfl,WB.one,by simp,by simp⟩⟩
 case round =>
  clear Q5;obtain⟨i,I,St,nx,vn,vb,D,c,Ku,rfl,hq⟩:=hrel;obtain⟨wo,Vg⟩:∃wo,wo=wr:=⟨_,rfl⟩;subst Vg;obtain⟨go,iD⟩:∃go,go=gk:=⟨_,rfl⟩;subst iD;obtain⟨ast,cst,rfl⟩:=aW hq.aq.il;have Q:=aj hq;have KH:=hq.aq.ln;have HLN:=aj KH;have EH:=hq.wb.1;have PQ:=hq.le;have hIl:I.length<=40:=by omega
  clear hq KH
  by_cases aL:i<I.length
  ·obtain⟨g1,IE⟩:∃g1,go=g1+1:=⟨go-1,by omega⟩
   subst IE;obtain⟨u,hu⟩:∃u,St[i]?=some u:=⟨St[i]'(by have:=HLN.o;omega),a0a (by have:=HLN.o;omega)⟩;have Vt:=aj (abk Q.o.go hu);have PRE:=aj (ap5 Q.o.go hu);have ap8:Z_ (u∈(oC (bn e) F).2.1):=a0B (rR PRE.o (rR (Vn (bn e) u F St nx) hu));have IN0:Z_ (InQ e F w2 wo (w.heap.size+1) CL (.slice ast I.length cst) i 0 u (rQ (bn e) u F St nx) I St nx vn vb D c):=⟨Q.o.aq,rfl,Q.o.wb,by have:=Q.o.le;omega,hu⟩;generalize rQ (bn e) u F St nx=RW at *;clear hu Q hIl;go_wp2_with fail
   go_loopg [10,35] F.length (λk v10 v35 wr=>∃(j:Nat) (I:LN) (St:List LN) (nx:LN) (vn:Value) (vb:Nat) (D:List NF) (c:Nat),j+k=F.length/\v35=.int .i64 j/\InQ e F w2 wr (w.heap.size+1) CL v10 i j u RW I St nx vn vb D c)
   case atStart=>exact⟨0,I,St,nx,vn,vb,D,c,by omega,rfl,IN0⟩
   case round =>
    clear IN0;obtain⟨j,I2,o9,zg,vn2,Aw,D2,c2,lU,rfl,pQ⟩:=hrel;obtain⟨as2,cs2,rfl⟩:=aW pQ.aq.il;obtain⟨an2,cn2,rfl⟩:=aW pQ.aq.nl;have Q2:=aj pQ;have atz:=pQ.aq.ln;have atA:=aj atz;have atB:=pQ.wb.1;have ayj:=pQ.le;have alL:=(a0d.1 pQ.il).1;have zr:=pQ.aq.fr.size;have hI2:i<I2.length:=by omega
    have ayk:I2.length<=40:=by omega
    clear pQ atz;have hfm:i*F.length<=40*256:=a0D (by omega) hFl
    by_cases ng:j<F.length
    ·have hFj:F[j]?=some F[j]:=a0a ng
     obtain⟨gf,of,rfl,iE,hcf⟩:=NFF.o j ng;have hgf:=(UF.o.lt _ rfl).1;simp only at hgf;have kL:wr.cell? ⟨gf,of+j,none⟩=some (.int .u8 (F[j]:Nat)):=(Q2.o.aq.fr.cell (p:=⟨gf,of+j,none⟩) iE (by simp;omega)).trans hcf;have hcm:F[j]∈F:=a0u ng;have hc256:=HFb.o _ hcm;obtain⟨q,hIq,hDq⟩:=Q2.o.aq.mp i u Q2.o.il;obtain⟨gs,rfl⟩:∃g,as2=some ⟨g,0,none⟩:=by
      rcases Q2.o.aq.il.2 with⟨e1,h1⟩|⟨g,c,cur,e1,_⟩
      ·omega
      simp at e1;exact⟨g,e1.1⟩
     have pY:wr.cell? ⟨gs,i,none⟩=some (.int .i64 (q:Nat)):=by
      have:=Q2.o.aq.il.cell i hI2;rw[a0a hI2]at hIq;simp only[Option.some.injEq]at hIq;rw[hIq]at this;exact this
     have RD:=aj (adK (bn e) u F j F[j] o9 zg hFj);have LB:=aj (YE (w2.heap.size+1) wr w2.heap.size Aw D2 zg.length F[j] c2 (D7 e F) _ q (dW (bn e) u) Q2.o.aq.st hDq (aj5 ho hp ht ap8.o hcm) hc256 (by omega));have hsn:Z_ (left F[j] (dW (bn e) u)=dW (bn e) (u++[F[j]])):=(tK _ _ _).symm;rw[hsn.o]at LB;clear hcf hFj hIq hDq hcm hsn;generalize F[j]=cc at *;have ayl:(i:Int)<I2.length:=by omega
     go_wp2_with fail
     refine(LB.o).mono ?_;rintro en w5 ⟨vb5,R5,r5,rfl,atC,hr5,hq5⟩;have A5:=aj (Q2.o.aq.turn atC hq5);have IG:=aj hr5;have ap9:=A5.o.find hr5;have FI:=aj7 (.slice (some ⟨gs,0,none⟩) I2.length cs2) I2 r5 w5 (xV A5.o.il) (by omega);rw[ap9]at FI;have FI2:=aj FI;have aym:=alx (bn e) o9 (u++[cc]);have z5:=hq5.fr.size;clear atC hr5 hq5 ap9 FI LB kL pY;have RD2:Z_ (RW=if Bi (bn e) o9 (u++[cc])=40 then (false,o9,zg) else rQ (bn e) u (F.drop (j+1)) (if Bi (bn e) o9 (u++[cc])=o9.length then o9++[u++[cc]] else o9) (zg++[Bi (bn e) o9 (u++[cc])])):=by
      show _=_;rw[<-Q2.o.go];exact RD
     clear RD;generalize Bi (bn e) o9 (u++[cc])=nn at *;go_wp2_with fail
     refine(FI2.o).mono ?_;rintro en w5' ⟨rfl,rfl⟩
     by_cases Eu:nn=40
     ·have HAR:Z_ (oC (bn e) F=(false,o9,zg)):=by show _=_;rw[Vt.o,RD2.o,a0m Eu]
      have jW:w5.heap[w.heap.size]?=some (.cells Tryz.zeroCells102 102 (0,0)):=by
       rw[A5.o.fr.block w.heap.size (by omega) (by simp),F2.o.block w.heap.size (by omega) (by simp)];exact NQ
      have dY:=vX jW rfl xH;have xZ:=aj (vW (cs:=Tryz.zeroCells102) jW);have FF:Z_ (aB [] w (w5.setRow w.heap.size Tryz.zeroCells102)):=(sZ.o.above ((F2.o.above A5.o.fr (by simp))) (by intro x hx;simp at hx;omega)).above (aB.setRow _ _ _) (by simp);subst Eu;clear jW;go_wp2
      (try simp only[Exit.inBlock,Exit.then])
      refine bodyPost_ret (bS rfl _ _ w.heap.size _ rfl (rY xZ.o jZ)) rfl ?_;refine⟨FF,λ_=>rfl,λh=>?_⟩;rw[HAR.o]at h;simp at h
     have ayn:((nn:Int)==40)=false:=by rw[a0j];omega
     have RD3:Z_ (RW=rQ (bn e) u (F.drop (j+1)) (if nn=o9.length then o9++[u++[cc]] else o9) (zg++[nn])):=by
      show _=_;rw[RD2.o,a0n Eu]
     clear RD2 FI2;have hcN:=A5.o.au.cN.2
     by_cases uD:nn=o9.length
     ·have hnI:nn=I2.length:=by have:=atA.o;omega
      subst hnI;have RD4:Z_ (rQ (bn e) u (F.drop (j+1)) (o9++[u++[cc]]) (zg++[I2.length])=RW):=by
       show _=_;rw[RD3.o,a0m uD]
      have WB4:=aj (Q2.o.wb.add (c:=cc) Q2.o.il (by omega));have IL4:Z_ ((o9++[u++[cc]])[i]?=some u):=rR (a1t _ _) Q2.o.il;clear RD3 uD;go_wp2_with (first | (at_builtin;refine vG _ rfl _ _ rfl (w2.heap.size+1) (.slice (some ⟨gs,0,none⟩) I2.length cs2) I2 r5 w5.heap.size rfl (A5.o.il.alloc _) rfl (j6 _ _ _ _ rfl) (by omega) (by simp;omega) ?_;intro gg aU w6 aS aH bq awK;have A6:=aj (A5.o.awI IG.o aS aH bq awK);have ayo:=A6.o.au.cN.2;have zz6:=A6.o.fr.size;clear aS aH bq)|(at_builtin;refine vG _ rfl _ _ rfl (w2.heap.size+1) (.slice an2 zg.length cn2) zg I2.length w6.heap.size rfl (A6.o.nl.alloc _) rfl (j6 _ _ _ _ rfl) (by omega) (by simp;omega) ?_;intro g7 atm w7 aS aH bq aqa;have A7:=aj (A6.o.addN aS aH bq aqa);have AB7:=(A6.o.aY ((aB.refl [] w6).alloc _)).au.aC (aB.fo aH) (λhm=>by rw[a0H]at hm;have:=(A6.o.nl.lt _ hm).1;omega);have hc7:=AB7.cN.2;have Nw:=AB7.fz 258;clear aS aH bq AB7))
      go_roundg (gk-1)
      case measure=>omega
      case rel=>exact⟨j+1,_,_,_,_,vb5,_,cc,by omega,by go_num,⟨by simpa using A7.o,RD4,WB4,by simp;omega,IL4⟩⟩
     have hnI:nn≠I2.length:=by have:=atA.o;omega
     have hbI:=atr hnI;have RD4:Z_ (rQ (bn e) u (F.drop (j+1)) o9 (zg++[nn])=RW):=by
      show _=_;rw[RD3.o,a0n uD]
     clear RD3 uD;go_wp2_with (first | (at_builtin;refine vG _ rfl _ _ rfl (w2.heap.size+1) (.slice an2 zg.length cn2) zg nn w5.heap.size rfl (A5.o.nl.alloc _) rfl (j6 _ _ _ _ rfl) (by omega) (by simp;omega) ?_;intro g7 atm w7 aS aH bq aqa;have A7:=aj (A5.o.addN aS aH bq aqa);have AB7:=(A5.o.aY ((aB.refl [] w5).alloc _)).au.aC (aB.fo aH) (λhm=>by rw[a0H]at hm;have:=(A5.o.nl.lt _ hm).1;omega);have hc7:=AB7.cN.2;have Nw:=AB7.fz 258;clear aS aH bq AB7))
     go_roundg (gk-1)
     case measure=>omega
     case rel=>exact⟨j+1,_,_,_,_,vb5,_,cc,by omega,by go_num,⟨by simpa using A7.o,RD4,Q2.o.wb,by simp;omega,Q2.o.il⟩⟩
    have mK:j=F.length:=by omega
    have Li:RW=(true,o9,zg):=by rw[<-Q2.o.go,mK,a2H];rfl
    have HGO:Z_ (yz (bn e) F g1 (i+1) o9 zg=oC (bn e) F):=by
     show _=_;have:=Vt.o;rw[Li]at this;exact this.symm
    have hle:zg.length<=(i+1)*F.length:=by rw[a0J];omega
    clear Li;go_wp2;go_roundg g1
    case measure=>omega
    case rel=>exact⟨i+1,I2,o9,zg,_,Aw,D2,c2,by omega,by go_num,⟨Q2.o.aq,HGO,Q2.o.wb,hle,by omega⟩⟩
  have HAR:Z_ (oC (bn e) F=(true,St,nx)):=ahK Q.o.go (by have:=HLN.o;omega);have hA0:=Q.o.aq.au;have hFw:aB [w.heap.size+1] w2 wo:=Q.o.aq.fr;have jW:wo.heap[w.heap.size]?=some (.cells Tryz.zeroCells102 102 (0,0)):=by
   rw[hFw.block w.heap.size (by omega) (by simp),F2.o.block w.heap.size (by omega) (by simp)];exact NQ
  have HA0:=aj hA0;have xZ:=aj jW;have zo:=hFw.size;have alK:=(Dx Q.o.aq.il);clear hA0 jW hFw;obtain⟨an,cn,rfl⟩:=aW Q.o.aq.nl;have hls:=Q.o.aq.st.pP.2.2.2.2.2;go_wp2_with fail
  go_loopg [69] I.length (λk v69 wr=>∃(j:Nat) (va:Value),j+k=I.length/\v69=.int .i64 j/\QL wo.heap.size wr va ((St.take j).map λu=>dK (dW (bn e) u))/\AB wr (w.heap.size+1) F.length CL va (.slice an nx.length cn)/\aB [w.heap.size+1] wo wr)
  case atStart=>exact⟨0,.slice none 0 0,by omega,rfl,World.ownsRow_nil _ _ _ _,HA0,aB.refl _ _⟩
  case round =>
   obtain⟨j,va,lU,rfl,Kv,uz,bH⟩:=hrel;obtain⟨aa,ca,rfl⟩:=aW Kv;have QL1:=aj Kv;have AB1:=aj uz;have FR1:=aj bH;have z1:=bH.size;have auW:=uz.lt;clear Kv uz bH
   by_cases Gb:j<I.length
   ·obtain⟨u,hu⟩:∃u,St[j]?=some u:=⟨St[j]'(by have:=HLN.o;omega),a0a (by have:=HLN.o;omega)⟩
    obtain⟨q,hIq,hDq⟩:=Q.o.aq.mp j u hu;obtain⟨gs,rfl⟩:∃g,ast=some ⟨g,0,none⟩:=by
     rcases Q.o.aq.il.2 with⟨e1,h1⟩|⟨g,c,cur,e1,_⟩
     ·omega
     simp at e1;exact⟨g,e1.1⟩
    have XO:=Q.o.aq.il.lt gs rfl;have pY:wr.cell? ⟨gs,j,none⟩=some (.int .i64 (q:Nat)):=by
     have:=Q.o.aq.il.cell j Gb;rw[a0a Gb]at hIq;simp only[Option.some.injEq]at hIq;rw[hIq]at this;rw[FR1.o.cell (p:=⟨gs,j,none⟩) XO.2 (by simp;omega)];exact this
    have atD:=Q.o.aq.st.aC FR1.o (by simp;omega) (by simp;omega) HA0.o.wu;obtain⟨f,L2,aU,K⟩:=atD.look hDq;have t0:=K.tab;have k8:=K.get.2.2.2.2.2.2.2.2.1;have ayp:=K.lt;rw[K.te]at k8;have hcA:=AB1.o.cN.1;have hzA:=AB1.o.fz 257;have MT:=aj (YF St (λu=>dK (dW (bn e) u)) j u hu);have pQ:(q:Int)<D.length:=by omega
    have hSl:((St.take j).map λu=>dK (dW (bn e) u)).length<=40:=by simp;omega
    clear K atD hIq hDq hu;generalize dK (dW (bn e) u)=bb at *;generalize ((St.take j).map λu=>dK (dW (bn e) u))=LB at *;obtain⟨i9,hi9,Qa,Yk,Il⟩:=info_parts acT;have QLr:Z_ (wr.ownsRow wo.heap.size 4 1 (.slice aa LB.length ca) LB.length (LB.map λb=>.bool b)):=QL1.o;have bJ:Value.ownBlock (.slice aa LB.length ca)≠some (w.heap.size+1):=λe=>by have:=(QL1.o.lt _ e).1;omega
    have g2:∀o:Obj,(wr.alloc o).drew.frozen? ⟨w.heap.size+1,257,none⟩=false:=λo=>((((aB.refl [] wr).alloc o).drew).frozen auW (by simp)).trans hzA
    go_wp2_with fail
    go_region_law ((refine step_append_lies _ (by rfl) _ _ _ (by rfl) wo.heap.size 4 i9 _ 1 1 Tryz.underlying99 hi9 Qa Yk Il rfl (by omega) (.slice aa LB.length ca) LB.length (LB.map λb=>.bool b) (by rfl) (by exact QLr.o.alloc _) ⟨wr.heap.size,0,none⟩ 1 1 [.bool bb] (by rfl) (by rfl) (World.news_of_block (cs:=#[.bool bb]) (t:=4) (fr:=(0,0)) (by exact bD _ _)) (by simp[Value.oneCell']) (by omega) (by unfold maxLen;omega) (by omega) (by simp;omega) (wr.heap.size+1) (by simp) ?_;intro gg Kq w4 bT aH bq AO;have c4:=(aH.cell_far ⟨w.heap.size+1,257,none⟩ (by simp;omega) (Ne.symm bJ));have f4:=(aH.frozen_far ⟨w.heap.size+1,257,none⟩ (by simp;omega) (Ne.symm bJ));have f5:=f4.trans (g2 _)))
    all_goals
     have F4:=aB.fo aH;have AB4:=(AB1.o.aC (S:=[]) (((aB.refl [] wr).alloc (Obj.cells #[.bool bb] 4)).drew) (by simp)).aC F4 (by simpa[a0H] using λe=>bJ e);have AB5:=aj (AB4.agr (.slice (some ⟨gg,0,none⟩) (LB.length+1) Kq));have QL5:=aj (ownsRow_setCell_below bT (a:=⟨w.heap.size+1,257,none⟩) (by show w.heap.size+1<wo.heap.size;omega) (.slice (some ⟨gg,0,none⟩) (LB.length+1) Kq));have FR5:Z_ (aB [w.heap.size+1] wo (w4.setCell ⟨w.heap.size+1,257,none⟩ (.slice (some ⟨gg,0,none⟩) (LB.length+1) Kq))):=aB.setCell (aB.grown ((FR1.o.alloc _).drew) aH (λk hk=>.inr (QL1.o.lt k hk).1)) (.inl (by simp)) _;clear F4 AB4 bT aH bq;go_wp2;go_roundg (gk-1)
     case measure=>omega
     case rel =>
      refine⟨j+1,_,by omega,by go_num,?_,AB5,FR5⟩;rw[MT.o];unfold QL;simpa using QL5.o
   have qI:j=St.length:=by have:=HLN.o;omega
   have htk:((St.take j).map λu=>dK (dW (bn e) u))=St.map λu=>dK (dW (bn e) u):=by rw[qI,a2h]
   rw[htk]at QL1 AB1;have FJ:wr.heap[w.heap.size]?=some (.cells Tryz.zeroCells102 102 (0,0)):=(FR1.o.block w.heap.size (by omega) (by simp)).trans xZ;have eG:(Value.int .i64 F.length::(nv .u8 CL++[.slice aa (St.map λu=>dK (dW (bn e) u)).length ca,.slice an nx.length cn])).toArray.size=259:=by simp[nv,AB1.o.2]
   have atE:=aj AB1.o.1;have fI:(Value.int .i64 F.length::(nv .u8 CL++[.slice aa (St.map λu=>dK (dW (bn e) u)).length ca,.slice an nx.length cn])).toArray.all (·.oneCell')=true:=by
    refine a2g.2 λv hv=>?_
    simp[nv]at hv;rcases hv with rfl|⟨a,_,rfl⟩|rfl|rfl<;>rfl
   have adL:=aj fI;have awL:=aj FJ;have Xf:=aj (vW (cs:=(Value.int .i64 F.length::(nv .u8 CL++[.slice aa (St.map λu=>dK (dW (bn e) u)).length ca,.slice an nx.length cn])).toArray) FJ);have HSZ:=aj eG;have FW:Z_ (aB [] w wr):=(sZ.o.above (F2.o.above (Q.o.aq.fr.above FR1.o (by simp)) (by simp)) (by intro x hx;simp at hx;omega));have NL1:Z_ (∀cs,IL w.heap.size (wr.setRow w.heap.size cs) (.slice an nx.length cn) nx):=λcs=>BH (mO (mO Q.o.aq.nl FR1.o (λk hk=>by have:=(Q.o.aq.nl.lt k hk).1;simp;omega)) (aB.setRow _ _ cs) (λk hk=>by have:=(Q.o.aq.nl.lt k hk).1;simp;omega)) (by omega)
   have QLf:Z_ (∀cs,QL w.heap.size (wr.setRow w.heap.size cs) (.slice aa (St.map λu=>dK (dW (bn e) u)).length ca) (St.map λu=>dK (dW (bn e) u))):=λcs=>BH (mO QL1.o (aB.setRow _ _ cs) (λk hk=>by have:=(QL1.o.lt k hk).1;simp;omega)) (by omega)
   generalize pY:(Value.int .i64 F.length::(nv .u8 CL++[.slice aa (St.map λu=>dK (dW (bn e) u)).length ca,.slice an nx.length cn])).toArray=cs at atE adL Xf HSZ;have II:=aj pY;have awM:=aj (vX awL.o (by rw[HSZ.o,jZ]) adL);clear fI FJ eG qI htk pY;go_wp2_with fail
   refine H9 (.tmp 6) rfl (w.heap.size+1) rfl cs (rY atE.o HSZ) ?_;have eG:=HSZ.o;have ap6:=awM.o;go_wp2
   (try simp only[Exit.inBlock,Exit.then])
   refine bodyPost_ret (bS rfl _ _ w.heap.size _ rfl (rY Xf.o HSZ)) rfl ?_;refine⟨FW.o.above (aB.setRow _ _ _) (by simp),λh=>?_,λ_=>?_⟩
   ·rw[HAR.o]at h;simp at h
   refine⟨.slice aa (St.map λu=>dK (dW (bn e) u)).length ca,.slice an nx.length cn,congrArg (λz=>Ending.returned (.tuple #[.agg z,.bool true])) II.o.symm,?_,?_⟩
   ·rw[HAR.o];exact QLf.o _
   rw[HAR.o];exact NL1.o _
def atF:∀q:Addr,(Value.string { data:=#[] })≠.pointer (some q):=by simp
def atG:∀q:Addr,(Value.pointer none)≠.pointer (some q):=by simp
structure BQ(X:NF)(F:LN)(w wr:World)(v5 v7 v8:Value)(ps:LN)(St:List LN):Prop where
 o5:OV 3 w.heap.size wr v5 (nv .i64 F)
 o7:OZ 210 (.pointer none) w.heap.size wr v7 (ps.map aM)
 o8:OZ 9 (.string { data:=#[] }) w.heap.size wr v8 (sv (St.map λu=>name (dW X u)))
 tn:jC wr ps (St.map (dW X))
 fr:aB [] w wr
 wb:WB St
theorem BQ.aC{wr:World}(h:BQ X F w wr v5 v7 v8 ps St)(f:aB [] wr w'):BQ X F w w' v5 v7 v8 ps St :=
 ⟨h.o5.aC f (by simp),h.o7.aC f (by simp),h.o8.aC f (by simp),h.tn.aC f,h.fr.trans f,h.wb⟩
theorem BQ.len{wr:World}(h:BQ X F w wr v5 v7 v8 ps St):ps.length=St.length:=by have:=h.tn.len;rw[a0y]at this;exact this
def acx(w:World)(p:Nat)(t:TR)(X:NF)(F:LN)(h:RN w p t)(hl:(kP t).length<=1000)(hg:GT t)(hX:dJ t=X)(hF:gP (kP t) 256=F)
 (hr:∀(u:LN) (c:Nat),u.length<=39->WC (dW X u)/\xP c (dW X u)/\nl (left c (dW X u))<9223372036854775807) :
 zF 74 #[zP p,zI 40] w λe w'=>∃n:Nat,e=zR (zI n)/\n<=41/\(40<n↔(oC X F).1=false)/\aB [] w w':=by
 have A0:=afp w p t h hl;rw[hF]at A0;have A:=aj A0;have B:Z_ (∀M,aB [] w M->zF 103 #[zP p] M (zU M X)):=λM hf=>by
  have:=qU t M p (RN.aY (dX.of hf) h) hg;rw[hX]at this;exact this
 have HR:=aj hr;have hFl:F.length<=256:=by have:=xW (kP t) 256;rw[hF]at this;exact this.1
 have HFb:Z_ (∀f∈F,f<256):=by have:=xW (kP t) 256;rw[hF]at this;exact this.2
 clear h hg hX hF hr A0 hl;delta zF;go_in
 go_wp2_with fail
 refine(A.o).mono ?_;rintro e M ⟨v5,rfl,sU,aZ⟩;have B1:=aj (B.o M aZ);have O1:=aj sU;have F1:=aj aZ;obtain⟨a5,E,c5,rfl,NV⟩:=sU.open;have Y9:Z_ (E=F.length):=by show _=_;rw[NV];simp[nv]
 have ayq:E<=256:=by have:=Y9.o;omega
 clear sU aZ NV A B;go_wp2_with fail
 refine(B1.o).mono ?_;rintro e w2 ⟨q,rfl,ht,aR⟩;have G:=ht.nm;have hq:=bY G;have Q0:Z_ (BQ X F w ((w2.alloc (.cells #[aM q] 210)).alloc (.cells #[zT (name X)] 9)) (.slice a5 E c5) (zS w2.heap.size 1 1) (zS (w2.heap.size+1) 1 1) [q] [[]]):=by
  have f2:=F1.o.trans aR;have z2:=f2.size;have fa:aB [] w2 ((w2.alloc (.cells #[aM q] 210)).alloc (.cells #[zT (name X)] 9)):=((aB.refl [] _).alloc _).alloc _;refine⟨(O1.o.aC aR (by simp)).aC fa (by simp),(OZ.lit w2 (aM q) z2).aC ((aB.refl [] _).alloc _) (by simp),?_,?_,f2.trans fa,WB.one⟩
  .have:=OZ.lit (e:=9) (z:=.string { data:=#[] }) (base:=w.heap.size) (w2.alloc (.cells #[aM q] 210)) (zT (name X)) (by simp;omega)
   simpa[sv,dW] using this
  have:=ht.aC fa;simp only[a0E,a1V,jC,dW];exact⟨this,trivial⟩
 clear ht aR B1 O1 F1;unfold aM at Q0 |-;go_wp2_with fail
 go_loopg [7,8,9] 41 (λk v7 v8 v9 wr=>∃(i:Nat) (ps:LN) (St:List LN) (nx:LN),i+k=41/\v9=zI i/\BQ X F w wr (.slice a5 E c5) v7 v8 ps St/\yz X F k i St nx=oC X F/\i<=St.length)
 case atStart=>exact⟨0,[q],[[]],[],by omega,rfl,Q0,rfl,by simp⟩
 case round =>
  clear Q0 G hq;obtain⟨i,ps,St,nx,Ku,rfl,hq,iD,jc⟩:=hrel;obtain⟨wo,Vg⟩:∃wo,wo=wr:=⟨_,rfl⟩;subst Vg;obtain⟨go,Ty⟩:∃go,go=gk:=⟨_,rfl⟩;subst Ty;obtain⟨a7,g,c7,rfl,v⟩:=hq.o7.ov.open;obtain⟨a8,D,c8,rfl,Od⟩:=hq.o8.ov.open;have r:Z_ (g=St.length):=by show _=_;rw[v,a0y,hq.len]
  have EH:=hq.wb.1;have Q:=aj hq;have GO:=aj iD;have atH:g<=40:=by have:=r.o;omega
  clear hq iD v Od
  by_cases aL:i<g
  .obtain⟨g1,IE⟩:∃g1,go=g1+1:=⟨go-1,by omega⟩
   subst IE;obtain⟨u,hu⟩:∃u,St[i]?=some u:=⟨St[i]'(by have:=r.o;omega),a0a (by have:=r.o;omega)⟩;have Vt:=aj (abk GO.o hu);have HU:=aj hu;obtain⟨RW,R⟩:∃RW,rQ X u F St nx=RW:=⟨_,rfl⟩;rw[R]at Vt;have Li:=aj R;clear hu R GO jc;go_wp2_with fail
   go_loopg [7,8,10] E (λk v7 v8 v10 wr=>∃(j:Nat) (ps:LN) (St:List LN) (nx:LN),j+k=E/\v10=zI j/\BQ X F w wr (.slice a5 E c5) v7 v8 ps St/\rQ X u (F.drop j) St nx=RW/\St[i]?=some u)
   case atStart=>exact⟨0,ps,St,nx,by omega,rfl,Q,Li,HU⟩
   case round =>
    clear Q HU Li atH EH r aL;obtain⟨j,s,a,L,lU,rfl,J,atI,U⟩:=hrel;obtain⟨a7,g,c7,rfl,v⟩:=J.o7.ov.open;obtain⟨a8,D,c8,rfl,Od⟩:=J.o8.ov.open;have r:Z_ (g=a.length):=by show _=_;rw[v,a0y,J.len]
    have Hn8:Z_ (D=a.length):=by show _=_;rw[Od];simp[sv]
    have I:=aj J.len;have atB:=J.wb.1;have alK:=(a0d.1 U).1;have hi7:i<g:=by have:=r.o;omega
    have atH:g<=40:=by have:=r.o;omega
    have ayr:D<=40:=by have:=Hn8.o;omega
    have zr:=J.fr.size;have Q2:=aj J;have GO2:=aj atI;have C:=aj U;clear J atI U v Od atB alK
    by_cases ng:j<E
    .obtain⟨c,hc⟩:∃c,F[j]?=some c:=⟨F[j]'(by have:=Y9.o;omega),a0a (by have:=Y9.o;omega)⟩
     have P:=HFb.o c (a0B hc);obtain⟨g5,rfl,_,Vy,hc5⟩:=Q2.o.o5.cell (j:=j) (u:=zI c) (by simp[nv,hc]);obtain⟨q,hq,Ij⟩:=Q2.o.tn.get i (dW X u) (by rw[a0Q,C.o];rfl);obtain⟨g7,rfl,_,hg7,hc7⟩:=Q2.o.o7.ov.cell (j:=i) (u:=aM q) (by rw[a0Q,hq];rfl);unfold aM at hc7;have atJ:u.length<=39:=by have:=Q2.o.wb.2 i u C;omega
     obtain⟨r1,r2,r3⟩:=HR.o u c atJ;have Y:∀W,aB [] wr W->zF 104 #[zP q,zI c] W (zU W (left c (dW X u))):=λW hf=>afe c P _ W q (Ij.aC hf) r1 r2 r3
     rw[<-tK]at Y;have NB:=aj Y;have V:=adK X u F j c a L hc;rw[GO2.o]at V;have RD:=aj V;have FN:Z_ (aB [] wr wr.drew):=(aB.refl [] wr).drew;have Z:=aj (apL X a (u++[c]));clear Y V r1 r2 r3 hq Ij hc atJ;go_wp2_with fail
     go_region_with (go_at_call 104;refine(NB.o _ FN).mono ?_;rintro e w5 ⟨q5,rfl,N,xe⟩)
     all_goals
      have G:=N.nm;have hq5:=bY G;have T5:=aj N;have b:=aj (Q2.o.aC (FN.o.trans xe));have z5:=(FN.o.trans xe).size;clear N xe hc7 hc5 hg7 Vy;unfold aM;have RSn:RS 0 w5 (.slice a8 D c8) (a.map λu=>name (dW X u)):=(b.o.o8.ov.sl.rs (by rw[a0y];have:=b.o.wb.1;omega)).base (a1G _);have NF:=aj (wh (.slice a8 D c8) (a.map λu=>name (dW X u)) (name (dW X (u++[c]))) w5 RSn);clear RSn;have Fa:a.length<=40:=b.o.wb.1;go_wp2_with fail
      refine(NF.o).mono ?_;rintro e w5' ⟨rfl,rfl⟩;clear NF;rcases Z.o with⟨AV,x⟩|⟨Ox,x⟩
      .generalize oI (a.map λu=>name (dW X u)) (name (dW X (u++[c])))=fi at AV |-
       have l:=RD.o;rw[x]at l;clear RD Z
       by_cases Eu:g=40
       .have HAR:Z_ ((oC X F).1=false):=by
         show _=_;rw[a0m (by have:=r.o;omega)]at l;rw[Vt.o,l]
        have dZ:40<g+1:=by omega
        have Hh:=aj Eu;clear l Eu x;go_wp2_with (first | (at_builtin;refine afq _ rfl _ _ 212 210 (.pointer none) 8 DY Tryz.underlying212 rfl (by decide) atG (by omega) rfl w.heap.size (zS g7 g c7) (s.map aM) (g+1) w5.heap.size (aM q5) (by rw[a0y,I.o,r.o]) rfl (b.o.o7.aC (S:=[]) ((aB.refl [] _).alloc _) (by simp)) rfl (mi _ _ _ _ rfl) rfl (by rw[a0y,I.o];omega) (by simp;omega) ?_;intro g8 c8' w7 y d m;have O7:=aj y;have P5:=aj (OV.other (b.o.o7.ov.aC (S:=[]) ((aB.refl [] _).alloc _) (by simp)) (b.o.o5.aC (S:=[]) ((aB.refl [] _).alloc _) (by simp)) (by decide) d);have H:=aj (OZ.other (b.o.o8.aC (S:=[]) ((aB.refl [] _).alloc _) (by simp)) (b.o.o7.ov.aC (S:=[]) ((aB.refl [] _).alloc _) (by simp)) (by decide) d);have T7:=aj ((b.o.tn.aC ((aB.refl [] _).alloc _)).kt m);have Y7:=aj ((T5.o.aC ((aB.refl [] _).alloc _)).kt m);have T:=Y7.o.nm;have hq7:=bY T;have F7:=aj ((b.o.fr.alloc _).grown d (λk O=>.inr (b.o.o7.ov.base k O)));have z7:=F7.o.size;clear y d m)|(at_builtin;refine afq _ rfl _ _ 44 9 (.string { data:=#[] }) 16 uY Tryz.underlying44 rfl (by decide) atF (by omega) rfl w.heap.size (.slice a8 D c8) (sv (a.map λu=>name (dW X u))) (D+1) w7.heap.size (zT (name (dW X (u++[c])))) (by rw[Hn8.o];simp[sv]) rfl (H.o.aC (S:=[]) ((aB.refl [] _).alloc _) (by simp)) rfl (mi _ _ _ _ rfl) rfl (by simp[sv];omega) (by simp;omega) ?_;intro g9 c9 w8 y d m;have O8:=aj y;have R5:=aj (OV.other (H.o.ov.aC (S:=[]) ((aB.refl [] _).alloc _) (by simp)) (P5.o.aC (S:=[]) ((aB.refl [] _).alloc _) (by simp)) (by decide) d);have R7:=aj (OZ.other (O7.o.aC (S:=[]) ((aB.refl [] _).alloc _) (by simp)) (H.o.ov.aC (S:=[]) ((aB.refl [] _).alloc _) (by simp)) (by decide) d);have T8:=aj ((T7.o.aC ((aB.refl [] _).alloc _)).kt m);have Y8:=aj ((Y7.o.aC ((aB.refl [] _).alloc _)).kt m);have F8:=aj ((F7.o.alloc _).grown d (λk O=>.inr (H.o.ov.base k O)));clear y d m))
        go_ret;exact⟨g+1,by go_num,by omega,⟨λ_=>HAR,λ_=>dZ⟩,F8⟩
       have HRD:Z_ (rQ X u (F.drop (j+1)) (a++[u++[c]]) (L++[a.length])=RW):=by
        show _=_;rw[a0n (by have:=r.o;omega),a0m rfl]at l;exact l.symm
       have WB3:=aj (b.o.wb.add (c:=c) C.o (by have:=r.o;omega));have hle:g+1<=40:=by omega
       clear l Eu x;go_wp2_with (first | (at_builtin;refine afq _ rfl _ _ 212 210 (.pointer none) 8 DY Tryz.underlying212 rfl (by decide) atG (by omega) rfl w.heap.size (zS g7 g c7) (s.map aM) (g+1) w5.heap.size (aM q5) (by rw[a0y,I.o,r.o]) rfl (b.o.o7.aC (S:=[]) ((aB.refl [] _).alloc _) (by simp)) rfl (mi _ _ _ _ rfl) rfl (by rw[a0y,I.o];omega) (by simp;omega) ?_;intro g8 c8' w7 y d m;have O7:=aj y;have P5:=aj (OV.other (b.o.o7.ov.aC (S:=[]) ((aB.refl [] _).alloc _) (by simp)) (b.o.o5.aC (S:=[]) ((aB.refl [] _).alloc _) (by simp)) (by decide) d);have H:=aj (OZ.other (b.o.o8.aC (S:=[]) ((aB.refl [] _).alloc _) (by simp)) (b.o.o7.ov.aC (S:=[]) ((aB.refl [] _).alloc _) (by simp)) (by decide) d);have T7:=aj ((b.o.tn.aC ((aB.refl [] _).alloc _)).kt m);have Y7:=aj ((T5.o.aC ((aB.refl [] _).alloc _)).kt m);have T:=Y7.o.nm;have hq7:=bY T;have F7:=aj ((b.o.fr.alloc _).grown d (λk O=>.inr (b.o.o7.ov.base k O)));have z7:=F7.o.size;clear y d m)|(at_builtin;refine afq _ rfl _ _ 44 9 (.string { data:=#[] }) 16 uY Tryz.underlying44 rfl (by decide) atF (by omega) rfl w.heap.size (.slice a8 D c8) (sv (a.map λu=>name (dW X u))) (D+1) w7.heap.size (zT (name (dW X (u++[c])))) (by rw[Hn8.o];simp[sv]) rfl (H.o.aC (S:=[]) ((aB.refl [] _).alloc _) (by simp)) rfl (mi _ _ _ _ rfl) rfl (by simp[sv];omega) (by simp;omega) ?_;intro g9 c9 w8 y d m;have O8:=aj y;have R5:=aj (OV.other (H.o.ov.aC (S:=[]) ((aB.refl [] _).alloc _) (by simp)) (P5.o.aC (S:=[]) ((aB.refl [] _).alloc _) (by simp)) (by decide) d);have R7:=aj (OZ.other (O7.o.aC (S:=[]) ((aB.refl [] _).alloc _) (by simp)) (H.o.ov.aC (S:=[]) ((aB.refl [] _).alloc _) (by simp)) (by decide) d);have T8:=aj ((T7.o.aC ((aB.refl [] _).alloc _)).kt m);have Y8:=aj ((Y7.o.aC ((aB.refl [] _).alloc _)).kt m);have F8:=aj ((F7.o.alloc _).grown d (λk O=>.inr (H.o.ov.base k O)));clear y d m))
       go_roundg (gk-1)
       case measure=>omega
       case rel =>
        refine⟨j+1,s++[q5],a++[u++[c]],L++[a.length],by omega,by go_num,⟨R5,?_,?_,?_,F8,WB3⟩,HRD,rR (a1t _ _) C⟩
        .have:=R7.o
         simpa using this
        .have:=O8.o
         simpa[sv] using this
        rw[a0P];refine T8.o.app ?_;simp only[a0E,a1V,jC];exact⟨Y8,trivial⟩
      generalize oI (a.map λu=>name (dW X u)) (name (dW X (u++[c])))=fi at Ox |-;have HRD:Z_ (rQ X u (F.drop (j+1)) a (L++[Bi X a (u++[c])])=RW):=by
       show _=_;have:=RD.o;rw[a0n (by have:=r.o;omega),a0n (by omega)]at this;exact this.symm
      clear RD Z x;go_wp2;go_roundg (gk-1)
      case measure=>omega
      case rel=>exact⟨j+1,s,a,_,by omega,by go_num,b,HRD,C⟩
    have qI:j=E:=by omega
    have atK:RW=(true,a,L):=by rw[<-GO2.o,qI,Y9.o,a2H];rfl
    have HGO:Z_ (yz X F g1 (i+1) a L=oC X F):=by
     show _=_;have:=Vt.o;rw[atK]at this;exact this.symm
    have adM:i+1<=a.length:=by have:=r.o;omega
    clear atK qI;go_wp2;go_roundg g1
    case measure=>omega
    case rel=>exact⟨i+1,s,a,L,by omega,by go_num,Q2,HGO,adM⟩
  have HAR:Z_ (oC X F=(true,St,nx)):=ahK GO.o (by have:=r.o;omega);go_wp2;go_ret;refine⟨g,rfl,by omega,⟨λh=>by omega,λh=>?_⟩,Q.o.fr⟩;rw[HAR.o]at h;simp at h
def kZ(e:RX):LN:=gP (dB e) 256
def xq(e:RX):LN:=Xa (dB e) 256
def eu(e:RX):Bool × List LN × LN:=oC (bn e) (kZ e)
def gH(t:LB):Nat :=
 match fF t with
 | none=>5
 | some e=>if 40<dI e then 6 else if (eu e).1 then 0 else 7
def akf(w:World)(t:LB)(en:Ending)(w':World):Prop :=
 aB [] w w'/\∃cs:Array Value,cs.size=259/\cs.all (·.oneCell')=true/\en=zQ #[.agg cs,zI (gH t)]/\(gH t≠0->cs=Tryz.zeroCells102) /\
  (∀e,fF t=some e->gH t=0->∃va vn,cs=(Value.int .i64 (kZ e).length::(nv .u8 (xq e)++[va,vn])).toArray/\QL w.heap.size w' va ((eu e).2.1.map λu=>dK (dW (bn e) u))/\IL w.heap.size w' vn (eu e).2.2)
def abm {b:Nat}(h:FP w.heap.size b w w'):aB [b] w w':=⟨h.os,h.tape,h.output,h.size,λk a c=>h.block k a (by simpa using c) (.inl a)⟩
def adN(S:LN)(n:Nat):(Xa S n).length=n:=by simp[Xa]
def Tz(h:fF t=some x):(dB x).length<=t.length:=by
 unfold fF at h
 split at h
 .rename_i y a
  simp at h;subst h;have:=(PK a).1;simp[gB]at this;exact this
 simp at h
def ahL.ok {e:RX}(h:ahL w e (kZ e) (xq e) en w')(a:(eu e).1=true):aB [] w w'/\∃va vn,en=zQ #[.agg (zI (kZ e).length::(nv .u8 (xq e)++[va,vn])).toArray,.bool true]/\QL w.heap.size w' va ((eu e).2.1.map λu=>dK (dW (bn e) u))/\IL w.heap.size w' vn (eu e).2.2:=by unfold eu at a |-;exact⟨h.1,h.2.2 a⟩
def ahL.no {e:RX}(h:ahL w e (kZ e) (xq e) en w')(a:(eu e).1=false):aB [] w w'/\en=zQ #[.agg Tryz.zeroCells102,.bool false]:=by unfold eu at a;exact⟨h.1,h.2.1 a⟩
def acy(t:LB)(w:World)(ht:t.length<=40):zF 115 #[zT t] w (akf w t):=by
 delta zF;go_in
 go_wp2_with fail
 have L:aB [] w ((w.alloc (Obj.cells Tryz.zeroCells102 102)).alloc (Obj.cells #[zT t,zI 0,zN] 243)):=zJ.alloc _;have fM:((w.alloc (Obj.cells Tryz.zeroCells102 102)).alloc (Obj.cells #[zT t,zI 0,zN] 243)).heap.size=w.heap.size+2:=by simp
 have V:((w.alloc (Obj.cells Tryz.zeroCells102 102)).alloc (Obj.cells #[zT t,zI 0,zN] 243)).heap[w.heap.size]?=some (.cells Tryz.zeroCells102 102 (0,0)):=by rw[zG.block w.heap.size (by simp) (by simp)];exact bD _ _
 have p:PA ((w.alloc (Obj.cells Tryz.zeroCells102 102)).alloc (Obj.cells #[zT t,zI 0,zN] 243)) (w.heap.size+1) t t zN:=by
  refine⟨0,⟨?_,by omega,by omega⟩,rfl⟩;have:=bD (w.alloc (Obj.cells Tryz.zeroCells102 102)) (Obj.cells #[zT t,zI 0,zN] 243);have N:(w.alloc (Obj.cells Tryz.zeroCells102 102)).heap.size=w.heap.size+1:=by simp
  rw[N]at this;exact this
 generalize (w.alloc (Obj.cells Tryz.zeroCells102 102)).alloc (Obj.cells #[zT t,zI 0,zN] 243)=J at L fM V p |-;have PR:=aj6 J.heap.size (w.heap.size+1) t J p (by omega) (a0b _) (by omega);clear p;refine PR.mono ?_;intro en w2 l;cases g:fF t with
 | none =>
   rw[g]at l;obtain⟨rfl,d⟩:=l;have i:gH t=5:=by simp[gH,g]
   have F2:=abm d;have M:w2.heap[w.heap.size]?=some (.cells Tryz.zeroCells102 102 (0,0)):=(F2.block w.heap.size (by omega) (by simp)).trans V;have R:=vX M rfl xH;have A:=vW (cs:=Tryz.zeroCells102) M;have z:aB [] w (w2.setRow w.heap.size Tryz.zeroCells102):=(L.above F2 (by intro x hx;simp at hx;omega)).above (aB.setRow _ _ _) (by simp);have f:=g;obtain⟨qp,hqp⟩:∃q:Option Addr,q=none:=⟨_,rfl⟩;clear M d F2 g PR;go_wp2
   (try simp only[Exit.inBlock,Exit.then])
   refine bodyPost_ret (bS rfl _ _ w.heap.size _ rfl (rY A jZ)) rfl ?_;rw[show akf w t=akf w t from rfl];refine⟨z,_,jZ,xH,by rw[i];rfl,λ_=>rfl,λe he=>?_⟩;rw[f]at he;simp at he
 | some e =>
   rw[g]at l;obtain⟨eb,iN,rfl,I,o6,X,d⟩:=l;obtain⟨jk,Bh⟩:=mQ g;have AY:=zM g;have qH:=ahn g;have U0:=Tz g;have F2:=abm d;have A:w2.heap[w.heap.size]?=some (.cells Tryz.zeroCells102 102 (0,0)):=(F2.block w.heap.size (by omega) (by simp)).trans V;have y:aB [] w w2:=L.above F2 (by intro x I;simp at I;omega);have PL:=Lb e _ w2 eb I AY (by omega);obtain⟨ip,Y,_⟩:=o6;have Z:=Y.c2;have f:=g;have z2:=F2.size;obtain⟨T,S,rfl⟩:=aW X;clear Y d F2 g PR;go_wp2_with fail
   refine PL.mono ?_;rintro en w2' ⟨rfl,rfl⟩
   by_cases lV:40<dI e
   .have i:gH t=6:=by simp[gH,f,lV]
    have R:=vX A rfl xH;have C:=vW (cs:=Tryz.zeroCells102) A;have z:aB [] w (w2.setRow w.heap.size Tryz.zeroCells102):=y.above (aB.setRow _ _ _) (by simp);clear PL;generalize dI e=pn at *;go_wp2
    (try simp only[Exit.inBlock,Exit.then])
    refine bodyPost_ret (bS rfl _ _ w.heap.size _ rfl (rY C jZ)) rfl ?_;refine⟨z,_,jZ,xH,by rw[i];rfl,λ_=>rfl,λe he B=>?_⟩;rw[i]at B;simp at B
   have AU:=Vx _ J.heap.size w2 eb e (.slice T (dB e).length S) (dB e) (kZ e) (xq e) I X (by omega) rfl rfl jk AY (by omega) (by omega) (by omega);have alN:dI e<=40:=by omega
   clear PL;have D:gH t=if (eu e).1 then 0 else 7:=by simp[gH,f,lV]
   generalize dI e=pn at *;go_wp2_with fail
   refine AU.mono ?_;intro en c m;cases j:(eu e).1 with
   | false =>
     obtain⟨r,rfl⟩:=m.no j;have i:gH t=7:=by rw[D,j];rfl
     have z3:=r.size;have O:=run_storeCells_new (P:=Tryz.prog) c 102 Tryz.zeroCells102 Tryz.zeroCells102 (by rw[jZ];exact H8) rfl xH;have s:(c.alloc (Obj.cells Tryz.zeroCells102 102)).heap[w.heap.size]?=some (.cells Tryz.zeroCells102 102 (0,0)):=by rw[((aB.refl [] c).alloc _).block w.heap.size (by omega) (by simp),r.block w.heap.size (by omega) (by simp)];exact A
     have R:=vX s rfl xH;have C:=vW (cs:=Tryz.zeroCells102) s;have z:aB [] w ((c.alloc (Obj.cells Tryz.zeroCells102 102)).setRow w.heap.size Tryz.zeroCells102):=((y.above r (by simp)).alloc _).above (aB.setRow _ _ _) (by simp);clear AU m j s Z;go_wp2
     (try simp only[Exit.inBlock,Exit.then])
     refine bodyPost_ret (bS rfl _ _ w.heap.size _ rfl (rY C jZ)) rfl ?_;refine⟨z,_,jZ,xH,by rw[i];rfl,λ_=>rfl,λe he B=>?_⟩;rw[i]at B;simp at B
   | true =>
     obtain⟨r,va,vn,rfl,H,E⟩:=m.ok j;obtain⟨G,ca,rfl⟩:=aW H;obtain⟨F,cn,rfl⟩:=aW E;have i:gH t=0:=by rw[D,j];rfl
     have z3:=r.size;have b:(Value.int .i64 (kZ e).length::(nv .u8 (xq e)++[.slice G ((eu e).2.1.map λu=>dK (dW (bn e) u)).length ca,.slice F (eu e).2.2.length cn])).toArray.size=259:=by have:(xq e).length=256:=adN _ _;simp[nv,this]
     have n:(Value.int .i64 (kZ e).length::(nv .u8 (xq e)++[.slice G ((eu e).2.1.map λu=>dK (dW (bn e) u)).length ca,.slice F (eu e).2.2.length cn])).toArray.all (·.oneCell')=true:=by
      refine a2g.2 λv hv=>?_
      simp only[List.mem_toArray,a0l,a0e,nv,a0q,a1U,a2V]at hv;rcases hv with rfl|⟨a,_,rfl⟩|rfl|rfl<;>rfl
     have U:∀o cs,QL w.heap.size ((c.alloc o).setRow w.heap.size cs) (.slice G ((eu e).2.1.map λu=>dK (dW (bn e) u)).length ca) ((eu e).2.1.map λu=>dK (dW (bn e) u)):=λo cs=>BH (mO (fG H ((aB.refl [] c).alloc o) (by simp)) (aB.setRow _ _ cs) (λk j=>by have:=(H.lt k j).1;simp;omega)) (by omega)
     have W:∀o cs,IL w.heap.size ((c.alloc o).setRow w.heap.size cs) (.slice F (eu e).2.2.length cn) (eu e).2.2:=λo cs=>BH (mO (fG E ((aB.refl [] c).alloc o) (by simp)) (aB.setRow _ _ cs) (λk j=>by have:=(E.lt k j).1;simp;omega)) (by omega)
     have z:∀o cs,aB [] w ((c.alloc o).setRow w.heap.size cs):=λo cs=>((y.above r (by simp)).alloc _).above (aB.setRow _ _ _) (by simp)
     have PZ:∀o,(c.alloc o).heap[w.heap.size]?=some (.cells Tryz.zeroCells102 102 (0,0)):=λo=>by rw[((aB.refl [] c).alloc _).block w.heap.size (by omega) (by simp),r.block w.heap.size (by omega) (by simp)];exact A
     generalize pY:(Value.int .i64 (kZ e).length::(nv .u8 (xq e)++[.slice G ((eu e).2.1.map λu=>dK (dW (bn e) u)).length ca,.slice F (eu e).2.2.length cn])).toArray=cs at b n |-;have O:=run_storeCells_new (P:=Tryz.prog) c 102 Tryz.zeroCells102 cs (by rw[b];exact H8) (by rw[b,jZ]) n;have C:=vW (cs:=cs) (PZ (Obj.cells cs 102));have Qi:=vX (cs:=cs) (PZ (Obj.cells cs 102)) (by rw[b,jZ]) n;clear AU m j Z H E;go_wp2_with fail
     refine H9 (.tmp 6) rfl c.heap.size rfl cs (rY (bD c (Obj.cells cs 102)) b) ?_;have R:=Qi;go_wp2
     (try simp only[Exit.inBlock,Exit.then])
     refine bodyPost_ret (bS rfl _ _ w.heap.size _ rfl (rY C b)) rfl ?_;refine⟨z _ _,cs,b,n,by rw[i];rfl,λh=>absurd i h,λe2 he B=>?_⟩;have:e2=e:=by rw[f]at he;simpa using he.symm
     subst this;exact⟨_,_,pY.symm,U _ _,W _ _⟩
def RgQ(w:World)(t:LB)(en:Ending)(w':World):Prop :=
 aB [] w w'/\∃q:Option Addr,en=zQ #[.pointer q,zI (gH t)]/\(gH t=0->∃x n,fF t=some x/\q=some (zA n)/\RN w' n (gW x))
theorem afz(h:iQ (4*t.length+4) 0 [] t=none):fF t=none:=by unfold fF;rw[h]
theorem afA {c:UInt8} {r:LB}(h:iQ (4*t.length+4) 0 [] t=some (x,c::r)):fF t=none:=by unfold fF;rw[h]
def afB(h:iQ (4*t.length+4) 0 [] t=some (x,[])):fF t=some x:=by unfold fF;rw[h]
theorem Xg(t:LB)(w:World)(ht:t.length<=40):Calls Tryz.prog 42 #[.string (bs t)] w (RgQ w t):=by
 have Bh:=aT;have k0:({ data:=#[] }:ByteArray).toList=[]:=aT _;have H1:QP (w.alloc (.cells #[.string (bs t),.bool true] 167)) w.heap.size t true:=⟨bD _ _,by omega⟩;have FA:Z_ (aB [] w (w.alloc (.cells #[.string (bs t),.bool true] 167))):=(aB.refl _ _).alloc _;have C0:=aj ((ae6 (4*t.length+4)).1 w.heap.size 0 t _ H1 (by omega) (a0b _));clear H1;go_enter Tryz.func42,Tryz.ntmps42
 go_wp2_with fail
 refine(C0.o).mono ?_;rintro e w1 ⟨q,r,ok,rfl,hp,hf,hd⟩;have c0:=hp.c0;have c1:=hp.c1;have F1:Z_ (aB [] w w1):=FA.o.above hf (by intro x hx;simp at hx;omega);have HD:=aj hd;clear hp hf hd C0 FA;cases ok
 case false =>
  have rP:Z_ (gH t=5):=by
   show _=_;rcases HD.o with⟨h,_⟩|⟨_,h⟩
   ·cases h
   simp[gH,afz h]
  clear HD;go_wp2;go_ret2;exact⟨F1,none,by rw[rP.o];rfl,λh=>by rw[rP.o]at h;simp at h⟩
 case true =>
  obtain⟨y,n,hy,hq,hn⟩:∃y n,iQ (4*t.length+4) 0 [] t=some (y,r)/\q=some ⟨n,0,none⟩/\RN w1 n (gW y):=by
   rcases HD.o with⟨_,h⟩|⟨h,_⟩
   ·exact h
   cases h
  clear HD;subst hq;cases r with
  | cons c r =>
    have rP:Z_ (gH t=5):=by show _=_;simp[gH,afA hy]
    have bJ:((c::r) == [])=false:=rfl;clear hy hn;go_wp2;go_ret2;exact⟨F1,none,by rw[rP.o];rfl,λh=>by rw[rP.o]at h;simp at h⟩
  | nil =>
    have CG:=afB hy;obtain⟨jk,ZJ⟩:=mQ CG;have AY:=zM CG;have U0:=Tz CG;have HPW:=aj CG;have HN:=aj hn;have PL:=aj (uE (gW y) w1 n hn (Ii y AY));have PS:=qa (gW y);rw[Rx]at PS;have ays:(jQ (gW y)).1<=41:=PS.1;have HPS:=aj PS.2;have c0:w1.cell? ⟨w.heap.size,0,none⟩=some (.string ⟨#[]⟩):=c0;clear hy hn PS CG;go_wp2_with fail
    refine(PL.o).mono ?_;rintro e w2 ⟨rfl,rfl⟩
    by_cases lV:40<dI y
    ·have rP:Z_ (gH t=6):=by show _=_;simp[gH,HPW.o,lV]
     have h2:=HPS.o.2 lV;rw[h2];clear PL;generalize (jQ (gW y)).1=pn at *;go_wp2;go_ret2;exact⟨F1,none,by rw[rP.o];rfl,λh=>by rw[rP.o]at h;simp at h⟩
    have alN:dI y<=40:=by omega
    have h2:=HPS.o.1 alN;rw[h2];have HRC:Z_ (gH t=if (eu y).1 then 0 else 7):=by show _=_;simp[gH,HPW.o,lV]
    have BB:=aj (acx w1 n (gW y) (bn y) (kZ y) HN.o (by rw[Bz];omega) ⟨y,jk,AY,alN,by omega,rfl⟩ (Fj y jk) (by rw[Bz];rfl) (λu c hu=>am7 HPW.o ht alN u hu c));clear PL h2;generalize dI y=pn at *;go_wp2_with fail
    refine(BB.o).mono ?_;rintro e w3 ⟨m,rfl,hm,ZV,bW⟩;have F3:=aj (F1.o.trans bW);have HMI:=aj ZV;have N3:=aj (RN.aY (dX.of bW) HN);clear ZV bW BB
    by_cases Eu:40<m
    ·have rP:Z_ (gH t=7):=by
      show _=_;have:=HMI.o.1 Eu;rw[HRC.o];unfold eu;rw[this];rfl
     go_wp2;go_ret2;exact⟨F3,none,by rw[rP.o];rfl,λh=>by rw[rP.o]at h;simp at h⟩
    have rP:Z_ (gH t=0):=by
     show _=_;have:(oC (bn y) (kZ y)).1=true:=by
      cases hh:(oC (bn y) (kZ y)).1
      ·exact absurd (HMI.o.2 hh) Eu
      rfl
     rw[HRC.o];unfold eu;rw[this];rfl
    have ayt:m<=40:=by omega
    go_wp2;go_ret2;exact⟨F3,_,by rw[rP.o];rfl,λ_=>⟨y,n,HPW,rfl,N3⟩⟩
theorem Xh:∀(l:LB) (c:UInt8) (n:Int),l.all nG=true->nG c=true->Ap (l++[c]) n=10*Ap l n+c.toNat-48
 | [],c,n,_,b=>by simp[Ap,show lW c.toNat=true from b]
 | x::r,c,n,a,b=>by simp only[a1P,a0O]at a;have d:lW x.toNat=true:=a.1;simp only[a0L,Ap,d,a0G];exact Xh r c _ a.2 b
def mW(l:LB)(w:World)(hl:l.length<=1048576) :
 zF 69 #[zT l] w λe w'=>e=zR (zI (iR l))/\w=w':=by
 have eG:=bL l;have Bh:=aT;have k0:({ data:=#[] }:ByteArray).toList=[]:=aT [];have k48:({ data:=#[48] }:ByteArray).toList=[48]:=aT [48];go_enter Tryz.func69,Tryz.ntmps69
 go_wp2;go_loopg [3,4] l.length (λk vn i wr=>∃(j:Nat) (x:Int),j+k=l.length/\i=zI j/\vn=zI x/\x=Ap (l.take j) 0/\0<=x/\x+1<=10 ^ j/\(l.take j).all nG=true/\(0<j->l.length<=5)/\wr=w)
 case atStart=>exact⟨0,0,by omega,rfl,rfl,rfl,by omega,by simp,by simp,by omega,rfl⟩
 case round =>
  obtain⟨j,x,hj,rfl,rfl,hx,OP,XG,ja,h5,hw⟩:=hrel;subst hw;have Hx:=aj hx;have oL:=aj ja;have H5:=aj h5;have hxb:l.length<=5->x<=99999:=by
   intro h;have:(10:Int) ^ j<=10 ^ 5:=by
    have:j<=5:=by omega
    rcases(show j=0\/j=1\/j=2\/j=3\/j=4\/j=5 by omega) with rfl|rfl|rfl|rfl|rfl|rfl<;>decide
   have:(10:Int) ^ 5=100000:=by decide
   omega
  have Hxb:=aj hxb;have Hx1:=aj XG;clear hx ja h5 hxb XG
  by_cases aL:j<l.length
  ·have zt:(bs l)[j]'(by rw[eG];omega)=l[j]:=rfl
   have Ht:Z_ (l.take (j+1)=l.take j++[l[j]]):=a0F aL;have Hm:Z_ (l[j]∈l):=a0u aL;have vY:l.isEmpty=false:=by
    cases l with
    | nil=>exact absurd aL (Nat.not_lt_zero _)
    | cons=>rfl
   generalize l[j]=c at *;have hu:=u8i c;go_wp2_with fail
   refine(vR c xu _ (by decide)).mono ?_;rintro e w' ⟨rfl,rfl⟩;have Hdg:=aj (Pk c)
   by_cases h5:5<l.length
   ·have hg:Z_ (iR l=-1):=by
     show _=_;unfold iR;rw[vY];simp[h5]
    have h5':decide ((5:Int)<(l.length:Int))=true:=a0g (by omega);cases gJ:oM xu c
    all_goals
     go_wp2;go_ret;exact⟨mJ hg.o.symm,rfl⟩
   have h5':decide ((5:Int)<(l.length:Int))=false:=a0f (by omega);cases gJ:oM xu c
   ·have hg:Z_ (iR l=-1):=by
     show _=_;have:l.all nG=false:=by
      rw[a2p];intro ha;have:=a1d.1 ha c Hm;unfold nG at this;rw[<-Hdg.o,gJ]at this;cases this
     unfold iR;rw[vY,this];simp
    go_wp2;go_ret;exact⟨mJ hg.o.symm,rfl⟩
   have qd:nG c=true:=by unfold nG;rw[<-Hdg.o];exact gJ
   have kG:48<=(c.toNat:Int)/\(c.toNat:Int)<=57:=by simpa[nG,lW] using qd
   have zu:Z_ ((l.take (j+1)).all nG=true):=by
    show _=_;rw[Ht.o,a2c,oL.o];simp[qd]
   have jV:Z_ (10*x+c.toNat-48=Ap (l.take (j+1)) 0):=by
    show _=_;rw[Ht.o,Xh _ _ _ oL.o qd,<-Hx.o]
   have Yr:=Hxb.o (by omega);obtain⟨kL,oN⟩:=kG;clear qd;go_wp2;go_roundg (gk-1)
   case measure=>omega
   case rel =>
    refine⟨j+1,10*x+c.toNat-48,by omega,by go_num,rfl,jV,by omega,?_,zu,λ_=>by omega,rfl⟩;have:=Hx1.o;rw[Int.pow_succ];omega
  have ja:=oL.o;have hx:=Hx.o;rw[a0C (by omega)]at ja hx
  by_cases h0:l=[]
  ·subst h0
   have hg:Z_ (iR []=-1):=rfl;have hie:(([]:LB) == [])=true:=rfl;clear ja hx;go_wp2;go_ret;exact⟨mJ hg.o.symm,rfl⟩
  have vY:l.isEmpty=false:=by
   cases l with
   | nil=>exact absurd rfl h0
   | cons=>rfl
  have Vz:0<l.length:=a1O.2 h0;have bJ:(l == [])=false:=by simp[h0]
  have zt:(bs l)[0]'(by rw[eG];omega)=l[0]:=rfl;have Hh:Z_ (hd l=(l[0].toNat:Int)):=EP l 0 Vz;generalize l[0]=c at *;have h5:=H5.o (by omega);have Hg:Z_ (iR l=if (hd l==48)&&!(l == [48]) then -1 else Ap l 0):=by
   show _=_;unfold iR;rw[vY,ja];simp[show ¬ 5<l.length by omega]
  have Hxx:=aj hx;clear ja hx;cases hc:((c.toNat:Int)==48)
  ·have hg:Z_ (iR l=x):=by
    show _=_;rw[Hg.o,Hh.o,hc,Hxx.o];rfl
   go_wp2;go_ret;exact⟨mJ hg.o.symm,rfl⟩
  cases h48:(l == [48])
  ·have hg:Z_ (iR l=-1):=by
    show _=_;rw[Hg.o,Hh.o,hc,h48];rfl
   go_wp2;go_ret;exact⟨mJ hg.o.symm,rfl⟩
  have hg:Z_ (iR l=x):=by
   show _=_;rw[Hg.o,Hh.o,hc,h48,Hxx.o];rfl
  go_wp2;go_ret;exact⟨mJ hg.o.symm,rfl⟩
def jy(q:Bool)(c:UInt8):Nat->LB->Bool->LB->List LB->List LB
 | 0,_,_,t,out=>out++[t]
 | _+1,[],_,t,out=>out++[t]
 | k+1,x::r,a,t,out =>
   let i1:=if q&&x==34 then !a else a
   if i1&&x==92&&!(r.isEmpty) then jy q c k (r.drop 1) i1 (t++([x]++r.take 1)) out
   else if x==c&&!i1 then jy q c k r i1 [] (out++[t])
   else jy q c k r i1 (t++[x]) out
def dU(q:Bool)(c:UInt8)(l:LB):List LB:=jy q c (l.length+1) l false [] []
end
end Go.Proofs.YtedmellodofajaaGreatDoor
