import Derived.Test.YtaokcijfoopcoaaGreatJ3
import Derived.BigRegion
import Derived.Test.YtaokcijfoopcoaaGreatJ1
import Derived.Deep.WholeRow
import Derived.Test.YtaokcijfoopcoaaGreatJ2
import Derived.Deep.RegionLaw
import Derived.Deep.DeepCutAuto
import Derived.Great.BuildSlice
import Derived.Laws.CopyOwn
set_option linter.unusedVariables false
set_option linter.unusedSimpArgs false
set_option linter.unnecessarySimpa false
set_option linter.defProp false
set_option maxRecDepth 100000
set_option maxHeartbeats 8000000
namespace Go.Proofs.YtaokcijfoopcoaaGreat
open Go.RowKit
section
variable {a d y:NF} {D R U X xs ys:List NF} {I L P S Z Z2:LN} {ak bb cap fb g n q s t vb jS:Nat} {w' w1 w2 w5:World} {v v5 vp:Value} {e:Ending}
def afv(base:Nat)(m w:World)(fb vb:Nat)(D:List NF)(ak c:Nat)(U:List NF)(Z:LN)(i:Nat)(h:ST base m fb vb D ak c U Z)(F0:aB [] m w)(o:D[i]?=some a) :
 zF 157 #[zP fb,zI i] w λe w'=>∃v L,e=zR v/\PL w' v L/\(∀j∈L,j<D.length)/\(∀p,p∈parts a↔p∈L.map λj=>D.getD j .zero)/\L.length<=(parts a).length/\(L≠[]->∀x n cp,v=.slice (some x) n cp->x.block<m.heap.size\/x.block=w.heap.size)/\aB [] w w':=by
 obtain⟨f,L,cap,K⟩:=h.look o;have G:=K.lt;have hlen:=h.len;have t:=h.pP.2.2.2.2.2;have t0:=(F0.cell (p:=(zA fb)) (by show fb<_;omega) (by simp)).trans K.tab;have k0:=(F0.cell (p:=(zB vb (i*12))) t.2.2.2.1 (by simp)).trans K.get.1;have J:=(F0.cell (p:=(zB vb (i*12+7))) t.2.2.2.1 (by simp)).trans K.get.2.2.2.2.2.2.2.1;have O:=h.pP.1;have d:=h.num o h.pP.1;have kd:=K.kd;have KS:=K.sum;have KP:=K.pl;have H:=h.pP.2.2.2.1;have r:=h.pP.2.2.1;rw[kd]at k0;clear kd K;have u:D.getD i .zero=a:=by simp[List.getD,o]
 by_cases k:i=0
 .have:=d.1 k;subst this;subst k
  clear d;delta zF;go_in
  go_wp2;go_ret;exact⟨_,[],rfl,PL.nil _,by simp,by simp[parts],by simp,by simp,zK⟩
 have M:=abb k;have m0:a≠.zero:=λe=>k (d.2 e)
 clear d;have I:(i:Int)<D.length:=by omega
 by_cases q:∃l,a=.sum l
 .obtain⟨l,rfl⟩:=q
  simp only[qW]at k0;have b:=KS l rfl;have HR:l.length=L.length/\∀p,p∈l↔p∈L.map λj=>D.getD j .zero:=by
   have ht:=Fe H b.1;refine⟨?_,λp=>?_⟩
   .rw[b.2.1,ags ht (Pz r b.2.2 b.1)];simp
   rw[b.2.1];exact iA ht
  delta zF;go_in
  go_wp2;go_ret;refine⟨_,L,rfl,KP.aC F0 (qV.nil _),b.1,by simpa[parts] using HR.2,by simp[parts,HR.1],?_,zK⟩;intro E x n cp e;obtain⟨N,c3,C,A⟩:=KP.1;obtain⟨g,off,B,z,_⟩:=A 0 (a1O.2 E);rw[C,B]at e;simp at e;obtain⟨rfl,_⟩:=e;exact .inl z
 have y:qW a≠4:=by cases a<;>simp_all[qW]
 have F:((qW a:Int)==4)=false:=by rw[a0j];omega
 have s:parts a=[a]:=by cases a<;>simp_all[parts]
 delta zF;go_in
 go_wp2;go_ret;refine⟨_,[i],rfl,?_,by simpa using G,?_,by simp[s],λ_ x n cp e=>by simp at e;obtain⟨rfl,_⟩:=e;exact .inr rfl,zJ⟩
 .exact PL.alG (base:=w.heap.size) (World.ownsRow_lit _ #[zI i] 1 (a0b _) (by unfold maxLen;omega) (by simp)) (by simp)
 intro p;rw[s];simp only[a0E,a1V,u]
def alH(A:NF):Prop:=∀(base:Nat) (w:World) (fb vb:Nat) (D:List NF) (ak c:Nat) (U:List NF) (Z:LN) (B:NF) (i j:Nat),ST base w fb vb D ak c U Z->D[i]?=some A->D[j]?=some B->(∀f∈uZ A B,f∈U) ->
    zF 148 #[zP fb,zI i,zI j] w (RQ base w fb vb D ak c U Z (aG A B))
def auU(h:∀x y,a≠.pair x y):((qW a:Int)==3)=false:=by
 rw[a0j];cases a<;>simp[qW]
 exact h _ _ rfl
def M5(A:NF):alH A:=by
 refine NF.ind (P:=alH) ?_ A;intro A ih base w fb vb D ak c U Z B i j b E C HU;obtain⟨f,L,cap,K⟩:=b.look E;obtain⟨_,_,_,K2⟩:=b.look C;have aL:=K.lt;have M:=K2.lt;have hlen:=b.len;have t0:=K.tab;obtain⟨c0,c1,c2,c3,c4,c5,c6,c7,c8,c9,c10,c11⟩:=K.get;have S:=K2.get.2.2.2.2.2.2.2.2.1;have YB:=b.pP.1;have HD1:=b.pP.2.1;have t:=b.num E b.pP.1;have n1:=b.num E b.pP.2.1;have q:=b.num C b.pP.1;have n:=b.num C b.pP.2.1;have kd:=K.kd;have te:=K.te;have G:=K2.te;obtain⟨av,m,I,_⟩:=K.pl.1;rw[I]at c7;have KP:=K.pair;have wA:=b.pP.2.2.2.1 A (a0B E);have wB:=b.pP.2.2.2.1 B (a0B C);have Be:=b.pP.2.2.2.2.2;rw[kd]at c0;rw[te]at c8;rw[G]at S;have aag:(i:Int)<D.length:=by omega
 have ng:(j:Int)<D.length:=by omega
 by_cases X:i=0
 .have:=t.1 X;subst this;subst X
  delta zF;go_in
  go_wp2;go_ret;exact RQ.here (r:=0) b zK YB
 have b0:=abb X;have m0:A≠.zero:=λe=>X (t.2 e)
 by_cases W:j=0
 .have:=q.1 W;subst this;subst W
  delta zF;go_in
  go_wp2;go_ret;exact RQ.here (r:=0) b zK (by rw[fJ];exact YB)
 have b1:=abb W;have p0:B≠.zero:=λe=>W (q.2 e)
 by_cases V:i=1
 .have:=n1.1 V;subst this;subst V
  delta zF;go_in
  go_wp2;go_ret;exact RQ.here (r:=j) b zK C
 have b2:=afs V;have m1:A≠.one:=λe=>V (n1.2 e)
 by_cases T:j=1
 .have:=n.1 T;subst this;subst T
  delta zF;go_in
  go_wp2;go_ret;exact RQ.here (r:=i) b zK (by rw[bF];exact E)
 have b3:=afs T;have p1:B≠.one:=λe=>T (n.2 e)
 have Y:aP B=true:=by cases B<;>simp_all[aP]
 by_cases hp:∃x y,A=.pair x y
 .obtain⟨x,y,rfl⟩:=hp
  have u:=KP x y rfl;simp[qW]at c0;delta zF;go_in
  go_wp2_with fail
  have F1:aB [] w (w.alloc (Obj.cells #[zI 3,.int .u64 (wd f.s 0),.int .u64 (wd f.s 1),.int .u64 (wd f.s 2),.int .u64 (wd f.s 3),zI f.fi,zI f.se,.slice av L.length m,.bool (dK (.pair x y)),zI f.lk,zI f.ak,zI f.lf] 229)):=zJ;have kv:=bD w (Obj.cells #[zI 3,.int .u64 (wd f.s 0),.int .u64 (wd f.s 1),.int .u64 (wd f.s 2),.int .u64 (wd f.s 3),zI f.fi,zI f.se,.slice av L.length m,.bool (dK (.pair x y)),zI f.lk,zI f.ak,zI f.lf] 229);have z1:(w.alloc (Obj.cells #[zI 3,.int .u64 (wd f.s 0),.int .u64 (wd f.s 1),.int .u64 (wd f.s 2),.int .u64 (wd f.s 3),zI f.fi,zI f.se,.slice av L.length m,.bool (dK (.pair x y)),zI f.lk,zI f.ak,zI f.lf] 229)).heap.size=w.heap.size+1:=by simp
  generalize w.alloc (Obj.cells #[zI 3,.int .u64 (wd f.s 0),.int .u64 (wd f.s 1),.int .u64 (wd f.s 2),.int .u64 (wd f.s 3),zI f.fi,zI f.se,.slice av L.length m,.bool (dK (.pair x y)),zI f.lk,zI f.ak,zI f.lf] 229)=w1 at F1 kv z1 |-;have l:=HU;rw[E5 Y]at l;refine(ih y (by simp[NF.size];omega) base w1 fb vb D ak c U Z B f.se j (b.aY F1) u.2 C (λg hg=>l g (by simp[hg]))).mono ?_;rintro e w2 ⟨Dp,R,r1,rfl,dY,lz,hq⟩;have q5:zC w2 w.heap.size 5 (zI f.fi):=by have:=hq.block (k:=w.heap.size) (by omega) (by omega) (by omega);rw[kv]at this;simp[World.cell?,this]
  have C2:=(ih x (by simp[NF.size];omega) base w2 fb Dp (D++R) ak c U Z (aG y B) f.fi r1 dY (rU u.1) lz (λg hg=>l g (by simp[hg])));have Q2:=FQ.aba F1 hq;have HT:aG (.pair x y) B=aG x (aG y B):=dA Y;go_wp2_with fail
  refine C2.mono ?_;rintro e w3 d;have v:=RQ.later Q2 d;obtain⟨_,_,r3,rfl,_⟩:=d;go_wp2;go_ret;rw[HT];exact v
 have k3:=auU (a:=A) (λx y e=>hp ⟨x,y,e⟩);have N:dP A=true:=by cases A<;>simp_all[dP]
 have HT:aG A B=.pair A B:=aX N Y;have EF:(NF.pair A B)∈U:=HU _ (by rw[nA N Y];simp);have z:∀w',aB [] w w'->zF 145 #[zP fb,.agg #[zI 3,.int .u64 0,.int .u64 0,.int .u64 0,.int .u64 0,zI i,zI j,zN,.bool (dK A&&dK B),zI 0,zI 0,zI 0]] w' (RQ base w' fb vb D ak c U Z (.pair A B)):=by intro w' F;have H:=WC.then wA wB;rw[HT]at H;have:=Lc base w' fb vb D ak c U Z ⟨3,0,i,j,zN,dK A&&dK B,0,0,0⟩ [] (.pair A B) (b.aY F) (PL.nil _) (a2S 256) (.inr (.inl ⟨rfl,rfl,rfl,aL,M,A,B,E,C,rfl⟩)) H EF rfl rfl (aft Z);rw[afu 3 i j 3 i j rfl rfl rfl]at this;exact this
 rw[HT];have F0:∀o,aB [] w (w.alloc o):=λo=>zK.alloc o
 have hv1:=Be.2.2.2.1;have hv0:fb<w.heap.size:=by omega
 have:∀o,zC (w.alloc o) fb 0 (zS vb D.length cap):=λo=>(((aB.refl [] w).alloc o).cell (p:=(zA fb)) hv0 (by simp)).trans t0
 have O:∀o,zC (w.alloc o) vb (j*12+8) (.bool (dK B)):=λo=>(((aB.refl [] w).alloc o).cell (p:=(zB vb (j*12+8))) hv1 (by simp)).trans S
 cases J:dK A with
 | true =>
   rw[J]at c8 z;cases h:dK B with
   | true =>
     rw[h]at S z;simp[h]at O;delta zF;go_in
     go_wp2_with (go_at_call 145;refine(z _ (F0 _)).mono ?_;rintro e w3 d;have v:=RQ.first (F0 _) d;obtain⟨_,_,r3,rfl,_⟩:=d)
     go_ret;exact v
   | false =>
     rw[h]at S z;simp[h]at O;delta zF;go_in
     go_wp2_with (go_at_call 145;refine(z _ (F0 _)).mono ?_;rintro e w3 d;have v:=RQ.first (F0 _) d;obtain⟨_,_,r3,rfl,_⟩:=d)
     go_ret;exact v
 | false =>
   rw[J]at c8 z;delta zF;go_in
   go_wp2_with (go_at_call 145;refine(z _ (F0 _)).mono ?_;rintro e _ d;have v:=RQ.first (F0 _) d;obtain⟨_,_,_,rfl,_⟩:=d)
   go_ret;exact v
theorem Cz {j:Nat}(h:D[j]?=some d):D.getD j .zero=d:=by simp[List.getD,h]
def any_take_succ(R:LN)(g:Nat->Bool)(j:Nat)(h:j<R.length):(R.take (j+1)).any g=((R.take j).any g||g R[j]):=by
 have e:R.take (j+1)=R.take j++[R[j]]:=by rw[a1c,a0a h];rfl
 rw[e,List.any_append];simp only[a3m,List.any_nil,Bool.or_false]
def ahE(base:Nat)(w:World)(fb vb:Nat)(D:List NF)(ak c:Nat)(U:List NF)(Z:LN)(v:Value)(L:LN)(l:List NF)(h:ST base w fb vb D ak c U Z)(W:NL .i64 w v L)(hL:L.length<=9500000000000)
 (N:∀j∈L,j<D.length) (ht:JY l) (E:∀p,p∈l↔p∈L.map λj=>D.getD j .zero) (C:WC (mkS (gU l))) (hU:2<=(gU l).length->mkS (gU l)∈U) :
 zF 159 #[zP fb,v] w (RQ base w fb vb D ak c U Z (mkS (gU l))):=by
 have hlen:=h.len;have R1:=afr v L w W hL;have YB:=h.pP.1;have ND:=h.pP.2.2.1;have A:=h.pP.2.2.2.1;have RS:∀R,RO R L->gU (R.map λj=>D.getD j .zero)=gU l/\(gU l).length=R.length:=λR t=>arP ND A t N ht E
 have HW:=C;have HZ:=h.zs;obtain⟨av,cv,rfl,_⟩:=W;clear C ht E;delta zF;go_in
 go_wp2_with fail
 refine R1.mono ?_;rintro e w1 ⟨v',R,rfl,d,s,F1⟩;have su:=RS R s;have o:∀j∈R,j<D.length:=λj G=>N j ((s.2 j).1 G)
 have i:R.length<=D.length:=by
  rw[<-su.2,<-su.1];exact qP (Cb (xA _)) λx hx=>by obtain⟨j,G,rfl⟩:=a0q.1 (kK hx);exact MG (o j G)
 have H:=h.aY F1;obtain⟨T,P,rfl⟩:=aW d;obtain⟨a2,c2,e2,q⟩:=xV d;simp only[Value.slice.injEq,a1W]at e2;obtain⟨rfl,rfl⟩:=e2;clear R1 RS h N
 match R,i,su,s,o,d,q with
 | [],i,su,s,o,d,q =>
   have e:mkS (gU l)=.zero:=by rw[<-su.1];rfl
   clear q d;go_wp2;go_ret;rw[e];exact RQ.first F1 (RQ.here (r:=0) H zK YB)
 | [r],i,su,s,o,d,q =>
   have e:mkS (gU l)=D.getD r .zero:=by rw[<-su.1];rfl
   have hr:r<D.length:=o r (by simp);obtain⟨g,off,rfl,hg,X⟩:=q 0 (by simp);simp only[List.getElem_cons_zero,a1Q]at X;clear q d;go_wp2;go_ret;rw[e];exact RQ.first F1 (RQ.here (r:=r) H zK (getD_some hr))
 | r::r'::R',i,su,s,o,d,q =>
   obtain⟨R,t⟩:∃R,R=r::r'::R':=⟨_,rfl⟩;have O:2<=R.length:=by rw[t];simp
   rw[<-t]at i su s o d q;have z:(r::r'::R').length=R.length:=by rw[t]
   rw[z];clear t z;have b0:=abb (a:=R.length) (by omega);have b1:=afs (a:=R.length) (by omega);go_wp2_with fail
   have V:∀w',aB [] w1 w'->zF 145 #[zP fb,.agg #[zI 4,.int .u64 0,.int .u64 0,.int .u64 0,.int .u64 0,zI 0,zI 0,.slice T R.length P,.bool ((R.take R.length).any λj=>dK (D.getD j .zero)),zI 0,zI 0,zI 0]] w' (RQ base w' fb vb D ak c U Z (mkS (gU l))):=by
    intro w' F;have M:mkS (gU l)=.sum (gU (R.map λj=>D.getD j .zero)):=by rw[su.1];exact amv (by rw[su.2];exact O)
    have EF:=hU (by rw[su.2];exact O);have y:=HW;rw[M]at EF y |-;have lV:PL w' (.slice T R.length P) R:=(PL.alG d (by omega)).aC F (qV.nil _);have I:((R.take R.length).any λj=>dK (D.getD j .zero))=dK (.sum (gU (R.map λj=>D.getD j .zero))):=by
     rw[a2h];show _=agc _;rw[Fh,any_congr (a:=gU (R.map λj=>D.getD j .zero)) (b:=R.map λj=>D.getD j .zero) (λp=>iA (Fe A o)),List.any_map]
     rfl
    have:=Lc base w' fb vb D ak c U Z ⟨4,0,0,0,.slice T R.length P,(R.take R.length).any λj=>dK (D.getD j .zero),0,0,0⟩ R _ (H.aY F) lV (a2S 256) (.inr (.inr (.inl ⟨rfl,rfl,rfl,rfl,s.1,o,rfl⟩))) y EF I rfl (λx n cc e E=>by simp at e;obtain⟨rfl,_⟩:=e;have h1:=(d.lt _ rfl).1;have O:=HZ _ E;omega);rw[afu 4 0 0 4 0 0 rfl rfl rfl]at this;exact this
   go_loopg [6,22] R.length (λk vt vi wr=>∃j:Nat,j+k=R.length/\vi=zI j/\vt=.bool ((R.take j).any λj=>dK (D.getD j .zero))/\wr=w1)
   case atStart=>exact⟨0,by omega,rfl,by simp,rfl⟩
   case round =>
    obtain⟨j,G,rfl,rfl,C⟩:=hrel;subst C
    by_cases S:j<R.length
    .obtain⟨g,off,rfl,hg,X⟩:=q j S
     have J:=o R[j] (a0u S);obtain⟨f,L2,cap,K⟩:=H.look (getD_some J);have t0:=K.tab;have k8:=K.get.2.2.2.2.2.2.2.2.1;have I:=K.te;rw[I]at k8;have u:=any_take_succ R (λj=>dK (D.getD j .zero)) j S;clear K I;generalize R[j]=m at *;clear V;cases hb:(R.take j).any λj=>dK (D.getD j .zero)
     rw[hb]at u;have B:((R.take (j+1)).any λj=>dK (D.getD j .zero))=dK (D.getD m .zero):=by have:=u;rw[a3l]at this;exact this
     clear u hb;generalize dK (D.getD m .zero)=bm at *
     rotate_left
     rw[hb]at u;have B:((R.take (j+1)).any λj=>dK (D.getD j .zero))=true:=by have:=u;rw[Bool.true_or]at this;exact this
     clear u hb
     all_goals
      go_wp2;go_roundg (gk-1)
      case measure=>omega
      case rel=>exact⟨j+1,by omega,by go_num,by rw[B],rfl⟩
    have mK:j=R.length:=by omega
    subst mK;have N2:=V wr zK;clear V;generalize ((R.take R.length).any λj=>dK (D.getD j .zero))=tb at *;go_wp2_with (go_at_call 145;refine N2.mono ?_;rintro e w3 Y;have R3:=RQ.first F1 Y;obtain⟨_,_,r3,rfl,_⟩:=Y)
    go_ret;exact R3
def JL(D:List NF)(P:LN)(s:Nat)(X:List NF):Prop :=
 (∀q∈P,q<D.length)/\(∀p,p∈P.map (λj=>D.getD j .zero)↔p∈X/\dF p=false)/\s=bf X/\P.length<=X.length
theorem JL.nil(D:List NF):JL D [] 0 []:=⟨by simp,by simp,rfl,by simp⟩
theorem Xe:bf (X++[d])=bf X ||| bits d:=by rw[zh,tH];simp[bf]
theorem JL.set(h:JL D P s X):JL D P (s ||| t) (X++[.set t]):=by
 refine⟨h.1,λp=>?_,?_,?_⟩
 .rw[h.2.1 p]
  constructor
  .grind
  grind [dF]
 .rw[Xe,<-h.2.2.1];rfl
 have:=h.2.2.2;simp;omega
theorem JL.add(h:JL D P s X)(hq:D[q]?=some d)(hd:dF d=false):JL D (P++[q]) s (X++[d]):=by
 have a:=Cz hq;refine⟨?_,λp=>?_,?_,?_⟩
 .intro j b
  rcases a0e.1 b with e|e
  .exact h.1 j e
  grind
 .rw[a0P,a0e,h.2.1 p]
  simp only[a0E,a1V,a0w,a0e,a]
  constructor
  .grind
  grind
 .rw[Xe,<-h.2.2.1,UI hd];simp
 have:=h.2.2.2;simp;omega
theorem JL.congr{Y:List NF}(h:JL D P s X)(b:∀p,p∈X↔p∈Y)(c:X.length<=Y.length):JL D P s Y:=by
 refine⟨h.1,λp=>by rw[h.2.1 p,b p],?_,a0h h.2.2.2 c⟩;rw[h.2.2.1];refine GY λi=>?_
 rw[a0T,a1s,a1s];exact⟨λ⟨x,a,e⟩=>⟨x,(b x).1 a,e⟩,λ⟨x,a,e⟩=>⟨x,(b x).2 a,e⟩⟩
theorem JL.core(h:JL D P (bf X) X)(b:bf X=0):∀p,p∈bN X↔p∈P.map λj=>D.getD j .zero:=by
 intro p;rw[h.2.1 p,jl]
 constructor
 .grind
 intro a;exact .inl a
theorem abf(h:∀q∈P,q<D.length):(P.map λj=>(D++R).getD j .zero)=P.map λj=>D.getD j .zero:=by grind [List.map_congr_left,List.getD,List.getElem?_append_left]
theorem JL.coreS {r:Nat}(h:JL D P (bf X) X)(b:bf X≠0)(a:(D++R)[r]?=some (.set (bf X))):∀p,p∈bN X↔p∈(P++[r]).map λj=>(D++R).getD j .zero:=by
 intro p;rw[a0P,a0e,abf h.1,h.2.1 p,jl];simp only[a0E,a1V,a0w,Cz a]
 constructor
 .grind
 grind
def BX(w:World)(bb s:Nat):Prop:=w.heap[bb]?=some (.cells #[.int .u64 (wd s 0),.int .u64 (wd s 1),.int .u64 (wd s 2),.int .u64 (wd s 3)] 218 (0,0))
theorem BX.lt {w:World}(h:BX w bb s):bb<w.heap.size:=(a0c.1 h).1
theorem BX.aC{w:World}(h:BX w bb s)(F:aB S w w')(a:bb∉S):BX w' bb s:=(F.block bb h.lt a).trans h
theorem BX.fz {w:World}(h:BX w bb s)(o:Nat):w.frozen? (zB bb o)=false:=by unfold BX at h;simp[World.frozen?,h]
theorem BX.get {w:World}(h:BX w bb s):w.cell? ⟨bb,0,none⟩=some (.int .u64 (wd s 0))/\w.cell? ⟨bb,1,none⟩=some (.int .u64 (wd s 1))/\w.cell? ⟨bb,2,none⟩=some (.int .u64 (wd s 2))/\w.cell? ⟨bb,3,none⟩=some (.int .u64 (wd s 3)):=by
 unfold BX at h;simp only[World.cell?,h];exact⟨rfl,rfl,rfl,rfl⟩
theorem BX.set {w:World}(h:BX w bb s)(t:Nat):BX ((((w.setCell (zA bb) (.int .u64 (wd t 0))).setCell (zB bb 1) (.int .u64 (wd t 1))).setCell (zB bb 2) (.int .u64 (wd t 2))).setCell (zB bb 3) (.int .u64 (wd t 3))) bb t:=by
 unfold BX at h |-;simp only[World.setCell,a0v,h,a0G,a1x]
 rfl
structure OQ(w wr:World)(bb:Nat)(D:List NF)(vp:Value)(P:LN)(s:Nat)(X:List NF):Prop where
 il:IL w.heap.size wr vp P
 nb:vp.ownBlock≠some bb
 bx:BX wr bb s
 os:JL D P s X
 fr:aB [] w wr
 bw:w.heap.size<=bb
 sl:s<2 ^ 256
theorem OQ.aY{w wr:World}(h:OQ w wr bb D vp P s X)(f:aB [] wr w'):OQ w w' bb D vp P s X :=
 ⟨fG h.il f (by simp),h.nb,h.bx.aC f (by simp),h.os,h.fr.trans f,h.bw,h.sl⟩
def BX.wu {w:World}(h:BX w bb s):qV w [bb]:=by intro k a cur fz;simp at a;subst a;rw[h];simp
def PL.apY{w:World}(h:PL w v L)(f:aB S w w')(d:∀a n c,v=.slice (some a) n c->a.block∉S):PL w' v L:=by refine⟨h.1.aC f d,?_,h.2.2⟩;intro a n c e;obtain⟨cur,fz,b⟩:=h.2.1 a n c e;exact⟨cur,fz,(f.block _ (a0c.1 b).1 (d a n c e)).trans b⟩
def OQ.joined{w wr:World}(h:OQ w wr bb D vp P s X)(ht:t<2 ^ 256)(f:aB [bb] wr w')(hb:BX w' bb (s ||| t)):OQ w w' bb D vp P (s ||| t) (X++[.set t]):=by have b:=h.bw;refine⟨mO h.il f (λk a=>by simp;intro e;subst e;exact h.nb a),h.nb,hb,h.os.set,?_,h.bw,Nat.or_lt_two_pow h.sl ht⟩;exact⟨f.os.trans h.fr.os,f.tape.trans h.fr.tape,f.output.trans h.fr.output,a0h h.fr.size f.size,λk a _=>(f.block k (a0t a h.fr.size) (by simp;omega)).trans (h.fr.block k a (by simp))⟩
theorem OQ.add{w wr:World} {o:Obj}(h:OQ w wr bb D vp P s X)(hq:D[q]?=some d)(hd:dF d=false)
 (f:IL w.heap.size w' (zS g (P.length+1) cap) (P++[q])) (b:(wr.alloc o).grownBy w' vp.ownBlock) (j:vp.ownBlock=some g\/g=(wr.alloc o).heap.size):OQ w w' bb D (zS g (P.length+1) cap) (P++[q]) s (X++[d]):=by
 have:=h.bw;have:=h.bx.lt;have c:=h.aY ((aB.refl [] wr).alloc o);refine⟨f,?_,c.bx.aC (aB.fo b) (λa=>by rw[a0H]at a;exact h.nb a),h.os.add hq hd,?_,h.bw,h.sl⟩
 .simp[Value.ownBlock,ne_eq,Option.some.injEq]
  intro e;subst e;rcases j with e|e
  .exact h.nb e
  simp at e;omega
 exact c.fr.grown b (λk i=>.inr (h.il.lt k i).1)
def TE.apZ {base:Nat}{w:World} {E:List (FV × LN)} {B:LN}(h:TE base w fb vb E B ak)(f:aB S w w')(i:fb∉S)(g:vb∉S)(d:∀e∈E,∀x n c,e.1.vp=.slice (some x) n c->x.block∉S):TE base w' fb vb E B ak:=by obtain⟨cap,ht,b⟩:=h.row;exact⟨⟨cap,ht.aC f i,mO b f (λk a=>by simp[Value.ownBlock]at a;subst a;exact g)⟩,λe he=>(h.pl e he).apY f (d e he),h.st,h.fb,a0h h.sz f.size⟩
def PL.blk {w:World}(h:PL w v L) {x:Addr}{c:Nat}(e:v=.slice (some x) n c):x.block<w.heap.size:=by obtain⟨cur,fz,a⟩:=h.2.1 x n c e;exact(a0c.1 a).1
def aB.asw {a b:World}(h:aB S a.drew b):aB S a b:=⟨h.os,h.tape,h.output,h.size,h.block⟩
def ap0{a sz:Nat}(h:vp.ownBlock≠some g)(b:vp.ownBlock=some a\/a=sz)(c:g<sz):Value.ownBlock (zS a n cap)≠some g:=by
 intro e;simp[Value.ownBlock]at e;subst e;rcases b with e|e
 .exact h e
 omega
def akc(ls:List NF)(k:Nat):((ls.take k).flatMap parts).length<=(ls.flatMap parts).length:=by
 have e:ls.flatMap parts=(ls.take k).flatMap parts++(ls.drop k).flatMap parts:=by rw[<-List.flatMap_append,a1C]
 rw[e];simp
def Ld(M:LN)(f:Nat->NF)(j:Nat)(h:j<M.length)(X:List NF):X++(M.take (j+1)).map f=(X++(M.take j).map f)++[f M[j]]:=by
 have e:M.take (j+1)=M.take j++[M[j]]:=by rw[a1c,a0a h];rfl
 rw[e,a0P,a0M];rfl
def auV(h:dF a=false):((qW a:Int)==2)=false:=by rw[a0j];cases a<;>simp_all[qW,dF]
def afx(base:Nat)(w:World)(fb vb:Nat)(D:List NF)(ak c:Nat)(U:List NF)(Z:LN)(v:Value)(I:LN)(ls:List NF)(h:ST base w fb vb D ak c U Z)(hv:NL .i64 w v I)
 (hI:∀j∈I,j<D.length) (y:ls=I.map λj=>D.getD j .zero) (hU:Ff U ls) :
 zF 146 #[zP fb,v] w (RQ base w fb vb D ak c U Z (bQ ls)):=by
 obtain⟨_,_,rfl,hN⟩:=hv;have HS:=aj h;have HI:=aj hI;have HLS:=aj y;have HU:=aj hU;have hll:ls.length=I.length:=by rw[y];simp
 have hIl:I.length<=9000000000000:=by have:=hU.2.2.2;omega
 delta zF;go_in
 go_wp2_with fail
 go_loopg [5,16] I.length (λk vp vi wr=>∃(j:Nat) (P:LN) (s:Nat),j+k=I.length/\vi=zI j/\OQ w wr (w.heap.size+1) D vp P s ((ls.take j).flatMap parts))
 case atStart =>
  have F2:aB [] w ((w.alloc (Obj.cells #[] 3)).alloc (Obj.cells #[.int .u64 0,.int .u64 0,.int .u64 0,.int .u64 0] 218)):=((aB.refl _ _).alloc _).alloc _;refine⟨0,[],0,by omega,rfl,?_,by simp[Value.ownBlock],?_,JL.nil D,F2,by omega,a2S 256⟩
  .have:=World.ownsRow_lit (w:=w) (base:=w.heap.size) (e:=3) (size:=1) #[] 0 (a0b _) (by unfold maxLen;omega) (by simp)
   exact World.ownsRow.alloc this _
  have e:w.heap.size+1=(w.alloc (Obj.cells #[] 3)).heap.size:=by simp
  unfold BX;rw[e];have:=bD (w.alloc (Obj.cells #[] 3)) (Obj.cells #[.int .u64 0,.int .u64 0,.int .u64 0,.int .u64 0] 218);simpa[wd] using this
 case round =>
  obtain⟨j,P,s,hj,rfl,b⟩:=hrel;obtain⟨N,Vg⟩:∃N,N=wr:=⟨_,rfl⟩;subst Vg;obtain⟨go,iD⟩:∃go,go=gk:=⟨_,rfl⟩;subst iD;obtain⟨ap,m,rfl⟩:=aW b.il;have z:=aj b;have Nz:=b.bx.lt
  by_cases aL:j<I.length
  .obtain⟨g,off,rfl,hg,hc⟩:=(aj hN).o j aL
   have oN:zC N g (off+j) (zI (I[j]:Nat)):=(z.o.fr.cell (p:=(zB g (off+j))) hg (by simp)).trans hc;have PO:=aj (afv base w N fb vb D ak c U Z I[j] HS.o z.o.fr (getD_some (HI.o I[j] (a0u aL))));have FL1:Z_ ((ls.take (j+1)).flatMap parts=(ls.take j).flatMap parts++parts (D.getD I[j] .zero)):=by
    show _=_;have e:ls.take (j+1)=ls.take j++[D.getD I[j] .zero]:=by
     rw[HLS.o,a1c];simp[aL]
    rw[e,List.flatMap_append];simp
   have hXL:((ls.take j).flatMap parts).length+(parts (D.getD I[j] .zero)).length<=9000000000000:=by
    have h1:=akc ls (j+1);rw[FL1.o,a0p]at h1;have:=HU.o.2.2.1;omega
   generalize hIj:I[j]=i at *;generalize hDi:D.getD i .zero=a at *;go_wp2_with fail
   refine(PO.o).mono ?_;rintro e _ ⟨_,M,rfl,lV,hM,nJ,_,ap1,aR⟩;obtain⟨a2,c2,rfl,_⟩:=lV.1;have BL2:Z_ (M≠[]->∀x n cp,(Value.slice a2 M.length c2)=.slice (some x) n cp->x.block<w.heap.size\/x.block=N.heap.size):=ap1;have HMM:=aj nJ;have jc:=z.o.il;have NE2:Z_ (∀x n cp,M≠[]->(Value.slice a2 M.length c2)=.slice (some x) n cp->Value.ownBlock (.slice ap P.length m)≠some x.block):=by
    intro x n cp bJ e e2;have h1:=jc.lt _ e2;rcases BL2.o bJ x n cp e with h2|_<;>omega
   go_wp2_with fail
   go_loopg [5,24] M.length (λk vp vi wr=>∃(l:Nat) (P:LN) (s:Nat),l+k=M.length/\vi=zI l/\OQ w wr (w.heap.size+1) D vp P s ((ls.take j).flatMap parts++(M.take l).map λj=>D.getD j .zero)/\PL wr (.slice a2 M.length c2) M/\Z_ (∀x n cp,M≠[]->(Value.slice a2 M.length c2)=.slice (some x) n cp->vp.ownBlock≠some x.block))
   case atStart=>exact⟨0,P,s,by omega,rfl,by simpa using (aj (z.o.aY aR)).o,aj lV,NE2⟩
   case round =>
    obtain⟨l,W,s2,_,rfl,b,lV,NE⟩:=hrel;obtain⟨ap2,cp2,rfl⟩:=aW b.il;have O3:=aj b;have P3:=aj lV;have ayb:=b.bx.lt;have hP2:=b.os.2.2.2;have qj:=b.sl;have S3:=aj (HS.o.aY b.fr);have T:=b.bx.get;have g0:=b.bx.fz 0;have g1:=b.bx.fz 1;have g2:=b.bx.fz 2;have g3:=b.bx.fz 3
    by_cases ng:l<M.length
    .obtain⟨_,_,e3,h3⟩:=P3.o.1
     simp only[Value.slice.injEq,a1W]at e3;obtain⟨rfl,rfl⟩:=e3;obtain⟨g,off,rfl,_,_⟩:=h3 l ng;have bJ:M≠[]:=λe=>by rw[e]at ng;simp at ng
     have hmj:=(aj hM).o M[l] (a0u ng);have hD3:=getD_some hmj;obtain⟨f,_,cap,K⟩:=S3.o.look hD3;have t0:=K.tab;obtain⟨k0,k1,k2,k3,k4,_⟩:=K.get;have hkd:=K.kd;have KS:=aj K.set;have KT:=aj K.st;rw[hkd]at k0;have MT:=aj (Ld M (λj=>D.getD j .zero) l ng ((ls.take j).flatMap parts));have hX2:((ls.take j).flatMap parts++(M.take l).map λj=>D.getD j .zero).length<=9000000000000:=by
      simp only[a0p,a0y,a1k];omega
     clear h3 K hkd;have ayc:((M[l]:Nat):Int)<D.length:=by omega
     generalize M[l]=q at *;generalize D.getD q .zero=d at *;have HD3:=aj hD3;clear hD3;cases hsd:dF d
     .have JG:=auV hsd
      have MT2:Z_ (((ls.take j).flatMap parts++(M.take (l+1)).map λj=>D.getD j .zero)=((ls.take j).flatMap parts++(M.take l).map λj=>D.getD j .zero)++[d]):=MT.o;clear MT T k1 k2 k3 k4 g0 g1 g2 g3;go_wp2_with (first | (at_builtin;refine vG rfl rfl w.heap.size (.slice ap2 W.length cp2) W q wr.heap.size rfl (O3.o.il.alloc _) rfl (j6 rfl) (by omega) (by simp;omega) ?_;intro S V w5 aS H bq iE;have O5:=aj (O3.o.add HD3.o hsd aS H bq);have P5:=aj ((P3.o.aC ((aB.refl [] wr).alloc _) (qV.nil _)).apY (aB.fo H) (λa n cc e O=>by rw[a0H]at O;exact NE.o a n cc bJ e O));have N5:Z_ (∀x n cp,M≠[]->(Value.slice (some (zB g off)) M.length c2)=.slice (some x) n cp->Value.ownBlock (zS S (W.length+1) V)≠some x.block):=(λx n cc _ e=>by simp at e;obtain⟨rfl,_⟩:=e;exact ap0 (NE.o (zB g off) _ _ bJ rfl) bq (by simp;omega));clear aS H bq))
      go_roundg (gk-1)
      case measure=>omega
      case rel=>exact⟨l+1,W++[q],s2,by omega,by go_num,by rw[MT2.o];simpa using O5.o,P5,by simpa using N5⟩
     obtain⟨t,rfl⟩:∃t,d=.set t:=by cases d<;>simp[dF]at hsd;exact⟨_,rfl⟩
     have hft:f.s=t:=KS.o t rfl;have ht:=KT.o;rw[hft]at k1 k2 k3 k4 ht;clear hft;obtain⟨b0,b1,b2,T⟩:=T;have J:=aj (ahs s2 t wr.drew qj ht);simp only[bv]at J;have A:((qW (.set t):Nat):Int)=2:=rfl;rw[A]at k0;clear A;have MT2:Z_ (((ls.take j).flatMap parts++(M.take (l+1)).map λj=>D.getD j .zero)=((ls.take j).flatMap parts++(M.take l).map λj=>D.getD j .zero)++[.set t]):=MT.o;clear MT;go_wp2_with fail
     go_region_with (go_at_call 158;refine(J.o).mono ?_;rintro e w4 ⟨rfl,nL⟩;have B4:BX w4 (w.heap.size+1) s2:=BX.aC (show BX wr.drew (w.heap.size+1) s2 from O3.o.bx) nL (by simp);obtain⟨d0,d1,d2,d3⟩:=B4.get;have e0:=B4.fz 0;have e1:=B4.fz 1;have e2:=B4.fz 2;have e3:=B4.fz 3;have B5:=aj (B4.set (s2 ||| t));have F4:=aj nL;clear nL B4)
     all_goals
      have F5:Z_ (aB [w.heap.size+1] wr ((((w4.setCell (zA (w.heap.size+1)) (.int .u64 (wd (s2 ||| t) 0))).setCell (zB (w.heap.size+1) 1) (.int .u64 (wd (s2 ||| t) 1))).setCell (zB (w.heap.size+1) 2) (.int .u64 (wd (s2 ||| t) 2))).setCell (zB (w.heap.size+1) 3) (.int .u64 (wd (s2 ||| t) 3)))):=((((aB.asw F4).nil.setCell (.inl (by simp)) _).setCell (.inl (by simp)) _).setCell (.inl (by simp)) _).setCell (.inl (by simp)) _;have O5:=aj (O3.o.joined ht F5.o B5);have P5:=aj (P3.o.aC F5.o O3.o.bx.wu);clear b0 b1 b2 T d0 d1 d2 d3 e0 e1 e2 e3 g0 g1 g2 g3 k0 k1 k2 k3 k4 t0 J;go_wp2;go_roundg (gk-1)
      case measure=>omega
      case rel=>exact⟨l+1,W,s2 ||| t,by omega,by go_num,by rw[MT2.o];exact O5,P5,NE⟩
    have qI:l=M.length:=by omega
    have u:Z_ (OQ w wr (w.heap.size+1) D (.slice ap2 W.length cp2) W s2 ((ls.take (j+1)).flatMap parts)):=by
     have h:=O3.o;refine⟨h.il,h.nb,h.bx,?_,h.fr,h.bw,h.sl⟩;refine h.os.congr ?_ ?_
     .intro p
      rw[FL1.o,qI,a2h,a0e,a0e,<-HMM.o p]
     rw[FL1.o,qI,a2h,a0p,a0p,a0y];omega
    clear O3 P3 NE T g0 g1 g2 g3 qI;go_wp2;go_roundg (go-1)
    case measure=>omega
    case rel=>exact⟨j+1,W,s2,by omega,by go_num,u⟩
  have qI:j=I.length:=by omega
  have u:Z_ (OQ w N (w.heap.size+1) D (.slice ap P.length m) P s (ls.flatMap parts)):=by
   have h:=z.o;rw[qI,<-(aj hll).o,a2h]at h;exact h
  clear z qI;obtain⟨E,B,hE,hP,hUD,Gd,Gf⟩:=HS.o;have ayd:=HS.o.pP.2.2.2.2.2;have Y:s=bf (ls.flatMap parts):=u.o.os.2.2.1;have y:∀x∈ls,WC x:=by
   intro x hx;rw[HLS.o]at hx;obtain⟨k,A,rfl⟩:=a0q.1 hx;exact HS.o.pP.2.2.2.1 _ (MG (HI.o k A))
  have ap3:∀p∈ls.flatMap parts,wf p:=xC λx hx=>(y x hx).1
  have SE:=aj (apW base N fb vb E B D ak c U Z s (hE.aY u.o.fr) hP hUD Gd u.o.sl (λh0=>by rw[Y]at h0 |-;exact HU.o.1 h0) (Gf.mono u.o.fr.size));simp only[bv]at SE;obtain⟨b0,b1,b2,T⟩:=u.o.bx.get;have HT:Z_ (JY (bN (ls.flatMap parts))):=BU (J4 ap3);have HWC:Z_ (WC (mkS (gU (bN (ls.flatMap parts))))):=WC.bQ y;have HUO:Z_ (2<=(gU (bN (ls.flatMap parts))).length->mkS (gU (bN (ls.flatMap parts)))∈U):=HU.o.2.1;have hPl:P.length<=9000000000000:=a0h u.o.os.2.2.2 HU.o.2.2.1;have L:=aj Y;have HE:=aj hE;clear Y y ap3 hE;go_wp2_with fail
  refine(SE.o).mono ?_;rintro e X ⟨Dp,R,r,E',B',rfl,C,F,G,_,hr,hq,iG,xg⟩;have S3:Z_ (ST base X fb Dp (D++R) ak c U Z):=⟨E',B',C,F,G,Gd,xg⟩;have I3:Z_ (IL w.heap.size X (.slice ap P.length m) P):=mO u.o.il hq.fr (λk A=>by have:=(u.o.il.lt k A).1;simp;omega);have Q3:=aj (FQ.aba u.o.fr hq);have z3:=hq.fr.size;have HPD:Z_ (∀q∈P,q<(D++R).length):=λq hqq=>by have:=u.o.os.1 q hqq;simp;omega
  have OS4:Z_ (JL D P (bf (ls.flatMap parts)) (ls.flatMap parts)):=by have:=u.o.os;rw[L.o]at this;exact this
  have n0:=S3.o.num hr S3.o.pP.1
  by_cases h0:s=0
  .have hr0:r=0:=n0.2 (by simp[Ke,h0])
   subst hr0;have rC:bf (ls.flatMap parts)=0:=by rw[<-L.o];exact h0
   have SU:=aj (ahE base X fb Dp (D++R) ak c U Z (.slice ap P.length m) P (bN (ls.flatMap parts)) S3.o (xV I3) (by omega) HPD.o HT.o (λp=>by rw[abf OS4.o.1];exact OS4.o.core rC p) HWC.o HUO);clear hq hr iG C F G b0 b1 b2 T SE rC n0;go_wp2_with fail
   refine(SU.o).mono ?_;rintro e w6 fV;have R6:=aj (RQ.later Q3.o fV);obtain⟨_,_,r6,rfl,_⟩:=fV;go_wp2;go_ret;exact R6
  have hsn:Ke s=.set s:=by simp[Ke,h0]
  rw[hsn]at hr n0;have hr0:r≠0:=λe=>by have:=n0.1 e;simp at this
  have hbn:((r:Int) != 0)=true:=by rw[a1M];omega
  have rC:bf (ls.flatMap parts)≠0:=by rw[<-L.o];exact h0
  have hmv:=hq.mv;have hrr:r<(D++R).length:=(a0d.1 hr).1;have hrj:(D++R)[r]?=some (.set (bf (ls.flatMap parts))):=by rw[<-L.o];exact hr
  have SU:Z_ (∀(w5:World) (S V:Nat) (o:Obj),IL w.heap.size w5 (zS S (P.length+1) V) (P++[r])->(X.alloc o).grownBy w5 (Value.ownBlock (.slice ap P.length m))->zF 159 #[zP fb,zS S (P.length+1) V] w5 (RQ base w fb vb D ak c U Z (mkS (gU (bN (ls.flatMap parts)))))):=by
   intro w5 S V o aS H;have hbk:∀k,k∈(Value.ownBlock (.slice ap P.length m)).toList->w.heap.size<=k/\k<N.heap.size:=λk A=>by
    rw[a0H]at A;exact u.o.il.lt k A
   have F5:aB (Value.ownBlock (.slice ap P.length m)).toList (X.alloc o) w5:=aB.fo H;have T4:=C.aY ((aB.refl [] X).alloc o);have T5:TE base w5 fb Dp E' B' ak:=by
    refine T4.apZ F5 (λO=>by have:=hbk _ O;omega) (λO=>by have:=hbk _ O;omega) ?_;intro e he x n cc e1 O;have A:=hbk _ O;rcases iG e he with h1|h1
    .have:=(HE.o.pl e h1).blk e1;omega
    rw[h1.1]at e1;simp at e1
   have Q5:FQ fb vb Dp w w5:=by
    refine⟨?_,Q3.o.mv⟩;exact(Q3.o.fr.alloc o).grown H (λk A=>.inr (u.o.il.lt k A).1)
   have hs:=ahE base w5 fb Dp (D++R) ak c U Z (zS S (P.length+1) V) (P++[r]) (bN (ls.flatMap parts)) ⟨E',B',T5,F,G,Gd,xg.mono (by have:=F5.size;simp at this;omega)⟩ (xV (by simpa[IL] using aS)) (by rw[a0p];simp only[a0r,a1e];omega) (λj hj=>by
    rcases a0e.1 hj with e|e
    .exact HPD.o j e
    simp at e;subst e;exact hrr) HT.o (OS4.o.coreS rC hrj) HWC.o HUO
   exact hs.mono λe w6 fV=>RQ.later Q5 fV
  clear hq hr iG C F G b0 b1 b2 T SE rC n0 hsn;go_wp2_with (first | (at_builtin;refine vG rfl rfl w.heap.size (.slice ap P.length m) P r X.heap.size rfl (I3.o.alloc _) rfl (j6 rfl) (by omega) (by simp;omega) ?_;intro S V w5 aS H bq iE;have C5:=aj (SU.o w5 S V _ aS H);clear aS H bq)|(go_at_call 159;refine(C5.o).mono ?_;rintro e w6 fV;have R6:=aj fV;obtain⟨_,_,r6,rfl,_⟩:=fV))
  go_ret;exact R6
def ST.more {base:Nat} {w a:World}{c:Nat}(h:ST base w fb vb D ak c U Z)(f:aB [] w a)(g:∀k∈Z2,w.heap.size<=k/\k<a.heap.size):ST base a fb vb D ak c U (Z2++Z):=by
 obtain⟨E,B,j,o,m,l,i⟩:=h;refine⟨E,B,j.aY f,o,m,l,?_,?_⟩
 .intro k b
  rcases a0e.1 b with e|e
  .exact(g k e).2
  exact a0t (i.1 k e) f.size
 intro e he x n cc ex b;rcases a0e.1 b with d|d
 .have:=(j.pl e he).blk ex;have:=(g _ d).1;omega
 exact i.2 e he x n cc ex d
def ST.less {base:Nat} {w:World}{c:Nat}(h:ST base w fb vb D ak c U (Z2++Z)):ST base w fb vb D ak c U Z:=by obtain⟨E,B,j,i,g,f,a⟩:=h;exact⟨E,B,j,i,g,f,λk d=>a.1 k (by simp[d]),λe he x n cc ex b=>a.2 e he x n cc ex (by simp[b])⟩
def ST.akd {base:Nat}{w:World}{c:Nat} {o:Obj}(h:ST base w fb vb D ak c U (v.ownBlock.toList++Z))(i:(w.alloc o).grownBy w5 v.ownBlock)(s:v.ownBlock=some g\/g=(w.alloc o).heap.size)(t:g<w5.heap.size)(m:fb∉v.ownBlock.toList)(l:vb∉v.ownBlock.toList):ST base w5 fb vb D ak c U ([g]++Z):=by
 obtain⟨E,B,k1,k2,q,p,b⟩:=h;have hz:ZZ w E Z:=⟨λk d=>b.1 k (by simp[d]),λe he x n cc ex a=>b.2 e he x n cc ex (by simp[a])⟩;have r:w.heap.size<=w5.heap.size:=by have:=i.size;simp at this;omega
 refine⟨E,B,(k1.aY ((aB.refl [] w).alloc o)).apZ (aB.fo i) m l (λe he x n cc ex a=>b.2 e he x n cc ex (by simp[a])),k2,q,p,?_,?_⟩
 .intro k a
  rcases a0e.1 a with e|e
  .simp at e;omega
  exact a0t (hz.1 k e) r
 intro e he x n cc ex a;rcases a0e.1 a with f|f
 .simp at f
  have hb:=(k1.pl e he).blk ex;rcases s with j|j
  .exact b.2 e he x n cc ex (a0e.2 (.inl (by rw[a0H,j,f])))
  simp at j;omega
 exact hz.2 e he x n cc ex f
def RZ(base:Nat)(w:World)(fb vb:Nat)(D:List NF)(ak c:Nat)(U:List NF)(Z:LN)(y:NF)(r:Nat)(w':World):Prop :=
 ∃jS R,ST base w' fb jS (D++R) ak c U Z/\(D++R)[r]?=some y/\FQ fb vb jS w w'
def RZ.here {base:Nat}{w:World}{c:Nat} {r:Nat}(h:ST base w fb vb D ak c U Z)(f:aB [] w w')(a:D[r]?=some y):RZ base w fb vb D ak c U Z y r w' :=
 ⟨vb,[],by simpa using h.aY f,by simpa using a,FQ.keepR (FQ.refl _ _ _) f⟩
def RQ.rz {base:Nat}{w:World}{c:Nat}(h:RQ base w fb vb D ak c U Z y e w'):∃r:Nat,e=zR (zI r)/\RZ base w fb vb D ak c U Z y r w':=by obtain⟨jS,R,r,f,d,b,a⟩:=h;exact⟨r,f,jS,R,d,b,a⟩
def RZ.rq {base:Nat}{w:World}{c:Nat} {r:Nat}(h:RZ base w fb vb D ak c U Z y r w'):RQ base w fb vb D ak c U Z y (zR (zI r)) w':=by obtain⟨jS,R,d,b,a⟩:=h;exact⟨jS,R,r,rfl,d,b,a⟩
theorem RZ.aY {base:Nat}{w:World}{c:Nat} {r:Nat}(h:RZ base w fb vb D ak c U Z y r w1)(f:aB [] w1 w2):RZ base w fb vb D ak c U Z y r w2:=by obtain⟨jS,R,d,b,a⟩:=h;exact⟨jS,R,d.aY f,b,FQ.keepR a f⟩
def RZ.call {base:Nat}{w:World}{c:Nat}{b:NF} {r:Nat} {fn:Nat} {args:Array Value}(h:RZ base w fb vb D ak c U Z y r w1)
 (g:∀(jS:Nat) (a:List NF),ST base w1 fb jS a ak c U Z->a[r]?=some y->(∀(i:Nat) (d:NF),D[i]?=some d->a[i]?=some d)->zF fn args w1 (RQ base w1 fb jS a ak c U Z b)):zF fn args w1 (RQ base w fb vb D ak c U Z b):=by
 obtain⟨jS,R,l,k,j⟩:=h;exact(g jS (D++R) l k (λi d hd=>rU hd)).mono λe w' f=>RQ.later j f
def Ob(base:Nat)(w:World)(fb vb:Nat)(D:List NF)(ak c:Nat)(U:List NF)(Z:LN)(a:NF)(i lo:Nat)(u:Option Nat)(h:ST base w fb vb D ak c U Z)(N:D[i]?=some a)(E:aj1 U a lo u)(jU:lo<=9)(T:∀n,u=some n->lo<=n/\n<=9) :
 zF 137 #[zP fb,zI i,zI lo,zI (Yt u)] w (RQ base w fb vb D ak c U Z (kD a lo u)):=by
 have J:=h.pP.2.1;rw[aj0];have I:∀(w1:World) (k r:Nat) (t:NF),RZ base w fb vb D ak c U Z t r w1->(∀f∈uZ a t,f∈U)->zF 148 #[zP fb,zI i,zI r] w1 (RQ base w fb vb D ak c U Z (aG a t)):=by intro w1 k r t h1 H;exact h1.call λjS L x B O=>M5 a base w1 fb jS L ak c U Z t i r x (O _ _ N) B H
 cases u with
 | none =>
   have R:=anl base w fb vb D ak c U Z a i h N (E.1 rfl);have v:Yt none=-1:=rfl;rw[v];clear v;delta zF;go_in
   go_wp2_with fail
   refine R.mono ?_;rintro e w1 b;obtain⟨F,rfl,P⟩:=b.rz;have z:RZ base w fb vb D ak c U Z (eQ a 0 (yU a lo none)) F w1:=P;clear b P R;go_wp2_with fail
   go_loopg [9,10] 0 (λk g m wr=>g=zI F/\m=zI lo/\wr=w1)
   exact⟨rfl,rfl,rfl⟩
   .obtain⟨rfl,rfl,hw⟩:=hrel;subst hw;have uD:¬ ((lo:Int) < -1):=by omega
    go_wp2_with fail
    go_loopg [9,12] lo (λk g l wr=>∃(j r:Nat),j+k=lo/\l=zI j/\g=zI r/\RZ base w fb vb D ak c U Z (eQ a j (yU a lo none)) r wr)
    exact⟨0,F,by omega,rfl,rfl,z⟩
    .clear z;obtain⟨j,r,M,rfl,rfl,RR⟩:=hrel
     by_cases y:j<lo
     .have C:=I wr 0 r _ RR (E.2.2 j y)
      have A:eQ a (j+1) (yU a lo none)=aG a (eQ a j (yU a lo none)):=Qp;clear RR;go_wp2_with fail
      refine C.mono ?_;rintro e w2 b;obtain⟨d,rfl,s⟩:=b.rz;clear b C;go_wp2;go_roundg (gk-1);exact⟨j+1,d,by omega,by go_num,rfl,by rw[A];exact s⟩;omega
     have p:j=lo:=by omega
     subst p;go_wp2;go_ret;exact RR.rq
 | some n =>
   obtain⟨KH,hn9⟩:=T n rfl;have v:Yt (some n)=(n:Int):=rfl;rw[v];clear v;have bJ:((n:Int) == -1)=false:=by rw[a0j];omega
   delta zF;go_in
   go_wp2_with fail
   go_loopg [9,10] (n-lo) (λk g m wr=>∃(j r:Nat),j+k=n-lo/\m=zI (lo+j:Nat)/\g=zI r/\RZ base w fb vb D ak c U Z (dG a j .one) r wr)
   exact⟨0,1,by omega,by simp,rfl,RZ.here h zK J⟩
   .obtain⟨j,r,M,rfl,rfl,RR⟩:=hrel
    by_cases y:j<n-lo
    .have G:=E.2.1 n rfl j y
     have C:=I wr 0 r _ RR G.1;have A:dG a (j+1) .one=eH (aG a (dG a j .one)) .one:=aaL;have OK:=G.2;have X:((lo+j:Nat):Int)<n:=by omega
     clear RR G;go_wp2_with fail
     refine C.mono ?_;rintro e w2 b;obtain⟨d,rfl,s⟩:=b.rz;have S:∀o,o=Obj.cells #[zI d,zI 1] 3->zF 146 #[zP fb,zS w2.heap.size 2 2] (w2.alloc o) (RQ base w fb vb D ak c U Z (eH (aG a (dG a j .one)) .one)):=by
      rintro o rfl;have V:=s.aY ((aB.refl [] w2).alloc (Obj.cells #[zI d,zI 1] 3));refine V.call λjS L x B O=>?_
      have Y:IL w2.heap.size (w2.alloc (Obj.cells #[zI d,zI 1] 3)) (zS w2.heap.size 2 2) [d,1]:=World.ownsRow_lit _ #[zI d,zI 1] 2 (a0b _) (by unfold maxLen;omega) (by simp);refine afx base _ fb jS L ak c U Z (zS w2.heap.size 2 2) [d,1] [aG a (dG a j .one),.one] x (xV Y) ?_ ?_ OK
      .intro q hq
       simp at hq;rcases hq with rfl|rfl
       .exact(a0d.1 B).1
       exact(a0d.1 x.pP.2.1).1
      simp only[a0E,a1V,Cz B,Cz x.pP.2.1]
     clear b C;go_wp2_with fail
     refine(S _ rfl).mono ?_;rintro e w3 b;obtain⟨W,rfl,R3⟩:=b.rz;clear b S s;go_wp2;go_roundg (gk-1);exact⟨j+1,W,by omega,by go_num,rfl,by rw[A];exact R3⟩;omega
    have p:j=n-lo:=by omega
    have z:RZ base w fb vb D ak c U Z (eQ a 0 (yU a lo (some n))) r wr:=by have:=RR;rw[p]at this;exact this
    have X:¬ ((lo+j:Nat):Int)<n:=by omega
    clear RR p;go_wp2_with fail
    go_loopg [9,12] lo (λk g l wr=>∃(j r:Nat),j+k=lo/\l=zI j/\g=zI r/\RZ base w fb vb D ak c U Z (eQ a j (yU a lo (some n))) r wr)
    exact⟨0,r,by omega,rfl,rfl,z⟩
    .clear z;obtain⟨j,r,M,rfl,rfl,RR⟩:=hrel
     by_cases y:j<lo
     .have C:=I wr 0 r _ RR (E.2.2 j y)
      have A:eQ a (j+1) (yU a lo (some n))=aG a (eQ a j (yU a lo (some n))):=Qp;clear RR;go_wp2_with fail
      refine C.mono ?_;rintro e w2 b;obtain⟨d,rfl,s⟩:=b.rz;clear b C;go_wp2;go_roundg (gk-1);exact⟨j+1,d,by omega,by go_num,rfl,by rw[A];exact s⟩;omega
     have p:j=lo:=by omega
     subst p;go_wp2;go_ret;exact RR.rq
def ST.ake {A:Nat->Prop} {base:Nat}{w:World}{c:Nat}(h:ST base w fb vb D ak c U Z)(q:FQ fb vb jS w w'):pO A w w':=by
 obtain⟨E,B,b,_⟩:=h;obtain⟨cap,ht,_⟩:=b.row;obtain⟨_,_,cur,d⟩:=b.vbs;intro k _ ⟨g,fz,a⟩;have f:k<w.heap.size:=by rcases a with e|e<;>exact(a0c.1 e).1
 refine q.block f ?_ ?_
 .rintro rfl;rw[ht.1]at a;rcases a with e|e<;>simp at e
 rintro rfl;rw[d]at a;rcases a with e|e<;>simp at e
def NmC(x:RX):Prop:=∀(A:Nat->Prop) (base:Nat) (w:World) (fb vb:Nat) (D:List NF) (ak c:Nat) (U:List NF) (Z:LN) (p:Nat),ST base w fb vb D ak c U Z->XR A w p x->aaM U x->uO x->tL x ->
 zF 127 #[zP fb,zP p] w (RQ base w fb vb D ak c U Z (bn x))
def Oc(A:Nat->Prop)(base:Nat)(w:World)(fb vb:Nat)(D:List NF)(ak c:Nat)(U:List NF)(Z:LN)(v:Value)(b:LN)(l:List RX)(h:ST base w fb vb D ak c U Z)(j:XV A w v b)(q:mD A w b l)(L:zi U l)(J:Qq U l)(hd:mZ l)(ho:jm l)(G:∀y∈l,NmC y) :
 zF 138 #[zP fb,v] w (RQ base w fb vb D ak c U Z (sJ l)):=by
 obtain⟨a,cap,rfl⟩:=aW j.1;have hlen:=q.len;have S:=aj j;have HR:=aj q;have HN:=aj L;have u:=aj J;have HD:=aj hd;have HO:=aj ho;have HI:=aj G;have V:=aj h;have z:=aj h.pP.2.1;have uU:=j.2.2;have W:=aj hlen;clear j q L J hd ho G h hlen;delta zF;go_in
 go_wp2_with fail
 go_loopg [5,6] b.length (λk v5 v6 wr=>∃r:Nat,k<=b.length/\v6=zI ((k:Int)-1)/\v5=zI r/\RZ base w fb vb D ak c U Z (sJ (l.drop k)) r wr)
 case atStart=>exact⟨1,by omega,by go_num,rfl,RZ.here V.o (aB.refl _ _) (by rw[W.o,a2H];exact z)⟩
 case round =>
  obtain⟨r,hk,rfl,rfl,hz⟩:=hrel;have RR:=aj hz;clear hz;cases gk with
  | zero =>
    have R0:Z_ (RZ base w fb vb D ak c U Z (sJ l) r wr):=RR.o;clear RR;go_wp2;go_ret;exact R0.o.rq
  | succ m =>
    have n:m<l.length:=by have:=W.o;omega
    obtain⟨g,rfl⟩:∃g,a=some (zA g):=by
     rcases S.o.1.2 with⟨e,h⟩|⟨g,c,cur,e,_⟩
     .simp at e;omega
     simp at e;exact⟨g,e.1⟩
    obtain⟨Dp,R,N,d,hq⟩:=RR.o;have s:pO A w wr:=V.o.ake hq;obtain⟨p,I,H⟩:=(HR.o.aY s).get m n;have hc:=(S.o.aY s).cell I;have f:=a0u n;have C:=aj (HI.o _ f A base wr fb Dp (D++R) ak c U Z p N H (KQ.1 HN.o _ f) (M3 HD.o f) (MX HO.o f));have HT:Z_ (sJ (l.drop m)=aG (bn l[m]) (sJ (l.drop (m+1)))):=by show _=_;rw[a0k n];rfl
    have CR:=aj (u.o.get m n);have x:=aj d;have HQ:=aj hq;have O:((m+1:Nat):Int)-1=m:=by omega
    rw[O];clear O s H f I N d hq RR;generalize bn l[m]=y at *;generalize sJ (l.drop (m+1))=t at *;have hmp:(m:Int)<b.length:=by omega
    go_wp2_with fail
    refine(C.o).mono ?_;rintro e w2 ⟨Aw,P,r2,rfl,X,F,E⟩;have T:=aj (M5 y base w2 fb Aw (D++R++P) ak c U Z t r2 r X F (rU x) CR);have Q2:=aj (HQ.o.trans E);clear X F E C hc;go_wp2_with fail
    refine(T.o).mono ?_;rintro e Y M;have i:RQ base w fb vb D ak c U Z (aG y t) e Y:=RQ.later (R:=R++P) Q2.o (by simpa using M);obtain⟨r3,rfl,B⟩:=i.rz;have R3:=aj B;clear M i B T;go_wp2;go_roundg m
    case measure=>omega
    case rel=>exact⟨r3,by omega,by go_num,rfl,by rw[HT.o];exact R3⟩
def ST.Vv {base b2:Nat} {w:World}{c:Nat}(h:ST base w fb vb D ak c U Z)(j:IL b2 w v I):fb∉v.ownBlock.toList/\vb∉v.ownBlock.toList:=by
 obtain⟨E,B,f,_⟩:=h;obtain⟨cap,ht,_⟩:=f.row;obtain⟨_,_,cur,i⟩:=f.vbs;have key:∀k,v.ownBlock=some k->∃cur,w.heap[k]?=some (.cells cur 3 (0,0)):=by
  intro k b;rcases j.2 with⟨e,_⟩|⟨g,cp,cur,e,_,l,_⟩
  .rw[e]at b;simp[Value.ownBlock]at b
  rw[e]at b;simp[Value.ownBlock]at b;subst b;exact⟨cur,l⟩
 constructor
 .intro a
  rw[a0H]at a;obtain⟨m,d⟩:=key _ a;rw[ht.1]at d;simp at d
 intro a;rw[a0H]at a;obtain⟨m,d⟩:=key _ a;rw[i]at d;simp at d
structure GQ(base:Nat)(w wr:World)(fb vb:Nat)(D:List NF)(ak c:Nat)(U:List NF)(Z:LN)(v5:Value)(I:LN)(X:List NF)(jS:Nat)(R:List NF):Prop where
 il:IL w.heap.size wr v5 I
 st:ST base wr fb jS (D++R) ak c U (v5.ownBlock.toList++Z)
 lt:∀q∈I,q<(D++R).length
 mp:X=I.map λj=>(D++R).getD j .zero
 fq:FQ fb vb jS w wr
def GQ.start {base:Nat} {w:World}{c:Nat}(h:ST base w fb vb D ak c U Z):GQ base w (w.alloc (Obj.cells #[] 3)) fb vb D ak c U Z (zS w.heap.size 0 0) [] [] vb []:=by have F:=(aB.refl [] w).alloc (Obj.cells #[] 3);refine⟨World.ownsRow_lit _ #[] 0 (a0b _) (by unfold maxLen;omega) (by simp),?_,by simp,by simp,FQ.keepR (FQ.refl _ _ _) F⟩;rw[a0R];exact h.more F (λk a=>by simp[Value.ownBlock]at a;subst a;simp)
def GQ.turn {base:Nat}{w wr:World}{b:Nat}{c:Nat}{g:List NF}(h:GQ base w wr fb vb D ak c U Z v5 I X jS R)(i:ST base w2 fb b (D++R++g) ak c U (v5.ownBlock.toList++Z))(hq:FQ fb jS b wr w2):GQ base w w2 fb vb D ak c U Z v5 I X b (R++g):=by
 have f:=h.st.Vv h.il;refine⟨mO h.il hq.fr (λk d=>?_),by rw[<-a0M];exact i,?_,?_,h.fq.trans hq⟩
 .simp only[a0l,a1U,a2V,not_or]
  exact⟨λe=>f.1 (by rw[a0H,<-e];exact d),λe=>f.2 (by rw[a0H,<-e];exact d)⟩
 .intro q a;have:=h.lt q a;simp at this |-;omega
 rw[<-a0M,abf h.lt];exact h.mp
theorem GQ.aY {base:Nat}{w wr:World}{c:Nat}(h:GQ base w wr fb vb D ak c U Z v5 I X jS R)(f:aB [] wr w2):GQ base w w2 fb vb D ak c U Z v5 I X jS R :=
 ⟨fG h.il f (by simp),h.st.aY f,h.lt,h.mp,FQ.keepR h.fq f⟩
theorem GQ.add {base:Nat}{w wr:World}{c:Nat} {o:Obj}(h:GQ base w wr fb vb D ak c U Z v5 I X jS R)(hq:(D++R)[q]?=some y)
 (d:IL w.heap.size w5 (zS g (I.length+1) cap) (I++[q])) (a:(wr.alloc o).grownBy w5 v5.ownBlock) (m:v5.ownBlock=some g\/g=(wr.alloc o).heap.size) (f:g<w5.heap.size):GQ base w w5 fb vb D ak c U Z (zS g (I.length+1) cap) (I++[q]) (X++[y]) jS R:=by
 have b:=h.st.Vv h.il;refine⟨d,h.st.akd a m f b.1 b.2,?_,?_,⟨(h.fq.fr.alloc o).grown a (λk i=>.inr (h.il.lt k i).1),h.fq.mv⟩⟩
 .intro j l
  rcases a0e.1 l with e|e
  .exact h.lt j e
  simp at e;subst e;exact(a0d.1 hq).1
 rw[a0P,<-h.mp];simp only[a0E,a1V,Cz hq]
def GQ.or {base:Nat} {w wr:World}{c:Nat}(h:GQ base w wr fb vb D ak c U Z v5 I X jS R)(b:Ff U X) :
 zF 146 #[zP fb,v5] wr (RQ base w fb vb D ak c U Z (bQ X)) :=
 (afx base wr fb jS (D++R) ak c U Z v5 I X h.st.less (xV h.il) h.lt h.mp b).mono λe w' a=>RQ.later h.fq a
def Tv(A:Nat->Prop)(base:Nat)(w:World)(fb vb:Nat)(D:List NF)(ak c:Nat)(U:List NF)(Z:LN)(v:Value)(b:LN)(l:List RX)(h:ST base w fb vb D ak c U Z)(i:XV A w v b)(s:mD A w b l)(L:zi U l)(J:Ff U (iP l))(hd:mZ l)(ho:jm l)(E:∀y∈l,NmC y) :
 zF 136 #[zP fb,v] w (RQ base w fb vb D ak c U Z (bQ (iP l))):=by
 obtain⟨a,cap,rfl⟩:=aW i.1;have hlen:=s.len;have T:=aj i;have HR:=aj s;have HN:=aj L;have x:=aj J;have HD:=aj hd;have HO:=aj ho;have HI:=aj E;have V:=aj h;have uU:=i.2.2;have X:=aj hlen;clear i s L J hd ho E h hlen;delta zF;go_in
 go_wp2_with fail
 go_loopg [5,12] b.length (λk v5 n wr=>∃(j:Nat) (I:LN) (jS:Nat) (R:List NF),j+k=b.length/\n=zI j/\I.length<=j/\GQ base w wr fb vb D ak c U Z v5 I ((iP l).take j) jS R)
 case atStart=>exact⟨0,[],vb,[],by omega,rfl,by simp,GQ.start V⟩
 case round =>
  obtain⟨j,I,W,R,hj,rfl,hIl,m⟩:=hrel;obtain⟨t,c5,rfl⟩:=aW m.il;have G:=aj m;have zr:=m.fq.fr.size;clear m
  by_cases aL:j<b.length
  .have z:j<l.length:=by have:=X.o;omega
   obtain⟨g,rfl⟩:∃g,a=some (zA g):=by
    rcases T.o.1.2 with⟨e,h⟩|⟨g,c,cur,e,_⟩
    .simp at e;omega
    simp at e;exact⟨g,e.1⟩
   have u:pO A w wr:=V.o.ake G.o.fq;obtain⟨p,H,F⟩:=(HR.o.aY u).get j z;have hc:=(T.o.aY u).cell H;have d:=a0u z;have C:=aj (HI.o _ d A base wr fb W (D++R) ak c U ((Value.ownBlock (.slice t I.length c5)).toList++Z) p G.o.st F (KQ.1 HN.o _ d) (M3 HD.o d) (MX HO.o d));have HT:Z_ ((iP l).take (j+1)=(iP l).take j++[bn l[j]]):=by show _=_;rw[uB,a1c];simp[z]
   clear u F d H;generalize bn l[j]=y at *;go_wp2_with fail
   refine(C.o).mono ?_;rintro e w2 ⟨Aw,S,q,rfl,Y,B,r⟩;have f:=aj (G.o.turn Y r);have z2:=r.fr.size;have tV:Z_ ((D++(R++S))[q]?=some y):=by show _=_;rw[<-a0M];exact B
   clear Y B r C hc G;go_wp2_with (first | (at_builtin;refine vG rfl rfl w.heap.size (.slice t I.length c5) I q w2.heap.size rfl (f.o.il.alloc _) rfl (j6 rfl) (by omega) (by simp;omega) ?_;intro gg aU w5 O P N iE;have G5:=aj (f.o.add tV.o O P N iE);clear O P N))
   go_roundg (gk-1)
   case measure=>omega
   case rel=>exact⟨j+1,I++[q],Aw,R++S,by omega,by go_num,by simp only[a0p,a0r,a1e];omega,by rw[HT.o];simpa using G5.o⟩
  have f:Z_ (GQ base w wr fb vb D ak c U Z (.slice t I.length c5) I (iP l) W R):=by
   have:=G.o;rw[a0C (by rw[uB,a0y];have:=X.o;omega)]at this;exact this
  have C:=aj (f.o.or x);clear G f;go_wp2_with fail
  refine(C.o).mono ?_;rintro e w3 M;have R3:=aj M;obtain⟨_,_,r3,rfl,_⟩:=M;go_wp2;go_ret;exact R3
theorem XB.get {w:World}{eb:Nat}(h:XB w eb s):w.cell? ⟨eb,0,none⟩=some (.int .i64 0)/\w.cell? ⟨eb,1,none⟩=some (.int .u64 (wd s 0))/\w.cell? ⟨eb,2,none⟩=some (.int .u64 (wd s 1))/\w.cell? ⟨eb,3,none⟩=some (.int .u64 (wd s 2))/\w.cell? ⟨eb,4,none⟩=some (.int .u64 (wd s 3)):=by
 unfold XB at h;simp only[World.cell?,h];exact⟨rfl,rfl,rfl,rfl,rfl⟩
def ahG(s:Nat):NmC (.one s):=by
 intro A base w fb vb D ak c U Z p h hx hn hd ho;simp only[XR]at hx;obtain⟨c0,c1,c2,c3,c4⟩:=hx.2.get;have SA:=aj (apX base w fb vb D ak c U Z s h ho hn);simp only[bv]at SA;have e:bn (.one s)=Ke s:=rfl;rw[e];clear hx h hn;go_enter Tryz.func127,Tryz.ntmps127
 go_wp2_with fail
 refine(SA.o).mono ?_;rintro e w3 fV;have R3:=aj fV;obtain⟨_,_,r3,rfl,_⟩:=fV;go_wp2;go_ret;exact R3
def ahH(l:List RX)(m:∀y∈l,NmC y):NmC (.alt l):=by
 intro A base w fb vb D ak c U Z p h g b hd ho;simp only[XR]at g;obtain⟨_,v,k,f,d,i⟩:=g;have c0:=f.c0;have c5:=f.c5;have q:=aj (Tv A base w fb vb D ak c U Z v k l h d i b.1 b.2 hd ho.1 m);have e:bn (.alt l)=bQ (iP l):=rfl;rw[e];obtain⟨a,cap,rfl⟩:=aW d.1;clear f d i h b;delta zF;go_in
 go_wp2_with fail
 refine(q.o).mono ?_;rintro e r j;have n:=aj j;obtain⟨_,_,s,rfl,_⟩:=j;go_wp2;go_ret;exact n
def ahI(l:List RX)(m:∀y∈l,NmC y):NmC (.seq l):=by
 intro A base w fb vb D ak c U Z p h g b hd ho;simp only[XR]at g;obtain⟨_,v,k,f,d,i⟩:=g;have c0:=f.c0;have c5:=f.c5;have q:=aj (Oc A base w fb vb D ak c U Z v k l h d i b.1 b.2 hd ho m);have e:bn (.seq l)=sJ l:=rfl;rw[e];obtain⟨a,cap,rfl⟩:=aW d.1;clear f d i h b;delta zF;go_in
 go_wp2_with fail
 refine(q.o).mono ?_;rintro e r j;have n:=aj j;obtain⟨_,_,s,rfl,_⟩:=j;go_wp2;go_ret;exact n
def ahJ(x:RX)(lo:Nat)(a:Option Nat)(y:NmC x):NmC (.rep x lo a):=by
 intro A base w fb vb D ak c U Z p h l b hd ho;simp only[XR]at l;obtain⟨_,q,d,s⟩:=l;have c0:=d.c0;have c6:=d.c6;have F:=aj h;have C:=aj (y A base w fb vb D ak c U Z q h s b.1 hd.1 ho.1);have e:bn (.rep x lo a)=kD (bn x) lo a:=rfl;rw[e];have G:=aj b.2;have k:=hd.2;have B:=ho.2;have H:=aj d;have v:∃i fz,w.heap[p]?=some (.cells i 221 fz):=⟨_,_,d⟩;clear d s h b hd ho e;delta zF;go_in
 go_wp2_with fail
 refine(C.o).mono ?_;rintro e f g;obtain⟨jS,R,r,rfl,t,m,hq⟩:=g;have u:pO (λ_=>True) w f:=F.o.ake hq;have j:XW f p q lo (Yt a):=by
  obtain⟨i,fz,z⟩:=v;have:=u p trivial ⟨i,fz,.inl z⟩;exact this.trans H
 have c7:=j.c7;have c8:=j.c8;have E:Z_ (zF 137 #[zP fb,zI r,zI lo,zI (Yt a)] f.drew (RQ base w fb vb D ak c U Z (kD (bn x) lo a))) :=
  (Ob base f.drew fb jS (D++R) ak c U Z (bn x) r lo a (t.aY ((aB.refl _ _).drew)) m G.o k.1 (λn b=>⟨B n b,k.2 n b⟩)).mono λe w' h=>RQ.later (FQ.keepR hq ((aB.refl _ _).drew)) h
 clear u j t m hq C v;generalize Yt a=hz at *;go_wp2_with fail
 go_region_with (go_at_call 137;refine(E.o).mono ?_;rintro e I g;have R4:=aj g;obtain⟨_,_,J,rfl,_⟩:=g)
 all_goals
  go_wp2;go_ret;exact R4
mutual
theorem Le:∀(x:RX),NmC x
 | .one s=>ahG s
 | .seq l=>ahI l (ID l)
 | .alt l=>ahH l (ID l)
 | .rep x lo a=>ahJ x lo a (Le x)
theorem ID:∀(l:List RX),∀y∈l,NmC y
 | [],y,a=>by simp at a
 | x::r,y,a=>by
   rcases a0l.1 a with h|h
   .rw[h];exact Le x
   exact ID r y h
end
def LfC(d:NF):Prop:=∀(base:Nat) (w:World) (fb vb:Nat) (D:List NF) (ak c:Nat) (U:List NF) (Z:LN) (i:Nat),ST base w fb vb D ak c U Z->D[i]?=some d->Fg c U d->c<256->1<=ak ->
 zF 139 #[zP fb,zI i,.int .u8 c] w (RQ base w fb vb D ak c U Z (left c d))
def YC(a b:NF)(O:LfC a)(N:LfC b)(base:Nat)(w:World)(fb vb:Nat)(D:List NF)(ak c:Nat)(U:List NF)(Z:LN)(fi se:Nat)(kd t s1 s2 s lk C lf:Int)(te:Bool)(av:Option Addr)(nv z:Nat)
 (h:ST base w fb vb D ak c U Z) (h1:D[fi]?=some a) (h2:D[se]?=some b) (hn:Fg c U (.pair a b)) (hc:c<256) (ha:1<=ak) :
 zF 160 #[zP fb,.agg #[zI kd,.int .u64 t,.int .u64 s1,.int .u64 s2,.int .u64 s,zI fi,zI se,.slice av nv z,.bool te,zI lk,zI C,zI lf],.int .u8 c] w (RQ base w fb vb D ak c U Z (left c (.pair a b))):=by
 have H1:=aj h1;have H2:=aj h2;have W:=aj hn;have:=h.pP.2.2.2.2.2;have F0:aB [] w (w.alloc (Obj.cells #[zI kd,.int .u64 t,.int .u64 s1,.int .u64 s2,.int .u64 s,zI fi,zI se,.slice av nv z,.bool te,zI lk,zI C,zI lf] 229)):=(aB.refl _ _).alloc _;have J:=bD w (Obj.cells #[zI kd,.int .u64 t,.int .u64 s1,.int .u64 s2,.int .u64 s,zI fi,zI se,.slice av nv z,.bool te,zI lk,zI C,zI lf] 229);have z0:(w.alloc (Obj.cells #[zI kd,.int .u64 t,.int .u64 s1,.int .u64 s2,.int .u64 s,zI fi,zI se,.slice av nv z,.bool te,zI lk,zI C,zI lf] 229)).heap.size=w.heap.size+1:=by simp
 delta zF;go_in
 go_wp2_with fail
 generalize w.alloc (Obj.cells #[zI kd,.int .u64 t,.int .u64 s1,.int .u64 s2,.int .u64 s,zI fi,zI se,.slice av nv z,.bool te,zI lk,zI C,zI lf] 229)=w0 at F0 J z0 |-;have A1:=aj (O base w0 fb vb D ak c U Z fi ((aj h).o.aY F0) H1.o W.o.1 hc ha);refine(A1.o).mono ?_;rintro e w1 j;obtain⟨Dp,g,r1,rfl,m,lz,F⟩:=j;have B:=FQ.aba (aj F0).o F;have G:w1.heap[w.heap.size]?=w0.heap[w.heap.size]?:=F.block (by omega) (by omega) (by omega);rw[(aj J).o]at G;have p5:zC w1 w.heap.size 5 (zI fi):=by simp[World.cell?,G]
 have p6:zC w1 w.heap.size 6 (zI se):=by simp[World.cell?,G]
 have T:=aj (M5 (left _ a) base w1 fb Dp (D++g) ak c U Z b r1 se m lz (rU H2) W.o.2.1);have:=aj m;have:=F.fr.size;have:=F.mv;go_wp2_with fail
 refine(T.o).mono ?_;rintro e w2 j;obtain⟨Aw,k,d,rfl,Y,u,H⟩:=j;have I:w2.heap[w.heap.size]?=w1.heap[w.heap.size]?:=H.block (by omega) (by omega) (by omega);rw[(aj G).o]at I;have:zC w2 w.heap.size 5 (zI fi):=by simp[World.cell?,I]
 have:zC w2 w.heap.size 6 (zI se):=by simp[World.cell?,I]
 have y:(D++g++k)[fi]?=some a:=rU (rU H1);obtain⟨f,L,cap,K⟩:=Y.look y;have t0:=K.tab;have M:=K.get.2.2.2.2.2.2.2.2.1;have aL:=K.lt;rw[K.te]at M;have S2:=aj Y;have Q2:=aj (FQ.trans (aj B).o H);have tV:=aj u;have zq2:=H.fr.size;have ng:(fi:Int)<(D++g++k).length:=by omega
 clear K Y u H I T p5 p6 y;obtain⟨nD,x⟩:∃n,n=(D++g++k).length:=⟨_,rfl⟩;rw[<-x]at t0 aL ng;clear x;cases p:dK a with
 | false =>
   rw[p]at M;have X:Z_ (left c (.pair a b)=aG (left c a) b):=by show _=_;simp only[left,p];simp
   have E:Z_ (∀nq,RQ base w fb vb D ak c U Z (aG (left c a) b) (zR (zI d)) (w2.drewN nq)):=λnq=>⟨Aw,g++k,d,rfl,by rw[<-a0M];exact S2.o.aY ((aB.refl _ _).drewN _),by rw[<-a0M];exact tV,FQ.keepR Q2.o ((aB.refl _ _).drewN _)⟩
   go_wp2_with fail
   go_quiet (fail)
   go_wp2;go_ret;rw[X.o];exact E.o _
 | true =>
   rw[p]at M;have X:Z_ (left c (.pair a b)=bQ [aG (left c a) b,left c b]):=by show _=_;simp only[left,p];simp;rfl
   have V:=W.o.2.2 p;have B1:=aj (λnq=>N base (w2.drewN nq) fb Aw (D++g++k) ak c U Z se (S2.o.aY ((aB.refl _ _).drewN _)) (rU (rU H2)) V.1 hc ha);have OK:=aj V.2;clear V p;go_wp2_with fail
   go_quiet (fail)
   go_wp2_with fail
   refine(B1.o _).mono ?_;rintro e i j;obtain⟨r,E,l,rfl,A,Ak,v⟩:=j;have OC:Z_ (∀o,o=Obj.cells #[zI d,zI l] 3->zF 146 #[zP fb,zS i.heap.size 2 2] (i.alloc o) (RQ base w fb vb D ak c U Z (bQ [aG (left c a) b,left c b]))):=by
    rintro o rfl;have F3:=(aB.refl [] i).alloc (Obj.cells #[zI d,zI l] 3);have S:=A.aY F3;have jc:IL i.heap.size (i.alloc (Obj.cells #[zI d,zI l] 3)) (zS i.heap.size 2 2) [d,l]:=World.ownsRow_lit _ #[zI d,zI l] 2 (a0b _) (by unfold maxLen;omega) (by simp);have u:(D++g++k++E)[d]?=some (aG (left c a) b):=rU tV;have Q4:FQ fb vb r w (i.alloc (Obj.cells #[zI d,zI l] 3)):=FQ.keepR (FQ.trans (FQ.keepR Q2.o ((aB.refl _ _).drewN _)) v) F3;refine(afx base _ fb r (D++g++k++E) ak c U Z (zS i.heap.size 2 2) [d,l] [aG (left c a) b,left c b] S (xV jc) ?_ ?_ OK).mono λe w' h=>RQ.later (R:=g++k++E) Q4 (by simpa[a0M] using h)
    .intro q hq
     simp only[a0l,a1U,a2V]at hq;rcases hq with rfl|rfl
     .exact(a0d.1 u).1
     exact(a0d.1 Ak).1
    simp only[a0E,a1V,Cz u,Cz Ak]
   clear A Ak v B1;go_wp2_with fail
   refine(OC.o _ rfl).mono ?_;rintro e w4 j;have R4:=aj j;obtain⟨_,_,r4,rfl,_⟩:=j;go_wp2;go_ret;rw[X.o];exact R4
theorem adJ(a:∀x∈ys,wf x)(h:xs.Perm ys):bQ xs=bQ ys :=
 vT (λx b=>a x (h.mem_iff.1 b)) a λp=>(h.flatMap_right parts).mem_iff
def Ff.perm(c:∀x∈ys,wf x)(h:xs.Perm ys)(k:Ff U ys):Ff U xs:=by
 have b:=h.flatMap_right parts;have d:bf (xs.flatMap parts)=bf (ys.flatMap parts):=GY λi=>by rw[a0T,a1s,a1s];exact⟨λ⟨x,a,e⟩=>⟨x,b.mem_iff.1 a,e⟩,λ⟨x,a,e⟩=>⟨x,b.mem_iff.2 a,e⟩⟩
 have j:gU (bN (xs.flatMap parts))=gU (bN (ys.flatMap parts)) :=
  GZ (xC λx a=>c x (h.mem_iff.1 a)) (xC c) (λp _=>b.mem_iff) d
 refine⟨λg=>?_,λf=>?_,?_,?_⟩
 .rw[d]at g |-;exact k.1 g
 .rw[adJ c h];rw[j]at f;exact k.2.1 f
 .rw[b.length_eq];exact k.2.2.1
 rw[h.length_eq];exact k.2.2.2
theorem GQ.first {base:Nat} {w a wr:World}{c:Nat}(f:aB [] w a)(h:RQ base a fb vb D ak c U Z (bQ X) e wr):RQ base w fb vb D ak c U Z (bQ X) e wr:=RQ.first f h
def ST.wu {base:Nat} {w:World}{c:Nat}(h:ST base w fb vb D ak c U Z):qV w [fb,vb]:=h.pP.2.2.2.2.2.2.2.2.2
theorem abg(l:List NF)(ih:∀y∈l,LfC y)(base:Nat)(w:World)(fb vb:Nat)(D:List NF)(ak c:Nat)(U:List NF)(Z:LN)(L:LN)(kd f s1 s2 d lk m lf fi se:Int)(te:Bool)(av:Option Addr)(b:Nat)
 (h:ST base w fb vb D ak c U Z) (Y:PL w (.slice av L.length b) L) (hl:∀j∈L,j<D.length) (i:(L.map λj=>D.getD j .zero).Perm l) (J:Fg c U (.sum l)) (hc:c<256) (ha:1<=ak) (X:∀x∈l,wf x) :
 Calls Tryz.prog 161 #[.pointer (some ⟨fb,0,none⟩),.agg #[.int .i64 kd,.int .u64 f,.int .u64 s1,.int .u64 s2,.int .u64 d,.int .i64 fi,.int .i64 se,.slice av L.length b,.bool te,.int .i64 lk,.int .i64 m,.int .i64 lf],.int .u8 c] w (RQ base w fb vb D ak c U Z (left c (.sum l))):=by
 have hLl:L.length<=9000000000000:=by have h1:=J.2.2.2.2;rw[fP,a0y]at h1;have h2:=i.length_eq;rw[a0y]at h2;omega
 have pm:(L.map λq=>left c (D.getD q .zero)).Perm (xy c l):=by rw[fP];have:=i.map (left c);rw[a2m]at this;exact this
 have wl:∀x∈xy c l,wf x:=by intro x W;rw[fP]at W;obtain⟨y,hy,rfl⟩:=a0q.1 W;exact gI c y (X y hy)
 have S:left c (.sum l)=bQ (L.map λq=>left c (D.getD q .zero)):=by rw[adJ wl pm];rfl
 have P:Ff U (L.map λq=>left c (D.getD q .zero)):=Ff.perm wl pm J.2;have u:aB [] w (w.alloc (Obj.cells #[.int .i64 kd,.int .u64 f,.int .u64 s1,.int .u64 s2,.int .u64 d,.int .i64 fi,.int .i64 se,.slice av L.length b,.bool te,.int .i64 lk,.int .i64 m,.int .i64 lf] 229)):=zJ;have T:∀o,((w.alloc (Obj.cells #[.int .i64 kd,.int .u64 f,.int .u64 s1,.int .u64 s2,.int .u64 d,.int .i64 fi,.int .i64 se,.slice av L.length b,.bool te,.int .i64 lk,.int .i64 m,.int .i64 lf] 229)).alloc o).cell? ⟨w.heap.size,7,none⟩=some (.slice av L.length b):=by
  intro o;rw[((aB.refl [] _).alloc o).cell (p:=⟨w.heap.size,7,none⟩) (by simp) (by simp)];have:=bD w (Obj.cells #[.int .i64 kd,.int .u64 f,.int .u64 s1,.int .u64 s2,.int .u64 d,.int .i64 fi,.int .i64 se,.slice av L.length b,.bool te,.int .i64 lk,.int .i64 m,.int .i64 lf] 229);simp only[World.cell?,this]
  rfl
 have O:(w.alloc (Obj.cells #[.int .i64 kd,.int .u64 f,.int .u64 s1,.int .u64 s2,.int .u64 d,.int .i64 fi,.int .i64 se,.slice av L.length b,.bool te,.int .i64 lk,.int .i64 m,.int .i64 lf] 229)).heap.size=w.heap.size+1:=by simp
 clear pm wl X;rw[S];go_in
 go_wp2_with fail
 generalize w.alloc (Obj.cells #[.int .i64 kd,.int .u64 f,.int .u64 s1,.int .u64 s2,.int .u64 d,.int .i64 fi,.int .i64 se,.slice av L.length b,.bool te,.int .i64 lk,.int .i64 m,.int .i64 lf] 229)=B at u T O |-;have hz:=O;clear O;have z0:=u.size;have gT:=hz;rw[<-gT];clear gT hz;clear T;go_loopg [7,15] L.length (λk v7 E wr=>∃(j:Nat) (I:LN) (jS:Nat) (R:List NF),j+k=L.length/\E=.int .i64 j/\I.length<=j/\GQ base B wr fb vb D ak c U Z v7 I ((L.take j).map λq=>left c (D.getD q .zero)) jS R/\PL wr (.slice av L.length b) L)
 exact⟨0,[],vb,[],by omega,rfl,by simp,GQ.start (h.aY u),(Y.aC u (qV.nil _)).aC zJ (qV.nil _)⟩
 .obtain⟨j,I,Dp,R,hj,rfl,hIl,G,A⟩:=hrel;obtain⟨N,c5,rfl⟩:=aW G.il;have zr:=G.fq.fr.size
  by_cases z:j<L.length
  .obtain⟨a3,c3,e3,h3⟩:=A.1
   simp only[Value.slice.injEq,a1W]at e3;obtain⟨rfl,rfl⟩:=e3;obtain⟨g,off,rfl,iM,JK⟩:=h3 j z;have ap1:g<w.heap.size:=Y.blk rfl;have s:=hl L[j] (a0u z);have t:(D++R)[L[j]]?=some (D.getD L[j] .zero):=rU (getD_some s);have H:D.getD L[j] .zero∈l:=i.mem_iff.1 (a0q.2 ⟨L[j],a0u z,rfl⟩);have C:=ih _ H base wr fb Dp (D++R) ak c U ((Value.ownBlock (.slice N I.length c5)).toList++Z) L[j] G.st t (PD.1 J.1 _ H) hc ha;have HT:((L.take (j+1)).map λq=>left c (D.getD q .zero))=((L.take j).map λq=>left c (D.getD q .zero))++[left c (D.getD L[j] .zero)]:=by have:=Ld L (λq=>left c (D.getD q .zero)) j z [];exact this
   clear h3 s t H;generalize left c (D.getD L[j] .zero)=y at *;generalize L[j]=q at *;go_wp2_with fail
   refine C.mono ?_;rintro e w2 ⟨Aw,R2,F,rfl,CE,V,v⟩;have r:=G.turn CE v;have P4:=A.aC v.fr G.st.wu;have z2:=v.fr.size;have tV:(D++(R++R2))[F]?=some y:=by rw[<-a0M];exact V
   clear CE V v C JK G A;go_wp2_with (first | (at_builtin;refine vG rfl rfl B.heap.size (.slice N I.length c5) I F w2.heap.size rfl (r.il.alloc _) rfl (j6 rfl) (by omega) (by simp;omega) ?_;intro gg aU w5 aS M bq iE;have G5:=r.add tV aS M bq iE;have P5:=((P4.aC ((aB.refl [] w2).alloc _) (qV.nil _)).apY (aB.fo M) (λa n cc e i=>by simp at e;obtain⟨rfl,_⟩:=e;rw[a0H]at i;have:=(r.il.lt _ i).1;simp at this;omega));clear aS M bq))
   go_roundg (gk-1);exact⟨j+1,I++[F],Aw,R++R2,by omega,by go_num,by simp only[a0p,a0r,a1e];omega,by rw[HT];simpa using G5,P5⟩;omega
  have r:GQ base B wr fb vb D ak c U Z (.slice N I.length c5) I (L.map λq=>left c (D.getD q .zero)) Dp R:=by have:=G;rw[a0C (by omega)]at this;exact this
  have C:=r.or P;clear G r A;go_wp2_with fail
  refine C.mono ?_;rintro e w3 fV;have R3:=RQ.first u fV;obtain⟨_,_,r3,rfl,_⟩:=fV;go_wp2;go_ret;exact R3
def acw(d:NF)(ih:∀y:NF,y.size<d.size->LfC y)(base:Nat)(w:World)(fb vb:Nat)(D:List NF)(ak c:Nat)(U:List NF)(Z:LN)(i:Nat)(h:ST base w fb vb D ak c U Z)(hi:D[i]?=some d)(hn:Fg c U d)(hc:c<256)(ha:1<=ak) :
 zF 149 #[zP fb,zI i,.int .u8 c] w (RQ base w fb vb D ak c U Z (left c d)):=by
 obtain⟨f,L,_,K⟩:=h.look hi;have:=K.lt;have:=K.tab;obtain⟨c0,c1,c2,c3,c4,_,_,c7,_,_,_,_⟩:=K.get;obtain⟨av,abd,hvp,_⟩:=K.pl.1;rw[hvp]at c7;rw[K.kd]at c0;have KPL:=aj K.pl;rw[hvp]at KPL;have HS:=aj h;have HI:=aj hi;have HN:=aj hn;have YB:=aj h.pP.1;have HW:=aj h.pP.2.2.2.1;have:(i:Int)<D.length:=by omega
 have F0:Z_ (∀o,aB [] w (w.alloc o)):=λo=>(aB.refl _ _).alloc o
 cases d with
 | zero =>
   simp only[qW]at c0;delta zF;go_in
   go_wp2;go_ret;exact RQ.here (r:=0) HS.o (F0.o _) YB
 | one =>
   simp only[qW]at c0;delta zF;go_in
   go_wp2;go_ret;exact RQ.here (r:=0) HS.o (F0.o _) YB
 | set s =>
   have hfs:=(aj K.set).o s rfl;rw[hfs]at c1 c2 c3 c4;simp only[qW]at c0;have XH:=aj (am8 s c);simp only[bv]at XH;cases hb:s.testBit c with
   | true =>
     rw[hb]at XH;have HL:Z_ (left c (.set s)=.one):=by show _=_;simp[left,hb]
     delta zF;go_in
     go_wp2_with fail
     refine(XH.o _ hc).mono ?_;rintro e w2 ⟨rfl,aR⟩;have F2:=aj ((F0.o _).trans aR);go_wp2;go_ret;rw[HL.o];exact RQ.here (r:=1) HS.o F2.o (aj h.pP.2.1)
   | false =>
     rw[hb]at XH;have HL:Z_ (left c (.set s)=.zero):=by show _=_;simp[left,hb]
     delta zF;go_in
     go_wp2_with fail
     refine(XH.o _ hc).mono ?_;rintro e _ ⟨rfl,aR⟩;go_wp2;go_ret;rw[HL.o];exact RQ.here (r:=0) HS.o (aj ((F0.o _).trans aR)).o YB
 | pair a b =>
   simp only[qW]at c0;have hp:=(aj K.pair).o a b rfl;have C:=aj (λ(w':World) (F:aB [] w w')=>YC a b (ih a (by simp[NF.size];omega)) (ih b (by simp[NF.size];omega)) base w' fb vb D ak c U Z f.fi f.se 3 (wd f.s 0) (wd f.s 1) (wd f.s 2) (wd f.s 3) f.lk f.ak f.lf f.te av L.length abd (HS.o.aY F) hp.1 hp.2 HN.o hc ha);delta zF;go_in
   go_wp2_with fail
   refine(C.o _ (F0.o _)).mono ?_;rintro e w3 fV;have R3:=aj (RQ.first (F0.o _) fV);obtain⟨_,_,r3,rfl,_⟩:=fV;go_wp2;go_ret;exact R3
 | sum l =>
   simp only[qW]at c0;have hu:=(aj K.sum).o l rfl;have Ig:(L.map λj=>D.getD j .zero).Perm l:=by
    refine(List.perm_ext_iff_of_nodup (Pz (aj h.pP.2.2.1).o hu.2.2 hu.1) ?_).2 λp=>?_
    ·rw[hu.2.1];exact Cb (xA _)
    rw[hu.2.1];exact(iA (Fe HW.o hu.1)).symm
   have C:=aj (λ(w':World) (F:aB [] w w')=>abg l (λy hy=>ih y (by have:=dx hy;simp[NF.size];omega)) base w' fb vb D ak c U Z L 4 (wd f.s 0) (wd f.s 1) (wd f.s 2) (wd f.s 3) f.lk f.ak f.lf f.fi f.se f.te av abd (HS.o.aY F) (KPL.o.aC F (qV.nil _)) hu.1 Ig HN.o hc ha (kJ.1 (HW.o _ (a0B HI)).1.1));delta zF;go_in
   go_wp2_with fail
   refine(C.o _ (F0.o _)).mono ?_;rintro e w3 fV;have R3:=aj (RQ.first (F0.o _) fV);obtain⟨_,_,r3,rfl,_⟩:=fV;go_wp2;go_ret;exact R3
 | star a =>
   simp only[qW]at c0;have hs:=(aj K.star).o a rfl;delta zF;go_in
   go_wp2_with fail
   refine((aj (λ(w':World) (F:aB [] w w')=>ih a (by simp[NF.size]) base w' fb vb D ak c U Z f.fi (HS.o.aY F) hs HN.o.1 hc ha)).o _ (F0.o _)).mono ?_;rintro e w3 fV;obtain⟨r3,rfl,hz⟩:=(RQ.first (F0.o _) fV).rz;have T:Z_ (zF 148 #[zP fb,zI r3,zI i] w3 (RQ base w fb vb D ak c U Z (left c (.star a)))):=hz.call λjS D' dY hr hD=>M5 (left c a) base w3 fb jS D' ak c U Z (.star a) r3 i dY hr (hD _ _ HI) HN.o.2
   go_wp2_with fail
   refine(T.o).mono ?_;rintro e _ fV;have R4:=aj fV;obtain⟨_,_,_,rfl,_⟩:=fV;go_wp2;go_ret;exact R4
end
section
variable {α:Type} {ab ak cap fb g i k vb:Nat} {x:RX} {w w' w2 w5:World} {B F L Z nx ps v:LN} {f:FV} {D U:List NF} {X d:NF} {v5 v7 v8 va vn:Value} {n:Int} {St:List LN} {t:LB} {en:Ending}
theorem abh{L:List FV}:fv (f::L)=f.cells.toList++fv L:=by simp[fv]
theorem Qw(f:FV):f.cells.toList.length=12:=by simp[FV.cells]
theorem afy:∀(L:List FV) (i k:Nat) (f a:FV) (u:Value),L[i]?=some f->k<12->f.cells.toList.set k u=a.cells.toList->(fv L).set (i*12+k) u=fv (L.set i a)
 | [],i,k,f,a,u,h,_,_=>by simp at h
 | g::L,0,k,f,a,u,h,c,b=>by grind [abh,Qw]
 | g::L,i+1,k,f,a,u,h,c,b=>by
   rw[abh,a1S,abh,<-afy L i k f a u (by simpa using h) c b];rw[a1v _ _ (by rw[Qw];omega),Qw]
   congr 2
   omega
theorem OG{β:Type}(g:α->β):∀(E:List α) (i:Nat) (e a:α),E[i]?=some e->g a=g e->(E.set i a).map g=E.map g
 | [],i,e,a,h,_=>by simp at h
 | x::E,0,e,a,h,b=>by simp at h;subst h;simp[b]
 | x::E,i+1,e,a,h,b=>by simp_all[OG]
theorem abj {E:List α}{j:Nat} {e x:α}(h:(E.set i e)[j]?=some x):(i=j/\x=e)\/E[j]?=some x:=by grind
theorem mem_set {E:List α} {e x:α}(h:x∈E.set i e):x=e\/x∈E:=by grind
def TE.memo {base:Nat} {E:List (FV × LN)}{r a:Nat}(h:TE base w fb vb E B ak)(c:E[i]?=some (f,L)) :
 TE base ((w.setCell (zB vb (i*12+10)) (zI a)).setCell (zB vb (i*12+11)) (zI r)) fb vb (E.set i ({ f with ak:=a,lf:=r },L)) B ak:=by
 obtain⟨cap,ht,j⟩:=h.row;have q:=h.vbs;have n:=h.fb;have F:aB [vb] w ((w.setCell (zB vb (i*12+10)) (zI a)).setCell (zB vb (i*12+11)) (zI r)):=(zK.setCell (.inl (by simp)) _).setCell (.inl (by simp)) _;have hlen:(E.set i ({ f with ak:=a,lf:=r },L)).length=E.length:=by simp
 refine⟨⟨cap,?_,?_⟩,?_,?_,h.fb,a0h h.sz F.size⟩
 .rw[hlen];exact ht.aC F (by simp;omega)
 .rw[hlen]
  have g:(E.map Prod.fst).length=E.length:=by simp
  unfold FL at j |-;rw[g]at j;have o:=(World.ownsRow.stored j (i*12+10) (zI a)).1;have d:=(World.ownsRow.stored o (i*12+11) (zI r)).1;have l:(E.map Prod.fst)[i]?=some f:=by simp[c]
  rw[afy (E.map Prod.fst) i 10 f { f with ak:=a } (zI a) l (by decide) rfl]at d;have m:=(a0d.1 c).1;rw[afy ((E.map Prod.fst).set i { f with ak:=a }) i 11 { f with ak:=a } { f with ak:=a,lf:=r } (zI r) (by simp[m]) (by decide) rfl]at d;rw[List.set_set]at d;have p:(E.set i ({ f with ak:=a,lf:=r },L)).map Prod.fst=(E.map Prod.fst).set i { f with ak:=a,lf:=r }:=by rw[a2d]
  rw[p];simpa using d
 .intro e he
  rcases mem_set he with rfl|he
  .exact(h.pl (f,L) (a0B c)).aC F (λk b=>h.wu k (by simp at b;simp[b]))
  exact(h.pl e he).aC F (λk b=>h.wu k (by simp at b;simp[b]))
 intro e he;rcases mem_set he with rfl|he
 .exact h.st (f,L) (a0B c)
 exact h.st e he
theorem TP.memo {E:List (FV × LN)}{c r:Nat}(h:TP E B D ak c)(l:E[i]?=some (f,L))(hd:D[i]?=some d)(p:D[r]?=some (left c d)) :
 TP (E.set i ({ f with ak:=ak,lf:=r },L)) B D ak c:=by
 have k:(E.set i ({ f with ak:=ak,lf:=r },L)).map kz=E.map kz:=OG kz E i (f,L) _ l rfl;refine⟨?_,?_,?_,?_,?_,?_⟩
 .rw[k];exact h.tb
 .intro b hb;rw[k];simpa using h.bu b hb
 .intro j e m he
  rw[k];rcases abj he with⟨rfl,rfl⟩|he
  .exact h.lk i (f,L) m l
  exact h.lk j e m he
 .intro j e a he g
  rcases abj he with⟨rfl,rfl⟩|he
  .exact h.te i (f,L) a l g
  exact h.te j e a he g
 .intro e he
  rcases mem_set he with rfl|he
  .simp
  exact h.al e he
 intro o j e a he g n;rcases abj he with⟨rfl,rfl⟩|he
 .grind
 exact h.mm o j e a he g n
def ST.memo {base:Nat}{c:Nat}{r:Nat}(h:ST base w fb vb D ak c U Z)(g:D[i]?=some d)(l:D[r]?=some (left c d)) :
 ST base ((w.setCell (zB vb (i*12+10)) (zI ak)).setCell (zB vb (i*12+11)) (zI r)) fb vb D ak c U Z:=by
 obtain⟨E,B,hE,j,o,q,hz⟩:=h;have s:=(a0d.1 g).1;have p:=j.len;obtain⟨⟨f,L⟩,he⟩:∃e,E[i]?=some e:=⟨E[i]'(by omega),a0a (by omega)⟩;refine⟨_,B,hE.memo (a:=ak) (r:=r) he,j.memo he g l,o,q,?_,?_⟩
 .intro k m;have:=hz.1 k m;simpa using this
 intro e b x n cc ex;rcases mem_set b with rfl|b
 .exact hz.2 (f,L) (a0B he) x n cc ex
 exact hz.2 e b x n cc ex
def ST.ask {base:Nat}{c:Nat}(c2:Nat)(h:ST base w fb vb D ak c U Z):ST base (w.setCell (zB fb 1025) (zI ((ak+1:Nat):Int))) fb vb D (ak+1) c2 U Z:=by
 obtain⟨E,B,hE,a,f,g,hz⟩:=h;refine⟨E,B,hE.agr (ak+1),⟨a.tb,a.bu,a.lk,a.te,λe he=>Nat.le_succ_of_le (a.al e he),?_⟩,f,g,?_,hz.2⟩
 .intro _ i e d he _ j
  have:=a.al e (a0B he);omega
 intro k b;have:=hz.1 k b;simpa using this
theorem ST.cells {base:Nat}{c:Nat}(h:ST base w fb vb D ak c U Z):zC w fb 1025 (zI ak)/\(∀o,w.frozen? (zB fb o)=false)/\(∀o,w.frozen? (zB vb o)=false):=by obtain⟨E,B,hE,_⟩:=h;obtain⟨cap,ht,b⟩:=hE.row;refine⟨ht.awy,ht.fz,λo=>?_⟩;obtain⟨_,_,cur,a⟩:=hE.vbs;simp[World.frozen?,a]
def anm(d:NF):LfC d:=by
 refine NF.ind (P:=LfC) ?_ d;intro d y base w fb vb D ak c U Z i k q s z t;obtain⟨f,L,_,K⟩:=k.look q;have:=K.lt;have t0:=K.tab;have o:=K.get.2.2.2.2.2.2.2.2.2.2.1;have m:=K.get.2.2.2.2.2.2.2.2.2.2.2;have p:=k.cells.1;have:(i:Int)<D.length:=by omega
 by_cases he:f.ak=ak
 .have hb:=awF he
  have G:∀nq,RQ base w fb vb D ak c U Z (left c d) (zR (zI f.lf)) (w.drewN nq):=λnq=>RQ.here k (zK.drewN _) (K.mem t he)
  delta zF;go_in
  go_wp2_with fail
  go_quiet (fail)
  go_wp2;go_ret;exact G _
 have:=atr he;delta zF;go_in
 go_wp2_with fail
 go_quiet (fail)
 go_wp2_with fail
 refine((λnq=>acw d y base (w.drewN nq) fb vb D ak c U Z i (k.aY (zK.drewN nq)) q s z t) _).mono ?_;rintro e w2 A;obtain⟨j,R,r,rfl,g,HR,hq⟩:=A;have u:=rU (R:=R) q;obtain⟨J,T,O,h⟩:=g.look u;have u0:=h.tab;have:=h.get.2.2.2.2.2.2.2.2.2.2.1;have:=h.get.2.2.2.2.2.2.2.2.2.2.2;have ul:=h.lt;obtain⟨E,l,a⟩:=g.cells;have:=g.pP.2.2.2.2.2;obtain⟨x,b⟩:∃n,n=(D++R).length:=⟨_,rfl⟩;rw[<-b]at u0 ul;have:(i:Int)<x:=by omega
 have:=a (i*12+10);have:=a (i*12+11);go_wp2_with fail
 go_region
 have F4:FQ fb vb j w (((w2.setCell (zB j (i*12+10)) (zI ak)).setCell (zB j (i*12+11)) (zI r)).drew):=FQ.trans (FQ.aba ((aB.refl [] w).drewN nq) hq) ⟨((zK.setCell (.inl (by simp)) _).setCell (.inl (by simp)) _).drew,.inl rfl⟩;have H:=(g.memo u HR).aY (zK.drew);go_wp2;go_ret;exact⟨j,R,r,rfl,H,HR,F4⟩
def YE(base:Nat)(w:World)(fb vb:Nat)(D:List NF)(ak c c2:Nat)(U:List NF)(Z:LN)(i:Nat)(d:NF)(h:ST base w fb vb D ak c2 U Z)(f:D[i]?=some d)(b:Fg c U d)(k:c<256)(l:ak<=1000000) :
 zF 128 #[zP fb,zI i,.int .u8 c] w λe w'=>∃a R r,e=zR (zI (r:Nat))/\ST base w' fb a (D++R) (ak+1) c U Z/\(D++R)[r]?=some (left c d)/\FQ fb vb a w w':=by
 have m:=h.cells.1;have o:=h.cells.2.1 1025;have g:=h.ask c;have C:=anm d base _ fb vb D (ak+1) c U Z i g f b k (by omega);have F:=(show FQ fb vb vb w (w.setCell (zB fb 1025) (zI ((ak+1:Nat):Int))) from ⟨zK.setCell (.inl (by simp)) _,.inl rfl⟩);have j:((ak+1:Nat):Int)=(ak:Int)+1:=by omega
 rw[j]at C F;clear h g f b j;delta zF;go_in
 go_wp2_with fail
 refine C.mono ?_;rintro e w2 ⟨a,R,r,rfl,n,HR,hq⟩;have Q:=F.trans hq;clear hq C;go_wp2;go_ret;exact⟨a,R,r,rfl,n,HR,Q⟩
theorem aB.above {S T:LN} {a b c:World}(h:aB T a b)(k:aB S b c)(j:∀x∈S,a.heap.size<=x\/x∈T):aB T a c :=
 ⟨k.os.trans h.os,k.tape.trans h.tape,k.output.trans h.output,a0h h.size k.size,λi d f=>(k.block i (a0t d h.size) (λg=>(j i g).elim (λe=>by omega) f)).trans (h.block i d f)⟩
def ST.aty {base:Nat}{c:Nat}{Z2:LN}(h:ST base w fb vb D ak c U Z)(a:∀k∈Z2,k∈Z):ST base w fb vb D ak c U Z2:=by obtain⟨E,B,l,j,i,g,b⟩:=h;exact⟨E,B,l,j,i,g,λk f=>b.1 k (a k f),λe he x n cc ex d=>b.2 e he x n cc ex (a _ d)⟩
theorem ann{n b:Nat}:(List.replicate n 0).getD b 0=0:=by grind
theorem ST.start{c:Nat}(ht:FT w fb va (List.replicate 1024 0) 0)(a:FL (fb+1) w va [fv0,fv1])(hz:fb+1<=w.heap.size)(l:NF.zero∈U/\NF.one∈U)(k:U.length<=1000000000000):∃vb,ST (fb+1) w fb vb [.zero,.one] 0 c U []:=by
 have f:∃vb cap,va=zS vb 2 cap:=by
  rcases a.2 with⟨_,e⟩|⟨g,cap,cur,e,_⟩
  .simp at e
  grind
 obtain⟨vb,cap,rfl⟩:=f;refine⟨vb,[(fv0,[]),(fv1,[])],List.replicate 1024 0,⟨⟨cap,ht,a⟩,?_,?_,a3j _,hz⟩,⟨⟨rfl,rfl,rfl,rfl,rfl,?_,by simp,?_⟩,?_,?_,?_,?_,?_⟩,?_,k,by simp,by intro e he x n cc ex;simp at he;rcases he with rfl|rfl<;>simp[fv0,fv1]at ex⟩
 .intro e he
  simp at he;rcases he with rfl|rfl<;>exact PL.nil _
 .intro e he
  simp at he;rcases he with rfl|rfl<;>exact a2S 256
 .grind
 .grind [hd,WC.zero,WC,WC.one]
 .intro b hb
  rw[ann];rcases zD mV (List.map kz [(fv0,[]),(fv1,[])]) b 2 with h|⟨j,m,_⟩
  .exact h.symm
  omega
 .grind
 .intro i e d he hd
  match i with
  | 0=>simp at he hd;subst he hd;rfl
  | 1=>simp at he hd;subst he hd;rfl
  | i+2=>simp at he
 .simp[fv0,fv1]
 .intro j;omega
 grind
structure AQ(X:NF)(wB wr:World)(ab fb:Nat)(U:List NF)(n:Int)(CL:LN)(vs vn:Value)(I:LN)(St:List LN)(nx:LN)(vb:Nat)(D:List NF)(ak c:Nat):Prop where
 st:ST (fb+1) wr fb vb D ak c U (vs.ownBlock.toList++vn.ownBlock.toList)
 mp:∀(j:Nat) (u:LN),St[j]?=some u->∃r,I[j]?=some r/\D[r]?=some (dW X u)
 il:IL (fb+1) wr vs I
 nl:IL (fb+1) wr vn nx
 ne:∀k,vs.ownBlock=some k->vn.ownBlock≠some k
 au:AB wr ab n CL zN vn
 ln:I.length=St.length
 fr:aB [ab] wB wr
 fe:fb=wB.heap.size
 lo:ab<wB.heap.size
def AQ.find {wB wr:World} {CL:LN}{vs:Value} {I:LN}{c:Nat}(h:AQ X wB wr ab fb U n CL vs vn I St nx vb D ak c) {r:Nat}(m:D[r]?=some (dW X v)):I.findIdx (·==r)=Bi X St v:=by
 have f:=h.ln;have l:=h.st;have o:=h.mp;have i:=l.pP.2.2.2.1;have key:∀j (g:j<I.length) (d:j<St.length),(I[j]==r)=(name (dW X St[j])==name (dW X v)):=by
  intro j g d;obtain⟨q,k,p⟩:=o j St[j] (a0a d);rw[a0a g]at k;simp only[Option.some.injEq]at k;rw[k,a0T,a0W,a0W];rw[l.num p m]
  constructor
  .intro e;rw[e]
  exact UH (i _ (a0B p)).1 (i _ (a0B m)).1
 unfold Bi;clear o l i
 revert f key
 clear h
 induction I generalizing St with
 | nil =>
   intro f _;cases St with
   | nil=>rfl
   | cons a b=>simp at f
 | cons a I s =>
   intro f key;cases St with
   | nil=>simp at f
   | cons u St=>have k0:=key 0 (by simp) (by simp);simp only[List.getElem_cons_zero]at k0;rw[List.findIdx_cons,List.findIdx_cons,k0];have:=s (by simpa using f) (λj g d=>by have:=key (j+1) (by simpa using g) (by simpa using d);simpa using this);rw[this]
def AB.wu {cl:LN}(h:AB w ab n cl va vn):qV w [ab]:=by intro k a cur fz;simp at a;subst a;rw[h.1];simp
section
variable {X:NF} {wB wr:World} {ab fb:Nat} {U:List NF} {n:Int} {CL:LN} {vs vn:Value} {I:LN} {St:List LN} {nx:LN} {vb:Nat} {D:List NF} {ak c:Nat}
theorem AQ.aY(h:AQ X wB wr ab fb U n CL vs vn I St nx vb D ak c)(f:aB [] wr w2):AQ X wB w2 ab fb U n CL vs vn I St nx vb D ak c :=
 ⟨h.st.aY f,h.mp,fG h.il f (by simp),fG h.nl f (by simp),h.ne,h.au.aC f (by simp),h.ln,h.fr.above f (by simp),h.fe,h.lo⟩
def AQ.turn {b a c2:Nat} {R:List NF}(h:AQ X wB wr ab fb U n CL vs vn I St nx vb D ak c)(p:ST (fb+1) w2 fb b (D++R) a c2 U (vs.ownBlock.toList++vn.ownBlock.toList))(hq:FQ fb vb b wr w2):AQ X wB w2 ab fb U n CL vs vn I St nx b (D++R) a c2:=by
 have n1:=h.st.Vv h.il;have i:=h.st.Vv h.nl;have hb:=h.st.pP.2.2.2.2.2;have s:=h.fe;have q:=h.lo;have f:∀(v:Value),fb∉v.ownBlock.toList/\vb∉v.ownBlock.toList->∀k,v.ownBlock=some k->k ∉ [fb,vb]:=λv d k g=>by simp only[a0l,a1U,a2V,not_or];exact⟨λe=>d.1 (by rw[a0H,<-e];exact g),λe=>d.2 (by rw[a0H,<-e];exact g)⟩
 refine⟨p,?_,mO h.il hq.fr (f vs n1),mO h.nl hq.fr (f vn i),h.ne,h.au.aC hq.fr (by simp;omega),h.ln,h.fr.above hq.fr (by simp;omega),h.fe,h.lo⟩;intro j u l;obtain⟨r,o,m⟩:=h.mp j u l;exact⟨r,o,rU m⟩
def AQ.awI{r:Nat} {o:Obj}(h:AQ X wB wr ab fb U n CL vs vn I St nx vb D ak c)(y:D[r]?=some (dW X v))(s:IL (fb+1) w5 (zS g (I.length+1) cap) (I++[r]))(l:(wr.alloc o).grownBy w5 vs.ownBlock)(m:vs.ownBlock=some g\/g=(wr.alloc o).heap.size)(t:g<w5.heap.size) :
 AQ X wB w5 ab fb U n CL (zS g (I.length+1) cap) vn (I++[r]) (St++[v]) nx vb D ak c:=by
 have n1:=h.st.Vv h.il;have G:=h.fe;have E:=h.lo;have C:=h.ln;have hz:=h.fr.size;have K:=h.aY ((aB.refl [] wr).alloc o);have F:aB vs.ownBlock.toList (wr.alloc o) w5:=aB.fo l;have b:∀k,k∈vs.ownBlock.toList->fb+1<=k:=λk a=>by rw[a0H]at a;exact(h.il.lt k a).1
 refine⟨h.st.akd l m t n1.1 n1.2,?_,s,mO K.nl F (λk a i=>by rw[a0H]at i;exact h.ne k i a),?_,K.au.aC F (λi=>by have:=b _ i;omega),by simp;omega,K.fr.above F (λx w=>.inl (by have:=b _ w;omega)),h.fe,h.lo⟩
 .intro j u f
  by_cases B:j<St.length
  .rw[a0s B]at f
   obtain⟨q,A,z⟩:=h.mp j u f;exact⟨q,by rw[a0s (by omega)];exact A,z⟩
  have p:=(a0d.1 f).1;simp at p;have:j=St.length:=by omega
  subst this;simp at f;subst f;exact⟨r,by rw[<-C];simp,y⟩
 intro k a d;simp[Value.ownBlock]at a;subst a;rcases m with e|e
 .exact h.ne _ e d
 have:=(h.nl.lt _ d).2;simp at e;omega
def AQ.addN{m:Nat} {o:Obj}(h:AQ X wB wr ab fb U n CL vs vn I St nx vb D ak c)(s:IL (fb+1) w5 (zS g (nx.length+1) cap) (nx++[m]))(l:(wr.alloc o).grownBy w5 vn.ownBlock)(p:vn.ownBlock=some g\/g=(wr.alloc o).heap.size)(t:g<w5.heap.size) :
 AQ X wB (w5.setCell (zB ab 258) (zS g (nx.length+1) cap)) ab fb U n CL vs (zS g (nx.length+1) cap) I St (nx++[m]) vb D ak c:=by
 have i:=h.st.Vv h.nl;have w:=h.fe;have v:=h.lo;have hz:=h.fr.size;have hb:=h.st.pP.2.2.2.2.2;have K:=h.aY ((aB.refl [] wr).alloc o);have F:aB vn.ownBlock.toList (wr.alloc o) w5:=aB.fo l;have d:∀k,k∈vn.ownBlock.toList->fb+1<=k:=λk b=>by rw[a0H]at b;exact(h.nl.lt k b).1
 have r:=K.au.aC F (λf=>by have:=d _ f;omega);have q:aB [ab] w5 (w5.setCell (zB ab 258) (zS g (nx.length+1) cap)):=zK.setCell (.inl (by simp)) _;have S5:ST (fb+1) w5 fb vb D ak c U (vs.ownBlock.toList++[g]):=by have:=(h.st.aty (Z2:=vn.ownBlock.toList++vs.ownBlock.toList) (λk b=>by simp only[a0e]at b |-;exact b.symm)).akd l p t i.1 i.2;exact this.aty (λk b=>by simp only[a0e]at b |-;exact b.symm)
 refine⟨?_,h.mp,?_,ownsRow_setCell_below s (a:=(zB ab 258)) (by show ab<fb+1;omega) _,?_,r.Ke _,h.ln,(K.fr.above F (λx u=>.inl (by have:=d _ u;omega))).above q (by simp),h.fe,h.lo⟩
 .exact S5.aC q (by simp;omega) (by simp;omega) r.wu
 .refine ownsRow_setCell_below (mO K.il F (λk b f=>by rw[a0H]at f;exact h.ne k b f)) (a:=(zB ab 258)) (by show ab<fb+1;omega) _
 intro k b j;simp[Value.ownBlock]at j;subst j;rcases p with e|e
 .exact h.ne _ b e
 have:=(h.il.lt _ b).2;simp at e;omega
def QL(base:Nat)(w:World)(v:Value)(L:List Bool):Prop:=w.ownsRow base 4 1 v L.length (L.map λb=>.bool b)
def YF(St:List LN)(f:LN->Bool)(j:Nat)(u:LN)(h:St[j]?=some u):(St.take (j+1)).map f=(St.take j).map f++[f u]:=by rw[a1c,h,a0P];rfl
def ahK {R:Bool × List LN × LN}(h:yz X F k i St nx=R)(a:St.length<=i):R=(true,St,nx):=by
 rw[<-h];cases k with
 | zero=>rfl
 | succ k=>rw[yz,a1Z a]
def ahL(w:World)(e:RX)(F CL:LN)(en:Ending)(w':World):Prop :=
 aB [] w w'/\((oC (bn e) F).1=false->en=zQ #[.agg Tryz.zeroCells119,.bool false]) /\
 ((oC (bn e) F).1=true->∃va vn,en=zQ #[.agg (zI F.length::(nv .u8 CL++[va,vn])).toArray,.bool true]/\QL w.heap.size w' va ((oC (bn e) F).2.1.map λu=>dK (dW (bn e) u))/\IL w.heap.size w' vn (oC (bn e) F).2.2)
def AQ.start{a:World} {CL:LN}{b:Nat}(i:ST (w2.heap.size+1) a w2.heap.size vb D 0 0 U [])(f:D[b]?=some X)(h:AB a ab n CL zN zN)(g:aB [ab] w2 a)(e:ab<w2.heap.size)(hz:w2.heap.size+1<=a.heap.size) :
 AQ X w2 (a.alloc (Obj.cells #[zI b] 3)) ab w2.heap.size U n CL (zS a.heap.size 1 1) zN [b] [[]] [] vb D 0 0:=by
 have F:=(aB.refl [] a).alloc (Obj.cells #[zI b] 3);refine⟨?_,?_,?_,World.ownsRow_nil _ _ _ _,by simp[Value.ownBlock],h.aC F (by simp),rfl,g.above F (by simp),rfl,e⟩
 .have:=i.more F (Z2:=[a.heap.size]) (λk d=>by simp at d;subst d;simp)
  simpa[Value.ownBlock] using this
 .intro j u c
  cases j with
  | zero=>simp at c;subst c;exact⟨b,rfl,f⟩
  | succ j=>simp at c
 exact BH (base:=a.heap.size) (World.ownsRow_lit _ #[zI b] 1 (a0b _) (by unfold maxLen;omega) (by simp)) hz
def adK(X:NF)(w:LN)(F:LN)(j c:Nat)(St:List LN)(nx:LN)(a:F[j]?=some c):rQ X w (F.drop j) St nx=if Bi X St (w++[c])=40 then (false,St,nx) else rQ X w (F.drop (j+1)) (if Bi X St (w++[c])=St.length then St++[w++[c]] else St) (nx++[Bi X St (w++[c])]):=by have b:=(a0d.1 a).1;have he:=(a0d.1 a).2;rw[a0k b,he,rQ]
structure awJ(e:RX)(F:LN)(wB wr:World)(ab:Nat)(CL:LN)(vs:Value)(i k:Nat)(I:LN)(St:List LN)(nx:LN)(vn:Value)(vb:Nat)(D:List NF)(c:Nat):Prop where
 aq:AQ (bn e) wB wr ab wB.heap.size (D7 e F) F.length CL vs vn I St nx vb D nx.length c
 go:yz (bn e) F k i St nx=oC (bn e) F
 wb:WB St
 le:nx.length<=i*F.length
 il:i<=St.length
structure InQ(e:RX)(F:LN)(wB wr:World)(ab:Nat)(CL:LN)(vs:Value)(i j:Nat)(w:LN)(RW:Bool × List LN × LN)(I:LN)(St:List LN)(nx:LN)(vn:Value)(vb:Nat)(D:List NF)(c:Nat):Prop where
 aq:AQ (bn e) wB wr ab wB.heap.size (D7 e F) F.length CL vs vn I St nx vb D nx.length c
 go:rQ (bn e) w (F.drop j) St nx=RW
 wb:WB St
 le:nx.length<=i*F.length+j
 il:St[i]?=some w
def abk{w:LN} {R:Bool × List LN × LN}(h:yz X F (k+1) i St nx=R)(a:St[i]?=some w) :
 R=(match rQ X w F St nx with | (false,r)=>(false,r)|(true,zY,Cs)=>yz X F k (i+1) zY Cs):=by
 rw[<-h,yz,a]
 rfl
def ap5{w:LN} {R:Bool × List LN × LN}(h:yz X F (k+1) i St nx=R)(c:St[i]?=some w):(rQ X w F St nx).2.1 <+: R.2.1:=by
 have e:=abk h c;rw[e]
 split
 .rename_i r a;rw[a];exact a0N _
 rename_i b d a;rw[a];exact ady X F k (i+1) b d
theorem Vx(A:Nat->Prop)(base:Nat)(w:World)(eb:Nat)(e:RX)(vS:Value)(S F CL:LN)(hx:XR A w eb e)(hs:BL base w vS S)(hS:S.length<=1000)(hF:gP S 256=F)(hCL:Xa S 256=CL)(ho:tL e)(hd:uO e)(hp:dI e<=40)(ht:jX e<=40)(hn:Dn e<=200) :
 Calls Tryz.prog 114 #[.pointer (some ⟨eb,0,none⟩),vS] w (ahL w e F CL):=by
 obtain⟨asl,aa5,rfl⟩:=aW hs;have HX:=aj hx;have HBS:=aj hs;have HF:=aj hF;have Ao:=aj hCL;clear hx hs hF hCL;have fI:Tryz.zeroCells119.all (·.oneCell')=true:=xH;have ap6:=run_storeCells_new (P:=Tryz.prog) (w.alloc (Obj.cells Tryz.zeroCells119 119)) 119 Tryz.zeroCells119 Tryz.zeroCells119 (by rw[jZ];exact H8) rfl fI;have W:(w.alloc (Obj.cells Tryz.zeroCells119 119)).heap.size=w.heap.size+1:=by simp
 rw[W]at ap6;clear fI W;go_in
 go_wp2_with fail
 have F1:aB [] w ((w.alloc (Obj.cells Tryz.zeroCells119 119)).alloc (Obj.cells Tryz.zeroCells119 119)):=((aB.refl _ _).alloc _).alloc _;have S9:AB ((w.alloc (Obj.cells Tryz.zeroCells119 119)).alloc (Obj.cells Tryz.zeroCells119 119)) (w.heap.size+1) 0 (List.replicate 256 0) (.slice none 0 0) (.slice none 0 0):=by
  have:=AB.new (w.alloc (Obj.cells Tryz.zeroCells119 119));have W:(w.alloc (Obj.cells Tryz.zeroCells119 119)).heap.size=w.heap.size+1:=by simp
  rw[W]at this;exact this
 have hR1:((w.alloc (Obj.cells Tryz.zeroCells119 119)).alloc (Obj.cells Tryz.zeroCells119 119)).heap[w.heap.size]?=some (.cells Tryz.zeroCells119 119 (0,0)):=by
  rw[((aB.refl [] _).alloc _).block w.heap.size (by simp) (by simp)];exact bD _ _
 have fM:((w.alloc (Obj.cells Tryz.zeroCells119 119)).alloc (Obj.cells Tryz.zeroCells119 119)).heap.size=w.heap.size+2:=by simp
 generalize (w.alloc (Obj.cells Tryz.zeroCells119 119)).alloc (Obj.cells Tryz.zeroCells119 119)=w1 at F1 S9 hR1 fM |-;have sZ:=aj F1;have NQ:=aj hR1;have hSB:=aa6 base (w.heap.size+1) (.slice asl S.length aa5) S F CL (.slice none 0 0) (.slice none 0 0) w1 HF.o Ao.o (fG HBS.o F1 (by simp)) S9 hS (λe=>by have:=(HBS.o.lt _ e).2;omega);clear F1 hR1 S9 ap6;refine hSB.mono ?_;rintro en w2 ⟨vf,rfl,X,ahB,aR⟩;obtain⟨af,aa7,rfl⟩:=aW X;have z2:=aR.size;have UF:=aj X;obtain⟨a2f,c2f,e2f,hNf⟩:=xV X;simp only[Value.slice.injEq,a1W]at e2f;obtain⟨rfl,rfl⟩:=e2f;have NFF:=aj hNf;clear hNf;have A2:=aj ahB;have F2:=aj aR;clear X ahB aR hSB;go_wp2_with fail
 refine(acv w2).mono ?_;rintro en w3 ⟨va,rfl,hft,hfl,bW⟩;have z3:=bW.size;have ayi:=hft.lt;obtain⟨vb0,ap7⟩:=ST.start (c:=0) (U:=D7 e F) hft hfl (by omega) am6 (am4 ho hd hp ht hn (by have:=xW S 256;rw[HF.o]at this;omega));have KX:pO A w w3:=by
  intro k _ ⟨cu,fz,hk⟩;have aL:k<w.heap.size:=by rcases hk with e|e<;>exact(a0c.1 e).1
  rw[bW.block k (by omega) (by simp),F2.o.block k (by omega) (by simp;omega),sZ.o.block k aL (by simp)]
 have NM:=aj (Le e A (w2.heap.size+1) w3 w2.heap.size vb0 [.zero,.one] 0 0 (D7 e F) [] eb ap7 (HX.o.aY KX) (YS ho hd hp (by omega) am5) hd ho);have S0:=aj ap7;have F3:=aj bW;clear hft hfl bW ap7 KX;go_wp2_with fail
 refine(NM.o).mono ?_;rintro en w4 ⟨Dp,R,r0,rfl,alJ,Sn,Z⟩;have z4:=Z.fr.size;have A4:AB w4 (w.heap.size+1) F.length CL (.slice none 0 0) (.slice none 0 0):=(A2.o.aC F3.o (by simp)).aC Z.fr (by have:=S0.o.pP.2.2.2.2.2;simp;omega);have F4:aB [w.heap.size+1] w2 w4:=(F3.o.nil).above Z.fr (by have:=S0.o.pP.2.2.2.2.2;simp;omega);have Q5:=aj (AQ.start alJ Sn A4 F4 (by omega) (by omega));have hFl:F.length<=256:=by have:=xW S 256;rw[HF.o]at this;exact this.1
 have HFb:Z_ (∀f∈F,f<256):=by have:=xW S 256;rw[HF.o]at this;exact this.2
 clear alJ Sn Z A4 F4 NM S0;go_wp2_with fail
 go_loopg [10,11] 41 (λk v10 v11 wr=>∃(i:Nat) (I:LN) (St:List LN) (nx:LN) (vn:Value) (vb:Nat) (D:List NF) (c:Nat),i+k=41/\v11=.int .i64 i/\awJ e F w2 wr (w.heap.size+1) CL v10 i k I St nx vn vb D c)
 case atStart=>exact⟨0,[r0],[[]],[],.slice none 0 0,Dp,_,0,by omega,rfl,⟨Q5,rfl,WB.one,by simp,by simp⟩⟩
 case round =>
  clear Q5;obtain⟨i,I,St,nx,vn,vb,D,c,Ku,rfl,hq⟩:=hrel;obtain⟨H,Vg⟩:∃H,H=wr:=⟨_,rfl⟩;subst Vg;obtain⟨go,iD⟩:∃go,go=gk:=⟨_,rfl⟩;subst iD;obtain⟨ast,cst,rfl⟩:=aW hq.aq.il;have Q:=aj hq;have KH:=hq.aq.ln;have B:=aj KH;have EH:=hq.wb.1;have PQ:=hq.le;have hIl:I.length<=40:=by omega
  clear hq KH
  by_cases aL:i<I.length
  .obtain⟨g1,IE⟩:∃g1,go=g1+1:=⟨go-1,by omega⟩
   subst IE;obtain⟨u,Y⟩:∃u,St[i]?=some u:=⟨St[i]'(by have:=B.o;omega),a0a (by have:=B.o;omega)⟩;have Vt:=aj (abk Q.o.go Y);have PRE:=aj (ap5 Q.o.go Y);have ap8:Z_ (u∈(oC (bn e) F).2.1):=a0B (rR PRE.o (rR (Vn (bn e) u F St nx) Y));have IN0:Z_ (InQ e F w2 H (w.heap.size+1) CL (.slice ast I.length cst) i 0 u (rQ (bn e) u F St nx) I St nx vn vb D c):=⟨Q.o.aq,rfl,Q.o.wb,by have:=Q.o.le;omega,Y⟩;generalize rQ (bn e) u F St nx=RW at *;clear Y Q hIl;go_wp2_with fail
   go_loopg [10,35] F.length (λk v10 v35 wr=>∃(j:Nat) (I:LN) (St:List LN) (nx:LN) (vn:Value) (vb:Nat) (D:List NF) (c:Nat),j+k=F.length/\v35=.int .i64 j/\InQ e F w2 wr (w.heap.size+1) CL v10 i j u RW I St nx vn vb D c)
   case atStart=>exact⟨0,I,St,nx,vn,vb,D,c,by omega,rfl,IN0⟩
   case round =>
    clear IN0;obtain⟨j,G,d,r,vn2,Aw,D2,c2,lU,rfl,O⟩:=hrel;obtain⟨as2,cs2,rfl⟩:=aW O.aq.il;obtain⟨an2,cn2,rfl⟩:=aW O.aq.nl;have n:=aj O;have atz:=O.aq.ln;have atA:=aj atz;have atB:=O.wb.1;have ayj:=O.le;have alL:=(a0d.1 O.il).1;have zr:=O.aq.fr.size;have hI2:i<G.length:=by omega
    have ayk:G.length<=40:=by omega
    clear O atz;have hfm:i*F.length<=40*256:=a0D (by omega) hFl
    by_cases ng:j<F.length
    .have hFj:F[j]?=some F[j]:=a0a ng
     obtain⟨gf,of,rfl,iE,hcf⟩:=NFF.o j ng;have hgf:=(UF.o.lt _ rfl).1;simp only at hgf;have kL:wr.cell? ⟨gf,of+j,none⟩=some (.int .u8 (F[j]:Nat)):=(n.o.aq.fr.cell (p:=⟨gf,of+j,none⟩) iE (by simp;omega)).trans hcf;have hcm:F[j]∈F:=a0u ng;have hc256:=HFb.o _ hcm;obtain⟨q,l,J⟩:=n.o.aq.mp i u n.o.il;obtain⟨gs,rfl⟩:∃g,as2=some ⟨g,0,none⟩:=by
      rcases n.o.aq.il.2 with⟨e1,h1⟩|⟨g,c,cur,e1,_⟩
      .omega
      simp at e1;exact⟨g,e1.1⟩
     have pY:wr.cell? ⟨gs,i,none⟩=some (.int .i64 q):=by
      have:=n.o.aq.il.cell i hI2;rw[a0a hI2]at l;simp only[Option.some.injEq]at l;rw[l]at this;exact this
     have RD:=aj (adK (bn e) u F j F[j] d r hFj);have LB:=aj (YE (w2.heap.size+1) wr w2.heap.size Aw D2 r.length F[j] c2 (D7 e F) _ q (dW (bn e) u) n.o.aq.st J (aj5 ho hp ht ap8.o hcm) hc256 (by omega));have hsn:Z_ (left F[j] (dW (bn e) u)=dW (bn e) (u++[F[j]])):=(tK _ _ _).symm;rw[hsn.o]at LB;clear hcf hFj l J hcm hsn;generalize F[j]=cc at *;have ayl:(i:Int)<G.length:=by omega
     go_wp2_with fail
     refine(LB.o).mono ?_;rintro en w5 ⟨vb5,R5,r5,rfl,atC,hr5,hq5⟩;have N:=aj (n.o.aq.turn atC hq5);have IG:=aj hr5;have ap9:=N.o.find hr5;have FI:=aj7 (.slice (some ⟨gs,0,none⟩) G.length cs2) G r5 w5 (xV N.o.il) (by omega);rw[ap9]at FI;have FI2:=aj FI;have aym:=alx (bn e) d (u++[cc]);have z5:=hq5.fr.size;clear atC hr5 hq5 ap9 FI LB kL pY;have RD2:Z_ (RW=if Bi (bn e) d (u++[cc])=40 then (false,d,r) else rQ (bn e) u (F.drop (j+1)) (if Bi (bn e) d (u++[cc])=d.length then d++[u++[cc]] else d) (r++[Bi (bn e) d (u++[cc])])):=by
      show _=_;rw[<-n.o.go];exact RD
     clear RD;generalize Bi (bn e) d (u++[cc])=V at *;go_wp2_with fail
     refine(FI2.o).mono ?_;rintro en w5' ⟨rfl,rfl⟩
     by_cases Eu:V=40
     .have M:Z_ (oC (bn e) F=(false,d,r)):=by show _=_;rw[Vt.o,RD2.o,a0m Eu]
      have jW:w5.heap[w.heap.size]?=some (.cells Tryz.zeroCells119 119 (0,0)):=by
       rw[N.o.fr.block w.heap.size (by omega) (by simp),F2.o.block w.heap.size (by omega) (by simp)];exact NQ
      have dY:=vX jW rfl xH;have xZ:=aj (vW (cs:=Tryz.zeroCells119) jW);have FF:Z_ (aB [] w (w5.setRow w.heap.size Tryz.zeroCells119)):=(sZ.o.above ((F2.o.above N.o.fr (by simp))) (by intro x hx;simp at hx;omega)).above (aB.setRow _ _ _) (by simp);subst Eu;clear jW;go_wp2
      (try simp only[Exit.inBlock,Exit.then])
      refine bodyPost_ret (bS rfl w.heap.size _ rfl (rY xZ.o jZ)) rfl ?_;refine⟨FF,λ_=>rfl,λh=>?_⟩;rw[M.o]at h;simp at h
     have ayn:((V:Int)==40)=false:=by rw[a0j];omega
     have RD3:Z_ (RW=rQ (bn e) u (F.drop (j+1)) (if V=d.length then d++[u++[cc]] else d) (r++[V])):=by
      show _=_;rw[RD2.o,a0n Eu]
     clear RD2 FI2;have hcN:=N.o.au.cN.2
     by_cases uD:V=d.length
     .have hnI:V=G.length:=by have:=atA.o;omega
      subst hnI;have RD4:Z_ (rQ (bn e) u (F.drop (j+1)) (d++[u++[cc]]) (r++[G.length])=RW):=by
       show _=_;rw[RD3.o,a0m uD]
      have WB4:=aj (n.o.wb.add (c:=cc) n.o.il (by omega));have IL4:Z_ ((d++[u++[cc]])[i]?=some u):=rR (a1t _ _) n.o.il;clear RD3 uD;go_wp2_with (first | (at_builtin;refine vG rfl rfl (w2.heap.size+1) (.slice (some ⟨gs,0,none⟩) G.length cs2) G r5 w5.heap.size rfl (N.o.il.alloc _) rfl (j6 rfl) (by omega) (by simp;omega) ?_;intro gg aU w6 aS m T awK;have A6:=aj (N.o.awI IG.o aS m T awK);have ayo:=A6.o.au.cN.2;have zz6:=A6.o.fr.size;clear aS m T)|(at_builtin;refine vG rfl rfl (w2.heap.size+1) (.slice an2 r.length cn2) r G.length w6.heap.size rfl (A6.o.nl.alloc _) rfl (j6 rfl) (by omega) (by simp;omega) ?_;intro g7 atm w7 aS m T aqa;have A7:=aj (A6.o.addN aS m T aqa);have s:=(A6.o.aY ((aB.refl [] w6).alloc _)).au.aC (aB.fo m) (λhm=>by rw[a0H]at hm;have:=(A6.o.nl.lt _ hm).1;omega);have hc7:=s.cN.2;have Nw:=s.fz 258;clear aS m T s))
      go_roundg (gk-1)
      case measure=>omega
      case rel=>exact⟨j+1,_,_,_,_,vb5,_,cc,by omega,by go_num,⟨by simpa using A7.o,RD4,WB4,by simp;omega,IL4⟩⟩
     have hnI:V≠G.length:=by have:=atA.o;omega
     have hbI:=atr hnI;have RD4:Z_ (rQ (bn e) u (F.drop (j+1)) d (r++[V])=RW):=by
      show _=_;rw[RD3.o,a0n uD]
     clear RD3 uD;go_wp2_with (first | (at_builtin;refine vG rfl rfl (w2.heap.size+1) (.slice an2 r.length cn2) r V w5.heap.size rfl (N.o.nl.alloc _) rfl (j6 rfl) (by omega) (by simp;omega) ?_;intro g7 atm w7 aS m T aqa;have A7:=aj (N.o.addN aS m T aqa);have s:=(N.o.aY ((aB.refl [] w5).alloc _)).au.aC (aB.fo m) (λhm=>by rw[a0H]at hm;have:=(N.o.nl.lt _ hm).1;omega);have hc7:=s.cN.2;have Nw:=s.fz 258;clear aS m T s))
     go_roundg (gk-1)
     case measure=>omega
     case rel=>exact⟨j+1,_,_,_,_,vb5,_,cc,by omega,by go_num,⟨by simpa using A7.o,RD4,n.o.wb,by simp;omega,n.o.il⟩⟩
    have mK:j=F.length:=by omega
    have Li:RW=(true,d,r):=by rw[<-n.o.go,mK,a2H];rfl
    have HGO:Z_ (yz (bn e) F g1 (i+1) d r=oC (bn e) F):=by
     show _=_;have:=Vt.o;rw[Li]at this;exact this.symm
    have hle:r.length<=(i+1)*F.length:=by rw[a0J];omega
    clear Li;go_wp2;go_roundg g1
    case measure=>omega
    case rel=>exact⟨i+1,G,d,r,_,Aw,D2,c2,by omega,by go_num,⟨n.o.aq,HGO,n.o.wb,hle,by omega⟩⟩
  have M:Z_ (oC (bn e) F=(true,St,nx)):=ahK Q.o.go (by have:=B.o;omega);have hA0:=Q.o.aq.au;have hFw:aB [w.heap.size+1] w2 H:=Q.o.aq.fr;have jW:H.heap[w.heap.size]?=some (.cells Tryz.zeroCells119 119 (0,0)):=by
   rw[hFw.block w.heap.size (by omega) (by simp),F2.o.block w.heap.size (by omega) (by simp)];exact NQ
  have HA0:=aj hA0;have xZ:=aj jW;have zo:=hFw.size;have alK:=Dx Q.o.aq.il;clear hA0 jW hFw;obtain⟨an,cn,rfl⟩:=aW Q.o.aq.nl;have hls:=Q.o.aq.st.pP.2.2.2.2.2;go_wp2_with fail
  go_loopg [69] I.length (λk v69 wr=>∃(j:Nat) (va:Value),j+k=I.length/\v69=.int .i64 j/\QL H.heap.size wr va ((St.take j).map λu=>dK (dW (bn e) u))/\AB wr (w.heap.size+1) F.length CL va (.slice an nx.length cn)/\aB [w.heap.size+1] H wr)
  case atStart=>exact⟨0,.slice none 0 0,by omega,rfl,World.ownsRow_nil _ _ _ _,HA0,aB.refl _ _⟩
  case round =>
   obtain⟨j,va,lU,rfl,Kv,uz,bH⟩:=hrel;obtain⟨aa,ca,rfl⟩:=aW Kv;have y:=aj Kv;have E:=aj uz;have C:=aj bH;have z1:=bH.size;have auW:=uz.lt;clear Kv uz bH
   by_cases Gb:j<I.length
   .obtain⟨u,Y⟩:∃u,St[j]?=some u:=⟨St[j]'(by have:=B.o;omega),a0a (by have:=B.o;omega)⟩
    obtain⟨q,l,J⟩:=Q.o.aq.mp j u Y;obtain⟨gs,rfl⟩:∃g,ast=some ⟨g,0,none⟩:=by
     rcases Q.o.aq.il.2 with⟨e1,h1⟩|⟨g,c,cur,e1,_⟩
     .omega
     simp at e1;exact⟨g,e1.1⟩
    have XO:=Q.o.aq.il.lt gs rfl;have pY:wr.cell? ⟨gs,j,none⟩=some (.int .i64 q):=by
     have:=Q.o.aq.il.cell j Gb;rw[a0a Gb]at l;simp only[Option.some.injEq]at l;rw[l]at this;rw[C.o.cell (p:=⟨gs,j,none⟩) XO.2 (by simp;omega)];exact this
    have atD:=Q.o.aq.st.aC C.o (by simp;omega) (by simp;omega) HA0.o.wu;obtain⟨f,L2,aU,K⟩:=atD.look J;have t0:=K.tab;have k8:=K.get.2.2.2.2.2.2.2.2.1;have ayp:=K.lt;rw[K.te]at k8;have hcA:=E.o.cN.1;have hzA:=E.o.fz 257;have MT:=aj (YF St (λu=>dK (dW (bn e) u)) j u Y);have O:(q:Int)<D.length:=by omega
    have hSl:((St.take j).map λu=>dK (dW (bn e) u)).length<=40:=by simp;omega
    clear K atD l J Y;generalize dK (dW (bn e) u)=bb at *;generalize ((St.take j).map λu=>dK (dW (bn e) u))=LB at *;obtain⟨i9,hi9,Qa,Yk,Il⟩:=info_parts acT;have QLr:Z_ (wr.ownsRow H.heap.size 4 1 (.slice aa LB.length ca) LB.length (LB.map λb=>.bool b)):=y.o;have bJ:Value.ownBlock (.slice aa LB.length ca)≠some (w.heap.size+1):=λe=>by have:=(y.o.lt _ e).1;omega
    have g2:∀o:Obj,(wr.alloc o).drew.frozen? ⟨w.heap.size+1,257,none⟩=false:=λo=>((((aB.refl [] wr).alloc o).drew).frozen auW (by simp)).trans hzA
    go_wp2_with fail
    go_region_law ((refine step_append_lies _ (by rfl) _ _ _ (by rfl) H.heap.size 4 i9 _ 1 1 Tryz.underlying116 hi9 Qa Yk Il rfl (by omega) (.slice aa LB.length ca) LB.length (LB.map λb=>.bool b) (by rfl) (by exact QLr.o.alloc _) ⟨wr.heap.size,0,none⟩ 1 1 [.bool bb] (by rfl) (by rfl) (World.news_of_block (cs:=#[.bool bb]) (t:=4) (fr:=(0,0)) (by exact bD _ _)) (by simp[Value.oneCell']) (by omega) (by unfold maxLen;omega) (by omega) (by simp;omega) (wr.heap.size+1) (by simp) ?_;intro gg Kq w4 bT m T AO;have c4:=(m.cell_far ⟨w.heap.size+1,257,none⟩ (by simp;omega) (Ne.symm bJ));have f4:=(m.frozen_far ⟨w.heap.size+1,257,none⟩ (by simp;omega) (Ne.symm bJ));have f5:=f4.trans (g2 _)))
    all_goals
     have F4:=aB.fo m;have AB4:=(E.o.aC (S:=[]) (((aB.refl [] wr).alloc (Obj.cells #[.bool bb] 4)).drew) (by simp)).aC F4 (by simpa[a0H] using λe=>bJ e);have AB5:=aj (AB4.agr (.slice (some ⟨gg,0,none⟩) (LB.length+1) Kq));have QL5:=aj (ownsRow_setCell_below bT (a:=⟨w.heap.size+1,257,none⟩) (by show w.heap.size+1<H.heap.size;omega) (.slice (some ⟨gg,0,none⟩) (LB.length+1) Kq));have FR5:Z_ (aB [w.heap.size+1] H (w4.setCell ⟨w.heap.size+1,257,none⟩ (.slice (some ⟨gg,0,none⟩) (LB.length+1) Kq))):=aB.setCell (aB.grown ((C.o.alloc _).drew) m (λk hk=>.inr (y.o.lt k hk).1)) (.inl (by simp)) _;clear F4 AB4 bT m T;go_wp2;go_roundg (gk-1)
     case measure=>omega
     case rel =>
      refine⟨j+1,_,by omega,by go_num,?_,AB5,FR5⟩;rw[MT.o];unfold QL;simpa using QL5.o
   have qI:j=St.length:=by have:=B.o;omega
   have htk:((St.take j).map λu=>dK (dW (bn e) u))=St.map λu=>dK (dW (bn e) u):=by rw[qI,a2h]
   rw[htk]at y E;have FJ:wr.heap[w.heap.size]?=some (.cells Tryz.zeroCells119 119 (0,0)):=(C.o.block w.heap.size (by omega) (by simp)).trans xZ;have eG:(Value.int .i64 F.length::(nv .u8 CL++[.slice aa (St.map λu=>dK (dW (bn e) u)).length ca,.slice an nx.length cn])).toArray.size=259:=by simp[nv,E.o.2]
   have atE:=aj E.o.1;have fI:(Value.int .i64 F.length::(nv .u8 CL++[.slice aa (St.map λu=>dK (dW (bn e) u)).length ca,.slice an nx.length cn])).toArray.all (·.oneCell')=true:=by
    refine a2g.2 λv hv=>?_
    simp[nv]at hv;rcases hv with rfl|⟨a,_,rfl⟩|rfl|rfl<;>rfl
   have adL:=aj fI;have awL:=aj FJ;have Xf:=aj (vW (cs:=(Value.int .i64 F.length::(nv .u8 CL++[.slice aa (St.map λu=>dK (dW (bn e) u)).length ca,.slice an nx.length cn])).toArray) FJ);have L:=aj eG;have FW:Z_ (aB [] w wr):=(sZ.o.above (F2.o.above (Q.o.aq.fr.above C.o (by simp)) (by simp)) (by intro x hx;simp at hx;omega));have NL1:Z_ (∀cs,IL w.heap.size (wr.setRow w.heap.size cs) (.slice an nx.length cn) nx):=λcs=>BH (mO (mO Q.o.aq.nl C.o (λk hk=>by have:=(Q.o.aq.nl.lt k hk).1;simp;omega)) (aB.setRow _ _ cs) (λk hk=>by have:=(Q.o.aq.nl.lt k hk).1;simp;omega)) (by omega)
   have QLf:Z_ (∀cs,QL w.heap.size (wr.setRow w.heap.size cs) (.slice aa (St.map λu=>dK (dW (bn e) u)).length ca) (St.map λu=>dK (dW (bn e) u))):=λcs=>BH (mO y.o (aB.setRow _ _ cs) (λk hk=>by have:=(y.o.lt k hk).1;simp;omega)) (by omega)
   generalize pY:(Value.int .i64 F.length::(nv .u8 CL++[.slice aa (St.map λu=>dK (dW (bn e) u)).length ca,.slice an nx.length cn])).toArray=cs at atE adL Xf L;have II:=aj pY;have awM:=aj (vX awL.o (by rw[L.o,jZ]) adL);clear fI FJ eG qI htk pY;go_wp2_with fail
   refine H9 (.tmp 6) rfl (w.heap.size+1) rfl cs (rY atE.o L) ?_;have eG:=L.o;have ap6:=awM.o;go_wp2
   (try simp only[Exit.inBlock,Exit.then])
   refine bodyPost_ret (bS rfl w.heap.size _ rfl (rY Xf.o L)) rfl ?_;refine⟨FW.o.above (aB.setRow _ _ _) (by simp),λh=>?_,λ_=>?_⟩
   .rw[M.o]at h;simp at h
   refine⟨.slice aa (St.map λu=>dK (dW (bn e) u)).length ca,.slice an nx.length cn,congrArg (λz=>Ending.returned (.tuple #[.agg z,.bool true])) II.o.symm,?_,?_⟩
   .rw[M.o];exact QLf.o _
   rw[M.o];exact NL1.o _
theorem atF:∀q:Addr,(Value.string { data:=#[] })≠.pointer (some q):=by simp
def atG:∀q:Addr,(Value.pointer none)≠.pointer (some q):=by simp
structure BQ(X:NF)(F:LN)(w wr:World)(v5 v7 v8:Value)(ps:LN)(St:List LN):Prop where
 o5:OV 3 w.heap.size wr v5 (nv .i64 F)
 o7:OZ 169 (.pointer none) w.heap.size wr v7 (ps.map aM)
 o8:OZ 9 (.string { data:=#[] }) w.heap.size wr v8 (sv (St.map λu=>name (dW X u)))
 tn:jC wr ps (St.map (dW X))
 fr:aB [] w wr
 wb:WB St
theorem BQ.aC{wr:World}(h:BQ X F w wr v5 v7 v8 ps St)(f:aB [] wr w'):BQ X F w w' v5 v7 v8 ps St :=
 ⟨h.o5.aC f (by simp),h.o7.aC f (by simp),h.o8.aC f (by simp),h.tn.aC f,h.fr.trans f,h.wb⟩
theorem BQ.len{wr:World}(h:BQ X F w wr v5 v7 v8 ps St):ps.length=St.length:=by have:=h.tn.len;rw[a0y]at this;exact this
def acx(w:World)(p:Nat)(t:TR)(X:NF)(F:LN)(h:RN w p t)(hl:(kP t).length<=1000)(hg:GT t)(hX:dJ t=X)(hF:gP (kP t) 256=F)
 (hr:∀(u:LN) (c:Nat),u.length<=39->WC (dW X u)/\xP c (dW X u)/\nl (left c (dW X u))<9223372036854775807) :
 zF 66 #[zP p,zI 40] w λe w'=>∃n:Nat,e=zR (zI n)/\n<=41/\(40<n↔(oC X F).1=false)/\aB [] w w':=by
 have A0:=afp w p t h hl;rw[hF]at A0;have A:=aj A0;have B:Z_ (∀M,aB [] w M->zF 83 #[zP p] M (zU M X)):=λM hf=>by
  have:=qU t M p (RN.aY (dX.of hf) h) hg;rw[hX]at this;exact this
 have HR:=aj hr;have hFl:F.length<=256:=by have:=xW (kP t) 256;rw[hF]at this;exact this.1
 have HFb:Z_ (∀f∈F,f<256):=by have:=xW (kP t) 256;rw[hF]at this;exact this.2
 clear h hg hX hF hr A0 hl;delta zF;go_in
 go_wp2_with fail
 refine(A.o).mono ?_;rintro e M ⟨v5,rfl,sU,aZ⟩;have B1:=aj (B.o M aZ);have O1:=aj sU;have F1:=aj aZ;obtain⟨a5,E,c5,rfl,NV⟩:=sU.open;have I:Z_ (E=F.length):=by show _=_;rw[NV];simp[nv]
 have ayq:E<=256:=by have:=I.o;omega
 clear sU aZ NV A B;go_wp2_with fail
 refine(B1.o).mono ?_;rintro e w2 ⟨q,rfl,ht,aR⟩;have G:=ht.nm;have hq:=bY G;have Q0:Z_ (BQ X F w ((w2.alloc (.cells #[aM q] 169)).alloc (.cells #[zT (name X)] 9)) (.slice a5 E c5) (zS w2.heap.size 1 1) (zS (w2.heap.size+1) 1 1) [q] [[]]):=by
  have f2:=F1.o.trans aR;have z2:=f2.size;have fa:aB [] w2 ((w2.alloc (.cells #[aM q] 169)).alloc (.cells #[zT (name X)] 9)):=((aB.refl [] _).alloc _).alloc _;refine⟨(O1.o.aC aR (by simp)).aC fa (by simp),(OZ.lit w2 (aM q) z2).aC ((aB.refl [] _).alloc _) (by simp),?_,?_,f2.trans fa,WB.one⟩
  .have:=OZ.lit (e:=9) (z:=.string { data:=#[] }) (base:=w.heap.size) (w2.alloc (.cells #[aM q] 169)) (zT (name X)) (by simp;omega)
   simpa[sv,dW] using this
  have:=ht.aC fa;simp only[a0E,a1V,jC,dW];exact⟨this,trivial⟩
 clear ht aR B1 O1 F1;unfold aM at Q0 |-;go_wp2_with fail
 go_loopg [7,8,9] 41 (λk v7 v8 v9 wr=>∃(i:Nat) (ps:LN) (St:List LN) (nx:LN),i+k=41/\v9=zI i/\BQ X F w wr (.slice a5 E c5) v7 v8 ps St/\yz X F k i St nx=oC X F/\i<=St.length)
 case atStart=>exact⟨0,[q],[[]],[],by omega,rfl,Q0,rfl,by simp⟩
 case round =>
  clear Q0 G hq;obtain⟨i,ps,St,nx,Ku,rfl,hq,iD,jc⟩:=hrel;obtain⟨wo,Vg⟩:∃wo,wo=wr:=⟨_,rfl⟩;subst Vg;obtain⟨go,Ty⟩:∃go,go=gk:=⟨_,rfl⟩;subst Ty;obtain⟨a7,g,c7,rfl,v⟩:=hq.o7.ov.open;obtain⟨a8,D,c8,rfl,Od⟩:=hq.o8.ov.open;have r:Z_ (g=St.length):=by show _=_;rw[v,a0y,hq.len]
  have EH:=hq.wb.1;have Q:=aj hq;have GO:=aj iD;have atH:g<=40:=by have:=r.o;omega
  clear hq iD v Od
  by_cases aL:i<g
  .obtain⟨g1,IE⟩:∃g1,go=g1+1:=⟨go-1,by omega⟩
   subst IE;obtain⟨u,hu⟩:∃u,St[i]?=some u:=⟨St[i]'(by have:=r.o;omega),a0a (by have:=r.o;omega)⟩;have Vt:=aj (abk GO.o hu);have HU:=aj hu;obtain⟨RW,R⟩:∃RW,rQ X u F St nx=RW:=⟨_,rfl⟩;rw[R]at Vt;have Li:=aj R;clear hu R GO jc;go_wp2_with fail
   go_loopg [7,8,10] E (λk v7 v8 v10 wr=>∃(j:Nat) (ps:LN) (St:List LN) (nx:LN),j+k=E/\v10=zI j/\BQ X F w wr (.slice a5 E c5) v7 v8 ps St/\rQ X u (F.drop j) St nx=RW/\St[i]?=some u)
   case atStart=>exact⟨0,ps,St,nx,by omega,rfl,Q,Li,HU⟩
   case round =>
    clear Q HU Li atH EH r aL;obtain⟨j,s,a,Bl,lU,rfl,L,atI,U⟩:=hrel;obtain⟨a7,g,c7,rfl,v⟩:=L.o7.ov.open;obtain⟨a8,D,c8,rfl,Od⟩:=L.o8.ov.open;have r:Z_ (g=a.length):=by show _=_;rw[v,a0y,L.len]
    have Hn8:Z_ (D=a.length):=by show _=_;rw[Od];simp[sv]
    have J:=aj L.len;have atB:=L.wb.1;have alK:=(a0d.1 U).1;have hi7:i<g:=by have:=r.o;omega
    have atH:g<=40:=by have:=r.o;omega
    have ayr:D<=40:=by have:=Hn8.o;omega
    have zr:=L.fr.size;have Q2:=aj L;have GO2:=aj atI;have C:=aj U;clear L atI U v Od atB alK
    by_cases ng:j<E
    .obtain⟨c,hc⟩:∃c,F[j]?=some c:=⟨F[j]'(by have:=I.o;omega),a0a (by have:=I.o;omega)⟩
     have P:=HFb.o c (a0B hc);obtain⟨g5,rfl,_,Vy,hc5⟩:=Q2.o.o5.cell (j:=j) (u:=zI c) (by simp[nv,hc]);obtain⟨q,hq,Ij⟩:=Q2.o.tn.get i (dW X u) (by rw[a0Q,C.o];rfl);obtain⟨g7,rfl,_,hg7,hc7⟩:=Q2.o.o7.ov.cell (j:=i) (u:=aM q) (by rw[a0Q,hq];rfl);unfold aM at hc7;have atJ:u.length<=39:=by have:=Q2.o.wb.2 i u C;omega
     obtain⟨r1,r2,r3⟩:=HR.o u c atJ;have Y:∀W,aB [] wr W->zF 84 #[zP q,zI c] W (zU W (left c (dW X u))):=λW hf=>afe c P _ W q (Ij.aC hf) r1 r2 r3
     rw[<-tK]at Y;have NB:=aj Y;have V:=adK X u F j c a Bl hc;rw[GO2.o]at V;have RD:=aj V;have FN:Z_ (aB [] wr wr.drew):=(aB.refl [] wr).drew;have Z:=aj (apL X a (u++[c]));clear Y V r1 r2 r3 hq Ij hc atJ;go_wp2_with fail
     go_region_with (go_at_call 84;refine(NB.o _ FN).mono ?_;rintro e w5 ⟨q5,rfl,N,xe⟩)
     all_goals
      have G:=N.nm;have T5:=aj N;have b:=aj (Q2.o.aC (FN.o.trans xe));have z5:=(FN.o.trans xe).size;clear N xe hc7 hc5 hg7 Vy;unfold aM;have RSn:RS 0 w5 (.slice a8 D c8) (a.map λu=>name (dW X u)):=(b.o.o8.ov.sl.rs (by rw[a0y];have:=b.o.wb.1;omega)).base (a1G _);have NF:=aj (wh (.slice a8 D c8) (a.map λu=>name (dW X u)) (name (dW X (u++[c]))) w5 RSn);clear RSn;have hS2:a.length<=40:=b.o.wb.1;go_wp2_with fail
      refine(NF.o).mono ?_;rintro e w5' ⟨rfl,rfl⟩;clear NF;rcases Z.o with⟨AV,x⟩|⟨Ox,x⟩
      .generalize oI (a.map λu=>name (dW X u)) (name (dW X (u++[c])))=fi at AV |-
       have l:=RD.o;rw[x]at l;clear RD Z
       by_cases Eu:g=40
       .have HAR:Z_ ((oC X F).1=false):=by
         show _=_;rw[a0m (by have:=r.o;omega)]at l;rw[Vt.o,l]
        have dZ:40<g+1:=by omega
        clear l Eu x;go_wp2_with (first | (at_builtin;refine afq rfl 171 169 (.pointer none) 8 DY Tryz.underlying171 rfl (by decide) atG (by omega) rfl w.heap.size (zS g7 g c7) (s.map aM) (g+1) w5.heap.size (aM q5) (by rw[a0y,J.o,r.o]) rfl (b.o.o7.aC (S:=[]) ((aB.refl [] _).alloc _) (by simp)) rfl (mi rfl) rfl (by rw[a0y,J.o];omega) (by simp;omega) ?_;intro g8 c8' w7 y d m;have O7:=aj y;have P5:=aj (OV.other (b.o.o7.ov.aC (S:=[]) ((aB.refl [] _).alloc _) (by simp)) (b.o.o5.aC (S:=[]) ((aB.refl [] _).alloc _) (by simp)) (by decide) d);have H:=aj (OZ.other (b.o.o8.aC (S:=[]) ((aB.refl [] _).alloc _) (by simp)) (b.o.o7.ov.aC (S:=[]) ((aB.refl [] _).alloc _) (by simp)) (by decide) d);have T7:=aj ((b.o.tn.aC ((aB.refl [] _).alloc _)).kt m);have Y7:=aj ((T5.o.aC ((aB.refl [] _).alloc _)).kt m);have T:=Y7.o.nm;have F7:=aj ((b.o.fr.alloc _).grown d (λk O=>.inr (b.o.o7.ov.base k O)));have z7:=F7.o.size;clear y d m)|(at_builtin;refine afq rfl 48 9 (.string { data:=#[] }) 16 uY Tryz.underlying48 rfl (by decide) atF (by omega) rfl w.heap.size (.slice a8 D c8) (sv (a.map λu=>name (dW X u))) (D+1) w7.heap.size (zT (name (dW X (u++[c])))) (by rw[Hn8.o];simp[sv]) rfl (H.o.aC (S:=[]) ((aB.refl [] _).alloc _) (by simp)) rfl (mi rfl) rfl (by simp[sv];omega) (by simp;omega) ?_;intro g9 c9 w8 y d m;have O8:=aj y;have R5:=aj (OV.other (H.o.ov.aC (S:=[]) ((aB.refl [] _).alloc _) (by simp)) (P5.o.aC (S:=[]) ((aB.refl [] _).alloc _) (by simp)) (by decide) d);have R7:=aj (OZ.other (O7.o.aC (S:=[]) ((aB.refl [] _).alloc _) (by simp)) (H.o.ov.aC (S:=[]) ((aB.refl [] _).alloc _) (by simp)) (by decide) d);have T8:=aj ((T7.o.aC ((aB.refl [] _).alloc _)).kt m);have Y8:=aj ((Y7.o.aC ((aB.refl [] _).alloc _)).kt m);have F8:=aj ((F7.o.alloc _).grown d (λk O=>.inr (H.o.ov.base k O)));clear y d m))
        go_ret;exact⟨g+1,by go_num,by omega,⟨λ_=>HAR,λ_=>dZ⟩,F8⟩
       have HRD:Z_ (rQ X u (F.drop (j+1)) (a++[u++[c]]) (Bl++[a.length])=RW):=by
        show _=_;rw[a0n (by have:=r.o;omega),a0m rfl]at l;exact l.symm
       have WB3:=aj (b.o.wb.add (c:=c) C.o (by have:=r.o;omega));have hle:g+1<=40:=by omega
       clear l Eu x;go_wp2_with (first | (at_builtin;refine afq rfl 171 169 (.pointer none) 8 DY Tryz.underlying171 rfl (by decide) atG (by omega) rfl w.heap.size (zS g7 g c7) (s.map aM) (g+1) w5.heap.size (aM q5) (by rw[a0y,J.o,r.o]) rfl (b.o.o7.aC (S:=[]) ((aB.refl [] _).alloc _) (by simp)) rfl (mi rfl) rfl (by rw[a0y,J.o];omega) (by simp;omega) ?_;intro g8 c8' w7 y d m;have O7:=aj y;have P5:=aj (OV.other (b.o.o7.ov.aC (S:=[]) ((aB.refl [] _).alloc _) (by simp)) (b.o.o5.aC (S:=[]) ((aB.refl [] _).alloc _) (by simp)) (by decide) d);have H:=aj (OZ.other (b.o.o8.aC (S:=[]) ((aB.refl [] _).alloc _) (by simp)) (b.o.o7.ov.aC (S:=[]) ((aB.refl [] _).alloc _) (by simp)) (by decide) d);have T7:=aj ((b.o.tn.aC ((aB.refl [] _).alloc _)).kt m);have Y7:=aj ((T5.o.aC ((aB.refl [] _).alloc _)).kt m);have T:=Y7.o.nm;have F7:=aj ((b.o.fr.alloc _).grown d (λk O=>.inr (b.o.o7.ov.base k O)));have z7:=F7.o.size;clear y d m)|(at_builtin;refine afq rfl 48 9 (.string { data:=#[] }) 16 uY Tryz.underlying48 rfl (by decide) atF (by omega) rfl w.heap.size (.slice a8 D c8) (sv (a.map λu=>name (dW X u))) (D+1) w7.heap.size (zT (name (dW X (u++[c])))) (by rw[Hn8.o];simp[sv]) rfl (H.o.aC (S:=[]) ((aB.refl [] _).alloc _) (by simp)) rfl (mi rfl) rfl (by simp[sv];omega) (by simp;omega) ?_;intro g9 c9 w8 y d m;have O8:=aj y;have R5:=aj (OV.other (H.o.ov.aC (S:=[]) ((aB.refl [] _).alloc _) (by simp)) (P5.o.aC (S:=[]) ((aB.refl [] _).alloc _) (by simp)) (by decide) d);have R7:=aj (OZ.other (O7.o.aC (S:=[]) ((aB.refl [] _).alloc _) (by simp)) (H.o.ov.aC (S:=[]) ((aB.refl [] _).alloc _) (by simp)) (by decide) d);have T8:=aj ((T7.o.aC ((aB.refl [] _).alloc _)).kt m);have Y8:=aj ((Y7.o.aC ((aB.refl [] _).alloc _)).kt m);have F8:=aj ((F7.o.alloc _).grown d (λk O=>.inr (H.o.ov.base k O)));clear y d m))
       go_roundg (gk-1)
       case measure=>omega
       case rel =>
        refine⟨j+1,s++[q5],a++[u++[c]],Bl++[a.length],by omega,by go_num,⟨R5,?_,?_,?_,F8,WB3⟩,HRD,rR (a1t _ _) C⟩
        .have:=R7.o
         simpa using this
        .have:=O8.o
         simpa[sv] using this
        rw[a0P];refine T8.o.app ?_;simp only[a0E,a1V,jC];exact⟨Y8,trivial⟩
      generalize oI (a.map λu=>name (dW X u)) (name (dW X (u++[c])))=fi at Ox |-;have HRD:Z_ (rQ X u (F.drop (j+1)) a (Bl++[Bi X a (u++[c])])=RW):=by
       show _=_;have:=RD.o;rw[a0n (by have:=r.o;omega),a0n (by omega)]at this;exact this.symm
      clear RD Z x;go_wp2;go_roundg (gk-1)
      case measure=>omega
      case rel=>exact⟨j+1,s,a,_,by omega,by go_num,b,HRD,C⟩
    have qI:j=E:=by omega
    have atK:RW=(true,a,Bl):=by rw[<-GO2.o,qI,I.o,a2H];rfl
    have HGO:Z_ (yz X F g1 (i+1) a Bl=oC X F):=by
     show _=_;have:=Vt.o;rw[atK]at this;exact this.symm
    have adM:i+1<=a.length:=by have:=r.o;omega
    clear atK qI;go_wp2;go_roundg g1
    case measure=>omega
    case rel=>exact⟨i+1,s,a,Bl,by omega,by go_num,Q2,HGO,adM⟩
  have HAR:Z_ (oC X F=(true,St,nx)):=ahK GO.o (by have:=r.o;omega);go_wp2;go_ret;refine⟨g,rfl,by omega,⟨λh=>by omega,λh=>?_⟩,Q.o.fr⟩;rw[HAR.o]at h;simp at h
def kZ(e:RX):LN:=gP (dB e) 256
def yc(e:RX):LN:=Xa (dB e) 256
def eu(e:RX):Bool × List LN × LN:=oC (bn e) (kZ e)
def gH(t:LB):Nat :=
 match fF t with
 | none=>5
 | some e=>if 40<dI e then 6 else if (eu e).1 then 0 else 7
def akf(w:World)(t:LB)(en:Ending)(w':World):Prop :=
 aB [] w w'/\∃cs:Array Value,cs.size=259/\cs.all (·.oneCell')=true/\en=zQ #[.agg cs,zI (gH t)]/\(gH t≠0->cs=Tryz.zeroCells119) /\
  (∀e,fF t=some e->gH t=0->∃va vn,cs=(Value.int .i64 (kZ e).length::(nv .u8 (yc e)++[va,vn])).toArray/\QL w.heap.size w' va ((eu e).2.1.map λu=>dK (dW (bn e) u))/\IL w.heap.size w' vn (eu e).2.2)
def abm {b:Nat}(h:FP w.heap.size b w w'):aB [b] w w':=⟨h.os,h.tape,h.output,h.size,λk a c=>h.block k a (by simpa using c) (.inl a)⟩
def adN{S:LN}{n:Nat}:(Xa S n).length=n:=by simp[Xa]
def Tz(h:fF t=some x):(dB x).length<=t.length:=by
 unfold fF at h
 split at h
 .rename_i y a
  simp at h;subst h;have:=(PK a).1;simp[eT]at this;exact this
 simp at h
theorem ahL.ok {e:RX}(h:ahL w e (kZ e) (yc e) en w')(a:(eu e).1=true):aB [] w w'/\∃va vn,en=zQ #[.agg (zI (kZ e).length::(nv .u8 (yc e)++[va,vn])).toArray,.bool true]/\QL w.heap.size w' va ((eu e).2.1.map λu=>dK (dW (bn e) u))/\IL w.heap.size w' vn (eu e).2.2:=by unfold eu at a |-;exact⟨h.1,h.2.2 a⟩
def ahL.no {e:RX}(h:ahL w e (kZ e) (yc e) en w')(a:(eu e).1=false):aB [] w w'/\en=zQ #[.agg Tryz.zeroCells119,.bool false]:=by unfold eu at a;exact⟨h.1,h.2.1 a⟩
def acy(t:LB)(w:World)(ht:t.length<=40):zF 93 #[zT t] w (akf w t):=by
 delta zF;go_in
 go_wp2_with fail
 have L:aB [] w ((w.alloc (Obj.cells Tryz.zeroCells119 119)).alloc (Obj.cells #[zT t,zI 0,zN] 203)):=zJ.alloc _;have fM:((w.alloc (Obj.cells Tryz.zeroCells119 119)).alloc (Obj.cells #[zT t,zI 0,zN] 203)).heap.size=w.heap.size+2:=by simp
 have V:((w.alloc (Obj.cells Tryz.zeroCells119 119)).alloc (Obj.cells #[zT t,zI 0,zN] 203)).heap[w.heap.size]?=some (.cells Tryz.zeroCells119 119 (0,0)):=by rw[zG.block w.heap.size (by simp) (by simp)];exact bD _ _
 have p:PA ((w.alloc (Obj.cells Tryz.zeroCells119 119)).alloc (Obj.cells #[zT t,zI 0,zN] 203)) (w.heap.size+1) t t zN:=by
  refine⟨0,⟨?_,by omega,by omega⟩,rfl⟩;have:=bD (w.alloc (Obj.cells Tryz.zeroCells119 119)) (Obj.cells #[zT t,zI 0,zN] 203);have N:(w.alloc (Obj.cells Tryz.zeroCells119 119)).heap.size=w.heap.size+1:=by simp
  rw[N]at this;exact this
 generalize (w.alloc (Obj.cells Tryz.zeroCells119 119)).alloc (Obj.cells #[zT t,zI 0,zN] 203)=J at L fM V p |-;have PR:=aj6 J.heap.size (w.heap.size+1) t J p (by omega) (a0b _) (by omega);clear p;refine PR.mono ?_;intro en w2 l;cases g:fF t with
 | none =>
   rw[g]at l;obtain⟨rfl,d⟩:=l;have i:gH t=5:=by simp[gH,g]
   have F2:=abm d;have M:w2.heap[w.heap.size]?=some (.cells Tryz.zeroCells119 119 (0,0)):=(F2.block w.heap.size (by omega) (by simp)).trans V;have R:=vX M rfl xH;have A:=vW (cs:=Tryz.zeroCells119) M;have z:aB [] w (w2.setRow w.heap.size Tryz.zeroCells119):=(L.above F2 (by intro x hx;simp at hx;omega)).above (aB.setRow _ _ _) (by simp);have f:=g;obtain⟨qp,hqp⟩:∃q:Option Addr,q=none:=⟨_,rfl⟩;clear M d F2 g PR;go_wp2
   (try simp only[Exit.inBlock,Exit.then])
   refine bodyPost_ret (bS rfl w.heap.size _ rfl (rY A jZ)) rfl ?_;rw[show akf w t=akf w t from rfl];refine⟨z,_,jZ,xH,by rw[i];rfl,λ_=>rfl,λe he=>?_⟩;rw[f]at he;simp at he
 | some e =>
   rw[g]at l;obtain⟨eb,iN,rfl,I,o6,X,d⟩:=l;obtain⟨jk,Bh⟩:=mQ g;have AY:=zM g;have qH:=ahn g;have U0:=Tz g;have F2:=abm d;have A:w2.heap[w.heap.size]?=some (.cells Tryz.zeroCells119 119 (0,0)):=(F2.block w.heap.size (by omega) (by simp)).trans V;have y:aB [] w w2:=L.above F2 (by intro x I;simp at I;omega);have PL:=Lb e _ w2 eb I AY (by omega);obtain⟨ip,Y,_⟩:=o6;have Z:=Y.c2;have f:=g;have z2:=F2.size;obtain⟨T,S,rfl⟩:=aW X;clear Y d F2 g PR;go_wp2_with fail
   refine PL.mono ?_;rintro en w2' ⟨rfl,rfl⟩
   by_cases lV:40<dI e
   .have i:gH t=6:=by simp[gH,f,lV]
    have R:=vX A rfl xH;have C:=vW (cs:=Tryz.zeroCells119) A;have z:aB [] w (w2.setRow w.heap.size Tryz.zeroCells119):=y.above (aB.setRow _ _ _) (by simp);clear PL;generalize dI e=pn at *;go_wp2
    (try simp only[Exit.inBlock,Exit.then])
    refine bodyPost_ret (bS rfl w.heap.size _ rfl (rY C jZ)) rfl ?_;refine⟨z,_,jZ,xH,by rw[i];rfl,λ_=>rfl,λe he B=>?_⟩;rw[i]at B;simp at B
   have AU:=Vx _ J.heap.size w2 eb e (.slice T (dB e).length S) (dB e) (kZ e) (yc e) I X (by omega) rfl rfl jk AY (by omega) (by omega) (by omega);have alN:dI e<=40:=by omega
   clear PL;have D:gH t=if (eu e).1 then 0 else 7:=by simp[gH,f,lV]
   generalize dI e=pn at *;go_wp2_with fail
   refine AU.mono ?_;intro en c m;cases j:(eu e).1 with
   | false =>
     obtain⟨r,rfl⟩:=m.no j;have i:gH t=7:=by rw[D,j];rfl
     have z3:=r.size;have O:=run_storeCells_new (P:=Tryz.prog) c 119 Tryz.zeroCells119 Tryz.zeroCells119 (by rw[jZ];exact H8) rfl xH;have s:(c.alloc (Obj.cells Tryz.zeroCells119 119)).heap[w.heap.size]?=some (.cells Tryz.zeroCells119 119 (0,0)):=by rw[((aB.refl [] c).alloc _).block w.heap.size (by omega) (by simp),r.block w.heap.size (by omega) (by simp)];exact A
     have R:=vX s rfl xH;have C:=vW (cs:=Tryz.zeroCells119) s;have z:aB [] w ((c.alloc (Obj.cells Tryz.zeroCells119 119)).setRow w.heap.size Tryz.zeroCells119):=((y.above r (by simp)).alloc _).above (aB.setRow _ _ _) (by simp);clear AU m j s Z;go_wp2
     (try simp only[Exit.inBlock,Exit.then])
     refine bodyPost_ret (bS rfl w.heap.size _ rfl (rY C jZ)) rfl ?_;refine⟨z,_,jZ,xH,by rw[i];rfl,λ_=>rfl,λe he B=>?_⟩;rw[i]at B;simp at B
   | true =>
     obtain⟨r,va,vn,rfl,H,E⟩:=m.ok j;obtain⟨G,ca,rfl⟩:=aW H;obtain⟨F,cn,rfl⟩:=aW E;have i:gH t=0:=by rw[D,j];rfl
     have z3:=r.size;have b:(Value.int .i64 (kZ e).length::(nv .u8 (yc e)++[.slice G ((eu e).2.1.map λu=>dK (dW (bn e) u)).length ca,.slice F (eu e).2.2.length cn])).toArray.size=259:=by have:(yc e).length=256:=adN;simp[nv,this]
     have n:(Value.int .i64 (kZ e).length::(nv .u8 (yc e)++[.slice G ((eu e).2.1.map λu=>dK (dW (bn e) u)).length ca,.slice F (eu e).2.2.length cn])).toArray.all (·.oneCell')=true:=by
      refine a2g.2 λv hv=>?_
      simp only[List.mem_toArray,a0l,a0e,nv,a0q,a1U,a2V]at hv;rcases hv with rfl|⟨a,_,rfl⟩|rfl|rfl<;>rfl
     have U:∀o cs,QL w.heap.size ((c.alloc o).setRow w.heap.size cs) (.slice G ((eu e).2.1.map λu=>dK (dW (bn e) u)).length ca) ((eu e).2.1.map λu=>dK (dW (bn e) u)):=λo cs=>BH (mO (fG H ((aB.refl [] c).alloc o) (by simp)) (aB.setRow _ _ cs) (λk j=>by have:=(H.lt k j).1;simp;omega)) (by omega)
     have W:∀o cs,IL w.heap.size ((c.alloc o).setRow w.heap.size cs) (.slice F (eu e).2.2.length cn) (eu e).2.2:=λo cs=>BH (mO (fG E ((aB.refl [] c).alloc o) (by simp)) (aB.setRow _ _ cs) (λk j=>by have:=(E.lt k j).1;simp;omega)) (by omega)
     have z:∀o cs,aB [] w ((c.alloc o).setRow w.heap.size cs):=λo cs=>((y.above r (by simp)).alloc _).above (aB.setRow _ _ _) (by simp)
     have PZ:∀o,(c.alloc o).heap[w.heap.size]?=some (.cells Tryz.zeroCells119 119 (0,0)):=λo=>by rw[((aB.refl [] c).alloc _).block w.heap.size (by omega) (by simp),r.block w.heap.size (by omega) (by simp)];exact A
     generalize pY:(Value.int .i64 (kZ e).length::(nv .u8 (yc e)++[.slice G ((eu e).2.1.map λu=>dK (dW (bn e) u)).length ca,.slice F (eu e).2.2.length cn])).toArray=cs at b n |-;have O:=run_storeCells_new (P:=Tryz.prog) c 119 Tryz.zeroCells119 cs (by rw[b];exact H8) (by rw[b,jZ]) n;have C:=vW (cs:=cs) (PZ (Obj.cells cs 119));have Qi:=vX (cs:=cs) (PZ (Obj.cells cs 119)) (by rw[b,jZ]) n;clear AU m j Z H E;go_wp2_with fail
     refine H9 (.tmp 6) rfl c.heap.size rfl cs (rY (bD c (Obj.cells cs 119)) b) ?_;have R:=Qi;go_wp2
     (try simp only[Exit.inBlock,Exit.then])
     refine bodyPost_ret (bS rfl w.heap.size _ rfl (rY C b)) rfl ?_;refine⟨z _ _,cs,b,n,by rw[i];rfl,λh=>absurd i h,λe2 he B=>?_⟩;have:e2=e:=by rw[f]at he;simpa using he.symm
     subst this;exact⟨_,_,pY.symm,U _ _,W _ _⟩
def RgQ(w:World)(t:LB)(en:Ending)(w':World):Prop :=
 aB [] w w'/\∃q:Option Addr,en=zQ #[.pointer q,zI (gH t)]/\(gH t=0->∃x n,fF t=some x/\q=some (zA n)/\RN w' n (gW x))
theorem afz(h:iQ (4*t.length+4) 0 [] t=none):fF t=none:=by unfold fF;rw[h]
theorem afA {c:UInt8} {r:LB}(h:iQ (4*t.length+4) 0 [] t=some (x,c::r)):fF t=none:=by unfold fF;rw[h]
def afB(h:iQ (4*t.length+4) 0 [] t=some (x,[])):fF t=some x:=by unfold fF;rw[h]
def Xg(t:LB)(w:World)(ht:t.length<=40):zF 43 #[zT t] w (RgQ w t):=by
 have T:=aT;have k0:({ data:=#[] }:ByteArray).toList=[]:=aT _;have C:QP (w.alloc (.cells #[zT t,.bool true] 144)) w.heap.size t true:=⟨bD _ _,by omega⟩;have D:aB [] w (w.alloc (.cells #[zT t,.bool true] 144)):=zJ;delta zF;go_in
 go_wp2_with fail
 refine ((ae6 (4*t.length+4)).1 w.heap.size 0 t _ C (by omega) (a0b _)).mono ?_;rintro e f ⟨q,r,ok,rfl,v,B,p⟩;have c0:=v.c0;have c1:=v.c1;have F1:aB [] w f:=D.above B (by intro x H;simp at H;omega);cases ok
 case false =>
  have b:gH t=5:=by
   rcases p with⟨h,_⟩|⟨_,h⟩
   .cases h
   simp[gH,afz h]
  go_wp2;go_ret2;exact⟨F1,none,by rw[b];rfl,λh=>by rw[b]at h;simp at h⟩
 case true =>
  obtain⟨y,n,k,hq,o⟩:∃y n,iQ (4*t.length+4) 0 [] t=some (y,r)/\q=some (zA n)/\RN f n (gW y):=by
   rcases p with⟨_,h⟩|⟨h,_⟩
   .exact h
   cases h
  subst hq;cases r with
  | cons c r =>
    have b:gH t=5:=by simp[gH,afA k]
    have P:((c::r) == [])=false:=rfl;go_wp2;go_ret2;exact⟨F1,none,by rw[b];rfl,λh=>by rw[b]at h;simp at h⟩
  | nil =>
    have a:=afB k;obtain⟨A,R⟩:=mQ a;have G:=zM a;have S:=Tz a;have PS:=qa (gW y);rw[Rx]at PS;have i:=PS.2;go_wp2_with fail
    refine (uE (gW y) f n o (Ii y G)).mono ?_;rintro e _ ⟨rfl,rfl⟩
    by_cases s:40<dI y
    .have b:gH t=6:=by simp[gH,a,s]
     have l:=i.2 s;rw[l];generalize (jQ (gW y)).1=pn at *;go_wp2;go_ret2;exact⟨F1,none,by rw[b];rfl,λh=>by rw[b]at h;simp at h⟩
    have d:dI y<=40:=by omega
    have l:=i.1 d;rw[l];have g:gH t=if (eu y).1 then 0 else 7:=by simp[gH,a,s]
    have F:=(acx f n (gW y) (bn y) (kZ y) o (by rw[Bz];omega) ⟨y,A,G,d,by omega,rfl⟩ (Fj y A) (by rw[Bz];rfl) (λu c I=>am7 a ht d u I c));generalize dI y=pn at *;go_wp2_with fail
    refine F.mono ?_;rintro e N ⟨m,rfl,O,j,z⟩;have F3:=F1.trans z;have M:=RN.aY (dX.of z) o
    by_cases E:40<m
    .have b:gH t=7:=by have:=j.1 E;rw[g];unfold eu;rw[this];rfl
     go_wp2;go_ret2;exact⟨F3,none,by rw[b];rfl,λh=>by rw[b]at h;simp at h⟩
    have b:gH t=0:=by
     have:(oC (bn y) (kZ y)).1=true:=by
      cases hh:(oC (bn y) (kZ y)).1
      .exact absurd (j.2 hh) E
      rfl
     rw[g];unfold eu;rw[this];rfl
    go_wp2;go_ret2;exact⟨F3,_,by rw[b];rfl,λ_=>⟨y,n,a,rfl,M⟩⟩
theorem Xh:∀(l:LB) (c:UInt8) (n:Int),l.all nG=true->nG c=true->Ap (l++[c]) n=10*Ap l n+c.toNat-48
 | [],c,n,_,b=>by simp[Ap,show lW c.toNat=true from b]
 | x::r,c,n,a,b=>by simp only[a1P,a0O]at a;have d:lW x.toNat=true:=a.1;simp only[a0L,Ap,d,a0G];exact Xh r c _ a.2 b
def mW(l:LB)(Z:l.length<=1048576) :
 zF 61 #[zT l] w λe w'=>e=zR (zI (iR l))/\w=w':=by
 have F:=bL l;have Bh:=aT;have k0:({ data:=#[] }:ByteArray).toList=[]:=aT [];have M:({ data:=#[48] }:ByteArray).toList=[48]:=aT [48];delta zF;go_in
 go_wp2;go_loopg [3,4] l.length (λk vn i wr=>∃(j:Nat) (x:Int),j+k=l.length/\i=zI j/\vn=zI x/\x=Ap (l.take j) 0/\0<=x/\x+1<=10 ^ j/\(l.take j).all nG=true/\(0<j->l.length<=5)/\wr=w)
 case atStart=>exact⟨0,0,by omega,rfl,rfl,rfl,by omega,by simp,by simp,by omega,rfl⟩
 case round =>
  obtain⟨j,x,hj,rfl,rfl,d,O,g,b,m,P⟩:=hrel;subst P;have G:=aj d;have u:=aj b;have V:=aj m;have f:l.length<=5->x<=99999:=by
   intro h;have:(10:Int) ^ j<=10 ^ 5:=by
    have:j<=5:=by omega
    rcases(show j=0\/j=1\/j=2\/j=3\/j=4\/j=5 by omega) with rfl|rfl|rfl|rfl|rfl|rfl<;>decide
   have:(10:Int) ^ 5=100000:=by decide
   omega
  have B:=aj f;have C:=aj g;clear d b m f g
  by_cases A:j<l.length
  .have J:(bs l)[j]'(by rw[F];omega)=l[j]:=rfl
   have H:Z_ (l.take (j+1)=l.take j++[l[j]]):=a0F A;have U:Z_ (l[j]∈l):=a0u A;have r:l.isEmpty=false:=by
    cases l with
    | nil=>exact absurd A (Nat.not_lt_zero _)
    | cons=>rfl
   generalize l[j]=c at *;have Y:=u8i c;go_wp2_with fail
   refine(vR c xu _ (by decide)).mono ?_;rintro e w' ⟨rfl,rfl⟩;have q:=aj (Pk c)
   by_cases m:5<l.length
   .have a:Z_ (iR l=-1):=by
     show _=_;unfold iR;rw[r];simp[m]
    have y:decide ((5:Int)<(l.length:Int))=true:=a0g (by omega);cases z:oM xu c
    all_goals
     go_wp2;go_ret;exact⟨mJ a.o.symm,rfl⟩
   have y:decide ((5:Int)<(l.length:Int))=false:=a0f (by omega);cases z:oM xu c
   .have a:Z_ (iR l=-1):=by
     show _=_;have:l.all nG=false:=by
      rw[a2p];intro S;have:=a1d.1 S c U;unfold nG at this;rw[<-q.o,z]at this;cases this
     unfold iR;rw[r,this];simp
    go_wp2;go_ret;exact⟨mJ a.o.symm,rfl⟩
   have s:nG c=true:=by unfold nG;rw[<-q.o];exact z
   have L:48<=(c.toNat:Int)/\(c.toNat:Int)<=57:=by simpa[nG,lW] using s
   have I:Z_ ((l.take (j+1)).all nG=true):=by
    show _=_;rw[H.o,a2c,u.o];simp[s]
   have N:Z_ (10*x+c.toNat-48=Ap (l.take (j+1)) 0):=by
    show _=_;rw[H.o,Xh _ _ _ u.o s,<-G.o]
   have Yr:=B.o (by omega);obtain⟨X,W⟩:=L;clear s;go_wp2;go_roundg (gk-1)
   case measure=>omega
   case rel =>
    refine⟨j+1,10*x+c.toNat-48,by omega,by go_num,rfl,N,by omega,?_,I,λ_=>by omega,rfl⟩;have:=C.o;rw[Int.pow_succ];omega
  have b:=u.o;have d:=G.o;rw[a0C (by omega)]at b d
  by_cases t:l=[]
  .subst t
   have a:Z_ (iR []=-1):=rfl;have R:(([]:LB) == [])=true:=rfl;clear b d;go_wp2;go_ret;exact⟨mJ a.o.symm,rfl⟩
  have r:l.isEmpty=false:=by
   cases l with
   | nil=>exact absurd rfl t
   | cons=>rfl
  have T:0<l.length:=a1O.2 t;have bJ:(l == [])=false:=by simp[t]
  have J:(bs l)[0]'(by rw[F];omega)=l[0]:=rfl;have D:Z_ (hd l=(l[0].toNat:Int)):=EP l 0 T;generalize l[0]=c at *;have m:=V.o (by omega);have E:Z_ (iR l=if (hd l==48)&&!(l == [48]) then -1 else Ap l 0):=by
   show _=_;unfold iR;rw[r,b];simp[show ¬ 5<l.length by omega]
  have p:=aj d;clear b d;cases v:((c.toNat:Int)==48)
  .have a:Z_ (iR l=x):=by
    show _=_;rw[E.o,D.o,v,p.o];rfl
   go_wp2;go_ret;exact⟨mJ a.o.symm,rfl⟩
  cases n:(l == [48])
  .have a:Z_ (iR l=-1):=by
    show _=_;rw[E.o,D.o,v,n];rfl
   go_wp2;go_ret;exact⟨mJ a.o.symm,rfl⟩
  have a:Z_ (iR l=x):=by
   show _=_;rw[E.o,D.o,v,n,p.o];rfl
  go_wp2;go_ret;exact⟨mJ a.o.symm,rfl⟩
def jy(q:Bool)(c:UInt8):Nat->LB->Bool->LB->List LB->List LB
 | 0,_,_,t,out=>out++[t]
 | _+1,[],_,t,out=>out++[t]
 | k+1,x::r,i0,t,out =>
   let i1:=if q&&x==34 then !i0 else i0
   if i1&&x==92&&!(r.isEmpty) then jy q c k (r.drop 1) i1 (t++([x]++r.take 1)) out
   else if x==c&&!i1 then jy q c k r i1 [] (out++[t])
   else jy q c k r i1 (t++[x]) out
def dU(q:Bool)(c:UInt8)(l:LB):List LB:=jy q c (l.length+1) l false [] []
end
end
section
variable {x y:Value} {w w':World} {b cap n rb:Nat} {S:LN} {W xs:List LB} {v:Value}
def Lj(l:LB)(c:UInt8)(q:Bool)(w:World)(hl:l.length<=100000) :
 zF 40 #[zT l,.int .u8 c.toNat,.bool q] w λe w'=>∃v,e=zR v/\SL w.heap.size w' v (dU q c l)/\aB [] w w':=by
 have eG:=bL;have NU:=mf;have hx:=tF l;delta zF;go_in
 go_wp2;go_loopg [7,8,9,10] (l.length+1) (λk W Y vt X wr=>∃(j:Nat) (u:Bool) (t:LB) (out:List LB),j<=l.length/\l.length+1<=j+k/\X=zI j/\Y=.bool u/\vt=zT t/\t.length<=j/\out.length<=j/\SL w.heap.size wr W out/\jy q c k (l.drop j) u t out=dU q c l/\aB [] w wr)
 case atStart=>exact⟨0,false,[],[],by omega,by omega,rfl,rfl,rfl,by simp,by simp,SL.nil _ _,rfl,zK⟩
 case round =>
  obtain⟨j,u,t,out,mK,D,rfl,rfl,rfl,Bh,hol,f,M,o⟩:=hrel;obtain⟨a,cap,Z⟩:=f.shape;subst Z;have hz:=o.size;obtain⟨m,rfl⟩:∃m,gk=m+1:=⟨gk-1,by omega⟩
  by_cases V:j<l.length
  .have zt:(bs l)[j]'(by rw[eG];omega)=l[j]:=rfl
   have T:l.drop j=l[j]::l.drop (j+1):=a0k V;have C:List.drop j (List.take (j+1) l)=[l[j]]:=by rw[a0F V,a1N (by simp;omega),a0i (by simp;omega)];rfl
   have G:j+1<l.length->List.drop j (List.take (j+2) l)=[l[j]]++(l.drop (j+1)).take 1:=by
    intro h2;rw[List.drop_take,show j+2-j=2 by omega,T]
    rfl
   generalize l[j]=x at *;have i:=my x c;have y:((x.toNat:Int)==34)=(x==34):=my x 34;have H:((x.toNat:Int)==92)=(x==92):=my x 92;have p:dU q c l=(let s:=if q&&x==34 then !u else u
    if s&&x==92&&!((l.drop (j+1)).isEmpty) then jy q c m ((l.drop (j+1)).drop 1) s (t++([x]++(l.drop (j+1)).take 1)) out
    else if x==c&&!s then jy q c m (l.drop (j+1)) s [] (out++[t])
    else jy q c m (l.drop (j+1)) s (t++[x]) out):=by
    rw[<-M,T];rfl
   obtain⟨s,r⟩:∃s,s=(if q&&x==34 then !u else u):=⟨_,rfl⟩;rw[<-r]at p;clear M T;have R:(q=false/\u=false)\/(q=false/\u=true)\/(q=true/\(x==34)=false/\u=false)\/(q=true/\(x==34)=false/\u=true)\/(q=true/\(x==34)=true/\u=false)\/(q=true/\(x==34)=true/\u=true):=by cases q<;>cases u<;>cases (x==34)<;>simp
   rcases R with⟨hq,z⟩|⟨hq,z⟩|⟨hq,B,z⟩|⟨hq,B,z⟩|⟨hq,B,z⟩|⟨hq,B,z⟩
   ·
    subst hq z;have g:s=false:=by rw[r];simp
    cases b:(x==c)
    .rw[b]at i
     have d:jy false c m (l.drop (j+1)) false (t++[x]) out=dU false c l:=by rw[p,g];simp[b]
     have he:=C;go_wp2;go_roundg m
     case measure=>omega
     case rel=>exact⟨j+1,false,t++[x],out,by omega,by omega,by go_num,rfl,by simp,by simp;omega,by omega,f,d,o⟩
    rw[b]at i;have d:jy false c m (l.drop (j+1)) false [] (out++[t])=dU false c l:=by rw[p,g];simp[b]
    go_wp2_with (first | (at_builtin;refine rA rfl rfl w.heap.size (.slice a out.length cap) out t wr.heap.size rfl (f.aC zG (by simp)) rfl (by simp) (by omega) (by simp;omega) ?_;intro P S N E F O))
    go_roundg m
    case measure=>omega
    case rel=>exact⟨j+1,false,[],out++[t],by omega,by omega,by go_num,rfl,rfl,by simp,by simp;omega,by simpa using E,d,(o.alloc _).grown F (λk D=>Or.inr (f.lt k D).1)⟩
   ·
    subst hq z;have g:s=true:=by rw[r];simp
    cases n:(x==92)
    .rw[n]at H
     cases b:(x==c)
     rw[b]at i
     rotate_left
     rw[b]at i
     all_goals
      have d:jy false c m (l.drop (j+1)) true (t++[x]) out=dU false c l:=by rw[p,g];simp[n]
      have he:=C;go_wp2;go_roundg m
      case measure=>omega
      case rel=>exact⟨j+1,true,t++[x],out,by omega,by omega,by go_num,rfl,by simp,by simp;omega,by omega,f,d,o⟩
    rw[n]at H
    by_cases L:j+1<l.length
    .have J:decide ((j:Int)+1<(l.length:Int))=true:=a0g (by omega)
     have A:(l.drop (j+1)).isEmpty=false:=by rw[a3s];intro h;have:=congrArg List.length h;simp at this;omega
     have d:jy false c m (l.drop (j+2)) true (t++([x]++(l.drop (j+1)).take 1)) out=dU false c l:=by rw[p,g];simp[n,A]
     have he:=G L;have U:((l.drop (j+1)).take 1).length=1:=by simp;omega
     generalize (l.drop (j+1)).take 1=I at *;go_wp2;go_roundg m
     case measure=>omega
     case rel=>exact⟨j+2,true,t++([x]++I),out,by omega,by omega,by go_num,rfl,by simp,by simp;omega,by omega,f,d,o⟩
    have J:decide ((j:Int)+1<(l.length:Int))=false:=a0f (by omega);have A:(l.drop (j+1)).isEmpty=true:=by rw[List.isEmpty_iff];exact a0i (by omega)
    cases b:(x==c)
    rw[b]at i
    rotate_left
    rw[b]at i
    all_goals
     have d:jy false c m (l.drop (j+1)) true (t++[x]) out=dU false c l:=by rw[p,g];simp[n,A]
     have he:=C;go_wp2;go_roundg m
     case measure=>omega
     case rel=>exact⟨j+1,true,t++[x],out,by omega,by omega,by go_num,rfl,by simp,by simp;omega,by omega,f,d,o⟩
   ·
    subst hq z;rw[B]at y;have g:s=false:=by rw[r];simp[B]
    cases b:(x==c)
    .rw[b]at i
     have d:jy true c m (l.drop (j+1)) false (t++[x]) out=dU true c l:=by rw[p,g];simp[b]
     have he:=C;go_wp2;go_roundg m
     case measure=>omega
     case rel=>exact⟨j+1,false,t++[x],out,by omega,by omega,by go_num,rfl,by simp,by simp;omega,by omega,f,d,o⟩
    rw[b]at i;have d:jy true c m (l.drop (j+1)) false [] (out++[t])=dU true c l:=by rw[p,g];simp[b]
    go_wp2_with (first | (at_builtin;refine rA rfl rfl w.heap.size (.slice a out.length cap) out t wr.heap.size rfl (f.aC zG (by simp)) rfl (by simp) (by omega) (by simp;omega) ?_;intro P S N E F O))
    go_roundg m
    case measure=>omega
    case rel=>exact⟨j+1,false,[],out++[t],by omega,by omega,by go_num,rfl,rfl,by simp,by simp;omega,by simpa using E,d,(o.alloc _).grown F (λk D=>Or.inr (f.lt k D).1)⟩
   ·
    subst hq z;rw[B]at y;have g:s=true:=by rw[r];simp[B]
    cases n:(x==92)
    .rw[n]at H
     cases b:(x==c)
     rw[b]at i
     rotate_left
     rw[b]at i
     all_goals
      have d:jy true c m (l.drop (j+1)) true (t++[x]) out=dU true c l:=by rw[p,g];simp[n]
      have he:=C;go_wp2;go_roundg m
      case measure=>omega
      case rel=>exact⟨j+1,true,t++[x],out,by omega,by omega,by go_num,rfl,by simp,by simp;omega,by omega,f,d,o⟩
    rw[n]at H
    by_cases L:j+1<l.length
    .have J:decide ((j:Int)+1<(l.length:Int))=true:=a0g (by omega)
     have A:(l.drop (j+1)).isEmpty=false:=by rw[a3s];intro h;have:=congrArg List.length h;simp at this;omega
     have d:jy true c m (l.drop (j+2)) true (t++([x]++(l.drop (j+1)).take 1)) out=dU true c l:=by rw[p,g];simp[n,A]
     have he:=G L;have U:((l.drop (j+1)).take 1).length=1:=by simp;omega
     generalize (l.drop (j+1)).take 1=I at *;go_wp2;go_roundg m
     case measure=>omega
     case rel=>exact⟨j+2,true,t++([x]++I),out,by omega,by omega,by go_num,rfl,by simp,by simp;omega,by omega,f,d,o⟩
    have J:decide ((j:Int)+1<(l.length:Int))=false:=a0f (by omega);have A:(l.drop (j+1)).isEmpty=true:=by rw[List.isEmpty_iff];exact a0i (by omega)
    cases b:(x==c)
    rw[b]at i
    rotate_left
    rw[b]at i
    all_goals
     have d:jy true c m (l.drop (j+1)) true (t++[x]) out=dU true c l:=by rw[p,g];simp[n,A]
     have he:=C;go_wp2;go_roundg m
     case measure=>omega
     case rel=>exact⟨j+1,true,t++[x],out,by omega,by omega,by go_num,rfl,by simp,by simp;omega,by omega,f,d,o⟩
   ·
    subst hq z;rw[B]at y;have g:s=true:=by rw[r];simp[B]
    cases n:(x==92)
    .rw[n]at H
     cases b:(x==c)
     rw[b]at i
     rotate_left
     rw[b]at i
     all_goals
      have d:jy true c m (l.drop (j+1)) true (t++[x]) out=dU true c l:=by rw[p,g];simp[n]
      have he:=C;go_wp2;go_roundg m
      case measure=>omega
      case rel=>exact⟨j+1,true,t++[x],out,by omega,by omega,by go_num,rfl,by simp,by simp;omega,by omega,f,d,o⟩
    rw[n]at H
    by_cases L:j+1<l.length
    .have J:decide ((j:Int)+1<(l.length:Int))=true:=a0g (by omega)
     have A:(l.drop (j+1)).isEmpty=false:=by rw[a3s];intro h;have:=congrArg List.length h;simp at this;omega
     have d:jy true c m (l.drop (j+2)) true (t++([x]++(l.drop (j+1)).take 1)) out=dU true c l:=by rw[p,g];simp[n,A]
     have he:=G L;have U:((l.drop (j+1)).take 1).length=1:=by simp;omega
     generalize (l.drop (j+1)).take 1=I at *;go_wp2;go_roundg m
     case measure=>omega
     case rel=>exact⟨j+2,true,t++([x]++I),out,by omega,by omega,by go_num,rfl,by simp,by simp;omega,by omega,f,d,o⟩
    have J:decide ((j:Int)+1<(l.length:Int))=false:=a0f (by omega);have A:(l.drop (j+1)).isEmpty=true:=by rw[List.isEmpty_iff];exact a0i (by omega)
    cases b:(x==c)
    rw[b]at i
    rotate_left
    rw[b]at i
    all_goals
     have d:jy true c m (l.drop (j+1)) true (t++[x]) out=dU true c l:=by rw[p,g];simp[n,A]
     have he:=C;go_wp2;go_roundg m
     case measure=>omega
     case rel=>exact⟨j+1,true,t++[x],out,by omega,by omega,by go_num,rfl,by simp,by simp;omega,by omega,f,d,o⟩
   -- q true x34 true in true
   subst hq z;rw[B]at y;have g:s=false:=by rw[r];simp[B]
   cases b:(x==c)
   .rw[b]at i
    have d:jy true c m (l.drop (j+1)) false (t++[x]) out=dU true c l:=by rw[p,g];simp[b]
    have he:=C;go_wp2;go_roundg m
    case measure=>omega
    case rel=>exact⟨j+1,false,t++[x],out,by omega,by omega,by go_num,rfl,by simp,by simp;omega,by omega,f,d,o⟩
   rw[b]at i;have d:jy true c m (l.drop (j+1)) false [] (out++[t])=dU true c l:=by rw[p,g];simp[b]
   go_wp2_with (first | (at_builtin;refine rA rfl rfl w.heap.size (.slice a out.length cap) out t wr.heap.size rfl (f.aC zG (by simp)) rfl (by simp) (by omega) (by simp;omega) ?_;intro P S N E F O))
   go_roundg m
   case measure=>omega
   case rel=>exact⟨j+1,false,[],out++[t],by omega,by omega,by go_num,rfl,rfl,by simp,by simp;omega,by simpa using E,d,(o.alloc _).grown F (λk D=>Or.inr (f.lt k D).1)⟩
  have Hx:dU q c l=out++[t]:=by rw[<-M,a0i (by omega)];rfl
  clear M;go_wp2_with (first | (at_builtin;refine rA rfl rfl w.heap.size (.slice a out.length cap) out t wr.heap.size rfl (f.aC zG (by simp)) rfl (by simp) (by omega) (by simp;omega) ?_;intro P S N E F O))
  go_ret;rw[Hx];exact⟨_,rfl,E,(o.alloc _).grown F (λk D=>Or.inr (f.lt k D).1)⟩
def dR:Nat->LB->LB->Option LB
 | 0,_,_=>none
 | _+1,[],v=>some v
 | k+1,c::r,v =>
   if c==34||!(mR c.toNat) then none
   else if c==92 then
    (match r with
     | []=>none
     | d::a =>
       if d==120 then
        (match a with
         | h::o::b=>if decide (lL h<0)||decide (lL o<0) then none else dR k b (v++[UInt8.ofNat (16*lL h+lL o).toNat])
         | _=>none)
       else if !(d==34)&&!(d==92) then none else dR k a (v++[d]))
   else dR k r (v++[c])
def gV(l:LB):LB × Bool :=
 if decide (l.length<2)||!(hd l==34)||!(l.getLast?==some 34) then ([],false)
 else match dR l.length ((l.take (l.length-1)).drop 1) [] with
  | none=>([],false)
  | some v=>(v,decide (v.length<=40))
def auX {x y:LB} {p q:Bool}(h:x=y)(a:p=q):Ending.returned (.tuple #[zT x,.bool p])=zQ #[zT y,.bool q]:=by rw[h,a]
def vI(l:LB)(hl:l.length<=100000) :
 zF 94 #[zT l] w λe w'=>e=zQ #[.string (bs (gV l).1),.bool (gV l).2]/\aB [] w w':=by
 have eG:=bL;have NU:=mf
 by_cases h2:l.length<2
 .have f:Z_ (gV l=([],false)):=by show _=_;unfold gV;simp[h2]
  have ll:decide ((l.length:Int)<2)=true:=a0g (by omega);delta zF;go_in
  go_wp2;go_ret2;rw[f.o];exact⟨rfl,aB.refl _ _⟩
 have ll:decide ((l.length:Int)<2)=false:=a0f (by omega);have kM:(bs l)[0]'(by rw[eG];omega)=l[0]:=rfl;have O:(bs l)[l.length-1]'(by rw[eG];omega)=l[l.length-1]:=rfl;have Hh:Z_ (hd l=(l[0].toNat:Int)):=EP l 0 (by omega);have W:Z_ (l.getLast?=some l[l.length-1]):=by
  show _=_;rw[List.getLast?_eq_getElem?,a0a]
 have A:Z_ (∀j (h:j<l.length),(bs l)[j]'(by rw[eG];exact h)=l[j]):=λj h=>rfl
 generalize Vz:l[0]=c0 at kM Hh;generalize KH:l[l.length-1]=cn at O W;clear Vz KH;have P:((c0.toNat:Int)==34)=(c0==34):=my c0 34;have en:((cn.toNat:Int)==34)=(cn==34):=my cn 34;have axS:((l.length:Int)-1)=((l.length-1:Nat):Int):=by omega
 have Hu:Z_ (gV l=if !(c0==34)||!(cn==34) then ([],false) else match dR l.length ((l.take (l.length-1)).drop 1) [] with
  | none=>([],false)
  | some v=>(v,decide (v.length<=40))):=by
  show _=_;unfold gV;rw[Hh.o,P,W.o];have:(some cn==some (34:UInt8))=(cn==34):=rfl;rw[this,a0f (by omega)];simp only[a3l];all_goals rfl
 cases Z:(c0==34)
 .rw[Z]at P
  have e0':((c0.toNat:Int) != 34)=true:=by unfold bne;rw[P];rfl
  have f:Z_ (gV l=([],false)):=by show _=_;rw[Hu.o,Z];rfl
  delta zF;go_in
  go_wp2;go_ret2;rw[f.o];exact⟨rfl,aB.refl _ _⟩
 rw[Z]at P;have e0':((c0.toNat:Int) != 34)=false:=by unfold bne;rw[P];rfl
 cases Y:(cn==34)
 .rw[Y]at en
  have en':((cn.toNat:Int) != 34)=true:=by unfold bne;rw[en];rfl
  have f:Z_ (gV l=([],false)):=by show _=_;rw[Hu.o,Y];simp
  delta zF;go_in
  go_wp2;go_ret2;rw[f.o];exact⟨rfl,aB.refl _ _⟩
 rw[Y]at en;have en':((cn.toNat:Int) != 34)=false:=by unfold bne;rw[en];rfl
 have V:Z_ (gV l=match dR l.length ((l.take (l.length-1)).drop 1) [] with
  | none=>([],false)
  | some v=>(v,decide (v.length<=40))):=by show _=_;rw[Hu.o,Z,Y];rfl
 have D:Z_ (dR l.length ((l.take (l.length-1)).drop 1) []=none->gV l=([],false)):=λh=>by rw[V.o,h]
 clear Hu;delta zF;go_in
 go_wp2;go_loopg [5,6] l.length (λk vv vi wr=>∃(j:Nat) (v:LB),1<=j/\j+1<=l.length/\l.length<=j+k/\vi=zI j/\vv=zT v/\v.length<=j/\dR k ((l.take (l.length-1)).drop j) v=dR l.length ((l.take (l.length-1)).drop 1) []/\aB [] w wr)
 case atStart=>exact⟨1,[],by omega,by omega,by omega,rfl,rfl,by simp,rfl,aB.refl _ _⟩
 case round =>
  obtain⟨j,v,hj1,mK,hk,rfl,rfl,Af,iD,bH⟩:=hrel;have u:=aj iD;have p:=aj bH;clear iD bH kM O;obtain⟨m,rfl⟩:∃m,gk=m+1:=⟨gk-1,by omega⟩;have S:∀i (h:i<l.length-1),(l.take (l.length-1)).drop i=l[i]::(l.take (l.length-1)).drop (i+1):=by
   intro i h;rw[a0k (by simp;omega)];simp
  have DC:=aj S;clear S
  by_cases aL:j<l.length-1
  .have zt:=A.o j (by omega)
   have y:=aj (DC.o j aL);generalize l[j]=c at *;have hu:=u8i c;have B:((c.toNat:Int)==34)=(c==34):=my c 34;have Jm:((c.toNat:Int)==92)=(c==92):=my c 92;have s:=MS wr c;cases q:(c==34)
   case true =>
    rw[q]at B;have f:Z_ (gV l=([],false)):=D.o (by rw[<-u.o,y.o];unfold dR;rw[q];rfl);go_wp2;go_ret2;rw[f.o];exact⟨rfl,p⟩
   case false =>
   rw[q]at B
   by_cases jU:(c.toNat:Int)<32
   .have g:mR c.toNat=false:=by unfold mR;simp;omega
    have f:Z_ (gV l=([],false)):=D.o (by rw[<-u.o,y.o];unfold dR;rw[q,g];rfl);go_wp2;go_ret2;rw[f.o];exact⟨rfl,p⟩
   by_cases yn:126<(c.toNat:Int)
   .have g:mR c.toNat=false:=by unfold mR;simp;omega
    have f:Z_ (gV l=([],false)):=D.o (by rw[<-u.o,y.o];unfold dR;rw[q,g];rfl);go_wp2;go_ret2;rw[f.o];exact⟨rfl,p⟩
   have g:mR c.toNat=true:=by unfold mR;simp;omega
   cases z:(c==92)
   case false =>
    rw[z]at Jm;have E:Z_ (dR m ((l.take (l.length-1)).drop (j+1)) (v++[c])=dR l.length ((l.take (l.length-1)).drop 1) []):=by
     show _=_;rw[<-u.o,y.o];conv=>rhs;unfold dR
     rw[q,g,z];rfl
    clear g;go_wp2;go_roundg m
    case measure=>omega
    case rel=>exact⟨j+1,v++[c],by omega,by omega,by omega,by go_num,rfl,by simp;omega,E,p.o.alloc _⟩
   case true =>
   rw[z]at Jm;clear s
   by_cases zX:j+1<l.length-1
   case neg =>
    have U:(l.take (l.length-1)).drop (j+1)=[]:=a0i (by simp;omega);have G:=aj U;have hge:(l.length:Int)-1<=(j:Int)+1:=by omega
    have Hp:=aj g;clear U g;have f:Z_ (gV l=([],false)):=D.o (by rw[<-u.o,y.o];unfold dR;rw[q,Hp.o,z,G.o];rfl);go_wp2;go_ret2;rw[f.o];exact⟨rfl,p⟩
   case pos =>
   have ayu:=A.o (j+1) (by omega);have x:=aj (DC.o (j+1) zX);generalize l[j+1]=d at *;have hud:=u8i d;have R:((d.toNat:Int)==120)=(d==120):=my d 120;have n:((d.toNat:Int)==34)=(d==34):=my d 34;have t:((d.toNat:Int)==92)=(d==92):=my d 92;cases C:(d==120)
   case false =>
    rw[C]at R;cases T:(d==34)
    .rw[T]at n
     have auY:((d.toNat:Int) != 34)=true:=by unfold bne;rw[n];rfl
     cases X:(d==92)
     .rw[X]at t
      have auZ:((d.toNat:Int) != 92)=true:=by unfold bne;rw[t];rfl
      have Hp:=aj g;clear g;have f:Z_ (gV l=([],false)):=D.o (by rw[<-u.o,y.o];unfold dR;rw[q,Hp.o,z,x.o];simp[C,T,X]);go_wp2;go_ret2;rw[f.o];exact⟨rfl,p⟩
     rw[X]at t;have auZ:((d.toNat:Int) != 92)=false:=by unfold bne;rw[t];rfl
     have s:=MS wr d;have E:Z_ (dR m ((l.take (l.length-1)).drop (j+2)) (v++[d])=dR l.length ((l.take (l.length-1)).drop 1) []):=by
      show _=_;rw[<-u.o,y.o,x.o];conv=>rhs;unfold dR
      rw[q,g,z];simp[C,T,X]
     clear g;go_wp2;go_roundg m
     case measure=>omega
     case rel=>exact⟨j+2,v++[d],by omega,by omega,by omega,by go_num,rfl,by simp;omega,E,p.o.alloc _⟩
    rw[T]at n;have auY:((d.toNat:Int) != 34)=false:=by unfold bne;rw[n];rfl
    have s:=MS wr d;have E:Z_ (dR m ((l.take (l.length-1)).drop (j+2)) (v++[d])=dR l.length ((l.take (l.length-1)).drop 1) []):=by
     show _=_;rw[<-u.o,y.o,x.o];conv=>rhs;unfold dR
     rw[q,g,z];simp[C,T]
    clear g;go_wp2;go_roundg m
    case measure=>omega
    case rel=>exact⟨j+2,v++[d],by omega,by omega,by omega,by go_num,rfl,by simp;omega,E,p.o.alloc _⟩
   case true =>
   rw[C]at R;clear n t
   by_cases Ze:j+4<=l.length-1
   case neg =>
    have U:dR (m+1) (c::d::(l.take (l.length-1)).drop (j+1+1)) v=none:=by
     unfold dR;rw[q,g,z];have hlen:((l.take (l.length-1)).drop (j+1+1)).length<=1:=by simp;omega
     match hm:(l.take (l.length-1)).drop (j+1+1) with
     | []=>simp[C]
     | [a]=>simp[C]
     | a::b::r=>rw[hm]at hlen;simp at hlen
    have dZ:(l.length:Int)-1<(j:Int)+1+1+2:=by omega
    have G:=aj U;clear g U;have f:Z_ (gV l=([],false)):=D.o (by rw[<-u.o,y.o];rw[x.o];exact G);go_wp2;go_ret2;rw[f.o];exact⟨rfl,p⟩
   case pos =>
   have aos:=A.o (j+1+1) (by omega);have ayv:=A.o (j+1+1+1) (by omega);have Am:=aj (DC.o (j+1+1) (by omega));have Hd3:=aj (DC.o (j+1+1+1) (by omega));generalize l[j+1+1]=L at *;generalize l[j+1+1+1]=J at *;have hle:¬ ((l.length:Int)-1<(j:Int)+1+1+2):=by omega
   have b1:=ag3 L;have b2:=ag3 J;obtain⟨b11,b12⟩:=b1;obtain⟨b21,b22⟩:=b2;have F:Z_ (dR l.length ((l.take (l.length-1)).drop 1) []=if decide (lL L<0)||decide (lL J<0) then none else dR m ((l.take (l.length-1)).drop (j+4)) (v++[UInt8.ofNat (16*lL L+lL J).toNat])):=by
    show _=_;rw[<-u.o,y.o,x.o,Am.o,Hd3.o];conv=>lhs;unfold dR
    rw[q,g,z];simp[C]
   clear g;go_wp2_with fail
   refine(aaw L).mono ?_;rintro e w' ⟨rfl,rfl⟩;go_wp2_with fail
   refine(aaw J).mono ?_;rintro e w' ⟨rfl,rfl⟩;generalize lL L=I at *;generalize lL J=H at *
   by_cases N:I<0
   .have f:Z_ (gV l=([],false)):=D.o (by rw[F.o];simp[N])
    go_wp2;go_ret2;rw[f.o];exact⟨rfl,p⟩
   by_cases M:H<0
   .have f:Z_ (gV l=([],false)):=D.o (by rw[F.o];simp[M])
    go_wp2;go_ret2;rw[f.o];exact⟨rfl,p⟩
   have E:Z_ (dR m ((l.take (l.length-1)).drop (j+4)) (v++[UInt8.ofNat (16*I+H).toNat])=dR l.length ((l.take (l.length-1)).drop 1) []):=by
    show _=_;rw[F.o];simp[N,M]
   have xL:((UInt8.ofNat (16*I+H).toNat).toNat:Int)=16*I+H:=by
    rw[UInt8.toNat_ofNat'];omega
   have s:=MS wr (UInt8.ofNat (16*I+H).toNat);rw[xL]at s;clear xL;generalize UInt8.ofNat (16*I+H).toNat=Ci at *;go_wp2;go_roundg m
   case measure=>omega
   case rel=>exact⟨j+4,v++[Ci],by omega,by omega,by omega,by go_num,rfl,by simp;omega,E,p.o.alloc _⟩
  have qI:j=l.length-1:=by omega
  have f:Z_ (gV l=(v,decide (v.length<=40))):=by
   show _=_;rw[V.o,<-u.o,a0i (by simp;omega)];rfl
  have qd:decide ((v.length:Int)<=40)=decide (v.length<=40):=by
   rw[a0T,a1E,a1E];omega
  have Hdd:=aj qd;clear qd qI;go_wp2;go_ret2;rw[f.o];exact⟨auX rfl Hdd,p⟩
abbrev RM:=LB × LB × LB
def qy(c:UInt8):Bool:=!(c==61)&&!(c==33)
def ui(r:LB):Bool:=decide (1<r.length)&&((r.take 2 == [61,126])||(r.take 2 == [33,126])||(r.take 2 == [33,61]))
def CJ(r:LB):Bool:=decide (0<r.length)&&(hd r==61)
def rV(l:LB):RM × Bool :=
 let n:=l.takeWhile qy
 let r:=l.dropWhile qy
 if ui r then ((n,r.take 2,(gV (r.drop 2)).1),(gV (r.drop 2)).2&&aJ n)
 else if CJ r then ((n,r.take 1,(gV (r.drop 1)).1),(gV (r.drop 1)).2&&aJ n)
 else ((n,[],[]),false)
structure CO(w:World)(b:Nat)(m:RM):Prop where
 h:w.heap[b]?=some (.cells #[zT m.1,zT m.2.1,zT m.2.2,.pointer none] 108 (0,0))
theorem CO.lt {m:RM}(h:CO w b m):b<w.heap.size:=(a0c.1 h.h).1
theorem CO.cell {m:RM}(h:CO w b m)(o:Nat):w.cell? (zB b o)=(#[zT m.1,zT m.2.1,zT m.2.2,.pointer none]:Array Value)[o]?:=by simp[World.cell?,h.h]
theorem CO.fz {m:RM}(h:CO w b m)(o:Nat):w.frozen? (zB b o)=false:=by simp[World.frozen?,h.h]
theorem CO.aC {m:RM}(h:CO w b m)(f:aB S w w')(a:b∉S):CO w' b m:=⟨(f.block b h.lt a).trans h.h⟩
theorem CO.set {m:RM}(h:CO w b m)(o:Nat)(v:Value)(a:RM)(e:(#[zT a.1,zT a.2.1,zT a.2.2,.pointer none]:Array Value)=(#[zT m.1,zT m.2.1,zT m.2.2,.pointer none]:Array Value).setIfInBounds o v):CO (w.setCell (zB b o) v) b a:=by refine⟨?_⟩;rw[e];simp[World.setCell,a0v,h.h]
def CO.Lm {m:RM}(h:CO w b m)(a:RM):CO ((((w.setCell (zA b) (zT a.1)).setCell (zB b 1) (zT a.2.1)).setCell (zB b 2) (zT a.2.2)).setCell (zB b 3) (.pointer none)) b a :=
 (((h.set 0 _ (a.1,m.2.1,m.2.2) rfl).set 1 _ (a.1,a.2.1,m.2.2) rfl).set 2 _ (a.1,a.2.1,a.2.2) rfl).set 3 _ a rfl
def aB.Lm{a:World}(h:aB S a w)(hb:rb∈S\/a.heap.size<=rb)(e d c b:Value):aB S a ((((w.setCell (zA rb) e).setCell (zB rb 1) d).setCell (zB rb 2) c).setCell (zB rb 3) b) :=
 (((h.setCell hb _).setCell hb _).setCell hb _).setCell hb _
def ifV(m:RM):Value:=.agg #[zT m.1,zT m.2.1,zT m.2.2,.pointer none]
theorem aqg {m:RM}(h:CO w b m):(loadVar 108 (zA b)).run Tryz.prog w=.ok (ifV m) w:=by have e:zC w b 0 (zT m.1):=h.cell 0;have d:zC w b 1 (zT m.2.1):=h.cell 1;have c:zC w b 2 (zT m.2.2):=h.cell 2;have a:zC w b 3 (.pointer none):=h.cell 3;simp[go_sem,ifV,e,d,c,a]
def jO {m:RM} {ok:Bool} {tmps:Array Value}(h:CO w rb m)(b:tmps.getD 2 undef=zP rb)(a:tmps.getD 3 undef=.bool ok) :
 (results Tryz.f78 tmps).run Tryz.prog w=.ok (.tuple #[ifV m,.bool ok]) w:=by
 rw[results_cell_tmp Tryz.results78,b,a];simp[asAddr,aqg h]
def adP {l:LB} {c:UInt8} {r:LB}(h:l=c::r):hd l=(c.toNat:Int):=by subst h;rfl
def afC(l:LB)(hl:l.length<=100000) :
 zF 78 #[zT l] w λe w'=>e=zQ #[ifV (rV l).1,.bool (rV l).2]/\aB [] w w':=by
 have eG:=bL;have hx:=tF;have Bh:=aT;have kA:({ data:=#[61,126] }:ByteArray).toList=[61,126]:=aT _;have kB:({ data:=#[33,126] }:ByteArray).toList=[33,126]:=aT _;have kC:({ data:=#[33,61] }:ByteArray).toList=[33,61]:=aT _;have kM:CO (w.alloc (Obj.cells #[.string (bs []),.string (bs []),.string (bs []),.pointer none] 108)) w.heap.size ([],[],[]):=⟨bD _ _⟩;have uh:=aj kM;clear kM;delta zF;go_in
 go_wp2;go_loopg [4] l.length (λk vi wr=>∃(j:Nat),j+k=l.length/\vi=zI j/\(l.take j).all qy=true/\wr=w.alloc (Obj.cells #[.string (bs []),.string (bs []),.string (bs []),.pointer none] 108))
 case atStart=>exact⟨0,by omega,rfl,by simp,rfl⟩
 case round =>
  obtain⟨j,hj,rfl,ja,hw⟩:=hrel;subst hw;have oL:=aj ja;clear ja
  by_cases aL:j<l.length
  ·have zt:(bs l)[j]'(by rw[eG];omega)=l[j]:=rfl
   have Hd:Z_ (l.drop j=l[j]::l.drop (j+1)):=a0k aL;have Ht:Z_ (l.take (j+1)=l.take j++[l[j]]):=a0F aL;generalize l[j]=c at *;have h61:((c.toNat:Int)==61)=(c==61):=my c 61;have h33:((c.toNat:Int)==33)=(c==33):=my c 33;have ahO:Z_ (qy c=false->l.takeWhile qy=l.take j/\l.dropWhile qy=l.drop j):=by
    intro bJ;have:=MP (l.take j) (l.drop j) oL.o (λc' r' e=>by rw[Hd.o]at e;simp at e;rw[<-e.1];exact bJ)
    rwa [a1C]at this
   cases e61:(c==61)
   rotate_left
   rw[e61]at h61;have n61:((c.toNat:Int) != 61)=false:=by unfold bne;rw[h61];rfl
   have U0:=ahO.o (by unfold qy;rw[e61];rfl);have AZ:=aj U0;clear U0 ahO oL;have PH:(bs (l.drop j))[0]'(by rw[eG];simp;omega)=c:=by
    have:∀(L:LB) (r:LB) (h:0<(bs L).size),L=c::r->(bs L)[0]'h=c:=by
     intro L r h e;subst e;rfl
    exact this _ _ _ Hd
   have tk:∀y z:UInt8,(c==y)=false->((l.drop j).take 2 == [y,z])=false:=by
    intro y z h;rw[Hd.o,a0j];intro e;simp at e;rw[e.1]at h;simp at h
   have qB:=tk 33 126 (by have:c=61:=by simpa using e61
                          subst this;rfl)
   have qC:=tk 33 61 (by have:c=61:=by simpa using e61
                         subst this;rfl)
   clear tk;have Hh:Z_ (hd (l.drop j)=(c.toNat:Int)):=adP Hd;have htk:List.take (l.length-j) (List.drop j l)=List.drop j l:=a0C (by simp)
   by_cases KH:1<l.length-j
   have gJ:decide ((1:Int)<((l.length-j:Nat):Int))=true:=a0g (by omega);have Ih:decide (1<(l.drop j).length)=true:=by simp;omega
   cases qA:((l.drop j).take 2 == [61,126])
   have ER:decide ((0:Int)<((l.length-j:Nat):Int))=true:=a0g (by omega);have Hm:Z_ (rV l=((l.take j,(l.drop j).take 1,(gV (l.drop (j+1))).1),(gV (l.drop (j+1))).2&&aJ (l.take j))):=by
    show _=_;unfold rV;rw[AZ.o.1,AZ.o.2];dsimp only;have s2:ui (l.drop j)=false:=by unfold ui;rw[Ih,qA,qB,qC];rfl
    have s1:CJ (l.drop j)=true:=by unfold CJ;rw[Hh.o,h61];simp;omega
    rw[s2,s1];simp only[a0A,a0I,a0G];rw[a2Z]
   have Qd:(l.drop (j+1)).length<=100000:=by simp;omega
   focus
    go_wp2_with fail
    generalize (l.drop j).take 1=sg at *;generalize l.drop (j+1)=rs at *
   rotate_left
   have Hm:Z_ (rV l=((l.take j,(l.drop j).take 2,(gV (l.drop (j+2))).1),(gV (l.drop (j+2))).2&&aJ (l.take j))):=by
    show _=_;unfold rV;rw[AZ.o.1,AZ.o.2];dsimp only;have s2:ui (l.drop j)=true:=by unfold ui;rw[Ih,qA];rfl
    rw[s2];simp only[a0G];rw[a2Z]
   have Qd:(l.drop (j+2)).length<=100000:=by simp;omega
   focus
    go_wp2_with fail
    generalize (l.drop j).take 2=sg at *;generalize l.drop (j+2)=rs at *
   rotate_left
   have gJ:decide ((1:Int)<((l.length-j:Nat):Int))=false:=a0f (by omega);have ER:decide ((0:Int)<((l.length-j:Nat):Int))=true:=a0g (by omega);have Ih:decide (1<(l.drop j).length)=false:=by simp;omega
   have Hm:Z_ (rV l=((l.take j,(l.drop j).take 1,(gV (l.drop (j+1))).1),(gV (l.drop (j+1))).2&&aJ (l.take j))):=by
    show _=_;unfold rV;rw[AZ.o.1,AZ.o.2];dsimp only;have s2:ui (l.drop j)=false:=by unfold ui;rw[Ih];rfl
    have s1:CJ (l.drop j)=true:=by unfold CJ;rw[Hh.o,h61];simp;omega
    rw[s2,s1];simp only[a0A,a0I,a0G];rw[a2Z]
   have Qd:(l.drop (j+1)).length<=100000:=by simp;omega
   focus
    go_wp2_with fail
    generalize (l.drop j).take 1=sg at *;generalize l.drop (j+1)=rs at *
   rotate_left
   rw[e61]at h61;have n61:((c.toNat:Int) != 61)=true:=by unfold bne;rw[h61];rfl
   cases e33:(c==33)
   ·rw[e33]at h33
    have n33:((c.toNat:Int) != 33)=true:=by unfold bne;rw[h33];rfl
    have zu:Z_ ((l.take (j+1)).all qy=true):=by
     show _=_;rw[Ht.o,a2c,oL.o];simp[qy,e61,e33]
    clear ahO;go_wp2;go_roundg (gk-1)
    case measure=>omega
    case rel=>exact⟨j+1,by omega,by go_num,zu,rfl⟩
   rw[e33]at h33;have n33:((c.toNat:Int) != 33)=false:=by unfold bne;rw[h33];rfl
   have U0:=ahO.o (by unfold qy;rw[e33];simp);have AZ:=aj U0;clear U0 ahO oL;have PH:(bs (l.drop j))[0]'(by rw[eG];simp;omega)=c:=by
    have:∀(L:LB) (r:LB) (h:0<(bs L).size),L=c::r->(bs L)[0]'h=c:=by
     intro L r h e;subst e;rfl
    exact this _ _ _ Hd
   have qA:((l.drop j).take 2 == [61,126])=false:=by
    rw[Hd.o,a0j];intro e;simp at e;rw[e.1]at e61;simp at e61
   have Hh:Z_ (hd (l.drop j)=(c.toNat:Int)):=adP Hd;have htk:List.take (l.length-j) (List.drop j l)=List.drop j l:=a0C (by simp);have ER:decide ((0:Int)<((l.length-j:Nat):Int))=true:=a0g (by omega)
   by_cases KH:1<l.length-j
   have gJ:decide ((1:Int)<((l.length-j:Nat):Int))=true:=a0g (by omega);have Ih:decide (1<(l.drop j).length)=true:=by simp;omega
   cases qB:((l.drop j).take 2 == [33,126])
   cases qC:((l.drop j).take 2 == [33,61])
   ·have s2:Z_ (ui (l.drop j)=false):=by show _=_;unfold ui;rw[Ih,qA,qB,qC];rfl
    have s1:Z_ (CJ (l.drop j)=false):=by show _=_;unfold CJ;rw[Hh.o,h61];simp
    have Hm:Z_ (rV l=((l.take j,[],[]),false)):=by
     show _=_;unfold rV;rw[AZ.o.1,AZ.o.2];dsimp only;rw[s2.o,s1.o];simp only[a0A,a0I]
    go_wp2;refine bodyPost_ret (jO (m:=(l.take j,[],[])) (ok:=false) (rb:=w.heap.size) ?_ (by rfl) (by rfl)) rfl ?_
    ·exact⟨by rw[Below.heap_alloc _ _ _ (by simp)];exact bD _ _⟩
    rw[Hm.o];exact⟨rfl,((aB.refl [] w).alloc _).alloc _⟩
   have s2:Z_ (ui (l.drop j)=true):=by show _=_;unfold ui;rw[Ih,qC];simp
   have Hm:Z_ (rV l=((l.take j,(l.drop j).take 2,(gV (l.drop (j+2))).1),(gV (l.drop (j+2))).2&&aJ (l.take j))):=by
    show _=_;unfold rV;rw[AZ.o.1,AZ.o.2];dsimp only;rw[s2.o];simp only[a0G];rw[a2Z]
   have Qd:(l.drop (j+2)).length<=100000:=by simp;omega
   focus
    go_wp2_with fail
    generalize (l.drop j).take 2=sg at *;generalize l.drop (j+2)=rs at *
   rotate_left
   have s2:Z_ (ui (l.drop j)=true):=by show _=_;unfold ui;rw[Ih,qB];simp
   have Hm:Z_ (rV l=((l.take j,(l.drop j).take 2,(gV (l.drop (j+2))).1),(gV (l.drop (j+2))).2&&aJ (l.take j))):=by
    show _=_;unfold rV;rw[AZ.o.1,AZ.o.2];dsimp only;rw[s2.o];simp only[a0G];rw[a2Z]
   have Qd:(l.drop (j+2)).length<=100000:=by simp;omega
   focus
    go_wp2_with fail
    generalize (l.drop j).take 2=sg at *;generalize l.drop (j+2)=rs at *
   rotate_left
   ·have gJ:decide ((1:Int)<((l.length-j:Nat):Int))=false:=a0f (by omega)
    have Ih:decide (1<(l.drop j).length)=false:=by simp;omega
    have s2:Z_ (ui (l.drop j)=false):=by show _=_;unfold ui;rw[Ih];rfl
    have s1:Z_ (CJ (l.drop j)=false):=by show _=_;unfold CJ;rw[Hh.o,h61];simp
    have Hm:Z_ (rV l=((l.take j,[],[]),false)):=by
     show _=_;unfold rV;rw[AZ.o.1,AZ.o.2];dsimp only;rw[s2.o,s1.o];simp only[a0A,a0I]
    go_wp2;refine bodyPost_ret (jO (m:=(l.take j,[],[])) (ok:=false) (rb:=w.heap.size) ?_ (by rfl) (by rfl)) rfl ?_
    ·exact⟨by rw[Below.heap_alloc _ _ _ (by simp)];exact bD _ _⟩
    rw[Hm.o];exact⟨rfl,((aB.refl [] w).alloc _).alloc _⟩
   all_goals
    have kv:CO ((w.alloc (Obj.cells #[.string (bs []),.string (bs []),.string (bs []),.pointer none] 108)).alloc (Obj.cells #[zT (l.take j),zT (sg),.string (bs []),.pointer none] 108)) (w.heap.size+1) (l.take j,sg,[]):=⟨by have:=bD (w.alloc (Obj.cells #[.string (bs []),.string (bs []),.string (bs []),.pointer none] 108)) (Obj.cells #[zT (l.take j),zT (sg),.string (bs []),.pointer none] 108);rw[<-this];simp⟩;have kM:=uh.o.aC (S:=[]) ((aB.refl _ _).alloc (Obj.cells #[zT (l.take j),zT (sg),.string (bs []),.pointer none] 108)) (by simp);refine(vI rs Qd).mono ?_;rintro e w2 ⟨rfl,hf⟩;have B1:=aj (kv.aC hf (by simp));have B0:=aj (kM.aC hf (by simp));have KF:=aj ((((aB.refl [] w).alloc _).alloc _).trans hf);clear hf kv kM;have gD:w.heap.size+1<w2.heap.size:=B1.o.lt;generalize gV rs=u at *;obtain⟨u1,u2⟩:=u;have p0:zC w2 (w.heap.size+1) 0 (zT (l.take j)):=B1.o.cell 0;have p1:zC w2 (w.heap.size+1) 1 (zT (sg)):=B1.o.cell 1;have p2:zC w2 (w.heap.size+1) 2 (.string (bs [])):=B1.o.cell 2;have p3:zC w2 (w.heap.size+1) 3 (.pointer none):=B1.o.cell 3;have p4:=B1.o.fz;have r0:zC w2 w.heap.size 0 (.string (bs [])):=B0.o.cell 0;have r1:zC w2 w.heap.size 1 (.string (bs [])):=B0.o.cell 1;have r2:zC w2 w.heap.size 2 (.string (bs [])):=B0.o.cell 2;have r3:zC w2 w.heap.size 3 (.pointer none):=B0.o.cell 3;have r4:=B0.o.fz;go_wp2_with fail
    refine(nH (l.take j) _ (by simp;omega)).mono ?_;rintro e w' ⟨rfl,rfl⟩;generalize l.take j=nm at *;generalize aJ nm=ib at *;cases u2
    all_goals
     go_wp2;refine bodyPost_ret (jO (m:=(nm,sg,u1)) (rb:=w.heap.size) ?_ (by rfl) (by rfl)) rfl ?_
     ·exact(B0.o.aC (S:=[w.heap.size+1]) ((aB.refl _ _).setCell (p:=(zB (w.heap.size+1) 2)) (by simp) (zT u1)) (by simp)).Lm (nm,sg,u1)
     rw[Hm.o];exact⟨by simp,aB.Lm (KF.o.setCell (Or.inr (by simp)) _) (by simp) _ _ _ _⟩
  have mK:j=l.length:=by omega
  have AZ:Z_ (l.takeWhile qy=l.take j/\l.dropWhile qy=l.drop j):=by
   have:=MP (l.take j) (l.drop j) oL.o (λc' r' e=>by rw[a0i (by omega)]at e;cases e)
   rwa [a1C]at this
  have atL:Z_ (l.drop j=[]):=a0i (by omega);have s2:Z_ (ui (l.drop j)=false):=by show _=_;rw[atL.o];rfl
  have s1:Z_ (CJ (l.drop j)=false):=by show _=_;rw[atL.o];rfl
  have gJ:decide ((1:Int)<((l.length-j:Nat):Int))=false:=a0f (by omega);have ER:decide ((0:Int)<((l.length-j:Nat):Int))=false:=a0f (by omega);clear mK oL;have Hm:Z_ (rV l=((l.take j,[],[]),false)):=by
   show _=_;unfold rV;rw[AZ.o.1,AZ.o.2];dsimp only;rw[s2.o,s1.o];simp only[a0A,a0I]
  go_wp2;refine bodyPost_ret (jO (m:=(l.take j,[],[])) (ok:=false) (rb:=w.heap.size) ?_ (by rfl) (by rfl)) rfl ?_
  ·exact⟨by rw[Below.heap_alloc _ _ _ (by simp)];exact bD _ _⟩
  rw[Hm.o];exact⟨rfl,((aB.refl [] w).alloc _).alloc _⟩
theorem aqh:∀(x y:LB),Op.bytesLess x y=decide (x<y):=by
 intro x
 induction x with
 | nil=>intro y;cases y<;>simp[Op.bytesLess]
 | cons a x c =>
   intro y;cases y with
   | nil=>simp[Op.bytesLess]
   | cons b y=>rw[Op.bytesLess,c y,a0T];simp only[List.cons_lt_cons_iff,a1a,a0O,a0U,a0W]
def ins(n:LB):List LB->List LB
 | []=>[n]
 | x::L=>if n<x then n::x::L else x::ins n L
theorem adQ(n a:LB)(h:n<a):∀(A:List LB),ins n (A++[a])=ins n A++[a]
 | []=>by simp[ins,h]
 | x::A=>by
   rw[a0L];unfold ins
   by_cases b:n<x
   .grind
   rw[a0n b,a0n b,adQ n a h A];simp
theorem adR(n:LB):∀(A:List LB),(∀x∈A,¬ n<x)->ins n A=A++[n]
 | [],_=>rfl
 | x::A,h=>by unfold ins;rw[a0n (h x (by simp)),adR n A (λy a=>h y (by simp[a]))];rfl
theorem ahP(n:LB):∀(A:List LB) (x:LB),x∈ins n A->x=n\/x∈A
 | [],x,h=>by simp[ins]at h;exact .inl h
 | y::A,x,h=>by
   unfold ins at h
   by_cases a:n<y
   .grind
   rw[a0n a]at h;rw[a0l]at h;rcases h with h|h
   .exact .inr (by simp[h])
   rcases ahP n A x h with h|h
   .exact .inl h
   exact .inr (by simp[h])
def Asc(A:List LB):Prop:=A.Pairwise (λx y=>x<y)
theorem tri{x y:LB}(b:¬ x<y)(a:x≠y):y<x:=by grind
theorem ahQ(n:LB):∀(A:List LB),Asc A->n∉A->Asc (ins n A)
 | [],_,_=>by simp[ins,Asc]
 | x::A,h,c=>by
   unfold Asc at h;rw[a1F]at h;unfold ins
   by_cases b:n<x
   .rw[a0m b]
    refine a1F.2 ⟨λy a=>?_,a1F.2 h⟩;rw[a0l]at a;rcases a with rfl|a
    .exact b
    grind
   rw[a0n b];refine a1F.2 ⟨λy a=>?_,ahQ n A h.2 (λd=>c (by simp[d]))⟩;rcases ahP n A y a with rfl|a
   .grind
   exact h.1 y a
def gtB(a b:LB):Bool:=!(Op.bytesLess a b||a==b)
def down:Nat->List LB->List LB
 | 0,xs=>xs
 | k+1,xs=>if gtB (xs.getD k []) (xs.getD (k+1) []) then down k ((xs.set (k+1) (xs.getD k [])).set k (xs.getD (k+1) [])) else xs
def lM(out:List LB)(n:LB):List LB:=if out.contains n then out else down out.length (out++[n])
def Ed(L:List LB):List LB:=L.foldl lM []
theorem M9:∀(k:Nat) (xs:List LB),(down k xs).length=xs.length
 | 0,xs=>rfl
 | k+1,xs=>by
   unfold down;split
   .rw[M9 k];simp
   rfl
def akg(out:List LB)(n:LB):(lM out n).length<=out.length+1:=by
 unfold lM;split
 .omega
 rw[M9];simp
theorem SL.cell {base:Nat}{g:Nat}(h:SL base w (zS g n cap) xs)(j:Nat)(a:j<xs.length):zC w g j (zT (xs.getD j [])):=by
 have:=World.ownsRow.cells h (g:=g) rfl j (zT (xs.getD j [])) (by simp[sv,a])
 rwa [add0]at this
theorem SL.set {base:Nat}{g:Nat}(h:SL base w (zS g n cap) xs)(a:n=xs.length)(j:Nat)(s:LB):SL base (w.setCell (zB g j) (zT s)) (zS g n cap) (xs.set j s):=by
 subst a;have:=(World.ownsRow.stored h j (zT s)).1;unfold SL;rw[a3p];have e:(sv xs).set j (zT s)=sv (xs.set j s):=by simp[sv]
 rw[<-e];exact this
theorem SL.fz {base:Nat}{g:Nat}(h:SL base w (zS g n cap) xs)(a:n=xs.length)(j:Nat):w.frozen? (zB g j)=false:=by subst a;exact World.ownsRow.frozenAt h j
theorem ahR(L:List LB)(w:World)(h:RS 0 w v L)(hL:L.length<=1000) :
 Calls Tryz.prog 60 #[v] w λe w'=>∃E,e=.returned E/\SL w.heap.size w' E (Ed L)/\aB [] w w':=by
 obtain⟨a,cap,rfl,h1,h2,H3⟩:=h;have hl:=aT;go_in
 go_wp2;go_loopg [3,4] L.length (λk O R wr=>∃(j:Nat) (out:List LB),j+k=L.length/\R=.int .i64 j/\SL w.heap.size wr O out/\out.length<=j/\(L.drop j).foldl lM out=Ed L/\aB [] w wr)
 exact⟨0,[],by omega,rfl,SL.nil _ _,by simp,by simp[Ed],zK⟩
 case round =>
 obtain⟨j,out,hj,rfl,b,X,D,f⟩:=hrel;obtain⟨A,co,W⟩:=b.shape;subst W
 by_cases J:j<L.length
 .obtain⟨g0,off,ha,_,s⟩:=H3 j J
  subst ha;have N:L.drop j=L[j]::L.drop (j+1):=a0k J;generalize L[j]=x at *;have B:(L.drop (j+1)).foldl lM (lM out x)=Ed L:=by rw[<-D,N];rfl
  clear D N;go_wp2_with fail
  go_loopg [6,7] out.length (λk vt P p=>∃(d:Nat),d+k=out.length/\P=.int .i64 d/\vt=.bool ((out.take d).contains x)/\SL w.heap.size p (.slice A out.length co) out/\aB [] w p)
  exact⟨0,by omega,rfl,rfl,b,f⟩
  .clear b f;obtain⟨d,hjj,rfl,rfl,b,f⟩:=hrel;have hc:wr.cell? ⟨g0,off+j,none⟩=some (.string (bs x)):=by rw[f.cell (World.block_lt_of_cell? w _ s) (by simp)];exact s
   by_cases t:d<out.length
   .obtain⟨H,u⟩:∃H,A=some ⟨H,0,none⟩:=by
     rcases b.2 with⟨e,h⟩|⟨g,c,cur,e,_⟩
     .omega
     simp at e;exact⟨g,e.1⟩
    subst u;have RY:=b.cell d t;have m:(out.take (d+1)).contains x=((out.take d).contains x||(out.getD d []==x)):=by
     have e1:out.getD d []=out[d]:=by simp[t]
     rw[e1,a0F t,a0T];simp only[a2B,a0e,a0w,a1a,a1E,a0W]
     constructor
     .rintro(h|h)
      .exact Or.inl h
      exact Or.inr h.symm
     rintro(h|h)
     .exact Or.inl h
     exact Or.inr h.symm
    generalize out.getD d []=y at *;cases q:(out.take d).contains x
    .rw[q]at m
     go_wp2;go_quiet (fail)
     go_wp2;go_roundg (gk-1);exact⟨d+1,by omega,by go_num,by rw[m];rfl,b.aC (S:=[]) (zK.drewN _) (by simp),f.drewN _⟩;omega
    rw[q]at m;go_wp2;go_quiet (fail)
    go_wp2;go_roundg (gk-1);exact⟨d+1,by omega,by go_num,by rw[m];rfl,b.aC (S:=[]) (zK.drewN _) (by simp),f.drewN _⟩;omega
   have m:out.take d=out:=a0C (by omega);rw[m];have hz:=f.size;cases M:out.contains x
   case true =>
    have C:lM out x=out:=by unfold lM;rw[M];rfl
    go_wp2;go_roundg (L.length-j-1)
    .have:=B;rw[C]at this;exact⟨j+1,out,by omega,by go_num,b,by omega,this,f⟩
    omega
   case false =>
   have C:lM out x=down out.length (out++[x]):=by unfold lM;rw[M];rfl
   clear m;go_wp2_with (first | (at_builtin;refine rA rfl rfl w.heap.size (.slice A out.length co) out x wr.heap.size rfl (b.aC zG (by simp)) rfl (by simp) (by omega) (by simp;omega) ?_;intro z aU w2 F G V;have U:=(f.alloc _).grown G (λk Z=>Or.inr (b.lt k Z).1);have T:=F))
   clear F G;go_loopg [5] out.length (λk vk p=>∃(xs:List LB),k<=out.length/\vk=.int .i64 k/\xs.length=out.length+1/\SL w.heap.size p (.slice (some ⟨z,0,none⟩) (out.length+1) aU) xs/\down k xs=lM out x/\aB [] w p)
   exact⟨out++[x],a0b _,rfl,by simp,T,C.symm,U⟩
   .clear b f hc hz V;obtain⟨xs,Y,rfl,i,b,r,f⟩:=hrel;have Sv:=b.fz i.symm;cases gk with
    | zero =>
      have l:lM out x=xs:=r.symm;have ER:decide ((0:Int)<((0:Nat):Int))=false:=rfl;go_wp2;go_quiet (fail)
      go_wp2;go_roundg (L.length-j-1)
      .have:=B;rw[l]at this;exact⟨j+1,xs,by omega,by go_num,b.aC (S:=[]) (zK.drewN _) (by simp),by have:=i;omega,this,f.drewN _⟩
      omega
    | succ k =>
      have ER:decide ((0:Int)<(k:Int)+1)=true:=a0g (by omega);have c1:=b.cell k (by omega);have c2:=b.cell (k+1) (by omega);have I:lM out x=if gtB (xs.getD k []) (xs.getD (k+1) []) then down k ((xs.set (k+1) (xs.getD k [])).set k (xs.getD (k+1) [])) else xs:=by rw[<-r];rfl
      generalize xs.getD k []=o at *;generalize xs.getD (k+1) []=n at *;cases dZ:(Op.bytesLess o n||o==n)
      case true =>
       have l:lM out x=xs:=by rw[I];unfold gtB;rw[dZ];rfl
       go_wp2;go_quiet (fail)
       go_wp2;go_roundg (L.length-j-1)
       .have:=B;rw[l]at this;exact⟨j+1,xs,by omega,by go_num,b.aC (S:=[]) (zK.drewN _) (by simp),by have:=i;omega,this,f.drewN _⟩
       omega
      case false =>
       have l:down k ((xs.set (k+1) o).set k n)=lM out x:=by rw[I];unfold gtB;rw[dZ];rfl
       go_wp2;go_quiet (fail)
       go_wp2;go_roundg k
       .refine⟨(xs.set (k+1) o).set k n,by omega,by go_num,by simp[i],?_,l,?_⟩
        .exact(((b.aC (S:=[]) (zK.drewN _) (by simp)).set i.symm (k+1) o).set (by simp[i]) k n)
        exact((f.drewN _).setCell (Or.inr (b.lt z rfl).1) _).setCell (Or.inr (b.lt z rfl).1) _
       omega
 have l:Ed L=out:=by rw[<-D,a0i (by omega)];rfl
 go_wp2;go_ret;rw[l];exact⟨_,rfl,b,f⟩
theorem adT(n:LB):∀(k:Nat) (A B:List LB),A.length=k->Asc A->n∉A->down k (A++n::B)=ins n A++B
 | 0,A,B,f,_,_=>by have:A=[]:=a0S f;subst this;simp[down,ins]
 | k+1,A,B,f,g,j=>by
   obtain⟨c,a,rfl⟩:∃c a,A=c++[a]:=⟨A.dropLast,A.getLast (by intro e;simp[e]at f),(a2t _).symm⟩;have b:c.length=k:=by simpa using f
   unfold Asc at g;rw[List.pairwise_append]at g;have s:(c++[a]++n::B).getD k []=a:=by simp[<-b,a0x]
   have r:(c++[a]++n::B).getD (k+1) []=n:=by simp[<-b,a0x]
   have l:a≠n:=λe=>j (by simp[e])
   unfold down;rw[s,r];have q:gtB a n=decide (n<a):=by
    unfold gtB;rw[aqh,a0T];simp only[a1j,Bool.or_eq_false_iff,a1g,a0U]
    constructor
    .intro h;exact tri h.1 l
    intro h;exact⟨λi=>List.lt_irrefl _ (List.lt_trans h i),by simpa using l⟩
   rw[q]
   by_cases h:n<a
   .rw[a0m (by simp[h])]
    have p:((c++[a]++n::B).set (k+1) a).set k n=c++n::(a::B):=by subst b;simp[List.set_append]
    rw[p,adT n k c (a::B) b g.1 (λm=>j (by simp[m])),adQ n a h];simp
   rw[a0n (by simp[h])];rw[adR n (c++[a])]
   .simp
   intro x d;rw[a0e,a0w]at d;rcases d with d|rfl
   .intro i
    have o:=g.2.2 x d a (by simp);exact h (List.lt_trans i o)
   exact h
open Go.RowKit
structure iY where
 rc:LB
 ek:Value
 t0:Int
 t1:Int
 t2:Int
 iJ:Value
 on:Bool
 vk:Value
 d:Int
 row:Int
def iY.cells(r:iY):Array Value:=#[zT r.rc,r.ek,zI r.t0,zI r.t1,zI r.t2,r.iJ,.bool r.on,r.vk,zI r.d,zI r.row]
def qz(w:World)(b:Nat)(r:iY):Prop:=w.heap[b]?=some (.cells r.cells 85 (0,0))
theorem qz.lt {r:iY}(h:qz w b r):b<w.heap.size:=(a0c.1 h).1
theorem qz.cell {r:iY}(h:qz w b r)(o:Nat):w.cell? (zB b o)=r.cells[o]?:=by unfold qz at h;simp[World.cell?,h]
theorem qz.fz {r:iY}(h:qz w b r)(o:Nat):w.frozen? (zB b o)=false:=by unfold qz at h;simp[World.frozen?,h]
theorem qz.aC {r:iY}(h:qz w b r)(f:aB S w w')(a:b∉S):qz w' b r:=(f.block b h.lt a).trans h
theorem qz.set {r:iY}(h:qz w b r)(o:Nat)(v:Value)(r':iY)(e:r'.cells=r.cells.setIfInBounds o v):qz (w.setCell (zB b o) v) b r':=by unfold qz at *;simp[World.setCell,a0v,h,e]
def Ee(m:RM):List Value:=[zT m.1,zT m.2.1,zT m.2.2,.pointer none]
def ivl(M:List RM):List Value:=M.flatMap Ee
def VA(base:Nat)(w:World)(v:Value)(M:List RM):Prop:=w.ownsRow base 108 4 v M.length (ivl M)
theorem VA.aC {base:Nat} {v:Value} {L:List RM}(h:VA base w v L)(f:aB S w w')(a:∀k,k∈S->k<base):VA base w' v L:=fG h f a
theorem VA.nil(base:Nat)(w:World):VA base w zN []:=World.ownsRow_nil w base _ 4
def asy:(Tryz.prog.info? 108).map (λi=>(i.zero,i.size,i.bytes))=some (some (.agg #[.string ByteArray.empty,.string ByteArray.empty,.string ByteArray.empty,.pointer none]),4,56):=by kernel_rfl
def wIf:LB:=[105,102]
def EI:LB:=[99,111,110,116,105,110,117,101]
def dO:Nat->List LB->List RM->List RM × Bool × Bool
 | 0,_,acc=>(acc,false,false)
 | k+1,W,acc =>
   if decide (1<W.length)&&(W.getD 0 []==wIf) then
    (if (rV (W.getD 1 [])).2 then dO k (W.drop 2) (acc++[(rV (W.getD 1 [])).1]) else (acc,false,false))
   else if (W.length==1)&&(W.getD 0 []==EI) then (acc,true,decide (acc.length<=4))
   else (acc,false,W.isEmpty&&decide (acc.length<=4))
theorem RS.Ay {base:Nat} {a:Option Addr}(h:RS base w (.slice a n cap) W)(k:0<W.length):∃g off,a=some ⟨g,off,none⟩/\base<=g/\n=W.length/\W.length<=cap/\∀j,j<W.length->w.cell? ⟨g,off+j,none⟩=some (.string (bs (W.getD j []))):=by obtain⟨p,l,e,m,i,d⟩:=h;simp at e;obtain⟨rfl,rfl,rfl⟩:=e;obtain⟨g,off,rfl,hb,_⟩:=d 0 k;refine⟨g,off,rfl,hb,rfl,i,λj c=>?_⟩;obtain⟨o,b,e,q,f⟩:=d j c;simp at e;obtain⟨rfl,rfl⟩:=e;rw[f];simp[c]
def RS.drop2 {base:Nat}{g off:Nat}(h:RS base w (.slice (some (zB g off)) n cap) W)(k:Nat)(l:k<=W.length):RS base w (.slice (some (zB g (off+k))) (n-k) (cap-k)) (W.drop k):=by obtain⟨q,i,e,o,m,d⟩:=h;simp at e;obtain⟨rfl,rfl,rfl⟩:=e;refine⟨some (zB g (off+k)),cap-k,by simp,by simp;omega,by simp;omega,λj b=>?_⟩;simp at b;obtain⟨p,a,e,f,c⟩:=d (k+j) (by omega);simp at e;obtain⟨rfl,rfl⟩:=e;refine⟨g,off+k,rfl,f,?_⟩;rw[a2M,c];simp
def ano(b base:Nat)(W:List LB)(r:iY)(w:World)(hr:qz w b r)(hw:RS base w v W)(hb:b<base)(JI:r.iJ=zN)(I:r.on=false)(hW:W.length<=10000)(R:∀x∈W,x.length<=100000) :
 zF 62 #[zP b,v] w λe w'=>e=zR (.bool (dO (W.length+1) W []).2.2)/\(∃v',qz w' b { r with iJ:=v',on:=(dO (W.length+1) W []).2.1 }/\VA w.heap.size w' v' (dO (W.length+1) W []).1)/\aB [b] w w':=by
 obtain⟨rc,ek,t0,t1,t2,iJ,on,vk,d,row⟩:=r;simp only at JI I;subst JI I;have Hw:=aj hw;have Hr:=aj hr;have Hl:=aj R;have jE:=hr.lt;obtain⟨a,cap,e,_⟩:=hw;subst e;clear hr R;have Bh:=aT;have kI:({ data:=#[105,102] }:ByteArray).toList=wIf:=aT _;have kC:({ data:=#[99,111,110,116,105,110,117,101] }:ByteArray).toList=EI:=aT _;obtain⟨i0,hi,Qa,Yk,Il⟩:=info_parts asy;generalize M:dO (W.length+1) W []=f at *;have awN:=aj M;clear M;delta zF;go_in
 go_wp2_with fail
 go_loopg [1] (W.length+1) (λk vw wr=>∃(c:List LB) (acc:List RM) (H:Value),c.length<k/\acc.length+c.length<=W.length/\(∀x∈c,x.length<=100000)/\RS base w vw c/\qz wr b ⟨rc,ek,t0,t1,t2,H,false,vk,d,row⟩/\VA w.heap.size wr H acc/\dO k c acc=f/\aB [b] w wr)
 case atStart=>exact⟨W,[],_,a3j _,by simp,Hl,Hw,Hr,VA.nil _ _,awN,aB.refl _ _⟩
 case round =>
 obtain⟨c,acc,H,hWk,ac5,R,yR,jW,jc,iD,bH⟩:=hrel;clear Hw Hr Hl;have N:=yR;obtain⟨a',xK,e,_,hWc,_⟩:=yR;subst e;have ED:=aj N;have p:=aj jW;have h:=aj jc;have T:=aj iD;have s:=aj bH;have z:=aj R;have PH:=jW.lt;have hzr:=bH.size;obtain⟨m,rfl⟩:∃m,gk=m+1:=⟨gk-1,by omega⟩;clear N jW jc iD bH R
 by_cases J:1<c.length
 .have gJ:decide ((1:Int)<(c.length:Int))=true:=a0g (by omega)
  obtain⟨g,off,ha,TA,_,_,aO⟩:=(ED.o.aC s.o (by simp;omega)).Ay (by omega);subst ha;have c0:zC wr g off (zT (c.getD 0 [])):=aO 0 (by omega);have c1:zC wr g (off+1) (zT (c.getD 1 [])):=aO 1 (by omega);have hx1:(c.getD 1 []).length<=100000:=z.o _ (by rw[a0x,a0a J];exact a0u J);have F:Z_ (f=if (c.getD 0 []==wIf) then (if (rV (c.getD 1 [])).2 then dO m (c.drop 2) (acc++[(rV (c.getD 1 [])).1]) else (acc,false,false)) else (acc,false,false)):=by
   show _=_;rw[<-T.o];conv=>lhs;unfold dO
   have Y:(c.length==1)=false:=a0j.2 (by omega);have X:c.isEmpty=false:=by
    cases c with
    | nil=>simp at J
    | cons=>rfl
   rw[a0g J,Y,X];simp
  clear aO T;generalize c.getD 0 []=x0 at *;generalize c.getD 1 []=x1 at *;cases E:(x0==wIf)
  case false =>
   have n:Z_ (f=(acc,false,false)):=by show _=_;rw[F.o,E];rfl
   have Y:((c.length:Int)==1)=false:=a0j.2 (by omega);have X:((c.length:Int)==0)=false:=a0j.2 (by omega);go_wp2;go_ret;rw[n.o];exact⟨rfl,⟨H,p,h⟩,s⟩
  case true =>
  go_wp2_with fail
  refine(afC x1 hx1).mono ?_;rintro e u ⟨rfl,O⟩;have l:=aj (p.o.aC O (by simp));have i:=aj (h.o.aC O (by simp));have A:=aj (s.o.trans O.nil);have fM:=O.size;clear O c0 c1 p h s;generalize rV x1=mm at *;obtain⟨⟨m1,D,C⟩,mok⟩:=mm;cases mok
  case false =>
   have n:Z_ (f=(acc,false,false)):=by show _=_;rw[F.o,E];rfl
   unfold ifV;go_wp2;go_ret;rw[n.o];exact⟨rfl,⟨H,l.o.aC (S:=[]) ((aB.refl _ _).alloc _) (by simp),i.o.aC (S:=[]) ((aB.refl _ _).alloc _) (by simp)⟩,A.o.alloc _⟩
  case true =>
  have n:Z_ (dO m (c.drop 2) (acc++[(m1,D,C)])=f):=by show _=_;rw[F.o,E];rfl
  obtain⟨ai,ci,rfl⟩:=aW i;have c5:zC u b 5 (.slice ai acc.length ci):=l.o.cell 5;have f5:=l.o.fz 5;have kv:=l.o.lt;have Z:Value.ownBlock (.slice ai acc.length ci)≠some b:=λe=>by have:=i.o.lt _ e;omega
  have g2:∀o y:Obj,((u.alloc o).alloc y).drew.frozen? (zB b 5)=false:=λo y=>(((((aB.refl [] u).alloc o).alloc y).drew).frozen kv (by simp)).trans f5
  have g3:∀o y:Obj,((u.alloc o).alloc y).drew.cell? (zB b 5)=some (.slice ai acc.length ci):=λo y=>(((((aB.refl [] u).alloc o).alloc y).drew).cell kv (by simp)).trans c5
  have JM:=aj (ED.o.drop2 2 (by omega));unfold ifV;go_wp2_with fail
  go_region_law ((refine step_append_lies _ (by rfl) _ _ _ (by rfl) w.heap.size 108 i0 _ 4 56 Tryz.underlying83 hi Qa Yk Il rfl (by omega) (.slice ai acc.length ci) acc.length (ivl acc) (by rfl) (by exact(i.o.alloc _).alloc _) (zA (u.heap.size+1)) 1 1 (Ee (m1,D,C)) (by rfl) (by rfl) (World.news_of_block (cs:=(Ee (m1,D,C)).toArray) (t:=108) (fr:=(0,0)) (by exact Ik)) (by simp[Value.oneCell',Ee]) (by omega) (by unfold maxLen;omega) (by omega) (by simp;omega) (u.heap.size+2) (by simp) ?_;intro L P V bT aH bq aL))
  all_goals
   have G:Z_ (World.grownBy _ V (Value.ownBlock (.slice ai acc.length ci))):=aH;have U:Z_ (V.ownsRow w.heap.size 108 4 (zS L (acc.length+1) P) (acc.length+1) (ivl acc++Ee (m1,D,C))):=bT;clear aH bT;have c6:=(G.o.cell_far (zB b 5) (by simp;omega) (Ne.symm Z)).trans (g3 _ _);have f6:=(G.o.frozen_far (zB b 5) (by simp;omega) (Ne.symm Z)).trans (g2 _ _)
   by_cases oN:xK=2
   .have Gh:RS base w (.slice (some (zB g off)) (c.length-2) 0) (c.drop 2):=⟨some (zB g off),0,by simp,by simp;omega,by simp;omega,λj hj=>by simp at hj;omega⟩
    have su:=aj Gh;clear Gh;go_wp2;go_roundg m
    case measure=>omega
    case rel =>
     have F4:=aB.fo G;have R4:qz V b ⟨rc,ek,t0,t1,t2,.slice ai acc.length ci,false,vk,d,row⟩:=(l.o.aC (S:=[]) ((((aB.refl _ _).alloc _).alloc _).drew) (by simp)).aC F4 (by simpa[a0H] using λe=>Z e);refine⟨c.drop 2,acc++[(m1,D,C)],zS L (acc.length+1) P,by simp;omega,by simp;omega,λx hx=>z.o x (a1f hx),su,R4.set 5 _ _ rfl,?_,n,?_⟩
     .have:=ownsRow_setCell_below U.o (a:=(zB b 5)) jE (zS L (acc.length+1) P)
      simpa[VA,ivl] using this
     exact((((A.o.alloc _).alloc _).drew).grown G.o (λk hk=>Or.inr (i.o.lt _ hk).1)).setCell (by simp) _
   go_wp2;go_roundg m
   case measure=>omega
   case rel =>
    have F4:=aB.fo G;have R4:qz V b ⟨rc,ek,t0,t1,t2,.slice ai acc.length ci,false,vk,d,row⟩:=(l.o.aC (S:=[]) ((((aB.refl _ _).alloc _).alloc _).drew) (by simp)).aC F4 (by simpa[a0H] using λe=>Z e);refine⟨c.drop 2,acc++[(m1,D,C)],zS L (acc.length+1) P,by simp;omega,by simp;omega,λx hx=>z.o x (a1f hx),JM,R4.set 5 _ _ rfl,?_,n,?_⟩
    .have:=ownsRow_setCell_below U.o (a:=(zB b 5)) jE (zS L (acc.length+1) P)
     simpa[VA,ivl] using this
    exact((((A.o.alloc _).alloc _).drew).grown G.o (λk hk=>Or.inr (i.o.lt _ hk).1)).setCell (by simp) _
 have gJ:decide ((1:Int)<(c.length:Int))=false:=a0f (by omega);obtain⟨ai,ci,rfl⟩:=aW h;have c5:zC wr b 5 (.slice ai acc.length ci):=p.o.cell 5;have c6:zC wr b 6 (.bool false):=p.o.cell 6;have f6:=p.o.fz 6;have q:decide (acc.length<=4)=decide ((acc.length:Int)<=4):=by
  rw[a0T,a1E,a1E];omega
 by_cases B:c.length=1
 .have Y:((c.length:Int)==1)=true:=by simp[B]
  have e0:((c.length:Int)==0)=false:=a0j.2 (by omega);obtain⟨g,off,ha,TA,_,_,aO⟩:=(ED.o.aC s.o (by simp;omega)).Ay (by omega);subst ha;have c0:zC wr g off (zT (c.getD 0 [])):=aO 0 (by omega);have F:Z_ (f=if (c.getD 0 []==EI) then (acc,true,decide ((acc.length:Int)<=4)) else (acc,false,false)):=by
   show _=_;rw[<-T.o];conv=>lhs;unfold dO
   have X:c.isEmpty=false:=by
    cases c with
    | nil=>simp at B
    | cons=>rfl
   rw[a0f J,B,X,q];simp
  clear aO T q;generalize c.getD 0 []=x0 at *;cases E:(x0==EI)
  .have n:Z_ (f=(acc,false,false)):=by show _=_;rw[F.o,E];rfl
   have awO:0<c.length:=by omega
   clear B;go_wp2;go_ret;rw[n.o];exact⟨rfl,⟨_,p,h⟩,s⟩
  have n:Z_ (f=(acc,true,decide ((acc.length:Int)<=4))):=by show _=_;rw[F.o,E];rfl
  have awO:0<c.length:=by omega
  clear B;go_wp2;go_ret;rw[n.o];exact⟨rfl,⟨_,p.o.set 6 _ _ rfl,h.o.aC (S:=[b]) ((aB.refl _ _).setCell (by simp) _) (by simp;omega)⟩,s.o.setCell (by simp) _⟩
 have Vz:c.length=0:=by omega
 have Y:((c.length:Int)==1)=false:=a0j.2 (by omega);have e0:((c.length:Int)==0)=true:=by simp[Vz]
 have n:Z_ (f=(acc,false,decide ((acc.length:Int)<=4))):=by
  show _=_;rw[<-T.o];conv=>lhs;unfold dO
  have:c=[]:=a0S Vz;rw[this,q];rfl
 clear Vz B q;go_wp2;go_ret;rw[n.o];exact⟨rfl,⟨_,p,h⟩,s⟩
theorem Na(q:Bool)(c:UInt8)(N:Nat):∀(k:Nat) (l:LB) (i:Bool) (t:LB) (out:List LB),t.length+l.length<=N->(∀x∈out,x.length<=N)->(∀x∈jy q c k l i t out,x.length<=N)/\(jy q c k l i t out).length<=out.length+l.length+1/\out.length+1<=(jy q c k l i t out).length
 | 0,l,i,t,out,g,a=>by grind [jy]
 | k+1,[],i,t,out,g,a=>by grind [jy]
 | k+1,y::r,i,t,out,g,a=>by
   simp only[a0r]at g;unfold jy;dsimp only;generalize (if (q&&y==34)=true then !i else i)=i1
   by_cases d:(i1&&y==92&&!(r.isEmpty))=true
   .rw[a0m d]
    have j:r≠[]:=by intro e;subst e;simp at d
    have m:0<r.length:=a1O.2 j;have:=Na q c N k (r.drop 1) i1 (t++([y]++r.take 1)) out (by simp;omega) a;refine⟨this.1,?_,this.2.2⟩;have f:=this.2.1;simp only[a2F,a0r]at f |-;omega
   rw[a0n d]
   by_cases h:(y==c&&!i1)=true
   .rw[a0m h]
    have:=Na q c N k r i1 [] (out++[t]) (by simp;omega) (λx b=>by
     rw[a0e,a0w]at b;rcases b with b|rfl
     .exact a x b
     omega)
    refine⟨this.1,?_,?_⟩
    .grind
    grind
   rw[a0n h];have:=Na q c N k r i1 (t++[y]) out (by simp;omega) a;refine⟨this.1,?_,this.2.2⟩;have f:=this.2.1;simp at f |-;omega
def Lr(q:Bool)(c:UInt8)(l:LB):(∀x∈dU q c l,x.length<=l.length)/\(dU q c l).length<=l.length+1/\1<=(dU q c l).length:=by have:=Na q c l.length (l.length+1) l false [] [] (by simp) (by simp);unfold dU;refine⟨this.1,by have:=this.2.1;simp at this;omega,by have:=this.2.2;simp at this;omega⟩
theorem akh(out:List LB)(n:LB):1<=(lM out n).length:=by grind [lM,M9]
theorem abo:∀(L out:List LB),out.length<=(L.foldl lM out).length/\(L.foldl lM out).length<=out.length+L.length/\(1<=L.length->1<=(L.foldl lM out).length)
 | [],out=>by simp
 | x::L,out=>by
   have h:=abo L (lM out x);have c:=akg out x;have b:=akh out x;have a:out.length<=(lM out x).length:=by grind [lM,M9]
   simp only[a1R,a0r];exact⟨by omega,by omega,λ_=>by omega⟩
def anp(L:List LB):(Ed L).length<=L.length/\(1<=L.length->1<=(Ed L).length):=by have:=abo L [];unfold Ed;simp at this |-;exact⟨this.1,this.2⟩
theorem adW {ops:Array Oper} {rest:List Oper} {o:Oper} {a:Act} {Q:Exit->Act->World->Prop}(m:o.guard=none){s x:Operand}
 (ho:o.op=.call { callee:=.builtin .append,args:=#[s,x],argTypes:=#[48,48] })
 (base i:Nat) (v:Value) (L M:List LB) (f c2:Nat) (p:a.eval s=v) (C:SL base w v L) (b:a.eval x=zS f M.length c2)
 (t:SL i w (zS f M.length c2) M) (E:0<M.length) (hlen:L.length+M.length<=1048576) (l:base<=w.heap.size)
 (h:∀g cap w',SL base w' (zS g (L.length+M.length) cap) (L++M)->w.grownBy w' v.ownBlock->base<=g->wpList Tryz.prog ops Q rest (a.put o.dst (zS g (L.length+M.length) cap)) w') :
 wpList Tryz.prog ops Q (o::rest) a w:=by
 obtain⟨n,r,gT,B,A⟩:=info_parts uY;refine wpList_append_own w m s x 48 ho base 9 n (.string ByteArray.empty) 1 16 Tryz.underlying48 r gT B A rfl (by decide) v L.length (sv L) p C (zA f) M.length c2 (sv M) b (by simp[sv]) ?_ (λx b=>by simp[sv]at b;obtain⟨c,_,rfl⟩:=b;rfl) (by unfold maxLen;omega) (by omega) l ?_
 .intro j u q
  exact t.cells rfl j u q
 intro D w' k z y;obtain⟨g,cap,rfl⟩:=Uz k (λe=>by have:=(y.1 e).2;omega);have d:SL base w' (zS g (L.length+M.length) cap) (L++M):=by grind [SL,sv]
 exact h g cap w' d z (k.lt g rfl).1
def Bn:LB:=[114,111,117,116,101]
def wBy:LB:=[98,121]
def Az:LB:=[119,97,105,116]
def vQ:LB:=[101,118,101,114,121]
def rW:LB:=[114,101,112,101,97,116]
structure RR where
 rc:LB
 told:Bool
 names:List LB
 t0:Int
 t1:Int
 t2:Int
 ifs:List RM
 on:Bool
 d:Nat
def qX(W:List LB):Option (Bool × List LB × List LB) :=
 if decide (1<W.length)&&(W.getD 0 []==wBy) then
  (if W.getD 1 [] == [45] then some (true,[],W.drop 2)
   else if (dU false 44 (W.getD 1 [])).all aJ&&decide ((dU false 44 (W.getD 1 [])).length<=4) then some (true,Ed (dU false 44 (W.getD 1 [])),W.drop 2) else none)
 else some (false,[],W)
def alP:Nat->LB
 | 2=>Az
 | 1=>vQ
 | _=>rW
def aqi(r:Nat)(a:Int × Int × Int)(n:Int):Int × Int × Int :=
 match r with
 | 2=>(n,a.2.1,a.2.2)
 | 1=>(a.1,n,a.2.2)
 | _=>(a.1,a.2.1,n)
def nO:Nat->Int × Int × Int->List LB->Option ((Int × Int × Int) × List LB)
 | 0,a,W=>some (a,W)
 | r+1,a,W =>
   if decide (1<W.length)&&(W.getD 0 []==alP r) then
    (if decide (iR (W.getD 1 [])<0) then none else nO r (aqi r a (iR (W.getD 1 []))) (W.drop 2))
   else nO r a W
def rtW(d:Nat)(W:List LB):Option RR :=
 if decide (W.length<2)||!(W.getD 0 []==Bn) then none
 else if !(aJ (W.getD 1 []))&&!(W.getD 1 [] == [45]) then none
 else match qX (W.drop 2) with
  | none=>none
  | some (told,names,c)=>match nO 3 (-1,-1,-1) c with
    | none=>none
    | some (b,a)=>if (dO (a.length+1) a []).2.2 then some ⟨W.getD 1 [],told,names,b.1,b.2.1,b.2.2,(dO (a.length+1) a []).1,(dO (a.length+1) a []).2.1,d⟩ else none
def yY(l:LB):Option RR:=rtW (bO l).1 (dU true 32 (bO l).2)
def byW(told:Bool)(names:List LB):List LB:=if told then [58]::names else []
structure awP(base:Nat)(w:World)(b:Nat)(v:iY)(r:RR):Prop where
 at_:qz w b v
 rc:v.rc=r.rc
 Im:SL base w v.ek (byW r.told r.names)
 t0:v.t0=r.t0
 t1:v.t1=r.t1
 t2:v.t2=r.t2
 ifs:VA base w v.iJ r.ifs
 on:v.on=r.on
 vk:v.vk=zN
 d:v.d=r.d
 row:v.row=0
def aqj(w:World)(e:Ending)(w':World):Option RR->Prop
 | none=>∃p,e=zQ #[.pointer p,.bool false]
 | some r=>∃b v,w.heap.size<=b/\e=zQ #[zP b,.bool true]/\awP w.heap.size w' b v r
def tC(b:Nat):Value:=zP b
def LP(base:Nat)(w:World)(v:Value)(B:LN):Prop:=w.ownsRow base 57 1 v B.length (B.map tC)
theorem LP.cell {base:Nat}{g:Nat} {B:LN}(h:LP base w (zS g n cap) B)(j:Nat)(a:j<B.length):zC w g j (tC B[j]):=by have:=World.ownsRow.cells h (g:=g) rfl j (tC B[j]) (by simp[a]);rw[add0]at this;exact this
def sw(w:World)(cb:Nat)(vr vt a:Value):Prop:=w.heap[cb]?=some (.cells #[vr,vt,a] 60 (0,0))
theorem sw.lt{z:Value}(h:sw w b x y z):b<w.heap.size:=(a0c.1 h).1
theorem sw.cell{z:Value}(h:sw w b x y z)(o:Nat):w.cell? (zB b o)=(#[x,y,z]:Array Value)[o]?:=by unfold sw at h;simp[World.cell?,h]
theorem sw.fz{z:Value}(h:sw w b x y z)(o:Nat):w.frozen? (zB b o)=false:=by unfold sw at h;simp[World.frozen?,h]
theorem sw.aC{z:Value}(h:sw w b x y z)(f:aB S w w')(a:b∉S):sw w' b x y z:=(f.block b h.lt a).trans h
structure Dq(base:Nat)(w:World)(b:Nat)(v:iY)(r:RR):Prop where
 at_:qz w b v
 rc:v.rc=r.rc
 Im:SL base w v.ek (byW r.told r.names)
 t0:v.t0=r.t0
 t1:v.t1=r.t1
 t2:v.t2=r.t2
 ifs:VA base w v.iJ r.ifs
 on:v.on=r.on
 d:v.d=r.d
theorem Dq.aC {base:Nat} {v:iY} {r:RR}(h:Dq base w b v r)(f:aB S w w')(c:b∉S)(a:∀k∈S,k<base):Dq base w' b v r :=
 ⟨h.at_.aC f c,h.rc,h.Im.aC f a,h.t0,h.t1,h.t2,h.ifs.aC f a,h.on,h.d⟩
structure alQ(r:RR):Prop where
 d:r.d<=9000
 rc:r.rc.length<=8
 names:r.names.length<=4
 nm:∀n∈r.names,n.length<=8
 t0:-1<=r.t0/\r.t0<=99999
 t1:-1<=r.t1/\r.t1<=99999
 t2:-1<=r.t2/\r.t2<=99999
 ifs:r.ifs.length<=4
 im:∀m∈r.ifs,m.1.length<=8/\m.2.1.length<=2/\m.2.2.length<=40
theorem VA.cell {base:Nat} {M:List RM}{g:Nat}(h:VA base w (zS g n cap) M) {j:Nat} {m:RM}(d:M[j]?=some m)(k:Nat)(b:k<4):w.cell? (zB g (j*4+k))=(Ee m)[k]?:=by have c:=flat_get Ee 4 (λa=>rfl) M j k m d b;have e:=World.ownsRow.cells h (g:=g) rfl (j*4+k);have f:k<(Ee m).length:=b;rw[a0a f]at c |-;have:=e _ c;rw[add0]at this;exact this
end
section
variable {W w w' w4:World} {a:Act} {b cap cb g0 j k k0 n n0 pb:Nat} {A B S:LN} {o0 o1 o2 o3 o4 v vl vr vw:Value} {r:RR} {L:List LB} {M:List RM} {cs cur ahT:Array Value} {e t:TypeId} {s0:LB} {e0:RX} {vs:List (List Value)} {ops:Array Oper} {rest:List Oper} {E:Prop} {α:Type} {o i:Nat} {u:Value} {s x:Operand}
def uX(i:Nat)(r:RR):Bool:=(i==0)&&(r.d==0)&&r.ifs.isEmpty&&!r.on&&!(r.rc == [45])
def qY(i n:Nat)(r:RR):Bool:=decide (0<i)&&decide (0<r.d)&&decide (r.d<=n)
def pX:List RR->Nat->Nat->Nat
 | [],_,_=>0
 | r::R,i,n=>if (!(uX i r)&&!(qY i n r))||decide (5<r.d)||decide (16<=i) then i+2 else pX R (i+1) (r.d+1)
def uJ(R:List RR):Nat:=if R.isEmpty then 2 else pX R 0 0
def lN(L:List LB):List RR->Nat->Nat
 | [],_=>0
 | r::R,i=>if !(r.rc == [45])&&!(L.contains r.rc) then i+2 else lN L R (i+1)
def xh(L:List LB)(R:List RR):Nat × Nat :=
 if uJ R≠0 then (3,uJ R) else if mq [] L then (4,1) else if lN L R 0≠0 then (4,lN L R 0) else (0,0)
theorem LP.take {base:Nat} {a:Option Addr}(h:LP base w (.slice a n cap) B)(d:Nat)(hd:d<=B.length):LP base w (.slice a d cap) (B.take d):=by
 have i:n=B.length:=by
  rcases h.2 with⟨e,o⟩|⟨g,c,cur,e,_⟩
  .simp at e;omega
  simp at e;exact e.2.1
 subst i;have b:min d B.length=d:=a2n hd;unfold LP at *;rw[a1k,b];refine⟨by simp[b],?_⟩;rcases h.2 with⟨e,o⟩|⟨g,c,cur,e,m,l,p,k,j,f⟩
 .grind
 simp at e;obtain⟨rfl,rfl⟩:=e;refine .inr ⟨g,cap,cur,rfl,m,l,by omega,k,j,?_⟩;rw[a1H]at f |-;rw[List.map_take,<-f,List.take_take,b]
theorem LP.aC {base:Nat}(h:LP base w v B)(f:aB S w w')(a:∀k,k∈S->k<base):LP base w' v B:=fG h f a
def IM(s:LN × (Nat->LN))(x:Nat × Nat):LN × (Nat->LN) :=
 (s.1.take x.2++[x.1],match (s.1.take x.2).getLast? with | none=>s.2|some u=>λk=>if k=u then s.2 k++[x.1] else s.2 k)
def sD(l:List (Nat × Nat)):LN × (Nat->LN):=l.foldl IM ([],λ_=>[])
def xd(X:List (Nat × iY × RR)):List (Nat × Nat):=X.map λx=>(x.1,x.2.2.d)
structure GI(w wr:World)(cb:Nat)(X:List (Nat × iY × RR))(K:Nat->Value)(C:Nat->LN)(B:LN)(vw:Value)(j:Nat):Prop where
 lt:∀x∈X,x.1<w.heap.size
 rb:∀x∈X,qz wr x.1 { x.2.1 with vk:=K x.1 }
 Oe:∀x∈X,(C x.1).length<=j/\LP w.heap.size wr (K x.1) (C x.1)
 sep:∀x∈X,∀y∈X,x.1≠y.1->∀g,(K x.1).ownBlock=some g->(K y.1).ownBlock≠some g
 TB:∀x∈X,∀g,(K x.1).ownBlock=some g->vw.ownBlock≠some g
 way:LP w.heap.size wr vw B
 abp:∀b∈B,∃x∈X,x.1=b
 aC:aB (cb::X.map (·.1)) w wr
def GI.TF{wr b:World} {X:List (Nat × iY × RR)} {K:Nat->Value} {C:Nat->LN}(h:GI w wr cb X K C B vw j)(f:aB [] wr b):GI w b cb X K C B vw j :=
 ⟨h.lt,λx a=>(h.rb x a).aC f (by simp),λx a=>by obtain⟨d,c⟩:=h.Oe x a;exact⟨d,fG c f (by simp)⟩,h.sep,h.TB,h.way.aC f (by simp),h.abp,h.aC.trans f.nil⟩
theorem GI.root{wr:World} {X:List (Nat × iY × RR)} {K:Nat->Value} {C:Nat->LN}(h:GI w wr cb X K C B vw j)(c:cb<w.heap.size)(b:∀x∈X,x.1≠cb)(v:Value):GI w (wr.setCell (zB cb 1) v) cb X K C B vw j:=by have f:aB [cb] wr (wr.setCell (zB cb 1) v):=zK.setCell (by simp) _;refine⟨h.lt,λx a=>(h.rb x a).aC f (by simpa using b x a),λx a=>?_,h.sep,h.TB,h.way.aC f (by simpa using c),h.abp,h.aC.setCell (by simp) _⟩;obtain⟨e,d⟩:=h.Oe x a;exact⟨e,fG d f (by simpa using c)⟩
def GI.cut{wr:World} {X:List (Nat × iY × RR)} {K:Nat->Value} {C:Nat->LN} {a:Option Addr}(h:GI w wr cb X K C B (.slice a n cap) j)(d:Nat)(hd:d<=B.length):GI w wr cb X K C (B.take d) (.slice a d cap) j :=
 ⟨h.lt,h.rb,h.Oe,h.sep,λx c g e=>by have:=h.TB x c g e;cases a<;>simpa[Value.ownBlock] using this,h.way.take d hd,λb hb=>h.abp b (a3h hb),h.aC⟩
def GI.up{wr:World} {X:List (Nat × iY × RR)} {K:Nat->Value} {C:Nat->LN}(h:GI w wr cb X K C B vw j):GI w wr cb X K C B vw (j+1) :=
 ⟨h.lt,h.rb,λx a=>by obtain⟨c,b⟩:=h.Oe x a;exact⟨by omega,b⟩,h.sep,h.TB,h.way,h.abp,h.aC⟩
def GI.ahS{wr:World} {X:List (Nat × iY × RR)} {K:Nat->Value} {C:Nat->LN}(h:GI w wr cb X K C B vw j){g:Nat}(hb:∃x∈X,x.1=b)
 (i:wr.grownBy w4 vw.ownBlock) (ho:LP w.heap.size w4 (zS g n cap) (B++[b])) (d:vw.ownBlock=some g\/g=wr.heap.size):GI w w4 cb X K C (B++[b]) (zS g n cap) j:=by
 have F4:=aB.fo i;have o:∀k,vw.ownBlock=some k->w.heap.size<=k:=λk c=>(h.way.lt k c).1
 have q:∀x∈X,(K x.1).ownBlock=none\/(K x.1).ownBlock≠vw.ownBlock:=λx a=>by
  cases e:(K x.1).ownBlock with
  | none=>exact .inl rfl
  | some k=>exact .inr (λp=>h.TB x a k e p.symm)
 refine⟨h.lt,λx a=>(h.rb x a).aC F4 ?_,λx a=>?_,h.sep,λx a k c=>?_,ho,λb' f=>?_,h.aC.grown i (λk c=>.inr (o k c))⟩
 .rw[a0H]
  intro e;have:=o _ e;have:=h.lt x a;omega
 .obtain⟨m,l⟩:=h.Oe x a
  exact⟨m,World.ownsRow.kept l i (q x a)⟩
 .obtain⟨m,l⟩:=h.Oe x a
  have r:=l.lt k c;intro e;simp[Value.ownBlock]at e;subst e;rcases d with d|d
  .exact h.TB x a _ c d
  omega
 rw[a0e,a0w]at f;rcases f with f|rfl
 .exact h.abp b' f
 exact hb
theorem qz.kids {r:iY}(h:qz w b r)(v:Value):qz (w.setCell (zB b 7) v) b { r with vk:=v }:=by obtain⟨rc,ek,t0,t1,t2,iJ,on,vk,d,row⟩:=r;exact h.set 7 v _ rfl
def LP.au1 {base:Nat} {row:Option Nat}(h:LP base w v B)(a:w.grownBy w4 row)(b:v.ownBlock=none\/v.ownBlock≠row):LP base w4 v B:=World.ownsRow.kept h a b
theorem GI.aqk{wr:World} {X:List (Nat × iY × RR)} {K:Nat->Value} {C:Nat->LN}(h:GI w wr cb X K C B vw j) {x:Nat × iY × RR}(m:x∈X){g:Nat} {xs:List Value}(F:n<=j)(H:n=(C x.1).length)(E:xs=(C x.1++[b]).map tC)
 (s:wr.grownBy w4 (K x.1).ownBlock) (ho:w4.ownsRow w.heap.size 57 1 (zS g (n+1) cap) (n+1) xs) (d:(K x.1).ownBlock=some g\/g=wr.heap.size) :
 GI w (w4.setCell (zB x.1 7) (zS g (n+1) cap)) cb X (λb=>if b=x.1 then zS g (n+1) cap else K b) (λk=>if k=x.1 then C k++[b] else C k) B vw (j+1):=by
 have F4:=aB.fo s;obtain⟨_,t⟩:=h.Oe x m;have D:∀k,(K x.1).ownBlock=some k->w.heap.size<=k:=λk a=>(t.lt k a).1
 have f:∀u,aB [x.1] w4 (w4.setCell (zB x.1 7) u):=λu=>zK.setCell (by simp) _
 have r:=h.lt x m;have o:∀y∈X,qz w4 y.1 { y.2.1 with vk:=K y.1 }:=λy c=>(h.rb y c).aC F4 (by rw[a0H];intro e;have:=D _ e;have:=h.lt y c;omega)
 have p:∀y∈X,∀k,(K y.1).ownBlock=some k->k<wr.heap.size:=λy c k a=>by obtain⟨_,v⟩:=h.Oe y c;exact(v.lt k a).2
 refine⟨h.lt,λy c=>?_,λy c=>?_,λy c z hz q k a=>?_,λy c k a=>?_,?_,h.abp,?_⟩
 .by_cases e:y.1=x.1
  .simp only[e,a0G]
   have:=o y c;rw[e]at this;exact this.kids _
  simp only[e,a0I];exact(o y c).aC (f _) (by simpa using e)
 .by_cases e:y.1=x.1
  .grind [fG,LP]
  simp only[e,a0I];obtain⟨I,v⟩:=h.Oe y c;refine⟨by omega,fG (World.ownsRow.kept v s ?_) (f _) (by simpa using r)⟩;cases A:(K y.1).ownBlock with
  | none=>exact .inl rfl
  | some k=>exact .inr (λl=>h.sep y c x m e k A l.symm)
 .by_cases e:y.1=x.1
  .have l:z.1≠x.1:=λi=>q (e.trans i.symm)
   simp only[e,a0G,Value.ownBlock,Option.some.injEq]at a;subst a;simp only[l,a0I];intro i;rcases d with d|d
   .exact h.sep x m z hz (λG=>l G.symm) _ d i
   have:=p z hz _ i;omega
  simp only[e,a0I]at a
  by_cases l:z.1=x.1
  .simp only[l,a0G,Value.ownBlock,ne_eq,Option.some.injEq]
   intro i;subst i;rcases d with d|d
   .exact h.sep y c x m e _ a d
   have:=p y c _ a;omega
  simp only[l,a0I];exact h.sep y c z hz q k a
 .by_cases e:y.1=x.1
  .simp only[e,a0G,Value.ownBlock,Option.some.injEq]at a
   subst a;intro i;rcases d with d|d
   .exact h.TB x m _ d i
   have:=h.way.lt _ i;omega
  simp only[e,a0I]at a;exact h.TB y c k a
 .refine LP.aC (LP.au1 ?_ s ?_) (f _) (by simpa using r)
  .exact h.way
  cases A:vw.ownBlock with
  | none=>exact .inl rfl
  | some k=>exact .inr (λl=>h.TB x m k l.symm A)
 exact(h.aC.grown s (λk a=>.inr (D k a))).setCell (by simp;exact .inl (.inr ⟨_,_,m⟩)) _
def abq(l:LB):Option (List LB) :=
 if (((dU false 32 l).getD 0 []==mU)&&decide (1<(dU false 32 l).length)&&decide ((dU false 32 l).length<=9))&&((dU false 32 l).drop 1).all aJ then some ((dU false 32 l).drop 1) else none
def sO:List LB->Nat->List LB->List RR->Except Nat (List LB × List RR)
 | [],i,_,_=>.error (i+1)
 | [x],i,L,R=>if !(x.isEmpty)||i==0 then .error (i+1) else .ok (L,R)
 | x::y::W,i,L,R =>
   if i==0 then (match abq x with | none=>.error 1|some L'=>sO (y::W) 1 L' R)
   else (match yY x with | none=>.error (i+1)|some r=>sO (y::W) (i+1) L (R++[r]))
def sF(t:LB):Except (Nat × Nat) (List LB × List RR) :=
 if 1200<t.length then .error (1,0) else
 match sO (dU false 10 t) 0 [] [] with
 | .error n=>.error (2,n)
 | .ok (L,R)=>if (xh L R).1=0 then .ok (L,R) else .error (xh L R)
structure RdM(w w':World)(cb base:Nat)(vt:Value)(X:List (Nat × iY × RR)):Prop where
 lo:w.heap.size<=cb
 up:cb<base
 row:∀(i:Nat) x,X[i]?=some x->x.2.1.row=(i:Int)+2
 nd:(X.map (·.1)).Nodup
 gt:∀x∈X,base<=x.1
 root:vt=tC ((X.map (·.1)).getD 0 0)
 Oe:∀x∈X,LP base w' x.2.1.vk ((sD (xd X)).2 x.1)
def IQ(w:World)(e:Ending)(w':World):Except (Nat × Nat) (List LB × List RR)->Prop
 | .error (n,l)=>e=zQ #[.pointer none,zI n,zI l]
 | .ok (L,R)=>∃(cb base:Nat) (vr vt vl:Value) (X:List (Nat × iY × RR)),e=zQ #[tC cb,zI 0,zI 0]/\sw w' cb vr vt vl/\RS 0 w' vr L/\LP base w' vl (X.map (·.1))/\(∀x∈X,Dq base w' x.1 x.2.1 x.2.2)/\R=X.map (·.2.2)/\RdM w w' cb base vt X
theorem aql {a:Addr}(h:w.cell? a=some v):a.block<w.heap.size:=by
 by_cases b:a.block<w.heap.size
 .exact b
 simp[World.cell?,b]at h
def RS.atN {base:Nat}(h:RS base w v L)(f:aB S w w')(e:∀k∈S,v.ownBlock≠some k):RS base w' v L:=by obtain⟨a,cap,rfl,m,l,i⟩:=h;refine⟨a,cap,rfl,m,l,λj d=>?_⟩;obtain⟨g,off,rfl,hb,b⟩:=i j d;refine⟨g,off,rfl,hb,?_⟩;rw[f.cell (p:=(zB g (off+j))) (aql b) (λc=>e g c rfl)];exact b
def afD(w:World)(base:Nat)(S:LN):Prop:=∀k,k∈S->k<base\/∃cur a fz,w.heap[k]?=some (.cells cur a fz)/\a≠9/\a≠108
def Dq.awQ {base:Nat} {v:iY}(h:Dq base w b v r)(f:aB S w w')(hb:b∉S)(i:afD w base S):Dq base w' b v r :=
 ⟨h.at_.aC f hb,h.rc,jJ h.Im f (λk g=>(i k g).imp id (λ⟨a,b,c,d,e⟩=>⟨a,b,c,d,e.1⟩)),h.t0,h.t1,h.t2,jJ h.ifs f (λk g=>(i k g).imp id (λ⟨a,b,c,d,e⟩=>⟨a,b,c,d,e.2⟩)),h.on,h.d⟩
theorem Dq.base {base base':Nat} {v:iY}(h:Dq base w b v r)(hb:base'<=base):Dq base' w b v r :=
 ⟨h.at_,h.rc,wQ h.Im hb,h.t0,h.t1,h.t2,wQ h.ifs hb,h.on,h.d⟩
structure QI(w:World)(cb:Nat)(vr vl:Value)(L:List LB)(X:List (Nat × iY × RR)):Prop where
 rs:RS (cb+1) w vr L
 lp:LP (cb+1) w vl (X.map (·.1))
 rq:∀x∈X,Dq (cb+1) w x.1 x.2.1 x.2.2
 vk:∀x∈X,x.2.1.vk=zN
 gt:∀x∈X,cb<x.1
 row:∀(i:Nat) x,X[i]?=some x->x.2.1.row=(i:Int)+2
 nd:(X.map (·.1)).Nodup
 vrx:∀x∈X,vr.ownBlock≠some x.1
 vrb:vr.ownBlock≠some cb
 vrl:∀g,vr.ownBlock=some g->vl.ownBlock≠some g
 lt:∀x∈X,x.1<w.heap.size
 vrt:∀g,vr.ownBlock=some g->g<w.heap.size
def QI.TF {X:List (Nat × iY × RR)}(h:QI w cb vr vl L X)(f:aB [] w w'):QI w' cb vr vl L X :=
 ⟨h.rs.aC f (by simp),h.lp.aC f (by simp),λx a=>(h.rq x a).aC f (by simp) (by simp),h.vk,h.gt,h.row,h.nd,h.vrx,h.vrb,h.vrl,λx a=>a0t (h.lt x a) f.size,λg b=>a0t (h.vrt g b) f.size⟩
def QI.awR {X:List (Nat × iY × RR)}(h:QI w cb vr vl L X)(o:Nat)(v:Value):QI (w.setCell (zB cb o) v) cb vr vl L X:=by have f:aB [cb] w (w.setCell (zB cb o) v):=zK.setCell (by simp) _;refine⟨h.rs.aC f (by simp),h.lp.aC f (by simp),λx a=>(h.rq x a).aC f ?_ (by simp),h.vk,h.gt,h.row,h.nd,h.vrx,h.vrb,h.vrl,λx a=>a0t (h.lt x a) f.size,λg b=>a0t (h.vrt g b) f.size⟩;have:=h.gt x a;simp;omega
theorem QI.nil(w:World)(cb:Nat):QI w cb zN zN [] [] :=
 ⟨⟨none,0,rfl,by simp,by simp,by simp⟩,World.ownsRow_nil _ _ _ _,by simp,by simp,by simp,by simp,by simp,by simp,by simp[Value.ownBlock],by simp[Value.ownBlock],by simp,by simp[Value.ownBlock]⟩
theorem QI.snoc {X:List (Nat × iY × RR)}(h:QI w cb vr vl L X) {x:Nat × iY × RR}(s:Dq (cb+1) w x.1 x.2.1 x.2.2)(d:x.2.1.vk=zN)(z:x.2.1.row=(X.length:Int)+2)
 (m:∀y∈X,y.1<x.1) (r:cb<x.1) (j:vr.ownBlock≠some x.1) (A:vl.ownBlock≠some x.1) {g:Nat} (u:w.grownBy w4 vl.ownBlock) (ho:LP (cb+1) w4 (zS g n cap) (X.map (·.1)++[x.1])) (f:vl.ownBlock=some g\/g=w.heap.size):QI w4 cb vr (zS g n cap) L (X++[x]):=by
 have F4:=aB.fo u;have l:∀k,vl.ownBlock=some k->∃cur fz,w.heap[k]?=some (.cells cur 57 fz):=λk d=>Ip h.lp k d
 have ap:afD w (cb+1) vl.ownBlock.toList:=λk d=>by grind
 have v:∀y:Nat × iY × RR,Dq (cb+1) w y.1 y.2.1 y.2.2->y.1∉vl.ownBlock.toList:=λy c o=>by rw[a0H]at o;obtain⟨cur,fz,e⟩:=l _ o;have:=c.at_;unfold qz at this;rw[e]at this;simp at this
 have all:∀y∈X++[x],Dq (cb+1) w y.1 y.2.1 y.2.2:=λy c=>by
  rw[a0e,a0w]at c;rcases c with c|rfl
  .exact h.rq y c
  exact s
 refine⟨h.rs.atN F4 (λk d=>?_),by rw[a0P];exact ho,λy c=>(all y c).awQ F4 (v y (all y c)) ap,λy c=>?_,λy c=>?_,λi y p=>?_,?_,λy c=>?_,h.vrb,λk d=>?_,λy c=>?_,λk d=>a0t (h.vrt k d) F4.size⟩
 .rw[a0H]at d
  exact λe=>h.vrl k e d
 .rw[a0e,a0w]at c
  rcases c with c|rfl
  .exact h.vk y c
  exact d
 .rw[a0e,a0w]at c
  rcases c with c|rfl
  .exact h.gt y c
  exact r
 .by_cases t:i<X.length
  .rw[a0s t]at p;exact h.row i y p
  grind
 .rw[a0P]
  refine List.nodup_append.2 ⟨h.nd,by simp,?_⟩;intro a q b hb e;simp at hb;rw[a0q]at q;obtain⟨y,c,rfl⟩:=q;have:=m y c;omega
 .rw[a0e,a0w]at c
  rcases c with c|rfl
  .exact h.vrx y c
  exact j
 .intro e
  simp only[Value.ownBlock,Option.some.injEq]at e;subst e;rcases f with f|f
  .exact h.vrl _ d f
  have:=h.vrt _ d;omega
 have:=(all y c).at_.lt;exact a0t this F4.size
theorem QI.kept {X:List (Nat × iY × RR)}(h:QI w cb vr vl L X)(f:aB (cb::X.map (·.1)) w w'):RS 0 w' vr L/\LP (cb+1) w' vl (X.map (·.1)):=by
 refine⟨(h.rs.atN f ?_).base (a1G _),jJ h.lp f ?_⟩
 .intro k a
  rw[a0l,a0q]at a;rcases a with rfl|⟨x,b,rfl⟩
  .exact h.vrb
  exact h.vrx x b
 intro k a;rw[a0l,a0q]at a;rcases a with rfl|⟨x,b,rfl⟩
 .grind
 exact .inr ⟨_,_,_,(h.rq x b).at_,by decide⟩
theorem QI.rqs {X:List (Nat × iY × RR)}(h:QI w cb vr vl L X)(f:aB (cb::X.map (·.1)) w w') {K:Nat->Value}(g:∀x∈X,qz w' x.1 { x.2.1 with vk:=K x.1 }):∀x∈X,Dq (cb+1) w' x.1 { x.2.1 with vk:=K x.1 } x.2.2:=by
 have ap:afD w (cb+1) (cb::X.map (·.1)):=λk g=>by
  rw[a0l,a0q]at g;rcases g with rfl|⟨x,i,rfl⟩
  .grind
  exact .inr ⟨_,_,_,(h.rq x i).at_,by decide,by decide⟩
 intro x i;have q:=h.rq x i;exact⟨g x i,q.rc,jJ q.Im f (λk g=>(ap k g).imp id (λ⟨a,b,c,d,e⟩=>⟨a,b,c,d,e.1⟩)),q.t0,q.t1,q.t2,jJ q.ifs f (λk g=>(ap k g).imp id (λ⟨a,b,c,d,e⟩=>⟨a,b,c,d,e.2⟩)),q.on,q.d⟩
def Ef(m:RM):Bool:=(m.2.1 == [61,126])||(m.2.1 == [33,126])
def Xj:List RM->Nat
 | []=>0
 | m::M=>if Ef m&&!(gH m.2.2==0) then gH m.2.2 else Xj M
def QA:List RR->Nat->Nat × Nat
 | [],_=>(0,0)
 | r::R,i=>if !(Xj r.ifs==0) then (Xj r.ifs,i+2) else QA R (i+1)
def Ls(w:World)(v:Value)(M:List RM)(D:Nat->Prop):Prop:=∃a cap,v=.slice a M.length cap/\M.length<=cap/\(M.length=0\/∃g cur,a=some (zA g)/\w.heap[g]?=some (.cells cur 108 (0,0)) /\
 ∀k m,M[k]?=some m->cur[k*4]?=some (zT m.1)/\cur[k*4+1]?=some (zT m.2.1)/\cur[k*4+2]?=some (zT m.2.2) /\
  ∃q:Option Addr,cur[k*4+3]?=some (.pointer q)/\(D k->Ef m=true->q≠none)/\(∀p,q=some p->∃n e,p=(zA n)/\fF m.2.2=some e/\RN w n (gW e)))
def Ls.of {base:Nat} {D:Nat->Prop}(h:VA base w v M)(q:∀k,¬ D k):Ls w v M D:=by
 have r:=h;rcases h.2 with⟨e,i⟩|⟨g,cap,cur,e,hb,b,l,u,t,ht⟩
 .exact⟨none,0,by rw[e,i],by omega,.inl i⟩
 subst e;refine⟨_,cap,rfl,l,.inr ⟨g,cur,rfl,b,λk m n=>?_⟩⟩;have c:∀o,o<4->cur[k*4+o]?=(Ee m)[o]?:=λo ho=>by have f:=flat_get Ee 4 (λa=>rfl) M k o m n ho;have s:o<(Ee m).length:=ho;rw[a0a s]at f |-;have d:=World.ownsRow.cells r (g:=g) rfl (k*4+o) _ f;rw[add0,cell_of_row w g _ cur _ _ b]at d;exact d
 refine⟨c 0 (by omega),c 1 (by omega),c 2 (by omega),none,c 3 (by omega),λhd=>absurd hd (q k),λp j=>by simp at j⟩
theorem Ls.aC {D:Nat->Prop}(h:Ls w v M D)(f:aB [] w w'):Ls w' v M D:=by
 obtain⟨a,cap,t,s,b⟩:=h;refine⟨a,cap,t,s,?_⟩;rcases b with b|⟨g,cur,e,c,j⟩
 .exact .inl b
 refine .inr ⟨g,cur,e,(f.block g (a0c.1 c).1 (by simp)).trans c,λk m i=>?_⟩;obtain⟨c0,c1,c2,q,c3,hd,hq⟩:=j k m i;refine⟨c0,c1,c2,q,c3,hd,λp d=>?_⟩;obtain⟨n,e,r,o,l⟩:=hq p d;exact⟨n,e,r,o,RN.aY (dX.of f) l⟩
theorem Ls.mono {D c:Nat->Prop}(h:Ls w v M D)(l:∀k m,M[k]?=some m->c k->Ef m=true->D k):Ls w v M c:=by
 obtain⟨a,cap,f,d,b⟩:=h;refine⟨a,cap,f,d,?_⟩;rcases b with b|⟨g,cur,e,j,i⟩
 .exact .inl b
 grind
def anq {g:Nat}(a:w.heap[g]?=some (.cells cur 108 (0,0)))(o:Nat)(u:Value):dX w (w.setCell (zB g o) u) :=
 dX.aC (S:=[g]) (zK.setCell (by simp) _) (λb hb c fz e=>by simp at hb;subst hb;rw[a]at e;simp at e)
def afE {g:Nat}(a:w.heap[g]?=some (.cells cur t (0,0))):(w.setCell (zB g o) u).heap[g]?=some (.cells (cur.setIfInBounds o u) t (0,0)):=by simp[World.setCell,a0v,a]
def afF{g:Nat}(h:k≠g):(w.setCell (zB g o) u).heap[k]?=w.heap[k]?:=by simp[World.setCell,a0v,Ne.symm h]
theorem aqm {a b:LB}(h:(Value.string (bs a))=zT b):a=b:=by grind [aT]
theorem Ls.set {D:Nat->Prop}(h:Ls w v M D)(f:w.heap[g0]?=some (.cells ahT 108 (0,0)))
 (s:ahT[k0*4+2]?=some (zT s0)) (he:fF s0=some e0) (r:RN w n0 (gW e0)) :
 Ls (w.setCell (zB g0 (k0*4+3)) (zP n0)) v M (λk=>D k\/(v.ownBlock=some g0/\k=k0)):=by
 obtain⟨a,cap,rfl,n,e⟩:=h;refine⟨a,cap,rfl,n,?_⟩;rcases e with e|⟨g,cur,rfl,b,i⟩
 .exact .inl e
 have kp:=anq f (k0*4+3) (zP n0)
 by_cases c:g=g0
 .subst c
  rw[f]at b;simp at b;subst b;refine .inr ⟨g,_,rfl,afE f,λk m d=>?_⟩;obtain⟨c0,c1,c2,q,c3,hd,hq⟩:=i k m d;refine⟨?_,?_,?_,?_⟩
  .grind
  .grind
  .grind
  by_cases l:k=k0
  .grind [aqm,RN.aY,RN]
  grind [hd,RN.aY,RN]
 refine .inr ⟨g,cur,rfl,(afF c).trans b,λk m d=>?_⟩;obtain⟨c0,c1,c2,q,c3,hd,hq⟩:=i k m d;refine⟨c0,c1,c2,q,c3,λh j=>?_,λp o=>?_⟩
 .rcases h with h|⟨h,_⟩
  .exact hd h j
  simp[Value.ownBlock]at h;exact absurd h c
 grind [RN.aY,RN]
def JN(w:World)(X:List (Nat × iY × RR))(P:Nat->Nat->Prop):Prop:=∀j x,X[j]?=some x->Ls w x.2.1.iJ x.2.2.ifs (P j)
theorem JN.aC {X:List (Nat × iY × RR)} {P:Nat->Nat->Prop}(h:JN w X P)(f:aB [] w w'):JN w' X P:=λj x a=>(h j x a).aC f
def QB(X:List (Nat × iY × RR)):LN:=X.filterMap λx=>x.2.1.iJ.ownBlock
def YW {base:Nat} {X:List (Nat × iY × RR)}(b:∀x∈X,Dq base w x.1 x.2.1 x.2.2)(a:k∈QB X):base<=k/\∃cur,w.heap[k]?=some (.cells cur 108 (0,0)):=by
 unfold QB at a;rw[List.mem_filterMap]at a;obtain⟨x,c,a⟩:=a;have h:=(b x c).ifs;rcases h.2 with⟨e,_⟩|⟨g,cap,cur,e,hb,d,_⟩
 .rw[e]at a;simp[Value.ownBlock]at a
 rw[e]at a;simp[Value.ownBlock]at a;subst a;exact⟨hb,cur,d⟩
def TI {base:Nat} {X:List (Nat × iY × RR)}(b:∀x∈X,Dq base w x.1 x.2.1 x.2.2) {fz:Nat × Nat}(h:w.heap[k]?=some (.cells cur t fz))(ht:t≠108):k∉QB X:=λd=>by obtain⟨_,c,a⟩:=YW b d;rw[h]at a;simp at a;exact ht a.2.1
theorem JN.set {X:List (Nat × iY × RR)} {P:Nat->Nat->Prop}(h:JN w X P){i:Nat} {e:Nat × iY × RR}(d:X[i]?=some e)(f:e.2.1.iJ.ownBlock=some g0)
 (q:w.heap[g0]?=some (.cells ahT 108 (0,0))) (n:ahT[k0*4+2]?=some (zT s0)) (he:fF s0=some e0) (g:RN w n0 (gW e0)) :
 JN (w.setCell (zB g0 (k0*4+3)) (zP n0)) X (λa c=>P a c\/(a=i/\c=k0)):=by
 intro j x b;refine((h j x b).set q n he g).mono ?_;intro k m s l r;rcases l with h|⟨p,o⟩
 .exact .inl h
 subst p;rw[d]at b;simp at b;subst b;exact .inr ⟨f,o⟩
def RxQ(w:World)(X:List (Nat × iY × RR))(e:Ending)(w':World):Prop :=
 e=zQ #[zI ((QA (X.map (·.2.2)) 0).1:Nat),zI ((QA (X.map (·.2.2)) 0).2:Nat)]/\aB (QB X) w w'/\((QA (X.map (·.2.2)) 0).1=0->JN w' X (λ_ _=>True))
def inF(M:List RM)(i:Nat)(rest:Nat × Nat):Nat × Nat:=if !(Xj M==0) then (Xj M,i+2) else rest
def anr(m:RM)(M:List RM)(i:Nat)(rest:Nat × Nat):inF (m::M) i rest=if Ef m&&!(gH m.2.2==0) then (gH m.2.2,i+2) else inF M i rest:=by
 unfold inF;rw[Xj];cases h:(Ef m&&!(gH m.2.2==0))
 .simp
 simp only[a0G];have:(gH m.2.2==0)=false:=by
  cases a:(gH m.2.2==0)
  .rfl
  rw[a]at h;simp at h
 rw[this];simp
theorem afG(cb base:Nat)(vr vt vl:Value)(X:List (Nat × iY × RR))(w:World)(hc:sw w cb vr vt vl)(hl:LP base w vl (X.map (·.1)))(hx:∀x∈X,Dq base w x.1 x.2.1 x.2.2)
 (iG:∀(i:Nat) x,X[i]?=some x->x.2.1.row=(i:Int)+2) (hX:X.length<=9000) (hi:∀x∈X,x.2.2.ifs.length<=1000/\∀m∈x.2.2.ifs,m.2.2.length<=40) :
 Calls Tryz.prog 24 #[tC cb] w (RxQ w X):=by
 have Bh:=aT;have k1:({ data:=#[61,126] }:ByteArray).toList=[61,126]:=aT _;have k2:({ data:=#[33,126] }:ByteArray).toList=[33,126]:=aT _;have Hc:=aj hc;have Hl:=aj hl;have Hx:=aj hx;have alR:=aj iG;have Hi:=aj hi;obtain⟨al,cl,Af⟩:=aW hl;rw[a0y]at Af;subst Af;have A0:Z_ (JN w X (λj _=>j<0)):=λj x hxj=>Ls.of (hx x (a0B hxj)).ifs (λk=>by omega)
 obtain⟨d,OJ⟩:∃d,QA (X.map (·.2.2)) 0=d:=⟨_,rfl⟩;have alS:=aj OJ;have TJ:Z_ (∀(e:Ending) (w':World),e=.returned (.tuple #[.int .i64 d.1,.int .i64 d.2])->aB (QB X) w w'->(d.1=0->JN w' X (λ_ _=>True))->RxQ w X e w'):=by
  intro e w' G h2 p;unfold RxQ;rw[OJ];exact⟨G,h2,p⟩
 clear hc hl hx iG hi OJ;show Calls Tryz.prog 24 #[.pointer (some ⟨cb,0,none⟩)] w _;go_in
 go_wp2_with fail
 go_loopg [4] X.length (λk v4 wr=>∃(i:Nat),i+k=X.length/\v4=.int .i64 i/\aB (QB X) w wr/\JN wr X (λj _=>j<i)/\QA ((X.map (·.2.2)).drop i) i=d)
 case atStart=>exact⟨0,by omega,rfl,aB.refl _ _,A0,by rw[a2j];exact alS⟩
 case round =>
  clear A0 alS;obtain⟨i,Ku,rfl,B,ha,iD⟩:=hrel;have F:=aj B;have A:=aj ha;have GO:=aj iD;have c2:wr.cell? ⟨cb,2,none⟩=some (.slice al X.length cl):=(Hc.o.aC B (TI Hx.o Hc.o (by decide))).cell 2;have LR:=aj (jJ Hl.o B (λk hk=>.inr (by obtain⟨_,c,h⟩:=YW Hx.o hk;exact⟨c,_,_,h,by decide⟩)));obtain⟨go,Ty⟩:∃go,go=gk:=⟨_,rfl⟩;subst Ty;obtain⟨P,Vg⟩:∃P,P=wr:=⟨_,rfl⟩;subst Vg;clear B ha iD
  by_cases aL:i<X.length
  .obtain⟨x,z⟩:∃x,X[i]?=some x:=⟨X[i],a0a aL⟩
   have Dr:=a0B z;have t:=aj z;have yS:(X.map (·.1))[i]?=some x.1:=by rw[a0Q,z];rfl
   obtain⟨gl,ja,Lt⟩:∃g,al=some ⟨g,0,none⟩/\P.cell? ⟨g,i,none⟩=some (tC x.1):=by
    have h:=LR.o;rcases h.2 with⟨e,h0⟩|⟨g,cap,cur,e,hb,hg,rest⟩
    .rw[a0y]at h0;omega
    simp only[Value.slice.injEq]at e;obtain⟨rfl,_,rfl⟩:=e;refine⟨g,rfl,?_⟩;have p:=World.ownsRow.cells h (g:=g) rfl i (tC x.1) (by rw[a0Q,yS];rfl);rw[add0]at p;exact p
   subst ja;have T:=(Hx.o x Dr).at_;have xZ:Z_ (∀W,aB (QB X) w W->qz W x.1 x.2.1):=λW B=>T.aC B (TI Hx.o T (by decide))
   obtain⟨ai,ci,Io,hci,V⟩:=A.o i x z;have d5:P.cell? ⟨x.1,5,none⟩=some x.2.1.iJ:=(xZ.o P F).cell 5;rw[Io]at d5;obtain⟨M,hM⟩:∃M,x.2.2.ifs=M:=⟨_,rfl⟩;rw[hM]at d5 Io hci V;have N:=Hi.o x Dr;rw[hM]at N;obtain⟨nM,J⟩:∃n,n=M.length:=⟨_,rfl⟩;rw[<-J]at d5 Io hci V;have C:=aj J;have zX:nM<=1000:=by rw[J];exact N.1
   have awS:=aj N.2;have D:=aj Io;obtain⟨f,U⟩:∃r,QA ((X.map (·.2.2)).drop (i+1)) (i+1)=r:=⟨_,rfl⟩;have au3:=aj U;have HM:=aj hM;have G0:Z_ (inF (M.drop 0) i f=d):=by
    show _=_;have e:(X.map (·.2.2)).drop i=x.2.2::(X.map (·.2.2)).drop (i+1):=by
     rw[a0k (by simpa using aL)];have:=(a0d.1 z).2;simp[this]
    have:=GO.o;rw[e,QA,hM,U]at this;rw[a2j];exact this
   have A1:Z_ (JN P X (λa c=>a<i\/(a=i/\c<0))):=λa y s=>(A.o a y s).mono (λk m _ h _=>by
    rcases h with h|⟨_,h⟩
    .exact h
    omega)
   clear V J N Io U hM yS Dr z T LR GO A;obtain⟨b,hb⟩:∃b,b=x.1:=⟨_,rfl⟩;unfold tC at Lt;rw[<-hb]at Lt d5 xZ;have hB:=aj hb;clear hb;have DD:Z_ (∀W,aB (QB X) w W->W.cell? ⟨b,5,none⟩=some (.slice ai nM ci)/\W.cell? ⟨b,9,none⟩=some (.int .i64 ((i:Int)+2))):=by
    intro W B;refine⟨((xZ.o W B).cell 5).trans ?_,((xZ.o W B).cell 9).trans ?_⟩
    .rw[<-D.o];rfl
    have:=alR.o i x t;rw[<-this];rfl
   go_wp2_with fail
   go_loopg [6] nM (λk v6 wr=>∃(j:Nat),j+k=nM/\v6=.int .i64 j/\aB (QB X) w wr/\JN wr X (λa c=>a<i\/(a=i/\c<j))/\inF (M.drop j) i f=d)
   case atStart=>exact⟨0,by omega,rfl,F,A1,G0⟩
   case round =>
    clear A1 G0 F c2 Lt d5;obtain⟨j,lU,rfl,B,ha,iD⟩:=hrel;have F:=aj B;have A:=aj ha;have GO:=aj iD;obtain⟨d5,d9⟩:=DD.o wr B;clear B ha iD
    by_cases ng:j<nM
    .obtain⟨m,hm⟩:∃m,M[j]?=some m:=⟨M[j]'(by have:=C.o;omega),a0a (by have:=C.o;omega)⟩
     have Ez:=awS.o m (a0B hm);obtain⟨g,cur,L,hg,aO⟩:∃g cur,ai=some ⟨g,0,none⟩/\wr.heap[g]?=some (.cells cur 108 (0,0))/\(cur[j*4+1]?=some (.string (bs m.2.1))/\cur[j*4+2]?=some (.string (bs m.2.2))/\∃q:Option Addr,cur[j*4+3]?=some (.pointer q)):=by
      obtain⟨a',xK,e1,_,p⟩:=A.o i x t;rw[D.o,HM.o,<-C.o]at e1;simp only[Value.slice.injEq]at e1;rcases p with p|⟨g,cur,e2,h4,h5⟩
      .rw[HM.o]at p;have:=C.o;omega
      obtain⟨_,h6,h7,q,h8,_⟩:=h5 j m (by rw[HM.o];exact hm);exact⟨g,cur,e1.1.trans e2,h4,h6,h7,q,h8⟩
     subst L;obtain⟨k1',R,q,k3'⟩:=aO;have m1:wr.cell? ⟨g,j*4+1,none⟩=some (.string (bs m.2.1)):=by rw[cell_of_row wr g _ cur _ _ hg];exact k1'
     have m2:wr.cell? ⟨g,j*4+2,none⟩=some (.string (bs m.2.2)):=by rw[cell_of_row wr g _ cur _ _ hg];exact R
     have GS:=anr m (M.drop (j+1)) i f;have Yz:M.drop j=m::M.drop (j+1):=by
      have G:=(a0d.1 hm).1;rw[a0k G,(a0d.1 hm).2]
     rw[<-Yz,GO.o]at GS;have l:=aj GS;have HG:=aj hg;have K2:=aj R;have K3:=aj k3';have HMJ:=aj hm;have atO:=(a0c.1 hg).1;obtain⟨bK,sg,val⟩:=m;simp only at m1 m2 Ez K2 l;clear hm Yz GS GO hg k1' R k3';cases nC:(sg == [61,126])
     case false =>
      cases qj:(sg == [33,126])
      case false =>
       have u:Z_ (inF (M.drop (j+1)) i f=d):=by
        show _=_;have:=l.o;simp only[Ef,nC,qj,Bool.or_false,Bool.false_and,a0A,a0I]at this;exact this.symm
       have E:Z_ (JN wr X (λa c=>a<i\/(a=i/\c<j+1))):=λa y s=>(A.o a y s).mono (λk m' H h hr=>by
        rcases h with h|⟨G,h2⟩
        .exact .inl h
        refine .inr ⟨G,?_⟩;rcases a2a k j with p|p
        .exact p
        exfalso
        have hkj:k=j:=by omega
        subst hkj G;rw[t.o]at s;simp at s;subst s;rw[HM.o,HMJ.o]at H;simp at H;subst H;simp[Ef,nC,qj]at hr)
       clear l;go_wp2;go_roundg (gk-1)
       case measure=>omega
       case rel=>exact⟨j+1,by omega,by go_num,F,E,u⟩
      case true =>
       have S:Z_ (Ef (bK,sg,val)=true):=by show _=_;simp[Ef,nC,qj]
       have NR:=aj (Xg val wr Ez);go_wp2_with fail
       refine(NR.o).mono ?_;rintro e v ⟨O,q2,rfl,jk⟩;have F2:=aj (F.o.trans O.nil);have E:=aj (A.o.aC O);have Y:=aj jk;have I:v.heap[g]?=some (.cells cur 108 (0,0)):=(O.block g atO (by simp)).trans HG;have m3:v.cell? ⟨g,j*4+3,none⟩=some (.pointer q):=by rw[cell_of_row v g _ cur _ _ I];exact K3
       have z3:v.frozen? ⟨g,j*4+3,none⟩=false:=by simp[World.frozen?,I]
       have e9:=(DD.o v F2).2;have Z:=aj I;clear I O jk NR
       by_cases hz:gH val=0
       .obtain⟨x1,n1,CG,hq,uT⟩:=Y.o hz
        subst hq;have A3:=aj (E.o.set t.o (by rw[D.o];rfl) Z.o K2.o CG uT);have u:Z_ (inF (M.drop (j+1)) i f=d):=by
         show _=_;have:=l.o;rw[hz]at this;simp only[a3d,a2O,Bool.and_false,a0A,a0I]at this;exact this.symm
        have GM:Z_ (g∈QB X):=by
         show _∈_;unfold QB;exact List.mem_filterMap.2 ⟨x,a0B t,by rw[D.o];rfl⟩
        have A4:Z_ (JN (v.setCell ⟨g,j*4+3,none⟩ (.pointer (some ⟨n1,0,none⟩))) X (λa c=>a<i\/(a=i/\c<j+1))):=λa y s=>(A3.o a y s).mono (λk m' _ h _=>by
         rcases h with h|⟨G,h2⟩
         .exact .inl (.inl h)
         rcases a2a k j with p|p
         .exact .inl (.inr ⟨G,p⟩)
         exact .inr ⟨G,by omega⟩)
        rw[hz];clear l Y A3 E hz CG uT;go_wp2;go_roundg (gk-1)
        case measure=>omega
        case rel=>exact⟨j+1,by omega,by go_num,F2.o.setCell (.inl GM.o) _,A4,u⟩
       have u:Z_ (d=(gH val,i+2)):=by
        show _=_;have:=l.o;rw[S.o,a0j.2 hz]at this;exact this
       have bJ:((gH val:Int)==0)=false:=a0j.2 (by omega);have HZ:=aj hz;clear l Y E hz;generalize gH val=rc at *;go_wp2_with fail
       go_quiet (fail)
       go_wp2;go_ret2;refine TJ.o _ _ (by rw[u.o];rfl) (F2.o.drewN _) (λh=>?_);rw[u.o]at h;exact absurd h HZ
     case true =>
      have S:Z_ (Ef (bK,sg,val)=true):=by show _=_;simp[Ef,nC]
      have NR:=aj (Xg val wr Ez);go_wp2_with fail
      refine(NR.o).mono ?_;rintro e v ⟨O,q2,rfl,jk⟩;have F2:=aj (F.o.trans O.nil);have E:=aj (A.o.aC O);have Y:=aj jk;have I:v.heap[g]?=some (.cells cur 108 (0,0)):=(O.block g atO (by simp)).trans HG;have m3:v.cell? ⟨g,j*4+3,none⟩=some (.pointer q):=by rw[cell_of_row v g _ cur _ _ I];exact K3
      have z3:v.frozen? ⟨g,j*4+3,none⟩=false:=by simp[World.frozen?,I]
      have e9:=(DD.o v F2).2;have Z:=aj I;clear I O jk NR
      by_cases hz:gH val=0
      .obtain⟨x1,n1,CG,hq,uT⟩:=Y.o hz
       subst hq;have A3:=aj (E.o.set t.o (by rw[D.o];rfl) Z.o K2.o CG uT);have u:Z_ (inF (M.drop (j+1)) i f=d):=by
        show _=_;have:=l.o;rw[hz]at this;simp only[a3d,a2O,Bool.and_false,a0A,a0I]at this;exact this.symm
       have GM:Z_ (g∈QB X):=by
        show _∈_;unfold QB;exact List.mem_filterMap.2 ⟨x,a0B t,by rw[D.o];rfl⟩
       have A4:Z_ (JN (v.setCell ⟨g,j*4+3,none⟩ (.pointer (some ⟨n1,0,none⟩))) X (λa c=>a<i\/(a=i/\c<j+1))):=λa y s=>(A3.o a y s).mono (λk m' _ h _=>by
        rcases h with h|⟨G,h2⟩
        .exact .inl (.inl h)
        rcases a2a k j with p|p
        .exact .inl (.inr ⟨G,p⟩)
        exact .inr ⟨G,by omega⟩)
       rw[hz];clear l Y A3 E hz CG uT;go_wp2;go_roundg (gk-1)
       case measure=>omega
       case rel=>exact⟨j+1,by omega,by go_num,F2.o.setCell (.inl GM.o) _,A4,u⟩
      have u:Z_ (d=(gH val,i+2)):=by
       show _=_;have:=l.o;rw[S.o,a0j.2 hz]at this;exact this
      have bJ:((gH val:Int)==0)=false:=a0j.2 (by omega);have HZ:=aj hz;clear l Y E hz;generalize gH val=rc at *;go_wp2_with fail
      go_quiet (fail)
      go_wp2;go_ret2;refine TJ.o _ _ (by rw[u.o];rfl) (F2.o.drewN _) (λh=>?_);rw[u.o]at h;exact absurd h HZ
    have u:Z_ (f=d):=by
     show _=_;have:=GO.o;rw[a0i (by have:=C.o;omega)]at this;exact this
    have E:Z_ (JN wr X (λa _=>a<i+1)):=λa y s=>(A.o a y s).mono (λk m' H h hr=>by
     rcases a2a a i with p|p
     .exact .inl p
     have L:a=i:=by omega
     refine .inr ⟨L,?_⟩;subst L;rw[t.o]at s;simp at s;subst s;have:=(a0d.1 H).1;rw[HM.o]at this;have:=C.o;omega)
    go_wp2;go_roundg (go-1)
    case measure=>omega
    case rel=>exact⟨i+1,by omega,by go_num,F,E,by rw[au3.o];exact u⟩
  have u:Z_ (d=(0,0)):=by
   show _=_;rw[<-GO.o,a0i (by simp;omega)];rfl
  have E:Z_ (JN P X (λ_ _=>True)):=λa y s=>(A.o a y s).mono (λk m' _ _ _=>by
   have:=(a0d.1 s).1;omega)
  go_wp2;go_ret2;exact TJ.o _ _ (by rw[u.o];rfl) F.o (λ_=>E)
def nb:Nat->Nat->LB
 | 0,_=>[]
 | n+1,v=>nb n (v / 256)++[UInt8.ofNat (v % 256)]
abbrev PT(α:Type):Type:=LB->Option (α × LB)
structure gz where
 k:Nat
 cl:LN
 acc:LN
 nx:LN
structure jd where
 n:Nat
 k:Nat
 x:Nat
structure kN where
 rc:LB
 bl:List LB
 wt:Nat
 ev:Nat
 rp:Nat
structure bX where
 op:Nat
 x:Nat
 a:Nat
 b:Nat
def stands(nr nt n i:Nat)(c:bX):Bool :=
 match c.op with
 | 0=>c.x==0&&c.a==0&&c.b==0
 | 1=>decide (c.x<nr)&&(decide (i<c.a)&&decide (c.a<n))&&c.b==0
 | 2=>decide (c.x<nt)&&(decide (i<c.a)&&decide (c.a<n))&&(decide (i<c.b)&&decide (c.b<n))
 | _=>false
structure mP where
 names:List LB
 consts:List LB
 pR:List gz
 tests:List jd
 routes:List kN
 code:List bX
def Bo(n:LB):Prop:=n.length<9/\aJ n=true
structure wC(a:gz):Prop where
 s1:1<=a.acc.length
 s2:a.acc.length<=40
 k1:1<=a.k
 k2:a.k<=256
 cl:a.cl.length=256
 cls:∀c∈a.cl,c<a.k
 acc:∀c∈a.acc,c<2
 nx:a.nx.length=a.acc.length*a.k
 nxs:∀c∈a.nx,c<a.acc.length
structure Lu(nn nc na:Nat)(t:jd):Prop where
 n:t.n<nn
 k:t.k<2
 x:t.x<if t.k=1 then na else nc
structure afH(h:kN):Prop where
 rc:Bo h.rc
 b1:h.bl.length<5
 b2:∀n∈h.bl,Bo n
 wt:h.wt<100000
 ev:h.ev<100000
 rp:h.rp<100000
structure awT(nr nt n i:Nat)(c:bX):Prop where
 s:stands nr nt n i c=true
 op:c.op<3
 x:c.x<256
 a:c.a<65536
 b:c.b<65536
structure MOK(m:mP):Prop where
 names:m.names.length<256/\∀n∈m.names,Bo n
 consts:m.consts.length<256/\∀n∈m.consts,n.length<41
 pR:m.pR.length<256/\∀a∈m.pR,wC a
 tests:m.tests.length<256/\∀t∈m.tests,Lu m.names.length m.consts.length m.pR.length t
 routes:m.routes.length<17/\∀h∈m.routes,afH h
 code:1<=m.code.length/\m.code.length<65536/\∀j (h:j<m.code.length),awT m.routes.length m.tests.length m.code.length j m.code[j]
def yC(a:gz)(s:Nat):LB->Nat
 | []=>s
 | b::v=>yC a (a.nx.getD (s*a.k+a.cl.getD b.toNat 0) 0) v
def Jz(m:mP)(v:LB)(t:jd):Bool :=
 if t.k=0 then v==m.consts.getD t.x [] else (m.pR.getD t.x ⟨0,[],[],[]⟩).acc.getD (yC (m.pR.getD t.x ⟨0,[],[],[]⟩) 0 v) 0==1
def runM(m:mP)(V:LB->LB):Nat->Nat->LN
 | 0,_=>[]
 | n+1,k=>match m.code[k]? with
   | some c=>match c.op with
     | 0=>[]
     | 1=>c.x::runM m V n c.a
     | _=>match m.tests[c.x]? with
       | some t=>runM m V n (if Jz m (V (m.names.getD t.n [])) t then c.a else c.b)
       | none=>[]
   | none=>[]
def RW(A:LN)(k:Nat)(w:World)(v:Value)(vs:List (List Value)):Prop :=
 ∃a cap,v=.slice a vs.length cap/\vs.length<=cap/\∀(j:Nat) (h:j<vs.length),∃g off,a=some (zB g off)/\g∉A/\g<w.heap.size/\∀c x,vs[j][c]?=some x->w.cell? (zB g (off+j*k+c))=some x
theorem RW.aC(h:RW A k w v vs)(f:aB S w w')(m:∀g∈S,g∈A):RW A k w' v vs:=by obtain⟨a,cap,rfl,q,o⟩:=h;refine⟨a,cap,rfl,q,λj l=>?_⟩;obtain⟨g,off,rfl,d,b,n⟩:=o j l;exact⟨g,off,rfl,d,a0t b f.size,λc x e=>(f.cell (p:=(zB g (off+j*k+c))) b (λi=>d (m g i))).trans (n c x e)⟩
def RW.cO(h:RW A k w v vs)(d:∀g∈B,g∈A\/w.heap.size<=g):RW B k w v vs:=by
 obtain⟨a,cap,rfl,m,l⟩:=h;refine⟨a,cap,rfl,m,λj c=>?_⟩;obtain⟨g,off,rfl,i,f,e⟩:=l j c;refine⟨g,off,rfl,λb=>?_,f,e⟩;rcases d g b with h|h
 .exact i h
 omega
theorem RW.nil(A:LN)(k:Nat)(w:World):RW A k w zN []:=⟨none,0,rfl,a0b _,λj a=>absurd a (by simp)⟩
def OW(e:TypeId)(k base:Nat)(w:World)(v:Value)(vs:List (List Value)):Prop:=w.ownsRow base e k v vs.length vs.flatten/\∀x∈vs,x.length=k
theorem OW.nil(e:TypeId)(k base:Nat)(w:World):OW e k base w zN []:=⟨World.ownsRow_nil w base e k,by simp⟩
theorem OW.aC{base:Nat}(h:OW e k base w v vs)(f:aB S w w')(a:∀g∈S,g<base):OW e k base w' v vs:=⟨fG h.1 f a,h.2⟩
theorem OW.shape{base:Nat}(h:OW e k base w v vs):∃a cap,v=.slice a vs.length cap:=by
 rcases h.1.2 with⟨e,b⟩|⟨g,cap,cur,e,_⟩
 .grind
 exact⟨_,_,e⟩
theorem OW.lt{base:Nat}(h:OW e k base w v vs) {g:Nat}(a:v.ownBlock=some g):base<=g/\g<w.heap.size:=h.1.lt g a
def OW.empty(e:TypeId)(k base:Nat)(w:World)(hb:base<=w.heap.size):OW e k base (w.alloc (.cells #[] e)) (zS w.heap.size 0 0) []:=by refine⟨⟨by simp,.inr ⟨w.heap.size,0,#[],rfl,hb,?_,a0b _,by unfold maxLen;omega,by simp,by simp⟩⟩,by simp⟩;show(w.heap.push (.cells #[] e))[w.heap.size]?=_;simp
theorem abr:∀(vs:List (List Value)),(∀x∈vs,x.length=k)->∀(j:Nat) (h:j<vs.length) (c:Nat) (x:Value),vs[j][c]?=some x->vs.flatten[j*k+c]?=some x
 | [],_,j,h,_,_,_=>absurd h (by simp)
 | y::vs,a,0,_,c,x,b=>by grind
 | y::vs,a,j+1,h,c,x,b=>by have d:=a y (by simp);have e:(j+1)*k=j*k+k:=Nat.succ_mul j k;rw[List.flatten_cons,a0K (by omega),show(j+1)*k+c-y.length=j*k+c by omega];exact abr vs (λz hz=>a z (by simp[hz])) j (by simpa using h) c x (by simpa using b)
theorem OW.rw{base:Nat}(h:OW e k base w v vs)(i:∀g,v.ownBlock=some g->g∉A):RW A k w v vs:=by
 rcases h.1.2 with⟨rfl,n⟩|⟨g,cap,cur,rfl,hb,f,b,m,l,ht⟩
 .grind [RW.nil,RW]
 refine⟨_,cap,rfl,b,λj d=>⟨g,0,rfl,i g rfl,(a0c.1 f).1,λc x a=>?_⟩⟩;have:=World.ownsRow.cells h.1 (g:=g) rfl (j*k+c) x (abr vs h.2 j d c x a)
 rwa [add0,show j*k+c=0+j*k+c by omega]at this
def kg {z:Value}(h:(Tryz.prog.info? e).map (λi=>(i.zero,i.size,i.bytes))=some (some z,k,b)):∃i,Tryz.prog.info? e=some i/\i.zero=some z/\i.size=k/\i.bytes=b:=by simp_all
theorem qD {o:Oper} {Q:Exit->Act->World->Prop}(w:World)(m:o.guard=none)(s x:Operand)(t e:TypeId)(z:Value)(k c:Nat)
 (I:(Tryz.prog.info? e).map (λi=>(i.zero,i.size,i.bytes))=some (some z,k,c)) (ht:Tryz.prog.underlying t=some (.slice e)) (H:z.cells.size=k) (G:0<k)
 (ho:o.op=.call { callee:=.builtin .append,args:=#[s,x],argTypes:=#[t,t] })
 (base:Nat) (v:Value) (vs:List (List Value)) (b1:Nat) (cs:List Value) (r:a.eval s=v) (f:OW e k base w v vs) (p:a.eval x=zS b1 1 1)
 (d:cs.length=k) (J:∀j u,cs[j]?=some u->zC w b1 j u) (q:∀u∈cs,u.oneCell'=true) (hlen:(vs.length+1)*c<=140737488355328) (M:vs.length<=140737488355328) (l:base<=w.heap.size)
 (h:∀g cap w',OW e k base w' (zS g (vs.length+1) cap) (vs++[cs])->w.grownBy w' v.ownBlock->(v.ownBlock=some g\/g=w.heap.size)->g<w'.heap.size->wpList Tryz.prog ops Q rest (a.put o.dst (zS g (vs.length+1) cap)) w') :
 wpList Tryz.prog ops Q (o::rest) a w:=by
 obtain⟨n,A,gT,F,E⟩:=kg I;refine wpList_append_lies w m s x t ho base e n z k c ht A gT F E H G v vs.length vs.flatten r f.1 (zA b1) 1 1 cs p (by rw[d];omega) ?_ q (by decide) (by unfold maxLen;omega) hlen l w.heap.size rfl ?_
 .grind [add0]
 intro g cap w' L D C B;refine h g cap w' ⟨?_,?_⟩ D C B
 .grind
 intro y b;rw[a0e,a0w]at b;rcases b with b|rfl
 .exact f.2 y b
 exact d
structure V6 where
 n:Value
 c:Value
 a:Value
 t:Value
 r:Value
 i:Value
def sc(L:List LB):List (List Value):=L.map λs=>[zT s]
theorem abt{s:LB}:sc L++[[zT s]]=sc (L++[s]):=by simp[sc]
theorem iC(L:List LB):(sc L).length=L.length:=by simp[sc]
theorem ant {o:Oper} {Q:Exit->Act->World->Prop}(d:o.guard=none)
 (ho:o.op=.call { callee:=.builtin .append,args:=#[s,x],argTypes:=#[48,48] })
 (base:Nat) (v:Value) (acc:List LB) (b1:Nat) (y:LB) (f:a.eval s=v) (j:OW 9 1 base w v (sc acc)) (e:a.eval x=zS b1 1 1)
 (k:zC w b1 0 (zT y)) (hlen:acc.length<=1000000) (c:base<=w.heap.size)
 (h:∀g cap w',OW 9 1 base w' (zS g (acc.length+1) cap) (sc (acc++[y]))->w.grownBy w' v.ownBlock->(v.ownBlock=some g\/g=w.heap.size)->g<w'.heap.size->wpList Tryz.prog ops Q rest (a.put o.dst (zS g (acc.length+1) cap)) w') :
 wpList Tryz.prog ops Q (o::rest) a w:=by
 have i:=iC acc;refine qD w d s x 48 9 (.string ByteArray.empty) 1 16 uY Tryz.underlying48 rfl (by decide) ho base v (sc acc) b1 [zT y] f j e rfl ?_ ?_ (by omega) (by omega) c ?_
 .grind
 .intro u b
  simp at b;subst b;rfl
 rw[i,abt];exact h
theorem aB.over{T:LN} {a b c:World}(h:aB T a b)(k:aB S b c)(j:∀x∈S,a.heap.size<=x\/x∈T):aB T a c :=
 ⟨k.os.trans h.os,k.tape.trans h.tape,k.output.trans h.output,a0h h.size k.size,λi e f=>by rw[k.block i (a0t e h.size) (λg=>by rcases j i g with d|d;exact absurd d (by omega);exact f d)];exact h.block i e f⟩
def bc(L:LN):List (List Value):=L.map λa=>[.bool (a==1)]
def ic(L:LN):List (List Value):=L.map λ(n:Nat)=>[zI n]
theorem aqp{L:LN}{s:Nat}:ic L++[[zI s]]=ic (L++[s]):=by simp[ic]
theorem afI{L:LN}:(bc L).length=L.length:=by simp[bc]
theorem TM(L:LN):(ic L).length=L.length:=by simp[ic]
theorem anu {o:Oper} {Q:Exit->Act->World->Prop}(d:o.guard=none)
 (ho:o.op=.call { callee:=.builtin .append,args:=#[s,x],argTypes:=#[117,117] })
 (base:Nat) (v:Value) (acc:LN) (b1:Nat) (y:Nat) (f:a.eval s=v) (j:OW 3 1 base w v (ic acc)) (e:a.eval x=zS b1 1 1)
 (k:zC w b1 0 (zI y)) (hlen:acc.length<=1000000) (c:base<=w.heap.size)
 (h:∀g cap w',OW 3 1 base w' (zS g (acc.length+1) cap) (ic (acc++[y]))->w.grownBy w' v.ownBlock->(v.ownBlock=some g\/g=w.heap.size)->g<w'.heap.size->wpList Tryz.prog ops Q rest (a.put o.dst (zS g (acc.length+1) cap)) w') :
 wpList Tryz.prog ops Q (o::rest) a w:=by
 have i:=TM acc;refine qD w d s x 117 3 (zI 0) 1 8 ZB Tryz.underlying117 rfl (by decide) ho base v (ic acc) b1 [zI y] f j e rfl ?_ ?_ (by omega) (by omega) c ?_
 .grind
 .intro u b
  simp only[a0w]at b;subst b;rfl
 rw[i,aqp];exact h
theorem OW.aY{base:Nat}(h:OW e k base w v vs)(f:aB S w w')(c:∀r,v.ownBlock=some r->r∉S):OW e k base w' v vs:=by
 refine⟨⟨h.1.1,?_⟩,h.2⟩;rcases h.1.2 with b|⟨g,cap,cur,rfl,hb,a,rest⟩
 .exact .inl b
 exact .inr ⟨g,cap,cur,rfl,hb,(f.block g (a0c.1 a).1 (c g rfl)).trans a,rest⟩
theorem OW.base{base b2:Nat}(h:OW e k base w v vs)(hb:b2<=base):OW e k b2 w v vs:=by
 refine⟨⟨h.1.1,?_⟩,h.2⟩;rcases h.1.2 with a|⟨g,cap,cur,rfl,b,rest⟩
 .exact .inl a
 exact .inr ⟨g,cap,cur,rfl,by omega,rest⟩
theorem CU {o:Oper} {K:Act->World->Prop} {Q:Exit->Act->World->Prop}(l:o.guard=none)(t e:TypeId){z:Value}(k c:Nat)
 (I:(Tryz.prog.info? e).map (λi=>(i.zero,i.size,i.bytes))=some (some z,k,c)) (ht:Tryz.prog.underlying t=some (.slice e)) (G:z.cells.size=k) (F:0<k)
 (ho:o.op=.call { callee:=.builtin .append,args:=#[s,x],argTypes:=#[t,t] })
 (base:Nat) (v:Value) (vs:List (List Value)) (b1:Nat) (cs:Array Value) (fr:Nat × Nat) (p:a.eval s=v) (d:OW e k base w v vs) (n:a.eval x=zS b1 1 1)
 (f:cs.size=k) (hb:w.heap[b1]?=some (.cells cs e fr)) (J:cs.all (·.oneCell')=true) (hlen:(vs.length+1)*c<=140737488355328) (M:vs.length<=140737488355328) (j:base<=w.heap.size) (H:Nat) (r:w.heap.size=H)
 (h:∀g cap w',OW e k base w' (zS g (vs.length+1) cap) (vs++[cs.toList])->w.grownBy w' v.ownBlock->(v.ownBlock=some g\/g=H)->g<w'.heap.size->K (a.put o.dst (zS g (vs.length+1) cap)) w') :
 if Region.wanted o (yielded ops a.tmps)=true then Oper.wp Tryz.prog o a w K Q else E:=by
 obtain⟨m,q,gT,D,C⟩:=kg I;refine step_append_lies w l s x t ho base e m z k c ht q gT D C G F v vs.length vs.flatten p d.1 (zA b1) 1 1 cs.toList n (by rw[a3o,f];omega) (World.news_of_block hb) ?_ (by decide) (by unfold maxLen;omega) hlen j H r ?_
 .grind [Array.all_eq_true_iff_forall_mem]
 intro g cap w' L B A u;refine h g cap w' ⟨?_,?_⟩ B A u
 .grind
 intro y b;rw[a0e,a0w]at b;rcases b with b|rfl
 .exact d.2 y b
 grind
def kV(x:jd):Array Value:=#[zI x.n,zI x.k,zI x.x]
def tc(L:List jd):List (List Value):=L.map λx=>(kV x).toList
def akj(x:jd):(kV x).all (·.oneCell')=true:=by simp[kV,Value.oneCell']
theorem YX{L:List jd}:(tc L).length=L.length:=by simp[tc]
theorem aqr{L:List jd}(x:jd):tc L++[(kV x).toList]=tc (L++[x]):=by simp[tc]
def anv:(Tryz.prog.info? 113).map (λi=>(i.zero,i.size,i.bytes))=some (some (.agg #[zI 0,zI 0,zI 0]),3,24):=by kernel_rfl
structure TQ(α:Type) where
 rel:LN->World->Array Value->α->Prop
 aC:∀{A S:LN} {w w':World} {cs:Array Value} {x:α},rel A w cs x->aB S w w'->(∀g∈S,g∈A)->rel A w' cs x
 cO:∀{A B:LN} {w:World} {cs:Array Value} {x:α},rel A w cs x->(∀g∈B,g∈A\/w.heap.size<=g)->rel B w cs x
def dV{α:Type}(I:TQ α)(A:LN)(w:World)(a:List (Array Value))(xs:List α):Prop:=a.length=xs.length/\∀(n:Nat) cs x,a[n]?=some cs->xs[n]?=some x->I.rel A w cs x
theorem dV.nil(I:TQ α)(A:LN)(w:World):dV I A w [] []:=⟨rfl,λn cs x h=>by simp at h⟩
theorem dV.aC {I:TQ α} {a:List (Array Value)} {xs:List α}(h:dV I A w a xs)(f:aB S w w')(b:∀g∈S,g∈A):dV I A w' a xs:=⟨h.1,λn cs x d c=>I.aC (h.2 n cs x d c) f b⟩
def dV.cO {I:TQ α} {a:List (Array Value)} {xs:List α}(h:dV I A w a xs)(b:∀g∈B,g∈A\/w.heap.size<=g):dV I B w a xs:=⟨h.1,λn cs x d c=>I.cO (h.2 n cs x d c) b⟩
theorem dV.snoc {I:TQ α} {e:List (Array Value)} {xs:List α} {x:α}(h:dV I A w e xs)(f:I.rel A w cs x):dV I A w (e++[cs]) (xs++[x]):=by
 refine⟨by simp[h.1],λn c y d b=>?_⟩;rcases Nat.lt_trichotomy n e.length with a|a|a
 .rw[a0s a]at d
  rw[a0s (by rw[<-h.1];exact a)]at b;exact h.2 n c y d b
 .subst a
  rw[a0K (a0b _)]at d;rw[a0K (by rw[h.1];exact a0b _),h.1]at b;simp at d b;subst d b;exact f
 grind
theorem dV.app {I:TQ α} {g:Nat} {row:Option Nat} {b:List (Array Value)} {xs:List α}(h:dV I (A++row.toList) w b xs)(c:w.grownBy w' row)(i:row=some g\/g=w.heap.size):dV I (A++[g]) w' b xs:=by
 have f:dV I (A++(g::row.toList)) w b xs:=h.cO (by
  intro x a;simp at a;rcases a with a|rfl|a
  .left;simp[a]
  .grind
  left;simp[a])
 have d:dV I (A++(g::row.toList)) w' b xs:=f.aC (S:=row.toList) ((aB.refl row.toList w).grown c (λr e=>.inl (by simp[e]))) (by intro x a;simp at a;simp[a]);exact d.cO (by intro x a;left;simp at a |-;rcases a with a|a<;>simp[a])
def fZ(a:List (Array Value)):List (List Value):=a.map (·.toList)
theorem jA(a:List (Array Value)):(fZ a).length=a.length:=by simp[fZ]
theorem Gi(a:List (Array Value))(c:Array Value):fZ a++[c.toList]=fZ (a++[c]):=by simp[fZ]
def Lv(x:gz)(b a:Value):Array Value:=(Value.int .i64 x.k::(nv .u8 x.cl++[b,a])).toArray
def adY:TQ gz where
 rel A w cs x:=∃b a,cs=Lv x b a/\RW A 1 w b (bc x.acc)/\RW A 1 w a (ic x.nx)
 aC:=by rintro A S w w' cs x ⟨b,a,e,d,c⟩ f g;exact⟨b,a,e,d.aC f g,c.aC f g⟩
 cO:=by rintro A B w cs x ⟨b,a,e,d,c⟩ h;exact⟨b,a,e,d.cO h,c.cO h⟩
def ahU:(Tryz.prog.info? 119).map (λi=>(i.zero,i.size,i.bytes))=some (some (.agg Tryz.zeroCells119),259,312):=by kernel_rfl
def Lx {o:Oper} {K:Act->World->Prop} {Q:Exit->Act->World->Prop}(b:o.guard=none)(ho:o.op=.load 119 x)(g:Nat)(c:a.eval x=zP g)(cs:Array Value)(e:(loadVar 119 (zA g)).run Tryz.prog w=.ok (.agg cs) w)(h:K (a.put o.dst (.agg cs)) w) :
 if Region.wanted o (yielded ops a.tmps)=true then Oper.wp Tryz.prog o a w K Q else E:=by
 have d:Region.wanted o (yielded ops a.tmps)=true:=by simp[Region.wanted,b]
 rw[a0m d];exact H9 x ho g c cs e h
def AA {o:Oper} {K:Act->World->Prop} {Q:Exit->Act->World->Prop}(d:o.guard=none)(ho:o.op=.buildSlice 49 1 #[(0,x)])(cs:Array Value)(g:a.eval x=.agg cs)(j:cs.size=259)(h:K (a.put o.dst (zS w.heap.size 1 1)) (w.alloc (.cells cs 119))) :
 if Region.wanted o (yielded ops a.tmps)=true then Oper.wp Tryz.prog o a w K Q else E:=by
 have i:Region.wanted o (yielded ops a.tmps)=true:=by simp[Region.wanted,d]
 rw[a0m i];obtain⟨f,k,gT,b,m⟩:=kg ahU;refine wp_buildSlice 49 119 1 _ ho cs f _ Tryz.underlying49 k gT (by rw[b];decide) (by rw[b];decide) ?_ h;have e:((#[(0,x)]:Array (Nat × Operand)).map λ(y:Nat × Operand)=>(y.1,a.eval y.2)).toList=(([Value.agg cs]:List Value).zipIdx 0).map λy=>(y.2,y.1):=by simp[g]
 have l:=Great.fill_whole (s:=259) (by omega) [Value.agg cs] ((Array.range (1*259)).map ((Value.agg Tryz.zeroCells119).cells[· % (Value.agg Tryz.zeroCells119).cells.size]!)) (by intro v c;simp at c;subst c;exact j) (by simp);rw[b];refine Eq.trans (congrArg _ e) (l.trans ?_);simp[Value.cells]
def RW.str(h:RW A 1 w v (sc L)):∃a cap,v=.slice a L.length cap/\∀(j:Nat) (b:j<L.length),∃g off,a=some (zB g off)/\g<w.heap.size/\zC w g (off+j) (.string (bs L[j])):=by
 obtain⟨a,cap,rfl,i,f⟩:=h;refine⟨a,cap,by rw[iC],λj b=>?_⟩;obtain⟨g,off,e,_,d,c⟩:=f j (by rw[iC];exact b);refine⟨g,off,e,d,?_⟩;have:=c 0 (.string (bs L[j])) (by simp[sc])
 rwa [a1H,a1Q]at this
def aO(x:kN)(a:Value):Array Value:=#[zT x.rc,a,zI x.wt,zI x.ev,zI x.rp]
def Gj:TQ kN where
 rel A w cs x:=∃a,cs=aO x a/\RW A 1 w a (sc x.bl)
 aC:=by rintro A S w w' cs x ⟨a,c,b⟩ f d;exact⟨a,c,b.aC f d⟩
 cO:=by rintro A B w cs x ⟨a,c,b⟩ e;exact⟨a,c,b.cO e⟩
abbrev hz:Array Value:=#[.string ByteArray.empty,zN,zI 0,zI 0,zI 0]
def aqs:(Tryz.prog.info? 63).map (·.size)=some 5:=by kernel_rfl
def yZ {g:Nat}(e d c b a:Value)(h:w.heap[g]?=some (.cells #[o0,o1,o2,o3,o4] t (0,0))):(((((w.setCell (zA g) e).setCell (zB g 1) d).setCell (zB g 2) c).setCell (zB g 3) b).setCell (zB g 4) a).heap[g]?=some (.cells #[e,d,c,b,a] t (0,0)):=by simp[World.setCell,a0v,h]
def l8(w:World)(g:Nat)(e d c b a:Value):aB [g] w (((((w.setCell (zA g) e).setCell (zB g 1) d).setCell (zB g 2) c).setCell (zB g 3) b).setCell (zB g 4) a) :=
 (((((aB.refl [g] w).setCell (p:=(zA g)) (.inl (by simp)) e).setCell (p:=(zB g 1)) (.inl (by simp)) d).setCell (p:=(zB g 2)) (.inl (by simp)) c).setCell (p:=(zB g 3)) (.inl (by simp)) b).setCell (p:=(zB g 4)) (.inl (by simp)) a
def Gl {g:Nat}(h:w.heap[g]?=some (.cells cs 63 (0,0)))(a:cs.size=5):(loadVar 63 (zA g)).run Tryz.prog w=.ok (.agg cs) w :=
 run_loadVar_row w g 63 63 cs (0,0) _ h Tryz.underlying63 rfl (by rw[a];exact aqs)
def CV:(Tryz.prog.info? 63).map (λi=>(i.zero,i.size,i.bytes))=some (some (.agg hz),5,64):=by kernel_rfl
def jT(x:bX):Array Value:=#[zI x.op,zI x.x,zI x.a,zI x.b]
def akk(x:bX):(jT x).all (·.oneCell')=true:=by simp[jT,Value.oneCell']
def uj(L:List bX):List (List Value):=L.map λx=>(jT x).toList
theorem CZ(L:List bX):(uj L).length=L.length:=by simp[uj]
theorem Nb{L:List bX}(x:bX):uj L++[(jT x).toList]=uj (L++[x]):=by simp[uj]
def TS:(Tryz.prog.info? 78).map (λi=>(i.zero,i.size,i.bytes))=some (some (.agg #[zI 0,zI 0,zI 0,zI 0]),4,32):=by kernel_rfl
def VB {g:Nat}(d c b a:Value)(h:w.heap[g]?=some (.cells #[o0,o1,o2,o3] t (0,0))):((((w.setCell (zA g) d).setCell (zB g 1) c).setCell (zB g 2) b).setCell (zB g 3) a).heap[g]?=some (.cells #[d,c,b,a] t (0,0)):=by simp[World.setCell,a0v,h]
def Nc(w:World)(g:Nat)(d c b a:Value):aB [g] w ((((w.setCell (zA g) d).setCell (zB g 1) c).setCell (zB g 2) b).setCell (zB g 3) a) :=
 ((((aB.refl [g] w).setCell (p:=(zA g)) (.inl (by simp)) d).setCell (p:=(zB g 1)) (.inl (by simp)) c).setCell (p:=(zB g 2)) (.inl (by simp)) b).setCell (p:=(zB g 3)) (.inl (by simp)) a
structure PG(A:LN)(w:World)(V:V6)(m:mP):Prop where
 n:RW A 1 w V.n (sc m.names)
 c:RW A 1 w V.c (sc m.consts)
 a:∃bB,RW A 259 w V.a (fZ bB)/\dV adY A w bB m.pR
 t:RW A 3 w V.t (tc m.tests)
 r:∃bB,RW A 5 w V.r (fZ bB)/\dV Gj A w bB m.routes
 i:RW A 4 w V.i (uj m.code)
theorem PG.aC {V:V6} {m:mP}(h:PG A w V m)(f:aB S w w')(b:∀g∈S,g∈A):PG A w' V m:=by obtain⟨o,l,k⟩:=h.a;obtain⟨d,j,e⟩:=h.r;exact⟨h.n.aC f b,h.c.aC f b,⟨o,l.aC f b,k.aC f b⟩,h.t.aC f b,⟨d,j.aC f b,e.aC f b⟩,h.i.aC f b⟩
def PG.cO {V:V6} {m:mP}(h:PG A w V m)(b:∀g∈B,g∈A\/w.heap.size<=g):PG B w V m:=by obtain⟨l,k,j⟩:=h.a;obtain⟨d,f,e⟩:=h.r;exact⟨h.n.cO b,h.c.cO b,⟨l,k.cO b,j.cO b⟩,h.t.cO b,⟨d,f.cO b,e.cO b⟩,h.i.cO b⟩
def V6.z:V6:=⟨zN,zN,zN,zN,zN,zN⟩
def V6.cells(V:V6):Array Value:=#[V.n,V.c,V.a,V.t,V.r,V.i]
def anw:(Tryz.prog.info? 53).map (·.size)=some 6:=by kernel_rfl
def adZ {g:Nat}(h:w.heap[g]?=some (.cells cs 53 (0,0)))(a:cs.size=6):(loadVar 53 (zA g)).run Tryz.prog w=.ok (.agg cs) w :=
 run_loadVar_row w g 53 53 cs (0,0) _ h Tryz.underlying53 rfl (by rw[a];exact anw)
def ad1 {g:Nat}{o5:Value}{f e d c b a:Value}(h:w.heap[g]?=some (.cells #[o0,o1,o2,o3,o4,o5] t (0,0))):((((((w.setCell (zA g) f).setCell (zB g 1) e).setCell (zB g 2) d).setCell (zB g 3) c).setCell (zB g 4) b).setCell (zB g 5) a).heap[g]?=some (.cells #[f,e,d,c,b,a] t (0,0)):=by simp[World.setCell,a0v,h]
def ad2(w:World)(g:Nat)(f e d c b a:Value):aB [g] w ((((((w.setCell (zA g) f).setCell (zB g 1) e).setCell (zB g 2) d).setCell (zB g 3) c).setCell (zB g 4) b).setCell (zB g 5) a) :=
 (((((((aB.refl [g] w).setCell (p:=(zA g)) (.inl (by simp)) f).setCell (p:=(zB g 1)) (.inl (by simp)) e).setCell (p:=(zB g 2)) (.inl (by simp)) d).setCell (p:=(zB g 3)) (.inl (by simp)) c).setCell (p:=(zB g 4)) (.inl (by simp)) b)).setCell (p:=(zB g 5)) (.inl (by simp)) a
theorem RW.num {L:LN}(h:RW A 1 w v (ic L)):∃a cap,v=.slice a L.length cap/\∀(j:Nat) (b:j<L.length),∃g off,a=some (zB g off)/\g<w.heap.size/\zC w g (off+j) (zI (L[j]:Nat)):=by
 obtain⟨a,cap,rfl,i,f⟩:=h;refine⟨a,cap,by rw[TM],λj b=>?_⟩;obtain⟨g,off,e,_,d,c⟩:=f j (by rw[TM];exact b);refine⟨g,off,e,d,?_⟩;have:=c 0 (zI (L[j]:Nat)) (by simp[ic])
 rwa [a1H,a1Q]at this
theorem RW.bool {L:LN}(h:RW A 1 w v (bc L)):∃a cap,v=.slice a L.length cap/\∀(j:Nat) (b:j<L.length),∃g off,a=some (zB g off)/\g<w.heap.size/\zC w g (off+j) (.bool (L[j]==1)):=by
 obtain⟨a,cap,rfl,i,f⟩:=h;refine⟨a,cap,by rw[afI],λj b=>?_⟩;obtain⟨g,off,e,_,d,c⟩:=f j (by rw[afI];exact b);refine⟨g,off,e,d,?_⟩;have:=c 0 (.bool (L[j]==1)) (by simp[bc])
 rwa [a1H,a1Q]at this
def sP {I:TQ α} {d:List (Array Value)} {xs:List α}(h:RW A k w v (fZ d))(i:dV I A w d xs) :
 ∃a cap,v=.slice a xs.length cap/\∀(j:Nat) (f:j<xs.length),∃g off cs,a=some (zB g off)/\g<w.heap.size/\g∉A/\I.rel A w cs xs[j]/\∀c x,cs[c]?=some x->zC w g (off+j*k+c) x:=by
 obtain⟨a,cap,rfl,q,p⟩:=h;refine⟨a,cap,by rw[jA,i.1],λj f=>?_⟩;have b:j<d.length:=by rw[i.1];exact f
 obtain⟨g,off,e,o,n,m⟩:=p j (by rw[jA];exact b);refine⟨g,off,d[j],e,n,o,i.2 j _ _ (a0a b) (a0a f),λc x l=>m c x ?_⟩;simp[fZ,l]
theorem aB.at {p:Addr}(f:aB [] w W)(a:p.block<w.heap.size)(h:w.cell? p=some v):W.cell? p=some v:=(f.cell a (by simp)).trans h
def LD:TQ kN where
 rel A w cs x:=∃g,cs=aO x (zS g x.bl.length x.bl.length)/\RW A 1 w (zS g x.bl.length x.bl.length) (sc x.bl)
 aC:=by rintro A S w w' cs x ⟨g,b,a⟩ f c;exact⟨g,b,a.aC f c⟩
 cO:=by rintro A B w cs x ⟨g,b,a⟩ d;exact⟨g,b,a.cO d⟩
def RW.afJ{g c:Nat}(h:RW A k w (zS g n c) vs)(f:g∉B):RW B k w (zS g n c) vs:=by obtain⟨a,cap,e,o,m⟩:=h;refine⟨a,cap,e,o,λj d=>?_⟩;obtain⟨p,off,b,q,l,i⟩:=m j d;refine⟨p,off,b,?_,l,i⟩;simp only[Value.slice.injEq]at e;rw[<-e.1]at b;simp only[Option.some.injEq,Addr.mk.injEq,a2u]at b;rw[<-b.1];exact f
theorem Nf(w:World)(o a:Obj):((w.alloc o).alloc a).heap[w.heap.size+1]?=some a:=by
 have:=bD (w.alloc o) a
 rwa [show(w.alloc o).heap.size=w.heap.size+1 by simp]at this
def aqt{o a:Obj}:(((w.alloc o).drewN k).alloc a).heap[w.heap.size+1]?=some a:=by
 have:=bD ((w.alloc o).drewN k) a
 rwa [show((w.alloc o).drewN k).heap.size=w.heap.size+1 by simp]at this
def OW.far{base:Nat}(h:OW e k base w v vs)(f:aB [b] w w')(hb:v.ownBlock≠some b):OW e k base w' v vs:=by
 refine⟨⟨h.1.1,?_⟩,h.2⟩;rcases h.1.2 with i|⟨g,cap,cur,rfl,d,a,rest⟩
 .exact .inl i
 refine .inr ⟨g,cap,cur,rfl,d,?_,rest⟩;rw[f.block g (a0c.1 a).1 (λc=>by simp at c;subst c;exact hb rfl)];exact a
def qE {fn:Func} {p:Tmp} {ty:TypeId}(h:fn.results=#[.cell p ty]){tmps:Array Value}(g:Nat)(cs:Array Value)
 (a:tmps.getD p undef=zP g) (b:(loadVar ty (zA g)).run Tryz.prog w=.ok (.agg cs) w) :
 (results fn tmps).run Tryz.prog w=.ok (.agg cs) w:=by
 have c:tmps[p]?.getD undef=zP g:=by simpa using a
 simp[results,h,c,asAddr,b]
structure AUm(w:World)(g q:Nat)(x:gz)(va vn:Value):Prop where
 lt:g<w.heap.size
 c0:w.cell? (zB g q)=some (zI x.k)
 cc:∀c,c<256->w.cell? (zB g (q+1+c))=some (.int .u8 (x.cl.getD c 0:Nat))
 ca:w.cell? (zB g (q+257))=some va
 cn:w.cell? (zB g (q+258))=some vn
theorem AUm.aC {g q:Nat} {x:gz} {b a:Value}(h:AUm w g q x b a)(f:aB [] w w'):AUm w' g q x b a :=
 ⟨a0t h.lt f.size,(f.cell h.lt (by simp)).trans h.c0,λc d=>(f.cell h.lt (by simp)).trans (h.cc c d),(f.cell h.lt (by simp)).trans h.ca,(f.cell h.lt (by simp)).trans h.cn⟩
structure PR(A:LN)(w:World)(pb:Nat)(V:V6)(m:mP):Prop where
 row:w.heap[pb]?=some (.cells V.cells 55 (0,0))
 pg:PG (pb::A) w V m
 av:pb∉A
theorem PR.aC {V:V6} {m:mP}(h:PR A w pb V m)(f:aB S w w')(a:∀g∈S,g∈A):PR A w' pb V m :=
 ⟨(f.block pb (a0c.1 h.row).1 (λb=>h.av (a _ b))).trans h.row,h.pg.aC f (λg c=>by simp[a g c]),h.av⟩
def PR.cO {V:V6} {m:mP}(h:PR A w pb V m)(c:∀g∈B,g∈A):PR B w pb V m:=⟨h.row,h.pg.cO (λg b=>by left;simp at b |-;rcases b with a|a;exact .inl a;exact .inr (c g a)),λd=>h.av (c _ d)⟩
def aB.TU {B:Nat}(f:aB S w W)(b:Below B W w')(d:w.heap.size<=B):aB S w w' :=
 ⟨b.os.trans f.os,b.tape.trans f.tape,b.output.trans f.output,a0h f.size b.size,λk a c=>(b.block k (by omega)).trans (f.block k a c)⟩
def VC:(Tryz.prog.info? 9).map (·.size)=some 1:=by kernel_rfl
def iL(L:List LB)(x:LB):Nat:=L.findIdx (·==x)
def l9(L:List LB)(x:LB):List LB:=if iL L x=L.length then L++[x] else L
def QE(a b:jd):Bool:=a.n==b.n&&(a.k==b.k&&a.x==b.x)
def C6(L:List jd)(x:jd):Nat:=L.findIdx (QE · x)
def pE(L:List jd)(x:jd):List jd:=if C6 L x=L.length then L++[x] else L
structure CS where
 n:List LB
 c:List LB
 x:List LB
 a:List gz
 t:List jd
 q:List (List (Nat × Bool))
def nP(re:LB->Nat)(bI:LB->gz)(s:CS)(m:CM):Option (jd × CS) :=
 if m.2.1=2\/m.2.1=3 then
  if iL s.x m.2.2<s.x.length then some (⟨iL s.n m.1,1,iL s.x m.2.2⟩,{ s with n:=l9 s.n m.1 })
  else if re m.2.2=0 then some (⟨iL s.n m.1,1,iL s.x m.2.2⟩,{ s with n:=l9 s.n m.1,x:=s.x++[m.2.2],a:=s.a++[bI m.2.2] })
  else none
 else some (⟨iL s.n m.1,0,iL s.c m.2.2⟩,{ s with n:=l9 s.n m.1,c:=l9 s.c m.2.2 })
def IV(m:CM):Bool:=m.2.1==0||m.2.1==2
def nu(re:LB->Nat)(bI:LB->gz):CS->List (Nat × Bool)->List CM->Except Nat (List (Nat × Bool) × CS)
 | s,acc,[]=>.ok (acc,s)
 | s,acc,m::r=>match nP re bI s m with
   | none=>.error (re m.2.2)
   | some (t,s1)=>nu re bI { s1 with t:=pE s1.t t } (acc++[(C6 s1.t t,IV m)]) r
def pread(re:LB->Nat)(bI:LB->gz):CS->Nat->List CR->Except (Nat × Nat) CS
 | s,_,[]=>.ok s
 | s,i,c::r=>match nu re bI s [] c.ifs with
   | .error e=>.error (e,i+2)
   | .ok (l,s1)=>pread re bI { s1 with q:=s1.q++[l] } (i+1) r
def nQ(C:List CR)(d:Nat):Nat->Option Nat
 | 0=>none
 | j+1=>if (C[j]?.map λc=>c.d+1)=some d then some j else nQ C d j
def par(C:List CR)(i:Nat):Option Nat:=match C[i]? with | some c=>nQ C c.d i|none=>none
def uk(x:Int)(y:Nat):Nat:=if x=-1 then y else x.toNat
def ny(a:kN)(r:CR):kN:=⟨if r.rc == [45] then a.rc else r.rc,if r.tb then r.jM else a.bl,uk r.wt a.wt,uk r.ev a.ev,uk r.rp a.rp⟩
def lQ:kN:=⟨[],[],30,300,14400⟩
def uK(C:List CR)(H:List kN)(i:Nat):kN:=match par C i with | some p=>H.getD p lQ|none=>lQ
def fD(C:List CR):Nat->List kN
 | 0=>[]
 | i+1=>fD C i++[match C[i]? with | some c=>ny (uK C (fD C i) i) c|none=>lQ]
def bR:List (Nat × Bool)->Nat->Nat->List bX->Nat × List bX
 | [],y,_,l=>(y,l)
 | c::r,y,n,l=>((bR r y n l).2.length,(bR r y n l).2++[if c.2 then ⟨2,c.1,(bR r y n l).1,n⟩ else ⟨2,c.1,n,(bR r y n l).1⟩])
def kids(C:List CR)(r:Nat):LN:=(List.range C.length).filter λj=>decide (r<j)&&(par C j==some r)
def ji(rec:Nat->Nat->List bX->Nat × List bX)(C:List CR)(q:List (List (Nat × Bool)))(done:Nat)(l:List bX):LN->Nat × LN × List bX
 | []=>(done,[],l)
 | c::r =>
   let x:=ji rec C q done l r
   let b:=rec c (if (C[c]?.map (·.co))=some true then x.1 else done) x.2.2
   let s:=bR (q.getD c []) b.1 x.1 b.2
   (s.1,b.1::x.2.1,s.2)
def lS(q:List (List (Nat × Bool)))(first:Nat)(l:List bX):List (Nat × Nat)->Nat × List bX
 | []=>(first,l)
 | c::r=>bR (q.getD c.1 []) c.2 (lS q first l r).1 (lS q first l r).2
def ig(C:List CR)(q:List (List (Nat × Bool))):Nat->Nat->Nat->List bX->Nat × List bX
 | 0,_,d,l=>(d,l)
 | f+1,r,d,l =>
   let x:=ji (ig C q f) C q d l (kids C r)
   lS q x.2.2.length (x.2.2++[⟨1,r,d,0⟩]) ((kids C r).zip x.2.1)
def mG(l:List bX):Nat->List Bool->List Int->Nat->List Int
 | 0,_,N,_=>N
 | i+1,R,N,c =>
   if R.getD i false then
    match l[i]? with
    | some x=>mG l i (if x.op=0 then R else if x.op=2 then (R.set x.a true).set x.b true else R.set x.a true) (N.set i c) (c+1)
    | none=>N
   else mG l i R (N.set i (-1)) c
def numsOf(l:List bX)(first:Nat):List Int:=mG l l.length ((List.replicate l.length false).set first true) (List.replicate l.length 0) 0
def y5(N:List Int)(x:bX):bX:=⟨x.op,x.x,if x.op=0 then x.a else (N.getD x.a 0).toNat,if x.op=2 then (N.getD x.b 0).toNat else x.b⟩
def nY(l:List bX)(N:List Int):Nat->List bX->List bX
 | 0,out=>out
 | i+1,out=>if N.getD i 0<0 then nY l N i out else match l[i]? with | some x=>nY l N i (out++[y5 N x])|none=>out
def mH(l:List bX)(first:Nat):List bX:=nY l (numsOf l first) (first + 1) []
def C8(C:List CR)(q:List (List (Nat × Bool))):List bX :=
 if C.isEmpty then [⟨0,0,0,0⟩] else
  let x:=ig C q 6 0 0 [⟨0,0,0,0⟩]
  mH x.2 x.1
def iZ(C:List CR)(s:CS):mP:=⟨s.n,s.c,s.a,s.t,fD C C.length,C8 C s.q⟩
def lT:CS:=⟨[],[],[],[],[],[]⟩
theorem asA {x:LB}(a:j<L.length)(h:∀i (b:i<j),(L[i]==x)=false)(he:(L[j]==x)=true):iL L x=j:=by grind [iL,List.findIdx_eq]
theorem anx {x:LB}(h:∀i (a:i<L.length),(L[i]==x)=false):iL L x=L.length:=by grind [iL]
theorem Eg(L:List LB)(x:LB):iL L x<=L.length:=a2U
theorem asB {L:List jd} {x:jd}(a:j<L.length)(h:∀i (b:i<j),QE L[i] x=false)(he:QE L[j] x=true):C6 L x=j:=by grind [C6,List.findIdx_eq]
theorem anz {L:List jd} {x:jd}(h:∀i (a:i<L.length),QE L[i] x=false):C6 L x=L.length:=by grind [C6]
theorem alT(L:List jd)(x:jd):C6 L x<=L.length:=a2U
def GL(l:List bX):Prop:=∀i (h:i<l.length),l[i].op=0\/(l[i].op=1/\l[i].a<i)\/(l[i].op=2/\l[i].a<i/\l[i].b<i)
theorem GL.snoc {l:List bX} {x:bX}(h:GL l)(e:x.op=0\/(x.op=1/\x.a<l.length)\/(x.op=2/\x.a<l.length/\x.b<l.length)):GL (l++[x]):=by
 intro i d;simp at d
 by_cases c:i<l.length
 .rw[List.getElem_append_left c];exact h i c
 grind
theorem uL {l:List bX}(h:GL l){y:Nat}(a:y<l.length)(b:n<l.length):∀q:List (Nat × Bool),GL (bR q y n l).2/\(bR q y n l).1<(bR q y n l).2.length/\(bR q y n l).2.length=l.length+q.length
 | []=>⟨h,a,rfl⟩
 | c::r=>by
   obtain⟨d,f,e⟩:=uL h a b r;refine⟨?_,by simp[bR],by simp[bR];omega⟩;rw[bR];refine d.snoc ?_
   split
   .grind
   grind
def RG(rec:Nat->Nat->List bX->Nat × List bX):Prop:=∀c d l,GL l->d<l.length->GL (rec c d l).2/\(rec c d l).1<(rec c d l).2.length/\l.length<=(rec c d l).2.length
def IW {rec:Nat->Nat->List bX->Nat × List bX}(e:RG rec)(C:List CR)(q:List (List (Nat × Bool))) {d:Nat} {l:List bX}(h:GL l)(hd:d<l.length):∀K:LN,
 GL (ji rec C q d l K).2.2/\(ji rec C q d l K).1<(ji rec C q d l K).2.2.length/\l.length<=(ji rec C q d l K).2.2.length/\(∀b∈(ji rec C q d l K).2.1,b<(ji rec C q d l K).2.2.length)/\(ji rec C q d l K).2.1.length=K.length
 | []=>⟨h,hd,a0b _,by simp[ji],rfl⟩
 | c::r=>by
   obtain⟨i,o,n,g,f⟩:=IW e C q h hd r;rw[ji];generalize ji rec C q d l r=x at *;obtain⟨k,j,p⟩:=e c (if (C[c]?.map (·.co))=some true then x.1 else d) x.2.2 i (by split<;>omega);generalize rec c (if (C[c]?.map (·.co))=some true then x.1 else d) x.2.2=b at *;obtain⟨k1,k2,m⟩:=uL k j (by omega:x.1<b.2.length) (q.getD c []);refine⟨k1,k2,by show l.length<=(bR _ _ _ _).2.length;omega,?_,by simp[f]⟩;intro y a;show y<(bR _ _ _ _).2.length;rcases a0l.1 a with rfl|a
   .omega
   have:=g y a;omega
def QF(q:List (List (Nat × Bool))) {first:Nat} {l:List bX}(h:GL l)(a:first < l.length):∀Z:List (Nat × Nat),(∀z∈Z,z.2<l.length)->GL (lS q first l Z).2/\(lS q first l Z).1<(lS q first l Z).2.length/\l.length<=(lS q first l Z).2.length
 | [],_=>⟨h,a,a0b _⟩
 | z::r,hz=>by
   obtain⟨d,c,f⟩:=QF q h a r (λy b=>hz y (by simp[b]));have:=hz z (by simp);rw[lS];generalize lS q first l r=x at *
   obtain⟨k1,k2,e⟩:=uL d (by omega:z.2<x.2.length) c (q.getD z.1 []);exact⟨k1,k2,by omega⟩
def C9(C:List CR)(q:List (List (Nat × Bool))):∀f,RG (ig C q f)
 | 0=>λc d l h hd=>⟨h,hd,a0b _⟩
 | f+1=>λr d l h hd=>by
   obtain⟨e,j,i,b,g⟩:=IW (C9 C q f) C q h hd (kids C r);rw[ig];generalize ji (ig C q f) C q d l (kids C r)=x at *;obtain⟨k1,k2,a⟩:=QF q (first:=x.2.2.length) (l:=x.2.2++[⟨1,r,d,0⟩]) (e.snoc (.inr (.inl ⟨rfl,by show d<_;omega⟩))) (by simp) ((kids C r).zip x.2.1) (by intro z hz;have:=b z.2 (List.of_mem_zip hz).2;simp;omega)
   exact⟨k1,k2,by simp at a;omega⟩
theorem QG{l:List bX}:∀i R N c,(mG l i R N c).length=N.length
 | 0,_,_,_=>rfl
 | i+1,R,N,c=>by
   rw[mG]
   split
   .split
    .rw[QG];simp
    rfl
   rw[QG];simp
def OM(i:Nat)(R:List Bool)(N:List Int)(t:Nat):Prop:=if t<i then R.getD t false=true else 0<=N.getD t 0
def ad3(l:List bX)(i:Nat)(R:List Bool)(N:List Int):Prop:=∀j x,i<=j->l[j]?=some x->0<=N.getD j 0->(x.op≠0->OM i R N x.a)/\(x.op=2->OM i R N x.b)
theorem getD_set_ne{L:List α}(x d:α)(h:i≠j):(L.set i x).getD j d=L.getD j d:=by simp[List.getD,List.getElem?_set_ne h]
theorem yg{L:List α}(x d:α)(h:i<L.length):(L.set i x).getD i d=x:=by simp[List.getD,h]
theorem LG {l:List bX}(p:GL l):∀i (R:List Bool) (N:List Int) (c:Nat),i<=l.length->R.length=l.length->N.length=l.length->ad3 l i R N->ad3 l 0 R (mG l i R N c)
 | 0,R,N,c,_,_,_,h=>h
 | i+1,R,N,c,E,r,z,h=>by
   rw[mG];obtain⟨x,n⟩:∃x,l[i]?=some x:=⟨l[i],a0a (by omega)⟩;have o:=p i (by omega);have D:l[i]'(by omega)=x:=by rw[a0a (by omega)]at n;exact Option.some.inj n
   rw[D]at o;have step:∀(e:List Bool) (v:Int),e.length=l.length->(∀t,R.getD t false=true->e.getD t false=true)->(R.getD i false=true->0<=v)->∀t,OM (i+1) R N t->OM i e (N.set i v) t:=by grind [OM,yg,getD_set_ne]
   split
   .rename_i k
    simp only[n];have fin:∀e:List Bool,e.length=l.length->(∀t,R.getD t false=true->e.getD t false=true)->(x.op≠0->e.getD x.a false=true)->(x.op=2->e.getD x.b false=true)->ad3 l 0 R (mG l i e (N.set i (c:Int)) (c+1)):=by
     intro e m u B hb;have s:ad3 l i e (N.set i (c:Int)):=by
      intro j y C g d
      by_cases w:j=i
      .subst w
       rw[n]at g;cases g
       constructor
       .intro ho
        unfold OM;rw[a0m (by rcases o with f|f|f;exact absurd f ho;exact f.2;exact f.2.1)];exact B ho
       intro ho;unfold OM;rw[a0m (by rcases o with f|f|f;omega;omega;exact f.2.2)];exact hb ho
      rw[getD_set_ne _ _ (by omega)]at d;obtain⟨k1,k2⟩:=h j y (by omega) g d;exact⟨λho=>step e c m u (λ_=>by omega) _ (k1 ho),λho=>step e c m u (λ_=>by omega) _ (k2 ho)⟩
     have:=LG p i e (N.set i (c:Int)) (c+1) (by omega) m (by simp[z]) s;intro j y A g d;obtain⟨k1,k2⟩:=this j y A g d;exact⟨λho=>by simpa[OM] using k1 ho,λho=>by simpa[OM] using k2 ho⟩
    by_cases A:x.op=0
    .grind
    grind
   rename_i k
   have s:ad3 l i R (N.set i (-1)):=by
    intro j y C g d
    by_cases w:j=i
    .grind
    rw[getD_set_ne _ _ (by omega)]at d;obtain⟨k1,k2⟩:=h j y (by omega) g d;exact⟨λho=>step R (-1) r (λt ht=>ht) (λq=>absurd q k) _ (k1 ho),λho=>step R (-1) r (λt ht=>ht) (λq=>absurd q k) _ (k2 ho)⟩
   exact LG p i R (N.set i (-1)) c (by omega) r (by simp[z]) s
def Eh(l:List bX)(first:Nat):(numsOf l first).length=l.length:=by unfold numsOf;rw[QG];simp
theorem IY {l:List bX}(c:GL l)(first:Nat)(j:Nat)(x:bX)(d:l[j]?=some x)(e:0<=(numsOf l first).getD j 0):(x.op≠0->0<=(numsOf l first).getD x.a 0)/\(x.op=2->0<=(numsOf l first).getD x.b 0):=by grind [ad3,LG,numsOf,OM]
end
end Go.Proofs.YtaokcijfoopcoaaGreat
