import Derived.Test.YtgbdcmpmmkfbhaaGreatJ13
import Derived.Test.YtgbdcmpmmkfbhaaGreatJ10
import Derived.Deep.WholeRow
import Derived.Test.YtgbdcmpmmkfbhaaGreatJ12
import Derived.Test.YtgbdcmpmmkfbhaaGreatJ1
set_option linter.unusedVariables false
set_option linter.unusedSimpArgs false
set_option linter.unnecessarySimpa false
set_option maxRecDepth 100000
set_option maxHeartbeats 8000000
namespace Go.Proofs.YtgbdcmpmmkfbhaaGreat
variable {D U xs ys:List NF} {w w' w2 w5:World} {ab ak cap fb g i k r vb:Nat} {B F L Z nx ps v:LN} {α:Type} {f:FV} {X d:NF} {v5 v7 v8 va vn:Value} {n:Int} {St:List LN} {en:Ending}
open Go.RowKit
def LfC(d:NF):Prop:=∀(base:Nat) (w:World) (fb vb:Nat) (D:List NF) (ak c:Nat) (U:List NF) (Z:LN) (i:Nat),ST base w fb vb D ak c U Z->D[i]?=some d->Cc c U d->c<256->1<=ak ->
 Calls Tryz.prog 112 #[.pointer (some ⟨fb,0,none⟩),.int .i64 i,.int .u8 c] w (RQ base w fb vb D ak c U Z (left c d))
theorem Td(a b:NF)(iha:LfC a)(ihb:LfC b)(base:Nat)(w:World)(fb vb:Nat)(D:List NF)(ak c:Nat)(U:List NF)(Z:LN)(fi se:Nat)(kd s0 s1 s2 s3 lk Te lf:Int)(te:Bool)(av:Option Addr)(nv cv:Nat)
 (h:ST base w fb vb D ak c U Z) (h1:D[fi]?=some a) (h2:D[se]?=some b) (hn:Cc c U (.pair a b)) (hc:c<256) (ha:1<=ak) :
 Calls Tryz.prog 133 #[.pointer (some ⟨fb,0,none⟩),.agg #[.int .i64 kd,.int .u64 s0,.int .u64 s1,.int .u64 s2,.int .u64 s3,.int .i64 fi,.int .i64 se,.slice av nv cv,.bool te,.int .i64 lk,.int .i64 Te,.int .i64 lf],.int .u8 c] w (RQ base w fb vb D ak c U Z (left c (.pair a b))):=by
 have HS:=aj h;have H1:=aj h1;have H2:=aj h2;have HN:=aj hn;have Cu:=h.ng.2.2.2.2.2;have F0:aA [] w (w.alloc (Obj.cells #[.int .i64 kd,.int .u64 s0,.int .u64 s1,.int .u64 s2,.int .u64 s3,.int .i64 fi,.int .i64 se,.slice av nv cv,.bool te,.int .i64 lk,.int .i64 Te,.int .i64 lf] 203)):=(aA.refl _ _).alloc _;have j6:=bK w (Obj.cells #[.int .i64 kd,.int .u64 s0,.int .u64 s1,.int .u64 s2,.int .u64 s3,.int .i64 fi,.int .i64 se,.slice av nv cv,.bool te,.int .i64 lk,.int .i64 Te,.int .i64 lf] 203);have z0:(w.alloc (Obj.cells #[.int .i64 kd,.int .u64 s0,.int .u64 s1,.int .u64 s2,.int .u64 s3,.int .i64 fi,.int .i64 se,.slice av nv cv,.bool te,.int .i64 lk,.int .i64 Te,.int .i64 lf] 203)).heap.size=w.heap.size+1:=by simp
 clear h h1 h2 hn;go_enter Tryz.func133,Tryz.ntmps133
 go_wp2_with fail
 generalize w.alloc (Obj.cells #[.int .i64 kd,.int .u64 s0,.int .u64 s1,.int .u64 s2,.int .u64 s3,.int .i64 fi,.int .i64 se,.slice av nv cv,.bool te,.int .i64 lk,.int .i64 Te,.int .i64 lf] 203)=w0 at F0 j6 z0 |-;have A1:=aj (iha base w0 fb vb D ak c U Z fi (HS.o.aW F0) H1.o HN.o.1 hc ha);have Vm:=aj F0;have vG:=aj j6;clear F0 j6;refine(A1.o).mono ?_;rintro e w1 eZ;obtain⟨zY,R1,r1,rfl,ajO,lG,Jt⟩:=eZ;have amv:=FQ.WQ Vm.o Jt;have Gp:w1.heap[w.heap.size]?=w0.heap[w.heap.size]?:=Jt.block (by omega) (by omega) (by omega);rw[vG.o]at Gp;have p5:w1.cell? ⟨w.heap.size,5,none⟩=some (.int .i64 fi):=by simp[World.cell?,Gp]
 have p6:w1.cell? ⟨w.heap.size,6,none⟩=some (.int .i64 se):=by simp[World.cell?,Gp]
 have T:=aj (IX (left c a) base w1 fb zY (D++R1) ak c U Z b r1 se ajO lG (pK H2) HN.o.2.1);have S1:=aj ajO;have Q1:=aj amv;have apg:=aj Gp;have zq1:=Jt.fr.size;have aqD:=Jt.mv;clear ajO lG Jt amv Gp A1;go_wp2_with fail
 refine(T.o).mono ?_;rintro e w2 eZ;obtain⟨yf,R2,r2,rfl,zI,pX,nC⟩:=eZ;have Vd:w2.heap[w.heap.size]?=w1.heap[w.heap.size]?:=nC.block (by omega) (by omega) (by omega);rw[apg.o]at Vd;have u5:w2.cell? ⟨w.heap.size,5,none⟩=some (.int .i64 fi):=by simp[World.cell?,Vd]
 have u6:w2.cell? ⟨w.heap.size,6,none⟩=some (.int .i64 se):=by simp[World.cell?,Vd]
 have hD2:(D++R1++R2)[fi]?=some a:=pK (pK H1);obtain⟨f,L,cap,K⟩:=zI.look hD2;have t0:=K.tab;have k8:=K.get.2.2.2.2.2.2.2.2.1;have aO:=K.lt;rw[K.te]at k8;have S2:=aj zI;have Q2:=aj (FQ.trans Q1.o nC);have nO:=aj pX;have zq2:=nC.fr.size;have lL:(fi:Int)<(D++R1++R2).length:=by omega
 clear K zI pX nC Vd T p5 p6 hD2;obtain⟨nD,hnD⟩:∃n,n=(D++R1++R2).length:=⟨_,rfl⟩;rw[<-hnD]at t0 aO lL;clear hnD;cases zy:dY a with
 | false =>
   rw[zy]at k8;have HL:Z_ (left c (.pair a b)=aH (left c a) b):=by show _=_;simp only[left,zy];simp
   have R3:Z_ (∀nq,RQ base w fb vb D ak c U Z (aH (left c a) b) (.returned (.int .i64 (r2:Nat))) (w2.drewN nq)):=λnq=>⟨yf,R1++R2,r2,rfl,by rw[<-a0K];exact S2.o.aW ((aA.refl _ _).drewN _),by rw[<-a0K];exact nO,FQ.keepR Q2.o ((aA.refl _ _).drewN _)⟩
   go_wp2_with fail
   go_quiet (fail)
   go_wp2;go_ret;rw[HL.o];exact R3.o _
 | true =>
   rw[zy]at k8;have HL:Z_ (left c (.pair a b)=bI [aH (left c a) b,left c b]):=by show _=_;simp only[left,zy];simp;rfl
   have Tf:=HN.o.2.2 zy;have B1:=aj (λnq=>ihb base (w2.drewN nq) fb yf (D++R1++R2) ak c U Z se (S2.o.aW ((aA.refl _ _).drewN _)) (pK (pK H2)) Tf.1 hc ha);have OK:=aj Tf.2;clear Tf zy;go_wp2_with fail
   go_quiet (fail)
   go_wp2_with fail
   refine(B1.o _).mono ?_;rintro e w3 eZ;obtain⟨vb3,R3,r3,rfl,amw,Bj,hq3⟩:=eZ;have OC:Z_ (∀o,o=Obj.cells #[.int .i64 r2,.int .i64 r3] 3->Calls Tryz.prog 119 #[.pointer (some ⟨fb,0,none⟩),.slice (some ⟨w3.heap.size,0,none⟩) 2 2] (w3.alloc o) (RQ base w fb vb D ak c U Z (bI [aH (left c a) b,left c b]))):=by
    rintro o rfl;have F3:=(aA.refl [] w3).alloc (Obj.cells #[.int .i64 r2,.int .i64 r3] 3);have af7:=amw.aW F3;have jf:IL w3.heap.size (w3.alloc (Obj.cells #[.int .i64 r2,.int .i64 r3] 3)) (.slice (some ⟨w3.heap.size,0,none⟩) 2 2) [r2,r3]:=World.ownsRow_lit _ #[.int .i64 r2,.int .i64 r3] 2 (a0a _) (by unfold maxLen;omega) (by simp);have pX:(D++R1++R2++R3)[r2]?=some (aH (left c a) b):=pK nO;have Q4:FQ fb vb vb3 w (w3.alloc (Obj.cells #[.int .i64 r2,.int .i64 r3] 3)):=FQ.keepR (FQ.trans (FQ.keepR Q2.o ((aA.refl _ _).drewN _)) hq3) F3;refine(abf base _ fb vb3 (D++R1++R2++R3) ak c U Z (.slice (some ⟨w3.heap.size,0,none⟩) 2 2) [r2,r3] [aH (left c a) b,left c b] af7 (vM jf) ?_ ?_ OK).mono λe w' h=>RQ.later (R:=R1++R2++R3) Q4 (by simpa[a0K] using h)
    ·intro q hq
     simp only[a0l,a1Y,or_false]at hq;rcases hq with rfl|rfl
     ·exact(a0i.1 pX).1
     exact(a0i.1 Bj).1
    simp only[a0A,a1T,zH pX,zH Bj]
   clear amw Bj hq3 B1;go_wp2_with fail
   refine(OC.o _ rfl).mono ?_;rintro e w4 eZ;have R4:=aj eZ;obtain⟨_,_,r4,rfl,_⟩:=eZ;go_wp2;go_ret;rw[HL.o];exact R4
theorem ZR(hw:∀x∈ys,wf x)(h:xs.Perm ys):bI xs=bI ys :=
 tQ (λx hx=>hw x (h.mem_iff.1 hx)) hw λp=>(h.flatMap_right parts).mem_iff
theorem Cb.perm(hw:∀x∈ys,wf x)(h:xs.Perm ys)(k:Cb U ys):Cb U xs:=by
 have hf:=h.flatMap_right parts;have hj:aY (xs.flatMap parts)=aY (ys.flatMap parts):=Dr λi=>by
  rw[a0P,a1H,a1H];exact⟨λ⟨x,hx,e⟩=>⟨x,hf.mem_iff.1 hx,e⟩,λ⟨x,hx,e⟩=>⟨x,hf.mem_iff.2 hx,e⟩⟩
 have hs:fU (bG (xs.flatMap parts))=fU (bG (ys.flatMap parts)) :=
  Dt (xD λx hx=>hw x (h.mem_iff.1 hx)) (xD hw) (λp _=>hf.mem_iff) hj
 refine⟨λh0=>?_,λh2=>?_,?_,?_⟩
 ·rw[hj]at h0 |-;exact k.1 h0
 ·rw[ZR hw h];rw[hs]at h2;exact k.2.1 h2
 ·rw[hf.length_eq];exact k.2.2.1
 rw[h.length_eq];exact k.2.2.2
theorem ST.uj {base:Nat}{c:Nat}(h:ST base w fb vb D ak c U Z):oP w [fb,vb]:=h.ng.2.2.2.2.2.2.2.2.2
theorem Xa(l:List NF)(ih:∀y∈l,LfC y)(base:Nat)(w:World)(fb vb:Nat)(D:List NF)(ak c:Nat)(U:List NF)(Z:LN)(L:LN)(kd s0 s1 s2 s3 lk Te lf fi se:Int)(te:Bool)(av:Option Addr)(cv:Nat)
 (h:ST base w fb vb D ak c U Z) (hp:PL w (.slice av L.length cv) L) (hl:∀j∈L,j<D.length) (hm:(L.map λj=>D.getD j .zero).Perm l) (hn:Cc c U (.sum l)) (hc:c<256) (ha:1<=ak) (hw:∀x∈l,wf x) :
 Calls Tryz.prog 134 #[.pointer (some ⟨fb,0,none⟩),.agg #[.int .i64 kd,.int .u64 s0,.int .u64 s1,.int .u64 s2,.int .u64 s3,.int .i64 fi,.int .i64 se,.slice av L.length cv,.bool te,.int .i64 lk,.int .i64 Te,.int .i64 lf],.int .u8 c] w (RQ base w fb vb D ak c U Z (left c (.sum l))):=by
 have HS:=aj h;have HP:=aj hp;have HL:=aj hl;have HM:=aj hm;have HN:=aj hn;have HI:=aj ih;have hLl:L.length<=9000000000000:=by
  have h1:=hn.2.2.2.2;rw[gJ,a0B]at h1;have h2:=hm.length_eq;rw[a0B]at h2;omega
 have pm:(L.map λq=>left c (D.getD q .zero)).Perm (uV c l):=by
  rw[gJ];have:=hm.map (left c);rw[a2C]at this;exact this
 have wl:∀x∈uV c l,wf x:=by
  intro x hx;rw[gJ]at hx;obtain⟨y,hy,rfl⟩:=a0s.1 hx;exact gK c y (hw y hy)
 have HLF:Z_ (left c (.sum l)=bI (L.map λq=>left c (D.getD q .zero))):=by
  show _=_;rw[ZR wl pm];rfl
 have HOK:Z_ (Cb U (L.map λq=>left c (D.getD q .zero))):=Cb.perm wl pm hn.2;have F0:aA [] w (w.alloc (Obj.cells #[.int .i64 kd,.int .u64 s0,.int .u64 s1,.int .u64 s2,.int .u64 s3,.int .i64 fi,.int .i64 se,.slice av L.length cv,.bool te,.int .i64 lk,.int .i64 Te,.int .i64 lf] 203)):=(aA.refl _ _).alloc _;have q7:∀o,((w.alloc (Obj.cells #[.int .i64 kd,.int .u64 s0,.int .u64 s1,.int .u64 s2,.int .u64 s3,.int .i64 fi,.int .i64 se,.slice av L.length cv,.bool te,.int .i64 lk,.int .i64 Te,.int .i64 lf] 203)).alloc o).cell? ⟨w.heap.size,7,none⟩=some (.slice av L.length cv):=by
  intro o;rw[((aA.refl [] _).alloc o).cell (p:=⟨w.heap.size,7,none⟩) (by simp) (by simp)];have:=bK w (Obj.cells #[.int .i64 kd,.int .u64 s0,.int .u64 s1,.int .u64 s2,.int .u64 s3,.int .i64 fi,.int .i64 se,.slice av L.length cv,.bool te,.int .i64 lk,.int .i64 Te,.int .i64 lf] 203);simp only[World.cell?,this]
  rfl
 have hz:(w.alloc (Obj.cells #[.int .i64 kd,.int .u64 s0,.int .u64 s1,.int .u64 s2,.int .u64 s3,.int .i64 fi,.int .i64 se,.slice av L.length cv,.bool te,.int .i64 lk,.int .i64 Te,.int .i64 lf] 203)).heap.size=w.heap.size+1:=by simp
 have HZ:=aj hz;clear hz;clear h hp hl hm hn ih pm wl hw;rw[HLF.o];go_enter Tryz.func134,Tryz.ntmps134
 go_wp2_with fail
 generalize w.alloc (Obj.cells #[.int .i64 kd,.int .u64 s0,.int .u64 s1,.int .u64 s2,.int .u64 s3,.int .i64 fi,.int .i64 se,.slice av L.length cv,.bool te,.int .i64 lk,.int .i64 Te,.int .i64 lf] 203)=w0 at F0 q7 HZ |-;have hz:=HZ.o;clear HZ;have Vm:=aj F0;have z0:=F0.size;have iA:=hz;rw[<-iA];clear iA hz;clear F0 q7;go_loopg [7,15] L.length (λk v7 v15 wr=>∃(j:Nat) (I:LN) (jg:Nat) (R:List NF),j+k=L.length/\v15=.int .i64 j/\I.length<=j/\GQ base w0 wr fb vb D ak c U Z v7 I ((L.take j).map λq=>left c (D.getD q .zero)) jg R/\PL wr (.slice av L.length cv) L)
 case atStart=>exact⟨0,[],vb,[],by omega,rfl,by simp,GQ.start (HS.o.aW Vm),(HP.o.aB Vm.o (oP.nil _)).aB ((aA.refl _ _).alloc _) (oP.nil _)⟩
 case round =>
  obtain⟨j,I,zY,R,hj,rfl,hIl,hg,pY⟩:=hrel;obtain⟨a5,c5,rfl⟩:=aT hg.il;have G:=aj hg;have P3:=aj pY;have zr:=hg.fq.fr.size;clear hg pY
  by_cases aO:j<L.length
  ·obtain⟨a3,c3,e3,h3⟩:=P3.o.1
   simp only[Value.slice.injEq,a1X]at e3;obtain⟨rfl,rfl⟩:=e3;obtain⟨g,off,rfl,kg,Jv⟩:=h3 j aO;have ajM:g<w.heap.size:=HP.o.blk rfl;have hLj:=HL.o L[j] (a0z aO);have hDj:(D++R)[L[j]]?=some (D.getD L[j] .zero):=pK (getD_some hLj);have oC:D.getD L[j] .zero∈l:=HM.o.mem_iff.1 (a0s.2 ⟨L[j],a0z aO,rfl⟩);have C:=aj (HI.o _ oC base wr fb zY (D++R) ak c U ((Value.ownBlock (.slice a5 I.length c5)).toList++Z) L[j] G.o.st hDj (Km.1 HN.o.1 _ oC) hc ha);have HT:Z_ (((L.take (j+1)).map λq=>left c (D.getD q .zero))=((L.take j).map λq=>left c (D.getD q .zero))++[left c (D.getD L[j] .zero)]):=by
    have:=Gs L (λq=>left c (D.getD q .zero)) j aO [];exact this
   clear h3 hLj hDj oC;generalize left c (D.getD L[j] .zero)=y at *;generalize L[j]=q at *;go_wp2_with fail
   refine(C.o).mono ?_;rintro e w2 ⟨yf,R2,r2,rfl,zI,pX,nC⟩;have G2:=aj (G.o.turn zI nC);have P4:=aj (P3.o.aB nC.fr G.o.st.uj);have z2:=nC.fr.size;have nO:Z_ ((D++(R++R2))[r2]?=some y):=by show _=_;rw[<-a0K];exact pX
   clear zI pX nC C Jv G P3;go_wp2_with (first | (at_builtin;refine sO _ rfl _ _ rfl w0.heap.size (.slice a5 I.length c5) I r2 w2.heap.size rfl (G2.o.il.alloc _) rfl (jo _ _ _ _ rfl) (by omega) (by simp;omega) ?_;intro gg aP w5 aQ aG aX iD;have G5:=aj (G2.o.add nO.o aQ aG aX iD);have P5:=aj ((P4.o.aB ((aA.refl [] w2).alloc _) (oP.nil _)).ajJ (aA.dS aG) (λa n cc e hm=>by simp at e;obtain⟨rfl,_⟩:=e;rw[a0H]at hm;have:=(G2.o.il.lt _ hm).1;simp at this;omega));clear aQ aG aX))
   go_roundg (gk-1)
   case measure=>omega
   case rel=>exact⟨j+1,I++[r2],yf,R++R2,by omega,by go_num,by simp only[a0v,a0o,a1f];omega,by rw[HT.o];simpa using G5.o,P5⟩
  have G2:Z_ (GQ base w0 wr fb vb D ak c U Z (.slice a5 I.length c5) I (L.map λq=>left c (D.getD q .zero)) zY R):=by
   have:=G.o;rw[a0D (by omega)]at this;exact this
  have C:=aj (G2.o.or HOK);clear G G2 P3;go_wp2_with fail
  refine(C.o).mono ?_;rintro e w3 eZ;have R3:=aj (RQ.first Vm.o eZ);obtain⟨_,_,r3,rfl,_⟩:=eZ;go_wp2;go_ret;exact R3
theorem Yy(d:NF)(ih:∀y:NF,y.size<d.size->LfC y)(base:Nat)(w:World)(fb vb:Nat)(D:List NF)(ak c:Nat)(U:List NF)(Z:LN)(i:Nat)(h:ST base w fb vb D ak c U Z)(hi:D[i]?=some d)(hn:Cc c U d)(hc:c<256)(ha:1<=ak) :
 Calls Tryz.prog 122 #[.pointer (some ⟨fb,0,none⟩),.int .i64 i,.int .u8 c] w (RQ base w fb vb D ak c U Z (left c d)):=by
 obtain⟨f,L,cap,K⟩:=h.look hi;have aO:=K.lt;have hlen:=h.len;have t0:=K.tab;obtain⟨c0,c1,c2,c3,c4,c5,c6,c7,c8,c9,c10,c11⟩:=K.get;obtain⟨av,WT,hvp,_⟩:=K.pl.1;rw[hvp]at c7;rw[K.kd]at c0;have KPL:=aj K.pl;rw[hvp]at KPL;have KS:=aj K.set;have KP:=aj K.pair;have KT:=aj K.star;have KU:=aj K.sum;have HS:=aj h;have HI:=aj hi;have HN:=aj hn;have Ta:=aj h.ng.1;have HD1:=aj h.ng.2.1;have HW:=aj h.ng.2.2.2.1;have HND:=aj h.ng.2.2.1;have Vo:(i:Int)<D.length:=by omega
 clear K h hi hn hvp;have F0:Z_ (∀o,aA [] w (w.alloc o)):=λo=>(aA.refl _ _).alloc o
 cases d with
 | zero =>
   simp only[oQ]at c0;go_enter Tryz.func122,Tryz.ntmps122
   go_wp2;go_ret;exact RQ.here (r:=0) HS.o (F0.o _) Ta
 | one =>
   simp only[oQ]at c0;go_enter Tryz.func122,Tryz.ntmps122
   go_wp2;go_ret;exact RQ.here (r:=0) HS.o (F0.o _) Ta
 | set s =>
   have hfs:=KS.o s rfl;rw[hfs]at c1 c2 c3 c4;simp only[oQ]at c0;have XH:=aj (ahk s c);simp only[bv]at XH;clear hfs;cases hb:s.testBit c with
   | true =>
     rw[hb]at XH;have HL:Z_ (left c (.set s)=.one):=by show _=_;simp[left,hb]
     clear hb;go_enter Tryz.func122,Tryz.ntmps122
     go_wp2_with fail
     refine(XH.o _ hc).mono ?_;rintro e w2 ⟨rfl,aS⟩;have F2:=aj ((F0.o _).trans aS);clear aS;go_wp2;go_ret;rw[HL.o];exact RQ.here (r:=1) HS.o F2.o HD1
   | false =>
     rw[hb]at XH;have HL:Z_ (left c (.set s)=.zero):=by show _=_;simp[left,hb]
     clear hb;go_enter Tryz.func122,Tryz.ntmps122
     go_wp2_with fail
     refine(XH.o _ hc).mono ?_;rintro e w2 ⟨rfl,aS⟩;have F2:=aj ((F0.o _).trans aS);clear aS;go_wp2;go_ret;rw[HL.o];exact RQ.here (r:=0) HS.o F2.o Ta
 | pair a b =>
   simp only[oQ]at c0;have hp:=KP.o a b rfl;have C:=aj (λ(w':World) (F:aA [] w w')=>Td a b (ih a (by simp[NF.size];omega)) (ih b (by simp[NF.size];omega)) base w' fb vb D ak c U Z f.fi f.se 3 (wd f.s 0) (wd f.s 1) (wd f.s 2) (wd f.s 3) f.lk f.ak f.lf f.te av L.length WT (HS.o.aW F) hp.1 hp.2 HN.o hc ha);clear hp;go_enter Tryz.func122,Tryz.ntmps122
   go_wp2_with fail
   refine(C.o _ (F0.o _)).mono ?_;rintro e w3 eZ;have R3:=aj (RQ.first (F0.o _) eZ);obtain⟨_,_,r3,rfl,_⟩:=eZ;go_wp2;go_ret;exact R3
 | sum l =>
   simp only[oQ]at c0;have hu:=KU.o l rfl;have ht:=Ca HW.o hu.1;have EH:=HW.o _ (a0M HI);have Cj:(L.map λj=>D.getD j .zero).Perm l:=by
    refine(List.perm_ext_iff_of_nodup (Kl HND.o hu.2.2 hu.1) ?_).2 λp=>?_
    ·rw[hu.2.1];exact zi (uX _)
    rw[hu.2.1];exact(iq ht).symm
   have C:=aj (λ(w':World) (F:aA [] w w')=>Xa l (λy hy=>ih y (by have:=dK hy;simp[NF.size];omega)) base w' fb vb D ak c U Z L 4 (wd f.s 0) (wd f.s 1) (wd f.s 2) (wd f.s 3) f.lk f.ak f.lf f.fi f.se f.te av WT (HS.o.aW F) (KPL.o.aB F (oP.nil _)) hu.1 Cj HN.o hc ha (jQ.1 EH.1.1));clear hu ht EH Cj;go_enter Tryz.func122,Tryz.ntmps122
   go_wp2_with fail
   refine(C.o _ (F0.o _)).mono ?_;rintro e w3 eZ;have R3:=aj (RQ.first (F0.o _) eZ);obtain⟨_,_,r3,rfl,_⟩:=eZ;go_wp2;go_ret;exact R3
 | star a =>
   simp only[oQ]at c0;have hs:=KT.o a rfl;have C:=aj (λ(w':World) (F:aA [] w w')=>ih a (by simp[NF.size]) base w' fb vb D ak c U Z f.fi (HS.o.aW F) hs HN.o.1 hc ha);clear hs;go_enter Tryz.func122,Tryz.ntmps122
   go_wp2_with fail
   refine(C.o _ (F0.o _)).mono ?_;rintro e w3 eZ;obtain⟨r3,rfl,hz⟩:=(RQ.first (F0.o _) eZ).rz;have T:Z_ (Calls Tryz.prog 121 #[.pointer (some ⟨fb,0,none⟩),.int .i64 r3,.int .i64 i] w3 (RQ base w fb vb D ak c U Z (left c (.star a)))):=hz.call λjg D' dM hr hD=>IX (left c a) base w3 fb jg D' ak c U Z (.star a) r3 i dM hr (hD _ _ HI) HN.o.2
   clear eZ hz C;go_wp2_with fail
   refine(T.o).mono ?_;rintro e w4 eZ;have R4:=aj eZ;obtain⟨_,_,r4,rfl,_⟩:=eZ;go_wp2;go_ret;exact R4
theorem Nz(f:FV)(L:List FV):fv (f::L)=f.cells.toList++fv L:=by simp[fv]
theorem Ls(f:FV):f.cells.toList.length=12:=by simp[FV.cells]
theorem abg:∀(L:List FV) (i k:Nat) (f f':FV) (u:Value),L[i]?=some f->k<12->f.cells.toList.set k u=f'.cells.toList->(fv L).set (i*12+k) u=fv (L.set i f')
 | [],i,k,f,f',u,h,_,_=>by simp at h
 | g::L,0,k,f,f',u,h,hk,hs=>by
   simp at h;subst h;rw[Nz,List.set_cons_zero,Nz,<-hs];rw[show 0*12+k=k by omega,a3f _ _ (by rw[Ls];exact hk)]
 | g::L,i+1,k,f,f',u,h,hk,hs=>by
   rw[Nz,a1N,Nz,<-abg L i k f f' u (by simpa using h) hk hs];rw[a1t _ _ (by rw[Ls];omega),Ls]
   congr 2
   omega
theorem JR{β:Type}(g:α->β):∀(E:List α) (i:Nat) (e e':α),E[i]?=some e->g e'=g e->(E.set i e').map g=E.map g
 | [],i,e,e',h,_=>by simp at h
 | x::E,0,e,e',h,hg=>by simp at h;subst h;simp[hg]
 | x::E,i+1,e,e',h,hg=>by
   simp only[a1N,a0A];rw[JR g E i e e' (by simpa using h) hg]
theorem NA {E:List α}{j:Nat} {e x:α}(h:(E.set i e)[j]?=some x):(i=j/\x=e)\/E[j]?=some x:=by
 rw[List.getElem?_set]at h
 split at h
 ·split at h
  ·simp at h;exact .inl ⟨by assumption,h.symm⟩
  simp at h
 exact .inr h
theorem mem_set {E:List α} {e x:α}(h:x∈E.set i e):x=e\/x∈E:=by
 obtain⟨j,hj⟩:=a3h h;rcases NA hj with h1|h1
 ·exact .inl h1.2
 exact .inr (a0M h1)
theorem TE.memo {base:Nat} {E:List (FV × LN)}{a:Nat}(h:TE base w fb vb E B ak)(hi:E[i]?=some (f,L)) :
 TE base ((w.setCell ⟨vb,i*12+10,none⟩ (.int .i64 a)).setCell ⟨vb,i*12+11,none⟩ (.int .i64 r)) fb vb (E.set i ({ f with ak:=a,lf:=r },L)) B ak:=by
 obtain⟨cap,ht,hl⟩:=h.row;have hv:=h.Yv;have hfb:=h.fb;have F:aA [vb] w ((w.setCell ⟨vb,i*12+10,none⟩ (.int .i64 a)).setCell ⟨vb,i*12+11,none⟩ (.int .i64 r)):=((aA.refl _ _).setCell (.inl (by simp)) _).setCell (.inl (by simp)) _;have hlen:(E.set i ({ f with ak:=a,lf:=r },L)).length=E.length:=by simp
 refine⟨⟨cap,?_,?_⟩,?_,?_,h.fb,a0e h.sz F.size⟩
 ·rw[hlen];exact ht.aB F (by simp;omega)
 ·rw[hlen]
  have hlE:(E.map Prod.fst).length=E.length:=by simp
  unfold FL at hl |-;rw[hlE]at hl;have h1:=(World.ownsRow.stored hl (i*12+10) (.int .i64 a)).1;have h2:=(World.ownsRow.stored h1 (i*12+11) (.int .i64 r)).1;have hfi:(E.map Prod.fst)[i]?=some f:=by simp[hi]
  rw[abg (E.map Prod.fst) i 10 f { f with ak:=a } (.int .i64 a) hfi (by decide) rfl]at h2;have af8:=(a0i.1 hi).1;rw[abg ((E.map Prod.fst).set i { f with ak:=a }) i 11 { f with ak:=a } { f with ak:=a,lf:=r } (.int .i64 r) (by simp[af8]) (by decide) rfl]at h2;rw[List.set_set]at h2;have e1:(E.set i ({ f with ak:=a,lf:=r },L)).map Prod.fst=(E.map Prod.fst).set i { f with ak:=a,lf:=r }:=by rw[a2n]
  rw[e1];simpa using h2
 ·intro e he
  rcases mem_set he with rfl|he
  ·exact(h.pl (f,L) (a0M hi)).aB F (λk hk=>h.uj k (by simp at hk;simp[hk]))
  exact(h.pl e he).aB F (λk hk=>h.uj k (by simp at hk;simp[hk]))
 intro e he;rcases mem_set he with rfl|he
 ·exact h.st (f,L) (a0M hi)
 exact h.st e he
theorem TP.memo {E:List (FV × LN)}{c:Nat}(h:TP E B D ak c)(hi:E[i]?=some (f,L))(hd:D[i]?=some d)(hr:D[r]?=some (left c d)) :
 TP (E.set i ({ f with ak:=ak,lf:=r },L)) B D ak c:=by
 have hk:(E.set i ({ f with ak:=ak,lf:=r },L)).map jy=E.map jy:=JR jy E i (f,L) _ hi rfl;refine⟨?_,?_,?_,?_,?_,?_⟩
 ·rw[hk];exact h.tb
 ·intro b hb;rw[hk];simpa using h.bu b hb
 ·intro j e hj he
  rw[hk];rcases NA he with⟨rfl,rfl⟩|he
  ·exact h.lk i (f,L) hj hi
  exact h.lk j e hj he
 ·intro j e d' he EP
  rcases NA he with⟨rfl,rfl⟩|he
  ·exact h.te i (f,L) d' hi EP
  exact h.te j e d' he EP
 ·intro e he
  rcases mem_set he with rfl|he
  ·simp
  exact h.al e he
 intro h1 j e d' he EP ha;rcases NA he with⟨rfl,rfl⟩|he
 ·rw[hd]at EP;simp at EP;subst EP;exact hr
 exact h.mm h1 j e d' he EP ha
theorem ST.memo {base:Nat}{c:Nat}(h:ST base w fb vb D ak c U Z)(hi:D[i]?=some d)(hr:D[r]?=some (left c d)) :
 ST base ((w.setCell ⟨vb,i*12+10,none⟩ (.int .i64 ak)).setCell ⟨vb,i*12+11,none⟩ (.int .i64 r)) fb vb D ak c U Z:=by
 obtain⟨E,B,hE,hP,hU,CG,hz⟩:=h;have hl:=(a0i.1 hi).1;have hEl:=hP.len;obtain⟨⟨f,L⟩,he⟩:∃e,E[i]?=some e:=⟨E[i]'(by omega),a0c (by omega)⟩;refine⟨_,B,hE.memo (a:=ak) (r:=r) he,hP.memo he hi hr,hU,CG,?_,?_⟩
 ·intro k hk;have:=hz.1 k hk;simpa using this
 intro e hm x n cc ex;rcases mem_set hm with rfl|hm
 ·exact hz.2 (f,L) (a0M he) x n cc ex
 exact hz.2 e hm x n cc ex
theorem ST.ask {base:Nat}{c:Nat}(c2:Nat)(h:ST base w fb vb D ak c U Z):ST base (w.setCell ⟨fb,1025,none⟩ (.int .i64 ((ak+1:Nat):Int))) fb vb D (ak+1) c2 U Z:=by
 obtain⟨E,B,hE,hP,hU,CG,hz⟩:=h;refine⟨E,B,hE.abV (ak+1),⟨hP.tb,hP.bu,hP.lk,hP.te,λe he=>Nat.le_succ_of_le (hP.al e he),?_⟩,hU,CG,?_,hz.2⟩
 ·intro _ i e d he _ ha
  have:=hP.al e (a0M he);omega
 intro k hk;have:=hz.1 k hk;simpa using this
theorem ST.cells {base:Nat}{c:Nat}(h:ST base w fb vb D ak c U Z):w.cell? ⟨fb,1025,none⟩=some (.int .i64 ak)/\(∀o,w.frozen? ⟨fb,o,none⟩=false)/\(∀o,w.frozen? ⟨vb,o,none⟩=false):=by
 obtain⟨E,B,hE,_⟩:=h;obtain⟨cap,ht,hl⟩:=hE.row;refine⟨ht.ao9,ht.fz,λo=>?_⟩;obtain⟨_,_,cur,hv⟩:=hE.Yv;simp[World.frozen?,hv]
theorem ahy(d:NF):LfC d:=by
 refine NF.ind (P:=LfC) ?_ d;intro d ih base w fb vb D ak c U Z i h hi hn hc ha;have FL:=aj (λnq=>Yy d ih base (w.drewN nq) fb vb D ak c U Z i (h.aW ((aA.refl _ _).drewN nq)) hi hn hc ha);obtain⟨f,L,cap,K⟩:=h.look hi;have aO:=K.lt;have t0:=K.tab;have k10:=K.get.2.2.2.2.2.2.2.2.2.2.1;have k11:=K.get.2.2.2.2.2.2.2.2.2.2.2;have amx:=h.cells.1;have KM:=aj K.mem;have HS:=aj h;have HI:=aj hi;have Vo:(i:Int)<D.length:=by omega
 clear K h hi hn
 by_cases he:f.ak=ak
 ·have hb:=ape he
  have R3:Z_ (∀nq,RQ base w fb vb D ak c U Z (left c d) (.returned (.int .i64 (f.lf:Nat))) (w.drewN nq)):=λnq=>RQ.here HS.o ((aA.refl _ _).drewN _) (KM.o ha he)
  clear FL he;go_enter Tryz.func112,Tryz.ntmps112
  go_wp2_with fail
  go_quiet (fail)
  go_wp2;go_ret;exact R3.o _
 have hb:=amt he;clear he;go_enter Tryz.func112,Tryz.ntmps112
 go_wp2_with fail
 go_quiet (fail)
 go_wp2_with fail
 refine(FL.o _).mono ?_;rintro e w2 eZ;obtain⟨yf,R,r,rfl,dM,hr,hq⟩:=eZ;have Si:=pK (R:=R) HI;obtain⟨f2,L2,aP,K2⟩:=dM.look Si;have u0:=K2.tab;have u10:=K2.get.2.2.2.2.2.2.2.2.2.2.1;have u11:=K2.get.2.2.2.2.2.2.2.2.2.2.2;have ul:=K2.lt;obtain⟨aqE,ufz,uvz⟩:=dM.cells;have M:=aj (dM.memo Si hr);have HR:=aj hr;have Cu:=dM.ng.2.2.2.2.2;have Q:=aj (FQ.WQ ((aA.refl [] w).drewN nq) hq);obtain⟨nD,hnD⟩:∃n,n=(D++R).length:=⟨_,rfl⟩;rw[<-hnD]at u0 ul;clear K2 dM hr hq hnD FL t0 k10 k11 amx;have ul2:(i:Int)<nD:=by omega
 have bL:yf≠fb:=by omega
 have aqF:=uvz (i*12+10);have aqG:=uvz (i*12+11);clear ufz uvz;go_wp2_with fail
 go_region
 have F4:Z_ (FQ fb vb yf w (((w2.setCell ⟨yf,i*12+10,none⟩ (.int .i64 ak)).setCell ⟨yf,i*12+11,none⟩ (.int .i64 r)).drew)):=FQ.trans Q.o ⟨(((aA.refl _ _).setCell (.inl (by simp)) _).setCell (.inl (by simp)) _).drew,.inl rfl⟩;have M4:=aj (M.o.aW ((aA.refl _ _).drew));clear M Q;go_wp2;go_ret;exact⟨yf,R,r,rfl,M4,HR,F4⟩
theorem Tg(base:Nat)(w:World)(fb vb:Nat)(D:List NF)(ak c c2:Nat)(U:List NF)(Z:LN)(i:Nat)(d:NF)(h:ST base w fb vb D ak c2 U Z)(hi:D[i]?=some d)(hn:Cc c U d)(hc:c<256)(hak:ak<=1000000) :
 Calls Tryz.prog 101 #[.pointer (some ⟨fb,0,none⟩),.int .i64 i,.int .u8 c] w λe w'=>∃jg R r,e=.returned (.int .i64 (r:Nat))/\ST base w' fb jg (D++R) (ak+1) c U Z/\(D++R)[r]?=some (left c d)/\FQ fb vb jg w w':=by
 have amx:=h.cells.1;have MW:=h.cells.2.1 1025;have h2:=h.ask c;have C:=aj (ahy d base _ fb vb D (ak+1) c U Z i h2 hi hn hc (by omega));have F:=aj (show FQ fb vb vb w (w.setCell ⟨fb,1025,none⟩ (.int .i64 ((ak+1:Nat):Int))) from ⟨(aA.refl _ _).setCell (.inl (by simp)) _,.inl rfl⟩);have e1:((ak+1:Nat):Int)=(ak:Int)+1:=by omega
 rw[e1]at C F;clear h h2 hi hn e1;go_enter Tryz.func101,Tryz.ntmps101
 go_wp2_with fail
 refine(C.o).mono ?_;rintro e w2 ⟨jg,R,r,rfl,dM,hr,hq⟩;have S2:=aj dM;have HR:=aj hr;have Q:=aj (F.o.trans hq);clear dM hr hq C;go_wp2;go_ret;exact⟨jg,R,r,rfl,S2,HR,Q⟩
theorem aA.above {S T:LN} {a b c:World}(h:aA T a b)(k:aA S b c)(hS:∀x∈S,a.heap.size<=x\/x∈T):aA T a c :=
 ⟨k.os.trans h.os,k.tape.trans h.tape,k.output.trans h.output,a0e h.size k.size,λi hi hT=>(k.block i (a0x hi h.size) (λhm=>(hS i hm).elim (λe=>by omega) hT)).trans (h.block i hi hT)⟩
theorem ST.amy {base:Nat}{c:Nat}{Z2:LN}(h:ST base w fb vb D ak c U Z)(hs:∀k∈Z2,k∈Z):ST base w fb vb D ak c U Z2:=by
 obtain⟨E,B,h1,h2,h3,h4,h5⟩:=h;exact⟨E,B,h1,h2,h3,h4,λk hk=>h5.1 k (hs k hk),λe he x n cc ex hm=>h5.2 e he x n cc ex (hs _ hm)⟩
theorem ahz(n b:Nat):(List.replicate n 0).getD b 0=0:=by
 rw[a0F,a2v]
 split<;>rfl
theorem ST.start{c:Nat}(ht:FT w fb va (List.replicate 1024 0) 0)(hl:FL (fb+1) w va [fv0,fv1])(hz:fb+1<=w.heap.size)(hU:NF.zero∈U/\NF.one∈U)(CG:U.length<=1000000000000):∃vb,ST (fb+1) w fb vb [.zero,.one] 0 c U []:=by
 have hs:∃vb cap,va=.slice (some ⟨vb,0,none⟩) 2 cap:=by
  rcases hl.2 with⟨_,e⟩|⟨g,cap,cur,e,_⟩
  ·simp at e
  exact⟨g,cap,by simpa using e⟩
 obtain⟨vb,cap,rfl⟩:=hs;refine⟨vb,[(fv0,[]),(fv1,[])],List.replicate 1024 0,⟨⟨cap,ht,hl⟩,?_,?_,a2B _,hz⟩,⟨⟨rfl,rfl,rfl,rfl,rfl,?_,by simp,?_⟩,?_,?_,?_,?_,?_⟩,?_,CG,by simp,by
  intro e he x n cc ex;simp at he;rcases he with rfl|rfl<;>simp[fv0,fv1]at ex⟩
 ·intro e he
  simp at he;rcases he with rfl|rfl<;>exact PL.nil _
 ·intro e he
  simp at he;rcases he with rfl|rfl<;>exact a2T 256
 ·intro i k d hi _ hd
  have:=(a0i.1 hd).1;simp at this;omega
 ·intro d hd
  simp at hd;rcases hd with rfl|rfl
  ·exact WC.zero
  exact WC.one
 ·intro b hb
  rw[ahz];rcases xG lh (List.map jy [(fv0,[]),(fv1,[])]) b 2 with h|⟨h1,h2,_⟩
  ·exact h.symm
  omega
 ·intro i e hi he
  have:=(a0i.1 he).1;simp at this;omega
 ·intro i e d he hd
  match i with
  | 0=>simp at he hd;subst he hd;rfl
  | 1=>simp at he hd;subst he hd;rfl
  | i+2=>simp at he
 ·intro e he
  simp at he;rcases he with rfl|rfl<;>simp[fv0,fv1]
 ·intro h1;omega
 intro x hx;simp at hx;rcases hx with rfl|rfl
 ·exact hU.1
 exact hU.2
structure AQ(X:NF)(wB wr:World)(ab fb:Nat)(U:List NF)(n:Int)(CL:LN)(vs vn:Value)(I:LN)(St:List LN)(nx:LN)(vb:Nat)(D:List NF)(ak c:Nat):Prop where
 st:ST (fb+1) wr fb vb D ak c U (vs.ownBlock.toList++vn.ownBlock.toList)
 mp:∀(j:Nat) (u:LN),St[j]?=some u->∃r,I[j]?=some r/\D[r]?=some (dW X u)
 il:IL (fb+1) wr vs I
 nl:IL (fb+1) wr vn nx
 ne:∀k,vs.ownBlock=some k->vn.ownBlock≠some k
 au:AB wr ab n CL (.slice none 0 0) vn
 ln:I.length=St.length
 fr:aA [ab] wB wr
 fe:fb=wB.heap.size
 lo:ab<wB.heap.size
theorem AQ.find {wB wr:World} {CL:LN}{vs:Value} {I:LN}{c:Nat}(h:AQ X wB wr ab fb U n CL vs vn I St nx vb D ak c)(hr:D[r]?=some (dW X v)):I.findIdx (·==r)=Gj X St v:=by
 have hl:=h.ln;have dM:=h.st;have hm:=h.mp;have xA:=dM.ng.2.2.2.1;have key:∀j (hj:j<I.length) (Yx:j<St.length),(I[j]==r)=(name (dW X St[j])==name (dW X v)):=by
  intro j hj Yx;obtain⟨q,h1,h2⟩:=hm j St[j] (a0c Yx);rw[a0c hj]at h1;simp only[Option.some.injEq]at h1;rw[h1,a0P,a0X,a0X];rw[dM.num h2 hr]
  constructor
  ·intro e;rw[e]
  exact YM (xA _ (a0M h2)).1 (xA _ (a0M hr)).1
 unfold Gj;clear hm dM xA
 revert hl key
 clear h
 induction I generalizing St with
 | nil =>
   intro hl _;cases St with
   | nil=>rfl
   | cons a b=>simp at hl
 | cons a I ih =>
   intro hl key;cases St with
   | nil=>simp at hl
   | cons u St =>
     have k0:=key 0 (by simp) (by simp);simp only[List.getElem_cons_zero]at k0;rw[List.findIdx_cons,List.findIdx_cons,k0];have:=ih (by simpa using hl) (λj hj Yx=>by have:=key (j+1) (by simpa using hj) (by simpa using Yx);simpa using this);rw[this]
theorem AB.uj {cl:LN}(h:AB w ab n cl va vn):oP w [ab]:=by
 intro k hk cur fz;simp at hk;subst hk;rw[h.1];simp
section
variable {X:NF} {wB wr:World} {ab fb:Nat} {U:List NF} {n:Int} {CL:LN} {vs vn:Value} {I:LN} {St:List LN} {nx:LN} {vb:Nat} {D:List NF} {ak c:Nat}
theorem AQ.aW(h:AQ X wB wr ab fb U n CL vs vn I St nx vb D ak c)(f:aA [] wr w2):AQ X wB w2 ab fb U n CL vs vn I St nx vb D ak c :=
 ⟨h.st.aW f,h.mp,ek h.il f (by simp),ek h.nl f (by simp),h.ne,h.au.aB f (by simp),h.ln,h.fr.above f (by simp),h.fe,h.lo⟩
theorem AQ.turn {yf ak2 c2:Nat} {R:List NF}(h:AQ X wB wr ab fb U n CL vs vn I St nx vb D ak c)(dM:ST (fb+1) w2 fb yf (D++R) ak2 c2 U (vs.ownBlock.toList++vn.ownBlock.toList))(hq:FQ fb vb yf wr w2):AQ X wB w2 ab fb U n CL vs vn I St nx yf (D++R) ak2 c2:=by
 have n1:=h.st.PM h.il;have n2:=h.st.PM h.nl;have hb:=h.st.ng.2.2.2.2.2;have Gv:=h.fe;have l7:=h.lo;have hr:∀(v:Value),fb∉v.ownBlock.toList/\vb∉v.ownBlock.toList->∀k,v.ownBlock=some k->k ∉ [fb,vb]:=λv hv k hk=>by
  simp only[a0l,a1Y,or_false,not_or];exact⟨λe=>hv.1 (by rw[a0H,<-e];exact hk),λe=>hv.2 (by rw[a0H,<-e];exact hk)⟩
 refine⟨dM,?_,kW h.il hq.fr (hr vs n1),kW h.nl hq.fr (hr vn n2),h.ne,h.au.aB hq.fr (by simp;omega),h.ln,h.fr.above hq.fr (by simp;omega),h.fe,h.lo⟩;intro j u hj;obtain⟨r,h1,h2⟩:=h.mp j u hj;exact⟨r,h1,pK h2⟩
theorem AQ.aph {o:Obj}(h:AQ X wB wr ab fb U n CL vs vn I St nx vb D ak c)(hr:D[r]?=some (dW X v))(jf:IL (fb+1) w5 (.slice (some ⟨g,0,none⟩) (I.length+1) cap) (I++[r]))(hg:(wr.alloc o).grownBy w5 vs.ownBlock)(aX:vs.ownBlock=some g\/g=(wr.alloc o).heap.size)(iD:g<w5.heap.size) :
 AQ X wB w5 ab fb U n CL (.slice (some ⟨g,0,none⟩) (I.length+1) cap) vn (I++[r]) (St++[v]) nx vb D ak c:=by
 have n1:=h.st.PM h.il;have Gv:=h.fe;have l7:=h.lo;have Js:=h.ln;have hz:=h.fr.size;have K:=h.aW ((aA.refl [] wr).alloc o);have F:aA vs.ownBlock.toList (wr.alloc o) w5:=aA.dS hg;have hvs:∀k,k∈vs.ownBlock.toList->fb+1<=k:=λk hk=>by rw[a0H]at hk;exact(h.il.lt k hk).1
 refine⟨h.st.ae5 hg aX iD n1.1 n1.2,?_,jf,kW K.nl F (λk hk hm=>by rw[a0H]at hm;exact h.ne k hm hk),?_,K.au.aB F (λhm=>by have:=hvs _ hm;omega),by simp;omega,K.fr.above F (λx hx=>.inl (by have:=hvs _ hx;omega)),h.fe,h.lo⟩
 ·intro j u hj
  by_cases aO:j<St.length
  ·rw[a0u aO]at hj
   obtain⟨q,h1,h2⟩:=h.mp j u hj;exact⟨q,by rw[a0u (by omega)];exact h1,h2⟩
  have qM:=(a0i.1 hj).1;simp at qM;have:j=St.length:=by omega
  subst this;simp at hj;subst hj;exact⟨r,by rw[<-Js];simp,hr⟩
 intro k hk hvn;simp[Value.ownBlock]at hk;subst hk;rcases aX with e|e
 ·exact h.ne _ e hvn
 have:=(h.nl.lt _ hvn).2;simp at e;omega
theorem AQ.addN{m:Nat} {o:Obj}(h:AQ X wB wr ab fb U n CL vs vn I St nx vb D ak c)(jf:IL (fb+1) w5 (.slice (some ⟨g,0,none⟩) (nx.length+1) cap) (nx++[m]))(hg:(wr.alloc o).grownBy w5 vn.ownBlock)(aX:vn.ownBlock=some g\/g=(wr.alloc o).heap.size)(iD:g<w5.heap.size) :
 AQ X wB (w5.setCell ⟨ab,258,none⟩ (.slice (some ⟨g,0,none⟩) (nx.length+1) cap)) ab fb U n CL vs (.slice (some ⟨g,0,none⟩) (nx.length+1) cap) I St (nx++[m]) vb D ak c:=by
 have n2:=h.st.PM h.nl;have Gv:=h.fe;have l7:=h.lo;have hz:=h.fr.size;have hb:=h.st.ng.2.2.2.2.2;have K:=h.aW ((aA.refl [] wr).alloc o);have F:aA vn.ownBlock.toList (wr.alloc o) w5:=aA.dS hg;have hvn:∀k,k∈vn.ownBlock.toList->fb+1<=k:=λk hk=>by rw[a0H]at hk;exact(h.nl.lt k hk).1
 have A5:=K.au.aB F (λhm=>by have:=hvn _ hm;omega);have F6:aA [ab] w5 (w5.setCell ⟨ab,258,none⟩ (.slice (some ⟨g,0,none⟩) (nx.length+1) cap)):=(aA.refl _ _).setCell (.inl (by simp)) _;have S5:ST (fb+1) w5 fb vb D ak c U (vs.ownBlock.toList++[g]):=by
  have:=(h.st.amy (Z2:=vn.ownBlock.toList++vs.ownBlock.toList) (λk hk=>by simp only[a0b]at hk |-;exact hk.symm)).ae5 hg aX iD n2.1 n2.2;exact this.amy (λk hk=>by simp only[a0b]at hk |-;exact hk.symm)
 refine⟨?_,h.mp,?_,ownsRow_setCell_below jf (a:=⟨ab,258,none⟩) (by show ab<fb+1;omega) _,?_,A5.Fv _,h.ln,(K.fr.above F (λx hx=>.inl (by have:=hvn _ hx;omega))).above F6 (by simp),h.fe,h.lo⟩
 ·exact S5.aB F6 (by simp;omega) (by simp;omega) A5.uj
 ·refine ownsRow_setCell_below (kW K.il F (λk hk hm=>by rw[a0H]at hm;exact h.ne k hk hm)) (a:=⟨ab,258,none⟩) (by show ab<fb+1;omega) _
 intro k hk kg;simp[Value.ownBlock]at kg;subst kg;rcases aX with e|e
 ·exact h.ne _ hk e
 have:=(h.il.lt _ hk).2;simp at e;omega
end
def QL(base:Nat)(w:World)(v:Value)(L:List Bool):Prop:=w.ownsRow base 4 1 v L.length (L.map λb=>.bool b)
theorem Ti(St:List LN)(f:LN->Bool)(j:Nat)(u:LN)(h:St[j]?=some u):(St.take (j+1)).map f=(St.take j).map f++[f u]:=by
 rw[a1n,h,a0T];rfl
theorem adm {R:Bool × List LN × LN}(h:yu X F k i St nx=R)(hi:St.length<=i):R=(true,St,nx):=by
 rw[<-h];cases k with
 | zero=>rfl
 | succ k=>rw[yu,a1W hi]
def adn(w:World)(e:RX)(F CL:LN)(en:Ending)(w':World):Prop :=
 aA [] w w'/\((qR (bn e) F).1=false->en=.returned (.tuple #[.agg Tryz.zeroCells157,.bool false])) /\
 ((qR (bn e) F).1=true->∃va vn,en=.returned (.tuple #[.agg (.int .i64 F.length::(nv .u8 CL++[va,vn])).toArray,.bool true])/\QL w.heap.size w' va ((qR (bn e) F).2.1.map λu=>dY (dW (bn e) u))/\IL w.heap.size w' vn (qR (bn e) F).2.2)
theorem AQ.start{w4:World} {CL:LN}{r0:Nat}(dM:ST (w2.heap.size+1) w4 w2.heap.size vb D 0 0 U [])(hr:D[r0]?=some X)(hA:AB w4 ab n CL (.slice none 0 0) (.slice none 0 0))(hf:aA [ab] w2 w4)(qZ:ab<w2.heap.size)(hz:w2.heap.size+1<=w4.heap.size) :
 AQ X w2 (w4.alloc (Obj.cells #[.int .i64 r0] 3)) ab w2.heap.size U n CL (.slice (some ⟨w4.heap.size,0,none⟩) 1 1) (.slice none 0 0) [r0] [[]] [] vb D 0 0:=by
 have F:=(aA.refl [] w4).alloc (Obj.cells #[.int .i64 r0] 3);refine⟨?_,?_,?_,World.ownsRow_nil _ _ _ _,by simp[Value.ownBlock],hA.aB F (by simp),rfl,hf.above F (by simp),rfl,qZ⟩
 ·have:=dM.more F (Z2:=[w4.heap.size]) (λk hk=>by simp at hk;subst hk;simp)
  simpa[Value.ownBlock] using this
 ·intro j u hj
  cases j with
  | zero=>simp at hj;subst hj;exact⟨r0,rfl,hr⟩
  | succ j=>simp at hj
 exact y5 (base:=w4.heap.size) (World.ownsRow_lit _ #[.int .i64 r0] 1 (a0a _) (by unfold maxLen;omega) (by simp)) hz
theorem ZS(X:NF)(w:LN)(F:LN)(j c:Nat)(St:List LN)(nx:LN)(hj:F[j]?=some c):rQ X w (F.drop j) St nx=if Gj X St (w++[c])=40 then (false,St,nx) else rQ X w (F.drop (j+1)) (if Gj X St (w++[c])=St.length then St++[w++[c]] else St) (nx++[Gj X St (w++[c])]):=by
 have hl:=(a0i.1 hj).1;have he:=(a0i.1 hj).2;rw[a0q hl,he,rQ]
structure apj(e:RX)(F:LN)(wB wr:World)(ab:Nat)(CL:LN)(vs:Value)(i k:Nat)(I:LN)(St:List LN)(nx:LN)(vn:Value)(vb:Nat)(D:List NF)(c:Nat):Prop where
 aq:AQ (bn e) wB wr ab wB.heap.size (Ay e F) F.length CL vs vn I St nx vb D nx.length c
 go:yu (bn e) F k i St nx=qR (bn e) F
 wb:WB St
 le:nx.length<=i*F.length
 il:i<=St.length
structure InQ(e:RX)(F:LN)(wB wr:World)(ab:Nat)(CL:LN)(vs:Value)(i j:Nat)(w:LN)(RW:Bool × List LN × LN)(I:LN)(St:List LN)(nx:LN)(vn:Value)(vb:Nat)(D:List NF)(c:Nat):Prop where
 aq:AQ (bn e) wB wr ab wB.heap.size (Ay e F) F.length CL vs vn I St nx vb D nx.length c
 go:rQ (bn e) w (F.drop j) St nx=RW
 wb:WB St
 le:nx.length<=i*F.length+j
 il:St[i]?=some w
theorem Xb{w:LN} {R:Bool × List LN × LN}(h:yu X F (k+1) i St nx=R)(hi:St[i]?=some w) :
 R=(match rQ X w F St nx with | (false,r)=>(false,r)|(true,St',nx')=>yu X F k (i+1) St' nx'):=by
 rw[<-h,yu,hi]
 rfl
theorem ajP{w:LN} {R:Bool × List LN × LN}(h:yu X F (k+1) i St nx=R)(hi:St[i]?=some w):(rQ X w F St nx).2.1 <+: R.2.1:=by
 have e:=Xb h hi;rw[e]
 split
 ·rename_i r hr;rw[hr];exact a2K _
 rename_i St' nx' hr;rw[hr];exact ZH X F k (i+1) St' nx'
theorem PN(A:Nat->Prop)(base:Nat)(w:World)(eb:Nat)(e:RX)(vS:Value)(S F CL:LN)(hx:XR A w eb e)(hs:BL base w vS S)(hS:S.length<=1000)(hF:lM S 256=F)(hCL:WI S 256=CL)(ho:vV e)(hd:rM e)(hp:dx e<=40)(ht:jh e<=40)(hn:zX e<=200) :
 Calls Tryz.prog 85 #[.pointer (some ⟨eb,0,none⟩),vS] w (adn w e F CL):=by
 obtain⟨asl,WH,rfl⟩:=aT hs;have HX:=aj hx;have HBS:=aj hs;have HF:=aj hF;have Vx:=aj hCL;clear hx hs hF hCL;have fJ:Tryz.zeroCells157.all (·.oneCell')=true:=vC;have ajQ:=run_storeCells_new (P:=Tryz.prog) (w.alloc (Obj.cells Tryz.zeroCells157 157)) 157 Tryz.zeroCells157 Tryz.zeroCells157 (by rw[iC];exact Dv) rfl fJ;have hw1:(w.alloc (Obj.cells Tryz.zeroCells157 157)).heap.size=w.heap.size+1:=by simp
 rw[hw1]at ajQ;clear fJ hw1;go_enter Tryz.func85,Tryz.ntmps85
 go_wp2_with fail
 have F1:aA [] w ((w.alloc (Obj.cells Tryz.zeroCells157 157)).alloc (Obj.cells Tryz.zeroCells157 157)):=((aA.refl _ _).alloc _).alloc _;have Nf:AB ((w.alloc (Obj.cells Tryz.zeroCells157 157)).alloc (Obj.cells Tryz.zeroCells157 157)) (w.heap.size+1) 0 (List.replicate 256 0) (.slice none 0 0) (.slice none 0 0):=by
  have:=AB.new (w.alloc (Obj.cells Tryz.zeroCells157 157));have hw1:(w.alloc (Obj.cells Tryz.zeroCells157 157)).heap.size=w.heap.size+1:=by simp
  rw[hw1]at this;exact this
 have hR1:((w.alloc (Obj.cells Tryz.zeroCells157 157)).alloc (Obj.cells Tryz.zeroCells157 157)).heap[w.heap.size]?=some (.cells Tryz.zeroCells157 157 (0,0)):=by
  rw[((aA.refl [] _).alloc _).block w.heap.size (by simp) (by simp)];exact bK _ _
 have fT:((w.alloc (Obj.cells Tryz.zeroCells157 157)).alloc (Obj.cells Tryz.zeroCells157 157)).heap.size=w.heap.size+2:=by simp
 generalize (w.alloc (Obj.cells Tryz.zeroCells157 157)).alloc (Obj.cells Tryz.zeroCells157 157)=w1 at F1 Nf hR1 fT |-;have qy:=aj F1;have Jp:=aj hR1;have hSB:=WJ base (w.heap.size+1) (.slice asl S.length WH) S F CL (.slice none 0 0) (.slice none 0 0) w1 HF.o Vx.o (ek HBS.o F1 (by simp)) Nf hS (λe=>by have:=(HBS.o.lt _ e).2;omega);clear F1 hR1 Nf ajQ;refine hSB.mono ?_;rintro en w2 ⟨vf,rfl,hul,adb,aS⟩;obtain⟨af,WK,rfl⟩:=aT hul;have z2:=aS.size;have UF:=aj hul;obtain⟨a2f,c2f,e2f,hNf⟩:=vM hul;simp only[Value.slice.injEq,a1X]at e2f;obtain⟨rfl,rfl⟩:=e2f;have NFF:=aj hNf;clear hNf;have A2:=aj adb;have F2:=aj aS;clear hul adb aS hSB;go_wp2_with fail
 refine(Yu w2).mono ?_;rintro en w3 ⟨va,rfl,hft,hfl,bZ⟩;have z3:=bZ.size;have aqH:=hft.lt;obtain⟨vb0,ajR⟩:=ST.start (c:=0) (U:=Ay e F) hft hfl (by omega) ahi (ahg ho hd hp ht hn (by have:=xN S 256;rw[HF.o]at this;omega));have KX:mY A w w3:=by
  intro k _ ⟨cu,fz,hk⟩;have aO:k<w.heap.size:=by rcases hk with e|e<;>exact(a0d.1 e).1
  rw[bZ.block k (by omega) (by simp),F2.o.block k (by omega) (by simp;omega),qy.o.block k aO (by simp)]
 have NM:=aj (Gu e A (w2.heap.size+1) w3 w2.heap.size vb0 [.zero,.one] 0 0 (Ay e F) [] eb ajR (HX.o.aW KX) (Ty ho hd hp (by omega) ahh) hd ho);have S0:=aj ajR;have F3:=aj bZ;clear hft hfl bZ ajR KX;go_wp2_with fail
 refine(NM.o).mono ?_;rintro en w4 ⟨zY,R,r0,rfl,af7,MP,hq4⟩;have z4:=hq4.fr.size;have A4:AB w4 (w.heap.size+1) F.length CL (.slice none 0 0) (.slice none 0 0):=(A2.o.aB F3.o (by simp)).aB hq4.fr (by have:=S0.o.ng.2.2.2.2.2;simp;omega);have F4:aA [w.heap.size+1] w2 w4:=(F3.o.nil).above hq4.fr (by have:=S0.o.ng.2.2.2.2.2;simp;omega);have Q5:=aj (AQ.start af7 MP A4 F4 (by omega) (by omega));have hFl:F.length<=256:=by have:=xN S 256;rw[HF.o]at this;exact this.1
 have HFb:Z_ (∀f∈F,f<256):=by have:=xN S 256;rw[HF.o]at this;exact this.2
 clear af7 MP hq4 A4 F4 NM S0;go_wp2_with fail
 go_loopg [10,11] 41 (λk v10 v11 wr=>∃(i:Nat) (I:LN) (St:List LN) (nx:LN) (vn:Value) (vb:Nat) (D:List NF) (c:Nat),i+k=41/\v11=.int .i64 i/\apj e F w2 wr (w.heap.size+1) CL v10 i k I St nx vn vb D c)
 case atStart=>exact⟨0,[r0],[[]],[],.slice none 0 0,zY,_,0,by omega,rfl,⟨Q5,rfl,WB.one,by simp,by simp⟩⟩
 case round =>
  clear Q5;obtain⟨i,I,St,nx,vn,vb,D,c,hik,rfl,hq⟩:=hrel;obtain⟨wo,Pn⟩:∃wo,wo=wr:=⟨_,rfl⟩;subst Pn;obtain⟨go,gP⟩:∃go,go=gk:=⟨_,rfl⟩;subst gP;obtain⟨ast,cst,rfl⟩:=aT hq.aq.il;have Q:=aj hq;have Js:=hq.aq.ln;have HLN:=aj Js;have Gm:=hq.wb.1;have UX:=hq.le;have hIl:I.length<=40:=by omega
  clear hq Js
  by_cases aO:i<I.length
  ·obtain⟨g1,Yz⟩:∃g1,go=g1+1:=⟨go-1,by omega⟩
   subst Yz;obtain⟨u,hu⟩:∃u,St[i]?=some u:=⟨St[i]'(by have:=HLN.o;omega),a0c (by have:=HLN.o;omega)⟩;have PI:=aj (Xb Q.o.go hu);have PRE:=aj (ajP Q.o.go hu);have apk:Z_ (u∈(qR (bn e) F).2.1):=a0M (Gl PRE.o (Gl (Px (bn e) u F St nx) hu));have IN0:Z_ (InQ e F w2 wo (w.heap.size+1) CL (.slice ast I.length cst) i 0 u (rQ (bn e) u F St nx) I St nx vn vb D c):=⟨Q.o.aq,rfl,Q.o.wb,by have:=Q.o.le;omega,hu⟩;generalize rQ (bn e) u F St nx=RW at *;clear hu Q hIl;go_wp2_with fail
   go_loopg [10,35] F.length (λk v10 v35 wr=>∃(j:Nat) (I:LN) (St:List LN) (nx:LN) (vn:Value) (vb:Nat) (D:List NF) (c:Nat),j+k=F.length/\v35=.int .i64 j/\InQ e F w2 wr (w.heap.size+1) CL v10 i j u RW I St nx vn vb D c)
   case atStart=>exact⟨0,I,St,nx,vn,vb,D,c,by omega,rfl,IN0⟩
   case round =>
    clear IN0;obtain⟨j,I2,mK,yL,vn2,yf,D2,c2,sI,rfl,nC⟩:=hrel;obtain⟨as2,cs2,rfl⟩:=aT nC.aq.il;obtain⟨an2,cn2,rfl⟩:=aT nC.aq.nl;have Q2:=aj nC;have amz:=nC.aq.ln;have amA:=aj amz;have amB:=nC.wb.1;have aqI:=nC.le;have af9:=(a0i.1 nC.il).1;have zr:=nC.aq.fr.size;have hI2:i<I2.length:=by omega
    have aqJ:I2.length<=40:=by omega
    clear nC amz;have hfm:i*F.length<=40*256:=a0E (by omega) hFl
    by_cases lL:j<F.length
    ·have hFj:F[j]?=some F[j]:=a0c lL
     obtain⟨gf,of,rfl,iD,hcf⟩:=NFF.o j lL;have hgf:=(UF.o.lt _ rfl).1;simp only at hgf;have nL:wr.cell? ⟨gf,of+j,none⟩=some (.int .u8 (F[j]:Nat)):=(Q2.o.aq.fr.cell (p:=⟨gf,of+j,none⟩) iD (by simp;omega)).trans hcf;have hcm:F[j]∈F:=a0z lL;have hc256:=HFb.o _ hcm;obtain⟨q,hIq,hDq⟩:=Q2.o.aq.mp i u Q2.o.il;obtain⟨gs,rfl⟩:∃g,as2=some ⟨g,0,none⟩:=by
      rcases Q2.o.aq.il.2 with⟨e1,h1⟩|⟨g,c,cur,e1,_⟩
      ·omega
      simp at e1;exact⟨g,e1.1⟩
     have za:wr.cell? ⟨gs,i,none⟩=some (.int .i64 (q:Nat)):=by
      have:=Q2.o.aq.il.cell i hI2;rw[a0c hI2]at hIq;simp only[Option.some.injEq]at hIq;rw[hIq]at this;exact this
     have RD:=aj (ZS (bn e) u F j F[j] mK yL hFj);have LB:=aj (Tg (w2.heap.size+1) wr w2.heap.size yf D2 yL.length F[j] c2 (Ay e F) _ q (dW (bn e) u) Q2.o.aq.st hDq (aeX ho hp ht apk.o hcm) hc256 (by omega));have hsn:Z_ (left F[j] (dW (bn e) u)=dW (bn e) (u++[F[j]])):=(su _ _ _).symm;rw[hsn.o]at LB;clear hcf hFj hIq hDq hcm hsn;generalize F[j]=cc at *;have aqK:(i:Int)<I2.length:=by omega
     go_wp2_with fail
     refine(LB.o).mono ?_;rintro en w5 ⟨vb5,R5,r5,rfl,amC,hr5,hq5⟩;have A5:=aj (Q2.o.aq.turn amC hq5);have Eg:=aj hr5;have ajS:=A5.o.find hr5;have FI:=aeZ (.slice (some ⟨gs,0,none⟩) I2.length cs2) I2 r5 w5 (vM A5.o.il) (by omega);rw[ajS]at FI;have FI2:=aj FI;have aqL:=alF (bn e) mK (u++[cc]);have z5:=hq5.fr.size;clear amC hr5 hq5 ajS FI LB nL za;have Xc:Z_ (RW=if Gj (bn e) mK (u++[cc])=40 then (false,mK,yL) else rQ (bn e) u (F.drop (j+1)) (if Gj (bn e) mK (u++[cc])=mK.length then mK++[u++[cc]] else mK) (yL++[Gj (bn e) mK (u++[cc])])):=by
      show _=_;rw[<-Q2.o.go];exact RD
     clear RD;generalize Gj (bn e) mK (u++[cc])=nn at *;go_wp2_with fail
     refine(FI2.o).mono ?_;rintro en w5' ⟨rfl,rfl⟩
     by_cases Bg:nn=40
     ·have HAR:Z_ (qR (bn e) F=(false,mK,yL)):=by show _=_;rw[PI.o,Xc.o,a0j Bg]
      have ko:w5.heap[w.heap.size]?=some (.cells Tryz.zeroCells157 157 (0,0)):=by
       rw[A5.o.fr.block w.heap.size (by omega) (by simp),F2.o.block w.heap.size (by omega) (by simp)];exact Jp
      have dM:=uf ko rfl vC;have wW:=aj (tZ (cs:=Tryz.zeroCells157) ko);have FF:Z_ (aA [] w (w5.setRow w.heap.size Tryz.zeroCells157)):=(qy.o.above ((F2.o.above A5.o.fr (by simp))) (by intro x hx;simp at hx;omega)).above (aA.setRow _ _ _) (by simp);subst Bg;clear ko;go_wp2
      (try simp only[Exit.inBlock,Exit.then])
      refine bodyPost_ret (bH rfl _ _ w.heap.size _ rfl (pU wW.o iC)) rfl ?_;refine⟨FF,λ_=>rfl,λh=>?_⟩;rw[HAR.o]at h;simp at h
     have aqM:((nn:Int)==40)=false:=by rw[a0k];omega
     have RD3:Z_ (RW=rQ (bn e) u (F.drop (j+1)) (if nn=mK.length then mK++[u++[cc]] else mK) (yL++[nn])):=by
      show _=_;rw[Xc.o,a0g Bg]
     clear Xc FI2;have hcN:=A5.o.au.cN.2
     by_cases rU:nn=mK.length
     ·have hnI:nn=I2.length:=by have:=amA.o;omega
      subst hnI;have RD4:Z_ (rQ (bn e) u (F.drop (j+1)) (mK++[u++[cc]]) (yL++[I2.length])=RW):=by
       show _=_;rw[RD3.o,a0j rU]
      have WB4:=aj (Q2.o.wb.add (c:=cc) Q2.o.il (by omega));have IL4:Z_ ((mK++[u++[cc]])[i]?=some u):=Gl (a2U _ _) Q2.o.il;clear RD3 rU;go_wp2_with (first | (at_builtin;refine sO _ rfl _ _ rfl (w2.heap.size+1) (.slice (some ⟨gs,0,none⟩) I2.length cs2) I2 r5 w5.heap.size rfl (A5.o.il.alloc _) rfl (jo _ _ _ _ rfl) (by omega) (by simp;omega) ?_;intro gg aP w6 aQ aG aX apl;have A6:=aj (A5.o.aph Eg.o aQ aG aX apl);have aqN:=A6.o.au.cN.2;have zz6:=A6.o.fr.size;clear aQ aG aX)|(at_builtin;refine sO _ rfl _ _ rfl (w2.heap.size+1) (.slice an2 yL.length cn2) yL I2.length w6.heap.size rfl (A6.o.nl.alloc _) rfl (jo _ _ _ _ rfl) (by omega) (by simp;omega) ?_;intro g7 amn w7 aQ aG aX ajT;have A7:=aj (A6.o.addN aQ aG aX ajT);have AB7:=(A6.o.aW ((aA.refl [] w6).alloc _)).au.aB (aA.dS aG) (λhm=>by rw[a0H]at hm;have:=(A6.o.nl.lt _ hm).1;omega);have hc7:=AB7.cN.2;have Jj:=AB7.fz 258;clear aQ aG aX AB7))
      go_roundg (gk-1)
      case measure=>omega
      case rel=>exact⟨j+1,_,_,_,_,vb5,_,cc,by omega,by go_num,⟨by simpa using A7.o,RD4,WB4,by simp;omega,IL4⟩⟩
     have hnI:nn≠I2.length:=by have:=amA.o;omega
     have hbI:=amt hnI;have RD4:Z_ (rQ (bn e) u (F.drop (j+1)) mK (yL++[nn])=RW):=by
      show _=_;rw[RD3.o,a0g rU]
     clear RD3 rU;go_wp2_with (first | (at_builtin;refine sO _ rfl _ _ rfl (w2.heap.size+1) (.slice an2 yL.length cn2) yL nn w5.heap.size rfl (A5.o.nl.alloc _) rfl (jo _ _ _ _ rfl) (by omega) (by simp;omega) ?_;intro g7 amn w7 aQ aG aX ajT;have A7:=aj (A5.o.addN aQ aG aX ajT);have AB7:=(A5.o.aW ((aA.refl [] w5).alloc _)).au.aB (aA.dS aG) (λhm=>by rw[a0H]at hm;have:=(A5.o.nl.lt _ hm).1;omega);have hc7:=AB7.cN.2;have Jj:=AB7.fz 258;clear aQ aG aX AB7))
     go_roundg (gk-1)
     case measure=>omega
     case rel=>exact⟨j+1,_,_,_,_,vb5,_,cc,by omega,by go_num,⟨by simpa using A7.o,RD4,Q2.o.wb,by simp;omega,Q2.o.il⟩⟩
    have qM:j=F.length:=by omega
    have YA:RW=(true,mK,yL):=by rw[<-Q2.o.go,qM,a3i];rfl
    have HGO:Z_ (yu (bn e) F g1 (i+1) mK yL=qR (bn e) F):=by
     show _=_;have:=PI.o;rw[YA]at this;exact this.symm
    have hle:yL.length<=(i+1)*F.length:=by rw[a0r];omega
    clear YA;go_wp2;go_roundg g1
    case measure=>omega
    case rel=>exact⟨i+1,I2,mK,yL,_,yf,D2,c2,by omega,by go_num,⟨Q2.o.aq,HGO,Q2.o.wb,hle,by omega⟩⟩
  have HAR:Z_ (qR (bn e) F=(true,St,nx)):=adm Q.o.go (by have:=HLN.o;omega);have hA0:=Q.o.aq.au;have hFw:aA [w.heap.size+1] w2 wo:=Q.o.aq.fr;have ko:wo.heap[w.heap.size]?=some (.cells Tryz.zeroCells157 157 (0,0)):=by
   rw[hFw.block w.heap.size (by omega) (by simp),F2.o.block w.heap.size (by omega) (by simp)];exact Jp
  have HA0:=aj hA0;have wW:=aj ko;have zo:=hFw.size;have af8:=(xh Q.o.aq.il);clear hA0 ko hFw;obtain⟨an,cn,rfl⟩:=aT Q.o.aq.nl;have hls:=Q.o.aq.st.ng.2.2.2.2.2;go_wp2_with fail
  go_loopg [69] I.length (λk v69 wr=>∃(j:Nat) (va:Value),j+k=I.length/\v69=.int .i64 j/\QL wo.heap.size wr va ((St.take j).map λu=>dY (dW (bn e) u))/\AB wr (w.heap.size+1) F.length CL va (.slice an nx.length cn)/\aA [w.heap.size+1] wo wr)
  case atStart=>exact⟨0,.slice none 0 0,by omega,rfl,World.ownsRow_nil _ _ _ _,HA0,aA.refl _ _⟩
  case round =>
   obtain⟨j,va,sI,rfl,Gb,qZ,bU⟩:=hrel;obtain⟨aa,ca,rfl⟩:=aT Gb;have QL1:=aj Gb;have AB1:=aj qZ;have FR1:=aj bU;have z1:=bU.size;have anM:=qZ.lt;clear Gb qZ bU
   by_cases CE:j<I.length
   ·obtain⟨u,hu⟩:∃u,St[j]?=some u:=⟨St[j]'(by have:=HLN.o;omega),a0c (by have:=HLN.o;omega)⟩
    obtain⟨q,hIq,hDq⟩:=Q.o.aq.mp j u hu;obtain⟨gs,rfl⟩:∃g,ast=some ⟨g,0,none⟩:=by
     rcases Q.o.aq.il.2 with⟨e1,h1⟩|⟨g,c,cur,e1,_⟩
     ·omega
     simp at e1;exact⟨g,e1.1⟩
    have Sb:=Q.o.aq.il.lt gs rfl;have za:wr.cell? ⟨gs,j,none⟩=some (.int .i64 (q:Nat)):=by
     have:=Q.o.aq.il.cell j CE;rw[a0c CE]at hIq;simp only[Option.some.injEq]at hIq;rw[hIq]at this;rw[FR1.o.cell (p:=⟨gs,j,none⟩) Sb.2 (by simp;omega)];exact this
    have amD:=Q.o.aq.st.aB FR1.o (by simp;omega) (by simp;omega) HA0.o.uj;obtain⟨f,L2,aP,K⟩:=amD.look hDq;have t0:=K.tab;have k8:=K.get.2.2.2.2.2.2.2.2.1;have aqO:=K.lt;rw[K.te]at k8;have hcA:=AB1.o.cN.1;have hzA:=AB1.o.fz 257;have MT:=aj (Ti St (λu=>dY (dW (bn e) u)) j u hu);have nC:(q:Int)<D.length:=by omega
    have hSl:((St.take j).map λu=>dY (dW (bn e) u)).length<=40:=by simp;omega
    clear K amD hIq hDq hu;generalize dY (dW (bn e) u)=bb at *;generalize ((St.take j).map λu=>dY (dW (bn e) u))=LB at *;obtain⟨i9,hi9,KH,Sv,EK⟩:=info_parts Y0;have QLr:Z_ (wr.ownsRow wo.heap.size 4 1 (.slice aa LB.length ca) LB.length (LB.map λb=>.bool b)):=QL1.o;have bL:Value.ownBlock (.slice aa LB.length ca)≠some (w.heap.size+1):=λe=>by have:=(QL1.o.lt _ e).1;omega
    have g2:∀o:Obj,(wr.alloc o).drew.frozen? ⟨w.heap.size+1,257,none⟩=false:=λo=>((((aA.refl [] wr).alloc o).drew).frozen anM (by simp)).trans hzA
    go_wp2_with fail
    go_region_law ((refine step_append_lies _ (by rfl) _ _ _ (by rfl) wo.heap.size 4 i9 _ 1 1 Tryz.underlying155 hi9 KH Sv EK rfl (by omega) (.slice aa LB.length ca) LB.length (LB.map λb=>.bool b) (by rfl) (by exact QLr.o.alloc _) ⟨wr.heap.size,0,none⟩ 1 1 [.bool bb] (by rfl) (by rfl) (World.news_of_block (cs:=#[.bool bb]) (t:=4) (fr:=(0,0)) (by exact bK _ _)) (by simp[Value.oneCell']) (by omega) (by unfold maxLen;omega) (by omega) (by simp;omega) (wr.heap.size+1) (by simp) ?_;intro gg FY w4 bF aG aX zx;have c4:=(aG.cell_far ⟨w.heap.size+1,257,none⟩ (by simp;omega) (Ne.symm bL));have f4:=(aG.frozen_far ⟨w.heap.size+1,257,none⟩ (by simp;omega) (Ne.symm bL));have f5:=f4.trans (g2 _)))
    all_goals
     have F4:=aA.dS aG;have AB4:=(AB1.o.aB (S:=[]) (((aA.refl [] wr).alloc (Obj.cells #[.bool bb] 4)).drew) (by simp)).aB F4 (by simpa[a0H] using λe=>bL e);have AB5:=aj (AB4.abV (.slice (some ⟨gg,0,none⟩) (LB.length+1) FY));have QL5:=aj (ownsRow_setCell_below bF (a:=⟨w.heap.size+1,257,none⟩) (by show w.heap.size+1<wo.heap.size;omega) (.slice (some ⟨gg,0,none⟩) (LB.length+1) FY));have FR5:Z_ (aA [w.heap.size+1] wo (w4.setCell ⟨w.heap.size+1,257,none⟩ (.slice (some ⟨gg,0,none⟩) (LB.length+1) FY))):=aA.setCell (aA.grown ((FR1.o.alloc _).drew) aG (λk hk=>.inr (QL1.o.lt k hk).1)) (.inl (by simp)) _;clear F4 AB4 bF aG aX;go_wp2;go_roundg (gk-1)
     case measure=>omega
     case rel =>
      refine⟨j+1,_,by omega,by go_num,?_,AB5,FR5⟩;rw[MT.o];unfold QL;simpa using QL5.o
   have ou:j=St.length:=by have:=HLN.o;omega
   have Ym:((St.take j).map λu=>dY (dW (bn e) u))=St.map λu=>dY (dW (bn e) u):=by rw[ou,a2i]
   rw[Ym]at QL1 AB1;have Zk:wr.heap[w.heap.size]?=some (.cells Tryz.zeroCells157 157 (0,0)):=(FR1.o.block w.heap.size (by omega) (by simp)).trans wW;have fM:(Value.int .i64 F.length::(nv .u8 CL++[.slice aa (St.map λu=>dY (dW (bn e) u)).length ca,.slice an nx.length cn])).toArray.size=259:=by simp[nv,AB1.o.2]
   have amE:=aj AB1.o.1;have fJ:(Value.int .i64 F.length::(nv .u8 CL++[.slice aa (St.map λu=>dY (dW (bn e) u)).length ca,.slice an nx.length cn])).toArray.all (·.oneCell')=true:=by
    refine a2g.2 λv hv=>?_
    simp[nv]at hv;rcases hv with rfl|⟨a,_,rfl⟩|rfl|rfl<;>rfl
   have Ri:=aj fJ;have apm:=aj Zk;have Rj:=aj (tZ (cs:=(Value.int .i64 F.length::(nv .u8 CL++[.slice aa (St.map λu=>dY (dW (bn e) u)).length ca,.slice an nx.length cn])).toArray) Zk);have HSZ:=aj fM;have FW:Z_ (aA [] w wr):=(qy.o.above (F2.o.above (Q.o.aq.fr.above FR1.o (by simp)) (by simp)) (by intro x hx;simp at hx;omega));have NL1:Z_ (∀cs,IL w.heap.size (wr.setRow w.heap.size cs) (.slice an nx.length cn) nx):=λcs=>y5 (kW (kW Q.o.aq.nl FR1.o (λk hk=>by have:=(Q.o.aq.nl.lt k hk).1;simp;omega)) (aA.setRow _ _ cs) (λk hk=>by have:=(Q.o.aq.nl.lt k hk).1;simp;omega)) (by omega)
   have QLf:Z_ (∀cs,QL w.heap.size (wr.setRow w.heap.size cs) (.slice aa (St.map λu=>dY (dW (bn e) u)).length ca) (St.map λu=>dY (dW (bn e) u))):=λcs=>y5 (kW QL1.o (aA.setRow _ _ cs) (λk hk=>by have:=(QL1.o.lt k hk).1;simp;omega)) (by omega)
   generalize za:(Value.int .i64 F.length::(nv .u8 CL++[.slice aa (St.map λu=>dY (dW (bn e) u)).length ca,.slice an nx.length cn])).toArray=cs at amE Ri Rj HSZ;have Tj:=aj za;have apn:=aj (uf apm.o (by rw[HSZ.o,iC]) Ri);clear fJ Zk fM ou Ym za;go_wp2_with fail
   refine Dw (.tmp 6) rfl (w.heap.size+1) rfl cs (pU amE.o HSZ) ?_;have fM:=HSZ.o;have ajQ:=apn.o;go_wp2
   (try simp only[Exit.inBlock,Exit.then])
   refine bodyPost_ret (bH rfl _ _ w.heap.size _ rfl (pU Rj.o HSZ)) rfl ?_;refine⟨FW.o.above (aA.setRow _ _ _) (by simp),λh=>?_,λ_=>?_⟩
   ·rw[HAR.o]at h;simp at h
   refine⟨.slice aa (St.map λu=>dY (dW (bn e) u)).length ca,.slice an nx.length cn,congrArg (λz=>Ending.returned (.tuple #[.agg z,.bool true])) Tj.o.symm,?_,?_⟩
   ·rw[HAR.o];exact QLf.o _
   rw[HAR.o];exact NL1.o _
theorem amF:∀q:Addr,(Value.string { data:=#[] })≠.pointer (some q):=by simp
theorem amG:∀q:Addr,(Value.pointer none)≠.pointer (some q):=by simp
structure BQ(X:NF)(F:LN)(w wr:World)(v5 v7 v8:Value)(ps:LN)(St:List LN):Prop where
 o5:OV 3 w.heap.size wr v5 (nv .i64 F)
 o7:OZ 141 (.pointer none) w.heap.size wr v7 (ps.map aK)
 o8:OZ 9 (.string { data:=#[] }) w.heap.size wr v8 (sv (St.map λu=>name (dW X u)))
 tn:iQ wr ps (St.map (dW X))
 fr:aA [] w wr
 wb:WB St
theorem BQ.aB{wr:World}(h:BQ X F w wr v5 v7 v8 ps St)(f:aA [] wr w'):BQ X F w w' v5 v7 v8 ps St :=
 ⟨h.o5.aB f (by simp),h.o7.aB f (by simp),h.o8.aB f (by simp),h.tn.aB f,h.fr.trans f,h.wb⟩
theorem BQ.len{wr:World}(h:BQ X F w wr v5 v7 v8 ps St):ps.length=St.length:=by
 have:=h.tn.len;rw[a0B]at this;exact this
theorem YB(w:World)(p:Nat)(t:TR)(X:NF)(F:LN)(h:RN w p t)(hl:(jF t).length<=1000)(hg:GT t)(hX:dA t=X)(hF:lM (jF t) 256=F)
 (hr:∀(u:LN) (c:Nat),u.length<=39->WC (dW X u)/\vH c (dW X u)/\nl (left c (dW X u))<9223372036854775807) :
 Calls Tryz.prog 41 #[.pointer (some ⟨p,0,none⟩),.int .i64 40] w λe w'=>∃n:Nat,e=.returned (.int .i64 n)/\n<=41/\(40<n↔(qR X F).1=false)/\aA [] w w':=by
 have A0:=aa6 w p t h hl;rw[hF]at A0;have A:=aj A0;have B:Z_ (∀w1,aA [] w w1->Calls Tryz.prog 55 #[.pointer (some ⟨p,0,none⟩)] w1 (xI w1 X)):=λw1 hf=>by
  have:=oO t w1 p (RN.aW (eU.of hf) h) hg;rw[hX]at this;exact this
 have HR:=aj hr;have hFl:F.length<=256:=by have:=xN (jF t) 256;rw[hF]at this;exact this.1
 have HFb:Z_ (∀f∈F,f<256):=by have:=xN (jF t) 256;rw[hF]at this;exact this.2
 clear h hg hX hF hr A0 hl;go_enter Tryz.func41,Tryz.ntmps41
 go_wp2_with fail
 refine(A.o).mono ?_;rintro e w1 ⟨v5,rfl,sw,aZ⟩;have B1:=aj (B.o w1 aZ);have O1:=aj sw;have F1:=aj aZ;obtain⟨a5,n5,c5,rfl,VN⟩:=sw.open;have VO:Z_ (n5=F.length):=by show _=_;rw[VN];simp[nv]
 have aqP:n5<=256:=by have:=VO.o;omega
 clear sw aZ VN A B;go_wp2_with fail
 refine(B1.o).mono ?_;rintro e w2 ⟨q,rfl,ht,aS⟩;have aga:=ht.nm;have hq:=dL aga;have Q0:Z_ (BQ X F w ((w2.alloc (.cells #[aK q] 141)).alloc (.cells #[.string (bs (name X))] 9)) (.slice a5 n5 c5) (.slice (some ⟨w2.heap.size,0,none⟩) 1 1) (.slice (some ⟨w2.heap.size+1,0,none⟩) 1 1) [q] [[]]):=by
  have f2:=F1.o.trans aS;have z2:=f2.size;have fa:aA [] w2 ((w2.alloc (.cells #[aK q] 141)).alloc (.cells #[.string (bs (name X))] 9)):=((aA.refl [] _).alloc _).alloc _;refine⟨(O1.o.aB aS (by simp)).aB fa (by simp),(OZ.lit w2 (aK q) z2).aB ((aA.refl [] _).alloc _) (by simp),?_,?_,f2.trans fa,WB.one⟩
  ·have:=OZ.lit (e:=9) (z:=.string { data:=#[] }) (base:=w.heap.size) (w2.alloc (.cells #[aK q] 141)) (.string (bs (name X))) (by simp;omega)
   simpa[sv,dW] using this
  have:=ht.aB fa;simp only[a0A,a1T,iQ,dW];exact⟨this,trivial⟩
 clear ht aS B1 O1 F1;unfold aK at Q0 |-;go_wp2_with fail
 go_loopg [7,8,9] 41 (λk v7 v8 v9 wr=>∃(i:Nat) (ps:LN) (St:List LN) (nx:LN),i+k=41/\v9=.int .i64 i/\BQ X F w wr (.slice a5 n5 c5) v7 v8 ps St/\yu X F k i St nx=qR X F/\i<=St.length)
 case atStart=>exact⟨0,[q],[[]],[],by omega,rfl,Q0,rfl,by simp⟩
 case round =>
  clear Q0 aga hq;obtain⟨i,ps,St,nx,hik,rfl,hq,gP,jf⟩:=hrel;obtain⟨wo,Pn⟩:∃wo,wo=wr:=⟨_,rfl⟩;subst Pn;obtain⟨go,EE⟩:∃go,go=gk:=⟨_,rfl⟩;subst EE;obtain⟨a7,n7,c7,rfl,hn7⟩:=hq.o7.ov.open;obtain⟨a8,n8,c8,rfl,hn8⟩:=hq.o8.ov.open;have Lt:Z_ (n7=St.length):=by show _=_;rw[hn7,a0B,hq.len]
  have Gm:=hq.wb.1;have Q:=aj hq;have GO:=aj gP;have amH:n7<=40:=by have:=Lt.o;omega
  clear hq gP hn7 hn8
  by_cases aO:i<n7
  ·obtain⟨g1,Yz⟩:∃g1,go=g1+1:=⟨go-1,by omega⟩
   subst Yz;obtain⟨u,hu⟩:∃u,St[i]?=some u:=⟨St[i]'(by have:=Lt.o;omega),a0c (by have:=Lt.o;omega)⟩;have PI:=aj (Xb GO.o hu);have HU:=aj hu;obtain⟨RW,hRW⟩:∃RW,rQ X u F St nx=RW:=⟨_,rfl⟩;rw[hRW]at PI;have YA:=aj hRW;clear hu hRW GO jf;go_wp2_with fail
   go_loopg [7,8,10] n5 (λk v7 v8 v10 wr=>∃(j:Nat) (ps:LN) (St:List LN) (nx:LN),j+k=n5/\v10=.int .i64 j/\BQ X F w wr (.slice a5 n5 c5) v7 v8 ps St/\rQ X u (F.drop j) St nx=RW/\St[i]?=some u)
   case atStart=>exact⟨0,ps,St,nx,by omega,rfl,Q,YA,HU⟩
   case round =>
    clear Q HU YA amH Gm Lt aO;obtain⟨j,ps2,mK,yL,sI,rfl,nC,amI,af9⟩:=hrel;obtain⟨a7,n7,c7,rfl,hn7⟩:=nC.o7.ov.open;obtain⟨a8,n8,c8,rfl,hn8⟩:=nC.o8.ov.open;have Lt:Z_ (n7=mK.length):=by show _=_;rw[hn7,a0B,nC.len]
    have Hn8:Z_ (n8=mK.length):=by show _=_;rw[hn8];simp[sv]
    have HPL:=aj nC.len;have amB:=nC.wb.1;have af8:=(a0i.1 af9).1;have hi7:i<n7:=by have:=Lt.o;omega
    have amH:n7<=40:=by have:=Lt.o;omega
    have aqQ:n8<=40:=by have:=Hn8.o;omega
    have zr:=nC.fr.size;have Q2:=aj nC;have GO2:=aj amI;have HIL:=aj af9;clear nC amI af9 hn7 hn8 amB af8
    by_cases lL:j<n5
    ·obtain⟨c,hc⟩:∃c,F[j]?=some c:=⟨F[j]'(by have:=VO.o;omega),a0c (by have:=VO.o;omega)⟩
     have hc256:=HFb.o c (a0M hc);obtain⟨g5,rfl,_,hg5,hc5⟩:=Q2.o.o5.cell (j:=j) (u:=.int .i64 c) (by simp[nv,hc]);obtain⟨q,hq,DK⟩:=Q2.o.tn.get i (dW X u) (by rw[a1d,HIL.o];rfl);obtain⟨g7,rfl,_,hg7,hc7⟩:=Q2.o.o7.ov.cell (j:=i) (u:=aK q) (by rw[a1d,hq];rfl);unfold aK at hc7;have amJ:u.length<=39:=by have:=Q2.o.wb.2 i u HIL;omega
     obtain⟨r1,r2,r3⟩:=HR.o u c amJ;have NB0:∀W,aA [] wr W->Calls Tryz.prog 56 #[.pointer (some ⟨q,0,none⟩),.int .i64 c] W (xI W (left c (dW X u))):=λW hf=>aaV c hc256 _ W q (DK.aB hf) r1 r2 r3
     rw[<-su]at NB0;have NB:=aj NB0;have RD0:=ZS X u F j c mK yL hc;rw[GO2.o]at RD0;have RD:=aj RD0;have FN:Z_ (aA [] wr wr.drew):=(aA.refl [] wr).drew;have IDF:=aj (ajw X mK (u++[c]));clear NB0 RD0 r1 r2 r3 hq DK hc amJ;go_wp2_with fail
     go_region_with (go_at_call 56;refine(NB.o _ FN).mono ?_;rintro e w5 ⟨q5,rfl,ht5,wN⟩)
     all_goals
      have aga:=ht5.nm;have hq5:=dL aga;have T5:=aj ht5;have Q5:=aj (Q2.o.aB (FN.o.trans wN));have z5:=(FN.o.trans wN).size;clear ht5 wN hc7 hc5 hg7 hg5;unfold aK;have RSn:RS 0 w5 (.slice a8 n8 c8) (mK.map λu=>name (dW X u)):=(Q5.o.o8.ov.sl.rs (by rw[a0B];have:=Q5.o.wb.1;omega)).base (a1C _);have NF:=aj (ui (.slice a8 n8 c8) (mK.map λu=>name (dW X u)) (name (dW X (u++[c]))) w5 RSn);clear RSn;have hS2:mK.length<=40:=Q5.o.wb.1;go_wp2_with fail
      refine(NF.o).mono ?_;rintro e w5' ⟨rfl,rfl⟩;clear NF;rcases IDF.o with⟨zJ,hid⟩|⟨afS,hid⟩
      ·generalize ma (mK.map λu=>name (dW X u)) (name (dW X (u++[c])))=fi at zJ |-
       have Xc:=RD.o;rw[hid]at Xc;clear RD IDF
       by_cases Bg:n7=40
       ·have HAR:Z_ ((qR X F).1=false):=by
         show _=_;rw[a0j (by have:=Lt.o;omega)]at Xc;rw[PI.o,Xc]
        have dJ:40<n7+1:=by omega
        have Hh:=aj Bg;clear Xc Bg hid;go_wp2_with (first | (at_builtin;refine aa7 _ rfl _ _ 143 141 (.pointer none) 8 Au Tryz.underlying143 rfl (by decide) amG (by omega) rfl w.heap.size (.slice (some ⟨g7,0,none⟩) n7 c7) (ps2.map aK) (n7+1) w5.heap.size (aK q5) (by rw[a0B,HPL.o,Lt.o]) rfl (Q5.o.o7.aB (S:=[]) ((aA.refl [] _).alloc _) (by simp)) rfl (kK _ _ _ _ rfl) rfl (by rw[a0B,HPL.o];omega) (by simp;omega) ?_;intro g8 c8' w7 aQ aG Lu;have O7:=aj aQ;have P5:=aj (OV.other (Q5.o.o7.ov.aB (S:=[]) ((aA.refl [] _).alloc _) (by simp)) (Q5.o.o5.aB (S:=[]) ((aA.refl [] _).alloc _) (by simp)) (by decide) aG);have P8:=aj (OZ.other (Q5.o.o8.aB (S:=[]) ((aA.refl [] _).alloc _) (by simp)) (Q5.o.o7.ov.aB (S:=[]) ((aA.refl [] _).alloc _) (by simp)) (by decide) aG);have T7:=aj ((Q5.o.tn.aB ((aA.refl [] _).alloc _)).kt Lu);have Y7:=aj ((T5.o.aB ((aA.refl [] _).alloc _)).kt Lu);have ajU:=Y7.o.nm;have hq7:=dL ajU;have F7:=aj ((Q5.o.fr.alloc _).grown aG (λk hk=>.inr (Q5.o.o7.ov.base k hk)));have z7:=F7.o.size;clear aQ aG Lu)|(at_builtin;refine aa7 _ rfl _ _ 35 9 (.string { data:=#[] }) 16 uS Tryz.underlying35 rfl (by decide) amF (by omega) rfl w.heap.size (.slice a8 n8 c8) (sv (mK.map λu=>name (dW X u))) (n8+1) w7.heap.size (.string (bs (name (dW X (u++[c]))))) (by rw[Hn8.o];simp[sv]) rfl (P8.o.aB (S:=[]) ((aA.refl [] _).alloc _) (by simp)) rfl (kK _ _ _ _ rfl) rfl (by simp[sv];omega) (by simp;omega) ?_;intro g9 c9 w8 aQ aG Lu;have O8:=aj aQ;have R5:=aj (OV.other (P8.o.ov.aB (S:=[]) ((aA.refl [] _).alloc _) (by simp)) (P5.o.aB (S:=[]) ((aA.refl [] _).alloc _) (by simp)) (by decide) aG);have R7:=aj (OZ.other (O7.o.aB (S:=[]) ((aA.refl [] _).alloc _) (by simp)) (P8.o.ov.aB (S:=[]) ((aA.refl [] _).alloc _) (by simp)) (by decide) aG);have T8:=aj ((T7.o.aB ((aA.refl [] _).alloc _)).kt Lu);have Y8:=aj ((Y7.o.aB ((aA.refl [] _).alloc _)).kt Lu);have F8:=aj ((F7.o.alloc _).grown aG (λk hk=>.inr (P8.o.ov.base k hk)));clear aQ aG Lu))
        go_ret;exact⟨n7+1,by go_num,by omega,⟨λ_=>HAR,λ_=>dJ⟩,F8⟩
       have HRD:Z_ (rQ X u (F.drop (j+1)) (mK++[u++[c]]) (yL++[mK.length])=RW):=by
        show _=_;rw[a0g (by have:=Lt.o;omega),a0j rfl]at Xc;exact Xc.symm
       have WB3:=aj (Q5.o.wb.add (c:=c) HIL.o (by have:=Lt.o;omega));have hle:n7+1<=40:=by omega
       clear Xc Bg hid;go_wp2_with (first | (at_builtin;refine aa7 _ rfl _ _ 143 141 (.pointer none) 8 Au Tryz.underlying143 rfl (by decide) amG (by omega) rfl w.heap.size (.slice (some ⟨g7,0,none⟩) n7 c7) (ps2.map aK) (n7+1) w5.heap.size (aK q5) (by rw[a0B,HPL.o,Lt.o]) rfl (Q5.o.o7.aB (S:=[]) ((aA.refl [] _).alloc _) (by simp)) rfl (kK _ _ _ _ rfl) rfl (by rw[a0B,HPL.o];omega) (by simp;omega) ?_;intro g8 c8' w7 aQ aG Lu;have O7:=aj aQ;have P5:=aj (OV.other (Q5.o.o7.ov.aB (S:=[]) ((aA.refl [] _).alloc _) (by simp)) (Q5.o.o5.aB (S:=[]) ((aA.refl [] _).alloc _) (by simp)) (by decide) aG);have P8:=aj (OZ.other (Q5.o.o8.aB (S:=[]) ((aA.refl [] _).alloc _) (by simp)) (Q5.o.o7.ov.aB (S:=[]) ((aA.refl [] _).alloc _) (by simp)) (by decide) aG);have T7:=aj ((Q5.o.tn.aB ((aA.refl [] _).alloc _)).kt Lu);have Y7:=aj ((T5.o.aB ((aA.refl [] _).alloc _)).kt Lu);have ajU:=Y7.o.nm;have hq7:=dL ajU;have F7:=aj ((Q5.o.fr.alloc _).grown aG (λk hk=>.inr (Q5.o.o7.ov.base k hk)));have z7:=F7.o.size;clear aQ aG Lu)|(at_builtin;refine aa7 _ rfl _ _ 35 9 (.string { data:=#[] }) 16 uS Tryz.underlying35 rfl (by decide) amF (by omega) rfl w.heap.size (.slice a8 n8 c8) (sv (mK.map λu=>name (dW X u))) (n8+1) w7.heap.size (.string (bs (name (dW X (u++[c]))))) (by rw[Hn8.o];simp[sv]) rfl (P8.o.aB (S:=[]) ((aA.refl [] _).alloc _) (by simp)) rfl (kK _ _ _ _ rfl) rfl (by simp[sv];omega) (by simp;omega) ?_;intro g9 c9 w8 aQ aG Lu;have O8:=aj aQ;have R5:=aj (OV.other (P8.o.ov.aB (S:=[]) ((aA.refl [] _).alloc _) (by simp)) (P5.o.aB (S:=[]) ((aA.refl [] _).alloc _) (by simp)) (by decide) aG);have R7:=aj (OZ.other (O7.o.aB (S:=[]) ((aA.refl [] _).alloc _) (by simp)) (P8.o.ov.aB (S:=[]) ((aA.refl [] _).alloc _) (by simp)) (by decide) aG);have T8:=aj ((T7.o.aB ((aA.refl [] _).alloc _)).kt Lu);have Y8:=aj ((Y7.o.aB ((aA.refl [] _).alloc _)).kt Lu);have F8:=aj ((F7.o.alloc _).grown aG (λk hk=>.inr (P8.o.ov.base k hk)));clear aQ aG Lu))
       go_roundg (gk-1)
       case measure=>omega
       case rel =>
        refine⟨j+1,ps2++[q5],mK++[u++[c]],yL++[mK.length],by omega,by go_num,⟨R5,?_,?_,?_,F8,WB3⟩,HRD,Gl (a2U _ _) HIL⟩
        ·have:=R7.o
         simpa using this
        ·have:=O8.o
         simpa[sv] using this
        rw[a0T];refine T8.o.app ?_;simp only[a0A,a1T,iQ];exact⟨Y8,trivial⟩
      generalize ma (mK.map λu=>name (dW X u)) (name (dW X (u++[c])))=fi at afS |-;have HRD:Z_ (rQ X u (F.drop (j+1)) mK (yL++[Gj X mK (u++[c])])=RW):=by
       show _=_;have:=RD.o;rw[a0g (by have:=Lt.o;omega),a0g (by omega)]at this;exact this.symm
      clear RD IDF hid;go_wp2;go_roundg (gk-1)
      case measure=>omega
      case rel=>exact⟨j+1,ps2,mK,_,by omega,by go_num,Q5,HRD,HIL⟩
    have ou:j=n5:=by omega
    have amK:RW=(true,mK,yL):=by rw[<-GO2.o,ou,VO.o,a3i];rfl
    have HGO:Z_ (yu X F g1 (i+1) mK yL=qR X F):=by
     show _=_;have:=PI.o;rw[amK]at this;exact this.symm
    have ZT:i+1<=mK.length:=by have:=Lt.o;omega
    clear amK ou;go_wp2;go_roundg g1
    case measure=>omega
    case rel=>exact⟨i+1,ps2,mK,yL,by omega,by go_num,Q2,HGO,ZT⟩
  have HAR:Z_ (qR X F=(true,St,nx)):=adm GO.o (by have:=Lt.o;omega);go_wp2;go_ret;refine⟨n7,rfl,by omega,⟨λh=>by omega,λh=>?_⟩,Q.o.fr⟩;rw[HAR.o]at h;simp at h
def CJ(e:RX):LN:=lM (fu e) 256
def JU(e:RX):LN:=WI (fu e) 256
def kX(e:RX):Bool × List LN × LN:=qR (bn e) (CJ e)
def jC(t:LB):Nat :=
 match fD t with
 | none=>5
 | some e=>if 40<dx e then 6 else if (kX e).1 then 0 else 7
def ae7(w:World)(t:LB)(en:Ending)(w':World):Prop :=
 aA [] w w'/\∃cs:Array Value,cs.size=259/\cs.all (·.oneCell')=true/\en=.returned (.tuple #[.agg cs,.int .i64 (jC t)])/\(jC t≠0->cs=Tryz.zeroCells157) /\
  (∀e,fD t=some e->jC t=0->∃va vn,cs=(Value.int .i64 (CJ e).length::(nv .u8 (JU e)++[va,vn])).toArray/\QL w.heap.size w' va ((kX e).2.1.map λu=>dY (dW (bn e) u))/\IL w.heap.size w' vn (kX e).2.2)
theorem Xe {b:Nat}(h:FP w.heap.size b w w'):aA [b] w w':=⟨h.os,h.tape,h.output,h.size,λk hk hS=>h.block k hk (by simpa using hS) (.inl hk)⟩
theorem ahA(S:LN)(n:Nat):(WI S n).length=n:=by simp[WI]
theorem NC {t:LB} {x:RX}(h:fD t=some x):(fu x).length<=t.length:=by
 unfold fD at h
 split at h
 ·rename_i y hy
  simp at h;subst h;have:=(Kq hy).1;simp[fP]at this;exact this
 simp at h
theorem adn.ok {e:RX}(h:adn w e (CJ e) (JU e) en w')(hk:(kX e).1=true):aA [] w w'/\∃va vn,en=.returned (.tuple #[.agg (.int .i64 (CJ e).length::(nv .u8 (JU e)++[va,vn])).toArray,.bool true])/\QL w.heap.size w' va ((kX e).2.1.map λu=>dY (dW (bn e) u))/\IL w.heap.size w' vn (kX e).2.2:=by
 unfold kX at hk |-;exact⟨h.1,h.2.2 hk⟩
theorem adn.no {e:RX}(h:adn w e (CJ e) (JU e) en w')(hk:(kX e).1=false):aA [] w w'/\en=.returned (.tuple #[.agg Tryz.zeroCells157,.bool false]):=by
 unfold kX at hk;exact⟨h.1,h.2.1 hk⟩
theorem YC(t:LB)(w:World)(ht:t.length<=40):Calls Tryz.prog 64 #[.string (bs t)] w (ae7 w t):=by
 go_enter Tryz.func64,Tryz.ntmps64
 go_wp2_with fail
 have F1:aA [] w ((w.alloc (Obj.cells Tryz.zeroCells157 157)).alloc (Obj.cells #[.string (bs t),.int .i64 0,.slice none 0 0] 177)):=((aA.refl _ _).alloc _).alloc _;have fT:((w.alloc (Obj.cells Tryz.zeroCells157 157)).alloc (Obj.cells #[.string (bs t),.int .i64 0,.slice none 0 0] 177)).heap.size=w.heap.size+2:=by simp
 have hR1:((w.alloc (Obj.cells Tryz.zeroCells157 157)).alloc (Obj.cells #[.string (bs t),.int .i64 0,.slice none 0 0] 177)).heap[w.heap.size]?=some (.cells Tryz.zeroCells157 157 (0,0)):=by
  rw[((aA.refl [] _).alloc _).block w.heap.size (by simp) (by simp)];exact bK _ _
 have hP1:PA ((w.alloc (Obj.cells Tryz.zeroCells157 157)).alloc (Obj.cells #[.string (bs t),.int .i64 0,.slice none 0 0] 177)) (w.heap.size+1) t t (.slice none 0 0):=by
  refine⟨0,⟨?_,by omega,by omega⟩,rfl⟩;have:=bK (w.alloc (Obj.cells Tryz.zeroCells157 157)) (Obj.cells #[.string (bs t),.int .i64 0,.slice none 0 0] 177);have hw1:(w.alloc (Obj.cells Tryz.zeroCells157 157)).heap.size=w.heap.size+1:=by simp
  rw[hw1]at this;exact this
 generalize (w.alloc (Obj.cells Tryz.zeroCells157 157)).alloc (Obj.cells #[.string (bs t),.int .i64 0,.slice none 0 0] 177)=w1 at F1 fT hR1 hP1 |-;have qy:=aj F1;have Jp:=aj hR1;have PR:=aj (aeY w1.heap.size (w.heap.size+1) t w1 hP1 (by omega) (a0a _) (by omega));clear F1 hR1 hP1;refine(PR.o).mono ?_;intro en w2 hwp;cases zK:fD t with
 | none =>
   rw[zK]at hwp;obtain⟨rfl,hfp⟩:=hwp;have qQ:Z_ (jC t=5):=by show _=_;simp[jC,zK]
   have F2:=Xe hfp;have ko:w2.heap[w.heap.size]?=some (.cells Tryz.zeroCells157 157 (0,0)):=(F2.block w.heap.size (by omega) (by simp)).trans Jp;have dM:=uf ko rfl vC;have wW:=aj (tZ (cs:=Tryz.zeroCells157) ko);have FF:Z_ (aA [] w (w2.setRow w.heap.size Tryz.zeroCells157)):=(qy.o.above F2 (by intro x hx;simp at hx;omega)).above (aA.setRow _ _ _) (by simp);have YD:=aj zK;obtain⟨qp,hqp⟩:∃q:Option Addr,q=none:=⟨_,rfl⟩;clear ko hfp F2 zK PR;go_wp2
   (try simp only[Exit.inBlock,Exit.then])
   refine bodyPost_ret (bH rfl _ _ w.heap.size _ rfl (pU wW.o iC)) rfl ?_;rw[show ae7 w t=ae7 w t from rfl];refine⟨FF,_,iC,vC,by rw[qQ.o];rfl,λ_=>rfl,λe he=>?_⟩;rw[YD.o]at he;simp at he
 | some e =>
   rw[zK]at hwp;obtain⟨eb,gT,rfl,hx,mJ,jO,hfp⟩:=hwp;obtain⟨jT,EM⟩:=yz zK;have hdg:=Fy zK;have oo:=acV zK;have O0:=NC zK;have F2:=Xe hfp;have ko:w2.heap[w.heap.size]?=some (.cells Tryz.zeroCells157 157 (0,0)):=(F2.block w.heap.size (by omega) (by simp)).trans Jp;have FF2:Z_ (aA [] w w2):=qy.o.above F2 (by intro x hx;simp at hx;omega);have PL:=aj (Gq e _ w2 eb hx hdg (by omega));have HX:=aj hx;have HBL:=aj jO;obtain⟨ip,rW,_⟩:=mJ;have uM:=rW.c2;have wW:=aj ko;have YD:=aj zK;have z2:=F2.size;obtain⟨avs,cvs,rfl⟩:=aT jO;clear hx jO rW hfp F2 zK PR ko;go_wp2_with fail
   refine(PL.o).mono ?_;rintro en w2' ⟨rfl,rfl⟩
   by_cases pY:40<dx e
   ·have qQ:Z_ (jC t=6):=by show _=_;simp[jC,YD.o,pY]
    have dM:=uf wW.o rfl vC;have Rj:=aj (tZ (cs:=Tryz.zeroCells157) wW);have FF:Z_ (aA [] w (w2.setRow w.heap.size Tryz.zeroCells157)):=FF2.o.above (aA.setRow _ _ _) (by simp);clear PL;generalize dx e=pn at *;go_wp2
    (try simp only[Exit.inBlock,Exit.then])
    refine bodyPost_ret (bH rfl _ _ w.heap.size _ rfl (pU Rj.o iC)) rfl ?_;refine⟨FF,_,iC,vC,by rw[qQ.o];rfl,λ_=>rfl,λe he h0=>?_⟩;rw[qQ.o]at h0;simp at h0
   have AU:=aj (PN _ w1.heap.size w2 eb e (.slice avs (fu e).length cvs) (fu e) (CJ e) (JU e) HX.o HBL.o (by omega) rfl rfl jT hdg (by omega) (by omega) (by omega));have agb:dx e<=40:=by omega
   clear PL;have HRC:Z_ (jC t=if (kX e).1 then 0 else 7):=by show _=_;simp[jC,YD.o,pY]
   generalize dx e=pn at *;go_wp2_with fail
   refine(AU.o).mono ?_;intro en w3 hau;cases hk:(kX e).1 with
   | false =>
     obtain⟨bZ,rfl⟩:=hau.no hk;have qQ:Z_ (jC t=7):=by show _=_;rw[HRC.o,hk];rfl
     have z3:=bZ.size;have hsn:=run_storeCells_new (P:=Tryz.prog) w3 157 Tryz.zeroCells157 Tryz.zeroCells157 (by rw[iC];exact Dv) rfl vC;have ajV:(w3.alloc (Obj.cells Tryz.zeroCells157 157)).heap[w.heap.size]?=some (.cells Tryz.zeroCells157 157 (0,0)):=by
      rw[((aA.refl [] w3).alloc _).block w.heap.size (by omega) (by simp),bZ.block w.heap.size (by omega) (by simp)];exact wW
     have dM:=uf ajV rfl vC;have Rj:=aj (tZ (cs:=Tryz.zeroCells157) ajV);have FF:Z_ (aA [] w ((w3.alloc (Obj.cells Tryz.zeroCells157 157)).setRow w.heap.size Tryz.zeroCells157)):=((FF2.o.above bZ (by simp)).alloc _).above (aA.setRow _ _ _) (by simp);clear AU hau hk ajV uM;go_wp2
     (try simp only[Exit.inBlock,Exit.then])
     refine bodyPost_ret (bH rfl _ _ w.heap.size _ rfl (pU Rj.o iC)) rfl ?_;refine⟨FF,_,iC,vC,by rw[qQ.o];rfl,λ_=>rfl,λe he h0=>?_⟩;rw[qQ.o]at h0;simp at h0
   | true =>
     obtain⟨bZ,va,vn,rfl,Gb,rU⟩:=hau.ok hk;obtain⟨aa,ca,rfl⟩:=aT Gb;obtain⟨an,cn,rfl⟩:=aT rU;have qQ:Z_ (jC t=0):=by show _=_;rw[HRC.o,hk];rfl
     have z3:=bZ.size;have fM:(Value.int .i64 (CJ e).length::(nv .u8 (JU e)++[.slice aa ((kX e).2.1.map λu=>dY (dW (bn e) u)).length ca,.slice an (kX e).2.2.length cn])).toArray.size=259:=by
      have:(JU e).length=256:=ahA _ _;simp[nv,this]
     have fJ:(Value.int .i64 (CJ e).length::(nv .u8 (JU e)++[.slice aa ((kX e).2.1.map λu=>dY (dW (bn e) u)).length ca,.slice an (kX e).2.2.length cn])).toArray.all (·.oneCell')=true:=by
      refine a2g.2 λv hv=>?_
      simp only[List.mem_toArray,a0l,a0b,nv,a0s,a1Y,or_false]at hv;rcases hv with rfl|⟨a,_,rfl⟩|rfl|rfl<;>rfl
     have QLf:Z_ (∀o cs,QL w.heap.size ((w3.alloc o).setRow w.heap.size cs) (.slice aa ((kX e).2.1.map λu=>dY (dW (bn e) u)).length ca) ((kX e).2.1.map λu=>dY (dW (bn e) u))):=λo cs=>y5 (kW (ek Gb ((aA.refl [] w3).alloc o) (by simp)) (aA.setRow _ _ cs) (λk hk=>by have:=(Gb.lt k hk).1;simp;omega)) (by omega)
     have NLf:Z_ (∀o cs,IL w.heap.size ((w3.alloc o).setRow w.heap.size cs) (.slice an (kX e).2.2.length cn) (kX e).2.2):=λo cs=>y5 (kW (ek rU ((aA.refl [] w3).alloc o) (by simp)) (aA.setRow _ _ cs) (λk hk=>by have:=(rU.lt k hk).1;simp;omega)) (by omega)
     have FF:Z_ (∀o cs,aA [] w ((w3.alloc o).setRow w.heap.size cs)):=λo cs=>((FF2.o.above bZ (by simp)).alloc _).above (aA.setRow _ _ _) (by simp)
     have Su:Z_ (∀o,(w3.alloc o).heap[w.heap.size]?=some (.cells Tryz.zeroCells157 157 (0,0))):=λo=>by
      rw[((aA.refl [] w3).alloc _).block w.heap.size (by omega) (by simp),bZ.block w.heap.size (by omega) (by simp)];exact wW
     generalize za:(Value.int .i64 (CJ e).length::(nv .u8 (JU e)++[.slice aa ((kX e).2.1.map λu=>dY (dW (bn e) u)).length ca,.slice an (kX e).2.2.length cn])).toArray=cs at fM fJ |-;have Tj:=aj za;have HSZ:=aj fM;have Ri:=aj fJ;have hsn:=run_storeCells_new (P:=Tryz.prog) w3 157 Tryz.zeroCells157 cs (by rw[fM];exact Dv) (by rw[fM,iC]) fJ;have Rj:=aj (tZ (cs:=cs) (Su.o (Obj.cells cs 157)));have Po:=aj (uf (cs:=cs) (Su.o (Obj.cells cs 157)) (by rw[fM,iC]) fJ);clear AU hau hk uM za fJ Gb rU;go_wp2_with fail
     refine Dw (.tmp 6) rfl w3.heap.size rfl cs (pU (bK w3 (Obj.cells cs 157)) HSZ) ?_;have dM:=Po.o;go_wp2
     (try simp only[Exit.inBlock,Exit.then])
     refine bodyPost_ret (bH rfl _ _ w.heap.size _ rfl (pU Rj.o HSZ)) rfl ?_;refine⟨FF.o _ _,cs,HSZ,Ri,by rw[qQ.o];rfl,λh=>absurd qQ.o h,λe2 he h0=>?_⟩;have:e2=e:=by rw[YD.o]at he;simpa using he.symm
     subst this;exact⟨_,_,Tj.o.symm,QLf.o _ _,NLf.o _ _⟩
end Go.Proofs.YtgbdcmpmmkfbhaaGreat
