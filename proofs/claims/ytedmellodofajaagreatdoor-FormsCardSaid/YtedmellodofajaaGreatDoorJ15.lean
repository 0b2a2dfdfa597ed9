import Derived.Test.YtedmellodofajaaGreatDoorJ14
import Derived.Test.YtedmellodofajaaGreatDoorJ8
import Derived.Test.YtedmellodofajaaGreatDoorJ10
import Derived.Test.YtedmellodofajaaGreatDoorJ12
import Derived.Test.YtedmellodofajaaGreatDoorJ4
import Derived.Laws.CopyOwn
import Derived.Laws.MakeOwn
import Derived.Deep.DeepCutAuto
import Derived.Deep.CutBlock
import Derived.Test.YtedmellodofajaaGreatDoorJ7
import Derived.Test.YtedmellodofajaaGreatDoorJ6
import Derived.Lib.ItoaNum
import Derived.Test.YtedmellodofajaaGreatDoorJ1
import Derived.Shelf.Strconv.Itoa0
import Derived.Shelf.Strconv.Itoa1
import Derived.Shelf.LaysM
import Derived.Shelf.Strconv.Itoa2
import Derived.Shelf.Strconv.Itoa3
import Derived.Test.YtedmellodofajaaGreatDoorProg
import Derived.Test.YtedmellodofajaaGreatDoorCards
import Derived.Test.YtedmellodofajaaGreatDoorTie
import Derived.ProofKit
import Derived.OpenShut
import Derived.Deep.DeepHandedRow
import Derived.Lib.LaidTab
import Derived.Stop.LaidErr
set_option linter.unusedVariables false
set_option linter.unusedSimpArgs false
set_option linter.unnecessarySimpa false
set_option linter.defProp false
set_option maxRecDepth 100000
set_option maxHeartbeats 8000000
namespace Go.Proofs.YtedmellodofajaaGreatDoor
open Go.RowKit
section
variable {w w':World} {L:List LB} {x:UInt8} {v vb:Value} {A S:LN} {b g k pb:Nat} {l n r t:LB} {α β:Type} {m:mP} {s s1:CS} {C:List CR} {V:V6}
def AD.new {base:Nat} {a:Nat} {L x:LB}(h:AD base w a L x w')(o:Obj):AD base w a L x (w'.alloc o):=by obtain⟨v,b,d,c⟩:=h;refine⟨v,⟨(((aB.refl [] w').alloc o).block a b.lt (by simp)).trans b.1,b.2.1,b.2.2.alloc _⟩,d.trans (KPs.Tk ((aB.refl [a] w').alloc _)),c.aC zG (by simp)⟩
def OW.str {base:Nat} {L:LB}(h:OW 5 1 base w v (yc L))(c:0<L.length):(convert 91 9 v).run Tryz.prog w=.ok (zT L) w:=by have a:=h.1;rw[Lg,abB]at a;obtain⟨g,cap,rfl,_,_⟩:=a.form c;refine run_convert_bytes_back (P:=Tryz.prog) w 91 9 5 (zA g) cap L Tryz.underlying91 Tryz.underlying5 Tryz.underlying9 ?_;intro j b;exact World.ownsRow.cells a (g:=g) rfl j _ (by simp[tT,b])
theorem RW.at {vs:List (List Value)}(h:RW A k w v vs):∃a cap,v=.slice a vs.length cap/\∀(j:Nat) (b:j<vs.length),∃g off,a=some (zB g off)/\g<w.heap.size/\∀c x,vs[j][c]?=some x->zC w g (off+j*k+c) x:=by obtain⟨a,cap,e,_,i⟩:=h;refine⟨a,cap,e,λj b=>?_⟩;obtain⟨g,off,l,_,f,d⟩:=i j b;exact⟨g,off,l,f,d⟩
def ah5(A:LN)(pb:Nat)(V:V6)(m:mP)(w:World)(hc:∀j (hj:j<6),zC w pb j (V.cells[j]'(by simp[V6.cells];exact hj)))(hG:PG A w V m)(hM:MOK m)(hL:(eM m).length<=300000000) :
 zF 16 #[zP pb] w λe w'=>e=zR (zT (eM m))/\aB [] w w':=by
 obtain⟨Y,R,d,l,f,q⟩:=m;obtain⟨v1,v2,v3,v4,v5,v6⟩:=V;have Ev:pb<w.heap.size:=World.block_lt_of_cell? w _ (hc 0 (by omega));have k0:zC w pb 0 v1:=hc 0 (by omega);have k1:zC w pb 1 v2:=hc 1 (by omega);have k2:zC w pb 2 v3:=hc 2 (by omega);have k3:zC w pb 3 v4:=hc 3 (by omega);have k4:zC w pb 4 v5:=hc 4 (by omega);have k5:zC w pb 5 v6:=hc 5 (by omega);have Q1:=hG.n;have Q2:=hG.c;obtain⟨bB,hq3,IA⟩:=hG.a;obtain⟨a3,c3,e3,RA⟩:=hq3.at;obtain⟨a4,c4,e4,RT4⟩:=hG.t.at;obtain⟨dss,hq5,IH⟩:=hG.r;obtain⟨a5,c5,e5,RH⟩:=hq5.at;obtain⟨a6,c6,e6,RI6⟩:=hG.i.at;obtain⟨a1,c1,U,_⟩:=hG.n.at;obtain⟨a2,c2,e2,_⟩:=hG.c.at;simp only at U e2 e3 e4 e5 e6;have HL3:(fZ bB).length=d.length:=by rw[jA];exact IA.1
 have HL5:(fZ dss).length=f.length:=by rw[jA];exact IH.1
 rw[iC]at U e2;rw[HL3]at e3;rw[HL5]at e5;rw[YX]at e4;rw[CZ]at e6;have zX:=hM.names.1;have Ze:=hM.consts.1;have hn3:=hM.uM.1;have hn4:=hM.tests.1;have NV:=hM.lF.1;have hn6:=hM.code.2.1;simp only at zX Ze hn3 hn4 NV hn6;simp only[eM,a0p,cz]at hL;subst U e2 e3 e4 e5 e6;clear hG hq3 hq5 hc;obtain⟨W,QK⟩:∃W,W=(w.alloc (Obj.cells #[.int .u8 79,.int .u8 66,.int .u8 49] 5 (3,4))).alloc (Obj.cells #[zS w.heap.size 3 3] 93):=⟨_,rfl⟩;have F0:Z_ (aB [] w W):=by rw[QK];exact((aB.refl [] w).alloc _).alloc _
 have S0:Z_ (I6 w.heap.size W (w.heap.size+1) (zS w.heap.size 3 3) qO):=by
  rw[QK];refine⟨?_,by omega,.inr ⟨w.heap.size,rfl,a0b _,rfl,?_⟩⟩
  .have:=bD (w.alloc (Obj.cells #[.int .u8 79,.int .u8 66,.int .u8 49] 5 (3,4))) (Obj.cells #[zS w.heap.size 3 3] 93)
   rw[show(w.alloc (Obj.cells #[.int .u8 79,.int .u8 66,.int .u8 49] 5 (3,4))).heap.size=w.heap.size+1 by simp]at this;exact this
  exact(((aB.refl [] (w.alloc (Obj.cells #[.int .u8 79,.int .u8 66,.int .u8 49] 5 (3,4)))).alloc _).block w.heap.size (by simp) (by simp)).trans (bD _ _)
 have u:w.heap.size<=w.heap.size+1:=by omega
 have hNM:∀y∈Y,y.length<=1048576:=λy hy=>by have:=(hM.names.2 y hy).1;omega
 have hCN:∀y∈R,y.length<=1048576:=λy hy=>by have:=hM.consts.2 y hy;omega
 have N1:=(CK w A (w.heap.size+1) _ _ qO Y W S0.o F0.o Q1 hNM (by omega) (by simp[qO];omega));have N2:Z_ (∀wr v L,I6 w.heap.size wr (w.heap.size+1) v L->aB [] w wr->L.length+(sQ R).length<=700000000->zF 31 #[zP (w.heap.size+1),.slice a2 R.length c2] wr λe w'=>e=zQ #[]/\AD w.heap.size wr (w.heap.size+1) L (sQ R) w'):=λwr v L h1 h2 h3=>CK w A (w.heap.size+1) v _ L R wr h1 h2 Q2 hCN (by omega) h3
 have kc:=λ(w:World) (C:Array Value) (n c:Nat)=>Lib.run_convert_bytes_const (P:=Tryz.prog) w 91 5 C n c Tryz.underlying91 Tryz.underlying5
 clear hNM hCN Q1 Q2;delta zF;go_in
 have N1':=N1;rw[QK]at N1';have y0:zC W pb 0 (.slice a1 Y.length c1):=(F0.o.cell (p:=(zA pb)) Ev (by simp)).trans k0;go_wp2_with fail
 refine N1'.mono ?_;clear N1' N1 y0 kc;rintro e w3 ⟨rfl,I8⟩;have A3:Z_ (AD w.heap.size W (w.heap.size+1) qO (sQ Y) w3):=by rw[QK];exact I8
 clear I8;obtain⟨u3,Mr⟩:=A3.o.Di;have FW3:=(A3.o.kp).aC F0.o u;have HZ:∀x:LB,(qO++x).length=3+x.length:=λx=>by simp[qO];omega
 have N3:=(N2.o w3 u3 _ Mr FW3 (by rw[HZ];omega));have y1:zC w3 pb 1 (.slice a2 R.length c2):=(FW3.cell (p:=(zB pb 1)) Ev (by simp)).trans k1;clear Mr N2;go_wp2_with fail
 refine N3.mono ?_;rintro e w4 ⟨rfl,hA4⟩;have A4:=A3.o.add (λ_ _=>hA4);clear hA4 A3 N3 y1 FW3;obtain⟨u4,hS4⟩:=A4.Di;have FW4:=(A4.kp).aC F0.o u;have N5:=(bz 1 w.heap.size (w.heap.size+1) u4 _ d.length 1 w4 (by omega) (by omega) rfl hS4 (by rw[HZ];simp only[a0p,cz];omega) FW4.size (by omega));have y5:zC w4 pb 2 (.slice a3 d.length c3):=(FW4.cell (p:=(zB pb 2)) Ev (by simp)).trans k2;clear hS4;go_wp2_with fail
 refine N5.mono ?_;rintro e w5 ⟨rfl,hA5⟩;have A5:=A4.add (λ_ _=>hA5);clear hA5 A4 N5 y5 FW4;have FW5:=(A5.kp).aC F0.o u;have y5:zC w5 pb 2 (.slice a3 d.length c3):=(FW5.cell (p:=(zB pb 2)) Ev (by simp)).trans k2;have HX5:Z_ (∀j,((d.take j).flatMap eA).length<=(d.flatMap eA).length):=λj=>by
  have U:(d.flatMap eA).length=((d.take j).flatMap eA).length+((d.drop j).flatMap eA).length:=by rw[<-a0p,<-List.flatMap_append,a1C]
  omega
 go_wp2_with fail
 go_loopg [35] d.length (λk v35 wr=>∃j:Nat,j+k=d.length/\v35=zI j/\AD w.heap.size W (w.heap.size+1) qO (sQ Y++sQ R++nb 1 d.length++(d.take j).flatMap eA) wr)
 exact⟨0,by omega,rfl,by simpa using A5⟩
 case round =>
 clear A5 FW5 y5;obtain⟨j,lU,rfl,A6⟩:=hrel;have FW6:=(A6.kp).aC F0.o u;have y6:zC wr pb 2 (.slice a3 d.length c3):=(FW6.cell (p:=(zB pb 2)) Ev (by simp)).trans k2
 by_cases I:j<d.length
 .have gJ:decide ((j:Int)<(d.length:Int))=true:=a0g (by omega)
  obtain⟨g,off,U,hg,S⟩:=RA j (by rw[HL3];exact I);have uA:j<bB.length:=by have:=HL3;rw[jA]at this;omega
  obtain⟨va,vn,Yf,ra,rn⟩:=IA.2 j bB[j] d[j] (by simp[uA]) (by simp[I]);have z:=hM.uM.2 d[j] (a0u I);have hU:AUm w g (off+j*259) d[j] va vn:=by
   have hh:∀c x,(Lv d[j] va vn).toList[c]?=some x->zC w g (off+j*259+c) x:=by intro c x hx;refine S c x ?_;simp only[fZ,List.getElem_map];rw[Yf];exact hx
   have hlc:d[j].cl.length=256:=z.cl;refine⟨hg,hh 0 _ (by simp[Lv]),λc hc=>?_,hh 257 _ ?_,hh 258 _ ?_⟩
   .have:=hh (1+c) (.int .u8 (d[j].cl.getD c 0:Nat)) (by
     have hl:c<d[j].cl.length:=by omega
     simp only[Lv];rw[a2w,a1m,a0s (by simp[nv];exact hl)];simp[nv,hl,List.getD])
    rwa [<-a2M]at this
   .simp only[Lv]
    rw[a1m,a0K (by simp[nv,hlc])];simp[nv,hlc]
   simp only[Lv];rw[a1m,a0K (by simp[nv,hlc])];simp[nv,hlc]
  have HT:Z_ ((d.take (j+1)).flatMap eA=(d.take j).flatMap eA++eA d[j]):=by show _=_;rw[a0F I,List.flatMap_append];simp
  have kv:=HX5.o (j+1);rw[HT.o,a0p]at kv;obtain⟨u6,hS6⟩:=A6.Di;have N7:=(Rt w A (w.heap.size+1) u6 _ d[j] va vn g (off+j*259) wr hS6 FW6 hU ra rn z (by rw[HZ];simp only[a0p,cz];omega));subst U;clear hS6 hU Yf ra rn z S;generalize d[j]=x at *;go_wp2_with fail
  refine N7.mono ?_;rintro e w7 ⟨rfl,hA7⟩;have A7:=aj (A6.add (λ_ _=>hA7));clear hA7 N7;go_wp2_with fail
  go_roundg (gk-1)
  .refine⟨j+1,by omega,by go_num,?_⟩;rw[HT.o,<-a0M];exact A7
  omega
 have gJ:decide ((j:Int)<(d.length:Int))=false:=a0f (by omega);have A7:Z_ (AD w.heap.size W (w.heap.size+1) qO (sQ Y++sQ R++nb 1 d.length++d.flatMap eA) wr):=by have h:=A6;rw[a0C (by omega)]at h;exact h
 clear A6 FW6 y6 lU;obtain⟨w7,hw7⟩:∃w7,w7=wr:=⟨_,rfl⟩;rw[<-hw7]at A7 |-;clear hw7;obtain⟨u7,hS7⟩:=A7.o.Di;have FW7:=(A7.o.kp).aC F0.o u;have N8:=(bz 1 w.heap.size (w.heap.size+1) u7 _ l.length 1 w7 (by omega) (by omega) rfl hS7 (by rw[HZ];simp only[a0p,cz];omega) FW7.size (by omega));have y8:zC w7 pb 3 (.slice a4 l.length c4):=(FW7.cell (p:=(zB pb 3)) Ev (by simp)).trans k3;clear hS7;go_wp2_with fail
 refine N8.mono ?_;rintro e w8 ⟨rfl,hA8⟩;have A8:=A7.o.add (λ_ _=>hA8);clear hA8 A7 N8 y8 FW7;have M:=(A8.kp).aC F0.o u;have ya:zC w8 pb 3 (.slice a4 l.length c4):=(M.cell (p:=(zB pb 3)) Ev (by simp)).trans k3;have J:Z_ (∀j,((l.take j).flatMap FD).length<=(l.flatMap FD).length):=λj=>by
  have U:(l.flatMap FD).length=((l.take j).flatMap FD).length+((l.drop j).flatMap FD).length:=by rw[<-a0p,<-List.flatMap_append,a1C]
  omega
 go_wp2_with fail
 go_loopg [57] l.length (λk vk wr=>∃j:Nat,j+k=l.length/\vk=zI j/\AD w.heap.size W (w.heap.size+1) qO (sQ Y++sQ R++nb 1 d.length++d.flatMap eA++nb 1 l.length++(l.take j).flatMap FD) wr)
 exact⟨0,by omega,rfl,by simpa using A8⟩
 case round =>
 clear A8 M ya;obtain⟨j,lU,rfl,T⟩:=hrel;have X:=(T.kp).aC F0.o u
 by_cases I:j<l.length
 .have gJ:decide ((j:Int)<(l.length:Int))=true:=a0g (by omega)
  have HT:Z_ ((l.take (j+1)).flatMap FD=(l.take j).flatMap FD++FD l[j]):=by show _=_;rw[a0F I,List.flatMap_append];simp
  have kv:=J.o (j+1);rw[HT.o,a0p]at kv;obtain⟨g,off,U,hg,S⟩:=RT4 j (by rw[YX];exact I);have h0:zC wr g (off+j*3) (zI (l[j].n:Nat)):=(X.cell (p:=(zB g (off+j*3+0))) hg (by simp)).trans (S 0 _ (by simp[tc,kV]));have h1:zC wr g (off+j*3+1) (zI (l[j].k:Nat)):=(X.cell (p:=(zB g (off+j*3+1))) hg (by simp)).trans (S 1 _ (by simp[tc,kV]));have h2:zC wr g (off+j*3+2) (zI (l[j].x:Nat)):=(X.cell (p:=(zB g (off+j*3+2))) hg (by simp)).trans (S 2 _ (by simp[tc,kV]));have z:=hM.tests.2 l[j] (a0u I);have o1:l[j].n<16777216:=by have:=z.n;simp only at this;omega
  have o2:l[j].k<16777216:=by have:=z.k;omega
  have o3:l[j].x<16777216:=by have h:=z.x;simp only at h;split at h<;>omega
  clear z;subst U;clear S;generalize l[j]=x at *;obtain⟨O,F,E⟩:=x;simp only at h0 h1 h2 HT kv o1 o2 o3;have HE:Z_ (FD ⟨O,F,E⟩=nb 1 O++(nb 1 F++nb 1 E)):=rfl;rw[HE.o]at kv;simp only[a0p,cz]at kv;have B0:Z_ ((wr.alloc (Obj.cells #[zI (O:Nat),zI (F:Nat),zI (E:Nat)] 104)).heap[wr.heap.size]?=some (.cells #[zI (O:Nat),zI (F:Nat),zI (E:Nat)] 104 (0,0))):=bD _ _;have Z:=T.new (Obj.cells #[zI (O:Nat),zI (F:Nat),zI (E:Nat)] 104);have gT:=X.size;have rJ:w.heap.size+1<wr.heap.size:=by obtain⟨_,h⟩:=T.Di;exact h.lt
  obtain⟨uu0,H⟩:=Z.Di;have N:=(Z.kp).aC F0.o u;have B:=(bz 1 w.heap.size (w.heap.size+1) uu0 _ O 1 (wr.alloc (Obj.cells #[zI (O:Nat),zI (F:Nat),zI (E:Nat)] 104)) (by omega) (by omega) rfl H (by rw[HZ];simp only[a0p,cz];omega) N.size (by omega));clear H;go_wp2_with fail
  refine B.mono ?_;rintro e ww1 ⟨rfl,S9⟩;have s:=Z.add (λ_ _=>S9);have B1:=S9.kp.loc B0.o (by decide) (by omega);clear S9 Z B N B0;obtain⟨uu1,um⟩:=s.Di;have FN1:=(s.kp).aC F0.o u;have NN1:=(bz 1 w.heap.size (w.heap.size+1) uu1 _ F 1 ww1 (by omega) (by omega) rfl um (by rw[HZ];simp only[a0p,cz];omega) FN1.size (by omega));have dd1:zC ww1 wr.heap.size 1 (zI (F:Nat)):=by simp[World.cell?,B1]
  clear um;go_wp2_with fail
  refine NN1.mono ?_;rintro e ww2 ⟨rfl,Nt⟩;have D:=s.add (λ_ _=>Nt);have B2:=Nt.kp.loc B1 (by decide) (by omega);clear Nt s NN1 FN1 B1 dd1;obtain⟨uu2,Fa⟩:=D.Di;have FN2:=(D.kp).aC F0.o u;have NN2:=(bz 1 w.heap.size (w.heap.size+1) uu2 _ E 1 ww2 (by omega) (by omega) rfl Fa (by rw[HZ];simp only[a0p,cz];omega) FN2.size (by omega));have dd2:zC ww2 wr.heap.size 2 (zI (E:Nat)):=by simp[World.cell?,B2]
  clear Fa;go_wp2_with fail
  refine NN2.mono ?_;rintro e ww3 ⟨rfl,I8⟩;have Ac3:=D.add (λ_ _=>I8);have B3:=I8.kp.loc B2 (by decide) (by omega);clear I8 D NN2 FN2 B2 dd2;go_wp2_with fail
  go_roundg (gk-1)
  .refine⟨j+1,by omega,by go_num,?_⟩;rw[HT.o,HE.o];simpa[a0M] using Ac3
  omega
 have gJ:decide ((j:Int)<(l.length:Int))=false:=a0f (by omega);have A9:Z_ (AD w.heap.size W (w.heap.size+1) qO (sQ Y++sQ R++nb 1 d.length++d.flatMap eA++nb 1 l.length++l.flatMap FD) wr):=by have h:=T;rw[a0C (by omega)]at h;exact h
 clear T X lU J;obtain⟨w9,G⟩:∃x,x=wr:=⟨_,rfl⟩;rw[<-G]at A9 |-;clear G;obtain⟨u9,hS9⟩:=A9.o.Di;have FW9:=(A9.o.kp).aC F0.o u;have N10:=(bz 1 w.heap.size (w.heap.size+1) u9 _ f.length 1 w9 (by omega) (by omega) rfl hS9 (by rw[HZ];simp only[a0p,cz];omega) FW9.size (by omega));have y10:zC w9 pb 4 (.slice a5 f.length c5):=(FW9.cell (p:=(zB pb 4)) Ev (by simp)).trans k4;clear hS9;go_wp2_with fail
 refine N10.mono ?_;rintro e w10 ⟨rfl,amd⟩;have A10:=A9.o.add (λ_ _=>amd);clear amd A9 N10 y10 FW9;have M:=(A10.kp).aC F0.o u;have ya:zC w10 pb 4 (.slice a5 f.length c5):=(M.cell (p:=(zB pb 4)) Ev (by simp)).trans k4;have J:Z_ (∀j,((f.take j).flatMap eH).length<=(f.flatMap eH).length):=λj=>by
  have U:(f.flatMap eH).length=((f.take j).flatMap eH).length+((f.drop j).flatMap eH).length:=by rw[<-a0p,<-List.flatMap_append,a1C]
  omega
 go_wp2_with fail
 go_loopg [82] f.length (λk vk wr=>∃j:Nat,j+k=f.length/\vk=zI j/\AD w.heap.size W (w.heap.size+1) qO (sQ Y++sQ R++nb 1 d.length++d.flatMap eA++nb 1 l.length++l.flatMap FD++nb 1 f.length++(f.take j).flatMap eH) wr)
 exact⟨0,by omega,rfl,by simpa using A10⟩
 case round =>
 clear A10 M ya;obtain⟨j,lU,rfl,T⟩:=hrel;have X:=(T.kp).aC F0.o u
 by_cases I:j<f.length
 .have gJ:decide ((j:Int)<(f.length:Int))=true:=a0g (by omega)
  have HT:Z_ ((f.take (j+1)).flatMap eH=(f.take j).flatMap eH++eH f[j]):=by show _=_;rw[a0F I,List.flatMap_append];simp
  have kv:=J.o (j+1);rw[HT.o,a0p]at kv;obtain⟨g,off,U,hg,S⟩:=RH j (by rw[HL5];exact I);have uA:j<dss.length:=by have:=HL5;rw[jA]at this;omega
  obtain⟨vb,Yf,rb⟩:=IH.2 j dss[j] f[j] (by simp[uA]) (by simp[I]);have z:=hM.lF.2 f[j] (a0u I);obtain⟨ab,cb,eb⟩:=rb.shape;rw[iC]at eb;subst eb;have hh:∀c x,(aO f[j] (.slice ab f[j].bl.length cb)).toList[c]?=some x->zC wr g (off+j*5+c) x:=by intro c x hx;refine(X.cell (p:=(zB g (off+j*5+c))) hg (by simp)).trans (S c x ?_);simp only[fZ,List.getElem_map];rw[Yf];exact hx
  have h0:zC wr g (off+j*5) (.string (bs f[j].rc)):=hh 0 _ rfl;have h1:zC wr g (off+j*5+1) (.slice ab f[j].bl.length cb):=hh 1 _ rfl;have h2:zC wr g (off+j*5+2) (zI (f[j].wt:Nat)):=hh 2 _ rfl;have h3:zC wr g (off+j*5+3) (zI (f[j].ev:Nat)):=hh 3 _ rfl;have h4:zC wr g (off+j*5+4) (zI (f[j].rp:Nat)):=hh 4 _ rfl;have Z:=T.new (Obj.cells (aO f[j] (.slice ab f[j].bl.length cb)) 106);obtain⟨uu0,H⟩:=Z.Di;have N:=(Z.kp).aC F0.o u;have B:=(aeS w A (w.heap.size+1) uu0 _ f[j] ab cb _ H N rb (by have:=z.rc.1;omega) (λy hy=>by have:=(z.b2 y hy).1;omega) (by have:=z.b1;omega) (by have:=z.wt;omega) (by have:=z.ev;omega) (by have:=z.rp;omega) (by rw[HZ];simp only[a0p,cz];omega));subst U;clear S Yf rb z hh H;generalize f[j]=x at *;obtain⟨O,F,E,x3,x4⟩:=x;simp only[aO]at h0 h1 h2 h3 h4 B;go_wp2_with fail
  refine B.mono ?_;rintro e ww1 ⟨rfl,S9⟩;have s:=Z.add (λ_ _=>S9);clear S9 Z B N;go_wp2_with fail
  go_roundg (gk-1)
  .refine⟨j+1,by omega,by go_num,?_⟩;rw[HT.o,<-a0M];exact s
  omega
 have gJ:decide ((j:Int)<(f.length:Int))=false:=a0f (by omega);have A11:Z_ (AD w.heap.size W (w.heap.size+1) qO (sQ Y++sQ R++nb 1 d.length++d.flatMap eA++nb 1 l.length++l.flatMap FD++nb 1 f.length++f.flatMap eH) wr):=by have h:=T;rw[a0C (by omega)]at h;exact h
 clear T X lU J;obtain⟨w11,G⟩:∃x,x=wr:=⟨_,rfl⟩;rw[<-G]at A11 |-;clear G;obtain⟨u11,ame⟩:=A11.o.Di;have ajd:=(A11.o.kp).aC F0.o u;have N12:=(bz 2 w.heap.size (w.heap.size+1) u11 _ q.length 2 w11 (by omega) (by omega) rfl ame (by rw[HZ];simp only[a0p,cz];omega) ajd.size (by omega));have y12:zC w11 pb 5 (.slice a6 q.length c6):=(ajd.cell (p:=(zB pb 5)) Ev (by simp)).trans k5;clear ame;go_wp2_with fail
 refine N12.mono ?_;rintro e w12 ⟨rfl,amf⟩;have A12:=A11.o.add (λ_ _=>amf);clear amf A11 N12 y12 ajd;have M:=(A12.kp).aC F0.o u;have ya:zC w12 pb 5 (.slice a6 q.length c6):=(M.cell (p:=(zB pb 5)) Ev (by simp)).trans k5;have J:Z_ (∀j,((q.take j).flatMap eI).length<=(q.flatMap eI).length):=λj=>by
  have U:(q.flatMap eI).length=((q.take j).flatMap eI).length+((q.drop j).flatMap eI).length:=by rw[<-a0p,<-List.flatMap_append,a1C]
  omega
 go_wp2_with fail
 go_loopg [100] q.length (λk vk wr=>∃j:Nat,j+k=q.length/\vk=zI j/\AD w.heap.size W (w.heap.size+1) qO (sQ Y++sQ R++nb 1 d.length++d.flatMap eA++nb 1 l.length++l.flatMap FD++nb 1 f.length++f.flatMap eH++nb 2 q.length++(q.take j).flatMap eI) wr)
 exact⟨0,by omega,rfl,by simpa using A12⟩
 case round =>
 clear A12 M ya;obtain⟨j,lU,rfl,T⟩:=hrel;have X:=(T.kp).aC F0.o u
 by_cases I:j<q.length
 .have gJ:decide ((j:Int)<(q.length:Int))=true:=a0g (by omega)
  have HT:Z_ ((q.take (j+1)).flatMap eI=(q.take j).flatMap eI++eI q[j]):=by show _=_;rw[a0F I,List.flatMap_append];simp
  have kv:=J.o (j+1);rw[HT.o,a0p]at kv;obtain⟨g,off,U,hg,S⟩:=RI6 j (by rw[CZ];exact I);have h0:zC wr g (off+j*4) (zI (q[j].op:Nat)):=(X.cell (p:=(zB g (off+j*4+0))) hg (by simp)).trans (S 0 _ (by simp[uj,jT]));have h1:zC wr g (off+j*4+1) (zI (q[j].x:Nat)):=(X.cell (p:=(zB g (off+j*4+1))) hg (by simp)).trans (S 1 _ (by simp[uj,jT]));have h2:zC wr g (off+j*4+2) (zI (q[j].a:Nat)):=(X.cell (p:=(zB g (off+j*4+2))) hg (by simp)).trans (S 2 _ (by simp[uj,jT]));have h3:zC wr g (off+j*4+3) (zI (q[j].b:Nat)):=(X.cell (p:=(zB g (off+j*4+3))) hg (by simp)).trans (S 3 _ (by simp[uj,jT]));have z:=hM.code.2.2 j I;have o1:q[j].op<16777216:=by have:=z.op;simp only at this;omega
  have o2:q[j].x<16777216:=by have:=z.x;simp only at this;omega
  have o3:q[j].a<16777216:=by have:=z.a;simp only at this;omega
  have o4:q[j].b<16777216:=by have:=z.b;simp only at this;omega
  clear z;subst U;clear S;generalize q[j]=x at *;obtain⟨O,F,E,x3⟩:=x;simp only at h0 h1 h2 h3 HT kv o1 o2 o3 o4;have HE:Z_ (eI ⟨O,F,E,x3⟩=nb 1 O++(nb 1 F++(nb 2 E++nb 2 x3))):=rfl;rw[HE.o]at kv;simp only[a0p,cz]at kv;have B0:Z_ ((wr.alloc (Obj.cells #[zI (O:Nat),zI (F:Nat),zI (E:Nat),zI (x3:Nat)] 109)).heap[wr.heap.size]?=some (.cells #[zI (O:Nat),zI (F:Nat),zI (E:Nat),zI (x3:Nat)] 109 (0,0))):=bD _ _;have Z:=T.new (Obj.cells #[zI (O:Nat),zI (F:Nat),zI (E:Nat),zI (x3:Nat)] 109);have gT:=X.size;have rJ:w.heap.size+1<wr.heap.size:=by obtain⟨_,h⟩:=T.Di;exact h.lt
  obtain⟨uu0,H⟩:=Z.Di;have N:=(Z.kp).aC F0.o u;have B:=(bz 1 w.heap.size (w.heap.size+1) uu0 _ O 1 (wr.alloc (Obj.cells #[zI (O:Nat),zI (F:Nat),zI (E:Nat),zI (x3:Nat)] 109)) (by omega) (by omega) rfl H (by rw[HZ];simp only[a0p,cz];omega) N.size (by omega));clear H;go_wp2_with fail
  refine B.mono ?_;rintro e ww1 ⟨rfl,S9⟩;have s:=Z.add (λ_ _=>S9);have B1:=S9.kp.loc B0.o (by decide) (by omega);clear S9 Z B N B0;obtain⟨uu1,um⟩:=s.Di;have FN1:=(s.kp).aC F0.o u;have NN1:=(bz 1 w.heap.size (w.heap.size+1) uu1 _ F 1 ww1 (by omega) (by omega) rfl um (by rw[HZ];simp only[a0p,cz];omega) FN1.size (by omega));have dd1:zC ww1 wr.heap.size 1 (zI (F:Nat)):=by simp[World.cell?,B1]
  clear um;go_wp2_with fail
  refine NN1.mono ?_;rintro e ww2 ⟨rfl,Nt⟩;have D:=s.add (λ_ _=>Nt);have B2:=Nt.kp.loc B1 (by decide) (by omega);clear Nt s NN1 FN1 B1 dd1;obtain⟨uu2,Fa⟩:=D.Di;have FN2:=(D.kp).aC F0.o u;have NN2:=(bz 2 w.heap.size (w.heap.size+1) uu2 _ E 2 ww2 (by omega) (by omega) rfl Fa (by rw[HZ];simp only[a0p,cz];omega) FN2.size (by omega));have dd2:zC ww2 wr.heap.size 2 (zI (E:Nat)):=by simp[World.cell?,B2]
  clear Fa;go_wp2_with fail
  refine NN2.mono ?_;rintro e ww3 ⟨rfl,I8⟩;have Ac3:=D.add (λ_ _=>I8);have B3:=I8.kp.loc B2 (by decide) (by omega);clear I8 D NN2 FN2 B2 dd2;obtain⟨uu3,Mr⟩:=Ac3.Di;have FN3:=(Ac3.kp).aC F0.o u;have NN3:=(bz 2 w.heap.size (w.heap.size+1) uu3 _ x3 2 ww3 (by omega) (by omega) rfl Mr (by rw[HZ];simp only[a0p,cz];omega) FN3.size (by omega));have dd3:zC ww3 wr.heap.size 3 (zI (x3:Nat)):=by simp[World.cell?,B3]
  clear Mr;go_wp2_with fail
  refine NN3.mono ?_;rintro e ww4 ⟨rfl,hA4⟩;have Ac4:=Ac3.add (λ_ _=>hA4);have B4:=hA4.kp.loc B3 (by decide) (by omega);clear hA4 Ac3 NN3 FN3 B3 dd3;go_wp2_with fail
  go_roundg (gk-1)
  .refine⟨j+1,by omega,by go_num,?_⟩;rw[HT.o,HE.o];simpa[a0M] using Ac4
  omega
 have gJ:decide ((j:Int)<(q.length:Int))=false:=a0f (by omega);have A13:Z_ (AD w.heap.size W (w.heap.size+1) qO (sQ Y++sQ R++nb 1 d.length++d.flatMap eA++nb 1 l.length++l.flatMap FD++nb 1 f.length++f.flatMap eH++nb 2 q.length++q.flatMap eI) wr):=by have h:=T;rw[a0C (by omega)]at h;exact h
 clear T X lU J;obtain⟨w13,G⟩:∃x,x=wr:=⟨_,rfl⟩;rw[<-G]at A13 |-;clear G;obtain⟨u13,aiJ,amh,akp⟩:=A13.o;have aoj:=amh.aC F0.o u;have HEM:Z_ (qO++(sQ Y++sQ R++nb 1 d.length++d.flatMap eA++nb 1 l.length++l.flatMap FD++nb 1 f.length++f.flatMap eH++nb 2 q.length++q.flatMap eI)=eM ⟨Y,R,d,l,f,q⟩):=by show _=_;unfold eM;simp only[a0M]
 rw[HEM.o]at aiJ akp;have y13:=aiJ.c0;have dY:=akp.str (by have:=hL;unfold eM;simp[qO]);obtain⟨a13,c13,e13⟩:=aiJ.2.2.shape;subst e13;clear A13 aiJ akp amh;go_wp2;go_ret;exact⟨rfl,aoj⟩
theorem ah6(A:LN)(pb:Nat)(V:V6)(m:mP)(w:World)(h:PR A w pb V m)(a:MOK m)(f:(eM m).length<=300000000) :
 Calls Tryz.prog 8 #[.pointer (some ⟨pb,0,none⟩)] w λe w'=>e=.returned (.string (bs (eM m)))/\aB [] w w':=by
 have c:=(ah5 (pb::A) pb V m w (by
  intro j d;show w.cell? ⟨pb,j,none⟩=_;simp only[World.cell?,h.row];rw[Array.getElem?_eq_getElem (by simp[V6.cells];exact d)]
  rfl) h.pg a f)
 obtain⟨g,c6,b⟩:=h.pg.i.shape;rw[CZ]at b;have l:w.cell? ⟨pb,5,none⟩=some (.slice g m.code.length c6):=by simp only[World.cell?,h.row];rw[<-b];rfl
 have n:=a.code.1;have hb:((m.code.length:Int)==0)=false:=by rw[a0j];omega
 clear h a;go_in
 go_wp2_with fail
 refine c.mono ?_;rintro e k ⟨rfl,F⟩;clear c;go_wp2;go_ret;exact⟨rfl,F⟩
def akq(S:LN)(c:Nat):∃f∈gP S (c+1),apart S f c=false:=by
 simp only[gP]
 split
 .exact⟨c,by simp,by simp[apart]⟩
 rename_i h
 have a:kU S (gP S c) c<(gP S c).length:=by have:=adD S (gP S c) c;simp at h;omega
 have d:=List.findIdx_getElem (w:=a);refine⟨(gP S c)[kU S (gP S c) c],a0u a,?_⟩;have b:(!apart S ((gP S c)[kU S (gP S c) c]) c)=true:=d;simpa using b
def afL {c f:Nat}(h:S.any (λs=>BS s c)=false)(a:apart S f c=false):apart S f (c+1)=false:=by unfold apart at a |-;rw[List.any_eq_false]at h a |-;intro s b;have e:=h s b;have d:=a s b;simp[BS]at e d |-;rw[d,e]
def aiU(S:LN)(c:Nat):(gP S (c+2)).length<=(gP S (c+1)).length+(if S.any (λs=>BS s c) then 1 else 0):=by
 cases h:S.any (λs=>BS s c)
 .obtain⟨f,b,a⟩:=akq S c
  have d:=afL h a;rw[gP];have e:kU S (gP S (c+1)) (c+1)<(gP S (c+1)).length:=by unfold kU;exact List.findIdx_lt_length_of_exists ⟨f,b,by simp[d]⟩
  rw[a0n (by simp;omega)];simp
 rw[gP]
 split<;>simp
def abE(S:LN):∀c,(gP S (c+1)).length<=1+(List.range c).countP (λi=>S.any (λs=>BS s i))
 | 0=>by have:=(xW S 1).1;simpa using this
 | c+1=>by
   have d:=aiU S c;have b:=abE S c;rw[List.range_succ,List.countP_append];have a:List.countP (λi=>S.any (λs=>BS s i)) [c]=(if S.any (λs=>BS s c) then 1 else 0):=by simp[a2G]
   show(gP S (c+2)).length<=_;omega
def abF(l:LN):∀S:LN,l.countP (λi=>S.any (λs=>BS s i))<=(S.map (λs=>l.countP (BS s))).sum
 | []=>by simp
 | s::S=>by
   have h:=abF l S;have b:=aaG (p:=λi=>(s::S).any (λs=>BS s i)) (q:=BS s) (r:=λi=>S.any (λs=>BS s i)) l (by intro x _ a;simpa using a)
   simp only[a0E,a0Y];omega
def akr(e:RX):(kZ e).length<=1+Dk (dB e):=by
 have a:=abE (dB e) 255;have b:=abF (List.range 255) (dB e);unfold kZ;unfold Dk cp;exact a0h a (by have:(dB e).map (λs=>(List.range 255).countP (BS s))=(dB e).map (λs=>List.countP (BS s) (List.range 255)):=rfl;omega)
def aiV {e:RX}(h:fF t=some e):(kZ e).length<=1+2*t.length :=
 a0h (akr e) (by have:=ah3 h;omega)
def rf {f:α->LB}:∀(l:List α),(∀x∈l,(f x).length<=b)->(l.flatMap f).length<=l.length*b
 | [],_=>by simp
 | x::l,h=>by have d:=h x (by simp);have c:=rf l (λy a=>h y (by simp[a]));rw[a1i,a0p,a0r,Nat.succ_mul];omega
theorem afM(t:LB):(eT t).length=1+t.length:=by simp[eT,cz]
def aeM {l:List LB}(h:∀t∈l,t.length<=b):(sQ l).length<=1+l.length*(1+b):=by have:=rf (f:=eT) (b:=1+b) l (λx a=>by rw[afM];have:=h x a;omega);simp only[sQ,a0p,cz];omega
def anG {a:gz}(ok:Gr a)(c:a.k<=81):(eA a).length<=3539:=by have l:=rf (f:=nb 1) (b:=1) a.cl (λx _=>by rw[cz];exact a0b 1);have j:=rf (f:=nb 1) (b:=1) a.acc (λx _=>by rw[cz];exact a0b 1);have i:=rf (f:=nb 1) (b:=1) a.nx (λx _=>by rw[cz];exact a0b 1);have h:=ok.nx;have g:=ok.cl;have d:=ok.s2;have e:a.acc.length*a.k<=40*81:=a0D d c;simp only[eA,a0p,cz];omega
def anH {h:kN}(ok:afH h):(eH h).length<=55:=by have d:=ok.rc.1;have c:=aeM (l:=h.bl) (b:=8) (λt ht=>by have:=(ok.b2 t ht).1;omega);have a:=ok.b1;simp only[eH,a0p,cz,afM];omega
def anI(ok:MOK m)(n:m.uM.length<=64)(d:∀a∈m.uM,a.k<=81)(j:m.code.length<=1000):(eM m).length<=262144:=by have u:=aeM (l:=m.names) (b:=8) (λt ht=>by have:=(ok.names.2 t ht).1;omega);have s:=aeM (l:=m.consts) (b:=40) (λt ht=>by have:=ok.consts.2 t ht;omega);have r:=rf (f:=eA) (b:=3539) m.uM (λa h=>anG (ok.uM.2 a h) (d a h));have q:=rf (f:=FD) (b:=3) m.tests (λa h=>by simp[FD,cz]);have p:=rf (f:=eH) (b:=55) m.lF (λa h=>anH (ok.lF.2 a h));have o:=rf (f:=eI) (b:=6) m.code (λa h=>by simp[eI,cz]);have i:=ok.names.1;have l2:=ok.consts.1;have g:=ok.tests.1;have e:=ok.lF.1;have c:qO.length=3:=rfl;simp only[eM,a0p,cz,c];omega
def AK(re:LB->Nat)(bI:LB->gz)(s:CS):Prop:=∀a∈s.a,∃v:LB,v.length<=40/\re v=0/\a=bI v
def aiW {re:LB->Nat} {bI:LB->gz} {m:CM} {t:jd}(h:AK re bI s)(hm:Qf m)(e:nP re bI s m=some (t,s1)):AK re bI s1:=by
 unfold nP at e
 split at e
 ·split at e
  ·cases e;exact h
  split at e
  ·rename_i h0
   cases e
   intro a ha;rcases a0e.1 ha with h1|h1
   ·exact h a h1
   rw[a0w.1 h1];exact⟨m.2.2,hm.val,h0,rfl⟩
  cases e
 cases e;exact h
def afN {re:LB->Nat} {bI:LB->gz}:∀(M:List CM) (s:CS) (acc:List (Nat × Bool)) {l:List (Nat × Bool)} {s1:CS},AK re bI s->(∀m∈M,Qf m)->nu re bI s acc M=.ok (l,s1)->AK re bI s1
 | [],s,acc,l,s1,h,_,e=>by
   rw[nu]at e;cases e
   exact h
 | m::r,s,acc,l,s1,h,a,e=>by
   rw[nu]at e
   split at e
   .cases e
   rename_i t s2 ht
   have c:=aiW h (a m (by simp)) ht;exact afN r _ _ (show AK re bI { s2 with t:=pE s2.t t } from c) (λx b=>a x (by simp[b])) e
def aeb {re:LB->Nat} {bI:LB->gz}:∀(C:List CR) (s:CS) (i:Nat) {s1:CS},AK re bI s->(∀c∈C,xN c)->pread re bI s i C=.ok s1->AK re bI s1
 | [],s,i,s1,h,_,e=>by
   rw[pread]at e;cases e
   exact h
 | c::r,s,i,s1,h,hC,e=>by
   rw[pread]at e
   split at e
   .cases e
   rename_i l s2 b
   have d:=afN c.ifs s [] h (hC c (by simp)).ifs b;exact aeb r { s2 with q:=s2.q++[l] } (i+1) (show AK re bI { s2 with q:=s2.q++[l] } from d) (λx a=>hC x (by simp[a])) e
def akY {v:LB}(b:v.length<=40)(h:gH v=0):(gQ v).k<=81:=by
 obtain⟨e,he,_,_⟩:=VX h;have c:=aiV he;have a:(gQ v).k=(kZ e).length:=by unfold gQ;rw[he]
 rw[a];generalize (kZ e).length=n at *;omega
def aiX(ht:t.length<=1048576)(h:jH t=.ok (L,C))(b:pread gH gQ lT 0 C=.ok s):(eM (iZ C s)).length<=262144:=by
 obtain⟨n,f,m,y⟩:=pI h;have e:=(qT t L C ht n).2.2;have ok:=asU ab5 ht h b;obtain⟨k1,k2,x⟩:=V7 ab5 C lT 0 0 ⟨by simp[lT],by simp[lT],by simp[lT],rfl,by simp[lT],by simp[lT],by simp[lT]⟩ ⟨by simp[lT],by simp[lT],by simp[lT],by simp[lT],by simp[lT]⟩ e b;have k:=aeb (re:=gH) (bI:=gQ) C lT 0 (λa c=>by simp[lT]at c) e b;refine anI ok (by have:=k2.a;show s.a.length<=64;omega) (λa c=>?_) ?_
 .obtain⟨v,l,o,rfl⟩:=k a c
  exact akY l o
 have p:C.isEmpty=false:=by cases C with | nil=>simp at f|cons=>rfl
 have r:GL [⟨0,0,0,0⟩]:=by intro i d;simp at d;subst d;exact .inl rfl
 obtain⟨j,g,w⟩:=C9 C s.q 6 0 0 [⟨0,0,0,0⟩] r (by simp);have u:=aiP m f k1.ql;show(C8 C s.q).length<=1000;unfold C8;rw[p];obtain⟨t1,t2⟩:=akP j _ g;show(mH (ig C s.q 6 0 0 [⟨0,0,0,0⟩]).2 (ig C s.q 6 0 0 [⟨0,0,0,0⟩]).1).length<=1000;omega
open Go.RowKit
abbrev kW:Type:=LB × LB
def dH(L:List kW)(n:LB):LB:=match L.find? (λx=>x.1==n) with | some x=>x.2|none=>[]
open Go.RowKit
theorem PR.c0(h:PR A w pb V m):zC w pb 0 V.n:=by simp[World.cell?,h.row,V6.cells]
theorem PR.c1(h:PR A w pb V m):zC w pb 1 V.c:=by simp[World.cell?,h.row,V6.cells]
theorem PR.c2(h:PR A w pb V m):zC w pb 2 V.a:=by simp[World.cell?,h.row,V6.cells]
theorem PR.c3(h:PR A w pb V m):zC w pb 3 V.t:=by simp[World.cell?,h.row,V6.cells]
theorem PR.c4(h:PR A w pb V m):zC w pb 4 V.r:=by simp[World.cell?,h.row,V6.cells]
theorem PR.lt(h:PR A w pb V m):pb<w.heap.size:=(a0c.1 h.row).1
open Go.RowKit
open Go.RowKit
structure HR(w:World)(g o:Nat)(x:kN)(vb:Value):Prop where
 lt:g<w.heap.size
 c0:w.cell? (zB g o)=some (zT x.rc)
 c1:w.cell? (zB g (o+1))=some vb
 c2:w.cell? (zB g (o+2))=some (zI (x.wt:Nat))
 c3:w.cell? (zB g (o+3))=some (zI (x.ev:Nat))
 c4:w.cell? (zB g (o+4))=some (zI (x.rp:Nat))
 r:RW [] 1 w vb (sc x.bl)
theorem HR.drewN{o:Nat} {x:kN}(h:HR w g o x vb)(n:Nat):HR (w.drewN n) g o x vb:=⟨h.lt,h.c0,h.c1,h.c2,h.c3,h.c4,h.r.aC (S:=[]) ((aB.refl [] w).drewN n) (by simp)⟩
theorem HR.aC{o:Nat} {x:kN}(h:HR w g o x vb)(f:aB [] w w'):HR w' g o x vb :=
 ⟨a0t h.lt f.size,f.at (p:=(zB g o)) h.lt h.c0,f.at (p:=(zB g (o+1))) h.lt h.c1,f.at (p:=(zB g (o+2))) h.lt h.c2,f.at (p:=(zB g (o+3))) h.lt h.c3,f.at (p:=(zB g (o+4))) h.lt h.c4,h.r.aC f (by simp)⟩
def su(w:World)(v:Value)(b:List kN):Prop :=
 ∃a cap,v=.slice a b.length cap/\b.length<=cap/\∀j (h:j<b.length),∃g o vb,a=some (zB g o)/\HR w g (o+j*5) b[j] vb
theorem su.aC {b:List kN}(h:su w v b)(f:aB [] w w'):su w' v b:=by obtain⟨a,cap,e,d,h⟩:=h;refine⟨a,cap,e,d,λj c=>?_⟩;obtain⟨g,o,vb,k,i⟩:=h j c;exact⟨g,o,vb,k,i.aC f⟩
theorem su.nil(w:World):su w zN []:=⟨none,0,rfl,a0b _,λj h=>absurd h (by simp)⟩
open Go.RowKit
open Go.RowKit
structure Ae(s s':CS):Prop where
 n:s.n <+: s'.n
 c:s.c <+: s'.c
 a:s.a <+: s'.a
 t:s.t <+: s'.t
theorem Ae.refl(s:CS):Ae s s:=⟨a0N _,a0N _,a0N _,a0N _⟩
theorem Ae.trans{s2:CS}(h:Ae s s1)(k:Ae s1 s2):Ae s s2:=⟨h.n.trans k.n,h.c.trans k.c,h.a.trans k.a,h.t.trans k.t⟩
open Go.RowKit
def q9:LB->LB->List LB
 | [],_=>[]
 | c::r,cur=>if c==10 then (cur++[10])::q9 r [] else q9 r (cur++[c])
def aec(t:LB):List LB:=q9 t []
theorem I9(f:α->Option β)(a:α)(l:List α):(a::l).mapM f=match f a with | none=>none|some b=>match l.mapM f with | none=>none|some bs=>some (b::bs):=by
 rw[List.mapM_cons];cases f a with
 | none=>rfl
 | some b=>cases l.mapM f<;>rfl
def Xp(l:LB):Option CR:=gM l.dropLast
theorem rl2:∀(t:LB) (ln:Nat) (cur:LB) (R:List LB) (C:List CR) (b:List LB) (d:List CR),2<=ln ->
 (yw t ln cur R C=.ok (b,d)↔b=R/\(q9 t cur).flatten=cur++t/\∃e,(q9 t cur).mapM Xp=some e/\d=C++e)
 | [],ln,cur,R,C,b,d,h=>by
   rw[yw,q9];have:(ln==1)=false:=by simp;omega
   rw[this,Bool.or_false];cases cur with
   | nil =>
     simp
     constructor
     .rintro⟨rfl,rfl⟩;exact⟨rfl,rfl⟩
     rintro⟨rfl,rfl⟩;exact⟨rfl,rfl⟩
   | cons c r=>simp
 | c::r,ln,cur,R,C,b,d,h=>by
   rw[yw,q9]
   by_cases l:c=10
   .subst l
    have:(ln==1)=false:=by simp;omega
    simp only[a3d,a0G,this,a0A,a0I];rw[I9];have zV:Xp (cur++[10])=gM cur:=by unfold Xp;rw[List.dropLast_concat]
    rw[zV];cases n:gM cur with
    | none=>simp
    | some x =>
      simp only;rw[rl2 r (ln+1) [] R (C++[x]) b d (by omega)];simp only[List.flatten_cons,a0M,a0V,List.append_cancel_left_eq]
      constructor
      .rintro⟨j,i,e,a,g⟩
       refine⟨j,by rw[i];rfl,x::e,by rw[a],by rw[g];rfl⟩
      rintro⟨j,i,e,a,g⟩;refine⟨j,by simpa using i,?_⟩;cases k:(q9 r []).mapM Xp with
      | none=>rw[k]at a;cases a
      | some m=>rw[k]at a;cases a;exact⟨m,rfl,g⟩
   have f:(c==10)=false:=by simpa using l
   rw[f];simp only[a0A,a0I];rw[rl2 r ln (cur++[c]) R C b d h];simp
theorem rl1:∀(t cur:LB) (R:List LB) (C:List CR) (a:List LB) (b:List CR),
 (yw t 1 cur R C=.ok (a,b)↔(q9 t cur).flatten=cur++t/\∃f ls d,q9 t cur=f::ls/\iW f.dropLast=some a/\ls.mapM Xp=some d/\b=C++d)
 | [],cur,R,C,a,b=>by rw[yw,q9];simp
 | c::r,cur,R,C,a,b=>by
   rw[yw,q9]
   by_cases m:c=10
   .subst m
    simp only[a3d,a0G]
    constructor
    .intro h
     cases g:iW cur with
     | none=>rw[g]at h;cases h
     | some o=>rw[g]at h;obtain⟨l,k,d,e,j⟩:=(rl2 r 2 [] o C a b (by omega)).1 h;refine⟨by simp[k],cur++[10],q9 r [],d,rfl,by rw[List.dropLast_concat,g,l],e,j⟩
    rintro⟨l,f,ls,d,k,e,j,n⟩;cases k
    rw[List.dropLast_concat]at e;rw[e];exact(rl2 r 2 [] a C a b (by omega)).2 ⟨rfl,by simpa using l,d,j,n⟩
   have i:(c==10)=false:=by simpa using m
   rw[i];simp only[a0A,a0I];rw[rl1 r (cur++[c]) R C a b];simp
def Ni(t:LB)(L:List LB)(C:List CR):oV t=.ok (L,C)↔(aec t).flatten=t/\∃a ls,aec t=a::ls/\iW a.dropLast=some L/\ls.mapM Xp=some C:=by
 unfold oV aec;rw[rl1];simp only[a0V]
 constructor
 .rintro⟨e,a,ls,f,d,c,b,rfl⟩;exact⟨e,a,ls,d,c,b⟩
 rintro⟨e,a,ls,d,c,b⟩;exact⟨e,a,ls,C,d,c,b,rfl⟩
def aks(l:LB):Asc (lK l).names:=by
 unfold lK
 split
 .dsimp only
  split
  .exact List.Pairwise.nil
  exact ad9 _ [] List.Pairwise.nil
 exact List.Pairwise.nil
def akt {c:CR}(h:Xp l=some c):Asc c.jM:=by obtain⟨_,_,_,_,_,_,rfl⟩:=ae8 _ _ h;exact aks _
def mapM_mem(f:α->Option β):∀(l:List α) (m:List β),l.mapM f=some m->∀b∈m,∃a∈l,f a=some b
 | [],m,h,b,hb=>by simp at h;subst h;simp at hb
 | a::l,m,h,b,hb=>by
   rw[I9]at h
   split at h
   .cases h
   rename_i x e
   split at h
   .cases h
   rename_i bs c
   cases h
   rcases a0l.1 hb with rfl|hb
   .exact⟨a,by simp,e⟩
   obtain⟨y,d,g⟩:=mapM_mem f l bs c b hb;exact⟨y,by simp[d],g⟩
theorem afO:∀(x cur r:LB),(10:UInt8)∉x->q9 (x++10::r) cur=(cur++x++[10])::q9 r []
 | [],cur,r,_=>by simp[q9]
 | c::x,cur,r,h=>by
   have b:(c==10)=false:=by rw[a0j];rintro rfl;exact h (by simp)
   rw[a0L,q9,b];simp only[a0A,a0I];rw[afO x (cur++[c]) r (λa=>h (by simp[a]))];simp
def aed:∀(ls:List LB),(∀l∈ls,∃x,l=x++[10]/\(10:UInt8)∉x)->aec ls.flatten=ls
 | [],_=>rfl
 | l::ls,h=>by obtain⟨x,rfl,c⟩:=h l (by simp);have a:=aed ls (λy b=>h y (by simp[b]));unfold aec at a |-;rw[List.flatten_cons,a0M];show q9 (x++10::ls.flatten) []=_;rw[afO x [] _ c,a];rfl
def LA {p:UInt8->Bool}:∀(a b:LB),a.all p=true->(∀c r,b=c::r->p c=false)->(a++b).takeWhile p=a/\(a++b).dropWhile p=b
 | [],b,_,hb=>by
   cases b with
   | nil=>simp
   | cons c r=>simp[hb c r rfl]
 | x::a,b,d,hb=>by rw[a1P,a0O]at d;obtain⟨f,e⟩:=LA a b d.2 hb;simp[d.1,f,e]
def arA(h:aJ n=true):n.all bK=true:=by unfold aJ at h;rw[a0O]at h;exact h.2
def afP(h:aJ n=true)(b:∀c q,r=c::q->bK c=false):eZ (n++r)=(n,true,r):=by
 obtain⟨f,e⟩:=LA n r (arA h) b;have a:aQ [45] (n++r)=false:=by
  cases n with
  | nil=>simp[aJ]at h
  | cons c q =>
    have:=arA h;rw[a1P,a0O]at this;unfold aQ;simp only[a0L,List.isPrefixOf];have d:(45==c)=false:=by
     rw[a0j];rintro rfl;have:=this.1
     revert this
     decide
    rw[d];rfl
 unfold eZ;rw[a];simp[f,e,h]
theorem ab6:∀n,n<16->∀r,gK (sG n::r)=(UInt8.ofNat n,true,r):=by
 intro n c r;have h:∀n,n<16->(if nG (sG n) then ((sG n-48:UInt8),true) else if 97<=sG n/\sG n<=102 then (sG n-97+10,true) else (0,false))=(UInt8.ofNat n,true):=by decide +kernel
 have a:=h n c;unfold gK;simp only
 split at a
 .rename_i b
  rw[a0m b];simp only[Prod.mk.injEq]at a |-;exact⟨a.1,trivial⟩
 rename_i b
 rw[a0n b]
 split at a
 .rename_i d
  rw[a0m d];simp only[Prod.mk.injEq]at a |-;exact⟨a.1,trivial⟩
 simp at a
theorem aiY(c:UInt8):UInt8.ofNat (c.toNat / 16)*16+UInt8.ofNat (c.toNat % 16)=c:=by
 have h:∀n,n<256->UInt8.ofNat (n / 16)*16+UInt8.ofNat (n % 16)=UInt8.ofNat n:=by decide +kernel
 rw[h c.toNat c.toNat_lt,UInt8.ofNat_toNat]
def ah7(c:UInt8)(r:LB):pF (lv c++r)=(c,true,r)/\aQ [34] (lv c++r)=false:=by
 unfold lv;cases i:mR c.toNat
 .simp only[a1K,a0G]
  refine⟨?_,rfl⟩;have e:pF ([92,120,sG (c.toNat / 16),sG (c.toNat % 16)]++r)=Ex (sG (c.toNat / 16)::sG (c.toNat % 16)::r):=rfl;have k:=c.toNat_lt;rw[e];unfold Ex;simp only;rw[ab6 (c.toNat / 16) (by omega),ab6 (c.toNat % 16) (by omega)];simp only[Bool.and_self,aiY]
 simp only[a2O,a0A,a0I]
 by_cases a:c=34
 .subst a;exact⟨rfl,rfl⟩
 by_cases b:c=92
 .subst b;exact⟨rfl,rfl⟩
 have j:(c==34)=false:=by simpa using a
 have g:(c==92)=false:=by simpa using b
 rw[j,g];simp only[Bool.or_self,a0A,a0I];have f:(34==c)=false:=by rw[a0j];exact λh=>a h.symm
 have d:(92==c)=false:=by rw[a0j];exact λh=>b h.symm
 refine⟨?_,by simp[aQ,List.isPrefixOf,f]⟩;unfold pF aQ;simp only[a1h,List.isPrefixOf,d,Bool.false_and,a0A,a0I,i,g,a2O,Bool.or_self]
theorem VH:∀(v acc rest:LB) (n:Nat),v.length<n->acc.length+v.length<=40->tZ n acc (v.flatMap lv++34::rest)=(acc++v,true,rest)
 | [],acc,rest,n,a,_=>by
   obtain⟨m,rfl⟩:∃m,n=m+1:=⟨n-1,by simp at a;omega⟩;rw[tZ];have:aQ [34] ([].flatMap lv++34::rest)=true:=by simp[aQ,List.isPrefixOf]
   rw[this];simp[aK,List.isPrefixOf]
 | c::v,acc,rest,n,a,b=>by rw[a0r]at a b;obtain⟨m,rfl⟩:∃m,n=m+1:=⟨n-1,by omega⟩;obtain⟨e,d⟩:=ah7 c (v.flatMap lv++34::rest);rw[tZ,a1i,a0M,d,e];simp only[a0A,a0I,a2O,a3l];rw[a0n (by simp;omega),VH v (acc++[c]) rest m (by omega) (by simp;omega)];simp
theorem af4(v rest:LB)(h:v.length<=40):qm (kY v++rest)=(v,true,rest):=by
 have e:kY v++rest=34::(v.flatMap lv++34::rest):=by unfold kY;simp
 have h1:aQ [34] (kY v++rest)=true:=by rw[e];simp[aQ,List.isPrefixOf]
 have h2:aK [34] (kY v++rest)=v.flatMap lv++34::rest:=by rw[e];simp[aK,List.isPrefixOf]
 unfold qm;rw[h1,h2,a0m rfl];have hq:∀v:LB,v.length<=(v.flatMap lv).length:=by
  intro v
  induction v with
  | nil=>simp
  | cons c r ih =>
    rw[a1i,a0p,a0r];have:1<=(lv c).length:=by unfold lv;split;simp;split<;>simp
    omega
 have:=hq v;rw[VH v [] rest _ (by rw[e];simp only[a0r,a0p];omega) (by simpa using h)]
 rfl
def opK(k:Nat):LB:=if k=0 then [61] else if k=1 then [33,61] else if k=2 then [61,126] else [33,126]
theorem aiZ(hk:k<=3)(v rest:LB):jq (opK k++(kY v++rest))=(k,true,kY v++rest):=by
 have e:kY v++rest=34::(v.flatMap lv++34::rest):=by unfold kY;simp
 rw[e];rcases(show k=0\/k=1\/k=2\/k=3 by omega) with rfl|rfl|rfl|rfl<;>simp[jq,opK,aQ,aK,List.isPrefixOf]
def ah8(c:UInt8):(10:UInt8)∉lv c:=by
 have h:∀n,n<256->(10:UInt8)∉lv (UInt8.ofNat n):=by decide +kernel
 have:=h c.toNat c.toNat_lt
 rwa [UInt8.ofNat_toNat]at this
def ah9(v:LB):(10:UInt8)∉kY v:=by unfold kY;simp only[a0e,a0w,a1l,not_or,not_exists,not_and];exact⟨⟨by decide,λc _=>ah8 c⟩,by decide⟩
theorem aku(a:k<=3):opK k=jr k:=by rcases(show k=0\/k=1\/k=2\/k=3 by omega) with rfl|rfl|rfl|rfl<;>rfl
theorem af5 {m:CM}(hn:aJ m.1=true)(hk:m.2.1<=3)(hv:m.2.2.length<=40)(rest:LB):kF (m.1++(jr m.2.1++(kY m.2.2++rest)))=(m,true,rest):=by
 obtain⟨n,k,v⟩:=m;simp only at hn hk hv |-;rw[<-aku hk];have hop:∃c r,opK k++(kY v++rest)=c::r/\bK c=false:=by
  rcases(show k=0\/k=1\/k=2\/k=3 by omega) with rfl|rfl|rfl|rfl<;>exact⟨_,_,rfl,by decide⟩
 obtain⟨c,r,e,hc⟩:=hop;have h1:=LA (p:=bK) n (opK k++(kY v++rest)) (arA hn) (λc' r' h=>by rw[e]at h;cases h;exact hc);unfold kF;rw[h1.1,h1.2];dsimp only;rw[aiZ hk v rest];dsimp only;rw[af4 v rest hv,hn]
 rfl
def VO:∀(M acc:List CM) (k:Nat) (rest:LB),(∀m∈M,aJ m.1=true/\m.2.1<=3/\m.2.2.length<=40)->acc.length+M.length<=4->M.length<k->aQ tq rest=false->wP k acc ((M.flatMap λm=>tq++(m.1++(jr m.2.1++kY m.2.2)))++rest)=(acc++M,true,rest)
 | [],acc,k,rest,_,_,f,d=>by obtain⟨j,rfl⟩:∃j,k=j+1:=⟨k-1,by simp at f;omega⟩;simp[wP,d]
 | m::M,acc,k,rest,g,i,f,d=>by
   rw[a0r]at i f;obtain⟨j,rfl⟩:∃j,k=j+1:=⟨k-1,by omega⟩;obtain⟨a,b,c⟩:=g m (by simp);have e:((m::M).flatMap λm=>tq++(m.1++(jr m.2.1++kY m.2.2)))++rest=tq++(m.1++(jr m.2.1++(kY m.2.2++((M.flatMap λm=>tq++(m.1++(jr m.2.1++kY m.2.2)))++rest)))):=by simp
   have n:aQ tq (tq++(m.1++(jr m.2.1++(kY m.2.2++((M.flatMap λm=>tq++(m.1++(jr m.2.1++kY m.2.2)))++rest)))))=true:=rfl;have l:aK tq (tq++(m.1++(jr m.2.1++(kY m.2.2++((M.flatMap λm=>tq++(m.1++(jr m.2.1++kY m.2.2)))++rest)))))=m.1++(jr m.2.1++(kY m.2.2++((M.flatMap λm=>tq++(m.1++(jr m.2.1++kY m.2.2)))++rest))):=rfl;rw[e,wP,n,l,af5 a b c];simp only[a0G,a2O,a3l];rw[a0n (by simp;omega),VO M (acc++[m]) j rest (λx h=>g x (by simp[h])) (by simp;omega) (by omega) d];simp
theorem ab7:∀(B acc:List LB) (k:Nat) (rest:LB),(∀n∈B,aJ n=true)->acc≠[]->acc.length+B.length<=4->B.length<k->(∀c r,rest=c::r->bK c=false/\c≠44)->uQ k acc ((B.flatMap λn=>44::n)++rest)=(acc++B,true,rest)
 | [],acc,k,rest,_,f,_,d,a=>by
   obtain⟨j,rfl⟩:∃j,k=j+1:=⟨k-1,by simp at d;omega⟩;have i:acc.isEmpty=false:=by cases acc with | nil=>exact absurd rfl f|cons=>rfl
   have g:aQ [44] rest=false:=by
    cases rest with
    | nil=>rfl
    | cons c r=>have:=(a c r rfl).2;simp[aQ,List.isPrefixOf];exact λh=>this h.symm
   simp[uQ,i,g]
 | n::B,acc,k,rest,m,f,s,d,a=>by
   rw[a0r]at s d;obtain⟨j,rfl⟩:∃j,k=j+1:=⟨k-1,by omega⟩;have i:acc.isEmpty=false:=by cases acc with | nil=>exact absurd rfl f|cons=>rfl
   have l:=m n (by simp);have e:((n::B).flatMap λn=>44::n)++rest=44::(n++((B.flatMap λn=>44::n)++rest)):=by simp
   have g:aQ [44] (44::(n++((B.flatMap λn=>44::n)++rest)))=true:=rfl;have t:aK [44] (44::(n++((B.flatMap λn=>44::n)++rest)))=n++((B.flatMap λn=>44::n)++rest):=rfl;have o:=LA (p:=bK) n ((B.flatMap λn=>44::n)++rest) (arA l) (λc r h=>by
    cases B with
    | nil=>exact(a c r (by simpa using h)).1
    | cons b B=>simp at h;rw[<-h.1];decide)
   rw[e,uQ,i,g];simp only[a1K,a2O,Bool.and_false,a0A,a0I];rw[t,o.1,o.2,l];simp only[a2O,a3l];rw[a0n (by simp;omega),ab7 B (acc++[n]) j rest (λx q=>m x (by simp[q])) (by simp) (by simp;omega) (by omega) a];simp
theorem af6 {b:LB} {B:List LB} {rest:LB}(e:∀n∈b::B,aJ n=true)(i:B.length<=3)(a:∀c r,rest=c::r->bK c=false/\c≠44):gL (b++((B.flatMap λn=>44::n)++rest))=(b::B,true,rest):=by
 have d:=e b (by simp);have f:=LA (p:=bK) b ((B.flatMap λn=>44::n)++rest) (arA d) (λc r h=>by
  cases B with
  | nil=>exact(a c r (by simpa using h)).1
  | cons b B=>simp at h;rw[<-h.1];decide)
 unfold gL;rw[uQ];simp only[List.isEmpty_nil,a2O,Bool.false_and,a0A,a0I,a0G,a1e];rw[f.1,f.2,d];simp only[a2O,a3l,show decide (4<=0)=false from rfl,a0A,a0I,a0V];rw[ab7 B [b] 5 rest (λx g=>e x (by simp[g])) (by simp) (by simp;omega) (by omega) a]
 rfl
def az(wd:LB)(n:Int):LB:=if n=-1 then [] else wd++Lib.itoa n
def TZ(m:CM):LB:=m.1++jr m.2.1++kY m.2.2
def qZ:List LB->LB
 | []=>[]
 | [x]=>x
 | x::y::r=>x++[44]++qZ (y::r)
def Br(L:List LB):LB:=if L.isEmpty then [45] else qZ L
def kBy:LB:=[32,98,121,32]
def NK(c:CR):LB:=if c.tb then kBy++Br c.jM else []
def nR(M:List CM):LB:=M.flatMap λm=>tq++TZ m
def uu(c:CR):LB:=List.replicate c.d 32++(lC++c.rc)++NK c++az qo c.wt++az pV c.ev++az rO c.rp++nR c.ifs++(if c.co then iq else [])
def sH(L:List LB):LB:=L.flatMap λn=>32::n
def zb(C:List CR):LB:=C.flatMap λc=>uu c++[10]
def wE(L:List LB)(C:List CR):LB:=mU++sH L++[10]++zb C
def Uu {d:Nat}(h:d<10):nG (UInt8.ofNat (48+d))=true/\(UInt8.ofNat (48+d)).toNat=48+d/\(UInt8.ofNat (48+d)=48↔d=0):=by
 have:∀d,d<10->nG (UInt8.ofNat (48+d))=true/\(UInt8.ofNat (48+d)).toNat=48+d/\(UInt8.ofNat (48+d)=48↔d=0):=by decide +kernel
 exact this d h
theorem ai0:∀(n:Nat),n<=99999->∀r,uP (Lib.decDigits n++r) 0=uP r n:=by
 intro n
 induction n using Nat.strongRecOn with
 | ind n c =>
   intro e r
   by_cases h:n<10
   .rw[Lib.decDigits,dif_pos h]
    obtain⟨a,b,_⟩:=Uu h;show uP (UInt8.ofNat (48+n)::r) 0=_;rw[uP,a0m a,b,a0n (by omega)]
    congr 1
    omega
   rw[Lib.decDigits,dif_neg h,a0M,c (n / 10) (by omega) (by omega)];obtain⟨a,b,_⟩:=Uu (d:=n % 10) (by omega);show uP (UInt8.ofNat (48+n % 10)::r) (n / 10)=_;rw[uP,a0m a,b,a0n (by omega)]
   congr 1
   omega
def ai1:∀(n:Nat),∃c t,Lib.decDigits n=c::t/\nG c=true/\(1<=n->c≠48):=by
 intro n
 induction n using Nat.strongRecOn with
 | ind n f =>
   by_cases h:n<10
   .obtain⟨a,b,c⟩:=Uu h
    refine⟨_,[],by rw[Lib.decDigits,dif_pos h],a,λd e=>?_⟩;have:=c.1 e;omega
   obtain⟨c,t,e,d,g⟩:=f (n / 10) (by omega);exact⟨c,t++[UInt8.ofNat (48+n % 10)],by rw[Lib.decDigits,dif_neg h,e];rfl,d,λ_=>g (by omega)⟩
theorem aia(a:∀c q,r=c::q->nG c=false)(n:Nat):uP r n=(n,true,r):=by
 cases r with
 | nil=>rfl
 | cons c q=>rw[uP,a0n (by rw[a c q rfl];simp)]
theorem aib {n:Nat}(b:n<=99999)(a:∀c q,r=c::q->nG c=false):lI (Lib.decDigits n++r)=(n,true,r):=by
 unfold lI
 by_cases j:n=0
 .subst j
  have e:Lib.decDigits 0=[48]:=by rw[Lib.decDigits,dif_pos (by omega)];rfl
  rw[e]
  rfl
 obtain⟨c,t,e,i,g⟩:=ai1 n;have f:aQ [48] (Lib.decDigits n++r)=false:=by rw[e];simp only[aQ,a0L,List.isPrefixOf,a2x];rw[a0j];exact λh=>g (by omega) h.symm
 have d:lW (hd (Lib.decDigits n++r))=true:=by rw[e];exact i
 rw[f,d];simp only[a0A,a0I,a2O];rw[ai0 n b,aia a]
theorem arz(wd r:LB):aQ wd (wd++r)=true/\aK wd (wd++r)=r:=by have h:wd.isPrefixOf (wd++r)=true:=a2y.2 (a1t _ _);exact⟨h,by unfold aK;rw[a0m h];simp⟩
def Bl(r:LB):Prop:=∀c q,r=c::q->c=32
theorem Bl.dig(h:Bl r):∀c q,r=c::q->nG c=false:=λc q e=>by rw[h c q e];decide
def Je {wd:LB} {n:Int}(c:-1<=n/\n<=99999)(b:Bl r)(a:aQ wd r=false):bZ wd (az wd n++r)=(n,true,r):=by
 unfold bZ az
 by_cases h:n=-1
 .rw[a0m h,a0V,a,h]
  rfl
 rw[a0n h,a0M,(arz wd _).1,a0m rfl,(arz wd _).2];have e:Lib.itoa n=Lib.decDigits n.toNat:=by unfold Lib.itoa;rw[a0n (by omega)]
 rw[e,aib (by omega) b.dig];simp only
 congr 1
 omega
def Dw {wd:LB}(a:∃q,wd=32::q)(n:Int)(b:Bl r):Bl (az wd n++r):=by
 obtain⟨q,rfl⟩:=a;intro c p e;unfold az at e
 split at e
 .exact b c p e
 simp at e;exact e.1.symm
def Nh(x:UInt8)(r:LB):Prop:=∀c d q,r=c::d::q->d≠x
theorem Nh.take(h:Nh x r)(w:LB):aQ (32::x::w) r=false:=by
 unfold aQ
 match r,h with
 | [],_=>rfl
 | [c],_=>simp[List.isPrefixOf]
 | c::d::q,h =>
   have:=h c d q rfl;simp only[List.isPrefixOf];have e:(x==d)=false:=by rw[a0j];exact λe=>this e.symm
   rw[e];simp
def Eo{y:UInt8}(b:y≠x) {w:LB}(n:Int)(a:Nh x r):Nh x (az (32::y::w) n++r):=by
 intro c d q e;unfold az at e
 split at e
 .exact a c d q e
 simp at e;rw[<-e.2.1];exact b
def akZ(a:(105:UInt8)≠x)(M:List CM)(b:Nh x r):Nh x (nR M++r):=by
 cases M with
 | nil=>exact b
 | cons m M=>intro c d q e;simp[nR,tq]at e;rw[<-e.2.1];exact a
def anJ(a:(99:UInt8)≠x)(co:Bool):Nh x (if co then iq else []):=by
 intro c d q e;cases co
 .simp at e
 simp[iq]at e;rw[<-e.2.1];exact a
def ak0(M:List CM)(a:Bl r):Bl (nR M++r):=by
 cases M with
 | nil=>exact a
 | cons m M=>intro c q e;simp[nR,tq]at e;exact e.1.symm
def anK(co:Bool):Bl (if co then iq else []):=by
 intro c q e;cases co
 .simp at e
 simp[iq]at e;exact e.1.symm
theorem ab8:∀(L acc:List LB),Asc (acc++L)->L.foldl oH acc=acc++L
 | [],acc,_=>by simp
 | n::L,acc,h=>by
   have g:=List.pairwise_append.1 h;have b:∀x∈acc,x<n:=λx a=>g.2.2 x a n (by simp)
   have d:acc.contains n=false:=by rw[<-Bool.not_eq_true,List.contains_iff_mem];exact λc=>List.lt_irrefl _ (b n c)
   simp only[a1R];have e:oH acc n=acc++[n]:=by unfold oH;rw[d,a0n (by simp),akB,adR n acc (λx a f=>List.lt_irrefl _ (List.lt_trans f (b x a)))]
   rw[e,ab8 L (acc++[n]) (by simpa using h)];simp
theorem NT:∀(b:LB) (B:List LB),qZ (b::B)=b++B.flatMap λn=>44::n
 | b,[]=>by simp[qZ]
 | b,c::B=>by show b++[44]++qZ (c::B)=_;rw[NT c B];simp
def aic {c:CR}(a:∀n∈c.jM,aJ n=true)(g:c.jM.length<=4)(h:Asc c.jM)(ht:c.tb=false->c.jM=[])(k:Bl r)(hb:Nh 98 r):lK (NK c++r)=⟨c.tb,c.jM,true,r⟩:=by
 unfold NK lK;cases i:c.tb
 .simp only[a0A,a0I,a0V]
  rw[hb.take [121,32],ht i]
  rfl
 simp only[a0G];rw[a0M,show([32,98,121,32]:LB)=kBy from rfl,(arz kBy _).1,a0m rfl,(arz kBy _).2];cases j:c.jM with
 | nil=>show(if aQ [45] ([45]++r) then _ else _)=_;rw[(arz [45] r).1,a0m rfl];rw[show Br []++r=[45]++r from rfl,(arz [45] r).2]
 | cons b B =>
   rw[j]at a g h;have e:Br (b::B)++r=b++((B.flatMap λn=>44::n)++r):=by show qZ (b::B)++r=_;rw[NT];simp
   have d:aQ [45] (b++((B.flatMap λn=>44::n)++r))=false:=by
    have hb:=a b (by simp);cases b with
    | nil=>simp[aJ]at hb
    | cons f q =>
      have:=arA hb;rw[a1P,a0O]at this;unfold aQ;simp only[a0L,List.isPrefixOf];have l:(45==f)=false:=by
       rw[a0j];rintro rfl;have:=this.1
       revert this
       decide
      rw[l];rfl
   rw[e,d];simp only[a0A,a0I];rw[af6 a (by simp at g;omega) (λf q m=>by rw[k f q m];decide)];simp only;have:=ab8 (b::B) [] (by simpa using h);unfold DV;rw[this];simp
def acj {a b d:Int}(f:-1<=a/\a<=99999)(hb:-1<=b/\b<=99999)(hd:-1<=d/\d<=99999)(c:Bl r)(i:Nh 119 r)(h:Nh 101 r)(g:Nh 114 r):dN (az qo a++(az pV b++(az rO d++r)))=⟨a,b,d,true,r⟩:=by
 have e:Bl (az rO d++r):=Dw ⟨_,rfl⟩ d c;have b2:Bl (az pV b++(az rO d++r)):=Dw ⟨_,rfl⟩ b e;have l:bZ qo (az qo a++(az pV b++(az rO d++r)))=(a,true,az pV b++(az rO d++r)):=Je f b2 (Nh.take (Eo (by decide) b (Eo (by decide) d i)) _);have k:bZ pV (az pV b++(az rO d++r))=(b,true,az rO d++r):=Je hb e (Nh.take (Eo (by decide) d h) _);have j:bZ rO (az rO d++r)=(d,true,r):=Je hd c (Nh.take g _);unfold dN;rw[l];dsimp only;rw[k];dsimp only;rw[j]
 rfl
theorem ab9(b:LB)(hb:∀c r,b=c::r->c≠32)(a:b≠[]):∀d,bO (List.replicate d 32++b)=(d,b)
 | 0=>by
   cases b with
   | nil=>exact absurd rfl a
   | cons c r=>have:=hb c r rfl;simp[bO,this]
 | d+1=>by rw[List.replicate_succ,a0L,bO,ab9 b hb a d];simp
def ack {c:CR}(a:xN c)(o:Asc c.jM)(ht:c.tb=false->c.jM=[]):gM (uu c)=some c:=by
 have e:uu c=List.replicate c.d 32++(lC++(c.rc++(NK c++(az qo c.wt++(az pV c.ev++(az rO c.rp++(nR c.ifs++(if c.co then iq else [])))))))):=by unfold uu;simp only[a0M]
 have hd:bO (uu c)=(c.d,lC++(c.rc++(NK c++(az qo c.wt++(az pV c.ev++(az rO c.rp++(nR c.ifs++(if c.co then iq else [])))))))):=by rw[e];exact ab9 _ (λx r h=>by simp[lC]at h;rw[<-h.1];decide) (by simp[lC]) c.d
 have b:Bl (nR c.ifs++(if c.co then iq else [])):=ak0 _ (anK _);have f:∀x:UInt8,(105:UInt8)≠x->(99:UInt8)≠x->Nh x (nR c.ifs++(if c.co then iq else [])):=λx t s=>akZ t _ (anJ s _)
 have l:Bl (az qo c.wt++(az pV c.ev++(az rO c.rp++(nR c.ifs++(if c.co then iq else []))))):=Dw ⟨_,rfl⟩ _ (Dw ⟨_,rfl⟩ _ (Dw ⟨_,rfl⟩ _ b));have i:Nh 98 (az qo c.wt++(az pV c.ev++(az rO c.rp++(nR c.ifs++(if c.co then iq else []))))):=Eo (by decide) _ (Eo (by decide) _ (Eo (by decide) _ (f 98 (by decide) (by decide))));have v:Bl (NK c++(az qo c.wt++(az pV c.ev++(az rO c.rp++(nR c.ifs++(if c.co then iq else [])))))):=by
  unfold NK
  split
  .intro x q h;simp[kBy]at h;exact h.1.symm
  exact l
 have k:srA (uu c)=(c.rc,true,NK c++(az qo c.wt++(az pV c.ev++(az rO c.rp++(nR c.ifs++(if c.co then iq else [])))))):=by
  unfold srA;rw[hd];dsimp only;rw[(arz lC _).2];rcases a.rc with h|h
  .rw[h]
   unfold eZ;rw[(arz [45] _).1,a0m rfl,(arz [45] _).2]
  exact afP h (λx q u=>by rw[v x q u];decide)
 have j:Mo (uu c)=⟨c.tb,c.jM,true,az qo c.wt++(az pV c.ev++(az rO c.rp++(nR c.ifs++(if c.co then iq else []))))⟩:=by unfold Mo;rw[k];exact aic a.jM a.byl o ht l i
 have hC:Ym (uu c)=⟨c.wt,c.ev,c.rp,true,nR c.ifs++(if c.co then iq else [])⟩:=by unfold Ym;rw[j];exact acj a.wt a.ev a.rp b (f _ (by decide) (by decide)) (f _ (by decide) (by decide)) (f _ (by decide) (by decide))
 have p:Ut (uu c)=(c.ifs,true,if c.co then iq else []):=by
  unfold Ut;rw[hC];dsimp only;have:=VO c.ifs [] 6 (if c.co then iq else []) (λm g=>⟨(a.ifs m g).name,(a.ifs m g).kind,(a.ifs m g).val⟩) (by simpa using a.ifl) (by have:=a.ifl;omega) (by cases c.co<;>rfl);rw[a0V]at this;unfold mo;rw[<-this]
  congr 2
  unfold nR TZ;simp only[a0M]
 have n:aQ lC (bO (uu c)).2=true:=by rw[hd];exact(arz lC _).1
 rw[aat,n,k,j,hC,p,hd];obtain⟨d,rc,tb,jM,wt,ev,rp,ifs,co⟩:=c;cases co<;>rfl
theorem V8:∀(L acc:List LB) (k:Nat),(∀n∈L,aJ n=true)->acc.length+L.length<=8->L.length<k->0<acc.length+L.length->DW k acc (L.flatMap λn=>32::n)=some (acc++L)
 | [],acc,k,_,_,a,i=>by
   obtain⟨j,rfl⟩:∃j,k=j+1:=⟨k-1,by simp at a;omega⟩;have:aQ [32] ([]:LB)=false:=rfl;have o:0<acc.length:=by simpa using i
   simp[DW,this,o]
 | n::L,acc,k,f,m,a,i=>by
   rw[a0r]at m a;obtain⟨j,rfl⟩:∃j,k=j+1:=⟨k-1,by omega⟩;have d:=f n (by simp);have e:((n::L).flatMap λn=>32::n)=[32]++(n++L.flatMap λn=>32::n):=by simp
   have g:=LA (p:=bK) n (L.flatMap λn=>32::n) (arA d) (λc r h=>by
    cases L with
    | nil=>simp at h
    | cons b B=>simp at h;rw[<-h.1];decide)
   rw[e,DW,(arz [32] _).1,(arz [32] _).2,a0m rfl];dsimp only;rw[g.1,g.2,d];simp only[a2O,a3l];rw[a0n (by simp;omega),V8 L (acc++[n]) j (λx l=>f x (by simp[l])) (by simp;omega) (by omega) (by simp;omega)];simp
def acB(b:∀n∈L,aJ n=true)(a:L.length<=8)(c:L≠[]):iW (mU++sH L)=some L:=by
 unfold iW sH;rw[(arz mU _).1,(arz mU _).2,a0m rfl,V8 L [] 10 b (by simpa using a) (by omega) (by have:=a1O.2 c;simp;omega)]
 rfl
def Jf(h:aJ n=true):(10:UInt8)∉n:=by
 intro a;have:=a1d.1 (arA h) 10 a
 revert this;decide
def ak1(n:Nat):(10:UInt8)∉Lib.decDigits n:=by
 induction n using Nat.strongRecOn with
 | ind n b =>
   have hd:∀d,d<10->(10:UInt8)≠UInt8.ofNat (48+d):=by decide +kernel
   rw[Lib.decDigits]
   split
   .rename_i h
    intro a;exact hd n h (a0w.1 a)
   intro a;rcases a0e.1 a with h|h
   .exact b (n / 10) (by omega) h
   exact hd (n % 10) (by omega) (a0w.1 h)
def acb {wd:LB}(a:(10:UInt8)∉wd) {n:Int}(c:-1<=n):(10:UInt8)∉az wd n:=by
 unfold az
 split
 .simp
 have e:Lib.itoa n=Lib.decDigits n.toNat:=by unfold Lib.itoa;rw[a0n (by omega)]
 rw[e];intro b;rcases a0e.1 b with h|h
 .exact a h
 exact ak1 _ h
def akv(k:Nat):(10:UInt8)∉jr k:=by
 unfold jr
 split
 .decide
 split
 .decide
 split<;>decide
def ak3 {c:CR}(a:xN c):(10:UInt8)∉uu c:=by
 have g:(10:UInt8)∉c.rc:=by
  rcases a.rc with h|h
  .rw[h];decide
  exact Jf h
 have f:(10:UInt8)∉NK c:=by
  unfold NK
  split
  .intro d
   rcases a0e.1 d with h|h
   .revert h;decide
   unfold Br at h
   split at h
   .revert h;decide
   have key:∀B:List LB,(∀n∈B,aJ n=true)->(10:UInt8)∉qZ B:=by
    intro B;cases B with
    | nil=>intro _;simp[qZ]
    | cons b B=>intro e;rw[NT];simp only[a0e,a1l,a0l,not_or,not_exists,not_and];exact⟨Jf (e b (by simp)),λn i=>⟨by decide,Jf (e n (by simp[i]))⟩⟩
   exact key _ a.jM h
  simp
 have j:(10:UInt8)∉nR c.ifs:=by unfold nR TZ;simp only[a1l,a0e,not_exists,not_and,not_or];intro m d;exact⟨by decide,⟨Jf (a.ifs m d).name,akv _⟩,ah9 _⟩
 unfold uu;simp only[a0e,not_or];refine⟨⟨⟨⟨⟨⟨⟨?_,by decide,g⟩,f⟩,acb (by decide) a.wt.1⟩,acb (by decide) a.ev.1⟩,acb (by decide) a.rp.1⟩,j⟩,?_⟩
 .intro d
  have:=List.eq_of_mem_replicate d
  revert this;decide
 cases c.co
 .simp
 decide
def ai2 {c:CR}(h:Xp l=some c):c.tb=false->c.jM=[]:=by
 obtain⟨_,_,_,_,_,_,rfl⟩:=ae8 _ _ h;intro ht;show(Mo _).names=[];have a:(Mo l.dropLast).tells=false:=ht;unfold Mo lK at a |-
 split at a
 .dsimp only at a
  split at a<;>cases a
 rename_i b;rw[a0n b]
def af7(h:∀c∈C,gM (uu c)=some c):(C.map λc=>uu c++[10]).mapM Xp=some C:=by
 induction C with
 | nil=>rfl
 | cons c r a =>
   rw[a0E,I9];have:Xp (uu c++[10])=some c:=by unfold Xp;rw[List.dropLast_concat];exact h c (by simp)
   rw[this,a (λx b=>h x (by simp[b]))]
def aee:∀(k:Nat) (acc:List LB) (l:LB) (L:List LB),DW k acc l=some L->L≠[]
 | 0,acc,l,L,h=>by simp[DW]at h
 | k+1,acc,l,L,h=>by
   unfold DW at h
   split at h
   .dsimp only at h
    split at h
    .cases h
    exact aee k _ _ L h
   split at h
   .rename_i a
    cases h
    simp at a;exact a1O.1 a.1
   cases h
def aeN(ht:t.length<=1048576)(h:jH t=.ok (L,C))(e:(wE L C).length<=1200):jH (wE L C)=.ok (L,C):=by
 obtain⟨c1,c2,c3,c4⟩:=pI h;obtain⟨g,p,f⟩:=qT t L C ht c1;obtain⟨_,s,ls,u,b,q⟩:=(Ni t L C).1 c1;have hC:∀c∈C,gM (uu c)=some c:=λc a=>by obtain⟨l,_,e⟩:=mapM_mem Xp ls C q c a;exact ack (f c a) (akt e) (ai2 e)
 have r:L≠[]:=by
  unfold iW at b
  split at b
  .exact aee _ _ _ _ b
  cases b
 have i:wE L C=((mU++sH L++[10])::C.map λc=>uu c++[10]).flatten:=by unfold wE zb;rw[List.flatten_cons,List.flatMap_def]
 have k:(10:UInt8)∉mU++sH L:=by unfold sH;simp only[a0e,a1l,a0l,not_or,not_exists,not_and];exact⟨by decide,λn o=>⟨by decide,Jf (g n o)⟩⟩
 have j:aec (wE L C)=(mU++sH L++[10])::C.map λc=>uu c++[10]:=by
  rw[i];refine aed _ (λl d=>?_);rcases a0l.1 d with rfl|d
  .exact⟨_,rfl,k⟩
  obtain⟨c,a,rfl⟩:=a0q.1 d;exact⟨_,rfl,ak3 (f c a)⟩
 have m:oV (wE L C)=.ok (L,C) :=
  (Ni _ _ _).2 ⟨by rw[j,<-i],_,_,j,by rw[List.dropLast_concat];exact acB g p r,af7 hC⟩
 unfold jH at h |-;rw[c1]at h;rw[a0n (by omega),m]
 split at h
 .cases h
 exact h
def Nq(n:Int)(w:World)(c:0<=n)(b:n<=15) :
 zF 114 #[.int .u8 n] w λe w'=>e=zR (.int .u8 (sG n.toNat).toNat)/\w=w':=by
 by_cases h:n<10
 have a:Z_ ((sG n.toNat).toNat=(48+n).toNat):=by show _=_;unfold sG;rw[a0m (by omega)];simp;omega
 rotate_left
 have a:Z_ ((sG n.toNat).toNat=(87+n).toNat):=by show _=_;unfold sG;rw[a0n (by omega)];simp;omega
 all_goals
  delta zF;go_in
  go_wp2;go_ret;exact⟨mJ (by rw[a.o];omega),rfl⟩
def acd(k:Nat)(w:World)(a:k<=3) :
 zF 78 #[zI k] w λe w'=>e=zR (zT (jr k))/\w=w':=by
 rcases(show k=0\/k=1\/k=2\/k=3 by omega) with rfl|rfl|rfl|rfl
 all_goals
  delta zF;go_in
  go_wp2;go_ret;exact⟨rfl,rfl⟩
def Jg {ops:Array Oper} {rest:List Oper} {o:Oper} {a:Act} {Q:Exit->Act->World->Prop}(w:World)(i:o.guard=none)(s x:Operand)
 (ho:o.op=.call { callee:=.builtin .append,args:=#[s,x],argTypes:=#[91,91] })
 (base:Nat) (v:Value) (L:LB) (m:LB) (b1:Nat) (l:a.eval s=v) (A:w.ownsRow base 5 1 v L.length (tT L)) (b:a.eval x=zS b1 m.length m.length)
 (q:w.heap[b1]?=some (.cells (tT m).toArray 5 (0,0))) (C:0<m.length) (hlen:L.length+m.length<=1048576) (f:base<=w.heap.size)
 (h:∀g cap w',w'.ownsRow base 5 1 (zS g (L.length+m.length) cap) (L.length+m.length) (tT (L++m))->w.grownBy w' v.ownBlock->base<=g->wpList Tryz.prog ops Q rest (a.put o.dst (zS g (L.length+m.length) cap)) w') :
 wpList Tryz.prog ops Q (o::rest) a w:=by
 obtain⟨k,p,gT,z,y⟩:=info_parts ak6;refine wpList_append_own w i s x 91 ho base 5 k (.int .u8 0) 1 1 Tryz.underlying91 p gT z y rfl (by decide) v L.length (tT L) l A (zA b1) m.length m.length (tT m) b (by simp[tT]) ?_ (λx b=>by simp[tT]at b;obtain⟨c,_,rfl⟩:=b;rfl) (by unfold maxLen;omega) (by omega) f ?_
 .intro j u n
  rw[add0];simp[World.cell?,q,n]
 intro B w' d t r;obtain⟨g,cap,rfl⟩:=Uz d (λe=>by have:=(r.1 e).2;omega);exact h g cap w' (by simpa[tT] using d) t (d.lt g rfl).1
def XA(v:LB)(w:World)(hv:v.length<=40) :
 zF 79 #[zT v] w λe w'=>e=zR (zT (kY v))/\aB [] w w':=by
 have V:=bL v;delta zF;go_in
 go_wp2_with fail
 go_loopg [3,4] v.length (λk vt O wr=>∃(j:Nat) (g cap:Nat) (acc:LB),j+k=v.length/\O=zI j/\acc=[34]++(v.take j).flatMap lv/\vt=zS g acc.length cap/\wr.ownsRow w.heap.size 5 1 vt acc.length (tT acc)/\aB [] w wr)
 exact⟨0,w.heap.size,1,[34],by omega,rfl,by simp,rfl,World.ownsRow_lit w #[.int .u8 34] 1 (a0b _) (by unfold maxLen;omega) (by simp),zJ⟩
 .obtain⟨j,g,cap,acc,L,rfl,p,rfl,F,B⟩:=hrel;have G:Z_ (acc=[34]++(v.take j).flatMap lv):=p;have r:Z_ (wr.ownsRow w.heap.size 5 1 (zS g acc.length cap) acc.length (tT acc)):=F;have s:Z_ (aB [] w wr):=B;have hz:=B.size;have ja:acc.length<=1+4*40:=by rw[p];have:=I1 (v.take j);simp at this |-;omega
  have TA:=(F.lt g rfl).1;clear p F B
  by_cases Z:j<v.length
  .have Y:(bs v)[j]'(by rw[V];omega)=v[j]:=rfl
   have M:Z_ (v.take (j+1)=v.take j++[v[j]]):=a0F Z;generalize v[j]=c at *;have hu:=u8i c;have q:Z_ (∀m,lv c=m->acc++m=[34]++(v.take (j+1)).flatMap lv):=by intro m T;rw[M.o,G.o,<-T];simp
   clear G M;cases u:mR c.toNat
   .have hq:Z_ (lv c=[92,120,sG (c.toNat / 16),sG (c.toNat % 16)]):=by show _=_;unfold lv;rw[u];rfl
    go_wp2_with fail
    refine(Ba _ _).mono ?_;rintro e w' ⟨rfl,rfl⟩;go_wp2_with fail
    refine(Nq _ _ (by omega) (by omega)).mono ?_;rintro e w' ⟨rfl,rfl⟩;rw[show((c.toNat:Int) / 16).toNat=c.toNat / 16 by omega];go_wp2_with fail
    refine(Nq _ _ (by omega) (by omega)).mono ?_;rintro e w' ⟨rfl,rfl⟩;rw[show((c.toNat:Int) % 16).toNat=c.toNat % 16 by omega];generalize sG (c.toNat / 16)=I at *;generalize sG (c.toNat % 16)=H at *;go_wp2_with (first | (at_builtin;refine Jg _ rfl _ _ rfl w.heap.size (zS g (acc).length cap) (acc) [92,120,I,H] wr.heap.size rfl (by exact fG (S:=[]) r.o zJ (by simp)) rfl (by exact bD _ _) (by simp) (by simp;omega) (by simp;omega) ?_;intro d f b i n t))
    go_roundg (gk-1)
    .refine⟨j+1,d,f,acc++[92,120,I,H],by omega,by go_num,q.o _ hq,by simp,by simpa using i,?_⟩;exact(s.o.alloc _).YN (base:=0) n (λk l=>by simp[Value.ownBlock]at l;omega)
    omega
   by_cases a:(c==34||c==92)=true
   .have hq:Z_ (lv c=[92,c]):=by show _=_;unfold lv;rw[u];simp only[a2O,a0A,a0I,a,a0G]
    have x:((c.toNat:Int)==34)=true\/(((c.toNat:Int)==34)=false/\((c.toNat:Int)==92)=true):=by
     rw[a1a,a0W,a0W]at a;rcases a with rfl|rfl
     .exact Or.inl rfl
     exact Or.inr ⟨rfl,rfl⟩
    clear a;rcases x with J|⟨J,R⟩
    all_goals
     go_wp2_with (first | (go_at_call 113;refine(Ba _ _).mono ?_;rintro e w' ⟨rfl,rfl⟩)|(at_builtin;refine Jg _ rfl _ _ rfl w.heap.size (zS d (acc.length+1) f) (acc++[92]) [c] b.heap.size rfl (by exact fG (S:=[]) (w:=b) (by simpa using i) zJ (by simp)) rfl (by exact bD _ _) (by simp) (by simp;omega) (by simp;omega) ?_;intro A E N D C X)|(at_builtin;refine Jg _ rfl _ _ rfl w.heap.size (zS g (acc).length cap) (acc) [92] wr.heap.size rfl (by exact fG (S:=[]) r.o zJ (by simp)) rfl (by exact bD _ _) (by simp) (by simp;omega) (by simp;omega) ?_;intro d f b i n t);have U:=n.size;simp at U)
     go_roundg (gk-1)
     .refine⟨j+1,A,E,acc++[92,c],by omega,by go_num,q.o _ hq,by simp,by simpa using D,?_⟩;exact(((s.o.alloc _).YN (base:=0) n (λk l=>by simp[Value.ownBlock]at l;omega)).alloc _).YN (base:=0) C (λk l=>by simp[Value.ownBlock]at l;omega)
     omega
   have hq:Z_ (lv c=[c]):=by show _=_;unfold lv;rw[u];simp only[a2O,a0A,a0I,a]
   have J:((c.toNat:Int)==34)=false:=by rw[a0j];intro h;have:c=34:=a1w.1 (by simpa using(a2N.1 h));subst this;simp at a
   have R:((c.toNat:Int)==92)=false:=by rw[a0j];intro h;have:c=92:=a1w.1 (by simpa using(a2N.1 h));subst this;simp at a
   clear a;go_wp2_with (first | (go_at_call 113;refine(Ba _ _).mono ?_;rintro e w' ⟨rfl,rfl⟩)|(at_builtin;refine Jg _ rfl _ _ rfl w.heap.size (zS g (acc).length cap) (acc) [c] wr.heap.size rfl (by exact fG (S:=[]) r.o zJ (by simp)) rfl (by exact bD _ _) (by simp) (by simp;omega) (by simp;omega) ?_;intro d f b i n t))
   go_roundg (gk-1)
   .refine⟨j+1,d,f,acc++[c],by omega,by go_num,q.o _ hq,by simp,by simpa using i,?_⟩;exact(s.o.alloc _).YN (base:=0) n (λk l=>by simp[Value.ownBlock]at l;omega)
   omega
  have hq:Z_ (kY v=acc++[34]):=by show _=_;rw[G.o,a0C (by omega)];rfl
  have z:∀d f b,b.ownsRow w.heap.size 5 1 (zS d (acc.length+1) f) (acc.length+1) (tT (acc++[34]))->(convert 91 9 (zS d (acc.length+1) f)).run Tryz.prog b=.ok (zT (acc++[34])) b:=by
   intro d f b i;have:=run_convert_bytes_back (P:=Tryz.prog) b 91 9 5 (zA d) f (acc++[34]) Tryz.underlying91 Tryz.underlying5 Tryz.underlying9 (λj L=>by refine i.cells rfl j _ ?_;unfold tT;rw[a0Q,a0a L];rfl)
   have y:(acc++[34]).length=acc.length+1:=by simp
   rw[y]at this;exact this
  go_wp2_with (first | (at_builtin;refine Jg _ rfl _ _ rfl w.heap.size (zS g (acc).length cap) (acc) [34] wr.heap.size rfl (by exact fG (S:=[]) r.o zJ (by simp)) rfl (by exact bD _ _) (by simp) (by simp;omega) (by simp;omega) ?_;intro d f b i n t);have W:=z _ _ _ (by simpa using i))
  go_ret;rw[hq.o];exact⟨rfl,(s.o.alloc _).YN (base:=0) n (λk l=>by simp[Value.ownBlock]at l;omega)⟩
end
end Go.Proofs.YtedmellodofajaaGreatDoor
namespace Go.Proofs
open Go.Shelf
def Tryz.laysM171_ren:Go.Shelf.Ren:=⟨λ|171=>77|243=>112|246=>138|283=>151|284=>152|285=>153|286=>154|129=>165|317=>164|318=>166|319=>167|320=>168|337=>178|338=>179|n=>n,λ|3=>3|9=>9|2=>2|4=>4|171=>252|0=>0|53=>253|37=>91|5=>5|173=>256|212=>278|51=>279|20=>20|213=>280|46=>281|232=>290|233=>291|n=>n,λ|17=>0|18=>1|19=>2|n=>n⟩
def Tryz.laysM171:Go.Proofs.LaysM.n171 Tryz.prog Tryz.laysM171_ren:={
 mixed:=by kernel_rfl
 f129:=Tryz.func165.trans (congrArg some (by kernel_rfl))
 f171:=Tryz.func77.trans (congrArg some (by kernel_rfl))
 f243:=Tryz.func112.trans (congrArg some (by kernel_rfl))
 f246:=Tryz.func138.trans (congrArg some (by kernel_rfl))
 f283:=Tryz.func151.trans (congrArg some (by kernel_rfl))
 f284:=Tryz.func152.trans (congrArg some (by kernel_rfl))
 f285:=Tryz.func153.trans (congrArg some (by kernel_rfl))
 f286:=Tryz.func154.trans (congrArg some (by kernel_rfl))
 f317:=Tryz.func164.trans (congrArg some (by kernel_rfl))
 f318:=Tryz.func166.trans (congrArg some (by kernel_rfl))
 f319:=Tryz.func167.trans (congrArg some (by kernel_rfl))
 f320:=Tryz.func168.trans (congrArg some (by kernel_rfl))
 f337:=Tryz.func178.trans (congrArg some (by kernel_rfl))
 f338:=Tryz.func179.trans (congrArg some (by kernel_rfl))
 t0:=Tryz.underlying0
 a0:=Tryz.isAgg0
 z0:=Tryz.sizeOf0
 v0:=Tryz.zeroValue0
 t2:=Tryz.underlying2
 a2:=Tryz.isAgg2
 z2:=Tryz.sizeOf2
 v2:=Tryz.zeroValue2
 t3:=Tryz.underlying3
 a3:=Tryz.isAgg3
 z3:=Tryz.sizeOf3
 v3:=Tryz.zeroValue3
 t4:=Tryz.underlying4
 a4:=Tryz.isAgg4
 z4:=Tryz.sizeOf4
 v4:=Tryz.zeroValue4
 t5:=Tryz.underlying5
 a5:=Tryz.isAgg5
 z5:=Tryz.sizeOf5
 v5:=Tryz.zeroValue5
 t9:=Tryz.underlying9
 a9:=Tryz.isAgg9
 z9:=Tryz.sizeOf9
 v9:=Tryz.zeroValue9
 t20:=Tryz.underlying20
 a20:=Tryz.isAgg20
 z20:=Tryz.sizeOf20
 v20:=Tryz.zeroValue20
 t37:=Tryz.underlying91
 a37:=Tryz.isAgg91
 z37:=Tryz.sizeOf91
 v37:=Tryz.zeroValue91
 t46:=Tryz.underlying281
 a46:=Tryz.isAgg281
 z46:=Tryz.sizeOf281
 v46:=Tryz.zeroValue281
 t51:=Tryz.underlying279
 a51:=Tryz.isAgg279
 z51:=Tryz.sizeOf279
 v51:=Tryz.zeroValue279
 t53:=Tryz.underlying253
 a53:=Tryz.isAgg253
 z53:=Tryz.sizeOf253
 v53:=Tryz.zeroValue253
 t171:=Tryz.underlying252
 a171:=Tryz.isAgg252
 z171:=Tryz.sizeOf252
 v171:=Tryz.zeroValue252
 t173:=Tryz.underlying256
 a173:=Tryz.isAgg256
 z173:=Tryz.sizeOf256
 v173:=Tryz.zeroValue256
 t212:=Tryz.underlying278
 a212:=Tryz.isAgg278
 z212:=Tryz.sizeOf278
 v212:=Tryz.zeroValue278
 t213:=Tryz.underlying280
 a213:=Tryz.isAgg280
 z213:=Tryz.sizeOf280
 t232:=Tryz.underlying290
 a232:=Tryz.isAgg290
 z232:=Tryz.sizeOf290
 v232:=Tryz.zeroValue290
 t233:=Tryz.underlying291
 a233:=Tryz.isAgg291
 z233:=Tryz.sizeOf291
 v233:=Tryz.zeroValue291
 g17:=by kernel_rfl
 g18:=by kernel_rfl
 g19:=by kernel_rfl
 i0:=by kernel_rfl
 i2:=by kernel_rfl
 i3:=by kernel_rfl
 i4:=by kernel_rfl
 i5:=by kernel_rfl
 i9:=by kernel_rfl
 i20:=by kernel_rfl
 i37:=by kernel_rfl
 i46:=by kernel_rfl
 i51:=by kernel_rfl
 i53:=by kernel_rfl
 i171:=by kernel_rfl
 i173:=by kernel_rfl
 i212:=by kernel_rfl
 i232:=by kernel_rfl
 i233:=by kernel_rfl
 m17:=by kernel_rfl
 m18:=by kernel_rfl
 m19:=by kernel_rfl }
open Go.RowKit Go.Sort Go.Lib in
theorem Tryz.strconv_Itoa (n : Int) (h0 : -9223372036854775808 ≤ n) (h1 : n ≤ 9223372036854775807) (w : World) (htab : Lib.TabIs Tryz.prog w "internal/strconv.uint64pow10" .u64 Lib.pow10Tab) :
 Calls Tryz.prog 77 #[.int .i64 n] w λe w'=>e=.returned (.string ⟨(Lib.itoa n).toArray⟩)/\∃k os,w'=grow (w.drewN k) os:=Any.strconv_Itoa Tryz.laysM171 n h0 h1 w htab
end Go.Proofs
namespace Go.Proofs.YtedmellodofajaaGreatDoor
open Go.RowKit
def Ua (w : World) : Prop := Lib.TabIs Tryz.prog w "internal/strconv.uint64pow10" .u64 Lib.pow10Tab
def amj : Tryz.prog.globalNamed "internal/strconv.uint64pow10" = some 0 := by kernel_rfl
theorem Ua.aC{S:LN}{w w':World}(h:Ua w)(f:aB S w w')(a:0∉S):Ua w':=by have b:0<w.heap.size:=World.block_lt_of_cell? w _ (h.cell amj 0 (by decide));unfold Ua Lib.TabIs at *;rw[<-h];simp only[World.var?,amj,Option.bind_some,f.block 0 b a]
def aB.ai4{w:World}(k:Nat)(os:Array Obj):aB [] w (Sort.grow (w.drewN k) os) :=
 ⟨rfl,rfl,rfl,by rw[Sort.size_grow];show w.heap.size<=w.heap.size+os.size;omega,λi a _=>Sort.heap_grow_old (w.drewN k) os a⟩
def af8:∀(k n:Nat),n<10 ^ (k+1)->(Lib.decDigits n).length<=k+1
 | 0,n,h=>by rw[Lib.decDigits,dif_pos (by simpa using h)];simp
 | k+1,n,h=>by
   rw[Lib.decDigits]
   split
   .simp
   have:=af8 k (n / 10) (by rw[Nat.pow_succ]at h;omega);simp;omega
def aef(n:Int)(b:0<=n)(a:n<=99999):(Lib.itoa n).length<=5:=by unfold Lib.itoa;rw[a0n (by omega)];exact af8 4 _ (by omega)
def BD(wd:LB)(n:Int)(w:World)(ht:Ua w)(h0:-1<=n)(h1:n<=99999)(hw:wd.length<=10) :
 zF 48 #[zT wd,zI n] w λe w'=>e=zR (zT (az wd n))/\aB [] w w':=by
 have HT:Z_ (Ua w):=ht;clear ht;cases hn:(n == -1)
 ·have bJ:n≠-1:=by simpa using hn
  have Hx:Z_ (az wd n=wd++Lib.itoa n):=by show _=_;unfold az;rw[a0n bJ]
  have hl:=aef n (by omega) h1;have eG:=bL;have NU:=mf;go_enter Tryz.func48,Tryz.ntmps48
  go_wp2_with fail
  refine(Tryz.strconv_Itoa n (by omega) (by omega) _ HT).mono ?_;rintro e w' ⟨rfl,k,os,rfl⟩;have nK:(⟨(Lib.itoa n).toArray⟩:ByteArray)=bs (Lib.itoa n):=rfl;rw[nK];generalize Lib.itoa n=it at *;clear nK;go_wp2;go_ret;rw[Hx.o];exact⟨rfl,aB.ai4 k os⟩
 have bJ:n=-1:=by simpa using hn
 have Hx:Z_ (az wd n=[]):=by show _=_;unfold az;rw[a0m bJ]
 go_enter Tryz.func48,Tryz.ntmps48
 go_wp2;go_ret;rw[Hx.o];exact⟨rfl,aB.refl _ _⟩
def acf(k:Nat):(jr k).length<=2:=by
 unfold jr
 split
 .simp
 split
 .simp
 split<;>simp
def Wd(v:LB):(kY v).length<=4*v.length+2:=by unfold kY;have:=I1 v;simp at this |-;omega
def Ub(m:CM)(w:World)(a:Qf m) :
 zF 49 #[.agg #[zT m.1,zI m.2.1,zT m.2.2]] w λe w'=>e=zR (zT (TZ m))/\aB [] w w':=by
 obtain⟨n,k,v⟩:=m;have g:=xO a.name;have d:=a.kind;have c:=a.val;have q:=acf k;have o:=Wd v;simp only at g d c;clear a;have r:=bL;have s:=mf;have h:TZ (n,k,v)=n++jr k++kY v:=rfl;delta zF;go_in
 go_wp2_with fail
 refine(acd k _ d).mono ?_;rintro e w' ⟨rfl,rfl⟩;generalize jr k=kt at *;generalize hq:kY v=b at *;have i:kY v=b:=hq;clear hq;have n1:¬ (9223372036854775807<n.length+kt.length):=by omega
 have l:¬ (9223372036854775807<n.length+kt.length+b.length):=by omega
 go_wp2_with fail
 go_region_with (go_at_call 79;refine(XA v _ c).mono ?_;rintro e w' ⟨rfl,f⟩;rw[i];have j:=f.cell (p:=(zA w.heap.size)) (by simp) (by simp))
 all_goals
  go_wp2;go_ret;rw[h];exact⟨NW (by simp),((zJ.drew).trans f)⟩
open Go.RowKit
theorem acg:∀(L:List LB) (x:LB),L≠[]->qZ (L++[x])=qZ L++[44]++x
 | [],x,h=>absurd rfl h
 | [y],x,_=>rfl
 | y::z::r,x,_=>by have:=acg (z::r) x (by simp);show y++[44]++qZ ((z::r)++[x])=y++[44]++qZ (z::r)++[44]++x;rw[this];simp
def LQ:∀(L:List LB),(∀x∈L,x.length<=8)->(qZ L).length<=9*L.length
 | [],_=>by simp[qZ]
 | [y],h=>by have:=h y (by simp);simp[qZ];omega
 | y::z::r,h=>by have b:=LQ (z::r) (λx a=>h x (by simp[a]));have c:=h y (by simp);simp only[qZ,a0p,a0r,a1e]at b |-;omega
def Uv(v:Value)(L:List LB)(w:World)(h:RS 0 w v L)(D:L.length<=4)(o:∀x∈L,x.length<=8) :
 zF 47 #[v] w λe w'=>e=zR (zT (Br L))/\w=w':=by
 obtain⟨a,cap,rfl,F,E,q⟩:=h;have A:∀j (h:j<L.length),∃g off,a=some (zB g off)/\0<=g/\zC w g (off+j) (.string (bs L[j])):=q;have r:∀x∈L,x.length<=8:=o;clear q o;have G:=bL;have I:=mf;have H:({ data:=#[44] }:ByteArray)=bs [44]:=rfl
 by_cases d:L.length=0
 .have hb:((L.length:Int)==0)=true:=by simp[d]
  have l:Br L=[45]:=by rw[a0S d];rfl
  delta zF;go_in
  go_wp2;go_ret;rw[l];exact⟨rfl,rfl⟩
 have hb:((L.length:Int)==0)=false:=a0j.2 (by omega);have l:Br L=qZ L:=by
  unfold Br;cases L with
  | nil=>simp at d
  | cons=>rfl
 delta zF;go_in
 go_wp2_with fail
 go_loopg [3,11] L.length (λk vt i wr=>∃j,j+k=L.length/\i=zI j/\vt=zT (qZ (L.take j))/\wr=w)
 exact⟨0,by omega,rfl,rfl,rfl⟩
 .obtain⟨j,B,rfl,rfl,z⟩:=hrel;subst z
  by_cases b:j<L.length
  .obtain⟨g,off,rfl,_,C⟩:=A j b
   have u:=r _ (a0u b);have J:(qZ (L.take j)).length<=9*4:=by have:=LQ (L.take j) (λx y=>r x (a3h y));simp at this;omega
   have c:L.take (j+1)=L.take j++[L[j]]:=a0F b;have n:j=0->L.take j=[]:=by intro e;subst e;rfl
   have m:0<j->L.take j≠[]:=by
    intro e h;have:=congrArg List.length h;simp at this;rcases this with h|h
    .omega
    subst h;simp at b
   generalize L[j]=x at *;generalize L.take j=T at *
   by_cases t:0<j
   .have hd:decide ((0:Int)<(j:Int))=true:=a0g (by omega)
    have f:qZ (L.take (j+1))=qZ T++[44]++x:=by rw[c,acg T x (m t)]
    generalize qZ T=s at *;go_wp2;go_roundg (gk-1)
    .refine⟨j+1,by omega,by go_num,?_,rfl⟩;rw[f];simp
    omega
   have hd:decide ((0:Int)<(j:Int))=false:=a0f (by omega);have p:T=[]:=n (by omega);have f:qZ (L.take (j+1))=qZ T++x:=by rw[c,p];rfl
   clear p;generalize qZ T=s at *;go_wp2;go_roundg (gk-1)
   .refine⟨j+1,by omega,by go_num,?_,rfl⟩;rw[f]
   omega
  have c:L.take j=L:=a0C (by omega);rw[c];go_wp2;go_ret;rw[l];exact⟨rfl,rfl⟩
open Go.RowKit
def aeA(m:CM)(h:Qf m):(TZ m).length<=172:=by have d:=xO h.name;have c:=acf m.2.1;have b:=Wd m.2.2;have a:=h.val;unfold TZ;simp only[a0p];omega
def L8:∀(M:List CM),(∀m∈M,Qf m)->(nR M).length<=176*M.length
 | [],_=>by simp[nR]
 | m::M,h=>by have a:=L8 M (λx b=>h x (by simp[b]));have d:=aeA m (h m (by simp));have c:tq.length=4:=rfl;unfold nR at a |-;simp only[a1i,a0p,a0r]at a |-;omega
def vL(wd:LB)(n:Int)(b:wd.length<=10)(c:-1<=n)(a:n<=99999):(az wd n).length<=15:=by
 unfold az;split
 .simp
 have:=aef n (by omega) a;simp;omega
theorem ML.cell{base:Nat}{w:World}{M:List CM}{g n cap:Nat}(h:ML base w (zS g n cap) M){j:Nat}{m:CM}(d:M[j]?=some m)(k:Nat)(b:k<3):w.cell? (zB g (j*3+k))=(Bb m)[k]?:=by have c:=flat_get Bb 3 (λa=>rfl) M j k m d b;have e:=World.ownsRow.cells h (g:=g) rfl (j*3+k);have f:k<(Bb m).length:=b;rw[a0a f]at c |-;have:=e _ c;rw[add0]at this;exact this
def XF(base:Nat)(rv:RV)(c:CR)(w:World)(ht:Ua w)(hr:Jr base w rv c)(hg:xN c) :
 zF 26 #[.agg rv.cells] w λe w'=>e=zR (zT (uu c))/\aB [] w w':=by
 obtain⟨d,rc,tb,ek,wt,ev,rp,iJ,co⟩:=rv;obtain⟨r1,r2,r3,r4,r5,r6,r7,r8,r9⟩:=hr;simp only at r1 r2 r3 r4 r5 r6 r7 r8 r9;subst r1 r2 r3 r5 r6 r7 r9;obtain⟨ab,cb,rfl⟩:=r4.shape;obtain⟨ai,ci,rfl⟩:=aW r8;have HT:Z_ (Ua w):=ht;have HS:Z_ (RS 0 w (.slice ab c.jM.length cb) c.jM):=(r4.rs (by have:=hg.byl;omega)).base (a1G _);have HM:Z_ (ML base w (.slice ai c.ifs.length ci) c.ifs):=r8;have HG:Z_ (xN c):=hg;have hd:=hg.d;have Qd:c.rc.length<=8:=by
  rcases hg.rc with h|h
  ·rw[h];simp
  exact xO h
 have jc:=hg.ifl;have Hx:Z_ (uu c=List.replicate c.d 32++(lC++c.rc)++NK c++az qo c.wt++az pV c.ev++az rO c.rp++nR c.ifs++(if c.co then iq else [])):=rfl;clear r4 r8 hg ht;have eG:=bL;have NU:=mf;have aao:=bD w (Obj.cells #[zI c.d,zT c.rc,.bool c.tb,.slice ab c.jM.length cb,zI c.wt,zI c.ev,zI c.rp,.slice ai c.ifs.length ci,.bool c.co] 81);have HN:Z_ (RT (w.alloc (Obj.cells #[zI c.d,zT c.rc,.bool c.tb,.slice ab c.jM.length cb,zI c.wt,zI c.ev,zI c.rp,.slice ai c.ifs.length ci,.bool c.co] 81)) w.heap.size ⟨c.d,c.rc,c.tb,.slice ab c.jM.length cb,c.wt,c.ev,c.rp,.slice ai c.ifs.length ci,c.co⟩):=aao;clear aao;show zF 26 #[.agg #[zI c.d,zT c.rc,.bool c.tb,.slice ab c.jM.length cb,zI c.wt,zI c.ev,zI c.rp,.slice ai c.ifs.length ci,.bool c.co]] w _;have k32:({ data:=#[32] }:ByteArray)=bs [32]:=rfl;go_enter Tryz.func26,Tryz.ntmps26
 go_wp2_with fail
 go_loopg [3,4] c.d (λk vt vi wr=>∃j,j+k=c.d/\vi=zI j/\vt=zT (List.replicate j 32)/\wr=w.alloc (Obj.cells #[zI c.d,zT c.rc,.bool c.tb,.slice ab c.jM.length cb,zI c.wt,zI c.ev,zI c.rp,.slice ai c.ifs.length ci,.bool c.co] 81))
 case atStart=>exact⟨0,by omega,rfl,rfl,rfl⟩
 case round =>
 obtain⟨j,hj,rfl,rfl,rfl⟩:=hrel;have amk:(List.replicate j (32:UInt8)).length=j:=by simp
 by_cases aL:j<c.d
 ·have Hs:Z_ (List.replicate (j+1) (32:UInt8)=List.replicate j 32++[32]):=List.replicate_succ'
  generalize List.replicate j (32:UInt8)=tx at *;have hlx:tx.length<=1048576:=by omega
  clear amk;go_wp2;go_roundg (gk-1)
  case measure=>omega
  case rel =>
   refine⟨j+1,by omega,by go_num,?_,rfl⟩;rw[Hs.o]
 have hjd:j=c.d:=by omega
 subst hjd;clear hj aL;generalize hw0:w.alloc (Obj.cells #[zI c.d,zT c.rc,.bool c.tb,.slice ab c.jM.length cb,zI c.wt,zI c.ev,zI c.rp,.slice ai c.ifs.length ci,.bool c.co] 81)=w0 at *;have F0:Z_ (aB [] w w0):=by rw[<-hw0];exact(aB.refl _ _).alloc _
 clear hw0;have q0:zC w0 w.heap.size 0 (zI c.d):=HN.o.cell 0;have q1:zC w0 w.heap.size 1 (zT c.rc):=HN.o.cell 1;have q2:zC w0 w.heap.size 2 (.bool c.tb):=HN.o.cell 2;have q3:zC w0 w.heap.size 3 (.slice ab c.jM.length cb):=HN.o.cell 3;have q4:zC w0 w.heap.size 4 (zI c.wt):=HN.o.cell 4;have q5:zC w0 w.heap.size 5 (zI c.ev):=HN.o.cell 5;have q6:zC w0 w.heap.size 6 (zI c.rp):=HN.o.cell 6;have q7:zC w0 w.heap.size 7 (.slice ai c.ifs.length ci):=HN.o.cell 7;have q8:zC w0 w.heap.size 8 (.bool c.co):=HN.o.cell 8;have kr:({ data:=#[114,111,117,116,101,32] }:ByteArray)=bs lC:=rfl;have kb:({ data:=#[32,98,121,32] }:ByteArray)=bs kBy:=rfl;have krl:lC.length=6:=rfl;have kbl:kBy.length=4:=rfl;have Hbl:Z_ (NK c=if c.tb then kBy++Br c.jM else []):=rfl;have xL:(Br c.jM).length<=36:=by
  unfold Br;split
  ·simp
  have:=LQ c.jM (λx hx=>xO (HG.o.jM x hx));have:=HG.o.byl;omega
 generalize OP:List.replicate c.d (32:UInt8)=x0 at *;have Vz:x0.length<=1048576:=by omega
 clear OP amk;generalize lC=KR at *;generalize kBy=KB at *;have mid:∃x1:LB,x1=x0++(KR++c.rc)++NK c:=⟨_,rfl⟩;obtain⟨x1,XG⟩:=mid;have HX1:=aj XG;have qR:x1.length<=1048576+60:=by
  rw[XG,Hbl.o];split<;>simp<;>omega
 clear XG;have hcut:c.tb=true\/c.tb=false:=by cases c.tb<;>simp
 have N0:=HN;clear HN;rcases hcut with zH|zH
 ·have Hn:Z_ (x0++(KR++(c.rc++(KB++Br c.jM)))=x1):=by
   show _=_;rw[HX1.o,Hbl.o,zH];simp
  go_wp2_with fail
  refine(Uv _ c.jM w0 (HS.o.aC F0.o (by simp)) HG.o.byl (λx hx=>xO (HG.o.jM x hx))).mono ?_;rintro e w' ⟨rfl,rfl⟩;generalize Br c.jM=lb at *;go_wp2_with fail
  rw[Hn.o];clear q0 q1 q2 q3 zH kb kr;refine(BD qo c.wt w0 (HT.o.aC F0.o (by simp)) HG.o.wt.1 HG.o.wt.2 (by decide)).mono ?_;rintro e w1 ⟨rfl,hf⟩;have F1:Z_ (aB [] w w1):=F0.o.trans hf;have N1:Z_ (RT w1 w.heap.size ⟨c.d,c.rc,c.tb,.slice ab c.jM.length cb,c.wt,c.ev,c.rp,.slice ai c.ifs.length ci,c.co⟩):=N0.o.aC hf (by simp);clear hf q4 q5 q6 q7 q8;have q5:zC w1 w.heap.size 5 (zI c.ev):=N1.o.cell 5;have q6:zC w1 w.heap.size 6 (zI c.rp):=N1.o.cell 6;have q7:zC w1 w.heap.size 7 (.slice ai c.ifs.length ci):=N1.o.cell 7;have q8:zC w1 w.heap.size 8 (.bool c.co):=N1.o.cell 8;have arl:=vL qo c.wt (by decide) HG.o.wt.1 HG.o.wt.2;have arn:Z_ (∃t,t=az qo c.wt):=⟨_,rfl⟩;generalize aml:az qo c.wt=twt at *;have aro:=aj aml;clear aml;obtain⟨x2,hx2⟩:∃y,y=x1++twt:=⟨_,rfl⟩;have HX2:=aj hx2;have oP:x2.length<=1048576+75:=by rw[hx2];simp;omega
  have x2r:=hx2.symm;clear hx2;go_wp2_with fail
  refine(BD pV c.ev w1 (HT.o.aC F1.o (by simp)) HG.o.ev.1 HG.o.ev.2 (by decide)).mono ?_;rintro e w2 ⟨rfl,hf⟩;have F2:Z_ (aB [] w w2):=F1.o.trans hf;have N2:Z_ (RT w2 w.heap.size ⟨c.d,c.rc,c.tb,.slice ab c.jM.length cb,c.wt,c.ev,c.rp,.slice ai c.ifs.length ci,c.co⟩):=N1.o.aC hf (by simp);clear hf x2r q5 q6 q7 q8;have q5:zC w2 w.heap.size 5 (zI c.ev):=N2.o.cell 5;have q6:zC w2 w.heap.size 6 (zI c.rp):=N2.o.cell 6;have q7:zC w2 w.heap.size 7 (.slice ai c.ifs.length ci):=N2.o.cell 7;have q8:zC w2 w.heap.size 8 (.bool c.co):=N2.o.cell 8;have arp:=vL pV c.ev (by decide) HG.o.ev.1 HG.o.ev.2;have arq:Z_ (∃t,t=az pV c.ev):=⟨_,rfl⟩;generalize amm:az pV c.ev=tev at *;have ars:=aj amm;clear amm;obtain⟨x3,hx3⟩:∃y,y=x2++tev:=⟨_,rfl⟩;have HX3:=aj hx3;have hl3:x3.length<=1048576+90:=by rw[hx3];simp;omega
  have x3r:=hx3.symm;clear hx3;go_wp2_with fail
  refine(BD rO c.rp w2 (HT.o.aC F2.o (by simp)) HG.o.rp.1 HG.o.rp.2 (by decide)).mono ?_;rintro e w3 ⟨rfl,hf⟩;have F3:Z_ (aB [] w w3):=F2.o.trans hf;have N3:Z_ (RT w3 w.heap.size ⟨c.d,c.rc,c.tb,.slice ab c.jM.length cb,c.wt,c.ev,c.rp,.slice ai c.ifs.length ci,c.co⟩):=N2.o.aC hf (by simp);clear hf x3r q5 q6 q7 q8;have q5:zC w3 w.heap.size 5 (zI c.ev):=N3.o.cell 5;have q6:zC w3 w.heap.size 6 (zI c.rp):=N3.o.cell 6;have q7:zC w3 w.heap.size 7 (.slice ai c.ifs.length ci):=N3.o.cell 7;have q8:zC w3 w.heap.size 8 (.bool c.co):=N3.o.cell 8;have aru:=vL rO c.rp (by decide) HG.o.rp.1 HG.o.rp.2;have arv:Z_ (∃t,t=az rO c.rp):=⟨_,rfl⟩;generalize anD:az rO c.rp=trp at *;have arx:=aj anD;clear anD;obtain⟨x4,hx4⟩:∃y,y=x3++trp:=⟨_,rfl⟩;have HX4:=aj hx4;have hl4:x4.length<=1048576+105:=by rw[hx4];simp;omega
  have x4r:=hx4.symm;clear hx4;have HM3:Z_ (ML base w3 (.slice ai c.ifs.length ci) c.ifs):=HM.o.aC F3.o (by simp);clear q5 q6;go_wp2_with fail
  go_loopg [3,46] c.ifs.length (λk vt vi wr=>∃(j:Nat),j+k=c.ifs.length/\vi=zI j/\vt=zT (x4++nR (c.ifs.take j))/\aB [] w3 wr)
  case atStart=>exact⟨0,by omega,rfl,by simp[nR],aB.refl _ _⟩
  case round =>
  clear x4r q7 q8;obtain⟨j,hj,rfl,rfl,bH⟩:=hrel;have KF:=aj bH;clear bH
  by_cases aL:j<c.ifs.length
  ·have hjM:c.ifs[j]?=some c.ifs[j]:=a0a aL
   have hgm:=HG.o.ifs _ (a0u aL);have Ht:Z_ (c.ifs.take (j+1)=c.ifs.take j++[c.ifs[j]]):=a0F aL;have hm1:ML base wr (.slice ai c.ifs.length ci) c.ifs:=HM3.o.aC KF.o (by simp);obtain⟨g,hga⟩:∃g,ai=some (zA g):=by
    rcases hm1.2 with⟨e,h⟩|⟨g,c,cur,e,_⟩
    ·omega
    simp at e;exact⟨g,e.1⟩
   subst hga;have aO:=λk hk=>hm1.cell hjM k hk
   have yS:(nR (c.ifs.take j)).length<=176*4:=by
    have:=L8 (c.ifs.take j) (λm hm=>HG.o.ifs m (a3h hm));simp at this;omega
   have Hi:Z_ (nR (c.ifs.take (j+1))=nR (c.ifs.take j)++(tq++TZ c.ifs[j])):=by
    show _=_;unfold nR;rw[Ht.o,List.flatMap_append];simp only[a1i,a2E,a0R]
   have Ez:=aeA _ hgm;generalize c.ifs[j]=m at *;obtain⟨mn,mk,mv'⟩:=m;have p0:zC wr g (j*3) (zT mn):=aO 0 (by omega);have p1:zC wr g (j*3+1) (zI mk):=aO 1 (by omega);have p2:zC wr g (j*3+2) (zT mv'):=aO 2 (by omega);clear aO hm1 hjM;generalize nR (c.ifs.take j)=it at *;have ki:({ data:=#[32,105,102,32] }:ByteArray)=bs tq:=rfl;have kil:tq.length=4:=rfl;generalize tq=KI at *;go_wp2_with fail
   refine(Ub (mn,mk,mv') _ hgm).mono ?_;rintro e w4 ⟨rfl,hf⟩;have KF4:Z_ (aB [] w3 w4):=(KF.o.alloc _).trans hf;clear hf;generalize TZ (mn,mk,mv')=mt at *;obtain⟨y,hy⟩:∃y,y=x4++it:=⟨_,rfl⟩;go_wp2;go_roundg (gk-1)
   case measure=>omega
   case rel =>
    refine⟨j+1,by omega,by go_num,?_,KF4⟩;rw[Hi.o]
  have Ht:Z_ (c.ifs.take j=c.ifs):=a0C (by omega);rw[Ht.o];have Ak:=N3.o.aC KF.o (by simp);have q8:zC wr w.heap.size 8 (.bool c.co):=Ak.cell 8;clear Ak;have yS:(nR c.ifs).length<=176*4:=by
   have:=L8 c.ifs HG.o.ifs;omega
  have kc:({ data:=#[32,99,111,110,116,105,110,117,101] }:ByteArray)=bs iq:=rfl;have kcl:iq.length=9:=rfl;have ary:Z_ (∀z,uu c=z++(if c.co then iq else [])\/True):=λ_=>Or.inr trivial
  have HF:Z_ (uu c=x4++(nR c.ifs++(if c.co then iq else []))):=by
   show _=_;rw[Hx.o,HX4.o,HX3.o,HX2.o,HX1.o];simp only[a0M]
  generalize nR c.ifs=it at *;generalize iq=KC at *;cases Sz:c.co
  ·rw[Sz]at HF
   go_wp2;go_ret;rw[HF.o];exact⟨NW (by simp),F3.o.trans KF⟩
  rw[Sz]at HF;go_wp2;go_ret;rw[HF.o];exact⟨NW (by simp),F3.o.trans KF⟩
 have Hn:Z_ (x0++(KR++c.rc)=x1):=by
  show _=_;rw[HX1.o,Hbl.o,zH];simp
 go_wp2_with fail
 rw[Hn.o];clear q0 q1 q2 q3 zH kb kr;refine(BD qo c.wt w0 (HT.o.aC F0.o (by simp)) HG.o.wt.1 HG.o.wt.2 (by decide)).mono ?_;rintro e w1 ⟨rfl,hf⟩;have F1:Z_ (aB [] w w1):=F0.o.trans hf;have N1:Z_ (RT w1 w.heap.size ⟨c.d,c.rc,c.tb,.slice ab c.jM.length cb,c.wt,c.ev,c.rp,.slice ai c.ifs.length ci,c.co⟩):=N0.o.aC hf (by simp);clear hf q4 q5 q6 q7 q8;have q5:zC w1 w.heap.size 5 (zI c.ev):=N1.o.cell 5;have q6:zC w1 w.heap.size 6 (zI c.rp):=N1.o.cell 6;have q7:zC w1 w.heap.size 7 (.slice ai c.ifs.length ci):=N1.o.cell 7;have q8:zC w1 w.heap.size 8 (.bool c.co):=N1.o.cell 8;have arl:=vL qo c.wt (by decide) HG.o.wt.1 HG.o.wt.2;have arn:Z_ (∃t,t=az qo c.wt):=⟨_,rfl⟩;generalize aml:az qo c.wt=twt at *;have aro:=aj aml;clear aml;obtain⟨x2,hx2⟩:∃y,y=x1++twt:=⟨_,rfl⟩;have HX2:=aj hx2;have oP:x2.length<=1048576+75:=by rw[hx2];simp;omega
 have x2r:=hx2.symm;clear hx2;go_wp2_with fail
 refine(BD pV c.ev w1 (HT.o.aC F1.o (by simp)) HG.o.ev.1 HG.o.ev.2 (by decide)).mono ?_;rintro e w2 ⟨rfl,hf⟩;have F2:Z_ (aB [] w w2):=F1.o.trans hf;have N2:Z_ (RT w2 w.heap.size ⟨c.d,c.rc,c.tb,.slice ab c.jM.length cb,c.wt,c.ev,c.rp,.slice ai c.ifs.length ci,c.co⟩):=N1.o.aC hf (by simp);clear hf x2r q5 q6 q7 q8;have q5:zC w2 w.heap.size 5 (zI c.ev):=N2.o.cell 5;have q6:zC w2 w.heap.size 6 (zI c.rp):=N2.o.cell 6;have q7:zC w2 w.heap.size 7 (.slice ai c.ifs.length ci):=N2.o.cell 7;have q8:zC w2 w.heap.size 8 (.bool c.co):=N2.o.cell 8;have arp:=vL pV c.ev (by decide) HG.o.ev.1 HG.o.ev.2;have arq:Z_ (∃t,t=az pV c.ev):=⟨_,rfl⟩;generalize amm:az pV c.ev=tev at *;have ars:=aj amm;clear amm;obtain⟨x3,hx3⟩:∃y,y=x2++tev:=⟨_,rfl⟩;have HX3:=aj hx3;have hl3:x3.length<=1048576+90:=by rw[hx3];simp;omega
 have x3r:=hx3.symm;clear hx3;go_wp2_with fail
 refine(BD rO c.rp w2 (HT.o.aC F2.o (by simp)) HG.o.rp.1 HG.o.rp.2 (by decide)).mono ?_;rintro e w3 ⟨rfl,hf⟩;have F3:Z_ (aB [] w w3):=F2.o.trans hf;have N3:Z_ (RT w3 w.heap.size ⟨c.d,c.rc,c.tb,.slice ab c.jM.length cb,c.wt,c.ev,c.rp,.slice ai c.ifs.length ci,c.co⟩):=N2.o.aC hf (by simp);clear hf x3r q5 q6 q7 q8;have q5:zC w3 w.heap.size 5 (zI c.ev):=N3.o.cell 5;have q6:zC w3 w.heap.size 6 (zI c.rp):=N3.o.cell 6;have q7:zC w3 w.heap.size 7 (.slice ai c.ifs.length ci):=N3.o.cell 7;have q8:zC w3 w.heap.size 8 (.bool c.co):=N3.o.cell 8;have aru:=vL rO c.rp (by decide) HG.o.rp.1 HG.o.rp.2;have arv:Z_ (∃t,t=az rO c.rp):=⟨_,rfl⟩;generalize anD:az rO c.rp=trp at *;have arx:=aj anD;clear anD;obtain⟨x4,hx4⟩:∃y,y=x3++trp:=⟨_,rfl⟩;have HX4:=aj hx4;have hl4:x4.length<=1048576+105:=by rw[hx4];simp;omega
 have x4r:=hx4.symm;clear hx4;have HM3:Z_ (ML base w3 (.slice ai c.ifs.length ci) c.ifs):=HM.o.aC F3.o (by simp);clear q5 q6;go_wp2_with fail
 go_loopg [3,46] c.ifs.length (λk vt vi wr=>∃(j:Nat),j+k=c.ifs.length/\vi=zI j/\vt=zT (x4++nR (c.ifs.take j))/\aB [] w3 wr)
 case atStart=>exact⟨0,by omega,rfl,by simp[nR],aB.refl _ _⟩
 case round =>
 clear x4r q7 q8;obtain⟨j,hj,rfl,rfl,bH⟩:=hrel;have KF:=aj bH;clear bH
 by_cases aL:j<c.ifs.length
 ·have hjM:c.ifs[j]?=some c.ifs[j]:=a0a aL
  have hgm:=HG.o.ifs _ (a0u aL);have Ht:Z_ (c.ifs.take (j+1)=c.ifs.take j++[c.ifs[j]]):=a0F aL;have hm1:ML base wr (.slice ai c.ifs.length ci) c.ifs:=HM3.o.aC KF.o (by simp);obtain⟨g,hga⟩:∃g,ai=some (zA g):=by
   rcases hm1.2 with⟨e,h⟩|⟨g,c,cur,e,_⟩
   ·omega
   simp at e;exact⟨g,e.1⟩
  subst hga;have aO:=λk hk=>hm1.cell hjM k hk
  have yS:(nR (c.ifs.take j)).length<=176*4:=by
   have:=L8 (c.ifs.take j) (λm hm=>HG.o.ifs m (a3h hm));simp at this;omega
  have Hi:Z_ (nR (c.ifs.take (j+1))=nR (c.ifs.take j)++(tq++TZ c.ifs[j])):=by
   show _=_;unfold nR;rw[Ht.o,List.flatMap_append];simp only[a1i,a2E,a0R]
  have Ez:=aeA _ hgm;generalize c.ifs[j]=m at *;obtain⟨mn,mk,mv'⟩:=m;have p0:zC wr g (j*3) (zT mn):=aO 0 (by omega);have p1:zC wr g (j*3+1) (zI mk):=aO 1 (by omega);have p2:zC wr g (j*3+2) (zT mv'):=aO 2 (by omega);clear aO hm1 hjM;generalize nR (c.ifs.take j)=it at *;have ki:({ data:=#[32,105,102,32] }:ByteArray)=bs tq:=rfl;have kil:tq.length=4:=rfl;generalize tq=KI at *;go_wp2_with fail
  refine(Ub (mn,mk,mv') _ hgm).mono ?_;rintro e w4 ⟨rfl,hf⟩;have KF4:Z_ (aB [] w3 w4):=(KF.o.alloc _).trans hf;clear hf;generalize TZ (mn,mk,mv')=mt at *;obtain⟨y,hy⟩:∃y,y=x4++it:=⟨_,rfl⟩;go_wp2;go_roundg (gk-1)
  case measure=>omega
  case rel =>
   refine⟨j+1,by omega,by go_num,?_,KF4⟩;rw[Hi.o]
 have Ht:Z_ (c.ifs.take j=c.ifs):=a0C (by omega);rw[Ht.o];have Ak:=N3.o.aC KF.o (by simp);have q8:zC wr w.heap.size 8 (.bool c.co):=Ak.cell 8;clear Ak;have yS:(nR c.ifs).length<=176*4:=by
  have:=L8 c.ifs HG.o.ifs;omega
 have kc:({ data:=#[32,99,111,110,116,105,110,117,101] }:ByteArray)=bs iq:=rfl;have kcl:iq.length=9:=rfl;have ary:Z_ (∀z,uu c=z++(if c.co then iq else [])\/True):=λ_=>Or.inr trivial
 have HF:Z_ (uu c=x4++(nR c.ifs++(if c.co then iq else []))):=by
  show _=_;rw[Hx.o,HX4.o,HX3.o,HX2.o,HX1.o];simp only[a0M]
 generalize nR c.ifs=it at *;generalize iq=KC at *;cases Sz:c.co
 ·rw[Sz]at HF
  go_wp2;go_ret;rw[HF.o];exact⟨NW (by simp),F3.o.trans KF⟩
 rw[Sz]at HF;go_wp2;go_ret;rw[HF.o];exact⟨NW (by simp),F3.o.trans KF⟩
open Go.RowKit
def Mk:∀(L:List LB),(∀n∈L,aJ n=true)->(sH L).length<=9*L.length
 | [],_=>by simp[sH]
 | n::L,h=>by have a:=Mk L (λx b=>h x (by simp[b]));have c:=xO (h n (by simp));unfold sH at a |-;simp only[a1i,a0p,a0r]at a |-;omega
def aeH(c:CR)(h:xN c):(uu c).length<=c.d+1200:=by
 have n:c.rc.length<=8:=by
  rcases h.rc with e|e
  .rw[e];simp
  exact xO e
 have m:(NK c).length<=50:=by
  unfold NK;split
  .have hb:(Br c.jM).length<=36:=by
    unfold Br;split
    .simp
    have:=LQ c.jM (λx a=>xO (h.jM x a));have:=h.byl;omega
   have:kBy.length=4:=rfl;simp;omega
  simp
 have l:=vL qo c.wt (by decide) h.wt.1 h.wt.2;have k:=vL pV c.ev (by decide) h.ev.1 h.ev.2;have j:=vL rO c.rp (by decide) h.rp.1 h.rp.2;have i:=L8 c.ifs h.ifs;have g:=h.ifl;have f:lC.length=6:=rfl;have b:(if c.co then iq else []).length<=9:=by split<;>simp[iq]
 unfold uu;simp only[a0p,List.length_replicate];omega
def af9(c:CR)(h:xN c):(uu c).length<=1049900:=by have:=aeH c h;have:=h.d;omega
def aeJ:∀(C:List CR),(∀c∈C,xN c)->(zb C).length<=1050000*C.length
 | [],_=>by simp[zb]
 | c::C,h=>by have a:=aeJ C (λx b=>h x (by simp[b]));have d:=af9 c (h c (by simp));unfold zb at a |-;simp only[a1i,a0p,a0r,a1e]at a |-;omega
def acE(base:Nat)(vr vt:Value)(L:List LB)(R:List RV)(C:List CR)(w:World)(ht:Ua w)(hs:SL base w vr L)(hr:RL base w vt R)(hp:qL base w R C)(hR:R.length<=1048576)
 (hg:(∀m∈L,aJ m=true)/\L.length<=8/\(∀c∈C,xN c)) :
 zF 14 #[.agg #[vr,vt]] w λe w'=>e=zR (zT (wE L C))/\aB [] w w':=by
 obtain⟨a,cap,rfl⟩:=aW hr;obtain⟨a0,Jt,rfl⟩:=hs.shape;have HT:Z_ (Ua w):=ht;have Ao:Z_ (R.length=C.length):=hp.1;have HR:Z_ (RL base w (.slice a R.length cap) R):=hr;have HS:Z_ (RS 0 w (.slice a0 L.length Jt) L):=(hs.rs (by omega)).base (a1G _);have HP:Z_ (qL base w R C):=hp;have HG:Z_ ((∀m∈L,aJ m=true)/\L.length<=8/\(∀c∈C,xN c)):=hg;have hl8:=hg.2.1;clear hr hp hs ht hg;have eG:=bL;have NU:=mf;have k32:({ data:=#[32] }:ByteArray)=bs [32]:=rfl;have k10:({ data:=#[10] }:ByteArray)=bs [10]:=rfl;have kr:({ data:=#[114,101,99,101,105,118,101,114,115] }:ByteArray)=bs mU:=rfl;have krl:mU.length=9:=rfl;have Hx:Z_ (wE L C=mU++sH L++[10]++zb C):=rfl;have kM:=bD w (Obj.cells #[.slice a0 L.length Jt,.slice a R.length cap] 47);have uh:Z_ (CB (w.alloc (Obj.cells #[.slice a0 L.length Jt,.slice a R.length cap] 47)) w.heap.size (.slice a0 L.length Jt) (.slice a R.length cap)):=kM;clear kM;generalize mU=KR at *;go_enter Tryz.func14,Tryz.ntmps14
 go_wp2_with fail
 go_loopg [3,11] L.length (λk vt vi wr=>∃(j:Nat),j+k=L.length/\vi=zI j/\vt=zT (KR++sH (L.take j))/\CB wr w.heap.size (.slice a0 L.length Jt) (.slice a R.length cap)/\aB [] w wr)
 case atStart=>exact⟨0,by omega,rfl,by simp[sH,kr],uh,(aB.refl _ _).alloc _⟩
 case round =>
  obtain⟨j,hj,rfl,rfl,kG,bH⟩:=hrel;have KC:Z_ (CB wr w.heap.size (.slice a0 L.length Jt) (.slice a R.length cap)):=kG;have KF:Z_ (aB [] w wr):=bH;have d0:=kG.c0;have d1:=kG.c1;clear kG bH
  by_cases aL:j<L.length
  ·have yR:RS 0 wr (.slice a0 L.length Jt) L:=HS.o.aC KF.o (by simp)
   obtain⟨a',xK,e,h1,h2,h3⟩:=yR;simp at e;obtain⟨e1,e2⟩:=e;subst e1 e2;obtain⟨g,off,h4,h5,h6⟩:=h3 j aL;subst h4;clear h3;have yS:(sH (L.take j)).length<=9*8:=by
    have:=Mk (L.take j) (λx hx=>HG.o.1 x (a3h hx));simp at this;omega
   have hx8:=xO (HG.o.1 _ (a0u aL));have Hi:Z_ (sH (L.take (j+1))=sH (L.take j)++(32::L[j])):=by
    show _=_;unfold sH;rw[a0F aL,List.flatMap_append];simp only[a1i,a2E,a0R]
   generalize L[j]=x at *;generalize sH (L.take j)=tx at *;go_wp2;go_roundg (gk-1)
   case measure=>omega
   case rel=>exact⟨j+1,by omega,by go_num,by rw[Hi.o],KC,KF⟩
  have Ht:Z_ (L.take j=L):=a0C (by omega);rw[Ht.o];have yS:(sH L).length<=9*8:=by
   have:=Mk L HG.o.1;omega
  obtain⟨x0,OP⟩:∃y,y=KR++(sH L++[10]):=⟨_,rfl⟩;have HX0:=aj OP;have Vz:x0.length<=100:=by rw[OP];simp;omega
  clear OP;generalize sH L=tx at *;go_wp2_with fail
  rw[<-HX0.o];go_loopg [3,25] R.length (λk vt vi wr=>∃(j:Nat),j+k=R.length/\vi=zI j/\vt=zT (x0++zb (C.take j))/\CB wr w.heap.size (.slice a0 L.length Jt) (.slice a R.length cap)/\aB [] w wr)
  case atStart=>exact⟨0,by omega,rfl,by simp[zb],KC,KF⟩
  case round =>
   clear d0 d1 KC KF aL hj;obtain⟨j,hj,rfl,rfl,kG,bH⟩:=hrel;have KC:Z_ (CB wr w.heap.size (.slice a0 L.length Jt) (.slice a R.length cap)):=kG;have KF:Z_ (aB [] w wr):=bH;clear kG bH
   by_cases aL:j<R.length
   ·have uA:=Ao.o
    have YM:R[j]?=some R[j]:=a0a aL;have hjC:C[j]?=some (C[j]'(by omega)):=a0a (by omega);have lZ:=(HP.o.2 j _ _ YM hjC).aC KF.o (by intro k hk;simp at hk);have Kt:=HG.o.2.2 _ (a0u (l:=C) (n:=j) (by omega));have Hi:Z_ (zb (C.take (j+1))=zb (C.take j)++(uu (C[j]'(by omega))++[10])):=by
     show _=_;unfold zb;rw[a0F (by omega),List.flatMap_append];simp only[a1i,a2E,a0R]
    have yS:(zb (C.take j)).length<=1050000*1048576:=by
     have:=aeJ (C.take j) (λx hx=>HG.o.2.2 x (a3h hx));have h2:(C.take j).length<=1048576:=by rw[a1k];omega
     omega
    generalize (C[j]'(by omega))=c at *;have Qd:=af9 c Kt;have lz:RL base wr (.slice a R.length cap) R:=fG HR.o KF.o (by simp);obtain⟨g,hg⟩:∃g,a=some (zA g):=by
     rcases lz.2 with⟨e,h⟩|⟨g,c,cur,e,_⟩
     ·omega
     simp at e;exact⟨g,e.1⟩
    subst hg;have aO:=λk hk=>lz.cell YM k hk
    generalize R[j]=rv at *;have aqX:Z_ (Jr base wr rv c):=lZ;have Hgc:=aj Kt;obtain⟨d,rc,tb,ek,wt,ev,rp,iJ,co⟩:=rv;have q0:zC wr g (j*9) (zI d):=aO 0 (by omega);have q1:zC wr g (j*9+1) (zT rc):=aO 1 (by omega);have q2:zC wr g (j*9+2) (.bool tb):=aO 2 (by omega);have q3:zC wr g (j*9+3) ek:=aO 3 (by omega);have q4:zC wr g (j*9+4) (zI wt):=aO 4 (by omega);have q5:zC wr g (j*9+5) (zI ev):=aO 5 (by omega);have q6:zC wr g (j*9+6) (zI rp):=aO 6 (by omega);have q7:zC wr g (j*9+7) iJ:=aO 7 (by omega);have q8:zC wr g (j*9+8) (.bool co):=aO 8 (by omega);obtain⟨ab,cb,eb⟩:=lZ.Im.shape;obtain⟨ai,ci,ei⟩:=aW lZ.ifs;simp only at eb ei;subst eb ei;clear aO lz lZ Kt YM hjC uA;generalize zb (C.take j)=tx2 at *;have pr:=λo=>XF base ⟨d,rc,tb,.slice ab c.jM.length cb,wt,ev,rp,.slice ai c.ifs.length ci,co⟩ c (wr.alloc o) (HT.o.aC (KF.o.alloc o) (by simp)) (aqX.o.aC (S:=[]) ((aB.refl _ _).alloc _) (by intro k hk;simp at hk)) Hgc
    have PR:Z_ (∀o,zF 26 #[.agg #[zI d,zT rc,.bool tb,.slice ab c.jM.length cb,zI wt,zI ev,zI rp,.slice ai c.ifs.length ci,.bool co]] (wr.alloc o) λe w'=>e=zR (zT (uu c))/\aB [] (wr.alloc o) w'):=pr;clear pr;go_wp2_with fail
    refine(PR.o _).mono ?_;rintro e w4 ⟨rfl,hf⟩;have F4:aB [] wr w4:=((aB.refl _ _).alloc _).trans hf;have KC4:Z_ (CB w4 w.heap.size (.slice a0 L.length Jt) (zS g R.length cap)):=KC.o.aC F4 (by simp);have KF4:Z_ (aB [] w w4):=KF.o.trans F4;clear hf F4;generalize uu c=rt at *;go_wp2;go_roundg (gk-1)
    case measure=>omega
    case rel=>exact⟨j+1,by omega,by go_num,by rw[Hi.o],KC4,KF4⟩
   have Ht2:Z_ (C.take j=C):=a0C (by have:=Ao.o;omega);rw[Ht2.o];go_wp2;go_ret;rw[Hx.o,HX0.o];exact⟨NW (by simp),KF⟩
open Go.RowKit
def Uo(t:LB):LB × Nat × Nat :=
 match jH t with
 | .error (n,l)=>([],n,l)
 | .ok (L,C)=>(wE L C,0,0)
def ai5(t:LB)(L:List LB)(C:List CR)(h:jH t=.ok (L,C)):oV t=.ok (L,C):=by
 unfold jH at h
 split at h
 .cases h
 split at h
 .cases h
 split at h
 .cases h
 split at h
 .cases h
 rename_i b c a _ _;simp only[Except.ok.injEq,Prod.mk.injEq]at h;rw[a,h.1,h.2]
def ah1(t:LB)(w:World)(p:Ua w)(ht:t.length<=1048576) :
 zF 6 #[zT t] w λe w'=>e=zQ #[.string (bs (Uo t).1),zI (Uo t).2.1,zI (Uo t).2.2]/\aB [] w w':=by
 have y:Ua w:=p;clear p;go_enter Tryz.func6,Tryz.ntmps6
 go_wp2_with fail
 refine(afb t w ht).mono ?_;rintro e r ⟨KF,vr,vt,B,ln,rfl,c⟩;cases a:jH t with
 | error nl =>
   obtain⟨n,l⟩:=nl;have h:Uo t=([],n,l):=by show _=_;unfold Uo;rw[a]
   rw[a]at c;obtain⟨rfl,rfl,rfl,rfl,A⟩:=c;have D:((n:Int) != 0)=true:=by rw[a1M];omega
   go_wp2;go_ret3
   rw[h];exact⟨rfl,KF.alloc _⟩
 | ok LC =>
   obtain⟨L,C⟩:=LC;have h:Uo t=(wE L C,0,0):=by show _=_;unfold Uo;rw[a]
   have b:=qT t L C ht (ai5 t L C a);rw[a]at c;obtain⟨rfl,rfl,d,i,f,q,j⟩:=c;obtain⟨x,s,rfl⟩:=d.shape;obtain⟨v,n1,rfl⟩:=aW f;have PR:=λo=>acE w.heap.size (.slice x L.length s) (.slice v i.length n1) L i C (r.alloc o) (y.aC (KF.alloc o) (by simp)) (d.aC zG (by simp)) (f.aC zG (by simp)) (q.aC zG (by intro k u;simp at u)) j b
   clear d f q j b a;go_wp2_with fail
   refine(PR _).mono ?_;rintro e z ⟨rfl,m⟩;have g:=(KF.alloc _).trans m;clear m;go_wp2;go_ret3
   rw[h];exact⟨rfl,g⟩
open Go.RowKit
def aeK:∀(C:List CR),(∀c∈C,xN c/\c.d<=5)->(zb C).length<=1206*C.length
 | [],_=>by simp[zb]
 | c::C,h=>by have a:=aeK C (λx b=>h x (by simp[b]));have f:=aeH c (h c (by simp)).1;have e:=(h c (by simp)).2;unfold zb at a |-;simp only[a1i,a0p,a0r,a1e]at a |-;omega
def ai6{t:LB}{L:List LB}{C:List CR}(ht:t.length<=1048576)(h:jH t=.ok (L,C)):(wE L C).length<=100000:=by obtain⟨c1,c2,c3,c4⟩:=pI h;obtain⟨d,i,b⟩:=qT t L C ht c1;have g:=aeK C (λc a=>⟨b c a,c4 c a⟩);have f:=Mk L d;have e:mU.length=9:=rfl;unfold wE;simp only[a0p,a0r,a1e];omega
theorem akQ{t:LB}{L:List LB}{C:List CR}(h:jH t=.ok (L,C)):Uo t=(wE L C,0,0):=by unfold Uo;rw[h]
open Go.RowKit
def aid(t:LB)(w:World)(v:Ua w)(ht:t.length<=9223372036854775807) :
 zF 3 #[zT t] w λe w'=>e=zR (.bool true)/\aB [] w w':=by
 have eG:=bL
 by_cases l:16384<t.length
 .have hd:decide ((16384:Int)<(t.length:Int))=true:=a0g (by omega)
  have E:decide (16384<t.length)=true:=a0g l;clear v;go_enter Tryz.func3,Tryz.ntmps3
  go_wp2;go_ret;exact⟨rfl,zK⟩
 have hd:decide ((16384:Int)<(t.length:Int))=false:=a0f (by omega);have E:decide (16384<t.length)=false:=a0f l;have T:=(ace t w (by omega));go_enter Tryz.func3,Tryz.ntmps3
 go_wp2_with fail
 refine T.mono ?_;clear T hd E;rintro e w2 ⟨F2,r⟩;rcases r with⟨_,rfl⟩|⟨pb,n,C,cb,base,X,hz,a,rfl,hq,q,_⟩
 .go_wp2
  go_ret;exact⟨rfl,F2.alloc _⟩
 obtain⟨Ln',C',s,V,h,i,x,y⟩:=hq;rw[a]at h;simp only[Except.ok.injEq,Prod.mk.injEq]at h;obtain⟨rfl,rfl⟩:=h;have o:=aiX (by omega) a i;have SS:=ai6 (by omega) a;have u:∀(W:World) (p:Nat) (V':V6),PR [] W p V' (iZ C s)->zF 8 #[zP p] W λe w'=>e=zR (zT (eM (iZ C s)))/\aB [] W w':=λW p V' hp=>ah6 [] p V' _ W hp y (by omega)
 have L:∀W,aB [] w W->zF 6 #[zT t] W λe w'=>e=zQ #[zT (wE n C),zI 0,zI 0]/\aB [] W w':=λW f=>by refine(ah1 t W (v.aC f (by simp)) (by omega)).mono ?_;rintro e w1 ⟨rfl,hF⟩;rw[akQ a];exact⟨rfl,hF⟩
 have J:xF gH C 0=(0,0):=by unfold pJ at hz;rw[a]at hz;exact hz
 have M:(wE n C).length<=1200->∀W,zF 7 #[zT (wE n C)] W λe w'=>aB [] W w'/\∃m b,e=zQ #[zP b,zI 0,zI 0]/\PR [] w' b m (iZ C s):=by
  intro hl W;have B:=aeN (by omega) a hl;refine(af3 _ W (by omega)).mono ?_;rintro e w1 ⟨hF,⟨r,_⟩|⟨L3,C3,s3,m,b,_,A,z,rfl,h6,_⟩⟩
  .refine absurd ?_ r
   unfold pJ;rw[B];exact congrArg Prod.fst J
  rw[B]at A;cases A
  rw[i]at z;cases z
  exact⟨hF,m,b,rfl,h6⟩
 have F3:=F2.alloc (Obj.cells #[zP pb,zP cb,.pointer none,.string ByteArray.empty] 26);have I:=(x.aC (S:=[]) ((aB.refl [] w2).alloc (Obj.cells #[zP pb,zP cb,.pointer none,.string ByteArray.empty] 26)) (by simp));have R:=L _ F3;clear hz q x y J L o a i;generalize eM (iZ C s)=bb at *;generalize wE n C=ct at *;go_wp2_with fail
 refine R.mono ?_;clear R;rintro e Z ⟨rfl,g⟩;have F4:=F3.trans g;have H:=(I.aC g (by simp));clear g F3 I
 by_cases hb:1200<ct.length
 .have D:decide ((1200:Int)<(ct.length:Int))=true:=a0g (by omega)
  have k:decide (1200<ct.length)=true:=a0g hb;go_wp2;go_ret;exact⟨rfl,F4⟩
 have D:decide ((1200:Int)<(ct.length:Int))=false:=a0f (by omega);have k:decide (1200<ct.length)=false:=a0f hb;have P:=(M (by omega) Z);go_wp2_with fail
 refine P.mono ?_;clear P M D k;rintro e Y ⟨d,m,b,rfl,F⟩;have F5:=F4.trans d;have G:=(H.aC d (by simp));have O:=u Y pb V G;clear d F4 H;go_wp2_with fail
 refine O.mono ?_;clear O;rintro e U ⟨rfl,c⟩;have F6:=F5.trans c;have N:=(u U b m (F.aC c (by simp)));clear c F5 G F u;go_wp2_with fail
 refine N.mono ?_;clear N;rintro e w7 ⟨rfl,j⟩;have F7:=F6.trans j;clear j;go_wp2;go_ret;exact⟨rfl,F7⟩
end Go.Proofs.YtedmellodofajaaGreatDoor
namespace Go.Proofs.YtedmellodofajaaGreatDoor.ah2
open Go.ChangeShapes Go.WideShapes Go.ChangeAt Go.RowKit
open Go.ChangeMaps (open_string shut_string)
def own:ownKnob Tryz.prog.godebug=none:=by kernel_rfl
def aop : Tryz.prog.globalNamed "internal/strconv.uint64pow10" = some 0 := by kernel_rfl
def ai7:(Tryz.prog.globals[0]?).map (·.type)=some 278:=by kernel_rfl
def ak4:Tryz.prog.cellsOf 278=20:=by kernel_rfl
def ak5:Tryz.prog.cellsOf 253=1:=by kernel_rfl
theorem datum:(Rows.laid_internal_strconv_uint64pow10:DataW Unit)=Lib.tabData .u64 Lib.pow10Tab:=by rfl
def table{W:World}(h:laidMetH Tryz.prog Rows.formsRow.laid W):Ua W:=by
 have b:laidMet Tryz.prog Rows.formsRow.laid W:=h;have a : laidMet Tryz.prog [("internal/strconv.uint64pow10", Rows.laid_internal_strconv_uint64pow10)] W := laidMet.tail (laidMet.tail b)
 rw[datum]at a;exact Lib.tabIs_of_head (rest:=[]) aop ai7 Tryz.underlying278 Tryz.underlying253 ak5 ak4 a
theorem contract(H:Type)(enc:TypeId × Value->H)(W:World)(base:Nat)(args:Array Value)(ds gs:List (DataW H))(before:List MemPlace)
 (Ux:∀(j:Nat) t v,Tryz.f3.params[j]?=some t->args[j]?=some v->Value.okWide Tryz.prog W .any base t v)
 (hW:DataW.Whole enc Tryz.prog Tryz.f3.params.toList Rows.formsSpec.vars false W args.toList ds gs before) (hL:laidMetH Tryz.prog Rows.formsRow.laid W) :
 Calls Tryz.prog 3 args W λe W'=>∃v,e=.returned v/\Rows.formsSpec.post enc Tryz.prog Tryz.f3 false true false false W args v W':=by
 have hW':=hW;obtain⟨p,q,hA0,hV,rfl,Sv,qH⟩:=hW;have hA:DataW.TrodAll enc Tryz.prog W 0 (λ_=>true) true Tryz.f3.params.toList args.toList ds p:=hA0;rw[Tryz.params3]at hA Ux;obtain⟨v0,vs0,d0,ds0,p0,q0,aqF,rfl,rfl,h0,r0⟩:=trodAll_cons hA;obtain⟨rfl,rfl,rfl⟩:=trodAll_nil r0;obtain rfl:args=#[v0]:=by cases args;simp_all
 obtain⟨rfl,rfl⟩:=trodVars_none hV;obtain⟨s,rfl,rfl,rfl,hs⟩:=open_string Tryz.underlying9 (Ux 0 9 v0 rfl rfl) h0;clear hA0;simp only[a0R]at hW';have hb:Value.string s=.string (bs s.data.toList):=by rw[aje]
 rw[hb];refine(aid s.data.toList W (table hL) (a0h hs (by unfold maxLen;omega))).mono λe W' ⟨he,hf⟩=>?_
 rw[<-hb];subst he;refine⟨_,rfl,_,_,[],[],[],[],hW',trodAll_cons_mk (shut_bool Tryz.underlying4 _) trodAll_mk0,trodAll_cons_mk (shut_string Tryz.underlying9 hs) trodAll_mk0,rfl,hf.below.frame _,λh=>by cases h⟩
def putCells(cs:Array Value):Obj->Obj
 | .cells _ t frozen=>.cells cs t frozen
 | o=>o
def ai8(os:Os):laidMet Tryz.prog Rows.formsRow.laid (({ World.holding Tryz.prog os ⟨#[],#[],[]⟩ with heap:=(((World.holding Tryz.prog os ⟨#[],#[],[]⟩).heap.modify 0 (putCells #[.int .u64 1,.int .u64 10,.int .u64 100,.int .u64 1000,.int .u64 10000,.int .u64 100000,.int .u64 1000000,.int .u64 10000000,.int .u64 100000000,.int .u64 1000000000,.int .u64 10000000000,.int .u64 100000000000,.int .u64 1000000000000,.int .u64 10000000000000,.int .u64 100000000000000,.int .u64 1000000000000000,.int .u64 10000000000000000,.int .u64 100000000000000000,.int .u64 1000000000000000000,.int .u64 10000000000000000000])).modify 1 (putCells #[.int .u8 0,.int .u8 1,.int .u8 28,.int .u8 2,.int .u8 29,.int .u8 14,.int .u8 24,.int .u8 3,.int .u8 30,.int .u8 22,.int .u8 20,.int .u8 15,.int .u8 25,.int .u8 17,.int .u8 4,.int .u8 8,.int .u8 31,.int .u8 27,.int .u8 13,.int .u8 23,.int .u8 21,.int .u8 19,.int .u8 16,.int .u8 7,.int .u8 26,.int .u8 12,.int .u8 18,.int .u8 6,.int .u8 11,.int .u8 5,.int .u8 10,.int .u8 9])).modify 2 (putCells #[.int .u8 0,.int .u8 1,.int .u8 56,.int .u8 2,.int .u8 57,.int .u8 49,.int .u8 28,.int .u8 3,.int .u8 61,.int .u8 58,.int .u8 42,.int .u8 50,.int .u8 38,.int .u8 29,.int .u8 17,.int .u8 4,.int .u8 62,.int .u8 47,.int .u8 59,.int .u8 36,.int .u8 45,.int .u8 43,.int .u8 51,.int .u8 22,.int .u8 53,.int .u8 39,.int .u8 33,.int .u8 30,.int .u8 24,.int .u8 18,.int .u8 12,.int .u8 5,.int .u8 63,.int .u8 55,.int .u8 48,.int .u8 27,.int .u8 60,.int .u8 41,.int .u8 37,.int .u8 16,.int .u8 46,.int .u8 35,.int .u8 44,.int .u8 21,.int .u8 52,.int .u8 32,.int .u8 23,.int .u8 11,.int .u8 54,.int .u8 26,.int .u8 40,.int .u8 15,.int .u8 34,.int .u8 20,.int .u8 31,.int .u8 10,.int .u8 25,.int .u8 14,.int .u8 19,.int .u8 9,.int .u8 13,.int .u8 8,.int .u8 7,.int .u8 6]) }:World).forCall (λ_ _=>0) ⟨#[],#[.string ByteArray.empty],[]⟩).memory :=
 laidMet_of_run' 80 (by kernel_rfl) (by kernel_rfl)
def reads(os:Os){H:Type}(enc:TypeId × Value->H):∃a,DataW.whole enc Tryz.prog (({ World.holding Tryz.prog os ⟨#[],#[],[]⟩ with heap:=(((World.holding Tryz.prog os ⟨#[],#[],[]⟩).heap.modify 0 (putCells #[.int .u64 1,.int .u64 10,.int .u64 100,.int .u64 1000,.int .u64 10000,.int .u64 100000,.int .u64 1000000,.int .u64 10000000,.int .u64 100000000,.int .u64 1000000000,.int .u64 10000000000,.int .u64 100000000000,.int .u64 1000000000000,.int .u64 10000000000000,.int .u64 100000000000000,.int .u64 1000000000000000,.int .u64 10000000000000000,.int .u64 100000000000000000,.int .u64 1000000000000000000,.int .u64 10000000000000000000])).modify 1 (putCells #[.int .u8 0,.int .u8 1,.int .u8 28,.int .u8 2,.int .u8 29,.int .u8 14,.int .u8 24,.int .u8 3,.int .u8 30,.int .u8 22,.int .u8 20,.int .u8 15,.int .u8 25,.int .u8 17,.int .u8 4,.int .u8 8,.int .u8 31,.int .u8 27,.int .u8 13,.int .u8 23,.int .u8 21,.int .u8 19,.int .u8 16,.int .u8 7,.int .u8 26,.int .u8 12,.int .u8 18,.int .u8 6,.int .u8 11,.int .u8 5,.int .u8 10,.int .u8 9])).modify 2 (putCells #[.int .u8 0,.int .u8 1,.int .u8 56,.int .u8 2,.int .u8 57,.int .u8 49,.int .u8 28,.int .u8 3,.int .u8 61,.int .u8 58,.int .u8 42,.int .u8 50,.int .u8 38,.int .u8 29,.int .u8 17,.int .u8 4,.int .u8 62,.int .u8 47,.int .u8 59,.int .u8 36,.int .u8 45,.int .u8 43,.int .u8 51,.int .u8 22,.int .u8 53,.int .u8 39,.int .u8 33,.int .u8 30,.int .u8 24,.int .u8 18,.int .u8 12,.int .u8 5,.int .u8 63,.int .u8 55,.int .u8 48,.int .u8 27,.int .u8 60,.int .u8 41,.int .u8 37,.int .u8 16,.int .u8 46,.int .u8 35,.int .u8 44,.int .u8 21,.int .u8 52,.int .u8 32,.int .u8 23,.int .u8 11,.int .u8 54,.int .u8 26,.int .u8 40,.int .u8 15,.int .u8 34,.int .u8 20,.int .u8 31,.int .u8 10,.int .u8 25,.int .u8 14,.int .u8 19,.int .u8 9,.int .u8 13,.int .u8 8,.int .u8 7,.int .u8 6]) }:World).forCall (λ_ _=>0) ⟨#[],#[.string ByteArray.empty],[]⟩).memory Tryz.f3.params.toList Rows.formsSpec.vars false #[Value.string ByteArray.empty].toList 8=some ([.lit (.string [])],[],a) :=
 ⟨[],by kernel_rfl⟩
def lifted(os:Os)(started:os.Started)(H:Type)(enc:TypeId × Value->H)(F:Stop.Interp) :
 ReturnsInHanded {} Tryz.checked os 3 .any ((OpenSpec.ofChange Rows.formsSpec).preRow enc Tryz.prog Tryz.f3 Rows.formsRow.domain false Rows.formsRow.laid) (((OpenSpec.ofChange Rows.formsSpec).at F).post enc Tryz.prog Tryz.f3 false true false false):=by
 obtain⟨a,b⟩:=reads os enc;refine returnsInHanded_of_row (C:=Tryz.checked) (s:=OpenSpec.ofChange Rows.formsSpec) own started (by kernel_rfl) Tryz.func3
  (witness_row_at (enc:=enc) (C:=Tryz.checked) false ({ World.holding Tryz.prog os ⟨#[],#[],[]⟩ with heap:=(((World.holding Tryz.prog os ⟨#[],#[],[]⟩).heap.modify 0 (putCells #[.int .u64 1,.int .u64 10,.int .u64 100,.int .u64 1000,.int .u64 10000,.int .u64 100000,.int .u64 1000000,.int .u64 10000000,.int .u64 100000000,.int .u64 1000000000,.int .u64 10000000000,.int .u64 100000000000,.int .u64 1000000000000,.int .u64 10000000000000,.int .u64 100000000000000,.int .u64 1000000000000000,.int .u64 10000000000000000,.int .u64 100000000000000000,.int .u64 1000000000000000000,.int .u64 10000000000000000000])).modify 1 (putCells #[.int .u8 0,.int .u8 1,.int .u8 28,.int .u8 2,.int .u8 29,.int .u8 14,.int .u8 24,.int .u8 3,.int .u8 30,.int .u8 22,.int .u8 20,.int .u8 15,.int .u8 25,.int .u8 17,.int .u8 4,.int .u8 8,.int .u8 31,.int .u8 27,.int .u8 13,.int .u8 23,.int .u8 21,.int .u8 19,.int .u8 16,.int .u8 7,.int .u8 26,.int .u8 12,.int .u8 18,.int .u8 6,.int .u8 11,.int .u8 5,.int .u8 10,.int .u8 9])).modify 2 (putCells #[.int .u8 0,.int .u8 1,.int .u8 56,.int .u8 2,.int .u8 57,.int .u8 49,.int .u8 28,.int .u8 3,.int .u8 61,.int .u8 58,.int .u8 42,.int .u8 50,.int .u8 38,.int .u8 29,.int .u8 17,.int .u8 4,.int .u8 62,.int .u8 47,.int .u8 59,.int .u8 36,.int .u8 45,.int .u8 43,.int .u8 51,.int .u8 22,.int .u8 53,.int .u8 39,.int .u8 33,.int .u8 30,.int .u8 24,.int .u8 18,.int .u8 12,.int .u8 5,.int .u8 63,.int .u8 55,.int .u8 48,.int .u8 27,.int .u8 60,.int .u8 41,.int .u8 37,.int .u8 16,.int .u8 46,.int .u8 35,.int .u8 44,.int .u8 21,.int .u8 52,.int .u8 32,.int .u8 23,.int .u8 11,.int .u8 54,.int .u8 26,.int .u8 40,.int .u8 15,.int .u8 34,.int .u8 20,.int .u8 31,.int .u8 10,.int .u8 25,.int .u8 14,.int .u8 19,.int .u8 9,.int .u8 13,.int .u8 8,.int .u8 7,.int .u8 6]) }:World) #[.string ByteArray.empty] rfl (by kernel_rfl) (by kernel_rfl) (by kernel_rfl)
    (OpenSpec.preRow_of_cond 8 b (by kernel_rfl) (λk c=>by cases c) (by kernel_rfl) (ai8 os))) ?_
 intro W base args f gs before g d _ _ _ e _ _;exact contract H enc W base args f gs before g d e
def said:Rows.FormsSaid :=
 OpenClaim.holds_of_cond 3 Tryz.f3 rfl rfl rfl rfl rfl rfl rfl ⟨rfl,rfl,rfl,rfl,rfl⟩ rfl rfl rfl rfl rfl (by kernel_rfl) Tryz.func3 (by kernel_rfl)
  (a2q (by kernel_rfl)) (by unfold Func.isWrapper;first | (rw[a0m (by decide +kernel)];kernel_rfl)|(rw[a0n (by decide +kernel)];exact⟨rfl,rfl⟩))
  (λos started H enc _ F=>by rw[OpenClaim.pre_eq_preRow];exact lifted os started H enc F)
def plain (f : FuncId) (fn : Func) (hf : Tryz.pinned.checked.prog.funcNamed "alerts/alertslaw.Forms" = some f) (hfn : Tryz.pinned.checked.prog.funcs[f]? = some fn) :
 false=Tryz.pinned.checked.prog.looks []/\∀(j:Nat) t,fn.params[j]?=some t->Tryz.pinned.checked.prog.wantsStandIn t=false:=by
 obtain rfl : f = 3 := Option.some.inj ((show Tryz.prog.funcNamed "alerts/alertslaw.Forms" = some 3 by kernel_rfl).symm.trans hf) |>.symm
 obtain rfl:fn=Tryz.f3:=(Option.some.inj (Tryz.func3.symm.trans hfn)).symm;refine⟨by kernel_rfl,λj t ht=>?_⟩;rw[Tryz.params3]at ht;obtain rfl:t=9:=by simpa using Array.mem_of_getElem? ht
 exact(show Tryz.prog.wantsStandIn 9=false by kernel_rfl)
def card:Rows.FormsCardSaid :=
 Claim7.holds_tied_plain_at .later [] _ _ _ _ said (λ_ h=>by cases h) (by kernel_rfl) (λ_ h=>by cases h) forms_row_tie rfl ⟨rfl,rfl⟩ (by kernel_rfl) rfl plain (by kernel_rfl)
end Go.Proofs.YtedmellodofajaaGreatDoor.ah2
namespace Go.Proofs.YtedmellodofajaaGreatDoor
theorem forms_card:Rows.FormsCardSaid:=ah2.card
end Go.Proofs.YtedmellodofajaaGreatDoor
