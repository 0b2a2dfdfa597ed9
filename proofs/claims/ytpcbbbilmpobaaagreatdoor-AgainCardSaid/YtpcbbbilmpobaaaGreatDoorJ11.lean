import Derived.Test.YtpcbbbilmpobaaaGreatDoorJ9
import Derived.Test.YtpcbbbilmpobaaaGreatDoorJ10
import Derived.Test.YtpcbbbilmpobaaaGreatDoorJ3
import Derived.Test.YtpcbbbilmpobaaaGreatDoorJ4
set_option linter.unusedVariables false
set_option linter.unusedSimpArgs false
set_option linter.unnecessarySimpa false
set_option maxRecDepth 100000
set_option maxHeartbeats 8000000
namespace Go.Proofs.YtpcbbbilmpobaaaGreatDoor
open Go.RowKit
theorem AD.new{base:Nat}{w w':World}{sb:Nat}{L x:List UInt8}(h:AD base w sb L x w')(o:Obj):AD base w sb L x (w'.alloc o):=by
 obtain ⟨v,h1,h2,h3⟩:=h;refine ⟨v,⟨(((Frm.refl [] w').alloc o).block sb h1.lt (by simp)).trans h1.1,h1.2.1,h1.2.2.alloc _⟩,h2.trans (KP.of_frm ((Frm.refl [sb] w').alloc _)),h3.frm (S:=[]) ((Frm.refl [] _).alloc _) (by simp)⟩
theorem OW.str{base:Nat}{w:World}{v:Value}{L:List UInt8}(h:OW 5 1 base w v (yc L))(hL:0<L.length):(convert 84 9 v).run Tryz.prog w=.ok (.string (bs L)) w:=by
 have h1:=h.1;rw[yc_len,yc_flat]at h1;obtain ⟨g,cap,rfl,_,_⟩:=h1.form hL;refine run_convert_bytes_back (P:=Tryz.prog) w 84 9 5 ⟨g,0,none⟩ cap L Tryz.underlying84 Tryz.underlying5 Tryz.underlying9 ?_;intro j hj;exact World.ownsRow.cells h1 (g:=g) rfl j _ (by simp[byt,hj])
theorem RW.at{A:List Nat}{k:Nat}{w:World}{v:Value}{vs:List (List Value)}(h:RW A k w v vs):∃ a cap,v=.slice a vs.length cap∧∀ (j:Nat) (hj:j<vs.length),∃ g off,a=some ⟨g,off,none⟩∧g<w.heap.size∧∀ c x,vs[j][c]?=some x→w.cell? ⟨g,off+j*k+c,none⟩=some x:=by
 obtain ⟨a,cap,e,_,h2⟩:=h;refine ⟨a,cap,e,fun j hj=>?_⟩;obtain ⟨g,off,e1,_,h4,h5⟩:=h2 j hj;exact ⟨g,off,e1,h4,h5⟩
theorem pSave_any(A:List Nat)(pb:Nat)(V:V6)(m:Mach)(w:World)(hc:∀ j (hj:j<6),w.cell? ⟨pb,j,none⟩=some (V.cells[j]'(by simp[V6.cells];exact hj)))(hG:PG A w V m)(hM:MOK m)(hL:(eM m).length≤300000000) :
 Calls Tryz.prog 16 #[.pointer (some ⟨pb,0,none⟩)] w fun e w'=>e=.returned (.string (bs (eM m)))∧Frm [] w w':=by
 obtain ⟨m1,m2,m3,m4,m5,m6⟩:=m;obtain ⟨v1,v2,v3,v4,v5,v6⟩:=V;have hpb:pb<w.heap.size:=World.block_lt_of_cell? w _ (hc 0 (by omega));have k0:w.cell? ⟨pb,0,none⟩=some v1:=hc 0 (by omega);have k1:w.cell? ⟨pb,1,none⟩=some v2:=hc 1 (by omega);have k2:w.cell? ⟨pb,2,none⟩=some v3:=hc 2 (by omega);have k3:w.cell? ⟨pb,3,none⟩=some v4:=hc 3 (by omega);have k4:w.cell? ⟨pb,4,none⟩=some v5:=hc 4 (by omega);have k5:w.cell? ⟨pb,5,none⟩=some v6:=hc 5 (by omega);have Q1:=hide hG.n;have Q2:=hide hG.c;obtain ⟨css,hq3,hi3⟩:=hG.a;obtain ⟨a3,c3,e3,hr3⟩:=hq3.at;have RA:=hide hr3;have IA:=hide hi3;obtain ⟨a4,c4,e4,hr4⟩:=hG.t.at;have RT4:=hide hr4;obtain ⟨dss,hq5,hi5⟩:=hG.r;obtain ⟨a5,c5,e5,hr5⟩:=hq5.at;have RH:=hide hr5;have IH:=hide hi5;obtain ⟨a6,c6,e6,hr6⟩:=hG.i.at;have RI6:=hide hr6;obtain ⟨a1,c1,e1,_⟩:=hG.n.at;obtain ⟨a2,c2,e2,_⟩:=hG.c.at;simp only at e1 e2 e3 e4 e5 e6;have l3:(lst css).length=m3.length:=by rw[lst_len];exact hi3.1
 have l5:(lst dss).length=m5.length:=by rw[lst_len];exact hi5.1
 rw[sc_len]at e1 e2;rw[l3]at e3;rw[l5]at e5;rw[tc_len]at e4;rw[icl_len]at e6;have HL3:=hide l3;have HL5:=hide l5;have MM:=hide hM;have hn1:=hM.names.1;have hn2:=hM.consts.1;have hn3:=hM.autos.1;have hn4:=hM.tests.1;have hn5:=hM.routes.1;have hn6:=hM.code.2.1;simp only at hn1 hn2 hn3 hn4 hn5 hn6;have HLL:=hide hL;simp only[eM,List.length_append,nb_len]at hL;subst e1 e2 e3 e4 e5 e6;clear hG hq3 hi3 hr3 hr4 hq5 hi5 hr5 hr6 hM l3 l5 hc;obtain ⟨W2,hW2⟩:∃ W2,W2=(w.alloc (Obj.cells #[.int .u8 79, .int .u8 66, .int .u8 49] 5 (3,4))).alloc (Obj.cells #[.slice (some ⟨w.heap.size,0,none⟩) 3 3] 86):=⟨_,rfl⟩;have F0:Hid (Frm [] w W2):=by rw[hW2];exact ((Frm.refl [] w).alloc _).alloc _
 have S0:Hid (SAV w.heap.size W2 (w.heap.size+1) (.slice (some ⟨w.heap.size,0,none⟩) 3 3) markL):=by
  rw[hW2];refine ⟨?_,by omega, .inr ⟨w.heap.size,rfl,Nat.le_refl _,rfl,?_⟩⟩
  ·have:=heap1 (w.alloc (Obj.cells #[.int .u8 79, .int .u8 66, .int .u8 49] 5 (3,4))) (Obj.cells #[.slice (some ⟨w.heap.size,0,none⟩) 3 3] 86)
   rw[show (w.alloc (Obj.cells #[.int .u8 79, .int .u8 66, .int .u8 49] 5 (3,4))).heap.size=w.heap.size+1 by simp]at this;exact this
  ·exact (((Frm.refl [] (w.alloc (Obj.cells #[.int .u8 79, .int .u8 66, .int .u8 49] 5 (3,4)))).alloc _).block w.heap.size (by simp) (by simp)).trans (heap1 _ _)
 have hbs:w.heap.size≤w.heap.size+1:=by omega
 have hNM:∀ y∈m1,y.length≤1048576:=fun y hy=>by have:=(MM.out.names.2 y hy).1;omega
 have hCN:∀ y∈m2,y.length≤1048576:=fun y hy=>by have:=MM.out.consts.2 y hy;omega
 have N1:=hide (addTexts_any w A (w.heap.size+1) _ _ markL m1 W2 S0.out F0.out Q1.out hNM (by omega) (by simp[markL];omega));have N2:Hid (∀ wr v L,SAV w.heap.size wr (w.heap.size+1) v L→Frm [] w wr→L.length+(eTs m2).length≤700000000→Calls Tryz.prog 28 #[.pointer (some ⟨w.heap.size+1,0,none⟩), .slice a2 m2.length c2] wr fun e w'=>e=.returned (.tuple #[])∧AD w.heap.size wr (w.heap.size+1) L (eTs m2) w'):=fun wr v L h1 h2 h3=>addTexts_any w A (w.heap.size+1) v _ L m2 wr h1 h2 Q2.out hCN (by omega) h3
 have kc:=fun (w:World) (C:Array Value) (n c:Nat)=>Lib.run_convert_bytes_const (P:=Tryz.prog) w 84 5 C n c Tryz.underlying84 Tryz.underlying5
 clear hNM hCN Q1 Q2;go_enter Tryz.func16,Tryz.ntmps16
 have N1':=N1.out;rw[hW2]at N1';have y0:W2.cell? ⟨pb,0,none⟩=some (.slice a1 m1.length c1):=(F0.out.cell (p:=⟨pb,0,none⟩) hpb (by simp)).trans k0;go_wp2_with fail
 refine N1'.mono ?_;clear N1' N1 y0 kc;rintro e w3 ⟨rfl,hA3⟩;have A3:Hid (AD w.heap.size W2 (w.heap.size+1) markL (eTs m1) w3):=by rw[hW2];exact hA3
 clear hA3;obtain ⟨u3,hS3⟩:=A3.out.sav;have FW3:=hide ((A3.out.kp).frm F0.out hbs);have hZ:∀ x:List UInt8,(markL++x).length=3+x.length:=fun x=>by simp[markL];omega
 have HZ:=hide hZ;clear hZ;have N3:=hide (N2.out w3 u3 _ hS3 FW3.out (by rw[HZ.out];omega));have y1:w3.cell? ⟨pb,1,none⟩=some (.slice a2 m2.length c2):=(FW3.out.cell (p:=⟨pb,1,none⟩) hpb (by simp)).trans k1;clear hS3 N2;go_wp2_with fail
 refine (N3.out).mono ?_;rintro e w4 ⟨rfl,hA4⟩;have A4:=hide (A3.out.add (fun _ _=>hA4));clear hA4 A3 N3 y1 FW3;obtain ⟨u4,hS4⟩:=A4.out.sav;have FW4:=hide ((A4.out.kp).frm F0.out hbs);have N5:=hide (addNumber_any 1 w.heap.size (w.heap.size+1) u4 _ m3.length 1 w4 (by omega) (by omega) rfl hS4 (by rw[HZ.out];simp only[List.length_append,nb_len];omega) FW4.out.size (by omega));have y5:w4.cell? ⟨pb,2,none⟩=some (.slice a3 m3.length c3):=(FW4.out.cell (p:=⟨pb,2,none⟩) hpb (by simp)).trans k2;clear hS4;go_wp2_with fail
 refine (N5.out).mono ?_;rintro e w5 ⟨rfl,hA5⟩;have A5:=hide (A4.out.add (fun _ _=>hA5));clear hA5 A4 N5 y5 FW4;have FW5:=hide ((A5.out.kp).frm F0.out hbs);have y5:w5.cell? ⟨pb,2,none⟩=some (.slice a3 m3.length c3):=(FW5.out.cell (p:=⟨pb,2,none⟩) hpb (by simp)).trans k2;have HX5:Hid (∀ j,((m3.take j).flatMap eA).length≤(m3.flatMap eA).length):=fun j=>by
  have e1:(m3.flatMap eA).length=((m3.take j).flatMap eA).length+((m3.drop j).flatMap eA).length:=by rw[← List.length_append,← List.flatMap_append,List.take_append_drop]
  omega
 go_wp2_with fail
 go_loopg [35] m3.length (fun k v35 wr=>∃ j:Nat,j+k=m3.length∧v35=.int .i64 j∧AD w.heap.size W2 (w.heap.size+1) markL (eTs m1++eTs m2++nb 1 m3.length++(m3.take j).flatMap eA) wr)
 case atStart=>exact ⟨0,by omega,rfl,by simpa using A5.out⟩
 case round =>
 clear A5 FW5 y5;obtain ⟨j,hjk,rfl,hA⟩:=hrel;have A6:=hide hA;clear hA;have FW6:=hide ((A6.out.kp).frm F0.out hbs);have y6:wr.cell? ⟨pb,2,none⟩=some (.slice a3 m3.length c3):=(FW6.out.cell (p:=⟨pb,2,none⟩) hpb (by simp)).trans k2
 by_cases hlt:j<m3.length
 ·have hd1:decide ((j:Int)<(m3.length:Int))=true:=decide_eq_true (by omega)
  obtain ⟨g,off,e1,hg,hcc⟩:=RA.out j (by rw[HL3.out];exact hlt);have hcl:j<css.length:=by have:=HL3.out;rw[lst_len]at this;omega
  obtain ⟨va,vn,hac,ra,rn⟩:=IA.out.2 j css[j] m3[j] (by simp[hcl]) (by simp[hlt]);have hOK:=MM.out.autos.2 m3[j] (List.getElem_mem hlt);have hU:AUm w g (off+j*259) m3[j] va vn:=by
   have hh:∀ c x,(acell m3[j] va vn).toList[c]?=some x→w.cell? ⟨g,off+j*259+c,none⟩=some x:=by
    intro c x hx;refine hcc c x ?_;simp only[lst,List.getElem_map];rw[hac];exact hx
   have hlc:m3[j].cl.length=256:=hOK.cl;refine ⟨hg,hh 0 _ (by simp[acell]),fun c hc=>?_,hh 257 _ ?_,hh 258 _ ?_⟩
   ·have:=hh (1+c) (.int .u8 (m3[j].cl.getD c 0:Nat)) (by
     have hl:c<m3[j].cl.length:=by omega
     simp only[acell];rw[Nat.add_comm,List.getElem?_cons_succ,List.getElem?_append_left (by simp[nv];exact hl)];simp[nv,hl,List.getD])
    rwa [← Nat.add_assoc]at this
   ·simp only[acell]
    rw[List.getElem?_cons_succ,List.getElem?_append_right (by simp[nv,hlc])];simp[nv,hlc]
   ·simp only[acell]
    rw[List.getElem?_cons_succ,List.getElem?_append_right (by simp[nv,hlc])];simp[nv,hlc]
  have HT:Hid ((m3.take (j+1)).flatMap eA=(m3.take j).flatMap eA++eA m3[j]):=by
   show _=_;rw[List.take_succ_eq_append_getElem hlt,List.flatMap_append];simp
  have hb1:=HX5.out (j+1);rw[HT.out,List.length_append]at hb1;obtain ⟨u6,hS6⟩:=A6.out.sav;have N7:=hide (addAutomaton_any w A (w.heap.size+1) u6 _ m3[j] va vn g (off+j*259) wr hS6 FW6.out hU ra rn hOK (by rw[HZ.out];simp only[List.length_append,nb_len];omega));subst e1;clear hS6 hU hac ra rn hOK hcc;generalize m3[j]=x at *;go_wp2_with fail
  refine (N7.out).mono ?_;rintro e w7 ⟨rfl,hA7⟩;have A7:=hide (A6.out.add (fun _ _=>hA7));clear hA7 N7;go_wp2_with fail
  go_roundg (gk-1)
  case measure=>omega
  case rel =>
   refine ⟨j+1,by omega,by go_num,?_⟩;rw[HT.out,← List.append_assoc];exact A7.out
 have hd1:decide ((j:Int)<(m3.length:Int))=false:=decide_eq_false (by omega);have A7:Hid (AD w.heap.size W2 (w.heap.size+1) markL (eTs m1++eTs m2++nb 1 m3.length++m3.flatMap eA) wr):=by
  have h:=A6.out;rw[List.take_of_length_le (by omega)]at h;exact h
 clear A6 FW6 y6 hjk;obtain ⟨w7,hw7⟩:∃ w7,w7=wr:=⟨_,rfl⟩;rw[← hw7]at A7 ⊢;clear hw7;obtain ⟨u7,hS7⟩:=A7.out.sav;have FW7:=hide ((A7.out.kp).frm F0.out hbs);have N8:=hide (addNumber_any 1 w.heap.size (w.heap.size+1) u7 _ m4.length 1 w7 (by omega) (by omega) rfl hS7 (by rw[HZ.out];simp only[List.length_append,nb_len];omega) FW7.out.size (by omega));have y8:w7.cell? ⟨pb,3,none⟩=some (.slice a4 m4.length c4):=(FW7.out.cell (p:=⟨pb,3,none⟩) hpb (by simp)).trans k3;clear hS7;go_wp2_with fail
 refine (N8.out).mono ?_;rintro e w8 ⟨rfl,hA8⟩;have A8:=hide (A7.out.add (fun _ _=>hA8));clear hA8 A7 N8 y8 FW7;have FWa:=hide ((A8.out.kp).frm F0.out hbs);have ya:w8.cell? ⟨pb,3,none⟩=some (.slice a4 m4.length c4):=(FWa.out.cell (p:=⟨pb,3,none⟩) hpb (by simp)).trans k3;have HXa:Hid (∀ j,((m4.take j).flatMap eTt).length≤(m4.flatMap eTt).length):=fun j=>by
  have e1:(m4.flatMap eTt).length=((m4.take j).flatMap eTt).length+((m4.drop j).flatMap eTt).length:=by rw[← List.length_append,← List.flatMap_append,List.take_append_drop]
  omega
 go_wp2_with fail
 go_loopg [57] m4.length (fun k vk wr=>∃ j:Nat,j+k=m4.length∧vk=.int .i64 j∧AD w.heap.size W2 (w.heap.size+1) markL (eTs m1++eTs m2++nb 1 m3.length++m3.flatMap eA++nb 1 m4.length++(m4.take j).flatMap eTt) wr)
 case atStart=>exact ⟨0,by omega,rfl,by simpa using A8.out⟩
 case round =>
 clear A8 FWa ya;obtain ⟨j,hjk,rfl,hA⟩:=hrel;have Aq:=hide hA;clear hA;have FWq:=hide ((Aq.out.kp).frm F0.out hbs)
 by_cases hlt:j<m4.length
 ·have hd1:decide ((j:Int)<(m4.length:Int))=true:=decide_eq_true (by omega)
  have HT:Hid ((m4.take (j+1)).flatMap eTt=(m4.take j).flatMap eTt++eTt m4[j]):=by
   show _=_;rw[List.take_succ_eq_append_getElem hlt,List.flatMap_append];simp
  have hb1:=HXa.out (j+1);rw[HT.out,List.length_append]at hb1;obtain ⟨g,off,e1,hg,hcc⟩:=RT4.out j (by rw[tc_len];exact hlt);have h0:wr.cell? ⟨g,off+j*3,none⟩=some (.int .i64 (m4[j].n:Nat)):=(FWq.out.cell (p:=⟨g,off+j*3+0,none⟩) hg (by simp)).trans (hcc 0 _ (by simp[tc,tcell]));have h1:wr.cell? ⟨g,off+j*3+1,none⟩=some (.int .i64 (m4[j].k:Nat)):=(FWq.out.cell (p:=⟨g,off+j*3+1,none⟩) hg (by simp)).trans (hcc 1 _ (by simp[tc,tcell]));have h2:wr.cell? ⟨g,off+j*3+2,none⟩=some (.int .i64 (m4[j].x:Nat)):=(FWq.out.cell (p:=⟨g,off+j*3+2,none⟩) hg (by simp)).trans (hcc 2 _ (by simp[tc,tcell]));have hOK:=MM.out.tests.2 m4[j] (List.getElem_mem hlt);have o1:m4[j].n<16777216:=by have:=hOK.n;simp only at this;omega
  have o2:m4[j].k<16777216:=by have:=hOK.k;omega
  have o3:m4[j].x<16777216:=by have h:=hOK.x;simp only at h;split at h<;>omega
  clear hOK;subst e1;clear hcc;generalize m4[j]=x at *;obtain ⟨x0,x1,x2⟩:=x;simp only at h0 h1 h2 HT hb1 o1 o2 o3;have HE:Hid (eTt ⟨x0,x1,x2⟩=nb 1 x0++(nb 1 x1++nb 1 x2)):=rfl;rw[HE.out]at hb1;simp only[List.length_append,nb_len]at hb1;have B0:Hid ((wr.alloc (Obj.cells #[.int .i64 (x0:Nat), .int .i64 (x1:Nat), .int .i64 (x2:Nat)] 97)).heap[wr.heap.size]?=some (.cells #[.int .i64 (x0:Nat), .int .i64 (x1:Nat), .int .i64 (x2:Nat)] 97 (0,0))):=heap1 _ _;have Ac0:=hide (Aq.out.new (Obj.cells #[.int .i64 (x0:Nat), .int .i64 (x1:Nat), .int .i64 (x2:Nat)] 97));have hz0:=FWq.out.size;have hsl:w.heap.size+1<wr.heap.size:=by obtain ⟨_,h⟩:=Aq.out.sav;exact h.lt
  obtain ⟨uu0,hS0⟩:=Ac0.out.sav;have FN0:=hide ((Ac0.out.kp).frm F0.out hbs);have NN0:=hide (addNumber_any 1 w.heap.size (w.heap.size+1) uu0 _ x0 1 (wr.alloc (Obj.cells #[.int .i64 (x0:Nat), .int .i64 (x1:Nat), .int .i64 (x2:Nat)] 97)) (by omega) (by omega) rfl hS0 (by rw[HZ.out];simp only[List.length_append,nb_len];omega) FN0.out.size (by omega));clear hS0;go_wp2_with fail
  refine (NN0.out).mono ?_;rintro e ww1 ⟨rfl,hA1⟩;have Ac1:=hide (Ac0.out.add (fun _ _=>hA1));have B1:=hide (hA1.kp.loc B0.out (by decide) (by omega));clear hA1 Ac0 NN0 FN0 B0;obtain ⟨uu1,hS1⟩:=Ac1.out.sav;have FN1:=hide ((Ac1.out.kp).frm F0.out hbs);have NN1:=hide (addNumber_any 1 w.heap.size (w.heap.size+1) uu1 _ x1 1 ww1 (by omega) (by omega) rfl hS1 (by rw[HZ.out];simp only[List.length_append,nb_len];omega) FN1.out.size (by omega));have dd1:ww1.cell? ⟨wr.heap.size,1,none⟩=some (.int .i64 (x1:Nat)):=by simp[World.cell?,B1.out]
  clear hS1;go_wp2_with fail
  refine (NN1.out).mono ?_;rintro e ww2 ⟨rfl,hA2⟩;have Ac2:=hide (Ac1.out.add (fun _ _=>hA2));have B2:=hide (hA2.kp.loc B1.out (by decide) (by omega));clear hA2 Ac1 NN1 FN1 B1 dd1;obtain ⟨uu2,hS2⟩:=Ac2.out.sav;have FN2:=hide ((Ac2.out.kp).frm F0.out hbs);have NN2:=hide (addNumber_any 1 w.heap.size (w.heap.size+1) uu2 _ x2 1 ww2 (by omega) (by omega) rfl hS2 (by rw[HZ.out];simp only[List.length_append,nb_len];omega) FN2.out.size (by omega));have dd2:ww2.cell? ⟨wr.heap.size,2,none⟩=some (.int .i64 (x2:Nat)):=by simp[World.cell?,B2.out]
  clear hS2;go_wp2_with fail
  refine (NN2.out).mono ?_;rintro e ww3 ⟨rfl,hA3⟩;have Ac3:=hide (Ac2.out.add (fun _ _=>hA3));have B3:=hide (hA3.kp.loc B2.out (by decide) (by omega));clear hA3 Ac2 NN2 FN2 B2 dd2;go_wp2_with fail
  go_roundg (gk-1)
  case measure=>omega
  case rel =>
   refine ⟨j+1,by omega,by go_num,?_⟩;rw[HT.out,HE.out];simpa[List.append_assoc] using Ac3.out
 have hd1:decide ((j:Int)<(m4.length:Int))=false:=decide_eq_false (by omega);have A9:Hid (AD w.heap.size W2 (w.heap.size+1) markL (eTs m1++eTs m2++nb 1 m3.length++m3.flatMap eA++nb 1 m4.length++m4.flatMap eTt) wr):=by
  have h:=Aq.out;rw[List.take_of_length_le (by omega)]at h;exact h
 clear Aq FWq hjk HXa;obtain ⟨w9,hwe⟩:∃ x,x=wr:=⟨_,rfl⟩;rw[← hwe]at A9 ⊢;clear hwe;obtain ⟨u9,hS9⟩:=A9.out.sav;have FW9:=hide ((A9.out.kp).frm F0.out hbs);have N10:=hide (addNumber_any 1 w.heap.size (w.heap.size+1) u9 _ m5.length 1 w9 (by omega) (by omega) rfl hS9 (by rw[HZ.out];simp only[List.length_append,nb_len];omega) FW9.out.size (by omega));have y10:w9.cell? ⟨pb,4,none⟩=some (.slice a5 m5.length c5):=(FW9.out.cell (p:=⟨pb,4,none⟩) hpb (by simp)).trans k4;clear hS9;go_wp2_with fail
 refine (N10.out).mono ?_;rintro e w10 ⟨rfl,hA10⟩;have A10:=hide (A9.out.add (fun _ _=>hA10));clear hA10 A9 N10 y10 FW9;have FWa:=hide ((A10.out.kp).frm F0.out hbs);have ya:w10.cell? ⟨pb,4,none⟩=some (.slice a5 m5.length c5):=(FWa.out.cell (p:=⟨pb,4,none⟩) hpb (by simp)).trans k4;have HXa:Hid (∀ j,((m5.take j).flatMap eH).length≤(m5.flatMap eH).length):=fun j=>by
  have e1:(m5.flatMap eH).length=((m5.take j).flatMap eH).length+((m5.drop j).flatMap eH).length:=by rw[← List.length_append,← List.flatMap_append,List.take_append_drop]
  omega
 go_wp2_with fail
 go_loopg [82] m5.length (fun k vk wr=>∃ j:Nat,j+k=m5.length∧vk=.int .i64 j∧AD w.heap.size W2 (w.heap.size+1) markL (eTs m1++eTs m2++nb 1 m3.length++m3.flatMap eA++nb 1 m4.length++m4.flatMap eTt++nb 1 m5.length++(m5.take j).flatMap eH) wr)
 case atStart=>exact ⟨0,by omega,rfl,by simpa using A10.out⟩
 case round =>
 clear A10 FWa ya;obtain ⟨j,hjk,rfl,hA⟩:=hrel;have Aq:=hide hA;clear hA;have FWq:=hide ((Aq.out.kp).frm F0.out hbs)
 by_cases hlt:j<m5.length
 ·have hd1:decide ((j:Int)<(m5.length:Int))=true:=decide_eq_true (by omega)
  have HT:Hid ((m5.take (j+1)).flatMap eH=(m5.take j).flatMap eH++eH m5[j]):=by
   show _=_;rw[List.take_succ_eq_append_getElem hlt,List.flatMap_append];simp
  have hb1:=HXa.out (j+1);rw[HT.out,List.length_append]at hb1;obtain ⟨g,off,e1,hg,hcc⟩:=RH.out j (by rw[HL5.out];exact hlt);have hcl:j<dss.length:=by have:=HL5.out;rw[lst_len]at this;omega
  obtain ⟨vb,hac,rb⟩:=IH.out.2 j dss[j] m5[j] (by simp[hcl]) (by simp[hlt]);have hOK:=MM.out.routes.2 m5[j] (List.getElem_mem hlt);obtain ⟨ab,cb,eb⟩:=rb.shape;rw[sc_len]at eb;subst eb;have hh:∀ c x,(hcell m5[j] (.slice ab m5[j].bl.length cb)).toList[c]?=some x→wr.cell? ⟨g,off+j*5+c,none⟩=some x:=by
   intro c x hx;refine (FWq.out.cell (p:=⟨g,off+j*5+c,none⟩) hg (by simp)).trans (hcc c x ?_);simp only[lst,List.getElem_map];rw[hac];exact hx
  have h0:wr.cell? ⟨g,off+j*5,none⟩=some (.string (bs m5[j].rc)):=hh 0 _ rfl;have h1:wr.cell? ⟨g,off+j*5+1,none⟩=some (.slice ab m5[j].bl.length cb):=hh 1 _ rfl;have h2:wr.cell? ⟨g,off+j*5+2,none⟩=some (.int .i64 (m5[j].wt:Nat)):=hh 2 _ rfl;have h3:wr.cell? ⟨g,off+j*5+3,none⟩=some (.int .i64 (m5[j].ev:Nat)):=hh 3 _ rfl;have h4:wr.cell? ⟨g,off+j*5+4,none⟩=some (.int .i64 (m5[j].rp:Nat)):=hh 4 _ rfl;have Ac0:=hide (Aq.out.new (Obj.cells (hcell m5[j] (.slice ab m5[j].bl.length cb)) 99));obtain ⟨uu0,hS0⟩:=Ac0.out.sav;have FN0:=hide ((Ac0.out.kp).frm F0.out hbs);have NN0:=hide (addHit_any w A (w.heap.size+1) uu0 _ m5[j] ab cb _ hS0 FN0.out rb (by have:=hOK.rc.1;omega) (fun y hy=>by have:=(hOK.b2 y hy).1;omega) (by have:=hOK.b1;omega) (by have:=hOK.wt;omega) (by have:=hOK.ev;omega) (by have:=hOK.rp;omega) (by rw[HZ.out];simp only[List.length_append,nb_len];omega));subst e1;clear hcc hac rb hOK hh hS0;generalize m5[j]=x at *;obtain ⟨x0,x1,x2,x3,x4⟩:=x;simp only[hcell]at h0 h1 h2 h3 h4 NN0;go_wp2_with fail
  refine (NN0.out).mono ?_;rintro e ww1 ⟨rfl,hA1⟩;have Ac1:=hide (Ac0.out.add (fun _ _=>hA1));clear hA1 Ac0 NN0 FN0;go_wp2_with fail
  go_roundg (gk-1)
  case measure=>omega
  case rel =>
   refine ⟨j+1,by omega,by go_num,?_⟩;rw[HT.out,← List.append_assoc];exact Ac1.out
 have hd1:decide ((j:Int)<(m5.length:Int))=false:=decide_eq_false (by omega);have A11:Hid (AD w.heap.size W2 (w.heap.size+1) markL (eTs m1++eTs m2++nb 1 m3.length++m3.flatMap eA++nb 1 m4.length++m4.flatMap eTt++nb 1 m5.length++m5.flatMap eH) wr):=by
  have h:=Aq.out;rw[List.take_of_length_le (by omega)]at h;exact h
 clear Aq FWq hjk HXa;obtain ⟨w11,hwe⟩:∃ x,x=wr:=⟨_,rfl⟩;rw[← hwe]at A11 ⊢;clear hwe;obtain ⟨u11,hS11⟩:=A11.out.sav;have FW11:=hide ((A11.out.kp).frm F0.out hbs);have N12:=hide (addNumber_any 2 w.heap.size (w.heap.size+1) u11 _ m6.length 2 w11 (by omega) (by omega) rfl hS11 (by rw[HZ.out];simp only[List.length_append,nb_len];omega) FW11.out.size (by omega));have y12:w11.cell? ⟨pb,5,none⟩=some (.slice a6 m6.length c6):=(FW11.out.cell (p:=⟨pb,5,none⟩) hpb (by simp)).trans k5;clear hS11;go_wp2_with fail
 refine (N12.out).mono ?_;rintro e w12 ⟨rfl,hA12⟩;have A12:=hide (A11.out.add (fun _ _=>hA12));clear hA12 A11 N12 y12 FW11;have FWa:=hide ((A12.out.kp).frm F0.out hbs);have ya:w12.cell? ⟨pb,5,none⟩=some (.slice a6 m6.length c6):=(FWa.out.cell (p:=⟨pb,5,none⟩) hpb (by simp)).trans k5;have HXa:Hid (∀ j,((m6.take j).flatMap eI).length≤(m6.flatMap eI).length):=fun j=>by
  have e1:(m6.flatMap eI).length=((m6.take j).flatMap eI).length+((m6.drop j).flatMap eI).length:=by rw[← List.length_append,← List.flatMap_append,List.take_append_drop]
  omega
 go_wp2_with fail
 go_loopg [100] m6.length (fun k vk wr=>∃ j:Nat,j+k=m6.length∧vk=.int .i64 j∧AD w.heap.size W2 (w.heap.size+1) markL (eTs m1++eTs m2++nb 1 m3.length++m3.flatMap eA++nb 1 m4.length++m4.flatMap eTt++nb 1 m5.length++m5.flatMap eH++nb 2 m6.length++(m6.take j).flatMap eI) wr)
 case atStart=>exact ⟨0,by omega,rfl,by simpa using A12.out⟩
 case round =>
 clear A12 FWa ya;obtain ⟨j,hjk,rfl,hA⟩:=hrel;have Aq:=hide hA;clear hA;have FWq:=hide ((Aq.out.kp).frm F0.out hbs)
 by_cases hlt:j<m6.length
 ·have hd1:decide ((j:Int)<(m6.length:Int))=true:=decide_eq_true (by omega)
  have HT:Hid ((m6.take (j+1)).flatMap eI=(m6.take j).flatMap eI++eI m6[j]):=by
   show _=_;rw[List.take_succ_eq_append_getElem hlt,List.flatMap_append];simp
  have hb1:=HXa.out (j+1);rw[HT.out,List.length_append]at hb1;obtain ⟨g,off,e1,hg,hcc⟩:=RI6.out j (by rw[icl_len];exact hlt);have h0:wr.cell? ⟨g,off+j*4,none⟩=some (.int .i64 (m6[j].op:Nat)):=(FWq.out.cell (p:=⟨g,off+j*4+0,none⟩) hg (by simp)).trans (hcc 0 _ (by simp[icl,icell]));have h1:wr.cell? ⟨g,off+j*4+1,none⟩=some (.int .i64 (m6[j].x:Nat)):=(FWq.out.cell (p:=⟨g,off+j*4+1,none⟩) hg (by simp)).trans (hcc 1 _ (by simp[icl,icell]));have h2:wr.cell? ⟨g,off+j*4+2,none⟩=some (.int .i64 (m6[j].a:Nat)):=(FWq.out.cell (p:=⟨g,off+j*4+2,none⟩) hg (by simp)).trans (hcc 2 _ (by simp[icl,icell]));have h3:wr.cell? ⟨g,off+j*4+3,none⟩=some (.int .i64 (m6[j].b:Nat)):=(FWq.out.cell (p:=⟨g,off+j*4+3,none⟩) hg (by simp)).trans (hcc 3 _ (by simp[icl,icell]));have hOK:=MM.out.code.2.2 j hlt;have o1:m6[j].op<16777216:=by have:=hOK.op;simp only at this;omega
  have o2:m6[j].x<16777216:=by have:=hOK.x;simp only at this;omega
  have o3:m6[j].a<16777216:=by have:=hOK.a;simp only at this;omega
  have o4:m6[j].b<16777216:=by have:=hOK.b;simp only at this;omega
  clear hOK;subst e1;clear hcc;generalize m6[j]=x at *;obtain ⟨x0,x1,x2,x3⟩:=x;simp only at h0 h1 h2 h3 HT hb1 o1 o2 o3 o4;have HE:Hid (eI ⟨x0,x1,x2,x3⟩=nb 1 x0++(nb 1 x1++(nb 2 x2++nb 2 x3))):=rfl;rw[HE.out]at hb1;simp only[List.length_append,nb_len]at hb1;have B0:Hid ((wr.alloc (Obj.cells #[.int .i64 (x0:Nat), .int .i64 (x1:Nat), .int .i64 (x2:Nat), .int .i64 (x3:Nat)] 102)).heap[wr.heap.size]?=some (.cells #[.int .i64 (x0:Nat), .int .i64 (x1:Nat), .int .i64 (x2:Nat), .int .i64 (x3:Nat)] 102 (0,0))):=heap1 _ _;have Ac0:=hide (Aq.out.new (Obj.cells #[.int .i64 (x0:Nat), .int .i64 (x1:Nat), .int .i64 (x2:Nat), .int .i64 (x3:Nat)] 102));have hz0:=FWq.out.size;have hsl:w.heap.size+1<wr.heap.size:=by obtain ⟨_,h⟩:=Aq.out.sav;exact h.lt
  obtain ⟨uu0,hS0⟩:=Ac0.out.sav;have FN0:=hide ((Ac0.out.kp).frm F0.out hbs);have NN0:=hide (addNumber_any 1 w.heap.size (w.heap.size+1) uu0 _ x0 1 (wr.alloc (Obj.cells #[.int .i64 (x0:Nat), .int .i64 (x1:Nat), .int .i64 (x2:Nat), .int .i64 (x3:Nat)] 102)) (by omega) (by omega) rfl hS0 (by rw[HZ.out];simp only[List.length_append,nb_len];omega) FN0.out.size (by omega));clear hS0;go_wp2_with fail
  refine (NN0.out).mono ?_;rintro e ww1 ⟨rfl,hA1⟩;have Ac1:=hide (Ac0.out.add (fun _ _=>hA1));have B1:=hide (hA1.kp.loc B0.out (by decide) (by omega));clear hA1 Ac0 NN0 FN0 B0;obtain ⟨uu1,hS1⟩:=Ac1.out.sav;have FN1:=hide ((Ac1.out.kp).frm F0.out hbs);have NN1:=hide (addNumber_any 1 w.heap.size (w.heap.size+1) uu1 _ x1 1 ww1 (by omega) (by omega) rfl hS1 (by rw[HZ.out];simp only[List.length_append,nb_len];omega) FN1.out.size (by omega));have dd1:ww1.cell? ⟨wr.heap.size,1,none⟩=some (.int .i64 (x1:Nat)):=by simp[World.cell?,B1.out]
  clear hS1;go_wp2_with fail
  refine (NN1.out).mono ?_;rintro e ww2 ⟨rfl,hA2⟩;have Ac2:=hide (Ac1.out.add (fun _ _=>hA2));have B2:=hide (hA2.kp.loc B1.out (by decide) (by omega));clear hA2 Ac1 NN1 FN1 B1 dd1;obtain ⟨uu2,hS2⟩:=Ac2.out.sav;have FN2:=hide ((Ac2.out.kp).frm F0.out hbs);have NN2:=hide (addNumber_any 2 w.heap.size (w.heap.size+1) uu2 _ x2 2 ww2 (by omega) (by omega) rfl hS2 (by rw[HZ.out];simp only[List.length_append,nb_len];omega) FN2.out.size (by omega));have dd2:ww2.cell? ⟨wr.heap.size,2,none⟩=some (.int .i64 (x2:Nat)):=by simp[World.cell?,B2.out]
  clear hS2;go_wp2_with fail
  refine (NN2.out).mono ?_;rintro e ww3 ⟨rfl,hA3⟩;have Ac3:=hide (Ac2.out.add (fun _ _=>hA3));have B3:=hide (hA3.kp.loc B2.out (by decide) (by omega));clear hA3 Ac2 NN2 FN2 B2 dd2;obtain ⟨uu3,hS3⟩:=Ac3.out.sav;have FN3:=hide ((Ac3.out.kp).frm F0.out hbs);have NN3:=hide (addNumber_any 2 w.heap.size (w.heap.size+1) uu3 _ x3 2 ww3 (by omega) (by omega) rfl hS3 (by rw[HZ.out];simp only[List.length_append,nb_len];omega) FN3.out.size (by omega));have dd3:ww3.cell? ⟨wr.heap.size,3,none⟩=some (.int .i64 (x3:Nat)):=by simp[World.cell?,B3.out]
  clear hS3;go_wp2_with fail
  refine (NN3.out).mono ?_;rintro e ww4 ⟨rfl,hA4⟩;have Ac4:=hide (Ac3.out.add (fun _ _=>hA4));have B4:=hide (hA4.kp.loc B3.out (by decide) (by omega));clear hA4 Ac3 NN3 FN3 B3 dd3;go_wp2_with fail
  go_roundg (gk-1)
  case measure=>omega
  case rel =>
   refine ⟨j+1,by omega,by go_num,?_⟩;rw[HT.out,HE.out];simpa[List.append_assoc] using Ac4.out
 have hd1:decide ((j:Int)<(m6.length:Int))=false:=decide_eq_false (by omega);have A13:Hid (AD w.heap.size W2 (w.heap.size+1) markL (eTs m1++eTs m2++nb 1 m3.length++m3.flatMap eA++nb 1 m4.length++m4.flatMap eTt++nb 1 m5.length++m5.flatMap eH++nb 2 m6.length++m6.flatMap eI) wr):=by
  have h:=Aq.out;rw[List.take_of_length_le (by omega)]at h;exact h
 clear Aq FWq hjk HXa;obtain ⟨w13,hwe⟩:∃ x,x=wr:=⟨_,rfl⟩;rw[← hwe]at A13 ⊢;clear hwe;obtain ⟨u13,hS13,hK13,hO13⟩:=A13.out;have FW13:=hide (hK13.frm F0.out hbs);have HEM:Hid (markL++(eTs m1++eTs m2++nb 1 m3.length++m3.flatMap eA++nb 1 m4.length++m4.flatMap eTt++nb 1 m5.length++m5.flatMap eH++nb 2 m6.length++m6.flatMap eI)=eM ⟨m1,m2,m3,m4,m5,m6⟩):=by show _=_;unfold eM;simp only[List.append_assoc]
 rw[HEM.out]at hS13 hO13;have y13:=hS13.c0;have hst:=hO13.str (by have:=HLL.out;unfold eM;simp[markL]);obtain ⟨a13,c13,e13⟩:=hS13.2.2.shape;subst e13;clear A13 hS13 hO13 hK13;go_wp2;go_ret;exact ⟨rfl,FW13.out⟩
theorem aSave_any(A:List Nat)(pb:Nat)(V:V6)(m:Mach)(w:World)(h:PR A w pb V m)(hM:MOK m)(hL:(eM m).length≤300000000) :
 Calls Tryz.prog 10 #[.pointer (some ⟨pb,0,none⟩)] w fun e w'=>e=.returned (.string (bs (eM m)))∧Frm [] w w':=by
 have N1:=hide (pSave_any (pb::A) pb V m w (by
  intro j hj;simp only[World.cell?,h.row];rw[Array.getElem?_eq_getElem (by simp[V6.cells];exact hj)]
  rfl) h.pg hM hL)
 obtain ⟨a6,c6,e6⟩:=h.pg.i.shape;rw[icl_len]at e6;have k5:w.cell? ⟨pb,5,none⟩=some (.slice a6 m.code.length c6):=by
  simp only[World.cell?,h.row];rw[← e6];rfl
 have hpos:=hM.code.1;have hb:((m.code.length:Int)==0)=false:=by rw[beq_eq_false_iff_ne];omega
 clear h hM;go_enter Tryz.func10,Tryz.ntmps10
 go_wp2_with fail
 refine (N1.out).mono ?_;rintro e w1 ⟨rfl,hF⟩;have F:=hide hF;clear hF N1;go_wp2;go_ret;exact ⟨rfl,F.out⟩
/-! A program's bytes are that program. -/
theorem nmV_nb:∀ (n v:Nat),v<256 ^ n→nmV (nb n v)=v
 | 0,v,h=>by simp at h;subst h;rfl
 | n+1,v,h=>by
   rw[nb,nmV_snoc,nmV_nb n (v / 256) (by rw[Nat.pow_succ]at h;omega)];have:(UInt8.ofNat (v % 256)).toNat=v % 256:=by simp
   omega
theorem pN_of{n lo hi v:Nat}(h1:lo≤v)(h2:v<hi)(h3:v<256 ^ n)(r:List UInt8):pN n lo hi (nb n v++r)=some (v,r):=by
 have hl:=nb_len n v;unfold pN;rw[List.take_append_of_le_length (by omega),List.take_of_length_le (by omega),List.drop_append_of_le_length (by omega),List.drop_of_length_le (by omega),nmV_nb n v h3,if_pos ⟨by simp;omega,h1,h2⟩]
 rfl
theorem pT_of{hi:Nat}{t:List UInt8}(h:t.length<hi)(h2:t.length<256)(r:List UInt8):pT hi (eT t++r)=some (t,r):=by
 unfold pT eT;rw[List.append_assoc,pN_of (Nat.zero_le _) h (by simpa using h2)];simp
theorem pNm_of{n:List UInt8}(h:okName n)(r:List UInt8):pNm (eT n++r)=some (n,r):=by
 unfold pNm;rw[pT_of h.1 (by have:=h.1;omega)];simp[h.2]
theorem pR_of{α:Type}{p:Nat→PT α}{enc:α→List UInt8}:∀ (l acc:List α) (r:List UInt8),(∀ j (h:j<l.length) r',p (acc.length+j) (enc l[j]++r')=some (l[j],r'))→pR p l.length acc (l.flatMap enc++r)=some (acc++l,r)
 | [],acc,r,_=>by simp[pR]
 | x::l,acc,r,h=>by
   rw[List.length_cons,pR_succ,List.flatMap_cons,List.append_assoc];have h0:=h 0 (by simp) (l.flatMap enc++r);simp only[Nat.add_zero,List.getElem_cons_zero]at h0;rw[h0];show pR p l.length (acc++[x]) (l.flatMap enc++r)=_;rw[pR_of l (acc++[x]) r (fun j hj r'=>?_)]
   ·simp
   ·have:=h (j+1) (by simpa using hj) r'
    simp only[List.getElem_cons_succ]at this;rw[List.length_append,List.length_singleton,show acc.length+1+j=acc.length+(j+1) by omega];exact this
theorem pR_each{α:Type}{p:PT α}{enc:α→List UInt8}(l:List α)(r:List UInt8)(h:∀ x∈l,∀ r',p (enc x++r')=some (x,r')):pR (fun _=>p) l.length [] (l.flatMap enc++r)=some (l,r):=by
 have:=pR_of (p:=fun _=>p) (enc:=enc) l [] r (fun j hj r'=>h _ (List.getElem_mem _) r');simpa using this
theorem pL_of{hi:Nat}{l:List (List UInt8)}(h:l.length<hi)(h2:l.length<256)(ho:∀ n∈l,okName n)(r:List UInt8):pL hi (eTs l++r)=some (l,r):=by
 unfold pL eTs;rw[List.append_assoc,pN_of (Nat.zero_le _) h (by simpa using h2)];exact pR_each l r (fun x hx r'=>pNm_of (ho x hx) r')
theorem pCs_of{l:List (List UInt8)}(h:l.length<256)(ho:∀ n∈l,n.length<41)(r:List UInt8):pCs (eTs l++r)=some (l,r):=by
 unfold pCs eTs;rw[List.append_assoc,pN_of (Nat.zero_le _) h (by simpa using h)];exact pR_each l r (fun x hx r'=>pT_of (ho x hx) (by have:=ho x hx;omega) r')
theorem pA_of{a:AutM}(ok:AutOK a)(r:List UInt8):pA (eA a++r)=some (a,r):=by
 have s2:=ok.s2;have k2:=ok.k2;unfold pA eA;simp only[List.append_assoc];rw[pN_of ok.s1 (by omega) (by simp;omega)];simp only[Option.bind_some];rw[pN_of ok.k1 (by omega) (by simp;omega)];simp only[Option.bind_some];have e1:=pR_each (p:=pN 1 0 a.k) (enc:=nb 1) a.cl (a.acc.flatMap (nb 1)++(a.nx.flatMap (nb 1)++r)) (fun x hx r'=>pN_of (Nat.zero_le _) (ok.cls x hx) (by have:=ok.cls x hx;simp;omega) r');rw[ok.cl]at e1;rw[e1];simp only[Option.bind_some];rw[pR_each (p:=pN 1 0 2) (enc:=nb 1) a.acc (a.nx.flatMap (nb 1)++r) (fun x hx r'=>pN_of (Nat.zero_le _) (ok.acc x hx) (by have:=ok.acc x hx;simp;omega) r')];simp only[Option.bind_some];have e2:=pR_each (p:=pN 1 0 a.acc.length) (enc:=nb 1) a.nx r (fun x hx r'=>pN_of (Nat.zero_le _) (ok.nxs x hx) (by have:=ok.nxs x hx;simp;omega) r');rw[ok.nx]at e2;rw[e2]
 rfl
theorem pAs_of{l:List AutM}(h:l.length<256)(ho:∀ a∈l,AutOK a)(r:List UInt8):pAs ((nb 1 l.length++l.flatMap eA)++r)=some (l,r):=by
 unfold pAs;rw[List.append_assoc,pN_of (Nat.zero_le _) h (by simpa using h)];exact pR_each l r (fun x hx r'=>pA_of (ho x hx) r')
theorem pTs_of{nn nc na:Nat}{t:TstM}(ok:TstOK nn nc na t)(h1:nn≤256)(h2:nc≤256)(h3:na≤256)(r:List UInt8):pTs nn nc na (eTt t++r)=some (t,r):=by
 have a:=ok.n;have b:=ok.k;have c:=ok.x;have hx:t.x<256:=by split at c<;>omega
 unfold pTs eTt;simp only[List.append_assoc];rw[pN_of (Nat.zero_le _) a (by simp;omega)];simp only[Option.bind_some];rw[pN_of (Nat.zero_le _) b (by simp;omega)];simp only[Option.bind_some];rw[pN_of (Nat.zero_le _) c (by simpa using hx)]
 rfl
theorem pTss_of{nn nc na:Nat}{l:List TstM}(h:l.length<256)(ho:∀ t∈l,TstOK nn nc na t)(h1:nn≤256)(h2:nc≤256)(h3:na≤256)(r:List UInt8):pTss nn nc na ((nb 1 l.length++l.flatMap eTt)++r)=some (l,r):=by
 unfold pTss;rw[List.append_assoc,pN_of (Nat.zero_le _) h (by simpa using h)];exact pR_each l r (fun x hx r'=>pTs_of (ho x hx) h1 h2 h3 r')
theorem pH_of{h:HitM}(ok:HitOK h)(hr:risB h.bl=true)(r:List UInt8):pH (eH h++r)=some (h,r):=by
 have b1:=ok.b1;unfold pH eH;simp only[List.append_assoc];rw[pNm_of ok.rc];simp only[Option.bind_some];rw[pL_of b1 (by omega) ok.b2];simp only[Option.bind_some,hr,if_true];rw[pN_of (Nat.zero_le _) ok.wt (by have:=ok.wt;simp;omega)];simp only[Option.bind_some];rw[pN_of (Nat.zero_le _) ok.ev (by have:=ok.ev;simp;omega)];simp only[Option.bind_some];rw[pN_of (Nat.zero_le _) ok.rp (by have:=ok.rp;simp;omega)]
 rfl
theorem pHs_of{l:List HitM}(h:l.length<17)(ho:∀ x∈l,HitOK x)(hr:∀ x∈l,risB x.bl=true)(r:List UInt8):pHs ((nb 1 l.length++l.flatMap eH)++r)=some (l,r):=by
 unfold pHs;rw[List.append_assoc,pN_of (Nat.zero_le _) h (by simp;omega)];exact pR_each l r (fun x hx r'=>pH_of (ho x hx) (hr x hx) r')
theorem pI_of{nr nt n i:Nat}{c:InM}(ok:InOK nr nt n i c)(r:List UInt8):pI nr nt n i (eI c++r)=some (c,r):=by
 unfold pI eI;simp only[List.append_assoc];rw[pN_of (Nat.zero_le _) ok.op (by have:=ok.op;simp;omega)];simp only[Option.bind_some];rw[pN_of (Nat.zero_le _) ok.x (by have:=ok.x;simp;omega)];simp only[Option.bind_some];rw[pN_of (Nat.zero_le _) ok.a (by have:=ok.a;simp;omega)];simp only[Option.bind_some];rw[pN_of (Nat.zero_le _) ok.b (by have:=ok.b;simp;omega)];simp only[Option.bind_some];rw[if_pos ok.s]
theorem pIs_of{nr nt:Nat}{l:List InM}(h1:1≤l.length)(h2:l.length<65536)(ho:∀ j (h:j<l.length),InOK nr nt l.length j l[j])(r:List UInt8):pIs nr nt ((nb 2 l.length++l.flatMap eI)++r)=some (l,r):=by
 unfold pIs;rw[List.append_assoc,pN_of h1 h2 (by simp;omega)];simp only[Option.bind_some];have:=pR_of (p:=pI nr nt l.length) (enc:=eI) l [] r (fun j hj r'=>by
  simp only[List.length_nil,Nat.zero_add];exact pI_of (ho j hj) r')
 simpa using this
theorem pM_of{m:Mach}(ok:MOK m)(hr:∀ x∈m.routes,risB x.bl=true)(r:List UInt8):pM ((eM m).drop 3++r)=some (m,r):=by
 have e:(eM m).drop 3=eTs m.names++(eTs m.consts++((nb 1 m.autos.length++m.autos.flatMap eA)++((nb 1 m.tests.length++m.tests.flatMap eTt)++((nb 1 m.routes.length++m.routes.flatMap eH)++(nb 2 m.code.length++m.code.flatMap eI))))):=rfl;rw[e];unfold pM;simp only[List.append_assoc];rw[pL_of ok.names.1 ok.names.1 ok.names.2];simp only[Option.bind_some];rw[pCs_of ok.consts.1 ok.consts.2];simp only[Option.bind_some];rw[← List.append_assoc (nb 1 m.autos.length),pAs_of ok.autos.1 ok.autos.2];simp only[Option.bind_some];rw[← List.append_assoc (nb 1 m.tests.length),pTss_of ok.tests.1 ok.tests.2 (Nat.le_of_lt ok.names.1) (Nat.le_of_lt ok.consts.1) (Nat.le_of_lt ok.autos.1)];simp only[Option.bind_some];rw[← List.append_assoc (nb 1 m.routes.length),pHs_of ok.routes.1 ok.routes.2 hr];simp only[Option.bind_some];rw[← List.append_assoc (nb 2 m.code.length),pIs_of ok.code.1 ok.code.2.1 ok.code.2.2]
 rfl
theorem ld_of{m:Mach}(ok:MOK m)(hr:∀ x∈m.routes,risB x.bl=true):ld (eM m)=some m:=by
 have h1:(eM m).take 3=markL:=rfl;have h2:=pM_of ok hr [];rw[List.append_nil]at h2;unfold ld;rw[if_pos h1,h2]
 rfl
def lnsGo:List UInt8→List UInt8→List (List UInt8)
 | [],_=>[]
 | c::r,cur=>if c==10 then (cur++[10])::lnsGo r [] else lnsGo r (cur++[c])
def lnsK(t:List UInt8):List (List UInt8):=lnsGo t []
def SC(w:World)(b:Nat)(t:List UInt8)(i:Nat):Prop :=
 w.heap[b]?=some (.cells #[.string (bs t), .int .i64 i] 168 (0,0))∧i≤t.length∧t.length≤1048576
theorem SC.c0{w:World}{b:Nat}{t:List UInt8}{i:Nat}(h:SC w b t i):w.cell? ⟨b,0,none⟩=some (.string (bs t)):=by
 simp[World.cell?,h.1]
theorem SC.c1{w:World}{b:Nat}{t:List UInt8}{i:Nat}(h:SC w b t i):w.cell? ⟨b,1,none⟩=some (.int .i64 i):=by
 simp[World.cell?,h.1]
theorem SC.fz{w:World}{b:Nat}{t:List UInt8}{i:Nat}(h:SC w b t i)(o:Nat):w.frozen? ⟨b,o,none⟩=false:=by
 simp[World.frozen?,h.1]
theorem SC.lt{w:World}{b:Nat}{t:List UInt8}{i:Nat}(h:SC w b t i):b<w.heap.size :=
 (Array.getElem?_eq_some_iff.1 h.1).1
theorem SC.frm{S:List Nat}{w w':World}{b:Nat}{t:List UInt8}{i:Nat}(h:SC w b t i)(f:Frm S w w')(hS:b∉S):SC w' b t i :=
 ⟨(f.block b h.lt hS).trans h.1,h.2⟩
theorem SC.drew{w:World}{b:Nat}{t:List UInt8}{i:Nat}(h:SC w b t i):SC w.drew b t i:=h
theorem SC.drewN{w:World}{b:Nat}{t:List UInt8}{i:Nat}(n:Nat)(h:SC w b t i):SC (w.drewN n) b t i:=h
theorem SC.set{w:World}{b:Nat}{t:List UInt8}{i:Nat}(h:SC w b t i)(j:Nat)(hj:j≤t.length):SC (w.setCell ⟨b,1,none⟩ (.int .i64 j)) b t j:=by
 refine ⟨?_,hj,h.2.2⟩;simp[World.setCell,Array.getElem?_modify,h.1]
def At(w:World)(b:Nat)(t l:List UInt8):Prop:=∃ i,SC w b t i∧t.drop i=l
theorem At.frm{S:List Nat}{w w':World}{b:Nat}{t l:List UInt8}(h:At w b t l)(f:Frm S w w')(hS:b∉S):At w' b t l:=by
 obtain ⟨i,h1,h2⟩:=h;exact ⟨i,h1.frm f hS,h2⟩
theorem At.lt{w:World}{b:Nat}{t l:List UInt8}(h:At w b t l):b<w.heap.size:=by
 obtain ⟨i,h1,_⟩:=h;exact h1.lt
end Go.Proofs.YtpcbbbilmpobaaaGreatDoor
