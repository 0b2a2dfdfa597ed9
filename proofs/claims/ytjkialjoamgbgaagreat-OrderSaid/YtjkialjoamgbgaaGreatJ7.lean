import Derived.Test.YtjkialjoamgbgaaGreatJ6
import Derived.Deep.RegionLaw
set_option linter.unusedVariables false
set_option linter.unusedSimpArgs false
set_option linter.unnecessarySimpa false
set_option maxRecDepth 100000
set_option maxHeartbeats 4000000
namespace Go.Proofs.YtjkialjoamgbgaaGreat
open Go.RowKit
theorem isRising_any(A:List Nat)(v:Value)(L:List (List UInt8))(w:World)(h:RW A 1 w v (sc L))(hL:L.length≤1000) :
 Calls Tryz.prog 88 #[v] w fun e w'=>e=.returned (.bool (risB L))∧Frm [] w w':=by
 obtain ⟨a,cap,rfl,h1⟩:=h.str
 have H1:=hide h1
 have hl:=bs_toList
 clear h h1
 go_enter Tryz.func88,Tryz.ntmps88
 go_wp2_with fail
 go_loopg [3] L.length (fun k v3 wr=>∃ (j m q:Nat),m+1=j∧L.length+1≤j+k∧v3=.int .i64 j∧wr=w.drewN q∧Hid (risB (L.drop m)=risB L))
 case atStart=>exact ⟨1,0,0,rfl,by omega,rfl,rfl,rfl⟩
 case round =>
  obtain ⟨j,m,q,hmj,hjk,rfl,hw,HR⟩:=hrel
  subst hw
  by_cases hlt:j<L.length
  ·have hd1:decide ((j:Int)<(L.length:Int))=true:=decide_eq_true (by omega)
   obtain ⟨g,off,e1,hg,hc1⟩:=H1.out m (by omega)
   subst e1
   obtain ⟨g2,off2,e2,hg2,hc2⟩:=H1.out j hlt
   simp only[Option.some.injEq,Addr.mk.injEq,and_true]at e2
   obtain ⟨rfl,rfl⟩:=e2
   have HD:Hid (risB (L.drop m)=(Op.bytesLess (L[m]'(by omega)) L[j]&&risB (L.drop j))):=by
    show _=_
    subst hmj
    rw[List.drop_eq_getElem_cons (by omega:m<L.length),List.drop_eq_getElem_cons hlt,risB]
   have hjm:(j:Int)-1=(m:Int):=by omega
   have HMJ:=hide hmj
   generalize L[m]'(by omega)=x at *
   generalize L[j]=y at *
   clear hmj
   cases hb:Op.bytesLess x y
   ·have HV:Hid (risB L=false):=by show _=_;rw[← HR.out,HD.out,hb];rfl
    clear HD HR
    go_wp2_with fail
    go_quiet (fail)
    go_wp2
    go_ret
    rw[HV.out]
    exact ⟨rfl,((Frm.refl _ _).drewN _).drewN _⟩
   ·have HV:Hid (risB (L.drop j)=risB L):=by show _=_;rw[← HR.out,HD.out,hb];rfl
    clear HD HR
    go_wp2_with fail
    go_quiet (fail)
    go_wp2
    go_roundg (gk-1)
    case measure=>omega
    case rel=>exact ⟨j+1,j,_,rfl,by omega,by go_num,rfl,HV⟩
  ·have hd1:decide ((j:Int)<(L.length:Int))=false:=decide_eq_false (by omega)
   have HV:Hid (risB L=true):=by
    show _=_
    rw[← HR.out]
    have:(L.drop m).length≤1:=by rw[List.length_drop];omega
    match L.drop m,this with
    | [],_=>rfl
    | [_],_=>rfl
    | _::_::_,h=>simp at h
   clear HR
   go_wp2
   go_ret
   rw[HV.out]
   exact ⟨rfl,(Frm.refl _ _).drewN _⟩
def HitQ(w:World)(b:Nat)(t:List UInt8)(i:Nat)(V:V6)(e:Ending)(w':World):Prop :=
 ∃ (i':Nat) (ok:Bool) (x:HitM) (ab:Option Addr) (cb:Nat),e=.returned (.tuple #[.agg (hcell x (.slice ab x.bl.length cb)), .bool ok])∧LD w' b t i' V∧Frm [b] w w'∧PO ok pH (t.drop i) x (t.drop i')∧OW 9 1 w.heap.size w' (.slice ab x.bl.length cb) (sc x.bl)
theorem pH_eq(s:List UInt8):pH s=(pNm s).bind fun x=>(pL 5 x.2).bind fun y=>if risB y.1=true then (pN 3 0 100000 y.2).bind fun a=>(pN 3 0 100000 a.2).bind fun b=>(pN 3 0 100000 b.2).bind fun c=>some (⟨x.1,y.1,a.1,b.1,c.1⟩,c.2) else none:=rfl
abbrev HZ(w:World)(rb:Nat):Prop:=w.heap[rb]?=some (.cells hz 70 (0,0))
theorem takeHit_any(b:Nat)(t:List UInt8)(i:Nat)(V:V6)(w:World)(h:LD w b t i V) :
 Calls Tryz.prog 75 #[.pointer (some ⟨b,0,none⟩)] w (HitQ w b t i V):=by
 have F0:=hide ((Frm.refl [b] w).alloc (Obj.cells hz 70))
 have R0:Hid (HZ (w.alloc (Obj.cells hz 70)) w.heap.size):=heap1 _ _
 have N1:=hide (ltakeName_any b t i V _ (h.frm (S:=[]) ((Frm.refl [] w).alloc (Obj.cells hz 70)) (by simp)))
 have hb:=h.lt
 clear h
 go_enter Tryz.func75,Tryz.ntmps75
 go_wp2_with fail
 refine (N1.out).mono ?_
 rintro e w1 ⟨i1,x,ok,rfl,hL1,hF1,hP1,hv⟩
 have L1:=hide hL1
 have F1:=hide (F0.out.trans hF1)
 have hz1:=hF1.size
 simp at hz1
 have R1:Hid (HZ w1 w.heap.size):=(hF1.block w.heap.size (by simp) (by simp;omega)).trans R0.out
 have P1:=hide hP1
 clear hL1 hF1 hP1 N1 F0 R0
 have N2:=hide (takeNameList_any b t i1 V 5 4 _ L1.out (by omega) rfl)
 go_wp2_with fail
 refine (N2.out).mono ?_
 rintro e w2 ⟨i2,vb,bl,ok2,rfl,hL2,hF2,hP2,hO2,hbl⟩
 obtain ⟨ab,cb,he⟩:=hO2.shape
 rw[sc_len]at he
 subst he
 have L2:=hide hL2
 have F2:=hide (F1.out.trans hF2)
 have R2:Hid (HZ w2 w.heap.size):=(hF2.block w.heap.size (by omega) (by simp;omega)).trans R1.out
 have O2:=hide (hO2.base (b2:=w.heap.size) (by omega))
 have hob:Hid (∀ g,Value.ownBlock (.slice ab bl.length cb)=some g→w1.heap.size≤g):=fun g hg=>(hO2.lt hg).1
 have hz2:=hF2.size
 have P2:=hide hP2
 have hbL:=hL2.lt
 clear hL2 hF2 hP2 N2 F1 R1 L1 hO2
 have dz:∀ o,w2.frozen? ⟨w.heap.size,o,none⟩=false:=fun o=>by simp[World.frozen?,R2.out]
 have d0:w2.cell? ⟨w.heap.size,0,none⟩=some (.string ByteArray.empty):=by simp[World.cell?,R2.out]
 have d1:w2.cell? ⟨w.heap.size,1,none⟩=some (.slice none 0 0):=by simp[World.cell?,R2.out]
 have d2:w2.cell? ⟨w.heap.size,2,none⟩=some (.int .i64 0):=by simp[World.cell?,R2.out]
 have d3:w2.cell? ⟨w.heap.size,3,none⟩=some (.int .i64 0):=by simp[World.cell?,R2.out]
 have d4:w2.cell? ⟨w.heap.size,4,none⟩=some (.int .i64 0):=by simp[World.cell?,R2.out]
 cases ok
 ·have HP:Hid (pH (t.drop i)=none):=by
   rcases P1.out with ⟨h,_⟩|⟨_,h⟩
   ·cases h
   ·show _=_;rw[pH_eq,h];rfl
  go_wp2
  refine bodyPost_ret (results_cell_tmpA rfl _ _ w.heap.size (hcell ⟨[],[],0,0,0⟩ (.slice none 0 0)) rfl (loadHit (set5_row _ _ _ _ _ R2.out) rfl)) rfl ?_
  exact ⟨_,false,⟨[],[],0,0,0⟩,none,0,rfl,L2.out.frm (set5_frm _ _ _ _ _ _ _) (by simp;omega),F2.out.over (set5_frm _ _ _ _ _ _ _) (by simp), .inr ⟨rfl,HP.out⟩,OW.nil _ _ _ _⟩
 have HP1:Hid (pH (t.drop i)=(pL 5 (t.drop i1)).bind fun y=>if risB y.1=true then (pN 3 0 100000 y.2).bind fun a=>(pN 3 0 100000 a.2).bind fun b=>(pN 3 0 100000 b.2).bind fun c=>some (⟨x,y.1,a.1,b.1,c.1⟩,c.2) else none):=by
  rcases P1.out with ⟨_,h⟩|⟨h,_⟩
  ·show _=_;rw[pH_eq,h];rfl
  ·cases h
 clear P1
 cases ok2
 ·have HP:Hid (pH (t.drop i)=none):=by
   rcases P2.out with ⟨h,_⟩|⟨_,h⟩
   ·cases h
   ·show _=_;rw[HP1.out,h];rfl
  go_wp2
  refine bodyPost_ret (results_cell_tmpA rfl _ _ w.heap.size (hcell ⟨[],[],0,0,0⟩ (.slice none 0 0)) rfl (loadHit (set5_row _ _ _ _ _ R2.out) rfl)) rfl ?_
  exact ⟨_,false,⟨[],[],0,0,0⟩,none,0,rfl,L2.out.frm (set5_frm _ _ _ _ _ _ _) (by simp;omega),F2.out.over (set5_frm _ _ _ _ _ _ _) (by simp), .inr ⟨rfl,HP.out⟩,OW.nil _ _ _ _⟩
 have HP2:Hid (pH (t.drop i)=if risB bl=true then (pN 3 0 100000 (t.drop i2)).bind fun a=>(pN 3 0 100000 a.2).bind fun b=>(pN 3 0 100000 b.2).bind fun c=>some (⟨x,bl,a.1,b.1,c.1⟩,c.2) else none):=by
  rcases P2.out with ⟨_,h⟩|⟨h,_⟩
  ·show _=_;rw[HP1.out,h];rfl
  ·cases h
 clear P2 HP1
 have N3:=hide (isRising_any [] _ bl w2 (O2.out.rw (by simp)) hbl)
 go_wp2_with fail
 refine (N3.out).mono ?_
 rintro e w3 ⟨rfl,hF3⟩
 have L3:=hide (L2.out.frm hF3 (by simp))
 have F3:=hide (F2.out.trans (hF3.mono (by simp)))
 have R3:Hid (HZ w3 w.heap.size):=(hF3.block w.heap.size (by omega) (by simp)).trans R2.out
 have O3:=hide (O2.out.frm hF3 (by simp))
 have hz3:=hF3.size
 clear hF3 N3 L2 F2 R2 O2 d0 d1 d2 d3 d4 dz
 cases hris:risB bl
 ·have HP:Hid (pH (t.drop i)=none):=by show _=_;rw[HP2.out,if_neg (by rw[hris];simp)]
  have dz:∀ o,w3.frozen? ⟨w.heap.size,o,none⟩=false:=fun o=>by simp[World.frozen?,R3.out]
  have d0:w3.cell? ⟨w.heap.size,0,none⟩=some (.string ByteArray.empty):=by simp[World.cell?,R3.out]
  have d1:w3.cell? ⟨w.heap.size,1,none⟩=some (.slice none 0 0):=by simp[World.cell?,R3.out]
  have d2:w3.cell? ⟨w.heap.size,2,none⟩=some (.int .i64 0):=by simp[World.cell?,R3.out]
  have d3:w3.cell? ⟨w.heap.size,3,none⟩=some (.int .i64 0):=by simp[World.cell?,R3.out]
  have d4:w3.cell? ⟨w.heap.size,4,none⟩=some (.int .i64 0):=by simp[World.cell?,R3.out]
  go_wp2
  refine bodyPost_ret (results_cell_tmpA rfl _ _ w.heap.size (hcell ⟨[],[],0,0,0⟩ (.slice none 0 0)) rfl (loadHit (set5_row _ _ _ _ _ R3.out) rfl)) rfl ?_
  exact ⟨_,false,⟨[],[],0,0,0⟩,none,0,rfl,L3.out.frm (set5_frm _ _ _ _ _ _ _) (by simp;omega),F3.out.over (set5_frm _ _ _ _ _ _ _) (by simp), .inr ⟨rfl,HP.out⟩,OW.nil _ _ _ _⟩
 have HP3:Hid (pH (t.drop i)=(pN 3 0 100000 (t.drop i2)).bind fun a=>(pN 3 0 100000 a.2).bind fun b=>(pN 3 0 100000 b.2).bind fun c=>some (⟨x,bl,a.1,b.1,c.1⟩,c.2)):=by show _=_;rw[HP2.out,if_pos hris]
 clear HP2
 have N4:=hide (ltakeNumber_any b t i2 V 3 0 100000 3 0 99999 w3 L3.out (by omega) (by omega) (by omega) rfl rfl rfl)
 go_wp2_with fail
 refine (N4.out).mono ?_
 rintro e w4 ⟨i4,n4,ok4,rfl,hL4,hF4,hP4,hv4⟩
 have N5:=hide (ltakeNumber_any b t i4 V 3 0 100000 3 0 99999 w4 hL4 (by omega) (by omega) (by omega) rfl rfl rfl)
 have F4:=hide (F3.out.trans hF4)
 have R4:Hid (HZ w4 w.heap.size):=(hF4.block w.heap.size (by omega) (by simp;omega)).trans R3.out
 have O4:=hide (O3.out.frm hF4 (by simp;omega))
 have hz4:=hF4.size
 have P4:=hide hP4
 clear hL4 hF4 hP4 N4 L3 F3 R3 O3
 go_wp2_with fail
 refine (N5.out).mono ?_
 rintro e w5 ⟨i5,n5,ok5,rfl,hL5,hF5,hP5,hv5⟩
 have N6:=hide (ltakeNumber_any b t i5 V 3 0 100000 3 0 99999 w5 hL5 (by omega) (by omega) (by omega) rfl rfl rfl)
 have F5:=hide (F4.out.trans hF5)
 have R5:Hid (HZ w5 w.heap.size):=(hF5.block w.heap.size (by omega) (by simp;omega)).trans R4.out
 have O5:=hide (O4.out.frm hF5 (by simp;omega))
 have hz5:=hF5.size
 have P5:=hide hP5
 clear hL5 hF5 hP5 N5 F4 R4 O4
 go_wp2_with fail
 refine (N6.out).mono ?_
 rintro e w6 ⟨i6,n6,ok6,rfl,hL6,hF6,hP6,hv6⟩
 have L6:=hide hL6
 have F6:=hide (F5.out.trans hF6)
 have R6:Hid (HZ w6 w.heap.size):=(hF6.block w.heap.size (by omega) (by simp;omega)).trans R5.out
 have O6:=hide (O5.out.frm hF6 (by simp;omega))
 have hz6:=hF6.size
 have hbL6:=hL6.lt
 have HP6:Hid (PO (ok4&&ok5&&ok6) pH (t.drop i) ⟨x,bl,n4,n5,n6⟩ (t.drop i6)):=by
  show PO _ _ _ _ _
  unfold PO
  rw[HP3.out]
  rcases P4.out with ⟨e4,h4⟩|⟨e4,h4⟩
  ·rw[h4]
   simp only[Option.bind_some]
   rcases P5.out with ⟨e5,h5⟩|⟨e5,h5⟩
   ·rw[h5]
    simp only[Option.bind_some]
    rcases hP6 with ⟨e6,h6⟩|⟨e6,h6⟩
    ·rw[h6,e4,e5,e6];left;exact ⟨rfl,rfl⟩
    ·rw[h6,e4,e5,e6];right;exact ⟨rfl,rfl⟩
   ·rw[h5,e4,e5];right;exact ⟨rfl,rfl⟩
  ·rw[h4,e4];right;exact ⟨rfl,rfl⟩
 clear hL6 hF6 hP6 N6 F5 R5 O5 P4 P5 HP3
 have dz:∀ o,w6.frozen? ⟨w.heap.size,o,none⟩=false:=fun o=>by simp[World.frozen?,R6.out]
 have d0:w6.cell? ⟨w.heap.size,0,none⟩=some (.string ByteArray.empty):=by simp[World.cell?,R6.out]
 have d1:w6.cell? ⟨w.heap.size,1,none⟩=some (.slice none 0 0):=by simp[World.cell?,R6.out]
 have d2:w6.cell? ⟨w.heap.size,2,none⟩=some (.int .i64 0):=by simp[World.cell?,R6.out]
 have d3:w6.cell? ⟨w.heap.size,3,none⟩=some (.int .i64 0):=by simp[World.cell?,R6.out]
 have d4:w6.cell? ⟨w.heap.size,4,none⟩=some (.int .i64 0):=by simp[World.cell?,R6.out]
 have hw6:w.heap.size<w6.heap.size:=by omega
 cases ok4<;>cases ok5<;>cases ok6
 all_goals
  go_wp2
  refine bodyPost_ret (results_cell_tmpA rfl _ _ w.heap.size (hcell ⟨x,bl,n4,n5,n6⟩ (.slice ab bl.length cb)) rfl (loadHit ((((Frm.refl [] _).alloc _).block w.heap.size (by simp[World.setCell];omega) (by simp)).trans (set5_row _ _ _ _ _ R6.out)) rfl)) rfl ?_
  exact ⟨i6,_,⟨x,bl,n4,n5,n6⟩,ab,cb,rfl,(L6.out.frm (set5_frm _ _ _ _ _ _ _) (by simp;omega)).frm ((Frm.refl [] _).alloc _) (by simp),(F6.out.over (set5_frm _ _ _ _ _ _ _) (by simp)).alloc _,HP6.out,(O6.out.keep (set5_frm _ _ _ _ _ _ _) (fun r hr=>by have:=hob.out r hr;simp;omega)).frm ((Frm.refl [] _).alloc _) (by simp)⟩
open Go.RowKit
def HitsQ(A:List Nat)(w:World)(b:Nat)(t:List UInt8)(i:Nat)(V:V6)(e:Ending)(w':World):Prop :=
 ∃ (i':Nat) (ok:Bool) (v:Value) (x:List HitM) (css:List (Array Value)),e=.returned (.bool ok)∧LD w' b t i' { V with r:=v }∧Frm [b] w w'∧PO ok pHs (t.drop i) x (t.drop i')∧OW 70 5 w.heap.size w' v (lst css)∧RowI hitI ((b::A)++v.ownBlock.toList) w' css x
theorem takeRoutes_any(b:Nat)(t:List UInt8)(i:Nat)(V:V6)(w:World)(h:LD w b t i V)(hV:V.r=.slice none 0 0)(A:List Nat)(hA:∀ g∈A,g<w.heap.size) :
 Calls Tryz.prog 55 #[.pointer (some ⟨b,0,none⟩)] w (HitsQ A w b t i V):=by
 have N1:=hide (ltakeNumber_any b t i V 1 0 17 1 0 16 w h (by omega) (by omega) (by omega) rfl rfl rfl)
 have hb:=h.lt
 have HV:=hide hV
 clear h hV
 go_enter Tryz.func55,Tryz.ntmps55
 go_wp2_with fail
 refine (N1.out).mono ?_
 rintro e w1 ⟨i1,v,ok,rfl,hL1,hF1,hP1,hv⟩
 have L1:=hide hL1
 have F1:=hide hF1
 have P1:=hide hP1
 clear hL1 hF1 hP1 N1
 have hz1:=F1.out.size
 go_wp2_with fail
 go_loopg [4,5] v (fun k v4 v5 wr=>∃ (j i':Nat) (acc:List HitM) (css:List (Array Value)) (vr:Value) (okb:Bool),j+k=v∧v5=.int .i64 j∧v4=.bool okb∧OW 70 5 w.heap.size wr vr (lst css)∧LD wr b t i' { V with r:=vr }∧Frm [b] w wr∧css.length≤j∧RowI hitI ((b::A)++vr.ownBlock.toList) wr css acc ∧
  Hid ((okb=true∧v<17∧pR (fun _=>pH) (v-j) acc (t.drop i')=pHs (t.drop i))∨(okb=false∧pHs (t.drop i)=none)))
 case atStart =>
  refine ⟨0,i1,[],[], .slice none 0 0,ok,by omega,rfl,rfl,OW.nil _ _ _ _,?_,F1.out,by simp,RowI.nil _ _ _,?_⟩
  ·have:=L1.out;rw[← HV.out];exact this
  rcases P1.out with ⟨h1,h2⟩|⟨h1,h2⟩
  ·exact .inl ⟨h1,(pN_some h2).2.2,by unfold pHs;rw[h2];rfl⟩
  ·exact .inr ⟨h1,by unfold pHs;rw[h2];rfl⟩
 case round =>
  obtain ⟨j,i2,acc,css,vr,okb,hjk,rfl,rfl,hO,hL,hF,hal,hI,HR⟩:=hrel
  obtain ⟨ao,co,he⟩:=hO.shape
  rw[lst_len]at he
  subst he
  have O:=hide hO
  have L:=hide hL
  have F:=hide hF
  have hz:=hF.size
  have I:=hide hI
  clear hO hL hF hI
  cases okb with
  | false =>
    have HP:Hid (pHs (t.drop i)=none):=by
     rcases HR.out with ⟨h,_⟩|⟨_,h⟩
     ·cases h
     ·exact h
    clear HR
    go_wp2
    go_ret
    exact ⟨i2,false,_,acc,css,rfl,L.out,F.out, .inr ⟨rfl,HP.out⟩,O.out,I.out⟩
  | true =>
    have HP:Hid (v<17∧pR (fun _=>pH) (v-j) acc (t.drop i2)=pHs (t.drop i)):=by
     rcases HR.out with ⟨_,h⟩|⟨h,_⟩
     ·exact h
     ·cases h
    clear HR
    by_cases hlt:j<v
    ·have hd1:decide ((j:Int)<(v:Int))=true:=decide_eq_true (by omega)
     have N2:=hide (takeHit_any b t i2 _ wr L.out)
     go_wp2_with fail
     refine (N2.out).mono ?_
     rintro e w2 ⟨i3,ok2,x,ab,cb,rfl,hL2,hF2,hP2,hrw⟩
     have L2:=hide hL2
     have F2:=hide hF2
     have O2:=hide (O.out.frm (hF2) (by intro g hg;simp at hg;omega))
     have HP2:Hid ((ok2=true∧v<17∧pR (fun _=>pH) (v-(j+1)) (acc++[x]) (t.drop i3)=pHs (t.drop i))∨(ok2=false∧pHs (t.drop i)=none)):=by
      have h:=HP.out
      rw[show v-j=(v-(j+1))+1 by omega]at h
      rcases hP2 with ⟨h1,h2⟩|⟨h1,h2⟩
      ·refine .inl ⟨h1,h.1,?_⟩
       rw[← h.2,pR_succ,h2];rfl
      ·refine .inr ⟨h1,?_⟩
       rw[← h.2,pR_succ,h2];rfl
     have hz2:=hF2.size
     have hvh:=HP.out.1
     have c:=hL2.cr
     have z:=hL2.fz 6
     have hb2:=hL2.lt
     have hob:∀ r,Value.ownBlock (.slice ao css.length co)=some r→w.heap.size≤r:=fun r hr=>(O2.out.lt hr).1
     have HOB:=hide hob
     have HTC:=hide (lst_len css)
     have I2:Hid (RowI hitI ((b::A)++(Value.ownBlock (.slice ao css.length co)).toList) w2 (css++[hcell x (.slice ab x.bl.length cb)]) (acc++[x])):=by
      refine RowI.snoc (I.out.frm hF2 (by simp)) ⟨_,rfl,hrw.rw ?_⟩
      intro g hg hm
      have h1:=(hrw.lt hg).1
      simp at hm
      rcases hm with hm|hm|hm
      ·omega
      ·have:=hA g hm;omega
      ·have:=(O.out.lt hm).2;omega
     have HV2:Hid (hcell x (.slice ab x.bl.length cb)=#[.string (bs x.rc), .slice ab x.bl.length cb, .int .i64 (x.wt:Nat), .int .i64 (x.ev:Nat), .int .i64 (x.rp:Nat)]):=rfl
     have g2:∀ o o':Obj,((w2.alloc o).alloc o').drew.frozen? ⟨b,6,none⟩=false:=fun o o'=>(((((Frm.refl [] w2).alloc o).alloc o').drew).frozen hb2 (by simp)).trans z
     have g1:∀ o:Obj,(w2.alloc o).drew.frozen? ⟨b,6,none⟩=false:=fun o=>((((Frm.refl [] w2).alloc o).drew).frozen hb2 (by simp)).trans z
     have ag:Value.ownBlock (.slice ao css.length co)≠some b:=fun e=>by have:=HOB.out _ e;omega
     clear hL2 hF2 hP2 HP N2 L O hob hrw I
     obtain ⟨x1,x2,x3,x4,x5⟩:=x
     simp only[hcell]
     go_wp2_with fail
     go_region_law ((refine step_appG _ (by rfl) _ _ 43 70 _ 5 64 infoHit Tryz.underlying43 (by rfl) (by omega) (by rfl) w.heap.size (.slice ao css.length co) (lst css) (w2.heap.size+1) (hcell ⟨x1,x2,x3,x4,x5⟩ (.slice ab x2.length cb)) (0,0) (by rfl) (O2.out.frm (S:=[]) ((((Frm.refl [] _).alloc _).alloc _).drew) (by simp)) (by rfl) (by rfl) (by exact heap_new2d _ _ _) (hcell_one _ _ _ _) (by rw[HTC.out];omega) (by rw[HTC.out];omega) (by simp;omega) (w2.heap.size+2) (by simp) ?_;intro gg cap2 w4 hown4 hgrow hat hlt4;have c4:=(hgrow.cell_far ⟨b,6,none⟩ (by simp;omega) (Ne.symm ag));have f4:=(hgrow.frozen_far ⟨b,6,none⟩ (by simp;omega) (Ne.symm ag));have f5:=f4.trans (g2 _ _);rw[HTC.out]at hown4 ⊢))
     all_goals
      have G4:=hide hgrow
      have O4:=hide hown4
      clear hgrow hown4
      go_wp2
      go_roundg (gk-1)
      case measure=>omega
      case rel =>
       have F3:Frm [] w2 ((w2.alloc (Obj.cells (hcell ⟨x1,x2,x3,x4,x5⟩ (.slice ab x2.length cb)) 70)).alloc (Obj.cells (hcell ⟨x1,x2,x3,x4,x5⟩ (.slice ab x2.length cb)) 70)).drew:=(((Frm.refl [] _).alloc _).alloc _).drew
       have L4:=(L2.out.frm F3 (by simp)).grown G4.out (fun r hr=>by have:=HOB.out r hr;omega)
       have O5:=O4.out
       rw[lst_snoc]at O5
       have FB:∀ u,Frm [b] w4 (w4.setCell ⟨b,6,none⟩ u):=fun u=>(Frm.refl [b] _).setCell (p:=⟨b,6,none⟩) (.inl (by simp)) u
       have R3:=I2.out.frm F3 (by simp)
       have R4:=R3.app (g:=gg) G4.out (hat.imp id (fun h=>by rw[h];simp))
       exact ⟨j+1,i3,acc++[(⟨x1,x2,x3,x4,x5⟩:HitM)],css++[hcell ⟨x1,x2,x3,x4,x5⟩ (.slice ab x2.length cb)],_,ok2,by omega,by go_num,rfl,O5.frm (FB _) (by simp;omega),L4.setR _,((((F.out.trans F2.out).trans (F3.mono (by simp)))).grown G4.out (fun r hr=>.inr (HOB.out r hr))).trans (FB _),by simp;omega,R4.frm (FB _) (by simp),HP2⟩
    ·have hjv:j=v:=by omega
     have hd1:decide ((j:Int)<(v:Int))=false:=decide_eq_false (by omega)
     have HP2:Hid (pHs (t.drop i)=some (acc,t.drop i2)):=by
      have h:=HP.out.2
      rw[hjv,Nat.sub_self]at h
      exact h.symm
     clear HP
     subst hjv
     go_wp2
     go_ret
     exact ⟨i2,true,_,acc,css,rfl,L.out,F.out, .inl ⟨rfl,HP2.out⟩,O.out,I.out⟩
open Go.RowKit
def pI0:PT InM:=fun s=>(pN 1 0 3 s).bind fun o=>(pN 1 0 256 o.2).bind fun x=>(pN 2 0 65536 x.2).bind fun a=>(pN 2 0 65536 a.2).bind fun b=>some (⟨o.1,x.1,a.1,b.1⟩,b.2)
theorem pI_eq(nr nt n i:Nat)(s:List UInt8):pI nr nt n i s=(pI0 s).bind fun x=>if stands nr nt n i x.1=true then some x else none:=by
 unfold pI pI0
 cases pN 1 0 3 s with
 | none=>rfl
 | some o =>
   simp only[Option.bind_some]
   cases pN 1 0 256 o.2 with
   | none=>rfl
   | some x =>
     simp only[Option.bind_some]
     cases pN 2 0 65536 x.2 with
     | none=>rfl
     | some a =>
       simp only[Option.bind_some]
       cases pN 2 0 65536 a.2 with
       | none=>rfl
       | some b=>rfl
abbrev IZ(w:World)(rb:Nat):Prop:=w.heap[rb]?=some (.cells #[.int .i64 0, .int .i64 0, .int .i64 0, .int .i64 0] 91 (0,0))
def InsQ(w:World)(b:Nat)(t:List UInt8)(i:Nat)(V:V6)(e:Ending)(w':World):Prop :=
 ∃ (i':Nat) (ok:Bool) (x:InM),e=.returned (.tuple #[.agg (icell x), .bool ok])∧LD w' b t i' V∧Frm [b] w w'∧PO ok pI0 (t.drop i) x (t.drop i')∧x.op<16777216∧x.x<16777216∧x.a<16777216∧x.b<16777216
theorem takeInstruction_any(b:Nat)(t:List UInt8)(i:Nat)(V:V6)(w:World)(h:LD w b t i V) :
 Calls Tryz.prog 76 #[.pointer (some ⟨b,0,none⟩)] w (InsQ w b t i V):=by
 have F0:=hide ((Frm.refl [b] w).alloc (Obj.cells #[.int .i64 0, .int .i64 0, .int .i64 0, .int .i64 0] 91))
 have R0:Hid (IZ (w.alloc (Obj.cells #[.int .i64 0, .int .i64 0, .int .i64 0, .int .i64 0] 91)) w.heap.size):=heap1 _ _
 have N1:=hide (ltakeNumber_any b t i V 1 0 3 1 0 2 _ (h.frm (S:=[]) ((Frm.refl [] w).alloc (Obj.cells #[.int .i64 0, .int .i64 0, .int .i64 0, .int .i64 0] 91)) (by simp)) (by omega) (by omega) (by omega) rfl rfl rfl)
 have hb:=h.lt
 clear h
 go_enter Tryz.func76,Tryz.ntmps76
 go_wp2_with fail
 refine (N1.out).mono ?_
 rintro e w1 ⟨i1,n1,ok1,rfl,hL1,hF1,hP1,hv1⟩
 have N2:=hide (ltakeNumber_any b t i1 V 1 0 256 1 0 255 w1 hL1 (by omega) (by omega) (by omega) rfl rfl rfl)
 have F1:=hide (F0.out.trans hF1)
 have hz1:=hF1.size
 simp at hz1
 have R1:Hid (IZ w1 w.heap.size):=(hF1.block w.heap.size (by simp) (by simp;omega)).trans R0.out
 have P1:=hide hP1
 clear hL1 hF1 hP1 N1 F0 R0
 go_wp2_with fail
 refine (N2.out).mono ?_
 rintro e w2 ⟨i2,n2,ok2,rfl,hL2,hF2,hP2,hv2⟩
 have N3:=hide (ltakeNumber_any b t i2 V 2 0 65536 2 0 65535 w2 hL2 (by omega) (by omega) (by omega) rfl rfl rfl)
 have F2:=hide (F1.out.trans hF2)
 have hz2:=hF2.size
 have R2:Hid (IZ w2 w.heap.size):=(hF2.block w.heap.size (by omega) (by simp;omega)).trans R1.out
 have P2:=hide hP2
 clear hL2 hF2 hP2 N2 F1 R1
 go_wp2_with fail
 refine (N3.out).mono ?_
 rintro e w3 ⟨i3,n3,ok3,rfl,hL3,hF3,hP3,hv3⟩
 have N4:=hide (ltakeNumber_any b t i3 V 2 0 65536 2 0 65535 w3 hL3 (by omega) (by omega) (by omega) rfl rfl rfl)
 have F3:=hide (F2.out.trans hF3)
 have hz3:=hF3.size
 have R3:Hid (IZ w3 w.heap.size):=(hF3.block w.heap.size (by omega) (by simp;omega)).trans R2.out
 have P3:=hide hP3
 clear hL3 hF3 hP3 N3 F2 R2
 go_wp2_with fail
 refine (N4.out).mono ?_
 rintro e w4 ⟨i4,n4,ok4,rfl,hL4,hF4,hP4,hv4⟩
 have L4:=hide hL4
 have F4:=hide (F3.out.trans hF4)
 have hz4:=hF4.size
 have R4:Hid (IZ w4 w.heap.size):=(hF4.block w.heap.size (by omega) (by simp;omega)).trans R3.out
 have HP:Hid (PO (ok1&&ok2&&ok3&&ok4) pI0 (t.drop i) ⟨n1,n2,n3,n4⟩ (t.drop i4)):=by
  show PO _ _ _ _ _
  unfold PO pI0
  rcases P1.out with ⟨e1,h1⟩|⟨e1,h1⟩
  ·rw[h1]
   simp only[Option.bind_some]
   rcases P2.out with ⟨e2,h2⟩|⟨e2,h2⟩
   ·rw[h2]
    simp only[Option.bind_some]
    rcases P3.out with ⟨e3,h3⟩|⟨e3,h3⟩
    ·rw[h3]
     simp only[Option.bind_some]
     rcases hP4 with ⟨e4,h4⟩|⟨e4,h4⟩
     ·rw[h4,e1,e2,e3,e4];left;exact ⟨rfl,rfl⟩
     ·rw[h4,e1,e2,e3,e4];right;exact ⟨rfl,rfl⟩
    ·rw[h3,e1,e2,e3];right;exact ⟨rfl,rfl⟩
   ·rw[h2,e1,e2];right;exact ⟨rfl,rfl⟩
  ·rw[h1,e1];right;exact ⟨rfl,rfl⟩
 clear hL4 hF4 hP4 N4 F3 R3 P1 P2 P3
 have dz:∀ o,w4.frozen? ⟨w.heap.size,o,none⟩=false:=fun o=>by simp[World.frozen?,R4.out]
 have d0:w4.cell? ⟨w.heap.size,0,none⟩=some (.int .i64 0):=by simp[World.cell?,R4.out]
 have d1:w4.cell? ⟨w.heap.size,1,none⟩=some (.int .i64 0):=by simp[World.cell?,R4.out]
 have d2:w4.cell? ⟨w.heap.size,2,none⟩=some (.int .i64 0):=by simp[World.cell?,R4.out]
 have d3:w4.cell? ⟨w.heap.size,3,none⟩=some (.int .i64 0):=by simp[World.cell?,R4.out]
 have hw4:w.heap.size<w4.heap.size:=by omega
 cases ok1<;>cases ok2<;>cases ok3
 all_goals
  go_wp2
  refine bodyPost_ret (results_cell_tmpA rfl _ _ w.heap.size (icell ⟨n1,n2,n3,n4⟩) rfl (loadIns ((((Frm.refl [] _).alloc _).block w.heap.size (by simp[World.setCell];omega) (by simp)).trans (set4_row _ _ _ _ R4.out)) rfl)) rfl ?_
  exact ⟨i4,_,⟨n1,n2,n3,n4⟩,rfl,(L4.out.frm (set4_frm _ _ _ _ _ _) (by simp;omega)).frm ((Frm.refl [] _).alloc _) (by simp),(F4.out.over (set4_frm _ _ _ _ _ _) (by simp)).alloc _,HP.out,hv1,hv2,hv3,hv4⟩
end Go.Proofs.YtjkialjoamgbgaaGreat
