import Derived.Test.YtpcbbbilmpobaaaGreatDoorJ5
import Derived.Deep.RegionLaw
set_option linter.unusedVariables false
set_option linter.unusedSimpArgs false
set_option linter.unnecessarySimpa false
set_option maxRecDepth 100000
set_option maxHeartbeats 4000000
namespace Go.Proofs.YtpcbbbilmpobaaaGreatDoor
open Go.RowKit
theorem AB.grown{w w':World}{ab:Nat}{n:Int}{cl:List Nat}{va vn:Value}{row:Option Nat}(h:AB w ab n cl va vn)(hg:w.grownBy w' row)(hr:row≠some ab):AB w' ab n cl va vn:=⟨(hg.block ab h.lt (fun e=>hr e.symm)).trans h.1,h.2⟩
def AutQ(w:World)(b:Nat)(t:List UInt8)(i:Nat)(V:V6)(e:Ending)(w':World):Prop :=
 ∃ (i':Nat) (ok:Bool) (cs:Array Value) (x:AutM),e=.returned (.tuple #[.agg cs, .bool ok])∧LD w' b t i' V∧Frm [b] w w'∧PO ok pA (t.drop i) x (t.drop i')∧cs.size=259∧cs.all (·.oneCell')=true ∧
   (ok=true→∃ va vn,cs=(Value.int .i64 x.k::(nv .u8 x.cl++[va,vn])).toArray∧OW 4 1 w.heap.size w' va (bc x.acc)∧OW 3 1 w.heap.size w' vn (ic x.nx))
theorem AutQ.no{w wr:World}{b:Nat}{t:List UInt8}{i i1:Nat}{V:V6}(hb:b<w.heap.size)(hL:LD wr b t i1 V)(hF:Frm [b] w wr)(hP:pA (t.drop i)=none):AutQ w b t i V (.returned (.tuple #[.agg Tryz.zeroCells95, .bool false])) (wr.setRow w.heap.size Tryz.zeroCells95) :=
 ⟨i1,false,_,⟨0,[],[],[]⟩,rfl,hL.frm (Frm.setRow _ _ _) (by simp;omega),hF.over (Frm.setRow _ _ _) (by simp), .inr ⟨rfl,hP⟩,autoZero9,autoAll,fun h=>by cases h⟩
abbrev RBz(w:World)(rb:Nat):Prop:=w.heap[rb]?=some (.cells Tryz.zeroCells95 95 (0,0))
theorem pA_eq(s:List UInt8):pA s=(pN 1 1 41 s).bind fun x=>(pN 2 1 257 x.2).bind fun y=>(pR (fun _=>pN 1 0 y.1) 256 [] y.2).bind fun c=>(pR (fun _=>pN 1 0 2) x.1 [] c.2).bind fun a=>(pR (fun _=>pN 1 0 x.1) (x.1*y.1) [] a.2).bind fun n=>some (⟨y.1,c.1,a.1,n.1⟩,n.2):=rfl
theorem cls_step(acc:List Nat)(c m:Nat)(h:acc.length=c)(hc:c<256):(acc++List.replicate (256-c) 0).set c m=(acc++[m])++List.replicate (256-(c+1)) 0:=by
 rw[List.set_append_right _ _ (by omega),h,Nat.sub_self,show 256-c=(256-(c+1))+1 by omega,List.replicate_succ];simp
theorem takeAutomaton_any(b:Nat)(t:List UInt8)(i:Nat)(V:V6)(w:World)(h:LD w b t i V) :
 Calls Tryz.prog 57 #[.pointer (some ⟨b,0,none⟩)] w (AutQ w b t i V):=by
 have F0:=hide ((Frm.refl [b] w).alloc (Obj.cells Tryz.zeroCells95 95));have R0:Hid (RBz (w.alloc (Obj.cells Tryz.zeroCells95 95)) w.heap.size):=heap1 _ _;have N1:=hide (ltakeNumber_any b t i V 1 1 41 1 1 40 _ (h.frm (S:=[]) ((Frm.refl [] w).alloc (Obj.cells Tryz.zeroCells95 95)) (by simp)) (by omega) (by omega) (by omega) rfl rfl rfl);have hb:=h.lt;clear h;go_enter Tryz.func57,Tryz.ntmps57
 go_wp2_with fail
 refine (N1.out).mono ?_;rintro e w1 ⟨i1,v,ok,rfl,hL1,hF1,hP1,hv⟩;have L1:=hide hL1;have F1:=hide (F0.out.trans hF1);have hz1:=hF1.size;simp at hz1;have R1:Hid (RBz w1 w.heap.size):=(hF1.block w.heap.size (by simp) (by simp;omega)).trans R0.out;have P1:=hide hP1;clear hL1 hF1 hP1 N1 F0 R0;have N2:=hide (ltakeNumber_any b t i1 V 2 1 257 2 1 256 _ L1.out (by omega) (by omega) (by omega) rfl rfl rfl);go_wp2_with fail
 refine (N2.out).mono ?_;rintro e w2 ⟨i2,v2,ok2,rfl,hL2,hF2,hP2,hv2⟩;have L2:=hide hL2;have F2:=hide (F1.out.trans hF2);have R2:Hid (RBz w2 w.heap.size):=(hF2.block w.heap.size (by omega) (by simp;omega)).trans R1.out;have hz2:=hF2.size;have P2:=hide hP2;clear hL2 hF2 hP2 N2 F1 R1 L1;cases ok
 ·have HP:Hid (pA (t.drop i)=none):=by
   rcases P1.out with ⟨h,_⟩|⟨_,h⟩
   ·cases h
   ·show _=_;rw[pA_eq,h];rfl
  have hst:=store_row R2.out rfl autoAll;have HRB:=hide (setRow_at (cs:=Tryz.zeroCells95) R2.out);go_wp2
  (try simp only[Exit.inBlock,Exit.then])
  refine bodyPost_ret (results_cell_tmpA rfl _ _ w.heap.size _ rfl (autoLoad HRB.out autoZero9)) rfl ?_;exact AutQ.no hb L2.out F2.out HP.out
 cases ok2
 ·have HP:Hid (pA (t.drop i)=none):=by
   rcases P1.out with ⟨_,h⟩|⟨h,_⟩
   ·rcases P2.out with ⟨h2,_⟩|⟨_,h2⟩
    ·cases h2
    ·show _=_;rw[pA_eq,h];simp only[Option.bind_some];rw[h2];rfl
   ·cases h
  have hst:=store_row R2.out rfl autoAll;have HRB:=hide (setRow_at (cs:=Tryz.zeroCells95) R2.out);go_wp2
  (try simp only[Exit.inBlock,Exit.then])
  refine bodyPost_ret (results_cell_tmpA rfl _ _ w.heap.size _ rfl (autoLoad HRB.out autoZero9)) rfl ?_;exact AutQ.no hb L2.out F2.out HP.out
 have HP:Hid (pA (t.drop i)=(pR (fun _=>pN 1 0 v2) 256 [] (t.drop i2)).bind fun c=>(pR (fun _=>pN 1 0 2) v [] c.2).bind fun a=>(pR (fun _=>pN 1 0 v) (v*v2) [] a.2).bind fun n=>some (⟨v2,c.1,a.1,n.1⟩,n.2)):=by
  rcases P1.out with ⟨_,h⟩|⟨h,_⟩
  ·rcases P2.out with ⟨_,h2⟩|⟨h2,_⟩
   ·show _=_;rw[pA_eq,h];simp only[Option.bind_some];rw[h2];rfl
   ·cases h2
  ·cases h
 have hvb:1≤v∧v<41:=by
  rcases P1.out with ⟨_,h⟩|⟨h,_⟩
  ·exact (pN_some h).2
  ·cases h
 have hvb2:1≤v2∧v2<257:=by
  rcases P2.out with ⟨_,h⟩|⟨h,_⟩
  ·exact (pN_some h).2
  ·cases h
 clear P1 P2 hv hv2;obtain ⟨W3,hst,L3,F3,R3,A3,hz3⟩:∃ W3,(storeCells ⟨w2.heap.size,0,none⟩ (Tryz.zeroCells95.toList.set 0 (.int .i64 (v2:Nat)))).run Tryz.prog (w2.alloc (Obj.cells Tryz.zeroCells95 95))=.ok () W3∧Hid (LD W3 b t i2 V)∧Hid (Frm [b] w W3)∧Hid (RBz W3 w.heap.size)∧Hid (AB W3 w2.heap.size (v2:Nat) (List.replicate 256 0) (.slice none 0 0) (.slice none 0 0))∧w2.heap.size<W3.heap.size:=by
  have hh:(w2.alloc (Obj.cells Tryz.zeroCells95 95)).heap[w2.heap.size]?=some (.cells Tryz.zeroCells95 95 (0,0)):=heap1 _ _;have hall:(Tryz.zeroCells95.setIfInBounds 0 (.int .i64 (v2:Nat))).all (·.oneCell')=true:=by
   rw[autoZeroX];rw[Array.all_eq_true_iff_forall_mem];intro x hx;simp[nv]at hx;rcases hx with rfl|rfl|rfl<;>rfl
  have e1:=store_row (cs:=Tryz.zeroCells95.setIfInBounds 0 (.int .i64 (v2:Nat))) hh (by simp) hall;rw[Array.toList_setIfInBounds]at e1;have f1:Frm [b] w (w2.alloc (Obj.cells Tryz.zeroCells95 95)):=F2.out.alloc _;refine ⟨_,e1,(L2.out.frm (S:=[]) ((Frm.refl [] _).alloc _) (by simp)).frm (Frm.setRow _ _ _) (by simp;have:=L2.out.lt;omega),f1.over (Frm.setRow _ _ _) (by intro x hx;simp at hx;left;omega),?_,?_,?_⟩
  ·exact ((Frm.setRow _ _ _).block w.heap.size (by simp;omega) (by simp;omega)).trans ((((Frm.refl [] w2).alloc _).block w.heap.size (by omega) (by simp)).trans R2.out)
  ·refine ⟨?_,List.length_replicate⟩
   rw[setRow_at hh];rw[autoZeroX];simp
  ·simp[World.setRow]
 have hbL:=L2.out.lt;clear L2 F2 R2;go_wp2_with fail
 go_loopg [37] 256 (fun k v37 wr=>∃ (c i':Nat) (acc:List Nat),c+k=256∧v37=.int .i64 c∧acc.length=c∧LD wr b t i' V∧Frm [b] w wr∧Hid (RBz wr w.heap.size)∧AB wr w2.heap.size (v2:Nat) (acc++List.replicate (256-c) 0) (.slice none 0 0) (.slice none 0 0) ∧
  Hid (pR (fun _=>pN 1 0 v2) (256-c) acc (t.drop i')=pR (fun _=>pN 1 0 v2) 256 [] (t.drop i2)))
 case atStart=>exact ⟨0,i2,[],by omega,rfl,rfl,L3.out,F3.out,R3,A3.out,rfl⟩
 case round =>
  clear L3 F3 R3 A3 hst;obtain ⟨c,i4,acc,hck,rfl,hacc,hL,hF,R,hA,HR⟩:=hrel;have L:=hide hL;have F:=hide hF;have A:=hide hA;have HACC:=hide hacc;have hzr:=hA.lt;clear hL hF hA hacc
  by_cases hlt:c<256
  ·have hd1:decide ((c:Int)<256)=true:=decide_eq_true (by omega)
   have N5:=hide (ltakeNumber_any b t i4 V 1 0 v2 1 0 ((v2:Int)-1) wr L.out (by omega) (by omega) (by omega) rfl rfl rfl);go_wp2_with fail
   refine (N5.out).mono ?_;rintro e w5 ⟨i5,m,ok5,rfl,hL5,hF5,hP5,hm5⟩;have L5:=hide hL5;have F5:=hide (F.out.trans hF5);have R5:Hid (RBz w5 w.heap.size):=(hF5.block w.heap.size (by omega) (by simp;omega)).trans R.out;have A5:=hide (A.out.frm hF5 (by simp;omega));have HPR:Hid (pR (fun _=>pN 1 0 v2) (256-c) acc (t.drop i4)=(pN 1 0 v2 (t.drop i4)).bind fun x=>pR (fun _=>pN 1 0 v2) (256-(c+1)) (acc++[x.1]) x.2):=by
    show _=_;rw[show 256-c=(256-(c+1))+1 by omega,pR_succ]
   have P5:=hide hP5;clear hL5 hF5 hP5 N5 L F R A;cases ok5
   ·have HP2:Hid (pA (t.drop i)=none):=by
     rcases P5.out with ⟨h,_⟩|⟨_,h⟩
     ·cases h
     ·show _=_;rw[HP.out,← HR.out,HPR.out,h];rfl
    have hst:=store_row R5.out rfl autoAll;have HRB:=hide (setRow_at (cs:=Tryz.zeroCells95) R5.out);go_wp2
    (try simp only[Exit.inBlock,Exit.then])
    refine bodyPost_ret (results_cell_tmpA rfl _ _ w.heap.size _ rfl (autoLoad HRB.out autoZero9)) rfl ?_;exact AutQ.no hb L5.out F5.out HP2.out
   ·have hmb:m<v2:=by
     rcases P5.out with ⟨_,h⟩|⟨h,_⟩
     ·exact (pN_some h).2.2
     ·cases h
    have HR2:Hid (pR (fun _=>pN 1 0 v2) (256-(c+1)) (acc++[m]) (t.drop i5)=pR (fun _=>pN 1 0 v2) 256 [] (t.drop i2)):=by
     rcases P5.out with ⟨_,h⟩|⟨h,_⟩
     ·show _=_;rw[← HR.out,HPR.out,h];rfl
     ·cases h
    have cc:=A5.out.cell c hlt;have cz:=A5.out.fz (1+c);clear P5 HPR HR;go_wp2_with fail
    go_roundg (gk-1)
    case measure=>omega
    case rel =>
     have A6:=A5.out.set c m hlt;rw[cls_step acc c m HACC.out hlt]at A6;have FS:=(Frm.refl [w2.heap.size] w5).setCell (p:=⟨w2.heap.size,1+c,none⟩) (.inl (by simp)) (.int .u8 (m:Nat));refine ⟨c+1,i5,acc++[m],by omega,by go_num,by simp[HACC.out],L5.out.frm FS (by simp;omega),F5.out.over FS (by intro x hx;simp at hx;left;omega),?_,A6,HR2⟩;exact (FS.block w.heap.size (Array.getElem?_eq_some_iff.1 R5.out).1 (by simp;omega)).trans R5.out
  ·have hce:c=256:=by omega
   have hd1:decide ((c:Int)<256)=false:=decide_eq_false (by omega);have HP2:Hid (pA (t.drop i)=(pR (fun _=>pN 1 0 2) v [] (t.drop i4)).bind fun a=>(pR (fun _=>pN 1 0 v) (v*v2) [] a.2).bind fun n=>some (⟨v2,acc,a.1,n.1⟩,n.2)):=by
    have h:=HR.out;rw[hce,Nat.sub_self]at h;show _=_;rw[HP.out,← h];rfl
   have A1:Hid (AB wr w2.heap.size (v2:Nat) acc (.slice none 0 0) (.slice none 0 0)):=by
    have h:=A.out;rw[hce,Nat.sub_self]at h;show AB _ _ _ _ _ _;simpa using h
   clear HP HR A;subst hce;obtain ⟨CL,hCL⟩:∃ CL,CL=acc:=⟨_,rfl⟩;rw[← hCL]at HP2 A1 HACC;clear hCL;obtain ⟨wB,hwB⟩:∃ wB,wB=wr:=⟨_,rfl⟩;rw[← hwB]at L F R A1 hzr;rw[← hwB];clear hwB;go_wp2_with fail
   go_loopg [12] v (fun k v12 wr=>∃ (c i':Nat) (acc:List Nat) (va:Value),c+k=v∧v12=.int .i64 c∧acc.length=c∧LD wr b t i' V∧Frm [b] w wr∧Hid (RBz wr w.heap.size)∧AB wr w2.heap.size (v2:Nat) CL va (.slice none 0 0)∧OW 4 1 wB.heap.size wr va (bc acc)∧wB.heap.size≤wr.heap.size ∧
    Hid (pR (fun _=>pN 1 0 2) (v-c) acc (t.drop i')=pR (fun _=>pN 1 0 2) v [] (t.drop i4)))
   case atStart=>exact ⟨0,i4,[],_,by omega,rfl,rfl,L.out,F.out,R,A1.out,OW.nil _ _ _ _,Nat.le_refl _,rfl⟩
   case round =>
    clear L F R A1;obtain ⟨c,i6,acc,va,hck,rfl,hacc,hL,hF,R,hA,hO,hzB,HR⟩:=hrel;obtain ⟨ao,co,he⟩:=hO.shape;rw[bc_len]at he;subst he;have L:=hide hL;have F:=hide hF;have A:=hide hA;have O:=hide hO;have hab:=hA.lt;have HACC2:=hide hacc;have hal:acc.length≤1000:=by omega
    clear hL hF hA hO hacc
    by_cases hlt:c<v
    ·have hd1:decide ((c:Int)<(v:Int))=true:=decide_eq_true (by omega)
     have N5:=hide (ltakeNumber_any b t i6 V 1 0 2 1 0 1 wr L.out (by omega) (by omega) (by omega) rfl rfl rfl);go_wp2_with fail
     refine (N5.out).mono ?_;rintro e w5 ⟨i5,m,ok5,rfl,hL5,hF5,hP5,hm5⟩;have L5:=hide hL5;have F5:=hide (F.out.trans hF5);have R5:Hid (RBz w5 w.heap.size):=(hF5.block w.heap.size (by omega) (by simp;omega)).trans R.out;have A5:=hide (A.out.frm hF5 (by simp;omega));have O5:=hide (O.out.frm hF5 (by intro g hg;simp at hg;omega));have hz5:=hF5.size;have HPR:Hid (pR (fun _=>pN 1 0 2) (v-c) acc (t.drop i6)=(pN 1 0 2 (t.drop i6)).bind fun x=>pR (fun _=>pN 1 0 2) (v-(c+1)) (acc++[x.1]) x.2):=by
      show _=_;rw[show v-c=(v-(c+1))+1 by omega,pR_succ]
     have P5:=hide hP5;clear hL5 hF5 hP5 N5 L F R A O;cases ok5
     ·have HP3:Hid (pA (t.drop i)=none):=by
       rcases P5.out with ⟨h,_⟩|⟨_,h⟩
       ·cases h
       ·show _=_;rw[HP2.out,← HR.out,HPR.out,h];rfl
      have hst:=store_row R5.out rfl autoAll;have HRB:=hide (setRow_at (cs:=Tryz.zeroCells95) R5.out);go_wp2
      (try simp only[Exit.inBlock,Exit.then])
      refine bodyPost_ret (results_cell_tmpA rfl _ _ w.heap.size _ rfl (autoLoad HRB.out autoZero9)) rfl ?_;exact AutQ.no hb L5.out F5.out HP3.out
     ·have HR2:Hid (pR (fun _=>pN 1 0 2) (v-(c+1)) (acc++[m]) (t.drop i5)=pR (fun _=>pN 1 0 2) v [] (t.drop i4)):=by
       rcases P5.out with ⟨_,h⟩|⟨h,_⟩
       ·show _=_;rw[← HR.out,HPR.out,h];rfl
       ·cases h
      have cA:=A5.out.cN.1;have he1:((m:Int)==1)=(m==1):=by rw[Bool.eq_iff_iff,beq_iff_eq,beq_iff_eq];omega
      have HOB:Hid (∀ r,Value.ownBlock (.slice ao acc.length co)=some r→wB.heap.size≤r):=fun r hr=>(O5.out.lt hr).1
      have L5b:=L5.out.lt;have hab5:=A5.out.lt;clear P5 HPR HR;go_wp2_with (first | (at_builtin;refine wp_appBc _ rfl _ _ rfl wB.heap.size (.slice ao acc.length co) acc w5.heap.size m rfl (O5.out.frm (S:=[]) ((Frm.refl [] _).alloc _) (by simp)) rfl (by simp) (by omega) (by simp;omega) ?_;intro g2 cap2 w6 hs6 hg6 hor6 hlt6;have O6:=hide hs6;have G6:=hide hg6;have A6:=hide ((A5.out.frm (S:=[]) ((Frm.refl [] _).alloc _) (by simp)).grown G6.out (fun hr=>by have:=HOB.out _ hr;omega));have c6:=A6.out.cN.1;have z6:=A6.out.fz 257;clear hs6 hg6 hor6))
      go_roundg (gk-1)
      case measure=>omega
      case rel =>
       have FS:∀ u,Frm [w2.heap.size] w6 (w6.setCell ⟨w2.heap.size,257,none⟩ u):=fun u=>(Frm.refl [w2.heap.size] w6).setCell (p:=⟨w2.heap.size,257,none⟩) (.inl (by simp)) u
       have F6:=((F5.out.alloc _).grown G6.out (fun r hr=>.inr (by have:=HOB.out r hr;omega)));have hz6:=G6.out.size;simp at hz6;refine ⟨c+1,i5,acc++[m],_,by omega,by go_num,by simp[HACC2.out],((L5.out.frm (S:=[]) ((Frm.refl [] _).alloc _) (by simp)).grown G6.out (fun r hr=>by have:=HOB.out r hr;omega)).frm (FS _) (by simp;omega),F6.over (FS _) (by intro x hx;simp at hx;left;omega),?_,A6.out.setA _,O6.out.keep (FS _) (fun r hr=>by have:=(O6.out.lt hr).1;simp;omega),by simp[World.setCell];omega,HR2⟩;refine ((FS _).block w.heap.size (by omega) (by simp;omega)).trans ?_;refine (G6.out.block w.heap.size (by simp;omega) (fun e=>by have:=HOB.out _ e.symm;omega)).trans ?_;exact (((Frm.refl [] w5).alloc _).block w.heap.size (by omega) (by simp)).trans R5.out
    ·have hce:c=v:=by omega
     have hd1:decide ((c:Int)<(v:Int))=false:=decide_eq_false (by omega);have HP3:Hid (pA (t.drop i)=(pR (fun _=>pN 1 0 v) (v*v2) [] (t.drop i6)).bind fun n=>some (⟨v2,CL,acc,n.1⟩,n.2)):=by
      have h:=HR.out;rw[hce,Nat.sub_self]at h;show _=_;rw[HP2.out,← h];rfl
     clear HP2 HR HACC2;subst hce;obtain ⟨AC,hAC⟩:∃ AC,AC=acc:=⟨_,rfl⟩;rw[← hAC]at HP3 A O hal;obtain ⟨wC,hwC⟩:∃ wC,wC=wr:=⟨_,rfl⟩;rw[← hwC]at L F R A O hzB hab;rw[← hwC];clear hwC hAC;have hprod:c*v2≤10496:=Nat.le_trans (Nat.mul_le_mul (Nat.le_of_lt_succ hvb.2) (Nat.le_of_lt_succ hvb2.2)) (by decide);obtain ⟨p,hp⟩:∃ p,p=c*v2:=⟨_,rfl⟩;have hpz:(c:Int)*(v2:Int)=(p:Int):=by rw[hp];simp
     rw[← hp]at HP3 hprod;clear hp;have HZW:Hid (wB.heap.size≤wC.heap.size):=hzB;have HOL:Hid (∀ r,Value.ownBlock (.slice ao AC.length co)=some r→wB.heap.size≤r∧r<wC.heap.size):=fun r hr=>O.out.lt hr
     go_wp2_with fail
     go_loopg [15] p (fun k v15 wr=>∃ (d i':Nat) (nx:List Nat) (vn:Value),d+k=p∧v15=.int .i64 d∧nx.length=d∧LD wr b t i' V∧Frm [b] w wr∧Hid (RBz wr w.heap.size)∧AB wr w2.heap.size (v2:Nat) CL (.slice ao AC.length co) vn∧OW 4 1 wB.heap.size wr (.slice ao AC.length co) (bc AC)∧OW 3 1 wC.heap.size wr vn (ic nx)∧wC.heap.size≤wr.heap.size ∧
      Hid (pR (fun _=>pN 1 0 c) (p-d) nx (t.drop i')=pR (fun _=>pN 1 0 c) p [] (t.drop i6)))
     case atStart=>exact ⟨0,i6,[],_,by omega,rfl,rfl,L.out,F.out,R,A.out,O.out,OW.nil _ _ _ _,Nat.le_refl _,rfl⟩
     case round =>
      clear L F R A O;obtain ⟨d,i7,nx,vn,hdk,rfl,hnx,hL,hF,R,hA,hO,hN,hzC,HR⟩:=hrel;obtain ⟨an,cn,he⟩:=hN.shape;rw[ic_len]at he;subst he;have L:=hide hL;have F:=hide hF;have A:=hide hA;have O:=hide hO;have N:=hide hN;have hab:=hA.lt;have HNX:=hide hnx;have hnl:nx.length≤100000:=by omega
      have hzB2:=HZW.out;clear hL hF hA hO hN hnx
      by_cases hlt:d<p
      ·have hd1:decide ((d:Int)<(p:Int))=true:=decide_eq_true (by omega)
       have N5:=hide (ltakeNumber_any b t i7 V 1 0 c 1 0 ((c:Int)-1) wr L.out (by omega) (by omega) (by omega) rfl rfl rfl);go_wp2_with fail
       refine (N5.out).mono ?_;rintro e w5 ⟨i5,m,ok5,rfl,hL5,hF5,hP5,hm5⟩;have L5:=hide hL5;have F5:=hide (F.out.trans hF5);have R5:Hid (RBz w5 w.heap.size):=(hF5.block w.heap.size (by omega) (by simp;omega)).trans R.out;have A5:=hide (A.out.frm hF5 (by simp;omega));have O5:=hide (O.out.frm hF5 (by intro g hg;simp at hg;omega));have N6:=hide (N.out.frm hF5 (by intro g hg;simp at hg;omega));have hz5:=hF5.size;have HPR:Hid (pR (fun _=>pN 1 0 c) (p-d) nx (t.drop i7)=(pN 1 0 c (t.drop i7)).bind fun x=>pR (fun _=>pN 1 0 c) (p-(d+1)) (nx++[x.1]) x.2):=by
        show _=_;rw[show p-d=(p-(d+1))+1 by omega,pR_succ]
       have P5:=hide hP5;clear hL5 hF5 hP5 N5 L F R A O N;cases ok5
       ·have HP4:Hid (pA (t.drop i)=none):=by
         rcases P5.out with ⟨h,_⟩|⟨_,h⟩
         ·cases h
         ·show _=_;rw[HP3.out,← HR.out,HPR.out,h];rfl
        have hst:=store_row R5.out rfl autoAll;have HRB:=hide (setRow_at (cs:=Tryz.zeroCells95) R5.out);go_wp2
        (try simp only[Exit.inBlock,Exit.then])
        refine bodyPost_ret (results_cell_tmpA rfl _ _ w.heap.size _ rfl (autoLoad HRB.out autoZero9)) rfl ?_;exact AutQ.no hb L5.out F5.out HP4.out
       ·have HR2:Hid (pR (fun _=>pN 1 0 c) (p-(d+1)) (nx++[m]) (t.drop i5)=pR (fun _=>pN 1 0 c) p [] (t.drop i6)):=by
         rcases P5.out with ⟨_,h⟩|⟨h,_⟩
         ·show _=_;rw[← HR.out,HPR.out,h];rfl
         ·cases h
        have cA:=A5.out.cN.2;have HOB:Hid (∀ r,Value.ownBlock (.slice an nx.length cn)=some r→wC.heap.size≤r):=fun r hr=>(N6.out.lt hr).1
        have L5b:=L5.out.lt;have hab5:=A5.out.lt;clear P5 HPR HR;go_wp2_with (first | (at_builtin;refine wp_appIc _ rfl _ _ rfl wC.heap.size (.slice an nx.length cn) nx w5.heap.size m rfl (N6.out.frm (S:=[]) ((Frm.refl [] _).alloc _) (by simp)) rfl (by simp) (by omega) (by simp;omega) ?_;intro g2 cap2 w6 hs6 hg6 hor6 hlt6;have M6:=hide hs6;have G6:=hide hg6;have A6:=hide ((A5.out.frm (S:=[]) ((Frm.refl [] _).alloc _) (by simp)).grown G6.out (fun hr=>by have:=HOB.out _ hr;omega));have c6:=A6.out.cN.2;have z6:=A6.out.fz 258;clear hs6 hg6 hor6))
        go_roundg (gk-1)
        case measure=>omega
        case rel =>
         have FS:∀ u,Frm [w2.heap.size] w6 (w6.setCell ⟨w2.heap.size,258,none⟩ u):=fun u=>(Frm.refl [w2.heap.size] w6).setCell (p:=⟨w2.heap.size,258,none⟩) (.inl (by simp)) u
         have F6:=((F5.out.alloc _).grown G6.out (fun r hr=>.inr (by have:=HOB.out r hr;omega)));have hz6:=G6.out.size;simp at hz6;have O6:OW 4 1 wB.heap.size w6 (.slice ao AC.length co) (bc AC):=(O5.out.frm (S:=[]) ((Frm.refl [] _).alloc _) (by simp)).grown G6.out (fun r hr e=>by have:=HOL.out r hr;have:=HOB.out r e;omega);refine ⟨d+1,i5,nx++[m],_,by omega,by go_num,by simp[HNX.out],((L5.out.frm (S:=[]) ((Frm.refl [] _).alloc _) (by simp)).grown G6.out (fun r hr=>by have:=HOB.out r hr;omega)).frm (FS _) (by simp;omega),F6.over (FS _) (by intro x hx;simp at hx;left;omega),?_,A6.out.setN _,O6.keep (FS _) (fun r hr=>by have:=HOL.out r hr;simp;omega),M6.out.keep (FS _) (fun r hr=>by have:=(M6.out.lt hr).1;simp;omega),by simp[World.setCell];omega,HR2⟩;refine ((FS _).block w.heap.size (by omega) (by simp;omega)).trans ?_;refine (G6.out.block w.heap.size (by simp;omega) (fun e=>by have:=HOB.out _ e.symm;omega)).trans ?_;exact (((Frm.refl [] w5).alloc _).block w.heap.size (by omega) (by simp)).trans R5.out
      ·have hde:d=p:=by omega
       have hd1:decide ((d:Int)<(p:Int))=false:=decide_eq_false (by omega);have HP4:Hid (pA (t.drop i)=some (⟨v2,CL,AC,nx⟩,t.drop i7)):=by
        have h:=HR.out;rw[hde,Nat.sub_self]at h;show _=_;rw[HP3.out,← h];rfl
       have HCLL:=hide A.out.2;clear HP3 HR;have hsz:(Value.int .i64 (v2:Nat)::(nv .u8 CL++[.slice ao AC.length co, .slice an nx.length cn])).toArray.size=259:=by simp[nv,HCLL.out]
       have hall:(Value.int .i64 (v2:Nat)::(nv .u8 CL++[.slice ao AC.length co, .slice an nx.length cn])).toArray.all (·.oneCell')=true:=by
        rw[Array.all_eq_true_iff_forall_mem];intro x hx;simp[nv]at hx;rcases hx with rfl|⟨y,_,rfl⟩|rfl|rfl<;>rfl
       have HABc:=hide A.out.1;have HSZ:=hide hsz;have HALL:=hide hall;clear hsz hall;generalize hcs:(Value.int .i64 (v2:Nat)::(nv .u8 CL++[.slice ao AC.length co, .slice an nx.length cn])).toArray=cs at HABc HSZ HALL;have HCS:=hide hcs;have HSTO:=hide (store_row R.out (by rw[HSZ.out,autoZero9]) HALL.out);have HRB:=hide (setRow_at (cs:=cs) R.out);clear hcs;go_wp2_with fail
       refine wp_autoLoad (.tmp 8) rfl w2.heap.size rfl cs (autoLoad HABc.out HSZ.out) ?_;have hsz:=HSZ.out;have hsto:=HSTO.out;go_wp2
       (try simp only[Exit.inBlock,Exit.then])
       refine bodyPost_ret (results_cell_tmpA rfl _ _ w.heap.size _ rfl (autoLoad HRB.out HSZ.out)) rfl ?_;refine ⟨i7,true,cs,⟨v2,CL,AC,nx⟩,rfl,L.out.frm (Frm.setRow _ _ _) (by simp;omega),F.out.over (Frm.setRow _ _ _) (by simp), .inl ⟨rfl,HP4.out⟩,HSZ.out,HALL.out,fun _=>⟨_,_,HCS.out.symm,?_,?_⟩⟩
       ·exact (O.out.keep (Frm.setRow _ _ cs) (fun r hr=>by have:=(O.out.lt hr).1;simp;omega)).base (by omega)
       ·exact (N.out.keep (Frm.setRow _ _ cs) (fun r hr=>by have:=(N.out.lt hr).1;simp;omega)).base (by omega)
theorem pTs_eq(nn nc na:Nat)(s:List UInt8):pTs nn nc na s=(pN 1 0 nn s).bind fun x=>(pN 1 0 2 x.2).bind fun y=>(pN 1 0 (if y.1=1 then na else nc) y.2).bind fun z=>some (⟨x.1,y.1,z.1⟩,z.2):=rfl
theorem takeTest_any(b:Nat)(t:List UInt8)(i:Nat)(V:V6)(nn nc na:Nat)(w:World)(h:LD w b t i V)(hn:∃ a c,V.n=.slice a nn c)(hc:∃ a c,V.c=.slice a nc c)(ha:∃ a c,V.a=.slice a na c)(hnn:nn≤1000)(hnc:nc≤1000)(hna:na≤1000) :
 Calls Tryz.prog 58 #[.pointer (some ⟨b,0,none⟩)] w fun e w'=>∃ (i':Nat) (ok:Bool) (x:TstM),e=.returned (.tuple #[.agg (tcell x), .bool ok])∧LD w' b t i' V∧Frm [b] w w'∧PO ok (pTs nn nc na) (t.drop i) x (t.drop i'):=by
 obtain ⟨n,c,a,t',r,ii⟩:=V;obtain ⟨an,cn,rfl⟩:=hn;obtain ⟨ac,cc,rfl⟩:=hc;obtain ⟨aa,ca,rfl⟩:=ha;have c2:=h.cn;have hb:=h.lt;have F0:=hide ((Frm.refl [b] w).alloc (Obj.cells #[.int .i64 0, .int .i64 0, .int .i64 0] 97));have L0:=hide (h.frm (S:=[]) ((Frm.refl [] w).alloc (Obj.cells #[.int .i64 0, .int .i64 0, .int .i64 0] 97)) (by simp));have R0:Hid ((w.alloc (Obj.cells #[.int .i64 0, .int .i64 0, .int .i64 0] 97)).heap[w.heap.size]?=some (Obj.cells #[.int .i64 0, .int .i64 0, .int .i64 0] 97)):=heap1 _ _;have N1:=hide (ltakeNumber_any b t i _ 1 0 nn 1 0 ((nn:Int)-1) _ L0.out (by omega) (by omega) (by omega) rfl rfl rfl);clear h;go_enter Tryz.func58,Tryz.ntmps58
 go_wp2_with fail
 refine (N1.out).mono ?_;rintro e w1 ⟨i1,x,ok1,rfl,hL1,hF1,hP1,hv1⟩;have L1:=hide hL1;have F1:=hide (F0.out.trans hF1);have hz1:=hF1.size;simp at hz1;have R1:Hid (w1.heap[w.heap.size]?=some (Obj.cells #[.int .i64 0, .int .i64 0, .int .i64 0] 97)):=(hF1.block w.heap.size (by simp) (by simp;omega)).trans R0.out;have P1:=hide hP1;clear hL1 hF1 hP1 N1 F0 R0 L0;have N2:=hide (ltakeNumber_any b t i1 _ 1 0 2 1 0 1 _ L1.out (by omega) (by omega) (by omega) rfl rfl rfl);clear c2;go_wp2_with fail
 refine (N2.out).mono ?_;rintro e w2 ⟨i2,y,ok2,rfl,hL2,hF2,hP2,hv2⟩;have L2:=hide hL2;have F2:=hide (F1.out.trans hF2);have hz2:=hF2.size;have R2:Hid (w2.heap[w.heap.size]?=some (Obj.cells #[.int .i64 0, .int .i64 0, .int .i64 0] 97)):=(hF2.block w.heap.size (by omega) (by simp;omega)).trans R1.out;have P2:=hide hP2;have c3:=hL2.cc;have c4:=hL2.ca;clear hL2 hF2 hP2 N2 F1 R1 L1;have hbL:=L2.out.lt;obtain ⟨m,hm,HM⟩:∃ m:Nat,m≤1000∧Hid (m=if y=1 then na else nc):=⟨_,by split<;>omega,rfl⟩;have N3:=hide (ltakeNumber_any b t i2 _ 1 0 m 1 0 ((m:Int)-1) _ L2.out (by omega) (by omega) (by omega) rfl rfl rfl);have HF:Hid (∀ i3 z ok3,PO ok3 (pN 1 0 m) (t.drop i2) z (t.drop i3)→PO (ok1&&ok2&&ok3) (pTs nn nc na) (t.drop i) ⟨x,y,z⟩ (t.drop i3)):=by
  intro i3 z ok3 h3;unfold PO;rw[pTs_eq];rcases P1.out with ⟨e1,h1⟩|⟨e1,h1⟩
  ·rw[h1]
   rcases P2.out with ⟨e2,h2⟩|⟨e2,h2⟩
   ·simp only[Option.bind_some]
    rw[h2];simp only[Option.bind_some];rw[← HM.out];rcases h3 with ⟨e3,h3⟩|⟨e3,h3⟩
    ·rw[h3,e1,e2,e3];left;exact ⟨rfl,rfl⟩
    ·rw[h3,e1,e2,e3];right;exact ⟨rfl,rfl⟩
   ·simp only[Option.bind_some]
    rw[h2,e1,e2];right;exact ⟨rfl,rfl⟩
  ·rw[h1,e1];right;exact ⟨rfl,rfl⟩
 clear P1 P2;have hy3:((y:Int)==1)=(y==1):=by rw[Bool.eq_iff_iff,beq_iff_eq,beq_iff_eq];omega
 cases hy:(y==1)
 all_goals
  have hmy:Hid (m=if (y==1)=true then na else nc):=by
   show _=_;rw[HM.out];simp
  have hmy2:=hmy.out;rw[hy]at hmy2;simp only[if_true,Bool.false_eq_true,if_false]at hmy2;subst hmy2;clear hmy HM;go_wp2_with fail
  refine (N3.out).mono ?_;rintro e w3 ⟨i3,z,ok3,rfl,hL3,hF3,hP3,hv3⟩;have L3:=hide hL3;have F3:=hide (F2.out.trans hF3);have hz3:=hF3.size;have R3:Hid (w3.heap[w.heap.size]?=some (Obj.cells #[.int .i64 0, .int .i64 0, .int .i64 0] 97)):=(hF3.block w.heap.size (by omega) (by simp;omega)).trans R2.out;have HP:=hide (HF.out i3 z ok3 hP3);have d0:w3.cell? ⟨w.heap.size,0,none⟩=some (.int .i64 0):=by simp[World.cell?,R3.out]
  have d1:w3.cell? ⟨w.heap.size,1,none⟩=some (.int .i64 0):=by simp[World.cell?,R3.out]
  have d2:w3.cell? ⟨w.heap.size,2,none⟩=some (.int .i64 0):=by simp[World.cell?,R3.out]
  have dz:∀ o,w3.frozen? ⟨w.heap.size,o,none⟩=false:=fun o=>by simp[World.frozen?,R3.out]
  clear hL3 hF3 hP3 N3 R2 L2 F2 HF;cases ok1<;>cases ok2<;>cases ok3
  all_goals
   go_wp2;have FS:=(((Frm.refl [w.heap.size] w3).setCell (p:=⟨w.heap.size,0,none⟩) (.inl (by simp)) (.int .i64 (x:Nat))).setCell (p:=⟨w.heap.size,1,none⟩) (.inl (by simp)) (.int .i64 (y:Nat))).setCell (p:=⟨w.heap.size,2,none⟩) (.inl (by simp)) (.int .i64 (z:Nat));refine bodyPost_ret (results_cell_tmpA rfl _ _ w.heap.size (tcell ⟨x,y,z⟩) rfl (run_loadVar_row _ w.heap.size 97 97 _ (0,0) _ ?_ Tryz.underlying97 rfl testSize)) rfl ?_
   ·have h:=R3.out
    simp[World.setCell,Array.getElem?_modify,h,tcell]
   exact ⟨i3,_,⟨x,y,z⟩,rfl,L3.out.frm FS (by simp;omega),F3.out.over FS (by simp),HP.out⟩
theorem heap_new2d(w:World)(a b:Obj):((w.alloc a).alloc b).drew.heap[w.heap.size+1]?=some b:=by
 have:=heap_alloc_new (w.alloc a) b;rw[← this];simp;rfl
theorem takeTests_any(b:Nat)(t:List UInt8)(i:Nat)(V:V6)(nn nc na:Nat)(w:World)(h:LD w b t i V)(hn:∃ a c,V.n=.slice a nn c)(hc:∃ a c,V.c=.slice a nc c)(ha:∃ a c,V.a=.slice a na c)(hnn:nn≤1000)(hnc:nc≤1000)(hna:na≤1000)(hV:V.t=.slice none 0 0) :
 Calls Tryz.prog 36 #[.pointer (some ⟨b,0,none⟩)] w fun e w'=>∃ (i':Nat) (ok:Bool) (v:Value) (x:List TstM),e=.returned (.bool ok)∧LD w' b t i' { V with t:=v }∧Frm [b] w w'∧PO ok (pTss nn nc na) (t.drop i) x (t.drop i')∧OW 97 3 w.heap.size w' v (tc x):=by
 have N1:=hide (ltakeNumber_any b t i V 1 0 256 1 0 255 w h (by omega) (by omega) (by omega) rfl rfl rfl);have hb:=h.lt;have HV:=hide hV;clear h hV;go_enter Tryz.func36,Tryz.ntmps36
 go_wp2_with fail
 refine (N1.out).mono ?_;rintro e w1 ⟨i1,v,ok,rfl,hL1,hF1,hP1,hv⟩;have L1:=hide hL1;have F1:=hide hF1;have P1:=hide hP1;clear hL1 hF1 hP1 N1;have hz1:=F1.out.size;go_wp2_with fail
 go_loopg [4,5] v (fun k v4 v5 wr=>∃ (j i':Nat) (acc:List TstM) (vr:Value) (okb:Bool),j+k=v∧v5=.int .i64 j∧v4=.bool okb∧OW 97 3 w.heap.size wr vr (tc acc)∧LD wr b t i' { V with t:=vr }∧Frm [b] w wr∧acc.length≤j ∧
  Hid ((okb=true∧v<256∧pR (fun _=>pTs nn nc na) (v-j) acc (t.drop i')=pTss nn nc na (t.drop i))∨(okb=false∧pTss nn nc na (t.drop i)=none)))
 case atStart =>
  refine ⟨0,i1,[], .slice none 0 0,ok,by omega,rfl,rfl,OW.nil _ _ _ _,?_,F1.out,by simp,?_⟩
  ·have:=L1.out;rw[← HV.out];exact this
  rcases P1.out with ⟨h1,h2⟩|⟨h1,h2⟩
  ·exact .inl ⟨h1,(pN_some h2).2.2,by unfold pTss;rw[h2];rfl⟩
  ·exact .inr ⟨h1,by unfold pTss;rw[h2];rfl⟩
 case round =>
  obtain ⟨j,i2,acc,vr,okb,hjk,rfl,rfl,hO,hL,hF,hal,HR⟩:=hrel;obtain ⟨ao,co,he⟩:=hO.shape;rw[tc_len]at he;subst he;have O:=hide hO;have L:=hide hL;have F:=hide hF;have hz:=hF.size;clear hO hL hF;cases okb with
  | false =>
    have HP:Hid (pTss nn nc na (t.drop i)=none):=by
     rcases HR.out with ⟨h,_⟩|⟨_,h⟩
     ·cases h
     ·exact h
    clear HR;go_wp2;go_ret;exact ⟨i2,false,_,acc,rfl,L.out,F.out, .inr ⟨rfl,HP.out⟩,O.out⟩
  | true =>
    have HP:Hid (v<256∧pR (fun _=>pTs nn nc na) (v-j) acc (t.drop i2)=pTss nn nc na (t.drop i)):=by
     rcases HR.out with ⟨_,h⟩|⟨h,_⟩
     ·exact h
     ·cases h
    clear HR
    by_cases hlt:j<v
    ·have hd1:decide ((j:Int)<(v:Int))=true:=decide_eq_true (by omega)
     have N2:=hide (takeTest_any b t i2 _ nn nc na wr L.out hn hc ha hnn hnc hna);go_wp2_with fail
     refine (N2.out).mono ?_;rintro e w2 ⟨i3,ok2,x,rfl,hL2,hF2,hP2⟩;have L2:=hide hL2;have F2:=hide hF2;have O2:=hide (O.out.frm (hF2) (by intro g hg;simp at hg;omega));have HP2:Hid ((ok2=true∧v<256∧pR (fun _=>pTs nn nc na) (v-(j+1)) (acc++[x]) (t.drop i3)=pTss nn nc na (t.drop i))∨(ok2=false∧pTss nn nc na (t.drop i)=none)):=by
      have h:=HP.out;rw[show v-j=(v-(j+1))+1 by omega]at h;rcases hP2 with ⟨h1,h2⟩|⟨h1,h2⟩
      ·refine .inl ⟨h1,h.1,?_⟩
       rw[← h.2,pR_succ,h2];rfl
      ·refine .inr ⟨h1,?_⟩
       rw[← h.2,pR_succ,h2];rfl
     have hz2:=hF2.size;have hvh:=HP.out.1;have c:=hL2.ct;have z:=hL2.fz 5;have hb2:=hL2.lt;have hob:∀ r,Value.ownBlock (.slice ao acc.length co)=some r→w.heap.size≤r:=fun r hr=>(O2.out.lt hr).1
     have HOB:=hide hob;have hl:=tc_len acc;have HTC:=hide (tc_len acc);have g2:∀ o o':Obj,((w2.alloc o).alloc o').drew.frozen? ⟨b,5,none⟩=false:=fun o o'=>(((((Frm.refl [] w2).alloc o).alloc o').drew).frozen hb2 (by simp)).trans z
     have g1:∀ o:Obj,(w2.alloc o).drew.frozen? ⟨b,5,none⟩=false:=fun o=>((((Frm.refl [] w2).alloc o).drew).frozen hb2 (by simp)).trans z
     have ag:Value.ownBlock (.slice ao acc.length co)≠some b:=fun e=>by have:=HOB.out _ e;omega
     clear hL2 hF2 hP2 HP N2 L O hob hl;obtain ⟨x1,x2,x3⟩:=x;simp only[tcell];go_wp2_with fail
     go_region_law ((refine step_appG _ (by rfl) _ _ 54 97 _ 3 24 infoTest Tryz.underlying54 (by rfl) (by omega) (by rfl) w.heap.size (.slice ao acc.length co) (tc acc) (w2.heap.size+1) (tcell ⟨x1,x2,x3⟩) (0,0) (by rfl) (O2.out.frm (S:=[]) ((((Frm.refl [] _).alloc _).alloc _).drew) (by simp)) (by rfl) (by rfl) (by exact heap_new2d _ _ _) (tcell_one _) (by rw[HTC.out];omega) (by rw[HTC.out];omega) (by simp;omega) (w2.heap.size+2) (by simp) ?_;intro gg cap2 w4 hown4 hgrow hat hlt4;have c4:=(hgrow.cell_far ⟨b,5,none⟩ (by simp;omega) (Ne.symm ag));have f4:=(hgrow.frozen_far ⟨b,5,none⟩ (by simp;omega) (Ne.symm ag));have f5:=f4.trans (g2 _ _);rw[HTC.out]at hown4 ⊢))
     all_goals
      have G4:=hide hgrow;have O4:=hide hown4;clear hgrow hown4;go_wp2;go_roundg (gk-1)
      case measure=>omega
      case rel =>
       have L4:=(L2.out.frm (S:=[]) ((((Frm.refl [] _).alloc _).alloc _).drew) (by simp)).grown G4.out (fun r hr=>by have:=HOB.out r hr;omega);have O5:=O4.out;rw[tc_snoc]at O5;refine ⟨j+1,i3,acc++[(⟨x1,x2,x3⟩:TstM)],_,ok2,by omega,by go_num,rfl,O5.frm (S:=[b]) ((Frm.refl [b] _).setCell (p:=⟨b,5,none⟩) (.inl (by simp)) _) (by simp;omega),L4.setT _,(((((F.out.trans F2.out).alloc _).alloc _).drew).grown G4.out (fun r hr=>.inr (HOB.out r hr))).setCell (p:=⟨b,5,none⟩) (.inl (by simp)) _,by simp;omega,HP2⟩
    ·have hjv:j=v:=by omega
     have hd1:decide ((j:Int)<(v:Int))=false:=decide_eq_false (by omega);have HP2:Hid (pTss nn nc na (t.drop i)=some (acc,t.drop i2)):=by
      have h:=HP.out.2;rw[hjv,Nat.sub_self]at h;exact h.symm
     clear HP;subst hjv;go_wp2;go_ret;exact ⟨i2,true,_,acc,rfl,L.out,F.out, .inl ⟨rfl,HP2.out⟩,O.out⟩
end Go.Proofs.YtpcbbbilmpobaaaGreatDoor
