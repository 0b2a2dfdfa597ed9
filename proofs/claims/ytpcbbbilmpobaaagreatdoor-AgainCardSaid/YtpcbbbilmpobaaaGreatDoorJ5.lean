import Derived.Test.YtpcbbbilmpobaaaGreatDoorJ4
import Derived.Laws.IdiomStrings
set_option linter.unusedVariables false
set_option linter.unusedSimpArgs false
set_option linter.unnecessarySimpa false
set_option maxRecDepth 100000
set_option maxHeartbeats 2000000
namespace Go.Proofs.YtpcbbbilmpobaaaGreatDoor
open Go.RowKit
def LD(w:World)(b:Nat)(t:List UInt8)(i:Nat)(V:V6):Prop :=
 w.heap[b]?=some (.cells #[.string (bs t), .int .i64 i,V.n,V.c,V.a,V.t,V.r,V.i] 104 (0,0))∧i≤t.length∧t.length≤1048576
theorem LD.c0{w:World}{b:Nat}{t:List UInt8}{i:Nat}{V:V6}(h:LD w b t i V):w.cell? ⟨b,0,none⟩=some (.string (bs t)):=by simp[World.cell?,h.1]
theorem LD.c1{w:World}{b:Nat}{t:List UInt8}{i:Nat}{V:V6}(h:LD w b t i V):w.cell? ⟨b,1,none⟩=some (.int .i64 i):=by simp[World.cell?,h.1]
theorem LD.cn{w:World}{b:Nat}{t:List UInt8}{i:Nat}{V:V6}(h:LD w b t i V):w.cell? ⟨b,2,none⟩=some V.n:=by simp[World.cell?,h.1]
theorem LD.cc{w:World}{b:Nat}{t:List UInt8}{i:Nat}{V:V6}(h:LD w b t i V):w.cell? ⟨b,3,none⟩=some V.c:=by simp[World.cell?,h.1]
theorem LD.ca{w:World}{b:Nat}{t:List UInt8}{i:Nat}{V:V6}(h:LD w b t i V):w.cell? ⟨b,4,none⟩=some V.a:=by simp[World.cell?,h.1]
theorem LD.ct{w:World}{b:Nat}{t:List UInt8}{i:Nat}{V:V6}(h:LD w b t i V):w.cell? ⟨b,5,none⟩=some V.t:=by simp[World.cell?,h.1]
theorem LD.cr{w:World}{b:Nat}{t:List UInt8}{i:Nat}{V:V6}(h:LD w b t i V):w.cell? ⟨b,6,none⟩=some V.r:=by simp[World.cell?,h.1]
theorem LD.ci{w:World}{b:Nat}{t:List UInt8}{i:Nat}{V:V6}(h:LD w b t i V):w.cell? ⟨b,7,none⟩=some V.i:=by simp[World.cell?,h.1]
theorem LD.fz{w:World}{b:Nat}{t:List UInt8}{i:Nat}{V:V6}(h:LD w b t i V)(o:Nat):w.frozen? ⟨b,o,none⟩=false:=by simp[World.frozen?,h.1]
theorem LD.lt{w:World}{b:Nat}{t:List UInt8}{i:Nat}{V:V6}(h:LD w b t i V):b<w.heap.size:=(Array.getElem?_eq_some_iff.1 h.1).1
theorem LD.frm{S:List Nat}{w w':World}{b:Nat}{t:List UInt8}{i:Nat}{V:V6}(h:LD w b t i V)(f:Frm S w w')(hS:b∉S):LD w' b t i V:=⟨(f.block b h.lt hS).trans h.1,h.2⟩
theorem LD.grown{w w':World}{b:Nat}{t:List UInt8}{i:Nat}{V:V6}{row:Option Nat}(h:LD w b t i V)(hg:w.grownBy w' row)(hr:∀ r,row=some r→r≠b):LD w' b t i V:=⟨(hg.block b h.lt (fun e=>hr b e.symm rfl)).trans h.1,h.2⟩
theorem LD.drewN{w:World}{b:Nat}{t:List UInt8}{i:Nat}{V:V6}(n:Nat)(h:LD w b t i V):LD (w.drewN n) b t i V:=h
theorem LD.at_{w:World}{b:Nat}{t:List UInt8}{i:Nat}{V:V6}(h:LD w b t i V)(j:Nat)(hj:j≤t.length):LD (w.setCell ⟨b,1,none⟩ (.int .i64 j)) b t j V:=by
 refine ⟨?_,hj,h.2.2⟩;simp[World.setCell,Array.getElem?_modify,h.1]
theorem LD.setN{w:World}{b:Nat}{t:List UInt8}{i:Nat}{V:V6}(h:LD w b t i V)(v:Value):LD (w.setCell ⟨b,2,none⟩ v) b t i { V with n:=v }:=by
 refine ⟨?_,h.2⟩;simp[World.setCell,Array.getElem?_modify,h.1]
theorem LD.setC{w:World}{b:Nat}{t:List UInt8}{i:Nat}{V:V6}(h:LD w b t i V)(v:Value):LD (w.setCell ⟨b,3,none⟩ v) b t i { V with c:=v }:=by
 refine ⟨?_,h.2⟩;simp[World.setCell,Array.getElem?_modify,h.1]
theorem LD.setA{w:World}{b:Nat}{t:List UInt8}{i:Nat}{V:V6}(h:LD w b t i V)(v:Value):LD (w.setCell ⟨b,4,none⟩ v) b t i { V with a:=v }:=by
 refine ⟨?_,h.2⟩;simp[World.setCell,Array.getElem?_modify,h.1]
theorem LD.setT{w:World}{b:Nat}{t:List UInt8}{i:Nat}{V:V6}(h:LD w b t i V)(v:Value):LD (w.setCell ⟨b,5,none⟩ v) b t i { V with t:=v }:=by
 refine ⟨?_,h.2⟩;simp[World.setCell,Array.getElem?_modify,h.1]
theorem LD.setR{w:World}{b:Nat}{t:List UInt8}{i:Nat}{V:V6}(h:LD w b t i V)(v:Value):LD (w.setCell ⟨b,6,none⟩ v) b t i { V with r:=v }:=by
 refine ⟨?_,h.2⟩;simp[World.setCell,Array.getElem?_modify,h.1]
theorem LD.setI{w:World}{b:Nat}{t:List UInt8}{i:Nat}{V:V6}(h:LD w b t i V)(v:Value):LD (w.setCell ⟨b,7,none⟩ v) b t i { V with i:=v }:=by
 refine ⟨?_,h.2⟩;simp[World.setCell,Array.getElem?_modify,h.1]
def PO{α:Type}(ok:Bool)(p:PT α)(s:List UInt8)(x:α)(s':List UInt8):Prop:=(ok=true∧p s=some (x,s'))∨(ok=false∧p s=none)
theorem ltakeNumber_any(b:Nat)(t:List UInt8)(i:Nat)(V:V6)(n lo hi:Nat)(sz le mo:Int)(w:World)(h:LD w b t i V)(hn:n≤3)(hlo:lo≤1000000)(hhi:hi≤1000000)(hsz:sz=(n:Int))(hle:le=(lo:Int))(hmo:mo=(hi:Int)-1) :
 Calls Tryz.prog 55 #[.pointer (some ⟨b,0,none⟩), .int .i64 sz, .int .i64 le, .int .i64 mo] w fun e w'=>∃ (i' v:Nat) (ok:Bool),e=.returned (.tuple #[.int .i64 v, .bool ok])∧LD w' b t i' V∧Frm [b] w w'∧PO ok (pN n lo hi) (t.drop i) v (t.drop i')∧v<16777216:=by
 subst hsz hle hmo;have H1:=hide h;have c0:=h.c0;have c1:=h.c1;have z:=h.fz 1;have hi1:=h.2.1;have ht:=h.2.2;have hsz:=bs_size t;clear h
 by_cases hlen:t.length-i<n
 ·have hd1:decide ((t.length:Int)-(i:Int)<(n:Int))=true:=decide_eq_true (by omega)
  have HP:Hid (pN n lo hi (t.drop i)=none):=by
   show _=_;unfold pN;rw[if_neg];rw[List.length_drop];omega
  go_enter Tryz.func55,Tryz.ntmps55
  go_wp2_with fail
  go_quiet (fail)
  go_wp2;go_ret2;exact ⟨i,0,false,rfl,H1.out.drewN _,(Frm.refl _ _).drewN _, .inr ⟨rfl,HP.out⟩,by omega⟩
 ·have hd1:decide ((t.length:Int)-(i:Int)<(n:Int))=false:=decide_eq_false (by omega)
  go_enter Tryz.func55,Tryz.ntmps55
  go_wp2_with fail
  go_quiet (fail)
  go_wp2_with fail
  clear c1 z;go_loopg [10,11] n (fun k v10 v11 wr=>∃ j q:Nat,j+k=n∧q=i+j∧v11=.int .i64 j∧v10=.int .i64 (nmV ((t.drop i).take j))∧LD wr b t q V∧Frm [b] w wr)
  case atStart=>exact ⟨0,i,by omega,rfl,rfl,rfl,H1.out.drewN _,(Frm.refl _ _).drewN _⟩
  case round =>
   obtain ⟨j,q,hjk,hq,rfl,rfl,hld,hfr⟩:=hrel;have L:=hide hld;have F:=hide hfr;have q0:=hld.c0;have q1:=hld.c1;have z:=hld.fz 1;clear hld hfr
   by_cases hlt:j<n
   ·have hij:q<t.length:=by omega
    have hbg:(bs t)[q]'(by rw[hsz];omega)=t[q]:=rfl;have HT:Hid (nmV ((t.drop i).take (j+1))=nmV ((t.drop i).take j)*256+t[q].toNat):=by
     show _=_;have:(t.drop i).take (j+1)=(t.drop i).take j++[t[q]]:=by
      rw[List.take_add_one,List.getElem?_drop,← hq,List.getElem?_eq_getElem hij];rfl
     rw[this,nmV_snoc]
    have hb:=nmV_lt j ((t.drop i).take j) (by rw[List.length_take,List.length_drop];omega);have hb2:256 ^ j≤256 ^ 2:=Nat.pow_le_pow_right (by omega) (by omega);have hx8:=(t[q]).toNat_lt;generalize t[q]=x at *;generalize nmV ((t.drop i).take j)=m at *;generalize 256 ^ j=p at *;have hm:m<65536:=by omega
    have HQ:=hide hq;have hq2:q+1≤t.length:=by omega
    clear hq hb hb2;go_wp2_with fail
    go_quiet (fail)
    go_wp2_with fail
    go_roundg (gk-1)
    case measure=>omega
    case rel =>
     refine ⟨j+1,q+1,by omega,by have:=HQ.out;omega,by go_num,?_,(L.out.drewN _).at_ (q+1) (by omega),(F.out.drewN _).setCell (p:=⟨b,1,none⟩) (.inl (by simp)) _⟩;rw[HT.out];go_num
   ·have hjn:j=n:=by omega
    subst hjn;have hb:=nmV_lt j ((t.drop i).take j) (by rw[List.length_take,List.length_drop];omega);have hb2:256 ^ j≤256 ^ 3:=Nat.pow_le_pow_right (by omega) (by omega);have HP:Hid (PO (decide (lo≤nmV ((t.drop i).take j))&&decide (nmV ((t.drop i).take j)<hi)) (pN j lo hi) (t.drop i) (nmV ((t.drop i).take j)) (t.drop q)):=by
     show PO _ _ _ _ _;unfold PO pN
     by_cases h1:lo≤nmV ((t.drop i).take j)
     ·by_cases h2:nmV ((t.drop i).take j)<hi
      ·left;rw[if_pos ⟨by rw[List.length_drop];omega,h1,h2⟩];rw[hq];simp[h1,h2,List.drop_drop]
      ·right;rw[if_neg (by omega)];simp[h2]
     ·right;rw[if_neg (by omega)];simp[h1]
    generalize nmV ((t.drop i).take j)=m at *;generalize 256 ^ j=p at *;have hm:m<16777216:=by omega
    have HQ:=hide hq;clear hq hb hb2
    by_cases h1:lo≤m
    ·have hd2:decide ((lo:Int)≤(m:Int))=true:=decide_eq_true (by omega)
     have e1:decide ((m:Int)≤(hi:Int)-1)=decide (m<hi):=by rw[Bool.eq_iff_iff,decide_eq_true_iff,decide_eq_true_iff];omega
     go_wp2;go_ret2;refine ⟨q,m,_,rfl,L.out,F.out,?_,by omega⟩;have:=HP.out;rw[decide_eq_true h1,Bool.true_and]at this
     first | exact this|(rw[e1];exact this)
    ·have hd2:decide ((lo:Int)≤(m:Int))=false:=decide_eq_false (by omega)
     go_wp2;go_ret2;refine ⟨q,m,_,rfl,L.out,F.out,?_,by omega⟩;have:=HP.out;rw[decide_eq_false h1]at this;exact this
theorem str_back(W:World)(x:List UInt8)(cap c2 g:Nat)(fr:Nat × Nat)(hg:W.heap.size=g) :
 (convert 84 9 (.slice (some ⟨g,0,none⟩) (bs x).size c2)).run Tryz.prog (W.alloc (.cells (bytesRow (bs x) cap) 5 fr)).drew.drew=.ok (.string (bs x)) (W.alloc (.cells (bytesRow (bs x) cap) 5 fr)).drew.drew:=by
 subst hg;refine run_convert_bytes_back (P:=Tryz.prog) _ 84 9 5 ⟨W.heap.size,0,none⟩ c2 x Tryz.underlying84 Tryz.underlying5 Tryz.underlying9 ?_;intro j hj;rw[add0];show (W.alloc (.cells (bytesRow (bs x) cap) 5 fr)).cell? _=_;rw[World.cell?_alloc_mark];unfold bytesRow;rw[Array.getElem?_append_left (by simp[bs];exact hj)];simp[bs,hj]
theorem takeText_any(b:Nat)(t:List UInt8)(i:Nat)(V:V6)(hi:Nat)(mo:Int)(w:World)(h:LD w b t i V)(hhi:hi≤1000)(hmo:mo=(hi:Int)-1) :
 Calls Tryz.prog 56 #[.pointer (some ⟨b,0,none⟩), .int .i64 mo] w fun e w'=>∃ (i':Nat) (x:List UInt8) (ok:Bool),e=.returned (.tuple #[.string (bs x), .bool ok])∧LD w' b t i' V∧Frm [b] w w'∧PO ok (pT hi) (t.drop i) x (t.drop i')∧x.length≤1048576:=by
 have H1:=hide h;have N1:=hide (ltakeNumber_any b t i V 1 0 hi 1 0 mo w h (by omega) (by omega) (by omega) rfl rfl hmo);have hsz:=bs_size t;have ht:=h.2.2;clear h hmo;go_enter Tryz.func56,Tryz.ntmps56
 go_wp2_with fail
 refine (N1.out).mono ?_;rintro e w1 ⟨i1,v,ok,rfl,hL1,hF1,hP1,hv⟩;have L1:=hide hL1;have F1:=hide hF1;have P1:=hide hP1;have c0:=hL1.c0;have c1:=hL1.c1;have z:=hL1.fz 1;have hi1:=hL1.2.1;clear hL1 hF1 hP1 N1 H1;cases ok with
 | false =>
   have HP:Hid (pT hi (t.drop i)=none):=by
    rcases P1.out with ⟨h,_⟩|⟨_,h⟩
    ·cases h
    ·show _=_;unfold pT;rw[h];rfl
   go_wp2_with fail
   go_quiet (fail)
   go_wp2;go_ret2;exact ⟨i1,[],false,rfl,L1.out.drewN _,F1.out.drewN _, .inr ⟨rfl,HP.out⟩,by simp⟩
 | true =>
   have HP:Hid (pT hi (t.drop i)=if v≤(t.drop i1).length then some ((t.drop i1).take v,(t.drop i1).drop v) else none):=by
    rcases P1.out with ⟨_,h⟩|⟨h,_⟩
    ·show _=_;unfold pT;rw[h];rfl
    ·cases h
   by_cases hlen:t.length-i1<v
   ·have hd1:decide ((t.length:Int)-(i1:Int)<(v:Int))=true:=decide_eq_true (by omega)
    have HP2:Hid (pT hi (t.drop i)=none):=by show _=_;rw[HP.out,if_neg];rw[List.length_drop];omega
    go_wp2_with fail
    go_quiet (fail)
    go_wp2;go_ret2;exact ⟨i1,[],false,rfl,L1.out.drewN _,F1.out.drewN _, .inr ⟨rfl,HP2.out⟩,by simp⟩
   ·have hd1:decide ((t.length:Int)-(i1:Int)<(v:Int))=false:=decide_eq_false (by omega)
    have HP2:Hid (pT hi (t.drop i)=some ((t.take (i1+v)).drop i1,t.drop (i1+v))):=by
     show _=_;rw[HP.out,if_pos (by rw[List.length_drop];omega),List.drop_drop,List.take_drop]
    have hbe:=bs_extract t i1 (i1+v);go_wp2_with fail
    go_quiet (fail)
    go_wp2_with fail
    have hq:(i1:Int)+(v:Int)≤(t.length:Int):=by omega
    have kc:=fun (w:World) (s:ByteArray)=>run_bytes_of_string (P:=Tryz.prog) w 9 84 5 s Tryz.underlying9 Tryz.underlying84 Tryz.underlying5
    go_region
    clear kc hbe;have HL:Hid (((t.take (i1+v)).drop i1).length≤1048576):=by show _≤_;rw[List.length_drop,List.length_take];omega
    generalize (t.take (i1+v)).drop i1=x at *;go_wp2_with fail
    rw[str_back _ _ _ _ _ _ (by simp)];go_wp2;go_ret2;refine ⟨i1+v,x,true,rfl,?_,?_, .inl ⟨rfl,HP2.out⟩,HL.out⟩
    ·have:=((L1.out.drewN nq).at_ (i1+v) (by omega))
     rw[show ((i1+v:Nat):Int)=(i1:Int)+(v:Int) by omega]at this;exact (this.frm (S:=[]) ((Frm.refl [] _).alloc _).drew.drew (by simp))
    ·exact (((F1.out.drewN nq).setCell (p:=⟨b,1,none⟩) (.inl (by simp)) _).alloc _).drew.drew
theorem ltakeName_any(b:Nat)(t:List UInt8)(i:Nat)(V:V6)(w:World)(h:LD w b t i V) :
 Calls Tryz.prog 77 #[.pointer (some ⟨b,0,none⟩)] w fun e w'=>∃ (i':Nat) (x:List UInt8) (ok:Bool),e=.returned (.tuple #[.string (bs x), .bool ok])∧LD w' b t i' V∧Frm [b] w w'∧PO ok pNm (t.drop i) x (t.drop i')∧x.length≤1048576:=by
 have N1:=hide (takeText_any b t i V 9 8 w h (by omega) rfl);clear h;go_enter Tryz.func77,Tryz.ntmps77
 go_wp2_with fail
 refine (N1.out).mono ?_;rintro e w1 ⟨i1,x,ok,rfl,hL1,hF1,hP1,hv⟩;have L1:=hide hL1;have F1:=hide hF1;have P1:=hide hP1;clear hL1 hF1 hP1 N1;cases ok with
 | false =>
   have HP:Hid (pNm (t.drop i)=none):=by
    rcases P1.out with ⟨h,_⟩|⟨_,h⟩
    ·cases h
    ·show _=_;unfold pNm;rw[h];rfl
   go_wp2;go_ret2;exact ⟨i1,x,false,rfl,L1.out,F1.out, .inr ⟨rfl,HP.out⟩,hv⟩
 | true =>
   have HP:Hid (pNm (t.drop i)=if isNameL x=true then some (x,t.drop i1) else none):=by
    rcases P1.out with ⟨_,h⟩|⟨h,_⟩
    ·show _=_;unfold pNm;rw[h];rfl
    ·cases h
   have IN:=hide (IsName_any x w1 hv);go_wp2_with fail
   refine (IN.out).mono ?_;rintro e w2 ⟨rfl,rfl⟩;go_wp2;go_ret2;refine ⟨i1,x,isNameL x,rfl,L1.out,F1.out,?_,hv⟩;cases hx:isNameL x with
   | true=>left;rw[HP.out,if_pos hx];exact ⟨rfl,rfl⟩
   | false=>right;rw[HP.out,if_neg (by rw[hx];simp)];exact ⟨rfl,rfl⟩
theorem takeNameList_any(b:Nat)(t:List UInt8)(i:Nat)(V:V6)(hi:Nat)(mo:Int)(w:World)(h:LD w b t i V)(hhi:hi≤1000)(hmo:mo=(hi:Int)-1) :
 Calls Tryz.prog 54 #[.pointer (some ⟨b,0,none⟩), .int .i64 mo] w fun e w'=>∃ (i':Nat) (v:Value) (x:List (List UInt8)) (ok:Bool),e=.returned (.tuple #[v, .bool ok])∧LD w' b t i' V∧Frm [b] w w'∧PO ok (pL hi) (t.drop i) x (t.drop i')∧OW 9 1 w.heap.size w' v (sc x)∧x.length≤1000:=by
 have N1:=hide (ltakeNumber_any b t i V 1 0 hi 1 0 mo w h (by omega) (by omega) (by omega) rfl rfl hmo);have hb:=h.lt;clear h hmo;go_enter Tryz.func54,Tryz.ntmps54
 go_wp2_with fail
 refine (N1.out).mono ?_;rintro e w1 ⟨i1,v,ok,rfl,hL1,hF1,hP1,hv⟩;have L1:=hide hL1;have F1:=hide hF1;have P1:=hide hP1;clear hL1 hF1 hP1 N1;have hz1:=F1.out.size;go_wp2_with fail
 go_loopg [7,8,9] v (fun k v7 v8 v9 wr=>∃ (j i':Nat) (acc:List (List UInt8)) (okb:Bool),j+k=v∧v9=.int .i64 j∧v7=.bool okb∧OW 9 1 w.heap.size wr v8 (sc acc)∧LD wr b t i' V∧Frm [b] w wr∧acc.length≤j∧(v<hi∨acc.length=0) ∧
  Hid ((okb=true∧v<hi∧pR (fun _=>pNm) (v-j) acc (t.drop i')=pL hi (t.drop i))∨(okb=false∧pL hi (t.drop i)=none)))
 case atStart =>
  refine ⟨0,i1,[],ok,by omega,rfl,rfl,OW.empty _ _ _ _ hz1,L1.out.frm (S:=[]) ((Frm.refl [] _).alloc _) (by simp),F1.out.alloc _,by simp, .inr rfl,?_⟩;rcases P1.out with ⟨h1,h2⟩|⟨h1,h2⟩
  ·exact .inl ⟨h1,(pN_some h2).2.2,by unfold pL;rw[h2];rfl⟩
  ·exact .inr ⟨h1,by unfold pL;rw[h2];rfl⟩
 case round =>
  obtain ⟨j,i2,acc,okb,hjk,rfl,rfl,hO,hL,hF,hal,hor,HR⟩:=hrel;obtain ⟨ao,co,he⟩:=hO.shape;rw[sc_len]at he;subst he;have HOR:=hide hor;clear hor;have O:=hide hO;have L:=hide hL;have F:=hide hF;have hz:=hF.size;clear hO hL hF;cases okb with
  | false =>
    have HP:Hid (pL hi (t.drop i)=none):=by
     rcases HR.out with ⟨h,_⟩|⟨_,h⟩
     ·cases h
     ·exact h
    clear HR;go_wp2;go_ret2;exact ⟨i2,_,acc,false,rfl,L.out,F.out, .inr ⟨rfl,HP.out⟩,O.out,by have:=HOR.out;omega⟩
  | true =>
    have HP:Hid (v<hi∧pR (fun _=>pNm) (v-j) acc (t.drop i2)=pL hi (t.drop i)):=by
     rcases HR.out with ⟨_,h⟩|⟨h,_⟩
     ·exact h
     ·cases h
    clear HR
    by_cases hlt:j<v
    ·have hd1:decide ((j:Int)<(v:Int))=true:=decide_eq_true (by omega)
     have N2:=hide (ltakeName_any b t i2 V wr L.out);go_wp2_with fail
     refine (N2.out).mono ?_;rintro e w2 ⟨i3,x,ok2,rfl,hL2,hF2,hP2,hx⟩;have L2:=hide hL2;have F2:=hide hF2;have O2:=hide (O.out.frm (hF2) (by intro g hg;simp at hg;omega));have HP2:Hid ((ok2=true∧v<hi∧pR (fun _=>pNm) (v-(j+1)) (acc++[x]) (t.drop i3)=pL hi (t.drop i))∨(ok2=false∧pL hi (t.drop i)=none)):=by
      have h:=HP.out;rw[show v-j=(v-(j+1))+1 by omega]at h;rcases hP2 with ⟨h1,h2⟩|⟨h1,h2⟩
      ·refine .inl ⟨h1,h.1,?_⟩
       rw[← h.2,pR_succ,h2];rfl
      ·refine .inr ⟨h1,?_⟩
       rw[← h.2,pR_succ,h2];rfl
     have hz2:=hF2.size;have hvh:=HP.out.1;clear hL2 hF2 hP2 HP N2 L O;go_wp2_with (first | (at_builtin;refine wp_appSc _ rfl _ _ rfl w.heap.size (.slice ao acc.length co) acc w2.heap.size x rfl (O2.out.frm (S:=[]) ((Frm.refl [] _).alloc _) (by simp)) rfl (by simp) (by omega) (by simp;omega) ?_;intro g2 cap2 w3 hs3 hg3 hor3 hlt3;have O3:=hide hs3;have G3:=hide hg3;clear hs3 hg3 hor3))
     go_roundg (gk-1)
     case measure=>omega
     case rel =>
      have hob:∀ r,Value.ownBlock (.slice ao acc.length co)=some r→w.heap.size≤r:=fun r hr=>(O2.out.lt hr).1
      refine ⟨j+1,i3,acc++[x],ok2,by omega,by go_num,rfl,O3.out,(L2.out.frm (S:=[]) ((Frm.refl [] _).alloc _) (by simp)).grown G3.out (fun r hr=>by have:=hob r hr;omega),((F.out.trans F2.out).alloc _).grown G3.out (fun r hr=>.inr (hob r hr)),by simp;omega,?_,HP2.out⟩
      left
      have:=HOR.out;rcases HP2.out with ⟨_,h,_⟩|⟨_,h⟩
      ·exact h
      ·omega
    ·have hjv:j=v:=by omega
     have hd1:decide ((j:Int)<(v:Int))=false:=decide_eq_false (by omega);have HP2:Hid (pL hi (t.drop i)=some (acc,t.drop i2)):=by
      have h:=HP.out.2;rw[hjv,Nat.sub_self]at h;exact h.symm
     have hvhi:=HP.out.1;clear HP;subst hjv;go_wp2;go_ret2;exact ⟨i2,_,acc,true,rfl,L.out,F.out, .inl ⟨rfl,HP2.out⟩,O.out,by omega⟩
theorem takeMark_any(b:Nat)(t:List UInt8)(i:Nat)(V:V6)(w:World)(h:LD w b t i V) :
 Calls Tryz.prog 32 #[.pointer (some ⟨b,0,none⟩)] w fun e w'=>∃ (i':Nat) (ok:Bool),e=.returned (.bool ok)∧LD w' b t i' V∧Frm [b] w w'∧((ok=true∧t.take 3=markL∧i'=3)∨(ok=false∧t.take 3≠markL)):=by
 have H:=hide h;have c0:=h.c0;have z:=h.fz 1;have c1:=h.c1;have hsz:=bs_size t;have hl:=bs_toList;have ht:=h.2.2;have hm:(ByteArray.mk #[79,66,49]).toList=markL:=by rw[ByteArray.toList_eq];rfl
 clear h
 by_cases h3:t.length<3
 ·have hd:decide ((t.length:Int)<3)=true:=decide_eq_true (by omega)
  have HN:Hid (t.take 3≠markL):=by
   show _≠_;intro e;have:=congrArg List.length e;simp[markL]at this;omega
  go_enter Tryz.func32,Tryz.ntmps32
  go_wp2;go_ret;exact ⟨i,false,rfl,H.out,Frm.refl _ _, .inr ⟨rfl,HN.out⟩⟩
 ·have hd:decide ((t.length:Int)<3)=false:=decide_eq_false (by omega)
  have hbe:(bs t).extract 0 3=bs (t.take 3):=bs_extract t 0 3;cases he:(t.take 3==markL)
  ·go_enter Tryz.func32,Tryz.ntmps32
   go_wp2;go_ret;exact ⟨i,false,rfl,H.out,Frm.refl _ _, .inr ⟨rfl,fun e=>by rw[e]at he;simp at he⟩⟩
  ·go_enter Tryz.func32,Tryz.ntmps32
   go_wp2;go_ret;exact ⟨3,true,rfl,H.out.at_ 3 (by omega),(Frm.refl _ _).setCell (p:=⟨b,1,none⟩) (.inl (by simp)) _, .inl ⟨rfl,by simpa using he,rfl⟩⟩
theorem takeNames_any(b:Nat)(t:List UInt8)(i:Nat)(V:V6)(w:World)(h:LD w b t i V) :
 Calls Tryz.prog 33 #[.pointer (some ⟨b,0,none⟩)] w fun e w'=>∃ (i':Nat) (ok:Bool) (v:Value) (x:List (List UInt8)),e=.returned (.bool ok)∧LD w' b t i' { V with n:=v }∧Frm [b] w w'∧PO ok (pL 256) (t.drop i) x (t.drop i')∧OW 9 1 w.heap.size w' v (sc x):=by
 have N1:=hide (takeNameList_any b t i V 256 255 w h (by omega) rfl);have hb:=h.lt;clear h;go_enter Tryz.func33,Tryz.ntmps33
 go_wp2_with fail
 refine (N1.out).mono ?_;rintro e w1 ⟨i1,v,x,ok,rfl,hL1,hF1,hP1,hO1,hx⟩;obtain ⟨ao,co,rfl⟩:=hO1.shape;have L1:=hide hL1;have F1:=hide hF1;have P1:=hide hP1;have O1:=hide hO1;have c:=hL1.cn;have z:=hL1.fz 2;clear hL1 hF1 hP1 hO1 N1;go_wp2;go_ret;exact ⟨i1,ok,_,x,rfl,L1.out.setN _,F1.out.setCell (p:=⟨b,2,none⟩) (.inl (by simp)) _,P1.out,O1.out.frm (S:=[b]) ((Frm.refl [b] _).setCell (p:=⟨b,2,none⟩) (.inl (by simp)) _) (by simp;omega)⟩
theorem takeConstants_any(b:Nat)(t:List UInt8)(i:Nat)(V:V6)(w:World)(h:LD w b t i V)(hV:V.c=.slice none 0 0) :
 Calls Tryz.prog 34 #[.pointer (some ⟨b,0,none⟩)] w fun e w'=>∃ (i':Nat) (ok:Bool) (v:Value) (x:List (List UInt8)),e=.returned (.bool ok)∧LD w' b t i' { V with c:=v }∧Frm [b] w w'∧PO ok pCs (t.drop i) x (t.drop i')∧OW 9 1 w.heap.size w' v (sc x):=by
 have N1:=hide (ltakeNumber_any b t i V 1 0 256 1 0 255 w h (by omega) (by omega) (by omega) rfl rfl rfl);have hb:=h.lt;have HV:=hide hV;clear h hV;go_enter Tryz.func34,Tryz.ntmps34
 go_wp2_with fail
 refine (N1.out).mono ?_;rintro e w1 ⟨i1,v,ok,rfl,hL1,hF1,hP1,hv⟩;have L1:=hide hL1;have F1:=hide hF1;have P1:=hide hP1;clear hL1 hF1 hP1 N1;have hz1:=F1.out.size;go_wp2_with fail
 go_loopg [4,5] v (fun k v4 v5 wr=>∃ (j i':Nat) (acc:List (List UInt8)) (vr:Value) (okb:Bool),j+k=v∧v5=.int .i64 j∧v4=.bool okb∧OW 9 1 w.heap.size wr vr (sc acc)∧LD wr b t i' { V with c:=vr }∧Frm [b] w wr∧acc.length≤j ∧
  Hid ((okb=true∧v<256∧pR (fun _=>pT 41) (v-j) acc (t.drop i')=pCs (t.drop i))∨(okb=false∧pCs (t.drop i)=none)))
 case atStart =>
  refine ⟨0,i1,[], .slice none 0 0,ok,by omega,rfl,rfl,OW.nil _ _ _ _,?_,F1.out,by simp,?_⟩
  ·have:=L1.out;rw[← HV.out];exact this
  rcases P1.out with ⟨h1,h2⟩|⟨h1,h2⟩
  ·exact .inl ⟨h1,(pN_some h2).2.2,by unfold pCs;rw[h2];rfl⟩
  ·exact .inr ⟨h1,by unfold pCs;rw[h2];rfl⟩
 case round =>
  obtain ⟨j,i2,acc,vr,okb,hjk,rfl,rfl,hO,hL,hF,hal,HR⟩:=hrel;obtain ⟨ao,co,he⟩:=hO.shape;rw[sc_len]at he;subst he;have O:=hide hO;have L:=hide hL;have F:=hide hF;have hz:=hF.size;clear hO hL hF;cases okb with
  | false =>
    have HP:Hid (pCs (t.drop i)=none):=by
     rcases HR.out with ⟨h,_⟩|⟨_,h⟩
     ·cases h
     ·exact h
    clear HR;go_wp2;go_ret;exact ⟨i2,false,_,acc,rfl,L.out,F.out, .inr ⟨rfl,HP.out⟩,O.out⟩
  | true =>
    have HP:Hid (v<256∧pR (fun _=>pT 41) (v-j) acc (t.drop i2)=pCs (t.drop i)):=by
     rcases HR.out with ⟨_,h⟩|⟨h,_⟩
     ·exact h
     ·cases h
    clear HR
    by_cases hlt:j<v
    ·have hd1:decide ((j:Int)<(v:Int))=true:=decide_eq_true (by omega)
     have N2:=hide (takeText_any b t i2 _ 41 40 wr L.out (by omega) rfl);go_wp2_with fail
     refine (N2.out).mono ?_;rintro e w2 ⟨i3,x,ok2,rfl,hL2,hF2,hP2,hx⟩;have L2:=hide hL2;have F2:=hide hF2;have O2:=hide (O.out.frm (hF2) (by intro g hg;simp at hg;omega));have HP2:Hid ((ok2=true∧v<256∧pR (fun _=>pT 41) (v-(j+1)) (acc++[x]) (t.drop i3)=pCs (t.drop i))∨(ok2=false∧pCs (t.drop i)=none)):=by
      have h:=HP.out;rw[show v-j=(v-(j+1))+1 by omega]at h;rcases hP2 with ⟨h1,h2⟩|⟨h1,h2⟩
      ·refine .inl ⟨h1,h.1,?_⟩
       rw[← h.2,pR_succ,h2];rfl
      ·refine .inr ⟨h1,?_⟩
       rw[← h.2,pR_succ,h2];rfl
     have hz2:=hF2.size;have hvh:=HP.out.1;have c:=hL2.cc;have z:=hL2.fz 3;have hb2:=hL2.lt;have hob:∀ r,Value.ownBlock (.slice ao acc.length co)=some r→w.heap.size≤r:=fun r hr=>(O2.out.lt hr).1
     have HOB:=hide hob;clear hL2 hF2 hP2 HP N2 L O hob;go_wp2_with (first | (at_builtin;refine wp_appSc _ rfl _ _ rfl w.heap.size (.slice ao acc.length co) acc w2.heap.size x rfl (O2.out.frm (S:=[]) ((Frm.refl [] _).alloc _) (by simp)) rfl (by simp) (by omega) (by simp;omega) ?_;intro g2 cap2 w3 hs3 hg3 hor3 hlt3;have O3:=hide hs3;have G3:=hide hg3;have L3:=hide ((L2.out.frm (S:=[]) ((Frm.refl [] _).alloc _) (by simp)).grown G3.out (fun r hr=>by have:=HOB.out r hr;omega));have c3:=L3.out.cc;have z3:=L3.out.fz 3;clear hs3 hg3 hor3))
     go_roundg (gk-1)
     case measure=>omega
     case rel =>
      refine ⟨j+1,i3,acc++[x],_,ok2,by omega,by go_num,rfl,O3.out.frm (S:=[b]) ((Frm.refl [b] _).setCell (p:=⟨b,3,none⟩) (.inl (by simp)) _) (by simp;omega),L3.out.setC _,(((F.out.trans F2.out).alloc _).grown G3.out (fun r hr=>.inr (HOB.out r hr))).setCell (p:=⟨b,3,none⟩) (.inl (by simp)) _,by simp;omega,HP2.out⟩
    ·have hjv:j=v:=by omega
     have hd1:decide ((j:Int)<(v:Int))=false:=decide_eq_false (by omega);have HP2:Hid (pCs (t.drop i)=some (acc,t.drop i2)):=by
      have h:=HP.out.2;rw[hjv,Nat.sub_self]at h;exact h.symm
     clear HP;subst hjv;go_wp2;go_ret;exact ⟨i2,true,_,acc,rfl,L.out,F.out, .inl ⟨rfl,HP2.out⟩,O.out⟩
end Go.Proofs.YtpcbbbilmpobaaaGreatDoor
