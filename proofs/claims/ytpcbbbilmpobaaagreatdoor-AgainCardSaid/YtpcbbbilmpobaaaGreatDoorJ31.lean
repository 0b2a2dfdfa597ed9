import Derived.Test.YtpcbbbilmpobaaaGreatDoorJ30
set_option linter.unusedVariables false
set_option linter.unusedSimpArgs false
set_option linter.unnecessarySimpa false
set_option maxRecDepth 100000
set_option maxHeartbeats 4000000
namespace Go.Proofs.YtpcbbbilmpobaaaGreatDoor
open Go.RowKit
theorem tk_head(c:UInt8)(l:List UInt8):tk c l=headIs c l:=by cases l<;>rfl
def digN(l:List UInt8):Nat:=match pDigit l with | some (n,_)=>n|none=>0
def digR(l:List UInt8):List UInt8:=match pDigit l with | some (_,r)=>r|none=>l
theorem u8_le(a b:UInt8):(a≤b)=(a.toNat≤b.toNat):=by rw[UInt8.le_iff_toNat_le]
theorem ret_ib{a b:Int}{c d:Bool}(h:a=b)(h2:c=d):Ending.returned (.tuple #[.int .i64 a, .bool c])=.returned (.tuple #[.int .i64 b, .bool d]):=by rw[h,h2]
theorem takeDigit_any(b:Nat)(t l:List UInt8)(vs:Value)(w:World)(h:PA w b t l vs) :
 Calls Tryz.prog 170 #[.pointer (some ⟨b,0,none⟩)] w fun e w'=>e=.returned (.tuple #[.int .i64 (digN l), .bool (pDigit l).isSome])∧PA w' b t (digR l) vs∧Frm [b] w w':=by
 obtain ⟨i,h1,h2⟩:=h;have c0:=h1.c0;have c1:=h1.c1;have z:=h1.fz 1;have hi:=h1.2.1;have ht:=h1.2.2;have hsz:=bs_size t;have H1:=hide h1;have H2:=hide h2;clear h1 h2
 by_cases hlt:i<t.length
 ·have hd1:decide ((t.length:Int)≤(i:Int))=false:=decide_eq_false (by omega)
  have hd2:decide (t.length≤i)=false:=decide_eq_false (by omega);obtain ⟨_,hl⟩:=(drop_cons H2.out).1 hlt;have hbg:(bs t)[i]'(by rw[hsz];omega)=t[i]:=rfl;generalize hti:t[i]=x at *;have hx8:=x.toNat_lt
  by_cases hx:48≤x.toNat∧x.toNat≤57
  ·have Hk:Hid (digN l=x.toNat-48∧(pDigit l).isSome=true∧digR l=t.drop (i+1)):=by
    show _∧_;have hxx:(48≤x&&x≤57)=true:=by simp[u8_le];exact hx
    unfold digN digR;rw[hl];simp only[pDigit,hxx,if_true];simp
   clear hl hti;have hlo:decide ((x.toNat:Int)<48)=false:=decide_eq_false (by omega);have hhi:decide ((57:Int)<(x.toNat:Int))=false:=decide_eq_false (by omega);have hlo2:decide (x.toNat<48)=false:=decide_eq_false (by omega);have hhi2:decide (57<x.toNat)=false:=decide_eq_false (by omega);go_enter Tryz.func170,Tryz.ntmps170
   go_wp2_with fail
   go_quiet (fail)
   go_wp2_with fail
   go_quiet (fail)
   go_wp2;go_ret2;rw[Hk.out.1,Hk.out.2.1,Hk.out.2.2];refine ⟨?_,⟨i+1,(H1.out.drewN _).at_ (i+1) hlt,rfl⟩,((Frm.refl [b] w).drewN _).setCell (p:=⟨b,1,none⟩) (.inl (by simp)) _⟩;exact ret_ib (by omega) rfl
  ·have Hk:Hid (digN l=0∧(pDigit l).isSome=false∧digR l=l):=by
    show _∧_;have hxx:(48≤x&&x≤57)=false:=by
     rw[Bool.eq_false_iff];intro e;simp[u8_le]at e;exact hx e
    unfold digN digR;rw[hl];simp only[pDigit,hxx];simp
   clear hl hti
   by_cases hlo':x.toNat<48
   ·have hlo:decide ((x.toNat:Int)<48)=true:=decide_eq_true (by omega)
    have hlo2:decide (x.toNat<48)=true:=decide_eq_true (by omega);go_enter Tryz.func170,Tryz.ntmps170
    go_wp2_with fail
    go_quiet (fail)
    go_wp2;go_ret2;rw[Hk.out.1,Hk.out.2.1,Hk.out.2.2];exact ⟨rfl,⟨i,H1.out.drewN _,H2.out⟩,(Frm.refl _ _).drewN _⟩
   ·have hlo:decide ((x.toNat:Int)<48)=false:=decide_eq_false (by omega)
    have hlo2:decide (x.toNat<48)=false:=decide_eq_false (by omega);have hhi:decide ((57:Int)<(x.toNat:Int))=true:=decide_eq_true (by omega);have hhi2:decide (57<x.toNat)=true:=decide_eq_true (by omega);go_enter Tryz.func170,Tryz.ntmps170
    go_wp2_with fail
    go_quiet (fail)
    go_wp2;go_ret2;rw[Hk.out.1,Hk.out.2.1,Hk.out.2.2];exact ⟨rfl,⟨i,H1.out.drewN _,H2.out⟩,(Frm.refl _ _).drewN _⟩
 ·have hd1:decide ((t.length:Int)≤(i:Int))=true:=decide_eq_true (by omega)
  have hd2:decide (t.length≤i)=true:=decide_eq_true (by omega);have hl:=(drop_cons H2.out).2 hlt;have Hk:Hid (digN l=0∧(pDigit l).isSome=false∧digR l=l):=by
   show _∧_;rw[hl];exact ⟨rfl,rfl,rfl⟩
  clear hl;go_enter Tryz.func170,Tryz.ntmps170
  go_wp2_with fail
  go_quiet (fail)
  go_wp2;go_ret2;rw[Hk.out.1,Hk.out.2.1,Hk.out.2.2];exact ⟨rfl,⟨i,H1.out.drewN _,H2.out⟩,(Frm.refl _ _).drewN _⟩
theorem eqb(x:UInt8)(n:Nat)(hn:n<256):((x.toNat:Int)==(n:Int))=(x==UInt8.ofNat n):=by
 have h:(UInt8.ofNat n).toNat=n:=by rw[UInt8.toNat_ofNat'];exact Nat.mod_eq_of_lt hn
 rw[Bool.eq_iff_iff,beq_iff_eq,beq_iff_eq]
 constructor
 ·intro e
  apply UInt8.toNat_inj.1;rw[h];omega
 ·intro e;rw[e,h]
theorem atRepetition_any(b:Nat)(t l:List UInt8)(vs:Value)(w:World)(h:PA w b t l vs) :
 Calls Tryz.prog 149 #[.pointer (some ⟨b,0,none⟩)] w fun e w'=>e=.returned (.bool (atRepB l))∧∃ n,w'=w.drewN n:=by
 obtain ⟨i,h1,h2⟩:=h;have c0:=h1.c0;have c1:=h1.c1;have hi:=h1.2.1;have ht:=h1.2.2;have hsz:=bs_size t
 by_cases hlt:i<t.length
 ·have hd1:decide ((t.length:Int)≤(i:Int))=false:=decide_eq_false (by omega)
  obtain ⟨_,hl⟩:=(drop_cons h2).1 hlt;have hbg:(bs t)[i]'(by rw[hsz];omega)=t[i]:=rfl;generalize hti:t[i]=x at *;have Hk:Hid (atRepB l=isRepB x):=by show _=_;rw[hl];rfl
  have e1:=eqb x 42 (by omega);have e2:=eqb x 43 (by omega);have e3:=eqb x 63 (by omega);have e4:=eqb x 123 (by omega);have Hr:Hid (isRepB x=(x==42||x==43||x==63||x==123)):=rfl;clear hl hti h1 h2;cases k1:(x==42)
  ·have f1:((x.toNat:Int)==42)=false:=e1.trans k1
   cases k2:(x==43)
   ·have f2:((x.toNat:Int)==43)=false:=e2.trans k2
    cases k3:(x==63)
    ·have f3:((x.toNat:Int)==63)=false:=e3.trans k3
     have f4:((x.toNat:Int)==123)=(x==123):=e4;clear e1 e2 e3 e4;go_enter Tryz.func149,Tryz.ntmps149
     go_wp2_with fail
     go_quiet (fail)
     go_wp2_with fail
     go_quiet (fail)
     go_wp2;go_ret;rw[Hk.out,Hr.out,k1,k2,k3];exact ⟨ret_bool (by simp[f4]),_,rfl⟩
    ·have f3:((x.toNat:Int)==63)=true:=e3.trans k3
     clear e1 e2 e3 e4;go_enter Tryz.func149,Tryz.ntmps149
     go_wp2_with fail
     go_quiet (fail)
     go_wp2_with fail
     go_quiet (fail)
     go_wp2;go_ret;rw[Hk.out,Hr.out,k1,k2,k3];exact ⟨ret_bool (by simp),_,rfl⟩
   ·have f2:((x.toNat:Int)==43)=true:=e2.trans k2
    clear e1 e2 e3 e4;go_enter Tryz.func149,Tryz.ntmps149
    go_wp2_with fail
    go_quiet (fail)
    go_wp2_with fail
    go_quiet (fail)
    go_wp2;go_ret;rw[Hk.out,Hr.out,k1,k2];exact ⟨ret_bool (by simp),_,rfl⟩
  ·have f1:((x.toNat:Int)==42)=true:=e1.trans k1
   clear e1 e2 e3 e4;go_enter Tryz.func149,Tryz.ntmps149
   go_wp2_with fail
   go_quiet (fail)
   go_wp2_with fail
   go_quiet (fail)
   go_wp2;go_ret;rw[Hk.out,Hr.out,k1];exact ⟨ret_bool (by simp),_,rfl⟩
 ·have hd1:decide ((t.length:Int)≤(i:Int))=true:=decide_eq_true (by omega)
  have hl:=(drop_cons h2).2 hlt;have Hk:Hid (atRepB l=false):=by show _=_;rw[hl];rfl
  clear hl h1 h2;go_enter Tryz.func149,Tryz.ntmps149
  go_wp2_with fail
  go_quiet (fail)
  go_wp2;go_ret;rw[Hk.out];exact ⟨rfl,_,rfl⟩
def hiZ:Option Nat→Int
 | none=>-1
 | some n=>n
def CP(p:Option ((Nat × Option Nat) × List UInt8))(a m:Int)(ok:Bool)(l':List UInt8):Prop :=
 match p with
 | some ((lo,hi),r)=>a=lo∧m=hiZ hi∧ok=true∧l'=r
 | none=>ok=false
theorem counts_none{l:List UInt8}(h:(pDigit l).isSome=false):pCounts l=none:=by
 unfold pCounts;cases hd:pDigit l with
 | none=>rfl
 | some x=>rw[hd]at h;simp at h
theorem dig_some{l:List UInt8}(h:(pDigit l).isSome=true):pDigit l=some (digN l,digR l)∧digN l≤9:=by
 cases hd:pDigit l with
 | none=>rw[hd]at h;simp at h
 | some x =>
   obtain ⟨n,r⟩:=x;have:=pDigit_len hd;unfold digN digR;rw[hd];exact ⟨rfl,this.2⟩
theorem dig_none{l:List UInt8}(h:(pDigit l).isSome=false):pDigit l=none∧digR l=l:=by
 cases hd:pDigit l with
 | none=>unfold digR;rw[hd];exact ⟨rfl,rfl⟩
 | some x=>rw[hd]at h;simp at h
theorem takeCounts_any(b:Nat)(t l:List UInt8)(vs:Value)(w:World)(h:PA w b t l vs) :
 Calls Tryz.prog 165 #[.pointer (some ⟨b,0,none⟩)] w fun e w'=>∃ a m ok l',e=.returned (.tuple #[.int .i64 a, .int .i64 m, .bool ok])∧PA w' b t l' vs∧Frm [b] w w'∧CP (pCounts l) a m ok l':=by
 have H:=hide h;clear h;cases h1:(pDigit l).isSome
 ·have Hc:=hide (counts_none h1)
  go_enter Tryz.func165,Tryz.ntmps165
  go_wp2_with fail
  refine (takeDigit_any b t l vs w H.out).mono ?_;rintro e w1 ⟨rfl,hp1,hf1⟩;have P1:=hide hp1;have F1:=hide hf1;clear hp1 hf1;rw[h1];go_wp2;go_ret3
  refine ⟨_,_,_,_,rfl,P1.out,F1.out,?_⟩;rw[Hc.out];rfl
 ·obtain ⟨hd1,hn1⟩:=dig_some h1
  have Hd1:=hide hd1;clear hd1;have Hc:Hid (pCounts l=if headIs 44 (digR l) then
   match pDigit (digR l).tail with
   | some (n,r2)=>if headIs 125 r2&&decide (digN l≤n) then some ((digN l,some n),r2.tail) else none
   | none=>if headIs 125 (digR l).tail then some ((digN l,none),(digR l).tail.tail) else none
  else if headIs 125 (digR l) then some ((digN l,some (digN l)),(digR l).tail) else none):=by
   show _=_;conv=>lhs;unfold pCounts
   rw[Hd1.out]
   all_goals rfl
  go_enter Tryz.func165,Tryz.ntmps165
  go_wp2_with fail
  refine (takeDigit_any b t l vs w H.out).mono ?_;rintro e w1 ⟨rfl,hp1,hf1⟩;have P1:=hide hp1;have F1:=hide hf1;clear hp1 hf1;rw[h1];generalize digN l=lo at *;generalize digR l=r at *;go_wp2_with fail
  refine (xtake_any b t r vs 44 w1 P1.out).mono ?_;rintro e w2 ⟨rfl,hp2,hf2⟩;have P2:=hide hp2;have F2:=hide (F1.out.trans hf2);clear hp2 hf2;cases hk:tk 44 r
  ·have Hk2:Hid (rs 44 r=r):=by show _=_;unfold rs;rw[hk];rfl
   rw[tk_head]at hk;have Hc2:Hid (pCounts l=if headIs 125 r then some ((lo,some lo),r.tail) else none):=by
    show _=_;rw[Hc.out,hk];rfl
   go_wp2_with fail
   refine (xtake_any b t (rs 44 r) vs 125 w2 P2.out).mono ?_;rintro e w3 ⟨rfl,hp3,hf3⟩;have P3:=hide hp3;have F3:=hide (F2.out.trans hf3);clear hp3 hf3;rw[Hk2.out]at P3 ⊢;cases hk3:tk 125 r
   ·go_wp2
    go_ret3
    refine ⟨_,_,_,_,rfl,P3.out,F3.out,?_⟩;rw[tk_head]at hk3;rw[Hc2.out,hk3];rfl
   ·have hrs:rs 125 r=r.tail:=by unfold rs;rw[hk3];rfl
    have hne:((lo:Int) == -1)=false:=beq_eq_false_iff_ne.2 (by omega);go_wp2;go_ret3
    refine ⟨_,_,_,_,rfl,P3.out,F3.out,?_⟩;rw[tk_head]at hk3;rw[Hc2.out,hk3,hrs];exact ⟨rfl,rfl,rfl,rfl⟩
  ·have Hk2:Hid (rs 44 r=r.tail):=by show _=_;unfold rs;rw[hk];rfl
   rw[tk_head]at hk;have Hc2:Hid (pCounts l=match pDigit r.tail with
    | some (n,r2)=>if headIs 125 r2&&decide (lo≤n) then some ((lo,some n),r2.tail) else none
    | none=>if headIs 125 r.tail then some ((lo,none),r.tail.tail) else none):=by
    show _=_;rw[Hc.out,hk];rfl
   rw[Hk2.out]at P2;go_wp2_with fail
   refine (takeDigit_any b t r.tail vs w2 P2.out).mono ?_;rintro e w3 ⟨rfl,hp3,hf3⟩;have P3:=hide hp3;have F3:=hide (F2.out.trans hf3);clear hp3 hf3;cases h4:(pDigit r.tail).isSome
   ·obtain ⟨hd4,hr4⟩:=dig_none h4
    have Hc3:Hid (pCounts l=if headIs 125 r.tail then some ((lo,none),r.tail.tail) else none):=by
     show _=_;rw[Hc2.out,hd4]
    rw[hr4]at P3;clear hd4 hr4;go_wp2_with fail
    refine (xtake_any b t r.tail vs 125 w3 P3.out).mono ?_;rintro e w4 ⟨rfl,hp4,hf4⟩;have P4:=hide hp4;have F4:=hide (F3.out.trans hf4);clear hp4 hf4;cases hk5:tk 125 r.tail
    ·go_wp2
     go_ret3
     refine ⟨_,_,_,_,rfl,P4.out,F4.out,?_⟩;rw[tk_head]at hk5;rw[Hc3.out,hk5];rfl
    ·have hrs:rs 125 r.tail=r.tail.tail:=by unfold rs;rw[hk5];rfl
     go_wp2;go_ret3
     refine ⟨_,_,_,_,rfl,P4.out,F4.out,?_⟩;rw[tk_head]at hk5;rw[Hc3.out,hk5,hrs];exact ⟨rfl,rfl,rfl,rfl⟩
   ·obtain ⟨hd4,hn4⟩:=dig_some h4
    have Hc3:Hid (pCounts l=if headIs 125 (digR r.tail)&&decide (lo≤digN r.tail) then some ((lo,some (digN r.tail)),(digR r.tail).tail) else none):=by
     show _=_;rw[Hc2.out,hd4]
    clear hd4;generalize digN r.tail=hi at *;generalize digR r.tail=q at *;go_wp2_with fail
    refine (xtake_any b t q vs 125 w3 P3.out).mono ?_;rintro e w4 ⟨rfl,hp4,hf4⟩;have P4:=hide hp4;have F4:=hide (F3.out.trans hf4);clear hp4 hf4;have hne:((hi:Int) == -1)=false:=beq_eq_false_iff_ne.2 (by omega);cases hk5:tk 125 q
    ·go_wp2
     go_ret3
     refine ⟨_,_,_,_,rfl,P4.out,F4.out,?_⟩;rw[tk_head]at hk5;rw[Hc3.out,hk5];rfl
    ·have hrs:rs 125 q=q.tail:=by unfold rs;rw[hk5];rfl
     by_cases hle:lo≤hi
     ·have hdl:decide ((lo:Int)≤(hi:Int))=true:=decide_eq_true (by omega)
      go_wp2;go_ret3
      refine ⟨_,_,_,_,rfl,P4.out,F4.out,?_⟩;rw[tk_head]at hk5;rw[Hc3.out,hk5,hrs,decide_eq_true hle];exact ⟨rfl,rfl,by first | rfl|simp[hle],rfl⟩
     ·have hdl:decide ((lo:Int)≤(hi:Int))=false:=decide_eq_false (by omega)
      go_wp2;go_ret3
      refine ⟨_,_,_,_,rfl,P4.out,F4.out,?_⟩;rw[tk_head]at hk5;rw[Hc3.out,hk5,decide_eq_false hle];show _=false
      first | rfl|simp[hle]
theorem rs_true{c:UInt8}{l:List UInt8}(h:tk c l=true):rs c l=l.tail:=by unfold rs;rw[h];rfl
theorem rs_false{c:UInt8}{l:List UInt8}(h:tk c l=false):rs c l=l:=by unfold rs;rw[h];rfl
theorem tk_cons{c:UInt8}{l:List UInt8}(h:tk c l=true):l=c::l.tail:=by
 cases l with
 | nil=>simp[tk]at h
 | cons x r=>simp[tk]at h;simp[h]
theorem pRep_tk(l:List UInt8):pRep l=if tk 42 l then some ((0,none),l.tail) else if tk 43 l then some ((1,none),l.tail) else if tk 63 l then some ((0,some 1),l.tail) else if tk 123 l then pCounts l.tail else none:=by
 cases l<;>rfl
theorem takeRepetition_any(b:Nat)(t l:List UInt8)(vs:Value)(w:World)(h:PA w b t l vs) :
 Calls Tryz.prog 150 #[.pointer (some ⟨b,0,none⟩)] w fun e w'=>∃ a m ok l',e=.returned (.tuple #[.int .i64 a, .int .i64 m, .bool ok])∧PA w' b t l' vs∧Frm [b] w w'∧CP (pRep l) a m ok l':=by
 have H:=hide h;have Hp:=hide (pRep_tk l);clear h;go_enter Tryz.func150,Tryz.ntmps150
 go_wp2_with fail
 refine (xtake_any b t l vs 42 w H.out).mono ?_;rintro e w1 ⟨rfl,hp1,hf1⟩;have F1:=hide hf1;clear hf1;cases k1:tk 42 l
 case true =>
  rw[rs_true k1]at hp1;have P1:=hide hp1;clear hp1;go_wp2;go_ret3
  refine ⟨_,_,_,_,rfl,P1.out,F1.out,?_⟩;rw[Hp.out,k1];exact ⟨rfl,rfl,rfl,rfl⟩
 rw[rs_false k1]at hp1;have P1:=hide hp1;clear hp1;go_wp2_with fail
 refine (xtake_any b t l vs 43 w1 P1.out).mono ?_;rintro e w2 ⟨rfl,hp2,hf2⟩;have F2:=hide (F1.out.trans hf2);clear hf2;cases k2:tk 43 l
 case true =>
  rw[rs_true k2]at hp2;have P2:=hide hp2;clear hp2;go_wp2;go_ret3
  refine ⟨_,_,_,_,rfl,P2.out,F2.out,?_⟩;rw[Hp.out,k1,k2];exact ⟨rfl,rfl,rfl,rfl⟩
 rw[rs_false k2]at hp2;have P2:=hide hp2;clear hp2;go_wp2_with fail
 refine (xtake_any b t l vs 63 w2 P2.out).mono ?_;rintro e w3 ⟨rfl,hp3,hf3⟩;have F3:=hide (F2.out.trans hf3);clear hf3;cases k3:tk 63 l
 case true =>
  rw[rs_true k3]at hp3;have P3:=hide hp3;clear hp3;go_wp2;go_ret3
  refine ⟨_,_,_,_,rfl,P3.out,F3.out,?_⟩;rw[Hp.out,k1,k2,k3];exact ⟨rfl,rfl,rfl,rfl⟩
 rw[rs_false k3]at hp3;have P3:=hide hp3;clear hp3;go_wp2_with fail
 refine (xtake_any b t l vs 123 w3 P3.out).mono ?_;rintro e w4 ⟨rfl,hp4,hf4⟩;have F4:=hide (F3.out.trans hf4);clear hf4;cases k4:tk 123 l
 case false =>
  have P4:=hide hp4;clear hp4;go_wp2;go_ret3
  refine ⟨_,_,_,_,rfl,P4.out,F4.out,?_⟩;rw[Hp.out,k1,k2,k3,k4];rfl
 rw[rs_true k4]at hp4;have P4:=hide hp4;have Hc:Hid (pRep l=pCounts l.tail):=by show _=_;rw[Hp.out,k1,k2,k3,k4];rfl
 clear hp4;go_wp2_with fail
 refine (takeCounts_any b t l.tail vs w4 P4.out).mono ?_;rintro e w5 ⟨a,m,ok,l',rfl,hp5,hf5,hc5⟩;have P5:=hide hp5;have F5:=hide (F4.out.trans hf5);have C5:=hide hc5;clear hp5 hf5 hc5;go_wp2;go_ret3
 refine ⟨_,_,_,_,rfl,P5.out,F5.out,?_⟩;rw[Hc.out];exact C5.out
def BP(p:Option (UInt8 × List UInt8))(v:UInt8)(ok:Bool)(l':List UInt8):Prop :=
 match p with
 | some (c,r)=>v=c∧ok=true∧l'=r
 | none=>ok=false
def hdB(l:List UInt8):UInt8:=l.head?.getD 0
theorem hd_hdB(l:List UInt8):hd l=((hdB l).toNat:Int):=rfl
theorem takeItemByte_any(b:Nat)(t l:List UInt8)(vs:Value)(w:World)(h:PA w b t l vs) :
 Calls Tryz.prog 171 #[.pointer (some ⟨b,0,none⟩)] w fun e w'=>∃ (v:UInt8) (ok:Bool) (l':List UInt8),e=.returned (.tuple #[.int .u8 v.toNat, .bool ok])∧PA w' b t l' vs∧Frm [b] w w'∧BP (pItemB l) v ok l':=by
 have H:=hide h;clear h;go_enter Tryz.func171,Tryz.ntmps171
 go_wp2_with fail
 refine (xtake_any b t l vs 92 w H.out).mono ?_;rintro e w1 ⟨rfl,hp1,hf1⟩;have F1:=hide hf1;clear hf1;cases k1:tk 92 l
 case true =>
  rw[rs_true k1]at hp1;have P1:=hide hp1;clear hp1;have Hb:Hid (pItemB l=match l.tail with | []=>none|d::r2=>some (d,r2)):=by
   show _=_;rw[tk_cons k1];rfl
  go_wp2_with fail
  refine (takeAny_any b t l.tail vs w1 P1.out).mono ?_;rintro e w2 ⟨rfl,hp2,hf2⟩;have P2:=hide hp2;have F2:=hide (F1.out.trans hf2);clear hp2 hf2;rw[hd_hdB];go_wp2;go_ret2;refine ⟨hdB l.tail,_,_,rfl,P2.out,F2.out,?_⟩;rw[Hb.out];cases l.tail with
  | nil=>rfl
  | cons d r2=>exact ⟨rfl,rfl,rfl⟩
 rw[rs_false k1]at hp1;have P1:=hide hp1;clear hp1;go_wp2_with fail
 refine (takeAny_any b t l vs w1 P1.out).mono ?_;rintro e w2 ⟨rfl,hp2,hf2⟩;have P2:=hide hp2;have F2:=hide (F1.out.trans hf2);clear hp2 hf2;rw[hd_hdB];have e1:=eqb (hdB l) 93 (by omega);have e2:=eqb (hdB l) 91 (by omega);have e3:=eqb (hdB l) 45 (by omega);have Hb:Hid (pItemB l=if l.isEmpty then none else if hdB l==93||hdB l==91||hdB l==45 then none else some (hdB l,l.tail)):=by
  show _=_;cases l with
  | nil=>rfl
  | cons x r =>
    have:(x==92)=false:=k1;simp only[pItemB,this];rfl
 generalize hdB l=x at *;cases k2:l.isEmpty
 ·rw[k2]at Hb
  cases k3:(x==93)
  ·have f1:((x.toNat:Int) != 93)=true:=by rw[bne_iff_ne];intro e;rw[show (x==93)=true from e1.symm.trans (beq_iff_eq.2 e)]at k3;cases k3
   cases k4:(x==91)
   ·have f2:((x.toNat:Int) != 91)=true:=by rw[bne_iff_ne];intro e;rw[show (x==91)=true from e2.symm.trans (beq_iff_eq.2 e)]at k4;cases k4
    cases k5:(x==45)
    ·have f3:((x.toNat:Int) != 45)=true:=by rw[bne_iff_ne];intro e;rw[show (x==45)=true from e3.symm.trans (beq_iff_eq.2 e)]at k5;cases k5
     rw[k3,k4,k5]at Hb;clear e1 e2 e3;go_wp2;go_ret2;refine ⟨x,_,_,rfl,P2.out,F2.out,?_⟩;rw[Hb.out];exact ⟨rfl,rfl,rfl⟩
    ·have f3:((x.toNat:Int) != 45)=false:=by rw[bne_eq_false_iff_eq];exact beq_iff_eq.1 (e3.trans k5)
     rw[k3,k4,k5]at Hb;clear e1 e2 e3;go_wp2;go_ret2;refine ⟨x,_,_,rfl,P2.out,F2.out,?_⟩;rw[Hb.out];rfl
   ·have f2:((x.toNat:Int) != 91)=false:=by rw[bne_eq_false_iff_eq];exact beq_iff_eq.1 (e2.trans k4)
    rw[k3,k4]at Hb;clear e1 e2 e3;go_wp2;go_ret2;refine ⟨x,_,_,rfl,P2.out,F2.out,?_⟩;rw[Hb.out];rfl
  ·have f1:((x.toNat:Int) != 93)=false:=by rw[bne_eq_false_iff_eq];exact beq_iff_eq.1 (e1.trans k3)
   rw[k3]at Hb;clear e1 e2 e3;go_wp2;go_ret2;refine ⟨x,_,_,rfl,P2.out,F2.out,?_⟩;rw[Hb.out];rfl
 ·rw[k2]at Hb
  clear e1 e2 e3;go_wp2;go_ret2;refine ⟨x,_,_,rfl,P2.out,F2.out,?_⟩;rw[Hb.out];rfl
def IP(p:Option ((UInt8 × UInt8) × List UInt8))(a c:UInt8)(ok:Bool)(l':List UInt8):Prop :=
 match p with
 | some ((x,y),r)=>a=x∧c=y∧ok=true∧l'=r
 | none=>ok=false
theorem takeItem_any(b:Nat)(t l:List UInt8)(vs:Value)(w:World)(h:PA w b t l vs) :
 Calls Tryz.prog 169 #[.pointer (some ⟨b,0,none⟩)] w fun e w'=>∃ (a c:UInt8) (ok:Bool) (l':List UInt8),e=.returned (.tuple #[.int .u8 a.toNat, .int .u8 c.toNat, .bool ok])∧PA w' b t l' vs∧Frm [b] w w'∧IP (pItem l) a c ok l':=by
 have H:=hide h;have Hi:Hid (pItem l=match pItemB l with
  | none=>none
  | some (a,r)=>if headIs 45 r then (match pItemB r.tail with | none=>none|some (b,r2)=>if a≤b then some ((a,b),r2) else none) else some ((a,a),r)):=rfl
 clear h;go_enter Tryz.func169,Tryz.ntmps169
 go_wp2_with fail
 refine (takeItemByte_any b t l vs w H.out).mono ?_;rintro e w1 ⟨x,ok1,l1,rfl,hp1,hf1,hb1⟩;have P1:=hide hp1;have F1:=hide hf1;clear hp1 hf1;cases hc1:pItemB l with
 | none =>
   rw[hc1]at hb1 Hi;obtain rfl:ok1=false:=hb1;go_wp2;go_ret3
   refine ⟨0,0,_,_,rfl,P1.out,F1.out,?_⟩;rw[Hi.out];rfl
 | some cr =>
   obtain ⟨c,r⟩:=cr;rw[hc1]at hb1 Hi;obtain ⟨rfl,rfl,rfl⟩:x=c∧ok1=true∧l1=r:=hb1;go_wp2_with fail
   refine (xtake_any b t l1 vs 45 w1 P1.out).mono ?_;rintro e w2 ⟨rfl,hp2,hf2⟩;have F2:=hide (F1.out.trans hf2);clear hf2;cases k2:tk 45 l1
   ·rw[rs_false k2]at hp2
    have P2:=hide hp2;rw[tk_head]at k2;clear hp2;have hle:decide ((x.toNat:Int)≤(x.toNat:Int))=true:=decide_eq_true (Int.le_refl _);go_wp2;go_ret3
    refine ⟨x,x,_,_,rfl,P2.out,F2.out,?_⟩;rw[Hi.out];simp only[k2];exact ⟨rfl,rfl,by first | rfl|simp,rfl⟩
   ·rw[rs_true k2]at hp2
    have P2:=hide hp2;rw[tk_head]at k2;clear hp2;go_wp2_with fail
    refine (takeItemByte_any b t l1.tail vs w2 P2.out).mono ?_;rintro e w3 ⟨y,ok3,l3,rfl,hp3,hf3,hb3⟩;have P3:=hide hp3;have F3:=hide (F2.out.trans hf3);clear hp3 hf3;cases hc3:pItemB l1.tail with
    | none =>
      rw[hc3]at hb3;obtain rfl:ok3=false:=hb3;go_wp2;go_ret3
      refine ⟨x,y,_,_,rfl,P3.out,F3.out,?_⟩;rw[Hi.out];simp only[k2,hc3]
      rfl
    | some cr =>
      obtain ⟨d,r3⟩:=cr;rw[hc3]at hb3;obtain ⟨rfl,rfl,rfl⟩:y=d∧ok3=true∧l3=r3:=hb3
      by_cases hxy:x.toNat≤y.toNat
      ·have hle:decide ((x.toNat:Int)≤(y.toNat:Int))=true:=decide_eq_true (by omega)
       go_wp2;go_ret3
       refine ⟨x,y,_,_,rfl,P3.out,F3.out,?_⟩;rw[Hi.out];simp only[k2,hc3,if_true];rw[if_pos (by rw[u8_le];exact hxy)];exact ⟨rfl,rfl,by first | rfl|simp[hxy],rfl⟩
      ·have hle:decide ((x.toNat:Int)≤(y.toNat:Int))=false:=decide_eq_false (by omega)
       go_wp2;go_ret3
       refine ⟨x,y,_,_,rfl,P3.out,F3.out,?_⟩;rw[Hi.out];simp only[k2,hc3,if_true];rw[if_neg (by rw[u8_le];exact hxy)];show _=false
       first | rfl|simp[hxy]
def bcells(s:Nat):List Value:=[.int .u64 (wd s 0), .int .u64 (wd s 1), .int .u64 (wd s 2), .int .u64 (wd s 3)]
def BL(base:Nat)(w:World)(v:Value)(S:List Nat):Prop:=w.ownsRow base 195 4 v S.length (S.flatMap bcells)
theorem BL.nil(base:Nat)(w:World):BL base w (.slice none 0 0) []:=World.ownsRow_nil w base _ 4
theorem infoBS:(Tryz.prog.info? 195).map (fun i=>(i.zero,i.size,i.bytes))=some (some (.agg #[.int .u64 0, .int .u64 0, .int .u64 0, .int .u64 0]),4,32):=by kernel_rfl
structure FP(base b:Nat)(w w':World):Prop where
 os:w'.os=w.os
 tape:w'.tape=w.tape
 output:w'.output=w.output
 size:w.heap.size≤w'.heap.size
 block:∀ k,k<w.heap.size→k≠b→(k<base∨∀ cur fz,w.heap[k]?≠some (.cells cur 195 fz))→w'.heap[k]?=w.heap[k]?
theorem FP.refl(base b:Nat)(w:World):FP base b w w:=⟨rfl,rfl,rfl,Nat.le_refl _,fun _ _ _ _=>rfl⟩
theorem FP.trans{base b:Nat}{x y z:World}(h:FP base b x y)(k:FP base b y z):FP base b x z :=
 ⟨k.os.trans h.os,k.tape.trans h.tape,k.output.trans h.output,Nat.le_trans h.size k.size,fun i hi hb hc=>by
   have e:=h.block i hi hb hc;refine (k.block i (Nat.lt_of_lt_of_le hi h.size) hb ?_).trans e;rcases hc with hc|hc
   ·exact .inl hc
   ·exact .inr (fun cur fz=>by rw[e];exact hc cur fz)⟩
theorem FP.of_frm{base b:Nat}{w w':World}(h:Frm [b] w w'):FP base b w w':=⟨h.os,h.tape,h.output,h.size,fun k hk hb _=>h.block k hk (by simpa using hb)⟩
theorem FP.frm{base b:Nat}{x w w':World}(h:FP base b x w)(f:Frm [b] w w'):FP base b x w':=h.trans (.of_frm f)
theorem FP.alloc{base b:Nat}{x w:World}(h:FP base b x w)(o:Obj):FP base b x (w.alloc o):=h.frm ((Frm.refl _ _).alloc _)
theorem FP.drew{base b:Nat}{x w:World}(h:FP base b x w):FP base b x w.drew:=⟨h.os,h.tape,h.output,h.size,h.block⟩
theorem FP.drewN{base b:Nat}{x w:World}(n:Nat)(h:FP base b x w):FP base b x (w.drewN n):=⟨h.os,h.tape,h.output,h.size,h.block⟩
theorem FP.grown{base b:Nat}{w w':World}{v:Value}{n:Nat}{xs:List Value}(ho:w.ownsRow base 195 4 v n xs)(hg:w.grownBy w' v.ownBlock):FP base b w w':=by
 refine ⟨hg.os,hg.tape,hg.output,hg.size,fun k hk hb hc=>hg.block k hk ?_⟩;intro e;have h1:=ho.lt k e.symm;obtain ⟨cur,fz,h2⟩:=own_block ho k e.symm;rcases hc with hc|hc
 ·omega
 ·exact hc cur fz h2
def XB(w:World)(eb:Nat)(s:Nat):Prop:=w.heap[eb]?=some (.cells #[.int .i64 0, .int .u64 (wd s 0), .int .u64 (wd s 1), .int .u64 (wd s 2), .int .u64 (wd s 3), .slice none 0 0, .pointer none, .int .i64 0, .int .i64 0] 198 (0,0))
theorem setOf_any(base b:Nat)(t l:List UInt8)(vs:Value)(S:List Nat)(s:Nat)(w:World)(h:PA w b t l vs)(hs:BL base w vs S)(hb:b<base)(hz:base≤w.heap.size)(hS:S.length≤1048576) :
 Calls Tryz.prog 162 #[.pointer (some ⟨b,0,none⟩),bv s] w fun e w'=>∃ (eb:Nat) (vs':Value),e=.returned (.pointer (some ⟨eb,0,none⟩))∧w.heap.size≤eb∧XB w' eb s∧PA w' b t l vs'∧BL base w' vs' (S++[s])∧FP base b w w':=by
 unfold bv;obtain ⟨i,h1,h2⟩:=h;have c2:=h1.c2;have f2:=h1.fz 2;have hlt:=h1.lt;obtain ⟨a,cap,rfl⟩:=own_shape hs;obtain ⟨i0,hi,hza,hzb,hzc⟩:=info_parts infoBS;have H1:=hide h1;have H2:=hide h2;have HS:=hide hs;have HX:Hid (∀ (w:World) (eb:Nat),eb=w.heap.size→XB (w.alloc (.cells #[.int .i64 0, .int .u64 (wd s 0), .int .u64 (wd s 1), .int .u64 (wd s 2), .int .u64 (wd s 3), .slice none 0 0, .pointer none, .int .i64 0, .int .i64 0] 198)) eb s):=by
  intro w eb e;subst e;exact heap1 w _
 have HB:Hid (S.flatMap bcells++[.int .u64 (wd s 0), .int .u64 (wd s 1), .int .u64 (wd s 2), .int .u64 (wd s 3)]=(S++[s]).flatMap bcells):=by
  show _=_;simp[bcells]
 have ab:Value.ownBlock (.slice a S.length cap)≠some b:=fun e=>by have:=HS.out.lt _ e;omega
 have an:Value.ownBlock (.slice a S.length cap)≠some w.heap.size:=fun e=>by have:=HS.out.lt _ e;omega
 generalize wd s 0=s0 at *;generalize wd s 1=s1 at *;generalize wd s 2=s2 at *;generalize wd s 3=s3 at *;have g2:∀ o o':Obj,((w.alloc o).alloc o').drew.frozen? ⟨b,2,none⟩=false:=fun o o'=>(((((Frm.refl [] w).alloc o).alloc o').drew).frozen hlt (by simp)).trans f2
 clear h1 h2 hs;go_enter Tryz.func162,Tryz.ntmps162
 go_wp2_with fail
 go_region_law ((refine step_append_lies _ (by rfl) _ _ _ (by rfl) base 195 i0 _ 4 32 Tryz.underlying181 hi hza hzb hzc rfl (by omega) (.slice a S.length cap) S.length (S.flatMap bcells) (by rfl) (by exact (HS.out.alloc _).alloc _) ⟨w.heap.size+1,0,none⟩ 1 1 [.int .u64 s0, .int .u64 s1, .int .u64 s2, .int .u64 s3] (by rfl) (by rfl) (World.news_of_block (cs:=#[.int .u64 s0, .int .u64 s1, .int .u64 s2, .int .u64 s3]) (t:=195) (fr:=(0,0)) (by exact heap_new2 _ _ _)) (by simp[Value.oneCell']) (by omega) (by unfold maxLen;omega) (by omega) (by simp;omega) (w.heap.size+2) (by simp) ?_;intro gg cap2 w4 hown4 hgrow hat hlt4;have c4:=(hgrow.cell_far ⟨b,2,none⟩ (by simp;omega) (Ne.symm ab));have f4:=(hgrow.frozen_far ⟨b,2,none⟩ (by simp;omega) (Ne.symm ab));have f5:=f4.trans (g2 _ _)))
 all_goals
  have F4:=Frm.of_grow hgrow;have B4:SB w4 w.heap.size s0 s1 s2 s3:=((SB.new (w:=w) (b:=w.heap.size) rfl).frm (S:=[]) (((Frm.refl _ _).alloc _).drew) (by simp)).frm F4 (by simpa[Option.mem_toList] using fun e=>an e);have P4:PS w4 b t i (.slice a S.length cap):=(H1.out.frm (S:=[]) ((((Frm.refl _ _).alloc _).alloc _).drew) (by simp)).frm F4 (by simpa[Option.mem_toList] using fun e=>ab e);have G4:=hide (FP.trans (base:=base) (b:=b) (((FP.refl base b w).alloc _).alloc _).drew (FP.grown ((HS.out.alloc _).alloc _) hgrow));have HO4:=hide hown4;have z4:=F4.size;simp at z4;have P5:=hide (P4.sets (.slice (some ⟨gg,0,none⟩) (S.length+1) cap2));have B5:=B4.far (b':=b) (o:=2) (.slice (some ⟨gg,0,none⟩) (S.length+1) cap2) (by omega);obtain ⟨q0,q1,q2,q3⟩:=B5.cells;clear hgrow hown4 F4 B4 B5 P4 c4 f4;go_wp2;go_ret;refine ⟨_,_,rfl,?_,HX.out _ _ (by simp),⟨i,P5.out.frm (S:=[]) ((Frm.refl _ _).alloc _) (by simp),H2.out⟩,?_,(G4.out.frm ((Frm.refl _ _).setCell (.inl (by simp)) _)).alloc _⟩
  ·omega
  ·have o4:=HO4.out
   rw[HB.out]at o4;have:=ownsRow_setCell_below o4 (a:=⟨b,2,none⟩) hb (.slice (some ⟨gg,0,none⟩) (S.length+1) cap2);have h2:=this.alloc (.cells #[.int .i64 0, .int .u64 s0, .int .u64 s1, .int .u64 s2, .int .u64 s3, .slice none 0 0, .pointer none, .int .i64 0, .int .i64 0] 198);unfold BL;rw[List.length_append];exact h2
theorem addK_eq(s f:Nat):∀ k,addK s f k=addBits s f k
 | 0=>rfl
 | k+1=>by simp only[addK,addBits,addK_eq s f k]
theorem BL.frm{S:List Nat}{base:Nat}{w w':World}{v:Value}{L:List Nat}(h:BL base w v L)(f:Frm S w w')(hS:∀ k,k∈S→k<base):BL base w' v L:=own_frm h f hS
theorem Frm.fresh{S:List Nat}{n:Nat}{x y z:World}(h:Frm S x y)(k:Frm [n] y z)(hn:x.heap.size≤n):Frm S x z :=
 ⟨k.os.trans h.os,k.tape.trans h.tape,k.output.trans h.output,Nat.le_trans h.size k.size,
  fun i hi hS=>(k.block i (Nat.lt_of_lt_of_le hi h.size) (by simp;omega)).trans (h.block i hi hS)⟩
theorem own_frmN{S:List Nat}{w w':World}{base:Nat}{e:TypeId}{size:Nat}{v:Value}{n:Nat}{xs:List Value}(h:w.ownsRow base e size v n xs)(f:Frm S w w')
 (hS:∀ k,k∈S→v.ownBlock≠some k):w'.ownsRow base e size v n xs:=by
 refine ⟨h.1,?_⟩;rcases h.2 with hn|⟨g,cap,cur,rfl,hb,hgg,rest⟩
 ·exact .inl hn
 ·refine .inr ⟨g,cap,cur,rfl,hb,?_,rest⟩
  rw[f.block g (Array.getElem?_eq_some_iff.1 hgg).1 (fun hm=>hS g hm (by simp[Value.ownBlock]))];exact hgg
def SP(base b:Nat)(t:List UInt8)(S:List Nat)(w:World)(p:Option (Nat × List UInt8))(e:Ending)(w':World):Prop :=
 match p with
 | some (s,r)=>∃ (eb:Nat) (vs':Value),e=.returned (.pointer (some ⟨eb,0,none⟩))∧w.heap.size≤eb∧XB w' eb s∧PA w' b t r vs'∧BL base w' vs' (S++[s])∧FP base b w w'
 | none=>e=.returned (.pointer none)∧(∃ l' vs',PA w' b t l' vs')∧FP base b w w'
theorem PA.len{w:World}{b:Nat}{t l:List UInt8}{vs:Value}(h:PA w b t l vs):l.length≤t.length∧t.length≤1048576:=by
 obtain ⟨i,h1,h2⟩:=h;exact ⟨by rw[← h2];simp,h1.2.2⟩
theorem takeClass_any(base b:Nat)(t l:List UInt8)(vs:Value)(S:List Nat)(w:World)(h:PA w b t l vs)(hs:BL base w vs S)(hb:b<base)(hz:base≤w.heap.size)(hS:S.length≤1000000) :
 Calls Tryz.prog 161 #[.pointer (some ⟨b,0,none⟩)] w fun e w'=>SP base b t S w (pClass l) e w':=by
 have H:=hide h;have HS:=hide hs;have hbl:b<w.heap.size:=by omega
 clear h hs;go_enter Tryz.func161,Tryz.ntmps161
 go_wp2_with fail
 refine (xtake_any b t l vs 94 w H.out).mono ?_;rintro e w1 ⟨rfl,hp1,hf1⟩;have P1:=hide hp1;have F1:=hide hf1;have z1:=hf1.size;clear hp1 hf1
 -- the text of the items,and what is made of them
 obtain ⟨l1,hl1⟩:∃ l1,l1=rs 94 l:=⟨_,rfl⟩;have Hcl:Hid (pClass l=match pItems (l.length+1) 0 l1 with | none=>none|some (s,r)=>some (if tk 94 l then s ^^^ fullSet else s,r)):=by
  show _=_;unfold pClass;rw[← tk_head,hl1];cases hk:tk 94 l
  ·rw[rs_false hk]
   simp only[Bool.false_eq_true,if_false];cases pItems (l.length+1) 0 l with
   | none=>rfl
   | some x=>obtain ⟨s,r⟩:=x;rfl
  ·rw[rs_true hk];rfl
 have hll:l1.length≤l.length:=by rw[hl1];unfold rs;split<;>simp
 rw[← hl1]at P1;clear hl1;generalize tk 94 l=ot at *;go_wp2_with fail
 go_loopg [5] (l.length+2) (fun k ve wr=>∃ (s':Nat) (l':List UInt8) (en:Bool),ve=.bool en∧SB wr w1.heap.size (wd s' 0) (wd s' 1) (wd s' 2) (wd s' 3)∧PA wr b t l' vs∧Frm [b] w wr∧s'<2 ^ 256∧w1.heap.size<wr.heap.size ∧
  (if en then pItems (l.length+1) 0 l1=some (s',l') else (∃ kk,k=kk+1∧l'.length+1≤kk∧pItems kk s' l'=pItems (l.length+1) 0 l1)))
 case atStart =>
  refine ⟨0,l1,false,rfl,?_,P1.out.frm (S:=[]) ((Frm.refl _ _).alloc _) (by simp),F1.out.alloc _,by decide,by simp,?_⟩
  ·have:wd 0 0=0∧wd 0 1=0∧wd 0 2=0∧wd 0 3=0:=by decide
   rw[this.1,this.2.1,this.2.2.1,this.2.2.2];exact SB.new rfl
  ·simp only[Bool.false_eq_true,if_false]
   exact ⟨_,rfl,by omega,rfl⟩
 case round =>
  obtain ⟨s',l',en,rfl,hsb,hpa,hfr,hs',hsz,hen⟩:=hrel;have F2:=hide hfr;clear hfr;cases en
  case false =>
   simp only[Bool.false_eq_true,if_false]at hen;obtain ⟨kk,hk1,hk2,hk3⟩:=hen;obtain ⟨k2,rfl⟩:∃ k2,kk=k2+1:=⟨kk-1,by omega⟩;have Hst:Hid (pItems (l.length+1) 0 l1=match pItem l' with | none=>none|some ((a,b),r)=>if headIs 93 r then some (addRange s' a b,r.tail) else pItems k2 (addRange s' a b) r):=by
    show _=_;rw[← hk3];rfl
   have HSB:=hide hsb;have HPA:=hide hpa;clear hk3 hsb hpa;go_wp2_with fail
   refine (takeItem_any b t l' vs wr HPA.out).mono ?_;rintro e w3 ⟨a,c,ok,l3,rfl,hp3,hf3,hi3⟩;have P3:=hide hp3;have F3:=hide (F2.out.trans hf3);have B3:=hide (HSB.out.frm hf3 (by simp;omega));have z3:=hf3.size;clear hp3 hf3 HSB;cases hit:pItem l' with
   | none =>
     rw[hit]at hi3 Hst;obtain rfl:ok=false:=hi3;have Hc2:Hid (pClass l=none):=by show _=_;rw[Hcl.out,Hst.out]
     go_wp2;go_ret;rw[Hc2.out];exact ⟨rfl,⟨_,_,P3.out⟩, .of_frm F3.out⟩
   | some x =>
     obtain ⟨⟨x,y⟩,r⟩:=x;have hlen:=pItem_len hit;rw[hit]at hi3 Hst;obtain ⟨rfl,rfl,rfl,rfl⟩:a=x∧c=y∧ok=true∧l3=r:=hi3;have ha8:=a.toNat_lt;have hc8:=c.toNat_lt;have Hadd:Hid (addK s' a.toNat (c.toNat+1-a.toNat)=addRange s' a c):=by show _=_;rw[addK_eq];rfl
     have hlt2:=addRange_lt hs' a c;go_wp2_with fail
     refine (add_any w1.heap.size s' a.toNat c.toNat w3 (by omega) (by omega) B3.out).mono ?_;rintro e w4 ⟨rfl,hb4,hf4⟩;rw[Hadd.out]at hb4;have B4:=hide hb4;have P4:=hide (P3.out.frm hf4 (by simp;omega));have F4:=hide (F3.out.fresh hf4 z1);have z4:=hf4.size;clear hb4 hf4;generalize addRange s' a c=s4 at *;go_wp2_with fail
     refine (xtake_any b t l3 vs 93 w4 P4.out).mono ?_;rintro e w5 ⟨rfl,hp5,hf5⟩;have B5:=hide (B4.out.frm hf5 (by simp;omega));have F5:=hide (F4.out.trans hf5);have z5:=hf5.size;clear hf5;have hlr:(rs 93 l3).length≤l3.length:=by unfold rs;split<;>simp
     cases k5:tk 93 l3
     ·have hst:pItems (l.length+1) 0 l1=pItems k2 s4 l3:=by
       rw[Hst.out];simp only[← tk_head,k5];rfl
      rw[rs_false k5]at hp5;have P5:=hide hp5;have Hs5:=hide hst;clear hp5 hst;go_wp2;go_roundg (gk-1)
      case measure=>omega
      case rel =>
       refine ⟨s4,l3,false,rfl,B5.out,P5.out,F5.out,hlt2,by omega,?_⟩;simp only[Bool.false_eq_true,if_false];exact ⟨k2,by omega,by omega,Hs5.out.symm⟩
     ·have hst:pItems (l.length+1) 0 l1=some (s4,l3.tail):=by
       rw[Hst.out];simp only[← tk_head,k5];rfl
      rw[rs_true k5]at hp5;have P5:=hide hp5;have Hs5:=hide hst;clear hp5 hst;go_wp2;go_roundg (gk-1)
      case measure=>omega
      case rel =>
       refine ⟨s4,l3.tail,true,rfl,B5.out,P5.out,F5.out,hlt2,by omega,?_⟩;simp only[if_true];exact Hs5.out
  case true =>
   simp only[if_true]at hen;have Hc2:Hid (pClass l=some (if ot then s' ^^^ fullSet else s',l')):=by show _=_;rw[Hcl.out,hen]
   have hS2:S.length≤1048576:=by omega
   have HS2:=hide (HS.out.frm F2.out (by simp;omega));have hz2:base≤wr.heap.size:=by omega
   have HPA:=hide hpa;have HSB:=hide hsb;clear hen hpa;obtain ⟨q0,q1,q2,q3⟩:=hsb.cells;have qf:=hsb.fz;clear hsb;cases ot
   ·go_wp2_with fail
    refine (setOf_any base b t l' vs S s' wr HPA.out HS2.out hb hz2 hS2).mono ?_;rintro e w6 ⟨eb,vs',rfl,he6,hx6,hp6,hl6,hf6⟩;have X6:=hide hx6;have P6:=hide hp6;have L6:=hide hl6;have G6:=hide ((FP.of_frm (base:=base) F2.out).trans hf6);clear hx6 hp6 hl6 hf6;go_wp2;go_ret;rw[Hc2.out];exact ⟨eb,vs',rfl,by omega,X6.out,P6.out,L6.out,G6.out⟩
   ·have HQ:Hid (∀ (w:World),Calls Tryz.prog 163 #[.agg #[.int .u64 (wd s' 0), .int .u64 (wd s' 1), .int .u64 (wd s' 2), .int .u64 (wd s' 3)]] w fun e w'=>e=.returned (.agg #[.int .u64 (wd (s' ^^^ fullSet) 0), .int .u64 (wd (s' ^^^ fullSet) 1), .int .u64 (wd (s' ^^^ fullSet) 2), .int .u64 (wd (s' ^^^ fullSet) 3)])∧Frm [] w w'):=fun w=>others_any s' w
    go_wp2_with fail
    refine (HQ.out wr).mono ?_;rintro e w5 ⟨rfl,hf5⟩;have B5:=hide (HSB.out.frm hf5 (by simp));have P5:=hide (HPA.out.frm hf5 (by simp));have S5:=hide (HS2.out.frm hf5 (by simp));have F5:=hide (F2.out.trans (hf5.mono (by simp)));have z5:=hf5.size;obtain ⟨q0,q1,q2,q3⟩:=B5.out.cells;have qf:=B5.out.fz;clear hf5;have T6:Hid (∀ v0 v1 v2 v3:Value,Frm [w1.heap.size] w5 ((((w5.setCell ⟨w1.heap.size,0,none⟩ v0).setCell ⟨w1.heap.size,1,none⟩ v1).setCell ⟨w1.heap.size,2,none⟩ v2).setCell ⟨w1.heap.size,3,none⟩ v3)):=fun v0 v1 v2 v3=>((((Frm.refl [w1.heap.size] w5).setCell (p:=⟨w1.heap.size,0,none⟩) (.inl (by simp)) v0).setCell (p:=⟨w1.heap.size,1,none⟩) (.inl (by simp)) v1).setCell (p:=⟨w1.heap.size,2,none⟩) (.inl (by simp)) v2).setCell (p:=⟨w1.heap.size,3,none⟩) (.inl (by simp)) v3
    have U6:=hide (fun v0 v1 v2 v3=>setOf_any base b t l' vs S (s' ^^^ fullSet) _ (P5.out.frm (T6.out v0 v1 v2 v3) (by simp;omega)) (own_frmN S5.out (T6.out v0 v1 v2 v3) (by intro k hk e;simp at hk;subst hk;have:=HS.out.lt _ e;omega)) hb (by simp;omega) hS2);generalize s' ^^^ fullSet=s6 at *;go_wp2_with fail
    refine (U6.out _ _ _ _).mono ?_;rintro e w6 ⟨eb,vs',rfl,he6,hx6,hp6,hl6,hf6⟩;have X6:=hide hx6;have P6:=hide hp6;have L6:=hide hl6;have G6:=hide ((FP.of_frm (base:=base) (F5.out.fresh (T6.out _ _ _ _) z1)).trans hf6);simp at he6;clear hx6 hp6 hl6 hf6;go_wp2;go_ret;rw[Hc2.out];exact ⟨eb,vs',rfl,by omega,X6.out,P6.out,L6.out,G6.out⟩
end Go.Proofs.YtpcbbbilmpobaaaGreatDoor
