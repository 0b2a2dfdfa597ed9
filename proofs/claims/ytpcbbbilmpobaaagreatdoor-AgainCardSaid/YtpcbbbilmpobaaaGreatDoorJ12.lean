import Derived.Test.YtpcbbbilmpobaaaGreatDoorJ11
set_option linter.unusedVariables false
set_option linter.unusedSimpArgs false
set_option linter.unnecessarySimpa false
set_option maxRecDepth 100000
set_option maxHeartbeats 1000000
namespace Go.Proofs.YtpcbbbilmpobaaaGreatDoor
open Go.RowKit
def plainB(c:Int):Bool:=decide (32≤c)&&decide (c≤126)
theorem isPlain_any(c:Int)(w:World) :
 Calls Tryz.prog 95 #[.int .u8 c] w fun e w'=>e=.returned (.bool (plainB c))∧w=w':=by
 go_enter Tryz.func95,Tryz.ntmps95
 go_wp2
 all_goals go_ret
 all_goals exact ⟨ret_bool (by simp[plainB, *]<;>omega),rfl⟩
theorem peek_any(b:Nat)(t l:List UInt8)(w:World)(h:At w b t l) :
 Calls Tryz.prog 98 #[.pointer (some ⟨b,0,none⟩)] w fun e w'=>e=.returned (.int .u8 (hd l))∧∃ n,w'=w.drewN n:=by
 obtain ⟨i,h1,h2⟩:=h;have c0:=h1.c0;have c1:=h1.c1;have hi:=h1.2.1;have ht:=h1.2.2;have hsz:=bs_size t
 by_cases hlt:i<t.length
 ·have hg:Hid (hd l=(t[i].toNat:Int)):=by rw[← h2];exact hd_drop t i hlt
  have hbg:=bs_get t i (by rw[hsz];exact hlt);clear h2 h1;go_enter Tryz.func98,Tryz.ntmps98
  go_wp2;go_quiet (fail)
  go_wp2;go_quiet (fail)
  go_wp2;go_ret;exact ⟨ret_int hg.out.symm,_,drewN_two _ _ _⟩
 ·have hg:Hid (hd l=0):=by rw[← h2,List.drop_eq_nil_of_le (by omega)];rfl
  clear h2 h1;go_enter Tryz.func98,Tryz.ntmps98
  go_wp2;go_quiet (fail)
  go_wp2;go_ret;exact ⟨ret_int hg.out.symm,_,rfl⟩
theorem atEnd_any(b:Nat)(t l:List UInt8)(w:World)(h:At w b t l) :
 Calls Tryz.prog 88 #[.pointer (some ⟨b,0,none⟩)] w fun e w'=>e=.returned (.bool l.isEmpty)∧∃ n,w'=w.drewN n:=by
 obtain ⟨i,h1,h2⟩:=h;have c0:=h1.c0;have c1:=h1.c1;have hi:=h1.2.1;have ht:=h1.2.2;have hsz:=bs_size t;have hg:Hid (l.isEmpty=decide (t.length≤i)):=by
  show l.isEmpty=decide (t.length≤i);rw[← h2,Bool.eq_iff_iff];simp
 clear h2 h1;go_enter Tryz.func88,Tryz.ntmps88
 go_wp2;go_quiet (fail)
 go_wp2;go_ret;exact ⟨ret_bool hg.out.symm,_,rfl⟩
def sTake(wd l:List UInt8):Bool:=wd.isPrefixOf l
def sRest(wd l:List UInt8):List UInt8:=if wd.isPrefixOf l then l.drop wd.length else l
theorem cut_prefix(t wd:List UInt8)(i:Nat)(h:i+wd.length≤t.length):(List.drop i (List.take (i+wd.length) t)==wd)=wd.isPrefixOf (t.drop i):=by
 rw[Bool.eq_iff_iff,List.isPrefixOf_iff_prefix,beq_iff_eq,List.prefix_iff_eq_take,List.drop_take,Nat.add_sub_cancel_left];exact eq_comm
theorem take_any(b:Nat)(t l wd:List UInt8)(w:World)(h:At w b t l)(hw:wd.length≤1048576) :
 Calls Tryz.prog 86 #[.pointer (some ⟨b,0,none⟩), .string (bs wd)] w fun e w'=>e=.returned (.bool (sTake wd l))∧At w' b t (sRest wd l)∧Frm [b] w w':=by
 obtain ⟨i,h1,h2⟩:=h;have c0:=h1.c0;have c1:=h1.c1;have hf:=h1.fz 1;have hi:=h1.2.1;have ht:=h1.2.2;have hsz:=bs_size t;have hsw:=bs_size wd;have hx:=bs_extract t;have hl:=bs_toList;have H1:Hid (SC w b t i):=h1;have H2:Hid (List.drop i t=l):=h2;clear h1 h2
 by_cases hlt:i+wd.length≤t.length
 ·have hd1:decide ((t.length:Int)<(i:Int)+(wd.length:Int))=false:=by simp;omega
  have hd2:decide (t.length<i+wd.length)=false:=by simp;omega
  cases hp:wd.isPrefixOf l
  ·have he:(List.drop i (List.take (i+wd.length) t)==wd)=false:=by rw[cut_prefix t wd i hlt,H2.out,hp]
   have Hp:Hid (wd.isPrefixOf l=false):=hp;clear hp;go_enter Tryz.func86,Tryz.ntmps86
   go_wp2;go_quiet (fail)
   go_wp2;go_ret;exact ⟨ret_bool (by simp[sTake,Hp.out]),⟨i,H1.out.drewN _,by simp[sRest,Hp.out,H2.out]⟩,(Frm.refl _ _).drewN _⟩
  ·have he:(List.drop i (List.take (i+wd.length) t)==wd)=true:=by rw[cut_prefix t wd i hlt,H2.out,hp]
   have Hp:Hid (wd.isPrefixOf l=true):=hp;clear hp;go_enter Tryz.func86,Tryz.ntmps86
   go_wp2;go_quiet (fail)
   go_wp2;go_ret;refine ⟨ret_bool (by simp[sTake,Hp.out]),⟨i+wd.length,?_,by unfold sRest;rw[if_pos Hp.out,← H2.out,List.drop_drop]⟩,?_⟩
   ·exact (H1.out.drewN _).set _ hlt
   ·exact ((Frm.refl _ _).drewN _).setCell (by simp) _
 ·have hd1:decide ((t.length:Int)<(i:Int)+(wd.length:Int))=true:=by simp;omega
  have hd2:decide (t.length<i+wd.length)=true:=by simp;omega
  have Hp:Hid (wd.isPrefixOf l=false):=by
   show wd.isPrefixOf l=false;rw[Bool.eq_false_iff];intro h;have:=(List.isPrefixOf_iff_prefix.1 h).length_le;rw[← H2.out,List.length_drop]at this;omega
  go_enter Tryz.func86,Tryz.ntmps86
  go_wp2;go_quiet (fail)
  go_wp2;go_ret;exact ⟨ret_bool (by simp[sTake,Hp.out]),⟨i,H1.out.drewN _,by simp[sRest,Hp.out,H2.out]⟩,(Frm.refl _ _).drewN _⟩
open Go.RowKit
theorem tw_split{p:UInt8→Bool}:∀ (a r:List UInt8),a.all p=true→(∀ c r',r=c::r'→p c=false)→(a++r).takeWhile p=a∧(a++r).dropWhile p=r
 | [],r,_,h=>by
   cases r with
   | nil=>simp
   | cons c r'=>simp[h c r' rfl]
 | x::a,r,ha,h=>by
   simp only[List.all_cons,Bool.and_eq_true]at ha;have:=tw_split a r ha.2 h;simp[ha.1,this.1,this.2]
theorem mid_split(t:List UInt8)(i j:Nat)(h:i≤j)(hj:j≤t.length):t.drop i=(t.take j).drop i++t.drop j:=by
 conv=>lhs;rw[← List.take_append_drop j t]
 rw[List.drop_append_of_le_length (by simp;omega)]
theorem SC.at{w:World}{b:Nat}{t:List UInt8}{i:Nat}(h:SC w b t i):At w b t (t.drop i):=⟨i,h,rfl⟩
theorem takeName_any(b:Nat)(t l:List UInt8)(w:World)(h:At w b t l) :
 Calls Tryz.prog 87 #[.pointer (some ⟨b,0,none⟩)] w fun e w'=>e=.returned (.tuple #[.string (bs (l.takeWhile nmB)), .bool (isNameL (l.takeWhile nmB))])∧At w' b t (l.dropWhile nmB)∧Frm [b] w w':=by
 obtain ⟨i,h1,h2⟩:=h;have c1:=h1.c1;have hi:=h1.2.1;have ht:=h1.2.2;have H1:Hid (SC w b t i):=h1;have H2:Hid (List.drop i t=l):=h2;clear h1 h2;go_enter Tryz.func87,Tryz.ntmps87
 go_wp2;go_loopg [] (t.length-i) (fun k wr=>∃ j,j+k=t.length∧i≤j∧SC wr b t j∧((t.take j).drop i).all nmB=true∧Frm [b] w wr)
 case atStart=>exact ⟨i,by omega,by omega,H1.out,by rw[List.drop_eq_nil_of_le (by simp;omega)];rfl,Frm.refl _ _⟩
 case round =>
  obtain ⟨j,hj,hij,hs,hal,hfr⟩:=hrel;clear c1;have c0:=hs.c0;have c1:=hs.c1;have hf:=hs.fz 1;have Hs:Hid (SC wr b t j):=hs;have Hfr:Hid (Frm [b] w wr):=hfr;have Hal:Hid (((t.take j).drop i).all nmB=true):=hal;clear hs hal hfr;cases hn:nameB (hd (t.drop j))
  ·have hsp:l.takeWhile nmB=(t.take j).drop i∧l.dropWhile nmB=t.drop j:=by
    rw[← H2.out,mid_split t i j hij (by omega)];refine tw_split _ _ Hal.out ?_;intro c r' e;rw[e]at hn;exact hn
   have Hsp:Hid (l.takeWhile nmB=(t.take j).drop i∧l.dropWhile nmB=t.drop j):=hsp;clear hsp;have hx:=bs_extract t;have hsz:=bs_size t;go_wp2_with (first | (go_at_call 98;refine (peek_any _ _ _ _ Hs.out.at).mono ?_;rintro e w' ⟨rfl,n,rfl⟩)|(go_at_call 83;refine (isNameByte_any _ _).mono ?_;rintro e w' ⟨rfl,rfl⟩))
   go_quiet (fail)
   go_wp2_with (go_at_call 65;refine (IsName_any _ _ (by simp;omega)).mono ?_;rintro e w' ⟨rfl,rfl⟩)
   go_ret2;rw[Hsp.out.1,Hsp.out.2];exact ⟨rfl,(Hs.out.drewN _).at,Hfr.out.drewN _⟩
  ·have hjl:j<t.length:=by
    by_cases hx:j<t.length
    ·exact hx
    ·rw[List.drop_eq_nil_of_le (by omega)]at hn;cases hn
   go_wp2_with (first | (go_at_call 98;refine (peek_any _ _ _ _ Hs.out.at).mono ?_;rintro e w' ⟨rfl,n,rfl⟩)|(go_at_call 83;refine (isNameByte_any _ _).mono ?_;rintro e w' ⟨rfl,rfl⟩))
   go_roundg (gk-1)
   case measure=>omega
   case rel =>
    refine ⟨j+1,by omega,by omega,?_,?_,?_⟩
    ·exact (Hs.out.drewN _).set (j+1) (by omega)
    ·rw[List.take_succ_eq_append_getElem hjl,List.drop_append_of_le_length (by simp;omega),List.all_append,Hal.out]
     rw[hd_drop t j hjl]at hn;simp[nmB,hn]
    ·exact (Hfr.out.drewN _).setCell (by simp) _
def sHexD(l:List UInt8):UInt8 × Bool × List UInt8 :=
 match l with
 | []=>(0,false,[])
 | c::r=>if dgB c then (c-48,true,r) else if 97≤c∧c≤102 then (c-97+10,true,r) else (0,false,c::r)
theorem u8i(c:UInt8):(0:Int)≤c.toNat∧(c.toNat:Int)≤255:=by have:=c.toNat_lt;omega
theorem ret2i{k:IntKind}{x y:Int}{p q:Bool}(h:x=y)(h':p=q):Ending.returned (.tuple #[.int k x, .bool p])=.returned (.tuple #[.int k y, .bool q]):=by rw[h,h']
theorem at_set{w:World}{b i:Nat}{t l:List UInt8}{c:UInt8}{r:List UInt8}(h1:SC w b t i)(h2:t.drop i=c::r):At (w.setCell ⟨b,1,none⟩ (.int .i64 (i+1))) b t r:=by
 have hil:i<t.length:=by
  by_cases hx:i<t.length
  ·exact hx
  ·rw[List.drop_eq_nil_of_le (by omega)]at h2;cases h2
 refine ⟨i+1,h1.set (i+1) hil,?_⟩;have:=congrArg List.tail h2;rw[List.tail_drop]at this;exact this
theorem at_len{t:List UInt8}{i:Nat}{c:UInt8}{r:List UInt8}(h2:t.drop i=c::r):i<t.length:=by
 by_cases hx:i<t.length
 ·exact hx
 ·rw[List.drop_eq_nil_of_le (by omega)]at h2;cases h2
theorem takeHexDigit_any(b:Nat)(t l:List UInt8)(w:World)(h:At w b t l) :
 Calls Tryz.prog 147 #[.pointer (some ⟨b,0,none⟩)] w fun e w'=>e=.returned (.tuple #[.int .u8 ((sHexD l).1.toNat), .bool (sHexD l).2.1])∧At w' b t (sHexD l).2.2∧Frm [b] w w':=by
 obtain ⟨i,h1,h2⟩:=h;have c1:=h1.c1;have hf:=h1.fz 1;have hi:=h1.2.1;have ht:=h1.2.2;have H1:Hid (SC w b t i):=h1;have H2:Hid (List.drop i t=l):=h2;clear h1 h2;cases l with
 | nil =>
   have hn:digB (hd [])=false:=rfl;have h0:hd []=0:=rfl;go_enter Tryz.func147,Tryz.ntmps147
   go_wp2_with (first | (go_at_call 98;refine (peek_any _ _ _ _ ⟨i,H1.out,H2.out⟩).mono ?_;rintro e w' ⟨rfl,n,rfl⟩)|(go_at_call 82;refine (isDigit_any _ _).mono ?_;rintro e w' ⟨rfl,rfl⟩))
   go_ret2;exact ⟨rfl,⟨i,H1.out.drewN _,H2.out⟩,(Frm.refl _ _).drewN _⟩
 | cons c r =>
   have hc:=hd_cons c r;have hu:=u8i c;have hil:i<t.length:=at_len H2.out;cases hd:digB (c.toNat:Int)
   ·by_cases hx:97≤(c.toNat:Int)∧(c.toNat:Int)≤102
    ·obtain ⟨hx1,hx2⟩:=hx
     have hs:Hid (sHexD (c::r)=(c-97+10,true,r)):=by
      show sHexD (c::r)=(c-97+10,true,r);unfold sHexD;simp only[dgB,hd];rw[if_neg (by simp),if_pos (by constructor<;>(rw[UInt8.le_iff_toNat_le];simp;omega))]
     go_enter Tryz.func147,Tryz.ntmps147
     go_wp2_with (first | (go_at_call 98;refine (peek_any _ _ _ _ ⟨i,H1.out,H2.out⟩).mono ?_;rintro e w' ⟨rfl,n,rfl⟩)|(go_at_call 82;refine (isDigit_any _ _).mono ?_;rintro e w' ⟨rfl,rfl⟩))
     go_ret2;rw[hs.out];refine ⟨ret2i ?_ rfl,at_set (l:=r) (H1.out.drewN _) H2.out,((Frm.refl _ _).drewN _).setCell (by simp) _⟩;have:(c-97).toNat=c.toNat-97:=UInt8.toNat_sub_of_le _ _ (by rw[UInt8.le_iff_toNat_le];simp;omega);rw[UInt8.toNat_add,this];simp;omega
    ·have hs:Hid (sHexD (c::r)=(0,false,c::r)):=by
      show sHexD (c::r)=(0,false,c::r);unfold sHexD;simp only[dgB,hd];rw[if_neg (by simp),if_neg];rintro ⟨h1,h2⟩;rw[UInt8.le_iff_toNat_le]at h1 h2;simp at h1 h2;omega
     go_enter Tryz.func147,Tryz.ntmps147
     go_wp2_with (first | (go_at_call 98;refine (peek_any _ _ _ _ ⟨i,H1.out,H2.out⟩).mono ?_;rintro e w' ⟨rfl,n,rfl⟩)|(go_at_call 82;refine (isDigit_any _ _).mono ?_;rintro e w' ⟨rfl,rfl⟩))
     all_goals first | (exfalso;omega)|skip
     all_goals
      go_ret2;rw[hs.out];exact ⟨rfl,⟨i,H1.out.drewN _,H2.out⟩,(Frm.refl _ _).drewN _⟩
   ·have hb:48≤(c.toNat:Int)∧(c.toNat:Int)≤57:=by simpa[digB] using hd
    obtain ⟨hb1,hb2⟩:=hb;have hs:Hid (sHexD (c::r)=(c-48,true,r)):=by
     show sHexD (c::r)=(c-48,true,r);unfold sHexD;simp only[dgB,hd];rw[if_pos trivial]
    go_enter Tryz.func147,Tryz.ntmps147
    go_wp2_with (first | (go_at_call 98;refine (peek_any _ _ _ _ ⟨i,H1.out,H2.out⟩).mono ?_;rintro e w' ⟨rfl,n,rfl⟩)|(go_at_call 82;refine (isDigit_any _ _).mono ?_;rintro e w' ⟨rfl,rfl⟩))
    go_ret2;rw[hs.out];refine ⟨ret2i ?_ rfl,at_set (l:=r) (H1.out.drewN _) H2.out,((Frm.refl _ _).drewN _).setCell (by simp) _⟩;have:(c-48).toNat=c.toNat-48:=UInt8.toNat_sub_of_le _ _ (by rw[UInt8.le_iff_toNat_le];simp;omega);rw[this];omega
def sHexB(l:List UInt8):UInt8 × Bool × List UInt8 :=
 let a:=sHexD l
 let d:=sHexD a.2.2
 (a.1*16+d.1,a.2.1&&d.2.1,d.2.2)
theorem sHexD_le(l:List UInt8):(sHexD l).1.toNat≤15:=by
 unfold sHexD;cases l with
 | nil=>simp
 | cons c r =>
   dsimp only
   by_cases h:dgB c=true
   ·rw[if_pos h]
    have hb:48≤(c.toNat:Int)∧(c.toNat:Int)≤57:=by simpa[dgB,digB] using h
    have:(c-48).toNat=c.toNat-48:=UInt8.toNat_sub_of_le _ _ (by rw[UInt8.le_iff_toNat_le];simp;omega);simp only[this];omega
   ·rw[if_neg h]
    by_cases h2:97≤c∧c≤102
    ·rw[if_pos h2]
     obtain ⟨h3,h4⟩:=h2;rw[UInt8.le_iff_toNat_le]at h3 h4;simp at h3 h4;have:(c-97).toNat=c.toNat-97:=UInt8.toNat_sub_of_le _ _ (by rw[UInt8.le_iff_toNat_le];simp;omega);simp only[UInt8.toNat_add,this];simp;omega
    ·rw[if_neg h2];simp
theorem takeHexByte_any(b:Nat)(t l:List UInt8)(w:World)(h:At w b t l) :
 Calls Tryz.prog 136 #[.pointer (some ⟨b,0,none⟩)] w fun e w'=>e=.returned (.tuple #[.int .u8 ((sHexB l).1.toNat), .bool (sHexB l).2.1])∧At w' b t (sHexB l).2.2∧Frm [b] w w':=by
 have H:Hid (At w b t l):=h;clear h;go_enter Tryz.func136,Tryz.ntmps136
 go_wp2_with fail
 refine (takeHexDigit_any _ _ _ _ H.out).mono ?_;rintro e w1 ⟨rfl,h1,hf1⟩;go_wp2_with fail
 refine (takeHexDigit_any _ _ _ _ h1).mono ?_;rintro e w2 ⟨rfl,h2,hf2⟩;have hu:=u8i (sHexD l).1;have hv:=u8i (sHexD (sHexD l).2.2).1;have hle:=sHexD_le l;have hle2:=sHexD_le (sHexD l).2.2;have Hx:Hid (sHexB l=((sHexD l).1*16+(sHexD (sHexD l).2.2).1,(sHexD l).2.1&&(sHexD (sHexD l).2.2).2.1,(sHexD (sHexD l).2.2).2.2)):=rfl;have H2:Hid (At w2 b t (sHexD (sHexD l).2.2).2.2):=h2;have HF:Hid (Frm [b] w w2):=hf1.trans hf2;clear h1 hf1 h2 hf2;generalize sHexD (sHexD l).2.2=d at *;generalize sHexD l=a at *;obtain ⟨a1,a2,a3⟩:=a;obtain ⟨d1,d2,d3⟩:=d;cases a2
 all_goals
  go_wp2;go_ret2;rw[Hx.out];refine ⟨ret2i ?_ (by simp),H2.out,HF.out⟩;rw[UInt8.toNat_add,UInt8.toNat_mul];simp;omega
def sVB(l:List UInt8):UInt8 × Bool × List UInt8 :=
 if sTake [92,34] l then (34,true,sRest [92,34] l)
 else if sTake [92,92] l then (92,true,sRest [92,92] l)
 else if sTake [92,120] l then sHexB (sRest [92,120] l)
 else match l with
  | []=>(0,false,[])
  | c::r=>if !(plainB c.toNat)||c==92 then (0,false,c::r) else (c,true,r)
theorem sRest_no{wd l:List UInt8}(h:sTake wd l=false):sRest wd l=l:=by
 unfold sTake at h;unfold sRest;rw[h];simp
theorem takeValueByte_any(b:Nat)(t l:List UInt8)(w:World)(h:At w b t l) :
 Calls Tryz.prog 122 #[.pointer (some ⟨b,0,none⟩)] w fun e w'=>e=.returned (.tuple #[.int .u8 ((sVB l).1.toNat), .bool (sVB l).2.1])∧At w' b t (sVB l).2.2∧Frm [b] w w':=by
 have H:Hid (At w b t l):=h;clear h;go_enter Tryz.func122,Tryz.ntmps122
 go_wp2_with fail
 refine (take_any b t l [92,34] _ H.out (by simp)).mono ?_;rintro e w1 ⟨rfl,h1,hf1⟩;cases ht1:sTake [92,34] l
 case true =>
  have Hx:Hid (sVB l=(34,true,sRest [92,34] l)):=by
   show sVB l=_;unfold sVB;rw[ht1];rfl
  have H1:Hid (At w1 b t (sRest [92,34] l)∧Frm [b] w w1):=⟨h1,hf1⟩;clear h1 hf1;go_wp2;go_ret2;rw[Hx.out];exact ⟨rfl,H1.out.1,H1.out.2⟩
 case false =>
 rw[sRest_no ht1]at h1;have H1:Hid (At w1 b t l):=h1;have HF1:Hid (Frm [b] w w1):=hf1;have T1:Hid (sTake [92,34] l=false):=ht1;clear h1 hf1;go_wp2_with fail
 refine (take_any b t l [92,92] _ H1.out (by simp)).mono ?_;rintro e w2 ⟨rfl,h2,hf2⟩;have HF2:Hid (Frm [b] w w2):=HF1.out.trans hf2;clear hf2 ht1;cases ht2:sTake [92,92] l
 case true =>
  have Hx:Hid (sVB l=(92,true,sRest [92,92] l)):=by
   show sVB l=_;unfold sVB;rw[T1.out,ht2];rfl
  have H2:Hid (At w2 b t (sRest [92,92] l)):=h2;clear h2;go_wp2;go_ret2;rw[Hx.out];exact ⟨rfl,H2.out,HF2.out⟩
 case false =>
 rw[sRest_no ht2]at h2;have H2:Hid (At w2 b t l):=h2;have T2:Hid (sTake [92,92] l=false):=ht2;clear h2;go_wp2_with fail
 refine (take_any b t l [92,120] _ H2.out (by simp)).mono ?_;rintro e w3 ⟨rfl,h3,hf3⟩;have HF3:Hid (Frm [b] w w3):=HF2.out.trans hf3;clear hf3 ht2;cases ht3:sTake [92,120] l
 case true =>
  have Hx:Hid (sVB l=sHexB (sRest [92,120] l)):=by
   show sVB l=_;unfold sVB;rw[T1.out,T2.out,ht3];rfl
  have H3:Hid (At w3 b t (sRest [92,120] l)):=h3;clear h3;go_wp2_with fail
  refine (takeHexByte_any b t _ _ H3.out).mono ?_;rintro e w4 ⟨rfl,h4,hf4⟩;have H4:Hid (At w4 b t (sHexB (sRest [92,120] l)).2.2):=h4;have HF4:Hid (Frm [b] w w4):=HF3.out.trans hf4;clear h4 hf4;go_wp2;go_ret2;rw[Hx.out];exact ⟨rfl,H4.out,HF4.out⟩
 case false =>
 rw[sRest_no ht3]at h3;have T3:Hid (sTake [92,120] l=false):=ht3;obtain ⟨i,h5,h6⟩:=h3;have c1:=h5.c1;have hf:=h5.fz 1;have hi:=h5.2.1;have ht:=h5.2.2;have H5:Hid (SC w3 b t i):=h5;have H6:Hid (List.drop i t=l):=h6;clear h5 h6 ht3;cases l with
 | nil =>
   have hn:plainB 0=false:=rfl;have h0:hd []=0:=rfl;go_wp2_with (first | (go_at_call 98;refine (peek_any _ _ _ _ ⟨i,H5.out,H6.out⟩).mono ?_;rintro e w' ⟨rfl,n,rfl⟩)|(go_at_call 95;refine (isPlain_any _ _).mono ?_;rintro e w' ⟨rfl,rfl⟩))
   go_ret2;exact ⟨rfl,⟨i,H5.out.drewN _,H6.out⟩,HF3.out.drewN _⟩
 | cons c r =>
   have hc:=hd_cons c r;have hu:=u8i c;have hil:i<t.length:=at_len H6.out
   by_cases hx:plainB c.toNat=true∧((c.toNat:Int)==92)=false
   ·obtain ⟨hp,h92⟩:=hx
    have Hx:Hid (sVB (c::r)=(c,true,r)):=by
     show sVB (c::r)=_;unfold sVB;rw[T1.out,T2.out,T3.out];have:(c==92)=false:=by
      rw[beq_eq_false_iff_ne]at h92 ⊢;intro e;subst e;exact h92 rfl
     simp[hp,this]
    go_wp2_with (first | (go_at_call 98;refine (peek_any _ _ _ _ ⟨i,H5.out,H6.out⟩).mono ?_;rintro e w' ⟨rfl,n,rfl⟩)|(go_at_call 95;refine (isPlain_any _ _).mono ?_;rintro e w' ⟨rfl,rfl⟩))
    go_ret2;rw[Hx.out];exact ⟨rfl,at_set (l:=r) (H5.out.drewN _) H6.out,(HF3.out.drewN _).setCell (by simp) _⟩
   ·have Hx:Hid (sVB (c::r)=(0,false,c::r)):=by
     show sVB (c::r)=_;unfold sVB;rw[T1.out,T2.out,T3.out]
     by_cases hp:plainB c.toNat=true
     ·have h92:c=92:=by
       by_cases e:c=92
       ·exact e
       ·exact absurd ⟨hp,beq_eq_false_iff_ne.2 (fun h=>e (UInt8.toNat_inj.1 (by simpa using (Int.ofNat_inj.1 h))))⟩ hx
      simp[h92]
     ·simp[hp]
    have hx':plainB c.toNat=false∨((c.toNat:Int)==92)=true:=by
     cases h1:plainB c.toNat<;>cases h2:((c.toNat:Int)==92)<;>simp_all
    clear hx;rcases hx' with hp|h92
    ·go_wp2_with (first | (go_at_call 98;refine (peek_any _ _ _ _ ⟨i,H5.out,H6.out⟩).mono ?_;rintro e w' ⟨rfl,n,rfl⟩)|(go_at_call 95;refine (isPlain_any _ _).mono ?_;rintro e w' ⟨rfl,rfl⟩))
     go_ret2;rw[Hx.out];exact ⟨rfl,⟨i,H5.out.drewN _,H6.out⟩,HF3.out.drewN _⟩
    ·cases hp:plainB c.toNat
     all_goals
      go_wp2_with (first | (go_at_call 98;refine (peek_any _ _ _ _ ⟨i,H5.out,H6.out⟩).mono ?_;rintro e w' ⟨rfl,n,rfl⟩)|(go_at_call 95;refine (isPlain_any _ _).mono ?_;rintro e w' ⟨rfl,rfl⟩))
      go_ret2;rw[Hx.out];exact ⟨rfl,⟨i,H5.out.drewN _,H6.out⟩,HF3.out.drewN _⟩
def valL:Nat→List UInt8→List UInt8→List UInt8 × Bool × List UInt8
 | 0,_,l=>([],false,l)
 | n+1,acc,l =>
   if sTake [34] l then (acc,true,sRest [34] l)
   else if !(sVB l).2.1||decide (40≤acc.length) then ([],false,(sVB l).2.2)
   else valL n (acc++[(sVB l).1]) (sVB l).2.2
def sVal(l:List UInt8):List UInt8 × Bool × List UInt8 :=
 if sTake [34] l then valL (l.length+1) [] (sRest [34] l) else ([],false,l)
theorem sRest_le(wd l:List UInt8):(sRest wd l).length≤l.length:=by unfold sRest;split<;>simp
theorem sHexD_len(l:List UInt8):(sHexD l).2.2.length≤l.length:=by
 unfold sHexD;cases l with
 | nil=>simp
 | cons c r =>
   dsimp only
   split
   ·simp
   ·split<;>simp
theorem sHexB_len(l:List UInt8):(sHexB l).2.2.length≤l.length:=Nat.le_trans (sHexD_len _) (sHexD_len _)
theorem sTake_len{wd l:List UInt8}(h:sTake wd l=true):(sRest wd l).length+wd.length=l.length:=by
 unfold sTake at h;have:=(List.isPrefixOf_iff_prefix.1 h).length_le;unfold sRest;rw[if_pos h];simp;omega
theorem sVB_len(l:List UInt8)(h:(sVB l).2.1=true):(sVB l).2.2.length<l.length:=by
 unfold sVB at h ⊢
 by_cases h1:sTake [92,34] l=true
 ·rw[if_pos h1];have:=sTake_len h1;simp at this ⊢;omega
 rw[if_neg h1]at h ⊢
 by_cases h2:sTake [92,92] l=true
 ·rw[if_pos h2];have:=sTake_len h2;simp at this ⊢;omega
 rw[if_neg h2]at h ⊢
 by_cases h3:sTake [92,120] l=true
 ·rw[if_pos h3];have:=sTake_len h3;have:=sHexB_len (sRest [92,120] l);simp at *;omega
 rw[if_neg h3]at h ⊢;cases l with
 | nil=>simp at h
 | cons c r =>
   dsimp only at h ⊢
   split at h
   ·simp at h
   ·rename_i hx;rw[if_neg hx];simp
theorem takeValue_any(b:Nat)(t l:List UInt8)(w:World)(h:At w b t l) :
 Calls Tryz.prog 110 #[.pointer (some ⟨b,0,none⟩)] w fun e w'=>e=.returned (.tuple #[.string (bs (sVal l).1), .bool (sVal l).2.1])∧At w' b t (sVal l).2.2∧Frm [b] w w':=by
 have hb:=h.lt;have H:Hid (At w b t l):=h;clear h;obtain ⟨i0,hi,hz0,hz1,hz2⟩:=info_parts infoU8;go_enter Tryz.func110,Tryz.ntmps110
 go_wp2_with fail
 refine (take_any b t l [34] _ H.out (by simp)).mono ?_;rintro e w1 ⟨rfl,h1,hf1⟩;cases ht1:sTake [34] l
 case false =>
  have Hx:Hid (sVal l=([],false,l)):=by
   show sVal l=_;unfold sVal;rw[ht1];rfl
  rw[sRest_no ht1]at h1;have H1:Hid (At w1 b t l∧Frm [b] w w1):=⟨h1,hf1⟩;clear h1 hf1;go_wp2;go_ret2;rw[Hx.out];exact ⟨rfl,H1.out.1,H1.out.2⟩
 case true =>
 have Hx:Hid (sVal l=valL (l.length+1) [] (sRest [34] l)):=by
  show sVal l=_;unfold sVal;rw[ht1];rfl
 have hs1:=hf1.size;have H1:Hid (At w1 b t (sRest [34] l)∧Frm [b] w w1):=⟨h1,hf1⟩;clear h1 hf1;go_wp2_with fail
 go_loopg [4] (l.length+1) (fun k v wr=>∃ acc l' g cap,v=.slice (some ⟨g,0,none⟩) acc.length cap∧wr.ownsRow w.heap.size 5 1 v acc.length (byt acc)∧acc.length≤40∧l'.length<k∧valL k acc l'=valL (l.length+1) [] (sRest [34] l)∧At wr b t l'∧Frm [b] w wr)
 case atStart =>
  refine ⟨[],sRest [34] l,_,_,rfl,?_,by simp,Nat.lt_succ_of_le (sRest_le _ _),rfl,H1.out.1.frm (S:=[]) ((Frm.refl _ _).alloc _) (by simp),H1.out.2.alloc _⟩;exact World.ownsRow_lit _ #[] 0 hs1 (by unfold maxLen;omega) (by simp)
 case round =>
  obtain ⟨acc,l',g,cap,rfl,hown,hac,hlk,hv,hat,hfr⟩:=hrel;have Ho:Hid (wr.ownsRow w.heap.size 5 1 (.slice (some ⟨g,0,none⟩) acc.length cap) acc.length (byt acc)):=hown;have Hv:Hid (valL gk acc l'=valL (l.length+1) [] (sRest [34] l)):=hv;have Ha:Hid (At wr b t l'):=hat;have Hf:Hid (Frm [b] w wr):=hfr;clear hown hv hat hfr;obtain ⟨m,rfl⟩:∃ m,gk=m+1:=⟨gk-1,by omega⟩;go_wp2_with fail
  refine (take_any b t l' [34] _ Ha.out (by simp)).mono ?_;rintro e w2 ⟨rfl,h2,hf2⟩;cases ht2:sTake [34] l'
  case true =>
   have Hx2:Hid (sVal l=(acc,true,sRest [34] l')):=by
    show sVal l=_;rw[Hx.out,← Hv.out];unfold valL;rw[ht2];rfl
   have H2:Hid (At w2 b t (sRest [34] l')∧Frm [b] w w2):=⟨h2,Hf.out.trans hf2⟩;have hown2:=own_frm Ho.out hf2 (by simp;omega);have hlen:acc.length=(acc).length:=rfl;have hcv:=run_convert_bytes_back (P:=Tryz.prog) w2 84 9 5 ⟨g,0,none⟩ cap acc Tryz.underlying84 Tryz.underlying5 Tryz.underlying9 (fun j hj=>by
    refine hown2.cells rfl j _ ?_;simp[byt,hj])
   clear h2 hf2 hown2;go_wp2;go_ret2;rw[Hx2.out];exact ⟨rfl,H2.out.1,H2.out.2⟩
  case false =>
  rw[sRest_no ht2]at h2;have H2:Hid (At w2 b t l'):=h2;have Hf2:Hid (Frm [b] w w2):=Hf.out.trans hf2;have Ho2:Hid (w2.ownsRow w.heap.size 5 1 (.slice (some ⟨g,0,none⟩) acc.length cap) acc.length (byt acc)):=own_frm Ho.out hf2 (by simp;omega);have T2:Hid (sTake [34] l'=false):=ht2;clear h2 hf2 Ha Hf Ho;go_wp2_with fail
  refine (takeValueByte_any b t l' _ H2.out).mono ?_;rintro e w3 ⟨rfl,h3,hf3⟩;have H3:Hid (At w3 b t (sVB l').2.2):=h3;have Hf3:Hid (Frm [b] w w3):=Hf2.out.trans hf3;have Ho3:Hid (w3.ownsRow w.heap.size 5 1 (.slice (some ⟨g,0,none⟩) acc.length cap) acc.length (byt acc)):=own_frm Ho2.out hf3 (by simp;omega);have hs3:=Hf3.out.size;clear h3 hf3 H2 Hf2 Ho2 ht2;cases hok:(sVB l').2.1
  case false =>
   have Hx2:Hid (sVal l=([],false,(sVB l').2.2)):=by
    show sVal l=_;rw[Hx.out,← Hv.out];unfold valL;rw[T2.out,hok];rfl
   go_wp2;go_ret2;rw[Hx2.out];exact ⟨rfl,H3.out,Hf3.out⟩
  case true =>
  have hvl:=sVB_len l' hok
  by_cases h40:40≤acc.length
  ·have Hx2:Hid (sVal l=([],false,(sVB l').2.2)):=by
    show sVal l=_;rw[Hx.out,← Hv.out];unfold valL;rw[T2.out,hok];simp[h40]
   go_wp2;go_ret2;rw[Hx2.out];exact ⟨rfl,H3.out,Hf3.out⟩
  ·have Hv2:Hid (valL m (acc++[(sVB l').1]) (sVB l').2.2=valL (l.length+1) [] (sRest [34] l)):=by
    show valL m (acc++[(sVB l').1]) (sVB l').2.2=_;rw[← Hv.out];conv=>rhs;unfold valL
    rw[T2.out,hok];simp[h40]
   clear Hv T2;generalize hsv:sVB l'=x at *;obtain ⟨x1,x2,x3⟩:=x;simp only at hok hvl Hv2 H3;subst hok;have hown3:=Ho3.out;go_wp2_with (first | (at_builtin;refine wpList_append_own _ rfl _ _ 84 rfl w.heap.size 5 i0 (.int .u8 0) 1 1 Tryz.underlying84 hi hz0 hz1 hz2 rfl (by decide) (.slice (some ⟨g,0,none⟩) acc.length cap) _ _ rfl (hown3.alloc _) ⟨w3.heap.size,0,none⟩ 1 1 [.int .u8 x1.toNat] rfl rfl (cell_one_new _ _ _) (fun x hx=>by simp at hx;subst hx;rfl) (by unfold maxLen;omega) (by omega) (by simp;omega) ?_;intro v' w4 hown4 hg4 hnil4))
   go_roundg m
   case measure=>omega
   case rel =>
    obtain ⟨g',cap',hv'⟩:=own_some hown4 (fun e=>by have:=hnil4.1 e;simp at this);subst hv';refine ⟨acc++[x1],x3,g',cap',by simp,?_,by simp;omega,by omega,Hv2.out,?_,?_⟩
    ·simpa[byt] using hown4
    ·refine At.frm (S:=[g]) ?_ (Frm.of_grown (w:=w3.alloc (.cells #[.int .u8 x1.toNat] 5)) hg4) ?_
     ·exact H3.out.frm (S:=[]) ((Frm.refl _ _).alloc _) (by simp)
     ·have:=(Ho3.out.lt g rfl).1;simp;omega
    ·exact (Hf3.out.alloc _).grown hg4 (fun k hk=>by
      simp[Value.ownBlock]at hk;subst hk;exact Or.inr (Ho3.out.lt g rfl).1)
def numL:List UInt8→Nat→Nat × Bool × List UInt8
 | [],n=>(n,true,[])
 | c::r,n=>if dgB c then (if 99999<n*10+(c.toNat-48) then (0,false,c::r) else numL r (n*10+(c.toNat-48))) else (n,true,c::r)
def sNum(l:List UInt8):Nat × Bool × List UInt8 :=
 if sTake [48] l then (0,true,sRest [48] l) else if !(digB (hd l)) then (0,false,l) else numL l 0
theorem takeNumber_any(b:Nat)(t l:List UInt8)(w:World)(h:At w b t l) :
 Calls Tryz.prog 108 #[.pointer (some ⟨b,0,none⟩)] w fun e w'=>e=.returned (.tuple #[.int .i64 (sNum l).1, .bool (sNum l).2.1])∧At w' b t (sNum l).2.2∧Frm [b] w w':=by
 have H:Hid (At w b t l):=h;clear h;go_enter Tryz.func108,Tryz.ntmps108
 go_wp2_with fail
 refine (take_any b t l [48] _ H.out (by simp)).mono ?_;rintro e w1 ⟨rfl,h1,hf1⟩;cases ht1:sTake [48] l
 case true =>
  have Hx:Hid (sNum l=(0,true,sRest [48] l)):=by
   show sNum l=_;unfold sNum;rw[ht1];rfl
  have H1:Hid (At w1 b t (sRest [48] l)∧Frm [b] w w1):=⟨h1,hf1⟩;clear h1 hf1;go_wp2;go_ret2;rw[Hx.out];exact ⟨rfl,H1.out.1,H1.out.2⟩
 case false =>
 rw[sRest_no ht1]at h1;have H1:Hid (At w1 b t l):=h1;have HF1:Hid (Frm [b] w w1):=hf1;have T1:Hid (sTake [48] l=false):=ht1;clear h1 hf1 ht1;go_wp2_with fail
 refine (peek_any b t l _ H1.out).mono ?_;rintro e w' ⟨rfl,n,rfl⟩;cases hd0:digB (hd l)
 case false =>
  have Hx:Hid (sNum l=(0,false,l)):=by
   show sNum l=_;unfold sNum;rw[T1.out,hd0];rfl
  go_wp2_with (go_at_call 82;refine (isDigit_any _ _).mono ?_;rintro e w' ⟨rfl,rfl⟩)
  go_ret2;rw[Hx.out];exact ⟨rfl,H1.out.frm (S:=[]) ((Frm.refl _ _).drewN _) (by simp),HF1.out.drewN _⟩
 case true =>
 have Hx:Hid (sNum l=numL l 0):=by
  show sNum l=_;unfold sNum;rw[T1.out,hd0];rfl
 go_wp2_with (go_at_call 82;refine (isDigit_any _ _).mono ?_;rintro e w' ⟨rfl,rfl⟩)
 go_loopg [4] l.length (fun k v wr=>∃ (l':List UInt8) (x:Nat),v=.int .i64 x∧x≤99999∧l'.length≤k∧numL l' x=numL l 0∧At wr b t l'∧Frm [b] w wr)
 case atStart=>exact ⟨l,0,rfl,by omega,Nat.le_refl _,rfl,H1.out.frm (S:=[]) ((Frm.refl _ _).drewN _) (by simp),HF1.out.drewN _⟩
 case round =>
  obtain ⟨l',x,rfl,hx,hlk,hv,⟨i,h5,h6⟩,hfr⟩:=hrel;have c1:=h5.c1;have hf:=h5.fz 1;have hi:=h5.2.1;have ht:=h5.2.2;have H5:Hid (SC wr b t i):=h5;have H6:Hid (List.drop i t=l'):=h6;have Hv:Hid (numL l' x=numL l 0):=hv;have Hf:Hid (Frm [b] w wr):=hfr;clear h5 h6 hv hfr H1 HF1 hd0;cases l' with
  | nil =>
    have hn:digB (hd [])=false:=rfl;have h0:hd []=0:=rfl;have Hx2:Hid (sNum l=(x,true,[])):=by show sNum l=_;rw[Hx.out,← Hv.out];rfl
    go_wp2_with (first | (go_at_call 98;refine (peek_any _ _ _ _ ⟨i,H5.out,H6.out⟩).mono ?_;rintro e w' ⟨rfl,n,rfl⟩)|(go_at_call 82;refine (isDigit_any _ _).mono ?_;rintro e w' ⟨rfl,rfl⟩))
    go_ret2;rw[Hx2.out];exact ⟨rfl,⟨i,H5.out.drewN _,H6.out⟩,Hf.out.drewN _⟩
  | cons c r =>
    have hc:=hd_cons c r;have hu:=u8i c;have hil:i<t.length:=at_len H6.out;cases hdd:digB (c.toNat:Int)
    case false =>
     have Hx2:Hid (sNum l=(x,true,c::r)):=by
      show sNum l=_;rw[Hx.out,← Hv.out];unfold numL;simp[dgB,hdd]
     go_wp2_with (first | (go_at_call 98;refine (peek_any _ _ _ _ ⟨i,H5.out,H6.out⟩).mono ?_;rintro e w' ⟨rfl,n,rfl⟩)|(go_at_call 82;refine (isDigit_any _ _).mono ?_;rintro e w' ⟨rfl,rfl⟩))
     go_ret2;rw[Hx2.out];exact ⟨rfl,⟨i,H5.out.drewN _,H6.out⟩,Hf.out.drewN _⟩
    case true =>
     have hb:48≤(c.toNat:Int)∧(c.toNat:Int)≤57:=by simpa[digB] using hdd
     obtain ⟨hb1,hb2⟩:=hb;have hun:numL (c::r) x=(if 99999<x*10+(c.toNat-48) then (0,false,c::r) else numL r (x*10+(c.toNat-48))):=by
      conv=>lhs;unfold numL
      simp[dgB,hdd]
     have Hun:Hid (numL (c::r) x=(if 99999<x*10+(c.toNat-48) then (0,false,c::r) else numL r (x*10+(c.toNat-48)))):=hun;clear hun;simp only[List.length_cons]at hlk
     by_cases hbig:99999<x*10+(c.toNat-48)
     ·have Hx2:Hid (sNum l=(0,false,c::r)):=by
       show sNum l=_;rw[Hx.out,← Hv.out,Hun.out,if_pos hbig]
      have hbi:(99999:Int)<(x:Int)*10+((c.toNat:Int)-48):=by omega
      go_wp2_with (first | (go_at_call 98;refine (peek_any b t (c::r) _ (At.frm (S:=[]) ⟨i,H5.out,H6.out⟩ (by first | exact Frm.refl _ _|exact (Frm.refl _ _).drewN _) (by simp))).mono ?_;rintro e w' ⟨rfl,n,rfl⟩)|(go_at_call 82;refine (isDigit_any _ _).mono ?_;rintro e w' ⟨rfl,rfl⟩))
      go_ret2;rw[Hx2.out];exact ⟨rfl,⟨i,H5.out.drewN _,H6.out⟩,Hf.out.drewN _⟩
     ·have Hv2:Hid (numL r (x*10+(c.toNat-48))=numL l 0):=by
       show numL r _=_;rw[← Hv.out,Hun.out,if_neg hbig]
      have hbi:(x:Int)*10+((c.toNat:Int)-48)≤99999:=by omega
      go_wp2_with (first | (go_at_call 98;refine (peek_any b t (c::r) _ (At.frm (S:=[]) ⟨i,H5.out,H6.out⟩ (by first | exact Frm.refl _ _|exact (Frm.refl _ _).drewN _) (by simp))).mono ?_;rintro e w' ⟨rfl,n,rfl⟩)|(go_at_call 82;refine (isDigit_any _ _).mono ?_;rintro e w' ⟨rfl,rfl⟩))
      go_roundg (gk-1)
      case measure=>omega
      case rel =>
       refine ⟨r,x*10+(c.toNat-48),?_,by omega,by omega,Hv2.out,at_set (l:=r) (H5.out.drewN _) H6.out,(Hf.out.drewN _).setCell (by simp) _⟩
       congr 1;omega
def sKind(l:List UInt8):Nat × Bool × List UInt8 :=
 if sTake [61,126] l then (2,true,sRest [61,126] l)
 else if sTake [33,126] l then (3,true,sRest [33,126] l)
 else if sTake [33,61] l then (1,true,sRest [33,61] l)
 else (0,sTake [61] l,sRest [61] l)
theorem takeKind_any(b:Nat)(t l:List UInt8)(w:World)(h:At w b t l) :
 Calls Tryz.prog 109 #[.pointer (some ⟨b,0,none⟩)] w fun e w'=>e=.returned (.tuple #[.int .i64 (sKind l).1, .bool (sKind l).2.1])∧At w' b t (sKind l).2.2∧Frm [b] w w':=by
 have H:Hid (At w b t l):=h;clear h;go_enter Tryz.func109,Tryz.ntmps109
 go_wp2_with fail
 refine (take_any b t l [61,126] _ H.out (by simp)).mono ?_;rintro e w1 ⟨rfl,h1,hf1⟩;cases ht1:sTake [61,126] l
 case true =>
  have Hx:Hid (sKind l=(2,true,sRest [61,126] l)):=by
   show sKind l=_;unfold sKind;rw[ht1];rfl
  have H1:Hid (At w1 b t (sRest [61,126] l)∧Frm [b] w w1):=⟨h1,hf1⟩;clear h1 hf1;go_wp2;go_ret2;rw[Hx.out];exact ⟨rfl,H1.out.1,H1.out.2⟩
 case false =>
 rw[sRest_no ht1]at h1;have H1:Hid (At w1 b t l):=h1;have HF1:Hid (Frm [b] w w1):=hf1;have T1:Hid (sTake [61,126] l=false):=ht1;clear h1 hf1;go_wp2_with fail
 refine (take_any b t l [33,126] _ H1.out (by simp)).mono ?_;rintro e w2 ⟨rfl,h2,hf2⟩;have HF2:Hid (Frm [b] w w2):=HF1.out.trans hf2;clear hf2 ht1;cases ht2:sTake [33,126] l
 case true =>
  have Hx:Hid (sKind l=(3,true,sRest [33,126] l)):=by
   show sKind l=_;unfold sKind;rw[T1.out,ht2];rfl
  have H2:Hid (At w2 b t (sRest [33,126] l)):=h2;clear h2;go_wp2;go_ret2;rw[Hx.out];exact ⟨rfl,H2.out,HF2.out⟩
 case false =>
 rw[sRest_no ht2]at h2;have H2:Hid (At w2 b t l):=h2;have T2:Hid (sTake [33,126] l=false):=ht2;clear h2;go_wp2_with fail
 refine (take_any b t l [33,61] _ H2.out (by simp)).mono ?_;rintro e w3 ⟨rfl,h3,hf3⟩;have HF3:Hid (Frm [b] w w3):=HF2.out.trans hf3;clear hf3 ht2;cases ht3:sTake [33,61] l
 case true =>
  have Hx:Hid (sKind l=(1,true,sRest [33,61] l)):=by
   show sKind l=_;unfold sKind;rw[T1.out,T2.out,ht3];rfl
  have H3:Hid (At w3 b t (sRest [33,61] l)):=h3;clear h3;go_wp2;go_ret2;rw[Hx.out];exact ⟨rfl,H3.out,HF3.out⟩
 case false =>
 rw[sRest_no ht3]at h3;have T3:Hid (sTake [33,61] l=false):=ht3;have H3:Hid (At w3 b t l):=h3;clear h3 ht3;go_wp2_with fail
 refine (take_any b t l [61] _ H3.out (by simp)).mono ?_;rintro e w4 ⟨rfl,h4,hf4⟩;have HF4:Hid (Frm [b] w w4):=HF3.out.trans hf4;have Hx:Hid (sKind l=(0,sTake [61] l,sRest [61] l)):=by
  show sKind l=_;unfold sKind;rw[T1.out,T2.out,T3.out];rfl
 have H4:Hid (At w4 b t (sRest [61] l)):=h4;clear h4 hf4;go_wp2;go_ret2;rw[Hx.out];exact ⟨rfl,H4.out,HF4.out⟩
def sTime(wd l:List UInt8):Int × Bool × List UInt8 :=
 if sTake wd l then (((sNum (sRest wd l)).1:Int),(sNum (sRest wd l)).2.1,(sNum (sRest wd l)).2.2) else (-1,true,l)
theorem takeTime_any(b:Nat)(t l wd:List UInt8)(w:World)(h:At w b t l)(hw:wd.length≤1048576) :
 Calls Tryz.prog 101 #[.pointer (some ⟨b,0,none⟩), .string (bs wd)] w fun e w'=>e=.returned (.tuple #[.int .i64 (sTime wd l).1, .bool (sTime wd l).2.1])∧At w' b t (sTime wd l).2.2∧Frm [b] w w':=by
 have H:Hid (At w b t l):=h;clear h;go_enter Tryz.func101,Tryz.ntmps101
 go_wp2_with fail
 refine (take_any b t l wd _ H.out hw).mono ?_;rintro e w1 ⟨rfl,h1,hf1⟩;cases ht1:sTake wd l
 case false =>
  have Hx:Hid (sTime wd l=(-1,true,l)):=by
   show sTime wd l=_;unfold sTime;rw[ht1];rfl
  rw[sRest_no ht1]at h1;have H1:Hid (At w1 b t l∧Frm [b] w w1):=⟨h1,hf1⟩;clear h1 hf1;go_wp2;go_ret2;rw[Hx.out];exact ⟨rfl,H1.out.1,H1.out.2⟩
 case true =>
 have Hx:Hid (sTime wd l=(((sNum (sRest wd l)).1:Int),(sNum (sRest wd l)).2.1,(sNum (sRest wd l)).2.2)):=by
  show sTime wd l=_;unfold sTime;rw[ht1];rfl
 have H1:Hid (At w1 b t (sRest wd l)∧Frm [b] w w1):=⟨h1,hf1⟩;clear h1 hf1;go_wp2_with fail
 refine (takeNumber_any b t _ _ H1.out.1).mono ?_;rintro e w2 ⟨rfl,h2,hf2⟩;have H2:Hid (At w2 b t (sNum (sRest wd l)).2.2∧Frm [b] w w2):=⟨h2,H1.out.2.trans hf2⟩;clear h2 hf2;go_wp2;go_ret2;rw[Hx.out];exact ⟨rfl,H2.out.1,H2.out.2⟩
abbrev CM:=List UInt8 × Nat × List UInt8
def sMat(l:List UInt8):CM × Bool × List UInt8 :=
 let n:=l.takeWhile nmB
 let l1:=l.dropWhile nmB
 let k:=sKind l1
 let v:=sVal k.2.2
 ((n,k.1,v.1),isNameL n&&k.2.1&&v.2.1,v.2.2)
def matV(m:CM):Value:=.agg #[.string (bs m.1), .int .i64 m.2.1, .string (bs m.2.2)]
theorem takeMatcher_any(b:Nat)(t l:List UInt8)(w:World)(h:At w b t l) :
 Calls Tryz.prog 102 #[.pointer (some ⟨b,0,none⟩)] w fun e w'=>e=.returned (.tuple #[matV (sMat l).1, .bool (sMat l).2.1])∧At w' b t (sMat l).2.2∧Frm [b] w w':=by
 have hb:=h.lt;have H:Hid (At w b t l):=h;clear h;go_enter Tryz.func102,Tryz.ntmps102
 go_wp2_with fail
 refine (takeName_any b t l _ (H.out.frm (S:=[]) ((Frm.refl _ _).alloc _) (by simp))).mono ?_;rintro e w1 ⟨rfl,h1,hf1⟩;have H1:Hid (At w1 b t (l.dropWhile nmB)):=h1;clear h1;go_wp2_with fail
 refine (takeKind_any b t _ _ H1.out).mono ?_;rintro e w2 ⟨rfl,h2,hf2⟩;have hf12:=hf1.trans hf2;clear hf1 hf2;go_wp2_with fail
 refine (takeValue_any b t _ _ h2).mono ?_;rintro e w3 ⟨rfl,h3,hf3⟩;have hf:=hf12.trans hf3;clear hf12 hf3 h2;have hO:=(hf.block w.heap.size (by simp) (by simp;omega)).trans (heap_alloc_new w _);have hz:=hf.size;have HF:Hid (Frm [b] w w3):=((Frm.refl [b] w).alloc _).trans hf;have H3:Hid (At w3 b t (sMat l).2.2):=h3;clear hf h3;have ca:w3.cell? ⟨w.heap.size,0,none⟩=some (.string ⟨#[]⟩):=by simp[World.cell?,hO]
 have cb:w3.cell? ⟨w.heap.size,1,none⟩=some (.int .i64 0):=by simp[World.cell?,hO]
 have cc:w3.cell? ⟨w.heap.size,2,none⟩=some (.string ⟨#[]⟩):=by simp[World.cell?,hO]
 have q0:∀ o,w3.frozen? ⟨w.heap.size,o,none⟩=false:=by intro o;simp[World.frozen?,hO]
 have hz':w.heap.size<w3.heap.size:=by simp at hz;omega
 have Hm:Hid (sMat l=((l.takeWhile nmB,(sKind (l.dropWhile nmB)).1,(sVal (sKind (l.dropWhile nmB)).2.2).1),isNameL (l.takeWhile nmB)&&(sKind (l.dropWhile nmB)).2.1&&(sVal (sKind (l.dropWhile nmB)).2.2).2.1,(sVal (sKind (l.dropWhile nmB)).2.2).2.2)):=rfl;clear hO hz;generalize sVal (sKind (l.dropWhile nmB)).2.2=sv at *;generalize sKind (l.dropWhile nmB)=sk at *;generalize l.takeWhile nmB=nm at *;obtain ⟨v1,v2,v3⟩:=sv;obtain ⟨k1,k2,k3⟩:=sk;cases hn:isNameL nm<;>cases k2
 all_goals
  go_wp2;refine bodyPost_ret (v:=.tuple #[matV (nm,k1,v1), .bool _]) (by simp[results,Tryz.results102,go_sem,matV,ca,cb,cc,hz']<;>rfl) rfl ?_;rw[Hm.out];refine ⟨by simp[hn],?_,?_⟩
  ·rw[Hm.out]at H3
   exact H3.out.frm (S:=[w.heap.size]) (((((Frm.refl _ _).setCell (by simp) _).setCell (by simp) _).setCell (by simp) _).alloc _) (by simp;omega)
  ·exact (((HF.out.setCell (by simp) _).setCell (by simp) _).setCell (by simp) _).alloc _
end Go.Proofs.YtpcbbbilmpobaaaGreatDoor
