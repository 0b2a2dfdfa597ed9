import Derived.Test.YtjkialjoamgbgaaGreatJ12
set_option linter.unusedVariables false
set_option linter.unusedSimpArgs false
set_option linter.unnecessarySimpa false
set_option maxRecDepth 100000
set_option maxHeartbeats 2000000
namespace Go.Proofs.YtjkialjoamgbgaaGreat
open Go.RowKit
def valL:Nat→List UInt8→List UInt8→List UInt8 × Bool × List UInt8
 | 0,_,l=>([],false,l)
 | n+1,acc,l =>
   if sTake [34] l then (acc,true,sRest [34] l)
   else if !(sVB l).2.1||decide (40≤acc.length) then ([],false,(sVB l).2.2)
   else valL n (acc++[(sVB l).1]) (sVB l).2.2
def sVal(l:List UInt8):List UInt8 × Bool × List UInt8 :=
 if sTake [34] l then valL (l.length+1) [] (sRest [34] l) else ([],false,l)
theorem sRest_le(wd l:List UInt8):(sRest wd l).length≤l.length:=by unfold sRest;split<;>simp
theorem sHexD_len(l:List UInt8):(sHexD l).2.2.length≤l.length:=by
 unfold sHexD;cases l with
 | nil=>simp
 | cons c r =>
   dsimp only
   split
   ·simp
   ·split<;>simp
theorem sHexB_len(l:List UInt8):(sHexB l).2.2.length≤l.length:=Nat.le_trans (sHexD_len _) (sHexD_len _)
theorem sTake_len{wd l:List UInt8}(h:sTake wd l=true):(sRest wd l).length+wd.length=l.length:=by
 unfold sTake at h
 have:=(List.isPrefixOf_iff_prefix.1 h).length_le
 unfold sRest;rw[if_pos h];simp;omega
theorem sVB_len(l:List UInt8)(h:(sVB l).2.1=true):(sVB l).2.2.length<l.length:=by
 unfold sVB at h ⊢
 by_cases h1:sTake [92,34] l=true
 ·rw[if_pos h1];have:=sTake_len h1;simp at this ⊢;omega
 rw[if_neg h1]at h ⊢
 by_cases h2:sTake [92,92] l=true
 ·rw[if_pos h2];have:=sTake_len h2;simp at this ⊢;omega
 rw[if_neg h2]at h ⊢
 by_cases h3:sTake [92,120] l=true
 ·rw[if_pos h3];have:=sTake_len h3;have:=sHexB_len (sRest [92,120] l);simp at *;omega
 rw[if_neg h3]at h ⊢
 cases l with
 | nil=>simp at h
 | cons c r =>
   dsimp only at h ⊢
   split at h
   ·simp at h
   ·rename_i hx;rw[if_neg hx];simp
theorem takeValue_any(b:Nat)(t l:List UInt8)(w:World)(h:At w b t l) :
 Calls Tryz.prog 100 #[.pointer (some ⟨b,0,none⟩)] w fun e w'=>e=.returned (.tuple #[.string (bs (sVal l).1), .bool (sVal l).2.1])∧At w' b t (sVal l).2.2∧Frm [b] w w':=by
 have hb:=h.lt
 have H:Hid (At w b t l):=h
 clear h
 obtain ⟨i0,hi,hz0,hz1,hz2⟩:=info_parts infoU8
 go_enter Tryz.func100,Tryz.ntmps100
 go_wp2_with fail
 refine (take_any b t l [34] _ H.out (by simp)).mono ?_
 rintro e w1 ⟨rfl,h1,hf1⟩
 cases ht1:sTake [34] l
 case false =>
  have Hx:Hid (sVal l=([],false,l)):=by
   show sVal l=_;unfold sVal;rw[ht1];rfl
  rw[sRest_no ht1]at h1
  have H1:Hid (At w1 b t l∧Frm [b] w w1):=⟨h1,hf1⟩
  clear h1 hf1
  go_wp2
  go_ret2
  rw[Hx.out]
  exact ⟨rfl,H1.out.1,H1.out.2⟩
 case true =>
 have Hx:Hid (sVal l=valL (l.length+1) [] (sRest [34] l)):=by
  show sVal l=_;unfold sVal;rw[ht1];rfl
 have hs1:=hf1.size
 have H1:Hid (At w1 b t (sRest [34] l)∧Frm [b] w w1):=⟨h1,hf1⟩
 clear h1 hf1
 go_wp2_with fail
 go_loopg [4] (l.length+1) (fun k v wr=>∃ acc l' g cap,v=.slice (some ⟨g,0,none⟩) acc.length cap∧wr.ownsRow w.heap.size 5 1 v acc.length (byt acc)∧acc.length≤40∧l'.length<k∧valL k acc l'=valL (l.length+1) [] (sRest [34] l)∧At wr b t l'∧Frm [b] w wr)
 case atStart =>
  refine ⟨[],sRest [34] l,_,_,rfl,?_,by simp,Nat.lt_succ_of_le (sRest_le _ _),rfl,H1.out.1.frm (S:=[]) ((Frm.refl _ _).alloc _) (by simp),H1.out.2.alloc _⟩
  exact World.ownsRow_lit _ #[] 0 hs1 (by unfold maxLen;omega) (by simp)
 case round =>
  obtain ⟨acc,l',g,cap,rfl,hown,hac,hlk,hv,hat,hfr⟩:=hrel
  have Ho:Hid (wr.ownsRow w.heap.size 5 1 (.slice (some ⟨g,0,none⟩) acc.length cap) acc.length (byt acc)):=hown
  have Hv:Hid (valL gk acc l'=valL (l.length+1) [] (sRest [34] l)):=hv
  have Ha:Hid (At wr b t l'):=hat
  have Hf:Hid (Frm [b] w wr):=hfr
  clear hown hv hat hfr
  obtain ⟨m,rfl⟩:∃ m,gk=m+1:=⟨gk-1,by omega⟩
  go_wp2_with fail
  refine (take_any b t l' [34] _ Ha.out (by simp)).mono ?_
  rintro e w2 ⟨rfl,h2,hf2⟩
  cases ht2:sTake [34] l'
  case true =>
   have Hx2:Hid (sVal l=(acc,true,sRest [34] l')):=by
    show sVal l=_
    rw[Hx.out,← Hv.out];unfold valL;rw[ht2];rfl
   have H2:Hid (At w2 b t (sRest [34] l')∧Frm [b] w w2):=⟨h2,Hf.out.trans hf2⟩
   have hown2:=own_frm Ho.out hf2 (by simp;omega)
   have hlen:acc.length=(acc).length:=rfl
   have hcv:=run_convert_bytes_back (P:=Tryz.prog) w2 113 9 5 ⟨g,0,none⟩ cap acc Tryz.underlying113 Tryz.underlying5 Tryz.underlying9 (fun j hj=>by
    refine hown2.cells rfl j _ ?_
    simp[byt,hj])
   clear h2 hf2 hown2
   go_wp2
   go_ret2
   rw[Hx2.out]
   exact ⟨rfl,H2.out.1,H2.out.2⟩
  case false =>
  rw[sRest_no ht2]at h2
  have H2:Hid (At w2 b t l'):=h2
  have Hf2:Hid (Frm [b] w w2):=Hf.out.trans hf2
  have Ho2:Hid (w2.ownsRow w.heap.size 5 1 (.slice (some ⟨g,0,none⟩) acc.length cap) acc.length (byt acc)):=own_frm Ho.out hf2 (by simp;omega)
  have T2:Hid (sTake [34] l'=false):=ht2
  clear h2 hf2 Ha Hf Ho
  go_wp2_with fail
  refine (takeValueByte_any b t l' _ H2.out).mono ?_
  rintro e w3 ⟨rfl,h3,hf3⟩
  have H3:Hid (At w3 b t (sVB l').2.2):=h3
  have Hf3:Hid (Frm [b] w w3):=Hf2.out.trans hf3
  have Ho3:Hid (w3.ownsRow w.heap.size 5 1 (.slice (some ⟨g,0,none⟩) acc.length cap) acc.length (byt acc)):=own_frm Ho2.out hf3 (by simp;omega)
  have hs3:=Hf3.out.size
  clear h3 hf3 H2 Hf2 Ho2 ht2
  cases hok:(sVB l').2.1
  case false =>
   have Hx2:Hid (sVal l=([],false,(sVB l').2.2)):=by
    show sVal l=_
    rw[Hx.out,← Hv.out];unfold valL;rw[T2.out,hok];rfl
   go_wp2
   go_ret2
   rw[Hx2.out]
   exact ⟨rfl,H3.out,Hf3.out⟩
  case true =>
  have hvl:=sVB_len l' hok
  by_cases h40:40≤acc.length
  ·have Hx2:Hid (sVal l=([],false,(sVB l').2.2)):=by
    show sVal l=_
    rw[Hx.out,← Hv.out];unfold valL;rw[T2.out,hok];simp[h40]
   go_wp2
   go_ret2
   rw[Hx2.out]
   exact ⟨rfl,H3.out,Hf3.out⟩
  ·have Hv2:Hid (valL m (acc++[(sVB l').1]) (sVB l').2.2=valL (l.length+1) [] (sRest [34] l)):=by
    show valL m (acc++[(sVB l').1]) (sVB l').2.2=_
    rw[← Hv.out];conv=>rhs;unfold valL
    rw[T2.out,hok];simp[h40]
   clear Hv T2
   generalize hsv:sVB l'=x at *
   obtain ⟨x1,x2,x3⟩:=x
   simp only at hok hvl Hv2 H3
   subst hok
   have hown3:=Ho3.out
   go_wp2_with (first | (at_builtin;refine wpList_append_own _ rfl _ _ 113 rfl w.heap.size 5 i0 (.int .u8 0) 1 1 Tryz.underlying113 hi hz0 hz1 hz2 rfl (by decide) (.slice (some ⟨g,0,none⟩) acc.length cap) _ _ rfl (hown3.alloc _) ⟨w3.heap.size,0,none⟩ 1 1 [.int .u8 x1.toNat] rfl rfl (cell_one_new _ _ _) (fun x hx=>by simp at hx;subst hx;rfl) (by unfold maxLen;omega) (by omega) (by simp;omega) ?_;intro v' w4 hown4 hg4 hnil4))
   go_roundg m
   case measure=>omega
   case rel =>
    obtain ⟨g',cap',hv'⟩:=own_some hown4 (fun e=>by have:=hnil4.1 e;simp at this)
    subst hv'
    refine ⟨acc++[x1],x3,g',cap',by simp,?_,by simp;omega,by omega,Hv2.out,?_,?_⟩
    ·simpa[byt] using hown4
    ·refine At.frm (S:=[g]) ?_ (Frm.of_grown (w:=w3.alloc (.cells #[.int .u8 x1.toNat] 5)) hg4) ?_
     ·exact H3.out.frm (S:=[]) ((Frm.refl _ _).alloc _) (by simp)
     ·have:=(Ho3.out.lt g rfl).1;simp;omega
    ·exact (Hf3.out.alloc _).grown hg4 (fun k hk=>by
      simp[Value.ownBlock]at hk;subst hk;exact Or.inr (Ho3.out.lt g rfl).1)
open Go.RowKit
def numL:List UInt8→Nat→Nat × Bool × List UInt8
 | [],n=>(n,true,[])
 | c::r,n=>if dgB c then (if 99999<n*10+(c.toNat-48) then (0,false,c::r) else numL r (n*10+(c.toNat-48))) else (n,true,c::r)
def sNum(l:List UInt8):Nat × Bool × List UInt8 :=
 if sTake [48] l then (0,true,sRest [48] l) else if !(digB (hd l)) then (0,false,l) else numL l 0
theorem takeNumber_any(b:Nat)(t l:List UInt8)(w:World)(h:At w b t l) :
 Calls Tryz.prog 98 #[.pointer (some ⟨b,0,none⟩)] w fun e w'=>e=.returned (.tuple #[.int .i64 (sNum l).1, .bool (sNum l).2.1])∧At w' b t (sNum l).2.2∧Frm [b] w w':=by
 have H:Hid (At w b t l):=h
 clear h
 go_enter Tryz.func98,Tryz.ntmps98
 go_wp2_with fail
 refine (take_any b t l [48] _ H.out (by simp)).mono ?_
 rintro e w1 ⟨rfl,h1,hf1⟩
 cases ht1:sTake [48] l
 case true =>
  have Hx:Hid (sNum l=(0,true,sRest [48] l)):=by
   show sNum l=_;unfold sNum;rw[ht1];rfl
  have H1:Hid (At w1 b t (sRest [48] l)∧Frm [b] w w1):=⟨h1,hf1⟩
  clear h1 hf1
  go_wp2
  go_ret2
  rw[Hx.out]
  exact ⟨rfl,H1.out.1,H1.out.2⟩
 case false =>
 rw[sRest_no ht1]at h1
 have H1:Hid (At w1 b t l):=h1
 have HF1:Hid (Frm [b] w w1):=hf1
 have T1:Hid (sTake [48] l=false):=ht1
 clear h1 hf1 ht1
 go_wp2_with fail
 refine (peek_any b t l _ H1.out).mono ?_
 rintro e w' ⟨rfl,n,rfl⟩
 cases hd0:digB (hd l)
 case false =>
  have Hx:Hid (sNum l=(0,false,l)):=by
   show sNum l=_;unfold sNum;rw[T1.out,hd0];rfl
  go_wp2_with (go_at_call 57;refine (isDigit_any _ _).mono ?_;rintro e w' ⟨rfl,rfl⟩)
  go_ret2
  rw[Hx.out]
  exact ⟨rfl,H1.out.frm (S:=[]) ((Frm.refl _ _).drewN _) (by simp),HF1.out.drewN _⟩
 case true =>
 have Hx:Hid (sNum l=numL l 0):=by
  show sNum l=_;unfold sNum;rw[T1.out,hd0];rfl
 go_wp2_with (go_at_call 57;refine (isDigit_any _ _).mono ?_;rintro e w' ⟨rfl,rfl⟩)
 go_loopg [4] l.length (fun k v wr=>∃ (l':List UInt8) (x:Nat),v=.int .i64 x∧x≤99999∧l'.length≤k∧numL l' x=numL l 0∧At wr b t l'∧Frm [b] w wr)
 case atStart=>exact ⟨l,0,rfl,by omega,Nat.le_refl _,rfl,H1.out.frm (S:=[]) ((Frm.refl _ _).drewN _) (by simp),HF1.out.drewN _⟩
 case round =>
  obtain ⟨l',x,rfl,hx,hlk,hv,⟨i,h5,h6⟩,hfr⟩:=hrel
  have c1:=h5.c1
  have hf:=h5.fz 1
  have hi:=h5.2.1
  have ht:=h5.2.2
  have H5:Hid (SC wr b t i):=h5
  have H6:Hid (List.drop i t=l'):=h6
  have Hv:Hid (numL l' x=numL l 0):=hv
  have Hf:Hid (Frm [b] w wr):=hfr
  clear h5 h6 hv hfr H1 HF1 hd0
  cases l' with
  | nil =>
    have hn:digB (hd [])=false:=rfl
    have h0:hd []=0:=rfl
    have Hx2:Hid (sNum l=(x,true,[])):=by show sNum l=_;rw[Hx.out,← Hv.out];rfl
    go_wp2_with (first | (go_at_call 89;refine (peek_any _ _ _ _ ⟨i,H5.out,H6.out⟩).mono ?_;rintro e w' ⟨rfl,n,rfl⟩)|(go_at_call 57;refine (isDigit_any _ _).mono ?_;rintro e w' ⟨rfl,rfl⟩))
    go_ret2
    rw[Hx2.out]
    exact ⟨rfl,⟨i,H5.out.drewN _,H6.out⟩,Hf.out.drewN _⟩
  | cons c r =>
    have hc:=hd_cons c r
    have hu:=u8i c
    have hil:i<t.length:=at_len H6.out
    cases hdd:digB (c.toNat:Int)
    case false =>
     have Hx2:Hid (sNum l=(x,true,c::r)):=by
      show sNum l=_;rw[Hx.out,← Hv.out];unfold numL;simp[dgB,hdd]
     go_wp2_with (first | (go_at_call 89;refine (peek_any _ _ _ _ ⟨i,H5.out,H6.out⟩).mono ?_;rintro e w' ⟨rfl,n,rfl⟩)|(go_at_call 57;refine (isDigit_any _ _).mono ?_;rintro e w' ⟨rfl,rfl⟩))
     go_ret2
     rw[Hx2.out]
     exact ⟨rfl,⟨i,H5.out.drewN _,H6.out⟩,Hf.out.drewN _⟩
    case true =>
     have hb:48≤(c.toNat:Int)∧(c.toNat:Int)≤57:=by simpa[digB] using hdd
     obtain ⟨hb1,hb2⟩:=hb
     have hun:numL (c::r) x=(if 99999<x*10+(c.toNat-48) then (0,false,c::r) else numL r (x*10+(c.toNat-48))):=by
      conv=>lhs;unfold numL
      simp[dgB,hdd]
     have Hun:Hid (numL (c::r) x=(if 99999<x*10+(c.toNat-48) then (0,false,c::r) else numL r (x*10+(c.toNat-48)))):=hun
     clear hun
     simp only[List.length_cons]at hlk
     by_cases hbig:99999<x*10+(c.toNat-48)
     ·have Hx2:Hid (sNum l=(0,false,c::r)):=by
       show sNum l=_;rw[Hx.out,← Hv.out,Hun.out,if_pos hbig]
      have hbi:(99999:Int)<(x:Int)*10+((c.toNat:Int)-48):=by omega
      go_wp2_with (first | (go_at_call 89;refine (peek_any b t (c::r) _ (At.frm (S:=[]) ⟨i,H5.out,H6.out⟩ (by first | exact Frm.refl _ _|exact (Frm.refl _ _).drewN _) (by simp))).mono ?_;rintro e w' ⟨rfl,n,rfl⟩)|(go_at_call 57;refine (isDigit_any _ _).mono ?_;rintro e w' ⟨rfl,rfl⟩))
      go_ret2
      rw[Hx2.out]
      exact ⟨rfl,⟨i,H5.out.drewN _,H6.out⟩,Hf.out.drewN _⟩
     ·have Hv2:Hid (numL r (x*10+(c.toNat-48))=numL l 0):=by
       show numL r _=_;rw[← Hv.out,Hun.out,if_neg hbig]
      have hbi:(x:Int)*10+((c.toNat:Int)-48)≤99999:=by omega
      go_wp2_with (first | (go_at_call 89;refine (peek_any b t (c::r) _ (At.frm (S:=[]) ⟨i,H5.out,H6.out⟩ (by first | exact Frm.refl _ _|exact (Frm.refl _ _).drewN _) (by simp))).mono ?_;rintro e w' ⟨rfl,n,rfl⟩)|(go_at_call 57;refine (isDigit_any _ _).mono ?_;rintro e w' ⟨rfl,rfl⟩))
      go_roundg (gk-1)
      case measure=>omega
      case rel =>
       refine ⟨r,x*10+(c.toNat-48),?_,by omega,by omega,Hv2.out,at_set (l:=r) (H5.out.drewN _) H6.out,(Hf.out.drewN _).setCell (by simp) _⟩
       congr 1;omega
open Go.RowKit
def sKind(l:List UInt8):Nat × Bool × List UInt8 :=
 if sTake [61,126] l then (2,true,sRest [61,126] l)
 else if sTake [33,126] l then (3,true,sRest [33,126] l)
 else if sTake [33,61] l then (1,true,sRest [33,61] l)
 else (0,sTake [61] l,sRest [61] l)
theorem takeKind_any(b:Nat)(t l:List UInt8)(w:World)(h:At w b t l) :
 Calls Tryz.prog 99 #[.pointer (some ⟨b,0,none⟩)] w fun e w'=>e=.returned (.tuple #[.int .i64 (sKind l).1, .bool (sKind l).2.1])∧At w' b t (sKind l).2.2∧Frm [b] w w':=by
 have H:Hid (At w b t l):=h
 clear h
 go_enter Tryz.func99,Tryz.ntmps99
 go_wp2_with fail
 refine (take_any b t l [61,126] _ H.out (by simp)).mono ?_
 rintro e w1 ⟨rfl,h1,hf1⟩
 cases ht1:sTake [61,126] l
 case true =>
  have Hx:Hid (sKind l=(2,true,sRest [61,126] l)):=by
   show sKind l=_;unfold sKind;rw[ht1];rfl
  have H1:Hid (At w1 b t (sRest [61,126] l)∧Frm [b] w w1):=⟨h1,hf1⟩
  clear h1 hf1
  go_wp2
  go_ret2
  rw[Hx.out]
  exact ⟨rfl,H1.out.1,H1.out.2⟩
 case false =>
 rw[sRest_no ht1]at h1
 have H1:Hid (At w1 b t l):=h1
 have HF1:Hid (Frm [b] w w1):=hf1
 have T1:Hid (sTake [61,126] l=false):=ht1
 clear h1 hf1
 go_wp2_with fail
 refine (take_any b t l [33,126] _ H1.out (by simp)).mono ?_
 rintro e w2 ⟨rfl,h2,hf2⟩
 have HF2:Hid (Frm [b] w w2):=HF1.out.trans hf2
 clear hf2 ht1
 cases ht2:sTake [33,126] l
 case true =>
  have Hx:Hid (sKind l=(3,true,sRest [33,126] l)):=by
   show sKind l=_;unfold sKind;rw[T1.out,ht2];rfl
  have H2:Hid (At w2 b t (sRest [33,126] l)):=h2
  clear h2
  go_wp2
  go_ret2
  rw[Hx.out]
  exact ⟨rfl,H2.out,HF2.out⟩
 case false =>
 rw[sRest_no ht2]at h2
 have H2:Hid (At w2 b t l):=h2
 have T2:Hid (sTake [33,126] l=false):=ht2
 clear h2
 go_wp2_with fail
 refine (take_any b t l [33,61] _ H2.out (by simp)).mono ?_
 rintro e w3 ⟨rfl,h3,hf3⟩
 have HF3:Hid (Frm [b] w w3):=HF2.out.trans hf3
 clear hf3 ht2
 cases ht3:sTake [33,61] l
 case true =>
  have Hx:Hid (sKind l=(1,true,sRest [33,61] l)):=by
   show sKind l=_;unfold sKind;rw[T1.out,T2.out,ht3];rfl
  have H3:Hid (At w3 b t (sRest [33,61] l)):=h3
  clear h3
  go_wp2
  go_ret2
  rw[Hx.out]
  exact ⟨rfl,H3.out,HF3.out⟩
 case false =>
 rw[sRest_no ht3]at h3
 have T3:Hid (sTake [33,61] l=false):=ht3
 have H3:Hid (At w3 b t l):=h3
 clear h3 ht3
 go_wp2_with fail
 refine (take_any b t l [61] _ H3.out (by simp)).mono ?_
 rintro e w4 ⟨rfl,h4,hf4⟩
 have HF4:Hid (Frm [b] w w4):=HF3.out.trans hf4
 have Hx:Hid (sKind l=(0,sTake [61] l,sRest [61] l)):=by
  show sKind l=_;unfold sKind;rw[T1.out,T2.out,T3.out];rfl
 have H4:Hid (At w4 b t (sRest [61] l)):=h4
 clear h4 hf4
 go_wp2
 go_ret2
 rw[Hx.out]
 exact ⟨rfl,H4.out,HF4.out⟩
def sTime(wd l:List UInt8):Int × Bool × List UInt8 :=
 if sTake wd l then (((sNum (sRest wd l)).1:Int),(sNum (sRest wd l)).2.1,(sNum (sRest wd l)).2.2) else (-1,true,l)
theorem takeTime_any(b:Nat)(t l wd:List UInt8)(w:World)(h:At w b t l)(hw:wd.length≤1048576) :
 Calls Tryz.prog 92 #[.pointer (some ⟨b,0,none⟩), .string (bs wd)] w fun e w'=>e=.returned (.tuple #[.int .i64 (sTime wd l).1, .bool (sTime wd l).2.1])∧At w' b t (sTime wd l).2.2∧Frm [b] w w':=by
 have H:Hid (At w b t l):=h
 clear h
 go_enter Tryz.func92,Tryz.ntmps92
 go_wp2_with fail
 refine (take_any b t l wd _ H.out hw).mono ?_
 rintro e w1 ⟨rfl,h1,hf1⟩
 cases ht1:sTake wd l
 case false =>
  have Hx:Hid (sTime wd l=(-1,true,l)):=by
   show sTime wd l=_;unfold sTime;rw[ht1];rfl
  rw[sRest_no ht1]at h1
  have H1:Hid (At w1 b t l∧Frm [b] w w1):=⟨h1,hf1⟩
  clear h1 hf1
  go_wp2
  go_ret2
  rw[Hx.out]
  exact ⟨rfl,H1.out.1,H1.out.2⟩
 case true =>
 have Hx:Hid (sTime wd l=(((sNum (sRest wd l)).1:Int),(sNum (sRest wd l)).2.1,(sNum (sRest wd l)).2.2)):=by
  show sTime wd l=_;unfold sTime;rw[ht1];rfl
 have H1:Hid (At w1 b t (sRest wd l)∧Frm [b] w w1):=⟨h1,hf1⟩
 clear h1 hf1
 go_wp2_with fail
 refine (takeNumber_any b t _ _ H1.out.1).mono ?_
 rintro e w2 ⟨rfl,h2,hf2⟩
 have H2:Hid (At w2 b t (sNum (sRest wd l)).2.2∧Frm [b] w w2):=⟨h2,H1.out.2.trans hf2⟩
 clear h2 hf2
 go_wp2
 go_ret2
 rw[Hx.out]
 exact ⟨rfl,H2.out.1,H2.out.2⟩
abbrev CM:=List UInt8 × Nat × List UInt8
def sMat(l:List UInt8):CM × Bool × List UInt8 :=
 let n:=l.takeWhile nmB
 let l1:=l.dropWhile nmB
 let k:=sKind l1
 let v:=sVal k.2.2
 ((n,k.1,v.1),isNameL n&&k.2.1&&v.2.1,v.2.2)
def matV(m:CM):Value:=.agg #[.string (bs m.1), .int .i64 m.2.1, .string (bs m.2.2)]
theorem takeMatcher_any(b:Nat)(t l:List UInt8)(w:World)(h:At w b t l) :
 Calls Tryz.prog 93 #[.pointer (some ⟨b,0,none⟩)] w fun e w'=>e=.returned (.tuple #[matV (sMat l).1, .bool (sMat l).2.1])∧At w' b t (sMat l).2.2∧Frm [b] w w':=by
 have hb:=h.lt
 have H:Hid (At w b t l):=h
 clear h
 go_enter Tryz.func93,Tryz.ntmps93
 go_wp2_with fail
 refine (takeName_any b t l _ (H.out.frm (S:=[]) ((Frm.refl _ _).alloc _) (by simp))).mono ?_
 rintro e w1 ⟨rfl,h1,hf1⟩
 have H1:Hid (At w1 b t (l.dropWhile nmB)):=h1
 clear h1
 go_wp2_with fail
 refine (takeKind_any b t _ _ H1.out).mono ?_
 rintro e w2 ⟨rfl,h2,hf2⟩
 have hf12:=hf1.trans hf2
 clear hf1 hf2
 go_wp2_with fail
 refine (takeValue_any b t _ _ h2).mono ?_
 rintro e w3 ⟨rfl,h3,hf3⟩
 have hf:=hf12.trans hf3
 clear hf12 hf3 h2
 have hO:=(hf.block w.heap.size (by simp) (by simp;omega)).trans (heap_alloc_new w _)
 have hz:=hf.size
 have HF:Hid (Frm [b] w w3):=((Frm.refl [b] w).alloc _).trans hf
 have H3:Hid (At w3 b t (sMat l).2.2):=h3
 clear hf h3
 have ca:w3.cell? ⟨w.heap.size,0,none⟩=some (.string ⟨#[]⟩):=by simp[World.cell?,hO]
 have cb:w3.cell? ⟨w.heap.size,1,none⟩=some (.int .i64 0):=by simp[World.cell?,hO]
 have cc:w3.cell? ⟨w.heap.size,2,none⟩=some (.string ⟨#[]⟩):=by simp[World.cell?,hO]
 have q0:∀ o,w3.frozen? ⟨w.heap.size,o,none⟩=false:=by intro o;simp[World.frozen?,hO]
 have hz':w.heap.size<w3.heap.size:=by simp at hz;omega
 have Hm:Hid (sMat l=((l.takeWhile nmB,(sKind (l.dropWhile nmB)).1,(sVal (sKind (l.dropWhile nmB)).2.2).1),isNameL (l.takeWhile nmB)&&(sKind (l.dropWhile nmB)).2.1&&(sVal (sKind (l.dropWhile nmB)).2.2).2.1,(sVal (sKind (l.dropWhile nmB)).2.2).2.2)):=rfl
 clear hO hz
 generalize sVal (sKind (l.dropWhile nmB)).2.2=sv at *
 generalize sKind (l.dropWhile nmB)=sk at *
 generalize l.takeWhile nmB=nm at *
 obtain ⟨v1,v2,v3⟩:=sv
 obtain ⟨k1,k2,k3⟩:=sk
 cases hn:isNameL nm<;>cases k2
 all_goals
  go_wp2
  refine bodyPost_ret (v:=.tuple #[matV (nm,k1,v1), .bool _]) (by simp[results,Tryz.results93,go_sem,matV,ca,cb,cc,hz']<;>rfl) rfl ?_
  rw[Hm.out]
  refine ⟨by simp[hn],?_,?_⟩
  ·rw[Hm.out]at H3
   exact H3.out.frm (S:=[w.heap.size]) (((((Frm.refl _ _).setCell (by simp) _).setCell (by simp) _).setCell (by simp) _).alloc _) (by simp;omega)
  ·exact (((HF.out.setCell (by simp) _).setCell (by simp) _).setCell (by simp) _).alloc _
open Go.RowKit
theorem has_any(v:Value)(L:List (List UInt8))(n:List UInt8)(w:World)(h:RS 0 w v L) :
 Calls Tryz.prog 38 #[v, .string (bs n)] w fun e w'=>e=.returned (.bool (L.contains n))∧w=w':=by
 obtain ⟨a,cap,rfl,h1,h2,h3⟩:=h
 have H3:Hid (∀ j (h:j<L.length),∃ g off,a=some ⟨g,off,none⟩∧0≤g∧w.cell? ⟨g,off+j,none⟩=some (.string (bs L[j]))):=h3
 clear h3
 have hl:=bs_toList
 go_enter Tryz.func38,Tryz.ntmps38
 go_wp2
 go_loopg [9] L.length (fun k i wr=>∃ j,j+k=L.length∧i=.int .i64 j∧wr=w∧(L.take j).contains n=false)
 case atStart=>exact ⟨0,by omega,rfl,rfl,by simp⟩
 case round =>
  obtain ⟨j,hj,rfl,hw,hal⟩:=hrel
  subst hw
  have Hal:Hid ((L.take j).contains n=false):=hal
  clear hal
  by_cases hlt:j<L.length
  ·obtain ⟨g,off,rfl,_,hc⟩:=H3.out j hlt
   cases he:(L[j]==n)
   ·have Hal2:Hid ((L.take (j+1)).contains n=false):=by
     show (L.take (j+1)).contains n=false
     have hal:=Hal.out
     rw[List.take_succ_eq_append_getElem hlt]
     simp only[List.contains_eq_mem,decide_eq_false_iff_not,List.mem_append,List.mem_singleton]at hal ⊢
     intro h;rcases h with h|h
     ·exact hal h
     ·rw[h]at he;simp at he
    go_wp2
    go_roundg (gk-1)
    case measure=>omega
    case rel=>exact ⟨j+1,by omega,by go_num,rfl,Hal2.out⟩
   ·have hg:Hid (L.contains n=true):=by
     show L.contains n=true
     rw[List.contains_eq_mem,decide_eq_true_iff,← beq_iff_eq.1 he]
     exact List.getElem_mem _
    go_wp2
    go_ret
    exact ⟨ret_bool hg.out.symm,rfl⟩
  ·have hg:Hid (L.contains n=false):=by
    have:=Hal.out;rw[List.take_of_length_le (by omega)]at this;exact this
   go_wp2
   go_ret
   exact ⟨ret_bool hg.out.symm,rfl⟩
open Go.RowKit
def wnGo(n:List UInt8):List (List UInt8)→List (List UInt8) × Bool→List (List UInt8) × Bool
 | [],s=>s
 | x::r,s=>wnGo n r (if !s.2&&Op.bytesLess n x then (s.1++[n]++[x],true) else (s.1++[x],s.2))
def withN(L:List (List UInt8))(n:List UInt8):List (List UInt8) :=
 if (wnGo n L ([],false)).2 then (wnGo n L ([],false)).1 else (wnGo n L ([],false)).1++[n]
theorem withName_any(v:Value)(L:List (List UInt8))(n:List UInt8)(w:World)(h:RS 0 w v L)(hL:L.length≤1000) :
 Calls Tryz.prog 97 #[v, .string (bs n)] w fun e w'=>∃ v',e=.returned v'∧SL w.heap.size w' v' (withN L n)∧Frm [] w w':=by
 obtain ⟨a,cap,rfl,h1,h2,h3⟩:=h
 have H3:Hid (∀ j (h:j<L.length),∃ g off,a=some ⟨g,off,none⟩∧0≤g∧w.cell? ⟨g,off+j,none⟩=some (.string (bs L[j]))):=h3
 clear h3
 have hl:=bs_toList
 go_enter Tryz.func97,Tryz.ntmps97
 go_wp2
 go_loopg [5,6,12] L.length (fun k v p i wr=>∃ (j:Nat) (acc:List (List UInt8)) (pb:Bool) (g cap:Nat),j+k=L.length∧i=.int .i64 j∧p=.bool pb∧v=.slice (some ⟨g,0,none⟩) acc.length cap∧SL w.heap.size wr v acc∧w.heap.size≤g∧acc.length≤j+pb.toNat∧wnGo n (L.drop j) (acc,pb)=wnGo n L ([],false)∧Frm [] w wr)
 case atStart=>exact ⟨0,[],false,_,_,by omega,rfl,rfl,rfl,World.ownsRow_lit _ #[] 0 (Nat.le_refl _) (by unfold maxLen;omega) (by simp),Nat.le_refl _,by simp,by simp,(Frm.refl _ _).alloc _⟩
 case round =>
  obtain ⟨j,acc,pb,g,cap',hj,rfl,rfl,rfl,hsl,hg,hac,hwn,hfr⟩:=hrel
  have hz:=hfr.size
  have hpn:pb.toNat≤1:=Bool.toNat_le pb
  have Hs:Hid (SL w.heap.size wr (.slice (some ⟨g,0,none⟩) acc.length cap') acc):=hsl
  have Hw:Hid (wnGo n (L.drop j) (acc,pb)=wnGo n L ([],false)):=hwn
  have Hf:Hid (Frm [] w wr):=hfr
  clear hsl hwn hfr
  by_cases hlt:j<L.length
  ·obtain ⟨g0,off,rfl,_,hc0⟩:=H3.out j hlt
   have hc:wr.cell? ⟨g0,off+j,none⟩=some (.string (bs L[j])):=by
    rw[Hf.out.cell (World.block_lt_of_cell? w _ hc0) (by simp)];exact hc0
   clear hc0
   have Hd:Hid (L.drop j=L[j]::L.drop (j+1)):=(List.drop_eq_getElem_cons hlt)
   generalize L[j]=x at *
   cases hbl:(!pb&&Op.bytesLess n x)
   ·have Hw2:Hid (wnGo n (L.drop (j+1)) (acc++[x],pb)=wnGo n L ([],false)):=by
     show wnGo n (L.drop (j+1)) (acc++[x],pb)=_
     rw[← Hw.out,Hd.out];conv=>rhs;unfold wnGo
     simp only[hbl];rfl
    clear Hw Hd
    have hbl2:pb=true∨(pb=false∧Op.bytesLess n x=false):=by
     cases pb<;>simp_all
    clear hbl
    rcases hbl2 with rfl|⟨rfl,hbl⟩
    all_goals
     go_wp2_with (first | (at_builtin;refine wp_appS _ rfl _ _ rfl w.heap.size (.slice (some ⟨g,0,none⟩) acc.length cap') acc x wr.heap.size rfl (Hs.out.frm (S:=[]) ((Frm.refl _ _).alloc _) (by simp)) rfl (by simp) (by omega) (by simp;omega) ?_;intro g2 cap2 w2 hs2 hg2 hb2))
     go_roundg (gk-1)
     case measure=>omega
     case rel =>
      refine ⟨j+1,acc++[x],_,g2,cap2,by omega,by go_num,rfl,by simp,by simpa using hs2,hb2,by simp at hac ⊢;omega,Hw2.out,?_⟩
      exact (Hf.out.alloc _).grown1 (base:=0) hg2 (fun k hk=>by simp[Value.ownBlock]at hk;omega)
   ·have hpb:pb=false:=by cases pb<;>simp_all
    have hbb:Op.bytesLess n x=true:=by cases pb<;>simp_all
    subst hpb
    have Hw2:Hid (wnGo n (L.drop (j+1)) (acc++[n]++[x],true)=wnGo n L ([],false)):=by
     show wnGo n (L.drop (j+1)) (acc++[n]++[x],true)=_
     rw[← Hw.out,Hd.out];conv=>rhs;unfold wnGo
     simp only[hbl];rfl
    clear Hw Hd hbl
    go_wp2_with (first | (at_builtin;refine wp_appS _ rfl _ _ rfl w.heap.size (.slice (some ⟨g2,0,none⟩) (acc.length+1) cap2) (acc++[n]) x w2.heap.size rfl (hs2.frm (S:=[]) ((Frm.refl _ _).alloc _) (by simp)) rfl (by simp) (by simp;omega) (by simp;omega) ?_;intro g3 cap3 w3 hs3 hg3 hb3)|(at_builtin;refine wp_appS _ rfl _ _ rfl w.heap.size (.slice (some ⟨g,0,none⟩) acc.length cap') acc n wr.heap.size rfl (Hs.out.frm (S:=[]) ((Frm.refl _ _).alloc _) (by simp)) rfl (by simp) (by omega) (by simp;omega) ?_;intro g2 cap2 w2 hs2 hg2 hb2;have hz2:=hg2.size;simp at hz2))
    go_roundg (gk-1)
    case measure=>omega
    case rel =>
     refine ⟨j+1,acc++[n]++[x],_,g3,cap3,by omega,by go_num,rfl,by simp,by simpa using hs3,hb3,by simp at hac ⊢;omega,Hw2.out,?_⟩
     exact (((Hf.out.alloc _).grown1 (base:=0) hg2 (fun k hk=>by simp[Value.ownBlock]at hk;omega)).alloc _).grown1 (base:=0) hg3 (fun k hk=>by simp[Value.ownBlock]at hk;omega)
  ·have Hw2:Hid (wnGo n L ([],false)=(acc,pb)):=by
    show wnGo n L ([],false)=_
    rw[← Hw.out,List.drop_eq_nil_of_le (by omega)];rfl
   clear Hw
   cases pb
   ·have Hx:Hid (withN L n=acc++[n]):=by
     show withN L n=_;unfold withN;rw[Hw2.out];rfl
    go_wp2_with (first | (at_builtin;refine wp_appS _ rfl _ _ rfl w.heap.size (.slice (some ⟨g,0,none⟩) acc.length cap') acc n wr.heap.size rfl (Hs.out.frm (S:=[]) ((Frm.refl _ _).alloc _) (by simp)) rfl (by simp) (by omega) (by simp;omega) ?_;intro g2 cap2 w2 hs2 hg2 hb2;have hz2:=hg2.size;simp at hz2))
    go_ret
    rw[Hx.out]
    exact ⟨_,rfl,hs2,(Hf.out.alloc _).grown1 (base:=0) hg2 (fun k hk=>by simp[Value.ownBlock]at hk;omega)⟩
   ·have Hx:Hid (withN L n=acc):=by
     show withN L n=_;unfold withN;rw[Hw2.out];rfl
    go_wp2
    go_ret
    rw[Hx.out]
    exact ⟨_,rfl,Hs.out,Hf.out⟩
end Go.Proofs.YtjkialjoamgbgaaGreat
