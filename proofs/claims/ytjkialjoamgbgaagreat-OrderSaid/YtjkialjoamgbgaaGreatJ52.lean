import Derived.Test.YtjkialjoamgbgaaGreatJ12
import Derived.Test.YtjkialjoamgbgaaGreatJ51
import Derived.Test.YtjkialjoamgbgaaGreatJ29
import Derived.Test.YtjkialjoamgbgaaGreatJ28
import Derived.Test.YtjkialjoamgbgaaGreatJ49
set_option linter.unusedVariables false
set_option linter.unusedSimpArgs false
set_option linter.unnecessarySimpa false
set_option maxRecDepth 100000
set_option maxHeartbeats 8000000
namespace Go.Proofs.YtjkialjoamgbgaaGreat
open Go.RowKit
theorem khas_any(s t:List UInt8)(w:World)(hs:s.length≤100000)(ht:t.length≤100000) :
 Calls Tryz.prog 15 #[.string (bs s), .string (bs t)] w fun e w'=>w=w'∧∃ b:Bool,e=.returned (.bool b)∧(b=false→¬ t <:+: s):=by
 have hsz:=bs_size
 have hx:=bs_extract
 have hl:=bs_toList
 go_enter Tryz.func15,Tryz.ntmps15
 go_wp2_with fail
 go_loopg [5] (s.length+1) (fun k vi wr=>∃ j:Nat,j+k=s.length+1∧vi=.int .i64 j∧wr=w∧Hid (∀ i,i<j→(s.take (i+t.length)).drop i≠t∨s.length<i+t.length))
 case atStart=>exact ⟨0,by omega,rfl,rfl,fun i hi=>by omega⟩
 case round =>
  obtain ⟨j,hjk,rfl,hw,HI⟩:=hrel
  subst hw
  by_cases hlt:j+t.length≤s.length
  ·have hd:decide ((j:Int)+(t.length:Int)≤(s.length:Int))=true:=decide_eq_true (by omega)
   have hd':decide (j+t.length≤s.length)=true:=decide_eq_true hlt
   have HY:Hid ((s.take (j+t.length)).drop j≠t→∀ i,i<j+1→(s.take (i+t.length)).drop i≠t∨s.length<i+t.length):=fun h i hi=>by
    by_cases e:i=j
    ·subst e;exact .inl h
    ·exact HI.out i (by omega)
   clear HI
   generalize hy:(s.take (j+t.length)).drop j=y at *
   cases hb:(y==t)
   ·have HN:=hide (HY.out (by rw[beq_eq_false_iff_ne]at hb;exact hb))
    clear HY
    go_wp2
    go_roundg (gk-1)
    case measure=>omega
    case rel=>exact ⟨j+1,by omega,by go_num,rfl,HN.out⟩
   ·clear HY
    go_wp2
    go_ret
    exact ⟨rfl,true,rfl,fun h=>by cases h⟩
  ·have hd:decide ((j:Int)+(t.length:Int)≤(s.length:Int))=false:=decide_eq_false (by omega)
   have hd':decide (j+t.length≤s.length)=false:=decide_eq_false hlt
   have HZ:Hid (¬ t <:+: s):=by
    rintro ⟨a,b,rfl⟩
    simp only[List.length_append]at hlt
    rcases HI.out a.length (by omega) with h|h
    ·apply h
     rw[List.take_append_of_le_length (by simp),List.take_of_length_le (by simp),List.drop_append_of_le_length (by simp),List.drop_length,List.nil_append]
    ·simp at h;omega
   clear HI
   go_wp2
   go_ret
   exact ⟨rfl,false,rfl,fun _=>HZ.out⟩
open Go.RowKit
theorem sRest_suf(wd l:List UInt8):sRest wd l <:+ l:=by
 unfold sRest
 split
 ·exact List.drop_suffix _ _
 ·exact List.suffix_refl _
theorem hexD_suf(l:List UInt8):(sHexD l).2.2 <:+ l:=by
 unfold sHexD
 split
 ·exact List.suffix_refl _
 ·split
  ·exact List.suffix_cons _ _
  ·split
   ·exact List.suffix_cons _ _
   ·exact List.suffix_refl _
theorem hexB_suf(l:List UInt8):(sHexB l).2.2 <:+ l:=(hexD_suf _).trans (hexD_suf l)
theorem sVB_suf(l:List UInt8):(sVB l).2.2 <:+ l:=by
 unfold sVB
 split
 ·exact sRest_suf _ _
 ·split
  ·exact sRest_suf _ _
  ·split
   ·exact (hexB_suf _).trans (sRest_suf _ _)
   ·split
    ·exact List.suffix_refl _
    ·split
     ·exact List.suffix_refl _
     ·exact List.suffix_cons _ _
theorem valL_suf:∀ (n:Nat) (acc l:List UInt8),(valL n acc l).2.2 <:+ l
 | 0,acc,l=>List.suffix_refl _
 | n+1,acc,l=>by
   rw[valL]
   split
   ·exact sRest_suf _ _
   ·split
    ·exact sVB_suf l
    ·exact (valL_suf n _ _).trans (sVB_suf l)
theorem sVal_suf(l:List UInt8):(sVal l).2.2 <:+ l:=by
 unfold sVal
 split
 ·exact (valL_suf _ _ _).trans (sRest_suf _ _)
 ·exact List.suffix_refl _
theorem sKind_suf(l:List UInt8):(sKind l).2.2 <:+ l:=by
 unfold sKind
 split
 ·exact sRest_suf _ _
 ·split
  ·exact sRest_suf _ _
  ·split
   ·exact sRest_suf _ _
   ·exact sRest_suf _ _
theorem sMat_suf(l:List UInt8):(sMat l).2.2 <:+ l∧(sMat l).1.1 <:+: l :=
 ⟨((sVal_suf _).trans (sKind_suf _)).trans (List.dropWhile_suffix _),(List.takeWhile_prefix _).isInfix⟩
theorem matL_in:∀ (k:Nat) (acc:List CM) (l:List UInt8),∀ m∈(matL k acc l).1,m∈acc∨m.1 <:+: l
 | 0,acc,l,m,h=>.inl h
 | k+1,acc,l,m,h=>by
   rw[matL]at h
   split at h
   ·dsimp only at h
    obtain ⟨h1,h2⟩:=sMat_suf (sRest kIf l)
    have hs:=sRest_suf kIf l
    split at h
    ·exact .inl h
    ·rcases matL_in k _ _ m h with h3|h3
     ·rcases List.mem_append.1 h3 with h4|h4
      ·exact .inl h4
      ·rw[List.mem_singleton.1 h4]
       exact .inr (h2.trans hs.isInfix)
     ·exact .inr (h3.trans (h1.trans hs).isInfix)
   ·exact .inl h
theorem numL_suf:∀ (l:List UInt8) (n:Nat),(numL l n).2.2 <:+ l
 | [],n=>List.suffix_refl _
 | c::r,n=>by
   rw[numL]
   split
   ·split
    ·exact List.suffix_refl _
    ·exact (numL_suf r _).trans (List.suffix_cons _ _)
   ·exact List.suffix_refl _
theorem sNum_suf(l:List UInt8):(sNum l).2.2 <:+ l:=by
 unfold sNum
 split
 ·exact sRest_suf _ _
 ·split
  ·exact List.suffix_refl _
  ·exact numL_suf l 0
theorem sTime_suf(wd l:List UInt8):(sTime wd l).2.2 <:+ l:=by
 unfold sTime
 split
 ·exact (sNum_suf _).trans (sRest_suf _ _)
 ·exact List.suffix_refl _
theorem sTimes_suf(l:List UInt8):(sTimes l).rest <:+ l:=((sTime_suf _ _).trans (sTime_suf _ _)).trans (sTime_suf _ _)
theorem labL_suf:∀ (k:Nat) (acc:List (List UInt8)) (l:List UInt8),(labL k acc l).2.2 <:+ l
 | 0,acc,l=>List.suffix_refl _
 | k+1,acc,l=>by
   rw[labL]
   split
   ·exact List.suffix_refl _
   ·dsimp only
    have h1:(if acc.isEmpty then l else sRest [44] l) <:+ l:=by
     split
     ·exact List.suffix_refl _
     ·exact sRest_suf _ _
    generalize (if acc.isEmpty then l else sRest [44] l)=l1 at *
    split
    ·exact (List.dropWhile_suffix _).trans h1
    ·exact ((labL_suf k _ _).trans (List.dropWhile_suffix _)).trans h1
theorem sBy_suf(l:List UInt8):(sBy l).rest <:+ l:=by
 unfold sBy
 split
 ·dsimp only
  split
  ·exact (sRest_suf _ _).trans (sRest_suf _ _)
  ·exact (labL_suf _ _ _).trans (sRest_suf _ _)
 ·exact List.suffix_refl _
theorem sRecv_suf(l:List UInt8):(sRecv l).2.2 <:+ l:=by
 unfold sRecv
 split
 ·exact sRest_suf _ _
 ·exact List.dropWhile_suffix _
theorem sDepth_suf(l:List UInt8):(sDepth l).2 <:+ l:=by
 induction l with
 | nil=>exact List.suffix_refl _
 | cons c r ih =>
   rw[sDepth]
   split
   ·exact ih.trans (List.suffix_cons _ _)
   ·exact List.suffix_refl _
theorem route_names{x:List UInt8}{c:CR}(h:sRoute x=some c):∀ m∈c.ifs,m.1 <:+: x:=by
 obtain ⟨_,_,_,_,_,_,rfl⟩:=sRoute_some _ _ h
 intro m hm
 have h1:(srC x).rest <:+ x:=((((sTimes_suf _).trans (sBy_suf _)).trans (sRecv_suf _)).trans (sRest_suf _ _)).trans (sDepth_suf x)
 rcases matL_in 6 [] (srC x).rest m hm with h|h
 ·simp at h
 ·exact h.trans h1.isInfix
theorem text_names{t:List UInt8}{Ln:List (List UInt8)}{C:List CR}(h:cRead1 t=.ok (Ln,C)):∀ c∈C,∀ m∈c.ifs,m.1 <:+: t:=by
 obtain ⟨hfl,l0,ls,e1,_,e3⟩:=(cRead1_lines t Ln C).1 h
 intro c hc m hm
 obtain ⟨l,hl,hr⟩:=mapM_mem rtL ls C e3 c hc
 have h1:m.1 <:+: l.dropLast:=route_names hr m hm
 have h2:l.dropLast <:+: l:=(List.dropLast_prefix l).isInfix
 have h3:l <:+: t:=by
  have:l∈lnsK t:=by rw[e1];exact List.mem_cons_of_mem _ hl
  obtain ⟨A,B,hAB⟩:=List.append_of_mem this
  rw[← hfl,hAB]
  exact ⟨A.flatten,B.flatten,by simp⟩
 exact (h1.trans h2).trans h3
theorem sentH_congr{H H':Nat→Bool}{C:List CR}(h:∀ c,H c=H' c):sentH H C=sentH H' C:=by rw[show H=H' from funext h]
theorem hitsC_congr{C:List CR}{V V':List UInt8→List UInt8}(h:∀ c∈C,∀ m∈c.ifs,V m.1=V' m.1):hitsC C V=hitsC C V':=by
 unfold hitsC
 rw[sentH_congr (H:=hold autC V C) (H':=hold autC V' C)]
 intro c
 unfold hold
 cases hc:C[c]? with
 | none=>rfl
 | some x =>
   simp only
   have hx:=List.mem_of_getElem? hc
   rw[Bool.eq_iff_iff,List.all_eq_true,List.all_eq_true]
   have key:∀ m∈x.ifs,mHolds autC V m=mHolds autC V' m:=fun m hm=>by unfold mHolds;rw[h x hx m hm]
   constructor
   ·intro h1 m hm;rw[← key m hm];exact h1 m hm
   ·intro h1 m hm;rw[key m hm];exact h1 m hm
open Go.RowKit
theorem ksameHits_eq(w:World)(v1 v2:Value)(hs:List HitM)(h1:HRS w v1 hs)(h2:HRS w v2 hs)(hlen:hs.length≤1000)(hbl:∀ x∈hs,x.bl.length≤1000) :
 Calls Tryz.prog 14 #[v1,v2] w fun e w'=>e=.returned (.bool true)∧∃ q,w'=w.drewN q:=by
 obtain ⟨a1,c1,rfl,hc1,r1⟩:=h1
 obtain ⟨a2,c2,rfl,hc2,r2⟩:=h2
 have R1:=hide r1
 have R2:=hide r2
 have HBL:=hide hbl
 have hl:=bs_toList
 clear r1 r2 hbl
 go_enter Tryz.func14,Tryz.ntmps14
 go_wp2_with fail
 go_loopg [5] hs.length (fun k v5 wr=>∃ j q:Nat,j+k=hs.length∧v5=.int .i64 j∧wr=w.drewN q)
 case atStart=>exact ⟨0,0,by omega,rfl,rfl⟩
 case round =>
  obtain ⟨j,q,hjk,rfl,hw⟩:=hrel
  obtain ⟨K0,hK0⟩:∃ K0,K0=gk:=⟨_,rfl⟩
  subst hw
  by_cases hlt:j<hs.length
  ·have hd1:decide ((j:Int)<(hs.length:Int))=true:=decide_eq_true (by omega)
   obtain ⟨g1,o1,vb1,rfl,p⟩:=R1.out j hlt
   obtain ⟨g2,o2,vb2,rfl,p'⟩:=R2.out j hlt
   have hb:=HBL.out hs[j] (List.getElem_mem hlt)
   generalize hs[j]=x at *
   have p0:=p.c0
   have p1:=p.c1
   have p2:=p.c2
   have p3:=p.c3
   have p4:=p.c4
   have q0:=p'.c0
   have q1:=p'.c1
   have q2:=p'.c2
   have q3:=p'.c3
   have q4:=p'.c4
   obtain ⟨b1,d1,rfl,s1⟩:=p.r.str
   obtain ⟨b2,d2,rfl,s2⟩:=p'.r.str
   have S1:=hide s1
   have S2:=hide s2
   clear p p' s1 s2
   go_wp2_with fail
   go_quiet (fail)
   go_wp2_with fail
   go_loopg [8] x.bl.length (fun k v8 wr=>∃ i q:Nat,i+k=x.bl.length∧v8=.int .i64 i∧wr=w.drewN q)
   case atStart=>exact ⟨0,q+nq,by omega,rfl,by simp[World.drewN_drewN]⟩
   case round =>
    obtain ⟨i,q',hik,rfl,hw⟩:=hrel
    subst hw
    by_cases hil:i<x.bl.length
    ·have hd2:decide ((i:Int)<(x.bl.length:Int))=true:=decide_eq_true (by omega)
     obtain ⟨gb1,ob1,rfl,hgb1,u1⟩:=S1.out i hil
     obtain ⟨gb2,ob2,rfl,hgb2,u2⟩:=S2.out i hil
     generalize x.bl[i]=y at *
     go_wp2_with fail
     go_quiet (fail)
     go_wp2
     go_roundg (gk-1)
     case measure=>omega
     case rel=>exact ⟨i+1,_,by omega,by go_num,rfl⟩
    ·have hd2:decide ((i:Int)<(x.bl.length:Int))=false:=decide_eq_false (by omega)
     go_wp2
     go_roundg (K0-1)
     case measure=>omega
     case rel=>exact ⟨j+1,_,by omega,by go_num,rfl⟩
  ·have hd1:decide ((j:Int)<(hs.length:Int))=false:=decide_eq_false (by omega)
   go_wp2
   go_ret
   exact ⟨rfl,q,rfl⟩
open Go.RowKit
theorem ksame_eq(w:World)(p1 p2:Nat)(V1 V2:V6)(m1 m2:Mach)(h1:PR [] w p1 V1 m1)(h2:PR [] w p2 V2 m2)(ok1:MOK m1)(ok2:MOK m2)(a:Option Addr)(k cap:Nat)(L:List LBL)(hL:LR w (.slice a k cap) L)(hv:LV L)(hcap:L.length≤cap)
 (he:hitsA m1 L=hitsA m2 L) (hlen:(hitsA m1 L).length≤1000) (hbl:∀ x∈hitsA m1 L,x.bl.length≤1000) :
 Calls Tryz.prog 12 #[.pointer (some ⟨p1,0,none⟩), .pointer (some ⟨p2,0,none⟩), .slice a k cap] w fun e w'=>e=.returned (.bool true)∧Frm [] w w':=by
 have N1:=hide (route_any w p1 V1 m1 h1 ok1 a k cap L hL hv hcap)
 have N2:Hid (∀ W,Frm [] w W→Calls Tryz.prog 13 #[.pointer (some ⟨p2,0,none⟩), .slice a k cap] W (ROQ m2 L W)):=fun W f=>route_any W p2 V2 m2 (h2.frm f (by simp)) ok2 a k cap L (hL.frm f (by simp)) hv hcap
 have HE:=hide he
 have HBL:=hide hbl
 have HLN:=hide hlen
 clear h1 h2 ok1 ok2 hL hv he hbl hlen
 go_enter Tryz.func12,Tryz.ntmps12
 go_wp2_with fail
 refine (N1.out).mono ?_
 clear N1
 rintro e w1 ⟨hF,⟨hl,rfl⟩|⟨hl,vh,rfl,hH⟩⟩
 ·have F:=hide hF
  have N3:Hid (Calls Tryz.prog 13 #[.pointer (some ⟨p2,0,none⟩), .slice a k cap] w1 fun e w'=>Frm [] w1 w'∧e=.returned (.tuple #[.slice none 0 0, .int .i64 8])):=by
   refine (N2.out w1 hF).mono ?_
   rintro e w2 ⟨hF2,⟨_,rfl⟩|⟨h,_⟩⟩
   ·exact ⟨hF2,rfl⟩
   ·rw[hl]at h;cases h
  clear hF hl N2
  go_wp2_with fail
  refine (N3.out).mono ?_
  clear N3
  rintro e w2 ⟨hF2,rfl⟩
  have F2:=hide (F.out.trans hF2)
  have N4:=hide (ksameHits_eq w2 _ _ [] (HRS.nil _) (HRS.nil _) (by simp) (by simp))
  clear hF2
  go_wp2_with fail
  refine (N4.out).mono ?_
  clear N4
  rintro e w3 ⟨rfl,q,rfl⟩
  go_wp2
  go_ret
  exact ⟨rfl,F2.out.drewN q⟩
 ·have F:=hide hF
  have HH:=hide hH
  have N3:Hid (Calls Tryz.prog 13 #[.pointer (some ⟨p2,0,none⟩), .slice a k cap] w1 fun e w'=>Frm [] w1 w'∧∃ v,e=.returned (.tuple #[v, .int .i64 0])∧HRS w' v (hitsA m1 L)):=by
   refine (N2.out w1 hF).mono ?_
   rintro e w2 ⟨hF2,⟨h,_⟩|⟨_,v2,rfl,hH2⟩⟩
   ·rw[hl]at h;cases h
   ·exact ⟨hF2,v2,rfl,by rw[HE.out];exact hH2⟩
  obtain ⟨ah,ch,rfl,_,_⟩:=hH
  clear hF hl N2
  go_wp2_with fail
  refine (N3.out).mono ?_
  clear N3
  rintro e w2 ⟨hF2,v2,rfl,hH2⟩
  have F2:=hide (F.out.trans hF2)
  have N4:=hide (ksameHits_eq w2 _ _ _ (HH.out.frm hF2) hH2 HLN.out HBL.out)
  obtain ⟨ah2,ch2,rfl,_,_⟩:=hH2
  clear hF2
  go_wp2_with fail
  refine (N4.out).mono ?_
  clear N4
  rintro e w3 ⟨rfl,q,rfl⟩
  go_wp2
  go_ret
  exact ⟨rfl,F2.out.drewN q⟩
open Go.RowKit
theorem kgood_any(w:World)(pb:Nat)(V:V6)(m:Mach)(h:PR [] w pb V m)(ok:MOK m)(a:Option Addr)(k cap:Nat)(L:List LBL)(hL:LR w (.slice a k cap) L)(hv:LV L)(hcap:L.length≤cap) :
 Calls Tryz.prog 10 #[.pointer (some ⟨pb,0,none⟩), .slice a k cap] w fun e w'=>e=.returned (.bool (labsOK L))∧Frm [] w w':=by
 have N1:=hide (route_any w pb V m h ok a k cap L hL hv hcap)
 clear h ok hL hv
 go_enter Tryz.func10,Tryz.ntmps10
 go_wp2_with fail
 refine (N1.out).mono ?_
 clear N1
 rintro e w1 ⟨hF,⟨hl,rfl⟩|⟨hl,vh,rfl,hH⟩⟩
 ·have F:=hide hF
  have HL:=hide hl
  clear hF hl
  go_wp2
  go_ret
  exact ⟨by rw[HL.out];rfl,F.out⟩
 ·have F:=hide hF
  have HL:=hide hl
  obtain ⟨ah,ch,rfl,_,_⟩:=hH
  clear hF hl
  go_wp2
  go_ret
  exact ⟨by rw[HL.out];rfl,F.out⟩
open Go.RowKit
def knT0:List UInt8:=[114,101,99,101,105,118,101,114,115,32,114,32,97,32,98,32,99,32,100,10,114,111,117,116,101,32,114,10,32,114,111,117,116,101,32,97,32,105,102,32,120,61,34,49,34,10,32,32,114,111,117,116,101,32,98,32,105,102,32,121,61,34,49,34,32,99,111,110,116,105,110,117,101,10,32,32,114,111,117,116,101,32,99,32,105,102,32,121,61,126,34,49,124,50,34,10,32,114,111,117,116,101,32,100,32,105,102,32,120,33,61,34,34,32,99,111,110,116,105,110,117,101,10,32,114,111,117,116,101,32,45,32,119,97,105,116,32,49,32,105,102,32,120,61,126,34,91,49,51,93,34,10]
def knT1:List UInt8:=[114,101,99,101,105,118,101,114,115,32,114,32,97,10,114,111,117,116,101,32,114,32,98,121,32,108,32,119,97,105,116,32,49,10,32,114,111,117,116,101,32,45,32,119,97,105,116,32,50,10,32,32,114,111,117,116,101,32,97,32,98,121,32,45,32,101,118,101,114,121,32,51,10,32,32,32,114,111,117,116,101,32,45,32,114,101,112,101,97,116,32,52,32,105,102,32,107,61,34,34,10]
def knT2:List UInt8:=[114,101,99,101,105,118,101,114,115,32,114,32,97,10,114,111,117,116,101,32,114,32,98,121,32,108,10,32,114,111,117,116,101,32,97,32,105,102,32,115,61,126,34,40,97,124,98,41,42,97,98,98,34,10]
def knT3:List UInt8:=[114,101,99,101,105,118,101,114,115,32,114,32,97,10,114,111,117,116,101,32,114,10,32,114,111,117,116,101,32,97,32,105,102,32,115,61,126,34,92,92,46,91,94,120,45,122,93,123,50,44,51,125,92,120,48,48,63,34,10]
def knT4:List UInt8:=[114,101,99,101,105,118,101,114,115,32,114,32,97,10,114,111,117,116,101,32,114,10,32,114,111,117,116,101,32,97,32,105,102,32,115,61,126,34,46,46,34,10]
def knT5:List UInt8:=[114,101,99,101,105,118,101,114,115,32,114,32,97,32,98,10,114,111,117,116,101,32,114,10,32,114,111,117,116,101,32,45,10,32,32,114,111,117,116,101,32,45,10,32,32,32,114,111,117,116,101,32,97,10,32,32,32,114,111,117,116,101,32,98,10,32,32,114,111,117,116,101,32,98,10]
def knT6:List UInt8:=[114,101,99,101,105,118,101,114,115,32,114,32,97,32,98,10,114,111,117,116,101,32,114,10,32,114,111,117,116,101,32,45,10,32,32,114,111,117,116,101,32,45,32,99,111,110,116,105,110,117,101,10,32,32,32,114,111,117,116,101,32,97,32,99,111,110,116,105,110,117,101,10,32,32,32,32,114,111,117,116,101,32,45,10,32,32,32,114,111,117,116,101,32,98,10,32,32,114,111,117,116,101,32,98,10]
def knT7:List UInt8:=[114,101,99,101,105,118,101,114,115,32,114,32,97,10,114,111,117,116,101,32,114,10,32,114,111,117,116,101,32,97,32,105,102,32,115,33,126,34,34,32,105,102,32,115,33,61,34,113,34,10]
def knD:List (List UInt8 × List LBL × List UInt8):=[
 (knT0,[],[114,32,51,48,32,51,48,48,32,49,52,52,48,48,59]),
 (knT0,[([120],[49])],[97,32,51,48,32,51,48,48,32,49,52,52,48,48,59]),
 (knT0,[([120],[49]),([121],[49])],[98,32,51,48,32,51,48,48,32,49,52,52,48,48,59,99,32,51,48,32,51,48,48,32,49,52,52,48,48,59]),
 (knT0,[([121],[50]),([120],[49])],[99,32,51,48,32,51,48,48,32,49,52,52,48,48,59]),
 (knT0,[([120],[50])],[100,32,51,48,32,51,48,48,32,49,52,52,48,48,59]),
 (knT0,[([120],[51])],[100,32,51,48,32,51,48,48,32,49,52,52,48,48,59,114,32,49,32,51,48,48,32,49,52,52,48,48,59]),
 (knT0,[([121],[49])],[114,32,51,48,32,51,48,48,32,49,52,52,48,48,59]),
 (knT1,[],[97,32,50,32,51,32,52,59]),
 (knT1,[([107],[118])],[97,32,50,32,51,32,49,52,52,48,48,59]),
 (knT2,[([115],[97,98,97,98,98])],[97,32,108,32,51,48,32,51,48,48,32,49,52,52,48,48,59]),
 (knT2,[([115],[97,98,98,97])],[114,32,108,32,51,48,32,51,48,48,32,49,52,52,48,48,59]),
 (knT3,[([115],[46,97,98,0])],[97,32,51,48,32,51,48,48,32,49,52,52,48,48,59]),
 (knT4,[([115],[10,255])],[97,32,51,48,32,51,48,48,32,49,52,52,48,48,59]),
 (knT5,[],[97,32,51,48,32,51,48,48,32,49,52,52,48,48,59]),
 (knT6,[],[97,32,51,48,32,51,48,48,32,49,52,52,48,48,59,98,32,51,48,32,51,48,48,32,49,52,52,48,48,59,98,32,51,48,32,51,48,48,32,49,52,52,48,48,59]),
 (knT7,[([115],[113])],[114,32,51,48,32,51,48,48,32,49,52,52,48,48,59])]
theorem allocs_at:∀ (os:List Obj) (w:World) (i:Nat) (o:Obj),os[i]?=some o→(os.foldl World.alloc w).heap[w.heap.size+i]?=some o
 | [],_,i,o,h=>by simp at h
 | x::r,w,0,o,h=>by
   simp only[List.getElem?_cons_zero,Option.some.injEq]at h
   subst h
   have keep:∀ (os:List Obj) (w:World) (k:Nat) (o:Obj),w.heap[k]?=some o→(os.foldl World.alloc w).heap[k]?=some o:=by
    intro os
    induction os with
    | nil=>intro w k o h;exact h
    | cons y s ih =>
      intro w k o h
      refine ih _ k o ?_
      rw[((Frm.refl [] w).alloc y).block k (Array.getElem?_eq_some_iff.1 h).1 (by simp)]
      exact h
   exact keep r _ _ _ (heap_alloc_new w x)
 | x::r,w,i+1,o,h=>by
   have:=allocs_at r (w.alloc x) i o (by simpa using h)
   rw[show (w.alloc x).heap.size=w.heap.size+1 by simp]at this
   rw[show w.heap.size+(i+1)=w.heap.size+1+i by omega]
   exact this
theorem allocs_frm:∀ (os:List Obj) (w:World),Frm [] w (os.foldl World.alloc w)
 | [],w=>Frm.refl _ _
 | x::r,w=>((Frm.refl [] w).alloc x).trans (allocs_frm r (w.alloc x))
def KN(w:World)(g:Nat):Prop:=∀ k x,knD[k]?=some x→∃ a cap,w.cell? ⟨g,k*3,none⟩=some (.string (bs x.1))∧w.cell? ⟨g,k*3+1,none⟩=some (.slice a x.2.1.length cap)∧LR w (.slice a x.2.1.length cap) x.2.1∧x.2.1.length≤cap∧w.cell? ⟨g,k*3+2,none⟩=some (.string (bs x.2.2))
def knOs(b:Nat):List Obj:=[
 .cells #[.string (bs [120]), .string (bs [49])] 28,
 .cells #[.string (bs [120]), .string (bs [49]), .string (bs [121]), .string (bs [49])] 28,
 .cells #[.string (bs [121]), .string (bs [50]), .string (bs [120]), .string (bs [49])] 28,
 .cells #[.string (bs [120]), .string (bs [50])] 28,
 .cells #[.string (bs [120]), .string (bs [51])] 28,
 .cells #[.string (bs [121]), .string (bs [49])] 28,
 .cells #[.string (bs [107]), .string (bs [118])] 28,
 .cells #[.string (bs [115]), .string (bs [97,98,97,98,98])] 28,
 .cells #[.string (bs [115]), .string (bs [97,98,98,97])] 28,
 .cells #[.string (bs [115]), .string (bs [46,97,98,0])] 28,
 .cells #[.string (bs [115]), .string (bs [10,255])] 28,
 .cells #[.string (bs [115]), .string (bs [113])] 28,
 .cells #[.string (bs knT0), .slice none 0 0, .string (bs [114,32,51,48,32,51,48,48,32,49,52,52,48,48,59]),
  .string (bs knT0), .slice (some ⟨b+0,0,none⟩) 1 1, .string (bs [97,32,51,48,32,51,48,48,32,49,52,52,48,48,59]),
  .string (bs knT0), .slice (some ⟨b+1,0,none⟩) 2 2, .string (bs [98,32,51,48,32,51,48,48,32,49,52,52,48,48,59,99,32,51,48,32,51,48,48,32,49,52,52,48,48,59]),
  .string (bs knT0), .slice (some ⟨b+2,0,none⟩) 2 2, .string (bs [99,32,51,48,32,51,48,48,32,49,52,52,48,48,59]),
  .string (bs knT0), .slice (some ⟨b+3,0,none⟩) 1 1, .string (bs [100,32,51,48,32,51,48,48,32,49,52,52,48,48,59]),
  .string (bs knT0), .slice (some ⟨b+4,0,none⟩) 1 1, .string (bs [100,32,51,48,32,51,48,48,32,49,52,52,48,48,59,114,32,49,32,51,48,48,32,49,52,52,48,48,59]),
  .string (bs knT0), .slice (some ⟨b+5,0,none⟩) 1 1, .string (bs [114,32,51,48,32,51,48,48,32,49,52,52,48,48,59]),
  .string (bs knT1), .slice none 0 0, .string (bs [97,32,50,32,51,32,52,59]),
  .string (bs knT1), .slice (some ⟨b+6,0,none⟩) 1 1, .string (bs [97,32,50,32,51,32,49,52,52,48,48,59]),
  .string (bs knT2), .slice (some ⟨b+7,0,none⟩) 1 1, .string (bs [97,32,108,32,51,48,32,51,48,48,32,49,52,52,48,48,59]),
  .string (bs knT2), .slice (some ⟨b+8,0,none⟩) 1 1, .string (bs [114,32,108,32,51,48,32,51,48,48,32,49,52,52,48,48,59]),
  .string (bs knT3), .slice (some ⟨b+9,0,none⟩) 1 1, .string (bs [97,32,51,48,32,51,48,48,32,49,52,52,48,48,59]),
  .string (bs knT4), .slice (some ⟨b+10,0,none⟩) 1 1, .string (bs [97,32,51,48,32,51,48,48,32,49,52,52,48,48,59]),
  .string (bs knT5), .slice none 0 0, .string (bs [97,32,51,48,32,51,48,48,32,49,52,52,48,48,59]),
  .string (bs knT6), .slice none 0 0, .string (bs [97,32,51,48,32,51,48,48,32,49,52,52,48,48,59,98,32,51,48,32,51,48,48,32,49,52,52,48,48,59,98,32,51,48,32,51,48,48,32,49,52,52,48,48,59]),
  .string (bs knT7), .slice (some ⟨b+11,0,none⟩) 1 1, .string (bs [114,32,51,48,32,51,48,48,32,49,52,52,48,48,59])] 38]
theorem knowns_raw(w:World) :
 Calls Tryz.prog 8 #[] w fun e w'=>w'=(knOs w.heap.size).foldl World.alloc w∧e=.returned (.slice (some ⟨w.heap.size+12,0,none⟩) 16 16):=by
 go_enter Tryz.func8,Tryz.ntmps8
 go_wp2
 go_ret
 exact ⟨rfl,rfl⟩
theorem kn_lr{w:World}{b:Nat}{L:List LBL}{ty:TypeId}(h:w.heap[b]?=some (.cells (L.flatMap fun x=>[.string (bs x.1), .string (bs x.2)]).toArray ty (0,0)))(hL:L.length≤1048576):LR w (.slice (some ⟨b,0,none⟩) L.length L.length) L:=by
 refine ⟨_,L.length,rfl,hL,fun j hj=>⟨b,0,rfl,(Array.getElem?_eq_some_iff.1 h).1,?_,?_⟩⟩
 ·have:∀ (L:List LBL) (j:Nat) (hj:j<L.length),(L.flatMap fun x=>[Value.string (bs x.1), .string (bs x.2)])[j*2]?=some (.string (bs L[j].1)):=by
   intro L
   induction L with
   | nil=>intro j hj;simp at hj
   | cons x r ih =>
     intro j hj
     cases j with
     | zero=>rfl
     | succ j =>
       rw[show (j+1)*2=j*2+1+1 by omega]
       simpa using ih j (by simpa using hj)
  simp[World.cell?,h,this L j hj]
 ·have:∀ (L:List LBL) (j:Nat) (hj:j<L.length),(L.flatMap fun x=>[Value.string (bs x.1), .string (bs x.2)])[j*2+1]?=some (.string (bs L[j].2)):=by
   intro L
   induction L with
   | nil=>intro j hj;simp at hj
   | cons x r ih =>
     intro j hj
     cases j with
     | zero=>rfl
     | succ j =>
       rw[show (j+1)*2+1=(j*2+1)+1+1 by omega]
       simpa using ih j (by simpa using hj)
  simp[World.cell?,h,this L j hj]
theorem knowns_any(w:World) :
 Calls Tryz.prog 8 #[] w fun e w'=>Frm [] w w'∧∃ g,e=.returned (.slice (some ⟨g,0,none⟩) 16 16)∧g<w'.heap.size∧KN w' g:=by
 refine (knowns_raw w).mono ?_
 rintro e w' ⟨rfl,rfl⟩
 have at':=fun i o h=>allocs_at (knOs w.heap.size) w i o h
 refine ⟨allocs_frm _ _,_,rfl,?_,?_⟩
 ·exact (Array.getElem?_eq_some_iff.1 (at' 12 _ rfl)).1
 ·have hB:=at' 12 _ rfl
  have h0:=at' 0 _ rfl
  have h1:=at' 1 _ rfl
  have h2:=at' 2 _ rfl
  have h3:=at' 3 _ rfl
  have h4:=at' 4 _ rfl
  have h5:=at' 5 _ rfl
  have h6:=at' 6 _ rfl
  have h7:=at' 7 _ rfl
  have h8:=at' 8 _ rfl
  have h9:=at' 9 _ rfl
  have h10:=at' 10 _ rfl
  have h11:=at' 11 _ rfl
  generalize (knOs w.heap.size).foldl World.alloc w=W at *
  intro k x hk
  match k,hk with
  | 0,hk=>cases hk;exact ⟨none,0,by simp[World.cell?,hB],by simp[World.cell?,hB],⟨none,0,rfl,by simp,fun j hj=>absurd hj (by simp)⟩,Nat.le_refl _,by simp[World.cell?,hB]⟩
  | 1,hk=>cases hk;exact ⟨_,1,by simp[World.cell?,hB],by simp[World.cell?,hB],kn_lr h0 (by simp),Nat.le_refl _,by simp[World.cell?,hB]⟩
  | 2,hk=>cases hk;exact ⟨_,2,by simp[World.cell?,hB],by simp[World.cell?,hB],kn_lr h1 (by simp),Nat.le_refl _,by simp[World.cell?,hB]⟩
  | 3,hk=>cases hk;exact ⟨_,2,by simp[World.cell?,hB],by simp[World.cell?,hB],kn_lr h2 (by simp),Nat.le_refl _,by simp[World.cell?,hB]⟩
  | 4,hk=>cases hk;exact ⟨_,1,by simp[World.cell?,hB],by simp[World.cell?,hB],kn_lr h3 (by simp),Nat.le_refl _,by simp[World.cell?,hB]⟩
  | 5,hk=>cases hk;exact ⟨_,1,by simp[World.cell?,hB],by simp[World.cell?,hB],kn_lr h4 (by simp),Nat.le_refl _,by simp[World.cell?,hB]⟩
  | 6,hk=>cases hk;exact ⟨_,1,by simp[World.cell?,hB],by simp[World.cell?,hB],kn_lr h5 (by simp),Nat.le_refl _,by simp[World.cell?,hB]⟩
  | 7,hk=>cases hk;exact ⟨none,0,by simp[World.cell?,hB],by simp[World.cell?,hB],⟨none,0,rfl,by simp,fun j hj=>absurd hj (by simp)⟩,Nat.le_refl _,by simp[World.cell?,hB]⟩
  | 8,hk=>cases hk;exact ⟨_,1,by simp[World.cell?,hB],by simp[World.cell?,hB],kn_lr h6 (by simp),Nat.le_refl _,by simp[World.cell?,hB]⟩
  | 9,hk=>cases hk;exact ⟨_,1,by simp[World.cell?,hB],by simp[World.cell?,hB],kn_lr h7 (by simp),Nat.le_refl _,by simp[World.cell?,hB]⟩
  | 10,hk=>cases hk;exact ⟨_,1,by simp[World.cell?,hB],by simp[World.cell?,hB],kn_lr h8 (by simp),Nat.le_refl _,by simp[World.cell?,hB]⟩
  | 11,hk=>cases hk;exact ⟨_,1,by simp[World.cell?,hB],by simp[World.cell?,hB],kn_lr h9 (by simp),Nat.le_refl _,by simp[World.cell?,hB]⟩
  | 12,hk=>cases hk;exact ⟨_,1,by simp[World.cell?,hB],by simp[World.cell?,hB],kn_lr h10 (by simp),Nat.le_refl _,by simp[World.cell?,hB]⟩
  | 13,hk=>cases hk;exact ⟨none,0,by simp[World.cell?,hB],by simp[World.cell?,hB],⟨none,0,rfl,by simp,fun j hj=>absurd hj (by simp)⟩,Nat.le_refl _,by simp[World.cell?,hB]⟩
  | 14,hk=>cases hk;exact ⟨none,0,by simp[World.cell?,hB],by simp[World.cell?,hB],⟨none,0,rfl,by simp,fun j hj=>absurd hj (by simp)⟩,Nat.le_refl _,by simp[World.cell?,hB]⟩
  | 15,hk=>cases hk;exact ⟨_,1,by simp[World.cell?,hB],by simp[World.cell?,hB],kn_lr h11 (by simp),Nat.le_refl _,by simp[World.cell?,hB]⟩
  | k+16,hk=>simp[knD]at hk
open Go.RowKit
def szL:Nat→List LBL→Nat
 | n,[]=>n
 | n,x::r=>if n≤16384 then szL (n+x.1.length+x.2.length) r else n
theorem szL_le:∀ (L:List LBL) (n:Nat),n≤szL n L
 | [],n=>Nat.le_refl _
 | x::r,n=>by
   unfold szL
   split
   ·have:=szL_le r (n+x.1.length+x.2.length)
    omega
   ·exact Nat.le_refl _
theorem szL_all:∀ (L:List LBL) (n:Nat),szL n L≤16384→∀ x∈L,x.1.length≤16384∧x.2.length≤16384
 | [],n,_=>by simp
 | y::r,n,h=>by
   have hn:=Nat.le_trans (szL_le (y::r) n) h
   unfold szL at h
   rw[if_pos hn]at h
   have h2:=szL_le r (n+y.1.length+y.2.length)
   intro x hx
   rcases List.mem_cons.1 hx with rfl|hx
   ·omega
   ·exact szL_all r _ h x hx
def LQ(w:World)(a:Option Addr)(L:List LBL):Prop :=
 ∀ (j:Nat) (h:j<L.length),∃ g off,a=some ⟨g,off,none⟩∧g<w.heap.size∧w.cell? ⟨g,off+j*2,none⟩=some (.string (bs L[j].1))∧w.cell? ⟨g,off+j*2+1,none⟩=some (.string (bs L[j].2))
theorem LQ.lr{w:World}{a:Option Addr}{L:List LBL}(h:LQ w a L)(cap:Nat)(hl:L.length≤1048576):LR w (.slice a L.length cap) L:=⟨a,cap,rfl,hl,h⟩
theorem LQ.frm{w w':World}{a:Option Addr}{L:List LBL}(h:LQ w a L)(f:Frm [] w w'):LQ w' a L:=by
 intro j hj
 obtain ⟨g,off,rfl,h2,h3,h4⟩:=h j hj
 exact ⟨g,off,rfl,Nat.lt_of_lt_of_le h2 f.size,(f.cell (p:=⟨g,off+j*2,none⟩) h2 (by simp)).trans h3,(f.cell (p:=⟨g,off+j*2+1,none⟩) h2 (by simp)).trans h4⟩
open Go.RowKit
def pickN(c:Int)(n:Nat):Nat:=((if c<0 then -(c+1) else c) % n).toNat
theorem pickN_lt(c:Int)(n:Nat)(hn:0<n):pickN c n<n:=by
 unfold pickN
 have:=Int.emod_lt_of_pos (if c<0 then -(c+1) else c) (show (0:Int)<n by omega)
 have:=Int.emod_nonneg (if c<0 then -(c+1) else c) (show (n:Int)≠0 by omega)
 omega
theorem kpick_any(c:Int)(n:Nat)(hn:0<n)(hn2:n≤1048576)(w:World)(h0:-9223372036854775808≤c)(h1:c≤9223372036854775807) :
 Calls Tryz.prog 9 #[.int .i64 c, .int .i64 n] w fun e w'=>e=.returned (.int .i64 (pickN c n:Nat))∧w=w':=by
 have hne:((n:Int)==0)=false:=by rw[beq_eq_false_iff_ne];omega
 have hne1:(n:Int)≠0:=by omega
 by_cases hc:c<0
 ·have hd:decide (c<0)=true:=decide_eq_true hc
  have Hx:Hid ((pickN c n:Int)=Int.tmod (-(c+1)) n):=by
   show _=_;unfold pickN;rw[if_pos hc,Int.tmod_eq_emod_of_nonneg (by omega)]
   have:=Int.emod_nonneg (-(c+1)) hne1
   omega
  have hb1:=Int.tmod_lt_of_pos (-(c+1)) (show (0:Int)<n by omega)
  have hb2:0≤Int.tmod (-(c+1)) n:=Int.tmod_nonneg _ (by omega)
  go_enter Tryz.func9,Tryz.ntmps9
  go_wp2
  go_ret
  refine ⟨ret_int ?_,rfl⟩
  rw[Hx.out]
  try rw[Int.neg_tmod]
 ·have hd:decide (c<0)=false:=decide_eq_false hc
  have Hx:Hid ((pickN c n:Int)=Int.tmod c n):=by
   show _=_;unfold pickN;rw[if_neg hc,Int.tmod_eq_emod_of_nonneg (by omega)]
   have:=Int.emod_nonneg c hne1
   omega
  have hb1:=Int.tmod_lt_of_pos c (show (0:Int)<n by omega)
  have hb2:0≤Int.tmod c n:=Int.tmod_nonneg _ (by omega)
  go_enter Tryz.func9,Tryz.ntmps9
  go_wp2
  go_ret
  refine ⟨ret_int ?_,rfl⟩
  rw[Hx.out]
  exact (Int.tmod_eq_emod_of_nonneg (by omega)).symm
theorem kn_all:∀ x∈knD,cRes reC x.1=(0,0):=by
 intro x hx
 have:knD.all (fun x=>cRes reC x.1==(0,0))=true:=by decide +kernel
 have:=List.all_eq_true.1 this x hx
 simpa using this
theorem kn_len:∀ x∈knD,x.1.length≤1048576:=by
 intro x hx
 have:knD.all (fun x=>decide (x.1.length≤1048576))=true:=by decide +kernel
 have:=List.all_eq_true.1 this x hx
 simpa using this
theorem stands_any(c:Int)(w:World)(h0:-9223372036854775808≤c)(h1:c≤9223372036854775807) :
 Calls Tryz.prog 5 #[.int .i64 c] w fun e w'=>e=.returned (.bool true)∧Frm [] w w':=by
 have N1:=hide (knowns_any w)
 have NP:Hid (∀ W,Calls Tryz.prog 9 #[.int .i64 c, .int .i64 16] W fun e w'=>e=.returned (.int .i64 (pickN c 16:Nat))∧W=w'):=fun W=>kpick_any c 16 (by omega) (by omega) W h0 h1
 have hk:=pickN_lt c 16 (by omega)
 obtain ⟨x,hx⟩:∃ x,knD[pickN c 16]?=some x:=⟨_,List.getElem?_eq_getElem (show pickN c 16<knD.length from hk)⟩
 have HXm:=hide (List.mem_of_getElem? hx)
 have HX:=hide hx
 clear hx
 go_enter Tryz.func5,Tryz.ntmps5
 go_wp2_with fail
 refine (N1.out).mono ?_
 clear N1
 rintro e w1 ⟨hF,g,rfl,hg,hKN⟩
 have F:=hide hF
 obtain ⟨a,cap,c0,_,_,_,_⟩:=hKN _ _ HX.out
 have HC:=hide (compile_any x.1 w1 (kn_len x HXm.out))
 clear hF hKN HX
 generalize pickN c 16=k at *
 have hd1:decide ((k:Int)<0)=false:=decide_eq_false (by omega)
 have hd2:decide ((k:Int)<16)=true:=decide_eq_true (by omega)
 go_wp2_with fail
 refine (NP.out _).mono ?_
 clear NP
 rintro e w2 ⟨rfl,rfl⟩
 go_wp2_with fail
 refine (HC.out).mono ?_
 clear HC
 rintro e w3 ⟨hF3,⟨h1,rfl⟩|⟨Ln,C,s,V,pb,h1,h2,h3,rfl,h4,h5,h6⟩⟩
 ·rw[kn_all x HXm.out]at h1;exact absurd rfl h1
 ·have F3:=hide (F.out.trans hF3)
  clear hF3 h1 h2 h3 h4 h5
  go_wp2
  go_ret
  exact ⟨rfl,F3.out⟩
end Go.Proofs.YtjkialjoamgbgaaGreat
