import Derived.Test.YtpcbbbilmpobaaaGreatDoorJ33
set_option linter.unusedVariables false
set_option linter.unusedSimpArgs false
set_option linter.unnecessarySimpa false
set_option maxRecDepth 100000
set_option maxHeartbeats 2000000
namespace Go.Proofs.YtpcbbbilmpobaaaGreatDoor
open Go.RowKit
def PlC(x:RX):Prop:=∀ (A:Nat→Prop) (w:World) (p:Nat),XR A w p x→digx x→tlx x≤100 →
 Calls Tryz.prog 104 #[.pointer (some ⟨p,0,none⟩)] w fun e w'=>e=.returned (.int .i64 (plcG x))∧w=w'
theorem XB.c0{w:World}{eb s:Nat}(h:XB w eb s):w.cell? ⟨eb,0,none⟩=some (.int .i64 0):=by unfold XB at h;simp[World.cell?,h]
theorem XN.c0{w:World}{eb:Nat}{k:Int}{v:Value}(h:XN w eb k v):w.cell? ⟨eb,0,none⟩=some (.int .i64 k):=by unfold XN at h;simp[World.cell?,h]
theorem XW.c0{w:World}{eb q:Nat}{lo hi:Int}(h:XW w eb q lo hi):w.cell? ⟨eb,0,none⟩=some (.int .i64 3):=by unfold XW at h;simp[World.cell?,h]
theorem XW.c6{w:World}{eb q:Nat}{lo hi:Int}(h:XW w eb q lo hi):w.cell? ⟨eb,6,none⟩=some (.pointer (some ⟨q,0,none⟩)):=by unfold XW at h;simp[World.cell?,h]
theorem XW.c7{w:World}{eb q:Nat}{lo hi:Int}(h:XW w eb q lo hi):w.cell? ⟨eb,7,none⟩=some (.int .i64 lo):=by unfold XW at h;simp[World.cell?,h]
theorem XW.c8{w:World}{eb q:Nat}{lo hi:Int}(h:XW w eb q lo hi):w.cell? ⟨eb,8,none⟩=some (.int .i64 hi):=by unfold XW at h;simp[World.cell?,h]
theorem XRs.get{A:Nat→Prop}{w:World}:∀ {ps:List Nat} {l:List RX},XRs A w ps l→∀ (j:Nat) (hj:j<l.length),∃ p,ps[j]?=some p∧XR A w p l[j]
 | [],[],_,j,hj=>by simp at hj
 | p::ps,x::l,h,j,hj=>by
   simp only[XRs]at h;cases j with
   | zero=>exact ⟨p,rfl,h.1⟩
   | succ j =>
     obtain ⟨q,h1,h2⟩:=XRs.get h.2 j (by simpa using hj);exact ⟨q,by simpa using h1,by simpa using h2⟩
 | [],_::_,h,_,_=>by simp only[XRs]at h
 | _::_,[],h,_,_=>by simp only[XRs]at h
theorem XV.cell{A:Nat→Prop}{w:World}{ps:List Nat}{g n cap:Nat}(h:XV A w (.slice (some ⟨g,0,none⟩) n cap) ps){j p:Nat}(hj:ps[j]?=some p):w.cell? ⟨g,j,none⟩=some (.pointer (some ⟨p,0,none⟩)):=by
 have h3:=World.ownsRow.cells h.1 (g:=g) rfl j (.pointer (some ⟨p,0,none⟩)) (by simp[pv,hj]);rw[add0]at h3;exact h3
theorem plcGL_take(l:List RX)(j:Nat)(hj:j<l.length):plcGL (l.take (j+1))=plcGL (l.take j)+plcG l[j]:=by
 have app:∀ (a b:List RX),plcGL (a++b)=plcGL a+plcGL b:=by
  intro a b
  induction a with
  | nil=>simp[plcGL]
  | cons x a ih=>simp only[List.cons_append,plcGL,ih];omega
 rw[List.take_succ_eq_append_getElem hj,app];simp[plcGL]
theorem digL_mem:∀ {l:List RX} {e:RX},digL l→e∈l→digx e
 | x::r,e,h,he=>by
   rcases List.mem_cons.1 he with h1|h1
   ·rw[h1];exact h.1
   ·exact digL_mem h.2 h1
theorem plcGL_le_take(l:List RX)(hd:digL l)(ht:tlxL l≤100)(j:Nat):plcGL (l.take j)≤40000:=by
 have h1:∀ (l:List RX) (j:Nat),plcGL (l.take j)≤plcGL l:=by
  intro l
  induction l with
  | nil=>intro j;simp[plcGL]
  | cons x r ih =>
    intro j;cases j with
    | zero=>simp[plcGL]
    | succ j=>have:=ih j;simp only[List.take_succ_cons,plcGL];omega
 have h2:=plcGL_le hd;have h3:=h1 l j;omega
theorem places_one(s:Nat):PlC (.one s):=by
 intro A w p h hd ht;simp only[XR]at h;have c0:=h.2.c0;go_enter Tryz.func104,Tryz.ntmps104
 go_wp2;go_ret;exact ⟨rfl,rfl⟩
theorem places_parts(A:Nat→Prop)(w:World)(p:Nat)(kd:Int)(v:Value)(ps:List Nat)(l:List RX)(hkd:kd=1∨kd=2)(hn:XN w p kd v)(hv:XV A w v ps)(hr:XRs A w ps l)(hd:digL l)(ht:tlxL l≤100)(ih:∀ y∈l,PlC y) :
 Calls Tryz.prog 104 #[.pointer (some ⟨p,0,none⟩)] w fun e w'=>e=.returned (.int .i64 (plcGL l))∧w=w':=by
 obtain ⟨a,cap,rfl⟩:=own_shape hv.1;have c0:=hn.c0;have c5:=hn.c5;have hlen:=hr.len;have HV:=hide hv;have HR:=hide hr;have HD:=hide hd;have HT:=hide ht;have HI:=hide ih;have k0:(kd==0)=false:=beq_eq_false_iff_ne.2 (by omega);have k3:(kd==3)=false:=beq_eq_false_iff_ne.2 (by omega);have HL:Hid (∀ j,plcGL (l.take j)≤40000):=fun j=>plcGL_le_take l hd ht j
 have hps:ps.length≤1048576:=by have:=hv.2.2;omega
 have Hlen:=hide hlen;clear hv hr hd ht ih hn hlen hkd;go_enter Tryz.func104,Tryz.ntmps104
 go_wp2_with fail
 go_loopg [3,21] ps.length (fun k vn vi wr=>∃ (j:Nat),j+k=ps.length∧vi=.int .i64 j∧vn=.int .i64 (plcGL (l.take j))∧wr=w)
 case atStart=>exact ⟨0,by omega,rfl,rfl,rfl⟩
 case round =>
  obtain ⟨j,hj,rfl,rfl,hw⟩:=hrel;subst hw
  by_cases hlt:j<ps.length
  ·have hjl:j<l.length:=by have:=Hlen.out;omega
   obtain ⟨q,hq,hx⟩:=HR.out.get j hjl;obtain ⟨g,rfl⟩:∃ g,a=some ⟨g,0,none⟩:=by
    rcases HV.out.1.2 with ⟨e,h⟩|⟨g,c,cur,e,_⟩
    ·simp at e;omega
    ·simp at e;exact ⟨g,e.1⟩
   have hc:=HV.out.cell hq;have hm:=List.getElem_mem hjl;have Hs:=hide (plcGL_take l j hjl);have hb1:=HL.out j;have hb2:=HL.out (j+1);rw[Hs.out]at hb2;have htl:tlx l[j]≤100:=by have:=(plcL_mem hm).2;have:=HT.out;omega
   have PR:=hide (HI.out _ hm _ _ _ hx (digL_mem HD.out hm) htl);generalize plcG l[j]=m at *;generalize plcGL (l.take j)=n at *;clear hx hm htl hq;go_wp2_with fail
   refine (PR.out).mono ?_;rintro e w2 ⟨rfl,rfl⟩;go_wp2;go_roundg (gk-1)
   case measure=>omega
   case rel=>exact ⟨j+1,by omega,by go_num,by rw[Hs.out];go_num,rfl⟩
  ·have ht:l.take j=l:=List.take_of_length_le (by have:=Hlen.out;omega)
   rw[ht];go_wp2;go_ret;exact ⟨rfl,rfl⟩
theorem places_rep(x:RX)(lo:Nat)(hi:Option Nat)(ih:PlC x):PlC (.rep x lo hi):=by
 intro A w p h hd ht;simp only[XR]at h;obtain ⟨h0,q,h1,h2⟩:=h;have c0:=h1.c0;have c6:=h1.c6;have c7:=h1.c7;have c8:=h1.c8;have hop:=opLen_pos lo hi;simp only[tlx]at ht;have PR:=hide (ih A w q h2 hd.1 (by omega));have hle:=plcG_le hd.1;have hlo:=hd.2.1;have hhi:=hd.2.2;have Hp:Hid (plcG (.rep x lo hi)=if 40<plcG x then plcG x else plcG x*times lo hi):=rfl;clear h1 h2 hd ih;have rp:Calls Tryz.prog 112 #[.pointer (some ⟨p,0,none⟩)] w fun e w'=>e=.returned (.int .i64 (plcG (.rep x lo hi)))∧w=w':=by
  generalize plcG x=n at *
  by_cases h40:40<n
  ·have Hp2:Hid (plcG (.rep x lo hi)=n):=by show _=_;rw[Hp.out,if_pos h40]
   go_enter Tryz.func112,Tryz.ntmps112
   go_wp2_with fail
   refine (PR.out).mono ?_;rintro e w2 ⟨rfl,rfl⟩;go_wp2;go_ret;rw[Hp2.out];exact ⟨rfl,rfl⟩
  ·cases hi with
   | none =>
     have Hp2:Hid (plcG (.rep x lo none)=n*(lo+1)):=by show _=_;rw[Hp.out,if_neg h40];rfl
     have hm:n*(lo+1)≤40*10:=Nat.mul_le_mul (by omega) (by omega);go_enter Tryz.func112,Tryz.ntmps112
     go_wp2_with fail
     refine (PR.out).mono ?_;rintro e w2 ⟨rfl,rfl⟩;simp only[hiZ]at c8;have hm2:(n:Int)*((lo:Int)+1)=((n*(lo+1):Nat):Int):=by simp
     generalize n*(lo+1)=z at *;go_wp2;go_ret;rw[Hp2.out];exact ⟨by first | rfl|(rw[← hm2];rfl),rfl⟩
   | some m =>
     have hm9:=hhi m rfl;have Hp2:Hid (plcG (.rep x lo (some m))=n*m):=by show _=_;rw[Hp.out,if_neg h40];rfl
     have hm:n*m≤40*9:=Nat.mul_le_mul (by omega) (by omega);have hne:((m:Int) == -1)=false:=beq_eq_false_iff_ne.2 (by omega);go_enter Tryz.func112,Tryz.ntmps112
     go_wp2_with fail
     refine (PR.out).mono ?_;rintro e w2 ⟨rfl,rfl⟩;simp only[hiZ]at c8;have hm2:(n:Int)*(m:Int)=((n*m:Nat):Int):=by simp
     generalize n*m=z at *;go_wp2;go_ret;rw[Hp2.out];exact ⟨by first | rfl|(rw[← hm2];rfl),rfl⟩
 have RP:=hide rp;clear rp Hp;go_enter Tryz.func104,Tryz.ntmps104
 go_wp2_with fail
 refine (RP.out).mono ?_;rintro e w2 ⟨rfl,rfl⟩;go_wp2;go_ret;exact ⟨rfl,rfl⟩
theorem places_seq(l:List RX)(ih:∀ y∈l,PlC y):PlC (.seq l):=by
 intro A w p h hd ht;simp only[XR]at h;obtain ⟨h0,v,ps,h1,h2,h3⟩:=h;exact places_parts A w p 1 v ps l (.inl rfl) h1 h2 h3 hd ht ih
theorem places_alt(l:List RX)(ih:∀ y∈l,PlC y):PlC (.alt l):=by
 intro A w p h hd ht;simp only[XR]at h;obtain ⟨h0,v,ps,h1,h2,h3⟩:=h;simp only[tlx]at ht;exact places_parts A w p 2 v ps l (.inr rfl) h1 h2 h3 hd (by omega) ih
mutual
theorem places_any:∀ (x:RX),PlC x
 | .one s=>places_one s
 | .seq l=>places_seq l (placesL_any l)
 | .alt l=>places_alt l (placesL_any l)
 | .rep x lo hi=>places_rep x lo hi (places_any x)
theorem placesL_any:∀ (l:List RX),∀ y∈l,PlC y
 | [],y,hy=>by simp at hy
 | x::r,y,hy=>by
   rcases List.mem_cons.1 hy with h|h
   ·rw[h];exact places_any x
   ·exact placesL_any r y h
end
def WP(base b:Nat)(t:List UInt8)(w:World)(p:Option RX)(e:Ending)(w':World):Prop :=
 match p with
 | some x=>∃ (eb:Nat) (vs':Value),e=.returned (.pointer (some ⟨eb,0,none⟩))∧XR (fun k=>w.heap.size≤k∧k<w'.heap.size) w' eb x∧PA w' b t [] vs'∧BL base w' vs' (setsOf x)∧FP base b w w'
 | none=>e=.returned (.pointer none)∧FP base b w w'
theorem parse_any(base b:Nat)(t:List UInt8)(w:World)(h:PA w b t t (.slice none 0 0))(hb:b<base)(hz:base≤w.heap.size)(ht:t.length≤100) :
 Calls Tryz.prog 103 #[.pointer (some ⟨b,0,none⟩)] w fun e w'=>WP base b t w (pWhole t) e w':=by
 have C:=hide ((parser_all (4*t.length+4)).1 base b 0 t t (.slice none 0 0) [] w h (BL.nil _ _) hb hz (by simp;exact ht) (by omega) (Nat.le_refl _));have Hw:Hid (pWhole t=match pAlt (4*t.length+4) 0 [] t with | some (x,[])=>some x|_=>none):=rfl;have hsz:=bs_size t;clear h;go_enter Tryz.func103,Tryz.ntmps103
 go_wp2_with fail
 refine (C.out).mono ?_;intro e w1 hx;cases hp:pAlt (4*t.length+4) 0 [] t with
 | none =>
   rw[hp]at hx Hw;obtain ⟨rfl,⟨l',vs',i,hps,hdr⟩,hf⟩:=hx;have F:=hide hf;have c0:=hps.c0;have c1:=hps.c1;have hi:=hps.2.1;clear hf hps
   by_cases hlt:i<t.length
   ·have hd1:decide ((i:Int)<(t.length:Int))=true:=decide_eq_true (by omega)
    go_wp2_with fail
    go_quiet (fail)
    go_wp2;go_ret;rw[Hw.out];exact ⟨rfl,F.out.drewN _⟩
   ·have hd1:decide ((i:Int)<(t.length:Int))=false:=decide_eq_false (by omega)
    go_wp2_with fail
    go_quiet (fail)
    go_wp2;go_ret;rw[Hw.out];exact ⟨rfl,F.out.drewN _⟩
 | some xr =>
   obtain ⟨x,r⟩:=xr;rw[hp]at hx Hw;obtain ⟨eb,vs',rfl,hxr,⟨i,hps,hdr⟩,hbl,hf⟩:=hx;have F:=hide hf;have X:=hide hxr;have B:=hide hbl;have P:=hide hps;have D:=hide hdr;have c0:=hps.c0;have c1:=hps.c1;have hi:=hps.2.1;clear hf hps hxr hbl hdr
   by_cases hlt:i<t.length
   ·have hd1:decide ((i:Int)<(t.length:Int))=true:=decide_eq_true (by omega)
    obtain ⟨_,hr⟩:=(drop_cons D.out).1 hlt;have Hw2:Hid (pWhole t=none):=by show _=_;rw[Hw.out,hr]
    clear hr;go_wp2_with fail
    go_quiet (fail)
    go_wp2;go_ret;rw[Hw2.out];exact ⟨rfl,F.out.drewN _⟩
   ·have hd1:decide ((i:Int)<(t.length:Int))=false:=decide_eq_false (by omega)
    have hr:=(drop_cons D.out).2 hlt;have Hw2:Hid (pWhole t=some x):=by show _=_;rw[Hw.out,hr]
    clear hr;go_wp2_with fail
    go_quiet (fail)
    go_wp2;go_ret;rw[Hw2.out];refine ⟨eb,vs',rfl,?_,⟨i,P.out.drewN _,?_⟩,?_,F.out.drewN _⟩
    ·exact (X.out.keep (KeepX.frm ((Frm.refl [] w1).drewN _) (fun n hn=>⟨hn.2,by simp⟩))).mono (fun n hn=>hn)
    ·exact (drop_cons D.out).2 hlt ▸ D.out
    ·have b2:BL base w1 vs' (setsOf x):=by simpa using B.out
     exact b2
theorem xhas_wordsX(w0 w1 w2 w3:Nat)(q r:Nat)(w:World)(hq:q<4)(hr:r<64)(h0:w0<18446744073709551616)(h1:w1<18446744073709551616)(h2:w2<18446744073709551616)(h3:w3<18446744073709551616) :
 Calls Tryz.prog 151 #[.agg #[.int .u64 w0, .int .u64 w1, .int .u64 w2, .int .u64 w3], .int .u8 (64*q+r:Nat)] w fun e w'=>e=.returned (.bool ((if q=0 then w0 else if q=1 then w1 else if q=2 then w2 else w3).testBit r))∧w'=w.alloc (.cells #[.int .u64 w0, .int .u64 w1, .int .u64 w2, .int .u64 w3] 195):=by
 have hd:((64*q+r:Nat):Int).tdiv 64=q:=by rw[Int.tdiv_eq_ediv_of_nonneg (by omega)];omega
 have hm:((64*q+r:Nat):Int).tmod 64=r:=by rw[Int.tmod_eq_emod_of_nonneg (by omega)];omega
 have hlt:64*q+r<256:=by omega
 generalize 64*q+r=c at *;rcases (by omega:q=0∨q=1∨q=2∨q=3) with rfl|rfl|rfl|rfl
 ·go_enter Tryz.func151,Tryz.ntmps151
  go_wp2;go_ret;exact ⟨by rw[← bit_val _ _ h0];rfl,rfl⟩
 ·go_enter Tryz.func151,Tryz.ntmps151
  go_wp2;go_ret;exact ⟨by rw[← bit_val _ _ h1];rfl,rfl⟩
 ·go_enter Tryz.func151,Tryz.ntmps151
  go_wp2;go_ret;exact ⟨by rw[← bit_val _ _ h2];rfl,rfl⟩
 ·go_enter Tryz.func151,Tryz.ntmps151
  go_wp2;go_ret;exact ⟨by rw[← bit_val _ _ h3];rfl,rfl⟩
theorem xhas_x(s:Nat)(c:Nat)(w:World)(hc:c<256) :
 Calls Tryz.prog 151 #[.agg #[.int .u64 (wd s 0), .int .u64 (wd s 1), .int .u64 (wd s 2), .int .u64 (wd s 3)], .int .u8 c] w fun e w'=>e=.returned (.bool (s.testBit c))∧w'=w.alloc (.cells #[.int .u64 (wd s 0), .int .u64 (wd s 1), .int .u64 (wd s 2), .int .u64 (wd s 3)] 195):=by
 have h:=xhas_wordsX (wd s 0) (wd s 1) (wd s 2) (wd s 3) (c / 64) (c % 64) w (by omega) (Nat.mod_lt _ (by decide)) (wd_lt _ _) (wd_lt _ _) (wd_lt _ _) (wd_lt _ _);rw[show 64*(c / 64)+c % 64=c by omega]at h;have e:(if c / 64=0 then wd s 0 else if c / 64=1 then wd s 1 else if c / 64=2 then wd s 2 else wd s 3).testBit (c % 64)=s.testBit c:=by
  have h1:c / 64<4:=by omega
  have key:(wd s (c / 64)).testBit (c % 64)=s.testBit c:=by
   rw[wd_bit _ _ _ (Nat.mod_lt _ (by decide)),show 64*(c / 64)+c % 64=c by omega]
  rw[← key];rcases (by omega:c / 64=0∨c / 64=1∨c / 64=2∨c / 64=3) with h|h|h|h<;>simp[h]
 rw[e]at h;exact h
def apart(S:List Nat)(a b:Nat):Bool:=S.any fun s=>s.testBit a != s.testBit b
theorem BL.cell{base:Nat}{w:World}{S:List Nat}{g n cap:Nat}(h:BL base w (.slice (some ⟨g,0,none⟩) n cap) S){j s:Nat}(hj:S[j]?=some s)(k:Nat)(hk:k<4):w.cell? ⟨g,j*4+k,none⟩=(bcells s)[k]?:=by
 have h1:=flat_get bcells 4 (fun a=>rfl) S j k s hj hk;have h3:=World.ownsRow.cells h (g:=g) rfl (j*4+k);have hlt:k<(bcells s).length:=hk;rw[List.getElem?_eq_getElem hlt]at h1 ⊢;have:=h3 _ h1;rw[add0]at this;exact this
theorem toldApart_any(base:Nat)(vs:Value)(S:List Nat)(a b:Nat)(w:World)(hs:BL base w vs S)(ha:a<256)(hb:b<256)(hS:S.length≤1000) :
 Calls Tryz.prog 139 #[vs, .int .u8 a, .int .u8 b] w fun e w'=>e=.returned (.bool (apart S a b))∧Frm [] w w':=by
 obtain ⟨ad,cap,rfl⟩:=own_shape hs;have HS:=hide hs;clear hs;go_enter Tryz.func139,Tryz.ntmps139
 go_wp2_with fail
 go_loopg [11] S.length (fun k vi wr=>∃ (j:Nat),j+k=S.length∧vi=.int .i64 j∧apart (S.drop j) a b=apart S a b∧Frm [] w wr)
 case atStart=>exact ⟨0,by omega,rfl,rfl,Frm.refl _ _⟩
 case round =>
  obtain ⟨j,hj,rfl,hap,hfr⟩:=hrel;have F:=hide hfr;have AP:=hide hap;clear hfr hap
  by_cases hlt:j<S.length
  ·have hs1:BL base wr (.slice ad S.length cap) S:=HS.out.frm F.out (by simp)
   obtain ⟨g,rfl⟩:∃ g,ad=some ⟨g,0,none⟩:=by
    rcases hs1.2 with ⟨e,h⟩|⟨g,c,cur,e,_⟩
    ·omega
    ·simp at e;exact ⟨g,e.1⟩
   have hjS:S[j]?=some S[j]:=List.getElem?_eq_getElem hlt;have hc:=fun k hk=>hs1.cell hjS k hk
   have Hd:Hid (S.drop j=S[j]::S.drop (j+1)):=List.drop_eq_getElem_cons hlt;generalize S[j]=s at *;have q0:wr.cell? ⟨g,j*4,none⟩=some (.int .u64 (wd s 0)):=hc 0 (by omega);have q1:wr.cell? ⟨g,j*4+1,none⟩=some (.int .u64 (wd s 1)):=hc 1 (by omega);have q2:wr.cell? ⟨g,j*4+2,none⟩=some (.int .u64 (wd s 2)):=hc 2 (by omega);have q3:wr.cell? ⟨g,j*4+3,none⟩=some (.int .u64 (wd s 3)):=hc 3 (by omega);have Hst:Hid (apart S a b=((s.testBit a != s.testBit b)||apart (S.drop (j+1)) a b)):=by
    show _=_;rw[← AP.out,Hd.out];rfl
   have HH:=hide (fun (c:Nat) (hc:c<256) (w:World)=>xhas_x s c w hc);generalize s.testBit=fb at *;clear hc hs1 hjS AP Hd;generalize wd s 0=s0 at *;generalize wd s 1=s1 at *;generalize wd s 2=s2 at *;generalize wd s 3=s3 at *;go_wp2_with fail
   go_region_with (go_at_call 151;refine (HH.out _ (by assumption) _).mono ?_;rintro e w7 ⟨rfl,rfl⟩)
   all_goals
    cases hA:fb a
    ·cases hB:fb b
     ·have Hs2:Hid (apart (S.drop (j+1)) a b=apart S a b):=by show _=_;rw[Hst.out,hA,hB];rfl
      go_wp2;go_roundg (gk-1)
      case measure=>omega
      case rel=>exact ⟨j+1,by omega,by go_num,Hs2.out,((((F.out.alloc _).alloc _).alloc _).drew)⟩
     ·have Hs2:Hid (apart S a b=true):=by show _=_;rw[Hst.out,hA,hB];rfl
      go_wp2;go_ret;rw[Hs2.out];exact ⟨rfl,((((F.out.alloc _).alloc _).alloc _).drew)⟩
    ·cases hB:fb b
     ·have Hs2:Hid (apart S a b=true):=by show _=_;rw[Hst.out,hA,hB];rfl
      go_wp2;go_ret;rw[Hs2.out];exact ⟨rfl,((((F.out.alloc _).alloc _).alloc _).drew)⟩
     ·have Hs2:Hid (apart (S.drop (j+1)) a b=apart S a b):=by show _=_;rw[Hst.out,hA,hB];rfl
      go_wp2;go_roundg (gk-1)
      case measure=>omega
      case rel=>exact ⟨j+1,by omega,by go_num,Hs2.out,((((F.out.alloc _).alloc _).alloc _).drew)⟩
  ·have Hz:Hid (apart S a b=false):=by
    show _=_;rw[← AP.out,List.drop_eq_nil_of_le (by omega)];rfl
   go_wp2;go_ret;rw[Hz.out];exact ⟨rfl,F.out⟩
def NL(k:IntKind)(w:World)(v:Value)(L:List Nat):Prop :=
 ∃ a cap,v=.slice a L.length cap∧∀ (j:Nat) (h:j<L.length),∃ g off,a=some ⟨g,off,none⟩∧g<w.heap.size∧w.cell? ⟨g,off+j,none⟩=some (.int k L[j])
theorem NL.frm{k:IntKind}{S:List Nat}{w w':World}{v:Value}{L:List Nat}(h:NL k w v L)(f:Frm S w w')(hS:∀ a n c,v=.slice (some a) n c→a.block∉S):NL k w' v L:=by
 obtain ⟨a,cap,rfl,h1⟩:=h;refine ⟨a,cap,rfl,?_⟩;intro j hj;obtain ⟨g,off,rfl,h2,h3⟩:=h1 j hj;exact ⟨g,off,rfl,Nat.lt_of_lt_of_le h2 f.size,(f.cell (p:=⟨g,off+j,none⟩) h2 (hS ⟨g,off,none⟩ _ _ rfl)).trans h3⟩
theorem xfind_any(v:Value)(L:List Nat)(n:Nat)(w:World)(hv:NL .i64 w v L)(hL:L.length≤1048576) :
 Calls Tryz.prog 117 #[v, .int .i64 n] w fun e w'=>e=.returned (.int .i64 (L.findIdx (·==n)))∧w=w':=by
 obtain ⟨a,cap,rfl,h1⟩:=hv;have H1:=hide h1;clear h1;go_enter Tryz.func117,Tryz.ntmps117
 go_wp2_with fail
 go_loopg [9] L.length (fun k vi wr=>∃ (j:Nat),j+k=L.length∧vi=.int .i64 j∧wr=w∧j+(L.drop j).findIdx (·==n)=L.findIdx (·==n))
 case atStart=>exact ⟨0,by omega,rfl,rfl,by simp⟩
 case round =>
  obtain ⟨j,hj,rfl,hw,hf⟩:=hrel;subst hw
  by_cases hlt:j<L.length
  ·obtain ⟨g,off,rfl,_,hc⟩:=H1.out j hlt
   have hd:L.drop j=L[j]::L.drop (j+1):=List.drop_eq_getElem_cons hlt;rw[hd,List.findIdx_cons]at hf;generalize L[j]=m at *;cases hmn:(m==n)
   ·have hb:((m:Int)==(n:Int))=false:=by rw[beq_eq_false_iff_ne];intro e;simp at hmn;omega
    rw[hmn]at hf;have Hf:Hid ((j+1)+(L.drop (j+1)).findIdx (·==n)=L.findIdx (·==n)):=by
     show _=_;simp at hf;omega
    clear hf hd;go_wp2;go_roundg (gk-1)
    case measure=>omega
    case rel=>exact ⟨j+1,by omega,by go_num,rfl,Hf.out⟩
   ·have hb:((m:Int)==(n:Int))=true:=by rw[beq_iff_eq];simp at hmn;omega
    rw[hmn]at hf;have Hf:Hid (L.findIdx (·==n)=j):=by
     show _=_;simp at hf;omega
    clear hf hd;go_wp2;go_ret;rw[Hf.out];exact ⟨rfl,rfl⟩
  ·have Hf:Hid (L.findIdx (·==n)=L.length):=by
    show _=_;rw[← hf,List.drop_eq_nil_of_le (by omega)];simp;omega
   clear hf;go_wp2;go_ret;rw[Hf.out];exact ⟨rfl,rfl⟩
def clsOf(S F:List Nat)(c:Nat):Nat:=F.findIdx fun f=>!(apart S f c)
theorem classOf_any(base:Nat)(vs v:Value)(S F:List Nat)(c:Nat)(w:World)(hs:BL base w vs S)(hv:NL .u8 w v F)(hS:S.length≤1000)(hF:F.length≤1000)(hF2:∀ f∈F,f<256)(hc:c<256) :
 Calls Tryz.prog 125 #[vs,v, .int .u8 c] w fun e w'=>e=.returned (.int .i64 (clsOf S F c))∧Frm [] w w':=by
 obtain ⟨a,cap,rfl,h1⟩:=hv;obtain ⟨asl,caps,rfl⟩:=own_shape hs;have H1:=hide h1;have HS:=hide hs;have H2:=hide hF2;clear h1 hs hF2;go_enter Tryz.func125,Tryz.ntmps125
 go_wp2_with fail
 go_loopg [11] F.length (fun k vi wr=>∃ (j:Nat),j+k=F.length∧vi=.int .i64 j∧Frm [] w wr∧j+clsOf S (F.drop j) c=clsOf S F c)
 case atStart=>exact ⟨0,by omega,rfl,Frm.refl _ _,by simp⟩
 case round =>
  obtain ⟨j,hj,rfl,hfr,hf⟩:=hrel;have FR:=hide hfr
  by_cases hlt:j<F.length
  ·obtain ⟨g,off,rfl,hg,hc0⟩:=H1.out j hlt
   have hc1:=(hfr.cell (p:=⟨g,off+j,none⟩) hg (by simp)).trans hc0;have hm8:=H2.out _ (List.getElem_mem hlt);have hd:F.drop j=F[j]::F.drop (j+1):=List.drop_eq_getElem_cons hlt;rw[hd]at hf;unfold clsOf at hf;rw[List.findIdx_cons]at hf;generalize F[j]=m at *;have T:=hide (toldApart_any base (.slice asl S.length caps) S m c wr (HS.out.frm hfr (by simp)) hm8 hc hS);clear hfr hc0 hd;cases hap:apart S m c
   ·rw[hap]at hf
    have Hf:Hid (clsOf S F c=j):=by show _=_;unfold clsOf;simp at hf;omega
    clear hf;rw[hap]at T;go_wp2_with fail
    refine (T.out).mono ?_;rintro e w2 ⟨rfl,hf2⟩;have F2:=hide (FR.out.trans hf2);clear hf2;go_wp2;go_ret;rw[Hf.out];exact ⟨rfl,F2.out⟩
   ·rw[hap]at hf
    have Hf:Hid ((j+1)+clsOf S (F.drop (j+1)) c=clsOf S F c):=by show _=_;unfold clsOf;simp at hf;omega
    clear hf;rw[hap]at T;go_wp2_with fail
    refine (T.out).mono ?_;rintro e w2 ⟨rfl,hf2⟩;have F2:=hide (FR.out.trans hf2);clear hf2;go_wp2;go_roundg (gk-1)
    case measure=>omega
    case rel=>exact ⟨j+1,by omega,by go_num,F2.out,Hf.out⟩
  ·have Hf:Hid (clsOf S F c=F.length):=by
    show _=_;rw[← hf,List.drop_eq_nil_of_le (by omega)];unfold clsOf;simp;omega
   clear hf hfr;go_wp2;go_ret;rw[Hf.out];exact ⟨rfl,FR.out⟩
def UL(base:Nat)(w:World)(v:Value)(L:List Nat):Prop:=w.ownsRow base 5 1 v L.length (nv .u8 L)
def IL(base:Nat)(w:World)(v:Value)(L:List Nat):Prop:=w.ownsRow base 3 1 v L.length (nv .i64 L)
theorem row_nl{k:IntKind}{base:Nat}{w:World}{e:TypeId}{v:Value}{L:List Nat}(h:w.ownsRow base e 1 v L.length (nv k L)):NL k w v L:=by
 obtain ⟨a,cap,rfl⟩:=own_shape h;refine ⟨a,cap,rfl,?_⟩;intro j hj;rcases h.2 with ⟨e1,h1⟩|⟨g,c,cur,e1,hg,hgg,_⟩
 ·omega
 ·simp at e1
  obtain ⟨rfl,rfl⟩:=e1;have hc:=World.ownsRow.cells h (g:=g) rfl j (.int k L[j]) (by simp[nv,hj]);rw[add0]at hc;exact ⟨g,0,rfl,(Array.getElem?_eq_some_iff.1 hgg).1,by simpa using hc⟩
theorem wp_appU{ops:Array Oper}{rest:List Oper}{o:Oper}{a:Act}{Q:Exit→Act→World→Prop}(w:World)(hgd:o.guard=none)(s x:Operand)
 (ho:o.op=.call { callee:=.builtin .append,args:=#[s,x],argTypes:=#[84,84] })
 (base:Nat) (v:Value) (L:List Nat) (n b1:Nat) (hs:a.eval s=v) (hown:UL base w v L) (hx:a.eval x=.slice (some ⟨b1,0,none⟩) 1 1)
 (hc:w.cell? ⟨b1,0,none⟩=some (.int .u8 n)) (hlen:L.length≤1048576) (hbase:base≤w.heap.size)
 (h:∀ g cap w',UL base w' (.slice (some ⟨g,0,none⟩) (L.length+1) cap) (L++[n])→w.grownBy w' v.ownBlock→(v.ownBlock=some g∨g=w.heap.size)→g<w'.heap.size→wpList Tryz.prog ops Q rest (a.put o.dst (.slice (some ⟨g,0,none⟩) (L.length+1) cap)) w') :
 wpList Tryz.prog ops Q (o::rest) a w:=by
 obtain ⟨i0,hi,hz0,hz1,hz2⟩:=info_parts infoU8;refine wpList_append_lies w hgd s x 84 ho base 5 i0 (.int .u8 0) 1 1 Tryz.underlying84 hi hz0 hz1 hz2 rfl (by decide) v L.length (nv .u8 L) hs hown ⟨b1,0,none⟩ 1 1 [.int .u8 n] hx rfl ?_ (fun x hx=>by simp at hx;subst hx;rfl) (by decide) (by unfold maxLen;omega) (by omega) hbase w.heap.size rfl ?_
 ·intro j u hj
  have:j=0:=by
   cases j with
   | zero=>rfl
   | succ j=>simp at hj
  subst this;rw[add0];simp at hj;rw[← hj];exact hc
 ·intro g cap w' h1 h2 h3 h4
  exact h g cap w' (by unfold UL nv;simpa[nv] using h1) h2 h3 h4
theorem wp_appI{ops:Array Oper}{rest:List Oper}{o:Oper}{a:Act}{Q:Exit→Act→World→Prop}(w:World)(hgd:o.guard=none)(s x:Operand)
 (ho:o.op=.call { callee:=.builtin .append,args:=#[s,x],argTypes:=#[93,93] })
 (base:Nat) (v:Value) (L:List Nat) (n b1:Nat) (hs:a.eval s=v) (hown:IL base w v L) (hx:a.eval x=.slice (some ⟨b1,0,none⟩) 1 1)
 (hc:w.cell? ⟨b1,0,none⟩=some (.int .i64 n)) (hlen:L.length≤10000000000000) (hbase:base≤w.heap.size)
 (h:∀ g cap w',IL base w' (.slice (some ⟨g,0,none⟩) (L.length+1) cap) (L++[n])→w.grownBy w' v.ownBlock→(v.ownBlock=some g∨g=w.heap.size)→g<w'.heap.size→wpList Tryz.prog ops Q rest (a.put o.dst (.slice (some ⟨g,0,none⟩) (L.length+1) cap)) w') :
 wpList Tryz.prog ops Q (o::rest) a w:=by
 obtain ⟨i0,hi,hz0,hz1,hz2⟩:=info_parts infoInt;refine wpList_append_lies w hgd s x 93 ho base 3 i0 (.int .i64 0) 1 8 Tryz.underlying93 hi hz0 hz1 hz2 rfl (by decide) v L.length (nv .i64 L) hs hown ⟨b1,0,none⟩ 1 1 [.int .i64 n] hx rfl ?_ (fun x hx=>by simp at hx;subst hx;rfl) (by decide) (by unfold maxLen;omega) (by omega) hbase w.heap.size rfl ?_
 ·intro j u hj
  have:j=0:=by
   cases j with
   | zero=>rfl
   | succ j=>simp at hj
  subst this;rw[add0];simp at hj;rw[← hj];exact hc
 ·intro g cap w' h1 h2 h3 h4
  exact h g cap w' (by unfold IL nv;simpa[nv] using h1) h2 h3 h4
def fstK(S:List Nat):Nat→List Nat
 | 0=>[]
 | c+1=>if clsOf S (fstK S c) c==(fstK S c).length then fstK S c++[c] else fstK S c
def clsL(S:List Nat)(c:Nat):List Nat:=(List.range c).map fun i=>clsOf S (fstK S i) i
theorem fstK_le(S:List Nat):∀ c,(fstK S c).length≤c∧∀ f∈fstK S c,f<c
 | 0=>by simp[fstK]
 | c+1=>by
   have h:=fstK_le S c;simp only[fstK]
   split
   ·refine ⟨by simp;omega,?_⟩
    intro f hf;rcases List.mem_append.1 hf with h1|h1
    ·have:=h.2 f h1;omega
    ·simp at h1;omega
   ·exact ⟨by omega,fun f hf=>by have:=h.2 f hf;omega⟩
theorem clsOf_le(S F:List Nat)(c:Nat):clsOf S F c≤F.length:=List.findIdx_le_length
theorem row_frm0{S:List Nat}{base:Nat}{w w':World}{e:TypeId}{size n:Nat}{v:Value}{xs:List Value}(h:w.ownsRow base e size v n xs)(f:Frm S w w')(hS:∀ k,v.ownBlock=some k→k∉S):w'.ownsRow base e size v n xs:=by
 refine ⟨h.1,?_⟩;rcases h.2 with hn|⟨g,cap,cur,rfl,hb,hgg,rest⟩
 ·exact .inl hn
 ·refine .inr ⟨g,cap,cur,rfl,hb,?_,rest⟩
  rw[f.block g (Array.getElem?_eq_some_iff.1 hgg).1 (hS g rfl)];exact hgg
def clsP(S:List Nat)(c:Nat):List Nat:=clsL S c++List.replicate (256-c) 0
theorem clsP_step(S:List Nat)(c:Nat)(hc:c<256):(clsP S c).set c (clsOf S (fstK S c) c)=clsP S (c+1):=by
 unfold clsP clsL;rw[List.set_append_right _ _ (by simp)];simp only[List.length_map,List.length_range,Nat.sub_self];rw[List.range_succ,List.map_append,List.append_assoc]
 congr 1
 obtain ⟨k,hk⟩:∃ k,256-c=k+1:=⟨255-c,by omega⟩;rw[hk,show 256-(c+1)=k by omega,List.replicate_succ]
 rfl
theorem sortBytes_any(base ab:Nat)(vs:Value)(S F1 CL:List Nat)(va vn:Value)(w:World)(hF1:fstK S 256=F1)(hCL:clsL S 256=CL)(hs:BL base w vs S)(ha:AB w ab 0 (List.replicate 256 0) va vn)(hS:S.length≤1000)(hne:vs.ownBlock≠some ab) :
 Calls Tryz.prog 113 #[.pointer (some ⟨ab,0,none⟩),vs] w fun e w'=>∃ v,e=.returned v∧UL w.heap.size w' v F1∧AB w' ab F1.length CL va vn∧Frm [ab] w w':=by
 obtain ⟨asl,caps,rfl⟩:=own_shape hs;have HS:=hide hs;have HNE:Hid (Value.ownBlock (.slice asl S.length caps)≠some ab):=hne;clear hne;have HA:=hide ha;have HF1:=hide hF1;have HCL:=hide hCL;clear hF1 hCL;have hlt:=ha.lt;clear hs ha;go_enter Tryz.func113,Tryz.ntmps113
 go_wp2_with fail
 go_loopg [5,6] 256 (fun k vf vc wr=>∃ (c:Nat),c+k=256∧vc=.int .i64 c∧UL w.heap.size wr vf (fstK S c)∧AB wr ab 0 (clsP S c) va vn∧Frm [ab] w wr)
 case atStart =>
  refine ⟨0,by omega,rfl,World.ownsRow_lit _ #[] 0 (Nat.le_refl _) (by unfold maxLen;omega) (by simp),?_,(Frm.refl _ _).alloc _⟩;exact HA.out.frm (S:=[]) ((Frm.refl _ _).alloc _) (by simp)
 case round =>
  clear HA;obtain ⟨c,hc,rfl,hul,hab2,hfr⟩:=hrel;obtain ⟨af,capf,rfl⟩:=own_shape hul;have hle:=fstK_le S c;have F:=hide hfr;have U:=hide hul;have A:=hide hab2;have z:=hfr.size;clear hfr hul hab2
  by_cases hlt2:c<256
  ·clear HF1 HCL
   have hs1:BL base wr (.slice asl S.length caps) S:=row_frm0 HS.out F.out (fun k hk=>by simp;rintro rfl;exact HNE.out hk);have C:=hide (classOf_any base (.slice asl S.length caps) (.slice af (fstK S c).length capf) S (fstK S c) c wr hs1 (row_nl U.out) hS (by omega) (fun f hf=>by have:=hle.2 f hf;omega) hlt2);have Hst:Hid (fstK S (c+1)=if clsOf S (fstK S c) c==(fstK S c).length then fstK S c++[c] else fstK S c):=rfl;have Hcs:=hide (clsP_step S c hlt2);have hml:=clsOf_le S (fstK S c) c;have hl1:=hle.1;generalize clsOf S (fstK S c) c=m at *;generalize fstK S c=F0 at *;clear hs1 hle;have hc8:c<256:=hlt2;go_wp2_with fail
   refine (C.out).mono ?_;rintro e w2 ⟨rfl,hf2⟩;have F2:=hide (F.out.trans (hf2.mono (by simp)));have U2:=hide (own_frm U.out hf2 (by simp));have A2:=hide (A.out.frm hf2 (by simp));have z2:=hf2.size;clear hf2
   by_cases hm:m=F0.length
   ·subst hm
    have Hst2:Hid (fstK S (c+1)=F0++[c]):=by show _=_;rw[Hst.out];simp
    have Hcs2:Hid ((clsP S c).set c F0.length=clsP S (c+1)):=Hcs.out;have hae:Value.ownBlock (.slice af F0.length capf)≠some ab:=fun e=>by have:=U2.out.lt _ e;omega
    have A3:=hide (fun o=>A2.out.frm (S:=[]) (w':=w2.alloc o) ((Frm.refl _ _).alloc _) (by simp));have hlt3:=A2.out.lt;clear Hst Hcs C;go_wp2_with (first | (at_builtin;refine wp_appU _ rfl _ _ rfl w.heap.size (.slice af F0.length capf) F0 c w2.heap.size rfl (U2.out.alloc _) rfl (cell_newX _ _ _ _ rfl) (by omega) (by simp;omega) ?_;intro gg cap2 w5 hown hgrow hat hgl;have F5:=Frm.of_grow hgrow;have A5:=(A3.out _).frm F5 (by simpa[Option.mem_toList] using fun e=>hae e);have q1:=A5.cell c hc8;have q2:=A5.fz (1+c);have A6:=hide A5;have U6:=hide hown;have F6:=hide ((F2.out.alloc _).grown hgrow (fun k hk=>Or.inr (U2.out.lt _ hk).1));clear hown hgrow hat hgl F5 A5))
    go_roundg (gk-1)
    case measure=>omega
    case rel =>
     refine ⟨c+1,by omega,by go_num,?_,?_,F6.out.setCell (.inl (by simp)) _⟩
     ·rw[Hst2.out]
      have:=ownsRow_setCell_below U6.out (a:=⟨ab,1+c,none⟩) (by simp;omega) (.int .u8 F0.length);exact this
     ·rw[← Hcs2.out];exact A6.out.set c F0.length hc8
   ·have hb:((m:Int)==(F0.length:Int))=false:=beq_eq_false_iff_ne.2 (by omega)
    have Hst2:Hid (fstK S (c+1)=F0):=by show _=_;rw[Hst.out,if_neg];simpa using hm
    have q1:=A2.out.cell c hc8;have q2:=A2.out.fz (1+c);clear Hst C;go_wp2;go_roundg (gk-1)
    case measure=>omega
    case rel =>
     refine ⟨c+1,by omega,by go_num,?_,?_,F2.out.setCell (.inl (by simp)) _⟩
     ·rw[Hst2.out]
      exact ownsRow_setCell_below U2.out (a:=⟨ab,1+c,none⟩) (by simp;omega) (.int .u8 m)
     ·rw[← Hcs.out];exact A2.out.set c m hc8
  ·have hc6:c=256:=by omega
   have q0:=A.out.c0;have q2:=A.out.fz 0;have hp:clsP S c=CL:=by
    rw[hc6,← HCL.out];unfold clsP;rw[Nat.sub_self,List.replicate_zero,List.append_nil]
   have hp2:fstK S c=F1:=by rw[hc6];exact HF1.out
   rw[hp]at A;rw[hp2]at U hle;rw[hp2];clear hp hp2 HF1 HCL hc6;have G1:=hide (F.out.setCell (p:=⟨ab,0,none⟩) (.inl (by simp)) (.int .i64 F1.length));have G2:=hide (ownsRow_setCell_below U.out (a:=⟨ab,0,none⟩) (by simp;omega) (.int .i64 F1.length));have G3:=hide (A.out.set0 F1.length);go_wp2;go_ret;exact ⟨.slice af F1.length capf,rfl,G2.out,G3.out,G1.out⟩
def mixZ(h x:Int):Int:=IntKind.u32.wrap (Go.bits BinOp.xor IntKind.u32 h x*16777619)
theorem mixed_any(h x:Int)(w:World) :
 Calls Tryz.prog 166 #[.int .u32 h, .int .u32 x] w fun e w'=>e=.returned (.int .u32 (mixZ h x))∧w=w':=by
 have Hm:Hid (mixZ h x=IntKind.u32.wrap (Go.bits BinOp.xor IntKind.u32 h x*16777619)):=rfl;go_enter Tryz.func166,Tryz.ntmps166
 go_wp2;go_ret;rw[Hm.out];exact ⟨rfl,rfl⟩
theorem sameList_any(v u:Value)(L M:List Nat)(w:World)(hv:NL .i64 w v L)(hu:NL .i64 w u M)(hL:L.length≤10000000000000)(hM:M.length≤10000000000000) :
 Calls Tryz.prog 167 #[v,u] w fun e w'=>e=.returned (.bool (decide (L=M)))∧∃ n,w'=w.drewN n:=by
 obtain ⟨a,cap,rfl,h1⟩:=hv;obtain ⟨b,cap2,rfl,h2⟩:=hu;have H1:=hide h1;have H2:=hide h2;clear h1 h2
 by_cases hl:L.length=M.length
 ·have hb:((L.length:Int) != (M.length:Int))=false:=by rw[bne_eq_false_iff_eq];omega
  have HLM:=hide hl;clear hl;go_enter Tryz.func167,Tryz.ntmps167
  go_wp2_with fail
  go_loopg [13] L.length (fun k vi wr=>∃ (j n:Nat),j+k=L.length∧vi=.int .i64 j∧wr=w.drewN n∧decide (L.drop j=M.drop j)=decide (L=M))
  case atStart=>exact ⟨0,0,by omega,rfl,rfl,rfl⟩
  case round =>
   obtain ⟨j,n,hj,rfl,hw,hd⟩:=hrel;have HD:=hide hd;clear hd
   by_cases hlt:j<L.length
   ·have hltM:j<M.length:=by have:=HLM.out;omega
    obtain ⟨g,off,rfl,_,hc⟩:=H1.out j hlt;obtain ⟨g2,off2,rfl,_,hc2⟩:=H2.out j hltM;have q1:wr.cell? ⟨g,off+j,none⟩=some (.int .i64 L[j]):=by rw[hw];exact hc
    have q2:wr.cell? ⟨g2,off2+j,none⟩=some (.int .i64 M[j]):=by rw[hw];exact hc2
    have Hd:Hid (decide (L=M)=(decide (L[j]=M[j])&&decide (L.drop (j+1)=M.drop (j+1)))):=by
     show _=_;rw[← HD.out,List.drop_eq_getElem_cons hlt,List.drop_eq_getElem_cons hltM];rw[Bool.eq_iff_iff];simp only[decide_eq_true_eq,Bool.and_eq_true,List.cons.injEq]
    have Hw:=hide hw;clear hc hc2 hw HD;generalize L[j]=x at *;generalize M[j]=y at *
    by_cases hxy:x=y
    ·have hb2:((x:Int) != (y:Int))=false:=by rw[bne_eq_false_iff_eq];omega
     have Hd2:Hid (decide (L.drop (j+1)=M.drop (j+1))=decide (L=M)):=by show _=_;rw[Hd.out];simp[hxy]
     clear Hd;go_wp2_with fail
     go_quiet (fail)
     go_wp2;go_roundg (gk-1)
     case measure=>omega
     case rel=>exact ⟨j+1,n+_,by omega,by go_num,by rw[Hw.out,drewN_two],Hd2.out⟩
    ·have hb2:((x:Int) != (y:Int))=true:=by rw[bne_iff_ne];omega
     have Hd2:Hid (decide (L=M)=false):=by show _=_;rw[Hd.out];simp[hxy]
     clear Hd;go_wp2_with fail
     go_quiet (fail)
     go_wp2;go_ret;rw[Hd2.out,Hw.out];exact ⟨rfl,_,drewN_two _ _ _⟩
   ·have Hd2:Hid (decide (L=M)=true):=by
     show _=_;rw[← HD.out,List.drop_eq_nil_of_le (by omega),List.drop_eq_nil_of_le (by have:=HLM.out;omega)];rfl
    have Hw:=hide hw;clear hw HD;go_wp2;go_ret;rw[Hd2.out];exact ⟨rfl,_,Hw.out⟩
 ·have hb:((L.length:Int) != (M.length:Int))=true:=by rw[bne_iff_ne];omega
  have Hd:Hid (decide (L=M)=false):=by show _=_;rw[decide_eq_false];intro e;exact hl (by rw[e])
  go_enter Tryz.func167,Tryz.ntmps167
  go_wp2;go_ret;rw[Hd.out];exact ⟨rfl,0,rfl⟩
end Go.Proofs.YtpcbbbilmpobaaaGreatDoor
