import Derived.Test.YtpcbbbilmpobaaaGreatDoorJ9
set_option linter.unusedVariables false
set_option linter.unusedSimpArgs false
set_option linter.unnecessarySimpa false
set_option maxRecDepth 100000
set_option maxHeartbeats 8000000
namespace Go.Proofs.YtpcbbbilmpobaaaGreatDoor
open Go.RowKit
def LoadQ(A:List Nat)(t:List UInt8)(w:World)(e:Ending)(w':World):Prop :=
 Frm [] w w'∧((ld t=none∧e=.returned (.tuple #[.agg V6.z.cells, .bool false]))∨(∃ m V,ld t=some m∧e=.returned (.tuple #[.agg (V6.cells V), .bool true])∧PG A w' V m∧(∀ x∈V.cells,x.oneCell'=true)))
def pM6(a b:List (List UInt8))(c:List AutM)(d:List TstM)(e:List HitM):PT Mach:=fun s=>(pIs e.length d.length s).bind fun f=>some (⟨a,b,c,d,e,f.1⟩,f.2)
def pM5(a b:List (List UInt8))(c:List AutM)(d:List TstM):PT Mach:=fun s=>(pHs s).bind fun e=>pM6 a b c d e.1 e.2
def pM4(a b:List (List UInt8))(c:List AutM):PT Mach:=fun s=>(pTss a.length b.length c.length s).bind fun d=>pM5 a b c d.1 d.2
def pM3(a b:List (List UInt8)):PT Mach:=fun s=>(pAs s).bind fun c=>pM4 a b c.1 c.2
def pM2(a:List (List UInt8)):PT Mach:=fun s=>(pCs s).bind fun b=>pM3 a b.1 b.2
def pM1:PT Mach:=fun s=>(pL 256 s).bind fun a=>pM2 a.1 a.2
def ldE(x:Option (Mach × List UInt8)):Option Mach:=x.bind fun m=>if m.2=[] then some m.1 else none
theorem ld_mark{t:List UInt8}(h:t.take 3=markL):ld t=ldE (pM1 (t.drop 3)):=by
 unfold ld;rw[if_pos h];rfl
theorem ld_nomark{t:List UInt8}(h:t.take 3≠markL):ld t=none:=by unfold ld;rw[if_neg h]
abbrev LZ(w:World)(rb:Nat):Prop:=w.heap[rb]?=some (.cells V6.z.cells 58 (0,0))
theorem LZ.c{w:World}{rb:Nat}(h:LZ w rb)(j:Nat)(hj:j<6):w.cell? ⟨rb,j,none⟩=some (.slice none 0 0):=by
 have hs:V6.z.cells=#[.slice none 0 0, .slice none 0 0, .slice none 0 0, .slice none 0 0, .slice none 0 0, .slice none 0 0]:=rfl;simp only[World.cell?,h,hs]
 match j,hj with
 | 0,_=>rfl
 | 1,_=>rfl
 | 2,_=>rfl
 | 3,_=>rfl
 | 4,_=>rfl
 | 5,_=>rfl
theorem LZ.z{w:World}{rb:Nat}(h:LZ w rb)(o:Nat):w.frozen? ⟨rb,o,none⟩=false:=by simp[World.frozen?,h]
theorem pLoad_any(A:List Nat)(t:List UInt8)(w:World)(ht:t.length≤262144)(hA:∀ g∈A,g<w.heap.size) :
 Calls Tryz.prog 17 #[.string (bs t)] w (LoadQ A t w):=by
 have HA:=hide hA;clear hA;have hsz:=bs_size t;have hd0:decide ((262144:Int)<(t.length:Int))=false:=decide_eq_false (by omega);have hd0':decide (262144<t.length)=false:=decide_eq_false (by omega);obtain ⟨W1,hW1⟩:∃ W1,W1=(w.alloc (Obj.cells V6.z.cells 58)).alloc (Obj.cells #[.string (bs t), .int .i64 0, .slice none 0 0, .slice none 0 0, .slice none 0 0, .slice none 0 0, .slice none 0 0, .slice none 0 0] 104):=⟨_,rfl⟩;have hL1:LD W1 (w.heap.size+1) t 0 V6.z:=by
  refine ⟨?_,Nat.zero_le _,by omega⟩;rw[hW1];have:=heap1 (w.alloc (Obj.cells V6.z.cells 58)) (Obj.cells #[.string (bs t), .int .i64 0, .slice none 0 0, .slice none 0 0, .slice none 0 0, .slice none 0 0, .slice none 0 0, .slice none 0 0] 104);rw[show (w.alloc (Obj.cells V6.z.cells 58)).heap.size=w.heap.size+1 by simp]at this;exact this
 have R1:Hid (LZ W1 w.heap.size):=by
  show W1.heap[w.heap.size]?=_;rw[hW1];exact (((Frm.refl [] (w.alloc (Obj.cells V6.z.cells 58))).alloc _).block w.heap.size (by simp) (by simp)).trans (heap1 _ _)
 have F1:Hid (Frm [] w W1):=by rw[hW1];exact ((Frm.refl [] w).alloc _).alloc _
 have hz1:W1.heap.size=w.heap.size+2:=by rw[hW1];simp
 have N1:=hide (takeMark_any (w.heap.size+1) t 0 V6.z W1 hL1);clear hL1;go_enter Tryz.func17,Tryz.ntmps17
 have N1':=N1.out;rw[hW1]at N1';go_wp2_with fail
 refine N1'.mono ?_;clear N1' N1;have hz0:w.heap.size+1<W1.heap.size:=by omega
 rintro e w2 ⟨i2,ok2,rfl,hL2,hF2,hP2⟩;have hF2':Frm [w.heap.size+1] W1 w2:=by rw[hW1];exact hF2
 clear hF2;have hF2:=hF2';clear hF2' hW1;have L2:=hide hL2;have F2:=hide (F1.out.over hF2 (by intro x hx;simp at hx;left;omega));have R2:Hid (LZ w2 w.heap.size):=(hF2.block w.heap.size (by omega) (by simp)).trans R1.out;have hz2:=hF2.size;have P2:=hide hP2;clear hL2 hF2 hP2 F1 R1;cases ok2
 ·have HP:Hid (ld t=none):=by
   rcases P2.out with ⟨h,_⟩|⟨_,h⟩
   ·cases h
   ·exact ld_nomark h
  have e0:=R2.out.c 0 (by omega);have e1:=R2.out.c 1 (by omega);have e2:=R2.out.c 2 (by omega);have e3:=R2.out.c 3 (by omega);have e4:=R2.out.c 4 (by omega);have e5:=R2.out.c 5 (by omega);have ez:=R2.out.z;go_wp2;refine bodyPost_ret (results_cell_tmpA rfl _ _ w.heap.size V6.z.cells rfl (loadProg (set6_row _ _ _ _ _ _ R2.out) rfl)) rfl ?_;exact ⟨F2.out.over (set6_frm _ _ _ _ _ _ _ _) (by simp), .inl ⟨HP.out,rfl⟩⟩
 have hi2:i2=3:=by
  rcases P2.out with ⟨_,_,h⟩|⟨h,_⟩
  ·exact h
  ·cases h
 have HL2:Hid (ld t=ldE (pM1 (t.drop i2))):=by
  rcases P2.out with ⟨_,h,_⟩|⟨h,_⟩
  ·rw[hi2];exact ld_mark h
  ·cases h
 clear P2 hi2;have N3:=hide (takeNames_any (w.heap.size+1) t i2 V6.z w2 L2.out );go_wp2_with fail
 refine (N3.out).mono ?_;clear N3;rintro e w3 ⟨i3,ok3,v3,x3,rfl,hL3,hF3,hP3,hO3⟩;obtain ⟨a3,c3,he3⟩:=hO3.shape;rw[sc_len]at he3;subst he3;have L3:=hide hL3;have F3:=hide (F2.out.over hF3 (by intro x hx;simp at hx;left;omega));have R3:Hid (LZ w3 w.heap.size):=(hF3.block w.heap.size (by omega) (by simp)).trans R2.out;have hz3:=hF3.size;have Q3:=hide (hO3.rw (A:=(w.heap.size+1)::w.heap.size::A) (fun g hg hm=>by have:=(hO3.lt hg).1;simp at hm;rcases hm with hm|hm|hm;omega;omega;have:=HA.out g hm;omega));have P3:=hide hP3;clear hL3 hF3 hP3 hO3 L2 F2 R2;cases ok3
 ·have HP:Hid (ld t=none):=by
   rcases P3.out with ⟨h,_⟩|⟨_,h⟩
   ·cases h
   ·show _=_;rw[HL2.out];unfold pM1;rw[h];rfl
  have e0:=R3.out.c 0 (by omega);have e1:=R3.out.c 1 (by omega);have e2:=R3.out.c 2 (by omega);have e3:=R3.out.c 3 (by omega);have e4:=R3.out.c 4 (by omega);have e5:=R3.out.c 5 (by omega);have ez:=R3.out.z;go_wp2;refine bodyPost_ret (results_cell_tmpA rfl _ _ w.heap.size V6.z.cells rfl (loadProg (set6_row _ _ _ _ _ _ R3.out) rfl)) rfl ?_;exact ⟨F3.out.over (set6_frm _ _ _ _ _ _ _ _) (by simp), .inl ⟨HP.out,rfl⟩⟩
 have HL3:Hid (ld t=ldE (pM2 x3 (t.drop i3))):=by
  rcases P3.out with ⟨_,h⟩|⟨h,_⟩
  ·show _=_;rw[HL2.out];unfold pM1;rw[h];rfl
  ·cases h
 have hl3:x3.length≤1000:=by
  rcases P3.out with ⟨_,h⟩|⟨h,_⟩
  ·have h2:x3.length<256:=(pL_some h).2.1;omega
  ·cases h
 clear P3 HL2;have N4:=hide (takeConstants_any (w.heap.size+1) t i3 _ w3 L3.out rfl);go_wp2_with fail
 refine (N4.out).mono ?_;clear N4;rintro e w4 ⟨i4,ok4,v4,x4,rfl,hL4,hF4,hP4,hO4⟩;obtain ⟨a4,c4,he4⟩:=hO4.shape;rw[sc_len]at he4;subst he4;have L4:=hide hL4;have F4:=hide (F3.out.over hF4 (by intro x hx;simp at hx;left;omega));have R4:Hid (LZ w4 w.heap.size):=(hF4.block w.heap.size (by omega) (by simp)).trans R3.out;have hz4:=hF4.size;have Q3n:=hide (Q3.out.frm hF4 (by simp));clear Q3;have Q3:=Q3n;clear Q3n;have Q4:=hide (hO4.rw (A:=(w.heap.size+1)::w.heap.size::A) (fun g hg hm=>by have:=(hO4.lt hg).1;simp at hm;rcases hm with hm|hm|hm;omega;omega;have:=HA.out g hm;omega));have P4:=hide hP4;clear hL4 hF4 hP4 hO4 L3 F3 R3;cases ok4
 ·have HP:Hid (ld t=none):=by
   rcases P4.out with ⟨h,_⟩|⟨_,h⟩
   ·cases h
   ·show _=_;rw[HL3.out];unfold pM2;rw[h];rfl
  have e0:=R4.out.c 0 (by omega);have e1:=R4.out.c 1 (by omega);have e2:=R4.out.c 2 (by omega);have e3:=R4.out.c 3 (by omega);have e4:=R4.out.c 4 (by omega);have e5:=R4.out.c 5 (by omega);have ez:=R4.out.z;go_wp2;refine bodyPost_ret (results_cell_tmpA rfl _ _ w.heap.size V6.z.cells rfl (loadProg (set6_row _ _ _ _ _ _ R4.out) rfl)) rfl ?_;exact ⟨F4.out.over (set6_frm _ _ _ _ _ _ _ _) (by simp), .inl ⟨HP.out,rfl⟩⟩
 have HL4:Hid (ld t=ldE (pM3 x3 x4 (t.drop i4))):=by
  rcases P4.out with ⟨_,h⟩|⟨h,_⟩
  ·show _=_;rw[HL3.out];unfold pM2;rw[h];rfl
  ·cases h
 have hl4:x4.length≤1000:=by
  rcases P4.out with ⟨_,h⟩|⟨h,_⟩
  ·have h2:x4.length<256:=(pCs_some h).2.1;omega
  ·cases h
 clear P4 HL3;have N5:=hide (takeAutomata_any (w.heap.size+1) t i4 _ w4 L4.out rfl (w.heap.size::A) (by intro g hg;simp at hg;rcases hg with h|h;omega;have:=HA.out g h;omega));go_wp2_with fail
 refine (N5.out).mono ?_;clear N5;rintro e w5 ⟨i5,ok5,v5,x5,css5,rfl,hL5,hF5,hP5,hO5,hI5⟩;obtain ⟨a5,c5,he5⟩:=hO5.shape;rw[lst_len]at he5;subst he5;have L5:=hide hL5;have F5:=hide (F4.out.over hF5 (by intro x hx;simp at hx;left;omega));have R5:Hid (LZ w5 w.heap.size):=(hF5.block w.heap.size (by omega) (by simp)).trans R4.out;have hz5:=hF5.size;have Q3n:=hide (Q3.out.frm hF5 (by simp));clear Q3;have Q3:=Q3n;clear Q3n;have Q4n:=hide (Q4.out.frm hF5 (by simp));clear Q4;have Q4:=Q4n;clear Q4n;have Q5:=hide (hO5.rw (A:=(w.heap.size+1)::w.heap.size::A) (fun g hg hm=>by have:=(hO5.lt hg).1;simp at hm;rcases hm with hm|hm|hm;omega;omega;have:=HA.out g hm;omega));have P5:=hide hP5;have I5:=hide hI5;clear hL5 hF5 hP5 hO5 hI5 L4 F4 R4;cases ok5
 ·have HP:Hid (ld t=none):=by
   rcases P5.out with ⟨h,_⟩|⟨_,h⟩
   ·cases h
   ·show _=_;rw[HL4.out];unfold pM3;rw[h];rfl
  have e0:=R5.out.c 0 (by omega);have e1:=R5.out.c 1 (by omega);have e2:=R5.out.c 2 (by omega);have e3:=R5.out.c 3 (by omega);have e4:=R5.out.c 4 (by omega);have e5:=R5.out.c 5 (by omega);have ez:=R5.out.z;go_wp2;refine bodyPost_ret (results_cell_tmpA rfl _ _ w.heap.size V6.z.cells rfl (loadProg (set6_row _ _ _ _ _ _ R5.out) rfl)) rfl ?_;exact ⟨F5.out.over (set6_frm _ _ _ _ _ _ _ _) (by simp), .inl ⟨HP.out,rfl⟩⟩
 have HL5:Hid (ld t=ldE (pM4 x3 x4 x5 (t.drop i5))):=by
  rcases P5.out with ⟨_,h⟩|⟨h,_⟩
  ·show _=_;rw[HL4.out];unfold pM3;rw[h];rfl
  ·cases h
 have hl5:x5.length≤1000:=by
  rcases P5.out with ⟨_,h⟩|⟨h,_⟩
  ·have h2:x5.length<256:=(pAs_some h).2.1;omega
  ·cases h
 clear P5 HL4;have I5b:Hid (RowI autI ((w.heap.size+1)::w.heap.size::A) w5 css5 x5):=(I5.out rfl).avoid (by intro g hg;left;simp at hg ⊢;rcases hg with h|h|h<;>simp[h]);have hcl5:css5.length=x5.length:=I5b.out.1;clear I5;have I5:=I5b;clear I5b;rw[hcl5]at L5 Q5;have N6:=hide (takeTests_any (w.heap.size+1) t i5 _ x3.length x4.length x5.length w5 L5.out ⟨_,_,rfl⟩ ⟨_,_,rfl⟩ ⟨_,_,rfl⟩ hl3 hl4 hl5 rfl);go_wp2_with fail
 refine (N6.out).mono ?_;clear N6;rintro e w6 ⟨i6,ok6,v6,x6,rfl,hL6,hF6,hP6,hO6⟩;obtain ⟨a6,c6,he6⟩:=hO6.shape;rw[tc_len]at he6;subst he6;have L6:=hide hL6;have F6:=hide (F5.out.over hF6 (by intro x hx;simp at hx;left;omega));have R6:Hid (LZ w6 w.heap.size):=(hF6.block w.heap.size (by omega) (by simp)).trans R5.out;have hz6:=hF6.size;have Q3n:=hide (Q3.out.frm hF6 (by simp));clear Q3;have Q3:=Q3n;clear Q3n;have Q4n:=hide (Q4.out.frm hF6 (by simp));clear Q4;have Q4:=Q4n;clear Q4n;have Q5n:=hide (Q5.out.frm hF6 (by simp));clear Q5;have Q5:=Q5n;clear Q5n;have I5n:=hide (I5.out.frm hF6 (by simp));clear I5;have I5:=I5n;clear I5n;have Q6:=hide (hO6.rw (A:=(w.heap.size+1)::w.heap.size::A) (fun g hg hm=>by have:=(hO6.lt hg).1;simp at hm;rcases hm with hm|hm|hm;omega;omega;have:=HA.out g hm;omega));have P6:=hide hP6;clear hL6 hF6 hP6 hO6 L5 F5 R5;cases ok6
 ·have HP:Hid (ld t=none):=by
   rcases P6.out with ⟨h,_⟩|⟨_,h⟩
   ·cases h
   ·show _=_;rw[HL5.out];unfold pM4;rw[h];rfl
  have e0:=R6.out.c 0 (by omega);have e1:=R6.out.c 1 (by omega);have e2:=R6.out.c 2 (by omega);have e3:=R6.out.c 3 (by omega);have e4:=R6.out.c 4 (by omega);have e5:=R6.out.c 5 (by omega);have ez:=R6.out.z;go_wp2;refine bodyPost_ret (results_cell_tmpA rfl _ _ w.heap.size V6.z.cells rfl (loadProg (set6_row _ _ _ _ _ _ R6.out) rfl)) rfl ?_;exact ⟨F6.out.over (set6_frm _ _ _ _ _ _ _ _) (by simp), .inl ⟨HP.out,rfl⟩⟩
 have HL6:Hid (ld t=ldE (pM5 x3 x4 x5 x6 (t.drop i6))):=by
  rcases P6.out with ⟨_,h⟩|⟨h,_⟩
  ·show _=_;rw[HL5.out];unfold pM4;rw[h];rfl
  ·cases h
 clear P6 HL5;have N7:=hide (takeRoutes_any (w.heap.size+1) t i6 _ w6 L6.out rfl (w.heap.size::A) (by intro g hg;simp at hg;rcases hg with h|h;omega;have:=HA.out g h;omega));go_wp2_with fail
 refine (N7.out).mono ?_;clear N7;rintro e w7 ⟨i7,ok7,v7,x7,css7,rfl,hL7,hF7,hP7,hO7,hI7⟩;obtain ⟨a7,c7,he7⟩:=hO7.shape;rw[lst_len]at he7;subst he7;have L7:=hide hL7;have F7:=hide (F6.out.over hF7 (by intro x hx;simp at hx;left;omega));have R7:Hid (LZ w7 w.heap.size):=(hF7.block w.heap.size (by omega) (by simp)).trans R6.out;have hz7:=hF7.size;have Q3n:=hide (Q3.out.frm hF7 (by simp));clear Q3;have Q3:=Q3n;clear Q3n;have Q4n:=hide (Q4.out.frm hF7 (by simp));clear Q4;have Q4:=Q4n;clear Q4n;have Q5n:=hide (Q5.out.frm hF7 (by simp));clear Q5;have Q5:=Q5n;clear Q5n;have I5n:=hide (I5.out.frm hF7 (by simp));clear I5;have I5:=I5n;clear I5n;have Q6n:=hide (Q6.out.frm hF7 (by simp));clear Q6;have Q6:=Q6n;clear Q6n;have Q7:=hide (hO7.rw (A:=(w.heap.size+1)::w.heap.size::A) (fun g hg hm=>by have:=(hO7.lt hg).1;simp at hm;rcases hm with hm|hm|hm;omega;omega;have:=HA.out g hm;omega));have P7:=hide hP7;have I7:Hid (RowI hitI ((w.heap.size+1)::w.heap.size::A) w7 css7 x7):=hI7.avoid (by intro g hg;left;simp at hg ⊢;rcases hg with h|h|h<;>simp[h]);clear hL7 hF7 hP7 hO7 hI7 L6 F6 R6;cases ok7
 ·have HP:Hid (ld t=none):=by
   rcases P7.out with ⟨h,_⟩|⟨_,h⟩
   ·cases h
   ·show _=_;rw[HL6.out];unfold pM5;rw[h];rfl
  have e0:=R7.out.c 0 (by omega);have e1:=R7.out.c 1 (by omega);have e2:=R7.out.c 2 (by omega);have e3:=R7.out.c 3 (by omega);have e4:=R7.out.c 4 (by omega);have e5:=R7.out.c 5 (by omega);have ez:=R7.out.z;go_wp2;refine bodyPost_ret (results_cell_tmpA rfl _ _ w.heap.size V6.z.cells rfl (loadProg (set6_row _ _ _ _ _ _ R7.out) rfl)) rfl ?_;exact ⟨F7.out.over (set6_frm _ _ _ _ _ _ _ _) (by simp), .inl ⟨HP.out,rfl⟩⟩
 have HL7:Hid (ld t=ldE (pM6 x3 x4 x5 x6 x7 (t.drop i7))):=by
  rcases P7.out with ⟨_,h⟩|⟨h,_⟩
  ·show _=_;rw[HL6.out];unfold pM5;rw[h];rfl
  ·cases h
 clear P7 HL6;have hcl7:css7.length=x7.length:=I7.out.1;rw[hcl7]at L7 Q7;have N8:=hide (takeInstructions_any (w.heap.size+1) t i7 _ x7.length x6.length w7 L7.out ⟨_,_,rfl⟩ ⟨_,_,rfl⟩ rfl);go_wp2_with fail
 refine (N8.out).mono ?_;clear N8;rintro e w8 ⟨i8,ok8,v8,x8,rfl,hL8,hF8,hP8,hO8⟩;obtain ⟨a8,c8,he8⟩:=hO8.shape;rw[icl_len]at he8;subst he8;have L8:=hide hL8;have F8:=hide (F7.out.over hF8 (by intro x hx;simp at hx;left;omega));have R8:Hid (LZ w8 w.heap.size):=(hF8.block w.heap.size (by omega) (by simp)).trans R7.out;have hz8:=hF8.size;have Q3n:=hide (Q3.out.frm hF8 (by simp));clear Q3;have Q3:=Q3n;clear Q3n;have Q4n:=hide (Q4.out.frm hF8 (by simp));clear Q4;have Q4:=Q4n;clear Q4n;have Q5n:=hide (Q5.out.frm hF8 (by simp));clear Q5;have Q5:=Q5n;clear Q5n;have I5n:=hide (I5.out.frm hF8 (by simp));clear I5;have I5:=I5n;clear I5n;have Q6n:=hide (Q6.out.frm hF8 (by simp));clear Q6;have Q6:=Q6n;clear Q6n;have Q7n:=hide (Q7.out.frm hF8 (by simp));clear Q7;have Q7:=Q7n;clear Q7n;have I7n:=hide (I7.out.frm hF8 (by simp));clear I7;have I7:=I7n;clear I7n;have Q8:=hide (hO8.rw (A:=(w.heap.size+1)::w.heap.size::A) (fun g hg hm=>by have:=(hO8.lt hg).1;simp at hm;rcases hm with hm|hm|hm;omega;omega;have:=HA.out g hm;omega));have P8:=hide hP8;clear hL8 hF8 hP8 hO8 L7 F7 R7;cases ok8
 ·have HP:Hid (ld t=none):=by
   rcases P8.out with ⟨h,_⟩|⟨_,h⟩
   ·cases h
   ·show _=_;rw[HL7.out];unfold pM6;rw[h];rfl
  have e0:=R8.out.c 0 (by omega);have e1:=R8.out.c 1 (by omega);have e2:=R8.out.c 2 (by omega);have e3:=R8.out.c 3 (by omega);have e4:=R8.out.c 4 (by omega);have e5:=R8.out.c 5 (by omega);have ez:=R8.out.z;go_wp2;refine bodyPost_ret (results_cell_tmpA rfl _ _ w.heap.size V6.z.cells rfl (loadProg (set6_row _ _ _ _ _ _ R8.out) rfl)) rfl ?_;exact ⟨F8.out.over (set6_frm _ _ _ _ _ _ _ _) (by simp), .inl ⟨HP.out,rfl⟩⟩
 have HL8:Hid (ld t=ldE (some (⟨x3,x4,x5,x6,x7,x8⟩,t.drop i8))):=by
  rcases P8.out with ⟨_,h⟩|⟨h,_⟩
  ·show _=_;rw[HL7.out];unfold pM6;rw[h];rfl
  ·cases h
 clear P8 HL7;have c1:=L8.out.c1;have hi8:=L8.out.2.1;have g2:=L8.out.cn;have g3:=L8.out.cc;have g4:=L8.out.ca;have g5:=L8.out.ct;have g6:=L8.out.cr;have g7:=L8.out.ci
 by_cases hend:i8<t.length
 ·have hd8:decide (i8<t.length)=true:=decide_eq_true hend
  have hd9:decide ((i8:Int)<(t.length:Int))=true:=decide_eq_true (by omega);have HP:Hid (ld t=none):=by
   show _=_;rw[HL8.out];unfold ldE;simp only[Option.bind_some];rw[if_neg];intro e;have:=congrArg List.length e;rw[List.length_drop]at this;simp at this;omega
  have e0:=R8.out.c 0 (by omega);have e1:=R8.out.c 1 (by omega);have e2:=R8.out.c 2 (by omega);have e3:=R8.out.c 3 (by omega);have e4:=R8.out.c 4 (by omega);have e5:=R8.out.c 5 (by omega);have ez:=R8.out.z;go_wp2;refine bodyPost_ret (results_cell_tmpA rfl _ _ w.heap.size V6.z.cells rfl (loadProg (set6_row _ _ _ _ _ _ R8.out) rfl)) rfl ?_;exact ⟨F8.out.over (set6_frm _ _ _ _ _ _ _ _) (by simp), .inl ⟨HP.out,rfl⟩⟩
 have hd8:decide (i8<t.length)=false:=decide_eq_false hend;have hd9:decide ((i8:Int)<(t.length:Int))=false:=decide_eq_false (by omega);have HP:Hid (ld t=some ⟨x3,x4,x5,x6,x7,x8⟩):=by
  show _=_;rw[HL8.out];unfold ldE;simp only[Option.bind_some];rw[if_pos (List.drop_eq_nil_of_le (by omega))]
 have e0:=R8.out.c 0 (by omega);have e1:=R8.out.c 1 (by omega);have e2:=R8.out.c 2 (by omega);have e3:=R8.out.c 3 (by omega);have e4:=R8.out.c 4 (by omega);have e5:=R8.out.c 5 (by omega);have ez:=R8.out.z;have G8:Hid (PG ((w.heap.size+1)::w.heap.size::A) w8 ⟨.slice a3 x3.length c3, .slice a4 x4.length c4, .slice a5 x5.length c5, .slice a6 x6.length c6, .slice a7 x7.length c7, .slice a8 x8.length c8⟩ ⟨x3,x4,x5,x6,x7,x8⟩):=⟨Q3.out,Q4.out,⟨css5,Q5.out,I5.out⟩,Q6.out,⟨css7,Q7.out,I7.out⟩,Q8.out⟩;clear HL8 Q3 Q4 Q5 Q6 Q7 Q8 I5 I7 L8;go_wp2;refine bodyPost_ret (results_cell_tmpA rfl _ _ w.heap.size (V6.cells ⟨.slice a3 x3.length c3, .slice a4 x4.length c4, .slice a5 x5.length c5, .slice a6 x6.length c6, .slice a7 x7.length c7, .slice a8 x8.length c8⟩) rfl (loadProg (set6_row _ _ _ _ _ _ R8.out) rfl)) rfl ?_;refine ⟨F8.out.over (set6_frm _ _ _ _ _ _ _ _) (by simp), .inr ⟨⟨x3,x4,x5,x6,x7,x8⟩,⟨.slice a3 x3.length c3, .slice a4 x4.length c4, .slice a5 x5.length c5, .slice a6 x6.length c6, .slice a7 x7.length c7, .slice a8 x8.length c8⟩,HP.out,rfl,(G8.out.frm (set6_frm _ _ _ _ _ _ _ _) (by simp)).avoid (by intro g hg;left;simp[hg]),?_⟩⟩;intro x hx;simp[V6.cells]at hx;rcases hx with rfl|rfl|rfl|rfl|rfl|rfl<;>rfl
def ALoadQ(A:List Nat)(t:List UInt8)(w:World)(e:Ending)(w':World):Prop :=
 Frm [] w w'∧((ld t=none∧e=.returned (.tuple #[.pointer none, .int .i64 9]))∨(∃ m V pb,ld t=some m∧e=.returned (.tuple #[.pointer (some ⟨pb,0,none⟩), .int .i64 0])∧PR A w' pb V m∧w.heap.size≤pb))
theorem aLoad_any(A:List Nat)(t:List UInt8)(w:World)(ht:t.length≤262144)(hA:∀ g∈A,g<w.heap.size) :
 Calls Tryz.prog 11 #[.string (bs t)] w (ALoadQ A t w):=by
 have N1:=hide (pLoad_any A t w ht hA);have HA:=hide hA;clear hA;go_enter Tryz.func11,Tryz.ntmps11
 go_wp2_with fail
 refine (N1.out).mono ?_;clear N1;rintro e w1 ⟨hF1,h1⟩;have F1:=hide hF1;have hz1:=hF1.size;clear hF1;rcases h1 with ⟨hl,rfl⟩|⟨m,V,hl,rfl,hG,hc⟩
 ·have HL:=hide hl
  clear hl;simp only[V6.z,V6.cells];go_wp2;go_ret2;exact ⟨F1.out.alloc _, .inl ⟨HL.out,rfl⟩⟩
 ·have HL:=hide hl
  have G:=hide hG;obtain ⟨a1,c1,e1⟩:=hG.n.shape;obtain ⟨a2,c2,e2⟩:=hG.c.shape;obtain ⟨css,h3,_⟩:=hG.a;obtain ⟨a3,c3,e3⟩:=h3.shape;obtain ⟨a4,c4,e4⟩:=hG.t.shape;obtain ⟨dss,h5,_⟩:=hG.r;obtain ⟨a5,c5,e5⟩:=h5.shape;obtain ⟨a6,c6,e6⟩:=hG.i.shape;obtain ⟨v1,v2,v3,v4,v5,v6⟩:=V;simp only at e1 e2 e3 e4 e5 e6;generalize (sc m.names).length=n1 at *;generalize (sc m.consts).length=n2 at *;generalize (lst css).length=n3 at *;generalize (tc m.tests).length=n4 at *;generalize (lst dss).length=n5 at *;generalize (icl m.code).length=n6 at *;subst e1 e2 e3 e4 e5 e6;clear hl hG h3 h5 hc;simp only[V6.cells];go_wp2;go_ret2;refine ⟨(F1.out.alloc _).alloc _, .inr ⟨m,⟨.slice a1 n1 c1, .slice a2 n2 c2, .slice a3 n3 c3, .slice a4 n4 c4, .slice a5 n5 c5, .slice a6 n6 c6⟩,w1.heap.size+1,HL.out,rfl,⟨?_,?_,fun hm=>by have:=HA.out _ hm;omega⟩,by omega⟩⟩
  ·have:=heap1 (w1.alloc (Obj.cells (V6.cells ⟨.slice a1 n1 c1, .slice a2 n2 c2, .slice a3 n3 c3, .slice a4 n4 c4, .slice a5 n5 c5, .slice a6 n6 c6⟩) 58)) (Obj.cells (V6.cells ⟨.slice a1 n1 c1, .slice a2 n2 c2, .slice a3 n3 c3, .slice a4 n4 c4, .slice a5 n5 c5, .slice a6 n6 c6⟩) 62)
   rw[show (w1.alloc (Obj.cells (V6.cells ⟨.slice a1 n1 c1, .slice a2 n2 c2, .slice a3 n3 c3, .slice a4 n4 c4, .slice a5 n5 c5, .slice a6 n6 c6⟩) 58)).heap.size=w1.heap.size+1 by simp]at this;exact this
  ·exact (G.out.avoid (B:=(w1.heap.size+1)::A) (by intro g hg;simp at hg;rcases hg with h|h;right;omega;left;exact h)).frm (S:=[]) (((Frm.refl [] _).alloc _).alloc _) (by simp)
end Go.Proofs.YtpcbbbilmpobaaaGreatDoor
