import Derived.Test.YtjkialjoamgbgaaGreatJ42
import Derived.Test.YtjkialjoamgbgaaGreatJ43
import Derived.BigRegion
set_option linter.unusedVariables false
set_option linter.unusedSimpArgs false
set_option linter.unnecessarySimpa false
set_option maxRecDepth 100000
set_option maxHeartbeats 4000000
namespace Go.Proofs.YtjkialjoamgbgaaGreat
open Go.RowKit
theorem RQ.first{base:Nat}{w w1 w':World}{fb vb:Nat}{D:List NF}{ak c:Nat}{U:List NF}{Z:List Nat}{y:NF}{e:Ending}(f:Frm [] w w1)(h:RQ base w1 fb vb D ak c U Z y e w'):RQ base w fb vb D ak c U Z y e w' :=
 RQ.later (R:=[]) (FQ.keepR (FQ.refl _ _ _) f) (by simpa using h)
theorem beqZ{a b:Nat}(h:a=b):((a:Int)==(b:Int))=true:=by subst h;simp
theorem beqF{a b:Nat}(h:a≠b):((a:Int)==(b:Int))=false:=by rw[beq_eq_false_iff_ne];omega
theorem beqZ0{a:Nat}(h:a≠0):((a:Int)==0)=false:=by rw[beq_eq_false_iff_ne];omega
theorem beqZ1{a:Nat}(h:a≠1):((a:Int)==1)=false:=by rw[beq_eq_false_iff_ne];omega
theorem nil_av(Z:List Nat):∀ x n c,(Value.slice none 0 0)=.slice (some x) n c→x.block∉Z:=by intro x n c e;simp at e
def setN(s:Nat):NF:=if s=0 then .zero else .set s
theorem eqBS0{s:Nat}(hs:s<2 ^ 256)(w:World):(Op.equalIn 10000 187 (.agg #[.int .u64 (wd s 0), .int .u64 (wd s 1), .int .u64 (wd s 2), .int .u64 (wd s 3)]) (.agg #[.int .u64 0, .int .u64 0, .int .u64 0, .int .u64 0])).run Tryz.prog w=.ok (decide (s=0)) w:=by
 have:=eqBSw hs (t:=0) (by decide) w
 simpa[wd] using this
theorem cells0(kd fi se:Nat)(vp:Value)(te:Bool)(ki fii sei:Int)(h1:(kd:Int)=ki)(h2:(fi:Int)=fii)(h3:(se:Int)=sei):FV.cells ⟨kd,0,fi,se,vp,te,0,0,0⟩=#[.int .i64 ki, .int .u64 0, .int .u64 0, .int .u64 0, .int .u64 0, .int .i64 fii, .int .i64 sei,vp, .bool te, .int .i64 0, .int .i64 0, .int .i64 0]:=by
 subst h1 h2 h3
 simp[FV.cells,wd]
theorem cells2(s:Nat):FV.cells ⟨2,s,0,0, .slice none 0 0,false,0,0,0⟩=#[.int .i64 2, .int .u64 (wd s 0), .int .u64 (wd s 1), .int .u64 (wd s 2), .int .u64 (wd s 3), .int .i64 0, .int .i64 0, .slice none 0 0, .bool false, .int .i64 0, .int .i64 0, .int .i64 0]:=by
 simp[FV.cells]
theorem bv0:bv 0=.agg #[.int .u64 0, .int .u64 0, .int .u64 0, .int .u64 0]:=by simp[bv,wd]
theorem eqBS00(w:World):(Op.equalIn 10000 187 (.agg #[.int .u64 0, .int .u64 0, .int .u64 0, .int .u64 0]) (.agg #[.int .u64 0, .int .u64 0, .int .u64 0, .int .u64 0])).run Tryz.prog w=.ok true w:=by
 have:=eqBS0 (s:=0) (by decide) w
 simpa[wd] using this
theorem RE.first{base:Nat}{w w1 w':World}{fb vb:Nat}{E:List (FV × List Nat)}{D:List NF}{ak c:Nat}{U:List NF}{Z:List Nat}{y:NF}{vp:Value}{L:List Nat}{e:Ending}(f:Frm [] w w1)(h:RE base w1 fb vb E D ak c U Z y vp L e w'):RE base w fb vb E D ak c U Z y vp L e w':=by
 obtain ⟨vb',R,r,E',B',h1,h2,h3,h4,h5,h6,h7,h8⟩:=h
 exact ⟨vb',R,r,E',B',h1,h2,h3,h4,h5,h6,FQ.keepL f h7,h8⟩
theorem set_E(base:Nat)(w:World)(fb vb:Nat)(E:List (FV × List Nat))(B:List Nat)(D:List NF)(ak c:Nat)(U:List NF)(Z:List Nat)(s:Nat)(hE:TE base w fb vb E B ak)(hP:TP E B D ak c)(hUD:∀ x∈D,x∈U)(hUl:U.length≤1000000000000)(hs:s<2 ^ 256)(hU:s≠0→.set s∈U)(hzz:ZZ w E Z) :
 Calls Tryz.prog 112 #[.pointer (some ⟨fb,0,none⟩),bv s] w (RE base w fb vb E D ak c U Z (setN s) (.slice none 0 0) []):=by
 have HD0:=hide hP.tb.d0
 by_cases h0:s=0
 ·subst h0
  rw[bv0]
  have EQ:=eqBS00
  have HE:=hide hE
  have HP:=hide hP
  clear hE hP
  go_enter Tryz.func112,Tryz.ntmps112
  go_wp2
  go_ret
  exact ⟨vb,[],0,E,B,rfl,HE.out.keep ((Frm.refl _ _).alloc _),by simpa using HP.out,by simpa using hUD,hUl,by simpa[setN] using HD0.out,FQ.keepR (FQ.refl _ _ _) ((Frm.refl _ _).alloc _),fun e he=>.inl he,hzz.mono (by simp)⟩
 ·have N1:Hid (∀ w',Frm [] w w'→Calls Tryz.prog 122 #[.pointer (some ⟨fb,0,none⟩), .agg #[.int .i64 2, .int .u64 (wd s 0), .int .u64 (wd s 1), .int .u64 (wd s 2), .int .u64 (wd s 3), .int .i64 0, .int .i64 0, .slice none 0 0, .bool false, .int .i64 0, .int .i64 0, .int .i64 0]] w' (RE base w' fb vb E D ak c U Z (.set s) (.slice none 0 0) [])):=by
   intro w' F
   have:=number_E base w' fb vb E B D ak c U Z ⟨2,s,0,0, .slice none 0 0,false,0,0,0⟩ [] (.set s) (hE.keep F) hP hUD hUl (PL.nil _) hs (.inl ⟨rfl,rfl,rfl,rfl,rfl⟩) ⟨⟨Nat.pos_of_ne_zero h0,hs⟩,trivial⟩ (hU h0) rfl rfl (hzz.mono F.size) (nil_av Z)
   rw[cells2]at this;exact this
  have EQ:=eqBS0 hs
  have hsn:Hid (setN s=.set s):=by show _=_;simp[setN,h0]
  have hdz:decide (s=0)=false:=by simp[h0]
  rw[hsn.out]
  unfold bv
  clear hE hP
  go_enter Tryz.func112,Tryz.ntmps112
  go_wp2_with (go_at_call 122;refine (N1.out _ ((Frm.refl _ _).alloc _)).mono ?_;rintro e w2 hre;have R2:=hide (RE.first ((Frm.refl _ _).alloc _) hre);obtain ⟨_,_,r,_,_,rfl,_⟩:=hre)
  go_ret
  exact R2.out
theorem set_any(base:Nat)(w:World)(fb vb:Nat)(D:List NF)(ak c:Nat)(U:List NF)(Z:List Nat)(s:Nat)(h:ST base w fb vb D ak c U Z)(hs:s<2 ^ 256)(hU:s≠0→.set s∈U) :
 Calls Tryz.prog 112 #[.pointer (some ⟨fb,0,none⟩),bv s] w (RQ base w fb vb D ak c U Z (setN s)):=by
 obtain ⟨E,B,hE,hP,hUD,hUl,hzz⟩:=h
 exact (set_E base w fb vb E B D ak c U Z s hE hP hUD hUl hs hU hzz).mono fun e w' hr=>hr.rq
theorem star_any(base:Nat)(w:World)(fb vb:Nat)(D:List NF)(ak c:Nat)(U:List NF)(Z:List Nat)(a:NF)(i:Nat)(h:ST base w fb vb D ak c U Z)(hi:D[i]?=some a)(hU:starN a∈U) :
 Calls Tryz.prog 124 #[.pointer (some ⟨fb,0,none⟩), .int .i64 i] w (RQ base w fb vb D ak c U Z (starN a)):=by
 have HS:=hide h
 obtain ⟨f,L,cap,K⟩:=h.look hi
 have hlt:=K.lt
 have hlen:=h.len
 have t0:=K.tab
 have k0:=K.get.1
 have HD0:=hide h.tbl.1
 have HD1:=hide h.tbl.2.1
 have n0:=h.num hi h.tbl.1
 have n1:=h.num hi h.tbl.2.1
 have HI:=hide hi
 have kd:=K.kd
 rw[kd]at k0
 clear hi kd K
 by_cases e0:i=0
 ·have:=n0.1 e0;subst this;subst e0
  clear n0 n1
  go_enter Tryz.func124,Tryz.ntmps124
  go_wp2
  go_ret
  exact RQ.here (r:=1) h (Frm.refl _ _) HD1.out
 ·by_cases e1:i=1
  ·have:=n1.1 e1;subst this;subst e1
   clear n0 n1
   go_enter Tryz.func124,Tryz.ntmps124
   go_wp2
   go_ret
   exact RQ.here (r:=1) h (Frm.refl _ _) HD1.out
  ·have b0:=beqZ0 e0
   have b1:=beqZ1 e1
   have m0:a≠.zero:=fun e=>e0 (n0.2 e)
   have m1:a≠.one:=fun e=>e1 (n1.2 e)
   clear n0 n1
   have N1:Hid (∀ w',Frm [] w w'→(∀ x,a≠.star x)→Calls Tryz.prog 122 #[.pointer (some ⟨fb,0,none⟩), .agg #[.int .i64 5, .int .u64 0, .int .u64 0, .int .u64 0, .int .u64 0, .int .i64 i, .int .i64 0, .slice none 0 0, .bool true, .int .i64 0, .int .i64 0, .int .i64 0]] w' (RQ base w' fb vb D ak c U Z (starN a))):=by
    intro w' F hns
    have hsa:starN a=.star a:=by cases a<;>first | rfl|exact absurd rfl m0|exact absurd rfl m1|exact absurd rfl (hns _)
    have hw:=h.tbl.2.2.2.1 a (List.mem_of_getElem? HI.out)
    rw[hsa]at hU ⊢
    have hw2:=WC.star hw
    rw[hsa]at hw2
    have:=number_any base w' fb vb D ak c U Z ⟨5,0,i,0, .slice none 0 0,true,0,0,0⟩ [] (.star a) (h.keep F) (PL.nil _) (Nat.two_pow_pos 256) (.inr (.inr (.inr ⟨rfl,rfl,rfl,rfl,hlt,a,HI.out,rfl⟩))) hw2 hU rfl rfl (nil_av Z)
    rw[cells0 5 i 0 _ _ 5 i 0 rfl rfl rfl]at this;exact this
   have hlt2:(i:Int)<D.length:=by omega
   cases a with
   | star x =>
     clear N1
     go_enter Tryz.func124,Tryz.ntmps124
     simp only[kindN]at k0
     go_wp2
     go_ret
     exact RQ.here (r:=i) h (Frm.refl _ _) HI.out
   | zero=>exact absurd rfl m0
   | one=>exact absurd rfl m1
   | _ =>
     have N2:=hide (N1.out w (Frm.refl _ _) (by intro x e;simp at e))
     clear N1
     simp only[kindN]at k0
     go_enter Tryz.func124,Tryz.ntmps124
     go_wp2_with (go_at_call 122;refine (N2.out).mono ?_;rintro e w2 ⟨vb',R,r,rfl,hst,hr,hq⟩;have R2:=hide (show RQ base w fb vb D ak c U Z _ (.returned (.int .i64 (r:Nat))) w2 from ⟨vb',R,r,rfl,hst,hr,hq⟩);clear hst hr hq)
     go_ret
     exact R2.out
open Go.RowKit
theorem partsOf_any(base:Nat)(w0 w:World)(fb vb:Nat)(D:List NF)(ak c:Nat)(U:List NF)(Z:List Nat)(a:NF)(i:Nat)(h:ST base w0 fb vb D ak c U Z)(F0:Frm [] w0 w)(hi:D[i]?=some a) :
 Calls Tryz.prog 134 #[.pointer (some ⟨fb,0,none⟩), .int .i64 i] w fun e w'=>∃ v L,e=.returned v∧PL w' v L∧(∀ j∈L,j<D.length)∧(∀ p,p∈parts a↔p∈L.map fun j=>D.getD j .zero)∧L.length≤(parts a).length∧(L≠[]→∀ x n cp,v=.slice (some x) n cp→x.block<w0.heap.size∨x.block=w.heap.size)∧Frm [] w w':=by
 obtain ⟨f,L,cap,K⟩:=h.look hi
 have hlt:=K.lt
 have hlen:=h.len
 have hvb:=h.tbl.2.2.2.2.2
 have t0:=(F0.cell (p:=⟨fb,0,none⟩) (by show fb<_;omega) (by simp)).trans K.tab
 have k0:=(F0.cell (p:=⟨vb,i*12,none⟩) hvb.2.2.2.1 (by simp)).trans K.get.1
 have k7:=(F0.cell (p:=⟨vb,i*12+7,none⟩) hvb.2.2.2.1 (by simp)).trans K.get.2.2.2.2.2.2.2.1
 have HD0:=hide h.tbl.1
 have n0:=h.num hi h.tbl.1
 have HI:=hide hi
 have kd:=K.kd
 have KS:=hide K.sum
 have KP:=hide K.pl
 have HW:=hide h.tbl.2.2.2.1
 have HND:=hide h.tbl.2.2.1
 rw[kd]at k0
 clear hi kd K
 have hgd:Hid (D.getD i .zero=a):=by show _=_;simp[List.getD,HI.out]
 by_cases e0:i=0
 ·have:=n0.1 e0;subst this;subst e0
  clear n0
  go_enter Tryz.func134,Tryz.ntmps134
  go_wp2
  go_ret
  exact ⟨_,[],rfl,PL.nil _,by simp,by simp[parts],by simp,by simp,Frm.refl _ _⟩
 ·have b0:=beqZ0 e0
  have m0:a≠.zero:=fun e=>e0 (n0.2 e)
  clear n0
  have hlt2:(i:Int)<D.length:=by omega
  by_cases hsum:∃ l,a=.sum l
  ·obtain ⟨l,rfl⟩:=hsum
   simp only[kindN]at k0
   have hl:=KS.out l rfl
   have hr:l.length=L.length∧∀ p,p∈l↔p∈L.map fun j=>D.getD j .zero:=by
    have ht:=map_tell HW.out hl.1
    refine ⟨?_,fun p=>?_⟩
    ·rw[hl.2.1,srt_len ht (map_nodup HND.out hl.2.2 hl.1)];simp
    ·rw[hl.2.1];exact srt_mem_iff ht
   have HR:=hide hr
   have HL:=hide hl
   clear hl hr
   go_enter Tryz.func134,Tryz.ntmps134
   go_wp2
   go_ret
   refine ⟨_,L,rfl,KP.out.frm F0 (NoInt.nil _),HL.out.1,by simpa[parts] using HR.out.2,by simp[parts,HR.out.1],?_,Frm.refl _ _⟩
   intro hne x n cp e
   obtain ⟨a3,c3,e3,h3⟩:=KP.out.1
   obtain ⟨g,off,e4,hg,_⟩:=h3 0 (List.length_pos_iff.2 hne)
   rw[e3,e4]at e
   simp at e
   obtain ⟨rfl,_⟩:=e
   exact .inl hg
  ·have hk4:kindN a≠4:=by cases a<;>simp_all[kindN]
   have hk4':((kindN a:Int)==4)=false:=by rw[beq_eq_false_iff_ne];omega
   have hpa:Hid (parts a=[a]):=by show _=_;cases a<;>simp_all[parts]
   go_enter Tryz.func134,Tryz.ntmps134
   go_wp2
   go_ret
   refine ⟨_,[i],rfl,?_,by simpa using hlt,?_,by simp[hpa.out],fun _ x n cp e=>by simp at e;obtain ⟨rfl,_⟩:=e;exact .inr rfl,(Frm.refl _ _).alloc _⟩
   ·exact PL.of_row (base:=w.heap.size) (World.ownsRow_lit _ #[.int .i64 i] 1 (Nat.le_refl _) (by unfold maxLen;omega) (by simp)) (by simp)
   ·intro p;rw[hpa.out];simp only[List.map_cons,List.map_nil,hgd.out]
open Go.RowKit
def ThenOK(A:NF):Prop:=∀ (base:Nat) (w:World) (fb vb:Nat) (D:List NF) (ak c:Nat) (U:List NF) (Z:List Nat) (B:NF) (i j:Nat),ST base w fb vb D ak c U Z→D[i]?=some A→D[j]?=some B→(∀ f∈crT A B,f∈U) →
    Calls Tryz.prog 125 #[.pointer (some ⟨fb,0,none⟩), .int .i64 i, .int .i64 j] w (RQ base w fb vb D ak c U Z (thenN A B))
theorem kind3{a:NF}(h:∀ x y,a≠.pair x y):((kindN a:Int)==3)=false:=by
 rw[beq_eq_false_iff_ne]
 cases a<;>simp[kindN]
 exact h _ _ rfl
theorem then_any(A:NF):ThenOK A:=by
 refine NF.ind (P:=ThenOK) ?_ A
 intro A ih base w fb vb D ak c U Z B i j h hi hj hU
 obtain ⟨f,L,cap,K⟩:=h.look hi
 obtain ⟨f2,L2,cap2,K2⟩:=h.look hj
 have hlt:=K.lt
 have hlt':=K2.lt
 have hlen:=h.len
 have t0:=K.tab
 obtain ⟨c0,c1,c2,c3,c4,c5,c6,c7,c8,c9,c10,c11⟩:=K.get
 have d8:=K2.get.2.2.2.2.2.2.2.2.1
 have HD0:=hide h.tbl.1
 have HD1:=hide h.tbl.2.1
 have HI:=hide hi
 have HJ:=hide hj
 have n0:=h.num hi h.tbl.1
 have n1:=h.num hi h.tbl.2.1
 have o0:=h.num hj h.tbl.1
 have o1:=h.num hj h.tbl.2.1
 have kd:=K.kd
 have te:=K.te
 have te2:=K2.te
 obtain ⟨av,capv,hvp,_⟩:=K.pl.1
 rw[hvp]at c7
 clear hvp
 have KP:=hide K.pair
 have HS:=hide h
 have HU:=hide hU
 have wA:=h.tbl.2.2.2.1 A (List.mem_of_getElem? hi)
 have wB:=h.tbl.2.2.2.1 B (List.mem_of_getElem? hj)
 have hvb:=h.tbl.2.2.2.2.2
 rw[kd]at c0
 rw[te]at c8
 rw[te2]at d8
 clear hi hj kd te te2 K K2 hU h
 have hlt1:(i:Int)<D.length:=by omega
 have hlt2:(j:Int)<D.length:=by omega
 by_cases e0:i=0
 ·have:=n0.1 e0;subst this;subst e0
  clear n0 n1 o0 o1
  go_enter Tryz.func125,Tryz.ntmps125
  go_wp2
  go_ret
  exact RQ.here (r:=0) HS.out (Frm.refl _ _) HD0.out
 have b0:=beqZ0 e0
 have m0:A≠.zero:=fun e=>e0 (n0.2 e)
 by_cases e1:j=0
 ·have:=o0.1 e1;subst this;subst e1
  clear n0 n1 o0 o1
  go_enter Tryz.func125,Tryz.ntmps125
  go_wp2
  go_ret
  exact RQ.here (r:=0) HS.out (Frm.refl _ _) (by rw[thenN_zero];exact HD0.out)
 have b1:=beqZ0 e1
 have p0:B≠.zero:=fun e=>e1 (o0.2 e)
 by_cases e2:i=1
 ·have:=n1.1 e2;subst this;subst e2
  clear n0 n1 o0 o1
  go_enter Tryz.func125,Tryz.ntmps125
  go_wp2
  go_ret
  exact RQ.here (r:=j) HS.out (Frm.refl _ _) HJ.out
 have b2:=beqZ1 e2
 have m1:A≠.one:=fun e=>e2 (n1.2 e)
 by_cases e3:j=1
 ·have:=o1.1 e3;subst this;subst e3
  clear n0 n1 o0 o1
  go_enter Tryz.func125,Tryz.ntmps125
  go_wp2
  go_ret
  exact RQ.here (r:=i) HS.out (Frm.refl _ _) (by rw[thenN_one];exact HI.out)
 have b3:=beqZ1 e3
 have p1:B≠.one:=fun e=>e3 (o1.2 e)
 clear n0 n1 o0 o1
 have hbt:tailN B=true:=by cases B<;>simp_all[tailN]
 by_cases hp:∃ x y,A=.pair x y
 ·obtain ⟨x,y,rfl⟩:=hp
  have hpr:=KP.out x y rfl
  simp only[kindN]at c0
  go_enter Tryz.func125,Tryz.ntmps125
  go_wp2_with fail
  have F1:Frm [] w (w.alloc (Obj.cells #[.int .i64 3, .int .u64 (wd f.s 0), .int .u64 (wd f.s 1), .int .u64 (wd f.s 2), .int .u64 (wd f.s 3), .int .i64 f.fi, .int .i64 f.se, .slice av L.length capv, .bool (nul (.pair x y)), .int .i64 f.lk, .int .i64 f.ak, .int .i64 f.lf] 198)):=(Frm.refl _ _).alloc _
  have hb1:=heap1 w (Obj.cells #[.int .i64 3, .int .u64 (wd f.s 0), .int .u64 (wd f.s 1), .int .u64 (wd f.s 2), .int .u64 (wd f.s 3), .int .i64 f.fi, .int .i64 f.se, .slice av L.length capv, .bool (nul (.pair x y)), .int .i64 f.lk, .int .i64 f.ak, .int .i64 f.lf] 198)
  have z1:(w.alloc (Obj.cells #[.int .i64 3, .int .u64 (wd f.s 0), .int .u64 (wd f.s 1), .int .u64 (wd f.s 2), .int .u64 (wd f.s 3), .int .i64 f.fi, .int .i64 f.se, .slice av L.length capv, .bool (nul (.pair x y)), .int .i64 f.lk, .int .i64 f.ak, .int .i64 f.lf] 198)).heap.size=w.heap.size+1:=by simp
  generalize w.alloc (Obj.cells #[.int .i64 3, .int .u64 (wd f.s 0), .int .u64 (wd f.s 1), .int .u64 (wd f.s 2), .int .u64 (wd f.s 3), .int .i64 f.fi, .int .i64 f.se, .slice av L.length capv, .bool (nul (.pair x y)), .int .i64 f.lk, .int .i64 f.ak, .int .i64 f.lf] 198)=w1 at F1 hb1 z1 ⊢
  have hcr:=HU.out
  rw[crT_pair hbt]at hcr
  refine (ih y (by simp[NF.size];omega) base w1 fb vb D ak c U Z B f.se j (HS.out.keep F1) hpr.2 HJ.out (fun g hg=>hcr g (by simp[hg]))).mono ?_
  rintro e w2 ⟨vb1,R,r1,rfl,hst,hr1,hq⟩
  have q5:w2.cell? ⟨w.heap.size,5,none⟩=some (.int .i64 f.fi):=by
   have:=hq.block (k:=w.heap.size) (by omega) (by omega) (by omega)
   rw[hb1]at this
   simp[World.cell?,this]
  have C2:=hide (ih x (by simp[NF.size];omega) base w2 fb vb1 (D++R) ak c U Z (thenN y B) f.fi r1 hst (get_app hpr.1) hr1 (fun g hg=>hcr g (by simp[hg])))
  have Q2:=hide (FQ.keepL F1 hq)
  have HT:Hid (thenN (.pair x y) B=thenN x (thenN y B)):=thenN_pairs hbt
  clear hcr hst hr1 hq hb1 z1 F1 hpr c0 c1 c2 c3 c4 c5 c6 c7 c8 c9 c10 c11 t0 d8 ih
  go_wp2_with fail
  refine (C2.out).mono ?_
  rintro e w3 hrq
  have R3:=hide (RQ.later Q2.out hrq)
  obtain ⟨_,_,r3,rfl,_⟩:=hrq
  go_wp2
  go_ret
  rw[HT.out];exact R3.out
 ·have k3:=kind3 (a:=A) (fun x y e=>hp ⟨x,y,e⟩)
  have hah:headN A=true:=by cases A<;>simp_all[headN]
  have HT:Hid (thenN A B=.pair A B):=thenN_head hah hbt
  have hin:(NF.pair A B)∈U:=HU.out _ (by rw[crT_head hah hbt];simp)
  have N1:Hid (∀ w',Frm [] w w'→Calls Tryz.prog 122 #[.pointer (some ⟨fb,0,none⟩), .agg #[.int .i64 3, .int .u64 0, .int .u64 0, .int .u64 0, .int .u64 0, .int .i64 i, .int .i64 j, .slice none 0 0, .bool (nul A&&nul B), .int .i64 0, .int .i64 0, .int .i64 0]] w' (RQ base w' fb vb D ak c U Z (.pair A B))):=by
   intro w' F
   have hw2:=WC.then wA wB
   rw[HT.out]at hw2
   have:=number_any base w' fb vb D ak c U Z ⟨3,0,i,j, .slice none 0 0,nul A&&nul B,0,0,0⟩ [] (.pair A B) (HS.out.keep F) (PL.nil _) (Nat.two_pow_pos 256) (.inr (.inl ⟨rfl,rfl,rfl,hlt,hlt',A,B,HI.out,HJ.out,rfl⟩)) hw2 hin rfl rfl (nil_av Z)
   rw[cells0 3 i j _ _ 3 i j rfl rfl rfl]at this;exact this
  clear hin HU
  rw[HT.out]
  have F0:Hid (∀ o,Frm [] w (w.alloc o)):=fun o=>(Frm.refl _ _).alloc o
  have hv1:=hvb.2.2.2.1
  have hv0:fb<w.heap.size:=by omega
  have t0':∀ o,(w.alloc o).cell? ⟨fb,0,none⟩=some (.slice (some ⟨vb,0,none⟩) D.length cap):=fun o=>(((Frm.refl [] w).alloc o).cell (p:=⟨fb,0,none⟩) hv0 (by simp)).trans t0
  have d8':∀ o,(w.alloc o).cell? ⟨vb,j*12+8,none⟩=some (.bool (nul B)):=fun o=>(((Frm.refl [] w).alloc o).cell (p:=⟨vb,j*12+8,none⟩) hv1 (by simp)).trans d8
  cases hnA:nul A with
  | true =>
    rw[hnA]at c8 N1
    cases hnB:nul B with
    | true =>
      rw[hnB]at d8 N1
      simp only[hnB]at d8'
      go_enter Tryz.func125,Tryz.ntmps125
      go_wp2_with (go_at_call 122;refine (N1.out _ (F0.out _)).mono ?_;rintro e w3 hrq;have R3:=hide (RQ.first (F0.out _) hrq);obtain ⟨_,_,r3,rfl,_⟩:=hrq)
      go_ret
      exact R3.out
    | false =>
      rw[hnB]at d8 N1
      simp only[hnB]at d8'
      go_enter Tryz.func125,Tryz.ntmps125
      go_wp2_with (go_at_call 122;refine (N1.out _ (F0.out _)).mono ?_;rintro e w3 hrq;have R3:=hide (RQ.first (F0.out _) hrq);obtain ⟨_,_,r3,rfl,_⟩:=hrq)
      go_ret
      exact R3.out
  | false =>
    rw[hnA]at c8 N1
    go_enter Tryz.func125,Tryz.ntmps125
    go_wp2_with (go_at_call 122;refine (N1.out _ (F0.out _)).mono ?_;rintro e w3 hrq;have R3:=hide (RQ.first (F0.out _) hrq);obtain ⟨_,_,r3,rfl,_⟩:=hrq)
    go_ret
    exact R3.out
open Go.RowKit
theorem getD_of{D:List NF}{j:Nat}{d:NF}(h:D[j]?=some d):D.getD j .zero=d:=by simp[List.getD,h]
theorem any_take_succ(R:List Nat)(g:Nat→Bool)(j:Nat)(h:j<R.length):(R.take (j+1)).any g=((R.take j).any g||g R[j]):=by
 have e:R.take (j+1)=R.take j++[R[j]]:=by rw[List.take_add_one,List.getElem?_eq_getElem h];rfl
 rw[e,List.any_append];simp only[List.any_cons,List.any_nil,Bool.or_false]
theorem sum_any(base:Nat)(w:World)(fb vb:Nat)(D:List NF)(ak c:Nat)(U:List NF)(Z:List Nat)(v:Value)(L:List Nat)(l:List NF)(h:ST base w fb vb D ak c U Z)(hv:NL .i64 w v L)(hL:L.length≤9500000000000)
 (hl:∀ j∈L,j<D.length) (ht:Tell l) (hm:∀ p,p∈l↔p∈L.map fun j=>D.getD j .zero) (hw:WC (mkS (srt l))) (hU:2≤(srt l).length→mkS (srt l)∈U) :
 Calls Tryz.prog 136 #[.pointer (some ⟨fb,0,none⟩),v] w (RQ base w fb vb D ak c U Z (mkS (srt l))):=by
 have hlen:=h.len
 have R1:=hide (xrising_any v L w hv hL)
 have HD0:=hide h.tbl.1
 have ND:=h.tbl.2.2.1
 have WCD:=h.tbl.2.2.2.1
 have RS:Hid (∀ R,RO R L→srt (R.map fun j=>D.getD j .zero)=srt l∧(srt l).length=R.length):=fun R hR=>ro_srt ND WCD hR hl ht hm
 have HL:=hide hl
 have HU:=hide hU
 have HW:=hide hw
 have HS:=hide h
 have HZ:=hide h.zs
 obtain ⟨av,cv,rfl,_⟩:=hv
 clear hl hU hw h ht hm
 go_enter Tryz.func136,Tryz.ntmps136
 go_wp2_with fail
 refine (R1.out).mono ?_
 rintro e w1 ⟨v',R,rfl,hil,hro,hf1⟩
 have hrs:=RS.out R hro
 have hRl:∀ j∈R,j<D.length:=fun j hj=>HL.out j ((hro.2 j).1 hj)
 have hRlen:R.length≤D.length:=by
  rw[← hrs.2,← hrs.1]
  exact nodup_len (ris_nodup (srt_ris _)) fun x hx=>by
   obtain ⟨j,hj,rfl⟩:=List.mem_map.1 (srt_mem hx)
   exact getD_mem (hRl j hj)
 have HRS:=hide hrs
 have HRO:=hide hro
 have HRL:=hide hRl
 have F1:=hide hf1
 have S1:=hide (HS.out.keep hf1)
 have IL1:=hide hil
 obtain ⟨a',c',rfl⟩:=own_shape hil
 obtain ⟨a2,c2,e2,hN⟩:=row_nl hil
 simp only[Value.slice.injEq,true_and]at e2
 obtain ⟨rfl,rfl⟩:=e2
 have HN:=hide hN
 clear hrs hro hRl hf1 hil hN R1 RS HS HL
 match R,hRlen,HRS,HRO,HRL,IL1,HN with
 | [],hRlen,HRS,HRO,HRL,IL1,HN =>
   have e:Hid (mkS (srt l)=.zero):=by show _=_;rw[← HRS.out.1];rfl
   clear HN IL1
   go_wp2
   go_ret
   rw[e.out]
   exact RQ.first F1.out (RQ.here (r:=0) S1.out (Frm.refl _ _) HD0.out)
 | [r],hRlen,HRS,HRO,HRL,IL1,HN =>
   have e:Hid (mkS (srt l)=D.getD r .zero):=by show _=_;rw[← HRS.out.1];rfl
   have hr:r<D.length:=HRL.out r (by simp)
   obtain ⟨g,off,rfl,hg,hc⟩:=HN.out 0 (by simp)
   simp only[List.getElem_cons_zero,Nat.add_zero]at hc
   clear HN IL1
   go_wp2
   go_ret
   rw[e.out]
   exact RQ.first F1.out (RQ.here (r:=r) S1.out (Frm.refl _ _) (getD_some hr))
 | r::r'::R',hRlen,HRS,HRO,HRL,IL1,HN =>
   obtain ⟨R,hR⟩:∃ R,R=r::r'::R':=⟨_,rfl⟩
   have h2:2≤R.length:=by rw[hR];simp
   rw[← hR]at hRlen HRS HRO HRL IL1 HN
   have hlR:(r::r'::R').length=R.length:=by rw[hR]
   rw[hlR]
   clear hR hlR
   have b0:=beqZ0 (a:=R.length) (by omega)
   have b1:=beqZ1 (a:=R.length) (by omega)
   go_wp2_with fail
   have N1:Hid (∀ w',Frm [] w1 w'→Calls Tryz.prog 122 #[.pointer (some ⟨fb,0,none⟩), .agg #[.int .i64 4, .int .u64 0, .int .u64 0, .int .u64 0, .int .u64 0, .int .i64 0, .int .i64 0, .slice a' R.length c', .bool ((R.take R.length).any fun j=>nul (D.getD j .zero)), .int .i64 0, .int .i64 0, .int .i64 0]] w' (RQ base w' fb vb D ak c U Z (mkS (srt l)))):=by
    intro w' F
    have hms:mkS (srt l)=.sum (srt (R.map fun j=>D.getD j .zero)):=by rw[HRS.out.1];exact mkS_many (by rw[HRS.out.2];exact h2)
    have hin:=HU.out (by rw[HRS.out.2];exact h2)
    have hww:=HW.out
    rw[hms]at hin hww ⊢
    have hpl:PL w' (.slice a' R.length c') R:=(PL.of_row IL1.out (by omega)).frm F (NoInt.nil _)
    have hte:((R.take R.length).any fun j=>nul (D.getD j .zero))=nul (.sum (srt (R.map fun j=>D.getD j .zero))):=by
     rw[List.take_length]
     show _=nulL _
     rw[nulL_any,any_congr (a:=srt (R.map fun j=>D.getD j .zero)) (b:=R.map fun j=>D.getD j .zero) (fun p=>srt_mem_iff (map_tell WCD HRL.out)),List.any_map]
     rfl
    have:=number_any base w' fb vb D ak c U Z ⟨4,0,0,0, .slice a' R.length c',(R.take R.length).any fun j=>nul (D.getD j .zero),0,0,0⟩ R _ (S1.out.keep F) hpl (Nat.two_pow_pos 256) (.inr (.inr (.inl ⟨rfl,rfl,rfl,rfl,HRO.out.1,HRL.out,rfl⟩))) hww hin hte rfl (fun x n cc e hm=>by simp at e;obtain ⟨rfl,_⟩:=e;have h1:=(IL1.out.lt _ rfl).1;have h2:=HZ.out _ hm;omega)
    rw[cells0 4 0 0 _ _ 4 0 0 rfl rfl rfl]at this;exact this
   go_loopg [6,22] R.length (fun k vt vi wr=>∃ j:Nat,j+k=R.length∧vi=.int .i64 j∧vt=.bool ((R.take j).any fun j=>nul (D.getD j .zero))∧wr=w1)
   case atStart=>exact ⟨0,by omega,rfl,by simp,rfl⟩
   case round =>
    obtain ⟨j,hj,rfl,rfl,hw⟩:=hrel
    subst hw
    by_cases hlt:j<R.length
    ·obtain ⟨g,off,rfl,hg,hc⟩:=HN.out j hlt
     have hrj:=HRL.out R[j] (List.getElem_mem hlt)
     obtain ⟨f,L2,cap,K⟩:=S1.out.look (getD_some hrj)
     have t0:=K.tab
     have k8:=K.get.2.2.2.2.2.2.2.2.1
     have hte:=K.te
     rw[hte]at k8
     have AT:=hide (any_take_succ R (fun j=>nul (D.getD j .zero)) j hlt)
     clear K hte
     generalize R[j]=m at *
     clear N1
     cases hb:(R.take j).any fun j=>nul (D.getD j .zero)
     ·rw[hb]at AT
      have AT2:Hid (((R.take (j+1)).any fun j=>nul (D.getD j .zero))=nul (D.getD m .zero)):=by have:=AT.out;rw[Bool.false_or]at this;exact this
      clear AT hb
      generalize nul (D.getD m .zero)=bm at *
      go_wp2
      go_roundg (gk-1)
      case measure=>omega
      case rel=>exact ⟨j+1,by omega,by go_num,by rw[AT2.out],rfl⟩
     ·rw[hb]at AT
      have AT2:Hid (((R.take (j+1)).any fun j=>nul (D.getD j .zero))=true):=by have:=AT.out;rw[Bool.true_or]at this;exact this
      clear AT hb
      go_wp2
      go_roundg (gk-1)
      case measure=>omega
      case rel=>exact ⟨j+1,by omega,by go_num,by rw[AT2.out],rfl⟩
    ·have hjl:j=R.length:=by omega
     subst hjl
     have N2:=hide (N1.out wr (Frm.refl _ _))
     clear N1
     generalize ((R.take R.length).any fun j=>nul (D.getD j .zero))=tb at *
     go_wp2_with (go_at_call 122;refine (N2.out).mono ?_;rintro e w3 hrq;have R3:=hide (RQ.first F1.out hrq);obtain ⟨_,_,r3,rfl,_⟩:=hrq)
     go_ret
     exact R3.out
open Go.RowKit
def OrS(D:List NF)(P:List Nat)(s:Nat)(X:List NF):Prop :=
 (∀ q∈P,q<D.length)∧(∀ p,p∈P.map (fun j=>D.getD j .zero)↔p∈X∧isS p=false)∧s=joinB X∧P.length≤X.length
theorem OrS.nil(D:List NF):OrS D [] 0 []:=⟨by simp,by simp,rfl,by simp⟩
theorem joinB_snoc(X:List NF)(d:NF):joinB (X++[d])=joinB X ||| bits d:=by
 rw[joinB_append,joinB_cons];simp[joinB]
theorem OrS.set{D:List NF}{P:List Nat}{s t:Nat}{X:List NF}(h:OrS D P s X):OrS D P (s ||| t) (X++[.set t]):=by
 refine ⟨h.1,fun p=>?_,?_,?_⟩
 ·rw[h.2.1 p]
  constructor
  ·rintro ⟨a,b⟩;exact ⟨by simp[a],b⟩
  ·rintro ⟨a,b⟩
   rcases List.mem_append.1 a with e|e
   ·exact ⟨e,b⟩
   ·simp at e;subst e;simp[isS]at b
 ·rw[joinB_snoc,← h.2.2.1];rfl
 ·have:=h.2.2.2;simp;omega
theorem OrS.add{D:List NF}{P:List Nat}{s q:Nat}{X:List NF}{d:NF}(h:OrS D P s X)(hq:D[q]?=some d)(hd:isS d=false):OrS D (P++[q]) s (X++[d]):=by
 have hgd:=getD_of hq
 refine ⟨?_,fun p=>?_,?_,?_⟩
 ·intro j hj
  rcases List.mem_append.1 hj with e|e
  ·exact h.1 j e
  ·simp at e;subst e;exact (List.getElem?_eq_some_iff.1 hq).1
 ·rw[List.map_append,List.mem_append,h.2.1 p]
  simp only[List.map_cons,List.map_nil,List.mem_singleton,List.mem_append,hgd]
  constructor
  ·rintro (⟨a,b⟩|e)
   ·exact ⟨.inl a,b⟩
   ·subst e;exact ⟨.inr rfl,hd⟩
  ·rintro ⟨a|e,b⟩
   ·exact .inl ⟨a,b⟩
   ·exact .inr e
 ·rw[joinB_snoc,← h.2.2.1,bits_non hd];simp
 ·have:=h.2.2.2;simp;omega
theorem OrS.congr{D:List NF}{P:List Nat}{s:Nat}{X Y:List NF}(h:OrS D P s X)(hm:∀ p,p∈X↔p∈Y)(hl:X.length≤Y.length):OrS D P s Y:=by
 refine ⟨h.1,fun p=>by rw[h.2.1 p,hm p],?_,Nat.le_trans h.2.2.2 hl⟩
 rw[h.2.2.1]
 refine joinB_congr fun i=>?_
 rw[Bool.eq_iff_iff,List.any_eq_true,List.any_eq_true]
 exact ⟨fun ⟨x,hx,e⟩=>⟨x,(hm x).1 hx,e⟩,fun ⟨x,hx,e⟩=>⟨x,(hm x).2 hx,e⟩⟩
theorem OrS.core{D:List NF}{P:List Nat}{X:List NF}(h:OrS D P (joinB X) X)(h0:joinB X=0):∀ p,p∈coreL X↔p∈P.map fun j=>D.getD j .zero:=by
 intro p
 rw[h.2.1 p,core_iff]
 constructor
 ·rintro (a|⟨a,_⟩)
  ·exact a
  ·exact absurd h0 a
 ·intro a;exact .inl a
theorem map_app{D R:List NF}{P:List Nat}(h:∀ q∈P,q<D.length):(P.map fun j=>(D++R).getD j .zero)=P.map fun j=>D.getD j .zero:=by
 refine List.map_congr_left fun j hj=>?_
 simp[List.getD,List.getElem?_append_left (h j hj)]
theorem OrS.coreS{D R:List NF}{P:List Nat}{X:List NF}{r:Nat}(h:OrS D P (joinB X) X)(h0:joinB X≠0)(hr:(D++R)[r]?=some (.set (joinB X))):∀ p,p∈coreL X↔p∈(P++[r]).map fun j=>(D++R).getD j .zero:=by
 intro p
 rw[List.map_append,List.mem_append,map_app h.1,h.2.1 p,core_iff]
 simp only[List.map_cons,List.map_nil,List.mem_singleton,getD_of hr]
 constructor
 ·rintro (a|⟨_,b⟩)
  ·exact .inl a
  ·exact .inr b
 ·rintro (a|b)
  ·exact .inl a
  ·exact .inr ⟨h0,b⟩
def BX(w:World)(bb s:Nat):Prop:=w.heap[bb]?=some (.cells #[.int .u64 (wd s 0), .int .u64 (wd s 1), .int .u64 (wd s 2), .int .u64 (wd s 3)] 187 (0,0))
theorem BX.lt{w:World}{bb s:Nat}(h:BX w bb s):bb<w.heap.size:=(Array.getElem?_eq_some_iff.1 h).1
theorem BX.frm{S:List Nat}{w w':World}{bb s:Nat}(h:BX w bb s)(F:Frm S w w')(hS:bb∉S):BX w' bb s:=(F.block bb h.lt hS).trans h
theorem BX.fz{w:World}{bb s:Nat}(h:BX w bb s)(o:Nat):w.frozen? ⟨bb,o,none⟩=false:=by unfold BX at h;simp[World.frozen?,h]
theorem BX.get{w:World}{bb s:Nat}(h:BX w bb s):w.cell? ⟨bb,0,none⟩=some (.int .u64 (wd s 0))∧w.cell? ⟨bb,1,none⟩=some (.int .u64 (wd s 1))∧w.cell? ⟨bb,2,none⟩=some (.int .u64 (wd s 2))∧w.cell? ⟨bb,3,none⟩=some (.int .u64 (wd s 3)):=by
 unfold BX at h
 simp only[World.cell?,h]
 exact ⟨rfl,rfl,rfl,rfl⟩
theorem BX.set{w:World}{bb s:Nat}(h:BX w bb s)(t:Nat):BX ((((w.setCell ⟨bb,0,none⟩ (.int .u64 (wd t 0))).setCell ⟨bb,1,none⟩ (.int .u64 (wd t 1))).setCell ⟨bb,2,none⟩ (.int .u64 (wd t 2))).setCell ⟨bb,3,none⟩ (.int .u64 (wd t 3))) bb t:=by
 unfold BX at h ⊢
 simp only[World.setCell,Array.getElem?_modify,h,if_true,Option.map_some]
 rfl
end Go.Proofs.YtjkialjoamgbgaaGreat
