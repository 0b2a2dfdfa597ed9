import Derived.Test.YtpcbbbilmpobaaaGreatDoorJ29
set_option linter.unusedVariables false
set_option linter.unusedSimpArgs false
set_option linter.unnecessarySimpa false
set_option maxRecDepth 100000
set_option maxHeartbeats 4000000
namespace Go.Proofs.YtpcbbbilmpobaaaGreatDoor
open Go.RowKit
def cmpl(s:Nat):Nat:=s ^^^ (2 ^ 256-1)
theorem wd_full(i:Nat)(hi:i<4):wd (2 ^ 256-1) i=18446744073709551615:=by
 rcases (by omega:i=0∨i=1∨i=2∨i=3) with rfl|rfl|rfl|rfl<;>decide +kernel
theorem wd_xor(s t i:Nat):wd (s ^^^ t) i=wd s i ^^^ wd t i:=by
 apply Nat.eq_of_testBit_eq;intro k
 by_cases hk:k<64
 ·rw[Nat.testBit_xor,wd_bit _ _ _ hk,wd_bit _ _ _ hk,wd_bit _ _ _ hk,Nat.testBit_xor]
 ·have hl:∀ x,(wd x i).testBit k=false:=fun x=>Nat.testBit_lt_two_pow (Nat.lt_of_lt_of_le (wd_lt x i) (by rw[show (18446744073709551616:Nat)=2 ^ 64 by decide];exact Nat.pow_le_pow_right (by omega) (by omega)))
  rw[Nat.testBit_xor,hl,hl,hl];rfl
theorem wd_cmpl(s i:Nat)(hi:i<4):wd (cmpl s) i=18446744073709551615-wd s i:=by
 unfold cmpl;rw[wd_xor,wd_full i hi];have h:=wd_lt s i;generalize wd s i=x at *;rw[show (18446744073709551615:Nat)=2 ^ 64-1 by decide];apply Nat.eq_of_testBit_eq;intro k;rw[Nat.testBit_xor,Nat.testBit_two_pow_sub_one];rw[show 2 ^ 64-1-x=2 ^ 64-(x+1) by omega,Nat.testBit_two_pow_sub_succ (by rw[show (2:Nat) ^ 64=18446744073709551616 by decide];exact h)]
 by_cases hk:k<64
 ·simp[hk]
 ·have:x.testBit k=false:=Nat.testBit_lt_two_pow (Nat.lt_of_lt_of_le h (by rw[show (18446744073709551616:Nat)=2 ^ 64 by decide];exact Nat.pow_le_pow_right (by omega) (by omega)))
  simp[hk,this]
theorem full_xor(x:Nat)(h:x<18446744073709551616):18446744073709551615 ^^^ x=18446744073709551615-x:=by
 rw[show (18446744073709551615:Nat)=2 ^ 64-1 by decide];apply Nat.eq_of_testBit_eq;intro k;rw[Nat.testBit_xor,Nat.testBit_two_pow_sub_one];rw[show 2 ^ 64-1-x=2 ^ 64-(x+1) by omega,Nat.testBit_two_pow_sub_succ (by rw[show (2:Nat) ^ 64=18446744073709551616 by decide];exact h)]
 by_cases hk:k<64
 ·simp[hk]
 ·have:x.testBit k=false:=Nat.testBit_lt_two_pow (Nat.lt_of_lt_of_le h (by rw[show (18446744073709551616:Nat)=2 ^ 64 by decide];exact Nat.pow_le_pow_right (by omega) (by omega)))
  simp[hk,this]
theorem neg_val(x:Nat)(h:x<18446744073709551616):Go.bits BinOp.xor IntKind.u64 IntKind.u64.max (x:Int)=((18446744073709551615-x:Nat):Int):=by
 rw[show IntKind.u64.max=((18446744073709551615:Nat):Int) by decide,bits_xor_u64_nat _ _ (by decide) h,full_xor x h]
theorem results_others{w:World}{b:Nat}{w0 w1 w2 w3:Int}{tmps:Array Value}(h:SB w b w0 w1 w2 w3)(h4:tmps.getD 2 undef=.pointer (some ⟨b,0,none⟩)) :
 (results Tryz.f163 tmps).run Tryz.prog w=.ok (.agg #[.int .u64 w0, .int .u64 w1, .int .u64 w2, .int .u64 w3]) w:=by
 have h4':tmps[2]?.getD undef=.pointer (some ⟨b,0,none⟩):=by simpa using h4
 simp only[results,Tryz.results163];simp[Sem.run_bind,Result.andThen,h4',asAddr,h.load]
def oz(k i a:Nat):Int:=if i<k then ((18446744073709551615-a:Nat):Int) else (a:Int)
theorem others_any(s:Nat)(w:World) :
 Calls Tryz.prog 163 #[bv s] w fun e w'=>e=.returned (bv (cmpl s))∧Frm [] w w':=by
 unfold bv;have E0:=hide (wd_cmpl s 0 (by omega));have E1:=hide (wd_cmpl s 1 (by omega));have E2:=hide (wd_cmpl s 2 (by omega));have E3:=hide (wd_cmpl s 3 (by omega));have l0:=wd_lt s 0;have l1:=wd_lt s 1;have l2:=wd_lt s 2;have l3:=wd_lt s 3;generalize wd s 0=s0 at *;generalize wd s 1=s1 at *;generalize wd s 2=s2 at *;generalize wd s 3=s3 at *;go_enter Tryz.func163,Tryz.ntmps163
 go_wp2_with fail
 go_loopg [4] 4 (fun k vi wr=>∃ (j:Nat),j+k=4∧vi=.int .i64 j∧SB wr w.heap.size (oz j 0 s0) (oz j 1 s1) (oz j 2 s2) (oz j 3 s3)∧SB wr (w.heap.size+1) 0 0 0 0∧Frm [] w wr)
 case atStart=>exact ⟨0,by omega,rfl,(SB.new (b:=w.heap.size) rfl).frm (S:=[]) ((Frm.refl _ _).alloc _) (by simp),SB.new (by simp),((Frm.refl _ _).alloc _).alloc _⟩
 case round =>
  obtain ⟨j,hj,rfl,h0,h2,hf⟩:=hrel;have F:=hide hf;clear hf;rcases (by omega:j=0∨j=1∨j=2∨j=3∨j=4) with rfl|rfl|rfl|rfl|rfl
  ·simp only[oz,Nat.lt_irrefl,Nat.reduceLT,if_true,if_false]at h0
   obtain ⟨c0,c1,c2,c3⟩:=h0.cells;have z:=h0.fz;have H0:=hide h0;have H2:=hide h2;clear h0 h2;go_wp2;go_roundg 3
   case measure=>omega
   case rel =>
    refine ⟨1,by omega,by go_num,?_,(H2.out.far _ (by omega)),(F.out.setCell (.inr (Nat.le_refl _)) _)⟩;have:=H0.out.set0 (Go.bits BinOp.xor IntKind.u64 IntKind.u64.max s0);rw[neg_val _ l0]at this ⊢;simpa only[oz,Nat.lt_irrefl,Nat.reduceLT,if_true,if_false] using this
  ·simp only[oz,Nat.lt_irrefl,Nat.reduceLT,if_true,if_false]at h0
   obtain ⟨c0,c1,c2,c3⟩:=h0.cells;have z:=h0.fz;have H0:=hide h0;have H2:=hide h2;clear h0 h2;go_wp2;go_roundg 2
   case measure=>omega
   case rel =>
    refine ⟨2,by omega,by go_num,?_,(H2.out.far _ (by omega)),(F.out.setCell (.inr (Nat.le_refl _)) _)⟩;have:=H0.out.set1 (Go.bits BinOp.xor IntKind.u64 IntKind.u64.max s1);rw[neg_val _ l1]at this ⊢;simpa only[oz,Nat.lt_irrefl,Nat.reduceLT,if_true,if_false] using this
  ·simp only[oz,Nat.lt_irrefl,Nat.reduceLT,if_true,if_false]at h0
   obtain ⟨c0,c1,c2,c3⟩:=h0.cells;have z:=h0.fz;have H0:=hide h0;have H2:=hide h2;clear h0 h2;go_wp2;go_roundg 1
   case measure=>omega
   case rel =>
    refine ⟨3,by omega,by go_num,?_,(H2.out.far _ (by omega)),(F.out.setCell (.inr (Nat.le_refl _)) _)⟩;have:=H0.out.set2 (Go.bits BinOp.xor IntKind.u64 IntKind.u64.max s2);rw[neg_val _ l2]at this ⊢;simpa only[oz,Nat.lt_irrefl,Nat.reduceLT,if_true,if_false] using this
  ·simp only[oz,Nat.lt_irrefl,Nat.reduceLT,if_true,if_false]at h0
   obtain ⟨c0,c1,c2,c3⟩:=h0.cells;have z:=h0.fz;have H0:=hide h0;have H2:=hide h2;clear h0 h2;go_wp2;go_roundg 0
   case measure=>omega
   case rel =>
    refine ⟨4,by omega,by go_num,?_,(H2.out.far _ (by omega)),(F.out.setCell (.inr (Nat.le_refl _)) _)⟩;have:=H0.out.set3 (Go.bits BinOp.xor IntKind.u64 IntKind.u64.max s3);rw[neg_val _ l3]at this ⊢;simpa only[oz,Nat.lt_irrefl,Nat.reduceLT,if_true,if_false] using this
  ·simp only[oz,Nat.lt_irrefl,Nat.reduceLT,if_true,if_false]at h0
   obtain ⟨c0,c1,c2,c3⟩:=h0.cells;obtain ⟨y0,y1,y2,y3⟩:=h2.cells;have y4:=h2.fz;have H2:=hide h2;clear h0 h2;go_wp2;refine bodyPost_ret (results_others (b:=w.heap.size+1) ((((H2.out.set0 _).set1 _).set2 _).set3 _) (by rfl)) rfl ?_;refine ⟨by rw[E0.out,E1.out,E2.out,E3.out],?_⟩;exact (((F.out.setCell (.inr (by simp)) _).setCell (.inr (by simp)) _).setCell (.inr (by simp)) _).setCell (.inr (by simp)) _
def addK(s f:Nat):Nat→Nat
 | 0=>s
 | k+1=>addK s f k ||| 2 ^ (f+k)
theorem wd_pow(c i:Nat)(hi:i<4)(hc:c<256):wd (2 ^ c) i=if i=c / 64 then 2 ^ (c % 64) else 0:=by
 apply Nat.eq_of_testBit_eq;intro k
 by_cases hk:k<64
 ·rw[wd_bit _ _ _ hk,Nat.testBit_two_pow]
  by_cases h:i=c / 64
  ·rw[if_pos h,Nat.testBit_two_pow]
   congr 1;apply propext;omega
  ·rw[if_neg h]
   simp;omega
 ·have hp:(2:Nat) ^ 64≤2 ^ k:=Nat.pow_le_pow_right (by omega) (by omega)
  rw[Nat.testBit_lt_two_pow (Nat.lt_of_lt_of_le (wd_lt _ _) hp)]
  split
  ·rw[Nat.testBit_two_pow];simp;omega
  ·simp
theorem wd_add(x c i:Nat)(hi:i<4)(hc:c<256):wd (x ||| 2 ^ c) i=if i=c / 64 then wd x i ||| 2 ^ (c % 64) else wd x i:=by
 rw[wd_or,wd_pow c i hi hc]
 split
 ·rfl
 ·simp
theorem or_bit(x r:Nat)(hx:x<18446744073709551616)(hr:r<64):Go.bits BinOp.or IntKind.u64 (x:Int) (IntKind.u64.wrap (2 ^ r))=((x ||| 2 ^ r:Nat):Int):=by
 have h1:(2:Nat) ^ r<18446744073709551616:=by
  rw[show (18446744073709551616:Nat)=2 ^ 64 by decide];exact Nat.pow_lt_pow_right (by omega) hr
 have h2:IntKind.u64.wrap ((2:Int) ^ r)=((2 ^ r:Nat):Int):=by
  have e:((2:Int) ^ r)=((2 ^ r:Nat):Int):=by simp
  rw[e,IntKind.wrap_u64];generalize 2 ^ r=z at *;omega
 rw[h2,bits_or_u64_nat _ _ hx h1]
theorem add_any(b s f l:Nat)(w:World)(hl:l<256)(hf:f<256)(hb:SB w b (wd s 0) (wd s 1) (wd s 2) (wd s 3)) :
 Calls Tryz.prog 164 #[.pointer (some ⟨b,0,none⟩), .int .u8 f, .int .u8 l] w fun e w'=>e=.returned (.tuple #[])∧SB w' b (wd (addK s f (l+1-f)) 0) (wd (addK s f (l+1-f)) 1) (wd (addK s f (l+1-f)) 2) (wd (addK s f (l+1-f)) 3)∧Frm [b] w w':=by
 have HB:=hide hb;clear hb;go_enter Tryz.func164,Tryz.ntmps164
 go_wp2_with fail
 go_loopg [6] (l+1-f) (fun k vi wr=>∃ (j c:Nat),j+k=l+1-f∧c=f+j∧vi=.int .i64 c∧SB wr b (wd (addK s f j) 0) (wd (addK s f j) 1) (wd (addK s f j) 2) (wd (addK s f j) 3)∧Frm [b] w wr)
 case atStart=>exact ⟨0,f,by omega,rfl,rfl,HB.out,Frm.refl _ _⟩
 case round =>
  clear HB;obtain ⟨j,c,hj,hcc,rfl,h0,hfr⟩:=hrel;have F:=hide hfr;clear hfr
  by_cases hlt:j<l+1-f
  ·have hc:f+j<256:=by omega
   have hcl:f+j≤l:=by omega
   have Ha:Hid (addK s f (j+1)=addK s f j ||| 2 ^ (f+j)):=rfl;rw[← hcc]at hc hcl Ha;have Hcc:=hide hcc;clear hcc;have hd:(c:Int).tdiv 64=((c / 64:Nat):Int):=by rw[Int.tdiv_eq_ediv_of_nonneg (by omega)];omega
   have hm:(c:Int).tmod 64=((c % 64:Nat):Int):=by rw[Int.tmod_eq_emod_of_nonneg (by omega)];omega
   have W0:=hide (wd_add (addK s f j) c 0 (by omega) hc);have W1:=hide (wd_add (addK s f j) c 1 (by omega) hc);have W2:=hide (wd_add (addK s f j) c 2 (by omega) hc);have W3:=hide (wd_add (addK s f j) c 3 (by omega) hc);have l0:=wd_lt (addK s f j) 0;have l1:=wd_lt (addK s f j) 1;have l2:=wd_lt (addK s f j) 2;have l3:=wd_lt (addK s f j) 3;have hr:c % 64<64:=Nat.mod_lt _ (by decide);have hq:c / 64<4:=by omega
   generalize wd (addK s f j) 0=s0 at *;generalize wd (addK s f j) 1=s1 at *;generalize wd (addK s f j) 2=s2 at *;generalize wd (addK s f j) 3=s3 at *;generalize c % 64=r at *;generalize c / 64=q at *;obtain ⟨c0,c1,c2,c3⟩:=h0.cells;have z:=h0.fz;have H0:=hide h0;clear h0;rcases (by omega:q=0∨q=1∨q=2∨q=3) with rfl|rfl|rfl|rfl
   ·go_wp2_with fail
    go_region
    go_wp2;go_roundg (gk-1)
    case measure=>omega
    case rel =>
     refine ⟨j+1,c+1,by omega,by rw[Hcc.out];omega,by go_num,?_,(F.out.setCell (.inl (by simp)) _).drew⟩;rw[Ha.out,W0.out,W1.out,W2.out,W3.out];have:=(H0.out.set0 (Go.bits BinOp.or IntKind.u64 s0 (IntKind.u64.wrap (2 ^ r)))).drew;rw[or_bit _ _ l0 hr]at this ⊢;simpa using this
   ·go_wp2_with fail
    go_region
    go_wp2;go_roundg (gk-1)
    case measure=>omega
    case rel =>
     refine ⟨j+1,c+1,by omega,by rw[Hcc.out];omega,by go_num,?_,(F.out.setCell (.inl (by simp)) _).drew⟩;rw[Ha.out,W0.out,W1.out,W2.out,W3.out];have:=(H0.out.set1 (Go.bits BinOp.or IntKind.u64 s1 (IntKind.u64.wrap (2 ^ r)))).drew;rw[or_bit _ _ l1 hr]at this ⊢;simpa using this
   ·go_wp2_with fail
    go_region
    go_wp2;go_roundg (gk-1)
    case measure=>omega
    case rel =>
     refine ⟨j+1,c+1,by omega,by rw[Hcc.out];omega,by go_num,?_,(F.out.setCell (.inl (by simp)) _).drew⟩;rw[Ha.out,W0.out,W1.out,W2.out,W3.out];have:=(H0.out.set2 (Go.bits BinOp.or IntKind.u64 s2 (IntKind.u64.wrap (2 ^ r)))).drew;rw[or_bit _ _ l2 hr]at this ⊢;simpa using this
   ·go_wp2_with fail
    go_region
    go_wp2;go_roundg (gk-1)
    case measure=>omega
    case rel =>
     refine ⟨j+1,c+1,by omega,by rw[Hcc.out];omega,by go_num,?_,(F.out.setCell (.inl (by simp)) _).drew⟩;rw[Ha.out,W0.out,W1.out,W2.out,W3.out];have:=(H0.out.set3 (Go.bits BinOp.or IntKind.u64 s3 (IntKind.u64.wrap (2 ^ r)))).drew;rw[or_bit _ _ l3 hr]at this ⊢;simpa using this
  ·have he:j=l+1-f:=by omega
   subst he;have H0:=hide h0;clear h0;have hgt:¬ (c≤l):=by omega
   go_wp2;go_end0
   exact ⟨rfl,H0.out,F.out⟩
def PS(w:World)(b:Nat)(t:List UInt8)(i:Nat)(vs:Value):Prop :=
 w.heap[b]?=some (.cells #[.string (bs t), .int .i64 i,vs] 183 (0,0))∧i≤t.length∧t.length≤1048576
theorem PS.c0{w:World}{b:Nat}{t:List UInt8}{i:Nat}{vs:Value}(h:PS w b t i vs):w.cell? ⟨b,0,none⟩=some (.string (bs t)):=by simp[World.cell?,h.1]
theorem PS.c1{w:World}{b:Nat}{t:List UInt8}{i:Nat}{vs:Value}(h:PS w b t i vs):w.cell? ⟨b,1,none⟩=some (.int .i64 i):=by simp[World.cell?,h.1]
theorem PS.c2{w:World}{b:Nat}{t:List UInt8}{i:Nat}{vs:Value}(h:PS w b t i vs):w.cell? ⟨b,2,none⟩=some vs:=by simp[World.cell?,h.1]
theorem PS.fz{w:World}{b:Nat}{t:List UInt8}{i:Nat}{vs:Value}(h:PS w b t i vs)(o:Nat):w.frozen? ⟨b,o,none⟩=false:=by simp[World.frozen?,h.1]
theorem PS.lt{w:World}{b:Nat}{t:List UInt8}{i:Nat}{vs:Value}(h:PS w b t i vs):b<w.heap.size:=(Array.getElem?_eq_some_iff.1 h.1).1
theorem PS.frm{S:List Nat}{w w':World}{b:Nat}{t:List UInt8}{i:Nat}{vs:Value}(h:PS w b t i vs)(f:Frm S w w')(hS:b∉S):PS w' b t i vs:=⟨(f.block b h.lt hS).trans h.1,h.2⟩
theorem PS.drew{w:World}{b:Nat}{t:List UInt8}{i:Nat}{vs:Value}(h:PS w b t i vs):PS w.drew b t i vs:=h
theorem PS.drewN{w:World}{b:Nat}{t:List UInt8}{i:Nat}{vs:Value}(n:Nat)(h:PS w b t i vs):PS (w.drewN n) b t i vs:=h
theorem PS.at_{w:World}{b:Nat}{t:List UInt8}{i:Nat}{vs:Value}(h:PS w b t i vs)(j:Nat)(hj:j≤t.length):PS (w.setCell ⟨b,1,none⟩ (.int .i64 j)) b t j vs:=by
 refine ⟨?_,hj,h.2.2⟩;have:=h.1;simp[World.setCell,Array.getElem?_modify,this]
theorem PS.sets{w:World}{b:Nat}{t:List UInt8}{i:Nat}{vs:Value}(h:PS w b t i vs)(v:Value):PS (w.setCell ⟨b,2,none⟩ v) b t i v:=by
 refine ⟨?_,h.2⟩;have:=h.1;simp[World.setCell,Array.getElem?_modify,this]
def PA(w:World)(b:Nat)(t l:List UInt8)(vs:Value):Prop:=∃ i,PS w b t i vs∧t.drop i=l
theorem PA.drewN{w:World}{b:Nat}{t l:List UInt8}{vs:Value}(n:Nat)(h:PA w b t l vs):PA (w.drewN n) b t l vs:=h
theorem PA.frm{S:List Nat}{w w':World}{b:Nat}{t l:List UInt8}{vs:Value}(h:PA w b t l vs)(f:Frm S w w')(hS:b∉S):PA w' b t l vs:=by
 obtain ⟨i,h1,h2⟩:=h;exact ⟨i,h1.frm f hS,h2⟩
def tk(c:UInt8):List UInt8→Bool
 | []=>false
 | x::_=>x==c
def rs(c:UInt8)(l:List UInt8):List UInt8:=if tk c l then l.tail else l
theorem drop_cons{t l:List UInt8}{i:Nat}(h:t.drop i=l):(i<t.length→∃ hi:i<t.length,l=t[i]::t.drop (i+1))∧(¬ i<t.length→l=[]):=by
 constructor
 ·intro hi;exact ⟨hi,by rw[← h];exact List.drop_eq_getElem_cons hi⟩
 ·intro hi;rw[← h];exact List.drop_eq_nil_of_le (by omega)
theorem xtake_any(b:Nat)(t l:List UInt8)(vs:Value)(c:UInt8)(w:World)(h:PA w b t l vs) :
 Calls Tryz.prog 123 #[.pointer (some ⟨b,0,none⟩), .int .u8 c.toNat] w fun e w'=>e=.returned (.bool (tk c l))∧PA w' b t (rs c l) vs∧Frm [b] w w':=by
 obtain ⟨i,h1,h2⟩:=h;have c0:=h1.c0;have c1:=h1.c1;have z:=h1.fz 1;have hi:=h1.2.1;have ht:=h1.2.2;have hsz:=bs_size t;have H1:=hide h1;have H2:=hide h2;clear h1 h2
 by_cases hlt:i<t.length
 ·have hd1:decide ((t.length:Int)≤(i:Int))=false:=decide_eq_false (by omega)
  obtain ⟨_,hl⟩:=(drop_cons H2.out).1 hlt;have hbg:(bs t)[i]'(by rw[hsz];omega)=t[i]:=rfl;generalize hti:t[i]=x at *
  by_cases hx:x=c
  ·subst hx
   have Hk:Hid (tk x l=true∧rs x l=t.drop (i+1)):=by
    show _∧_;rw[hl];simp[tk,rs]
   clear hl hti;have hb:((x.toNat:Int) != (x.toNat:Int))=false:=by simp
   go_enter Tryz.func123,Tryz.ntmps123
   go_wp2_with fail
   go_quiet (fail)
   go_wp2;go_ret;rw[Hk.out.1,Hk.out.2];exact ⟨rfl,⟨i+1,(H1.out.drewN _).at_ (i+1) hlt,rfl⟩,((Frm.refl _ _).drewN _).setCell (.inl (by simp)) _⟩
  ·have Hk:Hid (tk c l=false∧rs c l=l):=by
    show _∧_;rw[hl];simp[tk,rs,hx]
   have hb:((x.toNat:Int) != (c.toNat:Int))=true:=by
    rw[bne_iff_ne];intro e;exact hx (UInt8.toNat_inj.1 (by omega))
   clear hl hti;go_enter Tryz.func123,Tryz.ntmps123
   go_wp2_with fail
   go_quiet (fail)
   go_wp2;go_ret;rw[Hk.out.1,Hk.out.2];exact ⟨rfl,⟨i,H1.out.drewN _,H2.out⟩,(Frm.refl _ _).drewN _⟩
 ·have hd1:decide ((t.length:Int)≤(i:Int))=true:=decide_eq_true (by omega)
  have Hk:Hid (tk c l=false∧rs c l=l):=by
   show _∧_;rw[(drop_cons H2.out).2 hlt];simp[tk,rs]
  go_enter Tryz.func123,Tryz.ntmps123
  go_wp2_with fail
  go_quiet (fail)
  go_wp2;go_ret;rw[Hk.out.1,Hk.out.2];exact ⟨rfl,⟨i,H1.out.drewN _,H2.out⟩,(Frm.refl _ _).drewN _⟩
theorem takeAny_any(b:Nat)(t l:List UInt8)(vs:Value)(w:World)(h:PA w b t l vs) :
 Calls Tryz.prog 159 #[.pointer (some ⟨b,0,none⟩)] w fun e w'=>e=.returned (.tuple #[.int .u8 (hd l), .bool (!l.isEmpty)])∧PA w' b t l.tail vs∧Frm [b] w w':=by
 obtain ⟨i,h1,h2⟩:=h;have c0:=h1.c0;have c1:=h1.c1;have z:=h1.fz 1;have hi:=h1.2.1;have ht:=h1.2.2;have hsz:=bs_size t;have H1:=hide h1;have H2:=hide h2;clear h1 h2
 by_cases hlt:i<t.length
 ·have hd1:decide ((t.length:Int)≤(i:Int))=false:=decide_eq_false (by omega)
  obtain ⟨_,hl⟩:=(drop_cons H2.out).1 hlt;have hbg:(bs t)[i]'(by rw[hsz];omega)=t[i]:=rfl;generalize hti:t[i]=x at *;have Hk:Hid (hd l=x.toNat∧l.isEmpty=false∧l.tail=t.drop (i+1)):=by
   show _∧_;rw[hl];simp[hd]
  clear hl hti;go_enter Tryz.func159,Tryz.ntmps159
  go_wp2_with fail
  go_quiet (fail)
  go_wp2_with fail
  go_quiet (fail)
  go_wp2;go_ret2;rw[Hk.out.1,Hk.out.2.1,Hk.out.2.2];exact ⟨rfl,⟨i+1,(H1.out.drewN _).at_ (i+1) hlt,rfl⟩,((Frm.refl [b] w).drewN _).setCell (p:=⟨b,1,none⟩) (.inl (by simp)) _⟩
 ·have hd1:decide ((t.length:Int)≤(i:Int))=true:=decide_eq_true (by omega)
  have hl:=(drop_cons H2.out).2 hlt;have Hk:Hid (hd l=0∧l.isEmpty=true∧l.tail=l):=by
   show _∧_;rw[hl];simp[hd]
  clear hl;go_enter Tryz.func159,Tryz.ntmps159
  go_wp2_with fail
  go_quiet (fail)
  go_wp2;go_ret2;rw[Hk.out.1,Hk.out.2.1,Hk.out.2.2];exact ⟨rfl,⟨i,H1.out.drewN _,H2.out⟩,(Frm.refl _ _).drewN _⟩
def seqEnd(l:List UInt8):Bool:=l.isEmpty||tk 124 l||tk 41 l
theorem atSequenceEnd_any(b:Nat)(t l:List UInt8)(vs:Value)(w:World)(h:PA w b t l vs) :
 Calls Tryz.prog 137 #[.pointer (some ⟨b,0,none⟩)] w fun e w'=>e=.returned (.bool (seqEnd l))∧∃ n,w'=w.drewN n:=by
 obtain ⟨i,h1,h2⟩:=h;have c0:=h1.c0;have c1:=h1.c1;have hi:=h1.2.1;have ht:=h1.2.2;have hsz:=bs_size t
 by_cases hlt:i<t.length
 ·have hd1:decide ((t.length:Int)≤(i:Int))=false:=decide_eq_false (by omega)
  have hd2:decide (t.length≤i)=false:=decide_eq_false (by omega);obtain ⟨_,hl⟩:=(drop_cons h2).1 hlt;have hbg:(bs t)[i]'(by rw[hsz];omega)=t[i]:=rfl;generalize hti:t[i]=x at *;have Hk:Hid (seqEnd l=((x==124)||(x==41))):=by
   show _=_;rw[hl];simp[seqEnd,tk]
  have e124:((x.toNat:Int)==124)=(x==124):=by
   rw[Bool.eq_iff_iff];simp;constructor
   ·intro e;exact UInt8.toNat_inj.1 (by simpa using (by omega:x.toNat=124))
   ·intro e;subst e;rfl
  have e41:((x.toNat:Int)==41)=(x==41):=by
   rw[Bool.eq_iff_iff];simp;constructor
   ·intro e;exact UInt8.toNat_inj.1 (by simpa using (by omega:x.toNat=41))
   ·intro e;subst e;rfl
  clear hl hti h1 h2;cases h124:(x==124)
  ·rw[h124]at e124 Hk
   go_enter Tryz.func137,Tryz.ntmps137
   go_wp2_with fail
   go_quiet (fail)
   go_wp2;go_ret;rw[Hk.out];exact ⟨ret_bool (by rw[← e41];rfl),_,rfl⟩
  ·rw[h124]at e124 Hk
   go_enter Tryz.func137,Tryz.ntmps137
   go_wp2_with fail
   go_quiet (fail)
   go_wp2;go_ret;rw[Hk.out];exact ⟨ret_bool (by rfl),_,rfl⟩
 ·have hd1:decide ((t.length:Int)≤(i:Int))=true:=decide_eq_true (by omega)
  have hd2:decide (t.length≤i)=true:=decide_eq_true (by omega);have hl:=(drop_cons h2).2 hlt;have Hk:Hid (seqEnd l=true):=by
   show _=_;rw[hl];rfl
  clear hl h1 h2;go_enter Tryz.func137,Tryz.ntmps137
  go_wp2_with fail
  go_quiet (fail)
  go_wp2;go_ret;rw[Hk.out];exact ⟨rfl,_,rfl⟩
set_option linter.unusedVariables false
set_option linter.unusedSimpArgs false
/-! Reading an expression. -/
def headIs(c:UInt8):List UInt8→Bool
 | []=>false
 | x::_=>x==c
def isRepB(c:UInt8):Bool:=c==42||c==43||c==63||c==123
def pDigit:List UInt8→Option (Nat × List UInt8)
 | []=>none
 | c::r=>if 48≤c&&c≤57 then some (c.toNat-48,r) else none
def pCounts(t:List UInt8):Option ((Nat × Option Nat) × List UInt8) :=
 match pDigit t with
 | none=>none
 | some (lo,r) =>
   if headIs 44 r then
    match pDigit r.tail with
    | some (n,r2)=>if headIs 125 r2&&decide (lo≤n) then some ((lo,some n),r2.tail) else none
    | none=>if headIs 125 r.tail then some ((lo,none),r.tail.tail) else none
   else if headIs 125 r then some ((lo,some lo),r.tail) else none
def pRep:List UInt8→Option ((Nat × Option Nat) × List UInt8)
 | []=>none
 | c::r=>if c==42 then some ((0,none),r) else if c==43 then some ((1,none),r) else if c==63 then some ((0,some 1),r) else if c==123 then pCounts r else none
def atRepB:List UInt8→Bool
 | []=>false
 | c::_=>isRepB c
def pMarks:Nat→RX→List UInt8→Option (RX × List UInt8)
 | 0,_,_=>none
 | k+1,x,t=>if atRepB t then (match pRep t with | none=>none|some (b,r)=>pMarks k (.rep x b.1 b.2) r) else some (x,t)
def pItemB:List UInt8→Option (UInt8 × List UInt8)
 | []=>none
 | c::r=>if c==92 then (match r with | []=>none|d::r2=>some (d,r2)) else if c==93||c==91||c==45 then none else some (c,r)
def pItem(t:List UInt8):Option ((UInt8 × UInt8) × List UInt8) :=
 match pItemB t with
 | none=>none
 | some (a,r)=>if headIs 45 r then (match pItemB r.tail with | none=>none|some (b,r2)=>if a≤b then some ((a,b),r2) else none) else some ((a,a),r)
def addBits(s f:Nat):Nat→Nat
 | 0=>s
 | k+1=>addBits s f k ||| 2 ^ (f+k)
def addRange(s:Nat)(a b:UInt8):Nat:=addBits s a.toNat (b.toNat+1-a.toNat)
def pItems:Nat→Nat→List UInt8→Option (Nat × List UInt8)
 | 0,_,_=>none
 | k+1,s,t =>
   match pItem t with
   | none=>none
   | some ((a,b),r)=>if headIs 93 r then some (addRange s a b,r.tail) else pItems k (addRange s a b) r
def fullSet:Nat:=2 ^ 256-1
def pClass(t:List UInt8):Option (Nat × List UInt8) :=
 if headIs 94 t then (match pItems (t.length+1) 0 t.tail with | none=>none|some (s,r)=>some (s ^^^ fullSet,r))
 else pItems (t.length+1) 0 t
def isSpecial(c:UInt8):Bool:=c==41||c==124||c==42||c==43||c==63||c==123||c==125||c==93
def seqEndB(t:List UInt8):Bool:=t.isEmpty||headIs 124 t||headIs 41 t
mutual
def pAtom:Nat→Nat→List UInt8→Option (RX × List UInt8)
 | 0,_,_=>none
 | k+1,nest,t =>
   match t with
   | []=>none
   | c::r =>
     if c==40 then (if 5≤nest then none else match pAlt k (nest+1) [] r with | none=>none|some (x,r2)=>if headIs 41 r2 then some (x,r2.tail) else none)
     else if c==91 then (match pClass r with | none=>none|some (s,r2)=>some (.one s,r2))
     else if c==46 then some (.one fullSet,r)
     else if c==92 then (match r with | []=>none|d::r2=>some (.one (2 ^ d.toNat),r2))
     else if isSpecial c then none
     else some (.one (2 ^ c.toNat),r)
def pSeq:Nat→Nat→List RX→List UInt8→Option (RX × List UInt8)
 | 0,_,_,_=>none
 | k+1,nest,acc,t =>
   if seqEndB t then some (.seq acc,t)
   else match pAtom k nest t with
    | none=>none
    | some (x,r)=>match pMarks (r.length+1) x r with
      | none=>none
      | some (y,r2)=>pSeq k nest (acc++[y]) r2
def pAlt:Nat→Nat→List RX→List UInt8→Option (RX × List UInt8)
 | 0,_,_,_=>none
 | k+1,nest,acc,t =>
   match pSeq k nest [] t with
   | none=>none
   | some (x,r)=>if headIs 124 r then pAlt k nest (acc++[x]) r.tail else some (.alt (acc++[x]),r)
end
def pWhole(t:List UInt8):Option RX :=
 match pAlt (4*t.length+4) 0 [] t with
 | some (x,[])=>some x
 | _=>none
/-! What is read is good. -/
theorem headIs_len{c:UInt8}{t:List UInt8}(h:headIs c t=true):t.tail.length+1=t.length:=by
 cases t<;>simp[headIs]at h ⊢
theorem pDigit_len{t r:List UInt8}{n:Nat}(h:pDigit t=some (n,r)):r.length+1=t.length∧n≤9:=by
 cases t with
 | nil=>simp[pDigit]at h
 | cons c q =>
   simp only[pDigit]at h
   split at h
   ·rename_i hc
    simp only[Option.some.injEq,Prod.mk.injEq]at h;obtain ⟨rfl,rfl⟩:=h;simp only[Bool.and_eq_true,decide_eq_true_eq]at hc;have:c.toNat≤57:=by have:=UInt8.le_iff_toNat_le.1 hc.2;simpa using this
    simp;omega
   ·simp at h
theorem pCounts_len{t r:List UInt8}{lo:Nat}{hi:Option Nat}(h:pCounts t=some ((lo,hi),r)):r.length+2≤t.length∧(∀ n,hi=some n→lo≤n):=by
 unfold pCounts at h
 split at h
 ·simp at h
 ·rename_i lo' r' hd
  have h1:=pDigit_len hd
  split at h
  ·rename_i hc
   have h2:=headIs_len hc
   split at h
   ·rename_i n r2 hd2
    have h3:=pDigit_len hd2
    split at h
    ·rename_i hb
     simp only[Bool.and_eq_true,decide_eq_true_eq]at hb;have h4:=headIs_len hb.1;simp only[Option.some.injEq,Prod.mk.injEq]at h;obtain ⟨⟨rfl,rfl⟩,rfl⟩:=h;refine ⟨by omega,?_⟩;intro m hm;simp at hm;omega
    ·simp at h
   ·split at h
    ·rename_i hb
     have h4:=headIs_len hb;simp only[Option.some.injEq,Prod.mk.injEq]at h;obtain ⟨⟨rfl,rfl⟩,rfl⟩:=h;exact ⟨by omega,by intro m hm;simp at hm⟩
    ·simp at h
  ·split at h
   ·rename_i hb
    have h4:=headIs_len hb;simp only[Option.some.injEq,Prod.mk.injEq]at h;obtain ⟨⟨rfl,rfl⟩,rfl⟩:=h;refine ⟨by omega,?_⟩;intro m hm;simp at hm;omega
   ·simp at h
theorem pRep_len{t r:List UInt8}{b:Nat × Option Nat}(h:pRep t=some (b,r)):r.length+opLen b.1 b.2≤t.length∧(∀ n,b.2=some n→b.1≤n):=by
 cases t with
 | nil=>simp[pRep]at h
 | cons c q =>
   simp only[pRep]at h
   split at h
   ·simp only[Option.some.injEq,Prod.mk.injEq]at h
    obtain ⟨rfl,rfl⟩:=h;exact ⟨by simp[opLen],by simp⟩
   ·split at h
    ·simp only[Option.some.injEq,Prod.mk.injEq]at h
     obtain ⟨rfl,rfl⟩:=h;exact ⟨by simp[opLen],by simp⟩
    ·split at h
     ·simp only[Option.some.injEq,Prod.mk.injEq]at h
      obtain ⟨rfl,rfl⟩:=h;exact ⟨by simp[opLen],by simp⟩
     ·split at h
      ·obtain ⟨lo,hi⟩:=b
       have h1:=pCounts_len h;have h2:opLen lo hi≤3:=by cases hi<;>simp only[opLen]<;>split<;>omega
       exact ⟨by simp;omega,h1.2⟩
      ·simp at h
theorem pMarks_len:∀ {k:Nat} {x y:RX} {t r:List UInt8},okx x→pMarks k x t=some (y,r)→okx y∧tlx y+r.length≤tlx x+t.length
 | 0,x,y,t,r,_,h=>by simp[pMarks]at h
 | k+1,x,y,t,r,hx,h=>by
   simp only[pMarks]at h
   split at h
   ·split at h
    ·simp at h
    ·rename_i b r' hb
     have h1:=pRep_len hb;have h2:=pMarks_len (k:=k) (show okx (.rep x b.1 b.2) from ⟨hx,h1.2⟩) h;simp only[tlx]at h2;exact ⟨h2.1,by omega⟩
   ·simp only[Option.some.injEq,Prod.mk.injEq]at h
    obtain ⟨rfl,rfl⟩:=h;exact ⟨hx,Nat.le_refl _⟩
theorem pItemB_len{t r:List UInt8}{c:UInt8}(h:pItemB t=some (c,r)):r.length+1≤t.length:=by
 cases t with
 | nil=>simp[pItemB]at h
 | cons d q =>
   simp only[pItemB]at h
   split at h
   ·cases q with
    | nil=>simp at h
    | cons e q2=>simp at h;obtain ⟨rfl,rfl⟩:=h;simp
   ·split at h
    ·simp at h
    ·simp at h;obtain ⟨rfl,rfl⟩:=h;simp
theorem pItem_len{t r:List UInt8}{ab:UInt8 × UInt8}(h:pItem t=some (ab,r)):r.length+1≤t.length:=by
 unfold pItem at h
 split at h
 ·simp at h
 ·rename_i a r1 h1
  have e1:=pItemB_len h1
  split at h
  ·rename_i hc
   have e2:=headIs_len hc
   split at h
   ·simp at h
   ·rename_i b r2 h2
    have e3:=pItemB_len h2
    split at h
    ·simp at h;obtain ⟨_,rfl⟩:=h;omega
    ·simp at h
  ·simp at h;obtain ⟨_,rfl⟩:=h;omega
theorem addBits_lt{s f:Nat}(hs:s<2 ^ 256):∀ k,f+k≤256→addBits s f k<2 ^ 256
 | 0,_=>hs
 | k+1,h=>Nat.or_lt_two_pow (addBits_lt hs k (by omega)) (Nat.pow_lt_pow_right (by omega) (by omega))
theorem addRange_lt{s:Nat}(hs:s<2 ^ 256)(a b:UInt8):addRange s a b<2 ^ 256:=by
 have:=a.toNat_lt;have:=b.toNat_lt
 by_cases h:a.toNat≤b.toNat
 ·exact addBits_lt hs _ (by omega)
 ·unfold addRange;rw[show b.toNat+1-a.toNat=0 by omega];exact hs
theorem pItems_len:∀ {k s s':Nat} {t r:List UInt8},s<2 ^ 256→pItems k s t=some (s',r)→s'<2 ^ 256∧r.length+1≤t.length
 | 0,s,s',t,r,_,h=>by simp[pItems]at h
 | k+1,s,s',t,r,hs,h=>by
   simp only[pItems]at h
   split at h
   ·simp at h
   ·rename_i a b r1 h1
    have e1:=pItem_len h1;have e2:=addRange_lt hs a b
    split at h
    ·rename_i hc
     have e3:=headIs_len hc;simp at h;obtain ⟨rfl,rfl⟩:=h;exact ⟨e2,by omega⟩
    ·have:=pItems_len (k:=k) e2 h
     exact ⟨this.1,by omega⟩
theorem pClass_len{t r:List UInt8}{s:Nat}(h:pClass t=some (s,r)):s<2 ^ 256∧r.length+1≤t.length:=by
 unfold pClass at h
 split at h
 ·rename_i hc
  have e:=headIs_len hc
  split at h
  ·simp at h
  ·rename_i s1 r1 h1
   have:=pItems_len (by decide) h1;simp at h;obtain ⟨rfl,rfl⟩:=h;exact ⟨Nat.xor_lt_two_pow this.1 (by decide),by omega⟩
 ·exact pItems_len (by decide) h
theorem okxL_app:∀ {a b:List RX},okxL (a++b)↔okxL a∧okxL b
 | [],b=>by simp[okxL]
 | x::a,b=>by simp[okxL,okxL_app (a:=a),and_assoc]
theorem tlxL_app:∀ {a b:List RX},tlxL (a++b)=tlxL a+tlxL b
 | [],b=>by simp[tlxL]
 | x::a,b=>by simp[tlxL,tlxL_app (a:=a)];omega
mutual
theorem pAtom_len:∀ {k nest:Nat} {t r:List UInt8} {x:RX},pAtom k nest t=some (x,r)→okx x∧tlx x+r.length≤t.length
 | 0,nest,t,r,x,h=>by simp[pAtom]at h
 | k+1,nest,[],r,x,h=>by simp[pAtom]at h
 | k+1,nest,c::q,r,x,h=>by
   simp only[pAtom]at h
   split at h
   ·split at h
    ·simp at h
    ·split at h
     ·simp at h
     ·rename_i x1 r1 h1
      have e:=pAlt_len (acc:=[]) (by simp[okxL]) h1
      split at h
      ·rename_i hc
       have e2:=headIs_len hc;simp at h;obtain ⟨rfl,rfl⟩:=h;simp[tlxL]at e;exact ⟨e.1,by simp;omega⟩
      ·simp at h
   ·split at h
    ·split at h
     ·simp at h
     ·rename_i s r1 h1
      have e:=pClass_len h1;simp at h;obtain ⟨rfl,rfl⟩:=h;exact ⟨e.1,by simp[tlx];omega⟩
    ·split at h
     ·simp at h
      obtain ⟨rfl,rfl⟩:=h;exact ⟨by simp only[okx,fullSet];decide,by simp[tlx];omega⟩
     ·split at h
      ·cases q with
       | nil=>simp at h
       | cons d q2 =>
         simp at h;obtain ⟨rfl,rfl⟩:=h;have:=d.toNat_lt;exact ⟨Nat.pow_lt_pow_right (by omega) (by omega),by simp[tlx];omega⟩
      ·split at h
       ·simp at h
       ·simp at h
        obtain ⟨rfl,rfl⟩:=h;have:=c.toNat_lt;exact ⟨Nat.pow_lt_pow_right (by omega) (by omega),by simp[tlx];omega⟩
theorem pSeq_len:∀ {k nest:Nat} {acc:List RX} {t r:List UInt8} {x:RX},okxL acc→pSeq k nest acc t=some (x,r)→okx x∧tlx x+r.length≤tlxL acc+t.length
 | 0,nest,acc,t,r,x,_,h=>by simp[pSeq]at h
 | k+1,nest,acc,t,r,x,ha,h=>by
   simp only[pSeq]at h
   split at h
   ·simp at h
    obtain ⟨rfl,rfl⟩:=h;exact ⟨ha,by simp[tlx]⟩
   ·split at h
    ·simp at h
    ·rename_i x1 r1 h1
     have e1:=pAtom_len h1
     split at h
     ·simp at h
     ·rename_i y r2 h2
      have e2:=pMarks_len e1.1 h2;have e3:=pSeq_len (acc:=acc++[y]) (okxL_app.2 ⟨ha,e2.1,trivial⟩) h;rw[tlxL_app]at e3;simp only[tlxL]at e3;exact ⟨e3.1,by omega⟩
theorem pAlt_len:∀ {k nest:Nat} {acc:List RX} {t r:List UInt8} {x:RX},okxL acc→pAlt k nest acc t=some (x,r)→okx x∧tlx x+r.length≤tlxL acc+acc.length+t.length
 | 0,nest,acc,t,r,x,_,h=>by simp[pAlt]at h
 | k+1,nest,acc,t,r,x,ha,h=>by
   simp only[pAlt]at h
   split at h
   ·simp at h
   ·rename_i x1 r1 h1
    have e1:=pSeq_len (acc:=[]) trivial h1;simp only[tlxL]at e1
    split at h
    ·rename_i hc
     have e2:=headIs_len hc;have e3:=pAlt_len (acc:=acc++[x1]) (okxL_app.2 ⟨ha,e1.1,trivial⟩) h;rw[tlxL_app]at e3;simp only[tlxL,List.length_append,List.length_singleton]at e3;exact ⟨e3.1,by omega⟩
    ·simp at h
     obtain ⟨rfl,rfl⟩:=h;refine ⟨⟨okxL_app.2 ⟨ha,e1.1,trivial⟩,by simp⟩,?_⟩;simp only[tlx,tlxL_app,tlxL,List.length_append,List.length_singleton];omega
end
theorem pWhole_good{t:List UInt8}{x:RX}(h:pWhole t=some x):okx x∧tlx x≤t.length:=by
 unfold pWhole at h
 split at h
 ·rename_i y h1
  simp at h;subst h;have:=pAlt_len (acc:=[]) trivial h1;simp[tlxL]at this;exact this
 ·simp at h
end Go.Proofs.YtpcbbbilmpobaaaGreatDoor
