import Derived.Test.YtgbdcmpmmkfbhaaGreatRows
import Derived.Test.YtgbdcmpmmkfbhaaGreatChecked
import Derived.WalkKit
import Derived.WalkSpells
import Derived.WalkLawsBesides
import Derived.Deep.QuietTactic
import Derived.BigQuiet
import Derived.Deep.LoopGhost
import Derived.Deep.RegionHeld3
import Derived.Deep.AppendLies
set_option linter.unusedVariables false
set_option linter.unusedSimpArgs false
set_option linter.unnecessarySimpa false
set_option maxRecDepth 100000
set_option maxHeartbeats 1000000
namespace Go.Proofs.YtgbdcmpmmkfbhaaGreat
variable {a w w':World} {e:TypeId} {v:Value} {base' n:Nat} {xs:List Value}
open Go.RowKit
abbrev LN:=List.{0} Nat
abbrev a0a:=@Nat.le_refl
abbrev a0b:=@List.mem_append
abbrev a0c:=@List.getElem?_eq_getElem
abbrev a0d:=@Array.getElem?_eq_some_iff
abbrev a0e:=@Nat.le_trans
abbrev a0f:=@decide_eq_false
abbrev a0g:=@if_neg
abbrev a0h:=@decide_eq_true
abbrev a0i:=@List.getElem?_eq_some_iff
abbrev a0j:=@if_pos
abbrev a0k:=@beq_eq_false_iff_ne
abbrev a0l:=@List.mem_cons
abbrev a0m:=@Nat.mul_le_mul_left
abbrev a0n:=@Bool.false_eq_true
abbrev a0o:=@List.length_cons
abbrev a0p:=@List.drop_eq_nil_of_le
abbrev a0q:=@List.drop_eq_getElem_cons
abbrev a0r:=@Nat.add_mul
abbrev a0s:=@List.mem_map
abbrev a0t:=@Array.getElem?_modify
abbrev a0u:=@List.getElem?_append_left
abbrev a0v:=@List.length_append
abbrev a0w:=@Nat.mul_le_mul_right
abbrev a0x:=@Nat.lt_of_lt_of_le
abbrev a0y:=@List.mem_singleton
abbrev a0z:=@List.getElem_mem
abbrev a0A:=@List.map_cons
abbrev a0B:=@List.length_map
abbrev a0C:=@if_true
abbrev a0D:=@List.take_of_length_le
abbrev a0E:=@Nat.mul_le_mul
abbrev a0F:=@List.getD_eq_getElem?_getD
abbrev a0G:=@if_false
abbrev a0H:=@Option.mem_toList
abbrev a0I:=@List.take_succ_eq_append_getElem
abbrev a0J:=@List.cons_append
abbrev a0K:=@List.append_assoc
abbrev a0L:=@Nat.mul_add
abbrev a0M:=@List.mem_of_getElem?
abbrev a0N:=@Bool.and_eq_true
abbrev a0O:=@Nat.mul_assoc
abbrev a0P:=@Bool.eq_iff_iff
abbrev a0Q:=@List.append_nil
abbrev a0R:=@List.getElem?_append_right
abbrev a0S:=@decide_eq_true_eq
abbrev a0T:=@List.map_append
abbrev a0U:=@List.mem_flatMap
abbrev a0V:=@Nat.mul_comm
abbrev a0W:=@List.sum_cons
abbrev a0X:=@beq_iff_eq
abbrev a0Y:=@Bool.or_eq_true
abbrev a0Z:=@List.flatMap_cons
abbrev a1a:=@List.nil_append
abbrev a1b:=@List.mem_append_right
abbrev a1c:=@Nat.mul_one
abbrev a1d:=@List.getElem?_map
abbrev a1e:=@List.all_eq_true
abbrev a1f:=@List.length_nil
abbrev a1g:=@List.mem_append_left
abbrev a1h:=@List.mem_of_mem_drop
abbrev a1i:=@decide_eq_false_iff_not
abbrev a1j:=@List.singleton_append
abbrev a1k:=@List.length_singleton
abbrev a1l:=@List.eq_nil_of_length_eq_zero
abbrev a1m:=@Bool.not_eq_true'
abbrev a1n:=@List.take_add_one
abbrev a1o:=@UInt8.le_iff_toNat_le
abbrev a1p:=@Nat.le_mul_of_pos_left
abbrev a1q:=@List.length_take
abbrev a1r:=@Nat.pow_le_pow_right
abbrev a1s:=@Nat.lt_irrefl
abbrev a1t:=@List.set_append_right
abbrev a1u:=@List.getElem?_cons_succ
abbrev a1v:=@Nat.zero_add
abbrev a1w:=@UInt8.toNat_inj
abbrev a1x:=@Option.map_some
abbrev a1y:=@Bool.not_false
abbrev a1z:=@List.tail_cons
abbrev a1A:=@Nat.mul_left_comm
abbrev a1B:=@Nat.testBit_lt_two_pow
abbrev a1C:=@Nat.zero_le
abbrev a1D:=@Nat.eq_of_testBit_eq
abbrev a1E:=@decide_eq_true_iff
abbrev a1F:=@List.pairwise_cons
abbrev a1G:=@Nat.add_zero
abbrev a1H:=@List.any_eq_true
abbrev a1I:=@List.take_append_drop
abbrev a1J:=@List.isEmpty_cons
abbrev a1K:=@List.takeWhile_append_dropWhile
abbrev a1L:=@List.all_append
abbrev a1M:=@List.foldl_cons
abbrev a1N:=@List.set_cons_succ
abbrev a1O:=@bne_iff_ne
abbrev a1P:=@List.length_pos_iff
abbrev a1Q:=@List.all_cons
abbrev a1R:=@List.mem_filter
abbrev a1S:=@List.findIdx?_eq_some_iff_getElem
abbrev a1T:=@List.map_nil
abbrev a1U:=@Nat.one_mul
abbrev a1V:=@bne_eq_false_iff_eq
abbrev a1W:=@List.getElem?_eq_none
abbrev a1X:=@true_and
abbrev a1Y:=@List.not_mem_nil
abbrev a1Z:=@List.mem_range
abbrev a2a:=@List.mem_cons_of_mem
abbrev a2b:=@Array.getElem?_setIfInBounds
abbrev a2c:=@List.sum_append
abbrev a2d:=@List.map_congr_left
abbrev a2e:=@List.isPrefixOf_iff_prefix
abbrev a2f:=@Int.tmod_eq_emod_of_nonneg
abbrev a2g:=@Array.all_eq_true_iff_forall_mem
abbrev a2h:=@List.flatMap_nil
abbrev a2i:=@List.take_length
abbrev a2j:=@Nat.lt_of_le_of_lt
abbrev a2k:=@List.findIdx?_eq_none_iff
abbrev a2l:=@List.nil_suffix
abbrev a2m:=@Nat.add_comm
abbrev a2n:=@List.map_set
abbrev a2o:=@List.mem_iff_getElem
abbrev a2p:=@Nat.testBit_xor
abbrev a2q:=@Bool.not_true
abbrev a2r:=@Bool.and_true
abbrev a2s:=@Bool.true_and
abbrev a2t:=@List.drop_append_of_le_length
abbrev a2u:=@Nat.le_mul_of_pos_right
abbrev a2v:=@List.getElem?_replicate
abbrev a2w:=@List.dropLast_concat_getLast
abbrev a2x:=@beq_self_eq_true
abbrev a2y:=@Nat.testBit_or
abbrev a2z:=@List.filter_cons
abbrev a2A:=@List.drop_zero
abbrev a2B:=@Nat.lt_succ_self
abbrev a2C:=@List.map_map
abbrev a2D:=@Int.tdiv_eq_ediv_of_nonneg
abbrev a2E:=@Bool.eq_false_iff
abbrev a2F:=@List.contains_eq_mem
abbrev a2G:=@List.getElem?_set_ne
abbrev a2H:=@Nat.sub_self
abbrev a2I:=@List.length_drop
abbrev a2J:=@Bool.not_eq_true
abbrev a2K:=@List.prefix_refl
abbrev a2L:=@List.flatMap_append
abbrev a2M:=@Nat.testBit_two_pow
abbrev a2N:=@List.take_succ_cons
abbrev a2O:=@List.getElem?_cons_zero
abbrev a2P:=@Int.ofNat_inj
abbrev a2Q:=@Nat.pos_of_ne_zero
abbrev a2R:=@List.append_of_mem
abbrev a2S:=@Nat.min_eq_left
abbrev a2T:=@Nat.two_pow_pos
abbrev a2U:=@List.prefix_append
abbrev a2V:=@List.findIdx_eq_length
abbrev a2W:=@List.getElem?_set_self
abbrev a2X:=@of_decide_eq_true
abbrev a2Y:=@Bool.not_eq_false
abbrev a2Z:=@Nat.add_le_add
abbrev a3a:=@Nat.zero_mul
abbrev a3b:=@List.drop_drop
abbrev a3c:=@UInt8.toNat_sub_of_le
abbrev a3d:=@Nat.testBit_two_pow_sub_one
abbrev a3e:=@Nat.pow_lt_pow_right
abbrev a3f:=@List.set_append_left
abbrev a3g:=@List.mem_of_mem_take
abbrev a3h:=@List.getElem?_of_mem
abbrev a3i:=@List.drop_length
abbrev a3j:=@List.drop_succ_cons
abbrev a3k:=@List.length_set
abbrev a3l:=@List.pairwise_iff_getElem
abbrev a3m:=@List.isEmpty_eq_false_iff
abbrev a3n:=@Nat.lt_or_ge
abbrev a3o:=@Bool.and_false
abbrev a3p:=@Bool.false_and
abbrev LB:=List.{0} UInt8
def Z_(p:Prop):Prop:=p
theorem Z_.o {p:Prop}(h:Z_ p):p:=h
def bs(l:LB):ByteArray:=⟨l.toArray⟩
theorem bS(l:LB):(bs l).size=l.length:=rfl
theorem ah9(l:LB):(bs l).data.toList=l:=by simp[bs]
theorem bg(l:LB):(bs l).toList=l:=by rw[ByteArray.toList_eq];simp[bs]
theorem ang(s:ByteArray):bs s.data.toList=s:=by cases s;simp[bs]
theorem kH(a b:LB):bs a++bs b=bs (a++b):=by
 apply ByteArray.ext;simp[bs]
theorem qF(l:LB)(a b:Nat):(bs l).extract a b=bs ((l.take b).drop a):=by
 apply ByteArray.ext;simp[bs,ByteArray.data_extract,List.extract_eq_take_drop,List.take_drop]
 by_cases h:a<=b
 ·rw[Nat.add_sub_cancel' h]
 rw[show b-a=0 by omega,a1G,a0p (by simp only[a1q];omega),a0p (by simp only[a1q];omega)]
theorem ak3(l:LB)(k:Nat)(h:k<(bs l).size):(bs l)[k]=l[k]'h:=rfl
structure aA(S:LN)(w w':World):Prop where
 os:w'.os=w.os
 tape:w'.tape=w.tape
 output:w'.output=w.output
 size:w.heap.size<=w'.heap.size
 block:∀k,k<w.heap.size->k∉S->w'.heap[k]?=w.heap[k]?
theorem aA.refl(S:LN)(w:World):aA S w w:=⟨rfl,rfl,rfl,a0a _,λ_ _ _=>rfl⟩
theorem aA.trans {S:LN}{b c:World}(h:aA S a b)(k:aA S b c):aA S a c :=
 ⟨k.os.trans h.os,k.tape.trans h.tape,k.output.trans h.output,a0e h.size k.size,
  λi hi hS=>(k.block i (a0x hi h.size) hS).trans (h.block i hi hS)⟩
theorem aA.mono {S S':LN}{b:World}(h:aA S a b)(hs:∀k,k<a.heap.size->k∈S->k∈S'):aA S' a b :=
 ⟨h.os,h.tape,h.output,h.size,λk hk hS=>h.block k hk (λhm=>hS (hs k hk hm))⟩
theorem aA.nil {S:LN}{b:World}(h:aA [] a b):aA S a b:=h.mono (by simp)
theorem aA.drew {S:LN}(h:aA S a w):aA S a w.drew:=⟨h.os,h.tape,h.output,h.size,h.block⟩
theorem aA.drewN {S:LN}(n:Nat)(h:aA S a w):aA S a (w.drewN n):=⟨h.os,h.tape,h.output,h.size,h.block⟩
theorem aA.setCell {S:LN}(h:aA S a w) {p:Addr}(hp:p.block∈S\/a.heap.size<=p.block)(u:Value):aA S a (w.setCell p u):=by
 refine⟨h.os,h.tape,h.output,?_,λk hk hS=>?_⟩
 ·have:=h.size;simp[World.setCell];exact this
 have bL:k≠p.block:=by
  intro e;rcases hp with hp|hp
  ·exact hS (e ▸ hp)
  omega
 rw[Below.heap_setCell _ _ _ _ bL];exact h.block k hk hS
theorem aA.alloc {S:LN}(h:aA S a w)(o:Obj):aA S a (w.alloc o):=by
 refine⟨h.os,h.tape,h.output,?_,λk hk hS=>?_⟩
 ·have:=h.size;simp;omega
 rw[Below.heap_alloc _ _ _ (a0x hk h.size)];exact h.block k hk hS
theorem aA.grown {S:LN} {row:Option Nat}(h:aA S a w)(hg:w.grownBy w' row)(hr:∀k,row=some k->k∈S\/a.heap.size<=k):aA S a w':=by
 refine⟨hg.os.trans h.os,hg.tape.trans h.tape,hg.output.trans h.output,a0e h.size hg.size,λk hk hS=>?_⟩;rw[hg.block k (a0x hk h.size) (λe=>(hr k e.symm).elim hS (λh1=>by omega))];exact h.block k hk hS
theorem aA.below{b:World}(h:aA [] a b):Below a.heap.size a b:=⟨h.os,h.tape,h.output,h.size,λk hk=>h.block k hk (by simp)⟩
theorem aA.cell {S:LN}(h:aA S w w') {p:Addr}(hp:p.block<w.heap.size)(hS:p.block∉S):w'.cell? p=w.cell? p:=World.cell?_of_block (h.block _ hp hS)
theorem aA.frozen {S:LN}(h:aA S w w') {p:Addr}(hp:p.block<w.heap.size)(hS:p.block∉S):w'.frozen? p=w.frozen? p:=World.frozen?_of_block (h.block _ hp hS)
theorem bT {a b:Bool}(h:a=b):Ending.returned (.bool a)=.returned (.bool b):=by rw[h]
theorem kU {k:IntKind} {a b:Int}(h:a=b):Ending.returned (.int k a)=.returned (.int k b):=by rw[h]
theorem aj {p:Prop}(h:p):Z_ p:=h
def kr(c:Int):Bool:=decide (48<=c)&&decide (c<=57)
def TM(c:Int):Bool:=(decide (97<=c)&&decide (c<=122))||(decide (65<=c)&&decide (c<=90))
def Om(c:Int):Bool:=TM c||kr c||(c==95)
theorem ig(c:Int)(w:World) :
 Calls Tryz.prog 91 #[.int .u8 c] w λe w'=>e=.returned (.bool (kr c))/\w=w':=by
 go_enter Tryz.func91,Tryz.ntmps91
 go_wp2
 all_goals go_ret
 all_goals exact⟨bT (by simp[kr, *]<;>omega),rfl⟩
theorem X0(c:Int)(w:World) :
 Calls Tryz.prog 90 #[.int .u8 c] w λe w'=>e=.returned (.bool (TM c))/\w=w':=by
 go_enter Tryz.func90,Tryz.ntmps90
 go_wp2
 all_goals go_ret
 all_goals exact⟨bT (by simp[TM, *]<;>omega),rfl⟩
theorem tF(c:Int)(w:World) :
 Calls Tryz.prog 76 #[.int .u8 c] w λe w'=>e=.returned (.bool (Om c))/\w=w':=by
 cases h1:TM c<;>cases h2:kr c
 all_goals
  go_enter Tryz.func76,Tryz.ntmps76
  go_wp2_with (first | (go_at_call 90;refine(X0 _ _).mono ?_;rintro e w' ⟨rfl,rfl⟩)|(go_at_call 91;refine(ig _ _).mono ?_;rintro e w' ⟨rfl,rfl⟩))
  all_goals go_ret
  all_goals exact⟨bT (by simp[Om, *]),rfl⟩
theorem Dk(w:World)(a b:Nat):(w.drewN a).drewN b=w.drewN (a+b):=by simp[World.drewN,Nat.add_assoc]
def hd(l:LB):Int:=((l.head?.getD 0).toNat:Int)
theorem BD(t:LB)(i:Nat)(h:i<t.length):hd (t.drop i)=(t[i].toNat:Int):=by
 unfold hd;rw[List.head?_drop,a0c h];rfl
def bA(c:UInt8):Bool:=Om c.toNat
def lI(c:UInt8):Bool:=kr c.toNat
def aI(n:LB):Bool:=!(n.isEmpty)&&decide (n.length<=8)&&!(kr (hd n))&&n.all bA
theorem E4(c:UInt8)(r:LB):hd (c::r)=(c.toNat:Int):=rfl
theorem abG(n:LB)(w:World)(hn:n.length<=1048576) :
 Calls Tryz.prog 78 #[.string (bs n)] w λe w'=>e=.returned (.bool (aI n))/\w=w':=by
 have fM:=bS n
 by_cases h0:n.length=0
 ·have hg:Z_ (aI n=false):=by
   show aI n=false;rw[a1l h0];rfl
  go_enter Tryz.func78,Tryz.ntmps78
  go_wp2;go_ret;exact⟨bT hg.o.symm,rfl⟩
 by_cases h8:8<n.length
 ·have hg:Z_ (aI n=false):=by
   show aI n=false;unfold aI;simp;intros;omega
  have hb:((n.length:Int)==0)=false:=a0k.2 (by omega);go_enter Tryz.func78,Tryz.ntmps78
  go_wp2;go_ret;exact⟨bT hg.o.symm,rfl⟩
 have hb:((n.length:Int)==0)=false:=a0k.2 (by omega);have hd8:decide ((8:Int)<(n.length:Int))=false:=a0f (by omega);have hd9:decide (8<n.length)=false:=a0f (by omega);have hh:Z_ (hd n=(n[0].toNat:Int)):=BD n 0 (by omega);have zS:(bs n)[0]'(by rw[fM];omega)=n[0]:=rfl;generalize hn0:n[0]=c0 at zS hh;have Hn0:Z_ (n[0]=c0):=hn0;clear hn0;cases BF:kr c0.toNat
 ·go_enter Tryz.func78,Tryz.ntmps78
  go_wp2_with (go_at_call 91;refine(ig _ _).mono ?_;rintro e w' ⟨rfl,rfl⟩)
  go_loopg [3] n.length (λk i wr=>∃j,j+k=n.length/\i=.int .i64 j/\wr=w/\(n.take j).all bA=true)
  case atStart=>exact⟨0,by omega,rfl,rfl,by simp⟩
  case round =>
   obtain⟨j,hj,rfl,rfl,ja⟩:=hrel
   by_cases aO:j<n.length
   ·have aia:(bs n)[j]'(by rw[fM];omega)=n[j]:=rfl
    generalize hnj:n[j]=cj at aia;have Hnj:Z_ (n[j]=cj):=hnj;clear hnj;cases hn2:Om cj.toNat
    ·have hg:Z_ (aI n=false):=by
      show aI n=false;have:n.all bA=false:=by
       rw[a2E];intro ha;have:=a1e.1 ha (n[j]'aO) (a0z _);unfold bA at this;rw[Hnj.o,hn2]at this;cases this
      unfold aI;rw[this];simp
     have mi:Z_ ((n.take j).all bA=true):=ja;clear ja hh;go_wp2_with (go_at_call 76;refine(tF _ _).mono ?_;rintro e w' ⟨rfl,rfl⟩)
     go_ret;exact⟨bT hg.o.symm,rfl⟩
    have mi:Z_ ((n.take (j+1)).all bA=true):=by
     show(n.take (j+1)).all bA=true;rw[a0I aO,a1L,ja];simp[bA,hn2,Hnj.o]
    clear ja hh;go_wp2_with (go_at_call 76;refine(tF _ _).mono ?_;rintro e w' ⟨rfl,rfl⟩)
    go_roundg (gk-1)
    case measure=>omega
    case rel=>exact⟨j+1,by omega,by go_num,rfl,mi⟩
   have hg:Z_ (aI n=true):=by
    show aI n=true;unfold aI;have:n.take j=n:=a0D (by omega);rw[this]at ja;rw[ja,hh.o,BF];simp;exact⟨by intro e;simp[e]at h0,by omega⟩
   clear ja hh;go_wp2;go_ret;exact⟨bT hg.o.symm,rfl⟩
 have hg:Z_ (aI n=false):=by
  show aI n=false;unfold aI;rw[hh.o,BF];simp
 go_enter Tryz.func78,Tryz.ntmps78
 go_wp2_with (go_at_call 91;refine(ig _ _).mono ?_;rintro e w' ⟨rfl,rfl⟩)
 go_ret;exact⟨bT hg.o.symm,rfl⟩
theorem ek {S:LN} {base:Nat} {size:Nat}(h:w.ownsRow base e size v n xs)(f:aA S w w')(hS:∀k,k∈S->k<base):w'.ownsRow base e size v n xs:=by
 refine⟨h.1,?_⟩;rcases h.2 with hn|⟨g,cap,cur,rfl,hb,mP,rest⟩
 ·exact .inl hn
 refine .inr ⟨g,cap,cur,rfl,hb,?_,rest⟩;rw[f.block g (a0d.1 mP).1 (λhm=>by have:=hS g hm;omega)];exact mP
theorem On {base:Nat} {size:Nat}(h:w.ownsRow base e size v n xs)(hn:v≠.slice none 0 0):∃g cap,v=.slice (some ⟨g,0,none⟩) n cap:=by
 rcases h.2 with⟨h1,_⟩|⟨g,cap,cur,rfl,_⟩
 ·exact absurd h1 hn
 exact⟨g,cap,rfl⟩
theorem aA.yR{g cap:Nat}(h:w.grownBy w' (Value.ownBlock (.slice (some ⟨g,0,none⟩) n cap))):aA [g] w w' :=
 ⟨h.os,h.tape,h.output,h.size,λk hk hS=>h.block k hk (λe=>hS (by simp[Value.ownBlock]at e;simp[e]))⟩
theorem afy:(Tryz.prog.info? 5).map (λi=>(i.zero,i.size,i.bytes))=some (some (.int .u8 0),1,1):=by kernel_rfl
theorem uS:(Tryz.prog.info? 9).map (λi=>(i.zero,i.size,i.bytes))=some (some (.string ByteArray.empty),1,16):=by kernel_rfl
def byt(l:LB):List Value:=l.map λc=>.int .u8 c.toNat
def RS(base:Nat)(w:World)(v:Value)(L:List LB):Prop :=
 ∃a cap,v=.slice a L.length cap/\L.length<=1048576/\L.length<=cap/\∀j (h:j<L.length),∃g off,a=some ⟨g,off,none⟩/\base<=g/\w.cell? ⟨g,off+j,none⟩=some (.string (bs L[j]))
theorem RS.aB {S:LN} {base:Nat} {L:List LB}(h:RS base w v L)(f:aA S w w')(hS:∀k,k∈S->k<base):RS base w' v L:=by
 obtain⟨a,cap,rfl,h1,h2,h3⟩:=h;refine⟨a,cap,rfl,h1,h2,λj hj=>?_⟩;obtain⟨g,off,rfl,hb,hc⟩:=h3 j hj;exact⟨g,off,rfl,hb,by rw[f.cell (World.block_lt_of_cell? w _ hc) (λhm=>by have:=hS g hm;omega)];exact hc⟩
theorem RS.base{base:Nat} {L:List LB}(h:RS base w v L)(hb:base'<=base):RS base' w v L:=by
 obtain⟨a,cap,rfl,h1,h2,h3⟩:=h;refine⟨a,cap,rfl,h1,h2,λj hj=>?_⟩;obtain⟨g,off,rfl,hb,hc⟩:=h3 j hj;exact⟨g,off,rfl,by omega,hc⟩
def sv(L:List LB):List Value:=L.map λs=>.string (bs s)
theorem ak4(L:List LB):(sv L).length=L.length:=by simp[sv]
theorem ad6(L:List LB)(s:LB):sv L++[.string (bs s)]=sv (L++[s]):=by simp[sv]
def SL(base:Nat)(w:World)(v:Value)(L:List LB):Prop:=w.ownsRow base 9 1 v L.length (sv L)
theorem SL.aB {S:LN} {base:Nat} {L:List LB}(h:SL base w v L)(f:aA S w w')(hS:∀k,k∈S->k<base):SL base w' v L:=ek h f hS
theorem SL.rs {base:Nat} {L:List LB}(h:SL base w v L)(hl:L.length<=1048576):RS base w v L:=by
 rcases h.2 with⟨rfl,h0⟩|⟨g,cap,cur,rfl,hb,hg,hnc,hcm,za,ap5⟩
 ·exact⟨none,0,by rw[h0],hl,by omega,λj hj=>by omega⟩
 refine⟨_,cap,rfl,hl,hnc,λj hj=>⟨g,0,rfl,hb,?_⟩⟩;have:=h.cells (g:=g) rfl j (.string (bs L[j])) (by simp[sv,hj]);have aog:(⟨g,0,none⟩:Addr).add j=⟨g,0+j,none⟩:=by unfold Addr.add;split<;>simp_all
 rw[aog]at this;exact this
theorem add0(b j:Nat):(⟨b,0,none⟩:Addr).add j=⟨b,j,none⟩:=by unfold Addr.add;split<;>simp_all
theorem o9 {ops:Array Oper} {rest:List Oper} {o:Oper} {a:Act} {Q:Exit->Act->World->Prop}(w:World)(nJ:o.guard=none)(s x:Operand)
 (ho:o.op=.call { callee:=.builtin .append,args:=#[s,x],argTypes:=#[35,35] })
 (base:Nat) (v:Value) (L:List LB) (n:LB) (b1:Nat) (hs:a.eval s=v) (aQ:SL base w v L) (hx:a.eval x=.slice (some ⟨b1,0,none⟩) 1 1)
 (hc:w.cell? ⟨b1,0,none⟩=some (.string (bs n))) (hlen:L.length<=1048576) (iW:base<=w.heap.size)
 (h:∀g cap w',SL base w' (.slice (some ⟨g,0,none⟩) (L.length+1) cap) (L++[n])->w.grownBy w' v.ownBlock->base<=g->wpList Tryz.prog ops Q rest (a.put o.dst (.slice (some ⟨g,0,none⟩) (L.length+1) cap)) w') :
 wpList Tryz.prog ops Q (o::rest) a w:=by
 obtain⟨i0,hi,iA,fT,gF⟩:=info_parts uS;refine wpList_append_own w nJ s x 35 ho base 9 i0 (.string ByteArray.empty) 1 16 Tryz.underlying35 hi iA fT gF rfl (by decide) v L.length (sv L) hs aQ ⟨b1,0,none⟩ 1 1 [.string (bs n)] hx rfl ?_ (λx hx=>by simp at hx;subst hx;rfl) (by unfold maxLen;omega) (by omega) iW ?_
 ·intro j u hj
  have:j=0:=by
   cases j with
   | zero=>rfl
   | succ j=>simp at hj
  subst this;rw[add0];simp at hj;rw[<-hj];exact hc
 intro v' w' h1 h2 h3;obtain⟨g,cap,rfl⟩:=On h1 (λe=>by have:=h3.1 e;simp at this);have TQ:SL base w' (.slice (some ⟨g,0,none⟩) (L.length+1) cap) (L++[n]):=by
  unfold SL;rw[<-ad6];simpa using h1
 exact h g cap w' TQ h2 (h1.lt g rfl).1
theorem aA.Tq {base:Nat}(h:aA [] a w)(hg:w.grownBy w' v.ownBlock)(hv:∀k,v.ownBlock=some k->a.heap.size<=k):aA [] a w' :=
 h.grown hg (λk hk=>Or.inr (hv k hk))
theorem SL.base{base:Nat} {L:List LB}(h:SL base w v L)(hb:base'<=base):SL base' w v L:=by
 refine⟨h.1,?_⟩;rcases h.2 with hn|⟨g,cap,cur,rfl,hg,rest⟩
 ·exact .inl hn
 exact .inr ⟨g,cap,cur,rfl,by omega,rest⟩
theorem SL.nil(base:Nat)(w:World):SL base w (.slice none 0 0) []:=World.ownsRow_nil w base _ 1
theorem aT {base:Nat} {size:Nat}(h:w.ownsRow base e size v n xs):∃a cap,v=.slice a n cap:=by
 rcases h.2 with⟨e,h0⟩|⟨g,cap,cur,e,_⟩
 ·exact⟨none,0,by rw[e,h0]⟩
 exact⟨_,_,e⟩
theorem SL.shape {base:Nat} {L:List LB}(h:SL base w v L):∃a cap,v=.slice a L.length cap:=aT h
theorem jb {S:LN} {base:Nat} {size:Nat}(h:w.ownsRow base e size v n xs)(f:aA S w w')
 (hS:∀k,k∈S->k<base\/∃cur e' fz,w.heap[k]?=some (.cells cur e' fz)/\e'≠e):w'.ownsRow base e size v n xs:=by
 refine⟨h.1,?_⟩;rcases h.2 with hn|⟨g,cap,cur,rfl,hb,mP,rest⟩
 ·exact .inl hn
 refine .inr ⟨g,cap,cur,rfl,hb,?_,rest⟩;rw[f.block g (a0d.1 mP).1 (λhm=>by
  rcases hS g hm with h1|⟨aib,e',fz,h1,h2⟩
  ·omega
  rw[mP]at h1;simp at h1;exact h2 h1.2.1.symm)]
 exact mP
theorem xh {base:Nat} {size:Nat}(h:w.ownsRow base e size v n xs)(k:Nat)(hk:v.ownBlock=some k):k<w.heap.size:=(h.lt k hk).2
def mo(l:LB)(c:UInt8):Bool:=l.contains c
theorem tN(c:UInt8)(l:LB)(w:World)(hl:l.length<=1048576) :
 Calls Tryz.prog 34 #[.int .u8 c.toNat,.string (bs l)] w λe w'=>e=.returned (.bool (mo l c))/\w=w':=by
 have fM:=bS l;go_enter Tryz.func34,Tryz.ntmps34
 go_wp2;go_loopg [5] l.length (λk i wr=>∃j,j+k=l.length/\i=.int .i64 j/\wr=w/\(l.take j).contains c=false)
 case atStart=>exact⟨0,by omega,rfl,rfl,by simp⟩
 case round =>
  obtain⟨j,hj,rfl,hw,ja⟩:=hrel;subst hw;have mi:=aj ja;clear ja
  by_cases aO:j<l.length
  ·have zS:(bs l)[j]'(by rw[fM];omega)=l[j]:=rfl
   have Ht:Z_ (l.take (j+1)=l.take j++[l[j]]):=a0I aO;have Hm:Z_ (l[j]∈l):=a0z aO;generalize l[j]=x at *;cases he:((x.toNat:Int)==(c.toNat:Int))
   ·have xz:Z_ ((l.take (j+1)).contains c=false):=by
     show _=_;have ja:=mi.o;rw[Ht.o];simp only[a2F,a1i,a0b,a0y]at ja |-;intro h;rcases h with h|h
     ·exact ja h
     rw[h]at he;simp at he
    go_wp2;go_roundg (gk-1)
    case measure=>omega
    case rel=>exact⟨j+1,by omega,by go_num,rfl,xz⟩
   have hg:Z_ (mo l c=true):=by
    show _=_;have:x=c:=a1w.1 (a2P.1 (a0X.1 he));unfold mo;rw[a2F,a1E,<-this];exact Hm
   go_wp2;go_ret;exact⟨bT hg.o.symm,rfl⟩
  have hg:Z_ (mo l c=false):=by
   have:=mi.o;rw[a0D (by omega)]at this;exact this
  go_wp2;go_ret;exact⟨bT hg.o.symm,rfl⟩
def wE:LB:=[97,98,99,100,101,102,103,104,105,106,107,108,109,110,111,112,113,114,115,116,117,118,119,120,121,122,65,66,67,68,69,70,71,72,73,74,75,76,77,78,79,80,81,82,83,84,85,86,87,88,89,90,95]
def uT:LB:=[48,49,50,51,52,53,54,55,56,57]
def uU:LB:=[48,49,50,51,52,53,54,55,56,57,97,98,99,100,101,102]
theorem tH {p:UInt8->Bool}(h:(List.range 256).all (λn=>p (UInt8.ofNat n))=true)(c:UInt8):p c=true:=by
 have:=a1e.1 h c.toNat (a1Z.2 c.toNat_lt)
 rwa [UInt8.ofNat_toNat]at this
theorem abI(c:UInt8):mo wE c=(TM c.toNat||c==95):=by
 have:=tH (p:=λc=>mo wE c==(TM c.toNat||c==95)) (by decide +kernel) c;simpa using this
theorem J8(c:UInt8):mo uT c=kr c.toNat:=by
 have:=tH (p:=λc=>mo uT c==kr c.toNat) (by decide +kernel) c;simpa using this
theorem ak5(c:UInt8):bA c=(mo wE c||mo uT c):=by
 rw[abI,J8];unfold bA Om;have:((c.toNat:Int)==95)=(c==95):=by
  rw[a0P,a0X,a0X]
  constructor
  ·intro h;exact a1w.1 (by simpa using(a2P.1 h))
  intro h;subst h;rfl
 rw[this];cases TM c.toNat<;>cases kr c.toNat<;>cases (c==95)<;>rfl
theorem aic(c:UInt8)(h:mo wE c=true):kr c.toNat=false:=by
 have:=tH (p:=λc=>!(mo wE c)||!(kr c.toNat)) (by decide +kernel) c;rw[h]at this;simpa using this
theorem Dl(n:LB):aI n=(decide (0<n.length)&&decide (n.length<=8)&&!(kr (hd n))&&n.all bA):=by
 unfold aI;cases n<;>simp
theorem mQ(n:LB)(w:World)(hn:n.length<=1048576) :
 Calls Tryz.prog 19 #[.string (bs n)] w λe w'=>e=.returned (.bool (aI n))/\w=w':=by
 have fM:=bS n;go_enter Tryz.func19,Tryz.ntmps19
 go_wp2;go_loopg [3] n.length (λk i wr=>∃j,j+k=n.length/\i=.int .i64 j/\wr=w/\(n.take j).all bA=true/\(0<j->kr (hd n)=false))
 case atStart=>exact⟨0,by omega,rfl,rfl,by simp,by omega⟩
 case round =>
  obtain⟨j,hj,rfl,hw,ja,BF⟩:=hrel;subst hw;have mi:=aj ja;have Hd0:=aj BF;clear ja BF
  by_cases aO:j<n.length
  ·have zS:(bs n)[j]'(by rw[fM];omega)=n[j]:=rfl
   have Ht:Z_ (n.take (j+1)=n.take j++[n[j]]):=a0I aO;have Hm:Z_ (n[j]∈n):=a0z aO;have Hh:Z_ (j=0->hd n=(n[j].toNat:Int)):=by intro e;subst e;exact BD n 0 aO
   generalize n[j]=x at *;have fin:bA x=false\/(j=0/\kr x.toNat=true)->aI n=false:=by
    intro h;rw[Dl];rcases h with h|⟨h0,h1⟩
    ·have:n.all bA=false:=by
      rw[a2E];intro ha;have:=a1e.1 ha x Hm;rw[h]at this;cases this
     rw[this];simp
    rw[Hh.o h0,h1];simp
   have Fin:=aj fin;clear fin;go_wp2_with fail
   refine(tN x wE _ (by decide)).mono ?_;rintro e w' ⟨rfl,rfl⟩;go_wp2_with fail
   refine(tN x uT _ (by decide)).mono ?_;rintro e w' ⟨rfl,rfl⟩;have TS:=ak5 x;have hdg:=J8 x;have Hnm:=aj TS;have Hdg:=aj hdg;clear TS hdg;cases h1:mo wE x
   ·cases h2:mo uT x
    ·have hg:Z_ (aI n=false):=Fin.o (Or.inl (by rw[Hnm.o,h1,h2];rfl))
     go_wp2;go_ret;exact⟨bT hg.o.symm,rfl⟩
    by_cases si:j=0
    ·have hg:Z_ (aI n=false):=Fin.o (Or.inr ⟨si,by rw[<-Hdg.o];exact h2⟩)
     subst si;go_wp2;go_ret;exact⟨bT hg.o.symm,rfl⟩
    have hj1:((j:Int)==0)=false:=a0k.2 (by omega);have xz:Z_ ((n.take (j+1)).all bA=true):=by
     show _=_;rw[Ht.o,a1L,mi.o];simp[Hnm.o,h1,h2]
    go_wp2;go_roundg (gk-1)
    case measure=>omega
    case rel=>exact⟨j+1,by omega,by go_num,rfl,xz,λ_=>Hd0.o (by omega)⟩
   have xz:Z_ ((n.take (j+1)).all bA=true):=by
    show _=_;rw[Ht.o,a1L,mi.o];simp[Hnm.o,h1]
   have Hdd:Z_ (kr (hd n)=false):=by
    by_cases si:j=0
    ·show _=_;rw[Hh.o si];exact aic x h1
    exact Hd0.o (by omega)
   cases h2:mo uT x
   all_goals
    go_wp2;go_roundg (gk-1)
    case measure=>omega
    case rel=>exact⟨j+1,by omega,by go_num,rfl,xz,λ_=>Hdd⟩
  have fJ:=mi.o;rw[a0D (by omega)]at fJ
  by_cases h0:0<n.length
  ·have BF:decide ((0:Int)<(n.length:Int))=true:=a0h (by omega)
   have hg:Z_ (aI n=decide ((n.length:Int)<=8)):=by
    show _=_;have:decide (n.length<=8)=decide ((n.length:Int)<=8):=by
     rw[a0P,a1E,a1E];omega
    rw[Dl,fJ,Hd0.o (by omega),this,a0h h0];generalize decide ((n.length:Int)<=8)=z;cases z<;>rfl
   clear fJ;go_wp2;go_ret;exact⟨bT (by rw[hg.o]),rfl⟩
  have BF:decide ((0:Int)<(n.length:Int))=false:=a0f (by omega);have hg:Z_ (aI n=false):=by
   show _=_;rw[Dl];simp[h0]
  clear fJ;go_wp2;go_ret;exact⟨bT hg.o.symm,rfl⟩
set_option linter.unusedVariables false
set_option linter.unusedSimpArgs false
/-- A normal form: no text,the empty one,a set of bytes (its bits),a pair,a sum,a star. -/
inductive NF where
 | zero:NF
 | one:NF
 | set:Nat->NF
 | pair:NF->NF->NF
 | sum:List NF->NF
 | star:NF->NF
mutual
def NF.size:NF->Nat
 | .zero=>1
 | .one=>1
 | .set _=>1
 | .pair a b=>a.size+b.size+1
 | .sum l=>bB l+1
 | .star a=>a.size+1
def bB:List NF->Nat
 | []=>0
 | x::r=>x.size+bB r
end
theorem NF.size_pos(x:NF):0<x.size:=by cases x<;>simp[NF.size]
theorem dK:∀{l:List NF} {x:NF},x∈l->x.size<=bB l
 | y::r,x,h=>by
   simp only[bB];rcases a0l.1 h with e|e
   ·subst e;omega
   have:=dK e;omega
theorem NF.ind {P:NF->Prop}(h:∀x,(∀y:NF,y.size<x.size->P y)->P x)(x:NF):P x:=by
 have:∀n (x:NF),x.size<=n->P x:=by
  intro n
  induction n with
  | zero=>intro x hx;have:=x.size_pos;omega
  | succ n ih=>intro x hx;exact h x (λy hy=>ih y (by omega))
 exact this _ x (a0a _)
mutual
def dY:NF->Bool
 | .zero=>false
 | .one=>true
 | .set _=>false
 | .pair a b=>dY a&&dY b
 | .sum l=>abJ l
 | .star _=>true
def abJ:List NF->Bool
 | []=>false
 | x::r=>dY x||abJ r
end
def qa(n:Nat):UInt8:=if n<10 then UInt8.ofNat (48+n) else UInt8.ofNat (87+n)
def setName(s:Nat):Nat->LB
 | 0=>[]
 | k+1=>setName s k++(if s.testBit k then [qa (k / 16),qa (k % 16)] else [])
mutual
def name:NF->LB
 | .zero=>[48]
 | .one=>[49]
 | .set s=>115::setName s 256
 | .pair a b=>40::(name a++32::(name b++[41]))
 | .sum l=>91::(dI l++[93])
 | .star a=>name a++[42]
def dI:List NF->LB
 | []=>[]
 | x::r=>name x++124::dI r
end
def aH:NF->NF->NF
 | .zero,_=>.zero
 | .one,b=>b
 | .pair c d,b=>match b with
   | .zero=>.zero
   | .one=>.pair c d
   | b=>aH c (aH d b)
 | a,b=>match b with
   | .zero=>.zero
   | .one=>a
   | b=>.pair a b
def iI:NF->NF
 | .zero=>.one
 | .one=>.one
 | .star a=>.star a
 | a=>.star a
def di:NF->Bool | .set _=>true|_=>false
def bits:NF->Nat | .set s=>s|_=>0
def parts:NF->List NF | .zero=>[] | .sum l=>l|x=>[x]
def aY(l:List NF):Nat:=l.foldl (λn x=>n ||| bits x) 0
def blt:LB->LB->Bool
 | [],[]=>false
 | [],_::_=>true
 | _::_,[]=>false
 | a::r,b::q=>if a<b then true else if a==b then blt r q else false
def put:List NF->NF->List NF
 | [],x=>[x]
 | y::r,x=>if blt (name y) (name x) then y::put r x else if name y==name x then y::r else x::y::r
def fU(l:List NF):List NF:=l.foldl put []
def mkS:List NF->NF
 | []=>.zero
 | [x]=>x
 | l=>.sum l
def bG(l:List NF):List NF:=l.filter (λx=>!di x)++(if aY l=0 then [] else [.set (aY l)])
def bI(ls:List NF):NF:=mkS (fU (bG (ls.flatMap parts)))
def dZ(a b:NF):NF:=bI [a,b]
mutual
def left(c:Nat):NF->NF
 | .zero=>.zero
 | .one=>.zero
 | .set s=>if s.testBit c then .one else .zero
 | .pair a b=>if dY a then dZ (aH (left c a) b) (left c b) else aH (left c a) b
 | .sum l=>bI (uV c l)
 | .star a=>aH (left c a) (.star a)
def uV(c:Nat):List NF->List NF
 | []=>[]
 | x::r=>left c x::uV c r
end
theorem gJ(c:Nat):∀l,uV c l=l.map (left c)
 | []=>rfl
 | x::r=>by simp only[uV,a0A,gJ c r]
def ik:NF->Bool | .zero=>false | .sum _=>false|_=>true
def dE:NF->Bool | .set _=>true | .sum _=>true | .star _=>true|_=>false
def aM:NF->Bool | .zero=>false | .one=>false|_=>true
mutual
def wf:NF->Prop
 | .zero=>True
 | .one=>True
 | .set s=>0<s/\s<2 ^ 256
 | .pair a b=>wf a/\wf b/\dE a=true/\aM b=true
 | .sum l=>wfL l/\∀p∈l,ik p=true
 | .star a=>wf a/\aM a=true
def wfL:List NF->Prop
 | []=>True
 | x::r=>wf x/\wfL r
end
theorem jQ:∀{l:List NF},wfL l↔∀x∈l,wf x
 | []=>by simp[wfL]
 | x::r=>by simp[wfL,jQ (l:=r)]
theorem eF(a:NF):aH a .zero=.zero:=by cases a<;>rfl
theorem bz(a:NF):aH a .one=a:=by cases a<;>rfl
theorem aU {a b:NF}(ha:dE a=true)(hb:aM b=true):aH a b=.pair a b:=by
 cases a<;>simp[dE]at ha<;>cases b<;>simp[aM]at hb<;>rfl
theorem cz {c d b:NF}(hb:aM b=true):aH (.pair c d) b=aH c (aH d b):=by
 cases b<;>simp[aM]at hb<;>rfl
theorem dO:∀{a b:NF},wf a->aM a=true->aM b=true->aM (aH a b)=true
 | .pair c d,b,wa,_,hb=>by
   obtain⟨wc,wd,hc,hd⟩:=wa;rw[cz hb,aU hc (dO wd hd hb)];rfl
 | .set _,b,_,_,hb=>by rw[aU rfl hb];rfl
 | .sum _,b,_,_,hb=>by rw[aU rfl hb];rfl
 | .star _,b,_,_,hb=>by rw[aU rfl hb];rfl
theorem mf:∀{a b:NF},wf a->wf b->wf (aH a b)
 | .zero,b,_,_=>trivial
 | .one,b,_,wb=>wb
 | .pair c d,b,wa,wb=>by
   have wa':=wa;obtain⟨wc,wd,hc,hd⟩:=wa
   by_cases hb:aM b=true
   ·have ht:=dO wd hd hb
    rw[cz hb,aU hc ht];exact⟨wc,mf wd wb,hc,ht⟩
   cases b<;>simp[aM]at hb
   ·rw[eF];trivial
   rw[bz];exact wa'
 | .set s,b,wa,wb=>by
   by_cases hb:aM b=true
   ·rw[aU rfl hb];exact⟨wa,wb,rfl,hb⟩
   cases b<;>simp[aM]at hb
   ·rw[eF];trivial
   rw[bz];exact wa
 | .sum l,b,wa,wb=>by
   by_cases hb:aM b=true
   ·rw[aU rfl hb];exact⟨wa,wb,rfl,hb⟩
   cases b<;>simp[aM]at hb
   ·rw[eF];trivial
   rw[bz];exact wa
 | .star a,b,wa,wb=>by
   by_cases hb:aM b=true
   ·rw[aU rfl hb];exact⟨wa,wb,rfl,hb⟩
   cases b<;>simp[aM]at hb
   ·rw[eF];trivial
   rw[bz];exact wa
theorem fC {b:NF}(h:¬ aM b=true):b=.zero\/b=.one:=by
 cases b<;>simp[aM]at h<;>simp
theorem Dm(a b c:NF):wf a->wf b->aH (aH a b) c=aH a (aH b c):=by
 revert b c
 refine NF.ind (P:=λa=>∀b c:NF,wf a->wf b->aH (aH a b) c=aH a (aH b c)) ?_ a;intro a ih b c wa wb
 by_cases hb:aM b=true
 case neg =>
  rcases fC hb with rfl|rfl
  ·rw[eF];show NF.zero=aH a .zero;rw[eF]
  rw[bz];rfl
 by_cases hc:aM c=true
 case neg =>
  rcases fC hc with rfl|rfl
  ·simp only[eF]
  simp only[bz]
 have Je:=dO wb hb hc;cases a with
 | zero=>rfl
 | one=>rfl
 | pair x y =>
   obtain⟨wx,wy,hx,hy⟩:=wa;rw[cz hb,cz Je,ih x (by simp[NF.size];omega) _ _ wx (mf wy wb),ih y (by simp[NF.size];omega) _ _ wy wb]
 | set s=>rw[aU rfl hb,cz hc,aU (a:=.set s) rfl Je]
 | sum s=>rw[aU rfl hb,cz hc,aU (a:=.sum s) rfl Je]
 | star s=>rw[aU rfl hb,cz hc,aU (a:=.star s) rfl Je]
theorem put_mem:∀{l:List NF} {x p:NF},p∈put l x->p∈l\/p=x
 | [],x,p,h=>by simp[put]at h;exact .inr h
 | y::r,x,p,h=>by
   unfold put at h
   split at h
   ·rcases a0l.1 h with e|e
    ·exact .inl (by simp[e])
    rcases put_mem e with e|e
    ·exact .inl (by simp[e])
    exact .inr e
   split at h
   ·exact .inl h
   rcases a0l.1 h with e|e
   ·exact .inr e
   exact .inl e
theorem E5:∀{l acc:List NF} {p:NF},p∈l.foldl put acc->p∈acc\/p∈l
 | [],acc,p,h=>.inl h
 | x::r,acc,p,h=>by
   rcases E5 (l:=r) h with e|e
   ·rcases put_mem e with e|e
    ·exact .inl e
    exact .inr (by simp[e])
   exact .inr (by simp[e])
theorem jR {l:List NF} {p:NF}(h:p∈fU l):p∈l:=by
 rcases E5 h with e|e
 ·simp at e
 exact e
theorem Dn:∀(l:List NF) (n:Nat),l.foldl (λn x=>n ||| bits x) n=n ||| aY l
 | [],n=>by simp[aY]
 | x::r,n=>by
   have h1:=Dn r (n ||| bits x);have h2:=Dn r (0 ||| bits x);unfold aY;simp only[a1M];rw[h1,h2];simp[Nat.or_assoc]
theorem qG(x:NF)(r:List NF):aY (x::r)=bits x ||| aY r:=by
 have:=Dn r (0 ||| bits x);unfold aY at this |-;simp only[a1M];rw[this];simp
theorem Oo:∀{l:List NF},(∀x∈l,wf x)->aY l<2 ^ 256
 | [],_=>by simp[aY]
 | x::r,h=>by
   rw[qG];refine Nat.or_lt_two_pow ?_ (Oo (λy hy=>h y (by simp[hy])));have hx:=h x (by simp);cases x<;>first | exact hx.2|(simp[bits])
theorem uu {l:List NF} {p:NF}(h:p∈bG l):di p=true\/p∈l:=by
 unfold bG at h;rcases a0b.1 h with h|h
 ·exact .inr (a1R.1 h).1
 split at h
 ·simp at h
 simp at h;subst h;exact .inl rfl
theorem TU {l:List NF} {p:NF}(h:p∈bG l):(aY l≠0/\p=.set (aY l))\/p∈l:=by
 unfold bG at h;rcases a0b.1 h with h|h
 ·exact .inr (a1R.1 h).1
 split at h
 ·simp at h
 simp at h;exact .inl ⟨by assumption,h⟩
theorem BH {p:NF}(h:di p=true):ik p=true:=by cases p<;>simp[di]at h<;>rfl
theorem uw {p:NF}(h:ik p=true):parts p=[p]:=by cases p<;>simp[ik]at h<;>rfl
theorem lq {x p:NF}(hx:wf x)(h:p∈parts x):ik p=true:=by
 cases x with
 | zero=>simp[parts]at h
 | sum l=>exact hx.2 p h
 | one=>simp[parts]at h;subst h;rfl
 | set s=>simp[parts]at h;subst h;rfl
 | pair a b=>simp[parts]at h;subst h;rfl
 | star a=>simp[parts]at h;subst h;rfl
theorem uy {x p:NF}(hx:wf x)(h:p∈parts x):wf p:=by
 cases x with
 | zero=>simp[parts]at h
 | sum l=>exact jQ.1 hx.1 p h
 | one=>simp[parts]at h;subst h;exact hx
 | set s=>simp[parts]at h;subst h;exact hx
 | pair a b=>simp[parts]at h;subst h;exact hx
 | star a=>simp[parts]at h;subst h;exact hx
theorem J9 {l:List NF}(h:∀p∈l,ik p=true) {p:NF}:p∈parts (mkS l)↔p∈l:=by
 match l,h with
 | [],_=>simp[mkS,parts]
 | [x],h=>rw[mkS,uw (h x (by simp))]
 | x::y::r,h=>simp[mkS,parts]
theorem Ka {ls:List NF}(hw:∀x∈ls,wf x) {p:NF}(h:p∈parts (bI ls)):di p=true\/∃x∈ls,p∈parts x:=by
 have aX:∀q∈fU (bG (ls.flatMap parts)),ik q=true:=by
  intro q hq;rcases uu (jR hq) with e|e
  ·exact BH e
  obtain⟨x,hx,hq⟩:=a0U.1 e;exact lq (hw x hx) hq
 rcases uu (jR ((J9 aX).1 h)) with e|e
 ·exact .inl e
 exact .inr (a0U.1 e)
theorem ak6 {l:List NF}(h:∀p∈l,ik p=true)(hw:∀p∈l,wf p):wf (mkS l):=by
 match l,h,hw with
 | [],_,_=>trivial
 | [x],_,hw=>exact hw x (by simp)
 | x::y::r,h,hw=>exact⟨jQ.2 hw,h⟩
theorem Ie {ls:List NF}(hw:∀x∈ls,wf x):wf (bI ls):=by
 refine ak6 ?_ ?_
 ·intro q hq
  rcases uu (jR hq) with e|e
  ·exact BH e
  obtain⟨x,hx,hq⟩:=a0U.1 e;exact lq (hw x hx) hq
 intro q hq;rcases TU (jR hq) with⟨e1,e2⟩|e
 ·subst e2
  refine⟨a2Q e1,Oo ?_⟩;intro y hy;obtain⟨x,hx,hy⟩:=a0U.1 hy;exact uy (hw x hx) hy
 obtain⟨x,hx,hq⟩:=a0U.1 e;exact uy (hw x hx) hq
theorem ak7 {a b:NF}(ha:wf a)(hb:wf b):wf (dZ a b):=Ie (by simp;exact⟨ha,hb⟩)
theorem gK(c:Nat)(x:NF):wf x->wf (left c x):=by
 refine NF.ind (P:=λx=>wf x->wf (left c x)) ?_ x;intro x ih hw;cases x with
 | zero=>trivial
 | one=>trivial
 | set s=>simp only[left];split<;>trivial
 | pair a b =>
   obtain⟨wa,wb,_,_⟩:=hw;have h1:=mf (ih a (by simp[NF.size];omega) wa) wb;simp only[left]
   split
   ·exact ak7 h1 (ih b (by simp[NF.size];omega) wb)
   exact h1
 | sum l =>
   simp only[left,gJ];refine Ie ?_;intro y hy;obtain⟨z,hz,rfl⟩:=a0s.1 hy;have:=dK hz;exact ih z (by simp[NF.size];omega) (jQ.1 hw.1 z hz)
 | star a=>exact mf (ih a (by simp[NF.size]) hw.1) hw
theorem Qs {c:Nat} {q p:NF}(hq:wf q)(h:p∈parts (left c q)):di p=true\/∃p0∈parts q,p∈parts (left c p0):=by
 cases q with
 | zero=>simp[left,parts]at h
 | sum l =>
   simp only[left,gJ]at h;rcases Ka (by intro y hy;obtain⟨z,hz,rfl⟩:=a0s.1 hy;exact gK c z (jQ.1 hq.1 z hz)) h with e|⟨y,hy,e⟩
   ·exact .inl e
   obtain⟨z,hz,rfl⟩:=a0s.1 hy;exact .inr ⟨z,hz,e⟩
 | one=>exact .inr ⟨_,by simp[parts],h⟩
 | set s=>exact .inr ⟨_,by simp[parts],h⟩
 | pair a b=>exact .inr ⟨_,by simp[parts],h⟩
 | star a=>exact .inr ⟨_,by simp[parts],h⟩
def elems:NF->List NF
 | .pair a b=>a::elems b
 | x=>[x]
def chain:List NF->NF
 | []=>.one
 | [x]=>x
 | x::r=>.pair x (chain r)
def mk(h:NF):List NF->NF
 | []=>h
 | x::r=>.pair h (chain (x::r))
theorem uW:∀{b:NF},wf b->chain (elems b)=b
 | .pair a b,h=>by
   have h1:=uW h.2.1;have:∃y r,elems b=y::r:=by cases b<;>simp[elems]
   obtain⟨y,r,e⟩:=this;simp only[elems,e,chain]at h1 |-;rw[h1]
 | .zero,_=>rfl
 | .one,_=>rfl
 | .set _,_=>rfl
 | .sum _,_=>rfl
 | .star _,_=>rfl
theorem BI(b:NF):elems b≠[]:=by cases b<;>simp[elems]
theorem Qt {x:NF} {r:List NF}(h:r≠[]):chain (x::r)=.pair x (chain r):=by
 cases r with
 | nil=>contradiction
 | cons=>rfl
theorem jS {h:NF} {t:List NF}(ht:t≠[]):mk h t=.pair h (chain t):=by
 cases t with
 | nil=>contradiction
 | cons=>rfl
def BJ(l:List NF):Prop:=∀x∈l,wf x/\dE x=true
theorem head_tail {x:NF}(h:dE x=true):aM x=true:=by cases x<;>simp[dE]at h<;>rfl
theorem BM:∀{l:List NF},BJ l->wf (chain l)
 | [],_=>trivial
 | [x],h=>(h x (by simp)).1
 | x::y::r,h=>by
   have h1:=BM (l:=y::r) (λz hz=>h z (by simp at hz |-;exact .inr hz));have h2:=h x (by simp);refine⟨h2.1,h1,h2.2,?_⟩;cases r with
   | nil=>exact head_tail (h y (by simp)).2
   | cons=>rfl
theorem eG:∀{l:List NF},BJ l->l≠[]->aM (chain l)=true
 | [x],h,_=>head_tail (h x (by simp)).2
 | x::y::r,h,_=>rfl
theorem TW:∀{b:NF},wf b->aM b=true->BJ (elems b)
 | .pair a b,h,_=>by
   intro x hx;simp only[elems,a0l]at hx;rcases hx with rfl|hx
   ·exact⟨h.1,h.2.2.1⟩
   exact TW h.2.1 h.2.2.2 x hx
 | .set _,h,_=>by intro x hx;simp[elems]at hx;subst hx;exact⟨h,rfl⟩
 | .sum _,h,_=>by intro x hx;simp[elems]at hx;subst hx;exact⟨h,rfl⟩
 | .star _,h,_=>by intro x hx;simp[elems]at hx;subst hx;exact⟨h,rfl⟩
theorem qX:∀{s t:List NF},BJ s->BJ t->aH (chain s) (chain t)=chain (s++t)
 | [],t,_,_=>rfl
 | x::s,[],hs,ht=>by rw[a0Q];exact bz _
 | [x],y::t,hs,ht=>by
   exact aU (hs x (by simp)).2 (eG ht (by simp))
 | x::z::s,y::t,hs,ht=>by
   have Ya:BJ (z::s):=λw hw=>hs w (by simp at hw |-;exact .inr hw)
   have h1:=qX (s:=z::s) (t:=y::t) Ya ht;show aH (.pair x (chain (z::s))) (chain (y::t))=.pair x (chain (z::s++y::t));rw[cz (eG ht (by simp)),h1];refine aU (hs x (by simp)).2 (eG ?_ (by simp));intro w hw;rcases a0b.1 hw with hw|hw
   ·exact Ya w hw
   exact ht w hw
theorem Oq {h:NF} {s t:List NF}(hh:dE h=true)(hs:BJ s)(ht:BJ t):aH (mk h s) (chain t)=mk h (s++t):=by
 cases s with
 | nil =>
   cases t with
   | nil=>exact bz _
   | cons y t=>exact aU hh (eG ht (by simp))
 | cons x s =>
   cases t with
   | nil=>rw[a0Q];exact bz _
   | cons y t =>
     have dM:BJ (x::s++y::t):=by
      intro w hw;rcases a0b.1 hw with hw|hw
      ·exact hs w hw
      exact ht w hw
     show aH (.pair h (chain (x::s))) (chain (y::t))=.pair h (chain (x::s++y::t));rw[cz (eG ht (by simp)),qX hs ht];exact aU hh (eG dM (by simp))
mutual
def bq:NF->List (NF × List NF)
 | .zero=>[(.zero,[])]
 | .one=>[(.one,[])]
 | .set s=>[(.set s,[])]
 | .pair a b=>(.pair a b,[])::((bq a).map (λo=>(o.1,o.2++elems b))++bq b)
 | .sum l=>(.sum l,[])::Ae l
 | .star a=>(.star a,[])::(bq a).map (λo=>(o.1,o.2++[.star a]))
def Ae:List NF->List (NF × List NF)
 | []=>[]
 | x::r=>bq x++Ae r
end
theorem eP(X:NF):(X,[])∈bq X:=by cases X<;>simp[bq]
theorem BN:∀{l:List NF} {o:NF × List NF},o∈Ae l↔∃x∈l,o∈bq x
 | [],o=>by simp[Ae]
 | x::r,o=>by simp[Ae,BN (l:=r)]
theorem Kb:∀{b:NF} {u r:List NF} {c:NF},elems b=u++c::r->(c,r)∈bq b
 | .pair a b,u,r,c,h=>by
   simp only[elems]at h;cases u with
   | nil =>
     simp at h;obtain⟨rfl,rfl⟩:=h;simp only[bq,a0l,a0b,a0s];exact .inr (.inl ⟨(a,[]),eP a,by simp⟩)
   | cons y u =>
     simp at h;have:=Kb h.2;simp only[bq,a0l,a0b,a0s];exact .inr (.inr this)
 | .zero,u,r,c,h=>by cases u<;>simp[elems]at h;obtain⟨rfl,rfl⟩:=h;exact eP _
 | .one,u,r,c,h=>by cases u<;>simp[elems]at h;obtain⟨rfl,rfl⟩:=h;exact eP _
 | .set _,u,r,c,h=>by cases u<;>simp[elems]at h;obtain⟨rfl,rfl⟩:=h;exact eP _
 | .sum _,u,r,c,h=>by cases u<;>simp[elems]at h;obtain⟨rfl,rfl⟩:=h;exact eP _
 | .star _,u,r,c,h=>by cases u<;>simp[elems]at h;obtain⟨rfl,rfl⟩:=h;exact eP _
theorem Qu:∀{b x:NF},x∈elems b->x.size<=b.size
 | .pair a b,x,h=>by
   simp only[elems,a0l]at h;rcases h with rfl|h
   ·simp[NF.size];omega
   have:=Qu h;simp[NF.size];omega
 | .zero,x,h=>by simp[elems]at h;subst h;exact a0a _
 | .one,x,h=>by simp[elems]at h;subst h;exact a0a _
 | .set _,x,h=>by simp[elems]at h;subst h;exact a0a _
 | .sum _,x,h=>by simp[elems]at h;subst h;exact a0a _
 | .star _,x,h=>by simp[elems]at h;subst h;exact a0a _
theorem qH {X Y:NF} {t:List NF}(h:(Y,t)∈bq X):(Y=X/\t=[]) \/
 (∃a b s,X=.pair a b/\(Y,s)∈bq a/\t=s++elems b)\/(∃a b,X=.pair a b/\(Y,t)∈bq b) \/
 (∃l x,X=.sum l/\x∈l/\(Y,t)∈bq x)\/(∃a s,X=.star a/\(Y,s)∈bq a/\t=s++[.star a]):=by
 cases X with
 | zero=>simp[bq]at h;exact .inl h
 | one=>simp[bq]at h;exact .inl h
 | set s=>simp[bq]at h;exact .inl h
 | pair a b =>
   simp only[bq,a0l,a0b,a0s,Prod.mk.injEq]at h;rcases h with h|⟨⟨Y',s⟩,h,rfl,rfl⟩|h
   ·exact .inl h
   ·exact .inr (.inl ⟨a,b,s,rfl,h,rfl⟩)
   exact .inr (.inr (.inl ⟨a,b,rfl,h⟩))
 | sum l =>
   simp only[bq,a0l,Prod.mk.injEq]at h;rcases h with h|h
   ·exact .inl h
   obtain⟨x,hx,h⟩:=BN.1 h;exact .inr (.inr (.inr (.inl ⟨l,x,rfl,hx,h⟩)))
 | star a =>
   simp only[bq,a0l,a0s,Prod.mk.injEq]at h;rcases h with h|⟨⟨Y',s⟩,h,rfl,rfl⟩
   ·exact .inl h
   exact .inr (.inr (.inr (.inr ⟨a,s,rfl,h,rfl⟩)))
theorem zb {a b Y:NF} {s:List NF}(h:(Y,s)∈bq a):(Y,s++elems b)∈bq (.pair a b):=by
 simp only[bq,a0l,a0b,a0s];exact .inr (.inl ⟨_,h,rfl⟩)
theorem ze {a b Y:NF} {s:List NF}(h:(Y,s)∈bq b):(Y,s)∈bq (.pair a b):=by
 simp only[bq,a0l,a0b,a0s];exact .inr (.inr h)
theorem E6 {l:List NF} {x Y:NF} {s:List NF}(hx:x∈l)(h:(Y,s)∈bq x):(Y,s)∈bq (.sum l):=by
 simp only[bq,a0l];exact .inr (BN.2 ⟨x,hx,h⟩)
theorem uz {a Y:NF} {s:List NF}(h:(Y,s)∈bq a):(Y,s++[.star a])∈bq (.star a):=by
 simp only[bq,a0l,a0s];exact .inr ⟨_,h,rfl⟩
theorem nK {X Y:NF} {t:List NF}(h:(Y,t)∈bq X):Y.size<=X.size/\(t≠[]->Y.size<X.size):=by
 revert Y t
 refine NF.ind (P:=λX=>∀{Y:NF} {t:List NF},(Y,t)∈bq X->Y.size<=X.size/\(t≠[]->Y.size<X.size)) ?_ X;intro X ih Y t h;rcases qH h with⟨rfl,rfl⟩|⟨a,b,s,rfl,g,rfl⟩|⟨a,b,rfl,g⟩|⟨l,x,rfl,hx,g⟩|⟨a,s,rfl,g,rfl⟩
 ·exact⟨a0a _,λh=>absurd rfl h⟩
 ·have:=(ih a (by simp[NF.size];omega) g).1;simp[NF.size];omega
 ·have:=(ih b (by simp[NF.size];omega) g).1;simp[NF.size];omega
 ·have h1:=dK hx
  have:=(ih x (by simp[NF.size];omega) g).1;simp[NF.size];omega
 have:=(ih a (by simp[NF.size]) g).1;simp[NF.size];omega
theorem JD {X Y:NF} {t:List NF}(h:(Y,t)∈bq X):∀x∈t,x.size<X.size\/∃a,x=.star a/\x.size<=X.size:=by
 revert Y t
 refine NF.ind (P:=λX=>∀{Y:NF} {t:List NF},(Y,t)∈bq X->∀x∈t,x.size<X.size\/∃a,x=.star a/\x.size<=X.size) ?_ X;intro X ih Y t h x hx;rcases qH h with⟨rfl,rfl⟩|⟨a,b,s,rfl,g,rfl⟩|⟨a,b,rfl,g⟩|⟨l,z,rfl,hz,g⟩|⟨a,s,rfl,g,rfl⟩
 ·simp at hx
 ·rcases a0b.1 hx with hx|hx
  ·rcases ih a (by simp[NF.size];omega) g x hx with h|⟨_,_,h⟩<;>(left;simp[NF.size];omega)
  have:=Qu hx;left;simp[NF.size];omega
 ·rcases ih b (by simp[NF.size];omega) g x hx with h|⟨_,_,h⟩<;>(left;simp[NF.size];omega)
 ·have h1:=dK hz
  rcases ih z (by simp[NF.size];omega) g x hx with h|⟨_,_,h⟩<;>(left;simp[NF.size];omega)
 rcases a0b.1 hx with hx|hx
 ·rcases ih a (by simp[NF.size]) g x hx with h|⟨_,_,h⟩<;>(left;simp[NF.size];omega)
 simp at hx;subst hx;exact .inr ⟨a,rfl,a0a _⟩
theorem bJ {X Y:NF} {t:List NF}(hX:wf X)(h:(Y,t)∈bq X):wf Y/\BJ t:=by
 revert Y t hX
 refine NF.ind (P:=λX=>∀{Y:NF} {t:List NF},wf X->(Y,t)∈bq X->wf Y/\BJ t) ?_ X;intro X ih Y t hX h;rcases qH h with⟨rfl,rfl⟩|⟨a,b,s,rfl,g,rfl⟩|⟨a,b,rfl,g⟩|⟨l,z,rfl,hz,g⟩|⟨a,s,rfl,g,rfl⟩
 ·exact⟨hX,by intro x hx;simp at hx⟩
 ·have h1:=ih a (by simp[NF.size];omega) hX.1 g
  refine⟨h1.1,?_⟩;intro x hx;rcases a0b.1 hx with hx|hx
  ·exact h1.2 x hx
  exact TW hX.2.1 hX.2.2.2 x hx
 ·exact ih b (by simp[NF.size];omega) hX.2.1 g
 ·have h1:=dK hz
  exact ih z (by simp[NF.size];omega) (jQ.1 hX.1 z hz) g
 have h1:=ih a (by simp[NF.size]) hX.1 g;refine⟨h1.1,?_⟩;intro x hx;rcases a0b.1 hx with hx|hx
 ·exact h1.2 x hx
 simp at hx;subst hx;exact⟨hX,rfl⟩
theorem qY {X Y:NF} {t u r:List NF} {c:NF}(h:(Y,t)∈bq X)(ht:t=u++c::r):(c,r)∈bq X:=by
 revert Y t u r c
 refine NF.ind (P:=λX=>∀{Y:NF} {t u r:List NF} {c:NF},(Y,t)∈bq X->t=u++c::r->(c,r)∈bq X) ?_ X;intro X ih Y t u r c h ht;rcases qH h with⟨rfl,rfl⟩|⟨a,b,s,rfl,g,rfl⟩|⟨a,b,rfl,g⟩|⟨l,z,rfl,hz,g⟩|⟨a,s,rfl,g,rfl⟩
 ·simp at ht
 ·rcases List.append_eq_append_iff.1 ht with⟨us,e1,e2⟩|⟨cs,e1,e2⟩
  ·exact ze (Kb e2)
  cases cs with
  | nil=>simp at e1 e2;exact ze (Kb (u:=[]) (by simpa using e2.symm))
  | cons y cs =>
    simp at e2;obtain⟨rfl,rfl⟩:=e2;exact zb (ih a (by simp[NF.size];omega) g e1)
 ·exact ze (ih b (by simp[NF.size];omega) g ht)
 ·have h1:=dK hz
  exact E6 hz (ih z (by simp[NF.size];omega) g ht)
 rcases List.append_eq_append_iff.1 ht with⟨us,e1,e2⟩|⟨cs,e1,e2⟩
 ·cases us with
  | nil=>simp at e2;obtain⟨rfl,rfl⟩:=e2;exact eP _
  | cons y us=>simp at e2
 cases cs with
 | nil=>simp at e2;obtain⟨rfl,rfl⟩:=e2;exact eP _
 | cons y cs =>
   simp at e2;obtain⟨rfl,rfl⟩:=e2;exact uz (ih a (by simp[NF.size]) g e1)
theorem jw {X Y Z:NF} {t s:List NF}(h:(Y,t)∈bq X)(k:(Z,s)∈bq Y):(Z,s++t)∈bq X:=by
 revert Y t
 refine NF.ind (P:=λX=>∀{Y:NF} {t:List NF},(Y,t)∈bq X->(Z,s)∈bq Y->(Z,s++t)∈bq X) ?_ X;intro X ih Y t h k;rcases qH h with⟨rfl,rfl⟩|⟨a,b,s',rfl,g,rfl⟩|⟨a,b,rfl,g⟩|⟨l,z,rfl,hz,g⟩|⟨a,s',rfl,g,rfl⟩
 ·simpa using k
 ·rw[<-a0K];exact zb (ih a (by simp[NF.size];omega) g k)
 ·exact ze (ih b (by simp[NF.size];omega) g k)
 ·have h1:=dK hz
  exact E6 hz (ih z (by simp[NF.size];omega) g k)
 rw[<-a0K];exact uz (ih a (by simp[NF.size]) g k)
theorem Qv {c:Nat} {p:NF}:∀{t:List NF},BJ t->t≠[]->p∈parts (left c (chain t))->di p=true\/∃u c1 r,t=u++c1::r/\p∈parts (aH (left c c1) (chain r))
 | [x],ht,_,h=>.inr ⟨[],x,[],rfl,by rw[show chain []=.one from rfl,bz];exact h⟩
 | x::y::r,ht,_,h=>by
   have LW:BJ (y::r):=λz hz=>ht z (by simp at hz |-;exact .inr hz)
   have hx:=ht x (by simp);have EH:=gK c x hx.1;have xA:=BM LW;have key:p∈parts (aH (left c x) (chain (y::r)))->di p=true\/∃u c1 r',x::y::r=u++c1::r'/\p∈parts (aH (left c c1) (chain r')) :=
    λh=>.inr ⟨[],x,y::r,rfl,h⟩
   rw[show chain (x::y::r)=.pair x (chain (y::r)) from rfl]at h;simp only[left]at h
   split at h
   ·rcases Ka (by simp;exact⟨mf EH xA,gK c _ xA⟩) h with e|⟨z,hz,e⟩
    ·exact .inl e
    simp at hz;rcases hz with rfl|rfl
    ·exact key e
    rcases Qv LW (by simp) e with e|⟨u,c1,r',e1,e2⟩
    ·exact .inl e
    exact .inr ⟨x::u,c1,r',by rw[e1];rfl,e2⟩
   exact key h
theorem LZ {c:Nat} {p h:NF} {t:List NF}(hh:wf h)(ht:BJ t)(hp:p∈parts (left c (mk h t))) :
 di p=true\/p∈parts (aH (left c h) (chain t))\/∃u c1 r,t=u++c1::r/\p∈parts (aH (left c c1) (chain r)):=by
 cases t with
 | nil=>exact .inr (.inl (by rw[show chain []=.one from rfl,bz];exact hp))
 | cons x t =>
   have xA:=BM ht;rw[show mk h (x::t)=.pair h (chain (x::t)) from rfl]at hp;simp only[left]at hp
   split at hp
   ·rcases Ka (by simp;exact⟨mf (gK c h hh) xA,gK c _ xA⟩) hp with e|⟨z,hz,e⟩
    ·exact .inl e
    simp at hz;rcases hz with rfl|rfl
    ·exact .inr (.inl e)
    rcases Qv ht (by simp) e with e|e
    ·exact .inl e
    exact .inr (.inr e)
   exact .inr (.inl hp)
def dW(X:NF)(w:LN):NF:=w.foldl (λx c=>left c x) X
theorem su(X:NF)(w:LN)(c:Nat):dW X (w++[c])=left c (dW X w):=by simp[dW]
theorem A9 {X:NF}(hX:wf X)(w:LN):wf (dW X w):=by
 unfold dW
 induction w generalizing X with
 | nil=>exact hX
 | cons c w ih=>exact ih (gK c X hX)
def vU:NF->Bool | .sum _=>true | .set _=>true|_=>false
def Sa(X:NF)(w:LN)(p:NF):Prop :=
 di p=true\/p=.one\/∃Y t v,(Y,t)∈bq X/\v <:+ w/\dE (dW Y v)=true/\p=mk (dW Y v) t/\(v=[]\/(t≠[]/\∀u,u <+: v->u≠[]->vU (dW Y u)=true))
theorem agC {X Y:NF} {w v:LN} {p:NF}(ho:(Y,[])∈bq X)(hv:v <:+ w)(h:Sa Y v p):Sa X w p:=by
 rcases h with h|h|⟨Z,t,u,h1,h2,h3,h4,h5⟩
 ·exact .inl h
 ·exact .inr (.inl h)
 have:=jw ho h1;rw[a0Q]at this;exact .inr (.inr ⟨Z,t,u,this,h2.trans hv,h3,h4,h5⟩)
theorem TX {X x:NF}(hx:wf x)(ho:(x,[])∈bq X)(w:LN) {p:NF}(hp:p∈parts x):Sa X w p:=by
 have hpo:(p,[])∈bq X:=by
  cases x with
  | zero=>simp[parts]at hp
  | sum l=>have:=jw ho (E6 (l:=l) hp (eP p));simpa using this
  | one=>simp[parts]at hp;subst hp;exact ho
  | set s=>simp[parts]at hp;subst hp;exact ho
  | pair a b=>simp[parts]at hp;subst hp;exact ho
  | star a=>simp[parts]at hp;subst hp;exact ho
 have hw:=uy hx hp;have ha:=lq hx hp;clear hp ho hx;cases p with
 | zero=>simp[ik]at ha
 | sum l=>simp[ik]at ha
 | one=>exact .inr (.inl rfl)
 | set s=>exact .inl rfl
 | pair a b =>
   have h1:=jw hpo (zb (b:=b) (eP a));simp only[a1a,a0Q]at h1;refine .inr (.inr ⟨a,elems b,[],h1,a2l,hw.2.2.1,?_,.inl rfl⟩);rw[jS (BI b),uW hw.2.1];rfl
 | star a=>exact .inr (.inr ⟨.star a,[],[],hpo,a2l,rfl,rfl,.inl rfl⟩)
theorem Kc {X Y:NF} {t:List NF}(hX:wf X)(ho:(Y,t)∈bq X)(w:LN) {p:NF}(hp:p∈parts (chain t)):Sa X w p:=by
 match t,ho,hp with
 | [],_,hp=>simp[chain,parts]at hp;exact .inr (.inl hp)
 | [x],ho,hp =>
   have h1:=qY (u:=[]) ho rfl;exact TX (bJ hX h1).1 h1 w hp
 | x::y::r,ho,hp =>
   have h1:=qY (u:=[]) ho rfl;have h2:=(bJ hX ho).2 x (by simp);simp[chain,parts]at hp;exact .inr (.inr ⟨x,y::r,[],h1,a2l,h2.2,hp,.inl rfl⟩)
theorem Ot {X Y:NF} {t:List NF} {w u:LN}(hX:wf X)(ho:(Y,t)∈bq X)(ht:t≠[])(hu:u <:+ w)
 (Eo:∀u',u' <+: u->u'≠[]->u'≠u->vU (dW Y u')=true) (ih:∀p∈parts (dW Y u),Sa Y u p)  {p:NF} (hp:p∈parts (aH (dW Y u) (chain t))):Sa X w p:=by
 have hg:=bJ hX ho;have hpre':vU (dW Y u)=true->∀u',u' <+: u->u'≠[]->vU (dW Y u')=true:=by
  intro h u' h1 h2
  by_cases e:u'=u
  ·rw[e];exact h
  exact Eo u' h1 h2 e
 have Ou:∀F:NF,dW Y u=F->ik F=true->di F=false->F≠.one->Sa X w p:=by
  intro F hF ha hs sw;have hpF:F∈parts F:=by rw[uw ha];simp
  rcases ih F (by rw[hF];exact hpF) with h|h|⟨Z,s,v,h1,h2,h3,h4,h5⟩
  ·rw[hs]at h;contradiction
  ·contradiction
  have Sb:=(bJ hg.1 h1).2;rw[hF,h4,Oq h3 Sb hg.2,jS (by simp[ht])]at hp;simp only[parts,a0y]at hp;refine .inr (.inr ⟨Z,s++t,v,jw ho h1,h2.trans hu,h3,?_,?_⟩)
  ·rw[hp,jS (by simp[ht])]
  rcases h5 with h5|h5
  ·exact .inl h5
  exact .inr ⟨by simp[ht],h5.2⟩
 cases hF:dW Y u with
 | zero=>rw[hF]at hp;simp[aH,parts]at hp
 | one=>rw[hF]at hp;exact Kc hX ho w hp
 | set s =>
   have hh:dE (dW Y u)=true:=by rw[hF];rfl
   rw[aU hh (eG hg.2 ht)]at hp;simp only[parts,a0y]at hp;exact .inr (.inr ⟨Y,t,u,ho,hu,hh,by rw[hp,jS ht],.inr ⟨ht,hpre' (by rw[hF];rfl)⟩⟩)
 | sum l =>
   have hh:dE (dW Y u)=true:=by rw[hF];rfl
   rw[aU hh (eG hg.2 ht)]at hp;simp only[parts,a0y]at hp;exact .inr (.inr ⟨Y,t,u,ho,hu,hh,by rw[hp,jS ht],.inr ⟨ht,hpre' (by rw[hF];rfl)⟩⟩)
 | pair a b=>exact Ou _ hF rfl rfl (by simp)
 | star a=>exact Ou _ hF rfl rfl (by simp)
theorem wG(X:NF):wf X->∀(w:LN) (p:NF),p∈parts (dW X w)->Sa X w p:=by
 refine NF.ind (P:=λX=>wf X->∀(w:LN) (p:NF),p∈parts (dW X w)->Sa X w p) ?_ X;intro X ih hX w;have elem:∀(w:LN) (c:Nat) (c1:NF) (r:List NF) (p:NF),(c1,r)∈bq X->dE c1=true->(∀l,c1=.sum l->r=[]->c1.size<X.size)->p∈parts (aH (left c c1) (chain r))->Sa X (w++[c]) p:=by
  intro w c c1 r p ho hh fM hp;have hg:=bJ hX ho;have JE:∀Y:NF,dW Y [c]=left c Y:=λY=>rfl
  have TY:[c] <:+ w++[c]:=List.suffix_append _ _;have TZ:∀(Y:NF) (u':LN),u' <+: [c]->u'≠[]->u'≠[c]->vU (dW Y u')=true:=by
   intro Y u' h1 h2 h3;rcases List.prefix_cons_iff.1 h1 with h|⟨t,rfl,h⟩
   ·contradiction
   have:=List.prefix_nil.1 h;subst this;contradiction
  cases c1 with
  | zero=>simp[dE]at hh
  | one=>simp[dE]at hh
  | pair a b=>simp[dE]at hh
  | set s =>
    simp only[left]at hp
    split at hp
    ·exact Kc hX ho _ hp
    simp[aH,parts]at hp
  | star Z =>
    have hZ:(Z,.star Z::r)∈bq X:=by
     have:=jw ho (uz (eP Z));simpa using this
    have aid:=(nK ho).1;have aO:Z.size<X.size:=by simp[NF.size]at aid;omega
    have BO:wf Z:=hg.1.1;have e:aH (left c (.star Z)) (chain r)=aH (dW Z [c]) (chain (.star Z::r)):=by
     rw[JE];simp only[left];rw[Dm _ _ _ (gK c Z BO) hg.1]
     congr 1
     exact qX (s:=[.star Z]) (t:=r) (by intro x hx;simp at hx;subst hx;exact⟨hg.1,rfl⟩) hg.2
    rw[e]at hp;exact Ot hX hZ (by simp) TY (TZ Z) (ih Z aO BO [c]) hp
  | sum l =>
    by_cases hr:r=[]
    ·subst hr
     have aO:=fM l rfl rfl;rw[show chain []=.one from rfl,bz,<-JE]at hp;exact agC ho TY (ih _ aO hg.1 [c] p hp)
    have aO:=(nK ho).2 hr;rw[<-JE]at hp;exact Ot hX ho hr TY (TZ _) (ih _ aO hg.1 [c]) hp
 have main:∀n (w:LN),w.length=n->∀p,p∈parts (dW X w)->Sa X w p:=by
  intro n
  induction n with
  | zero =>
    intro w hw p hp;have:=a1l hw;subst this;exact TX hX (eP X) [] hp
  | succ n ihn =>
    intro w hw p hp;obtain⟨w',c,rfl⟩:∃w' c,w=w'++[c]:=by
     have bL:w≠[]:=by intro e;subst e;simp at hw
     exact⟨w.dropLast,w.getLast bL,(a2w bL).symm⟩
    have L8:w'.length=n:=by simp at hw;exact hw
    rw[su]at hp;have hq:=A9 hX w';rcases Qs hq hp with h|⟨p0,hp0,hp⟩
    ·exact .inl h
    have T9:=lq hq hp0;rcases ihn w' L8 p0 hp0 with h|h|⟨Y,t,v,ho,hv,hh,rfl,Ba⟩
    ·cases p0<;>simp[di]at h
     simp only[left]at hp
     split at hp<;>simp[parts]at hp
     exact .inr (.inl hp)
    ·subst h;simp[left,parts]at hp
    have hg:=bJ hX ho;rcases LZ (A9 hg.1 v) hg.2 hp with h|h|⟨u,c1,r,hu,h⟩
    ·exact .inl h
    ·rcases Ba with rfl|⟨ht,Eo⟩
     ·refine elem w' c Y t p ho hh ?_ h
      rintro l rfl rfl;simp[mk,dW,ik]at T9
     have aO:=(nK ho).2 ht;rw[<-su]at h;refine Ot hX ho ht (u:=v++[c]) ?_ ?_ (ih Y aO hg.1 (v++[c])) h
     ·obtain⟨z,rfl⟩:=hv;exact⟨z,by simp⟩
     intro u' h1 h2 h3;rcases List.prefix_concat_iff.1 h1 with e|e
     ·contradiction
     exact Eo u' e h2
    have sw:=qY ho hu;have nL:=hg.2 c1 (by rw[hu];simp);refine elem w' c c1 r p sw nL.2 ?_ h;rintro l rfl rfl;rcases JD ho (.sum l) (by rw[hu];simp) with h|⟨a,e,_⟩
    ·exact h
    simp at e
 exact main _ w rfl
set_option linter.unusedVariables false
set_option linter.unusedSimpArgs false
theorem xC:∀a:LB,blt a a=false
 | []=>rfl
 | a::r=>by simp[blt,xC r]
theorem Ke:∀{a b c:LB},blt a b=true->blt b c=true->blt a c=true
 | [],[],_,h,_=>by simp[blt]at h
 | [],_::_,[],_,h=>by simp[blt]at h
 | [],_::_,_::_,_,_=>rfl
 | _::_,[],_,h,_=>by simp[blt]at h
 | _::_,_::_,[],_,h=>by simp[blt]at h
 | a::x,b::y,c::z,h1,h2=>by
   unfold blt at h1 h2 |-
   split at h1
   ·rename_i qZ
    split at h2
    ·rename_i Je
     rw[a0j (UInt8.lt_trans qZ Je)]
    split at h2
    ·rename_i _ Je;rw[<-eq_of_beq Je,a0j qZ]
    simp at h2
   split at h1
   ·rename_i _ qZ
    have:=eq_of_beq qZ;subst this
    split at h2
    ·rename_i Je;rw[a0j Je]
    rename_i Je
    split at h2
    ·rename_i hbc2
     have:=eq_of_beq hbc2;subst this;rw[a0g Je,a0j (a2x _)];exact Ke h1 h2
    simp at h2
   simp at h1
theorem abK:∀(a b:LB),blt a b=true\/a=b\/blt b a=true
 | [],[]=>.inr (.inl rfl)
 | [],_::_=>.inl rfl
 | _::_,[]=>.inr (.inr rfl)
 | a::x,b::y=>by
   by_cases h1:a<b
   ·left;unfold blt;rw[a0j h1]
   by_cases h2:a=b
   ·subst h2
    rcases abK x y with h|h|h
    ·left;unfold blt;rw[a0g h1,a0j (a2x _)];exact h
    ·right;left;rw[h]
    right;right;unfold blt;rw[a0g h1,a0j (a2x _)];exact h
   right;right;unfold blt
   have h3:b<a:=by
    have TQ:=UInt8.not_lt.1 h1;rcases UInt8.lt_or_eq_of_le TQ with h|h
    ·exact h
    exact absurd h.symm h2
   rw[a0j h3]
def Ris(l:List NF):Prop:=l.Pairwise (λx y=>blt (name x) (name y)=true)
theorem abL:∀{l:List NF} {x:NF},Ris l->Ris (put l x)
 | [],x,h=>List.pairwise_singleton _ _
 | y::r,x,h=>by
   have h':=h;unfold Ris at h;rw[a1F]at h;unfold put
   split
   ·rename_i hyx
    refine a1F.2 ⟨?_,abL h.2⟩;intro p hp;rcases put_mem hp with e|e
    ·exact h.1 p e
    subst e;exact hyx
   split
   ·exact h'
   rename_i h1 h2
   refine a1F.2 ⟨?_,h'⟩;have L9:blt (name x) (name y)=true:=by
    rcases abK (name x) (name y) with e|e|e
    ·exact e
    ·rw[e]at h2;simp at h2
    rw[e]at h1;simp at h1
   intro p hp;rcases a0l.1 hp with e|e
   ·subst e;exact L9
   exact Ke L9 (h.1 p e)
theorem E7:∀{l acc:List NF},Ris acc->Ris (l.foldl put acc)
 | [],_,h=>h
 | _::r,_,h=>E7 (l:=r) (abL h)
theorem uX(l:List NF):Ris (fU l):=E7 List.Pairwise.nil
theorem abM:∀{l:List NF} {x:NF},(∀y,name y=name x->y∈l->y=x)->x∈put l x
 | [],x,_=>by simp[put]
 | y::r,x,h=>by
   unfold put
   split
   ·exact a2a _ (abM (λz hz hm=>h z hz (a2a _ hm)))
   split
   ·rename_i e
    rw[h y (eq_of_beq e) (by simp)];simp
   simp
theorem abN:∀{l:List NF} {x p:NF},p∈l->p∈put l x
 | y::r,x,p,h=>by
   unfold put
   split
   ·rcases a0l.1 h with e|e
    ·simp[e]
    exact a2a _ (abN e)
   split
   ·exact h
   exact a2a _ h
def E8(l:List NF):Prop:=∀x∈l,∀y∈l,name x=name y->x=y
theorem E9:∀{l acc:List NF} {p:NF},E8 (acc++l)->(p∈acc\/p∈l)->p∈l.foldl put acc
 | [],acc,p,_,h=>by simpa using h
 | x::r,acc,p,ht,h=>by
   have hx:x∈put acc x:=abM (λy e hy=>ht y (by simp[hy]) x (by simp) e);refine E9 (l:=r) ?_ ?_
   ·intro a ha b hb e
    have cv:∀z,z∈put acc x++r->z∈acc++x::r:=by
     intro z hz;rcases a0b.1 hz with h|h
     ·rcases put_mem h with h|h
      ·simp[h]
      simp[h]
     simp[h]
    exact ht a (cv a ha) b (cv b hb) e
   rcases h with h|h
   ·exact .inl (abN h)
   rcases a0l.1 h with e|e
   ·subst e;exact .inl hx
   exact .inr e
theorem iq {l:List NF}(ht:E8 l) {p:NF}:p∈fU l↔p∈l :=
 ⟨jR,λh=>E9 (acc:=[]) ht (.inr h)⟩
theorem Ua:∀{a b:List NF},Ris a->Ris b->(∀p,p∈a↔p∈b)->a=b
 | [],[],_,_,_=>rfl
 | [],y::b,_,_,h=>by have:=(h y).2 (by simp);simp at this
 | x::a,[],_,_,h=>by have:=(h x).1 (by simp);simp at this
 | x::a,y::b,ha,hb,h=>by
   have ha':=a1F.1 ha;have Jf:=a1F.1 hb;have L9:x=y:=by
    rcases a0l.1 ((h x).1 (by simp)) with e|e
    ·exact e
    rcases a0l.1 ((h y).2 (by simp)) with e2|e2
    ·exact e2.symm
    have:=Ke (Jf.1 x e) (ha'.1 y e2);rw[xC]at this;contradiction
   subst L9
   congr 1
   refine Ua ha'.2 Jf.2 ?_;intro p
   constructor
   ·intro hp
    rcases a0l.1 ((h p).1 (by simp[hp])) with e|e
    ·subst e;have:=ha'.1 p hp;rw[xC]at this;contradiction
    exact e
   intro hp;rcases a0l.1 ((h p).2 (by simp[hp])) with e|e
   ·subst e;have:=Jf.1 p hp;rw[xC]at this;contradiction
   exact e
set_option linter.unusedVariables false
set_option linter.unusedSimpArgs false
def Dp(c:UInt8):Bool:=(48<=c&&c<=57)||(97<=c&&c<=102)
def okr(r:LB):Prop:=∀c r',r=c::r'->c≠42/\Dp c=false
def lJ:Nat->LB
 | 0=>[]
 | n+1=>42::lJ n
def ad7:Nat->NF->NF
 | 0,x=>x
 | n+1,x=>ad7 n (.star x)
theorem wH:∀{k k':Nat} {r r':LB},okr r->okr r'->lJ k++r=lJ k'++r'->k=k'/\r=r'
 | 0,0,r,r',_,_,h=>⟨rfl,h⟩
 | 0,k+1,r,r',h1,_,h=>by
   have:=h1 42 (lJ k++r') h;simp at this
 | k+1,0,r,r',_,h2,h=>by
   have:=h2 42 (lJ k++r) h.symm;simp at this
 | k+1,k'+1,r,r',h1,h2,h=>by
   simp only[lJ,a0J,List.cons.injEq,a1X]at h;obtain⟨e,e2⟩:=wH h1 h2 h;exact⟨by rw[e],e2⟩
theorem YK(n:Nat)(h:n<16):Dp (qa n)=true:=by
 have:∀m:Fin 16,Dp (qa m.1)=true:=by decide
 exact this ⟨n,h⟩
def unhex(c:UInt8):Nat:=if c<=57 then c.toNat-48 else c.toNat-87
theorem Qw(n:Nat)(h:n<16):unhex (qa n)=n:=by
 have:∀m:Fin 16,unhex (qa m.1)=m.1:=by decide
 exact this ⟨n,h⟩
def Ma:LB->LN
 | a::b::r=>(unhex a*16+unhex b)::Ma r
 | _=>[]
theorem Dq(s:Nat):∀k,k<=256->∀c∈setName s k,Dp c=true
 | 0,_,c,h=>by simp[setName]at h
 | k+1,hk,c,h=>by
   simp only[setName,a0b]at h;rcases h with h|h
   ·exact Dq s k (by omega) c h
   split at h
   ·simp at h
    rcases h with rfl|rfl
    ·exact YK _ (by omega)
    exact YK _ (by omega)
   simp at h
def Qx(s:Nat):Nat->LN
 | 0=>[]
 | k+1=>Qx s k++(if s.testBit k then [k] else [])
theorem Qy:∀(a:LB) (x y:UInt8),(∃m,a.length=2*m)->Ma (a++[x,y])=Ma a++[unhex x*16+unhex y]
 | [],x,y,_=>rfl
 | [a],x,y,h=>by obtain⟨m,h⟩:=h;simp at h;omega
 | a::b::r,x,y,h=>by
   obtain⟨m,h⟩:=h;have:=Qy r x y ⟨m-1,by simp at h;omega⟩;simp only[a0J,Ma,this]
theorem Mb(s:Nat):∀k,∃m,(setName s k).length=2*m
 | 0=>⟨0,rfl⟩
 | k+1=>by
   obtain⟨m,h⟩:=Mb s k;simp only[setName]
   split
   ·exact⟨m+1,by simp[h];omega⟩
   exact⟨m,by simp[h]⟩
theorem Fa(s:Nat):∀k,k<=256->Ma (setName s k)=Qx s k
 | 0,_=>rfl
 | k+1,h=>by
   have h1:=Fa s k (by omega);simp only[setName,Qx]
   split
   ·rw[Qy _ _ _ (Mb s k),h1,Qw _ (by omega),Qw _ (by omega)]
    congr 2;omega
   simp[h1]
theorem Ov(s:Nat):∀k i,i∈Qx s k↔i<k/\s.testBit i=true
 | 0,i=>by simp[Qx]
 | k+1,i=>by
   simp only[Qx,a0b,Ov s k i]
   by_cases h:s.testBit k=true
   ·rw[a0j h];simp only[a0y]
    constructor
    ·rintro(⟨a,b⟩|rfl)
     ·exact⟨by omega,b⟩
     exact⟨by omega,h⟩
    rintro⟨a,b⟩
    by_cases e:i=k
    ·exact .inr e
    exact .inl ⟨by omega,b⟩
   rw[a0g h];simp only[a1Y,or_false]
   constructor
   ·rintro⟨a,b⟩;exact⟨by omega,b⟩
   rintro⟨a,b⟩;refine⟨?_,b⟩
   by_cases e:i=k
   ·subst e;contradiction
   omega
theorem aaB {s t:Nat}(hs:s<2 ^ 256)(ht:t<2 ^ 256)(h:setName s 256=setName t 256):s=t:=by
 have h1:Qx s 256=Qx t 256:=by rw[<-Fa s 256 (by omega),<-Fa t 256 (by omega),h]
 apply a1D;intro i
 by_cases hi:i<256
 ·have h2:=Ov s 256 i
  have h3:=Ov t 256 i;rw[h1]at h2;rw[a0P]
  constructor
  ·intro e;exact(h3.1 (h2.2 ⟨hi,e⟩)).2
  intro e;exact(h2.1 (h3.2 ⟨hi,e⟩)).2
 rw[a1B (a0x hs (a1r (by omega) (by omega))),a1B (a0x ht (a1r (by omega) (by omega)))]
theorem YL:∀{a b r r':LB},(∀c∈a,Dp c=true)->(∀c∈b,Dp c=true)->(∀c q,r=c::q->Dp c=false)->(∀c q,r'=c::q->Dp c=false)->a++r=b++r'->a=b/\r=r'
 | [],[],r,r',_,_,_,_,h=>⟨rfl,h⟩
 | [],y::b,r,r',_,hb,h1,_,h=>by
   have:=h1 y (b++r') h;rw[hb y (by simp)]at this;contradiction
 | x::a,[],r,r',ha,_,_,h2,h=>by
   have:=h2 x (a++r) h.symm;rw[ha x (by simp)]at this;contradiction
 | x::a,y::b,r,r',ha,hb,h1,h2,h=>by
   simp only[a0J,List.cons.injEq]at h;obtain⟨e1,e2⟩:=YL (λc hc=>ha c (by simp[hc])) (λc hc=>hb c (by simp[hc])) h1 h2 h.2;exact⟨by rw[h.1,e1],e2⟩
theorem Ub {r:LB}(h:okr r)(k:Nat):∀c q,lJ k++r=c::q->Dp c=false:=by
 intro c q e;cases k with
 | zero=>exact(h c q e).2
 | succ k=>simp[lJ]at e;rw[<-e.1];decide
def NI(n:Nat):Prop:=∀(x y:NF),x.size+y.size<=n->wf x->wf y->∀(k k':Nat) (r r':LB),okr r->okr r'->name x++(lJ k++r)=name y++(lJ k'++r')->ad7 k x=ad7 k' y/\r=r'
theorem aie(r:LB):okr (32::r):=by intro c q e;simp at e;rw[<-e.1];decide
theorem aif(r:LB):okr (41::r):=by intro c q e;simp at e;rw[<-e.1];decide
theorem afz(r:LB):okr (124::r):=by intro c q e;simp at e;rw[<-e.1];decide
theorem Kg(x:NF):∃c r,name x=c::r/\c≠93:=by
 refine NF.ind (P:=λx=>∃c r,name x=c::r/\c≠93) ?_ x;intro x ih;cases x with
 | zero=>exact⟨_,_,rfl,by decide⟩
 | one=>exact⟨_,_,rfl,by decide⟩
 | set s=>exact⟨_,_,rfl,by decide⟩
 | pair a b=>exact⟨_,_,rfl,by decide⟩
 | sum l=>exact⟨_,_,rfl,by decide⟩
 | star a =>
   obtain⟨c,r,h,hc⟩:=ih a (by simp[NF.size]);exact⟨c,r++[42],by simp[name,h],hc⟩
theorem Uc(hn:NI n):∀{l l':List NF} {r r':LB},bB l+bB l'<=n->wfL l->wfL l'->dI l++93::r=dI l'++93::r'->l=l'/\r=r'
 | [],[],r,r',_,_,_,h=>by simpa[dI] using h
 | [],y::l',r,r',_,_,_,h=>by
   obtain⟨c,q,e,hc⟩:=Kg y;simp[dI,e]at h;exact absurd h.1.symm hc
 | x::l,[],r,r',_,_,_,h=>by
   obtain⟨c,q,e,hc⟩:=Kg x;simp[dI,e]at h;exact absurd h.1 hc
 | x::l,y::l',r,r',hs,h1,h2,h=>by
   simp only[bB]at hs;simp only[dI,a0K,a0J]at h;obtain⟨e1,e2⟩:=hn x y (by omega) h1.1 h2.1 0 0 _ _ (afz _) (afz _) h;simp only[List.cons.injEq,a1X]at e2;obtain⟨e3,e4⟩:=Uc hn (by omega) h1.2 h2.2 e2;exact⟨by rw[show x=y from e1,e3],e4⟩
theorem JF:∀n,NI n
 | 0=>by intro x y h;have:=x.size_pos;omega
 | n+1=>by
   have ih:=JF n;intro x y hs wx wy k k' r r' hr Sc h;cases x with
   | star a =>
     have:name a++(lJ (k+1)++r)=name y++(lJ k'++r'):=by
      simp only[name,a0K,a1j]at h;exact h
     exact ih a y (by simp[NF.size]at hs;omega) wx.1 wy (k+1) k' r r' hr Sc this
   | zero =>
     cases y with
     | star b =>
       have:name NF.zero++(lJ k++r)=name b++(lJ (k'+1)++r'):=by
        simp only[name,a0K,a1j]at h |-;exact h
       exact ih _ b (by simp[NF.size]at hs |-;omega) wx wy.1 k (k'+1) r r' hr Sc this
     | zero =>
       simp only[name,a0J,List.cons.injEq,a1X,a1a]at h;obtain⟨e1,e2⟩:=wH hr Sc h;exact⟨by rw[e1],e2⟩
     | _=>simp[name]at h
   | one =>
     cases y with
     | star b =>
       have:name NF.one++(lJ k++r)=name b++(lJ (k'+1)++r'):=by
        simp only[name,a0K,a1j]at h |-;exact h
       exact ih _ b (by simp[NF.size]at hs |-;omega) wx wy.1 k (k'+1) r r' hr Sc this
     | one =>
       simp only[name,a0J,List.cons.injEq,a1X,a1a]at h;obtain⟨e1,e2⟩:=wH hr Sc h;exact⟨by rw[e1],e2⟩
     | _=>simp[name]at h
   | set s =>
     cases y with
     | star b =>
       have:name (.set s)++(lJ k++r)=name b++(lJ (k'+1)++r'):=by
        simp only[name,a0K,a1j]at h |-;exact h
       exact ih _ b (by simp[NF.size]at hs |-;omega) wx wy.1 k (k'+1) r r' hr Sc this
     | set t =>
       simp only[name,a0J,List.cons.injEq,a1X]at h;obtain⟨e1,e2⟩:=YL (Dq s 256 (by omega)) (Dq t 256 (by omega)) (Ub hr k) (Ub Sc k') h;obtain⟨e3,e4⟩:=wH hr Sc e2;exact⟨by rw[e3,aaB wx.2 wy.2 e1],e4⟩
     | _=>simp[name]at h
   | pair a b =>
     cases y with
     | star c =>
       have:name (.pair a b)++(lJ k++r)=name c++(lJ (k'+1)++r'):=by
        simp only[name,a0K,a1j]at h |-;exact h
       exact ih _ c (by simp[NF.size]at hs |-;omega) wx wy.1 k (k'+1) r r' hr Sc this
     | pair c d =>
       simp only[name,a0J,a0K,List.cons.injEq,a1X,a1a]at h;simp only[NF.size]at hs;obtain⟨e1,e2⟩:=ih a c (by omega) wx.1 wy.1 0 0 _ _ (aie _) (aie _) h;simp only[List.cons.injEq,a1X]at e2;obtain⟨e3,e4⟩:=ih b d (by omega) wx.2.1 wy.2.1 0 0 _ _ (aif _) (aif _) e2;simp only[List.cons.injEq,a1X]at e4;obtain⟨e5,e6⟩:=wH hr Sc e4;exact⟨by rw[e5,show a=c from e1,show b=d from e3],e6⟩
     | _=>simp[name]at h
   | sum l =>
     cases y with
     | star c =>
       have:name (.sum l)++(lJ k++r)=name c++(lJ (k'+1)++r'):=by
        simp only[name,a0K,a1j]at h |-;exact h
       exact ih _ c (by simp[NF.size]at hs |-;omega) wx wy.1 k (k'+1) r r' hr Sc this
     | sum l' =>
       simp only[name,a0J,a0K,List.cons.injEq,a1X,a1a]at h;simp only[NF.size]at hs;obtain⟨e1,e2⟩:=Uc ih (by omega) wx.1 wy.1 h;obtain⟨e5,e6⟩:=wH hr Sc e2;exact⟨by rw[e5,e1],e6⟩
     | _=>simp[name]at h
theorem YM {x y:NF}(hx:wf x)(hy:wf y)(h:name x=name y):x=y:=by
 have h0:okr []:=by intro c q e;simp at e
 exact(JF _ x y (a0a _) hx hy 0 0 [] [] h0 h0 (by simpa[lJ] using h)).1
theorem BR {l:List NF}(h:∀x∈l,wf x):E8 l:=λx hx y hy e=>YM (h x hx) (h y hy) e
set_option linter.unusedVariables false
set_option linter.unusedSimpArgs false
theorem qI:∀(l:List NF) (i:Nat),(aY l).testBit i=l.any λx=>(bits x).testBit i
 | [],i=>by simp[aY]
 | x::r,i=>by rw[qG,a2y,qI r i];simp
theorem Dr {a b:List NF}(h:∀i,(a.any λx=>(bits x).testBit i)=b.any λx=>(bits x).testBit i):aY a=aY b:=by
 apply a1D;intro i;rw[qI,qI,h]
theorem Ow {x:NF}(h:di x=false):bits x=0:=by cases x<;>simp[di]at h<;>rfl
theorem ku {l:List NF} {p:NF}:p∈bG l↔(p∈l/\di p=false)\/(aY l≠0/\p=.set (aY l)):=by
 unfold bG;rw[a0b,a1R]
 by_cases h:aY l=0
 ·rw[a0j h];simp[h]
 rw[a0g h];simp[h]
theorem Mc {l:List NF}(hw:∀x∈l,wf x):∀x∈bG l,wf x:=by
 intro x hx;rcases ku.1 hx with h|⟨h1,rfl⟩
 ·exact hw x h.1
 exact⟨a2Q h1,Oo hw⟩
theorem Ud {l:List NF}(hw:∀x∈l,ik x=true):∀x∈bG l,ik x=true:=by
 intro x hx;rcases ku.1 hx with h|⟨h1,rfl⟩
 ·exact hw x h.1
 rfl
theorem Dt {F G:List NF}(hF:∀x∈F,wf x)(hG:∀x∈G,wf x)(h:∀p,di p=false->(p∈F↔p∈G))(hj:aY F=aY G):fU (bG F)=fU (bG G):=by
 refine Ua (uX _) (uX _) ?_;intro p;rw[iq (BR (Mc hF)),iq (BR (Mc hG)),ku,ku,hj]
 constructor
 ·rintro(⟨a,b⟩|a)
  ·exact .inl ⟨(h p b).1 a,b⟩
  exact .inr a
 rintro(⟨a,b⟩|a)
 ·exact .inl ⟨(h p b).2 a,b⟩
 exact .inr a
theorem xD {ls:List NF}(hw:∀x∈ls,wf x):∀p∈ls.flatMap parts,wf p:=by
 intro p hp;obtain⟨x,hx,hp⟩:=a0U.1 hp;exact uy (hw x hx) hp
theorem Ue {ls:List NF}(hw:∀x∈ls,wf x):∀p∈ls.flatMap parts,ik p=true:=by
 intro p hp;obtain⟨x,hx,hp⟩:=a0U.1 hp;exact lq (hw x hx) hp
theorem pE {ls:List NF}(hw:∀x∈ls,wf x) {p:NF}:p∈parts (bI ls)↔p∈bG (ls.flatMap parts):=by
 unfold bI;rw[J9 (λq hq=>Ud (Ue hw) q (jR hq)),iq (BR (Mc (xD hw)))]
theorem Ox {ls:List NF}(hw:∀x∈ls,wf x):aY (parts (bI ls))=aY (ls.flatMap parts):=by
 apply a1D;intro i;rw[qI,a0P,a1H]
 constructor
 ·rintro⟨p,hp,hb⟩
  rcases ku.1 ((pE hw).1 hp) with⟨_,h⟩|⟨_,rfl⟩
  ·rw[Ow h]at hb;simp at hb
  exact hb
 intro hb;have bL:aY (ls.flatMap parts)≠0:=by intro e;rw[e]at hb;simp at hb
 exact⟨.set (aY (ls.flatMap parts)),(pE hw).2 (ku.2 (.inr ⟨bL,rfl⟩)),hb⟩
theorem xm(a b:List NF):aY (a++b)=aY a ||| aY b:=by
 apply a1D;intro i;rw[a2y,qI,qI,qI,List.any_append]
theorem Md {Oy bs:List NF}(ha:∀x∈Oy,wf x)(hb:∀x∈bs,wf x):bI (bI Oy::bs)=bI (Oy++bs):=by
 have qZ:∀x∈Oy++bs,wf x:=by
  intro x hx;rcases a0b.1 hx with h|h
  ·exact ha x h
  exact hb x h
 have ho:∀x∈bI Oy::bs,wf x:=by
  intro x hx;rcases a0l.1 hx with h|h
  ·rw[h];exact Ie ha
  exact hb x h
 show mkS _=mkS _
 congr 1
 refine Dt (xD ho) (xD qZ) ?_ ?_
 ·intro p hp
  simp only[a0Z,a2L,a0b];rw[pE ha,ku]
  constructor
  ·rintro((h|⟨_,rfl⟩)|h)
   ·exact .inl h.1
   ·simp[di]at hp
   exact .inr h
  rintro(h|h)
  ·exact .inl (.inl ⟨h,hp⟩)
  exact .inr h
 simp only[a0Z,a2L,xm];rw[Ox ha]
theorem tQ {Oy bs:List NF}(ha:∀x∈Oy,wf x)(hb:∀x∈bs,wf x)(h:∀p,p∈Oy.flatMap parts↔p∈bs.flatMap parts):bI Oy=bI bs:=by
 show mkS _=mkS _
 congr 1
 refine Dt (xD ha) (xD hb) (λp _=>h p) ?_;refine Dr λi=>?_
 rw[a0P,a1H,a1H]
 constructor
 ·rintro⟨x,hx,hb⟩;exact⟨x,(h x).1 hx,hb⟩
 rintro⟨x,hx,hb⟩;exact⟨x,(h x).2 hx,hb⟩
def Qz(x:NF):Prop:=bI [x]=x
theorem aih {ls:List NF}(hw:∀x∈ls,wf x):Qz (bI ls):=by
 have:=Md hw (bs:=[]) (by simp);rwa [a0Q]at this
theorem YN {x:NF}(hx:wf x)(h:∀l,x≠.sum l):Qz x:=by
 cases x with
 | sum l=>exact absurd rfl (h l)
 | zero=>rfl
 | one=>simp[Qz,bI,parts,bG,di,aY,bits,fU,put,mkS]
 | pair a b=>simp[Qz,bI,parts,bG,di,aY,bits,fU,put,mkS]
 | star a=>simp[Qz,bI,parts,bG,di,aY,bits,fU,put,mkS]
 | set s =>
   have:s≠0:=by have:=hx.1;omega
   simp[Qz,bI,parts,bG,di,aY,bits,fU,put,mkS,this]
mutual
/-- Every sum within is its own or. -/
def can:NF->Prop
 | .zero=>True
 | .one=>True
 | .set _=>True
 | .pair a b=>can a/\can b
 | .sum l=>abO l/\Qz (.sum l)
 | .star a=>can a
def abO:List NF->Prop
 | []=>True
 | x::r=>can x/\abO r
end
theorem uA:∀{l:List NF},abO l↔∀x∈l,can x
 | []=>by simp[abO]
 | x::r=>by simp[abO,uA (l:=r)]
theorem Kh {x:NF}(hw:wf x)(h:can x):Qz x:=by
 cases x with
 | sum l=>exact h.2
 | _=>exact YN hw (by simp)
theorem ad8 {x p:NF}(hx:can x)(h:p∈parts x):can p:=by
 cases x with
 | zero=>simp[parts]at h
 | sum l=>exact uA.1 hx.1 p h
 | _=>simp[parts]at h;subst h;exact hx
theorem Uf {ls:List NF}(hw:∀x∈ls,wf x)(hc:∀x∈ls,can x):can (bI ls):=by
 have hp:∀p∈parts (bI ls),can p:=by
  intro p hp;rcases ku.1 ((pE hw).1 hp) with⟨h,_⟩|⟨_,rfl⟩
  ·obtain⟨x,hx,h⟩:=a0U.1 h;exact ad8 (hc x hx) h
  trivial
 cases ho:bI ls with
 | zero=>trivial
 | sum l =>
   rw[ho]at hp;refine⟨uA.2 hp,?_⟩;have:=aih hw;rwa [ho]at this
 | one=>trivial
 | set s=>trivial
 | pair a b=>rw[ho]at hp;exact hp _ (by simp[parts])
 | star a=>rw[ho]at hp;exact hp _ (by simp[parts])
theorem zf:∀{a b:NF},can a->can b->can (aH a b)
 | .zero,b,_,_=>trivial
 | .one,b,_,hb=>hb
 | .pair c d,b,ha,hb=>by
   by_cases ht:aM b=true
   ·rw[cz ht];exact zf ha.1 (zf ha.2 hb)
   rcases fC ht with rfl|rfl
   ·rw[eF];trivial
   rw[bz];exact ha
 | .set s,b,ha,hb=>by
   by_cases ht:aM b=true
   ·rw[aU rfl ht];exact⟨ha,hb⟩
   rcases fC ht with rfl|rfl
   ·rw[eF];trivial
   rw[bz];exact ha
 | .sum l,b,ha,hb=>by
   by_cases ht:aM b=true
   ·rw[aU rfl ht];exact⟨ha,hb⟩
   rcases fC ht with rfl|rfl
   ·rw[eF];trivial
   rw[bz];exact ha
 | .star a,b,ha,hb=>by
   by_cases ht:aM b=true
   ·rw[aU rfl ht];exact⟨ha,hb⟩
   rcases fC ht with rfl|rfl
   ·rw[eF];trivial
   rw[bz];exact ha
theorem YO(c:Nat)(x:NF):wf x->can x->can (left c x):=by
 refine NF.ind (P:=λx=>wf x->can x->can (left c x)) ?_ x;intro x ih hw hx;cases x with
 | zero=>trivial
 | one=>trivial
 | set s=>simp only[left];split<;>trivial
 | pair a b =>
   obtain⟨wa,wb,_,_⟩:=hw;have h1:=zf (ih a (by simp[NF.size];omega) wa hx.1) hx.2;simp only[left]
   split
   ·refine Uf ?_ ?_
    ·simp;exact⟨mf (gK c a wa) wb,gK c b wb⟩
    simp;exact⟨h1,ih b (by simp[NF.size];omega) wb hx.2⟩
   exact h1
 | sum l =>
   simp only[left,gJ];refine Uf ?_ ?_
   ·intro y hy;obtain⟨z,hz,rfl⟩:=a0s.1 hy;exact gK c z (jQ.1 hw.1 z hz)
   intro y hy;obtain⟨z,hz,rfl⟩:=a0s.1 hy;have:=dK hz;exact ih z (by simp[NF.size];omega) (jQ.1 hw.1 z hz) (uA.1 hx.1 z hz)
 | star a=>exact zf (ih a (by simp[NF.size]) hw.1 hx) hx
theorem agD {a:NF}(h:wf a):wf (iI a):=by cases a<;>first | trivial|exact h|exact⟨h,rfl⟩
theorem ad9 {a:NF}(h:can a):can (iI a):=by cases a<;>first | trivial|exact h
end Go.Proofs.YtgbdcmpmmkfbhaaGreat
