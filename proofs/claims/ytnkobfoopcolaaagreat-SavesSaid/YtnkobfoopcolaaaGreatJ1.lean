import Derived.Test.YtnkobfoopcolaaaGreatRows
import Derived.Test.YtnkobfoopcolaaaGreatChecked
import Derived.WalkKit
import Derived.WalkSpells
import Derived.WalkLawsBesides
import Derived.Deep.QuietTactic
import Derived.BigQuiet
import Derived.Deep.LoopGhost
import Derived.Deep.RegionHeld3
import Derived.Deep.AppendLies
import Derived.Great.BuildSlice
set_option linter.unusedVariables false
set_option linter.unusedSimpArgs false
set_option linter.unnecessarySimpa false
set_option linter.defProp false
set_option maxRecDepth 100000
set_option maxHeartbeats 8000000
namespace Go.Proofs.YtnkobfoopcolaaaGreat
open Go.RowKit
section
variable {w w':World} {e:TypeId} {v y:Value} {base' n:Nat} {xs:List Value}
abbrev LN:=List.{0} Nat
abbrev a0a:=@List.getElem?_eq_getElem
abbrev a0b:=@Nat.le_refl
abbrev a0c:=@Array.getElem?_eq_some_iff
abbrev a0d:=@List.getElem?_eq_some_iff
abbrev a0e:=@List.mem_append
abbrev a0f:=@decide_eq_false
abbrev a0g:=@decide_eq_true
abbrev a0h:=@Nat.le_trans
abbrev a0i:=@List.drop_eq_nil_of_le
abbrev a0j:=@beq_eq_false_iff_ne
abbrev a0k:=@List.drop_eq_getElem_cons
abbrev a0l:=@List.mem_cons
abbrev a0m:=@if_pos
abbrev a0n:=@if_neg
abbrev a0o:=@Nat.mul_le_mul_left
abbrev a0p:=@List.length_append
abbrev a0q:=@List.mem_map
abbrev a0r:=@List.length_cons
abbrev a0s:=@List.getElem?_append_left
abbrev a0t:=@Nat.lt_of_lt_of_le
abbrev a0u:=@List.getElem_mem
abbrev a0v:=@Array.getElem?_modify
abbrev a0w:=@List.mem_singleton
abbrev a0x:=@List.getD_eq_getElem?_getD
abbrev a0y:=@List.length_map
abbrev a0z:=@Nat.mul_le_mul_right
abbrev a0A:=@Bool.false_eq_true
abbrev a0B:=@List.mem_of_getElem?
abbrev a0C:=@List.take_of_length_le
abbrev a0D:=@Nat.mul_le_mul
abbrev a0E:=@List.map_cons
abbrev a0F:=@List.take_succ_eq_append_getElem
abbrev a0G:=@if_true
abbrev a0H:=@Option.mem_toList
abbrev a0I:=@if_false
abbrev a0J:=@Nat.add_mul
abbrev a0K:=@List.getElem?_append_right
abbrev a0L:=@List.cons_append
abbrev a0M:=@List.append_assoc
abbrev a0N:=@List.prefix_refl
abbrev a0O:=@Bool.and_eq_true
abbrev a0P:=@List.map_append
abbrev a0Q:=@List.getElem?_map
abbrev a0R:=@List.append_nil
abbrev a0S:=@List.eq_nil_of_length_eq_zero
abbrev a0T:=@Bool.eq_iff_iff
abbrev a0U:=@decide_eq_true_eq
abbrev a0V:=@List.nil_append
abbrev a0W:=@beq_iff_eq
abbrev a0X:=@List.length_singleton
abbrev a0Y:=@List.sum_cons
abbrev a0Z:=@Nat.mul_assoc
abbrev a1a:=@Bool.or_eq_true
abbrev a1b:=@Nat.mul_comm
abbrev a1c:=@List.take_add_one
abbrev a1d:=@List.all_eq_true
abbrev a1e:=@List.length_nil
abbrev a1f:=@List.mem_of_mem_drop
abbrev a1g:=@decide_eq_false_iff_not
abbrev a1h:=@List.singleton_append
abbrev a1i:=@List.flatMap_cons
abbrev a1j:=@Bool.not_eq_true'
abbrev a1k:=@List.length_take
abbrev a1l:=@List.mem_flatMap
abbrev a1m:=@List.getElem?_cons_succ
abbrev a1n:=@Nat.zero_add
abbrev a1o:=@List.mem_append_right
abbrev a1p:=@UInt8.le_iff_toNat_le
abbrev a1q:=@Nat.le_mul_of_pos_left
abbrev a1r:=@Nat.pow_le_pow_right
abbrev a1s:=@List.any_eq_true
abbrev a1t:=@List.prefix_append
abbrev a1u:=@Nat.lt_irrefl
abbrev a1v:=@List.set_append_right
abbrev a1w:=@UInt8.toNat_inj
abbrev a1x:=@Option.map_some
abbrev a1y:=@Nat.mul_left_comm
abbrev a1z:=@Nat.testBit_lt_two_pow
abbrev a1A:=@Nat.mul_add
abbrev a1B:=@List.mem_append_left
abbrev a1C:=@List.take_append_drop
abbrev a1D:=@Nat.eq_of_testBit_eq
abbrev a1E:=@decide_eq_true_iff
abbrev a1F:=@List.pairwise_cons
abbrev a1G:=@Nat.zero_le
abbrev a1H:=@Nat.mul_one
abbrev a1I:=@List.isEmpty_cons
abbrev a1J:=@List.takeWhile_append_dropWhile
abbrev a1K:=@Bool.not_false
abbrev a1L:=@List.tail_cons
abbrev a1M:=@bne_iff_ne
abbrev a1N:=@List.drop_append_of_le_length
abbrev a1O:=@List.length_pos_iff
abbrev a1P:=@List.all_cons
abbrev a1Q:=@Nat.add_zero
abbrev a1R:=@List.foldl_cons
abbrev a1S:=@List.set_cons_succ
abbrev a1T:=@List.getElem?_of_mem
abbrev a1U:=@List.not_mem_nil
abbrev a1V:=@List.map_nil
abbrev a1W:=@true_and
abbrev a1X:=@bne_eq_false_iff_eq
abbrev a1Y:=@List.sum_append
abbrev a1Z:=@List.getElem?_eq_none
abbrev a2a:=@Nat.lt_or_ge
abbrev a2b:=@List.mem_range
abbrev a2c:=@List.all_append
abbrev a2d:=@List.map_set
abbrev a2e:=@List.findIdx?_eq_some_iff_getElem
abbrev a2f:=@Int.tmod_eq_emod_of_nonneg
abbrev a2g:=@Array.all_eq_true_iff_forall_mem
abbrev a2h:=@List.take_length
abbrev a2i:=@Nat.lt_of_le_of_lt
abbrev a2j:=@List.drop_zero
abbrev a2k:=@List.nil_suffix
abbrev a2l:=@List.mem_cons_of_mem
abbrev a2m:=@List.map_map
abbrev a2n:=@Nat.min_eq_left
abbrev a2o:=@Nat.testBit_xor
abbrev a2p:=@Bool.eq_false_iff
abbrev a2q:=@of_decide_eq_true
abbrev a2r:=@Nat.le_mul_of_pos_right
abbrev a2s:=@List.map_congr_left
abbrev a2t:=@List.dropLast_concat_getLast
abbrev a2u:=@and_true
abbrev a2v:=@Nat.sub_self
abbrev a2w:=@Nat.add_comm
abbrev a2x:=@Bool.and_true
abbrev a2y:=@List.isPrefixOf_iff_prefix
abbrev a2z:=@Int.tdiv_eq_ediv_of_nonneg
abbrev a2A:=@Int.toNat_natCast
abbrev a2B:=@List.contains_eq_mem
abbrev a2C:=@List.findIdx?_eq_none_iff
abbrev a2D:=@Nat.testBit_or
abbrev a2E:=@List.flatMap_nil
abbrev a2F:=@List.length_drop
abbrev a2G:=@List.countP_cons
abbrev a2H:=@List.drop_length
abbrev a2I:=@Nat.testBit_two_pow
abbrev a2J:=@List.take_succ_cons
abbrev a2K:=@List.getElem?_replicate
abbrev a2L:=@Int.eq_ofNat_of_zero_le
abbrev a2M:=@Nat.add_assoc
abbrev a2N:=@Int.ofNat_inj
abbrev a2O:=@Bool.not_true
abbrev a2P:=@Nat.pos_of_ne_zero
abbrev a2Q:=@List.append_of_mem
abbrev a2R:=@List.nodup_cons
abbrev a2S:=@Nat.two_pow_pos
abbrev a2T:=@Nat.one_mul
abbrev a2U:=@List.findIdx_le_length
abbrev a2V:=@or_false
abbrev a2W:=@List.zipWith_cons_cons
abbrev a2X:=@Bool.not_eq_false
abbrev a2Y:=@Nat.add_le_add
abbrev a2Z:=@List.drop_drop
abbrev a3a:=@UInt8.toNat_sub_of_le
abbrev a3b:=@List.getElem?_zipWith
abbrev a3c:=@Nat.testBit_two_pow_sub_one
abbrev a3d:=@beq_self_eq_true
abbrev a3e:=@Nat.pow_lt_pow_right
abbrev a3f:=@List.mem_iff_getElem
abbrev a3g:=@List.ext_getElem
abbrev a3h:=@List.mem_of_mem_take
abbrev a3i:=@Nat.mod_lt
abbrev a3j:=@Nat.lt_succ_self
abbrev a3k:=@Bool.true_and
abbrev a3l:=@Bool.false_or
abbrev a3m:=@List.any_cons
abbrev a3n:=@Int.le_refl
abbrev a3o:=@Array.length_toList
abbrev a3p:=@List.length_set
abbrev a3q:=@List.pairwise_iff_getElem
abbrev a3r:=@List.mem_take_iff_getElem
abbrev a3s:=@List.isEmpty_eq_false_iff
abbrev a3t:=@Nat.le_of_lt
abbrev a3u:=@List.getElem?_drop
abbrev a3v:=@List.filter_append
abbrev a3w:=@List.take_zero
abbrev LB:=List.{0} UInt8
def bs(l:LB):ByteArray:=⟨l.toArray⟩
abbrev zA(b:Nat):Addr:=⟨b,0,none⟩
abbrev zB(b o:Nat):Addr:=⟨b,o,none⟩
abbrev zS(b n c:Nat):Value:=.slice (some ⟨b,0,none⟩) n c
abbrev zN:Value:=.slice none 0 0
abbrev zI(n:Int):Value:=.int .i64 n
abbrev zP(b:Nat):Value:=.pointer (some ⟨b,0,none⟩)
abbrev zT(l:LB):Value:=.string (bs l)
abbrev zR(v:Value):Ending:=.returned v
abbrev zQ(v:Array Value):Ending:=.returned (.tuple v)
abbrev zC(w:World)(b o:Nat)(v:Value):Prop:=w.cell? ⟨b,o,none⟩=some v
abbrev zF:=Calls Tryz.prog
attribute [simp,go_sem] zA zB zS zN zI zP zT zR zQ zC zF
def Z_(p:Prop):Prop:=p
theorem Z_.o {p}(h:Z_ p):p:=h
theorem bL(l):(bs l).size=l.length:=rfl
def aor(l):(bs l).data.toList=l:=by simp[bs]
theorem aT(l):(bs l).toList=l:=by rw[ByteArray.toList_eq];simp[bs]
theorem aje(s):bs s.data.toList=s:=by cases s;simp[bs]
theorem mf(a b):bs a++bs b=bs (a++b):=by apply ByteArray.ext;simp[bs]
theorem tF(l a b):(bs l).extract a b=bs ((l.take b).drop a):=by
 apply ByteArray.ext;simp[bs,ByteArray.data_extract,List.extract_eq_take_drop,List.take_drop];by_cases h:a<=b
 .rw[Nat.add_sub_cancel' h]
 rw[show b-a=0 by omega,a1Q,a0i (by simp[a1k];omega),a0i (by simp[a1k];omega)]
structure aB(S:LN)(w w':World):Prop where
 os:w'.os=w.os
 tape:w'.tape=w.tape
 output:w'.output=w.output
 size:w.heap.size<=w'.heap.size
 block:∀k,k<w.heap.size->k∉S->w'.heap[k]?=w.heap[k]?
theorem aB.refl(S w):aB S w w:=⟨rfl,rfl,rfl,a0b _,λ_ _ _=>rfl⟩
theorem aB.trans {S a b c}(h:aB S a b)(k:aB S b c):aB S a c :=
 ⟨k.os.trans h.os,k.tape.trans h.tape,k.output.trans h.output,a0h h.size k.size,
  λi d e=>(k.block i (a0t d h.size) e).trans (h.block i d e)⟩
theorem aB.mono {S S' a b}(h:aB S a b)(d:∀k,k<a.heap.size->k∈S->k∈S'):aB S' a b :=
 ⟨h.os,h.tape,h.output,h.size,λk c f=>h.block k c (λe=>f (d k c e))⟩
theorem aB.nil {S a b}(h:aB [] a b):aB S a b:=h.mono (by simp)
theorem aB.drew {S a}(h:aB S a w):aB S a w.drew:=⟨h.os,h.tape,h.output,h.size,h.block⟩
theorem aB.drewN {S a}(n)(h:aB S a w):aB S a (w.drewN n):=⟨h.os,h.tape,h.output,h.size,h.block⟩
theorem aB.setCell {S a}(h:aB S a w) {p}(b:p.block∈S\/a.heap.size<=p.block)(u):aB S a (w.setCell p u):=by
 refine⟨h.os,h.tape,h.output,?_,λk d c=>?_⟩
 .have:=h.size;simp[World.setCell];omega
 have f:k≠p.block:=by
  intro e;rcases b with b|b
  .exact c (e ▸ b)
  omega
 rw[Below.heap_setCell _ _ _ _ f];exact h.block k d c
theorem aB.alloc {S a}(h:aB S a w)(o):aB S a (w.alloc o):=by
 refine⟨h.os,h.tape,h.output,?_,λk b c=>?_⟩
 .have:=h.size;simp;omega
 rw[Below.heap_alloc _ _ _ (a0t b h.size)];exact h.block k b c
theorem aB.grown {S:LN}{a:World} {row:Option Nat}(h:aB S a w)(b:w.grownBy w' row)(f:∀k,row=some k->k∈S\/a.heap.size<=k):aB S a w':=by refine⟨b.os.trans h.os,b.tape.trans h.tape,b.output.trans h.output,a0h h.size b.size,λk c d=>?_⟩;rw[b.block k (a0t c h.size) (λe=>(f k e.symm).elim d (λg=>by omega))];exact h.block k c d
def aB.below {a b}(h:aB [] a b):Below a.heap.size a b:=⟨h.os,h.tape,h.output,h.size,λk c=>h.block k c (by simp)⟩
theorem aB.cell {S}(h:aB S w w') {p}(a:p.block<w.heap.size)(b:p.block∉S):w'.cell? p=w.cell? p:=World.cell?_of_block (h.block _ a b)
def aB.frozen {S}(h:aB S w w') {p}(a:p.block<w.heap.size)(b:p.block∉S):w'.frozen? p=w.frozen? p:=World.frozen?_of_block (h.block _ a b)
def dD {a b}(h:a=b):Ending.returned (.bool a)=zR (.bool b):=by rw[h]
def mJ {k a b}(h:a=b):Ending.returned (.int k a)=zR (.int k b):=by rw[h]
def aj {p}(h:p):Z_ p:=h
def lW(c:Int):Bool:=decide (48<=c)&&decide (c<=57)
def Zd(c:Int):Bool:=(decide (97<=c)&&decide (c<=122))||(decide (65<=c)&&decide (c<=90))
def Uy(c:Int):Bool:=Zd c||lW c||(c==95)
def iT(c w) :
 zF 125 #[.int .u8 c] w λe w'=>e=zR (.bool (lW c))/\w=w':=by
 delta zF;go_in;go_wp2;all_goals go_ret
 all_goals exact⟨dD (by simp[lW, *]<;>omega),rfl⟩
def acm(c w) :
 zF 124 #[.int .u8 c] w λe w'=>e=zR (.bool (Zd c))/\w=w':=by
 delta zF;go_in;go_wp2;all_goals go_ret
 all_goals exact⟨dD (by simp[Zd, *]<;>omega),rfl⟩
def vN(c w) :
 zF 110 #[.int .u8 c] w λe w'=>e=zR (.bool (Uy c))/\w=w':=by
 cases b:Zd c<;>cases a:lW c;all_goals
  delta zF;go_in;go_wp2_with (first | (go_at_call 124;refine(acm _ _).mono ?_;rintro e w' ⟨rfl,rfl⟩)|(go_at_call 125;refine(iT _ _).mono ?_;rintro e w' ⟨rfl,rfl⟩));all_goals go_ret
  all_goals exact⟨dD (by simp[Uy, *]),rfl⟩
theorem yD(w:World)(a b):(w.drewN a).drewN b=w.drewN (a+b):=by simp[World.drewN,a2M]
def hd(l:LB):Int:=((l.head?.getD 0).toNat:Int)
theorem EP(t:LB)(i)(h:i<t.length):hd (t.drop i)=(t[i].toNat:Int):=by unfold hd;rw[List.head?_drop,a0a h];rfl
def bK(c:UInt8):Bool:=Uy c.toNat
def nG(c:UInt8):Bool:=lW c.toNat
def aJ(n:LB):Bool:=!(n.isEmpty)&&decide (n.length<=8)&&!(lW (hd n))&&n.all bK
theorem JQ(c r):hd (c::r)=(c.toNat:Int):=rfl
def JR(n w)(z:n.length<=1048576) :
 zF 112 #[zT n] w λe w'=>e=zR (.bool (aJ n))/\w=w':=by
 have m:=bL n;by_cases l:n.length=0
 .have a:Z_ (aJ n=false):=by show aJ n=false;rw[a0S l];rfl
  delta zF;go_in;go_wp2;go_ret;exact⟨dD a.o.symm,rfl⟩
 by_cases B:8<n.length
 .have a:Z_ (aJ n=false):=by show aJ n=false;unfold aJ;simp;intros;omega
  have hb:((n.length:Int)==0)=false:=a0j.2 (by omega);delta zF;go_in;go_wp2;go_ret;exact⟨dD a.o.symm,rfl⟩
 have hb:((n.length:Int)==0)=false:=a0j.2 (by omega);have hh:Z_ (hd n=(n[0].toNat:Int)):=EP n 0 (by omega);have t:(bs n)[0]'(by rw[m];omega)=n[0]:=rfl;generalize d:n[0]=c0 at t hh;cases s:lW c0.toNat
 .delta zF;go_in;go_wp2_with (go_at_call 125;refine(iT _ _).mono ?_;rintro e w' ⟨rfl,rfl⟩);go_loopg [3] n.length (λk i wr=>∃j,j+k=n.length/\i=zI j/\wr=w/\(n.take j).all bK=true);exact⟨0,by omega,rfl,rfl,by simp⟩
  .obtain⟨j,A,rfl,rfl,b⟩:=hrel;by_cases q:j<n.length
   .have g:(bs n)[j]'(by rw[m];omega)=n[j]:=rfl;generalize c:n[j]=p at g;have f:Z_ (n[j]=p):=c;cases r:Uy p.toNat
    .have a:Z_ (aJ n=false):=by
      show aJ n=false;have:n.all bK=false:=by rw[a2p];intro x;have:=a1d.1 x (n[j]'q) (a0u _);unfold bK at this;rw[f.o,r]at this;cases this
      unfold aJ;rw[this];simp
     go_wp2_with (go_at_call 110;refine(vN _ _).mono ?_;rintro e w' ⟨rfl,rfl⟩);go_ret;exact⟨dD a.o.symm,rfl⟩
    have h:Z_ ((n.take (j+1)).all bK=true):=by show(n.take (j+1)).all bK=true;rw[a0F q,a2c,b];simp[bK,r,f.o]
    go_wp2_with (go_at_call 110;refine(vN _ _).mono ?_;rintro e w' ⟨rfl,rfl⟩);go_roundg (gk-1);exact⟨j+1,by omega,by go_num,rfl,h⟩;omega
   have a:Z_ (aJ n=true):=by show aJ n=true;unfold aJ;have:n.take j=n:=a0C (by omega);rw[this]at b;rw[b,hh.o,s];simp;exact⟨by intro e;simp[e]at l,by omega⟩
   go_wp2;go_ret;exact⟨dD a.o.symm,rfl⟩
 have a:Z_ (aJ n=false):=by show aJ n=false;unfold aJ;rw[hh.o,s];simp
 delta zF;go_in;go_wp2_with (go_at_call 125;refine(iT _ _).mono ?_;rintro e _ ⟨rfl,rfl⟩);go_ret;exact⟨dD a.o.symm,rfl⟩
theorem fG {S base size}(h:w.ownsRow base e size v n xs)(f:aB S w w')(d:∀k,k∈S->k<base):w'.ownsRow base e size v n xs:=by
 refine⟨h.1,?_⟩;rcases h.2 with b|⟨g,cap,cur,rfl,hb,a,rest⟩
 .exact .inl b
 refine .inr ⟨g,cap,cur,rfl,hb,?_,rest⟩;rw[f.block g (a0c.1 a).1 (λc=>by have:=d g c;omega)];omega
def Uz {base size}(h:w.ownsRow base e size v n xs)(a:v≠zN):∃g cap,v=zS g n cap:=by
 rcases h.2 with⟨b,_⟩|⟨g,cap,cur,rfl,_⟩
 .exact absurd b a
 exact⟨g,cap,rfl⟩
def aB.Bt{g cap}(h:w.grownBy w' (Value.ownBlock (zS g n cap))):aB [g] w w' :=
 ⟨h.os,h.tape,h.output,h.size,λk a b=>h.block k a (λe=>b (by simp[Value.ownBlock]at e;simp[e]))⟩
def ak6:(Tryz.prog.info? 5).map (λi=>(i.zero,i.size,i.bytes))=some (some (.int .u8 0),1,1):=by kernel_rfl
def uY:(Tryz.prog.info? 9).map (λi=>(i.zero,i.size,i.bytes))=some (some (.string ByteArray.empty),1,16):=by kernel_rfl
def byt(l:LB):List Value:=l.map λc=>.int .u8 c.toNat
def RS(base:Nat)(w:World)(v:Value)(L:List LB):Prop :=
 ∃a cap,v=.slice a L.length cap/\L.length<=1048576/\L.length<=cap/\∀j (h:j<L.length),∃g off,a=some (zB g off)/\base<=g/\w.cell? (zB g (off+j))=some (.string (bs L[j]))
theorem RS.aC {S base L}(h:RS base w v L)(f:aB S w w')(e:∀k,k∈S->k<base):RS base w' v L:=by obtain⟨a,cap,rfl,m,l,i⟩:=h;refine⟨a,cap,rfl,m,l,λj d=>?_⟩;obtain⟨g,off,rfl,hb,b⟩:=i j d;exact⟨g,off,rfl,hb,by rw[f.cell (World.block_lt_of_cell? w _ b) (λc=>by have:=e g c;omega)];omega⟩
theorem RS.base{base L}(h:RS base w v L)(hb:base'<=base):RS base' w v L:=by obtain⟨a,cap,rfl,f,e,d⟩:=h;refine⟨a,cap,rfl,f,e,λj b=>?_⟩;obtain⟨g,off,rfl,hb,c⟩:=d j b;exact⟨g,off,rfl,by omega,c⟩
theorem RS.drewN {base L}(h:RS base w v L)(n):RS base (w.drewN n) v L:=h
def sv(L:List LB):List Value:=L.map λs=>zT s
theorem arJ(L):(sv L).length=L.length:=by simp[sv]
theorem ajf(L s):sv L++[zT s]=sv (L++[s]):=by simp[sv]
def SL(base:Nat)(w:World)(v:Value)(L:List LB):Prop:=w.ownsRow base 9 1 v L.length (sv L)
theorem SL.aC {S base L}(h:SL base w v L)(f:aB S w w')(a:∀k,k∈S->k<base):SL base w' v L:=fG h f a
theorem SL.rs {base L}(h:SL base w v L)(c:L.length<=1048576):RS base w v L:=by
 rcases h.2 with⟨rfl,f⟩|⟨g,cap,cur,rfl,hb,l,a,e,k,i⟩
 .exact⟨none,0,by rw[f],c,by omega,λj d=>by omega⟩
 refine⟨_,cap,rfl,c,a,λj d=>⟨g,0,rfl,hb,?_⟩⟩;have:=h.cells rfl j (.string (bs L[j])) (by simp[sv,d]);have b:((zA g):Addr).add j=(zB g (0+j)):=by unfold Addr.add;split<;>simp_all
 rw[b]at this;omega
theorem add0(b j):((zA b):Addr).add j=(zB b j):=by unfold Addr.add;split<;>simp_all
def rA {ops rest o a} {Q:Exit->Act->World->Prop}(w)(k:o.guard=none)(s x)
 (ho:o.op=.call { callee:=.builtin .append,args:=#[s,x],argTypes:=#[46,46] })
 (base v L n b1) (m:a.eval s=v) (A:SL base w v L) (b:a.eval x=zS b1 1 1)
 (q:zC w b1 0 (zT n)) (hlen:L.length<=1048576) (i:base<=w.heap.size)
 (h:∀g cap w',SL base w' (zS g (L.length+1) cap) (L++[n])->w.grownBy w' v.ownBlock->base<=g->wpList Tryz.prog ops Q rest (a.put o.dst (zS g (L.length+1) cap)) w') :
 wpList Tryz.prog ops Q (o::rest) a w:=by
 obtain⟨l,p,gT,z,y⟩:=info_parts uY;refine wpList_append_own w k s x 46 ho base 9 l (.string ByteArray.empty) 1 16 Tryz.underlying46 p gT z y rfl (by decide) v L.length (sv L) m A (zA b1) 1 1 [zT n] b rfl ?_ (λx b=>by simp at b;subst b;rfl) (by unfold maxLen;omega) (by omega) i ?_
 .intro j u c;have:j=0:=by
   cases j with
   | zero=>rfl
   | succ j=>simp at c
  subst this;rw[add0];simp at c;rw[<-c];omega
 intro v' w' f t r;obtain⟨g,cap,rfl⟩:=Uz f (λe=>by have:=r.1 e;omega);have d:SL base w' (zS g (L.length+1) cap) (L++[n]):=by unfold SL;rw[<-ajf];simpa using f
 exact h g cap w' d t (f.lt g rfl).1
def aB.YN{a:World} {base:Nat}(h:aB [] a w)(d:w.grownBy w' v.ownBlock)(b:∀k,v.ownBlock=some k->a.heap.size<=k):aB [] a w' :=
 h.grown d (λk c=>Or.inr (b k c))
theorem SL.base{base L}(h:SL base w v L)(hb:base'<=base):SL base' w v L:=by
 refine⟨h.1,?_⟩;rcases h.2 with a|⟨g,cap,cur,rfl,b,rest⟩
 .exact .inl a
 exact .inr ⟨g,cap,cur,rfl,by omega,rest⟩
theorem SL.nil(base w):SL base w zN []:=World.ownsRow_nil w base _ 1
def aW {base size}(h:w.ownsRow base e size v n xs):∃a cap,v=.slice a n cap:=by
 rcases h.2 with⟨e,b⟩|⟨g,cap,cur,e,_⟩
 .exact⟨none,0,by rw[e,b]⟩
 exact⟨_,_,e⟩
def SL.shape {base L}(h:SL base w v L):∃a cap,v=.slice a L.length cap:=aW h
def jJ {S base size}(h:w.ownsRow base e size v n xs)(f:aB S w w')
 (j:∀k,k∈S->k<base\/∃cur c fz,w.heap[k]?=some (.cells cur c fz)/\c≠e):w'.ownsRow base e size v n xs:=by
 refine⟨h.1,?_⟩;rcases h.2 with d|⟨g,cap,cur,rfl,hb,b,rest⟩
 .exact .inl d
 refine .inr ⟨g,cap,cur,rfl,hb,?_,rest⟩;rw[f.block g (a0c.1 b).1 (λi=>by
  rcases j g i with a|⟨m,c,fz,a,l⟩
  .omega
  rw[b]at a;simp at a;exact l a.2.1.symm)]
 omega
def Dx {base size}(h:w.ownsRow base e size v n xs)(k)(a:v.ownBlock=some k):k<w.heap.size:=(h.lt k a).2
def aA9 {b t x z}(h:w.heap[b]?=some (Obj.cells #[x,y,z] t (0,0))):zC w b 0 x/\zC w b 1 y/\zC w b 2 z/\∀o,w.frozen? (zB b o)=false:=by simp[World.cell?,World.frozen?,h]
def aBa {b t x z u}(h:w.heap[b]?=some (Obj.cells #[x,y,z,u,v] t (0,0))):zC w b 0 x/\zC w b 1 y/\zC w b 2 z/\zC w b 3 u/\zC w b 4 v/\∀o,w.frozen? (zB b o)=false:=by simp[World.cell?,World.frozen?,h]
def decLt(a b:Int)(h:a<b):decide (a<b)=true:=a0g h
def aBb(a b:Int)(h:b<=a):decide (a<b)=false:=a0f (by omega)
def decLe(a b:Int)(h:a<=b):decide (a<=b)=true:=a0g h
def aBc(a b:Int)(h:b<a):decide (a<=b)=false:=a0f (by omega)
def aBd {b t x z u q}(h:w.heap[b]?=some (Obj.cells #[x,y,z,u,v,q] t (0,0))):zC w b 0 x/\zC w b 1 y/\zC w b 2 z/\zC w b 3 u/\zC w b 4 v/\zC w b 5 q/\∀o,w.frozen? (zB b o)=false:=by simp[World.cell?,World.frozen?,h]
def zG {o}:aB [] w (w.alloc o):=(aB.refl [] _).alloc _
def zJ {S o}:aB S w (w.alloc o):=(aB.refl _ _).alloc _
def zK {S}:aB S w w:=aB.refl _ _
def oM(l:LB)(c:UInt8):Bool:=l.contains c
def vR(c l w)(r:l.length<=1048576) :
 zF 27 #[.int .u8 c.toNat,.string (bs l)] w λe w'=>e=zR (.bool (oM l c))/\w=w':=by
 have n:=bL l;delta zF;go_in;go_wp2;go_loopg [5] l.length (λk i wr=>∃j,j+k=l.length/\i=zI j/\wr=w/\(l.take j).contains c=false);exact⟨0,by omega,rfl,rfl,by simp⟩
 .obtain⟨j,s,rfl,m,b⟩:=hrel;subst m;by_cases f:j<l.length
  .have q:(bs l)[j]'(by rw[n];omega)=l[j]:=rfl;have o:=a0F f;have p:l[j]∈l:=a0u f;generalize l[j]=x at *;cases he:((x.toNat:Int)==(c.toNat:Int))
   .have g:(l.take (j+1)).contains c=false:=by
     have d:=b;rw[o];simp only[a2B,a1g,a0e,a0w]at d |-;intro h;rcases h with h|h
     .exact d h
     rw[h]at he;simp at he
    go_wp2;go_roundg (gk-1);exact⟨j+1,by omega,by go_num,rfl,g⟩;omega
   have a:oM l c=true:=by have:x=c:=a1w.1 (a2N.1 (a0W.1 he));unfold oM;rw[a2B,a1E,<-this];exact p
   go_wp2;go_ret;exact⟨dD a.symm,rfl⟩
  have a:oM l c=false:=by have:=b;rw[a0C (by omega)]at this;exact this
  go_wp2;go_ret;exact⟨dD a.symm,rfl⟩
def yE:LB:=[97,98,99,100,101,102,103,104,105,106,107,108,109,110,111,112,113,114,115,116,117,118,119,120,121,122,65,66,67,68,69,70,71,72,73,74,75,76,77,78,79,80,81,82,83,84,85,86,87,88,89,90,95]
def xu:LB:=[48,49,50,51,52,53,54,55,56,57]
def xw:LB:=[48,49,50,51,52,53,54,55,56,57,97,98,99,100,101,102]
def vO {p:UInt8->Bool}(h:(List.range 256).all (λn=>p (UInt8.ofNat n))=true)(c):p c=true:=by
 have:=a1d.1 h c.toNat (a2b.2 c.toNat_lt);rwa [UInt8.ofNat_toNat]at this
theorem agb(c):oM yE c=(Zd c.toNat||c==95):=by have:=vO (p:=λc=>oM yE c==(Zd c.toNat||c==95)) (by decide +kernel) c;simpa using this
theorem Pk(c):oM xu c=lW c.toNat:=by have:=vO (p:=λc=>oM xu c==lW c.toNat) (by decide +kernel) c;simpa using this
def arK(c):bK c=(oM yE c||oM xu c):=by
 rw[agb,Pk];unfold bK Uy;have:((c.toNat:Int)==95)=(c==95):=by
  rw[a0T,a0W,a0W];constructor
  .intro h;exact a1w.1 (by simpa using(a2N.1 h))
  intro h;subst h;rfl
 rw[this];cases Zd c.toNat<;>cases lW c.toNat<;>cases (c==95)<;>rfl
def aou(c)(h:oM yE c=true):lW c.toNat=false:=by have:=vO (p:=λc=>!(oM yE c)||!(lW c.toNat)) (by decide +kernel) c;rw[h]at this;simpa using this
theorem GJ(n):aJ n=(decide (0<n.length)&&decide (n.length<=8)&&!(lW (hd n))&&n.all bK):=by unfold aJ;cases n<;>simp
def nH(n w)(F:n.length<=140737488355328) :
 zF 13 #[zT n] w λe w'=>e=zR (.bool (aJ n))/\w=w':=by
 have B:=bL n;delta zF;go_in;go_wp2;go_loopg [3] n.length (λk i wr=>∃j,j+k=n.length/\i=zI j/\wr=w/\(n.take j).all bK=true/\(0<j->lW (hd n)=false));exact⟨0,by omega,rfl,rfl,by simp,by omega⟩
 .obtain⟨j,G,rfl,v,p,c⟩:=hrel;subst v;by_cases q:j<n.length
  .have E:(bs n)[j]'(by rw[B];omega)=n[j]:=rfl;have t:=a0F q;have C:n[j]∈n:=a0u q;have u:j=0->hd n=(n[j].toNat:Int):=by intro e;subst e;exact EP n 0 q
   generalize n[j]=x at *;have Fin:bK x=false\/(j=0/\lW x.toNat=true)->aJ n=false:=by
    intro h;rw[GJ];rcases h with h|⟨l,d⟩
    .have:n.all bK=false:=by rw[a2p];intro A;have:=a1d.1 A x C;rw[h]at this;cases this
     rw[this];simp
    rw[u l,d];simp
   go_wp2_with fail;refine(vR x yE _ (by decide)).mono ?_;rintro e w' ⟨rfl,rfl⟩;go_wp2_with fail;refine(vR x xu _ (by decide)).mono ?_;rintro e _ ⟨rfl,rfl⟩;have b:=arK x;have r:=Pk x;cases d:oM yE x
   .cases g:oM xu x
    .have a:aJ n=false:=Fin (Or.inl (by rw[b,d,g];rfl));go_wp2;go_ret;exact⟨dD a.symm,rfl⟩
    by_cases f:j=0
    .have a:aJ n=false:=Fin (Or.inr ⟨f,by rw[<-r];exact g⟩);subst f;go_wp2;go_ret;exact⟨dD a.symm,rfl⟩
    have y:((j:Int)==0)=false:=a0j.2 (by omega);have o:(n.take (j+1)).all bK=true:=by rw[t,a2c,p];simp[b,d,g]
    go_wp2;go_roundg (gk-1);exact⟨j+1,by omega,by go_num,rfl,o,λ_=>c (by omega)⟩;omega
   have o:(n.take (j+1)).all bK=true:=by rw[t,a2c,p];simp[b,d]
   have s:lW (hd n)=false:=by
    by_cases f:j=0
    .rw[u f];exact aou x d
    exact c (by omega)
   cases g:oM xu x;all_goals
    go_wp2;go_roundg (gk-1);exact⟨j+1,by omega,by go_num,rfl,o,λ_=>s⟩;omega
  have m:=p;rw[a0C (by omega)]at m;by_cases l:0<n.length
  .have a:aJ n=decide ((n.length:Int)<=8):=by
    have:decide (n.length<=8)=decide ((n.length:Int)<=8):=by rw[a0T,a1E,a1E];omega
    rw[GJ,m,c (by omega),this,a0g l];generalize decide ((n.length:Int)<=8)=z;cases z<;>rfl
   clear m;go_wp2;go_ret;exact⟨dD (by rw[a]),rfl⟩
  have a:aJ n=false:=by rw[GJ];simp[l]
  clear m;go_wp2;go_ret;exact⟨dD a.symm,rfl⟩
inductive NF where
 | zero:NF
 | one:NF
 | set:Nat->NF
 | pair:NF->NF->NF
 | sum:List NF->NF
 | star:NF->NF
mutual
def NF.size:NF->Nat
 | .zero=>1
 | .one=>1
 | .set _=>1
 | .pair a b=>a.size+b.size+1
 | .sum l=>bP l+1
 | .star a=>a.size+1
def bP:List NF->Nat
 | []=>0
 | x::r=>x.size+bP r
end
theorem NF.size_pos(x:NF):0<x.size:=by cases x<;>simp[NF.size]
def dx:∀{l x},x∈l->x.size<=bP l
 | y::r,x,h=>by
   simp only[bP];rcases a0l.1 h with e|e
   .subst e;omega
   have:=dx e;omega
def NF.ind {P:NF->Prop}(h:∀x,(∀y:NF,y.size<x.size->P y)->P x)(x):P x:=by
 have:∀n (x:NF),x.size<=n->P x:=by
  intro n;induction n with
  | zero=>intro x b;have:=x.size_pos;omega
  | succ n a=>intro x b;exact h x (λy c=>a y (by omega))
 exact this _ x (a0b _)
mutual
def dK:NF->Bool
 | .zero=>false
 | .one=>true
 | .set _=>false
 | .pair a b=>dK a&&dK b
 | .sum l=>agc l
 | .star _=>true
def agc:List NF->Bool
 | []=>false
 | x::r=>dK x||agc r
end
def sI(n:Nat):UInt8:=if n<10 then UInt8.ofNat (48+n) else UInt8.ofNat (87+n)
def setName(s:Nat):Nat->LB
 | 0=>[]
 | k+1=>setName s k++(if s.testBit k then [sI (k / 16),sI (k % 16)] else [])
mutual
def name:NF->LB
 | .zero=>[48]
 | .one=>[49]
 | .set s=>115::setName s 256
 | .pair a b=>40::(name a++32::(name b++[41]))
 | .sum l=>91::(ed l++[93])
 | .star a=>name a++[42]
def ed:List NF->LB
 | []=>[]
 | x::r=>name x++124::ed r
end
def aG:NF->NF->NF
 | .zero,_=>.zero
 | .one,b=>b
 | .pair c d,b=>match b with
   | .zero=>.zero
   | .one=>.pair c d
   | b=>aG c (aG d b)
 | a,b=>match b with
   | .zero=>.zero
   | .one=>a
   | b=>.pair a b
def iH:NF->NF
 | .zero=>.one
 | .one=>.one
 | .star a=>.star a
 | a=>.star a
def dF:NF->Bool | .set _=>true|_=>false
def bits:NF->Nat | .set s=>s|_=>0
def parts:NF->List NF | .zero=>[] | .sum l=>l|x=>[x]
def bf(l:List NF):Nat:=l.foldl (λn x=>n ||| bits x) 0
def blt:LB->LB->Bool
 | [],[]=>false
 | [],_::_=>true
 | _::_,[]=>false
 | a::r,b::q=>if a<b then true else if a==b then blt r q else false
def put:List NF->NF->List NF
 | [],x=>[x]
 | y::r,x=>if blt (name y) (name x) then y::put r x else if name y==name x then y::r else x::y::r
def gU(l:List NF):List NF:=l.foldl put []
def mkS:List NF->NF
 | []=>.zero
 | [x]=>x
 | l=>.sum l
def bN(l:List NF):List NF:=l.filter (λx=>!dF x)++(if bf l=0 then [] else [.set (bf l)])
def bQ(ls:List NF):NF:=mkS (gU (bN (ls.flatMap parts)))
def kY(a b:NF):NF:=bQ [a,b]
mutual
def left(c:Nat):NF->NF
 | .zero=>.zero
 | .one=>.zero
 | .set s=>if s.testBit c then .one else .zero
 | .pair a b=>if dK a then kY (aG (left c a) b) (left c b) else aG (left c a) b
 | .sum l=>bQ (xy c l)
 | .star a=>aG (left c a) (.star a)
def xy(c:Nat):List NF->List NF
 | []=>[]
 | x::r=>left c x::xy c r
end
theorem fP(c):∀l,xy c l=l.map (left c)
 | []=>rfl
 | x::r=>by simp only[xy,a0E,fP c r]
def iU:NF->Bool | .zero=>false | .sum _=>false|_=>true
def dP:NF->Bool | .set _=>true | .sum _=>true | .star _=>true|_=>false
def aP:NF->Bool | .zero=>false | .one=>false|_=>true
mutual
def wf:NF->Prop
 | .zero=>True
 | .one=>True
 | .set s=>0<s/\s<2 ^ 256
 | .pair a b=>wf a/\wf b/\dP a=true/\aP b=true
 | .sum l=>wfL l/\∀p∈l,iU p=true
 | .star a=>wf a/\aP a=true
def wfL:List NF->Prop
 | []=>True
 | x::r=>wf x/\wfL r
end
theorem kJ:∀{l},wfL l↔∀x∈l,wf x
 | []=>by simp[wfL]
 | x::r=>by simp[wfL,kJ (l:=r)]
theorem fJ(a):aG a .zero=.zero:=by cases a<;>rfl
theorem bF(a):aG a .one=a:=by cases a<;>rfl
theorem aX {a b}(c:dP a=true)(hb:aP b=true):aG a b=.pair a b:=by cases a<;>simp[dP]at c<;>cases b<;>simp[aP]at hb<;>rfl
theorem dA {c d b}(hb:aP b=true):aG (.pair c d) b=aG c (aG d b):=by cases b<;>simp[aP]at hb<;>rfl
theorem eP:∀{a b},wf a->aP a=true->aP b=true->aP (aG a b)=true
 | .pair c d,b,e,_,hb=>by obtain⟨wc,wd,f,hd⟩:=e;rw[dA hb,aX f (eP wd hd hb)];rfl
 | .set _,b,_,_,hb=>by rw[aX rfl hb];rfl
 | .sum _,b,_,_,hb=>by rw[aX rfl hb];rfl
 | .star _,b,_,_,hb=>by rw[aX rfl hb];rfl
theorem lY:∀{a b},wf a->wf b->wf (aG a b)
 | .zero,b,_,_=>trivial
 | .one,b,_,wb=>wb
 | .pair c d,b,e,wb=>by
   have f:=e;obtain⟨wc,wd,g,hd⟩:=e;by_cases hb:aP b=true
   .have ht:=eP wd hd hb;rw[dA hb,aX g ht];exact⟨wc,lY wd wb,g,ht⟩
   cases b<;>simp[aP]at hb
   .rw[fJ];trivial
   rw[bF];omega
 | .set s,b,e,wb=>by
   by_cases hb:aP b=true
   .rw[aX rfl hb];exact⟨e,wb,rfl,hb⟩
   cases b<;>simp[aP]at hb
   .rw[fJ];trivial
   rw[bF];omega
 | .sum l,b,e,wb=>by
   by_cases hb:aP b=true
   .rw[aX rfl hb];exact⟨e,wb,rfl,hb⟩
   cases b<;>simp[aP]at hb
   .rw[fJ];trivial
   rw[bF];omega
 | .star a,b,e,wb=>by
   by_cases hb:aP b=true
   .rw[aX rfl hb];exact⟨e,wb,rfl,hb⟩
   cases b<;>simp[aP]at hb
   .rw[fJ];trivial
   rw[bF];omega
theorem fQ {b}(h:¬ aP b=true):b=.zero\/b=.one:=by grind [aP]
theorem GK(a b c):wf a->wf b->aG (aG a b) c=aG a (aG b c):=by
 revert b c
 refine NF.ind (P:=λa=>∀b c:NF,wf a->wf b->aG (aG a b) c=aG a (aG b c)) ?_ a;intro a g b c i wb;by_cases hb:aP b=true
 case neg =>
  rcases fQ hb with rfl|rfl
  .simp[fJ,aG]
  rw[bF];rfl
 by_cases d:aP c=true
 case neg =>
  rcases fQ d with rfl|rfl
  .simp[fJ]
  simp[bF]
 have e:=eP wb hb d;cases a with
 | zero=>rfl
 | one=>rfl
 | pair x y=>obtain⟨h,f,k,j⟩:=i;rw[dA hb,dA e,g x (by simp[NF.size];omega) _ _ h (lY f wb),g y (by simp[NF.size];omega) _ _ f wb]
 | set s=>rw[aX rfl hb,dA d,aX rfl e]
 | sum s=>rw[aX rfl hb,dA d,aX rfl e]
 | star s=>rw[aX rfl hb,dA d,aX rfl e]
theorem put_mem:∀{l x p},p∈put l x->p∈l\/p=x
 | [],x,p,h=>by simp[put]at h;exact .inr h
 | y::r,x,p,h=>by
   unfold put at h;split at h
   .rcases a0l.1 h with e|e
    .exact .inl (by simp[e])
    rcases put_mem e with e|e
    .exact .inl (by simp[e])
    exact .inr e
   grind
theorem JS:∀{l acc:List NF} {p},p∈l.foldl put acc->p∈acc\/p∈l
 | [],acc,p,h=>.inl h
 | x::r,acc,p,h=>by
   rcases JS (l:=r) h with e|e
   .grind [put_mem]
   exact .inr (by simp[e])
theorem kK {l p}(h:p∈gU l):p∈l:=by
 rcases JS h with e|e
 .simp at e
 omega
theorem GN:∀l n,l.foldl (λn x=>n ||| bits x) n=n ||| bf l
 | [],n=>by simp[bf]
 | x::r,n=>by have b:=GN r (n ||| bits x);unfold bf;simp only[a1R];rw[b,GN r (0 ||| bits x)];simp[Nat.or_assoc]
theorem tH(x r):bf (x::r)=bits x ||| bf r:=by grind [GN,bits,bf]
def UB:∀{l},(∀x∈l,wf x)->bf l<2 ^ 256
 | [],_=>by simp[bf]
 | x::r,h=>by rw[tH];refine Nat.or_lt_two_pow ?_ (UB (λy a=>h y (by simp[a])));have b:=h x (by simp);cases x<;>first | exact b.2|(simp[bits])
theorem wI {l p}(h:p∈bN l):dF p=true\/p∈l:=by
 unfold bN at h;rcases a0e.1 h with h|h
 .grind
 split at h
 .simp at h
 simp at h;subst h;exact .inl rfl
theorem Zf {l p}(h:p∈bN l):(bf l≠0/\p=.set (bf l))\/p∈l:=by grind [bN]
def ET {p}(h:dF p=true):iU p=true:=by cases p<;>simp[dF]at h<;>rfl
theorem wJ {p}(h:iU p=true):parts p=[p]:=by cases p<;>simp[iU]at h<;>rfl
theorem mY {x p}(c:wf x)(h:p∈parts x):iU p=true:=by
 cases x with
 | zero=>simp[parts]at h
 | sum l=>exact c.2 p h
 | one=>simp[parts]at h;subst h;rfl
 | set s=>simp[parts]at h;subst h;rfl
 | pair a b=>simp[parts]at h;subst h;rfl
 | star a=>simp[parts]at h;subst h;rfl
theorem wK {x p}(c:wf x)(h:p∈parts x):wf p:=by
 cases x with
 | zero=>simp[parts]at h
 | sum l=>exact kJ.1 c.1 p h
 | one=>simp[parts]at h;subst h;omega
 | set s=>simp[parts]at h;subst h;omega
 | pair a b=>simp[parts]at h;subst h;omega
 | star a=>simp[parts]at h;subst h;omega
theorem Pm {l}(h:∀p∈l,iU p=true) {p}:p∈parts (mkS l)↔p∈l:=by
 match l,h with
 | [],_=>simp[mkS,parts]
 | [x],h=>rw[mkS,wJ (h x (by simp))]
 | x::y::r,h=>simp[mkS,parts]
theorem Pn {ls}(b:∀x∈ls,wf x) {p}(h:p∈parts (bQ ls)):dF p=true\/∃x∈ls,p∈parts x:=by
 have a:∀q∈gU (bN (ls.flatMap parts)),iU q=true:=by
  intro q hq;rcases wI (kK hq) with e|e
  .exact ET e
  grind [mY]
 rcases wI (kK ((Pm a).1 h)) with e|e
 .exact .inl e
 grind
def arL {l}(h:∀p∈l,iU p=true)(a:∀p∈l,wf p):wf (mkS l):=by
 match l,h,a with
 | [],_,_=>trivial
 | [x],_,a=>exact a x (by simp)
 | x::y::r,h,a=>exact⟨kJ.2 a,h⟩
theorem Ms {ls}(c:∀x∈ls,wf x):wf (bQ ls):=by
 refine arL ?_ ?_
 .intro q hq;rcases wI (kK hq) with e|e
  .exact ET e
  grind [mY]
 intro q hq;rcases Zf (kK hq) with⟨f,d⟩|e
 .subst d;refine⟨a2P f,UB ?_⟩;intro y a;obtain⟨x,b,a⟩:=a1l.1 a;exact wK (c x b) a
 grind [wK]
theorem arM {a b}(ha:wf a)(hb:wf b):wf (kY a b):=Ms (by simp;exact⟨ha,hb⟩)
theorem gI(c x):wf x->wf (left c x):=by
 refine NF.ind (P:=λx=>wf x->wf (left c x)) ?_ x;intro x e d;cases x with
 | zero=>trivial
 | one=>trivial
 | set s=>simp only[left];split<;>trivial
 | pair a b =>
   obtain⟨f,wb,_,_⟩:=d;have h:=lY (e a (by simp[NF.size];omega) f) wb;simp only[left];split
   .grind [arM,NF.size]
   omega
 | sum l=>simp only[left,fP];refine Ms ?_;intro y g;obtain⟨z,hz,rfl⟩:=a0q.1 g;have:=dx hz;exact e z (by simp[NF.size];omega) (kJ.1 d.1 z hz)
 | star a=>exact lY (e a (by simp[NF.size]) d.1) d
def Wh {c q p}(hq:wf q)(h:p∈parts (left c q)):dF p=true\/∃f∈parts q,p∈parts (left c f):=by
 cases q with
 | zero=>simp[left,parts]at h
 | sum l =>
   simp only[left,fP]at h;rcases Pn (by intro y d;obtain⟨z,hz,rfl⟩:=a0q.1 d;exact gI c z (kJ.1 hq.1 z hz)) h with e|⟨y,d,e⟩
   .exact .inl e
   obtain⟨z,hz,rfl⟩:=a0q.1 d;exact .inr ⟨z,hz,e⟩
 | one=>exact .inr ⟨_,by simp[parts],h⟩
 | set s=>exact .inr ⟨_,by simp[parts],h⟩
 | pair a b=>exact .inr ⟨_,by simp[parts],h⟩
 | star a=>exact .inr ⟨_,by simp[parts],h⟩
def elems:NF->List NF
 | .pair a b=>a::elems b
 | x=>[x]
def chain:List NF->NF
 | []=>.one
 | [x]=>x
 | x::r=>.pair x (chain r)
def mk(h:NF):List NF->NF
 | []=>h
 | x::r=>.pair h (chain (x::r))
theorem xz:∀{b},wf b->chain (elems b)=b
 | .pair a b,h=>by
   have c:=xz h.2.1;have:∃y r,elems b=y::r:=by cases b<;>simp[elems]
   obtain⟨y,r,e⟩:=this;simp only[elems,e,chain]at c |-;rw[c]
 | .zero,_=>rfl
 | .one,_=>rfl
 | .set _,_=>rfl
 | .sum _,_=>rfl
 | .star _,_=>rfl
theorem EU(b):elems b≠[]:=by cases b<;>simp[elems]
theorem Wi {x r}(h:r≠[]):chain (x::r)=.pair x (chain r):=by
 cases r with
 | nil=>contradiction
 | cons=>rfl
theorem lH {h t}(ht:t≠[]):mk h t=.pair h (chain t):=by
 cases t with
 | nil=>contradiction
 | cons=>rfl
def EV(l:List NF):Prop:=∀x∈l,wf x/\dP x=true
def head_tail {x}(h:dP x=true):aP x=true:=by cases x<;>simp[dP]at h<;>rfl
def EW:∀{l},EV l->wf (chain l)
 | [],_=>trivial
 | [x],h=>(h x (by simp)).1
 | x::y::r,h=>by
   have b:=EW (l:=y::r) (λz hz=>h z (by simp at hz |-;exact .inr hz));have a:=h x (by simp);refine⟨a.1,b,a.2,?_⟩;cases r with
   | nil=>exact head_tail (h y (by simp)).2
   | cons=>rfl
theorem fK:∀{l},EV l->l≠[]->aP (chain l)=true
 | [x],h,_=>head_tail (h x (by simp)).2
 | x::y::r,h,_=>rfl
def Zg:∀{b},wf b->aP b=true->EV (elems b)
 | .pair a b,h,_=>by
   intro x c;simp only[elems,a0l]at c;rcases c with rfl|c
   .exact⟨h.1,h.2.2.1⟩
   exact Zg h.2.1 h.2.2.2 x c
 | .set _,h,_=>by intro x c;simp[elems]at c;subst c;exact⟨h,rfl⟩
 | .sum _,h,_=>by intro x c;simp[elems]at c;subst c;exact⟨h,rfl⟩
 | .star _,h,_=>by intro x c;simp[elems]at c;subst c;exact⟨h,rfl⟩
theorem uw:∀{s t:List NF},EV s->EV t->aG (chain s) (chain t)=chain (s++t)
 | [],t,_,_=>rfl
 | x::s,[],b,ht=>by rw[a0R];exact bF _
 | [x],y::t,b,ht=>by exact aX (b x (by simp)).2 (fK ht (by simp))
 | x::z::s,y::t,b,ht=>by
   have c:EV (z::s):=λw a=>b w (by simp at a |-;exact .inr a);have d:=uw c ht;show aG (.pair x (chain (z::s))) (chain (y::t))=.pair x (chain (z::s++y::t));rw[dA (fK ht (by simp)),d];refine aX (b x (by simp)).2 (fK ?_ (by simp));intro w a;rcases a0e.1 a with a|a
   .exact c w a
   exact ht w a
theorem UC {h:NF} {s t:List NF}(hh:dP h=true)(b:EV s)(ht:EV t):aG (mk h s) (chain t)=mk h (s++t):=by
 cases s with
 | nil =>
   cases t with
   | nil=>exact bF _
   | cons y t=>exact aX hh (fK ht (by simp))
 | cons x s =>
   cases t with
   | nil=>rw[a0R];exact bF _
   | cons y t =>
     have c:EV (x::s++y::t):=by
      intro w a;rcases a0e.1 a with a|a
      .exact b w a
      exact ht w a
     show aG (.pair h (chain (x::s))) (chain (y::t))=.pair h (chain (x::s++y::t));rw[dA (fK ht (by simp)),uw b ht];exact aX hh (fK c (by simp))
mutual
def bG:NF->List (NF × List NF)
 | .zero=>[(.zero,[])]
 | .one=>[(.one,[])]
 | .set s=>[(.set s,[])]
 | .pair a b=>(.pair a b,[])::((bG a).map (λo=>(o.1,o.2++elems b))++bG b)
 | .sum l=>(.sum l,[])::Dz l
 | .star a=>(.star a,[])::(bG a).map (λo=>(o.1,o.2++[.star a]))
def Dz:List NF->List (NF × List NF)
 | []=>[]
 | x::r=>bG x++Dz r
end
theorem fT(X):(X,[])∈bG X:=by cases X<;>simp[bG]
theorem EZ:∀{l o},o∈Dz l↔∃x∈l,o∈bG x
 | [],o=>by simp[Dz]
 | x::r,o=>by simp[Dz,EZ (l:=r)]
def Po:∀{b u r c},elems b=u++c::r->(c,r)∈bG b
 | .pair a b,u,r,c,h=>by
   simp only[elems]at h;cases u with
   | nil=>simp at h;obtain⟨rfl,rfl⟩:=h;simp only[bG,a0l,a0e,a0q];exact .inr (.inl ⟨(a,[]),fT a,by simp⟩)
   | cons y u=>simp at h;have:=Po h.2;simp[bG,a0l,a0e,a0q];exact .inr (.inr this)
 | .zero,u,r,c,h=>by cases u<;>simp[elems]at h;obtain⟨rfl,rfl⟩:=h;exact fT _
 | .one,u,r,c,h=>by cases u<;>simp[elems]at h;obtain⟨rfl,rfl⟩:=h;exact fT _
 | .set _,u,r,c,h=>by cases u<;>simp[elems]at h;obtain⟨rfl,rfl⟩:=h;exact fT _
 | .sum _,u,r,c,h=>by cases u<;>simp[elems]at h;obtain⟨rfl,rfl⟩:=h;exact fT _
 | .star _,u,r,c,h=>by cases u<;>simp[elems]at h;obtain⟨rfl,rfl⟩:=h;exact fT _
def Wj:∀{b x},x∈elems b->x.size<=b.size
 | .pair a b,x,h=>by
   simp only[elems,a0l]at h;rcases h with rfl|h
   .simp[NF.size];omega
   have:=Wj h;simp[NF.size];omega
 | .zero,x,h=>by simp[elems]at h;subst h;omega
 | .one,x,h=>by simp[elems]at h;subst h;omega
 | .set _,x,h=>by simp[elems]at h;subst h;omega
 | .sum _,x,h=>by simp[elems]at h;subst h;omega
 | .star _,x,h=>by simp[elems]at h;subst h;omega
theorem tJ {X Y t}(h:(Y,t)∈bG X):(Y=X/\t=[]) \/
 (∃a b s,X=.pair a b/\(Y,s)∈bG a/\t=s++elems b)\/(∃a b,X=.pair a b/\(Y,t)∈bG b) \/
 (∃l x,X=.sum l/\x∈l/\(Y,t)∈bG x)\/(∃a s,X=.star a/\(Y,s)∈bG a/\t=s++[.star a]):=by
 cases X with
 | zero=>simp[bG]at h;exact .inl h
 | one=>simp[bG]at h;exact .inl h
 | set s=>simp[bG]at h;exact .inl h
 | pair a b =>
   simp only[bG,a0l,a0e,a0q,Prod.mk.injEq]at h;rcases h with h|⟨⟨c,s⟩,h,rfl,rfl⟩|h
   .exact .inl h
   .grind
   grind
 | sum l =>
   simp[bG,a0l,Prod.mk.injEq]at h;rcases h with h|h
   .exact .inl h
   grind [EZ]
 | star a =>
   simp only[bG,a0l,a0q,Prod.mk.injEq]at h;rcases h with h|⟨⟨c,s⟩,h,rfl,rfl⟩
   .exact .inl h
   grind
theorem BM {a b Y s}(h:(Y,s)∈bG a):(Y,s++elems b)∈bG (.pair a b):=by grind [bG]
theorem BN {a b Y s}(h:(Y,s)∈bG b):(Y,s)∈bG (.pair a b):=by grind [bG]
theorem JV {l x Y s}(a:x∈l)(h:(Y,s)∈bG x):(Y,s)∈bG (.sum l):=by grind [bG,EZ]
theorem wL {a Y s}(h:(Y,s)∈bG a):(Y,s++[.star a])∈bG (.star a):=by grind [bG]
theorem pZ {X Y t}(h:(Y,t)∈bG X):Y.size<=X.size/\(t≠[]->Y.size<X.size):=by
 revert Y t
 refine NF.ind (P:=λX=>∀{Y:NF} {t:List NF},(Y,t)∈bG X->Y.size<=X.size/\(t≠[]->Y.size<X.size)) ?_ X;intro X c Y t h;rcases tJ h with⟨rfl,rfl⟩|⟨a,b,s,rfl,g,rfl⟩|⟨a,b,rfl,g⟩|⟨l,x,rfl,d,g⟩|⟨a,s,rfl,g,rfl⟩
 .grind
 .grind [NF.size]
 .grind [NF.size]
 .have e:=dx d;have:=(c x (by simp[NF.size];omega) g).1;simp[NF.size];omega
 grind [NF.size]
theorem Ol {X Y t}(h:(Y,t)∈bG X):∀x∈t,x.size<X.size\/∃a,x=.star a/\x.size<=X.size:=by
 revert Y t
 refine NF.ind (P:=λX=>∀{Y:NF} {t:List NF},(Y,t)∈bG X->∀x∈t,x.size<X.size\/∃a,x=.star a/\x.size<=X.size) ?_ X;intro X d Y t h x c;rcases tJ h with⟨rfl,rfl⟩|⟨a,b,s,rfl,g,rfl⟩|⟨a,b,rfl,g⟩|⟨l,z,rfl,hz,g⟩|⟨a,s,rfl,g,rfl⟩
 .simp at c
 .rcases a0e.1 c with c|c
  .rcases d a (by simp[NF.size];omega) g x c with h|⟨_,_,h⟩<;>(left;simp[NF.size];omega)
  have:=Wj c;left;simp[NF.size];omega
 .rcases d b (by simp[NF.size];omega) g x c with h|⟨_,_,h⟩<;>(left;simp[NF.size];omega)
 .have e:=dx hz;rcases d z (by simp[NF.size];omega) g x c with h|⟨_,_,h⟩<;>(left;simp[NF.size];omega)
 rcases a0e.1 c with c|c
 .rcases d a (by simp[NF.size]) g x c with h|⟨_,_,h⟩<;>(left;simp[NF.size];omega)
 grind
def bU {X Y t}(d:wf X)(h:(Y,t)∈bG X):wf Y/\EV t:=by
 revert Y t d
 refine NF.ind (P:=λX=>∀{Y:NF} {t:List NF},wf X->(Y,t)∈bG X->wf Y/\EV t) ?_ X;intro X f Y t d h;rcases tJ h with⟨rfl,rfl⟩|⟨a,b,s,rfl,g,rfl⟩|⟨a,b,rfl,g⟩|⟨l,z,rfl,hz,g⟩|⟨a,s,rfl,g,rfl⟩
 .exact⟨d,by intro x c;simp at c⟩
 .have e:=f a (by simp[NF.size];omega) d.1 g;refine⟨e.1,?_⟩;intro x c;rcases a0e.1 c with c|c
  .exact e.2 x c
  exact Zg d.2.1 d.2.2.2 x c
 .exact f b (by simp[NF.size];omega) d.2.1 g
 .have e:=dx hz;exact f z (by simp[NF.size];omega) (kJ.1 d.1 z hz) g
 have e:=f a (by simp[NF.size]) d.1 g;refine⟨e.1,?_⟩;intro x c;rcases a0e.1 c with c|c
 .exact e.2 x c
 simp at c;subst c;exact⟨d,rfl⟩
theorem uy {X Y t u r c}(h:(Y,t)∈bG X)(ht:t=u++c::r):(c,r)∈bG X:=by
 revert Y t u r c
 refine NF.ind (P:=λX=>∀{Y:NF} {t u r:List NF} {c:NF},(Y,t)∈bG X->t=u++c::r->(c,r)∈bG X) ?_ X;intro X f Y t u r c h ht;rcases tJ h with⟨rfl,rfl⟩|⟨a,b,s,rfl,g,rfl⟩|⟨a,b,rfl,g⟩|⟨l,z,rfl,hz,g⟩|⟨a,s,rfl,g,rfl⟩
 .simp at ht
 .rcases List.append_eq_append_iff.1 ht with⟨us,e,d⟩|⟨cs,e,d⟩
  .exact BN (Po d)
  cases cs with
  | nil=>simp at e d;exact BN (Po (u:=[]) (by simpa using d.symm))
  | cons y cs=>simp at d;obtain⟨rfl,rfl⟩:=d;exact BM (f a (by simp[NF.size];omega) g e)
 .grind [BN,NF.size]
 .have:=dx hz;exact JV hz (f z (by simp[NF.size];omega) g ht)
 rcases List.append_eq_append_iff.1 ht with⟨us,e,d⟩|⟨cs,e,d⟩
 .cases us with
  | nil=>simp at d;obtain⟨rfl,rfl⟩:=d;exact fT _
  | cons y us=>simp at d
 cases cs with
 | nil=>simp at d;obtain⟨rfl,rfl⟩:=d;exact fT _
 | cons y cs=>simp at d;obtain⟨rfl,rfl⟩:=d;exact wL (f a (by simp[NF.size]) g e)
theorem ko {X Y Z t s}(h:(Y,t)∈bG X)(k:(Z,s)∈bG Y):(Z,s++t)∈bG X:=by
 revert Y t
 refine NF.ind (P:=λX=>∀{Y:NF} {t:List NF},(Y,t)∈bG X->(Z,s)∈bG Y->(Z,s++t)∈bG X) ?_ X;intro X c Y t h k;rcases tJ h with⟨rfl,rfl⟩|⟨a,b,s',rfl,g,rfl⟩|⟨a,b,rfl,g⟩|⟨l,z,rfl,hz,g⟩|⟨a,s',rfl,g,rfl⟩
 .simpa using k
 .grind [BM,NF.size]
 .grind [BN,NF.size]
 .have d:=dx hz;exact JV hz (c z (by simp[NF.size];omega) g k)
 grind [wL,NF.size]
theorem Wk {c:Nat} {p:NF}:∀{t:List NF},EV t->t≠[]->p∈parts (left c (chain t))->dF p=true\/∃u c1 r,t=u++c1::r/\p∈parts (aG (left c c1) (chain r))
 | [x],ht,_,h=>.inr ⟨[],x,[],rfl,by rw[show chain []=.one from rfl,bF];exact h⟩
 | x::y::r,ht,_,h=>by
   have b:EV (y::r):=λz hz=>ht z (by simp at hz |-;exact .inr hz);have d:=ht x (by simp);have f:=gI c x d.1;have a:=EW b;have key:p∈parts (aG (left c x) (chain (y::r)))->dF p=true\/∃u c1 r',x::y::r=u++c1::r'/\p∈parts (aG (left c c1) (chain r')) :=
    λh=>.inr ⟨[],x,y::r,rfl,h⟩
   rw[show chain (x::y::r)=.pair x (chain (y::r)) from rfl]at h;simp only[left]at h;split at h
   .rcases Pn (by simp;exact⟨lY f a,gI c _ a⟩) h with e|⟨z,hz,e⟩
    .exact .inl e
    simp at hz;rcases hz with rfl|rfl
    .exact key e
    rcases Wk b (by simp) e with e|⟨u,c1,r',i,g⟩
    .exact .inl e
    grind
   exact key h
theorem Q9 {c:Nat} {p h:NF} {t:List NF}(hh:wf h)(ht:EV t)(a:p∈parts (left c (mk h t))) :
 dF p=true\/p∈parts (aG (left c h) (chain t))\/∃u c1 r,t=u++c1::r/\p∈parts (aG (left c c1) (chain r)):=by
 cases t with
 | nil=>exact .inr (.inl (by rw[show chain []=.one from rfl,bF];exact a))
 | cons x t =>
   have b:=EW ht;rw[show mk h (x::t)=.pair h (chain (x::t)) from rfl]at a;simp only[left]at a;split at a
   .rcases Pn (by simp;exact⟨lY (gI c h hh) b,gI c _ b⟩) a with e|⟨z,hz,e⟩
    .exact .inl e
    simp at hz;rcases hz with rfl|rfl
    .exact .inr (.inl e)
    grind [Wk]
   exact .inr (.inl a)
def dW(X:NF)(w:LN):NF:=w.foldl (λx c=>left c x) X
theorem tK(X w c):dW X (w++[c])=left c (dW X w):=by simp[dW]
theorem BR {X}(a:wf X)(w):wf (dW X w):=by
 unfold dW;induction w generalizing X with
 | nil=>exact a
 | cons c w b=>exact b (gI c X a)
def ym:NF->Bool | .sum _=>true | .set _=>true|_=>false
def XM(X:NF)(w:LN)(p:NF):Prop :=
 dF p=true\/p=.one\/∃Y t v,(Y,t)∈bG X/\v <:+ w/\dP (dW Y v)=true/\p=mk (dW Y v) t/\(v=[]\/(t≠[]/\∀u,u <+: v->u≠[]->ym (dW Y u)=true))
theorem amo {X Y w v p}(ho:(Y,[])∈bG X)(a:v <:+ w)(h:XM Y v p):XM X w p:=by
 rcases h with h|h|⟨Z,t,u,f,e,d,c,b⟩
 .exact .inl h
 .exact .inr (.inl h)
 have:=ko ho f;rw[a0R]at this;exact .inr (.inr ⟨Z,t,u,this,e.trans a,d,c,b⟩)
def Zh {X x}(e:wf x)(ho:(x,[])∈bG X)(w) {p}(c:p∈parts x):XM X w p:=by
 have d:(p,[])∈bG X:=by
  cases x with
  | zero=>simp[parts]at c
  | sum l=>have:=ko ho (JV c (fT _));simpa using this
  | one=>simp[parts]at c;subst c;omega
  | set s=>simp[parts]at c;subst c;omega
  | pair a b=>simp[parts]at c;subst c;omega
  | star a=>simp[parts]at c;subst c;omega
 have f:=wK e c;have g:=mY e c;cases p with
 | zero=>simp[iU]at g
 | sum l=>simp[iU]at g
 | one=>exact .inr (.inl rfl)
 | set s=>exact .inl rfl
 | pair a b=>have h:=ko d (BM (fT _));simp only[a0V,a0R]at h;refine .inr (.inr ⟨a,elems b,[],h,a2k,f.2.2.1,?_,.inl rfl⟩);rw[lH (EU _),xz f.2.1];rfl
 | star a=>exact .inr (.inr ⟨.star a,[],[],d,a2k,rfl,rfl,.inl rfl⟩)
theorem Pp {X Y t}(c:wf X)(ho:(Y,t)∈bG X)(w) {p}(a:p∈parts (chain t)):XM X w p:=by
 match t,ho,a with
 | [],_,a=>simp[chain,parts]at a;exact .inr (.inl a)
 | [x],ho,a=>have b:=uy (u:=[]) ho rfl;exact Zh (bU c b).1 b w a
 | x::y::r,ho,a=>have b:=uy (u:=[]) ho rfl;have d:=(bU c ho).2 x (by simp);simp[chain,parts]at a;exact .inr (.inr ⟨x,y::r,[],b,a2k,d.2,a,.inl rfl⟩)
theorem UD {X Y:NF} {t:List NF} {w u:LN}(k:wf X)(ho:(Y,t)∈bG X)(ht:t≠[])(i:u <:+ w)
 (y:∀e,e <+: u->e≠[]->e≠u->ym (dW Y e)=true) (n:∀p∈parts (dW Y u),XM Y u p)  {p:NF} (c:p∈parts (aG (dW Y u) (chain t))):XM X w p:=by
 have f:=bU k ho;have d:ym (dW Y u)=true->∀e,e <+: u->e≠[]->ym (dW Y e)=true:=by grind
 have m:∀F:NF,dW Y u=F->iU F=true->dF F=false->F≠.one->XM X w p:=by
  intro F hF q o x;have j:F∈parts F:=by rw[wJ q];simp
  rcases n F (by rw[hF];omega) with h|h|⟨Z,s,v,h1,h2,h3,h4,g⟩
  .rw[o]at h;contradiction
  .contradiction
  have r:=(bU f.1 h1).2;rw[hF,h4,UC h3 r f.2,lH (by simp[ht])]at c;simp[parts,a0w]at c;refine .inr (.inr ⟨Z,s++t,v,ko ho h1,h2.trans i,h3,?_,?_⟩)
  .rw[c,lH (by simp[ht])]
  rcases g with g|g
  .exact .inl g
  simp_all
 cases hF:dW Y u with
 | zero=>rw[hF]at c;simp[aG,parts]at c
 | one=>rw[hF]at c;exact Pp k ho _ c
 | set s =>
   have hh:dP (dW Y u)=true:=by rw[hF];rfl
   rw[aX hh (fK f.2 ht)]at c;simp[parts,a0w]at c;exact .inr (.inr ⟨Y,t,u,ho,i,hh,by rw[c,lH ht],.inr ⟨ht,d (by rw[hF];rfl)⟩⟩)
 | sum l =>
   have hh:dP (dW Y u)=true:=by rw[hF];rfl
   rw[aX hh (fK f.2 ht)]at c;simp[parts,a0w]at c;exact .inr (.inr ⟨Y,t,u,ho,i,hh,by rw[c,lH ht],.inr ⟨ht,d (by rw[hF];rfl)⟩⟩)
 | pair a b=>exact m _ hF rfl rfl (by simp)
 | star a=>exact m _ hF rfl rfl (by simp)
theorem yF(X):wf X->∀w p,p∈parts (dW X w)->XM X w p:=by
 refine NF.ind (P:=λX=>wf X->∀(w:LN) (p:NF),p∈parts (dW X w)->XM X w p) ?_ X;intro X y g w;have elem:∀(w:LN) (c:Nat) (c1:NF) (r:List NF) (p:NF),(c1,r)∈bG X->dP c1=true->(∀l,c1=.sum l->r=[]->c1.size<X.size)->p∈parts (aG (left c c1) (chain r))->XM X (w++[c]) p:=by
  intro w c c1 r p ho hh T d;have f:=bU g ho;have H:∀Y:NF,dW Y [c]=left _ Y:=λY=>rfl;have k:[c] <:+ w++[c]:=List.suffix_append _ _;have G:∀(Y:NF) (o:LN),o <+: [c]->o≠[]->o≠[c]->ym (dW Y o)=true:=by grind [List.prefix_cons_iff]
  cases c1 with
  | zero=>simp[dP]at hh
  | one=>simp[dP]at hh
  | pair a b=>simp[dP]at hh
  | set s =>
    simp only[left]at d;split at d
    .exact Pp g ho _ d
    simp[aG,parts]at d
  | star Z =>
    have N:(Z,.star Z::r)∈bG X:=by have:=ko ho (wL (fT _));simpa using this
    have B:=(pZ ho).1;have m:Z.size<X.size:=by simp[NF.size]at B;omega
    have I:=f.1.1;have e:aG (left c (.star Z)) (chain r)=aG (dW Z [c]) (chain (.star Z::r)):=by
     rw[H];simp only[left];rw[GK _ _ _ (gI _ Z I) f.1];congr 1;exact uw (s:=[.star Z]) (t:=r) (by intro x D;simp at D;subst D;exact⟨f.1,rfl⟩) f.2
    rw[e]at d;exact UD g N (by simp) k (G Z) (y Z m I [c]) d
  | sum l =>
    by_cases E:r=[]
    .grind [chain,bF,amo]
    have m:=(pZ ho).2 E;rw[<-H]at d;exact UD g ho E k (G _) (y _ m f.1 [c]) d
 have main:∀n (w:LN),w.length=n->∀p,p∈parts (dW X w)->XM X w p:=by
  intro n;induction n with
  | zero=>intro w i p d;have:=a0S i;subst this;exact Zh g (fT _) [] d
  | succ n q =>
    intro w i p d;obtain⟨w',c,rfl⟩:∃w' c,w=w'++[c]:=by
     have F:w≠[]:=by intro e;subst e;simp at i
     exact⟨w.dropLast,w.getLast F,(a2t F).symm⟩
    have R:w'.length=n:=by simp at i;omega
    rw[tK]at d;have hq:=BR g w';rcases Wh hq d with h|⟨C,j,d⟩
    .exact .inl h
    have O:=mY hq j;rcases q w' R C j with h|h|⟨Y,t,v,ho,M,hh,rfl,S⟩
    .cases C<;>simp[dF]at h;simp only[left]at d;split at d<;>simp[parts]at d;exact .inr (.inl d)
    .grind [left,parts]
    have f:=bU g ho;rcases Q9 (BR f.1 _) f.2 d with h|h|⟨u,c1,r,A,h⟩
    .exact .inl h
    .rcases S with rfl|⟨ht,U⟩
     .refine elem w' c Y t p ho hh ?_ h;rintro l rfl rfl;simp[mk,dW,iU]at O
     have m:=(pZ ho).2 ht;rw[<-tK]at h;refine UD g ho ht ?_ ?_ (y Y m f.1 (v++[c])) h
     .obtain⟨z,rfl⟩:=M;exact⟨z,by simp⟩
     grind [List.prefix_concat_iff]
    have J:=uy ho A;have L:=f.2 c1 (by rw[A];simp);refine elem w' c c1 r p J L.2 ?_ h;rintro l rfl rfl;rcases Ol ho (.sum l) (by rw[A];simp) with h|⟨a,e,_⟩
    .omega
    simp at e
 exact main _ w rfl
theorem zy:∀a:LB,blt a a=false
 | []=>rfl
 | a::r=>by simp[blt,zy r]
theorem Pq:∀{a b c},blt a b=true->blt b c=true->blt a c=true
 | [],[],_,h,_=>by omega
 | [],_::_,[],_,h=>by simp[blt]at h
 | [],_::_,_::_,_,_=>rfl
 | _::_,[],_,h,_=>by simp[blt]at h
 | _::_,_::_,[],_,h=>by simp[blt]at h
 | a::x,b::y,c::z,f,e=>by
   unfold blt at f e |-;split at f
   .grind
   split at f
   .rename_i _ i;have:=eq_of_beq i;subst this;split at e
    .rename_i g;rw[a0m g]
    rename_i g;split at e
    .rename_i d;have:=eq_of_beq d;subst this;rw[a0n g,a0m (a3d _)];exact Pq f e
    simp at e
   simp at f
theorem age:∀a b,blt a b=true\/a=b\/blt b a=true
 | [],[]=>.inr (.inl rfl)
 | [],_::_=>.inl rfl
 | _::_,[]=>.inr (.inr rfl)
 | a::x,b::y=>by
   by_cases d:a<b
   .grind [left,blt]
   by_cases c:a=b
   .simp_all[age,left,blt]
   grind [blt]
def Ris(l:List NF):Prop:=l.Pairwise (λx y=>blt (name x) (name y)=true)
theorem agf:∀{l x},Ris l->Ris (put l x)
 | [],x,h=>List.pairwise_singleton _ _
 | y::r,x,h=>by
   have c:=h;unfold Ris at h;rw[a1F]at h;unfold put;split
   .rename_i a;refine a1F.2 ⟨?_,agf h.2⟩;intro p b;rcases put_mem b with e|e
    .exact h.1 p e
    subst e;omega
   split
   .omega
   rename_i g f;refine a1F.2 ⟨?_,c⟩;have d:blt (name x) (name y)=true:=by grind [age,name]
   intro p b;rcases a0l.1 b with e|e
   .subst e;omega
   exact Pq d (h.1 p e)
def JX:∀{l acc:List NF},Ris acc->Ris (l.foldl put acc)
 | [],_,h=>h
 | _::r,_,h=>JX (l:=r) (agf h)
def xA(l):Ris (gU l):=JX List.Pairwise.nil
theorem agh:∀{l x},(∀y,name y=name x->y∈l->y=x)->x∈put l x
 | [],x,_=>by simp[put]
 | y::r,x,h=>by
   unfold put;split
   .exact a2l _ (agh (λz hz a=>h z hz (a2l _ a)))
   grind
theorem agi:∀{l x p},p∈l->p∈put l x
 | y::r,x,p,h=>by
   unfold put;split
   .rcases a0l.1 h with e|e
    .simp[e]
    simp_all[agi]
   grind
def JY(l:List NF):Prop:=∀x∈l,∀y∈l,name x=name y->x=y
theorem JZ:∀{l acc p},JY (acc++l)->(p∈acc\/p∈l)->p∈l.foldl put acc
 | [],acc,p,_,h=>by simpa using h
 | x::r,acc,p,ht,h=>by
   have g:x∈put acc x:=agh (λy e d=>ht y (by simp[d]) x (by simp) e);refine JZ (l:=r) ?_ ?_
   .intro a f b hb e;have c:∀z,z∈put acc x++r->z∈acc++x::r:=by
     intro z hz;rcases a0e.1 hz with h|h
     .grind [put_mem]
     simp[h]
    exact ht a (c a f) b (c b hb) e
   grind [agi]
theorem iA {l}(ht:JY l) {p}:p∈gU l↔p∈l :=
 ⟨kK,λh=>JZ (acc:=[]) ht (.inr h)⟩
theorem Zk:∀{a b},Ris a->Ris b->(∀p,p∈a↔p∈b)->a=b
 | [],[],_,_,_=>rfl
 | [],y::b,_,_,h=>by have:=(h y).2 (by simp);simp at this
 | x::a,[],_,_,h=>by have:=(h x).1 (by simp);simp at this
 | x::a,y::b,d,hb,h=>by
   have c:=a1F.1 d;have f:=a1F.1 hb;have e:x=y:=by grind [Pq,zy]
   subst e;congr 1;refine Zk c.2 f.2 ?_;intro p;constructor
   .grind [zy]
   grind [zy]
def GU(c:UInt8):Bool:=(48<=c&&c<=57)||(97<=c&&c<=102)
def okr(r:LB):Prop:=∀c r',r=c::r'->c≠42/\GU c=false
def nI:Nat->LB
 | 0=>[]
 | n+1=>42::nI n
def ajg:Nat->NF->NF
 | 0,x=>x
 | n+1,x=>ajg n (.star x)
def yG:∀{k a r r'},okr r->okr r'->nI k++r=nI a++r'->k=a/\r=r'
 | 0,0,r,r',_,_,h=>⟨rfl,h⟩
 | 0,k+1,r,r',c,_,h=>by have:=c 42 (nI k++r') h;simp at this
 | k+1,0,r,r',_,b,h=>by have:=b 42 (nI k++r) h.symm;simp at this
 | k+1,a+1,r,r',c,b,h=>by simp only[nI,a0L,List.cons.injEq,a1W]at h;obtain⟨e,d⟩:=yG c b h;exact⟨by rw[e],d⟩
theorem amq(n)(h:n<16):GU (sI n)=true:=by
 have:∀m:Fin 16,GU (sI m.1)=true:=by decide
 exact this ⟨n,h⟩
def unhex(c:UInt8):Nat:=if c<=57 then c.toNat-48 else c.toNat-87
theorem Wn(n)(h:n<16):unhex (sI n)=n:=by
 have:∀m:Fin 16,unhex (sI m.1)=m.1:=by decide
 exact this ⟨n,h⟩
def Rf:LB->LN
 | a::b::r=>(unhex a*16+unhex b)::Rf r
 | _=>[]
theorem GV(s):∀k,k<=256->∀c∈setName s k,GU c=true
 | 0,_,c,h=>by simp[setName]at h
 | k+1,a,c,h=>by
   simp only[setName,a0e]at h;rcases h with h|h
   .exact GV s k (by omega) c h
   grind [amq]
def Wo(s:Nat):Nat->LN
 | 0=>[]
 | k+1=>Wo s k++(if s.testBit k then [k] else [])
theorem Wp:∀a x y,(∃m,a.length=2*m)->Rf (a++[x,y])=Rf a++[unhex x*16+unhex y]
 | [],x,y,_=>rfl
 | [a],x,y,h=>by obtain⟨m,h⟩:=h;simp at h;omega
 | a::b::r,x,y,h=>by obtain⟨m,h⟩:=h;have:=Wp r x y ⟨m-1,by simp at h;omega⟩;simp only[a0L,Rf,this]
theorem Rh(s):∀k,∃m,(setName s k).length=2*m
 | 0=>⟨0,rfl⟩
 | k+1=>by
   obtain⟨m,h⟩:=Rh s k;simp only[setName];split
   .exact⟨m+1,by simp[h];omega⟩
   exact⟨m,by simp[h]⟩
theorem J3(s):∀k,k<=256->Rf (setName s k)=Wo s k
 | 0,_=>rfl
 | k+1,h=>by
   have a:=J3 s k (by omega);simp only[setName,Wo];split
   .rw[Wp _ _ _ (Rh s k),a,Wn _ (by omega),Wn _ (by omega)];congr 2;omega
   simp[a]
theorem UG(s):∀k i,i∈Wo s k↔i<k/\s.testBit i=true
 | 0,i=>by simp[Wo]
 | k+1,i=>by
   simp only[Wo,a0e,UG s k i];by_cases h:s.testBit k=true
   .grind
   grind
theorem aeW {s t}(a:s<2 ^ 256)(ht:t<2 ^ 256)(h:setName s 256=setName t 256):s=t:=by
 have c:Wo s 256=Wo t 256:=by rw[<-J3 s 256 (by omega),<-J3 t 256 (by omega),h]
 apply a1D;intro i;by_cases d:i<256
 .have b:=UG s 256 i;have e:=UG t 256 i;rw[c]at b;rw[a0T];constructor
  .grind
  grind
 rw[a1z (a0t a (a1r (by omega) (by omega))),a1z (a0t ht (a1r (by omega) (by omega)))]
theorem acF:∀{a b r r'},(∀c∈a,GU c=true)->(∀c∈b,GU c=true)->(∀c q,r=c::q->GU c=false)->(∀c q,r'=c::q->GU c=false)->a++r=b++r'->a=b/\r=r'
 | [],[],r,r',_,_,_,_,h=>⟨rfl,h⟩
 | [],y::b,r,r',_,hb,g,_,h=>by grind
 | x::a,[],r,r',e,_,_,f,h=>by grind
 | x::a,y::b,r,r',e,hb,g,f,h=>by simp only[a0L,List.cons.injEq]at h;obtain⟨j,i⟩:=acF (λc d=>e c (by simp[d])) (λc d=>hb c (by simp[d])) g f h.2;exact⟨by rw[h.1,j],i⟩
def Zm {r}(h:okr r)(k):∀c q,nI k++r=c::q->GU c=false:=by
 intro c q e;cases k with
 | zero=>exact(h c q e).2
 | succ k=>simp[nI]at e;rw[<-e.1];decide
def NI(n:Nat):Prop:=∀(x y:NF),x.size+y.size<=n->wf x->wf y->∀(k a:Nat) (r r':LB),okr r->okr r'->name x++(nI k++r)=name y++(nI a++r')->ajg k x=ajg a y/\r=r'
def aow(r):okr (32::r):=by intro c q e;simp at e;rw[<-e.1];decide
def aox(r):okr (41::r):=by intro c q e;simp at e;rw[<-e.1];decide
def ak7(r):okr (124::r):=by intro c q e;simp at e;rw[<-e.1];decide
def Ps(x):∃c r,name x=c::r/\c≠93:=by
 refine NF.ind (P:=λx=>∃c r,name x=c::r/\c≠93) ?_ x;intro x d;cases x with
 | zero=>exact⟨_,_,rfl,by decide⟩
 | one=>exact⟨_,_,rfl,by decide⟩
 | set s=>exact⟨_,_,rfl,by decide⟩
 | pair a b=>exact⟨_,_,rfl,by decide⟩
 | sum l=>exact⟨_,_,rfl,by decide⟩
 | star a=>obtain⟨c,r,h,e⟩:=d a (by simp[NF.size]);exact⟨c,r++[42],by simp[name,h],e⟩
def Zn(d:NI n):∀{l a r r'},bP l+bP a<=n->wfL l->wfL a->ed l++93::r=ed a++93::r'->l=a/\r=r'
 | [],[],r,r',_,_,_,h=>by simpa[ed] using h
 | [],y::a,r,r',_,_,_,h=>by obtain⟨c,q,e,b⟩:=Ps y;simp[ed,e]at h;exact absurd h.1.symm b
 | x::l,[],r,r',_,_,_,h=>by obtain⟨c,q,e,b⟩:=Ps x;simp[ed,e]at h;exact absurd h.1 b
 | x::l,y::a,r,r',j,g,f,h=>by simp only[bP]at j;simp[ed,a0M,a0L]at h;obtain⟨o,i⟩:=d x y (by omega) g.1 f.1 0 0 _ _ (ak7 _) (ak7 _) h;simp only[List.cons.injEq,a1W]at i;obtain⟨m,k⟩:=Zn d (by omega) g.2 f.2 i;exact⟨by rw[show x=y from o,m],k⟩
def Om:∀n,NI n
 | 0=>by intro x y h;have:=x.size_pos;omega
 | n+1=>by
   have o:=Om n;intro x y q j i k e r r' f g h;cases x with
   | star a =>
     have:name a++(nI (k+1)++r)=name y++(nI e++r'):=by simp[name,a0M,a1h]at h;exact h
     exact o a y (by simp[NF.size]at q;omega) j.1 i (k+1) e r r' f g this
   | zero =>
     cases y with
     | star b =>
       have:name NF.zero++(nI k++r)=name b++(nI (e+1)++r'):=by simp[name,a0M,a1h]at h |-;exact h
       exact o _ b (by simp[NF.size]at q |-;omega) j i.1 k (e+1) r r' f g this
     | zero=>simp[name,a0L,List.cons.injEq,a1W,a0V]at h;obtain⟨p,m⟩:=yG f g h;exact⟨by rw[p],m⟩
     | _=>simp[name]at h
   | one =>
     cases y with
     | star b =>
       have:name NF.one++(nI k++r)=name b++(nI (e+1)++r'):=by simp[name,a0M,a1h]at h |-;exact h
       exact o _ b (by simp[NF.size]at q |-;omega) j i.1 k (e+1) r r' f g this
     | one=>simp[name,a0L,List.cons.injEq,a1W,a0V]at h;obtain⟨p,m⟩:=yG f g h;exact⟨by rw[p],m⟩
     | _=>simp[name]at h
   | set s =>
     cases y with
     | star b =>
       have:name (.set s)++(nI k++r)=name b++(nI (e+1)++r'):=by simp[name,a0M,a1h]at h |-;exact h
       exact o _ b (by simp[NF.size]at q |-;omega) j i.1 k (e+1) r r' f g this
     | set t=>simp[name,a0L,List.cons.injEq,a1W]at h;obtain⟨p,m⟩:=acF (GV s 256 (by omega)) (GV t 256 (by omega)) (Zm f k) (Zm g e) h;obtain⟨z,u⟩:=yG f g m;exact⟨by rw[z,aeW j.2 i.2 p],u⟩
     | _=>simp[name]at h
   | pair a b =>
     cases y with
     | star c =>
       have:name (.pair a b)++(nI k++r)=name c++(nI (e+1)++r'):=by simp[name,a0M,a1h]at h |-;exact h
       exact o _ c (by simp[NF.size]at q |-;omega) j i.1 k (e+1) r r' f g this
     | pair c d=>simp[name,a0L,a0M,List.cons.injEq,a1W,a0V]at h;simp only[NF.size]at q;obtain⟨p,m⟩:=o a c (by omega) j.1 i.1 0 0 _ _ (aow _) (aow _) h;simp only[List.cons.injEq,a1W]at m;obtain⟨z,u⟩:=o b d (by omega) j.2.1 i.2.1 0 0 _ _ (aox _) (aox _) m;simp only[List.cons.injEq,a1W]at u;obtain⟨w,v⟩:=yG f g u;exact⟨by rw[w,show a=c from p,show b=d from z],v⟩
     | _=>simp[name]at h
   | sum l =>
     cases y with
     | star c =>
       have:name (.sum l)++(nI k++r)=name c++(nI (e+1)++r'):=by simp[name,a0M,a1h]at h |-;exact h
       exact o _ c (by simp[NF.size]at q |-;omega) j i.1 k (e+1) r r' f g this
     | sum A=>simp[name,a0L,a0M,List.cons.injEq,a1W,a0V]at h;simp only[NF.size]at q;obtain⟨p,m⟩:=Zn o (by omega) j.1 i.1 h;obtain⟨w,v⟩:=yG f g m;exact⟨by rw[w,p],v⟩
     | _=>simp[name]at h
theorem UH {x y}(d:wf x)(b:wf y)(h:name x=name y):x=y:=by
 have a:okr []:=by intro c q e;simp at e
 exact(Om _ x y (a0b _) d b 0 0 [] [] a a (by simpa[nI] using h)).1
theorem BU {l}(h:∀x∈l,wf x):JY l:=λx b y a e=>UH (h x b) (h y a) e
theorem mg:∀l i,(bf l).testBit i=l.any λx=>(bits x).testBit i
 | [],i=>by simp[bf]
 | x::r,i=>by rw[tH,a2D,mg r i];simp
def GY {a b}(h:∀i,(a.any λx=>(bits x).testBit i)=b.any λx=>(bits x).testBit i):bf a=bf b:=by apply a1D;intro i;rw[mg,mg,h]
theorem UI {x}(h:dF x=false):bits x=0:=by cases x<;>simp[dF]at h<;>rfl
theorem jl {l p}:p∈bN l↔(p∈l/\dF p=false)\/(bf l≠0/\p=.set (bf l)):=by grind [bN,bf]
theorem J4 {l}(a:∀x∈l,wf x):∀x∈bN l,wf x:=by
 intro x b;rcases jl.1 b with h|⟨c,rfl⟩
 .exact a x h.1
 exact⟨a2P c,UB a⟩
theorem Zo {l}(b:∀x∈l,iU x=true):∀x∈bN l,iU x=true:=by
 intro x a;rcases jl.1 a with h|⟨c,rfl⟩
 .exact b x h.1
 rfl
theorem GZ {F G}(hF:∀x∈F,wf x)(hG:∀x∈G,wf x)(h:∀p,dF p=false->(p∈F↔p∈G))(a:bf F=bf G):gU (bN F)=gU (bN G):=by
 refine Zk (xA _) (xA _) ?_;intro p;rw[iA (BU (J4 hF)),iA (BU (J4 hG)),jl,jl,a];constructor
 .grind
 grind
theorem xC {ls:List NF}(a:∀x∈ls,wf x):∀p∈ls.flatMap parts,wf p:=by grind [wK]
theorem Zp {ls:List NF}(a:∀x∈ls,wf x):∀p∈ls.flatMap parts,iU p=true:=by grind [mY]
theorem rD {ls}(a:∀x∈ls,wf x) {p}:p∈parts (bQ ls)↔p∈bN (ls.flatMap parts):=by unfold bQ;rw[Pm (λq hq=>Zo (Zp a) q (kK hq)),iA (BU (J4 (xC a)))]
theorem UJ {ls}(a:∀x∈ls,wf x):bf (parts (bQ ls))=bf (ls.flatMap parts):=by
 apply a1D;intro i;rw[mg,a0T,a1s];constructor
 .rintro⟨p,b,hb⟩;rcases jl.1 ((rD a).1 b) with⟨_,h⟩|⟨_,rfl⟩
  .rw[UI h]at hb;simp at hb
  exact hb
 intro hb;have c:bf (ls.flatMap parts)≠0:=by intro e;rw[e]at hb;simp at hb
 exact⟨.set (bf (ls.flatMap parts)),(rD a).2 (jl.2 (.inr ⟨c,rfl⟩)),hb⟩
theorem zh(a b):bf (a++b)=bf a ||| bf b:=by apply a1D;intro i;rw[a2D,mg,mg,mg,List.any_append]
theorem Ri {UK bs}(b:∀x∈UK,wf x)(hb:∀x∈bs,wf x):bQ (bQ UK::bs)=bQ (UK++bs):=by
 have a:∀x∈UK++bs,wf x:=by grind
 have ho:∀x∈bQ UK::bs,wf x:=by simp_all[Ms,hb]
 show mkS _=mkS _;congr 1;refine GZ (xC ho) (xC a) ?_ ?_
 .grind [rD,jl,dF]
 grind [zh,UJ]
theorem vT {UK bs}(a:∀x∈UK,wf x)(hb:∀x∈bs,wf x)(h:∀p,p∈UK.flatMap parts↔p∈bs.flatMap parts):bQ UK=bQ bs:=by
 show mkS _=mkS _;congr 1;refine GZ (xC a) (xC hb) (λp _=>h p) ?_;refine GY λi=>?_;rw[a0T,a1s,a1s];constructor
 .grind
 grind
def Wq(x:NF):Prop:=bQ [x]=x
def aoy {ls}(a:∀x∈ls,wf x):Wq (bQ ls):=by have:=Ri a (bs:=[]) (by simp);rwa [a0R]at this
def acG {x}(c:wf x)(h:∀l,x≠.sum l):Wq x:=by
 cases x with
 | sum l=>exact absurd rfl (h l)
 | zero=>rfl
 | one=>simp[Wq,bQ,parts,bN,dF,bf,bits,gU,put,mkS]
 | pair a b=>simp[Wq,bQ,parts,bN,dF,bf,bits,gU,put,mkS]
 | star a=>simp[Wq,bQ,parts,bN,dF,bf,bits,gU,put,mkS]
 | set s =>
   have:s≠0:=by have:=c.1;omega
   simp[Wq,bQ,parts,bN,dF,bf,bits,gU,put,mkS,this]
mutual
def can:NF->Prop
 | .zero=>True
 | .one=>True
 | .set _=>True
 | .pair a b=>can a/\can b
 | .sum l=>agj l/\Wq (.sum l)
 | .star a=>can a
def agj:List NF->Prop
 | []=>True
 | x::r=>can x/\agj r
end
theorem wM:∀{l},agj l↔∀x∈l,can x
 | []=>by simp[agj]
 | x::r=>by simp[agj,wM (l:=r)]
def Pv {x}(a:wf x)(h:can x):Wq x:=by
 cases x with
 | sum l=>exact h.2
 | _=>exact acG a (by simp)
theorem ajh {x p}(a:can x)(h:p∈parts x):can p:=by
 cases x with
 | zero=>simp[parts]at h
 | sum l=>exact wM.1 a.1 p h
 | _=>simp[parts]at h;subst h;exact a
theorem Zq {ls}(d:∀x∈ls,wf x)(e:∀x∈ls,can x):can (bQ ls):=by
 have c:∀p∈parts (bQ ls),can p:=by
  intro p c;rcases jl.1 ((rD d).1 c) with⟨h,_⟩|⟨_,rfl⟩
  .grind [ajh]
  trivial
 cases ho:bQ ls with
 | zero=>trivial
 | sum l=>rw[ho]at c;refine⟨wM.2 c,?_⟩;have:=aoy d;rwa [ho]at this
 | one=>trivial
 | set s=>trivial
 | pair a b=>rw[ho]at c;exact c _ (by simp[parts])
 | star a=>rw[ho]at c;exact c _ (by simp[parts])
theorem BV:∀{a b},can a->can b->can (aG a b)
 | .zero,b,_,_=>trivial
 | .one,b,_,hb=>hb
 | .pair c d,b,e,hb=>by
   by_cases ht:aP b=true
   .rw[dA ht];exact BV e.1 (BV e.2 hb)
   grind [fQ,fJ,bF]
 | .set s,b,e,hb=>by
   by_cases ht:aP b=true
   .rw[aX rfl ht];exact⟨e,hb⟩
   grind [fQ,fJ,bF]
 | .sum l,b,e,hb=>by
   by_cases ht:aP b=true
   .rw[aX rfl ht];exact⟨e,hb⟩
   grind [fQ,fJ,bF]
 | .star a,b,e,hb=>by
   by_cases ht:aP b=true
   .rw[aX rfl ht];exact⟨e,hb⟩
   grind [fQ,fJ,bF]
theorem acH(c x):wf x->can x->can (left c x):=by
 refine NF.ind (P:=λx=>wf x->can x->can (left c x)) ?_ x;intro x e f d;cases x with
 | zero=>trivial
 | one=>trivial
 | set s=>simp only[left];split<;>trivial
 | pair a b =>
   obtain⟨i,wb,_,_⟩:=f;have h:=BV (e a (by simp[NF.size];omega) i d.1) d.2;simp only[left];split
   .refine Zq ?_ ?_
    .grind [lY,gI]
    simp;exact⟨h,e b (by simp[NF.size];omega) wb d.2⟩
   omega
 | sum l =>
   simp only[left,fP];refine Zq ?_ ?_
   .intro y g;obtain⟨z,hz,rfl⟩:=a0q.1 g;exact gI c z (kJ.1 f.1 z hz)
   intro y g;obtain⟨z,hz,rfl⟩:=a0q.1 g;have:=dx hz;exact e z (by simp[NF.size];omega) (kJ.1 f.1 z hz) (wM.1 d.1 z hz)
 | star a=>exact BV (e a (by simp[NF.size]) f.1 d) d
def amr {a}(h:wf a):wf (iH a):=by cases a<;>first | trivial|exact h|exact⟨h,rfl⟩
def aji {a}(h:can a):can (iH a):=by cases a<;>first | trivial|exact h
def sV(X:NF)(w:LN)(f:NF):Prop :=
 ∃Z u Y t v,(Z,u)∈bG X/\(Y,t)∈bG Z/\v <:+ w/\f=mk (dW Y v) t/\(t≠[]->dP (dW Y v)=true)
theorem yH {X Z Y u t}(h:(Z,u)∈bG X)(k:(Y,t)∈bG Z):∃s,(Y,s)∈bG X:=⟨_,ko h k⟩
theorem Mt {X Y t}(h:(Y,t)∈bG X) {v w}(a:v <:+ w):sV X w (dW Y v) :=
 ⟨Y,t,Y,[],v,h,fT Y,a,rfl,λh=>absurd rfl h⟩
theorem ajj {X Z Y u t}(d:wf X)(b:(Z,u)∈bG X)(a:(Y,t)∈bG Z)(ht:t≠[])(w):sV X w (chain t):=by
 match t,a,ht with
 | c1::r,a,_=>refine⟨Z,u,c1,r,[],b,uy (u:=[]) a rfl,a2k,?_,λ_=>((bU (bU d b).1 a).2 c1 (by simp)).2⟩;cases r<;>rfl
theorem Zr {X Y t}(h:(Y,t)∈bG X) {v w}(b:v <:+ w) {p}(c:XM Y v p):dF p=true\/p=.one\/sV X w p:=by
 rcases c with a|a|⟨g,s,v',a,f,e,d,i⟩
 .exact .inl a
 .exact .inr (.inl a)
 exact .inr (.inr ⟨Y,t,g,s,v',h,a,f.trans b,d,λ_=>e⟩)
theorem Mv {X}(k:wf X) {w a b}(h:sV X w (.pair a b)) :
 ∃Z u Y t v,(Z,u)∈bG X/\(Y,t)∈bG Z/\t≠[]/\v <:+ w/\a=dW Y v/\dP a=true/\b=chain t:=by
 obtain⟨Z,u,Y,t,v,e,f,g,c,hh⟩:=h;by_cases ht:t=[]
 .subst ht;rw[show mk (dW Y v) []=dW Y v from rfl]at c;have l:=(bU k e).1;have m:=(bU l f).1;have i:=yF _ m v (.pair a b) (by rw[<-c];simp[parts]);rcases i with d|d|⟨y,s,v',d,x,r,q,p⟩
  .simp[dF]at d
  .simp at d
  obtain⟨n,j⟩:=yH e f;by_cases o:s=[]
  .grind [mk,dW,dP]
  grind [lH]
 rw[lH ht]at c;simp[NF.pair.injEq]at c;exact⟨Z,u,Y,t,v,e,f,ht,g,c.1,by rw[c.1];exact hh ht,c.2⟩
theorem Zs {X}(c:wf X) {w a b}(h:sV X w (.pair a b)):sV X w a:=by grind [Mv,yH,Mt]
theorem Pw {X}(c:wf X) {w a b}(h:sV X w (.pair a b)):sV X w b:=by grind [Mv,ajj]
theorem acI {X}(i:wf X) {w a}(h:sV X w (.star a)):∃s,(.star a,s)∈bG X:=by
 obtain⟨Z,u,Y,t,v,f,g,m,e,hh⟩:=h;by_cases ht:t=[]
 .subst ht;rw[show mk (dW Y v) []=dW Y v from rfl]at e;have k:=(bU ((bU i f).1) g).1;obtain⟨l,b⟩:=yH f g;rcases yF _ k v (.star a) (by rw[<-e];simp[parts]) with h1|h1|⟨Y',s,v',h1,h2,h3,h4,h5⟩
  .simp[dF]at h1
  .simp at h1
  rcases h5 with rfl|⟨d,_⟩
  .by_cases d:s=[]
   .subst d;have c:=h4;subst c;exact yH b h1
   grind [lH]
  grind [lH]
 grind [lH]
theorem Zt {X}(c:wf X) {w a}(h:sV X w (.star a)):sV X w a:=by obtain⟨s,b⟩:=acI c h;exact Mt (v:=[]) (ko b (wL (fT a))) a2k
theorem Zu {X}(g:wf X) {w l}(h:sV X w (.sum l)) {p}(f:p∈l):dF p=true\/p=.one\/sV X w p:=by
 obtain⟨Z,u,Y,t,v,c,d,e,b,hh⟩:=h;by_cases ht:t=[]
 .subst ht;rw[show mk (dW Y v) []=dW Y v from rfl]at b;have j:=(bU ((bU g c).1) d).1;obtain⟨k,a⟩:=yH c d;exact Zr a e (yF Y j v p (by rw[<-b];exact f))
 grind [lH]
def uZ:NF->NF->List NF
 | .zero,_=>[]
 | .one,_=>[]
 | .pair c d,b=>match b with
   | .zero=>[]
   | .one=>[]
   | b=>uZ d b++uZ c (aG d b)
 | a,b=>match b with
   | .zero=>[]
   | .one=>[]
   | b=>[.pair a b]
theorem nA {a b}(c:dP a=true)(hb:aP b=true):uZ a b=[.pair a b]:=by cases a<;>simp[dP]at c<;>cases b<;>simp[aP]at hb<;>rfl
theorem E5 {c d b}(hb:aP b=true):uZ (.pair c d) b=uZ d b++uZ c (aG d b):=by cases b<;>simp[aP]at hb<;>rfl
def Zv:∀{s t:List NF} {f:NF},EV s->EV t->s≠[]->t≠[]->f∈uZ (chain s) (chain t)->∃x c1 r,s=x++c1::r/\f=mk c1 (r++t)
 | [x],t,f,d,ht,_,c,h=>by rw[show chain [x]=x from rfl,nA (d x (by simp)).2 (fK ht c)]at h;simp at h;exact⟨[],x,[],rfl,by rw[h,a0V,lH c]⟩
 | x::y::s,t,f,d,ht,_,c,h=>by
   have g:EV (y::s):=λz hz=>d z (by simp at hz |-;exact .inr hz);have j:EV (y::s++t):=by
    intro w b;rcases a0e.1 b with b|b
    .exact g w b
    exact ht w b
   rw[Wi (by simp),E5 (fK ht c),uw g ht,nA (d x (by simp)).2 (fK j (by simp))]at h;rcases a0e.1 h with h|h
   .obtain⟨a,c1,r,e,i⟩:=Zv g ht (by simp) c h;exact⟨x::a,c1,r,by rw[e];rfl,i⟩
   simp at h;exact⟨[],x,y::s,rfl,by rw[h];rfl⟩
theorem Zw {X Z Y u t v w c}(A:wf X)(k:(Z,u)∈bG X)(m:(Y,t)∈bG Z)(ht:t≠[])(y:v <:+ w) {f}
 (h:f∈uZ (left c (dW Y v)) (chain t)):sV X (w++[c]) f:=by
 have d:=bU ((bU A k).1) m;have o:=fK d.2 ht;have i:v++[c] <:+ w++[c]:=by obtain⟨z,rfl⟩:=y;exact⟨z,by simp⟩
 rw[<-tK]at h;have p:=yF Y d.1 (v++[c]);have head:dP (dW Y (v++[c]))=true->sV X (w++[c]) f:=by intro hh;rw[nA hh o]at h;simp at h;exact⟨Z,u,Y,t,v++[c],k,m,i,by rw[h,lH ht],λ_=>hh⟩
 cases hF:dW Y (v++[c]) with
 | zero=>rw[hF]at h;simp[uZ]at h
 | one=>rw[hF]at h;simp[uZ]at h
 | set s=>exact head (by rw[hF];rfl)
 | sum l=>exact head (by rw[hF];rfl)
 | star a=>exact head (by rw[hF];rfl)
 | pair a b =>
   rcases p (.pair a b) (by rw[hF];simp[parts]) with h1|h1|⟨Y',s,v',h1,h2,h3,h4,h5⟩
   .simp[dF]at h1
   .simp at h1
   have j:s≠[]:=by grind [mk,dW,dP]
   have n:=(bU d.1 h1).2;have B:EV (s++t):=by
    intro w g;rcases a0e.1 g with g|g
    .exact n w g
    exact d.2 w g
   rw[hF,h4,lH j,E5 o,uw n d.2,nA h3 (fK B (by simp[j]))]at h;rcases a0e.1 h with h|h
   .obtain⟨x,c1,r,e,rfl⟩:=Zv n d.2 j ht h;exact⟨Z,u,c1,r++t,[],k,ko m (uy h1 e),a2k,rfl,λ_=>((n c1 (by rw[e];simp)).2)⟩
   simp at h;exact⟨Z,u,Y',s++t,v',k,ko m h1,h2.trans i,by rw[h,lH (by simp[j])],λ_=>h3⟩
def Made(X:NF)(w:LN)(c:Nat)(f:NF):Prop :=
 sV X (w++[c]) f\/∃g,sV X w g/\(f=left c g\/f=.set (bf (parts (left c g))))
def ajk {X a b w c}(d:wf X)(h:sV X w (.pair a b)):∀f∈uZ (left c a) b,Made X w c f:=by obtain⟨Z,u,Y,t,v,i,j,ht,e,rfl,_,rfl⟩:=Mv d h;intro f g;exact .inl (Zw d i j ht e g)
theorem ajl {X a w c}(b:wf X)(h:sV X w (.star a)):∀f∈uZ (left c a) (.star a),Made X w c f:=by obtain⟨s,d⟩:=acI b h;intro f e;exact .inl (Zw (v:=[]) (t:=[.star a]) b d (wL (fT a)) (by simp) a2k e)
theorem Zx {X g w c}(h:sV X w g):Made X w c (left c g):=.inr ⟨g,h,.inl rfl⟩
def acJ {X g w c}(h:sV X w g):Made X w c (.set (bf (parts (left c g)))):=.inr ⟨g,h,.inr rfl⟩
end
section
variable {α:Type} {X Y d x:NF} {w w':World} {D ls:List NF} {ab g h h' i j p p' s s':Nat} {r t:LB} {A R S:LN} {va vn:Value} {old:Array Value}
def DF{α}:List α->List (List α)
 | []=>[[]]
 | a::r=>(a::r)::DF r
theorem Mw:∀{w v:List α},v <:+ w->v∈DF w
 | [],v,h=>by have:=List.suffix_nil.1 h;subst this;simp[DF]
 | a::r,v,h=>by
   rcases List.suffix_cons_iff.1 h with e|e
   .subst e;simp[DF]
   simp_all[DF,Mw]
theorem Mx:∀w:List α,(DF w).length=w.length+1
 | []=>rfl
 | a::r=>by simp[DF,Mx r]
def Rj(X:NF)(w:LN):List NF:=(bG X).flatMap λZ=>(bG Z.1).flatMap λY=>(DF w).map λv=>mk (dW Y.1 v) Y.2
theorem E6{f w}(h:sV X w f):f∈Rj X w:=by obtain⟨Z,u,Y,t,v,b,c,a,rfl,_⟩:=h;exact a1l.2 ⟨(Z,u),b,a1l.2 ⟨(Y,t),c,a0q.2 ⟨v,Mw a,rfl⟩⟩⟩
theorem Zy(X):(bG X).length=X.size:=by
 refine NF.ind (P:=λX=>(bG X).length=X.size) ?_ X;intro X d;cases X with
 | zero=>rfl
 | one=>rfl
 | set s=>rfl
 | pair a b=>simp[bG,NF.size,d a (by simp[NF.size];omega),d b (by simp[NF.size];omega)]
 | star a=>simp[bG,NF.size,d a (by simp[NF.size])]
 | sum l =>
   have:∀c:List NF,(∀x∈c,x∈l)->(Dz c).length=bP c:=by
    intro c;induction c with
    | nil=>intro _;rfl
    | cons x r e=>intro h;have f:=dx (h x (by simp));simp[Dz,bP,d x (by simp[NF.size];omega),e (λy g=>h y (by simp[g]))]
   simp[bG,NF.size,this l (λx f=>f)]
mutual
def dZ:NF->Nat
 | .zero=>1
 | .one=>1
 | .set _=>1
 | .pair a b=>max (dZ a) (dZ b)+1
 | .sum l=>J5 l+1
 | .star a=>dZ a+1
def J5:List NF->Nat
 | []=>0
 | x::r=>max (dZ x) (J5 r)
end
def J6:∀{l x},x∈l->dZ x<=J5 l
 | y::r,x,h=>by
   simp only[J5];rcases a0l.1 h with e|e
   .subst e;omega
   have:=J6 e;omega
def Rk(x):0<dZ x:=by cases x<;>simp[dZ]
def ou(l:List (NF × List NF)):Nat:=(l.map λo=>o.1.size).sum
theorem Rm(a b):ou (a++b)=ou a+ou b:=by simp[ou]
theorem acK(l t):ou (l.map λo=>(o.1,o.2++t))=ou l:=by simp[ou,Function.comp_def]
theorem agk(X):ou (bG X)<=X.size*dZ X:=by
 refine NF.ind (P:=λX=>ou (bG X)<=X.size*dZ X) ?_ X;intro X e;cases X with
 | zero=>decide
 | one=>decide
 | set s=>simp[bG,ou,NF.size,dZ]
 | pair a b =>
   have k:=e a (by simp[NF.size];omega);have:=e b (by simp[NF.size];omega);have d:ou (bG (.pair a b))=(a.size+b.size+1)+(ou (bG a)+ou (bG b)):=by simp[bG];rw[show ∀x r,ou (x::r)=x.1.size+ou r from λx r=>by simp[ou],Rm,acK];simp[NF.size]
   rw[d];simp only[NF.size,dZ];have:a.size*dZ a<=a.size*max (dZ a) (dZ b):=a0o _ (by omega);have:b.size*dZ b<=b.size*max (dZ a) (dZ b):=a0o _ (by omega);have i:(a.size+b.size+1)*(max (dZ a) (dZ b)+1)=a.size*max (dZ a) (dZ b)+b.size*max (dZ a) (dZ b)+max (dZ a) (dZ b)+(a.size+b.size+1):=by grind
   omega
 | star a =>
   have:=e a (by simp[NF.size]);have d:ou (bG (.star a))=(a.size+1)+ou (bG a):=by simp[bG];rw[show ∀x r,ou (x::r)=x.1.size+ou r from λx r=>by simp[ou],acK];simp[NF.size]
   rw[d];simp only[NF.size,dZ];have i:(a.size+1)*(dZ a+1)=a.size*dZ a+dZ a+(a.size+1):=by grind
   omega
 | sum l =>
   have o:∀c:List NF,(∀x∈c,x∈l)->ou (Dz c)<=bP c*J5 l:=by
    intro c;induction c with
    | nil=>intro _;simp[Dz,ou,bP]
    | cons x r f=>intro h;have g:=dx (h x (by simp));have n:=e x (by simp[NF.size];omega);have:=f (λy j=>h y (by simp[j]));have m:=J6 (h x (by simp));simp[Dz,Rm,bP,a0J];have:=a0o x.size m;omega
   have d:ou (bG (.sum l))=(bP l+1)+ou (Dz l):=by simp[bG,ou,NF.size]
   have:=o l (λx g=>g);rw[d];simp[NF.size,dZ];have:(bP l+1)*(J5 l+1)=bP l*J5 l+J5 l+(bP l+1):=by grind
   omega
theorem xD{β:Type}(f:α->List β)(g)(b:∀a,(f a).length=g a):∀l:List α,(l.flatMap f).length=(l.map g).sum
 | []=>rfl
 | a::r=>by simp[b a,xD f g b r]
theorem acL(X w):(Rj X w).length=ou (bG X)*(w.length+1):=by
 unfold Rj;rw[xD _ (λZ=>Z.1.size*(w.length+1))]
 .unfold ou;generalize bG X=l;induction l with
  | nil=>simp
  | cons a r b=>simp[a0E,a0Y,b,a0J]
 intro Z;rw[xD _ (λ_=>w.length+1)]
 .rw[<-Zy _];generalize bG Z.1=l;induction l with
  | nil=>simp
  | cons a r b=>simp[a0E,a0Y,b,a0r,a0J,a2T];omega
 intro Y;simp[Mx]
def J7(X:NF)(w:LN)(c:Nat):List NF:=Rj X (w++[c])++((Rj X w).map (left c)++(Rj X w).map λg=>.set (bf (parts (left c g))))
theorem agl{f w c}(h:Made X w c f):f∈J7 X w c:=by
 unfold J7;rcases h with h|⟨g,a,rfl|rfl⟩
 .grind [E6]
 .grind [E6]
 grind [E6]
def ajm(X w c)(a:w.length<=39):(J7 X w c).length<=121*(X.size*dZ X):=by have:=agk X;unfold J7;simp only[a0p,a0y,acL,a0r,a1e];generalize ou (bG X)=s at *;have:s*(w.length+1+1)<=s*41:=a0o _ (by omega);have:s*(w.length+1)<=s*40:=a0o _ (by omega);simp only[a1n];omega
theorem qP:∀{a b:List α},a.Nodup->(∀x∈a,x∈b)->a.length<=b.length
 | [],b,_,_=>a1G _
 | x::a,b,g,h=>by
   have f:=h x (by simp);obtain⟨b1,b2,rfl⟩:=a2Q f;have c:=a2R.1 g;have:=qP (a:=a) (b:=b1++b2) c.2 (by
    intro y d;have:=h y (by simp[d]);rcases a0e.1 this with e|e
    .grind
    rcases a0l.1 e with e|e
    .grind
    exact a1o _ e)
   simp at this |-;omega
inductive RX where
 | one:Nat->RX
 | seq:List RX->RX
 | alt:List RX->RX
 | rep:RX->Nat->Option Nat->RX
def times(lo:Nat):Option Nat->Nat
 | none=>lo+1
 | some n=>n
def iV(lo:Nat):Option Nat->Nat
 | none=>if lo<=1 then 1 else 3
 | some n=>if lo=0/\n=1 then 1 else 3
mutual
def mh:RX->Nat
 | .one _=>1
 | .seq l=>iO l
 | .alt l=>iO l
 | .rep x lo a=>mh x*times lo a
def iO:List RX->Nat
 | []=>0
 | x::r=>mh x+iO r
end
mutual
def jX:RX->Nat
 | .one _=>1
 | .seq l=>gu l
 | .alt l=>gu l+(l.length-1)
 | .rep x lo a=>jX x+iV lo a
def gu:List RX->Nat
 | []=>0
 | x::r=>jX x+gu r
end
mutual
def tL:RX->Prop
 | .one s=>s<2 ^ 256
 | .seq l=>jm l
 | .alt l=>jm l/\l≠[]
 | .rep x lo a=>tL x/\(∀n,a=some n->lo<=n)
def jm:List RX->Prop
 | []=>True
 | x::r=>tL x/\jm r
end
def eQ(a:NF):Nat->NF->NF
 | 0,t=>t
 | k+1,t=>eQ a k (aG a t)
def dG(a:NF):Nat->NF->NF
 | 0,t=>t
 | k+1,t=>dG a k (kY (aG a t) .one)
def kD(a:NF)(lo:Nat):Option Nat->NF
 | none=>eQ a lo (iH a)
 | some n=>eQ a lo (dG a (n-lo) .one)
mutual
def bn:RX->NF
 | .one s=>if s=0 then .zero else .set s
 | .seq l=>sJ l
 | .alt l=>bQ (iP l)
 | .rep x lo a=>kD (bn x) lo a
def sJ:List RX->NF
 | []=>.one
 | x::r=>aG (bn x) (sJ r)
def iP:List RX->List NF
 | []=>[]
 | x::r=>bn x::iP r
end
theorem uB:∀l,iP l=l.map bn
 | []=>rfl
 | x::r=>by simp only[iP,a0E,uB r]
def WC(x:NF):Prop:=wf x/\can x
theorem WC.zero:WC .zero:=⟨trivial,trivial⟩
theorem WC.one:WC .one:=⟨trivial,trivial⟩
theorem WC.then {a b}(c:WC a)(hb:WC b):WC (aG a b):=⟨lY c.1 hb.1,BV c.2 hb.2⟩
theorem WC.bQ(h:∀x∈ls,WC x):WC (bQ ls):=⟨Ms λx a=>(h x a).1,Zq (λx a=>(h x a).1) λx a=>(h x a).2⟩
def WC.or {a b}(c:WC a)(hb:WC b):WC (kY a b):=WC.bQ (by simp;exact⟨c,hb⟩)
theorem WC.star {a}(b:WC a):WC (iH a):=⟨amr b.1,aji b.2⟩
theorem WC.left {a:NF}(c:Nat)(b:WC a):WC (left c a):=⟨gI c a b.1,acH c a b.1 b.2⟩
def J8 {a}(b:WC a):∀k t,WC t->WC (eQ a k t)
 | 0,t,h=>h
 | k+1,t,h=>J8 b k _ (b.then h)
def E7 {a}(b:WC a):∀k t,WC t->WC (dG a k t)
 | 0,t,h=>h
 | k+1,t,h=>E7 b k _ ((b.then h).or .one)
def agm {a}(b:WC a)(lo c):WC (kD a lo c):=by
 cases c with
 | none=>exact J8 b lo _ b.star
 | some n=>exact J8 b lo _ (E7 b _ _ .one)
mutual
theorem uC:∀{e:RX},tL e->WC (bn e)
 | .one s,h=>by
   simp only[bn];split
   .exact .zero
   exact⟨⟨a2P (by assumption),h⟩,trivial⟩
 | .seq l,h=>Zz (show jm l from h)
 | .alt l,h=>WC.bQ (E8 (show jm l from h.1))
 | .rep x lo a,h=>agm (uC (show tL x from h.1)) lo a
theorem Zz:∀{l:List RX},jm l->WC (sJ l)
 | [],_=>.one
 | x::r,h=>(uC h.1).then (Zz h.2)
theorem E8:∀{l:List RX},jm l->∀x∈iP l,WC x
 | [],_,x,a=>by simp[iP]at a
 | y::r,h,x,a=>by
   simp only[iP,a0l]at a;rcases a with rfl|a
   .exact uC h.1
   exact E8 h.2 x a
end
def Hq:∀a b,(aG a b).size<=a.size+b.size+1
 | .zero,b=>by simp only[aG,NF.size];omega
 | .one,b=>by simp only[aG,NF.size];omega
 | .pair c d,b=>by
   by_cases hb:aP b=true
   .rw[dA hb];have f:=Hq d b;have e:=Hq c (aG d b);simp only[NF.size];omega
   rcases fQ hb with rfl|rfl
   .rw[fJ];omega
   rw[bF];omega
 | .set s,b=>by cases b<;>simp[aG,NF.size]<;>omega
 | .sum l,b=>by cases b<;>simp[aG,NF.size]<;>omega
 | .star a,b=>by cases b<;>simp[aG,NF.size]<;>omega
theorem Es:∀a b,bP (a++b)=bP a+bP b
 | [],b=>by simp[bP]
 | x::a,b=>by simp only[a0L,bP,Es a b];omega
theorem acM:∀l x,bP (put l x)<=bP l+x.size
 | [],x=>by simp[put,bP]
 | y::r,x=>by
   unfold put;split
   .have:=acM r x;simp only[bP];omega
   grind [bP]
def Jj:∀l acc,bP (l.foldl put acc)<=bP acc+bP l
 | [],acc=>by simp[bP]
 | x::r,acc=>by have b:=Jj r (put acc x);have a:=acM acc x;simp only[a1R,bP];omega
theorem ajn:∀l,bP (bN l)<=bP l:=by
 intro l;have key:∀l:List NF,bP (l.filter λx=>!dF x)+(if bf l=0 then 0 else 1)<=bP l:=by
  intro l;induction l with
  | nil=>simp[bf,bP]
  | cons x r b =>
    cases a:dF x with
    | true =>
      have:x.size=1:=by cases x<;>simp[dF]at a;rfl
      simp[List.filter_cons,a,a2O,a0A,a0I,bP];split<;>split at b<;>omega
    | false=>rw[tH,UI a];simp[List.filter_cons,a,a1K,a0G,bP,Nat.zero_or];omega
 have:=key l;unfold bN;rw[Es];split at this
 .grind [bP]
 grind [bP,NF.size]
def Ws(x):bP (parts x)<=x.size:=by cases x<;>simp[parts,bP,NF.size]
def ZA:∀ls:List NF,bP (ls.flatMap parts)<=bP ls
 | []=>by simp[bP]
 | x::r=>by have b:=ZA r;have a:=Ws x;simp only[a1i,Es,bP];omega
def ams(l):(mkS l).size<=bP l+1:=by
 match l with
 | []=>simp[mkS,NF.size,bP]
 | [x]=>simp[mkS,bP]
 | x::y::r=>simp[mkS,NF.size]
def agn(ls):(bQ ls).size<=bP ls+1:=by have b:=ams (gU (bN (ls.flatMap parts)));have a:=Jj (bN (ls.flatMap parts)) [];have d:=ajn (ls.flatMap parts);have c:=ZA ls;unfold bQ;unfold gU at b |-;simp only[bP]at a;omega
def cl(x:NF):Nat:=(elems x).length
theorem Rn(x):0<cl x:=by cases x<;>simp[cl,elems]
def aoz(h:dP x=true):cl x=1:=by cases x<;>simp[dP]at h<;>rfl
def UM:∀a b,wf a->dZ (aG a b)<=max (dZ a+1) (cl a+dZ b)
 | .zero,b,_=>by have:=Rk b;simp only[aG,dZ];omega
 | .one,b,_=>by simp only[aG,cl,elems,a0X];omega
 | .pair c d,b,e=>by
   by_cases hb:aP b=true
   .rw[dA hb];have:=UM d b e.2.1;have:=UM c (aG d b) e.1;have:=aoz e.2.2.1;have:cl (.pair c d)=cl d+1:=rfl;simp[dZ];omega
   rcases fQ hb with rfl|rfl
   .simp[fJ,dZ]
   rw[bF];omega
 | .set s,b,_=>by cases b<;>simp only[aG,dZ,cl,elems,a0X]<;>omega
 | .sum l,b,_=>by cases b<;>simp only[aG,dZ,cl,elems,a0X]<;>omega
 | .star a,b,_=>by cases b<;>simp only[aG,dZ,cl,elems,a0X]<;>omega
def agp:∀a b,wf a->cl (aG a b)<=cl a+cl b
 | .zero,b,_=>by have:=Rn b;simp only[aG,cl,elems,a0X]at *;omega
 | .one,b,_=>by simp only[aG,cl,elems,a0X];omega
 | .pair c d,b,e=>by
   by_cases hb:aP b=true
   .rw[dA hb,aX e.2.2.1 (eP e.2.1 e.2.2.2 hb)];have:=agp d b e.2.1;have:cl (.pair c d)=cl d+1:=rfl;have:cl (.pair c (aG d b))=cl (aG d b)+1:=rfl;omega
   rcases fQ hb with rfl|rfl
   .simp[fJ,cl,Rn]
   rw[bF];omega
 | .set s,b,_=>by cases b<;>simp only[aG,cl,elems,a0X,a0r]<;>omega
 | .sum l,b,_=>by cases b<;>simp only[aG,cl,elems,a0X,a0r]<;>omega
 | .star a,b,_=>by cases b<;>simp only[aG,cl,elems,a0X,a0r]<;>omega
def aoA {l n}(h:∀x∈l,dZ x<=n):J5 l<=n:=by
 induction l with
 | nil=>simp[J5]
 | cons x r a=>have d:=h x (by simp);have c:=a (λy b=>h y (by simp[b]));simp only[J5];omega
def ajo{p}(h:p∈parts x):dZ p<=dZ x:=by
 cases x with
 | zero=>simp[parts]at h
 | sum l=>have:=J6 (show p∈l from h);simp only[dZ];omega
 | _=>simp[parts]at h;subst h;exact a0b _
def ak8(d:∀x∈ls,wf x) {n}(e:1<=n)(h:∀x∈ls,dZ x<=n):dZ (bQ ls)<=n+1:=by
 have a:∀p∈parts (bQ ls),dZ p<=n:=by
  intro p a;rcases jl.1 ((rD d).1 a) with⟨b,_⟩|⟨_,rfl⟩
  .obtain⟨x,c,b⟩:=a1l.1 b;have:=ajo b;have:=h x c;omega
  simpa[dZ] using e
 cases ho:bQ ls with
 | zero=>simp[dZ]
 | sum l=>rw[ho]at a;have:=aoA (l:=l) a;simp only[dZ];omega
 | _=>rw[ho]at a;exact a0h (a _ (List.mem_singleton_self _)) (Nat.le_succ n)
def Nv(x:NF)(n:Nat):Prop:=∀p∈parts x,cl p<=n
theorem Nv.cl {n:Nat}(h:Nv x n)(a:1<=n):cl x<=n:=by
 cases x with
 | zero=>exact a
 | sum l=>exact a
 | _=>exact h _ (by simp[parts])
theorem Nv.mono {n m}(h:Nv x n)(b:n<=m):Nv x m:=λp a=>a0h (h p a) b
theorem Nv.then {a b n m}(f:wf a)(h:Nv a n)(hb:Nv b m)(i:1<=n)(j:1<=m):Nv (aG a b) (n+m):=by
 have o:=h.cl i;have k:=hb.cl j;have g:=agp a b f;intro p e;cases ht:aG a b with
 | zero=>rw[ht]at e;simp[parts]at e
 | sum l =>
   by_cases tb:aP b=true
   .cases a with
    | zero=>simp[aG]at ht
    | one=>have:=hb p (by rw[show aG .one b=b from rfl]at e;omega);omega
    | pair c d=>rw[dA tb,aX f.2.2.1 (eP f.2.1 f.2.2.2 tb)]at ht;simp at ht
    | set s=>rw[aX rfl tb]at ht;simp at ht
    | sum s=>rw[aX rfl tb]at ht;simp at ht
    | star s=>rw[aX rfl tb]at ht;simp at ht
   rcases fQ tb with rfl|rfl
   .grind [fJ]
   rw[bF]at e;have:=h p e;omega
 | one=>rw[ht]at e g;simp[parts]at e;subst e;omega
 | set s=>rw[ht]at e g;simp[parts]at e;subst e;omega
 | pair c d=>rw[ht]at e g;simp[parts]at e;subst e;omega
 | star c=>rw[ht]at e g;simp[parts]at e;subst e;omega
theorem Nv.bQ(c:∀x∈ls,wf x) {n:Nat}(e:1<=n)(h:∀x∈ls,Nv x n):Nv (bQ ls) n:=by
 intro p d;rcases jl.1 ((rD c).1 d) with⟨a,_⟩|⟨_,rfl⟩
 .obtain⟨x,b,a⟩:=a1l.1 a;exact h x b p a
 exact e
structure Bd(x:NF)(p s h:Nat):Prop where
 wc:WC x
 cp:Nv x p
 sz:x.size<=s
 ht:dZ x<=h
theorem Bd.then {a b}(c:Bd a p s h)(hb:Bd b p' s' h')(d:1<=p)(e:1<=p'):Bd (aG a b) (p+p') (s+s'+1) (max (h+1) (p+h')):=by
 refine⟨c.wc.then hb.wc,Nv.then c.wc.1 c.cp hb.cp d e,?_,?_⟩
 .have:=Hq a b;have:=c.sz;have:=hb.sz;omega
 have g:=UM a b c.wc.1;have f:=c.cp.cl d;have:=c.ht;have:=hb.ht;omega
def Bd.or1 {a}(c:Bd a p s h)(f:1<=p):Bd (kY a .one) p (s+2) (h+1):=by
 have e:∀x ∈ [a,NF.one],wf x:=by simp;exact⟨c.wc.1,trivial⟩
 refine⟨c.wc.or .one,Nv.bQ e f ?_,?_,?_⟩
 .intro x b;simp at b;rcases b with rfl|rfl
  .exact c.cp
  intro p' g;simp[parts]at g;subst g;exact f
 .have d:=agn [a,NF.one];simp[bP,NF.size]at d;have:=c.sz;show(bQ [a,.one]).size<=_;omega
 have i:=Rk a;have d:=c.ht;refine ak8 e (by omega) ?_;intro x b;simp at b;rcases b with rfl|rfl
 .omega
 simp[dZ];omega
theorem Bd.mono(a:Bd x p s h)(c:p<=p')(b:s<=s')(hh:h<=h'):Bd x p' s' h' :=
 ⟨a.wc,a.cp.mono c,a0h a.sz b,a0h a.ht hh⟩
theorem Ro {a}(c:Bd a p s h)(b:1<=p):∀k {t q s' h'},Bd t q s' h'->1<=q->h+1<=h'->Bd (eQ a k t) (k*p+q) (k*(s+1)+s') (k*p+h')
 | 0,t,q,s',h',ht,_,_=>by simpa[eQ] using ht
 | k+1,t,q,s',h',ht,hq,hh=>by
   have d:=Ro c b k (c.then ht b hq) (by omega) (show h+1<=max (h+1) (p+h') by omega);refine d.mono ?_ ?_ ?_
   .rw[a0J];omega
   .grind
   rw[a0J k 1 p];omega
theorem agq {a}(c:Bd a p s h)(b:1<=p):∀k {t q s' h'},Bd t q s' h'->1<=q->h+1<=h'->Bd (dG a k t) (k*p+q) (k*(s+3)+s') (k*(p+1)+h')
 | 0,t,q,s',h',ht,_,_=>by simpa[dG] using ht
 | k+1,t,q,s',h',ht,hq,hh=>by
   have d:=agq c b k ((c.then ht b hq).or1 (by omega)) (by omega) (show h+1<=max (h+1) (p+h')+1 by omega);refine d.mono ?_ ?_ ?_
   .rw[a0J];omega
   .grind
   grind
theorem aeX:kY .one .one=.one:=by simp[kY,bQ,parts,bN,dF,bf,bits,gU,put,mkS,name,blt]
theorem acN:∀k,dG .one k .one=.one
 | 0=>rfl
 | k+1=>by show dG .one k (kY (aG .one .one) .one)=.one;rw[show aG .one .one=.one from rfl,aeX];exact acN k
theorem UN:∀k t,eQ .one k t=t
 | 0,t=>rfl
 | k+1,t=>UN k t
def acO(lo a):kD .one lo a=.one:=by
 cases a with
 | none=>simp[kD,UN];rfl
 | some n=>simp[kD,UN,acN]
def vU(lo a):1<=iV lo a:=by cases a<;>simp only[iV]<;>split<;>omega
mutual
theorem J9:∀{e:RX},1<=mh e->1<=jX e
 | .one _,_=>a0b _
 | .seq l,h=>My (show 1<=iO l from h)
 | .alt l,h=>by have:=My (show 1<=iO l from h);simp only[jX];omega
 | .rep x lo a,h=>by have:=vU lo a;simp only[jX];omega
theorem My:∀{l:List RX},1<=iO l->1<=gu l
 | [],h=>by simp[iO]at h
 | x::r,h=>by
   simp only[iO]at h;simp only[gu];by_cases a:1<=mh x
   .have:=J9 a;omega
   have:=My (l:=r) (by omega);omega
end
def Et(x:NF)(p t:Nat):Prop:=WC x/\(p=0->x=.one)/\(1<=p->Bd x p (2*p*(t+1)) (2*p+2*t))
theorem arN {a b t q u}(c:Et a p t)(hb:Et b q u)(ht:1<=p->1<=t)(j:1<=q->1<=u):Et (aG a b) (p+q) (t+u):=by
 refine⟨c.1.then hb.1,?_,?_⟩
 .intro h;rw[c.2.1 (by omega),hb.2.1 (by omega)];rfl
 intro h;have mono:∀(x:NF) (p' d:Nat),1<=p'->p'<=p+q->d<=t+u->Bd x p' (2*p'*(d+1)) (2*p'+2*d)->Bd x (p+q) (2*(p+q)*(t+u+1)) (2*(p+q)+2*(t+u)):=by intro x p' d i g f hb;exact hb.mono g (a0D (by omega) (by omega)) (by omega)
 by_cases k:p=0
 .rw[c.2.1 k];exact mono b q u (by omega) (by omega) (by omega) (hb.2.2 (by omega))
 by_cases hq:q=0
 .rw[hb.2.1 hq,bF];exact mono a p t (by omega) (by omega) (by omega) (c.2.2 (by omega))
 have i:=(c.2.2 (by omega)).then (hb.2.2 (by omega)) (by omega) (by omega);have f:=j (by omega);refine i.mono (a0b _) ?_ (by omega);have e:2*(p+q)*(t+u+1)=2*p*(t+1)+2*q*(u+1)+2*(p*u)+2*(q*t):=by grind
 have l:1<=p*u:=Nat.mul_pos (by omega) f;omega
theorem aeY {a t}(g:Et a p t)(ht:1<=p->1<=t)(lo c)(hh:∀n,c=some n->lo<=n):Et (kD a lo c) (p*times lo c) (t+iV lo c):=by
 have l:=agm g.1 lo c;refine⟨l,?_,?_⟩
 .intro h;rcases Nat.mul_eq_zero.1 h with h|h
  .rw[g.2.1 h];exact acO lo c
  cases c with
  | none=>simp[times]at h
  | some n =>
    simp only[times]at h;subst h;have:lo=0:=by have:=hh 0 rfl;omega
    subst this;rfl
 intro h;have b:1<=p:=by grind
 have hb:=g.2.2 b;cases c with
 | none =>
   have r:Bd (iH a) p (2*p*(t+1)+1) (2*p+2*t+1):=by
    refine⟨g.1.star,?_,?_,?_⟩
    .intro q hq;cases a<;>simp[iH,parts]at hq<;>subst hq<;>exact b
    .have:=hb.sz;cases a<;>simp only[iH,NF.size]at this |-<;>omega
    have:=hb.ht;cases a<;>simp only[iH,dZ]at this |-<;>omega
   have j:=Ro hb b lo r b (by omega);have ho:1<=iV lo none:=vU lo none;refine j.mono ?_ ?_ ?_
   .grind [times,Nat.mul_add,Nat.mul_comm]
   .simp only[times];have:2*(p*(lo+1))*(t+iV lo none+1)=2*p*(t+1)*(lo+1)+2*p*iV lo none*(lo+1):=by grind
    have:lo+1<=2*p*iV lo none*(lo+1):=a1q _ (Nat.mul_pos (by omega) (by omega));have:lo*(2*p*(t+1)+1)+(2*p*(t+1)+1)=2*p*(t+1)*(lo+1)+(lo+1):=by grind
    omega
   simp only[times];have:p*(lo+1)=lo*p+p:=by rw[a1A,a1H,a1b]
   omega
 | some n =>
   simp only[times]at h |-;have:1<=n:=by grind
   have:=hh n rfl;by_cases f:lo=0/\n=1
   .obtain⟨rfl,rfl⟩:=f;have e:kD a 0 (some 1)=kY a .one:=by show kY (aG a .one) .one=_;rw[bF]
    rw[e];refine(hb.or1 b).mono (by omega) ?_ ?_
    .grind [iV]
    grind [iV]
   have ho:iV lo (some n)=3:=by simp only[iV];rw[a0n f]
   rw[ho];have:2*(p*n)*(t+3+1)=n*(2*p*(t+1))+6*(p*n):=by grind
   have:n<=p*n:=a1q _ (by omega);by_cases B:lo<n
   ·
    have k:dG a (n-lo) .one=dG a (n-lo-1) (kY a .one):=by obtain⟨m,d⟩:∃m,n-lo=m+1:=⟨n-lo-1,by omega⟩;rw[d];show dG a m (kY (aG a .one) .one)=_;rw[bF];rfl
    have j:=agq hb b (n-lo-1) (hb.or1 b) b (a0b _);rw[<-k]at j;have i:=Ro hb b lo j (by omega) (by omega);obtain⟨m,d⟩:∃m,n=lo+m+1:=⟨n-lo-1,by omega⟩;subst d;rw[show lo+m+1-lo-1=m by omega]at i;refine i.mono ?_ ?_ ?_
    .grind
    .grind
    have:p*(lo+m+1)=lo*p+m*p+p:=by rw[a1A,a1A,a1H,a1b p lo,a1b p m]
    have:m*(p+1)=m*p+m:=by rw[a1A,a1H]
    have:m<=m*p:=a2r _ (by omega);omega
   have o:lo=n:=by omega
   subst o;obtain⟨m,d⟩:∃m,lo=m+1:=⟨lo-1,by omega⟩;subst d;have k:kD a (m+1) (some (m+1))=eQ a m a:=by simp[kD,dG,eQ,aG,bF]
   rw[k];have i:=Ro hb b m (hb.mono (a0b _) (a0b _) (Nat.le_succ _)) b (a0b _);refine i.mono ?_ ?_ ?_
   .grind
   .grind
   grind
theorem aoB(h:∀x∈ls,x=.one)(d:ls≠[]):bQ ls=.one:=by
 have c:bQ ls=bQ [.one]:=by
  refine vT (λx b=>by rw[h x b];trivial) (by simp;trivial) ?_;intro p;constructor
  .grind
  intro a;obtain⟨x,r,rfl⟩:∃x r,ls=x::r:=by cases ls with | nil=>contradiction|cons x r=>exact⟨x,r,rfl⟩
  rw[h x (by simp)];simp at a |-;exact .inl a
 rw[c];exact acG trivial (by simp)
def zc:List RX->Nat
 | []=>0
 | x::r=>(if mh x=0 then 1 else 0)+zc r
theorem aoC:∀l,zc l<=l.length/\(iO l≠0->zc l+1<=l.length)
 | []=>⟨by simp[zc],λh=>by simp[iO]at h⟩
 | x::r=>by
   have h:=aoC r;have b:iO (x::r)=mh x+iO r:=rfl;have a:zc (x::r)=(if mh x=0 then 1 else 0)+zc r:=rfl;rw[b,a,a0r];by_cases c:mh x=0
   .grind
   grind
theorem acP:∀{l:List RX},(∀e∈l,Et (bn e) (mh e) (jX e))->bP (iP l)<=2*iO l*(gu l+1)+zc l
 | [],_=>by simp[iP,bP]
 | x::r,h=>by
   have d:=acP (l:=r) (λe he=>h e (by simp[he]));have b:=h x (by simp);simp only[iP,bP,iO,gu,zc];by_cases a:mh x=0
   .rw[a0m a,b.2.1 a,a];simp[NF.size,a1n];have:2*iO r*(gu r+1)<=2*iO r*(jX x+gu r+1):=a0o _ (by omega);omega
   rw[a0n a];have c:=(b.2.2 (by omega)).sz;have e:2*(mh x+iO r)*(jX x+gu r+1)=2*mh x*(jX x+1)+2*iO r*(gu r+1)+2*(mh x*gu r)+2*(iO r*jX x):=by grind
   omega
def Bu:∀{l e},e∈l->mh e<=iO l/\jX e<=gu l
 | x::r,e,h=>by
   simp only[iO,gu];rcases a0l.1 h with h|h
   .subst h;omega
   have:=Bu h;omega
def arO {l:List RX}(h:∀e∈l,Et (bn e) (mh e) (jX e))(m:l≠[]):Et (bQ (iP l)) (iO l) (gu l+(l.length-1)):=by
 have b:∀x∈iP l,∃e∈l,bn e=x:=by intro x a;rw[uB]at a;obtain⟨e,he,rfl⟩:=a0q.1 a;exact⟨e,he,rfl⟩
 have d:∀x∈iP l,WC x:=by intro x a;obtain⟨e,he,rfl⟩:=b x a;exact(h e he).1
 have f:∀x∈iP l,wf x:=λx a=>(d x a).1
 match l,m,h with
 | [x],_,h=>have a:=h x (by simp);have e:bQ (iP [x])=bn x:=Pv a.1.1 a.1.2;rw[e];simp only[iO,gu,a1Q,a0X,a2v];exact a
 | x::y::r,_,h =>
   generalize j:x::y::r=l at *;have:2<=l.length:=by rw[<-j];simp
   refine⟨WC.bQ d,?_,?_⟩
   .intro c;refine aoB ?_ (by rw[<-j];simp[iP]);intro z hz;obtain⟨e,he,rfl⟩:=b z hz;have:=Bu he;exact(h e he).2.1 (by omega)
   intro k;have hz:=(aoC l).2 (by omega);refine⟨WC.bQ d,Nv.bQ f k ?_,?_,?_⟩
   .intro z hz;obtain⟨e,he,rfl⟩:=b z hz;have i:=Bu he;by_cases c:mh e=0
    .rw[(h e he).2.1 c];intro p g;simp[parts]at g;subst g;exact k
    exact((h e he).2.2 (by omega)).cp.mono i.1
   .have:=agn (iP l);have:=acP h;have:2*iO l*(gu l+(l.length-1)+1)=2*iO l*(gu l+1)+2*iO l*(l.length-1):=by rw[<-a1A];congr 1;omega
    have:2*(l.length-1)<=2*iO l*(l.length-1):=a0z _ (by omega);omega
   have:=ak8 f (n:=2*iO l+2*gu l) (by omega) (by
    intro z hz;obtain⟨e,he,rfl⟩:=b z hz;have:=Bu he;by_cases c:mh e=0
    .rw[(h e he).2.1 c];simp only[dZ];omega
    have:=((h e he).2.2 (by omega)).ht;omega)
   omega
mutual
theorem rF:∀{e:RX},tL e->Et (bn e) (mh e) (jX e)
 | .one s,h=>by
   refine⟨uC h,λh=>by simp[mh]at h,λ_=>⟨uC h,?_,?_,?_⟩⟩
   .simp only[bn];split<;>(intro p a;simp[parts]at a);subst a;exact a0b _
   .simp only[bn];split<;>simp[NF.size,mh,jX]
   simp only[bn];split<;>simp[dZ,mh,jX]
 | .seq l,h=>acQ (show jm l from h)
 | .alt l,h=>arO (acR (show jm l from h.1)) h.2
 | .rep x lo b,h=>aeY (rF (show tL x from h.1)) J9 lo b h.2
theorem acQ:∀{l:List RX},jm l->Et (sJ l) (iO l) (gu l)
 | [],_=>⟨.one,λ_=>rfl,λh=>by simp[iO]at h⟩
 | x::r,h=>arN (rF h.1) (acQ h.2) J9 My
theorem acR:∀{l:List RX},jm l->∀e∈l,Et (bn e) (mh e) (jX e)
 | [],_,e,he=>by simp at he
 | x::r,h,e,he=>by
   rcases a0l.1 he with a|a
   .rw[a];exact rF h.1
   exact acR h.2 e a
end
def Px {e}(h:tL e)(g:mh e<=40)(ht:jX e<=40):(bn e).size*dZ (bn e)<=524800:=by
 have hb:=rF h;by_cases f:mh e=0
 .rw[hb.2.1 f];decide
 have a:=hb.2.2 (by omega);have d:2*mh e*(jX e+1)<=80*41:=a0D (by omega) (by omega);have c:=a0h a.sz d;have b:dZ (bn e)<=160:=a0h a.ht (by omega);exact a0h (a0D c b) (by decide)
def bA(c:UInt8):LB->Bool
 | []=>false
 | x::_=>x==c
def DI(c:UInt8):Bool:=c==42||c==43||c==63||c==123
def di:LB->Option (Nat × LB)
 | []=>none
 | c::r=>if 48<=c&&c<=57 then some (c.toNat-48,r) else none
def dL(t:LB):Option ((Nat × Option Nat) × LB) :=
 match di t with
 | none=>none
 | some (lo,r) =>
   if bA 44 r then
    match di r.tail with
    | some (n,a)=>if bA 125 a&&decide (lo<=n) then some ((lo,some n),a.tail) else none
    | none=>if bA 125 r.tail then some ((lo,none),r.tail.tail) else none
   else if bA 125 r then some ((lo,some lo),r.tail) else none
def DJ:LB->Option ((Nat × Option Nat) × LB)
 | []=>none
 | c::r=>if c==42 then some ((0,none),r) else if c==43 then some ((1,none),r) else if c==63 then some ((0,some 1),r) else if c==123 then dL r else none
def DK:LB->Bool
 | []=>false
 | c::_=>DI c
def dQ:Nat->RX->LB->Option (RX × LB)
 | 0,_,_=>none
 | k+1,x,t=>if DK t then (match DJ t with | none=>none|some (b,r)=>dQ k (.rep x b.1 b.2) r) else some (x,t)
def lh:LB->Option (UInt8 × LB)
 | []=>none
 | c::r=>if c==92 then (match r with | []=>none|d::r2=>some (d,r2)) else if c==93||c==91||c==45 then none else some (c,r)
def tN(t:LB):Option ((UInt8 × UInt8) × LB) :=
 match lh t with
 | none=>none
 | some (a,r)=>if bA 45 r then (match lh r.tail with | none=>none|some (b,r2)=>if a<=b then some ((a,b),r2) else none) else some ((a,a),r)
def vg(s f:Nat):Nat->Nat
 | 0=>s
 | k+1=>vg s f k ||| 2 ^ (f+k)
def addRange(s:Nat)(a b:UInt8):Nat:=vg s a.toNat (b.toNat+1-a.toNat)
def fE:Nat->Nat->LB->Option (Nat × LB)
 | 0,_,_=>none
 | k+1,s,t =>
   match tN t with
   | none=>none
   | some ((a,b),r)=>if bA 93 r then some (addRange s a b,r.tail) else fE k (addRange s a b) r
def fU:Nat:=2 ^ 256-1
def nT(t:LB):Option (Nat × LB) :=
 if bA 94 t then (match fE (t.length+1) 0 t.tail with | none=>none|some (s,r)=>some (s ^^^ fU,r))
 else fE (t.length+1) 0 t
def iI(c:UInt8):Bool:=c==41||c==124||c==42||c==43||c==63||c==123||c==125||c==93
def tQ(t:LB):Bool:=t.isEmpty||bA 124 t||bA 41 t
mutual
def ik:Nat->Nat->LB->Option (RX × LB)
 | 0,_,_=>none
 | k+1,nest,t =>
   match t with
   | []=>none
   | c::r =>
     if c==40 then (if 5<=nest then none else match iQ k (nest+1) [] r with | none=>none|some (x,r2)=>if bA 41 r2 then some (x,r2.tail) else none)
     else if c==91 then (match nT r with | none=>none|some (s,r2)=>some (.one s,r2))
     else if c==46 then some (.one fU,r)
     else if c==92 then (match r with | []=>none|d::r2=>some (.one (2 ^ d.toNat),r2))
     else if iI c then none
     else some (.one (2 ^ c.toNat),r)
def jF:Nat->Nat->List RX->LB->Option (RX × LB)
 | 0,_,_,_=>none
 | k+1,nest,acc,t =>
   if tQ t then some (.seq acc,t)
   else match ik k nest t with
    | none=>none
    | some (x,r)=>match dQ (r.length+1) x r with
      | none=>none
      | some (y,a)=>jF k nest (acc++[y]) a
def iQ:Nat->Nat->List RX->LB->Option (RX × LB)
 | 0,_,_,_=>none
 | k+1,nest,acc,t =>
   match jF k nest [] t with
   | none=>none
   | some (x,r)=>if bA 124 r then iQ k nest (acc++[x]) r.tail else some (.alt (acc++[x]),r)
end
def fF(t:LB):Option RX :=
 match iQ (4*t.length+4) 0 [] t with
 | some (x,[])=>some x
 | _=>none
def jg {c}(h:bA c t=true):t.tail.length+1=t.length:=by cases t<;>simp[bA]at h |-
def aeV {n}(h:di t=some (n,r)):r.length+1=t.length/\n<=9:=by
 cases t with
 | nil=>simp[di]at h
 | cons c q =>
   simp only[di]at h;split at h
   .rename_i a;simp only[Option.some.injEq,Prod.mk.injEq]at h;obtain⟨rfl,rfl⟩:=h;simp only[a0O,a0U]at a;have:c.toNat<=57:=by have:=a1p.1 a.2;simpa using this
    simp;omega
   simp at h
theorem Rp {lo a}(h:dL t=some ((lo,a),r)):r.length+2<=t.length/\(∀n,a=some n->lo<=n):=by
 unfold dL at h;split at h
 .simp at h
 rename_i b r' hd;have:=aeV hd;split at h
 .rename_i e;have:=jg e;split at h
  .rename_i n f c;have:=aeV c;split at h
   .grind
   simp at h
  grind
 split at h
 .rename_i hb;have:=jg hb;simp only[Option.some.injEq,Prod.mk.injEq]at h;obtain⟨⟨rfl,rfl⟩,rfl⟩:=h;refine⟨by omega,?_⟩;intro m d;simp at d;omega
 simp at h
theorem E9 {b}(h:DJ t=some (b,r)):r.length+iV b.1 b.2<=t.length/\(∀n,b.2=some n->b.1<=n):=by
 cases t with
 | nil=>simp[DJ]at h
 | cons c q =>
   simp[DJ]at h;split at h
   .grind [iV]
   split at h
   .grind [iV]
   split at h
   .grind [iV]
   split at h
   .obtain⟨lo,a⟩:=b;have d:=Rp h;have e:iV lo a<=3:=by cases a<;>simp only[iV]<;>split<;>omega
    exact⟨by simp;omega,d.2⟩
   simp at h
theorem Wt:∀{k x y t r},tL x->dQ k x t=some (y,r)->tL y/\jX y+r.length<=jX x+t.length
 | 0,x,y,t,r,_,h=>by simp[dQ]at h
 | k+1,x,y,t,r,c,h=>by
   simp only[dQ]at h;split at h
   .split at h
    .simp at h
    rename_i b r' hb;have d:=E9 hb;have a:=Wt (k:=k) (show tL (.rep x b.1 b.2) from ⟨c,d.2⟩) h;simp only[jX]at a;exact⟨a.1,by omega⟩
   grind
theorem Wu {c}(h:lh t=some (c,r)):r.length+1<=t.length:=by
 cases t with
 | nil=>simp[lh]at h
 | cons d q =>
   simp only[lh]at h;split at h
   .grind
   grind
theorem BZ {ab:UInt8 × UInt8}(h:tN t=some (ab,r)):r.length+1<=t.length:=by
 unfold tN at h;split at h
 .simp at h
 rename_i a g e;have:=Wu e;split at h
 .rename_i c;have:=jg c;split at h
  .simp at h
  rename_i b f d;have:=Wu d;split at h
  .grind
  simp at h
 grind
def Wv{f}(a:s<2 ^ 256):∀k,f+k<=256->vg s f k<2 ^ 256
 | 0,_=>a
 | k+1,h=>Nat.or_lt_two_pow (Wv a k (by omega)) (a3e (by omega) (by omega))
def Rq(c:s<2 ^ 256)(a b):addRange s a b<2 ^ 256:=by
 have:=a.toNat_lt;have:=b.toNat_lt;by_cases h:a.toNat<=b.toNat
 .exact Wv c _ (by omega)
 unfold addRange;rw[show b.toNat+1-a.toNat=0 by omega];exact c
theorem Ka:∀{k s s' t r},s<2 ^ 256->fE k s t=some (s',r)->s'<2 ^ 256/\r.length+1<=t.length
 | 0,s,s',t,r,_,h=>by simp[fE]at h
 | k+1,s,s',t,r,c,h=>by
   simp only[fE]at h;split at h
   .simp at h
   rename_i a b f d;have g:=BZ d;have e:=Rq c a b;split at h
   .grind
   have:=Ka e h;omega
def Kb(h:nT t=some (s,r)):s<2 ^ 256/\r.length+1<=t.length:=by
 unfold nT at h;split at h
 .rename_i a;have e:=jg a;split at h
  .simp at h
  rename_i s1 c b;have:=Ka (by decide) b;simp at h;obtain⟨rfl,rfl⟩:=h;exact⟨Nat.xor_lt_two_pow this.1 (by decide),by omega⟩
 exact Ka (by decide) h
theorem Bv:∀{a b},jm (a++b)↔jm a/\jm b
 | [],b=>by simp[jm]
 | x::a,b=>by simp[jm,Bv (a:=a),and_assoc]
theorem Bw:∀{a b},gu (a++b)=gu a+gu b
 | [],b=>by simp[gu]
 | x::a,b=>by simp[gu,Bw (a:=a)];omega
mutual
theorem ajp:∀{k nest:Nat} {t r:LB} {x:RX},ik k nest t=some (x,r)->tL x/\jX x+r.length<=t.length
 | 0,nest,t,r,x,h=>by simp[ik]at h
 | k+1,nest,[],r,x,h=>by simp[ik]at h
 | k+1,nest,c::q,r,x,h=>by
   simp only[ik]at h;split at h
   .split at h
    .simp at h
    split at h
    .simp at h
    rename_i g b a;have e:=UQ (acc:=[]) (by simp[jm]) a;split at h
    .rename_i f;have j:=jg f;simp at h;obtain⟨rfl,rfl⟩:=h;simp[gu]at e;exact⟨e.1,by simp;omega⟩
    simp at h
   split at h
   .split at h
    .simp at h
    rename_i s b a;have e:=Kb a;simp at h;obtain⟨rfl,rfl⟩:=h;exact⟨e.1,by simp[jX];omega⟩
   split at h
   .simp at h;obtain⟨rfl,rfl⟩:=h;exact⟨by simp only[tL,fU];decide,by simp[jX];omega⟩
   split at h
   .cases q with
    | nil=>simp at h
    | cons d i=>simp at h;obtain⟨rfl,rfl⟩:=h;have:=d.toNat_lt;exact⟨a3e (by omega) (by omega),by simp[jX];omega⟩
   split at h
   .simp at h
   simp at h;obtain⟨rfl,rfl⟩:=h;have:=c.toNat_lt;exact⟨a3e (by omega) (by omega),by simp[jX];omega⟩
theorem acS:∀{k nest:Nat} {acc:List RX} {t r:LB} {x:RX},jm acc->jF k nest acc t=some (x,r)->tL x/\jX x+r.length<=gu acc+t.length
 | 0,nest,acc,t,r,x,_,h=>by simp[jF]at h
 | k+1,nest,acc,t,r,x,b,h=>by
   simp only[jF]at h;split at h
   .simp at h;obtain⟨rfl,rfl⟩:=h;exact⟨b,by simp[jX]⟩
   split at h
   .simp at h
   rename_i g j d;have f:=ajp d;split at h
   .simp at h
   rename_i y i c;have e:=Wt f.1 c;have a:=acS (acc:=acc++[y]) (Bv.2 ⟨b,e.1,trivial⟩) h;rw[Bw]at a;simp only[gu]at a;exact⟨a.1,by omega⟩
theorem UQ:∀{k nest:Nat} {acc:List RX} {t r:LB} {x:RX},jm acc->iQ k nest acc t=some (x,r)->tL x/\jX x+r.length<=gu acc+acc.length+t.length
 | 0,nest,acc,t,r,x,_,h=>by simp[iQ]at h
 | k+1,nest,acc,t,r,x,c,h=>by
   simp only[iQ]at h;split at h
   .simp at h
   rename_i d g f;have b:=acS (acc:=[]) trivial f;simp only[gu]at b;split at h
   .rename_i e;have i:=jg e;have a:=UQ (acc:=acc++[d]) (Bv.2 ⟨c,b.1,trivial⟩) h;rw[Bw]at a;simp only[gu,a0p,a0X]at a;exact⟨a.1,by omega⟩
   simp at h;obtain⟨rfl,rfl⟩:=h;refine⟨⟨Bv.2 ⟨c,b.1,trivial⟩,by simp⟩,?_⟩;simp only[jX,Bw,gu,a0p,a0X];omega
end
theorem mQ {x}(h:fF t=some x):tL x/\jX x<=t.length:=by
 unfold fF at h;split at h
 .rename_i y a;simp at h;subst h;have:=UQ (acc:=[]) trivial a;simp[gu]at this;omega
 simp at h
def QP(w:World)(b:Nat)(t:LB)(ok:Bool):Prop :=
 w.heap[b]?=some (.cells #[zT t,.bool ok] 163 (0,0))/\t.length<=1048576
theorem QP.c0 {b ok}(h:QP w b t ok):zC w b 0 (zT t):=by simp[World.cell?,h.1]
theorem QP.c1 {b ok}(h:QP w b t ok):zC w b 1 (.bool ok):=by simp[World.cell?,h.1]
theorem QP.fz {b ok}(h:QP w b t ok)(o):w.frozen? (zB b o)=false:=by simp[World.frozen?,h.1]
theorem QP.lt {b ok}(h:QP w b t ok):b<w.heap.size :=
 (a0c.1 h.1).1
theorem QP.aC {b ok}(h:QP w b t ok)(f:aB S w w')(a:b∉S):QP w' b t ok :=
 ⟨(f.block b h.lt a).trans h.1,h.2⟩
theorem QP.off {b ok}(h:QP w b t ok):QP (w.setCell (zB b 1) (.bool false)) b t false:=by refine⟨?_,h.2⟩;simp[World.setCell,a0v,h.1]
theorem QP.go {b:Nat} {ok:Bool}(h:QP w b t ok)(r:LB)(a:r.length<=t.length):QP (w.setCell (zA b) (zT r)) b r ok:=by refine⟨?_,a0h a h.2⟩;simp[World.setCell,a0v,h.1]
def gT:LB->Nat
 | []=>0
 | c::_=>c.toNat
def vV(b t ok w)(h:QP w b t ok) :
 zF 83 #[zP b] w λe w'=>e=zQ #[.int .u8 (gT t),.bool (!t.isEmpty)]/\w=w':=by
 have:=h.c0;have a:=h.2;have d:=bL t;cases t with
 | nil =>
   have:bs []=⟨#[]⟩:=rfl;delta zF;go_in;go_wp2;go_ret2;exact⟨rfl,rfl⟩
 | cons c r =>
   have:(bs (c::r))[0]'(by rw[bL];simp)=c:=rfl;simp only[a0r]at d a;delta zF;go_in;go_wp2;go_ret2;exact⟨rfl,rfl⟩
def jY(b t ok w)(h:QP w b t ok) :
 zF 84 #[zP b] w λe w'=>e=zR (.int .u8 (gT t))/\QP w' b t.tail (ok&&!t.isEmpty)/\aB [b] w w':=by
 have:=h.c0;have:=h.c1;have:=h.fz 0;have:=h.fz 1;have a:=h.2;have d:=bL t;cases t with
 | nil =>
   have H:=h.off;clear h;delta zF;go_in;go_wp2;go_ret;refine⟨rfl,?_,zK.setCell (.inl (by simp)) _⟩;simp[List.isEmpty_nil,a2O,Bool.and_false,List.tail_nil];exact H
 | cons c r =>
   have H:=h.go r (by simp);have he:=tF (c::r) 1 (r.length+1);have hd:((c::r).take (r.length+1)).drop 1=r:=by simp
   rw[hd]at he;clear hd;have:(bs (c::r))[0]'(by rw[bL];simp)=c:=rfl;simp[a0r]at d a;clear h;delta zF;go_in;go_wp2;go_ret;refine⟨rfl,?_,zK.setCell (.inl (by simp)) _⟩;simp only[a1I,a1K,a2x,a1L];exact H
def nv(k:IntKind)(L:LN):List Value:=L.map λ(n:Nat)=>.int k n
def ZB:(Tryz.prog.info? 3).map (λi=>(i.zero,i.size,i.bytes))=some (some (zI 0),1,8):=by kernel_rfl
theorem bD(w:World)(a):(w.alloc a).heap[w.heap.size]?=some a:=heap_alloc_new w a
def AB(w:World)(ab:Nat)(n:Int)(cl:LN)(va vn:Value):Prop :=
 w.heap[ab]?=some (.cells (zI n::(nv .u8 cl++[va,vn])).toArray 100 (0,0))/\cl.length=256
theorem AB.lt {n cl}(h:AB w ab n cl va vn):ab<w.heap.size:=(a0c.1 h.1).1
theorem AB.fz {n cl}(h:AB w ab n cl va vn)(o):w.frozen? (zB ab o)=false:=by simp[World.frozen?,h.1]
theorem AB.aC {n cl}(h:AB w ab n cl va vn)(f:aB S w w')(a:ab∉S):AB w' ab n cl va vn:=⟨(f.block ab h.lt a).trans h.1,h.2⟩
theorem AB.c0 {n cl}(h:AB w ab n cl va vn):zC w ab 0 (zI n):=by simp[World.cell?,h.1]
theorem AB.cell {n cl}(h:AB w ab n cl va vn)(c)(a:c<256):zC w ab (1+c) (.int .u8 (cl.getD c 0)):=by
 have b:c<cl.length:=by rw[h.2];omega
 have e:(zI n::(nv .u8 cl++[va,vn]))[1+c]?=some (.int .u8 (cl.getD c 0)):=by grind [nv]
 simp[World.cell?,h.1];simpa using e
theorem AB.set {n cl}(h:AB w ab n cl va vn)(c m:Nat)(a:c<256):AB (w.setCell (zB ab (1+c)) (.int .u8 m)) ab n (cl.set c m) va vn:=by
 refine⟨?_,by rw[a3p];exact h.2⟩;have d:c<cl.length:=by rw[h.2];omega
 have e:(zI n::(nv .u8 cl++[va,vn])).set (1+c) (.int .u8 m)=zI n::(nv .u8 (cl.set c m)++[va,vn]):=by grind [nv,Nat.add_comm,List.set_append_left,List.map_set]
 simp only[World.setCell,a0v,h.1,a0G,a1x];rw[<-e];simp
def AB.set0 {n:Int} {cl:LN}(h:AB w ab n cl va vn)(m:Int):AB (w.setCell (zA ab) (zI m)) ab m cl va vn:=by refine⟨?_,h.2⟩;simp only[World.setCell,a0v,h.1,a0G,a1x];simp
theorem AB.Ke {n cl}(h:AB w ab n cl va vn)(v):AB (w.setCell (zB ab 258) v) ab n cl va v:=by
 refine⟨?_,h.2⟩;have e:(zI n::(nv .u8 cl++[va,vn])).set 258 v=zI n::(nv .u8 cl++[va,v]):=by rw[a1S,a1v _ _ (by simp[nv,h.2])];simp[nv,h.2]
 simp only[World.setCell,a0v,h.1,a0G,a1x];rw[<-e];simp
def AB.agr {n cl}(h:AB w ab n cl va vn)(v):AB (w.setCell (zB ab 257) v) ab n cl v vn:=by
 refine⟨?_,h.2⟩;have e:(zI n::(nv .u8 cl++[va,vn])).set 257 v=zI n::(nv .u8 cl++[v,vn]):=by rw[a1S,a1v _ _ (by simp[nv,h.2])];simp[nv,h.2]
 simp only[World.setCell,a0v,h.1,a0G,a1x];rw[<-e];simp
theorem AB.cN {n cl}(h:AB w ab n cl va vn):w.cell? ⟨ab,257,none⟩=some va/\w.cell? ⟨ab,258,none⟩=some vn:=by
 have b:(.int .i64 n::(nv .u8 cl++[va,vn]))[257]?=some va:=by rw[a1m,a0K (by simp[nv,h.2])];simp[nv,h.2]
 have a:(.int .i64 n::(nv .u8 cl++[va,vn]))[258]?=some vn:=by rw[a1m,a0K (by simp[nv,h.2])];simp[nv,h.2]
 simp only[World.cell?,h.1];exact⟨by simpa using b,by simpa using a⟩
def H8:(Tryz.prog.info? 100).map (·.size)=some 259:=by kernel_rfl
theorem ajq:Tryz.zeroCells100=(Value.int .i64 0::(nv .u8 (List.replicate 256 0)++[zN,zN])).toArray:=by kernel_rfl
theorem jZ:Tryz.zeroCells100.size=259:=by kernel_rfl
def xH:Tryz.zeroCells100.all (·.oneCell')=true:=by kernel_rfl
def AB.new(w:World):AB (w.alloc (Obj.cells Tryz.zeroCells100 100)) w.heap.size 0 (List.replicate 256 0) zN zN:=by refine⟨?_,List.length_replicate⟩;rw[ajq];exact bD _ _
def bS {fn p u ty}(h:fn.results=#[.cell p ty,.tmp u])(tmps w g cs)
 (a:tmps.getD p undef=zP g) (b:(loadVar ty (zA g)).run Tryz.prog w=.ok (.agg cs) w) :
 (results fn tmps).run Tryz.prog w=.ok (.tuple #[.agg cs,tmps.getD u undef]) w:=by
 have c:tmps[p]?.getD undef=zP g:=by simpa using a
 simp[results,h,c,asAddr,b]
def rY {t:TypeId} {cs:Array Value} {fr:Nat × Nat}(b:w.heap[g]?=some (.cells cs t fr))(a:cs.size=259):(loadVar 100 (zA g)).run Tryz.prog w=.ok (.agg cs) w :=
 run_loadVar_row w g t 100 cs fr _ b Tryz.underlying100 rfl (by rw[a];exact H8)
theorem aB.setRow(w g cs):aB [g] w (w.setRow g cs):=by refine⟨rfl,rfl,rfl,by simp[World.setRow],λk b a=>?_⟩;simp at a;simp only[World.setRow,a0v];rw[a0n (λe=>a e.symm)]
theorem vW{cs:Array Value} {t:TypeId}(h:w.heap[g]?=some (.cells old t (0,0))):(w.setRow g cs).heap[g]?=some (.cells cs t (0,0)):=by simp only[World.setRow,a0v,h,a0G,a1x]
def vX{cs:Array Value} {t:TypeId}(h:w.heap[g]?=some (.cells old t (0,0)))(c:cs.size=old.size)(b:cs.all (·.oneCell')=true):(storeCells (zA g) cs.toList).run Tryz.prog w=.ok () (w.setRow g cs):=by have:=run_storeCells_from (P:=Tryz.prog) g t cs.toList 0 old w h (by simp;omega) (λv a=>(a2g.1 b) v (by simpa using a));simpa using this
def acT:(Tryz.prog.info? 4).map (λi=>(i.zero,i.size,i.bytes))=some (some (.bool false),1,1):=by kernel_rfl
theorem H9 {o:Oper} {a} {K:Act->World->Prop} {Q:Exit->Act->World->Prop}(x)(ho:o.op=.load 100 x)(g)(b:a.eval x=.pointer (some ⟨g,0,none⟩))(cs)(c:(loadVar 100 ⟨g,0,none⟩).run Tryz.prog w=.ok (.agg cs) w)(h:K (a.put o.dst (.agg cs)) w):o.wp Tryz.prog a w K Q:=by unfold Oper.wp execOp;simp only[ho,b,Instr.loadAt,Instr.sureAddr,Sem.run_bind,Sem.run_pure,Result.andThen_ok,c];exact h
def jK:NF->Bool | .sum _=>true|_=>false
mutual
def hsk:List NF->NF->List (NF × List NF)
 | _,.zero=>[]
 | _,.one=>[]
 | _,.set _=>[]
 | k,.pair a b=>hsk (elems b++k) a++hsk k b
 | k,.sum l=>(if k.isEmpty then [] else [(.sum l,k)])++Ww k l
 | k,.star a=>(if jK a then [] else [(a,.star a::k)])++hsk (.star a::k) a
def Ww:List NF->List NF->List (NF × List NF)
 | _,[]=>[]
 | k,x::r=>hsk k x++Ww k r
end
theorem MC:∀{l k o},o∈Ww k l↔∃x∈l,o∈hsk k x
 | [],k,o=>by simp[Ww]
 | x::r,k,o=>by simp[Ww,MC (l:=r)]
theorem aoD(Y):∀k t s Z,(Z,s)∈hsk k Y->(Z,s++t)∈hsk (k++t) Y:=by
 refine NF.ind (P:=λY=>∀(k t s:List NF) (Z:NF),(Z,s)∈hsk k Y->(Z,s++t)∈hsk (k++t) Y) ?_ Y;intro Y d k t s Z h;cases Y with
 | zero=>simp[hsk]at h
 | one=>simp[hsk]at h
 | set n=>simp[hsk]at h
 | pair a b =>
   simp[hsk,a0e]at h |-;rcases h with h|h
   .grind [left,NF.size,NF.size_pos]
   grind [NF.size,NF.size_pos]
 | sum l =>
   simp[hsk,a0e]at h |-;rcases h with h|h
   .simp_all
   right;rw[MC]at h |-;obtain⟨x,c,h⟩:=h;exact⟨x,c,d x (by have:=dx c;simp[NF.size];omega) _ t s Z h⟩
 | star a =>
   simp[hsk,a0e]at h |-;rcases h with h|h
   .grind
   grind [NF.size]
theorem Rs(X):∀Y t k s Z,(Y,t)∈bG X->(Z,s)∈hsk (t++k) Y->(Z,s)∈hsk k X:=by
 refine NF.ind (P:=λX=>∀(Y:NF) (t k s:List NF) (Z:NF),(Y,t)∈bG X->(Z,s)∈hsk (t++k) Y->(Z,s)∈hsk k X) ?_ X;intro X d Y t k s Z ho h;cases X with
 | zero=>simp[bG]at ho;obtain⟨rfl,rfl⟩:=ho;simpa using h
 | one=>simp[bG]at ho;obtain⟨rfl,rfl⟩:=ho;simpa using h
 | set n=>simp[bG]at ho;obtain⟨rfl,rfl⟩:=ho;simpa using h
 | pair a b =>
   simp only[bG,a0l,a0e,a0q,Prod.mk.injEq]at ho;rcases ho with⟨rfl,rfl⟩|⟨⟨e,s'⟩,ho,rfl,rfl⟩|ho
   .simpa using h
   .grind [hsk,left,NF.size,NF.size_pos]
   grind [hsk,NF.size,NF.size_pos]
 | sum l =>
   simp[bG,a0l,Prod.mk.injEq]at ho;rcases ho with⟨rfl,rfl⟩|ho
   .simpa using h
   rw[EZ]at ho;obtain⟨x,c,ho⟩:=ho;simp only[hsk,a0e];right;rw[MC];exact⟨x,c,d x (by have:=dx c;simp[NF.size];omega) _ t _ s Z ho h⟩
 | star a =>
   simp only[bG,a0l,a0q,Prod.mk.injEq]at ho;rcases ho with⟨rfl,rfl⟩|⟨⟨e,s'⟩,ho,rfl,rfl⟩
   .simpa using h
   grind [hsk,NF.size]
def XU(X:NF)(w:LN)(p:NF):Prop :=
 dF p=true\/p=.one\/(∃Y t,(Y,t)∈bG X/\dP Y=true/\p=mk Y t) \/
 ∃Y t v,(Y,t)∈bG X/\(Y,t)∈hsk [] X/\t≠[]/\v≠[]/\v <:+ w/\dP (dW Y v)=true/\p=mk (dW Y v) t/\∀u,u <+: v->u≠[]->ym (dW Y u)=true
theorem amt {w v p}(ho:(Y,[])∈bG X)(e:v <:+ w)(h:XU Y v p):XU X w p:=by
 rcases h with h|h|⟨Z,t,d,b,a⟩|⟨Z,t,u,d,c,ht,i,b,a,g,f⟩
 .exact .inl h
 .exact .inr (.inl h)
 .have:=ko ho d;rw[a0R]at this;exact .inr (.inr (.inl ⟨Z,t,this,b,a⟩))
 have:=ko ho d;rw[a0R]at this;exact .inr (.inr (.inr ⟨Z,t,u,this,Rs X Y [] [] t Z ho (by simpa using c),ht,i,b.trans e,a,g,f⟩))
def ZC(e:wf x)(ho:(x,[])∈bG X)(w) {p}(c:p∈parts x):XU X w p:=by
 have d:(p,[])∈bG X:=by
  cases x with
  | zero=>simp[parts]at c
  | sum l=>have:=ko ho (JV c (fT _));simpa using this
  | one=>simp[parts]at c;subst c;omega
  | set s=>simp[parts]at c;subst c;omega
  | pair a b=>simp[parts]at c;subst c;omega
  | star a=>simp[parts]at c;subst c;omega
 have f:=wK e c;have g:=mY e c;clear c ho e;cases p with
 | zero=>simp[iU]at g
 | sum l=>simp[iU]at g
 | one=>exact .inr (.inl rfl)
 | set s=>exact .inl rfl
 | pair a b=>have h:=ko d (BM (fT _));simp only[a0V,a0R]at h;refine .inr (.inr (.inl ⟨a,elems b,h,f.2.2.1,?_⟩));rw[lH (EU b),xz f.2.1]
 | star a=>exact .inr (.inr (.inl ⟨.star a,[],d,rfl,rfl⟩))
def ZD {t}(c:wf X)(ho:(Y,t)∈bG X)(w) {p}(a:p∈parts (chain t)):XU X w p:=by
 match t,ho,a with
 | [],_,a=>simp[chain,parts]at a;exact .inr (.inl a)
 | [x],ho,a=>have b:=uy (u:=[]) ho rfl;exact ZC (bU c b).1 b w a
 | x::y::r,ho,a=>have b:=uy (u:=[]) ho rfl;have d:=(bU c ho).2 x (by simp);simp[chain,parts]at a;exact .inr (.inr (.inl ⟨x,y::r,b,d.2,a⟩))
theorem UR {t:List NF} {w u:LN}(n:wf X)(ho:(Y,t)∈bG X)(m:(Y,t)∈hsk [] X)(ht:t≠[])(g:u≠[])(i:u <:+ w)
 (z:∀e,e <+: u->e≠[]->e≠u->ym (dW Y e)=true) (q:∀p∈parts (dW Y u),XU Y u p)  {p:NF} (c:p∈parts (aG (dW Y u) (chain t))):XU X w p:=by
 have f:=bU n ho;have d:ym (dW Y u)=true->∀e,e <+: u->e≠[]->ym (dW Y e)=true:=by grind
 have o:∀F:NF,dW Y u=F->iU F=true->dF F=false->F≠.one->XU X w p:=by
  intro F hF x r y;have j:F∈parts F:=by rw[wJ x];simp
  rcases q F (by rw[hF];omega) with h|h|⟨Z,s,h1,h3,h4⟩|⟨Z,s,v,h1,h1',hs0,h0,h2,h3,h4,h5⟩
  .rw[r]at h;contradiction
  .contradiction
  .have k:=(bU f.1 h1).2;rw[hF,h4,UC h3 k f.2,lH (by simp[ht])]at c;simp[parts,a0w]at c;exact .inr (.inr (.inl ⟨Z,s++t,ko ho h1,h3,by rw[c,lH (by simp[ht])]⟩))
  have k:=(bU f.1 h1).2;rw[hF,h4,UC h3 k f.2,lH (by simp[ht])]at c;simp[parts,a0w]at c;have hh:(Z,s++t)∈hsk [] X:=Rs X Y t [] (s++t) Z ho (by simpa using aoD Y [] t s Z h1');exact .inr (.inr (.inr ⟨Z,s++t,v,ko ho h1,hh,by simp[ht],h0,h2.trans i,h3,by rw[c,lH (by simp[ht])],h5⟩))
 cases hF:dW Y u with
 | zero=>rw[hF]at c;simp[aG,parts]at c
 | one=>rw[hF]at c;exact ZD n ho w c
 | set s =>
   have hh:dP (dW Y u)=true:=by rw[hF];rfl
   rw[aX hh (fK f.2 ht)]at c;simp[parts,a0w]at c;exact .inr (.inr (.inr ⟨Y,t,u,ho,m,ht,g,i,hh,by rw[c,lH ht],d (by rw[hF];rfl)⟩))
 | sum l =>
   have hh:dP (dW Y u)=true:=by rw[hF];rfl
   rw[aX hh (fK f.2 ht)]at c;simp[parts,a0w]at c;exact .inr (.inr (.inr ⟨Y,t,u,ho,m,ht,g,i,hh,by rw[c,lH ht],d (by rw[hF];rfl)⟩))
 | pair a b=>exact o _ hF rfl rfl (by simp)
 | star a=>exact o _ hF rfl rfl (by simp)
theorem ajr(X):wf X->∀w p,p∈parts (dW X w)->XU X w p:=by
 refine NF.ind (P:=λX=>wf X->∀(w:LN) (p:NF),p∈parts (dW X w)->XU X w p) ?_ X;intro X A g w;have elem:∀(w:LN) (c:Nat) (c1:NF) (r:List NF) (p:NF),(c1,r)∈bG X->dP c1=true->(∀l,c1=.sum l->r=[]->c1.size<X.size)->p∈parts (aG (left c c1) (chain r))->XU X (w++[c]) p:=by
  intro w c c1 r p ho hh _ d;have f:=bU g ho;have J:∀Y:NF,dW Y [c]=left c Y:=λY=>rfl;have m:[c] <:+ w++[c]:=List.suffix_append _ _;have I:∀(Y:NF) (q:LN),q <+: [c]->q≠[]->q≠[c]->ym (dW Y q)=true:=by grind [List.prefix_cons_iff]
  cases c1 with
  | zero=>simp[dP]at hh
  | one=>simp[dP]at hh
  | pair a b=>simp[dP]at hh
  | set s =>
    simp[left]at d;split at d
    .exact ZD g ho _ d
    simp[aG,parts]at d
  | star Z =>
    have T:(Z,.star Z::r)∈bG X:=by have:=ko ho (wL (fT Z));simpa using this
    have C:(Z,.star Z::r)∈hsk [] X:=Rs X (.star Z) r [] _ Z ho (by
     simp[hsk,a0R,a0e];cases Z with
     | sum l=>right;simp[hsk]
     | _=>left;simp[jK])
    have E:=(pZ ho).1;have o:Z.size<X.size:=by simp[NF.size]at E;omega
    have L:wf Z:=f.1.1;have e:aG (left c (.star Z)) (chain r)=aG (dW Z [c]) (chain (.star Z::r)):=by
     rw[J];simp[left];rw[GK _ _ _ (gI c Z L) f.1];congr 1;exact uw (s:=[.star Z]) (t:=r) (by intro x G;simp at G;subst G;exact⟨f.1,rfl⟩) f.2
    rw[e]at d;exact UR g T C (by simp) (by simp) m (I Z) (A Z o L [c]) d
  | sum l =>
    by_cases B:r=[]
    .grind [chain,bF,amt]
    have o:=(pZ ho).2 B;have D:(NF.sum l,r)∈hsk [] X:=Rs X (.sum l) r [] _ _ ho (by
     cases r with
     | nil=>exact absurd rfl B
     | cons x r=>simp[hsk])
    rw[<-J]at d;exact UR g ho D B (by simp) m (I _) (A _ o f.1 [c]) d
 have main:∀n (w:LN),w.length=n->∀p,p∈parts (dW X w)->XU X w p:=by
  intro n;induction n with
  | zero=>intro w i p d;have:=a0S i;subst this;exact ZC g (fT X) [] d
  | succ n y =>
    intro w i p d;obtain⟨w',c,rfl⟩:∃w' c,w=w'++[c]:=by
     have H:w≠[]:=by intro e;subst e;simp at i
     exact⟨w.dropLast,w.getLast H,(a2t H).symm⟩
    have W:w'.length=n:=by simp at i;omega
    rw[tK]at d;have hq:=BR g w';rcases Wh hq d with h|⟨F,k,d⟩
    .exact .inl h
    have V:=mY hq k;have:∀(Y:NF) (t u:List NF) (c1:NF) (r:List NF),(Y,t)∈bG X->t=u++c1::r->p∈parts (aG (left c c1) (chain r))->XU X (w'++[c]) p:=by
     intro Y t u c1 r ho j h;have f:=bU g ho;refine elem w' c c1 r p (uy ho j) (f.2 c1 (by rw[j];simp)).2 ?_ h;rintro l rfl rfl;rcases Ol ho (.sum l) (by rw[j];simp) with h|⟨a,e,_⟩
     .omega
     simp at e
    rcases y w' W F k with h|h|⟨Y,t,ho,hh,rfl⟩|⟨Y,t,v,ho,S,ht,O,R,hh,rfl,_⟩
    .cases F<;>simp[dF]at h;simp[left]at d;split at d<;>simp[parts]at d;exact .inr (.inl d)
    .grind [left,parts]
    .have f:=bU g ho;rcases Q9 f.1 f.2 d with h|h|⟨u,c1,r,j,h⟩
     .exact .inl h
     .refine elem w' c Y t p ho hh ?_ h;rintro l rfl rfl;simp[mk,iU]at V
     grind
    have f:=bU g ho;rcases Q9 (BR f.1 v) f.2 d with h|h|⟨u,_,r,j,h⟩
    .exact .inl h
    .rw[<-tK]at h;refine UR g ho S ht (u:=v++[c]) (by simp) ?_ ?_ (A Y ((pZ ho).2 ht) f.1 (v++[c])) h
     .obtain⟨z,rfl⟩:=R;exact⟨z,by simp⟩
     grind [List.prefix_concat_iff]
    grind
 exact main _ w rfl
def nl(x:NF):Nat:=(name x).length
def tn(t:List NF):Nat:=(t.map λx=>nl x+3).sum
theorem ak9(s t):tn (s++t)=tn s+tn t:=by simp[tn]
theorem Fb(a b):nl (.pair a b)=nl a+nl b+3:=by simp[nl,name];omega
theorem ZE(a):nl (.star a)=nl a+1:=by simp[nl,name]
theorem US:∀{t},t≠[]->tn t=nl (chain t)+3
 | [x],_=>by simp[tn,chain]
 | x::y::r,_=>by have h:=US (t:=y::r) (by simp);rw[show tn (x::y::r)=nl x+3+tn (y::r) by simp[tn],h,show chain (x::y::r)=.pair x (chain (y::r)) from rfl,Fb];omega
theorem aoE(h t):nl (mk h t)=nl h+tn t:=by
 cases t with
 | nil=>simp[mk,tn]
 | cons x r=>rw[lH (by simp),Fb,US (by simp)];omega
theorem acU {b}(hb:wf b):tn (elems b)=nl b+3:=by rw[US (EU b),xz hb]
theorem Ia(s):∀k,(setName s k).length<=2*k
 | 0=>by simp[setName]
 | k+1=>by
   have:=Ia s k;simp only[setName,a0p];split<;>simp<;>omega
theorem YO(s):nl (.set s)<=513:=by grind [Ia,nl,name]
def vP:NF->Bool | .one=>true|_=>false
def nU:NF->Bool | .set _=>true | .star _=>true|_=>false
def JE(l:List NF):Bool:=match l.filter (λx=>!vP x) with | [x]=>!nU x|_=>true
def gF:NF->Bool | .pair _ _=>true|_=>false
def sumTo(f:Nat->Nat):Nat->Nat
 | 0=>0
 | n+1=>sumTo f n+f (n+1)
mutual
def oG:NF->Nat->Nat
 | .zero,_=>0
 | .one,_=>0
 | .set s,k=>nl (.set s)+k+1
 | .pair a b,k=>oG a (k+nl b+3)+oG b k
 | .sum l,k=>(if k=0 then 0 else nl (.sum l)+k+1)+XX l k
 | .star a,k=>nl (.star a)+k+1+oG a (k+nl (.star a)+3)
def XX:List NF->Nat->Nat
 | [],_=>0
 | x::r,k=>oG x k+XX r k
end
mutual
def hG:NF->Nat->Nat->Nat
 | .zero,_,_=>0
 | .one,_,_=>0
 | .set _,_,_=>0
 | .pair a b,k,n=>hG a (k+nl b+3) n+hG b k n
 | .sum l,k,n=>(if k=0 then 0 else if JE l then sumTo (λj=>518+XX l 0+XY l 0 j+k+1) n else 0)+XY l k n
 | .star a,k,n=>(if gF a then sumTo (λj=>518+oG a 0+hG a 0 j+(k+nl (.star a)+3)+1) n else 0)+hG a (k+nl (.star a)+3) n
def XY:List NF->Nat->Nat->Nat
 | [],_,_=>0
 | x::r,k,n=>hG x k n+XY r k n
end
def nB(X:NF)(n:Nat):Nat:=518+oG X 0+hG X 0 n
theorem qJ {f g}:∀{n},(∀j,1<=j->j<=n->f j<=g j)->sumTo f n<=sumTo g n
 | 0,_=>a0b _
 | n+1,h=>by have d:=qJ (n:=n) (λj a b=>h j a (by omega));have c:=h (n+1) (by omega) (by omega);simp only[sumTo];omega
def sumTo_le {f}:∀{m n},m<=n->sumTo f m<=sumTo f n
 | m,0,h=>by have:m=0:=by omega
             subst this;omega
 | m,n+1,h=>by
   by_cases e:m=n+1
   .subst e;omega
   have:=sumTo_le (f:=f) (m:=m) (n:=n) (by omega);simp only[sumTo];omega
def sW(l:List NF):Nat:=(l.map λp=>nl p+1).sum
theorem ME(a b):sW (a++b)=sW a+sW b:=by simp[sW]
theorem Ca(p r):sW (p::r)=nl p+1+sW r:=by simp[sW]
def aeZ:∀{l M},l.Nodup->(∀p∈l,p∈M)->sW l<=sW M
 | [],M,_,_=>by simp[sW]
 | p::r,M,b,h=>by
   rw[a2R]at b;obtain⟨A,B,rfl⟩:=a2Q (h p (by simp));have a:=aeZ (l:=r) (M:=A++B) b.2 (λq hq=>by
    have:=h q (by simp[hq]);simp[a0e,a0l]at this |-;rcases this with a|rfl|a
    .exact .inl a
    .exact absurd hq b.1
    exact .inr a)
   rw[Ca,ME,Ca];rw[ME]at a;omega
theorem MF(l):nl (.sum l)=sW l+2:=by
 have:∀l:List NF,(ed l).length=sW l:=by
  intro l;induction l with
  | nil=>simp[ed,sW]
  | cons x r a=>rw[Ca];simp[ed,a,nl];omega
 simp[nl,name,this l]
def amu(c:wf x):nl x<=sW (parts x)+2:=by
 cases x with
 | zero=>simp[nl,name,parts,sW]
 | sum l=>rw[MF];simp[parts]
 | one=>simp[parts,sW];omega
 | set s=>simp[parts,sW];omega
 | pair a b=>simp[parts,sW];omega
 | star a=>simp[parts,sW];omega
structure KY where
 kd:Nat
 s:Nat
 fi:Nat
 se:Nat
 L:LN
def Ky(D:List NF)(n:Nat)(k:KY)(d:NF):Prop :=
 (k.kd=2/\k.fi=0/\k.se=0/\k.L=[]/\d=.set k.s) \/
 (k.kd=3/\k.s=0/\k.L=[]/\k.fi<n/\k.se<n/\∃x y,D[k.fi]?=some x/\D[k.se]?=some y/\d=.pair x y) \/
 (k.kd=4/\k.s=0/\k.fi=0/\k.se=0/\k.L.Pairwise (·<·)/\(∀j∈k.L,j<n)/\d=.sum (gU (k.L.map λj=>D.getD j .zero))) \/
 (k.kd=5/\k.s=0/\k.se=0/\k.L=[]/\k.fi<n/\∃x,D[k.fi]?=some x/\d=.star x)
def Ky.push{R n k}(h:Ky D n k d)(p:n<=D.length):Ky (D++R) n k d:=by
 have e:∀j x,D[j]?=some x->(D++R)[j]?=some x:=λj x m=>by have:=(a0d.1 m).1;rw[a0s this];omega
 rcases h with h|⟨l,i,g,f,c,x,y,a,b,o⟩|⟨l,i,g,f,c,a,b⟩|⟨l,i,g,f,c,x,a,b⟩
 .exact .inl h
 .exact .inr (.inl ⟨l,i,g,f,c,x,y,e _ _ a,e _ _ b,o⟩)
 .refine .inr (.inr (.inl ⟨l,i,g,f,c,a,?_⟩));rw[b];congr 2;apply a2s;intro j m;have:=a j m;simp[List.getD,a0s (show j<D.length by omega)]
 exact .inr (.inr (.inr ⟨l,i,g,f,c,x,e _ _ a,b⟩))
theorem Ky.mono {n m k}(h:Ky D n k d)(o:n<=m):Ky D m k d:=by
 rcases h with h|⟨e,c,b,f,g,a⟩|⟨e,c,b,f,g,a,l⟩|⟨e,c,b,f,g,a⟩
 .exact .inl h
 .exact .inr (.inl ⟨e,c,b,by omega,by omega,a⟩)
 .exact .inr (.inr (.inl ⟨e,c,b,f,g,λj i=>by have:=a j i;omega,l⟩))
 exact .inr (.inr (.inr ⟨e,c,b,f,by omega,a⟩))
theorem acV:∀{a b:LN},a.Pairwise (·<·)->b.Pairwise (·<·)->(∀j,j∈a↔j∈b)->a=b
 | [],[],_,_,_=>rfl
 | [],y::b,_,_,h=>by have:=(h y).2 (by simp);simp at this
 | x::a,[],_,_,h=>by have:=(h x).1 (by simp);simp at this
 | x::a,y::b,c,hb,h=>by
   rw[a1F]at c hb;have g:x=y:=by
    have f:=(h x).1 (by simp);have i:=(h y).2 (by simp);rcases a0l.1 f with e|e
    .omega
    grind
   subst g;congr 1;refine acV c.2 hb.2 λj=>⟨λd=>?_,λd=>?_⟩
   .grind
   grind
theorem yI(h:D.Nodup)(b:D[i]?=some d)(a:D[j]?=some d):i=j:=by grind [List.getElem?_eq_some_iff,List.pairwise_iff_getElem,Nat.lt_trichotomy]
theorem getD_some(h:j<D.length):D[j]?=some (D.getD j .zero):=by simp[List.getD,h]
def MG(h:j<D.length):D.getD j .zero∈D:=a0B (getD_some h)
theorem Ky.inj {n m k q}(nd:D.Nodup)(wc:∀x∈D,WC x)(h:Ky D n k d)(g:Ky D m q d)(I:n<=D.length)(J:m<=D.length):k=q:=by
 obtain⟨kd,s,fi,se,L⟩:=k;obtain⟨R,s',U,P,v⟩:=q;rcases h with⟨B,A,z,w,r⟩|⟨B,A,z,w,r,x,y,f,N,Y⟩|⟨B,A,z,w,r,f,N⟩|⟨B,A,z,w,r,x,f,N⟩ <;>
  rcases g with⟨G,F,E,C,u⟩|⟨G,F,E,C,u,O,V,i,t,Z⟩|⟨G,F,E,C,u,i,t⟩|⟨G,F,E,C,u,O,i,t⟩ <;>
  simp only at * <;> subst d<;>simp only[NF.set.injEq,NF.pair.injEq,NF.sum.injEq,NF.star.injEq,reduceCtorEq]at *
 .simp[*]
 .grind [yI]
 .have p:∀(M:LN) (k:Nat),k<=D.length->(∀j∈M,j<k)->JY (M.map λj=>D.getD j .zero):=λM k W T=>BU λx S=>by obtain⟨j,c,rfl⟩:=a0q.1 S;exact(wc _ (MG (by have:=T j c;omega))).1
  have X:L=v:=by
   refine acV r u λj=>⟨λc=>?_,λc=>?_⟩
   .have H:j<D.length:=by have:=f j c;omega
    have l:=(iA (p L n I f)).2 (a0q.2 ⟨j,c,rfl⟩);rw[t,iA (p v m J i)]at l;obtain⟨o,b,e⟩:=a0q.1 l;have a:o<D.length:=by have:=i o b;omega
    have:=yI nd (getD_some a) (by rw[e];exact getD_some H);exact this ▸ b
   have H:j<D.length:=by have:=i j c;omega
   have l:=(iA (p v m J i)).2 (a0q.2 ⟨j,c,rfl⟩);rw[<-t,iA (p L n I f)]at l;obtain⟨o,b,e⟩:=a0q.1 l;have a:o<D.length:=by have:=f o b;omega
   have:=yI nd (getD_some a) (by rw[e];exact getD_some H);exact this ▸ b
  simp[*]
 grind [yI]
theorem Ky.same {n m k e}(h:Ky D n k d)(g:Ky D m k e):d=e:=by
 rcases h with⟨l,j,i,f,a⟩|⟨l,j,i,f,a,x,y,t,c,z⟩|⟨l,j,i,f,a,t,c⟩|⟨l,j,i,f,a,x,t,c⟩ <;>
  rcases g with⟨s,r,q,p,b⟩|⟨s,r,q,p,b,v,w,u,o,A⟩|⟨s,r,q,p,b,u,o⟩|⟨s,r,q,p,b,v,u,o⟩ <;>
  first | omega|skip
 .rw[a,b]
 .grind
 .rw[c,o]
 grind
def Ky.two {n k}(h:Ky D n k d):d≠.zero/\d≠.one:=by rcases h with⟨f,e,c,b,a⟩|⟨f,e,c,b,a,x,y,i,g,j⟩|⟨f,e,c,b,a,i,g⟩|⟨f,e,c,b,a,x,i,g⟩<;>subst d<;>simp
structure Ru(K:List KY)(D:List NF):Prop where
 len:K.length=D.length
 d0:D[0]?=some .zero
 d1:D[1]?=some .one
 k0:K[0]?=some ⟨0,0,0,0,[]⟩
 k1:K[1]?=some ⟨1,0,0,0,[]⟩
 ky:∀i k d,2<=i->K[i]?=some k->D[i]?=some d->Ky D i k d
 nd:D.Nodup
 wc:∀d∈D,WC d
def Ru.two {K}(t:Ru K D):2<=D.length:=by have:=(a0d.1 t.d1).1;omega
def Ru.ge {K}(t:Ru K D)(h:D[i]?=some d)(b:d≠.zero)(a:d≠.one):2<=i:=by
 rcases i with _|_|i
 .rw[t.d0]at h;simp at h;exact absurd h.symm b
 .rw[show(0+1)=1 from rfl,t.d1]at h;simp at h;exact absurd h.symm a
 omega
def Ru.avC {K}(t:Ru K D)(b:2<=i)(h:D[i]?=some d):∃k,K[i]?=some k/\Ky D i k d:=by have a:=(a0d.1 h).1;rw[<-t.len]at a;exact⟨K[i],a0a a,t.ky i _ d b (a0a a) h⟩
def Ru.found {K}(t:Ru K D) {k}(h:Ky D D.length k d)(a:D[i]?=some d):2<=i/\K[i]?=some k:=by have b:=t.ge a h.two.1 h.two.2;obtain⟨q,hq,c⟩:=t.avC b a;have e:=(a0d.1 a).1;exact⟨b,by rw[hq,Ky.inj t.nd t.wc c h (by omega) (a0b _)]⟩
def Ru.sameKey {K}(t:Ru K D) {k}(h:Ky D D.length k d)(c:2<=i)(b:K[i]?=some k):D[i]?=some d:=by have a:=(a0d.1 b).1;rw[t.len]at a;have hd:D[i]?=some D[i]:=a0a a;rw[hd,(t.ky i k _ c b hd).same h]
def Ru.push {K}(t:Ru K D) {k}(h:Ky D D.length k d)(f:WC d)(hd:d∉D):Ru (K++[k]) (D++[d]):=by
 have m:=t.two;have hlen:=t.len;refine⟨by simp[t.len],?_,?_,?_,?_,?_,?_,?_⟩
 .rw[a0s (by omega)];exact t.d0
 .rw[a0s (by omega)];exact t.d1
 .rw[a0s (by omega)];exact t.k0
 .rw[a0s (by omega)];exact t.k1
 .intro i q e g hq he;by_cases l:i<D.length
  .rw[a0s (by omega)]at hq he;exact(t.ky i q e g hq he).push (by omega)
  have hb:=(a0d.1 he).1;simp at hb;have:i=D.length:=by omega
  subst this;rw[a0K (by omega)]at hq he;simp[hlen]at hq he;subst hq he;exact h.push (a0b _)
 .rw[List.nodup_append];exact⟨t.nd,by simp,λa j b hb e=>by simp at hb;subst hb;exact hd (e ▸ j)⟩
 intro x c;rcases a0e.1 c with e|e
 .exact t.wc x e
 simp at e;exact e ▸ f
def lastB(h:KY->Nat)(K:List KY)(b:Nat):Nat->Nat
 | 0=>0
 | n+1=>if 2<=n/\(K[n]?.map h)=some b then n else lastB h K b n
def zD(h K b):∀n,lastB h K b n=0\/(2<=lastB h K b n/\lastB h K b n<n/\K[lastB h K b n]?.map h=some b)
 | 0=>.inl rfl
 | n+1=>by
   unfold lastB;split
   next e=>exact .inr ⟨e.1,by omega,e.2⟩
   next e =>
    rcases zD h K b n with a|⟨a,d,c⟩
    .exact .inl a
    exact .inr ⟨a,by omega,c⟩
theorem Py(h K b):∀n j,j<n->2<=j->K[j]?.map h=some b->j<=lastB h K b n
 | n+1,j,f,d,a=>by
   unfold lastB;split
   next e=>omega
   next e =>
    by_cases c:j=n
    .grind
    exact Py h K b n j (by omega) d a
theorem Kg(h K k b):∀n,n<=K.length->lastB h (K++[k]) b n=lastB h K b n
 | 0,_=>rfl
 | n+1,a=>by unfold lastB;rw[a0s (by omega),Kg h K k b n (by omega)]
theorem ajs(h K k b)(a:2<=K.length):lastB h (K++[k]) b (K.length+1)=if h k=b then K.length else lastB h K b K.length:=by grind [lastB,Kg]
def Cb {l}(h:Ris l):l.Nodup:=by refine List.Pairwise.imp ?_ h;intro a b c e;subst e;rw[zy]at c;exact absurd c (by decide)
def ajt {a b}(c:JY a)(hb:JY b)(h:∀p,p∈a↔p∈b):gU a=gU b :=
 Zk (xA a) (xA b) λp=>by rw[iA c,iA hb];exact h p
theorem ags {l}(ht:JY l)(b:l.Nodup):(gU l).length=l.length :=
 Nat.le_antisymm (qP (Cb (xA l)) λx a=>kK a) (qP b λx a=>(iA ht).2 a)
def RO(R L:LN):Prop:=R.Pairwise (·<·)/\∀j,j∈R↔j∈L
theorem Pz(nd:D.Nodup)(d:R.Pairwise (·<·))(c:∀j∈R,j<D.length):(R.map λj=>D.getD j .zero).Nodup:=by rw[List.Nodup,List.pairwise_map];refine List.Pairwise.imp_of_mem ?_ d;intro a b f hb g e;have:=yI nd (getD_some (c a f)) (by rw[e];exact getD_some (c b hb));omega
theorem Fe(wc:∀x∈D,WC x)(b:∀j∈R,j<D.length):JY (R.map λj=>D.getD j .zero) :=
 BU λx a=>by obtain⟨j,c,rfl⟩:=a0q.1 a;exact(wc _ (MG (b j c))).1
def arP(nd:D.Nodup)(wc:∀x∈D,WC x){L}(h:RO R L)(d:∀j∈L,j<D.length) {l}(ht:JY l)(c:∀p,p∈l↔p∈L.map λj=>D.getD j .zero) :
 gU (R.map λj=>D.getD j .zero)=gU l/\(gU l).length=R.length:=by
 have b:∀j∈R,j<D.length:=λj a=>d j ((h.2 j).1 a);have e:gU (R.map λj=>D.getD j .zero)=gU l:=by
  refine ajt (Fe wc b) ht λp=>?_;rw[c p];simp[a0q];exact⟨λ⟨j,a,e⟩=>⟨j,(h.2 j).1 a,e⟩,λ⟨j,a,e⟩=>⟨j,(h.2 j).2 a,e⟩⟩
 refine⟨e,?_⟩;rw[<-e,ags (Fe wc b) (Pz nd h.1 b)];simp
def amv {l}(h:2<=l.length):mkS l=.sum l:=by
 match l,h with
 | a::b::r,_=>rfl
def Ff(U:List NF)(ls:List NF):Prop:=(bf (ls.flatMap parts)≠0->.set (bf (ls.flatMap parts))∈U)/\(2<=(gU (bN (ls.flatMap parts))).length->bQ ls∈U)/\(ls.flatMap parts).length<=9000000000000/\ls.length<=9000000000000
mutual
def Fg(c:Nat)(U:List NF):NF->Prop
 | .zero=>True
 | .one=>True
 | .set _=>True
 | .pair a b=>Fg c U a/\(∀f∈uZ (left c a) b,f∈U)/\(dK a=true->Fg c U b/\Ff U [aG (left c a) b,left c b])
 | .sum l=>ZF c U l/\Ff U (xy c l)
 | .star a=>Fg c U a/\∀f∈uZ (left c a) (.star a),f∈U
def ZF(c:Nat)(U:List NF):List NF->Prop
 | []=>True
 | x::r=>Fg c U x/\ZF c U r
end
theorem PD {c U}:∀{l},ZF c U l↔∀x∈l,Fg c U x
 | []=>by simp[ZF]
 | x::r=>by simp only[ZF,a0l,forall_eq_or_imp,PD]
theorem Fh:∀l:List NF,agc l=l.any dK
 | []=>rfl
 | x::r=>by simp[agc,Fh r]
theorem any_congr {a b:List NF}(h:∀p,p∈a↔p∈b):a.any dK=b.any dK:=by grind
theorem arQ{n}(h:A.Pairwise (·<=·))(k:i<=A.length)(l:∀x∈A.drop i,n<x)(g:0<i->A.getD (i-1) 0<=n):(A.take i++n::A.drop i).Pairwise (·<=·):=by
 have a:(A.take i++A.drop i).Pairwise (·<=·):=by rw[a1C];omega
 rw[List.pairwise_append]at a |-;have ht:∀x∈A.take i,x<=n:=by
  intro x c;obtain⟨j,d,rfl⟩:=a3f.1 c;simp only[a1k]at d;rw[List.getElem_take];have b:=g (by omega);have f:A.getD (i-1) 0=A[i-1]'(by omega):=by simp[List.getD,show i-1<A.length by omega]
  rw[f]at b;refine a0h ?_ b;by_cases e:j=i-1
  .subst e;omega
  grind [List.pairwise_iff_getElem]
 refine⟨a.1,?_,?_⟩
 .grind [List.pairwise_cons,Nat.le_of_lt]
 grind
theorem amw{n}(j):j∈A.take i++n::A.drop i↔j∈A\/j=n:=by grind [List.take_append_drop]
theorem aoF{O k}(m:R.Pairwise (·<=·))(c:k<R.length)(h:RO O (R.take k)) :
 ((k=0\/R.getD (k-1) 0≠R[k])->RO (O++[R[k]]) (R.take (k+1)))/\(¬ (k=0\/R.getD (k-1) 0≠R[k])->RO O (R.take (k+1))):=by
 have ht:R.take (k+1)=R.take k++[R[k]]:=by rw[a1c,a0a c];rfl
 have i:=a3q.1 m;constructor
 .intro a;constructor
  .rw[List.pairwise_append];refine⟨h.1,by simp,?_⟩;intro x g y b;simp at b;subst b;obtain⟨j,l,rfl⟩:=a3f.1 ((h.2 x).1 g);simp only[a1k]at l;rw[List.getElem_take];have o:=i j k (by omega) c (by omega);have d:R.getD (k-1) 0=R[k-1]'(by omega):=by simp[List.getD,show k-1<R.length by omega]
   rcases a with a|a
   .omega
   grind
  intro j;rw[ht];simp only[a0e,h.2 j]
 intro a;have n:¬ k=0:=λe=>a (.inl e);have f:R.getD (k-1) 0=R[k]:=Decidable.byContradiction λe=>a (.inr e);refine⟨h.1,λj=>?_⟩;rw[ht,h.2 j];simp only[a0e,a0w];refine⟨λe=>.inl e,λe=>e.elim id λe=>?_⟩;subst e;rw[<-f];have d:R.getD (k-1) 0=R[k-1]'(by omega):=by simp[List.getD,show k-1<R.length by omega]
 rw[d];exact a3f.2 ⟨k-1,by simp;omega,by simp⟩
end
section
variable {l ls t:List NF} {A X Y g x:NF} {w w':World} {b:Value} {p s:Nat} {hi:Int} {r:LB} {L:List Bool} {S:LN}
def aju(h:∀p∈l,iU p=true):parts (mkS l)=l:=by
 match l,h with
 | [],_=>rfl
 | [x],h=>exact wJ (h x (by simp))
 | x::y::r,_=>rfl
def amx(a:∀x∈ls,wf x):parts (bQ ls)=gU (bN (ls.flatMap parts)) :=
 aju λp b=>Zo (Zp a) p (kK b)
theorem acW(h:WC x):(parts x).Nodup/\∀p∈parts x,dF p=true->p=.set (bf (parts x)):=by
 have d:=Pv h.1 h.2;have c:∀y ∈ [x],wf y:=by simp;exact h.1
 have a:=amx c;rw[d]at a;simp only[a1i,a2E,a0R]at a;refine⟨by rw[a];exact Cb (xA _),?_⟩;intro p b f;rw[a]at b;rcases jl.1 (kK b) with⟨_,e⟩|⟨_,e⟩
 .grind
 omega
theorem PE(h:WC x) {V:List NF}(c:∀p∈parts x,dF p=true\/p=.one\/p∈V):(parts x).length<=V.length+2:=by
 have:=qP (b:=.one::.set (bf (parts x))::V) (acW h).1 (by
  intro p a;rcases c p a with e|e|e
  .grind [acW]
  .rw[e];simp
  simp[e])
 omega
def ajv:∀{b},can b->∀x∈elems b,can x:=by
 intro b;refine NF.ind (P:=λb=>can b->∀x∈elems b,can x) ?_ b;intro b e hb x c;cases b with
 | pair a d =>
   simp[elems,a0l]at c;rcases c with rfl|c
   .exact hb.1
   exact e d (by simp[NF.size];omega) hb.2 x c
 | zero=>simp[elems]at c;subst c;omega
 | one=>simp[elems]at c;subst c;omega
 | set s=>simp[elems]at c;subst c;omega
 | sum l=>simp[elems]at c;subst c;omega
 | star a=>simp[elems]at c;subst c;omega
theorem agt(d:can X)(h:(Y,t)∈bG X):can Y/\∀x∈t,can x:=by
 revert Y t d
 refine NF.ind (P:=λX=>∀{Y:NF} {t:List NF},can X->(Y,t)∈bG X->can Y/\∀x∈t,can x) ?_ X;intro X f Y t d h;rcases tJ h with⟨rfl,rfl⟩|⟨a,b,s,rfl,g,rfl⟩|⟨a,b,rfl,g⟩|⟨l,z,rfl,hz,g⟩|⟨a,s,rfl,g,rfl⟩
 .grind
 .have e:=f a (by simp[NF.size];omega) d.1 g;refine⟨e.1,?_⟩;intro x c;rcases a0e.1 c with c|c
  .exact e.2 x c
  exact ajv d.2 x c
 .exact f b (by simp[NF.size];omega) d.2 g
 .have e:=dx hz;exact f z (by simp[NF.size];omega) (wM.1 d.1 z hz) g
 have e:=f a (by simp[NF.size]) d g;refine⟨e.1,?_⟩;intro x c;rcases a0e.1 c with c|c
 .exact e.2 x c
 grind
def ZG:∀{t},(∀x∈t,can x)->can (chain t)
 | [],_=>trivial
 | [x],h=>h x (by simp)
 | x::y::r,h=>⟨h x (by simp),ZG (t:=y::r) λz hz=>h z (a2l _ hz)⟩
def ala(a:wf X)(b:can X)(w):can (dW X w):=by
 unfold dW;induction w generalizing X with
 | nil=>exact b
 | cons c w d=>exact d (gI c X a) (acH c X a b)
def aur {h}(hh:WC h)(ht:EV t)(a:∀x∈t,can x)(hd:t≠[]->dP h=true):WC (mk h t):=by
 by_cases e:t=[]
 .subst e;exact hh
 rw[lH e];exact⟨⟨hh.1,EW ht,hd e,fK ht e⟩,hh.2,ZG a⟩
def YP {w}(e:WC X)(h:sV X w g):WC g:=by obtain⟨Z,u,Y,t,v,c,d,j,rfl,hh⟩:=h;have a:=bU (bU e.1 c).1 d;have b:=agt (agt e.2 c).1 d;exact aur ⟨BR a.1 v,ala a.1 b.1 v⟩ a.2 b.2 hh
theorem ajw:∀{a b},wf a->aP a=true->aP b=true->aG a b∈uZ a b:=by
 intro a b c d hb;cases a with
 | zero=>simp[aP]at d
 | one=>simp[aP]at d
 | set s=>rw[nA rfl hb,aX rfl hb];simp
 | sum l=>rw[nA rfl hb,aX rfl hb];simp
 | star x=>rw[nA rfl hb,aX rfl hb];simp
 | pair x y=>have ht:=eP c.2.1 c.2.2.2 hb;rw[dA hb,E5 hb,nA c.2.2.1 ht,aX c.2.2.1 ht];simp
theorem agu {a b}(c:wf a)(d:aP a=true)(hb:aP b=true):parts (aG a b)=[aG a b]:=by
 have:∀{a b:NF},dP a=true->aP b=true->parts (aG a b)=[aG a b]:=λf e=>by rw[aX f e];rfl
 cases a with
 | zero=>simp[aP]at d
 | one=>simp[aP]at d
 | set s=>exact this rfl hb
 | sum l=>exact this rfl hb
 | star x=>exact this rfl hb
 | pair x y=>rw[dA hb];exact this c.2.2.1 (eP c.2.1 c.2.2.2 hb)
theorem UT{Z u v w c}(h:wf X)(f:(Z,u)∈bG X)(g:(Y,t)∈bG Z)(e:v <:+ w) {p}
 (j:p∈parts (aG (left c (dW Y v)) (chain t))):dF p=true\/p=.one\/sV X (w++[c]) p:=by
 have i:=(bU h f).1;have a:=bU i g;have:v++[c] <:+ w++[c]:=by obtain⟨z,rfl⟩:=e;exact⟨z,by simp⟩
 by_cases ht:t=[]
 .grind [chain,bF,tK,yH,Zr,yF]
 have:=fK a.2 ht;have:=gI c _ (BR a.1 v);by_cases l:aP (left c (dW Y v))=true
 .grind [agu,Zw,ajw]
 grind [fQ,aG,parts,chain,Zr,Pp]
def amy{p w c}(d:wf X)(h:sV X w g)(j:p∈parts (left c g)):dF p=true\/p=.one\/sV X (w++[c]) p:=by
 obtain⟨Z,u,Y,t,v,a,b,i,rfl,hh⟩:=h;have f:=bU ((bU d a).1) b;rcases Q9 (BR f.1 _) f.2 j with e|e|⟨x,c1,r,l,k⟩
 .exact .inl e
 .exact UT d a b i e
 exact UT d a (uy b l) a2k k
def ae0 {w}(g:WC X)(h:sV X w (.sum l)):l.length<=X.size*(w.length+1)+2:=by
 have i:=YP g h;obtain⟨Z,u,Y,t,v,d,f,k,b,hh⟩:=h;have ht:=Decidable.byContradiction λe=>by rw[lH e]at b;simp at b
 subst ht;rw[show mk (dW Y v) []=dW Y v from rfl]at b;have B:=(bU g.1 d).1;have C:=(bU B f).1;have hlen:=PE i (V:=(bG Y).flatMap λo=>(DF v).map λv'=>mk (dW o.1 v') o.2) (by
  intro p c;rw[b]at c;rcases yF Y C v p c with e|e|⟨A,s,v',y,x,E,n,D⟩
  .exact .inl e
  .exact .inr (.inl e)
  exact .inr (.inr (a1l.2 ⟨(A,s),y,a0q.2 ⟨v',Mw x,n.symm⟩⟩)))
 rw[show parts (.sum l)=l from rfl]at hlen;have m:((bG Y).flatMap λo=>(DF v).map λv'=>mk (dW o.1 v') o.2).length=(bG Y).length*(v.length+1):=by
  rw[xD _ (λ_=>v.length+1) (λo=>by simp[Mx])];generalize bG Y=q;induction q with
  | nil=>simp
  | cons a r j=>simp[a0E,a0Y,j,a0r,a0J,a2T];omega
 rw[m,Zy]at hlen;have z:=a0h (pZ f).1 (pZ d).1;have G:v.length<=w.length:=k.length_le;have F:Y.size*(v.length+1)<=X.size*(w.length+1):=a0D z (by omega);omega
def acX {n}(h:∀x∈ls,(parts x).length<=n):(ls.flatMap parts).length<=ls.length*n:=by
 induction ls with
 | nil=>simp
 | cons a r b =>
   have e:=h a (by simp);have d:=b λx c=>h x (by simp[c]);simp only[a1i,a0p,a0r,a0J,a2T];omega
theorem amz {w c U}(h:WC X)(B:X.size<=3280)(hh:X.size*dZ X<=524800)(J:w.length<=39)(r:∀f,Made X w c f->f∈U)(g):sV X w g->Fg c U g:=by
 have M:(Rj X (w++[c])).length<=21516800:=by rw[acL];have H:=agk X;simp[a0p,a0r,a1e];have G:ou (bG X)*(w.length+(0+1)+1)<=524800*41:=a0D (by omega) (by omega);omega
 have m:∀g,sV X w g->(parts (left c g)).length<=21516802:=λg d=>by
  have:=PE (WC.left c (YP h d)) (V:=Rj X (w++[c])) λp i=>by
   rcases amy h.1 d i with e|e|e
   .exact .inl e
   .exact .inr (.inl e)
   grind [E6]
  omega
 refine NF.ind (P:=λg=>sV X w g->Fg _ _ g) ?_ g;intro g q d;cases g with
 | zero=>trivial
 | one=>trivial
 | set s=>trivial
 | star a=>exact⟨q a (by simp[NF.size]) (Zt h.1 d),λf z=>r f (ajl h.1 d f z)⟩
 | pair a b =>
   have k:=YP h d;refine⟨q a (by simp[NF.size];omega) (Zs h.1 d),λf z=>r f (ajk h.1 d f z),λC=>⟨q b (by simp[NF.size];omega) (Pw h.1 d),?_⟩⟩;have y:left c (.pair a b)=bQ [aG (left c a) b,left c b]:=by simp only[left,C,a0G];rfl
   have D:WC a:=⟨k.1.1,k.2.1⟩;have hb:WC b:=⟨k.1.2.1,k.2.2⟩;have o:∀x ∈ [aG (left c a) b,left c b],WC x:=by
    intro x j;simp at j;rcases j with rfl|rfl
    .exact WC.then (WC.left c D) hb
    exact WC.left c hb
   refine⟨λ_=>?_,λ_=>?_,?_,by simp⟩
   .have:=acJ (c:=c) d;rw[y,UJ λx j=>(o x j).1]at this;exact r _ this
   .grind [Zx]
   have H:(parts (aG (left c a) b)).length<=21516802:=by
    have:=PE (o (aG (left c a) b) (by simp)) (V:=Rj X (w++[c])) λp i=>by
     obtain⟨Z,u,Y,t,v,E,F,ht,A,rfl,_,rfl⟩:=Mv h.1 d;rcases UT h.1 E F A i with e|e|e
     .exact .inl e
     .exact .inr (.inl e)
     grind [E6]
    omega
   have G:=m b (Pw h.1 d);simp only[a1i,a2E,a0p,a1e];omega
 | sum l =>
   have k:=YP h d;have hlen:=ae0 h d;have I:l.length<=131202:=by have:X.size*(w.length+1)<=3280*40:=a0D B (by omega);omega
   have y:left c (.sum l)=bQ (xy c l):=by simp only[left]
   have L:∀p∈l,WC p:=λp i=>⟨kJ.1 k.1.1 p i,wM.1 k.2.1 p i⟩;have o:∀x∈xy c l,WC x:=by grind [fP,WC.left,WC]
   have hd:∀p∈l,p.size<(NF.sum l).size:=λp i=>by have:=dx i;simp[NF.size];omega
   refine⟨PD.2 λp i=>?_,λ_=>?_,λ_=>?_,?_,?_⟩
   .rcases Zu h.1 d i with e|e|e
    .cases p<;>simp[dF]at e;trivial
    .subst e;trivial
    exact q p (hd p i) e
   .have:=acJ (c:=c) d;rw[y,UJ λx j=>(o x j).1]at this;exact r _ this
   .grind [Zx]
   .have:=acX (ls:=xy c l) (n:=21516802) (by
     intro x j;rw[fP]at j;obtain⟨p,i,rfl⟩:=a0q.1 j;rcases Zu h.1 d i with e|e|e
     .cases p<;>simp[dF]at e;simp only[left];split<;>simp[parts]
     .subst e;simp[left,parts]
     exact m p e)
    rw[fP,a0y]at this;rw[fP];omega
   grind [fP]
theorem Cc(j:wf x)(m:can x):(parts x).Nodup/\∃s,∀p∈parts x,dF p=true->p=.set s:=by
 cases x with
 | zero=>exact⟨by simp[parts],0,by simp[parts]⟩
 | one=>exact⟨by simp[parts],0,by simp[parts,dF]⟩
 | set s=>exact⟨by simp[parts],s,by simp[parts]⟩
 | pair a b=>exact⟨by simp[parts],0,by simp[parts,dF]⟩
 | star a=>exact⟨by simp[parts],0,by simp[parts,dF]⟩
 | sum l =>
   have c:mkS (gU (bN ([NF.sum l].flatMap parts)))=.sum l:=m.2;simp[a1i,a2E,a0R,parts]at c;have g:∀p∈gU (bN l),iU p=true:=by
    intro p e;rcases wI (kK e) with h|h
    .exact ET h
    exact j.2 p h
   have i:gU (bN l)=l:=by
    generalize n:gU (bN l)=L at *
    match L,c,g with
    | [],c,_=>simp[mkS]at c
    | [y],c,g=>have f:y=.sum l:=c;have d:=g y (by simp);rw[f]at d;simp[iU]at d
    | y::z::r,c,_=>simp[mkS,NF.sum.injEq]at c;exact c
   simp[parts];refine⟨by rw[<-i];exact Cb (xA _),bf l,λp e k=>?_⟩;rw[<-i]at e;have f:=kK e;unfold bN at f;rcases a0e.1 f with d|d
   .simp[k]at d
   grind
def amA(z):∀b:NF,ym b=false->b≠.one->ym (aG z b)=false/\aG z b≠.one:=by
 refine NF.ind (P:=λz=>∀b:NF,ym b=false->b≠.one->ym (aG z b)=false/\aG z b≠.one) ?_ z;intro z g b hb f;cases z with
 | zero=>exact⟨rfl,by simp[aG]⟩
 | one=>exact⟨by simpa[aG] using hb,by simpa[aG] using f⟩
 | pair c d =>
   cases b with
   | zero=>exact⟨by simp[aG,ym],by simp[aG]⟩
   | one=>exact absurd rfl f
   | set s=>simp[ym]at hb
   | sum l=>simp[ym]at hb
   | pair x y=>have e:=g d (by simp[NF.size];omega) (.pair x y) rfl (by simp);have h:=g c (by simp[NF.size];omega) _ e.1 e.2;simpa[aG] using h
   | star x=>have e:=g d (by simp[NF.size];omega) (.star x) rfl (by simp);simpa[aG] using (g c (by simp[NF.size];omega) _ e.1 e.2)
 | set s =>
   cases b with
   | one=>exact absurd rfl f
   | _=>simp[aG,ym]at hb |-
 | sum l =>
   cases b with
   | one=>exact absurd rfl f
   | _=>simp[aG,ym]at hb |-
 | star a =>
   cases b with
   | one=>exact absurd rfl f
   | _=>simp[aG,ym]at hb |-
theorem agv {y}(c:ym y=false):bQ [y]=y:=by
 cases y with
 | set s=>simp[ym]at c
 | sum l=>simp[ym]at c
 | zero=>rfl
 | one=>simp[bQ,parts,bN,dF,bf,bits,gU,put,mkS]
 | pair a b=>simp[bQ,parts,bN,dF,bf,bits,gU,put,mkS]
 | star a=>simp[bQ,parts,bN,dF,bf,bits,gU,put,mkS]
theorem acY(c):∀l:List NF,(l.map (left c)).flatMap parts=((l.filter (λx=>!vP x)).map (left c)).flatMap parts
 | []=>rfl
 | x::r=>by
   have a:=acY c r;cases b:vP x
   .grind
   grind [vP,left,parts]
theorem Kh(c)(h:nU x=true):ym (left c x)=false:=by
 cases x with
 | set s=>simp[left];split<;>rfl
 | star a=>simp[left];exact(amA _ (.star a) rfl (by simp)).1
 | zero=>simp[nU]at h
 | one=>simp[nU]at h
 | pair a b=>simp[nU]at h
 | sum l=>simp[nU]at h
theorem ajx(c)(h:JE l=false):ym (left c (.sum l))=false:=by grind [JE,nU,left,bQ,fP,acY,agv,Kh]
def rG:NF->Bool | .pair _ _=>true | .sum l=>JE l|_=>false
def aus(c)(h:ym (left c Y)=true):rG Y=true:=by
 cases Y with
 | zero=>simp[left,ym]at h
 | one=>simp[left,ym]at h
 | set s=>rw[Kh c rfl]at h;cases h
 | star a=>rw[Kh c rfl]at h;cases h
 | pair a b=>rfl
 | sum l =>
   cases hb:JE l
   .rw[ajx c hb]at h;cases h
   simpa[rG] using hb
theorem aoG(X):∀K t Y,(Y,t)∈hsk K X->t≠[]/\∃s,(Y,s)∈bG X/\t=s++K:=by
 refine NF.ind (P:=λX=>∀(K t:List NF) (Y:NF),(Y,t)∈hsk K X->t≠[]/\∃s,(Y,s)∈bG X/\t=s++K) ?_ X;intro X f K t Y h;cases X with
 | zero=>simp[hsk]at h
 | one=>simp[hsk]at h
 | set n=>simp[hsk]at h
 | pair a b =>
   simp[hsk,a0e]at h;rcases h with h|h
   .grind [NF.size,NF.size_pos,elems,BM]
   grind [NF.size,NF.size_pos,BN]
 | sum l =>
   simp[hsk,a0e]at h;rcases h with h|h
   .grind [fT]
   rw[MC]at h;obtain⟨x,g,h⟩:=h;obtain⟨e,s,d,c⟩:=f x (by have:=dx g;simp[NF.size];omega) _ t Y h;exact⟨e,s,JV g d,c⟩
 | star a =>
   simp only[hsk,a0e]at h;rcases h with h|h
   .split at h
    .simp at h
    simp at h;obtain⟨rfl,rfl⟩:=h;exact⟨by simp,[.star Y],by have:=wL (fT Y);simpa using this,rfl⟩
   obtain⟨e,s,d,c⟩:=f a (by simp[NF.size]) _ t Y h;exact⟨e,s++[.star a],wL d,by rw[c];simp⟩
def UU(X):∀Y t,can X->(Y,t)∈bG X->can Y:=by
 refine NF.ind (P:=λX=>∀(Y:NF) (t:List NF),can X->(Y,t)∈bG X->can Y) ?_ X;intro X d Y t c h;cases X with
 | zero=>simp[bG]at h;rw[h.1];omega
 | one=>simp[bG]at h;rw[h.1];omega
 | set n=>simp[bG]at h;rw[h.1];omega
 | pair a b =>
   simp only[bG,a0l,a0e,a0q,Prod.mk.injEq]at h;rcases h with⟨rfl,rfl⟩|⟨⟨f,s'⟩,ho,rfl,rfl⟩|ho
   .omega
   .exact d a (by simp[NF.size];omega) _ s' c.1 ho
   exact d b (by simp[NF.size];omega) _ t c.2 ho
 | sum l =>
   simp[bG,a0l,Prod.mk.injEq]at h;rcases h with⟨rfl,rfl⟩|ho
   .omega
   rw[EZ]at ho;obtain⟨x,e,ho⟩:=ho;exact d x (by have:=dx e;simp[NF.size];omega) _ t (wM.1 c.1 x e) ho
 | star a =>
   simp only[bG,a0l,a0q,Prod.mk.injEq]at h;rcases h with⟨rfl,rfl⟩|⟨⟨f,s'⟩,ho,rfl,rfl⟩
   .omega
   exact d a (by simp[NF.size]) _ s' c ho
def fO(k:Nat)(o:NF × List NF):Nat:=if dP o.1&&!(jK o.1&&o.2.isEmpty&&k==0) then nl o.1+tn o.2+k+1 else 0
theorem alb(h:t≠[]):3<=tn t:=by
 cases t with
 | nil=>exact absurd rfl h
 | cons x r=>simp[tn];omega
theorem agw(k o t)(ht:t≠[]):fO k (o.1,o.2++t)=fO (k+tn t) o:=by grind [alb,tn,fO,ak9]
def amB(X):∀k,wf X->((bG X).map (fO k)).sum<=oG X k:=by
 refine NF.ind (P:=λX=>∀k,wf X->((bG X).map (fO k)).sum<=oG X k) ?_ X;intro X d k c;cases X with
 | zero=>simp[bG,fO,dP]
 | one=>simp[bG,fO,dP]
 | set s=>simp[bG,fO,dP,jK,oG,tn]
 | pair a b =>
   have j:=d a (by simp[NF.size];omega) (k+(nl b+3)) c.1;have p:=d b (by simp[NF.size];omega) k c.2.1;simp[bG,a0E,a0P,a2m,a0Y,a1Y,oG];have e:(bG a).map (fO k ∘ λo=>(o.1,o.2++elems b))=(bG a).map (fO (k+(nl b+3))):=by
    refine a2s λo _=>?_;rw[Function.comp,agw _ o _ (EU _),acU c.2.1]
   rw[e];have f:fO k (NF.pair a b,[])=0:=by simp[fO,dP]
   rw[f,show k+nl b+3=k+(nl b+3) by omega];omega
 | sum l =>
   have n:∀(r:List NF),(∀x∈r,x∈l)->((Dz r).map (fO k)).sum<=XX r k:=by
    intro r;induction r with
    | nil=>intro _;simp[Dz,XX]
    | cons x r g=>intro i;have j:=d x (by have:=dx (i x (by simp));simp[NF.size];omega) k (kJ.1 c.1 x (i x (by simp)));have:=g (λy m=>i y (by simp[m]));simp[Dz,a0P,a1Y,XX];omega
   have j:=n l (λ_ h=>h);simp[bG,a0E,a0Y,oG];have f:fO k (NF.sum l,[])<=if k=0 then 0 else nl (.sum l)+k+1:=by simp[fO,dP,jK,tn]
   omega
 | star a =>
   have:=d a (by simp[NF.size]) (k+(nl (.star a)+3)) c.1;simp[bG,a0E,a2m,a0Y,oG];have e:(bG a).map (fO k ∘ λo=>(o.1,o.2++[.star a]))=(bG a).map (fO (k+(nl (.star a)+3))):=by simp[agw,tn]
   rw[e];have f:fO k (NF.star a,[])=nl (.star a)+k+1:=by simp[fO,dP,jK,tn]
   rw[f,show k+nl (.star a)+3=k+(nl (.star a)+3) by omega];omega
def fH(n:Nat)(o:NF × List NF):Nat:=if rG o.1 then sumTo (λj=>nB o.1 j+tn o.2+1) n else 0
theorem amC(X):∀K n,wf X->((hsk K X).map (fH n)).sum<=hG X (tn K) n:=by
 refine NF.ind (P:=λX=>∀(K:List NF) (n:Nat),wf X->((hsk K X).map (fH n)).sum<=hG X (tn K) n) ?_ X;intro X e K n d;cases X with
 | zero=>simp[hsk]
 | one=>simp[hsk]
 | set s=>simp[hsk]
 | pair a b=>have c:=e a (by simp[NF.size];omega) (elems b++K) n d.1;have q:=e b (by simp[NF.size];omega) K n d.2.1;rw[ak9,acU d.2.1,show nl b+3+tn K=tn K+nl b+3 by omega]at c;simp[hsk,a0P,a1Y,hG];omega
 | sum l =>
   have p:∀(r:List NF),(∀x∈r,x∈l)->((Ww K r).map (fH n)).sum<=XY r (tn K) n:=by
    intro r;induction r with
    | nil=>intro _;simp[Ww,XY]
    | cons x r f=>intro g;have c:=e x (by have:=dx (g x (by simp));simp[NF.size];omega) K n (kJ.1 d.1 x (g x (by simp)));have q:=f (λy m=>g y (by simp[m]));simp[Ww,a0P,a1Y,XY];omega
   have c:=p l (λ_ h=>h);simp[hsk,a0P,a1Y,hG];refine a2Y ?_ c;cases K with
   | nil=>simp
   | cons x k =>
     have u:=alb (t:=x::k) (by simp);have i:¬ tn (x::k)=0:=by omega
     simp[a1I,a0A,a0I,a0E,a1V,a0Y,List.sum_nil,a1Q,i];unfold fH;by_cases hb:JE l=true
     .simp[rG,hb,qJ,nB,oG,hG]
     simp[rG,hb]
 | star a =>
   have c:=e a (by simp[NF.size]) (.star a::K) n d.1;rw[show tn (.star a::K)=tn K+nl (.star a)+3 by simp[tn];omega]at c;simp[hsk,a0P,a1Y,hG];refine a2Y ?_ c;split
   .simp
   rename_i o;simp[a0E,a1V,a0Y,List.sum_nil,a1Q];unfold fH;have:rG a=gF a:=by cases a<;>simp[rG,gF,jK]at o |-
   by_cases hb:gF a=true
   .rw[a0m (show rG (a,NF.star a::K).1=true from this.trans hb),a0m hb];refine qJ λj _ _=>?_;simp[nB];rw[show tn (.star a::K)=tn K+nl (.star a)+3 by simp[tn];omega];omega
   grind
def ajy(f g):∀m,(∀i,i<m->f i<=g (m-i))->((List.range m).map f).sum<=sumTo g m:=by
 intro m;induction m generalizing f with
 | zero=>intro _;simp[sumTo]
 | succ m a =>
   intro h;rw[List.range_succ_eq_map,a0E,a2m,a0Y];have c:=a (f ∘ Nat.succ) (λi hi=>by have:=h (i+1) (by omega);rw[show m+1-(i+1)=m-i by omega]at this;exact this);have b:=h 0 (by omega);simp only[sumTo];rw[Nat.sub_zero]at b;omega
def ZI {α:Type}(F:α->List NF)(c):∀l:List α,(∀x∈l,sW (F x)<=c x)->sW (l.flatMap F)<=(l.map c).sum
 | [],_=>by simp[sW]
 | x::r,h=>by have d:=h x (by simp);have:=ZI F c r (λy a=>h y (by simp[a]));rw[a1i,ME];simp[a0E,a0Y];omega
def auu(X):wf X->can X->∀w n,w.length<=n->nl (dW X w)<=nB X n:=by
 refine NF.ind (P:=λX=>wf X->can X->∀(w:LN) (n:Nat),w.length<=n->nl (dW X w)<=nB X n) ?_ X;intro X C b u w n E;have a:=BR b w;obtain⟨B,f,j⟩:=Cc a (ala b u w)
 let K1:List NF:=(bG X).flatMap λo=>if dP o.1&&!(jK o.1&&o.2.isEmpty&&(0:Nat)==0) then [mk o.1 o.2] else []
 let K2:List NF:=(hsk [] X).flatMap λo=>if rG o.1 then (List.range w.length).map (λi=>mk (dW o.1 (w.drop i)) o.2) else []
 have I:sW K1<=oG X 0:=by
  refine a0h (ZI _ (fO 0) _ λo _=>?_) (amB X 0 b);unfold fO;split
  .simp[sW,aoE]
  simp[sW]
 have H:sW K2<=hG X 0 n:=by
  have z:=amC X [] n b;rw[show tn []=0 from rfl]at z;refine a0h (ZI _ (fH n) _ λo ho=>?_) z;obtain⟨Y,t⟩:=o;obtain⟨ht,s,e,q⟩:=aoG X [] t Y ho;rw[a0R]at q;subst q;unfold fH;simp only;split
  .refine a0h ?_ (sumTo_le E);unfold sW;rw[a2m];refine ajy _ _ w.length λi hi=>?_;have y:=C Y ((pZ e).2 ht) (bU b e).1 (UU X Y t u e) (w.drop i) (w.length-i) (by simp);simp only[Function.comp,aoE];omega
  simp[sW]
 have A:∀p∈parts (dW X w),p ∈ [NF.set f]++([NF.one]++(K1++K2)):=by
  intro p k;rcases ajr X b w p k with h|h|⟨Y,t,ho,hh,rfl⟩|⟨Y,t,v,ho,F,ht,d,m,hh,rfl,L⟩
  .rw[j p k h];simp
  .subst h;simp
  .refine a1o _ (a1o _ (a1B _ ?_));refine a1l.2 ⟨(Y,t),ho,?_⟩;have N:(dP Y&&!(jK Y&&t.isEmpty&&(0:Nat)==0))=true:=by
    rw[hh,a3k,a1j];cases g:jK Y
    .simp
    cases t with
    | nil =>
      have:=mY a k;cases Y<;>simp[jK]at g;simp[mk,iU]at this
    | cons x r=>simp
   simp only[N,a0G,a0w]
  refine a1o _ (a1o _ (a1o _ ?_));refine a1l.2 ⟨(Y,t),F,?_⟩;have M:rG Y=true:=by
   cases v with
   | nil=>exact absurd rfl d
   | cons c v=>exact aus c (L [c] ⟨v,rfl⟩ (by simp))
  simp only[M,a0G,a0q,a2b];have T:v.length<=w.length:=m.length_le;have:0<v.length:=a1O.2 d;exact⟨w.length-v.length,by omega,by rw[<-List.suffix_iff_eq_drop.1 m]⟩
 have y:=aeZ B A;rw[ME,ME,ME]at y;have:sW [NF.set f]<=514:=by have:=YO f;simp[sW];omega
 have:sW [NF.one]=2:=by simp[sW,nl,name]
 have:=amu a;unfold nB;omega
theorem PI(A):∀B:NF,wf A->aP A=true->wf B->aP B=true ->
 nl (aG A B)=nl A+nl B+3/\(∀k,oG (aG A B) k=oG A (k+nl B+3)+oG B k)/\∀k n,hG (aG A B) k n=hG A (k+nl B+3) n+hG B k n:=by
 refine NF.ind (P:=λA=>∀B:NF,wf A->aP A=true->wf B->aP B=true ->
  nl (aG A B)=nl A+nl B+3/\(∀k,oG (aG A B) k=oG A (k+nl B+3)+oG B k)/\∀k n,hG (aG A B) k n=hG A (k+nl B+3) n+hG B k n) ?_ A
 intro A i B q m j e;have head:dP A=true->nl (aG A B)=nl A+nl B+3/\(∀k,oG (aG A B) k=oG A (k+nl B+3)+oG B k)/\∀k n,hG (aG A B) k n=hG A (k+nl B+3) n+hG B k n:=λh=>by grind [aX,Fb,oG,hG]
 cases A with
 | zero=>simp[aP]at m
 | one=>simp[aP]at m
 | set s=>exact head rfl
 | sum l=>exact head rfl
 | star a=>exact head rfl
 | pair c d =>
   obtain⟨o,hd,g,b⟩:=q;obtain⟨d1,t,r⟩:=i d (by simp[NF.size];omega) B hd b j e;obtain⟨c1,c2,c3⟩:=i c (by simp[NF.size];omega) (aG d B) o (head_tail g) (lY hd j) (eP hd b e);rw[dA e];refine⟨by rw[c1,d1,Fb];omega,λk=>?_,λk n=>?_⟩
   .grind [oG,nl]
   grind [hG,nl]
structure zL(X:NF)(t:Nat)(C E e:Nat->Nat):Prop where
 t:nl X<=t
 c:∀n,oG X 0+hG X 0 n<=C n
 e:∀k n,1<=k->oG X k+hG X k n<=E n+e n*k
theorem zL.set(s):zL (.set s) 513 (λ_=>514) (λ_=>514) (λ_=>1):=by
 have:=YO s;refine⟨this,λn=>?_,λk n _=>?_⟩
 .simp[oG,hG];omega
 simp[oG,hG];omega
theorem zL.mono {t a C E e f d b}(h:zL X t C E e)(ht:t<=a)(hC:∀n,C n<=f n)(hE:∀n,E n<=d n)(he:∀n,e n<=b n):zL X a f d b :=
 ⟨a0h h.t ht,λn=>a0h (h.c n) (hC n),λk n g=>a0h (h.e k n g) (a2Y (hE n) (a0z k (he n)))⟩
theorem zL.then{B tA a u b eA CB j i}(f:zL A tA u b eA)(d:zL B a CB j i)(m:wf A)(o:aP A=true)(l:wf B)(tb:aP B=true) :
 zL (aG A B) (tA+a+3) (λn=>b n+eA n*(a+3)+CB n) (λn=>b n+eA n*(a+3)+j n) (λn=>eA n+i n):=by
 obtain⟨w,h,g⟩:=PI A B m o l tb;have:=f.t;have:=d.t;refine⟨by omega,λn=>?_,λk n p=>?_⟩
 .have:=f.e (0+nl B+3) n (by omega);have:=d.c n;have:eA n*(0+nl B+3)<=eA n*(a+3):=a0o _ (by omega);rw[h,g];omega
 have:=f.e (k+nl B+3) n (by omega);have:=d.e k n p;have:eA n*(k+nl B+3)<=eA n*(a+3)+eA n*k:=by rw[<-a1A];exact a0o _ (by omega)
 rw[h,g];simp[a0J];omega
theorem yJ(f g):∀n,sumTo (λj=>f j+g j) n=sumTo f n+sumTo g n
 | 0=>rfl
 | n+1=>by simp only[sumTo,yJ f g n];omega
theorem oO(a):∀n,sumTo (λ_=>a) n=n*a
 | 0=>by simp[sumTo]
 | n+1=>by simp only[sumTo,oO a n,a0J];omega
theorem zL.star {t C E e}(h:zL A t C E e) :
 zL (.star A) (t+1) (λn=>t+2+E n+e n*(t+4)+(if gF A then sumTo (λj=>C j+(t+523)) n else 0)) (λn=>t+2+E n+e n*(t+4)+(if gF A then sumTo (λj=>C j+(t+523)) n else 0)) (λn=>1+e n+(if gF A then n else 0)):=by
 have:=h.t;have:=ZE A;have key:∀k n,oG (.star A) k+hG (.star A) k n<=t+2+E n+e n*(t+4)+(if gF A then sumTo (λj=>C j+(t+523)) n else 0)+(1+e n+(if gF A then n else 0))*k:=by
  intro k n;have:=h.e (k+nl (.star A)+3) n (by omega);have:e n*(k+nl (.star A)+3)<=e n*(t+4)+e n*k:=by rw[<-a1A];exact a0o _ (by omega)
  simp[oG,hG,a0J];by_cases a:gF A=true
  .simp[a,a0G];have b:sumTo (λj=>518+oG A 0+hG A 0 j+(k+nl (.star A)+3)+1) n<=sumTo (λj=>C j+(t+523)+k) n :=
    qJ λj _ _=>by have:=h.c j;omega
   rw[yJ (λj=>C j+(t+523)) (λ_=>k),oO]at b;omega
  grind
 exact⟨by omega,λn=>by have:=key 0 n;omega,λk n _=>key k n⟩
def Rv(x):1<=nl x:=by obtain⟨c,r,h,_⟩:=Ps x;simp[nl,h]
theorem On{t}(h:∀i,s.testBit i=true->t.testBit i=true):∀k,(setName s k).length<=(setName t k).length
 | 0=>a0b _
 | k+1=>by
   have a:=On h k;simp only[setName,a0p];cases e:s.testBit k
   .simp;omega
   rw[h k e];omega
def agx{t}(h:∀i,s.testBit i=true->t.testBit i=true):nl (.set s)<=nl (.set t):=by simp_all[On,nl,name]
theorem ZK {a b}(e:wf a)(hb:wf b)(hz:b≠.zero):nl a<=nl (aG a b):=by
 by_cases d:aP a=true
 .by_cases c:aP b=true
  .have:=(PI a b e d hb c).1;omega
  rcases fQ c with h|h
  .exact absurd h hz
  grind [bF]
 rcases fQ d with h|h
 .rw[h];exact Rv _
 rw[h];exact Rv _
def agy {a b}(e:wf a)(hb:wf b)(hz:a≠.zero):nl b<=nl (aG a b):=by
 by_cases d:aP a=true
 .by_cases c:aP b=true
  .have:=(PI a b e d hb c).1;omega
  rcases fQ c with h|h
  .rw[h];exact Rv _
  rw[h];exact Rv _
 rcases fQ d with h|h
 .exact absurd h hz
 rw[h];exact a0b _
def aoH(f):∀l:List NF,(∀p∈l,nl p<=nl (f p))->sW l<=sW (l.map f)
 | [],_=>a0b _
 | p::r,h=>by have b:=h p (by simp);have a:=aoH f r (λq hq=>h q (by simp[hq]));rw[a0E,Ca,Ca];omega
def ZL {f:NF->NF}:∀{l:List NF},l.Nodup->(∀p∈l,∀q∈l,f p=f q->p=q)->(l.map f).Nodup
 | [],_,_=>List.nodup_nil
 | p::r,h,hi=>by obtain⟨i,g⟩:=a2R.1 h;rw[a0E,a2R];refine⟨λc=>?_,ZL g (λa d b hb=>hi a (by simp[d]) b (by simp[hb]))⟩;obtain⟨q,hq,e⟩:=a0q.1 c;have:=hi q (by simp[hq]) p (by simp) e;subst this;exact i hq
theorem acZ(d:∀x∈ls,wf x)(a:x∈ls)(k:can x) :
 ∃f:NF->NF,((parts x).map f).Nodup/\(∀p∈parts x,f p∈parts (bQ ls))/\∀p∈parts x,nl p<=nl (f p):=by
 obtain⟨j,s,o⟩:=Cc (d x a) k
 let S:=bf (ls.flatMap parts)
 have q:∀p∈parts x,dF p=true->S≠0/\nl p<=nl (.set S):=by
  intro p e c;cases p with
  | set m =>
    have g:∀i,m.testBit i=true->S.testBit i=true:=by intro i hi;show(bf _).testBit i=true;rw[mg,a1s];exact⟨_,a1l.2 ⟨x,a,e⟩,hi⟩
    refine⟨λl=>?_,agx g⟩;have n:m≠0:=by have:=(wK (d x a) e).1;omega
    obtain⟨i,hi⟩:=Nat.exists_testBit_of_ne_zero n;have:=g i hi;rw[l]at this;simp at this
  | _=>simp[dF]at c
 refine⟨λp=>if dF p then .set S else p,ZL j ?_,?_,?_⟩
 .grind [dF]
 .grind [rD,jl,dF]
 grind
def MH(c:∀x∈ls,wf x)(a:x∈ls)(e:can x):(parts x).length<=(parts (bQ ls)).length:=by
 obtain⟨f,h,g,i⟩:=acZ c a e;have:=qP h (by intro p d;obtain⟨q,hq,rfl⟩:=a0q.1 d;exact g q hq);simpa using this
def ZM(h:iU x=true):nl x+1=sW (parts x):=by rw[wJ h];simp[sW]
theorem or_mono(i:∀x∈ls,wf x)(j:x∈ls)(k:can x):nl x<=nl (bQ ls):=by
 obtain⟨f,B,A,w⟩:=acZ i j k;have u:=a0h (aoH f _ w) (aeZ B (by intro p t;obtain⟨q,hq,rfl⟩:=a0q.1 t;exact A q hq));have m:=MH i j k;have F:=Ms i;generalize bQ ls=y at *;have D:iU y=true->nl y+1=sW (parts y):=ZM;by_cases g:iU x=true
 .have e:=ZM g;by_cases d:iU y=true
  .have:=ZM d;omega
  cases y with
  | zero=>have:sW (parts .zero)=0:=rfl;omega
  | sum l=>have:=MF l;have C:sW (parts (.sum l))=sW l:=rfl;omega
  | _=>simp[iU]at d
 cases x with
 | zero=>exact Rv _
 | sum l =>
   have H:=MF l;have C:sW (parts (.sum l))=sW l:=rfl;have s:2<=l.length:=by
    have c:mkS (gU (bN ([NF.sum l].flatMap parts)))=.sum l:=k.2;simp[a1i,a2E,a0R,parts]at c;generalize v:gU (bN l)=L at c
    match L,c with
    | [],c=>simp[mkS]at c
    | [z],c =>
      have hz:z∈gU (bN l):=by rw[v];simp
      have E:z=.sum l:=c;rcases wI (kK hz) with h|h
      .grind [dF]
      have:=(i _ j).2 z h;rw[E]at this;simp[iU]at this
    | a::b::r,c=>simp[mkS,NF.sum.injEq]at c;rw[<-c];simp
   have n:2<=(parts y).length:=a0h s m;cases y with
   | sum l2=>have:=MF l2;have:sW (parts (.sum l2))=sW l2:=rfl;omega
   | _=>simp[parts]at n
 | _=>simp[iU]at g
def agz {c a b}(h:WC (.pair a b)):nl (left c a)<=nl (aG (left c a) b)/\nl (aG (left c a) b)<=nl (left c (.pair a b)):=by
 have f:WC a:=⟨h.1.1,h.2.1⟩;have hb:WC b:=⟨h.1.2.1,h.2.2⟩;have g:=h.1.2.2.2;have d:b≠.zero:=λe=>by rw[e]at g;simp[aP]at g
 refine⟨ZK (f.left c).1 hb.1 d,?_⟩;have ht:=(f.left c).then hb;simp only[left];split
 .exact or_mono (by simp;exact⟨ht.1,(hb.left c).1⟩) (by simp) ht.2
 omega
def agA {c a b}(h:WC (.pair a b))(d:dK a=true):nl (left c b)<=nl (left c (.pair a b)):=by have e:WC a:=⟨h.1.1,h.2.1⟩;have hb:WC b:=⟨h.1.2.1,h.2.2⟩;simp only[left];rw[a0m d];exact or_mono (by simp;exact⟨((e.left c).then hb).1,(hb.left c).1⟩) (by simp) (hb.left c).2
theorem agB {c a}(h:WC (.star a)):nl (left c a)<=nl (left c (.star a)):=by have b:WC a:=⟨h.1.1,h.2⟩;simp only[left];exact ZK (b.left c).1 h.1 (λe=>by simp at e)
mutual
def dB:RX->LN
 | .one s=>[s]
 | .seq l=>cz l
 | .alt l=>cz l
 | .rep x _ _=>dB x
def cz:List RX->LN
 | []=>[]
 | x::r=>dB x++cz r
end
theorem yK:∀a b,cz (a++b)=cz a++cz b
 | [],b=>by simp[cz]
 | x::a,b=>by simp[cz,yK a b]
theorem Ce(x):cz [x]=dB x:=by simp[cz]
def xJ:∀{k x y t r},dQ k x t=some (y,r)->dB y=dB x/\r.length<=t.length
 | 0,x,y,t,r,h=>by simp[dQ]at h
 | k+1,x,y,t,r,h=>by
   simp only[dQ]at h;split at h
   .split at h
    .simp at h
    rename_i b r' hb;have c:=E9 hb;have a:=xJ (k:=k) h;simp only[dB]at a;exact⟨a.1,by omega⟩
   simp[Option.some.injEq,Prod.mk.injEq]at h;obtain⟨rfl,rfl⟩:=h;exact⟨rfl,a0b _⟩
mutual
theorem Kj:∀{k nest:Nat} {t r:LB} {x:RX},ik k nest t=some (x,r)->(dB x).length+r.length<=t.length/\r.length+1<=t.length
 | 0,nest,t,r,x,h=>by simp[ik]at h
 | k+1,nest,[],r,x,h=>by simp[ik]at h
 | k+1,nest,c::q,r,x,h=>by
   simp only[ik]at h;split at h
   .split at h
    .simp at h
    split at h
    .simp at h
    rename_i g b a;have e:=PK (acc:=[]) a;split at h
    .rename_i f;have j:=jg f;simp at h;obtain⟨rfl,rfl⟩:=h;simp[cz]at e;exact⟨by simp;omega,by simp;omega⟩
    simp at h
   split at h
   .split at h
    .simp at h
    rename_i s b a;have e:=Kb a;simp at h;obtain⟨rfl,rfl⟩:=h;exact⟨by simp[dB];omega,by simp;omega⟩
   split at h
   .simp at h;obtain⟨rfl,rfl⟩:=h;exact⟨by simp[dB];omega,by simp⟩
   split at h
   .cases q with
    | nil=>simp at h
    | cons d i=>simp at h;obtain⟨rfl,rfl⟩:=h;exact⟨by simp[dB];omega,by simp⟩
   split at h
   .simp at h
   simp at h;obtain⟨rfl,rfl⟩:=h;exact⟨by simp[dB];omega,by simp⟩
theorem yL:∀{k nest:Nat} {acc:List RX} {t r:LB} {x:RX},jF k nest acc t=some (x,r)->(dB x).length+r.length<=(cz acc).length+t.length/\r.length<=t.length
 | 0,nest,acc,t,r,x,h=>by simp[jF]at h
 | k+1,nest,acc,t,r,x,h=>by
   simp only[jF]at h;split at h
   .grind [dB]
   split at h
   .simp at h
   rename_i e g b;have i:=Kj b;split at h
   .simp at h
   rename_i y f a;have d:=xJ a;have c:=yL (acc:=acc++[y]) h;rw[yK,Ce,d.1,a0p]at c;exact⟨by omega,by omega⟩
theorem PK:∀{k nest:Nat} {acc:List RX} {t r:LB} {x:RX},iQ k nest acc t=some (x,r)->(dB x).length+r.length<=(cz acc).length+t.length/\r.length<=t.length
 | 0,nest,acc,t,r,x,h=>by simp[iQ]at h
 | k+1,nest,acc,t,r,x,h=>by
   simp only[iQ]at h;split at h
   .simp at h
   rename_i a f c;have e:=yL (acc:=[]) c;simp only[cz,a1e]at e;split at h
   .rename_i b;have g:=jg b;have d:=PK (acc:=acc++[a]) h;rw[yK,Ce,a0p]at d;exact⟨by omega,by omega⟩
   simp at h;obtain⟨rfl,rfl⟩:=h;simp only[dB,yK,Ce,a0p];exact⟨by omega,by omega⟩
end
mutual
def dI:RX->Nat
 | .one _=>1
 | .seq l=>bV l
 | .alt l=>bV l
 | .rep x lo hi=>if 40<dI x then dI x else dI x*times lo hi
def bV:List RX->Nat
 | []=>0
 | x::r=>dI x+bV r
end
mutual
def uO:RX->Prop
 | .one _=>True
 | .seq l=>mZ l
 | .alt l=>mZ l
 | .rep x lo hi=>uO x/\lo<=9/\(∀n,hi=some n->n<=9)
def mZ:List RX->Prop
 | []=>True
 | x::r=>uO x/\mZ r
end
theorem By:∀{a b},mZ (a++b)↔mZ a/\mZ b
 | [],b=>by simp[mZ]
 | x::a,b=>by simp[mZ,By (a:=a),and_assoc]
def ac0 {lo hi}(b:lo<=9)(a:∀n,hi=some n->n<=9):times lo hi<=10:=by
 cases hi with
 | none=>simp[times];omega
 | some n=>have:=a n rfl;simp[times];omega
mutual
theorem ZN:∀{e:RX},uO e->dI e<=400*jX e
 | .one _,_=>by simp[dI,jX]
 | .seq l,h=>MJ (show mZ l from h)
 | .alt l,h=>by have:=MJ (show mZ l from h);simp only[dI,jX];omega
 | .rep x lo hi,h=>by
   have c:=ZN (show uO x from h.1);have a:=ac0 h.2.1 h.2.2;have b:=vU lo hi;simp only[dI,jX];split
   .omega
   have:dI x*times lo hi<=40*10:=a0D (by omega) a;omega
theorem MJ:∀{l:List RX},mZ l->bV l<=400*gu l
 | [],_=>by simp[bV]
 | x::r,h=>by have b:=ZN h.1;have a:=MJ h.2;simp only[bV,gu];omega
end
mutual
theorem rZ:∀{e:RX},dI e<=40->mh e=dI e
 | .one _,_=>rfl
 | .seq l,h=>Cf (show bV l<=40 from h)
 | .alt l,h=>Cf (show bV l<=40 from h)
 | .rep x lo hi,h=>by
   simp only[dI]at h |-;by_cases a:40<dI x
   .rw[a0m a]at h;omega
   rw[a0n a];simp only[mh];rw[rZ (e:=x) (by omega)]
theorem Cf:∀{l:List RX},bV l<=40->iO l=bV l
 | [],_=>rfl
 | x::r,h=>by simp only[bV]at h;simp only[iO,bV];rw[rZ (e:=x) (by omega),Cf (l:=r) (by omega)]
end
theorem ae1{t lo hi}(h:dL t=some ((lo,hi),r)):lo<=9/\(∀n,hi=some n->n<=9):=by
 unfold dL at h;split at h
 .simp at h
 rename_i a r' hd;have e:=aeV hd;split at h
 .split at h
  .rename_i n c b;have d:=aeV b;split at h
   .grind
   simp at h
  grind
 grind
theorem amD{t b}(h:DJ t=some (b,r)):b.1<=9/\(∀n,b.2=some n->n<=9):=by
 cases t with
 | nil=>simp[DJ]at h
 | cons c q =>
   simp only[DJ]at h;split at h
   .grind
   split at h
   .grind
   split at h
   .grind
   split at h
   .obtain⟨lo,hi⟩:=b;exact ae1 h
   simp at h
def Wx:∀{k x y t r},uO x->dQ k x t=some (y,r)->uO y
 | 0,x,y,t,r,_,h=>by simp[dQ]at h
 | k+1,x,y,t,r,a,h=>by
   simp only[dQ]at h;split at h
   .split at h
    .simp at h
    rename_i b r' hb;have c:=amD hb;exact Wx (k:=k) (show uO (.rep x b.1 b.2) from ⟨a,c⟩) h
   simp[Option.some.injEq,Prod.mk.injEq]at h;obtain⟨rfl,rfl⟩:=h;omega
mutual
theorem ajz:∀{k nest:Nat} {t r:LB} {x:RX},ik k nest t=some (x,r)->uO x
 | 0,nest,t,r,x,h=>by simp[ik]at h
 | k+1,nest,[],r,x,h=>by simp[ik]at h
 | k+1,nest,c::q,r,x,h=>by
   simp only[ik]at h;split at h
   .split at h
    .simp at h
    split at h
    .simp at h
    rename_i b f a;have e:=UW (acc:=[]) trivial a;split at h
    .simp at h;obtain⟨rfl,rfl⟩:=h;exact e
    simp at h
   split at h
   .split at h
    .simp at h
    simp at h;obtain⟨rfl,rfl⟩:=h;trivial
   split at h
   .simp at h;obtain⟨rfl,rfl⟩:=h;trivial
   split at h
   .cases q with
    | nil=>simp at h
    | cons d g =>
      simp at h;obtain⟨rfl,rfl⟩:=h;trivial
   split at h
   .simp at h
   simp at h;obtain⟨rfl,rfl⟩:=h;trivial
theorem ac1:∀{k nest:Nat} {acc:List RX} {t r:LB} {x:RX},mZ acc->jF k nest acc t=some (x,r)->uO x
 | 0,nest,acc,t,r,x,_,h=>by simp[jF]at h
 | k+1,nest,acc,t,r,x,a,h=>by
   simp only[jF]at h;split at h
   .simp at h;obtain⟨rfl,rfl⟩:=h;exact a
   split at h
   .simp at h
   rename_i e g c;have d:=ajz c;split at h
   .simp at h
   rename_i y f b;exact ac1 (acc:=acc++[y]) (By.2 ⟨a,Wx d b,trivial⟩) h
theorem UW:∀{k nest:Nat} {acc:List RX} {t r:LB} {x:RX},mZ acc->iQ k nest acc t=some (x,r)->uO x
 | 0,nest,acc,t,r,x,_,h=>by simp[iQ]at h
 | k+1,nest,acc,t,r,x,a,h=>by
   simp only[iQ]at h;split at h
   .simp at h
   rename_i c e d;have b:=ac1 (acc:=[]) trivial d;split at h
   .exact UW (acc:=acc++[c]) (By.2 ⟨a,b,trivial⟩) h
   simp at h;obtain⟨rfl,rfl⟩:=h;exact By.2 ⟨a,b,trivial⟩
end
theorem zM {t x}(h:fF t=some x):uO x:=by
 unfold fF at h;split at h
 .rename_i y a;simp at h;subst h;exact UW (acc:=[]) trivial a
 simp at h
inductive TR where
 | nil:TR
 | one:Nat->TR
 | both:TR->TR->TR
 | either:TR->TR->TR
 | often:TR->Nat->Option Nat->TR
mutual
def gW:RX->TR
 | .one s=>.one s
 | .seq l=>Ag .nil l
 | .alt l=>yu l
 | .rep x lo hi=>.often (gW x) lo hi
def Ag(r:TR):List RX->TR
 | []=>r
 | x::l=>Ag (.both r (gW x)) l
def yu:List RX->TR
 | []=>.nil
 | x::l=>Ah (gW x) l
def Ah(r:TR):List RX->TR
 | []=>r
 | x::l=>Ah (.either r (gW x)) l
end
def ac2:∀(l:List RX) (r:TR) (x:RX),Ag r (l++[x])=.both (Ag r l) (gW x)
 | [],r,x=>by simp only[a0V,Ag]
 | y::l,r,x=>by simp only[a0L,Ag];exact ac2 l _ x
def ac3:∀(l:List RX) (r:TR) (x:RX),Ah r (l++[x])=.either (Ah r l) (gW x)
 | [],r,x=>by simp only[a0V,Ah]
 | y::l,r,x=>by simp only[a0L,Ah];exact ac3 l _ x
def ajA {l:List RX}(h:l≠[])(x:RX):yu (l++[x])=.either (yu l) (gW x):=by
 cases l with
 | nil=>exact absurd rfl h
 | cons y l=>simp only[a0L,yu];exact ac3 l _ x
def dJ:TR->NF
 | .nil=>.one
 | .one s=>if s=0 then .zero else .set s
 | .both a b=>aG (dJ a) (dJ b)
 | .either a b=>kY (dJ a) (dJ b)
 | .often a lo hi=>kD (dJ a) lo hi
mutual
theorem Fj:∀(e:RX),tL e->dJ (gW e)=bn e
 | .one s,_=>rfl
 | .seq l,h=>by have:=ald l .nil WC.one h;simp only[gW,bn];rw[this];rfl
 | .alt l,h=>aoI l h.1 h.2
 | .rep x lo hi,h=>by simp only[gW,dJ,bn];rw[Fj x h.1]
theorem ald:∀(l:List RX) (r:TR),WC (dJ r)->jm l->dJ (Ag r l)=aG (dJ r) (sJ l)
 | [],r,_,_=>by simp only[Ag,sJ];rw[bF]
 | x::l,r,c,h=>by have b:=Fj x h.1;have a:WC (bn x):=uC h.1;simp only[Ag,sJ];rw[ald l _ (by simp only[dJ];rw[b];exact c.then a) h.2];simp only[dJ];rw[b,GK _ _ _ c.1 a.1]
theorem aoI:∀(l:List RX),jm l->l≠[]->dJ (yu l)=bQ (iP l)
 | [],_,h=>absurd rfl h
 | x::l,h,_=>by have a:=Fj x h.1;have b:WC (bn x):=uC h.1;simp only[yu,iP];rw[alf l (gW x) (by rw[a];exact b) h.2,a]
theorem alf:∀(l:List RX) (r:TR),WC (dJ r)->jm l->dJ (Ah r l)=bQ (dJ r::iP l)
 | [],r,a,_=>by simp only[Ah,iP];exact(Pv a.1 a.2).symm
 | x::l,r,a,h=>by have c:=Fj x h.1;have b:WC (bn x):=uC h.1;have e:=E8 h.2;simp only[Ah,iP];rw[alf l _ (by simp only[dJ];rw[c];exact a.or b) h.2];simp only[dJ];rw[c];have:=Ri (UK:=[dJ r,bn x]) (bs:=iP l) (by simp;exact⟨a.1,b.1⟩) (λy d=>(e y d).1);exact this
end
def zO:TR->Nat
 | .nil=>0
 | .one _=>1
 | .both a b=>zO a+zO b
 | .either a b=>zO a+zO b
 | .often a lo hi=>if 40<zO a then zO a else zO a*times lo hi
mutual
theorem Rx:∀(e:RX),zO (gW e)=dI e
 | .one s=>rfl
 | .seq l=>by have:=aoJ l .nil;simp only[gW,dI];rw[this];simp[zO]
 | .alt l=>arS l
 | .rep x lo hi=>by simp only[gW,zO,dI];rw[Rx x]
theorem aoJ:∀(l:List RX) (r:TR),zO (Ag r l)=zO r+bV l
 | [],r=>by simp[Ag,bV]
 | x::l,r=>by simp only[Ag,bV];rw[aoJ l,zO,Rx x];omega
theorem arS:∀(l:List RX),zO (yu l)=bV l
 | []=>rfl
 | x::l=>by simp only[yu,bV];rw[aoK l,Rx x]
theorem aoK:∀(l:List RX) (r:TR),zO (Ah r l)=zO r+bV l
 | [],r=>by simp[Ah,bV]
 | x::l,r=>by simp only[Ah,bV];rw[aoK l,zO,Rx x];omega
end
def jQ:TR->Nat × Bool
 | .nil=>(0,true)
 | .one _=>(1,true)
 | .both a b=>if 40<(jQ a).1+(jQ b).1 then (41,false) else ((jQ a).1+(jQ b).1,(jQ a).2&&(jQ b).2)
 | .either a b=>if 40<(jQ a).1+(jQ b).1 then (41,false) else ((jQ a).1+(jQ b).1,(jQ a).2&&(jQ b).2)
 | .often a lo hi=>if 40<(jQ a).1*times lo hi then (41,false) else ((jQ a).1*times lo hi,(jQ a).2)
theorem qa:∀t:TR,(jQ t).1<=41/\(zO t<=40->jQ t=(zO t,true))/\(40<zO t->(jQ t).2=false)
 | .nil=>by simp[jQ,zO]
 | .one s=>by simp[jQ,zO]
 | .both a b=>by
   obtain⟨e,d,c⟩:=qa a;obtain⟨b1,b2,f⟩:=qa b;simp only[jQ,zO];split
   .grind
   grind
 | .either a b=>by
   obtain⟨e,d,c⟩:=qa a;obtain⟨b1,b2,f⟩:=qa b;simp[jQ,zO];split
   .grind
   grind
 | .often a lo hi=>by
   obtain⟨e,d,c⟩:=qa a;simp[jQ,zO];by_cases g:40<zO a
   .grind
   grind
def kP:TR->LN
 | .nil=>[]
 | .one s=>[s]
 | .both a b=>kP a++kP b
 | .either a b=>kP a++kP b
 | .often a _ _=>kP a
mutual
theorem Bz:∀(e:RX),kP (gW e)=dB e
 | .one s=>rfl
 | .seq l=>by have:=agC l .nil;simp only[gW,dB];rw[this];rfl
 | .alt l=>amE l
 | .rep x lo hi=>by simp only[gW,kP,dB];rw[Bz x]
theorem agC:∀(l:List RX) (r:TR),kP (Ag r l)=kP r++cz l
 | [],r=>by simp[Ag,cz]
 | x::l,r=>by simp only[Ag,cz];rw[agC l,kP,Bz x,a0M]
theorem amE:∀(l:List RX),kP (yu l)=cz l
 | []=>rfl
 | x::l=>by simp only[yu,cz];rw[agD l,Bz x]
theorem agD:∀(l:List RX) (r:TR),kP (Ah r l)=kP r++cz l
 | [],r=>by simp[Ah,cz]
 | x::l,r=>by simp only[Ah,cz];rw[agD l,kP,Bz x,a0M]
end
def pq:Option Nat->Value
 | none=>.pointer none
 | some n=>zP n
def JF(k:Int)(L:List Bool)(a b:Value)(lo hi:Int):Array Value:=(zI k::(L.map Value.bool++[a,b,zI lo,zI hi])).toArray
def RK(w:World)(p:Nat)(k:Int)(L:List Bool)(a b:Value)(lo hi:Int):Prop :=
 w.heap[p]?=some (.cells (JF k L a b lo hi) 185 (0,0))/\L.length=256
theorem RK.lt {k a lo}(h:RK w p k L a b lo hi):p<w.heap.size:=(a0c.1 h.1).1
theorem RK.fz {k a lo}(h:RK w p k L a b lo hi)(o):w.frozen? (zB p o)=false:=by simp[World.frozen?,h.1]
theorem RK.aC {k a lo}(h:RK w p k L a b lo hi)(f:aB S w w')(c:p∉S):RK w' p k L a b lo hi:=⟨(f.block p h.lt c).trans h.1,h.2⟩
theorem RK.at {k a lo}(h:RK w p k L a b lo hi)(o v)(e:(JF k L a b lo hi).toList[o]?=some v):w.cell? ⟨p,o,none⟩=some v:=by
 simp only[World.cell?,h.1];simpa using e
theorem RK.c0 {k a lo}(h:RK w p k L a b lo hi):w.cell? ⟨p,0,none⟩=some (.int .i64 k):=h.at 0 _ (by simp[JF])
theorem RK.cin {k a lo}(h:RK w p k L a b lo hi)(c x)(d:L[c]?=some x):zC w p (1+c) (.bool x):=by have e:=(a0d.1 d).1;refine h.at (1+c) _ ?_;rw[a2w];simp only[JF,a1m];rw[a0s (by simp;omega)];simp[d]
theorem Ry {k a lo}(h:L.length=256)(j):(JF k L a b lo hi).toList[257+j]?=[a,b,zI lo,zI hi][j]?:=by grind [JF]
def RK.ends {k a lo}(h:RK w p k L a b lo hi):zC w p 257 a/\zC w p 258 b/\zC w p 259 (zI lo)/\zC w p 260 (zI hi) :=
 ⟨h.at 257 _ (Ry h.2 0),h.at 258 _ (Ry h.2 1),h.at 259 _ (Ry h.2 2),h.at 260 _ (Ry h.2 3)⟩
theorem RK.put {k a lo}(h:RK w p k L a b lo hi)(o v c)(e:(JF k L a b lo hi).toList.set o v=c.toList):(w.setCell (zB p o) v).heap[p]?=some (.cells c 185 (0,0)):=by
 have d:=h.1;simp only[World.setCell,a0v,d,a0G,a1x];have:(JF k L a b lo hi).setIfInBounds o v=c:=by apply Array.ext';simpa using e
 simp[this]
def RK.sin {k a lo}(h:RK w p k L a b lo hi)(c x)(d:c<256):RK (w.setCell (zB p (1+c)) (.bool x)) p k (L.set c x) a b lo hi:=by refine⟨h.put (1+c) _ _ ?_,by rw[a3p];exact h.2⟩;rw[a2w];simp only[JF,a1S];rw[List.set_append_left _ _ (by simp[h.2];omega)];simp[a2d]
def RK.slo {k a lo}(h:RK w p k L a b lo hi)(m):RK (w.setCell (zB p 259) (zI m)) p k L a b m hi:=by refine⟨h.put 259 _ _ ?_,h.2⟩;simp only[JF,a1S];rw[a1v _ _ (by simp[h.2])];simp[h.2]
def RK.shi {k a lo}(h:RK w p k L a b lo hi)(m):RK (w.setCell (zB p 260) (zI m)) p k L a b lo m:=by refine⟨h.put 260 _ _ ?_,h.2⟩;simp only[JF,a1S];rw[a1v _ _ (by simp[h.2])];simp[h.2]
def RK.new {k a lo}(w:World)(c:L.length=256):RK (w.alloc (.cells (JF k L a b lo hi) 185)) w.heap.size k L a b lo hi:=⟨bD _ _,c⟩
def nF:List Bool:=List.replicate 256 false
theorem qQ:nF.length=256:=List.length_replicate
def bl(s:Nat):List Bool:=(List.range 256).map λi=>s.testBit i
theorem ak0(s):(bl s).length=256:=by simp[bl]
theorem Ib(s i)(h:i<256):(bl s)[i]?=some (s.testBit i):=by simp[bl,h]
theorem Rz:bl 0=nF:=by apply a3g (by rw[ak0,qQ]);intro i b a;simp only[bl,nF,List.getElem_map,List.getElem_replicate,Nat.zero_testBit]
theorem alg(s c)(a:c<256):(bl s).set c true=bl (s ||| 2 ^ c):=by
 apply a3g (by simp[bl]);intro i d b;simp only[bl,List.getElem_set,List.getElem_map,List.getElem_range,a2D,a2I];by_cases h:c=i
 .simp[h]
 simp[h]
def hiT:Option Nat->Int
 | none=>-1
 | some n=>n
def RN(w:World):Nat->TR->Prop
 | p,.nil=>RK w p 0 nF (.pointer none) (.pointer none) 0 0
 | p,.one s=>RK w p 1 (bl s) (.pointer none) (.pointer none) 0 0
 | p,.both x y=>∃a b,RK w p 2 nF (pq (some a)) (pq (some b)) 0 0/\RN w a x/\RN w b y
 | p,.either x y=>∃a b,RK w p 3 nF (pq (some a)) (pq (some b)) 0 0/\RN w a x/\RN w b y
 | p,.often x lo hi=>∃a,RK w p 4 nF (pq (some a)) (.pointer none) lo (hiT hi)/\RN w a x
def dX(w w':World):Prop:=∀(k:Nat) (cur:Array Value) (fz:Nat × Nat),w.heap[k]?=some (Obj.cells cur 185 fz)->w'.heap[k]?=w.heap[k]?
theorem RK.aY {k a lo}(h:RK w p k L a b lo hi)(f:dX w w'):RK w' p k L a b lo hi:=⟨(f p _ _ h.1).trans h.1,h.2⟩
theorem RN.aY(f:dX w w'):∀{t p},RN w p t->RN w' p t
 | .nil,p,h=>RK.aY h f
 | .one s,p,h=>RK.aY h f
 | .both x y,p,⟨a,b,d,c,e⟩=>⟨a,b,d.aY f,RN.aY f c,RN.aY f e⟩
 | .either x y,p,⟨a,b,d,c,e⟩=>⟨a,b,d.aY f,RN.aY f c,RN.aY f e⟩
 | .often x lo hi,p,⟨a,d,c⟩=>⟨a,d.aY f,RN.aY f c⟩
theorem dX.refl(w):dX w w:=λ_ _ _ _=>rfl
theorem dX.trans {a b c}(h:dX a b)(k:dX b c):dX a c:=λi cur fz e=>by have d:=h i cur fz e;rw[k i cur fz (d.trans e),d]
theorem dX.aC(f:aB S w w')(c:∀b∈S,∀cur fz,w.heap[b]?≠some (.cells cur 185 fz)):dX w w':=λk cur fz e=>f.block k (a0c.1 e).1 (λa=>c k a cur fz e)
theorem QP.keepR {b t ok}(h:QP w b t ok)(f:aB [b] w w'):dX w w' :=
 dX.aC f (λk a cur fz e=>by simp only[a0w]at a;subst a;rw[h.1]at e;simp at e)
def hb:LB->UInt8
 | []=>0
 | c::_=>c
theorem uS(t):gT t=(hb t).toNat:=by cases t<;>rfl
def dgL:LB:=[48,49,50,51,52,53,54,55,56,57]
def amF:bs dgL=⟨#[48,49,50,51,52,53,54,55,56,57]⟩:=rfl
def auw(t):(oM dgL (hb t)&&!t.isEmpty)=(di t).isSome:=by
 cases t with
 | nil=>rfl
 | cons c r =>
   have:∀c:UInt8,(oM dgL c&&true)=(if 48<=c&&c<=57 then (some (0,r):Option (Nat × LB)) else none).isSome:=by intro c;have h:=vO (p:=λc=>(oM dgL c&&true)==(decide (48<=c)&&decide (c<=57))) (by decide +kernel) c;rw[a0W]at h;rw[h];cases (decide (48<=c)&&decide (c<=57))<;>rfl
   have h:=this c;simp only[hb,a1I,a1K];rw[h];simp only[di];split<;>rfl
def Wy(b t ok w)(h:QP w b t ok) :
 zF 122 #[zP b] w λe w'=>e=zR (zI (((hb t).toNat:Int)-48))/\QP w' b t.tail (ok&&(di t).isSome)/\aB [b] w w':=by
 have g:=amF;have k:=(hb t).toNat_lt;delta zF;go_in;go_wp2_with fail;refine(jY _ _ _ _ h).mono ?_;rintro e f ⟨rfl,a,F1⟩;have c1:=a.c1;have i:=a.fz 1;rw[uS];have A:=vR (hb t) dgL f (by decide);rw[g]at A;go_wp2_with fail;refine A.mono ?_;rintro e j ⟨rfl,rfl⟩;have c:=auw t;cases d:oM dgL (hb t)
 .have O:=a.off;rw[d]at c;go_wp2;go_ret;refine⟨rfl,?_,F1.setCell (.inl (by simp)) _⟩;have:=c;rw[<-this];simp only[Bool.false_and,Bool.and_false];exact O
 go_wp2;go_ret;refine⟨rfl,?_,F1⟩;have:=c;rw[d]at this;rw[<-this,a3k];exact a
def nmL:LB:=[93,45,91]
def amG:bs nmL=⟨#[93,45,91]⟩:=rfl
def auy(c):oM nmL c=(c==93||c==91||c==45):=by have h:=vO (p:=λc=>oM nmL c==(c==93||c==91||c==45)) (by decide +kernel) c;exact a0W.1 h
def MQ(b:Nat)(t:LB)(w:World)(e:Ending)(w':World):Prop :=
 ∃(n:UInt8) (r:LB) (ok:Bool),e=zR (zI n.toNat)/\QP w' b r ok/\aB [b] w w'/\((ok=true/\lh t=some (n,r))\/(ok=false/\lh t=none))
def AJ(c)(n:Nat)(h:n<256):(((c.toNat:Nat):Int)==(n:Int))=(c==UInt8.ofNat n):=by
 by_cases e:c=UInt8.ofNat n
 .subst e;have:(UInt8.ofNat n).toNat=n:=by simp;omega
  rw[this];simp
 have b:(c==UInt8.ofNat n)=false:=by simpa using e
 rw[b,a0j];intro d;apply e;have a:c.toNat=n:=by omega
 rw[<-a,UInt8.ofNat_toNat]
def RF(b t w)(h:QP w b t true) :
 zF 137 #[zP b] w (MQ b t w):=by
 have q:=amG;have:=(hb t).toNat_lt;delta zF;go_in;go_wp2_with fail;refine(jY _ _ _ _ h).mono ?_;rintro e m ⟨rfl,j,F1⟩;have:=j.c1;have:=j.fz 1;rw[uS];have A:=vR (hb t) nmL m (by decide);rw[q]at A;go_wp2_with fail;refine A.mono ?_;rintro e o ⟨rfl,rfl⟩;have g:=AJ (hb t) 92 (by decide);have l:=auy (hb t);cases k:oM nmL (hb t)
 .cases a:(hb t==92)
  .have i:(((hb t).toNat:Int)==92)=false:=g.trans a;clear g;go_wp2;go_ret;refine⟨hb t,t.tail,true&&!t.isEmpty,rfl,j,F1,?_⟩;cases t with
   | nil=>exact .inr ⟨rfl,rfl⟩
   | cons c r=>refine .inl ⟨rfl,?_⟩;have f:=l;rw[k]at f;simp only[hb]at f a;simp only[lh,a,<-f,hb,a1L,a0A,a0I]
  have i:(((hb t).toNat:Int)==92)=true:=g.trans a;clear g;have s:t≠[]:=by intro e;rw[e]at a;revert a;decide
  go_wp2_with fail;refine(jY b t.tail _ m j).mono ?_;rintro e o ⟨rfl,u,n⟩;have F2:=F1.trans n;clear n;rw[uS];have:=(hb t.tail).toNat_lt;go_wp2;go_ret;refine⟨hb t.tail,t.tail.tail,_,rfl,u,F2,?_⟩;cases t with
  | nil=>exact absurd rfl s
  | cons c r =>
    simp only[hb]at a;cases r with
    | nil=>exact .inr ⟨rfl,by simp only[lh,a,a0G]⟩
    | cons d r=>exact .inl ⟨rfl,by simp only[lh,a,a0G,hb,a1L]⟩
 have O:=j.off;have a:(hb t==92)=false:=by
  have f:=l;rw[k]at f;cases hh:(hb t==92)
  .rfl
  rw[a0W]at hh;rw[hh]at f;revert f;decide
 have:(((hb t).toNat:Int)==92)=false:=g.trans a;clear g;go_wp2;go_ret;refine⟨hb t,t.tail,false,rfl,O,F1.setCell (.inl (by simp)) _,.inr ⟨rfl,?_⟩⟩;cases t with
 | nil=>rfl
 | cons c r=>have f:=l;rw[k]at f;simp only[hb]at f a;simp only[lh,a,<-f,a0A,a0I,a0G]
def wN(L:List Bool)(lo:Nat):Nat->List Bool
 | 0=>L
 | j+1=>(wN L lo j).set (lo+j) true
theorem ZQ(s lo):∀j,lo+j<=256->wN (bl s) lo j=bl (vg s lo j)
 | 0,_=>rfl
 | j+1,h=>by rw[wN,ZQ s lo j (by omega),alg _ _ (by omega)];rfl
def PM(L:List Bool)(j:Nat):List Bool:=(L.take j).map (!·)++L.drop j
theorem ak1(L):PM L 0=L:=by simp[PM]
def agE(L j x)(h:L[j]?=some x):(PM L j)[j]?=some x:=by have a:=(a0d.1 h).1;unfold PM;rw[a0K (by simp;omega),a0y,a1k,a2n (by omega),a2v,a3u,a1Q,h]
def agF(L j x)(h:L[j]?=some x):(PM L j).set j (!x)=PM L (j+1):=by
 have a:=(a0d.1 h).1;have he:=(a0d.1 h).2;unfold PM;rw[a1v _ _ (by simp;omega),a0y,a1k,a2n (by omega),a2v,a0k a,List.set_cons_zero,a0F a,a0P,a0M,he];rfl
theorem alh(s):PM (bl s) 256=bl (s ^^^ fU):=by unfold PM;rw[a0C (by rw[ak0];omega),a0i (by rw[ak0];omega),a0R];unfold bl;rw[a2m];apply a2s;intro i hi;have a:=a2b.1 hi;simp only[Function.comp,a2o,fU,a3c,a,decide_true];cases s.testBit i<;>rfl
def CQ(b p:Nat)(t:LB)(w:World)(e:Ending)(w':World):Prop :=
 ∃(r:LB) (ok:Bool) (L:List Bool),e=zQ #[]/\QP w' b r ok/\RK w' p 1 L (.pointer none) (.pointer none) 0 0/\aB [b,p] w w'/\((ok=true/\∃s,L=bl s/\nT t=some (s,r))\/(ok=false/\nT t=none))
theorem jf(c)(a:c≠0)(t):bA c t=(hb t==c):=by
 cases t with
 | nil=>simp[bA,hb];exact λe=>a e.symm
 | cons x r=>rfl
def ajB(t):nT t=match fE (t.length+1) 0 (if bA 94 t then t.tail else t) with | none=>none|some (s,r)=>some (if bA 94 t then s ^^^ fU else s,r):=by
 unfold nT;cases bA 94 t
 .simp only[a0A,a0I];cases fE (t.length+1) 0 t with
  | none=>rfl
  | some x=>rfl
 rfl
theorem as0(k s t):fE (k+1) s t=match tN t with | none=>none|some ((a,b),r)=>if bA 93 r then some (addRange s a b,r.tail) else fE k (addRange s a b) r:=rfl
def aB.in1{b}(h:aB [b] w w'):aB [b,p] w w':=h.mono (λk _ a=>by simp at a |-;omega)
def ZR {b k a n m}(h:fE (k+1) s r=b)(hi:tN r=some ((n,m),a)) :
 n.toNat<=m.toNat->wN (bl s) n.toNat (m.toNat+1-n.toNat)=bl (addRange s n m)/\b=if bA 93 a then some (addRange s n m,a.tail) else fE k (addRange s n m) a:=by
 intro c;have d:=m.toNat_lt;refine⟨ZQ s _ _ (by omega),?_⟩;rw[<-h,as0,hi]
def Ie {a k}(h:fE (k+1) s r=a)(hi:tN r=none):a=none:=by rw[<-h,as0,hi]
def ae2(w0 b p t w)(h:QP w b t true)(hk:RK w p 1 nF (.pointer none) (.pointer none) 0 0)(bJ:b≠p)(hF:aB [b,p] w0 w) :
 zF 121 #[zP b,zP p] w (CQ b p t w0):=by
 have H:=aj h;have K:=aj hk;have F:=aj hF;clear h hk hF;have Hc:=aj (ajB t);have H94:=jf 94 (by decide) t;have e94:=AJ (hb t) 94 (by decide);have Ev:p ∉ [b]:=by simp;omega
 have hbp:b ∉ [p]:=by simp;omega
 go_enter Tryz.func121,Tryz.ntmps121
 go_wp2_with fail;refine(vV _ _ _ _ H).mono ?_;rintro e _ ⟨rfl,rfl⟩;rw[uS];have hb8:=(hb t).toNat_lt;have f94:(((hb t).toNat:Int)==94)=bA 94 t:=e94.trans H94.symm;clear e94 H94;obtain⟨i,Fq⟩:∃i,fE (t.length+1) 0 (if bA 94 t then t.tail else t)=i:=⟨_,rfl⟩;rw[Fq]at Hc;cases l:bA 94 t
 case' true =>
  rw[l]at f94;have vY:t.isEmpty=false:=by
   cases t with
   | nil=>simp[bA]at l
   | cons x r=>rfl
  go_wp2_with fail;refine(jY b t true w H).mono ?_;rintro e w ⟨rfl,jb,aZ⟩;rw[vY]at jb;have K:=aj (K.o.aC aZ Ev);have F:=aj (F.o.trans aZ.in1);have H:=aj jb;clear jb aZ vY
 case' false =>
  rw[l]at f94
 all_goals
  rw[l]at Fq;simp only[a1K,a3k,a0A,a0I,a0G]at H Fq
 case' true=>have qR:t.tail.length<=t.length:=by simp
 case' false=>have qR:t.length<=t.length:=a0b _
 case' true=>generalize t.tail=t1 at qR Fq H
 case' false=>obtain⟨t1,iB⟩:∃t1,t1=t:=⟨_,rfl⟩
 case' false=>have H:Z_ (QP w b t1 true):=by rw[iB];omega
 case' false=>have Fq:fE (t.length+1) 0 t1=i:=by rw[iB];omega
 case' false=>have qR:t1.length<=t.length:=by rw[iB];omega
 all_goals
  go_wp2_with fail;go_loopg [4] (t.length+2) (λk v4 wr=>∃(r:LB) (ok:Bool) (L:List Bool) (c4:UInt8),v4=.int .u8 c4.toNat/\QP wr b r ok/\RK wr p 1 L (.pointer none) (.pointer none) 0 0/\aB [b,p] w0 wr/\((ok=true/\∃s R,L=bl s/\k=R+1/\r.length+1<=R/\fE R s r=i)\/(ok=false/\i=none)))
  case atStart =>
   exact⟨t1,true,nF,hb t,rfl,H,K,F,.inl ⟨rfl,0,t.length+1,Rz.symm,rfl,by omega,Fq⟩⟩
  case round =>
   clear H K F;obtain⟨r,ok,L,c4,rfl,hp,hk,hf,hd⟩:=hrel;have P:=aj hp;have K2:=aj hk;have F2:=aj hf;have c1:=hp.c1;have Hl:=aj hk.2;clear hp hk hf;cases ok
   case false =>
    obtain⟨C,Wz⟩:∃o,o=false:=⟨_,rfl⟩;obtain⟨O,A⟩:∃o,o=r:=⟨_,rfl⟩;obtain⟨u,ZS⟩:∃o,o=L:=⟨_,rfl⟩;have D6:Z_ ((C=true/\∃s,u=bl s/\i=some (s,O))\/(C=false/\i=none)):=by
     rcases hd with⟨h,_⟩|⟨_,h⟩
     .cases h
     exact .inr ⟨Wz,h⟩
    have P6:Z_ (QP wr b O C):=by rw[Wz,A];exact P
    have K6:Z_ (RK wr p 1 u (.pointer none) (.pointer none) 0 0):=by rw[ZS];exact K2
    have F6:=F2;clear P K2 F2 hd Wz A ZS;go_wp2_with fail;go_loopg [10] 256 (λk vi wr=>∃(j:Nat),j+k=256/\vi=zI j/\QP wr b O C/\RK wr p 1 (PM u j) (.pointer none) (.pointer none) 0 0/\aB [b,p] w0 wr/\(bA 94 t=false->j=0));case atStart=>exact⟨0,rfl,rfl,P6,by rw[ak1];exact K6,F6,λ_=>rfl⟩
    case round =>
     clear P6 K6 F6;obtain⟨j,lU,rfl,T,v,Aj,rC⟩:=hrel;have P7:=aj T;have K7:=aj v;have F7:=aj Aj;have Nw:=v.fz;have Hl:=aj v.2;clear T v Aj;by_cases X:j<256
     .first
      | (have aoL:bA 94 t=false:=by rw[l]
         have aoM:=rC aoL;subst aoM;go_wp2;go_end0;refine⟨O,C,u,rfl,P7,by have:=K7.o;rw[ak1]at this;omega,F7,?_⟩;rw[Hc.o,l];rcases D6.o with⟨d,s,g,N⟩|⟨d,g⟩
         .exact .inl ⟨d,s,g,by rw[N];rfl⟩
         exact .inr ⟨d,by rw[g]⟩)
      | (have ZS:u.length=256:=by
          have:=Hl.o;unfold PM at this;simp at this;omega
         obtain⟨x,hx⟩:∃x,u[j]?=some x:=⟨u[j]'(by omega),a0a (by omega)⟩;have hc7:=K7.o.cin j x (agE u j x hx);have K8:=aj (K7.o.sin j (!x) X);have Hfs:=aj (agF u j x hx);go_wp2_with fail;go_region;go_wp2;go_roundg (gk-1);case measure=>omega
         case rel =>
          refine⟨j+1,by omega,by go_num,?_,?_,(F7.o.setCell (.inl (by simp)) _).drew,λe=>by rw[l]at e;simp at e⟩
          .exact P7.o.aC (S:=[p]) (aB.drew ((aB.refl [p] _).setCell (p:=(zB p (1+j))) (.inl (by simp)) _)) hbp
          rw[<-Hfs.o];exact K8)
     have I:j=256:=by omega
     subst I;have RJ:bA 94 t=true:=by
      cases hh:bA 94 t
      .have:=rC hh;omega
      rfl
     go_wp2;go_end0;refine⟨O,C,PM u 256,rfl,P7,K7,F7,?_⟩;rw[Hc.o,RJ];rcases D6.o with⟨d,s,g,N⟩|⟨d,g⟩
     .exact .inl ⟨d,s ^^^ fU,by rw[g,alh],by rw[<-RJ,N,RJ];rfl⟩
     exact .inr ⟨d,by rw[<-RJ,g]⟩
   case true =>
    have gJ:∃s R,L=bl s/\gk=R+1/\r.length+1<=R/\fE R s r=i:=by
     rcases hd with⟨_,h⟩|⟨h,_⟩
     .exact h
     cases h
    obtain⟨s,R,hLs,RU,_,Yb⟩:=gJ;obtain⟨k2,rfl⟩:∃k2,R=k2+1:=⟨R-1,by omega⟩;clear hd;go_wp2_with fail;refine(RF b r wr P).mono ?_;rintro e w2 ⟨n,f,E,rfl,dm,aR,ll⟩;have P2:=aj dm;have K3:=aj (K2.o.aC aR Ev);have F3:=aj (F2.o.trans aR.in1);have D2:=aj ll;have n8:=n.toNat_lt;have c2:=dm.c1;clear dm aR ll P K2 F2 c1;go_wp2_with fail;refine(vV b f E w2 P2).mono ?_;rintro e w3 ⟨rfl,rfl⟩;rw[uS];have h18:=(hb f).toNat_lt;have B:=AJ (hb f) 45 (by decide);have M:=jf 45 (by decide) f;cases G:(hb f==45)
    case' true=>cases E
    case' true.true =>
     have f45:(((hb f).toNat:Int)==45)=true:=B.trans G;have ali:bA 45 f=true:=M.trans G;have avE:f.isEmpty=false:=by
      cases f with
      | nil=>simp[bA]at ali
      | cons x q=>rfl
     have avF:lh r=some (n,f):=by
      rcases D2.o with⟨_,h⟩|⟨h,_⟩
      .exact h
      cases h
     clear B M;go_wp2_with fail;refine(jY b f true w2 P2).mono ?_;rintro e w3 ⟨rfl,pK,bW⟩;rw[avE]at pK;have P3:=aj pK;have K4:=aj (K3.o.aC bW Ev);have F4:=aj (F3.o.trans bW.in1);clear pK bW P2 K3 F3;go_wp2_with fail;refine(RF b f.tail w3 P3).mono ?_;rintro e w2 ⟨m,a,ok3,rfl,dm,aR,ll⟩;have m8:=m.toNat_lt;have c3:=dm.c1;have z3:=dm.fz 1;have P4:=aj dm;have K4:=aj (K4.o.aC aR Ev);have F4:=aj (F4.o.trans aR.in1);have gG:tN r=match lh f.tail with | none=>none|some (b,r2)=>if n<=b then some ((n,b),r2) else none:=by
      unfold tN;rw[avF];simp only[ali,a0G]
     clear dm aR P3;by_cases aL:m.toNat<n.toNat
    case' pos =>
     have HR:i=none:=by
      refine Ie Yb ?_;rw[gG];rcases ll with⟨_,h⟩|⟨_,h⟩
      .rw[h];exact a0n (λhh=>by have:=a1p.1 hh;omega)
      rw[h]
     have P4:=aj P4.o.off;have K4:=aj (K4.o.aC ((aB.refl [b] _).setCell (p:=(zB b 1)) (.inl (by simp)) (.bool false)) Ev);have F4:=aj (F4.o.setCell (p:=(zB b 1)) (.inl (by simp)) (.bool false));clear gG ll D2;obtain⟨lo,z⟩:∃lo,lo=n.toNat:=⟨_,rfl⟩;obtain⟨hi,V⟩:∃hi,hi=m.toNat:=⟨_,rfl⟩;go_wp2_with fail;rw[<-z,<-V];have aoN:lo<256:=by omega
     have aoO:hi<256:=by omega
     clear z V;generalize w2.setCell (zB b 1) (.bool false)=D at P4 K4 F4 |-;obtain⟨y,ZT⟩:∃o,o=false:=⟨_,rfl⟩;have U:Z_ ((y=true/\∃s',wN L lo (hi+1-lo)=bl s'/\a.length+1<=k2/\i=if bA 93 a then some (s',a.tail) else fE k2 s' a)\/(y=false/\i=none)):=.inr ⟨ZT,HR⟩;have P4:Z_ (QP D b a y):=by rw[ZT];exact P4
     clear ZT
    case' neg =>
     have U:Z_ ((ok3=true/\∃s',wN L n.toNat (m.toNat+1-n.toNat)=bl s'/\a.length+1<=k2/\i=if bA 93 a then some (s',a.tail) else fE k2 s' a)\/(ok3=false/\i=none)):=by
      rcases ll with⟨d,h⟩|⟨d,h⟩
      .have J:tN r=some ((n,m),a):=by
        rw[gG,h];exact a0m (a1p.2 (by omega))
       have:=ZR Yb J (by omega);rw[hLs];exact .inl ⟨d,_,this.1,by have:=BZ J;omega,this.2⟩
      exact .inr ⟨d,Ie Yb (by rw[gG,h])⟩
     clear gG ll D2;obtain⟨lo,z⟩:∃lo,lo=n.toNat:=⟨_,rfl⟩;obtain⟨hi,V⟩:∃hi,hi=m.toNat:=⟨_,rfl⟩;rw[<-z,<-V]at U;go_wp2_with fail;rw[<-z,<-V];have aoN:lo<256:=by omega
     have aoO:hi<256:=by omega
     clear z V;obtain⟨D,rfl⟩:∃D,D=w2:=⟨_,rfl⟩;obtain⟨y,rfl⟩:∃o,o=ok3:=⟨_,rfl⟩
    case' true.false =>
     have f45:(((hb f).toNat:Int)==45)=true:=B.trans G;have HR:i=none:=by
      refine Ie Yb ?_;rcases D2.o with⟨h,_⟩|⟨_,h⟩
      .cases h
      unfold tN;rw[h]
     clear B M D2;obtain⟨lo,z⟩:∃lo,lo=n.toNat:=⟨_,rfl⟩;obtain⟨hi,V⟩:∃hi,hi=lo:=⟨_,rfl⟩;go_wp2_with fail;rw[<-z];have aoN:lo<256:=by omega
     have aoO:hi<256:=by omega
     clear z;obtain⟨D,rfl⟩:∃D,D=w2:=⟨_,rfl⟩;obtain⟨y,ZT⟩:∃o,o=false:=⟨_,rfl⟩;obtain⟨a,rfl⟩:∃o,o=f:=⟨_,rfl⟩;have U:Z_ ((y=true/\∃s',wN L lo (hi+1-lo)=bl s'/\a.length+1<=k2/\i=if bA 93 a then some (s',a.tail) else fE k2 s' a)\/(y=false/\i=none)):=.inr ⟨ZT,HR⟩;have P4:Z_ (QP D b a y):=by rw[ZT];exact P2
     have K4:=K3;have F4:=F3;clear ZT
    case' false =>
     have f45:(((hb f).toNat:Int)==45)=false:=B.trans G;have ali:bA 45 f=false:=M.trans G;have U:Z_ ((E=true/\∃s',wN L n.toNat (n.toNat+1-n.toNat)=bl s'/\f.length+1<=k2/\i=if bA 93 f then some (s',f.tail) else fE k2 s' f)\/(E=false/\i=none)):=by
      rcases D2.o with⟨d,h⟩|⟨d,h⟩
      .have J:tN r=some ((n,n),f):=by
        unfold tN;rw[h];simp only[ali,a0A,a0I]
       have:=ZR Yb J (a0b _);rw[hLs];exact .inl ⟨d,_,this.1,by have:=BZ J;omega,this.2⟩
      exact .inr ⟨d,Ie Yb (by unfold tN;rw[h])⟩
     clear B M D2;obtain⟨lo,z⟩:∃lo,lo=n.toNat:=⟨_,rfl⟩;obtain⟨hi,V⟩:∃hi,hi=lo:=⟨_,rfl⟩;rw[<-z]at U;go_wp2_with fail;rw[<-z];have aoN:lo<256:=by omega
     have aoO:hi<256:=by omega
     clear z;obtain⟨D,rfl⟩:∃D,D=w2:=⟨_,rfl⟩;obtain⟨y,rfl⟩:∃o,o=E:=⟨_,rfl⟩;obtain⟨a,rfl⟩:∃o,o=f:=⟨_,rfl⟩;have U:Z_ ((y=true/\∃s',wN L lo (hi+1-lo)=bl s'/\a.length+1<=k2/\i=if bA 93 a then some (s',a.tail) else fE k2 s' a)\/(y=false/\i=none)):=by rw[V];exact U
     have P4:=P2;have K4:=K3;have F4:=F3
    all_goals
     obtain⟨go,iD⟩:∃go,go=gk:=⟨_,rfl⟩;rw[<-iD]at RU;go_loopg [9] (hi+1-lo) (λk v9 wr=>∃(j c:Nat),j+k=hi+1-lo/\c=lo+j/\v9=zI c/\QP wr b a y/\RK wr p 1 (wN L lo j) (.pointer none) (.pointer none) 0 0/\aB [b,p] w0 wr);case atStart=>exact⟨0,lo,by omega,rfl,rfl,P4,K4,F4⟩
     case round =>
      clear P4 K4 F4;obtain⟨j,c,lU,RY,rfl,hp6,hk6,Fs⟩:=hrel;have P5:=aj hp6;have K5:=aj hk6;have F5:=aj Fs;have Fu:=hk6.fz;clear hp6 hk6 Fs;by_cases X:j<hi+1-lo
      .have ZP:c<256:=by omega
       have uA:c<=hi:=by omega
       obtain⟨x,hx⟩:∃x,(wN L lo j)[c]?=some x:=⟨_,a0a (by have:=K5.o.2;omega)⟩;have hcx:=K5.o.cin c x hx;clear hx;have K6:=aj (K5.o.sin c true ZP);have dw:Z_ (wN L lo (j+1)=(wN L lo j).set c true):=by rw[RY];rfl
       have Hcc:=aj RY;clear RY;go_wp2;go_roundg (gk-1);case measure=>omega
       case rel =>
        refine⟨j+1,c+1,by omega,by have:=Hcc.o;omega,by go_num,?_,?_,F5.o.setCell (p:=(zB p (1+c))) (.inl (by simp)) _⟩
        .exact P5.o.aC (S:=[p]) ((aB.refl [p] _).setCell (p:=(zB p (1+c))) (.inl (by simp)) _) hbp
        rw[dw.o];exact K6
      have I:j=hi+1-lo:=by omega
      subst I;have uA:¬ (c<=hi):=by omega
      clear RY;go_wp2_with fail;refine(vV b a y _ P5).mono ?_;rintro e _ ⟨rfl,rfl⟩;rw[uS];have h38:=(hb a).toNat_lt;have Fv:=AJ (hb a) 93 (by decide);have Y:=jf 93 (by decide) a;cases W:(hb a==93)
      case true =>
       have f93:(((hb a).toNat:Int)==93)=true:=Fv.trans W;have Z:bA 93 a=true:=Y.trans W;have avG:a.isEmpty=false:=by
        cases a with
        | nil=>simp[bA]at Z
        | cons x q=>rfl
       clear Fv Y;go_wp2_with fail;refine(jY b a y _ P5).mono ?_;rintro e _ ⟨rfl,T,Aj⟩;rw[avG]at T;simp only[a1K,a2x]at T;have K6:=aj (K5.o.aC Aj Ev);have F6:=aj (F5.o.trans Aj.in1);have P6:=aj T;clear T Aj K5 F5 P5;obtain⟨O,A⟩:∃o,o=a.tail:=⟨_,rfl⟩;obtain⟨C,Wz⟩:∃o,o=y:=⟨_,rfl⟩;obtain⟨u,ZS⟩:∃o,o=wN L lo (hi+1-lo):=⟨_,rfl⟩;have D6:Z_ ((C=true/\∃s,u=bl s/\i=some (s,O))\/(C=false/\i=none)):=by
        rcases U.o with⟨d,s',g,_,N⟩|⟨d,g⟩
        .refine .inl ⟨by rw[Wz,d],s',by rw[ZS,g],?_⟩;rw[N,a0m Z,A]
        exact .inr ⟨by rw[Wz,d],g⟩
       rw[<-A,<-Wz]at P6;rw[<-ZS]at K6;clear U A Wz ZS;go_wp2_with fail;go_loopg [10] 256 (λk vi wr=>∃(j:Nat),j+k=256/\vi=zI j/\QP wr b O C/\RK wr p 1 (PM u j) (.pointer none) (.pointer none) 0 0/\aB [b,p] w0 wr/\(bA 94 t=false->j=0));case atStart=>exact⟨0,rfl,rfl,P6,by rw[ak1];exact K6,F6,λ_=>rfl⟩
       case round =>
        clear P6 K6 F6;obtain⟨j,_,rfl,T,v,Aj,rC⟩:=hrel;have P7:=aj T;have K7:=aj v;have F7:=aj Aj;have Nw:=v.fz;have Hl:=aj v.2;clear T v Aj;by_cases X:j<256
        .first
         | (have aoL:bA 94 t=false:=by rw[l]
            have aoM:=rC aoL;subst aoM;go_wp2;go_end0;refine⟨O,C,u,rfl,P7,by have:=K7.o;rw[ak1]at this;exact this,F7,?_⟩;rw[Hc.o,l];rcases D6.o with⟨d,s,g,N⟩|⟨d,g⟩
            .exact .inl ⟨d,s,g,by rw[N];rfl⟩
            exact .inr ⟨d,by rw[g]⟩)
         | (have ZS:u.length=256:=by
             have:=Hl.o;unfold PM at this;simp at this;omega
            obtain⟨x,hx⟩:∃x,u[j]?=some x:=⟨u[j]'(by omega),a0a (by omega)⟩;have:=K7.o.cin j x (agE u j x hx);have K8:=aj (K7.o.sin j (!x) X);have Hfs:=aj (agF u j x hx);go_wp2_with fail;go_region;go_wp2;go_roundg (gk-1);case measure=>omega
            case rel =>
             refine⟨j+1,by omega,by go_num,?_,?_,(F7.o.setCell (.inl (by simp)) _).drew,λe=>by rw[l]at e;simp at e⟩
             .exact P7.o.aC (S:=[p]) (aB.drew ((aB.refl [p] _).setCell (p:=(zB p (1+j))) (.inl (by simp)) _)) hbp
             rw[<-Hfs.o];exact K8)
        have I:j=256:=by omega
        subst I;have RJ:bA 94 t=true:=by
         cases hh:bA 94 t
         .have:=rC hh;omega
         rfl
        go_wp2;go_end0;refine⟨O,C,PM u 256,rfl,P7,K7,F7,?_⟩;rw[Hc.o,RJ];rcases D6.o with⟨d,s,g,N⟩|⟨d,g⟩
        .exact .inl ⟨d,s ^^^ fU,by rw[g,alh],by rw[<-RJ,N,RJ];rfl⟩
        exact .inr ⟨d,by rw[<-RJ,g]⟩
      case false =>
       have:(((hb a).toNat:Int)==93)=false:=Fv.trans W;have Z:bA 93 a=false:=Y.trans W;clear Fv Y;go_wp2;go_roundg (go-1);case measure=>omega
       case rel =>
        refine⟨a,y,_,hb a,rfl,P5,K5,F5,?_⟩;rcases U.o with⟨d,s',g,h4,N⟩|⟨d,g⟩
        .refine .inl ⟨d,s',k2,g,by omega,h4,?_⟩;rw[N,Z];rfl
        exact .inr ⟨d,g⟩
def agG(b p t w)(h:QP w b t true)(a:RK w p 1 nF (.pointer none) (.pointer none) 0 0)(c:b≠p) :
 zF 121 #[zP b,zP p] w (CQ b p t w):=ae2 w b p t w h a c zK
end
section
variable {t:LB} {k p:Nat} {L:List Bool} {a b v:Value} {hi:Int} {w':World} {e:TypeId} {xs:List Value} {X:NF}
def dz(t:LB):Int:=((hb t).toNat:Int)-48
theorem yN(h:(di t).isSome=true):∃n r c,t=c::r/\di t=some (n,r)/\dz t=n:=by
 cases t with
 | nil=>simp[di]at h
 | cons c r =>
   simp only[di]at h |-;split at h
   .rename_i b;refine⟨c.toNat-48,r,c,rfl,by rw[a0m b],?_⟩;have d:48<=c.toNat:=by have a:=b;simp only[a0O,a0U]at a;have:=a1p.1 a.1;simpa using this
    simp only[dz,hb];omega
   simp at h
theorem vZ(h:(di t).isSome=false):di t=none:=by simp_all
theorem arV(h:(hb t==125)=true):di t=none:=by
 cases t with
 | nil=>rfl
 | cons c r =>
   have:c=125:=by simpa[hb] using h
   subst this;simp[di]
def WE(t b:LB)(a:Bool)(dl c:Int):Prop :=
 (a=true/\∃lo hi,dL t=some ((lo,hi),b)/\dl=(lo:Nat)/\c=hiT hi)\/(a=false/\dL t=none)
theorem avI(d:(hb t.tail==44)=false)(e:(hb t.tail==125)=true):WE t t.tail.tail ((di t).isSome&&!t.tail.isEmpty) (dz t) (dz t):=by
 cases hd:(di t).isSome
 .exact .inr ⟨rfl,by unfold dL;rw[vZ hd]⟩
 obtain⟨n,r,c,rfl,f,gT⟩:=yN hd;simp only[a1L]at d e |-;have b:=jf 44 (by decide) r;have a:=jf 125 (by decide) r;rw[d]at b;rw[e]at a;have g:r.isEmpty=false:=by grind [bA]
 refine .inl ⟨by rw[g];rfl,n,some n,?_,gT,gT⟩;unfold dL;rw[f];simp only[b,a,a0A,a0I,a0G]
theorem auz(a:(hb t.tail==44)=false)(b:(hb t.tail==125)=false):dL t=none:=by grind [hd,di,dL,vZ,gT,yN,jf]
theorem avJ(e:(hb t.tail==44)=true)(a:(hb t.tail.tail==125)=true):WE t t.tail.tail.tail (((di t).isSome&&!t.tail.isEmpty)&&!t.tail.tail.isEmpty) (dz t) (-1):=by
 cases hd:(di t).isSome
 .exact .inr ⟨rfl,by unfold dL;rw[vZ hd]⟩
 obtain⟨n,r,c,rfl,f,gT⟩:=yN hd;simp only[a1L]at e a |-;have d:=jf 44 (by decide) r;have b:=jf 125 (by decide) r.tail;rw[e]at d;rw[a]at b;have g:r.isEmpty=false:=by grind
 have h:r.tail.isEmpty=false:=by grind [bA]
 refine .inl ⟨by rw[g,h];rfl,n,none,?_,gT,rfl⟩;unfold dL;rw[f];simp only[d,a0G];rw[arV a];simp only[b,a0G]
theorem auA(b:(hb t.tail==44)=true)(a:(hb t.tail.tail==125)=false)(c:(hb t.tail.tail.tail==125)=false):dL t=none:=by grind [hd,di,dL,vZ,gT,yN,jf]
theorem avK(d:(hb t.tail==44)=true)(a:(hb t.tail.tail==125)=false)(f:(hb t.tail.tail.tail==125)=true) :
 (0<=dz t.tail.tail->dz t.tail.tail<dz t->dL t=none) /\
 (¬ (0<=dz t.tail.tail/\dz t.tail.tail<dz t)->WE t t.tail.tail.tail.tail ((((di t).isSome&&!t.tail.isEmpty)&&(di t.tail.tail).isSome)&&!t.tail.tail.tail.isEmpty) (dz t) (dz t.tail.tail)):=by
 cases hd:(di t).isSome
 .exact⟨λ_ _=>by unfold dL;rw[vZ hd],λ_=>.inr ⟨rfl,by unfold dL;rw[vZ hd]⟩⟩
 obtain⟨n,r,c,rfl,s,gT⟩:=yN hd;simp only[a1L]at d f a |-;have o:=jf 44 (by decide) r;have m:=jf 125 (by decide) r.tail;have b:=jf 125 (by decide) r.tail.tail;rw[d]at o;rw[a]at m;rw[f]at b;have p:r.isEmpty=false:=by grind
 have e:r.tail.tail.isEmpty=false:=by grind [bA]
 cases k:(di r.tail).isSome
 .have:dL (c::r)=none:=by grind [dL,vZ]
  exact⟨λ_ _=>this,λ_=>.inr ⟨by simp,this⟩⟩
 obtain⟨i,g,c2,j,w,l⟩:=yN k;have q:r.tail.tail=g:=by rw[j];rfl
 rw[q]at b e |-;refine⟨λv u=>?_,λh=>.inl ⟨by rw[p,e];rfl,n,some i,?_,gT,l⟩⟩
 .grind [dL]
 grind [dL]
def QX(b:Nat)(w:World)(x:Option (RX × LB))(e:Ending)(w':World):Prop :=
 ∃(q:Option Addr) (r:LB) (ok:Bool),e=zR (.pointer q)/\QP w' b r ok/\aB [b] w w'/\((ok=true/\∃y n,x=some (y,r)/\q=some (zA n)/\RN w' n (gW y))\/(ok=false/\x=none))
def aoQ(q h):((Tryz.zeroCells185.setIfInBounds 0 (zI 4)).setIfInBounds 257 (.pointer q)).setIfInBounds 260 (zI h)=JF 4 nF (.pointer q) (.pointer none) 0 h:=by kernel_rfl
def avM(q h l):(((Tryz.zeroCells185.setIfInBounds 0 (zI 4)).setIfInBounds 257 (.pointer q)).setIfInBounds 260 (zI h)).setIfInBounds 259 (zI l)=JF 4 nF (.pointer q) (.pointer none) l h:=by kernel_rfl
def RK.of {w:World} {C k lo}(h:C=JF k L a b lo hi)(c:L.length=256):RK (w.alloc (Obj.cells C 185)) w.heap.size k L a b lo hi:=by subst h;exact RK.new w c
theorem dX.nil{w}(f:aB [] w w'):dX w w':=dX.aC f (by simp)
def dX.new(w o):dX w (w.alloc o):=dX.nil ((aB.refl [] w).alloc o)
def arW {c}(h:DI c=true):c=42\/c=43\/c=63\/c=123:=by
 unfold DI at h;simp only[a1a,a0W]at h;rcases h with((h|h)|h)|h
 .exact .inl h
 .exact .inr (.inl h)
 .exact .inr (.inr (.inl h))
 exact .inr (.inr (.inr h))
def rpL:LB:=[42,43,63,123]
theorem amH:bs rpL=⟨#[42,43,63,123]⟩:=rfl
theorem auB(c):oM rpL c=DI c:=by have h:=vO (p:=λc=>oM rpL c==DI c) (by decide +kernel) c;exact a0W.1 h
def ae3(w0 b x n t w)(h:QP w b t true)(hx:RN w n (gW x))(hF:aB [b] w0 w) :
 zF 99 #[zP b,zP n] w (QX b w0 (dQ (t.length+1) x t)):=by
 have X:=hx;have F:=hF;obtain⟨i,Fq⟩:∃i,dQ (t.length+1) x t=i:=⟨_,rfl⟩;rw[Fq];delta zF;go_in;go_wp2_with fail;go_loopg [1] (t.length+2) (λk v1 wr=>∃(q:Option Addr) (r:LB) (ok:Bool),v1=.pointer q/\QP wr b r ok/\aB [b] w0 wr/\((ok=true/\∃y n s,q=some (zA n)/\RN wr n (gW y)/\k=s+1/\r.length+1<=s/\dQ s y r=i)\/(ok=false/\i=none)));case atStart=>exact⟨_,t,true,rfl,h,F,.inl ⟨rfl,x,n,t.length+1,rfl,X,rfl,a0b _,Fq⟩⟩
 case round =>
  obtain⟨q,r,ok,rfl,P,F,hd⟩:=hrel;have c1:=P.c1;cases ok
  case false =>
   have HR:i=none:=by
    rcases hd with⟨h,_⟩|⟨_,h⟩
    .cases h
    exact h
   clear hd;go_wp2;go_ret;exact⟨q,r,false,rfl,P,F,.inr ⟨rfl,HR⟩⟩
  case true =>
   obtain⟨y,n,s,rfl,X,_,hrk,Ig⟩:∃y n s,q=some (zA n)/\RN wr n (gW y)/\gk=s+1/\r.length+1<=s/\dQ s y r=i:=by
    rcases hd with⟨_,h⟩|⟨h,_⟩
    .exact h
    cases h
   obtain⟨k2,rfl⟩:∃k2,s=k2+1:=⟨s-1,by omega⟩;go_wp2_with fail;refine(vV _ _ _ _ P).mono ?_;rintro e d ⟨rfl,rfl⟩;rw[uS];have h8:=(hb r).toNat_lt;cases r with
   | nil =>
     have HR:i=some (y,[]):=by rw[<-Ig];rfl
     simp only[List.isEmpty_nil,a2O];go_wp2;go_ret;exact⟨_,[],true,rfl,P,F,.inl ⟨rfl,y,n,HR,rfl,X⟩⟩
   | cons c r =>
     simp only[a1I,a1K,hb]at h8 |-;have A:=vR c rpL wr (by decide);rw[amH,auB]at A;go_wp2_with fail;refine A.mono ?_;rintro e d ⟨rfl,rfl⟩;cases hr:DI c
     case false =>
      have HR:i=some (y,c::r):=by rw[<-Ig];simp only[dQ,DK,hr,a0A,a0I]
      go_wp2;go_ret;exact⟨_,_,true,rfl,P,F,.inl ⟨rfl,y,n,HR,rfl,X⟩⟩
     case true =>
      have HR:Z_ (i=match DJ (c::r) with | none=>none|some (b,r)=>dQ k2 (.rep y b.1 b.2) r):=by show _=_;rw[<-Ig];simp only[dQ,DK,hr,a0G]
      go_wp2_with fail;refine(jY b (c::r) true wr P).mono ?_;rintro e d ⟨rfl,S,aZ⟩;simp only[a1L,a1I,a1K,a2x]at S;have X1:=X.aY (P.keepR aZ);have F1:=F.trans aZ;have lz:r.length+1<=k2:=by simp only[a0r]at hrk;omega
      rcases arW hr with rfl|rfl|rfl|rfl
      .have N:(((42:UInt8).toNat:Int)==43)=false:=by decide
       have f123:(((42:UInt8).toNat:Int)==123)=false:=by decide
       have E:dQ k2 (.rep y 0 none) r=i:=by rw[HR.o];rfl
       go_wp2;go_roundg (gk-1);case measure=>omega
       case rel=>exact⟨_,r,true,rfl,S.aC zG (by simp),F1.alloc _,.inl ⟨rfl,.rep y 0 none,d.heap.size,k2,rfl,⟨n,RK.of (aoQ _ _) qQ,X1.aY (dX.new _ _)⟩,by omega,lz,E⟩⟩
      .have E:dQ k2 (.rep y 1 none) r=i:=by rw[HR.o];rfl
       go_wp2;go_roundg (gk-1);case measure=>omega
       case rel=>exact⟨_,r,true,rfl,S.aC zG (by simp),F1.alloc _,.inl ⟨rfl,.rep y 1 none,d.heap.size,k2,rfl,⟨n,RK.of (avM _ _ _) qQ,X1.aY (dX.new _ _)⟩,by omega,lz,E⟩⟩
      .have E:dQ k2 (.rep y 0 (some 1)) r=i:=by rw[HR.o];rfl
       go_wp2;go_roundg (gk-1);case measure=>omega
       case rel=>exact⟨_,r,true,rfl,S.aC zG (by simp),F1.alloc _,.inl ⟨rfl,.rep y 0 (some 1),d.heap.size,k2,rfl,⟨n,RK.of (aoQ _ _) qQ,X1.aY (dX.new _ _)⟩,by omega,lz,E⟩⟩
      have E:Z_ (i=match dL r with | none=>none|some (b,r)=>dQ k2 (.rep y b.1 b.2) r):=by show _=_;rw[HR.o];rfl
      go_wp2_with fail;have P2:=S.aC ((aB.refl [] _).alloc (.cells (((Tryz.zeroCells185.setIfInBounds 0 (zI 4)).setIfInBounds 257 (zP n)).setIfInBounds 260 (zI (-1))) 185)) (by simp);have K2:=RK.of (w:=d) (aoQ (some (zA n)) (-1)) qQ;have G2:Z_ (aB [b] d (d.alloc (.cells (((Tryz.zeroCells185.setIfInBounds 0 (zI 4)).setIfInBounds 257 (zP n)).setIfInBounds 260 (zI (-1))) 185))):=zJ;have ZU:b<d.heap.size:=S.lt;generalize d.alloc (.cells (((Tryz.zeroCells185.setIfInBounds 0 (zI 4)).setIfInBounds 257 (zP n)).setIfInBounds 260 (zI (-1))) 185)=w2 at P2 K2 G2 |-;have G:d.heap.size ∉ [b]:=by simp;omega
      have Nz:b ∉ [d.heap.size]:=by simp;omega
      refine(Wy b r true w2 P2).mono ?_;rintro e w3 ⟨rfl,P3,bW⟩;rw[a3k]at P3;have K3:=K2.aC bW G;have Ih:-48<=dz r/\dz r<=207:=by have:=(hb r).toNat_lt;unfold dz;omega
      obtain⟨dl,m⟩:∃dl,dz r=dl:=⟨_,rfl⟩;have e1:((hb r).toNat:Int)-48=dl:=m;rw[e1];rw[m]at Ih;obtain⟨_,_,R,f⟩:=K3.ends;have J:=K3.fz 259;have l:=K3.fz 260;go_wp2_with fail;have P4:=P3.aC (((aB.refl [d.heap.size] w3).setCell (p:=(zB d.heap.size 259)) (.inl (by simp)) (zI dl)).setCell (p:=(zB d.heap.size 260)) (.inl (by simp)) (zI dl)) Nz;have K4:=(K3.slo dl).shi dl;have G4:=((G2.o.trans bW).setCell (p:=(zB d.heap.size 259)) (.inr (a0b _)) (zI dl)).setCell (p:=(zB d.heap.size 260)) (.inr (a0b _)) (zI dl);generalize (w3.setCell (zB d.heap.size 259) (zI dl)).setCell (zB d.heap.size 260) (zI dl)=w4 at P4 K4 G4 |-;refine(jY b r.tail _ w4 P4).mono ?_;rintro e w5 ⟨rfl,Z,xe⟩;have T:=K4.aC xe G;have G5:=G4.trans xe;obtain⟨_,_,R,f⟩:=T.ends;have l:=T.fz 260;have pc1:=Z.c1;have pz1:=Z.fz 1;rw[uS];have z:=AJ (hb r.tail) 44 (by decide);have a:=AJ (hb r.tail) 125 (by decide);cases g:(hb r.tail==44)
      case' false =>
       have f44:(((hb r.tail).toNat:Int)==44)=false:=z.trans g;cases D:(hb r.tail==125)
       case' false =>
        have f125:(((hb r.tail).toNat:Int)==125)=false:=a.trans D;have O:(((hb r.tail).toNat:Int) != 125)=true:=by rw[bne,f125];rfl
        have u:=Z.off;have v:=T.aC ((aB.refl [b] w5).setCell (p:=(zB b 1)) (.inl (by simp)) (.bool false)) G;have I:Z_ (∀nq,aB [b] d ((w5.drewN nq).setCell (zB b 1) (.bool false))):=λnq=>(G5.drewN nq).setCell (p:=(zB b 1)) (.inl (by simp)) (.bool false);have V:Z_ (WE r r.tail.tail false dl dl):=.inr ⟨rfl,auz g D⟩
       case' true =>
        have f125:(((hb r.tail).toNat:Int)==125)=true:=a.trans D;have O:(((hb r.tail).toNat:Int) != 125)=false:=by rw[bne,f125];rfl
        cases g0:decide (0<=dl);all_goals
         have u:=Z;have v:=T;have I:Z_ (∀nq,aB [b] d (w5.drewN nq)):=λnq=>G5.drewN nq;have V:Z_ (WE r r.tail.tail ((di r).isSome&&!r.tail.isEmpty) dl dl):=by have:=avI g D;rw[m]at this;exact this
      case' true =>
       have f44:(((hb r.tail).toNat:Int)==44)=true:=z.trans g;go_wp2_with fail;have Y:=Z.aC ((aB.refl [d.heap.size] w5).setCell (p:=(zB d.heap.size 260)) (.inl (by simp)) (zI (-1))) Nz;have K6:=T.shi (-1);have G6:=G5.setCell (p:=(zB d.heap.size 260)) (.inr (a0b _)) (zI (-1));generalize w5.setCell (zB d.heap.size 260) (zI (-1))=w6 at Y K6 G6 |-;refine(vV b r.tail.tail _ w6 Y).mono ?_;rintro e w7 ⟨rfl,rfl⟩;rw[uS];have t28:=(hb r.tail.tail).toNat_lt;have a:=AJ (hb r.tail.tail) 125 (by decide);cases kn:(hb r.tail.tail==125)
       case' true =>
        have f125:(((hb r.tail.tail).toNat:Int)==125)=true:=a.trans kn;have O:(((hb r.tail.tail).toNat:Int) != 125)=false:=by rw[bne,f125];rfl
        go_wp2_with fail;refine(jY b r.tail.tail _ w6 Y).mono ?_;rintro e w8 ⟨rfl,u,M⟩;have v:=K6.aC M G;have G8:=G6.trans M;have I:Z_ (∀nq,aB [b] d (w8.drewN nq)):=λnq=>G8.drewN nq;have V:Z_ (WE r r.tail.tail.tail (((di r).isSome&&!r.tail.isEmpty)&&!r.tail.tail.isEmpty) dl (-1)):=by have:=avJ g kn;rw[m]at this;exact this
        obtain⟨_,_,R,f⟩:=v.ends;rw[uS]
       case' false =>
        have f125:(((hb r.tail.tail).toNat:Int)==125)=false:=a.trans kn;have:(((hb r.tail.tail).toNat:Int) != 125)=true:=by rw[bne,f125];rfl
        go_wp2_with fail;refine(Wy b r.tail.tail _ w6 Y).mono ?_;rintro e w7 ⟨rfl,P7,Aj⟩;have K7:=K6.aC Aj G;have hdh:-48<=dz r.tail.tail/\dz r.tail.tail<=207:=by unfold dz;omega
        obtain⟨j,U⟩:∃j,dz r.tail.tail=j:=⟨_,rfl⟩;have e1:((hb r.tail.tail).toNat:Int)-48=j:=U;rw[e1];rw[U]at hdh;obtain⟨_,_,R,f⟩:=K7.ends;have l:=K7.fz 260;go_wp2_with fail;have P8:=P7.aC ((aB.refl [d.heap.size] w7).setCell (p:=(zB d.heap.size 260)) (.inl (by simp)) (zI j)) Nz;have K8:=K7.shi j;have G8:=(G6.trans Aj).setCell (p:=(zB d.heap.size 260)) (.inr (a0b _)) (zI j);generalize w7.setCell (zB d.heap.size 260) (zI j)=w8 at P8 K8 G8 |-;refine(jY b r.tail.tail.tail _ w8 P8).mono ?_;rintro e W ⟨rfl,u,L⟩;have v:=K8.aC L G;have B:=G8.trans L;obtain⟨_,_,R,f⟩:=v.ends;have:=u.c1;have:=u.fz 1;rw[uS];have:=(hb r.tail.tail.tail).toNat_lt;have a:=AJ (hb r.tail.tail.tail) 125 (by decide);cases D:(hb r.tail.tail.tail==125)
        case' false =>
         have Cg:(((hb r.tail.tail.tail).toNat:Int)==125)=false:=a.trans D;have avN:(((hb r.tail.tail.tail).toNat:Int) != 125)=true:=by rw[bne,Cg];rfl
         have u:=u.off;have v:=v.aC ((aB.refl [b] W).setCell (p:=(zB b 1)) (.inl (by simp)) (.bool false)) G;have I:Z_ (∀nq,aB [b] d ((W.drewN nq).setCell (zB b 1) (.bool false))):=λnq=>(B.drewN nq).setCell (p:=(zB b 1)) (.inl (by simp)) (.bool false);have V:Z_ (WE r r.tail.tail.tail.tail false dl j):=.inr ⟨rfl,auA g kn D⟩
        case' true =>
         have Cg:(((hb r.tail.tail.tail).toNat:Int)==125)=true:=a.trans D;have:(((hb r.tail.tail.tail).toNat:Int) != 125)=false:=by rw[bne,Cg];rfl
         have C:=avK g kn D;rw[m,U]at C;cases g0:decide (0<=j)
         case' false =>
          have I:Z_ (∀nq,aB [b] d (W.drewN nq)):=λnq=>B.drewN nq;have V:=aj (C.2 (λh=>by rw[a1g]at g0;exact g0 h.1))
         case' true =>
          have h0:0<=j:=a2q g0;cases gl:decide (j<dl)
          case' false =>
           have I:Z_ (∀nq,aB [b] d (W.drewN nq)):=λnq=>B.drewN nq;have V:=aj (C.2 (λh=>by rw[a1g]at gl;exact gl h.2))
          case' true =>
           have u:=u.off;have v:=v.aC ((aB.refl [b] W).setCell (p:=(zB b 1)) (.inl (by simp)) (.bool false)) G;have I:Z_ (∀nq,aB [b] d ((W.drewN nq).setCell (zB b 1) (.bool false))):=λnq=>(B.drewN nq).setCell (p:=(zB b 1)) (.inl (by simp)) (.bool false);have V:Z_ (WE r r.tail.tail.tail.tail false dl j):=.inr ⟨rfl,C.1 h0 (a2q gl)⟩
      all_goals
       go_wp2_with fail;go_quiet (fail);go_wp2;go_roundg (gk-1);case measure=>omega
       case rel =>
        refine⟨some (zA d.heap.size),_,_,rfl,u,F1.trans (I.o _),?_⟩;rcases V.o with⟨h1,lo,hi,h2,h3,h4⟩|⟨h1,h2⟩
        .refine .inl ⟨h1,.rep y lo hi,d.heap.size,k2,rfl,⟨n,by rw[<-h3,<-h4];exact v,X1.aY (S.keepR (I.o _))⟩,by omega,?_,?_⟩
         .have:=(Rp h2).1;omega
         rw[E.o,h2]
        exact .inr ⟨h1,by rw[E.o,h2]⟩
def agH(b x n t w)(h:QP w b t true)(a:RN w n (gW x)) :
 zF 99 #[zP b,zP n] w (QX b w (dQ (t.length+1) x t)):=ae3 w b x n t w h a zK
def ChC(k:Nat):Prop:=∀(b d:Nat) (t:LB) (w:World),QP w b t true->d<=5->4*t.length+4<=k ->
 zF 69 #[zP b,zI d] w (QX b w (iQ k d [] t))
def RwC(k:Nat):Prop:=∀(b d:Nat) (t:LB) (w:World),QP w b t true->d<=5->4*t.length+3<=k ->
 zF 82 #[zP b,zI d] w (QX b w (jF k d [] t))
def SgC(k:Nat):Prop:=∀(b d:Nat) (t:LB) (w:World),QP w b t true->d<=5->4*t.length+2<=k ->
 zF 98 #[zP b,zI d] w (QX b w (ik k d t))
def avO:Tryz.zeroCells185.setIfInBounds 0 (zI 1)=JF 1 nF (.pointer none) (.pointer none) 0 0:=by kernel_rfl
theorem auC:vg 0 0 256=fU:=by decide +kernel
def aB.arX{b x y z}(h:aB [b] x y)(k:aB [b,p] y z)(c:x.heap.size<=p):aB [b] x z :=
 ⟨k.os.trans h.os,k.tape.trans h.tape,k.output.trans h.output,a0h h.size k.size,
  λi hi a=>(k.block i (a0t hi h.size) (by simp at a |-;omega)).trans (h.block i hi a)⟩
def spL:LB:=[41,124,42,43,63,123,125,91,93,46]
theorem amI:bs spL=⟨#[41,124,42,43,63,123,125,91,93,46]⟩:=rfl
theorem auD(c)(b:(c==91)=false)(a:(c==46)=false):oM spL c=iI c:=by have h:=vO (p:=λc=>c==91||c==46||oM spL c==iI c) (by decide +kernel) c;rw[b,a]at h;exact a0W.1 h
theorem Fy(k d c r):ik (k+1) d (c::r) =
 if c==40 then (if 5<=d then none else match iQ k (d+1) [] r with | none=>none|some (x,r2)=>if bA 41 r2 then some (x,r2.tail) else none)
  else if c==91 then (match nT r with | none=>none|some (s,r2)=>some (.one s,r2))
  else if c==46 then some (.one fU,r)
  else if c==92 then (match r with | []=>none|d::r2=>some (.one (2 ^ d.toNat),r2))
  else if iI c then none
  else some (.one (2 ^ c.toNat),r):=by
 conv=>lhs;unfold ik
def avP:LB->Option (RX × LB)
 | []=>none
 | e::r=>some (.one (2 ^ e.toNat),r)
def amJ(k d r):ik (k+1) d (92::r)=avP r:=by rw[Fy];cases r<;>rfl
def ajC(k d)(b:(hb t==40)=false)(f:(hb t==91)=false)(e:(hb t==46)=false)(a:(hb t==92)=false) :
 ik (k+1) d t=if t.isEmpty then none else if iI (hb t) then none else some (.one (2 ^ (hb t).toNat),t.tail):=by
 cases t with
 | nil=>simp[ik]
 | cons c r =>
   rw[Fy];simp only[hb]at b f e a;rw[b,f,e,a];rfl
def RK.byte {w}(c:UInt8)(h:RK w p 1 nF (.pointer none) (.pointer none) 0 0):RN (w.setCell (zB p (1+c.toNat)) (.bool true)) p (.one (2 ^ c.toNat)):=by have:=h.sin c.toNat true c.toNat_lt;rw[<-Rz,alg 0 c.toNat c.toNat_lt,Nat.zero_or]at this;exact this
def ae4(hC:ChC k):SgC (k+1):=by
 intro b d t w H _ hk;have ZU:=H.lt;delta zF;go_in;go_wp2_with fail;have P0:=H.aC ((aB.refl [] w).alloc (.cells (Tryz.zeroCells185.setIfInBounds 0 (zI 1)) 185)) (by simp);have K0:=RK.of (w:=w) avO qQ;have F0:Z_ (aB [b] w (w.alloc (.cells (Tryz.zeroCells185.setIfInBounds 0 (zI 1)) 185))):=zJ;generalize w.alloc (.cells (Tryz.zeroCells185.setIfInBounds 0 (zI 1)) 185)=w0 at P0 K0 F0 |-;have Yd:w.heap.size ∉ [b]:=by simp;omega
 have V:b ∉ [w.heap.size]:=by simp;omega
 refine(jY _ _ _ _ P0).mono ?_;rintro e F ⟨rfl,a,aZ⟩;have u:=K0.aC aZ Yd;have F1:=F0.o.trans aZ;have pc:=a.c1;have pz:=a.fz 1;rw[uS];have c8:=(hb t).toNat_lt;have z:=AJ (hb t) 40 (by decide);have l:=AJ (hb t) 46 (by decide);have G:=AJ (hb t) 91 (by decide);have E:=AJ (hb t) 92 (by decide);cases T:(hb t==40)
 case true =>
  have f40:(((hb t).toNat:Int)==40)=true:=z.trans T;obtain⟨c,r,rfl⟩:∃c r,t=c::r:=by
   cases t with
   | nil=>exact absurd T (by decide)
   | cons c r=>exact⟨c,r,rfl⟩
  have avQ:(c==40)=true:=T;simp[a1L,a1I,a1K,a2x]at a pc;have f:=aj (Fy k d c r);rw[avQ]at f;simp[a0G]at f;by_cases h5:d=5
  .subst h5;have PN:Z_ (ik (k+1) 5 (c::r)=none):=by show _=_;rw[f.o];rfl
   have m:=a.off;go_wp2;go_ret;exact⟨_,_,_,rfl,m,F1.setCell (.inl (by simp)) _,.inr ⟨rfl,PN⟩⟩
  have hd5:((d:Int)==5)=false:=by rw[a0j];omega
  rw[a0n (by omega)]at f;go_wp2_with fail;refine (hC b (d+1) r F a (by omega) (by simp[a0r]at hk;omega)).mono ?_;rintro e N ⟨q,g,O,rfl,m,B,W⟩;have F2:=F1.trans B;go_wp2_with fail;refine(jY b g O N m).mono ?_;rintro e _ ⟨rfl,h,bW⟩;have F3:=F2.trans bW;have pc3:=h.c1;have pz3:=h.fz 1;rw[uS];have r28:=(hb g).toNat_lt;have v:=AJ (hb g) 41 (by decide);have R:=jf 41 (by decide) g;cases U:(hb g==41)
  case false =>
   have f41:(((hb g).toNat:Int)==41)=false:=v.trans U;go_wp2;go_ret;refine⟨_,_,_,rfl,h.off,F3.setCell (.inl (by simp)) _,.inr ⟨rfl,?_⟩⟩;rw[f.o];rcases W with⟨_,y,n,i,_⟩|⟨_,i⟩
   .rw[i];simp[R,U,a0A,a0I]
   rw[i]
  case true =>
   have f41:(((hb g).toNat:Int)==41)=true:=v.trans U;have vY:g.isEmpty=false:=by
    cases g with
    | nil=>exact absurd U (by decide)
    | cons x q=>rfl
   rw[vY]at h;simp[a1K,a2x]at h;go_wp2;go_ret;refine⟨_,_,_,rfl,h,F3,?_⟩;rw[f.o];rcases W with⟨D,y,n,i,Z,h4⟩|⟨D,i⟩
   .exact .inl ⟨D,y,n,by rw[i];simp[R,U,a0G],Z,h4.aY (m.keepR bW)⟩
   exact .inr ⟨D,by rw[i]⟩
 case false =>
  have f40:(((hb t).toNat:Int)==40)=false:=z.trans T;cases I:(hb t==46)
  case true =>
   have f46:(((hb t).toNat:Int)==46)=true:=l.trans I;obtain⟨c,r,rfl⟩:∃c r,t=c::r:=by
    cases t with
    | nil=>exact absurd I (by decide)
    | cons c r=>exact⟨c,r,rfl⟩
   have avR:c=46:=by simpa[hb] using I
   subst avR;simp[a1L,a1I,a1K,a2x]at a pc;have f:Z_ (ik (k+1) d (46::r)=some (.one fU,r)):=by show _=_;rw[Fy];rfl
   go_wp2_with fail;go_loopg [7] 256 (λk v7 wr=>∃(j:Nat),j+k=256/\v7=zI j/\QP wr b r true/\RK wr w.heap.size 1 (wN nF 0 j) (.pointer none) (.pointer none) 0 0/\aB [b] w wr);exact⟨0,rfl,rfl,a,u,F1⟩
   .obtain⟨j,_,rfl,P5,L,F5⟩:=hrel;have Fu:=L.fz;by_cases Y:j<256
    .obtain⟨x,hx⟩:∃x,(wN nF 0 j)[j]?=some x:=⟨_,a0a (by have:=L.2;omega)⟩;have hcx:=L.cin j x hx;have dw:Z_ (wN nF 0 (j+1)=(wN nF 0 j).set j true):=by show _=_;rw[wN,a1n]
     go_wp2;go_roundg (gk-1)
     .refine⟨j+1,by omega,by go_num,?_,?_,F5.setCell (p:=(zB w.heap.size (1+j))) (.inr (a0b _)) _⟩
      .exact P5.aC (S:=[w.heap.size]) ((aB.refl [w.heap.size] _).setCell (p:=(zB w.heap.size (1+j))) (.inl (by simp)) _) V
      rw[dw.o];exact L.sin j true Y
     omega
    have X:j=256:=by omega
    subst X;have dw:Z_ (wN nF 0 256=bl fU):=by show _=_;rw[<-Rz,ZQ 0 0 256 (by omega),auC]
    rw[dw.o]at L;go_wp2;go_ret;exact⟨_,_,_,rfl,P5,F5,.inl ⟨rfl,.one fU,w.heap.size,f,rfl,L⟩⟩
  case false =>
   have f46:(((hb t).toNat:Int)==46)=false:=l.trans I;cases J:(hb t==91)
   case true =>
    have f91:(((hb t).toNat:Int)==91)=true:=G.trans J;obtain⟨c,r,rfl⟩:∃c r,t=c::r:=by
     cases t with
     | nil=>exact absurd J (by decide)
     | cons c r=>exact⟨c,r,rfl⟩
    have P:c=91:=by simpa[hb] using J
    subst P;simp[a1L,a1I,a1K,a2x]at a pc;have f:Z_ (ik (k+1) d (91::r)=match nT r with | none=>none|some (s,g)=>some (.one s,g)):=by show _=_;rw[Fy];rfl
    go_wp2_with fail;refine(agG b w.heap.size r F a u (by omega)).mono ?_;rintro e N ⟨g,O,_,rfl,m,C,B,W⟩;have F2:=F1.arX B (a0b _);go_wp2;go_ret;refine⟨_,_,_,rfl,m,F2,?_⟩;rw[f.o];rcases W with⟨D,s,i,Z⟩|⟨D,i⟩
    .exact .inl ⟨D,.one s,w.heap.size,by rw[Z],rfl,by have:=C;rw[i]at this;exact this⟩
    exact .inr ⟨D,by rw[i]⟩
   case false =>
    have:(((hb t).toNat:Int)==91)=false:=G.trans J;cases M:(hb t==92)
    case true =>
     have:(((hb t).toNat:Int)==92)=true:=E.trans M;obtain⟨c,r,rfl⟩:∃c r,t=c::r:=by
      cases t with
      | nil=>exact absurd M (by decide)
      | cons c r=>exact⟨c,r,rfl⟩
     have Jm:c=92:=by simpa[hb] using M
     subst Jm;simp[a1L,a1I,a1K,a2x]at a pc;have f:=aj (amJ k d r);go_wp2_with fail;refine(jY b r true F a).mono ?_;rintro e N ⟨rfl,m,B⟩;have C:=u.aC B Yd;rw[uS];have:=(hb r).toNat_lt;have:=C.fz (1+(hb r).toNat);have N3:=RK.byte (hb r) C;have h:=m.aC ((aB.refl [w.heap.size] N).setCell (p:=(zB w.heap.size (1+(hb r).toNat))) (.inl (by simp)) (.bool true)) V;have F3:=(F1.trans B).setCell (p:=(zB w.heap.size (1+(hb r).toNat))) (.inr (a0b _)) (.bool true);have:=C.cin (hb r).toNat false (by rw[nF,a2K,a0m (by omega)]);go_wp2;go_ret;refine⟨_,_,_,rfl,h,F3,?_⟩;rw[f.o];cases r with
     | nil=>exact .inr ⟨rfl,rfl⟩
     | cons e r=>exact .inl ⟨rfl,.one (2 ^ e.toNat),w.heap.size,rfl,rfl,N3⟩
    case false =>
     have:(((hb t).toNat:Int)==92)=false:=E.trans M;have A:=vR (hb t) spL F (by decide);rw[amI,auD (hb t) J I]at A;go_wp2_with fail;refine A.mono ?_;rintro e N ⟨rfl,rfl⟩;have f:=aj (ajC k d T J I M);have:=u.fz (1+(hb t).toNat);have:=u.cin (hb t).toNat false (by rw[nF,a2K,a0m (by omega)]);cases vB:iI (hb t)
     case false =>
      have N3:=RK.byte (hb t) u;have h:=a.aC ((aB.refl [w.heap.size] F).setCell (p:=(zB w.heap.size (1+(hb t).toNat))) (.inl (by simp)) (.bool true)) V;have F3:=F1.setCell (p:=(zB w.heap.size (1+(hb t).toNat))) (.inr (a0b _)) (.bool true);go_wp2;go_ret;refine⟨_,_,_,rfl,h,F3,?_⟩;rw[f.o,vB];cases t with
      | nil=>exact .inr ⟨rfl,rfl⟩
      | cons c r=>exact .inl ⟨rfl,.one (2 ^ c.toNat),w.heap.size,rfl,rfl,N3⟩
     case true =>
      have:w.heap.size≠b:=by omega
      have C:=u.aC ((aB.refl [b] F).setCell (p:=(zB b 1)) (.inl (by simp)) (.bool false)) Yd;have:=C.fz (1+(hb t).toNat);have:=C.cin (hb t).toNat false (by rw[nF,a2K,a0m (by omega)]);have h:=a.off.aC ((aB.refl [w.heap.size] _).setCell (p:=(zB w.heap.size (1+(hb t).toNat))) (.inl (by simp)) (.bool true)) V;go_wp2;go_ret;refine⟨_,_,_,rfl,h,(F1.setCell (p:=(zB b 1)) (.inl (by simp)) (.bool false)).setCell (p:=(zB w.heap.size (1+(hb t).toNat))) (.inr (a0b _)) (.bool true),.inr ⟨rfl,?_⟩⟩;rw[f.o,vB];simp
def agI(b q t w)(h:QP w b t false) :
 zF 99 #[zP b,.pointer q] w λe w'=>e=zR (.pointer q)/\w=w':=by
 have c1:=h.c1;clear h;delta zF;go_in;go_wp2_with fail;go_loopg [1] 1 (λk a wr=>k=1/\a=.pointer q/\wr=w);exact⟨rfl,rfl,rfl⟩
 .obtain⟨c,rfl,rfl⟩:=hrel;go_wp2;go_ret;exact⟨rfl,rfl⟩
def as8(k b a):((Tryz.zeroCells185.setIfInBounds 0 (zI k)).setIfInBounds 257 (.pointer b)).setIfInBounds 258 (.pointer a)=JF k nF (.pointer b) (.pointer a) 0 0:=by kernel_rfl
def auE:Tryz.zeroCells185.setIfInBounds 0 (zI 0)=JF 0 nF (.pointer none) (.pointer none) 0 0:=by kernel_rfl
theorem aoS(k d acc t):jF (k+1) d acc t=if tQ t then some (.seq acc,t) else match ik k d t with | none=>none|some (x,r)=>match dQ (r.length+1) x r with | none=>none|some (y,r2)=>jF k d (acc++[y]) r2:=by
 conv=>lhs;unfold jF
theorem agJ(k d acc t):iQ (k+1) d acc t=match jF k d [] t with | none=>none|some (x,r)=>if bA 124 r then iQ k d (acc++[x]) r.tail else some (.alt (acc++[x]),r):=by
 conv=>lhs;unfold iQ
theorem agK(acc y):gW (.seq (acc++[y]))=.both (gW (.seq acc)) (gW y):=by simp only[gW];exact ac2 acc _ y
theorem agL {acc}(h:acc≠[])(y):gW (.alt (acc++[y]))=.either (gW (.alt acc)) (gW y):=by simp only[gW];exact ajA h y
theorem ac4(y):gW (.alt [y])=gW y:=by simp only[gW,yu,Ah]
def amK(hS:∀j,j<k->SgC j):RwC k:=by
 intro b d t w H hd hk;obtain⟨i,s⟩:∃i,jF k d [] t=i:=⟨_,rfl⟩;rw[s];delta zF;go_in;go_wp2_with fail;go_loopg [5] (k+1) (λg Z wr=>∃(q:Option Addr) (r:LB) (ok:Bool),Z=.pointer q/\QP wr b r ok/\aB [b] w wr/\((ok=true/\∃acc n a,q=some (zA n)/\RN wr n (gW (.seq acc))/\g=a+1/\a<=k/\4*r.length+3<=a/\jF a d acc r=i)\/(ok=false/\1<=g/\i=none)));exact⟨_,t,true,rfl,H.aC ((aB.refl [] w).alloc _) (by simp),zJ,.inl ⟨rfl,[],w.heap.size,k,rfl,RK.of auE qQ,rfl,a0b _,hk,s⟩⟩
 .clear H s;obtain⟨q,r,ok,rfl,P,F,C⟩:=hrel;have c1:=P.c1;go_wp2_with fail;refine(vV _ _ _ _ P).mono ?_;rintro e _ ⟨rfl,rfl⟩;rw[uS];have h8:=(hb r).toNat_lt;have v:=AJ (hb r) 124 (by decide);have c:=AJ (hb r) 41 (by decide);have N:=jf 124 (by decide) r;have o:=jf 41 (by decide) r;cases ok
  case false =>
   have HR:i=none:=by
    rcases C with⟨h,_⟩|⟨_,_,h⟩
    .cases h
    exact h
   clear C N o;have fin:QX b w i (zR (.pointer q)) wr:=⟨q,r,false,rfl,P,F,.inr ⟨rfl,HR⟩⟩;clear HR;cases B:r.isEmpty
   .cases l:(hb r==124)
    .have f124:(((hb r).toNat:Int)==124)=false:=v.trans l;cases u:(hb r==41)
     .have p:(((hb r).toNat:Int)==41)=false:=c.trans u;go_wp2;go_ret;exact fin
     have p:(((hb r).toNat:Int)==41)=true:=c.trans u;go_wp2;go_ret;exact fin
    have f124:(((hb r).toNat:Int)==124)=true:=v.trans l;go_wp2;go_ret;exact fin
   go_wp2;go_ret;exact fin
  case true =>
   obtain⟨acc,n,a,rfl,X,_,_,_,S⟩:∃acc n a,q=some (zA n)/\RN wr n (gW (.seq acc))/\gk=a+1/\a<=k/\4*r.length+3<=a/\jF a d acc r=i:=by
    rcases C with⟨_,h⟩|⟨h,_⟩
    .exact h
    cases h
   obtain⟨k2,rfl⟩:∃k2,a=k2+1:=⟨a-1,by omega⟩;have HR:=S;clear C S;rw[aoS]at HR;have fin:tQ r=true->QX b w i (zR (zP n)) wr:=by intro hs;refine⟨_,r,true,rfl,P,F,.inl ⟨rfl,.seq acc,n,?_,rfl,X⟩⟩;rw[<-HR,a0m hs]
   have A:tQ r=(r.isEmpty||(hb r==124)||(hb r==41)):=by unfold tQ;rw[N,o]
   clear N o;cases B:r.isEmpty;case true=>have f:=(fin (by rw[A,B];rfl));go_wp2;go_ret;exact f
   cases l:(hb r==124);case true=>have f124:(((hb r).toNat:Int)==124)=true:=v.trans l;have f:=(fin (by rw[A,l];simp));go_wp2;go_ret;exact f
   have f124:(((hb r).toNat:Int)==124)=false:=v.trans l;cases u:(hb r==41);case true=>have p:(((hb r).toNat:Int)==41)=true:=c.trans u;have f:=(fin (by rw[A,u];simp));go_wp2;go_ret;exact f
   have p:(((hb r).toNat:Int)==41)=false:=c.trans u;have W:tQ r=false:=by rw[A,B,l,u];rfl
   rw[W]at HR;simp only[a0A,a0I]at HR;clear v c fin A W;have Y:=hS k2 (by omega) b d r wr P hd (by omega);go_wp2_with fail;refine Y.mono ?_;rintro e R ⟨q2,E,_,rfl,x,M,ll⟩;have F2:=F.trans M;have V:=X.aY (P.keepR M);clear M Y P F X c1;rcases ll with⟨rfl,y,m,U,rfl,T⟩|⟨rfl,I⟩
   .rw[U]at HR;have oP:=(Kj U).2;go_wp2_with fail;refine(agH b y m E R x T).mono ?_;rintro e O ⟨_,r3,G,rfl,P3,L,D3⟩;have F3:=F2.trans L;have X3:=V.aY (x.keepR L);clear L x F2 V T;go_wp2;go_roundg (gk-1)
    .refine⟨_,r3,G,rfl,P3.aC zG (by simp),F3.alloc _,?_⟩;rcases D3 with⟨J,z,m2,D,h3,h4⟩|⟨J,D⟩
     .subst h3;have hl3:=(xJ D).2;refine .inl ⟨J,acc++[z],O.heap.size,k2,rfl,?_,by omega,by omega,by omega,?_⟩
      .rw[agK];exact⟨n,m2,RK.of (as8 _ _ _) qQ,X3.aY (dX.new _ _),h4.aY (dX.new _ _)⟩
      have:=HR;simp only[D]at this;exact this
     refine .inr ⟨J,by omega,?_⟩;have:=HR;simp only[D]at this;exact this.symm
    omega
   rw[I]at HR;have tV:i=none:=HR.symm;clear HR;go_wp2_with fail;refine(agI b q2 E R x).mono ?_;rintro e O ⟨rfl,rfl⟩;go_wp2;go_roundg (gk-1);exact⟨_,E,false,rfl,x.aC zG (by simp),F2.alloc _,.inr ⟨rfl,by omega,tV⟩⟩;omega
def ae5(O:∀j,j<k->RwC j):ChC k:=by
 intro b d t w H hd _;obtain⟨l,f⟩:∃l,iQ k d [] t=l:=⟨_,rfl⟩;rw[f];obtain⟨k0,rfl⟩:∃k0,k=k0+1:=⟨k-1,by omega⟩;rw[agJ]at f;have s:=O k0 (by omega) b d t w H hd (by omega);delta zF;go_in;go_wp2_with fail;refine s.mono ?_;rintro e W ⟨q1,r1,D,rfl,S,F1,T⟩;clear s H;go_wp2_with fail;go_loopg [5] (k0+1) (λg Y wr=>∃(q:Option Addr) (r:LB) (ok:Bool),Y=.pointer q/\QP wr b r ok/\aB [b] w wr/\((ok=true/\∃acc n a,q=some (zA n)/\acc≠[]/\RN wr n (gW (.alt acc))/\g=a+1/\a<=k0/\4*r.length+3<=a/\(if bA 124 r then iQ a d acc r.tail else some (.alt acc,r))=l)\/(ok=false/\1<=g/\l=none)))
 case atStart =>
  refine⟨q1,r1,D,rfl,S,F1,?_⟩;have:=f;rcases T with⟨m,y,n,c,G,E⟩|⟨m,c⟩
  .rw[c]at this;have hl:=(yL c).2;exact .inl ⟨m,[y],n,k0,G,by simp,by rw[ac4];exact E,rfl,a0b _,by omega,this⟩
  rw[c]at this;exact .inr ⟨m,by omega,this.symm⟩
 case round =>
  clear S F1 T f;obtain⟨q,r,ok,rfl,P,F,v⟩:=hrel;have c1:=P.c1;go_wp2_with fail;refine(vV _ _ _ _ P).mono ?_;rintro e W ⟨rfl,rfl⟩;rw[uS];have:=(hb r).toNat_lt;have p:=AJ (hb r) 124 (by decide);have M:=jf 124 (by decide) r;cases ok
  case false =>
   have HR:l=none:=by
    rcases v with⟨h,_⟩|⟨_,_,h⟩
    .cases h
    exact h
   clear v M;have fin:QX b w l (zR (.pointer q)) wr:=⟨q,r,false,rfl,P,F,.inr ⟨rfl,HR⟩⟩;clear HR;cases u:r.isEmpty
   .cases i:(hb r==124)
    .have f124:(((hb r).toNat:Int)==124)=false:=p.trans i;have o:(((hb r).toNat:Int) != 124)=true:=by rw[bne,f124];rfl
     go_wp2;go_ret;exact fin
    have f124:(((hb r).toNat:Int)==124)=true:=p.trans i;have o:(((hb r).toNat:Int) != 124)=false:=by rw[bne,f124];rfl
    go_wp2;go_ret;exact fin
   go_wp2;go_ret;exact fin
  case true =>
   obtain⟨acc,n,a,rfl,J,X,_,_,_,N⟩:∃acc n a,q=some (zA n)/\acc≠[]/\RN wr n (gW (.alt acc))/\gk=a+1/\a<=k0/\4*r.length+3<=a/\(if bA 124 r then iQ a d acc r.tail else some (.alt acc,r))=l:=by
    rcases v with⟨_,h⟩|⟨h,_⟩
    .exact h
    cases h
   have HR:=N;clear v N;rw[M]at HR;clear M;cases i:(hb r==124)
   case false =>
    have f124:(((hb r).toNat:Int)==124)=false:=p.trans i;have o:(((hb r).toNat:Int) != 124)=true:=by rw[bne,f124];rfl
    rw[i]at HR;simp only[a0A,a0I]at HR;have fin:QX b w l (zR (zP n)) wr:=⟨_,r,true,rfl,P,F,.inl ⟨rfl,.alt acc,n,HR.symm,rfl,X⟩⟩;clear HR;cases u:r.isEmpty
    .go_wp2;go_ret;exact fin
    go_wp2;go_ret;exact fin
   have f124:(((hb r).toNat:Int)==124)=true:=p.trans i;have:(((hb r).toNat:Int) != 124)=false:=by rw[bne,f124];rfl
   have u:r.isEmpty=false:=by
    cases r with
    | nil=>exact absurd i (by decide)
    | cons x q=>rfl
   have:r.tail.length+1=r.length:=by cases r<;>simp at u |-
   rw[i]at HR;simp only[a0G]at HR;obtain⟨k2,rfl⟩:∃k2,a=k2+1:=⟨a-1,by omega⟩;rw[agJ]at HR;clear p;go_wp2_with fail;refine(jY b r true wr P).mono ?_;rintro e V ⟨rfl,B,L⟩;rw[u]at B;have F2:=F.trans L;have R:=X.aY (P.keepR L);clear L P F X c1;have s:=O k2 (by omega) b d r.tail V B hd (by omega);go_wp2_with fail;refine s.mono ?_;rintro e U ⟨_,Z,C,rfl,P3,I,D3⟩;have F3:=F2.trans I;have X3:=R.aY (B.keepR I);clear I B F2 R s;go_wp2;go_roundg (gk-1)
   .refine⟨_,Z,C,rfl,P3.aC zG (by simp),F3.alloc _,?_⟩;have A:=HR;rcases D3 with⟨m,z,m2,c,G,E⟩|⟨m,c⟩
    .subst G;have:=(yL c).2;rw[c]at A;refine .inl ⟨m,acc++[z],U.heap.size,k2,rfl,by simp,?_,by omega,by omega,by omega,A⟩;rw[agL J];exact⟨n,m2,RK.of (as8 _ _ _) qQ,X3.aY (dX.new _ _),E.aY (dX.new _ _)⟩
    rw[c]at A;exact .inr ⟨m,by omega,A.symm⟩
   omega
def ae6:∀k,ChC k/\RwC k/\SgC k:=by
 intro k;induction k using Nat.strongRecOn with
 | _ k a =>
   refine⟨ae5 λj c=>(a j c).2.1,amK λj c=>(a j c).2.2,?_⟩;cases k with
   | zero=>intro b d t w h hd e;omega
   | succ k=>exact ae4 (a k (by omega)).1
def Se:TR->Prop
 | .nil=>True
 | .one _=>True
 | .both a b=>Se a/\Se b
 | .either a b=>Se a/\Se b
 | .often a lo hi=>Se a/\lo<=9/\(∀n,hi=some n->n<=9)
mutual
theorem Ii:∀(e:RX),uO e->Se (gW e)
 | .one s,_=>trivial
 | .seq l,h=>by simp only[gW];exact aoU l .nil trivial h
 | .alt l,h=>arY l h
 | .rep x lo hi,h=>⟨Ii x h.1,h.2⟩
theorem aoU:∀(l:List RX) (r:TR),Se r->mZ l->Se (Ag r l)
 | [],r,a,_=>by simp only[Ag];exact a
 | x::l,r,a,h=>by simp only[Ag];exact aoU l _ ⟨a,Ii x h.1⟩ h.2
theorem arY:∀(l:List RX),mZ l->Se (yu l)
 | [],_=>trivial
 | x::l,h=>by simp only[yu];exact aoV l _ (Ii x h.1) h.2
theorem aoV:∀(l:List RX) (r:TR),Se r->mZ l->Se (Ah r l)
 | [],r,a,_=>by simp only[Ah];exact a
 | x::l,r,a,h=>by simp only[Ah];exact aoV l _ ⟨a,Ii x h.1⟩ h.2
end
theorem RK.kd {w k lo}(h:RK w p k L a b lo hi):zC w p 0 (zI k):=h.c0
def agN(x lo hi m)(h:(jQ x).1*times lo hi=m):(40<m->jQ (.often x lo hi)=(41,false))/\(¬ 40<m->jQ (.often x lo hi)=(m,(jQ x).2)):=by subst h;exact⟨λh=>by simp only[jQ];rw[a0m h],λh=>by simp only[jQ];rw[a0n h]⟩
def PcC(t:TR):Prop:=∀(w:World) (p:Nat),RN w p t->Se t ->
 zF 70 #[zP p] w λe w'=>e=zQ #[zI ((jQ t).1:Nat),.bool (jQ t).2]/\w=w'
def uE:∀t:TR,PcC t
 | .nil=>by
   intro w p h hd;have c0:=RK.c0 h;delta zF;go_in;go_wp2;go_ret2;exact⟨rfl,rfl⟩
 | .one s=>by
   intro w p h hd;have c0:=RK.c0 h;delta zF;go_in;go_wp2;go_ret2;exact⟨rfl,rfl⟩
 | .both x y=>by
   intro w p h hd;obtain⟨a,b,f,i,v⟩:=h;have c0:=f.c0;obtain⟨ca,cb,_,_⟩:=f.ends;have A:=uE x w a i hd.1;have B:=uE y w b v hd.2;have c:=(qa x).1;have l:=(qa y).1;have q:Z_ (jQ (.both x y)=if 40<(jQ x).1+(jQ y).1 then (41,false) else ((jQ x).1+(jQ y).1,(jQ x).2&&(jQ y).2)):=rfl;clear f i v hd;generalize jQ x=j at *;generalize jQ y=C at *;obtain⟨n1,b1⟩:=j;obtain⟨D,b2⟩:=C;simp only[]at c l A B q;unfold pq at ca cb;delta zF;go_in;go_wp2_with fail;refine A.mono ?_;rintro e u ⟨rfl,rfl⟩;go_wp2_with fail;refine B.mono ?_;rintro e u ⟨rfl,rfl⟩;by_cases g:40<n1+D
   .cases b1;all_goals
     go_wp2;go_ret2;rw[q.o,a0m g];exact⟨rfl,rfl⟩
   cases b1;all_goals
    go_wp2;go_ret2;rw[q.o,a0n g];exact⟨by first | rfl|(simp;done)|go_num,rfl⟩
 | .either x y=>by
   intro w p h hd;obtain⟨a,b,f,i,v⟩:=h;have c0:=f.c0;obtain⟨ca,cb,_,_⟩:=f.ends;have A:=uE x w a i hd.1;have B:=uE y w b v hd.2;have c:=(qa x).1;have l:=(qa y).1;have q:Z_ (jQ (.either x y)=if 40<(jQ x).1+(jQ y).1 then (41,false) else ((jQ x).1+(jQ y).1,(jQ x).2&&(jQ y).2)):=rfl;clear f i v hd;generalize jQ x=j at *;generalize jQ y=C at *;obtain⟨n1,b1⟩:=j;obtain⟨D,b2⟩:=C;simp only[]at c l A B q;unfold pq at ca cb;delta zF;go_in;go_wp2_with fail;refine A.mono ?_;rintro e u ⟨rfl,rfl⟩;go_wp2_with fail;refine B.mono ?_;rintro e u ⟨rfl,rfl⟩;by_cases g:40<n1+D
   .cases b1;all_goals
     go_wp2;go_ret2;rw[q.o,a0m g];exact⟨rfl,rfl⟩
   cases b1;all_goals
    go_wp2;go_ret2;rw[q.o,a0n g];exact⟨by first | rfl|(simp;done)|go_num,rfl⟩
 | .often x lo hi=>by
   intro w p h hd;obtain⟨a,f,i⟩:=h;have c0:=f.c0;obtain⟨ca,_,cl,G⟩:=f.ends;have A:=uE x w a i hd.1;have c:=(qa x).1;have I:=hd.2.1;have F:=hd.2.2;clear f i hd;unfold pq at ca;cases hi with
   | none =>
     simp only[hiT]at G;have E:(jQ x).1*(lo+1)<=41*10:=a0D c (by omega);have z:((jQ x).1:Int)*((lo:Int)+1)=(((jQ x).1*(lo+1):Nat):Int):=by simp
     obtain⟨m,n⟩:∃m,(jQ x).1*(lo+1)=m:=⟨_,rfl⟩;have r:=agN x lo none m n;rw[n]at E z;clear n;generalize jQ x=j at *;obtain⟨n1,b1⟩:=j;simp only[]at c A r z;delta zF;go_in;go_wp2_with fail;refine A.mono ?_;rintro e u ⟨rfl,rfl⟩;by_cases g:40<m
     .have d:=r.1 g;go_wp2;go_ret2;rw[d];exact⟨rfl,rfl⟩
     have d:=r.2 g;go_wp2;go_ret2;rw[d];exact⟨by first | rfl|(simp;done)|go_num,rfl⟩
   | some k =>
     have H:=F k rfl;simp only[hiT]at G;have E:(jQ x).1*k<=41*10:=a0D c (by omega);have z:((jQ x).1:Int)*(k:Int)=(((jQ x).1*k:Nat):Int):=by simp
     obtain⟨m,n⟩:∃m,(jQ x).1*k=m:=⟨_,rfl⟩;have r:=agN x lo (some k) m n;rw[n]at E z;clear n F;generalize jQ x=j at *;obtain⟨n1,b1⟩:=j;simp only[]at c A r z;delta zF;go_in;go_wp2_with fail;refine A.mono ?_;rintro e u ⟨rfl,rfl⟩;by_cases g:40<m
     .have d:=r.1 g;go_wp2;go_ret2;rw[d];exact⟨rfl,rfl⟩
     have d:=r.2 g;go_wp2;go_ret2;rw[d];exact⟨by first | rfl|(simp;done)|go_num,rfl⟩
def OV(e:TypeId)(base:Nat)(w:World)(v:Value)(xs:List Value):Prop:=w.ownsRow base e 1 v xs.length xs
theorem OV.nil(e base w):OV e base w zN []:=World.ownsRow_nil _ _ _ _
theorem OV.aC {S base w}(h:OV e base w v xs)(f:aB S w w')(a:∀k,k∈S->k<base):OV e base w' v xs:=fG h f a
def OV.shape {base w}(h:OV e base w v xs):∃a cap,v=.slice a xs.length cap:=aW h
theorem OV.cell {base w a n cap}(h:OV e base w (.slice a n cap) xs) {j u}(b:xs[j]?=some u):∃g,a=some (zA g)/\base<=g/\g<w.heap.size/\zC w g j u:=by
 rcases h.2 with⟨e,f⟩|⟨g,_,_,e,hb,d,_⟩
 .have:=(a0d.1 b).1;omega
 simp[Value.slice.injEq]at e;obtain⟨rfl,rfl,rfl⟩:=e;have c:=World.ownsRow.cells h (g:=g) rfl j u b;rw[add0]at c;exact⟨g,rfl,hb,(a0c.1 d).1,c⟩
def DL {ops rest o a} {Q:Exit->Act->World->Prop}(w)(k:o.guard=none)(s x t e z c)
 (I:(Tryz.prog.info? e).map (λi=>(i.zero,i.size,i.bytes))=some (some z,1,c)) (ht:Tryz.prog.underlying t=some (.slice e)) (H:z.cells.size=1)
 (ho:o.op=.call { callee:=.builtin .append,args:=#[s,x],argTypes:=#[t,t] })
 (base v xs N b1 u) (r:N=xs.length+1) (p:a.eval s=v) (G:OV e base w v xs) (m:a.eval x=zS b1 1 1)
 (q:zC w b1 0 u) (n:u.oneCell'=true) (hlen:(xs.length+1)*c<=140737488355328) (J:xs.length<=140737488355328) (f:base<=w.heap.size)
 (h:∀g cap w',OV e base w' (zS g N cap) (xs++[u])->w.grownBy w' v.ownBlock->(v.ownBlock=some g\/g=w.heap.size)->g<w'.heap.size->wpList Tryz.prog ops Q rest (a.put o.dst (zS g N cap)) w') :
 wpList Tryz.prog ops Q (o::rest) a w:=by
 subst r;obtain⟨l,hi,gT,F,E⟩:=info_parts I;refine wpList_append_lies w k s x t ho base e l z 1 c ht hi gT F E H (by decide) v xs.length xs p G (zA b1) 1 1 [u] m rfl ?_ (λy d=>by simp at d;subst d;omega) (by decide) (by unfold maxLen;omega) hlen f w.heap.size rfl ?_
 .intro j y b;have:j=0:=by
   cases j with
   | zero=>rfl
   | succ j=>simp at b
  subst this;rw[add0];simp at b;rw[<-b];omega
 intro g cap w' D C B A;exact h g cap w' (by unfold OV;rw[a0p];omega) C B A
theorem mi(w:World)(v t n)(h:w.heap.size=n):zC (w.alloc (.cells #[v] t)) n 0 v:=by subst h;simp
theorem OV.base {base w}(h:OV e base w v xs):∀k,v.ownBlock=some k->base<=k:=λk a=>(h.lt k a).1
def aM(n:Nat):Value:=zP n
def OV.open {base w}(h:OV e base w v xs):∃a n cap,v=.slice a n cap/\n=xs.length:=by obtain⟨a,cap,rfl⟩:=h.shape;exact⟨a,_,cap,rfl,rfl⟩
def aoW:(Tryz.prog.info? 135).map (λi=>(i.zero,i.size,i.bytes))=some (some (.pointer none),1,8):=by kernel_rfl
def SQ(w:World):LN->LN->Prop
 | [],[]=>True
 | q::a,s::S=>RN w q (.one s)/\SQ w a S
 | _,_=>False
theorem SQ.app {w}:∀{a b S T},SQ w a S->SQ w b T->SQ w (a++b) (S++T)
 | [],b,[],T,_,h=>h
 | q::a,b,s::S,T,h,k=>⟨h.1,SQ.app h.2 k⟩
 | [],_,_::_,_,h,_=>by simp[SQ]at h
 | _::_,_,[],_,h,_=>by simp[SQ]at h
theorem SQ.len {w}:∀{a S},SQ w a S->a.length=S.length
 | [],[],_=>rfl
 | q::a,s::S,h=>by simp[SQ.len h.2]
 | [],_::_,h=>by simp[SQ]at h
 | _::_,[],h=>by simp[SQ]at h
def SQ.get {w}:∀{a S},SQ w a S->∀(j:Nat) s,S[j]?=some s->∃q,a[j]?=some q/\RN w q (.one s)
 | [],[],_,j,s,h=>by simp at h
 | q::a,c::S,h,0,s,b=>by simp at b;subst b;exact⟨q,rfl,h.1⟩
 | q::a,c::S,h,j+1,s,b=>by simpa using SQ.get h.2 j s (by simpa using b)
 | [],_::_,h,_,_,_=>by simp[SQ]at h
 | _::_,[],h,_,_,_=>by simp[SQ]at h
def StQ(a:World)(c:LN)(t:TR)(e:Ending)(w':World):Prop :=
 ∃v b,e=zR v/\OV 135 a.heap.size w' v ((c++b).map aM)/\aB [] a w'/\SQ a b (kP t)
def StC(t:TR):Prop:=∀(a w:World) (p:Nat) (v:Value) (b:LN),RN a p t->aB [] a w->OV 135 a.heap.size w v (b.map aM)->b.length+(kP t).length<=1000000 ->
 zF 100 #[zP p,v] w (StQ a b t)
def dX.of{w}(f:aB [] w w'):dX w w':=dX.nil f
def yO:∀t:TR,StC t
 | .nil=>by
   intro m w p v f h hF ho r;have c0:=RK.c0 (RN.aY (dX.of hF) h);obtain⟨av,d,M,rfl,l⟩:=ho.open;clear l;have O:=aj ho;have F:=aj hF;clear ho hF h;delta zF;go_in;go_wp2;go_ret;exact⟨_,[],rfl,by rw[a0R];exact O,F,trivial⟩
 | .one s=>by
   intro m w p v f h hF ho r;have c0:=RK.c0 (RN.aY (dX.of hF) h);obtain⟨av,d,M,rfl,l⟩:=ho.open;have O:=aj ho;have F:=aj hF;have HN:=aj h;have:=hF.size;have V:(f.map aM).length=f.length:=by simp
   rw[V]at l;have Hnv:=aj l;clear l;simp[kP,a0r,a1e]at r;clear ho hF h;delta zF;go_in;go_wp2_with (at_builtin;refine DL _ rfl _ _ _ _ _ _ aoW Tryz.underlying205 rfl rfl m.heap.size (.slice av d M) (f.map aM) (d+1) w.heap.size (aM p) (by rw[V,Hnv.o]) rfl (O.o.aC (S:=[]) ((aB.refl [] _).alloc _) (by simp)) rfl (mi _ _ _ _ rfl) rfl (by rw[V];omega) (by rw[V];omega) (by simp;omega) ?_;intro g _ _ aS aH bq _;have O5:=aj aS;have F5:=aj ((F.o.alloc _).grown aH (λk c=>.inr (O.o.base k c)));clear aS aH bq);go_ret;exact⟨_,[p],rfl,by rw[a0P];exact O5,F5,⟨HN,trivial⟩⟩
 | .both x y=>by
   intro m w p v f h hF ho r;obtain⟨a,b,c,u,J⟩:=h;have c0:=(c.aY (dX.of hF)).c0;obtain⟨ca,_⟩:=(c.aY (dX.of hF)).ends;unfold pq at ca;simp only[kP,a0p]at r;have A:=aj (yO x m w a v f u hF ho (by omega));obtain⟨av,d,M,rfl,l⟩:=ho.open;clear l;have HK:=aj c;have HY:=aj J;clear ho hF c u J;delta zF;go_in;go_wp2_with fail;refine(A.o).mono ?_;rintro e T ⟨U,C,rfl,i,n,q⟩;have B:=aj (yO y m T b U (f++C) HY.o n i (by rw[a0p,q.len];omega));have Z:=aj q;obtain⟨_,cb,_⟩:=(HK.o.aY (dX.of n)).ends;unfold pq at cb;obtain⟨Y,W,X,rfl,D⟩:=i.open;clear D;clear i n q A;go_wp2_with fail;refine(B.o).mono ?_;rintro e w2 ⟨v2,z,rfl,E,H,G⟩;have R:=aj E;have F2:=aj H;have P:=aj G;obtain⟨N,I,L,rfl,j⟩:=E.open;clear j;clear E H G B;go_wp2;go_ret;exact⟨_,C++z,rfl,by rw[<-a0M];exact R,F2,Z.o.app P⟩
 | .either x y=>by
   intro m w p v f h hF ho r;obtain⟨a,b,c,u,J⟩:=h;have c0:=(c.aY (dX.of hF)).c0;obtain⟨ca,_⟩:=(c.aY (dX.of hF)).ends;unfold pq at ca;simp only[kP,a0p]at r;have A:=aj (yO x m w a v f u hF ho (by omega));obtain⟨av,d,M,rfl,l⟩:=ho.open;clear l;have HK:=aj c;have HY:=aj J;clear ho hF c u J;delta zF;go_in;go_wp2_with fail;refine(A.o).mono ?_;rintro e T ⟨U,C,rfl,i,n,q⟩;have B:=aj (yO y m T b U (f++C) HY.o n i (by rw[a0p,q.len];omega));have Z:=aj q;obtain⟨_,cb,_⟩:=(HK.o.aY (dX.of n)).ends;unfold pq at cb;obtain⟨Y,W,X,rfl,D⟩:=i.open;clear D;clear i n q A;go_wp2_with fail;refine(B.o).mono ?_;rintro e _ ⟨_,z,rfl,E,H,G⟩;have R:=aj E;have F2:=aj H;have P:=aj G;obtain⟨N,I,L,rfl,j⟩:=E.open;clear j;clear E H G B;go_wp2;go_ret;exact⟨_,C++z,rfl,by rw[<-a0M];exact R,F2,Z.o.app P⟩
 | .often x lo hi=>by
   intro m w p v f h hF ho r;obtain⟨a,c,u⟩:=h;have:=(c.aY (dX.of hF)).c0;obtain⟨ca,_⟩:=(c.aY (dX.of hF)).ends;unfold pq at ca;simp only[kP]at r;have A:=aj (yO x m w a v f u hF ho r);obtain⟨_,d,M,rfl,l⟩:=ho.open;clear l;clear ho hF c u;delta zF;go_in;go_wp2_with fail;refine(A.o).mono ?_;rintro e T ⟨U,C,rfl,i,n,q⟩;have R:=aj i;have F2:=aj n;have P:=aj q;obtain⟨N,I,L,rfl,j⟩:=i.open;clear j;clear i n q A;go_wp2;go_ret;exact⟨_,C,rfl,R,F2,P⟩
theorem agP(f:NF->Nat):∀l x,((put l x).map f).sum<=(l.map f).sum+f x
 | [],x=>by simp[put]
 | y::r,x=>by
   have:=agP f r x;unfold put;split
   .grind
   grind
theorem Kk(f:NF->Nat):∀(l acc:List NF),((l.foldl put acc).map f).sum<=(acc.map f).sum+(l.map f).sum
 | [],acc=>by simp
 | x::r,acc=>by have b:=Kk f r (put acc x);have a:=agP f acc x;simp only[a1R,a0E,a0Y];omega
theorem aoY(f:NF->Nat)(l):((gU l).map f).sum<=(l.map f).sum:=by grind [Kk,gU]
theorem WG:∀{l},bf l≠0->∃y∈l,dF y=true
 | [],h=>by simp[bf]at h
 | x::r,h=>by
   cases a:dF x
   .have hb:bits x=0:=by cases x<;>simp[dF]at a<;>rfl
    rw[tH,hb,Nat.zero_or]at h;obtain⟨y,b,c⟩:=WG h;exact⟨y,by simp[b],c⟩
   exact⟨x,by simp,a⟩
theorem amL(f)(a:Nat)(g:∀y,dF y=true->f y=a)(l):((bN l).map f).sum<=(l.map f).sum:=by
 have b:∀l:List NF,((l.filter (λx=>!dF x)).map f).sum+(if l.any dF then a else 0)<=(l.map f).sum:=by
  intro l;induction l with
  | nil=>simp
  | cons x r c =>
    cases d:dF x
    .grind
    grind
 have h:=b l;unfold bN;rw[a0P,a1Y];by_cases e:bf l=0
 .grind
 grind [WG,dF,bf]
theorem DN {xs}(g:∀x∈xs,wf x)(f)(a:Nat)(d:∀y,dF y=true->f y=a):((parts (bQ xs)).map f).sum<=((xs.flatMap parts).map f).sum:=by
 have b:∀p∈gU (bN (xs.flatMap parts)),iU p=true:=by
  intro p c;rcases wI (kK c) with h|h
  .exact ET h
  grind [mY]
 have e:parts (bQ xs)=gU (bN (xs.flatMap parts)):=by
  unfold bQ;generalize gU (bN (xs.flatMap parts))=L at *
  match L,b with
  | [],_=>rfl
  | [y],b=>exact wJ (b y (by simp))
  | y::z::r,_=>rfl
 rw[e];exact a0h (aoY f _) (amL f a d _)
def pc(k n:Nat)(y:NF):Nat:=if dF y then 514+k else oG y k+hG y k n
def pn(y:NF):Nat:=if dF y then 514 else nl y+1
structure KP(X:NF)(t:Nat)(C E e:Nat->Nat):Prop where
 t:((parts X).map pn).sum<=t
 c:∀n,((parts X).map (pc 0 n)).sum<=C n
 e:∀k n,1<=k->((parts X).map (pc k n)).sum<=E n+e n*k
def U4(k n y):oG y k+hG y k n<=pc k n y:=by
 unfold pc;split
 .rename_i h;cases y<;>simp[dF]at h;rename_i s;have:=YO s;simp only[oG,hG];omega
 omega
def aoZ(y):nl y+1<=pn y:=by
 unfold pn;split
 .rename_i h;cases y<;>simp[dF]at h;rename_i s;have:=YO s;omega
 omega
def ae7(k n):∀l:List NF,XX l k+XY l k n<=(l.map (pc k n)).sum
 | []=>by simp[XX,XY]
 | x::r=>by have b:=U4 k n x;have a:=ae7 k n r;simp only[XX,XY,a0E,a0Y];omega
def KP.plain {t C E e}(h:KP X t C E e)(g:jK X=false)(hz:X≠.zero):zL X t C E e:=by
 have f:parts X=[X]:=by
  cases X with
  | zero=>exact absurd rfl hz
  | sum l=>simp[jK]at g
  | one=>rfl
  | set s=>rfl
  | pair a b=>rfl
  | star a=>rfl
 refine⟨?_,λn=>?_,λk n i=>?_⟩
 .have:=h.t;rw[f]at this;simp at this;have:=aoZ X;omega
 .have d:=h.c n;rw[f]at d;simp at d;have:=U4 0 n X;omega
 have d:=h.e k n i;rw[f]at d;simp at d;have:=U4 k n X;omega
theorem KP.sum {l t C E e}(h:KP (.sum l) t C E e) :
 zL (.sum l) (t+2) C (λn=>t+3+E n+(if JE l then sumTo (λj=>C j+519) n else 0)) (λn=>1+e n+(if JE l then n else 0)):=by
 have f:∀n,XX l 0+XY l 0 n<=C n:=λn=>a0h (ae7 _ _ l) (h.c n);have ht:nl (.sum l)<=t+2:=by
  rw[MF];have b:∀l:List NF,sW l<=(l.map pn).sum:=by
   intro l;induction l with
   | nil=>simp[sW]
   | cons x r i=>have:=aoZ x;rw[Ca];simp[a0E,a0Y];omega
  have:=b l;have:=h.t;simp[parts]at this;omega
 refine⟨ht,λn=>?_,λk n d=>?_⟩
 .grind [oG,hG]
 have b:=a0h (ae7 _ _ l) (h.e k n d);have a:¬ k=0:=by omega
 simp only[oG,hG,a,a0I,a0J];by_cases hb:JE l=true
 .simp[hb,a0G];have g:sumTo (λj=>518+XX l 0+XY l 0 j+k+1) n<=sumTo (λj=>C j+519+k) n:=qJ λj _ _=>by have:=f j;omega
  rw[yJ (λj=>C j+519) (λ_=>k),oO]at g;omega
 grind
def np(x:NF):Nat:=(parts x).length
def agQ:∀l:List NF,l.length<=bP l
 | []=>a0b _
 | x::r=>by have:=x.size_pos;have:=agQ r;simp only[a0r,bP];omega
def ZY(x):np x<=x.size:=by
 cases x with
 | sum l=>have:=agQ l;simp[np,parts,NF.size];omega
 | _=>simp only[np,parts,NF.size,a0r,a1e];omega
theorem Z0 {y b}(f:wf y)(hb:aP b=true):np (aG y b)<=np b+1:=by
 by_cases ht:aP y=true
 .have:∃p q,aG y b=.pair p q:=by
   revert f ht
   refine NF.ind (P:=λy=>wf y->aP y=true->∃p q,aG y b=.pair p q) ?_ y;intro y h f ht;cases y with
   | zero=>simp[aP]at ht
   | one=>simp[aP]at ht
   | pair c d=>rw[dA hb];rw[aX f.2.2.1 (eP f.2.1 f.2.2.2 hb)];exact⟨_,_,rfl⟩
   | set s=>rw[aX rfl hb];exact⟨_,_,rfl⟩
   | sum l=>rw[aX rfl hb];exact⟨_,_,rfl⟩
   | star a=>rw[aX rfl hb];exact⟨_,_,rfl⟩
  obtain⟨p,q,e⟩:=this;rw[e];simp[np,parts]
 grind [fQ,np,parts,aG]
theorem ajD {ls}(a:∀x∈ls,wf x):np (bQ ls)<=(ls.map np).sum:=by
 have:=DN a (λ_=>1) 1 (λ_ _=>rfl);simp only[List.map_const']at this;have e:(ls.flatMap parts).length=(ls.map np).sum:=by rw[List.length_flatMap];rfl
 simp at this;unfold np;omega
theorem ao0(c x):wf x->np (left c x)<=x.size*(x.size+1):=by
 refine NF.ind (P:=λx=>wf x->np (left c x)<=x.size*(x.size+1)) ?_ x;intro x k d;cases x with
 | zero=>simp[left,np,parts]
 | one=>simp[left,np,parts]
 | set s=>simp[left];split<;>simp[np,parts,NF.size]
 | star a=>have:=Z0 (y:=left c a) (b:=.star a) (gI c a d.1) rfl;have j:np (.star a)=1:=rfl;simp[left,NF.size];have:=a.size_pos;have i:2*3<=(a.size+1)*(a.size+1+1):=a0D (by omega) (by omega);omega
 | pair a b =>
   have:=Z0 (y:=left c a) (gI c a d.1) d.2.2.2;have j:=k b (by simp[NF.size];omega) d.2.1;have:=ZY b;have m:∀x ∈ [aG (left c a) b,left c b],wf x:=by simp;exact⟨lY (gI c a d.1) d.2.1,gI c b d.2.1⟩
   have:np (left c (.pair a b))<=np (aG (left c a) b)+np (left c b):=by grind [left,ajD,kY]
   simp[NF.size];have:(b.size+1)*(b.size+1)<=(a.size+b.size+1)*(a.size+b.size+1+1):=a0D (by omega) (by omega);have:(b.size+1)*(b.size+1)=b.size*(b.size+1)+b.size+1:=by rw[a0J];omega
   omega
 | sum l =>
   have m:∀x∈xy c l,wf x:=by rw[fP];intro y f;obtain⟨z,hz,rfl⟩:=a0q.1 f;exact gI c z (kJ.1 d.1 z hz)
   have:=ajD m;have j:∀e:List NF,(∀y∈e,y∈l)->((xy c e).map np).sum<=bP e*(bP l+1):=by
    intro e;induction e with
    | nil=>intro _;simp[xy]
    | cons y r g=>intro o;have f:=o y (by simp);have:=dx f;have:=k y (by simp[NF.size];omega) (kJ.1 d.1 y f);have:=g (λz hz=>o z (by simp[hz]));have:y.size*(y.size+1)<=y.size*(bP l+1):=a0o _ (by omega);simp[xy,a0E,a0Y,bP,a0J (n:=y.size)];omega
   have:=j l (λ_ h=>h);have:bP l*(bP l+1)<=(bP l+1)*(bP l+1+1):=a0D (by omega) (by omega);simp[left,NF.size];omega
def Jn(t:List NF):Nat:=(t.map λx=>x.size+1).sum
theorem ac6(s t):Jn (s++t)=Jn s+Jn t:=by simp[Jn]
def Kl:∀{t},t≠[]->Jn t=(chain t).size+1
 | [x],_=>by simp[Jn,chain]
 | x::y::r,_=>by have:=Kl (t:=y::r) (by simp);rw[Wi (by simp)];simp only[NF.size];show(x.size+1)+Jn (y::r)=_;omega
def amM(X):∀Y t,wf X->(Y,t)∈bG X->Jn t<=X.size*dZ X:=by
 refine NF.ind (P:=λX=>∀(Y:NF) (t:List NF),wf X->(Y,t)∈bG X->Jn t<=X.size*dZ X) ?_ X;intro X f Y t d h;rcases tJ h with⟨_,rfl⟩|⟨a,b,s,rfl,c,rfl⟩|⟨a,b,rfl,c⟩|⟨l,x,rfl,i,c⟩|⟨a,s,rfl,c,rfl⟩
 .simp[Jn]
 .have e:=f a (by simp[NF.size];omega) Y s d.1 c;have g:=Kl (EU b);rw[xz d.2.1]at g;rw[ac6,g];simp[NF.size,dZ];have j:a.size*dZ a<=a.size*(max (dZ a) (dZ b)+1):=a0o _ (by omega);have:(b.size+1)*1<=(b.size+1)*(max (dZ a) (dZ b)+1):=a0o _ (by omega);rw[show a.size+b.size+1=a.size+(b.size+1) by omega,a0J];omega
 .simp[NF.size,dZ];exact a0h (f b (by simp[NF.size];omega) Y t d.2.1 c) (a0D (by omega) (by omega))
 .have:=dx i;have:=J6 i;simp[NF.size,dZ];exact a0h (f x (by simp[NF.size];omega) Y t (kJ.1 d.1 x i) c) (a0D (by omega) (by omega))
 have:=f a (by simp[NF.size]) Y s d.1 c;have g:Jn [.star a]=a.size+2:=by simp[Jn,NF.size]
 have:=Rk a;rw[ac6,g];simp[NF.size,dZ,a0J,a1A];omega
theorem ao1(X):∀Y t,(Y,t)∈bG X->dZ Y<=dZ X:=by
 refine NF.ind (P:=λX=>∀(Y:NF) (t:List NF),(Y,t)∈bG X->dZ Y<=dZ X) ?_ X;intro X e Y t h;rcases tJ h with⟨rfl,rfl⟩|⟨a,b,s,rfl,c,rfl⟩|⟨a,b,rfl,c⟩|⟨l,x,rfl,d,c⟩|⟨a,s,rfl,c,rfl⟩
 .omega
 .grind [NF.size,dZ]
 .grind [NF.size,dZ]
 .have:=dx d;have:=J6 d;have:=e x (by simp[NF.size];omega) Y t c;simp[dZ];omega
 grind [NF.size,dZ]
theorem ao2(C:WC X) {w c g}(L:X.size*dZ X<=524800)(hw:w.length<=40)(h:dF g=true\/g=.one\/sV X w g):np (left c g)<=1000000000000:=by
 rcases h with h|h|h
 .cases g with
  | set s=>simp[left];split<;>simp[np,parts]
  | _=>simp[dF]at h
 .rw[h];simp[left,np,parts]
 obtain⟨Z,u,Y,t,v,k,l,I,rfl,_⟩:=h;have D:=(bU C.1 k).1;have j:=bU D l;have cZ:=UU _ Z u C.2 k;have cY:=UU Z Y t cZ l;have m:=(pZ k).1;have F:=(pZ l).1;have z:=Rk X;have R:X.size<=524800:=by have:X.size*1<=X.size*dZ X:=a0o _ z;omega
 by_cases ht:t=[]
 .subst ht;have e:left c (mk (dW Y v) [])=dW Y (v++[c]):=(tK Y v c).symm;rw[e];have f:WC (dW Y (v++[c])):=by
   have:∀(u:LN) (y:NF),WC y->WC (dW y u):=by
    intro u;induction u with
    | nil=>intro y q;exact q
    | cons a r H=>intro y q;exact H _ (q.left a)
   exact this _ _ ⟨j.1,cY⟩
  obtain⟨N,s,G⟩:=Cc f.1 f.2
  let M:List NF:=.set s::.one::((bG Y).flatMap λo=>(DF (v++[c])).map λv'=>mk (dW o.1 v') o.2)
  have E:∀p∈parts (dW Y (v++[c])),p∈M:=by
   intro p B;rcases yF Y j.1 (v++[c]) p B with i|i|⟨_,_,v',i,V,U,T,S⟩
   .rw[G p B i];simp[M]
   .rw[i];simp[M]
   grind [bG,DF,mk,dW,Mw]
  have:=qP N E;have:M.length=2+Y.size*(v.length+2):=by
   have:=xD (λo:NF × List NF=>(DF (v++[c])).map λv'=>mk (dW o.1 v') o.2) (λ_=>v.length+2) (by intro o;simp[Mx]) (bG Y);have:((bG Y).map λ_=>v.length+2).sum=Y.size*(v.length+2):=by
    rw[<-Zy Y];induction bG Y with
    | nil=>simp
    | cons a r n=>simp only[a0E,a0Y,n,a0r,a0J,a2T];omega
   have:M.length=((bG Y).flatMap λo=>(DF (v++[c])).map λv'=>mk (dW o.1 v') o.2).length+2:=by simp[M]
   omega
  have:=I.length_le;have:Y.size*(v.length+2)<=524800*42:=a0D (by omega) (by omega);unfold np;omega
 rw[lH ht];have:=amM Z Y t D l;have:Z.size*dZ Z<=524800:=a0h (a0D m (ao1 X Z u k)) L;have:=Kl ht;have b:=EW j.2;have d:wf (dW Y v):=BR j.1 v;have:=Z0 (y:=left c (dW Y v)) (gI c _ d) (fK j.2 ht);have:=ao0 c (chain t) b;have:=ZY (chain t);have:∀x ∈ [aG (left c (dW Y v)) (chain t),left c (chain t)],wf x:=by simp;exact⟨lY (gI c _ d) b,gI c _ b⟩
 have:np (left c (.pair (dW Y v) (chain t)))<=np (aG (left c (dW Y v)) (chain t))+np (left c (chain t)):=by
  show np (if dK (dW Y v) then kY (aG (left c (dW Y v)) (chain t)) (left c (chain t)) else aG (left c (dW Y v)) (chain t))<=_;split
  .grind [ajD,kY]
  omega
 have:(chain t).size*((chain t).size+1)<=524800*524801:=a0D (by omega) (by omega);omega
end
end Go.Proofs.YtnkobfoopcolaaaGreat
