import Derived.Test.YtpcbbbilmpobaaaGreatDoorChecked
import Derived.WalkKit
import Derived.WalkSpells
import Derived.WalkLawsBesides
import Derived.Deep.QuietTactic
import Derived.BigQuiet
import Derived.Deep.LoopGhost
import Derived.Deep.RegionHeld3
import Derived.Deep.AppendLies
set_option linter.unusedVariables false
set_option linter.unusedSimpArgs false
set_option linter.unnecessarySimpa false
set_option maxRecDepth 100000
set_option maxHeartbeats 400000
namespace Go.Proofs.YtpcbbbilmpobaaaGreatDoor
open Go.RowKit
def bs(l:List UInt8):ByteArray:=⟨l.toArray⟩
theorem bs_size(l:List UInt8):(bs l).size=l.length:=rfl
theorem bs_toList(l:List UInt8):(bs l).toList=l:=by rw[ByteArray.toList_eq];simp[bs]
theorem bs_of(s:ByteArray):bs s.data.toList=s:=by cases s;simp[bs]
theorem bs_append(a b:List UInt8):bs a++bs b=bs (a++b):=by
 apply ByteArray.ext;simp[bs]
theorem bs_extract(l:List UInt8)(a b:Nat):(bs l).extract a b=bs ((l.take b).drop a):=by
 apply ByteArray.ext;simp[bs,ByteArray.data_extract,List.extract_eq_take_drop,List.take_drop]
 by_cases h:a≤b
 ·rw[Nat.add_sub_cancel' h]
 ·rw[show b-a=0 by omega,Nat.add_zero,List.drop_eq_nil_of_le (by simp only[List.length_take];omega),List.drop_eq_nil_of_le (by simp only[List.length_take];omega)]
theorem bs_get(l:List UInt8)(k:Nat)(h:k<(bs l).size):(bs l)[k]=l[k]'h:=rfl
structure Frm(S:List Nat)(w w':World):Prop where
 os:w'.os=w.os
 tape:w'.tape=w.tape
 output:w'.output=w.output
 size:w.heap.size≤w'.heap.size
 block:∀ k,k<w.heap.size→k∉S→w'.heap[k]?=w.heap[k]?
theorem Frm.refl(S:List Nat)(w:World):Frm S w w:=⟨rfl,rfl,rfl,Nat.le_refl _,fun _ _ _=>rfl⟩
theorem Frm.trans{S:List Nat}{a b c:World}(h:Frm S a b)(k:Frm S b c):Frm S a c :=
 ⟨k.os.trans h.os,k.tape.trans h.tape,k.output.trans h.output,Nat.le_trans h.size k.size,
  fun i hi hS=>(k.block i (Nat.lt_of_lt_of_le hi h.size) hS).trans (h.block i hi hS)⟩
theorem Frm.mono{S S':List Nat}{a b:World}(h:Frm S a b)(hs:∀ k,k<a.heap.size→k∈S→k∈S'):Frm S' a b :=
 ⟨h.os,h.tape,h.output,h.size,fun k hk hS=>h.block k hk (fun hm=>hS (hs k hk hm))⟩
theorem Frm.nil{S:List Nat}{a b:World}(h:Frm [] a b):Frm S a b:=h.mono (by simp)
theorem Frm.drew{S:List Nat}{a w:World}(h:Frm S a w):Frm S a w.drew:=⟨h.os,h.tape,h.output,h.size,h.block⟩
theorem Frm.drewN{S:List Nat}{a w:World}(n:Nat)(h:Frm S a w):Frm S a (w.drewN n):=⟨h.os,h.tape,h.output,h.size,h.block⟩
theorem Frm.setCell{S:List Nat}{a w:World}(h:Frm S a w){p:Addr}(hp:p.block∈S∨a.heap.size≤p.block)(u:Value):Frm S a (w.setCell p u):=by
 refine ⟨h.os,h.tape,h.output,?_,fun k hk hS=>?_⟩
 ·have:=h.size;simp[World.setCell];exact this
 ·have hne:k≠p.block:=by
   intro e;rcases hp with hp|hp
   ·exact hS (e ▸ hp)
   ·omega
  rw[Below.heap_setCell _ _ _ _ hne];exact h.block k hk hS
theorem Frm.alloc{S:List Nat}{a w:World}(h:Frm S a w)(o:Obj):Frm S a (w.alloc o):=by
 refine ⟨h.os,h.tape,h.output,?_,fun k hk hS=>?_⟩
 ·have:=h.size;simp;omega
 ·rw[Below.heap_alloc _ _ _ (Nat.lt_of_lt_of_le hk h.size)];exact h.block k hk hS
theorem Frm.grown{S:List Nat}{a w w':World}{row:Option Nat}(h:Frm S a w)(hg:w.grownBy w' row)(hr:∀ k,row=some k→k∈S∨a.heap.size≤k):Frm S a w':=by
 refine ⟨hg.os.trans h.os,hg.tape.trans h.tape,hg.output.trans h.output,Nat.le_trans h.size hg.size,fun k hk hS=>?_⟩;rw[hg.block k (Nat.lt_of_lt_of_le hk h.size) (fun e=>(hr k e.symm).elim hS (fun h1=>by omega))];exact h.block k hk hS
theorem Frm.below{a b:World}(h:Frm [] a b):Below a.heap.size a b:=⟨h.os,h.tape,h.output,h.size,fun k hk=>h.block k hk (by simp)⟩
theorem Frm.cell{S:List Nat}{w w':World}(h:Frm S w w'){p:Addr}(hp:p.block<w.heap.size)(hS:p.block∉S):w'.cell? p=w.cell? p:=World.cell?_of_block (h.block _ hp hS)
theorem Frm.frozen{S:List Nat}{w w':World}(h:Frm S w w'){p:Addr}(hp:p.block<w.heap.size)(hS:p.block∉S):w'.frozen? p=w.frozen? p:=World.frozen?_of_block (h.block _ hp hS)
theorem ret_bool{a b:Bool}(h:a=b):Ending.returned (.bool a)=.returned (.bool b):=by rw[h]
theorem ret_int{k:IntKind}{a b:Int}(h:a=b):Ending.returned (.int k a)=.returned (.int k b):=by rw[h]
theorem ret_str{a b:List UInt8}(h:a=b):Ending.returned (.string (bs a))=.returned (.string (bs b)):=by rw[h]
theorem hide{p:Prop}(h:p):Hid p:=h
def digB(c:Int):Bool:=decide (48≤c)&&decide (c≤57)
def letB(c:Int):Bool:=(decide (97≤c)&&decide (c≤122))||(decide (65≤c)&&decide (c≤90))
def nameB(c:Int):Bool:=letB c||digB c||(c==95)
theorem isDigit_any(c:Int)(w:World) :
 Calls Tryz.prog 82 #[.int .u8 c] w fun e w'=>e=.returned (.bool (digB c))∧w=w':=by
 go_enter Tryz.func82,Tryz.ntmps82
 go_wp2
 all_goals go_ret
 all_goals exact ⟨ret_bool (by simp[digB, *]<;>omega),rfl⟩
theorem isLetter_any(c:Int)(w:World) :
 Calls Tryz.prog 97 #[.int .u8 c] w fun e w'=>e=.returned (.bool (letB c))∧w=w':=by
 go_enter Tryz.func97,Tryz.ntmps97
 go_wp2
 all_goals go_ret
 all_goals exact ⟨ret_bool (by simp[letB, *]<;>omega),rfl⟩
theorem isNameByte_any(c:Int)(w:World) :
 Calls Tryz.prog 83 #[.int .u8 c] w fun e w'=>e=.returned (.bool (nameB c))∧w=w':=by
 cases h1:letB c<;>cases h2:digB c
 all_goals
  go_enter Tryz.func83,Tryz.ntmps83
  go_wp2_with (first | (go_at_call 97;refine (isLetter_any _ _).mono ?_;rintro e w' ⟨rfl,rfl⟩)|(go_at_call 82;refine (isDigit_any _ _).mono ?_;rintro e w' ⟨rfl,rfl⟩))
  all_goals go_ret
  all_goals exact ⟨ret_bool (by simp[nameB, *]),rfl⟩
theorem drewN_two(w:World)(a b:Nat):(w.drewN a).drewN b=w.drewN (a+b):=by simp[World.drewN,Nat.add_assoc]
def hd(l:List UInt8):Int:=((l.head?.getD 0).toNat:Int)
theorem hd_drop(t:List UInt8)(i:Nat)(h:i<t.length):hd (t.drop i)=(t[i].toNat:Int):=by
 unfold hd;rw[List.head?_drop,List.getElem?_eq_getElem h];rfl
def nmB(c:UInt8):Bool:=nameB c.toNat
def dgB(c:UInt8):Bool:=digB c.toNat
def isNameL(n:List UInt8):Bool:=!(n.isEmpty)&&decide (n.length≤8)&&!(digB (hd n))&&n.all nmB
theorem hd_cons(c:UInt8)(r:List UInt8):hd (c::r)=(c.toNat:Int):=rfl
theorem IsName_any(n:List UInt8)(w:World)(hn:n.length≤1048576) :
 Calls Tryz.prog 65 #[.string (bs n)] w fun e w'=>e=.returned (.bool (isNameL n))∧w=w':=by
 have hsz:=bs_size n
 by_cases h0:n.length=0
 ·have hg:Hid (isNameL n=false):=by
   show isNameL n=false;rw[List.eq_nil_of_length_eq_zero h0];rfl
  go_enter Tryz.func65,Tryz.ntmps65
  go_wp2;go_ret;exact ⟨ret_bool hg.out.symm,rfl⟩
 by_cases h8:8<n.length
 ·have hg:Hid (isNameL n=false):=by
   show isNameL n=false;unfold isNameL;simp;intros;omega
  have hb:((n.length:Int)==0)=false:=beq_eq_false_iff_ne.2 (by omega);go_enter Tryz.func65,Tryz.ntmps65
  go_wp2;go_ret;exact ⟨ret_bool hg.out.symm,rfl⟩
 have hb:((n.length:Int)==0)=false:=beq_eq_false_iff_ne.2 (by omega);have hd8:decide ((8:Int)<(n.length:Int))=false:=decide_eq_false (by omega);have hd9:decide (8<n.length)=false:=decide_eq_false (by omega);have hh:Hid (hd n=(n[0].toNat:Int)):=hd_drop n 0 (by omega);have hbg:(bs n)[0]'(by rw[hsz];omega)=n[0]:=rfl;generalize hn0:n[0]=c0 at hbg hh;have Hn0:Hid (n[0]=c0):=hn0;clear hn0;cases hd0:digB c0.toNat
 ·go_enter Tryz.func65,Tryz.ntmps65
  go_wp2_with (go_at_call 82;refine (isDigit_any _ _).mono ?_;rintro e w' ⟨rfl,rfl⟩)
  go_loopg [3] n.length (fun k i wr=>∃ j,j+k=n.length∧i=.int .i64 j∧wr=w∧(n.take j).all nmB=true)
  case atStart=>exact ⟨0,by omega,rfl,rfl,by simp⟩
  case round =>
   obtain ⟨j,hj,rfl,rfl,hal⟩:=hrel
   by_cases hlt:j<n.length
   ·have hbg2:(bs n)[j]'(by rw[hsz];omega)=n[j]:=rfl
    generalize hnj:n[j]=cj at hbg2;have Hnj:Hid (n[j]=cj):=hnj;clear hnj;cases hn2:nameB cj.toNat
    ·have hg:Hid (isNameL n=false):=by
      show isNameL n=false;have:n.all nmB=false:=by
       rw[Bool.eq_false_iff];intro ha;have:=List.all_eq_true.1 ha (n[j]'hlt) (List.getElem_mem _);unfold nmB at this;rw[Hnj.out,hn2]at this;cases this
      unfold isNameL;rw[this];simp
     have Hal:Hid ((n.take j).all nmB=true):=hal;clear hal hh;go_wp2_with (go_at_call 83;refine (isNameByte_any _ _).mono ?_;rintro e w' ⟨rfl,rfl⟩)
     go_ret;exact ⟨ret_bool hg.out.symm,rfl⟩
    ·have Hal:Hid ((n.take (j+1)).all nmB=true):=by
      show (n.take (j+1)).all nmB=true;rw[List.take_succ_eq_append_getElem hlt,List.all_append,hal];simp[nmB,hn2,Hnj.out]
     clear hal hh;go_wp2_with (go_at_call 83;refine (isNameByte_any _ _).mono ?_;rintro e w' ⟨rfl,rfl⟩)
     go_roundg (gk-1)
     case measure=>omega
     case rel=>exact ⟨j+1,by omega,by go_num,rfl,Hal.out⟩
   ·have hg:Hid (isNameL n=true):=by
     show isNameL n=true;unfold isNameL;have:n.take j=n:=List.take_of_length_le (by omega);rw[this]at hal;rw[hal,hh.out,hd0];simp;exact ⟨by intro e;simp[e]at h0,by omega⟩
    clear hal hh;go_wp2;go_ret;exact ⟨ret_bool hg.out.symm,rfl⟩
 ·have hg:Hid (isNameL n=false):=by
   show isNameL n=false;unfold isNameL;rw[hh.out,hd0];simp
  go_enter Tryz.func65,Tryz.ntmps65
  go_wp2_with (go_at_call 82;refine (isDigit_any _ _).mono ?_;rintro e w' ⟨rfl,rfl⟩)
  go_ret;exact ⟨ret_bool hg.out.symm,rfl⟩
theorem own_frm{S:List Nat}{w w':World}{base:Nat}{e:TypeId}{size:Nat}{v:Value}{n:Nat}{xs:List Value}(h:w.ownsRow base e size v n xs)(f:Frm S w w')(hS:∀ k,k∈S→k<base):w'.ownsRow base e size v n xs:=by
 refine ⟨h.1,?_⟩;rcases h.2 with hn|⟨g,cap,cur,rfl,hb,hgg,rest⟩
 ·exact .inl hn
 ·refine .inr ⟨g,cap,cur,rfl,hb,?_,rest⟩
  rw[f.block g (Array.getElem?_eq_some_iff.1 hgg).1 (fun hm=>by have:=hS g hm;omega)];exact hgg
theorem own_some{w:World}{base:Nat}{e:TypeId}{size:Nat}{v:Value}{n:Nat}{xs:List Value}(h:w.ownsRow base e size v n xs)(hn:v≠.slice none 0 0):∃ g cap,v=.slice (some ⟨g,0,none⟩) n cap:=by
 rcases h.2 with ⟨h1,_⟩|⟨g,cap,cur,rfl,_⟩
 ·exact absurd h1 hn
 ·exact ⟨g,cap,rfl⟩
theorem Frm.of_grown{w w':World}{g n cap:Nat}(h:w.grownBy w' (Value.ownBlock (.slice (some ⟨g,0,none⟩) n cap))):Frm [g] w w' :=
 ⟨h.os,h.tape,h.output,h.size,fun k hk hS=>h.block k hk (fun e=>hS (by simp[Value.ownBlock]at e;simp[e]))⟩
theorem infoU8:(Tryz.prog.info? 5).map (fun i=>(i.zero,i.size,i.bytes))=some (some (.int .u8 0),1,1):=by kernel_rfl
theorem infoStr:(Tryz.prog.info? 9).map (fun i=>(i.zero,i.size,i.bytes))=some (some (.string ByteArray.empty),1,16):=by kernel_rfl
def byt(l:List UInt8):List Value:=l.map fun c=>.int .u8 c.toNat
def RS(base:Nat)(w:World)(v:Value)(L:List (List UInt8)):Prop :=
 ∃ a cap,v=.slice a L.length cap∧L.length≤1048576∧L.length≤cap∧∀ j (h:j<L.length),∃ g off,a=some ⟨g,off,none⟩∧base≤g∧w.cell? ⟨g,off+j,none⟩=some (.string (bs L[j]))
theorem RS.frm{S:List Nat}{base:Nat}{w w':World}{v:Value}{L:List (List UInt8)}(h:RS base w v L)(f:Frm S w w')(hS:∀ k,k∈S→k<base):RS base w' v L:=by
 obtain ⟨a,cap,rfl,h1,h2,h3⟩:=h;refine ⟨a,cap,rfl,h1,h2,fun j hj=>?_⟩;obtain ⟨g,off,rfl,hb,hc⟩:=h3 j hj;exact ⟨g,off,rfl,hb,by rw[f.cell (World.block_lt_of_cell? w _ hc) (fun hm=>by have:=hS g hm;omega)];exact hc⟩
theorem RS.base{base base':Nat}{w:World}{v:Value}{L:List (List UInt8)}(h:RS base w v L)(hb:base'≤base):RS base' w v L:=by
 obtain ⟨a,cap,rfl,h1,h2,h3⟩:=h;refine ⟨a,cap,rfl,h1,h2,fun j hj=>?_⟩;obtain ⟨g,off,rfl,hb,hc⟩:=h3 j hj;exact ⟨g,off,rfl,by omega,hc⟩
theorem RS.drewN{base:Nat}{w:World}{v:Value}{L:List (List UInt8)}(h:RS base w v L)(n:Nat):RS base (w.drewN n) v L:=h
def sv(L:List (List UInt8)):List Value:=L.map fun s=>.string (bs s)
theorem sv_append(L:List (List UInt8))(s:List UInt8):sv L++[.string (bs s)]=sv (L++[s]):=by simp[sv]
def SL(base:Nat)(w:World)(v:Value)(L:List (List UInt8)):Prop:=w.ownsRow base 9 1 v L.length (sv L)
theorem SL.frm{S:List Nat}{base:Nat}{w w':World}{v:Value}{L:List (List UInt8)}(h:SL base w v L)(f:Frm S w w')(hS:∀ k,k∈S→k<base):SL base w' v L:=own_frm h f hS
theorem SL.rs{base:Nat}{w:World}{v:Value}{L:List (List UInt8)}(h:SL base w v L)(hl:L.length≤1048576):RS base w v L:=by
 rcases h.2 with ⟨rfl,h0⟩|⟨g,cap,cur,rfl,hb,hg,hnc,hcm,hcs,htake⟩
 ·exact ⟨none,0,by rw[h0],hl,by omega,fun j hj=>by omega⟩
 ·refine ⟨_,cap,rfl,hl,hnc,fun j hj=>⟨g,0,rfl,hb,?_⟩⟩
  have:=h.cells (g:=g) rfl j (.string (bs L[j])) (by simp[sv,hj]);have hadd:(⟨g,0,none⟩:Addr).add j=⟨g,0+j,none⟩:=by unfold Addr.add;split<;>simp_all
  rw[hadd]at this;exact this
theorem add0(b j:Nat):(⟨b,0,none⟩:Addr).add j=⟨b,j,none⟩:=by unfold Addr.add;split<;>simp_all
theorem wp_appS{ops:Array Oper}{rest:List Oper}{o:Oper}{a:Act}{Q:Exit→Act→World→Prop}(w:World)(hgd:o.guard=none)(s x:Operand)
 (ho:o.op=.call { callee:=.builtin .append,args:=#[s,x],argTypes:=#[47,47] })
 (base:Nat) (v:Value) (L:List (List UInt8)) (n:List UInt8) (b1:Nat) (hs:a.eval s=v) (hown:SL base w v L) (hx:a.eval x=.slice (some ⟨b1,0,none⟩) 1 1)
 (hc:w.cell? ⟨b1,0,none⟩=some (.string (bs n))) (hlen:L.length≤1048576) (hbase:base≤w.heap.size)
 (h:∀ g cap w',SL base w' (.slice (some ⟨g,0,none⟩) (L.length+1) cap) (L++[n])→w.grownBy w' v.ownBlock→base≤g→wpList Tryz.prog ops Q rest (a.put o.dst (.slice (some ⟨g,0,none⟩) (L.length+1) cap)) w') :
 wpList Tryz.prog ops Q (o::rest) a w:=by
 obtain ⟨i0,hi,hz0,hz1,hz2⟩:=info_parts infoStr;refine wpList_append_own w hgd s x 47 ho base 9 i0 (.string ByteArray.empty) 1 16 Tryz.underlying47 hi hz0 hz1 hz2 rfl (by decide) v L.length (sv L) hs hown ⟨b1,0,none⟩ 1 1 [.string (bs n)] hx rfl ?_ (fun x hx=>by simp at hx;subst hx;rfl) (by unfold maxLen;omega) (by omega) hbase ?_
 ·intro j u hj
  have:j=0:=by
   cases j with
   | zero=>rfl
   | succ j=>simp at hj
  subst this;rw[add0];simp at hj;rw[← hj];exact hc
 ·intro v' w' h1 h2 h3
  obtain ⟨g,cap,rfl⟩:=own_some h1 (fun e=>by have:=h3.1 e;simp at this);have h1':SL base w' (.slice (some ⟨g,0,none⟩) (L.length+1) cap) (L++[n]):=by
   unfold SL;rw[← sv_append];simpa using h1
  exact h g cap w' h1' h2 (h1.lt g rfl).1
theorem Frm.grown1{a w w':World}{v:Value}{base:Nat}(h:Frm [] a w)(hg:w.grownBy w' v.ownBlock)(hv:∀ k,v.ownBlock=some k→a.heap.size≤k):Frm [] a w' :=
 h.grown hg (fun k hk=>Or.inr (hv k hk))
theorem SL.base{base base':Nat}{w:World}{v:Value}{L:List (List UInt8)}(h:SL base w v L)(hb:base'≤base):SL base' w v L:=by
 refine ⟨h.1,?_⟩;rcases h.2 with hn|⟨g,cap,cur,rfl,hg,rest⟩
 ·exact .inl hn
 ·exact .inr ⟨g,cap,cur,rfl,by omega,rest⟩
theorem SL.nil(base:Nat)(w:World):SL base w (.slice none 0 0) []:=World.ownsRow_nil w base _ 1
theorem own_shape{w:World}{base:Nat}{e:TypeId}{size:Nat}{v:Value}{n:Nat}{xs:List Value}(h:w.ownsRow base e size v n xs):∃ a cap,v=.slice a n cap:=by
 rcases h.2 with ⟨e,h0⟩|⟨g,cap,cur,e,_⟩
 ·exact ⟨none,0,by rw[e,h0]⟩
 ·exact ⟨_,_,e⟩
theorem SL.shape{base:Nat}{w:World}{v:Value}{L:List (List UInt8)}(h:SL base w v L):∃ a cap,v=.slice a L.length cap:=own_shape h
theorem own_frmT{S:List Nat}{w w':World}{base:Nat}{e:TypeId}{size:Nat}{v:Value}{n:Nat}{xs:List Value}(h:w.ownsRow base e size v n xs)(f:Frm S w w')
 (hS:∀ k,k∈S→k<base∨∃ cur e' fz,w.heap[k]?=some (.cells cur e' fz)∧e'≠e):w'.ownsRow base e size v n xs:=by
 refine ⟨h.1,?_⟩;rcases h.2 with hn|⟨g,cap,cur,rfl,hb,hgg,rest⟩
 ·exact .inl hn
 ·refine .inr ⟨g,cap,cur,rfl,hb,?_,rest⟩
  rw[f.block g (Array.getElem?_eq_some_iff.1 hgg).1 (fun hm=>by
   rcases hS g hm with h1|⟨cur',e',fz,h1,h2⟩
   ·omega
   ·rw[hgg]at h1;simp at h1;exact h2 h1.2.1.symm)]
  exact hgg
theorem own_lt{w:World}{base:Nat}{e:TypeId}{size:Nat}{v:Value}{n:Nat}{xs:List Value}(h:w.ownsRow base e size v n xs)(k:Nat)(hk:v.ownBlock=some k):k<w.heap.size:=(h.lt k hk).2
def nmV(l:List UInt8):Nat:=l.foldl (fun v x=>v*256+x.toNat) 0
def nb:Nat→Nat→List UInt8
 | 0,_=>[]
 | n+1,v=>nb n (v / 256)++[UInt8.ofNat (v % 256)]
theorem nb_len:∀ n v,(nb n v).length=n
 | 0,_=>rfl
 | n+1,v=>by rw[nb,List.length_append,nb_len n];rfl
theorem nmV_snoc(l:List UInt8)(x:UInt8):nmV (l++[x])=nmV l*256+x.toNat:=by simp[nmV]
theorem nb_nmV:∀ (n:Nat) (l:List UInt8),l.length=n→nb n (nmV l)=l
 | 0,l,h=>by rw[List.length_eq_zero_iff.1 h];rfl
 | n+1,l,h=>by
   obtain ⟨r,x,rfl⟩:∃ r x,l=r++[x]:=by
    rcases List.eq_nil_or_concat l with e|⟨r,x,e⟩
    ·rw[e]at h;simp at h
    ·exact ⟨r,x,by simpa using e⟩
   have hx:=x.toNat_lt;rw[nb,nmV_snoc,show (nmV r*256+x.toNat) / 256=nmV r by omega,show (nmV r*256+x.toNat) % 256=x.toNat by omega,nb_nmV n r (by simp at h;omega),UInt8.ofNat_toNat]
theorem nmV_lt:∀ (n:Nat) (l:List UInt8),l.length=n→nmV l<256 ^ n
 | 0,l,h=>by rw[List.length_eq_zero_iff.1 h];decide
 | n+1,l,h=>by
   obtain ⟨r,x,rfl⟩:∃ r x,l=r++[x]:=by
    rcases List.eq_nil_or_concat l with e|⟨r,x,e⟩
    ·rw[e]at h;simp at h
    ·exact ⟨r,x,by simpa using e⟩
   have hx:=x.toNat_lt;have:=nmV_lt n r (by simp at h;omega);rw[nmV_snoc,Nat.pow_succ];omega
abbrev PT(α:Type):Type:=List UInt8→Option (α × List UInt8)
def pN(n lo hi:Nat):PT Nat:=fun s=>if n≤s.length∧lo≤nmV (s.take n)∧nmV (s.take n)<hi then some (nmV (s.take n),s.drop n) else none
def pT(hi:Nat):PT (List UInt8):=fun s=>(pN 1 0 hi s).bind fun x=>if x.1≤x.2.length then some (x.2.take x.1,x.2.drop x.1) else none
def pNm:PT (List UInt8):=fun s=>(pT 9 s).bind fun x=>if isNameL x.1=true then some x else none
def pR{α:Type}(p:Nat→PT α):Nat→List α→PT (List α)
 | 0,acc=>fun s=>some (acc,s)
 | n+1,acc=>fun s=>(p acc.length s).bind fun x=>pR p n (acc++[x.1]) x.2
theorem pR_succ{α:Type}(p:Nat→PT α)(n:Nat)(acc:List α)(s:List UInt8):pR p (n+1) acc s=(p acc.length s).bind fun x=>pR p n (acc++[x.1]) x.2:=rfl
def pL(hi:Nat):PT (List (List UInt8)):=fun s=>(pN 1 0 hi s).bind fun x=>pR (fun _=>pNm) x.1 [] x.2
structure AutM where
 k:Nat
 cl:List Nat
 acc:List Nat
 nx:List Nat
def pA:PT AutM:=fun s=>(pN 1 1 41 s).bind fun x=>(pN 2 1 257 x.2).bind fun y=>(pR (fun _=>pN 1 0 y.1) 256 [] y.2).bind fun c=>(pR (fun _=>pN 1 0 2) x.1 [] c.2).bind fun a=>(pR (fun _=>pN 1 0 x.1) (x.1*y.1) [] a.2).bind fun n=>some (⟨y.1,c.1,a.1,n.1⟩,n.2)
structure TstM where
 n:Nat
 k:Nat
 x:Nat
def pTs(nn nc na:Nat):PT TstM:=fun s=>(pN 1 0 nn s).bind fun x=>(pN 1 0 2 x.2).bind fun y=>(pN 1 0 (if y.1=1 then na else nc) y.2).bind fun z=>some (⟨x.1,y.1,z.1⟩,z.2)
def risB:List (List UInt8)→Bool
 | []=>true
 | [_]=>true
 | a::b::l=>Op.bytesLess a b&&risB (b::l)
structure HitM where
 rc:List UInt8
 bl:List (List UInt8)
 wt:Nat
 ev:Nat
 rp:Nat
def pH:PT HitM:=fun s=>(pNm s).bind fun x=>(pL 5 x.2).bind fun y=>if risB y.1=true then (pN 3 0 100000 y.2).bind fun a=>(pN 3 0 100000 a.2).bind fun b=>(pN 3 0 100000 b.2).bind fun c=>some (⟨x.1,y.1,a.1,b.1,c.1⟩,c.2) else none
structure InM where
 op:Nat
 x:Nat
 a:Nat
 b:Nat
def stands(nr nt n i:Nat)(c:InM):Bool :=
 match c.op with
 | 0=>c.x==0&&c.a==0&&c.b==0
 | 1=>decide (c.x<nr)&&(decide (i<c.a)&&decide (c.a<n))&&c.b==0
 | 2=>decide (c.x<nt)&&(decide (i<c.a)&&decide (c.a<n))&&(decide (i<c.b)&&decide (c.b<n))
 | _=>false
def pI(nr nt n:Nat)(i:Nat):PT InM:=fun s=>(pN 1 0 3 s).bind fun o=>(pN 1 0 256 o.2).bind fun x=>(pN 2 0 65536 x.2).bind fun a=>(pN 2 0 65536 a.2).bind fun b=>if stands nr nt n i ⟨o.1,x.1,a.1,b.1⟩=true then some (⟨o.1,x.1,a.1,b.1⟩,b.2) else none
structure Mach where
 names:List (List UInt8)
 consts:List (List UInt8)
 autos:List AutM
 tests:List TstM
 routes:List HitM
 code:List InM
def pCs:PT (List (List UInt8)):=fun s=>(pN 1 0 256 s).bind fun x=>pR (fun _=>pT 41) x.1 [] x.2
def pAs:PT (List AutM):=fun s=>(pN 1 0 256 s).bind fun x=>pR (fun _=>pA) x.1 [] x.2
def pTss(nn nc na:Nat):PT (List TstM):=fun s=>(pN 1 0 256 s).bind fun x=>pR (fun _=>pTs nn nc na) x.1 [] x.2
def pHs:PT (List HitM):=fun s=>(pN 1 0 17 s).bind fun x=>pR (fun _=>pH) x.1 [] x.2
def pIs(nr nt:Nat):PT (List InM):=fun s=>(pN 2 1 65536 s).bind fun x=>pR (pI nr nt x.1) x.1 [] x.2
def pM:PT Mach:=fun s=>(pL 256 s).bind fun a=>(pCs a.2).bind fun b=>(pAs b.2).bind fun c=>(pTss a.1.length b.1.length c.1.length c.2).bind fun d=>(pHs d.2).bind fun e=>(pIs e.1.length d.1.length e.2).bind fun f=>some (⟨a.1,b.1,c.1,d.1,e.1,f.1⟩,f.2)
def markL:List UInt8:=[79,66,49]
def ld(s:List UInt8):Option Mach:=if s.take 3=markL then (pM (s.drop 3)).bind fun m=>if m.2=[] then some m.1 else none else none
def eT(t:List UInt8):List UInt8:=nb 1 t.length++t
def eTs(l:List (List UInt8)):List UInt8:=nb 1 l.length++l.flatMap eT
def eA(a:AutM):List UInt8:=nb 1 a.acc.length++(nb 2 a.k++(a.cl.flatMap (nb 1)++(a.acc.flatMap (nb 1)++a.nx.flatMap (nb 1))))
def eTt(t:TstM):List UInt8:=nb 1 t.n++(nb 1 t.k++nb 1 t.x)
def eH(h:HitM):List UInt8:=eT h.rc++(eTs h.bl++(nb 3 h.wt++(nb 3 h.ev++nb 3 h.rp)))
def eI(c:InM):List UInt8:=nb 1 c.op++(nb 1 c.x++(nb 2 c.a++nb 2 c.b))
def eM(m:Mach):List UInt8:=markL++(eTs m.names++(eTs m.consts++((nb 1 m.autos.length++m.autos.flatMap eA)++((nb 1 m.tests.length++m.tests.flatMap eTt)++((nb 1 m.routes.length++m.routes.flatMap eH)++(nb 2 m.code.length++m.code.flatMap eI))))))
theorem pN_some{n lo hi:Nat}{s:List UInt8}{x:Nat × List UInt8}(h:pN n lo hi s=some x):s=nb n x.1++x.2∧lo≤x.1∧x.1<hi:=by
 unfold pN at h
 split at h
 ·rename_i h1
  cases h
  refine ⟨?_,h1.2⟩;rw[nb_nmV n _ (by rw[List.length_take];omega),List.take_append_drop]
 ·cases h
theorem pT_some{hi:Nat}{s:List UInt8}{x:List UInt8 × List UInt8}(h:pT hi s=some x):s=eT x.1++x.2∧x.1.length<hi:=by
 unfold pT at h;obtain ⟨y,h1,h2⟩:=Option.bind_eq_some_iff.1 h;obtain ⟨e,_,h3⟩:=pN_some h1
 split at h2
 ·rename_i h4
  cases h2
  have hl:(y.2.take y.1).length=y.1:=by rw[List.length_take];omega
  refine ⟨?_,by rw[hl];exact h3⟩;rw[e];unfold eT;rw[hl,List.append_assoc,List.take_append_drop]
 ·cases h2
theorem pNm_some{s:List UInt8}{x:List UInt8 × List UInt8}(h:pNm s=some x):s=eT x.1++x.2∧x.1.length<9∧isNameL x.1=true:=by
 unfold pNm at h;obtain ⟨y,h1,h2⟩:=Option.bind_eq_some_iff.1 h
 split at h2
 ·rename_i h4
  cases h2
  exact ⟨(pT_some h1).1,(pT_some h1).2,h4⟩
 ·cases h2
theorem pR_some{α:Type}{p:Nat→PT α}{enc:α→List UInt8}{C:Nat→α→Prop}(hp:∀ i s x,p i s=some x→s=enc x.1++x.2∧C i x.1) :
 ∀ (n:Nat) (acc:List α) (s:List UInt8) (y:List α × List UInt8),pR p n acc s=some y→∃ l,y.1=acc++l∧l.length=n∧s=l.flatMap enc++y.2∧∀ j (h:j<l.length),C (acc.length+j) l[j]
 | 0,acc,s,y,h=>by
   cases h
   exact ⟨[],by simp,rfl,by simp,fun j h=>by simp at h⟩
 | n+1,acc,s,y,h=>by
   obtain ⟨x,h1,h2⟩:=Option.bind_eq_some_iff.1 h;obtain ⟨l,e1,e2,e3,e4⟩:=pR_some hp n _ _ _ h2;obtain ⟨e5,e6⟩:=hp _ _ _ h1;refine ⟨x.1::l,by rw[e1];simp,by simp[e2],by rw[e5,e3];simp,?_⟩;intro j hj;cases j with
   | zero=>exact e6
   | succ j =>
     have:=e4 j (by simpa using hj);rw[List.length_append,List.length_singleton]at this;rw[List.getElem_cons_succ,show acc.length+(j+1)=acc.length+1+j by omega];exact this
theorem pR_all{α:Type}{p:Nat→PT α}{enc:α→List UInt8}{C:α→Prop}(hp:∀ i s x,p i s=some x→s=enc x.1++x.2∧C x.1){n:Nat}{s:List UInt8}{y:List α × List UInt8}(h:pR p n [] s=some y) :
 y.1.length=n∧s=y.1.flatMap enc++y.2∧∀ x∈y.1,C x:=by
 obtain ⟨l,e1,e2,e3,e4⟩:=pR_some (C:=fun _=>C) hp n [] s y h;rw[List.nil_append]at e1;subst e1;refine ⟨e2,e3,?_⟩;intro x hx;obtain ⟨j,hj,rfl⟩:=List.getElem_of_mem hx;exact e4 j hj
def okName(n:List UInt8):Prop:=n.length<9∧isNameL n=true
theorem pL_some{hi:Nat}{s:List UInt8}{x:List (List UInt8) × List UInt8}(h:pL hi s=some x):s=eTs x.1++x.2∧x.1.length<hi∧∀ n∈x.1,okName n:=by
 obtain ⟨y,h1,h2⟩:=Option.bind_eq_some_iff.1 h;obtain ⟨e,_,h3⟩:=pN_some h1;obtain ⟨e1,e2,e3⟩:=pR_all (enc:=eT) (C:=okName) (fun _ s x h=>by obtain ⟨a,b,c⟩:=pNm_some h;exact ⟨a,b,c⟩) h2;refine ⟨?_,by omega,e3⟩;rw[e,e2];unfold eTs;rw[e1];simp
structure AutOK(a:AutM):Prop where
 s1:1≤a.acc.length
 s2:a.acc.length≤40
 k1:1≤a.k
 k2:a.k≤256
 cl:a.cl.length=256
 cls:∀ c∈a.cl,c<a.k
 acc:∀ c∈a.acc,c<2
 nx:a.nx.length=a.acc.length*a.k
 nxs:∀ c∈a.nx,c<a.acc.length
theorem pA_some{s:List UInt8}{x:AutM × List UInt8}(h:pA s=some x):s=eA x.1++x.2∧AutOK x.1:=by
 obtain ⟨a,h1,h⟩:=Option.bind_eq_some_iff.1 h;obtain ⟨b,h2,h⟩:=Option.bind_eq_some_iff.1 h;obtain ⟨c,h3,h⟩:=Option.bind_eq_some_iff.1 h;obtain ⟨d,h4,h⟩:=Option.bind_eq_some_iff.1 h;obtain ⟨e,h5,h⟩:=Option.bind_eq_some_iff.1 h;cases h
 obtain ⟨q1,q2,q3⟩:=pN_some h1;obtain ⟨r1,r2,r3⟩:=pN_some h2;obtain ⟨l3,e3,c3⟩:=pR_all (enc:=nb 1) (C:=fun c=>c<b.1) (fun _ s x h=>⟨(pN_some h).1,(pN_some h).2.2⟩) h3;obtain ⟨l4,e4,c4⟩:=pR_all (enc:=nb 1) (C:=fun c=>c<2) (fun _ s x h=>⟨(pN_some h).1,(pN_some h).2.2⟩) h4;obtain ⟨l5,e5,c5⟩:=pR_all (enc:=nb 1) (C:=fun c=>c<a.1) (fun _ s x h=>⟨(pN_some h).1,(pN_some h).2.2⟩) h5;refine ⟨?_,⟨by show 1≤d.1.length;omega,by show d.1.length≤40;omega,by show 1≤b.1;omega,by show b.1≤256;omega,l3,c3,c4,by rw[l5,l4],by rw[l4];exact c5⟩⟩;rw[q1,r1,e3,e4,e5];unfold eA;rw[l4];simp
structure TstOK(nn nc na:Nat)(t:TstM):Prop where
 n:t.n<nn
 k:t.k<2
 x:t.x<if t.k=1 then na else nc
structure HitOK(h:HitM):Prop where
 rc:okName h.rc
 b1:h.bl.length<5
 b2:∀ n∈h.bl,okName n
 wt:h.wt<100000
 ev:h.ev<100000
 rp:h.rp<100000
structure InOK(nr nt n i:Nat)(c:InM):Prop where
 s:stands nr nt n i c=true
 op:c.op<3
 x:c.x<256
 a:c.a<65536
 b:c.b<65536
theorem pCs_some{s:List UInt8}{x:List (List UInt8) × List UInt8}(h:pCs s=some x):s=eTs x.1++x.2∧x.1.length<256∧∀ t∈x.1,t.length<41:=by
 obtain ⟨y,h1,h2⟩:=Option.bind_eq_some_iff.1 h;obtain ⟨e,_,h3⟩:=pN_some h1;obtain ⟨e1,e2,e3⟩:=pR_all (enc:=eT) (C:=fun t=>t.length<41) (fun _ s x h=>pT_some h) h2;refine ⟨?_,by omega,e3⟩;rw[e,e2];unfold eTs;rw[e1];simp
theorem pAs_some{s:List UInt8}{x:List AutM × List UInt8}(h:pAs s=some x):s=(nb 1 x.1.length++x.1.flatMap eA)++x.2∧x.1.length<256∧∀ t∈x.1,AutOK t:=by
 obtain ⟨y,h1,h2⟩:=Option.bind_eq_some_iff.1 h;obtain ⟨e,_,h3⟩:=pN_some h1;obtain ⟨e1,e2,e3⟩:=pR_all (enc:=eA) (C:=AutOK) (fun _ s x h=>pA_some h) h2;refine ⟨?_,by omega,e3⟩;rw[e,e2,e1];simp
structure MOK(m:Mach):Prop where
 names:m.names.length<256∧∀ n∈m.names,okName n
 consts:m.consts.length<256∧∀ n∈m.consts,n.length<41
 autos:m.autos.length<256∧∀ a∈m.autos,AutOK a
 tests:m.tests.length<256∧∀ t∈m.tests,TstOK m.names.length m.consts.length m.autos.length t
 routes:m.routes.length<17∧∀ h∈m.routes,HitOK h
 code:1≤m.code.length∧m.code.length<65536∧∀ j (h:j<m.code.length),InOK m.routes.length m.tests.length m.code.length j m.code[j]
def autT(a:AutM)(s:Nat):List UInt8→Nat
 | []=>s
 | b::v=>autT a (a.nx.getD (s*a.k+a.cl.getD b.toNat 0) 0) v
def tstM(m:Mach)(v:List UInt8)(t:TstM):Bool :=
 if t.k=0 then v==m.consts.getD t.x [] else (m.autos.getD t.x ⟨0,[],[],[]⟩).acc.getD (autT (m.autos.getD t.x ⟨0,[],[],[]⟩) 0 v) 0==1
def runM(m:Mach)(V:List UInt8→List UInt8):Nat→Nat→List Nat
 | 0,_=>[]
 | n+1,k=>match m.code[k]? with
   | some c=>match c.op with
     | 0=>[]
     | 1=>c.x::runM m V n c.a
     | _=>match m.tests[c.x]? with
       | some t=>runM m V n (if tstM m (V (m.names.getD t.n [])) t then c.a else c.b)
       | none=>[]
   | none=>[]
def RW(A:List Nat)(k:Nat)(w:World)(v:Value)(vs:List (List Value)):Prop :=
 ∃ a cap,v=.slice a vs.length cap∧vs.length≤cap∧∀ (j:Nat) (h:j<vs.length),∃ g off,a=some ⟨g,off,none⟩∧g∉A∧g<w.heap.size∧∀ c x,vs[j][c]?=some x→w.cell? ⟨g,off+j*k+c,none⟩=some x
theorem RW.frm{A S:List Nat}{k:Nat}{w w':World}{v:Value}{vs:List (List Value)}(h:RW A k w v vs)(f:Frm S w w')(hS:∀ g∈S,g∈A):RW A k w' v vs:=by
 obtain ⟨a,cap,rfl,h1,h2⟩:=h;refine ⟨a,cap,rfl,h1,fun j hj=>?_⟩;obtain ⟨g,off,rfl,h3,h4,h5⟩:=h2 j hj;exact ⟨g,off,rfl,h3,Nat.lt_of_lt_of_le h4 f.size,fun c x hx=>(f.cell (p:=⟨g,off+j*k+c,none⟩) h4 (fun hm=>h3 (hS g hm))).trans (h5 c x hx)⟩
theorem RW.grown{A:List Nat}{k:Nat}{w w':World}{v:Value}{vs:List (List Value)}{row:Option Nat}(h:RW A k w v vs)(hg:w.grownBy w' row)(hr:∀ r,row=some r→r∈A):RW A k w' v vs :=
 h.frm (S:=A) ((Frm.refl A w).grown hg (fun r e=>.inl (hr r e))) (fun _ h=>h)
theorem RW.avoid{A B:List Nat}{k:Nat}{w:World}{v:Value}{vs:List (List Value)}(h:RW A k w v vs)(hB:∀ g∈B,g∈A∨w.heap.size≤g):RW B k w v vs:=by
 obtain ⟨a,cap,rfl,h1,h2⟩:=h;refine ⟨a,cap,rfl,h1,fun j hj=>?_⟩;obtain ⟨g,off,rfl,h3,h4,h5⟩:=h2 j hj;refine ⟨g,off,rfl,fun hm=>?_,h4,h5⟩;rcases hB g hm with h|h
 ·exact h3 h
 ·omega
theorem RW.nil(A:List Nat)(k:Nat)(w:World):RW A k w (.slice none 0 0) []:=⟨none,0,rfl,Nat.le_refl _,fun j hj=>absurd hj (by simp)⟩
def OW(e:TypeId)(k base:Nat)(w:World)(v:Value)(vs:List (List Value)):Prop:=w.ownsRow base e k v vs.length vs.flatten∧∀ x∈vs,x.length=k
theorem OW.nil(e:TypeId)(k base:Nat)(w:World):OW e k base w (.slice none 0 0) []:=⟨World.ownsRow_nil w base e k,by simp⟩
theorem OW.frm{e:TypeId}{k base:Nat}{S:List Nat}{w w':World}{v:Value}{vs:List (List Value)}(h:OW e k base w v vs)(f:Frm S w w')(hS:∀ g∈S,g<base):OW e k base w' v vs:=⟨own_frm h.1 f hS,h.2⟩
theorem OW.shape{e:TypeId}{k base:Nat}{w:World}{v:Value}{vs:List (List Value)}(h:OW e k base w v vs):∃ a cap,v=.slice a vs.length cap:=by
 rcases h.1.2 with ⟨e,h0⟩|⟨g,cap,cur,e,_⟩
 ·exact ⟨none,0,by rw[e,h0]⟩
 ·exact ⟨_,_,e⟩
theorem OW.lt{e:TypeId}{k base:Nat}{w:World}{v:Value}{vs:List (List Value)}(h:OW e k base w v vs){g:Nat}(hg:v.ownBlock=some g):base≤g∧g<w.heap.size:=h.1.lt g hg
theorem OW.empty(e:TypeId)(k base:Nat)(w:World)(hb:base≤w.heap.size):OW e k base (w.alloc (.cells #[] e)) (.slice (some ⟨w.heap.size,0,none⟩) 0 0) []:=by
 refine ⟨⟨by simp, .inr ⟨w.heap.size,0,#[],rfl,hb,?_,Nat.le_refl _,by unfold maxLen;omega,by simp,by simp⟩⟩,by simp⟩;show (w.heap.push (.cells #[] e))[w.heap.size]?=_;simp
theorem vflat_get{k:Nat}:∀ (vs:List (List Value)),(∀ x∈vs,x.length=k)→∀ (j:Nat) (h:j<vs.length) (c:Nat) (x:Value),vs[j][c]?=some x→vs.flatten[j*k+c]?=some x
 | [],_,j,h,_,_,_=>absurd h (by simp)
 | y::vs,hk,0,_,c,x,hx=>by
   have hx':y[c]?=some x:=hx;have hc:c<y.length:=(List.getElem?_eq_some_iff.1 hx').1;rw[List.flatten_cons,Nat.zero_mul,Nat.zero_add,List.getElem?_append_left hc];exact hx'
 | y::vs,hk,j+1,h,c,x,hx=>by
   have hy:=hk y (by simp);have hm:(j+1)*k=j*k+k:=Nat.succ_mul j k;rw[List.flatten_cons,List.getElem?_append_right (by omega),show (j+1)*k+c-y.length=j*k+c by omega];exact vflat_get vs (fun z hz=>hk z (by simp[hz])) j (by simpa using h) c x (by simpa using hx)
theorem OW.rw{e:TypeId}{k base:Nat}{w:World}{v:Value}{vs:List (List Value)}(h:OW e k base w v vs){A:List Nat}(hA:∀ g,v.ownBlock=some g→g∉A):RW A k w v vs:=by
 rcases h.1.2 with ⟨rfl,h0⟩|⟨g,cap,cur,rfl,hb,hg,hn,hc,hcs,ht⟩
 ·rw[List.length_eq_zero_iff.1 h0];exact RW.nil _ _ _
 ·refine ⟨_,cap,rfl,hn,fun j hj=>⟨g,0,rfl,hA g rfl,(Array.getElem?_eq_some_iff.1 hg).1,fun c x hx=>?_⟩⟩
  have:=World.ownsRow.cells h.1 (g:=g) rfl (j*k+c) x (vflat_get vs h.2 j hj c x hx)
  rwa [add0,show j*k+c=0+j*k+c by omega]at this
theorem info_parts2{e:TypeId}{z:Value}{k b:Nat}(h:(Tryz.prog.info? e).map (fun i=>(i.zero,i.size,i.bytes))=some (some z,k,b)):∃ i,Tryz.prog.info? e=some i∧i.zero=some z∧i.size=k∧i.bytes=b:=by
 cases hi:Tryz.prog.info? e with
 | none=>rw[hi]at h;cases h
 | some i =>
   rw[hi]at h;simp only[Option.map_some,Option.some.injEq,Prod.mk.injEq]at h;exact ⟨i,rfl,h.1,h.2.1,h.2.2⟩
theorem wp_appG{ops:Array Oper}{rest:List Oper}{o:Oper}{a:Act}{Q:Exit→Act→World→Prop}(w:World)(hgd:o.guard=none)(s x:Operand)(t e:TypeId)(z:Value)(k by1:Nat)
 (hinfo:(Tryz.prog.info? e).map (fun i=>(i.zero,i.size,i.bytes))=some (some z,k,by1)) (ht:Tryz.prog.underlying t=some (.slice e)) (hzs:z.cells.size=k) (hsz:0<k)
 (ho:o.op=.call { callee:=.builtin .append,args:=#[s,x],argTypes:=#[t,t] })
 (base:Nat) (v:Value) (vs:List (List Value)) (b1:Nat) (cs:List Value) (hs:a.eval s=v) (hown:OW e k base w v vs) (hx:a.eval x=.slice (some ⟨b1,0,none⟩) 1 1)
 (hcl:cs.length=k) (hc:∀ j u,cs[j]?=some u→w.cell? ⟨b1,j,none⟩=some u) (hv:∀ u∈cs,u.oneCell'=true) (hlen:(vs.length+1)*by1≤140737488355328) (hlen2:vs.length≤140737488355328) (hbase:base≤w.heap.size)
 (h:∀ g cap w',OW e k base w' (.slice (some ⟨g,0,none⟩) (vs.length+1) cap) (vs++[cs])→w.grownBy w' v.ownBlock→(v.ownBlock=some g∨g=w.heap.size)→g<w'.heap.size→wpList Tryz.prog ops Q rest (a.put o.dst (.slice (some ⟨g,0,none⟩) (vs.length+1) cap)) w') :
 wpList Tryz.prog ops Q (o::rest) a w:=by
 obtain ⟨i0,hi,hz0,hz1,hz2⟩:=info_parts2 hinfo;refine wpList_append_lies w hgd s x t ho base e i0 z k by1 ht hi hz0 hz1 hz2 hzs hsz v vs.length vs.flatten hs hown.1 ⟨b1,0,none⟩ 1 1 cs hx (by rw[hcl];omega) ?_ hv (by decide) (by unfold maxLen;omega) hlen hbase w.heap.size rfl ?_
 ·intro j u hj
  rw[add0];exact hc j u hj
 ·intro g cap w' h1 h2 h3 h4
  refine h g cap w' ⟨?_,?_⟩ h2 h3 h4
  ·rw[List.flatten_append,List.flatten_singleton,List.length_append];exact h1
  ·intro y hy
   rw[List.mem_append,List.mem_singleton]at hy;rcases hy with hy|rfl
   ·exact hown.2 y hy
   ·exact hcl
end Go.Proofs.YtpcbbbilmpobaaaGreatDoor
