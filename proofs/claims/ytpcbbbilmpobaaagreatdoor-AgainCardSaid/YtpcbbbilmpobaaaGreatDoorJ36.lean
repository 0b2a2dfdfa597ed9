import Derived.Test.YtpcbbbilmpobaaaGreatDoorJ35
import Derived.Deep.DeepCutAuto
set_option linter.unusedVariables false
set_option linter.unusedSimpArgs false
set_option linter.unnecessarySimpa false
set_option maxRecDepth 100000
set_option maxHeartbeats 4000000
namespace Go.Proofs.YtpcbbbilmpobaaaGreatDoor
open Go.RowKit
theorem row_frm{S:List Nat}{base:Nat}{w w':World}{e:TypeId}{size n:Nat}{v:Value}{xs:List Value}(h:w.ownsRow base e size v n xs)(f:Frm S w w')(hS:∀ k,v.ownBlock=some k→k∉S):w'.ownsRow base e size v n xs:=by
 refine ⟨h.1,?_⟩;rcases h.2 with hn|⟨g,cap,cur,rfl,hb,hgg,rest⟩
 ·exact .inl hn
 ·refine .inr ⟨g,cap,cur,rfl,hb,?_,rest⟩
  rw[f.block g (Array.getElem?_eq_some_iff.1 hgg).1 (hS g rfl)];exact hgg
def hshK(k:KY):Int:=Go.bits BinOp.xor IntKind.u32 (hashF k.kd k.s k.fi k.se k.L) (hashF k.kd k.s k.fi k.se k.L / 2 ^ 16)
def bkt(k:KY):Nat:=(hshK k % 1024).toNat
theorem bkt_lt(k:KY):bkt k<1024:=by unfold bkt;omega
theorem bkt_eq(k:KY):hshK k % 1024=(bkt k:Int):=by unfold bkt;omega
def kyE(e:FV × List Nat):KY:=⟨e.1.kd,e.1.s,e.1.fi,e.1.se,e.2⟩
def PL(w:World)(v:Value)(L:List Nat):Prop :=
 NL .i64 w v L∧(∀ a n c,v=.slice (some a) n c→∃ cur fz,w.heap[a.block]?=some (.cells cur 3 fz))∧L.length≤10000000000000
theorem PL.cell1{w:World}{v:Value}{L:List Nat}(h:PL w v L):v.oneCell'=true:=by
 obtain ⟨a,cap,rfl,_⟩:=h.1;rfl
theorem PL.nil(w:World):PL w (.slice none 0 0) []:=⟨⟨none,0,rfl,fun j h=>by simp at h⟩,fun a n c e=>by simp at e,by simp⟩
theorem PL.of_row{base:Nat}{w:World}{v:Value}{L:List Nat}(h:IL base w v L)(hl:L.length≤10000000000000):PL w v L:=by
 refine ⟨row_nl h,?_,hl⟩;intro a n c e;rcases h.2 with ⟨e1,_⟩|⟨g,cap,cur,e1,_,hg,_⟩
 ·rw[e1]at e;simp at e
 ·rw[e1]at e;simp at e;obtain ⟨rfl,_⟩:=e;exact ⟨cur,_,hg⟩
def NoInt(w:World)(S:List Nat):Prop:=∀ k∈S,∀ cur fz,w.heap[k]?≠some (.cells cur 3 fz)
theorem PL.frm{S:List Nat}{w w':World}{v:Value}{L:List Nat}(h:PL w v L)(f:Frm S w w')(hS:NoInt w S):PL w' v L:=by
 have hn:∀ a n c,v=.slice (some a) n c→a.block∉S:=fun a n c e hm=>by
  obtain ⟨cur,fz,hc⟩:=h.2.1 a n c e;exact hS _ hm cur fz hc
 refine ⟨h.1.frm f hn,?_,h.2.2⟩;intro a n c e;obtain ⟨cur,fz,hc⟩:=h.2.1 a n c e;exact ⟨cur,fz,(f.block _ (Array.getElem?_eq_some_iff.1 hc).1 (hn a n c e)).trans hc⟩
theorem NoInt.nil(w:World):NoInt w []:=fun k hk=>by simp at hk
structure TE(base:Nat)(w:World)(fb vb:Nat)(E:List (FV × List Nat))(B:List Nat)(ak:Nat):Prop where
 row:∃ cap,FT w fb (.slice (some ⟨vb,0,none⟩) E.length cap) B ak∧FL base w (.slice (some ⟨vb,0,none⟩) E.length cap) (E.map Prod.fst)
 pl:∀ e∈E,PL w e.1.vp e.2
 st:∀ e∈E,e.1.s<2 ^ 256
 fb:fb<base
 sz:base≤w.heap.size
theorem TE.vbs{base:Nat}{w:World}{fb vb:Nat}{E:List (FV × List Nat)}{B:List Nat}{ak:Nat}(h:TE base w fb vb E B ak) :
 base≤vb∧vb<w.heap.size∧∃ cur,w.heap[vb]?=some (.cells cur 206 (0,0)):=by
 obtain ⟨cap,_,h1⟩:=h.row;have h2:=h1.lt vb rfl;refine ⟨h2.1,h2.2,?_⟩;rcases h1.2 with ⟨e1,_⟩|⟨g,c,cur,e1,_,hg,_⟩
 ·simp at e1
 ·simp at e1;obtain ⟨rfl,_⟩:=e1;exact ⟨cur,hg⟩
theorem TE.noInt{base:Nat}{w:World}{fb vb:Nat}{E:List (FV × List Nat)}{B:List Nat}{ak:Nat}(h:TE base w fb vb E B ak):NoInt w [fb,vb]:=by
 obtain ⟨cap,h1,_⟩:=h.row;obtain ⟨_,_,cur,h2⟩:=h.vbs;intro k hk cur' fz;simp only[List.mem_cons,List.not_mem_nil,or_false]at hk;rcases hk with rfl|rfl
 ·rw[h1.1];simp
 ·rw[h2];simp
theorem TE.frm{S:List Nat}{base:Nat}{w w':World}{fb vb:Nat}{E:List (FV × List Nat)}{B:List Nat}{ak:Nat}(h:TE base w fb vb E B ak)(f:Frm S w w')(h1:fb∉S)(h2:vb∉S)(h3:NoInt w S):TE base w' fb vb E B ak:=by
 obtain ⟨cap,ht,hl⟩:=h.row;exact ⟨⟨cap,ht.frm f h1,row_frm hl f (fun k hk=>by simp[Value.ownBlock]at hk;subst hk;exact h2)⟩,fun e he=>(h.pl e he).frm f h3,h.st,h.fb,Nat.le_trans h.sz f.size⟩
theorem TE.keep{base:Nat}{w w':World}{fb vb:Nat}{E:List (FV × List Nat)}{B:List Nat}{ak:Nat}(h:TE base w fb vb E B ak)(f:Frm [] w w'):TE base w' fb vb E B ak :=
 h.frm f (by simp) (by simp) (NoInt.nil _)
theorem TE.cell{base:Nat}{w:World}{fb vb:Nat}{E:List (FV × List Nat)}{B:List Nat}{ak:Nat}(h:TE base w fb vb E B ak){i:Nat}{e:FV × List Nat}(hi:E[i]?=some e)(k:Nat)(hk:k<12) :
 w.cell? ⟨vb,i*12+k,none⟩=e.1.cells.toList[k]?:=by
 obtain ⟨cap,_,hl⟩:=h.row;have h1:=fv_get (E.map Prod.fst) i k hk e.1 (by simp[hi]);have h3:=World.ownsRow.cells hl (g:=vb) rfl (i*12+k);have hlt:k<e.1.cells.toList.length:=by simp[FV.cells];omega
 rw[List.getElem?_eq_getElem hlt]at h1 ⊢;have:=h3 _ h1;rw[add0]at this;exact this
structure TP(E:List (FV × List Nat))(B:List Nat)(D:List NF)(ak c:Nat):Prop where
 tb:Tbl (E.map kyE) D
 bu:∀ b,b<1024→B.getD b 0=lastB bkt (E.map kyE) b E.length
 lk:∀ (i:Nat) (e:FV × List Nat),2≤i→E[i]?=some e→e.1.lk=lastB bkt (E.map kyE) (bkt (kyE e)) i
 te:∀ (i:Nat) (e:FV × List Nat) (d:NF),E[i]?=some e→D[i]?=some d→e.1.te=nul d
 al:∀ e∈E,e.1.ak≤ak
 mm:1≤ak→∀ (i:Nat) (e:FV × List Nat) (d:NF),E[i]?=some e→D[i]?=some d→e.1.ak=ak→D[e.1.lf]?=some (left c d)
theorem TP.len{E:List (FV × List Nat)}{B:List Nat}{D:List NF}{ak c:Nat}(h:TP E B D ak c):E.length=D.length:=by have:=h.tb.len;simpa using this
theorem TP.two{E:List (FV × List Nat)}{B:List Nat}{D:List NF}{ak c:Nat}(h:TP E B D ak c):2≤E.length:=by rw[h.len];exact h.tb.two
theorem TP.push{E:List (FV × List Nat)}{B:List Nat}{D:List NF}{ak c:Nat}(h:TP E B D ak c)(hB:B.length=1024){f:FV}{L:List Nat}{d:NF}
 (hk:Ky D D.length (kyE (f,L)) d) (hw:WC d) (hd:d∉D) (hte:f.te=nul d) (hlk:f.lk=B.getD (bkt (kyE (f,L))) 0) (ha:f.ak=0) :
 TP (E++[(f,L)]) (B.set (bkt (kyE (f,L))) E.length) (D++[d]) ak c:=by
 have hl:=h.len;have h2:=h.two;have hkl:(E.map kyE).length=E.length:=by simp
 refine ⟨?_,?_,?_,?_,?_,?_⟩
 ·rw[List.map_append];exact h.tb.push hk hw hd
 ·intro b hb
  rw[List.map_append,List.length_append];show _=lastB bkt (E.map kyE++[kyE (f,L)]) b (E.length+1);have e:=lastB_new bkt (E.map kyE) (kyE (f,L)) b (by omega);rw[hkl]at e;rw[e]
  by_cases hbb:bkt (kyE (f,L))=b
  ·subst hbb;simp[List.getD,hB,hb]
  ·rw[if_neg hbb,← h.bu b hb]
   simp[List.getD,List.getElem?_set,hbb]
 ·intro i e hi he
  rw[List.map_append];show _=lastB bkt (E.map kyE++[kyE (f,L)]) _ i;have hil:=(List.getElem?_eq_some_iff.1 he).1;simp at hil;rw[lastB_push _ _ _ _ _ (by omega)]
  by_cases hlt:i<E.length
  ·rw[List.getElem?_append_left hlt]at he
   exact h.lk i e hi he
  ·have:i=E.length:=by omega
   subst this;simp at he;subst he;rw[← h.bu _ (bkt_lt _)];exact hlk
 ·intro i e d' he hd'
  by_cases hlt:i<E.length
  ·rw[List.getElem?_append_left hlt]at he
   rw[List.getElem?_append_left (by omega)]at hd';exact h.te i e d' he hd'
  ·have hil:=(List.getElem?_eq_some_iff.1 he).1
   simp at hil;have:i=E.length:=by omega
   subst this;rw[hl]at hd';simp at he hd';subst he hd';exact hte
 ·intro e he
  rcases List.mem_append.1 he with e1|e1
  ·exact h.al e e1
  ·simp at e1;subst e1;simp[ha]
 ·intro h1 i e d' he hd' hak
  by_cases hlt:i<E.length
  ·rw[List.getElem?_append_left hlt]at he
   rw[List.getElem?_append_left (by omega)]at hd';have:=h.mm h1 i e d' he hd' hak;have hb:=(List.getElem?_eq_some_iff.1 this).1;rw[List.getElem?_append_left hb];exact this
  ·have hil:=(List.getElem?_eq_some_iff.1 he).1
   simp at hil;have:i=E.length:=by omega
   subst this;simp at he;subst he;simp only at hak;omega
def ZZ(w:World)(E:List (FV × List Nat))(Z:List Nat):Prop:=(∀ k∈Z,k<w.heap.size)∧∀ e∈E,∀ x n c,e.1.vp=.slice (some x) n c→x.block∉Z
theorem ZZ.mono{w w':World}{E:List (FV × List Nat)}{Z:List Nat}(h:ZZ w E Z)(hs:w.heap.size≤w'.heap.size):ZZ w' E Z:=⟨fun k hk=>Nat.lt_of_lt_of_le (h.1 k hk) hs,h.2⟩
def ST(base:Nat)(w:World)(fb vb:Nat)(D:List NF)(ak c:Nat)(U:List NF)(Z:List Nat):Prop :=
 ∃ E B,TE base w fb vb E B ak∧TP E B D ak c∧(∀ x∈D,x∈U)∧U.length≤1000000000000∧ZZ w E Z
theorem ST.len{base:Nat}{w:World}{fb vb:Nat}{D:List NF}{ak c:Nat}{U:List NF}{Z:List Nat}(h:ST base w fb vb D ak c U Z):D.length≤1000000000000:=by
 obtain ⟨E,B,_,h2,h3,h4,_⟩:=h;exact Nat.le_trans (nodup_len h2.tb.nd h3) h4
theorem ST.keep{base:Nat}{w w':World}{fb vb:Nat}{D:List NF}{ak c:Nat}{U:List NF}{Z:List Nat}(h:ST base w fb vb D ak c U Z)(f:Frm [] w w'):ST base w' fb vb D ak c U Z:=by
 obtain ⟨E,B,h1,h2,h3,h4,h5⟩:=h;exact ⟨E,B,h1.keep f,h2,h3,h4,h5.mono f.size⟩
theorem ST.frm{S:List Nat}{base:Nat}{w w':World}{fb vb:Nat}{D:List NF}{ak c:Nat}{U:List NF}{Z:List Nat}(h:ST base w fb vb D ak c U Z)(f:Frm S w w')(h1:fb∉S)(h2:vb∉S)(h3:NoInt w S):ST base w' fb vb D ak c U Z:=by
 obtain ⟨E,B,k1,k2,k3,k4,k5⟩:=h;exact ⟨E,B,k1.frm f h1 h2 h3,k2,k3,k4,k5.mono f.size⟩
structure FQ(fb vb vb':Nat)(w w':World):Prop where
 fr:Frm [fb,vb] w w'
 mv:vb'=vb∨w.heap.size≤vb'
theorem FQ.refl(fb vb:Nat)(w:World):FQ fb vb vb w w:=⟨Frm.refl _ _, .inl rfl⟩
theorem FQ.trans{fb a b c:Nat}{x y z:World}(h:FQ fb a b x y)(k:FQ fb b c y z):FQ fb a c x z:=by
 refine ⟨⟨k.fr.os.trans h.fr.os,k.fr.tape.trans h.fr.tape,k.fr.output.trans h.fr.output,Nat.le_trans h.fr.size k.fr.size,fun i hi hS=>?_⟩,?_⟩
 ·refine (k.fr.block i (Nat.lt_of_lt_of_le hi h.fr.size) ?_).trans (h.fr.block i hi hS)
  simp only[List.mem_cons,List.not_mem_nil,or_false,not_or]at hS ⊢;refine ⟨hS.1,fun e=>?_⟩;rcases h.mv with e1|e1
  ·exact hS.2 (e.trans e1)
  ·omega
 ·have:=h.fr.size
  rcases k.mv with e|e
  ·rcases h.mv with e1|e1
   ·exact .inl (e.trans e1)
   ·exact .inr (by omega)
  ·exact .inr (by omega)
theorem FQ.keepL{fb a b:Nat}{x y z:World}(h:Frm [] x y)(k:FQ fb a b y z):FQ fb a b x z :=
 FQ.trans ⟨h.nil, .inl rfl⟩ k
theorem FQ.keepR{fb a b:Nat}{x y z:World}(h:FQ fb a b x y)(k:Frm [] y z):FQ fb a b x z :=
 h.trans ⟨k.nil, .inl rfl⟩
theorem FQ.block{fb a b:Nat}{x y:World}(h:FQ fb a b x y){k:Nat}(hk:k<x.heap.size)(h1:k≠fb)(h2:k≠a):y.heap[k]?=x.heap[k]?:=h.fr.block k hk (by simp[h1,h2])
theorem bits_u32_nonneg(a b:Int):0≤Go.bits BinOp.xor IntKind.u32 a b:=by
 show 0≤IntKind.u32.wrap ((BitVec.ofInt 32 a ^^^ BitVec.ofInt 32 b).toNat:Int);simp[IntKind.wrap,IntKind.bits,IntKind.signed];omega
theorem hshK_nonneg(k:KY):0≤hshK k:=bits_u32_nonneg _ _
theorem hsh_tmod(k:KY):(hshK k).tmod 1024=(bkt k:Int):=by rw[Int.tmod_eq_emod_of_nonneg (hshK_nonneg k)];exact bkt_eq k
def RQ(base:Nat)(w:World)(fb vb:Nat)(D:List NF)(ak c:Nat)(U:List NF)(Z:List Nat)(y:NF)(e:Ending)(w':World):Prop :=
 ∃ vb' R r,e=.returned (.int .i64 (r:Nat))∧ST base w' fb vb' (D++R) ak c U Z∧(D++R)[r]?=some y∧FQ fb vb vb' w w'
theorem TE.setB{base:Nat}{w:World}{fb vb:Nat}{E:List (FV × List Nat)}{B:List Nat}{ak:Nat}(h:TE base w fb vb E B ak)(b n:Nat)(hb:b<1024) :
 TE base (w.setCell ⟨fb,1+b,none⟩ (.int .i64 n)) fb vb E (B.set b n) ak:=by
 obtain ⟨cap,ht,hl⟩:=h.row;have F:Frm [fb] w (w.setCell ⟨fb,1+b,none⟩ (.int .i64 n)):=(Frm.refl _ _).setCell (.inl (by simp)) _;have hv:=h.vbs;have hfb:=h.fb;refine ⟨⟨cap,ht.setB b n hb,row_frm hl F fun k hk=>by simp[Value.ownBlock]at hk;subst hk;simp;omega⟩,fun e he=>(h.pl e he).frm F ?_,h.st,h.fb,?_⟩
 ·intro k hk;exact h.noInt k (by simp at hk;simp[hk])
 ·exact Nat.le_trans h.sz F.size
theorem TE.setA{base:Nat}{w:World}{fb vb:Nat}{E:List (FV × List Nat)}{B:List Nat}{ak:Nat}(h:TE base w fb vb E B ak)(n:Nat) :
 TE base (w.setCell ⟨fb,1025,none⟩ (.int .i64 n)) fb vb E B n:=by
 obtain ⟨cap,ht,hl⟩:=h.row;have F:Frm [fb] w (w.setCell ⟨fb,1025,none⟩ (.int .i64 n)):=(Frm.refl _ _).setCell (.inl (by simp)) _;have hv:=h.vbs;have hfb:=h.fb;refine ⟨⟨cap,ht.setA n,row_frm hl F fun k hk=>by simp[Value.ownBlock]at hk;subst hk;simp;omega⟩,fun e he=>(h.pl e he).frm F ?_,h.st,h.fb,?_⟩
 ·intro k hk;exact h.noInt k (by simp at hk;simp[hk])
 ·exact Nat.le_trans h.sz F.size
theorem TE.grow{base:Nat}{w w':World}{fb vb g cap:Nat}{E:List (FV × List Nat)}{B:List Nat}{ak:Nat}{f:FV}{L:List Nat}(h:TE base w fb vb E B ak)(hp:PL w f.vp L)(hs:f.s<2 ^ 256)
 (hg:w.grownBy w' (some vb)) (hown:w'.ownsRow base 206 12 (.slice (some ⟨g,0,none⟩) (E.length+1) cap) (E.length+1) (fv (E.map Prod.fst)++f.cells.toList)) :
 TE base (w'.setCell ⟨fb,0,none⟩ (.slice (some ⟨g,0,none⟩) (E.length+1) cap)) fb g (E++[(f,L)]) B ak:=by
 obtain ⟨cap0,ht,hl⟩:=h.row;have hv:=h.vbs;have hfb:=h.fb;have F:Frm [vb] w w':=Frm.of_grow hg;have F2:Frm [fb] w' (w'.setCell ⟨fb,0,none⟩ (.slice (some ⟨g,0,none⟩) (E.length+1) cap)):=(Frm.refl _ _).setCell (.inl (by simp)) _;have F3:Frm [fb,vb] w (w'.setCell ⟨fb,0,none⟩ (.slice (some ⟨g,0,none⟩) (E.length+1) cap)):=(F.mono (by intro k _ hk;simp at hk;simp[hk])).trans (F2.mono (by intro k _ hk;simp at hk;simp[hk]));have hT:=(ht.frm F (by simp;omega)).set0 (.slice (some ⟨g,0,none⟩) (E.length+1) cap);refine ⟨⟨cap,by simpa using hT,?_⟩,?_,?_,h.fb,Nat.le_trans h.sz F3.size⟩
 ·have:=ownsRow_setCell_below hown (a:=⟨fb,0,none⟩) hfb (.slice (some ⟨g,0,none⟩) (E.length+1) cap)
  unfold FL;simpa[fv] using this
 ·intro e he
  rcases List.mem_append.1 he with he|he
  ·exact (h.pl e he).frm F3 h.noInt
  ·simp at he;subst he;exact hp.frm F3 h.noInt
 ·intro e he
  rcases List.mem_append.1 he with he|he
  ·exact h.st e he
  ·simp at he;subst he;exact hs
theorem form_get{base:Nat}{w:World}{fb vb:Nat}{E:List (FV × List Nat)}{B:List Nat}{ak:Nat}(h:TE base w fb vb E B ak){i:Nat}{f:FV}{L:List Nat}(hi:E[i]?=some (f,L)) :
 w.cell? ⟨vb,i*12,none⟩=some (.int .i64 f.kd)∧w.cell? ⟨vb,i*12+1,none⟩=some (.int .u64 (wd f.s 0))∧w.cell? ⟨vb,i*12+2,none⟩=some (.int .u64 (wd f.s 1))∧w.cell? ⟨vb,i*12+3,none⟩=some (.int .u64 (wd f.s 2))∧w.cell? ⟨vb,i*12+4,none⟩=some (.int .u64 (wd f.s 3)) ∧
 w.cell? ⟨vb,i*12+5,none⟩=some (.int .i64 f.fi)∧w.cell? ⟨vb,i*12+6,none⟩=some (.int .i64 f.se)∧w.cell? ⟨vb,i*12+7,none⟩=some f.vp∧w.cell? ⟨vb,i*12+8,none⟩=some (.bool f.te)∧w.cell? ⟨vb,i*12+9,none⟩=some (.int .i64 f.lk)∧w.cell? ⟨vb,i*12+10,none⟩=some (.int .i64 f.ak)∧w.cell? ⟨vb,i*12+11,none⟩=some (.int .i64 f.lf) :=
 ⟨h.cell hi 0 (by decide),h.cell hi 1 (by decide),h.cell hi 2 (by decide),h.cell hi 3 (by decide),h.cell hi 4 (by decide),h.cell hi 5 (by decide),h.cell hi 6 (by decide),h.cell hi 7 (by decide),h.cell hi 8 (by decide),h.cell hi 9 (by decide),h.cell hi 10 (by decide),h.cell hi 11 (by decide)⟩
def FX(w:World)(xb:Nat)(f:FV):Prop:=w.heap[xb]?=some (.cells f.cells 206 (0,0))
theorem FX.lt{w:World}{xb:Nat}{f:FV}(h:FX w xb f):xb<w.heap.size:=(Array.getElem?_eq_some_iff.1 h).1
theorem FX.frm{S:List Nat}{w w':World}{xb:Nat}{f:FV}(h:FX w xb f)(F:Frm S w w')(hS:xb∉S):FX w' xb f:=(F.block xb h.lt hS).trans h
theorem FX.fz{w:World}{xb:Nat}{f:FV}(h:FX w xb f)(o:Nat):w.frozen? ⟨xb,o,none⟩=false:=by unfold FX at h;simp[World.frozen?,h]
theorem FX.get{w:World}{xb:Nat}{f:FV}(h:FX w xb f) :
 w.cell? ⟨xb,0,none⟩=some (.int .i64 f.kd)∧w.cell? ⟨xb,1,none⟩=some (.int .u64 (wd f.s 0))∧w.cell? ⟨xb,2,none⟩=some (.int .u64 (wd f.s 1))∧w.cell? ⟨xb,3,none⟩=some (.int .u64 (wd f.s 2))∧w.cell? ⟨xb,4,none⟩=some (.int .u64 (wd f.s 3)) ∧
 w.cell? ⟨xb,5,none⟩=some (.int .i64 f.fi)∧w.cell? ⟨xb,6,none⟩=some (.int .i64 f.se)∧w.cell? ⟨xb,7,none⟩=some f.vp∧w.cell? ⟨xb,8,none⟩=some (.bool f.te)∧w.cell? ⟨xb,9,none⟩=some (.int .i64 f.lk)∧w.cell? ⟨xb,10,none⟩=some (.int .i64 f.ak)∧w.cell? ⟨xb,11,none⟩=some (.int .i64 f.lf):=by
 unfold FX at h;simp only[World.cell?,h];exact ⟨rfl,rfl,rfl,rfl,rfl,rfl,rfl,rfl,rfl,rfl,rfl,rfl⟩
theorem FX.setLk{w:World}{xb:Nat}{f:FV}(h:FX w xb f)(n:Nat):FX (w.setCell ⟨xb,9,none⟩ (.int .i64 n)) xb { f with lk:=n }:=by
 unfold FX at h ⊢;simp only[World.setCell,Array.getElem?_modify,h,if_true,Option.map_some]
 rfl
theorem FV.one(f:FV)(hv:f.vp.oneCell'=true):∀ u∈f.cells.toList,u.oneCell'=true:=by
 intro u hu;simp only[FV.cells,List.mem_cons,List.not_mem_nil,or_false]at hu;rcases hu with rfl|rfl|rfl|rfl|rfl|rfl|rfl|rfl|rfl|rfl|rfl|rfl<;>first | exact hv|rfl
def Srch(K:List KY)(k:KY)(i:Nat):Prop :=
 (i=0∨(2≤i∧i<K.length∧K[i]?.map bkt=some (bkt k)))∧∀ j,i<j→2≤j→K[j]?≠some k
theorem Srch.start(K:List KY)(k:KY):Srch K k (lastB bkt K (bkt k) K.length):=by
 constructor
 ·exact lastB_spec bkt K (bkt k) K.length
 ·intro j hj h2 hk
  have hl:=(List.getElem?_eq_some_iff.1 hk).1;have:=lastB_max bkt K (bkt k) K.length j hl h2 (by rw[hk];rfl);omega
theorem Srch.next{K:List KY}{k q:KY}{i:Nat}(h:Srch K k i)(hi:0<i)(hq:K[i]?=some q)(hne:q≠k):bkt q=bkt k∧lastB bkt K (bkt q) i<i∧Srch K k (lastB bkt K (bkt q) i):=by
 have hb:bkt q=bkt k:=by
  rcases h.1 with e|⟨_,_,e⟩
  ·omega
  ·rw[hq]at e;simpa using e
 have hlt:lastB bkt K (bkt q) i<i:=by rcases lastB_spec bkt K (bkt q) i with e|⟨_,e,_⟩<;>omega
 refine ⟨hb,hlt,?_,?_⟩
 ·rcases lastB_spec bkt K (bkt q) i with e|⟨e1,e2,e3⟩
  ·exact .inl e
  ·rcases h.1 with e|⟨_,e,_⟩
   ·omega
   ·exact .inr ⟨e1,by omega,by rw[e3,hb]⟩
 ·intro j hj h2 hk
  by_cases hji:i<j
  ·exact h.2 j hji h2 hk
  ·by_cases hje:j=i
   ·subst hje;rw[hq]at hk;simp at hk;exact hne hk
   ·have:=lastB_max bkt K (bkt q) i j (by omega) h2 (by rw[hk,hb];rfl)
    omega
def RE(base:Nat)(w:World)(fb vb:Nat)(E:List (FV × List Nat))(D:List NF)(ak c:Nat)(U:List NF)(Z:List Nat)(y:NF)(vp:Value)(L:List Nat)(e:Ending)(w':World):Prop :=
 ∃ vb' R r E' B',e=.returned (.int .i64 (r:Nat))∧TE base w' fb vb' E' B' ak∧TP E' B' (D++R) ak c∧(∀ x∈D++R,x∈U)∧U.length≤1000000000000∧(D++R)[r]?=some y∧FQ fb vb vb' w w'∧(∀ e∈E',e∈E∨(e.1.vp=vp∧e.2=L))∧ZZ w' E' Z
theorem RE.rq{base:Nat}{w w':World}{fb vb:Nat}{E:List (FV × List Nat)}{D:List NF}{ak c:Nat}{U:List NF}{Z:List Nat}{y:NF}{vp:Value}{L:List Nat}{e:Ending}(h:RE base w fb vb E D ak c U Z y vp L e w'):RQ base w fb vb D ak c U Z y e w':=by
 obtain ⟨vb',R,r,E',B',h1,h2,h3,h4,h5,h6,h7,_,h8⟩:=h;exact ⟨vb',R,r,h1,⟨E',B',h2,h3,h4,h5,h8⟩,h6,h7⟩
theorem number_E(base:Nat)(w:World)(fb vb:Nat)(E:List (FV × List Nat))(B:List Nat)(D:List NF)(ak c:Nat)(U:List NF)(Z:List Nat)(f:FV)(L:List Nat)(d:NF)
 (hE:TE base w fb vb E B ak) (hP:TP E B D ak c) (hU:∀ x∈D,x∈U) (hUl:U.length≤1000000000000) (hp:PL w f.vp L) (hs:f.s<2 ^ 256) (hk:Ky D D.length (kyE (f,L)) d) (hw:WC d) (hd:d∈U) (hte:f.te=nul d) (ha:f.ak=0) (hzz:ZZ w E Z) (hfz:∀ x n cc,f.vp=.slice (some x) n cc→x.block∉Z) :
 Calls Tryz.prog 140 #[.pointer (some ⟨fb,0,none⟩), .agg f.cells] w (RE base w fb vb E D ak c U Z d f.vp L):=by
 have HZZ:=hide hzz;have HFZ:=hide hfz;clear hzz hfz;have hlen:D.length≤1000000000000:=Nat.le_trans (nodup_len hP.tb.nd hU) hUl;have hEl:E.length=D.length:=hP.len;have HH:Hid (∀ w',Frm [] w w'→Calls Tryz.prog 152 #[.agg f.cells] w' fun e w2=>e=.returned (.int .u32 (hshK (kyE (f,L))))∧Frm [] w' w2) :=
  fun w' F=>hash_any f L w' (hp.1.frm F (by simp)) hp.2.2
 have SM:Hid (∀ (w':World) (g:FV) (M:List Nat),Frm [] w w'→(g,M)∈E→Calls Tryz.prog 153 #[.agg g.cells, .agg f.cells] w' fun e w2=>(∃ b:Bool,e=.returned (.bool b)∧(b=true→kyE (g,M)=kyE (f,L))∧(b=false→kyE (g,M)≠kyE (f,L)))∧Frm [] w' w2):=by
  intro w' g M F hm;refine (same_any g f M L w' ((hE.pl _ hm).1.frm F (by simp)) (hp.1.frm F (by simp)) (hE.pl _ hm).2.2 hp.2.2 (hE.st _ hm) hs).mono ?_;rintro e w2 ⟨rfl,hf⟩;refine ⟨⟨_,rfl,?_,?_⟩,hf⟩
  ·intro hb
   rw[decide_eq_true_eq]at hb;simp only[kyE,KY.mk.injEq];exact ⟨hb.1,hb.2.2.2.1,hb.2.1,hb.2.2.1,hb.2.2.2.2⟩
  ·intro hb e
   rw[decide_eq_false_iff_not]at hb;simp only[kyE,KY.mk.injEq]at e;exact hb ⟨e.1,e.2.2.1,e.2.2.2.1,e.2.1,e.2.2.2.2⟩
 have hbk:=bkt_lt (kyE (f,L));have hmod:=hsh_tmod (kyE (f,L));have hnn:=hshK_nonneg (kyE (f,L));obtain ⟨cap,hT,hF⟩:=hE.row;have hB:B.getD (bkt (kyE (f,L))) 0=lastB bkt (E.map kyE) (bkt (kyE (f,L))) E.length:=hP.bu _ hbk;have ST0:Hid (Srch (E.map kyE) (kyE (f,L)) (B.getD (bkt (kyE (f,L))) 0)):=by
  show Srch _ _ _;rw[hB];have:=Srch.start (E.map kyE) (kyE (f,L));simpa using this
 have HE:=hide hE;have HP:=hide hP;have HPL:=hide hp;have HT:=hide hT;have XB0:Hid (FX (w.alloc (.cells f.cells 206)) w.heap.size f):=heap1 w _;have HEL:=hide hEl;have HTE:=hide hte;have HAK:=hide ha;have HK0:=hide hk;have hlE:E.length≤1000000000000:=by omega
 clear hP hE hp hT hF hB hEl hte ha hk;have HKK:Hid (bkt (kyE (f,L))<1024):=hbk;generalize hKK:bkt (kyE (f,L))=b at *;generalize hshK (kyE (f,L))=H at *;have HK:=hide hKK;generalize hB0:B.getD b 0=i0 at *;have HB0:=hide hB0;clear hKK hB0;have hvb:=HE.out.vbs;have hfb:=HE.out.fb;have hsz:=HE.out.sz;have hun:f.cells=#[.int .i64 f.kd, .int .u64 (wd f.s 0), .int .u64 (wd f.s 1), .int .u64 (wd f.s 2), .int .u64 (wd f.s 3), .int .i64 f.fi, .int .i64 f.se,f.vp, .bool f.te, .int .i64 f.lk, .int .i64 f.ak, .int .i64 f.lf]:=rfl;rw[hun]at HH SM ⊢;have HUN:=hide hun;clear hun;go_enter Tryz.func140,Tryz.ntmps140
 go_wp2_with (go_at_call 152;refine (HH.out _ ((Frm.refl _ _).alloc _)).mono ?_;rintro e w2 ⟨rfl,hf2⟩;have F2:=hide (((Frm.refl [] w).alloc _).trans hf2);have X2:=hide (FX.frm XB0.out hf2 (by simp));have T2:=HT.out.frm F2.out (by simp);have q1:w2.cell? ⟨fb,1+b,none⟩=some (.int .i64 i0):=(by have:=T2.cell b hbk;rw[HB0.out]at this;exact this);clear hf2 T2)
 go_loopg [6] i0 (fun k vi wr=>vi=.int .i64 (k:Nat)∧Hid (Srch (E.map kyE) (kyE (f,L)) k)∧FX wr w.heap.size f∧Frm [] w wr)
 case atStart=>exact ⟨rfl,ST0,X2.out,F2.out⟩
 case round =>
  clear X2 F2 q1;obtain ⟨rfl,hsr,hx,hfr⟩:=hrel;have X3:=hide hx;have F3:=hide hfr;have z3:=hfr.size;have x3:=hx.lt;clear hx hfr;have T3:=hide (HE.out.keep F3.out);have r0:=(HT.out.frm F3.out (by simp)).c0
  by_cases h0:gk=0
  ·subst h0
   have hnD:Hid (d∉D):=by
    intro hm;obtain ⟨i,hi⟩:=List.getElem?_of_mem hm;have:=HP.out.tb.found HK0.out hi;exact hsr.out.2 i (by omega) this.1 this.2
   have T3t:=HT.out.frm F3.out (by simp);have q1:wr.cell? ⟨fb,1+b,none⟩=some (.int .i64 i0):=by have:=T3t.cell b hbk;rw[HB0.out]at this;exact this
   have q2:=T3t.fz (1+b);have q3:=X3.out.fz 9;obtain ⟨x0,x1,x2,x3',x4,x5,x6,x7,x8,x9,x10,x11⟩:=X3.out.get;clear x0 x1 x2 x3' x4 x5 x6 x7 x8 x10 x11;have X4:=hide (X3.out.setLk i0);have F4:Hid (Frm [] w (wr.setCell ⟨w.heap.size,9,none⟩ (.int .i64 i0))):=F3.out.setCell (.inr (Nat.le_refl _)) _;have T4:=hide (HE.out.keep F4.out);have T5:=hide (T4.out.setB b E.length hbk);have F5:Hid (Frm [fb] w ((wr.setCell ⟨w.heap.size,9,none⟩ (.int .i64 i0)).setCell ⟨fb,1+b,none⟩ (.int .i64 E.length))):=Frm.setCell F4.out.nil (.inl (by simp)) _;have X5:Hid (FX ((wr.setCell ⟨w.heap.size,9,none⟩ (.int .i64 i0)).setCell ⟨fb,1+b,none⟩ (.int .i64 E.length)) w.heap.size { f with lk:=i0 }):=X4.out.frm (S:=[fb]) ((Frm.refl _ _).setCell (.inl (by simp)) _) (by simp;omega);clear T3t X3 T3;go_wp2_with fail
   generalize ((wr.setCell ⟨w.heap.size,9,none⟩ (.int .i64 i0)).setCell ⟨fb,1+b,none⟩ (.int .i64 E.length))=wc at T5 F5 X5 ⊢;clear q1 q2 q3 x9 r0 X4 F4 T4;obtain ⟨cap5,T5t,T5l⟩:=T5.out.row;have r0:=T5t.c0;have r1:=T5t.fz 0;have TT:=hide T5t;have TL:Hid (wc.ownsRow base 206 12 (.slice (some ⟨vb,0,none⟩) E.length cap5) E.length (fv (E.map Prod.fst))):=by
    have:=T5l;unfold FL at this;rw[List.length_map]at this;exact this
   clear T5t T5l;obtain ⟨x0,x1,x2,x3',x4,x5,x6,x7,x8,x9,x10,x11⟩:=X5.out.get;simp only at x0 x1 x2 x3' x4 x5 x6 x7 x8 x9 x10 x11;have z5:=F5.out.size;have hfbw:=TT.out.lt;have hne:fb≠vb:=by omega
   have hvp:f.vp.oneCell'=true:=HPL.out.cell1;obtain ⟨i9,hi,hza,hzb,hzc⟩:=info_parts infoForm;have g2:∀ o:Obj,(wc.alloc o).drew.frozen? ⟨fb,0,none⟩=false:=fun o=>((((Frm.refl [] wc).alloc o).drew).frozen hfbw (by simp)).trans r1
   go_region_law ((refine step_append_lies _ (by rfl) _ _ _ (by rfl) base 206 i9 _ 12 112 Tryz.underlying207 hi hza hzb hzc rfl (by omega) (.slice (some ⟨vb,0,none⟩) E.length cap5) E.length (fv (E.map Prod.fst)) (by rfl) (by exact TL.out.alloc _) ⟨wc.heap.size,0,none⟩ 1 1 (FV.cells ⟨f.kd,f.s,f.fi,f.se,f.vp,f.te,i0,f.ak,f.lf⟩).toList (by rfl) (by rfl) (World.news_of_block (cs:=FV.cells ⟨f.kd,f.s,f.fi,f.se,f.vp,f.te,i0,f.ak,f.lf⟩) (t:=206) (fr:=(0,0)) (by exact heap1 _ _)) (FV.one _ (by exact hvp)) (by omega) (by unfold maxLen;omega) (by omega) (by simp;omega) (wc.heap.size+1) (by simp) ?_;intro gg cap2 w4 hown4 hgrow hat hlt4;have c4:=(hgrow.cell_far ⟨fb,0,none⟩ (by simp;omega) (by simp[Value.ownBlock];omega));have f4:=(hgrow.frozen_far ⟨fb,0,none⟩ (by simp;omega) (by simp[Value.ownBlock];omega));have f5:=f4.trans (g2 _)))
   all_goals
    have T6:=T5.out.keep (((Frm.refl [] wc).alloc (Obj.cells (FV.cells ⟨f.kd,f.s,f.fi,f.se,f.vp,f.te,i0,f.ak,f.lf⟩) 206)).drew);have P5:PL wc f.vp L:=HPL.out.frm F5.out (fun k hk=>HE.out.noInt k (by simp at hk;simp[hk]));have P6:=P5.frm (((Frm.refl [] wc).alloc (Obj.cells (FV.cells ⟨f.kd,f.s,f.fi,f.se,f.vp,f.te,i0,f.ak,f.lf⟩) 206)).drew) (NoInt.nil _);have T7:=hide (TE.grow (f:=⟨f.kd,f.s,f.fi,f.se,f.vp,f.te,i0,f.ak,f.lf⟩) (L:=L) T6 P6 hs hgrow hown4);have Q7:Hid (TP (E++[(⟨f.kd,f.s,f.fi,f.se,f.vp,f.te,i0,f.ak,f.lf⟩,L)]) (B.set b E.length) (D++[d]) ak c):=by
     have:=HP.out.push HT.out.2 (f:=⟨f.kd,f.s,f.fi,f.se,f.vp,f.te,i0,f.ak,f.lf⟩) (L:=L) HK0.out hw hnD.out HTE.out (by show i0=B.getD (bkt (kyE (f,L))) 0;rw[HK.out];exact HB0.out.symm) HAK.out;rw[show bkt (kyE ((⟨f.kd,f.s,f.fi,f.se,f.vp,f.te,i0,f.ak,f.lf⟩:FV),L))=b from HK.out]at this;exact this
    have F7:Hid (Frm [fb,vb] w w4):=Frm.grown ((F5.out.mono (by intro k _ hk;simp at hk;simp[hk])).alloc _).drew hgrow (fun k hk=>by simp[Value.ownBlock]at hk;subst hk;exact .inl (by simp));have M7:Hid (gg=vb∨w.heap.size≤gg):=by
     rcases hat with e|e
     ·simp[Value.ownBlock]at e;exact .inl e.symm
     ·exact .inr (by omega)
    clear hgrow hown4 hat T6 P5 P6 x0 x1 x2 x3' x4 x5 x6 x7 x8 x9 x10 x11;go_wp2;go_ret;refine ⟨gg,[d],E.length,_,_,rfl,T7.out,Q7.out,?_,hUl,?_,⟨Frm.setCell F7.out (.inl (by simp)) _,M7.out⟩,fun e he=>?_,?_⟩
    ·intro x hx
     rcases List.mem_append.1 hx with hx|hx
     ·exact hU x hx
     ·simp at hx;subst hx;exact hd
    ·rw[HEL.out];simp
    ·rcases List.mem_append.1 he with he|he
     ·exact .inl he
     ·simp at he;subst he;exact .inr ⟨rfl,rfl⟩
    ·have hz:=HZZ.out.mono (w':=w4.setCell ⟨fb,0,none⟩ (.slice (some ⟨gg,0,none⟩) (E.length+1) cap2)) (by have:=F7.out.size;simpa using this)
     refine ⟨hz.1,fun e he=>?_⟩;rcases List.mem_append.1 he with he|he
     ·exact hz.2 e he
     ·simp at he;subst he;exact HFZ.out
  ·have hlt:2≤gk∧gk<E.length:=by
    rcases hsr.out.1 with e|⟨e1,e2,_⟩
    ·exact absurd e h0
    ·exact ⟨e1,by simpa using e2⟩
   obtain ⟨⟨g,M⟩,hgM⟩:∃ e,E[gk]?=some e:=⟨E[gk]'hlt.2,List.getElem?_eq_getElem hlt.2⟩;have hmem:(g,M)∈E:=List.mem_of_getElem? hgM;have hkE:Hid ((E.map kyE)[gk]?=some (kyE (g,M))):=by show _=_;simp[hgM]
   have HGM:=hide hgM;obtain ⟨c0,c1,c2,c3,c4,c5,c6,c7,c8,c9,c10,c11⟩:=form_get T3.out hgM;obtain ⟨x0,x1,x2,x3',x4,x5,x6,x7,x8,x9,x10,x11⟩:=X3.out.get;have SM2:Hid (Calls Tryz.prog 153 #[.agg #[.int .i64 g.kd, .int .u64 (wd g.s 0), .int .u64 (wd g.s 1), .int .u64 (wd g.s 2), .int .u64 (wd g.s 3), .int .i64 g.fi, .int .i64 g.se,g.vp, .bool g.te, .int .i64 g.lk, .int .i64 g.ak, .int .i64 g.lf], .agg #[.int .i64 f.kd, .int .u64 (wd f.s 0), .int .u64 (wd f.s 1), .int .u64 (wd f.s 2), .int .u64 (wd f.s 3), .int .i64 f.fi, .int .i64 f.se,f.vp, .bool f.te, .int .i64 f.lk, .int .i64 f.ak, .int .i64 f.lf]] wr.drew fun e w2=>(∃ b:Bool,e=.returned (.bool b)∧(b=true→kyE (g,M)=kyE (f,L))∧(b=false→kyE (g,M)≠kyE (f,L)))∧Frm [] wr.drew w2):=SM.out wr.drew g M F3.out.drew hmem;clear hgM;have hlt1:=hlt.1;have hlt2:=hlt.2;go_wp2_with fail
   go_region_with (go_at_call 153;refine SM2.out.mono ?_;rintro e w4 ⟨⟨bb,rfl,hb1,hb2⟩,hf4⟩;have HB1:=hide hb1;have HB2:=hide hb2;have F4:=hide hf4;clear hb1 hb2 hf4)
   all_goals
    have F5:=hide (F3.out.drew.trans F4.out);have T5:=hide (HE.out.keep F5.out);have r5:=(HT.out.frm F5.out (by simp)).c0;have c5':=(form_get T5.out HGM.out).2.2.2.2.2.2.2.2.2.1;have X5:=hide ((show FX wr.drew w.heap.size f from X3.out).frm F4.out (by simp));clear c0 c1 c2 c3 c4 c5 c6 c7 c8 c9 c10 c11 x0 x1 x2 x3' x4 x5 x6 x7 x8 x9 x10 x11 r0 SM2;cases bb with
    | true =>
      have hD:Hid (D[gk]?=some d):=HP.out.tb.sameKey HK0.out hlt1 (by rw[← HB1.out rfl];exact hkE.out);go_wp2;go_ret;exact ⟨vb,[],gk,E,B,rfl,T5.out,by simpa using HP.out,by simpa using hU,hUl,by simpa using hD.out,FQ.keepR (FQ.refl _ _ _) F5.out,fun e he=>.inl he,HZZ.out.mono F5.out.size⟩
    | false =>
      have hN:=hsr.out.next (by omega) hkE.out (HB2.out rfl);have hl:g.lk=lastB bkt (E.map kyE) (bkt (kyE (g,M))) gk:=HP.out.lk gk _ hlt1 HGM.out;rw[← hl]at hN;have HN:=hide hN;clear hN hl;go_wp2;go_roundg g.lk
      case measure=>exact HN.out.2.1
      case rel=>exact ⟨rfl,HN.out.2.2,X5.out,F5.out⟩
theorem number_any(base:Nat)(w:World)(fb vb:Nat)(D:List NF)(ak c:Nat)(U:List NF)(Z:List Nat)(f:FV)(L:List Nat)(d:NF)
 (h:ST base w fb vb D ak c U Z) (hp:PL w f.vp L) (hs:f.s<2 ^ 256) (hk:Ky D D.length (kyE (f,L)) d) (hw:WC d) (hd:d∈U) (hte:f.te=nul d) (ha:f.ak=0) (hfz:∀ x n cc,f.vp=.slice (some x) n cc→x.block∉Z) :
 Calls Tryz.prog 140 #[.pointer (some ⟨fb,0,none⟩), .agg f.cells] w (RQ base w fb vb D ak c U Z d):=by
 obtain ⟨E,B,hE,hP,hU,hUl,hzz⟩:=h;exact (number_E base w fb vb E B D ak c U Z f L d hE hP hU hUl hp hs hk hw hd hte ha hzz hfz).mono fun e w' hr=>hr.rq
def kindN:NF→Nat
 | .zero=>0
 | .one=>1
 | .set _=>2
 | .pair _ _=>3
 | .sum _=>4
 | .star _=>5
structure LK(w:World)(fb vb:Nat)(D:List NF)(ak c i:Nat)(d:NF)(f:FV)(L:List Nat)(cap:Nat):Prop where
 tab:w.cell? ⟨fb,0,none⟩=some (.slice (some ⟨vb,0,none⟩) D.length cap)
 lt:i<D.length
 get:w.cell? ⟨vb,i*12,none⟩=some (.int .i64 f.kd)∧w.cell? ⟨vb,i*12+1,none⟩=some (.int .u64 (wd f.s 0))∧w.cell? ⟨vb,i*12+2,none⟩=some (.int .u64 (wd f.s 1))∧w.cell? ⟨vb,i*12+3,none⟩=some (.int .u64 (wd f.s 2))∧w.cell? ⟨vb,i*12+4,none⟩=some (.int .u64 (wd f.s 3)) ∧
  w.cell? ⟨vb,i*12+5,none⟩=some (.int .i64 f.fi)∧w.cell? ⟨vb,i*12+6,none⟩=some (.int .i64 f.se)∧w.cell? ⟨vb,i*12+7,none⟩=some f.vp∧w.cell? ⟨vb,i*12+8,none⟩=some (.bool f.te)∧w.cell? ⟨vb,i*12+9,none⟩=some (.int .i64 f.lk)∧w.cell? ⟨vb,i*12+10,none⟩=some (.int .i64 f.ak)∧w.cell? ⟨vb,i*12+11,none⟩=some (.int .i64 f.lf)
 kd:f.kd=kindN d
 te:f.te=nul d
 st:f.s<2 ^ 256
 pl:PL w f.vp L
 pair:∀ a b,d=.pair a b→D[f.fi]?=some a∧D[f.se]?=some b
 star:∀ a,d=.star a→D[f.fi]?=some a
 set:∀ s,d=.set s→f.s=s
 sum:∀ l,d=.sum l→(∀ j∈L,j<D.length)∧l=srt (L.map fun j=>D.getD j .zero)∧L.Pairwise (·<·)
 ale:f.ak≤ak
 mem:1≤ak→f.ak=ak→D[f.lf]?=some (left c d)
theorem ST.look{base:Nat}{w:World}{fb vb:Nat}{D:List NF}{ak c:Nat}{U:List NF}{Z:List Nat}(h:ST base w fb vb D ak c U Z){i:Nat}{d:NF}(hi:D[i]?=some d):∃ f L cap,LK w fb vb D ak c i d f L cap:=by
 obtain ⟨E,B,hE,hP,_,_,_⟩:=h;have hl:=(List.getElem?_eq_some_iff.1 hi).1;have hEl:=hP.len;obtain ⟨⟨f,L⟩,he⟩:∃ e,E[i]?=some e:=⟨E[i]'(by omega),List.getElem?_eq_getElem (by omega)⟩;have hm:=List.mem_of_getElem? he;obtain ⟨cap,hT,_⟩:=hE.row;have hkE:(E.map kyE)[i]?=some (kyE (f,L)):=by simp[he]
 have two:i=0∨i=1∨2≤i:=by omega
 refine ⟨f,L,cap,by rw[← hEl];exact hT.c0,hl,form_get hE he,?_,hP.te i _ d he hi,hE.st _ hm,hE.pl _ hm,?_,?_,?_,?_,hP.al _ hm,fun h1 h2=>hP.mm h1 i _ d he hi h2⟩
 ·rcases two with rfl|rfl|h2
  ·have:=hP.tb.k0;rw[hkE]at this;simp[kyE]at this
   have e:=hP.tb.d0;rw[hi]at e;simp at e;rw[e];exact this.1
  ·have:=hP.tb.k1;rw[hkE]at this;simp[kyE]at this
   have e:=hP.tb.d1;rw[hi]at e;simp at e;rw[e];exact this.1
  ·rcases hP.tb.ky i _ d h2 hkE hi with g|⟨g1,g2,g3,g4,g5,x,y,g6,g7,g8⟩|⟨g1,g2,g3,g4,g5,g6,g7⟩|⟨g1,g2,g3,g4,g5,x,g6,g7⟩
   ·rw[g.2.2.2.2];exact g.1
   ·rw[g8];exact g1
   ·rw[g7];exact g1
   ·rw[g7];exact g1
 ·rintro a b rfl
  have h2:=hP.tb.ge hi (by simp) (by simp);rcases hP.tb.ky i _ _ h2 hkE hi with g|⟨g1,g2,g3,g4,g5,x,y,g6,g7,g8⟩|⟨g1,g2,g3,g4,g5,g6,g7⟩|⟨g1,g2,g3,g4,g5,x,g6,g7⟩
  ·have:=g.2.2.2.2;simp at this
  ·simp at g8;obtain ⟨rfl,rfl⟩:=g8;exact ⟨g6,g7⟩
  ·simp at g7
  ·simp at g7
 ·rintro a rfl
  have h2:=hP.tb.ge hi (by simp) (by simp);rcases hP.tb.ky i _ _ h2 hkE hi with g|⟨g1,g2,g3,g4,g5,x,y,g6,g7,g8⟩|⟨g1,g2,g3,g4,g5,g6,g7⟩|⟨g1,g2,g3,g4,g5,x,g6,g7⟩
  ·have:=g.2.2.2.2;simp at this
  ·simp at g8
  ·simp at g7
  ·simp at g7;subst g7;exact g6
 ·rintro s rfl
  have h2:=hP.tb.ge hi (by simp) (by simp);rcases hP.tb.ky i _ _ h2 hkE hi with g|⟨g1,g2,g3,g4,g5,x,y,g6,g7,g8⟩|⟨g1,g2,g3,g4,g5,g6,g7⟩|⟨g1,g2,g3,g4,g5,x,g6,g7⟩
  ·have:=g.2.2.2.2;simp at this;exact this.symm
  ·simp at g8
  ·simp at g7
  ·simp at g7
 ·rintro l rfl
  have h2:=hP.tb.ge hi (by simp) (by simp);rcases hP.tb.ky i _ _ h2 hkE hi with g|⟨g1,g2,g3,g4,g5,x,y,g6,g7,g8⟩|⟨g1,g2,g3,g4,g5,g6,g7⟩|⟨g1,g2,g3,g4,g5,x,g6,g7⟩
  ·have:=g.2.2.2.2;simp at this
  ·simp at g8
  ·simp at g7;exact ⟨fun j hj=>by have:=g6 j hj;omega,g7,g5⟩
  ·simp at g7
theorem ST.tbl{base:Nat}{w:World}{fb vb:Nat}{D:List NF}{ak c:Nat}{U:List NF}{Z:List Nat}(h:ST base w fb vb D ak c U Z):D[0]?=some .zero∧D[1]?=some .one∧D.Nodup∧(∀ d∈D,WC d)∧(∀ x∈D,x∈U)∧fb<base∧base≤w.heap.size∧base≤vb∧vb<w.heap.size∧NoInt w [fb,vb]:=by
 obtain ⟨E,B,hE,hP,hU,_,_⟩:=h;have hv:=hE.vbs;exact ⟨hP.tb.d0,hP.tb.d1,hP.tb.nd,hP.tb.wc,hU,hE.fb,hE.sz,hv.1,hv.2.1,hE.noInt⟩
theorem ST.zs{base:Nat}{w:World}{fb vb:Nat}{D:List NF}{ak c:Nat}{U:List NF}{Z:List Nat}(h:ST base w fb vb D ak c U Z):∀ k∈Z,k<w.heap.size:=by
 obtain ⟨E,B,_,_,_,_,h5⟩:=h;exact h5.1
theorem ST.num{base:Nat}{w:World}{fb vb:Nat}{D:List NF}{ak c:Nat}{U:List NF}{Z:List Nat}(h:ST base w fb vb D ak c U Z){i j:Nat}{x y:NF}(hi:D[i]?=some x)(hj:D[j]?=some y):i=j↔x=y:=by
 constructor
 ·rintro rfl;rw[hi]at hj;simpa using hj
 ·rintro rfl;exact nodup_get h.tbl.2.2.1 hi hj
theorem RQ.here{base:Nat}{w w':World}{fb vb:Nat}{D:List NF}{ak c:Nat}{U:List NF}{Z:List Nat}{y:NF}{r:Nat}(h:ST base w fb vb D ak c U Z)(f:Frm [] w w')(hr:D[r]?=some y):RQ base w fb vb D ak c U Z y (.returned (.int .i64 (r:Nat))) w' :=
 ⟨vb,[],r,rfl,by simpa using h.keep f,by simpa using hr,FQ.keepR (FQ.refl _ _ _) f⟩
theorem RQ.later{base:Nat}{w w1 w':World}{fb vb vb1:Nat}{D R:List NF}{ak c:Nat}{U:List NF}{Z:List Nat}{y:NF}{e:Ending}(f:FQ fb vb vb1 w w1)(h:RQ base w1 fb vb1 (D++R) ak c U Z y e w'):RQ base w fb vb D ak c U Z y e w':=by
 obtain ⟨vb',R',r,h1,h2,h3,h4⟩:=h;exact ⟨vb',R++R',r,h1,by simpa using h2,by simpa using h3,f.trans h4⟩
theorem RQ.keepR{base:Nat}{w w1 w':World}{fb vb:Nat}{D:List NF}{ak c:Nat}{U:List NF}{Z:List Nat}{y:NF}{e:Ending}(h:RQ base w fb vb D ak c U Z y e w1)(f:Frm [] w1 w'):RQ base w fb vb D ak c U Z y e w':=by
 obtain ⟨vb',R',r,h1,h2,h3,h4⟩:=h;exact ⟨vb',R',r,h1,h2.keep f,h3,FQ.keepR h4 f⟩
theorem get_app{D R:List NF}{i:Nat}{x:NF}(h:D[i]?=some x):(D++R)[i]?=some x:=by
 rw[List.getElem?_append_left (List.getElem?_eq_some_iff.1 h).1];exact h
end Go.Proofs.YtpcbbbilmpobaaaGreatDoor
