import Derived.Test.YtpcbbbilmpobaaaGreatDoorJ30
import Derived.Test.YtpcbbbilmpobaaaGreatDoorJ31
set_option linter.unusedVariables false
set_option linter.unusedSimpArgs false
set_option linter.unnecessarySimpa false
set_option maxRecDepth 100000
set_option maxHeartbeats 4000000
namespace Go.Proofs.YtpcbbbilmpobaaaGreatDoor
set_option linter.unusedVariables false
set_option linter.unusedSimpArgs false
mutual
/-- The sets of an expression,as they stand. -/
def setsOf:RX→List Nat
 | .one s=>[s]
 | .seq l=>setsL l
 | .alt l=>setsL l
 | .rep x _ _=>setsOf x
def setsL:List RX→List Nat
 | []=>[]
 | x::r=>setsOf x++setsL r
end
theorem setsL_app:∀ (a b:List RX),setsL (a++b)=setsL a++setsL b
 | [],b=>by simp[setsL]
 | x::a,b=>by simp[setsL,setsL_app a b]
theorem setsL_one(x:RX):setsL [x]=setsOf x:=by simp[setsL]
theorem pMarks_sets:∀ {k:Nat} {x y:RX} {t r:List UInt8},pMarks k x t=some (y,r)→setsOf y=setsOf x∧r.length≤t.length
 | 0,x,y,t,r,h=>by simp[pMarks]at h
 | k+1,x,y,t,r,h=>by
   simp only[pMarks]at h
   split at h
   ·split at h
    ·simp at h
    ·rename_i b r' hb
     have h1:=pRep_len hb;have h2:=pMarks_sets (k:=k) h;simp only[setsOf]at h2;exact ⟨h2.1,by omega⟩
   ·simp only[Option.some.injEq,Prod.mk.injEq]at h
    obtain ⟨rfl,rfl⟩:=h;exact ⟨rfl,Nat.le_refl _⟩
mutual
theorem pAtom_sets:∀ {k nest:Nat} {t r:List UInt8} {x:RX},pAtom k nest t=some (x,r)→(setsOf x).length+r.length≤t.length∧r.length+1≤t.length
 | 0,nest,t,r,x,h=>by simp[pAtom]at h
 | k+1,nest,[],r,x,h=>by simp[pAtom]at h
 | k+1,nest,c::q,r,x,h=>by
   simp only[pAtom]at h
   split at h
   ·split at h
    ·simp at h
    ·split at h
     ·simp at h
     ·rename_i x1 r1 h1
      have e:=pAlt_sets (acc:=[]) h1
      split at h
      ·rename_i hc
       have e2:=headIs_len hc;simp at h;obtain ⟨rfl,rfl⟩:=h;simp[setsL]at e;exact ⟨by simp;omega,by simp;omega⟩
      ·simp at h
   ·split at h
    ·split at h
     ·simp at h
     ·rename_i s r1 h1
      have e:=pClass_len h1;simp at h;obtain ⟨rfl,rfl⟩:=h;exact ⟨by simp[setsOf];omega,by simp;omega⟩
    ·split at h
     ·simp at h
      obtain ⟨rfl,rfl⟩:=h;exact ⟨by simp[setsOf];omega,by simp⟩
     ·split at h
      ·cases q with
       | nil=>simp at h
       | cons d q2 =>
         simp at h;obtain ⟨rfl,rfl⟩:=h;exact ⟨by simp[setsOf];omega,by simp⟩
      ·split at h
       ·simp at h
       ·simp at h
        obtain ⟨rfl,rfl⟩:=h;exact ⟨by simp[setsOf];omega,by simp⟩
theorem pSeq_sets:∀ {k nest:Nat} {acc:List RX} {t r:List UInt8} {x:RX},pSeq k nest acc t=some (x,r)→(setsOf x).length+r.length≤(setsL acc).length+t.length∧r.length≤t.length
 | 0,nest,acc,t,r,x,h=>by simp[pSeq]at h
 | k+1,nest,acc,t,r,x,h=>by
   simp only[pSeq]at h
   split at h
   ·simp at h
    obtain ⟨rfl,rfl⟩:=h;exact ⟨by simp[setsOf],Nat.le_refl _⟩
   ·split at h
    ·simp at h
    ·rename_i x1 r1 h1
     have e1:=pAtom_sets h1
     split at h
     ·simp at h
     ·rename_i y r2 h2
      have e2:=pMarks_sets h2;have e3:=pSeq_sets (acc:=acc++[y]) h;rw[setsL_app,setsL_one,e2.1,List.length_append]at e3;exact ⟨by omega,by omega⟩
theorem pAlt_sets:∀ {k nest:Nat} {acc:List RX} {t r:List UInt8} {x:RX},pAlt k nest acc t=some (x,r)→(setsOf x).length+r.length≤(setsL acc).length+t.length∧r.length≤t.length
 | 0,nest,acc,t,r,x,h=>by simp[pAlt]at h
 | k+1,nest,acc,t,r,x,h=>by
   simp only[pAlt]at h
   split at h
   ·simp at h
   ·rename_i x1 r1 h1
    have e1:=pSeq_sets (acc:=[]) h1;simp only[setsL,List.length_nil]at e1
    split at h
    ·rename_i hc
     have e2:=headIs_len hc;have e3:=pAlt_sets (acc:=acc++[x1]) h;rw[setsL_app,setsL_one,List.length_append]at e3;exact ⟨by omega,by omega⟩
    ·simp at h
     obtain ⟨rfl,rfl⟩:=h;simp only[setsOf,setsL_app,setsL_one,List.length_append];exact ⟨by omega,by omega⟩
end
open Go.RowKit
def XN(w:World)(eb:Nat)(k:Int)(v:Value):Prop:=w.heap[eb]?=some (.cells #[.int .i64 k, .int .u64 0, .int .u64 0, .int .u64 0, .int .u64 0,v, .pointer none, .int .i64 0, .int .i64 0] 198 (0,0))
def XW(w:World)(eb q:Nat)(lo hi:Int):Prop:=w.heap[eb]?=some (.cells #[.int .i64 3, .int .u64 0, .int .u64 0, .int .u64 0, .int .u64 0, .slice none 0 0, .pointer (some ⟨q,0,none⟩), .int .i64 lo, .int .i64 hi] 198 (0,0))
def pv(ps:List Nat):List Value:=ps.map fun p=>.pointer (some ⟨p,0,none⟩)
def XV(A:Nat→Prop)(w:World)(v:Value)(ps:List Nat):Prop:=w.ownsRow 0 184 1 v ps.length (pv ps)∧(∀ k,v.ownBlock=some k→A k)∧ps.length≤1000
mutual
def XR(A:Nat→Prop)(w:World):Nat→RX→Prop
 | p, .one s=>A p∧XB w p s
 | p, .seq l=>A p∧∃ v ps,XN w p 1 v∧XV A w v ps∧XRs A w ps l
 | p, .alt l=>A p∧∃ v ps,XN w p 2 v∧XV A w v ps∧XRs A w ps l
 | p, .rep x lo hi=>A p∧∃ q,XW w p q lo (hiZ hi)∧XR A w q x
def XRs(A:Nat→Prop)(w:World):List Nat→List RX→Prop
 | [],[]=>True
 | p::ps,x::l=>XR A w p x∧XRs A w ps l
 | _,_=>False
end
def KeepX(A:Nat→Prop)(w w':World):Prop:=∀ k,A k→(∃ cur fz,w.heap[k]?=some (.cells cur 198 fz)∨w.heap[k]?=some (.cells cur 184 fz))→w'.heap[k]?=w.heap[k]?
theorem XV.keep{A:Nat→Prop}{w w':World}{v:Value}{ps:List Nat}(h:XV A w v ps)(k:KeepX A w w'):XV A w' v ps:=by
 refine ⟨⟨h.1.1,?_⟩,h.2⟩;rcases h.1.2 with hn|⟨g,cap,cur,rfl,hb,hgg,rest⟩
 ·exact .inl hn
 ·exact .inr ⟨g,cap,cur,rfl,hb,(k g (h.2.1 g rfl) ⟨cur,_, .inr hgg⟩).trans hgg,rest⟩
mutual
theorem XR.keep{A:Nat→Prop}{w w':World}(k:KeepX A w w'):∀ {p:Nat} {x:RX},XR A w p x→XR A w' p x
 | p, .one s,h=>by
   simp only[XR]at h ⊢;exact ⟨h.1,(k p h.1 ⟨_,_, .inl h.2⟩).trans h.2⟩
 | p, .seq l,h=>by
   simp only[XR]at h ⊢;obtain ⟨h1,v,ps,h2,h3,h4⟩:=h;exact ⟨h1,v,ps,(k p h1 ⟨_,_, .inl h2⟩).trans h2,h3.keep k,XRs.keep k h4⟩
 | p, .alt l,h=>by
   simp only[XR]at h ⊢;obtain ⟨h1,v,ps,h2,h3,h4⟩:=h;exact ⟨h1,v,ps,(k p h1 ⟨_,_, .inl h2⟩).trans h2,h3.keep k,XRs.keep k h4⟩
 | p, .rep x lo hi,h=>by
   simp only[XR]at h ⊢;obtain ⟨h1,q,h2,h3⟩:=h;exact ⟨h1,q,(k p h1 ⟨_,_, .inl h2⟩).trans h2,XR.keep k h3⟩
theorem XRs.keep{A:Nat→Prop}{w w':World}(k:KeepX A w w'):∀ {ps:List Nat} {l:List RX},XRs A w ps l→XRs A w' ps l
 | [],[],_=>by simp only[XRs]
 | p::ps,x::l,h=>by
   simp only[XRs]at h ⊢;exact ⟨XR.keep k h.1,XRs.keep k h.2⟩
 | [],_::_,h=>by simp only[XRs]at h
 | _::_,[],h=>by simp only[XRs]at h
end
mutual
theorem XR.mono{A B:Nat→Prop}{w:World}(k:∀ n,A n→B n):∀ {p:Nat} {x:RX},XR A w p x→XR B w p x
 | p, .one s,h=>by simp only[XR]at h ⊢;exact ⟨k p h.1,h.2⟩
 | p, .seq l,h=>by
   simp only[XR]at h ⊢;obtain ⟨h1,v,ps,h2,h3,h4⟩:=h;exact ⟨k p h1,v,ps,h2,⟨h3.1,fun n hn=>k n (h3.2.1 n hn),h3.2.2⟩,XRs.mono k h4⟩
 | p, .alt l,h=>by
   simp only[XR]at h ⊢;obtain ⟨h1,v,ps,h2,h3,h4⟩:=h;exact ⟨k p h1,v,ps,h2,⟨h3.1,fun n hn=>k n (h3.2.1 n hn),h3.2.2⟩,XRs.mono k h4⟩
 | p, .rep x lo hi,h=>by
   simp only[XR]at h ⊢;obtain ⟨h1,q,h2,h3⟩:=h;exact ⟨k p h1,q,h2,XR.mono k h3⟩
theorem XRs.mono{A B:Nat→Prop}{w:World}(k:∀ n,A n→B n):∀ {ps:List Nat} {l:List RX},XRs A w ps l→XRs B w ps l
 | [],[],_=>by simp only[XRs]
 | p::ps,x::l,h=>by
   simp only[XRs]at h ⊢;exact ⟨XR.mono k h.1,XRs.mono k h.2⟩
 | [],_::_,h=>by simp only[XRs]at h
 | _::_,[],h=>by simp only[XRs]at h
end
theorem XRs.snoc{A:Nat→Prop}{w:World}:∀ {ps:List Nat} {l:List RX} {p:Nat} {x:RX},XRs A w ps l→XR A w p x→XRs A w (ps++[p]) (l++[x])
 | [],[],p,x,_,h=>by simp only[List.nil_append,XRs];exact ⟨h,trivial⟩
 | q::ps,y::l,p,x,h,hx=>by
   simp only[XRs,List.cons_append]at h ⊢;exact ⟨h.1,XRs.snoc h.2 hx⟩
 | [],_::_,p,x,h,_=>by simp only[XRs]at h
 | _::_,[],p,x,h,_=>by simp only[XRs]at h
theorem XRs.len{A:Nat→Prop}{w:World}:∀ {ps:List Nat} {l:List RX},XRs A w ps l→ps.length=l.length
 | [],[],_=>rfl
 | p::ps,x::l,h=>by simp only[XRs]at h;simp[XRs.len h.2]
 | [],_::_,h=>by simp only[XRs]at h
 | _::_,[],h=>by simp only[XRs]at h
theorem KeepX.frm{A:Nat→Prop}{S:List Nat}{w w':World}(f:Frm S w w')(hA:∀ k,A k→k<w.heap.size∧k∉S):KeepX A w w' :=
 fun k hk _=>f.block k (hA k hk).1 (hA k hk).2
theorem KeepX.fp{A:Nat→Prop}{base b:Nat}{w w':World}(f:FP base b w w')(hA:∀ k,A k→k<w.heap.size∧k≠b):KeepX A w w':=by
 intro k hk ⟨cur,fz,h⟩;refine f.block k (hA k hk).1 (hA k hk).2 (.inr ?_);intro c f2 e;rcases h with h|h<;>rw[h]at e<;>simp at e
theorem FP.fresh{base b n:Nat}{x y z:World}(h:FP base b x y)(k:Frm [n] y z)(hn:x.heap.size≤n):FP base b x z :=
 ⟨k.os.trans h.os,k.tape.trans h.tape,k.output.trans h.output,Nat.le_trans h.size k.size,
  fun i hi hb hc=>(k.block i (Nat.lt_of_lt_of_le hi h.size) (by simp;omega)).trans (h.block i hi hb hc)⟩
def XP(base b:Nat)(t:List UInt8)(S:List Nat)(w:World)(p:Option (RX × List UInt8))(e:Ending)(w':World):Prop :=
 match p with
 | some (x,r)=>∃ (eb:Nat) (vs':Value),e=.returned (.pointer (some ⟨eb,0,none⟩))∧XR (fun k=>w.heap.size≤k∧k<w'.heap.size) w' eb x∧PA w' b t r vs'∧BL base w' vs' (S++setsOf x)∧FP base b w w'
 | none=>e=.returned (.pointer none)∧(∃ l' vs',PA w' b t l' vs')∧FP base b w w'
theorem XB.lt{w:World}{eb s:Nat}(h:XB w eb s):eb<w.heap.size:=(Array.getElem?_eq_some_iff.1 h).1
theorem SP.xp{base b:Nat}{t:List UInt8}{S:List Nat}{w:World}{p:Option (Nat × List UInt8)}{e:Ending}{w':World}(h:SP base b t S w p e w'):XP base b t S w (p.map fun x=>(.one x.1,x.2)) e w':=by
 cases p with
 | none=>exact h
 | some x =>
   obtain ⟨s,r⟩:=x;obtain ⟨eb,vs',h1,h2,h3,h4,h5,h6⟩:=h;refine ⟨eb,vs',h1,?_,h4,h5,h6⟩;simp only[XR];exact ⟨⟨h2,h3.lt⟩,h3⟩
def AltC(k:Nat):Prop:=∀ (base b nest:Nat) (t l:List UInt8) (vs:Value) (S:List Nat) (w:World),PA w b t l vs→BL base w vs S→b<base→base≤w.heap.size→S.length+l.length≤100→nest≤5→4*l.length+4≤k →
 Calls Tryz.prog 111 #[.pointer (some ⟨b,0,none⟩), .int .i64 nest] w fun e w'=>XP base b t S w (pAlt k nest [] l) e w'
def SeqC(k:Nat):Prop:=∀ (base b nest:Nat) (t l:List UInt8) (vs:Value) (S:List Nat) (w:World),PA w b t l vs→BL base w vs S→b<base→base≤w.heap.size→S.length+l.length≤100→nest≤5→4*l.length+3≤k →
 Calls Tryz.prog 124 #[.pointer (some ⟨b,0,none⟩), .int .i64 nest] w fun e w'=>XP base b t S w (pSeq k nest [] l) e w'
def AtomC(k:Nat):Prop:=∀ (base b nest:Nat) (t l:List UInt8) (vs:Value) (S:List Nat) (w:World),PA w b t l vs→BL base w vs S→b<base→base≤w.heap.size→S.length+l.length≤100→nest≤5→4*l.length+2≤k →
 Calls Tryz.prog 148 #[.pointer (some ⟨b,0,none⟩), .int .i64 nest] w fun e w'=>XP base b t S w (pAtom k nest l) e w'
def pGroup(k nest:Nat)(l:List UInt8):Option (RX × List UInt8) :=
 if 5≤nest then none else match pAlt k (nest+1) [] l with | none=>none|some (x,r2)=>if headIs 41 r2 then some (x,r2.tail) else none
theorem XP.fpl{base b:Nat}{t:List UInt8}{S:List Nat}{w w1:World}{p:Option (RX × List UInt8)}{e:Ending}{w':World}(h:XP base b t S w1 p e w')(f:FP base b w w1)(hb:b<w.heap.size):XP base b t S w p e w':=by
 cases p with
 | none=>exact ⟨h.1,h.2.1,f.trans h.2.2⟩
 | some x =>
   obtain ⟨x,r⟩:=x;obtain ⟨eb,vs',h1,h2,h3,h4,h5⟩:=h;exact ⟨eb,vs',h1,h2.mono (fun n hn=>⟨Nat.le_trans f.size hn.1,hn.2⟩),h3,h4,f.trans h5⟩
theorem takeGroup_any{k:Nat}(hC:AltC k)(base b nest:Nat)(t l:List UInt8)(vs:Value)(S:List Nat)(w:World)(h:PA w b t l vs)(hs:BL base w vs S)(hb:b<base)(hz:base≤w.heap.size)(hS:S.length+l.length≤100)(hn:nest≤5)(hk:4*l.length+4≤k) :
 Calls Tryz.prog 160 #[.pointer (some ⟨b,0,none⟩), .int .i64 nest] w fun e w'=>XP base b t S w (pGroup k nest l) e w':=by
 have H:=hide h;have HS:=hide hs;clear h hs
 by_cases h5:5≤nest
 ·have Hg:Hid (pGroup k nest l=none):=by show _=_;unfold pGroup;rw[if_pos h5]
  go_enter Tryz.func160,Tryz.ntmps160
  go_wp2;go_ret;rw[Hg.out];exact ⟨rfl,⟨_,_,H.out⟩,FP.refl _ _ _⟩
 ·have Hg:Hid (pGroup k nest l=match pAlt k (nest+1) [] l with | none=>none|some (x,r2)=>if headIs 41 r2 then some (x,r2.tail) else none):=by show _=_;unfold pGroup;rw[if_neg h5]
  have Hc:=hide (hC base b (nest+1) t l vs S w H.out HS.out hb hz hS (by omega) hk);go_enter Tryz.func160,Tryz.ntmps160
  go_wp2_with fail
  refine (Hc.out).mono ?_;intro e w1 hx;cases hp:pAlt k (nest+1) [] l with
  | none =>
    rw[hp]at hx Hg;obtain ⟨rfl,⟨l',vs',hpa⟩,hf⟩:=hx;have P1:=hide hpa;have F1:=hide hf;clear hpa hf;go_wp2_with fail
    refine (xtake_any b t l' vs' 41 w1 P1.out).mono ?_;rintro e w2 ⟨rfl,hp2,hf2⟩;have P2:=hide hp2;have F2:=hide (F1.out.frm hf2);clear hp2 hf2;cases tk 41 l'
    all_goals
     go_wp2;go_ret;rw[Hg.out];exact ⟨rfl,⟨_,_,P2.out⟩,F2.out⟩
  | some x =>
    obtain ⟨x,r⟩:=x;rw[hp]at hx Hg;obtain ⟨eb,vs',rfl,hxr,hpa,hbl,hf⟩:=hx;have X1:=hide hxr;have P1:=hide hpa;have B1:=hide hbl;have F1:=hide hf;have hbw:b<w.heap.size:=by omega
    have z1:=hf.size;clear hxr hpa hbl hf;go_wp2_with fail
    refine (xtake_any b t r vs' 41 w1 P1.out).mono ?_;rintro e w2 ⟨rfl,hp2,hf2⟩;have X2:=hide ((X1.out.keep (KeepX.frm hf2 (fun n hn=>⟨hn.2,by simp;omega⟩))).mono (B:=fun n=>w.heap.size≤n∧n<w2.heap.size) (fun n hn=>⟨hn.1,Nat.lt_of_lt_of_le hn.2 hf2.size⟩));have B2:=hide (B1.out.frm hf2 (by simp;omega));have F2:=hide (F1.out.frm hf2);clear hf2;cases k2:tk 41 r
    ·have P2:=hide hp2
     clear hp2;rw[tk_head]at k2;go_wp2;go_ret;rw[Hg.out];simp only[k2];exact ⟨rfl,⟨_,_,P2.out⟩,F2.out⟩
    ·rw[rs_true k2]at hp2
     have P2:=hide hp2;clear hp2;rw[tk_head]at k2;go_wp2;go_ret;rw[Hg.out];simp only[k2];exact ⟨eb,vs',rfl,X2.out,P2.out,B2.out,F2.out⟩
theorem pAtom_cons(k nest:Nat)(c:UInt8)(r:List UInt8):pAtom (k+1) nest (c::r) =
 if c==40 then pGroup k nest r
 else if c==91 then (pClass r).map (fun x=>(.one x.1,x.2))
 else if c==46 then some (.one fullSet,r)
 else if c==92 then (match r with | []=>none|d::r2=>some (.one (2 ^ d.toNat),r2))
 else if isSpecial c then none
 else some (.one (2 ^ c.toNat),r):=by
 conv=>lhs;unfold pAtom
 simp only[]
 split
 ·rfl
 ·split
  ·cases pClass r with
   | none=>rfl
   | some x=>obtain ⟨s,q⟩:=x;rfl
  ·rfl
theorem addK_one(c:Nat):addK 0 c (c+1-c)=2 ^ c:=by
 rw[show c+1-c=1 by omega];simp[addK]
theorem setOf_xp{base b:Nat}{t l:List UInt8}{S:List Nat}{w:World}{s:Nat}{e:Ending}{w':World}
 (h:∃ (eb:Nat) (vs':Value),e=.returned (.pointer (some ⟨eb,0,none⟩))∧w.heap.size≤eb∧XB w' eb s∧PA w' b t l vs'∧BL base w' vs' (S++[s])∧FP base b w w'):XP base b t S w (some (.one s,l)) e w' :=
 SP.xp (p:=some (s,l)) h
theorem wd_zero:wd 0 0=0∧wd 0 1=0∧wd 0 2=0∧wd 0 3=0:=by decide
theorem XP.ret{base b:Nat}{t:List UInt8}{S:List Nat}{w:World}{p:Option (RX × List UInt8)}{e:Ending}{w':World}(h:XP base b t S w p e w'):∃ q,e=.returned (.pointer q):=by
 cases p with
 | none=>exact ⟨_,h.1⟩
 | some x=>obtain ⟨eb,vs',h1,_⟩:=h;exact ⟨_,h1⟩
theorem others_full(w:World):Calls Tryz.prog 163 #[.agg #[.int .u64 0, .int .u64 0, .int .u64 0, .int .u64 0]] w fun e w'=>e=.returned (bv fullSet)∧Frm [] w w':=by
 have h:=others_any 0 w;unfold bv at h;rw[wd_zero.1,wd_zero.2.1,wd_zero.2.2.1,wd_zero.2.2.2]at h;have e:cmpl 0=fullSet:=by decide
 rw[e]at h;exact h
theorem takeAtom_any{k:Nat}(hC:AltC k):AtomC (k+1):=by
 intro base b nest t l vs S w h hs hb hz hS hn hk;have H:=hide h;have HS:=hide hs;have hbl:b<w.heap.size:=by omega
 clear h hs;go_enter Tryz.func148,Tryz.ntmps148
 go_wp2_with fail
 refine (takeAny_any b t l vs w H.out).mono ?_;rintro e w1 ⟨rfl,hp1,hf1⟩;have P1:=hide hp1;have S1:=hide (HS.out.frm hf1 (by simp;omega));have F1:=hide (FP.of_frm (base:=base) hf1);have z1:=hf1.size;clear hp1 hf1;cases l with
 | nil =>
   go_wp2;go_ret;exact ⟨rfl,⟨_,_,P1.out⟩,F1.out⟩
 | cons c r =>
   have Hp:=hide (pAtom_cons k nest c r);simp only[List.tail_cons]at P1;simp only[List.length_cons]at hS hk;rw[hd_cons];have e40:=eqb c 40 (by omega);have e91:=eqb c 91 (by omega);have e46:=eqb c 46 (by omega);have e92:=eqb c 92 (by omega);have e41:=eqb c 41 (by omega);have e124:=eqb c 124 (by omega);have e42:=eqb c 42 (by omega);have e43:=eqb c 43 (by omega);have e63:=eqb c 63 (by omega);have e123:=eqb c 123 (by omega);have e125:=eqb c 125 (by omega);have e93:=eqb c 93 (by omega);have hc8:=c.toNat_lt;cases k40:(c==40)
   case true =>
    have f40:((c.toNat:Int)==40)=true:=e40.trans k40;rw[k40]at Hp;clear e40 e91 e46 e92 e41 e124 e42 e43 e63 e123 e125 e93;have G:=hide (takeGroup_any hC base b nest t r vs S w1 P1.out S1.out hb (by omega) (by omega) hn (by omega));go_wp2_with fail
    refine (G.out).mono ?_;intro e w2 hx;have X2:=hide (hx.fpl F1.out hbl);obtain ⟨q,rfl⟩:=hx.ret;clear hx;go_wp2;go_ret;rw[Hp.out];exact X2.out
   have f40:((c.toNat:Int)==40)=false:=e40.trans k40;rw[k40]at Hp;clear e40;cases k91:(c==91)
   case true =>
    have f91:((c.toNat:Int)==91)=true:=e91.trans k91;rw[k91]at Hp;clear e91 e46 e92 e41 e124 e42 e43 e63 e123 e125 e93;have G:=hide (takeClass_any base b t r vs S w1 P1.out S1.out hb (by omega) (by omega));go_wp2_with fail
    refine (G.out).mono ?_;intro e w2 hx;have X2:=hide (hx.xp.fpl F1.out hbl);obtain ⟨q,rfl⟩:=hx.xp.ret;clear hx;go_wp2;go_ret;rw[Hp.out];exact X2.out
   have f91:((c.toNat:Int)==91)=false:=e91.trans k91;rw[k91]at Hp;clear e91;cases k46:(c==46)
   case true =>
    have f46:((c.toNat:Int)==46)=true:=e46.trans k46;rw[k46]at Hp;clear e46 e92 e41 e124 e42 e43 e63 e123 e125 e93;go_wp2_with fail
    refine (others_full _).mono ?_;rintro e w2 ⟨rfl,hf2⟩;have fA:Frm [] w1 w2:=((Frm.refl _ _).alloc _).trans hf2;have G:=hide (setOf_any base b t r vs S fullSet w2 (P1.out.frm fA (by simp)) (S1.out.frm fA (by simp)) hb (by have:=fA.size;omega) (by omega));have F2:=hide (F1.out.frm (fA.mono (by simp)));clear hf2 fA;go_wp2_with fail
    refine (G.out).mono ?_;intro e w3 hx;have X3:=hide ((setOf_xp hx).fpl F2.out hbl);obtain ⟨q,rfl⟩:=(setOf_xp hx).ret;clear hx;go_wp2;go_ret;rw[Hp.out];exact X3.out
   have f46:((c.toNat:Int)==46)=false:=e46.trans k46;rw[k46]at Hp;clear e46;cases k92:(c==92)
   case true =>
    have f92:((c.toNat:Int)==92)=true:=e92.trans k92;rw[k92]at Hp;clear e92 e41 e124 e42 e43 e63 e123 e125 e93;go_wp2_with fail
    refine (takeAny_any b t r vs w1 P1.out).mono ?_;rintro e w2 ⟨rfl,hp2,hf2⟩;have P2:=hide hp2;have S2:=hide (S1.out.frm hf2 (by simp;omega));have F2:=hide (F1.out.frm hf2);have z2:=hf2.size;clear hp2 hf2;cases r with
    | nil =>
      go_wp2;go_ret;rw[Hp.out];exact ⟨rfl,⟨_,_,P2.out⟩,F2.out⟩
    | cons d r2 =>
      rw[hd_cons];have hd8:=d.toNat_lt;simp only[List.tail_cons]at P2;simp only[List.length_cons]at hS;have Hsb:Hid (∀ o,o=Obj.cells #[.int .u64 0, .int .u64 0, .int .u64 0, .int .u64 0] 195→SB (w2.alloc o) w2.heap.size (wd 0 0) (wd 0 1) (wd 0 2) (wd 0 3)):=by
       intro o ho;rw[ho,wd_zero.1,wd_zero.2.1,wd_zero.2.2.1,wd_zero.2.2.2];exact SB.new rfl
      go_wp2_with fail
      refine (add_any w2.heap.size 0 d.toNat d.toNat _ (by omega) (by omega) (Hsb.out _ rfl)).mono ?_;rintro e w4 ⟨rfl,hb4,hf4⟩;rw[addK_one]at hb4;have fA:Frm [] w2 w4:=((Frm.refl [] w2).alloc _).fresh hf4 (Nat.le_refl _);have G:=hide (setOf_any base b t r2 vs S (2 ^ d.toNat) w4 (P2.out.frm fA (by simp)) (S2.out.frm fA (by simp)) hb (by have:=fA.size;omega) (by omega));have F4:=hide (F2.out.frm (fA.mono (by simp)));obtain ⟨q0,q1,q2,q3⟩:=hb4.cells;clear hb4 hf4 fA;go_wp2_with fail
      refine (G.out).mono ?_;intro e w5 hx;have X5:=hide ((setOf_xp hx).fpl F4.out hbl);obtain ⟨q,rfl⟩:=(setOf_xp hx).ret;clear hx;go_wp2;go_ret;rw[Hp.out];exact X5.out
   have f92:((c.toNat:Int)==92)=false:=e92.trans k92;rw[k92]at Hp;clear e92;have Hsp:Hid (isSpecial c=(c==41||c==124||c==42||c==43||c==63||c==123||c==125||c==93)):=rfl;cases k41:(c==41)
   case true =>
    have f41:((c.toNat:Int)==41)=true:=e41.trans k41;have Hs2:Hid (isSpecial c=true):=by show _=_;rw[Hsp.out,k41];rfl
    rw[Hs2.out]at Hp;clear e41 e124 e42 e43 e63 e123 e125 e93 Hsp;go_wp2;go_ret;rw[Hp.out];exact ⟨rfl,⟨_,_,P1.out⟩,F1.out⟩
   have f41:((c.toNat:Int)==41)=false:=e41.trans k41;clear e41;cases k124:(c==124)
   case true =>
    have f124:((c.toNat:Int)==124)=true:=e124.trans k124;have Hs2:Hid (isSpecial c=true):=by show _=_;rw[Hsp.out,k41,k124];rfl
    rw[Hs2.out]at Hp;clear e124 e42 e43 e63 e123 e125 e93 Hsp;go_wp2;go_ret;rw[Hp.out];exact ⟨rfl,⟨_,_,P1.out⟩,F1.out⟩
   have f124:((c.toNat:Int)==124)=false:=e124.trans k124;clear e124;cases k42:(c==42)
   case true =>
    have f42:((c.toNat:Int)==42)=true:=e42.trans k42;have Hs2:Hid (isSpecial c=true):=by show _=_;rw[Hsp.out,k41,k124,k42];rfl
    rw[Hs2.out]at Hp;clear e42 e43 e63 e123 e125 e93 Hsp;go_wp2;go_ret;rw[Hp.out];exact ⟨rfl,⟨_,_,P1.out⟩,F1.out⟩
   have f42:((c.toNat:Int)==42)=false:=e42.trans k42;clear e42;cases k43:(c==43)
   case true =>
    have f43:((c.toNat:Int)==43)=true:=e43.trans k43;have Hs2:Hid (isSpecial c=true):=by show _=_;rw[Hsp.out,k41,k124,k42,k43];rfl
    rw[Hs2.out]at Hp;clear e43 e63 e123 e125 e93 Hsp;go_wp2;go_ret;rw[Hp.out];exact ⟨rfl,⟨_,_,P1.out⟩,F1.out⟩
   have f43:((c.toNat:Int)==43)=false:=e43.trans k43;clear e43;cases k63:(c==63)
   case true =>
    have f63:((c.toNat:Int)==63)=true:=e63.trans k63;have Hs2:Hid (isSpecial c=true):=by show _=_;rw[Hsp.out,k41,k124,k42,k43,k63];rfl
    rw[Hs2.out]at Hp;clear e63 e123 e125 e93 Hsp;go_wp2;go_ret;rw[Hp.out];exact ⟨rfl,⟨_,_,P1.out⟩,F1.out⟩
   have f63:((c.toNat:Int)==63)=false:=e63.trans k63;clear e63;cases k123:(c==123)
   case true =>
    have f123:((c.toNat:Int)==123)=true:=e123.trans k123;have Hs2:Hid (isSpecial c=true):=by show _=_;rw[Hsp.out,k41,k124,k42,k43,k63,k123];rfl
    rw[Hs2.out]at Hp;clear e123 e125 e93 Hsp;go_wp2;go_ret;rw[Hp.out];exact ⟨rfl,⟨_,_,P1.out⟩,F1.out⟩
   have f123:((c.toNat:Int)==123)=false:=e123.trans k123;clear e123;cases k125:(c==125)
   case true =>
    have f125:((c.toNat:Int)==125)=true:=e125.trans k125;have Hs2:Hid (isSpecial c=true):=by show _=_;rw[Hsp.out,k41,k124,k42,k43,k63,k123,k125];rfl
    rw[Hs2.out]at Hp;clear e125 e93 Hsp;go_wp2;go_ret;rw[Hp.out];exact ⟨rfl,⟨_,_,P1.out⟩,F1.out⟩
   have f125:((c.toNat:Int)==125)=false:=e125.trans k125;clear e125;cases k93:(c==93)
   case true =>
    have f93:((c.toNat:Int)==93)=true:=e93.trans k93;have Hs2:Hid (isSpecial c=true):=by show _=_;rw[Hsp.out,k41,k124,k42,k43,k63,k123,k125,k93];rfl
    rw[Hs2.out]at Hp;clear e93 Hsp;go_wp2;go_ret;rw[Hp.out];exact ⟨rfl,⟨_,_,P1.out⟩,F1.out⟩
   have f93:((c.toNat:Int)==93)=false:=e93.trans k93;clear e93;have Hs2:Hid (isSpecial c=false):=by show _=_;rw[Hsp.out,k41,k124,k42,k43,k63,k123,k125,k93];rfl
   rw[Hs2.out]at Hp;clear Hsp;have Hsb:Hid (∀ o,o=Obj.cells #[.int .u64 0, .int .u64 0, .int .u64 0, .int .u64 0] 195→SB (w1.alloc o) w1.heap.size (wd 0 0) (wd 0 1) (wd 0 2) (wd 0 3)):=by
    intro o ho;rw[ho,wd_zero.1,wd_zero.2.1,wd_zero.2.2.1,wd_zero.2.2.2];exact SB.new rfl
   go_wp2_with fail
   refine (add_any w1.heap.size 0 c.toNat c.toNat _ (by omega) (by omega) (Hsb.out _ rfl)).mono ?_;rintro e w4 ⟨rfl,hb4,hf4⟩;rw[addK_one]at hb4;have fA:Frm [] w1 w4:=((Frm.refl [] w1).alloc _).fresh hf4 (Nat.le_refl _);have G:=hide (setOf_any base b t r vs S (2 ^ c.toNat) w4 (P1.out.frm fA (by simp)) (S1.out.frm fA (by simp)) hb (by have:=fA.size;omega) (by omega));have F4:=hide (F1.out.frm (fA.mono (by simp)));obtain ⟨q0,q1,q2,q3⟩:=hb4.cells;clear hb4 hf4 fA;go_wp2_with fail
   refine (G.out).mono ?_;intro e w5 hx;have X5:=hide ((setOf_xp hx).fpl F4.out hbl);obtain ⟨q,rfl⟩:=(setOf_xp hx).ret;clear hx;go_wp2;go_ret;rw[Hp.out];exact X5.out
def pRepeated(k nest:Nat)(l:List UInt8):Option (RX × List UInt8) :=
 match pAtom k nest l with
 | none=>none
 | some (x,r)=>pMarks (r.length+1) x r
def RepC(k:Nat):Prop:=∀ (base b nest:Nat) (t l:List UInt8) (vs:Value) (S:List Nat) (w:World),PA w b t l vs→BL base w vs S→b<base→base≤w.heap.size→S.length+l.length≤100→nest≤5→4*l.length+2≤k →
 Calls Tryz.prog 138 #[.pointer (some ⟨b,0,none⟩), .int .i64 nest] w fun e w'=>XP base b t S w (pRepeated k nest l) e w'
theorem XW.new{w:World}{eb q:Nat}{lo hi:Int}(h:eb=w.heap.size):XW (w.alloc (.cells #[.int .i64 3, .int .u64 0, .int .u64 0, .int .u64 0, .int .u64 0, .slice none 0 0, .pointer (some ⟨q,0,none⟩), .int .i64 lo, .int .i64 hi] 198)) eb q lo hi:=by
 subst h;exact heap1 w _
theorem takeRepeated_any{k:Nat}(hA:AtomC k):RepC k:=by
 intro base b nest t l vs S w h hs hb hz hS hn hk;have A1:=hide (hA base b nest t l vs S w h hs hb hz hS hn hk);have hbl:b<w.heap.size:=by omega
 clear h hs;go_enter Tryz.func138,Tryz.ntmps138
 go_wp2_with fail
 refine (A1.out).mono ?_;intro e w1 hx;cases hp:pAtom k nest l with
 | none =>
   have Hr:Hid (pRepeated k nest l=none):=by show _=_;unfold pRepeated;rw[hp]
   rw[hp]at hx;obtain ⟨rfl,⟨l',vs',hpa⟩,hf⟩:=hx;have P1:=hide hpa;have F1:=hide hf;clear hpa hf;obtain ⟨q0,hq0⟩:∃ q0:Option Addr,q0=none:=⟨_,rfl⟩;rw[← hq0];go_wp2_with fail
   go_loopg [5] 1 (fun k ve wr=>k=1∧ve=.pointer q0∧wr=w1)
   case atStart=>exact ⟨rfl,by rw[hq0],rfl⟩
   case round =>
    obtain ⟨hk1,rfl,rfl⟩:=hrel;go_wp2;go_ret;rw[Hr.out];exact ⟨by subst hq0;rfl,⟨_,_,P1.out⟩,F1.out⟩
 | some x =>
   obtain ⟨x,r⟩:=x;have Hr:Hid (pRepeated k nest l=pMarks (r.length+1) x r):=by show _=_;unfold pRepeated;rw[hp]
   rw[hp]at hx;obtain ⟨eb,vs',rfl,hxr,hpa,hbl1,hf⟩:=hx;have X1:=hide hxr;have P1:=hide hpa;have B1:=hide hbl1;have F1:=hide hf;clear hxr hpa hbl1 hf;go_wp2_with fail
   go_loopg [5] (r.length+2) (fun k ve wr=>∃ (q:Nat) (y:RX) (l':List UInt8) (kk:Nat),k=kk+1∧l'.length+1≤kk∧ve=.pointer (some ⟨q,0,none⟩)∧XR (fun n=>w.heap.size≤n∧n<wr.heap.size) wr q y∧setsOf y=setsOf x∧PA wr b t l' vs'∧BL base wr vs' (S++setsOf x)∧FP base b w wr∧pMarks kk y l'=pMarks (r.length+1) x r)
   case atStart=>exact ⟨eb,x,r,r.length+1,rfl,Nat.le_refl _,rfl,X1.out,rfl,P1.out,B1.out,F1.out,rfl⟩
   case round =>
    clear X1 P1 B1 F1;obtain ⟨q,y,l',kk,hk1,hk2,rfl,hxr,hsy,hpa,hbl1,hf,hpm⟩:=hrel;obtain ⟨k2,rfl⟩:∃ k2,kk=k2+1:=⟨kk-1,by omega⟩;have Hpm:Hid (pMarks (r.length+1) x r=if atRepB l' then (match pRep l' with | none=>none|some (b,r)=>pMarks k2 (.rep y b.1 b.2) r) else some (y,l')):=by
     show _=_;rw[← hpm];rfl
    have X1:=hide hxr;have P1:=hide hpa;have B1:=hide hbl1;have F1:=hide hf;have z1:=hf.size;have Hsy:=hide hsy;clear hxr hpa hbl1 hf hpm hsy;go_wp2_with fail
    refine (atRepetition_any b t l' vs' wr P1.out).mono ?_;rintro e w2 ⟨rfl,n2,rfl⟩;cases hat:atRepB l'
    ·have Hm2:Hid (pMarks (r.length+1) x r=some (y,l')):=by show _=_;rw[Hpm.out,hat];rfl
     go_wp2;go_ret;rw[Hr.out,Hm2.out];refine ⟨q,vs',rfl,?_,P1.out.drewN _,?_,F1.out.drewN _⟩
     ·exact (X1.out.keep (KeepX.frm ((Frm.refl [] wr).drewN n2) (fun n hn=>⟨hn.2,by simp⟩))).mono (fun n hn=>hn)
     ·rw[Hsy.out];exact B1.out
    ·have Hm2:Hid (pMarks (r.length+1) x r=match pRep l' with | none=>none|some (b,r)=>pMarks k2 (.rep y b.1 b.2) r):=by show _=_;rw[Hpm.out,hat];rfl
     go_wp2_with fail
     refine (takeRepetition_any b t l' vs' (wr.drewN n2) (P1.out.drewN n2)).mono ?_;rintro e w3 ⟨a,m,ok,l3,rfl,hp3,hf3,hc3⟩;have P3:=hide hp3;have hf3':Frm [b] wr w3:=((Frm.refl [b] wr).drewN n2).trans hf3;have X3:=hide ((X1.out.keep (KeepX.frm hf3' (fun n hn=>⟨hn.2,by simp;omega⟩))).mono (B:=fun n=>w.heap.size≤n∧n<w3.heap.size) (fun n hn=>⟨hn.1,Nat.lt_of_lt_of_le hn.2 hf3'.size⟩));have B3:=hide (B1.out.frm hf3' (by simp;omega));have F3:=hide (F1.out.frm hf3');have z3:=hf3'.size;clear hp3 hf3 hf3';cases hrp:pRep l' with
     | none =>
       rw[hrp]at hc3 Hm2;obtain rfl:ok=false:=hc3;go_wp2;go_ret;rw[Hr.out,Hm2.out];exact ⟨rfl,⟨_,_,P3.out⟩,F3.out⟩
     | some br =>
       obtain ⟨⟨lo,hi⟩,r3⟩:=br;have hlen:=(pRep_len hrp).1;have hop:=opLen_pos lo hi;rw[hrp]at hc3 Hm2;obtain ⟨rfl,rfl,rfl,rfl⟩:a=lo∧m=hiZ hi∧ok=true∧l3=r3:=hc3;simp only at hlen;go_wp2;go_roundg (gk-1)
       case measure=>omega
       case rel =>
        have hfa:=(Frm.refl [] w3).alloc (.cells #[.int .i64 3, .int .u64 0, .int .u64 0, .int .u64 0, .int .u64 0, .slice none 0 0, .pointer (some ⟨q,0,none⟩), .int .i64 lo, .int .i64 (hiZ hi)] 198);refine ⟨w3.heap.size, .rep y lo hi,l3,k2,by omega,by omega,rfl,?_,Hsy.out,P3.out.frm hfa (by simp),B3.out.frm hfa (by simp),F3.out.alloc _,Hm2.out.symm⟩;simp only[XR];refine ⟨⟨by omega,by simp⟩,q,XW.new rfl,?_⟩;exact (X3.out.keep (KeepX.frm hfa (fun n hn=>⟨hn.2,by simp⟩))).mono (fun n hn=>⟨hn.1,by simp;omega⟩)
end Go.Proofs.YtpcbbbilmpobaaaGreatDoor
