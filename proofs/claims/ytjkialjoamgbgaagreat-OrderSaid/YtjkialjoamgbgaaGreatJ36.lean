import Derived.Test.YtjkialjoamgbgaaGreatJ35
import Derived.Test.YtjkialjoamgbgaaGreatJ34
set_option linter.unusedVariables false
set_option linter.unusedSimpArgs false
set_option linter.unnecessarySimpa false
set_option maxRecDepth 100000
set_option maxHeartbeats 4000000
namespace Go.Proofs.YtjkialjoamgbgaaGreat
open Go.RowKit
theorem addK_eq(s f:Nat):∀ k,addK s f k=addBits s f k
 | 0=>rfl
 | k+1=>by simp only[addK,addBits,addK_eq s f k]
theorem BL.frm{S:List Nat}{base:Nat}{w w':World}{v:Value}{L:List Nat}(h:BL base w v L)(f:Frm S w w')(hS:∀ k,k∈S→k<base):BL base w' v L:=own_frm h f hS
theorem Frm.fresh{S:List Nat}{n:Nat}{x y z:World}(h:Frm S x y)(k:Frm [n] y z)(hn:x.heap.size≤n):Frm S x z :=
 ⟨k.os.trans h.os,k.tape.trans h.tape,k.output.trans h.output,Nat.le_trans h.size k.size,
  fun i hi hS=>(k.block i (Nat.lt_of_lt_of_le hi h.size) (by simp;omega)).trans (h.block i hi hS)⟩
theorem own_frmN{S:List Nat}{w w':World}{base:Nat}{e:TypeId}{size:Nat}{v:Value}{n:Nat}{xs:List Value}(h:w.ownsRow base e size v n xs)(f:Frm S w w')
 (hS:∀ k,k∈S→v.ownBlock≠some k):w'.ownsRow base e size v n xs:=by
 refine ⟨h.1,?_⟩
 rcases h.2 with hn|⟨g,cap,cur,rfl,hb,hgg,rest⟩
 ·exact .inl hn
 ·refine .inr ⟨g,cap,cur,rfl,hb,?_,rest⟩
  rw[f.block g (Array.getElem?_eq_some_iff.1 hgg).1 (fun hm=>hS g hm (by simp[Value.ownBlock]))]
  exact hgg
def SP(base b:Nat)(t:List UInt8)(S:List Nat)(w:World)(p:Option (Nat × List UInt8))(e:Ending)(w':World):Prop :=
 match p with
 | some (s,r)=>∃ (eb:Nat) (vs':Value),e=.returned (.pointer (some ⟨eb,0,none⟩))∧w.heap.size≤eb∧XB w' eb s∧PA w' b t r vs'∧BL base w' vs' (S++[s])∧FP base b w w'
 | none=>e=.returned (.pointer none)∧(∃ l' vs',PA w' b t l' vs')∧FP base b w w'
theorem PA.len{w:World}{b:Nat}{t l:List UInt8}{vs:Value}(h:PA w b t l vs):l.length≤t.length∧t.length≤1048576:=by
 obtain ⟨i,h1,h2⟩:=h;exact ⟨by rw[← h2];simp,h1.2.2⟩
theorem takeClass_any(base b:Nat)(t l:List UInt8)(vs:Value)(S:List Nat)(w:World)(h:PA w b t l vs)(hs:BL base w vs S)(hb:b<base)(hz:base≤w.heap.size)(hS:S.length≤1000000) :
 Calls Tryz.prog 141 #[.pointer (some ⟨b,0,none⟩)] w fun e w'=>SP base b t S w (pClass l) e w':=by
 have H:=hide h
 have HS:=hide hs
 have hbl:b<w.heap.size:=by omega
 clear h hs
 go_enter Tryz.func141,Tryz.ntmps141
 go_wp2_with fail
 refine (xtake_any b t l vs 94 w H.out).mono ?_
 rintro e w1 ⟨rfl,hp1,hf1⟩
 have P1:=hide hp1
 have F1:=hide hf1
 have z1:=hf1.size
 clear hp1 hf1
 -- the text of the items,and what is made of them
 obtain ⟨l1,hl1⟩:∃ l1,l1=rs 94 l:=⟨_,rfl⟩
 have Hcl:Hid (pClass l=match pItems (l.length+1) 0 l1 with | none=>none|some (s,r)=>some (if tk 94 l then s ^^^ fullSet else s,r)):=by
  show _=_
  unfold pClass
  rw[← tk_head,hl1]
  cases hk:tk 94 l
  ·rw[rs_false hk]
   simp only[Bool.false_eq_true,if_false]
   cases pItems (l.length+1) 0 l with
   | none=>rfl
   | some x=>obtain ⟨s,r⟩:=x;rfl
  ·rw[rs_true hk];rfl
 have hll:l1.length≤l.length:=by rw[hl1];unfold rs;split<;>simp
 rw[← hl1]at P1
 clear hl1
 generalize tk 94 l=ot at *
 go_wp2_with fail
 go_loopg [5] (l.length+2) (fun k ve wr=>∃ (s':Nat) (l':List UInt8) (en:Bool),ve=.bool en∧SB wr w1.heap.size (wd s' 0) (wd s' 1) (wd s' 2) (wd s' 3)∧PA wr b t l' vs∧Frm [b] w wr∧s'<2 ^ 256∧w1.heap.size<wr.heap.size ∧
  (if en then pItems (l.length+1) 0 l1=some (s',l') else (∃ kk,k=kk+1∧l'.length+1≤kk∧pItems kk s' l'=pItems (l.length+1) 0 l1)))
 case atStart =>
  refine ⟨0,l1,false,rfl,?_,P1.out.frm (S:=[]) ((Frm.refl _ _).alloc _) (by simp),F1.out.alloc _,by decide,by simp,?_⟩
  ·have:wd 0 0=0∧wd 0 1=0∧wd 0 2=0∧wd 0 3=0:=by decide
   rw[this.1,this.2.1,this.2.2.1,this.2.2.2]
   exact SB.new rfl
  ·simp only[Bool.false_eq_true,if_false]
   exact ⟨_,rfl,by omega,rfl⟩
 case round =>
  obtain ⟨s',l',en,rfl,hsb,hpa,hfr,hs',hsz,hen⟩:=hrel
  have F2:=hide hfr
  clear hfr
  cases en
  case false =>
   simp only[Bool.false_eq_true,if_false]at hen
   obtain ⟨kk,hk1,hk2,hk3⟩:=hen
   obtain ⟨k2,rfl⟩:∃ k2,kk=k2+1:=⟨kk-1,by omega⟩
   have Hst:Hid (pItems (l.length+1) 0 l1=match pItem l' with | none=>none|some ((a,b),r)=>if headIs 93 r then some (addRange s' a b,r.tail) else pItems k2 (addRange s' a b) r):=by
    show _=_;rw[← hk3];rfl
   have HSB:=hide hsb
   have HPA:=hide hpa
   clear hk3 hsb hpa
   go_wp2_with fail
   refine (takeItem_any b t l' vs wr HPA.out).mono ?_
   rintro e w3 ⟨a,c,ok,l3,rfl,hp3,hf3,hi3⟩
   have P3:=hide hp3
   have F3:=hide (F2.out.trans hf3)
   have B3:=hide (HSB.out.frm hf3 (by simp;omega))
   have z3:=hf3.size
   clear hp3 hf3 HSB
   cases hit:pItem l' with
   | none =>
     rw[hit]at hi3 Hst
     obtain rfl:ok=false:=hi3
     have Hc2:Hid (pClass l=none):=by show _=_;rw[Hcl.out,Hst.out]
     go_wp2
     go_ret
     rw[Hc2.out]
     exact ⟨rfl,⟨_,_,P3.out⟩, .of_frm F3.out⟩
   | some x =>
     obtain ⟨⟨x,y⟩,r⟩:=x
     have hlen:=pItem_len hit
     rw[hit]at hi3 Hst
     obtain ⟨rfl,rfl,rfl,rfl⟩:a=x∧c=y∧ok=true∧l3=r:=hi3
     have ha8:=a.toNat_lt
     have hc8:=c.toNat_lt
     have Hadd:Hid (addK s' a.toNat (c.toNat+1-a.toNat)=addRange s' a c):=by show _=_;rw[addK_eq];rfl
     have hlt2:=addRange_lt hs' a c
     go_wp2_with fail
     refine (add_any w1.heap.size s' a.toNat c.toNat w3 (by omega) (by omega) B3.out).mono ?_
     rintro e w4 ⟨rfl,hb4,hf4⟩
     rw[Hadd.out]at hb4
     have B4:=hide hb4
     have P4:=hide (P3.out.frm hf4 (by simp;omega))
     have F4:=hide (F3.out.fresh hf4 z1)
     have z4:=hf4.size
     clear hb4 hf4
     generalize addRange s' a c=s4 at *
     go_wp2_with fail
     refine (xtake_any b t l3 vs 93 w4 P4.out).mono ?_
     rintro e w5 ⟨rfl,hp5,hf5⟩
     have B5:=hide (B4.out.frm hf5 (by simp;omega))
     have F5:=hide (F4.out.trans hf5)
     have z5:=hf5.size
     clear hf5
     have hlr:(rs 93 l3).length≤l3.length:=by unfold rs;split<;>simp
     cases k5:tk 93 l3
     ·have hst:pItems (l.length+1) 0 l1=pItems k2 s4 l3:=by
       rw[Hst.out];simp only[← tk_head,k5];rfl
      rw[rs_false k5]at hp5
      have P5:=hide hp5
      have Hs5:=hide hst
      clear hp5 hst
      go_wp2
      go_roundg (gk-1)
      case measure=>omega
      case rel =>
       refine ⟨s4,l3,false,rfl,B5.out,P5.out,F5.out,hlt2,by omega,?_⟩
       simp only[Bool.false_eq_true,if_false]
       exact ⟨k2,by omega,by omega,Hs5.out.symm⟩
     ·have hst:pItems (l.length+1) 0 l1=some (s4,l3.tail):=by
       rw[Hst.out];simp only[← tk_head,k5];rfl
      rw[rs_true k5]at hp5
      have P5:=hide hp5
      have Hs5:=hide hst
      clear hp5 hst
      go_wp2
      go_roundg (gk-1)
      case measure=>omega
      case rel =>
       refine ⟨s4,l3.tail,true,rfl,B5.out,P5.out,F5.out,hlt2,by omega,?_⟩
       simp only[if_true]
       exact Hs5.out
  case true =>
   simp only[if_true]at hen
   have Hc2:Hid (pClass l=some (if ot then s' ^^^ fullSet else s',l')):=by show _=_;rw[Hcl.out,hen]
   have hS2:S.length≤1048576:=by omega
   have HS2:=hide (HS.out.frm F2.out (by simp;omega))
   have hz2:base≤wr.heap.size:=by omega
   have HPA:=hide hpa
   have HSB:=hide hsb
   clear hen hpa
   obtain ⟨q0,q1,q2,q3⟩:=hsb.cells
   have qf:=hsb.fz
   clear hsb
   cases ot
   ·go_wp2_with fail
    refine (setOf_any base b t l' vs S s' wr HPA.out HS2.out hb hz2 hS2).mono ?_
    rintro e w6 ⟨eb,vs',rfl,he6,hx6,hp6,hl6,hf6⟩
    have X6:=hide hx6
    have P6:=hide hp6
    have L6:=hide hl6
    have G6:=hide ((FP.of_frm (base:=base) F2.out).trans hf6)
    clear hx6 hp6 hl6 hf6
    go_wp2
    go_ret
    rw[Hc2.out]
    exact ⟨eb,vs',rfl,by omega,X6.out,P6.out,L6.out,G6.out⟩
   ·have HQ:Hid (∀ (w:World),Calls Tryz.prog 143 #[.agg #[.int .u64 (wd s' 0), .int .u64 (wd s' 1), .int .u64 (wd s' 2), .int .u64 (wd s' 3)]] w fun e w'=>e=.returned (.agg #[.int .u64 (wd (s' ^^^ fullSet) 0), .int .u64 (wd (s' ^^^ fullSet) 1), .int .u64 (wd (s' ^^^ fullSet) 2), .int .u64 (wd (s' ^^^ fullSet) 3)])∧Frm [] w w'):=fun w=>others_any s' w
    go_wp2_with fail
    refine (HQ.out wr).mono ?_
    rintro e w5 ⟨rfl,hf5⟩
    have B5:=hide (HSB.out.frm hf5 (by simp))
    have P5:=hide (HPA.out.frm hf5 (by simp))
    have S5:=hide (HS2.out.frm hf5 (by simp))
    have F5:=hide (F2.out.trans (hf5.mono (by simp)))
    have z5:=hf5.size
    obtain ⟨q0,q1,q2,q3⟩:=B5.out.cells
    have qf:=B5.out.fz
    clear hf5
    have T6:Hid (∀ v0 v1 v2 v3:Value,Frm [w1.heap.size] w5 ((((w5.setCell ⟨w1.heap.size,0,none⟩ v0).setCell ⟨w1.heap.size,1,none⟩ v1).setCell ⟨w1.heap.size,2,none⟩ v2).setCell ⟨w1.heap.size,3,none⟩ v3)):=fun v0 v1 v2 v3=>((((Frm.refl [w1.heap.size] w5).setCell (p:=⟨w1.heap.size,0,none⟩) (.inl (by simp)) v0).setCell (p:=⟨w1.heap.size,1,none⟩) (.inl (by simp)) v1).setCell (p:=⟨w1.heap.size,2,none⟩) (.inl (by simp)) v2).setCell (p:=⟨w1.heap.size,3,none⟩) (.inl (by simp)) v3
    have U6:=hide (fun v0 v1 v2 v3=>setOf_any base b t l' vs S (s' ^^^ fullSet) _ (P5.out.frm (T6.out v0 v1 v2 v3) (by simp;omega)) (own_frmN S5.out (T6.out v0 v1 v2 v3) (by intro k hk e;simp at hk;subst hk;have:=HS.out.lt _ e;omega)) hb (by simp;omega) hS2)
    generalize s' ^^^ fullSet=s6 at *
    go_wp2_with fail
    refine (U6.out _ _ _ _).mono ?_
    rintro e w6 ⟨eb,vs',rfl,he6,hx6,hp6,hl6,hf6⟩
    have X6:=hide hx6
    have P6:=hide hp6
    have L6:=hide hl6
    have G6:=hide ((FP.of_frm (base:=base) (F5.out.fresh (T6.out _ _ _ _) z1)).trans hf6)
    simp at he6
    clear hx6 hp6 hl6 hf6
    go_wp2
    go_ret
    rw[Hc2.out]
    exact ⟨eb,vs',rfl,by omega,X6.out,P6.out,L6.out,G6.out⟩
set_option linter.unusedVariables false
set_option linter.unusedSimpArgs false
mutual
/-- The sets of an expression,as they stand. -/
def setsOf:RX→List Nat
 | .one s=>[s]
 | .seq l=>setsL l
 | .alt l=>setsL l
 | .rep x _ _=>setsOf x
def setsL:List RX→List Nat
 | []=>[]
 | x::r=>setsOf x++setsL r
end
theorem setsL_app:∀ (a b:List RX),setsL (a++b)=setsL a++setsL b
 | [],b=>by simp[setsL]
 | x::a,b=>by simp[setsL,setsL_app a b]
theorem setsL_one(x:RX):setsL [x]=setsOf x:=by simp[setsL]
theorem pMarks_sets:∀ {k:Nat} {x y:RX} {t r:List UInt8},pMarks k x t=some (y,r)→setsOf y=setsOf x∧r.length≤t.length
 | 0,x,y,t,r,h=>by simp[pMarks]at h
 | k+1,x,y,t,r,h=>by
   simp only[pMarks]at h
   split at h
   ·split at h
    ·simp at h
    ·rename_i b r' hb
     have h1:=pRep_len hb
     have h2:=pMarks_sets (k:=k) h
     simp only[setsOf]at h2
     exact ⟨h2.1,by omega⟩
   ·simp only[Option.some.injEq,Prod.mk.injEq]at h
    obtain ⟨rfl,rfl⟩:=h
    exact ⟨rfl,Nat.le_refl _⟩
mutual
theorem pAtom_sets:∀ {k nest:Nat} {t r:List UInt8} {x:RX},pAtom k nest t=some (x,r)→(setsOf x).length+r.length≤t.length∧r.length+1≤t.length
 | 0,nest,t,r,x,h=>by simp[pAtom]at h
 | k+1,nest,[],r,x,h=>by simp[pAtom]at h
 | k+1,nest,c::q,r,x,h=>by
   simp only[pAtom]at h
   split at h
   ·split at h
    ·simp at h
    ·split at h
     ·simp at h
     ·rename_i x1 r1 h1
      have e:=pAlt_sets (acc:=[]) h1
      split at h
      ·rename_i hc
       have e2:=headIs_len hc
       simp at h
       obtain ⟨rfl,rfl⟩:=h
       simp[setsL]at e
       exact ⟨by simp;omega,by simp;omega⟩
      ·simp at h
   ·split at h
    ·split at h
     ·simp at h
     ·rename_i s r1 h1
      have e:=pClass_len h1
      simp at h
      obtain ⟨rfl,rfl⟩:=h
      exact ⟨by simp[setsOf];omega,by simp;omega⟩
    ·split at h
     ·simp at h
      obtain ⟨rfl,rfl⟩:=h
      exact ⟨by simp[setsOf];omega,by simp⟩
     ·split at h
      ·cases q with
       | nil=>simp at h
       | cons d q2 =>
         simp at h
         obtain ⟨rfl,rfl⟩:=h
         exact ⟨by simp[setsOf];omega,by simp⟩
      ·split at h
       ·simp at h
       ·simp at h
        obtain ⟨rfl,rfl⟩:=h
        exact ⟨by simp[setsOf];omega,by simp⟩
theorem pSeq_sets:∀ {k nest:Nat} {acc:List RX} {t r:List UInt8} {x:RX},pSeq k nest acc t=some (x,r)→(setsOf x).length+r.length≤(setsL acc).length+t.length∧r.length≤t.length
 | 0,nest,acc,t,r,x,h=>by simp[pSeq]at h
 | k+1,nest,acc,t,r,x,h=>by
   simp only[pSeq]at h
   split at h
   ·simp at h
    obtain ⟨rfl,rfl⟩:=h
    exact ⟨by simp[setsOf],Nat.le_refl _⟩
   ·split at h
    ·simp at h
    ·rename_i x1 r1 h1
     have e1:=pAtom_sets h1
     split at h
     ·simp at h
     ·rename_i y r2 h2
      have e2:=pMarks_sets h2
      have e3:=pSeq_sets (acc:=acc++[y]) h
      rw[setsL_app,setsL_one,e2.1,List.length_append]at e3
      exact ⟨by omega,by omega⟩
theorem pAlt_sets:∀ {k nest:Nat} {acc:List RX} {t r:List UInt8} {x:RX},pAlt k nest acc t=some (x,r)→(setsOf x).length+r.length≤(setsL acc).length+t.length∧r.length≤t.length
 | 0,nest,acc,t,r,x,h=>by simp[pAlt]at h
 | k+1,nest,acc,t,r,x,h=>by
   simp only[pAlt]at h
   split at h
   ·simp at h
   ·rename_i x1 r1 h1
    have e1:=pSeq_sets (acc:=[]) h1
    simp only[setsL,List.length_nil]at e1
    split at h
    ·rename_i hc
     have e2:=headIs_len hc
     have e3:=pAlt_sets (acc:=acc++[x1]) h
     rw[setsL_app,setsL_one,List.length_append]at e3
     exact ⟨by omega,by omega⟩
    ·simp at h
     obtain ⟨rfl,rfl⟩:=h
     simp only[setsOf,setsL_app,setsL_one,List.length_append]
     exact ⟨by omega,by omega⟩
end
open Go.RowKit
def XN(w:World)(eb:Nat)(k:Int)(v:Value):Prop:=w.heap[eb]?=some (.cells #[.int .i64 k, .int .u64 0, .int .u64 0, .int .u64 0, .int .u64 0,v, .pointer none, .int .i64 0, .int .i64 0] 190 (0,0))
def XW(w:World)(eb q:Nat)(lo hi:Int):Prop:=w.heap[eb]?=some (.cells #[.int .i64 3, .int .u64 0, .int .u64 0, .int .u64 0, .int .u64 0, .slice none 0 0, .pointer (some ⟨q,0,none⟩), .int .i64 lo, .int .i64 hi] 190 (0,0))
def pv(ps:List Nat):List Value:=ps.map fun p=>.pointer (some ⟨p,0,none⟩)
def XV(A:Nat→Prop)(w:World)(v:Value)(ps:List Nat):Prop:=w.ownsRow 0 177 1 v ps.length (pv ps)∧(∀ k,v.ownBlock=some k→A k)∧ps.length≤1000
mutual
def XR(A:Nat→Prop)(w:World):Nat→RX→Prop
 | p, .one s=>A p∧XB w p s
 | p, .seq l=>A p∧∃ v ps,XN w p 1 v∧XV A w v ps∧XRs A w ps l
 | p, .alt l=>A p∧∃ v ps,XN w p 2 v∧XV A w v ps∧XRs A w ps l
 | p, .rep x lo hi=>A p∧∃ q,XW w p q lo (hiZ hi)∧XR A w q x
def XRs(A:Nat→Prop)(w:World):List Nat→List RX→Prop
 | [],[]=>True
 | p::ps,x::l=>XR A w p x∧XRs A w ps l
 | _,_=>False
end
def KeepX(A:Nat→Prop)(w w':World):Prop:=∀ k,A k→(∃ cur fz,w.heap[k]?=some (.cells cur 190 fz)∨w.heap[k]?=some (.cells cur 177 fz))→w'.heap[k]?=w.heap[k]?
theorem XV.keep{A:Nat→Prop}{w w':World}{v:Value}{ps:List Nat}(h:XV A w v ps)(k:KeepX A w w'):XV A w' v ps:=by
 refine ⟨⟨h.1.1,?_⟩,h.2⟩
 rcases h.1.2 with hn|⟨g,cap,cur,rfl,hb,hgg,rest⟩
 ·exact .inl hn
 ·exact .inr ⟨g,cap,cur,rfl,hb,(k g (h.2.1 g rfl) ⟨cur,_, .inr hgg⟩).trans hgg,rest⟩
mutual
theorem XR.keep{A:Nat→Prop}{w w':World}(k:KeepX A w w'):∀ {p:Nat} {x:RX},XR A w p x→XR A w' p x
 | p, .one s,h=>by
   simp only[XR]at h ⊢
   exact ⟨h.1,(k p h.1 ⟨_,_, .inl h.2⟩).trans h.2⟩
 | p, .seq l,h=>by
   simp only[XR]at h ⊢
   obtain ⟨h1,v,ps,h2,h3,h4⟩:=h
   exact ⟨h1,v,ps,(k p h1 ⟨_,_, .inl h2⟩).trans h2,h3.keep k,XRs.keep k h4⟩
 | p, .alt l,h=>by
   simp only[XR]at h ⊢
   obtain ⟨h1,v,ps,h2,h3,h4⟩:=h
   exact ⟨h1,v,ps,(k p h1 ⟨_,_, .inl h2⟩).trans h2,h3.keep k,XRs.keep k h4⟩
 | p, .rep x lo hi,h=>by
   simp only[XR]at h ⊢
   obtain ⟨h1,q,h2,h3⟩:=h
   exact ⟨h1,q,(k p h1 ⟨_,_, .inl h2⟩).trans h2,XR.keep k h3⟩
theorem XRs.keep{A:Nat→Prop}{w w':World}(k:KeepX A w w'):∀ {ps:List Nat} {l:List RX},XRs A w ps l→XRs A w' ps l
 | [],[],_=>by simp only[XRs]
 | p::ps,x::l,h=>by
   simp only[XRs]at h ⊢
   exact ⟨XR.keep k h.1,XRs.keep k h.2⟩
 | [],_::_,h=>by simp only[XRs]at h
 | _::_,[],h=>by simp only[XRs]at h
end
mutual
theorem XR.mono{A B:Nat→Prop}{w:World}(k:∀ n,A n→B n):∀ {p:Nat} {x:RX},XR A w p x→XR B w p x
 | p, .one s,h=>by simp only[XR]at h ⊢;exact ⟨k p h.1,h.2⟩
 | p, .seq l,h=>by
   simp only[XR]at h ⊢
   obtain ⟨h1,v,ps,h2,h3,h4⟩:=h
   exact ⟨k p h1,v,ps,h2,⟨h3.1,fun n hn=>k n (h3.2.1 n hn),h3.2.2⟩,XRs.mono k h4⟩
 | p, .alt l,h=>by
   simp only[XR]at h ⊢
   obtain ⟨h1,v,ps,h2,h3,h4⟩:=h
   exact ⟨k p h1,v,ps,h2,⟨h3.1,fun n hn=>k n (h3.2.1 n hn),h3.2.2⟩,XRs.mono k h4⟩
 | p, .rep x lo hi,h=>by
   simp only[XR]at h ⊢
   obtain ⟨h1,q,h2,h3⟩:=h
   exact ⟨k p h1,q,h2,XR.mono k h3⟩
theorem XRs.mono{A B:Nat→Prop}{w:World}(k:∀ n,A n→B n):∀ {ps:List Nat} {l:List RX},XRs A w ps l→XRs B w ps l
 | [],[],_=>by simp only[XRs]
 | p::ps,x::l,h=>by
   simp only[XRs]at h ⊢
   exact ⟨XR.mono k h.1,XRs.mono k h.2⟩
 | [],_::_,h=>by simp only[XRs]at h
 | _::_,[],h=>by simp only[XRs]at h
end
theorem XRs.snoc{A:Nat→Prop}{w:World}:∀ {ps:List Nat} {l:List RX} {p:Nat} {x:RX},XRs A w ps l→XR A w p x→XRs A w (ps++[p]) (l++[x])
 | [],[],p,x,_,h=>by simp only[List.nil_append,XRs];exact ⟨h,trivial⟩
 | q::ps,y::l,p,x,h,hx=>by
   simp only[XRs,List.cons_append]at h ⊢
   exact ⟨h.1,XRs.snoc h.2 hx⟩
 | [],_::_,p,x,h,_=>by simp only[XRs]at h
 | _::_,[],p,x,h,_=>by simp only[XRs]at h
theorem XRs.len{A:Nat→Prop}{w:World}:∀ {ps:List Nat} {l:List RX},XRs A w ps l→ps.length=l.length
 | [],[],_=>rfl
 | p::ps,x::l,h=>by simp only[XRs]at h;simp[XRs.len h.2]
 | [],_::_,h=>by simp only[XRs]at h
 | _::_,[],h=>by simp only[XRs]at h
theorem KeepX.frm{A:Nat→Prop}{S:List Nat}{w w':World}(f:Frm S w w')(hA:∀ k,A k→k<w.heap.size∧k∉S):KeepX A w w' :=
 fun k hk _=>f.block k (hA k hk).1 (hA k hk).2
theorem KeepX.fp{A:Nat→Prop}{base b:Nat}{w w':World}(f:FP base b w w')(hA:∀ k,A k→k<w.heap.size∧k≠b):KeepX A w w':=by
 intro k hk ⟨cur,fz,h⟩
 refine f.block k (hA k hk).1 (hA k hk).2 (.inr ?_)
 intro c f2 e
 rcases h with h|h<;>rw[h]at e<;>simp at e
theorem FP.fresh{base b n:Nat}{x y z:World}(h:FP base b x y)(k:Frm [n] y z)(hn:x.heap.size≤n):FP base b x z :=
 ⟨k.os.trans h.os,k.tape.trans h.tape,k.output.trans h.output,Nat.le_trans h.size k.size,
  fun i hi hb hc=>(k.block i (Nat.lt_of_lt_of_le hi h.size) (by simp;omega)).trans (h.block i hi hb hc)⟩
def XP(base b:Nat)(t:List UInt8)(S:List Nat)(w:World)(p:Option (RX × List UInt8))(e:Ending)(w':World):Prop :=
 match p with
 | some (x,r)=>∃ (eb:Nat) (vs':Value),e=.returned (.pointer (some ⟨eb,0,none⟩))∧XR (fun k=>w.heap.size≤k∧k<w'.heap.size) w' eb x∧PA w' b t r vs'∧BL base w' vs' (S++setsOf x)∧FP base b w w'
 | none=>e=.returned (.pointer none)∧(∃ l' vs',PA w' b t l' vs')∧FP base b w w'
theorem XB.lt{w:World}{eb s:Nat}(h:XB w eb s):eb<w.heap.size:=(Array.getElem?_eq_some_iff.1 h).1
theorem SP.xp{base b:Nat}{t:List UInt8}{S:List Nat}{w:World}{p:Option (Nat × List UInt8)}{e:Ending}{w':World}(h:SP base b t S w p e w'):XP base b t S w (p.map fun x=>(.one x.1,x.2)) e w':=by
 cases p with
 | none=>exact h
 | some x =>
   obtain ⟨s,r⟩:=x
   obtain ⟨eb,vs',h1,h2,h3,h4,h5,h6⟩:=h
   refine ⟨eb,vs',h1,?_,h4,h5,h6⟩
   simp only[XR]
   exact ⟨⟨h2,h3.lt⟩,h3⟩
open Go.RowKit
def AltC(k:Nat):Prop:=∀ (base b nest:Nat) (t l:List UInt8) (vs:Value) (S:List Nat) (w:World),PA w b t l vs→BL base w vs S→b<base→base≤w.heap.size→S.length+l.length≤100→nest≤5→4*l.length+4≤k →
 Calls Tryz.prog 101 #[.pointer (some ⟨b,0,none⟩), .int .i64 nest] w fun e w'=>XP base b t S w (pAlt k nest [] l) e w'
def SeqC(k:Nat):Prop:=∀ (base b nest:Nat) (t l:List UInt8) (vs:Value) (S:List Nat) (w:World),PA w b t l vs→BL base w vs S→b<base→base≤w.heap.size→S.length+l.length≤100→nest≤5→4*l.length+3≤k →
 Calls Tryz.prog 110 #[.pointer (some ⟨b,0,none⟩), .int .i64 nest] w fun e w'=>XP base b t S w (pSeq k nest [] l) e w'
def AtomC(k:Nat):Prop:=∀ (base b nest:Nat) (t l:List UInt8) (vs:Value) (S:List Nat) (w:World),PA w b t l vs→BL base w vs S→b<base→base≤w.heap.size→S.length+l.length≤100→nest≤5→4*l.length+2≤k →
 Calls Tryz.prog 128 #[.pointer (some ⟨b,0,none⟩), .int .i64 nest] w fun e w'=>XP base b t S w (pAtom k nest l) e w'
def pGroup(k nest:Nat)(l:List UInt8):Option (RX × List UInt8) :=
 if 5≤nest then none else match pAlt k (nest+1) [] l with | none=>none|some (x,r2)=>if headIs 41 r2 then some (x,r2.tail) else none
theorem XP.fpl{base b:Nat}{t:List UInt8}{S:List Nat}{w w1:World}{p:Option (RX × List UInt8)}{e:Ending}{w':World}(h:XP base b t S w1 p e w')(f:FP base b w w1)(hb:b<w.heap.size):XP base b t S w p e w':=by
 cases p with
 | none=>exact ⟨h.1,h.2.1,f.trans h.2.2⟩
 | some x =>
   obtain ⟨x,r⟩:=x
   obtain ⟨eb,vs',h1,h2,h3,h4,h5⟩:=h
   exact ⟨eb,vs',h1,h2.mono (fun n hn=>⟨Nat.le_trans f.size hn.1,hn.2⟩),h3,h4,f.trans h5⟩
theorem takeGroup_any{k:Nat}(hC:AltC k)(base b nest:Nat)(t l:List UInt8)(vs:Value)(S:List Nat)(w:World)(h:PA w b t l vs)(hs:BL base w vs S)(hb:b<base)(hz:base≤w.heap.size)(hS:S.length+l.length≤100)(hn:nest≤5)(hk:4*l.length+4≤k) :
 Calls Tryz.prog 140 #[.pointer (some ⟨b,0,none⟩), .int .i64 nest] w fun e w'=>XP base b t S w (pGroup k nest l) e w':=by
 have H:=hide h
 have HS:=hide hs
 clear h hs
 by_cases h5:5≤nest
 ·have Hg:Hid (pGroup k nest l=none):=by show _=_;unfold pGroup;rw[if_pos h5]
  go_enter Tryz.func140,Tryz.ntmps140
  go_wp2
  go_ret
  rw[Hg.out]
  exact ⟨rfl,⟨_,_,H.out⟩,FP.refl _ _ _⟩
 ·have Hg:Hid (pGroup k nest l=match pAlt k (nest+1) [] l with | none=>none|some (x,r2)=>if headIs 41 r2 then some (x,r2.tail) else none):=by show _=_;unfold pGroup;rw[if_neg h5]
  have Hc:=hide (hC base b (nest+1) t l vs S w H.out HS.out hb hz hS (by omega) hk)
  go_enter Tryz.func140,Tryz.ntmps140
  go_wp2_with fail
  refine (Hc.out).mono ?_
  intro e w1 hx
  cases hp:pAlt k (nest+1) [] l with
  | none =>
    rw[hp]at hx Hg
    obtain ⟨rfl,⟨l',vs',hpa⟩,hf⟩:=hx
    have P1:=hide hpa
    have F1:=hide hf
    clear hpa hf
    go_wp2_with fail
    refine (xtake_any b t l' vs' 41 w1 P1.out).mono ?_
    rintro e w2 ⟨rfl,hp2,hf2⟩
    have P2:=hide hp2
    have F2:=hide (F1.out.frm hf2)
    clear hp2 hf2
    cases tk 41 l'
    all_goals
     go_wp2
     go_ret
     rw[Hg.out]
     exact ⟨rfl,⟨_,_,P2.out⟩,F2.out⟩
  | some x =>
    obtain ⟨x,r⟩:=x
    rw[hp]at hx Hg
    obtain ⟨eb,vs',rfl,hxr,hpa,hbl,hf⟩:=hx
    have X1:=hide hxr
    have P1:=hide hpa
    have B1:=hide hbl
    have F1:=hide hf
    have hbw:b<w.heap.size:=by omega
    have z1:=hf.size
    clear hxr hpa hbl hf
    go_wp2_with fail
    refine (xtake_any b t r vs' 41 w1 P1.out).mono ?_
    rintro e w2 ⟨rfl,hp2,hf2⟩
    have X2:=hide ((X1.out.keep (KeepX.frm hf2 (fun n hn=>⟨hn.2,by simp;omega⟩))).mono (B:=fun n=>w.heap.size≤n∧n<w2.heap.size) (fun n hn=>⟨hn.1,Nat.lt_of_lt_of_le hn.2 hf2.size⟩))
    have B2:=hide (B1.out.frm hf2 (by simp;omega))
    have F2:=hide (F1.out.frm hf2)
    clear hf2
    cases k2:tk 41 r
    ·have P2:=hide hp2
     clear hp2
     rw[tk_head]at k2
     go_wp2
     go_ret
     rw[Hg.out]
     simp only[k2]
     exact ⟨rfl,⟨_,_,P2.out⟩,F2.out⟩
    ·rw[rs_true k2]at hp2
     have P2:=hide hp2
     clear hp2
     rw[tk_head]at k2
     go_wp2
     go_ret
     rw[Hg.out]
     simp only[k2]
     exact ⟨eb,vs',rfl,X2.out,P2.out,B2.out,F2.out⟩
end Go.Proofs.YtjkialjoamgbgaaGreat
