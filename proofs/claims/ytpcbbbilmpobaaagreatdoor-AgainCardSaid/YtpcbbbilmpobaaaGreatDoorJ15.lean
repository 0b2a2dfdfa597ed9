import Derived.Test.YtpcbbbilmpobaaaGreatDoorJ14
import Derived.Test.YtpcbbbilmpobaaaGreatDoorJ4
set_option linter.unusedVariables false
set_option linter.unusedSimpArgs false
set_option linter.unnecessarySimpa false
set_option maxRecDepth 100000
set_option maxHeartbeats 200000
namespace Go.Proofs.YtpcbbbilmpobaaaGreatDoor
open Go.RowKit
theorem fdx_at{L:List (List UInt8)}{x:List UInt8}{j:Nat}(hj:j<L.length)(h:∀ i (hi:i<j),(L[i]==x)=false)(he:(L[j]==x)=true):fdx L x=j:=by
 unfold fdx;rw[List.findIdx_eq hj];exact ⟨he,fun i hi=>h i hi⟩
theorem fdx_none{L:List (List UInt8)}{x:List UInt8}(h:∀ i (hi:i<L.length),(L[i]==x)=false):fdx L x=L.length:=by
 unfold fdx;rw[List.findIdx_eq_length];intro y hy;obtain ⟨i,hi,rfl⟩:=List.mem_iff_getElem.1 hy;exact h i hi
theorem fdx_le(L:List (List UInt8))(x:List UInt8):fdx L x≤L.length:=List.findIdx_le_length
theorem fdt_at{L:List TstM}{x:TstM}{j:Nat}(hj:j<L.length)(h:∀ i (hi:i<j),tEq L[i] x=false)(he:tEq L[j] x=true):fdt L x=j:=by
 unfold fdt;rw[List.findIdx_eq hj];exact ⟨he,fun i hi=>h i hi⟩
theorem fdt_none{L:List TstM}{x:TstM}(h:∀ i (hi:i<L.length),tEq L[i] x=false):fdt L x=L.length:=by
 unfold fdt;rw[List.findIdx_eq_length];intro y hy;obtain ⟨i,hi,rfl⟩:=List.mem_iff_getElem.1 hy;exact h i hi
theorem fdt_le(L:List TstM)(x:TstM):fdt L x≤L.length:=List.findIdx_le_length
def GL(l:List InM):Prop:=∀ i (h:i<l.length),l[i].op=0∨(l[i].op=1∧l[i].a<i)∨(l[i].op=2∧l[i].a<i∧l[i].b<i)
theorem GL.snoc{l:List InM}{x:InM}(h:GL l)(hx:x.op=0∨(x.op=1∧x.a<l.length)∨(x.op=2∧x.a<l.length∧x.b<l.length)):GL (l++[x]):=by
 intro i hi;simp at hi
 by_cases hl:i<l.length
 ·rw[List.getElem_append_left hl];exact h i hl
 ·obtain rfl:i=l.length:=by omega
  simpa using hx
theorem layChk_good{l:List InM}(h:GL l){y n:Nat}(hy:y<l.length)(hn:n<l.length):∀ q:List (Nat × Bool),GL (layChk q y n l).2∧(layChk q y n l).1<(layChk q y n l).2.length∧(layChk q y n l).2.length=l.length+q.length
 | []=>⟨h,hy,rfl⟩
 | c::r=>by
   obtain ⟨h1,h2,h3⟩:=layChk_good h hy hn r;refine ⟨?_,by simp[layChk],by simp[layChk];omega⟩;rw[layChk];refine h1.snoc ?_
   split
   ·exact .inr (.inr ⟨rfl,h2,by show n<_;omega⟩)
   ·exact .inr (.inr ⟨rfl,by show n<_;omega,h2⟩)
def RG(rec:Nat→Nat→List InM→Nat × List InM):Prop:=∀ c d l,GL l→d<l.length→GL (rec c d l).2∧(rec c d l).1<(rec c d l).2.length∧l.length≤(rec c d l).2.length
theorem lay1_good{rec:Nat→Nat→List InM→Nat × List InM}(hr:RG rec)(C:List CR)(q:List (List (Nat × Bool))){d:Nat}{l:List InM}(h:GL l)(hd:d<l.length):∀ K:List Nat,
 GL (lay1 rec C q d l K).2.2∧(lay1 rec C q d l K).1<(lay1 rec C q d l K).2.2.length∧l.length≤(lay1 rec C q d l K).2.2.length∧(∀ b∈(lay1 rec C q d l K).2.1,b<(lay1 rec C q d l K).2.2.length)∧(lay1 rec C q d l K).2.1.length=K.length
 | []=>⟨h,hd,Nat.le_refl _,by simp[lay1],rfl⟩
 | c::r=>by
   obtain ⟨h1,h2,h3,h4,h5⟩:=lay1_good hr C q h hd r;rw[lay1];generalize lay1 rec C q d l r=x at *;obtain ⟨g1,g2,g3⟩:=hr c (if (C[c]?.map (·.co))=some true then x.1 else d) x.2.2 h1 (by split<;>omega);generalize rec c (if (C[c]?.map (·.co))=some true then x.1 else d) x.2.2=b at *;obtain ⟨k1,k2,k3⟩:=layChk_good g1 g2 (by omega:x.1<b.2.length) (q.getD c []);refine ⟨k1,k2,by show l.length≤(layChk _ _ _ _).2.length;omega,?_,by simp[h5]⟩;intro y hy;show y<(layChk _ _ _ _).2.length;rcases List.mem_cons.1 hy with rfl|hy
   ·omega
   ·have:=h4 y hy;omega
theorem lay2_good(q:List (List (Nat × Bool))){first:Nat}{l:List InM}(h:GL l)(hf:first < l.length):∀ Z:List (Nat × Nat),(∀ z∈Z,z.2<l.length)→GL (lay2 q first l Z).2∧(lay2 q first l Z).1<(lay2 q first l Z).2.length∧l.length≤(lay2 q first l Z).2.length
 | [],_=>⟨h,hf,Nat.le_refl _⟩
 | z::r,hz=>by
   obtain ⟨h1,h2,h3⟩:=lay2_good q h hf r (fun y hy=>hz y (by simp[hy]));have:=hz z (by simp);rw[lay2];generalize lay2 q first l r=x at *
   obtain ⟨k1,k2,k3⟩:=layChk_good h1 (by omega:z.2<x.2.length) h2 (q.getD z.1 []);exact ⟨k1,k2,by omega⟩
theorem layR_good(C:List CR)(q:List (List (Nat × Bool))):∀ f,RG (layR C q f)
 | 0=>fun c d l h hd=>⟨h,hd,Nat.le_refl _⟩
 | f+1=>fun r d l h hd=>by
   obtain ⟨h1,h2,h3,h4,h5⟩:=lay1_good (layR_good C q f) C q h hd (kids C r);rw[layR];generalize lay1 (layR C q f) C q d l (kids C r)=x at *;obtain ⟨k1,k2,k3⟩:=lay2_good q (first:=x.2.2.length) (l:=x.2.2++[⟨1,r,d,0⟩]) (h1.snoc (.inr (.inl ⟨rfl,by show d<_;omega⟩))) (by simp) ((kids C r).zip x.2.1) (by
    intro z hz;have:=h4 z.2 (List.of_mem_zip hz).2;simp;omega)
   exact ⟨k1,k2,by simp at k3;omega⟩
theorem numGo_len(l:List InM):∀ i R N c,(numGo l i R N c).length=N.length
 | 0,_,_,_=>rfl
 | i+1,R,N,c=>by
   rw[numGo]
   split
   ·split
    ·rw[numGo_len];simp
    ·rfl
   ·rw[numGo_len];simp
def numT(i:Nat)(R:List Bool)(N:List Int)(t:Nat):Prop:=if t<i then R.getD t false=true else 0≤N.getD t 0
def numP(l:List InM)(i:Nat)(R:List Bool)(N:List Int):Prop:=∀ j x,i≤j→l[j]?=some x→0≤N.getD j 0→(x.op≠0→numT i R N x.a)∧(x.op=2→numT i R N x.b)
theorem getD_set_ne{α:Type}(L:List α)(i j:Nat)(x d:α)(h:i≠j):(L.set i x).getD j d=L.getD j d:=by simp[List.getD,List.getElem?_set_ne h]
theorem getD_set_eq{α:Type}(L:List α)(i:Nat)(x d:α)(h:i<L.length):(L.set i x).getD i d=x:=by simp[List.getD,h]
theorem getD_set_true(R:List Bool)(i j:Nat)(h:R.getD j false=true):(R.set i true).getD j false=true:=by
 by_cases e:i=j
 ·subst e
  have:i<R.length:=by
   rcases Nat.lt_or_ge i R.length with h1|h1
   ·exact h1
   ·simp[List.getD,h1]at h
  exact getD_set_eq R i true false this
 ·rw[getD_set_ne _ _ _ _ _ e];exact h
theorem numGo_spec{l:List InM}(hl:GL l):∀ i (R:List Bool) (N:List Int) (c:Nat),i≤l.length→R.length=l.length→N.length=l.length→numP l i R N→numP l 0 R (numGo l i R N c)
 | 0,R,N,c,_,_,_,h=>h
 | i+1,R,N,c,hi,hR,hN,h=>by
   rw[numGo];obtain ⟨x,hx⟩:∃ x,l[i]?=some x:=⟨l[i],List.getElem?_eq_getElem (by omega)⟩;have hgl:=hl i (by omega);have hx':l[i]'(by omega)=x:=by rw[List.getElem?_eq_getElem (by omega)]at hx;exact Option.some.inj hx
   rw[hx']at hgl
   -- the targets of those behind i,seen one step on
   have step:∀ (R':List Bool) (v:Int),R'.length=l.length→(∀ t,R.getD t false=true→R'.getD t false=true)→(R.getD i false=true→0≤v)→∀ t,numT (i+1) R N t→numT i R' (N.set i v) t:=by
    intro R' v hR' hm hv t ht;unfold numT at ht ⊢
    by_cases h1:t<i
    ·rw[if_pos h1];rw[if_pos (by omega)]at ht;exact hm t ht
    ·rw[if_neg h1]
     by_cases h2:t=i
     ·subst h2
      rw[if_pos (by omega)]at ht;rw[getD_set_eq _ _ _ _ (by omega)];exact hv ht
     ·rw[if_neg (by omega)]at ht
      rw[getD_set_ne _ _ _ _ _ (by omega)];exact ht
   split
   ·rename_i hRi
    simp only[hx];have fin:∀ R':List Bool,R'.length=l.length→(∀ t,R.getD t false=true→R'.getD t false=true)→(x.op≠0→R'.getD x.a false=true)→(x.op=2→R'.getD x.b false=true)→numP l 0 R (numGo l i R' (N.set i (c:Int)) (c+1)):=by
     intro R' hR' hm ha hb;have hP:numP l i R' (N.set i (c:Int)):=by
      intro j y hij hy hN0
      by_cases hj:j=i
      ·subst hj
       rw[hx]at hy;cases hy
       constructor
       ·intro ho
        unfold numT;rw[if_pos (by rcases hgl with h1|h1|h1;exact absurd h1 ho;exact h1.2;exact h1.2.1)];exact ha ho
       ·intro ho
        unfold numT;rw[if_pos (by rcases hgl with h1|h1|h1;omega;omega;exact h1.2.2)];exact hb ho
      ·rw[getD_set_ne _ _ _ _ _ (by omega)]at hN0
       obtain ⟨k1,k2⟩:=h j y (by omega) hy hN0;exact ⟨fun ho=>step R' c hR' hm (fun _=>by omega) _ (k1 ho),fun ho=>step R' c hR' hm (fun _=>by omega) _ (k2 ho)⟩
     have:=numGo_spec hl i R' (N.set i (c:Int)) (c+1) (by omega) hR' (by simp[hN]) hP;intro j y h0 hy hN0;obtain ⟨k1,k2⟩:=this j y h0 hy hN0;exact ⟨fun ho=>by simpa[numT] using k1 ho,fun ho=>by simpa[numT] using k2 ho⟩
    by_cases h0:x.op=0
    ·rw[if_pos h0]
     exact fin R hR (fun t ht=>ht) (fun ho=>absurd h0 ho) (fun ho=>by omega)
    ·rw[if_neg h0]
     have hal:x.a<l.length:=by rcases hgl with h1|h1|h1;exact absurd h1 h0;omega;omega
     by_cases h2:x.op=2
     ·rw[if_pos h2]
      have hbl:x.b<l.length:=by rcases hgl with h1|h1|h1<;>omega
      refine fin _ (by simp[hR]) (fun t ht=>getD_set_true _ _ _ (getD_set_true _ _ _ ht)) (fun _=>getD_set_true _ _ _ (getD_set_eq _ _ _ _ (by omega))) (fun _=>getD_set_eq _ _ _ _ (by simp;omega))
     ·rw[if_neg h2]
      exact fin _ (by simp[hR]) (fun t ht=>getD_set_true _ _ _ ht) (fun _=>getD_set_eq _ _ _ _ (by omega)) (fun ho=>absurd ho h2)
   ·rename_i hRi
    have hP:numP l i R (N.set i (-1)):=by
     intro j y hij hy hN0
     by_cases hj:j=i
     ·subst hj
      rw[getD_set_eq _ _ _ _ (by omega)]at hN0;omega
     ·rw[getD_set_ne _ _ _ _ _ (by omega)]at hN0
      obtain ⟨k1,k2⟩:=h j y (by omega) hy hN0;exact ⟨fun ho=>step R (-1) hR (fun t ht=>ht) (fun hc=>absurd hc hRi) _ (k1 ho),fun ho=>step R (-1) hR (fun t ht=>ht) (fun hc=>absurd hc hRi) _ (k2 ho)⟩
    exact numGo_spec hl i R (N.set i (-1)) c (by omega) hR (by simp[hN]) hP
theorem numsOf_len(l:List InM)(first:Nat):(numsOf l first).length=l.length:=by unfold numsOf;rw[numGo_len];simp
theorem numsOf_spec{l:List InM}(hl:GL l)(first:Nat)(j:Nat)(x:InM)(hj:l[j]?=some x)(h0:0≤(numsOf l first).getD j 0):(x.op≠0→0≤(numsOf l first).getD x.a 0)∧(x.op=2→0≤(numsOf l first).getD x.b 0):=by
 have hP:numP l l.length ((List.replicate l.length false).set first true) (List.replicate l.length 0):=by
  intro j y h1 h2;have:=(List.getElem?_eq_some_iff.1 h2).1;omega
 have:=numGo_spec hl l.length ((List.replicate l.length false).set first true) (List.replicate l.length 0) 0 (Nat.le_refl _) (by simp) (by simp) hP j x (by omega) hj h0;unfold numsOf;simpa[numT] using this
structure NumOK(N:List Int)(i c:Nat):Prop where
 b:∀ j,i≤j→0≤N.getD j (-1)→N.getD j (-1)<c
 d:∀ j j',i≤j→j<j'→0≤N.getD j (-1)→0≤N.getD j' (-1)→N.getD j' (-1)<N.getD j (-1)
 s:∀ k:Nat,k<c→∃ j,i≤j∧N.getD j (-1)=(k:Int)
theorem numGo_num(l:List InM):∀ i (R:List Bool) (N:List Int) (c:Nat),i≤l.length→N.length=l.length→NumOK N i c→∃ c',NumOK (numGo l i R N c) 0 c'
 | 0,R,N,c,_,_,h=>⟨c,h⟩
 | i+1,R,N,c,hi,hN,h=>by
   have hset:∀ (v:Int) (j:Nat),j≠i→(N.set i v).getD j (-1)=N.getD j (-1):=fun v j hj=>getD_set_ne _ _ _ _ _ (fun e=>hj e.symm)
   have heq:∀ v:Int,(N.set i v).getD i (-1)=v:=fun v=>getD_set_eq _ _ _ _ (by omega)
   rw[numGo]
   split
   ·obtain ⟨x,hx⟩:∃ x,l[i]?=some x:=⟨l[i],List.getElem?_eq_getElem (by omega)⟩
    simp only[hx];refine numGo_num l i _ (N.set i (c:Int)) (c+1) (by omega) (by simp[hN]) ⟨?_,?_,?_⟩
    ·intro j hj h0
     by_cases e:j=i
     ·subst e;rw[heq];omega
     ·rw[hset _ _ e]at h0 ⊢
      have:=h.b j (by omega) h0;omega
    ·intro j j' hj hjj h0 h1
     have e':j'≠i:=by omega
     rw[hset _ _ e']at h1 ⊢
     by_cases e:j=i
     ·subst e;rw[heq]
      exact h.b j' (by omega) h1
     ·rw[hset _ _ e]at h0 ⊢
      exact h.d j j' (by omega) hjj h0 h1
    ·intro k hk
     by_cases e:k=c
     ·exact ⟨i,Nat.le_refl _,by rw[heq,e]⟩
     ·obtain ⟨j,hj,hjk⟩:=h.s k (by omega)
      exact ⟨j,by omega,by rw[hset _ _ (by omega)];exact hjk⟩
   ·refine numGo_num l i R (N.set i (-1)) c (by omega) (by simp[hN]) ⟨?_,?_,?_⟩
    ·intro j hj h0
     by_cases e:j=i
     ·subst e;rw[heq]at h0;omega
     ·rw[hset _ _ e]at h0 ⊢
      exact h.b j (by omega) h0
    ·intro j j' hj hjj h0 h1
     have e':j'≠i:=by omega
     rw[hset _ _ e']at h1 ⊢
     by_cases e:j=i
     ·subst e;rw[heq]at h0;omega
     ·rw[hset _ _ e]at h0 ⊢
      exact h.d j j' (by omega) hjj h0 h1
    ·intro k hk
     obtain ⟨j,hj,hjk⟩:=h.s k hk;exact ⟨j,by omega,by rw[hset _ _ (by omega)];exact hjk⟩
theorem numsOf_num(l:List InM)(first:Nat):∃ c,NumOK (numsOf l first) 0 c:=by
 unfold numsOf;refine numGo_num l l.length _ _ 0 (Nat.le_refl _) (by simp) ⟨?_,?_,?_⟩
 ·intro j hj h0
  rw[List.getD_eq_getElem?_getD,List.getElem?_eq_none (by simpa using hj)]at h0;simp at h0
 ·intro j j' hj _ h0
  rw[List.getD_eq_getElem?_getD,List.getElem?_eq_none (by simpa using hj)]at h0;simp at h0
 ·intro k hk;omega
theorem numGo_hi{l:List InM}(hl:GL l)(first:Nat):∀ i (R:List Bool) (N:List Int) (c:Nat),i≤l.length→N.length=l.length→(∀ j,first < j→j<i→R.getD j false=false)→(∀ j,first < j→i≤j→N.getD j (-1)<0)→∀ j,first < j→(numGo l i R N c).getD j (-1)<0
 | 0,R,N,c,_,_,_,h=>fun j hj=>h j hj (by omega)
 | i+1,R,N,c,hi,hN,hR,h=>by
   rw[numGo]
   split
   ·rename_i hRi
    obtain ⟨x,hx⟩:∃ x,l[i]?=some x:=⟨l[i],List.getElem?_eq_getElem (by omega)⟩;have hif:i≤first:=by
     rcases Nat.lt_or_ge first i with h1|h1
     ·rw[hR i h1 (by omega)]at hRi;cases hRi
     ·exact h1
    simp only[hx];have hgl:=hl i (by omega);have hx':l[i]'(by omega)=x:=by rw[List.getElem?_eq_getElem (by omega)]at hx;exact Option.some.inj hx
    rw[hx']at hgl;refine numGo_hi hl first i _ _ _ (by omega) (by simp[hN]) (fun j hj hji=>by omega) (fun j hj hij=>?_)
    rw[getD_set_ne _ _ _ _ _ (by omega)];exact h j hj (by omega)
   ·refine numGo_hi hl first i _ _ _ (by omega) (by simp[hN]) (fun j hj hji=>hR j hj (by omega)) (fun j hj hij=>?_)
    by_cases e:j=i
    ·subst e;rw[getD_set_eq _ _ _ _ (by omega)];omega
    ·rw[getD_set_ne _ _ _ _ _ (by omega)]
     exact h j hj (by omega)
theorem numsOf_hi{l:List InM}(hl:GL l)(first:Nat):∀ j,first < j→(numsOf l first).getD j (-1)<0:=by
 unfold numsOf;refine numGo_hi hl first l.length _ _ 0 (Nat.le_refl _) (by simp) (fun j hj hjl=>?_) (fun j hj hjl=>?_)
 ·rw[getD_set_ne _ _ _ _ _ (by omega)]
  simp[List.getD,hjl]
 ·rw[List.getD_eq_getElem?_getD,List.getElem?_eq_none (by simpa using hjl)]
  simp
structure TurnOK(l:List InM)(N:List Int)(i:Nat)(out:List InM):Prop where
 a:∀ (j:Nat) (x:InM),i≤j→l[j]?=some x→0≤N.getD j (-1)→out[(N.getD j (-1)).toNat]?=some (turnI N x)
 s:∀ k:Nat,k<out.length→∃ j,i≤j∧N.getD j (-1)=(k:Int)
 b:∀ j,i≤j→0≤N.getD j (-1)→N.getD j (-1)<out.length
theorem getD_any(N:List Int)(j:Nat)(h:j<N.length):N.getD j 0=N.getD j (-1):=by simp[List.getD,h]
theorem turnGo_ok{l:List InM}{N:List Int}{c:Nat}(hN:NumOK N 0 c)(hl:N.length=l.length):∀ i out,i≤l.length→TurnOK l N i out→TurnOK l N 0 (turnGo l N i out)
 | 0,out,_,h=>h
 | i+1,out,hi,h=>by
   rw[turnGo,getD_any N i (by omega)]
   split
   ·rename_i hneg
    refine turnGo_ok hN hl i out (by omega) ⟨?_,?_,?_⟩
    ·intro j x hj hx h0
     by_cases e:j=i
     ·subst e;omega
     ·exact h.a j x (by omega) hx h0
    ·intro k hk
     obtain ⟨j,hj,hjk⟩:=h.s k hk;exact ⟨j,by omega,hjk⟩
    ·intro j hj h0
     by_cases e:j=i
     ·subst e;omega
     ·exact h.b j (by omega) h0
   ·rename_i hpos
    obtain ⟨x,hx⟩:∃ x,l[i]?=some x:=⟨l[i],List.getElem?_eq_getElem (by omega)⟩;simp only[hx];have h0:0≤N.getD i (-1):=by omega
    have hlen:N.getD i (-1)=(out.length:Int):=by
     rcases Int.lt_trichotomy (N.getD i (-1)) (out.length:Int) with h1|h1|h1
     ·obtain ⟨k,hk⟩:=Int.eq_ofNat_of_zero_le h0
      obtain ⟨j,hj,hjk⟩:=h.s k (by omega);have:=hN.d i j (by omega) (by omega) h0 (by rw[hjk];omega);omega
     ·exact h1
     ·obtain ⟨j,_,hjk⟩:=hN.s out.length (by have:=hN.b i (by omega) h0;omega)
      rcases Nat.lt_trichotomy j i with e|e|e
      ·have:=hN.d j i (by omega) e (by rw[hjk];omega) h0
       omega
      ·subst e;omega
      ·have:=h.b j (by omega) (by rw[hjk];omega)
       omega
    refine turnGo_ok hN hl i _ (by omega) ⟨?_,?_,?_⟩
    ·intro j y hj hy hj0
     by_cases e:j=i
     ·subst e
      rw[hx]at hy;cases hy;rw[hlen];simp
     ·have h3:=h.a j y (by omega) hy hj0
      have h4:=(List.getElem?_eq_some_iff.1 h3).1;rw[List.getElem?_append_left h4];exact h3
    ·intro k hk
     simp at hk
     by_cases e:k=out.length
     ·exact ⟨i,Nat.le_refl _,by rw[hlen,e]⟩
     ·obtain ⟨j,hj,hjk⟩:=h.s k (by omega)
      exact ⟨j,by omega,hjk⟩
    ·intro j hj hj0
     simp only[List.length_append,List.length_singleton]
     by_cases e:j=i
     ·subst e;omega
     ·have:=h.b j (by omega) hj0
      omega
def GXi(nr nt:Nat)(x:InM):Prop:=(x.op=0∧x.x=0∧x.a=0∧x.b=0)∨(x.op=1∧x.x<nr∧x.b=0)∨(x.op=2∧x.x<nt)
def GXl(nr nt:Nat)(l:List InM):Prop:=∀ x∈l,GXi nr nt x
theorem GXl.snoc{nr nt:Nat}{l:List InM}{x:InM}(h:GXl nr nt l)(hx:GXi nr nt x):GXl nr nt (l++[x]):=by
 intro y hy;rcases List.mem_append.1 hy with hy|hy
 ·exact h y hy
 ·rw[List.mem_singleton.1 hy];exact hx
theorem layChk_gx{nr nt:Nat}{l:List InM}(h:GXl nr nt l)(y n:Nat):∀ q:List (Nat × Bool),(∀ c∈q,c.1<nt)→GXl nr nt (layChk q y n l).2
 | [],_=>h
 | c::r,hq=>by
   rw[layChk];refine (layChk_gx h y n r (fun x hx=>hq x (by simp[hx]))).snoc ?_;have:=hq c (by simp)
   split<;>exact .inr (.inr ⟨rfl,this⟩)
theorem getD_tests{nt:Nat}{q:List (List (Nat × Bool))}(hq:∀ x∈q,∀ c∈x,c.1<nt)(k:Nat):∀ c∈q.getD k [],c.1<nt:=by
 intro c hc
 by_cases h:k<q.length
 ·rw[List.getD_eq_getElem?_getD,List.getElem?_eq_getElem h]at hc
  exact hq _ (List.getElem_mem h) c hc
 ·rw[List.getD_eq_getElem?_getD,List.getElem?_eq_none (by omega)]at hc
  simp at hc
theorem lay1_gx{nr nt:Nat}{rec:Nat→Nat→List InM→Nat × List InM}(K0:List Nat)(hr:∀ c∈K0,∀ d l,GXl nr nt l→GXl nr nt (rec c d l).2)(C:List CR){q:List (List (Nat × Bool))}(hq:∀ x∈q,∀ c∈x,c.1<nt)(d:Nat){l:List InM}(h:GXl nr nt l):∀ K:List Nat,(∀ c∈K,c∈K0)→GXl nr nt (lay1 rec C q d l K).2.2
 | [],_=>h
 | c::r,hK=>by
   rw[lay1];exact layChk_gx (hr c (hK c (by simp)) _ _ (lay1_gx K0 hr C hq d h r (fun x hx=>hK x (by simp[hx])))) _ _ _ (getD_tests hq c)
theorem lay2_gx{nr nt:Nat}{q:List (List (Nat × Bool))}(hq:∀ x∈q,∀ c∈x,c.1<nt)(first:Nat){l:List InM}(h:GXl nr nt l):∀ Z:List (Nat × Nat),GXl nr nt (lay2 q first l Z).2
 | []=>h
 | z::r=>by
   rw[lay2];exact layChk_gx (lay2_gx hq first h r) _ _ _ (getD_tests hq z.1)
theorem layR_gx{nt:Nat}(C:List CR){q:List (List (Nat × Bool))}(hq:∀ x∈q,∀ c∈x,c.1<nt):∀ f r d l,r<C.length→GXl C.length nt l→GXl C.length nt (layR C q f r d l).2
 | 0,_,_,_,_,h=>h
 | f+1,r,d,l,hr,h=>by
   rw[layR];refine lay2_gx hq _ (GXl.snoc ?_ (.inr (.inl ⟨rfl,hr,rfl⟩))) _;refine lay1_gx (kids C r) (fun c hc d l hl=>layR_gx C hq f c d l ?_ hl) C hq d h (kids C r) (fun c hc=>hc);unfold kids at hc;rw[List.mem_filter,List.mem_range]at hc;exact hc.1
theorem turnM_ok{nr nt:Nat}{l:List InM}(hl:GL l)(hx:GXl nr nt l)(first:Nat)(hf:first < l.length):∀ k (h:k<(turnM l first).length),stands nr nt (turnM l first).length k (turnM l first)[k]=true:=by
 obtain ⟨c,hN⟩:=numsOf_num l first
 have hlen:=numsOf_len l first
 have hsp:=numsOf_spec hl first
 have hhi:=numsOf_hi hl first
 have hT:TurnOK l (numsOf l first) 0 (turnM l first):=by
  refine turnGo_ok hN hlen (first + 1) [] (by omega) ⟨fun j x hj _ h0=>?_,fun k hk=>by simp at hk,fun j hj h0=>?_⟩
  ·have:=hhi j (by omega);omega
  ·have:=hhi j (by omega);omega
 generalize numsOf l first=N at *
 generalize turnM l first=out at *
 intro k hk;obtain ⟨j,_,hjk⟩:=hT.s k hk;have hj:j<N.length:=by
  rcases Nat.lt_or_ge j N.length with h1|h1
  ·exact h1
  ·rw[List.getD_eq_getElem?_getD,List.getElem?_eq_none h1]at hjk
   simp at hjk
 have hjl:l[j]?=some l[j]:=List.getElem?_eq_getElem (by omega);have ho:=hT.a j _ (by omega) hjl (by omega);rw[hjk,Int.toNat_natCast,List.getElem?_eq_getElem hk]at ho;rw[Option.some.inj ho];have hg:=hl j (by omega);have hxx:=hx l[j] (List.getElem_mem _);obtain ⟨s1,s2⟩:=hsp j _ hjl (by rw[getD_any N j hj];omega);generalize l[j]=y at *;obtain ⟨op,xn,a,b⟩:=y;simp only[GXi]at hxx;simp only at hg s1 s2;have tgt:∀ t,t<j→0≤N.getD t 0→k<(N.getD t 0).toNat∧(N.getD t 0).toNat<out.length:=by
  intro t ht h0;rw[getD_any N t (by omega)]at h0 ⊢;have h1:=hN.d t j (by omega) ht h0 (by omega);have h2:=hT.b t (by omega) h0;omega
 rcases hxx with ⟨rfl,rfl,rfl,rfl⟩|⟨rfl,h1,rfl⟩|⟨rfl,h1⟩
 ·simp[turnI,stands]
 ·have ha:=tgt a (by omega) (s1 (by omega))
  simp only[turnI,stands];generalize (N.getD a 0).toNat=ta at *;simp[h1,ha]
 ·have ha:=tgt a (by omega) (s1 (by omega))
  have hb:=tgt b (by omega) (s2 rfl);simp only[turnI,stands];generalize (N.getD a 0).toNat=ta at *;generalize (N.getD b 0).toNat=tb at *;simp[h1,ha,hb]
theorem nodup_le:∀ (n:Nat) (l:List Nat),l.Nodup→(∀ x∈l,x<n)→l.length≤n
 | 0,l,_,h=>by
   cases l with
   | nil=>simp
   | cons a r=>have:=h a (by simp);omega
 | n+1,l,hd,h=>by
   by_cases hm:n∈l
   ·have h1:=nodup_le n (l.erase n) (hd.erase n) (fun x hx=>by
     have h2:=h x (List.mem_of_mem_erase hx);have h3:x≠n:=fun e=>by subst e;exact hd.not_mem_erase hx
     omega)
    rw[List.length_erase_of_mem hm]at h1;omega
   ·have h1:=nodup_le n l hd (fun x hx=>by
     have h2:=h x hx;have h3:x≠n:=fun e=>by subst e;exact hm hx
     omega)
    omega
theorem layChk_len'(y n:Nat)(l:List InM):∀ q:List (Nat × Bool),(layChk q y n l).2.length=l.length+q.length
 | []=>rfl
 | c::r=>by simp[layChk,layChk_len' y n l r];omega
def cntR(C:List CR)(q:List (List (Nat × Bool))):Nat→Nat→Nat
 | 0,_=>0
 | f+1,r=>1+((kids C r).map fun c=>cntR C q f c+2*(q.getD c []).length).sum
theorem lay1_len{rec:Nat→Nat→List InM→Nat × List InM}{g:Nat→Nat}(hr:∀ c d l,(rec c d l).2.length=l.length+g c)(C:List CR)(q:List (List (Nat × Bool)))(d:Nat)(l:List InM):∀ K:List Nat,(lay1 rec C q d l K).2.2.length=l.length+(K.map fun c=>g c+(q.getD c []).length).sum∧(lay1 rec C q d l K).2.1.length=K.length
 | []=>⟨by simp[lay1],rfl⟩
 | c::r=>by
   obtain ⟨h1,h2⟩:=lay1_len hr C q d l r;rw[lay1];refine ⟨?_,by simp[h2]⟩;show (layChk _ _ _ _).2.length=_;rw[layChk_len',hr,h1];simp only[List.map_cons,List.sum_cons];omega
theorem lay2_len(q:List (List (Nat × Bool)))(first:Nat)(l:List InM):∀ (K bg:List Nat),bg.length=K.length→(lay2 q first l (K.zip bg)).2.length=l.length+(K.map fun c=>(q.getD c []).length).sum
 | [],_,_=>by simp[lay2]
 | c::r,[],h=>by simp at h
 | c::r,b::bg,h=>by
   have h1:=lay2_len q first l r bg (by simpa using h)
   rw[List.zip_cons_cons,lay2,layChk_len',h1];simp only[List.map_cons,List.sum_cons];omega
theorem sum_two(f g:Nat→Nat):∀ K:List Nat,(K.map f).sum+(K.map g).sum=(K.map fun c=>f c+g c).sum
 | []=>rfl
 | c::r=>by
   have:=sum_two f g r;simp only[List.map_cons,List.sum_cons];omega
theorem layR_len(C:List CR)(q:List (List (Nat × Bool))):∀ f r d l,(layR C q f r d l).2.length=l.length+cntR C q f r
 | 0,_,_,l=>by simp[layR,cntR]
 | f+1,r,d,l=>by
   obtain ⟨h1,h2⟩:=lay1_len (layR_len C q f) C q d l (kids C r);rw[layR];generalize lay1 (layR C q f) C q d l (kids C r)=x at *;show (lay2 _ _ _ _).2.length=_;rw[lay2_len q _ _ (kids C r) x.2.1 h2,List.length_append,h1,cntR];have h3:=sum_two (fun c=>cntR C q f c+(q.getD c []).length) (fun c=>(q.getD c []).length) (kids C r);have h4:(kids C r).map (fun c=>cntR C q f c+2*(q.getD c []).length)=(kids C r).map fun c=>cntR C q f c+(q.getD c []).length+(q.getD c []).length:=by
    congr 1;funext c;omega
   rw[h4,← h3];simp only[List.length_singleton];omega
theorem kids_nodup(C:List CR)(r:Nat):(kids C r).Nodup:=by
 unfold kids;exact List.Pairwise.filter _ List.nodup_range
theorem mem_kids'{C:List CR}{r c:Nat}(h:c∈kids C r):c<C.length∧par C c=some r:=by
 unfold kids at h;rw[List.mem_filter,List.mem_range]at h;simp at h;exact ⟨h.1,h.2.2⟩
theorem level_nodup(C:List CR)(K:List Nat)(h:K.Nodup):(K.flatMap (kids C)).Nodup:=by
 unfold List.Nodup at *;rw[List.pairwise_flatMap];refine ⟨fun a _=>kids_nodup C a,h.imp ?_⟩;intro a b hab x hx y hy e;subst e;have h1:=(mem_kids' hx).2;have h2:=(mem_kids' hy).2;rw[h1]at h2;exact hab (Option.some.inj h2)
theorem sum_le(f:Nat→Nat)(m:Nat):∀ K:List Nat,(∀ c∈K,f c≤m)→(K.map f).sum≤K.length*m
 | [],_=>by simp
 | c::r,h=>by
   have h1:=sum_le f m r (fun x hx=>h x (by simp[hx]));have h2:=h c (by simp);simp only[List.map_cons,List.sum_cons,List.length_cons,Nat.add_mul];omega
theorem sum_level(C:List CR)(g:Nat→Nat):∀ K:List Nat,(K.map fun r=>1+((kids C r).map g).sum).sum=K.length+((K.flatMap (kids C)).map g).sum
 | []=>rfl
 | c::r=>by
   have:=sum_level C g r;simp only[List.map_cons,List.sum_cons,List.flatMap_cons,List.map_append,List.sum_append,List.length_cons];omega
theorem cntR_le{C:List CR}(hC:C.length≤16){q:List (List (Nat × Bool))}(hq:∀ x∈q,x.length≤4):∀ (f:Nat) (K:List Nat),K.Nodup→(∀ c∈K,c<C.length)→(K.map (cntR C q f)).sum≤f*144
 | 0,K,_,_=>by
   have:=sum_le (cntR C q 0) 0 K (fun c _=>by simp[cntR]);simpa using this
 | f+1,K,hd,hK=>by
   have h1:=cntR_le hC hq f (K.flatMap (kids C)) (level_nodup C K hd) (fun c hc=>by
    obtain ⟨r,_,h2⟩:=List.mem_flatMap.1 hc;exact (mem_kids' h2).1)
   have hl:=nodup_le C.length K hd hK;have hl2:=nodup_le C.length (K.flatMap (kids C)) (level_nodup C K hd) (fun c hc=>by
    obtain ⟨r,_,h2⟩:=List.mem_flatMap.1 hc;exact (mem_kids' h2).1)
   have e:(K.map (cntR C q (f+1)))=K.map fun r=>1+((kids C r).map fun c=>cntR C q f c+2*(q.getD c []).length).sum:=rfl
   rw[e,sum_level C (fun c=>cntR C q f c+2*(q.getD c []).length),← sum_two];have h3:=sum_le (fun c=>2*(q.getD c []).length) 8 (K.flatMap (kids C)) (fun c _=>by
    by_cases h:c<q.length
    ·have:=hq q[c] (List.getElem_mem h)
     simp[List.getD,h];omega
    ·simp[List.getD,h])
   rw[Nat.add_mul];omega
theorem laid_short{C:List CR}(hC:C.length≤16)(hne:0<C.length){q:List (List (Nat × Bool))}(hq:∀ x∈q,x.length≤4):(layR C q 6 0 0 [⟨0,0,0,0⟩]).2.length≤865:=by
 rw[layR_len];have:=cntR_le hC hq 6 [0] (by simp) (by simpa using hne);simp at this ⊢;omega
theorem numGo_keep(l:List InM)(first:Nat):∀ i (R:List Bool) (N:List Int) (c:Nat),i≤first→0≤N.getD first (-1)→0≤(numGo l i R N c).getD first (-1)
 | 0,R,N,c,_,h=>h
 | i+1,R,N,c,hi,h=>by
   rw[numGo]
   split
   ·split
    ·exact numGo_keep l first i _ _ _ (by omega) (by rw[getD_set_ne _ _ _ _ _ (by omega)];exact h)
    ·exact h
   ·exact numGo_keep l first i _ _ _ (by omega) (by rw[getD_set_ne _ _ _ _ _ (by omega)];exact h)
theorem numGo_first(l:List InM)(first:Nat)(hf:first < l.length):∀ i (R:List Bool) (N:List Int) (c:Nat),first < i→i≤l.length→N.length=l.length→R.length=l.length→R.getD first false=true→0≤(numGo l i R N c).getD first (-1)
 | 0,R,N,c,h,_,_,_,_=>by omega
 | i+1,R,N,c,h,hi,hN,hR,h1=>by
   rw[numGo]
   by_cases e:first=i
   ·subst e
    rw[if_pos h1,List.getElem?_eq_getElem hf];exact numGo_keep l first first _ _ _ (Nat.le_refl _) (by rw[getD_set_eq _ _ _ _ (by omega)];omega)
   ·split
    ·rw[List.getElem?_eq_getElem (by omega)]
     refine numGo_first l first hf i _ _ _ (by omega) (by omega) (by simp[hN]) (by split;exact hR;split;simp[hR];simp[hR]) ?_
     split
     ·exact h1
     ·split
      ·exact getD_set_true _ _ _ (getD_set_true _ _ _ h1)
      ·exact getD_set_true _ _ _ h1
    ·exact numGo_first l first hf i _ _ _ (by omega) (by omega) (by simp[hN]) hR h1
theorem turnGo_le(l:List InM)(N:List Int):∀ i out,(turnGo l N i out).length≤out.length+i
 | 0,out=>by simp[turnGo]
 | i+1,out=>by
   rw[turnGo]
   split
   ·have:=turnGo_le l N i out;omega
   ·split
    ·rename_i x _
     have:=turnGo_le l N i (out++[turnI N x]);simp only[List.length_append,List.length_singleton]at this;refine Nat.le_trans this (by omega)
    ·omega
theorem turnM_len{l:List InM}(hl:GL l)(first:Nat)(hf:first < l.length):1≤(turnM l first).length∧(turnM l first).length≤l.length:=by
 refine ⟨?_,?_⟩
 ·obtain ⟨c,hN⟩:=numsOf_num l first
  have hlen:=numsOf_len l first
  have hhi:=numsOf_hi hl first
  have h0:0≤(numsOf l first).getD first (-1):=by
   unfold numsOf;exact numGo_first l first hf l.length _ _ 0 hf (Nat.le_refl _) (by simp) (by simp) (getD_set_eq _ _ _ _ (by simpa using hf))
  have hT:TurnOK l (numsOf l first) 0 (turnM l first):=by
   refine turnGo_ok hN hlen (first + 1) [] (by omega) ⟨fun j x hj _ h0=>?_,fun k hk=>by simp at hk,fun j hj h0=>?_⟩
   ·have:=hhi j (by omega);omega
   ·have:=hhi j (by omega);omega
  have:=hT.b first (by omega) h0
  omega
 ·have:=turnGo_le l (numsOf l first) (first + 1) []
  unfold turnM;simp at this;omega
structure RD where
 ty:TypeId
 k:Nat
 v:Value
 vs:List (List Value)
structure RWS(base:Nat)(w:World)(rs:List RD):Prop where
 o:∀ (i:Nat) (r:RD),rs[i]?=some r→OW r.ty r.k base w r.v r.vs
 d:∀ (i j:Nat) (r s:RD),i≠j→rs[i]?=some r→rs[j]?=some s→∀ g,r.v.ownBlock=some g→s.v.ownBlock≠some g
def owns(rs:List RD):List Nat:=rs.flatMap fun r=>r.v.ownBlock.toList
theorem mem_owns{rs:List RD}{g:Nat}:g∈owns rs↔∃ (i:Nat) (r:RD),rs[i]?=some r∧r.v.ownBlock=some g:=by
 unfold owns;rw[List.mem_flatMap]
 constructor
 ·rintro ⟨r,hr,hg⟩
  obtain ⟨i,hi,rfl⟩:=List.mem_iff_getElem.1 hr;exact ⟨i,rs[i],List.getElem?_eq_getElem hi,by simpa using hg⟩
 ·rintro ⟨i,r,hi,hg⟩
  exact ⟨r,List.mem_of_getElem? hi,by simp[hg]⟩
theorem OW.farG{e:TypeId}{k base:Nat}{w w':World}{v:Value}{vs:List (List Value)}{row:Option Nat}(h:OW e k base w v vs)(hg:w.grownBy w' row)(hb:∀ g,row=some g→v.ownBlock≠some g):OW e k base w' v vs:=by
 refine ⟨⟨h.1.1,?_⟩,h.2⟩;rcases h.1.2 with hn|⟨g,cap,cur,rfl,hbg,hgg,rest⟩
 ·exact .inl hn
 ·refine .inr ⟨g,cap,cur,rfl,hbg,?_,rest⟩
  rw[hg.block g (Array.getElem?_eq_some_iff.1 hgg).1 (fun e=>hb g e.symm rfl)];exact hgg
theorem RWS.frm{base:Nat}{S:List Nat}{w w':World}{rs:List RD}(h:RWS base w rs)(f:Frm S w w')(hS:∀ g∈S,g<base):RWS base w' rs:=⟨fun i r hr=>(h.o i r hr).frm f hS,h.d⟩
theorem RWS.grow{base gg:Nat}{w w':World}{rs:List RD}(h:RWS base w rs)(i:Nat){r r':RD}(hi:rs[i]?=some r)(hg:w.grownBy w' r.v.ownBlock)(ho:OW r'.ty r'.k base w' r'.v r'.vs)(hb:r'.v.ownBlock=some gg)(ha:r.v.ownBlock=some gg∨gg=w.heap.size):RWS base w' (rs.set i r'):=by
 have hil:i<rs.length:=(List.getElem?_eq_some_iff.1 hi).1;have get:∀ (j:Nat) (s:RD),(rs.set i r')[j]?=some s→(j=i∧s=r')∨(j≠i∧rs[j]?=some s):=by
  intro j s hs
  by_cases e:j=i
  ·subst e
   rw[List.getElem?_set_self hil]at hs;exact .inl ⟨rfl,(Option.some.inj hs).symm⟩
  ·rw[List.getElem?_set_ne (fun h=>e h.symm)]at hs
   exact .inr ⟨e,hs⟩
 have nw:∀ (j:Nat) (s:RD),j≠i→rs[j]?=some s→s.v.ownBlock≠some gg:=by
  intro j s hj hs e;rcases ha with ha|ha
  ·exact h.d i j r s (fun k=>hj k.symm) hi hs gg ha e
  ·have:=(h.o j s hs).lt e;omega
 refine ⟨fun j s hs=>?_,fun j k a b hjk hj hk g hga=>?_⟩
 ·rcases get j s hs with ⟨_,rfl⟩|⟨hj,hs⟩
  ·exact ho
  ·exact (h.o j s hs).farG hg (fun g hr=>h.d i j r s (fun k=>hj k.symm) hi hs g hr)
 ·rcases get j a hj with ⟨rfl,rfl⟩|⟨hj1,hj2⟩<;>rcases get k b hk with ⟨rfl,rfl⟩|⟨hk1,hk2⟩
  ·exact absurd rfl hjk
  ·rw[hb]at hga;cases hga;exact nw k b hk1 hk2
  ·intro e;rw[hb]at e;cases e;exact nw j a hj1 hj2 hga
  ·exact h.d j k a b hjk hj2 hk2 g hga
theorem RowI.turn{α:Type}{I:Inn α}{A B:List Nat}{gg:Nat}{w w':World}{row:Option Nat}{css:List (Array Value)}{xs:List α}(h:RowI I A w css xs)(hg:w.grownBy w' row)(hr:∀ r,row=some r→r∈A)(ha:row=some gg∨gg=w.heap.size)(hB:∀ g∈B,g∈A∨g=gg):RowI I B w' css xs:=by
 have h1:RowI I (A++[w.heap.size]) w css xs:=h.avoid (by intro g hm;simp at hm;rcases hm with hm|hm;exact .inl hm;exact .inr (by omega));have h2:RowI I (A++[w.heap.size]) w' css xs:=h1.frm (S:=row.toList) ((Frm.refl row.toList w).grown hg (fun r hr=>.inl (by simp[hr]))) (by intro g hm;simp at hm;simp[hr g hm]);refine h2.avoid (fun g hm=>.inl ?_);rcases hB g hm with hm|rfl
 ·simp[hm]
 ·rcases ha with ha|ha
  ·simp[hr _ ha]
  ·simp[ha]
def cc(L:List (Nat × Bool)):List (List Value):=L.map fun c=>[.int .i64 (c.1:Nat), .bool c.2]
theorem cc_len(L:List (Nat × Bool)):(cc L).length=L.length:=by simp[cc]
theorem cc_snoc(L:List (Nat × Bool))(c:Nat × Bool):cc L++[[.int .i64 (c.1:Nat), .bool c.2]]=cc (L++[c]):=by simp[cc]
def conI:Inn (List (Nat × Bool)) where
 rel A w cs x:=∃ vb,cs=#[vb]∧RW A 2 w vb (cc x)
 frm:=by
  rintro A S w w' cs x ⟨vb,h1,h2⟩ f hS;exact ⟨vb,h1,h2.frm f hS⟩
 avoid:=by
  rintro A B w cs x ⟨vb,h1,h2⟩ hB;exact ⟨vb,h1,h2.avoid hB⟩
structure KG(Z:List Nat)(w0:World)(kb:Nat)(w:World)(rs:List RD)(ca:List (Array Value))(sa:List AutM)(cq:List (Array Value))(sq:List (List (Nat × Bool))):Prop where
 fr:Frm [kb] w0 w
 lo:kb<w0.heap.size
 rw:RWS w0.heap.size w rs
 ai:RowI autI (Z++kb::owns rs) w ca sa
 qi:RowI conI (Z++kb::owns rs) w cq sq
theorem KG.frm{Z:List Nat}{w0:World}{kb:Nat}{S:List Nat}{w w':World}{rs:List RD}{ca:List (Array Value)}{sa:List AutM}{cq:List (Array Value)}{sq:List (List (Nat × Bool))}(h:KG Z w0 kb w rs ca sa cq sq)(f:Frm S w w')(hS:∀ g∈S,g=kb):KG Z w0 kb w' rs ca sa cq sq :=
 ⟨h.fr.over f (fun x hx=>.inr (by simp[hS x hx])),h.lo,h.rw.frm f (fun g hg=>by rw[hS g hg];exact h.lo),h.ai.frm f (fun g hg=>by simp[hS g hg]),h.qi.frm f (fun g hg=>by simp[hS g hg])⟩
theorem KG.addZ{Z:List Nat}{w0:World}{kb:Nat}{w:World}{rs:List RD}{ca:List (Array Value)}{sa:List AutM}{cq:List (Array Value)}{sq:List (List (Nat × Bool))}(h:KG Z w0 kb w rs ca sa cq sq){b:Nat}(hb:w.heap.size≤b):KG (b::Z) w0 kb w rs ca sa cq sq :=
 ⟨h.fr,h.lo,h.rw,h.ai.avoid (fun g hg=>by simp at hg ⊢;rcases hg with rfl|hg;exact .inr hb;exact .inl hg),h.qi.avoid (fun g hg=>by simp at hg ⊢;rcases hg with rfl|hg;exact .inr hb;exact .inl hg)⟩
theorem KG.lessZ{Z:List Nat}{w0:World}{kb:Nat}{w:World}{rs:List RD}{ca:List (Array Value)}{sa:List AutM}{cq:List (Array Value)}{sq:List (List (Nat × Bool))}{b:Nat}(h:KG (b::Z) w0 kb w rs ca sa cq sq):KG Z w0 kb w rs ca sa cq sq :=
 ⟨h.fr,h.lo,h.rw,h.ai.avoid (fun g hg=>.inl (by simp at hg ⊢;exact .inr hg)),h.qi.avoid (fun g hg=>.inl (by simp at hg ⊢;exact .inr hg))⟩
theorem KG.off{Z:List Nat}{w0:World}{kb:Nat}{S:List Nat}{w w':World}{rs:List RD}{ca:List (Array Value)}{sa:List AutM}{cq:List (Array Value)}{sq:List (List (Nat × Bool))}(h:KG Z w0 kb w rs ca sa cq sq)(f:Frm S w w')(hZ:∀ g∈S,g∈Z)(h0:∀ g∈S,w0.heap.size≤g)(ho:∀ g∈S,g∉owns rs):KG Z w0 kb w' rs ca sa cq sq:=by
 refine ⟨h.fr.over f (fun x hx=>.inl (h0 x hx)),h.lo,⟨fun i r hr=>?_,h.rw.d⟩,h.ai.frm f (fun g hg=>by simp[hZ g hg]),h.qi.frm f (fun g hg=>by simp[hZ g hg])⟩;have ow:=h.rw.o i r hr;refine ⟨⟨ow.1.1,?_⟩,ow.2⟩;rcases ow.1.2 with hn|⟨g,cap,cur,e,hbg,hgg,rest⟩
 ·exact .inl hn
 ·refine .inr ⟨g,cap,cur,e,hbg,?_,rest⟩
  rw[f.block g (Array.getElem?_eq_some_iff.1 hgg).1 (fun hm=>ho g hm (mem_owns.2 ⟨i,r,hr,by rw[e];rfl⟩))];exact hgg
theorem KG.grow{Z:List Nat}{w0:World}{kb gg:Nat}{w w':World}{rs:List RD}{ca:List (Array Value)}{sa:List AutM}{cq:List (Array Value)}{sq:List (List (Nat × Bool))}(h:KG Z w0 kb w rs ca sa cq sq)(i:Nat){r r':RD}(hi:rs[i]?=some r)(hg:w.grownBy w' r.v.ownBlock)(ho:OW r'.ty r'.k w0.heap.size w' r'.v r'.vs)(hb:r'.v.ownBlock=some gg)(ha:r.v.ownBlock=some gg∨gg=w.heap.size):KG Z w0 kb w' (rs.set i r') ca sa cq sq:=by
 have hil:i<rs.length:=(List.getElem?_eq_some_iff.1 hi).1;have hr:∀ g,r.v.ownBlock=some g→g∈Z++kb::owns rs:=fun g e=>List.mem_append.2 (.inr (List.mem_cons.2 (.inr (mem_owns.2 ⟨i,r,hi,e⟩))))
 have hB:∀ g∈Z++kb::owns (rs.set i r'),g∈Z++kb::owns rs∨g=gg:=by
  intro g hm;rcases List.mem_append.1 hm with hm|hm
  ·exact .inl (List.mem_append.2 (.inl hm))
  rcases List.mem_cons.1 hm with rfl|hm
  ·exact .inl (by simp)
  ·obtain ⟨j,s,hj,hs⟩:=mem_owns.1 hm
   by_cases e:j=i
   ·subst e
    rw[List.getElem?_set_self hil]at hj;cases hj
    rw[hb]at hs;exact .inr (Option.some.inj hs).symm
   ·rw[List.getElem?_set_ne (fun h=>e h.symm)]at hj
    exact .inl (List.mem_append.2 (.inr (List.mem_cons.2 (.inr (mem_owns.2 ⟨j,s,hj,hs⟩)))))
 exact ⟨h.fr.grown hg (fun g e=>.inr ((h.rw.o i r hi).lt e).1),h.lo,h.rw.grow i hi hg ho hb ha,h.ai.turn hg hr ha hB,h.qi.turn hg hr ha hB⟩
structure V4 where
 rt:Value
 x:Value
 q:Value
 l:Value
abbrev kcell(V:V6)(U:V4):Array Value:=#[V.n,V.c,V.a,V.t,V.r,V.i,U.rt,U.x,U.q,U.l]
def KR(w:World)(b:Nat)(V:V6)(U:V4):Prop:=w.heap[b]?=some (.cells (kcell V U) 75 (0,0))
theorem KR.c{w:World}{b:Nat}{V:V6}{U:V4}(h:KR w b V U)(i:Nat):w.cell? ⟨b,i,none⟩=(kcell V U)[i]?:=by
 unfold KR at h;simp[World.cell?,h]
theorem KR.fz{w:World}{b:Nat}{V:V6}{U:V4}(h:KR w b V U)(o:Nat):w.frozen? ⟨b,o,none⟩=false:=by
 unfold KR at h;simp[World.frozen?,h]
theorem KR.lt{w:World}{b:Nat}{V:V6}{U:V4}(h:KR w b V U):b<w.heap.size:=(Array.getElem?_eq_some_iff.1 h).1
theorem KR.frm{S:List Nat}{w w':World}{b:Nat}{V:V6}{U:V4}(h:KR w b V U)(f:Frm S w w')(hS:b∉S):KR w' b V U:=(f.block b h.lt hS).trans h
theorem KR.grown{w w':World}{b:Nat}{V:V6}{U:V4}{row:Option Nat}(h:KR w b V U)(hg:w.grownBy w' row)(hr:∀ r,row=some r→r≠b):KR w' b V U:=(hg.block b h.lt (fun e=>hr b e.symm rfl)).trans h
theorem KR.set{w:World}{b:Nat}{V V':V6}{U U':V4}(h:KR w b V U)(i:Nat)(v:Value)(e:(kcell V U).setIfInBounds i v=kcell V' U'):KR (w.setCell ⟨b,i,none⟩ v) b V' U':=by
 unfold KR at h ⊢;rw[← e];simp[World.setCell,Array.getElem?_modify,h]
abbrev krs(V:V6)(U:V4)(s:CS)(ca cq:List (Array Value)):List RD :=
 [⟨9,1,V.n,sc s.n⟩,⟨9,1,V.c,sc s.c⟩,⟨9,1,U.x,sc s.x⟩,⟨95,259,V.a,lst ca⟩,⟨97,3,V.t,tc s.t⟩,⟨114,1,U.q,lst cq⟩]
structure KS(Z:List Nat)(w0:World)(kb:Nat)(w:World)(V:V6)(U:V4)(s:CS):Prop where
 row:KR w kb V U
 g:∃ ca cq,KG Z w0 kb w (krs V U s ca cq) ca s.a cq s.q
theorem KS.frm{Z:List Nat}{w0:World}{kb:Nat}{w w':World}{V:V6}{U:V4}{s:CS}(h:KS Z w0 kb w V U s)(f:Frm [] w w'):KS Z w0 kb w' V U s:=by
 obtain ⟨ca,cq,g⟩:=h.g;exact ⟨h.row.frm f (by simp),ca,cq,g.frm f (by simp)⟩
theorem KS.addZ{Z:List Nat}{w0:World}{kb:Nat}{w:World}{V:V6}{U:V4}{s:CS}(h:KS Z w0 kb w V U s){b:Nat}(hb:w.heap.size≤b):KS (b::Z) w0 kb w V U s:=by
 obtain ⟨ca,cq,g⟩:=h.g;exact ⟨h.row,ca,cq,g.addZ hb⟩
theorem KS.lessZ{Z:List Nat}{w0:World}{kb b:Nat}{w:World}{V:V6}{U:V4}{s:CS}(h:KS (b::Z) w0 kb w V U s):KS Z w0 kb w V U s:=by
 obtain ⟨ca,cq,g⟩:=h.g;exact ⟨h.row,ca,cq,g.lessZ⟩
end Go.Proofs.YtpcbbbilmpobaaaGreatDoor
