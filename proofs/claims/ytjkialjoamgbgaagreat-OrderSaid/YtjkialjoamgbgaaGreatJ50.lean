import Derived.Test.YtjkialjoamgbgaaGreatJ16
import Derived.Test.YtjkialjoamgbgaaGreatJ27
import Derived.Test.YtjkialjoamgbgaaGreatJ29
import Derived.Test.YtjkialjoamgbgaaGreatJ49
set_option linter.unusedVariables false
set_option linter.unusedSimpArgs false
set_option linter.unnecessarySimpa false
set_option maxRecDepth 100000
set_option maxHeartbeats 200000
namespace Go.Proofs.YtjkialjoamgbgaaGreat
open Go.RowKit
def runL(T:Nat→Bool)(l:List InM):Nat→Nat→List Nat
 | 0,_=>[]
 | n+1,i=>match l[i]? with
   | some c=>match c.op with
     | 0=>[]
     | 1=>c.x::runL T l n c.a
     | _=>runL T l n (if T c.x then c.a else c.b)
   | none=>[]
def rl(T:Nat→Bool)(l:List InM)(i:Nat):List Nat:=runL T l (i+1) i
theorem runL_fuel(T:Nat→Bool){l:List InM}(hl:GL l):∀ n i,i<n→runL T l n i=rl T l i:=by
 intro n
 induction n using Nat.strongRecOn with
 | ind n ih =>
   intro i hi
   obtain ⟨m,rfl⟩:∃ m,n=m+1:=⟨n-1,by omega⟩
   have key:∀ k,i≤k→k≤m→runL T l (k+1) i=(match l[i]? with
    | some c=>match c.op with
      | 0=>[]
      | 1=>c.x::rl T l c.a
      | _=>rl T l (if T c.x then c.a else c.b)
    | none=>[]):=by
    intro k hk hkm
    rw[runL]
    by_cases h:i<l.length
    ·rw[List.getElem?_eq_getElem h]
     have hg:=hl i h
     generalize l[i]=c at *
     obtain ⟨op,x,a,b⟩:=c
     simp only at hg ⊢
     rcases hg with rfl|⟨rfl,h1⟩|⟨rfl,h1,h2⟩
     ·rfl
     ·show x::runL T l k a=x::rl T l a
      rw[ih k (by omega) a (by omega)]
     ·show runL T l k (if T x then a else b)=rl T l (if T x then a else b)
      exact ih k (by omega) _ (by split<;>omega)
    ·rw[List.getElem?_eq_none (by omega)]
   rw[key m (by omega) (Nat.le_refl _)]
   unfold rl
   rw[key i (Nat.le_refl _) (by omega)]
   rfl
theorem rl_at(T:Nat→Bool){l:List InM}(hl:GL l){i:Nat}{c:InM}(hc:l[i]?=some c):rl T l i=if c.op=0 then [] else if c.op=1 then c.x::rl T l c.a else rl T l (if T c.x then c.a else c.b):=by
 obtain ⟨h,rfl⟩:=List.getElem?_eq_some_iff.1 hc
 have hg:=hl i h
 rw[rl,runL,hc]
 generalize l[i]=c at *
 obtain ⟨op,x,a,b⟩:=c
 simp only at hg ⊢
 rcases hg with rfl|⟨rfl,h1⟩|⟨rfl,h1,h2⟩
 ·rfl
 ·show x::runL T l i a=x::rl T l a
  rw[runL_fuel T hl i a h1]
 ·show runL T l i (if T x then a else b)=rl T l (if T x then a else b)
  exact runL_fuel T hl i _ (by split<;>omega)
theorem rl_pre(T:Nat→Bool){l l':List InM}(hl':GL l')(hp:l <+: l'):∀ i,i<l.length→rl T l' i=rl T l i:=by
 obtain ⟨s,rfl⟩:=hp
 have hl:GL l:=fun i hi=>by have:=hl' i (by simp;omega);rwa [List.getElem_append_left hi]at this
 intro i
 induction i using Nat.strongRecOn with
 | ind i ih =>
   intro hi
   have e:(l++s)[i]?=l[i]?:=List.getElem?_append_left hi
   have e2:l[i]?=some l[i]:=List.getElem?_eq_getElem hi
   rw[rl_at T hl' (e.trans e2),rl_at T hl e2]
   have hg:=hl i hi
   split
   ·rfl
   ·rename_i h0
    split
    ·rename_i h1
     rw[ih _ (by omega) (by omega)]
    ·rename_i h1
     have:(if T l[i].x then l[i].a else l[i].b)<i:=by split<;>omega
     exact ih _ this (by omega)
def allT(T:Nat→Bool)(q:List (Nat × Bool)):Bool:=q.all fun c=>T c.1==c.2
theorem layChk_pre(y n:Nat)(l:List InM):∀ q:List (Nat × Bool),l <+: (layChk q y n l).2
 | []=>List.prefix_refl _
 | c::r=>by rw[layChk];exact (layChk_pre y n l r).trans (List.prefix_append _ _)
theorem layChk_run(T:Nat→Bool){l:List InM}(h:GL l){y n:Nat}(hy:y<l.length)(hn:n<l.length):∀ q:List (Nat × Bool),rl T (layChk q y n l).2 (layChk q y n l).1=if allT T q then rl T l y else rl T l n
 | []=>rfl
 | c::r=>by
   obtain ⟨g1,g2,g3⟩:=layChk_good h hy hn (c::r)
   obtain ⟨h1,h2,h3⟩:=layChk_good h hy hn r
   have ih:=layChk_run T h hy hn r
   have hp:=layChk_pre y n l r
   rw[layChk]at g1 ⊢
   have hc:((layChk r y n l).2++[if c.2 then (⟨2,c.1,(layChk r y n l).1,n⟩:InM) else ⟨2,c.1,n,(layChk r y n l).1⟩])[(layChk r y n l).2.length]?=some (if c.2 then (⟨2,c.1,(layChk r y n l).1,n⟩:InM) else ⟨2,c.1,n,(layChk r y n l).1⟩):=by simp
   rw[rl_at T g1 hc]
   have pre:=rl_pre T g1 (List.prefix_append (layChk r y n l).2 _)
   have hl1:rl T (layChk r y n l).2 n=rl T l n:=rl_pre T h1 hp n hn
   have ha:allT T (c::r)=(T c.1==c.2&&allT T r):=rfl
   rw[ha]
   cases hc2:c.2
   ·rw[hc2]at pre
    simp only[Bool.false_eq_true,if_false,show (2:Nat)≠0 by omega,show (2:Nat)≠1 by omega]at pre ⊢
    cases hT:T c.1
    ·rw[if_neg (by simp),pre _ h2,ih];simp
    ·rw[if_pos rfl,pre _ (by omega),hl1];simp
   ·rw[hc2]at pre
    simp only[if_true,if_false,show (2:Nat)≠0 by omega,show (2:Nat)≠1 by omega]at pre ⊢
    cases hT:T c.1
    ·rw[if_neg (by simp),pre _ (by omega),hl1];simp
    ·rw[if_pos rfl,pre _ h2,ih];simp
def walkK(T:Nat→Bool)(C:List CR)(q:List (List (Nat × Bool)))(S:Nat→List Nat):List Nat→List Nat
 | []=>[]
 | c::r=>if allT T (q.getD c []) then S c++(if (C[c]?.map (·.co))=some true then walkK T C q S r else []) else walkK T C q S r
def sent(T:Nat→Bool)(C:List CR)(q:List (List (Nat × Bool))):Nat→Nat→List Nat
 | 0,_=>[]
 | f+1,r=>if (kids C r).any (fun c=>allT T (q.getD c [])) then walkK T C q (sent T C q f) (kids C r) else [r]
def RSn(T:Nat→Bool)(S:Nat→List Nat)(rec:Nat→Nat→List InM→Nat × List InM):Prop:=∀ c d l,GL l→d<l.length→l <+: (rec c d l).2∧rl T (rec c d l).2 (rec c d l).1=S c++rl T l d
theorem lay1_run{T:Nat→Bool}{S:Nat→List Nat}{rec:Nat→Nat→List InM→Nat × List InM}(hr:RG rec)(hs:RSn T S rec)(C:List CR)(q:List (List (Nat × Bool))){d:Nat}{l:List InM}(h:GL l)(hd:d<l.length):∀ K:List Nat,
 l <+: (lay1 rec C q d l K).2.2∧rl T (lay1 rec C q d l K).2.2 (lay1 rec C q d l K).1=walkK T C q S K++rl T l d ∧
 ∀ (i c b:Nat),K[i]?=some c→(lay1 rec C q d l K).2.1[i]?=some b→allT T (q.getD c [])=true→(∀ (k c':Nat),k<i→K[k]?=some c'→allT T (q.getD c' [])=false)→rl T (lay1 rec C q d l K).2.2 b=walkK T C q S K++rl T l d
 | []=>⟨List.prefix_refl _,rfl,fun i c b h=>by simp at h⟩
 | c::r=>by
   obtain ⟨p1,p2,p3⟩:=lay1_run hr hs C q h hd r
   obtain ⟨h1,h2,h3,h4,h5⟩:=lay1_good hr C q h hd r
   rw[lay1,walkK]
   generalize lay1 rec C q d l r=x at *
   have hdx:(if (C[c]?.map (·.co))=some true then x.1 else d)<x.2.2.length:=by split<;>omega
   obtain ⟨g1,g2,g3⟩:=hr c (if (C[c]?.map (·.co))=some true then x.1 else d) x.2.2 h1 hdx
   obtain ⟨s1,s2⟩:=hs c (if (C[c]?.map (·.co))=some true then x.1 else d) x.2.2 h1 hdx
   have e0:rl T x.2.2 (if (C[c]?.map (·.co))=some true then x.1 else d)=(if (C[c]?.map (·.co))=some true then walkK T C q S r else [])++rl T l d:=by
    split
    ·exact p2
    ·rw[rl_pre T h1 p1 d hd];rfl
   rw[e0,← List.append_assoc]at s2
   generalize rec c (if (C[c]?.map (·.co))=some true then x.1 else d) x.2.2=b at *
   have hxb:x.1<b.2.length:=by omega
   obtain ⟨k1,k2,k3⟩:=layChk_good g1 g2 hxb (q.getD c [])
   have kr:=layChk_run T g1 g2 hxb (q.getD c [])
   have kp:=layChk_pre b.1 x.1 b.2 (q.getD c [])
   have e1:rl T b.2 x.1=walkK T C q S r++rl T l d:=by rw[rl_pre T g1 s1 x.1 h2];exact p2
   refine ⟨(p1.trans s1).trans kp,?_,?_⟩
   ·show rl T (layChk _ _ _ _).2 (layChk _ _ _ _).1=_
    rw[kr]
    cases allT T (q.getD c [])
    ·simp only[Bool.false_eq_true,if_false];exact e1
    ·simp only[if_true];exact s2
   ·intro i c' b' hi hb' ha hb2
    show rl T (layChk _ _ _ _).2 b'=_
    cases i with
    | zero =>
      simp only[List.getElem?_cons_zero,Option.some.injEq]at hi hb'
      subst hi hb'
      rw[rl_pre T k1 kp b.1 g2,ha]
      simp only[if_true];exact s2
    | succ i =>
      simp only[List.getElem?_cons_succ]at hi hb'
      have hc0:=hb2 0 c (by omega) (by simp)
      have hb'l:b'<x.2.2.length:=h4 b' (List.mem_of_getElem? hb')
      have:=p3 i c' b' hi hb' ha (fun k c'' hk hc''=>hb2 (k+1) c'' (by omega) (by simpa using hc''))
      rw[rl_pre T k1 kp b' (by omega),rl_pre T g1 s1 b' hb'l,this,hc0]
      simp
theorem lay2_pre(q:List (List (Nat × Bool)))(first:Nat)(l:List InM):∀ Z:List (Nat × Nat),l <+: (lay2 q first l Z).2
 | []=>List.prefix_refl _
 | z::r=>by rw[lay2];exact (lay2_pre q first l r).trans (layChk_pre _ _ _ _)
theorem lay2_run(T:Nat→Bool)(q:List (List (Nat × Bool))){first:Nat}{l:List InM}(h:GL l)(hf:first < l.length)(R:List Nat):∀ Z:List (Nat × Nat),(∀ z∈Z,z.2<l.length) →
 (∀ (i:Nat) (z:Nat × Nat),Z[i]?=some z→allT T (q.getD z.1 [])=true→(∀ (k:Nat) (z':Nat × Nat),k<i→Z[k]?=some z'→allT T (q.getD z'.1 [])=false)→rl T l z.2=R)→rl T (lay2 q first l Z).2 (lay2 q first l Z).1=if Z.any (fun z=>allT T (q.getD z.1 [])) then R else rl T l first
 | [],_,_=>rfl
 | z::r,hz,hR=>by
   obtain ⟨h1,h2,h3⟩:=lay2_good q h hf r (fun y hy=>hz y (by simp[hy]))
   have hp:=lay2_pre q first l r
   have hz0:=hz z (by simp)
   rw[lay2,layChk_run T h1 (by omega:z.2<(lay2 q first l r).2.length) h2 (q.getD z.1 []),List.any_cons]
   cases ha:allT T (q.getD z.1 [])
   ·have ih:=lay2_run T q h hf R r (fun y hy=>hz y (by simp[hy])) (fun i z' hi hz' hk=>hR (i+1) z' (by simpa using hi) hz' (fun k z'' hk' hz''=>by
     cases k with
     | zero=>simp at hz'';rw[← hz''];exact ha
     | succ k=>exact hk k z'' (by omega) (by simpa using hz'')))
    simp only[Bool.false_eq_true,if_false,Bool.false_or]
    exact ih
   ·simp only[if_true,Bool.true_or]
    rw[rl_pre T h1 hp z.2 hz0]
    exact hR 0 z rfl ha (fun k z' hk=>by omega)
theorem zip_any(f:Nat→Bool):∀ (K bg:List Nat),bg.length=K.length→(K.zip bg).any (fun z=>f z.1)=K.any f
 | [],bg,_=>by simp
 | c::r,[],h=>by simp at h
 | c::r,b::s,h=>by simp only[List.zip_cons_cons,List.any_cons,zip_any f r s (by simpa using h)]
theorem layR_run(T:Nat→Bool)(C:List CR)(q:List (List (Nat × Bool))):∀ f,RSn T (sent T C q f) (layR C q f)
 | 0=>fun c d l h hd=>⟨List.prefix_refl _,rfl⟩
 | f+1=>fun r d l h hd=>by
   have hr:=layR_good C q f
   have hs:=layR_run T C q f
   obtain ⟨h1,h2,h3,h4,h5⟩:=lay1_good hr C q h hd (kids C r)
   obtain ⟨p1,p2,p3⟩:=lay1_run hr hs C q h hd (kids C r)
   rw[layR,sent]
   generalize lay1 (layR C q f) C q d l (kids C r)=x at *
   have hg:GL (x.2.2++[⟨1,r,d,0⟩]):=h1.snoc (.inr (.inl ⟨rfl,by show d<_;omega⟩))
   have hpx:x.2.2 <+: x.2.2++[(⟨1,r,d,0⟩:InM)]:=List.prefix_append _ _
   have hzl:∀ z∈(kids C r).zip x.2.1,z.2<(x.2.2++[(⟨1,r,d,0⟩:InM)]).length:=by
    intro z hz
    have:=h4 z.2 (List.of_mem_zip hz).2
    simp;omega
   have hrun:=lay2_run T q hg (by simp:x.2.2.length<(x.2.2++[(⟨1,r,d,0⟩:InM)]).length) (walkK T C q (sent T C q f) (kids C r)++rl T l d) ((kids C r).zip x.2.1) hzl (by
    intro i z hi ha hk
    have hz:=List.getElem?_zip_eq_some.1 hi
    rw[rl_pre T hg hpx z.2 (h4 z.2 (List.mem_of_getElem? hz.2))]
    refine p3 i z.1 z.2 hz.1 hz.2 ha (fun k c' hk' hc'=>?_)
    have hkl:k<x.2.1.length:=by
     rw[h5];exact (List.getElem?_eq_some_iff.1 hc').1
    exact hk k (c',x.2.1[k]) hk' (List.getElem?_zip_eq_some.2 ⟨hc',List.getElem?_eq_getElem hkl⟩))
   refine ⟨(p1.trans hpx).trans (lay2_pre _ _ _ _),?_⟩
   show rl T (lay2 q x.2.2.length (x.2.2++[⟨1,r,d,0⟩]) ((kids C r).zip x.2.1)).2 (lay2 q x.2.2.length (x.2.2++[⟨1,r,d,0⟩]) ((kids C r).zip x.2.1)).1=_
   rw[hrun,zip_any (fun c=>allT T (q.getD c [])) _ _ h5]
   cases (kids C r).any fun c=>allT T (q.getD c [])
   ·simp only[Bool.false_eq_true,if_false]
    rw[rl_at T hg (c:=⟨1,r,d,0⟩) (by simp)]
    simp only[Nat.one_ne_zero,if_false,if_true]
    rw[rl_pre T hg (p1.trans hpx) d hd]
    rfl
   ·simp only[if_true]
open Go.RowKit
def tT(m:Mach)(V:List UInt8→List UInt8)(x:Nat):Bool:=match m.tests[x]? with
 | some t=>tstM m (V (m.names.getD t.n [])) t
 | none=>false
theorem turn_go{m:Mach}{l:List InM}(hl:GL l){nr:Nat}(hx:GXl nr m.tests.length l){N:List Int}{c:Nat}(hN:NumOK N 0 c)(hlen:N.length=l.length)(hT:TurnOK l N 0 m.code)
 (hsp:∀ j x,l[j]?=some x→0≤N.getD j 0→(x.op≠0→0≤N.getD x.a 0)∧(x.op=2→0≤N.getD x.b 0)) (V:List UInt8→List UInt8):∀ j,j<l.length→0≤N.getD j (-1)→∀ n,m.code.length≤n+(N.getD j (-1)).toNat→runM m V n (N.getD j (-1)).toNat=rl (tT m V) l j:=by
 intro j
 induction j using Nat.strongRecOn with
 | ind j ih =>
   intro hj h0 n hn
   have hb:=hT.b j (by omega) h0
   obtain ⟨k,rfl⟩:∃ k,n=k+1:=⟨n-1,by omega⟩
   have hjl:l[j]?=some l[j]:=List.getElem?_eq_getElem hj
   have ho:=hT.a j _ (by omega) hjl h0
   obtain ⟨s1,s2⟩:=hsp j _ hjl (by rw[getD_any N j (by omega)];omega)
   have hg:=hl j hj
   have hxx:=hx l[j] (List.getElem_mem _)
   rw[rl_at _ hl hjl,runM,ho]
   generalize l[j]=y at *
   obtain ⟨op,xn,a,b⟩:=y
   simp only[GXi]at hxx
   simp only at hg s1 s2 ⊢
   have tgt:∀ t,t<j→0≤N.getD t 0→runM m V k (N.getD t 0).toNat=rl (tT m V) l t:=by
    intro t ht ht0
    rw[getD_any N t (by omega)]at ht0 ⊢
    have h1:=hN.d t j (by omega) ht ht0 h0
    exact ih t ht (by omega) ht0 k (by omega)
   rcases hxx with ⟨rfl,rfl,rfl,rfl⟩|⟨rfl,h1,rfl⟩|⟨rfl,h1⟩
   ·rfl
   ·have ha:=tgt a (by omega) (s1 (by omega))
    simp only[turnI,Nat.one_ne_zero,if_false,if_true]
    rw[ha]
   ·have ha:=tgt a (by omega) (s1 (by omega))
    have hb:=tgt b (by omega) (s2 rfl)
    simp only[turnI,show (2:Nat)≠0 by omega,if_false,if_true,show (2:Nat)≠1 by omega]
    have ht:m.tests[xn]?=some m.tests[xn]:=List.getElem?_eq_getElem h1
    have hTT:tT m V xn=tstM m (V (m.names.getD m.tests[xn].n [])) m.tests[xn]:=by unfold tT;rw[ht]
    rw[ht,hTT]
    simp only
    cases tstM m (V (m.names.getD m.tests[xn].n [])) m.tests[xn]
    ·simpa using hb
    ·simpa using ha
theorem turn_run{m:Mach}{l:List InM}(hl:GL l){nr:Nat}(hx:GXl nr m.tests.length l)(first:Nat)(hf:first < l.length)(hc:m.code=turnM l first)(V:List UInt8→List UInt8):runM m V m.code.length 0=rl (tT m V) l first:=by
 obtain ⟨c,hN⟩:=numsOf_num l first
 have hlen:=numsOf_len l first
 have hsp:=numsOf_spec hl first
 have hhi:=numsOf_hi hl first
 have hT:TurnOK l (numsOf l first) 0 (turnM l first):=by
  refine turnGo_ok hN hlen (first + 1) [] (by omega) ⟨fun j x hj _ h0=>?_,fun k hk=>by simp at hk,fun j hj h0=>?_⟩
  ·have:=hhi j (by omega);omega
  ·have:=hhi j (by omega);omega
 have h0:0≤(numsOf l first).getD first (-1):=by
  unfold numsOf
  exact numGo_first l first hf l.length _ _ 0 hf (Nat.le_refl _) (by simp) (by simp) (getD_set_eq _ _ _ _ (by simpa using hf))
 have hz:(numsOf l first).getD first (-1)=0:=by
  have hb:=hN.b first (by omega) h0
  obtain ⟨j,_,hj⟩:=hN.s 0 (by omega)
  rcases Nat.lt_trichotomy j first with h1|h1|h1
  ·have:=hN.d j first (by omega) h1 (by rw[hj];omega) h0
   rw[hj]at this;omega
  ·rw[h1]at hj;exact hj
  ·have:=hhi j h1
   rw[hj]at this;omega
 rw[← hc]at hT
 have:=turn_go hl hx hN hlen hT hsp V first hf h0 m.code.length (by omega)
 rw[hz]at this
 exact this
open Go.RowKit
def takesA(a:AutM)(v:List UInt8):Bool:=a.acc.getD (autT a 0 v) 0==1
def mHolds(aut:List UInt8→AutM)(V:List UInt8→List UInt8)(m:CM):Bool :=
 if m.2.1=0 then V m.1==m.2.2 else if m.2.1=1 then !(V m.1==m.2.2) else if m.2.1=2 then takesA (aut m.2.2) (V m.1) else !(takesA (aut m.2.2) (V m.1))
def stM(s:CS)(V:List UInt8→List UInt8)(t:TstM):Bool :=
 if t.k=0 then V (s.n.getD t.n [])==s.c.getD t.x [] else takesA (s.a.getD t.x ⟨0,[],[],[]⟩) (V (s.n.getD t.n []))
def stT(s:CS)(V:List UInt8→List UInt8)(x:Nat):Bool:=match s.t[x]? with | some t=>stM s V t|none=>false
theorem tT_comp(C:List CR)(s:CS)(V:List UInt8→List UInt8):tT (compM C s) V=stT s V:=rfl
structure CSle(s s':CS):Prop where
 n:s.n <+: s'.n
 c:s.c <+: s'.c
 a:s.a <+: s'.a
 t:s.t <+: s'.t
theorem CSle.refl(s:CS):CSle s s:=⟨List.prefix_refl _,List.prefix_refl _,List.prefix_refl _,List.prefix_refl _⟩
theorem CSle.trans{s s1 s2:CS}(h:CSle s s1)(k:CSle s1 s2):CSle s s2:=⟨h.n.trans k.n,h.c.trans k.c,h.a.trans k.a,h.t.trans k.t⟩
theorem pre_getD{α:Type}{l l':List α}(h:l <+: l')(d:α){i:Nat}(hi:i<l.length):l'.getD i d=l.getD i d:=by
 obtain ⟨r,rfl⟩:=h
 simp[List.getD,List.getElem?_append_left hi]
theorem preS_get{α:Type}{l l':List α}(h:l <+: l'){i:Nat}{x:α}(hi:l[i]?=some x):l'[i]?=some x:=by
 obtain ⟨r,rfl⟩:=h
 rw[List.getElem?_append_left (List.getElem?_eq_some_iff.1 hi).1];exact hi
theorem stM_le{s s':CS}(h:CSle s s')(V:List UInt8→List UInt8){t:TstM}(ok:TstOK s.n.length s.c.length s.a.length t):stM s' V t=stM s V t:=by
 have hx:=ok.x
 unfold stM
 rw[pre_getD h.n [] ok.n]
 by_cases hk:t.k=0
 ·rw[if_neg (by omega)]at hx
  rw[if_pos hk,if_pos hk,pre_getD h.c [] hx]
 ·rw[if_pos (by have:=ok.k;omega)]at hx
  rw[if_neg hk,if_neg hk,pre_getD h.a _ hx]
theorem addx_pre(L:List (List UInt8))(x:List UInt8):L <+: addx L x:=by unfold addx;split;exact List.prefix_append _ _;exact List.prefix_refl _
theorem addt_pre(L:List TstM)(x:TstM):L <+: addt L x:=by unfold addt;split;exact List.prefix_append _ _;exact List.prefix_refl _
theorem fdx_get(L:List (List UInt8))(x:List UInt8)(h:fdx L x<L.length):L[fdx L x]=x:=by
 have:=List.findIdx_getElem (p:=(·==x)) (xs:=L) (w:=h)
 exact eq_of_beq this
theorem addx_get(L:List (List UInt8))(x:List UInt8):(addx L x)[fdx L x]?=some x:=by
 unfold addx
 split
 ·rename_i h;rw[h];simp
 ·rename_i h
  have h1:=fdx_le L x
  have h2:fdx L x<L.length:=by omega
  rw[List.getElem?_eq_getElem h2,fdx_get L x h2]
theorem addt_get(L:List TstM)(x:TstM):(addt L x)[fdt L x]?=some x:=by
 unfold addt
 split
 ·rename_i h;rw[h];simp
 ·rename_i h
  have h1:=fdt_le L x
  have h2:fdt L x<L.length:=by omega
  have h3:=List.findIdx_getElem (p:=(tEq · x)) (xs:=L) (w:=h2)
  rw[List.getElem?_eq_getElem h2]
  have h4:tEq L[fdt L x] x=true:=h3
  generalize L[fdt L x]=y at *
  obtain ⟨a,b,c⟩:=y
  obtain ⟨d,e,f⟩:=x
  simp[tEq]at h4
  simp[h4]
theorem getD_ofS{α:Type}{l:List α}{i:Nat}{x d:α}(h:l[i]?=some x):l.getD i d=x:=by simp[List.getD,h]
def XA(aut:List UInt8→AutM)(s:CS):Prop:=∀ (i:Nat) (v:List UInt8),s.x[i]?=some v→s.a[i]?=some (aut v)
def bHolds(aut:List UInt8→AutM)(V:List UInt8→List UInt8)(m:CM):Bool:=if m.2.1=2∨m.2.1=3 then takesA (aut m.2.2) (V m.1) else V m.1==m.2.2
theorem mHolds_b(aut:List UInt8→AutM)(V:List UInt8→List UInt8){m:CM}(hm:m.2.1≤3):mHolds aut V m=(bHolds aut V m==cholds m):=by
 obtain ⟨n,k,v⟩:=m
 simp only at hm
 rcases (show k=0∨k=1∨k=2∨k=3 by omega) with rfl|rfl|rfl|rfl<;>simp[mHolds,bHolds,cholds]
theorem ptest_run{re:List UInt8→Nat}{aut:List UInt8→AutM}{s s1:CS}{t:TstM}(h:CSok s)(hxa:XA aut s){m:CM}(he:ptest re aut s m=some (t,s1))(V:List UInt8→List UInt8) :
 CSle s s1∧XA aut s1∧stM s1 V t=bHolds aut V m:=by
 unfold ptest at he
 have hn:=getD_ofS (d:=[]) (addx_get s.n m.1)
 split at he
 ·rename_i hk
  split at he
  ·rename_i hx
   cases he
   refine ⟨⟨addx_pre _ _,List.prefix_refl _,List.prefix_refl _,List.prefix_refl _⟩,hxa,?_⟩
   have ha:=hxa (fdx s.x m.2.2) m.2.2 (by rw[List.getElem?_eq_getElem hx,fdx_get _ _ hx])
   unfold stM bHolds
   rw[if_neg (by simp),if_pos hk]
   simp only
   rw[hn,getD_ofS ha]
  ·rename_i hx
   split at he
   ·cases he
    have hl:fdx s.x m.2.2=s.x.length:=by have:=fdx_le s.x m.2.2;omega
    have hxa2:XA aut { s with n:=addx s.n m.1,x:=s.x++[m.2.2],a:=s.a++[aut m.2.2] }:=by
     intro i v hi
     simp only at hi ⊢
     by_cases h1:i<s.x.length
     ·rw[List.getElem?_append_left h1]at hi
      rw[List.getElem?_append_left (by rw[← h.xa];exact h1)]
      exact hxa i v hi
     ·have h2:i=s.x.length:=by
       have:=(List.getElem?_eq_some_iff.1 hi).1
       simp at this;omega
      subst h2
      simp at hi
      subst hi
      rw[h.xa];simp
    refine ⟨⟨addx_pre _ _,List.prefix_refl _,List.prefix_append _ _,List.prefix_refl _⟩,hxa2,?_⟩
    have ha:(s.a++[aut m.2.2])[fdx s.x m.2.2]?=some (aut m.2.2):=by rw[hl,h.xa];simp
    unfold stM bHolds
    rw[if_neg (by simp),if_pos hk]
    simp only
    rw[hn,getD_ofS ha]
   ·cases he
 ·rename_i hk
  cases he
  refine ⟨⟨addx_pre _ _,addx_pre _ _,List.prefix_refl _,List.prefix_refl _⟩,hxa,?_⟩
  unfold stM bHolds
  rw[if_pos rfl,if_neg hk]
  simp only
  rw[hn,getD_ofS (addx_get s.c m.2.2)]
theorem pmat_run{re:List UInt8→Nat}{aut:List UInt8→AutM}(ha:∀ v,re v=0→AutOK (aut v))(V:List UInt8→List UInt8):∀ (M:List CM) (s:CS) (acc:List (Nat × Bool)) {l:List (Nat × Bool)} {s1:CS},CSok s→XA aut s→(∀ m∈M,GoodM m)→pmat re aut s acc M=.ok (l,s1) →
 CSle s s1∧XA aut s1∧∃ l',l=acc++l'∧∀ s',CSle s1 s'→allT (stT s' V) l'=M.all (mHolds aut V)
 | [],s,acc,l,s1,h,hx,_,e=>by
   rw[pmat]at e
   cases e
   exact ⟨CSle.refl _,hx,[],by simp,fun s' _=>rfl⟩
 | m::r,s,acc,l,s1,h,hx,hM,e=>by
   rw[pmat]at e
   split at e
   ·cases e
   ·rename_i t s2 ht
    obtain ⟨g1,g2,g3⟩:=ptest_ok ha h (hM m (by simp)) ht
    obtain ⟨r1,r2,r3⟩:=ptest_run h hx ht V
    have le2:CSle s2 { s2 with t:=addt s2.t t }:=⟨List.prefix_refl _,List.prefix_refl _,List.prefix_refl _,addt_pre _ _⟩
    obtain ⟨k1,k2,l',k3,k4⟩:=pmat_run ha V r _ _ g1 r2 (fun x hx=>hM x (by simp[hx])) e
    refine ⟨(r1.trans le2).trans k1,k2,(fdt s2.t t,cholds m)::l',by rw[k3];simp,fun s' hs'=>?_⟩
    have htg:=addt_get s2.t t
    have hts:s'.t[fdt s2.t t]?=some t:=preS_get hs'.t (preS_get k1.t htg)
    have ok:TstOK s2.n.length s2.c.length s2.a.length t:=g1.t t (List.mem_of_getElem? htg)
    have e1:stT s' V (fdt s2.t t)=bHolds aut V m:=by
     unfold stT
     rw[hts]
     simp only
     rw[stM_le ((le2.trans k1).trans hs') V ok,r3]
    show (stT s' V (fdt s2.t t)==cholds m&&allT (stT s' V) l')=_
    rw[k4 s' hs',e1,List.all_cons,mHolds_b aut V (hM m (by simp)).kind]
theorem pread_run{re:List UInt8→Nat}{aut:List UInt8→AutM}(ha:∀ v,re v=0→AutOK (aut v))(V:List UInt8→List UInt8):∀ (C:List CR) (s:CS) (i:Nat) {s1:CS},CSok s→XA aut s→(∀ c∈C,GoodCR c)→pread re aut s i C=.ok s1 →
 CSle s s1∧s.q <+: s1.q∧∀ (j:Nat) (c:CR),C[j]?=some c→∀ s',CSle s1 s'→allT (stT s' V) (s1.q.getD (s.q.length+j) [])=c.ifs.all (mHolds aut V)
 | [],s,i,s1,h,hx,_,e=>by
   rw[pread]at e
   cases e
   exact ⟨CSle.refl _,List.prefix_refl _,fun j c hj=>by simp at hj⟩
 | c::r,s,i,s1,h,hx,hC,e=>by
   rw[pread]at e
   have hc:=hC c (by simp)
   split at e
   ·cases e
   ·rename_i l s2 hl
    obtain ⟨g1,g2,g3⟩:=pmat_ok ha c.ifs s [] h hc.ifs (by simp) hl
    obtain ⟨r1,r2,l',r3,r4⟩:=pmat_run ha V c.ifs s [] h hx hc.ifs hl
    have hq:=pmat_tge c.ifs s [] hl
    have hil:=hc.ifl
    simp at g3 r3
    subst r3
    obtain ⟨k1,k2,k3⟩:=pread_run ha V r { s2 with q:=s2.q++[l] } (i+1) ⟨g1.n,g1.c,g1.a,g1.xa,g1.t,fun x hx=>by
     rcases List.mem_append.1 hx with e1|e1
     ·exact g1.q x e1
     ·rw[List.mem_singleton.1 e1];exact g2,fun x hx=>by
     rcases List.mem_append.1 hx with e1|e1
     ·exact g1.ql x e1
     ·rw[List.mem_singleton.1 e1];omega⟩ r2 (fun x hx=>hC x (by simp[hx])) e
    have le2:CSle s2 { s2 with q:=s2.q++[l] }:=⟨List.prefix_refl _,List.prefix_refl _,List.prefix_refl _,List.prefix_refl _⟩
    simp only[hq]at k2 k3
    refine ⟨(r1.trans le2).trans k1,(List.prefix_append _ _).trans k2,fun j c' hj s' hs'=>?_⟩
    cases j with
    | zero =>
      simp at hj
      subst hj
      have:s1.q[s.q.length+0]?=some l:=preS_get k2 (by simp)
      rw[getD_ofS this]
      exact r4 s' ((le2.trans k1).trans hs')
    | succ j =>
      have:=k3 j c' (by simpa using hj) s' hs'
      rw[List.length_append,List.length_singleton]at this
      rw[show s.q.length+(j+1)=s.q.length+1+j by omega]
      exact this
def hold(aut:List UInt8→AutM)(V:List UInt8→List UInt8)(C:List CR)(c:Nat):Bool:=match C[c]? with | some x=>x.ifs.all (mHolds aut V)|none=>false
def walkH(H:Nat→Bool)(C:List CR)(S:Nat→List Nat):List Nat→List Nat
 | []=>[]
 | c::r=>if H c then S c++(if (C[c]?.map (·.co))=some true then walkH H C S r else []) else walkH H C S r
def sentH(H:Nat→Bool)(C:List CR):Nat→Nat→List Nat
 | 0,_=>[]
 | f+1,r=>if (kids C r).any H then walkH H C (sentH H C f) (kids C r) else [r]
theorem walkK_H{T:Nat→Bool}{C:List CR}{q:List (List (Nat × Bool))}{H:Nat→Bool}{S S':Nat→List Nat}:∀ K:List Nat,(∀ c∈K,allT T (q.getD c [])=H c∧S c=S' c)→walkK T C q S K=walkH H C S' K
 | [],_=>rfl
 | c::r,h=>by
   rw[walkK,walkH,(h c (by simp)).1,(h c (by simp)).2,walkK_H r (fun x hx=>h x (by simp[hx]))]
theorem sent_H{T:Nat→Bool}{C:List CR}{q:List (List (Nat × Bool))}{H:Nat→Bool}(h:∀ c,c<C.length→allT T (q.getD c [])=H c):∀ f r,sent T C q f r=sentH H C f r
 | 0,_=>rfl
 | f+1,r=>by
   have hk:∀ c∈kids C r,allT T (q.getD c [])=H c∧sent T C q f c=sentH H C f c:=fun c hc=>⟨h c (mem_kids' hc).1,sent_H h f c⟩
   rw[sent,sentH,walkK_H _ hk]
   have:(kids C r).any (fun c=>allT T (q.getD c []))=(kids C r).any H:=by
    rw[Bool.eq_iff_iff,List.any_eq_true,List.any_eq_true]
    constructor
    ·rintro ⟨x,hx,e⟩;exact ⟨x,hx,by rw[← (hk x hx).1];exact e⟩
    ·rintro ⟨x,hx,e⟩;exact ⟨x,hx,by rw[(hk x hx).1];exact e⟩
   rw[this]
theorem run_comp{re:List UInt8→Nat}{aut:List UInt8→AutM}(ha:∀ v,re v=0→AutOK (aut v)){t:List UInt8}{L:List (List UInt8)}{C:List CR}{s:CS}(ht:t.length≤1048576)(h:cRead t=.ok (L,C))(hp:pread re aut cs0 0 C=.ok s)(V:List UInt8→List UInt8) :
 runM (compM C s) V (compM C s).code.length 0=sentH (hold aut V C) C 6 0:=by
 obtain ⟨h1,h2,h3,h4⟩:=cRead_tree h
 have hg:=(cRead1_good t L C ht h1).2.2
 have ok0:CSok cs0:=⟨by simp[cs0],by simp[cs0],by simp[cs0],rfl,by simp[cs0],by simp[cs0],by simp[cs0]⟩
 obtain ⟨k1,k2,k3⟩:=pread_ok ha C cs0 0 0 ok0 ⟨by simp[cs0],by simp[cs0],by simp[cs0],by simp[cs0],by simp[cs0]⟩ hg hp
 obtain ⟨_,_,p3⟩:=pread_run ha V C cs0 0 ok0 (fun i v hi=>by simp[cs0]at hi) hg hp
 have hne:C.isEmpty=false:=by cases C with | nil=>simp at h2|cons=>rfl
 have hg0:GL [⟨0,0,0,0⟩]:=by
  intro i hi
  simp at hi
  subst hi
  exact .inl rfl
 obtain ⟨r1,r2,r3⟩:=layR_good C s.q 6 0 0 [⟨0,0,0,0⟩] hg0 (by simp)
 have r4:=layR_gx C (nt:=s.t.length) k1.q 6 0 0 [⟨0,0,0,0⟩] h2 (by intro x hx;rw[List.mem_singleton.1 hx];exact .inl ⟨rfl,rfl,rfl,rfl⟩)
 have e1:(compM C s).code=turnM (layR C s.q 6 0 0 [⟨0,0,0,0⟩]).2 (layR C s.q 6 0 0 [⟨0,0,0,0⟩]).1:=by
  show codeM C s.q=_
  unfold codeM
  rw[hne];rfl
 rw[turn_run (m:=compM C s) r1 (nr:=C.length) r4 _ r2 e1 V,(layR_run _ C s.q 6 0 0 [⟨0,0,0,0⟩] hg0 (by simp)).2,tT_comp]
 have:rl (stT s V) [(⟨0,0,0,0⟩:InM)] 0=[]:=rfl
 rw[this,List.append_nil]
 refine sent_H (fun c hc=>?_) 6 0
 have:=p3 c C[c] (List.getElem?_eq_getElem hc) s (CSle.refl _)
 unfold hold
 rw[List.getElem?_eq_getElem hc]
 rw[show cs0.q.length+c=c from Nat.zero_add c]at this
 exact this
open Go.RowKit
def hitsC(C:List CR)(V:List UInt8→List UInt8):List HitM:=(sentH (hold autC V C) C 6 0).map fun i=>(hitsN C C.length).getD i ⟨[],[],0,0,0⟩
theorem hitsA_comp{t:List UInt8}{L:List (List UInt8)}{C:List CR}{s:CS}(ht:t.length≤1048576)(h:cRead t=.ok (L,C))(hp:pread reC autC cs0 0 C=.ok s)(A:List LBL):hitsA (compM C s) A=hitsC C (lblV A):=by
 unfold hitsA
 rw[run_comp autC_ok ht h hp (lblV A)]
 rfl
end Go.Proofs.YtjkialjoamgbgaaGreat
