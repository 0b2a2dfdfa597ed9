import Derived.Test.YtpcbbbilmpobaaaGreatDoorJ27
set_option linter.unusedVariables false
set_option linter.unusedSimpArgs false
set_option linter.unnecessarySimpa false
set_option maxRecDepth 100000
set_option maxHeartbeats 200000
namespace Go.Proofs.YtpcbbbilmpobaaaGreatDoor
set_option linter.unusedVariables false
set_option linter.unusedSimpArgs false
theorem blt_irrefl:∀ a:List UInt8,blt a a=false
 | []=>rfl
 | a::r=>by simp[blt,blt_irrefl r]
theorem blt_trans:∀ {a b c:List UInt8},blt a b=true→blt b c=true→blt a c=true
 | [],[],_,h,_=>by simp[blt]at h
 | [],_::_,[],_,h=>by simp[blt]at h
 | [],_::_,_::_,_,_=>rfl
 | _::_,[],_,h,_=>by simp[blt]at h
 | _::_,_::_,[],_,h=>by simp[blt]at h
 | a::x,b::y,c::z,h1,h2=>by
   unfold blt at h1 h2 ⊢
   split at h1
   ·rename_i hab
    split at h2
    ·rename_i hbc
     rw[if_pos (UInt8.lt_trans hab hbc)]
    ·split at h2
     ·rename_i _ hbc;rw[← eq_of_beq hbc,if_pos hab]
     ·simp at h2
   ·split at h1
    ·rename_i _ hab
     have:=eq_of_beq hab;subst this
     split at h2
     ·rename_i hbc;rw[if_pos hbc]
     ·rename_i hbc
      split at h2
      ·rename_i hbc2
       have:=eq_of_beq hbc2;subst this;rw[if_neg hbc,if_pos (beq_self_eq_true _)];exact blt_trans h1 h2
      ·simp at h2
    ·simp at h1
theorem blt_tri:∀ (a b:List UInt8),blt a b=true∨a=b∨blt b a=true
 | [],[]=>.inr (.inl rfl)
 | [],_::_=>.inl rfl
 | _::_,[]=>.inr (.inr rfl)
 | a::x,b::y=>by
   by_cases h1:a<b
   ·left;unfold blt;rw[if_pos h1]
   ·by_cases h2:a=b
    ·subst h2
     rcases blt_tri x y with h|h|h
     ·left;unfold blt;rw[if_neg h1,if_pos (beq_self_eq_true _)];exact h
     ·right;left;rw[h]
     ·right;right;unfold blt;rw[if_neg h1,if_pos (beq_self_eq_true _)];exact h
    ·right;right;unfold blt
     have h3:b<a:=by
      have h1':=UInt8.not_lt.1 h1;rcases UInt8.lt_or_eq_of_le h1' with h|h
      ·exact h
      ·exact absurd h.symm h2
     rw[if_pos h3]
def Ris(l:List NF):Prop:=l.Pairwise (fun x y=>blt (name x) (name y)=true)
theorem put_ris:∀ {l:List NF} {x:NF},Ris l→Ris (put l x)
 | [],x,h=>List.pairwise_singleton _ _
 | y::r,x,h=>by
   have h':=h;unfold Ris at h;rw[List.pairwise_cons]at h;unfold put
   split
   ·rename_i hyx
    refine List.pairwise_cons.2 ⟨?_,put_ris h.2⟩;intro p hp;rcases put_mem hp with e|e
    ·exact h.1 p e
    ·subst e;exact hyx
   ·split
    ·exact h'
    ·rename_i h1 h2
     refine List.pairwise_cons.2 ⟨?_,h'⟩;have hxy:blt (name x) (name y)=true:=by
      rcases blt_tri (name x) (name y) with e|e|e
      ·exact e
      ·rw[e]at h2;simp at h2
      ·rw[e]at h1;simp at h1
     intro p hp;rcases List.mem_cons.1 hp with e|e
     ·subst e;exact hxy
     ·exact blt_trans hxy (h.1 p e)
theorem foldl_put_ris:∀ {l acc:List NF},Ris acc→Ris (l.foldl put acc)
 | [],_,h=>h
 | _::r,_,h=>foldl_put_ris (l:=r) (put_ris h)
theorem srt_ris(l:List NF):Ris (srt l):=foldl_put_ris List.Pairwise.nil
theorem put_has:∀ {l:List NF} {x:NF},(∀ y,name y=name x→y∈l→y=x)→x∈put l x
 | [],x,_=>by simp[put]
 | y::r,x,h=>by
   unfold put
   split
   ·exact List.mem_cons_of_mem _ (put_has (fun z hz hm=>h z hz (List.mem_cons_of_mem _ hm)))
   ·split
    ·rename_i e
     rw[h y (eq_of_beq e) (by simp)];simp
    ·simp
theorem put_sub:∀ {l:List NF} {x p:NF},p∈l→p∈put l x
 | y::r,x,p,h=>by
   unfold put
   split
   ·rcases List.mem_cons.1 h with e|e
    ·simp[e]
    ·exact List.mem_cons_of_mem _ (put_sub e)
   ·split
    ·exact h
    ·exact List.mem_cons_of_mem _ h
def Tell(l:List NF):Prop:=∀ x∈l,∀ y∈l,name x=name y→x=y
theorem foldl_put_has:∀ {l acc:List NF} {p:NF},Tell (acc++l)→(p∈acc∨p∈l)→p∈l.foldl put acc
 | [],acc,p,_,h=>by simpa using h
 | x::r,acc,p,ht,h=>by
   have hx:x∈put acc x:=put_has (fun y e hy=>ht y (by simp[hy]) x (by simp) e);refine foldl_put_has (l:=r) ?_ ?_
   ·intro a ha b hb e
    have cv:∀ z,z∈put acc x++r→z∈acc++x::r:=by
     intro z hz;rcases List.mem_append.1 hz with h|h
     ·rcases put_mem h with h|h
      ·simp[h]
      ·simp[h]
     ·simp[h]
    exact ht a (cv a ha) b (cv b hb) e
   ·rcases h with h|h
    ·exact .inl (put_sub h)
    ·rcases List.mem_cons.1 h with e|e
     ·subst e;exact .inl hx
     ·exact .inr e
theorem srt_mem_iff{l:List NF}(ht:Tell l){p:NF}:p∈srt l↔p∈l :=
 ⟨srt_mem,fun h=>foldl_put_has (acc:=[]) ht (.inr h)⟩
theorem ris_ext:∀ {a b:List NF},Ris a→Ris b→(∀ p,p∈a↔p∈b)→a=b
 | [],[],_,_,_=>rfl
 | [],y::b,_,_,h=>by have:=(h y).2 (by simp);simp at this
 | x::a,[],_,_,h=>by have:=(h x).1 (by simp);simp at this
 | x::a,y::b,ha,hb,h=>by
   have ha':=List.pairwise_cons.1 ha;have hb':=List.pairwise_cons.1 hb;have hxy:x=y:=by
    rcases List.mem_cons.1 ((h x).1 (by simp)) with e|e
    ·exact e
    ·rcases List.mem_cons.1 ((h y).2 (by simp)) with e2|e2
     ·exact e2.symm
     ·have:=blt_trans (hb'.1 x e) (ha'.1 y e2);rw[blt_irrefl]at this;contradiction
   subst hxy
   congr 1
   refine ris_ext ha'.2 hb'.2 ?_;intro p
   constructor
   ·intro hp
    rcases List.mem_cons.1 ((h p).1 (by simp[hp])) with e|e
    ·subst e;have:=ha'.1 p hp;rw[blt_irrefl]at this;contradiction
    ·exact e
   ·intro hp
    rcases List.mem_cons.1 ((h p).2 (by simp[hp])) with e|e
    ·subst e;have:=hb'.1 p hp;rw[blt_irrefl]at this;contradiction
    ·exact e
set_option linter.unusedVariables false
set_option linter.unusedSimpArgs false
/-! Names tell forms apart. -/
def hexL(c:UInt8):Bool:=(48≤c&&c≤57)||(97≤c&&c≤102)
def okr(r:List UInt8):Prop:=∀ c r',r=c::r'→c≠42∧hexL c=false
def stars:Nat→List UInt8
 | 0=>[]
 | n+1=>42::stars n
def starK:Nat→NF→NF
 | 0,x=>x
 | n+1,x=>starK n (.star x)
theorem stars_inj:∀ {k k':Nat} {r r':List UInt8},okr r→okr r'→stars k++r=stars k'++r'→k=k'∧r=r'
 | 0,0,r,r',_,_,h=>⟨rfl,h⟩
 | 0,k+1,r,r',h1,_,h=>by
   have:=h1 42 (stars k++r') h;simp at this
 | k+1,0,r,r',_,h2,h=>by
   have:=h2 42 (stars k++r) h.symm;simp at this
 | k+1,k'+1,r,r',h1,h2,h=>by
   simp only[stars,List.cons_append,List.cons.injEq,true_and]at h;obtain ⟨e,e2⟩:=stars_inj h1 h2 h;exact ⟨by rw[e],e2⟩
theorem hexB_hex(n:Nat)(h:n<16):hexL (hexB n)=true:=by
 have:∀ m:Fin 16,hexL (hexB m.1)=true:=by decide
 exact this ⟨n,h⟩
def unhex(c:UInt8):Nat:=if c≤57 then c.toNat-48 else c.toNat-87
theorem unhex_hexB(n:Nat)(h:n<16):unhex (hexB n)=n:=by
 have:∀ m:Fin 16,unhex (hexB m.1)=m.1:=by decide
 exact this ⟨n,h⟩
def unName:List UInt8→List Nat
 | a::b::r=>(unhex a*16+unhex b)::unName r
 | _=>[]
theorem setName_hex(s:Nat):∀ k,k≤256→∀ c∈setName s k,hexL c=true
 | 0,_,c,h=>by simp[setName]at h
 | k+1,hk,c,h=>by
   simp only[setName,List.mem_append]at h;rcases h with h|h
   ·exact setName_hex s k (by omega) c h
   ·split at h
    ·simp at h
     rcases h with rfl|rfl
     ·exact hexB_hex _ (by omega)
     ·exact hexB_hex _ (by omega)
    ·simp at h
def mems(s:Nat):Nat→List Nat
 | 0=>[]
 | k+1=>mems s k++(if s.testBit k then [k] else [])
theorem unName_app:∀ (a:List UInt8) (x y:UInt8),(∃ m,a.length=2*m)→unName (a++[x,y])=unName a++[unhex x*16+unhex y]
 | [],x,y,_=>rfl
 | [a],x,y,h=>by obtain ⟨m,h⟩:=h;simp at h;omega
 | a::b::r,x,y,h=>by
   obtain ⟨m,h⟩:=h;have:=unName_app r x y ⟨m-1,by simp at h;omega⟩;simp only[List.cons_append,unName,this]
theorem setName_len(s:Nat):∀ k,∃ m,(setName s k).length=2*m
 | 0=>⟨0,rfl⟩
 | k+1=>by
   obtain ⟨m,h⟩:=setName_len s k;simp only[setName]
   split
   ·exact ⟨m+1,by simp[h];omega⟩
   ·exact ⟨m,by simp[h]⟩
theorem unName_set(s:Nat):∀ k,k≤256→unName (setName s k)=mems s k
 | 0,_=>rfl
 | k+1,h=>by
   have h1:=unName_set s k (by omega);simp only[setName,mems]
   split
   ·rw[unName_app _ _ _ (setName_len s k),h1,unhex_hexB _ (by omega),unhex_hexB _ (by omega)]
    congr 2;omega
   ·simp[h1]
theorem mems_mem(s:Nat):∀ k i,i∈mems s k↔i<k∧s.testBit i=true
 | 0,i=>by simp[mems]
 | k+1,i=>by
   simp only[mems,List.mem_append,mems_mem s k i]
   by_cases h:s.testBit k=true
   ·rw[if_pos h];simp only[List.mem_singleton]
    constructor
    ·rintro (⟨a,b⟩|rfl)
     ·exact ⟨by omega,b⟩
     ·exact ⟨by omega,h⟩
    ·rintro ⟨a,b⟩
     by_cases e:i=k
     ·exact .inr e
     ·exact .inl ⟨by omega,b⟩
   ·rw[if_neg h];simp only[List.not_mem_nil,or_false]
    constructor
    ·rintro ⟨a,b⟩;exact ⟨by omega,b⟩
    ·rintro ⟨a,b⟩
     refine ⟨?_,b⟩
     by_cases e:i=k
     ·subst e;contradiction
     ·omega
theorem setName_inj{s t:Nat}(hs:s<2 ^ 256)(ht:t<2 ^ 256)(h:setName s 256=setName t 256):s=t:=by
 have h1:mems s 256=mems t 256:=by rw[← unName_set s 256 (by omega),← unName_set t 256 (by omega),h]
 apply Nat.eq_of_testBit_eq;intro i
 by_cases hi:i<256
 ·have h2:=mems_mem s 256 i
  have h3:=mems_mem t 256 i;rw[h1]at h2;rw[Bool.eq_iff_iff]
  constructor
  ·intro e;exact (h3.1 (h2.2 ⟨hi,e⟩)).2
  ·intro e;exact (h2.1 (h3.2 ⟨hi,e⟩)).2
 ·rw[Nat.testBit_lt_two_pow (Nat.lt_of_lt_of_le hs (Nat.pow_le_pow_right (by omega) (by omega))),Nat.testBit_lt_two_pow (Nat.lt_of_lt_of_le ht (Nat.pow_le_pow_right (by omega) (by omega)))]
theorem hex_span:∀ {a b r r':List UInt8},(∀ c∈a,hexL c=true)→(∀ c∈b,hexL c=true)→(∀ c q,r=c::q→hexL c=false)→(∀ c q,r'=c::q→hexL c=false)→a++r=b++r'→a=b∧r=r'
 | [],[],r,r',_,_,_,_,h=>⟨rfl,h⟩
 | [],y::b,r,r',_,hb,h1,_,h=>by
   have:=h1 y (b++r') h;rw[hb y (by simp)]at this;contradiction
 | x::a,[],r,r',ha,_,_,h2,h=>by
   have:=h2 x (a++r) h.symm;rw[ha x (by simp)]at this;contradiction
 | x::a,y::b,r,r',ha,hb,h1,h2,h=>by
   simp only[List.cons_append,List.cons.injEq]at h;obtain ⟨e1,e2⟩:=hex_span (fun c hc=>ha c (by simp[hc])) (fun c hc=>hb c (by simp[hc])) h1 h2 h.2;exact ⟨by rw[h.1,e1],e2⟩
theorem okr_stars{r:List UInt8}(h:okr r)(k:Nat):∀ c q,stars k++r=c::q→hexL c=false:=by
 intro c q e;cases k with
 | zero=>exact (h c q e).2
 | succ k=>simp[stars]at e;rw[← e.1];decide
def NI(n:Nat):Prop:=∀ (x y:NF),x.size+y.size≤n→wf x→wf y→∀ (k k':Nat) (r r':List UInt8),okr r→okr r'→name x++(stars k++r)=name y++(stars k'++r')→starK k x=starK k' y∧r=r'
theorem okr32(r:List UInt8):okr (32::r):=by intro c q e;simp at e;rw[← e.1];decide
theorem okr41(r:List UInt8):okr (41::r):=by intro c q e;simp at e;rw[← e.1];decide
theorem okr124(r:List UInt8):okr (124::r):=by intro c q e;simp at e;rw[← e.1];decide
theorem name_head(x:NF):∃ c r,name x=c::r∧c≠93:=by
 refine NF.ind (P:=fun x=>∃ c r,name x=c::r∧c≠93) ?_ x;intro x ih;cases x with
 | zero=>exact ⟨_,_,rfl,by decide⟩
 | one=>exact ⟨_,_,rfl,by decide⟩
 | set s=>exact ⟨_,_,rfl,by decide⟩
 | pair a b=>exact ⟨_,_,rfl,by decide⟩
 | sum l=>exact ⟨_,_,rfl,by decide⟩
 | star a =>
   obtain ⟨c,r,h,hc⟩:=ih a (by simp[NF.size]);exact ⟨c,r++[42],by simp[name,h],hc⟩
theorem nameL_inj{n:Nat}(hn:NI n):∀ {l l':List NF} {r r':List UInt8},sizeL l+sizeL l'≤n→wfL l→wfL l'→nameL l++93::r=nameL l'++93::r'→l=l'∧r=r'
 | [],[],r,r',_,_,_,h=>by simpa[nameL] using h
 | [],y::l',r,r',_,_,_,h=>by
   obtain ⟨c,q,e,hc⟩:=name_head y;simp[nameL,e]at h;exact absurd h.1.symm hc
 | x::l,[],r,r',_,_,_,h=>by
   obtain ⟨c,q,e,hc⟩:=name_head x;simp[nameL,e]at h;exact absurd h.1 hc
 | x::l,y::l',r,r',hs,h1,h2,h=>by
   simp only[sizeL]at hs;simp only[nameL,List.append_assoc,List.cons_append]at h;obtain ⟨e1,e2⟩:=hn x y (by omega) h1.1 h2.1 0 0 _ _ (okr124 _) (okr124 _) h;simp only[List.cons.injEq,true_and]at e2;obtain ⟨e3,e4⟩:=nameL_inj hn (by omega) h1.2 h2.2 e2;exact ⟨by rw[show x=y from e1,e3],e4⟩
theorem name_inj_all:∀ n,NI n
 | 0=>by intro x y h;have:=x.size_pos;omega
 | n+1=>by
   have ih:=name_inj_all n;intro x y hs wx wy k k' r r' hr hr' h
   -- a star on either side
   cases x with
   | star a =>
     have:name a++(stars (k+1)++r)=name y++(stars k'++r'):=by
      simp only[name,List.append_assoc,List.singleton_append]at h;exact h
     exact ih a y (by simp[NF.size]at hs;omega) wx.1 wy (k+1) k' r r' hr hr' this
   | zero =>
     cases y with
     | star b =>
       have:name NF.zero++(stars k++r)=name b++(stars (k'+1)++r'):=by
        simp only[name,List.append_assoc,List.singleton_append]at h ⊢;exact h
       exact ih _ b (by simp[NF.size]at hs ⊢;omega) wx wy.1 k (k'+1) r r' hr hr' this
     | zero =>
       simp only[name,List.cons_append,List.cons.injEq,true_and,List.nil_append]at h;obtain ⟨e1,e2⟩:=stars_inj hr hr' h;exact ⟨by rw[e1],e2⟩
     | _=>simp[name]at h
   | one =>
     cases y with
     | star b =>
       have:name NF.one++(stars k++r)=name b++(stars (k'+1)++r'):=by
        simp only[name,List.append_assoc,List.singleton_append]at h ⊢;exact h
       exact ih _ b (by simp[NF.size]at hs ⊢;omega) wx wy.1 k (k'+1) r r' hr hr' this
     | one =>
       simp only[name,List.cons_append,List.cons.injEq,true_and,List.nil_append]at h;obtain ⟨e1,e2⟩:=stars_inj hr hr' h;exact ⟨by rw[e1],e2⟩
     | _=>simp[name]at h
   | set s =>
     cases y with
     | star b =>
       have:name (.set s)++(stars k++r)=name b++(stars (k'+1)++r'):=by
        simp only[name,List.append_assoc,List.singleton_append]at h ⊢;exact h
       exact ih _ b (by simp[NF.size]at hs ⊢;omega) wx wy.1 k (k'+1) r r' hr hr' this
     | set t =>
       simp only[name,List.cons_append,List.cons.injEq,true_and]at h;obtain ⟨e1,e2⟩:=hex_span (setName_hex s 256 (by omega)) (setName_hex t 256 (by omega)) (okr_stars hr k) (okr_stars hr' k') h;obtain ⟨e3,e4⟩:=stars_inj hr hr' e2;exact ⟨by rw[e3,setName_inj wx.2 wy.2 e1],e4⟩
     | _=>simp[name]at h
   | pair a b =>
     cases y with
     | star c =>
       have:name (.pair a b)++(stars k++r)=name c++(stars (k'+1)++r'):=by
        simp only[name,List.append_assoc,List.singleton_append]at h ⊢;exact h
       exact ih _ c (by simp[NF.size]at hs ⊢;omega) wx wy.1 k (k'+1) r r' hr hr' this
     | pair c d =>
       simp only[name,List.cons_append,List.append_assoc,List.cons.injEq,true_and,List.nil_append]at h;simp only[NF.size]at hs;obtain ⟨e1,e2⟩:=ih a c (by omega) wx.1 wy.1 0 0 _ _ (okr32 _) (okr32 _) h;simp only[List.cons.injEq,true_and]at e2;obtain ⟨e3,e4⟩:=ih b d (by omega) wx.2.1 wy.2.1 0 0 _ _ (okr41 _) (okr41 _) e2;simp only[List.cons.injEq,true_and]at e4;obtain ⟨e5,e6⟩:=stars_inj hr hr' e4;exact ⟨by rw[e5,show a=c from e1,show b=d from e3],e6⟩
     | _=>simp[name]at h
   | sum l =>
     cases y with
     | star c =>
       have:name (.sum l)++(stars k++r)=name c++(stars (k'+1)++r'):=by
        simp only[name,List.append_assoc,List.singleton_append]at h ⊢;exact h
       exact ih _ c (by simp[NF.size]at hs ⊢;omega) wx wy.1 k (k'+1) r r' hr hr' this
     | sum l' =>
       simp only[name,List.cons_append,List.append_assoc,List.cons.injEq,true_and,List.nil_append]at h;simp only[NF.size]at hs;obtain ⟨e1,e2⟩:=nameL_inj ih (by omega) wx.1 wy.1 h;obtain ⟨e5,e6⟩:=stars_inj hr hr' e2;exact ⟨by rw[e5,e1],e6⟩
     | _=>simp[name]at h
theorem name_inj{x y:NF}(hx:wf x)(hy:wf y)(h:name x=name y):x=y:=by
 have h0:okr []:=by intro c q e;simp at e
 exact (name_inj_all _ x y (Nat.le_refl _) hx hy 0 0 [] [] h0 h0 (by simpa[stars] using h)).1
theorem tell_wf{l:List NF}(h:∀ x∈l,wf x):Tell l:=fun x hx y hy e=>name_inj (h x hx) (h y hy) e
set_option linter.unusedVariables false
set_option linter.unusedSimpArgs false
theorem joinB_bit:∀ (l:List NF) (i:Nat),(joinB l).testBit i=l.any fun x=>(bits x).testBit i
 | [],i=>by simp[joinB]
 | x::r,i=>by rw[joinB_cons,Nat.testBit_or,joinB_bit r i];simp
theorem joinB_congr{a b:List NF}(h:∀ i,(a.any fun x=>(bits x).testBit i)=b.any fun x=>(bits x).testBit i):joinB a=joinB b:=by
 apply Nat.eq_of_testBit_eq;intro i;rw[joinB_bit,joinB_bit,h]
theorem bits_non{x:NF}(h:isS x=false):bits x=0:=by cases x<;>simp[isS]at h<;>rfl
theorem core_iff{l:List NF}{p:NF}:p∈coreL l↔(p∈l∧isS p=false)∨(joinB l≠0∧p=.set (joinB l)):=by
 unfold coreL;rw[List.mem_append,List.mem_filter]
 by_cases h:joinB l=0
 ·rw[if_pos h];simp[h]
 ·rw[if_neg h];simp[h]
theorem core_wf{l:List NF}(hw:∀ x∈l,wf x):∀ x∈coreL l,wf x:=by
 intro x hx;rcases core_iff.1 hx with h|⟨h1,rfl⟩
 ·exact hw x h.1
 ·exact ⟨Nat.pos_of_ne_zero h1,joinB_lt hw⟩
theorem core_atom{l:List NF}(hw:∀ x∈l,atomN x=true):∀ x∈coreL l,atomN x=true:=by
 intro x hx;rcases core_iff.1 hx with h|⟨h1,rfl⟩
 ·exact hw x h.1
 ·rfl
theorem srt_core_eq{F G:List NF}(hF:∀ x∈F,wf x)(hG:∀ x∈G,wf x)(h:∀ p,isS p=false→(p∈F↔p∈G))(hj:joinB F=joinB G):srt (coreL F)=srt (coreL G):=by
 refine ris_ext (srt_ris _) (srt_ris _) ?_;intro p;rw[srt_mem_iff (tell_wf (core_wf hF)),srt_mem_iff (tell_wf (core_wf hG)),core_iff,core_iff,hj]
 constructor
 ·rintro (⟨a,b⟩|a)
  ·exact .inl ⟨(h p b).1 a,b⟩
  ·exact .inr a
 ·rintro (⟨a,b⟩|a)
  ·exact .inl ⟨(h p b).2 a,b⟩
  ·exact .inr a
theorem flat_wf{ls:List NF}(hw:∀ x∈ls,wf x):∀ p∈ls.flatMap parts,wf p:=by
 intro p hp;obtain ⟨x,hx,hp⟩:=List.mem_flatMap.1 hp;exact parts_wf (hw x hx) hp
theorem flat_atom{ls:List NF}(hw:∀ x∈ls,wf x):∀ p∈ls.flatMap parts,atomN p=true:=by
 intro p hp;obtain ⟨x,hx,hp⟩:=List.mem_flatMap.1 hp;exact parts_atom (hw x hx) hp
theorem orL_mem{ls:List NF}(hw:∀ x∈ls,wf x){p:NF}:p∈parts (orL ls)↔p∈coreL (ls.flatMap parts):=by
 unfold orL;rw[mkS_parts (fun q hq=>core_atom (flat_atom hw) q (srt_mem hq)),srt_mem_iff (tell_wf (core_wf (flat_wf hw)))]
theorem orL_join{ls:List NF}(hw:∀ x∈ls,wf x):joinB (parts (orL ls))=joinB (ls.flatMap parts):=by
 apply Nat.eq_of_testBit_eq;intro i;rw[joinB_bit,Bool.eq_iff_iff,List.any_eq_true]
 constructor
 ·rintro ⟨p,hp,hb⟩
  rcases core_iff.1 ((orL_mem hw).1 hp) with ⟨_,h⟩|⟨_,rfl⟩
  ·rw[bits_non h]at hb;simp at hb
  ·exact hb
 ·intro hb
  have hne:joinB (ls.flatMap parts)≠0:=by intro e;rw[e]at hb;simp at hb
  exact ⟨.set (joinB (ls.flatMap parts)),(orL_mem hw).2 (core_iff.2 (.inr ⟨hne,rfl⟩)),hb⟩
theorem joinB_append(a b:List NF):joinB (a++b)=joinB a ||| joinB b:=by
 apply Nat.eq_of_testBit_eq;intro i;rw[Nat.testBit_or,joinB_bit,joinB_bit,joinB_bit,List.any_append]
theorem orL_or{xs1 bs:List NF}(ha:∀ x∈xs1,wf x)(hb:∀ x∈bs,wf x):orL (orL xs1::bs)=orL (xs1++bs):=by
 have hab:∀ x∈xs1++bs,wf x:=by
  intro x hx;rcases List.mem_append.1 hx with h|h
  ·exact ha x h
  ·exact hb x h
 have ho:∀ x∈orL xs1::bs,wf x:=by
  intro x hx;rcases List.mem_cons.1 hx with h|h
  ·rw[h];exact orL_wf ha
  ·exact hb x h
 show mkS _=mkS _
 congr 1
 refine srt_core_eq (flat_wf ho) (flat_wf hab) ?_ ?_
 ·intro p hp
  simp only[List.flatMap_cons,List.flatMap_append,List.mem_append];rw[orL_mem ha,core_iff]
  constructor
  ·rintro ((h|⟨_,rfl⟩)|h)
   ·exact .inl h.1
   ·simp[isS]at hp
   ·exact .inr h
  ·rintro (h|h)
   ·exact .inl (.inl ⟨h,hp⟩)
   ·exact .inr h
 ·simp only[List.flatMap_cons,List.flatMap_append,joinB_append]
  rw[orL_join ha]
theorem orL_congr{xs1 bs:List NF}(ha:∀ x∈xs1,wf x)(hb:∀ x∈bs,wf x)(h:∀ p,p∈xs1.flatMap parts↔p∈bs.flatMap parts):orL xs1=orL bs:=by
 show mkS _=mkS _
 congr 1
 refine srt_core_eq (flat_wf ha) (flat_wf hb) (fun p _=>h p) ?_;refine joinB_congr fun i=>?_
 rw[Bool.eq_iff_iff,List.any_eq_true,List.any_eq_true]
 constructor
 ·rintro ⟨x,hx,hb⟩;exact ⟨x,(h x).1 hx,hb⟩
 ·rintro ⟨x,hx,hb⟩;exact ⟨x,(h x).2 hx,hb⟩
def canT(x:NF):Prop:=orL [x]=x
theorem canT_or{ls:List NF}(hw:∀ x∈ls,wf x):canT (orL ls):=by
 have:=orL_or hw (bs:=[]) (by simp);rwa [List.append_nil]at this
theorem canT_non{x:NF}(hx:wf x)(h:∀ l,x≠.sum l):canT x:=by
 cases x with
 | sum l=>exact absurd rfl (h l)
 | zero=>rfl
 | one=>simp[canT,orL,parts,coreL,isS,joinB,bits,srt,put,mkS]
 | pair a b=>simp[canT,orL,parts,coreL,isS,joinB,bits,srt,put,mkS]
 | star a=>simp[canT,orL,parts,coreL,isS,joinB,bits,srt,put,mkS]
 | set s =>
   have:s≠0:=by have:=hx.1;omega
   simp[canT,orL,parts,coreL,isS,joinB,bits,srt,put,mkS,this]
mutual
def can:NF→Prop
 | .zero=>True
 | .one=>True
 | .set _=>True
 | .pair a b=>can a∧can b
 | .sum l=>canL l∧canT (.sum l)
 | .star a=>can a
def canL:List NF→Prop
 | []=>True
 | x::r=>can x∧canL r
end
theorem canL_mem:∀ {l:List NF},canL l↔∀ x∈l,can x
 | []=>by simp[canL]
 | x::r=>by simp[canL,canL_mem (l:=r)]
theorem can_T{x:NF}(hw:wf x)(h:can x):canT x:=by
 cases x with
 | sum l=>exact h.2
 | _=>exact canT_non hw (by simp)
theorem parts_can{x p:NF}(hx:can x)(h:p∈parts x):can p:=by
 cases x with
 | zero=>simp[parts]at h
 | sum l=>exact canL_mem.1 hx.1 p h
 | _=>simp[parts]at h;subst h;exact hx
theorem orL_can{ls:List NF}(hw:∀ x∈ls,wf x)(hc:∀ x∈ls,can x):can (orL ls):=by
 have hp:∀ p∈parts (orL ls),can p:=by
  intro p hp;rcases core_iff.1 ((orL_mem hw).1 hp) with ⟨h,_⟩|⟨_,rfl⟩
  ·obtain ⟨x,hx,h⟩:=List.mem_flatMap.1 h;exact parts_can (hc x hx) h
  ·trivial
 cases ho:orL ls with
 | zero=>trivial
 | sum l =>
   rw[ho]at hp;refine ⟨canL_mem.2 hp,?_⟩;have:=canT_or hw;rwa [ho]at this
 | one=>trivial
 | set s=>trivial
 | pair a b=>rw[ho]at hp;exact hp _ (by simp[parts])
 | star a=>rw[ho]at hp;exact hp _ (by simp[parts])
theorem thenN_can:∀ {a b:NF},can a→can b→can (thenN a b)
 | .zero,b,_,_=>trivial
 | .one,b,_,hb=>hb
 | .pair c d,b,ha,hb=>by
   by_cases ht:tailN b=true
   ·rw[thenN_pairs ht];exact thenN_can ha.1 (thenN_can ha.2 hb)
   ·rcases not_tail ht with rfl|rfl
    ·rw[thenN_zero];trivial
    ·rw[thenN_one];exact ha
 | .set s,b,ha,hb=>by
   by_cases ht:tailN b=true
   ·rw[thenN_head rfl ht];exact ⟨ha,hb⟩
   ·rcases not_tail ht with rfl|rfl
    ·rw[thenN_zero];trivial
    ·rw[thenN_one];exact ha
 | .sum l,b,ha,hb=>by
   by_cases ht:tailN b=true
   ·rw[thenN_head rfl ht];exact ⟨ha,hb⟩
   ·rcases not_tail ht with rfl|rfl
    ·rw[thenN_zero];trivial
    ·rw[thenN_one];exact ha
 | .star a,b,ha,hb=>by
   by_cases ht:tailN b=true
   ·rw[thenN_head rfl ht];exact ⟨ha,hb⟩
   ·rcases not_tail ht with rfl|rfl
    ·rw[thenN_zero];trivial
    ·rw[thenN_one];exact ha
theorem left_can(c:Nat)(x:NF):wf x→can x→can (left c x):=by
 refine NF.ind (P:=fun x=>wf x→can x→can (left c x)) ?_ x;intro x ih hw hx;cases x with
 | zero=>trivial
 | one=>trivial
 | set s=>simp only[left];split<;>trivial
 | pair a b =>
   obtain ⟨wa,wb,_,_⟩:=hw;have h1:=thenN_can (ih a (by simp[NF.size];omega) wa hx.1) hx.2;simp only[left]
   split
   ·refine orL_can ?_ ?_
    ·simp;exact ⟨thenN_wf (left_wf c a wa) wb,left_wf c b wb⟩
    ·simp;exact ⟨h1,ih b (by simp[NF.size];omega) wb hx.2⟩
   ·exact h1
 | sum l =>
   simp only[left,leftL_map];refine orL_can ?_ ?_
   ·intro y hy;obtain ⟨z,hz,rfl⟩:=List.mem_map.1 hy;exact left_wf c z (wfL_mem.1 hw.1 z hz)
   ·intro y hy
    obtain ⟨z,hz,rfl⟩:=List.mem_map.1 hy;have:=size_mem hz;exact ih z (by simp[NF.size];omega) (wfL_mem.1 hw.1 z hz) (canL_mem.1 hx.1 z hz)
 | star a=>exact thenN_can (ih a (by simp[NF.size]) hw.1 hx) hx
theorem starN_wf{a:NF}(h:wf a):wf (starN a):=by cases a<;>first | trivial|exact h|exact ⟨h,rfl⟩
theorem starN_can{a:NF}(h:can a):can (starN a):=by cases a<;>first | trivial|exact h
set_option linter.unusedVariables false
set_option linter.unusedSimpArgs false
/-- What is met when what is left of a form behind w is looked at. -/
def Vis(X:NF)(w:List Nat)(f:NF):Prop :=
 ∃ Z u Y t v,(Z,u)∈occ X∧(Y,t)∈occ Z∧v <:+ w∧f=mk (dW Y v) t∧(t≠[]→headN (dW Y v)=true)
theorem occ_trans{X Z Y:NF}{u t:List NF}(h:(Z,u)∈occ X)(k:(Y,t)∈occ Z):∃ s,(Y,s)∈occ X:=⟨_,occ_comp h k⟩
theorem vis_self{X Y:NF}{t:List NF}(h:(Y,t)∈occ X){v w:List Nat}(hv:v <:+ w):Vis X w (dW Y v) :=
 ⟨Y,t,Y,[],v,h,occ_self Y,hv,rfl,fun h=>absurd rfl h⟩
theorem vis_chain{X Z Y:NF}{u t:List NF}(hX:wf X)(hZ:(Z,u)∈occ X)(hY:(Y,t)∈occ Z)(ht:t≠[])(w:List Nat):Vis X w (chain t):=by
 match t,hY,ht with
 | c1::r,hY,_ =>
   have h1:=occ_tail (u:=[]) hY rfl;have hg:=(occ_good (occ_good hX hZ).1 hY).2 c1 (by simp);refine ⟨Z,u,c1,r,[],hZ,h1,List.nil_suffix,?_,fun _=>hg.2⟩;cases r<;>rfl
theorem vis_cls{X Y:NF}{t:List NF}(h:(Y,t)∈occ X){v w:List Nat}(hv:v <:+ w){p:NF}(hc:Cls Y v p):isS p=true∨p=.one∨Vis X w p:=by
 rcases hc with h1|h1|⟨Y',s,v',h1,h2,h3,h4,h5⟩
 ·exact .inl h1
 ·exact .inr (.inl h1)
 ·exact .inr (.inr ⟨Y,t,Y',s,v',h,h1,h2.trans hv,h4,fun _=>h3⟩)
theorem vis_pair{X:NF}(hX:wf X){w:List Nat}{a b:NF}(h:Vis X w (.pair a b)) :
 ∃ Z u Y t v,(Z,u)∈occ X∧(Y,t)∈occ Z∧t≠[]∧v <:+ w∧a=dW Y v∧headN a=true∧b=chain t:=by
 obtain ⟨Z,u,Y,t,v,hZ,hY,hv,hf,hh⟩:=h
 by_cases ht:t=[]
 ·subst ht
  rw[show mk (dW Y v) []=dW Y v from rfl]at hf;have hwZ:=(occ_good hX hZ).1;have hwY:=(occ_good hwZ hY).1;have hc:=parts_dW Y hwY v (.pair a b) (by rw[← hf];simp[parts]);rcases hc with h1|h1|⟨Y',s,v',h1,h2,h3,h4,h5⟩
  ·simp[isS]at h1
  ·simp at h1
  ·obtain ⟨u',hYX⟩:=occ_trans hZ hY
   by_cases hs:s=[]
   ·subst hs
    rw[show mk (dW Y' v') []=dW Y' v' from rfl]at h4;rw[← h4]at h3;simp[headN]at h3
   ·rw[mk_ne hs]at h4
    simp only[NF.pair.injEq]at h4;exact ⟨Y,u',Y',s,v',hYX,h1,hs,h2.trans hv,h4.1,by rw[h4.1];exact h3,h4.2⟩
 ·rw[mk_ne ht]at hf
  simp only[NF.pair.injEq]at hf;exact ⟨Z,u,Y,t,v,hZ,hY,ht,hv,hf.1,by rw[hf.1];exact hh ht,hf.2⟩
theorem vis_pair1{X:NF}(hX:wf X){w:List Nat}{a b:NF}(h:Vis X w (.pair a b)):Vis X w a:=by
 obtain ⟨Z,u,Y,t,v,hZ,hY,ht,hv,rfl,_,rfl⟩:=vis_pair hX h;obtain ⟨s,hs⟩:=occ_trans hZ hY;exact vis_self hs hv
theorem vis_pair2{X:NF}(hX:wf X){w:List Nat}{a b:NF}(h:Vis X w (.pair a b)):Vis X w b:=by
 obtain ⟨Z,u,Y,t,v,hZ,hY,ht,hv,rfl,_,rfl⟩:=vis_pair hX h;exact vis_chain hX hZ hY ht w
theorem vis_star{X:NF}(hX:wf X){w:List Nat}{a:NF}(h:Vis X w (.star a)):∃ s,(.star a,s)∈occ X:=by
 obtain ⟨Z,u,Y,t,v,hZ,hY,hv,hf,hh⟩:=h
 by_cases ht:t=[]
 ·subst ht
  rw[show mk (dW Y v) []=dW Y v from rfl]at hf;have hwZ:=(occ_good hX hZ).1;have hwY:=(occ_good hwZ hY).1;obtain ⟨u',hYX⟩:=occ_trans hZ hY;rcases parts_dW Y hwY v (.star a) (by rw[← hf];simp[parts]) with h1|h1|⟨Y',s,v',h1,h2,h3,h4,h5⟩
  ·simp[isS]at h1
  ·simp at h1
  ·rcases h5 with rfl|⟨hs,_⟩
   ·by_cases hs:s=[]
    ·subst hs
     have h4':NF.star a=Y':=h4;subst h4';exact occ_trans hYX h1
    ·rw[mk_ne hs]at h4;simp at h4
   ·rw[mk_ne hs]at h4;simp at h4
 ·rw[mk_ne ht]at hf;simp at hf
theorem vis_star1{X:NF}(hX:wf X){w:List Nat}{a:NF}(h:Vis X w (.star a)):Vis X w a:=by
 obtain ⟨s,hs⟩:=vis_star hX h;exact vis_self (v:=[]) (occ_comp hs (occ_star (occ_self a))) List.nil_suffix
theorem vis_sum{X:NF}(hX:wf X){w:List Nat}{l:List NF}(h:Vis X w (.sum l)){p:NF}(hp:p∈l):isS p=true∨p=.one∨Vis X w p:=by
 obtain ⟨Z,u,Y,t,v,hZ,hY,hv,hf,hh⟩:=h
 by_cases ht:t=[]
 ·subst ht
  rw[show mk (dW Y v) []=dW Y v from rfl]at hf;have hwZ:=(occ_good hX hZ).1;have hwY:=(occ_good hwZ hY).1;obtain ⟨u',hYX⟩:=occ_trans hZ hY;exact vis_cls hYX hv (parts_dW Y hwY v p (by rw[← hf];exact hp))
 ·rw[mk_ne ht]at hf;simp at hf
def crT:NF→NF→List NF
 | .zero,_=>[]
 | .one,_=>[]
 | .pair c d,b=>match b with
   | .zero=>[]
   | .one=>[]
   | b=>crT d b++crT c (thenN d b)
 | a,b=>match b with
   | .zero=>[]
   | .one=>[]
   | b=>[.pair a b]
theorem crT_head{a b:NF}(ha:headN a=true)(hb:tailN b=true):crT a b=[.pair a b]:=by
 cases a<;>simp[headN]at ha<;>cases b<;>simp[tailN]at hb<;>rfl
theorem crT_pair{c d b:NF}(hb:tailN b=true):crT (.pair c d) b=crT d b++crT c (thenN d b):=by
 cases b<;>simp[tailN]at hb<;>rfl
theorem crT_chain:∀ {s t:List NF} {f:NF},elG s→elG t→s≠[]→t≠[]→f∈crT (chain s) (chain t)→∃ x c1 r,s=x++c1::r∧f=mk c1 (r++t)
 | [x],t,f,hs,ht,_,hne,h=>by
   rw[show chain [x]=x from rfl,crT_head (hs x (by simp)).2 (chain_tail ht hne)]at h;simp at h;exact ⟨[],x,[],rfl,by rw[h,List.nil_append,mk_ne hne]⟩
 | x::y::s,t,f,hs,ht,_,hne,h=>by
   have hs':elG (y::s):=fun z hz=>hs z (by simp at hz ⊢;exact .inr hz)
   have hst:elG (y::s++t):=by
    intro w hw;rcases List.mem_append.1 hw with hw|hw
    ·exact hs' w hw
    ·exact ht w hw
   rw[chain_cons (by simp),crT_pair (chain_tail ht hne),thenN_chain hs' ht,crT_head (hs x (by simp)).2 (chain_tail hst (by simp))]at h;rcases List.mem_append.1 h with h|h
   ·obtain ⟨a,c1,r,e,e2⟩:=crT_chain hs' ht (by simp) hne h
    exact ⟨x::a,c1,r,by rw[e];rfl,e2⟩
   ·simp at h
    exact ⟨[],x,y::s,rfl,by rw[h];rfl⟩
theorem vis_crT{X Z Y:NF}{u t:List NF}{v w:List Nat}{c:Nat}(hX:wf X)(hZ:(Z,u)∈occ X)(hY:(Y,t)∈occ Z)(ht:t≠[])(hv:v <:+ w){f:NF}
 (h:f∈crT (left c (dW Y v)) (chain t)):Vis X (w++[c]) f:=by
 have hwZ:=(occ_good hX hZ).1;have hwY:=(occ_good hwZ hY);have hT:=chain_tail hwY.2 ht;have hv':v++[c] <:+ w++[c]:=by obtain ⟨z,rfl⟩:=hv;exact ⟨z,by simp⟩
 rw[← dW_snoc]at h;have hwF:=dW_wf hwY.1 (v++[c]);have hcl:=parts_dW Y hwY.1 (v++[c]);have head:headN (dW Y (v++[c]))=true→Vis X (w++[c]) f:=by
  intro hh;rw[crT_head hh hT]at h;simp at h;exact ⟨Z,u,Y,t,v++[c],hZ,hY,hv',by rw[h,mk_ne ht],fun _=>hh⟩
 cases hF:dW Y (v++[c]) with
 | zero=>rw[hF]at h;simp[crT]at h
 | one=>rw[hF]at h;simp[crT]at h
 | set s=>exact head (by rw[hF];rfl)
 | sum l=>exact head (by rw[hF];rfl)
 | star a=>exact head (by rw[hF];rfl)
 | pair a b =>
   rcases hcl (.pair a b) (by rw[hF];simp[parts]) with h1|h1|⟨Y',s,v',h1,h2,h3,h4,h5⟩
   ·simp[isS]at h1
   ·simp at h1
   have hs:s≠[]:=by
    rintro rfl;rw[show mk (dW Y' v') []=dW Y' v' from rfl]at h4;rw[← h4]at h3;simp[headN]at h3
   have hgs:=(occ_good hwY.1 h1).2;have hst:elG (s++t):=by
    intro w hw;rcases List.mem_append.1 hw with hw|hw
    ·exact hgs w hw
    ·exact hwY.2 w hw
   rw[hF,h4,mk_ne hs,crT_pair hT,thenN_chain hgs hwY.2,crT_head h3 (chain_tail hst (by simp[hs]))]at h;rcases List.mem_append.1 h with h|h
   ·obtain ⟨x,c1,r,e,rfl⟩:=crT_chain hgs hwY.2 hs ht h
    have ho:=occ_comp hY (occ_tail h1 e);have hh:=(hgs c1 (by rw[e];simp)).2;exact ⟨Z,u,c1,r++t,[],hZ,ho,List.nil_suffix,rfl,fun _=>hh⟩
   ·simp at h
    exact ⟨Z,u,Y',s++t,v',hZ,occ_comp hY h1,h2.trans hv',by rw[h,mk_ne (by simp[hs])],fun _=>h3⟩
def Made(X:NF)(w:List Nat)(c:Nat)(f:NF):Prop :=
 Vis X (w++[c]) f∨∃ g,Vis X w g∧(f=left c g∨f=.set (joinB (parts (left c g))))
theorem made_pair{X a b:NF}{w:List Nat}{c:Nat}(hX:wf X)(h:Vis X w (.pair a b)):∀ f∈crT (left c a) b,Made X w c f:=by
 obtain ⟨Z,u,Y,t,v,hZ,hY,ht,hv,rfl,_,rfl⟩:=vis_pair hX h;intro f hf;exact .inl (vis_crT hX hZ hY ht hv hf)
theorem made_star{X a:NF}{w:List Nat}{c:Nat}(hX:wf X)(h:Vis X w (.star a)):∀ f∈crT (left c a) (.star a),Made X w c f:=by
 obtain ⟨s,hs⟩:=vis_star hX h;intro f hf;exact .inl (vis_crT (v:=[]) (t:=[.star a]) hX hs (occ_star (occ_self a)) (by simp) List.nil_suffix hf)
theorem made_left{X g:NF}{w:List Nat}{c:Nat}(h:Vis X w g):Made X w c (left c g):=.inr ⟨g,h, .inl rfl⟩
theorem made_set{X g:NF}{w:List Nat}{c:Nat}(h:Vis X w g):Made X w c (.set (joinB (parts (left c g)))):=.inr ⟨g,h, .inr rfl⟩
set_option linter.unusedVariables false
set_option linter.unusedSimpArgs false
/-! How many forms there can be. -/
def sufs{α:Type}:List α→List (List α)
 | []=>[[]]
 | a::r=>(a::r)::sufs r
theorem sufs_mem{α:Type}:∀ {w v:List α},v <:+ w→v∈sufs w
 | [],v,h=>by have:=List.suffix_nil.1 h;subst this;simp[sufs]
 | a::r,v,h=>by
   rcases List.suffix_cons_iff.1 h with e|e
   ·subst e;simp[sufs]
   ·simp only[sufs,List.mem_cons];exact .inr (sufs_mem e)
theorem sufs_len{α:Type}:∀ w:List α,(sufs w).length=w.length+1
 | []=>rfl
 | a::r=>by simp[sufs,sufs_len r]
def visL(X:NF)(w:List Nat):List NF:=(occ X).flatMap fun Z=>(occ Z.1).flatMap fun Y=>(sufs w).map fun v=>mk (dW Y.1 v) Y.2
theorem vis_visL{X f:NF}{w:List Nat}(h:Vis X w f):f∈visL X w:=by
 obtain ⟨Z,u,Y,t,v,hZ,hY,hv,rfl,_⟩:=h;exact List.mem_flatMap.2 ⟨(Z,u),hZ,List.mem_flatMap.2 ⟨(Y,t),hY,List.mem_map.2 ⟨v,sufs_mem hv,rfl⟩⟩⟩
theorem occ_len(X:NF):(occ X).length=X.size:=by
 refine NF.ind (P:=fun X=>(occ X).length=X.size) ?_ X;intro X ih;cases X with
 | zero=>rfl
 | one=>rfl
 | set s=>rfl
 | pair a b=>simp[occ,NF.size,ih a (by simp[NF.size];omega),ih b (by simp[NF.size];omega)]
 | star a=>simp[occ,NF.size,ih a (by simp[NF.size])]
 | sum l =>
   have:∀ l':List NF,(∀ x∈l',x∈l)→(occL l').length=sizeL l':=by
    intro l'
    induction l' with
    | nil=>intro _;rfl
    | cons x r ih2 =>
      intro h;have hx:=size_mem (h x (by simp));simp[occL,sizeL,ih x (by simp[NF.size];omega),ih2 (fun y hy=>h y (by simp[hy]))]
   simp[occ,NF.size,this l (fun x hx=>hx)]
mutual
def hgt:NF→Nat
 | .zero=>1
 | .one=>1
 | .set _=>1
 | .pair a b=>max (hgt a) (hgt b)+1
 | .sum l=>hgtL l+1
 | .star a=>hgt a+1
def hgtL:List NF→Nat
 | []=>0
 | x::r=>max (hgt x) (hgtL r)
end
theorem hgt_mem:∀ {l:List NF} {x:NF},x∈l→hgt x≤hgtL l
 | y::r,x,h=>by
   simp only[hgtL];rcases List.mem_cons.1 h with e|e
   ·subst e;omega
   ·have:=hgt_mem e;omega
theorem hgt_pos(x:NF):0<hgt x:=by cases x<;>simp[hgt]
def sumS(l:List (NF × List NF)):Nat:=(l.map fun o=>o.1.size).sum
theorem sumS_append(a b:List (NF × List NF)):sumS (a++b)=sumS a+sumS b:=by simp[sumS]
theorem sumS_map(l:List (NF × List NF))(t:List NF):sumS (l.map fun o=>(o.1,o.2++t))=sumS l:=by
 simp[sumS,Function.comp_def]
theorem sumS_le(X:NF):sumS (occ X)≤X.size*hgt X:=by
 refine NF.ind (P:=fun X=>sumS (occ X)≤X.size*hgt X) ?_ X;intro X ih;cases X with
 | zero=>decide
 | one=>decide
 | set s=>simp[occ,sumS,NF.size,hgt]
 | pair a b =>
   have ha:=ih a (by simp[NF.size];omega);have hb:=ih b (by simp[NF.size];omega);have h1:sumS (occ (.pair a b))=(a.size+b.size+1)+(sumS (occ a)+sumS (occ b)):=by
    simp only[occ];rw[show ∀ x r,sumS (x::r)=x.1.size+sumS r from fun x r=>by simp[sumS],sumS_append,sumS_map];simp[NF.size]
   rw[h1];simp only[NF.size,hgt];have e1:a.size*hgt a≤a.size*max (hgt a) (hgt b):=Nat.mul_le_mul_left _ (by omega);have e2:b.size*hgt b≤b.size*max (hgt a) (hgt b):=Nat.mul_le_mul_left _ (by omega);have e3:(a.size+b.size+1)*(max (hgt a) (hgt b)+1)=a.size*max (hgt a) (hgt b)+b.size*max (hgt a) (hgt b)+max (hgt a) (hgt b)+(a.size+b.size+1):=by
    simp only[Nat.add_mul,Nat.mul_add,Nat.one_mul,Nat.mul_one]
   omega
 | star a =>
   have ha:=ih a (by simp[NF.size]);have h1:sumS (occ (.star a))=(a.size+1)+sumS (occ a):=by
    simp only[occ];rw[show ∀ x r,sumS (x::r)=x.1.size+sumS r from fun x r=>by simp[sumS],sumS_map];simp[NF.size]
   rw[h1];simp only[NF.size,hgt];have e3:(a.size+1)*(hgt a+1)=a.size*hgt a+hgt a+(a.size+1):=by
    simp only[Nat.add_mul,Nat.mul_add,Nat.one_mul,Nat.mul_one]
   omega
 | sum l =>
   have h2:∀ l':List NF,(∀ x∈l',x∈l)→sumS (occL l')≤sizeL l'*hgtL l:=by
    intro l'
    induction l' with
    | nil=>intro _;simp[occL,sumS,sizeL]
    | cons x r ih2 =>
      intro h;have hx:=size_mem (h x (by simp));have h3:=ih x (by simp[NF.size];omega);have h4:=ih2 (fun y hy=>h y (by simp[hy]));have h5:=hgt_mem (h x (by simp));simp only[occL,sumS_append,sizeL,Nat.add_mul];have:=Nat.mul_le_mul_left x.size h5;omega
   have h1:sumS (occ (.sum l))=(sizeL l+1)+sumS (occL l):=by
    simp only[occ];rw[show ∀ x r,sumS (x::r)=x.1.size+sumS r from fun x r=>by simp[sumS]];simp[NF.size]
   have h3:=h2 l (fun x hx=>hx);rw[h1];simp only[NF.size,hgt];have e3:(sizeL l+1)*(hgtL l+1)=sizeL l*hgtL l+hgtL l+(sizeL l+1):=by
    simp only[Nat.add_mul,Nat.mul_add,Nat.one_mul,Nat.mul_one]
   omega
theorem flatMap_len{α β:Type}(f:α→List β)(g:α→Nat)(hf:∀ a,(f a).length=g a):∀ l:List α,(l.flatMap f).length=(l.map g).sum
 | []=>rfl
 | a::r=>by simp[hf a,flatMap_len f g hf r]
theorem visL_len(X:NF)(w:List Nat):(visL X w).length=sumS (occ X)*(w.length+1):=by
 unfold visL;rw[flatMap_len _ (fun Z=>Z.1.size*(w.length+1))]
 ·unfold sumS
  generalize occ X=l
  induction l with
  | nil=>simp
  | cons a r ih=>simp only[List.map_cons,List.sum_cons,ih,Nat.add_mul]
 ·intro Z
  rw[flatMap_len _ (fun _=>w.length+1)]
  ·rw[← occ_len Z.1]
   generalize occ Z.1=l
   induction l with
   | nil=>simp
   | cons a r ih=>simp only[List.map_cons,List.sum_cons,ih,List.length_cons,Nat.add_mul,Nat.one_mul];omega
  ·intro Y;simp[sufs_len]
def madeL(X:NF)(w:List Nat)(c:Nat):List NF:=visL X (w++[c])++((visL X w).map (left c)++(visL X w).map fun g=>.set (joinB (parts (left c g))))
theorem made_madeL{X f:NF}{w:List Nat}{c:Nat}(h:Made X w c f):f∈madeL X w c:=by
 unfold madeL;rcases h with h|⟨g,hg,rfl|rfl⟩
 ·exact List.mem_append_left _ (vis_visL h)
 ·exact List.mem_append_right _ (List.mem_append_left _ (List.mem_map.2 ⟨g,vis_visL hg,rfl⟩))
 ·exact List.mem_append_right _ (List.mem_append_right _ (List.mem_map.2 ⟨g,vis_visL hg,rfl⟩))
theorem madeL_len(X:NF)(w:List Nat)(c:Nat)(hw:w.length≤39):(madeL X w c).length≤121*(X.size*hgt X):=by
 have h:=sumS_le X;unfold madeL;simp only[List.length_append,List.length_map,visL_len,List.length_cons,List.length_nil];generalize sumS (occ X)=s at *;have h1:s*(w.length+1+1)≤s*41:=Nat.mul_le_mul_left _ (by omega);have h2:s*(w.length+1)≤s*40:=Nat.mul_le_mul_left _ (by omega);simp only[Nat.zero_add];omega
theorem nodup_len{α:Type}:∀ {a b:List α},a.Nodup→(∀ x∈a,x∈b)→a.length≤b.length
 | [],b,_,_=>Nat.zero_le _
 | x::a,b,hn,h=>by
   have hx:=h x (by simp);obtain ⟨b1,b2,rfl⟩:=List.append_of_mem hx;have hn':=List.nodup_cons.1 hn;have:=nodup_len (a:=a) (b:=b1++b2) hn'.2 (by
    intro y hy;have:=h y (by simp[hy]);rcases List.mem_append.1 this with e|e
    ·exact List.mem_append_left _ e
    ·rcases List.mem_cons.1 e with e|e
     ·subst e;exact absurd hy hn'.1
     ·exact List.mem_append_right _ e)
   simp at this ⊢;omega
end Go.Proofs.YtpcbbbilmpobaaaGreatDoor
