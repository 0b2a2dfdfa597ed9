import Derived.Test.YtjkialjoamgbgaaGreatJ31
set_option linter.unusedVariables false
set_option linter.unusedSimpArgs false
set_option linter.unnecessarySimpa false
set_option maxRecDepth 100000
set_option maxHeartbeats 200000
namespace Go.Proofs.YtjkialjoamgbgaaGreat
set_option linter.unusedVariables false
set_option linter.unusedSimpArgs false
/-! How many forms there can be. -/
def sufs{α:Type}:List α→List (List α)
 | []=>[[]]
 | a::r=>(a::r)::sufs r
theorem sufs_mem{α:Type}:∀ {w v:List α},v <:+ w→v∈sufs w
 | [],v,h=>by have:=List.suffix_nil.1 h;subst this;simp[sufs]
 | a::r,v,h=>by
   rcases List.suffix_cons_iff.1 h with e|e
   ·subst e;simp[sufs]
   ·simp only[sufs,List.mem_cons];exact .inr (sufs_mem e)
theorem sufs_len{α:Type}:∀ w:List α,(sufs w).length=w.length+1
 | []=>rfl
 | a::r=>by simp[sufs,sufs_len r]
def visL(X:NF)(w:List Nat):List NF:=(occ X).flatMap fun Z=>(occ Z.1).flatMap fun Y=>(sufs w).map fun v=>mk (dW Y.1 v) Y.2
theorem vis_visL{X f:NF}{w:List Nat}(h:Vis X w f):f∈visL X w:=by
 obtain ⟨Z,u,Y,t,v,hZ,hY,hv,rfl,_⟩:=h
 exact List.mem_flatMap.2 ⟨(Z,u),hZ,List.mem_flatMap.2 ⟨(Y,t),hY,List.mem_map.2 ⟨v,sufs_mem hv,rfl⟩⟩⟩
theorem occ_len(X:NF):(occ X).length=X.size:=by
 refine NF.ind (P:=fun X=>(occ X).length=X.size) ?_ X
 intro X ih
 cases X with
 | zero=>rfl
 | one=>rfl
 | set s=>rfl
 | pair a b=>simp[occ,NF.size,ih a (by simp[NF.size];omega),ih b (by simp[NF.size];omega)]
 | star a=>simp[occ,NF.size,ih a (by simp[NF.size])]
 | sum l =>
   have:∀ l':List NF,(∀ x∈l',x∈l)→(occL l').length=sizeL l':=by
    intro l'
    induction l' with
    | nil=>intro _;rfl
    | cons x r ih2 =>
      intro h
      have hx:=size_mem (h x (by simp))
      simp[occL,sizeL,ih x (by simp[NF.size];omega),ih2 (fun y hy=>h y (by simp[hy]))]
   simp[occ,NF.size,this l (fun x hx=>hx)]
mutual
def hgt:NF→Nat
 | .zero=>1
 | .one=>1
 | .set _=>1
 | .pair a b=>max (hgt a) (hgt b)+1
 | .sum l=>hgtL l+1
 | .star a=>hgt a+1
def hgtL:List NF→Nat
 | []=>0
 | x::r=>max (hgt x) (hgtL r)
end
theorem hgt_mem:∀ {l:List NF} {x:NF},x∈l→hgt x≤hgtL l
 | y::r,x,h=>by
   simp only[hgtL]
   rcases List.mem_cons.1 h with e|e
   ·subst e;omega
   ·have:=hgt_mem e;omega
theorem hgt_pos(x:NF):0<hgt x:=by cases x<;>simp[hgt]
def sumS(l:List (NF × List NF)):Nat:=(l.map fun o=>o.1.size).sum
theorem sumS_append(a b:List (NF × List NF)):sumS (a++b)=sumS a+sumS b:=by simp[sumS]
theorem sumS_map(l:List (NF × List NF))(t:List NF):sumS (l.map fun o=>(o.1,o.2++t))=sumS l:=by
 simp[sumS,Function.comp_def]
theorem sumS_le(X:NF):sumS (occ X)≤X.size*hgt X:=by
 refine NF.ind (P:=fun X=>sumS (occ X)≤X.size*hgt X) ?_ X
 intro X ih
 cases X with
 | zero=>decide
 | one=>decide
 | set s=>simp[occ,sumS,NF.size,hgt]
 | pair a b =>
   have ha:=ih a (by simp[NF.size];omega)
   have hb:=ih b (by simp[NF.size];omega)
   have h1:sumS (occ (.pair a b))=(a.size+b.size+1)+(sumS (occ a)+sumS (occ b)):=by
    simp only[occ]
    rw[show ∀ x r,sumS (x::r)=x.1.size+sumS r from fun x r=>by simp[sumS],sumS_append,sumS_map]
    simp[NF.size]
   rw[h1]
   simp only[NF.size,hgt]
   have e1:a.size*hgt a≤a.size*max (hgt a) (hgt b):=Nat.mul_le_mul_left _ (by omega)
   have e2:b.size*hgt b≤b.size*max (hgt a) (hgt b):=Nat.mul_le_mul_left _ (by omega)
   have e3:(a.size+b.size+1)*(max (hgt a) (hgt b)+1)=a.size*max (hgt a) (hgt b)+b.size*max (hgt a) (hgt b)+max (hgt a) (hgt b)+(a.size+b.size+1):=by
    simp only[Nat.add_mul,Nat.mul_add,Nat.one_mul,Nat.mul_one]
   omega
 | star a =>
   have ha:=ih a (by simp[NF.size])
   have h1:sumS (occ (.star a))=(a.size+1)+sumS (occ a):=by
    simp only[occ]
    rw[show ∀ x r,sumS (x::r)=x.1.size+sumS r from fun x r=>by simp[sumS],sumS_map]
    simp[NF.size]
   rw[h1]
   simp only[NF.size,hgt]
   have e3:(a.size+1)*(hgt a+1)=a.size*hgt a+hgt a+(a.size+1):=by
    simp only[Nat.add_mul,Nat.mul_add,Nat.one_mul,Nat.mul_one]
   omega
 | sum l =>
   have h2:∀ l':List NF,(∀ x∈l',x∈l)→sumS (occL l')≤sizeL l'*hgtL l:=by
    intro l'
    induction l' with
    | nil=>intro _;simp[occL,sumS,sizeL]
    | cons x r ih2 =>
      intro h
      have hx:=size_mem (h x (by simp))
      have h3:=ih x (by simp[NF.size];omega)
      have h4:=ih2 (fun y hy=>h y (by simp[hy]))
      have h5:=hgt_mem (h x (by simp))
      simp only[occL,sumS_append,sizeL,Nat.add_mul]
      have:=Nat.mul_le_mul_left x.size h5
      omega
   have h1:sumS (occ (.sum l))=(sizeL l+1)+sumS (occL l):=by
    simp only[occ]
    rw[show ∀ x r,sumS (x::r)=x.1.size+sumS r from fun x r=>by simp[sumS]]
    simp[NF.size]
   have h3:=h2 l (fun x hx=>hx)
   rw[h1]
   simp only[NF.size,hgt]
   have e3:(sizeL l+1)*(hgtL l+1)=sizeL l*hgtL l+hgtL l+(sizeL l+1):=by
    simp only[Nat.add_mul,Nat.mul_add,Nat.one_mul,Nat.mul_one]
   omega
theorem flatMap_len{α β:Type}(f:α→List β)(g:α→Nat)(hf:∀ a,(f a).length=g a):∀ l:List α,(l.flatMap f).length=(l.map g).sum
 | []=>rfl
 | a::r=>by simp[hf a,flatMap_len f g hf r]
theorem visL_len(X:NF)(w:List Nat):(visL X w).length=sumS (occ X)*(w.length+1):=by
 unfold visL
 rw[flatMap_len _ (fun Z=>Z.1.size*(w.length+1))]
 ·unfold sumS
  generalize occ X=l
  induction l with
  | nil=>simp
  | cons a r ih=>simp only[List.map_cons,List.sum_cons,ih,Nat.add_mul]
 ·intro Z
  rw[flatMap_len _ (fun _=>w.length+1)]
  ·rw[← occ_len Z.1]
   generalize occ Z.1=l
   induction l with
   | nil=>simp
   | cons a r ih=>simp only[List.map_cons,List.sum_cons,ih,List.length_cons,Nat.add_mul,Nat.one_mul];omega
  ·intro Y;simp[sufs_len]
def madeL(X:NF)(w:List Nat)(c:Nat):List NF:=visL X (w++[c])++((visL X w).map (left c)++(visL X w).map fun g=>.set (joinB (parts (left c g))))
theorem made_madeL{X f:NF}{w:List Nat}{c:Nat}(h:Made X w c f):f∈madeL X w c:=by
 unfold madeL
 rcases h with h|⟨g,hg,rfl|rfl⟩
 ·exact List.mem_append_left _ (vis_visL h)
 ·exact List.mem_append_right _ (List.mem_append_left _ (List.mem_map.2 ⟨g,vis_visL hg,rfl⟩))
 ·exact List.mem_append_right _ (List.mem_append_right _ (List.mem_map.2 ⟨g,vis_visL hg,rfl⟩))
theorem madeL_len(X:NF)(w:List Nat)(c:Nat)(hw:w.length≤39):(madeL X w c).length≤121*(X.size*hgt X):=by
 have h:=sumS_le X
 unfold madeL
 simp only[List.length_append,List.length_map,visL_len,List.length_cons,List.length_nil]
 generalize sumS (occ X)=s at *
 have h1:s*(w.length+1+1)≤s*41:=Nat.mul_le_mul_left _ (by omega)
 have h2:s*(w.length+1)≤s*40:=Nat.mul_le_mul_left _ (by omega)
 simp only[Nat.zero_add]
 omega
theorem nodup_len{α:Type}:∀ {a b:List α},a.Nodup→(∀ x∈a,x∈b)→a.length≤b.length
 | [],b,_,_=>Nat.zero_le _
 | x::a,b,hn,h=>by
   have hx:=h x (by simp)
   obtain ⟨b1,b2,rfl⟩:=List.append_of_mem hx
   have hn':=List.nodup_cons.1 hn
   have:=nodup_len (a:=a) (b:=b1++b2) hn'.2 (by
    intro y hy
    have:=h y (by simp[hy])
    rcases List.mem_append.1 this with e|e
    ·exact List.mem_append_left _ e
    ·rcases List.mem_cons.1 e with e|e
     ·subst e;exact absurd hy hn'.1
     ·exact List.mem_append_right _ e)
   simp at this ⊢;omega
set_option linter.unusedVariables false
set_option linter.unusedSimpArgs false
/-- A regular expression: a byte of a set,one behind the other,one of several,so many times (none: without end). -/
inductive RX where
 | one:Nat→RX
 | seq:List RX→RX
 | alt:List RX→RX
 | rep:RX→Nat→Option Nat→RX
def times(lo:Nat):Option Nat→Nat
 | none=>lo+1
 | some n=>n
def opLen(lo:Nat):Option Nat→Nat
 | none=>if lo≤1 then 1 else 3
 | some n=>if lo=0∧n=1 then 1 else 3
mutual
def plc:RX→Nat
 | .one _=>1
 | .seq l=>plcL l
 | .alt l=>plcL l
 | .rep x lo hi=>plc x*times lo hi
def plcL:List RX→Nat
 | []=>0
 | x::r=>plc x+plcL r
end
mutual
def tlx:RX→Nat
 | .one _=>1
 | .seq l=>tlxL l
 | .alt l=>tlxL l+(l.length-1)
 | .rep x lo hi=>tlx x+opLen lo hi
def tlxL:List RX→Nat
 | []=>0
 | x::r=>tlx x+tlxL r
end
mutual
def okx:RX→Prop
 | .one s=>s<2 ^ 256
 | .seq l=>okxL l
 | .alt l=>okxL l∧l≠[]
 | .rep x lo hi=>okx x∧(∀ n,hi=some n→lo≤n)
def okxL:List RX→Prop
 | []=>True
 | x::r=>okx x∧okxL r
end
def preN(a:NF):Nat→NF→NF
 | 0,t=>t
 | k+1,t=>preN a k (thenN a t)
def optN(a:NF):Nat→NF→NF
 | 0,t=>t
 | k+1,t=>optN a k (orN (thenN a t) .one)
def repN(a:NF)(lo:Nat):Option Nat→NF
 | none=>preN a lo (starN a)
 | some n=>preN a lo (optN a (n-lo) .one)
mutual
def nrm:RX→NF
 | .one s=>if s=0 then .zero else .set s
 | .seq l=>nrmS l
 | .alt l=>orL (nrmA l)
 | .rep x lo hi=>repN (nrm x) lo hi
def nrmS:List RX→NF
 | []=>.one
 | x::r=>thenN (nrm x) (nrmS r)
def nrmA:List RX→List NF
 | []=>[]
 | x::r=>nrm x::nrmA r
end
theorem nrmA_map:∀ l,nrmA l=l.map nrm
 | []=>rfl
 | x::r=>by simp only[nrmA,List.map_cons,nrmA_map r]
def WC(x:NF):Prop:=wf x∧can x
theorem WC.zero:WC .zero:=⟨trivial,trivial⟩
theorem WC.one:WC .one:=⟨trivial,trivial⟩
theorem WC.then{a b:NF}(ha:WC a)(hb:WC b):WC (thenN a b):=⟨thenN_wf ha.1 hb.1,thenN_can ha.2 hb.2⟩
theorem WC.orL{ls:List NF}(h:∀ x∈ls,WC x):WC (orL ls):=⟨orL_wf fun x hx=>(h x hx).1,orL_can (fun x hx=>(h x hx).1) fun x hx=>(h x hx).2⟩
theorem WC.or{a b:NF}(ha:WC a)(hb:WC b):WC (orN a b):=WC.orL (by simp;exact ⟨ha,hb⟩)
theorem WC.star{a:NF}(ha:WC a):WC (starN a):=⟨starN_wf ha.1,starN_can ha.2⟩
theorem WC.left{a:NF}(c:Nat)(ha:WC a):WC (left c a):=⟨left_wf c a ha.1,left_can c a ha.1 ha.2⟩
theorem preN_WC{a:NF}(ha:WC a):∀ k t,WC t→WC (preN a k t)
 | 0,t,h=>h
 | k+1,t,h=>preN_WC ha k _ (ha.then h)
theorem optN_WC{a:NF}(ha:WC a):∀ k t,WC t→WC (optN a k t)
 | 0,t,h=>h
 | k+1,t,h=>optN_WC ha k _ ((ha.then h).or .one)
theorem repN_WC{a:NF}(ha:WC a)(lo:Nat)(hi:Option Nat):WC (repN a lo hi):=by
 cases hi with
 | none=>exact preN_WC ha lo _ ha.star
 | some n=>exact preN_WC ha lo _ (optN_WC ha _ _ .one)
mutual
theorem nrm_WC:∀ {e:RX},okx e→WC (nrm e)
 | .one s,h=>by
   simp only[nrm]
   split
   ·exact .zero
   ·exact ⟨⟨Nat.pos_of_ne_zero (by assumption),h⟩,trivial⟩
 | .seq l,h=>nrmS_WC (show okxL l from h)
 | .alt l,h=>WC.orL (nrmA_WC (show okxL l from h.1))
 | .rep x lo hi,h=>repN_WC (nrm_WC (show okx x from h.1)) lo hi
theorem nrmS_WC:∀ {l:List RX},okxL l→WC (nrmS l)
 | [],_=>.one
 | x::r,h=>(nrm_WC h.1).then (nrmS_WC h.2)
theorem nrmA_WC:∀ {l:List RX},okxL l→∀ x∈nrmA l,WC x
 | [],_,x,hx=>by simp[nrmA]at hx
 | y::r,h,x,hx=>by
   simp only[nrmA,List.mem_cons]at hx
   rcases hx with rfl|hx
   ·exact nrm_WC h.1
   ·exact nrmA_WC h.2 x hx
end
/-! Sizes. -/
theorem then_size:∀ (a b:NF),(thenN a b).size≤a.size+b.size+1
 | .zero,b=>by simp only[thenN,NF.size];omega
 | .one,b=>by simp only[thenN,NF.size];omega
 | .pair c d,b=>by
   by_cases hb:tailN b=true
   ·rw[thenN_pairs hb]
    have h1:=then_size d b
    have h2:=then_size c (thenN d b)
    simp only[NF.size];omega
   ·rcases not_tail hb with rfl|rfl
    ·rw[thenN_zero];simp[NF.size]
    ·rw[thenN_one];omega
 | .set s,b=>by cases b<;>simp[thenN,NF.size]<;>omega
 | .sum l,b=>by cases b<;>simp[thenN,NF.size]<;>omega
 | .star a,b=>by cases b<;>simp[thenN,NF.size]<;>omega
theorem sizeL_append:∀ (a b:List NF),sizeL (a++b)=sizeL a+sizeL b
 | [],b=>by simp[sizeL]
 | x::a,b=>by simp only[List.cons_append,sizeL,sizeL_append a b];omega
theorem put_size:∀ (l:List NF) (x:NF),sizeL (put l x)≤sizeL l+x.size
 | [],x=>by simp[put,sizeL]
 | y::r,x=>by
   unfold put
   split
   ·have:=put_size r x;simp only[sizeL];omega
   ·split
    ·simp only[sizeL];omega
    ·simp only[sizeL];omega
theorem foldl_put_size:∀ (l acc:List NF),sizeL (l.foldl put acc)≤sizeL acc+sizeL l
 | [],acc=>by simp[sizeL]
 | x::r,acc=>by
   have h1:=foldl_put_size r (put acc x)
   have h2:=put_size acc x
   simp only[List.foldl_cons,sizeL];omega
theorem core_size:∀ (l:List NF),sizeL (coreL l)≤sizeL l:=by
 intro l
 have key:∀ l:List NF,sizeL (l.filter fun x=>!isS x)+(if joinB l=0 then 0 else 1)≤sizeL l:=by
  intro l
  induction l with
  | nil=>simp[joinB,sizeL]
  | cons x r ih =>
    cases hx:isS x with
    | true =>
      have:x.size=1:=by cases x<;>simp[isS]at hx;rfl
      simp only[List.filter_cons,hx,Bool.not_true,Bool.false_eq_true,if_false,sizeL]
      split<;>split at ih<;>omega
    | false =>
      rw[joinB_cons,bits_non hx]
      simp only[List.filter_cons,hx,Bool.not_false,if_true,sizeL,Nat.zero_or]
      omega
 have:=key l
 unfold coreL
 rw[sizeL_append]
 split at this
 ·rename_i h;rw[if_pos h];simp only[sizeL];omega
 ·rename_i h;rw[if_neg h];simp only[sizeL,NF.size];omega
theorem parts_size(x:NF):sizeL (parts x)≤x.size:=by cases x<;>simp[parts,sizeL,NF.size]
theorem flat_size:∀ ls:List NF,sizeL (ls.flatMap parts)≤sizeL ls
 | []=>by simp[sizeL]
 | x::r=>by
   have h1:=flat_size r;have h2:=parts_size x
   simp only[List.flatMap_cons,sizeL_append,sizeL];omega
theorem mkS_size(l:List NF):(mkS l).size≤sizeL l+1:=by
 match l with
 | []=>simp[mkS,NF.size,sizeL]
 | [x]=>simp[mkS,sizeL]
 | x::y::r=>simp[mkS,NF.size]
theorem or_size(ls:List NF):(orL ls).size≤sizeL ls+1:=by
 have h1:=mkS_size (srt (coreL (ls.flatMap parts)))
 have h2:=foldl_put_size (coreL (ls.flatMap parts)) []
 have h3:=core_size (ls.flatMap parts)
 have h4:=flat_size ls
 unfold orL
 unfold srt at h1 ⊢
 simp only[sizeL]at h2
 omega
/-! Heights. -/
def cl(x:NF):Nat:=(elems x).length
theorem cl_pos(x:NF):0<cl x:=by cases x<;>simp[cl,elems]
theorem cl_head{x:NF}(h:headN x=true):cl x=1:=by cases x<;>simp[headN]at h<;>rfl
theorem then_hgt:∀ (a b:NF),wf a→hgt (thenN a b)≤max (hgt a+1) (cl a+hgt b)
 | .zero,b,_=>by have:=hgt_pos b;simp only[thenN,hgt];omega
 | .one,b,_=>by simp only[thenN,cl,elems,List.length_singleton];omega
 | .pair c d,b,hw=>by
   by_cases hb:tailN b=true
   ·rw[thenN_pairs hb]
    have h1:=then_hgt d b hw.2.1
    have h2:=then_hgt c (thenN d b) hw.1
    have h3:=cl_head hw.2.2.1
    have h4:cl (.pair c d)=cl d+1:=rfl
    simp only[hgt];omega
   ·rcases not_tail hb with rfl|rfl
    ·rw[thenN_zero];simp only[hgt];omega
    ·rw[thenN_one];omega
 | .set s,b,_=>by cases b<;>simp only[thenN,hgt,cl,elems,List.length_singleton]<;>omega
 | .sum l,b,_=>by cases b<;>simp only[thenN,hgt,cl,elems,List.length_singleton]<;>omega
 | .star a,b,_=>by cases b<;>simp only[thenN,hgt,cl,elems,List.length_singleton]<;>omega
theorem then_cl:∀ (a b:NF),wf a→cl (thenN a b)≤cl a+cl b
 | .zero,b,_=>by have:=cl_pos b;simp only[thenN,cl,elems,List.length_singleton]at *;omega
 | .one,b,_=>by simp only[thenN,cl,elems,List.length_singleton];omega
 | .pair c d,b,hw=>by
   by_cases hb:tailN b=true
   ·rw[thenN_pairs hb,thenN_head hw.2.2.1 (thenN_tail hw.2.1 hw.2.2.2 hb)]
    have h1:=then_cl d b hw.2.1
    have h4:cl (.pair c d)=cl d+1:=rfl
    have h5:cl (.pair c (thenN d b))=cl (thenN d b)+1:=rfl
    omega
   ·rcases not_tail hb with rfl|rfl
    ·rw[thenN_zero];have:cl NF.zero=1:=rfl;have:=cl_pos (.pair c d);omega
    ·rw[thenN_one];omega
 | .set s,b,_=>by cases b<;>simp only[thenN,cl,elems,List.length_singleton,List.length_cons]<;>omega
 | .sum l,b,_=>by cases b<;>simp only[thenN,cl,elems,List.length_singleton,List.length_cons]<;>omega
 | .star a,b,_=>by cases b<;>simp only[thenN,cl,elems,List.length_singleton,List.length_cons]<;>omega
theorem hgtL_le{l:List NF}{n:Nat}(h:∀ x∈l,hgt x≤n):hgtL l≤n:=by
 induction l with
 | nil=>simp[hgtL]
 | cons x r ih =>
   have h1:=h x (by simp)
   have h2:=ih (fun y hy=>h y (by simp[hy]))
   simp only[hgtL];omega
theorem parts_hgt{x p:NF}(h:p∈parts x):hgt p≤hgt x:=by
 cases x with
 | zero=>simp[parts]at h
 | sum l=>have:=hgt_mem (show p∈l from h);simp only[hgt];omega
 | _=>simp[parts]at h;subst h;exact Nat.le_refl _
theorem or_hgt{ls:List NF}(hw:∀ x∈ls,wf x){n:Nat}(hn:1≤n)(h:∀ x∈ls,hgt x≤n):hgt (orL ls)≤n+1:=by
 have hp:∀ p∈parts (orL ls),hgt p≤n:=by
  intro p hp
  rcases core_iff.1 ((orL_mem hw).1 hp) with ⟨h1,_⟩|⟨_,rfl⟩
  ·obtain ⟨x,hx,h1⟩:=List.mem_flatMap.1 h1
   have:=parts_hgt h1;have:=h x hx;omega
  ·simpa[hgt] using hn
 cases ho:orL ls with
 | zero=>simp[hgt]
 | sum l=>rw[ho]at hp;have:=hgtL_le (l:=l) hp;simp only[hgt];omega
 | _=>rw[ho]at hp;exact Nat.le_trans (hp _ (List.mem_singleton_self _)) (Nat.le_succ n)
def CLP(x:NF)(n:Nat):Prop:=∀ p∈parts x,cl p≤n
theorem CLP.cl{x:NF}{n:Nat}(h:CLP x n)(hn:1≤n):cl x≤n:=by
 cases x with
 | zero=>exact hn
 | sum l=>exact hn
 | _=>exact h _ (by simp[parts])
theorem CLP.mono{x:NF}{n m:Nat}(h:CLP x n)(hm:n≤m):CLP x m:=fun p hp=>Nat.le_trans (h p hp) hm
theorem CLP.then{a b:NF}{n m:Nat}(hw:wf a)(ha:CLP a n)(hb:CLP b m)(hn:1≤n)(hm:1≤m):CLP (thenN a b) (n+m):=by
 have h1:=ha.cl hn
 have h2:=hb.cl hm
 have h3:=then_cl a b hw
 intro p hp
 cases ht:thenN a b with
 | zero=>rw[ht]at hp;simp[parts]at hp
 | sum l =>
   -- then it is one of the two
   by_cases tb:tailN b=true
   ·cases a with
    | zero=>simp[thenN]at ht
    | one=>have:=hb p (by rw[show thenN .one b=b from rfl]at hp;exact hp);omega
    | pair c d=>rw[thenN_pairs tb,thenN_head hw.2.2.1 (thenN_tail hw.2.1 hw.2.2.2 tb)]at ht;simp at ht
    | set s=>rw[thenN_head rfl tb]at ht;simp at ht
    | sum s=>rw[thenN_head rfl tb]at ht;simp at ht
    | star s=>rw[thenN_head rfl tb]at ht;simp at ht
   ·rcases not_tail tb with rfl|rfl
    ·rw[thenN_zero]at ht;simp at ht
    ·rw[thenN_one]at hp;have:=ha p hp;omega
 | one=>rw[ht]at hp h3;simp[parts]at hp;subst hp;omega
 | set s=>rw[ht]at hp h3;simp[parts]at hp;subst hp;omega
 | pair c d=>rw[ht]at hp h3;simp[parts]at hp;subst hp;omega
 | star c=>rw[ht]at hp h3;simp[parts]at hp;subst hp;omega
theorem CLP.orL{ls:List NF}(hw:∀ x∈ls,wf x){n:Nat}(hn:1≤n)(h:∀ x∈ls,CLP x n):CLP (orL ls) n:=by
 intro p hp
 rcases core_iff.1 ((orL_mem hw).1 hp) with ⟨h1,_⟩|⟨_,rfl⟩
 ·obtain ⟨x,hx,h1⟩:=List.mem_flatMap.1 h1;exact h x hx p h1
 ·exact hn
structure Bd(x:NF)(p s h:Nat):Prop where
 wc:WC x
 cp:CLP x p
 sz:x.size≤s
 ht:hgt x≤h
theorem Bd.then{a b:NF}{p s h p' s' h':Nat}(ha:Bd a p s h)(hb:Bd b p' s' h')(hp:1≤p)(hp':1≤p'):Bd (thenN a b) (p+p') (s+s'+1) (max (h+1) (p+h')):=by
 refine ⟨ha.wc.then hb.wc,CLP.then ha.wc.1 ha.cp hb.cp hp hp',?_,?_⟩
 ·have:=then_size a b;have:=ha.sz;have:=hb.sz;omega
 ·have h1:=then_hgt a b ha.wc.1;have h2:=ha.cp.cl hp;have:=ha.ht;have:=hb.ht;omega
theorem Bd.or1{a:NF}{p s h:Nat}(ha:Bd a p s h)(hp:1≤p):Bd (orN a .one) p (s+2) (h+1):=by
 have hw:∀ x ∈ [a,NF.one],wf x:=by simp;exact ⟨ha.wc.1,trivial⟩
 refine ⟨ha.wc.or .one,CLP.orL hw hp ?_,?_,?_⟩
 ·intro x hx
  simp at hx
  rcases hx with rfl|rfl
  ·exact ha.cp
  ·intro p' hp';simp[parts]at hp';subst hp';exact hp
 ·have h1:=or_size [a,NF.one];simp only[sizeL,NF.size]at h1
  have:=ha.sz;show (orL [a, .one]).size≤_;omega
 ·have h0:=hgt_pos a
  have h1:=ha.ht
  refine or_hgt hw (by omega) ?_
  intro x hx
  simp at hx
  rcases hx with rfl|rfl
  ·exact h1
  ·simp only[hgt];omega
theorem Bd.mono{x:NF}{p s h p' s' h':Nat}(hx:Bd x p s h)(hp:p≤p')(hs:s≤s')(hh:h≤h'):Bd x p' s' h' :=
 ⟨hx.wc,hx.cp.mono hp,Nat.le_trans hx.sz hs,Nat.le_trans hx.ht hh⟩
theorem preN_Bd{a:NF}{p s h:Nat}(ha:Bd a p s h)(hp:1≤p):∀ (k:Nat) {t:NF} {q s' h':Nat},Bd t q s' h'→1≤q→h+1≤h'→Bd (preN a k t) (k*p+q) (k*(s+1)+s') (k*p+h')
 | 0,t,q,s',h',ht,_,_=>by simpa[preN] using ht
 | k+1,t,q,s',h',ht,hq,hh=>by
   have h1:=preN_Bd ha hp k (ha.then ht hp hq) (by omega) (show h+1≤max (h+1) (p+h') by omega)
   refine h1.mono ?_ ?_ ?_
   ·rw[Nat.add_mul];omega
   ·rw[Nat.add_mul k 1 (s+1)];omega
   ·rw[Nat.add_mul k 1 p];omega
theorem optN_Bd{a:NF}{p s h:Nat}(ha:Bd a p s h)(hp:1≤p):∀ (k:Nat) {t:NF} {q s' h':Nat},Bd t q s' h'→1≤q→h+1≤h'→Bd (optN a k t) (k*p+q) (k*(s+3)+s') (k*(p+1)+h')
 | 0,t,q,s',h',ht,_,_=>by simpa[optN] using ht
 | k+1,t,q,s',h',ht,hq,hh=>by
   have h1:=optN_Bd ha hp k ((ha.then ht hp hq).or1 (by omega)) (by omega) (show h+1≤max (h+1) (p+h')+1 by omega)
   refine h1.mono ?_ ?_ ?_
   ·rw[Nat.add_mul];omega
   ·rw[Nat.add_mul k 1 (s+3)];omega
   ·rw[Nat.add_mul k 1 (p+1)];omega
end Go.Proofs.YtjkialjoamgbgaaGreat
