import Derived.Test.YtjkialjoamgbgaaGreatJ42
import Derived.Test.YtjkialjoamgbgaaGreatJ38
set_option linter.unusedVariables false
set_option linter.unusedSimpArgs false
set_option linter.unnecessarySimpa false
set_option maxRecDepth 100000
set_option maxHeartbeats 200000
namespace Go.Proofs.YtjkialjoamgbgaaGreat
set_option linter.unusedVariables false
set_option linter.unusedSimpArgs false
theorem parts_mkS{l:List NF}(h:∀ p∈l,atomN p=true):parts (mkS l)=l:=by
 match l,h with
 | [],_=>rfl
 | [x],h=>exact atom_parts (h x (by simp))
 | x::y::r,_=>rfl
theorem parts_or{ls:List NF}(hw:∀ x∈ls,wf x):parts (orL ls)=srt (coreL (ls.flatMap parts)) :=
 parts_mkS fun p hp=>core_atom (flat_atom hw) p (srt_mem hp)
theorem parts_wc{x:NF}(h:WC x):(parts x).Nodup∧∀ p∈parts x,isS p=true→p=.set (joinB (parts x)):=by
 have hT:orL [x]=x:=can_T h.1 h.2
 have hw:∀ y ∈ [x],wf y:=by simp;exact h.1
 have hp:=parts_or hw
 rw[hT]at hp
 simp only[List.flatMap_cons,List.flatMap_nil,List.append_nil]at hp
 refine ⟨by rw[hp];exact ris_nodup (srt_ris _),?_⟩
 intro p hm hs
 rw[hp]at hm
 rcases core_iff.1 (srt_mem hm) with ⟨_,e⟩|⟨_,e⟩
 ·rw[hs]at e;exact absurd e (by decide)
 ·exact e
theorem parts_len{x:NF}(h:WC x){V:List NF}(hV:∀ p∈parts x,isS p=true∨p=.one∨p∈V):(parts x).length≤V.length+2:=by
 have:=nodup_len (b:=.one::.set (joinB (parts x))::V) (parts_wc h).1 (by
  intro p hp
  rcases hV p hp with e|e|e
  ·rw[(parts_wc h).2 p hp e];simp
  ·rw[e];simp
  ·simp[e])
 simpa using this
theorem elems_can:∀ {b:NF},can b→∀ x∈elems b,can x:=by
 intro b
 refine NF.ind (P:=fun b=>can b→∀ x∈elems b,can x) ?_ b
 intro b ih hb x hx
 cases b with
 | pair a d =>
   simp only[elems,List.mem_cons]at hx
   rcases hx with rfl|hx
   ·exact hb.1
   ·exact ih d (by simp[NF.size];omega) hb.2 x hx
 | zero=>simp[elems]at hx;subst hx;exact hb
 | one=>simp[elems]at hx;subst hx;exact hb
 | set s=>simp[elems]at hx;subst hx;exact hb
 | sum l=>simp[elems]at hx;subst hx;exact hb
 | star a=>simp[elems]at hx;subst hx;exact hb
theorem occ_can{X Y:NF}{t:List NF}(hX:can X)(h:(Y,t)∈occ X):can Y∧∀ x∈t,can x:=by
 revert Y t hX
 refine NF.ind (P:=fun X=>∀ {Y:NF} {t:List NF},can X→(Y,t)∈occ X→can Y∧∀ x∈t,can x) ?_ X
 intro X ih Y t hX h
 rcases occ_cases h with ⟨rfl,rfl⟩|⟨a,b,s,rfl,g,rfl⟩|⟨a,b,rfl,g⟩|⟨l,z,rfl,hz,g⟩|⟨a,s,rfl,g,rfl⟩
 ·exact ⟨hX,by intro x hx;simp at hx⟩
 ·have h1:=ih a (by simp[NF.size];omega) hX.1 g
  refine ⟨h1.1,?_⟩
  intro x hx
  rcases List.mem_append.1 hx with hx|hx
  ·exact h1.2 x hx
  ·exact elems_can hX.2 x hx
 ·exact ih b (by simp[NF.size];omega) hX.2 g
 ·have h1:=size_mem hz
  exact ih z (by simp[NF.size];omega) (canL_mem.1 hX.1 z hz) g
 ·have h1:=ih a (by simp[NF.size]) hX g
  refine ⟨h1.1,?_⟩
  intro x hx
  rcases List.mem_append.1 hx with hx|hx
  ·exact h1.2 x hx
  ·simp at hx;subst hx;exact hX
theorem chain_can:∀ {t:List NF},(∀ x∈t,can x)→can (chain t)
 | [],_=>trivial
 | [x],h=>h x (by simp)
 | x::y::r,h=>⟨h x (by simp),chain_can (t:=y::r) fun z hz=>h z (List.mem_cons_of_mem _ hz)⟩
theorem dW_can{X:NF}(hw:wf X)(hX:can X)(w:List Nat):can (dW X w):=by
 unfold dW
 induction w generalizing X with
 | nil=>exact hX
 | cons c w ih=>exact ih (left_wf c X hw) (left_can c X hw hX)
theorem mk_WC{h:NF}{t:List NF}(hh:WC h)(ht:elG t)(hc:∀ x∈t,can x)(hd:t≠[]→headN h=true):WC (mk h t):=by
 by_cases e:t=[]
 ·subst e;exact hh
 ·rw[mk_ne e]
  exact ⟨⟨hh.1,chain_wf ht,hd e,chain_tail ht e⟩,hh.2,chain_can hc⟩
theorem vis_WC{X g:NF}{w:List Nat}(hX:WC X)(h:Vis X w g):WC g:=by
 obtain ⟨Z,u,Y,t,v,hZ,hY,hv,rfl,hh⟩:=h
 have z1:=occ_good hX.1 hZ
 have z2:=occ_can hX.2 hZ
 have y1:=occ_good z1.1 hY
 have y2:=occ_can z2.1 hY
 exact mk_WC ⟨dW_wf y1.1 v,dW_can y1.1 y2.1 v⟩ y1.2 y2.2 hh
theorem then_made:∀ {a b:NF},wf a→tailN a=true→tailN b=true→thenN a b∈crT a b:=by
 intro a b hw ha hb
 cases a with
 | zero=>simp[tailN]at ha
 | one=>simp[tailN]at ha
 | set s=>rw[crT_head rfl hb,thenN_head rfl hb];simp
 | sum l=>rw[crT_head rfl hb,thenN_head rfl hb];simp
 | star x=>rw[crT_head rfl hb,thenN_head rfl hb];simp
 | pair x y =>
   have ht:tailN (thenN y b)=true:=thenN_tail hw.2.1 hw.2.2.2 hb
   rw[thenN_pairs hb,crT_pair hb,crT_head hw.2.2.1 ht,thenN_head hw.2.2.1 ht];simp
theorem then_parts{a b:NF}(hw:wf a)(ha:tailN a=true)(hb:tailN b=true):parts (thenN a b)=[thenN a b]:=by
 have:∀ {a b:NF},headN a=true→tailN b=true→parts (thenN a b)=[thenN a b]:=fun h1 h2=>by rw[thenN_head h1 h2];rfl
 cases a with
 | zero=>simp[tailN]at ha
 | one=>simp[tailN]at ha
 | set s=>exact this rfl hb
 | sum l=>exact this rfl hb
 | star x=>exact this rfl hb
 | pair x y =>
   rw[thenN_pairs hb]
   exact this hw.2.2.1 (thenN_tail hw.2.1 hw.2.2.2 hb)
theorem vis_then{X Z Y:NF}{u t:List NF}{v w:List Nat}{c:Nat}(hX:wf X)(hZ:(Z,u)∈occ X)(hY:(Y,t)∈occ Z)(hv:v <:+ w){p:NF}
 (hp:p∈parts (thenN (left c (dW Y v)) (chain t))):isS p=true∨p=.one∨Vis X (w++[c]) p:=by
 have hwZ:=(occ_good hX hZ).1
 have hwY:=(occ_good hwZ hY)
 have hv':v++[c] <:+ w++[c]:=by obtain ⟨z,rfl⟩:=hv;exact ⟨z,by simp⟩
 by_cases ht:t=[]
 ·subst ht
  rw[show chain []=.one from rfl,thenN_one,← dW_snoc]at hp
  obtain ⟨s,hs⟩:=occ_trans hZ hY
  exact vis_cls hs hv' (parts_dW Y hwY.1 _ p hp)
 ·have hT:=chain_tail hwY.2 ht
  have hwA:=left_wf c _ (dW_wf hwY.1 v)
  by_cases hA:tailN (left c (dW Y v))=true
  ·rw[then_parts hwA hA hT]at hp
   simp at hp
   exact .inr (.inr (vis_crT hX hZ hY ht hv (by rw[hp];exact then_made hwA hA hT)))
  ·rcases not_tail hA with e|e
   ·rw[e]at hp;simp[thenN,parts]at hp
   ·rw[e,show thenN .one (chain t)=chain t from rfl]at hp
    exact vis_cls hZ List.suffix_rfl (cls_chain hwZ hY _ hp)
theorem vis_left{X g p:NF}{w:List Nat}{c:Nat}(hX:wf X)(h:Vis X w g)(hp:p∈parts (left c g)):isS p=true∨p=.one∨Vis X (w++[c]) p:=by
 obtain ⟨Z,u,Y,t,v,hZ,hY,hv,rfl,hh⟩:=h
 have hwZ:=(occ_good hX hZ).1
 have hwY:=(occ_good hwZ hY)
 rcases left_mk (dW_wf hwY.1 v) hwY.2 hp with e|e|⟨x,c1,r,e1,e2⟩
 ·exact .inl e
 ·exact vis_then hX hZ hY hv e
 ·exact vis_then (Y:=c1) (v:=[]) hX hZ (occ_tail hY e1) List.nil_suffix e2
theorem vis_sum_len{X:NF}{l:List NF}{w:List Nat}(hX:WC X)(h:Vis X w (.sum l)):l.length≤X.size*(w.length+1)+2:=by
 have hwc:=vis_WC hX h
 obtain ⟨Z,u,Y,t,v,hZ,hY,hv,hf,hh⟩:=h
 have ht:t=[]:=Decidable.byContradiction fun e=>by rw[mk_ne e]at hf;simp at hf
 subst ht
 rw[show mk (dW Y v) []=dW Y v from rfl]at hf
 have hwZ:=(occ_good hX.1 hZ).1
 have hwY:=(occ_good hwZ hY).1
 have hlen:=parts_len hwc (V:=(occ Y).flatMap fun o=>(sufs v).map fun v'=>mk (dW o.1 v') o.2) (by
  intro p hp
  rw[hf]at hp
  rcases parts_dW Y hwY v p hp with e|e|⟨Y',s,v',h1,h2,h3,h4,h5⟩
  ·exact .inl e
  ·exact .inr (.inl e)
  ·exact .inr (.inr (List.mem_flatMap.2 ⟨(Y',s),h1,List.mem_map.2 ⟨v',sufs_mem h2,h4.symm⟩⟩)))
 rw[show parts (.sum l)=l from rfl]at hlen
 have hc:((occ Y).flatMap fun o=>(sufs v).map fun v'=>mk (dW o.1 v') o.2).length=(occ Y).length*(v.length+1):=by
  rw[flatMap_len _ (fun _=>v.length+1) (fun o=>by simp[sufs_len])]
  generalize occ Y=q
  induction q with
  | nil=>simp
  | cons a r ih=>simp only[List.map_cons,List.sum_cons,ih,List.length_cons,Nat.add_mul,Nat.one_mul];omega
 rw[hc,occ_len]at hlen
 have a1:Y.size≤X.size:=Nat.le_trans (occ_size hY).1 (occ_size hZ).1
 have a2:v.length≤w.length:=hv.length_le
 have a3:Y.size*(v.length+1)≤X.size*(w.length+1):=Nat.mul_le_mul a1 (by omega)
 omega
theorem flat_len{ls:List NF}{n:Nat}(h:∀ x∈ls,(parts x).length≤n):(ls.flatMap parts).length≤ls.length*n:=by
 induction ls with
 | nil=>simp
 | cons a r ih =>
   have h1:=h a (by simp)
   have h2:=ih fun x hx=>h x (by simp[hx])
   simp only[List.flatMap_cons,List.length_append,List.length_cons,Nat.add_mul,Nat.one_mul]
   omega
theorem need_vis{X:NF}{w:List Nat}{c:Nat}{U:List NF}(hX:WC X)(hs:X.size≤3280)(hh:X.size*hgt X≤524800)(hw:w.length≤39)(hU:∀ f,Made X w c f→f∈U)(g:NF):Vis X w g→Need c U g:=by
 have hV:(visL X (w++[c])).length≤21516800:=by
  rw[visL_len]
  have h1:=sumS_le X
  simp only[List.length_append,List.length_cons,List.length_nil]
  have h2:sumS (occ X)*(w.length+(0+1)+1)≤524800*41:=Nat.mul_le_mul (by omega) (by omega)
  omega
 have hnp:∀ g,Vis X w g→(parts (left c g)).length≤21516802:=fun g hg=>by
  have:=parts_len (WC.left c (vis_WC hX hg)) (V:=visL X (w++[c])) fun p hp=>by
   rcases vis_left hX.1 hg hp with e|e|e
   ·exact .inl e
   ·exact .inr (.inl e)
   ·exact .inr (.inr (vis_visL e))
  omega
 refine NF.ind (P:=fun g=>Vis X w g→Need c U g) ?_ g
 intro g ih hg
 cases g with
 | zero=>trivial
 | one=>trivial
 | set s=>trivial
 | star a =>
   exact ⟨ih a (by simp[NF.size]) (vis_star1 hX.1 hg),fun f hf=>hU f (made_star hX.1 hg f hf)⟩
 | pair a b =>
   have hwc:=vis_WC hX hg
   refine ⟨ih a (by simp[NF.size];omega) (vis_pair1 hX.1 hg),fun f hf=>hU f (made_pair hX.1 hg f hf),fun hn=>⟨ih b (by simp[NF.size];omega) (vis_pair2 hX.1 hg),?_⟩⟩
   have hl:left c (.pair a b)=orL [thenN (left c a) b,left c b]:=by simp only[left,hn,if_true];rfl
   have ha:WC a:=⟨hwc.1.1,hwc.2.1⟩
   have hb:WC b:=⟨hwc.1.2.1,hwc.2.2⟩
   have w1:∀ x ∈ [thenN (left c a) b,left c b],WC x:=by
    intro x hx;simp at hx;rcases hx with rfl|rfl
    ·exact WC.then (WC.left c ha) hb
    ·exact WC.left c hb
   refine ⟨fun _=>?_,fun _=>?_,?_,by simp⟩
   ·have:=made_set (c:=c) hg
    rw[hl,orL_join fun x hx=>(w1 x hx).1]at this
    exact hU _ this
   ·have:=made_left (c:=c) hg
    rw[hl]at this;exact hU _ this
   ·have h1:(parts (thenN (left c a) b)).length≤21516802:=by
     have:=parts_len (w1 (thenN (left c a) b) (by simp)) (V:=visL X (w++[c])) fun p hp=>by
      obtain ⟨Z,u,Y,t,v,hZ,hY,ht,hv,rfl,_,rfl⟩:=vis_pair hX.1 hg
      rcases vis_then hX.1 hZ hY hv hp with e|e|e
      ·exact .inl e
      ·exact .inr (.inl e)
      ·exact .inr (.inr (vis_visL e))
     omega
    have h2:=hnp b (vis_pair2 hX.1 hg)
    simp only[List.flatMap_cons,List.flatMap_nil,List.length_append,List.length_nil]
    omega
 | sum l =>
   have hwc:=vis_WC hX hg
   have hlen:=vis_sum_len hX hg
   have hlen2:l.length≤131202:=by
    have:X.size*(w.length+1)≤3280*40:=Nat.mul_le_mul hs (by omega)
    omega
   have hl:left c (.sum l)=orL (leftL c l):=by simp only[left]
   have hm:∀ p∈l,WC p:=fun p hp=>⟨wfL_mem.1 hwc.1.1 p hp,canL_mem.1 hwc.2.1 p hp⟩
   have w1:∀ x∈leftL c l,WC x:=by
    intro x hx;rw[leftL_map]at hx
    obtain ⟨p,hp,rfl⟩:=List.mem_map.1 hx
    exact WC.left c (hm p hp)
   have hd:∀ p∈l,p.size<(NF.sum l).size:=fun p hp=>by have:=size_mem hp;simp[NF.size];omega
   refine ⟨needL_mem.2 fun p hp=>?_,fun _=>?_,fun _=>?_,?_,?_⟩
   ·rcases vis_sum hX.1 hg hp with e|e|e
    ·cases p<;>simp[isS]at e;trivial
    ·subst e;trivial
    ·exact ih p (hd p hp) e
   ·have:=made_set (c:=c) hg
    rw[hl,orL_join fun x hx=>(w1 x hx).1]at this
    exact hU _ this
   ·have:=made_left (c:=c) hg
    rw[hl]at this;exact hU _ this
   ·have:=flat_len (ls:=leftL c l) (n:=21516802) (by
     intro x hx;rw[leftL_map]at hx
     obtain ⟨p,hp,rfl⟩:=List.mem_map.1 hx
     rcases vis_sum hX.1 hg hp with e|e|e
     ·cases p<;>simp[isS]at e
      simp only[left];split<;>simp[parts]
     ·subst e;simp[left,parts]
     ·exact hnp p e)
    rw[leftL_map,List.length_map]at this
    rw[leftL_map]
    have h3:l.length*21516802≤131202*21516802:=Nat.mul_le_mul_right _ hlen2
    omega
   ·rw[leftL_map,List.length_map];omega
set_option linter.unusedVariables false
set_option linter.unusedSimpArgs false
theorem preN_comm(a:NF):∀ k t,preN a k (thenN a t)=thenN a (preN a k t)
 | 0,t=>rfl
 | k+1,t=>by rw[preN,preN_comm a k (thenN a t)];rfl
theorem preN_succ(a:NF)(k:Nat)(t:NF):preN a (k+1) t=thenN a (preN a k t):=preN_comm a k t
theorem optN_comm(a:NF):∀ k t,optN a k (orN (thenN a t) .one)=orN (thenN a (optN a k t)) .one
 | 0,t=>rfl
 | k+1,t=>by rw[optN,optN_comm a k (orN (thenN a t) .one)];rfl
theorem optN_succ(a:NF)(k:Nat)(t:NF):optN a (k+1) t=orN (thenN a (optN a k t)) .one:=optN_comm a k t
def tailR(a:NF)(lo:Nat):Option Nat→NF
 | none=>starN a
 | some n=>optN a (n-lo) .one
theorem repN_tail(a:NF)(lo:Nat)(hi:Option Nat):repN a lo hi=preN a lo (tailR a lo hi):=by cases hi<;>rfl
def RepOK(U:List NF)(a:NF)(lo:Nat)(hi:Option Nat):Prop :=
 (hi=none→starN a∈U) ∧
 (∀ n,hi=some n→∀ k,k<n-lo→(∀ f∈crT a (optN a k .one),f∈U)∧OrOK U [thenN a (optN a k .one), .one]) ∧
 (∀ k,k<lo→∀ f∈crT a (preN a k (tailR a lo hi)),f∈U)
def SeqOK(U:List NF):List RX→Prop
 | []=>True
 | x::r=>(∀ f∈crT (nrm x) (nrmS r),f∈U)∧SeqOK U r
theorem SeqOK.get{U:List NF}:∀ {l:List RX},SeqOK U l→∀ i (hi:i<l.length),∀ f∈crT (nrm l[i]) (nrmS (l.drop (i+1))),f∈U
 | x::r,h,0,_=>h.1
 | x::r,h,i+1,hi=>by simpa using SeqOK.get h.2 i (by simpa using hi)
mutual
def NeedX(U:List NF):RX→Prop
 | .one s=>s≠0→.set s∈U
 | .seq l=>NeedXL U l∧SeqOK U l
 | .alt l=>NeedXL U l∧OrOK U (nrmA l)
 | .rep x lo hi=>NeedX U x∧RepOK U (nrm x) lo hi
def NeedXL(U:List NF):List RX→Prop
 | []=>True
 | x::r=>NeedX U x∧NeedXL U r
end
theorem needXL_mem{U:List NF}:∀ {l:List RX},NeedXL U l↔∀ x∈l,NeedX U x
 | []=>by simp[NeedXL]
 | x::r=>by simp only[NeedXL,List.mem_cons,forall_eq_or_imp,needXL_mem]
def orMk(ls:List NF):List NF:=[.set (joinB (ls.flatMap parts)),orL ls]
def optC(lo:Nat):Option Nat→Nat
 | none=>0
 | some n=>n-lo
def repMk(a:NF)(lo:Nat)(hi:Option Nat):List NF :=
 starN a::((List.range (optC lo hi)).flatMap (fun k=>crT a (optN a k .one)++orMk [thenN a (optN a k .one), .one]) ++
  (List.range lo).flatMap fun k=>crT a (preN a k (tailR a lo hi)))
mutual
def mkd:RX→List NF
 | .one s=>[.set s]
 | .seq l=>mkdS l
 | .alt l=>mkdL l++orMk (nrmA l)
 | .rep x lo hi=>mkd x++repMk (nrm x) lo hi
def mkdL:List RX→List NF
 | []=>[]
 | x::r=>mkd x++mkdL r
def mkdS:List RX→List NF
 | []=>[]
 | x::r=>(mkd x++mkdS r)++crT (nrm x) (nrmS r)
end
theorem crT_len:∀ (a b:NF),wf a→(crT a b).length≤cl a:=by
 intro a
 refine NF.ind (P:=fun a=>∀ b,wf a→(crT a b).length≤cl a) ?_ a
 intro a ih b hw
 by_cases hb:tailN b=true
 ·cases a with
  | zero=>simp[crT]
  | one=>simp[crT]
  | set s=>rw[crT_head rfl hb];exact cl_pos _
  | sum l=>rw[crT_head rfl hb];exact cl_pos _
  | star x=>rw[crT_head rfl hb];exact cl_pos _
  | pair x y =>
    have ht:tailN (thenN y b)=true:=thenN_tail hw.2.1 hw.2.2.2 hb
    rw[crT_pair hb,crT_head hw.2.2.1 ht]
    have:=ih y (by simp[NF.size];omega) b hw.2.1
    simp[cl,elems]at this ⊢
    omega
 ·rcases not_tail hb with e|e<;>subst e<;>cases a<;>simp[crT]
def Few(x:NF):Prop:=∃ p t,BdE x p t∧p≤40∧t≤100
theorem Few.wc{x:NF}(h:Few x):WC x:=by obtain ⟨p,t,h,_⟩:=h;exact h.1
theorem Few.cl{x:NF}(h:Few x):cl x≤40:=by
 obtain ⟨p,t,h,hp,ht⟩:=h
 by_cases h0:p=0
 ·rw[h.2.1 h0];decide
 ·exact Nat.le_trans ((h.2.2 (by omega)).cp.cl (by omega)) hp
theorem Few.size{x:NF}(h:Few x):x.size≤8080:=by
 obtain ⟨p,t,h,hp,ht⟩:=h
 by_cases h0:p=0
 ·rw[h.2.1 h0];decide
 ·refine Nat.le_trans (h.2.2 (by omega)).sz ?_
  have:2*p*(t+1)≤80*101:=Nat.mul_le_mul (by omega) (by omega)
  omega
theorem sizeL_len:∀ l:List NF,l.length≤sizeL l
 | []=>Nat.zero_le _
 | x::r=>by have:=x.size_pos;have:=sizeL_len r;simp only[sizeL,List.length_cons];omega
theorem parts_few{x:NF}{n:Nat}(h:x.size≤n):(parts x).length≤n:=Nat.le_trans (sizeL_len _) (Nat.le_trans (parts_size x) h)
theorem orOK_of{U ls:List NF}{n:Nat}(hU:∀ f∈orMk ls,f∈U)(h:∀ x∈ls,x.size≤n)(hl:ls.length≤1000)(hn:n≤1000000):OrOK U ls:=by
 refine ⟨fun _=>hU _ (by simp[orMk]),fun _=>hU _ (by simp[orMk]),?_,by omega⟩
 have h1:=flat_len (ls:=ls) (n:=n) fun x hx=>parts_few (h x hx)
 have h2:ls.length*n≤1000*1000000:=Nat.mul_le_mul hl hn
 omega
theorem opLen_le(lo:Nat)(hi:Option Nat):opLen lo hi≤3:=by
 cases hi<;>simp only[opLen]<;>split<;>omega
theorem few_opt{a:NF}{p t lo n:Nat}(ha:BdE a p t)(ht:1≤p→1≤t)(h:p*n≤40)(htt:t≤90){k:Nat}(hk:k≤n-lo):Few (optN a k .one):=by
 have:=bd_rep ha ht 0 (some k) (by simp)
 refine ⟨_,_,this,?_,?_⟩
 ·exact Nat.le_trans (Nat.mul_le_mul_left _ (show times 0 (some k)≤n by simp[times];omega)) h
 ·have:=opLen_le 0 (some k);omega
theorem flatMap_le{α β:Type}(f:α→List β)(n:Nat):∀ l:List α,(∀ a∈l,(f a).length≤n)→(l.flatMap f).length≤l.length*n
 | [],_=>by simp
 | a::r,h=>by
   have h1:=h a (by simp)
   have h2:=flatMap_le f n r fun x hx=>h x (by simp[hx])
   simp only[List.flatMap_cons,List.length_append,List.length_cons,Nat.add_mul,Nat.one_mul];omega
theorem then_few{a b:NF}(ha:a.size≤8080)(hb:b.size≤8080):(thenN a b).size≤16161:=by have:=then_size a b;omega
theorem rep_ok{U:List NF}{a:NF}{p t lo:Nat}{hi:Option Nat}(ha:BdE a p t)(hp:p≤40)(ht:1≤p→1≤t)(h:p*times lo hi≤40)(htt:t≤90)(hlh:∀ n,hi=some n→lo≤n)(hU:∀ f∈repMk a lo hi,f∈U):RepOK U a lo hi:=by
 have hF:Few a:=⟨p,t,ha,hp,by omega⟩
 refine ⟨fun _=>hU _ (by simp[repMk]),?_,?_⟩
 ·rintro n rfl k hk
  have hm:∀ f∈crT a (optN a k .one)++orMk [thenN a (optN a k .one), .one],f∈U:=fun f hf=>hU f (by
   unfold repMk
   exact List.mem_cons_of_mem _ (List.mem_append_left _ (List.mem_flatMap.2 ⟨k,List.mem_range.2 hk,hf⟩)))
  refine ⟨fun f hf=>hm f (List.mem_append_left _ hf),orOK_of (n:=16161) (fun f hf=>hm f (List.mem_append_right _ hf)) ?_ (by simp) (by omega)⟩
  have h1:=(few_opt (lo:=lo) ha ht h htt (Nat.le_of_lt hk)).size
  intro x hx
  simp at hx
  rcases hx with rfl|rfl
  ·exact then_few hF.size h1
  ·decide
 ·intro k hk f hf
  exact hU f (by
   unfold repMk
   exact List.mem_cons_of_mem _ (List.mem_append_right _ (List.mem_flatMap.2 ⟨k,List.mem_range.2 hk,hf⟩)))
theorem repMk_len{a:NF}{lo:Nat}{hi:Option Nat}(hF:Few a)(h1:lo≤9)(h2:∀ n,hi=some n→n≤9):(repMk a lo hi).length≤800:=by
 have hc:=hF.cl
 have hw:=hF.wc.1
 have e1:=flatMap_le (fun k=>crT a (optN a k .one)++orMk [thenN a (optN a k .one), .one]) 42 (List.range (optC lo hi)) (fun k _=>by
  have:=crT_len a (optN a k .one) hw
  simp[orMk];omega)
 have e2:=flatMap_le (fun k=>crT a (preN a k (tailR a lo hi))) 40 (List.range lo) (fun k _=>by
  have:=crT_len a (preN a k (tailR a lo hi)) hw;omega)
 have e3:optC lo hi≤9:=by
  cases hi with
  | none=>simp[optC]
  | some n=>have:=h2 n rfl;simp only[optC];omega
 have e4:optC lo hi*42≤9*42:=Nat.mul_le_mul_right _ e3
 have e5:lo*40≤9*40:=Nat.mul_le_mul_right _ (by omega)
 rw[List.length_range]at e1 e2
 unfold repMk
 simp only[List.length_cons,List.length_append]
 omega
theorem few_nrm{e:RX}(h:okx e)(hp:plcG e≤40)(ht:tlx e≤90):Few (nrm e):=⟨_,_,nrm_BdE h,by rw[plcG_few hp];exact hp,by omega⟩
theorem plcGL_mem:∀ {l:List RX} {e:RX},e∈l→plcG e≤plcGL l
 | x::r,e,h=>by
   simp only[plcGL]
   rcases List.mem_cons.1 h with rfl|h
   ·omega
   ·have:=plcGL_mem h;omega
theorem okxL_mem:∀ {l:List RX} {e:RX},okxL l→e∈l→okx e
 | x::r,e,hl,h=>by
   rcases List.mem_cons.1 h with rfl|h
   ·exact hl.1
   ·exact okxL_mem hl.2 h
mutual
theorem mkd_ok:∀ {e:RX} {U:List NF},okx e→digx e→plcG e≤40→tlx e≤90→(∀ f∈mkd e,f∈U)→NeedX U e
 | .one s,U,ho,hd,hp,ht,hU=>fun _=>hU _ (by simp[mkd])
 | .seq l,U,ho,hd,hp,ht,hU=>mkdS_ok (show okxL l from ho) (show digL l from hd) (show plcGL l≤40 from hp) (show tlxL l≤90 from ht) hU
 | .alt l,U,ho,hd,hp,ht,hU=>by
   have ht':tlxL l+(l.length-1)≤90:=ht
   have hp':plcGL l≤40:=hp
   simp only[mkd]at hU
   refine ⟨mkdL_ok ho.1 (show digL l from hd) hp' (by omega) fun f hf=>hU f (List.mem_append_left _ hf),?_⟩
   refine orOK_of (n:=8080) (fun f hf=>hU f (List.mem_append_right _ hf)) ?_ (by rw[nrmA_map,List.length_map];omega) (by omega)
   intro x hx
   rw[nrmA_map]at hx
   obtain ⟨e,he,rfl⟩:=List.mem_map.1 hx
   exact (few_nrm (okxL_mem ho.1 he) (by have:=plcGL_mem he;omega) (by have:=(plcL_mem he).2;omega)).size
 | .rep x lo hi,U,ho,hd,hp,ht,hU=>by
   have ht':tlx x+opLen lo hi≤90:=ht
   simp only[mkd]at hU
   have hpx:plcG x≤40:=by
    simp only[plcG]at hp
    by_cases h:40<plcG x
    ·rw[if_pos h]at hp;omega
    ·omega
   have hpt:plc x*times lo hi≤40:=by
    simp only[plcG]at hp
    rw[if_neg (by omega)]at hp
    rw[plcG_few hpx];exact hp
   exact ⟨mkd_ok ho.1 hd.1 hpx (by omega) fun f hf=>hU f (List.mem_append_left _ hf),
    rep_ok (nrm_BdE ho.1) (by rw[plcG_few hpx];exact hpx) tlx_pos hpt (by omega) ho.2 fun f hf=>hU f (List.mem_append_right _ hf)⟩
theorem mkdL_ok:∀ {l:List RX} {U:List NF},okxL l→digL l→plcGL l≤40→tlxL l≤90→(∀ f∈mkdL l,f∈U)→NeedXL U l
 | [],U,_,_,_,_,_=>trivial
 | x::r,U,ho,hd,hp,ht,hU=>by
   simp only[plcGL]at hp
   simp only[tlxL]at ht
   simp only[mkdL]at hU
   exact ⟨mkd_ok ho.1 hd.1 (by omega) (by omega) fun f hf=>hU f (List.mem_append_left _ hf),mkdL_ok ho.2 hd.2 (by omega) (by omega) fun f hf=>hU f (List.mem_append_right _ hf)⟩
theorem mkdS_ok:∀ {l:List RX} {U:List NF},okxL l→digL l→plcGL l≤40→tlxL l≤90→(∀ f∈mkdS l,f∈U)→NeedXL U l∧SeqOK U l
 | [],U,_,_,_,_,_=>⟨trivial,trivial⟩
 | x::r,U,ho,hd,hp,ht,hU=>by
   simp only[plcGL]at hp
   simp only[tlxL]at ht
   simp only[mkdS]at hU
   have h1:=mkdS_ok (U:=U) ho.2 hd.2 (by omega) (by omega) fun f hf=>hU f (List.mem_append_left _ (List.mem_append_right _ hf))
   exact ⟨⟨mkd_ok ho.1 hd.1 (by omega) (by omega) fun f hf=>hU f (List.mem_append_left _ (List.mem_append_left _ hf)),h1.1⟩,fun f hf=>hU f (List.mem_append_right _ hf),h1.2⟩
end
mutual
def nds:RX→Nat
 | .one _=>1
 | .seq l=>ndsL l+1
 | .alt l=>ndsL l+1
 | .rep x _ _=>nds x+1
def ndsL:List RX→Nat
 | []=>0
 | x::r=>nds x+ndsL r
end
theorem ndsL_app:∀ (a b:List RX),ndsL (a++b)=ndsL a+ndsL b
 | [],b=>by simp[ndsL]
 | x::a,b=>by simp only[List.cons_append,ndsL,ndsL_app a b];omega
theorem pMarks_nds:∀ {k:Nat} {x y:RX} {t r:List UInt8},pMarks k x t=some (y,r)→nds y+r.length≤nds x+t.length
 | 0,x,y,t,r,h=>by simp[pMarks]at h
 | k+1,x,y,t,r,h=>by
   simp only[pMarks]at h
   split at h
   ·split at h
    ·simp at h
    ·rename_i b r' hb
     have h1:=pRep_len hb
     have h2:=opLen_pos b.1 b.2
     have h3:=pMarks_nds (k:=k) h
     simp only[nds]at h3
     omega
   ·simp only[Option.some.injEq,Prod.mk.injEq]at h
    obtain ⟨rfl,rfl⟩:=h
    omega
mutual
theorem pAtom_nds:∀ {k nest:Nat} {t r:List UInt8} {x:RX},pAtom k nest t=some (x,r)→nds x+3*r.length≤3*t.length
 | 0,nest,t,r,x,h=>by simp[pAtom]at h
 | k+1,nest,[],r,x,h=>by simp[pAtom]at h
 | k+1,nest,c::q,r,x,h=>by
   simp only[pAtom]at h
   split at h
   ·split at h
    ·simp at h
    ·split at h
     ·simp at h
     ·rename_i x1 r1 h1
      have e:=pAlt_nds (acc:=[]) h1
      split at h
      ·rename_i hc
       have e2:=headIs_len hc
       simp at h
       obtain ⟨rfl,rfl⟩:=h
       simp only[ndsL,List.length_cons]at e ⊢
       simp only[List.length_tail]at e2
       simp
       omega
      ·simp at h
   ·split at h
    ·split at h
     ·simp at h
     ·rename_i h1
      have e:=pClass_len h1
      simp at h
      obtain ⟨rfl,rfl⟩:=h
      simp only[nds,List.length_cons];omega
    ·split at h
     ·simp at h
      obtain ⟨rfl,rfl⟩:=h
      simp only[nds,List.length_cons];omega
     ·split at h
      ·cases q with
       | nil=>simp at h
       | cons d q2 =>
         simp at h
         obtain ⟨rfl,rfl⟩:=h
         simp only[nds,List.length_cons];omega
      ·split at h
       ·simp at h
       ·simp at h
        obtain ⟨rfl,rfl⟩:=h
        simp only[nds,List.length_cons];omega
theorem pSeq_nds:∀ {k nest:Nat} {acc:List RX} {t r:List UInt8} {x:RX},pSeq k nest acc t=some (x,r)→nds x+3*r.length≤1+ndsL acc+3*t.length
 | 0,nest,acc,t,r,x,h=>by simp[pSeq]at h
 | k+1,nest,acc,t,r,x,h=>by
   simp only[pSeq]at h
   split at h
   ·simp at h
    obtain ⟨rfl,rfl⟩:=h
    simp only[nds];omega
   ·split at h
    ·simp at h
    ·rename_i x1 r1 h1
     have e1:=pAtom_nds h1
     split at h
     ·simp at h
     ·rename_i y r2 h2
      have e2:=pMarks_nds h2
      have e3:=pSeq_nds (acc:=acc++[y]) h
      have e4:=(pMarks_sets h2).2
      rw[ndsL_app]at e3
      simp only[ndsL]at e3
      omega
theorem pAlt_nds:∀ {k nest:Nat} {acc:List RX} {t r:List UInt8} {x:RX},pAlt k nest acc t=some (x,r)→nds x+3*r.length≤2+ndsL acc+3*t.length
 | 0,nest,acc,t,r,x,h=>by simp[pAlt]at h
 | k+1,nest,acc,t,r,x,h=>by
   simp only[pAlt]at h
   split at h
   ·simp at h
   ·rename_i x1 r1 h1
    have e1:=pSeq_nds (acc:=[]) h1
    simp only[ndsL]at e1
    split at h
    ·rename_i hc
     have e2:=headIs_len hc
     have e3:=pAlt_nds (acc:=acc++[x1]) h
     rw[ndsL_app]at e3
     simp only[ndsL]at e3
     omega
    ·simp at h
     obtain ⟨rfl,rfl⟩:=h
     simp only[nds,ndsL_app,ndsL]
     omega
end
theorem pWhole_nds{t:List UInt8}{x:RX}(h:pWhole t=some x):nds x≤3*t.length+2:=by
 unfold pWhole at h
 split at h
 ·rename_i y h1
  simp at h;subst h
  have:=pAlt_nds (acc:=[]) h1
  simp only[ndsL]at this
  omega
 ·simp at h
mutual
theorem mkd_len:∀ {e:RX},okx e→digx e→plcG e≤40→tlx e≤90→(mkd e).length+40≤1000*nds e
 | .one s,ho,hd,hp,ht=>by simp[mkd,nds]
 | .seq l,ho,hd,hp,ht=>by
   have:=mkdS_len (show okxL l from ho) (show digL l from hd) (show plcGL l≤40 from hp) (show tlxL l≤90 from ht)
   simp only[mkd,nds];omega
 | .alt l,ho,hd,hp,ht=>by
   have ht':tlxL l+(l.length-1)≤90:=ht
   have h1:=mkdL_len ho.1 (show digL l from hd) (show plcGL l≤40 from hp) (by omega)
   simp only[mkd,nds,List.length_append]
   simp[orMk];omega
 | .rep x lo hi,ho,hd,hp,ht=>by
   have ht':tlx x+opLen lo hi≤90:=ht
   have hpx:plcG x≤40:=by
    simp only[plcG]at hp
    by_cases h:40<plcG x
    ·rw[if_pos h]at hp;omega
    ·omega
   have h1:=mkd_len ho.1 hd.1 hpx (by omega)
   have h2:=repMk_len (few_nrm ho.1 hpx (by omega)) hd.2.1 hd.2.2
   simp only[mkd,nds,List.length_append]
   omega
theorem mkdL_len:∀ {l:List RX},okxL l→digL l→plcGL l≤40→tlxL l≤90→(mkdL l).length≤1000*ndsL l
 | [],_,_,_,_=>by simp[mkdL]
 | x::r,ho,hd,hp,ht=>by
   simp only[plcGL]at hp
   simp only[tlxL]at ht
   have h1:=mkd_len ho.1 hd.1 (by omega) (by omega)
   have h2:=mkdL_len ho.2 hd.2 (by omega) (by omega)
   simp only[mkdL,ndsL,List.length_append]
   omega
theorem mkdS_len:∀ {l:List RX},okxL l→digL l→plcGL l≤40→tlxL l≤90→(mkdS l).length≤1000*ndsL l
 | [],_,_,_,_=>by simp[mkdS]
 | x::r,ho,hd,hp,ht=>by
   simp only[plcGL]at hp
   simp only[tlxL]at ht
   have h1:=mkd_len ho.1 hd.1 (by omega) (by omega)
   have h2:=mkdS_len ho.2 hd.2 (by omega) (by omega)
   have h3:=crT_len (nrm x) (nrmS r) (nrm_BdE ho.1).1.1
   have h4:=(few_nrm ho.1 (show plcG x≤40 by omega) (by omega)).cl
   simp only[mkdS,ndsL,List.length_append]
   omega
end
end Go.Proofs.YtjkialjoamgbgaaGreat
