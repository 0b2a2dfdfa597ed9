import Derived.Test.YtpcbbbilmpobaaaGreatDoorJ37
import Derived.Test.YtpcbbbilmpobaaaGreatDoorJ33
import Derived.Test.YtpcbbbilmpobaaaGreatDoorJ36
set_option linter.unusedVariables false
set_option linter.unusedSimpArgs false
set_option linter.unnecessarySimpa false
set_option maxRecDepth 100000
set_option maxHeartbeats 4000000
namespace Go.Proofs.YtpcbbbilmpobaaaGreatDoor
set_option linter.unusedVariables false
set_option linter.unusedSimpArgs false
theorem preN_comm(a:NF):∀ k t,preN a k (thenN a t)=thenN a (preN a k t)
 | 0,t=>rfl
 | k+1,t=>by rw[preN,preN_comm a k (thenN a t)];rfl
theorem preN_succ(a:NF)(k:Nat)(t:NF):preN a (k+1) t=thenN a (preN a k t):=preN_comm a k t
theorem optN_comm(a:NF):∀ k t,optN a k (orN (thenN a t) .one)=orN (thenN a (optN a k t)) .one
 | 0,t=>rfl
 | k+1,t=>by rw[optN,optN_comm a k (orN (thenN a t) .one)];rfl
theorem optN_succ(a:NF)(k:Nat)(t:NF):optN a (k+1) t=orN (thenN a (optN a k t)) .one:=optN_comm a k t
def tailR(a:NF)(lo:Nat):Option Nat→NF
 | none=>starN a
 | some n=>optN a (n-lo) .one
theorem repN_tail(a:NF)(lo:Nat)(hi:Option Nat):repN a lo hi=preN a lo (tailR a lo hi):=by cases hi<;>rfl
def RepOK(U:List NF)(a:NF)(lo:Nat)(hi:Option Nat):Prop :=
 (hi=none→starN a∈U) ∧
 (∀ n,hi=some n→∀ k,k<n-lo→(∀ f∈crT a (optN a k .one),f∈U)∧OrOK U [thenN a (optN a k .one), .one]) ∧
 (∀ k,k<lo→∀ f∈crT a (preN a k (tailR a lo hi)),f∈U)
def SeqOK(U:List NF):List RX→Prop
 | []=>True
 | x::r=>(∀ f∈crT (nrm x) (nrmS r),f∈U)∧SeqOK U r
theorem SeqOK.get{U:List NF}:∀ {l:List RX},SeqOK U l→∀ i (hi:i<l.length),∀ f∈crT (nrm l[i]) (nrmS (l.drop (i+1))),f∈U
 | x::r,h,0,_=>h.1
 | x::r,h,i+1,hi=>by simpa using SeqOK.get h.2 i (by simpa using hi)
mutual
def NeedX(U:List NF):RX→Prop
 | .one s=>s≠0→.set s∈U
 | .seq l=>NeedXL U l∧SeqOK U l
 | .alt l=>NeedXL U l∧OrOK U (nrmA l)
 | .rep x lo hi=>NeedX U x∧RepOK U (nrm x) lo hi
def NeedXL(U:List NF):List RX→Prop
 | []=>True
 | x::r=>NeedX U x∧NeedXL U r
end
theorem needXL_mem{U:List NF}:∀ {l:List RX},NeedXL U l↔∀ x∈l,NeedX U x
 | []=>by simp[NeedXL]
 | x::r=>by simp only[NeedXL,List.mem_cons,forall_eq_or_imp,needXL_mem]
def orMk(ls:List NF):List NF:=[.set (joinB (ls.flatMap parts)),orL ls]
def optC(lo:Nat):Option Nat→Nat
 | none=>0
 | some n=>n-lo
def repMk(a:NF)(lo:Nat)(hi:Option Nat):List NF :=
 starN a::((List.range (optC lo hi)).flatMap (fun k=>crT a (optN a k .one)++orMk [thenN a (optN a k .one), .one]) ++
  (List.range lo).flatMap fun k=>crT a (preN a k (tailR a lo hi)))
mutual
def mkd:RX→List NF
 | .one s=>[.set s]
 | .seq l=>mkdS l
 | .alt l=>mkdL l++orMk (nrmA l)
 | .rep x lo hi=>mkd x++repMk (nrm x) lo hi
def mkdL:List RX→List NF
 | []=>[]
 | x::r=>mkd x++mkdL r
def mkdS:List RX→List NF
 | []=>[]
 | x::r=>(mkd x++mkdS r)++crT (nrm x) (nrmS r)
end
theorem crT_len:∀ (a b:NF),wf a→(crT a b).length≤cl a:=by
 intro a;refine NF.ind (P:=fun a=>∀ b,wf a→(crT a b).length≤cl a) ?_ a;intro a ih b hw
 by_cases hb:tailN b=true
 ·cases a with
  | zero=>simp[crT]
  | one=>simp[crT]
  | set s=>rw[crT_head rfl hb];exact cl_pos _
  | sum l=>rw[crT_head rfl hb];exact cl_pos _
  | star x=>rw[crT_head rfl hb];exact cl_pos _
  | pair x y =>
    have ht:tailN (thenN y b)=true:=thenN_tail hw.2.1 hw.2.2.2 hb;rw[crT_pair hb,crT_head hw.2.2.1 ht];have:=ih y (by simp[NF.size];omega) b hw.2.1;simp[cl,elems]at this ⊢;omega
 ·rcases not_tail hb with e|e<;>subst e<;>cases a<;>simp[crT]
def Few(x:NF):Prop:=∃ p t,BdE x p t∧p≤40∧t≤100
theorem Few.wc{x:NF}(h:Few x):WC x:=by obtain ⟨p,t,h,_⟩:=h;exact h.1
theorem Few.cl{x:NF}(h:Few x):cl x≤40:=by
 obtain ⟨p,t,h,hp,ht⟩:=h
 by_cases h0:p=0
 ·rw[h.2.1 h0];decide
 ·exact Nat.le_trans ((h.2.2 (by omega)).cp.cl (by omega)) hp
theorem Few.size{x:NF}(h:Few x):x.size≤8080:=by
 obtain ⟨p,t,h,hp,ht⟩:=h
 by_cases h0:p=0
 ·rw[h.2.1 h0];decide
 ·refine Nat.le_trans (h.2.2 (by omega)).sz ?_
  have:2*p*(t+1)≤80*101:=Nat.mul_le_mul (by omega) (by omega);omega
theorem sizeL_len:∀ l:List NF,l.length≤sizeL l
 | []=>Nat.zero_le _
 | x::r=>by have:=x.size_pos;have:=sizeL_len r;simp only[sizeL,List.length_cons];omega
theorem parts_few{x:NF}{n:Nat}(h:x.size≤n):(parts x).length≤n:=Nat.le_trans (sizeL_len _) (Nat.le_trans (parts_size x) h)
theorem orOK_of{U ls:List NF}{n:Nat}(hU:∀ f∈orMk ls,f∈U)(h:∀ x∈ls,x.size≤n)(hl:ls.length≤1000)(hn:n≤1000000):OrOK U ls:=by
 refine ⟨fun _=>hU _ (by simp[orMk]),fun _=>hU _ (by simp[orMk]),?_,by omega⟩;have h1:=flat_len (ls:=ls) (n:=n) fun x hx=>parts_few (h x hx)
 have h2:ls.length*n≤1000*1000000:=Nat.mul_le_mul hl hn;omega
theorem opLen_le(lo:Nat)(hi:Option Nat):opLen lo hi≤3:=by
 cases hi<;>simp only[opLen]<;>split<;>omega
theorem few_opt{a:NF}{p t lo n:Nat}(ha:BdE a p t)(ht:1≤p→1≤t)(h:p*n≤40)(htt:t≤90){k:Nat}(hk:k≤n-lo):Few (optN a k .one):=by
 have:=bd_rep ha ht 0 (some k) (by simp);refine ⟨_,_,this,?_,?_⟩
 ·exact Nat.le_trans (Nat.mul_le_mul_left _ (show times 0 (some k)≤n by simp[times];omega)) h
 ·have:=opLen_le 0 (some k);omega
theorem flatMap_le{α β:Type}(f:α→List β)(n:Nat):∀ l:List α,(∀ a∈l,(f a).length≤n)→(l.flatMap f).length≤l.length*n
 | [],_=>by simp
 | a::r,h=>by
   have h1:=h a (by simp);have h2:=flatMap_le f n r fun x hx=>h x (by simp[hx])
   simp only[List.flatMap_cons,List.length_append,List.length_cons,Nat.add_mul,Nat.one_mul];omega
theorem then_few{a b:NF}(ha:a.size≤8080)(hb:b.size≤8080):(thenN a b).size≤16161:=by have:=then_size a b;omega
theorem rep_ok{U:List NF}{a:NF}{p t lo:Nat}{hi:Option Nat}(ha:BdE a p t)(hp:p≤40)(ht:1≤p→1≤t)(h:p*times lo hi≤40)(htt:t≤90)(hlh:∀ n,hi=some n→lo≤n)(hU:∀ f∈repMk a lo hi,f∈U):RepOK U a lo hi:=by
 have hF:Few a:=⟨p,t,ha,hp,by omega⟩;refine ⟨fun _=>hU _ (by simp[repMk]),?_,?_⟩
 ·rintro n rfl k hk
  have hm:∀ f∈crT a (optN a k .one)++orMk [thenN a (optN a k .one), .one],f∈U:=fun f hf=>hU f (by
   unfold repMk;exact List.mem_cons_of_mem _ (List.mem_append_left _ (List.mem_flatMap.2 ⟨k,List.mem_range.2 hk,hf⟩)))
  refine ⟨fun f hf=>hm f (List.mem_append_left _ hf),orOK_of (n:=16161) (fun f hf=>hm f (List.mem_append_right _ hf)) ?_ (by simp) (by omega)⟩;have h1:=(few_opt (lo:=lo) ha ht h htt (Nat.le_of_lt hk)).size;intro x hx;simp at hx;rcases hx with rfl|rfl
  ·exact then_few hF.size h1
  ·decide
 ·intro k hk f hf
  exact hU f (by
   unfold repMk;exact List.mem_cons_of_mem _ (List.mem_append_right _ (List.mem_flatMap.2 ⟨k,List.mem_range.2 hk,hf⟩)))
theorem repMk_len{a:NF}{lo:Nat}{hi:Option Nat}(hF:Few a)(h1:lo≤9)(h2:∀ n,hi=some n→n≤9):(repMk a lo hi).length≤800:=by
 have hc:=hF.cl;have hw:=hF.wc.1;have e1:=flatMap_le (fun k=>crT a (optN a k .one)++orMk [thenN a (optN a k .one), .one]) 42 (List.range (optC lo hi)) (fun k _=>by
  have:=crT_len a (optN a k .one) hw;simp[orMk];omega)
 have e2:=flatMap_le (fun k=>crT a (preN a k (tailR a lo hi))) 40 (List.range lo) (fun k _=>by
  have:=crT_len a (preN a k (tailR a lo hi)) hw;omega)
 have e3:optC lo hi≤9:=by
  cases hi with
  | none=>simp[optC]
  | some n=>have:=h2 n rfl;simp only[optC];omega
 have e4:optC lo hi*42≤9*42:=Nat.mul_le_mul_right _ e3;have e5:lo*40≤9*40:=Nat.mul_le_mul_right _ (by omega);rw[List.length_range]at e1 e2;unfold repMk;simp only[List.length_cons,List.length_append];omega
theorem few_nrm{e:RX}(h:okx e)(hp:plcG e≤40)(ht:tlx e≤90):Few (nrm e):=⟨_,_,nrm_BdE h,by rw[plcG_few hp];exact hp,by omega⟩
theorem plcGL_mem:∀ {l:List RX} {e:RX},e∈l→plcG e≤plcGL l
 | x::r,e,h=>by
   simp only[plcGL];rcases List.mem_cons.1 h with rfl|h
   ·omega
   ·have:=plcGL_mem h;omega
theorem okxL_mem:∀ {l:List RX} {e:RX},okxL l→e∈l→okx e
 | x::r,e,hl,h=>by
   rcases List.mem_cons.1 h with rfl|h
   ·exact hl.1
   ·exact okxL_mem hl.2 h
mutual
theorem mkd_ok:∀ {e:RX} {U:List NF},okx e→digx e→plcG e≤40→tlx e≤90→(∀ f∈mkd e,f∈U)→NeedX U e
 | .one s,U,ho,hd,hp,ht,hU=>fun _=>hU _ (by simp[mkd])
 | .seq l,U,ho,hd,hp,ht,hU=>mkdS_ok (show okxL l from ho) (show digL l from hd) (show plcGL l≤40 from hp) (show tlxL l≤90 from ht) hU
 | .alt l,U,ho,hd,hp,ht,hU=>by
   have ht':tlxL l+(l.length-1)≤90:=ht;have hp':plcGL l≤40:=hp;simp only[mkd]at hU;refine ⟨mkdL_ok ho.1 (show digL l from hd) hp' (by omega) fun f hf=>hU f (List.mem_append_left _ hf),?_⟩;refine orOK_of (n:=8080) (fun f hf=>hU f (List.mem_append_right _ hf)) ?_ (by rw[nrmA_map,List.length_map];omega) (by omega);intro x hx;rw[nrmA_map]at hx;obtain ⟨e,he,rfl⟩:=List.mem_map.1 hx;exact (few_nrm (okxL_mem ho.1 he) (by have:=plcGL_mem he;omega) (by have:=(plcL_mem he).2;omega)).size
 | .rep x lo hi,U,ho,hd,hp,ht,hU=>by
   have ht':tlx x+opLen lo hi≤90:=ht;simp only[mkd]at hU;have hpx:plcG x≤40:=by
    simp only[plcG]at hp
    by_cases h:40<plcG x
    ·rw[if_pos h]at hp;omega
    ·omega
   have hpt:plc x*times lo hi≤40:=by
    simp only[plcG]at hp;rw[if_neg (by omega)]at hp;rw[plcG_few hpx];exact hp
   exact ⟨mkd_ok ho.1 hd.1 hpx (by omega) fun f hf=>hU f (List.mem_append_left _ hf),
    rep_ok (nrm_BdE ho.1) (by rw[plcG_few hpx];exact hpx) tlx_pos hpt (by omega) ho.2 fun f hf=>hU f (List.mem_append_right _ hf)⟩
theorem mkdL_ok:∀ {l:List RX} {U:List NF},okxL l→digL l→plcGL l≤40→tlxL l≤90→(∀ f∈mkdL l,f∈U)→NeedXL U l
 | [],U,_,_,_,_,_=>trivial
 | x::r,U,ho,hd,hp,ht,hU=>by
   simp only[plcGL]at hp;simp only[tlxL]at ht;simp only[mkdL]at hU;exact ⟨mkd_ok ho.1 hd.1 (by omega) (by omega) fun f hf=>hU f (List.mem_append_left _ hf),mkdL_ok ho.2 hd.2 (by omega) (by omega) fun f hf=>hU f (List.mem_append_right _ hf)⟩
theorem mkdS_ok:∀ {l:List RX} {U:List NF},okxL l→digL l→plcGL l≤40→tlxL l≤90→(∀ f∈mkdS l,f∈U)→NeedXL U l∧SeqOK U l
 | [],U,_,_,_,_,_=>⟨trivial,trivial⟩
 | x::r,U,ho,hd,hp,ht,hU=>by
   simp only[plcGL]at hp;simp only[tlxL]at ht;simp only[mkdS]at hU;have h1:=mkdS_ok (U:=U) ho.2 hd.2 (by omega) (by omega) fun f hf=>hU f (List.mem_append_left _ (List.mem_append_right _ hf))
   exact ⟨⟨mkd_ok ho.1 hd.1 (by omega) (by omega) fun f hf=>hU f (List.mem_append_left _ (List.mem_append_left _ hf)),h1.1⟩,fun f hf=>hU f (List.mem_append_right _ hf),h1.2⟩
end
mutual
def nds:RX→Nat
 | .one _=>1
 | .seq l=>ndsL l+1
 | .alt l=>ndsL l+1
 | .rep x _ _=>nds x+1
def ndsL:List RX→Nat
 | []=>0
 | x::r=>nds x+ndsL r
end
theorem ndsL_app:∀ (a b:List RX),ndsL (a++b)=ndsL a+ndsL b
 | [],b=>by simp[ndsL]
 | x::a,b=>by simp only[List.cons_append,ndsL,ndsL_app a b];omega
theorem pMarks_nds:∀ {k:Nat} {x y:RX} {t r:List UInt8},pMarks k x t=some (y,r)→nds y+r.length≤nds x+t.length
 | 0,x,y,t,r,h=>by simp[pMarks]at h
 | k+1,x,y,t,r,h=>by
   simp only[pMarks]at h
   split at h
   ·split at h
    ·simp at h
    ·rename_i b r' hb
     have h1:=pRep_len hb;have h2:=opLen_pos b.1 b.2;have h3:=pMarks_nds (k:=k) h;simp only[nds]at h3;omega
   ·simp only[Option.some.injEq,Prod.mk.injEq]at h
    obtain ⟨rfl,rfl⟩:=h;omega
mutual
theorem pAtom_nds:∀ {k nest:Nat} {t r:List UInt8} {x:RX},pAtom k nest t=some (x,r)→nds x+3*r.length≤3*t.length
 | 0,nest,t,r,x,h=>by simp[pAtom]at h
 | k+1,nest,[],r,x,h=>by simp[pAtom]at h
 | k+1,nest,c::q,r,x,h=>by
   simp only[pAtom]at h
   split at h
   ·split at h
    ·simp at h
    ·split at h
     ·simp at h
     ·rename_i x1 r1 h1
      have e:=pAlt_nds (acc:=[]) h1
      split at h
      ·rename_i hc
       have e2:=headIs_len hc;simp at h;obtain ⟨rfl,rfl⟩:=h;simp only[ndsL,List.length_cons]at e ⊢;simp only[List.length_tail]at e2;simp;omega
      ·simp at h
   ·split at h
    ·split at h
     ·simp at h
     ·rename_i h1
      have e:=pClass_len h1;simp at h;obtain ⟨rfl,rfl⟩:=h;simp only[nds,List.length_cons];omega
    ·split at h
     ·simp at h
      obtain ⟨rfl,rfl⟩:=h;simp only[nds,List.length_cons];omega
     ·split at h
      ·cases q with
       | nil=>simp at h
       | cons d q2 =>
         simp at h;obtain ⟨rfl,rfl⟩:=h;simp only[nds,List.length_cons];omega
      ·split at h
       ·simp at h
       ·simp at h
        obtain ⟨rfl,rfl⟩:=h;simp only[nds,List.length_cons];omega
theorem pSeq_nds:∀ {k nest:Nat} {acc:List RX} {t r:List UInt8} {x:RX},pSeq k nest acc t=some (x,r)→nds x+3*r.length≤1+ndsL acc+3*t.length
 | 0,nest,acc,t,r,x,h=>by simp[pSeq]at h
 | k+1,nest,acc,t,r,x,h=>by
   simp only[pSeq]at h
   split at h
   ·simp at h
    obtain ⟨rfl,rfl⟩:=h;simp only[nds];omega
   ·split at h
    ·simp at h
    ·rename_i x1 r1 h1
     have e1:=pAtom_nds h1
     split at h
     ·simp at h
     ·rename_i y r2 h2
      have e2:=pMarks_nds h2;have e3:=pSeq_nds (acc:=acc++[y]) h;have e4:=(pMarks_sets h2).2;rw[ndsL_app]at e3;simp only[ndsL]at e3;omega
theorem pAlt_nds:∀ {k nest:Nat} {acc:List RX} {t r:List UInt8} {x:RX},pAlt k nest acc t=some (x,r)→nds x+3*r.length≤2+ndsL acc+3*t.length
 | 0,nest,acc,t,r,x,h=>by simp[pAlt]at h
 | k+1,nest,acc,t,r,x,h=>by
   simp only[pAlt]at h
   split at h
   ·simp at h
   ·rename_i x1 r1 h1
    have e1:=pSeq_nds (acc:=[]) h1;simp only[ndsL]at e1
    split at h
    ·rename_i hc
     have e2:=headIs_len hc;have e3:=pAlt_nds (acc:=acc++[x1]) h;rw[ndsL_app]at e3;simp only[ndsL]at e3;omega
    ·simp at h
     obtain ⟨rfl,rfl⟩:=h;simp only[nds,ndsL_app,ndsL];omega
end
theorem pWhole_nds{t:List UInt8}{x:RX}(h:pWhole t=some x):nds x≤3*t.length+2:=by
 unfold pWhole at h
 split at h
 ·rename_i y h1
  simp at h;subst h;have:=pAlt_nds (acc:=[]) h1;simp only[ndsL]at this;omega
 ·simp at h
mutual
theorem mkd_len:∀ {e:RX},okx e→digx e→plcG e≤40→tlx e≤90→(mkd e).length+40≤1000*nds e
 | .one s,ho,hd,hp,ht=>by simp[mkd,nds]
 | .seq l,ho,hd,hp,ht=>by
   have:=mkdS_len (show okxL l from ho) (show digL l from hd) (show plcGL l≤40 from hp) (show tlxL l≤90 from ht);simp only[mkd,nds];omega
 | .alt l,ho,hd,hp,ht=>by
   have ht':tlxL l+(l.length-1)≤90:=ht;have h1:=mkdL_len ho.1 (show digL l from hd) (show plcGL l≤40 from hp) (by omega);simp only[mkd,nds,List.length_append];simp[orMk];omega
 | .rep x lo hi,ho,hd,hp,ht=>by
   have ht':tlx x+opLen lo hi≤90:=ht;have hpx:plcG x≤40:=by
    simp only[plcG]at hp
    by_cases h:40<plcG x
    ·rw[if_pos h]at hp;omega
    ·omega
   have h1:=mkd_len ho.1 hd.1 hpx (by omega);have h2:=repMk_len (few_nrm ho.1 hpx (by omega)) hd.2.1 hd.2.2;simp only[mkd,nds,List.length_append];omega
theorem mkdL_len:∀ {l:List RX},okxL l→digL l→plcGL l≤40→tlxL l≤90→(mkdL l).length≤1000*ndsL l
 | [],_,_,_,_=>by simp[mkdL]
 | x::r,ho,hd,hp,ht=>by
   simp only[plcGL]at hp;simp only[tlxL]at ht;have h1:=mkd_len ho.1 hd.1 (by omega) (by omega);have h2:=mkdL_len ho.2 hd.2 (by omega) (by omega);simp only[mkdL,ndsL,List.length_append];omega
theorem mkdS_len:∀ {l:List RX},okxL l→digL l→plcGL l≤40→tlxL l≤90→(mkdS l).length≤1000*ndsL l
 | [],_,_,_,_=>by simp[mkdS]
 | x::r,ho,hd,hp,ht=>by
   simp only[plcGL]at hp;simp only[tlxL]at ht;have h1:=mkd_len ho.1 hd.1 (by omega) (by omega);have h2:=mkdS_len ho.2 hd.2 (by omega) (by omega);have h3:=crT_len (nrm x) (nrmS r) (nrm_BdE ho.1).1.1;have h4:=(few_nrm ho.1 (show plcG x≤40 by omega) (by omega)).cl;simp only[mkdS,ndsL,List.length_append];omega
end
open Go.RowKit
theorem RQ.first{base:Nat}{w w1 w':World}{fb vb:Nat}{D:List NF}{ak c:Nat}{U:List NF}{Z:List Nat}{y:NF}{e:Ending}(f:Frm [] w w1)(h:RQ base w1 fb vb D ak c U Z y e w'):RQ base w fb vb D ak c U Z y e w' :=
 RQ.later (R:=[]) (FQ.keepR (FQ.refl _ _ _) f) (by simpa using h)
theorem beqZ{a b:Nat}(h:a=b):((a:Int)==(b:Int))=true:=by subst h;simp
theorem beqF{a b:Nat}(h:a≠b):((a:Int)==(b:Int))=false:=by rw[beq_eq_false_iff_ne];omega
theorem beqZ0{a:Nat}(h:a≠0):((a:Int)==0)=false:=by rw[beq_eq_false_iff_ne];omega
theorem beqZ1{a:Nat}(h:a≠1):((a:Int)==1)=false:=by rw[beq_eq_false_iff_ne];omega
theorem nil_av(Z:List Nat):∀ x n c,(Value.slice none 0 0)=.slice (some x) n c→x.block∉Z:=by intro x n c e;simp at e
def setN(s:Nat):NF:=if s=0 then .zero else .set s
theorem eqBS0{s:Nat}(hs:s<2 ^ 256)(w:World):(Op.equalIn 10000 195 (.agg #[.int .u64 (wd s 0), .int .u64 (wd s 1), .int .u64 (wd s 2), .int .u64 (wd s 3)]) (.agg #[.int .u64 0, .int .u64 0, .int .u64 0, .int .u64 0])).run Tryz.prog w=.ok (decide (s=0)) w:=by
 have:=eqBSw hs (t:=0) (by decide) w;simpa[wd] using this
theorem cells0(kd fi se:Nat)(vp:Value)(te:Bool)(ki fii sei:Int)(h1:(kd:Int)=ki)(h2:(fi:Int)=fii)(h3:(se:Int)=sei):FV.cells ⟨kd,0,fi,se,vp,te,0,0,0⟩=#[.int .i64 ki, .int .u64 0, .int .u64 0, .int .u64 0, .int .u64 0, .int .i64 fii, .int .i64 sei,vp, .bool te, .int .i64 0, .int .i64 0, .int .i64 0]:=by
 subst h1 h2 h3;simp[FV.cells,wd]
theorem cells2(s:Nat):FV.cells ⟨2,s,0,0, .slice none 0 0,false,0,0,0⟩=#[.int .i64 2, .int .u64 (wd s 0), .int .u64 (wd s 1), .int .u64 (wd s 2), .int .u64 (wd s 3), .int .i64 0, .int .i64 0, .slice none 0 0, .bool false, .int .i64 0, .int .i64 0, .int .i64 0]:=by
 simp[FV.cells]
theorem bv0:bv 0=.agg #[.int .u64 0, .int .u64 0, .int .u64 0, .int .u64 0]:=by simp[bv,wd]
theorem eqBS00(w:World):(Op.equalIn 10000 195 (.agg #[.int .u64 0, .int .u64 0, .int .u64 0, .int .u64 0]) (.agg #[.int .u64 0, .int .u64 0, .int .u64 0, .int .u64 0])).run Tryz.prog w=.ok true w:=by
 have:=eqBS0 (s:=0) (by decide) w;simpa[wd] using this
theorem RE.first{base:Nat}{w w1 w':World}{fb vb:Nat}{E:List (FV × List Nat)}{D:List NF}{ak c:Nat}{U:List NF}{Z:List Nat}{y:NF}{vp:Value}{L:List Nat}{e:Ending}(f:Frm [] w w1)(h:RE base w1 fb vb E D ak c U Z y vp L e w'):RE base w fb vb E D ak c U Z y vp L e w':=by
 obtain ⟨vb',R,r,E',B',h1,h2,h3,h4,h5,h6,h7,h8⟩:=h;exact ⟨vb',R,r,E',B',h1,h2,h3,h4,h5,h6,FQ.keepL f h7,h8⟩
theorem set_E(base:Nat)(w:World)(fb vb:Nat)(E:List (FV × List Nat))(B:List Nat)(D:List NF)(ak c:Nat)(U:List NF)(Z:List Nat)(s:Nat)(hE:TE base w fb vb E B ak)(hP:TP E B D ak c)(hUD:∀ x∈D,x∈U)(hUl:U.length≤1000000000000)(hs:s<2 ^ 256)(hU:s≠0→.set s∈U)(hzz:ZZ w E Z) :
 Calls Tryz.prog 126 #[.pointer (some ⟨fb,0,none⟩),bv s] w (RE base w fb vb E D ak c U Z (setN s) (.slice none 0 0) []):=by
 have HD0:=hide hP.tb.d0
 by_cases h0:s=0
 ·subst h0
  rw[bv0];have EQ:=eqBS00;have HE:=hide hE;have HP:=hide hP;clear hE hP;go_enter Tryz.func126,Tryz.ntmps126
  go_wp2;go_ret;exact ⟨vb,[],0,E,B,rfl,HE.out.keep ((Frm.refl _ _).alloc _),by simpa using HP.out,by simpa using hUD,hUl,by simpa[setN] using HD0.out,FQ.keepR (FQ.refl _ _ _) ((Frm.refl _ _).alloc _),fun e he=>.inl he,hzz.mono (by simp)⟩
 ·have N1:Hid (∀ w',Frm [] w w'→Calls Tryz.prog 140 #[.pointer (some ⟨fb,0,none⟩), .agg #[.int .i64 2, .int .u64 (wd s 0), .int .u64 (wd s 1), .int .u64 (wd s 2), .int .u64 (wd s 3), .int .i64 0, .int .i64 0, .slice none 0 0, .bool false, .int .i64 0, .int .i64 0, .int .i64 0]] w' (RE base w' fb vb E D ak c U Z (.set s) (.slice none 0 0) [])):=by
   intro w' F;have:=number_E base w' fb vb E B D ak c U Z ⟨2,s,0,0, .slice none 0 0,false,0,0,0⟩ [] (.set s) (hE.keep F) hP hUD hUl (PL.nil _) hs (.inl ⟨rfl,rfl,rfl,rfl,rfl⟩) ⟨⟨Nat.pos_of_ne_zero h0,hs⟩,trivial⟩ (hU h0) rfl rfl (hzz.mono F.size) (nil_av Z);rw[cells2]at this;exact this
  have EQ:=eqBS0 hs;have hsn:Hid (setN s=.set s):=by show _=_;simp[setN,h0]
  have hdz:decide (s=0)=false:=by simp[h0]
  rw[hsn.out];unfold bv;clear hE hP;go_enter Tryz.func126,Tryz.ntmps126
  go_wp2_with (go_at_call 140;refine (N1.out _ ((Frm.refl _ _).alloc _)).mono ?_;rintro e w2 hre;have R2:=hide (RE.first ((Frm.refl _ _).alloc _) hre);obtain ⟨_,_,r,_,_,rfl,_⟩:=hre)
  go_ret;exact R2.out
theorem set_any(base:Nat)(w:World)(fb vb:Nat)(D:List NF)(ak c:Nat)(U:List NF)(Z:List Nat)(s:Nat)(h:ST base w fb vb D ak c U Z)(hs:s<2 ^ 256)(hU:s≠0→.set s∈U) :
 Calls Tryz.prog 126 #[.pointer (some ⟨fb,0,none⟩),bv s] w (RQ base w fb vb D ak c U Z (setN s)):=by
 obtain ⟨E,B,hE,hP,hUD,hUl,hzz⟩:=h;exact (set_E base w fb vb E B D ak c U Z s hE hP hUD hUl hs hU hzz).mono fun e w' hr=>hr.rq
theorem star_any(base:Nat)(w:World)(fb vb:Nat)(D:List NF)(ak c:Nat)(U:List NF)(Z:List Nat)(a:NF)(i:Nat)(h:ST base w fb vb D ak c U Z)(hi:D[i]?=some a)(hU:starN a∈U) :
 Calls Tryz.prog 142 #[.pointer (some ⟨fb,0,none⟩), .int .i64 i] w (RQ base w fb vb D ak c U Z (starN a)):=by
 have HS:=hide h;obtain ⟨f,L,cap,K⟩:=h.look hi;have hlt:=K.lt;have hlen:=h.len;have t0:=K.tab;have k0:=K.get.1;have HD0:=hide h.tbl.1;have HD1:=hide h.tbl.2.1;have n0:=h.num hi h.tbl.1;have n1:=h.num hi h.tbl.2.1;have HI:=hide hi;have kd:=K.kd;rw[kd]at k0;clear hi kd K
 by_cases e0:i=0
 ·have:=n0.1 e0;subst this;subst e0
  clear n0 n1;go_enter Tryz.func142,Tryz.ntmps142
  go_wp2;go_ret;exact RQ.here (r:=1) h (Frm.refl _ _) HD1.out
 ·by_cases e1:i=1
  ·have:=n1.1 e1;subst this;subst e1
   clear n0 n1;go_enter Tryz.func142,Tryz.ntmps142
   go_wp2;go_ret;exact RQ.here (r:=1) h (Frm.refl _ _) HD1.out
  ·have b0:=beqZ0 e0
   have b1:=beqZ1 e1;have m0:a≠.zero:=fun e=>e0 (n0.2 e)
   have m1:a≠.one:=fun e=>e1 (n1.2 e)
   clear n0 n1;have N1:Hid (∀ w',Frm [] w w'→(∀ x,a≠.star x)→Calls Tryz.prog 140 #[.pointer (some ⟨fb,0,none⟩), .agg #[.int .i64 5, .int .u64 0, .int .u64 0, .int .u64 0, .int .u64 0, .int .i64 i, .int .i64 0, .slice none 0 0, .bool true, .int .i64 0, .int .i64 0, .int .i64 0]] w' (RQ base w' fb vb D ak c U Z (starN a))):=by
    intro w' F hns;have hsa:starN a=.star a:=by cases a<;>first | rfl|exact absurd rfl m0|exact absurd rfl m1|exact absurd rfl (hns _)
    have hw:=h.tbl.2.2.2.1 a (List.mem_of_getElem? HI.out);rw[hsa]at hU ⊢;have hw2:=WC.star hw;rw[hsa]at hw2;have:=number_any base w' fb vb D ak c U Z ⟨5,0,i,0, .slice none 0 0,true,0,0,0⟩ [] (.star a) (h.keep F) (PL.nil _) (Nat.two_pow_pos 256) (.inr (.inr (.inr ⟨rfl,rfl,rfl,rfl,hlt,a,HI.out,rfl⟩))) hw2 hU rfl rfl (nil_av Z);rw[cells0 5 i 0 _ _ 5 i 0 rfl rfl rfl]at this;exact this
   have hlt2:(i:Int)<D.length:=by omega
   cases a with
   | star x =>
     clear N1;go_enter Tryz.func142,Tryz.ntmps142
     simp only[kindN]at k0;go_wp2;go_ret;exact RQ.here (r:=i) h (Frm.refl _ _) HI.out
   | zero=>exact absurd rfl m0
   | one=>exact absurd rfl m1
   | _ =>
     have N2:=hide (N1.out w (Frm.refl _ _) (by intro x e;simp at e));clear N1;simp only[kindN]at k0;go_enter Tryz.func142,Tryz.ntmps142
     go_wp2_with (go_at_call 140;refine (N2.out).mono ?_;rintro e w2 ⟨vb',R,r,rfl,hst,hr,hq⟩;have R2:=hide (show RQ base w fb vb D ak c U Z _ (.returned (.int .i64 (r:Nat))) w2 from ⟨vb',R,r,rfl,hst,hr,hq⟩);clear hst hr hq)
     go_ret;exact R2.out
theorem partsOf_any(base:Nat)(w0 w:World)(fb vb:Nat)(D:List NF)(ak c:Nat)(U:List NF)(Z:List Nat)(a:NF)(i:Nat)(h:ST base w0 fb vb D ak c U Z)(F0:Frm [] w0 w)(hi:D[i]?=some a) :
 Calls Tryz.prog 154 #[.pointer (some ⟨fb,0,none⟩), .int .i64 i] w fun e w'=>∃ v L,e=.returned v∧PL w' v L∧(∀ j∈L,j<D.length)∧(∀ p,p∈parts a↔p∈L.map fun j=>D.getD j .zero)∧L.length≤(parts a).length∧(L≠[]→∀ x n cp,v=.slice (some x) n cp→x.block<w0.heap.size∨x.block=w.heap.size)∧Frm [] w w':=by
 obtain ⟨f,L,cap,K⟩:=h.look hi;have hlt:=K.lt;have hlen:=h.len;have hvb:=h.tbl.2.2.2.2.2;have t0:=(F0.cell (p:=⟨fb,0,none⟩) (by show fb<_;omega) (by simp)).trans K.tab;have k0:=(F0.cell (p:=⟨vb,i*12,none⟩) hvb.2.2.2.1 (by simp)).trans K.get.1;have k7:=(F0.cell (p:=⟨vb,i*12+7,none⟩) hvb.2.2.2.1 (by simp)).trans K.get.2.2.2.2.2.2.2.1;have HD0:=hide h.tbl.1;have n0:=h.num hi h.tbl.1;have HI:=hide hi;have kd:=K.kd;have KS:=hide K.sum;have KP:=hide K.pl;have HW:=hide h.tbl.2.2.2.1;have HND:=hide h.tbl.2.2.1;rw[kd]at k0;clear hi kd K;have hgd:Hid (D.getD i .zero=a):=by show _=_;simp[List.getD,HI.out]
 by_cases e0:i=0
 ·have:=n0.1 e0;subst this;subst e0
  clear n0;go_enter Tryz.func154,Tryz.ntmps154
  go_wp2;go_ret;exact ⟨_,[],rfl,PL.nil _,by simp,by simp[parts],by simp,by simp,Frm.refl _ _⟩
 ·have b0:=beqZ0 e0
  have m0:a≠.zero:=fun e=>e0 (n0.2 e)
  clear n0;have hlt2:(i:Int)<D.length:=by omega
  by_cases hsum:∃ l,a=.sum l
  ·obtain ⟨l,rfl⟩:=hsum
   simp only[kindN]at k0;have hl:=KS.out l rfl;have hr:l.length=L.length∧∀ p,p∈l↔p∈L.map fun j=>D.getD j .zero:=by
    have ht:=map_tell HW.out hl.1;refine ⟨?_,fun p=>?_⟩
    ·rw[hl.2.1,srt_len ht (map_nodup HND.out hl.2.2 hl.1)];simp
    ·rw[hl.2.1];exact srt_mem_iff ht
   have HR:=hide hr;have HL:=hide hl;clear hl hr;go_enter Tryz.func154,Tryz.ntmps154
   go_wp2;go_ret;refine ⟨_,L,rfl,KP.out.frm F0 (NoInt.nil _),HL.out.1,by simpa[parts] using HR.out.2,by simp[parts,HR.out.1],?_,Frm.refl _ _⟩;intro hne x n cp e;obtain ⟨a3,c3,e3,h3⟩:=KP.out.1;obtain ⟨g,off,e4,hg,_⟩:=h3 0 (List.length_pos_iff.2 hne);rw[e3,e4]at e;simp at e;obtain ⟨rfl,_⟩:=e;exact .inl hg
  ·have hk4:kindN a≠4:=by cases a<;>simp_all[kindN]
   have hk4':((kindN a:Int)==4)=false:=by rw[beq_eq_false_iff_ne];omega
   have hpa:Hid (parts a=[a]):=by show _=_;cases a<;>simp_all[parts]
   go_enter Tryz.func154,Tryz.ntmps154
   go_wp2;go_ret;refine ⟨_,[i],rfl,?_,by simpa using hlt,?_,by simp[hpa.out],fun _ x n cp e=>by simp at e;obtain ⟨rfl,_⟩:=e;exact .inr rfl,(Frm.refl _ _).alloc _⟩
   ·exact PL.of_row (base:=w.heap.size) (World.ownsRow_lit _ #[.int .i64 i] 1 (Nat.le_refl _) (by unfold maxLen;omega) (by simp)) (by simp)
   ·intro p;rw[hpa.out];simp only[List.map_cons,List.map_nil,hgd.out]
def ThenOK(A:NF):Prop:=∀ (base:Nat) (w:World) (fb vb:Nat) (D:List NF) (ak c:Nat) (U:List NF) (Z:List Nat) (B:NF) (i j:Nat),ST base w fb vb D ak c U Z→D[i]?=some A→D[j]?=some B→(∀ f∈crT A B,f∈U) →
    Calls Tryz.prog 143 #[.pointer (some ⟨fb,0,none⟩), .int .i64 i, .int .i64 j] w (RQ base w fb vb D ak c U Z (thenN A B))
theorem kind3{a:NF}(h:∀ x y,a≠.pair x y):((kindN a:Int)==3)=false:=by
 rw[beq_eq_false_iff_ne];cases a<;>simp[kindN]
 exact h _ _ rfl
theorem then_any(A:NF):ThenOK A:=by
 refine NF.ind (P:=ThenOK) ?_ A;intro A ih base w fb vb D ak c U Z B i j h hi hj hU;obtain ⟨f,L,cap,K⟩:=h.look hi;obtain ⟨f2,L2,cap2,K2⟩:=h.look hj;have hlt:=K.lt;have hlt':=K2.lt;have hlen:=h.len;have t0:=K.tab;obtain ⟨c0,c1,c2,c3,c4,c5,c6,c7,c8,c9,c10,c11⟩:=K.get;have d8:=K2.get.2.2.2.2.2.2.2.2.1;have HD0:=hide h.tbl.1;have HD1:=hide h.tbl.2.1;have HI:=hide hi;have HJ:=hide hj;have n0:=h.num hi h.tbl.1;have n1:=h.num hi h.tbl.2.1;have o0:=h.num hj h.tbl.1;have o1:=h.num hj h.tbl.2.1;have kd:=K.kd;have te:=K.te;have te2:=K2.te;obtain ⟨av,capv,hvp,_⟩:=K.pl.1;rw[hvp]at c7;clear hvp;have KP:=hide K.pair;have HS:=hide h;have HU:=hide hU;have wA:=h.tbl.2.2.2.1 A (List.mem_of_getElem? hi);have wB:=h.tbl.2.2.2.1 B (List.mem_of_getElem? hj);have hvb:=h.tbl.2.2.2.2.2;rw[kd]at c0;rw[te]at c8;rw[te2]at d8;clear hi hj kd te te2 K K2 hU h;have hlt1:(i:Int)<D.length:=by omega
 have hlt2:(j:Int)<D.length:=by omega
 by_cases e0:i=0
 ·have:=n0.1 e0;subst this;subst e0
  clear n0 n1 o0 o1;go_enter Tryz.func143,Tryz.ntmps143
  go_wp2;go_ret;exact RQ.here (r:=0) HS.out (Frm.refl _ _) HD0.out
 have b0:=beqZ0 e0;have m0:A≠.zero:=fun e=>e0 (n0.2 e)
 by_cases e1:j=0
 ·have:=o0.1 e1;subst this;subst e1
  clear n0 n1 o0 o1;go_enter Tryz.func143,Tryz.ntmps143
  go_wp2;go_ret;exact RQ.here (r:=0) HS.out (Frm.refl _ _) (by rw[thenN_zero];exact HD0.out)
 have b1:=beqZ0 e1;have p0:B≠.zero:=fun e=>e1 (o0.2 e)
 by_cases e2:i=1
 ·have:=n1.1 e2;subst this;subst e2
  clear n0 n1 o0 o1;go_enter Tryz.func143,Tryz.ntmps143
  go_wp2;go_ret;exact RQ.here (r:=j) HS.out (Frm.refl _ _) HJ.out
 have b2:=beqZ1 e2;have m1:A≠.one:=fun e=>e2 (n1.2 e)
 by_cases e3:j=1
 ·have:=o1.1 e3;subst this;subst e3
  clear n0 n1 o0 o1;go_enter Tryz.func143,Tryz.ntmps143
  go_wp2;go_ret;exact RQ.here (r:=i) HS.out (Frm.refl _ _) (by rw[thenN_one];exact HI.out)
 have b3:=beqZ1 e3;have p1:B≠.one:=fun e=>e3 (o1.2 e)
 clear n0 n1 o0 o1;have hbt:tailN B=true:=by cases B<;>simp_all[tailN]
 by_cases hp:∃ x y,A=.pair x y
 ·obtain ⟨x,y,rfl⟩:=hp
  have hpr:=KP.out x y rfl;simp only[kindN]at c0;go_enter Tryz.func143,Tryz.ntmps143
  go_wp2_with fail
  have F1:Frm [] w (w.alloc (Obj.cells #[.int .i64 3, .int .u64 (wd f.s 0), .int .u64 (wd f.s 1), .int .u64 (wd f.s 2), .int .u64 (wd f.s 3), .int .i64 f.fi, .int .i64 f.se, .slice av L.length capv, .bool (nul (.pair x y)), .int .i64 f.lk, .int .i64 f.ak, .int .i64 f.lf] 206)):=(Frm.refl _ _).alloc _;have hb1:=heap1 w (Obj.cells #[.int .i64 3, .int .u64 (wd f.s 0), .int .u64 (wd f.s 1), .int .u64 (wd f.s 2), .int .u64 (wd f.s 3), .int .i64 f.fi, .int .i64 f.se, .slice av L.length capv, .bool (nul (.pair x y)), .int .i64 f.lk, .int .i64 f.ak, .int .i64 f.lf] 206);have z1:(w.alloc (Obj.cells #[.int .i64 3, .int .u64 (wd f.s 0), .int .u64 (wd f.s 1), .int .u64 (wd f.s 2), .int .u64 (wd f.s 3), .int .i64 f.fi, .int .i64 f.se, .slice av L.length capv, .bool (nul (.pair x y)), .int .i64 f.lk, .int .i64 f.ak, .int .i64 f.lf] 206)).heap.size=w.heap.size+1:=by simp
  generalize w.alloc (Obj.cells #[.int .i64 3, .int .u64 (wd f.s 0), .int .u64 (wd f.s 1), .int .u64 (wd f.s 2), .int .u64 (wd f.s 3), .int .i64 f.fi, .int .i64 f.se, .slice av L.length capv, .bool (nul (.pair x y)), .int .i64 f.lk, .int .i64 f.ak, .int .i64 f.lf] 206)=w1 at F1 hb1 z1 ⊢;have hcr:=HU.out;rw[crT_pair hbt]at hcr;refine (ih y (by simp[NF.size];omega) base w1 fb vb D ak c U Z B f.se j (HS.out.keep F1) hpr.2 HJ.out (fun g hg=>hcr g (by simp[hg]))).mono ?_;rintro e w2 ⟨vb1,R,r1,rfl,hst,hr1,hq⟩;have q5:w2.cell? ⟨w.heap.size,5,none⟩=some (.int .i64 f.fi):=by
   have:=hq.block (k:=w.heap.size) (by omega) (by omega) (by omega);rw[hb1]at this;simp[World.cell?,this]
  have C2:=hide (ih x (by simp[NF.size];omega) base w2 fb vb1 (D++R) ak c U Z (thenN y B) f.fi r1 hst (get_app hpr.1) hr1 (fun g hg=>hcr g (by simp[hg])));have Q2:=hide (FQ.keepL F1 hq);have HT:Hid (thenN (.pair x y) B=thenN x (thenN y B)):=thenN_pairs hbt;clear hcr hst hr1 hq hb1 z1 F1 hpr c0 c1 c2 c3 c4 c5 c6 c7 c8 c9 c10 c11 t0 d8 ih;go_wp2_with fail
  refine (C2.out).mono ?_;rintro e w3 hrq;have R3:=hide (RQ.later Q2.out hrq);obtain ⟨_,_,r3,rfl,_⟩:=hrq;go_wp2;go_ret;rw[HT.out];exact R3.out
 ·have k3:=kind3 (a:=A) (fun x y e=>hp ⟨x,y,e⟩)
  have hah:headN A=true:=by cases A<;>simp_all[headN]
  have HT:Hid (thenN A B=.pair A B):=thenN_head hah hbt;have hin:(NF.pair A B)∈U:=HU.out _ (by rw[crT_head hah hbt];simp);have N1:Hid (∀ w',Frm [] w w'→Calls Tryz.prog 140 #[.pointer (some ⟨fb,0,none⟩), .agg #[.int .i64 3, .int .u64 0, .int .u64 0, .int .u64 0, .int .u64 0, .int .i64 i, .int .i64 j, .slice none 0 0, .bool (nul A&&nul B), .int .i64 0, .int .i64 0, .int .i64 0]] w' (RQ base w' fb vb D ak c U Z (.pair A B))):=by
   intro w' F;have hw2:=WC.then wA wB;rw[HT.out]at hw2;have:=number_any base w' fb vb D ak c U Z ⟨3,0,i,j, .slice none 0 0,nul A&&nul B,0,0,0⟩ [] (.pair A B) (HS.out.keep F) (PL.nil _) (Nat.two_pow_pos 256) (.inr (.inl ⟨rfl,rfl,rfl,hlt,hlt',A,B,HI.out,HJ.out,rfl⟩)) hw2 hin rfl rfl (nil_av Z);rw[cells0 3 i j _ _ 3 i j rfl rfl rfl]at this;exact this
  clear hin HU;rw[HT.out];have F0:Hid (∀ o,Frm [] w (w.alloc o)):=fun o=>(Frm.refl _ _).alloc o
  have hv1:=hvb.2.2.2.1;have hv0:fb<w.heap.size:=by omega
  have t0':∀ o,(w.alloc o).cell? ⟨fb,0,none⟩=some (.slice (some ⟨vb,0,none⟩) D.length cap):=fun o=>(((Frm.refl [] w).alloc o).cell (p:=⟨fb,0,none⟩) hv0 (by simp)).trans t0
  have d8':∀ o,(w.alloc o).cell? ⟨vb,j*12+8,none⟩=some (.bool (nul B)):=fun o=>(((Frm.refl [] w).alloc o).cell (p:=⟨vb,j*12+8,none⟩) hv1 (by simp)).trans d8
  cases hnA:nul A with
  | true =>
    rw[hnA]at c8 N1;cases hnB:nul B with
    | true =>
      rw[hnB]at d8 N1;simp only[hnB]at d8';go_enter Tryz.func143,Tryz.ntmps143
      go_wp2_with (go_at_call 140;refine (N1.out _ (F0.out _)).mono ?_;rintro e w3 hrq;have R3:=hide (RQ.first (F0.out _) hrq);obtain ⟨_,_,r3,rfl,_⟩:=hrq)
      go_ret;exact R3.out
    | false =>
      rw[hnB]at d8 N1;simp only[hnB]at d8';go_enter Tryz.func143,Tryz.ntmps143
      go_wp2_with (go_at_call 140;refine (N1.out _ (F0.out _)).mono ?_;rintro e w3 hrq;have R3:=hide (RQ.first (F0.out _) hrq);obtain ⟨_,_,r3,rfl,_⟩:=hrq)
      go_ret;exact R3.out
  | false =>
    rw[hnA]at c8 N1;go_enter Tryz.func143,Tryz.ntmps143
    go_wp2_with (go_at_call 140;refine (N1.out _ (F0.out _)).mono ?_;rintro e w3 hrq;have R3:=hide (RQ.first (F0.out _) hrq);obtain ⟨_,_,r3,rfl,_⟩:=hrq)
    go_ret;exact R3.out
end Go.Proofs.YtpcbbbilmpobaaaGreatDoor
