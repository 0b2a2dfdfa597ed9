import Derived.Test.YtjkialjoamgbgaaGreatJ12
import Derived.Test.YtjkialjoamgbgaaGreatJ28
import Derived.Test.YtjkialjoamgbgaaGreatJ50
import Derived.Test.YtjkialjoamgbgaaGreatJ36
import Derived.Test.YtjkialjoamgbgaaGreatJ49
import Derived.Test.YtjkialjoamgbgaaGreatJ1
import Derived.Test.YtjkialjoamgbgaaGreatJ11
import Derived.Test.YtjkialjoamgbgaaGreatJ10
set_option linter.unusedVariables false
set_option linter.unusedSimpArgs false
set_option linter.unnecessarySimpa false
set_option maxRecDepth 100000
set_option maxHeartbeats 4000000
namespace Go.Proofs.YtjkialjoamgbgaaGreat
open Go.RowKit
theorem asc_ris:∀ {B:List (List UInt8)},Asc B→risB B=true
 | [],_=>rfl
 | [_],_=>rfl
 | a::b::l,h=>by
   have h1:=List.pairwise_cons.1 h
   rw[risB,bl_lt,decide_eq_true (h1.1 b (by simp)),asc_ris h1.2]
   rfl
/-! Labels in another order. -/
theorem labsB_iff:∀ (P L:List LBL),labsB P L=true↔(∀ x∈L,isNameL x.1=true∧x.2.length≤40)∧(L.map (·.1)).Nodup∧∀ x∈L,∀ y∈P,y.1≠x.1
 | P,[]=>by simp[labsB]
 | P,x::r=>by
   rw[labsB,Bool.and_eq_true,Bool.and_eq_true,Bool.and_eq_true,labsB_iff (P++[x]) r]
   simp only[List.map_cons,List.nodup_cons,List.mem_cons,forall_eq_or_imp,List.mem_append,List.mem_singleton,Bool.not_eq_true',List.any_eq_false,beq_iff_eq,decide_eq_true_eq,List.mem_map,not_exists,not_and]
   constructor
   ·rintro ⟨⟨⟨h1,h2⟩,h3⟩,h4,h5,h6⟩
    refine ⟨⟨⟨h1,h2⟩,h4⟩,⟨fun y hy e=>?_,h5⟩,fun y hy=>h3 y hy,fun y hy z hz=>h6 y hy z (.inl hz)⟩
    exact h6 y hy x (.inr (.inl rfl)) e.symm
   ·rintro ⟨⟨⟨h1,h2⟩,h4⟩,⟨h5,h6⟩,h7,h8⟩
    refine ⟨⟨⟨h1,h2⟩,fun y hy=>h7 y hy⟩,h4,h6,fun y hy z hz=>?_⟩
    rcases hz with hz|hz|hz
    ·exact h8 y hy z hz
    ·subst hz;exact fun e=>h5 y hy e.symm
    ·cases hz
theorem labsOK_iff(L:List LBL):labsOK L=true↔L.length≤12∧(∀ x∈L,isNameL x.1=true∧x.2.length≤40)∧(L.map (·.1)).Nodup:=by
 unfold labsOK
 rw[Bool.and_eq_true,decide_eq_true_eq,labsB_iff]
 constructor
 ·rintro ⟨h1,h2,h3,_⟩;exact ⟨h1,h2,h3⟩
 ·rintro ⟨h1,h2,h3⟩;exact ⟨h1,h2,h3,by simp⟩
theorem uniq_of{L:List LBL}(h:(L.map (·.1)).Nodup){x y:LBL}(hx:x∈L)(hy:y∈L)(e:x.1=y.1):x=y:=by
 induction L with
 | nil=>simp at hx
 | cons a r ih =>
   rw[List.map_cons,List.nodup_cons]at h
   rcases List.mem_cons.1 hx with h1|h1
   ·rcases List.mem_cons.1 hy with h2|h2
    ·rw[h1,h2]
    ·exact absurd (List.mem_map.2 ⟨y,h2,by rw[← e,h1]⟩) h.1
   ·rcases List.mem_cons.1 hy with h2|h2
    ·exact absurd (List.mem_map.2 ⟨x,h1,by rw[e,h2]⟩) h.1
    ·exact ih h.2 h1 h2
theorem lblV_mem{L:List LBL}{n:List UInt8}{x:LBL}(h:(L.map (·.1)).Nodup)(hx:x∈L)(e:x.1=n):lblV L n=x.2:=by
 unfold lblV
 cases hf:L.find? fun x=>x.1==n with
 | none =>
   have:=List.find?_eq_none.1 hf x hx
   simp[e]at this
 | some y =>
   have h1:=List.mem_of_find?_eq_some hf
   have h2:=List.find?_some hf
   simp only[beq_iff_eq]at h2
   rw[uniq_of h h1 hx (h2.trans e.symm)]
theorem lblV_none{L:List LBL}{n:List UInt8}(h:∀ x∈L,x.1≠n):lblV L n=[]:=by
 unfold lblV
 cases hf:L.find? fun x=>x.1==n with
 | none=>rfl
 | some y =>
   have h1:=List.mem_of_find?_eq_some hf
   have h2:=List.find?_some hf
   simp only[beq_iff_eq]at h2
   exact absurd h2 (h y h1)
theorem lblV_same{L L':List LBL}(h:(L.map (·.1)).Nodup)(h':(L'.map (·.1)).Nodup)(n:List UInt8)(hm:∀ x:LBL,x.1=n→(x∈L↔x∈L')):lblV L n=lblV L' n:=by
 by_cases hx:∃ x∈L,x.1=n
 ·obtain ⟨x,hx,e⟩:=hx
  rw[lblV_mem h hx e,lblV_mem h' ((hm x e).1 hx) e]
 ·have h1:∀ x∈L,x.1≠n:=fun x hx' e=>hx ⟨x,hx',e⟩
  rw[lblV_none h1,lblV_none (fun x hx' e=>h1 x ((hm x e).2 hx') e)]
def rotL(L:List LBL)(p:Nat):Nat→List LBL
 | 0=>[]
 | i+1=>rotL L p i++[L.getD (L.length-1-(i+p) % L.length) ([],[])]
theorem rotL_len(L:List LBL)(p:Nat):∀ i,(rotL L p i).length=i
 | 0=>rfl
 | i+1=>by rw[rotL];simp[rotL_len L p i]
theorem rotL_get(L:List LBL)(p:Nat):∀ (i j:Nat),j<i→(rotL L p i)[j]?=some (L.getD (L.length-1-(j+p) % L.length) ([],[]))
 | 0,j,h=>by omega
 | i+1,j,h=>by
   rw[rotL]
   by_cases hj:j<i
   ·rw[List.getElem?_append_left (by rw[rotL_len];exact hj)]
    exact rotL_get L p i j hj
   ·have:j=i:=by omega
    subst this
    rw[List.getElem?_append_right (by rw[rotL_len];exact Nat.le_refl _),rotL_len,Nat.sub_self]
    rfl
theorem rot_idx{n i j p:Nat}(hi:i<n)(hj:j<n)(h:n-1-(i+p) % n=n-1-(j+p) % n):i=j:=by
 have h1:(i+p) % n<n:=Nat.mod_lt _ (by omega)
 have h2:(j+p) % n<n:=Nat.mod_lt _ (by omega)
 have h3:(i+p) % n=(j+p) % n:=by omega
 rw[Nat.add_mod i p,Nat.add_mod j p,Nat.mod_eq_of_lt hi,Nat.mod_eq_of_lt hj]at h3
 have hp:p % n<n:=Nat.mod_lt _ (by omega)
 generalize p % n=q at *
 by_cases a:i+q<n
 ·rw[Nat.mod_eq_of_lt a]at h3
  by_cases b:j+q<n
  ·rw[Nat.mod_eq_of_lt b]at h3;omega
  ·rw[Nat.mod_eq_sub_mod (by omega),Nat.mod_eq_of_lt (by omega)]at h3;omega
 ·rw[Nat.mod_eq_sub_mod (by omega:n≤i+q),Nat.mod_eq_of_lt (by omega)]at h3
  by_cases b:j+q<n
  ·rw[Nat.mod_eq_of_lt b]at h3;omega
  ·rw[Nat.mod_eq_sub_mod (by omega:n≤j+q),Nat.mod_eq_of_lt (by omega)]at h3;omega
theorem rot_onto{n p:Nat}(k:Nat)(hk:k<n):∃ i,i<n∧n-1-(i+p) % n=k:=by
 have hp:p % n<n:=Nat.mod_lt _ (by omega)
 refine ⟨(n-1-k+(n-p % n)) % n,Nat.mod_lt _ (by omega),?_⟩
 rw[Nat.add_mod,Nat.mod_mod,← Nat.add_mod,Nat.add_mod _ p]
 have:((n-1-k+(n-p % n)) % n+p % n) % n=n-1-k:=by
  rw[← Nat.add_mod_mod,Nat.mod_add_mod]
  generalize p % n=q at *
  rw[show n-1-k+(n-q)+q % n=n-1-k+n by rw[Nat.mod_eq_of_lt hp];omega]
  rw[Nat.add_mod_right,Nat.mod_eq_of_lt (by omega)]
 omega
theorem rotL_mem{L:List LBL}{p:Nat}(x:LBL):x∈rotL L p L.length↔x∈L:=by
 constructor
 ·intro h
  obtain ⟨j,hj⟩:=List.getElem?_of_mem h
  have hjl:=(List.getElem?_eq_some_iff.1 hj).1
  rw[rotL_len]at hjl
  rw[rotL_get L p L.length j hjl]at hj
  have hlt:L.length-1-(j+p) % L.length<L.length:=by omega
  simp only[List.getD_eq_getElem?_getD,List.getElem?_eq_getElem hlt,Option.getD_some,Option.some.injEq]at hj
  rw[← hj]
  exact List.getElem_mem _
 ·intro h
  obtain ⟨k,hk,rfl⟩:=List.getElem_of_mem h
  obtain ⟨i,hi,e⟩:=rot_onto (p:=p) k hk
  refine List.mem_of_getElem? (i:=i) ?_
  rw[rotL_get L p L.length i hi,e]
  simp[List.getD,hk]
theorem rotL_nodup{L:List LBL}{p:Nat}(h:(L.map (·.1)).Nodup):((rotL L p L.length).map (·.1)).Nodup:=by
 rw[List.nodup_iff_pairwise_ne,List.pairwise_iff_getElem]
 intro i j hi hj hij e
 rw[List.length_map,rotL_len]at hi hj
 have g:∀ (k:Nat) (hk:k<L.length),(((rotL L p L.length).map (·.1))[k]'(by rw[List.length_map,rotL_len];exact hk))=(L[L.length-1-(k+p) % L.length]'(by omega)).1:=by
  intro k hk
  have:=rotL_get L p L.length k hk
  have hlt:L.length-1-(k+p) % L.length<L.length:=by omega
  simp only[List.getD_eq_getElem?_getD,List.getElem?_eq_getElem hlt,Option.getD_some]at this
  rw[List.getElem_map]
  rw[(List.getElem?_eq_some_iff.1 this).2]
 rw[g i hi,g j hj]at e
 have hn:∀ (a b:Nat) (ha:a<L.length) (hb:b<L.length),L[a].1=L[b].1→a=b:=by
  intro a b ha hb e
  rw[List.nodup_iff_pairwise_ne,List.pairwise_iff_getElem]at h
  rcases Nat.lt_trichotomy a b with h1|h1|h1
  ·exact absurd (by rw[List.getElem_map,List.getElem_map];exact e) (h a b (by simpa using ha) (by simpa using hb) h1)
  ·exact h1
  ·exact absurd (by rw[List.getElem_map,List.getElem_map];exact e.symm) (h b a (by simpa using hb) (by simpa using ha) h1)
 exact absurd (rot_idx hi hj (hn _ _ (by omega) (by omega) e)) (by omega)
theorem rot_ok{L:List LBL}(h:labsOK L=true)(p:Nat):labsOK (rotL L p L.length)=true∧lblV (rotL L p L.length)=lblV L:=by
 rw[labsOK_iff]at h
 obtain ⟨h1,h2,h3⟩:=h
 refine ⟨(labsOK_iff _).2 ⟨by rw[rotL_len];exact h1,fun x hx=>h2 x ((rotL_mem x).1 hx),rotL_nodup h3⟩,funext fun n=>?_⟩
 exact (lblV_same h3 (rotL_nodup h3) n (fun x _=>(rotL_mem x).symm)).symm
def zzN:List UInt8:=[122,122,122,122,122,122,122,122]
theorem zz_ok{L:List LBL}(h:labsOK L=true)(hl:L.length<12)(hz:∀ x∈L,x.1≠zzN):labsOK (L++[(zzN,[113])])=true∧∀ n,n≠zzN→lblV (L++[(zzN,[113])]) n=lblV L n:=by
 rw[labsOK_iff]at h
 obtain ⟨h1,h2,h3⟩:=h
 have hnd:((L++[(zzN,[113])]:List LBL).map (·.1)).Nodup:=by
  rw[List.map_append,List.nodup_append]
  refine ⟨h3,by simp,fun a ha b hb e=>?_⟩
  obtain ⟨x,hx,rfl⟩:=List.mem_map.1 ha
  simp at hb
  exact hz x hx (e.trans hb)
 refine ⟨(labsOK_iff _).2 ⟨by simp;omega,fun x hx=>?_,hnd⟩,fun n hn=>?_⟩
 ·rcases List.mem_append.1 hx with hx|hx
  ·exact h2 x hx
  ·rw[List.mem_singleton.1 hx];decide
 ·refine lblV_same hnd h3 n (fun x e=>?_)
  simp only[List.mem_append,List.mem_singleton]
  constructor
  ·rintro (h|rfl)
   ·exact h
   ·exact absurd e.symm hn
  ·exact .inl
open Go.RowKit
/-! What a route sends: some,each once. -/
theorem walkH_ne{H:Nat→Bool}{C:List CR}{S:Nat→List Nat}:∀ K:List Nat,K.any H=true→(∀ c∈K,S c≠[])→walkH H C S K≠[]
 | [],h,_=>by simp at h
 | c::r,h,hS=>by
   rw[walkH]
   cases hc:H c
   ·simp only[Bool.false_eq_true,if_false]
    exact walkH_ne r (by simpa[hc] using h) (fun x hx=>hS x (by simp[hx]))
   ·simp only[if_true]
    intro e
    exact hS c (by simp) (List.append_eq_nil_iff.1 e).1
inductive Below' (C:List CR) (r:Nat):Nat→Prop
 | self:Below' C r r
 | step {j p:Nat}:par C j=some p→Below' C r p→Below' C r j
theorem Below'.ge{C:List CR}{r j:Nat}(h:Below' C r j):r≤j:=by
 induction h with
 | self=>exact Nat.le_refl _
 | step hp _ ih=>have:=par_lt hp;omega
theorem Below'.up{C:List CR}{c r j:Nat}(hc:par C c=some r)(h:Below' C c j):Below' C r j:=by
 induction h with
 | self=>exact .step hc .self
 | step hp _ ih=>exact .step hp ih
theorem Below'.one{C:List CR}{r a b j:Nat}(ha:par C a=some r)(hb:par C b=some r)(h1:Below' C a j)(h2:Below' C b j):a=b:=by
 induction h1 with
 | self =>
   cases h2 with
   | self=>rfl
   | step hp h3 =>
     rw[ha]at hp
     cases hp
     have h4:=h3.ge
     have h5:=par_lt hb
     omega
 | step hp h3 ih =>
   cases h2 with
   | self =>
     rw[hb]at hp
     cases hp
     have h4:=h3.ge
     have h5:=par_lt ha
     omega
   | step hp2 h4 =>
     rw[hp]at hp2
     cases hp2
     exact ih h4
theorem walkH_mem{H:Nat→Bool}{C:List CR}{S:Nat→List Nat}:∀ K:List Nat,∀ x∈walkH H C S K,∃ c∈K,x∈S c
 | [],x,h=>by simp[walkH]at h
 | c::r,x,h=>by
   rw[walkH]at h
   split at h
   ·rcases List.mem_append.1 h with h|h
    ·exact ⟨c,by simp,h⟩
    ·split at h
     ·obtain ⟨d,hd,hx⟩:=walkH_mem r x h
      exact ⟨d,by simp[hd],hx⟩
     ·simp at h
   ·obtain ⟨d,hd,hx⟩:=walkH_mem r x h
    exact ⟨d,by simp[hd],hx⟩
theorem walkH_nodup{H:Nat→Bool}{C:List CR}{S:Nat→List Nat}:∀ K:List Nat,K.Nodup→(∀ c∈K,(S c).Nodup)→(∀ c∈K,∀ d∈K,∀ x,x∈S c→x∈S d→c=d)→(walkH H C S K).Nodup
 | [],_,_,_=>by simp[walkH]
 | c::r,hK,hS,hD=>by
   have hr:=walkH_nodup (H:=H) (C:=C) r (List.nodup_cons.1 hK).2 (fun d hd=>hS d (by simp[hd])) (fun a ha b hb=>hD a (by simp[ha]) b (by simp[hb]))
   rw[walkH]
   split
   ·rw[List.nodup_append]
    refine ⟨hS c (by simp),?_,?_⟩
    ·split
     ·exact hr
     ·exact List.nodup_nil
    ·intro x hx y hy e
     subst e
     split at hy
     ·obtain ⟨d,hd,hxd⟩:=walkH_mem r x hy
      have:=hD c (by simp) d (by simp[hd]) x hx hxd
      subst this
      exact (List.nodup_cons.1 hK).1 hd
     ·simp at hy
   ·exact hr
theorem sentH_below{H:Nat→Bool}{C:List CR}:∀ f r,r<C.length→(∀ x∈sentH H C f r,Below' C r x∧x<C.length)∧(sentH H C f r).Nodup
 | 0,r,_=>⟨by simp[sentH],by simp[sentH]⟩
 | f+1,r,hr=>by
   rw[sentH]
   split
   ·have hk:∀ c∈kids C r,(∀ x∈sentH H C f c,Below' C c x∧x<C.length)∧(sentH H C f c).Nodup:=fun c hc=>sentH_below f c (mem_kids' hc).1
    refine ⟨fun x hx=>?_,walkH_nodup _ (kids_nodup C r) (fun c hc=>(hk c hc).2) (fun c hc d hd x hx hy=>?_)⟩
    ·obtain ⟨c,hc,hxc⟩:=walkH_mem _ x hx
     have:=(hk c hc).1 x hxc
     exact ⟨this.1.up (mem_kids' hc).2,this.2⟩
    ·exact Below'.one (mem_kids' hc).2 (mem_kids' hd).2 ((hk c hc).1 x hx).1 ((hk d hd).1 x hy).1
   ·exact ⟨fun x hx=>by rw[List.mem_singleton.1 hx];exact ⟨.self,hr⟩,by simp⟩
theorem kid_depth{C:List CR}{r c:Nat}(h:c∈kids C r){x y:CR}(hx:C[r]?=some x)(hy:C[c]?=some y):y.d=x.d+1:=by
 have hp:=(mem_kids' h).2
 unfold par at hp
 rw[hy]at hp
 have go:∀ (d i p:Nat),parGo C d i=some p→(C[p]?.map fun c=>c.d+1)=some d:=by
  intro d i
  induction i with
  | zero=>intro p h;simp[parGo]at h
  | succ i ih =>
    intro p h
    rw[parGo]at h
    split at h
    ·rename_i h1;cases h;exact h1
    ·exact ih p h
 have:=go _ _ _ hp
 rw[hx]at this
 simp at this
 omega
theorem sentH_some{H:Nat→Bool}{C:List CR}(hd:∀ c∈C,c.d≤5):∀ f r x,C[r]?=some x→6≤f+x.d→sentH H C f r≠[]
 | 0,r,x,hx,h=>by
   have:=hd x (List.mem_of_getElem? hx)
   omega
 | f+1,r,x,hx,h=>by
   rw[sentH]
   split
   ·rename_i ha
    refine walkH_ne _ ha (fun c hc=>?_)
    have hcl:=(mem_kids' hc).1
    have:=kid_depth hc hx (List.getElem?_eq_getElem hcl)
    exact sentH_some hd f c C[c] (List.getElem?_eq_getElem hcl) (by omega)
   ·simp
theorem sentH_len{H:Nat→Bool}{C:List CR}(f r:Nat)(hr:r<C.length):(sentH H C f r).length≤C.length:=by
 obtain ⟨h1,h2⟩:=sentH_below (H:=H) f r hr
 exact nodup_le _ _ h2 (fun x hx=>(h1 x hx).2)
open Go.RowKit
theorem hitsC_good{t:List UInt8}{L:List (List UInt8)}{C:List CR}(ht:t.length≤1048576)(h:cRead t=.ok (L,C))(V:List UInt8→List UInt8):hitsC C V≠[]∧(hitsC C V).length≤C.length∧∀ x∈hitsC C V,HitG L x∧HitOK x:=by
 obtain ⟨h1,h2,h3,h4⟩:=cRead_tree h
 have hg:=(cRead1_good t L C ht h1).2.2
 have hst:=cRead_steps h
 have hnm:=cRead_names h
 obtain ⟨_,l0,ls,e1,e2,e3⟩:=(cRead1_lines t L C).1 h1
 have hn:∀ c∈C,c.rc=[45]∨c.rc∈L:=by
  unfold nameF at hnm
  split at hnm
  ·cases hnm
  ·exact nameGo_ok C 0 hnm
 have ha:∀ c∈C,Asc c.bys:=fun c hc=>by
  obtain ⟨a,_,ha⟩:=mapM_mem rtL ls C e3 c hc
  exact rtL_asc ha
 refine ⟨?_,?_,?_⟩
 ·intro e
  exact sentH_some h4 6 0 C[0] (List.getElem?_eq_getElem h2) (by omega) (List.map_eq_nil_iff.1 e)
 ·unfold hitsC
  rw[List.length_map]
  exact sentH_len 6 0 h2
 ·intro x hx
  obtain ⟨i,hi,rfl⟩:=List.mem_map.1 hx
  have hil:=((sentH_below (H:=hold autC V C) 6 0 h2).1 i hi).2
  have hm:(hitsN C C.length).getD i ⟨[],[],0,0,0⟩∈hitsN C C.length:=by
   rw[List.getD_eq_getElem?_getD,List.getElem?_eq_getElem (by rw[hitsN_len];exact hil)]
   exact List.getElem_mem _
  exact ⟨hitsN_g hst hn ha C.length (Nat.le_refl _) _ hm,hitsN_ok hst hg C.length (Nat.le_refl _) _ hm⟩
set_option linter.unusedVariables false
set_option linter.unusedSimpArgs false
/-! How often a set changes from one byte to the next. -/
def chg(s i:Nat):Bool:=s.testBit i != s.testBit (i+1)
def cp(s:Nat):Nat:=(List.range 255).countP (chg s)
def cpL(S:List Nat):Nat:=(S.map cp).sum
theorem cpL_app(a b:List Nat):cpL (a++b)=cpL a+cpL b:=by simp[cpL]
theorem cp_zero:cp 0=0:=by decide +kernel
theorem cp_full:cp fullSet=0:=by decide +kernel
theorem cp_one(c:UInt8):cp (2 ^ c.toNat)≤2:=by
 have:∀ n,n<256→cp (2 ^ n)≤2:=by decide +kernel
 exact this c.toNat c.toNat_lt
theorem addBits_bit(s f:Nat):∀ k i,(addBits s f k).testBit i=(s.testBit i||(decide (f≤i)&&decide (i<f+k)))
 | 0,i=>by
   simp only[addBits,Nat.add_zero]
   cases h:(decide (f≤i)&&decide (i<f))
   ·simp
   ·simp at h;omega
 | k+1,i=>by
   rw[addBits,Nat.testBit_or,addBits_bit s f k i,Nat.testBit_two_pow]
   rw[Bool.eq_iff_iff]
   simp only[Bool.or_eq_true,Bool.and_eq_true,decide_eq_true_eq]
   constructor
   ·rintro ((h|h)|h)
    ·exact .inl h
    ·exact .inr ⟨h.1,by omega⟩
    ·exact .inr ⟨by omega,by omega⟩
   ·rintro (h|h)
    ·exact .inl (.inl h)
    ·by_cases e:i<f+k
     ·exact .inl (.inr ⟨h.1,e⟩)
     ·exact .inr (by omega)
theorem countP_or{p q r:Nat→Bool}(l:List Nat)(h:∀ x∈l,p x=true→q x=true∨r x=true):l.countP p≤l.countP q+l.countP r:=by
 induction l with
 | nil=>simp
 | cons a l ih =>
   have ih:=ih (fun x hx=>h x (by simp[hx]))
   rw[List.countP_cons,List.countP_cons,List.countP_cons]
   cases hp:p a
   ·simp;omega
   ·rcases h a (by simp) hp with e|e
    ·rw[e];simp;omega
    ·rw[e];simp;omega
theorem count_eq(n k:Nat):(List.range n).countP (fun i=>decide (i=k))≤1:=by
 induction n with
 | zero=>simp
 | succ n ih =>
   rw[List.range_succ,List.countP_append]
   by_cases h:n=k
   ·subst h
    have:(List.range n).countP (fun i=>decide (i=n))=0:=by
     rw[List.countP_eq_zero]
     intro x hx
     have:=List.mem_range.1 hx
     simp;omega
    rw[this];simp
   ·have:([n]:List Nat).countP (fun i=>decide (i=k))=0:=by simp[h]
    omega
theorem cp_range(s:Nat)(a b:UInt8):cp (addRange s a b)≤cp s+2:=by
 unfold cp
 have h:=countP_or (p:=chg (addRange s a b)) (q:=chg s) (r:=fun i=>decide (i+1=a.toNat)||decide (i=b.toNat)) (List.range 255) (by
  intro i _ hi
  unfold chg addRange at hi
  rw[addBits_bit,addBits_bit]at hi
  cases hc:chg s i
  ·right
   unfold chg at hc
   have e:s.testBit i=s.testBit (i+1):=by simpa using hc
   rw[e]at hi
   simp only[Bool.or_eq_true,decide_eq_true_eq]
   cases hs:s.testBit (i+1)
   ·rw[hs]at hi
    simp only[Bool.false_or]at hi
    by_cases h1:i+1=a.toNat
    ·exact .inl h1
    ·right
     by_cases h2:i=b.toNat
     ·exact h2
     ·exfalso
      have e1:(decide (a.toNat≤i)&&decide (i<a.toNat+(b.toNat+1-a.toNat)))=(decide (a.toNat≤i+1)&&decide (i+1<a.toNat+(b.toNat+1-a.toNat))):=by
       rw[Bool.eq_iff_iff]
       simp only[Bool.and_eq_true,decide_eq_true_eq]
       omega
      rw[e1]at hi
      simp at hi
   ·rw[hs]at hi;simp at hi
  ·exact .inl rfl)
 have h2:=countP_or (p:=fun i=>decide (i+1=a.toNat)||decide (i=b.toNat)) (q:=fun i=>decide (i=a.toNat-1)) (r:=fun i=>decide (i=b.toNat)) (List.range 255) (by
  intro i _ hi
  simp only[Bool.or_eq_true,decide_eq_true_eq]at hi ⊢
  omega)
 have h3:=count_eq 255 (a.toNat-1)
 have h4:=count_eq 255 b.toNat
 omega
theorem cp_not(s:Nat):cp (s ^^^ fullSet)=cp s:=by
 unfold cp
 refine List.countP_congr (fun i hi=>?_)
 have hi:=List.mem_range.1 hi
 have f:∀ j,j<256→fullSet.testBit j=true:=by decide +kernel
 unfold chg
 rw[Nat.testBit_xor,Nat.testBit_xor,f i (by omega),f (i+1) (by omega)]
 cases s.testBit i<;>cases s.testBit (i+1)<;>simp
theorem pItems_cp:∀ {k st:Nat} {t r:List UInt8} {st':Nat},pItems k st t=some (st',r)→cp st'+2*r.length≤cp st+2*t.length
 | 0,st,t,r,st',h=>by cases h
 | k+1,st,t,r,st',h=>by
   unfold pItems at h
   split at h
   ·cases h
   ·rename_i a b q hi
    have e1:=pItem_len hi
    have e2:=cp_range st a b
    split at h
    ·rename_i hc
     have e3:=headIs_len hc
     simp at h
     obtain ⟨rfl,rfl⟩:=h
     omega
    ·have:=pItems_cp h
     omega
theorem pClass_cp{t r:List UInt8}{s:Nat}(h:pClass t=some (s,r)):cp s+2*r.length≤2*t.length:=by
 unfold pClass at h
 split at h
 ·rename_i hc
  have e3:=headIs_len hc
  split at h
  ·cases h
  ·rename_i s1 q h1
   have:=pItems_cp h1
   simp at h
   obtain ⟨rfl,rfl⟩:=h
   rw[cp_not]
   rw[cp_zero]at this
   omega
 ·have:=pItems_cp h
  rw[cp_zero]at this
  omega
mutual
theorem pAtom_cp:∀ {k nest:Nat} {t r:List UInt8} {x:RX},pAtom k nest t=some (x,r)→cpL (setsOf x)+2*r.length≤2*t.length
 | 0,nest,t,r,x,h=>by simp[pAtom]at h
 | k+1,nest,[],r,x,h=>by simp[pAtom]at h
 | k+1,nest,c::q,r,x,h=>by
   simp only[pAtom]at h
   split at h
   ·split at h
    ·simp at h
    ·split at h
     ·simp at h
     ·rename_i x1 r1 h1
      have e:=pAlt_cp (acc:=[]) h1
      split at h
      ·rename_i hc
       have e2:=headIs_len hc
       simp at h
       obtain ⟨rfl,rfl⟩:=h
       simp[setsL,cpL]at e ⊢
       omega
      ·simp at h
   ·split at h
    ·split at h
     ·simp at h
     ·rename_i s r1 h1
      have e:=pClass_cp h1
      simp at h
      obtain ⟨rfl,rfl⟩:=h
      simp[setsOf,cpL];omega
    ·split at h
     ·simp at h
      obtain ⟨rfl,rfl⟩:=h
      simp[setsOf,cpL,cp_full];omega
     ·split at h
      ·cases q with
       | nil=>simp at h
       | cons d q2 =>
         simp at h
         obtain ⟨rfl,rfl⟩:=h
         have:=cp_one d
         simp[setsOf,cpL];omega
      ·split at h
       ·simp at h
       ·simp at h
        obtain ⟨rfl,rfl⟩:=h
        have:=cp_one c
        simp[setsOf,cpL];omega
theorem pSeq_cp:∀ {k nest:Nat} {acc:List RX} {t r:List UInt8} {x:RX},pSeq k nest acc t=some (x,r)→cpL (setsOf x)+2*r.length≤cpL (setsL acc)+2*t.length
 | 0,nest,acc,t,r,x,h=>by simp[pSeq]at h
 | k+1,nest,acc,t,r,x,h=>by
   simp only[pSeq]at h
   split at h
   ·simp at h
    obtain ⟨rfl,rfl⟩:=h
    exact Nat.le_refl _
   ·split at h
    ·simp at h
    ·rename_i x1 r1 h1
     have e1:=pAtom_cp h1
     split at h
     ·simp at h
     ·rename_i y r2 h2
      have e2:=pMarks_sets h2
      have e3:=pSeq_cp (acc:=acc++[y]) h
      rw[setsL_app,setsL_one,e2.1,cpL_app]at e3
      omega
theorem pAlt_cp:∀ {k nest:Nat} {acc:List RX} {t r:List UInt8} {x:RX},pAlt k nest acc t=some (x,r)→cpL (setsOf x)+2*r.length≤cpL (setsL acc)+2*t.length
 | 0,nest,acc,t,r,x,h=>by simp[pAlt]at h
 | k+1,nest,acc,t,r,x,h=>by
   simp only[pAlt]at h
   split at h
   ·simp at h
   ·rename_i x1 r1 h1
    have e1:=pSeq_cp (acc:=[]) h1
    have e0:cpL (setsL [])=0:=by simp[setsL,cpL]
    rw[e0,Nat.zero_add]at e1
    split at h
    ·rename_i hc
     have e2:=headIs_len hc
     have e3:=pAlt_cp (acc:=acc++[x1]) h
     rw[setsL_app,setsL_one,cpL_app]at e3
     omega
    ·simp at h
     obtain ⟨rfl,rfl⟩:=h
     simp only[setsOf,setsL_app,setsL_one,cpL_app]
     omega
end
theorem pWhole_cp{t:List UInt8}{e:RX}(h:pWhole t=some e):cpL (setsOf e)≤2*t.length:=by
 unfold pWhole at h
 split at h
 ·rename_i x hx
  cases h
  have:=pAlt_cp hx
  simp[setsL,cpL]at this ⊢
  exact this
 ·cases h
set_option linter.unusedVariables false
set_option linter.unusedSimpArgs false
/-! How many classes of bytes an expression tells apart. -/
theorem fst_has(S:List Nat)(c:Nat):∃ f∈fstK S (c+1),apart S f c=false:=by
 simp only[fstK]
 split
 ·exact ⟨c,by simp,by simp[apart]⟩
 ·rename_i h
  have h1:clsOf S (fstK S c) c<(fstK S c).length:=by
   have:=clsOf_le S (fstK S c) c
   simp at h
   omega
  have h2:=List.findIdx_getElem (w:=h1)
  refine ⟨(fstK S c)[clsOf S (fstK S c) c],List.getElem_mem h1,?_⟩
  have h3:(!apart S ((fstK S c)[clsOf S (fstK S c) c]) c)=true:=h2
  simpa using h3
theorem apart_next{S:List Nat}{c f:Nat}(h:S.any (fun s=>chg s c)=false)(ha:apart S f c=false):apart S f (c+1)=false:=by
 unfold apart at ha ⊢
 rw[List.any_eq_false]at h ha ⊢
 intro s hs
 have h1:=h s hs
 have h2:=ha s hs
 simp[chg]at h1 h2 ⊢
 rw[h2,h1]
theorem fst_step(S:List Nat)(c:Nat):(fstK S (c+2)).length≤(fstK S (c+1)).length+(if S.any (fun s=>chg s c) then 1 else 0):=by
 cases h:S.any (fun s=>chg s c)
 ·obtain ⟨f,hf,hfa⟩:=fst_has S c
  have h1:=apart_next h hfa
  rw[fstK]
  have h2:clsOf S (fstK S (c+1)) (c+1)<(fstK S (c+1)).length:=by
   unfold clsOf
   exact List.findIdx_lt_length_of_exists ⟨f,hf,by simp[h1]⟩
  rw[if_neg (by simp;omega)]
  simp
 ·rw[fstK]
  split<;>simp
theorem fst_count(S:List Nat):∀ c,(fstK S (c+1)).length≤1+(List.range c).countP (fun i=>S.any (fun s=>chg s i))
 | 0=>by have:=(fstK_le S 1).1;simpa using this
 | c+1=>by
   have h1:=fst_step S c
   have h2:=fst_count S c
   rw[List.range_succ,List.countP_append]
   have h3:List.countP (fun i=>S.any (fun s=>chg s i)) [c]=(if S.any (fun s=>chg s c) then 1 else 0):=by
    simp[List.countP_cons]
   show (fstK S (c+2)).length≤_
   omega
theorem count_any(l:List Nat):∀ S:List Nat,l.countP (fun i=>S.any (fun s=>chg s i))≤(S.map (fun s=>l.countP (chg s))).sum
 | []=>by simp
 | s::S=>by
   have h:=count_any l S
   have h1:=countP_or (p:=fun i=>(s::S).any (fun s=>chg s i)) (q:=chg s) (r:=fun i=>S.any (fun s=>chg s i)) l (by
    intro x _ hx
    simpa using hx)
   simp only[List.map_cons,List.sum_cons]
   omega
theorem fstE_cp(e:RX):(fstE e).length≤1+cpL (setsOf e):=by
 have h1:=fst_count (setsOf e) 255
 have h2:=count_any (List.range 255) (setsOf e)
 unfold fstE
 unfold cpL cp
 exact Nat.le_trans h1 (by
  have:(setsOf e).map (fun s=>(List.range 255).countP (chg s))=(setsOf e).map (fun s=>List.countP (chg s) (List.range 255)):=rfl
  omega)
theorem fstE_len{t:List UInt8}{e:RX}(h:pWhole t=some e):(fstE e).length≤1+2*t.length :=
 Nat.le_trans (fstE_cp e) (by have:=pWhole_cp h;omega)
set_option linter.unusedVariables false
set_option linter.unusedSimpArgs false
/-! How long a program's bytes are. -/
theorem flatB_le{α:Type}{f:α→List UInt8}{b:Nat}:∀ (l:List α),(∀ x∈l,(f x).length≤b)→(l.flatMap f).length≤l.length*b
 | [],_=>by simp
 | x::l,h=>by
   have h1:=h x (by simp)
   have h2:=flatB_le l (fun y hy=>h y (by simp[hy]))
   rw[List.flatMap_cons,List.length_append,List.length_cons,Nat.succ_mul]
   omega
theorem eTn_len(t:List UInt8):(eT t).length=1+t.length:=by simp[eT,nb_len]
theorem eTs_le{l:List (List UInt8)}{b:Nat}(h:∀ t∈l,t.length≤b):(eTs l).length≤1+l.length*(1+b):=by
 have:=flatB_le (f:=eT) (b:=1+b) l (fun x hx=>by rw[eTn_len];have:=h x hx;omega)
 simp only[eTs,List.length_append,nb_len]
 omega
theorem eA_le{a:AutM}(ok:AutOK a)(hk:a.k≤81):(eA a).length≤3539:=by
 have h1:=flatB_le (f:=nb 1) (b:=1) a.cl (fun x _=>by rw[nb_len];exact Nat.le_refl 1)
 have h2:=flatB_le (f:=nb 1) (b:=1) a.acc (fun x _=>by rw[nb_len];exact Nat.le_refl 1)
 have h3:=flatB_le (f:=nb 1) (b:=1) a.nx (fun x _=>by rw[nb_len];exact Nat.le_refl 1)
 have h4:=ok.nx
 have h5:=ok.cl
 have h6:=ok.s2
 have h7:a.acc.length*a.k≤40*81:=Nat.mul_le_mul h6 hk
 simp only[eA,List.length_append,nb_len]
 omega
theorem eH_le{h:HitM}(ok:HitOK h):(eH h).length≤55:=by
 have h1:=ok.rc.1
 have h2:=eTs_le (l:=h.bl) (b:=8) (fun t ht=>by have:=(ok.b2 t ht).1;omega)
 have h3:=ok.b1
 simp only[eH,List.length_append,nb_len,eTn_len]
 omega
theorem eM_le{m:Mach}(ok:MOK m)(ha:m.autos.length≤64)(hk:∀ a∈m.autos,a.k≤81)(hc:m.code.length≤1000):(eM m).length≤262144:=by
 have h1:=eTs_le (l:=m.names) (b:=8) (fun t ht=>by have:=(ok.names.2 t ht).1;omega)
 have h2:=eTs_le (l:=m.consts) (b:=40) (fun t ht=>by have:=ok.consts.2 t ht;omega)
 have h3:=flatB_le (f:=eA) (b:=3539) m.autos (fun a h=>eA_le (ok.autos.2 a h) (hk a h))
 have h4:=flatB_le (f:=eTt) (b:=3) m.tests (fun a h=>by simp[eTt,nb_len])
 have h5:=flatB_le (f:=eH) (b:=55) m.routes (fun a h=>eH_le (ok.routes.2 a h))
 have h6:=flatB_le (f:=eI) (b:=6) m.code (fun a h=>by simp[eI,nb_len])
 have l1:=ok.names.1
 have l2:=ok.consts.1
 have l4:=ok.tests.1
 have l5:=ok.routes.1
 have hm:markL.length=3:=rfl
 simp only[eM,List.length_append,nb_len,hm]
 omega
open Go.RowKit
set_option linter.unusedVariables false
set_option linter.unusedSimpArgs false
/-! A compiled program may be loaded: its bytes are few. -/
def AK(re:List UInt8→Nat)(aut:List UInt8→AutM)(s:CS):Prop:=∀ a∈s.a,∃ v:List UInt8,v.length≤40∧re v=0∧a=aut v
theorem ptest_ak{re:List UInt8→Nat}{aut:List UInt8→AutM}{s s1:CS}{m:CM}{t:TstM}(h:AK re aut s)(hm:GoodM m)(e:ptest re aut s m=some (t,s1)):AK re aut s1:=by
 unfold ptest at e
 split at e
 ·split at e
  ·cases e;exact h
  ·split at e
   ·rename_i h0
    cases e
    intro a ha
    rcases List.mem_append.1 ha with h1|h1
    ·exact h a h1
    ·rw[List.mem_singleton.1 h1];exact ⟨m.2.2,hm.val,h0,rfl⟩
   ·cases e
 ·cases e;exact h
theorem pmat_ak{re:List UInt8→Nat}{aut:List UInt8→AutM}:∀ (M:List CM) (s:CS) (acc:List (Nat × Bool)) {l:List (Nat × Bool)} {s1:CS},AK re aut s→(∀ m∈M,GoodM m)→pmat re aut s acc M=.ok (l,s1)→AK re aut s1
 | [],s,acc,l,s1,h,_,e=>by
   rw[pmat]at e
   cases e
   exact h
 | m::r,s,acc,l,s1,h,hM,e=>by
   rw[pmat]at e
   split at e
   ·cases e
   ·rename_i t s2 ht
    have h2:=ptest_ak h (hM m (by simp)) ht
    exact pmat_ak r _ _ (show AK re aut { s2 with t:=addt s2.t t } from h2) (fun x hx=>hM x (by simp[hx])) e
theorem pread_ak{re:List UInt8→Nat}{aut:List UInt8→AutM}:∀ (C:List CR) (s:CS) (i:Nat) {s1:CS},AK re aut s→(∀ c∈C,GoodCR c)→pread re aut s i C=.ok s1→AK re aut s1
 | [],s,i,s1,h,_,e=>by
   rw[pread]at e
   cases e
   exact h
 | c::r,s,i,s1,h,hC,e=>by
   rw[pread]at e
   split at e
   ·cases e
   ·rename_i l s2 hl
    have h2:=pmat_ak c.ifs s [] h (hC c (by simp)).ifs hl
    exact pread_ak r { s2 with q:=s2.q++[l] } (i+1) (show AK re aut { s2 with q:=s2.q++[l] } from h2) (fun x hx=>hC x (by simp[hx])) e
theorem autC_k{v:List UInt8}(hv:v.length≤40)(h:reC v=0):(autC v).k≤81:=by
 obtain ⟨e,he,_,_⟩:=reC_zero h
 have h1:=fstE_len he
 have hk:(autC v).k=(fstE e).length:=by
  unfold autC
  rw[he]
 rw[hk]
 generalize (fstE e).length=n at *
 omega
theorem compM_le{t:List UInt8}{L:List (List UInt8)}{C:List CR}{s:CS}(ht:t.length≤1048576)(h:cRead t=.ok (L,C))(hp:pread reC autC cs0 0 C=.ok s):(eM (compM C s)).length≤262144:=by
 obtain ⟨h1,h2,h3,h4⟩:=cRead_tree h
 have hg:=(cRead1_good t L C ht h1).2.2
 have ok:=mok_of autC_ok ht h hp
 obtain ⟨k1,k2,k3⟩:=pread_ok autC_ok C cs0 0 0 ⟨by simp[cs0],by simp[cs0],by simp[cs0],rfl,by simp[cs0],by simp[cs0],by simp[cs0]⟩ ⟨by simp[cs0],by simp[cs0],by simp[cs0],by simp[cs0],by simp[cs0]⟩ hg hp
 have ka:=pread_ak (re:=reC) (aut:=autC) C cs0 0 (fun a ha=>by simp[cs0]at ha) hg hp
 refine eM_le ok (by have:=k2.a;show s.a.length≤64;omega) (fun a ha=>?_) ?_
 ·obtain ⟨v,hv,h0,rfl⟩:=ka a ha
  exact autC_k hv h0
 ·have hne:C.isEmpty=false:=by cases C with | nil=>simp at h2|cons=>rfl
  have hg0:GL [⟨0,0,0,0⟩]:=by
   intro i hi
   simp at hi
   subst hi
   exact .inl rfl
  obtain ⟨r1,r2,r3⟩:=layR_good C s.q 6 0 0 [⟨0,0,0,0⟩] hg0 (by simp)
  have r5:=laid_short h3 h2 k1.ql
  show (codeM C s.q).length≤1000
  unfold codeM
  rw[hne]
  obtain ⟨t1,t2⟩:=turnM_len r1 _ r2
  show (turnM (layR C s.q 6 0 0 [⟨0,0,0,0⟩]).2 (layR C s.q 6 0 0 [⟨0,0,0,0⟩]).1).length≤1000
  omega
open Go.RowKit
theorem comp_ris{t:List UInt8}{L:List (List UInt8)}{C:List CR}{s:CS}(h:cRead t=.ok (L,C)):∀ x∈(compM C s).routes,risB x.bl=true:=by
 obtain ⟨h1,h2,h3,h4⟩:=cRead_tree h
 have hst:=cRead_steps h
 have hnm:=cRead_names h
 obtain ⟨_,l0,ls,e1,e2,e3⟩:=(cRead1_lines t L C).1 h1
 have hn:∀ c∈C,c.rc=[45]∨c.rc∈L:=by
  unfold nameF at hnm
  split at hnm
  ·cases hnm
  ·exact nameGo_ok C 0 hnm
 have ha:∀ c∈C,Asc c.bys:=fun c hc=>by
  obtain ⟨a,_,ha⟩:=mapM_mem rtL ls C e3 c hc
  exact rtL_asc ha
 intro x hx
 exact asc_ris (hitsN_g hst hn ha C.length (Nat.le_refl _) x hx).bl
open Go.RowKit
def BBQ(m:Mach)(w:World)(e:Ending)(w':World):Prop :=
 Frm [] w w'∧∃ V pb,e=.returned (.pointer (some ⟨pb,0,none⟩))∧PR [] w' pb V m
theorem byBytes_any(pb:Nat)(V:V6)(m:Mach)(w:World)(h:PR [] w pb V m)(hM:MOK m)(hr:∀ x∈m.routes,risB x.bl=true)(hL:(eM m).length≤262144) :
 Calls Tryz.prog 11 #[.pointer (some ⟨pb,0,none⟩)] w (BBQ m w):=by
 have N1:=hide (aSave_any [] pb V m w h hM (by omega))
 have N2:Hid (∀ W,Calls Tryz.prog 19 #[.string (bs (eM m))] W (fun e w'=>Frm [] W w'∧∃ V2 pb2,e=.returned (.tuple #[.pointer (some ⟨pb2,0,none⟩), .int .i64 0])∧PR [] w' pb2 V2 m)):=by
  intro W
  refine (aLoad_any [] _ W hL (by simp)).mono ?_
  rintro e w1 ⟨hF,⟨h1,_⟩|⟨m2,V2,pb2,h1,rfl,hP,_⟩⟩
  ·rw[ld_of hM hr]at h1;cases h1
  ·rw[ld_of hM hr]at h1;cases h1;exact ⟨hF,V2,pb2,rfl,hP⟩
 clear h hM hr hL
 go_enter Tryz.func11,Tryz.ntmps11
 go_wp2_with fail
 refine (N1.out).mono ?_
 clear N1
 rintro e w1 ⟨rfl,hF⟩
 have F:=hide hF
 clear hF
 go_wp2_with fail
 refine (N2.out _).mono ?_
 clear N2
 rintro e w2 ⟨hF2,V2,pb2,rfl,hP⟩
 have F2:=hide (F.out.trans hF2)
 have P2:=hide hP
 clear hF2 hP
 go_wp2
 go_ret
 exact ⟨F2.out,V2,pb2,rfl,P2.out⟩
end Go.Proofs.YtjkialjoamgbgaaGreat
