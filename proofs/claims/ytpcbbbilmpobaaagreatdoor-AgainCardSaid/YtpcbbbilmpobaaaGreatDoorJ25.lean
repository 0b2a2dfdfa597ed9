import Derived.Test.YtpcbbbilmpobaaaGreatDoorJ22
import Derived.Test.YtpcbbbilmpobaaaGreatDoorJ24
import Derived.Test.YtpcbbbilmpobaaaGreatDoorJ15
import Derived.Test.YtpcbbbilmpobaaaGreatDoorJ3
import Derived.Test.YtpcbbbilmpobaaaGreatDoorJ13
import Derived.Test.YtpcbbbilmpobaaaGreatDoorJ11
import Derived.Test.YtpcbbbilmpobaaaGreatDoorJ4
set_option linter.unusedVariables false
set_option linter.unusedSimpArgs false
set_option linter.unnecessarySimpa false
set_option maxRecDepth 100000
set_option maxHeartbeats 4000000
namespace Go.Proofs.YtpcbbbilmpobaaaGreatDoor
open Go.RowKit
theorem sc_flat(L:List (List UInt8)):(sc L).flatten=sv L:=by
 induction L with
 | nil=>rfl
 | cons x r ih=>simp only[sc,sv,List.map_cons,List.flatten_cons]at ih ⊢;rw[ih];rfl
theorem SL.rw0{base:Nat}{w:World}{v:Value}{L:List (List UInt8)}(h:SL base w v L):RW [] 1 w v (sc L):=by
 have ow:OW 9 1 base w v (sc L):=by
  refine ⟨?_,fun x hx=>?_⟩
  ·rw[sc_flat,sc_len];exact h
  ·obtain ⟨y,_,rfl⟩:=List.mem_map.1 hx;rfl
 exact ow.rw (by simp)
theorem ML.rw0{base:Nat}{w:World}{v:Value}{M:List CM}(h:ML base w v M):RW [] 3 w v (mtc M):=by
 have ow:OW 116 3 base w v (mtc M):=by
  refine ⟨?_,fun x hx=>?_⟩
  ·have e:(mtc M).flatten=mv M:=by unfold mtc mv;rw[List.flatMap_def]
   rw[e,show (mtc M).length=M.length by simp[mtc]];exact h
  ·obtain ⟨y,_,rfl⟩:=List.mem_map.1 hx;rfl
 exact ow.rw (by simp)
theorem rts_of{base:Nat}{w:World}{v:Value}{R:List RV}{C:List CR}(h:RL base w v R)(hp:Reps base w R C):RTS [] w v C:=by
 refine ⟨R.map RV.cells,?_,by simpa using hp.1,fun n cs c h1 h2=>?_⟩
 ·have ow:OW 78 9 base w v (lst (R.map RV.cells)):=by
   refine ⟨?_,fun x hx=>?_⟩
   ·have e:(lst (R.map RV.cells)).flatten=rvl R:=by unfold lst rvl rcells;rw[List.map_map,List.flatMap_def];rfl
    rw[e,lst_len,List.length_map];exact h
   ·unfold lst at hx
    rw[List.map_map]at hx;obtain ⟨y,_,rfl⟩:=List.mem_map.1 hx;rfl
  exact ow.rw (by simp)
 ·rw[List.getElem?_map,Option.map_eq_some_iff]at h1
  obtain ⟨rv,h3,rfl⟩:=h1;have hr:=hp.2 n rv c h3 h2;refine ⟨rv.vby,rv.vif,?_,hr.by_.rw0,hr.ifs.rw0⟩;unfold RV.cells rcl;rw[hr.d,hr.rc,hr.tb,hr.wt,hr.ev,hr.rp,hr.co]
theorem treeGo_ok:∀ (C:List CR) (i:Nat) (da:Int),i≤16→treeGo C i da=0→(∀ c∈C,c.d≤5)∧C.length+i≤16
 | [],i,da,hi,_=>⟨by simp,by simpa using hi⟩
 | c::r,i,da,hi,h=>by
   unfold treeGo at h;cases hb:(!(if (i==0)=true then rootOk c else followOk c.d da)||decide (16≤i))
   ·rw[hb]at h
    simp only[Bool.false_eq_true,if_false]at h;have hb1:(if (i==0)=true then rootOk c else followOk c.d da)=true∧¬ 16≤i:=by
     cases hx:(if (i==0)=true then rootOk c else followOk c.d da)
     ·rw[hx]at hb;simp at hb
     ·rw[hx]at hb;simp at hb;exact ⟨rfl,by omega⟩
    obtain ⟨h1,h2⟩:=treeGo_ok r (i+1) c.d (by omega) h;refine ⟨fun x hx=>?_,by simp;omega⟩;rcases List.mem_cons.1 hx with rfl|hx
    ·have h3:=hb1.1
     by_cases h0:(i==0)=true
     ·rw[if_pos h0]at h3;simp[rootOk]at h3;omega
     ·rw[if_neg h0]at h3;simp[followOk]at h3;omega
    ·exact h1 x hx
   ·rw[hb]at h
    simp at h
theorem cRead_tree{t:List UInt8}{L:List (List UInt8)}{C:List CR}(h:cRead t=.ok (L,C)):cRead1 t=.ok (L,C)∧0<C.length∧C.length≤16∧∀ c∈C,c.d≤5:=by
 unfold cRead at h
 split at h
 ·cases h
 ·split at h
  ·cases h
  ·rename_i L' C' h1
   split at h
   ·cases h
   ·rename_i ht
    split at h
    ·cases h
    ·simp only[Except.ok.injEq,Prod.mk.injEq]at h
     obtain ⟨rfl,rfl⟩:=h;have ht0:treeF C'=0:=by omega
     unfold treeF at ht0
     split at ht0
     ·cases ht0
     ·rename_i hne
      obtain ⟨h3,h4⟩:=treeGo_ok C' 0 0 (by omega) ht0;refine ⟨h1,?_,by omega,h3⟩;cases C' with
      | nil=>simp at hne
      | cons a b=>simp
def Steps(C:List CR):Prop:=(∀ c,C[0]?=some c→c.d=0∧c.rc≠[45])∧∀ (i:Nat) (a b:CR),C[i]?=some a→C[i+1]?=some b→1≤b.d∧b.d≤a.d+1
theorem treeGo_steps:∀ (C:List CR) (i:Nat) (da:Nat),treeGo C i da=0→(∀ c,C[0]?=some c→(i=0→c.d=0∧c.rc≠[45])∧(i≠0→1≤c.d∧c.d≤da+1))∧∀ (k:Nat) (a b:CR),C[k]?=some a→C[k+1]?=some b→1≤b.d∧b.d≤a.d+1
 | [],i,da,_=>⟨by simp,by simp⟩
 | c::r,i,da,h=>by
   unfold treeGo at h;cases hb:(!(if (i==0)=true then rootOk c else followOk c.d da)||decide (16≤i))
   ·rw[hb]at h
    simp only[Bool.false_eq_true,if_false]at h;have hb1:(if (i==0)=true then rootOk c else followOk c.d da)=true:=by
     cases hx:(if (i==0)=true then rootOk c else followOk c.d da)
     ·rw[hx]at hb;simp at hb
     ·rfl
    obtain ⟨h1,h2⟩:=treeGo_steps r (i+1) c.d h;refine ⟨fun x hx=>?_,fun k a b ha hb2=>?_⟩
    ·simp at hx
     subst hx;refine ⟨fun e=>?_,fun e=>?_⟩
     ·rw[if_pos (by simp[e])]at hb1
      simp[rootOk]at hb1;exact ⟨by omega,hb1.2⟩
     ·rw[if_neg (by simp[e])]at hb1
      simp[followOk]at hb1;omega
    ·cases k with
     | zero =>
       simp at ha hb2;subst ha;exact (h1 b (by simpa using hb2)).2 (by omega)
     | succ k=>exact h2 k a b (by simpa using ha) (by simpa using hb2)
   ·rw[hb]at h
    simp at h
theorem steps_all{C:List CR}(h:Steps C):∀ (i:Nat) (c:CR),C[i]?=some c→∀ e,e≤c.d→∃ j x,j≤i∧C[j]?=some x∧x.d=e
 | 0,c,hc,e,he=>by
   have:=(h.1 c hc).1;exact ⟨0,c,Nat.le_refl _,hc,by omega⟩
 | i+1,c,hc,e,he=>by
   by_cases e1:e=c.d
   ·exact ⟨i+1,c,Nat.le_refl _,hc,e1.symm⟩
   ·have hil:i<C.length:=by have:=(List.getElem?_eq_some_iff.1 hc).1;omega
    have h2:=(h.2 i C[i] c (List.getElem?_eq_getElem hil) hc).2;obtain ⟨j,x,hj,hx,hxe⟩:=steps_all h i C[i] (List.getElem?_eq_getElem hil) e (by omega);exact ⟨j,x,by omega,hx,hxe⟩
theorem parGo_of{C:List CR}{d:Nat}:∀ (i j:Nat) (x:CR),j<i→C[j]?=some x→x.d+1=d→∃ p,parGo C d i=some p
 | 0,j,x,h,_,_=>by omega
 | i+1,j,x,h,hx,hd=>by
   rw[parGo]
   by_cases e:(C[i]?.map fun c=>c.d+1)=some d
   ·rw[if_pos e];exact ⟨i,rfl⟩
   ·rw[if_neg e]
    refine parGo_of i j x ?_ hx hd;rcases Nat.lt_or_ge j i with h1|h1
    ·exact h1
    ·have:j=i:=by omega
     subst this;rw[hx]at e;exact absurd (by simp[hd]) e
theorem par_of{C:List CR}(h:Steps C)(i:Nat)(hi:i+1<C.length):∃ p,par C (i+1)=some p:=by
 unfold par;rw[List.getElem?_eq_getElem hi];have h1:=(h.2 i C[i] C[i+1] (List.getElem?_eq_getElem (by omega)) (List.getElem?_eq_getElem hi));obtain ⟨j,x,hj,hx,hxe⟩:=steps_all h i C[i] (List.getElem?_eq_getElem (by omega)) (C[i+1].d-1) (by omega);exact parGo_of (i+1) j x (by omega) hx (by omega)
structure CSok(s:CS):Prop where
 n:∀ x∈s.n,okName x
 c:∀ x∈s.c,x.length<41
 a:∀ x∈s.a,AutOK x
 xa:s.x.length=s.a.length
 t:∀ t∈s.t,TstOK s.n.length s.c.length s.a.length t
 q:∀ l∈s.q,∀ c∈l,c.1<s.t.length
 ql:∀ l∈s.q,l.length≤4
theorem TstOK.mono{nn nc na nn' nc' na':Nat}{t:TstM}(h:TstOK nn nc na t)(h1:nn≤nn')(h2:nc≤nc')(h3:na≤na'):TstOK nn' nc' na' t:=by
 refine ⟨by have:=h.n;omega,h.k,?_⟩;have:=h.x
 split<;>rename_i e<;>simp only[e,if_true,if_false]at this<;>omega
theorem addx_ge(L:List (List UInt8))(x:List UInt8):L.length≤(addx L x).length:=by unfold addx;split<;>simp
theorem addt_ge(L:List TstM)(x:TstM):L.length≤(addt L x).length:=by unfold addt;split<;>simp
theorem fdx_lt(L:List (List UInt8))(x:List UInt8):fdx L x<(addx L x).length:=by
 have:=fdx_le L x;unfold addx;split
 ·simp;omega
 ·omega
theorem fdt_lt(L:List TstM)(x:TstM):fdt L x<(addt L x).length:=by
 have:=fdt_le L x;unfold addt;split
 ·simp;omega
 ·omega
theorem mem_addx{L:List (List UInt8)}{x y:List UInt8}(h:y∈addx L x):y∈L∨y=x:=by
 unfold addx at h;split at h
 ·simpa using h
 ·exact .inl h
theorem mem_addt{L:List TstM}{x y:TstM}(h:y∈addt L x):y∈L∨y=x:=by
 unfold addt at h;split at h
 ·simpa using h
 ·exact .inl h
theorem ptest_ok{re:List UInt8→Nat}{aut:List UInt8→AutM}(ha:∀ v,re v=0→AutOK (aut v)){s s1:CS}{t:TstM}(h:CSok s){m:CM}(hm:GoodM m)(he:ptest re aut s m=some (t,s1)) :
 CSok { s1 with t:=addt s1.t t }∧s1.t=s.t∧s1.q=s.q:=by
 have hn:=addx_ge s.n m.1;have hc:=addx_ge s.c m.2.2;have on:∀ x∈addx s.n m.1,okName x:=fun x hx=>by
  rcases mem_addx hx with e|rfl
  ·exact h.n x e
  ·exact ⟨by have:=isNameL_len hm.name;omega,hm.name⟩
 have oc:∀ x∈addx s.c m.2.2,x.length<41:=fun x hx=>by
  rcases mem_addx hx with e|rfl
  ·exact h.c x e
  ·have:=hm.val;omega
 have oq:∀ t,∀ l∈s.q,∀ c∈l,c.1<(addt s.t t).length:=fun t l hl c hc=>by
  have:=h.q l hl c hc;have:=addt_ge s.t t;omega
 unfold ptest at he
 split at he
 ·split at he
  ·rename_i hx
   cases he
   refine ⟨⟨on,h.c,h.a,h.xa,fun y hy=>?_,oq _,h.ql⟩,rfl,rfl⟩;rcases mem_addt hy with e|rfl
   ·exact (h.t y e).mono hn (Nat.le_refl _) (Nat.le_refl _)
   ·exact ⟨fdx_lt _ _,by simp,by simp only[if_true];rw[← h.xa];exact hx⟩
  ·rename_i hx
   split at he
   ·rename_i hre
    cases he
    refine ⟨⟨on,h.c,fun y hy=>?_,by simp[h.xa],fun y hy=>?_,oq _,h.ql⟩,rfl,rfl⟩
    ·rcases List.mem_append.1 hy with e|e
     ·exact h.a y e
     ·rw[List.mem_singleton.1 e];exact ha _ hre
    ·rcases mem_addt hy with e|rfl
     ·exact (h.t y e).mono hn (Nat.le_refl _) (by simp)
     ·exact ⟨fdx_lt _ _,by simp,by simp only[if_true,List.length_append,List.length_singleton];have:=fdx_le s.x m.2.2;have:=h.xa;omega⟩
   ·cases he
 ·cases he
  refine ⟨⟨on,oc,h.a,h.xa,fun y hy=>?_,oq _,h.ql⟩,rfl,rfl⟩;rcases mem_addt hy with e|rfl
  ·exact (h.t y e).mono hn hc (Nat.le_refl _)
  ·exact ⟨fdx_lt _ _,by simp,by simp only[Nat.zero_ne_one,if_false];exact fdx_lt _ _⟩
theorem pmat_ok{re:List UInt8→Nat}{aut:List UInt8→AutM}(ha:∀ v,re v=0→AutOK (aut v)):∀ (M:List CM) (s:CS) (acc:List (Nat × Bool)) {l:List (Nat × Bool)} {s1:CS},CSok s→(∀ m∈M,GoodM m)→(∀ c∈acc,c.1<s.t.length)→pmat re aut s acc M=.ok (l,s1)→CSok s1∧(∀ c∈l,c.1<s1.t.length)∧l.length=acc.length+M.length
 | [],s,acc,l,s1,h,_,h2,e=>by
   rw[pmat]at e;cases e
   exact ⟨h,h2,rfl⟩
 | m::r,s,acc,l,s1,h,hM,h2,e=>by
   rw[pmat]at e
   split at e
   ·cases e
   ·rename_i t s2 ht
    obtain ⟨g1,g2,g3⟩:=ptest_ok ha h (hM m (by simp)) ht;obtain ⟨k1,k2,k3⟩:=pmat_ok ha r _ _ g1 (fun x hx=>hM x (by simp[hx])) (fun c hc=>by
     rcases List.mem_append.1 hc with e1|e1
     ·have:=h2 c e1
      have h3:=addt_ge s2.t t;rw[g2]at h3;show c.1<(addt s2.t t).length;rw[g2];omega
     ·rw[List.mem_singleton.1 e1];exact fdt_lt _ _) e
    exact ⟨k1,k2,by rw[k3];simp;omega⟩
theorem pmat_tge{re:List UInt8→Nat}{aut:List UInt8→AutM}:∀ (M:List CM) (s:CS) (acc:List (Nat × Bool)) {l:List (Nat × Bool)} {s1:CS},pmat re aut s acc M=.ok (l,s1)→s1.q=s.q
 | [],s,acc,l,s1,e=>by
   rw[pmat]at e;cases e
   rfl
 | m::r,s,acc,l,s1,e=>by
   rw[pmat]at e
   split at e
   ·cases e
   ·rename_i t s2 ht
    rw[pmat_tge r _ _ e];unfold ptest at ht
    split at ht
    ·split at ht
     ·cases ht;rfl
     ·split at ht
      ·cases ht;rfl
      ·cases ht
    ·cases ht;rfl
theorem pread_ok{re:List UInt8→Nat}{aut:List UInt8→AutM}(ha:∀ v,re v=0→AutOK (aut v)):∀ (C:List CR) (s:CS) (i k:Nat) {s1:CS},CSok s→CSB s k→(∀ c∈C,GoodCR c)→pread re aut s i C=.ok s1→CSok s1∧CSB s1 (k+4*C.length)∧s1.q.length=s.q.length+C.length
 | [],s,i,k,s1,h,hb,_,e=>by
   rw[pread]at e;cases e
   exact ⟨h,hb,rfl⟩
 | c::r,s,i,k,s1,h,hb,hC,e=>by
   rw[pread]at e;have hc:=hC c (by simp)
   split at e
   ·cases e
   ·rename_i l s2 hl
    obtain ⟨g1,g2,g3⟩:=pmat_ok ha c.ifs s [] h hc.ifs (by simp) hl;obtain ⟨b1,b2,b3⟩:=pmat_cb c.ifs s [] k hb hl;have hil:=hc.ifl;simp at g3;have b4:CSB { s2 with q:=s2.q++[l] } (k+4):=⟨by have:=b1.n;simp only;omega,by have:=b1.c;simp only;omega,by have:=b1.x;simp only;omega,by have:=b1.a;simp only;omega,by have:=b1.t;simp only;omega⟩;obtain ⟨k1,k2,k3⟩:=pread_ok ha r { s2 with q:=s2.q++[l] } (i+1) (k+4) ⟨g1.n,g1.c,g1.a,g1.xa,g1.t,fun x hx=>by
     rcases List.mem_append.1 hx with e1|e1
     ·exact g1.q x e1
     ·rw[List.mem_singleton.1 e1];exact g2,fun x hx=>by
     rcases List.mem_append.1 hx with e1|e1
     ·exact g1.ql x e1
     ·rw[List.mem_singleton.1 e1];omega⟩ b4 (fun x hx=>hC x (by simp[hx])) e
    refine ⟨k1,?_,?_⟩
    ·rw[List.length_cons,show k+4*(r.length+1)=k+4+4*r.length by omega];exact k2
    ·rw[k3];simp[b2];omega
theorem tld_lt{x:Int}{y:Nat}(h:-1≤x∧x≤99999)(hy:y<100000):tld x y<100000:=by
 unfold tld;split<;>omega
theorem hitB_ok{ab:HitM}{c:CR}(hc:GoodCR c)(h:HitOK ab∨c.rc≠[45])(hb:ab.bl.length<5∧(∀ n∈ab.bl,okName n)∧ab.wt<100000∧ab.ev<100000∧ab.rp<100000):HitOK (hitB ab c):=by
 have on:∀ n,isNameL n=true→okName n:=fun n hn=>⟨by have:=isNameL_len hn;omega,hn⟩
 refine ⟨?_,?_,?_,tld_lt hc.wt hb.2.2.1,tld_lt hc.ev hb.2.2.2.1,tld_lt hc.rp hb.2.2.2.2⟩
 ·show okName (if c.rc == [45] then ab.rc else c.rc)
  by_cases e:c.rc=[45]
  ·rw[if_pos (by simp[e])]
   rcases h with h|h
   ·exact h.rc
   ·exact absurd e h
  ·rw[if_neg (by simp[e])]
   exact on _ (hc.rc.resolve_left e)
 ·show (if c.tb then c.bys else ab.bl).length<5
  split
  ·have:=hc.byl;omega
  ·exact hb.1
 ·show ∀ n∈(if c.tb then c.bys else ab.bl),okName n
  split
  ·exact fun n hn=>on n (hc.bys n hn)
  ·exact hb.2.1
theorem hitsN_ok{C:List CR}(hs:Steps C)(hg:∀ c∈C,GoodCR c):∀ i,i≤C.length→∀ h∈hitsN C i,HitOK h
 | 0,_=>by simp[hitsN]
 | i+1,hi=>by
   intro h hh;rw[hitsN]at hh;have ih:=hitsN_ok hs hg i (by omega);rcases List.mem_append.1 hh with e|e
   ·exact ih h e
   ·rw[List.getElem?_eq_getElem (by omega)]at e
    have e:=List.mem_singleton.1 e;subst e;have hc:=hg C[i] (List.getElem_mem _);cases i with
    | zero =>
      have h0:=(hs.1 C[0] (List.getElem?_eq_getElem (by omega))).2;refine hitB_ok hc (.inr h0) ?_;unfold aboveH;have:par C 0=none:=by
       cases hp:par C 0 with
       | none=>rfl
       | some p=>exact absurd (par_lt hp) (by omega)
      rw[this];simp[rootH]
    | succ i =>
      obtain ⟨p,hp⟩:=par_of hs i (by omega);have hpl:=par_lt hp;have hm:aboveH C (hitsN C (i+1)) (i+1)∈hitsN C (i+1):=by
       unfold aboveH;rw[hp];simp only;rw[List.getD_eq_getElem?_getD,List.getElem?_eq_getElem (by rw[hitsN_len];exact hpl)];exact List.getElem_mem _
      have ho:=ih _ hm;exact hitB_ok hc (.inl ho) ⟨ho.b1,ho.b2,ho.wt,ho.ev,ho.rp⟩
theorem cRead_steps{t:List UInt8}{L:List (List UInt8)}{C:List CR}(h:cRead t=.ok (L,C)):Steps C:=by
 have h0:=(cRead_tree h).2.1;unfold cRead at h
 split at h
 ·cases h
 ·split at h
  ·cases h
  ·split at h
   ·cases h
   ·rename_i L' C' _ h1
    split at h
    ·cases h
    ·cases h
     have h2:treeGo C 0 ((0:Nat):Int)=0:=by
      have:treeF C=treeGo C 0 0:=by unfold treeF;rw[if_neg];cases C with | nil=>simp at h0|cons=>simp
      have e:treeGo C 0 0=0:=by omega
      exact e
     obtain ⟨g1,g2⟩:=treeGo_steps C 0 0 h2;exact ⟨fun c hc=>(g1 c hc).1 rfl,g2⟩
theorem mok_of{re:List UInt8→Nat}{aut:List UInt8→AutM}(ha:∀ v,re v=0→AutOK (aut v)){t:List UInt8}{L:List (List UInt8)}{C:List CR}{s:CS}(ht:t.length≤1048576)(h:cRead t=.ok (L,C))(hp:pread re aut cs0 0 C=.ok s):MOK (compM C s):=by
 obtain ⟨h1,h2,h3,h4⟩:=cRead_tree h;have hg:=(cRead1_good t L C ht h1).2.2;obtain ⟨k1,k2,k3⟩:=pread_ok ha C cs0 0 0 ⟨by simp[cs0],by simp[cs0],by simp[cs0],rfl,by simp[cs0],by simp[cs0],by simp[cs0]⟩ ⟨by simp[cs0],by simp[cs0],by simp[cs0],by simp[cs0],by simp[cs0]⟩ hg hp;have hst:=cRead_steps h;refine ⟨⟨by have:=k2.n;show s.n.length<256;omega,k1.n⟩,⟨by have:=k2.c;show s.c.length<256;omega,k1.c⟩,⟨by have:=k2.a;show s.a.length<256;omega,k1.a⟩,⟨by have:=k2.t;show s.t.length<256;omega,k1.t⟩,⟨by show (hitsN C C.length).length<17;rw[hitsN_len];omega,hitsN_ok hst hg C.length (Nat.le_refl _)⟩,?_⟩;have hne:C.isEmpty=false:=by cases C with | nil=>simp at h2|cons=>rfl
 have hg0:GL [⟨0,0,0,0⟩]:=by
  intro i hi;simp at hi;subst hi;exact .inl rfl
 obtain ⟨r1,r2,r3⟩:=layR_good C s.q 6 0 0 [⟨0,0,0,0⟩] hg0 (by simp);have r4:=layR_gx C (nt:=s.t.length) k1.q 6 0 0 [⟨0,0,0,0⟩] h2 (by intro x hx;rw[List.mem_singleton.1 hx];exact .inl ⟨rfl,rfl,rfl,rfl⟩);have r5:=laid_short h3 h2 k1.ql;have e1:(compM C s).code=turnM (layR C s.q 6 0 0 [⟨0,0,0,0⟩]).2 (layR C s.q 6 0 0 [⟨0,0,0,0⟩]).1:=by
  show codeM C s.q=_;unfold codeM;rw[hne];rfl
 have e2:(compM C s).routes.length=C.length:=hitsN_len C C.length;have e3:(compM C s).tests.length=s.t.length:=rfl;rw[e1,e2,e3];obtain ⟨t1,t2⟩:=turnM_len r1 _ r2;refine ⟨t1,by omega,fun j hj=>?_⟩;have hk2:=k2.t;have hs:=turnM_ok r1 r4 _ r2 j hj;generalize hx:(turnM (layR C s.q 6 0 0 [⟨0,0,0,0⟩]).2 (layR C s.q 6 0 0 [⟨0,0,0,0⟩]).1)[j]=x at hs ⊢;clear hx;generalize (turnM (layR C s.q 6 0 0 [⟨0,0,0,0⟩]).2 (layR C s.q 6 0 0 [⟨0,0,0,0⟩]).1).length=N at *;have hs0:=hs;unfold stands at hs
 split at hs
 ·rename_i e;simp at hs;exact ⟨hs0,by omega,by omega,by omega,by omega⟩
 ·rename_i e;simp at hs;exact ⟨hs0,by omega,by omega,by omega,by omega⟩
 ·rename_i e;simp at hs;exact ⟨hs0,by omega,by omega,by omega,by omega⟩
 ·cases hs
theorem bl_lt:∀ (x y:List UInt8),Op.bytesLess x y=decide (x<y):=by
 intro x
 induction x with
 | nil=>intro y;cases y<;>simp[Op.bytesLess]
 | cons a x ih =>
   intro y;cases y with
   | nil=>simp[Op.bytesLess]
   | cons b y =>
     rw[Op.bytesLess,ih y,Bool.eq_iff_iff];simp only[List.cons_lt_cons_iff,Bool.or_eq_true,Bool.and_eq_true,decide_eq_true_eq,beq_iff_eq]
def ins(n:List UInt8):List (List UInt8)→List (List UInt8)
 | []=>[n]
 | x::L=>if n<x then n::x::L else x::ins n L
theorem ins_last(n:List UInt8):∀ (A:List (List UInt8)),(∀ x∈A,¬ n<x)→ins n A=A++[n]
 | [],_=>rfl
 | x::A,h=>by
   unfold ins;rw[if_neg (h x (by simp)),ins_last n A (fun y hy=>h y (by simp[hy]))];rfl
theorem ins_mem(n:List UInt8):∀ (A:List (List UInt8)) (x:List UInt8),x∈ins n A→x=n∨x∈A
 | [],x,h=>by simp[ins]at h;exact .inl h
 | y::A,x,h=>by
   unfold ins at h
   by_cases hy:n<y
   ·rw[if_pos hy]at h
    rw[List.mem_cons]at h;exact h
   ·rw[if_neg hy]at h
    rw[List.mem_cons]at h;rcases h with h|h
    ·exact .inr (by simp[h])
    ·rcases ins_mem n A x h with h|h
     ·exact .inl h
     ·exact .inr (by simp[h])
def Asc(A:List (List UInt8)):Prop:=A.Pairwise (fun x y=>x<y)
theorem tri(x y:List UInt8)(h1:¬ x<y)(h2:x≠y):y<x:=by
 have h3:y≤x:=List.not_lt.1 h1;apply Classical.byContradiction;intro h4;exact h2 (List.le_antisymm (List.not_lt.1 h4) h3)
theorem ins_asc(n:List UInt8):∀ (A:List (List UInt8)),Asc A→n∉A→Asc (ins n A)
 | [],_,_=>by simp[ins,Asc]
 | x::A,h,hn=>by
   unfold Asc at h;rw[List.pairwise_cons]at h;unfold ins
   by_cases hx:n<x
   ·rw[if_pos hx]
    refine List.pairwise_cons.2 ⟨fun y hy=>?_,List.pairwise_cons.2 h⟩;rw[List.mem_cons]at hy;rcases hy with rfl|hy
    ·exact hx
    ·exact List.lt_trans hx (h.1 y hy)
   ·rw[if_neg hx]
    refine List.pairwise_cons.2 ⟨fun y hy=>?_,ins_asc n A h.2 (fun hm=>hn (by simp[hm]))⟩;rcases ins_mem n A y hy with rfl|hy
    ·exact tri _ _ hx (fun e=>hn (by simp[e]))
    ·exact h.1 y hy
theorem wnGo_true(n:List UInt8):∀ (L a:List (List UInt8)),wnGo n L (a,true)=(a++L,true)
 | [],a=>by simp[wnGo]
 | x::L,a=>by unfold wnGo;simp only[Bool.not_true,Bool.false_and];rw[if_neg (by simp),wnGo_true n L];simp
theorem wnGo_false(n:List UInt8):∀ (L a:List (List UInt8)),(if (wnGo n L (a,false)).2 then (wnGo n L (a,false)).1 else (wnGo n L (a,false)).1++[n])=a++ins n L
 | [],a=>by simp[wnGo,ins]
 | x::L,a=>by
   have e:wnGo n (x::L) (a,false)=wnGo n L (if n<x then (a++[n]++[x],true) else (a++[x],false)):=by
    conv=>lhs;unfold wnGo
    rw[bl_lt];simp
   rw[e];unfold ins
   by_cases h:n<x
   ·simp only[if_pos h];rw[wnGo_true];simp
   ·simp only[if_neg h]
    have:=wnGo_false n L (a++[x]);rw[this];simp
theorem withN_ins(L:List (List UInt8))(n:List UInt8):withN L n=ins n L:=by
 have:=wnGo_false n L [];unfold withN;rw[this];rfl
theorem rise_asc:∀ (L acc:List (List UInt8)),Asc acc→Asc (L.foldl rise1 acc)
 | [],acc,h=>h
 | n::L,acc,h=>by
   simp only[List.foldl_cons];refine rise_asc L _ ?_;unfold rise1
   by_cases hc:acc.contains n=true
   ·rw[if_pos hc];exact h
   ·rw[if_neg hc,withN_ins]
    exact ins_asc n acc h (fun hm=>hc (by simpa using hm))
/-! Lines: a text that is read,line by line. -/
theorem mapM_cons'{α β:Type}(f:α→Option β)(a:α)(l:List α):(a::l).mapM f=match f a with | none=>none|some b=>match l.mapM f with | none=>none|some bs=>some (b::bs):=by
 rw[List.mapM_cons];cases f a with
 | none=>rfl
 | some b=>cases l.mapM f<;>rfl
def rtL(l:List UInt8):Option CR:=sRoute l.dropLast
theorem rl2:∀ (t:List UInt8) (ln:Nat) (cur:List UInt8) (R:List (List UInt8)) (C:List CR) (R':List (List UInt8)) (C':List CR),2≤ln →
 (rlGo t ln cur R C=.ok (R',C')↔R'=R∧(lnsGo t cur).flatten=cur++t∧∃ Cs,(lnsGo t cur).mapM rtL=some Cs∧C'=C++Cs)
 | [],ln,cur,R,C,R',C',h=>by
   rw[rlGo,lnsGo];have:(ln==1)=false:=by simp;omega
   rw[this,Bool.or_false];cases cur with
   | nil =>
     simp
     constructor
     ·rintro ⟨rfl,rfl⟩;exact ⟨rfl,rfl⟩
     ·rintro ⟨rfl,rfl⟩;exact ⟨rfl,rfl⟩
   | cons c r=>simp
 | c::r,ln,cur,R,C,R',C',h=>by
   rw[rlGo,lnsGo]
   by_cases hc:c=10
   ·subst hc
    have:(ln==1)=false:=by simp;omega
    simp only[beq_self_eq_true,if_true,this,Bool.false_eq_true,if_false];rw[mapM_cons'];have hrt:rtL (cur++[10])=sRoute cur:=by unfold rtL;rw[List.dropLast_concat]
    rw[hrt];cases hs:sRoute cur with
    | none=>simp
    | some x =>
      simp only;rw[rl2 r (ln+1) [] R (C++[x]) R' C' (by omega)];simp only[List.flatten_cons,List.append_assoc,List.nil_append,List.append_cancel_left_eq]
      constructor
      ·rintro ⟨h1,h2,Cs,h3,h4⟩
       refine ⟨h1,by rw[h2];rfl,x::Cs,by rw[h3],by rw[h4];rfl⟩
      ·rintro ⟨h1,h2,Cs,h3,h4⟩
       refine ⟨h1,by simpa using h2,?_⟩;cases hm:(lnsGo r []).mapM rtL with
       | none=>rw[hm]at h3;cases h3
       | some Ds=>rw[hm]at h3;cases h3;exact ⟨Ds,rfl,h4⟩
   ·have hc':(c==10)=false:=by simpa using hc
    rw[hc'];simp only[Bool.false_eq_true,if_false];rw[rl2 r ln (cur++[c]) R C R' C' h];simp
theorem rl1:∀ (t cur:List UInt8) (R:List (List UInt8)) (C:List CR) (R':List (List UInt8)) (C':List CR),
 (rlGo t 1 cur R C=.ok (R',C')↔(lnsGo t cur).flatten=cur++t∧∃ l0 ls Cs,lnsGo t cur=l0::ls∧sRecvs l0.dropLast=some R'∧ls.mapM rtL=some Cs∧C'=C++Cs)
 | [],cur,R,C,R',C'=>by
   rw[rlGo,lnsGo];simp
 | c::r,cur,R,C,R',C'=>by
   rw[rlGo,lnsGo]
   by_cases hc:c=10
   ·subst hc
    simp only[beq_self_eq_true,if_true]
    constructor
    ·intro h
     cases hs:sRecvs cur with
     | none=>rw[hs]at h;cases h
     | some R1 =>
       rw[hs]at h;obtain ⟨h1,h2,Cs,h3,h4⟩:=(rl2 r 2 [] R1 C R' C' (by omega)).1 h;refine ⟨by simp[h2],cur++[10],lnsGo r [],Cs,rfl,by rw[List.dropLast_concat,hs,h1],h3,h4⟩
    ·rintro ⟨h1,l0,ls,Cs,h2,h3,h4,h5⟩
     cases h2
     rw[List.dropLast_concat]at h3;rw[h3];exact (rl2 r 2 [] R' C R' C' (by omega)).2 ⟨rfl,by simpa using h1,Cs,h4,h5⟩
   ·have hc':(c==10)=false:=by simpa using hc
    rw[hc'];simp only[Bool.false_eq_true,if_false];rw[rl1 r (cur++[c]) R C R' C'];simp
theorem cRead1_lines(t:List UInt8)(L:List (List UInt8))(C:List CR):cRead1 t=.ok (L,C)↔(lnsK t).flatten=t∧∃ l0 ls,lnsK t=l0::ls∧sRecvs l0.dropLast=some L∧ls.mapM rtL=some C:=by
 unfold cRead1 lnsK;rw[rl1];simp only[List.nil_append]
 constructor
 ·rintro ⟨h1,l0,ls,Cs,h2,h3,h4,rfl⟩;exact ⟨h1,l0,ls,h2,h3,h4⟩
 ·rintro ⟨h1,l0,ls,h2,h3,h4⟩;exact ⟨h1,l0,ls,C,h2,h3,h4,rfl⟩
theorem nameGo_ok{L:List (List UInt8)}:∀ (C:List CR) (i:Nat),nameGo L C i=0→∀ c∈C,c.rc=[45]∨c.rc∈L
 | [],i,_,c,h=>by simp at h
 | x::r,i,h,c,hc=>by
   rw[nameGo]at h
   split at h
   ·cases h
   ·rename_i h1
    rcases List.mem_cons.1 hc with rfl|hc
    ·by_cases e:c.rc=[45]
     ·exact .inl e
     ·right
      have e':(c.rc == [45])=false:=by simpa using e
      rw[e']at h1;simpa using h1
    ·exact nameGo_ok r (i+1) h c hc
theorem cRead_names{t:List UInt8}{L:List (List UInt8)}{C:List CR}(h:cRead t=.ok (L,C)):nameF L C=0:=by
 unfold cRead at h
 split at h
 ·cases h
 ·split at h
  ·cases h
  ·split at h
   ·cases h
   ·split at h
    ·cases h
    ·rename_i h1
     cases h
     omega
theorem sBy_asc(l:List UInt8):Asc (sBy l).names:=by
 unfold sBy
 split
 ·dsimp only
  split
  ·exact List.Pairwise.nil
  ·exact rise_asc _ [] List.Pairwise.nil
 ·exact List.Pairwise.nil
theorem rtL_asc{l:List UInt8}{c:CR}(h:rtL l=some c):Asc c.bys:=by
 obtain ⟨_,_,_,_,_,_,rfl⟩:=sRoute_some _ _ h;exact sBy_asc _
theorem mapM_mem{α β:Type}(f:α→Option β):∀ (l:List α) (m:List β),l.mapM f=some m→∀ b∈m,∃ a∈l,f a=some b
 | [],m,h,b,hb=>by simp at h;subst h;simp at hb
 | a::l,m,h,b,hb=>by
   rw[mapM_cons']at h
   split at h
   ·cases h
   ·rename_i x hx
    split at h
    ·cases h
    ·rename_i bs hbs
     cases h
     rcases List.mem_cons.1 hb with rfl|hb
     ·exact ⟨a,by simp,hx⟩
     ·obtain ⟨y,hy,hf⟩:=mapM_mem f l bs hbs b hb
      exact ⟨y,by simp[hy],hf⟩
structure HitG(L:List (List UInt8))(h:HitM):Prop where
 rc:h.rc∈L
 bl:Asc h.bl
theorem hitsN_g{L:List (List UInt8)}{C:List CR}(hs:Steps C)(hn:∀ c∈C,c.rc=[45]∨c.rc∈L)(ha:∀ c∈C,Asc c.bys):∀ i,i≤C.length→∀ h∈hitsN C i,HitG L h
 | 0,_=>by simp[hitsN]
 | i+1,hi=>by
   intro h hh;rw[hitsN]at hh;have ih:=hitsN_g hs hn ha i (by omega);rcases List.mem_append.1 hh with e|e
   ·exact ih h e
   ·rw[List.getElem?_eq_getElem (by omega)]at e
    have e:=List.mem_singleton.1 e;subst e;have hc:=hn C[i] (List.getElem_mem _);have hb:=ha C[i] (List.getElem_mem _);have key:∀ ab:HitM,(C[i].rc=[45]→ab.rc∈L)→Asc ab.bl→HitG L (hitB ab C[i]):=by
     intro ab h1 h2;refine ⟨?_,?_⟩
     ·show (if C[i].rc == [45] then ab.rc else C[i].rc)∈L
      by_cases e:C[i].rc=[45]
      ·rw[if_pos (by simp[e])];exact h1 e
      ·rw[if_neg (by simp[e])];exact hc.resolve_left e
     ·show Asc (if C[i].tb then C[i].bys else ab.bl)
      split
      ·exact hb
      ·exact h2
    cases i with
    | zero =>
      have h0:=(hs.1 C[0] (List.getElem?_eq_getElem (by omega))).2;refine key _ (fun e=>absurd e h0) ?_;unfold aboveH;have:par C 0=none:=by
       cases hp:par C 0 with
       | none=>rfl
       | some p=>exact absurd (par_lt hp) (by omega)
      rw[this];exact List.Pairwise.nil
    | succ i =>
      obtain ⟨p,hp⟩:=par_of hs i (by omega);have hpl:=par_lt hp;have hm:aboveH C (hitsN C (i+1)) (i+1)∈hitsN C (i+1):=by
       unfold aboveH;rw[hp];simp only;rw[List.getD_eq_getElem?_getD,List.getElem?_eq_getElem (by rw[hitsN_len];exact hpl)];exact List.getElem_mem _
      have ho:=ih _ hm;exact key _ (fun _=>ho.rc) ho.bl
def hitsM(m:Mach)(l:List Nat):List HitM:=l.map fun i=>m.routes.getD i ⟨[],[],0,0,0⟩
theorem hitsM_snoc(m:Mach)(l:List Nat)(i:Nat)(hi:i<m.routes.length):hitsM m (l++[i])=hitsM m l++[m.routes[i]]:=by simp[hitsM,List.getD,hi]
theorem ins_cases{m:Mach}(ok:MOK m)(V:List UInt8→List UInt8){k:Nat}(hk:k<m.code.length)(n:Nat) :
 (m.code[k].op=0∧runM m V (n+1) k=[]) ∨
 (m.code[k].op=1∧m.code[k].x<m.routes.length∧k<m.code[k].a∧m.code[k].a<m.code.length∧runM m V (n+1) k=m.code[k].x::runM m V n m.code[k].a) ∨
 (m.code[k].op=2∧k<m.code[k].a∧m.code[k].a<m.code.length∧k<m.code[k].b∧m.code[k].b<m.code.length∧∃ hx:m.code[k].x<m.tests.length,TstOK m.names.length m.consts.length m.autos.length m.tests[m.code[k].x] ∧
   runM m V (n+1) k=runM m V n (if tstM m (V (m.names.getD m.tests[m.code[k].x].n [])) m.tests[m.code[k].x] then m.code[k].a else m.code[k].b)):=by
 have h:=ok.code.2.2 k hk;have hs:=h.s;have ho:=h.op;have hc:m.code[k]?=some m.code[k]:=List.getElem?_eq_getElem hk;generalize m.code[k]=c at *;obtain ⟨op,x,a,b⟩:=c;simp only at ho ⊢
 match op,ho with
 | 0,_=>exact .inl ⟨rfl,by rw[runM,hc];rfl⟩
 | 1,_ =>
   simp[stands]at hs;exact .inr (.inl ⟨rfl,hs.1.1,hs.1.2.1,hs.1.2.2,by rw[runM,hc];rfl⟩)
 | 2,_ =>
   simp[stands]at hs;refine .inr (.inr ⟨rfl,hs.1.2.1,hs.1.2.2,hs.2.1,hs.2.2,hs.1.1,ok.tests.2 _ (List.getElem_mem _),?_⟩);rw[runM,hc];simp only[List.getElem?_eq_getElem hs.1.1]
abbrev LBL:Type:=List UInt8 × List UInt8
def LR(w:World)(v:Value)(L:List LBL):Prop :=
 ∃ a cap,v=.slice a L.length cap∧L.length≤1048576∧∀ (j:Nat) (h:j<L.length),∃ g off,a=some ⟨g,off,none⟩∧g<w.heap.size∧w.cell? ⟨g,off+j*2,none⟩=some (.string (bs L[j].1))∧w.cell? ⟨g,off+j*2+1,none⟩=some (.string (bs L[j].2))
theorem LR.frm{S:List Nat}{w w':World}{v:Value}{L:List LBL}(h:LR w v L)(f:Frm S w w')(hS:∀ a n c,v=.slice (some a) n c→a.block∉S):LR w' v L:=by
 obtain ⟨a,cap,rfl,h0,h1⟩:=h;refine ⟨a,cap,rfl,h0,?_⟩;intro j hj;obtain ⟨g,off,rfl,h2,h3,h4⟩:=h1 j hj;have hg:=hS ⟨g,off,none⟩ _ _ rfl;exact ⟨g,off,rfl,Nat.lt_of_lt_of_le h2 f.size,(f.cell (p:=⟨g,off+j*2,none⟩) h2 hg).trans h3,(f.cell (p:=⟨g,off+j*2+1,none⟩) h2 hg).trans h4⟩
def lblV(L:List LBL)(n:List UInt8):List UInt8:=match L.find? (fun x=>x.1==n) with | some x=>x.2|none=>[]
def labsB:List LBL→List LBL→Bool
 | _,[]=>true
 | P,x::r=>isNameL x.1&&decide (x.2.length≤40)&&!(P.any fun y=>y.1==x.1)&&labsB (P++[x]) r
def labsOK(L:List LBL):Bool:=decide (L.length≤12)&&labsB [] L
theorem labsB_at(L:List LBL)(j:Nat)(hj:j<L.length):labsB (L.take j) (L.drop j)=(isNameL L[j].1&&decide (L[j].2.length≤40)&&!((L.take j).any fun y=>y.1==L[j].1)&&labsB (L.take (j+1)) (L.drop (j+1))):=by
 have e:L.take (j+1)=L.take j++[L[j]]:=by rw[List.take_add_one,List.getElem?_eq_getElem hj];rfl
 rw[List.drop_eq_getElem_cons hj,labsB,e]
theorem LR.take{w:World}{a:Option Addr}{n cap:Nat}{L:List LBL}(h:LR w (.slice a n cap) L)(j:Nat)(hj:j≤L.length):LR w (.slice a j cap) (L.take j):=by
 obtain ⟨a',c',e,h0,h1⟩:=h;simp at e;obtain ⟨rfl,rfl,rfl⟩:=e;have hl:(L.take j).length=j:=by simp;omega
 refine ⟨a,cap,by rw[hl],by omega,?_⟩;intro i hi;rw[hl]at hi;obtain ⟨g,off,rfl,h2,h3,h4⟩:=h1 i (by omega);exact ⟨g,off,rfl,h2,by rw[List.getElem_take];exact h3,by rw[List.getElem_take];exact h4⟩
theorem valueOf_any(v:Value)(L:List LBL)(n:List UInt8)(w:World)(h:LR w v L) :
 Calls Tryz.prog 84 #[v, .string (bs n)] w fun e w'=>e=.returned (.string (bs (lblV L n)))∧Frm [] w w':=by
 obtain ⟨a,cap,rfl,h0,h1⟩:=h;have H1:=hide h1;have hl:=bs_toList;clear h1;go_enter Tryz.func84,Tryz.ntmps84
 go_wp2_with fail
 go_loopg [9] L.length (fun k vi wr=>∃ j:Nat,j+k=L.length∧vi=.int .i64 j∧Frm [] w wr∧Hid ((L.drop j).find? (fun x=>x.1==n)=L.find? (fun x=>x.1==n)))
 case atStart=>exact ⟨0,by omega,rfl,Frm.refl _ _,by show _=_;simp⟩
 case round =>
  obtain ⟨j,hj,rfl,hfr,HF⟩:=hrel;have F:=hide hfr;clear hfr
  by_cases hlt:j<L.length
  ·obtain ⟨g,off,rfl,hg,hc1,hc2⟩:=H1.out j hlt
   have hf:=HF.out;rw[List.drop_eq_getElem_cons hlt,List.find?_cons]at hf;have q1:=(F.out.cell (p:=⟨g,off+j*2,none⟩) hg (by simp)).trans hc1;have q2:=(F.out.cell (p:=⟨g,off+j*2+1,none⟩) hg (by simp)).trans hc2;clear hc1 hc2;generalize L[j]=x at *;obtain ⟨nm,vl⟩:=x;simp only at q1 q2 hf;cases he:(nm==n)
   ·rw[he]at hf
    have HF2:=hide hf;clear hf HF;go_wp2;go_roundg (gk-1)
    case measure=>omega
    case rel=>exact ⟨j+1,by omega,by go_num,F.out.alloc _,HF2⟩
   ·rw[he]at hf
    have HV:Hid (lblV L n=vl):=by show _=_;unfold lblV;rw[← hf]
    clear hf HF;go_wp2;go_ret;rw[HV.out];exact ⟨rfl,F.out.alloc _⟩
  ·have HV:Hid (lblV L n=[]):=by
    show _=_;unfold lblV;rw[← HF.out,List.drop_eq_nil_of_le (by omega)]
    rfl
   clear HF;go_wp2;go_ret;rw[HV.out];exact ⟨rfl,F.out⟩
theorem isNamed_any(v:Value)(L:List LBL)(n:List UInt8)(w:World)(h:LR w v L) :
 Calls Tryz.prog 66 #[v, .string (bs n)] w fun e w'=>e=.returned (.bool (L.any fun x=>x.1==n))∧Frm [] w w':=by
 obtain ⟨a,cap,rfl,h0,h1⟩:=h;have H1:=hide h1;have hl:=bs_toList;clear h1;go_enter Tryz.func66,Tryz.ntmps66
 go_wp2_with fail
 go_loopg [9] L.length (fun k vi wr=>∃ j:Nat,j+k=L.length∧vi=.int .i64 j∧Frm [] w wr∧Hid (((L.drop j).any fun x=>x.1==n)=L.any fun x=>x.1==n))
 case atStart=>exact ⟨0,by omega,rfl,Frm.refl _ _,by show _=_;simp⟩
 case round =>
  obtain ⟨j,hj,rfl,hfr,HF⟩:=hrel;have F:=hide hfr;clear hfr
  by_cases hlt:j<L.length
  ·obtain ⟨g,off,rfl,hg,hc1,hc2⟩:=H1.out j hlt
   have hf:=HF.out;rw[List.drop_eq_getElem_cons hlt,List.any_cons]at hf;have q1:=(F.out.cell (p:=⟨g,off+j*2,none⟩) hg (by simp)).trans hc1;have q2:=(F.out.cell (p:=⟨g,off+j*2+1,none⟩) hg (by simp)).trans hc2;clear hc1 hc2;generalize L[j]=x at *;obtain ⟨nm,vl⟩:=x;simp only at q1 q2 hf;cases he:(nm==n)
   ·rw[he,Bool.false_or]at hf
    have HF2:=hide hf;clear hf HF;go_wp2;go_roundg (gk-1)
    case measure=>omega
    case rel=>exact ⟨j+1,by omega,by go_num,F.out.alloc _,HF2⟩
   ·rw[he,Bool.true_or]at hf
    have HV:=hide hf;clear hf HF;go_wp2;go_ret;rw[← HV.out];exact ⟨rfl,F.out.alloc _⟩
  ·have HV:Hid ((L.any fun x=>x.1==n)=false):=by
    show _=_;rw[← HF.out,List.drop_eq_nil_of_le (by omega)]
    rfl
   clear HF;go_wp2;go_ret;rw[HV.out];exact ⟨rfl,F.out⟩
theorem autT_next{x:AutM}(ok:AutOK x){s:Nat}(hs:s<x.acc.length)(c:UInt8):s*x.k+x.cl.getD c.toNat 0<x.nx.length∧x.nx.getD (s*x.k+x.cl.getD c.toNat 0) 0<x.acc.length:=by
 have hc:c.toNat<x.cl.length:=by rw[ok.cl];exact c.toNat_lt
 have h1:x.cl.getD c.toNat 0<x.k:=ok.cls _ (by simp[List.getD,hc]);have h2:s*x.k+x.k≤x.acc.length*x.k:=by
  have:=Nat.mul_le_mul_right x.k (Nat.succ_le_of_lt hs)
  rwa [Nat.succ_mul]at this
 have h3:s*x.k+x.cl.getD c.toNat 0<x.nx.length:=by rw[ok.nx];omega
 refine ⟨h3,ok.nxs _ ?_⟩;have e:x.nx.getD (s*x.k+x.cl.getD c.toNat 0) 0=x.nx[s*x.k+x.cl.getD c.toNat 0]:=by rw[List.getD_eq_getElem?_getD,List.getElem?_eq_getElem h3];rfl
 rw[e];exact List.getElem_mem _
theorem takesM_any(A:List Nat)(w:World)(g o:Nat)(x:AutM)(va vn:Value)(v:List UInt8)(h:AUm w g o x va vn)(ra:RW A 1 w va (bc x.acc))(rn:RW A 1 w vn (ic x.nx))(ok:AutOK x)(hv:v.length≤1048576) :
 Calls Tryz.prog 85 #[.pointer (some ⟨g,o,none⟩), .string (bs v)] w fun e w'=>e=.returned (.bool (x.acc.getD (autT x 0 v) 0==1))∧∃ q,w'=w.drewN q:=by
 obtain ⟨aa,ca,rfl,hra⟩:=ra.bool;obtain ⟨an,cn,rfl,hrn⟩:=rn.num;have HU:=hide h;have HRA:=hide hra;have HRN:=hide hrn;have OK:=hide ok;have hsz:=bs_size v;have hk:=ok.k2;have hac:=ok.s2;have hnx:x.nx.length≤10240:=by rw[ok.nx];exact Nat.le_trans (Nat.mul_le_mul ok.s2 ok.k2) (by decide)
 have hs1:=ok.s1;clear h hra hrn ra rn ok;go_enter Tryz.func85,Tryz.ntmps85
 go_wp2_with fail
 go_loopg [5,6] v.length (fun k v5 v6 wr=>∃ (i s q:Nat),i+k=v.length∧v6=.int .i64 i∧v5=.int .i64 s∧s<x.acc.length∧Hid (autT x s (v.drop i)=autT x 0 v)∧wr=w.drewN q)
 case atStart=>exact ⟨0,0,0,by omega,rfl,rfl,by omega,rfl,rfl⟩
 case round =>
  obtain ⟨i,s,q,hik,rfl,rfl,hs,HT,hw⟩:=hrel;subst hw
  by_cases hlt:i<v.length
  ·have c0:=HU.out.c0
   have cN:=HU.out.cn;have hbg:(bs v)[i]'(by rw[hsz];omega)=v[i]:=rfl;obtain ⟨hr,hnext⟩:=autT_next OK.out hs v[i];have HT2:Hid (autT x (x.nx.getD (s*x.k+x.cl.getD v[i].toNat 0) 0) (v.drop (i+1))=autT x 0 v):=by
    have h2:=HT.out;rw[List.drop_eq_getElem_cons hlt,autT]at h2;exact h2
   have hb:v[i].toNat<256:=v[i].toNat_lt;have cc:=HU.out.cc _ hb;have hcs:x.cl.getD v[i].toNat 0<256:=by
    have hc:v[i].toNat<x.cl.length:=by rw[OK.out.cl];exact hb
    have:=OK.out.cls (x.cl.getD v[i].toNat 0) (by simp[List.getD,hc]);omega
   clear HT;generalize v[i]=y at *;generalize x.cl.getD y.toNat 0=m at *;have hsm:s*x.k≤40*256:=Nat.mul_le_mul (by omega) hk;obtain ⟨p,hp⟩:∃ p,p=s*x.k:=⟨_,rfl⟩;have hpz:(s:Int)*(x.k:Int)=(p:Int):=by rw[hp];simp
   rw[← hp]at HT2 hsm hr hnext;clear hp;obtain ⟨gn,off,rfl,hgn,hcn⟩:=HRN.out (p+m) hr;have hgd:x.nx.getD (p+m) 0=x.nx[p+m]:=by simp[List.getD,hr]
   rw[hgd]at HT2 hnext;generalize x.nx[p+m]=z at *;have hcn2:∀ k,(w.drewN k).cell? ⟨gn,off+(p+m),none⟩=some (.int .i64 (z:Nat)):=fun k=>hcn
   have cN2:∀ k,(w.drewN k).cell? ⟨g,o+258,none⟩=some (.slice (some ⟨gn,off,none⟩) x.nx.length cn):=fun k=>cN
   clear hgd;go_wp2_with fail
   go_quiet (fail)
   go_wp2_with fail
   go_roundg (gk-1)
   case measure=>omega
   case rel=>exact ⟨i+1,z,_,by omega,by go_num,rfl,hnext,HT2,rfl⟩
  ·have HT2:Hid (s=autT x 0 v):=by
    have h2:=HT.out;rw[List.drop_eq_nil_of_le (by omega),autT]at h2;exact h2
   clear HT;have cA:=HU.out.ca;obtain ⟨ga,off,rfl,hga,hca⟩:=HRA.out s hs;have HV:Hid (x.acc.getD (autT x 0 v) 0=x.acc[s]):=by show _=_;rw[← HT2.out];simp[List.getD,hs]
   generalize x.acc[s]=z at *;go_wp2;go_ret;rw[HV.out];exact ⟨rfl,q,rfl⟩
end Go.Proofs.YtpcbbbilmpobaaaGreatDoor
