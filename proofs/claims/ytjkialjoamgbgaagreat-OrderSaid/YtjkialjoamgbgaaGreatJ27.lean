import Derived.Test.YtjkialjoamgbgaaGreatJ26
import Derived.Test.YtjkialjoamgbgaaGreatJ24
import Derived.Test.YtjkialjoamgbgaaGreatJ16
import Derived.Test.YtjkialjoamgbgaaGreatJ1
import Derived.Test.YtjkialjoamgbgaaGreatJ14
set_option linter.unusedVariables false
set_option linter.unusedSimpArgs false
set_option linter.unnecessarySimpa false
set_option maxRecDepth 100000
set_option maxHeartbeats 4000000
namespace Go.Proofs.YtjkialjoamgbgaaGreat
open Go.RowKit
def cRead(t:List UInt8):Except (Nat × Nat) (List (List UInt8) × List CR) :=
 if 1200<t.length then .error (1,0) else
 match cRead1 t with
 | .error n=>.error (2,n)
 | .ok (L,C)=>if 0<treeF C then .error (3,treeF C) else if 0<nameF L C then .error (4,nameF L C) else .ok (L,C)
def ReadRep(base:Nat)(w:World)(vr vt:Value)(e ln:Int):Except (Nat × Nat) (List (List UInt8) × List CR)→Prop
 | .error (n,l)=>vr=.slice none 0 0∧vt=.slice none 0 0∧e=n∧ln=l∧1≤n
 | .ok (R,C)=>e=0∧ln=0∧SL base w vr R∧∃ rvs,RL base w vt rvs∧Reps base w rvs C∧rvs.length≤1048576
theorem results_read{w:World}{rb:Nat}{vr vt:Value}{e ln:Int}{tmps:Array Value}(h:CB w rb vr vt)(h2:tmps.getD 2 undef=.pointer (some ⟨rb,0,none⟩))(h3:tmps.getD 3 undef=.int .i64 e)(h4:tmps.getD 4 undef=.int .i64 ln) :
 (results Tryz.f16 tmps).run Tryz.prog w=.ok (.tuple #[.agg #[vr,vt], .int .i64 e, .int .i64 ln]) w:=by
 have h2':tmps[2]?.getD undef=.pointer (some ⟨rb,0,none⟩):=by simpa using h2
 have h3':tmps[3]?.getD undef=.int .i64 e:=by simpa using h3
 have h4':tmps[4]?.getD undef=.int .i64 ln:=by simpa using h4
 simp only[results,Tryz.results16]
 simp[Sem.run_bind,Result.andThen,h2',h3',h4',asAddr,load_cfg h]
theorem cfgRead_any(t:List UInt8)(w:World)(ht:t.length≤1048576) :
 Calls Tryz.prog 16 #[.string (bs t)] w fun e w'=>Frm [] w w'∧∃ vr vt er ln,e=.returned (.tuple #[.agg #[vr,vt], .int .i64 er, .int .i64 ln])∧ReadRep w.heap.size w' vr vt er ln (cRead t):=by
 have hsz:=bs_size t
 have hb0:=heap1 w (Obj.cells #[.slice none 0 0, .slice none 0 0] 51)
 have HB0:Hid (CB (w.alloc (Obj.cells #[.slice none 0 0, .slice none 0 0] 51)) w.heap.size (.slice none 0 0) (.slice none 0 0)):=hb0
 clear hb0
 by_cases h1200:1200<t.length
 ·have Hx:Hid (cRead t=.error (1,0)):=by show _=_;unfold cRead;rw[if_pos h1200]
  go_enter Tryz.func16,Tryz.ntmps16
  go_wp2
  refine bodyPost_ret (results_read (vr:=.slice none 0 0) (vt:=.slice none 0 0) (e:=1) (ln:=0) (rb:=w.heap.size) ?_ (by rfl) (by rfl) (by rfl)) rfl ?_
  ·exact HB0.out
  ·rw[Hx.out]
   exact ⟨(Frm.refl _ _).alloc _,_,_,_,_,rfl,rfl,rfl,rfl,rfl,Nat.le_refl _⟩
 have HX:Hid (cRead t=match cRead1 t with
  | .error n=>.error (2,n)
  | .ok (L,C)=>if 0<treeF C then .error (3,treeF C) else if 0<nameF L C then .error (4,nameF L C) else .ok (L,C)):=by
  show _=_;unfold cRead;rw[if_neg h1200]
 go_enter Tryz.func16,Tryz.ntmps16
 go_wp2_with fail
 refine (readLines_any t _ (by omega)).mono ?_
 rintro e w1 ⟨hf1,vr,vt,ln,rfl,hrep⟩
 have hz1:w.heap.size<w1.heap.size:=by have:=hf1.size;simp at this;omega
 have KB:Hid (CB w1 w.heap.size (.slice none 0 0) (.slice none 0 0)):=HB0.out.frm hf1 (by simp)
 have KF:Hid (Frm [] w w1):=((Frm.refl _ _).alloc _).trans hf1
 clear hf1 HB0
 cases hr1:cRead1 t with
 | error n =>
   rw[hr1]at hrep HX
   obtain ⟨rfl,rfl,rfl,hn⟩:=hrep
   have d0:=KB.out.c0
   have d1:=KB.out.c1
   have df:=KB.out.fz
   have hgt:(0:Int)<(n:Int):=by omega
   go_wp2
   refine bodyPost_ret (results_read (vr:=.slice none 0 0) (vt:=.slice none 0 0) (e:=2) (ln:=n) (rb:=w.heap.size) ?_ (by rfl) (by rfl) (by rfl)) rfl ?_
   ·exact ((KB.out.set0 _).set1 _).frm (S:=[]) ((Frm.refl _ _).alloc _) (by simp)
   ·rw[HX.out]
    exact ⟨((KF.out.setCell (by simp) _).setCell (by simp) _).alloc _,_,_,_,_,rfl,rfl,rfl,rfl,rfl,by omega⟩
 | ok LC =>
   obtain ⟨L,C⟩:=LC
   have hgood:=cRead1_good t L C (by omega) hr1
   rw[hr1]at hrep HX
   obtain ⟨rfl,hs,rvs,hrl,hrp,hrn⟩:=hrep
   obtain ⟨a0,n0,rfl⟩:=hs.shape
   obtain ⟨a1,n1,rfl⟩:=own_shape hrl
   have KS:Hid (SL (w.heap.size+1) w1 (.slice a0 L.length n0) L):=hide (by simpa using hs)
   have KL:Hid (RL (w.heap.size+1) w1 (.slice a1 rvs.length n1) rvs):=hide (by simpa using hrl)
   have KP:Hid (Reps (w.heap.size+1) w1 rvs C):=hide (by simpa using hrp)
   have KG:Hid ((∀ m∈L,isNameL m=true)∧L.length≤8∧(∀ c∈C,GoodCR c)):=hgood
   clear hs hrl hrp hgood hr1
   have hnew:=heap1 w1 (Obj.cells #[.slice a0 L.length n0, .slice a1 rvs.length n1] 51)
   have HN:Hid (CB (w1.alloc (Obj.cells #[.slice a0 L.length n0, .slice a1 rvs.length n1] 51)) w1.heap.size (.slice a0 L.length n0) (.slice a1 rvs.length n1)):=hnew
   clear hnew
   go_wp2_with fail
   refine (treeFault_any (w.heap.size+1) _ rvs C _ (KL.out.frm (S:=[]) ((Frm.refl _ _).alloc _) (by simp)) (KP.out.frm (S:=[]) ((Frm.refl _ _).alloc _) (by intro k hk;simp at hk)) hrn (fun c hc=>(KG.out.2.2 c hc).d)).mono ?_
   rintro e w2 ⟨rfl,hf2⟩
   have F12:Frm [] w1 w2:=((Frm.refl _ _).alloc _).trans hf2
   have KN2:Hid (CB w2 w1.heap.size (.slice a0 L.length n0) (.slice a1 rvs.length n1)):=HN.out.frm hf2 (by simp)
   have KB2:Hid (CB w2 w.heap.size (.slice none 0 0) (.slice none 0 0)):=KB.out.frm F12 (by simp)
   have KF2:Hid (Frm [] w w2):=KF.out.trans F12
   have KS2:Hid (SL (w.heap.size+1) w2 (.slice a0 L.length n0) L):=KS.out.frm F12 (by simp)
   have KL2:Hid (RL (w.heap.size+1) w2 (.slice a1 rvs.length n1) rvs):=KL.out.frm F12 (by simp)
   have KP2:Hid (Reps (w.heap.size+1) w2 rvs C):=KP.out.frm F12 (by intro k hk;simp at hk)
   clear hf2 F12 HN KB KF KS KL KP
   by_cases htf:0<treeF C
   ·have Hx:Hid (cRead t=.error (3,treeF C)):=by show _=_;rw[HX.out];simp[htf]
    have d0:=KB2.out.c0
    have d1:=KB2.out.c1
    have df:=KB2.out.fz
    have hgt:(0:Int)<(treeF C:Int):=by omega
    generalize treeF C=tf at *
    go_wp2
    refine bodyPost_ret (results_read (vr:=.slice none 0 0) (vt:=.slice none 0 0) (e:=3) (ln:=tf) (rb:=w.heap.size) ?_ (by rfl) (by rfl) (by rfl)) rfl ?_
    ·exact (KB2.out.set0 _).set1 _
    ·rw[Hx.out]
     exact ⟨(KF2.out.setCell (by simp) _).setCell (by simp) _,_,_,_,_,rfl,rfl,rfl,rfl,rfl,by omega⟩
   ·have htz:treeF C=0:=by omega
    have e0:=KN2.out.c0
    have e1:=KN2.out.c1
    rw[htz]
    go_wp2_with fail
    refine (nameFault_any (w.heap.size+1) _ _ L rvs C _ KS2.out KL2.out KP2.out hrn (by have:=KG.out.2.1;omega)).mono ?_
    rintro e w3 ⟨rfl,hf3⟩
    have KN3:Hid (CB w3 w1.heap.size (.slice a0 L.length n0) (.slice a1 rvs.length n1)):=KN2.out.frm hf3 (by simp)
    have KB3:Hid (CB w3 w.heap.size (.slice none 0 0) (.slice none 0 0)):=KB2.out.frm hf3 (by simp)
    have KF3:Hid (Frm [] w w3):=KF2.out.trans hf3
    have KS3:Hid (SL (w.heap.size+1) w3 (.slice a0 L.length n0) L):=KS2.out.frm hf3 (by simp)
    have KL3:Hid (RL (w.heap.size+1) w3 (.slice a1 rvs.length n1) rvs):=KL2.out.frm hf3 (by simp)
    have KP3:Hid (Reps (w.heap.size+1) w3 rvs C):=KP2.out.frm hf3 (by intro k hk;simp at hk)
    clear hf3 KN2 KB2 KF2 KS2 KL2 KP2 e0 e1
    have d0:=KB3.out.c0
    have d1:=KB3.out.c1
    have df:=KB3.out.fz
    by_cases hnf:0<nameF L C
    ·have Hx:Hid (cRead t=.error (4,nameF L C)):=by show _=_;rw[HX.out];simp[htz,hnf]
     have hgt:(0:Int)<(nameF L C:Int):=by omega
     generalize nameF L C=nf at *
     clear htz htf
     go_wp2
     refine bodyPost_ret (results_read (vr:=.slice none 0 0) (vt:=.slice none 0 0) (e:=4) (ln:=nf) (rb:=w.heap.size) ?_ (by rfl) (by rfl) (by rfl)) rfl ?_
     ·exact (KB3.out.set0 _).set1 _
     ·rw[Hx.out]
      exact ⟨(KF3.out.setCell (by simp) _).setCell (by simp) _,_,_,_,_,rfl,rfl,rfl,rfl,rfl,by omega⟩
    ·have hnz:nameF L C=0:=by omega
     have Hx:Hid (cRead t=.ok (L,C)):=by show _=_;rw[HX.out];simp[htz,hnz]
     rw[hnz]
     have e0:=KN3.out.c0
     have e1:=KN3.out.c1
     clear htz htf hnz hnf
     go_wp2
     refine bodyPost_ret (results_read (vr:=.slice a0 L.length n0) (vt:=.slice a1 rvs.length n1) (e:=0) (ln:=0) (rb:=w.heap.size) ?_ (by rfl) (by rfl) (by rfl)) rfl ?_
     ·exact (KB3.out.set0 _).set1 _
     ·have F:Frm [w.heap.size] w3 ((w3.setCell ⟨w.heap.size,0,none⟩ (.slice a0 L.length n0)).setCell ⟨w.heap.size,1,none⟩ (.slice a1 rvs.length n1)):=((Frm.refl _ _).setCell (by simp) _).setCell (by simp) _
      rw[Hx.out]
      refine ⟨(KF3.out.setCell (by simp) _).setCell (by simp) _,_,_,_,_,rfl,rfl,rfl,(KS3.out.frm F (by simp)).base (by omega),rvs,own_base (KL3.out.frm F (by simp)) (by omega),(KP3.out.frm F (by intro k hk;simp at hk;exact Or.inl (by omega))).base (by omega),hrn⟩
open Go.RowKit
theorem sc_flat(L:List (List UInt8)):(sc L).flatten=sv L:=by
 induction L with
 | nil=>rfl
 | cons x r ih=>simp only[sc,sv,List.map_cons,List.flatten_cons]at ih ⊢;rw[ih];rfl
theorem SL.rw0{base:Nat}{w:World}{v:Value}{L:List (List UInt8)}(h:SL base w v L):RW [] 1 w v (sc L):=by
 have ow:OW 9 1 base w v (sc L):=by
  refine ⟨?_,fun x hx=>?_⟩
  ·rw[sc_flat,sc_len];exact h
  ·obtain ⟨y,_,rfl⟩:=List.mem_map.1 hx;rfl
 exact ow.rw (by simp)
theorem ML.rw0{base:Nat}{w:World}{v:Value}{M:List CM}(h:ML base w v M):RW [] 3 w v (mtc M):=by
 have ow:OW 101 3 base w v (mtc M):=by
  refine ⟨?_,fun x hx=>?_⟩
  ·have e:(mtc M).flatten=mv M:=by unfold mtc mv;rw[List.flatMap_def]
   rw[e,show (mtc M).length=M.length by simp[mtc]];exact h
  ·obtain ⟨y,_,rfl⟩:=List.mem_map.1 hx;rfl
 exact ow.rw (by simp)
theorem rts_of{base:Nat}{w:World}{v:Value}{R:List RV}{C:List CR}(h:RL base w v R)(hp:Reps base w R C):RTS [] w v C:=by
 refine ⟨R.map RV.cells,?_,by simpa using hp.1,fun n cs c h1 h2=>?_⟩
 ·have ow:OW 80 9 base w v (lst (R.map RV.cells)):=by
   refine ⟨?_,fun x hx=>?_⟩
   ·have e:(lst (R.map RV.cells)).flatten=rvl R:=by unfold lst rvl rcells;rw[List.map_map,List.flatMap_def];rfl
    rw[e,lst_len,List.length_map];exact h
   ·unfold lst at hx
    rw[List.map_map]at hx
    obtain ⟨y,_,rfl⟩:=List.mem_map.1 hx;rfl
  exact ow.rw (by simp)
 ·rw[List.getElem?_map,Option.map_eq_some_iff]at h1
  obtain ⟨rv,h3,rfl⟩:=h1
  have hr:=hp.2 n rv c h3 h2
  refine ⟨rv.vby,rv.vif,?_,hr.by_.rw0,hr.ifs.rw0⟩
  unfold RV.cells rcl
  rw[hr.d,hr.rc,hr.tb,hr.wt,hr.ev,hr.rp,hr.co]
open Go.RowKit
theorem treeGo_ok:∀ (C:List CR) (i:Nat) (da:Int),i≤16→treeGo C i da=0→(∀ c∈C,c.d≤5)∧C.length+i≤16
 | [],i,da,hi,_=>⟨by simp,by simpa using hi⟩
 | c::r,i,da,hi,h=>by
   unfold treeGo at h
   cases hb:(!(if (i==0)=true then rootOk c else followOk c.d da)||decide (16≤i))
   ·rw[hb]at h
    simp only[Bool.false_eq_true,if_false]at h
    have hb1:(if (i==0)=true then rootOk c else followOk c.d da)=true∧¬ 16≤i:=by
     cases hx:(if (i==0)=true then rootOk c else followOk c.d da)
     ·rw[hx]at hb;simp at hb
     ·rw[hx]at hb;simp at hb;exact ⟨rfl,by omega⟩
    obtain ⟨h1,h2⟩:=treeGo_ok r (i+1) c.d (by omega) h
    refine ⟨fun x hx=>?_,by simp;omega⟩
    rcases List.mem_cons.1 hx with rfl|hx
    ·have h3:=hb1.1
     by_cases h0:(i==0)=true
     ·rw[if_pos h0]at h3;simp[rootOk]at h3;omega
     ·rw[if_neg h0]at h3;simp[followOk]at h3;omega
    ·exact h1 x hx
   ·rw[hb]at h
    simp at h
theorem cRead_tree{t:List UInt8}{L:List (List UInt8)}{C:List CR}(h:cRead t=.ok (L,C)):cRead1 t=.ok (L,C)∧0<C.length∧C.length≤16∧∀ c∈C,c.d≤5:=by
 unfold cRead at h
 split at h
 ·cases h
 ·split at h
  ·cases h
  ·rename_i L' C' h1
   split at h
   ·cases h
   ·rename_i ht
    split at h
    ·cases h
    ·simp only[Except.ok.injEq,Prod.mk.injEq]at h
     obtain ⟨rfl,rfl⟩:=h
     have ht0:treeF C'=0:=by omega
     unfold treeF at ht0
     split at ht0
     ·cases ht0
     ·rename_i hne
      obtain ⟨h3,h4⟩:=treeGo_ok C' 0 0 (by omega) ht0
      refine ⟨h1,?_,by omega,h3⟩
      cases C' with
      | nil=>simp at hne
      | cons a b=>simp
open Go.RowKit
def Steps(C:List CR):Prop:=(∀ c,C[0]?=some c→c.d=0∧c.rc≠[45])∧∀ (i:Nat) (a b:CR),C[i]?=some a→C[i+1]?=some b→1≤b.d∧b.d≤a.d+1
theorem treeGo_steps:∀ (C:List CR) (i:Nat) (da:Nat),treeGo C i da=0→(∀ c,C[0]?=some c→(i=0→c.d=0∧c.rc≠[45])∧(i≠0→1≤c.d∧c.d≤da+1))∧∀ (k:Nat) (a b:CR),C[k]?=some a→C[k+1]?=some b→1≤b.d∧b.d≤a.d+1
 | [],i,da,_=>⟨by simp,by simp⟩
 | c::r,i,da,h=>by
   unfold treeGo at h
   cases hb:(!(if (i==0)=true then rootOk c else followOk c.d da)||decide (16≤i))
   ·rw[hb]at h
    simp only[Bool.false_eq_true,if_false]at h
    have hb1:(if (i==0)=true then rootOk c else followOk c.d da)=true:=by
     cases hx:(if (i==0)=true then rootOk c else followOk c.d da)
     ·rw[hx]at hb;simp at hb
     ·rfl
    obtain ⟨h1,h2⟩:=treeGo_steps r (i+1) c.d h
    refine ⟨fun x hx=>?_,fun k a b ha hb2=>?_⟩
    ·simp at hx
     subst hx
     refine ⟨fun e=>?_,fun e=>?_⟩
     ·rw[if_pos (by simp[e])]at hb1
      simp[rootOk]at hb1
      exact ⟨by omega,hb1.2⟩
     ·rw[if_neg (by simp[e])]at hb1
      simp[followOk]at hb1
      omega
    ·cases k with
     | zero =>
       simp at ha hb2
       subst ha
       exact (h1 b (by simpa using hb2)).2 (by omega)
     | succ k=>exact h2 k a b (by simpa using ha) (by simpa using hb2)
   ·rw[hb]at h
    simp at h
theorem steps_all{C:List CR}(h:Steps C):∀ (i:Nat) (c:CR),C[i]?=some c→∀ e,e≤c.d→∃ j x,j≤i∧C[j]?=some x∧x.d=e
 | 0,c,hc,e,he=>by
   have:=(h.1 c hc).1
   exact ⟨0,c,Nat.le_refl _,hc,by omega⟩
 | i+1,c,hc,e,he=>by
   by_cases e1:e=c.d
   ·exact ⟨i+1,c,Nat.le_refl _,hc,e1.symm⟩
   ·have hil:i<C.length:=by have:=(List.getElem?_eq_some_iff.1 hc).1;omega
    have h2:=(h.2 i C[i] c (List.getElem?_eq_getElem hil) hc).2
    obtain ⟨j,x,hj,hx,hxe⟩:=steps_all h i C[i] (List.getElem?_eq_getElem hil) e (by omega)
    exact ⟨j,x,by omega,hx,hxe⟩
theorem parGo_of{C:List CR}{d:Nat}:∀ (i j:Nat) (x:CR),j<i→C[j]?=some x→x.d+1=d→∃ p,parGo C d i=some p
 | 0,j,x,h,_,_=>by omega
 | i+1,j,x,h,hx,hd=>by
   rw[parGo]
   by_cases e:(C[i]?.map fun c=>c.d+1)=some d
   ·rw[if_pos e];exact ⟨i,rfl⟩
   ·rw[if_neg e]
    refine parGo_of i j x ?_ hx hd
    rcases Nat.lt_or_ge j i with h1|h1
    ·exact h1
    ·have:j=i:=by omega
     subst this
     rw[hx]at e
     exact absurd (by simp[hd]) e
theorem par_of{C:List CR}(h:Steps C)(i:Nat)(hi:i+1<C.length):∃ p,par C (i+1)=some p:=by
 unfold par
 rw[List.getElem?_eq_getElem hi]
 have h1:=(h.2 i C[i] C[i+1] (List.getElem?_eq_getElem (by omega)) (List.getElem?_eq_getElem hi))
 obtain ⟨j,x,hj,hx,hxe⟩:=steps_all h i C[i] (List.getElem?_eq_getElem (by omega)) (C[i+1].d-1) (by omega)
 exact parGo_of (i+1) j x (by omega) hx (by omega)
open Go.RowKit
structure CSok(s:CS):Prop where
 n:∀ x∈s.n,okName x
 c:∀ x∈s.c,x.length<41
 a:∀ x∈s.a,AutOK x
 xa:s.x.length=s.a.length
 t:∀ t∈s.t,TstOK s.n.length s.c.length s.a.length t
 q:∀ l∈s.q,∀ c∈l,c.1<s.t.length
 ql:∀ l∈s.q,l.length≤4
theorem TstOK.mono{nn nc na nn' nc' na':Nat}{t:TstM}(h:TstOK nn nc na t)(h1:nn≤nn')(h2:nc≤nc')(h3:na≤na'):TstOK nn' nc' na' t:=by
 refine ⟨by have:=h.n;omega,h.k,?_⟩
 have:=h.x
 split<;>rename_i e<;>simp only[e,if_true,if_false]at this<;>omega
theorem addx_ge(L:List (List UInt8))(x:List UInt8):L.length≤(addx L x).length:=by unfold addx;split<;>simp
theorem addt_ge(L:List TstM)(x:TstM):L.length≤(addt L x).length:=by unfold addt;split<;>simp
theorem fdx_lt(L:List (List UInt8))(x:List UInt8):fdx L x<(addx L x).length:=by
 have:=fdx_le L x
 unfold addx;split
 ·simp;omega
 ·omega
theorem fdt_lt(L:List TstM)(x:TstM):fdt L x<(addt L x).length:=by
 have:=fdt_le L x
 unfold addt;split
 ·simp;omega
 ·omega
theorem mem_addx{L:List (List UInt8)}{x y:List UInt8}(h:y∈addx L x):y∈L∨y=x:=by
 unfold addx at h;split at h
 ·simpa using h
 ·exact .inl h
theorem mem_addt{L:List TstM}{x y:TstM}(h:y∈addt L x):y∈L∨y=x:=by
 unfold addt at h;split at h
 ·simpa using h
 ·exact .inl h
theorem ptest_ok{re:List UInt8→Nat}{aut:List UInt8→AutM}(ha:∀ v,re v=0→AutOK (aut v)){s s1:CS}{t:TstM}(h:CSok s){m:CM}(hm:GoodM m)(he:ptest re aut s m=some (t,s1)) :
 CSok { s1 with t:=addt s1.t t }∧s1.t=s.t∧s1.q=s.q:=by
 have hn:=addx_ge s.n m.1
 have hc:=addx_ge s.c m.2.2
 have on:∀ x∈addx s.n m.1,okName x:=fun x hx=>by
  rcases mem_addx hx with e|rfl
  ·exact h.n x e
  ·exact ⟨by have:=isNameL_len hm.name;omega,hm.name⟩
 have oc:∀ x∈addx s.c m.2.2,x.length<41:=fun x hx=>by
  rcases mem_addx hx with e|rfl
  ·exact h.c x e
  ·have:=hm.val;omega
 have oq:∀ t,∀ l∈s.q,∀ c∈l,c.1<(addt s.t t).length:=fun t l hl c hc=>by
  have:=h.q l hl c hc
  have:=addt_ge s.t t
  omega
 unfold ptest at he
 split at he
 ·split at he
  ·rename_i hx
   cases he
   refine ⟨⟨on,h.c,h.a,h.xa,fun y hy=>?_,oq _,h.ql⟩,rfl,rfl⟩
   rcases mem_addt hy with e|rfl
   ·exact (h.t y e).mono hn (Nat.le_refl _) (Nat.le_refl _)
   ·exact ⟨fdx_lt _ _,by simp,by simp only[if_true];rw[← h.xa];exact hx⟩
  ·rename_i hx
   split at he
   ·rename_i hre
    cases he
    refine ⟨⟨on,h.c,fun y hy=>?_,by simp[h.xa],fun y hy=>?_,oq _,h.ql⟩,rfl,rfl⟩
    ·rcases List.mem_append.1 hy with e|e
     ·exact h.a y e
     ·rw[List.mem_singleton.1 e];exact ha _ hre
    ·rcases mem_addt hy with e|rfl
     ·exact (h.t y e).mono hn (Nat.le_refl _) (by simp)
     ·exact ⟨fdx_lt _ _,by simp,by simp only[if_true,List.length_append,List.length_singleton];have:=fdx_le s.x m.2.2;have:=h.xa;omega⟩
   ·cases he
 ·cases he
  refine ⟨⟨on,oc,h.a,h.xa,fun y hy=>?_,oq _,h.ql⟩,rfl,rfl⟩
  rcases mem_addt hy with e|rfl
  ·exact (h.t y e).mono hn hc (Nat.le_refl _)
  ·exact ⟨fdx_lt _ _,by simp,by simp only[Nat.zero_ne_one,if_false];exact fdx_lt _ _⟩
theorem pmat_ok{re:List UInt8→Nat}{aut:List UInt8→AutM}(ha:∀ v,re v=0→AutOK (aut v)):∀ (M:List CM) (s:CS) (acc:List (Nat × Bool)) {l:List (Nat × Bool)} {s1:CS},CSok s→(∀ m∈M,GoodM m)→(∀ c∈acc,c.1<s.t.length)→pmat re aut s acc M=.ok (l,s1)→CSok s1∧(∀ c∈l,c.1<s1.t.length)∧l.length=acc.length+M.length
 | [],s,acc,l,s1,h,_,h2,e=>by
   rw[pmat]at e
   cases e
   exact ⟨h,h2,rfl⟩
 | m::r,s,acc,l,s1,h,hM,h2,e=>by
   rw[pmat]at e
   split at e
   ·cases e
   ·rename_i t s2 ht
    obtain ⟨g1,g2,g3⟩:=ptest_ok ha h (hM m (by simp)) ht
    obtain ⟨k1,k2,k3⟩:=pmat_ok ha r _ _ g1 (fun x hx=>hM x (by simp[hx])) (fun c hc=>by
     rcases List.mem_append.1 hc with e1|e1
     ·have:=h2 c e1
      have h3:=addt_ge s2.t t
      rw[g2]at h3
      show c.1<(addt s2.t t).length
      rw[g2];omega
     ·rw[List.mem_singleton.1 e1];exact fdt_lt _ _) e
    exact ⟨k1,k2,by rw[k3];simp;omega⟩
theorem pmat_tge{re:List UInt8→Nat}{aut:List UInt8→AutM}:∀ (M:List CM) (s:CS) (acc:List (Nat × Bool)) {l:List (Nat × Bool)} {s1:CS},pmat re aut s acc M=.ok (l,s1)→s1.q=s.q
 | [],s,acc,l,s1,e=>by
   rw[pmat]at e
   cases e
   rfl
 | m::r,s,acc,l,s1,e=>by
   rw[pmat]at e
   split at e
   ·cases e
   ·rename_i t s2 ht
    rw[pmat_tge r _ _ e]
    unfold ptest at ht
    split at ht
    ·split at ht
     ·cases ht;rfl
     ·split at ht
      ·cases ht;rfl
      ·cases ht
    ·cases ht;rfl
theorem pread_ok{re:List UInt8→Nat}{aut:List UInt8→AutM}(ha:∀ v,re v=0→AutOK (aut v)):∀ (C:List CR) (s:CS) (i k:Nat) {s1:CS},CSok s→CSB s k→(∀ c∈C,GoodCR c)→pread re aut s i C=.ok s1→CSok s1∧CSB s1 (k+4*C.length)∧s1.q.length=s.q.length+C.length
 | [],s,i,k,s1,h,hb,_,e=>by
   rw[pread]at e
   cases e
   exact ⟨h,hb,rfl⟩
 | c::r,s,i,k,s1,h,hb,hC,e=>by
   rw[pread]at e
   have hc:=hC c (by simp)
   split at e
   ·cases e
   ·rename_i l s2 hl
    obtain ⟨g1,g2,g3⟩:=pmat_ok ha c.ifs s [] h hc.ifs (by simp) hl
    obtain ⟨b1,b2,b3⟩:=pmat_cb c.ifs s [] k hb hl
    have hil:=hc.ifl
    simp at g3
    have b4:CSB { s2 with q:=s2.q++[l] } (k+4):=⟨by have:=b1.n;simp only;omega,by have:=b1.c;simp only;omega,by have:=b1.x;simp only;omega,by have:=b1.a;simp only;omega,by have:=b1.t;simp only;omega⟩
    obtain ⟨k1,k2,k3⟩:=pread_ok ha r { s2 with q:=s2.q++[l] } (i+1) (k+4) ⟨g1.n,g1.c,g1.a,g1.xa,g1.t,fun x hx=>by
     rcases List.mem_append.1 hx with e1|e1
     ·exact g1.q x e1
     ·rw[List.mem_singleton.1 e1];exact g2,fun x hx=>by
     rcases List.mem_append.1 hx with e1|e1
     ·exact g1.ql x e1
     ·rw[List.mem_singleton.1 e1];omega⟩ b4 (fun x hx=>hC x (by simp[hx])) e
    refine ⟨k1,?_,?_⟩
    ·rw[List.length_cons,show k+4*(r.length+1)=k+4+4*r.length by omega];exact k2
    ·rw[k3];simp[b2];omega
theorem tld_lt{x:Int}{y:Nat}(h:-1≤x∧x≤99999)(hy:y<100000):tld x y<100000:=by
 unfold tld;split<;>omega
theorem hitB_ok{ab:HitM}{c:CR}(hc:GoodCR c)(h:HitOK ab∨c.rc≠[45])(hb:ab.bl.length<5∧(∀ n∈ab.bl,okName n)∧ab.wt<100000∧ab.ev<100000∧ab.rp<100000):HitOK (hitB ab c):=by
 have on:∀ n,isNameL n=true→okName n:=fun n hn=>⟨by have:=isNameL_len hn;omega,hn⟩
 refine ⟨?_,?_,?_,tld_lt hc.wt hb.2.2.1,tld_lt hc.ev hb.2.2.2.1,tld_lt hc.rp hb.2.2.2.2⟩
 ·show okName (if c.rc == [45] then ab.rc else c.rc)
  by_cases e:c.rc=[45]
  ·rw[if_pos (by simp[e])]
   rcases h with h|h
   ·exact h.rc
   ·exact absurd e h
  ·rw[if_neg (by simp[e])]
   exact on _ (hc.rc.resolve_left e)
 ·show (if c.tb then c.bys else ab.bl).length<5
  split
  ·have:=hc.byl;omega
  ·exact hb.1
 ·show ∀ n∈(if c.tb then c.bys else ab.bl),okName n
  split
  ·exact fun n hn=>on n (hc.bys n hn)
  ·exact hb.2.1
theorem hitsN_ok{C:List CR}(hs:Steps C)(hg:∀ c∈C,GoodCR c):∀ i,i≤C.length→∀ h∈hitsN C i,HitOK h
 | 0,_=>by simp[hitsN]
 | i+1,hi=>by
   intro h hh
   rw[hitsN]at hh
   have ih:=hitsN_ok hs hg i (by omega)
   rcases List.mem_append.1 hh with e|e
   ·exact ih h e
   ·rw[List.getElem?_eq_getElem (by omega)]at e
    have e:=List.mem_singleton.1 e
    subst e
    have hc:=hg C[i] (List.getElem_mem _)
    cases i with
    | zero =>
      have h0:=(hs.1 C[0] (List.getElem?_eq_getElem (by omega))).2
      refine hitB_ok hc (.inr h0) ?_
      unfold aboveH
      have:par C 0=none:=by
       cases hp:par C 0 with
       | none=>rfl
       | some p=>exact absurd (par_lt hp) (by omega)
      rw[this]
      simp[rootH]
    | succ i =>
      obtain ⟨p,hp⟩:=par_of hs i (by omega)
      have hpl:=par_lt hp
      have hm:aboveH C (hitsN C (i+1)) (i+1)∈hitsN C (i+1):=by
       unfold aboveH
       rw[hp]
       simp only
       rw[List.getD_eq_getElem?_getD,List.getElem?_eq_getElem (by rw[hitsN_len];exact hpl)]
       exact List.getElem_mem _
      have ho:=ih _ hm
      exact hitB_ok hc (.inl ho) ⟨ho.b1,ho.b2,ho.wt,ho.ev,ho.rp⟩
theorem cRead_steps{t:List UInt8}{L:List (List UInt8)}{C:List CR}(h:cRead t=.ok (L,C)):Steps C:=by
 have h0:=(cRead_tree h).2.1
 unfold cRead at h
 split at h
 ·cases h
 ·split at h
  ·cases h
  ·split at h
   ·cases h
   ·rename_i L' C' _ h1
    split at h
    ·cases h
    ·cases h
     have h2:treeGo C 0 ((0:Nat):Int)=0:=by
      have:treeF C=treeGo C 0 0:=by unfold treeF;rw[if_neg];cases C with | nil=>simp at h0|cons=>simp
      have e:treeGo C 0 0=0:=by omega
      exact e
     obtain ⟨g1,g2⟩:=treeGo_steps C 0 0 h2
     exact ⟨fun c hc=>(g1 c hc).1 rfl,g2⟩
theorem mok_of{re:List UInt8→Nat}{aut:List UInt8→AutM}(ha:∀ v,re v=0→AutOK (aut v)){t:List UInt8}{L:List (List UInt8)}{C:List CR}{s:CS}(ht:t.length≤1048576)(h:cRead t=.ok (L,C))(hp:pread re aut cs0 0 C=.ok s):MOK (compM C s):=by
 obtain ⟨h1,h2,h3,h4⟩:=cRead_tree h
 have hg:=(cRead1_good t L C ht h1).2.2
 obtain ⟨k1,k2,k3⟩:=pread_ok ha C cs0 0 0 ⟨by simp[cs0],by simp[cs0],by simp[cs0],rfl,by simp[cs0],by simp[cs0],by simp[cs0]⟩ ⟨by simp[cs0],by simp[cs0],by simp[cs0],by simp[cs0],by simp[cs0]⟩ hg hp
 have hst:=cRead_steps h
 refine ⟨⟨by have:=k2.n;show s.n.length<256;omega,k1.n⟩,⟨by have:=k2.c;show s.c.length<256;omega,k1.c⟩,⟨by have:=k2.a;show s.a.length<256;omega,k1.a⟩,⟨by have:=k2.t;show s.t.length<256;omega,k1.t⟩,⟨by show (hitsN C C.length).length<17;rw[hitsN_len];omega,hitsN_ok hst hg C.length (Nat.le_refl _)⟩,?_⟩
 have hne:C.isEmpty=false:=by cases C with | nil=>simp at h2|cons=>rfl
 have hg0:GL [⟨0,0,0,0⟩]:=by
  intro i hi
  simp at hi
  subst hi
  exact .inl rfl
 obtain ⟨r1,r2,r3⟩:=layR_good C s.q 6 0 0 [⟨0,0,0,0⟩] hg0 (by simp)
 have r4:=layR_gx C (nt:=s.t.length) k1.q 6 0 0 [⟨0,0,0,0⟩] h2 (by intro x hx;rw[List.mem_singleton.1 hx];exact .inl ⟨rfl,rfl,rfl,rfl⟩)
 have r5:=laid_short h3 h2 k1.ql
 have e1:(compM C s).code=turnM (layR C s.q 6 0 0 [⟨0,0,0,0⟩]).2 (layR C s.q 6 0 0 [⟨0,0,0,0⟩]).1:=by
  show codeM C s.q=_
  unfold codeM
  rw[hne];rfl
 have e2:(compM C s).routes.length=C.length:=hitsN_len C C.length
 have e3:(compM C s).tests.length=s.t.length:=rfl
 rw[e1,e2,e3]
 obtain ⟨t1,t2⟩:=turnM_len r1 _ r2
 refine ⟨t1,by omega,fun j hj=>?_⟩
 have hk2:=k2.t
 have hs:=turnM_ok r1 r4 _ r2 j hj
 generalize hx:(turnM (layR C s.q 6 0 0 [⟨0,0,0,0⟩]).2 (layR C s.q 6 0 0 [⟨0,0,0,0⟩]).1)[j]=x at hs ⊢
 clear hx
 generalize (turnM (layR C s.q 6 0 0 [⟨0,0,0,0⟩]).2 (layR C s.q 6 0 0 [⟨0,0,0,0⟩]).1).length=N at *
 have hs0:=hs
 unfold stands at hs
 split at hs
 ·rename_i e;simp at hs;exact ⟨hs0,by omega,by omega,by omega,by omega⟩
 ·rename_i e;simp at hs;exact ⟨hs0,by omega,by omega,by omega,by omega⟩
 ·rename_i e;simp at hs;exact ⟨hs0,by omega,by omega,by omega,by omega⟩
 ·cases hs
open Go.RowKit
theorem bl_lt:∀ (x y:List UInt8),Op.bytesLess x y=decide (x<y):=by
 intro x
 induction x with
 | nil=>intro y;cases y<;>simp[Op.bytesLess]
 | cons a x ih =>
   intro y
   cases y with
   | nil=>simp[Op.bytesLess]
   | cons b y =>
     rw[Op.bytesLess,ih y,Bool.eq_iff_iff]
     simp only[List.cons_lt_cons_iff,Bool.or_eq_true,Bool.and_eq_true,decide_eq_true_eq,beq_iff_eq]
def ins(n:List UInt8):List (List UInt8)→List (List UInt8)
 | []=>[n]
 | x::L=>if n<x then n::x::L else x::ins n L
theorem ins_mem(n:List UInt8):∀ (A:List (List UInt8)) (x:List UInt8),x∈ins n A→x=n∨x∈A
 | [],x,h=>by simp[ins]at h;exact .inl h
 | y::A,x,h=>by
   unfold ins at h
   by_cases hy:n<y
   ·rw[if_pos hy]at h
    rw[List.mem_cons]at h;exact h
   ·rw[if_neg hy]at h
    rw[List.mem_cons]at h
    rcases h with h|h
    ·exact .inr (by simp[h])
    ·rcases ins_mem n A x h with h|h
     ·exact .inl h
     ·exact .inr (by simp[h])
def Asc(A:List (List UInt8)):Prop:=A.Pairwise (fun x y=>x<y)
theorem tri(x y:List UInt8)(h1:¬ x<y)(h2:x≠y):y<x:=by
 have h3:y≤x:=List.not_lt.1 h1
 apply Classical.byContradiction
 intro h4
 exact h2 (List.le_antisymm (List.not_lt.1 h4) h3)
theorem ins_asc(n:List UInt8):∀ (A:List (List UInt8)),Asc A→n∉A→Asc (ins n A)
 | [],_,_=>by simp[ins,Asc]
 | x::A,h,hn=>by
   unfold Asc at h
   rw[List.pairwise_cons]at h
   unfold ins
   by_cases hx:n<x
   ·rw[if_pos hx]
    refine List.pairwise_cons.2 ⟨fun y hy=>?_,List.pairwise_cons.2 h⟩
    rw[List.mem_cons]at hy
    rcases hy with rfl|hy
    ·exact hx
    ·exact List.lt_trans hx (h.1 y hy)
   ·rw[if_neg hx]
    refine List.pairwise_cons.2 ⟨fun y hy=>?_,ins_asc n A h.2 (fun hm=>hn (by simp[hm]))⟩
    rcases ins_mem n A y hy with rfl|hy
    ·exact tri _ _ hx (fun e=>hn (by simp[e]))
    ·exact h.1 y hy
open Go.RowKit
theorem wnGo_true(n:List UInt8):∀ (L a:List (List UInt8)),wnGo n L (a,true)=(a++L,true)
 | [],a=>by simp[wnGo]
 | x::L,a=>by unfold wnGo;simp only[Bool.not_true,Bool.false_and];rw[if_neg (by simp),wnGo_true n L];simp
theorem wnGo_false(n:List UInt8):∀ (L a:List (List UInt8)),(if (wnGo n L (a,false)).2 then (wnGo n L (a,false)).1 else (wnGo n L (a,false)).1++[n])=a++ins n L
 | [],a=>by simp[wnGo,ins]
 | x::L,a=>by
   have e:wnGo n (x::L) (a,false)=wnGo n L (if n<x then (a++[n]++[x],true) else (a++[x],false)):=by
    conv=>lhs;unfold wnGo
    rw[bl_lt];simp
   rw[e]
   unfold ins
   by_cases h:n<x
   ·simp only[if_pos h];rw[wnGo_true];simp
   ·simp only[if_neg h]
    have:=wnGo_false n L (a++[x])
    rw[this];simp
theorem withN_ins(L:List (List UInt8))(n:List UInt8):withN L n=ins n L:=by
 have:=wnGo_false n L []
 unfold withN;rw[this];rfl
theorem rise_asc:∀ (L acc:List (List UInt8)),Asc acc→Asc (L.foldl rise1 acc)
 | [],acc,h=>h
 | n::L,acc,h=>by
   simp only[List.foldl_cons]
   refine rise_asc L _ ?_
   unfold rise1
   by_cases hc:acc.contains n=true
   ·rw[if_pos hc];exact h
   ·rw[if_neg hc,withN_ins]
    exact ins_asc n acc h (fun hm=>hc (by simpa using hm))
end Go.Proofs.YtjkialjoamgbgaaGreat
