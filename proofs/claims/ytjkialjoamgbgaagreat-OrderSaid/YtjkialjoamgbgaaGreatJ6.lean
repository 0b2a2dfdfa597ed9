import Derived.Test.YtjkialjoamgbgaaGreatJ5
import Derived.Deep.RegionLaw
import Derived.Great.BuildSlice
set_option linter.unusedVariables false
set_option linter.unusedSimpArgs false
set_option linter.unnecessarySimpa false
set_option maxRecDepth 100000
set_option maxHeartbeats 4000000
namespace Go.Proofs.YtjkialjoamgbgaaGreat
open Go.RowKit
theorem heap_new2d(w:World)(a b:Obj):((w.alloc a).alloc b).drew.heap[w.heap.size+1]?=some b:=by
 have:=heap_alloc_new (w.alloc a) b
 rw[← this];simp;rfl
theorem takeTests_any(b:Nat)(t:List UInt8)(i:Nat)(V:V6)(nn nc na:Nat)(w:World)(h:LD w b t i V)(hn:∃ a c,V.n=.slice a nn c)(hc:∃ a c,V.c=.slice a nc c)(ha:∃ a c,V.a=.slice a na c)(hnn:nn≤1000)(hnc:nc≤1000)(hna:na≤1000)(hV:V.t=.slice none 0 0) :
 Calls Tryz.prog 54 #[.pointer (some ⟨b,0,none⟩)] w fun e w'=>∃ (i':Nat) (ok:Bool) (v:Value) (x:List TstM),e=.returned (.bool ok)∧LD w' b t i' { V with t:=v }∧Frm [b] w w'∧PO ok (pTss nn nc na) (t.drop i) x (t.drop i')∧OW 103 3 w.heap.size w' v (tc x):=by
 have N1:=hide (ltakeNumber_any b t i V 1 0 256 1 0 255 w h (by omega) (by omega) (by omega) rfl rfl rfl)
 have hb:=h.lt
 have HV:=hide hV
 clear h hV
 go_enter Tryz.func54,Tryz.ntmps54
 go_wp2_with fail
 refine (N1.out).mono ?_
 rintro e w1 ⟨i1,v,ok,rfl,hL1,hF1,hP1,hv⟩
 have L1:=hide hL1
 have F1:=hide hF1
 have P1:=hide hP1
 clear hL1 hF1 hP1 N1
 have hz1:=F1.out.size
 go_wp2_with fail
 go_loopg [4,5] v (fun k v4 v5 wr=>∃ (j i':Nat) (acc:List TstM) (vr:Value) (okb:Bool),j+k=v∧v5=.int .i64 j∧v4=.bool okb∧OW 103 3 w.heap.size wr vr (tc acc)∧LD wr b t i' { V with t:=vr }∧Frm [b] w wr∧acc.length≤j ∧
  Hid ((okb=true∧v<256∧pR (fun _=>pTs nn nc na) (v-j) acc (t.drop i')=pTss nn nc na (t.drop i))∨(okb=false∧pTss nn nc na (t.drop i)=none)))
 case atStart =>
  refine ⟨0,i1,[], .slice none 0 0,ok,by omega,rfl,rfl,OW.nil _ _ _ _,?_,F1.out,by simp,?_⟩
  ·have:=L1.out;rw[← HV.out];exact this
  rcases P1.out with ⟨h1,h2⟩|⟨h1,h2⟩
  ·exact .inl ⟨h1,(pN_some h2).2.2,by unfold pTss;rw[h2];rfl⟩
  ·exact .inr ⟨h1,by unfold pTss;rw[h2];rfl⟩
 case round =>
  obtain ⟨j,i2,acc,vr,okb,hjk,rfl,rfl,hO,hL,hF,hal,HR⟩:=hrel
  obtain ⟨ao,co,he⟩:=hO.shape
  rw[tc_len]at he
  subst he
  have O:=hide hO
  have L:=hide hL
  have F:=hide hF
  have hz:=hF.size
  clear hO hL hF
  cases okb with
  | false =>
    have HP:Hid (pTss nn nc na (t.drop i)=none):=by
     rcases HR.out with ⟨h,_⟩|⟨_,h⟩
     ·cases h
     ·exact h
    clear HR
    go_wp2
    go_ret
    exact ⟨i2,false,_,acc,rfl,L.out,F.out, .inr ⟨rfl,HP.out⟩,O.out⟩
  | true =>
    have HP:Hid (v<256∧pR (fun _=>pTs nn nc na) (v-j) acc (t.drop i2)=pTss nn nc na (t.drop i)):=by
     rcases HR.out with ⟨_,h⟩|⟨h,_⟩
     ·exact h
     ·cases h
    clear HR
    by_cases hlt:j<v
    ·have hd1:decide ((j:Int)<(v:Int))=true:=decide_eq_true (by omega)
     have N2:=hide (takeTest_any b t i2 _ nn nc na wr L.out hn hc ha hnn hnc hna)
     go_wp2_with fail
     refine (N2.out).mono ?_
     rintro e w2 ⟨i3,ok2,x,rfl,hL2,hF2,hP2⟩
     have L2:=hide hL2
     have F2:=hide hF2
     have O2:=hide (O.out.frm (hF2) (by intro g hg;simp at hg;omega))
     have HP2:Hid ((ok2=true∧v<256∧pR (fun _=>pTs nn nc na) (v-(j+1)) (acc++[x]) (t.drop i3)=pTss nn nc na (t.drop i))∨(ok2=false∧pTss nn nc na (t.drop i)=none)):=by
      have h:=HP.out
      rw[show v-j=(v-(j+1))+1 by omega]at h
      rcases hP2 with ⟨h1,h2⟩|⟨h1,h2⟩
      ·refine .inl ⟨h1,h.1,?_⟩
       rw[← h.2,pR_succ,h2];rfl
      ·refine .inr ⟨h1,?_⟩
       rw[← h.2,pR_succ,h2];rfl
     have hz2:=hF2.size
     have hvh:=HP.out.1
     have c:=hL2.ct
     have z:=hL2.fz 5
     have hb2:=hL2.lt
     have hob:∀ r,Value.ownBlock (.slice ao acc.length co)=some r→w.heap.size≤r:=fun r hr=>(O2.out.lt hr).1
     have HOB:=hide hob
     have hl:=tc_len acc
     have HTC:=hide (tc_len acc)
     have g2:∀ o o':Obj,((w2.alloc o).alloc o').drew.frozen? ⟨b,5,none⟩=false:=fun o o'=>(((((Frm.refl [] w2).alloc o).alloc o').drew).frozen hb2 (by simp)).trans z
     have g1:∀ o:Obj,(w2.alloc o).drew.frozen? ⟨b,5,none⟩=false:=fun o=>((((Frm.refl [] w2).alloc o).drew).frozen hb2 (by simp)).trans z
     have ag:Value.ownBlock (.slice ao acc.length co)≠some b:=fun e=>by have:=HOB.out _ e;omega
     clear hL2 hF2 hP2 HP N2 L O hob hl
     obtain ⟨x1,x2,x3⟩:=x
     simp only[tcell]
     go_wp2_with fail
     go_region_law ((refine step_appG _ (by rfl) _ _ 55 103 _ 3 24 infoTest Tryz.underlying55 (by rfl) (by omega) (by rfl) w.heap.size (.slice ao acc.length co) (tc acc) (w2.heap.size+1) (tcell ⟨x1,x2,x3⟩) (0,0) (by rfl) (O2.out.frm (S:=[]) ((((Frm.refl [] _).alloc _).alloc _).drew) (by simp)) (by rfl) (by rfl) (by exact heap_new2d _ _ _) (tcell_one _) (by rw[HTC.out];omega) (by rw[HTC.out];omega) (by simp;omega) (w2.heap.size+2) (by simp) ?_;intro gg cap2 w4 hown4 hgrow hat hlt4;have c4:=(hgrow.cell_far ⟨b,5,none⟩ (by simp;omega) (Ne.symm ag));have f4:=(hgrow.frozen_far ⟨b,5,none⟩ (by simp;omega) (Ne.symm ag));have f5:=f4.trans (g2 _ _);rw[HTC.out]at hown4 ⊢))
     all_goals
      have G4:=hide hgrow
      have O4:=hide hown4
      clear hgrow hown4
      go_wp2
      go_roundg (gk-1)
      case measure=>omega
      case rel =>
       have L4:=(L2.out.frm (S:=[]) ((((Frm.refl [] _).alloc _).alloc _).drew) (by simp)).grown G4.out (fun r hr=>by have:=HOB.out r hr;omega)
       have O5:=O4.out
       rw[tc_snoc]at O5
       refine ⟨j+1,i3,acc++[(⟨x1,x2,x3⟩:TstM)],_,ok2,by omega,by go_num,rfl,O5.frm (S:=[b]) ((Frm.refl [b] _).setCell (p:=⟨b,5,none⟩) (.inl (by simp)) _) (by simp;omega),L4.setT _,(((((F.out.trans F2.out).alloc _).alloc _).drew).grown G4.out (fun r hr=>.inr (HOB.out r hr))).setCell (p:=⟨b,5,none⟩) (.inl (by simp)) _,by simp;omega,HP2⟩
    ·have hjv:j=v:=by omega
     have hd1:decide ((j:Int)<(v:Int))=false:=decide_eq_false (by omega)
     have HP2:Hid (pTss nn nc na (t.drop i)=some (acc,t.drop i2)):=by
      have h:=HP.out.2
      rw[hjv,Nat.sub_self]at h
      exact h.symm
     clear HP
     subst hjv
     go_wp2
     go_ret
     exact ⟨i2,true,_,acc,rfl,L.out,F.out, .inl ⟨rfl,HP2.out⟩,O.out⟩
open Go.RowKit
def AutsQ(A:List Nat)(w:World)(b:Nat)(t:List UInt8)(i:Nat)(V:V6)(e:Ending)(w':World):Prop :=
 ∃ (i':Nat) (ok:Bool) (v:Value) (x:List AutM) (css:List (Array Value)),e=.returned (.bool ok)∧LD w' b t i' { V with a:=v }∧Frm [b] w w'∧PO ok pAs (t.drop i) x (t.drop i')∧OW 124 259 w.heap.size w' v (lst css)∧(ok=true→RowI autI ((b::A)++v.ownBlock.toList) w' css x)
theorem takeAutomata_any(b:Nat)(t:List UInt8)(i:Nat)(V:V6)(w:World)(h:LD w b t i V)(hV:V.a=.slice none 0 0)(A:List Nat)(hA:∀ g∈A,g<w.heap.size) :
 Calls Tryz.prog 53 #[.pointer (some ⟨b,0,none⟩)] w (AutsQ A w b t i V):=by
 have N1:=hide (ltakeNumber_any b t i V 1 0 256 1 0 255 w h (by omega) (by omega) (by omega) rfl rfl rfl)
 have hb:=h.lt
 have HV:=hide hV
 clear h hV
 go_enter Tryz.func53,Tryz.ntmps53
 go_wp2_with fail
 refine (N1.out).mono ?_
 rintro e w1 ⟨i1,v,ok,rfl,hL1,hF1,hP1,hv⟩
 have L1:=hide hL1
 have F1:=hide hF1
 have P1:=hide hP1
 clear hL1 hF1 hP1 N1
 have hz1:=F1.out.size
 go_wp2_with fail
 go_loopg [4,5] v (fun k v4 v5 wr=>∃ (j i':Nat) (acc:List AutM) (css:List (Array Value)) (vr:Value) (okb:Bool),j+k=v∧v5=.int .i64 j∧v4=.bool okb∧OW 124 259 w.heap.size wr vr (lst css)∧LD wr b t i' { V with a:=vr }∧Frm [b] w wr∧css.length≤j∧(okb=true→RowI autI ((b::A)++vr.ownBlock.toList) wr css acc) ∧
  Hid ((okb=true∧v<256∧pR (fun _=>pA) (v-j) acc (t.drop i')=pAs (t.drop i))∨(okb=false∧pAs (t.drop i)=none)))
 case atStart =>
  refine ⟨0,i1,[],[], .slice none 0 0,ok,by omega,rfl,rfl,OW.nil _ _ _ _,?_,F1.out,by simp,fun _=>RowI.nil _ _ _,?_⟩
  ·have:=L1.out;rw[← HV.out];exact this
  rcases P1.out with ⟨h1,h2⟩|⟨h1,h2⟩
  ·exact .inl ⟨h1,(pN_some h2).2.2,by unfold pAs;rw[h2];rfl⟩
  ·exact .inr ⟨h1,by unfold pAs;rw[h2];rfl⟩
 case round =>
  obtain ⟨j,i2,acc,css,vr,okb,hjk,rfl,rfl,hO,hL,hF,hal,hI,HR⟩:=hrel
  obtain ⟨ao,co,he⟩:=hO.shape
  rw[lst_len]at he
  subst he
  have O:=hide hO
  have L:=hide hL
  have F:=hide hF
  have hz:=hF.size
  have I:=hide hI
  clear hO hL hF hI
  cases okb with
  | false =>
    have HP:Hid (pAs (t.drop i)=none):=by
     rcases HR.out with ⟨h,_⟩|⟨_,h⟩
     ·cases h
     ·exact h
    clear HR
    go_wp2
    go_ret
    exact ⟨i2,false,_,acc,css,rfl,L.out,F.out, .inr ⟨rfl,HP.out⟩,O.out,fun h=>by cases h⟩
  | true =>
    have HP:Hid (v<256∧pR (fun _=>pA) (v-j) acc (t.drop i2)=pAs (t.drop i)):=by
     rcases HR.out with ⟨_,h⟩|⟨h,_⟩
     ·exact h
     ·cases h
    clear HR
    by_cases hlt:j<v
    ·have hd1:decide ((j:Int)<(v:Int))=true:=decide_eq_true (by omega)
     have N2:=hide (takeAutomaton_any b t i2 _ wr L.out)
     go_wp2_with fail
     refine (N2.out).mono ?_
     rintro e w2 ⟨i3,ok2,cs,x,rfl,hL2,hF2,hP2,hcs,hall,hrw⟩
     have L2:=hide hL2
     have F2:=hide hF2
     have O2:=hide (O.out.frm (hF2) (by intro g hg;simp at hg;omega))
     have HP2:Hid ((ok2=true∧v<256∧pR (fun _=>pA) (v-(j+1)) (acc++[x]) (t.drop i3)=pAs (t.drop i))∨(ok2=false∧pAs (t.drop i)=none)):=by
      have h:=HP.out
      rw[show v-j=(v-(j+1))+1 by omega]at h
      rcases hP2 with ⟨h1,h2⟩|⟨h1,h2⟩
      ·refine .inl ⟨h1,h.1,?_⟩
       rw[← h.2,pR_succ,h2];rfl
      ·refine .inr ⟨h1,?_⟩
       rw[← h.2,pR_succ,h2];rfl
     have hz2:=hF2.size
     have hvh:=HP.out.1
     have c:=hL2.ca
     have z:=hL2.fz 4
     have hb2:=hL2.lt
     have hob:∀ r,Value.ownBlock (.slice ao css.length co)=some r→w.heap.size≤r:=fun r hr=>(O2.out.lt hr).1
     have HOB:=hide hob
     have HTC:=hide (lst_len css)
     have hzr:=O.out
     have I2:Hid (ok2=true→RowI autI ((b::A)++(Value.ownBlock (.slice ao css.length co)).toList) w2 (css++[cs]) (acc++[x])):=fun h=>by
      refine RowI.snoc ((I.out (by simp)).frm hF2 (by simp)) ?_
      obtain ⟨va,vn,e1,o1,o2⟩:=hrw h
      have hne:∀ v e k vs,OW e k wr.heap.size w2 v vs→∀ g,v.ownBlock=some g→g∉(b::A)++(Value.ownBlock (.slice ao css.length co)).toList:=by
       intro v e k vs ho g hg hm
       have h1:=(ho.lt hg).1
       simp at hm
       rcases hm with hm|hm|hm
       ·omega
       ·have:=hA g hm;omega
       ·have:=(O.out.lt hm).2;omega
      exact ⟨va,vn,e1,o1.rw (hne _ _ _ _ o1),o2.rw (hne _ _ _ _ o2)⟩
     have ag:Value.ownBlock (.slice ao css.length co)≠some b:=fun e=>by have:=HOB.out _ e;omega
     obtain ⟨W3,hst,hfr3,hh3,hz3⟩:∃ W3,(storeCells ⟨w2.heap.size,0,none⟩ cs.toList).run Tryz.prog (w2.alloc (Obj.cells Tryz.zeroCells124 124))=.ok () W3∧Hid (Frm [] w2 W3)∧Hid (W3.heap[w2.heap.size]?=some (.cells cs 124 (0,0)))∧W3.heap.size=w2.heap.size+1:=by
      have hh:(w2.alloc (Obj.cells Tryz.zeroCells124 124)).heap[w2.heap.size]?=some (.cells Tryz.zeroCells124 124 (0,0)):=heap1 _ _
      exact ⟨_,store_row hh (by rw[hcs,autoZero9]) hall,((Frm.refl [] w2).alloc _).over (Frm.setRow _ _ _) (by simp),setRow_at hh,by simp[World.setRow]⟩
     have HCS:=hide hcs
     have HALL:=hide hall
     clear hL2 hF2 hP2 HP N2 L O hob hcs hall hrw hzr I
     have c3:W3.cell? ⟨b,4,none⟩=some (.slice ao css.length co):=(hfr3.out.cell (p:=⟨b,4,none⟩) hb2 (by simp)).trans c
     have z3:W3.frozen? ⟨b,4,none⟩=false:=(hfr3.out.frozen (p:=⟨b,4,none⟩) hb2 (by simp)).trans z
     have O3:=hide (O2.out.frm (S:=[]) hfr3.out (by simp))
     have hbz:b<W3.heap.size:=by omega
     have g2:∀ o:Obj,(W3.drew.alloc o).frozen? ⟨b,4,none⟩=false:=fun o=>((((Frm.refl [] W3).drew).alloc o).frozen hbz (by simp)).trans z3
     have hzW:w.heap.size≤W3.heap.size:=by omega
     clear hz3
     go_wp2_with fail
     clear hst
     refine wp_region_any (by kernel_rfl) ?_
     change wpAny _ _ _ _ _ _ _ (World.drew _)
     refine wpAny_take (i:=0) (v:=?v0) rfl (by kernel_rfl) (by kernel_rfl) (by kernel_rfl) (fun _ _ _ h=>h) (Or.inl ⟨by rfl,?h0⟩) ?_
     case h0=>intro w;go_simp;with_reducible rfl
     refine wpAny_take (i:=1) (v:=?v1) rfl (by kernel_rfl) (by kernel_rfl) (by kernel_rfl) (fun _ _ _ h=>h) (Or.inl ⟨by rfl,?h1⟩) ?_
     case h1=>intro w;go_simp;with_reducible rfl
     refine wpAny_take (i:=2) (v:=?v2) rfl (by kernel_rfl) (by kernel_rfl) (by kernel_rfl) (fun _ _ _ h=>h) (Or.inl ⟨by rfl,?h2⟩) ?_
     case h2=>intro w;go_simp;with_reducible rfl
     refine wpAny_take (i:=3) (v:=?v3) rfl (by kernel_rfl) (by kernel_rfl) (by kernel_rfl) (fun _ _ _ h=>h) (Or.inl ⟨by rfl,?h3⟩) ?_
     case h3=>intro w;go_simp;with_reducible rfl
     refine wpAny_take (i:=4) (v:=?v4) rfl (by kernel_rfl) (by kernel_rfl) (by kernel_rfl) (fun _ _ _ h=>h) (Or.inl ⟨by rfl,?h4⟩) ?_
     case h4=>intro w;go_simp;with_reducible rfl
     refine wpAny_ready (rs:=[5,6]) (by kernel_rfl) (by simp) ?_
     refine AllReady.cons rfl (fun K hK=>?_) (AllReady.cons rfl (fun K hK=>?_) AllReady.nil)
     ·go_simp
      refine hK _ _ ?_
      clear hK K
      refine wpAny_ready (rs:=[6]) (by kernel_rfl) (by simp) ?_
      refine AllReady.cons rfl (fun K hK=>?_) AllReady.nil
      refine step_autoLoad _ (by rfl) _ (by rfl) w2.heap.size (by rfl) cs (autoLoad hh3.out HCS.out) ?_
      refine hK _ _ ?_
      clear hK K
      refine wpAny_ready (rs:=[7]) (by kernel_rfl) (by simp) ?_
      refine AllReady.cons rfl (fun K hK=>?_) AllReady.nil
      refine step_autoBuild _ (by rfl) _ (by rfl) cs (by rfl) HCS.out ?_
      refine hK _ _ ?_
      clear hK K
      refine wpAny_ready (rs:=[8]) (by kernel_rfl) (by simp) ?_
      refine AllReady.cons rfl (fun K hK=>?_) AllReady.nil
      (refine step_appG _ (by rfl) _ _ 54 124 _ 259 312 infoAut Tryz.underlying54 autoZero9 (by omega) (by rfl) w.heap.size (.slice ao css.length co) (lst css) W3.heap.size cs (0,0) (by rfl) (O3.out.frm (S:=[]) (((Frm.refl [] _).drew).alloc _) (by simp)) (by rfl) HCS.out (by exact heap1 _ _) HALL.out (by rw[HTC.out];omega) (by rw[HTC.out];omega) (by simp;omega) (W3.heap.size+1) (by simp) ?_;intro gg cap2 w4 hown4 hgrow hat hlt4;have c4:=(hgrow.cell_far ⟨b,4,none⟩ (by simp;omega) (Ne.symm ag));have f4:=(hgrow.frozen_far ⟨b,4,none⟩ (by simp;omega) (Ne.symm ag));have f5:=f4.trans (g2 _);rw[HTC.out]at hown4 ⊢)
      refine hK _ _ ?_
      clear hK K
      refine wpAny_take (i:=9) (v:=?v9) rfl (by kernel_rfl) (by kernel_rfl) (by kernel_rfl) (fun _ _ _ h=>h) (Or.inl ⟨by rfl,?h9⟩) ?_
      case h9=>intro w;go_simp;try with_reducible rfl
      refine wpAny_take (i:=10) (v:=?v10) rfl (by kernel_rfl) (by kernel_rfl) (by kernel_rfl) (fun _ _ _ h=>h) (Or.inl ⟨by rfl,?h10⟩) ?_
      case h10=>intro w;go_simp;try with_reducible rfl
      refine wpAny_take (i:=11) (v:=?v11) rfl (by kernel_rfl) (by kernel_rfl) (by kernel_rfl) (fun _ _ _ h=>h) (Or.inl ⟨by rfl,?h11⟩) ?_
      case h11=>intro w;go_simp;try with_reducible rfl
      refine wpAny_ready (rs:=[12]) (by kernel_rfl) (by simp) ?_
      refine AllReady.cons rfl (fun K hK=>?_) AllReady.nil
      go_simp
      refine hK _ _ ?_
      clear hK K
      refine wpAny_done (by kernel_rfl) ?_ _
      have G4:=hide hgrow
      have O4:=hide hown4
      clear hgrow hown4
      go_wp2
      go_roundg (gk-1)
      case measure=>omega
      case rel =>
       have F3:Frm [] w2 (W3.drew.alloc (Obj.cells cs 124)):=(hfr3.out.drew).alloc _
       have L4:=(L2.out.frm F3 (by simp)).grown G4.out (fun r hr=>by have:=HOB.out r hr;omega)
       have O5:=O4.out
       rw[lst_snoc]at O5
       have FB:∀ u,Frm [b] w4 (w4.setCell ⟨b,4,none⟩ u):=fun u=>(Frm.refl [b] _).setCell (p:=⟨b,4,none⟩) (.inl (by simp)) u
       refine ⟨j+1,i3,acc++[x],css++[cs],_,ok2,by omega,by go_num,rfl,O5.frm (FB _) (by simp;omega),L4.setA _,((((F.out.trans F2.out).trans (F3.mono (by simp)))).grown G4.out (fun r hr=>.inr (HOB.out r hr))).trans (FB _),by simp;omega,fun h=>?_,HP2⟩
       have R3:RowI autI ((b::A)++(Value.ownBlock (.slice ao css.length co)).toList) (W3.drew.alloc (Obj.cells cs 124)) (css++[cs]) (acc++[x]):=(I2.out h).frm F3 (by simp)
       have R4:=R3.app (g:=gg) G4.out (hat.imp id (fun h=>by rw[h];simp))
       exact R4.frm (FB _) (by simp)
     ·refine step_autoLoad _ (by rfl) _ (by rfl) w2.heap.size (by rfl) cs (autoLoad hh3.out HCS.out) ?_
      refine hK _ _ ?_
      clear hK K
      refine wpAny_ready (rs:=[5,7]) (by kernel_rfl) (by simp) ?_
      refine AllReady.cons rfl (fun K hK=>?_) (AllReady.cons rfl (fun K hK=>?_) AllReady.nil)
      ·go_simp
       refine hK _ _ ?_
       clear hK K
       refine wpAny_ready (rs:=[7]) (by kernel_rfl) (by simp) ?_
       refine AllReady.cons rfl (fun K hK=>?_) AllReady.nil
       refine step_autoBuild _ (by rfl) _ (by rfl) cs (by rfl) HCS.out ?_
       refine hK _ _ ?_
       clear hK K
       refine wpAny_ready (rs:=[8]) (by kernel_rfl) (by simp) ?_
       refine AllReady.cons rfl (fun K hK=>?_) AllReady.nil
       (refine step_appG _ (by rfl) _ _ 54 124 _ 259 312 infoAut Tryz.underlying54 autoZero9 (by omega) (by rfl) w.heap.size (.slice ao css.length co) (lst css) W3.heap.size cs (0,0) (by rfl) (O3.out.frm (S:=[]) (((Frm.refl [] _).drew).alloc _) (by simp)) (by rfl) HCS.out (by exact heap1 _ _) HALL.out (by rw[HTC.out];omega) (by rw[HTC.out];omega) (by simp;omega) (W3.heap.size+1) (by simp) ?_;intro gg cap2 w4 hown4 hgrow hat hlt4;have c4:=(hgrow.cell_far ⟨b,4,none⟩ (by simp;omega) (Ne.symm ag));have f4:=(hgrow.frozen_far ⟨b,4,none⟩ (by simp;omega) (Ne.symm ag));have f5:=f4.trans (g2 _);rw[HTC.out]at hown4 ⊢)
       refine hK _ _ ?_
       clear hK K
       refine wpAny_take (i:=9) (v:=?v9) rfl (by kernel_rfl) (by kernel_rfl) (by kernel_rfl) (fun _ _ _ h=>h) (Or.inl ⟨by rfl,?h9⟩) ?_
       case h9=>intro w;go_simp;try with_reducible rfl
       refine wpAny_take (i:=10) (v:=?v10) rfl (by kernel_rfl) (by kernel_rfl) (by kernel_rfl) (fun _ _ _ h=>h) (Or.inl ⟨by rfl,?h10⟩) ?_
       case h10=>intro w;go_simp;try with_reducible rfl
       refine wpAny_take (i:=11) (v:=?v11) rfl (by kernel_rfl) (by kernel_rfl) (by kernel_rfl) (fun _ _ _ h=>h) (Or.inl ⟨by rfl,?h11⟩) ?_
       case h11=>intro w;go_simp;try with_reducible rfl
       refine wpAny_ready (rs:=[12]) (by kernel_rfl) (by simp) ?_
       refine AllReady.cons rfl (fun K hK=>?_) AllReady.nil
       go_simp
       refine hK _ _ ?_
       clear hK K
       refine wpAny_done (by kernel_rfl) ?_ _
       have G4:=hide hgrow
       have O4:=hide hown4
       clear hgrow hown4
       go_wp2
       go_roundg (gk-1)
       case measure=>omega
       case rel =>
        have F3:Frm [] w2 (W3.drew.alloc (Obj.cells cs 124)):=(hfr3.out.drew).alloc _
        have L4:=(L2.out.frm F3 (by simp)).grown G4.out (fun r hr=>by have:=HOB.out r hr;omega)
        have O5:=O4.out
        rw[lst_snoc]at O5
        have FB:∀ u,Frm [b] w4 (w4.setCell ⟨b,4,none⟩ u):=fun u=>(Frm.refl [b] _).setCell (p:=⟨b,4,none⟩) (.inl (by simp)) u
        refine ⟨j+1,i3,acc++[x],css++[cs],_,ok2,by omega,by go_num,rfl,O5.frm (FB _) (by simp;omega),L4.setA _,((((F.out.trans F2.out).trans (F3.mono (by simp)))).grown G4.out (fun r hr=>.inr (HOB.out r hr))).trans (FB _),by simp;omega,fun h=>?_,HP2⟩
        have R3:RowI autI ((b::A)++(Value.ownBlock (.slice ao css.length co)).toList) (W3.drew.alloc (Obj.cells cs 124)) (css++[cs]) (acc++[x]):=(I2.out h).frm F3 (by simp)
        have R4:=R3.app (g:=gg) G4.out (hat.imp id (fun h=>by rw[h];simp))
        exact R4.frm (FB _) (by simp)
      ·refine step_autoBuild _ (by rfl) _ (by rfl) cs (by rfl) HCS.out ?_
       refine hK _ _ ?_
       clear hK K
       refine wpAny_ready (rs:=[5]) (by kernel_rfl) (by simp) ?_
       refine AllReady.cons rfl (fun K hK=>?_) AllReady.nil
       have c3a:(W3.drew.alloc (Obj.cells cs 124)).cell? ⟨b,4,none⟩=some (.slice ao css.length co):=((((Frm.refl [] W3).drew).alloc _).cell (p:=⟨b,4,none⟩) hbz (by simp)).trans c3
       go_simp
       refine hK _ _ ?_
       clear hK K
       refine wpAny_ready (rs:=[8]) (by kernel_rfl) (by simp) ?_
       refine AllReady.cons rfl (fun K hK=>?_) AllReady.nil
       (refine step_appG _ (by rfl) _ _ 54 124 _ 259 312 infoAut Tryz.underlying54 autoZero9 (by omega) (by rfl) w.heap.size (.slice ao css.length co) (lst css) W3.heap.size cs (0,0) (by rfl) (O3.out.frm (S:=[]) (((Frm.refl [] _).drew).alloc _) (by simp)) (by rfl) HCS.out (by exact heap1 _ _) HALL.out (by rw[HTC.out];omega) (by rw[HTC.out];omega) (by simp;omega) (W3.heap.size+1) (by simp) ?_;intro gg cap2 w4 hown4 hgrow hat hlt4;have c4:=(hgrow.cell_far ⟨b,4,none⟩ (by simp;omega) (Ne.symm ag));have f4:=(hgrow.frozen_far ⟨b,4,none⟩ (by simp;omega) (Ne.symm ag));have f5:=f4.trans (g2 _);rw[HTC.out]at hown4 ⊢)
       refine hK _ _ ?_
       clear hK K
       refine wpAny_take (i:=9) (v:=?v9) rfl (by kernel_rfl) (by kernel_rfl) (by kernel_rfl) (fun _ _ _ h=>h) (Or.inl ⟨by rfl,?h9⟩) ?_
       case h9=>intro w;go_simp;try with_reducible rfl
       refine wpAny_take (i:=10) (v:=?v10) rfl (by kernel_rfl) (by kernel_rfl) (by kernel_rfl) (fun _ _ _ h=>h) (Or.inl ⟨by rfl,?h10⟩) ?_
       case h10=>intro w;go_simp;try with_reducible rfl
       refine wpAny_take (i:=11) (v:=?v11) rfl (by kernel_rfl) (by kernel_rfl) (by kernel_rfl) (fun _ _ _ h=>h) (Or.inl ⟨by rfl,?h11⟩) ?_
       case h11=>intro w;go_simp;try with_reducible rfl
       refine wpAny_ready (rs:=[12]) (by kernel_rfl) (by simp) ?_
       refine AllReady.cons rfl (fun K hK=>?_) AllReady.nil
       go_simp
       refine hK _ _ ?_
       clear hK K
       refine wpAny_done (by kernel_rfl) ?_ _
       have G4:=hide hgrow
       have O4:=hide hown4
       clear hgrow hown4
       go_wp2
       go_roundg (gk-1)
       case measure=>omega
       case rel =>
        have F3:Frm [] w2 (W3.drew.alloc (Obj.cells cs 124)):=(hfr3.out.drew).alloc _
        have L4:=(L2.out.frm F3 (by simp)).grown G4.out (fun r hr=>by have:=HOB.out r hr;omega)
        have O5:=O4.out
        rw[lst_snoc]at O5
        have FB:∀ u,Frm [b] w4 (w4.setCell ⟨b,4,none⟩ u):=fun u=>(Frm.refl [b] _).setCell (p:=⟨b,4,none⟩) (.inl (by simp)) u
        refine ⟨j+1,i3,acc++[x],css++[cs],_,ok2,by omega,by go_num,rfl,O5.frm (FB _) (by simp;omega),L4.setA _,((((F.out.trans F2.out).trans (F3.mono (by simp)))).grown G4.out (fun r hr=>.inr (HOB.out r hr))).trans (FB _),by simp;omega,fun h=>?_,HP2⟩
        have R3:RowI autI ((b::A)++(Value.ownBlock (.slice ao css.length co)).toList) (W3.drew.alloc (Obj.cells cs 124)) (css++[cs]) (acc++[x]):=(I2.out h).frm F3 (by simp)
        have R4:=R3.app (g:=gg) G4.out (hat.imp id (fun h=>by rw[h];simp))
        exact R4.frm (FB _) (by simp)
    ·have hjv:j=v:=by omega
     have hd1:decide ((j:Int)<(v:Int))=false:=decide_eq_false (by omega)
     have HP2:Hid (pAs (t.drop i)=some (acc,t.drop i2)):=by
      have h:=HP.out.2
      rw[hjv,Nat.sub_self]at h
      exact h.symm
     clear HP
     subst hjv
     go_wp2
     go_ret
     exact ⟨i2,true,_,acc,css,rfl,L.out,F.out, .inl ⟨rfl,HP2.out⟩,O.out,fun _=>I.out (by simp)⟩
end Go.Proofs.YtjkialjoamgbgaaGreat
