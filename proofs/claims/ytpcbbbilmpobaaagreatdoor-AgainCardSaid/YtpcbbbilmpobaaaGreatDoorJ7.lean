import Derived.Test.YtpcbbbilmpobaaaGreatDoorJ6
import Derived.Great.BuildSlice
import Derived.Deep.RegionLaw
set_option linter.unusedVariables false
set_option linter.unusedSimpArgs false
set_option linter.unnecessarySimpa false
set_option maxRecDepth 100000
set_option maxHeartbeats 4000000
namespace Go.Proofs.YtpcbbbilmpobaaaGreatDoor
open Go.RowKit
def AutsQ(A:List Nat)(w:World)(b:Nat)(t:List UInt8)(i:Nat)(V:V6)(e:Ending)(w':World):Prop :=
 ∃ (i':Nat) (ok:Bool) (v:Value) (x:List AutM) (css:List (Array Value)),e=.returned (.bool ok)∧LD w' b t i' { V with a:=v }∧Frm [b] w w'∧PO ok pAs (t.drop i) x (t.drop i')∧OW 95 259 w.heap.size w' v (lst css)∧(ok=true→RowI autI ((b::A)++v.ownBlock.toList) w' css x)
theorem takeAutomata_any(b:Nat)(t:List UInt8)(i:Nat)(V:V6)(w:World)(h:LD w b t i V)(hV:V.a=.slice none 0 0)(A:List Nat)(hA:∀ g∈A,g<w.heap.size) :
 Calls Tryz.prog 35 #[.pointer (some ⟨b,0,none⟩)] w (AutsQ A w b t i V):=by
 have N1:=hide (ltakeNumber_any b t i V 1 0 256 1 0 255 w h (by omega) (by omega) (by omega) rfl rfl rfl);have hb:=h.lt;have HV:=hide hV;clear h hV;go_enter Tryz.func35,Tryz.ntmps35
 go_wp2_with fail
 refine (N1.out).mono ?_;rintro e w1 ⟨i1,v,ok,rfl,hL1,hF1,hP1,hv⟩;have L1:=hide hL1;have F1:=hide hF1;have P1:=hide hP1;clear hL1 hF1 hP1 N1;have hz1:=F1.out.size;go_wp2_with fail
 go_loopg [4,5] v (fun k v4 v5 wr=>∃ (j i':Nat) (acc:List AutM) (css:List (Array Value)) (vr:Value) (okb:Bool),j+k=v∧v5=.int .i64 j∧v4=.bool okb∧OW 95 259 w.heap.size wr vr (lst css)∧LD wr b t i' { V with a:=vr }∧Frm [b] w wr∧css.length≤j∧(okb=true→RowI autI ((b::A)++vr.ownBlock.toList) wr css acc) ∧
  Hid ((okb=true∧v<256∧pR (fun _=>pA) (v-j) acc (t.drop i')=pAs (t.drop i))∨(okb=false∧pAs (t.drop i)=none)))
 case atStart =>
  refine ⟨0,i1,[],[], .slice none 0 0,ok,by omega,rfl,rfl,OW.nil _ _ _ _,?_,F1.out,by simp,fun _=>RowI.nil _ _ _,?_⟩
  ·have:=L1.out;rw[← HV.out];exact this
  rcases P1.out with ⟨h1,h2⟩|⟨h1,h2⟩
  ·exact .inl ⟨h1,(pN_some h2).2.2,by unfold pAs;rw[h2];rfl⟩
  ·exact .inr ⟨h1,by unfold pAs;rw[h2];rfl⟩
 case round =>
  obtain ⟨j,i2,acc,css,vr,okb,hjk,rfl,rfl,hO,hL,hF,hal,hI,HR⟩:=hrel;obtain ⟨ao,co,he⟩:=hO.shape;rw[lst_len]at he;subst he;have O:=hide hO;have L:=hide hL;have F:=hide hF;have hz:=hF.size;have I:=hide hI;clear hO hL hF hI;cases okb with
  | false =>
    have HP:Hid (pAs (t.drop i)=none):=by
     rcases HR.out with ⟨h,_⟩|⟨_,h⟩
     ·cases h
     ·exact h
    clear HR;go_wp2;go_ret;exact ⟨i2,false,_,acc,css,rfl,L.out,F.out, .inr ⟨rfl,HP.out⟩,O.out,fun h=>by cases h⟩
  | true =>
    have HP:Hid (v<256∧pR (fun _=>pA) (v-j) acc (t.drop i2)=pAs (t.drop i)):=by
     rcases HR.out with ⟨_,h⟩|⟨h,_⟩
     ·exact h
     ·cases h
    clear HR
    by_cases hlt:j<v
    ·have hd1:decide ((j:Int)<(v:Int))=true:=decide_eq_true (by omega)
     have N2:=hide (takeAutomaton_any b t i2 _ wr L.out);go_wp2_with fail
     refine (N2.out).mono ?_;rintro e w2 ⟨i3,ok2,cs,x,rfl,hL2,hF2,hP2,hcs,hall,hrw⟩;have L2:=hide hL2;have F2:=hide hF2;have O2:=hide (O.out.frm (hF2) (by intro g hg;simp at hg;omega));have HP2:Hid ((ok2=true∧v<256∧pR (fun _=>pA) (v-(j+1)) (acc++[x]) (t.drop i3)=pAs (t.drop i))∨(ok2=false∧pAs (t.drop i)=none)):=by
      have h:=HP.out;rw[show v-j=(v-(j+1))+1 by omega]at h;rcases hP2 with ⟨h1,h2⟩|⟨h1,h2⟩
      ·refine .inl ⟨h1,h.1,?_⟩
       rw[← h.2,pR_succ,h2];rfl
      ·refine .inr ⟨h1,?_⟩
       rw[← h.2,pR_succ,h2];rfl
     have hz2:=hF2.size;have hvh:=HP.out.1;have c:=hL2.ca;have z:=hL2.fz 4;have hb2:=hL2.lt;have hob:∀ r,Value.ownBlock (.slice ao css.length co)=some r→w.heap.size≤r:=fun r hr=>(O2.out.lt hr).1
     have HOB:=hide hob;have HTC:=hide (lst_len css);have hzr:=O.out;have I2:Hid (ok2=true→RowI autI ((b::A)++(Value.ownBlock (.slice ao css.length co)).toList) w2 (css++[cs]) (acc++[x])):=fun h=>by
      refine RowI.snoc ((I.out (by simp)).frm hF2 (by simp)) ?_;obtain ⟨va,vn,e1,o1,o2⟩:=hrw h;have hne:∀ v e k vs,OW e k wr.heap.size w2 v vs→∀ g,v.ownBlock=some g→g∉(b::A)++(Value.ownBlock (.slice ao css.length co)).toList:=by
       intro v e k vs ho g hg hm;have h1:=(ho.lt hg).1;simp at hm;rcases hm with hm|hm|hm
       ·omega
       ·have:=hA g hm;omega
       ·have:=(O.out.lt hm).2;omega
      exact ⟨va,vn,e1,o1.rw (hne _ _ _ _ o1),o2.rw (hne _ _ _ _ o2)⟩
     have ag:Value.ownBlock (.slice ao css.length co)≠some b:=fun e=>by have:=HOB.out _ e;omega
     obtain ⟨W3,hst,hfr3,hh3,hz3⟩:∃ W3,(storeCells ⟨w2.heap.size,0,none⟩ cs.toList).run Tryz.prog (w2.alloc (Obj.cells Tryz.zeroCells95 95))=.ok () W3∧Hid (Frm [] w2 W3)∧Hid (W3.heap[w2.heap.size]?=some (.cells cs 95 (0,0)))∧W3.heap.size=w2.heap.size+1:=by
      have hh:(w2.alloc (Obj.cells Tryz.zeroCells95 95)).heap[w2.heap.size]?=some (.cells Tryz.zeroCells95 95 (0,0)):=heap1 _ _;exact ⟨_,store_row hh (by rw[hcs,autoZero9]) hall,((Frm.refl [] w2).alloc _).over (Frm.setRow _ _ _) (by simp),setRow_at hh,by simp[World.setRow]⟩
     have HCS:=hide hcs;have HALL:=hide hall;clear hL2 hF2 hP2 HP N2 L O hob hcs hall hrw hzr I;have c3:W3.cell? ⟨b,4,none⟩=some (.slice ao css.length co):=(hfr3.out.cell (p:=⟨b,4,none⟩) hb2 (by simp)).trans c;have z3:W3.frozen? ⟨b,4,none⟩=false:=(hfr3.out.frozen (p:=⟨b,4,none⟩) hb2 (by simp)).trans z;have O3:=hide (O2.out.frm (S:=[]) hfr3.out (by simp));have hbz:b<W3.heap.size:=by omega
     have g2:∀ o:Obj,(W3.drew.alloc o).frozen? ⟨b,4,none⟩=false:=fun o=>((((Frm.refl [] W3).drew).alloc o).frozen hbz (by simp)).trans z3
     have hzW:w.heap.size≤W3.heap.size:=by omega
     clear hz3;go_wp2_with fail
     clear hst;refine wp_region_any (by kernel_rfl) ?_
     change wpAny _ _ _ _ _ _ _ (World.drew _)
     refine wpAny_take (i:=0) (v:=?v0) rfl (by kernel_rfl) (by kernel_rfl) (by kernel_rfl) (fun _ _ _ h=>h) (Or.inl ⟨by rfl,?h0⟩) ?_
     case h0=>intro w;go_simp;with_reducible rfl
     refine wpAny_take (i:=1) (v:=?v1) rfl (by kernel_rfl) (by kernel_rfl) (by kernel_rfl) (fun _ _ _ h=>h) (Or.inl ⟨by rfl,?h1⟩) ?_
     case h1=>intro w;go_simp;with_reducible rfl
     refine wpAny_take (i:=2) (v:=?v2) rfl (by kernel_rfl) (by kernel_rfl) (by kernel_rfl) (fun _ _ _ h=>h) (Or.inl ⟨by rfl,?h2⟩) ?_
     case h2=>intro w;go_simp;with_reducible rfl
     refine wpAny_take (i:=3) (v:=?v3) rfl (by kernel_rfl) (by kernel_rfl) (by kernel_rfl) (fun _ _ _ h=>h) (Or.inl ⟨by rfl,?h3⟩) ?_
     case h3=>intro w;go_simp;with_reducible rfl
     refine wpAny_take (i:=4) (v:=?v4) rfl (by kernel_rfl) (by kernel_rfl) (by kernel_rfl) (fun _ _ _ h=>h) (Or.inl ⟨by rfl,?h4⟩) ?_
     case h4=>intro w;go_simp;with_reducible rfl
     refine wpAny_ready (rs:=[5,6]) (by kernel_rfl) (by simp) ?_;refine AllReady.cons rfl (fun K hK=>?_) (AllReady.cons rfl (fun K hK=>?_) AllReady.nil)
     ·go_simp
      refine hK _ _ ?_;clear hK K;refine wpAny_ready (rs:=[6]) (by kernel_rfl) (by simp) ?_;refine AllReady.cons rfl (fun K hK=>?_) AllReady.nil;refine step_autoLoad _ (by rfl) _ (by rfl) w2.heap.size (by rfl) cs (autoLoad hh3.out HCS.out) ?_;refine hK _ _ ?_;clear hK K;refine wpAny_ready (rs:=[7]) (by kernel_rfl) (by simp) ?_;refine AllReady.cons rfl (fun K hK=>?_) AllReady.nil;refine step_autoBuild _ (by rfl) _ (by rfl) cs (by rfl) HCS.out ?_;refine hK _ _ ?_;clear hK K;refine wpAny_ready (rs:=[8]) (by kernel_rfl) (by simp) ?_;refine AllReady.cons rfl (fun K hK=>?_) AllReady.nil
      (refine step_appG _ (by rfl) _ _ 53 95 _ 259 312 infoAut Tryz.underlying53 autoZero9 (by omega) (by rfl) w.heap.size (.slice ao css.length co) (lst css) W3.heap.size cs (0,0) (by rfl) (O3.out.frm (S:=[]) (((Frm.refl [] _).drew).alloc _) (by simp)) (by rfl) HCS.out (by exact heap1 _ _) HALL.out (by rw[HTC.out];omega) (by rw[HTC.out];omega) (by simp;omega) (W3.heap.size+1) (by simp) ?_;intro gg cap2 w4 hown4 hgrow hat hlt4;have c4:=(hgrow.cell_far ⟨b,4,none⟩ (by simp;omega) (Ne.symm ag));have f4:=(hgrow.frozen_far ⟨b,4,none⟩ (by simp;omega) (Ne.symm ag));have f5:=f4.trans (g2 _);rw[HTC.out]at hown4 ⊢)
      refine hK _ _ ?_;clear hK K;refine wpAny_take (i:=9) (v:=?v9) rfl (by kernel_rfl) (by kernel_rfl) (by kernel_rfl) (fun _ _ _ h=>h) (Or.inl ⟨by rfl,?h9⟩) ?_
      case h9=>intro w;go_simp;try with_reducible rfl
      refine wpAny_take (i:=10) (v:=?v10) rfl (by kernel_rfl) (by kernel_rfl) (by kernel_rfl) (fun _ _ _ h=>h) (Or.inl ⟨by rfl,?h10⟩) ?_
      case h10=>intro w;go_simp;try with_reducible rfl
      refine wpAny_take (i:=11) (v:=?v11) rfl (by kernel_rfl) (by kernel_rfl) (by kernel_rfl) (fun _ _ _ h=>h) (Or.inl ⟨by rfl,?h11⟩) ?_
      case h11=>intro w;go_simp;try with_reducible rfl
      refine wpAny_ready (rs:=[12]) (by kernel_rfl) (by simp) ?_;refine AllReady.cons rfl (fun K hK=>?_) AllReady.nil;go_simp
      refine hK _ _ ?_;clear hK K;refine wpAny_done (by kernel_rfl) ?_ _;have G4:=hide hgrow;have O4:=hide hown4;clear hgrow hown4;go_wp2;go_roundg (gk-1)
      case measure=>omega
      case rel =>
       have F3:Frm [] w2 (W3.drew.alloc (Obj.cells cs 95)):=(hfr3.out.drew).alloc _;have L4:=(L2.out.frm F3 (by simp)).grown G4.out (fun r hr=>by have:=HOB.out r hr;omega);have O5:=O4.out;rw[lst_snoc]at O5;have FB:∀ u,Frm [b] w4 (w4.setCell ⟨b,4,none⟩ u):=fun u=>(Frm.refl [b] _).setCell (p:=⟨b,4,none⟩) (.inl (by simp)) u
       refine ⟨j+1,i3,acc++[x],css++[cs],_,ok2,by omega,by go_num,rfl,O5.frm (FB _) (by simp;omega),L4.setA _,((((F.out.trans F2.out).trans (F3.mono (by simp)))).grown G4.out (fun r hr=>.inr (HOB.out r hr))).trans (FB _),by simp;omega,fun h=>?_,HP2⟩;have R3:RowI autI ((b::A)++(Value.ownBlock (.slice ao css.length co)).toList) (W3.drew.alloc (Obj.cells cs 95)) (css++[cs]) (acc++[x]):=(I2.out h).frm F3 (by simp);have R4:=R3.app (g:=gg) G4.out (hat.imp id (fun h=>by rw[h];simp));exact R4.frm (FB _) (by simp)
     ·refine step_autoLoad _ (by rfl) _ (by rfl) w2.heap.size (by rfl) cs (autoLoad hh3.out HCS.out) ?_
      refine hK _ _ ?_;clear hK K;refine wpAny_ready (rs:=[5,7]) (by kernel_rfl) (by simp) ?_;refine AllReady.cons rfl (fun K hK=>?_) (AllReady.cons rfl (fun K hK=>?_) AllReady.nil)
      ·go_simp
       refine hK _ _ ?_;clear hK K;refine wpAny_ready (rs:=[7]) (by kernel_rfl) (by simp) ?_;refine AllReady.cons rfl (fun K hK=>?_) AllReady.nil;refine step_autoBuild _ (by rfl) _ (by rfl) cs (by rfl) HCS.out ?_;refine hK _ _ ?_;clear hK K;refine wpAny_ready (rs:=[8]) (by kernel_rfl) (by simp) ?_;refine AllReady.cons rfl (fun K hK=>?_) AllReady.nil
       (refine step_appG _ (by rfl) _ _ 53 95 _ 259 312 infoAut Tryz.underlying53 autoZero9 (by omega) (by rfl) w.heap.size (.slice ao css.length co) (lst css) W3.heap.size cs (0,0) (by rfl) (O3.out.frm (S:=[]) (((Frm.refl [] _).drew).alloc _) (by simp)) (by rfl) HCS.out (by exact heap1 _ _) HALL.out (by rw[HTC.out];omega) (by rw[HTC.out];omega) (by simp;omega) (W3.heap.size+1) (by simp) ?_;intro gg cap2 w4 hown4 hgrow hat hlt4;have c4:=(hgrow.cell_far ⟨b,4,none⟩ (by simp;omega) (Ne.symm ag));have f4:=(hgrow.frozen_far ⟨b,4,none⟩ (by simp;omega) (Ne.symm ag));have f5:=f4.trans (g2 _);rw[HTC.out]at hown4 ⊢)
       refine hK _ _ ?_;clear hK K;refine wpAny_take (i:=9) (v:=?v9) rfl (by kernel_rfl) (by kernel_rfl) (by kernel_rfl) (fun _ _ _ h=>h) (Or.inl ⟨by rfl,?h9⟩) ?_
       case h9=>intro w;go_simp;try with_reducible rfl
       refine wpAny_take (i:=10) (v:=?v10) rfl (by kernel_rfl) (by kernel_rfl) (by kernel_rfl) (fun _ _ _ h=>h) (Or.inl ⟨by rfl,?h10⟩) ?_
       case h10=>intro w;go_simp;try with_reducible rfl
       refine wpAny_take (i:=11) (v:=?v11) rfl (by kernel_rfl) (by kernel_rfl) (by kernel_rfl) (fun _ _ _ h=>h) (Or.inl ⟨by rfl,?h11⟩) ?_
       case h11=>intro w;go_simp;try with_reducible rfl
       refine wpAny_ready (rs:=[12]) (by kernel_rfl) (by simp) ?_;refine AllReady.cons rfl (fun K hK=>?_) AllReady.nil;go_simp
       refine hK _ _ ?_;clear hK K;refine wpAny_done (by kernel_rfl) ?_ _;have G4:=hide hgrow;have O4:=hide hown4;clear hgrow hown4;go_wp2;go_roundg (gk-1)
       case measure=>omega
       case rel =>
        have F3:Frm [] w2 (W3.drew.alloc (Obj.cells cs 95)):=(hfr3.out.drew).alloc _;have L4:=(L2.out.frm F3 (by simp)).grown G4.out (fun r hr=>by have:=HOB.out r hr;omega);have O5:=O4.out;rw[lst_snoc]at O5;have FB:∀ u,Frm [b] w4 (w4.setCell ⟨b,4,none⟩ u):=fun u=>(Frm.refl [b] _).setCell (p:=⟨b,4,none⟩) (.inl (by simp)) u
        refine ⟨j+1,i3,acc++[x],css++[cs],_,ok2,by omega,by go_num,rfl,O5.frm (FB _) (by simp;omega),L4.setA _,((((F.out.trans F2.out).trans (F3.mono (by simp)))).grown G4.out (fun r hr=>.inr (HOB.out r hr))).trans (FB _),by simp;omega,fun h=>?_,HP2⟩;have R3:RowI autI ((b::A)++(Value.ownBlock (.slice ao css.length co)).toList) (W3.drew.alloc (Obj.cells cs 95)) (css++[cs]) (acc++[x]):=(I2.out h).frm F3 (by simp);have R4:=R3.app (g:=gg) G4.out (hat.imp id (fun h=>by rw[h];simp));exact R4.frm (FB _) (by simp)
      ·refine step_autoBuild _ (by rfl) _ (by rfl) cs (by rfl) HCS.out ?_
       refine hK _ _ ?_;clear hK K;refine wpAny_ready (rs:=[5]) (by kernel_rfl) (by simp) ?_;refine AllReady.cons rfl (fun K hK=>?_) AllReady.nil;have c3a:(W3.drew.alloc (Obj.cells cs 95)).cell? ⟨b,4,none⟩=some (.slice ao css.length co):=((((Frm.refl [] W3).drew).alloc _).cell (p:=⟨b,4,none⟩) hbz (by simp)).trans c3;go_simp
       refine hK _ _ ?_;clear hK K;refine wpAny_ready (rs:=[8]) (by kernel_rfl) (by simp) ?_;refine AllReady.cons rfl (fun K hK=>?_) AllReady.nil
       (refine step_appG _ (by rfl) _ _ 53 95 _ 259 312 infoAut Tryz.underlying53 autoZero9 (by omega) (by rfl) w.heap.size (.slice ao css.length co) (lst css) W3.heap.size cs (0,0) (by rfl) (O3.out.frm (S:=[]) (((Frm.refl [] _).drew).alloc _) (by simp)) (by rfl) HCS.out (by exact heap1 _ _) HALL.out (by rw[HTC.out];omega) (by rw[HTC.out];omega) (by simp;omega) (W3.heap.size+1) (by simp) ?_;intro gg cap2 w4 hown4 hgrow hat hlt4;have c4:=(hgrow.cell_far ⟨b,4,none⟩ (by simp;omega) (Ne.symm ag));have f4:=(hgrow.frozen_far ⟨b,4,none⟩ (by simp;omega) (Ne.symm ag));have f5:=f4.trans (g2 _);rw[HTC.out]at hown4 ⊢)
       refine hK _ _ ?_;clear hK K;refine wpAny_take (i:=9) (v:=?v9) rfl (by kernel_rfl) (by kernel_rfl) (by kernel_rfl) (fun _ _ _ h=>h) (Or.inl ⟨by rfl,?h9⟩) ?_
       case h9=>intro w;go_simp;try with_reducible rfl
       refine wpAny_take (i:=10) (v:=?v10) rfl (by kernel_rfl) (by kernel_rfl) (by kernel_rfl) (fun _ _ _ h=>h) (Or.inl ⟨by rfl,?h10⟩) ?_
       case h10=>intro w;go_simp;try with_reducible rfl
       refine wpAny_take (i:=11) (v:=?v11) rfl (by kernel_rfl) (by kernel_rfl) (by kernel_rfl) (fun _ _ _ h=>h) (Or.inl ⟨by rfl,?h11⟩) ?_
       case h11=>intro w;go_simp;try with_reducible rfl
       refine wpAny_ready (rs:=[12]) (by kernel_rfl) (by simp) ?_;refine AllReady.cons rfl (fun K hK=>?_) AllReady.nil;go_simp
       refine hK _ _ ?_;clear hK K;refine wpAny_done (by kernel_rfl) ?_ _;have G4:=hide hgrow;have O4:=hide hown4;clear hgrow hown4;go_wp2;go_roundg (gk-1)
       case measure=>omega
       case rel =>
        have F3:Frm [] w2 (W3.drew.alloc (Obj.cells cs 95)):=(hfr3.out.drew).alloc _;have L4:=(L2.out.frm F3 (by simp)).grown G4.out (fun r hr=>by have:=HOB.out r hr;omega);have O5:=O4.out;rw[lst_snoc]at O5;have FB:∀ u,Frm [b] w4 (w4.setCell ⟨b,4,none⟩ u):=fun u=>(Frm.refl [b] _).setCell (p:=⟨b,4,none⟩) (.inl (by simp)) u
        refine ⟨j+1,i3,acc++[x],css++[cs],_,ok2,by omega,by go_num,rfl,O5.frm (FB _) (by simp;omega),L4.setA _,((((F.out.trans F2.out).trans (F3.mono (by simp)))).grown G4.out (fun r hr=>.inr (HOB.out r hr))).trans (FB _),by simp;omega,fun h=>?_,HP2⟩;have R3:RowI autI ((b::A)++(Value.ownBlock (.slice ao css.length co)).toList) (W3.drew.alloc (Obj.cells cs 95)) (css++[cs]) (acc++[x]):=(I2.out h).frm F3 (by simp);have R4:=R3.app (g:=gg) G4.out (hat.imp id (fun h=>by rw[h];simp));exact R4.frm (FB _) (by simp)
    ·have hjv:j=v:=by omega
     have hd1:decide ((j:Int)<(v:Int))=false:=decide_eq_false (by omega);have HP2:Hid (pAs (t.drop i)=some (acc,t.drop i2)):=by
      have h:=HP.out.2;rw[hjv,Nat.sub_self]at h;exact h.symm
     clear HP;subst hjv;go_wp2;go_ret;exact ⟨i2,true,_,acc,css,rfl,L.out,F.out, .inl ⟨rfl,HP2.out⟩,O.out,fun _=>I.out (by simp)⟩
theorem isRising_any(A:List Nat)(v:Value)(L:List (List UInt8))(w:World)(h:RW A 1 w v (sc L))(hL:L.length≤1000) :
 Calls Tryz.prog 78 #[v] w fun e w'=>e=.returned (.bool (risB L))∧Frm [] w w':=by
 obtain ⟨a,cap,rfl,h1⟩:=h.str;have H1:=hide h1;have hl:=bs_toList;clear h h1;go_enter Tryz.func78,Tryz.ntmps78
 go_wp2_with fail
 go_loopg [3] L.length (fun k v3 wr=>∃ (j m q:Nat),m+1=j∧L.length+1≤j+k∧v3=.int .i64 j∧wr=w.drewN q∧Hid (risB (L.drop m)=risB L))
 case atStart=>exact ⟨1,0,0,rfl,by omega,rfl,rfl,rfl⟩
 case round =>
  obtain ⟨j,m,q,hmj,hjk,rfl,hw,HR⟩:=hrel;subst hw
  by_cases hlt:j<L.length
  ·have hd1:decide ((j:Int)<(L.length:Int))=true:=decide_eq_true (by omega)
   obtain ⟨g,off,e1,hg,hc1⟩:=H1.out m (by omega);subst e1;obtain ⟨g2,off2,e2,hg2,hc2⟩:=H1.out j hlt;simp only[Option.some.injEq,Addr.mk.injEq,and_true]at e2;obtain ⟨rfl,rfl⟩:=e2;have HD:Hid (risB (L.drop m)=(Op.bytesLess (L[m]'(by omega)) L[j]&&risB (L.drop j))):=by
    show _=_;subst hmj;rw[List.drop_eq_getElem_cons (by omega:m<L.length),List.drop_eq_getElem_cons hlt,risB]
   have hjm:(j:Int)-1=(m:Int):=by omega
   have HMJ:=hide hmj;generalize L[m]'(by omega)=x at *;generalize L[j]=y at *;clear hmj;cases hb:Op.bytesLess x y
   ·have HV:Hid (risB L=false):=by show _=_;rw[← HR.out,HD.out,hb];rfl
    clear HD HR;go_wp2_with fail
    go_quiet (fail)
    go_wp2;go_ret;rw[HV.out];exact ⟨rfl,((Frm.refl _ _).drewN _).drewN _⟩
   ·have HV:Hid (risB (L.drop j)=risB L):=by show _=_;rw[← HR.out,HD.out,hb];rfl
    clear HD HR;go_wp2_with fail
    go_quiet (fail)
    go_wp2;go_roundg (gk-1)
    case measure=>omega
    case rel=>exact ⟨j+1,j,_,rfl,by omega,by go_num,rfl,HV⟩
  ·have hd1:decide ((j:Int)<(L.length:Int))=false:=decide_eq_false (by omega)
   have HV:Hid (risB L=true):=by
    show _=_;rw[← HR.out];have:(L.drop m).length≤1:=by rw[List.length_drop];omega
    match L.drop m,this with
    | [],_=>rfl
    | [_],_=>rfl
    | _::_::_,h=>simp at h
   clear HR;go_wp2;go_ret;rw[HV.out];exact ⟨rfl,(Frm.refl _ _).drewN _⟩
def HitQ(w:World)(b:Nat)(t:List UInt8)(i:Nat)(V:V6)(e:Ending)(w':World):Prop :=
 ∃ (i':Nat) (ok:Bool) (x:HitM) (ab:Option Addr) (cb:Nat),e=.returned (.tuple #[.agg (hcell x (.slice ab x.bl.length cb)), .bool ok])∧LD w' b t i' V∧Frm [b] w w'∧PO ok pH (t.drop i) x (t.drop i')∧OW 9 1 w.heap.size w' (.slice ab x.bl.length cb) (sc x.bl)
theorem pH_eq(s:List UInt8):pH s=(pNm s).bind fun x=>(pL 5 x.2).bind fun y=>if risB y.1=true then (pN 3 0 100000 y.2).bind fun a=>(pN 3 0 100000 a.2).bind fun b=>(pN 3 0 100000 b.2).bind fun c=>some (⟨x.1,y.1,a.1,b.1,c.1⟩,c.2) else none:=rfl
abbrev HZ(w:World)(rb:Nat):Prop:=w.heap[rb]?=some (.cells hz 99 (0,0))
theorem takeHit_any(b:Nat)(t:List UInt8)(i:Nat)(V:V6)(w:World)(h:LD w b t i V) :
 Calls Tryz.prog 59 #[.pointer (some ⟨b,0,none⟩)] w (HitQ w b t i V):=by
 have F0:=hide ((Frm.refl [b] w).alloc (Obj.cells hz 99));have R0:Hid (HZ (w.alloc (Obj.cells hz 99)) w.heap.size):=heap1 _ _;have N1:=hide (ltakeName_any b t i V _ (h.frm (S:=[]) ((Frm.refl [] w).alloc (Obj.cells hz 99)) (by simp)));have hb:=h.lt;clear h;go_enter Tryz.func59,Tryz.ntmps59
 go_wp2_with fail
 refine (N1.out).mono ?_;rintro e w1 ⟨i1,x,ok,rfl,hL1,hF1,hP1,hv⟩;have L1:=hide hL1;have F1:=hide (F0.out.trans hF1);have hz1:=hF1.size;simp at hz1;have R1:Hid (HZ w1 w.heap.size):=(hF1.block w.heap.size (by simp) (by simp;omega)).trans R0.out;have P1:=hide hP1;clear hL1 hF1 hP1 N1 F0 R0;have N2:=hide (takeNameList_any b t i1 V 5 4 _ L1.out (by omega) rfl);go_wp2_with fail
 refine (N2.out).mono ?_;rintro e w2 ⟨i2,vb,bl,ok2,rfl,hL2,hF2,hP2,hO2,hbl⟩;obtain ⟨ab,cb,he⟩:=hO2.shape;rw[sc_len]at he;subst he;have L2:=hide hL2;have F2:=hide (F1.out.trans hF2);have R2:Hid (HZ w2 w.heap.size):=(hF2.block w.heap.size (by omega) (by simp;omega)).trans R1.out;have O2:=hide (hO2.base (b2:=w.heap.size) (by omega));have hob:Hid (∀ g,Value.ownBlock (.slice ab bl.length cb)=some g→w1.heap.size≤g):=fun g hg=>(hO2.lt hg).1
 have hz2:=hF2.size;have P2:=hide hP2;have hbL:=hL2.lt;clear hL2 hF2 hP2 N2 F1 R1 L1 hO2;have dz:∀ o,w2.frozen? ⟨w.heap.size,o,none⟩=false:=fun o=>by simp[World.frozen?,R2.out]
 have d0:w2.cell? ⟨w.heap.size,0,none⟩=some (.string ByteArray.empty):=by simp[World.cell?,R2.out]
 have d1:w2.cell? ⟨w.heap.size,1,none⟩=some (.slice none 0 0):=by simp[World.cell?,R2.out]
 have d2:w2.cell? ⟨w.heap.size,2,none⟩=some (.int .i64 0):=by simp[World.cell?,R2.out]
 have d3:w2.cell? ⟨w.heap.size,3,none⟩=some (.int .i64 0):=by simp[World.cell?,R2.out]
 have d4:w2.cell? ⟨w.heap.size,4,none⟩=some (.int .i64 0):=by simp[World.cell?,R2.out]
 cases ok
 ·have HP:Hid (pH (t.drop i)=none):=by
   rcases P1.out with ⟨h,_⟩|⟨_,h⟩
   ·cases h
   ·show _=_;rw[pH_eq,h];rfl
  go_wp2;refine bodyPost_ret (results_cell_tmpA rfl _ _ w.heap.size (hcell ⟨[],[],0,0,0⟩ (.slice none 0 0)) rfl (loadHit (set5_row _ _ _ _ _ R2.out) rfl)) rfl ?_;exact ⟨_,false,⟨[],[],0,0,0⟩,none,0,rfl,L2.out.frm (set5_frm _ _ _ _ _ _ _) (by simp;omega),F2.out.over (set5_frm _ _ _ _ _ _ _) (by simp), .inr ⟨rfl,HP.out⟩,OW.nil _ _ _ _⟩
 have HP1:Hid (pH (t.drop i)=(pL 5 (t.drop i1)).bind fun y=>if risB y.1=true then (pN 3 0 100000 y.2).bind fun a=>(pN 3 0 100000 a.2).bind fun b=>(pN 3 0 100000 b.2).bind fun c=>some (⟨x,y.1,a.1,b.1,c.1⟩,c.2) else none):=by
  rcases P1.out with ⟨_,h⟩|⟨h,_⟩
  ·show _=_;rw[pH_eq,h];rfl
  ·cases h
 clear P1;cases ok2
 ·have HP:Hid (pH (t.drop i)=none):=by
   rcases P2.out with ⟨h,_⟩|⟨_,h⟩
   ·cases h
   ·show _=_;rw[HP1.out,h];rfl
  go_wp2;refine bodyPost_ret (results_cell_tmpA rfl _ _ w.heap.size (hcell ⟨[],[],0,0,0⟩ (.slice none 0 0)) rfl (loadHit (set5_row _ _ _ _ _ R2.out) rfl)) rfl ?_;exact ⟨_,false,⟨[],[],0,0,0⟩,none,0,rfl,L2.out.frm (set5_frm _ _ _ _ _ _ _) (by simp;omega),F2.out.over (set5_frm _ _ _ _ _ _ _) (by simp), .inr ⟨rfl,HP.out⟩,OW.nil _ _ _ _⟩
 have HP2:Hid (pH (t.drop i)=if risB bl=true then (pN 3 0 100000 (t.drop i2)).bind fun a=>(pN 3 0 100000 a.2).bind fun b=>(pN 3 0 100000 b.2).bind fun c=>some (⟨x,bl,a.1,b.1,c.1⟩,c.2) else none):=by
  rcases P2.out with ⟨_,h⟩|⟨h,_⟩
  ·show _=_;rw[HP1.out,h];rfl
  ·cases h
 clear P2 HP1;have N3:=hide (isRising_any [] _ bl w2 (O2.out.rw (by simp)) hbl);go_wp2_with fail
 refine (N3.out).mono ?_;rintro e w3 ⟨rfl,hF3⟩;have L3:=hide (L2.out.frm hF3 (by simp));have F3:=hide (F2.out.trans (hF3.mono (by simp)));have R3:Hid (HZ w3 w.heap.size):=(hF3.block w.heap.size (by omega) (by simp)).trans R2.out;have O3:=hide (O2.out.frm hF3 (by simp));have hz3:=hF3.size;clear hF3 N3 L2 F2 R2 O2 d0 d1 d2 d3 d4 dz;cases hris:risB bl
 ·have HP:Hid (pH (t.drop i)=none):=by show _=_;rw[HP2.out,if_neg (by rw[hris];simp)]
  have dz:∀ o,w3.frozen? ⟨w.heap.size,o,none⟩=false:=fun o=>by simp[World.frozen?,R3.out]
  have d0:w3.cell? ⟨w.heap.size,0,none⟩=some (.string ByteArray.empty):=by simp[World.cell?,R3.out]
  have d1:w3.cell? ⟨w.heap.size,1,none⟩=some (.slice none 0 0):=by simp[World.cell?,R3.out]
  have d2:w3.cell? ⟨w.heap.size,2,none⟩=some (.int .i64 0):=by simp[World.cell?,R3.out]
  have d3:w3.cell? ⟨w.heap.size,3,none⟩=some (.int .i64 0):=by simp[World.cell?,R3.out]
  have d4:w3.cell? ⟨w.heap.size,4,none⟩=some (.int .i64 0):=by simp[World.cell?,R3.out]
  go_wp2;refine bodyPost_ret (results_cell_tmpA rfl _ _ w.heap.size (hcell ⟨[],[],0,0,0⟩ (.slice none 0 0)) rfl (loadHit (set5_row _ _ _ _ _ R3.out) rfl)) rfl ?_;exact ⟨_,false,⟨[],[],0,0,0⟩,none,0,rfl,L3.out.frm (set5_frm _ _ _ _ _ _ _) (by simp;omega),F3.out.over (set5_frm _ _ _ _ _ _ _) (by simp), .inr ⟨rfl,HP.out⟩,OW.nil _ _ _ _⟩
 have HP3:Hid (pH (t.drop i)=(pN 3 0 100000 (t.drop i2)).bind fun a=>(pN 3 0 100000 a.2).bind fun b=>(pN 3 0 100000 b.2).bind fun c=>some (⟨x,bl,a.1,b.1,c.1⟩,c.2)):=by show _=_;rw[HP2.out,if_pos hris]
 clear HP2;have N4:=hide (ltakeNumber_any b t i2 V 3 0 100000 3 0 99999 w3 L3.out (by omega) (by omega) (by omega) rfl rfl rfl);go_wp2_with fail
 refine (N4.out).mono ?_;rintro e w4 ⟨i4,n4,ok4,rfl,hL4,hF4,hP4,hv4⟩;have N5:=hide (ltakeNumber_any b t i4 V 3 0 100000 3 0 99999 w4 hL4 (by omega) (by omega) (by omega) rfl rfl rfl);have F4:=hide (F3.out.trans hF4);have R4:Hid (HZ w4 w.heap.size):=(hF4.block w.heap.size (by omega) (by simp;omega)).trans R3.out;have O4:=hide (O3.out.frm hF4 (by simp;omega));have hz4:=hF4.size;have P4:=hide hP4;clear hL4 hF4 hP4 N4 L3 F3 R3 O3;go_wp2_with fail
 refine (N5.out).mono ?_;rintro e w5 ⟨i5,n5,ok5,rfl,hL5,hF5,hP5,hv5⟩;have N6:=hide (ltakeNumber_any b t i5 V 3 0 100000 3 0 99999 w5 hL5 (by omega) (by omega) (by omega) rfl rfl rfl);have F5:=hide (F4.out.trans hF5);have R5:Hid (HZ w5 w.heap.size):=(hF5.block w.heap.size (by omega) (by simp;omega)).trans R4.out;have O5:=hide (O4.out.frm hF5 (by simp;omega));have hz5:=hF5.size;have P5:=hide hP5;clear hL5 hF5 hP5 N5 F4 R4 O4;go_wp2_with fail
 refine (N6.out).mono ?_;rintro e w6 ⟨i6,n6,ok6,rfl,hL6,hF6,hP6,hv6⟩;have L6:=hide hL6;have F6:=hide (F5.out.trans hF6);have R6:Hid (HZ w6 w.heap.size):=(hF6.block w.heap.size (by omega) (by simp;omega)).trans R5.out;have O6:=hide (O5.out.frm hF6 (by simp;omega));have hz6:=hF6.size;have hbL6:=hL6.lt;have HP6:Hid (PO (ok4&&ok5&&ok6) pH (t.drop i) ⟨x,bl,n4,n5,n6⟩ (t.drop i6)):=by
  show PO _ _ _ _ _;unfold PO;rw[HP3.out];rcases P4.out with ⟨e4,h4⟩|⟨e4,h4⟩
  ·rw[h4]
   simp only[Option.bind_some];rcases P5.out with ⟨e5,h5⟩|⟨e5,h5⟩
   ·rw[h5]
    simp only[Option.bind_some];rcases hP6 with ⟨e6,h6⟩|⟨e6,h6⟩
    ·rw[h6,e4,e5,e6];left;exact ⟨rfl,rfl⟩
    ·rw[h6,e4,e5,e6];right;exact ⟨rfl,rfl⟩
   ·rw[h5,e4,e5];right;exact ⟨rfl,rfl⟩
  ·rw[h4,e4];right;exact ⟨rfl,rfl⟩
 clear hL6 hF6 hP6 N6 F5 R5 O5 P4 P5 HP3;have dz:∀ o,w6.frozen? ⟨w.heap.size,o,none⟩=false:=fun o=>by simp[World.frozen?,R6.out]
 have d0:w6.cell? ⟨w.heap.size,0,none⟩=some (.string ByteArray.empty):=by simp[World.cell?,R6.out]
 have d1:w6.cell? ⟨w.heap.size,1,none⟩=some (.slice none 0 0):=by simp[World.cell?,R6.out]
 have d2:w6.cell? ⟨w.heap.size,2,none⟩=some (.int .i64 0):=by simp[World.cell?,R6.out]
 have d3:w6.cell? ⟨w.heap.size,3,none⟩=some (.int .i64 0):=by simp[World.cell?,R6.out]
 have d4:w6.cell? ⟨w.heap.size,4,none⟩=some (.int .i64 0):=by simp[World.cell?,R6.out]
 have hw6:w.heap.size<w6.heap.size:=by omega
 cases ok4<;>cases ok5<;>cases ok6
 all_goals
  go_wp2;refine bodyPost_ret (results_cell_tmpA rfl _ _ w.heap.size (hcell ⟨x,bl,n4,n5,n6⟩ (.slice ab bl.length cb)) rfl (loadHit ((((Frm.refl [] _).alloc _).block w.heap.size (by simp[World.setCell];omega) (by simp)).trans (set5_row _ _ _ _ _ R6.out)) rfl)) rfl ?_;exact ⟨i6,_,⟨x,bl,n4,n5,n6⟩,ab,cb,rfl,(L6.out.frm (set5_frm _ _ _ _ _ _ _) (by simp;omega)).frm ((Frm.refl [] _).alloc _) (by simp),(F6.out.over (set5_frm _ _ _ _ _ _ _) (by simp)).alloc _,HP6.out,(O6.out.keep (set5_frm _ _ _ _ _ _ _) (fun r hr=>by have:=hob.out r hr;simp;omega)).frm ((Frm.refl [] _).alloc _) (by simp)⟩
def HitsQ(A:List Nat)(w:World)(b:Nat)(t:List UInt8)(i:Nat)(V:V6)(e:Ending)(w':World):Prop :=
 ∃ (i':Nat) (ok:Bool) (v:Value) (x:List HitM) (css:List (Array Value)),e=.returned (.bool ok)∧LD w' b t i' { V with r:=v }∧Frm [b] w w'∧PO ok pHs (t.drop i) x (t.drop i')∧OW 99 5 w.heap.size w' v (lst css)∧RowI hitI ((b::A)++v.ownBlock.toList) w' css x
theorem takeRoutes_any(b:Nat)(t:List UInt8)(i:Nat)(V:V6)(w:World)(h:LD w b t i V)(hV:V.r=.slice none 0 0)(A:List Nat)(hA:∀ g∈A,g<w.heap.size) :
 Calls Tryz.prog 37 #[.pointer (some ⟨b,0,none⟩)] w (HitsQ A w b t i V):=by
 have N1:=hide (ltakeNumber_any b t i V 1 0 17 1 0 16 w h (by omega) (by omega) (by omega) rfl rfl rfl);have hb:=h.lt;have HV:=hide hV;clear h hV;go_enter Tryz.func37,Tryz.ntmps37
 go_wp2_with fail
 refine (N1.out).mono ?_;rintro e w1 ⟨i1,v,ok,rfl,hL1,hF1,hP1,hv⟩;have L1:=hide hL1;have F1:=hide hF1;have P1:=hide hP1;clear hL1 hF1 hP1 N1;have hz1:=F1.out.size;go_wp2_with fail
 go_loopg [4,5] v (fun k v4 v5 wr=>∃ (j i':Nat) (acc:List HitM) (css:List (Array Value)) (vr:Value) (okb:Bool),j+k=v∧v5=.int .i64 j∧v4=.bool okb∧OW 99 5 w.heap.size wr vr (lst css)∧LD wr b t i' { V with r:=vr }∧Frm [b] w wr∧css.length≤j∧RowI hitI ((b::A)++vr.ownBlock.toList) wr css acc ∧
  Hid ((okb=true∧v<17∧pR (fun _=>pH) (v-j) acc (t.drop i')=pHs (t.drop i))∨(okb=false∧pHs (t.drop i)=none)))
 case atStart =>
  refine ⟨0,i1,[],[], .slice none 0 0,ok,by omega,rfl,rfl,OW.nil _ _ _ _,?_,F1.out,by simp,RowI.nil _ _ _,?_⟩
  ·have:=L1.out;rw[← HV.out];exact this
  rcases P1.out with ⟨h1,h2⟩|⟨h1,h2⟩
  ·exact .inl ⟨h1,(pN_some h2).2.2,by unfold pHs;rw[h2];rfl⟩
  ·exact .inr ⟨h1,by unfold pHs;rw[h2];rfl⟩
 case round =>
  obtain ⟨j,i2,acc,css,vr,okb,hjk,rfl,rfl,hO,hL,hF,hal,hI,HR⟩:=hrel;obtain ⟨ao,co,he⟩:=hO.shape;rw[lst_len]at he;subst he;have O:=hide hO;have L:=hide hL;have F:=hide hF;have hz:=hF.size;have I:=hide hI;clear hO hL hF hI;cases okb with
  | false =>
    have HP:Hid (pHs (t.drop i)=none):=by
     rcases HR.out with ⟨h,_⟩|⟨_,h⟩
     ·cases h
     ·exact h
    clear HR;go_wp2;go_ret;exact ⟨i2,false,_,acc,css,rfl,L.out,F.out, .inr ⟨rfl,HP.out⟩,O.out,I.out⟩
  | true =>
    have HP:Hid (v<17∧pR (fun _=>pH) (v-j) acc (t.drop i2)=pHs (t.drop i)):=by
     rcases HR.out with ⟨_,h⟩|⟨h,_⟩
     ·exact h
     ·cases h
    clear HR
    by_cases hlt:j<v
    ·have hd1:decide ((j:Int)<(v:Int))=true:=decide_eq_true (by omega)
     have N2:=hide (takeHit_any b t i2 _ wr L.out);go_wp2_with fail
     refine (N2.out).mono ?_;rintro e w2 ⟨i3,ok2,x,ab,cb,rfl,hL2,hF2,hP2,hrw⟩;have L2:=hide hL2;have F2:=hide hF2;have O2:=hide (O.out.frm (hF2) (by intro g hg;simp at hg;omega));have HP2:Hid ((ok2=true∧v<17∧pR (fun _=>pH) (v-(j+1)) (acc++[x]) (t.drop i3)=pHs (t.drop i))∨(ok2=false∧pHs (t.drop i)=none)):=by
      have h:=HP.out;rw[show v-j=(v-(j+1))+1 by omega]at h;rcases hP2 with ⟨h1,h2⟩|⟨h1,h2⟩
      ·refine .inl ⟨h1,h.1,?_⟩
       rw[← h.2,pR_succ,h2];rfl
      ·refine .inr ⟨h1,?_⟩
       rw[← h.2,pR_succ,h2];rfl
     have hz2:=hF2.size;have hvh:=HP.out.1;have c:=hL2.cr;have z:=hL2.fz 6;have hb2:=hL2.lt;have hob:∀ r,Value.ownBlock (.slice ao css.length co)=some r→w.heap.size≤r:=fun r hr=>(O2.out.lt hr).1
     have HOB:=hide hob;have HTC:=hide (lst_len css);have I2:Hid (RowI hitI ((b::A)++(Value.ownBlock (.slice ao css.length co)).toList) w2 (css++[hcell x (.slice ab x.bl.length cb)]) (acc++[x])):=by
      refine RowI.snoc (I.out.frm hF2 (by simp)) ⟨_,rfl,hrw.rw ?_⟩;intro g hg hm;have h1:=(hrw.lt hg).1;simp at hm;rcases hm with hm|hm|hm
      ·omega
      ·have:=hA g hm;omega
      ·have:=(O.out.lt hm).2;omega
     have HV2:Hid (hcell x (.slice ab x.bl.length cb)=#[.string (bs x.rc), .slice ab x.bl.length cb, .int .i64 (x.wt:Nat), .int .i64 (x.ev:Nat), .int .i64 (x.rp:Nat)]):=rfl;have g2:∀ o o':Obj,((w2.alloc o).alloc o').drew.frozen? ⟨b,6,none⟩=false:=fun o o'=>(((((Frm.refl [] w2).alloc o).alloc o').drew).frozen hb2 (by simp)).trans z
     have g1:∀ o:Obj,(w2.alloc o).drew.frozen? ⟨b,6,none⟩=false:=fun o=>((((Frm.refl [] w2).alloc o).drew).frozen hb2 (by simp)).trans z
     have ag:Value.ownBlock (.slice ao css.length co)≠some b:=fun e=>by have:=HOB.out _ e;omega
     clear hL2 hF2 hP2 HP N2 L O hob hrw I;obtain ⟨x1,x2,x3,x4,x5⟩:=x;simp only[hcell];go_wp2_with fail
     go_region_law ((refine step_appG _ (by rfl) _ _ 55 99 _ 5 64 infoHit Tryz.underlying55 (by rfl) (by omega) (by rfl) w.heap.size (.slice ao css.length co) (lst css) (w2.heap.size+1) (hcell ⟨x1,x2,x3,x4,x5⟩ (.slice ab x2.length cb)) (0,0) (by rfl) (O2.out.frm (S:=[]) ((((Frm.refl [] _).alloc _).alloc _).drew) (by simp)) (by rfl) (by rfl) (by exact heap_new2d _ _ _) (hcell_one _ _ _ _) (by rw[HTC.out];omega) (by rw[HTC.out];omega) (by simp;omega) (w2.heap.size+2) (by simp) ?_;intro gg cap2 w4 hown4 hgrow hat hlt4;have c4:=(hgrow.cell_far ⟨b,6,none⟩ (by simp;omega) (Ne.symm ag));have f4:=(hgrow.frozen_far ⟨b,6,none⟩ (by simp;omega) (Ne.symm ag));have f5:=f4.trans (g2 _ _);rw[HTC.out]at hown4 ⊢))
     all_goals
      have G4:=hide hgrow;have O4:=hide hown4;clear hgrow hown4;go_wp2;go_roundg (gk-1)
      case measure=>omega
      case rel =>
       have F3:Frm [] w2 ((w2.alloc (Obj.cells (hcell ⟨x1,x2,x3,x4,x5⟩ (.slice ab x2.length cb)) 99)).alloc (Obj.cells (hcell ⟨x1,x2,x3,x4,x5⟩ (.slice ab x2.length cb)) 99)).drew:=(((Frm.refl [] _).alloc _).alloc _).drew;have L4:=(L2.out.frm F3 (by simp)).grown G4.out (fun r hr=>by have:=HOB.out r hr;omega);have O5:=O4.out;rw[lst_snoc]at O5;have FB:∀ u,Frm [b] w4 (w4.setCell ⟨b,6,none⟩ u):=fun u=>(Frm.refl [b] _).setCell (p:=⟨b,6,none⟩) (.inl (by simp)) u
       have R3:=I2.out.frm F3 (by simp);have R4:=R3.app (g:=gg) G4.out (hat.imp id (fun h=>by rw[h];simp));exact ⟨j+1,i3,acc++[(⟨x1,x2,x3,x4,x5⟩:HitM)],css++[hcell ⟨x1,x2,x3,x4,x5⟩ (.slice ab x2.length cb)],_,ok2,by omega,by go_num,rfl,O5.frm (FB _) (by simp;omega),L4.setR _,((((F.out.trans F2.out).trans (F3.mono (by simp)))).grown G4.out (fun r hr=>.inr (HOB.out r hr))).trans (FB _),by simp;omega,R4.frm (FB _) (by simp),HP2⟩
    ·have hjv:j=v:=by omega
     have hd1:decide ((j:Int)<(v:Int))=false:=decide_eq_false (by omega);have HP2:Hid (pHs (t.drop i)=some (acc,t.drop i2)):=by
      have h:=HP.out.2;rw[hjv,Nat.sub_self]at h;exact h.symm
     clear HP;subst hjv;go_wp2;go_ret;exact ⟨i2,true,_,acc,css,rfl,L.out,F.out, .inl ⟨rfl,HP2.out⟩,O.out,I.out⟩
end Go.Proofs.YtpcbbbilmpobaaaGreatDoor
