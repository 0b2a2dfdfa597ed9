import Derived.Test.YtpcbbbilmpobaaaGreatDoorJ21
import Derived.Test.YtpcbbbilmpobaaaGreatDoorJ19
set_option linter.unusedVariables false
set_option linter.unusedSimpArgs false
set_option linter.unnecessarySimpa false
set_option maxRecDepth 100000
set_option maxHeartbeats 8000000
namespace Go.Proofs.YtpcbbbilmpobaaaGreatDoor
open Go.RowKit
theorem hitsN_len(C:List CR):∀ n,(hitsN C n).length=n
 | 0=>rfl
 | n+1=>by rw[hitsN];simp[hitsN_len C n]
theorem hitsN_at(C:List CR)(j:Nat)(hj:j<C.length):hitsN C (j+1)=hitsN C j++[hitB (aboveH C (hitsN C j) j) C[j]]:=by
 rw[hitsN,List.getElem?_eq_getElem hj]
theorem hitB_few{C:List CR}(hb:∀ c∈C,c.bys.length≤4):∀ n,∀ x∈hitsN C n,x.bl.length≤4
 | 0,x,h=>by simp[hitsN]at h
 | n+1,x,h=>by
   rw[hitsN,List.mem_append,List.mem_singleton]at h;rcases h with h|rfl
   ·exact hitB_few hb n x h
   ·split
    ·rename_i c hc
     have h1:=hb c (List.mem_of_getElem? hc);have h2:(aboveH C (hitsN C n) n).bl.length≤4:=by
      unfold aboveH
      split
      ·rename_i p _
       by_cases hp:p<(hitsN C n).length
       ·rw[List.getD_eq_getElem?_getD,List.getElem?_eq_getElem hp]
        exact hitB_few hb n _ (List.getElem_mem hp)
       ·rw[List.getD_eq_getElem?_getD,List.getElem?_eq_none (by omega)];simp[rootH]
      ·simp[rootH]
     simp only[hitB]
     split<;>assumption
    ·simp[rootH]
theorem par_lt{C:List CR}{j p:Nat}(h:par C j=some p):p<j:=by
 unfold par at h
 split at h
 ·exact (parGo_some' h)
 ·cases h
 where
 parGo_some' {C:List CR} {d:Nat}:∀ {i p:Nat},parGo C d i=some p→p<i
 | 0,p,h=>by simp[parGo]at h
 | j+1,p,h=>by
   rw[parGo]at h
   split at h
   ·cases h;omega
   ·have:=parGo_some' h;omega
theorem hcell_at(w:World)(h1:List UInt8)(h2:List (List UInt8))(h3 h4 h5 g:Nat)(j:Nat)(u:Value)(hu:(hcell ⟨h1,h2,h3,h4,h5⟩ (.slice (some ⟨g,0,none⟩) h2.length h2.length)).toList[j]?=some u):(w.alloc (Obj.cells #[.string (bs h1), .slice (some ⟨g,0,none⟩) h2.length h2.length, .int .i64 (h3:Nat), .int .i64 (h4:Nat), .int .i64 (h5:Nat)] 99)).cell? ⟨w.heap.size,j,none⟩=some u:=by
 have:=heap1 w (Obj.cells #[.string (bs h1), .slice (some ⟨g,0,none⟩) h2.length h2.length, .int .i64 (h3:Nat), .int .i64 (h4:Nat), .int .i64 (h5:Nat)] 99);simp only[World.cell?,this];simpa[hcell] using hu
theorem hits_any(A:List Nat)(w:World)(hA:∀ g∈A,g<w.heap.size)(v:Value)(C:List CR)(h:RTS [] w v C)(hC:C.length≤1000)(hg:∀ c∈C,c.d≤1048576∧c.bys.length≤4∧-1≤c.wt∧-1≤c.ev∧-1≤c.rp) :
 Calls Tryz.prog 26 #[v] w fun e w'=>∃ v' css,e=.returned v'∧Frm [] w w'∧OW 99 5 w.heap.size w' v' (lst css)∧RowI hitT (A++v'.ownBlock.toList) w' css (hitsN C C.length):=by
 have HA:=hide hA;have HRT:=hide h;obtain ⟨cs0,q1,q2⟩:=h;obtain ⟨a,cap,rfl,r⟩:=row_at q1 q2;have R:=hide r;have HG:=hide hg;clear q1 q2 r hg;go_enter Tryz.func26,Tryz.ntmps26
 go_wp2_with fail
 go_loopg [3,11] C.length (fun k v3 v11 wr=>∃ (j:Nat) (css:List (Array Value)),j+k=C.length∧v11=.int .i64 j∧css.length=j∧Frm [] w wr∧OW 99 5 w.heap.size wr v3 (lst css)∧Hid (RowI hitT (A++v3.ownBlock.toList) wr css (hitsN C j)))
 case atStart=>exact ⟨0,[],by omega,rfl,rfl,(Frm.refl _ _).alloc _,OW.empty _ _ _ _ (Nat.le_refl _),RowI.nil _ _ _⟩
 case round =>
  obtain ⟨j,css,hjk,rfl,hcj,hF,hO,HI⟩:=hrel;obtain ⟨ao,co,he⟩:=hO.shape;rw[lst_len,hcj]at he;subst he;have F:=hide hF;have O:=hide hO;have hzz:=hF.size;have HTC:Hid ((lst css).length=j):=by show _=_;rw[lst_len];exact hcj
  by_cases hlt:j<C.length
  ·have hd1:decide ((j:Int)<(C.length:Int))=true:=decide_eq_true (by omega)
   obtain ⟨gr,or,csr,rfl,hgr,_,⟨vby,vif,rfl,hby,hif⟩,k1⟩:=R.out j hlt;obtain ⟨ay,cy,rfl,_⟩:=hby.str;obtain ⟨ai,ci,hvi,_⟩:=hif;rw[show (mtc C[j].ifs).length=C[j].ifs.length by simp[mtc]]at hvi;subst hvi;have t0:wr.cell? ⟨gr,or+j*9,none⟩=some (.int .i64 (C[j].d:Nat)):=hF.at (p:=⟨gr,or+j*9+0,none⟩) hgr (k1 0 _ rfl);have t1:wr.cell? ⟨gr,or+j*9+1,none⟩=some (.string (bs C[j].rc)):=hF.at (p:=⟨gr,or+j*9+1,none⟩) hgr (k1 1 _ rfl);have t2:wr.cell? ⟨gr,or+j*9+2,none⟩=some (.bool C[j].tb):=hF.at (p:=⟨gr,or+j*9+2,none⟩) hgr (k1 2 _ rfl);have t3:wr.cell? ⟨gr,or+j*9+3,none⟩=some (.slice ay C[j].bys.length cy):=hF.at (p:=⟨gr,or+j*9+3,none⟩) hgr (k1 3 _ rfl);have t4:wr.cell? ⟨gr,or+j*9+4,none⟩=some (.int .i64 C[j].wt):=hF.at (p:=⟨gr,or+j*9+4,none⟩) hgr (k1 4 _ rfl);have t5:wr.cell? ⟨gr,or+j*9+5,none⟩=some (.int .i64 C[j].ev):=hF.at (p:=⟨gr,or+j*9+5,none⟩) hgr (k1 5 _ rfl);have t6:wr.cell? ⟨gr,or+j*9+6,none⟩=some (.int .i64 C[j].rp):=hF.at (p:=⟨gr,or+j*9+6,none⟩) hgr (k1 6 _ rfl);have t7:wr.cell? ⟨gr,or+j*9+7,none⟩=some (.slice ai C[j].ifs.length ci):=hF.at (p:=⟨gr,or+j*9+7,none⟩) hgr (k1 7 _ rfl);have t8:wr.cell? ⟨gr,or+j*9+8,none⟩=some (.bool C[j].co):=hF.at (p:=⟨gr,or+j*9+8,none⟩) hgr (k1 8 _ rfl);have N1:Hid (∀ W,Frm [] w W→Calls Tryz.prog 48 #[.slice (some ⟨gr,or,none⟩) C.length cap, .int .i64 j] W fun e w'=>e=.returned (.int .i64 (parI C j))∧∃ q,w'=W.drewN q):=fun W hW=>parentOf_any W _ [] C (HRT.out.frm hW (by simp)) (by omega) (fun c hm=>(HG.out c hm).1) j hlt
   have hgc:=HG.out C[j] (List.getElem_mem hlt);have HST:=hide (hitsN_at C j hlt);have HBY:=hide hby;have hgrr:gr<wr.heap.size:=by omega
   clear k1 hby hF hO;cases hp:par C j with
   | none =>
     have hpi:parI C j=-1:=by unfold parI;rw[hp]
     have hab:aboveH C (hitsN C j) j=rootH:=by unfold aboveH;rw[hp]
     rw[hpi]at N1;rw[hab]at HST;have N2:Hid (∀ W,Frm [] w W→Calls Tryz.prog 49 #[.agg #[.string { data:=#[] }, .slice none 0 0, .int .i64 30, .int .i64 300, .int .i64 14400], .agg #[.int .i64 (C[j].d:Nat), .string (bs C[j].rc), .bool C[j].tb, .slice ay C[j].bys.length cy, .int .i64 C[j].wt, .int .i64 C[j].ev, .int .i64 C[j].rp, .slice ai C[j].ifs.length ci, .bool C[j].co]] W fun e w'=>∃ g,e=.returned (.agg #[.string (bs (hitB rootH C[j]).rc), .slice (some ⟨g,0,none⟩) (hitB rootH C[j]).bl.length (hitB rootH C[j]).bl.length, .int .i64 ((hitB rootH C[j]).wt:Nat), .int .i64 ((hitB rootH C[j]).ev:Nat), .int .i64 ((hitB rootH C[j]).rp:Nat)])∧Frm [] W w'∧W.heap.size≤g∧g<w'.heap.size∧RW [] 1 w' (.slice (some ⟨g,0,none⟩) (hitB rootH C[j]).bl.length (hitB rootH C[j]).bl.length) (sc (hitB rootH C[j]).bl)):=fun W hW=>hitBelow_any rootH C[j] none 0 _ _ W (RW.nil _ _ _) (HBY.out.frm hW (by simp)) ⟨ai,ci,rfl⟩ (by simp[rootH]) (by omega) ⟨hgc.2.2.1,hgc.2.2.2.1,hgc.2.2.2.2⟩
     generalize hitB rootH C[j]=y at *;obtain ⟨h1,h2,h3,h4,h5⟩:=y;simp only at N2;generalize C[j]=c at *;clear hp hpi hab;go_wp2_with fail
     refine (N1.out _ ((F.out.alloc _).alloc _)).mono ?_;clear N1;rintro e w2 ⟨rfl,qn,rfl⟩;go_wp2_with fail
     refine (N2.out _ (((F.out.alloc _).alloc _).drewN _)).mono ?_;clear N2;rintro e w3 ⟨g,rfl,hF3,hg,hg3,hR3⟩;have FA:Frm [] wr w3:=((((Frm.refl [] wr).alloc _).alloc _).drewN _).trans hF3;have hg4:wr.heap.size≤g:=by simp at hg;omega
     have hob:∀ r,Value.ownBlock (.slice ao j co)=some r→r<wr.heap.size:=fun r hr=>(O.out.lt hr).2
     have R3:=hide (hR3.notin (B:=A++(Value.ownBlock (.slice ao j co)).toList) (fun hm=>by simp at hm;rcases hm with hm|hm;have:=HA.out g hm;omega;have:=hob g hm;omega));have O3:=hide (O.out.frm FA (by simp));have I3:=hide (HI.out.frm FA (by simp));have F3:=hide (F.out.trans FA);have hz3:=FA.size;clear hF3 hg hg3 hR3 FA hg4 hob t0 t1 t2 t3 t4 t5 t6 t7 t8;go_wp2_with (at_builtin;refine wp_appG _ rfl _ _ 55 99 _ 5 64 infoHit Tryz.underlying55 rfl (by omega) rfl w.heap.size (.slice ao j co) (lst css) w3.heap.size (hcell ⟨h1,h2,h3,h4,h5⟩ (.slice (some ⟨g,0,none⟩) h2.length h2.length)).toList rfl (O3.out.frm (S:=[]) ((Frm.refl [] _).alloc _) (by simp)) rfl rfl (hcell_at _ _ _ _ _ _ _) (by intro u hu;simp[hcell]at hu;rcases hu with rfl|rfl|rfl|rfl|rfl<;>rfl) (by rw[HTC.out];omega) (by rw[HTC.out];omega) (by simp;omega) ?_;intro gg cap2 w5 hown5 hgrow hat hlt5;rw[HTC.out]at hown5 ⊢;have F5:Hid (Frm [] w w5):=(F3.out.alloc _).grown hgrow (fun r hr=>.inr (O3.out.lt hr).1);have O5:=hide hown5;have I5:Hid (RowI hitT (A++[gg]) w5 (css++[hcell ⟨h1,h2,h3,h4,h5⟩ (.slice (some ⟨g,0,none⟩) h2.length h2.length)]) (hitsN C j++[⟨h1,h2,h3,h4,h5⟩])):=((I3.out.frm (S:=[]) ((Frm.refl [] _).alloc _) (by simp)).snoc ⟨g,rfl,R3.out.frm (S:=[]) ((Frm.refl [] _).alloc _) (by simp)⟩).app hgrow hat;clear hown5 hgrow hat)
     go_roundg (gk-1)
     case measure=>omega
     case rel =>
      have O6:=O5.out;rw[lst_snoc]at O6;refine ⟨j+1,css++[hcell ⟨h1,h2,h3,h4,h5⟩ (.slice (some ⟨g,0,none⟩) h2.length h2.length)],by omega,by go_num,by simp;omega,F5.out,O6,?_⟩;show RowI _ _ _ _ _;rw[HST.out];exact I5.out
   | some p =>
     have hpj:=par_lt hp;have hpi:parI C j=(p:Int):=by unfold parI;rw[hp]
     have hln:=hitsN_len C j;have hpl:p<(hitsN C j).length:=by omega
     have hab:aboveH C (hitsN C j) j=(hitsN C j)[p]:=by
      unfold aboveH;rw[hp];simp only[List.getD_eq_getElem?_getD,List.getElem?_eq_getElem hpl,Option.getD_some]
     have hfew:=hitB_few (C:=C) (fun c hm=>(HG.out c hm).2.1) j _ (List.getElem_mem hpl);rw[hpi]at N1;rw[hab]at HST;obtain ⟨ah,ch,hvh,hrh⟩:=row_at (O.out.rw (A:=[]) (by simp)) (HI.out.avoid (B:=[]) (by simp));simp only[Value.slice.injEq]at hvh;obtain ⟨rfl,hjj,rfl⟩:=hvh;obtain ⟨gh,oh,csh,rfl,hgh,_,⟨gp,rfl,hrp⟩,kh⟩:=hrh p hpl;have u0:wr.cell? ⟨gh,oh+p*5,none⟩=some (.string (bs (hitsN C j)[p].rc)):=kh 0 _ rfl;have u1:wr.cell? ⟨gh,oh+p*5+1,none⟩=some (.slice (some ⟨gp,0,none⟩) (hitsN C j)[p].bl.length (hitsN C j)[p].bl.length):=kh 1 _ rfl;have u2:wr.cell? ⟨gh,oh+p*5+2,none⟩=some (.int .i64 ((hitsN C j)[p].wt:Nat)):=kh 2 _ rfl;have u3:wr.cell? ⟨gh,oh+p*5+3,none⟩=some (.int .i64 ((hitsN C j)[p].ev:Nat)):=kh 3 _ rfl;have u4:wr.cell? ⟨gh,oh+p*5+4,none⟩=some (.int .i64 ((hitsN C j)[p].rp:Nat)):=kh 4 _ rfl;have HRP:=hide hrp;have hdp:decide ((p:Int)<(j:Int))=true:=decide_eq_true (by omega);have hdp0:decide ((0:Int)≤(p:Int))=true:=decide_eq_true (by omega);clear hrh kh hrp hab hpi hp hjj hln;generalize hxx:(hitsN C j)[p]=xx at *;clear hxx hpl;have N2:Hid (∀ W,Frm [] wr W→Calls Tryz.prog 49 #[.agg #[.string (bs xx.rc), .slice (some ⟨gp,0,none⟩) xx.bl.length xx.bl.length, .int .i64 (xx.wt:Nat), .int .i64 (xx.ev:Nat), .int .i64 (xx.rp:Nat)], .agg #[.int .i64 (C[j].d:Nat), .string (bs C[j].rc), .bool C[j].tb, .slice ay C[j].bys.length cy, .int .i64 C[j].wt, .int .i64 C[j].ev, .int .i64 C[j].rp, .slice ai C[j].ifs.length ci, .bool C[j].co]] W fun e w'=>∃ g,e=.returned (.agg #[.string (bs (hitB xx C[j]).rc), .slice (some ⟨g,0,none⟩) (hitB xx C[j]).bl.length (hitB xx C[j]).bl.length, .int .i64 ((hitB xx C[j]).wt:Nat), .int .i64 ((hitB xx C[j]).ev:Nat), .int .i64 ((hitB xx C[j]).rp:Nat)])∧Frm [] W w'∧W.heap.size≤g∧g<w'.heap.size∧RW [] 1 w' (.slice (some ⟨g,0,none⟩) (hitB xx C[j]).bl.length (hitB xx C[j]).bl.length) (sc (hitB xx C[j]).bl)):=fun W hW=>hitBelow_any xx C[j] (some ⟨gp,0,none⟩) xx.bl.length _ _ W (HRP.out.frm hW (by simp)) (HBY.out.frm (F.out.trans hW) (by simp)) ⟨ai,ci,rfl⟩ (by omega) (by omega) ⟨hgc.2.2.1,hgc.2.2.2.1,hgc.2.2.2.2⟩
     generalize hitB xx C[j]=y at *;obtain ⟨h1,h2,h3,h4,h5⟩:=y;simp only at N2;generalize C[j]=c at *;go_wp2_with fail
     refine (N1.out _ ((F.out.alloc _).alloc _)).mono ?_;clear N1;rintro e w2 ⟨rfl,qn,rfl⟩;go_wp2_with fail
     refine (N2.out _ (((((Frm.refl [] wr).alloc _).alloc _).drewN _).over (set5_frm _ _ _ _ _ _ _) (by simp))).mono ?_;clear N2;rintro e w3 ⟨g,rfl,hF3,hg,hg3,hR3⟩;have FA:Frm [] wr w3:=(((((Frm.refl [] wr).alloc _).alloc _).drewN _).over (set5_frm _ _ _ _ _ _ _) (by simp)).trans hF3;have hg4:wr.heap.size≤g:=by simp at hg;omega
     have hob:∀ r,Value.ownBlock (.slice (some ⟨gh,oh,none⟩) j co)=some r→r<wr.heap.size:=fun r hr=>(O.out.lt hr).2
     have R3:=hide (hR3.notin (B:=A++(Value.ownBlock (.slice (some ⟨gh,oh,none⟩) j co)).toList) (fun hm=>by simp at hm;rcases hm with hm|hm;have:=HA.out g hm;omega;have:=hob g hm;omega));have O3:=hide (O.out.frm FA (by simp));have I3:=hide (HI.out.frm FA (by simp));have F3:=hide (F.out.trans FA);have hz3:=FA.size;clear hF3 hg hg3 hR3 FA hg4 hob t0 t1 t2 t3 t4 t5 t6 t7 t8 u0 u1 u2 u3 u4;go_wp2_with (at_builtin;refine wp_appG _ rfl _ _ 55 99 _ 5 64 infoHit Tryz.underlying55 rfl (by omega) rfl w.heap.size (.slice (some ⟨gh,oh,none⟩) j co) (lst css) w3.heap.size (hcell ⟨h1,h2,h3,h4,h5⟩ (.slice (some ⟨g,0,none⟩) h2.length h2.length)).toList rfl (O3.out.frm (S:=[]) ((Frm.refl [] _).alloc _) (by simp)) rfl rfl (hcell_at _ _ _ _ _ _ _) (by intro u hu;simp[hcell]at hu;rcases hu with rfl|rfl|rfl|rfl|rfl<;>rfl) (by rw[HTC.out];omega) (by rw[HTC.out];omega) (by simp;omega) ?_;intro gg cap2 w5 hown5 hgrow hat hlt5;rw[HTC.out]at hown5 ⊢;have F5:Hid (Frm [] w w5):=(F3.out.alloc _).grown hgrow (fun r hr=>.inr (O3.out.lt hr).1);have O5:=hide hown5;have I5:Hid (RowI hitT (A++[gg]) w5 (css++[hcell ⟨h1,h2,h3,h4,h5⟩ (.slice (some ⟨g,0,none⟩) h2.length h2.length)]) (hitsN C j++[⟨h1,h2,h3,h4,h5⟩])):=((I3.out.frm (S:=[]) ((Frm.refl [] _).alloc _) (by simp)).snoc ⟨g,rfl,R3.out.frm (S:=[]) ((Frm.refl [] _).alloc _) (by simp)⟩).app hgrow hat;clear hown5 hgrow hat)
     go_roundg (gk-1)
     case measure=>omega
     case rel =>
      have O6:=O5.out;rw[lst_snoc]at O6;refine ⟨j+1,css++[hcell ⟨h1,h2,h3,h4,h5⟩ (.slice (some ⟨g,0,none⟩) h2.length h2.length)],by omega,by go_num,by simp;omega,F5.out,O6,?_⟩;show RowI _ _ _ _ _;rw[HST.out];exact I5.out
  ·have hd1:decide ((j:Int)<(C.length:Int))=false:=decide_eq_false (by omega)
   have hj:j=C.length:=by omega
   subst hj;clear hF hO;go_wp2;go_ret;exact ⟨_,css,rfl,F.out,O.out,HI.out⟩
theorem pmat_cb{re:List UInt8→Nat}{aut:List UInt8→AutM}:∀ (M:List CM) (s:CS) (acc:List (Nat × Bool)) (k:Nat) {l:List (Nat × Bool)} {s1:CS},CSB s k→pmat re aut s acc M=.ok (l,s1)→CSB s1 (k+M.length)∧s1.q=s.q∧l.length=acc.length+M.length
 | [],s,acc,k,l,s1,h,e=>by
   rw[pmat]at e;cases e
   exact ⟨h,rfl,rfl⟩
 | m::r,s,acc,k,l,s1,h,e=>by
   rw[pmat]at e
   split at e
   ·cases e
   ·rename_i t s2 ht
    obtain ⟨h1,_,h3⟩:=ptest_cb h ht;obtain ⟨g1,g2,g3⟩:=pmat_cb r _ _ (k+1) h1 e;refine ⟨?_,g2.trans h3,by simp at g3 ⊢;omega⟩;rw[List.length_cons,show k+(r.length+1)=k+1+r.length by omega];exact g1
theorem RTS.avoid{A B:List Nat}{w:World}{v:Value}{C:List CR}(h:RTS A w v C)(hB:∀ g∈B,g∈A∨w.heap.size≤g):RTS B w v C:=by
 obtain ⟨css,h1,h2⟩:=h;exact ⟨css,h1.avoid hB,h2.avoid hB⟩
theorem results3{fn:Func}{p u t:Tmp}{ty:TypeId}(h:fn.results=#[.cell p ty, .tmp u, .tmp t])(tmps:Array Value)(w:World)(g:Nat)(cs:Array Value)(a b:Value)
 (hp:tmps.getD p undef=.pointer (some ⟨g,0,none⟩)) (hu:tmps.getD u undef=a) (ht:tmps.getD t undef=b) (hl:(loadVar ty ⟨g,0,none⟩).run Tryz.prog w=.ok (.agg cs) w) :
 (results fn tmps).run Tryz.prog w=.ok (.tuple #[.agg cs,a,b]) w:=by
 have hp':tmps[p]?.getD undef=.pointer (some ⟨g,0,none⟩):=by simpa using hp
 have hu':tmps[u]?.getD undef=a:=by simpa using hu
 have ht':tmps[t]?.getD undef=b:=by simpa using ht
 simp[results,h,hp',hu',ht',asAddr,hl]
abbrev vz:V6:=⟨.slice none 0 0, .slice none 0 0, .slice none 0 0, .slice none 0 0, .slice none 0 0, .slice none 0 0⟩
theorem KS.start(Z:List Nat){w0:World}{kb:Nat}{rt:Value}(hr:KR w0 kb vz ⟨rt, .slice none 0 0, .slice none 0 0, .slice none 0 0⟩):KS Z w0 kb w0 vz ⟨rt, .slice none 0 0, .slice none 0 0, .slice none 0 0⟩ cs0:=by
 refine ⟨hr,[],[],Frm.refl _ _,hr.lt,⟨?_,?_⟩,RowI.nil _ _ _,RowI.nil _ _ _⟩
 ·intro i r hi
  match i,hi with
  | 0,hi=>cases hi;exact OW.nil _ _ _ _
  | 1,hi=>cases hi;exact OW.nil _ _ _ _
  | 2,hi=>cases hi;exact OW.nil _ _ _ _
  | 3,hi=>cases hi;exact OW.nil _ _ _ _
  | 4,hi=>cases hi;exact OW.nil _ _ _ _
  | 5,hi=>cases hi;exact OW.nil _ _ _ _
  | i+6,hi=>simp at hi
 ·intro i j r s _ hi _ g hg
  match i,hi with
  | 0,hi=>cases hi;cases hg
  | 1,hi=>cases hi;cases hg
  | 2,hi=>cases hi;cases hg
  | 3,hi=>cases hi;cases hg
  | 4,hi=>cases hi;cases hg
  | 5,hi=>cases hi;cases hg
  | i+6,hi=>simp at hi
theorem lineOf_any(i:Nat)(w:World)(hi:i≤1000000):Calls Tryz.prog 25 #[.int .i64 i] w fun e w'=>e=.returned (.int .i64 ((i+2:Nat):Int))∧w=w':=by
 go_enter Tryz.func25,Tryz.ntmps25
 go_wp2;go_ret;exact ⟨congrArg Ending.returned (by go_num),rfl⟩
def PCQ(re:List UInt8→Nat)(aut:List UInt8→AutM)(C:List CR)(w:World)(e:Ending)(w':World):Prop :=
 Frm [] w w'∧((∃ n ln,pread re aut cs0 0 C=.error (n,ln)∧e=.returned (.tuple #[.agg vz.cells, .int .i64 (n:Nat), .int .i64 (ln:Nat)])) ∨
 (∃ s V,pread re aut cs0 0 C=.ok s∧e=.returned (.tuple #[.agg V.cells, .int .i64 0, .int .i64 0])∧PG [] w' V (compM C s)))
theorem RowI.plain{A:List Nat}{w:World}{css:List (Array Value)}{xs:List HitM}(h:RowI hitT A w css xs):RowI hitI A w css xs :=
 ⟨h.1,fun n cs x h1 h2=>by obtain ⟨g,e,r⟩:=h.2 n cs x h1 h2;exact ⟨_,e,r⟩⟩
theorem pCompile_any(re:List UInt8→Nat)(aut:List UInt8→AutM)(vr vt:Value)(C:List CR)(w:World)(hrt:RTS [] w vt C)(hne:0<C.length)(hCl:C.length≤16)(hC:∀ c∈C,c.d≤5∧c.bys.length≤4∧-1≤c.wt∧-1≤c.ev∧-1≤c.rp∧c.ifs.length≤4∧∀ m∈c.ifs,m.2.1≤3∧((m.2.1=2∨m.2.1=3)→RCP re aut m.2.2))(hvr:∃ a n c,vr=.slice a n c) :
 Calls Tryz.prog 15 #[.agg #[vr,vt]] w (PCQ re aut C w):=by
 obtain ⟨a0,n0,c0,rfl⟩:=hvr;obtain ⟨at',capt,ert⟩:∃ a cap,vt=.slice a C.length cap:=by
  obtain ⟨css,h1,h2⟩:=hrt;obtain ⟨a,cap,e,_⟩:=row_at h1 h2;exact ⟨a,cap,e⟩
 subst ert;obtain ⟨W0,hW0⟩:∃ W0,W0=((w.alloc (Obj.cells #[.slice a0 n0 c0, .slice at' C.length capt] 50)).alloc (Obj.cells #[.slice none 0 0, .slice none 0 0, .slice none 0 0, .slice none 0 0, .slice none 0 0, .slice none 0 0] 58)).alloc (Obj.cells #[.slice none 0 0, .slice none 0 0, .slice none 0 0, .slice none 0 0, .slice none 0 0, .slice none 0 0, .slice at' C.length capt, .slice none 0 0, .slice none 0 0, .slice none 0 0] 75):=⟨_,rfl⟩;have F0:Frm [] w W0:=by rw[hW0];exact (((Frm.refl [] w).alloc _).alloc _).alloc _
 have hz0:W0.heap.size=w.heap.size+3:=by rw[hW0];simp
 have BC:W0.heap[w.heap.size]?=some (Obj.cells #[.slice a0 n0 c0, .slice at' C.length capt] 50):=by
  rw[hW0];exact ((((Frm.refl [] _).alloc _).alloc _).block w.heap.size (by simp) (by simp)).trans (heap1 _ _)
 have BP:W0.heap[w.heap.size+1]?=some (Obj.cells #[.slice none 0 0, .slice none 0 0, .slice none 0 0, .slice none 0 0, .slice none 0 0, .slice none 0 0] 58):=by
  rw[hW0];exact (((Frm.refl [] _).alloc _).block (w.heap.size+1) (by simp) (by simp)).trans (alloc_at _ _ _ (by simp))
 have BK:KR W0 (w.heap.size+1+1) vz ⟨.slice at' C.length capt, .slice none 0 0, .slice none 0 0, .slice none 0 0⟩:=by
  rw[hW0];exact alloc_at _ _ _ (by simp)
 have HS:=hide (KS.start [w.heap.size+1] BK);have HRT:Hid (RTS [w.heap.size+1+1] W0 (.slice at' C.length capt) C):=(hrt.avoid (by simp;omega)).frm F0 (by simp);have HC:=hide hC;have HF0:=hide F0;have HBC:=hide BC;have HBP:=hide BP;have HW0:=hide hW0;clear hrt hC F0 BC BP BK hW0;go_enter Tryz.func15,Tryz.ntmps15
 go_wp2_with fail
 go_loopg [15] C.length (fun k v15 wr=>∃ (j:Nat) (sj:CS) (Vj:V6) (Uj:V4),j+k=C.length∧v15=.int .i64 j∧Hid (KS [w.heap.size+1] W0 (w.heap.size+1+1) wr Vj Uj sj)∧Hid (KV vz Vj ⟨.slice at' C.length capt, .slice none 0 0, .slice none 0 0, .slice none 0 0⟩ Uj)∧Hid (pread re aut sj j (C.drop j)=pread re aut cs0 0 C)∧Hid (CSB sj (4*j))∧Hid (sj.q.length=j)∧Hid (∀ x∈sj.q,x.length≤4)∧Hid (∀ y∈sj.x,re y=0))
 case atStart =>
  refine ⟨0,cs0,vz,_,by omega,rfl,?_,KV.refl _ _,?_,⟨by simp[cs0],by simp[cs0],by simp[cs0],by simp[cs0],by simp[cs0]⟩,?_,?_,?_⟩
  ·show KS _ _ _ _ _ _ _
   have:=HS.out;rw[HW0.out]at this ⊢;exact this
  ·show _=_;rfl
  ·show _=_;rfl
  ·intro x hx;simp[cs0]at hx
  ·intro x hx;simp[cs0]at hx
 case round =>
  obtain ⟨j,sj,Vj,Uj,hjk,rfl,KJ,HKV,HP,CBJ,HQL,HQ4,HX⟩:=hrel;have hzj:=KJ.out.fr.size;have bc:=(KJ.out.fr.block w.heap.size (by omega) (by simp;omega)).trans HBC.out;have bp:=(KJ.out.fr.block (w.heap.size+1) (by omega) (by simp)).trans HBP.out;have k1:wr.cell? ⟨w.heap.size,1,none⟩=some (.slice at' C.length capt):=by simp[World.cell?,bc]
  by_cases hlt:j<C.length
  ·have hd1:decide ((j:Int)<(C.length:Int))=true:=decide_eq_true (by omega)
   obtain ⟨css,r1,r2⟩:=HRT.out;obtain ⟨a',cap',ea,rr⟩:=row_at r1 r2;simp only[Value.slice.injEq,true_and]at ea;obtain ⟨rfl,rfl⟩:=ea;obtain ⟨gr,or,csr,rfl,hgr,hgk,⟨vby,vif,rfl,hby,hif⟩,kk⟩:=rr j hlt;obtain ⟨ay,cy,rfl,_⟩:=hby.str;obtain ⟨ai,ci,rfl,_⟩:=hif.mts;have tc:∀ (o:Nat) (u:Value),(rcl C[j] (.slice ay C[j].bys.length cy) (.slice ai C[j].ifs.length ci))[o]?=some u→wr.cell? ⟨gr,or+j*9+o,none⟩=some u:=fun o u hu=>(KJ.out.fr.cell (p:=⟨gr,or+j*9+o,none⟩) hgr hgk).trans (kk o u hu)
   have t0:wr.cell? ⟨gr,or+j*9,none⟩=some (.int .i64 (C[j].d:Nat)):=tc 0 _ rfl;have t1:wr.cell? ⟨gr,or+j*9+1,none⟩=some (.string (bs C[j].rc)):=tc 1 _ rfl;have t2:wr.cell? ⟨gr,or+j*9+2,none⟩=some (.bool C[j].tb):=tc 2 _ rfl;have t3:wr.cell? ⟨gr,or+j*9+3,none⟩=some (.slice ay C[j].bys.length cy):=tc 3 _ rfl;have t4:wr.cell? ⟨gr,or+j*9+4,none⟩=some (.int .i64 C[j].wt):=tc 4 _ rfl;have t5:wr.cell? ⟨gr,or+j*9+5,none⟩=some (.int .i64 C[j].ev):=tc 5 _ rfl;have t6:wr.cell? ⟨gr,or+j*9+6,none⟩=some (.int .i64 C[j].rp):=tc 6 _ rfl;have t7:wr.cell? ⟨gr,or+j*9+7,none⟩=some (.slice ai C[j].ifs.length ci):=tc 7 _ rfl;have t8:wr.cell? ⟨gr,or+j*9+8,none⟩=some (.bool C[j].co):=tc 8 _ rfl;have hgrr:gr<wr.heap.size:=by omega
   have hcj:=HC.out C[j] (List.getElem_mem hlt);obtain ⟨h1,h2,h3,h4,h5,h6,h7⟩:=hcj;have hcb:=CBJ.out;have N1:Hid (∀ W,Frm [] wr W→Calls Tryz.prog 24 #[.pointer (some ⟨w.heap.size+1+1,0,none⟩), .slice ai C[j].ifs.length ci] W (RMQ [w.heap.size+1] re aut W0 (w.heap.size+1+1) Vj Uj sj C[j].ifs)):=fun W hW=>readMatchers_any [w.heap.size+1] re aut W0 (w.heap.size+1+1) W Vj Uj sj (KJ.out.frm hW) (by have:=hW.size;simp;omega) ⟨by have:=hcb.n;omega,by have:=hcb.c;omega,by have:=hcb.x;omega,by have:=hcb.a;omega,by have:=hcb.t;omega⟩ _ C[j].ifs hif h6 h7 (by rw[HQL.out];omega)
   have HPR:Hid (pread re aut sj j (C[j]::C.drop (j+1))=pread re aut cs0 0 C):=by show _=_;rw[← List.drop_eq_getElem_cons hlt];exact HP.out
   clear kk rr hif hby tc hcb HP bc h7;generalize C[j]=c at *;go_wp2_with fail
   refine (N1.out _ ((Frm.refl [] _).alloc _)).mono ?_;clear N1;rintro e w2 hT;rcases hT with ⟨n,e1,rfl,hF2⟩|⟨l,s1,V2,U2,e1,rfl,hK2,hKV2⟩
   ·have HE:Hid (pread re aut cs0 0 C=.error (n,j+2)):=by show _=_;rw[← HPR.out,pread,e1]
    have hn0:((n:Int) != 0)=true:=by
     rcases pmat_fault (re:=re) (aut:=aut) c.ifs sj [] HX.out with ⟨e,f1,_,f3⟩|⟨l',s',f1,_⟩
     ·rw[e1]at f1;cases f1
      rw[bne_iff_ne];omega
     ·rw[e1]at f1;cases f1
    have bp2:=(hF2.block (w.heap.size+1) (by omega) (by simp)).trans HBP.out;have e0:w2.cell? ⟨w.heap.size+1,0,none⟩=some (.slice none 0 0):=by simp[World.cell?,bp2]
    have e1':w2.cell? ⟨w.heap.size+1,1,none⟩=some (.slice none 0 0):=by simp[World.cell?,bp2]
    have e2:w2.cell? ⟨w.heap.size+1,2,none⟩=some (.slice none 0 0):=by simp[World.cell?,bp2]
    have e3:w2.cell? ⟨w.heap.size+1,3,none⟩=some (.slice none 0 0):=by simp[World.cell?,bp2]
    have e4:w2.cell? ⟨w.heap.size+1,4,none⟩=some (.slice none 0 0):=by simp[World.cell?,bp2]
    have e5:w2.cell? ⟨w.heap.size+1,5,none⟩=some (.slice none 0 0):=by simp[World.cell?,bp2]
    have ez:∀ o,w2.frozen? ⟨w.heap.size+1,o,none⟩=false:=fun o=>by simp[World.frozen?,bp2]
    have HB2:=hide bp2;have F2:=hide hF2;have NL:=hide (lineOf_any j w2 (by omega));clear e1 bp2 hF2 HPR;go_wp2_with fail
    refine (NL.out).mono ?_;rintro e w' ⟨rfl,rfl⟩;go_wp2_with fail
    refine bodyPost_ret (results3 rfl _ _ (w.heap.size+1) vz.cells _ _ rfl rfl rfl (loadProg (set6_row _ _ _ _ _ _ HB2.out) rfl)) rfl ?_;refine ⟨?_, .inl ⟨n,j+2,HE.out,rfl⟩⟩;exact ((HF0.out.over F2.out (by simp;omega)).over (set6_frm _ _ _ _ _ _ _ _) (by simp))
   ·obtain ⟨g1,g2,g3⟩:=pmat_cb c.ifs sj [] (4*j) CBJ.out e1
    have HE:Hid (pread re aut { s1 with q:=s1.q++[l] } (j+1) (C.drop (j+1))=pread re aut cs0 0 C):=by show _=_;rw[← HPR.out,pread,e1]
    have CB2:Hid (CSB { s1 with q:=s1.q++[l] } (4*(j+1))):=⟨by have:=g1.n;simp only;omega,by have:=g1.c;simp only;omega,by have:=g1.x;simp only;omega,by have:=g1.a;simp only;omega,by have:=g1.t;simp only;omega⟩;have HQ2:Hid ({ s1 with q:=s1.q++[l] }.q.length=j+1):=by show (s1.q++[l]).length=_;rw[List.length_append,g2,HQL.out];rfl
    have HQ5:Hid (∀ x∈{ s1 with q:=s1.q++[l] }.q,x.length≤4):=by
     intro x hx;have hx':x∈s1.q++[l]:=hx;rw[List.mem_append,List.mem_singleton,g2]at hx';rcases hx' with hx'|rfl
     ·exact HQ4.out x hx'
     ·simp at g3;omega
    have HX2:Hid (∀ y∈{ s1 with q:=s1.q++[l] }.x,re y=0):=by
     rcases pmat_fault (re:=re) (aut:=aut) c.ifs sj [] HX.out with ⟨e,f1,_⟩|⟨l',s',f1,_,f3⟩
     ·rw[e1]at f1;cases f1
     ·rw[e1]at f1;cases f1;exact f3
    have K2:=hide hK2;have KV2:=hide (HKV.out.trans hKV2);clear hK2 hKV2 g1 g2 g3 e1 HPR;go_wp2;go_roundg (gk-1)
    case measure=>omega
    case rel=>exact ⟨j+1,_,V2,U2,by omega,by go_num,K2,KV2,HE,CB2,HQ2,HQ5,HX2⟩
  ·have hd1:decide ((j:Int)<(C.length:Int))=false:=decide_eq_false (by omega)
   have hj:j=C.length:=by omega
   have HE:Hid (pread re aut cs0 0 C=.ok sj):=by
    show _=_;rw[← HP.out,hj,List.drop_length]
    rfl
   obtain ⟨vn,vc,va,vt,vr,vi⟩:=Vj;obtain ⟨rt,ux,uq,ul⟩:=Uj;obtain ⟨e1,e2,e3,e4⟩:=HKV.out;simp only at e1 e2 e3 e4;subst e1 e2 e3 e4;have N2:=hide (hits_any [w.heap.size+1+1,w.heap.size+1] wr (by simp;omega) (.slice at' C.length capt) C ((HRT.out.frm KJ.out.fr (by simp)).avoid (by simp)) (by omega) (fun c hm=>by obtain ⟨h1,h2,h3,h4,h5,_⟩:=HC.out c hm;exact ⟨by omega,h2,h3,h4,h5⟩));have KR1:=hide KJ.out.row;have HBW:=hide bp;clear HP HKV bc bp;go_wp2_with fail
   refine (N2.out).mono ?_;clear N2;rintro e w2 ⟨v2,css,rfl,hF2,hO2,hI2⟩;obtain ⟨ah,ch,he⟩:=hO2.shape;rw[lst_len]at he;subst he;have R2:=hide (KR1.out.frm hF2 (by simp));have c4:=R2.out.c 4;simp at c4;have z4:=R2.out.fz 4;have R3:=hide (R2.out.set (V':=⟨vn,vc,va,vt, .slice ah css.length ch, .slice none 0 0⟩) (U':=⟨.slice at' C.length capt,ux,uq, .slice none 0 0⟩) 4 (.slice ah css.length ch) rfl);have FK:Hid (Frm [w.heap.size+1+1] wr (w2.setCell ⟨w.heap.size+1+1,4,none⟩ (.slice ah css.length ch))):=((Frm.refl _ _).over hF2 (by simp)).setCell (p:=⟨w.heap.size+1+1,4,none⟩) (.inl (by simp)) _;have O2:=hide hO2;have I2:=hide hI2;have F2:=hide hF2;have HLC:Hid (LC (w2.setCell ⟨w.heap.size+1+1,4,none⟩ (.slice ah css.length ch)) (w.heap.size+1+1) (.slice at' C.length capt) uq C sj.q):=by
    obtain ⟨ca,cq,g⟩:=KJ.out.g;refine ⟨(HRT.out.frm KJ.out.fr (by simp)).frm FK.out (by simp),⟨cq,?_,?_⟩,by rw[HQL.out,hj],HQ4.out,hCl,fun c hm=>(HC.out c hm).1⟩
    ·have ow:OW 114 1 W0.heap.size wr uq (lst cq):=g.rw.o 5 ⟨114,1,uq,lst cq⟩ rfl
     exact (ow.rw (A:=[w.heap.size+1+1]) (fun x hx hm=>by simp at hm;have:=(ow.lt hx).1;omega)).frm FK.out (by simp)
    ·exact (g.qi.avoid (B:=[w.heap.size+1+1]) (fun x hx=>by simp at hx;subst hx;exact .inl (by simp))).frm FK.out (by simp)
   generalize hw3:w2.setCell ⟨w.heap.size+1+1,4,none⟩ (.slice ah css.length ch)=w3 at *;have N3:=hide (instructions_any w3 (w.heap.size+1+1) w3 _ _ ux uq C sj.q HLC.out ⟨R3.out,Frm.refl _ _,R3.out.lt,OW.nil _ _ _ _⟩ hne);have HW3:=hide hw3;clear hF2 hO2 hI2 HLC;obtain ⟨an,cn,en⟩:∃ a c,vn=.slice a sj.n.length c:=by
    obtain ⟨a,c,e⟩:=(KJ.out.own 0 (r:=⟨9,1,vn,sc sj.n⟩) (fun ca cq=>rfl)).shape;exact ⟨a,c,by rw[sc_len]at e;exact e⟩
   obtain ⟨ac,cc',ec⟩:∃ a c,vc=.slice a sj.c.length c:=by
    obtain ⟨a,c,e⟩:=(KJ.out.own 1 (r:=⟨9,1,vc,sc sj.c⟩) (fun ca cq=>rfl)).shape;exact ⟨a,c,by rw[sc_len]at e;exact e⟩
   obtain ⟨atx,ctx,et⟩:∃ a c,vt=.slice a sj.t.length c:=by
    obtain ⟨a,c,e⟩:=(KJ.out.own 4 (r:=⟨97,3,vt,tc sj.t⟩) (fun ca cq=>rfl)).shape;exact ⟨a,c,by rw[tc_len]at e;exact e⟩
   obtain ⟨aa,na,caa,ea⟩:∃ a n c,va=.slice a n c:=by
    obtain ⟨ca,cq,g⟩:=KJ.out.g;obtain ⟨a,c,e⟩:=(g.rw.o 3 ⟨95,259,va,lst ca⟩ rfl).shape;exact ⟨a,_,c,e⟩
   subst en ec et ea;go_wp2_with fail
   refine (N3.out).mono ?_;clear N3;rintro e w4 ⟨v4,vl4,rfl,hR4,_,hF4,hO4⟩;obtain ⟨a4,c4',e4⟩:=hO4.shape;subst e4;have d0:=hR4.c 0;have d1:=hR4.c 1;have d2:=hR4.c 2;have d3:=hR4.c 3;have d4:=hR4.c 4;have d5:=hR4.c 5;have dz:=hR4.fz 5;simp at d0 d1 d2 d3 d4 d5;have F4:=hide hF4;have O4:=hide hO4;have F23:Frm [w.heap.size+1+1] w2 w3:=by rw[← HW3.out];exact (Frm.refl _ _).setCell (p:=⟨w.heap.size+1+1,4,none⟩) (.inl (by simp)) _
   have HF23:=hide F23;have b4:=(hF4.block (w.heap.size+1) (by have:=F23.size;have:=F2.out.size;omega) (by simp)).trans ((F23.block (w.heap.size+1) (by have:=F2.out.size;omega) (by simp)).trans ((F2.out.block (w.heap.size+1) (by omega) (by simp)).trans HBW.out));have p0:w4.cell? ⟨w.heap.size+1,0,none⟩=some (.slice none 0 0):=by simp[World.cell?,b4]
   have p1:w4.cell? ⟨w.heap.size+1,1,none⟩=some (.slice none 0 0):=by simp[World.cell?,b4]
   have p2:w4.cell? ⟨w.heap.size+1,2,none⟩=some (.slice none 0 0):=by simp[World.cell?,b4]
   have p3:w4.cell? ⟨w.heap.size+1,3,none⟩=some (.slice none 0 0):=by simp[World.cell?,b4]
   have p4:w4.cell? ⟨w.heap.size+1,4,none⟩=some (.slice none 0 0):=by simp[World.cell?,b4]
   have p5:w4.cell? ⟨w.heap.size+1,5,none⟩=some (.slice none 0 0):=by simp[World.cell?,b4]
   have pz:∀ o,w4.frozen? ⟨w.heap.size+1,o,none⟩=false:=fun o=>by simp[World.frozen?,b4]
   have HB4:=hide b4;clear hR4 hF4 hO4 F23 b4;go_wp2_with fail
   have hl4:w.heap.size+1<w4.heap.size:=(Array.getElem?_eq_some_iff.1 HB4.out).1;have FB:=fun (X:Value)=>(Frm.refl [w.heap.size+1+1] w4).setCell (p:=⟨w.heap.size+1+1,5,none⟩) (.inl (by simp)) X
   refine bodyPost_ret (results3 rfl _ _ (w.heap.size+1) (V6.cells ⟨.slice an sj.n.length cn, .slice ac sj.c.length cc', .slice aa na caa, .slice atx sj.t.length ctx, .slice ah css.length ch, .slice a4 (icl (codeM C sj.q)).length c4'⟩) _ _ rfl rfl rfl (loadProg (set6_row _ _ _ _ _ _ (((FB _).block (w.heap.size+1) hl4 (by simp)).trans HB4.out)) rfl)) rfl ?_;have FE:=((Frm.refl [w.heap.size+1+1,w.heap.size+1] w4).over (FB (.slice a4 (icl (codeM C sj.q)).length c4')) (by simp)).over (set6_frm _ (w.heap.size+1) (.slice an sj.n.length cn) (.slice ac sj.c.length cc') (.slice aa na caa) (.slice atx sj.t.length ctx) (.slice ah css.length ch) (.slice a4 (icl (codeM C sj.q)).length c4')) (by simp);have F3E:=((Frm.refl [w.heap.size+1+1,w.heap.size+1] w3).over F4.out (by simp)).trans FE;have F2E:=((Frm.refl [w.heap.size+1+1,w.heap.size+1] w2).over HF23.out (by simp)).trans F3E;have FRE:=((Frm.refl [w.heap.size+1+1,w.heap.size+1] wr).over F2.out (by simp)).trans F2E;obtain ⟨ca,cq,g⟩:=KJ.out.g;have hne2:∀ (e:TypeId) (k b:Nat) (u:World) (v:Value) (vs:List (List Value)),OW e k b u v vs→w.heap.size+3≤b→∀ x,v.ownBlock=some x→x ∉ [w.heap.size+1+1,w.heap.size+1]:=by
    intro e k b u v vs ho hb x hx hm;have:=(ho.lt hx).1;simp at hm;omega
   refine ⟨(HF0.out.over KJ.out.fr (by simp;omega)).over FRE (by simp;omega), .inr ⟨sj,_,HE.out,rfl,?_⟩⟩;have on:=g.rw.o 0 ⟨9,1, .slice an sj.n.length cn,sc sj.n⟩ rfl;have oc:=g.rw.o 1 ⟨9,1, .slice ac sj.c.length cc',sc sj.c⟩ rfl;have oa:=g.rw.o 3 ⟨95,259, .slice aa na caa,lst ca⟩ rfl;have ot:=g.rw.o 4 ⟨97,3, .slice atx sj.t.length ctx,tc sj.t⟩ rfl;have hz2:=F2.out.size;have hz3:=HF23.out.size;refine ⟨?_,?_,⟨ca,?_,?_⟩,?_,⟨css,?_,?_⟩,?_⟩
   ·exact ((on.rw (hne2 _ _ _ _ _ _ on (by omega))).frm FRE (by simp)).avoid (by simp)
   ·exact ((oc.rw (hne2 _ _ _ _ _ _ oc (by omega))).frm FRE (by simp)).avoid (by simp)
   ·exact ((oa.rw (hne2 _ _ _ _ _ _ oa (by omega))).frm FRE (by simp)).avoid (by simp)
   ·exact ((g.ai.avoid (B:=[w.heap.size+1+1,w.heap.size+1]) (fun x hx=>.inl (by simp at hx ⊢;rcases hx with rfl|rfl;exact .inr (.inl rfl);exact .inl rfl))).frm FRE (by simp)).avoid (by simp)
   ·exact ((ot.rw (hne2 _ _ _ _ _ _ ot (by omega))).frm FRE (by simp)).avoid (by simp)
   ·exact ((O2.out.rw (hne2 _ _ _ _ _ _ O2.out (by omega))).frm F2E (by simp)).avoid (by simp)
   ·exact (((I2.out.avoid (B:=[w.heap.size+1+1,w.heap.size+1]) (fun x hx=>.inl (List.mem_append.2 (.inl hx)))).frm F2E (by simp)).avoid (by simp)).plain
   ·exact ((O4.out.rw (hne2 _ _ _ _ _ _ O4.out (by omega))).frm FE (by simp)).avoid (by simp)
end Go.Proofs.YtpcbbbilmpobaaaGreatDoor
