import Derived.Test.YtpcbbbilmpobaaaGreatDoorJ16
import Derived.Deep.DeepCutAuto
import Derived.Deep.CutBlock
set_option linter.unusedVariables false
set_option linter.unusedSimpArgs false
set_option linter.unnecessarySimpa false
set_option maxRecDepth 100000
set_option maxHeartbeats 8000000
namespace Go.Proofs.YtpcbbbilmpobaaaGreatDoor
open Go.RowKit
def RCP(re:List UInt8→Nat)(aut:List UInt8→AutM)(v:List UInt8):Prop :=
 ∀ w:World,Calls Tryz.prog 93 #[.string (bs v)] w fun e w'=>Frm [] w w'∧∃ cs:Array Value,cs.size=259∧cs.all (·.oneCell')=true∧e=.returned (.tuple #[.agg cs, .int .i64 (re v:Nat)])∧(re v=0→∀ A:List Nat,(∀ g∈A,g<w.heap.size)→RowI autI A w' [cs] [aut v])
def KV(V V':V6)(U U':V4):Prop:=V'.r=V.r∧V'.i=V.i∧U'.rt=U.rt∧U'.l=U.l
theorem KV.refl(V:V6)(U:V4):KV V V U U:=⟨rfl,rfl,rfl,rfl⟩
theorem KV.trans{V V1 V2:V6}{U U1 U2:V4}(h:KV V V1 U U1)(k:KV V1 V2 U1 U2):KV V V2 U U2:=⟨k.1.trans h.1,k.2.1.trans h.2.1,k.2.2.1.trans h.2.2.1,k.2.2.2.trans h.2.2.2⟩
def NAQ(Z:List Nat)(re:List UInt8→Nat)(aut:List UInt8→AutM)(w0:World)(kb:Nat)(w:World)(V:V6)(U:V4)(s:CS)(v:List UInt8)(e:Ending)(w':World):Prop :=
 (fdx s.x v<s.x.length∧e=.returned (.tuple #[.int .i64 (fdx s.x v:Nat), .int .i64 0])∧KS Z w0 kb w' V U s∧KF kb w V U w' V U) ∨
 (fdx s.x v=s.x.length∧re v=0∧e=.returned (.tuple #[.int .i64 (s.x.length:Nat), .int .i64 0])∧∃ V' U',KS Z w0 kb w' V' U' { s with x:=s.x++[v],a:=s.a++[aut v] }∧KV V V' U U'∧KF kb w V U w' V' U') ∨
 (fdx s.x v=s.x.length∧re v≠0∧e=.returned (.tuple #[.int .i64 0, .int .i64 (re v:Nat)])∧Frm [kb] w0 w'∧KF kb w V U w' V U)
theorem KS.fr{Z:List Nat}{w0:World}{kb:Nat}{w:World}{V:V6}{U:V4}{s:CS}(h:KS Z w0 kb w V U s):Frm [kb] w0 w:=by
 obtain ⟨ca,cq,g⟩:=h.g;exact g.fr
theorem KG.owns_lt{Z:List Nat}{w0:World}{kb:Nat}{w:World}{rs:List RD}{ca:List (Array Value)}{sa:List AutM}{cq:List (Array Value)}{sq:List (List (Nat × Bool))}(h:KG Z w0 kb w rs ca sa cq sq):∀ g∈kb::owns rs,g<w.heap.size:=by
 intro g hg;rcases List.mem_cons.1 hg with rfl|hg
 ·exact Nat.lt_of_lt_of_le h.lo h.fr.size
 ·obtain ⟨i,r,hi,ho⟩:=mem_owns.1 hg
  exact ((h.rw.o i r hi).lt ho).2
theorem owns_set{Z:List Nat}{kb gg:Nat}{rs:List RD}(i:Nat){r r':RD}(hi:rs[i]?=some r)(hb:r'.v.ownBlock=some gg):∀ g∈Z++kb::owns (rs.set i r'),g∈Z++kb::owns rs∨g=gg:=by
 have hil:i<rs.length:=(List.getElem?_eq_some_iff.1 hi).1;intro g hm;rcases List.mem_append.1 hm with hm|hm
 ·exact .inl (List.mem_append.2 (.inl hm))
 rcases List.mem_cons.1 hm with rfl|hm
 ·exact .inl (by simp)
 ·obtain ⟨j,s,hj,hs⟩:=mem_owns.1 hm
  by_cases e:j=i
  ·subst e
   rw[List.getElem?_set_self hil]at hj;cases hj
   rw[hb]at hs;exact .inr (Option.some.inj hs).symm
  ·rw[List.getElem?_set_ne (fun h=>e h.symm)]at hj
   exact .inl (List.mem_append.2 (.inr (List.mem_cons.2 (.inr (mem_owns.2 ⟨j,s,hj,hs⟩)))))
theorem owns_own{Z:List Nat}{kb g:Nat}{rs:List RD}(i:Nat){r:RD}(hi:rs[i]?=some r)(ho:r.v.ownBlock=some g):g∈Z++kb::owns rs:=List.mem_append.2 (.inr (List.mem_cons.2 (.inr (mem_owns.2 ⟨i,r,hi,ho⟩))))
theorem numberOfAutomaton_any(Z:List Nat)(re:List UInt8→Nat)(aut:List UInt8→AutM)(w0:World)(kb:Nat)(w:World)(V:V6)(U:V4)(s:CS)(h:KS Z w0 kb w V U s)(hZ:∀ g∈Z,g<w.heap.size)(v:List UInt8)(hv:RCP re aut v)(hx:s.x.length≤1000)(hsa:s.a.length≤1000) :
 Calls Tryz.prog 72 #[.pointer (some ⟨kb,0,none⟩), .string (bs v)] w (NAQ Z re aut w0 kb w V U s v):=by
 obtain ⟨vn,vc,va,vt,vr,vi⟩:=V;obtain ⟨rt,ux,uq,ul⟩:=U;have hO:OW 9 1 w0.heap.size w ux (sc s.x):=h.own 2 (r:=⟨9,1,ux,sc s.x⟩) (fun ca cq=>rfl);have N1:=hide (find_any w ux [] s.x v (hO.rw (by simp)) (by omega));obtain ⟨ax,cx,he⟩:=hO.shape;rw[sc_len]at he;subst he;have c7:=h.row.c 7;simp at c7;have hfl:=fdx_le s.x v;have HK:=hide h;have hlo:=h.lo;have hkw:=h.row.lt;have HV:=hide hv;clear h hO hv
 by_cases hfd:fdx s.x v<s.x.length
 ·have hd1:decide ((fdx s.x v:Int)<(s.x.length:Int))=true:=decide_eq_true (by omega)
  have HFD:=hide hfd;clear hfd hfl;generalize hf:fdx s.x v=fx at *;have HF:=hide hf;clear hf;go_enter Tryz.func72,Tryz.ntmps72
  go_wp2_with fail
  refine (N1.out).mono ?_;rintro e w1 ⟨rfl,rfl⟩;go_wp2;go_ret2;exact .inl ⟨by rw[HF.out];exact HFD.out,by rw[HF.out];rfl,HK.out,KF.refl _ _ _ _⟩
 ·have hfe:fdx s.x v=s.x.length:=by omega
  rw[hfe]at N1;have HFE:=hide hfe;clear hfd hfl hfe;have N2:=hide (HV.out w);go_enter Tryz.func72,Tryz.ntmps72
  go_wp2_with fail
  refine (N1.out).mono ?_;rintro e w1' ⟨rfl,rfl⟩;clear N1;go_wp2_with fail
  refine (N2.out).mono ?_;clear N2;rintro e w1 ⟨hF1,cs,hcs,hall,rfl,hrow⟩;obtain ⟨W3,hst,hfr3,hh3,hz3⟩:∃ W3,(storeCells ⟨w1.heap.size,0,none⟩ cs.toList).run Tryz.prog (w1.alloc (Obj.cells Tryz.zeroCells95 95))=.ok () W3∧Hid (Frm [] w1 W3)∧Hid (W3.heap[w1.heap.size]?=some (.cells cs 95 (0,0)))∧W3.heap.size=w1.heap.size+1:=by
   have hh:(w1.alloc (Obj.cells Tryz.zeroCells95 95)).heap[w1.heap.size]?=some (.cells Tryz.zeroCells95 95 (0,0)):=heap1 _ _;exact ⟨_,store_row hh (by rw[hcs,autoZero9]) hall,((Frm.refl [] w1).alloc _).over (Frm.setRow _ _ _) (by simp),setRow_at hh,by simp[World.setRow]⟩
  have HZ3:=hide hz3;clear hz3;have F13:=hide (hF1.trans hfr3.out);have hz13:=F13.out.size;have K3:=hide (HK.out.frm F13.out);have k7:=K3.out.row.c 7;simp at k7;have kz7:=K3.out.row.fz 7
  by_cases hre:re v=0
  ·have hne:((re v:Int)==0)=true:=by rw[hre];rfl
   have HROW:Hid (∀ A:List Nat,(∀ g∈A,g<w.heap.size)→RowI autI A W3 [cs] [aut v]):=fun A hA=>(hrow hre A hA).frm hfr3.out (by simp)
   have HRE:=hide hre;rw[hre];have HCS:=hide hcs;have HALL:=hide hall;have hz1:=hF1.size;clear hrow hF1 hall hfr3 hne c7 hre;have OX:=hide (K3.out.own 2 (r:=⟨9,1, .slice ax s.x.length cx,sc s.x⟩) (fun ca cq=>rfl));have HOB:Hid (∀ r,Value.ownBlock (.slice ax s.x.length cx)=some r→w0.heap.size≤r∧r<w.heap.size):=fun r hr=>⟨(OX.out.lt hr).1,((HK.out.own 2 (r:=⟨9,1, .slice ax s.x.length cx,sc s.x⟩) (fun ca cq=>rfl)).lt hr).2⟩
   have hz0:=hlo.2;have hk0:=hlo.1;go_upto_region 7 with fail
   go_cut [6] (fun v6 wc=>True∧v6=.int .i64 (s.x.length:Nat)∧∃ ux ca cq,KR wc kb ⟨vn,vc,va,vt,vr,vi⟩ ⟨rt,ux,uq,ul⟩∧KG Z w0 kb wc (krs ⟨vn,vc,va,vt,vr,vi⟩ ⟨rt,ux,uq,ul⟩ { s with x:=s.x++[v] } ca cq) ca s.a cq s.q∧wc.heap[w1.heap.size]?=some (.cells cs 95 (0,0))∧RowI autI (Z++kb::owns (krs ⟨vn,vc,va,vt,vr,vi⟩ ⟨rt,ux,uq,ul⟩ { s with x:=s.x++[v] } ca cq)) wc [cs] [aut v]∧KF kb w ⟨vn,vc,va,vt,vr,vi⟩ ⟨rt, .slice ax s.x.length cx,uq,ul⟩ wc ⟨vn,vc,va,vt,vr,vi⟩ ⟨rt,ux,uq,ul⟩)
   case first =>
    go_wp2_with (at_builtin;refine wp_appSc _ rfl _ _ rfl w0.heap.size (.slice ax s.x.length cx) s.x W3.heap.size v rfl (OX.out.frm (S:=[]) ((Frm.refl [] _).alloc _) (by simp)) rfl (by simp) (by omega) (by simp;omega) ?_;intro g2 cap2 w4 hs4 hg4 hor4 hlt4;have O4:=hide hs4;have G4:=hide hg4;have R4:=hide ((K3.out.row.frm (S:=[]) ((Frm.refl [] _).alloc _) (by simp)).grown G4.out (fun r hr=>by have:=(HOB.out r hr).1;omega));have j7:=R4.out.c 7;have jz:=R4.out.fz 7;simp at j7;have HOR:=hide hor4;clear hs4 hg4 hor4)
    go_meet;have K4:=K3.out.put ((Frm.refl [] _).alloc _) 2 ⟨9,1, .slice ax s.x.length cx,sc s.x⟩ ⟨9,1, .slice (some ⟨g2,0,none⟩) (s.x.length+1) cap2,sc (s.x++[v])⟩ (V':=⟨vn,vc,va,vt,vr,vi⟩) (U':=⟨rt, .slice (some ⟨g2,0,none⟩) (s.x.length+1) cap2,uq,ul⟩) (s':={ s with x:=s.x++[v] }) (fun ca cq=>rfl) (fun ca cq=>rfl) rfl rfl G4.out O4.out rfl HOR.out 7 (.slice (some ⟨g2,0,none⟩) (s.x.length+1) cap2) rfl;obtain ⟨ca,cq,g4⟩:=K4.g;obtain ⟨ca0,cq0,g0⟩:=HK.out.g;have RA:=(HROW.out (Z++kb::owns (krs ⟨vn,vc,va,vt,vr,vi⟩ ⟨rt, .slice ax s.x.length cx,uq,ul⟩ s ca0 cq0)) (fun g hg=>by rcases List.mem_append.1 hg with hg|hg;exact hZ g hg;exact g0.owns_lt g hg)).frm (S:=[]) ((Frm.refl [] _).alloc (Obj.cells #[.string (bs v)] 9)) (by simp);have RA2:=RA.turn (B:=Z++kb::owns (krs ⟨vn,vc,va,vt,vr,vi⟩ ⟨rt, .slice (some ⟨g2,0,none⟩) (s.x.length+1) cap2,uq,ul⟩ { s with x:=s.x++[v] } ca cq)) G4.out (fun r hr=>owns_own 2 (r:=⟨9,1, .slice ax s.x.length cx,sc s.x⟩) rfl hr) HOR.out (owns_set (rs:=krs ⟨vn,vc,va,vt,vr,vi⟩ ⟨rt, .slice ax s.x.length cx,uq,ul⟩ s ca0 cq0) 2 (r:=⟨9,1, .slice ax s.x.length cx,sc s.x⟩) (r':=⟨9,1, .slice (some ⟨g2,0,none⟩) (s.x.length+1) cap2,sc (s.x++[v])⟩) rfl rfl);have FB:Frm [kb] w4 (w4.setCell ⟨kb,7,none⟩ (.slice (some ⟨g2,0,none⟩) (s.x.length+1) cap2)):=(Frm.refl [kb] _).setCell (p:=⟨kb,7,none⟩) (.inl (by simp)) _;refine ⟨trivial,rfl,_,ca,cq,K4.row,g4,?_,RA2.frm FB (by simp),KF.put (s:=s) (s':={ s with x:=s.x++[v] }) (ca:=[]) (cq:=[]) (ca':=[]) (cq':=[]) (F13.out.alloc _) 2 (r:=⟨9,1, .slice ax s.x.length cx,sc s.x⟩) (r':=⟨9,1, .slice (some ⟨g2,0,none⟩) (s.x.length+1) cap2,sc (s.x++[v])⟩) rfl rfl G4.out rfl HOR.out 7 _⟩;have h3:=HZ3.out;have e1:(W3.alloc (Obj.cells #[.string (bs v)] 9)).heap[w1.heap.size]?=some (.cells cs 95 (0,0)):=(((Frm.refl [] W3).alloc _).block w1.heap.size (by omega) (by simp)).trans hh3.out;have e2:w4.heap[w1.heap.size]?=some (.cells cs 95 (0,0)):=(G4.out.block w1.heap.size (by simp;omega) (fun e=>by have:=(HOB.out _ e.symm).2;omega)).trans e1;exact (FB.block w1.heap.size (Array.getElem?_eq_some_iff.1 e2).1 (by simp;omega)).trans e2
   case rest =>
    obtain ⟨_,rfl,ux,ca,cq,hKR,hKG,hH,hRA,hKFc⟩:=hcut;have KFC:=hide hKFc;clear hKFc;have hOA:OW 95 259 w0.heap.size wc va (lst ca):=hKG.rw.o 3 ⟨95,259,va,lst ca⟩ rfl;have hcal:ca.length≤1000:=by rw[hKG.ai.1];exact hsa
    obtain ⟨aa,cva,heA⟩:=hOA.shape;rw[lst_len]at heA;subst heA;have OA:=hide hOA;have HTC:=hide (lst_len ca);have HKR:=hide hKR;have HKG:=hide hKG;have HH:=hide hH;have HRA:=hide hRA;have hkc:=hKR.lt;have hzc:=hKG.fr.size;have c2:=hKR.c 2;have z2:=hKR.fz 2;simp at c2;have ag:Value.ownBlock (.slice aa ca.length cva)≠some kb:=fun e=>by have:=(OA.out.lt e).1;omega
    have g2z:∀ o:Obj,(wc.drew.alloc o).frozen? ⟨kb,2,none⟩=false:=fun o=>((((Frm.refl [] wc).drew).alloc o).frozen (p:=⟨kb,2,none⟩) hkc (by simp)).trans z2
    clear hOA hKR hKG hH hRA K3 k7 kz7 OX HOB;go_wp2_with fail
    refine wp_region_any (by kernel_rfl) ?_
    change wpAny _ _ _ _ _ _ _ (World.drew _)
    refine wpAny_take (i:=0) (v:=?v0) rfl (by kernel_rfl) (by kernel_rfl) (by kernel_rfl) (fun _ _ _ h=>h) (Or.inl ⟨by rfl,?h0⟩) ?_
    case h0=>intro w;go_simp;with_reducible rfl
    refine wpAny_take (i:=1) (v:=?v1) rfl (by kernel_rfl) (by kernel_rfl) (by kernel_rfl) (fun _ _ _ h=>h) (Or.inl ⟨by rfl,?h1⟩) ?_
    case h1=>intro w;go_simp;with_reducible rfl
    refine wpAny_take (i:=2) (v:=?v2) rfl (by kernel_rfl) (by kernel_rfl) (by kernel_rfl) (fun _ _ _ h=>h) (Or.inl ⟨by rfl,?h2⟩) ?_
    case h2=>intro w;go_simp;with_reducible rfl
    refine wpAny_take (i:=3) (v:=?v3) rfl (by kernel_rfl) (by kernel_rfl) (by kernel_rfl) (fun _ _ _ h=>h) (Or.inl ⟨by rfl,?h3⟩) ?_
    case h3=>intro w;go_simp;with_reducible rfl
    refine wpAny_take (i:=4) (v:=?v4) rfl (by kernel_rfl) (by kernel_rfl) (by kernel_rfl) (fun _ _ _ h=>h) (Or.inl ⟨by rfl,?h4⟩) ?_
    case h4=>intro w;go_simp;with_reducible rfl
    refine wpAny_ready (rs:=[5,6]) (by kernel_rfl) (by simp) ?_;refine AllReady.cons rfl (fun K hK=>?_) (AllReady.cons rfl (fun K hK=>?_) AllReady.nil)
    ·go_simp
     refine hK _ _ ?_;clear hK K;refine wpAny_ready (rs:=[6]) (by kernel_rfl) (by simp) ?_;refine AllReady.cons rfl (fun K hK=>?_) AllReady.nil;refine step_autoLoad _ (by rfl) _ (by rfl) w1.heap.size (by rfl) cs (autoLoad HH.out HCS.out) ?_;refine hK _ _ ?_;clear hK K;refine wpAny_ready (rs:=[7]) (by kernel_rfl) (by simp) ?_;refine AllReady.cons rfl (fun K hK=>?_) AllReady.nil;refine step_autoBuild _ (by rfl) _ (by rfl) cs (by rfl) HCS.out ?_;refine hK _ _ ?_;clear hK K;refine wpAny_ready (rs:=[8]) (by kernel_rfl) (by simp) ?_;refine AllReady.cons rfl (fun K hK=>?_) AllReady.nil
     (refine step_appG _ (by rfl) _ _ 53 95 _ 259 312 infoAut Tryz.underlying53 autoZero9 (by omega) (by rfl) w0.heap.size (.slice aa ca.length cva) (lst ca) wc.heap.size cs (0,0) (by rfl) (OA.out.frm (S:=[]) (((Frm.refl [] _).drew).alloc _) (by simp)) (by rfl) HCS.out (by exact heap1 _ _) HALL.out (by rw[HTC.out];omega) (by rw[HTC.out];omega) (by simp;omega) (wc.heap.size+1) (by simp) ?_;intro gg cap2 w4 hown4 hgrow hat hlt4;have c4:=(hgrow.cell_far ⟨kb,2,none⟩ (by simp;omega) (Ne.symm ag));have f4:=(hgrow.frozen_far ⟨kb,2,none⟩ (by simp;omega) (Ne.symm ag));have f5:=f4.trans (g2z _);rw[HTC.out]at hown4 ⊢)
     refine hK _ _ ?_;clear hK K;refine wpAny_take (i:=9) (v:=?v9) rfl (by kernel_rfl) (by kernel_rfl) (by kernel_rfl) (fun _ _ _ h=>h) (Or.inl ⟨by rfl,?h9⟩) ?_
     case h9=>intro w;go_simp;try with_reducible rfl
     refine wpAny_take (i:=10) (v:=?v10) rfl (by kernel_rfl) (by kernel_rfl) (by kernel_rfl) (fun _ _ _ h=>h) (Or.inl ⟨by rfl,?h10⟩) ?_
     case h10=>intro w;go_simp;try with_reducible rfl
     refine wpAny_take (i:=11) (v:=?v11) rfl (by kernel_rfl) (by kernel_rfl) (by kernel_rfl) (fun _ _ _ h=>h) (Or.inl ⟨by rfl,?h11⟩) ?_
     case h11=>intro w;go_simp;try with_reducible rfl
     refine wpAny_ready (rs:=[12]) (by kernel_rfl) (by simp) ?_;refine AllReady.cons rfl (fun K hK=>?_) AllReady.nil;go_simp
     refine hK _ _ ?_;clear hK K;refine wpAny_done (by kernel_rfl) ?_ _;have G5:=hide hgrow;have O5:=hide hown4;have HAT:Hid (Value.ownBlock (.slice aa ca.length cva)=some gg∨gg=(wc.drew.alloc (Obj.cells cs 95)).heap.size):=hat.imp id (fun h=>by rw[h];simp);clear hgrow hown4 hat;go_wp2;go_ret2;have F3:Frm [] wc (wc.drew.alloc (Obj.cells cs 95)):=((Frm.refl [] wc).drew).alloc _;have O6:=O5.out;rw[lst_snoc]at O6;have g5:=(HKG.out.frm F3 (by simp)).grow 3 (r:=⟨95,259, .slice aa ca.length cva,lst ca⟩) (r':=⟨95,259, .slice (some ⟨gg,0,none⟩) (ca.length+1) cap2,lst (ca++[cs])⟩) rfl G5.out O6 rfl HAT.out;have r5:=(HRA.out.frm F3 (by simp)).turn G5.out (fun r hr=>owns_own 3 (r:=⟨95,259, .slice aa ca.length cva,lst ca⟩) rfl hr) HAT.out (owns_set 3 (r:=⟨95,259, .slice aa ca.length cva,lst ca⟩) (r':=⟨95,259, .slice (some ⟨gg,0,none⟩) (ca.length+1) cap2,lst (ca++[cs])⟩) rfl rfl);have g6:KG Z w0 kb w4 (krs ⟨vn,vc, .slice (some ⟨gg,0,none⟩) (ca.length+1) cap2,vt,vr,vi⟩ ⟨rt,ux,uq,ul⟩ { s with x:=s.x++[v],a:=s.a++[aut v] } (ca++[cs]) cq) (ca++[cs]) (s.a++[aut v]) cq s.q:=⟨g5.fr,g5.lo,g5.rw,g5.ai.snoc (r5.2 0 cs (aut v) rfl rfl),g5.qi⟩;have R6:=((HKR.out.frm F3 (by simp)).grown G5.out (fun r hr e=>ag (by rw[hr,e]))).set (V':=⟨vn,vc, .slice (some ⟨gg,0,none⟩) (ca.length+1) cap2,vt,vr,vi⟩) (U':=⟨rt,ux,uq,ul⟩) 2 (.slice (some ⟨gg,0,none⟩) (ca.length+1) cap2) rfl;exact .inr (.inl ⟨HFE.out,HRE.out,rfl,_,_,⟨R6,ca++[cs],cq,g6.frm (S:=[kb]) ((Frm.refl [kb] _).setCell (p:=⟨kb,2,none⟩) (.inl (by simp)) _) (by simp)⟩,⟨rfl,rfl,rfl,rfl⟩,KFC.out.trans (KF.put (s:=s) (s':=s) (ca:=ca) (cq:=cq) (ca':=ca++[cs]) (cq':=cq) F3 3 (r:=⟨95,259, .slice aa ca.length cva,lst ca⟩) (r':=⟨95,259, .slice (some ⟨gg,0,none⟩) (ca.length+1) cap2,lst (ca++[cs])⟩) rfl rfl G5.out rfl HAT.out 2 _)⟩)
    ·refine step_autoLoad _ (by rfl) _ (by rfl) w1.heap.size (by rfl) cs (autoLoad HH.out HCS.out) ?_
     refine hK _ _ ?_;clear hK K;refine wpAny_ready (rs:=[5,7]) (by kernel_rfl) (by simp) ?_;refine AllReady.cons rfl (fun K hK=>?_) (AllReady.cons rfl (fun K hK=>?_) AllReady.nil)
     ·go_simp
      refine hK _ _ ?_;clear hK K;refine wpAny_ready (rs:=[7]) (by kernel_rfl) (by simp) ?_;refine AllReady.cons rfl (fun K hK=>?_) AllReady.nil;refine step_autoBuild _ (by rfl) _ (by rfl) cs (by rfl) HCS.out ?_;refine hK _ _ ?_;clear hK K;refine wpAny_ready (rs:=[8]) (by kernel_rfl) (by simp) ?_;refine AllReady.cons rfl (fun K hK=>?_) AllReady.nil
      (refine step_appG _ (by rfl) _ _ 53 95 _ 259 312 infoAut Tryz.underlying53 autoZero9 (by omega) (by rfl) w0.heap.size (.slice aa ca.length cva) (lst ca) wc.heap.size cs (0,0) (by rfl) (OA.out.frm (S:=[]) (((Frm.refl [] _).drew).alloc _) (by simp)) (by rfl) HCS.out (by exact heap1 _ _) HALL.out (by rw[HTC.out];omega) (by rw[HTC.out];omega) (by simp;omega) (wc.heap.size+1) (by simp) ?_;intro gg cap2 w4 hown4 hgrow hat hlt4;have c4:=(hgrow.cell_far ⟨kb,2,none⟩ (by simp;omega) (Ne.symm ag));have f4:=(hgrow.frozen_far ⟨kb,2,none⟩ (by simp;omega) (Ne.symm ag));have f5:=f4.trans (g2z _);rw[HTC.out]at hown4 ⊢)
      refine hK _ _ ?_;clear hK K;refine wpAny_take (i:=9) (v:=?v9) rfl (by kernel_rfl) (by kernel_rfl) (by kernel_rfl) (fun _ _ _ h=>h) (Or.inl ⟨by rfl,?h9⟩) ?_
      case h9=>intro w;go_simp;try with_reducible rfl
      refine wpAny_take (i:=10) (v:=?v10) rfl (by kernel_rfl) (by kernel_rfl) (by kernel_rfl) (fun _ _ _ h=>h) (Or.inl ⟨by rfl,?h10⟩) ?_
      case h10=>intro w;go_simp;try with_reducible rfl
      refine wpAny_take (i:=11) (v:=?v11) rfl (by kernel_rfl) (by kernel_rfl) (by kernel_rfl) (fun _ _ _ h=>h) (Or.inl ⟨by rfl,?h11⟩) ?_
      case h11=>intro w;go_simp;try with_reducible rfl
      refine wpAny_ready (rs:=[12]) (by kernel_rfl) (by simp) ?_;refine AllReady.cons rfl (fun K hK=>?_) AllReady.nil;go_simp
      refine hK _ _ ?_;clear hK K;refine wpAny_done (by kernel_rfl) ?_ _;have G5:=hide hgrow;have O5:=hide hown4;have HAT:Hid (Value.ownBlock (.slice aa ca.length cva)=some gg∨gg=(wc.drew.alloc (Obj.cells cs 95)).heap.size):=hat.imp id (fun h=>by rw[h];simp);clear hgrow hown4 hat;go_wp2;go_ret2;have F3:Frm [] wc (wc.drew.alloc (Obj.cells cs 95)):=((Frm.refl [] wc).drew).alloc _;have O6:=O5.out;rw[lst_snoc]at O6;have g5:=(HKG.out.frm F3 (by simp)).grow 3 (r:=⟨95,259, .slice aa ca.length cva,lst ca⟩) (r':=⟨95,259, .slice (some ⟨gg,0,none⟩) (ca.length+1) cap2,lst (ca++[cs])⟩) rfl G5.out O6 rfl HAT.out;have r5:=(HRA.out.frm F3 (by simp)).turn G5.out (fun r hr=>owns_own 3 (r:=⟨95,259, .slice aa ca.length cva,lst ca⟩) rfl hr) HAT.out (owns_set 3 (r:=⟨95,259, .slice aa ca.length cva,lst ca⟩) (r':=⟨95,259, .slice (some ⟨gg,0,none⟩) (ca.length+1) cap2,lst (ca++[cs])⟩) rfl rfl);have g6:KG Z w0 kb w4 (krs ⟨vn,vc, .slice (some ⟨gg,0,none⟩) (ca.length+1) cap2,vt,vr,vi⟩ ⟨rt,ux,uq,ul⟩ { s with x:=s.x++[v],a:=s.a++[aut v] } (ca++[cs]) cq) (ca++[cs]) (s.a++[aut v]) cq s.q:=⟨g5.fr,g5.lo,g5.rw,g5.ai.snoc (r5.2 0 cs (aut v) rfl rfl),g5.qi⟩;have R6:=((HKR.out.frm F3 (by simp)).grown G5.out (fun r hr e=>ag (by rw[hr,e]))).set (V':=⟨vn,vc, .slice (some ⟨gg,0,none⟩) (ca.length+1) cap2,vt,vr,vi⟩) (U':=⟨rt,ux,uq,ul⟩) 2 (.slice (some ⟨gg,0,none⟩) (ca.length+1) cap2) rfl;exact .inr (.inl ⟨HFE.out,HRE.out,rfl,_,_,⟨R6,ca++[cs],cq,g6.frm (S:=[kb]) ((Frm.refl [kb] _).setCell (p:=⟨kb,2,none⟩) (.inl (by simp)) _) (by simp)⟩,⟨rfl,rfl,rfl,rfl⟩,KFC.out.trans (KF.put (s:=s) (s':=s) (ca:=ca) (cq:=cq) (ca':=ca++[cs]) (cq':=cq) F3 3 (r:=⟨95,259, .slice aa ca.length cva,lst ca⟩) (r':=⟨95,259, .slice (some ⟨gg,0,none⟩) (ca.length+1) cap2,lst (ca++[cs])⟩) rfl rfl G5.out rfl HAT.out 2 _)⟩)
     ·refine step_autoBuild _ (by rfl) _ (by rfl) cs (by rfl) HCS.out ?_
      refine hK _ _ ?_;clear hK K;refine wpAny_ready (rs:=[5]) (by kernel_rfl) (by simp) ?_;refine AllReady.cons rfl (fun K hK=>?_) AllReady.nil;have c2a:(wc.drew.alloc (Obj.cells cs 95)).cell? ⟨kb,2,none⟩=some (.slice aa ca.length cva):=((((Frm.refl [] wc).drew).alloc _).cell (p:=⟨kb,2,none⟩) hkc (by simp)).trans c2;go_simp
      refine hK _ _ ?_;clear hK K;refine wpAny_ready (rs:=[8]) (by kernel_rfl) (by simp) ?_;refine AllReady.cons rfl (fun K hK=>?_) AllReady.nil
      (refine step_appG _ (by rfl) _ _ 53 95 _ 259 312 infoAut Tryz.underlying53 autoZero9 (by omega) (by rfl) w0.heap.size (.slice aa ca.length cva) (lst ca) wc.heap.size cs (0,0) (by rfl) (OA.out.frm (S:=[]) (((Frm.refl [] _).drew).alloc _) (by simp)) (by rfl) HCS.out (by exact heap1 _ _) HALL.out (by rw[HTC.out];omega) (by rw[HTC.out];omega) (by simp;omega) (wc.heap.size+1) (by simp) ?_;intro gg cap2 w4 hown4 hgrow hat hlt4;have c4:=(hgrow.cell_far ⟨kb,2,none⟩ (by simp;omega) (Ne.symm ag));have f4:=(hgrow.frozen_far ⟨kb,2,none⟩ (by simp;omega) (Ne.symm ag));have f5:=f4.trans (g2z _);rw[HTC.out]at hown4 ⊢)
      refine hK _ _ ?_;clear hK K;refine wpAny_take (i:=9) (v:=?v9) rfl (by kernel_rfl) (by kernel_rfl) (by kernel_rfl) (fun _ _ _ h=>h) (Or.inl ⟨by rfl,?h9⟩) ?_
      case h9=>intro w;go_simp;try with_reducible rfl
      refine wpAny_take (i:=10) (v:=?v10) rfl (by kernel_rfl) (by kernel_rfl) (by kernel_rfl) (fun _ _ _ h=>h) (Or.inl ⟨by rfl,?h10⟩) ?_
      case h10=>intro w;go_simp;try with_reducible rfl
      refine wpAny_take (i:=11) (v:=?v11) rfl (by kernel_rfl) (by kernel_rfl) (by kernel_rfl) (fun _ _ _ h=>h) (Or.inl ⟨by rfl,?h11⟩) ?_
      case h11=>intro w;go_simp;try with_reducible rfl
      refine wpAny_ready (rs:=[12]) (by kernel_rfl) (by simp) ?_;refine AllReady.cons rfl (fun K hK=>?_) AllReady.nil;go_simp
      refine hK _ _ ?_;clear hK K;refine wpAny_done (by kernel_rfl) ?_ _;have G5:=hide hgrow;have O5:=hide hown4;have HAT:Hid (Value.ownBlock (.slice aa ca.length cva)=some gg∨gg=(wc.drew.alloc (Obj.cells cs 95)).heap.size):=hat.imp id (fun h=>by rw[h];simp);clear hgrow hown4 hat;go_wp2;go_ret2;have F3:Frm [] wc (wc.drew.alloc (Obj.cells cs 95)):=((Frm.refl [] wc).drew).alloc _;have O6:=O5.out;rw[lst_snoc]at O6;have g5:=(HKG.out.frm F3 (by simp)).grow 3 (r:=⟨95,259, .slice aa ca.length cva,lst ca⟩) (r':=⟨95,259, .slice (some ⟨gg,0,none⟩) (ca.length+1) cap2,lst (ca++[cs])⟩) rfl G5.out O6 rfl HAT.out;have r5:=(HRA.out.frm F3 (by simp)).turn G5.out (fun r hr=>owns_own 3 (r:=⟨95,259, .slice aa ca.length cva,lst ca⟩) rfl hr) HAT.out (owns_set 3 (r:=⟨95,259, .slice aa ca.length cva,lst ca⟩) (r':=⟨95,259, .slice (some ⟨gg,0,none⟩) (ca.length+1) cap2,lst (ca++[cs])⟩) rfl rfl);have g6:KG Z w0 kb w4 (krs ⟨vn,vc, .slice (some ⟨gg,0,none⟩) (ca.length+1) cap2,vt,vr,vi⟩ ⟨rt,ux,uq,ul⟩ { s with x:=s.x++[v],a:=s.a++[aut v] } (ca++[cs]) cq) (ca++[cs]) (s.a++[aut v]) cq s.q:=⟨g5.fr,g5.lo,g5.rw,g5.ai.snoc (r5.2 0 cs (aut v) rfl rfl),g5.qi⟩;have R6:=((HKR.out.frm F3 (by simp)).grown G5.out (fun r hr e=>ag (by rw[hr,e]))).set (V':=⟨vn,vc, .slice (some ⟨gg,0,none⟩) (ca.length+1) cap2,vt,vr,vi⟩) (U':=⟨rt,ux,uq,ul⟩) 2 (.slice (some ⟨gg,0,none⟩) (ca.length+1) cap2) rfl;exact .inr (.inl ⟨HFE.out,HRE.out,rfl,_,_,⟨R6,ca++[cs],cq,g6.frm (S:=[kb]) ((Frm.refl [kb] _).setCell (p:=⟨kb,2,none⟩) (.inl (by simp)) _) (by simp)⟩,⟨rfl,rfl,rfl,rfl⟩,KFC.out.trans (KF.put (s:=s) (s':=s) (ca:=ca) (cq:=cq) (ca':=ca++[cs]) (cq':=cq) F3 3 (r:=⟨95,259, .slice aa ca.length cva,lst ca⟩) (r':=⟨95,259, .slice (some ⟨gg,0,none⟩) (ca.length+1) cap2,lst (ca++[cs])⟩) rfl rfl G5.out rfl HAT.out 2 _)⟩)
  ·have HRE:=hide hre
   have hne:((re v:Int) != 0)=true:=by rw[bne_iff_ne];omega
   have hne':decide ((re v:Int)=0)=false:=decide_eq_false (by omega);clear hrow hF1 hall hfr3;go_wp2;go_ret2;exact .inr (.inr ⟨HFE.out,HRE.out,rfl,K3.out.fr,KF.of F13.out⟩)
end Go.Proofs.YtpcbbbilmpobaaaGreatDoor
