import Derived.Test.YtpcbbbilmpobaaaGreatDoorJ18
import Derived.Laws.MakeOwn
set_option linter.unusedVariables false
set_option linter.unusedSimpArgs false
set_option linter.unnecessarySimpa false
set_option maxRecDepth 100000
set_option maxHeartbeats 8000000
namespace Go.Proofs.YtpcbbbilmpobaaaGreatDoor
open Go.RowKit
theorem KS.subZ{Z Z':List Nat}{w0:World}{kb:Nat}{w:World}{V:V6}{U:V4}{s:CS}(h:KS Z w0 kb w V U s)(hs:∀ g∈Z',g∈Z∨w.heap.size≤g):KS Z' w0 kb w V U s:=by
 obtain ⟨ca,cq,g⟩:=h.g;have av:∀ x∈Z'++kb::owns (krs V U s ca cq),x∈Z++kb::owns (krs V U s ca cq)∨w.heap.size≤x:=by
  intro x hx;rcases List.mem_append.1 hx with hx|hx
  ·rcases hs x hx with h1|h1
   ·exact .inl (List.mem_append.2 (.inl h1))
   ·exact .inr h1
  ·exact .inl (List.mem_append.2 (.inr hx))
 exact ⟨h.row,ca,cq,g.fr,g.lo,g.rw,g.ai.avoid av,g.qi.avoid av⟩
theorem RW.mts{A:List Nat}{w:World}{v:Value}{M:List CM}(h:RW A 3 w v (mtc M)):∃ a cap,v=.slice a M.length cap∧∀ (j:Nat) (hj:j<M.length),∃ g off,a=some ⟨g,off,none⟩∧g∉A∧g<w.heap.size∧w.cell? ⟨g,off+j*3,none⟩=some (.string (bs M[j].1))∧w.cell? ⟨g,off+j*3+1,none⟩=some (.int .i64 (M[j].2.1:Nat))∧w.cell? ⟨g,off+j*3+2,none⟩=some (.string (bs M[j].2.2)):=by
 obtain ⟨a,cap,e,h1,h2⟩:=h;rw[show (mtc M).length=M.length by simp[mtc]]at e;refine ⟨a,cap,e,fun j hj=>?_⟩;obtain ⟨g,off,e2,h3,h4,h5⟩:=h2 j (by simpa[mtc] using hj);exact ⟨g,off,e2,h3,h4,h5 0 _ (by simp[mtc,mcells]),h5 1 _ (by simp[mtc,mcells]),h5 2 _ (by simp[mtc,mcells])⟩
theorem infoCL:(Tryz.prog.info? 114).map (fun i=>(i.zero,i.size,i.bytes))=some (some (.slice none 0 0),1,24):=by kernel_rfl
theorem infoCon:(Tryz.prog.info? 121).map (fun i=>(i.zero,i.size,i.bytes))=some (some (.agg #[.int .i64 0, .bool false]),2,16):=by kernel_rfl
theorem ccell_at(w:World)(fd:Nat)(hb:Bool)(j:Nat)(u:Value)(hu:[Value.int .i64 (fd:Nat),Value.bool hb][j]?=some u):(w.alloc (Obj.cells #[.int .i64 (fd:Nat), .bool hb] 121)).cell? ⟨w.heap.size,j,none⟩=some u:=by
 have h1:=heap1 w (Obj.cells #[.int .i64 (fd:Nat), .bool hb] 121);simp only[World.cell?,h1];simpa using hu
theorem scell_at(w:World)(v:Value)(j:Nat)(u:Value)(hu:[v][j]?=some u):(w.alloc (Obj.cells #[v] 114)).cell? ⟨w.heap.size,j,none⟩=some u:=by
 have h1:=heap1 w (Obj.cells #[v] 114);simp only[World.cell?,h1];simpa using hu
def RMQ(Z:List Nat)(re:List UInt8→Nat)(aut:List UInt8→AutM)(w0:World)(kb:Nat)(V:V6)(U:V4)(s:CS)(M:List CM)(e:Ending)(w':World):Prop :=
 (∃ n,pmat re aut s [] M=.error n∧e=.returned (.int .i64 (n:Nat))∧Frm [kb] w0 w') ∨
 (∃ l s1 V' U',pmat re aut s [] M=.ok (l,s1)∧e=.returned (.int .i64 0)∧KS Z w0 kb w' V' U' { s1 with q:=s1.q++[l] }∧KV V V' U U')
theorem readMatchers_any(Z:List Nat)(re:List UInt8→Nat)(aut:List UInt8→AutM)(w0:World)(kb:Nat)(w:World)(V:V6)(U:V4)(s:CS)(h:KS Z w0 kb w V U s)(hZ:∀ g∈Z,g<w.heap.size)(hcb:CSB s 500)(v:Value)(M:List CM)(hM:RW [kb] 3 w0 v (mtc M))(hMl:M.length≤4)(hMk:∀ m∈M,m.2.1≤3∧((m.2.1=2∨m.2.1=3)→RCP re aut m.2.2))(hq:s.q.length≤1000) :
 Calls Tryz.prog 24 #[.pointer (some ⟨kb,0,none⟩),v] w (RMQ Z re aut w0 kb V U s M):=by
 obtain ⟨am,cm,rfl,r⟩:=hM.mts;have R:=hide r;have HK:=hide h;have HMK:=hide hMk;have hlo:=h.lo;have hkw:=h.row.lt;have HOL:=hide h.own_lt;have HZ:=hide hZ;have HCB:=hide hcb;clear h hM r hMk hZ hcb;go_enter Tryz.func24,Tryz.ntmps24
 go_wp2_with fail
 go_loopg [5,15] M.length (fun k v5 v15 wr=>∃ (j:Nat) (acc:List (Nat × Bool)) (sj:CS) (Vj:V6) (Uj:V4),j+k=M.length∧v15=.int .i64 j∧acc.length=j∧w.heap.size≤wr.heap.size∧OW 121 2 w.heap.size wr v5 (cc acc)∧Hid (∀ g,v5.ownBlock=some g→g∉kown Vj Uj)∧Hid (KS (v5.ownBlock.toList++Z) w0 kb wr Vj Uj sj)∧Hid (KV V Vj U Uj)∧Hid (pmat re aut sj acc (M.drop j)=pmat re aut s [] M)∧Hid (CSB sj (500+j))∧Hid (sj.q=s.q))
 case atStart =>
  refine ⟨0,[],s,V,U,by omega,rfl,rfl,by simp,OW.empty _ _ _ _ (Nat.le_refl _),?_,?_,KV.refl _ _,?_,HCB.out,?_⟩
  ·intro g hg hm
   have e:w.heap.size=g:=by simpa[Value.ownBlock] using hg
   have:=HOL.out g (by simp[hm]);omega
  ·exact (HK.out.subZ (fun g hg=>by
    rcases List.mem_append.1 hg with h1|h1
    ·exact .inr (by have:g=w.heap.size:=by simpa[Value.ownBlock] using h1
                    omega)
    ·exact .inl h1)).frm ((Frm.refl [] _).alloc _)
  ·show _=_;rfl
  ·show _=_;rfl
 case round =>
  obtain ⟨j,acc,sj,Vj,Uj,hjk,rfl,hal,hzr,hO,HNO,KJ,HKV,HP,CBJ,HQ⟩:=hrel;obtain ⟨ac,cca,he⟩:=hO.shape;rw[cc_len,hal]at he;subst he;have O:=hide hO;clear hO
  by_cases hlt:j<M.length
  ·have hd1:decide ((j:Int)<(M.length:Int))=true:=decide_eq_true (by omega)
   obtain ⟨gm,om,rfl,hgm1,hgm2,q0,q1,q2⟩:=R.out j hlt;have t0:=(KJ.out.fr.cell (p:=⟨gm,om+j*3,none⟩) hgm2 hgm1).trans q0;have t1:=(KJ.out.fr.cell (p:=⟨gm,om+j*3+1,none⟩) hgm2 hgm1).trans q1;have t2:=(KJ.out.fr.cell (p:=⟨gm,om+j*3+2,none⟩) hgm2 hgm1).trans q2;have hgmr:=Nat.lt_of_lt_of_le hgm2 KJ.out.fr.size;have hmk:=HMK.out M[j] (List.getElem_mem hlt);have hdp:M.drop j=M[j]::M.drop (j+1):=List.drop_eq_getElem_cons hlt;have HP1:Hid (pmat re aut sj acc (M[j]::M.drop (j+1))=pmat re aut s [] M):=by show _=_;rw[← hdp];exact HP.out
   generalize M[j]=m at *;obtain ⟨nm,kd,vl⟩:=m;simp only at t0 t1 t2 hmk;have hbb:=CBJ.out;obtain ⟨b1,b2,b3,b4,b5⟩:=hbb;have N1:=hide (testOf_any ((Value.ownBlock (.slice ac j cca)).toList++Z) re aut w0 kb (wr.alloc (Obj.cells #[.string (bs nm), .int .i64 (kd:Nat), .string (bs vl)] 116)) Vj Uj sj (KJ.out.frm ((Frm.refl [] _).alloc _)) (by
    intro g hg;rcases List.mem_append.1 hg with h1|h1
    ·have:=(O.out.lt (by simpa using h1)).2
     simp;omega
    ·have:=HZ.out g h1
     simp;omega) nm kd vl hmk.2 hmk.1 (by omega) (by omega) (by omega) (by omega))
   clear q0 q1 q2 HP hdp;go_wp2_with fail
   refine (N1.out).mono ?_;clear N1;rintro e w2 hT;rcases hT with ⟨h1,h2,h3,t,rfl⟩|⟨t,s1,V2,U2,h1,rfl,hK2,hKV2,hKF2⟩
   ·have HE:Hid (pmat re aut s [] M=.error (re vl)):=by show _=_;rw[← HP1.out,pmat,h1]
    have hne:((re vl:Int) != 0)=true:=by rw[bne_iff_ne];simp only at h2;omega
    have hne2:((re vl:Int)==0)=false:=by rw[beq_eq_false_iff_ne];simp only at h2;omega
    have F3:=hide h3;clear h1 h2 h3;simp only[tcell];go_wp2;go_ret;exact .inl ⟨_,HE.out,rfl,F3.out.alloc _⟩
   ·obtain ⟨hCB2,hst2,hsq2⟩:=ptest_cb CBJ.out h1
    have HST:Hid (pmat re aut { s1 with t:=addt s1.t t } (acc++[(fdt s1.t t,cholds (nm,kd,vl))]) (M.drop (j+1))=pmat re aut s [] M):=by show _=_;rw[← HP1.out,pmat,h1]
    have CB2:=hide hCB2;have HQ2:Hid ({ s1 with t:=addt s1.t t }.q=s.q):=hsq2.trans HQ.out;have N2:=hide (numberOfTest_any _ w0 kb (w2.alloc (Obj.cells (tcell t) 97)) V2 U2 s1 (hK2.frm ((Frm.refl [] _).alloc _)) t (by rw[hst2];omega));have K2F:=hide hKF2;have HKV2:=hide (HKV.out.trans hKV2);have hbm:(wr.alloc (Obj.cells #[.string (bs nm), .int .i64 (kd:Nat), .string (bs vl)] 116)).heap[wr.heap.size]?=some (.cells #[.string (bs nm), .int .i64 (kd:Nat), .string (bs vl)] 116 (0,0)):=heap1 _ _;have HBM:=hide hbm;have OL:=hide KJ.out.own_lt;obtain ⟨tn,tk,tx⟩:=t;simp only[tcell]at N2 ⊢;clear h1 hK2 hKV2 hKF2 hCB2 hst2 hsq2 HP1 hbm HKV t0 t1 t2;go_wp2_with fail
    refine (N2.out).mono ?_;clear N2;rintro e w4 ⟨rfl,V4,hK4,hV4,hKF4⟩;have K24:KF kb (wr.alloc (Obj.cells #[.string (bs nm), .int .i64 (kd:Nat), .string (bs vl)] 116)) Vj Uj w4 V4 U2:=K2F.out.trans ((KF.of ((Frm.refl [] w2).alloc _)).trans hKF4);have hb4:w4.heap[wr.heap.size]?=some (.cells #[.string (bs nm), .int .i64 (kd:Nat), .string (bs vl)] 116 (0,0)):=(K24.f.block wr.heap.size (by simp) (fun hm=>by have:=OL.out _ hm;omega)).trans HBM.out;have m1:w4.cell? ⟨wr.heap.size,1,none⟩=some (.int .i64 (kd:Nat)):=by simp[World.cell?,hb4]
    have O4:=hide ((O.out.frm (S:=[]) ((Frm.refl [] _).alloc _) (by simp)).off K24.f (fun g hg hm=>by
     rcases List.mem_cons.1 hm with rfl|hm
     ·have:=(O.out.lt hg).1;omega
     ·exact HNO.out g hg hm))
    have NO4:Hid (∀ g,Value.ownBlock (.slice ac j cca)=some g→g∉kown V4 U2):=fun g hg hm=>by
     rcases K24.o g hm with h1|h1
     ·exact HNO.out g hg h1
     ·have:=(O.out.lt hg).2
      simp at h1;omega
    have K4:=hide hK4;have HKV4:Hid (KV V V4 U U2):=⟨hV4.1.trans HKV2.out.1,hV4.2.trans HKV2.out.2.1,HKV2.out.2.2.1,HKV2.out.2.2.2⟩;have hz4:wr.heap.size<w4.heap.size:=(Array.getElem?_eq_some_iff.1 hb4).1;have HTC:Hid ((cc acc).length=j):=by show _=_;rw[cc_len];exact hal
    generalize hfd:fdt s1.t ⟨tn,tk,tx⟩=fd at *;clear hfd hK4 hV4 hKF4 K24 hb4 K2F HBM HKV2 HNO KJ;rcases (show kd=0∨kd=1∨kd=2∨kd=3 by omega) with rfl|rfl|rfl|rfl
    ·go_wp2_with (at_builtin;refine wp_appG _ rfl _ _ 114 121 _ 2 16 infoCon Tryz.underlying114 rfl (by omega) rfl w.heap.size (.slice ac j cca) (cc acc) w4.heap.size [.int .i64 (fd:Nat), .bool true] rfl (O4.out.frm (S:=[]) ((Frm.refl [] _).alloc _) (by simp)) rfl rfl (ccell_at _ _ _) (by intro u hu;simp at hu;rcases hu with rfl|rfl<;>rfl) (by rw[HTC.out];omega) (by rw[HTC.out];omega) (by simp;omega) ?_;intro gg cap2 w5 hown5 hgrow hat hlt5;rw[HTC.out]at hown5 ⊢;have O5:=hide hown5;have G5:=hide hgrow;have HAT:=hide hat;clear hown5 hgrow hat)
     have FA:Frm [] w4 (w4.alloc (Obj.cells #[.int .i64 (fd:Nat), .bool true] 121)):=(Frm.refl [] _).alloc _;have FG:Frm (Value.ownBlock (.slice ac j cca)).toList (w4.alloc (Obj.cells #[.int .i64 (fd:Nat), .bool true] 121)) w5:=(Frm.refl _ _).grown G5.out (fun r hr=>.inl (by simp[hr]));have K5:KS ([gg]++Z) w0 kb w5 V4 U2 { s1 with t:=addt s1.t ⟨tn,tk,tx⟩ }:=by
      have k1:=(K4.out.frm FA).subZ (Z':=(Value.ownBlock (.slice ac j cca)).toList++(gg::Z)) (fun g hg=>by
       rcases List.mem_append.1 hg with h1|h1
       ·exact .inl (List.mem_append.2 (.inl h1))
       ·rcases List.mem_cons.1 h1 with rfl|h1
        ·rcases HAT.out with h2|h2
         ·exact .inl (List.mem_append.2 (.inl (by simp[h2])))
         ·exact .inr (by rw[h2];exact Nat.le_refl _)
        ·exact .inl (List.mem_append.2 (.inr h1)))
      have k2:=k1.off FG (fun g hg=>List.mem_append.2 (.inl hg)) (fun g hg=>by have:=(O4.out.lt (by simpa using hg)).1;omega) (fun g hg=>NO4.out g (by simpa using hg));exact k2.subZ (fun g hg=>.inl (List.mem_append.2 (.inr (by simpa using hg))))
     have HK5:=hide K5;have NO5:Hid (∀ g,Value.ownBlock (.slice (some ⟨gg,0,none⟩) (j+1) cap2)=some g→g∉kown V4 U2):=fun g hg hm=>by
      have e:gg=g:=by simpa[Value.ownBlock] using hg
      subst e;rcases HAT.out with h2|h2
      ·exact NO4.out _ h2 hm
      ·have h3:=K4.out.own_lt gg (by simp[hm])
       rw[h2]at h3;simp at h3;omega
     have O6:=O5.out;rw[show cc acc++[[Value.int .i64 (fd:Nat),Value.bool true]]=cc (acc++[(fd,true)]) from cc_snoc acc (fd,true)]at O6;have HO6:=hide O6;have hz5:=FG.size;have hz6:=FA.size;clear FA FG K5 O6;go_roundg (gk-1)
     case measure=>omega
     case rel=>exact ⟨j+1,acc++[(fd,true)],_,V4,U2,by omega,by go_num,by simp;omega,by omega,HO6.out,NO5,HK5,HKV4,HST,CB2,HQ2⟩
    ·go_wp2_with (at_builtin;refine wp_appG _ rfl _ _ 114 121 _ 2 16 infoCon Tryz.underlying114 rfl (by omega) rfl w.heap.size (.slice ac j cca) (cc acc) w4.heap.size [.int .i64 (fd:Nat), .bool false] rfl (O4.out.frm (S:=[]) ((Frm.refl [] _).alloc _) (by simp)) rfl rfl (ccell_at _ _ _) (by intro u hu;simp at hu;rcases hu with rfl|rfl<;>rfl) (by rw[HTC.out];omega) (by rw[HTC.out];omega) (by simp;omega) ?_;intro gg cap2 w5 hown5 hgrow hat hlt5;rw[HTC.out]at hown5 ⊢;have O5:=hide hown5;have G5:=hide hgrow;have HAT:=hide hat;clear hown5 hgrow hat)
     have FA:Frm [] w4 (w4.alloc (Obj.cells #[.int .i64 (fd:Nat), .bool false] 121)):=(Frm.refl [] _).alloc _;have FG:Frm (Value.ownBlock (.slice ac j cca)).toList (w4.alloc (Obj.cells #[.int .i64 (fd:Nat), .bool false] 121)) w5:=(Frm.refl _ _).grown G5.out (fun r hr=>.inl (by simp[hr]));have K5:KS ([gg]++Z) w0 kb w5 V4 U2 { s1 with t:=addt s1.t ⟨tn,tk,tx⟩ }:=by
      have k1:=(K4.out.frm FA).subZ (Z':=(Value.ownBlock (.slice ac j cca)).toList++(gg::Z)) (fun g hg=>by
       rcases List.mem_append.1 hg with h1|h1
       ·exact .inl (List.mem_append.2 (.inl h1))
       ·rcases List.mem_cons.1 h1 with rfl|h1
        ·rcases HAT.out with h2|h2
         ·exact .inl (List.mem_append.2 (.inl (by simp[h2])))
         ·exact .inr (by rw[h2];exact Nat.le_refl _)
        ·exact .inl (List.mem_append.2 (.inr h1)))
      have k2:=k1.off FG (fun g hg=>List.mem_append.2 (.inl hg)) (fun g hg=>by have:=(O4.out.lt (by simpa using hg)).1;omega) (fun g hg=>NO4.out g (by simpa using hg));exact k2.subZ (fun g hg=>.inl (List.mem_append.2 (.inr (by simpa using hg))))
     have HK5:=hide K5;have NO5:Hid (∀ g,Value.ownBlock (.slice (some ⟨gg,0,none⟩) (j+1) cap2)=some g→g∉kown V4 U2):=fun g hg hm=>by
      have e:gg=g:=by simpa[Value.ownBlock] using hg
      subst e;rcases HAT.out with h2|h2
      ·exact NO4.out _ h2 hm
      ·have h3:=K4.out.own_lt gg (by simp[hm])
       rw[h2]at h3;simp at h3;omega
     have O6:=O5.out;rw[show cc acc++[[Value.int .i64 (fd:Nat),Value.bool false]]=cc (acc++[(fd,false)]) from cc_snoc acc (fd,false)]at O6;have HO6:=hide O6;have hz5:=FG.size;have hz6:=FA.size;clear FA FG K5 O6;go_roundg (gk-1)
     case measure=>omega
     case rel=>exact ⟨j+1,acc++[(fd,false)],_,V4,U2,by omega,by go_num,by simp;omega,by omega,HO6.out,NO5,HK5,HKV4,HST,CB2,HQ2⟩
    ·go_wp2_with (at_builtin;refine wp_appG _ rfl _ _ 114 121 _ 2 16 infoCon Tryz.underlying114 rfl (by omega) rfl w.heap.size (.slice ac j cca) (cc acc) w4.heap.size [.int .i64 (fd:Nat), .bool true] rfl (O4.out.frm (S:=[]) ((Frm.refl [] _).alloc _) (by simp)) rfl rfl (ccell_at _ _ _) (by intro u hu;simp at hu;rcases hu with rfl|rfl<;>rfl) (by rw[HTC.out];omega) (by rw[HTC.out];omega) (by simp;omega) ?_;intro gg cap2 w5 hown5 hgrow hat hlt5;rw[HTC.out]at hown5 ⊢;have O5:=hide hown5;have G5:=hide hgrow;have HAT:=hide hat;clear hown5 hgrow hat)
     have FA:Frm [] w4 (w4.alloc (Obj.cells #[.int .i64 (fd:Nat), .bool true] 121)):=(Frm.refl [] _).alloc _;have FG:Frm (Value.ownBlock (.slice ac j cca)).toList (w4.alloc (Obj.cells #[.int .i64 (fd:Nat), .bool true] 121)) w5:=(Frm.refl _ _).grown G5.out (fun r hr=>.inl (by simp[hr]));have K5:KS ([gg]++Z) w0 kb w5 V4 U2 { s1 with t:=addt s1.t ⟨tn,tk,tx⟩ }:=by
      have k1:=(K4.out.frm FA).subZ (Z':=(Value.ownBlock (.slice ac j cca)).toList++(gg::Z)) (fun g hg=>by
       rcases List.mem_append.1 hg with h1|h1
       ·exact .inl (List.mem_append.2 (.inl h1))
       ·rcases List.mem_cons.1 h1 with rfl|h1
        ·rcases HAT.out with h2|h2
         ·exact .inl (List.mem_append.2 (.inl (by simp[h2])))
         ·exact .inr (by rw[h2];exact Nat.le_refl _)
        ·exact .inl (List.mem_append.2 (.inr h1)))
      have k2:=k1.off FG (fun g hg=>List.mem_append.2 (.inl hg)) (fun g hg=>by have:=(O4.out.lt (by simpa using hg)).1;omega) (fun g hg=>NO4.out g (by simpa using hg));exact k2.subZ (fun g hg=>.inl (List.mem_append.2 (.inr (by simpa using hg))))
     have HK5:=hide K5;have NO5:Hid (∀ g,Value.ownBlock (.slice (some ⟨gg,0,none⟩) (j+1) cap2)=some g→g∉kown V4 U2):=fun g hg hm=>by
      have e:gg=g:=by simpa[Value.ownBlock] using hg
      subst e;rcases HAT.out with h2|h2
      ·exact NO4.out _ h2 hm
      ·have h3:=K4.out.own_lt gg (by simp[hm])
       rw[h2]at h3;simp at h3;omega
     have O6:=O5.out;rw[show cc acc++[[Value.int .i64 (fd:Nat),Value.bool true]]=cc (acc++[(fd,true)]) from cc_snoc acc (fd,true)]at O6;have HO6:=hide O6;have hz5:=FG.size;have hz6:=FA.size;clear FA FG K5 O6;go_roundg (gk-1)
     case measure=>omega
     case rel=>exact ⟨j+1,acc++[(fd,true)],_,V4,U2,by omega,by go_num,by simp;omega,by omega,HO6.out,NO5,HK5,HKV4,HST,CB2,HQ2⟩
    ·go_wp2_with (at_builtin;refine wp_appG _ rfl _ _ 114 121 _ 2 16 infoCon Tryz.underlying114 rfl (by omega) rfl w.heap.size (.slice ac j cca) (cc acc) w4.heap.size [.int .i64 (fd:Nat), .bool false] rfl (O4.out.frm (S:=[]) ((Frm.refl [] _).alloc _) (by simp)) rfl rfl (ccell_at _ _ _) (by intro u hu;simp at hu;rcases hu with rfl|rfl<;>rfl) (by rw[HTC.out];omega) (by rw[HTC.out];omega) (by simp;omega) ?_;intro gg cap2 w5 hown5 hgrow hat hlt5;rw[HTC.out]at hown5 ⊢;have O5:=hide hown5;have G5:=hide hgrow;have HAT:=hide hat;clear hown5 hgrow hat)
     have FA:Frm [] w4 (w4.alloc (Obj.cells #[.int .i64 (fd:Nat), .bool false] 121)):=(Frm.refl [] _).alloc _;have FG:Frm (Value.ownBlock (.slice ac j cca)).toList (w4.alloc (Obj.cells #[.int .i64 (fd:Nat), .bool false] 121)) w5:=(Frm.refl _ _).grown G5.out (fun r hr=>.inl (by simp[hr]));have K5:KS ([gg]++Z) w0 kb w5 V4 U2 { s1 with t:=addt s1.t ⟨tn,tk,tx⟩ }:=by
      have k1:=(K4.out.frm FA).subZ (Z':=(Value.ownBlock (.slice ac j cca)).toList++(gg::Z)) (fun g hg=>by
       rcases List.mem_append.1 hg with h1|h1
       ·exact .inl (List.mem_append.2 (.inl h1))
       ·rcases List.mem_cons.1 h1 with rfl|h1
        ·rcases HAT.out with h2|h2
         ·exact .inl (List.mem_append.2 (.inl (by simp[h2])))
         ·exact .inr (by rw[h2];exact Nat.le_refl _)
        ·exact .inl (List.mem_append.2 (.inr h1)))
      have k2:=k1.off FG (fun g hg=>List.mem_append.2 (.inl hg)) (fun g hg=>by have:=(O4.out.lt (by simpa using hg)).1;omega) (fun g hg=>NO4.out g (by simpa using hg));exact k2.subZ (fun g hg=>.inl (List.mem_append.2 (.inr (by simpa using hg))))
     have HK5:=hide K5;have NO5:Hid (∀ g,Value.ownBlock (.slice (some ⟨gg,0,none⟩) (j+1) cap2)=some g→g∉kown V4 U2):=fun g hg hm=>by
      have e:gg=g:=by simpa[Value.ownBlock] using hg
      subst e;rcases HAT.out with h2|h2
      ·exact NO4.out _ h2 hm
      ·have h3:=K4.out.own_lt gg (by simp[hm])
       rw[h2]at h3;simp at h3;omega
     have O6:=O5.out;rw[show cc acc++[[Value.int .i64 (fd:Nat),Value.bool false]]=cc (acc++[(fd,false)]) from cc_snoc acc (fd,false)]at O6;have HO6:=hide O6;have hz5:=FG.size;have hz6:=FA.size;clear FA FG K5 O6;go_roundg (gk-1)
     case measure=>omega
     case rel=>exact ⟨j+1,acc++[(fd,false)],_,V4,U2,by omega,by go_num,by simp;omega,by omega,HO6.out,NO5,HK5,HKV4,HST,CB2,HQ2⟩
  ·have hd1:decide ((j:Int)<(M.length:Int))=false:=decide_eq_false (by omega)
   have hj:j=M.length:=by omega
   have HE:Hid (pmat re aut s [] M=.ok (acc,sj)):=by
    show _=_;rw[← HP.out,hj,List.drop_length]
    rfl
   have KZ:=KJ.out.subZ (Z':=Z) (fun g hg=>.inl (List.mem_append.2 (.inr hg)));obtain ⟨rt,ux,uq,ul⟩:=Uj;obtain ⟨ca,cq,hg⟩:=KZ.g;have hOQ:OW 114 1 w0.heap.size wr uq (lst cq):=hg.rw.o 5 ⟨114,1,uq,lst cq⟩ rfl;have hcq:cq.length≤1000:=by rw[hg.qi.1,HQ.out];exact hq
   obtain ⟨aq,cqq,heq⟩:=hOQ.shape;rw[lst_len]at heq;subst heq;have c8:=KZ.row.c 8;simp at c8;have z8:=KZ.row.fz 8;have hkr:=KZ.row.lt;have HRQ:Hid (RowI conI (Z++kb::owns (krs Vj ⟨rt,ux, .slice aq cq.length cqq,ul⟩ sj ca cq)) wr [#[.slice ac j cca]] [acc]):=by
    refine ⟨rfl,fun n cs x h1 h2=>?_⟩;rcases n with _|n
    ·simp at h1 h2
     subst h1 h2;refine ⟨_,rfl,O.out.rw (fun g hgo hm=>?_)⟩;rcases List.mem_append.1 hm with h3|h3
     ·have h4:=HZ.out g h3
      have h5:=(O.out.lt hgo).1;omega
     ·rcases List.mem_cons.1 h3 with rfl|h3
      ·have h5:=(O.out.lt hgo).1
       omega
      ·exact HNO.out g hgo h3
    ·simp at h1
   have HG:=hide hg;have OQ:=hide hOQ;have HTQ:Hid ((lst cq).length=cq.length):=lst_len cq;have HKR:=hide KZ.row;have HNB:Hid (∀ r,Value.ownBlock (.slice aq cq.length cqq)=some r→r≠kb):=fun r hr=>by have:=(OQ.out.lt hr).1;omega
   have hz0r:=hg.fr.size;clear hg hOQ KZ KJ HP hj;go_wp2_with (at_builtin;refine wp_appG _ rfl _ _ 73 114 _ 1 24 infoCL Tryz.underlying73 rfl (by omega) rfl w0.heap.size (.slice aq cq.length cqq) (lst cq) wr.heap.size [.slice ac j cca] rfl (OQ.out.frm (S:=[]) ((Frm.refl [] _).alloc _) (by simp)) rfl rfl (scell_at _ _) (by intro u hu;simp at hu;rcases hu with rfl;rfl) (by rw[HTQ.out];omega) (by rw[HTQ.out];omega) (by simp;omega) ?_;intro gg cap2 w4 hown4 hgrow hat hlt4;rw[HTQ.out]at hown4 ⊢;have O4:=hide hown4;have G4:=hide hgrow;have HAT:=hide hat;have R4:=hide ((HKR.out.frm (S:=[]) ((Frm.refl [] _).alloc _) (by simp)).grown G4.out HNB.out);have k8:=R4.out.c 8;have y8:=R4.out.fz 8;simp at k8;clear hown4 hgrow hat)
   go_ret;have FA:Frm [] wr (wr.alloc (Obj.cells #[.slice ac j cca] 114)):=(Frm.refl [] _).alloc _;have O6:=O4.out;rw[show lst cq++[[Value.slice ac j cca]]=lst (cq++[#[.slice ac j cca]]) from lst_snoc cq #[.slice ac j cca]]at O6;have g5:=(HG.out.frm FA (by simp)).grow 5 (r:=⟨114,1, .slice aq cq.length cqq,lst cq⟩) (r':=⟨114,1, .slice (some ⟨gg,0,none⟩) (cq.length+1) cap2,lst (cq++[#[.slice ac j cca]])⟩) rfl G4.out O6 rfl HAT.out;have r5:=(HRQ.out.frm FA (by simp)).turn G4.out (fun r hr=>owns_own 5 (r:=⟨114,1, .slice aq cq.length cqq,lst cq⟩) rfl hr) HAT.out (owns_set 5 (r:=⟨114,1, .slice aq cq.length cqq,lst cq⟩) (r':=⟨114,1, .slice (some ⟨gg,0,none⟩) (cq.length+1) cap2,lst (cq++[#[.slice ac j cca]])⟩) rfl rfl);have g6:KG Z w0 kb w4 (krs Vj ⟨rt,ux, .slice (some ⟨gg,0,none⟩) (cq.length+1) cap2,ul⟩ { sj with q:=sj.q++[acc] } ca (cq++[#[.slice ac j cca]])) ca sj.a (cq++[#[.slice ac j cca]]) (sj.q++[acc]):=⟨g5.fr,g5.lo,g5.rw,g5.ai,g5.qi.snoc (r5.2 0 _ _ rfl rfl)⟩;have R6:=R4.out.set (V':=Vj) (U':=⟨rt,ux, .slice (some ⟨gg,0,none⟩) (cq.length+1) cap2,ul⟩) 8 (.slice (some ⟨gg,0,none⟩) (cq.length+1) cap2) rfl;exact .inr ⟨acc,sj,_,_,HE.out,rfl,⟨R6,ca,cq++[#[.slice ac j cca]],g6.frm (S:=[kb]) ((Frm.refl [kb] _).setCell (p:=⟨kb,8,none⟩) (.inl (by simp)) _) (by simp)⟩,⟨HKV.out.1,HKV.out.2.1,HKV.out.2.2.1,HKV.out.2.2.2⟩⟩
def QR(A:List Nat)(w:World)(v:Value)(q:List (List (Nat × Bool))):Prop:=∃ cq,RW A 1 w v (lst cq)∧RowI conI A w cq q
theorem QR.frm{A S:List Nat}{w w':World}{v:Value}{q:List (List (Nat × Bool))}(h:QR A w v q)(f:Frm S w w')(hS:∀ g∈S,g∈A):QR A w' v q:=by
 obtain ⟨css,h1,h2⟩:=h;exact ⟨css,h1.frm f hS,h2.frm f hS⟩
theorem RW.con{A:List Nat}{w:World}{v:Value}{L:List (Nat × Bool)}(h:RW A 2 w v (cc L)):∃ a cap,v=.slice a L.length cap∧∀ (j:Nat) (hj:j<L.length),∃ g off,a=some ⟨g,off,none⟩∧g∉A∧g<w.heap.size∧w.cell? ⟨g,off+j*2,none⟩=some (.int .i64 (L[j].1:Nat))∧w.cell? ⟨g,off+j*2+1,none⟩=some (.bool L[j].2):=by
 obtain ⟨a,cap,e,h1,h2⟩:=h;rw[cc_len]at e;refine ⟨a,cap,e,fun j hj=>?_⟩;obtain ⟨g,off,e2,h3,h4,h5⟩:=h2 j (by rw[cc_len];exact hj);exact ⟨g,off,e2,h3,h4,h5 0 _ (by simp[cc]),h5 1 _ (by simp[cc])⟩
theorem layChecks_any(w0:World)(kb:Nat)(w:World)(V:V6)(U:V4)(l:List InM)(h:LY w0 kb w V U l)(q:List (List (Nat × Bool)))(hq:QR [kb] w0 U.q q)(hqb:∀ x∈q,x.length≤1000)(r y n:Nat)(hr:r<q.length)(hql:q.length≤1000)(hl:l.length≤900000000) :
 Calls Tryz.prog 75 #[.pointer (some ⟨kb,0,none⟩), .int .i64 r, .int .i64 y, .int .i64 n] w fun e w'=>e=.returned (.int .i64 ((layChk q[r] y n l).1:Nat))∧∃ v,LY w0 kb w' V (U.lay v) (layChk q[r] y n l).2∧LF kb w U.l w' v:=by
 obtain ⟨rt,xx,vq,vl⟩:=U;obtain ⟨cq,h1,h2⟩:=hq;obtain ⟨aq,capq,e,rq⟩:=row_at h1 h2;simp only at e;subst e;obtain ⟨gq,oq,cs,rfl,hgq,hgk,⟨vb,rfl,hvb⟩,k1⟩:=rq r hr;obtain ⟨ab,capb,rfl,rb⟩:=hvb.con;have p0:=(h.fr.cell (p:=⟨gq,oq+r*1+0,none⟩) hgq hgk).trans (k1 0 _ rfl);rw[Nat.mul_one,Nat.add_zero]at p0;have c8:=h.row.c 8;simp at c8;have hQ:=hqb q[r] (List.getElem_mem hr);have L0:=hide h;have RB:=hide rb;have hd0:decide ((r:Int)<(q.length:Int))=true:=decide_eq_true (by omega);clear h1 h2 rq k1 hvb rb h hqb;generalize q[r]=Q at *;go_enter Tryz.func75,Tryz.ntmps75
 go_wp2_with fail
 go_loopg [2,10] Q.length (fun k v2 v10 wr=>∃ (j y1:Nat) (x:Int) (l1:List InM) (v:Value),j≤Q.length∧k=j∧v10=.int .i64 x∧x=(j:Int)-1∧v2=.int .i64 y1∧Hid (l1.length=l.length+(Q.length-j))∧Hid (layChk (Q.drop j) y n l=(y1,l1))∧Hid (LY w0 kb wr V ⟨rt,xx, .slice (some ⟨gq,oq,none⟩) q.length capq,v⟩ l1)∧Hid (LF kb w vl wr v))
 case atStart=>exact ⟨Q.length,y,_,l,vl,Nat.le_refl _,rfl,rfl,by omega,rfl,by show _=_;omega,by show _=_;simp[layChk],L0.out,LF.refl _ _ _⟩
 case round =>
  obtain ⟨j,y1,x,l1,v,hj,rfl,rfl,hx,rfl,HLL,HV,L1,LF1⟩:=hrel;rcases gk with _|m
  ·obtain rfl:x=-1:=by omega
   clear hx;go_wp2;go_ret;have:=HV.out;rw[List.drop_zero]at this;rw[this];exact ⟨rfl,v,L1.out,LF1.out⟩
  ·obtain rfl:x=(m:Int):=by omega
   clear hx;obtain ⟨gc,oc,rfl,hgc,hgc2,q0,q1⟩:=RB.out m (by omega);have s0:=(L1.out.fr.cell (p:=⟨gc,oc+m*2,none⟩) hgc2 hgc).trans q0;have s1:=(L1.out.fr.cell (p:=⟨gc,oc+m*2+1,none⟩) hgc2 hgc).trans q1;have hgc3:=Nat.lt_of_lt_of_le hgc2 L1.out.fr.size;have hlk:layChk (Q.drop m) y n l=(l1.length,l1++[if Q[m].2 then ⟨2,Q[m].1,y1,n⟩ else ⟨2,Q[m].1,n,y1⟩]):=by
    rw[List.drop_eq_getElem_cons (by omega),layChk,HV.out]
   have hd1:decide ((m:Int)<(Q.length:Int))=true:=decide_eq_true (by omega);generalize Q[m]=c at *;obtain ⟨ct,ch⟩:=c;simp only at s0 s1 hlk;clear q0 q1 HV;cases ch with
   | true =>
     have HV2:Hid (layChk (Q.drop m) y n l=(l1.length,l1++[⟨2,ct,y1,n⟩])):=hlk;have N1:=hide (lay_any w0 kb (wr.alloc (Obj.cells #[.int .i64 2, .int .i64 ct, .int .i64 y1, .int .i64 n] 102)) V _ l1 (L1.out.frm ((Frm.refl [] _).alloc _)) ⟨2,ct,y1,n⟩ (by rw[HLL.out];omega));simp only[icell]at N1;clear hlk;go_wp2_with fail
     refine (N1.out).mono ?_;rintro e w2 ⟨rfl,v2,hL2,hLF2⟩;have L2:=hide hL2;have LF2:Hid (LF kb w vl w2 v2):=LF1.out.trans (hLF2.pre ((Frm.refl [] _).alloc _));clear N1 hL2 hLF2 LF1;go_wp2;go_roundg m
     case measure=>omega
     case rel=>exact ⟨m,l1.length,_,_,v2,by omega,rfl,rfl,by omega,rfl,by show _=_;simp[HLL.out];omega,HV2,L2,LF2⟩
   | false =>
     have HV2:Hid (layChk (Q.drop m) y n l=(l1.length,l1++[⟨2,ct,n,y1⟩])):=hlk;have N1:=hide (lay_any w0 kb (wr.alloc (Obj.cells #[.int .i64 2, .int .i64 ct, .int .i64 n, .int .i64 y1] 102)) V _ l1 (L1.out.frm ((Frm.refl [] _).alloc _)) ⟨2,ct,n,y1⟩ (by rw[HLL.out];omega));simp only[icell]at N1;clear hlk;go_wp2_with fail
     refine (N1.out).mono ?_;rintro e w2 ⟨rfl,v2,hL2,hLF2⟩;have L2:=hide hL2;have LF2:Hid (LF kb w vl w2 v2):=LF1.out.trans (hLF2.pre ((Frm.refl [] _).alloc _));clear N1 hL2 hLF2 LF1;go_wp2;go_roundg m
     case measure=>omega
     case rel=>exact ⟨m,l1.length,_,_,v2,by omega,rfl,rfl,by omega,rfl,by show _=_;simp[HLL.out];omega,HV2,L2,LF2⟩
theorem cell_new_d(wr:World)(q:Nat)(v:Value)(t:TypeId):((wr.drewN q).alloc (Obj.cells #[v] t)).cell? ⟨wr.heap.size,0,none⟩=some v:=by
 have h:((wr.drewN q).alloc (Obj.cells #[v] t)).heap[wr.heap.size]?=some (Obj.cells #[v] t):=heap1 (wr.drewN q) _;unfold World.cell?;simp only[h]
 rfl
def kidB(C:List CR)(r j:Nat):Bool:=decide (r<j)&&(par C j==some r)
theorem kids_eq(C:List CR)(r:Nat):kids C r=(List.range C.length).filter (kidB C r):=rfl
theorem kids_start(C:List CR)(r:Nat):(List.range (r+1)).filter (kidB C r)=[]:=by
 rw[List.filter_eq_nil_iff];intro j hj;rw[List.mem_range]at hj;simp[kidB];omega
theorem kids_step(C:List CR)(r j:Nat)(h:r<j):(List.range (j+1)).filter (kidB C r)=(List.range j).filter (kidB C r)++(if (par C j==some r)=true then [j] else []):=by
 rw[List.range_succ,List.filter_append]
 congr 1
 cases hp:(par C j==some r)<;>simp[kidB,h,hp]
theorem parI_eq(C:List CR)(j r:Nat):(parI C j==(r:Int))=(par C j==some r):=by
 unfold parI;cases par C j with
 | none=>simp
 | some p=>rw[Bool.eq_iff_iff];simp;omega
theorem childrenOf_any(kb:Nat)(w:World)(V:V6)(U:V4)(hk:KR w kb V U)(C:List CR)(hrt:RTS [kb] w U.rt C)(hC:C.length≤1000)(hd:∀ c∈C,c.d≤1048576)(r:Nat)(hr:r<C.length) :
 Calls Tryz.prog 74 #[.pointer (some ⟨kb,0,none⟩), .int .i64 r] w fun e w'=>∃ v,e=.returned v∧Frm [] w w'∧OW 3 1 w.heap.size w' v (ic (kids C r)):=by
 obtain ⟨rt,xx,vq,vl⟩:=U;have H:=hide hk;have HRT:=hide hrt;have HD:=hide hd;obtain ⟨art,capt,ert⟩:∃ a cap,rt=.slice a C.length cap:=by
  obtain ⟨css,h1,h2⟩:=hrt;obtain ⟨a,cap,e,_⟩:=row_at h1 h2;exact ⟨a,cap,e⟩
 subst ert;have hkl:=hk.lt;clear hk hrt hd;go_enter Tryz.func74,Tryz.ntmps74
 go_wp2_with fail
 go_loopg [5,6] (C.length-(r+1)) (fun k v5 v6 wr=>∃ (j:Nat) (acc:List Nat),r<j∧j+k=C.length∧v6=.int .i64 j∧Hid (acc=(List.range j).filter (kidB C r))∧acc.length≤j∧Frm [] w wr∧OW 3 1 w.heap.size wr v5 (ic acc))
 case atStart=>exact ⟨r+1,[],by omega,by omega,by go_num,by show _=_;exact (kids_start C r).symm,by simp,(Frm.refl _ _).alloc _,OW.empty _ _ _ _ (Nat.le_refl _)⟩
 case round =>
  obtain ⟨j,acc,hrj,hjk,rfl,HA,hal,hF,hO⟩:=hrel;obtain ⟨ao,co,he⟩:=hO.shape;rw[ic_len]at he;subst he;have F:=hide hF;have O:=hide hO;have hz:=hF.size;have c6:=(H.out.frm hF (by simp)).c 6;simp at c6
  by_cases hlt:j<C.length
  ·have hd1:decide ((j:Int)<(C.length:Int))=true:=decide_eq_true (by omega)
   have N1:=hide (parentOf_any wr _ [kb] C (HRT.out.frm hF (by simp)) (by omega) HD.out j hlt);have hpe:=parI_eq C j r;have hst:=kids_step C r j hrj;clear hF hO;generalize parI C j=pj at *;cases hb:(par C j==some r)
   ·have HA2:Hid (acc=(List.range (j+1)).filter (kidB C r)):=by show _=_;rw[hst,hb,HA.out];simp
    rw[hb]at hpe;clear hst HA hb;go_wp2_with fail
    refine (N1.out).mono ?_;rintro e w2 ⟨rfl,qn,rfl⟩;clear N1;go_wp2;go_roundg (gk-1)
    case measure=>omega
    case rel=>exact ⟨j+1,acc,by omega,by omega,by go_num,HA2,by omega,F.out.drewN _,O.out.frm ((Frm.refl [] _).drewN _) (by simp)⟩
   ·have HA2:Hid (acc++[j]=(List.range (j+1)).filter (kidB C r)):=by show _=_;rw[hst,hb,HA.out];simp
    rw[hb]at hpe;clear hst HA hb;go_wp2_with fail
    refine (N1.out).mono ?_;rintro e w2 ⟨rfl,qn,rfl⟩;clear N1;go_wp2_with (at_builtin;refine wp_appIc _ rfl _ _ rfl w.heap.size (.slice ao acc.length co) acc wr.heap.size j rfl (O.out.frm (S:=[]) (((Frm.refl [] _).drewN qn).alloc _) (by simp)) rfl (cell_new_d _ _ _ _) (by omega) (by simp;omega) ?_;intro g2 cap2 w3 hs3 hg3 hor3 hlt3;have O3:=hide hs3;have G3:=hide hg3;clear hs3 hg3 hor3)
    go_roundg (gk-1)
    case measure=>omega
    case rel=>exact ⟨j+1,acc++[j],by omega,by omega,by go_num,HA2,by simp;omega,((F.out.drewN _).alloc _).grown G3.out (fun r hr=>.inr (O.out.lt hr).1),O3.out⟩
  ·have hd1:decide ((j:Int)<(C.length:Int))=false:=decide_eq_false (by omega)
   have hj:j=C.length:=by omega
   have HV:Hid (acc=kids C r):=by show _=_;rw[HA.out,hj,kids_eq]
   clear HA hF hO;go_wp2;go_ret;rw[← HV.out];exact ⟨_,rfl,F.out,O.out⟩
theorem layChk_len(y n:Nat)(l:List InM):∀ q:List (Nat × Bool),(layChk q y n l).2.length=l.length+q.length
 | []=>rfl
 | c::r=>by simp[layChk,layChk_len y n l r];omega
def bnd:Nat→Nat
 | 0=>0
 | f+1=>16*(bnd f+8)+1
theorem getD_short{q:List (List (Nat × Bool))}(hq:∀ x∈q,x.length≤4)(c:Nat):(q.getD c []).length≤4:=by
 by_cases h:c<q.length
 ·simp[List.getD,h];exact hq _ (List.getElem_mem h)
 ·simp[List.getD,h]
theorem lay1_bnd{rec:Nat→Nat→List InM→Nat × List InM}{R:Nat}(hr:∀ c d l,(rec c d l).2.length≤l.length+R)(C:List CR){q:List (List (Nat × Bool))}(hq:∀ x∈q,x.length≤4)(d:Nat)(l:List InM):∀ K:List Nat,(lay1 rec C q d l K).2.2.length≤l.length+K.length*(R+4)
 | []=>by simp[lay1]
 | c::r=>by
   have h1:=lay1_bnd hr C hq d l r;rw[lay1];generalize lay1 rec C q d l r=x at *;have h2:=hr c (if (C[c]?.map (·.co))=some true then x.1 else d) x.2.2;generalize rec c (if (C[c]?.map (·.co))=some true then x.1 else d) x.2.2=b at *;have h3:=layChk_len b.1 x.1 b.2 (q.getD c []);have h4:=getD_short hq c;show (layChk _ _ _ _).2.length≤_;rw[List.length_cons,Nat.add_mul];omega
theorem lay2_bnd{q:List (List (Nat × Bool))}(hq:∀ x∈q,x.length≤4)(first:Nat)(l:List InM):∀ Z:List (Nat × Nat),(lay2 q first l Z).2.length≤l.length+Z.length*4
 | []=>by simp[lay2]
 | z::r=>by
   have h1:=lay2_bnd hq first l r
   rw[lay2];have h3:=layChk_len z.2 (lay2 q first l r).1 (lay2 q first l r).2 (q.getD z.1 []);have h4:=getD_short hq z.1;rw[List.length_cons,Nat.add_mul];omega
theorem kids_len(C:List CR)(r:Nat):(kids C r).length≤C.length:=by
 rw[kids_eq];exact Nat.le_trans (List.length_filter_le _ _) (by simp)
theorem layR_bnd{C:List CR}(hC:C.length≤16){q:List (List (Nat × Bool))}(hq:∀ x∈q,x.length≤4):∀ f r d l,(layR C q f r d l).2.length≤l.length+bnd f
 | 0,_,_,l=>by simp[layR]
 | f+1,r,d,l=>by
   have h1:=lay1_bnd (layR_bnd hC hq f) C hq d l (kids C r);rw[layR];generalize lay1 (layR C q f) C q d l (kids C r)=x at *;have h2:=lay2_bnd hq x.2.2.length (x.2.2++[⟨1,r,d,0⟩]) ((kids C r).zip x.2.1);have h3:=kids_len C r;have h4:((kids C r).zip x.2.1).length≤(kids C r).length:=by rw[List.length_zip];exact Nat.min_le_left _ _
   have h5:(kids C r).length*(bnd f+4)≤16*(bnd f+4):=Nat.mul_le_mul_right _ (by omega);simp at h2;rw[bnd];show (lay2 _ _ _ _).2.length≤_;omega
theorem parGo_some{C:List CR}{d:Nat}:∀ {i p:Nat},parGo C d i=some p→p<i∧∃ c,C[p]?=some c∧c.d+1=d
 | 0,p,h=>by simp[parGo]at h
 | j+1,p,h=>by
   rw[parGo]at h
   split at h
   ·rename_i e
    cases h
    obtain ⟨c,hc,he⟩:=Option.map_eq_some_iff.1 e;exact ⟨by omega,c,hc,he⟩
   ·obtain ⟨h1,h2⟩:=parGo_some h
    exact ⟨by omega,h2⟩
theorem mem_kids{C:List CR}{r c:Nat}(h:c∈kids C r)(hr:r<C.length):∃ hc:c<C.length,r<c∧C[r].d+1=C[c].d:=by
 rw[kids_eq,List.mem_filter,List.mem_range]at h;obtain ⟨hc,hk⟩:=h;simp[kidB]at hk;refine ⟨hc,hk.1,?_⟩;have:=hk.2;unfold par at this;rw[List.getElem?_eq_getElem hc]at this;obtain ⟨_,c',h1,h2⟩:=parGo_some this;rw[List.getElem?_eq_getElem hr]at h1;cases h1
 exact h2
structure LC(w0:World)(kb:Nat)(rt vq:Value)(C:List CR)(q:List (List (Nat × Bool))):Prop where
 hrt:RTS [kb] w0 rt C
 hq:QR [kb] w0 vq q
 ql:q.length=C.length
 qb:∀ x∈q,x.length≤4
 cl:C.length≤16
 d:∀ c∈C,c.d≤5
def BG(w:World)(gb:Nat)(L:List Nat):Prop:=w.heap[gb]?=some (.cells (nv .i64 L).toArray 3 (0,0))
theorem BG.cell{w:World}{gb:Nat}{L:List Nat}(h:BG w gb L)(i:Nat)(hi:i<L.length):w.cell? ⟨gb,i,none⟩=some (.int .i64 (L[i]:Nat)):=by
 unfold BG at h;simp[World.cell?,h,nv,hi]
theorem BG.fz{w:World}{gb:Nat}{L:List Nat}(h:BG w gb L)(i:Nat):w.frozen? ⟨gb,i,none⟩=false:=by
 unfold BG at h;simp[World.frozen?,h]
theorem BG.lt{w:World}{gb:Nat}{L:List Nat}(h:BG w gb L):gb<w.heap.size:=(Array.getElem?_eq_some_iff.1 h).1
theorem BG.frm{S:List Nat}{w w':World}{gb:Nat}{L:List Nat}(h:BG w gb L)(f:Frm S w w')(hS:gb∉S):BG w' gb L:=(f.block gb h.lt hS).trans h
theorem BG.set{w:World}{gb:Nat}{L:List Nat}(h:BG w gb L)(i y:Nat):BG (w.setCell ⟨gb,i,none⟩ (.int .i64 y)) gb (L.set i y):=by
 unfold BG at h ⊢;simp[World.setCell,Array.getElem?_modify,h,nv,List.map_set]
theorem infoInt1:(Tryz.prog.info? 3).map (fun i=>(i.zero,i.size,i.bytes))=some (some (.int .i64 0),1,8):=by kernel_rfl
theorem made_ints(n:Nat):madeCells #[.int .i64 0] n=(nv .i64 (List.replicate n 0)).toArray:=by
 apply Array.ext
 ·simp[size_madeCells,nv]
 ·intro i h1 h2
  simp[madeCells,nv,Nat.mod_one]
theorem run_ints(n:Nat)(hn:n≤1000000)(u:World):(Instr.makeSlice 93 (.int .i64 (n:Int)) (.int .i64 (n:Int))).run Tryz.prog u=.ok (.slice (some ⟨u.heap.size,0,none⟩) n n) (u.alloc (.cells (nv .i64 (List.replicate n 0)).toArray 3)):=by
 obtain ⟨i0,hi,hz0,hz1,hz2⟩:=info_parts2 infoInt1;have:=run_make (P:=Tryz.prog) u 93 3 i0 _ Tryz.underlying93 hi hz0 .i64 .i64 (n:Int) (n:Int) (by omega) (Int.le_refl _) (by rw[hz2];omega) (by omega);rw[hz1,Int.toNat_natCast,Nat.mul_one]at this;rw[this];have e:(Value.int .i64 0).cells=#[.int .i64 0]:=rfl;rw[e,made_ints]
theorem RTS.co{A:List Nat}{w:World}{v:Value}{C:List CR}(h:RTS A w v C):∃ a cap,v=.slice a C.length cap∧∀ (j:Nat) (hj:j<C.length),∃ g off,a=some ⟨g,off,none⟩∧g∉A∧g<w.heap.size∧w.cell? ⟨g,off+j*9+8,none⟩=some (.bool C[j].co):=by
 obtain ⟨css,h1,h2⟩:=h;obtain ⟨a,cap,e,r⟩:=row_at h1 h2;refine ⟨a,cap,e,fun j hj=>?_⟩;obtain ⟨g,off,cs,e2,h3,h4,⟨vby,vif,rfl,_⟩,k1⟩:=r j hj;exact ⟨g,off,e2,h4,h3,k1 8 _ rfl⟩
theorem OW.nums{base:Nat}{w:World}{v:Value}{L:List Nat}(h:OW 3 1 base w v (ic L)):∃ a cap,v=.slice a L.length cap∧∀ (j:Nat) (hj:j<L.length),∃ g,a=some ⟨g,0,none⟩∧v.ownBlock=some g∧g<w.heap.size∧w.cell? ⟨g,j,none⟩=some (.int .i64 (L[j]:Nat)):=by
 obtain ⟨a,cap,e⟩:=h.shape;rw[ic_len]at e;subst e;refine ⟨a,cap,rfl,fun j hj=>?_⟩;obtain ⟨a',cap',e',hr⟩:=(h.rw (A:=[]) (by simp)).num;simp only[Value.slice.injEq,true_and]at e';obtain ⟨rfl,rfl⟩:=e';obtain ⟨g,off,rfl,hg,hc⟩:=hr j hj;have hsh:=h.1.2;rcases hsh with hn|⟨g',cap',cur,e',_⟩
 ·rw[ic_len]at hn
  have:=hn.2;omega
 ·simp only[Value.slice.injEq,Option.some.injEq,Addr.mk.injEq]at e'
  obtain ⟨⟨rfl,rfl,_⟩,_⟩:=e';rw[Nat.zero_add]at hc;exact ⟨_,rfl,rfl,hg,hc⟩
end Go.Proofs.YtpcbbbilmpobaaaGreatDoor
