import Derived.Test.YtpcbbbilmpobaaaGreatDoorJ17
import Derived.Test.YtpcbbbilmpobaaaGreatDoorJ15
import Derived.Test.YtpcbbbilmpobaaaGreatDoorJ16
set_option linter.unusedVariables false
set_option linter.unusedSimpArgs false
set_option linter.unnecessarySimpa false
set_option maxRecDepth 100000
set_option maxHeartbeats 8000000
namespace Go.Proofs.YtpcbbbilmpobaaaGreatDoor
open Go.RowKit
theorem KS.own_lt{Z:List Nat}{w0:World}{kb:Nat}{w:World}{V:V6}{U:V4}{s:CS}(h:KS Z w0 kb w V U s):∀ g∈kb::kown V U,g<w.heap.size:=by
 obtain ⟨ca,cq,g⟩:=h.g;exact g.owns_lt
theorem KF.keep{kb:Nat}{wa wb:World}{V V1:V6}{U U1:V4}(h:KF kb wa V U wb V1 U1){n b:Nat}{o:Obj}(hn:∀ g∈kb::kown V U,g<n)(hb:n≤b)(ho:wa.heap[b]?=some o):wb.heap[b]?=some o :=
 (h.f.block b (Array.getElem?_eq_some_iff.1 ho).1 (fun hm=>by have:=hn b hm;omega)).trans ho
theorem addx_new{L:List (List UInt8)}{x:List UInt8}(h:fdx L x=L.length):addx L x=L++[x]:=by unfold addx;rw[if_pos h]
theorem addx_old{L:List (List UInt8)}{x:List UInt8}(h:¬ fdx L x=L.length):addx L x=L:=by unfold addx;rw[if_neg h]
def TOQ(Z:List Nat)(re:List UInt8→Nat)(aut:List UInt8→AutM)(w0:World)(kb:Nat)(w:World)(V:V6)(U:V4)(s:CS)(m:CM)(e:Ending)(w':World):Prop :=
 (ptest re aut s m=none∧re m.2.2≠0∧Frm [kb] w0 w'∧∃ t,e=.returned (.tuple #[.agg (tcell t), .int .i64 (re m.2.2:Nat)])) ∨
 (∃ t s1 V' U',ptest re aut s m=some (t,s1)∧e=.returned (.tuple #[.agg (tcell t), .int .i64 0])∧KS Z w0 kb w' V' U' s1∧KV V V' U U'∧KF kb w V U w' V' U')
theorem testZ:(Tryz.prog.info? 97).map (·.size)=some 3:=by kernel_rfl
theorem loadTest{w:World}{g:Nat}{cs:Array Value}(h:w.heap[g]?=some (.cells cs 97 (0,0)))(hs:cs.size=3):(loadVar 97 ⟨g,0,none⟩).run Tryz.prog w=.ok (.agg cs) w :=
 run_loadVar_row w g 97 97 cs (0,0) _ h Tryz.underlying97 rfl (by rw[hs];exact testZ)
theorem set3_row{w:World}{g:Nat}{t:TypeId}{o0 o1 o2:Value}(v0 v1 v2:Value)(h:w.heap[g]?=some (.cells #[o0,o1,o2] t (0,0))):(((w.setCell ⟨g,0,none⟩ v0).setCell ⟨g,1,none⟩ v1).setCell ⟨g,2,none⟩ v2).heap[g]?=some (.cells #[v0,v1,v2] t (0,0)):=by
 simp[World.setCell,Array.getElem?_modify,h]
theorem set3_frm(w:World)(g:Nat)(v0 v1 v2:Value):Frm [g] w (((w.setCell ⟨g,0,none⟩ v0).setCell ⟨g,1,none⟩ v1).setCell ⟨g,2,none⟩ v2) :=
 (((Frm.refl [g] _).setCell (p:=⟨g,0,none⟩) (.inl (by simp)) _).setCell (p:=⟨g,1,none⟩) (.inl (by simp)) _).setCell (p:=⟨g,2,none⟩) (.inl (by simp)) _
theorem testOf_any(Z:List Nat)(re:List UInt8→Nat)(aut:List UInt8→AutM)(w0:World)(kb:Nat)(w:World)(V:V6)(U:V4)(s:CS)(h:KS Z w0 kb w V U s)(hZ:∀ g∈Z,g<w.heap.size)(nm:List UInt8)(kd:Nat)(vl:List UInt8)(hv:(kd=2∨kd=3)→RCP re aut vl)(hkd:kd≤3)(hbn:s.n.length≤1000)(hbc:s.c.length≤1000)(hbx:s.x.length≤1000)(hba:s.a.length≤1000) :
 Calls Tryz.prog 46 #[.pointer (some ⟨kb,0,none⟩), .agg #[.string (bs nm), .int .i64 (kd:Nat), .string (bs vl)]] w (TOQ Z re aut w0 kb w V U s (nm,kd,vl)):=by
 obtain ⟨vn,vc,va,vt,vr,vi⟩:=V;have hO:OW 9 1 w0.heap.size w vn (sc s.n):=h.own 0 (r:=⟨9,1,vn,sc s.n⟩) (fun ca cq=>rfl);obtain ⟨an,cn,he⟩:=hO.shape;rw[sc_len]at he;subst he;have HOL:=hide h.own_lt;have HK:=hide h;have hlo:=h.lo;have hkw:=h.row.lt;have hfl:=fdx_le s.n nm;have c0:=h.row.c 0;simp at c0;have N1:Hid (∀ W,Frm [] w W→Calls Tryz.prog 71 #[.slice an s.n.length cn, .string (bs nm)] W fun e w'=>e=.returned (.int .i64 (fdx s.n nm:Nat))∧w'=W):=fun W hW=>(find_any W _ [] s.n nm ((hO.rw (by simp)).frm hW (by simp)) (by omega)).mono (fun e w' h=>⟨h.1,h.2.symm⟩)
 have FW:Hid (∀ n,Frm [] w (((w.alloc (Obj.cells #[.string (bs nm), .int .i64 (kd:Nat), .string (bs vl)] 116)).alloc (Obj.cells #[.int .i64 0, .int .i64 0, .int .i64 0] 97)).drewN n)):=fun n=>(((Frm.refl [] w).alloc _).alloc _).drewN n
 clear h hO;go_enter Tryz.func46,Tryz.ntmps46
 go_upto_region 1 with fail
 go_cut [6] (fun v6 wc=>True∧v6=.int .i64 (fdx s.n nm:Nat)∧Frm [] w wc∧wc.heap[w.heap.size]?=some (.cells #[.string (bs nm), .int .i64 (kd:Nat), .string (bs vl)] 116 (0,0))∧wc.heap[w.heap.size+1]?=some (.cells #[.int .i64 0, .int .i64 0, .int .i64 0] 97 (0,0)))
 case first =>
  go_quiet ((go_at_call 71;exact Calls.quiet_of_same (N1.out _ (FW.out _))))
  go_wp2;go_meet;exact ⟨trivial,rfl,FW.out _,(((Frm.refl [] _).alloc _).block w.heap.size (by simp) (by simp)).trans (heap1 _ _),heap_b _ _ _⟩
 case rest =>
  obtain ⟨_,rfl,hFa,hm,ht⟩:=hcut;obtain ⟨wa,hwa⟩:∃ wa,wa=wc:=⟨_,rfl⟩;subst hwa;have KA:Hid (KS ((w.heap.size+1)::w.heap.size::Z) w0 kb wa ⟨.slice an s.n.length cn,vc,va,vt,vr,vi⟩ U s):=((HK.out.addZ (Nat.le_refl _)).addZ (Nat.le_succ _)).frm hFa;have HM:=hide hm;have HT:=hide ht;have HFA:=hide hFa;have hza:=hFa.size;have hta:w.heap.size+1<wa.heap.size:=(Array.getElem?_eq_some_iff.1 ht).1;have m0:wa.cell? ⟨w.heap.size,0,none⟩=some (.string (bs nm)):=by simp[World.cell?,hm]
  have d0:=hFa.at (p:=⟨kb,0,none⟩) hkw c0;have z0:=KA.out.row.fz 0;have hka:=KA.out.row.lt;have OA:=hide (KA.out.own 0 (r:=⟨9,1, .slice an s.n.length cn,sc s.n⟩) (fun ca cq=>rfl));have HTC:Hid ((sc s.n).length=s.n.length):=sc_len s.n;have HNB:Hid (∀ r,Value.ownBlock (.slice an s.n.length cn)=some r→r≠kb):=fun r hr=>by have:=(OA.out.lt hr).1;omega
  have hz0:=hlo.2;clear hFa hm ht N1 FW c0;go_upto_if 25 with fail
  go_cut [6] (fun v6 wc=>True∧v6=.int .i64 (fdx s.n nm:Nat)∧∃ vn1,KS ((w.heap.size+1)::w.heap.size::Z) w0 kb wc ⟨vn1,vc,va,vt,vr,vi⟩ U { s with n:=addx s.n nm }∧KF kb wa ⟨.slice an s.n.length cn,vc,va,vt,vr,vi⟩ U wc ⟨vn1,vc,va,vt,vr,vi⟩ U)
  case first =>
   by_cases hfe:fdx s.n nm=s.n.length
   ·have HAX:=hide (addx_new hfe)
    have hb1:((fdx s.n nm:Int)==(s.n.length:Int))=true:=by rw[hfe];simp
    have HFE:=hide hfe;clear hfl;generalize fdx s.n nm=fx at *;subst hfe;go_wp2_with fail
    go_region_law ((refine step_appG _ (by rfl) _ _ 47 9 _ 1 16 infoStr Tryz.underlying47 (by rfl) (by omega) (by rfl) w0.heap.size (.slice an s.n.length cn) (sc s.n) wa.heap.size #[.string (bs nm)] (0,0) (by rfl) (OA.out.frm (S:=[]) (((Frm.refl [] _).alloc _).drew) (by simp)) (by rfl) (by rfl) (by exact heap1 _ _) (by simp[Value.oneCell']) (by rw[HTC.out];omega) (by rw[HTC.out];omega) (by simp;omega) (wa.heap.size+1) (by simp) ?_;intro gg cap2 w4 hown4 hgrow hat hlt4;rw[HTC.out]at hown4 ⊢;have R4:=hide ((KA.out.row.frm (S:=[]) (((Frm.refl [] _).alloc _).drew) (by simp)).grown hgrow HNB.out);have k0:=R4.out.c 0;have y0:=R4.out.fz 0;simp at k0))
    all_goals
     have O4:OW 9 1 w0.heap.size w4 (.slice (some ⟨gg,0,none⟩) (s.n.length+1) cap2) (sc (s.n++[nm])):=by rw[← sc_snoc];exact hown4
     have K5:=hide (KA.out.put (((Frm.refl [] _).alloc _).drew) 0 ⟨9,1, .slice an s.n.length cn,sc s.n⟩ ⟨9,1, .slice (some ⟨gg,0,none⟩) (s.n.length+1) cap2,sc (s.n++[nm])⟩ (V':=⟨.slice (some ⟨gg,0,none⟩) (s.n.length+1) cap2,vc,va,vt,vr,vi⟩) (U':=U) (s':={ s with n:=s.n++[nm] }) (fun ca cq=>rfl) (fun ca cq=>rfl) rfl rfl hgrow O4 rfl (by simpa using hat) 0 (.slice (some ⟨gg,0,none⟩) (s.n.length+1) cap2) rfl);have KF5:Hid (KF kb wa ⟨.slice an s.n.length cn,vc,va,vt,vr,vi⟩ U (w4.setCell ⟨kb,0,none⟩ (.slice (some ⟨gg,0,none⟩) (s.n.length+1) cap2)) ⟨.slice (some ⟨gg,0,none⟩) (s.n.length+1) cap2,vc,va,vt,vr,vi⟩ U):=KF.put (s:=s) (s':={ s with n:=s.n++[nm] }) (ca:=[]) (cq:=[]) (ca':=[]) (cq':=[]) (((Frm.refl [] _).alloc _).drew) 0 (r:=⟨9,1, .slice an s.n.length cn,sc s.n⟩) (r':=⟨9,1, .slice (some ⟨gg,0,none⟩) (s.n.length+1) cap2,sc (s.n++[nm])⟩) rfl rfl hgrow rfl (by simpa using hat) 0 _;clear hgrow hown4 hat k0 y0 R4 O4;go_wp2;go_meet;exact ⟨trivial,rfl,_,by rw[HAX.out];exact K5.out,KF5.out⟩
   ·have HAX:=hide (addx_old hfe)
    have hb1:((fdx s.n nm:Int)==(s.n.length:Int))=false:=by rw[beq_eq_false_iff_ne];omega
    have hb2:decide ((fdx s.n nm:Int)=(s.n.length:Int))=false:=decide_eq_false (by omega);generalize fdx s.n nm=fx at *;go_wp2;go_meet;exact ⟨trivial,rfl,_,by rw[HAX.out];exact KA.out,KF.refl _ _ _ _⟩
  case rest =>
   obtain ⟨_,rfl,vn1,hKB,hKFB⟩:=hcut;obtain ⟨wb,hwb⟩:∃ wb,wb=wc:=⟨_,rfl⟩;subst hwb;have KB:=hide hKB;have KFB:=hide hKFB;have hmb:=hKFB.keep HOL.out (Nat.le_refl _) HM.out;have m1:wb.cell? ⟨w.heap.size,1,none⟩=some (.int .i64 (kd:Nat)):=by simp[World.cell?,hmb]
   have m2:wb.cell? ⟨w.heap.size,2,none⟩=some (.string (bs vl)):=by simp[World.cell?,hmb]
   have hzb:=hKFB.f.size;have hkb:=hKB.row.lt;have HZ2:Hid (∀ g∈(w.heap.size+1)::w.heap.size::Z,g<wb.heap.size):=fun g hg=>by
    simp at hg;rcases hg with rfl|rfl|hg
    ·omega
    ·omega
    ·have:=hZ g hg;omega
   have HEND:Hid (∀ (w3:World) (V3:V6) (U3:V4) (s3:CS) (a b c:Value),KS ((w.heap.size+1)::w.heap.size::Z) w0 kb w3 V3 U3 s3→KF kb wb ⟨vn1,vc,va,vt,vr,vi⟩ U w3 V3 U3→KS Z w0 kb (((w3.setCell ⟨w.heap.size+1,0,none⟩ a).setCell ⟨w.heap.size+1,1,none⟩ b).setCell ⟨w.heap.size+1,2,none⟩ c) V3 U3 s3∧KF kb w ⟨.slice an s.n.length cn,vc,va,vt,vr,vi⟩ U (((w3.setCell ⟨w.heap.size+1,0,none⟩ a).setCell ⟨w.heap.size+1,1,none⟩ b).setCell ⟨w.heap.size+1,2,none⟩ c) V3 U3):=by
    intro w3 V3 U3 s3 a b c hk hf;have hall:=KFB.out.trans hf;have FS:=set3_frm w3 (w.heap.size+1) a b c;have h1:=hk.off FS (by simp) (by simp;omega) (by
     intro g hg hm;simp at hg;subst hg;rcases hall.o _ hm with h2|h2
     ·have:=HOL.out (w.heap.size+1) (by simp[h2]);omega
     ·omega)
    have K:=(KF.of (kb:=kb) (V:=⟨.slice an s.n.length cn,vc,va,vt,vr,vi⟩) (U:=U) HFA.out).trans hall;exact ⟨h1.lessZ.lessZ,K.f.over FS (by simp),K.o⟩
   have HKEEP:Hid (∀ (w3:World) (V3:V6) (U3:V4),KF kb wb ⟨vn1,vc,va,vt,vr,vi⟩ U w3 V3 U3→w3.heap[w.heap.size+1]?=some (.cells #[.int .i64 0, .int .i64 0, .int .i64 0] 97 (0,0))):=fun w3 V3 U3 hf=>(KFB.out.trans hf).keep HOL.out (Nat.le_succ _) HT.out
   clear hKB hKFB hmb m0 d0 z0 OA HTC HNB
   by_cases hk:kd=2∨kd=3
   ·have N2:=hide (numberOfAutomaton_any ((w.heap.size+1)::w.heap.size::Z) re aut w0 kb wb ⟨vn1,vc,va,vt,vr,vi⟩ U { s with n:=addx s.n nm } KB.out HZ2.out vl (hv hk) hbx hba)
    have HPT:Hid (ptest re aut s (nm,kd,vl)=if fdx s.x vl<s.x.length then some (⟨fdx s.n nm,1,fdx s.x vl⟩,{ s with n:=addx s.n nm }) else if re vl=0 then some (⟨fdx s.n nm,1,fdx s.x vl⟩,{ s with n:=addx s.n nm,x:=s.x++[vl],a:=s.a++[aut vl] }) else none):=by
     show _=_;unfold ptest;rw[if_pos hk]
    have hfx:=fdx_le s.x vl;generalize fdx s.n nm=fn at *;rcases hk with rfl|rfl
    ·go_wp2_with fail
     refine (N2.out).mono ?_;clear N2;rintro e w3 hN;rcases hN with ⟨h1,rfl,hK3,hKF3⟩|⟨h1,h2,rfl,V3,U3,hK3,hKV3,hKF3⟩|⟨h1,h2,rfl,hF3,hKF3⟩
     ·have hE:=HEND.out w3 _ _ _ (.int .i64 (fn:Nat)) (.int .i64 1) (.int .i64 (fdx s.x vl:Nat)) hK3 hKF3
      have ht3:=HKEEP.out w3 _ _ hKF3;have HE:=hide hE;have HT3:=hide ht3;have HP:Hid (ptest re aut s (nm,2,vl)=some (⟨fn,1,fdx s.x vl⟩,{ s with n:=addx s.n nm })):=by
       show _=_;rw[HPT.out,if_pos h1]
      have t0:w3.cell? ⟨w.heap.size+1,0,none⟩=some (.int .i64 0):=by simp[World.cell?,ht3]
      have t1:w3.cell? ⟨w.heap.size+1,1,none⟩=some (.int .i64 0):=by simp[World.cell?,ht3]
      have t2:w3.cell? ⟨w.heap.size+1,2,none⟩=some (.int .i64 0):=by simp[World.cell?,ht3]
      have tz:∀ o,w3.frozen? ⟨w.heap.size+1,o,none⟩=false:=fun o=>by simp[World.frozen?,ht3]
      clear hE ht3 h1 hK3 hKF3 HPT;generalize fdx s.x vl=fv at *;go_wp2_with fail
      refine bodyPost_ret (results_cell_tmpA rfl _ _ (w.heap.size+1) (tcell ⟨fn,1,fv⟩) rfl (loadTest (set3_row _ _ _ HT3.out) rfl)) rfl ?_;exact .inr ⟨_,_,_,_,HP.out,rfl,HE.out.1,KV.refl _ _,HE.out.2⟩
     ·have hE:=HEND.out w3 _ _ _ (.int .i64 (fn:Nat)) (.int .i64 1) (.int .i64 (s.x.length:Nat)) hK3 hKF3
      have ht3:=HKEEP.out w3 _ _ hKF3;have HE:=hide hE;have HT3:=hide ht3;have HP:Hid (ptest re aut s (nm,2,vl)=some (⟨fn,1,s.x.length⟩,{ s with n:=addx s.n nm,x:=s.x++[vl],a:=s.a++[aut vl] })):=by
       show _=_;rw[HPT.out,if_neg (by simp only at h1;omega),if_pos h2];simp only at h1;rw[h1]
      have HKV:=hide hKV3;have t0:w3.cell? ⟨w.heap.size+1,0,none⟩=some (.int .i64 0):=by simp[World.cell?,ht3]
      have t1:w3.cell? ⟨w.heap.size+1,1,none⟩=some (.int .i64 0):=by simp[World.cell?,ht3]
      have t2:w3.cell? ⟨w.heap.size+1,2,none⟩=some (.int .i64 0):=by simp[World.cell?,ht3]
      have tz:∀ o,w3.frozen? ⟨w.heap.size+1,o,none⟩=false:=fun o=>by simp[World.frozen?,ht3]
      clear hE ht3 h1 h2 hK3 hKV3 hKF3 HPT;go_wp2_with fail
      refine bodyPost_ret (results_cell_tmpA rfl _ _ (w.heap.size+1) (tcell ⟨fn,1,s.x.length⟩) rfl (loadTest (set3_row _ _ _ HT3.out) rfl)) rfl ?_;exact .inr ⟨_,_,_,_,HP.out,rfl,HE.out.1,⟨HKV.out.1,HKV.out.2.1,HKV.out.2.2.1,HKV.out.2.2.2⟩,HE.out.2⟩
     ·have ht3:=HKEEP.out w3 _ _ hKF3
      have HT3:=hide ht3;have HP:Hid (ptest re aut s (nm,2,vl)=none):=by
       show _=_;rw[HPT.out,if_neg (by simp only at h1;omega),if_neg h2]
      have HRE:=hide h2;have F3:=hide hF3;have t0:w3.cell? ⟨w.heap.size+1,0,none⟩=some (.int .i64 0):=by simp[World.cell?,ht3]
      have t1:w3.cell? ⟨w.heap.size+1,1,none⟩=some (.int .i64 0):=by simp[World.cell?,ht3]
      have t2:w3.cell? ⟨w.heap.size+1,2,none⟩=some (.int .i64 0):=by simp[World.cell?,ht3]
      have tz:∀ o,w3.frozen? ⟨w.heap.size+1,o,none⟩=false:=fun o=>by simp[World.frozen?,ht3]
      clear ht3 h1 h2 hF3 hKF3 HPT;go_wp2_with fail
      refine bodyPost_ret (results_cell_tmpA rfl _ _ (w.heap.size+1) (tcell ⟨fn,1,0⟩) rfl (loadTest (set3_row _ _ _ HT3.out) rfl)) rfl ?_;exact .inl ⟨HP.out,HRE.out,F3.out.over (set3_frm _ _ _ _ _) (by simp;omega),_,rfl⟩
    ·go_wp2_with fail
     refine (N2.out).mono ?_;clear N2;rintro e w3 hN;rcases hN with ⟨h1,rfl,hK3,hKF3⟩|⟨h1,h2,rfl,V3,U3,hK3,hKV3,hKF3⟩|⟨h1,h2,rfl,hF3,hKF3⟩
     ·have hE:=HEND.out w3 _ _ _ (.int .i64 (fn:Nat)) (.int .i64 1) (.int .i64 (fdx s.x vl:Nat)) hK3 hKF3
      have ht3:=HKEEP.out w3 _ _ hKF3;have HE:=hide hE;have HT3:=hide ht3;have HP:Hid (ptest re aut s (nm,3,vl)=some (⟨fn,1,fdx s.x vl⟩,{ s with n:=addx s.n nm })):=by
       show _=_;rw[HPT.out,if_pos h1]
      have t0:w3.cell? ⟨w.heap.size+1,0,none⟩=some (.int .i64 0):=by simp[World.cell?,ht3]
      have t1:w3.cell? ⟨w.heap.size+1,1,none⟩=some (.int .i64 0):=by simp[World.cell?,ht3]
      have t2:w3.cell? ⟨w.heap.size+1,2,none⟩=some (.int .i64 0):=by simp[World.cell?,ht3]
      have tz:∀ o,w3.frozen? ⟨w.heap.size+1,o,none⟩=false:=fun o=>by simp[World.frozen?,ht3]
      clear hE ht3 h1 hK3 hKF3 HPT;generalize fdx s.x vl=fv at *;go_wp2_with fail
      refine bodyPost_ret (results_cell_tmpA rfl _ _ (w.heap.size+1) (tcell ⟨fn,1,fv⟩) rfl (loadTest (set3_row _ _ _ HT3.out) rfl)) rfl ?_;exact .inr ⟨_,_,_,_,HP.out,rfl,HE.out.1,KV.refl _ _,HE.out.2⟩
     ·have hE:=HEND.out w3 _ _ _ (.int .i64 (fn:Nat)) (.int .i64 1) (.int .i64 (s.x.length:Nat)) hK3 hKF3
      have ht3:=HKEEP.out w3 _ _ hKF3;have HE:=hide hE;have HT3:=hide ht3;have HP:Hid (ptest re aut s (nm,3,vl)=some (⟨fn,1,s.x.length⟩,{ s with n:=addx s.n nm,x:=s.x++[vl],a:=s.a++[aut vl] })):=by
       show _=_;rw[HPT.out,if_neg (by simp only at h1;omega),if_pos h2];simp only at h1;rw[h1]
      have HKV:=hide hKV3;have t0:w3.cell? ⟨w.heap.size+1,0,none⟩=some (.int .i64 0):=by simp[World.cell?,ht3]
      have t1:w3.cell? ⟨w.heap.size+1,1,none⟩=some (.int .i64 0):=by simp[World.cell?,ht3]
      have t2:w3.cell? ⟨w.heap.size+1,2,none⟩=some (.int .i64 0):=by simp[World.cell?,ht3]
      have tz:∀ o,w3.frozen? ⟨w.heap.size+1,o,none⟩=false:=fun o=>by simp[World.frozen?,ht3]
      clear hE ht3 h1 h2 hK3 hKV3 hKF3 HPT;go_wp2_with fail
      refine bodyPost_ret (results_cell_tmpA rfl _ _ (w.heap.size+1) (tcell ⟨fn,1,s.x.length⟩) rfl (loadTest (set3_row _ _ _ HT3.out) rfl)) rfl ?_;exact .inr ⟨_,_,_,_,HP.out,rfl,HE.out.1,⟨HKV.out.1,HKV.out.2.1,HKV.out.2.2.1,HKV.out.2.2.2⟩,HE.out.2⟩
     ·have ht3:=HKEEP.out w3 _ _ hKF3
      have HT3:=hide ht3;have HP:Hid (ptest re aut s (nm,3,vl)=none):=by
       show _=_;rw[HPT.out,if_neg (by simp only at h1;omega),if_neg h2]
      have HRE:=hide h2;have F3:=hide hF3;have t0:w3.cell? ⟨w.heap.size+1,0,none⟩=some (.int .i64 0):=by simp[World.cell?,ht3]
      have t1:w3.cell? ⟨w.heap.size+1,1,none⟩=some (.int .i64 0):=by simp[World.cell?,ht3]
      have t2:w3.cell? ⟨w.heap.size+1,2,none⟩=some (.int .i64 0):=by simp[World.cell?,ht3]
      have tz:∀ o,w3.frozen? ⟨w.heap.size+1,o,none⟩=false:=fun o=>by simp[World.frozen?,ht3]
      clear ht3 h1 h2 hF3 hKF3 HPT;go_wp2_with fail
      refine bodyPost_ret (results_cell_tmpA rfl _ _ (w.heap.size+1) (tcell ⟨fn,1,0⟩) rfl (loadTest (set3_row _ _ _ HT3.out) rfl)) rfl ?_;exact .inl ⟨HP.out,HRE.out,F3.out.over (set3_frm _ _ _ _ _) (by simp;omega),_,rfl⟩
   ·have HPT:Hid (ptest re aut s (nm,kd,vl)=some (⟨fdx s.n nm,0,fdx s.c vl⟩,{ s with n:=addx s.n nm,c:=addx s.c vl })):=by
     show _=_;unfold ptest;rw[if_neg hk]
    have hk2:((kd:Int)==2)=false:=by rw[beq_eq_false_iff_ne];omega
    have hk3:((kd:Int)==3)=false:=by rw[beq_eq_false_iff_ne];omega
    have hk2':decide ((kd:Int)=2)=false:=decide_eq_false (by omega);have hk3':decide ((kd:Int)=3)=false:=decide_eq_false (by omega);have hO:OW 9 1 w0.heap.size wb vc (sc s.c):=KB.out.own 1 (r:=⟨9,1,vc,sc s.c⟩) (fun ca cq=>rfl);obtain ⟨ac,cc',he⟩:=hO.shape;rw[sc_len]at he;subst he;have c1:=KB.out.row.c 1;simp at c1;have z1:=KB.out.row.fz 1;have N3:Hid (∀ W,Frm [] wb W→Calls Tryz.prog 71 #[.slice ac s.c.length cc', .string (bs vl)] W fun e w'=>e=.returned (.int .i64 (fdx s.c vl:Nat))∧w'=W):=fun W hW=>(find_any W _ [] s.c vl ((hO.rw (by simp)).frm hW (by simp)) (by omega)).mono (fun e w' h=>⟨h.1,h.2.symm⟩)
    have FB:Hid (∀ n,Frm [] wb (wb.drewN n)):=fun n=>(Frm.refl [] _).drewN n
    have OB:=hide hO;have hfc:=fdx_le s.c vl;have HTC:Hid ((sc s.c).length=s.c.length):=sc_len s.c;have HNB:Hid (∀ r,Value.ownBlock (.slice ac s.c.length cc')=some r→r≠kb):=fun r hr=>by have:=(OB.out.lt hr).1;omega
    have hmw:w.heap.size<wb.heap.size:=by omega
    have hkbd:∀ n,kb<(wb.drewN n).heap.size:=fun n=>hkb
    have hmwd:∀ n,w.heap.size<(wb.drewN n).heap.size:=fun n=>hmw
    have c1d:∀ n o,((wb.drewN n).alloc o).cell? ⟨kb,1,none⟩=some (.slice ac s.c.length cc'):=fun n o=>((((Frm.refl [] wb).drewN n).alloc o).cell (p:=⟨kb,1,none⟩) hkb (by simp)).trans c1
    clear hO;generalize fdx s.n nm=fn at *
    by_cases hfe:fdx s.c vl=s.c.length
    ·have HAX:=hide (addx_new hfe)
     rw[hfe]at N3 HPT;clear hfc hfe;go_wp2_with fail
     go_quiet ((go_at_call 71;exact Calls.quiet_of_same (N3.out _ (FB.out _))))
     go_wp2_with fail
     go_region_law ((refine step_appG _ (by rfl) _ _ 47 9 _ 1 16 infoStr Tryz.underlying47 (by rfl) (by omega) (by rfl) w0.heap.size (.slice ac s.c.length cc') (sc s.c) wb.heap.size #[.string (bs vl)] (0,0) (by rfl) (OB.out.frm (S:=[]) (((Frm.refl [] _).drewN _).alloc _) (by simp)) (by rfl) (by rfl) (by exact heap1 (wb.drewN _) _) (by simp[Value.oneCell']) (by rw[HTC.out];omega) (by rw[HTC.out];omega) (by simp;omega) (wb.heap.size+1) (by simp) ?_;intro gg cap2 w4 hown4 hgrow hat hlt4;rw[HTC.out]at hown4 ⊢;have R4:=hide ((KB.out.row.frm (S:=[]) (((Frm.refl [] _).drewN _).alloc _) (by simp)).grown hgrow HNB.out);have k1:=R4.out.c 1;have y1:=R4.out.fz 1;simp at k1))
     all_goals
      have O4:OW 9 1 w0.heap.size w4 (.slice (some ⟨gg,0,none⟩) (s.c.length+1) cap2) (sc (s.c++[vl])):=by rw[← sc_snoc];exact hown4
      have K5:=hide (KB.out.put (((Frm.refl [] _).drewN _).alloc _) 1 ⟨9,1, .slice ac s.c.length cc',sc s.c⟩ ⟨9,1, .slice (some ⟨gg,0,none⟩) (s.c.length+1) cap2,sc (s.c++[vl])⟩ (V':=⟨vn1, .slice (some ⟨gg,0,none⟩) (s.c.length+1) cap2,va,vt,vr,vi⟩) (U':=U) (s':={ s with n:=addx s.n nm,c:=s.c++[vl] }) (fun ca cq=>rfl) (fun ca cq=>rfl) rfl rfl hgrow O4 rfl (by simpa using hat) 1 (.slice (some ⟨gg,0,none⟩) (s.c.length+1) cap2) rfl);have KF5:Hid (KF kb wb ⟨vn1, .slice ac s.c.length cc',va,vt,vr,vi⟩ U (w4.setCell ⟨kb,1,none⟩ (.slice (some ⟨gg,0,none⟩) (s.c.length+1) cap2)) ⟨vn1, .slice (some ⟨gg,0,none⟩) (s.c.length+1) cap2,va,vt,vr,vi⟩ U):=KF.put (s:=s) (s':={ s with c:=s.c++[vl] }) (ca:=[]) (cq:=[]) (ca':=[]) (cq':=[]) (((Frm.refl [] _).drewN _).alloc _) 1 (r:=⟨9,1, .slice ac s.c.length cc',sc s.c⟩) (r':=⟨9,1, .slice (some ⟨gg,0,none⟩) (s.c.length+1) cap2,sc (s.c++[vl])⟩) rfl rfl hgrow rfl (by simpa using hat) 1 _;have ht3:=HKEEP.out _ _ _ KF5.out;have HE:=hide (HEND.out _ _ _ _ (.int .i64 (fn:Nat)) (.int .i64 0) (.int .i64 (s.c.length:Nat)) K5.out KF5.out);have HT3:=hide ht3;have t0:(w4.setCell ⟨kb,1,none⟩ (.slice (some ⟨gg,0,none⟩) (s.c.length+1) cap2)).cell? ⟨w.heap.size+1,0,none⟩=some (.int .i64 0):=by simp[World.cell?,ht3]
      have t1:(w4.setCell ⟨kb,1,none⟩ (.slice (some ⟨gg,0,none⟩) (s.c.length+1) cap2)).cell? ⟨w.heap.size+1,1,none⟩=some (.int .i64 0):=by simp[World.cell?,ht3]
      have t2:(w4.setCell ⟨kb,1,none⟩ (.slice (some ⟨gg,0,none⟩) (s.c.length+1) cap2)).cell? ⟨w.heap.size+1,2,none⟩=some (.int .i64 0):=by simp[World.cell?,ht3]
      have tz:∀ o,(w4.setCell ⟨kb,1,none⟩ (.slice (some ⟨gg,0,none⟩) (s.c.length+1) cap2)).frozen? ⟨w.heap.size+1,o,none⟩=false:=fun o=>by simp[World.frozen?,ht3]
      clear hgrow hown4 hat k1 y1 R4 O4 ht3;generalize w4.setCell ⟨kb,1,none⟩ (.slice (some ⟨gg,0,none⟩) (s.c.length+1) cap2)=w5 at *;go_wp2_with fail
      refine bodyPost_ret (results_cell_tmpA rfl _ _ (w.heap.size+1) (tcell ⟨fn,0,s.c.length⟩) rfl (loadTest (set3_row _ _ _ HT3.out) rfl)) rfl ?_;exact .inr ⟨_,_,_,_,by rw[HPT.out,HAX.out],rfl,HE.out.1,⟨rfl,rfl,rfl,rfl⟩,HE.out.2⟩
    ·have HAX:=hide (addx_old hfe)
     have hb1:((fdx s.c vl:Int)==(s.c.length:Int))=false:=by rw[beq_eq_false_iff_ne];omega
     have hb2:decide ((fdx s.c vl:Int)=(s.c.length:Int))=false:=decide_eq_false (by omega);generalize fdx s.c vl=fc at *;have ht3:=HKEEP.out wb _ _ (KF.refl _ _ _ _);have HT3:=hide ht3;have t0:wb.cell? ⟨w.heap.size+1,0,none⟩=some (.int .i64 0):=by simp[World.cell?,ht3]
     have t1:wb.cell? ⟨w.heap.size+1,1,none⟩=some (.int .i64 0):=by simp[World.cell?,ht3]
     have t2:wb.cell? ⟨w.heap.size+1,2,none⟩=some (.int .i64 0):=by simp[World.cell?,ht3]
     have tz:∀ o,wb.frozen? ⟨w.heap.size+1,o,none⟩=false:=fun o=>by simp[World.frozen?,ht3]
     clear ht3;go_wp2_with fail
     go_quiet ((go_at_call 71;exact Calls.quiet_of_same (N3.out _ (FB.out _))))
     go_wp2_with fail
     refine bodyPost_ret (results_cell_tmpA rfl _ _ (w.heap.size+1) (tcell ⟨fn,0,fc⟩) rfl (loadTest (set3_row _ _ _ (HT3.out:(wb.drewN nq).heap[w.heap.size+1]?=_)) rfl)) rfl ?_;have HE:=HEND.out (wb.drewN nq) _ _ _ (.int .i64 (fn:Nat)) (.int .i64 0) (.int .i64 (fc:Nat)) (KB.out.frm (FB.out nq)) (KF.of (FB.out nq));exact .inr ⟨_,_,_,_,by rw[HPT.out,HAX.out],rfl,HE.1,KV.refl _ _,HE.2⟩
def mF(re:List UInt8→Nat):List CM→Nat
 | []=>0
 | m::r=>if (m.2.1==2||m.2.1==3)&&!(re m.2.2==0) then re m.2.2 else mF re r
def xF(re:List UInt8→Nat):List CR→Nat→Nat × Nat
 | [],_=>(0,0)
 | c::r,i=>if !(mF re c.ifs==0) then (mF re c.ifs,i+2) else xF re r (i+1)
theorem ptest_x{re:List UInt8→Nat}{aut:List UInt8→AutM}{s:CS}(hx:∀ y∈s.x,re y=0)(m:CM) :
 (ptest re aut s m=none∧(m.2.1==2||m.2.1==3)=true∧re m.2.2≠0)∨(∃ t s1,ptest re aut s m=some (t,s1)∧(∀ y∈s1.x,re y=0)∧((m.2.1==2||m.2.1==3)&&!(re m.2.2==0))=false):=by
 unfold ptest
 by_cases hk:m.2.1=2∨m.2.1=3
 ·have hkb:(m.2.1==2||m.2.1==3)=true:=by simpa using hk
  rw[if_pos hk]
  by_cases hf:fdx s.x m.2.2<s.x.length
  ·rw[if_pos hf]
   refine .inr ⟨_,_,rfl,hx,?_⟩;have hz:re m.2.2=0:=by
    have he:(s.x[fdx s.x m.2.2]==m.2.2)=true:=List.findIdx_getElem (p:=(·==m.2.2)) (xs:=s.x) (w:=hf);have:=hx _ (List.getElem_mem hf);rw[eq_of_beq he]at this;exact this
   simp[hz]
  ·rw[if_neg hf]
   by_cases hz:re m.2.2=0
   ·rw[if_pos hz]
    refine .inr ⟨_,_,rfl,?_,by simp[hz]⟩;intro y hy;simp at hy;rcases hy with hy|rfl
    ·exact hx y hy
    ·exact hz
   ·rw[if_neg hz]
    exact .inl ⟨rfl,hkb,hz⟩
 ·rw[if_neg hk]
  refine .inr ⟨_,_,rfl,hx,?_⟩;have:(m.2.1==2||m.2.1==3)=false:=by simpa using hk
  simp[this]
theorem pmat_fault{re:List UInt8→Nat}{aut:List UInt8→AutM}:∀ (M:List CM) (s:CS) (acc:List (Nat × Bool)),(∀ y∈s.x,re y=0) →
 (∃ e,pmat re aut s acc M=.error e∧mF re M=e∧e≠0)∨(∃ l s1,pmat re aut s acc M=.ok (l,s1)∧mF re M=0∧∀ y∈s1.x,re y=0)
 | [],s,acc,hx=>.inr ⟨acc,s,rfl,rfl,hx⟩
 | m::r,s,acc,hx=>by
   rcases ptest_x (aut:=aut) hx m with ⟨h1,h2,h3⟩|⟨t,s1,h1,h2,h3⟩
   ·refine .inl ⟨re m.2.2,?_,?_,h3⟩
    ·rw[pmat,h1]
    ·rw[mF,h2];simp[h3]
   ·have e:pmat re aut s acc (m::r)=pmat re aut { s1 with t:=addt s1.t t } (acc++[(fdt s1.t t,cholds m)]) r:=by rw[pmat,h1]
    rw[e,mF,h3];exact pmat_fault r { s1 with t:=addt s1.t t } _ h2
theorem pread_fault{re:List UInt8→Nat}{aut:List UInt8→AutM}:∀ (C:List CR) (s:CS) (i:Nat),(∀ y∈s.x,re y=0) →
 (∃ e,pread re aut s i C=.error e∧xF re C i=e∧e.1≠0)∨(∃ s1,pread re aut s i C=.ok s1∧xF re C i=(0,0)∧∀ y∈s1.x,re y=0)
 | [],s,i,hx=>.inr ⟨s,rfl,rfl,hx⟩
 | c::r,s,i,hx=>by
   rcases pmat_fault (aut:=aut) c.ifs s [] hx with ⟨e,h1,h2,h3⟩|⟨l,s1,h1,h2,h3⟩
   ·refine .inl ⟨(e,i+2),?_,?_,h3⟩
    ·rw[pread,h1]
    ·rw[xF,h2];simp[h3]
   ·have e:pread re aut s i (c::r)=pread re aut { s1 with q:=s1.q++[l] } (i+1) r:=by rw[pread,h1]
    rw[e,xF,h2];exact pread_fault r { s1 with q:=s1.q++[l] } (i+1) h3
structure CSB(s:CS)(k:Nat):Prop where
 n:s.n.length≤k
 c:s.c.length≤k
 x:s.x.length≤k
 a:s.a.length≤k
 t:s.t.length≤k
theorem addx_len(L:List (List UInt8))(x:List UInt8):(addx L x).length≤L.length+1:=by unfold addx;split<;>simp
theorem addt_len(L:List TstM)(x:TstM):(addt L x).length≤L.length+1:=by unfold addt;split<;>simp
theorem ptest_cb{re:List UInt8→Nat}{aut:List UInt8→AutM}{s s1:CS}{t:TstM}{k:Nat}(h:CSB s k){m:CM}(he:ptest re aut s m=some (t,s1)):CSB { s1 with t:=addt s1.t t } (k+1)∧s1.t=s.t∧s1.q=s.q:=by
 have hn:=addx_len s.n m.1;have hc:=addx_len s.c m.2.2;obtain ⟨h1,h2,h3,h4,h5⟩:=h;unfold ptest at he
 split at he
 ·split at he
  ·cases he
   have ht:=addt_len s.t ⟨fdx s.n m.1,1,fdx s.x m.2.2⟩;exact ⟨⟨by simp only;omega,by simp only;omega,by simp only;omega,by simp only;omega,by simp only;omega⟩,rfl,rfl⟩
  ·split at he
   ·cases he
    have ht:=addt_len s.t ⟨fdx s.n m.1,1,fdx s.x m.2.2⟩;exact ⟨⟨by simp only;omega,by simp only;omega,by simp;omega,by simp;omega,by simp only;omega⟩,rfl,rfl⟩
   ·cases he
 ·cases he
  have ht:=addt_len s.t ⟨fdx s.n m.1,0,fdx s.c m.2.2⟩;exact ⟨⟨by simp only;omega,by simp only;omega,by simp only;omega,by simp only;omega,by simp only;omega⟩,rfl,rfl⟩
structure LY(w0:World)(kb:Nat)(w:World)(V:V6)(U:V4)(l:List InM):Prop where
 row:KR w kb V U
 fr:Frm [kb] w0 w
 lo:kb<w0.heap.size
 o:OW 102 4 w0.heap.size w U.l (icl l)
theorem LY.frm{w0:World}{kb:Nat}{w w':World}{V:V6}{U:V4}{l:List InM}(h:LY w0 kb w V U l)(f:Frm [] w w'):LY w0 kb w' V U l :=
 ⟨h.row.frm f (by simp),h.fr.over f (by simp),h.lo,h.o.frm f (by simp)⟩
structure LF(kb:Nat)(w:World)(a:Value)(w':World)(b:Value):Prop where
 f:Frm (kb::a.ownBlock.toList) w w'
 o:∀ g,b.ownBlock=some g→a.ownBlock=some g∨w.heap.size≤g
theorem LF.refl(kb:Nat)(w:World)(a:Value):LF kb w a w a:=⟨Frm.refl _ _,fun g h=>.inl h⟩
theorem LF.trans{kb:Nat}{w w1 w2:World}{a b c:Value}(h:LF kb w a w1 b)(k:LF kb w1 b w2 c):LF kb w a w2 c:=by
 refine ⟨h.f.over k.f ?_,fun g hg=>?_⟩
 ·intro x hx
  rcases List.mem_cons.1 hx with rfl|hx
  ·exact .inr (by simp)
  ·rcases h.o x (by simpa using hx) with h1|h1
   ·exact .inr (by simp[h1])
   ·exact .inl h1
 ·rcases k.o g hg with h1|h1
  ·exact h.o g h1
  ·exact .inr (Nat.le_trans h.f.size h1)
theorem LF.pre{kb:Nat}{w w1 w2:World}{a b:Value}(h:Frm [] w w1)(k:LF kb w1 a w2 b):LF kb w a w2 b:=by
 have h1:LF kb w a w1 a:=⟨(Frm.refl _ _).over h (by simp),fun g hg=>.inl hg⟩;exact h1.trans k
theorem LF.post{kb:Nat}{w w1 w2:World}{a b:Value}(h:LF kb w a w1 b)(k:Frm [] w1 w2):LF kb w a w2 b:=h.trans ⟨(Frm.refl _ _).over k (by simp),fun g hg=>.inl hg⟩
theorem OW.off{e:TypeId}{k base:Nat}{S:List Nat}{w w':World}{v:Value}{vs:List (List Value)}(h:OW e k base w v vs)(f:Frm S w w')(hS:∀ g,v.ownBlock=some g→g∉S):OW e k base w' v vs:=by
 refine ⟨⟨h.1.1,?_⟩,h.2⟩;rcases h.1.2 with hn|⟨g,cap,cur,rfl,hbg,hgg,rest⟩
 ·exact .inl hn
 ·refine .inr ⟨g,cap,cur,rfl,hbg,?_,rest⟩
  rw[f.block g (Array.getElem?_eq_some_iff.1 hgg).1 (hS g rfl)];exact hgg
abbrev V4.lay(U:V4)(v:Value):V4:=⟨U.rt,U.x,U.q,v⟩
theorem lay_any(w0:World)(kb:Nat)(w:World)(V:V6)(U:V4)(l:List InM)(h:LY w0 kb w V U l)(x:InM)(hl:l.length≤1000000000) :
 Calls Tryz.prog 50 #[.pointer (some ⟨kb,0,none⟩), .agg (icell x)] w fun e w'=>e=.returned (.int .i64 (l.length:Nat))∧∃ v,LY w0 kb w' V (U.lay v) (l++[x])∧LF kb w U.l w' v:=by
 obtain ⟨rt,xx,q,vl⟩:=U;obtain ⟨ao,co,he⟩:=h.o.shape;rw[icl_len]at he;subst he;have O:=hide h.o;have HR:=hide h.row;have HF:=hide h.fr;have hlo:=h.lo;have hkw:=h.row.lt;have hzz:=h.fr.size;have HNB:Hid (∀ r,Value.ownBlock (.slice ao l.length co)=some r→r≠kb):=fun r hr=>by have:=(O.out.lt hr).1;omega
 have c9:=h.row.c 9;have z9:=h.row.fz 9;simp at c9;have HTC:Hid ((icl l).length=l.length):=icl_len l;obtain ⟨op,xn,a,b⟩:=x;clear h;simp only[icell];go_enter Tryz.func50,Tryz.ntmps50
 go_wp2_with fail
 go_region_law ((refine step_appG _ (by rfl) _ _ 56 102 _ 4 32 infoIns Tryz.underlying56 (by rfl) (by omega) (by rfl) w0.heap.size (.slice ao l.length co) (icl l) (w.heap.size+1) (icell ⟨op,xn,a,b⟩) (0,0) (by rfl) (O.out.frm (S:=[]) ((((Frm.refl [] _).alloc _).alloc _).drew) (by simp)) (by rfl) (by rfl) (by exact heap_b _ _ _) (icell_one _) (by rw[HTC.out];omega) (by rw[HTC.out];omega) (by simp;omega) (w.heap.size+2) (by simp) ?_;intro gg cap2 w4 hown4 hgrow hat hlt4;rw[HTC.out]at hown4 ⊢;have R4:=hide ((HR.out.frm (S:=[]) ((((Frm.refl [] _).alloc _).alloc _).drew) (by simp)).grown hgrow HNB.out);have k9:=R4.out.c 9;have y9:=R4.out.fz 9;simp at k9))
 all_goals
  have R5:=hide (R4.out.set (U':=⟨rt,xx,q, .slice (some ⟨gg,0,none⟩) (l.length+1) cap2⟩) (V':=V) 9 (.slice (some ⟨gg,0,none⟩) (l.length+1) cap2) rfl);have m9:=R5.out.c 9;simp at m9;rw[icl_snoc]at hown4;have O5:Hid (OW 102 4 w0.heap.size (w4.setCell ⟨kb,9,none⟩ (.slice (some ⟨gg,0,none⟩) (l.length+1) cap2)) (.slice (some ⟨gg,0,none⟩) (l.length+1) cap2) (icl (l++[⟨op,xn,a,b⟩]))):=hown4.frm (S:=[kb]) ((Frm.refl [kb] _).setCell (p:=⟨kb,9,none⟩) (.inl (by simp)) _) (by simp;omega);have F5:Hid (Frm [kb] w0 (w4.setCell ⟨kb,9,none⟩ (.slice (some ⟨gg,0,none⟩) (l.length+1) cap2))):=((((HF.out.alloc _).alloc _).drew).grown hgrow (fun r hr=>.inr (O.out.lt hr).1)).setCell (p:=⟨kb,9,none⟩) (.inl (by simp)) _;have LF5:Hid (LF kb w (.slice ao l.length co) (w4.setCell ⟨kb,9,none⟩ (.slice (some ⟨gg,0,none⟩) (l.length+1) cap2)) (.slice (some ⟨gg,0,none⟩) (l.length+1) cap2)):=by
   refine ⟨(((((Frm.refl _ w).alloc _).alloc _).drew).grown hgrow (fun r hr=>.inl (by simp[hr]))).setCell (p:=⟨kb,9,none⟩) (.inl (by simp)) _,fun g hg=>?_⟩;cases hg
   rcases hat with h1|h1
   ·exact .inl h1
   ·exact .inr (by show w.heap.size≤gg;omega)
  clear hgrow hown4 hat k9 y9 c9 z9;go_wp2;go_ret;exact ⟨congrArg Ending.returned (by go_num),_,⟨R5.out,F5.out,hlo,O5.out⟩,LF5.out⟩
end Go.Proofs.YtpcbbbilmpobaaaGreatDoor
