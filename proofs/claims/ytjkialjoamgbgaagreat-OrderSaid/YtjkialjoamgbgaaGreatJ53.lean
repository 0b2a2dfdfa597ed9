import Derived.Test.YtjkialjoamgbgaaGreatJ52
import Derived.Test.YtjkialjoamgbgaaGreatJ51
import Derived.Test.YtjkialjoamgbgaaGreatRows
import Derived.ProofKit
import Derived.OpenShut
import Derived.DataShut
import Derived.SizedLaws
import Derived.Carry
import Derived.Deep.SlicePairs
set_option linter.unusedVariables false
set_option linter.unusedSimpArgs false
set_option linter.unnecessarySimpa false
set_option maxRecDepth 100000
set_option maxHeartbeats 8000000
namespace Go.Proofs.YtjkialjoamgbgaaGreat
open Go.RowKit
structure DK(w0:World)(w:World)(db:Nat)(t:List UInt8)(a:Option Addr)(cap:Nat)(L:List LBL)(Ln:List (List UInt8))(C:List CR)(s:CS)(V:V6)(pb:Nat):Prop where
 row:w.heap[db]?=some (.cells #[.string (bs t), .pointer (some ⟨pb,0,none⟩), .slice a L.length cap] 34 (0,0))
 new:w0.heap.size≤db
 tl:t.length≤16384
 ll:L.length≤16384
 ls:∀ x∈L,x.1.length≤16384∧x.2.length≤16384
 res:cRes reC t=(0,0)
 rd:cRead t=.ok (Ln,C)
 pr:pread reC autC cs0 0 C=.ok s
 pg:PR [] w pb V (compM C s)
 ok:MOK (compM C s)
 lr:LQ w a L
 cap:L.length≤cap
theorem DK.frm{w0 w w':World}{db:Nat}{t:List UInt8}{a:Option Addr}{cap:Nat}{L:List LBL}{Ln:List (List UInt8)}{C:List CR}{s:CS}{V:V6}{pb:Nat}(h:DK w0 w db t a cap L Ln C s V pb)(f:Frm [] w w'):DK w0 w' db t a cap L Ln C s V pb :=
 ⟨(f.block db (Array.getElem?_eq_some_iff.1 h.row).1 (by simp)).trans h.row,h.new,h.tl,h.ll,h.ls,h.res,h.rd,h.pr,h.pg.frm f (by simp),h.ok,h.lr.frm f,h.cap⟩
def ATQ(t:List UInt8)(a:Option Addr)(cap:Nat)(L:List LBL)(w:World)(e:Ending)(w':World):Prop :=
 Frm [] w w'∧(e=.returned (.pointer none)∨∃ db Ln C s V pb,e=.returned (.pointer (some ⟨db,0,none⟩))∧DK w w' db t a cap L Ln C s V pb)
theorem kat_any(w:World)(a:Option Addr)(cap:Nat)(L:List LBL)(h:LQ w a L)(hN:L.length≤4398046511104)(hs:∀ x∈L,x.1.length≤140737488355328∧x.2.length≤140737488355328)(hcap:L.length≤cap)(r:List UInt8)(hr:r.length≤140737488355328) :
 Calls Tryz.prog 4 #[.string (bs r), .slice a L.length cap] w (ATQ r a cap L w):=by
 have H:=hide h
 have HS:=hide hs
 have hl:=bs_toList
 have hz:=bs_size
 have HCM:Hid (r.length≤1048576→∀ q,Calls Tryz.prog 7 #[.string (bs r)] (w.drewN q) (CMQ r (w.drewN q))):=fun h q=>compile_any r (w.drewN q) h
 clear h hs
 go_enter Tryz.func4,Tryz.ntmps4
 go_wp2_with fail
 go_loopg [5,6] L.length (fun k v3 v4 wr=>∃ j n q:Nat,j+k=L.length∧v4=.int .i64 j∧v3=.int .i64 n∧n≤562949953421312∧wr=w.drewN q∧Hid (szL n (L.drop j)=szL (r.length+L.length) L))
 case atStart=>exact ⟨0,r.length+L.length,0,by omega,rfl,by go_num,by omega,rfl,by show _=_;simp⟩
 case round =>
  obtain ⟨j,n,q,hjk,rfl,rfl,hn,hw,HF⟩:=hrel
  subst hw
  by_cases hlt:j<L.length
  ·have hd1:decide ((j:Int)<(L.length:Int))=true:=decide_eq_true (by omega)
   by_cases hn2:n≤16384
   ·have hd2:decide ((n:Int)≤16384)=true:=decide_eq_true (by omega)
    have hd2':decide (n≤16384)=true:=decide_eq_true hn2
    obtain ⟨g,off,rfl,hg,hc1,hc2⟩:=H.out j hlt
    have hx:=HS.out L[j] (List.getElem_mem hlt)
    have HF2:Hid (szL (n+L[j].1.length+L[j].2.length) (L.drop (j+1))=szL (r.length+L.length) L):=by
     show _=_
     rw[← HF.out,List.drop_eq_getElem_cons hlt,szL,if_pos hn2]
    clear HF
    generalize L[j]=x at *
    obtain ⟨nm,vl⟩:=x
    simp only at hc1 hc2 hx HF2
    have hz1:=bs_size nm
    have hz2:=bs_size vl
    go_wp2_with fail
    go_quiet (fail)
    go_wp2
    go_roundg (gk-1)
    case measure=>omega
    case rel=>exact ⟨j+1,n+nm.length+vl.length,_,by omega,by go_num,by go_num,by omega,rfl,HF2⟩
   ·have hd2:decide ((n:Int)≤16384)=false:=decide_eq_false (by omega)
    have hd2':decide (n≤16384)=false:=decide_eq_false hn2
    have hd3:decide ((16384:Int)<(n:Int))=true:=decide_eq_true (by omega)
    have hd3':decide (16384<n)=true:=decide_eq_true (by omega)
    clear HF HCM
    go_wp2
    go_ret
    exact ⟨(Frm.refl [] w).drewN q, .inl rfl⟩
  ·have hd1:decide ((j:Int)<(L.length:Int))=false:=decide_eq_false (by omega)
   have HV:Hid (szL (r.length+L.length) L=n):=by
    show _=_
    rw[← HF.out,List.drop_eq_nil_of_le (by omega)];rfl
   clear HF
   by_cases hn2:n≤16384
   ·have hd3:decide ((16384:Int)<(n:Int))=false:=decide_eq_false (by omega)
    have hd3':decide (16384<n)=false:=decide_eq_false (by omega)
    have h1:=szL_le L (r.length+L.length)
    rw[HV.out]at h1
    have HLS:=hide (szL_all L (r.length+L.length) (by rw[HV.out];exact hn2))
    have N1:=hide (HCM.out (by omega) q)
    clear HCM HV
    go_wp2_with fail
    refine (N1.out).mono ?_
    clear N1
    rintro e w' ⟨hF,⟨h1,rfl⟩|⟨Ln,C,s,V,pb,q1,q2,q3,rfl,q4,q5,q6⟩⟩
    ·have F:=hide (((Frm.refl [] w).drewN q).trans hF)
     have hne:(((cRes reC r).1:Int) != 0)=true:=by rw[bne_iff_ne];omega
     generalize (cRes reC r).1=n1 at *
     generalize (cRes reC r).2=n2 at *
     clear hF h1
     go_wp2
     go_ret
     exact ⟨F.out, .inl rfl⟩
    ·have F:=hide (((Frm.refl [] w).drewN q).trans hF)
     have Q1:=hide q1
     have Q2:=hide q2
     have Q3:=hide q3
     have Q4:=hide q4
     have Q5:=hide q5
     clear hF q1 q2 q3 q4 q5
     go_wp2
     go_ret
     have FA:Frm [] w' (w'.alloc (Obj.cells #[.string (bs r), .pointer (some ⟨pb,0,none⟩), .slice a L.length cap] 34)):=(Frm.refl [] w').alloc _
     exact ⟨F.out.trans FA, .inr ⟨w'.heap.size,Ln,C,s,V,pb,rfl,heap1 _ _,F.out.size,by omega,by omega,HLS.out,Q1.out,Q2.out,Q3.out,Q4.out.frm FA (by simp),Q5.out,H.out.frm (F.out.trans FA),hcap⟩⟩
   ·have hd3:decide ((16384:Int)<(n:Int))=true:=decide_eq_true (by omega)
    have hd3':decide (16384<n)=true:=decide_eq_true (by omega)
    clear HCM
    go_wp2
    go_ret
    exact ⟨(Frm.refl [] w).drewN q, .inl rfl⟩
open Go.RowKit
def lbc(x:LBL):List Value:=[.string (bs x.1), .string (bs x.2)]
def lbcs(L:List LBL):List (List Value):=L.map lbc
theorem lbcs_len(L:List LBL):(lbcs L).length=L.length:=by simp[lbcs]
theorem lbcs_snoc(L:List LBL)(x:LBL):lbcs L++[[.string (bs x.1), .string (bs x.2)]]=lbcs (L++[x]):=by simp[lbcs,lbc]
theorem infoLbl:(Tryz.prog.info? 28).map (fun i=>(i.zero,i.size,i.bytes))=some (some (.agg #[.string ByteArray.empty, .string ByteArray.empty]),2,32):=by kernel_rfl
theorem lcell_at(w:World)(x y:List UInt8)(j:Nat)(u:Value)(hu:[Value.string (bs x),Value.string (bs y)][j]?=some u):(w.alloc (Obj.cells #[.string (bs x), .string (bs y)] 28)).cell? ⟨w.heap.size,j,none⟩=some u:=by
 have h1:=heap1 w (Obj.cells #[.string (bs x), .string (bs y)] 28)
 simp only[World.cell?,h1]
 simpa using hu
theorem lr_of{A:List Nat}{w:World}{v:Value}{L:List LBL}(h:RW A 2 w v (lbcs L))(hl:L.length≤1048576):LR w v L∧∃ a cap,v=.slice a L.length cap∧L.length≤cap:=by
 obtain ⟨a,cap,rfl,h1,h2⟩:=h
 rw[lbcs_len]at h1
 refine ⟨⟨a,cap,by rw[lbcs_len],hl,fun j hj=>?_⟩,a,cap,by rw[lbcs_len],h1⟩
 obtain ⟨g,off,rfl,-,h4,h5⟩:=h2 j (by rw[lbcs_len];exact hj)
 have e:(lbcs L)[j]'(by rw[lbcs_len];exact hj)=lbc L[j]:=by simp[lbcs]
 rw[e]at h5
 exact ⟨g,off,rfl,h4,h5 0 _ rfl,h5 1 _ rfl⟩
theorem labs_lv{A:List LBL}(h:labsOK A=true):LV A:=by
 intro x hx
 obtain ⟨h1,h2⟩:=((labsOK_iff A).1 h).2.1 x hx
 have:=isNameL_len h1
 exact ⟨by omega,by omega⟩
def NoZ(L:List LBL)(j:Nat):Prop:=∀ i (hi:i<L.length),i<j→L[i].1≠zzN
theorem hits_later{B:List Nat}{base:Nat}{w:World}{v:Value}{css:List (Array Value)}{hs:List HitM}(hO:OW 70 5 base w v (lst css))(hI:RowI hitT B w css hs)(hB:∀ g∈B,g<base):∀ W,Frm B w W→HRS W v hs :=
 fun _ f=>hrs_of (hO.frm f hB) ((hI.frm f (fun _ h=>h)).avoid (by simp))
theorem kordered_any{w0 w:World}{db:Nat}{t:List UInt8}{a:Option Addr}{cap:Nat}{L:List LBL}{Ln:List (List UInt8)}{C:List CR}{s:CS}{V:V6}{pb:Nat}(h:DK w0 w db t a cap L Ln C s V pb)(z:Int)(hz0:-9223372036854775808≤z)(hz1:z≤9223372036854775807) :
 Calls Tryz.prog 6 #[.pointer (some ⟨db,0,none⟩), .int .i64 z] w fun e w'=>e=.returned (.bool true)∧Frm [] w w':=by
 have r0:w.cell? ⟨db,0,none⟩=some (.string (bs t)):=by simp[World.cell?,h.row]
 have r1:w.cell? ⟨db,1,none⟩=some (.pointer (some ⟨pb,0,none⟩)):=by simp[World.cell?,h.row]
 have r2:w.cell? ⟨db,2,none⟩=some (.slice a L.length cap):=by simp[World.cell?,h.row]
 have hdb:db<w.heap.size:=(Array.getElem?_eq_some_iff.1 h.row).1
 have htl:=h.tl
 have R0:=hide r0
 have R1:=hide r1
 have R2:=hide r2
 have LVL:Hid (LV L):=fun x hx=>by have:=h.ls x hx;exact ⟨by omega,by omega⟩
 have LRW:Hid (∀ W,Frm [] w W→LR W (.slice a L.length cap) L):=fun W f=>(h.lr.frm f).lr cap (by have:=h.ll;omega)
 have LQW:Hid (∀ W,Frm [] w W→LQ W a L):=fun W f=>h.lr.frm f
 have hcap:=h.cap
 have NG:Hid (∀ W,Frm [] w W→Calls Tryz.prog 10 #[.pointer (some ⟨pb,0,none⟩), .slice a L.length cap] W fun e w'=>e=.returned (.bool (labsOK L))∧Frm [] W w'):=fun W f=>kgood_any W pb V _ (h.pg.frm f (by simp)) h.ok a L.length cap L (LRW.out W f) LVL.out hcap
 have FN:Hid (Frm [] w w.drew):=(Frm.refl [] w).drew
 have HLL:=h.ll
 cases hlb:labsOK L
 ·rw[hlb]at NG
  clear h
  go_enter Tryz.func6,Tryz.ntmps6
  go_wp2_with fail
  go_region_with (go_at_call 10;refine (NG.out _ FN.out).mono ?_;rintro e w1 ⟨rfl,hF1⟩)
  all_goals
   have F1:=hide (FN.out.trans hF1)
   have q2:=F1.out.at (p:=⟨db,2,none⟩) hdb R2.out
   clear hF1
   go_wp2
   go_ret
   exact ⟨rfl,F1.out⟩
 ·rw[hlb]at NG
  have HLB:=hide hlb
  have NBB:Hid (∀ W,Frm [] w W→Calls Tryz.prog 11 #[.pointer (some ⟨pb,0,none⟩)] W (BBQ (compM C s) W)):=fun W f=>byBytes_any pb V _ W (h.pg.frm f (by simp)) h.ok (comp_ris h.rd) (compM_le (by omega) h.rd h.pr)
  have HG:=hide (hitsC_good (by omega) h.rd (lblV L))
  have HAC:Hid (∀ A:List LBL,hitsA (compM C s) A=hitsC C (lblV A)):=fun A=>hitsA_comp (by omega) h.rd h.pr A
  have HPG:Hid (∀ W,Frm [] w W→PR [] W pb V (compM C s)):=fun W f=>h.pg.frm f (by simp)
  have HOK:=hide h.ok
  have HTN:=hide (text_names (cRead_tree h.rd).1)
  have c3:=(cRead_tree h.rd).2.2.1
  have NHS:Hid (∀ W:World,Calls Tryz.prog 15 #[.string (bs t), .string (bs zzN)] W fun e w'=>W=w'∧∃ b:Bool,e=.returned (.bool b)∧(b=false→¬ zzN <:+: t)):=fun W=>khas_any t zzN W (by omega) (by simp[zzN])
  have NR:Hid (∀ (A:List LBL) (W:World) (a':Option Addr) (k cap':Nat),Frm [] w W→LR W (.slice a' k cap') A→LV A→A.length≤cap'→labsOK A=true→hitsC C (lblV A)=hitsC C (lblV L)→Calls Tryz.prog 13 #[.pointer (some ⟨pb,0,none⟩), .slice a' k cap'] W fun e w'=>∃ vh,Frm [] W w'∧e=.returned (.tuple #[vh, .int .i64 0])∧HRS w' vh (hitsC C (lblV L))):=by
   intro A W a' k cap' hW hA hv hc hl he
   refine (route_any W pb V _ (HPG.out W hW) HOK.out a' k cap' A hA hv hc).mono ?_
   rintro e w1 ⟨hF1,⟨h1,_⟩|⟨_,vh,rfl,hH⟩⟩
   ·rw[hl]at h1;cases h1
   ·exact ⟨vh,hF1,rfl,by rw[← he,← HAC.out A];exact hH⟩
  have NR1:Hid (∀ (A:List Nat) (W:World),(∀ g∈A,g<W.heap.size)→Frm [] w W→Calls Tryz.prog 13 #[.pointer (some ⟨pb,0,none⟩), .slice a L.length cap] W fun e w'=>∃ vh css,Frm [] W w'∧e=.returned (.tuple #[vh, .int .i64 0])∧OW 70 5 W.heap.size w' vh (lst css)∧RowI hitT A w' css (hitsC C (lblV L))):=by
   intro A W hA hW
   refine (aRouteA_any A W hA pb V _ (HPG.out W hW) HOK.out a L.length cap L (LRW.out W hW) LVL.out hcap).mono ?_
   rintro e w1 ⟨vh,css,hF1,⟨h1,_⟩|⟨_,rfl,hO,hI⟩⟩
   ·rw[hlb]at h1;cases h1
   ·exact ⟨vh,css,hF1,rfl,hO,by rw[← HAC.out L];exact hI⟩
  have HSH:Hid (∀ (W:World) (v1 v2:Value),HRS W v1 (hitsC C (lblV L))→HRS W v2 (hitsC C (lblV L))→Calls Tryz.prog 14 #[v1,v2] W fun e w'=>e=.returned (.bool true)∧∃ q,w'=W.drewN q):=by
   intro W v1 v2 h1 h2
   obtain ⟨g1,g2,g3⟩:=HG.out
   exact ksameHits_eq W v1 v2 _ h1 h2 (by omega) (fun x hx=>by have:=(g3 x hx).2.b1;omega)
  have k1:({ data:=#[122,122,122,122,122,122,122,122] }:ByteArray)=bs zzN:=rfl
  have k2:({ data:=#[113] }:ByteArray)=bs [113]:=rfl
  clear h
  go_enter Tryz.func6,Tryz.ntmps6
  go_upto_region 1 with fail
  go_cut [5] (fun v5 wc=>True∧v5=.bool true∧Frm [] w wc)
  case first =>
   go_region_with (go_at_call 10;refine (NG.out _ FN.out).mono ?_;rintro e w1 ⟨rfl,hF1⟩)
   all_goals
    have F1:=hide (FN.out.trans hF1)
    clear hF1
    go_wp2
    go_meet
    exact ⟨trivial,rfl,F1.out⟩
  case rest =>
   obtain ⟨_,rfl,hF1⟩:=hcut
   obtain ⟨w1,hw1⟩:∃ w1,w1=wc:=⟨_,rfl⟩
   subst hw1
   have F1:=hide hF1
   have q21:=F1.out.at (p:=⟨db,2,none⟩) hdb R2.out
   clear hF1 r0 r1 r2
   have hl12:=((labsOK_iff L).1 HLB.out).1
   by_cases h12:L.length=12
   ·have hd:((L.length:Int)==12)=true:=by rw[beq_iff_eq];omega
    have hd':(L.length==12)=true:=by rw[beq_iff_eq];omega
    clear h12 hl12
    go_wp2
    go_ret
    exact ⟨rfl,F1.out⟩
   ·have hd:((L.length:Int)==12)=false:=by rw[beq_eq_false_iff_ne];omega
    have hd':(L.length==12)=false:=by rw[beq_eq_false_iff_ne];omega
    obtain ⟨p,hp⟩:∃ p,p=pickN z L.length:=⟨_,rfl⟩
    have NP:Hid (∀ W:World,0<L.length→Calls Tryz.prog 9 #[.int .i64 z, .int .i64 L.length] W fun e w'=>e=.returned (.int .i64 (p:Nat))∧W=w'):=fun W hn=>by rw[hp];exact kpick_any z L.length hn (by omega) W hz0 hz1
    have HPL:Hid (0<L.length→p<L.length):=fun hn=>by rw[hp];exact pickN_lt z _ hn
    clear hp
    go_wp2_with fail
    go_loopg [7,8] L.length (fun k v7 v8 wr=>∃ (j:Nat),j+k=L.length∧v8=.int .i64 j∧OW 28 2 w1.heap.size wr v7 (lbcs (rotL L p j))∧Frm [] w1 wr)
    case atStart=>exact ⟨0,by omega,rfl,OW.nil _ _ _ _,Frm.refl [] _⟩
    case round =>
     obtain ⟨j,hjk,rfl,hO,hFr⟩:=hrel
     obtain ⟨a7,c7,he⟩:=hO.shape
     rw[lbcs_len,rotL_len]at he
     subst he
     have O:=hide hO
     have FR:=hide (F1.out.trans hFr)
     have FR1:=hide hFr
     clear hO hFr q21
     by_cases hlt:j<L.length
     ·have hd1:decide ((j:Int)<(L.length:Int))=true:=decide_eq_true (by omega)
      have N1:=hide (NP.out wr (by omega))
      have hpl:=HPL.out (by omega)
      obtain ⟨kk,hkk⟩:∃ kk,kk=(j+p) % L.length:=⟨_,rfl⟩
      have hkl:kk<L.length:=by rw[hkk];exact Nat.mod_lt _ (by omega)
      have hrem:Int.tmod ((j:Int)+(p:Int)) (L.length:Int)=(kk:Int):=by rw[Int.tmod_eq_emod_of_nonneg (by omega),hkk,Int.natCast_emod,Int.natCast_add]
      have hrem':((j:Int)+(p:Int)) % (L.length:Int)=(kk:Int):=by rw[hkk,Int.natCast_emod,Int.natCast_add]
      have hne:((L.length:Int)==0)=false:=by rw[beq_eq_false_iff_ne];omega
      have hne1:(L.length:Int)≠0:=by omega
      have q2:=FR.out.at (p:=⟨db,2,none⟩) hdb R2.out
      obtain ⟨ix,hix⟩:∃ ix,ix=L.length-1-kk:=⟨_,rfl⟩
      have hil:ix<L.length:=by omega
      have hixI:(L.length:Int)-1-(kk:Int)=(ix:Int):=by omega
      obtain ⟨g,off,rfl,hg,l0,l1⟩:=LQW.out wr FR.out ix hil
      have HS:Hid (lbcs (rotL L p j)++[[.string (bs L[ix].1), .string (bs L[ix].2)]]=lbcs (rotL L p (j+1))):=by
       show _=_
       rw[rotL,← hkk,← hix,List.getD_eq_getElem?_getD,List.getElem?_eq_getElem hil,Option.getD_some,lbcs_snoc]
      generalize L[ix]=x at *
      obtain ⟨xn,xv⟩:=x
      simp only at l0 l1 HS
      have HTC:Hid ((lbcs (rotL L p j)).length=j):=by show _=_;rw[lbcs_len,rotL_len]
      have hzw:=FR1.out.size
      clear hkk hix
      go_wp2_with fail
      refine (N1.out).mono ?_
      clear N1
      rintro e w2 ⟨rfl,hw2⟩
      subst hw2
      go_wp2_with (at_builtin;refine wp_appG _ rfl _ _ 22 28 _ 2 32 infoLbl Tryz.underlying22 rfl (by omega) rfl w1.heap.size (.slice a7 j c7) (lbcs (rotL L p j)) wr.heap.size [.string (bs xn), .string (bs xv)] rfl (O.out.frm (S:=[]) ((Frm.refl [] _).alloc _) (by simp)) rfl rfl (lcell_at _ _ _) (by intro u hu;simp at hu;rcases hu with rfl|rfl<;>rfl) (by rw[HTC.out];omega) (by rw[HTC.out];omega) (by simp;omega) ?_;intro gg cap2 w4 hown4 hgrow hat hlt4;rw[HTC.out]at hown4 ⊢;have O4:=hide hown4;have F4:Hid (Frm [] w1 w4):=(FR1.out.alloc _).grown hgrow (fun r hr=>.inr (O.out.lt hr).1);clear hown4 hgrow hat)
      go_roundg (gk-1)
      case measure=>omega
      case rel=>exact ⟨j+1,by omega,by go_num,by rw[← HS.out];exact O4.out,F4.out⟩
     ·have hjn:j=L.length:=by omega
      subst hjn
      have hd1:decide ((L.length:Int)<(L.length:Int))=false:=decide_eq_false (by omega)
      obtain ⟨hro1,hro2⟩:=rot_ok HLB.out p
      obtain ⟨hlr,a7',c7',he7,hc7⟩:=lr_of (O.out.rw (A:=[]) (by simp)) (by rw[rotL_len];omega)
      have hrl:=rotL_len L p L.length
      have HRM:Hid (∀ x,x∈rotL L p L.length↔x∈L):=fun x=>rotL_mem x
      obtain ⟨R,hR⟩:∃ R,R=rotL L p L.length:=⟨_,rfl⟩
      rw[← hR]at hro1 hro2 hlr he7 hc7 hrl HRM O
      have LVR:Hid (LV R):=labs_lv hro1
      have HRO:=hide hro1
      have HRV:=hide hro2
      have HRL:=hide hrl
      have hc7n:R.length≤c7:=by rw[(Value.slice.inj he7).2.2];exact hc7
      have LRR:=hide hlr
      clear hR hro1 hro2 hrl he7 hc7 hlr HPL NP
      have N1:=hide (NBB.out wr FR.out)
      have q1:=FR.out.at (p:=⟨db,1,none⟩) hdb R1.out
      go_wp2_with fail
      refine (N1.out).mono ?_
      clear N1 NBB q1
      rintro e w3 ⟨hF3,V3,pb3,rfl,hP3⟩
      have F3:=hide (FR.out.trans hF3)
      have F13:=hide (FR1.out.trans hF3)
      have LR3:=hide (LRR.out.frm hF3 (by simp))
      have O3:=hide (O.out.frm hF3 (by simp))
      have N2:=hide (ksame_eq w3 pb pb3 V V3 _ _ (HPG.out w3 F3.out) hP3 HOK.out HOK.out a7 L.length c7 R LR3.out LVR.out hc7n rfl (by rw[HAC.out,HRV.out];have:=HG.out.2.1;omega) (fun x hx=>by rw[HAC.out,HRV.out]at hx;have:=(HG.out.2.2 x hx).2.b1;omega))
      have q1:=F3.out.at (p:=⟨db,1,none⟩) hdb R1.out
      clear hF3 hP3 O LRR FR FR1
      go_wp2_with fail
      refine (N2.out).mono ?_
      clear N2 q1
      rintro e w4 ⟨rfl,hF4⟩
      have F4:=hide (F3.out.trans hF4)
      have F14:=hide (F13.out.trans hF4)
      have LR4:=hide (LR3.out.frm hF4 (by simp))
      have O4:=hide (O3.out.frm hF4 (by simp))
      have FN4:Hid (Frm [] w4 w4.drew):=(Frm.refl [] w4).drew
      have q1:=F4.out.at (p:=⟨db,1,none⟩) hdb R1.out
      have q2:=F4.out.at (p:=⟨db,2,none⟩) hdb R2.out
      clear hF4 O3 LR3 F3 F13
      go_upto_region 15 with fail
      have HOB:Hid (∀ g∈(Value.ownBlock (.slice a7 L.length c7)).toList,g<w4.heap.size):=fun g hg=>(O4.out.lt (by simpa using hg)).2
      go_cut [12,13] (fun v12 v13 wc=>True∧v13=.int .i64 0∧Frm [] w4 wc∧∃ css,OW 70 5 w4.heap.size wc v12 (lst css)∧RowI hitT (Value.ownBlock (.slice a7 L.length c7)).toList wc css (hitsC C (lblV L)))
      case first =>
       go_region_with (go_at_call 13;refine (NR1.out (Value.ownBlock (.slice a7 L.length c7)).toList w4.drew HOB.out (F4.out.trans FN4.out)).mono ?_;rintro e w5 ⟨vh,css,hF5,rfl,hO5,hI5⟩)
       all_goals
        have F45:=hide (FN4.out.trans hF5)
        have O5:=hide hO5
        have I5:=hide hI5
        obtain ⟨a5,c5,rfl⟩:=hO5.shape
        clear hF5 hO5 hI5
        go_wp2
        go_meet
        exact ⟨trivial,rfl,F45.out,css,O5.out,I5.out⟩
      case rest =>
       obtain ⟨_,rfl,hF45,css,hO5,hI5⟩:=hcut
       obtain ⟨w5,hw5⟩:∃ w5,w5=wc:=⟨_,rfl⟩
       subst hw5
       have F5:=hide (F4.out.trans hF45)
       have F15:=hide (F14.out.trans hF45)
       have LR5:=hide (LR4.out.frm hF45 (by simp))
       have O5:=hide (O4.out.frm hF45 (by simp))
       have HLT:=hide (hits_later hO5 hI5 HOB.out)
       have H5:=hide (HLT.out w5 (Frm.refl _ _))
       obtain ⟨a5,c5,rfl,hc5,-⟩:=H5.out
       clear hO5 hI5
       have q15:=F5.out.at (p:=⟨db,1,none⟩) hdb R1.out
       have N6:=hide (NR.out R w5 a7 L.length c7 F5.out LR5.out LVR.out hc7n HRO.out (by rw[HRV.out]))
       clear q1 q2 hF45 O4 LR4 F4 F14 FN4
       go_wp2_with fail
       refine (N6.out).mono ?_
       clear N6 q15
       rintro e w6 ⟨vh6,hF6,rfl,hH6⟩
       have F6:=hide (F5.out.trans hF6)
       have F16:=hide (F15.out.trans hF6)
       have O6:=hide (O5.out.frm hF6 (by simp))
       have F56:=hide hF6
       have H56:=hide (HLT.out w6 F56.out.nil)
       have N7:=hide (HSH.out w6 _ _ H56.out hH6)
       obtain ⟨a6,c6,rfl,hc6,-⟩:=hH6
       clear hF6 O5 LR5 F5 F15 H5
       go_wp2_with fail
       refine (N7.out).mono ?_
       clear N7
       rintro e w7 ⟨rfl,q7,hw7⟩
       have F67:Hid (Frm [] w6 w7):=by rw[hw7];exact (Frm.refl [] w6).drewN q7
       have F7:=hide (F6.out.trans F67.out)
       have F17:=hide (F16.out.trans F67.out)
       have O7:=hide (O6.out.frm F67.out (by simp))
       have F57:=hide (F56.out.trans F67.out)
       have q0:=F7.out.at (p:=⟨db,0,none⟩) hdb R0.out
       have N8:=hide (NHS.out w7)
       clear hw7 F67 O6 H56 F6 F16
       go_wp2_with fail
       refine (N8.out).mono ?_
       clear N8 q0 NHS
       rintro e w8 ⟨hw8,b,rfl,hb⟩
       subst hw8
       cases b
       ·have HNZ:=hide (hb rfl)
        clear hb
        have hl:=bs_toList
        have HW7:=hide hc5
        go_wp2_with fail
        go_loopg [18] L.length (fun k v18 wr=>∃ j:Nat,j+k=L.length∧v18=.int .i64 j∧wr=w7∧NoZ L j)
        case atStart=>exact ⟨0,by omega,rfl,rfl,fun i hi h=>by omega⟩
        case round =>
         obtain ⟨j,hjk,rfl,hw,hNZ⟩:=hrel
         subst hw
         have HZ:=hide hNZ
         clear hNZ
         by_cases hlt:j<L.length
         ·have hd1:decide ((j:Int)<(L.length:Int))=true:=decide_eq_true (by omega)
          have q2:=F7.out.at (p:=⟨db,2,none⟩) hdb R2.out
          obtain ⟨g,off,rfl,hg,l0,l1⟩:=LQW.out _ F7.out j hlt
          have HZ1:Hid (L[j].1≠zzN→NoZ L (j+1)):=fun h i hi hij=>by
           by_cases e:i=j
           ·subst e;exact h
           ·exact HZ.out i hi (by omega)
          clear HZ l1
          generalize L[j]=x at *
          obtain ⟨xn,xv⟩:=x
          simp only at l0 HZ1
          cases hb:(xn==zzN)
          ·have HN:=hide (HZ1.out (by rw[beq_eq_false_iff_ne]at hb;exact hb))
           clear HZ1
           go_wp2
           go_roundg (gk-1)
           case measure=>omega
           case rel=>exact ⟨j+1,by omega,by go_num,rfl,HN.out⟩
          ·clear HZ1
           go_wp2
           go_ret
           exact ⟨rfl,F7.out⟩
         ·have hjn:j=L.length:=by omega
          subst hjn
          have hd1:decide ((L.length:Int)<(L.length:Int))=false:=decide_eq_false (by omega)
          have HZA:Hid (∀ x∈L,x.1≠zzN):=fun x hx=>by obtain ⟨i,hi,rfl⟩:=List.getElem_of_mem hx;exact HZ.out i hi hi
          obtain ⟨hz1,hz2⟩:=zz_ok HRO.out (by rw[HRL.out];omega) (fun x hx=>HZA.out x ((HRM.out x).1 hx))
          have HZO:=hide hz1
          have HZV:Hid (hitsC C (lblV (R++[(zzN,[113])]))=hitsC C (lblV L)):=hitsC_congr (fun c hc m hm=>by rw[hz2 m.1 (fun e=>HNZ.out (e ▸ HTN.out c hc m hm)),HRV.out])
          have LVZ:Hid (LV (R++[(zzN,[113])])):=labs_lv hz1
          have HTC:Hid ((lbcs R).length=L.length):=by show _=_;rw[lbcs_len];exact HRL.out
          have hww1:=F1.out.size
          have hw17:=F17.out.size
          clear hz1 hz2 HZA HZ
          go_wp2_with (at_builtin;refine wp_appG _ rfl _ _ 22 28 _ 2 32 infoLbl Tryz.underlying22 rfl (by omega) rfl w1.heap.size (.slice a7 L.length c7) (lbcs R) wr.heap.size [.string (bs zzN), .string (bs [113])] rfl (O7.out.frm (S:=[]) ((Frm.refl [] _).alloc _) (by simp)) rfl rfl (lcell_at _ _ _) (by intro u hu;simp at hu;rcases hu with rfl|rfl<;>rfl) (by rw[HTC.out];omega) (by rw[HTC.out];omega) (by simp;omega) ?_;intro gg cap2 w9 hown9 hgrow hat hlt9;rw[HTC.out]at hown9 ⊢;have O9:=hide (lbcs_snoc R (zzN,[113]) ▸ hown9);have F9:Hid (Frm [] w w9):=(F7.out.alloc _).grown hgrow (fun r hr=>.inr (by have:=(O7.out.lt hr).1;omega));have F79:Hid (Frm (Value.ownBlock (.slice a7 L.length c7)).toList wr w9):=((Frm.refl _ wr).alloc _).grown hgrow (fun r hr=>.inl (by simp[hr]));have q19:=F9.out.at (p:=⟨db,1,none⟩) hdb R1.out;clear hown9 hgrow hat)
          obtain ⟨hlr9,a9',c9',he9,hc9⟩:=lr_of (O9.out.rw (A:=[]) (by simp)) (by simp[HRL.out];omega)
          have hc9n:(R++[(zzN,[113])]:List LBL).length≤cap2:=by rw[(Value.slice.inj he9).2.2];exact hc9
          have N10:=hide (NR.out (R++[(zzN,[113])]) w9 _ _ cap2 F9.out hlr9 LVZ.out hc9n HZO.out HZV.out)
          clear hlr9 he9 hc9
          refine (N10.out).mono ?_
          clear N10 q19
          rintro e w10 ⟨vh10,hF10,rfl,hH10⟩
          have F10:=hide (F9.out.trans hF10)
          have H510:=hide ((HLT.out w9 (F57.out.nil.trans F79.out)).frm hF10)
          have N11:=hide (HSH.out w10 _ _ H510.out hH10)
          obtain ⟨a10,c10,rfl,hc10,-⟩:=hH10
          clear hF10
          go_wp2_with fail
          refine (N11.out).mono ?_
          clear N11
          rintro e w11 ⟨rfl,q11,hw11⟩
          have F11:Hid (Frm [] w w11):=by rw[hw11];exact F10.out.drewN q11
          clear hw11
          go_wp2
          go_ret
          exact ⟨rfl,F11.out⟩
       ·clear hb
        go_wp2
        go_ret
        exact ⟨rfl,F7.out⟩
open Go.RowKit
theorem orderLaw_any(w:World)(a:Option Addr)(cap:Nat)(L:List LBL)(h:LQ w a L)(hN:L.length≤4398046511104)(hs:∀ x∈L,x.1.length≤140737488355328∧x.2.length≤140737488355328)(hcap:L.length≤cap)(r:List UInt8)(hr:r.length≤140737488355328)(z:Int)(hz0:-9223372036854775808≤z)(hz1:z≤9223372036854775807) :
 Calls Tryz.prog 3 #[.string (bs r), .slice a L.length cap, .int .i64 z] w fun e w'=>e=.returned (.bool true)∧Frm [] w w':=by
 have N1:=hide (kat_any w a cap L h hN hs hcap r hr)
 have N2:Hid (∀ W:World,Calls Tryz.prog 5 #[.int .i64 (r.length:Nat)] W fun e w'=>e=.returned (.bool true)∧Frm [] W w'):=fun W=>stands_any _ W (by omega) (by omega)
 have hsz:=bs_size
 clear h hs
 go_enter Tryz.func3,Tryz.ntmps3
 go_wp2_with fail
 refine (N1.out).mono ?_
 clear N1
 rintro e w1 ⟨hF,rfl|⟨db,Ln,C,s,V,pb,rfl,hD⟩⟩
 ·have F:=hide hF
  clear hF
  go_wp2_with fail
  refine (N2.out _).mono ?_
  clear N2
  rintro e w2 ⟨rfl,hF2⟩
  have F2:=hide (F.out.trans hF2)
  clear hF2
  go_wp2
  go_ret
  exact ⟨rfl,F2.out⟩
 ·have F:=hide hF
  have N3:=hide (kordered_any hD z hz0 hz1)
  clear hF N2 hD
  go_wp2_with fail
  refine (N3.out).mono ?_
  clear N3
  rintro e w2 ⟨rfl,hF2⟩
  have F2:=hide (F.out.trans hF2)
  clear hF2
  go_wp2
  go_ret
  exact ⟨rfl,F2.out⟩
open Go.ChangeShapes Go.WideShapes Go.ChangeAt Go.RowKit
open Go.ChangeMaps (open_string shut_string)
def strL:Value→List UInt8
 | .string s=>s.data.toList
 | _=>[]
theorem weightsAll_mem{H:Type}{P:Program}{e:TypeId}{d:DataW H}{n:Nat}:∀ {l:List (DataW H)},d∈l→n∈d.weights P e→n∈DataW.weightsAll P e l
 | [],hd,_=>by simp at hd
 | x::r,hd,hn=>by
   simp only[DataW.weightsAll,List.mem_append]
   rcases List.mem_cons.1 hd with rfl|hd
   ·exact .inl hn
   ·exact .inr (weightsAll_mem hd hn)
theorem cellsLab:Tryz.prog.cellsOf 28=2:=by kernel_rfl
theorem cellsStr:Tryz.prog.cellsOf 9=1:=by kernel_rfl
theorem bytesLab:Tryz.prog.bytesOf 28=32:=by kernel_rfl
theorem labels_open{H:Type}{enc:TypeId × Value→H}{W:World}{a:Option Addr}{len cap:Nat}{d:DataW H}{ps:List MemPlace}(h:DataW.Trod enc Tryz.prog W 0 (fun _=>true) true 22 (.slice a len cap) d ps)
 (hw:∀ n∈d.weights Tryz.prog 22,n≤reachBytes) :
 ∃ L:List LBL,L.length=len∧LQ W a L∧L.length≤4398046511104∧∀ x∈L,x.1.length≤140737488355328∧x.2.length≤140737488355328:=by
 obtain ⟨fuel,h⟩:=h
 have hcs:(Value.slice a len cap).cells.toList=[.slice a len cap]:=rfl
 rw[hcs]at h
 rcases Deep.open_slice_pairs Tryz.underlying22 Tryz.underlying28 cellsLab rfl rfl cellsStr cellsStr h with ⟨hc,_⟩|⟨ad,len',cap',m,n,V0,V1,D0,D1,P0,P1,hc,_,hl,hm,hmm,hx,hall⟩
 ·simp only[List.cons.injEq,and_true,Value.slice.injEq]at hc
  obtain ⟨rfl,rfl,rfl⟩:=hc
  exact ⟨[],rfl,fun j hj=>absurd hj (by simp),by simp,by simp⟩
 ·simp only[List.cons.injEq,and_true,Value.slice.injEq]at hc
  obtain ⟨rfl,rfl,rfl⟩:=hc
  simp only[if_true]at hmm
  subst hmm
  simp only[Prod.mk.injEq]at hx
  obtain ⟨rfl,rfl⟩:=hx
  have hrb:reachBytes≤140737488355328:=Nat.le_of_lt reachBytes_lt
  have hS:∀ i,i<m→∃ s0 s1:ByteArray,V0 i=.string s0∧V1 i=.string s1∧D0 i=.lit (.string s0.data.toList)∧D1 i=.lit (.string s1.data.toList):=by
   intro i hi
   obtain ⟨_,_,h1,h2⟩:=hall i hi
   obtain ⟨s0,e0,f0,_⟩:=DataW.trod_string Tryz.underlying9 h1
   obtain ⟨s1,e1,f1,_⟩:=DataW.trod_string Tryz.underlying9 h2
   simp only[List.cons.injEq,and_true]at e0 e1
   simp only[Prod.mk.injEq]at f0 f1
   exact ⟨s0,s1,e0,e1,f0.1,f1.1⟩
  have hlen:len*32≤reachBytes:=by
   have:=hw ((len+(m-len))*32) (by simp[DataW.weights,Tryz.underlying22,bytesLab])
   omega
  refine ⟨(List.range len).map fun i=>(strL (V0 i),strL (V1 i)),by simp,?_,by simp;omega,?_⟩
  ·intro j hj
   simp only[List.length_map,List.length_range]at hj
   obtain ⟨b,off,spot⟩:=ad
   obtain ⟨c0,c1,_,_⟩:=hall j (by omega)
   obtain ⟨s0,s1,e0,e1,_,_⟩:=hS j (by omega)
   have hspot:spot=none:=by
    have:=World.cell?_spot (hall 0 (by omega)).1
    simpa[Addr.add] using this
   subst hspot
   rw[add_plain]at c0 c1
   refine ⟨b,off,rfl,World.block_lt_of_cell? W _ c0,?_,?_⟩
   ·rw[c0,e0];simp[strL,e0,bs_of]
   ·rw[← Nat.add_assoc]at c1
    rw[c1,e1];simp[strL,e1,bs_of]
  ·intro x hx
   obtain ⟨i,hi,rfl⟩:=List.mem_map.1 hx
   rw[List.mem_range]at hi
   obtain ⟨s0,s1,e0,e1,f0,f1⟩:=hS i (by omega)
   have hwt:∀ k,k=s0.data.toList.length∨k=s1.data.toList.length→k≤reachBytes:=by
    intro k hk
    apply hw
    have hmem:k∈DataW.weightsAll Tryz.prog 28 ((List.range len).map fun i=>DataW.agg [D0 i,D1 i]):=by
     refine weightsAll_mem (d:=.agg [D0 i,D1 i]) (List.mem_map.2 ⟨i,List.mem_range.2 hi,rfl⟩) ?_
     rw[f0,f1]
     simp only[DataW.weights,Tryz.underlying28]
     rcases hk with rfl|rfl<;>simp[DataW.weightsEach,DataW.weights]
    simp only[DataW.weights,Tryz.underlying22,List.mem_cons,List.mem_append]
    exact .inr (.inl hmem)
   have h1:=hwt _ (.inl rfl)
   have h2:=hwt _ (.inr rfl)
   simp only[e0,e1,strL]
   omega
open Go.ChangeShapes Go.WideShapes Go.ChangeAt Go.RowKit
theorem labels_cap{H:Type}{enc:TypeId × Value→H}{W:World}{a:Option Addr}{len cap:Nat}{d:DataW H}{ps:List MemPlace}(h:DataW.Trod enc Tryz.prog W 0 (fun _=>true) true 22 (.slice a len cap) d ps):len≤cap:=by
 obtain ⟨fuel,h⟩:=h
 have hcs:(Value.slice a len cap).cells.toList=[.slice a len cap]:=rfl
 rw[hcs]at h
 rcases Deep.open_slice_pairs Tryz.underlying22 Tryz.underlying28 cellsLab rfl rfl cellsStr cellsStr h with ⟨hc,_⟩|⟨ad,len',cap',m,n,V0,V1,D0,D1,P0,P1,hc,_,hl,hm,hmm,hx,hall⟩
 ·simp only[List.cons.injEq,and_true,Value.slice.injEq]at hc
  omega
 ·simp only[List.cons.injEq,and_true,Value.slice.injEq]at hc
  obtain ⟨rfl,rfl,rfl⟩:=hc
  exact hl
end Go.Proofs.YtjkialjoamgbgaaGreat
