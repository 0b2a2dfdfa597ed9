import Derived.Test.YtjkialjoamgbgaaGreatJ20
import Derived.Test.YtjkialjoamgbgaaGreatJ22
import Derived.Test.YtjkialjoamgbgaaGreatJ23
import Derived.Test.YtjkialjoamgbgaaGreatJ15
set_option linter.unusedVariables false
set_option linter.unusedSimpArgs false
set_option linter.unnecessarySimpa false
set_option maxRecDepth 100000
set_option maxHeartbeats 8000000
namespace Go.Proofs.YtjkialjoamgbgaaGreat
open Go.RowKit
theorem pmat_cb{re:List UInt8→Nat}{aut:List UInt8→AutM}:∀ (M:List CM) (s:CS) (acc:List (Nat × Bool)) (k:Nat) {l:List (Nat × Bool)} {s1:CS},CSB s k→pmat re aut s acc M=.ok (l,s1)→CSB s1 (k+M.length)∧s1.q=s.q∧l.length=acc.length+M.length
 | [],s,acc,k,l,s1,h,e=>by
   rw[pmat]at e
   cases e
   exact ⟨h,rfl,rfl⟩
 | m::r,s,acc,k,l,s1,h,e=>by
   rw[pmat]at e
   split at e
   ·cases e
   ·rename_i t s2 ht
    obtain ⟨h1,_,h3⟩:=ptest_cb h ht
    obtain ⟨g1,g2,g3⟩:=pmat_cb r _ _ (k+1) h1 e
    refine ⟨?_,g2.trans h3,by simp at g3 ⊢;omega⟩
    rw[List.length_cons,show k+(r.length+1)=k+1+r.length by omega]
    exact g1
theorem RTS.avoid{A B:List Nat}{w:World}{v:Value}{C:List CR}(h:RTS A w v C)(hB:∀ g∈B,g∈A∨w.heap.size≤g):RTS B w v C:=by
 obtain ⟨css,h1,h2⟩:=h
 exact ⟨css,h1.avoid hB,h2.avoid hB⟩
theorem results3{fn:Func}{p u t:Tmp}{ty:TypeId}(h:fn.results=#[.cell p ty, .tmp u, .tmp t])(tmps:Array Value)(w:World)(g:Nat)(cs:Array Value)(a b:Value)
 (hp:tmps.getD p undef=.pointer (some ⟨g,0,none⟩)) (hu:tmps.getD u undef=a) (ht:tmps.getD t undef=b) (hl:(loadVar ty ⟨g,0,none⟩).run Tryz.prog w=.ok (.agg cs) w) :
 (results fn tmps).run Tryz.prog w=.ok (.tuple #[.agg cs,a,b]) w:=by
 have hp':tmps[p]?.getD undef=.pointer (some ⟨g,0,none⟩):=by simpa using hp
 have hu':tmps[u]?.getD undef=a:=by simpa using hu
 have ht':tmps[t]?.getD undef=b:=by simpa using ht
 simp[results,h,hp',hu',ht',asAddr,hl]
abbrev vz:V6:=⟨.slice none 0 0, .slice none 0 0, .slice none 0 0, .slice none 0 0, .slice none 0 0, .slice none 0 0⟩
theorem KS.start(Z:List Nat){w0:World}{kb:Nat}{rt:Value}(hr:KR w0 kb vz ⟨rt, .slice none 0 0, .slice none 0 0, .slice none 0 0⟩):KS Z w0 kb w0 vz ⟨rt, .slice none 0 0, .slice none 0 0, .slice none 0 0⟩ cs0:=by
 refine ⟨hr,[],[],Frm.refl _ _,hr.lt,⟨?_,?_⟩,RowI.nil _ _ _,RowI.nil _ _ _⟩
 ·intro i r hi
  match i,hi with
  | 0,hi=>cases hi;exact OW.nil _ _ _ _
  | 1,hi=>cases hi;exact OW.nil _ _ _ _
  | 2,hi=>cases hi;exact OW.nil _ _ _ _
  | 3,hi=>cases hi;exact OW.nil _ _ _ _
  | 4,hi=>cases hi;exact OW.nil _ _ _ _
  | 5,hi=>cases hi;exact OW.nil _ _ _ _
  | i+6,hi=>simp at hi
 ·intro i j r s _ hi _ g hg
  match i,hi with
  | 0,hi=>cases hi;cases hg
  | 1,hi=>cases hi;cases hg
  | 2,hi=>cases hi;cases hg
  | 3,hi=>cases hi;cases hg
  | 4,hi=>cases hi;cases hg
  | 5,hi=>cases hi;cases hg
  | i+6,hi=>simp at hi
open Go.RowKit
theorem lineOf_any(i:Nat)(w:World)(hi:i≤1000000):Calls Tryz.prog 26 #[.int .i64 i] w fun e w'=>e=.returned (.int .i64 ((i+2:Nat):Int))∧w=w':=by
 go_enter Tryz.func26,Tryz.ntmps26
 go_wp2
 go_ret
 exact ⟨congrArg Ending.returned (by go_num),rfl⟩
def PCQ(re:List UInt8→Nat)(aut:List UInt8→AutM)(C:List CR)(w:World)(e:Ending)(w':World):Prop :=
 Frm [] w w'∧((∃ n ln,pread re aut cs0 0 C=.error (n,ln)∧e=.returned (.tuple #[.agg vz.cells, .int .i64 (n:Nat), .int .i64 (ln:Nat)])) ∨
 (∃ s V,pread re aut cs0 0 C=.ok s∧e=.returned (.tuple #[.agg V.cells, .int .i64 0, .int .i64 0])∧PG [] w' V (compM C s)))
theorem RowI.plain{A:List Nat}{w:World}{css:List (Array Value)}{xs:List HitM}(h:RowI hitT A w css xs):RowI hitI A w css xs :=
 ⟨h.1,fun n cs x h1 h2=>by obtain ⟨g,e,r⟩:=h.2 n cs x h1 h2;exact ⟨_,e,r⟩⟩
theorem pCompile_any(re:List UInt8→Nat)(aut:List UInt8→AutM)(vr vt:Value)(C:List CR)(w:World)(hrt:RTS [] w vt C)(hne:0<C.length)(hCl:C.length≤16)(hC:∀ c∈C,c.d≤5∧c.bys.length≤4∧-1≤c.wt∧-1≤c.ev∧-1≤c.rp∧c.ifs.length≤4∧∀ m∈c.ifs,m.2.1≤3∧((m.2.1=2∨m.2.1=3)→RCP re aut m.2.2))(hvr:∃ a n c,vr=.slice a n c) :
 Calls Tryz.prog 17 #[.agg #[vr,vt]] w (PCQ re aut C w):=by
 obtain ⟨a0,n0,c0,rfl⟩:=hvr
 obtain ⟨at',capt,ert⟩:∃ a cap,vt=.slice a C.length cap:=by
  obtain ⟨css,h1,h2⟩:=hrt
  obtain ⟨a,cap,e,_⟩:=row_at h1 h2
  exact ⟨a,cap,e⟩
 subst ert
 obtain ⟨W0,hW0⟩:∃ W0,W0=((w.alloc (Obj.cells #[.slice a0 n0 c0, .slice at' C.length capt] 51)).alloc (Obj.cells #[.slice none 0 0, .slice none 0 0, .slice none 0 0, .slice none 0 0, .slice none 0 0, .slice none 0 0] 58)).alloc (Obj.cells #[.slice none 0 0, .slice none 0 0, .slice none 0 0, .slice none 0 0, .slice none 0 0, .slice none 0 0, .slice at' C.length capt, .slice none 0 0, .slice none 0 0, .slice none 0 0] 77):=⟨_,rfl⟩
 have F0:Frm [] w W0:=by rw[hW0];exact (((Frm.refl [] w).alloc _).alloc _).alloc _
 have hz0:W0.heap.size=w.heap.size+3:=by rw[hW0];simp
 have BC:W0.heap[w.heap.size]?=some (Obj.cells #[.slice a0 n0 c0, .slice at' C.length capt] 51):=by
  rw[hW0];exact ((((Frm.refl [] _).alloc _).alloc _).block w.heap.size (by simp) (by simp)).trans (heap1 _ _)
 have BP:W0.heap[w.heap.size+1]?=some (Obj.cells #[.slice none 0 0, .slice none 0 0, .slice none 0 0, .slice none 0 0, .slice none 0 0, .slice none 0 0] 58):=by
  rw[hW0];exact (((Frm.refl [] _).alloc _).block (w.heap.size+1) (by simp) (by simp)).trans (alloc_at _ _ _ (by simp))
 have BK:KR W0 (w.heap.size+1+1) vz ⟨.slice at' C.length capt, .slice none 0 0, .slice none 0 0, .slice none 0 0⟩:=by
  rw[hW0];exact alloc_at _ _ _ (by simp)
 have HS:=hide (KS.start [w.heap.size+1] BK)
 have HRT:Hid (RTS [w.heap.size+1+1] W0 (.slice at' C.length capt) C):=(hrt.avoid (by simp;omega)).frm F0 (by simp)
 have HC:=hide hC
 have HF0:=hide F0
 have HBC:=hide BC
 have HBP:=hide BP
 have HW0:=hide hW0
 clear hrt hC F0 BC BP BK hW0
 go_enter Tryz.func17,Tryz.ntmps17
 go_wp2_with fail
 go_loopg [15] C.length (fun k v15 wr=>∃ (j:Nat) (sj:CS) (Vj:V6) (Uj:V4),j+k=C.length∧v15=.int .i64 j∧Hid (KS [w.heap.size+1] W0 (w.heap.size+1+1) wr Vj Uj sj)∧Hid (KV vz Vj ⟨.slice at' C.length capt, .slice none 0 0, .slice none 0 0, .slice none 0 0⟩ Uj)∧Hid (pread re aut sj j (C.drop j)=pread re aut cs0 0 C)∧Hid (CSB sj (4*j))∧Hid (sj.q.length=j)∧Hid (∀ x∈sj.q,x.length≤4)∧Hid (∀ y∈sj.x,re y=0))
 case atStart =>
  refine ⟨0,cs0,vz,_,by omega,rfl,?_,KV.refl _ _,?_,⟨by simp[cs0],by simp[cs0],by simp[cs0],by simp[cs0],by simp[cs0]⟩,?_,?_,?_⟩
  ·show KS _ _ _ _ _ _ _
   have:=HS.out
   rw[HW0.out]at this ⊢
   exact this
  ·show _=_;rfl
  ·show _=_;rfl
  ·intro x hx;simp[cs0]at hx
  ·intro x hx;simp[cs0]at hx
 case round =>
  obtain ⟨j,sj,Vj,Uj,hjk,rfl,KJ,HKV,HP,CBJ,HQL,HQ4,HX⟩:=hrel
  have hzj:=KJ.out.fr.size
  have bc:=(KJ.out.fr.block w.heap.size (by omega) (by simp;omega)).trans HBC.out
  have bp:=(KJ.out.fr.block (w.heap.size+1) (by omega) (by simp)).trans HBP.out
  have k1:wr.cell? ⟨w.heap.size,1,none⟩=some (.slice at' C.length capt):=by simp[World.cell?,bc]
  by_cases hlt:j<C.length
  ·have hd1:decide ((j:Int)<(C.length:Int))=true:=decide_eq_true (by omega)
   obtain ⟨css,r1,r2⟩:=HRT.out
   obtain ⟨a',cap',ea,rr⟩:=row_at r1 r2
   simp only[Value.slice.injEq,true_and]at ea
   obtain ⟨rfl,rfl⟩:=ea
   obtain ⟨gr,or,csr,rfl,hgr,hgk,⟨vby,vif,rfl,hby,hif⟩,kk⟩:=rr j hlt
   obtain ⟨ay,cy,rfl,_⟩:=hby.str
   obtain ⟨ai,ci,rfl,_⟩:=hif.mts
   have tc:∀ (o:Nat) (u:Value),(rcl C[j] (.slice ay C[j].bys.length cy) (.slice ai C[j].ifs.length ci))[o]?=some u→wr.cell? ⟨gr,or+j*9+o,none⟩=some u:=fun o u hu=>(KJ.out.fr.cell (p:=⟨gr,or+j*9+o,none⟩) hgr hgk).trans (kk o u hu)
   have t0:wr.cell? ⟨gr,or+j*9,none⟩=some (.int .i64 (C[j].d:Nat)):=tc 0 _ rfl
   have t1:wr.cell? ⟨gr,or+j*9+1,none⟩=some (.string (bs C[j].rc)):=tc 1 _ rfl
   have t2:wr.cell? ⟨gr,or+j*9+2,none⟩=some (.bool C[j].tb):=tc 2 _ rfl
   have t3:wr.cell? ⟨gr,or+j*9+3,none⟩=some (.slice ay C[j].bys.length cy):=tc 3 _ rfl
   have t4:wr.cell? ⟨gr,or+j*9+4,none⟩=some (.int .i64 C[j].wt):=tc 4 _ rfl
   have t5:wr.cell? ⟨gr,or+j*9+5,none⟩=some (.int .i64 C[j].ev):=tc 5 _ rfl
   have t6:wr.cell? ⟨gr,or+j*9+6,none⟩=some (.int .i64 C[j].rp):=tc 6 _ rfl
   have t7:wr.cell? ⟨gr,or+j*9+7,none⟩=some (.slice ai C[j].ifs.length ci):=tc 7 _ rfl
   have t8:wr.cell? ⟨gr,or+j*9+8,none⟩=some (.bool C[j].co):=tc 8 _ rfl
   have hgrr:gr<wr.heap.size:=by omega
   have hcj:=HC.out C[j] (List.getElem_mem hlt)
   obtain ⟨h1,h2,h3,h4,h5,h6,h7⟩:=hcj
   have hcb:=CBJ.out
   have N1:Hid (∀ W,Frm [] wr W→Calls Tryz.prog 25 #[.pointer (some ⟨w.heap.size+1+1,0,none⟩), .slice ai C[j].ifs.length ci] W (RMQ [w.heap.size+1] re aut W0 (w.heap.size+1+1) Vj Uj sj C[j].ifs)):=fun W hW=>readMatchers_any [w.heap.size+1] re aut W0 (w.heap.size+1+1) W Vj Uj sj (KJ.out.frm hW) (by have:=hW.size;simp;omega) ⟨by have:=hcb.n;omega,by have:=hcb.c;omega,by have:=hcb.x;omega,by have:=hcb.a;omega,by have:=hcb.t;omega⟩ _ C[j].ifs hif h6 h7 (by rw[HQL.out];omega)
   have HPR:Hid (pread re aut sj j (C[j]::C.drop (j+1))=pread re aut cs0 0 C):=by show _=_;rw[← List.drop_eq_getElem_cons hlt];exact HP.out
   clear kk rr hif hby tc hcb HP bc h7
   generalize C[j]=c at *
   go_wp2_with fail
   refine (N1.out _ ((Frm.refl [] _).alloc _)).mono ?_
   clear N1
   rintro e w2 hT
   rcases hT with ⟨n,e1,rfl,hF2⟩|⟨l,s1,V2,U2,e1,rfl,hK2,hKV2⟩
   ·have HE:Hid (pread re aut cs0 0 C=.error (n,j+2)):=by show _=_;rw[← HPR.out,pread,e1]
    have hn0:((n:Int) != 0)=true:=by
     rcases pmat_fault (re:=re) (aut:=aut) c.ifs sj [] HX.out with ⟨e,f1,_,f3⟩|⟨l',s',f1,_⟩
     ·rw[e1]at f1;cases f1
      rw[bne_iff_ne];omega
     ·rw[e1]at f1;cases f1
    have bp2:=(hF2.block (w.heap.size+1) (by omega) (by simp)).trans HBP.out
    have e0:w2.cell? ⟨w.heap.size+1,0,none⟩=some (.slice none 0 0):=by simp[World.cell?,bp2]
    have e1':w2.cell? ⟨w.heap.size+1,1,none⟩=some (.slice none 0 0):=by simp[World.cell?,bp2]
    have e2:w2.cell? ⟨w.heap.size+1,2,none⟩=some (.slice none 0 0):=by simp[World.cell?,bp2]
    have e3:w2.cell? ⟨w.heap.size+1,3,none⟩=some (.slice none 0 0):=by simp[World.cell?,bp2]
    have e4:w2.cell? ⟨w.heap.size+1,4,none⟩=some (.slice none 0 0):=by simp[World.cell?,bp2]
    have e5:w2.cell? ⟨w.heap.size+1,5,none⟩=some (.slice none 0 0):=by simp[World.cell?,bp2]
    have ez:∀ o,w2.frozen? ⟨w.heap.size+1,o,none⟩=false:=fun o=>by simp[World.frozen?,bp2]
    have HB2:=hide bp2
    have F2:=hide hF2
    have NL:=hide (lineOf_any j w2 (by omega))
    clear e1 bp2 hF2 HPR
    go_wp2_with fail
    refine (NL.out).mono ?_
    rintro e w' ⟨rfl,rfl⟩
    go_wp2_with fail
    refine bodyPost_ret (results3 rfl _ _ (w.heap.size+1) vz.cells _ _ rfl rfl rfl (loadProg (set6_row _ _ _ _ _ _ HB2.out) rfl)) rfl ?_
    refine ⟨?_, .inl ⟨n,j+2,HE.out,rfl⟩⟩
    exact ((HF0.out.over F2.out (by simp;omega)).over (set6_frm _ _ _ _ _ _ _ _) (by simp))
   ·obtain ⟨g1,g2,g3⟩:=pmat_cb c.ifs sj [] (4*j) CBJ.out e1
    have HE:Hid (pread re aut { s1 with q:=s1.q++[l] } (j+1) (C.drop (j+1))=pread re aut cs0 0 C):=by show _=_;rw[← HPR.out,pread,e1]
    have CB2:Hid (CSB { s1 with q:=s1.q++[l] } (4*(j+1))):=⟨by have:=g1.n;simp only;omega,by have:=g1.c;simp only;omega,by have:=g1.x;simp only;omega,by have:=g1.a;simp only;omega,by have:=g1.t;simp only;omega⟩
    have HQ2:Hid ({ s1 with q:=s1.q++[l] }.q.length=j+1):=by show (s1.q++[l]).length=_;rw[List.length_append,g2,HQL.out];rfl
    have HQ5:Hid (∀ x∈{ s1 with q:=s1.q++[l] }.q,x.length≤4):=by
     intro x hx
     have hx':x∈s1.q++[l]:=hx
     rw[List.mem_append,List.mem_singleton,g2]at hx'
     rcases hx' with hx'|rfl
     ·exact HQ4.out x hx'
     ·simp at g3;omega
    have HX2:Hid (∀ y∈{ s1 with q:=s1.q++[l] }.x,re y=0):=by
     rcases pmat_fault (re:=re) (aut:=aut) c.ifs sj [] HX.out with ⟨e,f1,_⟩|⟨l',s',f1,_,f3⟩
     ·rw[e1]at f1;cases f1
     ·rw[e1]at f1;cases f1;exact f3
    have K2:=hide hK2
    have KV2:=hide (HKV.out.trans hKV2)
    clear hK2 hKV2 g1 g2 g3 e1 HPR
    go_wp2
    go_roundg (gk-1)
    case measure=>omega
    case rel=>exact ⟨j+1,_,V2,U2,by omega,by go_num,K2,KV2,HE,CB2,HQ2,HQ5,HX2⟩
  ·have hd1:decide ((j:Int)<(C.length:Int))=false:=decide_eq_false (by omega)
   have hj:j=C.length:=by omega
   have HE:Hid (pread re aut cs0 0 C=.ok sj):=by
    show _=_
    rw[← HP.out,hj,List.drop_length]
    rfl
   obtain ⟨vn,vc,va,vt,vr,vi⟩:=Vj
   obtain ⟨rt,ux,uq,ul⟩:=Uj
   obtain ⟨e1,e2,e3,e4⟩:=HKV.out
   simp only at e1 e2 e3 e4
   subst e1 e2 e3 e4
   have N2:=hide (hits_any [w.heap.size+1+1,w.heap.size+1] wr (by simp;omega) (.slice at' C.length capt) C ((HRT.out.frm KJ.out.fr (by simp)).avoid (by simp)) (by omega) (fun c hm=>by obtain ⟨h1,h2,h3,h4,h5,_⟩:=HC.out c hm;exact ⟨by omega,h2,h3,h4,h5⟩))
   have KR1:=hide KJ.out.row
   have HBW:=hide bp
   clear HP HKV bc bp
   go_wp2_with fail
   refine (N2.out).mono ?_
   clear N2
   rintro e w2 ⟨v2,css,rfl,hF2,hO2,hI2⟩
   obtain ⟨ah,ch,he⟩:=hO2.shape
   rw[lst_len]at he
   subst he
   have R2:=hide (KR1.out.frm hF2 (by simp))
   have c4:=R2.out.c 4
   simp at c4
   have z4:=R2.out.fz 4
   have R3:=hide (R2.out.set (V':=⟨vn,vc,va,vt, .slice ah css.length ch, .slice none 0 0⟩) (U':=⟨.slice at' C.length capt,ux,uq, .slice none 0 0⟩) 4 (.slice ah css.length ch) rfl)
   have FK:Hid (Frm [w.heap.size+1+1] wr (w2.setCell ⟨w.heap.size+1+1,4,none⟩ (.slice ah css.length ch))):=((Frm.refl _ _).over hF2 (by simp)).setCell (p:=⟨w.heap.size+1+1,4,none⟩) (.inl (by simp)) _
   have O2:=hide hO2
   have I2:=hide hI2
   have F2:=hide hF2
   have HLC:Hid (LC (w2.setCell ⟨w.heap.size+1+1,4,none⟩ (.slice ah css.length ch)) (w.heap.size+1+1) (.slice at' C.length capt) uq C sj.q):=by
    obtain ⟨ca,cq,g⟩:=KJ.out.g
    refine ⟨(HRT.out.frm KJ.out.fr (by simp)).frm FK.out (by simp),⟨cq,?_,?_⟩,by rw[HQL.out,hj],HQ4.out,hCl,fun c hm=>(HC.out c hm).1⟩
    ·have ow:OW 99 1 W0.heap.size wr uq (lst cq):=g.rw.o 5 ⟨99,1,uq,lst cq⟩ rfl
     exact (ow.rw (A:=[w.heap.size+1+1]) (fun x hx hm=>by simp at hm;have:=(ow.lt hx).1;omega)).frm FK.out (by simp)
    ·exact (g.qi.avoid (B:=[w.heap.size+1+1]) (fun x hx=>by simp at hx;subst hx;exact .inl (by simp))).frm FK.out (by simp)
   generalize hw3:w2.setCell ⟨w.heap.size+1+1,4,none⟩ (.slice ah css.length ch)=w3 at *
   have N3:=hide (instructions_any w3 (w.heap.size+1+1) w3 _ _ ux uq C sj.q HLC.out ⟨R3.out,Frm.refl _ _,R3.out.lt,OW.nil _ _ _ _⟩ hne)
   have HW3:=hide hw3
   clear hF2 hO2 hI2 HLC
   obtain ⟨an,cn,en⟩:∃ a c,vn=.slice a sj.n.length c:=by
    obtain ⟨a,c,e⟩:=(KJ.out.own 0 (r:=⟨9,1,vn,sc sj.n⟩) (fun ca cq=>rfl)).shape
    exact ⟨a,c,by rw[sc_len]at e;exact e⟩
   obtain ⟨ac,cc',ec⟩:∃ a c,vc=.slice a sj.c.length c:=by
    obtain ⟨a,c,e⟩:=(KJ.out.own 1 (r:=⟨9,1,vc,sc sj.c⟩) (fun ca cq=>rfl)).shape
    exact ⟨a,c,by rw[sc_len]at e;exact e⟩
   obtain ⟨atx,ctx,et⟩:∃ a c,vt=.slice a sj.t.length c:=by
    obtain ⟨a,c,e⟩:=(KJ.out.own 4 (r:=⟨103,3,vt,tc sj.t⟩) (fun ca cq=>rfl)).shape
    exact ⟨a,c,by rw[tc_len]at e;exact e⟩
   obtain ⟨aa,na,caa,ea⟩:∃ a n c,va=.slice a n c:=by
    obtain ⟨ca,cq,g⟩:=KJ.out.g
    obtain ⟨a,c,e⟩:=(g.rw.o 3 ⟨124,259,va,lst ca⟩ rfl).shape
    exact ⟨a,_,c,e⟩
   subst en ec et ea
   go_wp2_with fail
   refine (N3.out).mono ?_
   clear N3
   rintro e w4 ⟨v4,vl4,rfl,hR4,_,hF4,hO4⟩
   obtain ⟨a4,c4',e4⟩:=hO4.shape
   subst e4
   have d0:=hR4.c 0
   have d1:=hR4.c 1
   have d2:=hR4.c 2
   have d3:=hR4.c 3
   have d4:=hR4.c 4
   have d5:=hR4.c 5
   have dz:=hR4.fz 5
   simp at d0 d1 d2 d3 d4 d5
   have F4:=hide hF4
   have O4:=hide hO4
   have F23:Frm [w.heap.size+1+1] w2 w3:=by rw[← HW3.out];exact (Frm.refl _ _).setCell (p:=⟨w.heap.size+1+1,4,none⟩) (.inl (by simp)) _
   have HF23:=hide F23
   have b4:=(hF4.block (w.heap.size+1) (by have:=F23.size;have:=F2.out.size;omega) (by simp)).trans ((F23.block (w.heap.size+1) (by have:=F2.out.size;omega) (by simp)).trans ((F2.out.block (w.heap.size+1) (by omega) (by simp)).trans HBW.out))
   have p0:w4.cell? ⟨w.heap.size+1,0,none⟩=some (.slice none 0 0):=by simp[World.cell?,b4]
   have p1:w4.cell? ⟨w.heap.size+1,1,none⟩=some (.slice none 0 0):=by simp[World.cell?,b4]
   have p2:w4.cell? ⟨w.heap.size+1,2,none⟩=some (.slice none 0 0):=by simp[World.cell?,b4]
   have p3:w4.cell? ⟨w.heap.size+1,3,none⟩=some (.slice none 0 0):=by simp[World.cell?,b4]
   have p4:w4.cell? ⟨w.heap.size+1,4,none⟩=some (.slice none 0 0):=by simp[World.cell?,b4]
   have p5:w4.cell? ⟨w.heap.size+1,5,none⟩=some (.slice none 0 0):=by simp[World.cell?,b4]
   have pz:∀ o,w4.frozen? ⟨w.heap.size+1,o,none⟩=false:=fun o=>by simp[World.frozen?,b4]
   have HB4:=hide b4
   clear hR4 hF4 hO4 F23 b4
   go_wp2_with fail
   have hl4:w.heap.size+1<w4.heap.size:=(Array.getElem?_eq_some_iff.1 HB4.out).1
   have FB:=fun (X:Value)=>(Frm.refl [w.heap.size+1+1] w4).setCell (p:=⟨w.heap.size+1+1,5,none⟩) (.inl (by simp)) X
   refine bodyPost_ret (results3 rfl _ _ (w.heap.size+1) (V6.cells ⟨.slice an sj.n.length cn, .slice ac sj.c.length cc', .slice aa na caa, .slice atx sj.t.length ctx, .slice ah css.length ch, .slice a4 (icl (codeM C sj.q)).length c4'⟩) _ _ rfl rfl rfl (loadProg (set6_row _ _ _ _ _ _ (((FB _).block (w.heap.size+1) hl4 (by simp)).trans HB4.out)) rfl)) rfl ?_
   have FE:=((Frm.refl [w.heap.size+1+1,w.heap.size+1] w4).over (FB (.slice a4 (icl (codeM C sj.q)).length c4')) (by simp)).over (set6_frm _ (w.heap.size+1) (.slice an sj.n.length cn) (.slice ac sj.c.length cc') (.slice aa na caa) (.slice atx sj.t.length ctx) (.slice ah css.length ch) (.slice a4 (icl (codeM C sj.q)).length c4')) (by simp)
   have F3E:=((Frm.refl [w.heap.size+1+1,w.heap.size+1] w3).over F4.out (by simp)).trans FE
   have F2E:=((Frm.refl [w.heap.size+1+1,w.heap.size+1] w2).over HF23.out (by simp)).trans F3E
   have FRE:=((Frm.refl [w.heap.size+1+1,w.heap.size+1] wr).over F2.out (by simp)).trans F2E
   obtain ⟨ca,cq,g⟩:=KJ.out.g
   have hne2:∀ (e:TypeId) (k b:Nat) (u:World) (v:Value) (vs:List (List Value)),OW e k b u v vs→w.heap.size+3≤b→∀ x,v.ownBlock=some x→x ∉ [w.heap.size+1+1,w.heap.size+1]:=by
    intro e k b u v vs ho hb x hx hm
    have:=(ho.lt hx).1
    simp at hm
    omega
   refine ⟨(HF0.out.over KJ.out.fr (by simp;omega)).over FRE (by simp;omega), .inr ⟨sj,_,HE.out,rfl,?_⟩⟩
   have on:=g.rw.o 0 ⟨9,1, .slice an sj.n.length cn,sc sj.n⟩ rfl
   have oc:=g.rw.o 1 ⟨9,1, .slice ac sj.c.length cc',sc sj.c⟩ rfl
   have oa:=g.rw.o 3 ⟨124,259, .slice aa na caa,lst ca⟩ rfl
   have ot:=g.rw.o 4 ⟨103,3, .slice atx sj.t.length ctx,tc sj.t⟩ rfl
   have hz2:=F2.out.size
   have hz3:=HF23.out.size
   refine ⟨?_,?_,⟨ca,?_,?_⟩,?_,⟨css,?_,?_⟩,?_⟩
   ·exact ((on.rw (hne2 _ _ _ _ _ _ on (by omega))).frm FRE (by simp)).avoid (by simp)
   ·exact ((oc.rw (hne2 _ _ _ _ _ _ oc (by omega))).frm FRE (by simp)).avoid (by simp)
   ·exact ((oa.rw (hne2 _ _ _ _ _ _ oa (by omega))).frm FRE (by simp)).avoid (by simp)
   ·exact ((g.ai.avoid (B:=[w.heap.size+1+1,w.heap.size+1]) (fun x hx=>.inl (by simp at hx ⊢;rcases hx with rfl|rfl;exact .inr (.inl rfl);exact .inl rfl))).frm FRE (by simp)).avoid (by simp)
   ·exact ((ot.rw (hne2 _ _ _ _ _ _ ot (by omega))).frm FRE (by simp)).avoid (by simp)
   ·exact ((O2.out.rw (hne2 _ _ _ _ _ _ O2.out (by omega))).frm F2E (by simp)).avoid (by simp)
   ·exact (((I2.out.avoid (B:=[w.heap.size+1+1,w.heap.size+1]) (fun x hx=>.inl (List.mem_append.2 (.inl hx)))).frm F2E (by simp)).avoid (by simp)).plain
   ·exact ((O4.out.rw (hne2 _ _ _ _ _ _ O4.out (by omega))).frm FE (by simp)).avoid (by simp)
open Go.RowKit
def kRecv:List UInt8:=[114,101,99,101,105,118,101,114,115]
def recL:Nat→List (List UInt8)→List UInt8→Option (List (List UInt8))
 | 0,_,_=>none
 | k+1,acc,l =>
   if sTake [32] l then
    let nm:=(sRest [32] l).takeWhile nmB
    if !(isNameL nm)||decide (8≤acc.length) then none else recL k (acc++[nm]) ((sRest [32] l).dropWhile nmB)
   else if decide (0<acc.length)&&l.isEmpty then some acc else none
def sRecvs(t:List UInt8):Option (List (List UInt8)):=if sTake kRecv t then recL 10 [] (sRest kRecv t) else none
theorem readReceivers_any(t:List UInt8)(w:World)(ht:t.length≤1048576) :
 Calls Tryz.prog 61 #[.string (bs t)] w fun e w'=>Frm [] w w'∧∃ v' L,e=.returned (.tuple #[v', .bool (sRecvs t).isSome])∧SL w.heap.size w' v' L∧∀ L',sRecvs t=some L'→L=L':=by
 have ha0:At (w.alloc (Obj.cells #[Value.string (bs t),Value.int IntKind.i64 0] 160)) w.heap.size t t :=
  ⟨0,⟨heap1 _ _,Nat.zero_le _,ht⟩,rfl⟩
 have A0:Hid (At (w.alloc (Obj.cells #[Value.string (bs t),Value.int IntKind.i64 0] 160)) w.heap.size t t):=ha0
 clear ha0
 go_enter Tryz.func61,Tryz.ntmps61
 go_wp2_with fail
 refine (take_any w.heap.size t t kRecv _ A0.out (by simp[kRecv])).mono ?_
 rintro e w1 ⟨rfl,h1,hf1⟩
 have HF1:Hid (Frm [] w w1):=((Frm.refl [] w).alloc _).new hf1 (by simp)
 have hz1:w.heap.size+1≤w1.heap.size:=by have:=hf1.size;simpa using this
 cases ht1:sTake kRecv t
 case false =>
  have Hx:Hid (sRecvs t=none):=by
   show sRecvs t=none;unfold sRecvs;rw[ht1];rfl
  clear h1 hf1
  go_wp2
  go_ret2
  rw[Hx.out]
  exact ⟨HF1.out,_,[],rfl,SL.nil _ _,fun L' h=>by cases h⟩
 case true =>
 have Hx:Hid (sRecvs t=recL 10 [] (sRest kRecv t)):=by
  show sRecvs t=_;unfold sRecvs;rw[ht1];rfl
 have H1:Hid (At w1 w.heap.size t (sRest kRecv t)):=h1
 clear h1 hf1 ht1
 go_wp2_with fail
 go_loopg [5] 10 (fun k v wr=>∃ (acc:List (List UInt8)) (l':List UInt8) (g cap:Nat),acc.length+k=10∧acc.length≤8∧v=.slice (some ⟨g,0,none⟩) acc.length cap∧w.heap.size+1≤g∧SL (w.heap.size+1) wr v acc∧recL k acc l'=sRecvs t∧At wr w.heap.size t l'∧Frm [] w wr∧w.heap.size+1≤wr.heap.size)
 case atStart=>exact ⟨[],sRest kRecv t,_,_,by simp,by simp,rfl,hz1,World.ownsRow_lit _ #[] 0 hz1 (by unfold maxLen;omega) (by simp),Hx.out.symm,H1.out.frm (S:=[]) ((Frm.refl _ _).alloc _) (by simp),HF1.out.alloc _,by simp;omega⟩
 case round =>
  obtain ⟨acc,l',g,cap,hk,hac,rfl,hg,hsl,hlb,hat,hfr,hz⟩:=hrel
  have Hs:Hid (SL (w.heap.size+1) wr (.slice (some ⟨g,0,none⟩) acc.length cap) acc):=hsl
  have Hl:Hid (recL gk acc l'=sRecvs t):=hlb
  have Ha:Hid (At wr w.heap.size t l'):=hat
  have Hf:Hid (Frm [] w wr):=hfr
  clear hsl hlb hat hfr H1 HF1 Hx
  obtain ⟨m,rfl⟩:∃ m,gk=m+1:=⟨gk-1,by omega⟩
  go_wp2_with fail
  refine (take_any w.heap.size t l' [32] _ Ha.out (by simp)).mono ?_
  rintro e w2 ⟨rfl,h2,hf2⟩
  have Hs2:Hid (SL (w.heap.size+1) w2 (.slice (some ⟨g,0,none⟩) acc.length cap) acc):=Hs.out.frm hf2 (by simp)
  have Hf2:Hid (Frm [] w w2):=Hf.out.new hf2 (by simp)
  have hz2:w.heap.size+1≤w2.heap.size:=by have:=hf2.size;omega
  have H2:Hid (At w2 w.heap.size t (sRest [32] l')):=h2
  clear h2 hf2 Hs Hf Ha
  cases ht:sTake [32] l'
  case false =>
   rw[sRest_no ht]at H2
   have Hx:Hid (sRecvs t=if decide (0<acc.length)&&l'.isEmpty then some acc else none):=by
    show _=_;rw[← Hl.out];conv=>lhs;unfold recL
    rw[ht];rfl
   by_cases h0:0<acc.length
   ·have h0':decide ((0:Int)<(acc.length:Int))=true:=decide_eq_true (by omega)
    go_wp2_with (go_at_call 81;refine (atEnd_any w.heap.size t l' _ (by exact H2.out)).mono ?_;rintro e w' ⟨rfl,n,rfl⟩)
    go_ret2
    refine ⟨Hf2.out.drewN _,_,acc,?_,(Hs2.out.frm (S:=[]) ((Frm.refl _ _).drewN _) (by simp)).base (by omega),?_⟩
    ·rw[Hx.out];cases l'<;>simp[h0]<;>rfl
    ·intro L' h;rw[Hx.out]at h;cases l'<;>simp_all
   ·have h0':decide ((0:Int)<(acc.length:Int))=false:=decide_eq_false (by omega)
    have Hx2:Hid (sRecvs t=none):=by show _=_;rw[Hx.out];simp[h0]
    go_wp2
    go_ret2
    refine ⟨Hf2.out,_,acc,?_,Hs2.out.base (by omega),?_⟩
    ·rw[Hx2.out];rfl
    ·intro L' h;rw[Hx2.out]at h;cases h
  case true =>
  generalize hl1:sRest [32] l'=l1 at *
  have Hst2:Hid (sRecvs t=(if !(isNameL (l1.takeWhile nmB))||decide (8≤acc.length) then none else recL m (acc++[l1.takeWhile nmB]) (l1.dropWhile nmB))):=by
   show _=_;rw[← Hl.out];conv=>lhs;unfold recL
   rw[if_pos ht,hl1]
  clear hl1 Hl ht
  go_wp2_with fail
  refine (takeName_any w.heap.size t l1 _ H2.out).mono ?_
  rintro e w3 ⟨rfl,h3,hf3⟩
  have H3:Hid (At w3 w.heap.size t (l1.dropWhile nmB)):=h3
  have Hf3:Hid (Frm [] w w3):=Hf2.out.new hf3 (by simp)
  have Hs3:Hid (SL (w.heap.size+1) w3 (.slice (some ⟨g,0,none⟩) acc.length cap) acc):=Hs2.out.frm hf3 (by simp)
  have hz3:w.heap.size+1≤w3.heap.size:=by have:=hf3.size;omega
  clear h3 hf3 Hs2 Hf2 H2
  cases hn:isNameL (l1.takeWhile nmB)
  ·have Hx:Hid (sRecvs t=none):=by
    show _=_;rw[Hst2.out,hn];rfl
   go_wp2
   go_ret2
   refine ⟨Hf3.out,_,[],?_,SL.nil _ _,?_⟩
   ·rw[Hx.out];rfl
   ·intro L' h;rw[Hx.out]at h;cases h
  ·by_cases h4:8≤acc.length
   ·have Hx:Hid (sRecvs t=none):=by
     show _=_;rw[Hst2.out,hn];simp[h4]
    go_wp2
    go_ret2
    refine ⟨Hf3.out,_,[],?_,SL.nil _ _,?_⟩
    ·rw[Hx.out];rfl
    ·intro L' h;rw[Hx.out]at h;cases h
   ·have Hx:Hid (recL m (acc++[l1.takeWhile nmB]) (l1.dropWhile nmB)=sRecvs t):=by
     show _=_;rw[Hst2.out,hn];simp[h4]
    go_wp2_with (first | (at_builtin;refine wp_appS _ rfl _ _ rfl (w.heap.size+1) (.slice (some ⟨g,0,none⟩) acc.length cap) acc (l1.takeWhile nmB) w3.heap.size rfl (Hs3.out.frm (S:=[]) ((Frm.refl _ _).alloc _) (by simp)) rfl (by simp) (by omega) (by simp;omega) ?_;intro g2 cap2 w4 hs2 hg2 hb2))
    go_roundg m
    case measure=>omega
    case rel =>
     refine ⟨acc++[l1.takeWhile nmB],_,g2,cap2,by simp;omega,by simp;omega,by simp,hb2,by simpa using hs2,Hx.out,?_,?_,?_⟩
     ·refine At.frm (S:=[g]) (H3.out.frm (S:=[]) ((Frm.refl _ _).alloc _) (by simp)) (Frm.of_grown hg2) (by simp;omega)
     ·exact (Hf3.out.alloc _).grown hg2 (fun k hk=>by simp[Value.ownBlock]at hk;omega)
     ·have:=hg2.size;simp at this;omega
end Go.Proofs.YtjkialjoamgbgaaGreat
