import Derived.Test.YtpcbbbilmpobaaaGreatDoorJ41
import Derived.Test.YtpcbbbilmpobaaaGreatDoorJ38
set_option linter.unusedVariables false
set_option linter.unusedSimpArgs false
set_option linter.unnecessarySimpa false
set_option maxRecDepth 100000
set_option maxHeartbeats 4000000
namespace Go.Proofs.YtpcbbbilmpobaaaGreatDoor
open Go.RowKit
def QL(base:Nat)(w:World)(v:Value)(L:List Bool):Prop:=w.ownsRow base 4 1 v L.length (L.map fun b=>.bool b)
theorem map_take_succB(St:List (List Nat))(f:List Nat→Bool)(j:Nat)(u:List Nat)(h:St[j]?=some u):(St.take (j+1)).map f=(St.take j).map f++[f u]:=by
 rw[List.take_add_one,h,List.map_append];rfl
theorem aut_end{X:NF}{F:List Nat}{k i:Nat}{St:List (List Nat)}{nx:List Nat}{R:Bool × List (List Nat) × List Nat}(h:autW X F k i St nx=R)(hi:St.length≤i):R=(true,St,nx):=by
 rw[← h];cases k with
 | zero=>rfl
 | succ k=>rw[autW,List.getElem?_eq_none hi]
def AutP(w:World)(e:RX)(F CL:List Nat)(en:Ending)(w':World):Prop :=
 Frm [] w w'∧((autR (nrm e) F).1=false→en=.returned (.tuple #[.agg Tryz.zeroCells95, .bool false])) ∧
 ((autR (nrm e) F).1=true→∃ va vn,en=.returned (.tuple #[.agg (.int .i64 F.length::(nv .u8 CL++[va,vn])).toArray, .bool true])∧QL w.heap.size w' va ((autR (nrm e) F).2.1.map fun u=>nul (dW (nrm e) u))∧IL w.heap.size w' vn (autR (nrm e) F).2.2)
theorem AQ.start{X:NF}{w2 w4:World}{ab:Nat}{U:List NF}{n:Int}{CL:List Nat}{vb r0:Nat}{D:List NF}(hst:ST (w2.heap.size+1) w4 w2.heap.size vb D 0 0 U [])(hr:D[r0]?=some X)(hA:AB w4 ab n CL (.slice none 0 0) (.slice none 0 0))(hf:Frm [ab] w2 w4)(hab:ab<w2.heap.size)(hz:w2.heap.size+1≤w4.heap.size) :
 AQ X w2 (w4.alloc (Obj.cells #[.int .i64 r0] 3)) ab w2.heap.size U n CL (.slice (some ⟨w4.heap.size,0,none⟩) 1 1) (.slice none 0 0) [r0] [[]] [] vb D 0 0:=by
 have F:=(Frm.refl [] w4).alloc (Obj.cells #[.int .i64 r0] 3);refine ⟨?_,?_,?_,World.ownsRow_nil _ _ _ _,by simp[Value.ownBlock],hA.frm F (by simp),rfl,hf.above F (by simp),rfl,hab⟩
 ·have:=hst.more F (Z2:=[w4.heap.size]) (fun k hk=>by simp at hk;subst hk;simp)
  simpa[Value.ownBlock] using this
 ·intro j u hj
  cases j with
  | zero=>simp at hj;subst hj;exact ⟨r0,rfl,hr⟩
  | succ j=>simp at hj
 ·exact own_mono (base:=w4.heap.size) (World.ownsRow_lit _ #[.int .i64 r0] 1 (Nat.le_refl _) (by unfold maxLen;omega) (by simp)) hz
theorem row_drop(X:NF)(w:List Nat)(F:List Nat)(j c:Nat)(St:List (List Nat))(nx:List Nat)(hj:F[j]?=some c):rowW X w (F.drop j) St nx=if idW X St (w++[c])=40 then (false,St,nx) else rowW X w (F.drop (j+1)) (if idW X St (w++[c])=St.length then St++[w++[c]] else St) (nx++[idW X St (w++[c])]):=by
 have hl:=(List.getElem?_eq_some_iff.1 hj).1;have he:=(List.getElem?_eq_some_iff.1 hj).2;rw[List.drop_eq_getElem_cons hl,he,rowW]
structure OutQ(e:RX)(F:List Nat)(wB wr:World)(ab:Nat)(CL:List Nat)(vs:Value)(i k:Nat)(I:List Nat)(St:List (List Nat))(nx:List Nat)(vn:Value)(vb:Nat)(D:List NF)(c:Nat):Prop where
 aq:AQ (nrm e) wB wr ab wB.heap.size (autU e F) F.length CL vs vn I St nx vb D nx.length c
 go:autW (nrm e) F k i St nx=autR (nrm e) F
 wb:WB St
 le:nx.length≤i*F.length
 il:i≤St.length
structure InQ(e:RX)(F:List Nat)(wB wr:World)(ab:Nat)(CL:List Nat)(vs:Value)(i j:Nat)(w:List Nat)(RW:Bool × List (List Nat) × List Nat)(I:List Nat)(St:List (List Nat))(nx:List Nat)(vn:Value)(vb:Nat)(D:List NF)(c:Nat):Prop where
 aq:AQ (nrm e) wB wr ab wB.heap.size (autU e F) F.length CL vs vn I St nx vb D nx.length c
 go:rowW (nrm e) w (F.drop j) St nx=RW
 wb:WB St
 le:nx.length≤i*F.length+j
 il:St[i]?=some w
theorem out_row{X:NF}{F w:List Nat}{k i:Nat}{St:List (List Nat)}{nx:List Nat}{R:Bool × List (List Nat) × List Nat}(h:autW X F (k+1) i St nx=R)(hi:St[i]?=some w) :
 R=(match rowW X w F St nx with | (false,r)=>(false,r)|(true,St',nx')=>autW X F k (i+1) St' nx'):=by
 rw[← h,autW,hi]
 rfl
theorem out_pre{X:NF}{F w:List Nat}{k i:Nat}{St:List (List Nat)}{nx:List Nat}{R:Bool × List (List Nat) × List Nat}(h:autW X F (k+1) i St nx=R)(hi:St[i]?=some w):(rowW X w F St nx).2.1 <+: R.2.1:=by
 have e:=out_row h hi;rw[e]
 split
 ·rename_i r hr;rw[hr];exact List.prefix_refl _
 ·rename_i St' nx' hr;rw[hr];exact autW_pre X F k (i+1) St' nx'
theorem automatonOf_any(A:Nat→Prop)(base:Nat)(w:World)(eb:Nat)(e:RX)(vS:Value)(S F CL:List Nat)(hx:XR A w eb e)(hs:BL base w vS S)(hS:S.length≤1000)(hF:fstK S 256=F)(hCL:clsL S 256=CL)(ho:okx e)(hd:digx e)(hp:plcG e≤40)(ht:tlx e≤40)(hn:nds e≤200) :
 Calls Tryz.prog 105 #[.pointer (some ⟨eb,0,none⟩),vS] w (AutP w e F CL):=by
 obtain ⟨asl,caps,rfl⟩:=own_shape hs;have HX:=hide hx;have HBS:=hide hs;have HF:=hide hF;have HCL:=hide hCL;clear hx hs hF hCL;have hall:Tryz.zeroCells95.all (·.oneCell')=true:=autoAll;have hsto:=run_storeCells_new (P:=Tryz.prog) (w.alloc (Obj.cells Tryz.zeroCells95 95)) 95 Tryz.zeroCells95 Tryz.zeroCells95 (by rw[autoZero9];exact autoInfoX) rfl hall;have hw1:(w.alloc (Obj.cells Tryz.zeroCells95 95)).heap.size=w.heap.size+1:=by simp
 rw[hw1]at hsto;clear hall hw1;go_enter Tryz.func105,Tryz.ntmps105
 go_wp2_with fail
 have F1:Frm [] w ((w.alloc (Obj.cells Tryz.zeroCells95 95)).alloc (Obj.cells Tryz.zeroCells95 95)):=((Frm.refl _ _).alloc _).alloc _;have hA1:AB ((w.alloc (Obj.cells Tryz.zeroCells95 95)).alloc (Obj.cells Tryz.zeroCells95 95)) (w.heap.size+1) 0 (List.replicate 256 0) (.slice none 0 0) (.slice none 0 0):=by
  have:=AB.new (w.alloc (Obj.cells Tryz.zeroCells95 95));have hw1:(w.alloc (Obj.cells Tryz.zeroCells95 95)).heap.size=w.heap.size+1:=by simp
  rw[hw1]at this;exact this
 have hR1:((w.alloc (Obj.cells Tryz.zeroCells95 95)).alloc (Obj.cells Tryz.zeroCells95 95)).heap[w.heap.size]?=some (.cells Tryz.zeroCells95 95 (0,0)):=by
  rw[((Frm.refl [] _).alloc _).block w.heap.size (by simp) (by simp)];exact heap1 _ _
 have hz1:((w.alloc (Obj.cells Tryz.zeroCells95 95)).alloc (Obj.cells Tryz.zeroCells95 95)).heap.size=w.heap.size+2:=by simp
 generalize (w.alloc (Obj.cells Tryz.zeroCells95 95)).alloc (Obj.cells Tryz.zeroCells95 95)=w1 at F1 hA1 hR1 hz1 ⊢;have HF1:=hide F1;have HR1:=hide hR1;have hSB:=sortBytes_any base (w.heap.size+1) (.slice asl S.length caps) S F CL (.slice none 0 0) (.slice none 0 0) w1 HF.out HCL.out (own_frm HBS.out F1 (by simp)) hA1 hS (fun e=>by have:=(HBS.out.lt _ e).2;omega);clear F1 hR1 hA1 hsto;refine hSB.mono ?_;rintro en w2 ⟨vf,rfl,hul,hab2,hf2⟩;obtain ⟨af,capf,rfl⟩:=own_shape hul;have z2:=hf2.size;have UF:=hide hul;obtain ⟨a2f,c2f,e2f,hNf⟩:=row_nl hul;simp only[Value.slice.injEq,true_and]at e2f;obtain ⟨rfl,rfl⟩:=e2f;have NFF:=hide hNf;clear hNf;have A2:=hide hab2;have F2:=hide hf2;clear hul hab2 hf2 hSB;go_wp2_with fail
 refine (newForms_any w2).mono ?_;rintro en w3 ⟨va,rfl,hft,hfl,hf3⟩;have z3:=hf3.size;have hft3:=hft.lt;obtain ⟨vb0,hst0⟩:=ST.start (c:=0) (U:=autU e F) hft hfl (by omega) autU_two (autU_len ho hd hp ht hn (by have:=fstK_le S 256;rw[HF.out]at this;omega));have KX:KeepX A w w3:=by
  intro k _ ⟨cu,fz,hk⟩;have hlt:k<w.heap.size:=by rcases hk with e|e<;>exact (Array.getElem?_eq_some_iff.1 e).1
  rw[hf3.block k (by omega) (by simp),F2.out.block k (by omega) (by simp;omega),HF1.out.block k hlt (by simp)]
 have NM:=hide (normal_any e A (w2.heap.size+1) w3 w2.heap.size vb0 [.zero, .one] 0 0 (autU e F) [] eb hst0 (HX.out.keep KX) (mkd_ok ho hd hp (by omega) autU_mkd) hd ho);have S0:=hide hst0;have F3:=hide hf3;clear hft hfl hf3 hst0 KX;go_wp2_with fail
 refine (NM.out).mono ?_;rintro en w4 ⟨vb1,R,r0,rfl,hst4,hr4,hq4⟩;have z4:=hq4.fr.size;have A4:AB w4 (w.heap.size+1) F.length CL (.slice none 0 0) (.slice none 0 0):=(A2.out.frm F3.out (by simp)).frm hq4.fr (by have:=S0.out.tbl.2.2.2.2.2;simp;omega);have F4:Frm [w.heap.size+1] w2 w4:=(F3.out.nil).above hq4.fr (by have:=S0.out.tbl.2.2.2.2.2;simp;omega);have Q5:=hide (AQ.start hst4 hr4 A4 F4 (by omega) (by omega));have hFl:F.length≤256:=by have:=fstK_le S 256;rw[HF.out]at this;exact this.1
 have HFb:Hid (∀ f∈F,f<256):=by have:=fstK_le S 256;rw[HF.out]at this;exact this.2
 clear hst4 hr4 hq4 A4 F4 NM S0;go_wp2_with fail
 go_loopg [10,11] 41 (fun k v10 v11 wr=>∃ (i:Nat) (I:List Nat) (St:List (List Nat)) (nx:List Nat) (vn:Value) (vb:Nat) (D:List NF) (c:Nat),i+k=41∧v11=.int .i64 i∧OutQ e F w2 wr (w.heap.size+1) CL v10 i k I St nx vn vb D c)
 case atStart=>exact ⟨0,[r0],[[]],[], .slice none 0 0,vb1,_,0,by omega,rfl,⟨Q5.out,rfl,WB.one,by simp,by simp⟩⟩
 case round =>
  clear Q5;obtain ⟨i,I,St,nx,vn,vb,D,c,hik,rfl,hq⟩:=hrel;obtain ⟨wo,hwo⟩:∃ wo,wo=wr:=⟨_,rfl⟩;subst hwo;obtain ⟨go,hgo⟩:∃ go,go=gk:=⟨_,rfl⟩;subst hgo;obtain ⟨ast,cst,rfl⟩:=own_shape hq.aq.il;have Q:=hide hq;have hln:=hq.aq.ln;have HLN:=hide hln;have hwb:=hq.wb.1;have hnx:=hq.le;have hIl:I.length≤40:=by omega
  clear hq hln
  by_cases hlt:i<I.length
  ·obtain ⟨g1,hg1⟩:∃ g1,go=g1+1:=⟨go-1,by omega⟩
   subst hg1;obtain ⟨u,hu⟩:∃ u,St[i]?=some u:=⟨St[i]'(by have:=HLN.out;omega),List.getElem?_eq_getElem (by have:=HLN.out;omega)⟩;have HRO:=hide (out_row Q.out.go hu);have PRE:=hide (out_pre Q.out.go hu);have HMEM:Hid (u∈(autR (nrm e) F).2.1):=List.mem_of_getElem? (pre_get PRE.out (pre_get (rowW_pre (nrm e) u F St nx) hu));have IN0:Hid (InQ e F w2 wo (w.heap.size+1) CL (.slice ast I.length cst) i 0 u (rowW (nrm e) u F St nx) I St nx vn vb D c):=⟨Q.out.aq,rfl,Q.out.wb,by have:=Q.out.le;omega,hu⟩;generalize rowW (nrm e) u F St nx=RW at *;clear hu Q hIl;go_wp2_with fail
   go_loopg [10,35] F.length (fun k v10 v35 wr=>∃ (j:Nat) (I:List Nat) (St:List (List Nat)) (nx:List Nat) (vn:Value) (vb:Nat) (D:List NF) (c:Nat),j+k=F.length∧v35=.int .i64 j∧InQ e F w2 wr (w.heap.size+1) CL v10 i j u RW I St nx vn vb D c)
   case atStart=>exact ⟨0,I,St,nx,vn,vb,D,c,by omega,rfl,IN0.out⟩
   case round =>
    clear IN0;obtain ⟨j,I2,St2,nx2,vn2,vb2,D2,c2,hjk,rfl,hq2⟩:=hrel;obtain ⟨as2,cs2,rfl⟩:=own_shape hq2.aq.il;obtain ⟨an2,cn2,rfl⟩:=own_shape hq2.aq.nl;have Q2:=hide hq2;have hln2:=hq2.aq.ln;have HLN2:=hide hln2;have hwb2:=hq2.wb.1;have hnx2:=hq2.le;have hil2:=(List.getElem?_eq_some_iff.1 hq2.il).1;have zr:=hq2.aq.fr.size;have hI2:i<I2.length:=by omega
    have hI40:I2.length≤40:=by omega
    clear hq2 hln2;have hfm:i*F.length≤40*256:=Nat.mul_le_mul (by omega) hFl
    by_cases hlt2:j<F.length
    ·have hFj:F[j]?=some F[j]:=List.getElem?_eq_getElem hlt2
     obtain ⟨gf,of,rfl,hgl,hcf⟩:=NFF.out j hlt2;have hgf:=(UF.out.lt _ rfl).1;simp only at hgf;have hc1:wr.cell? ⟨gf,of+j,none⟩=some (.int .u8 (F[j]:Nat)):=(Q2.out.aq.fr.cell (p:=⟨gf,of+j,none⟩) hgl (by simp;omega)).trans hcf;have hcm:F[j]∈F:=List.getElem_mem hlt2;have hc256:=HFb.out _ hcm;obtain ⟨q,hIq,hDq⟩:=Q2.out.aq.mp i u Q2.out.il;obtain ⟨gs,rfl⟩:∃ g,as2=some ⟨g,0,none⟩:=by
      rcases Q2.out.aq.il.2 with ⟨e1,h1⟩|⟨g,c,cur,e1,_⟩
      ·omega
      ·simp at e1;exact ⟨g,e1.1⟩
     have hcs:wr.cell? ⟨gs,i,none⟩=some (.int .i64 (q:Nat)):=by
      have:=Q2.out.aq.il.cell i hI2;rw[List.getElem?_eq_getElem hI2]at hIq;simp only[Option.some.injEq]at hIq;rw[hIq]at this;exact this
     have RD:=hide (row_drop (nrm e) u F j F[j] St2 nx2 hFj);have LB:=hide (leftBehind_any (w2.heap.size+1) wr w2.heap.size vb2 D2 nx2.length F[j] c2 (autU e F) _ q (dW (nrm e) u) Q2.out.aq.st hDq (autU_need ho hp ht HMEM.out hcm) hc256 (by omega));have hsn:Hid (left F[j] (dW (nrm e) u)=dW (nrm e) (u++[F[j]])):=(dW_snoc _ _ _).symm;rw[hsn.out]at LB;clear hcf hFj hIq hDq hcm hsn;generalize F[j]=cc at *;have hI2z:(i:Int)<I2.length:=by omega
     go_wp2_with fail
     refine (LB.out).mono ?_;rintro en w5 ⟨vb5,R5,r5,rfl,hst5,hr5,hq5⟩;have A5:=hide (Q2.out.aq.turn hst5 hq5);have HR5:=hide hr5;have hfind:=A5.out.find hr5;have FI:=xfind_any (.slice (some ⟨gs,0,none⟩) I2.length cs2) I2 r5 w5 (row_nl A5.out.il) (by omega);rw[hfind]at FI;have FI2:=hide FI;have hidl:=idW_le (nrm e) St2 (u++[cc]);have z5:=hq5.fr.size;clear hst5 hr5 hq5 hfind FI LB hc1 hcs;have RD2:Hid (RW=if idW (nrm e) St2 (u++[cc])=40 then (false,St2,nx2) else rowW (nrm e) u (F.drop (j+1)) (if idW (nrm e) St2 (u++[cc])=St2.length then St2++[u++[cc]] else St2) (nx2++[idW (nrm e) St2 (u++[cc])])):=by
      show _=_;rw[← Q2.out.go];exact RD.out
     clear RD;generalize idW (nrm e) St2 (u++[cc])=nn at *;go_wp2_with fail
     refine (FI2.out).mono ?_;rintro en w5' ⟨rfl,rfl⟩
     by_cases h40:nn=40
     ·have HAR:Hid (autR (nrm e) F=(false,St2,nx2)):=by show _=_;rw[HRO.out,RD2.out,if_pos h40]
      have hrb:w5.heap[w.heap.size]?=some (.cells Tryz.zeroCells95 95 (0,0)):=by
       rw[A5.out.fr.block w.heap.size (by omega) (by simp),F2.out.block w.heap.size (by omega) (by simp)];exact HR1.out
      have hst:=store_row hrb rfl autoAll;have HRB:=hide (setRow_at (cs:=Tryz.zeroCells95) hrb);have FF:Hid (Frm [] w (w5.setRow w.heap.size Tryz.zeroCells95)):=(HF1.out.above ((F2.out.above A5.out.fr (by simp))) (by intro x hx;simp at hx;omega)).above (Frm.setRow _ _ _) (by simp);subst h40;clear hrb;go_wp2
      (try simp only[Exit.inBlock,Exit.then])
      refine bodyPost_ret (results_cell_tmpA rfl _ _ w.heap.size _ rfl (autoLoad HRB.out autoZero9)) rfl ?_;refine ⟨FF.out,fun _=>rfl,fun h=>?_⟩;rw[HAR.out]at h;simp at h
     ·have hb40:((nn:Int)==40)=false:=by rw[beq_eq_false_iff_ne];omega
      have RD3:Hid (RW=rowW (nrm e) u (F.drop (j+1)) (if nn=St2.length then St2++[u++[cc]] else St2) (nx2++[nn])):=by
       show _=_;rw[RD2.out,if_neg h40]
      clear RD2 FI2;have hcN:=A5.out.au.cN.2
      by_cases hnl:nn=St2.length
      ·have hnI:nn=I2.length:=by have:=HLN2.out;omega
       subst hnI;have RD4:Hid (rowW (nrm e) u (F.drop (j+1)) (St2++[u++[cc]]) (nx2++[I2.length])=RW):=by
        show _=_;rw[RD3.out,if_pos hnl]
       have WB4:=hide (Q2.out.wb.add (c:=cc) Q2.out.il (by omega));have IL4:Hid ((St2++[u++[cc]])[i]?=some u):=pre_get (List.prefix_append _ _) Q2.out.il;clear RD3 hnl;go_wp2_with (first | (at_builtin;refine wp_appI _ rfl _ _ rfl (w2.heap.size+1) (.slice (some ⟨gs,0,none⟩) I2.length cs2) I2 r5 w5.heap.size rfl (A5.out.il.alloc _) rfl (cell_newX _ _ _ _ rfl) (by omega) (by simp;omega) ?_;intro gg cap2 w6 hown hgrow hat hgl6;have A6:=hide (A5.out.addS HR5.out hown hgrow hat hgl6);have hcN6:=A6.out.au.cN.2;have zz6:=A6.out.fr.size;clear hown hgrow hat)|(at_builtin;refine wp_appI _ rfl _ _ rfl (w2.heap.size+1) (.slice an2 nx2.length cn2) nx2 I2.length w6.heap.size rfl (A6.out.nl.alloc _) rfl (cell_newX _ _ _ _ rfl) (by omega) (by simp;omega) ?_;intro g7 cap7 w7 hown hgrow hat hgl7;have A7:=hide (A6.out.addN hown hgrow hat hgl7);have AB7:=(A6.out.keep ((Frm.refl [] w6).alloc _)).au.frm (Frm.of_grow hgrow) (fun hm=>by rw[Option.mem_toList]at hm;have:=(A6.out.nl.lt _ hm).1;omega);have hc7:=AB7.cN.2;have hz7:=AB7.fz 258;clear hown hgrow hat AB7))
       go_roundg (gk-1)
       case measure=>omega
       case rel=>exact ⟨j+1,_,_,_,_,vb5,_,cc,by omega,by go_num,⟨by simpa using A7.out,RD4.out,WB4.out,by simp;omega,IL4.out⟩⟩
      ·have hnI:nn≠I2.length:=by have:=HLN2.out;omega
       have hbI:=beqF hnI;have RD4:Hid (rowW (nrm e) u (F.drop (j+1)) St2 (nx2++[nn])=RW):=by
        show _=_;rw[RD3.out,if_neg hnl]
       clear RD3 hnl;go_wp2_with (first | (at_builtin;refine wp_appI _ rfl _ _ rfl (w2.heap.size+1) (.slice an2 nx2.length cn2) nx2 nn w5.heap.size rfl (A5.out.nl.alloc _) rfl (cell_newX _ _ _ _ rfl) (by omega) (by simp;omega) ?_;intro g7 cap7 w7 hown hgrow hat hgl7;have A7:=hide (A5.out.addN hown hgrow hat hgl7);have AB7:=(A5.out.keep ((Frm.refl [] w5).alloc _)).au.frm (Frm.of_grow hgrow) (fun hm=>by rw[Option.mem_toList]at hm;have:=(A5.out.nl.lt _ hm).1;omega);have hc7:=AB7.cN.2;have hz7:=AB7.fz 258;clear hown hgrow hat AB7))
       go_roundg (gk-1)
       case measure=>omega
       case rel=>exact ⟨j+1,_,_,_,_,vb5,_,cc,by omega,by go_num,⟨by simpa using A7.out,RD4.out,Q2.out.wb,by simp;omega,Q2.out.il⟩⟩
    ·have hjl:j=F.length:=by omega
     have HRW:RW=(true,St2,nx2):=by rw[← Q2.out.go,hjl,List.drop_length];rfl
     have HGO:Hid (autW (nrm e) F g1 (i+1) St2 nx2=autR (nrm e) F):=by
      show _=_;have:=HRO.out;rw[HRW]at this;exact this.symm
     have hle:nx2.length≤(i+1)*F.length:=by rw[Nat.add_mul];omega
     clear HRW;go_wp2;go_roundg g1
     case measure=>omega
     case rel=>exact ⟨i+1,I2,St2,nx2,_,vb2,D2,c2,by omega,by go_num,⟨Q2.out.aq,HGO.out,Q2.out.wb,hle,by omega⟩⟩
  ·have HAR:Hid (autR (nrm e) F=(true,St,nx)):=aut_end Q.out.go (by have:=HLN.out;omega)
   have hA0:=Q.out.aq.au;have hFw:Frm [w.heap.size+1] w2 wo:=Q.out.aq.fr;have hrb:wo.heap[w.heap.size]?=some (.cells Tryz.zeroCells95 95 (0,0)):=by
    rw[hFw.block w.heap.size (by omega) (by simp),F2.out.block w.heap.size (by omega) (by simp)];exact HR1.out
   have HA0:=hide hA0;have HRB:=hide hrb;have zo:=hFw.size;have hilt:=(own_lt Q.out.aq.il);clear hA0 hrb hFw;obtain ⟨an,cn,rfl⟩:=own_shape Q.out.aq.nl;have hls:=Q.out.aq.st.tbl.2.2.2.2.2;go_wp2_with fail
   go_loopg [69] I.length (fun k v69 wr=>∃ (j:Nat) (va:Value),j+k=I.length∧v69=.int .i64 j∧QL wo.heap.size wr va ((St.take j).map fun u=>nul (dW (nrm e) u))∧AB wr (w.heap.size+1) F.length CL va (.slice an nx.length cn)∧Frm [w.heap.size+1] wo wr)
   case atStart=>exact ⟨0, .slice none 0 0,by omega,rfl,World.ownsRow_nil _ _ _ _,HA0.out,Frm.refl _ _⟩
   case round =>
    obtain ⟨j,va,hjk,rfl,hql,hab,hfr⟩:=hrel;obtain ⟨aa,ca,rfl⟩:=own_shape hql;have QL1:=hide hql;have AB1:=hide hab;have FR1:=hide hfr;have z1:=hfr.size;have hablt:=hab.lt;clear hql hab hfr
    by_cases hlt3:j<I.length
    ·obtain ⟨u,hu⟩:∃ u,St[j]?=some u:=⟨St[j]'(by have:=HLN.out;omega),List.getElem?_eq_getElem (by have:=HLN.out;omega)⟩
     obtain ⟨q,hIq,hDq⟩:=Q.out.aq.mp j u hu;obtain ⟨gs,rfl⟩:∃ g,ast=some ⟨g,0,none⟩:=by
      rcases Q.out.aq.il.2 with ⟨e1,h1⟩|⟨g,c,cur,e1,_⟩
      ·omega
      ·simp at e1;exact ⟨g,e1.1⟩
     have hgs:=Q.out.aq.il.lt gs rfl;have hcs:wr.cell? ⟨gs,j,none⟩=some (.int .i64 (q:Nat)):=by
      have:=Q.out.aq.il.cell j hlt3;rw[List.getElem?_eq_getElem hlt3]at hIq;simp only[Option.some.injEq]at hIq;rw[hIq]at this;rw[FR1.out.cell (p:=⟨gs,j,none⟩) hgs.2 (by simp;omega)];exact this
     have hstr:=Q.out.aq.st.frm FR1.out (by simp;omega) (by simp;omega) HA0.out.noInt;obtain ⟨f,L2,cap2,K⟩:=hstr.look hDq;have t0:=K.tab;have k8:=K.get.2.2.2.2.2.2.2.2.1;have hqlt:=K.lt;rw[K.te]at k8;have hcA:=AB1.out.cN.1;have hzA:=AB1.out.fz 257;have MT:=hide (map_take_succB St (fun u=>nul (dW (nrm e) u)) j u hu);have hq2:(q:Int)<D.length:=by omega
     have hSl:((St.take j).map fun u=>nul (dW (nrm e) u)).length≤40:=by simp;omega
     clear K hstr hIq hDq hu;generalize nul (dW (nrm e) u)=bb at *;generalize ((St.take j).map fun u=>nul (dW (nrm e) u))=LB at *;obtain ⟨i9,hi9,hza,hzb,hzc⟩:=info_parts infoBool;have QLr:Hid (wr.ownsRow wo.heap.size 4 1 (.slice aa LB.length ca) LB.length (LB.map fun b=>.bool b)):=QL1.out;have hne:Value.ownBlock (.slice aa LB.length ca)≠some (w.heap.size+1):=fun e=>by have:=(QL1.out.lt _ e).1;omega
     have g2:∀ o:Obj,(wr.alloc o).drew.frozen? ⟨w.heap.size+1,257,none⟩=false:=fun o=>((((Frm.refl [] wr).alloc o).drew).frozen hablt (by simp)).trans hzA
     go_wp2_with fail
     go_region_law ((refine step_append_lies _ (by rfl) _ _ _ (by rfl) wo.heap.size 4 i9 _ 1 1 Tryz.underlying92 hi9 hza hzb hzc rfl (by omega) (.slice aa LB.length ca) LB.length (LB.map fun b=>.bool b) (by rfl) (by exact QLr.out.alloc _) ⟨wr.heap.size,0,none⟩ 1 1 [.bool bb] (by rfl) (by rfl) (World.news_of_block (cs:=#[.bool bb]) (t:=4) (fr:=(0,0)) (by exact heap1 _ _)) (by simp[Value.oneCell']) (by omega) (by unfold maxLen;omega) (by omega) (by simp;omega) (wr.heap.size+1) (by simp) ?_;intro gg cap4 w4 hown4 hgrow hat hlt4;have c4:=(hgrow.cell_far ⟨w.heap.size+1,257,none⟩ (by simp;omega) (Ne.symm hne));have f4:=(hgrow.frozen_far ⟨w.heap.size+1,257,none⟩ (by simp;omega) (Ne.symm hne));have f5:=f4.trans (g2 _)))
     all_goals
      have F4:=Frm.of_grow hgrow;have AB4:=(AB1.out.frm (S:=[]) (((Frm.refl [] wr).alloc (Obj.cells #[.bool bb] 4)).drew) (by simp)).frm F4 (by simpa[Option.mem_toList] using fun e=>hne e);have AB5:=hide (AB4.setA (.slice (some ⟨gg,0,none⟩) (LB.length+1) cap4));have QL5:=hide (ownsRow_setCell_below hown4 (a:=⟨w.heap.size+1,257,none⟩) (by show w.heap.size+1<wo.heap.size;omega) (.slice (some ⟨gg,0,none⟩) (LB.length+1) cap4));have FR5:Hid (Frm [w.heap.size+1] wo (w4.setCell ⟨w.heap.size+1,257,none⟩ (.slice (some ⟨gg,0,none⟩) (LB.length+1) cap4))):=Frm.setCell (Frm.grown ((FR1.out.alloc _).drew) hgrow (fun k hk=>.inr (QL1.out.lt k hk).1)) (.inl (by simp)) _;clear F4 AB4 hown4 hgrow hat;go_wp2;go_roundg (gk-1)
      case measure=>omega
      case rel =>
       refine ⟨j+1,_,by omega,by go_num,?_,AB5.out,FR5.out⟩;rw[MT.out];unfold QL;simpa using QL5.out
    ·have hje:j=St.length:=by have:=HLN.out;omega
     have htk:((St.take j).map fun u=>nul (dW (nrm e) u))=St.map fun u=>nul (dW (nrm e) u):=by rw[hje,List.take_length]
     rw[htk]at QL1 AB1;have hrb2:wr.heap[w.heap.size]?=some (.cells Tryz.zeroCells95 95 (0,0)):=(FR1.out.block w.heap.size (by omega) (by simp)).trans HRB.out;have hsz:(Value.int .i64 F.length::(nv .u8 CL++[.slice aa (St.map fun u=>nul (dW (nrm e) u)).length ca, .slice an nx.length cn])).toArray.size=259:=by simp[nv,AB1.out.2]
     have HABc:=hide AB1.out.1;have hall:(Value.int .i64 F.length::(nv .u8 CL++[.slice aa (St.map fun u=>nul (dW (nrm e) u)).length ca, .slice an nx.length cn])).toArray.all (·.oneCell')=true:=by
      refine Array.all_eq_true_iff_forall_mem.2 fun v hv=>?_
      simp[nv]at hv;rcases hv with rfl|⟨a,_,rfl⟩|rfl|rfl<;>rfl
     have HALL:=hide hall;have HRB3:=hide hrb2;have HRB2:=hide (setRow_at (cs:=(Value.int .i64 F.length::(nv .u8 CL++[.slice aa (St.map fun u=>nul (dW (nrm e) u)).length ca, .slice an nx.length cn])).toArray) hrb2);have HSZ:=hide hsz;have FW:Hid (Frm [] w wr):=(HF1.out.above (F2.out.above (Q.out.aq.fr.above FR1.out (by simp)) (by simp)) (by intro x hx;simp at hx;omega));have NL1:Hid (∀ cs,IL w.heap.size (wr.setRow w.heap.size cs) (.slice an nx.length cn) nx):=fun cs=>own_mono (row_frm (row_frm Q.out.aq.nl FR1.out (fun k hk=>by have:=(Q.out.aq.nl.lt k hk).1;simp;omega)) (Frm.setRow _ _ cs) (fun k hk=>by have:=(Q.out.aq.nl.lt k hk).1;simp;omega)) (by omega)
     have QLf:Hid (∀ cs,QL w.heap.size (wr.setRow w.heap.size cs) (.slice aa (St.map fun u=>nul (dW (nrm e) u)).length ca) (St.map fun u=>nul (dW (nrm e) u))):=fun cs=>own_mono (row_frm QL1.out (Frm.setRow _ _ cs) (fun k hk=>by have:=(QL1.out.lt k hk).1;simp;omega)) (by omega)
     generalize hcs:(Value.int .i64 F.length::(nv .u8 CL++[.slice aa (St.map fun u=>nul (dW (nrm e) u)).length ca, .slice an nx.length cn])).toArray=cs at HABc HALL HRB2 HSZ;have HCS:=hide hcs;have HSTO:=hide (store_row HRB3.out (by rw[HSZ.out,autoZero9]) HALL.out);clear hall hrb2 hsz hje htk hcs;go_wp2_with fail
     refine wp_autoLoad (.tmp 6) rfl (w.heap.size+1) rfl cs (autoLoad HABc.out HSZ.out) ?_;have hsz:=HSZ.out;have hsto:=HSTO.out;go_wp2
     (try simp only[Exit.inBlock,Exit.then])
     refine bodyPost_ret (results_cell_tmpA rfl _ _ w.heap.size _ rfl (autoLoad HRB2.out HSZ.out)) rfl ?_;refine ⟨FW.out.above (Frm.setRow _ _ _) (by simp),fun h=>?_,fun _=>?_⟩
     ·rw[HAR.out]at h;simp at h
     ·refine ⟨.slice aa (St.map fun u=>nul (dW (nrm e) u)).length ca, .slice an nx.length cn,congrArg (fun z=>Ending.returned (.tuple #[.agg z, .bool true])) HCS.out.symm,?_,?_⟩
      ·rw[HAR.out];exact QLf.out _
      ·rw[HAR.out];exact NL1.out _
def fstE(e:RX):List Nat:=fstK (setsOf e) 256
def clsE(e:RX):List Nat:=clsL (setsOf e) 256
def autE(e:RX):Bool × List (List Nat) × List Nat:=autR (nrm e) (fstE e)
def reC(t:List UInt8):Nat :=
 match pWhole t with
 | none=>5
 | some e=>if 40<plcG e then 6 else if (autE e).1 then 0 else 7
def CompP(w:World)(t:List UInt8)(en:Ending)(w':World):Prop :=
 Frm [] w w'∧∃ cs:Array Value,cs.size=259∧cs.all (·.oneCell')=true∧en=.returned (.tuple #[.agg cs, .int .i64 (reC t)])∧(reC t≠0→cs=Tryz.zeroCells95) ∧
  (∀ e,pWhole t=some e→reC t=0→∃ va vn,cs=(Value.int .i64 (fstE e).length::(nv .u8 (clsE e)++[va,vn])).toArray∧QL w.heap.size w' va ((autE e).2.1.map fun u=>nul (dW (nrm e) u))∧IL w.heap.size w' vn (autE e).2.2)
theorem frm_of_fp{b:Nat}{w w':World}(h:FP w.heap.size b w w'):Frm [b] w w':=⟨h.os,h.tape,h.output,h.size,fun k hk hS=>h.block k hk (by simpa using hS) (.inl hk)⟩
theorem clsL_len(S:List Nat)(n:Nat):(clsL S n).length=n:=by simp[clsL]
theorem pWhole_sets{t:List UInt8}{x:RX}(h:pWhole t=some x):(setsOf x).length≤t.length:=by
 unfold pWhole at h
 split at h
 ·rename_i y hy
  simp at h;subst h;have:=(pAlt_sets hy).1;simp[setsL]at this;exact this
 ·simp at h
theorem AutP.ok{w w':World}{e:RX}{en:Ending}(h:AutP w e (fstE e) (clsE e) en w')(hk:(autE e).1=true):Frm [] w w'∧∃ va vn,en=.returned (.tuple #[.agg (.int .i64 (fstE e).length::(nv .u8 (clsE e)++[va,vn])).toArray, .bool true])∧QL w.heap.size w' va ((autE e).2.1.map fun u=>nul (dW (nrm e) u))∧IL w.heap.size w' vn (autE e).2.2:=by
 unfold autE at hk ⊢;exact ⟨h.1,h.2.2 hk⟩
theorem AutP.no{w w':World}{e:RX}{en:Ending}(h:AutP w e (fstE e) (clsE e) en w')(hk:(autE e).1=false):Frm [] w w'∧en=.returned (.tuple #[.agg Tryz.zeroCells95, .bool false]):=by
 unfold autE at hk;exact ⟨h.1,h.2.1 hk⟩
theorem xCompile_any(t:List UInt8)(w:World)(ht:t.length≤40):Calls Tryz.prog 93 #[.string (bs t)] w (CompP w t):=by
 go_enter Tryz.func93,Tryz.ntmps93
 go_wp2_with fail
 have F1:Frm [] w ((w.alloc (Obj.cells Tryz.zeroCells95 95)).alloc (Obj.cells #[.string (bs t), .int .i64 0, .slice none 0 0] 183)):=((Frm.refl _ _).alloc _).alloc _;have hz1:((w.alloc (Obj.cells Tryz.zeroCells95 95)).alloc (Obj.cells #[.string (bs t), .int .i64 0, .slice none 0 0] 183)).heap.size=w.heap.size+2:=by simp
 have hR1:((w.alloc (Obj.cells Tryz.zeroCells95 95)).alloc (Obj.cells #[.string (bs t), .int .i64 0, .slice none 0 0] 183)).heap[w.heap.size]?=some (.cells Tryz.zeroCells95 95 (0,0)):=by
  rw[((Frm.refl [] _).alloc _).block w.heap.size (by simp) (by simp)];exact heap1 _ _
 have hP1:PA ((w.alloc (Obj.cells Tryz.zeroCells95 95)).alloc (Obj.cells #[.string (bs t), .int .i64 0, .slice none 0 0] 183)) (w.heap.size+1) t t (.slice none 0 0):=by
  refine ⟨0,⟨?_,by omega,by omega⟩,rfl⟩;have:=heap1 (w.alloc (Obj.cells Tryz.zeroCells95 95)) (Obj.cells #[.string (bs t), .int .i64 0, .slice none 0 0] 183);have hw1:(w.alloc (Obj.cells Tryz.zeroCells95 95)).heap.size=w.heap.size+1:=by simp
  rw[hw1]at this;exact this
 generalize (w.alloc (Obj.cells Tryz.zeroCells95 95)).alloc (Obj.cells #[.string (bs t), .int .i64 0, .slice none 0 0] 183)=w1 at F1 hz1 hR1 hP1 ⊢;have HF1:=hide F1;have HR1:=hide hR1;have PR:=hide (parse_any w1.heap.size (w.heap.size+1) t w1 hP1 (by omega) (Nat.le_refl _) (by omega));clear F1 hR1 hP1;refine (PR.out).mono ?_;intro en w2 hwp;cases hpw:pWhole t with
 | none =>
   rw[hpw]at hwp;obtain ⟨rfl,hfp⟩:=hwp;have hrc:Hid (reC t=5):=by show _=_;simp[reC,hpw]
   have F2:=frm_of_fp hfp;have hrb:w2.heap[w.heap.size]?=some (.cells Tryz.zeroCells95 95 (0,0)):=(F2.block w.heap.size (by omega) (by simp)).trans HR1.out;have hst:=store_row hrb rfl autoAll;have HRB:=hide (setRow_at (cs:=Tryz.zeroCells95) hrb);have FF:Hid (Frm [] w (w2.setRow w.heap.size Tryz.zeroCells95)):=(HF1.out.above F2 (by intro x hx;simp at hx;omega)).above (Frm.setRow _ _ _) (by simp);have HPW:=hide hpw;obtain ⟨qp,hqp⟩:∃ q:Option Addr,q=none:=⟨_,rfl⟩;clear hrb hfp F2 hpw PR;go_wp2
   (try simp only[Exit.inBlock,Exit.then])
   refine bodyPost_ret (results_cell_tmpA rfl _ _ w.heap.size _ rfl (autoLoad HRB.out autoZero9)) rfl ?_;rw[show CompP w t=CompP w t from rfl];refine ⟨FF.out,_,autoZero9,autoAll,by rw[hrc.out];rfl,fun _=>rfl,fun e he=>?_⟩;rw[HPW.out]at he;simp at he
 | some e =>
   rw[hpw]at hwp;obtain ⟨eb,vs',rfl,hx,hpa,hbl,hfp⟩:=hwp;obtain ⟨hok,htl⟩:=pWhole_good hpw;have hdg:=pWhole_dig hpw;have hnd:=pWhole_nds hpw;have hse:=pWhole_sets hpw;have F2:=frm_of_fp hfp;have hrb:w2.heap[w.heap.size]?=some (.cells Tryz.zeroCells95 95 (0,0)):=(F2.block w.heap.size (by omega) (by simp)).trans HR1.out;have FF2:Hid (Frm [] w w2):=HF1.out.above F2 (by intro x hx;simp at hx;omega);have PL:=hide (places_any e _ w2 eb hx hdg (by omega));have HX:=hide hx;have HBL:=hide hbl;obtain ⟨ip,hps,_⟩:=hpa;have hc2:=hps.c2;have HRB:=hide hrb;have HPW:=hide hpw;have z2:=F2.size;obtain ⟨avs,cvs,rfl⟩:=own_shape hbl;clear hx hbl hps hfp F2 hpw PR hrb;go_wp2_with fail
   refine (PL.out).mono ?_;rintro en w2' ⟨rfl,rfl⟩
   by_cases hpl:40<plcG e
   ·have hrc:Hid (reC t=6):=by show _=_;simp[reC,HPW.out,hpl]
    have hst:=store_row HRB.out rfl autoAll;have HRB2:=hide (setRow_at (cs:=Tryz.zeroCells95) HRB.out);have FF:Hid (Frm [] w (w2.setRow w.heap.size Tryz.zeroCells95)):=FF2.out.above (Frm.setRow _ _ _) (by simp);clear PL;generalize plcG e=pn at *;go_wp2
    (try simp only[Exit.inBlock,Exit.then])
    refine bodyPost_ret (results_cell_tmpA rfl _ _ w.heap.size _ rfl (autoLoad HRB2.out autoZero9)) rfl ?_;refine ⟨FF.out,_,autoZero9,autoAll,by rw[hrc.out];rfl,fun _=>rfl,fun e he h0=>?_⟩;rw[hrc.out]at h0;simp at h0
   ·have AU:=hide (automatonOf_any _ w1.heap.size w2 eb e (.slice avs (setsOf e).length cvs) (setsOf e) (fstE e) (clsE e) HX.out HBL.out (by omega) rfl rfl hok hdg (by omega) (by omega) (by omega))
    have hpl2:plcG e≤40:=by omega
    clear PL;have HRC:Hid (reC t=if (autE e).1 then 0 else 7):=by show _=_;simp[reC,HPW.out,hpl]
    generalize plcG e=pn at *;go_wp2_with fail
    refine (AU.out).mono ?_;intro en w3 hau;cases hk:(autE e).1 with
    | false =>
      obtain ⟨hf3,rfl⟩:=hau.no hk;have hrc:Hid (reC t=7):=by show _=_;rw[HRC.out,hk];rfl
      have z3:=hf3.size;have hsn:=run_storeCells_new (P:=Tryz.prog) w3 95 Tryz.zeroCells95 Tryz.zeroCells95 (by rw[autoZero9];exact autoInfoX) rfl autoAll;have hrb3:(w3.alloc (Obj.cells Tryz.zeroCells95 95)).heap[w.heap.size]?=some (.cells Tryz.zeroCells95 95 (0,0)):=by
       rw[((Frm.refl [] w3).alloc _).block w.heap.size (by omega) (by simp),hf3.block w.heap.size (by omega) (by simp)];exact HRB.out
      have hst:=store_row hrb3 rfl autoAll;have HRB2:=hide (setRow_at (cs:=Tryz.zeroCells95) hrb3);have FF:Hid (Frm [] w ((w3.alloc (Obj.cells Tryz.zeroCells95 95)).setRow w.heap.size Tryz.zeroCells95)):=((FF2.out.above hf3 (by simp)).alloc _).above (Frm.setRow _ _ _) (by simp);clear AU hau hk hrb3 hc2;go_wp2
      (try simp only[Exit.inBlock,Exit.then])
      refine bodyPost_ret (results_cell_tmpA rfl _ _ w.heap.size _ rfl (autoLoad HRB2.out autoZero9)) rfl ?_;refine ⟨FF.out,_,autoZero9,autoAll,by rw[hrc.out];rfl,fun _=>rfl,fun e he h0=>?_⟩;rw[hrc.out]at h0;simp at h0
    | true =>
      obtain ⟨hf3,va,vn,rfl,hql,hnl⟩:=hau.ok hk;obtain ⟨aa,ca,rfl⟩:=own_shape hql;obtain ⟨an,cn,rfl⟩:=own_shape hnl;have hrc:Hid (reC t=0):=by show _=_;rw[HRC.out,hk];rfl
      have z3:=hf3.size;have hsz:(Value.int .i64 (fstE e).length::(nv .u8 (clsE e)++[.slice aa ((autE e).2.1.map fun u=>nul (dW (nrm e) u)).length ca, .slice an (autE e).2.2.length cn])).toArray.size=259:=by
       have:(clsE e).length=256:=clsL_len _ _;simp[nv,this]
      have hall:(Value.int .i64 (fstE e).length::(nv .u8 (clsE e)++[.slice aa ((autE e).2.1.map fun u=>nul (dW (nrm e) u)).length ca, .slice an (autE e).2.2.length cn])).toArray.all (·.oneCell')=true:=by
       refine Array.all_eq_true_iff_forall_mem.2 fun v hv=>?_
       simp only[List.mem_toArray,List.mem_cons,List.mem_append,nv,List.mem_map,List.not_mem_nil,or_false]at hv;rcases hv with rfl|⟨a,_,rfl⟩|rfl|rfl<;>rfl
      have QLf:Hid (∀ o cs,QL w.heap.size ((w3.alloc o).setRow w.heap.size cs) (.slice aa ((autE e).2.1.map fun u=>nul (dW (nrm e) u)).length ca) ((autE e).2.1.map fun u=>nul (dW (nrm e) u))):=fun o cs=>own_mono (row_frm (own_frm hql ((Frm.refl [] w3).alloc o) (by simp)) (Frm.setRow _ _ cs) (fun k hk=>by have:=(hql.lt k hk).1;simp;omega)) (by omega)
      have NLf:Hid (∀ o cs,IL w.heap.size ((w3.alloc o).setRow w.heap.size cs) (.slice an (autE e).2.2.length cn) (autE e).2.2):=fun o cs=>own_mono (row_frm (own_frm hnl ((Frm.refl [] w3).alloc o) (by simp)) (Frm.setRow _ _ cs) (fun k hk=>by have:=(hnl.lt k hk).1;simp;omega)) (by omega)
      have FF:Hid (∀ o cs,Frm [] w ((w3.alloc o).setRow w.heap.size cs)):=fun o cs=>((FF2.out.above hf3 (by simp)).alloc _).above (Frm.setRow _ _ _) (by simp)
      have HR3:Hid (∀ o,(w3.alloc o).heap[w.heap.size]?=some (.cells Tryz.zeroCells95 95 (0,0))):=fun o=>by
       rw[((Frm.refl [] w3).alloc _).block w.heap.size (by omega) (by simp),hf3.block w.heap.size (by omega) (by simp)];exact HRB.out
      generalize hcs:(Value.int .i64 (fstE e).length::(nv .u8 (clsE e)++[.slice aa ((autE e).2.1.map fun u=>nul (dW (nrm e) u)).length ca, .slice an (autE e).2.2.length cn])).toArray=cs at hsz hall ⊢;have HCS:=hide hcs;have HSZ:=hide hsz;have HALL:=hide hall;have hsn:=run_storeCells_new (P:=Tryz.prog) w3 95 Tryz.zeroCells95 cs (by rw[hsz];exact autoInfoX) (by rw[hsz,autoZero9]) hall;have HRB2:=hide (setRow_at (cs:=cs) (HR3.out (Obj.cells cs 95)));have HST:=hide (store_row (cs:=cs) (HR3.out (Obj.cells cs 95)) (by rw[hsz,autoZero9]) hall);clear AU hau hk hc2 hcs hall hql hnl;go_wp2_with fail
      refine wp_autoLoad (.tmp 6) rfl w3.heap.size rfl cs (autoLoad (heap1 w3 (Obj.cells cs 95)) HSZ.out) ?_;have hst:=HST.out;go_wp2
      (try simp only[Exit.inBlock,Exit.then])
      refine bodyPost_ret (results_cell_tmpA rfl _ _ w.heap.size _ rfl (autoLoad HRB2.out HSZ.out)) rfl ?_;refine ⟨FF.out _ _,cs,HSZ.out,HALL.out,by rw[hrc.out];rfl,fun h=>absurd hrc.out h,fun e2 he h0=>?_⟩;have:e2=e:=by rw[HPW.out]at he;simpa using he.symm
      subst this;exact ⟨_,_,HCS.out.symm,QLf.out _ _,NLf.out _ _⟩
end Go.Proofs.YtpcbbbilmpobaaaGreatDoor
