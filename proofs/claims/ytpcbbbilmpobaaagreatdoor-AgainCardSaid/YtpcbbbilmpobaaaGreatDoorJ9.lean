import Derived.Test.YtpcbbbilmpobaaaGreatDoorJ8
set_option linter.unusedVariables false
set_option linter.unusedSimpArgs false
set_option linter.unnecessarySimpa false
set_option maxRecDepth 100000
set_option maxHeartbeats 8000000
namespace Go.Proofs.YtpcbbbilmpobaaaGreatDoor
open Go.RowKit
theorem saddQ(g q j:Nat):(⟨g,q,none⟩:Addr).add j=⟨g,q+j,none⟩:=by unfold Addr.add;split<;>simp_all
theorem loadVar_at(w:World)(a:Addr)(ty:TypeId)(cs:Array Value)(d:TypeDesc)(hc:∀ j v,cs.toList[j]?=some v→w.cell? (a.add j)=some v)
 (hu:Tryz.prog.underlying ty=some d) (hd:(match d with | .struct _ | .array _ _=>true|_=>false)=true) (hi:(Tryz.prog.info? ty).map (·.size)=some cs.size) :
 (loadVar ty a).run Tryz.prog w=.ok (.agg cs) w:=by
 have hl:(loadCells a cs.toList.length).run Tryz.prog w=.ok cs.toList.toArray w:=run_loadCells_list (P:=Tryz.prog) w a cs.toList hc;cases hq:Tryz.prog.info? ty with
 | none=>simp[hq]at hi
 | some i =>
   have hs:i.size=cs.size:=by simpa[hq] using hi
   have hagg:(isAgg ty).run Tryz.prog w=.ok true w:=by
    unfold isAgg;rw[Sem.run_bind,run_underlying hu w];cases d<;>simp_all
   simp[loadVar,hagg,sizeOf,typeInfo,hq,hs];rw[Array.length_toList]at hl;rw[hl];simp
theorem wp_arrLoad{o:Oper}{a:Act}{w:World}{K:Act→World→Prop}{Q:Exit→Act→World→Prop}(t:TypeId)(x:Operand)(ho:o.op=.load t x)(p:Addr)(hx:a.eval x=.pointer (some p))(cs:Array Value)(hl:(loadVar t p).run Tryz.prog w=.ok (.agg cs) w)(h:K (a.put o.dst (.agg cs)) w):o.wp Tryz.prog a w K Q:=by
 unfold Oper.wp execOp;simp only[ho,hx,Instr.loadAt,Instr.sureAddr,Sem.run_bind,Sem.run_pure,Result.andThen_ok,hl];exact h
theorem arrSize:(Tryz.prog.info? 91).map (·.size)=some 256:=by kernel_rfl
theorem arrIndex(w:World)(cs:Array Value)(j:Nat)(v:Value)(hj:j<256)(h:cs[j]?=some v):(Instr.index 91 (.agg cs) (.int .i64 (j:Nat))).run Tryz.prog w=.ok v w:=by
 obtain ⟨i0,hi,hz0,hz1,hz2⟩:=info_parts2 infoU8;have hagg:(isAgg 5).run Tryz.prog w=.ok false w:=by
  unfold isAgg;rw[Sem.run_bind,run_underlying Tryz.underlying5 w]
  rfl
 have hlt:(j:Int)<256:=by omega
 have hsz:j<cs.size:=(Array.getElem?_eq_some_iff.1 h).1;have hv:cs[j]=v:=(Array.getElem?_eq_some_iff.1 h).2;simp[Instr.index,asIntOf,run_underlying Tryz.underlying91,part,sizeOf,typeInfo,hi,hz1,hagg,hlt,h,hsz,hv];intro h2;omega
def clA(x:AutM):Array Value:=(x.cl.map fun (c:Nat)=>Value.int .u8 c).toArray
theorem addAutomaton_any(W0:World)(A:List Nat)(sb:Nat)(v:Value)(L:List UInt8)(x:AutM)(va vn:Value)(g q:Nat)(w:World)(hs:SAV W0.heap.size w sb v L)(hF:Frm [] W0 w)(hu:AUm W0 g q x va vn)(ra:RW A 1 W0 va (bc x.acc))(rn:RW A 1 W0 vn (ic x.nx))(ok:AutOK x)(hL:L.length+(eA x).length≤600000000) :
 Calls Tryz.prog 30 #[.pointer (some ⟨sb,0,none⟩), .pointer (some ⟨g,q,none⟩)] w fun e w'=>e=.returned (.tuple #[])∧AD W0.heap.size w sb L (eA x) w':=by
 have hbs:=hs.2.1;have F0:=hide hF;have hz0:=hF.size;have U:=hide hu;have OK:=hide ok;obtain ⟨aa,ca,rfl,ha1,ha2⟩:=ra;obtain ⟨an,cn,rfl,hn1,hn2⟩:=rn;have RA:=hide ha2;have RN:=hide hn2;have hcl:=ok.cl;have hac:=ok.s2;have hk:=ok.k2;have hnxl:x.nx.length≤10240:=by rw[ok.nx];exact Nat.le_trans (Nat.mul_le_mul ok.s2 ok.k2) (by decide)
 have hLL:=hL;simp only[eA,List.length_append,nb_len]at hLL;have q3:=(U.out.frm F0.out).ca;have N1:=hide (addNumber_any 1 W0.heap.size sb v L x.acc.length 1 w (by omega) (by omega) rfl hs (by omega) hF.size (by omega));clear hs hF hu ok ha1 ha2 hn1 hn2;rw[bc_len]at q3;rw[bc_len]at U;rw[ic_len]at U;go_enter Tryz.func30,Tryz.ntmps30
 go_wp2_with fail
 refine (N1.out).mono ?_;rintro e w1 ⟨rfl,hA1⟩;have A1:=hide hA1;obtain ⟨v1,hS1⟩:=hA1.sav;have FW1:=hide (hA1.kp.frm F0.out hbs);have N2:=hide (addNumber_any 2 W0.heap.size sb v1 _ x.k 2 w1 (by omega) (by omega) rfl hS1 (by simp only[List.length_append,nb_len];omega) FW1.out.size (by omega));have r0:=(U.out.frm FW1.out).c0;clear hA1 hS1 N1 q3;go_wp2_with fail
 refine (N2.out).mono ?_;rintro e w2 ⟨rfl,hA2⟩;have A2:=hide (A1.out.add (fun _ _=>hA2));have FW2:=hide ((A2.out.kp).frm F0.out hbs);clear hA2 N2 A1 FW1 r0;have hcs:(clA x).size=256:=by simp[clA,hcl]
 have HCA:Hid ((loadVar 91 ⟨g,q+1,none⟩).run Tryz.prog w2=.ok (.agg (clA x)) w2):=by
  refine loadVar_at w2 ⟨g,q+1,none⟩ 91 (clA x) _ ?_ Tryz.underlying91 rfl (by rw[hcs];exact arrSize);intro j u hj;rw[saddQ];have hjl:j<x.cl.length:=by
   have:=(List.getElem?_eq_some_iff.1 hj).1;simpa[clA] using this
  rw[(U.out.frm FW2.out).cc j (by omega)];simp[clA,hjl]at hj;simp[List.getD,hjl,hj]
 have HC:Hid (∀ j,j<256→(clA x)[j]?=some (.int .u8 (x.cl.getD j 0:Nat))):=by
  intro j hj;have hjl:j<x.cl.length:=by omega
  simp[clA,hjl,List.getD]
 go_wp2_with fail
 refine wp_arrLoad 91 (.tmp 25) rfl ⟨g,q+1,none⟩ rfl (clA x) HCA.out ?_;clear HCA;go_wp2_with fail
 go_loopg [27] 256 (fun k v27 wr=>∃ j:Nat,j+k=256∧v27=.int .i64 j∧AD W0.heap.size w sb L (nb 1 x.acc.length++nb 2 x.k++(x.cl.take j).flatMap (nb 1)) wr)
 case atStart=>exact ⟨0,by omega,rfl,by simpa using A2.out⟩
 case round =>
  clear A2 FW2;obtain ⟨j,hjk,rfl,hA⟩:=hrel;have A3:=hide hA;clear hA
  by_cases hlt:j<256
  ·have hd1:decide ((j:Int)<256)=true:=decide_eq_true (by omega)
   have hcj:=HC.out j hlt;have hix:=arrIndex wr (clA x) j _ hlt hcj;obtain ⟨v3,hS3,hK3,hO3⟩:=A3.out;obtain ⟨a3,c3,he3⟩:=hS3.2.2.shape;subst he3;have S:=hide hS3;have YBB:=hide hS3.2.2;have c0:=hS3.c0;have z:=hS3.fz 0;have hsb:=hS3.lt;have hzr:=(hK3.frm F0.out hbs).size;have K3:=hide hK3;have hbnd:x.cl.getD j 0<256:=by
    have hjl:j<x.cl.length:=by omega
    have h1:=OK.out.cls (x.cl.getD j 0) (by simp[List.getD,hjl]);omega
   have hy:(UInt8.ofNat (x.cl.getD j 0)).toNat=x.cl.getD j 0:=by rw[UInt8.toNat_ofNat'];exact Nat.mod_eq_of_lt hbnd
   have HNB:Hid (nb 1 (x.cl.getD j 0)=[UInt8.ofNat (x.cl.getD j 0)]):=by show _=_;rw[nb,nb,Nat.mod_eq_of_lt hbnd];rfl
   have HT:Hid ((x.cl.take (j+1)).flatMap (nb 1)=(x.cl.take j).flatMap (nb 1)++nb 1 (x.cl.getD j 0)):=by
    have hjl:j<x.cl.length:=by omega
    show _=_;rw[List.take_succ_eq_append_getElem hjl,List.flatMap_append];simp[List.getD,hjl]
   have hcell:∀ o,o=Obj.cells #[Value.int .u8 (x.cl.getD j 0:Nat)] 5→(wr.alloc o).cell? ⟨wr.heap.size,0,none⟩=some (.int .u8 ((UInt8.ofNat (x.cl.getD j 0)).toNat:Nat)):=by
    intro o ho;subst ho;rw[hy];simp
   have hlen:(L++(nb 1 x.acc.length++nb 2 x.k++(x.cl.take j).flatMap (nb 1))).length≤600000000:=by
    have e1:(x.cl.flatMap (nb 1)).length=((x.cl.take j).flatMap (nb 1)).length+((x.cl.drop j).flatMap (nb 1)).length:=by rw[← List.length_append,← List.flatMap_append,List.take_append_drop]
    simp only[List.length_append,nb_len];omega
   generalize hLLe:L++(nb 1 x.acc.length++nb 2 x.k++(x.cl.take j).flatMap (nb 1))=LL at *;have HLL:=hide hLLe;generalize x.cl.getD j 0=m at *;clear hS3 hK3 hO3 hcj hLLe A3;go_wp2_with (first | (at_builtin;refine wp_appY _ rfl _ _ rfl W0.heap.size (.slice a3 LL.length c3) LL wr.heap.size (UInt8.ofNat m) rfl (YBB.out.alloc _) rfl (hcell _ rfl) (by omega) (by simp;omega) ?_;intro g2 cap2 w6 hs6 hg6;have O6:=hide hs6;have G6:=hide hg6;have c6:=(hg6.cell_far ⟨sb,0,none⟩ (by simp;omega) (fun e=>YBB.out.ne S.out.1 e.symm));have f6:=(hg6.frozen_far ⟨sb,0,none⟩ (by simp;omega) (fun e=>YBB.out.ne S.out.1 e.symm));clear hs6 hg6))
   go_roundg (gk-1)
   case measure=>omega
   case rel =>
    have h6:w6.heap[sb]?=some (.cells #[.slice a3 LL.length c3] 86 (0,0)):=(G6.out.block sb (by simp;omega) (fun e=>YBB.out.ne S.out.1 e.symm)).trans ((((Frm.refl [] wr).alloc _).block sb hsb (by simp)).trans S.out.1);have FS:∀ u,Frm [sb] w6 (w6.setCell ⟨sb,0,none⟩ u):=fun u=>(Frm.refl [sb] w6).setCell (p:=⟨sb,0,none⟩) (.inl (by simp)) u
    have O7:∀ u,OW 5 1 W0.heap.size (w6.setCell ⟨sb,0,none⟩ u) (.slice (some ⟨g2,0,none⟩) (LL.length+1) cap2) (yc (LL++[UInt8.ofNat m])):=fun u=>O6.out.keep (FS u) (fun r hr hm=>by simp at hm;subst hm;exact YB.ne (.inl O6.out) h6 hr)
    have K7:∀ u,KP W0.heap.size sb wr (w6.setCell ⟨sb,0,none⟩ u):=fun u=>((KP.of_frm (((Frm.refl [sb] wr).alloc _))).trans (KP.grown (YBB.out.alloc _) G6.out)).trans (KP.of_frm (FS u))
    have e:L++(nb 1 x.acc.length++nb 2 x.k++(x.cl.take (j+1)).flatMap (nb 1))=LL++[UInt8.ofNat m]:=by rw[HT.out,HNB.out,← HLL.out];simp
    refine ⟨j+1,by omega,by go_num, .slice (some ⟨g2,0,none⟩) (LL.length+1) cap2,⟨?_,hbs, .inl ?_⟩,K3.out.trans (K7 _),?_⟩
    ·simp[World.setCell,Array.getElem?_modify,h6]
    ·rw[e];exact O7 _
    ·rw[e];exact O7 _
  ·have hje:j=256:=by omega
   have hd1:decide ((j:Int)<256)=false:=decide_eq_false (by omega);have A4:Hid (AD W0.heap.size w sb L (nb 1 x.acc.length++nb 2 x.k++x.cl.flatMap (nb 1)) wr):=by
    have h:=A3.out;rw[List.take_of_length_le (by omega)]at h;exact h
   subst hje;clear A3 HC;have FW:=hide ((A4.out.kp).frm F0.out hbs);have r2:=(U.out.frm FW.out).ca;go_wp2_with fail
   obtain ⟨wB,hwB⟩:∃ wB,wB=wr:=⟨_,rfl⟩;rw[← hwB]at A4 FW r2 ⊢;clear hwB;go_loopg [46] x.acc.length (fun k v46 wr=>∃ j:Nat,j+k=x.acc.length∧v46=.int .i64 j∧AD W0.heap.size w sb L (nb 1 x.acc.length++nb 2 x.k++x.cl.flatMap (nb 1)++(x.acc.take j).flatMap (nb 1)) wr)
   case atStart=>exact ⟨0,by omega,rfl,by simpa using A4.out⟩
   case round =>
    clear A4 FW r2;obtain ⟨j,hjk,rfl,hA⟩:=hrel;have A5:=hide hA;clear hA
    by_cases hlt:j<x.acc.length
    ·have hd1:decide ((j:Int)<(x.acc.length:Int))=true:=decide_eq_true (by omega)
     obtain ⟨ga,off,e1,_,hga,hca⟩:=RA.out j (by rw[bc_len];exact hlt);subst e1;obtain ⟨v5,hS5,hK5,hO5⟩:=A5.out;have F5:=hide (hK5.frm F0.out hbs);have hcb:wr.cell? ⟨ga,off+j,none⟩=some (.bool (x.acc[j]==1)):=by
      have h:=hca 0 (.bool (x.acc[j]==1)) (by simp[bc]);rw[Nat.mul_one,Nat.add_zero]at h;exact (F5.out.cell (p:=⟨ga,off+j,none⟩) hga (by simp)).trans h
     have h01:x.acc[j]<2:=OK.out.acc _ (List.getElem_mem hlt);have HT:Hid ((x.acc.take (j+1)).flatMap (nb 1)=(x.acc.take j).flatMap (nb 1)++nb 1 x.acc[j]):=by
      show _=_;rw[List.take_succ_eq_append_getElem hlt,List.flatMap_append];simp
     have hlen:(L++(nb 1 x.acc.length++nb 2 x.k++x.cl.flatMap (nb 1)++(x.acc.take j).flatMap (nb 1))).length≤600000000:=by
      have e1:(x.acc.flatMap (nb 1)).length=((x.acc.take j).flatMap (nb 1)).length+((x.acc.drop j).flatMap (nb 1)).length:=by rw[← List.length_append,← List.flatMap_append,List.take_append_drop]
      simp only[List.length_append,nb_len];omega
     have N5:=hide (addNumber_any 1 W0.heap.size sb v5 _ x.acc[j] 1 wr (by omega) (by omega) rfl hS5 (by omega) F5.out.size (by omega));generalize x.acc[j]=m at *;clear hS5 hK5 hO5 hca;have hm01:m=0∨m=1:=by omega
     rcases hm01 with rfl|rfl
     all_goals
      go_wp2_with fail
      refine (N5.out).mono ?_;rintro e w6 ⟨rfl,hA6⟩;have A6:=hide (A5.out.add (fun _ _=>hA6));clear hA6 N5;go_wp2_with fail
      go_roundg (gk-1)
      case measure=>omega
      case rel =>
       refine ⟨j+1,by omega,by go_num,?_⟩;rw[HT.out,← List.append_assoc];exact A6.out
    ·have hje:j=x.acc.length:=by omega
     have hd1:decide ((j:Int)<(x.acc.length:Int))=false:=decide_eq_false (by omega);have A6:Hid (AD W0.heap.size w sb L (nb 1 x.acc.length++nb 2 x.k++x.cl.flatMap (nb 1)++x.acc.flatMap (nb 1)) wr):=by
      have h:=A5.out;rw[List.take_of_length_le (by omega)]at h;exact h
     clear A5 hje;have FW:=hide ((A6.out.kp).frm F0.out hbs);have r2:=(U.out.frm FW.out).cn;go_wp2_with fail
     obtain ⟨wC,hwC⟩:∃ wC,wC=wr:=⟨_,rfl⟩;rw[← hwC]at A6 FW r2 ⊢;clear hwC;go_loopg [61] x.nx.length (fun k v61 wr=>∃ j:Nat,j+k=x.nx.length∧v61=.int .i64 j∧AD W0.heap.size w sb L (nb 1 x.acc.length++nb 2 x.k++x.cl.flatMap (nb 1)++x.acc.flatMap (nb 1)++(x.nx.take j).flatMap (nb 1)) wr)
     case atStart=>exact ⟨0,by omega,rfl,by simpa using A6.out⟩
     case round =>
      clear A6 FW r2;obtain ⟨j2,hjk2,rfl,hA⟩:=hrel;have A7:=hide hA;clear hA
      by_cases hlt2:j2<x.nx.length
      ·have hd1:decide ((j2:Int)<(x.nx.length:Int))=true:=decide_eq_true (by omega)
       obtain ⟨ga,off,e1,_,hga,hca⟩:=RN.out j2 (by rw[ic_len];exact hlt2);subst e1;obtain ⟨v5,hS5,hK5,hO5⟩:=A7.out;have F5:=hide (hK5.frm F0.out hbs);have hcb:wr.cell? ⟨ga,off+j2,none⟩=some (.int .i64 (x.nx[j2]:Nat)):=by
        have h:=hca 0 (.int .i64 (x.nx[j2]:Nat)) (by simp[ic]);rw[Nat.mul_one,Nat.add_zero]at h;exact (F5.out.cell (p:=⟨ga,off+j2,none⟩) hga (by simp)).trans h
       have h01:x.nx[j2]<x.acc.length:=OK.out.nxs _ (List.getElem_mem hlt2);have HT:Hid ((x.nx.take (j2+1)).flatMap (nb 1)=(x.nx.take j2).flatMap (nb 1)++nb 1 x.nx[j2]):=by
        show _=_;rw[List.take_succ_eq_append_getElem hlt2,List.flatMap_append];simp
       have hlen:(L++(nb 1 x.acc.length++nb 2 x.k++x.cl.flatMap (nb 1)++x.acc.flatMap (nb 1)++(x.nx.take j2).flatMap (nb 1))).length≤600000000:=by
        have e1:(x.nx.flatMap (nb 1)).length=((x.nx.take j2).flatMap (nb 1)).length+((x.nx.drop j2).flatMap (nb 1)).length:=by rw[← List.length_append,← List.flatMap_append,List.take_append_drop]
        simp only[List.length_append,nb_len];omega
       have N5:=hide (addNumber_any 1 W0.heap.size sb v5 _ x.nx[j2] 1 wr (by omega) (by omega) rfl hS5 (by omega) F5.out.size (by omega));generalize x.nx[j2]=m at *;clear hS5 hK5 hO5 hca;go_wp2_with fail
       refine (N5.out).mono ?_;rintro e w6 ⟨rfl,hA6⟩;have A8:=hide (A7.out.add (fun _ _=>hA6));clear hA6 N5;go_wp2_with fail
       go_roundg (gk-1)
       case measure=>omega
       case rel =>
        refine ⟨j2+1,by omega,by go_num,?_⟩;rw[HT.out,← List.append_assoc];exact A8.out
      ·have hd1:decide ((j2:Int)<(x.nx.length:Int))=false:=decide_eq_false (by omega)
       have A8:Hid (AD W0.heap.size w sb L (eA x) wr):=by
        have h:=A7.out;rw[show x.nx.take j2=x.nx from List.take_of_length_le (by omega)]at h;show AD _ _ _ _ _ _;unfold eA;simpa using h
       go_wp2;go_end0
       exact ⟨rfl,A8.out⟩
theorem stands_eq(nr nt n i op x a b:Nat):stands nr nt n i ⟨op,x,a,b⟩=if op=0 then (((x:Int)==0)&&((a:Int)==0)&&((b:Int)==0)) else if op=1 then (decide (x<nr)&&(decide (i<a)&&decide (a<n))&&((b:Int)==0)) else if op=2 then (decide (x<nt)&&(decide (i<a)&&decide (a<n))&&(decide (i<b)&&decide (b<n))) else false:=by
 have z:∀ k:Nat,((k:Int)==0)=(k==0):=fun k=>by rw[Bool.eq_iff_iff,beq_iff_eq,beq_iff_eq];omega
 simp only[z];unfold stands
 match op with
 | 0=>rfl
 | 1=>rfl
 | 2=>rfl
 | k+3=>simp
theorem mayStand_any(g o:Nat)(nr nt n i:Nat)(x:InM)(w:World)(at1 ar1:Option Addr)(ct cr:Nat)(h3:w.cell? ⟨g,o+3,none⟩=some (.slice at1 nt ct))(h4:w.cell? ⟨g,o+4,none⟩=some (.slice ar1 nr cr)) :
 Calls Tryz.prog 61 #[.pointer (some ⟨g,o,none⟩), .agg (icell x), .int .i64 (i:Nat), .int .i64 (n:Nat)] w fun e w'=>e=.returned (.bool (stands nr nt n i x))∧Frm [] w w':=by
 obtain ⟨op,x,a,b⟩:=x;have HS:=hide (stands_eq nr nt n i op x a b);have hg:=World.block_lt_of_cell? w _ h3;have g3:∀ ob,(w.alloc ob).cell? ⟨g,o+3,none⟩=some (.slice at1 nt ct):=fun ob=>(((Frm.refl [] w).alloc ob).cell (p:=⟨g,o+3,none⟩) hg (by simp)).trans h3
 have g4:∀ ob,(w.alloc ob).cell? ⟨g,o+4,none⟩=some (.slice ar1 nr cr):=fun ob=>(((Frm.refl [] w).alloc ob).cell (p:=⟨g,o+4,none⟩) hg (by simp)).trans h4
 obtain ⟨p1,e1⟩:∃ p,decide (i<a)=p:=⟨_,rfl⟩;obtain ⟨p2,e2⟩:∃ p,decide (a<n)=p:=⟨_,rfl⟩;obtain ⟨p3,e3⟩:∃ p,decide (i<b)=p:=⟨_,rfl⟩;obtain ⟨p4,e4⟩:∃ p,decide (b<n)=p:=⟨_,rfl⟩;obtain ⟨q1,f1⟩:∃ p,decide (x<nr)=p:=⟨_,rfl⟩;obtain ⟨q2,f2⟩:∃ p,decide (x<nt)=p:=⟨_,rfl⟩;obtain ⟨z1,y1⟩:∃ p,((x:Int)==0)=p:=⟨_,rfl⟩;obtain ⟨z2,y2⟩:∃ p,((a:Int)==0)=p:=⟨_,rfl⟩;obtain ⟨z3,y3⟩:∃ p,((b:Int)==0)=p:=⟨_,rfl⟩;have HS2:Hid (stands nr nt n i ⟨op,x,a,b⟩=if op=0 then (z1&&z2&&z3) else if op=1 then (q1&&(p1&&p2)&&z3) else if op=2 then (q2&&(p1&&p2)&&(p3&&p4)) else false):=by
  show _=_;rw[HS.out,e1,e2,e3,e4,f1,f2,y1,y2,y3]
 clear HS h3 h4
 by_cases h0:op=0
 ·have HV:Hid (stands nr nt n i ⟨op,x,a,b⟩=(z1&&z2&&z3)):=by show _=_;rw[HS2.out,if_pos h0]
  clear HS2;subst h0;cases p1<;>cases p3<;>cases z1<;>cases z2
  all_goals
   go_enter Tryz.func61,Tryz.ntmps61
   simp only[icell];go_wp2;go_ret;rw[HV.out];exact ⟨rfl,(Frm.refl _ _).alloc _⟩
 have b0:((op:Int)==0)=false:=by rw[beq_eq_false_iff_ne];omega
 by_cases h1:op=1
 ·have HV:Hid (stands nr nt n i ⟨op,x,a,b⟩=(q1&&(p1&&p2)&&z3)):=by show _=_;rw[HS2.out,if_neg h0,if_pos h1]
  clear HS2 h0 b0;subst h1;cases p1<;>cases p2<;>cases p3<;>cases q1
  all_goals
   go_enter Tryz.func61,Tryz.ntmps61
   simp only[icell];go_wp2_with fail
   go_quiet (fail)
   go_wp2;go_ret;rw[HV.out];exact ⟨rfl,((Frm.refl _ _).alloc _).drewN _⟩
 have b1:((op:Int)==1)=false:=by rw[beq_eq_false_iff_ne];omega
 by_cases h2:op=2
 ·have HV:Hid (stands nr nt n i ⟨op,x,a,b⟩=(q2&&(p1&&p2)&&(p3&&p4))):=by show _=_;rw[HS2.out,if_neg h0,if_neg h1,if_pos h2]
  clear HS2 h0 b0 h1 b1;subst h2;cases p1<;>cases p2<;>cases p3<;>cases q2
  all_goals
   go_enter Tryz.func61,Tryz.ntmps61
   simp only[icell];go_wp2_with fail
   go_quiet (fail)
   go_wp2;go_ret;rw[HV.out];exact ⟨rfl,((Frm.refl _ _).alloc _).drewN _⟩
 have b2:((op:Int)==2)=false:=by rw[beq_eq_false_iff_ne];omega
 have HV:Hid (stands nr nt n i ⟨op,x,a,b⟩=false):=by show _=_;rw[HS2.out,if_neg h0,if_neg h1,if_neg h2]
 clear HS2 h0 h1 h2;cases p1<;>cases p3
 all_goals
  go_enter Tryz.func61,Tryz.ntmps61
  simp only[icell];go_wp2;go_ret;rw[HV.out];exact ⟨rfl,(Frm.refl _ _).alloc _⟩
def InssQ(nr nt:Nat)(w:World)(b:Nat)(t:List UInt8)(i:Nat)(V:V6)(e:Ending)(w':World):Prop :=
 ∃ (i':Nat) (ok:Bool) (v:Value) (x:List InM),e=.returned (.bool ok)∧LD w' b t i' { V with i:=v }∧Frm [b] w w'∧PO ok (pIs nr nt) (t.drop i) x (t.drop i')∧OW 102 4 w.heap.size w' v (icl x)
theorem takeInstructions_any(b:Nat)(t:List UInt8)(i:Nat)(V:V6)(nr nt:Nat)(w:World)(h:LD w b t i V)(hr:∃ a c,V.r=.slice a nr c)(ht:∃ a c,V.t=.slice a nt c)(hV:V.i=.slice none 0 0) :
 Calls Tryz.prog 38 #[.pointer (some ⟨b,0,none⟩)] w (InssQ nr nt w b t i V):=by
 have N1:=hide (ltakeNumber_any b t i V 2 1 65536 2 1 65535 w h (by omega) (by omega) (by omega) rfl rfl rfl);have hb:=h.lt;have HV:=hide hV;clear h hV;go_enter Tryz.func38,Tryz.ntmps38
 go_wp2_with fail
 refine (N1.out).mono ?_;rintro e w1 ⟨i1,v,ok,rfl,hL1,hF1,hP1,hv⟩;have L1:=hide hL1;have F1:=hide hF1;have P1:=hide hP1;clear hL1 hF1 hP1 N1;have hz1:=F1.out.size;go_wp2_with fail
 go_loopg [4,5] v (fun k v4 v5 wr=>∃ (j i':Nat) (acc:List InM) (vr:Value) (okb:Bool),j+k=v∧v5=.int .i64 j∧v4=.bool okb∧OW 102 4 w.heap.size wr vr (icl acc)∧LD wr b t i' { V with i:=vr }∧Frm [b] w wr∧acc.length=j ∧
  Hid ((okb=true∧v<65536∧pR (pI nr nt v) (v-j) acc (t.drop i')=pIs nr nt (t.drop i))∨(okb=false∧pIs nr nt (t.drop i)=none)))
 case atStart =>
  refine ⟨0,i1,[], .slice none 0 0,ok,by omega,rfl,rfl,OW.nil _ _ _ _,?_,F1.out,rfl,?_⟩
  ·have:=L1.out;rw[← HV.out];exact this
  rcases P1.out with ⟨h1,h2⟩|⟨h1,h2⟩
  ·exact .inl ⟨h1,(pN_some h2).2.2,by unfold pIs;rw[h2];rfl⟩
  ·exact .inr ⟨h1,by unfold pIs;rw[h2];rfl⟩
 case round =>
  obtain ⟨j,i2,acc,vr,okb,hjk,rfl,rfl,hO,hL,hF,hal,HR⟩:=hrel;obtain ⟨ao,co,he⟩:=hO.shape;rw[icl_len]at he;subst he;have O:=hide hO;have L:=hide hL;have F:=hide hF;have hz:=hF.size;have HAL:=hide hal;have hal2:acc.length≤16777216:=by omega
  clear hO hL hF hal;cases okb with
  | false =>
    have HP:Hid (pIs nr nt (t.drop i)=none):=by
     rcases HR.out with ⟨h,_⟩|⟨_,h⟩
     ·cases h
     ·exact h
    clear HR;go_wp2;go_ret;exact ⟨i2,false,_,acc,rfl,L.out,F.out, .inr ⟨rfl,HP.out⟩,O.out⟩
  | true =>
    have HP:Hid (v<65536∧pR (pI nr nt v) (v-j) acc (t.drop i2)=pIs nr nt (t.drop i)):=by
     rcases HR.out with ⟨_,h⟩|⟨h,_⟩
     ·exact h
     ·cases h
    clear HR
    by_cases hlt:j<v
    ·have hd1:decide ((j:Int)<(v:Int))=true:=decide_eq_true (by omega)
     have N2:=hide (takeInstruction_any b t i2 _ wr L.out);go_wp2_with fail
     refine (N2.out).mono ?_;rintro e w2 ⟨i3,ok2,x,rfl,hL2,hF2,hP2,hx1,hx2,hx3,hx4⟩;have L2:=hide hL2;have F2:=hide hF2;have O2:=hide (O.out.frm (hF2) (by intro g hg;simp at hg;omega));have HP2:Hid (((ok2&&stands nr nt v j x)=true∧v<65536∧pR (pI nr nt v) (v-(j+1)) (acc++[x]) (t.drop i3)=pIs nr nt (t.drop i))∨((ok2&&stands nr nt v j x)=false∧pIs nr nt (t.drop i)=none)):=by
      have h:=HP.out;rw[show v-j=(v-(j+1))+1 by omega]at h;rcases hP2 with ⟨h1,h2⟩|⟨h1,h2⟩
      ·cases hs:stands nr nt v j x with
       | true =>
         refine .inl ⟨by rw[h1];rfl,h.1,?_⟩;rw[← h.2,pR_succ,HAL.out,pI_eq,h2];simp[hs]
       | false =>
         refine .inr ⟨by rw[h1];rfl,?_⟩;rw[← h.2,pR_succ,HAL.out,pI_eq,h2];simp[hs]
      ·refine .inr ⟨by rw[h1];rfl,?_⟩
       rw[← h.2,pR_succ,HAL.out,pI_eq,h2];rfl
     have hz2:=hF2.size;have hvh:=HP.out.1;have c:=hL2.ci;have z:=hL2.fz 7;have hb2:=hL2.lt;have hob:∀ r,Value.ownBlock (.slice ao acc.length co)=some r→w.heap.size≤r:=fun r hr=>(O2.out.lt hr).1
     have HOB:=hide hob;have HTC:=hide (icl_len acc);have L2b:=hL2;have ct:=hL2.ct;have cr:=hL2.cr;have g2:∀ o o':Obj,((w2.alloc o).alloc o').drew.frozen? ⟨b,7,none⟩=false:=fun o o'=>(((((Frm.refl [] w2).alloc o).alloc o').drew).frozen hb2 (by simp)).trans z
     have g1:∀ o:Obj,(w2.alloc o).drew.frozen? ⟨b,7,none⟩=false:=fun o=>((((Frm.refl [] w2).alloc o).drew).frozen hb2 (by simp)).trans z
     have ag:Value.ownBlock (.slice ao acc.length co)≠some b:=fun e=>by have:=HOB.out _ e;omega
     clear hL2 hF2 hP2 HP N2 L O hob L2b;obtain ⟨x1,x2,x3,x4⟩:=x;simp only[icell];go_wp2_with fail
     go_region_law ((refine step_appG _ (by rfl) _ _ 56 102 _ 4 32 infoIns Tryz.underlying56 (by rfl) (by omega) (by rfl) w.heap.size (.slice ao acc.length co) (icl acc) (w2.heap.size+1) (icell ⟨x1,x2,x3,x4⟩) (0,0) (by rfl) (O2.out.frm (S:=[]) ((((Frm.refl [] _).alloc _).alloc _).drew) (by simp)) (by rfl) (by rfl) (by exact heap_new2d _ _ _) (icell_one _) (by rw[HTC.out];omega) (by rw[HTC.out];omega) (by simp;omega) (w2.heap.size+2) (by simp) ?_;intro gg cap2 w4 hown4 hgrow hat hlt4;have c4:=(hgrow.cell_far ⟨b,7,none⟩ (by simp;omega) (Ne.symm ag));have f4:=(hgrow.frozen_far ⟨b,7,none⟩ (by simp;omega) (Ne.symm ag));have f5:=f4.trans (g2 _ _);rw[HTC.out]at hown4 ⊢))
     all_goals
      have F3:Frm [] w2 ((w2.alloc (Obj.cells (icell ⟨x1,x2,x3,x4⟩) 102)).alloc (Obj.cells (icell ⟨x1,x2,x3,x4⟩) 102)).drew:=(((Frm.refl [] _).alloc _).alloc _).drew;have G4:=hide hgrow;have L4:=hide ((L2.out.frm F3 (by simp)).grown G4.out (fun r hr=>by have:=HOB.out r hr;omega));have hO5:=hown4;rw[icl_snoc]at hO5;have O5:=hide hO5;have F4:Hid (Frm [b] w w4):=((((F.out.trans F2.out).trans (F3.mono (by simp)))).grown G4.out (fun r hr=>.inr (HOB.out r hr)));have hne:Value.ownBlock (.slice ao acc.length co)≠some w2.heap.size:=fun e=>by have:=(O2.out.lt e).2;omega
      have hloc:Hid (w4.heap[w2.heap.size]?=some (.cells (icell ⟨x1,x2,x3,x4⟩) 102 (0,0))):=by
       refine (G4.out.block w2.heap.size (by simp;omega) (fun e=>hne e.symm)).trans ?_;refine (((Frm.refl [] (w2.alloc (Obj.cells (icell ⟨x1,x2,x3,x4⟩) 102))).alloc _).block w2.heap.size (by simp) (by simp)).trans ?_;exact heap1 _ _
      have hz4:=F4.out.size;clear hgrow hown4 hO5;obtain ⟨W5,hW5⟩:∃ W5,W5=w4.setCell ⟨b,7,none⟩ (.slice (some ⟨gg,0,none⟩) (acc.length+1) cap2):=⟨_,rfl⟩;have L5:Hid (LD W5 b t i3 { V with i:=.slice (some ⟨gg,0,none⟩) (acc.length+1) cap2 }):=by rw[hW5];exact L4.out.setI _
      have FB:Frm [b] w4 W5:=by rw[hW5];exact (Frm.refl [b] _).setCell (p:=⟨b,7,none⟩) (.inl (by simp)) _
      have F5:=hide (F4.out.trans FB);have O6:=hide (O5.out.frm FB (by simp;omega));have hl5:Hid (W5.heap[w2.heap.size]?=some (.cells (icell ⟨x1,x2,x3,x4⟩) 102 (0,0))):=(FB.block w2.heap.size (Array.getElem?_eq_some_iff.1 hloc.out).1 (by simp;omega)).trans hloc.out;rw[← hW5];clear hW5 L4 O5 F4 hloc FB G4 c4 f4 f5;have e0:W5.cell? ⟨w2.heap.size,0,none⟩=some (.int .i64 (x1:Nat)):=by simp[World.cell?,hl5.out,icell]
      have e1:W5.cell? ⟨w2.heap.size,1,none⟩=some (.int .i64 (x2:Nat)):=by simp[World.cell?,hl5.out,icell]
      have e2:W5.cell? ⟨w2.heap.size,2,none⟩=some (.int .i64 (x3:Nat)):=by simp[World.cell?,hl5.out,icell]
      have e3:W5.cell? ⟨w2.heap.size,3,none⟩=some (.int .i64 (x4:Nat)):=by simp[World.cell?,hl5.out,icell]
      have M:Hid (Calls Tryz.prog 61 #[.pointer (some ⟨b,2,none⟩), .agg #[.int .i64 (x1:Nat), .int .i64 (x2:Nat), .int .i64 (x3:Nat), .int .i64 (x4:Nat)], .int .i64 (j:Nat), .int .i64 (v:Nat)] W5.drew fun e w'=>e=.returned (.bool (stands nr nt v j ⟨x1,x2,x3,x4⟩))∧Frm [] W5.drew w'):=by
       obtain ⟨ar,cr2,er⟩:=hr;obtain ⟨at2,ct2,et⟩:=ht;have h3:=L5.out.ct;have h4:=L5.out.cr;exact mayStand_any b 2 nr nt v j ⟨x1,x2,x3,x4⟩ W5.drew at2 ar ct2 cr2 (by rw[← et];exact h3) (by rw[← er];exact h4)
      cases ok2 with
      | false =>
        go_wp2_with fail
        go_quiet (fail)
        go_wp2;go_roundg (gk-1)
        case measure=>omega
        case rel=>exact ⟨j+1,i3,acc++[(⟨x1,x2,x3,x4⟩:InM)],_,false,by omega,by go_num,rfl,O6.out.frm (S:=[]) ((Frm.refl [] _).drewN _) (by simp),L5.out.drewN _,F5.out.drewN _,by simp[HAL.out],HP2⟩
      | true =>
        go_wp2_with fail
        go_region_with (go_at_call 61;refine (M.out).mono ?_;rintro e w7 ⟨rfl,hF7⟩)
        all_goals
         have O7:=hide (O6.out.frm (S:=[]) (((Frm.refl [] W5).drew).trans hF7) (by simp));have L7:=hide (L5.out.frm (S:=[]) (((Frm.refl [] W5).drew).trans hF7) (by simp));have F7:=hide (F5.out.trans ((((Frm.refl [] W5).drew).trans hF7).mono (by simp)));clear hF7 M;go_wp2;go_roundg (gk-1)
         case measure=>omega
         case rel=>exact ⟨j+1,i3,acc++[(⟨x1,x2,x3,x4⟩:InM)],_,stands nr nt v j ⟨x1,x2,x3,x4⟩,by omega,by go_num,rfl,O7.out,L7.out,F7.out,by simp[HAL.out],HP2⟩
    ·have hjv:j=v:=by omega
     have hd1:decide ((j:Int)<(v:Int))=false:=decide_eq_false (by omega);have HP2:Hid (pIs nr nt (t.drop i)=some (acc,t.drop i2)):=by
      have h:=HP.out.2;rw[hjv,Nat.sub_self]at h;exact h.symm
     clear HP;subst hjv;go_wp2;go_ret;exact ⟨i2,true,_,acc,rfl,L.out,F.out, .inl ⟨rfl,HP2.out⟩,O.out⟩
end Go.Proofs.YtpcbbbilmpobaaaGreatDoor
