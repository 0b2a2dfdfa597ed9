import Derived.Test.YtjkialjoamgbgaaGreatJ21
set_option linter.unusedVariables false
set_option linter.unusedSimpArgs false
set_option linter.unnecessarySimpa false
set_option maxRecDepth 100000
set_option maxHeartbeats 4000000
namespace Go.Proofs.YtjkialjoamgbgaaGreat
open Go.RowKit
theorem layRoute_all(w0:World)(kb:Nat)(V:V6)(rt xx vq:Value)(C:List CR)(q:List (List (Nat × Bool)))(hc:LC w0 kb rt vq C q):∀ f,LRQ w0 kb V rt xx vq C q f
 | 0=>by
   intro r d w vl l h hr hf hl
   have:=hc.d C[r] (List.getElem_mem hr)
   omega
 | f+1=>layRoute_step w0 kb V rt xx vq C q hc f (layRoute_all w0 kb V rt xx vq C q hc f)
def NB(w:World)(g:Nat)(N:List Int):Prop:=w.heap[g]?=some (.cells (N.map fun n=>Value.int .i64 n).toArray 3 (0,0))
def RB(w:World)(g:Nat)(R:List Bool):Prop:=w.heap[g]?=some (.cells (R.map fun b=>Value.bool b).toArray 4 (0,0))
theorem NB.cell{w:World}{g:Nat}{L:List Int}(h:NB w g L)(i:Nat)(hi:i<L.length):w.cell? ⟨g,i,none⟩=some (.int .i64 L[i]):=by
 unfold NB at h
 simp[World.cell?,h,hi]
theorem NB.fz{w:World}{g:Nat}{L:List Int}(h:NB w g L)(i:Nat):w.frozen? ⟨g,i,none⟩=false:=by
 unfold NB at h
 simp[World.frozen?,h]
theorem NB.lt{w:World}{g:Nat}{L:List Int}(h:NB w g L):g<w.heap.size:=(Array.getElem?_eq_some_iff.1 h).1
theorem NB.frm{S:List Nat}{w w':World}{g:Nat}{L:List Int}(h:NB w g L)(f:Frm S w w')(hS:g∉S):NB w' g L:=(f.block g h.lt hS).trans h
theorem NB.set{w:World}{g:Nat}{L:List Int}(h:NB w g L)(i:Nat)(y:Int):NB (w.setCell ⟨g,i,none⟩ (.int .i64 y)) g (L.set i y):=by
 unfold NB at h ⊢
 simp[World.setCell,Array.getElem?_modify,h,List.map_set]
theorem RB.cell{w:World}{g:Nat}{L:List Bool}(h:RB w g L)(i:Nat)(hi:i<L.length):w.cell? ⟨g,i,none⟩=some (.bool L[i]):=by
 unfold RB at h
 simp[World.cell?,h,hi]
theorem RB.fz{w:World}{g:Nat}{L:List Bool}(h:RB w g L)(i:Nat):w.frozen? ⟨g,i,none⟩=false:=by
 unfold RB at h
 simp[World.frozen?,h]
theorem RB.lt{w:World}{g:Nat}{L:List Bool}(h:RB w g L):g<w.heap.size:=(Array.getElem?_eq_some_iff.1 h).1
theorem RB.frm{S:List Nat}{w w':World}{g:Nat}{L:List Bool}(h:RB w g L)(f:Frm S w w')(hS:g∉S):RB w' g L:=(f.block g h.lt hS).trans h
theorem RB.set{w:World}{g:Nat}{L:List Bool}(h:RB w g L)(i:Nat)(y:Bool):RB (w.setCell ⟨g,i,none⟩ (.bool y)) g (L.set i y):=by
 unfold RB at h ⊢
 simp[World.setCell,Array.getElem?_modify,h,List.map_set]
theorem infoBool1:(Tryz.prog.info? 4).map (fun i=>(i.zero,i.size,i.bytes))=some (some (.bool false),1,1):=by kernel_rfl
theorem made_bools(n:Nat):madeCells #[.bool false] n=((List.replicate n false).map fun b=>Value.bool b).toArray:=by
 apply Array.ext
 ·simp[size_madeCells]
 ·intro i h1 h2
  simp[madeCells,Nat.mod_one]
theorem run_bools(n:Nat)(hn:n≤1000000000)(u:World):(Instr.makeSlice 121 (.int .i64 (n:Int)) (.int .i64 (n:Int))).run Tryz.prog u=.ok (.slice (some ⟨u.heap.size,0,none⟩) n n) (u.alloc (.cells ((List.replicate n false).map fun b=>Value.bool b).toArray 4)):=by
 obtain ⟨i0,hi,hz0,hz1,hz2⟩:=info_parts2 infoBool1
 have:=run_make (P:=Tryz.prog) u 121 4 i0 _ Tryz.underlying121 hi hz0 .i64 .i64 (n:Int) (n:Int) (by omega) (Int.le_refl _) (by rw[hz2];omega) (by omega)
 rw[hz1,Int.toNat_natCast,Nat.mul_one]at this
 rw[this]
 have e:(Value.bool false).cells=#[.bool false]:=rfl
 rw[e,made_bools]
theorem made_ints2(n:Nat):madeCells #[.int .i64 0] n=((List.replicate n (0:Int)).map fun b=>Value.int .i64 b).toArray:=by
 apply Array.ext
 ·simp[size_madeCells]
 ·intro i h1 h2
  simp[madeCells,Nat.mod_one]
theorem run_ints2(n:Nat)(hn:n≤1000000000)(u:World):(Instr.makeSlice 122 (.int .i64 (n:Int)) (.int .i64 (n:Int))).run Tryz.prog u=.ok (.slice (some ⟨u.heap.size,0,none⟩) n n) (u.alloc (.cells ((List.replicate n (0:Int)).map fun b=>Value.int .i64 b).toArray 3)):=by
 obtain ⟨i0,hi,hz0,hz1,hz2⟩:=info_parts2 infoInt1
 have:=run_make (P:=Tryz.prog) u 122 3 i0 _ Tryz.underlying122 hi hz0 .i64 .i64 (n:Int) (n:Int) (by omega) (Int.le_refl _) (by rw[hz2];omega) (by omega)
 rw[hz1,Int.toNat_natCast,Nat.mul_one]at this
 rw[this]
 have e:(Value.int .i64 0).cells=#[.int .i64 0]:=rfl
 rw[e,made_ints2]
theorem RW.ins{A:List Nat}{w:World}{v:Value}{L:List InM}(h:RW A 4 w v (icl L)):∃ a cap,v=.slice a L.length cap∧∀ (j:Nat) (hj:j<L.length),∃ g off,a=some ⟨g,off,none⟩∧g<w.heap.size∧w.cell? ⟨g,off+j*4,none⟩=some (.int .i64 (L[j].op:Nat))∧w.cell? ⟨g,off+j*4+1,none⟩=some (.int .i64 (L[j].x:Nat))∧w.cell? ⟨g,off+j*4+2,none⟩=some (.int .i64 (L[j].a:Nat))∧w.cell? ⟨g,off+j*4+3,none⟩=some (.int .i64 (L[j].b:Nat)):=by
 obtain ⟨a,cap,e,h1,h2⟩:=h
 rw[icl_len]at e
 refine ⟨a,cap,e,fun j hj=>?_⟩
 obtain ⟨g,off,e2,h3,h4,h5⟩:=h2 j (by rw[icl_len];exact hj)
 exact ⟨g,off,e2,h4,h5 0 _ (by simp[icl,icell]),h5 1 _ (by simp[icl,icell]),h5 2 _ (by simp[icl,icell]),h5 3 _ (by simp[icl,icell])⟩
theorem numbersOf_any(w:World)(v:Value)(A:List Nat)(l:List InM)(h:RW A 4 w v (icl l))(hgl:GL l)(first:Nat)(hf:first < l.length)(hl:l.length≤900000000) :
 Calls Tryz.prog 68 #[v, .int .i64 first] w fun e w'=>∃ g,e=.returned (.slice (some ⟨g,0,none⟩) l.length l.length)∧Frm [] w w'∧w.heap.size≤g∧NB w' g (numsOf l first):=by
 obtain ⟨a,cap,rfl,r⟩:=h.ins
 have R:=hide r
 have GLH:=hide hgl
 have hmk:=run_ints2 l.length (by omega)
 have hmb:=run_bools l.length (by omega)
 clear h r hgl
 go_enter Tryz.func68,Tryz.ntmps68
 go_wp2_with fail
 go_loopg [7,8] l.length (fun k v7 v8 wr=>∃ (j cnt:Nat) (x:Int) (R:List Bool) (N:List Int),j≤l.length∧k=j∧v8=.int .i64 x∧x=(j:Int)-1∧v7=.int .i64 cnt∧cnt+j≤l.length∧Hid (R.length=l.length)∧Hid (N.length=l.length)∧Hid (numGo l j R N cnt=numsOf l first)∧Frm [] w wr∧Hid (RB wr w.heap.size R)∧Hid (NB wr (w.heap.size+1) N))
 case atStart =>
  refine ⟨l.length,0,_,(List.replicate l.length false).set first true,List.replicate l.length 0,Nat.le_refl _,rfl,rfl,by omega,rfl,by omega,?_,?_,?_,((Frm.refl _ _).alloc _).alloc _,?_,?_⟩
  ·show _=_;simp
  ·show _=_;simp
  ·show _=_;rfl
  ·show RB _ _ _
   unfold RB
   rw[((Frm.refl [] _).alloc _).block w.heap.size (by simp) (by simp),heap1]
   have e:(Array.replicate l.length (Value.bool false)).setIfInBounds first (Value.bool true)=(((List.replicate l.length false).set first true).map fun b=>Value.bool b).toArray:=by
    apply Array.ext'
    simp[Array.toList_setIfInBounds,List.map_set]
   rw[e]
  ·show NB _ _ _
   unfold NB
   rw[heap_b]
   simp
 case round =>
  obtain ⟨j,cnt,x,Rl,N,hj,rfl,rfl,hx,rfl,hcj,HRL,HNL,HV,hF,HRB,HNB⟩:=hrel
  have F:=hide hF
  have hzz:=hF.size
  rcases gk with _|m
  ·obtain rfl:x=-1:=by omega
   have HV2:Hid (N=numsOf l first):=HV.out
   clear hx hF HV
   go_wp2
   go_ret
   exact ⟨_,rfl,F.out,by omega,by rw[← HV2.out];exact HNB.out⟩
  ·obtain rfl:x=(m:Int):=by omega
   clear hx
   have hrl:=HRL.out
   have hnl:=HNL.out
   have hrlt:=HRB.out.lt
   have hnlt:=HNB.out.lt
   have n0:=HNB.out.cell m (by omega)
   have nz:=HNB.out.fz
   have r0:=HRB.out.cell m (by omega)
   have rz:=HRB.out.fz
   have hmm:decide ((m:Int)<(l.length:Int))=true:=decide_eq_true (by omega)
   obtain ⟨gl,ol,rfl,hgl,q0,q1,q2,q3⟩:=R.out m (by omega)
   have t0:=(hF.cell (p:=⟨gl,ol+m*4,none⟩) hgl (by simp)).trans q0
   have t1:=(hF.cell (p:=⟨gl,ol+m*4+1,none⟩) hgl (by simp)).trans q1
   have t2:=(hF.cell (p:=⟨gl,ol+m*4+2,none⟩) hgl (by simp)).trans q2
   have t3:=(hF.cell (p:=⟨gl,ol+m*4+3,none⟩) hgl (by simp)).trans q3
   have hgn:gl≠w.heap.size+1:=by omega
   have hgr:gl≠w.heap.size:=by omega
   have hgn':w.heap.size+1≠gl:=by omega
   have hgr':w.heap.size≠gl:=by omega
   have hstep:numGo l (m+1) Rl N cnt=if Rl[m]=true then numGo l m (if l[m].op=0 then Rl else if l[m].op=2 then (Rl.set l[m].a true).set l[m].b true else Rl.set l[m].a true) (N.set m cnt) (cnt+1) else numGo l m Rl (N.set m (-1)) cnt:=by
    rw[numGo,List.getElem?_eq_getElem (by omega)]
    simp[List.getD,hrl,show m<l.length by omega]
   have hgm:=GLH.out m (by omega)
   generalize N[m]=nm at *
   have FN1:∀ (u:World) (i:Nat) (y:Value),Frm [w.heap.size+1] u (u.setCell ⟨w.heap.size+1,i,none⟩ y):=fun u i y=>(Frm.refl _ _).setCell (p:=⟨w.heap.size+1,i,none⟩) (.inl (by simp)) _
   have FN2:∀ (u:World) (i:Nat) (y:Value),Frm [w.heap.size] u (u.setCell ⟨w.heap.size,i,none⟩ y):=fun u i y=>(Frm.refl _ _).setCell (p:=⟨w.heap.size,i,none⟩) (.inl (by simp)) _
   have HFN1:=hide FN1
   have HFN2:=hide FN2
   clear FN1 FN2 q0 q1 q2 q3 hF
   cases hb:Rl[m]
   ·rw[hb]at r0 hstep
    simp only[Bool.false_eq_true,if_false]at hstep
    have HV2:Hid (numGo l m Rl (N.set m (-1)) cnt=numsOf l first):=hstep.symm.trans HV.out
    clear hstep HV hgm t0 t1 t2 t3 hb
    go_wp2
    go_roundg m
    case measure=>omega
    case rel=>exact ⟨m,cnt,_,Rl,N.set m (-1),by omega,rfl,rfl,by omega,rfl,by omega,HRL,by show _=_;simp[hnl],HV2,F.out.over (HFN1.out _ _ _) (by simp),HRB.out.frm (HFN1.out _ _ _) (by simp),HNB.out.set m (-1)⟩
   ·rw[hb]at r0 hstep
    simp only[if_true]at hstep
    have hlt:m<l.length:=by omega
    generalize hlm:l[m]=c at *
    obtain ⟨op,xn,ia,ib⟩:=c
    simp only at t0 t1 t2 t3 hstep hgm
    clear hb hlm
    have HZ:Hid (∀ u:World,NB u (w.heap.size+1) ((N.set m (-1)).set m cnt)→NB u (w.heap.size+1) (N.set m cnt)):=fun u hu=>by rw[List.set_set]at hu;exact hu
    have HN2:Hid ((N.set m (cnt:Int)).length=l.length):=by show _=_;simp[hnl]
    have HNW:=hide (HZ.out _ ((HNB.out.set m (-1)).set m cnt))
    have HRW:=hide ((HRB.out.frm (HFN1.out wr m (.int .i64 (-1))) (by simp)).frm (HFN1.out _ m (.int .i64 (cnt:Nat))) (by simp))
    have FW:=hide ((F.out.over (HFN1.out wr m (.int .i64 (-1))) (by simp)).over (HFN1.out _ m (.int .i64 (cnt:Nat))) (by simp))
    clear HZ
    rcases hgm with rfl|⟨rfl,ha⟩|⟨rfl,ha,hb⟩
    ·have HV2:Hid (numGo l m Rl (N.set m cnt) (cnt+1)=numsOf l first):=hstep.symm.trans HV.out
     clear hstep HV
     go_wp2
     go_roundg m
     case measure=>omega
     case rel=>exact ⟨m,cnt+1,_,Rl,N.set m cnt,by omega,rfl,rfl,by omega,by go_num,by omega,HRL,HN2,HV2,FW.out.alloc _,HRW.out.frm ((Frm.refl [] _).alloc _) (by simp),HNW.out.frm ((Frm.refl [] _).alloc _) (by simp)⟩
    ·have HV2:Hid (numGo l m (Rl.set ia true) (N.set m cnt) (cnt+1)=numsOf l first):=hstep.symm.trans HV.out
     have ra:=HRB.out.cell ia (by omega)
     have hda:decide ((ia:Int)<(l.length:Int))=true:=decide_eq_true (by omega)
     generalize Rl[ia]=rba at *
     clear hstep HV
     go_wp2
     go_roundg m
     case measure=>omega
     case rel=>exact ⟨m,cnt+1,_,Rl.set ia true,N.set m cnt,by omega,rfl,rfl,by omega,by go_num,by omega,by show _=_;simp[hrl],HN2,HV2,(FW.out.over (HFN2.out _ _ _) (by simp)).alloc _,(HRW.out.set ia true).frm ((Frm.refl [] _).alloc _) (by simp),(HNW.out.frm (HFN2.out _ _ _) (by simp)).frm ((Frm.refl [] _).alloc _) (by simp)⟩
    ·have HV2:Hid (numGo l m ((Rl.set ia true).set ib true) (N.set m cnt) (cnt+1)=numsOf l first):=hstep.symm.trans HV.out
     have ra:=HRB.out.cell ia (by omega)
     have rb:=HRB.out.cell ib (by omega)
     have hda:decide ((ia:Int)<(l.length:Int))=true:=decide_eq_true (by omega)
     have hdb:decide ((ib:Int)<(l.length:Int))=true:=decide_eq_true (by omega)
     generalize Rl[ia]=rba at *
     generalize Rl[ib]=rbb at *
     clear hstep HV
     by_cases hab:ia=ib
     ·subst hab
      clear rb hdb hb
      go_wp2
      go_roundg m
      case measure=>omega
      case rel=>exact ⟨m,cnt+1,_,(Rl.set ia true).set ia true,N.set m cnt,by omega,rfl,rfl,by omega,by go_num,by omega,by show _=_;simp[hrl],HN2,HV2,((FW.out.over (HFN2.out _ _ _) (by simp)).over (HFN2.out _ _ _) (by simp)).alloc _,((HRW.out.set ia true).set ia true).frm ((Frm.refl [] _).alloc _) (by simp),((HNW.out.frm (HFN2.out _ _ _) (by simp)).frm (HFN2.out _ _ _) (by simp)).frm ((Frm.refl [] _).alloc _) (by simp)⟩
     ·have hba:ib≠ia:=fun e=>hab e.symm
      go_wp2
      go_roundg m
      case measure=>omega
      case rel=>exact ⟨m,cnt+1,_,(Rl.set ia true).set ib true,N.set m cnt,by omega,rfl,rfl,by omega,by go_num,by omega,by show _=_;simp[hrl],HN2,HV2,((FW.out.over (HFN2.out _ _ _) (by simp)).over (HFN2.out _ _ _) (by simp)).alloc _,((HRW.out.set ia true).set ib true).frm ((Frm.refl [] _).alloc _) (by simp),((HNW.out.frm (HFN2.out _ _ _) (by simp)).frm (HFN2.out _ _ _) (by simp)).frm ((Frm.refl [] _).alloc _) (by simp)⟩
open Go.RowKit
theorem turn_step{l:List InM}{N:List Int}{m:Nat}(hm:m<l.length)(hn:m<N.length)(out:List InM):turnGo l N (m+1) out=if N[m]<0 then turnGo l N m out else turnGo l N m (out++[turnI N l[m]]):=by
 rw[turnGo,List.getElem?_eq_getElem hm]
 simp[List.getD,hn]
theorem icell_at(w:World)(o:Obj)(c:InM)(j:Nat)(u:Value)(hu:(icell c).toList[j]?=some u):((w.alloc o).alloc (Obj.cells (icell c) 91)).cell? ⟨w.heap.size+1,j,none⟩=some u:=by
 have h:=heap_b w o (Obj.cells (icell c) 91)
 unfold World.cell?
 simp only[h]
 simpa[icell] using hu
theorem turned_any(w:World)(v:Value)(A:List Nat)(l:List InM)(h:RW A 4 w v (icl l))(hgl:GL l)(first:Nat)(hf:first < l.length)(hl:l.length≤900000000) :
 Calls Tryz.prog 45 #[v, .int .i64 first] w fun e w'=>∃ v',e=.returned v'∧Frm [] w w'∧OW 91 4 w.heap.size w' v' (icl (turnM l first)):=by
 have N1:=hide (numbersOf_any w v A l h hgl first hf hl)
 obtain ⟨a,cap,rfl,r⟩:=h.ins
 have R:=hide r
 have GLH:=hide hgl
 have hnl:=numsOf_len l first
 have HSP:=hide (numsOf_spec hgl first)
 have HT:Hid (turnM l first=turnGo l (numsOf l first) (first + 1) []):=rfl
 generalize numsOf l first=N at *
 clear h r hgl
 go_enter Tryz.func45,Tryz.ntmps45
 go_wp2_with fail
 refine (N1.out).mono ?_
 clear N1
 rintro e w1 ⟨gn,rfl,hF1,hgn,hNB⟩
 have F1:=hide hF1
 have HNB:=hide hNB
 have hz1:=hF1.size
 have hgn1:=hNB.lt
 clear hF1 hNB
 go_wp2_with fail
 go_loopg [6,7] (first + 1) (fun k v6 v7 wr=>∃ (j:Nat) (x:Int) (out:List InM),j≤first + 1∧k=j∧v7=.int .i64 x∧x=(j:Int)-1∧out.length+j≤first + 1∧Hid (turnGo l N j out=turnM l first)∧Frm [] w1 wr∧OW 91 4 w1.heap.size wr v6 (icl out))
 case atStart=>exact ⟨first + 1,_,[],Nat.le_refl _,rfl,rfl,by omega,by simp,HT.out.symm,(Frm.refl _ _).alloc _,OW.empty _ _ _ _ (Nat.le_refl _)⟩
 case round =>
  obtain ⟨j,x,out,hj,rfl,rfl,hx,hoj,HV,hF,hO⟩:=hrel
  obtain ⟨ao,co,he⟩:=hO.shape
  rw[icl_len]at he
  subst he
  have F:=hide hF
  have O:=hide hO
  have hzr:=hF.size
  have HTC:Hid ((icl out).length=out.length):=icl_len out
  rcases gk with _|m
  ·obtain rfl:x=-1:=by omega
   have HV2:Hid (out=turnM l first):=HV.out
   clear hx hF hO HV
   go_wp2
   go_ret
   refine ⟨_,rfl,F1.out.trans F.out,?_⟩
   rw[← HV2.out]
   exact O.out.base hz1
  ·obtain rfl:x=(m:Int):=by omega
   clear hx
   have hml:m<l.length:=by omega
   have HNr:=hide (HNB.out.frm hF (by simp))
   have n0:=HNr.out.cell m (by omega)
   have hmm:decide ((m:Int)<(l.length:Int))=true:=decide_eq_true (by omega)
   have hst:=turn_step (N:=N) hml (by omega) out
   obtain ⟨gl,ol,rfl,hgl,q0,q1,q2,q3⟩:=R.out m hml
   have FF:=F1.out.trans hF
   have t0:=(FF.cell (p:=⟨gl,ol+m*4,none⟩) hgl (by simp)).trans q0
   have t1:=(FF.cell (p:=⟨gl,ol+m*4+1,none⟩) hgl (by simp)).trans q1
   have t2:=(FF.cell (p:=⟨gl,ol+m*4+2,none⟩) hgl (by simp)).trans q2
   have t3:=(FF.cell (p:=⟨gl,ol+m*4+3,none⟩) hgl (by simp)).trans q3
   have hgnr:gn<wr.heap.size:=by omega
   have hglr:gl<wr.heap.size:=by omega
   have hgm:=GLH.out m hml
   have hsp:=HSP.out m l[m] (List.getElem?_eq_getElem hml)
   rw[show N.getD m 0=N[m] by simp[List.getD,show m<N.length by omega]]at hsp
   clear q0 q1 q2 q3 FF hF hO
   by_cases hneg:N[m]<0
   ·rw[if_pos hneg]at hst
    have HV2:Hid (turnGo l N m out=turnM l first):=hst.symm.trans HV.out
    have hdn:decide (N[m]<0)=true:=decide_eq_true hneg
    generalize N[m]=nm at *
    clear hst HV hgm hsp t0 t1 t2 t3
    go_wp2
    go_roundg m
    case measure=>omega
    case rel=>exact ⟨m,_,out,by omega,rfl,rfl,by omega,by omega,HV2,F.out,O.out⟩
   ·rw[if_neg hneg]at hst
    have hdn:decide (N[m]<0)=false:=decide_eq_false hneg
    have hsp2:=hsp (by omega)
    generalize hnm:N[m]=nm at *
    have hlm:∃ c,l[m]=c:=⟨_,rfl⟩
    obtain ⟨c,hlm⟩:=hlm
    rw[hlm]at t0 t1 t2 t3 hst hgm hsp2
    obtain ⟨op,xn,ia,ib⟩:=c
    simp only at t0 t1 t2 t3 hgm hsp2
    clear hsp hlm hnm
    rcases hgm with rfl|⟨rfl,ha⟩|⟨rfl,ha,hb⟩
    ·have HV2:Hid (turnGo l N m (out++[⟨0,xn,ia,ib⟩])=turnM l first):=hst.symm.trans HV.out
     clear hst HV hsp2
     go_wp2_with (at_builtin;refine wp_appG _ rfl _ _ 56 91 _ 4 32 infoIns Tryz.underlying56 rfl (by omega) rfl w1.heap.size (.slice ao out.length co) (icl out) (wr.heap.size+1) (icell ⟨0,xn,ia,ib⟩).toList rfl (O.out.frm (S:=[]) (((Frm.refl [] _).alloc _).alloc _) (by simp)) rfl rfl (icell_at _ _ ⟨0,xn,ia,ib⟩) (by intro u hu;simp[icell]at hu;rcases hu with rfl|rfl|rfl|rfl<;>rfl) (by rw[HTC.out];omega) (by rw[HTC.out];omega) (by simp;omega) ?_;intro gg cap2 w4 hown4 hgrow hat hlt4;rw[HTC.out,icl_snoc]at hown4;rw[HTC.out];have O4:=hide hown4;have G4:=hide hgrow;clear hown4 hgrow hat)
     go_roundg m
     case measure=>omega
     case rel=>exact ⟨m,_,_,by omega,rfl,rfl,by omega,by simp;omega,HV2,((F.out.alloc _).alloc _).grown G4.out (fun r hr=>.inr (O.out.lt hr).1),O4.out⟩
    ·obtain ⟨na,hna⟩:=Int.eq_ofNat_of_zero_le (hsp2.1 (by omega))
     have n1:=HNr.out.cell ia (by omega)
     rw[show N[ia]'(by omega)=(na:Int) by rw[← hna];simp[List.getD,show ia<N.length by omega]]at n1
     have hda:decide ((ia:Int)<(l.length:Int))=true:=decide_eq_true (by omega)
     have HV2:Hid (turnGo l N m (out++[⟨1,xn,na,ib⟩])=turnM l first):=by
      have e:turnI N ⟨1,xn,ia,ib⟩=⟨1,xn,na,ib⟩:=by simp only[turnI,hna];simp
      rw[e]at hst
      exact hst.symm.trans HV.out
     clear hst HV hsp2 hna
     go_wp2_with (at_builtin;refine wp_appG _ rfl _ _ 56 91 _ 4 32 infoIns Tryz.underlying56 rfl (by omega) rfl w1.heap.size (.slice ao out.length co) (icl out) (wr.heap.size+1) (icell ⟨1,xn,na,ib⟩).toList rfl (O.out.frm (S:=[]) (((Frm.refl [] _).alloc _).alloc _) (by simp)) rfl rfl (icell_at _ _ ⟨1,xn,na,ib⟩) (by intro u hu;simp[icell]at hu;rcases hu with rfl|rfl|rfl|rfl<;>rfl) (by rw[HTC.out];omega) (by rw[HTC.out];omega) (by simp;omega) ?_;intro gg cap2 w4 hown4 hgrow hat hlt4;rw[HTC.out,icl_snoc]at hown4;rw[HTC.out];have O4:=hide hown4;have G4:=hide hgrow;clear hown4 hgrow hat)
     go_roundg m
     case measure=>omega
     case rel=>exact ⟨m,_,_,by omega,rfl,rfl,by omega,by simp;omega,HV2,((F.out.alloc _).alloc _).grown G4.out (fun r hr=>.inr (O.out.lt hr).1),O4.out⟩
    ·obtain ⟨na,hna⟩:=Int.eq_ofNat_of_zero_le (hsp2.1 (by omega))
     obtain ⟨nb,hnb⟩:=Int.eq_ofNat_of_zero_le (hsp2.2 rfl)
     have n1:=HNr.out.cell ia (by omega)
     rw[show N[ia]'(by omega)=(na:Int) by rw[← hna];simp[List.getD,show ia<N.length by omega]]at n1
     have n2:=HNr.out.cell ib (by omega)
     rw[show N[ib]'(by omega)=(nb:Int) by rw[← hnb];simp[List.getD,show ib<N.length by omega]]at n2
     have hda:decide ((ia:Int)<(l.length:Int))=true:=decide_eq_true (by omega)
     have hdb:decide ((ib:Int)<(l.length:Int))=true:=decide_eq_true (by omega)
     have HV2:Hid (turnGo l N m (out++[⟨2,xn,na,nb⟩])=turnM l first):=by
      have e:turnI N ⟨2,xn,ia,ib⟩=⟨2,xn,na,nb⟩:=by simp only[turnI,hna,hnb];simp
      rw[e]at hst
      exact hst.symm.trans HV.out
     clear hst HV hsp2 hna hnb
     go_wp2_with (at_builtin;refine wp_appG _ rfl _ _ 56 91 _ 4 32 infoIns Tryz.underlying56 rfl (by omega) rfl w1.heap.size (.slice ao out.length co) (icl out) (wr.heap.size+1) (icell ⟨2,xn,na,nb⟩).toList rfl (O.out.frm (S:=[]) (((Frm.refl [] _).alloc _).alloc _) (by simp)) rfl rfl (icell_at _ _ ⟨2,xn,na,nb⟩) (by intro u hu;simp[icell]at hu;rcases hu with rfl|rfl|rfl|rfl<;>rfl) (by rw[HTC.out];omega) (by rw[HTC.out];omega) (by simp;omega) ?_;intro gg cap2 w4 hown4 hgrow hat hlt4;rw[HTC.out,icl_snoc]at hown4;rw[HTC.out];have O4:=hide hown4;have G4:=hide hgrow;clear hown4 hgrow hat)
     go_roundg m
     case measure=>omega
     case rel=>exact ⟨m,_,_,by omega,rfl,rfl,by omega,by simp;omega,HV2,((F.out.alloc _).alloc _).grown G4.out (fun r hr=>.inr (O.out.lt hr).1),O4.out⟩
theorem GL_end:GL [⟨0,0,0,0⟩]:=by
 intro i hi
 simp at hi
 subst hi
 exact .inl rfl
theorem codeM_good{C:List CR}{q:List (List (Nat × Bool))}:GL (layR C q 6 0 0 [⟨0,0,0,0⟩]).2∧(layR C q 6 0 0 [⟨0,0,0,0⟩]).1<(layR C q 6 0 0 [⟨0,0,0,0⟩]).2.length :=
 let h:=layR_good C q 6 0 0 [⟨0,0,0,0⟩] GL_end (by simp)
 ⟨h.1,h.2.1⟩
theorem instructions_any(w0:World)(kb:Nat)(w:World)(V:V6)(rt xx vq:Value)(C:List CR)(q:List (List (Nat × Bool)))(hc:LC w0 kb rt vq C q)(h:LY w0 kb w V ⟨rt,xx,vq, .slice none 0 0⟩ [])(hne:0<C.length) :
 Calls Tryz.prog 28 #[.pointer (some ⟨kb,0,none⟩)] w fun e w'=>∃ v v',e=.returned v∧KR w' kb V ⟨rt,xx,vq,v'⟩∧Frm [kb] w0 w'∧Frm [kb] w w'∧OW 91 4 w.heap.size w' v (icl (codeM C q)):=by
 have HC:=hide hc
 obtain ⟨art,capt,ert,_⟩:=hc.hrt.co
 subst ert
 have r6:=h.row.c 6
 simp at r6
 have hcl:=hc.cl
 have hd0:((C.length:Int)==0)=false:=by rw[beq_eq_false_iff_ne];omega
 have hd0':decide ((C.length:Int)=0)=false:=decide_eq_false (by omega)
 have N1:=hide (lay_any w0 kb w V _ [] h ⟨0,0,0,0⟩ (by simp))
 simp only[icell]at N1
 have HQ:Hid (codeM C q=turnM (layR C q 6 0 0 [⟨0,0,0,0⟩]).2 (layR C q 6 0 0 [⟨0,0,0,0⟩]).1):=by
  show _=_
  unfold codeM
  rw[if_neg (by simp;intro e;rw[e]at hne;simp at hne)]
 have HG:=hide (codeM_good (C:=C) (q:=q))
 have HBD:=hide (layR_bnd hc.cl hc.qb 6 0 0 [⟨0,0,0,0⟩])
 clear h hc
 go_enter Tryz.func28,Tryz.ntmps28
 go_wp2_with fail
 refine (N1.out).mono ?_
 clear N1
 rintro e w1 ⟨rfl,v1,hL1,hLF1⟩
 have N2:=hide (layRoute_all w0 kb V _ xx vq C q HC.out 6 0 0 w1 v1 [⟨0,0,0,0⟩] hL1 hne (by omega) (by simp[bnd]))
 have LF1:=hide hLF1
 clear hL1 hLF1
 generalize layR C q 6 0 0 [⟨0,0,0,0⟩]=X at *
 obtain ⟨first,l2⟩:=X
 go_wp2_with fail
 refine (N2.out).mono ?_
 clear N2
 rintro e w2 ⟨rfl,v2,hL2,hLF2⟩
 obtain ⟨a2,c2,he⟩:=hL2.o.shape
 rw[icl_len]at he
 simp only at he
 subst he
 have hb2:=HBD.out
 simp[bnd]at hb2
 have N3:=hide (turned_any w2 _ [] l2 (hL2.o.rw (by simp)) HG.out.1 first HG.out.2 (by omega))
 have r9:=hL2.row.c 9
 simp at r9
 have L2:=hide hL2
 have FW:Hid (Frm [kb] w w2):=(LF1.out.trans hLF2).f
 clear hL2 hLF2
 go_wp2_with fail
 refine (N3.out).mono ?_
 clear N3
 rintro e w3 ⟨v3,rfl,hF3,hO3⟩
 obtain ⟨a3,c3,he3⟩:=hO3.shape
 subst he3
 have F3:=hide hF3
 have O3:=hide hO3
 clear hF3 hO3
 go_wp2
 go_ret
 rw[HQ.out]
 exact ⟨_,_,rfl,L2.out.row.frm F3.out (by simp),L2.out.fr.over F3.out (by simp),FW.out.over F3.out (by simp),O3.out.base FW.out.size⟩
end Go.Proofs.YtjkialjoamgbgaaGreat
