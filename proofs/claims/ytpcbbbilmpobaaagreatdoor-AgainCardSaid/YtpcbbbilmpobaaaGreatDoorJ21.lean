import Derived.Test.YtpcbbbilmpobaaaGreatDoorJ20
import Derived.Test.YtpcbbbilmpobaaaGreatDoorJ16
import Derived.Laws.CopyOwn
import Derived.Laws.MakeOwn
set_option linter.unusedVariables false
set_option linter.unusedSimpArgs false
set_option linter.unnecessarySimpa false
set_option maxRecDepth 100000
set_option maxHeartbeats 8000000
namespace Go.Proofs.YtpcbbbilmpobaaaGreatDoor
open Go.RowKit
theorem turn_step{l:List InM}{N:List Int}{m:Nat}(hm:m<l.length)(hn:m<N.length)(out:List InM):turnGo l N (m+1) out=if N[m]<0 then turnGo l N m out else turnGo l N m (out++[turnI N l[m]]):=by
 rw[turnGo,List.getElem?_eq_getElem hm];simp[List.getD,hn]
theorem icell_at(w:World)(o:Obj)(c:InM)(j:Nat)(u:Value)(hu:(icell c).toList[j]?=some u):((w.alloc o).alloc (Obj.cells (icell c) 102)).cell? ⟨w.heap.size+1,j,none⟩=some u:=by
 have h:=heap_b w o (Obj.cells (icell c) 102);unfold World.cell?;simp only[h];simpa[icell] using hu
theorem turned_any(w:World)(v:Value)(A:List Nat)(l:List InM)(h:RW A 4 w v (icl l))(hgl:GL l)(first:Nat)(hf:first < l.length)(hl:l.length≤900000000) :
 Calls Tryz.prog 52 #[v, .int .i64 first] w fun e w'=>∃ v',e=.returned v'∧Frm [] w w'∧OW 102 4 w.heap.size w' v' (icl (turnM l first)):=by
 have N1:=hide (numbersOf_any w v A l h hgl first hf hl);obtain ⟨a,cap,rfl,r⟩:=h.ins;have R:=hide r;have GLH:=hide hgl;have hnl:=numsOf_len l first
 have HSP:=hide (numsOf_spec hgl first);have HT:Hid (turnM l first=turnGo l (numsOf l first) (first + 1) []):=rfl;generalize numsOf l first=N at *
 clear h r hgl;go_enter Tryz.func52,Tryz.ntmps52
 go_wp2_with fail
 refine (N1.out).mono ?_;clear N1;rintro e w1 ⟨gn,rfl,hF1,hgn,hNB⟩;have F1:=hide hF1;have HNB:=hide hNB;have hz1:=hF1.size;have hgn1:=hNB.lt;clear hF1 hNB;go_wp2_with fail
 go_loopg [6,7] (first + 1) (fun k v6 v7 wr=>∃ (j:Nat) (x:Int) (out:List InM),j≤first + 1∧k=j∧v7=.int .i64 x∧x=(j:Int)-1∧out.length+j≤first + 1∧Hid (turnGo l N j out=turnM l first)∧Frm [] w1 wr∧OW 102 4 w1.heap.size wr v6 (icl out))
 case atStart=>exact ⟨first + 1,_,[],Nat.le_refl _,rfl,rfl,by omega,by simp,HT.out.symm,(Frm.refl _ _).alloc _,OW.empty _ _ _ _ (Nat.le_refl _)⟩
 case round =>
  obtain ⟨j,x,out,hj,rfl,rfl,hx,hoj,HV,hF,hO⟩:=hrel;obtain ⟨ao,co,he⟩:=hO.shape;rw[icl_len]at he;subst he;have F:=hide hF;have O:=hide hO;have hzr:=hF.size;have HTC:Hid ((icl out).length=out.length):=icl_len out;rcases gk with _|m
  ·obtain rfl:x=-1:=by omega
   have HV2:Hid (out=turnM l first):=HV.out;clear hx hF hO HV;go_wp2;go_ret;refine ⟨_,rfl,F1.out.trans F.out,?_⟩;rw[← HV2.out];exact O.out.base hz1
  ·obtain rfl:x=(m:Int):=by omega
   clear hx;have hml:m<l.length:=by omega
   have HNr:=hide (HNB.out.frm hF (by simp));have n0:=HNr.out.cell m (by omega);have hmm:decide ((m:Int)<(l.length:Int))=true:=decide_eq_true (by omega);have hst:=turn_step (N:=N) hml (by omega) out;obtain ⟨gl,ol,rfl,hgl,q0,q1,q2,q3⟩:=R.out m hml;have FF:=F1.out.trans hF;have t0:=(FF.cell (p:=⟨gl,ol+m*4,none⟩) hgl (by simp)).trans q0;have t1:=(FF.cell (p:=⟨gl,ol+m*4+1,none⟩) hgl (by simp)).trans q1;have t2:=(FF.cell (p:=⟨gl,ol+m*4+2,none⟩) hgl (by simp)).trans q2;have t3:=(FF.cell (p:=⟨gl,ol+m*4+3,none⟩) hgl (by simp)).trans q3;have hgnr:gn<wr.heap.size:=by omega
   have hglr:gl<wr.heap.size:=by omega
   have hgm:=GLH.out m hml;have hsp:=HSP.out m l[m] (List.getElem?_eq_getElem hml);rw[show N.getD m 0=N[m] by simp[List.getD,show m<N.length by omega]]at hsp;clear q0 q1 q2 q3 FF hF hO
   by_cases hneg:N[m]<0
   ·rw[if_pos hneg]at hst
    have HV2:Hid (turnGo l N m out=turnM l first):=hst.symm.trans HV.out;have hdn:decide (N[m]<0)=true:=decide_eq_true hneg;generalize N[m]=nm at *;clear hst HV hgm hsp t0 t1 t2 t3;go_wp2;go_roundg m
    case measure=>omega
    case rel=>exact ⟨m,_,out,by omega,rfl,rfl,by omega,by omega,HV2,F.out,O.out⟩
   ·rw[if_neg hneg]at hst
    have hdn:decide (N[m]<0)=false:=decide_eq_false hneg;have hsp2:=hsp (by omega);generalize hnm:N[m]=nm at *;have hlm:∃ c,l[m]=c:=⟨_,rfl⟩;obtain ⟨c,hlm⟩:=hlm;rw[hlm]at t0 t1 t2 t3 hst hgm hsp2;obtain ⟨op,xn,ia,ib⟩:=c;simp only at t0 t1 t2 t3 hgm hsp2;clear hsp hlm hnm;rcases hgm with rfl|⟨rfl,ha⟩|⟨rfl,ha,hb⟩
    ·have HV2:Hid (turnGo l N m (out++[⟨0,xn,ia,ib⟩])=turnM l first):=hst.symm.trans HV.out
     clear hst HV hsp2;go_wp2_with (at_builtin;refine wp_appG _ rfl _ _ 56 102 _ 4 32 infoIns Tryz.underlying56 rfl (by omega) rfl w1.heap.size (.slice ao out.length co) (icl out) (wr.heap.size+1) (icell ⟨0,xn,ia,ib⟩).toList rfl (O.out.frm (S:=[]) (((Frm.refl [] _).alloc _).alloc _) (by simp)) rfl rfl (icell_at _ _ ⟨0,xn,ia,ib⟩) (by intro u hu;simp[icell]at hu;rcases hu with rfl|rfl|rfl|rfl<;>rfl) (by rw[HTC.out];omega) (by rw[HTC.out];omega) (by simp;omega) ?_;intro gg cap2 w4 hown4 hgrow hat hlt4;rw[HTC.out,icl_snoc]at hown4;rw[HTC.out];have O4:=hide hown4;have G4:=hide hgrow;clear hown4 hgrow hat)
     go_roundg m
     case measure=>omega
     case rel=>exact ⟨m,_,_,by omega,rfl,rfl,by omega,by simp;omega,HV2,((F.out.alloc _).alloc _).grown G4.out (fun r hr=>.inr (O.out.lt hr).1),O4.out⟩
    ·obtain ⟨na,hna⟩:=Int.eq_ofNat_of_zero_le (hsp2.1 (by omega))
     have n1:=HNr.out.cell ia (by omega);rw[show N[ia]'(by omega)=(na:Int) by rw[← hna];simp[List.getD,show ia<N.length by omega]]at n1;have hda:decide ((ia:Int)<(l.length:Int))=true:=decide_eq_true (by omega);have HV2:Hid (turnGo l N m (out++[⟨1,xn,na,ib⟩])=turnM l first):=by
      have e:turnI N ⟨1,xn,ia,ib⟩=⟨1,xn,na,ib⟩:=by simp only[turnI,hna];simp
      rw[e]at hst;exact hst.symm.trans HV.out
     clear hst HV hsp2 hna;go_wp2_with (at_builtin;refine wp_appG _ rfl _ _ 56 102 _ 4 32 infoIns Tryz.underlying56 rfl (by omega) rfl w1.heap.size (.slice ao out.length co) (icl out) (wr.heap.size+1) (icell ⟨1,xn,na,ib⟩).toList rfl (O.out.frm (S:=[]) (((Frm.refl [] _).alloc _).alloc _) (by simp)) rfl rfl (icell_at _ _ ⟨1,xn,na,ib⟩) (by intro u hu;simp[icell]at hu;rcases hu with rfl|rfl|rfl|rfl<;>rfl) (by rw[HTC.out];omega) (by rw[HTC.out];omega) (by simp;omega) ?_;intro gg cap2 w4 hown4 hgrow hat hlt4;rw[HTC.out,icl_snoc]at hown4;rw[HTC.out];have O4:=hide hown4;have G4:=hide hgrow;clear hown4 hgrow hat)
     go_roundg m
     case measure=>omega
     case rel=>exact ⟨m,_,_,by omega,rfl,rfl,by omega,by simp;omega,HV2,((F.out.alloc _).alloc _).grown G4.out (fun r hr=>.inr (O.out.lt hr).1),O4.out⟩
    ·obtain ⟨na,hna⟩:=Int.eq_ofNat_of_zero_le (hsp2.1 (by omega))
     obtain ⟨nb,hnb⟩:=Int.eq_ofNat_of_zero_le (hsp2.2 rfl);have n1:=HNr.out.cell ia (by omega);rw[show N[ia]'(by omega)=(na:Int) by rw[← hna];simp[List.getD,show ia<N.length by omega]]at n1;have n2:=HNr.out.cell ib (by omega);rw[show N[ib]'(by omega)=(nb:Int) by rw[← hnb];simp[List.getD,show ib<N.length by omega]]at n2;have hda:decide ((ia:Int)<(l.length:Int))=true:=decide_eq_true (by omega);have hdb:decide ((ib:Int)<(l.length:Int))=true:=decide_eq_true (by omega);have HV2:Hid (turnGo l N m (out++[⟨2,xn,na,nb⟩])=turnM l first):=by
      have e:turnI N ⟨2,xn,ia,ib⟩=⟨2,xn,na,nb⟩:=by simp only[turnI,hna,hnb];simp
      rw[e]at hst;exact hst.symm.trans HV.out
     clear hst HV hsp2 hna hnb;go_wp2_with (at_builtin;refine wp_appG _ rfl _ _ 56 102 _ 4 32 infoIns Tryz.underlying56 rfl (by omega) rfl w1.heap.size (.slice ao out.length co) (icl out) (wr.heap.size+1) (icell ⟨2,xn,na,nb⟩).toList rfl (O.out.frm (S:=[]) (((Frm.refl [] _).alloc _).alloc _) (by simp)) rfl rfl (icell_at _ _ ⟨2,xn,na,nb⟩) (by intro u hu;simp[icell]at hu;rcases hu with rfl|rfl|rfl|rfl<;>rfl) (by rw[HTC.out];omega) (by rw[HTC.out];omega) (by simp;omega) ?_;intro gg cap2 w4 hown4 hgrow hat hlt4;rw[HTC.out,icl_snoc]at hown4;rw[HTC.out];have O4:=hide hown4;have G4:=hide hgrow;clear hown4 hgrow hat)
     go_roundg m
     case measure=>omega
     case rel=>exact ⟨m,_,_,by omega,rfl,rfl,by omega,by simp;omega,HV2,((F.out.alloc _).alloc _).grown G4.out (fun r hr=>.inr (O.out.lt hr).1),O4.out⟩
theorem GL_end:GL [⟨0,0,0,0⟩]:=by
 intro i hi;simp at hi;subst hi;exact .inl rfl
theorem codeM_good{C:List CR}{q:List (List (Nat × Bool))}:GL (layR C q 6 0 0 [⟨0,0,0,0⟩]).2∧(layR C q 6 0 0 [⟨0,0,0,0⟩]).1<(layR C q 6 0 0 [⟨0,0,0,0⟩]).2.length :=
 let h:=layR_good C q 6 0 0 [⟨0,0,0,0⟩] GL_end (by simp)
 ⟨h.1,h.2.1⟩
theorem instructions_any(w0:World)(kb:Nat)(w:World)(V:V6)(rt xx vq:Value)(C:List CR)(q:List (List (Nat × Bool)))(hc:LC w0 kb rt vq C q)(h:LY w0 kb w V ⟨rt,xx,vq, .slice none 0 0⟩ [])(hne:0<C.length) :
 Calls Tryz.prog 27 #[.pointer (some ⟨kb,0,none⟩)] w fun e w'=>∃ v v',e=.returned v∧KR w' kb V ⟨rt,xx,vq,v'⟩∧Frm [kb] w0 w'∧Frm [kb] w w'∧OW 102 4 w.heap.size w' v (icl (codeM C q)):=by
 have HC:=hide hc;obtain ⟨art,capt,ert,_⟩:=hc.hrt.co;subst ert;have r6:=h.row.c 6;simp at r6;have hcl:=hc.cl;have hd0:((C.length:Int)==0)=false:=by rw[beq_eq_false_iff_ne];omega
 have hd0':decide ((C.length:Int)=0)=false:=decide_eq_false (by omega);have N1:=hide (lay_any w0 kb w V _ [] h ⟨0,0,0,0⟩ (by simp));simp only[icell]at N1;have HQ:Hid (codeM C q=turnM (layR C q 6 0 0 [⟨0,0,0,0⟩]).2 (layR C q 6 0 0 [⟨0,0,0,0⟩]).1):=by
  show _=_;unfold codeM;rw[if_neg (by simp;intro e;rw[e]at hne;simp at hne)]
 have HG:=hide (codeM_good (C:=C) (q:=q));have HBD:=hide (layR_bnd hc.cl hc.qb 6 0 0 [⟨0,0,0,0⟩]);clear h hc;go_enter Tryz.func27,Tryz.ntmps27
 go_wp2_with fail
 refine (N1.out).mono ?_;clear N1;rintro e w1 ⟨rfl,v1,hL1,hLF1⟩;have N2:=hide (layRoute_all w0 kb V _ xx vq C q HC.out 6 0 0 w1 v1 [⟨0,0,0,0⟩] hL1 hne (by omega) (by simp[bnd]));have LF1:=hide hLF1;clear hL1 hLF1;generalize layR C q 6 0 0 [⟨0,0,0,0⟩]=X at *;obtain ⟨first,l2⟩:=X;go_wp2_with fail
 refine (N2.out).mono ?_;clear N2;rintro e w2 ⟨rfl,v2,hL2,hLF2⟩;obtain ⟨a2,c2,he⟩:=hL2.o.shape;rw[icl_len]at he;simp only at he;subst he;have hb2:=HBD.out;simp[bnd]at hb2;have N3:=hide (turned_any w2 _ [] l2 (hL2.o.rw (by simp)) HG.out.1 first HG.out.2 (by omega));have r9:=hL2.row.c 9;simp at r9;have L2:=hide hL2;have FW:Hid (Frm [kb] w w2):=(LF1.out.trans hLF2).f;clear hL2 hLF2;go_wp2_with fail
 refine (N3.out).mono ?_;clear N3;rintro e w3 ⟨v3,rfl,hF3,hO3⟩;obtain ⟨a3,c3,he3⟩:=hO3.shape;subst he3;have F3:=hide hF3;have O3:=hide hO3;clear hF3 hO3;go_wp2;go_ret;rw[HQ.out];exact ⟨_,_,rfl,L2.out.row.frm F3.out (by simp),L2.out.fr.over F3.out (by simp),FW.out.over F3.out (by simp),O3.out.base FW.out.size⟩
theorem addQ(g q j:Nat):(⟨g,q,none⟩:Addr).add j=⟨g,q+j,none⟩:=by unfold Addr.add;split<;>simp_all
theorem alloc_at(w:World)(o:Obj)(k:Nat)(h:w.heap.size=k):(w.alloc o).heap[k]?=some o:=by subst h;exact heap1 w o
def HitBQ(x:HitM)(w:World)(e:Ending)(w':World):Prop :=
 ∃ g,e=.returned (.agg (hcell x (.slice (some ⟨g,0,none⟩) x.bl.length x.bl.length)))∧Frm [] w w'∧w.heap.size≤g∧g<w'.heap.size∧RW [] 1 w' (.slice (some ⟨g,0,none⟩) x.bl.length x.bl.length) (sc x.bl)
theorem copy_strs(W:World)(g:Nat)(bl:List (List UInt8))(ax:Option Addr)(cx:Nat)(Z:List Value)(hZ:Z.length=bl.length)(hg:W.heap[g]?=some (.cells Z.toArray 9 (0,0)))(hr:RW [] 1 W (.slice ax bl.length cx) (sc bl)) :
 ∃ W4,(Builtin.copy_ #[47,47] 3 #[.slice (some ⟨g,0,none⟩) bl.length bl.length, .slice ax bl.length cx]).run Tryz.prog W=.ok (.int .i64 (bl.length:Int)) W4∧W4.heap[g]?=some (.cells (bl.map fun s=>Value.string (bs s)).toArray 9 (0,0))∧Below g W W4:=by
 by_cases h0:bl=[]
 ·subst h0
  obtain rfl:Z=[]:=List.eq_nil_of_length_eq_zero hZ;exact ⟨W,run_copy_none (P:=Tryz.prog) W 47 47 3 9 _ _ 0 0 0 cx Tryz.underlying47 infoStr1 rfl,hg,Below.refl _ _⟩
 ·have hpos:0<bl.length:=List.length_pos_iff.2 h0
  obtain ⟨a',c',e,hrow⟩:=hr.str;simp only[Value.slice.injEq,true_and]at e;obtain ⟨rfl,rfl⟩:=e;obtain ⟨ga,oa,rfl,_,_⟩:=hrow 0 hpos;have hl:(bl.map fun s=>Value.string (bs s)).length=bl.length:=by simp
  have hrun:=run_copy_row Tryz.prog W 47 47 3 9 g 0 bl.length bl.length ⟨ga,oa,none⟩ bl.length cx Z.toArray 9 (bl.map fun s=>Value.string (bs s)) Tryz.underlying47 infoStr1 hg (by rw[hl];exact (Nat.min_self _).symm) (by
   intro j v hv;rw[List.getElem?_map,Option.map_eq_some_iff]at hv;obtain ⟨y,hy,rfl⟩:=hv;obtain ⟨hj,rfl⟩:=List.getElem?_eq_some_iff.1 hy;obtain ⟨g',off',e',hg',hc'⟩:=hrow j hj;simp only[Option.some.injEq,Addr.mk.injEq,and_true]at e';obtain ⟨rfl,rfl⟩:=e';rw[addQ];exact hc') (by simp[hZ]) (by
   intro v hv;obtain ⟨y,_,rfl⟩:=List.mem_map.1 hv
   rfl)
  rw[hl]at hrun;refine ⟨_,hrun,?_,below_setRow (Below.refl _ _) (Nat.le_refl _) _⟩;rw[setRow_heap W g _ _ 9 _ hg];have e2:Z.drop bl.length=[]:=List.drop_eq_nil_of_le (by omega);simp[e2]
theorem hitBelow_any(x:HitM)(c:CR)(aa:Option Addr)(ca:Nat)(vby vif:Value)(w:World)(ha:RW [] 1 w (.slice aa x.bl.length ca) (sc x.bl))(hb:RW [] 1 w vby (sc c.bys))(hif:∃ ai ci,vif=.slice ai c.ifs.length ci)(hx:x.bl.length≤1000)(hc:c.bys.length≤1000)(hw:-1≤c.wt∧-1≤c.ev∧-1≤c.rp) :
 Calls Tryz.prog 49 #[.agg (hcell x (.slice aa x.bl.length ca)), .agg (rcl c vby vif)] w (HitBQ (hitB x c) w):=by
 obtain ⟨ai,ci,rfl⟩:=hif;obtain ⟨ay,cy,rfl,_⟩:=hb.str;have T1:Hid (∀ W,Calls Tryz.prog 73 #[.int .i64 c.wt, .int .i64 (x.wt:Nat)] W fun e w'=>e=.returned (.int .i64 (tld c.wt x.wt:Nat))∧W=w'):=fun W=>toldOr_any W c.wt x.wt hw.1
 have T2:Hid (∀ W,Calls Tryz.prog 73 #[.int .i64 c.ev, .int .i64 (x.ev:Nat)] W fun e w'=>e=.returned (.int .i64 (tld c.ev x.ev:Nat))∧W=w'):=fun W=>toldOr_any W c.ev x.ev hw.2.1
 have T3:Hid (∀ W,Calls Tryz.prog 73 #[.int .i64 c.rp, .int .i64 (x.rp:Nat)] W fun e w'=>e=.returned (.int .i64 (tld c.rp x.rp:Nat))∧W=w'):=fun W=>toldOr_any W c.rp x.rp hw.2.2
 obtain ⟨rc2,hrc2⟩:∃ rc2,rc2=if c.rc == [45] then x.rc else c.rc:=⟨_,rfl⟩
 obtain ⟨bl,hbl⟩:∃ bl,bl=if c.tb then c.bys else x.bl:=⟨_,rfl⟩
 have HH:Hid (hitB x c=⟨rc2,bl,tld c.wt x.wt,tld c.ev x.ev,tld c.rp x.rp⟩):=by show _=_;rw[hrc2,hbl];rfl
 obtain ⟨ax,cx,hvx,hRx⟩:∃ ax cx,(if c.tb then Value.slice ay c.bys.length cy else .slice aa x.bl.length ca)=.slice ax bl.length cx∧RW [] 1 w (.slice ax bl.length cx) (sc bl):=by
  cases htb:c.tb
  ·rw[htb]at hbl
   simp only[Bool.false_eq_true,if_false]at hbl;subst hbl;exact ⟨aa,ca,rfl,ha⟩
  ·rw[htb]at hbl
   simp only[if_true]at hbl;subst hbl;exact ⟨ay,cy,rfl,hb⟩
 have hlen:bl.length≤1000:=by rw[hbl];split<;>omega
 obtain ⟨Zl,hZ⟩:∃ Zl:List Value,Zl=(madeCells #[.string ByteArray.empty] bl.length).toList:=⟨_,rfl⟩;have HZL:Hid (Zl.length=bl.length):=by show _=_;rw[hZ,Array.length_toList];exact size_madeCells _ _
 have hmk:∀ u:World,(Instr.makeSlice 47 (.int .i64 (bl.length:Int)) (.int .i64 (bl.length:Int))).run Tryz.prog u=.ok (.slice (some ⟨u.heap.size,0,none⟩) bl.length bl.length) (u.alloc (.cells Zl.toArray 9)):=fun u=>by
  obtain ⟨i0,hi,hz0,hz1,hz2⟩:=info_parts2 infoStr;have:=run_make (P:=Tryz.prog) u 47 9 i0 (.string ByteArray.empty) Tryz.underlying47 hi hz0 .i64 .i64 (bl.length:Int) (bl.length:Int) (by omega) (Int.le_refl _) (by rw[hz2];omega) (by omega);rw[hz1,Int.toNat_natCast,Nat.mul_one]at this;rw[this,hZ];rfl
 have FW:Frm [] w (((((w.alloc (Obj.cells #[.string (bs x.rc), .slice aa x.bl.length ca, .int .i64 (x.wt:Nat), .int .i64 (x.ev:Nat), .int .i64 (x.rp:Nat)] 99)).alloc (Obj.cells #[.int .i64 (c.d:Nat), .string (bs c.rc), .bool c.tb, .slice ay c.bys.length cy, .int .i64 c.wt, .int .i64 c.ev, .int .i64 c.rp, .slice ai c.ifs.length ci, .bool c.co] 78)).alloc (Obj.cells #[.string { data:=#[] }, .slice none 0 0, .int .i64 0, .int .i64 0, .int .i64 0] 99)).alloc (Obj.cells #[.string (bs rc2), .slice (some ⟨w.heap.size+1+1+1+1,0,none⟩) bl.length bl.length, .int .i64 0, .int .i64 0, .int .i64 0] 99)).alloc (Obj.cells Zl.toArray 9)):=(((((Frm.refl [] w).alloc _).alloc _).alloc _).alloc _).alloc _;obtain ⟨w4,hcp,HG4,hB4⟩:=copy_strs (((((w.alloc (Obj.cells #[.string (bs x.rc), .slice aa x.bl.length ca, .int .i64 (x.wt:Nat), .int .i64 (x.ev:Nat), .int .i64 (x.rp:Nat)] 99)).alloc (Obj.cells #[.int .i64 (c.d:Nat), .string (bs c.rc), .bool c.tb, .slice ay c.bys.length cy, .int .i64 c.wt, .int .i64 c.ev, .int .i64 c.rp, .slice ai c.ifs.length ci, .bool c.co] 78)).alloc (Obj.cells #[.string { data:=#[] }, .slice none 0 0, .int .i64 0, .int .i64 0, .int .i64 0] 99)).alloc (Obj.cells #[.string (bs rc2), .slice (some ⟨w.heap.size+1+1+1+1,0,none⟩) bl.length bl.length, .int .i64 0, .int .i64 0, .int .i64 0] 99)).alloc (Obj.cells Zl.toArray 9)) (w.heap.size+1+1+1+1) bl ax cx Zl HZL.out (alloc_at _ _ _ (by simp)) (hRx.frm FW (by simp));have F4:=hide (FW.below_trans hB4 (by omega));have C0:=(hB4.block w.heap.size (by omega)).trans (((((((Frm.refl [] _).alloc _).alloc _).alloc _).alloc _).block w.heap.size (by simp) (by simp)).trans (heap1 _ _));have C1:=(hB4.block (w.heap.size+1) (by omega)).trans ((((((Frm.refl [] _).alloc _).alloc _).alloc _).block (w.heap.size+1) (by simp) (by simp)).trans (alloc_at _ _ (w.heap.size+1) (by simp)));have C2:=(hB4.block (w.heap.size+1+1) (by omega)).trans (((((Frm.refl [] _).alloc _).alloc _).block (w.heap.size+1+1) (by simp) (by simp)).trans (alloc_at _ _ (w.heap.size+1+1) (by simp)));have C3:=(hB4.block (w.heap.size+1+1+1) (by omega)).trans ((((Frm.refl [] _).alloc _).block (w.heap.size+1+1+1) (by simp) (by simp)).trans (alloc_at _ _ (w.heap.size+1+1+1) (by simp)));have a2:w4.cell? ⟨w.heap.size,2,none⟩=some (.int .i64 (x.wt:Nat)):=by simp[World.cell?,C0]
 have a3:w4.cell? ⟨w.heap.size,3,none⟩=some (.int .i64 (x.ev:Nat)):=by simp[World.cell?,C0]
 have a4:w4.cell? ⟨w.heap.size,4,none⟩=some (.int .i64 (x.rp:Nat)):=by simp[World.cell?,C0]
 have r4:w4.cell? ⟨w.heap.size+1,4,none⟩=some (.int .i64 c.wt):=by simp[World.cell?,C1]
 have r5:w4.cell? ⟨w.heap.size+1,5,none⟩=some (.int .i64 c.ev):=by simp[World.cell?,C1]
 have r6:w4.cell? ⟨w.heap.size+1,6,none⟩=some (.int .i64 c.rp):=by simp[World.cell?,C1]
 have e0:w4.cell? ⟨w.heap.size+1+1,0,none⟩=some (.string { data:=#[] }):=by simp[World.cell?,C2]
 have e1:w4.cell? ⟨w.heap.size+1+1,1,none⟩=some (.slice none 0 0):=by simp[World.cell?,C2]
 have e2:w4.cell? ⟨w.heap.size+1+1,2,none⟩=some (.int .i64 0):=by simp[World.cell?,C2]
 have e3:w4.cell? ⟨w.heap.size+1+1,3,none⟩=some (.int .i64 0):=by simp[World.cell?,C2]
 have e4:w4.cell? ⟨w.heap.size+1+1,4,none⟩=some (.int .i64 0):=by simp[World.cell?,C2]
 have ez:∀ o,w4.frozen? ⟨w.heap.size+1+1,o,none⟩=false:=fun o=>by simp[World.frozen?,C2]
 have h0:w4.cell? ⟨w.heap.size+1+1+1,0,none⟩=some (.string (bs rc2)):=by simp[World.cell?,C3]
 have h1:w4.cell? ⟨w.heap.size+1+1+1,1,none⟩=some (.slice (some ⟨w.heap.size+1+1+1+1,0,none⟩) bl.length bl.length):=by simp[World.cell?,C3]
 have h2:w4.cell? ⟨w.heap.size+1+1+1,2,none⟩=some (.int .i64 0):=by simp[World.cell?,C3]
 have h3:w4.cell? ⟨w.heap.size+1+1+1,3,none⟩=some (.int .i64 0):=by simp[World.cell?,C3]
 have h4:w4.cell? ⟨w.heap.size+1+1+1,4,none⟩=some (.int .i64 0):=by simp[World.cell?,C3]
 have hz4:∀ o,w4.frozen? ⟨w.heap.size+1+1+1,o,none⟩=false:=fun o=>by simp[World.frozen?,C3]
 have C2H:=hide C2;have HG:=hide HG4;have hsz4:w.heap.size+1+1+1+1<w4.heap.size:=(Array.getElem?_eq_some_iff.1 HG4).1;have hl:=bs_toList;have hk45:({ data:=#[45] }:ByteArray).toList=[45]:=bs_toList [45];clear C0 C1 C2 C3 hB4 FW HG4 ha hb hRx hZ;simp only[hcell,rcl];go_enter Tryz.func49,Tryz.ntmps49
 cases htb:c.tb<;>cases hrc:(c.rc == [45])
 all_goals
  rw[htb]at hbl hvx hcp;rw[hrc]at hrc2;simp only[Bool.false_eq_true,if_false,if_true,Value.slice.injEq]at hbl hvx hrc2;subst hbl hrc2;obtain ⟨rfl,_,rfl⟩:=hvx
 ·go_wp2_with fail
  refine (T1.out _).mono ?_;rintro e w' ⟨rfl,rfl⟩;go_wp2_with fail
  refine (T2.out _).mono ?_;rintro e w' ⟨rfl,rfl⟩;go_wp2_with fail
  refine (T3.out _).mono ?_;rintro e w' ⟨rfl,rfl⟩;go_wp2_with fail
  have FS:∀ (u:World) (o:Nat) (v:Value),Frm [w.heap.size+1+1+1] u (u.setCell ⟨w.heap.size+1+1+1,o,none⟩ v):=fun u o v=>(Frm.refl _ _).setCell (p:=⟨w.heap.size+1+1+1,o,none⟩) (.inl (by simp)) _
  have hs1:=fun (u:World) (o:Nat) (v:Value)=>(FS u o v).size
  refine bodyPost_ret (results_cell1 rfl _ _ (w.heap.size+1+1) (hcell ⟨c.rc,x.bl,tld c.wt x.wt,tld c.ev x.ev,tld c.rp x.rp⟩ (.slice (some ⟨w.heap.size+1+1+1+1,0,none⟩) x.bl.length x.bl.length)) rfl (loadHit (set5_row _ _ _ _ _ (((FS _ _ _).block (w.heap.size+1+1) (by have:=hs1;simp;omega) (by simp)).trans (((FS _ _ _).block (w.heap.size+1+1) (by simp;omega) (by simp)).trans (((FS _ _ _).block (w.heap.size+1+1) (by omega) (by simp)).trans C2H.out)))) rfl)) rfl ?_;have R4:RW [w.heap.size+1+1,w.heap.size+1+1+1] 1 w4 (.slice (some ⟨w.heap.size+1+1+1+1,0,none⟩) x.bl.length x.bl.length) (sc x.bl):=by
   refine ⟨_,x.bl.length,by rw[sc_len],by rw[sc_len];exact Nat.le_refl _,fun j hj=>⟨w.heap.size+1+1+1+1,0,rfl,by simp<;>omega,hsz4,fun k u hu=>?_⟩⟩;rw[sc_len]at hj;have hu2:k=0:=by
    cases k with
    | zero=>rfl
    | succ k=>simp[sc]at hu
   subst hu2;simp[sc]at hu;subst hu;simp[World.cell?,HG.out,hj]
  rw[HH.out];refine ⟨w.heap.size+1+1+1+1,rfl,?_,by omega,?_,?_⟩
  ·exact (((F4.out.over (FS _ _ _) (by simp;omega)).over (FS _ _ _) (by simp;omega)).over (FS _ _ _) (by simp;omega)).over (set5_frm _ _ _ _ _ _ _) (by simp;omega)
  ·exact Nat.lt_of_lt_of_le hsz4 (Nat.le_trans (Nat.le_trans (Nat.le_trans (FS _ _ _).size (FS _ _ _).size) (FS _ _ _).size) (set5_frm _ _ _ _ _ _ _).size)
  ·exact ((((R4.frm (FS _ _ _) (by simp)).frm (FS _ _ _) (by simp)).frm (FS _ _ _) (by simp)).frm (set5_frm _ _ _ _ _ _ _) (by simp)).avoid (by simp)
 ·go_wp2_with fail
  refine (T1.out _).mono ?_;rintro e w' ⟨rfl,rfl⟩;go_wp2_with fail
  refine (T2.out _).mono ?_;rintro e w' ⟨rfl,rfl⟩;go_wp2_with fail
  refine (T3.out _).mono ?_;rintro e w' ⟨rfl,rfl⟩;go_wp2_with fail
  have FS:∀ (u:World) (o:Nat) (v:Value),Frm [w.heap.size+1+1+1] u (u.setCell ⟨w.heap.size+1+1+1,o,none⟩ v):=fun u o v=>(Frm.refl _ _).setCell (p:=⟨w.heap.size+1+1+1,o,none⟩) (.inl (by simp)) _
  have hs1:=fun (u:World) (o:Nat) (v:Value)=>(FS u o v).size
  refine bodyPost_ret (results_cell1 rfl _ _ (w.heap.size+1+1) (hcell ⟨x.rc,x.bl,tld c.wt x.wt,tld c.ev x.ev,tld c.rp x.rp⟩ (.slice (some ⟨w.heap.size+1+1+1+1,0,none⟩) x.bl.length x.bl.length)) rfl (loadHit (set5_row _ _ _ _ _ (((FS _ _ _).block (w.heap.size+1+1) (by have:=hs1;simp;omega) (by simp)).trans (((FS _ _ _).block (w.heap.size+1+1) (by simp;omega) (by simp)).trans (((FS _ _ _).block (w.heap.size+1+1) (by omega) (by simp)).trans C2H.out)))) rfl)) rfl ?_;have R4:RW [w.heap.size+1+1,w.heap.size+1+1+1] 1 w4 (.slice (some ⟨w.heap.size+1+1+1+1,0,none⟩) x.bl.length x.bl.length) (sc x.bl):=by
   refine ⟨_,x.bl.length,by rw[sc_len],by rw[sc_len];exact Nat.le_refl _,fun j hj=>⟨w.heap.size+1+1+1+1,0,rfl,by simp<;>omega,hsz4,fun k u hu=>?_⟩⟩;rw[sc_len]at hj;have hu2:k=0:=by
    cases k with
    | zero=>rfl
    | succ k=>simp[sc]at hu
   subst hu2;simp[sc]at hu;subst hu;simp[World.cell?,HG.out,hj]
  rw[HH.out];refine ⟨w.heap.size+1+1+1+1,rfl,?_,by omega,?_,?_⟩
  ·exact (((F4.out.over (FS _ _ _) (by simp;omega)).over (FS _ _ _) (by simp;omega)).over (FS _ _ _) (by simp;omega)).over (set5_frm _ _ _ _ _ _ _) (by simp;omega)
  ·exact Nat.lt_of_lt_of_le hsz4 (Nat.le_trans (Nat.le_trans (Nat.le_trans (FS _ _ _).size (FS _ _ _).size) (FS _ _ _).size) (set5_frm _ _ _ _ _ _ _).size)
  ·exact ((((R4.frm (FS _ _ _) (by simp)).frm (FS _ _ _) (by simp)).frm (FS _ _ _) (by simp)).frm (set5_frm _ _ _ _ _ _ _) (by simp)).avoid (by simp)
 ·go_wp2_with fail
  refine (T1.out _).mono ?_;rintro e w' ⟨rfl,rfl⟩;go_wp2_with fail
  refine (T2.out _).mono ?_;rintro e w' ⟨rfl,rfl⟩;go_wp2_with fail
  refine (T3.out _).mono ?_;rintro e w' ⟨rfl,rfl⟩;go_wp2_with fail
  have FS:∀ (u:World) (o:Nat) (v:Value),Frm [w.heap.size+1+1+1] u (u.setCell ⟨w.heap.size+1+1+1,o,none⟩ v):=fun u o v=>(Frm.refl _ _).setCell (p:=⟨w.heap.size+1+1+1,o,none⟩) (.inl (by simp)) _
  have hs1:=fun (u:World) (o:Nat) (v:Value)=>(FS u o v).size
  refine bodyPost_ret (results_cell1 rfl _ _ (w.heap.size+1+1) (hcell ⟨c.rc,c.bys,tld c.wt x.wt,tld c.ev x.ev,tld c.rp x.rp⟩ (.slice (some ⟨w.heap.size+1+1+1+1,0,none⟩) c.bys.length c.bys.length)) rfl (loadHit (set5_row _ _ _ _ _ (((FS _ _ _).block (w.heap.size+1+1) (by have:=hs1;simp;omega) (by simp)).trans (((FS _ _ _).block (w.heap.size+1+1) (by simp;omega) (by simp)).trans (((FS _ _ _).block (w.heap.size+1+1) (by omega) (by simp)).trans C2H.out)))) rfl)) rfl ?_;have R4:RW [w.heap.size+1+1,w.heap.size+1+1+1] 1 w4 (.slice (some ⟨w.heap.size+1+1+1+1,0,none⟩) c.bys.length c.bys.length) (sc c.bys):=by
   refine ⟨_,c.bys.length,by rw[sc_len],by rw[sc_len];exact Nat.le_refl _,fun j hj=>⟨w.heap.size+1+1+1+1,0,rfl,by simp<;>omega,hsz4,fun k u hu=>?_⟩⟩;rw[sc_len]at hj;have hu2:k=0:=by
    cases k with
    | zero=>rfl
    | succ k=>simp[sc]at hu
   subst hu2;simp[sc]at hu;subst hu;simp[World.cell?,HG.out,hj]
  rw[HH.out];refine ⟨w.heap.size+1+1+1+1,rfl,?_,by omega,?_,?_⟩
  ·exact (((F4.out.over (FS _ _ _) (by simp;omega)).over (FS _ _ _) (by simp;omega)).over (FS _ _ _) (by simp;omega)).over (set5_frm _ _ _ _ _ _ _) (by simp;omega)
  ·exact Nat.lt_of_lt_of_le hsz4 (Nat.le_trans (Nat.le_trans (Nat.le_trans (FS _ _ _).size (FS _ _ _).size) (FS _ _ _).size) (set5_frm _ _ _ _ _ _ _).size)
  ·exact ((((R4.frm (FS _ _ _) (by simp)).frm (FS _ _ _) (by simp)).frm (FS _ _ _) (by simp)).frm (set5_frm _ _ _ _ _ _ _) (by simp)).avoid (by simp)
 ·go_wp2_with fail
  refine (T1.out _).mono ?_;rintro e w' ⟨rfl,rfl⟩;go_wp2_with fail
  refine (T2.out _).mono ?_;rintro e w' ⟨rfl,rfl⟩;go_wp2_with fail
  refine (T3.out _).mono ?_;rintro e w' ⟨rfl,rfl⟩;go_wp2_with fail
  have FS:∀ (u:World) (o:Nat) (v:Value),Frm [w.heap.size+1+1+1] u (u.setCell ⟨w.heap.size+1+1+1,o,none⟩ v):=fun u o v=>(Frm.refl _ _).setCell (p:=⟨w.heap.size+1+1+1,o,none⟩) (.inl (by simp)) _
  have hs1:=fun (u:World) (o:Nat) (v:Value)=>(FS u o v).size
  refine bodyPost_ret (results_cell1 rfl _ _ (w.heap.size+1+1) (hcell ⟨x.rc,c.bys,tld c.wt x.wt,tld c.ev x.ev,tld c.rp x.rp⟩ (.slice (some ⟨w.heap.size+1+1+1+1,0,none⟩) c.bys.length c.bys.length)) rfl (loadHit (set5_row _ _ _ _ _ (((FS _ _ _).block (w.heap.size+1+1) (by have:=hs1;simp;omega) (by simp)).trans (((FS _ _ _).block (w.heap.size+1+1) (by simp;omega) (by simp)).trans (((FS _ _ _).block (w.heap.size+1+1) (by omega) (by simp)).trans C2H.out)))) rfl)) rfl ?_;have R4:RW [w.heap.size+1+1,w.heap.size+1+1+1] 1 w4 (.slice (some ⟨w.heap.size+1+1+1+1,0,none⟩) c.bys.length c.bys.length) (sc c.bys):=by
   refine ⟨_,c.bys.length,by rw[sc_len],by rw[sc_len];exact Nat.le_refl _,fun j hj=>⟨w.heap.size+1+1+1+1,0,rfl,by simp<;>omega,hsz4,fun k u hu=>?_⟩⟩;rw[sc_len]at hj;have hu2:k=0:=by
    cases k with
    | zero=>rfl
    | succ k=>simp[sc]at hu
   subst hu2;simp[sc]at hu;subst hu;simp[World.cell?,HG.out,hj]
  rw[HH.out];refine ⟨w.heap.size+1+1+1+1,rfl,?_,by omega,?_,?_⟩
  ·exact (((F4.out.over (FS _ _ _) (by simp;omega)).over (FS _ _ _) (by simp;omega)).over (FS _ _ _) (by simp;omega)).over (set5_frm _ _ _ _ _ _ _) (by simp;omega)
  ·exact Nat.lt_of_lt_of_le hsz4 (Nat.le_trans (Nat.le_trans (Nat.le_trans (FS _ _ _).size (FS _ _ _).size) (FS _ _ _).size) (set5_frm _ _ _ _ _ _ _).size)
  ·exact ((((R4.frm (FS _ _ _) (by simp)).frm (FS _ _ _) (by simp)).frm (FS _ _ _) (by simp)).frm (set5_frm _ _ _ _ _ _ _) (by simp)).avoid (by simp)
end Go.Proofs.YtpcbbbilmpobaaaGreatDoor
