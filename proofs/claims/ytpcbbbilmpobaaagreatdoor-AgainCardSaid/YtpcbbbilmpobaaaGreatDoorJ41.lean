import Derived.Test.YtpcbbbilmpobaaaGreatDoorJ40
import Derived.Test.YtpcbbbilmpobaaaGreatDoorJ38
import Derived.Deep.WholeRow
set_option linter.unusedVariables false
set_option linter.unusedSimpArgs false
set_option linter.unnecessarySimpa false
set_option maxRecDepth 100000
set_option maxHeartbeats 4000000
namespace Go.Proofs.YtpcbbbilmpobaaaGreatDoor
open Go.RowKit
theorem orL_perm{xs ys:List NF}(hw:∀ x∈ys,wf x)(h:xs.Perm ys):orL xs=orL ys :=
 orL_congr (fun x hx=>hw x (h.mem_iff.1 hx)) hw fun p=>(h.flatMap_right parts).mem_iff
theorem OrOK.perm{U xs ys:List NF}(hw:∀ x∈ys,wf x)(h:xs.Perm ys)(k:OrOK U ys):OrOK U xs:=by
 have hf:=h.flatMap_right parts;have hj:joinB (xs.flatMap parts)=joinB (ys.flatMap parts):=joinB_congr fun i=>by
  rw[Bool.eq_iff_iff,List.any_eq_true,List.any_eq_true];exact ⟨fun ⟨x,hx,e⟩=>⟨x,hf.mem_iff.1 hx,e⟩,fun ⟨x,hx,e⟩=>⟨x,hf.mem_iff.2 hx,e⟩⟩
 have hs:srt (coreL (xs.flatMap parts))=srt (coreL (ys.flatMap parts)) :=
  srt_core_eq (flat_wf fun x hx=>hw x (h.mem_iff.1 hx)) (flat_wf hw) (fun p _=>hf.mem_iff) hj
 refine ⟨fun h0=>?_,fun h2=>?_,?_,?_⟩
 ·rw[hj]at h0 ⊢;exact k.1 h0
 ·rw[orL_perm hw h];rw[hs]at h2;exact k.2.1 h2
 ·rw[hf.length_eq];exact k.2.2.1
 ·rw[h.length_eq];exact k.2.2.2
theorem GQ.first{base:Nat}{w w0 wr:World}{fb vb:Nat}{D:List NF}{ak c:Nat}{U:List NF}{Z:List Nat}{X:List NF}{e:Ending}(f:Frm [] w w0)(h:RQ base w0 fb vb D ak c U Z (orL X) e wr):RQ base w fb vb D ak c U Z (orL X) e wr:=RQ.first f h
theorem ST.noInt{base:Nat}{w:World}{fb vb:Nat}{D:List NF}{ak c:Nat}{U:List NF}{Z:List Nat}(h:ST base w fb vb D ak c U Z):NoInt w [fb,vb]:=h.tbl.2.2.2.2.2.2.2.2.2
theorem leftOfSum_any(l:List NF)(ih:∀ y∈l,LfC y)(base:Nat)(w:World)(fb vb:Nat)(D:List NF)(ak c:Nat)(U:List NF)(Z:List Nat)(L:List Nat)(kd s0 s1 s2 s3 lk ak' lf fi se:Int)(te:Bool)(av:Option Addr)(cv:Nat)
 (h:ST base w fb vb D ak c U Z) (hp:PL w (.slice av L.length cv) L) (hl:∀ j∈L,j<D.length) (hm:(L.map fun j=>D.getD j .zero).Perm l) (hn:Need c U (.sum l)) (hc:c<256) (ha:1≤ak) (hw:∀ x∈l,wf x) :
 Calls Tryz.prog 158 #[.pointer (some ⟨fb,0,none⟩), .agg #[.int .i64 kd, .int .u64 s0, .int .u64 s1, .int .u64 s2, .int .u64 s3, .int .i64 fi, .int .i64 se, .slice av L.length cv, .bool te, .int .i64 lk, .int .i64 ak', .int .i64 lf], .int .u8 c] w (RQ base w fb vb D ak c U Z (left c (.sum l))):=by
 have HS:=hide h;have HP:=hide hp;have HL:=hide hl;have HM:=hide hm;have HN:=hide hn;have HI:=hide ih;have hLl:L.length≤9000000000000:=by
  have h1:=hn.2.2.2.2;rw[leftL_map,List.length_map]at h1;have h2:=hm.length_eq;rw[List.length_map]at h2;omega
 have pm:(L.map fun q=>left c (D.getD q .zero)).Perm (leftL c l):=by
  rw[leftL_map];have:=hm.map (left c);rw[List.map_map]at this;exact this
 have wl:∀ x∈leftL c l,wf x:=by
  intro x hx;rw[leftL_map]at hx;obtain ⟨y,hy,rfl⟩:=List.mem_map.1 hx;exact left_wf c y (hw y hy)
 have HLF:Hid (left c (.sum l)=orL (L.map fun q=>left c (D.getD q .zero))):=by
  show _=_;rw[orL_perm wl pm];rfl
 have HOK:Hid (OrOK U (L.map fun q=>left c (D.getD q .zero))):=OrOK.perm wl pm hn.2;have F0:Frm [] w (w.alloc (Obj.cells #[.int .i64 kd, .int .u64 s0, .int .u64 s1, .int .u64 s2, .int .u64 s3, .int .i64 fi, .int .i64 se, .slice av L.length cv, .bool te, .int .i64 lk, .int .i64 ak', .int .i64 lf] 206)):=(Frm.refl _ _).alloc _;have q7:∀ o,((w.alloc (Obj.cells #[.int .i64 kd, .int .u64 s0, .int .u64 s1, .int .u64 s2, .int .u64 s3, .int .i64 fi, .int .i64 se, .slice av L.length cv, .bool te, .int .i64 lk, .int .i64 ak', .int .i64 lf] 206)).alloc o).cell? ⟨w.heap.size,7,none⟩=some (.slice av L.length cv):=by
  intro o;rw[((Frm.refl [] _).alloc o).cell (p:=⟨w.heap.size,7,none⟩) (by simp) (by simp)];have:=heap1 w (Obj.cells #[.int .i64 kd, .int .u64 s0, .int .u64 s1, .int .u64 s2, .int .u64 s3, .int .i64 fi, .int .i64 se, .slice av L.length cv, .bool te, .int .i64 lk, .int .i64 ak', .int .i64 lf] 206);simp only[World.cell?,this]
  rfl
 have hz:(w.alloc (Obj.cells #[.int .i64 kd, .int .u64 s0, .int .u64 s1, .int .u64 s2, .int .u64 s3, .int .i64 fi, .int .i64 se, .slice av L.length cv, .bool te, .int .i64 lk, .int .i64 ak', .int .i64 lf] 206)).heap.size=w.heap.size+1:=by simp
 have HZ:=hide hz;clear hz;clear h hp hl hm hn ih pm wl hw;rw[HLF.out];go_enter Tryz.func158,Tryz.ntmps158
 go_wp2_with fail
 generalize w.alloc (Obj.cells #[.int .i64 kd, .int .u64 s0, .int .u64 s1, .int .u64 s2, .int .u64 s3, .int .i64 fi, .int .i64 se, .slice av L.length cv, .bool te, .int .i64 lk, .int .i64 ak', .int .i64 lf] 206)=w0 at F0 q7 HZ ⊢;have hz:=HZ.out;clear HZ;have HF0:=hide F0;have z0:=F0.size;have hz0:=hz;rw[← hz0];clear hz0 hz;clear F0 q7;go_loopg [7,15] L.length (fun k v7 v15 wr=>∃ (j:Nat) (I:List Nat) (vb':Nat) (R:List NF),j+k=L.length∧v15=.int .i64 j∧I.length≤j∧GQ base w0 wr fb vb D ak c U Z v7 I ((L.take j).map fun q=>left c (D.getD q .zero)) vb' R∧PL wr (.slice av L.length cv) L)
 case atStart=>exact ⟨0,[],vb,[],by omega,rfl,by simp,GQ.start (HS.out.keep HF0.out),(HP.out.frm HF0.out (NoInt.nil _)).frm ((Frm.refl _ _).alloc _) (NoInt.nil _)⟩
 case round =>
  obtain ⟨j,I,vb1,R,hj,rfl,hIl,hg,hpl⟩:=hrel;obtain ⟨a5,c5,rfl⟩:=own_shape hg.il;have G:=hide hg;have P3:=hide hpl;have zr:=hg.fq.fr.size;clear hg hpl
  by_cases hlt:j<L.length
  ·obtain ⟨a3,c3,e3,h3⟩:=P3.out.1
   simp only[Value.slice.injEq,true_and]at e3;obtain ⟨rfl,rfl⟩:=e3;obtain ⟨g,off,rfl,hg2,hc3⟩:=h3 j hlt;have hblk:g<w.heap.size:=HP.out.blk rfl;have hLj:=HL.out L[j] (List.getElem_mem hlt);have hDj:(D++R)[L[j]]?=some (D.getD L[j] .zero):=get_app (getD_some hLj);have hmem:D.getD L[j] .zero∈l:=HM.out.mem_iff.1 (List.mem_map.2 ⟨L[j],List.getElem_mem hlt,rfl⟩);have C:=hide (HI.out _ hmem base wr fb vb1 (D++R) ak c U ((Value.ownBlock (.slice a5 I.length c5)).toList++Z) L[j] G.out.st hDj (needL_mem.1 HN.out.1 _ hmem) hc ha);have HT:Hid (((L.take (j+1)).map fun q=>left c (D.getD q .zero))=((L.take j).map fun q=>left c (D.getD q .zero))++[left c (D.getD L[j] .zero)]):=by
    have:=map_take_succ L (fun q=>left c (D.getD q .zero)) j hlt [];exact this
   clear h3 hLj hDj hmem;generalize left c (D.getD L[j] .zero)=y at *;generalize L[j]=q at *;go_wp2_with fail
   refine (C.out).mono ?_;rintro e w2 ⟨vb2,R2,r2,rfl,hst2,hr2,hq2⟩;have G2:=hide (G.out.turn hst2 hq2);have P4:=hide (P3.out.frm hq2.fr G.out.st.noInt);have z2:=hq2.fr.size;have HR2:Hid ((D++(R++R2))[r2]?=some y):=by show _=_;rw[← List.append_assoc];exact hr2
   clear hst2 hr2 hq2 C hc3 G P3;go_wp2_with (first | (at_builtin;refine wp_appI _ rfl _ _ rfl w0.heap.size (.slice a5 I.length c5) I r2 w2.heap.size rfl (G2.out.il.alloc _) rfl (cell_newX _ _ _ _ rfl) (by omega) (by simp;omega) ?_;intro gg cap2 w5 hown hgrow hat hgl;have G5:=hide (G2.out.add HR2.out hown hgrow hat hgl);have P5:=hide ((P4.out.frm ((Frm.refl [] w2).alloc _) (NoInt.nil _)).frm2 (Frm.of_grow hgrow) (fun a n cc e hm=>by simp at e;obtain ⟨rfl,_⟩:=e;rw[Option.mem_toList]at hm;have:=(G2.out.il.lt _ hm).1;simp at this;omega));clear hown hgrow hat))
   go_roundg (gk-1)
   case measure=>omega
   case rel=>exact ⟨j+1,I++[r2],vb2,R++R2,by omega,by go_num,by simp only[List.length_append,List.length_cons,List.length_nil];omega,by rw[HT.out];simpa using G5.out,P5.out⟩
  ·have G2:Hid (GQ base w0 wr fb vb D ak c U Z (.slice a5 I.length c5) I (L.map fun q=>left c (D.getD q .zero)) vb1 R):=by
    have:=G.out;rw[List.take_of_length_le (by omega)]at this;exact this
   have C:=hide (G2.out.or HOK.out);clear G G2 P3;go_wp2_with fail
   refine (C.out).mono ?_;rintro e w3 hrq;have R3:=hide (RQ.first HF0.out hrq);obtain ⟨_,_,r3,rfl,_⟩:=hrq;go_wp2;go_ret;exact R3.out
theorem findLeft_any(d:NF)(ih:∀ y:NF,y.size<d.size→LfC y)(base:Nat)(w:World)(fb vb:Nat)(D:List NF)(ak c:Nat)(U:List NF)(Z:List Nat)(i:Nat)(h:ST base w fb vb D ak c U Z)(hi:D[i]?=some d)(hn:Need c U d)(hc:c<256)(ha:1≤ak) :
 Calls Tryz.prog 144 #[.pointer (some ⟨fb,0,none⟩), .int .i64 i, .int .u8 c] w (RQ base w fb vb D ak c U Z (left c d)):=by
 obtain ⟨f,L,cap,K⟩:=h.look hi;have hlt:=K.lt;have hlen:=h.len;have t0:=K.tab;obtain ⟨c0,c1,c2,c3,c4,c5,c6,c7,c8,c9,c10,c11⟩:=K.get;obtain ⟨av,capv,hvp,_⟩:=K.pl.1;rw[hvp]at c7;rw[K.kd]at c0;have KPL:=hide K.pl;rw[hvp]at KPL;have KS:=hide K.set;have KP:=hide K.pair;have KT:=hide K.star;have KU:=hide K.sum;have HS:=hide h;have HI:=hide hi;have HN:=hide hn;have HD0:=hide h.tbl.1;have HD1:=hide h.tbl.2.1;have HW:=hide h.tbl.2.2.2.1;have HND:=hide h.tbl.2.2.1;have hlt1:(i:Int)<D.length:=by omega
 clear K h hi hn hvp;have F0:Hid (∀ o,Frm [] w (w.alloc o)):=fun o=>(Frm.refl _ _).alloc o
 cases d with
 | zero =>
   simp only[kindN]at c0;go_enter Tryz.func144,Tryz.ntmps144
   go_wp2;go_ret;exact RQ.here (r:=0) HS.out (F0.out _) HD0.out
 | one =>
   simp only[kindN]at c0;go_enter Tryz.func144,Tryz.ntmps144
   go_wp2;go_ret;exact RQ.here (r:=0) HS.out (F0.out _) HD0.out
 | set s =>
   have hfs:=KS.out s rfl;rw[hfs]at c1 c2 c3 c4;simp only[kindN]at c0;have XH:=hide (xhas_any s c);simp only[bv]at XH;clear hfs;cases hb:s.testBit c with
   | true =>
     rw[hb]at XH;have HL:Hid (left c (.set s)=.one):=by show _=_;simp[left,hb]
     clear hb;go_enter Tryz.func144,Tryz.ntmps144
     go_wp2_with fail
     refine (XH.out _ hc).mono ?_;rintro e w2 ⟨rfl,hf2⟩;have F2:=hide ((F0.out _).trans hf2);clear hf2;go_wp2;go_ret;rw[HL.out];exact RQ.here (r:=1) HS.out F2.out HD1.out
   | false =>
     rw[hb]at XH;have HL:Hid (left c (.set s)=.zero):=by show _=_;simp[left,hb]
     clear hb;go_enter Tryz.func144,Tryz.ntmps144
     go_wp2_with fail
     refine (XH.out _ hc).mono ?_;rintro e w2 ⟨rfl,hf2⟩;have F2:=hide ((F0.out _).trans hf2);clear hf2;go_wp2;go_ret;rw[HL.out];exact RQ.here (r:=0) HS.out F2.out HD0.out
 | pair a b =>
   simp only[kindN]at c0;have hp:=KP.out a b rfl;have C:=hide (fun (w':World) (F:Frm [] w w')=>leftOfPair_any a b (ih a (by simp[NF.size];omega)) (ih b (by simp[NF.size];omega)) base w' fb vb D ak c U Z f.fi f.se 3 (wd f.s 0) (wd f.s 1) (wd f.s 2) (wd f.s 3) f.lk f.ak f.lf f.te av L.length capv (HS.out.keep F) hp.1 hp.2 HN.out hc ha);clear hp;go_enter Tryz.func144,Tryz.ntmps144
   go_wp2_with fail
   refine (C.out _ (F0.out _)).mono ?_;rintro e w3 hrq;have R3:=hide (RQ.first (F0.out _) hrq);obtain ⟨_,_,r3,rfl,_⟩:=hrq;go_wp2;go_ret;exact R3.out
 | sum l =>
   simp only[kindN]at c0;have hu:=KU.out l rfl;have ht:=map_tell HW.out hu.1;have hwl:=HW.out _ (List.mem_of_getElem? HI.out);have hpm:(L.map fun j=>D.getD j .zero).Perm l:=by
    refine (List.perm_ext_iff_of_nodup (map_nodup HND.out hu.2.2 hu.1) ?_).2 fun p=>?_
    ·rw[hu.2.1];exact ris_nodup (srt_ris _)
    ·rw[hu.2.1];exact (srt_mem_iff ht).symm
   have C:=hide (fun (w':World) (F:Frm [] w w')=>leftOfSum_any l (fun y hy=>ih y (by have:=size_mem hy;simp[NF.size];omega)) base w' fb vb D ak c U Z L 4 (wd f.s 0) (wd f.s 1) (wd f.s 2) (wd f.s 3) f.lk f.ak f.lf f.fi f.se f.te av capv (HS.out.keep F) (KPL.out.frm F (NoInt.nil _)) hu.1 hpm HN.out hc ha (wfL_mem.1 hwl.1.1));clear hu ht hwl hpm;go_enter Tryz.func144,Tryz.ntmps144
   go_wp2_with fail
   refine (C.out _ (F0.out _)).mono ?_;rintro e w3 hrq;have R3:=hide (RQ.first (F0.out _) hrq);obtain ⟨_,_,r3,rfl,_⟩:=hrq;go_wp2;go_ret;exact R3.out
 | star a =>
   simp only[kindN]at c0;have hs:=KT.out a rfl;have C:=hide (fun (w':World) (F:Frm [] w w')=>ih a (by simp[NF.size]) base w' fb vb D ak c U Z f.fi (HS.out.keep F) hs HN.out.1 hc ha);clear hs;go_enter Tryz.func144,Tryz.ntmps144
   go_wp2_with fail
   refine (C.out _ (F0.out _)).mono ?_;rintro e w3 hrq;obtain ⟨r3,rfl,hz⟩:=(RQ.first (F0.out _) hrq).rz;have T:Hid (Calls Tryz.prog 143 #[.pointer (some ⟨fb,0,none⟩), .int .i64 r3, .int .i64 i] w3 (RQ base w fb vb D ak c U Z (left c (.star a)))):=hz.call fun vb' D' hst hr hD=>then_any (left c a) base w3 fb vb' D' ak c U Z (.star a) r3 i hst hr (hD _ _ HI.out) HN.out.2
   clear hrq hz C;go_wp2_with fail
   refine (T.out).mono ?_;rintro e w4 hrq;have R4:=hide hrq;obtain ⟨_,_,r4,rfl,_⟩:=hrq;go_wp2;go_ret;exact R4.out
theorem fv_cons(f:FV)(L:List FV):fv (f::L)=f.cells.toList++fv L:=by simp[fv]
theorem cells_len(f:FV):f.cells.toList.length=12:=by simp[FV.cells]
theorem fv_set:∀ (L:List FV) (i k:Nat) (f f':FV) (u:Value),L[i]?=some f→k<12→f.cells.toList.set k u=f'.cells.toList→(fv L).set (i*12+k) u=fv (L.set i f')
 | [],i,k,f,f',u,h,_,_=>by simp at h
 | g::L,0,k,f,f',u,h,hk,hs=>by
   simp at h;subst h;rw[fv_cons,List.set_cons_zero,fv_cons,← hs];rw[show 0*12+k=k by omega,List.set_append_left _ _ (by rw[cells_len];exact hk)]
 | g::L,i+1,k,f,f',u,h,hk,hs=>by
   rw[fv_cons,List.set_cons_succ,fv_cons,← fv_set L i k f f' u (by simpa using h) hk hs];rw[List.set_append_right _ _ (by rw[cells_len];omega),cells_len]
   congr 2
   omega
theorem map_set_same{α β:Type}(g:α→β):∀ (E:List α) (i:Nat) (e e':α),E[i]?=some e→g e'=g e→(E.set i e').map g=E.map g
 | [],i,e,e',h,_=>by simp at h
 | x::E,0,e,e',h,hg=>by simp at h;subst h;simp[hg]
 | x::E,i+1,e,e',h,hg=>by
   simp only[List.set_cons_succ,List.map_cons];rw[map_set_same g E i e e' (by simpa using h) hg]
theorem get_set{α:Type}{E:List α}{i j:Nat}{e x:α}(h:(E.set i e)[j]?=some x):(i=j∧x=e)∨E[j]?=some x:=by
 rw[List.getElem?_set]at h
 split at h
 ·split at h
  ·simp at h;exact .inl ⟨by assumption,h.symm⟩
  ·simp at h
 ·exact .inr h
theorem mem_set{α:Type}{E:List α}{i:Nat}{e x:α}(h:x∈E.set i e):x=e∨x∈E:=by
 obtain ⟨j,hj⟩:=List.getElem?_of_mem h;rcases get_set hj with h1|h1
 ·exact .inl h1.2
 ·exact .inr (List.mem_of_getElem? h1)
theorem TE.memo{base:Nat}{w:World}{fb vb:Nat}{E:List (FV × List Nat)}{B:List Nat}{ak i r a:Nat}{f:FV}{L:List Nat}(h:TE base w fb vb E B ak)(hi:E[i]?=some (f,L)) :
 TE base ((w.setCell ⟨vb,i*12+10,none⟩ (.int .i64 a)).setCell ⟨vb,i*12+11,none⟩ (.int .i64 r)) fb vb (E.set i ({ f with ak:=a,lf:=r },L)) B ak:=by
 obtain ⟨cap,ht,hl⟩:=h.row;have hv:=h.vbs;have hfb:=h.fb;have F:Frm [vb] w ((w.setCell ⟨vb,i*12+10,none⟩ (.int .i64 a)).setCell ⟨vb,i*12+11,none⟩ (.int .i64 r)):=((Frm.refl _ _).setCell (.inl (by simp)) _).setCell (.inl (by simp)) _;have hlen:(E.set i ({ f with ak:=a,lf:=r },L)).length=E.length:=by simp
 refine ⟨⟨cap,?_,?_⟩,?_,?_,h.fb,Nat.le_trans h.sz F.size⟩
 ·rw[hlen];exact ht.frm F (by simp;omega)
 ·rw[hlen]
  have hlE:(E.map Prod.fst).length=E.length:=by simp
  unfold FL at hl ⊢;rw[hlE]at hl;have h1:=(World.ownsRow.stored hl (i*12+10) (.int .i64 a)).1;have h2:=(World.ownsRow.stored h1 (i*12+11) (.int .i64 r)).1;have hfi:(E.map Prod.fst)[i]?=some f:=by simp[hi]
  rw[fv_set (E.map Prod.fst) i 10 f { f with ak:=a } (.int .i64 a) hfi (by decide) rfl]at h2;have hilt:=(List.getElem?_eq_some_iff.1 hi).1;rw[fv_set ((E.map Prod.fst).set i { f with ak:=a }) i 11 { f with ak:=a } { f with ak:=a,lf:=r } (.int .i64 r) (by simp[hilt]) (by decide) rfl]at h2;rw[List.set_set]at h2;have e1:(E.set i ({ f with ak:=a,lf:=r },L)).map Prod.fst=(E.map Prod.fst).set i { f with ak:=a,lf:=r }:=by rw[List.map_set]
  rw[e1];simpa using h2
 ·intro e he
  rcases mem_set he with rfl|he
  ·exact (h.pl (f,L) (List.mem_of_getElem? hi)).frm F (fun k hk=>h.noInt k (by simp at hk;simp[hk]))
  ·exact (h.pl e he).frm F (fun k hk=>h.noInt k (by simp at hk;simp[hk]))
 ·intro e he
  rcases mem_set he with rfl|he
  ·exact h.st (f,L) (List.mem_of_getElem? hi)
  ·exact h.st e he
theorem TP.memo{E:List (FV × List Nat)}{B:List Nat}{D:List NF}{ak c i r:Nat}{f:FV}{L:List Nat}{d:NF}(h:TP E B D ak c)(hi:E[i]?=some (f,L))(hd:D[i]?=some d)(hr:D[r]?=some (left c d)) :
 TP (E.set i ({ f with ak:=ak,lf:=r },L)) B D ak c:=by
 have hk:(E.set i ({ f with ak:=ak,lf:=r },L)).map kyE=E.map kyE:=map_set_same kyE E i (f,L) _ hi rfl;refine ⟨?_,?_,?_,?_,?_,?_⟩
 ·rw[hk];exact h.tb
 ·intro b hb;rw[hk];simpa using h.bu b hb
 ·intro j e hj he
  rw[hk];rcases get_set he with ⟨rfl,rfl⟩|he
  ·exact h.lk i (f,L) hj hi
  ·exact h.lk j e hj he
 ·intro j e d' he hd'
  rcases get_set he with ⟨rfl,rfl⟩|he
  ·exact h.te i (f,L) d' hi hd'
  ·exact h.te j e d' he hd'
 ·intro e he
  rcases mem_set he with rfl|he
  ·simp
  ·exact h.al e he
 ·intro h1 j e d' he hd' ha
  rcases get_set he with ⟨rfl,rfl⟩|he
  ·rw[hd]at hd';simp at hd';subst hd';exact hr
  ·exact h.mm h1 j e d' he hd' ha
theorem ST.memo{base:Nat}{w:World}{fb vb:Nat}{D:List NF}{ak c:Nat}{U:List NF}{Z:List Nat}{i r:Nat}{d:NF}(h:ST base w fb vb D ak c U Z)(hi:D[i]?=some d)(hr:D[r]?=some (left c d)) :
 ST base ((w.setCell ⟨vb,i*12+10,none⟩ (.int .i64 ak)).setCell ⟨vb,i*12+11,none⟩ (.int .i64 r)) fb vb D ak c U Z:=by
 obtain ⟨E,B,hE,hP,hU,hUl,hz⟩:=h;have hl:=(List.getElem?_eq_some_iff.1 hi).1;have hEl:=hP.len;obtain ⟨⟨f,L⟩,he⟩:∃ e,E[i]?=some e:=⟨E[i]'(by omega),List.getElem?_eq_getElem (by omega)⟩;refine ⟨_,B,hE.memo (a:=ak) (r:=r) he,hP.memo he hi hr,hU,hUl,?_,?_⟩
 ·intro k hk;have:=hz.1 k hk;simpa using this
 ·intro e hm x n cc ex
  rcases mem_set hm with rfl|hm
  ·exact hz.2 (f,L) (List.mem_of_getElem? he) x n cc ex
  ·exact hz.2 e hm x n cc ex
theorem ST.ask{base:Nat}{w:World}{fb vb:Nat}{D:List NF}{ak c:Nat}{U:List NF}{Z:List Nat}(c2:Nat)(h:ST base w fb vb D ak c U Z):ST base (w.setCell ⟨fb,1025,none⟩ (.int .i64 ((ak+1:Nat):Int))) fb vb D (ak+1) c2 U Z:=by
 obtain ⟨E,B,hE,hP,hU,hUl,hz⟩:=h;refine ⟨E,B,hE.setA (ak+1),⟨hP.tb,hP.bu,hP.lk,hP.te,fun e he=>Nat.le_succ_of_le (hP.al e he),?_⟩,hU,hUl,?_,hz.2⟩
 ·intro _ i e d he _ ha
  have:=hP.al e (List.mem_of_getElem? he);omega
 ·intro k hk;have:=hz.1 k hk;simpa using this
theorem ST.cells{base:Nat}{w:World}{fb vb:Nat}{D:List NF}{ak c:Nat}{U:List NF}{Z:List Nat}(h:ST base w fb vb D ak c U Z):w.cell? ⟨fb,1025,none⟩=some (.int .i64 ak)∧(∀ o,w.frozen? ⟨fb,o,none⟩=false)∧(∀ o,w.frozen? ⟨vb,o,none⟩=false):=by
 obtain ⟨E,B,hE,_⟩:=h;obtain ⟨cap,ht,hl⟩:=hE.row;refine ⟨ht.cask,ht.fz,fun o=>?_⟩;obtain ⟨_,_,cur,hv⟩:=hE.vbs;simp[World.frozen?,hv]
theorem left_any(d:NF):LfC d:=by
 refine NF.ind (P:=LfC) ?_ d;intro d ih base w fb vb D ak c U Z i h hi hn hc ha;have FL:=hide (fun nq=>findLeft_any d ih base (w.drewN nq) fb vb D ak c U Z i (h.keep ((Frm.refl _ _).drewN nq)) hi hn hc ha);obtain ⟨f,L,cap,K⟩:=h.look hi;have hlt:=K.lt;have t0:=K.tab;have k10:=K.get.2.2.2.2.2.2.2.2.2.2.1;have k11:=K.get.2.2.2.2.2.2.2.2.2.2.2;have hask:=h.cells.1;have KM:=hide K.mem;have HS:=hide h;have HI:=hide hi;have hlt1:(i:Int)<D.length:=by omega
 clear K h hi hn
 by_cases he:f.ak=ak
 ·have hb:=beqZ he
  have R3:Hid (∀ nq,RQ base w fb vb D ak c U Z (left c d) (.returned (.int .i64 (f.lf:Nat))) (w.drewN nq)):=fun nq=>RQ.here HS.out ((Frm.refl _ _).drewN _) (KM.out ha he)
  clear FL he;go_enter Tryz.func130,Tryz.ntmps130
  go_wp2_with fail
  go_quiet (fail)
  go_wp2;go_ret;exact R3.out _
 ·have hb:=beqF he
  clear he;go_enter Tryz.func130,Tryz.ntmps130
  go_wp2_with fail
  go_quiet (fail)
  go_wp2_with fail
  refine (FL.out _).mono ?_;rintro e w2 hrq;obtain ⟨vb2,R,r,rfl,hst,hr,hq⟩:=hrq;have hi2:=get_app (R:=R) HI.out;obtain ⟨f2,L2,cap2,K2⟩:=hst.look hi2;have u0:=K2.tab;have u10:=K2.get.2.2.2.2.2.2.2.2.2.2.1;have u11:=K2.get.2.2.2.2.2.2.2.2.2.2.2;have ul:=K2.lt;obtain ⟨uask,ufz,uvz⟩:=hst.cells;have M:=hide (hst.memo hi2 hr);have HR:=hide hr;have hvb:=hst.tbl.2.2.2.2.2;have Q:=hide (FQ.keepL ((Frm.refl [] w).drewN nq) hq);obtain ⟨nD,hnD⟩:∃ n,n=(D++R).length:=⟨_,rfl⟩;rw[← hnD]at u0 ul;clear K2 hst hr hq hnD FL t0 k10 k11 hask;have ul2:(i:Int)<nD:=by omega
  have hne:vb2≠fb:=by omega
  have uz10:=uvz (i*12+10);have uz11:=uvz (i*12+11);clear ufz uvz;go_wp2_with fail
  go_region
  have F4:Hid (FQ fb vb vb2 w (((w2.setCell ⟨vb2,i*12+10,none⟩ (.int .i64 ak)).setCell ⟨vb2,i*12+11,none⟩ (.int .i64 r)).drew)):=FQ.trans Q.out ⟨(((Frm.refl _ _).setCell (.inl (by simp)) _).setCell (.inl (by simp)) _).drew, .inl rfl⟩;have M4:=hide (M.out.keep ((Frm.refl _ _).drew));clear M Q;go_wp2;go_ret;exact ⟨vb2,R,r,rfl,M4.out,HR.out,F4.out⟩
theorem leftBehind_any(base:Nat)(w:World)(fb vb:Nat)(D:List NF)(ak c c2:Nat)(U:List NF)(Z:List Nat)(i:Nat)(d:NF)(h:ST base w fb vb D ak c2 U Z)(hi:D[i]?=some d)(hn:Need c U d)(hc:c<256)(hak:ak≤1000000) :
 Calls Tryz.prog 116 #[.pointer (some ⟨fb,0,none⟩), .int .i64 i, .int .u8 c] w fun e w'=>∃ vb' R r,e=.returned (.int .i64 (r:Nat))∧ST base w' fb vb' (D++R) (ak+1) c U Z∧(D++R)[r]?=some (left c d)∧FQ fb vb vb' w w':=by
 have hask:=h.cells.1;have hfz:=h.cells.2.1 1025;have h2:=h.ask c;have C:=hide (left_any d base _ fb vb D (ak+1) c U Z i h2 hi hn hc (by omega));have F:=hide (show FQ fb vb vb w (w.setCell ⟨fb,1025,none⟩ (.int .i64 ((ak+1:Nat):Int))) from ⟨(Frm.refl _ _).setCell (.inl (by simp)) _, .inl rfl⟩);have e1:((ak+1:Nat):Int)=(ak:Int)+1:=by omega
 rw[e1]at C F;clear h h2 hi hn e1;go_enter Tryz.func116,Tryz.ntmps116
 go_wp2_with fail
 refine (C.out).mono ?_;rintro e w2 ⟨vb',R,r,rfl,hst,hr,hq⟩;have S2:=hide hst;have HR:=hide hr;have Q:=hide (F.out.trans hq);clear hst hr hq C;go_wp2;go_ret;exact ⟨vb',R,r,rfl,S2.out,HR.out,Q.out⟩
set_option linter.unusedVariables false
set_option linter.unusedSimpArgs false
/-! The automaton: its states as words,in the order in which they are found. -/
def idW(X:NF)(St:List (List Nat))(v:List Nat):Nat:=St.findIdx fun u=>name (dW X u)==name (dW X v)
def rowW(X:NF)(w:List Nat):List Nat→List (List Nat)→List Nat→Bool × List (List Nat) × List Nat
 | [],St,nx=>(true,St,nx)
 | c::F,St,nx=>if idW X St (w++[c])=40 then (false,St,nx) else rowW X w F (if idW X St (w++[c])=St.length then St++[w++[c]] else St) (nx++[idW X St (w++[c])])
def autW(X:NF)(F:List Nat):Nat→Nat→List (List Nat)→List Nat→Bool × List (List Nat) × List Nat
 | 0,_,St,nx=>(true,St,nx)
 | k+1,i,St,nx=>match St[i]? with
   | none=>(true,St,nx)
   | some w=>match rowW X w F St nx with
     | (false,r)=>(false,r)
     | (true,St',nx')=>autW X F k (i+1) St' nx'
def autR(X:NF)(F:List Nat):Bool × List (List Nat) × List Nat:=autW X F 41 0 [[]] []
theorem idW_le(X:NF)(St:List (List Nat))(v:List Nat):idW X St v≤St.length:=List.findIdx_le_length
def WB(St:List (List Nat)):Prop:=St.length≤40∧∀ (j:Nat) (u:List Nat),St[j]?=some u→u.length≤j
theorem WB.one:WB [[]]:=by
 refine ⟨by simp,fun j u h=>?_⟩;cases j with
 | zero=>simp at h;subst h;simp
 | succ j=>simp at h
theorem WB.add{St:List (List Nat)}{w:List Nat}{i c:Nat}(h:WB St)(hi:St[i]?=some w)(hl:St.length≠40):WB (St++[w++[c]]):=by
 have h1:=h.1;have h2:=h.2 i w hi;have h3:=(List.getElem?_eq_some_iff.1 hi).1;refine ⟨by simp;omega,fun j u hj=>?_⟩
 by_cases hlt:j<St.length
 ·rw[List.getElem?_append_left hlt]at hj;exact h.2 j u hj
 ·rw[List.getElem?_append_right (by omega)]at hj
  have:j-St.length=0:=by
   rcases Nat.eq_zero_or_pos (j-St.length) with e|e
   ·exact e
   ·rw[List.getElem?_eq_none (by simp;omega)]at hj;simp at hj
  rw[this]at hj;simp at hj;subst hj;simp;omega
theorem rowW_pre(X:NF)(w:List Nat):∀ (F:List Nat) (St:List (List Nat)) (nx:List Nat),St <+: (rowW X w F St nx).2.1
 | [],St,nx=>List.prefix_refl _
 | c::F,St,nx=>by
   unfold rowW
   split
   ·exact List.prefix_refl _
   ·refine List.IsPrefix.trans ?_ (rowW_pre X w F _ _)
    split
    ·exact List.prefix_append _ _
    ·exact List.prefix_refl _
theorem pre_get{α:Type}{a b:List α}(h:a <+: b){i:Nat}{x:α}(hi:a[i]?=some x):b[i]?=some x:=by
 obtain ⟨t,rfl⟩:=h;rw[List.getElem?_append_left (List.getElem?_eq_some_iff.1 hi).1];exact hi
theorem rowW_wb(X:NF)(w:List Nat)(i:Nat):∀ (F:List Nat) (St:List (List Nat)) (nx:List Nat),WB St→St[i]?=some w→WB (rowW X w F St nx).2.1
 | [],St,nx,h,_=>h
 | c::F,St,nx,h,hi=>by
   unfold rowW
   split
   ·exact h
   ·rename_i hne
    refine rowW_wb X w i F _ _ ?_ ?_
    ·split
     ·rename_i he;exact h.add hi (by rw[he]at hne;exact hne)
     ·exact h
    ·split
     ·exact pre_get (List.prefix_append _ _) hi
     ·exact hi
theorem autW_pre(X:NF)(F:List Nat):∀ (k i:Nat) (St:List (List Nat)) (nx:List Nat),St <+: (autW X F k i St nx).2.1
 | 0,i,St,nx=>List.prefix_refl _
 | k+1,i,St,nx=>by
   unfold autW
   split
   ·exact List.prefix_refl _
   ·rename_i w hw
    have h:=rowW_pre X w F St nx
    split
    ·rename_i r hr;rw[hr]at h;exact h
    ·rename_i St' nx' hr;rw[hr]at h;exact h.trans (autW_pre X F k (i+1) St' nx')
theorem autW_wb(X:NF)(F:List Nat):∀ (k i:Nat) (St:List (List Nat)) (nx:List Nat),WB St→WB (autW X F k i St nx).2.1
 | 0,i,St,nx,h=>h
 | k+1,i,St,nx,h=>by
   unfold autW
   split
   ·exact h
   ·rename_i w hw
    have h1:=rowW_wb X w i F St nx h hw
    split
    ·rename_i r hr;rw[hr]at h1;exact h1
    ·rename_i St' nx' hr;rw[hr]at h1;exact autW_wb X F k (i+1) St' nx' h1
theorem autR_wb(X:NF)(F:List Nat):WB (autR X F).2.1:=autW_wb X F 41 0 [[]] [] WB.one
def autU(e:RX)(F:List Nat):List NF:=[.zero, .one]++mkd e++(autR (nrm e) F).2.1.flatMap fun w=>F.flatMap fun c=>madeL (nrm e) w c
theorem flat_le{α β:Type}(f:α→List β)(n:Nat)(l:List α)(h:∀ a∈l,(f a).length≤n):(l.flatMap f).length≤l.length*n:=flatMap_le f n l h
theorem autU_len{e:RX}{F:List Nat}(ho:okx e)(hd:digx e)(hp:plcG e≤40)(ht:tlx e≤40)(hn:nds e≤200)(hF:F.length≤256):(autU e F).length≤1000000000000:=by
 have h1:=mkd_len ho hd hp (by omega);have hp2:plc e≤40:=by rw[plcG_few hp];exact hp
 have hb:=nrm_bound ho hp2 ht;have hwb:=autR_wb (nrm e) F;have h2:∀ w∈(autR (nrm e) F).2.1,(F.flatMap fun c=>madeL (nrm e) w c).length≤16256204800:=by
  intro w hw;obtain ⟨j,hj⟩:=List.getElem?_of_mem hw;have hl:=hwb.2 j w hj;have hjl:=(List.getElem?_eq_some_iff.1 hj).1;have h3:=flat_le (fun c=>madeL (nrm e) w c) (121*524800) F (fun c hc=>Nat.le_trans (madeL_len (nrm e) w c (by have:=hwb.1;omega)) (Nat.mul_le_mul_left _ hb));have h4:F.length*(121*524800)≤256*(121*524800):=Nat.mul_le_mul_right _ hF;omega
 have h5:=flat_le (fun w=>F.flatMap fun c=>madeL (nrm e) w c) 16256204800 (autR (nrm e) F).2.1 h2;have h6:(autR (nrm e) F).2.1.length*16256204800≤40*16256204800:=Nat.mul_le_mul_right _ hwb.1;unfold autU;simp only[List.length_append,List.length_cons,List.length_nil];omega
theorem autU_mkd{e:RX}{F:List Nat}:∀ f∈mkd e,f∈autU e F:=fun f hf=>by unfold autU;simp[hf]
theorem autU_two{e:RX}{F:List Nat}:NF.zero∈autU e F∧NF.one∈autU e F:=by unfold autU;simp
theorem autU_need{e:RX}{F:List Nat}(ho:okx e)(hp:plcG e≤40)(ht:tlx e≤40){w:List Nat}(hw:w∈(autR (nrm e) F).2.1){c:Nat}(hc:c∈F):Need c (autU e F) (dW (nrm e) w):=by
 have hp2:plc e≤40:=by rw[plcG_few hp];exact hp
 have hb:=nrm_bound ho hp2 ht;have hwb:=autR_wb (nrm e) F;obtain ⟨j,hj⟩:=List.getElem?_of_mem hw;have hl:=hwb.2 j w hj;have hjl:=(List.getElem?_eq_some_iff.1 hj).1;have hB:=nrm_BdE ho;have hs:(nrm e).size≤3280:=by
  by_cases h0:plc e=0
  ·rw[hB.2.1 h0];simp[NF.size]
  ·have h1:=(hB.2.2 (by omega)).sz
   have h2:2*plc e*(tlx e+1)≤2*40*41:=Nat.mul_le_mul (by omega) (by omega);omega
 refine need_vis hB.1 hs hb (by have:=hwb.1;omega) (fun f hf=>?_) (dW (nrm e) w) (vis_self (occ_self (nrm e)) (List.suffix_refl w));unfold autU;refine List.mem_append.2 (.inr (List.mem_flatMap.2 ⟨w,hw,List.mem_flatMap.2 ⟨c,hc,made_madeL hf⟩⟩))
theorem Frm.above{S T:List Nat}{a b c:World}(h:Frm T a b)(k:Frm S b c)(hS:∀ x∈S,a.heap.size≤x∨x∈T):Frm T a c :=
 ⟨k.os.trans h.os,k.tape.trans h.tape,k.output.trans h.output,Nat.le_trans h.size k.size,fun i hi hT=>(k.block i (Nat.lt_of_lt_of_le hi h.size) (fun hm=>(hS i hm).elim (fun e=>by omega) hT)).trans (h.block i hi hT)⟩
theorem ST.zsub{base:Nat}{w:World}{fb vb:Nat}{D:List NF}{ak c:Nat}{U:List NF}{Z Z2:List Nat}(h:ST base w fb vb D ak c U Z)(hs:∀ k∈Z2,k∈Z):ST base w fb vb D ak c U Z2:=by
 obtain ⟨E,B,h1,h2,h3,h4,h5⟩:=h;exact ⟨E,B,h1,h2,h3,h4,fun k hk=>h5.1 k (hs k hk),fun e he x n cc ex hm=>h5.2 e he x n cc ex (hs _ hm)⟩
theorem getD_rep(n b:Nat):(List.replicate n 0).getD b 0=0:=by
 rw[List.getD_eq_getElem?_getD,List.getElem?_replicate]
 split<;>rfl
theorem ST.start{w:World}{fb c:Nat}{va:Value}{U:List NF}(ht:FT w fb va (List.replicate 1024 0) 0)(hl:FL (fb+1) w va [fv0,fv1])(hz:fb+1≤w.heap.size)(hU:NF.zero∈U∧NF.one∈U)(hUl:U.length≤1000000000000):∃ vb,ST (fb+1) w fb vb [.zero, .one] 0 c U []:=by
 have hs:∃ vb cap,va=.slice (some ⟨vb,0,none⟩) 2 cap:=by
  rcases hl.2 with ⟨_,e⟩|⟨g,cap,cur,e,_⟩
  ·simp at e
  ·exact ⟨g,cap,by simpa using e⟩
 obtain ⟨vb,cap,rfl⟩:=hs;refine ⟨vb,[(fv0,[]),(fv1,[])],List.replicate 1024 0,⟨⟨cap,ht,hl⟩,?_,?_,Nat.lt_succ_self _,hz⟩,⟨⟨rfl,rfl,rfl,rfl,rfl,?_,by simp,?_⟩,?_,?_,?_,?_,?_⟩,?_,hUl,by simp,by
  intro e he x n cc ex;simp at he;rcases he with rfl|rfl<;>simp[fv0,fv1]at ex⟩
 ·intro e he
  simp at he;rcases he with rfl|rfl<;>exact PL.nil _
 ·intro e he
  simp at he;rcases he with rfl|rfl<;>exact Nat.two_pow_pos 256
 ·intro i k d hi _ hd
  have:=(List.getElem?_eq_some_iff.1 hd).1;simp at this;omega
 ·intro d hd
  simp at hd;rcases hd with rfl|rfl
  ·exact WC.zero
  ·exact WC.one
 ·intro b hb
  rw[getD_rep];rcases lastB_spec bkt (List.map kyE [(fv0,[]),(fv1,[])]) b 2 with h|⟨h1,h2,_⟩
  ·exact h.symm
  ·omega
 ·intro i e hi he
  have:=(List.getElem?_eq_some_iff.1 he).1;simp at this;omega
 ·intro i e d he hd
  match i with
  | 0=>simp at he hd;subst he hd;rfl
  | 1=>simp at he hd;subst he hd;rfl
  | i+2=>simp at he
 ·intro e he
  simp at he;rcases he with rfl|rfl<;>simp[fv0,fv1]
 ·intro h1;omega
 ·intro x hx
  simp at hx;rcases hx with rfl|rfl
  ·exact hU.1
  ·exact hU.2
structure AQ(X:NF)(wB wr:World)(ab fb:Nat)(U:List NF)(n:Int)(CL:List Nat)(vs vn:Value)(I:List Nat)(St:List (List Nat))(nx:List Nat)(vb:Nat)(D:List NF)(ak c:Nat):Prop where
 st:ST (fb+1) wr fb vb D ak c U (vs.ownBlock.toList++vn.ownBlock.toList)
 mp:∀ (j:Nat) (u:List Nat),St[j]?=some u→∃ r,I[j]?=some r∧D[r]?=some (dW X u)
 il:IL (fb+1) wr vs I
 nl:IL (fb+1) wr vn nx
 ne:∀ k,vs.ownBlock=some k→vn.ownBlock≠some k
 au:AB wr ab n CL (.slice none 0 0) vn
 ln:I.length=St.length
 fr:Frm [ab] wB wr
 fe:fb=wB.heap.size
 lo:ab<wB.heap.size
theorem AQ.find{X:NF}{wB wr:World}{ab fb:Nat}{U:List NF}{n:Int}{CL:List Nat}{vs vn:Value}{I:List Nat}{St:List (List Nat)}{nx:List Nat}{vb:Nat}{D:List NF}{ak c:Nat}(h:AQ X wB wr ab fb U n CL vs vn I St nx vb D ak c){r:Nat}{v:List Nat}(hr:D[r]?=some (dW X v)):I.findIdx (·==r)=idW X St v:=by
 have hl:=h.ln;have hst:=h.st;have hm:=h.mp;have hwc:=hst.tbl.2.2.2.1;have key:∀ j (hj:j<I.length) (hj2:j<St.length),(I[j]==r)=(name (dW X St[j])==name (dW X v)):=by
  intro j hj hj2;obtain ⟨q,h1,h2⟩:=hm j St[j] (List.getElem?_eq_getElem hj2);rw[List.getElem?_eq_getElem hj]at h1;simp only[Option.some.injEq]at h1;rw[h1,Bool.eq_iff_iff,beq_iff_eq,beq_iff_eq];rw[hst.num h2 hr]
  constructor
  ·intro e;rw[e]
  ·exact name_inj (hwc _ (List.mem_of_getElem? h2)).1 (hwc _ (List.mem_of_getElem? hr)).1
 unfold idW;clear hm hst hwc
 revert hl key
 clear h
 induction I generalizing St with
 | nil =>
   intro hl _;cases St with
   | nil=>rfl
   | cons a b=>simp at hl
 | cons a I ih =>
   intro hl key;cases St with
   | nil=>simp at hl
   | cons u St =>
     have k0:=key 0 (by simp) (by simp);simp only[List.getElem_cons_zero]at k0;rw[List.findIdx_cons,List.findIdx_cons,k0];have:=ih (by simpa using hl) (fun j hj hj2=>by have:=key (j+1) (by simpa using hj) (by simpa using hj2);simpa using this);rw[this]
theorem AB.noInt{w:World}{ab:Nat}{n:Int}{cl:List Nat}{va vn:Value}(h:AB w ab n cl va vn):NoInt w [ab]:=by
 intro k hk cur fz;simp at hk;subst hk;rw[h.1];simp
section
variable {X:NF} {wB wr:World} {ab fb:Nat} {U:List NF} {n:Int} {CL:List Nat} {vs vn:Value} {I:List Nat} {St:List (List Nat)} {nx:List Nat} {vb:Nat} {D:List NF} {ak c:Nat}
theorem AQ.keep{w2:World}(h:AQ X wB wr ab fb U n CL vs vn I St nx vb D ak c)(f:Frm [] wr w2):AQ X wB w2 ab fb U n CL vs vn I St nx vb D ak c :=
 ⟨h.st.keep f,h.mp,own_frm h.il f (by simp),own_frm h.nl f (by simp),h.ne,h.au.frm f (by simp),h.ln,h.fr.above f (by simp),h.fe,h.lo⟩
theorem AQ.turn{w2:World}{vb2 ak2 c2:Nat}{R:List NF}(h:AQ X wB wr ab fb U n CL vs vn I St nx vb D ak c)(hst:ST (fb+1) w2 fb vb2 (D++R) ak2 c2 U (vs.ownBlock.toList++vn.ownBlock.toList))(hq:FQ fb vb vb2 wr w2):AQ X wB w2 ab fb U n CL vs vn I St nx vb2 (D++R) ak2 c2:=by
 have n1:=h.st.rowNe h.il;have n2:=h.st.rowNe h.nl;have hb:=h.st.tbl.2.2.2.2.2;have hfe:=h.fe;have hlo:=h.lo;have hr:∀ (v:Value),fb∉v.ownBlock.toList∧vb∉v.ownBlock.toList→∀ k,v.ownBlock=some k→k ∉ [fb,vb]:=fun v hv k hk=>by
  simp only[List.mem_cons,List.not_mem_nil,or_false,not_or];exact ⟨fun e=>hv.1 (by rw[Option.mem_toList,← e];exact hk),fun e=>hv.2 (by rw[Option.mem_toList,← e];exact hk)⟩
 refine ⟨hst,?_,row_frm h.il hq.fr (hr vs n1),row_frm h.nl hq.fr (hr vn n2),h.ne,h.au.frm hq.fr (by simp;omega),h.ln,h.fr.above hq.fr (by simp;omega),h.fe,h.lo⟩;intro j u hj;obtain ⟨r,h1,h2⟩:=h.mp j u hj;exact ⟨r,h1,get_app h2⟩
theorem AQ.addS{w5:World}{g cap r:Nat}{v:List Nat}{o:Obj}(h:AQ X wB wr ab fb U n CL vs vn I St nx vb D ak c)(hr:D[r]?=some (dW X v))(hil:IL (fb+1) w5 (.slice (some ⟨g,0,none⟩) (I.length+1) cap) (I++[r]))(hg:(wr.alloc o).grownBy w5 vs.ownBlock)(hat:vs.ownBlock=some g∨g=(wr.alloc o).heap.size)(hgl:g<w5.heap.size) :
 AQ X wB w5 ab fb U n CL (.slice (some ⟨g,0,none⟩) (I.length+1) cap) vn (I++[r]) (St++[v]) nx vb D ak c:=by
 have n1:=h.st.rowNe h.il;have hfe:=h.fe;have hlo:=h.lo;have hln:=h.ln;have hz:=h.fr.size;have K:=h.keep ((Frm.refl [] wr).alloc o);have F:Frm vs.ownBlock.toList (wr.alloc o) w5:=Frm.of_grow hg;have hvs:∀ k,k∈vs.ownBlock.toList→fb+1≤k:=fun k hk=>by rw[Option.mem_toList]at hk;exact (h.il.lt k hk).1
 refine ⟨h.st.growZ hg hat hgl n1.1 n1.2,?_,hil,row_frm K.nl F (fun k hk hm=>by rw[Option.mem_toList]at hm;exact h.ne k hm hk),?_,K.au.frm F (fun hm=>by have:=hvs _ hm;omega),by simp;omega,K.fr.above F (fun x hx=>.inl (by have:=hvs _ hx;omega)),h.fe,h.lo⟩
 ·intro j u hj
  by_cases hlt:j<St.length
  ·rw[List.getElem?_append_left hlt]at hj
   obtain ⟨q,h1,h2⟩:=h.mp j u hj;exact ⟨q,by rw[List.getElem?_append_left (by omega)];exact h1,h2⟩
  ·have hjl:=(List.getElem?_eq_some_iff.1 hj).1
   simp at hjl;have:j=St.length:=by omega
   subst this;simp at hj;subst hj;exact ⟨r,by rw[← hln];simp,hr⟩
 ·intro k hk hvn
  simp[Value.ownBlock]at hk;subst hk;rcases hat with e|e
  ·exact h.ne _ e hvn
  ·have:=(h.nl.lt _ hvn).2;simp at e;omega
theorem AQ.addN{w5:World}{g cap m:Nat}{o:Obj}(h:AQ X wB wr ab fb U n CL vs vn I St nx vb D ak c)(hil:IL (fb+1) w5 (.slice (some ⟨g,0,none⟩) (nx.length+1) cap) (nx++[m]))(hg:(wr.alloc o).grownBy w5 vn.ownBlock)(hat:vn.ownBlock=some g∨g=(wr.alloc o).heap.size)(hgl:g<w5.heap.size) :
 AQ X wB (w5.setCell ⟨ab,258,none⟩ (.slice (some ⟨g,0,none⟩) (nx.length+1) cap)) ab fb U n CL vs (.slice (some ⟨g,0,none⟩) (nx.length+1) cap) I St (nx++[m]) vb D ak c:=by
 have n2:=h.st.rowNe h.nl;have hfe:=h.fe;have hlo:=h.lo;have hz:=h.fr.size;have hb:=h.st.tbl.2.2.2.2.2;have K:=h.keep ((Frm.refl [] wr).alloc o);have F:Frm vn.ownBlock.toList (wr.alloc o) w5:=Frm.of_grow hg;have hvn:∀ k,k∈vn.ownBlock.toList→fb+1≤k:=fun k hk=>by rw[Option.mem_toList]at hk;exact (h.nl.lt k hk).1
 have A5:=K.au.frm F (fun hm=>by have:=hvn _ hm;omega);have F6:Frm [ab] w5 (w5.setCell ⟨ab,258,none⟩ (.slice (some ⟨g,0,none⟩) (nx.length+1) cap)):=(Frm.refl _ _).setCell (.inl (by simp)) _;have S5:ST (fb+1) w5 fb vb D ak c U (vs.ownBlock.toList++[g]):=by
  have:=(h.st.zsub (Z2:=vn.ownBlock.toList++vs.ownBlock.toList) (fun k hk=>by simp only[List.mem_append]at hk ⊢;exact hk.symm)).growZ hg hat hgl n2.1 n2.2;exact this.zsub (fun k hk=>by simp only[List.mem_append]at hk ⊢;exact hk.symm)
 refine ⟨?_,h.mp,?_,ownsRow_setCell_below hil (a:=⟨ab,258,none⟩) (by show ab<fb+1;omega) _,?_,A5.setN _,h.ln,(K.fr.above F (fun x hx=>.inl (by have:=hvn _ hx;omega))).above F6 (by simp),h.fe,h.lo⟩
 ·exact S5.frm F6 (by simp;omega) (by simp;omega) A5.noInt
 ·refine ownsRow_setCell_below (row_frm K.il F (fun k hk hm=>by rw[Option.mem_toList]at hm;exact h.ne k hk hm)) (a:=⟨ab,258,none⟩) (by show ab<fb+1;omega) _
 ·intro k hk hg2
  simp[Value.ownBlock]at hg2;subst hg2;rcases hat with e|e
  ·exact h.ne _ hk e
  ·have:=(h.il.lt _ hk).2;simp at e;omega
end
end Go.Proofs.YtpcbbbilmpobaaaGreatDoor
