import Derived.Test.YtjkialjoamgbgaaGreatJ45
set_option linter.unusedVariables false
set_option linter.unusedSimpArgs false
set_option linter.unnecessarySimpa false
set_option maxRecDepth 100000
set_option maxHeartbeats 4000000
namespace Go.Proofs.YtjkialjoamgbgaaGreat
open Go.RowKit
theorem ST.keepX{A:Nat→Prop}{base:Nat}{w w':World}{fb vb vb':Nat}{D:List NF}{ak c:Nat}{U:List NF}{Z:List Nat}(h:ST base w fb vb D ak c U Z)(q:FQ fb vb vb' w w'):KeepX A w w':=by
 obtain ⟨E,B,h1,_⟩:=h
 obtain ⟨cap,ht,_⟩:=h1.row
 obtain ⟨_,_,cur,hv⟩:=h1.vbs
 intro k _ ⟨cu,fz,hk⟩
 have hlt:k<w.heap.size:=by rcases hk with e|e<;>exact (Array.getElem?_eq_some_iff.1 e).1
 refine q.block hlt ?_ ?_
 ·rintro rfl;rw[ht.1]at hk;rcases hk with e|e<;>simp at e
 ·rintro rfl;rw[hv]at hk;rcases hk with e|e<;>simp at e
def NmC(x:RX):Prop:=∀ (A:Nat→Prop) (base:Nat) (w:World) (fb vb:Nat) (D:List NF) (ak c:Nat) (U:List NF) (Z:List Nat) (p:Nat),ST base w fb vb D ak c U Z→XR A w p x→NeedX U x→digx x→okx x →
 Calls Tryz.prog 105 #[.pointer (some ⟨fb,0,none⟩), .pointer (some ⟨p,0,none⟩)] w (RQ base w fb vb D ak c U Z (nrm x))
theorem normalSequence_any(A:Nat→Prop)(base:Nat)(w:World)(fb vb:Nat)(D:List NF)(ak c:Nat)(U:List NF)(Z:List Nat)(v:Value)(ps:List Nat)(l:List RX)(h:ST base w fb vb D ak c U Z)(hv:XV A w v ps)(hr:XRs A w ps l)(hN:NeedXL U l)(hS:SeqOK U l)(hd:digL l)(ho:okxL l)(ih:∀ y∈l,NmC y) :
 Calls Tryz.prog 115 #[.pointer (some ⟨fb,0,none⟩),v] w (RQ base w fb vb D ak c U Z (nrmS l)):=by
 obtain ⟨a,cap,rfl⟩:=own_shape hv.1
 have hlen:=hr.len
 have HV:=hide hv
 have HR:=hide hr
 have HN:=hide hN
 have HSO:=hide hS
 have HD:=hide hd
 have HO:=hide ho
 have HI:=hide ih
 have HS:=hide h
 have HD1:=hide h.tbl.2.1
 have hps:=hv.2.2
 have Hlen:=hide hlen
 clear hv hr hN hS hd ho ih h hlen
 go_enter Tryz.func115,Tryz.ntmps115
 go_wp2_with fail
 go_loopg [5,6] ps.length (fun k v5 v6 wr=>∃ r:Nat,k≤ps.length∧v6=.int .i64 ((k:Int)-1)∧v5=.int .i64 r∧RZ base w fb vb D ak c U Z (nrmS (l.drop k)) r wr)
 case atStart=>exact ⟨1,by omega,by go_num,rfl,RZ.here HS.out (Frm.refl _ _) (by rw[Hlen.out,List.drop_length];exact HD1.out)⟩
 case round =>
  obtain ⟨r,hk,rfl,rfl,hz⟩:=hrel
  have RR:=hide hz
  clear hz
  cases gk with
  | zero =>
    have R0:Hid (RZ base w fb vb D ak c U Z (nrmS l) r wr):=RR.out
    clear RR
    go_wp2
    go_ret
    exact R0.out.rq
  | succ m =>
    have hml:m<l.length:=by have:=Hlen.out;omega
    obtain ⟨g,rfl⟩:∃ g,a=some ⟨g,0,none⟩:=by
     rcases HV.out.1.2 with ⟨e,h⟩|⟨g,c,cur,e,_⟩
     ·simp at e;omega
     ·simp at e;exact ⟨g,e.1⟩
    obtain ⟨vb1,R,hst,hrr,hq⟩:=RR.out
    have KX:KeepX A w wr:=HS.out.keepX hq
    obtain ⟨p,hp,hx⟩:=(HR.out.keep KX).get m hml
    have hc:=(HV.out.keep KX).cell hp
    have hm:=List.getElem_mem hml
    have C:=hide (HI.out _ hm A base wr fb vb1 (D++R) ak c U Z p hst hx (needXL_mem.1 HN.out _ hm) (digL_mem HD.out hm) (okxL_mem HO.out hm))
    have HT:Hid (nrmS (l.drop m)=thenN (nrm l[m]) (nrmS (l.drop (m+1)))):=by show _=_;rw[List.drop_eq_getElem_cons hml];rfl
    have CR:=hide (HSO.out.get m hml)
    have HRR:=hide hrr
    have HQ:=hide hq
    have hmi:((m+1:Nat):Int)-1=m:=by omega
    rw[hmi]
    clear hmi KX hx hm hp hst hrr hq RR
    generalize nrm l[m]=y at *
    generalize nrmS (l.drop (m+1))=t at *
    have hmp:(m:Int)<ps.length:=by omega
    go_wp2_with fail
    refine (C.out).mono ?_
    rintro e w2 ⟨vb2,R2,r2,rfl,hst2,hr2,hq2⟩
    have T:=hide (then_any y base w2 fb vb2 (D++R++R2) ak c U Z t r2 r hst2 hr2 (get_app HRR.out) CR.out)
    have Q2:=hide (HQ.out.trans hq2)
    clear hst2 hr2 hq2 C hc
    go_wp2_with fail
    refine (T.out).mono ?_
    rintro e w3 hrq
    have hrq2:RQ base w fb vb D ak c U Z (thenN y t) e w3:=RQ.later (R:=R++R2) Q2.out (by simpa using hrq)
    obtain ⟨r3,rfl,hz3⟩:=hrq2.rz
    have R3:=hide hz3
    clear hrq hrq2 hz3 T
    go_wp2
    go_roundg m
    case measure=>omega
    case rel=>exact ⟨r3,by omega,by go_num,rfl,by rw[HT.out];exact R3.out⟩
open Go.RowKit
theorem ST.rowNe{base b2:Nat}{w:World}{fb vb:Nat}{D:List NF}{ak c:Nat}{U:List NF}{Z:List Nat}(h:ST base w fb vb D ak c U Z){v:Value}{I:List Nat}(hi:IL b2 w v I):fb∉v.ownBlock.toList∧vb∉v.ownBlock.toList:=by
 obtain ⟨E,B,h1,_⟩:=h
 obtain ⟨cap,ht,_⟩:=h1.row
 obtain ⟨_,_,cur,hv⟩:=h1.vbs
 have key:∀ k,v.ownBlock=some k→∃ cur,w.heap[k]?=some (.cells cur 3 (0,0)):=by
  intro k hk
  rcases hi.2 with ⟨e,_⟩|⟨g,cp,cur,e,_,hg,_⟩
  ·rw[e]at hk;simp[Value.ownBlock]at hk
  ·rw[e]at hk;simp[Value.ownBlock]at hk;subst hk;exact ⟨cur,hg⟩
 constructor
 ·intro hm
  rw[Option.mem_toList]at hm
  obtain ⟨cu,hc⟩:=key _ hm
  rw[ht.1]at hc;simp at hc
 ·intro hm
  rw[Option.mem_toList]at hm
  obtain ⟨cu,hc⟩:=key _ hm
  rw[hv]at hc;simp at hc
structure GQ(base:Nat)(w wr:World)(fb vb:Nat)(D:List NF)(ak c:Nat)(U:List NF)(Z:List Nat)(v5:Value)(I:List Nat)(X:List NF)(vb':Nat)(R:List NF):Prop where
 il:IL w.heap.size wr v5 I
 st:ST base wr fb vb' (D++R) ak c U (v5.ownBlock.toList++Z)
 lt:∀ q∈I,q<(D++R).length
 mp:X=I.map fun j=>(D++R).getD j .zero
 fq:FQ fb vb vb' w wr
theorem GQ.start{base:Nat}{w:World}{fb vb:Nat}{D:List NF}{ak c:Nat}{U:List NF}{Z:List Nat}(h:ST base w fb vb D ak c U Z):GQ base w (w.alloc (Obj.cells #[] 3)) fb vb D ak c U Z (.slice (some ⟨w.heap.size,0,none⟩) 0 0) [] [] vb []:=by
 have F:=(Frm.refl [] w).alloc (Obj.cells #[] 3)
 refine ⟨World.ownsRow_lit _ #[] 0 (Nat.le_refl _) (by unfold maxLen;omega) (by simp),?_,by simp,by simp,FQ.keepR (FQ.refl _ _ _) F⟩
 rw[List.append_nil]
 exact h.more F (fun k hk=>by simp[Value.ownBlock]at hk;subst hk;simp)
theorem GQ.turn{base:Nat}{w wr w2:World}{fb vb vb' vb2:Nat}{D:List NF}{ak c:Nat}{U:List NF}{Z:List Nat}{v5:Value}{I:List Nat}{X R R2:List NF}(h:GQ base w wr fb vb D ak c U Z v5 I X vb' R)(hst:ST base w2 fb vb2 (D++R++R2) ak c U (v5.ownBlock.toList++Z))(hq:FQ fb vb' vb2 wr w2):GQ base w w2 fb vb D ak c U Z v5 I X vb2 (R++R2):=by
 have hne:=h.st.rowNe h.il
 refine ⟨row_frm h.il hq.fr (fun k hk=>?_),by rw[← List.append_assoc];exact hst,?_,?_,h.fq.trans hq⟩
 ·simp only[List.mem_cons,List.not_mem_nil,or_false,not_or]
  exact ⟨fun e=>hne.1 (by rw[Option.mem_toList,← e];exact hk),fun e=>hne.2 (by rw[Option.mem_toList,← e];exact hk)⟩
 ·intro q hqq;have:=h.lt q hqq;simp at this ⊢;omega
 ·rw[← List.append_assoc,map_app h.lt];exact h.mp
theorem GQ.keep{base:Nat}{w wr w2:World}{fb vb vb':Nat}{D:List NF}{ak c:Nat}{U:List NF}{Z:List Nat}{v5:Value}{I:List Nat}{X R:List NF}(h:GQ base w wr fb vb D ak c U Z v5 I X vb' R)(f:Frm [] wr w2):GQ base w w2 fb vb D ak c U Z v5 I X vb' R :=
 ⟨own_frm h.il f (by simp),h.st.keep f,h.lt,h.mp,FQ.keepR h.fq f⟩
theorem GQ.add{base:Nat}{w wr w5:World}{fb vb vb' g cap q:Nat}{D:List NF}{ak c:Nat}{U:List NF}{Z:List Nat}{v5:Value}{I:List Nat}{X R:List NF}{y:NF}{o:Obj}(h:GQ base w wr fb vb D ak c U Z v5 I X vb' R)(hq:(D++R)[q]?=some y)
 (hil:IL w.heap.size w5 (.slice (some ⟨g,0,none⟩) (I.length+1) cap) (I++[q])) (hg:(wr.alloc o).grownBy w5 v5.ownBlock) (hat:v5.ownBlock=some g∨g=(wr.alloc o).heap.size) (hgl:g<w5.heap.size):GQ base w w5 fb vb D ak c U Z (.slice (some ⟨g,0,none⟩) (I.length+1) cap) (I++[q]) (X++[y]) vb' R:=by
 have hne:=h.st.rowNe h.il
 refine ⟨hil,h.st.growZ hg hat hgl hne.1 hne.2,?_,?_,⟨(h.fq.fr.alloc o).grown hg (fun k hk=>.inr (h.il.lt k hk).1),h.fq.mv⟩⟩
 ·intro j hj
  rcases List.mem_append.1 hj with e|e
  ·exact h.lt j e
  ·simp at e;subst e;exact (List.getElem?_eq_some_iff.1 hq).1
 ·rw[List.map_append,← h.mp];simp only[List.map_cons,List.map_nil,getD_of hq]
theorem GQ.or{base:Nat}{w wr:World}{fb vb vb':Nat}{D:List NF}{ak c:Nat}{U:List NF}{Z:List Nat}{v5:Value}{I:List Nat}{X R:List NF}(h:GQ base w wr fb vb D ak c U Z v5 I X vb' R)(hU:OrOK U X) :
 Calls Tryz.prog 123 #[.pointer (some ⟨fb,0,none⟩),v5] wr (RQ base w fb vb D ak c U Z (orL X)) :=
 (or_any base wr fb vb' (D++R) ak c U Z v5 I X h.st.less (row_nl h.il) h.lt h.mp hU).mono fun e w' hr=>RQ.later h.fq hr
theorem normalChoice_any(A:Nat→Prop)(base:Nat)(w:World)(fb vb:Nat)(D:List NF)(ak c:Nat)(U:List NF)(Z:List Nat)(v:Value)(ps:List Nat)(l:List RX)(h:ST base w fb vb D ak c U Z)(hv:XV A w v ps)(hr:XRs A w ps l)(hN:NeedXL U l)(hS:OrOK U (nrmA l))(hd:digL l)(ho:okxL l)(ih:∀ y∈l,NmC y) :
 Calls Tryz.prog 113 #[.pointer (some ⟨fb,0,none⟩),v] w (RQ base w fb vb D ak c U Z (orL (nrmA l))):=by
 obtain ⟨a,cap,rfl⟩:=own_shape hv.1
 have hlen:=hr.len
 have HV:=hide hv
 have HR:=hide hr
 have HN:=hide hN
 have HSO:=hide hS
 have HD:=hide hd
 have HO:=hide ho
 have HI:=hide ih
 have HS:=hide h
 have hps:=hv.2.2
 have Hlen:=hide hlen
 clear hv hr hN hS hd ho ih h hlen
 go_enter Tryz.func113,Tryz.ntmps113
 go_wp2_with fail
 go_loopg [5,12] ps.length (fun k v5 v12 wr=>∃ (j:Nat) (I:List Nat) (vb':Nat) (R:List NF),j+k=ps.length∧v12=.int .i64 j∧I.length≤j∧GQ base w wr fb vb D ak c U Z v5 I ((nrmA l).take j) vb' R)
 case atStart=>exact ⟨0,[],vb,[],by omega,rfl,by simp,GQ.start HS.out⟩
 case round =>
  obtain ⟨j,I,vb1,R,hj,rfl,hIl,hg⟩:=hrel
  obtain ⟨a5,c5,rfl⟩:=own_shape hg.il
  have G:=hide hg
  have zr:=hg.fq.fr.size
  clear hg
  by_cases hlt:j<ps.length
  ·have hml:j<l.length:=by have:=Hlen.out;omega
   obtain ⟨g,rfl⟩:∃ g,a=some ⟨g,0,none⟩:=by
    rcases HV.out.1.2 with ⟨e,h⟩|⟨g,c,cur,e,_⟩
    ·simp at e;omega
    ·simp at e;exact ⟨g,e.1⟩
   have KX:KeepX A w wr:=HS.out.keepX G.out.fq
   obtain ⟨p,hp,hx⟩:=(HR.out.keep KX).get j hml
   have hc:=(HV.out.keep KX).cell hp
   have hm:=List.getElem_mem hml
   have C:=hide (HI.out _ hm A base wr fb vb1 (D++R) ak c U ((Value.ownBlock (.slice a5 I.length c5)).toList++Z) p G.out.st hx (needXL_mem.1 HN.out _ hm) (digL_mem HD.out hm) (okxL_mem HO.out hm))
   have HT:Hid ((nrmA l).take (j+1)=(nrmA l).take j++[nrm l[j]]):=by show _=_;rw[nrmA_map,List.take_add_one];simp[hml]
   clear KX hx hm hp
   generalize nrm l[j]=y at *
   go_wp2_with fail
   refine (C.out).mono ?_
   rintro e w2 ⟨vb2,R2,r2,rfl,hst2,hr2,hq2⟩
   have G2:=hide (G.out.turn hst2 hq2)
   have z2:=hq2.fr.size
   have HR2:Hid ((D++(R++R2))[r2]?=some y):=by show _=_;rw[← List.append_assoc];exact hr2
   clear hst2 hr2 hq2 C hc G
   go_wp2_with (first | (at_builtin;refine wp_appI _ rfl _ _ rfl w.heap.size (.slice a5 I.length c5) I r2 w2.heap.size rfl (G2.out.il.alloc _) rfl (cell_newX _ _ _ _ rfl) (by omega) (by simp;omega) ?_;intro gg cap2 w5 hown hgrow hat hgl;have G5:=hide (G2.out.add HR2.out hown hgrow hat hgl);clear hown hgrow hat))
   go_roundg (gk-1)
   case measure=>omega
   case rel=>exact ⟨j+1,I++[r2],vb2,R++R2,by omega,by go_num,by simp only[List.length_append,List.length_cons,List.length_nil];omega,by rw[HT.out];simpa using G5.out⟩
  ·have G2:Hid (GQ base w wr fb vb D ak c U Z (.slice a5 I.length c5) I (nrmA l) vb1 R):=by
    have:=G.out
    rw[List.take_of_length_le (by rw[nrmA_map,List.length_map];have:=Hlen.out;omega)]at this
    exact this
   have C:=hide (G2.out.or HSO.out)
   clear G G2
   go_wp2_with fail
   refine (C.out).mono ?_
   rintro e w3 hrq
   have R3:=hide hrq
   obtain ⟨_,_,r3,rfl,_⟩:=hrq
   go_wp2
   go_ret
   exact R3.out
open Go.RowKit
theorem XB.get{w:World}{eb s:Nat}(h:XB w eb s):w.cell? ⟨eb,0,none⟩=some (.int .i64 0)∧w.cell? ⟨eb,1,none⟩=some (.int .u64 (wd s 0))∧w.cell? ⟨eb,2,none⟩=some (.int .u64 (wd s 1))∧w.cell? ⟨eb,3,none⟩=some (.int .u64 (wd s 2))∧w.cell? ⟨eb,4,none⟩=some (.int .u64 (wd s 3)):=by
 unfold XB at h
 simp only[World.cell?,h]
 exact ⟨rfl,rfl,rfl,rfl,rfl⟩
theorem normal_one(s:Nat):NmC (.one s):=by
 intro A base w fb vb D ak c U Z p h hx hn hd ho
 simp only[XR]at hx
 obtain ⟨c0,c1,c2,c3,c4⟩:=hx.2.get
 have SA:=hide (set_any base w fb vb D ak c U Z s h ho hn)
 simp only[bv]at SA
 have e:nrm (.one s)=setN s:=rfl
 rw[e]
 clear hx h hn
 go_enter Tryz.func105,Tryz.ntmps105
 go_wp2_with fail
 refine (SA.out).mono ?_
 rintro e w3 hrq
 have R3:=hide hrq
 obtain ⟨_,_,r3,rfl,_⟩:=hrq
 go_wp2
 go_ret
 exact R3.out
theorem normal_alt(l:List RX)(ih:∀ y∈l,NmC y):NmC (.alt l):=by
 intro A base w fb vb D ak c U Z p h hx hn hd ho
 simp only[XR]at hx
 obtain ⟨_,v,ps,h1,h2,h3⟩:=hx
 have c0:=h1.c0
 have c5:=h1.c5
 have CA:=hide (normalChoice_any A base w fb vb D ak c U Z v ps l h h2 h3 hn.1 hn.2 hd ho.1 ih)
 have e:nrm (.alt l)=orL (nrmA l):=rfl
 rw[e]
 obtain ⟨a,cap,rfl⟩:=own_shape h2.1
 clear h1 h2 h3 h hn
 go_enter Tryz.func105,Tryz.ntmps105
 go_wp2_with fail
 refine (CA.out).mono ?_
 rintro e w3 hrq
 have R3:=hide hrq
 obtain ⟨_,_,r3,rfl,_⟩:=hrq
 go_wp2
 go_ret
 exact R3.out
theorem normal_seq(l:List RX)(ih:∀ y∈l,NmC y):NmC (.seq l):=by
 intro A base w fb vb D ak c U Z p h hx hn hd ho
 simp only[XR]at hx
 obtain ⟨_,v,ps,h1,h2,h3⟩:=hx
 have c0:=h1.c0
 have c5:=h1.c5
 have CA:=hide (normalSequence_any A base w fb vb D ak c U Z v ps l h h2 h3 hn.1 hn.2 hd ho ih)
 have e:nrm (.seq l)=nrmS l:=rfl
 rw[e]
 obtain ⟨a,cap,rfl⟩:=own_shape h2.1
 clear h1 h2 h3 h hn
 go_enter Tryz.func105,Tryz.ntmps105
 go_wp2_with fail
 refine (CA.out).mono ?_
 rintro e w3 hrq
 have R3:=hide hrq
 obtain ⟨_,_,r3,rfl,_⟩:=hrq
 go_wp2
 go_ret
 exact R3.out
theorem normal_rep(x:RX)(lo:Nat)(hi:Option Nat)(ih:NmC x):NmC (.rep x lo hi):=by
 intro A base w fb vb D ak c U Z p h hx hn hd ho
 simp only[XR]at hx
 obtain ⟨_,q,h1,h2⟩:=hx
 have c0:=h1.c0
 have c6:=h1.c6
 have HS:=hide h
 have C:=hide (ih A base w fb vb D ak c U Z q h h2 hn.1 hd.1 ho.1)
 have e:nrm (.rep x lo hi)=repN (nrm x) lo hi:=rfl
 rw[e]
 have HN:=hide hn.2
 have hd2:=hd.2
 have ho2:=ho.2
 have H1:=hide h1
 have hpb:∃ cu fz,w.heap[p]?=some (.cells cu 190 fz):=⟨_,_,h1⟩
 clear h1 h2 h hn hd ho e
 go_enter Tryz.func105,Tryz.ntmps105
 go_wp2_with fail
 refine (C.out).mono ?_
 rintro e w3 hrq
 obtain ⟨vb',R,r,rfl,hst,hr,hq⟩:=hrq
 have KX:KeepX (fun _=>True) w w3:=HS.out.keepX hq
 have X3:XW w3 p q lo (hiZ hi):=by
  obtain ⟨cu,fz,hc⟩:=hpb
  have:=KX p trivial ⟨cu,fz, .inl hc⟩
  exact this.trans H1.out
 have c7:=X3.c7
 have c8:=X3.c8
 have N2:Hid (Calls Tryz.prog 114 #[.pointer (some ⟨fb,0,none⟩), .int .i64 r, .int .i64 lo, .int .i64 (hiZ hi)] w3.drew (RQ base w fb vb D ak c U Z (repN (nrm x) lo hi))) :=
  (normalRepeated_any base w3.drew fb vb' (D++R) ak c U Z (nrm x) r lo hi (hst.keep ((Frm.refl _ _).drew)) hr HN.out hd2.1 (fun n hn=>⟨ho2 n hn,hd2.2 n hn⟩)).mono fun e w' h=>RQ.later (FQ.keepR hq ((Frm.refl _ _).drew)) h
 clear KX X3 hst hr hq C hpb
 generalize hiZ hi=hz at *
 go_wp2_with fail
 go_region_with (go_at_call 114;refine (N2.out).mono ?_;rintro e w4 hrq;have R4:=hide hrq;obtain ⟨_,_,r4,rfl,_⟩:=hrq)
 all_goals
  go_wp2
  go_ret
  exact R4.out
mutual
theorem normal_any:∀ (x:RX),NmC x
 | .one s=>normal_one s
 | .seq l=>normal_seq l (normalL_any l)
 | .alt l=>normal_alt l (normalL_any l)
 | .rep x lo hi=>normal_rep x lo hi (normal_any x)
theorem normalL_any:∀ (l:List RX),∀ y∈l,NmC y
 | [],y,hy=>by simp at hy
 | x::r,y,hy=>by
   rcases List.mem_cons.1 hy with h|h
   ·rw[h];exact normal_any x
   ·exact normalL_any r y h
end
open Go.RowKit
def LfC(d:NF):Prop:=∀ (base:Nat) (w:World) (fb vb:Nat) (D:List NF) (ak c:Nat) (U:List NF) (Z:List Nat) (i:Nat),ST base w fb vb D ak c U Z→D[i]?=some d→Need c U d→c<256→1≤ak →
 Calls Tryz.prog 116 #[.pointer (some ⟨fb,0,none⟩), .int .i64 i, .int .u8 c] w (RQ base w fb vb D ak c U Z (left c d))
theorem leftOfPair_any(a b:NF)(iha:LfC a)(ihb:LfC b)(base:Nat)(w:World)(fb vb:Nat)(D:List NF)(ak c:Nat)(U:List NF)(Z:List Nat)(fi se:Nat)(kd s0 s1 s2 s3 lk ak' lf:Int)(te:Bool)(av:Option Addr)(nv cv:Nat)
 (h:ST base w fb vb D ak c U Z) (h1:D[fi]?=some a) (h2:D[se]?=some b) (hn:Need c U (.pair a b)) (hc:c<256) (ha:1≤ak) :
 Calls Tryz.prog 137 #[.pointer (some ⟨fb,0,none⟩), .agg #[.int .i64 kd, .int .u64 s0, .int .u64 s1, .int .u64 s2, .int .u64 s3, .int .i64 fi, .int .i64 se, .slice av nv cv, .bool te, .int .i64 lk, .int .i64 ak', .int .i64 lf], .int .u8 c] w (RQ base w fb vb D ak c U Z (left c (.pair a b))):=by
 have HS:=hide h
 have H1:=hide h1
 have H2:=hide h2
 have HN:=hide hn
 have hvb:=h.tbl.2.2.2.2.2
 have F0:Frm [] w (w.alloc (Obj.cells #[.int .i64 kd, .int .u64 s0, .int .u64 s1, .int .u64 s2, .int .u64 s3, .int .i64 fi, .int .i64 se, .slice av nv cv, .bool te, .int .i64 lk, .int .i64 ak', .int .i64 lf] 198)):=(Frm.refl _ _).alloc _
 have hb0:=heap1 w (Obj.cells #[.int .i64 kd, .int .u64 s0, .int .u64 s1, .int .u64 s2, .int .u64 s3, .int .i64 fi, .int .i64 se, .slice av nv cv, .bool te, .int .i64 lk, .int .i64 ak', .int .i64 lf] 198)
 have z0:(w.alloc (Obj.cells #[.int .i64 kd, .int .u64 s0, .int .u64 s1, .int .u64 s2, .int .u64 s3, .int .i64 fi, .int .i64 se, .slice av nv cv, .bool te, .int .i64 lk, .int .i64 ak', .int .i64 lf] 198)).heap.size=w.heap.size+1:=by simp
 clear h h1 h2 hn
 go_enter Tryz.func137,Tryz.ntmps137
 go_wp2_with fail
 generalize w.alloc (Obj.cells #[.int .i64 kd, .int .u64 s0, .int .u64 s1, .int .u64 s2, .int .u64 s3, .int .i64 fi, .int .i64 se, .slice av nv cv, .bool te, .int .i64 lk, .int .i64 ak', .int .i64 lf] 198)=w0 at F0 hb0 z0 ⊢
 have A1:=hide (iha base w0 fb vb D ak c U Z fi (HS.out.keep F0) H1.out HN.out.1 hc ha)
 have HF0:=hide F0
 have HB0:=hide hb0
 clear F0 hb0
 refine (A1.out).mono ?_
 rintro e w1 hrq
 obtain ⟨vb1,R1,r1,rfl,hst1,hr1,hq1⟩:=hrq
 have hq1':=FQ.keepL HF0.out hq1
 have hbl1:w1.heap[w.heap.size]?=w0.heap[w.heap.size]?:=hq1.block (by omega) (by omega) (by omega)
 rw[HB0.out]at hbl1
 have p5:w1.cell? ⟨w.heap.size,5,none⟩=some (.int .i64 fi):=by simp[World.cell?,hbl1]
 have p6:w1.cell? ⟨w.heap.size,6,none⟩=some (.int .i64 se):=by simp[World.cell?,hbl1]
 have T:=hide (then_any (left c a) base w1 fb vb1 (D++R1) ak c U Z b r1 se hst1 hr1 (get_app H2.out) HN.out.2.1)
 have S1:=hide hst1
 have Q1:=hide hq1'
 have HBL1:=hide hbl1
 have zq1:=hq1.fr.size
 have hmv1:=hq1.mv
 clear hst1 hr1 hq1 hq1' hbl1 A1
 go_wp2_with fail
 refine (T.out).mono ?_
 rintro e w2 hrq
 obtain ⟨vb2,R2,r2,rfl,hst2,hr2,hq2⟩:=hrq
 have hbl2:w2.heap[w.heap.size]?=w1.heap[w.heap.size]?:=hq2.block (by omega) (by omega) (by omega)
 rw[HBL1.out]at hbl2
 have u5:w2.cell? ⟨w.heap.size,5,none⟩=some (.int .i64 fi):=by simp[World.cell?,hbl2]
 have u6:w2.cell? ⟨w.heap.size,6,none⟩=some (.int .i64 se):=by simp[World.cell?,hbl2]
 have hD2:(D++R1++R2)[fi]?=some a:=get_app (get_app H1.out)
 obtain ⟨f,L,cap,K⟩:=hst2.look hD2
 have t0:=K.tab
 have k8:=K.get.2.2.2.2.2.2.2.2.1
 have hlt:=K.lt
 rw[K.te]at k8
 have S2:=hide hst2
 have Q2:=hide (FQ.trans Q1.out hq2)
 have HR2:=hide hr2
 have zq2:=hq2.fr.size
 have hlt2:(fi:Int)<(D++R1++R2).length:=by omega
 clear K hst2 hr2 hq2 hbl2 T p5 p6 hD2
 obtain ⟨nD,hnD⟩:∃ n,n=(D++R1++R2).length:=⟨_,rfl⟩
 rw[← hnD]at t0 hlt hlt2
 clear hnD
 cases hna:nul a with
 | false =>
   rw[hna]at k8
   have HL:Hid (left c (.pair a b)=thenN (left c a) b):=by show _=_;simp only[left,hna];simp
   have R3:Hid (∀ nq,RQ base w fb vb D ak c U Z (thenN (left c a) b) (.returned (.int .i64 (r2:Nat))) (w2.drewN nq)):=fun nq=>⟨vb2,R1++R2,r2,rfl,by rw[← List.append_assoc];exact S2.out.keep ((Frm.refl _ _).drewN _),by rw[← List.append_assoc];exact HR2.out,FQ.keepR Q2.out ((Frm.refl _ _).drewN _)⟩
   go_wp2_with fail
   go_quiet (fail)
   go_wp2
   go_ret
   rw[HL.out]
   exact R3.out _
 | true =>
   rw[hna]at k8
   have HL:Hid (left c (.pair a b)=orL [thenN (left c a) b,left c b]):=by show _=_;simp only[left,hna];simp;rfl
   have hnb:=HN.out.2.2 hna
   have B1:=hide (fun nq=>ihb base (w2.drewN nq) fb vb2 (D++R1++R2) ak c U Z se (S2.out.keep ((Frm.refl _ _).drewN _)) (get_app (get_app H2.out)) hnb.1 hc ha)
   have OK:=hide hnb.2
   clear hnb hna
   go_wp2_with fail
   go_quiet (fail)
   go_wp2_with fail
   refine (B1.out _).mono ?_
   rintro e w3 hrq
   obtain ⟨vb3,R3,r3,rfl,hst3,hr3,hq3⟩:=hrq
   have OC:Hid (∀ o,o=Obj.cells #[.int .i64 r2, .int .i64 r3] 3→Calls Tryz.prog 123 #[.pointer (some ⟨fb,0,none⟩), .slice (some ⟨w3.heap.size,0,none⟩) 2 2] (w3.alloc o) (RQ base w fb vb D ak c U Z (orL [thenN (left c a) b,left c b]))):=by
    rintro o rfl
    have F3:=(Frm.refl [] w3).alloc (Obj.cells #[.int .i64 r2, .int .i64 r3] 3)
    have hst4:=hst3.keep F3
    have hil:IL w3.heap.size (w3.alloc (Obj.cells #[.int .i64 r2, .int .i64 r3] 3)) (.slice (some ⟨w3.heap.size,0,none⟩) 2 2) [r2,r3]:=World.ownsRow_lit _ #[.int .i64 r2, .int .i64 r3] 2 (Nat.le_refl _) (by unfold maxLen;omega) (by simp)
    have hr2:(D++R1++R2++R3)[r2]?=some (thenN (left c a) b):=get_app HR2.out
    have Q4:FQ fb vb vb3 w (w3.alloc (Obj.cells #[.int .i64 r2, .int .i64 r3] 3)):=FQ.keepR (FQ.trans (FQ.keepR Q2.out ((Frm.refl _ _).drewN _)) hq3) F3
    refine (or_any base _ fb vb3 (D++R1++R2++R3) ak c U Z (.slice (some ⟨w3.heap.size,0,none⟩) 2 2) [r2,r3] [thenN (left c a) b,left c b] hst4 (row_nl hil) ?_ ?_ OK.out).mono fun e w' h=>RQ.later (R:=R1++R2++R3) Q4 (by simpa[List.append_assoc] using h)
    ·intro q hq
     simp only[List.mem_cons,List.not_mem_nil,or_false]at hq
     rcases hq with rfl|rfl
     ·exact (List.getElem?_eq_some_iff.1 hr2).1
     ·exact (List.getElem?_eq_some_iff.1 hr3).1
    ·simp only[List.map_cons,List.map_nil,getD_of hr2,getD_of hr3]
   clear hst3 hr3 hq3 B1
   go_wp2_with fail
   refine (OC.out _ rfl).mono ?_
   rintro e w4 hrq
   have R4:=hide hrq
   obtain ⟨_,_,r4,rfl,_⟩:=hrq
   go_wp2
   go_ret
   rw[HL.out]
   exact R4.out
open Go.RowKit
theorem orL_perm{xs ys:List NF}(hw:∀ x∈ys,wf x)(h:xs.Perm ys):orL xs=orL ys :=
 orL_congr (fun x hx=>hw x (h.mem_iff.1 hx)) hw fun p=>(h.flatMap_right parts).mem_iff
theorem OrOK.perm{U xs ys:List NF}(hw:∀ x∈ys,wf x)(h:xs.Perm ys)(k:OrOK U ys):OrOK U xs:=by
 have hf:=h.flatMap_right parts
 have hj:joinB (xs.flatMap parts)=joinB (ys.flatMap parts):=joinB_congr fun i=>by
  rw[Bool.eq_iff_iff,List.any_eq_true,List.any_eq_true]
  exact ⟨fun ⟨x,hx,e⟩=>⟨x,hf.mem_iff.1 hx,e⟩,fun ⟨x,hx,e⟩=>⟨x,hf.mem_iff.2 hx,e⟩⟩
 have hs:srt (coreL (xs.flatMap parts))=srt (coreL (ys.flatMap parts)) :=
  srt_core_eq (flat_wf fun x hx=>hw x (h.mem_iff.1 hx)) (flat_wf hw) (fun p _=>hf.mem_iff) hj
 refine ⟨fun h0=>?_,fun h2=>?_,?_,?_⟩
 ·rw[hj]at h0 ⊢;exact k.1 h0
 ·rw[orL_perm hw h];rw[hs]at h2;exact k.2.1 h2
 ·rw[hf.length_eq];exact k.2.2.1
 ·rw[h.length_eq];exact k.2.2.2
theorem GQ.first{base:Nat}{w w0 wr:World}{fb vb:Nat}{D:List NF}{ak c:Nat}{U:List NF}{Z:List Nat}{X:List NF}{e:Ending}(f:Frm [] w w0)(h:RQ base w0 fb vb D ak c U Z (orL X) e wr):RQ base w fb vb D ak c U Z (orL X) e wr:=RQ.first f h
theorem ST.noInt{base:Nat}{w:World}{fb vb:Nat}{D:List NF}{ak c:Nat}{U:List NF}{Z:List Nat}(h:ST base w fb vb D ak c U Z):NoInt w [fb,vb]:=h.tbl.2.2.2.2.2.2.2.2.2
theorem leftOfSum_any(l:List NF)(ih:∀ y∈l,LfC y)(base:Nat)(w:World)(fb vb:Nat)(D:List NF)(ak c:Nat)(U:List NF)(Z:List Nat)(L:List Nat)(kd s0 s1 s2 s3 lk ak' lf fi se:Int)(te:Bool)(av:Option Addr)(cv:Nat)
 (h:ST base w fb vb D ak c U Z) (hp:PL w (.slice av L.length cv) L) (hl:∀ j∈L,j<D.length) (hm:(L.map fun j=>D.getD j .zero).Perm l) (hn:Need c U (.sum l)) (hc:c<256) (ha:1≤ak) (hw:∀ x∈l,wf x) :
 Calls Tryz.prog 138 #[.pointer (some ⟨fb,0,none⟩), .agg #[.int .i64 kd, .int .u64 s0, .int .u64 s1, .int .u64 s2, .int .u64 s3, .int .i64 fi, .int .i64 se, .slice av L.length cv, .bool te, .int .i64 lk, .int .i64 ak', .int .i64 lf], .int .u8 c] w (RQ base w fb vb D ak c U Z (left c (.sum l))):=by
 have HS:=hide h
 have HP:=hide hp
 have HL:=hide hl
 have HM:=hide hm
 have HN:=hide hn
 have HI:=hide ih
 have hLl:L.length≤9000000000000:=by
  have h1:=hn.2.2.2.2
  rw[leftL_map,List.length_map]at h1
  have h2:=hm.length_eq
  rw[List.length_map]at h2
  omega
 have pm:(L.map fun q=>left c (D.getD q .zero)).Perm (leftL c l):=by
  rw[leftL_map]
  have:=hm.map (left c)
  rw[List.map_map]at this
  exact this
 have wl:∀ x∈leftL c l,wf x:=by
  intro x hx
  rw[leftL_map]at hx
  obtain ⟨y,hy,rfl⟩:=List.mem_map.1 hx
  exact left_wf c y (hw y hy)
 have HLF:Hid (left c (.sum l)=orL (L.map fun q=>left c (D.getD q .zero))):=by
  show _=_
  rw[orL_perm wl pm];rfl
 have HOK:Hid (OrOK U (L.map fun q=>left c (D.getD q .zero))):=OrOK.perm wl pm hn.2
 have F0:Frm [] w (w.alloc (Obj.cells #[.int .i64 kd, .int .u64 s0, .int .u64 s1, .int .u64 s2, .int .u64 s3, .int .i64 fi, .int .i64 se, .slice av L.length cv, .bool te, .int .i64 lk, .int .i64 ak', .int .i64 lf] 198)):=(Frm.refl _ _).alloc _
 have q7:∀ o,((w.alloc (Obj.cells #[.int .i64 kd, .int .u64 s0, .int .u64 s1, .int .u64 s2, .int .u64 s3, .int .i64 fi, .int .i64 se, .slice av L.length cv, .bool te, .int .i64 lk, .int .i64 ak', .int .i64 lf] 198)).alloc o).cell? ⟨w.heap.size,7,none⟩=some (.slice av L.length cv):=by
  intro o
  rw[((Frm.refl [] _).alloc o).cell (p:=⟨w.heap.size,7,none⟩) (by simp) (by simp)]
  have:=heap1 w (Obj.cells #[.int .i64 kd, .int .u64 s0, .int .u64 s1, .int .u64 s2, .int .u64 s3, .int .i64 fi, .int .i64 se, .slice av L.length cv, .bool te, .int .i64 lk, .int .i64 ak', .int .i64 lf] 198)
  simp only[World.cell?,this]
  rfl
 have hz:(w.alloc (Obj.cells #[.int .i64 kd, .int .u64 s0, .int .u64 s1, .int .u64 s2, .int .u64 s3, .int .i64 fi, .int .i64 se, .slice av L.length cv, .bool te, .int .i64 lk, .int .i64 ak', .int .i64 lf] 198)).heap.size=w.heap.size+1:=by simp
 have HZ:=hide hz
 clear hz
 clear h hp hl hm hn ih pm wl hw
 rw[HLF.out]
 go_enter Tryz.func138,Tryz.ntmps138
 go_wp2_with fail
 generalize w.alloc (Obj.cells #[.int .i64 kd, .int .u64 s0, .int .u64 s1, .int .u64 s2, .int .u64 s3, .int .i64 fi, .int .i64 se, .slice av L.length cv, .bool te, .int .i64 lk, .int .i64 ak', .int .i64 lf] 198)=w0 at F0 q7 HZ ⊢
 have hz:=HZ.out
 clear HZ
 have HF0:=hide F0
 have z0:=F0.size
 have hz0:=hz
 rw[← hz0]
 clear hz0 hz
 clear F0 q7
 go_loopg [7,15] L.length (fun k v7 v15 wr=>∃ (j:Nat) (I:List Nat) (vb':Nat) (R:List NF),j+k=L.length∧v15=.int .i64 j∧I.length≤j∧GQ base w0 wr fb vb D ak c U Z v7 I ((L.take j).map fun q=>left c (D.getD q .zero)) vb' R∧PL wr (.slice av L.length cv) L)
 case atStart=>exact ⟨0,[],vb,[],by omega,rfl,by simp,GQ.start (HS.out.keep HF0.out),(HP.out.frm HF0.out (NoInt.nil _)).frm ((Frm.refl _ _).alloc _) (NoInt.nil _)⟩
 case round =>
  obtain ⟨j,I,vb1,R,hj,rfl,hIl,hg,hpl⟩:=hrel
  obtain ⟨a5,c5,rfl⟩:=own_shape hg.il
  have G:=hide hg
  have P3:=hide hpl
  have zr:=hg.fq.fr.size
  clear hg hpl
  by_cases hlt:j<L.length
  ·obtain ⟨a3,c3,e3,h3⟩:=P3.out.1
   simp only[Value.slice.injEq,true_and]at e3
   obtain ⟨rfl,rfl⟩:=e3
   obtain ⟨g,off,rfl,hg2,hc3⟩:=h3 j hlt
   have hblk:g<w.heap.size:=HP.out.blk rfl
   have hLj:=HL.out L[j] (List.getElem_mem hlt)
   have hDj:(D++R)[L[j]]?=some (D.getD L[j] .zero):=get_app (getD_some hLj)
   have hmem:D.getD L[j] .zero∈l:=HM.out.mem_iff.1 (List.mem_map.2 ⟨L[j],List.getElem_mem hlt,rfl⟩)
   have C:=hide (HI.out _ hmem base wr fb vb1 (D++R) ak c U ((Value.ownBlock (.slice a5 I.length c5)).toList++Z) L[j] G.out.st hDj (needL_mem.1 HN.out.1 _ hmem) hc ha)
   have HT:Hid (((L.take (j+1)).map fun q=>left c (D.getD q .zero))=((L.take j).map fun q=>left c (D.getD q .zero))++[left c (D.getD L[j] .zero)]):=by
    have:=map_take_succ L (fun q=>left c (D.getD q .zero)) j hlt []
    exact this
   clear h3 hLj hDj hmem
   generalize left c (D.getD L[j] .zero)=y at *
   generalize L[j]=q at *
   go_wp2_with fail
   refine (C.out).mono ?_
   rintro e w2 ⟨vb2,R2,r2,rfl,hst2,hr2,hq2⟩
   have G2:=hide (G.out.turn hst2 hq2)
   have P4:=hide (P3.out.frm hq2.fr G.out.st.noInt)
   have z2:=hq2.fr.size
   have HR2:Hid ((D++(R++R2))[r2]?=some y):=by show _=_;rw[← List.append_assoc];exact hr2
   clear hst2 hr2 hq2 C hc3 G P3
   go_wp2_with (first | (at_builtin;refine wp_appI _ rfl _ _ rfl w0.heap.size (.slice a5 I.length c5) I r2 w2.heap.size rfl (G2.out.il.alloc _) rfl (cell_newX _ _ _ _ rfl) (by omega) (by simp;omega) ?_;intro gg cap2 w5 hown hgrow hat hgl;have G5:=hide (G2.out.add HR2.out hown hgrow hat hgl);have P5:=hide ((P4.out.frm ((Frm.refl [] w2).alloc _) (NoInt.nil _)).frm2 (Frm.of_grow hgrow) (fun a n cc e hm=>by simp at e;obtain ⟨rfl,_⟩:=e;rw[Option.mem_toList]at hm;have:=(G2.out.il.lt _ hm).1;simp at this;omega));clear hown hgrow hat))
   go_roundg (gk-1)
   case measure=>omega
   case rel=>exact ⟨j+1,I++[r2],vb2,R++R2,by omega,by go_num,by simp only[List.length_append,List.length_cons,List.length_nil];omega,by rw[HT.out];simpa using G5.out,P5.out⟩
  ·have G2:Hid (GQ base w0 wr fb vb D ak c U Z (.slice a5 I.length c5) I (L.map fun q=>left c (D.getD q .zero)) vb1 R):=by
    have:=G.out
    rw[List.take_of_length_le (by omega)]at this
    exact this
   have C:=hide (G2.out.or HOK.out)
   clear G G2 P3
   go_wp2_with fail
   refine (C.out).mono ?_
   rintro e w3 hrq
   have R3:=hide (RQ.first HF0.out hrq)
   obtain ⟨_,_,r3,rfl,_⟩:=hrq
   go_wp2
   go_ret
   exact R3.out
end Go.Proofs.YtjkialjoamgbgaaGreat
