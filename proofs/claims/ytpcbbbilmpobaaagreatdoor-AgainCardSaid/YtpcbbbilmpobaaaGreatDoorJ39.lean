import Derived.Test.YtpcbbbilmpobaaaGreatDoorJ38
import Derived.BigRegion
set_option linter.unusedVariables false
set_option linter.unusedSimpArgs false
set_option linter.unnecessarySimpa false
set_option maxRecDepth 100000
set_option maxHeartbeats 4000000
namespace Go.Proofs.YtpcbbbilmpobaaaGreatDoor
open Go.RowKit
theorem getD_of{D:List NF}{j:Nat}{d:NF}(h:D[j]?=some d):D.getD j .zero=d:=by simp[List.getD,h]
theorem any_take_succ(R:List Nat)(g:Nat→Bool)(j:Nat)(h:j<R.length):(R.take (j+1)).any g=((R.take j).any g||g R[j]):=by
 have e:R.take (j+1)=R.take j++[R[j]]:=by rw[List.take_add_one,List.getElem?_eq_getElem h];rfl
 rw[e,List.any_append];simp only[List.any_cons,List.any_nil,Bool.or_false]
theorem sum_any(base:Nat)(w:World)(fb vb:Nat)(D:List NF)(ak c:Nat)(U:List NF)(Z:List Nat)(v:Value)(L:List Nat)(l:List NF)(h:ST base w fb vb D ak c U Z)(hv:NL .i64 w v L)(hL:L.length≤9500000000000)
 (hl:∀ j∈L,j<D.length) (ht:Tell l) (hm:∀ p,p∈l↔p∈L.map fun j=>D.getD j .zero) (hw:WC (mkS (srt l))) (hU:2≤(srt l).length→mkS (srt l)∈U) :
 Calls Tryz.prog 156 #[.pointer (some ⟨fb,0,none⟩),v] w (RQ base w fb vb D ak c U Z (mkS (srt l))):=by
 have hlen:=h.len;have R1:=hide (xrising_any v L w hv hL);have HD0:=hide h.tbl.1;have ND:=h.tbl.2.2.1;have WCD:=h.tbl.2.2.2.1;have RS:Hid (∀ R,RO R L→srt (R.map fun j=>D.getD j .zero)=srt l∧(srt l).length=R.length):=fun R hR=>ro_srt ND WCD hR hl ht hm
 have HL:=hide hl;have HU:=hide hU;have HW:=hide hw;have HS:=hide h;have HZ:=hide h.zs;obtain ⟨av,cv,rfl,_⟩:=hv;clear hl hU hw h ht hm;go_enter Tryz.func156,Tryz.ntmps156
 go_wp2_with fail
 refine (R1.out).mono ?_;rintro e w1 ⟨v',R,rfl,hil,hro,hf1⟩;have hrs:=RS.out R hro;have hRl:∀ j∈R,j<D.length:=fun j hj=>HL.out j ((hro.2 j).1 hj)
 have hRlen:R.length≤D.length:=by
  rw[← hrs.2,← hrs.1];exact nodup_len (ris_nodup (srt_ris _)) fun x hx=>by
   obtain ⟨j,hj,rfl⟩:=List.mem_map.1 (srt_mem hx);exact getD_mem (hRl j hj)
 have HRS:=hide hrs;have HRO:=hide hro;have HRL:=hide hRl;have F1:=hide hf1;have S1:=hide (HS.out.keep hf1);have IL1:=hide hil;obtain ⟨a',c',rfl⟩:=own_shape hil;obtain ⟨a2,c2,e2,hN⟩:=row_nl hil;simp only[Value.slice.injEq,true_and]at e2;obtain ⟨rfl,rfl⟩:=e2;have HN:=hide hN;clear hrs hro hRl hf1 hil hN R1 RS HS HL
 match R,hRlen,HRS,HRO,HRL,IL1,HN with
 | [],hRlen,HRS,HRO,HRL,IL1,HN =>
   have e:Hid (mkS (srt l)=.zero):=by show _=_;rw[← HRS.out.1];rfl
   clear HN IL1;go_wp2;go_ret;rw[e.out];exact RQ.first F1.out (RQ.here (r:=0) S1.out (Frm.refl _ _) HD0.out)
 | [r],hRlen,HRS,HRO,HRL,IL1,HN =>
   have e:Hid (mkS (srt l)=D.getD r .zero):=by show _=_;rw[← HRS.out.1];rfl
   have hr:r<D.length:=HRL.out r (by simp);obtain ⟨g,off,rfl,hg,hc⟩:=HN.out 0 (by simp);simp only[List.getElem_cons_zero,Nat.add_zero]at hc;clear HN IL1;go_wp2;go_ret;rw[e.out];exact RQ.first F1.out (RQ.here (r:=r) S1.out (Frm.refl _ _) (getD_some hr))
 | r::r'::R',hRlen,HRS,HRO,HRL,IL1,HN =>
   obtain ⟨R,hR⟩:∃ R,R=r::r'::R':=⟨_,rfl⟩;have h2:2≤R.length:=by rw[hR];simp
   rw[← hR]at hRlen HRS HRO HRL IL1 HN;have hlR:(r::r'::R').length=R.length:=by rw[hR]
   rw[hlR];clear hR hlR;have b0:=beqZ0 (a:=R.length) (by omega);have b1:=beqZ1 (a:=R.length) (by omega);go_wp2_with fail
   have N1:Hid (∀ w',Frm [] w1 w'→Calls Tryz.prog 140 #[.pointer (some ⟨fb,0,none⟩), .agg #[.int .i64 4, .int .u64 0, .int .u64 0, .int .u64 0, .int .u64 0, .int .i64 0, .int .i64 0, .slice a' R.length c', .bool ((R.take R.length).any fun j=>nul (D.getD j .zero)), .int .i64 0, .int .i64 0, .int .i64 0]] w' (RQ base w' fb vb D ak c U Z (mkS (srt l)))):=by
    intro w' F;have hms:mkS (srt l)=.sum (srt (R.map fun j=>D.getD j .zero)):=by rw[HRS.out.1];exact mkS_many (by rw[HRS.out.2];exact h2)
    have hin:=HU.out (by rw[HRS.out.2];exact h2);have hww:=HW.out;rw[hms]at hin hww ⊢;have hpl:PL w' (.slice a' R.length c') R:=(PL.of_row IL1.out (by omega)).frm F (NoInt.nil _);have hte:((R.take R.length).any fun j=>nul (D.getD j .zero))=nul (.sum (srt (R.map fun j=>D.getD j .zero))):=by
     rw[List.take_length];show _=nulL _;rw[nulL_any,any_congr (a:=srt (R.map fun j=>D.getD j .zero)) (b:=R.map fun j=>D.getD j .zero) (fun p=>srt_mem_iff (map_tell WCD HRL.out)),List.any_map]
     rfl
    have:=number_any base w' fb vb D ak c U Z ⟨4,0,0,0, .slice a' R.length c',(R.take R.length).any fun j=>nul (D.getD j .zero),0,0,0⟩ R _ (S1.out.keep F) hpl (Nat.two_pow_pos 256) (.inr (.inr (.inl ⟨rfl,rfl,rfl,rfl,HRO.out.1,HRL.out,rfl⟩))) hww hin hte rfl (fun x n cc e hm=>by simp at e;obtain ⟨rfl,_⟩:=e;have h1:=(IL1.out.lt _ rfl).1;have h2:=HZ.out _ hm;omega);rw[cells0 4 0 0 _ _ 4 0 0 rfl rfl rfl]at this;exact this
   go_loopg [6,22] R.length (fun k vt vi wr=>∃ j:Nat,j+k=R.length∧vi=.int .i64 j∧vt=.bool ((R.take j).any fun j=>nul (D.getD j .zero))∧wr=w1)
   case atStart=>exact ⟨0,by omega,rfl,by simp,rfl⟩
   case round =>
    obtain ⟨j,hj,rfl,rfl,hw⟩:=hrel;subst hw
    by_cases hlt:j<R.length
    ·obtain ⟨g,off,rfl,hg,hc⟩:=HN.out j hlt
     have hrj:=HRL.out R[j] (List.getElem_mem hlt);obtain ⟨f,L2,cap,K⟩:=S1.out.look (getD_some hrj);have t0:=K.tab;have k8:=K.get.2.2.2.2.2.2.2.2.1;have hte:=K.te;rw[hte]at k8;have AT:=hide (any_take_succ R (fun j=>nul (D.getD j .zero)) j hlt);clear K hte;generalize R[j]=m at *;clear N1;cases hb:(R.take j).any fun j=>nul (D.getD j .zero)
     ·rw[hb]at AT
      have AT2:Hid (((R.take (j+1)).any fun j=>nul (D.getD j .zero))=nul (D.getD m .zero)):=by have:=AT.out;rw[Bool.false_or]at this;exact this
      clear AT hb;generalize nul (D.getD m .zero)=bm at *;go_wp2;go_roundg (gk-1)
      case measure=>omega
      case rel=>exact ⟨j+1,by omega,by go_num,by rw[AT2.out],rfl⟩
     ·rw[hb]at AT
      have AT2:Hid (((R.take (j+1)).any fun j=>nul (D.getD j .zero))=true):=by have:=AT.out;rw[Bool.true_or]at this;exact this
      clear AT hb;go_wp2;go_roundg (gk-1)
      case measure=>omega
      case rel=>exact ⟨j+1,by omega,by go_num,by rw[AT2.out],rfl⟩
    ·have hjl:j=R.length:=by omega
     subst hjl;have N2:=hide (N1.out wr (Frm.refl _ _));clear N1;generalize ((R.take R.length).any fun j=>nul (D.getD j .zero))=tb at *;go_wp2_with (go_at_call 140;refine (N2.out).mono ?_;rintro e w3 hrq;have R3:=hide (RQ.first F1.out hrq);obtain ⟨_,_,r3,rfl,_⟩:=hrq)
     go_ret;exact R3.out
def OrS(D:List NF)(P:List Nat)(s:Nat)(X:List NF):Prop :=
 (∀ q∈P,q<D.length)∧(∀ p,p∈P.map (fun j=>D.getD j .zero)↔p∈X∧isS p=false)∧s=joinB X∧P.length≤X.length
theorem OrS.nil(D:List NF):OrS D [] 0 []:=⟨by simp,by simp,rfl,by simp⟩
theorem joinB_snoc(X:List NF)(d:NF):joinB (X++[d])=joinB X ||| bits d:=by
 rw[joinB_append,joinB_cons];simp[joinB]
theorem OrS.set{D:List NF}{P:List Nat}{s t:Nat}{X:List NF}(h:OrS D P s X):OrS D P (s ||| t) (X++[.set t]):=by
 refine ⟨h.1,fun p=>?_,?_,?_⟩
 ·rw[h.2.1 p]
  constructor
  ·rintro ⟨a,b⟩;exact ⟨by simp[a],b⟩
  ·rintro ⟨a,b⟩
   rcases List.mem_append.1 a with e|e
   ·exact ⟨e,b⟩
   ·simp at e;subst e;simp[isS]at b
 ·rw[joinB_snoc,← h.2.2.1];rfl
 ·have:=h.2.2.2;simp;omega
theorem OrS.add{D:List NF}{P:List Nat}{s q:Nat}{X:List NF}{d:NF}(h:OrS D P s X)(hq:D[q]?=some d)(hd:isS d=false):OrS D (P++[q]) s (X++[d]):=by
 have hgd:=getD_of hq;refine ⟨?_,fun p=>?_,?_,?_⟩
 ·intro j hj
  rcases List.mem_append.1 hj with e|e
  ·exact h.1 j e
  ·simp at e;subst e;exact (List.getElem?_eq_some_iff.1 hq).1
 ·rw[List.map_append,List.mem_append,h.2.1 p]
  simp only[List.map_cons,List.map_nil,List.mem_singleton,List.mem_append,hgd]
  constructor
  ·rintro (⟨a,b⟩|e)
   ·exact ⟨.inl a,b⟩
   ·subst e;exact ⟨.inr rfl,hd⟩
  ·rintro ⟨a|e,b⟩
   ·exact .inl ⟨a,b⟩
   ·exact .inr e
 ·rw[joinB_snoc,← h.2.2.1,bits_non hd];simp
 ·have:=h.2.2.2;simp;omega
theorem OrS.congr{D:List NF}{P:List Nat}{s:Nat}{X Y:List NF}(h:OrS D P s X)(hm:∀ p,p∈X↔p∈Y)(hl:X.length≤Y.length):OrS D P s Y:=by
 refine ⟨h.1,fun p=>by rw[h.2.1 p,hm p],?_,Nat.le_trans h.2.2.2 hl⟩;rw[h.2.2.1];refine joinB_congr fun i=>?_
 rw[Bool.eq_iff_iff,List.any_eq_true,List.any_eq_true];exact ⟨fun ⟨x,hx,e⟩=>⟨x,(hm x).1 hx,e⟩,fun ⟨x,hx,e⟩=>⟨x,(hm x).2 hx,e⟩⟩
theorem OrS.core{D:List NF}{P:List Nat}{X:List NF}(h:OrS D P (joinB X) X)(h0:joinB X=0):∀ p,p∈coreL X↔p∈P.map fun j=>D.getD j .zero:=by
 intro p;rw[h.2.1 p,core_iff]
 constructor
 ·rintro (a|⟨a,_⟩)
  ·exact a
  ·exact absurd h0 a
 ·intro a;exact .inl a
theorem map_app{D R:List NF}{P:List Nat}(h:∀ q∈P,q<D.length):(P.map fun j=>(D++R).getD j .zero)=P.map fun j=>D.getD j .zero:=by
 refine List.map_congr_left fun j hj=>?_
 simp[List.getD,List.getElem?_append_left (h j hj)]
theorem OrS.coreS{D R:List NF}{P:List Nat}{X:List NF}{r:Nat}(h:OrS D P (joinB X) X)(h0:joinB X≠0)(hr:(D++R)[r]?=some (.set (joinB X))):∀ p,p∈coreL X↔p∈(P++[r]).map fun j=>(D++R).getD j .zero:=by
 intro p;rw[List.map_append,List.mem_append,map_app h.1,h.2.1 p,core_iff];simp only[List.map_cons,List.map_nil,List.mem_singleton,getD_of hr]
 constructor
 ·rintro (a|⟨_,b⟩)
  ·exact .inl a
  ·exact .inr b
 ·rintro (a|b)
  ·exact .inl a
  ·exact .inr ⟨h0,b⟩
def BX(w:World)(bb s:Nat):Prop:=w.heap[bb]?=some (.cells #[.int .u64 (wd s 0), .int .u64 (wd s 1), .int .u64 (wd s 2), .int .u64 (wd s 3)] 195 (0,0))
theorem BX.lt{w:World}{bb s:Nat}(h:BX w bb s):bb<w.heap.size:=(Array.getElem?_eq_some_iff.1 h).1
theorem BX.frm{S:List Nat}{w w':World}{bb s:Nat}(h:BX w bb s)(F:Frm S w w')(hS:bb∉S):BX w' bb s:=(F.block bb h.lt hS).trans h
theorem BX.fz{w:World}{bb s:Nat}(h:BX w bb s)(o:Nat):w.frozen? ⟨bb,o,none⟩=false:=by unfold BX at h;simp[World.frozen?,h]
theorem BX.get{w:World}{bb s:Nat}(h:BX w bb s):w.cell? ⟨bb,0,none⟩=some (.int .u64 (wd s 0))∧w.cell? ⟨bb,1,none⟩=some (.int .u64 (wd s 1))∧w.cell? ⟨bb,2,none⟩=some (.int .u64 (wd s 2))∧w.cell? ⟨bb,3,none⟩=some (.int .u64 (wd s 3)):=by
 unfold BX at h;simp only[World.cell?,h];exact ⟨rfl,rfl,rfl,rfl⟩
theorem BX.set{w:World}{bb s:Nat}(h:BX w bb s)(t:Nat):BX ((((w.setCell ⟨bb,0,none⟩ (.int .u64 (wd t 0))).setCell ⟨bb,1,none⟩ (.int .u64 (wd t 1))).setCell ⟨bb,2,none⟩ (.int .u64 (wd t 2))).setCell ⟨bb,3,none⟩ (.int .u64 (wd t 3))) bb t:=by
 unfold BX at h ⊢;simp only[World.setCell,Array.getElem?_modify,h,if_true,Option.map_some]
 rfl
structure OQ(w wr:World)(bb:Nat)(D:List NF)(vp:Value)(P:List Nat)(s:Nat)(X:List NF):Prop where
 il:IL w.heap.size wr vp P
 nb:vp.ownBlock≠some bb
 bx:BX wr bb s
 os:OrS D P s X
 fr:Frm [] w wr
 bw:w.heap.size≤bb
 sl:s<2 ^ 256
theorem OQ.keep{w wr w':World}{bb:Nat}{D:List NF}{vp:Value}{P:List Nat}{s:Nat}{X:List NF}(h:OQ w wr bb D vp P s X)(f:Frm [] wr w'):OQ w w' bb D vp P s X :=
 ⟨own_frm h.il f (by simp),h.nb,h.bx.frm f (by simp),h.os,h.fr.trans f,h.bw,h.sl⟩
theorem BX.noInt{w:World}{bb s:Nat}(h:BX w bb s):NoInt w [bb]:=by
 intro k hk cur fz;simp at hk;subst hk;rw[h];simp
theorem PL.frm2{S:List Nat}{w w':World}{v:Value}{L:List Nat}(h:PL w v L)(f:Frm S w w')(hS:∀ a n c,v=.slice (some a) n c→a.block∉S):PL w' v L:=by
 refine ⟨h.1.frm f hS,?_,h.2.2⟩;intro a n c e;obtain ⟨cur,fz,hc⟩:=h.2.1 a n c e;exact ⟨cur,fz,(f.block _ (Array.getElem?_eq_some_iff.1 hc).1 (hS a n c e)).trans hc⟩
theorem OQ.joined{w wr w':World}{bb:Nat}{D:List NF}{vp:Value}{P:List Nat}{s t:Nat}{X:List NF}(h:OQ w wr bb D vp P s X)(ht:t<2 ^ 256)(f:Frm [bb] wr w')(hb:BX w' bb (s ||| t)):OQ w w' bb D vp P (s ||| t) (X++[.set t]):=by
 have hbw:=h.bw;refine ⟨row_frm h.il f (fun k hk=>by simp;intro e;subst e;exact h.nb hk),h.nb,hb,h.os.set,?_,h.bw,Nat.or_lt_two_pow h.sl ht⟩;exact ⟨f.os.trans h.fr.os,f.tape.trans h.fr.tape,f.output.trans h.fr.output,Nat.le_trans h.fr.size f.size,fun k hk _=>(f.block k (Nat.lt_of_lt_of_le hk h.fr.size) (by simp;omega)).trans (h.fr.block k hk (by simp))⟩
theorem OQ.add{w wr w':World}{bb q g cap:Nat}{D:List NF}{vp:Value}{P:List Nat}{s:Nat}{X:List NF}{d:NF}{o:Obj}(h:OQ w wr bb D vp P s X)(hq:D[q]?=some d)(hd:isS d=false)
 (hil:IL w.heap.size w' (.slice (some ⟨g,0,none⟩) (P.length+1) cap) (P++[q])) (hg:(wr.alloc o).grownBy w' vp.ownBlock) (hat:vp.ownBlock=some g∨g=(wr.alloc o).heap.size):OQ w w' bb D (.slice (some ⟨g,0,none⟩) (P.length+1) cap) (P++[q]) s (X++[d]):=by
 have hbw:=h.bw;have hbx:=h.bx.lt;have F1:=(Frm.refl [] wr).alloc o;have F2:Frm vp.ownBlock.toList (wr.alloc o) w':=Frm.of_grow hg;have K1:=h.keep F1;refine ⟨hil,?_,K1.bx.frm F2 (fun hm=>by rw[Option.mem_toList]at hm;exact h.nb hm),h.os.add hq hd,?_,h.bw,h.sl⟩
 ·simp only[Value.ownBlock,ne_eq,Option.some.injEq]
  intro e;subst e;rcases hat with e|e
  ·exact h.nb e
  ·simp at e;omega
 ·exact K1.fr.grown hg (fun k hk=>.inr (h.il.lt k hk).1)
theorem TE.frmR{S:List Nat}{base:Nat}{w w':World}{fb vb:Nat}{E:List (FV × List Nat)}{B:List Nat}{ak:Nat}(h:TE base w fb vb E B ak)(f:Frm S w w')(h1:fb∉S)(h2:vb∉S)(h3:∀ e∈E,∀ x n c,e.1.vp=.slice (some x) n c→x.block∉S):TE base w' fb vb E B ak:=by
 obtain ⟨cap,ht,hl⟩:=h.row;exact ⟨⟨cap,ht.frm f h1,row_frm hl f (fun k hk=>by simp[Value.ownBlock]at hk;subst hk;exact h2)⟩,fun e he=>(h.pl e he).frm2 f (h3 e he),h.st,h.fb,Nat.le_trans h.sz f.size⟩
theorem PL.blk{w:World}{v:Value}{L:List Nat}(h:PL w v L){x:Addr}{n c:Nat}(e:v=.slice (some x) n c):x.block<w.heap.size:=by
 obtain ⟨cur,fz,hc⟩:=h.2.1 x n c e;exact (Array.getElem?_eq_some_iff.1 hc).1
theorem Frm.undrew{S:List Nat}{a b:World}(h:Frm S a.drew b):Frm S a b:=⟨h.os,h.tape,h.output,h.size,h.block⟩
theorem own_new{vp:Value}{g gg n cap sz:Nat}(h:vp.ownBlock≠some g)(hat:vp.ownBlock=some gg∨gg=sz)(hg:g<sz):Value.ownBlock (.slice (some ⟨gg,0,none⟩) n cap)≠some g:=by
 intro e;simp[Value.ownBlock]at e;subst e;rcases hat with e|e
 ·exact h e
 ·omega
theorem flat_take(ls:List NF)(k:Nat):((ls.take k).flatMap parts).length≤(ls.flatMap parts).length:=by
 have e:ls.flatMap parts=(ls.take k).flatMap parts++(ls.drop k).flatMap parts:=by rw[← List.flatMap_append,List.take_append_drop]
 rw[e];simp
theorem map_take_succ(M:List Nat)(f:Nat→NF)(j:Nat)(h:j<M.length)(X:List NF):X++(M.take (j+1)).map f=(X++(M.take j).map f)++[f M[j]]:=by
 have e:M.take (j+1)=M.take j++[M[j]]:=by rw[List.take_add_one,List.getElem?_eq_getElem h];rfl
 rw[e,List.map_append,List.append_assoc];rfl
theorem kind2{a:NF}(h:isS a=false):((kindN a:Int)==2)=false:=by
 rw[beq_eq_false_iff_ne];cases a<;>simp_all[kindN,isS]
theorem or_any(base:Nat)(w:World)(fb vb:Nat)(D:List NF)(ak c:Nat)(U:List NF)(Z:List Nat)(v:Value)(I:List Nat)(ls:List NF)(h:ST base w fb vb D ak c U Z)(hv:NL .i64 w v I)
 (hI:∀ j∈I,j<D.length) (hls:ls=I.map fun j=>D.getD j .zero) (hU:OrOK U ls) :
 Calls Tryz.prog 141 #[.pointer (some ⟨fb,0,none⟩),v] w (RQ base w fb vb D ak c U Z (orL ls)):=by
 obtain ⟨ai,ci,rfl,hN⟩:=hv;have HN:=hide hN;have HS:=hide h;have HI:=hide hI;have HLS:=hide hls;have HU:=hide hU;have hll:ls.length=I.length:=by rw[hls];simp
 have hIl:I.length≤9000000000000:=by have:=hU.2.2.2;omega
 have hlen:=h.len;have HLL:=hide hll;clear hN hI hls hU hll h;go_enter Tryz.func141,Tryz.ntmps141
 go_wp2_with fail
 go_loopg [5,16] I.length (fun k vp vi wr=>∃ (j:Nat) (P:List Nat) (s:Nat),j+k=I.length∧vi=.int .i64 j∧OQ w wr (w.heap.size+1) D vp P s ((ls.take j).flatMap parts))
 case atStart =>
  have F2:Frm [] w ((w.alloc (Obj.cells #[] 3)).alloc (Obj.cells #[.int .u64 0, .int .u64 0, .int .u64 0, .int .u64 0] 195)):=((Frm.refl _ _).alloc _).alloc _;refine ⟨0,[],0,by omega,rfl,?_,by simp[Value.ownBlock],?_,OrS.nil D,F2,by omega,Nat.two_pow_pos 256⟩
  ·have:=World.ownsRow_lit (w:=w) (base:=w.heap.size) (e:=3) (size:=1) #[] 0 (Nat.le_refl _) (by unfold maxLen;omega) (by simp)
   exact World.ownsRow.alloc this _
  ·have e:w.heap.size+1=(w.alloc (Obj.cells #[] 3)).heap.size:=by simp
   unfold BX;rw[e];have:=heap1 (w.alloc (Obj.cells #[] 3)) (Obj.cells #[.int .u64 0, .int .u64 0, .int .u64 0, .int .u64 0] 195);simpa[wd] using this
 case round =>
  obtain ⟨j,P,s,hj,rfl,hoq⟩:=hrel;obtain ⟨wo,hwo⟩:∃ wo,wo=wr:=⟨_,rfl⟩;subst hwo;obtain ⟨go,hgo⟩:∃ go,go=gk:=⟨_,rfl⟩;subst hgo;obtain ⟨ap,cp',rfl⟩:=own_shape hoq.il;have OQ1:=hide hoq;have zo:=hoq.fr.size;have hbx:=hoq.bx.lt;clear hoq
  by_cases hlt:j<I.length
  ·obtain ⟨g,off,rfl,hg,hc⟩:=HN.out j hlt
   have hc2:wo.cell? ⟨g,off+j,none⟩=some (.int .i64 (I[j]:Nat)):=(OQ1.out.fr.cell (p:=⟨g,off+j,none⟩) hg (by simp)).trans hc;have hij:=HI.out I[j] (List.getElem_mem hlt);have PO:=hide (partsOf_any base w wo fb vb D ak c U Z _ I[j] HS.out OQ1.out.fr (getD_some hij));have FL1:Hid ((ls.take (j+1)).flatMap parts=(ls.take j).flatMap parts++parts (D.getD I[j] .zero)):=by
    show _=_;have e:ls.take (j+1)=ls.take j++[D.getD I[j] .zero]:=by
     rw[HLS.out,List.take_add_one];simp[hlt]
    rw[e,List.flatMap_append];simp
   have hXL:((ls.take j).flatMap parts).length+(parts (D.getD I[j] .zero)).length≤9000000000000:=by
    have h1:=flat_take ls (j+1);rw[FL1.out,List.length_append]at h1;have:=HU.out.2.2.1;omega
   clear hc hij;generalize hIj:I[j]=i at *;generalize hDi:D.getD i .zero=a at *;clear hIj hDi;go_wp2_with fail
   refine (PO.out).mono ?_;rintro e w2 ⟨v2,M,rfl,hpl,hM,hmem,hMl,hblk,hf2⟩;obtain ⟨a2,c2,rfl,_⟩:=hpl.1;have BL2:Hid (M≠[]→∀ x n cp,(Value.slice a2 M.length c2)=.slice (some x) n cp→x.block<w.heap.size∨x.block=wo.heap.size):=hblk;have OQ2:=hide (OQ1.out.keep hf2);have PL2:=hide hpl;have HM:=hide hM;have HMM:=hide hmem;have z2:=hf2.size;have hil:=OQ1.out.il;have NE2:Hid (∀ x n cp,M≠[]→(Value.slice a2 M.length c2)=.slice (some x) n cp→Value.ownBlock (.slice ap P.length cp')≠some x.block):=by
    intro x n cp hne e e2;have h1:=hil.lt _ e2;rcases BL2.out hne x n cp e with h2|h2<;>omega
   clear hpl hM hmem hblk hf2 hil PO OQ1;go_wp2_with fail
   go_loopg [5,24] M.length (fun k vp vi wr=>∃ (j2:Nat) (P:List Nat) (s:Nat),j2+k=M.length∧vi=.int .i64 j2∧OQ w wr (w.heap.size+1) D vp P s ((ls.take j).flatMap parts++(M.take j2).map fun j=>D.getD j .zero)∧PL wr (.slice a2 M.length c2) M∧Hid (∀ x n cp,M≠[]→(Value.slice a2 M.length c2)=.slice (some x) n cp→vp.ownBlock≠some x.block))
   case atStart=>exact ⟨0,P,s,by omega,rfl,by simpa using OQ2.out,PL2.out,NE2⟩
   case round =>
    clear OQ2 PL2 NE2;obtain ⟨j2,P2,s2,hj2,rfl,hoq,hpl,NE⟩:=hrel;obtain ⟨ap2,cp2,rfl⟩:=own_shape hoq.il;have O3:=hide hoq;have P3:=hide hpl;have z3:=hoq.fr.size;have hbx3:=hoq.bx.lt;have hP2:=hoq.os.2.2.2;have hs2:=hoq.sl;have S3:=hide (HS.out.keep hoq.fr);have b3:=hoq.bx.get;have g0:=hoq.bx.fz 0;have g1:=hoq.bx.fz 1;have g2:=hoq.bx.fz 2;have g3:=hoq.bx.fz 3;clear hoq hpl
    by_cases hlt2:j2<M.length
    ·obtain ⟨a3,c3,e3,h3⟩:=P3.out.1
     simp only[Value.slice.injEq,true_and]at e3;obtain ⟨rfl,rfl⟩:=e3;obtain ⟨g,off,rfl,hg2,hc3⟩:=h3 j2 hlt2;have hne:M≠[]:=fun e=>by rw[e]at hlt2;simp at hlt2
     have hmj:=HM.out M[j2] (List.getElem_mem hlt2);have hD3:=getD_some hmj;obtain ⟨f,L2,cap,K⟩:=S3.out.look hD3;have t0:=K.tab;obtain ⟨k0,k1,k2,k3,k4,_⟩:=K.get;have hkd:=K.kd;have KS:=hide K.set;have KT:=hide K.st;rw[hkd]at k0;have MT:=hide (map_take_succ M (fun j=>D.getD j .zero) j2 hlt2 ((ls.take j).flatMap parts));have hX2:((ls.take j).flatMap parts++(M.take j2).map fun j=>D.getD j .zero).length≤9000000000000:=by
      simp only[List.length_append,List.length_map,List.length_take];omega
     clear h3 K hkd;have hmj2:((M[j2]:Nat):Int)<D.length:=by omega
     generalize M[j2]=q at *;generalize D.getD q .zero=d at *;have HD3:=hide hD3;clear hD3;cases hsd:isS d
     ·have hk2:=kind2 hsd
      have MT2:Hid (((ls.take j).flatMap parts++(M.take (j2+1)).map fun j=>D.getD j .zero)=((ls.take j).flatMap parts++(M.take j2).map fun j=>D.getD j .zero)++[d]):=MT.out;clear MT b3 k1 k2 k3 k4 g0 g1 g2 g3;go_wp2_with (first | (at_builtin;refine wp_appI _ rfl _ _ rfl w.heap.size (.slice ap2 P2.length cp2) P2 q wr.heap.size rfl (O3.out.il.alloc _) rfl (cell_newX _ _ _ _ rfl) (by omega) (by simp;omega) ?_;intro gg cap2 w5 hown hgrow hat hgl;have O5:=hide (O3.out.add HD3.out hsd hown hgrow hat);have P5:=hide ((P3.out.frm ((Frm.refl [] wr).alloc _) (NoInt.nil _)).frm2 (Frm.of_grow hgrow) (fun a n cc e hm=>by rw[Option.mem_toList]at hm;exact NE.out a n cc hne e hm));have N5:Hid (∀ x n cp,M≠[]→(Value.slice (some ⟨g,off,none⟩) M.length c2)=.slice (some x) n cp→Value.ownBlock (.slice (some ⟨gg,0,none⟩) (P2.length+1) cap2)≠some x.block):=(fun x n cc _ e=>by simp at e;obtain ⟨rfl,_⟩:=e;exact own_new (NE.out ⟨g,off,none⟩ _ _ hne rfl) hat (by simp;omega));clear hown hgrow hat))
      go_roundg (gk-1)
      case measure=>omega
      case rel=>exact ⟨j2+1,P2++[q],s2,by omega,by go_num,by rw[MT2.out];simpa using O5.out,P5.out,by simpa using N5⟩
     ·obtain ⟨t,rfl⟩:∃ t,d=.set t:=by cases d<;>simp[isS]at hsd;exact ⟨_,rfl⟩
      have hft:f.s=t:=KS.out t rfl;have ht:=KT.out;rw[hft]at k1 k2 k3 k4 ht;clear hft;obtain ⟨b0,b1,b2,b3⟩:=b3;have J:=hide (joined_any s2 t wr.drew hs2 ht);simp only[bv]at J;have hk:((kindN (.set t):Nat):Int)=2:=rfl;rw[hk]at k0;clear hk;have MT2:Hid (((ls.take j).flatMap parts++(M.take (j2+1)).map fun j=>D.getD j .zero)=((ls.take j).flatMap parts++(M.take j2).map fun j=>D.getD j .zero)++[.set t]):=MT.out;clear MT;go_wp2_with fail
      go_region_with (go_at_call 155;refine (J.out).mono ?_;rintro e w4 ⟨rfl,hf4⟩;have B4:BX w4 (w.heap.size+1) s2:=BX.frm (show BX wr.drew (w.heap.size+1) s2 from O3.out.bx) hf4 (by simp);obtain ⟨d0,d1,d2,d3⟩:=B4.get;have e0:=B4.fz 0;have e1:=B4.fz 1;have e2:=B4.fz 2;have e3:=B4.fz 3;have B5:=hide (B4.set (s2 ||| t));have F4:=hide hf4;clear hf4 B4)
      all_goals
       have F5:Hid (Frm [w.heap.size+1] wr ((((w4.setCell ⟨w.heap.size+1,0,none⟩ (.int .u64 (wd (s2 ||| t) 0))).setCell ⟨w.heap.size+1,1,none⟩ (.int .u64 (wd (s2 ||| t) 1))).setCell ⟨w.heap.size+1,2,none⟩ (.int .u64 (wd (s2 ||| t) 2))).setCell ⟨w.heap.size+1,3,none⟩ (.int .u64 (wd (s2 ||| t) 3)))):=((((Frm.undrew F4.out).nil.setCell (.inl (by simp)) _).setCell (.inl (by simp)) _).setCell (.inl (by simp)) _).setCell (.inl (by simp)) _;have O5:=hide (O3.out.joined ht F5.out B5.out);have P5:=hide (P3.out.frm F5.out O3.out.bx.noInt);clear b0 b1 b2 b3 d0 d1 d2 d3 e0 e1 e2 e3 g0 g1 g2 g3 k0 k1 k2 k3 k4 t0 J;go_wp2;go_roundg (gk-1)
       case measure=>omega
       case rel=>exact ⟨j2+1,P2,s2 ||| t,by omega,by go_num,by rw[MT2.out];exact O5.out,P5.out,NE⟩
    ·have hje:j2=M.length:=by omega
     have O4:Hid (OQ w wr (w.heap.size+1) D (.slice ap2 P2.length cp2) P2 s2 ((ls.take (j+1)).flatMap parts)):=by
      have h:=O3.out;refine ⟨h.il,h.nb,h.bx,?_,h.fr,h.bw,h.sl⟩;refine h.os.congr ?_ ?_
      ·intro p
       rw[FL1.out,hje,List.take_length,List.mem_append,List.mem_append,← HMM.out p]
      ·rw[FL1.out,hje,List.take_length,List.length_append,List.length_append,List.length_map];omega
     clear O3 P3 NE b3 g0 g1 g2 g3 hje;go_wp2;go_roundg (go-1)
     case measure=>omega
     case rel=>exact ⟨j+1,P2,s2,by omega,by go_num,O4.out⟩
  ·have hje:j=I.length:=by omega
   have O4:Hid (OQ w wo (w.heap.size+1) D (.slice ap P.length cp') P s (ls.flatMap parts)):=by
    have h:=OQ1.out;rw[hje,← HLL.out,List.take_length]at h;exact h
   clear OQ1 hje;obtain ⟨E,B,hE,hP,hUD,hUl,hzz⟩:=HS.out;have hlow:=HS.out.tbl.2.2.2.2.2;have hsj:s=joinB (ls.flatMap parts):=O4.out.os.2.2.1;have hls:∀ x∈ls,WC x:=by
    intro x hx;rw[HLS.out]at hx;obtain ⟨k,hk,rfl⟩:=List.mem_map.1 hx;exact HS.out.tbl.2.2.2.1 _ (getD_mem (HI.out k hk))
   have hflat:∀ p∈ls.flatMap parts,wf p:=flat_wf fun x hx=>(hls x hx).1
   have SE:=hide (set_E base wo fb vb E B D ak c U Z s (hE.keep O4.out.fr) hP hUD hUl O4.out.sl (fun h0=>by rw[hsj]at h0 ⊢;exact HU.out.1 h0) (hzz.mono O4.out.fr.size));simp only[bv]at SE;obtain ⟨b0,b1,b2,b3⟩:=O4.out.bx.get;have HT:Hid (Tell (coreL (ls.flatMap parts))):=tell_wf (core_wf hflat);have HWC:Hid (WC (mkS (srt (coreL (ls.flatMap parts))))):=WC.orL hls;have HUO:Hid (2≤(srt (coreL (ls.flatMap parts))).length→mkS (srt (coreL (ls.flatMap parts)))∈U):=HU.out.2.1;have hPl:P.length≤9000000000000:=Nat.le_trans O4.out.os.2.2.2 HU.out.2.2.1;have HSJ:=hide hsj;have HE:=hide hE;clear hsj hls hflat hE;go_wp2_with fail
   refine (SE.out).mono ?_;rintro e w3 ⟨vb1,R,r,E',B',rfl,hT',hP',hUD',_,hr,hq,hrow,hz3⟩;have S3:Hid (ST base w3 fb vb1 (D++R) ak c U Z):=⟨E',B',hT',hP',hUD',hUl,hz3⟩;have I3:Hid (IL w.heap.size w3 (.slice ap P.length cp') P):=row_frm O4.out.il hq.fr (fun k hk=>by have:=(O4.out.il.lt k hk).1;simp;omega);have Q3:=hide (FQ.keepL O4.out.fr hq);have z3:=hq.fr.size;have HPD:Hid (∀ q∈P,q<(D++R).length):=fun q hqq=>by have:=O4.out.os.1 q hqq;simp;omega
   have OS4:Hid (OrS D P (joinB (ls.flatMap parts)) (ls.flatMap parts)):=by have:=O4.out.os;rw[HSJ.out]at this;exact this
   have n0:=S3.out.num hr S3.out.tbl.1
   by_cases h0:s=0
   ·have hr0:r=0:=n0.2 (by simp[setN,h0])
    subst hr0;have hj0:joinB (ls.flatMap parts)=0:=by rw[← HSJ.out];exact h0
    have SU:=hide (sum_any base w3 fb vb1 (D++R) ak c U Z (.slice ap P.length cp') P (coreL (ls.flatMap parts)) S3.out (row_nl I3.out) (by omega) HPD.out HT.out (fun p=>by rw[map_app OS4.out.1];exact OS4.out.core hj0 p) HWC.out HUO.out);clear hq hr hrow hT' hP' hUD' b0 b1 b2 b3 SE hj0 n0;go_wp2_with fail
    refine (SU.out).mono ?_;rintro e w6 hrq;have R6:=hide (RQ.later Q3.out hrq);obtain ⟨_,_,r6,rfl,_⟩:=hrq;go_wp2;go_ret;exact R6.out
   ·have hsn:setN s=.set s:=by simp[setN,h0]
    rw[hsn]at hr n0;have hr0:r≠0:=fun e=>by have:=n0.1 e;simp at this
    have hbn:((r:Int) != 0)=true:=by rw[bne_iff_ne];omega
    have hj0:joinB (ls.flatMap parts)≠0:=by rw[← HSJ.out];exact h0
    have hmv:=hq.mv;have hzo:=O4.out.fr.size;have hrr:r<(D++R).length:=(List.getElem?_eq_some_iff.1 hr).1;have hrj:(D++R)[r]?=some (.set (joinB (ls.flatMap parts))):=by rw[← HSJ.out];exact hr
    have SU:Hid (∀ (w5:World) (gg cap2:Nat) (o:Obj),IL w.heap.size w5 (.slice (some ⟨gg,0,none⟩) (P.length+1) cap2) (P++[r])→(w3.alloc o).grownBy w5 (Value.ownBlock (.slice ap P.length cp'))→Calls Tryz.prog 156 #[.pointer (some ⟨fb,0,none⟩), .slice (some ⟨gg,0,none⟩) (P.length+1) cap2] w5 (RQ base w fb vb D ak c U Z (mkS (srt (coreL (ls.flatMap parts)))))):=by
     intro w5 gg cap2 o hown hgrow;have hbk:∀ k,k∈(Value.ownBlock (.slice ap P.length cp')).toList→w.heap.size≤k∧k<wo.heap.size:=fun k hk=>by
      rw[Option.mem_toList]at hk;exact O4.out.il.lt k hk
     have F5:Frm (Value.ownBlock (.slice ap P.length cp')).toList (w3.alloc o) w5:=Frm.of_grow hgrow;have T4:=hT'.keep ((Frm.refl [] w3).alloc o);have T5:TE base w5 fb vb1 E' B' ak:=by
      refine T4.frmR F5 (fun hm=>by have:=hbk _ hm;omega) (fun hm=>by have:=hbk _ hm;omega) ?_;intro e he x n cc e1 hm;have hk:=hbk _ hm;rcases hrow e he with h1|h1
      ·have:=(HE.out.pl e h1).blk e1;omega
      ·rw[h1.1]at e1;simp at e1
     have Q5:FQ fb vb vb1 w w5:=by
      refine ⟨?_,Q3.out.mv⟩;exact (Q3.out.fr.alloc o).grown hgrow (fun k hk=>.inr (O4.out.il.lt k hk).1)
     have hs:=sum_any base w5 fb vb1 (D++R) ak c U Z (.slice (some ⟨gg,0,none⟩) (P.length+1) cap2) (P++[r]) (coreL (ls.flatMap parts)) ⟨E',B',T5,hP',hUD',hUl,hz3.mono (by have:=F5.size;simp at this;omega)⟩ (row_nl (by simpa[IL] using hown)) (by rw[List.length_append];simp only[List.length_cons,List.length_nil];omega) (fun j hj=>by
      rcases List.mem_append.1 hj with e|e
      ·exact HPD.out j e
      ·simp at e;subst e;exact hrr) HT.out (OS4.out.coreS hj0 hrj) HWC.out HUO.out
     exact hs.mono fun e w6 hrq=>RQ.later Q5 hrq
    clear hq hr hrow hT' hP' hUD' b0 b1 b2 b3 SE hj0 n0 hsn;go_wp2_with (first | (at_builtin;refine wp_appI _ rfl _ _ rfl w.heap.size (.slice ap P.length cp') P r w3.heap.size rfl (I3.out.alloc _) rfl (cell_newX _ _ _ _ rfl) (by omega) (by simp;omega) ?_;intro gg cap2 w5 hown hgrow hat hgl;have C5:=hide (SU.out w5 gg cap2 _ hown hgrow);clear hown hgrow hat)|(go_at_call 156;refine (C5.out).mono ?_;rintro e w6 hrq;have R6:=hide hrq;obtain ⟨_,_,r6,rfl,_⟩:=hrq))
    go_ret;exact R6.out
end Go.Proofs.YtpcbbbilmpobaaaGreatDoor
