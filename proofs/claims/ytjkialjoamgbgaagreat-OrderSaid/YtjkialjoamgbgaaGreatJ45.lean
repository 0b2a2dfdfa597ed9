import Derived.Test.YtjkialjoamgbgaaGreatJ44
set_option linter.unusedVariables false
set_option linter.unusedSimpArgs false
set_option linter.unnecessarySimpa false
set_option maxRecDepth 100000
set_option maxHeartbeats 4000000
namespace Go.Proofs.YtjkialjoamgbgaaGreat
open Go.RowKit
structure OQ(w wr:World)(bb:Nat)(D:List NF)(vp:Value)(P:List Nat)(s:Nat)(X:List NF):Prop where
 il:IL w.heap.size wr vp P
 nb:vp.ownBlock≠some bb
 bx:BX wr bb s
 os:OrS D P s X
 fr:Frm [] w wr
 bw:w.heap.size≤bb
 sl:s<2 ^ 256
theorem OQ.keep{w wr w':World}{bb:Nat}{D:List NF}{vp:Value}{P:List Nat}{s:Nat}{X:List NF}(h:OQ w wr bb D vp P s X)(f:Frm [] wr w'):OQ w w' bb D vp P s X :=
 ⟨own_frm h.il f (by simp),h.nb,h.bx.frm f (by simp),h.os,h.fr.trans f,h.bw,h.sl⟩
theorem BX.noInt{w:World}{bb s:Nat}(h:BX w bb s):NoInt w [bb]:=by
 intro k hk cur fz
 simp at hk;subst hk
 rw[h];simp
theorem PL.frm2{S:List Nat}{w w':World}{v:Value}{L:List Nat}(h:PL w v L)(f:Frm S w w')(hS:∀ a n c,v=.slice (some a) n c→a.block∉S):PL w' v L:=by
 refine ⟨h.1.frm f hS,?_,h.2.2⟩
 intro a n c e
 obtain ⟨cur,fz,hc⟩:=h.2.1 a n c e
 exact ⟨cur,fz,(f.block _ (Array.getElem?_eq_some_iff.1 hc).1 (hS a n c e)).trans hc⟩
theorem OQ.joined{w wr w':World}{bb:Nat}{D:List NF}{vp:Value}{P:List Nat}{s t:Nat}{X:List NF}(h:OQ w wr bb D vp P s X)(ht:t<2 ^ 256)(f:Frm [bb] wr w')(hb:BX w' bb (s ||| t)):OQ w w' bb D vp P (s ||| t) (X++[.set t]):=by
 have hbw:=h.bw
 refine ⟨row_frm h.il f (fun k hk=>by simp;intro e;subst e;exact h.nb hk),h.nb,hb,h.os.set,?_,h.bw,Nat.or_lt_two_pow h.sl ht⟩
 exact ⟨f.os.trans h.fr.os,f.tape.trans h.fr.tape,f.output.trans h.fr.output,Nat.le_trans h.fr.size f.size,fun k hk _=>(f.block k (Nat.lt_of_lt_of_le hk h.fr.size) (by simp;omega)).trans (h.fr.block k hk (by simp))⟩
theorem OQ.add{w wr w':World}{bb q g cap:Nat}{D:List NF}{vp:Value}{P:List Nat}{s:Nat}{X:List NF}{d:NF}{o:Obj}(h:OQ w wr bb D vp P s X)(hq:D[q]?=some d)(hd:isS d=false)
 (hil:IL w.heap.size w' (.slice (some ⟨g,0,none⟩) (P.length+1) cap) (P++[q])) (hg:(wr.alloc o).grownBy w' vp.ownBlock) (hat:vp.ownBlock=some g∨g=(wr.alloc o).heap.size):OQ w w' bb D (.slice (some ⟨g,0,none⟩) (P.length+1) cap) (P++[q]) s (X++[d]):=by
 have hbw:=h.bw
 have hbx:=h.bx.lt
 have F1:=(Frm.refl [] wr).alloc o
 have F2:Frm vp.ownBlock.toList (wr.alloc o) w':=Frm.of_grow hg
 have K1:=h.keep F1
 refine ⟨hil,?_,K1.bx.frm F2 (fun hm=>by rw[Option.mem_toList]at hm;exact h.nb hm),h.os.add hq hd,?_,h.bw,h.sl⟩
 ·simp only[Value.ownBlock,ne_eq,Option.some.injEq]
  intro e
  subst e
  rcases hat with e|e
  ·exact h.nb e
  ·simp at e;omega
 ·exact K1.fr.grown hg (fun k hk=>.inr (h.il.lt k hk).1)
theorem TE.frmR{S:List Nat}{base:Nat}{w w':World}{fb vb:Nat}{E:List (FV × List Nat)}{B:List Nat}{ak:Nat}(h:TE base w fb vb E B ak)(f:Frm S w w')(h1:fb∉S)(h2:vb∉S)(h3:∀ e∈E,∀ x n c,e.1.vp=.slice (some x) n c→x.block∉S):TE base w' fb vb E B ak:=by
 obtain ⟨cap,ht,hl⟩:=h.row
 exact ⟨⟨cap,ht.frm f h1,row_frm hl f (fun k hk=>by simp[Value.ownBlock]at hk;subst hk;exact h2)⟩,fun e he=>(h.pl e he).frm2 f (h3 e he),h.st,h.fb,Nat.le_trans h.sz f.size⟩
theorem PL.blk{w:World}{v:Value}{L:List Nat}(h:PL w v L){x:Addr}{n c:Nat}(e:v=.slice (some x) n c):x.block<w.heap.size:=by
 obtain ⟨cur,fz,hc⟩:=h.2.1 x n c e
 exact (Array.getElem?_eq_some_iff.1 hc).1
theorem Frm.undrew{S:List Nat}{a b:World}(h:Frm S a.drew b):Frm S a b:=⟨h.os,h.tape,h.output,h.size,h.block⟩
theorem own_new{vp:Value}{g gg n cap sz:Nat}(h:vp.ownBlock≠some g)(hat:vp.ownBlock=some gg∨gg=sz)(hg:g<sz):Value.ownBlock (.slice (some ⟨gg,0,none⟩) n cap)≠some g:=by
 intro e
 simp[Value.ownBlock]at e
 subst e
 rcases hat with e|e
 ·exact h e
 ·omega
theorem flat_take(ls:List NF)(k:Nat):((ls.take k).flatMap parts).length≤(ls.flatMap parts).length:=by
 have e:ls.flatMap parts=(ls.take k).flatMap parts++(ls.drop k).flatMap parts:=by rw[← List.flatMap_append,List.take_append_drop]
 rw[e];simp
theorem map_take_succ(M:List Nat)(f:Nat→NF)(j:Nat)(h:j<M.length)(X:List NF):X++(M.take (j+1)).map f=(X++(M.take j).map f)++[f M[j]]:=by
 have e:M.take (j+1)=M.take j++[M[j]]:=by rw[List.take_add_one,List.getElem?_eq_getElem h];rfl
 rw[e,List.map_append,List.append_assoc];rfl
theorem kind2{a:NF}(h:isS a=false):((kindN a:Int)==2)=false:=by
 rw[beq_eq_false_iff_ne]
 cases a<;>simp_all[kindN,isS]
theorem or_any(base:Nat)(w:World)(fb vb:Nat)(D:List NF)(ak c:Nat)(U:List NF)(Z:List Nat)(v:Value)(I:List Nat)(ls:List NF)(h:ST base w fb vb D ak c U Z)(hv:NL .i64 w v I)
 (hI:∀ j∈I,j<D.length) (hls:ls=I.map fun j=>D.getD j .zero) (hU:OrOK U ls) :
 Calls Tryz.prog 123 #[.pointer (some ⟨fb,0,none⟩),v] w (RQ base w fb vb D ak c U Z (orL ls)):=by
 obtain ⟨ai,ci,rfl,hN⟩:=hv
 have HN:=hide hN
 have HS:=hide h
 have HI:=hide hI
 have HLS:=hide hls
 have HU:=hide hU
 have hll:ls.length=I.length:=by rw[hls];simp
 have hIl:I.length≤9000000000000:=by have:=hU.2.2.2;omega
 have hlen:=h.len
 have HLL:=hide hll
 clear hN hI hls hU hll h
 go_enter Tryz.func123,Tryz.ntmps123
 go_wp2_with fail
 go_loopg [5,16] I.length (fun k vp vi wr=>∃ (j:Nat) (P:List Nat) (s:Nat),j+k=I.length∧vi=.int .i64 j∧OQ w wr (w.heap.size+1) D vp P s ((ls.take j).flatMap parts))
 case atStart =>
  have F2:Frm [] w ((w.alloc (Obj.cells #[] 3)).alloc (Obj.cells #[.int .u64 0, .int .u64 0, .int .u64 0, .int .u64 0] 187)):=((Frm.refl _ _).alloc _).alloc _
  refine ⟨0,[],0,by omega,rfl,?_,by simp[Value.ownBlock],?_,OrS.nil D,F2,by omega,Nat.two_pow_pos 256⟩
  ·have:=World.ownsRow_lit (w:=w) (base:=w.heap.size) (e:=3) (size:=1) #[] 0 (Nat.le_refl _) (by unfold maxLen;omega) (by simp)
   exact World.ownsRow.alloc this _
  ·have e:w.heap.size+1=(w.alloc (Obj.cells #[] 3)).heap.size:=by simp
   unfold BX
   rw[e]
   have:=heap1 (w.alloc (Obj.cells #[] 3)) (Obj.cells #[.int .u64 0, .int .u64 0, .int .u64 0, .int .u64 0] 187)
   simpa[wd] using this
 case round =>
  obtain ⟨j,P,s,hj,rfl,hoq⟩:=hrel
  obtain ⟨wo,hwo⟩:∃ wo,wo=wr:=⟨_,rfl⟩
  subst hwo
  obtain ⟨go,hgo⟩:∃ go,go=gk:=⟨_,rfl⟩
  subst hgo
  obtain ⟨ap,cp',rfl⟩:=own_shape hoq.il
  have OQ1:=hide hoq
  have zo:=hoq.fr.size
  have hbx:=hoq.bx.lt
  clear hoq
  by_cases hlt:j<I.length
  ·obtain ⟨g,off,rfl,hg,hc⟩:=HN.out j hlt
   have hc2:wo.cell? ⟨g,off+j,none⟩=some (.int .i64 (I[j]:Nat)):=(OQ1.out.fr.cell (p:=⟨g,off+j,none⟩) hg (by simp)).trans hc
   have hij:=HI.out I[j] (List.getElem_mem hlt)
   have PO:=hide (partsOf_any base w wo fb vb D ak c U Z _ I[j] HS.out OQ1.out.fr (getD_some hij))
   have FL1:Hid ((ls.take (j+1)).flatMap parts=(ls.take j).flatMap parts++parts (D.getD I[j] .zero)):=by
    show _=_
    have e:ls.take (j+1)=ls.take j++[D.getD I[j] .zero]:=by
     rw[HLS.out,List.take_add_one]
     simp[hlt]
    rw[e,List.flatMap_append];simp
   have hXL:((ls.take j).flatMap parts).length+(parts (D.getD I[j] .zero)).length≤9000000000000:=by
    have h1:=flat_take ls (j+1)
    rw[FL1.out,List.length_append]at h1
    have:=HU.out.2.2.1
    omega
   clear hc hij
   generalize hIj:I[j]=i at *
   generalize hDi:D.getD i .zero=a at *
   clear hIj hDi
   go_wp2_with fail
   refine (PO.out).mono ?_
   rintro e w2 ⟨v2,M,rfl,hpl,hM,hmem,hMl,hblk,hf2⟩
   obtain ⟨a2,c2,rfl,_⟩:=hpl.1
   have BL2:Hid (M≠[]→∀ x n cp,(Value.slice a2 M.length c2)=.slice (some x) n cp→x.block<w.heap.size∨x.block=wo.heap.size):=hblk
   have OQ2:=hide (OQ1.out.keep hf2)
   have PL2:=hide hpl
   have HM:=hide hM
   have HMM:=hide hmem
   have z2:=hf2.size
   have hil:=OQ1.out.il
   have NE2:Hid (∀ x n cp,M≠[]→(Value.slice a2 M.length c2)=.slice (some x) n cp→Value.ownBlock (.slice ap P.length cp')≠some x.block):=by
    intro x n cp hne e e2
    have h1:=hil.lt _ e2
    rcases BL2.out hne x n cp e with h2|h2<;>omega
   clear hpl hM hmem hblk hf2 hil PO OQ1
   go_wp2_with fail
   go_loopg [5,24] M.length (fun k vp vi wr=>∃ (j2:Nat) (P:List Nat) (s:Nat),j2+k=M.length∧vi=.int .i64 j2∧OQ w wr (w.heap.size+1) D vp P s ((ls.take j).flatMap parts++(M.take j2).map fun j=>D.getD j .zero)∧PL wr (.slice a2 M.length c2) M∧Hid (∀ x n cp,M≠[]→(Value.slice a2 M.length c2)=.slice (some x) n cp→vp.ownBlock≠some x.block))
   case atStart=>exact ⟨0,P,s,by omega,rfl,by simpa using OQ2.out,PL2.out,NE2⟩
   case round =>
    clear OQ2 PL2 NE2
    obtain ⟨j2,P2,s2,hj2,rfl,hoq,hpl,NE⟩:=hrel
    obtain ⟨ap2,cp2,rfl⟩:=own_shape hoq.il
    have O3:=hide hoq
    have P3:=hide hpl
    have z3:=hoq.fr.size
    have hbx3:=hoq.bx.lt
    have hP2:=hoq.os.2.2.2
    have hs2:=hoq.sl
    have S3:=hide (HS.out.keep hoq.fr)
    have b3:=hoq.bx.get
    have g0:=hoq.bx.fz 0
    have g1:=hoq.bx.fz 1
    have g2:=hoq.bx.fz 2
    have g3:=hoq.bx.fz 3
    clear hoq hpl
    by_cases hlt2:j2<M.length
    ·obtain ⟨a3,c3,e3,h3⟩:=P3.out.1
     simp only[Value.slice.injEq,true_and]at e3
     obtain ⟨rfl,rfl⟩:=e3
     obtain ⟨g,off,rfl,hg2,hc3⟩:=h3 j2 hlt2
     have hne:M≠[]:=fun e=>by rw[e]at hlt2;simp at hlt2
     have hmj:=HM.out M[j2] (List.getElem_mem hlt2)
     have hD3:=getD_some hmj
     obtain ⟨f,L2,cap,K⟩:=S3.out.look hD3
     have t0:=K.tab
     obtain ⟨k0,k1,k2,k3,k4,_⟩:=K.get
     have hkd:=K.kd
     have KS:=hide K.set
     have KT:=hide K.st
     rw[hkd]at k0
     have MT:=hide (map_take_succ M (fun j=>D.getD j .zero) j2 hlt2 ((ls.take j).flatMap parts))
     have hX2:((ls.take j).flatMap parts++(M.take j2).map fun j=>D.getD j .zero).length≤9000000000000:=by
      simp only[List.length_append,List.length_map,List.length_take];omega
     clear h3 K hkd
     have hmj2:((M[j2]:Nat):Int)<D.length:=by omega
     generalize M[j2]=q at *
     generalize D.getD q .zero=d at *
     have HD3:=hide hD3
     clear hD3
     cases hsd:isS d
     ·have hk2:=kind2 hsd
      have MT2:Hid (((ls.take j).flatMap parts++(M.take (j2+1)).map fun j=>D.getD j .zero)=((ls.take j).flatMap parts++(M.take j2).map fun j=>D.getD j .zero)++[d]):=MT.out
      clear MT b3 k1 k2 k3 k4 g0 g1 g2 g3
      go_wp2_with (first | (at_builtin;refine wp_appI _ rfl _ _ rfl w.heap.size (.slice ap2 P2.length cp2) P2 q wr.heap.size rfl (O3.out.il.alloc _) rfl (cell_newX _ _ _ _ rfl) (by omega) (by simp;omega) ?_;intro gg cap2 w5 hown hgrow hat hgl;have O5:=hide (O3.out.add HD3.out hsd hown hgrow hat);have P5:=hide ((P3.out.frm ((Frm.refl [] wr).alloc _) (NoInt.nil _)).frm2 (Frm.of_grow hgrow) (fun a n cc e hm=>by rw[Option.mem_toList]at hm;exact NE.out a n cc hne e hm));have N5:Hid (∀ x n cp,M≠[]→(Value.slice (some ⟨g,off,none⟩) M.length c2)=.slice (some x) n cp→Value.ownBlock (.slice (some ⟨gg,0,none⟩) (P2.length+1) cap2)≠some x.block):=(fun x n cc _ e=>by simp at e;obtain ⟨rfl,_⟩:=e;exact own_new (NE.out ⟨g,off,none⟩ _ _ hne rfl) hat (by simp;omega));clear hown hgrow hat))
      go_roundg (gk-1)
      case measure=>omega
      case rel=>exact ⟨j2+1,P2++[q],s2,by omega,by go_num,by rw[MT2.out];simpa using O5.out,P5.out,by simpa using N5⟩
     ·obtain ⟨t,rfl⟩:∃ t,d=.set t:=by cases d<;>simp[isS]at hsd;exact ⟨_,rfl⟩
      have hft:f.s=t:=KS.out t rfl
      have ht:=KT.out
      rw[hft]at k1 k2 k3 k4 ht
      clear hft
      obtain ⟨b0,b1,b2,b3⟩:=b3
      have J:=hide (joined_any s2 t wr.drew hs2 ht)
      simp only[bv]at J
      have hk:((kindN (.set t):Nat):Int)=2:=rfl
      rw[hk]at k0
      clear hk
      have MT2:Hid (((ls.take j).flatMap parts++(M.take (j2+1)).map fun j=>D.getD j .zero)=((ls.take j).flatMap parts++(M.take j2).map fun j=>D.getD j .zero)++[.set t]):=MT.out
      clear MT
      go_wp2_with fail
      go_region_with (go_at_call 135;refine (J.out).mono ?_;rintro e w4 ⟨rfl,hf4⟩;have B4:BX w4 (w.heap.size+1) s2:=BX.frm (show BX wr.drew (w.heap.size+1) s2 from O3.out.bx) hf4 (by simp);obtain ⟨d0,d1,d2,d3⟩:=B4.get;have e0:=B4.fz 0;have e1:=B4.fz 1;have e2:=B4.fz 2;have e3:=B4.fz 3;have B5:=hide (B4.set (s2 ||| t));have F4:=hide hf4;clear hf4 B4)
      all_goals
       have F5:Hid (Frm [w.heap.size+1] wr ((((w4.setCell ⟨w.heap.size+1,0,none⟩ (.int .u64 (wd (s2 ||| t) 0))).setCell ⟨w.heap.size+1,1,none⟩ (.int .u64 (wd (s2 ||| t) 1))).setCell ⟨w.heap.size+1,2,none⟩ (.int .u64 (wd (s2 ||| t) 2))).setCell ⟨w.heap.size+1,3,none⟩ (.int .u64 (wd (s2 ||| t) 3)))):=((((Frm.undrew F4.out).nil.setCell (.inl (by simp)) _).setCell (.inl (by simp)) _).setCell (.inl (by simp)) _).setCell (.inl (by simp)) _
       have O5:=hide (O3.out.joined ht F5.out B5.out)
       have P5:=hide (P3.out.frm F5.out O3.out.bx.noInt)
       clear b0 b1 b2 b3 d0 d1 d2 d3 e0 e1 e2 e3 g0 g1 g2 g3 k0 k1 k2 k3 k4 t0 J
       go_wp2
       go_roundg (gk-1)
       case measure=>omega
       case rel=>exact ⟨j2+1,P2,s2 ||| t,by omega,by go_num,by rw[MT2.out];exact O5.out,P5.out,NE⟩
    ·have hje:j2=M.length:=by omega
     have O4:Hid (OQ w wr (w.heap.size+1) D (.slice ap2 P2.length cp2) P2 s2 ((ls.take (j+1)).flatMap parts)):=by
      have h:=O3.out
      refine ⟨h.il,h.nb,h.bx,?_,h.fr,h.bw,h.sl⟩
      refine h.os.congr ?_ ?_
      ·intro p
       rw[FL1.out,hje,List.take_length,List.mem_append,List.mem_append,← HMM.out p]
      ·rw[FL1.out,hje,List.take_length,List.length_append,List.length_append,List.length_map];omega
     clear O3 P3 NE b3 g0 g1 g2 g3 hje
     go_wp2
     go_roundg (go-1)
     case measure=>omega
     case rel=>exact ⟨j+1,P2,s2,by omega,by go_num,O4.out⟩
  ·have hje:j=I.length:=by omega
   have O4:Hid (OQ w wo (w.heap.size+1) D (.slice ap P.length cp') P s (ls.flatMap parts)):=by
    have h:=OQ1.out
    rw[hje,← HLL.out,List.take_length]at h;exact h
   clear OQ1 hje
   obtain ⟨E,B,hE,hP,hUD,hUl,hzz⟩:=HS.out
   have hlow:=HS.out.tbl.2.2.2.2.2
   have hsj:s=joinB (ls.flatMap parts):=O4.out.os.2.2.1
   have hls:∀ x∈ls,WC x:=by
    intro x hx
    rw[HLS.out]at hx
    obtain ⟨k,hk,rfl⟩:=List.mem_map.1 hx
    exact HS.out.tbl.2.2.2.1 _ (getD_mem (HI.out k hk))
   have hflat:∀ p∈ls.flatMap parts,wf p:=flat_wf fun x hx=>(hls x hx).1
   have SE:=hide (set_E base wo fb vb E B D ak c U Z s (hE.keep O4.out.fr) hP hUD hUl O4.out.sl (fun h0=>by rw[hsj]at h0 ⊢;exact HU.out.1 h0) (hzz.mono O4.out.fr.size))
   simp only[bv]at SE
   obtain ⟨b0,b1,b2,b3⟩:=O4.out.bx.get
   have HT:Hid (Tell (coreL (ls.flatMap parts))):=tell_wf (core_wf hflat)
   have HWC:Hid (WC (mkS (srt (coreL (ls.flatMap parts))))):=WC.orL hls
   have HUO:Hid (2≤(srt (coreL (ls.flatMap parts))).length→mkS (srt (coreL (ls.flatMap parts)))∈U):=HU.out.2.1
   have hPl:P.length≤9000000000000:=Nat.le_trans O4.out.os.2.2.2 HU.out.2.2.1
   have HSJ:=hide hsj
   have HE:=hide hE
   clear hsj hls hflat hE
   go_wp2_with fail
   refine (SE.out).mono ?_
   rintro e w3 ⟨vb1,R,r,E',B',rfl,hT',hP',hUD',_,hr,hq,hrow,hz3⟩
   have S3:Hid (ST base w3 fb vb1 (D++R) ak c U Z):=⟨E',B',hT',hP',hUD',hUl,hz3⟩
   have I3:Hid (IL w.heap.size w3 (.slice ap P.length cp') P):=row_frm O4.out.il hq.fr (fun k hk=>by have:=(O4.out.il.lt k hk).1;simp;omega)
   have Q3:=hide (FQ.keepL O4.out.fr hq)
   have z3:=hq.fr.size
   have HPD:Hid (∀ q∈P,q<(D++R).length):=fun q hqq=>by have:=O4.out.os.1 q hqq;simp;omega
   have OS4:Hid (OrS D P (joinB (ls.flatMap parts)) (ls.flatMap parts)):=by have:=O4.out.os;rw[HSJ.out]at this;exact this
   have n0:=S3.out.num hr S3.out.tbl.1
   by_cases h0:s=0
   ·have hr0:r=0:=n0.2 (by simp[setN,h0])
    subst hr0
    have hj0:joinB (ls.flatMap parts)=0:=by rw[← HSJ.out];exact h0
    have SU:=hide (sum_any base w3 fb vb1 (D++R) ak c U Z (.slice ap P.length cp') P (coreL (ls.flatMap parts)) S3.out (row_nl I3.out) (by omega) HPD.out HT.out (fun p=>by rw[map_app OS4.out.1];exact OS4.out.core hj0 p) HWC.out HUO.out)
    clear hq hr hrow hT' hP' hUD' b0 b1 b2 b3 SE hj0 n0
    go_wp2_with fail
    refine (SU.out).mono ?_
    rintro e w6 hrq
    have R6:=hide (RQ.later Q3.out hrq)
    obtain ⟨_,_,r6,rfl,_⟩:=hrq
    go_wp2
    go_ret
    exact R6.out
   ·have hsn:setN s=.set s:=by simp[setN,h0]
    rw[hsn]at hr n0
    have hr0:r≠0:=fun e=>by have:=n0.1 e;simp at this
    have hbn:((r:Int) != 0)=true:=by rw[bne_iff_ne];omega
    have hj0:joinB (ls.flatMap parts)≠0:=by rw[← HSJ.out];exact h0
    have hmv:=hq.mv
    have hzo:=O4.out.fr.size
    have hrr:r<(D++R).length:=(List.getElem?_eq_some_iff.1 hr).1
    have hrj:(D++R)[r]?=some (.set (joinB (ls.flatMap parts))):=by rw[← HSJ.out];exact hr
    have SU:Hid (∀ (w5:World) (gg cap2:Nat) (o:Obj),IL w.heap.size w5 (.slice (some ⟨gg,0,none⟩) (P.length+1) cap2) (P++[r])→(w3.alloc o).grownBy w5 (Value.ownBlock (.slice ap P.length cp'))→Calls Tryz.prog 136 #[.pointer (some ⟨fb,0,none⟩), .slice (some ⟨gg,0,none⟩) (P.length+1) cap2] w5 (RQ base w fb vb D ak c U Z (mkS (srt (coreL (ls.flatMap parts)))))):=by
     intro w5 gg cap2 o hown hgrow
     have hbk:∀ k,k∈(Value.ownBlock (.slice ap P.length cp')).toList→w.heap.size≤k∧k<wo.heap.size:=fun k hk=>by
      rw[Option.mem_toList]at hk
      exact O4.out.il.lt k hk
     have F5:Frm (Value.ownBlock (.slice ap P.length cp')).toList (w3.alloc o) w5:=Frm.of_grow hgrow
     have T4:=hT'.keep ((Frm.refl [] w3).alloc o)
     have T5:TE base w5 fb vb1 E' B' ak:=by
      refine T4.frmR F5 (fun hm=>by have:=hbk _ hm;omega) (fun hm=>by have:=hbk _ hm;omega) ?_
      intro e he x n cc e1 hm
      have hk:=hbk _ hm
      rcases hrow e he with h1|h1
      ·have:=(HE.out.pl e h1).blk e1;omega
      ·rw[h1.1]at e1;simp at e1
     have Q5:FQ fb vb vb1 w w5:=by
      refine ⟨?_,Q3.out.mv⟩
      exact (Q3.out.fr.alloc o).grown hgrow (fun k hk=>.inr (O4.out.il.lt k hk).1)
     have hs:=sum_any base w5 fb vb1 (D++R) ak c U Z (.slice (some ⟨gg,0,none⟩) (P.length+1) cap2) (P++[r]) (coreL (ls.flatMap parts)) ⟨E',B',T5,hP',hUD',hUl,hz3.mono (by have:=F5.size;simp at this;omega)⟩ (row_nl (by simpa[IL] using hown)) (by rw[List.length_append];simp only[List.length_cons,List.length_nil];omega) (fun j hj=>by
      rcases List.mem_append.1 hj with e|e
      ·exact HPD.out j e
      ·simp at e;subst e;exact hrr) HT.out (OS4.out.coreS hj0 hrj) HWC.out HUO.out
     exact hs.mono fun e w6 hrq=>RQ.later Q5 hrq
    clear hq hr hrow hT' hP' hUD' b0 b1 b2 b3 SE hj0 n0 hsn
    go_wp2_with (first | (at_builtin;refine wp_appI _ rfl _ _ rfl w.heap.size (.slice ap P.length cp') P r w3.heap.size rfl (I3.out.alloc _) rfl (cell_newX _ _ _ _ rfl) (by omega) (by simp;omega) ?_;intro gg cap2 w5 hown hgrow hat hgl;have C5:=hide (SU.out w5 gg cap2 _ hown hgrow);clear hown hgrow hat)|(go_at_call 136;refine (C5.out).mono ?_;rintro e w6 hrq;have R6:=hide hrq;obtain ⟨_,_,r6,rfl,_⟩:=hrq))
    go_ret
    exact R6.out
open Go.RowKit
theorem ST.more{base:Nat}{w wo:World}{fb vb:Nat}{D:List NF}{ak c:Nat}{U:List NF}{Z Z2:List Nat}(h:ST base w fb vb D ak c U Z)(f:Frm [] w wo)(hk:∀ k∈Z2,w.heap.size≤k∧k<wo.heap.size):ST base wo fb vb D ak c U (Z2++Z):=by
 obtain ⟨E,B,h1,h2,h3,h4,h5⟩:=h
 refine ⟨E,B,h1.keep f,h2,h3,h4,?_,?_⟩
 ·intro k hm
  rcases List.mem_append.1 hm with e|e
  ·exact (hk k e).2
  ·exact Nat.lt_of_lt_of_le (h5.1 k e) f.size
 ·intro e he x n cc ex hm
  rcases List.mem_append.1 hm with e1|e1
  ·have:=(h1.pl e he).blk ex;have:=(hk _ e1).1;omega
  ·exact h5.2 e he x n cc ex e1
theorem ST.less{base:Nat}{w:World}{fb vb:Nat}{D:List NF}{ak c:Nat}{U:List NF}{Z Z2:List Nat}(h:ST base w fb vb D ak c U (Z2++Z)):ST base w fb vb D ak c U Z:=by
 obtain ⟨E,B,h1,h2,h3,h4,h5⟩:=h
 exact ⟨E,B,h1,h2,h3,h4,fun k hk=>h5.1 k (by simp[hk]),fun e he x n cc ex hm=>h5.2 e he x n cc ex (by simp[hm])⟩
theorem ST.frmZ{S:List Nat}{base:Nat}{w w':World}{fb vb:Nat}{D:List NF}{ak c:Nat}{U:List NF}{Z:List Nat}(h:ST base w fb vb D ak c U Z)(f:Frm S w w')(h1:fb∉S)(h2:vb∉S)(hS:∀ k∈S,k∈Z):ST base w' fb vb D ak c U Z:=by
 obtain ⟨E,B,k1,k2,k3,k4,k5⟩:=h
 exact ⟨E,B,k1.frmR f h1 h2 (fun e he x n cc ex hm=>k5.2 e he x n cc ex (hS _ hm)),k2,k3,k4,k5.mono f.size⟩
theorem ST.growZ{base:Nat}{w w5:World}{fb vb g:Nat}{D:List NF}{ak c:Nat}{U:List NF}{Z:List Nat}{v:Value}{o:Obj}(h:ST base w fb vb D ak c U (v.ownBlock.toList++Z))(hg:(w.alloc o).grownBy w5 v.ownBlock)(hat:v.ownBlock=some g∨g=(w.alloc o).heap.size)(hgl:g<w5.heap.size)(h1:fb∉v.ownBlock.toList)(h2:vb∉v.ownBlock.toList):ST base w5 fb vb D ak c U ([g]++Z):=by
 have hk:=(h.keep ((Frm.refl [] w).alloc o)).frmZ (Frm.of_grow hg) h1 h2 (fun k hk=>by simp[hk])
 obtain ⟨E,B,k1,k2,k3,k4,k5⟩:=h
 have hz:ZZ w E Z:=⟨fun k hk=>k5.1 k (by simp[hk]),fun e he x n cc ex hm=>k5.2 e he x n cc ex (by simp[hm])⟩
 have hs:w.heap.size≤w5.heap.size:=by have:=hg.size;simp at this;omega
 refine ⟨E,B,(k1.keep ((Frm.refl [] w).alloc o)).frmR (Frm.of_grow hg) h1 h2 (fun e he x n cc ex hm=>k5.2 e he x n cc ex (by simp[hm])),k2,k3,k4,?_,?_⟩
 ·intro k hm
  rcases List.mem_append.1 hm with e|e
  ·simp at e;omega
  ·exact Nat.lt_of_lt_of_le (hz.1 k e) hs
 ·intro e he x n cc ex hm
  rcases List.mem_append.1 hm with e1|e1
  ·simp at e1
   have hb:=(k1.pl e he).blk ex
   rcases hat with e2|e2
   ·exact k5.2 e he x n cc ex (List.mem_append.2 (.inl (by rw[Option.mem_toList,e2,e1])))
   ·simp at e2;omega
  ·exact hz.2 e he x n cc ex e1
def RZ(base:Nat)(w:World)(fb vb:Nat)(D:List NF)(ak c:Nat)(U:List NF)(Z:List Nat)(y:NF)(r:Nat)(w':World):Prop :=
 ∃ vb' R,ST base w' fb vb' (D++R) ak c U Z∧(D++R)[r]?=some y∧FQ fb vb vb' w w'
theorem RZ.here{base:Nat}{w w':World}{fb vb:Nat}{D:List NF}{ak c:Nat}{U:List NF}{Z:List Nat}{y:NF}{r:Nat}(h:ST base w fb vb D ak c U Z)(f:Frm [] w w')(hr:D[r]?=some y):RZ base w fb vb D ak c U Z y r w' :=
 ⟨vb,[],by simpa using h.keep f,by simpa using hr,FQ.keepR (FQ.refl _ _ _) f⟩
theorem RQ.rz{base:Nat}{w w':World}{fb vb:Nat}{D:List NF}{ak c:Nat}{U:List NF}{Z:List Nat}{y:NF}{e:Ending}(h:RQ base w fb vb D ak c U Z y e w'):∃ r:Nat,e=.returned (.int .i64 (r:Nat))∧RZ base w fb vb D ak c U Z y r w':=by
 obtain ⟨vb',R,r,h1,h2,h3,h4⟩:=h
 exact ⟨r,h1,vb',R,h2,h3,h4⟩
theorem RZ.rq{base:Nat}{w w':World}{fb vb:Nat}{D:List NF}{ak c:Nat}{U:List NF}{Z:List Nat}{y:NF}{r:Nat}(h:RZ base w fb vb D ak c U Z y r w'):RQ base w fb vb D ak c U Z y (.returned (.int .i64 (r:Nat))) w':=by
 obtain ⟨vb',R,h2,h3,h4⟩:=h
 exact ⟨vb',R,r,rfl,h2,h3,h4⟩
theorem RZ.keep{base:Nat}{w w1 w2:World}{fb vb:Nat}{D:List NF}{ak c:Nat}{U:List NF}{Z:List Nat}{y:NF}{r:Nat}(h:RZ base w fb vb D ak c U Z y r w1)(f:Frm [] w1 w2):RZ base w fb vb D ak c U Z y r w2:=by
 obtain ⟨vb',R,h2,h3,h4⟩:=h
 exact ⟨vb',R,h2.keep f,h3,FQ.keepR h4 f⟩
theorem RZ.call{base:Nat}{w w1:World}{fb vb:Nat}{D:List NF}{ak c:Nat}{U:List NF}{Z:List Nat}{y y':NF}{r:Nat}{fn:Nat}{args:Array Value}(h:RZ base w fb vb D ak c U Z y r w1)
 (hc:∀ (vb':Nat) (D':List NF),ST base w1 fb vb' D' ak c U Z→D'[r]?=some y→(∀ (i:Nat) (d:NF),D[i]?=some d→D'[i]?=some d)→Calls Tryz.prog fn args w1 (RQ base w1 fb vb' D' ak c U Z y')):Calls Tryz.prog fn args w1 (RQ base w fb vb D ak c U Z y'):=by
 obtain ⟨vb',R,h2,h3,h4⟩:=h
 exact (hc vb' (D++R) h2 h3 (fun i d hd=>get_app hd)).mono fun e w' hr=>RQ.later h4 hr
theorem normalRepeated_any(base:Nat)(w:World)(fb vb:Nat)(D:List NF)(ak c:Nat)(U:List NF)(Z:List Nat)(a:NF)(i lo:Nat)(hi:Option Nat)(h:ST base w fb vb D ak c U Z)(ha:D[i]?=some a)(hR:RepOK U a lo hi)(hlo:lo≤9)(hhi:∀ n,hi=some n→lo≤n∧n≤9) :
 Calls Tryz.prog 114 #[.pointer (some ⟨fb,0,none⟩), .int .i64 i, .int .i64 lo, .int .i64 (hiZ hi)] w (RQ base w fb vb D ak c U Z (repN a lo hi)):=by
 have HA:=hide ha
 have HS:=hide h
 have HR:=hide hR
 have HD1:=hide h.tbl.2.1
 rw[repN_tail]
 have TH:Hid (∀ (w1:World) (k r:Nat) (t:NF),RZ base w fb vb D ak c U Z t r w1→(∀ f∈crT a t,f∈U)→Calls Tryz.prog 125 #[.pointer (some ⟨fb,0,none⟩), .int .i64 i, .int .i64 r] w1 (RQ base w fb vb D ak c U Z (thenN a t))):=by
  intro w1 k r t h1 hcr
  exact h1.call fun vb' D' hst hr hD=>then_any a base w1 fb vb' D' ak c U Z t i r hst (hD _ _ HA.out) hr hcr
 clear h ha hR
 cases hi with
 | none =>
   have SA:=hide (star_any base w fb vb D ak c U Z a i HS.out HA.out (HR.out.1 rfl))
   have e1:hiZ none=-1:=rfl
   rw[e1]
   clear e1
   go_enter Tryz.func114,Tryz.ntmps114
   go_wp2_with fail
   refine (SA.out).mono ?_
   rintro e w1 hrq
   obtain ⟨r1,rfl,hz1⟩:=hrq.rz
   have R1:Hid (RZ base w fb vb D ak c U Z (preN a 0 (tailR a lo none)) r1 w1):=hz1
   clear hrq hz1 SA
   go_wp2_with fail
   go_loopg [9,10] 0 (fun k v9 v10 wr=>v9=.int .i64 r1∧v10=.int .i64 lo∧wr=w1)
   case atStart=>exact ⟨rfl,rfl,rfl⟩
   case round =>
    obtain ⟨rfl,rfl,hw⟩:=hrel
    subst hw
    have hnl:¬ ((lo:Int) < -1):=by omega
    go_wp2_with fail
    go_loopg [9,12] lo (fun k v9 v12 wr=>∃ (j r:Nat),j+k=lo∧v12=.int .i64 j∧v9=.int .i64 r∧RZ base w fb vb D ak c U Z (preN a j (tailR a lo none)) r wr)
    case atStart=>exact ⟨0,r1,by omega,rfl,rfl,R1.out⟩
    case round =>
     clear R1
     obtain ⟨j,r,hj,rfl,rfl,hz⟩:=hrel
     have RR:=hide hz
     clear hz
     by_cases hlt:j<lo
     ·have C:=hide (TH.out wr 0 r _ RR.out (HR.out.2.2 j hlt))
      have HP:Hid (preN a (j+1) (tailR a lo none)=thenN a (preN a j (tailR a lo none))):=preN_succ _ _ _
      clear RR
      go_wp2_with fail
      refine (C.out).mono ?_
      rintro e w2 hrq
      obtain ⟨r2,rfl,hz2⟩:=hrq.rz
      have R2:=hide hz2
      clear hrq hz2 C
      go_wp2
      go_roundg (gk-1)
      case measure=>omega
      case rel=>exact ⟨j+1,r2,by omega,by go_num,rfl,by rw[HP.out];exact R2.out⟩
     ·have hje:j=lo:=by omega
      subst hje
      go_wp2
      go_ret
      exact RR.out.rq
 | some n =>
   obtain ⟨hln,hn9⟩:=hhi n rfl
   have e1:hiZ (some n)=(n:Int):=rfl
   rw[e1]
   clear e1
   have hne:((n:Int) == -1)=false:=by rw[beq_eq_false_iff_ne];omega
   go_enter Tryz.func114,Tryz.ntmps114
   go_wp2_with fail
   go_loopg [9,10] (n-lo) (fun k v9 v10 wr=>∃ (j r:Nat),j+k=n-lo∧v10=.int .i64 (lo+j:Nat)∧v9=.int .i64 r∧RZ base w fb vb D ak c U Z (optN a j .one) r wr)
   case atStart=>exact ⟨0,1,by omega,by simp,rfl,RZ.here HS.out (Frm.refl _ _) HD1.out⟩
   case round =>
    obtain ⟨j,r,hj,rfl,rfl,hz⟩:=hrel
    have RR:=hide hz
    clear hz
    by_cases hlt:j<n-lo
    ·have hok:=HR.out.2.1 n rfl j hlt
     have C:=hide (TH.out wr 0 r _ RR.out hok.1)
     have HP:Hid (optN a (j+1) .one=orN (thenN a (optN a j .one)) .one):=optN_succ _ _ _
     have OK:=hide hok.2
     have hl2:((lo+j:Nat):Int)<n:=by omega
     clear RR hok
     go_wp2_with fail
     refine (C.out).mono ?_
     rintro e w2 hrq
     obtain ⟨r2,rfl,hz2⟩:=hrq.rz
     have R2:=hide hz2
     have OC:Hid (∀ o,o=Obj.cells #[.int .i64 r2, .int .i64 1] 3→Calls Tryz.prog 123 #[.pointer (some ⟨fb,0,none⟩), .slice (some ⟨w2.heap.size,0,none⟩) 2 2] (w2.alloc o) (RQ base w fb vb D ak c U Z (orN (thenN a (optN a j .one)) .one))):=by
      rintro o rfl
      have hz3:=R2.out.keep ((Frm.refl [] w2).alloc (Obj.cells #[.int .i64 r2, .int .i64 1] 3))
      refine hz3.call fun vb' D' hst hr hD=>?_
      have hil:IL w2.heap.size (w2.alloc (Obj.cells #[.int .i64 r2, .int .i64 1] 3)) (.slice (some ⟨w2.heap.size,0,none⟩) 2 2) [r2,1]:=World.ownsRow_lit _ #[.int .i64 r2, .int .i64 1] 2 (Nat.le_refl _) (by unfold maxLen;omega) (by simp)
      refine or_any base _ fb vb' D' ak c U Z (.slice (some ⟨w2.heap.size,0,none⟩) 2 2) [r2,1] [thenN a (optN a j .one), .one] hst (row_nl hil) ?_ ?_ OK.out
      ·intro q hq
       simp at hq
       rcases hq with rfl|rfl
       ·exact (List.getElem?_eq_some_iff.1 hr).1
       ·exact (List.getElem?_eq_some_iff.1 hst.tbl.2.1).1
      ·simp only[List.map_cons,List.map_nil,getD_of hr,getD_of hst.tbl.2.1]
     clear hrq hz2 C
     go_wp2_with fail
     refine (OC.out _ rfl).mono ?_
     rintro e w3 hrq
     obtain ⟨r3,rfl,hz3⟩:=hrq.rz
     have R3:=hide hz3
     clear hrq hz3 OC R2
     go_wp2
     go_roundg (gk-1)
     case measure=>omega
     case rel=>exact ⟨j+1,r3,by omega,by go_num,rfl,by rw[HP.out];exact R3.out⟩
    ·have hje:j=n-lo:=by omega
     have R1:Hid (RZ base w fb vb D ak c U Z (preN a 0 (tailR a lo (some n))) r wr):=by have:=RR.out;rw[hje]at this;exact this
     have hl2:¬ ((lo+j:Nat):Int)<n:=by omega
     clear RR hje
     go_wp2_with fail
     go_loopg [9,12] lo (fun k v9 v12 wr=>∃ (j r:Nat),j+k=lo∧v12=.int .i64 j∧v9=.int .i64 r∧RZ base w fb vb D ak c U Z (preN a j (tailR a lo (some n))) r wr)
     case atStart=>exact ⟨0,r,by omega,rfl,rfl,R1.out⟩
     case round =>
      clear R1
      obtain ⟨j,r,hj,rfl,rfl,hz⟩:=hrel
      have RR:=hide hz
      clear hz
      by_cases hlt:j<lo
      ·have C:=hide (TH.out wr 0 r _ RR.out (HR.out.2.2 j hlt))
       have HP:Hid (preN a (j+1) (tailR a lo (some n))=thenN a (preN a j (tailR a lo (some n)))):=preN_succ _ _ _
       clear RR
       go_wp2_with fail
       refine (C.out).mono ?_
       rintro e w2 hrq
       obtain ⟨r2,rfl,hz2⟩:=hrq.rz
       have R2:=hide hz2
       clear hrq hz2 C
       go_wp2
       go_roundg (gk-1)
       case measure=>omega
       case rel=>exact ⟨j+1,r2,by omega,by go_num,rfl,by rw[HP.out];exact R2.out⟩
      ·have hje:j=lo:=by omega
       subst hje
       go_wp2
       go_ret
       exact RR.out.rq
end Go.Proofs.YtjkialjoamgbgaaGreat
