import Derived.Test.YtpcbbbilmpobaaaGreatDoorJ19
set_option linter.unusedVariables false
set_option linter.unusedSimpArgs false
set_option linter.unnecessarySimpa false
set_option maxRecDepth 100000
set_option maxHeartbeats 8000000
namespace Go.Proofs.YtpcbbbilmpobaaaGreatDoor
open Go.RowKit
theorem LY.off{w0:World}{kb:Nat}{S:List Nat}{w w':World}{V:V6}{U:V4}{l:List InM}(h:LY w0 kb w V U l)(f:Frm S w w')(hk:kb∉S)(h0:∀ g∈S,w0.heap.size≤g)(ho:∀ g,U.l.ownBlock=some g→g∉S):LY w0 kb w' V U l :=
 ⟨h.row.frm f hk,h.fr.over f (fun x hx=>.inl (h0 x hx)),h.lo,h.o.off f ho⟩
theorem lf_step{S:List Nat}{kb:Nat}{W2 wr w3:World}{vl v v3:Value}(F:Frm S W2 wr)(hk:kb∈S)(hv:∀ g,vl.ownBlock=some g→g∈S)(OV:∀ g,v.ownBlock=some g→vl.ownBlock=some g∨W2.heap.size≤g)(h:LF kb wr v w3 v3) :
 Frm S W2 w3∧∀ g,v3.ownBlock=some g→vl.ownBlock=some g∨W2.heap.size≤g:=by
 refine ⟨F.over h.f ?_,fun g hg=>?_⟩
 ·intro x hx
  rcases List.mem_cons.1 hx with rfl|hx
  ·exact .inr hk
  ·rcases OV x (by simpa using hx) with h1|h1
   ·exact .inr (hv x h1)
   ·exact .inl h1
 ·rcases h.o g hg with h1|h1
  ·exact OV g h1
  ·exact .inr (Nat.le_trans F.size h1)
theorem repl_set(m b:Nat)(L:List Nat):(List.replicate (m+1) 0++L).set m b=List.replicate m 0++(b::L):=by
 rw[List.replicate_succ',List.append_assoc,List.set_append_right _ _ (by simp)];simp
theorem lay1_at(rec:Nat→Nat→List InM→Nat × List InM)(C:List CR)(q:List (List (Nat × Bool)))(d:Nat)(l:List InM)(K:List Nat)(m c:Nat)(hm:m<K.length)(hk:K[m]=c)(hc:c<C.length)(hq:c<q.length){sec:Nat}{bgs:List Nat}{l1:List InM}(h:lay1 rec C q d l (K.drop (m+1))=(sec,bgs,l1)){b:Nat}{l2:List InM}(hb:rec c (if C[c].co then sec else d) l1=(b,l2)) :
 lay1 rec C q d l (K.drop m)=((layChk q[c] b sec l2).1,b::bgs,(layChk q[c] b sec l2).2):=by
 subst hk;have e:(if (C[K[m]]?.map (·.co))=some true then sec else d)=(if C[K[m]].co then sec else d):=by
  rw[List.getElem?_eq_getElem hc];simp
 rw[List.drop_eq_getElem_cons hm,lay1,h];simp only[e,hb];rw[List.getD_eq_getElem?_getD,List.getElem?_eq_getElem hq]
 rfl
theorem lay2_at(q:List (List (Nat × Bool)))(first:Nat)(l:List InM)(K bgs:List Nat)(m c:Nat)(hm:m<K.length)(hk:K[m]=c)(hq:c<q.length)(hbm:m<bgs.length){f1:Nat}{l1:List InM}(h:lay2 q first l ((K.zip bgs).drop (m+1))=(f1,l1)) :
 lay2 q first l ((K.zip bgs).drop m)=layChk q[c] bgs[m] f1 l1:=by
 subst hk;rw[List.drop_eq_getElem_cons (by rw[List.length_zip];omega),lay2,h];simp only[List.getElem_zip];rw[List.getD_eq_getElem?_getD,List.getElem?_eq_getElem hq]
 rfl
def LRQ(w0:World)(kb:Nat)(V:V6)(rt xx vq:Value)(C:List CR)(q:List (List (Nat × Bool)))(f:Nat):Prop :=
 ∀ (r d:Nat) (w:World) (vl:Value) (l:List InM),LY w0 kb w V ⟨rt,xx,vq,vl⟩ l→(hr:r<C.length)→6≤C[r].d+f→l.length+bnd f≤800000000 →
   Calls Tryz.prog 51 #[.pointer (some ⟨kb,0,none⟩), .int .i64 r, .int .i64 d] w fun e w'=>e=.returned (.int .i64 ((layR C q f r d l).1:Nat))∧∃ v,LY w0 kb w' V ⟨rt,xx,vq,v⟩ (layR C q f r d l).2∧LF kb w vl w' v
theorem layRoute_step(w0:World)(kb:Nat)(V:V6)(rt xx vq:Value)(C:List CR)(q:List (List (Nat × Bool)))(hc:LC w0 kb rt vq C q)(f:Nat)(ih:LRQ w0 kb V rt xx vq C q f):LRQ w0 kb V rt xx vq C q (f+1):=by
 intro r d w vl l h hr hf hl;have IH:=hide ih;have HC:=hide hc;have hcl:=hc.cl;have hql:=hc.ql;have hKl:=kids_len C r;have N1:=hide (childrenOf_any kb w V ⟨rt,xx,vq,vl⟩ h.row C (hc.hrt.frm h.fr (by simp)) (by omega) (fun c hm=>by have:=hc.d c hm;omega) r hr);have HKM:Hid (∀ c∈kids C r,∃ hc:c<C.length,r<c∧C[r].d+1=C[c].d):=fun c hm=>mem_kids hm hr
 have HR:Hid (layR C q (f+1) r d l=lay2 q (lay1 (layR C q f) C q d l (kids C r)).2.2.length ((lay1 (layR C q f) C q d l (kids C r)).2.2++[⟨1,r,d,0⟩]) ((kids C r).zip (lay1 (layR C q f) C q d l (kids C r)).2.1)):=rfl;have L0:=hide h;have hlo:=h.lo;have hz0:=h.fr.size;have HVL:Hid (∀ g,vl.ownBlock=some g→g<w.heap.size):=fun g hg=>(h.o.lt hg).2
 obtain ⟨art,capt,ert,hco⟩:=hc.hrt.co;subst ert;have HCO:=hide hco;have HB0:Hid (∀ y,lay1 (layR C q f) C q d l (kids C r)=y→y.2.2.length≤l.length+16*(bnd f+4)):=by
  intro y hy;have h1:=lay1_bnd (layR_bnd hc.cl hc.qb f) C hc.qb d l (kids C r);have h2:(kids C r).length*(bnd f+4)≤16*(bnd f+4):=Nat.mul_le_mul_right _ (by omega);rw[← hy];omega
 have HB1:Hid (∀ n,n+1≤(kids C r).length→∀ y,lay1 (layR C q f) C q d l ((kids C r).drop (n+1))=y→y.2.2.length≤l.length+15*(bnd f+4)):=by
  intro n hn y hy;have h1:=lay1_bnd (layR_bnd hc.cl hc.qb f) C hc.qb d l ((kids C r).drop (n+1));have h2:((kids C r).drop (n+1)).length*(bnd f+4)≤15*(bnd f+4):=Nat.mul_le_mul_right _ (by rw[List.length_drop];omega);rw[← hy];omega
 have HBL:Hid (bnd (f+1)=16*(bnd f+8)+1):=rfl;have hbl:l.length+16*(bnd f+8)+1≤800000000:=by have:=HBL.out;omega
 have hdr:C[r].d+(f+1)≥6:=hf;clear h hc hco hf hl HBL ih;generalize C[r].d=dr at *;generalize kids C r=K at *;have hmk:=run_ints K.length (by omega);go_enter Tryz.func51,Tryz.ntmps51
 go_wp2_with fail
 refine (N1.out).mono ?_;clear N1;rintro e w1 ⟨vk,rfl,hF1,hO1⟩;obtain ⟨ak,ck,rfl,hk⟩:=hO1.nums;have HKB:Hid (∀ g,Value.ownBlock (.slice ak K.length ck)=some g→w.heap.size≤g):=fun g hg=>(hO1.lt hg).1
 obtain ⟨W2,hW2⟩:∃ W2,W2=w1.alloc (.cells (nv .i64 (List.replicate K.length 0)).toArray 3):=⟨_,rfl⟩;have HF12:Hid (Frm [] w1 W2):=by rw[hW2];exact (Frm.refl [] _).alloc _
 have HF1:=hide hF1;have hz1:=hF1.size;have HZ2:Hid (W2.heap.size=w1.heap.size+1):=by rw[hW2];simp[Hid]
 have HBG:Hid (BG W2 w1.heap.size (List.replicate K.length 0)):=by rw[hW2];exact heap1 _ _
 have HK:=hide hk;have HW2:=hide hW2;clear hF1 hO1 hk hW2;go_wp2_with fail
 go_loopg [9,10] K.length (fun k v9 v10 wr=>∃ (j sec:Nat) (x:Int) (bgs:List Nat) (l1:List InM) (v:Value),j≤K.length∧k=j∧v10=.int .i64 x∧x=(j:Int)-1∧v9=.int .i64 sec∧Hid (lay1 (layR C q f) C q d l (K.drop j)=(sec,bgs,l1))∧Hid (bgs.length=K.length-j)∧Hid (LY w0 kb wr V ⟨.slice art C.length capt,xx,vq,v⟩ l1)∧Hid (BG wr w1.heap.size (List.replicate j 0++bgs))∧Hid (Frm (kb::w1.heap.size::vl.ownBlock.toList) W2 wr)∧Hid (∀ g,v.ownBlock=some g→vl.ownBlock=some g∨W2.heap.size≤g))
 case atStart =>
  refine ⟨K.length,d,_,[],l,vl,Nat.le_refl _,rfl,rfl,by omega,rfl,?_,?_,?_,?_,?_,?_⟩
  ·show _=_;simp[lay1]
  ·show _=_;simp
  ·show LY _ _ _ _ _ _;rw[← HW2.out];exact L0.out.frm (HF1.out.trans HF12.out)
  ·show BG _ _ _;rw[← HW2.out,List.append_nil];exact HBG.out
  ·show Frm _ _ _;rw[← HW2.out];exact Frm.refl _ _
  ·exact fun g hg=>.inl hg
 case round =>
  obtain ⟨j,sec,x,bgs,l1,v,hj,rfl,rfl,hx,rfl,HV,HBL,L1,B1,FO,OV⟩:=hrel;have hnb:∀ g,v.ownBlock=some g→g≠w1.heap.size:=fun g hg e=>by
   have h2:=HZ2.out;rcases OV.out g hg with h1|h1
   ·have:=HVL.out g h1;omega
   ·omega
  have HNB:=hide hnb;clear hnb;have r6:=L1.out.row.c 6;simp at r6;rcases gk with _|m
  ·obtain rfl:x=-1:=by omega
   clear hx;have hv0:=HV.out;rw[List.drop_zero]at hv0;have hb0:=HB0.out _ hv0;simp only at hb0;have hbs:=HBL.out;have HR2:Hid (layR C q (f+1) r d l=lay2 q l1.length (l1++[⟨1,r,d,0⟩]) (K.zip bgs)):=by
    have:=HR.out;rw[hv0]at this;exact this
   have B0:Hid (BG wr w1.heap.size bgs):=by show BG _ _ _;have:=B1.out;simpa using this
   have hgb:kb≠w1.heap.size:=by omega
   have N4:=hide (lay_any w0 kb wr V _ l1 L1.out ⟨1,r,d,0⟩ (by omega));simp only[icell]at N4;have HL2:Hid ((l1++[(⟨1,r,d,0⟩:InM)]).length=l1.length+1):=by show _=_;simp
   clear hv0 HV HBL HR HB0 HB1 IH;go_wp2_with fail
   refine (N4.out).mono ?_;clear N4;rintro e w3 ⟨rfl,v3,hL3,hLF3⟩;obtain ⟨hF3,hOV3⟩:=lf_step FO.out (by simp) (fun g hg=>by simp[hg]) OV.out hLF3;have B3:=hide (B0.out.frm hLF3.f (by intro hm;simp at hm;rcases hm with h1|h1;exact hgb h1.symm;exact HNB.out _ h1 rfl));have L3:=hide hL3;have FO3:=hide hF3;have OV3:=hide hOV3;clear hL3 hLF3 hF3 hOV3;generalize hl2:l1++[(⟨1,r,d,0⟩:InM)]=l2 at *;clear hl2;go_wp2_with fail
   go_loopg [14,15] K.length (fun k v14 v15 wr=>∃ (j f1:Nat) (x:Int) (l3:List InM) (v:Value),j≤K.length∧k=j∧v15=.int .i64 x∧x=(j:Int)-1∧v14=.int .i64 f1∧Hid (lay2 q l1.length l2 ((K.zip bgs).drop j)=(f1,l3))∧Hid (LY w0 kb wr V ⟨.slice art C.length capt,xx,vq,v⟩ l3)∧Hid (BG wr w1.heap.size bgs)∧Hid (Frm (kb::w1.heap.size::vl.ownBlock.toList) W2 wr)∧Hid (∀ g,v.ownBlock=some g→vl.ownBlock=some g∨W2.heap.size≤g))
   case atStart =>
    refine ⟨K.length,l1.length,_,l2,v3,Nat.le_refl _,rfl,rfl,by omega,rfl,?_,L3,B3,FO3,OV3⟩;show _=_;rw[List.drop_eq_nil_of_le (by rw[List.length_zip];omega)]
    rfl
   case round =>
    obtain ⟨j,f1,x,l3,v4,hj2,rfl,rfl,hx,rfl,HV4,L4,B4,FO4,OV4⟩:=hrel;rcases gk with _|m
    ·obtain rfl:x=-1:=by omega
     clear hx;have hv4:=HV4.out;rw[List.drop_zero]at hv4;have HR3:Hid (layR C q (f+1) r d l=(f1,l3)):=HR2.out.trans hv4;have HLF:Hid (LF kb w vl wr v4):=by
      refine ⟨((Frm.refl _ _).over (HF1.out.trans HF12.out) (by simp)).over FO4.out ?_,fun g hg=>?_⟩
      ·intro y hy
       simp at hy;rcases hy with rfl|rfl|hy
       ·exact .inr (by simp)
       ·exact .inl (by omega)
       ·exact .inr (by simp[hy])
      ·rcases OV4.out g hg with h1|h1
       ·exact .inl h1
       ·exact .inr (by have:=HZ2.out;omega)
     clear hv4 HV4;go_wp2;go_ret;rw[HR3.out];exact ⟨rfl,v4,L4.out,HLF.out⟩
    ·obtain rfl:x=(m:Int):=by omega
     clear hx;obtain ⟨gk,rfl,hgo,hgk,p0⟩:=HK.out m (by omega);have hgw:=HKB.out gk hgo;have s0:wr.cell? ⟨gk,m,none⟩=some (.int .i64 (K[m]:Nat)):=by
      refine (FO4.out.cell (p:=⟨gk,m,none⟩) (Nat.lt_of_lt_of_le hgk HF12.out.size) ?_).trans ((HF12.out.cell (p:=⟨gk,m,none⟩) hgk (by simp)).trans p0);intro hm;simp at hm;rcases hm with h1|h1|h1
      ·omega
      ·omega
      ·have:=HVL.out gk h1;omega
     obtain ⟨c,hkm⟩:∃ c,K[m]=c:=⟨_,rfl⟩;rw[hkm]at s0;obtain ⟨hcK,hrc,hdc⟩:=HKM.out c (by rw[← hkm];exact List.getElem_mem _);have hqc:c<q.length:=by omega
     have hbm:m<bgs.length:=by omega
     have t0:=B4.out.cell m hbm;have hl3:l3.length≤900000000:=by
      have h1:=lay2_bnd HC.out.qb l1.length l2 ((K.zip bgs).drop (m+1));rw[HV4.out]at h1;simp only[List.length_drop,List.length_zip]at h1;have:=HL2.out;omega
     have HLV:=hide (lay2_at q l1.length l2 K bgs m c (by omega) hkm hqc hbm HV4.out);have N5:Hid (∀ W,Frm [] wr W→Calls Tryz.prog 75 #[.pointer (some ⟨kb,0,none⟩), .int .i64 (c:Nat), .int .i64 (bgs[m]:Nat), .int .i64 (f1:Nat)] W fun e w'=>e=.returned (.int .i64 ((layChk q[c] bgs[m] f1 l3).1:Nat))∧∃ v,LY w0 kb w' V ⟨.slice art C.length capt,xx,vq,v⟩ (layChk q[c] bgs[m] f1 l3).2∧LF kb W v4 w' v):=fun W hW=>layChecks_any w0 kb W V _ l3 (L4.out.frm hW) q HC.out.hq (fun x hx=>by have:=HC.out.qb x hx;omega) c bgs[m] f1 hqc (by omega) hl3
     have hmm:decide ((m:Int)<(K.length:Int))=true:=decide_eq_true (by omega);generalize bgs[m]=bm at *;have FN:Hid (Frm [] wr wr.drew):=(Frm.refl [] _).drew;clear HV4 hkm p0 hgo;go_wp2_with fail
     go_region_with (go_at_call 75;refine (N5.out _ FN.out).mono ?_;rintro e w6 ⟨rfl,v6,hL6,hLF6⟩)
     all_goals
      obtain ⟨hF6,hOV6⟩:=lf_step FO4.out (by simp) (fun g hg=>by simp[hg]) OV4.out (hLF6.pre FN.out);have B6:Hid (BG w6 w1.heap.size bgs):=by
       refine (B4.out.frm FN.out (by simp)).frm hLF6.f ?_;intro hm;simp at hm;rcases hm with h1|h1
       ·exact hgb h1.symm
       ·have h2:=HZ2.out
        rcases OV4.out _ h1 with h3|h3
        ·have:=HVL.out _ h3;omega
        ·omega
      have L6:=hide hL6;have FO6:=hide hF6;have OV6:=hide hOV6;clear hL6 hLF6 hF6 hOV6;go_wp2;go_roundg m
      case measure=>omega
      case rel=>exact ⟨m,_,_,_,v6,by omega,rfl,rfl,by omega,rfl,HLV,L6,B6,FO6,OV6⟩
  ·obtain rfl:x=(m:Int):=by omega
   clear hx;obtain ⟨gk,rfl,hgo,hgk,p0⟩:=HK.out m (by omega);have hgw:=HKB.out gk hgo;have s0:wr.cell? ⟨gk,m,none⟩=some (.int .i64 (K[m]:Nat)):=by
    refine (FO.out.cell (p:=⟨gk,m,none⟩) (Nat.lt_of_lt_of_le hgk HF12.out.size) ?_).trans ((HF12.out.cell (p:=⟨gk,m,none⟩) hgk (by simp)).trans p0);intro hm;simp at hm;rcases hm with h1|h1|h1
    ·omega
    ·omega
    ·have:=HVL.out gk h1;omega
   obtain ⟨c,hkm⟩:∃ c,K[m]=c:=⟨_,rfl⟩;rw[hkm]at s0;obtain ⟨hcK,hrc,hdc⟩:=HKM.out c (by rw[← hkm];exact List.getElem_mem _);have hqc:c<q.length:=by omega
   obtain ⟨gr,or,rfl,hgr1,hgr2,t0⟩:=HCO.out c hcK;have s8:=(L1.out.fr.cell (p:=⟨gr,or+c*9+8,none⟩) hgr2 hgr1).trans t0;have hb1:=HB1.out m (by omega) _ HV.out;simp only at hb1;have hrb:∀ d':Nat,(layR C q f c d' l1).2.length≤l1.length+bnd f:=fun d'=>layR_bnd HC.out.cl HC.out.qb f c d' l1
   have HRB:=hide hrb;have HN3:Hid (∀ (u:World) (vu:Value) (lu:List InM) (yy nn:Nat),LY w0 kb u V ⟨.slice (some ⟨gr,or,none⟩) C.length capt,xx,vq,vu⟩ lu→lu.length≤900000000→Calls Tryz.prog 75 #[.pointer (some ⟨kb,0,none⟩), .int .i64 (c:Nat), .int .i64 yy, .int .i64 nn] u fun e w'=>e=.returned (.int .i64 ((layChk q[c] yy nn lu).1:Nat))∧∃ v,LY w0 kb w' V ⟨.slice (some ⟨gr,or,none⟩) C.length capt,xx,vq,v⟩ (layChk q[c] yy nn lu).2∧LF kb u vu w' v):=fun u vu lu yy nn hu hlu=>layChecks_any w0 kb u V _ lu hu q HC.out.hq (fun x hx=>by have:=HC.out.qb x hx;omega) c yy nn (by omega) (by omega) hlu
   have ho1:6≤C[c].d+f:=by omega
   have ho2:l1.length+bnd f≤800000000:=by omega
   have HN2:Hid (∀ d':Nat,Calls Tryz.prog 51 #[.pointer (some ⟨kb,0,none⟩), .int .i64 (c:Nat), .int .i64 (d':Nat)] wr fun e w'=>e=.returned (.int .i64 ((layR C q f c d' l1).1:Nat))∧∃ v',LY w0 kb w' V ⟨.slice (some ⟨gr,or,none⟩) C.length capt,xx,vq,v'⟩ (layR C q f c d' l1).2∧LF kb wr v w' v'):=fun d'=>IH.out c d' wr v l1 L1.out hcK ho1 ho2
   have hcc:decide ((c:Int)<(C.length:Int))=true:=decide_eq_true (by omega);have hmm:decide ((m:Int)<(K.length:Int))=true:=decide_eq_true (by omega);clear hrb t0 p0;have HKE:=hide hkm;obtain ⟨bd,hbd⟩:∃ bd,bd=if C[c].co then sec else d:=⟨_,rfl⟩
   have N2:=hide (HN2.out bd);have hb2:=HRB.out bd;have HLB:Hid (∀ x,layR C q f c bd l1=x→lay1 (layR C q f) C q d l (K.drop m)=((layChk q[c] x.1 sec x.2).1,x.1::bgs,(layChk q[c] x.1 sec x.2).2)):=fun x hx=>lay1_at _ C q d l K m c (by omega) HKE.out hcK (by omega) HV.out (b:=x.1) (l2:=x.2) (by rw[← hbd];exact hx)
   generalize hlr:layR C q f c bd l1=bb at *;have HLV:=hide (HLB.out bb rfl);obtain ⟨b,l2⟩:=bb;simp only at N2 hb2 HLV;have hbs:=HBL.out;have hgb:kb≠w1.heap.size:=by omega
   have HB16:=hide (layChk_len b sec l2 q[c]);clear hkm HLB hlr HV HRB HN2 ho1 hb1 HBL hgo;cases hco:C[c].co
   all_goals
    rw[hco]at hbd s8;simp only[if_true,Bool.false_eq_true,if_false]at hbd;rw[hbd]at N2;clear hbd;go_wp2_with fail
    refine (N2.out).mono ?_;clear N2;rintro e w3 ⟨rfl,v3,hL3,hLF3⟩;obtain ⟨hF3,hOV3⟩:=lf_step FO.out (by simp) (fun g hg=>by simp[hg]) OV.out hLF3;have B3:=B1.out.frm hLF3.f (by intro hm;simp at hm;rcases hm with h1|h1;exact hgb h1.symm;exact HNB.out _ h1 rfl);have y0:=B3.cell m (by simp;omega);have y1:=B3.fz m;have hnb3:∀ g,v3.ownBlock=some g→g≠w1.heap.size:=fun g hg e=>by
     have h2:=HZ2.out;rcases hOV3 g hg with h1|h1
     ·have:=HVL.out g h1;omega
     ·omega
    have FB:Frm [w1.heap.size] w3 (w3.setCell ⟨w1.heap.size,m,none⟩ (.int .i64 (b:Nat))):=(Frm.refl _ _).setCell (p:=⟨w1.heap.size,m,none⟩) (.inl (by simp)) _;have hL4:=hL3.off FB (by simp;exact hgb) (by simp;omega) (fun g hg=>by simp;exact hnb3 g hg);have N3:=hide (HN3.out _ v3 l2 b sec hL4 (by omega));have B4:=hide (B3.set m b);have FO4:=hide (hF3.over FB (by simp));have OV3:=hide hOV3;clear hL3 hLF3 hF3 hOV3 B3 hnb3 FB hL4;go_wp2_with fail
    refine (N3.out).mono ?_;clear N3;rintro e w5 ⟨rfl,v5,hL5,hLF5⟩;obtain ⟨hF5,hOV5⟩:=lf_step FO4.out (by simp) (fun g hg=>by simp[hg]) OV3.out hLF5;have B5:Hid (BG w5 w1.heap.size (List.replicate m 0++(b::bgs))):=by
     rw[← repl_set];refine B4.out.frm hLF5.f ?_;intro hm;simp at hm;rcases hm with h1|h1
     ·exact hgb h1.symm
     ·have h2:=HZ2.out
      rcases OV3.out _ h1 with h3|h3
      ·have:=HVL.out _ h3;omega
      ·omega
    have L5:=hide hL5;have FO5:=hide hF5;have OV5:=hide hOV5;clear hL5 hLF5 hF5 hOV5 B4 FO4 OV3 y0 y1;go_wp2;go_roundg m
    case measure=>omega
    case rel=>exact ⟨m,_,_,b::bgs,_,v5,by omega,rfl,rfl,by omega,rfl,HLV,by show _=_;simp;omega,L5,B5,FO5,OV5⟩
theorem layRoute_all(w0:World)(kb:Nat)(V:V6)(rt xx vq:Value)(C:List CR)(q:List (List (Nat × Bool)))(hc:LC w0 kb rt vq C q):∀ f,LRQ w0 kb V rt xx vq C q f
 | 0=>by
   intro r d w vl l h hr hf hl;have:=hc.d C[r] (List.getElem_mem hr);omega
 | f+1=>layRoute_step w0 kb V rt xx vq C q hc f (layRoute_all w0 kb V rt xx vq C q hc f)
def NB(w:World)(g:Nat)(N:List Int):Prop:=w.heap[g]?=some (.cells (N.map fun n=>Value.int .i64 n).toArray 3 (0,0))
def RB(w:World)(g:Nat)(R:List Bool):Prop:=w.heap[g]?=some (.cells (R.map fun b=>Value.bool b).toArray 4 (0,0))
theorem NB.cell{w:World}{g:Nat}{L:List Int}(h:NB w g L)(i:Nat)(hi:i<L.length):w.cell? ⟨g,i,none⟩=some (.int .i64 L[i]):=by
 unfold NB at h;simp[World.cell?,h,hi]
theorem NB.fz{w:World}{g:Nat}{L:List Int}(h:NB w g L)(i:Nat):w.frozen? ⟨g,i,none⟩=false:=by
 unfold NB at h;simp[World.frozen?,h]
theorem NB.lt{w:World}{g:Nat}{L:List Int}(h:NB w g L):g<w.heap.size:=(Array.getElem?_eq_some_iff.1 h).1
theorem NB.frm{S:List Nat}{w w':World}{g:Nat}{L:List Int}(h:NB w g L)(f:Frm S w w')(hS:g∉S):NB w' g L:=(f.block g h.lt hS).trans h
theorem NB.set{w:World}{g:Nat}{L:List Int}(h:NB w g L)(i:Nat)(y:Int):NB (w.setCell ⟨g,i,none⟩ (.int .i64 y)) g (L.set i y):=by
 unfold NB at h ⊢;simp[World.setCell,Array.getElem?_modify,h,List.map_set]
theorem RB.cell{w:World}{g:Nat}{L:List Bool}(h:RB w g L)(i:Nat)(hi:i<L.length):w.cell? ⟨g,i,none⟩=some (.bool L[i]):=by
 unfold RB at h;simp[World.cell?,h,hi]
theorem RB.fz{w:World}{g:Nat}{L:List Bool}(h:RB w g L)(i:Nat):w.frozen? ⟨g,i,none⟩=false:=by
 unfold RB at h;simp[World.frozen?,h]
theorem RB.lt{w:World}{g:Nat}{L:List Bool}(h:RB w g L):g<w.heap.size:=(Array.getElem?_eq_some_iff.1 h).1
theorem RB.frm{S:List Nat}{w w':World}{g:Nat}{L:List Bool}(h:RB w g L)(f:Frm S w w')(hS:g∉S):RB w' g L:=(f.block g h.lt hS).trans h
theorem RB.set{w:World}{g:Nat}{L:List Bool}(h:RB w g L)(i:Nat)(y:Bool):RB (w.setCell ⟨g,i,none⟩ (.bool y)) g (L.set i y):=by
 unfold RB at h ⊢;simp[World.setCell,Array.getElem?_modify,h,List.map_set]
theorem infoBool1:(Tryz.prog.info? 4).map (fun i=>(i.zero,i.size,i.bytes))=some (some (.bool false),1,1):=by kernel_rfl
theorem made_bools(n:Nat):madeCells #[.bool false] n=((List.replicate n false).map fun b=>Value.bool b).toArray:=by
 apply Array.ext
 ·simp[size_madeCells]
 ·intro i h1 h2
  simp[madeCells,Nat.mod_one]
theorem run_bools(n:Nat)(hn:n≤1000000000)(u:World):(Instr.makeSlice 92 (.int .i64 (n:Int)) (.int .i64 (n:Int))).run Tryz.prog u=.ok (.slice (some ⟨u.heap.size,0,none⟩) n n) (u.alloc (.cells ((List.replicate n false).map fun b=>Value.bool b).toArray 4)):=by
 obtain ⟨i0,hi,hz0,hz1,hz2⟩:=info_parts2 infoBool1;have:=run_make (P:=Tryz.prog) u 92 4 i0 _ Tryz.underlying92 hi hz0 .i64 .i64 (n:Int) (n:Int) (by omega) (Int.le_refl _) (by rw[hz2];omega) (by omega);rw[hz1,Int.toNat_natCast,Nat.mul_one]at this;rw[this];have e:(Value.bool false).cells=#[.bool false]:=rfl;rw[e,made_bools]
theorem made_ints2(n:Nat):madeCells #[.int .i64 0] n=((List.replicate n (0:Int)).map fun b=>Value.int .i64 b).toArray:=by
 apply Array.ext
 ·simp[size_madeCells]
 ·intro i h1 h2
  simp[madeCells,Nat.mod_one]
theorem run_ints2(n:Nat)(hn:n≤1000000000)(u:World):(Instr.makeSlice 93 (.int .i64 (n:Int)) (.int .i64 (n:Int))).run Tryz.prog u=.ok (.slice (some ⟨u.heap.size,0,none⟩) n n) (u.alloc (.cells ((List.replicate n (0:Int)).map fun b=>Value.int .i64 b).toArray 3)):=by
 obtain ⟨i0,hi,hz0,hz1,hz2⟩:=info_parts2 infoInt1;have:=run_make (P:=Tryz.prog) u 93 3 i0 _ Tryz.underlying93 hi hz0 .i64 .i64 (n:Int) (n:Int) (by omega) (Int.le_refl _) (by rw[hz2];omega) (by omega);rw[hz1,Int.toNat_natCast,Nat.mul_one]at this;rw[this];have e:(Value.int .i64 0).cells=#[.int .i64 0]:=rfl;rw[e,made_ints2]
theorem RW.ins{A:List Nat}{w:World}{v:Value}{L:List InM}(h:RW A 4 w v (icl L)):∃ a cap,v=.slice a L.length cap∧∀ (j:Nat) (hj:j<L.length),∃ g off,a=some ⟨g,off,none⟩∧g<w.heap.size∧w.cell? ⟨g,off+j*4,none⟩=some (.int .i64 (L[j].op:Nat))∧w.cell? ⟨g,off+j*4+1,none⟩=some (.int .i64 (L[j].x:Nat))∧w.cell? ⟨g,off+j*4+2,none⟩=some (.int .i64 (L[j].a:Nat))∧w.cell? ⟨g,off+j*4+3,none⟩=some (.int .i64 (L[j].b:Nat)):=by
 obtain ⟨a,cap,e,h1,h2⟩:=h;rw[icl_len]at e;refine ⟨a,cap,e,fun j hj=>?_⟩;obtain ⟨g,off,e2,h3,h4,h5⟩:=h2 j (by rw[icl_len];exact hj);exact ⟨g,off,e2,h4,h5 0 _ (by simp[icl,icell]),h5 1 _ (by simp[icl,icell]),h5 2 _ (by simp[icl,icell]),h5 3 _ (by simp[icl,icell])⟩
theorem numbersOf_any(w:World)(v:Value)(A:List Nat)(l:List InM)(h:RW A 4 w v (icl l))(hgl:GL l)(first:Nat)(hf:first < l.length)(hl:l.length≤900000000) :
 Calls Tryz.prog 76 #[v, .int .i64 first] w fun e w'=>∃ g,e=.returned (.slice (some ⟨g,0,none⟩) l.length l.length)∧Frm [] w w'∧w.heap.size≤g∧NB w' g (numsOf l first):=by
 obtain ⟨a,cap,rfl,r⟩:=h.ins;have R:=hide r;have GLH:=hide hgl;have hmk:=run_ints2 l.length (by omega);have hmb:=run_bools l.length (by omega);clear h r hgl;go_enter Tryz.func76,Tryz.ntmps76
 go_wp2_with fail
 go_loopg [7,8] l.length (fun k v7 v8 wr=>∃ (j cnt:Nat) (x:Int) (R:List Bool) (N:List Int),j≤l.length∧k=j∧v8=.int .i64 x∧x=(j:Int)-1∧v7=.int .i64 cnt∧cnt+j≤l.length∧Hid (R.length=l.length)∧Hid (N.length=l.length)∧Hid (numGo l j R N cnt=numsOf l first)∧Frm [] w wr∧Hid (RB wr w.heap.size R)∧Hid (NB wr (w.heap.size+1) N))
 case atStart =>
  refine ⟨l.length,0,_,(List.replicate l.length false).set first true,List.replicate l.length 0,Nat.le_refl _,rfl,rfl,by omega,rfl,by omega,?_,?_,?_,((Frm.refl _ _).alloc _).alloc _,?_,?_⟩
  ·show _=_;simp
  ·show _=_;simp
  ·show _=_;rfl
  ·show RB _ _ _
   unfold RB;rw[((Frm.refl [] _).alloc _).block w.heap.size (by simp) (by simp),heap1];have e:(Array.replicate l.length (Value.bool false)).setIfInBounds first (Value.bool true)=(((List.replicate l.length false).set first true).map fun b=>Value.bool b).toArray:=by
    apply Array.ext';simp[Array.toList_setIfInBounds,List.map_set]
   rw[e]
  ·show NB _ _ _
   unfold NB;rw[heap_b];simp
 case round =>
  obtain ⟨j,cnt,x,Rl,N,hj,rfl,rfl,hx,rfl,hcj,HRL,HNL,HV,hF,HRB,HNB⟩:=hrel;have F:=hide hF;have hzz:=hF.size;rcases gk with _|m
  ·obtain rfl:x=-1:=by omega
   have HV2:Hid (N=numsOf l first):=HV.out;clear hx hF HV;go_wp2;go_ret;exact ⟨_,rfl,F.out,by omega,by rw[← HV2.out];exact HNB.out⟩
  ·obtain rfl:x=(m:Int):=by omega
   clear hx;have hrl:=HRL.out;have hnl:=HNL.out;have hrlt:=HRB.out.lt;have hnlt:=HNB.out.lt;have n0:=HNB.out.cell m (by omega);have nz:=HNB.out.fz;have r0:=HRB.out.cell m (by omega);have rz:=HRB.out.fz;have hmm:decide ((m:Int)<(l.length:Int))=true:=decide_eq_true (by omega);obtain ⟨gl,ol,rfl,hgl,q0,q1,q2,q3⟩:=R.out m (by omega);have t0:=(hF.cell (p:=⟨gl,ol+m*4,none⟩) hgl (by simp)).trans q0;have t1:=(hF.cell (p:=⟨gl,ol+m*4+1,none⟩) hgl (by simp)).trans q1;have t2:=(hF.cell (p:=⟨gl,ol+m*4+2,none⟩) hgl (by simp)).trans q2;have t3:=(hF.cell (p:=⟨gl,ol+m*4+3,none⟩) hgl (by simp)).trans q3;have hgn:gl≠w.heap.size+1:=by omega
   have hgr:gl≠w.heap.size:=by omega
   have hgn':w.heap.size+1≠gl:=by omega
   have hgr':w.heap.size≠gl:=by omega
   have hstep:numGo l (m+1) Rl N cnt=if Rl[m]=true then numGo l m (if l[m].op=0 then Rl else if l[m].op=2 then (Rl.set l[m].a true).set l[m].b true else Rl.set l[m].a true) (N.set m cnt) (cnt+1) else numGo l m Rl (N.set m (-1)) cnt:=by
    rw[numGo,List.getElem?_eq_getElem (by omega)];simp[List.getD,hrl,show m<l.length by omega]
   have hgm:=GLH.out m (by omega);generalize N[m]=nm at *;have FN1:∀ (u:World) (i:Nat) (y:Value),Frm [w.heap.size+1] u (u.setCell ⟨w.heap.size+1,i,none⟩ y):=fun u i y=>(Frm.refl _ _).setCell (p:=⟨w.heap.size+1,i,none⟩) (.inl (by simp)) _
   have FN2:∀ (u:World) (i:Nat) (y:Value),Frm [w.heap.size] u (u.setCell ⟨w.heap.size,i,none⟩ y):=fun u i y=>(Frm.refl _ _).setCell (p:=⟨w.heap.size,i,none⟩) (.inl (by simp)) _
   have HFN1:=hide FN1;have HFN2:=hide FN2;clear FN1 FN2 q0 q1 q2 q3 hF;cases hb:Rl[m]
   ·rw[hb]at r0 hstep
    simp only[Bool.false_eq_true,if_false]at hstep;have HV2:Hid (numGo l m Rl (N.set m (-1)) cnt=numsOf l first):=hstep.symm.trans HV.out;clear hstep HV hgm t0 t1 t2 t3 hb;go_wp2;go_roundg m
    case measure=>omega
    case rel=>exact ⟨m,cnt,_,Rl,N.set m (-1),by omega,rfl,rfl,by omega,rfl,by omega,HRL,by show _=_;simp[hnl],HV2,F.out.over (HFN1.out _ _ _) (by simp),HRB.out.frm (HFN1.out _ _ _) (by simp),HNB.out.set m (-1)⟩
   ·rw[hb]at r0 hstep
    simp only[if_true]at hstep;have hlt:m<l.length:=by omega
    generalize hlm:l[m]=c at *;obtain ⟨op,xn,ia,ib⟩:=c;simp only at t0 t1 t2 t3 hstep hgm;clear hb hlm;have HZ:Hid (∀ u:World,NB u (w.heap.size+1) ((N.set m (-1)).set m cnt)→NB u (w.heap.size+1) (N.set m cnt)):=fun u hu=>by rw[List.set_set]at hu;exact hu
    have HN2:Hid ((N.set m (cnt:Int)).length=l.length):=by show _=_;simp[hnl]
    have HNW:=hide (HZ.out _ ((HNB.out.set m (-1)).set m cnt));have HRW:=hide ((HRB.out.frm (HFN1.out wr m (.int .i64 (-1))) (by simp)).frm (HFN1.out _ m (.int .i64 (cnt:Nat))) (by simp));have FW:=hide ((F.out.over (HFN1.out wr m (.int .i64 (-1))) (by simp)).over (HFN1.out _ m (.int .i64 (cnt:Nat))) (by simp));clear HZ;rcases hgm with rfl|⟨rfl,ha⟩|⟨rfl,ha,hb⟩
    ·have HV2:Hid (numGo l m Rl (N.set m cnt) (cnt+1)=numsOf l first):=hstep.symm.trans HV.out
     clear hstep HV;go_wp2;go_roundg m
     case measure=>omega
     case rel=>exact ⟨m,cnt+1,_,Rl,N.set m cnt,by omega,rfl,rfl,by omega,by go_num,by omega,HRL,HN2,HV2,FW.out.alloc _,HRW.out.frm ((Frm.refl [] _).alloc _) (by simp),HNW.out.frm ((Frm.refl [] _).alloc _) (by simp)⟩
    ·have HV2:Hid (numGo l m (Rl.set ia true) (N.set m cnt) (cnt+1)=numsOf l first):=hstep.symm.trans HV.out
     have ra:=HRB.out.cell ia (by omega);have hda:decide ((ia:Int)<(l.length:Int))=true:=decide_eq_true (by omega);generalize Rl[ia]=rba at *;clear hstep HV;go_wp2;go_roundg m
     case measure=>omega
     case rel=>exact ⟨m,cnt+1,_,Rl.set ia true,N.set m cnt,by omega,rfl,rfl,by omega,by go_num,by omega,by show _=_;simp[hrl],HN2,HV2,(FW.out.over (HFN2.out _ _ _) (by simp)).alloc _,(HRW.out.set ia true).frm ((Frm.refl [] _).alloc _) (by simp),(HNW.out.frm (HFN2.out _ _ _) (by simp)).frm ((Frm.refl [] _).alloc _) (by simp)⟩
    ·have HV2:Hid (numGo l m ((Rl.set ia true).set ib true) (N.set m cnt) (cnt+1)=numsOf l first):=hstep.symm.trans HV.out
     have ra:=HRB.out.cell ia (by omega);have rb:=HRB.out.cell ib (by omega);have hda:decide ((ia:Int)<(l.length:Int))=true:=decide_eq_true (by omega);have hdb:decide ((ib:Int)<(l.length:Int))=true:=decide_eq_true (by omega);generalize Rl[ia]=rba at *;generalize Rl[ib]=rbb at *;clear hstep HV
     by_cases hab:ia=ib
     ·subst hab
      clear rb hdb hb;go_wp2;go_roundg m
      case measure=>omega
      case rel=>exact ⟨m,cnt+1,_,(Rl.set ia true).set ia true,N.set m cnt,by omega,rfl,rfl,by omega,by go_num,by omega,by show _=_;simp[hrl],HN2,HV2,((FW.out.over (HFN2.out _ _ _) (by simp)).over (HFN2.out _ _ _) (by simp)).alloc _,((HRW.out.set ia true).set ia true).frm ((Frm.refl [] _).alloc _) (by simp),((HNW.out.frm (HFN2.out _ _ _) (by simp)).frm (HFN2.out _ _ _) (by simp)).frm ((Frm.refl [] _).alloc _) (by simp)⟩
     ·have hba:ib≠ia:=fun e=>hab e.symm
      go_wp2;go_roundg m
      case measure=>omega
      case rel=>exact ⟨m,cnt+1,_,(Rl.set ia true).set ib true,N.set m cnt,by omega,rfl,rfl,by omega,by go_num,by omega,by show _=_;simp[hrl],HN2,HV2,((FW.out.over (HFN2.out _ _ _) (by simp)).over (HFN2.out _ _ _) (by simp)).alloc _,((HRW.out.set ia true).set ib true).frm ((Frm.refl [] _).alloc _) (by simp),((HNW.out.frm (HFN2.out _ _ _) (by simp)).frm (HFN2.out _ _ _) (by simp)).frm ((Frm.refl [] _).alloc _) (by simp)⟩
end Go.Proofs.YtpcbbbilmpobaaaGreatDoor
