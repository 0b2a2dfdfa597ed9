import Derived.Test.YtpcbbbilmpobaaaGreatDoorJ32
set_option linter.unusedVariables false
set_option linter.unusedSimpArgs false
set_option linter.unnecessarySimpa false
set_option maxRecDepth 100000
set_option maxHeartbeats 4000000
namespace Go.Proofs.YtpcbbbilmpobaaaGreatDoor
open Go.RowKit
theorem infoPX:(Tryz.prog.info? 184).map (fun i=>(i.zero,i.size,i.bytes))=some (some (.pointer none),1,8):=by kernel_rfl
def LX(base:Nat)(w:World)(v:Value)(ps:List Nat):Prop:=w.ownsRow base 184 1 v ps.length (pv ps)
theorem wp_appX{ops:Array Oper}{rest:List Oper}{o:Oper}{a:Act}{Q:Exit→Act→World→Prop}(w:World)(hgd:o.guard=none)(s x:Operand)
 (ho:o.op=.call { callee:=.builtin .append,args:=#[s,x],argTypes:=#[196,196] })
 (base:Nat) (v:Value) (ps:List Nat) (p b1:Nat) (hs:a.eval s=v) (hown:LX base w v ps) (hx:a.eval x=.slice (some ⟨b1,0,none⟩) 1 1)
 (hc:w.cell? ⟨b1,0,none⟩=some (.pointer (some ⟨p,0,none⟩))) (hlen:ps.length≤1048576) (hbase:base≤w.heap.size)
 (h:∀ g cap w',LX base w' (.slice (some ⟨g,0,none⟩) (ps.length+1) cap) (ps++[p])→w.grownBy w' v.ownBlock→(v.ownBlock=some g∨g=w.heap.size)→g<w'.heap.size→wpList Tryz.prog ops Q rest (a.put o.dst (.slice (some ⟨g,0,none⟩) (ps.length+1) cap)) w') :
 wpList Tryz.prog ops Q (o::rest) a w:=by
 obtain ⟨i0,hi,hz0,hz1,hz2⟩:=info_parts infoPX;refine wpList_append_lies w hgd s x 196 ho base 184 i0 (.pointer none) 1 8 Tryz.underlying196 hi hz0 hz1 hz2 rfl (by decide) v ps.length (pv ps) hs hown ⟨b1,0,none⟩ 1 1 [.pointer (some ⟨p,0,none⟩)] hx rfl ?_ (fun x hx=>by simp at hx;subst hx;rfl) (by decide) (by unfold maxLen;omega) (by omega) hbase w.heap.size rfl ?_
 ·intro j u hj
  have:j=0:=by
   cases j with
   | zero=>rfl
   | succ j=>simp at hj
  subst this;rw[add0];simp at hj;rw[← hj];exact hc
 ·intro g cap w' h1 h2 h3 h4
  exact h g cap w' (by unfold LX pv;simpa[pv] using h1) h2 h3 h4
theorem cell_newX(w:World)(v:Value)(t:TypeId)(n:Nat)(h:w.heap.size=n):(w.alloc (.cells #[v] t)).cell? ⟨n,0,none⟩=some v:=by subst h;simp
theorem seqEnd_B(l:List UInt8):seqEnd l=seqEndB l:=by unfold seqEnd seqEndB;rw[tk_head,tk_head]
theorem pSeq_rep(k nest:Nat)(acc:List RX)(l:List UInt8):pSeq (k+1) nest acc l=if seqEndB l then some (.seq acc,l) else match pRepeated k nest l with | none=>none|some (y,r2)=>pSeq k nest (acc++[y]) r2:=by
 conv=>lhs;unfold pSeq
 unfold pRepeated
 split
 ·rfl
 ·cases pAtom k nest l with
  | none=>rfl
  | some x=>obtain ⟨x,r⟩:=x;rfl
theorem pRepeated_sets{k nest:Nat}{l r:List UInt8}{y:RX}(h:pRepeated k nest l=some (y,r)):(setsOf y).length+r.length≤l.length∧r.length+1≤l.length:=by
 unfold pRepeated at h
 split at h
 ·simp at h
 ·rename_i x r1 h1
  have e1:=pAtom_sets h1;have e2:=pMarks_sets h;rw[e2.1];omega
theorem XN.c5{w:World}{eb:Nat}{k:Int}{v:Value}(h:XN w eb k v):w.cell? ⟨eb,5,none⟩=some v:=by unfold XN at h;simp[World.cell?,h]
theorem XN.fz{w:World}{eb:Nat}{k:Int}{v:Value}(h:XN w eb k v)(o:Nat):w.frozen? ⟨eb,o,none⟩=false:=by unfold XN at h;simp[World.frozen?,h]
theorem XN.lt{w:World}{eb:Nat}{k:Int}{v:Value}(h:XN w eb k v):eb<w.heap.size:=(Array.getElem?_eq_some_iff.1 h).1
theorem XN.set5{w:World}{eb:Nat}{k:Int}{v:Value}(h:XN w eb k v)(v':Value):XN (w.setCell ⟨eb,5,none⟩ v') eb k v':=by
 unfold XN at h ⊢;simp[World.setCell,h,Array.getElem?_modify]
theorem XN.new{w:World}{eb:Nat}{k:Int}(h:eb=w.heap.size):XN (w.alloc (.cells #[.int .i64 k, .int .u64 0, .int .u64 0, .int .u64 0, .int .u64 0, .slice none 0 0, .pointer none, .int .i64 0, .int .i64 0] 198)) eb k (.slice none 0 0):=by
 subst h;exact heap1 w _
theorem XN.frm{S:List Nat}{w w':World}{eb:Nat}{k:Int}{v:Value}(h:XN w eb k v)(f:Frm S w w')(hS:eb∉S):XN w' eb k v:=(f.block eb h.lt hS).trans h
theorem XN.fp{base b:Nat}{w w':World}{eb:Nat}{k:Int}{v:Value}(h:XN w eb k v)(f:FP base b w w')(hb:eb≠b):XN w' eb k v:=by
 refine (f.block eb h.lt hb (.inr ?_)).trans h;intro cur fz e;rw[h]at e;simp at e
theorem LX.fp{base b base':Nat}{w w':World}{v:Value}{ps:List Nat}(h:LX base' w v ps)(f:FP base b w w')(hb:b<base'):LX base' w' v ps:=by
 refine ⟨h.1,?_⟩;rcases h.2 with hn|⟨g,cap,cur,rfl,hg,hgg,rest⟩
 ·exact .inl hn
 ·refine .inr ⟨g,cap,cur,rfl,hg,(f.block g (Array.getElem?_eq_some_iff.1 hgg).1 (by omega) (.inr ?_)).trans hgg,rest⟩
  intro c fz e;rw[hgg]at e;simp at e
structure GX(base b eb:Nat)(kd:Int)(t:List UInt8)(S:List Nat)(w wr:World)(acc:List RX)(l':List UInt8)(v vs':Value)(ps:List Nat):Prop where
 nd:XN wr eb kd v
 row:LX (eb+1) wr v ps
 kids:XRs (fun n=>eb<n∧n<wr.heap.size∧v.ownBlock≠some n) wr ps acc
 pa:PA wr b t l' vs'
 bl:BL base wr vs' (S++setsL acc)
 fp:FP base b w wr
 eb:w.heap.size≤eb
 len:S.length+(setsL acc).length+l'.length≤100
 few:acc.length+l'.length≤101
theorem GX.xv{base b eb:Nat}{kd:Int}{t:List UInt8}{S:List Nat}{w wr:World}{acc:List RX}{l':List UInt8}{v vs':Value}{ps:List Nat}(h:GX base b eb kd t S w wr acc l' v vs' ps) :
 (w.heap.size≤eb∧eb<wr.heap.size)∧XV (fun k=>w.heap.size≤k∧k<wr.heap.size) wr v ps∧XRs (fun k=>w.heap.size≤k∧k<wr.heap.size) wr ps acc:=by
 refine ⟨⟨h.eb,h.nd.lt⟩,⟨own_base h.row (Nat.zero_le _),?_,?_⟩,h.kids.mono ?_⟩
 ·intro k hk;have:=h.row.lt k hk;have:=h.eb;omega
 ·have:=h.kids.len;have:=h.few;omega
 ·intro n hn;have:=h.eb;exact ⟨by omega,hn.2.1⟩
theorem GX.drewN{base b eb:Nat}{kd:Int}{t:List UInt8}{S:List Nat}{w wr:World}{acc:List RX}{l':List UInt8}{v vs':Value}{ps:List Nat}(n:Nat)(h:GX base b eb kd t S w wr acc l' v vs' ps):GX base b eb kd t S w (wr.drewN n) acc l' v vs' ps :=
 ⟨h.nd,h.row,(h.kids.keep (KeepX.frm ((Frm.refl [] wr).drewN n) (fun k hk=>⟨hk.2.1,by simp⟩))),h.pa.drewN n,h.bl,h.fp.drewN n,h.eb,h.len,h.few⟩
theorem GX.took{base b eb:Nat}{kd:Int}{t:List UInt8}{S:List Nat}{w wr w2:World}{acc:List RX}{l' l2:List UInt8}{v vs':Value}{ps:List Nat}(h:GX base b eb kd t S w wr acc l' v vs' ps)(hb:b<base)(hbw:base≤w.heap.size)(f:Frm [b] wr w2)(hp:PA w2 b t l2 vs')(hl:l2.length≤l'.length):GX base b eb kd t S w w2 acc l2 v vs' ps:=by
 have heb:=h.eb;have hz:=f.size;refine ⟨h.nd.frm f (by simp;omega),own_frm h.row f (by simp;omega),?_,hp,h.bl.frm f (by simp;omega),h.fp.frm f,heb,by have:=h.len;omega,by have:=h.few;omega⟩;exact (h.kids.keep (KeepX.frm f (fun n hn=>⟨hn.2.1,by simp;omega⟩))).mono (fun n hn=>⟨hn.1,by omega,hn.2.2⟩)
theorem GX.step{base b eb:Nat}{kd:Int}{t:List UInt8}{S:List Nat}{w wr w3 w5:World}{acc:List RX}{l' r2:List UInt8}{v vs' vs2:Value}{ps:List Nat}{y:RX}{q g cap:Nat}{o:Obj}
 (h:GX base b eb kd t S w wr acc l' v vs' ps) (hb:b<base) (hbw:base≤w.heap.size) (hx:XR (fun n=>wr.heap.size≤n∧n<w3.heap.size) w3 q y) (hpa:PA w3 b t r2 vs2) (hbl:BL base w3 vs2 (S++setsL acc++setsOf y)) (hf:FP base b wr w3)
 (hs:(setsOf y).length+r2.length≤l'.length) (hr:acc.length+1+r2.length≤101)
 (hrow:LX (eb+1) w5 (.slice (some ⟨g,0,none⟩) (ps.length+1) cap) (ps++[q])) (hgr:(w3.alloc o).grownBy w5 v.ownBlock) (hat:v.ownBlock=some g∨g=(w3.alloc o).heap.size) :
 GX base b eb kd t S w (w5.setCell ⟨eb,5,none⟩ (.slice (some ⟨g,0,none⟩) (ps.length+1) cap)) (acc++[y]) r2 (.slice (some ⟨g,0,none⟩) (ps.length+1) cap) vs2 (ps++[q]):=by
 have heb:=h.eb;have hlt:=h.nd.lt;have hz3:=hf.size;have hz5:=hgr.size;have hvb:∀ k,v.ownBlock=some k→eb+1≤k∧k<wr.heap.size:=fun k hk=>h.row.lt k hk
 have hza:(w3.alloc o).heap.size=w3.heap.size+1:=by simp
 rw[hza]at hz5 hat;have F3:=(Frm.refl [] w3).alloc o;have F5:Frm v.ownBlock.toList (w3.alloc o) w5:=Frm.of_grow hgr;have F6:=(Frm.refl [eb] w5).setCell (p:=⟨eb,5,none⟩) (.inl (by simp)) (.slice (some ⟨g,0,none⟩) (ps.length+1) cap);have hz6:(w5.setCell ⟨eb,5,none⟩ (.slice (some ⟨g,0,none⟩) (ps.length+1) cap)).heap.size=w5.heap.size:=by simp
 have hne:∀ k,k∈v.ownBlock.toList→v.ownBlock=some k:=fun k hk=>by rw[Option.mem_toList]at hk;exact hk
 have n1:eb∉v.ownBlock.toList:=fun hm=>by have:=hvb _ (hne _ hm);omega
 have n2:b∉v.ownBlock.toList:=fun hm=>by have:=hvb _ (hne _ hm);omega
 have keep:∀ (A:Nat→Prop),(∀ k,A k→k<w3.heap.size∧eb<k∧v.ownBlock≠some k)→KeepX A w3 (w5.setCell ⟨eb,5,none⟩ (.slice (some ⟨g,0,none⟩) (ps.length+1) cap)):=by
  intro A hA k hk _;obtain ⟨a1,a2,a3⟩:=hA k hk;rw[F6.block k (by omega) (by simp;omega),F5.block k (by rw[hza];omega) (fun hm=>a3 (hne _ hm)),F3.block k a1 (by simp)]
 have vown:Value.ownBlock (.slice (some ⟨g,0,none⟩) (ps.length+1) cap)=some g:=rfl;refine ⟨?_,?_,?_,?_,?_,?_,heb,?_,?_⟩
 ·exact XN.set5 (((h.nd.fp hf (by omega)).frm F3 (by simp)).frm F5 n1) _
 ·have:=ownsRow_setCell_below hrow (a:=⟨eb,5,none⟩) (by simp) (.slice (some ⟨g,0,none⟩) (ps.length+1) cap)
  exact this
 ·refine XRs.snoc ?_ ?_
  ·have k1:=h.kids.keep (KeepX.fp hf (fun n hn=>⟨hn.2.1,by omega⟩))
   refine (k1.keep (keep _ (fun n hn=>⟨by omega,hn.1,hn.2.2⟩))).mono ?_;intro n hn;refine ⟨hn.1,by rw[hz6];omega,?_⟩;rw[vown];intro e;simp only[Option.some.injEq]at e;subst e;rcases hat with e|e
   ·exact hn.2.2 e
   ·omega
  ·refine (hx.keep (keep _ (fun n hn=>⟨hn.2,by omega,fun e=>by have:=hvb _ e;omega⟩))).mono ?_
   intro n hn;refine ⟨by omega,by rw[hz6];omega,?_⟩;rw[vown];intro e;simp only[Option.some.injEq]at e;subst e;rcases hat with e|e
   ·have:=hvb _ e;omega
   ·omega
 ·exact ((hpa.frm F3 (by simp)).frm F5 n2).frm F6 (by simp;omega)
 ·have b1:BL base w3 vs2 (S++setsL (acc++[y])):=by
   rw[setsL_app,setsL_one,← List.append_assoc];exact hbl
  refine own_frmT (own_frmT (b1.frm F3 (by simp)) F5 ?_) F6 ?_
  ·intro k hk
   have h1:=hne k hk;obtain ⟨cur,fz,e⟩:=own_block (h.row.fp hf (by omega)) k h1;refine .inr ⟨cur,184,fz,?_,by decide⟩;rw[F3.block k (by have:=hvb _ h1;omega) (by simp)];exact e
  ·intro k hk
   simp at hk;subst hk;have:=((h.nd.fp hf (by omega)).frm F3 (by simp)).frm F5 n1;exact .inr ⟨_,198,_,this,by decide⟩
 ·refine FP.fresh ?_ F6 heb
  have f1:=(h.fp.trans hf).frm (F3.mono (by simp));refine ⟨hgr.os.trans f1.os,hgr.tape.trans f1.tape,hgr.output.trans f1.output,Nat.le_trans f1.size F5.size,?_⟩;intro k hk hkb hc;rw[F5.block k (by have:=f1.size;omega) (fun hm=>by have:=hvb _ (hne _ hm);omega)];exact f1.block k hk hkb hc
 ·rw[setsL_app,setsL_one,List.length_append];have:=h.len;omega
 ·simp;omega
theorem takeSequence_any{K:Nat}(hA:∀ k,k<K→RepC k):SeqC K:=by
 intro base b nest t l vs S w h hs hb hz hS hn hk;have H:=hide h;have HS:=hide hs;have hbl:b<w.heap.size:=by omega
 have HA:=hide hA;clear h hs hA;go_enter Tryz.func124,Tryz.ntmps124
 go_wp2_with fail
 go_loopg [] K (fun k wr=>∃ (acc:List RX) (l':List UInt8) (v vs':Value) (ps:List Nat),GX base b w.heap.size 1 t S w wr acc l' v vs' ps∧4*l'.length+3≤k∧k≤K∧pSeq k nest acc l'=pSeq K nest [] l)
 case atStart =>
  have hfa:=(Frm.refl [] w).alloc (.cells #[.int .i64 1, .int .u64 0, .int .u64 0, .int .u64 0, .int .u64 0, .slice none 0 0, .pointer none, .int .i64 0, .int .i64 0] 198);refine ⟨[],l, .slice none 0 0,vs,[],⟨XN.new rfl,World.ownsRow_nil _ _ _ _,?_,H.out.frm hfa (by simp),?_,(FP.refl _ _ _).alloc _,Nat.le_refl _,?_,?_⟩,hk,Nat.le_refl _,rfl⟩
  ·simp only[XRs]
  ·simpa[setsL] using HS.out.frm hfa (by simp)
  ·simpa[setsL] using hS
  ·simp;omega
 case round =>
  clear H HS;obtain ⟨acc,l',v,vs',ps,hg,hk1,hk2,hps⟩:=hrel;obtain ⟨k2,rfl⟩:∃ k2,gk=k2+1:=⟨gk-1,by omega⟩;have Hps:Hid (pSeq K nest [] l=if seqEndB l' then some (.seq acc,l') else match pRepeated k2 nest l' with | none=>none|some (y,r2)=>pSeq k2 nest (acc++[y]) r2):=by
   show _=_;rw[← hps,pSeq_rep]
  have G:=hide hg;clear hg hps;go_wp2_with fail
  refine (atSequenceEnd_any b t l' vs' wr G.out.pa).mono ?_;rintro e w2 ⟨rfl,n2,rfl⟩;rw[seqEnd_B];cases hse:seqEndB l'
  case true =>
   have Hr:Hid (pSeq K nest [] l=some (.seq acc,l')):=by show _=_;rw[Hps.out,hse];rfl
   go_wp2;go_ret;rw[Hr.out];have G2:=G.out.drewN n2;refine ⟨w.heap.size,vs',rfl,?_,G2.pa,G2.bl,G2.fp⟩;have:=G2.xv;simp only[XR];exact ⟨this.1,v,ps,G2.nd,this.2.1,this.2.2⟩
  case false =>
   have Hr:Hid (pSeq K nest [] l=match pRepeated k2 nest l' with | none=>none|some (y,r2)=>pSeq k2 nest (acc++[y]) r2):=by show _=_;rw[Hps.out,hse];rfl
   have G2:=hide (G.out.drewN n2);clear G;have hzr:=G2.out.fp.size;have R:=hide (HA.out k2 (by omega) base b nest t l' vs' (S++setsL acc) (wr.drewN n2) G2.out.pa G2.out.bl hb (by omega) (by rw[List.length_append];exact G2.out.len) hn (by omega));generalize wr.drewN n2=w2 at *;go_wp2_with fail
   refine (R.out).mono ?_;intro e w3 hx;cases hp:pRepeated k2 nest l' with
   | none =>
     rw[hp]at hx Hr;obtain ⟨rfl,⟨l3,vs3,hpa⟩,hf⟩:=hx;have P3:=hide hpa;have F3:=hide (G2.out.fp.trans hf);clear hpa hf;obtain ⟨q0,hq0⟩:∃ q0:Option Addr,q0=none:=⟨_,rfl⟩;rw[← hq0];go_wp2;go_ret;rw[Hr.out];exact ⟨by first | rfl|(subst hq0;rfl),⟨_,_,P3.out⟩,F3.out⟩
   | some yr =>
     obtain ⟨y,r2⟩:=yr;have hsl:=pRepeated_sets hp;rw[hp]at hx Hr;obtain ⟨q,vs3,rfl,hxr,hpa,hbl3,hf⟩:=hx;have hnd:=G2.out.nd.fp hf (by omega);have c5:=hnd.c5;have z5:=hnd.fz 5;have hlt3:=hnd.lt;have hrow:=G2.out.row.fp hf (by omega);obtain ⟨a,cap,rfl⟩:=own_shape hrow;have X3:=hide hxr;have P3:=hide hpa;have B3:=hide hbl3;have F3:=hide hf;have L3:=hide hrow;have hz3:=hf.size;have hfew:=G2.out.few;have hpl:ps.length≤101:=by have:=G2.out.kids.len;omega
     have hsl2:acc.length+1+r2.length≤101:=by omega
     have ae:Value.ownBlock (.slice a ps.length cap)≠some w.heap.size:=fun e=>by have:=hrow.lt _ e;omega
     have gc:∀ o:Obj,(w3.alloc o).cell? ⟨w.heap.size,5,none⟩=some (.slice a ps.length cap):=fun o=>(((Frm.refl [] w3).alloc o).cell (p:=⟨w.heap.size,5,none⟩) hlt3 (by simp)).trans c5
     have gf:∀ o:Obj,(w3.alloc o).frozen? ⟨w.heap.size,5,none⟩=false:=fun o=>(((Frm.refl [] w3).alloc o).frozen (p:=⟨w.heap.size,5,none⟩) hlt3 (by simp)).trans z5
     clear hxr hpa hbl3 hf hrow hnd;go_wp2_with (first | (at_builtin;refine wp_appX _ rfl _ _ rfl (w.heap.size+1) (.slice a ps.length cap) ps q w3.heap.size rfl (L3.out.alloc _) rfl (cell_newX _ _ _ _ rfl) (by omega) (by simp;omega) ?_;intro gg cap2 w5 hown hgrow hat hgl;have c6:=(hgrow.cell_far ⟨w.heap.size,5,none⟩ (by simp;omega) (Ne.symm ae)).trans (gc _);have z6:=(hgrow.frozen_far ⟨w.heap.size,5,none⟩ (by simp;omega) (Ne.symm ae)).trans (gf _);have G5:=hide (G2.out.step hb hz X3.out P3.out B3.out F3.out hsl.1 hsl2 hown hgrow hat);clear hown hgrow hat hgl))
     go_roundg k2
     case measure=>omega
     case rel=>exact ⟨_,_,_,_,_,G5.out,by omega,by omega,Hr.out.symm⟩
def pPend(k nest:Nat)(acc:List RX)(l:List UInt8):Option (RX × List UInt8) :=
 if acc.isEmpty then pAlt k nest [] l else if headIs 124 l then pAlt k nest acc l.tail else some (.alt acc,l)
theorem pAlt_pend(k nest:Nat)(acc:List RX)(l:List UInt8):pAlt (k+1) nest acc l=match pSeq k nest [] l with | none=>none|some (x,r)=>pPend k nest (acc++[x]) r:=by
 conv=>lhs;unfold pAlt
 cases pSeq k nest [] l with
 | none=>rfl
 | some x =>
   obtain ⟨x,r⟩:=x;have:(acc++[x]).isEmpty=false:=by cases acc<;>rfl
   simp only[pPend,this]
   rfl
/-- The part of a round that reads one more. -/
theorem takeChoice_any{K:Nat}(hA:∀ k,k<K→SeqC k):AltC K:=by
 intro base b nest t l vs S w h hs hb hz hS hn hk;have H:=hide h;have HS:=hide hs;have hbl:b<w.heap.size:=by omega
 have HA:=hide hA;clear h hs hA;go_enter Tryz.func111,Tryz.ntmps111
 go_wp2_with fail
 go_loopg [] K (fun k wr=>∃ (acc:List RX) (l':List UInt8) (v vs':Value) (ps:List Nat),GX base b w.heap.size 2 t S w wr acc l' v vs' ps∧(acc=[]→4*l'.length+4≤k)∧4*l'.length≤k∧k≤K∧pPend k nest acc l'=pAlt K nest [] l)
 case atStart =>
  have hfa:=(Frm.refl [] w).alloc (.cells #[.int .i64 2, .int .u64 0, .int .u64 0, .int .u64 0, .int .u64 0, .slice none 0 0, .pointer none, .int .i64 0, .int .i64 0] 198);refine ⟨[],l, .slice none 0 0,vs,[],⟨XN.new rfl,World.ownsRow_nil _ _ _ _,?_,H.out.frm hfa (by simp),?_,(FP.refl _ _ _).alloc _,Nat.le_refl _,?_,?_⟩,fun _=>hk,by omega,Nat.le_refl _,rfl⟩
  ·simp only[XRs]
  ·simpa[setsL] using HS.out.frm hfa (by simp)
  ·simpa[setsL] using hS
  ·simp;omega
 case round =>
  clear H HS;obtain ⟨acc,l',v,vs',ps,hg,hk1,hk2,hk3,hps⟩:=hrel;have hrow:=hg.row;obtain ⟨a,cap,rfl⟩:=own_shape hrow;have c5:=hg.nd.c5;have hpl:=hg.kids.len;have hfew:=hg.few
  -- what follows once a sequence is to be read
  cases acc with
  | nil =>
    have hp0:ps.length=0:=by simpa using hpl
    have hb0:((ps.length:Int)==0)=true:=by rw[hp0];rfl
    have hk4:=hk1 rfl;obtain ⟨k2,rfl⟩:∃ k2,gk=k2+1:=⟨gk-1,by omega⟩;have Hps:Hid (pAlt K nest [] l=match pSeq k2 nest [] l' with | none=>none|some (x,r)=>pPend k2 nest ([]++[x]) r):=by
     show _=_;rw[← hps];unfold pPend;simp only[List.isEmpty_nil,if_true];exact pAlt_pend k2 nest [] l'
    have G:=hide hg;have hzr:=hg.fp.size;have hlen:=hg.len;simp only[setsL,List.length_nil]at hlen;have hl100:l'.length≤100:=by omega
    have Q:=hide (HA.out k2 (by omega) base b nest t l' vs' (S++setsL []) wr hg.pa hg.bl hb (by omega) (by simp[setsL];omega) hn (by omega));clear hg hps hrow hpl hp0 hlen;go_wp2_with fail
    refine (Q.out).mono ?_;intro e w3 hx;cases hp:pSeq k2 nest [] l' with
    | none =>
      rw[hp]at hx Hps;obtain ⟨rfl,⟨l3,vs3,hpa⟩,hf⟩:=hx;have P3:=hide hpa;have F3:=hide (G.out.fp.trans hf);clear hpa hf;obtain ⟨q0,hq0⟩:∃ q0:Option Addr,q0=none:=⟨_,rfl⟩;rw[← hq0];go_wp2;go_ret;rw[Hps.out];exact ⟨by first | rfl|(subst hq0;rfl),⟨_,_,P3.out⟩,F3.out⟩
    | some yr =>
      obtain ⟨y,r2⟩:=yr;have hsl:=pSeq_sets hp;simp only[setsL,List.length_nil,Nat.zero_add]at hsl;rw[hp]at hx Hps;obtain ⟨q,vs3,rfl,hxr,hpa,hbl3,hf⟩:=hx;have hnd:=G.out.nd.fp hf (by omega);have c5:=hnd.c5;have z5:=hnd.fz 5;have hlt3:=hnd.lt;have hrow:=G.out.row.fp hf (by omega);have X3:=hide hxr;have P3:=hide hpa;have B3:=hide hbl3;have F3:=hide hf;have L3:=hide hrow;have hz3:=hf.size;have hpl:ps.length≤101:=by have:=G.out.kids.len;have:=G.out.few;omega
      have hsl2:(([]:List RX)).length+1+r2.length≤101:=by simp;omega
      have ae:Value.ownBlock (.slice a ps.length cap)≠some w.heap.size:=fun e=>by have:=hrow.lt _ e;omega
      have gc:∀ o:Obj,(w3.alloc o).cell? ⟨w.heap.size,5,none⟩=some (.slice a ps.length cap):=fun o=>(((Frm.refl [] w3).alloc o).cell (p:=⟨w.heap.size,5,none⟩) hlt3 (by simp)).trans c5
      have gf:∀ o:Obj,(w3.alloc o).frozen? ⟨w.heap.size,5,none⟩=false:=fun o=>(((Frm.refl [] w3).alloc o).frozen (p:=⟨w.heap.size,5,none⟩) hlt3 (by simp)).trans z5
      clear hxr hpa hbl3 hf hrow hnd;go_wp2_with (first | (at_builtin;refine wp_appX _ rfl _ _ rfl (w.heap.size+1) (.slice a ps.length cap) ps q w3.heap.size rfl (L3.out.alloc _) rfl (cell_newX _ _ _ _ rfl) (by omega) (by simp;omega) ?_;intro gg cap2 w5 hown hgrow hat hgl;have c6:=(hgrow.cell_far ⟨w.heap.size,5,none⟩ (by simp;omega) (Ne.symm ae)).trans (gc _);have z6:=(hgrow.frozen_far ⟨w.heap.size,5,none⟩ (by simp;omega) (Ne.symm ae)).trans (gf _);have G5:=hide (G.out.step hb hz X3.out P3.out B3.out F3.out hsl.1 hsl2 hown hgrow hat);clear hown hgrow hat hgl))
      go_roundg k2
      case measure=>omega
      case rel=>exact ⟨_,_,_,_,_,G5.out,fun e=>by simp at e,by omega,by omega,Hps.out.symm⟩
  | cons x0 acc0 =>
    have hne:¬ ps.length=0:=by rw[hpl];simp
    have hb0:((ps.length:Int)==0)=false:=beq_eq_false_iff_ne.2 (by omega);generalize hacc:x0::acc0=acc at *;have hae:acc.isEmpty=false:=by rw[← hacc];rfl
    have Hps0:Hid (pAlt K nest [] l=if headIs 124 l' then pAlt gk nest acc l'.tail else some (.alt acc,l')):=by
     show _=_;rw[← hps];unfold pPend;rw[hae];rfl
    have G0:=hide hg;clear hg hps hrow hk1 hpl hacc;go_wp2_with fail
    refine (xtake_any b t l' vs' 124 wr G0.out.pa).mono ?_;rintro e w2 ⟨rfl,hp2,hf2⟩;cases k2:tk 124 l'
    case false =>
     rw[rs_false k2]at hp2;have G2:=hide (G0.out.took hb hz hf2 hp2 (Nat.le_refl _));rw[tk_head]at k2;have Hr:Hid (pAlt K nest [] l=some (.alt acc,l')):=by show _=_;rw[Hps0.out,k2];rfl
     clear hp2 hf2;go_wp2;go_ret;rw[Hr.out];refine ⟨w.heap.size,vs',rfl,?_,G2.out.pa,G2.out.bl,G2.out.fp⟩;have:=G2.out.xv;simp only[XR];exact ⟨this.1,_,ps,G2.out.nd,this.2.1,this.2.2⟩
    case true =>
     rw[rs_true k2]at hp2;have htl:=headIs_len (by rw[← tk_head];exact k2);have G:=hide (G0.out.took hb hz hf2 hp2 (by omega));rw[tk_head]at k2;have hfew2:acc.length+1+l'.tail.length≤101:=by omega
     obtain ⟨k3,rfl⟩:∃ k3,gk=k3+1:=⟨gk-1,by omega⟩;have Hps:Hid (pAlt K nest [] l=match pSeq k3 nest [] l'.tail with | none=>none|some (x,r)=>pPend k3 nest (acc++[x]) r):=by
      show _=_;rw[Hps0.out,k2];exact pAlt_pend k3 nest acc l'.tail
     have hzr:=G.out.fp.size;have hlen:=G.out.len;have Q:=hide (HA.out k3 (by omega) base b nest t l'.tail vs' (S++setsL acc) w2 G.out.pa G.out.bl hb (by omega) (by rw[List.length_append];exact hlen) hn (by omega));clear hp2 hf2 G0 Hps0 hlen c5;go_wp2_with fail
     refine (Q.out).mono ?_;intro e w3 hx;cases hp:pSeq k3 nest [] l'.tail with
     | none =>
       rw[hp]at hx Hps;obtain ⟨rfl,⟨l3,vs3,hpa⟩,hf⟩:=hx;have P3:=hide hpa;have F3:=hide (G.out.fp.trans hf);clear hpa hf;obtain ⟨q0,hq0⟩:∃ q0:Option Addr,q0=none:=⟨_,rfl⟩;rw[← hq0];go_wp2;go_ret;rw[Hps.out];exact ⟨by first | rfl|(subst hq0;rfl),⟨_,_,P3.out⟩,F3.out⟩
     | some yr =>
       obtain ⟨y,r2⟩:=yr;have hsl:=pSeq_sets hp;simp only[setsL,List.length_nil,Nat.zero_add]at hsl;rw[hp]at hx Hps;obtain ⟨q,vs3,rfl,hxr,hpa,hbl3,hf⟩:=hx;have hnd:=G.out.nd.fp hf (by omega);have c5:=hnd.c5;have z5:=hnd.fz 5;have hlt3:=hnd.lt;have hrow:=G.out.row.fp hf (by omega);have X3:=hide hxr;have P3:=hide hpa;have B3:=hide hbl3;have F3:=hide hf;have L3:=hide hrow;have hz3:=hf.size;have hpl:ps.length≤101:=by have:=G.out.kids.len;have:=G.out.few;omega
       have hsl2:(acc).length+1+r2.length≤101:=by omega
       have ae:Value.ownBlock (.slice a ps.length cap)≠some w.heap.size:=fun e=>by have:=hrow.lt _ e;omega
       have gc:∀ o:Obj,(w3.alloc o).cell? ⟨w.heap.size,5,none⟩=some (.slice a ps.length cap):=fun o=>(((Frm.refl [] w3).alloc o).cell (p:=⟨w.heap.size,5,none⟩) hlt3 (by simp)).trans c5
       have gf:∀ o:Obj,(w3.alloc o).frozen? ⟨w.heap.size,5,none⟩=false:=fun o=>(((Frm.refl [] w3).alloc o).frozen (p:=⟨w.heap.size,5,none⟩) hlt3 (by simp)).trans z5
       clear hxr hpa hbl3 hf hrow hnd;go_wp2_with (first | (at_builtin;refine wp_appX _ rfl _ _ rfl (w.heap.size+1) (.slice a ps.length cap) ps q w3.heap.size rfl (L3.out.alloc _) rfl (cell_newX _ _ _ _ rfl) (by omega) (by simp;omega) ?_;intro gg cap2 w5 hown hgrow hat hgl;have c6:=(hgrow.cell_far ⟨w.heap.size,5,none⟩ (by simp;omega) (Ne.symm ae)).trans (gc _);have z6:=(hgrow.frozen_far ⟨w.heap.size,5,none⟩ (by simp;omega) (Ne.symm ae)).trans (gf _);have G5:=hide (G.out.step hb hz X3.out P3.out B3.out F3.out hsl.1 hsl2 hown hgrow hat);clear hown hgrow hat hgl))
       go_roundg k3
       case measure=>omega
       case rel=>exact ⟨_,_,_,_,_,G5.out,fun e=>by simp at e,by omega,by omega,Hps.out.symm⟩
theorem parser_all:∀ K,AltC K∧SeqC K∧(∀ k,k+1=K→AtomC K):=by
 intro K
 induction K using Nat.strongRecOn with
 | _ K ih =>
   have hatom:∀ k,k<K→AtomC k:=by
    intro k hk;cases k with
    | zero =>
      intro base b nest t l vs S w _ _ _ _ _ _ h0;omega
    | succ k=>exact takeAtom_any (ih k (by omega)).1
   have hseq:SeqC K:=takeSequence_any (fun k hk=>takeRepeated_any (hatom k hk));refine ⟨takeChoice_any (fun k hk=>(ih k hk).2.1),hseq,?_⟩;rintro k rfl;exact takeAtom_any (ih k (by omega)).1
set_option linter.unusedVariables false
set_option linter.unusedSimpArgs false
mutual
/-- Places,as they are counted: once there are too many they are not multiplied. -/
def plcG:RX→Nat
 | .one _=>1
 | .seq l=>plcGL l
 | .alt l=>plcGL l
 | .rep x lo hi=>if 40<plcG x then plcG x else plcG x*times lo hi
def plcGL:List RX→Nat
 | []=>0
 | x::r=>plcG x+plcGL r
end
mutual
def digx:RX→Prop
 | .one _=>True
 | .seq l=>digL l
 | .alt l=>digL l
 | .rep x lo hi=>digx x∧lo≤9∧(∀ n,hi=some n→n≤9)
def digL:List RX→Prop
 | []=>True
 | x::r=>digx x∧digL r
end
theorem digL_app:∀ {a b:List RX},digL (a++b)↔digL a∧digL b
 | [],b=>by simp[digL]
 | x::a,b=>by simp[digL,digL_app (a:=a),and_assoc]
theorem times_le{lo:Nat}{hi:Option Nat}(h1:lo≤9)(h2:∀ n,hi=some n→n≤9):times lo hi≤10:=by
 cases hi with
 | none=>simp[times];omega
 | some n=>have:=h2 n rfl;simp[times];omega
mutual
theorem plcG_le:∀ {e:RX},digx e→plcG e≤400*tlx e
 | .one _,_=>by simp[plcG,tlx]
 | .seq l,h=>plcGL_le (show digL l from h)
 | .alt l,h=>by
   have:=plcGL_le (show digL l from h);simp only[plcG,tlx];omega
 | .rep x lo hi,h=>by
   have h1:=plcG_le (show digx x from h.1);have h2:=times_le h.2.1 h.2.2;have h3:=opLen_pos lo hi;simp only[plcG,tlx]
   split
   ·omega
   ·have:plcG x*times lo hi≤40*10:=Nat.mul_le_mul (by omega) h2
    omega
theorem plcGL_le:∀ {l:List RX},digL l→plcGL l≤400*tlxL l
 | [],_=>by simp[plcGL]
 | x::r,h=>by
   have h1:=plcG_le h.1;have h2:=plcGL_le h.2;simp only[plcGL,tlxL];omega
end
mutual
theorem plcG_few:∀ {e:RX},plcG e≤40→plc e=plcG e
 | .one _,_=>rfl
 | .seq l,h=>plcGL_few (show plcGL l≤40 from h)
 | .alt l,h=>plcGL_few (show plcGL l≤40 from h)
 | .rep x lo hi,h=>by
   simp only[plcG]at h ⊢
   by_cases h40:40<plcG x
   ·rw[if_pos h40]at h;omega
   ·rw[if_neg h40]
    simp only[plc];rw[plcG_few (e:=x) (by omega)]
theorem plcGL_few:∀ {l:List RX},plcGL l≤40→plcL l=plcGL l
 | [],_=>rfl
 | x::r,h=>by
   simp only[plcGL]at h;simp only[plcL,plcGL];rw[plcG_few (e:=x) (by omega),plcGL_few (l:=r) (by omega)]
end
theorem pCounts_dig{t r:List UInt8}{lo:Nat}{hi:Option Nat}(h:pCounts t=some ((lo,hi),r)):lo≤9∧(∀ n,hi=some n→n≤9):=by
 unfold pCounts at h
 split at h
 ·simp at h
 ·rename_i lo' r' hd
  have h1:=pDigit_len hd
  split at h
  ·split at h
   ·rename_i n r2 hd2
    have h3:=pDigit_len hd2
    split at h
    ·simp only[Option.some.injEq,Prod.mk.injEq]at h
     obtain ⟨⟨rfl,rfl⟩,rfl⟩:=h;exact ⟨h1.2,by intro m hm;simp at hm;omega⟩
    ·simp at h
   ·split at h
    ·simp only[Option.some.injEq,Prod.mk.injEq]at h
     obtain ⟨⟨rfl,rfl⟩,rfl⟩:=h;exact ⟨h1.2,by intro m hm;simp at hm⟩
    ·simp at h
  ·split at h
   ·simp only[Option.some.injEq,Prod.mk.injEq]at h
    obtain ⟨⟨rfl,rfl⟩,rfl⟩:=h;exact ⟨h1.2,by intro m hm;simp at hm;omega⟩
   ·simp at h
theorem pRep_dig{t r:List UInt8}{b:Nat × Option Nat}(h:pRep t=some (b,r)):b.1≤9∧(∀ n,b.2=some n→n≤9):=by
 cases t with
 | nil=>simp[pRep]at h
 | cons c q =>
   simp only[pRep]at h
   split at h
   ·simp only[Option.some.injEq,Prod.mk.injEq]at h
    obtain ⟨rfl,rfl⟩:=h;exact ⟨by simp,by simp⟩
   ·split at h
    ·simp only[Option.some.injEq,Prod.mk.injEq]at h
     obtain ⟨rfl,rfl⟩:=h;exact ⟨by simp,by simp⟩
    ·split at h
     ·simp only[Option.some.injEq,Prod.mk.injEq]at h
      obtain ⟨rfl,rfl⟩:=h;exact ⟨by simp,by simp⟩
     ·split at h
      ·obtain ⟨lo,hi⟩:=b
       exact pCounts_dig h
      ·simp at h
theorem pMarks_dig:∀ {k:Nat} {x y:RX} {t r:List UInt8},digx x→pMarks k x t=some (y,r)→digx y
 | 0,x,y,t,r,_,h=>by simp[pMarks]at h
 | k+1,x,y,t,r,hx,h=>by
   simp only[pMarks]at h
   split at h
   ·split at h
    ·simp at h
    ·rename_i b r' hb
     have h1:=pRep_dig hb;exact pMarks_dig (k:=k) (show digx (.rep x b.1 b.2) from ⟨hx,h1⟩) h
   ·simp only[Option.some.injEq,Prod.mk.injEq]at h
    obtain ⟨rfl,rfl⟩:=h;exact hx
mutual
theorem pAtom_dig:∀ {k nest:Nat} {t r:List UInt8} {x:RX},pAtom k nest t=some (x,r)→digx x
 | 0,nest,t,r,x,h=>by simp[pAtom]at h
 | k+1,nest,[],r,x,h=>by simp[pAtom]at h
 | k+1,nest,c::q,r,x,h=>by
   simp only[pAtom]at h
   split at h
   ·split at h
    ·simp at h
    ·split at h
     ·simp at h
     ·rename_i x1 r1 h1
      have e:=pAlt_dig (acc:=[]) trivial h1
      split at h
      ·simp at h
       obtain ⟨rfl,rfl⟩:=h;exact e
      ·simp at h
   ·split at h
    ·split at h
     ·simp at h
     ·simp at h
      obtain ⟨rfl,rfl⟩:=h
      trivial
    ·split at h
     ·simp at h
      obtain ⟨rfl,rfl⟩:=h
      trivial
     ·split at h
      ·cases q with
       | nil=>simp at h
       | cons d q2 =>
         simp at h;obtain ⟨rfl,rfl⟩:=h
         trivial
      ·split at h
       ·simp at h
       ·simp at h
        obtain ⟨rfl,rfl⟩:=h
        trivial
theorem pSeq_dig:∀ {k nest:Nat} {acc:List RX} {t r:List UInt8} {x:RX},digL acc→pSeq k nest acc t=some (x,r)→digx x
 | 0,nest,acc,t,r,x,_,h=>by simp[pSeq]at h
 | k+1,nest,acc,t,r,x,ha,h=>by
   simp only[pSeq]at h
   split at h
   ·simp at h
    obtain ⟨rfl,rfl⟩:=h;exact ha
   ·split at h
    ·simp at h
    ·rename_i x1 r1 h1
     have e1:=pAtom_dig h1
     split at h
     ·simp at h
     ·rename_i y r2 h2
      exact pSeq_dig (acc:=acc++[y]) (digL_app.2 ⟨ha,pMarks_dig e1 h2,trivial⟩) h
theorem pAlt_dig:∀ {k nest:Nat} {acc:List RX} {t r:List UInt8} {x:RX},digL acc→pAlt k nest acc t=some (x,r)→digx x
 | 0,nest,acc,t,r,x,_,h=>by simp[pAlt]at h
 | k+1,nest,acc,t,r,x,ha,h=>by
   simp only[pAlt]at h
   split at h
   ·simp at h
   ·rename_i x1 r1 h1
    have e1:=pSeq_dig (acc:=[]) trivial h1
    split at h
    ·exact pAlt_dig (acc:=acc++[x1]) (digL_app.2 ⟨ha,e1,trivial⟩) h
    ·simp at h
     obtain ⟨rfl,rfl⟩:=h;exact digL_app.2 ⟨ha,e1,trivial⟩
end
theorem pWhole_dig{t:List UInt8}{x:RX}(h:pWhole t=some x):digx x:=by
 unfold pWhole at h
 split at h
 ·rename_i y h1
  simp at h;subst h;exact pAlt_dig (acc:=[]) trivial h1
 ·simp at h
end Go.Proofs.YtpcbbbilmpobaaaGreatDoor
