import Derived.Test.YtjkialjoamgbgaaGreatJ37
import Derived.Test.YtjkialjoamgbgaaGreatJ36
set_option linter.unusedVariables false
set_option linter.unusedSimpArgs false
set_option linter.unnecessarySimpa false
set_option maxRecDepth 100000
set_option maxHeartbeats 4000000
namespace Go.Proofs.YtjkialjoamgbgaaGreat
open Go.RowKit
def pPend(k nest:Nat)(acc:List RX)(l:List UInt8):Option (RX × List UInt8) :=
 if acc.isEmpty then pAlt k nest [] l else if headIs 124 l then pAlt k nest acc l.tail else some (.alt acc,l)
theorem pAlt_pend(k nest:Nat)(acc:List RX)(l:List UInt8):pAlt (k+1) nest acc l=match pSeq k nest [] l with | none=>none|some (x,r)=>pPend k nest (acc++[x]) r:=by
 conv=>lhs;unfold pAlt
 cases pSeq k nest [] l with
 | none=>rfl
 | some x =>
   obtain ⟨x,r⟩:=x
   have:(acc++[x]).isEmpty=false:=by cases acc<;>rfl
   simp only[pPend,this]
   rfl
/-- The part of a round that reads one more. -/
theorem takeChoice_any{K:Nat}(hA:∀ k,k<K→SeqC k):AltC K:=by
 intro base b nest t l vs S w h hs hb hz hS hn hk
 have H:=hide h
 have HS:=hide hs
 have hbl:b<w.heap.size:=by omega
 have HA:=hide hA
 clear h hs hA
 go_enter Tryz.func101,Tryz.ntmps101
 go_wp2_with fail
 go_loopg [] K (fun k wr=>∃ (acc:List RX) (l':List UInt8) (v vs':Value) (ps:List Nat),GX base b w.heap.size 2 t S w wr acc l' v vs' ps∧(acc=[]→4*l'.length+4≤k)∧4*l'.length≤k∧k≤K∧pPend k nest acc l'=pAlt K nest [] l)
 case atStart =>
  have hfa:=(Frm.refl [] w).alloc (.cells #[.int .i64 2, .int .u64 0, .int .u64 0, .int .u64 0, .int .u64 0, .slice none 0 0, .pointer none, .int .i64 0, .int .i64 0] 190)
  refine ⟨[],l, .slice none 0 0,vs,[],⟨XN.new rfl,World.ownsRow_nil _ _ _ _,?_,H.out.frm hfa (by simp),?_,(FP.refl _ _ _).alloc _,Nat.le_refl _,?_,?_⟩,fun _=>hk,by omega,Nat.le_refl _,rfl⟩
  ·simp only[XRs]
  ·simpa[setsL] using HS.out.frm hfa (by simp)
  ·simpa[setsL] using hS
  ·simp;omega
 case round =>
  clear H HS
  obtain ⟨acc,l',v,vs',ps,hg,hk1,hk2,hk3,hps⟩:=hrel
  have hrow:=hg.row
  obtain ⟨a,cap,rfl⟩:=own_shape hrow
  have c5:=hg.nd.c5
  have hpl:=hg.kids.len
  have hfew:=hg.few
  -- what follows once a sequence is to be read
  cases acc with
  | nil =>
    have hp0:ps.length=0:=by simpa using hpl
    have hb0:((ps.length:Int)==0)=true:=by rw[hp0];rfl
    have hk4:=hk1 rfl
    obtain ⟨k2,rfl⟩:∃ k2,gk=k2+1:=⟨gk-1,by omega⟩
    have Hps:Hid (pAlt K nest [] l=match pSeq k2 nest [] l' with | none=>none|some (x,r)=>pPend k2 nest ([]++[x]) r):=by
     show _=_;rw[← hps];unfold pPend;simp only[List.isEmpty_nil,if_true];exact pAlt_pend k2 nest [] l'
    have G:=hide hg
    have hzr:=hg.fp.size
    have hlen:=hg.len
    simp only[setsL,List.length_nil]at hlen
    have hl100:l'.length≤100:=by omega
    have Q:=hide (HA.out k2 (by omega) base b nest t l' vs' (S++setsL []) wr hg.pa hg.bl hb (by omega) (by simp[setsL];omega) hn (by omega))
    clear hg hps hrow hpl hp0 hlen
    go_wp2_with fail
    refine (Q.out).mono ?_
    intro e w3 hx
    cases hp:pSeq k2 nest [] l' with
    | none =>
      rw[hp]at hx Hps
      obtain ⟨rfl,⟨l3,vs3,hpa⟩,hf⟩:=hx
      have P3:=hide hpa
      have F3:=hide (G.out.fp.trans hf)
      clear hpa hf
      obtain ⟨q0,hq0⟩:∃ q0:Option Addr,q0=none:=⟨_,rfl⟩
      rw[← hq0]
      go_wp2
      go_ret
      rw[Hps.out]
      exact ⟨by first | rfl|(subst hq0;rfl),⟨_,_,P3.out⟩,F3.out⟩
    | some yr =>
      obtain ⟨y,r2⟩:=yr
      have hsl:=pSeq_sets hp
      simp only[setsL,List.length_nil,Nat.zero_add]at hsl
      rw[hp]at hx Hps
      obtain ⟨q,vs3,rfl,hxr,hpa,hbl3,hf⟩:=hx
      have hnd:=G.out.nd.fp hf (by omega)
      have c5:=hnd.c5
      have z5:=hnd.fz 5
      have hlt3:=hnd.lt
      have hrow:=G.out.row.fp hf (by omega)
      have X3:=hide hxr
      have P3:=hide hpa
      have B3:=hide hbl3
      have F3:=hide hf
      have L3:=hide hrow
      have hz3:=hf.size
      have hpl:ps.length≤101:=by have:=G.out.kids.len;have:=G.out.few;omega
      have hsl2:(([]:List RX)).length+1+r2.length≤101:=by simp;omega
      have ae:Value.ownBlock (.slice a ps.length cap)≠some w.heap.size:=fun e=>by have:=hrow.lt _ e;omega
      have gc:∀ o:Obj,(w3.alloc o).cell? ⟨w.heap.size,5,none⟩=some (.slice a ps.length cap):=fun o=>(((Frm.refl [] w3).alloc o).cell (p:=⟨w.heap.size,5,none⟩) hlt3 (by simp)).trans c5
      have gf:∀ o:Obj,(w3.alloc o).frozen? ⟨w.heap.size,5,none⟩=false:=fun o=>(((Frm.refl [] w3).alloc o).frozen (p:=⟨w.heap.size,5,none⟩) hlt3 (by simp)).trans z5
      clear hxr hpa hbl3 hf hrow hnd
      go_wp2_with (first | (at_builtin;refine wp_appX _ rfl _ _ rfl (w.heap.size+1) (.slice a ps.length cap) ps q w3.heap.size rfl (L3.out.alloc _) rfl (cell_newX _ _ _ _ rfl) (by omega) (by simp;omega) ?_;intro gg cap2 w5 hown hgrow hat hgl;have c6:=(hgrow.cell_far ⟨w.heap.size,5,none⟩ (by simp;omega) (Ne.symm ae)).trans (gc _);have z6:=(hgrow.frozen_far ⟨w.heap.size,5,none⟩ (by simp;omega) (Ne.symm ae)).trans (gf _);have G5:=hide (G.out.step hb hz X3.out P3.out B3.out F3.out hsl.1 hsl2 hown hgrow hat);clear hown hgrow hat hgl))
      go_roundg k2
      case measure=>omega
      case rel=>exact ⟨_,_,_,_,_,G5.out,fun e=>by simp at e,by omega,by omega,Hps.out.symm⟩
  | cons x0 acc0 =>
    have hne:¬ ps.length=0:=by rw[hpl];simp
    have hb0:((ps.length:Int)==0)=false:=beq_eq_false_iff_ne.2 (by omega)
    generalize hacc:x0::acc0=acc at *
    have hae:acc.isEmpty=false:=by rw[← hacc];rfl
    have Hps0:Hid (pAlt K nest [] l=if headIs 124 l' then pAlt gk nest acc l'.tail else some (.alt acc,l')):=by
     show _=_;rw[← hps];unfold pPend;rw[hae];rfl
    have G0:=hide hg
    clear hg hps hrow hk1 hpl hacc
    go_wp2_with fail
    refine (xtake_any b t l' vs' 124 wr G0.out.pa).mono ?_
    rintro e w2 ⟨rfl,hp2,hf2⟩
    cases k2:tk 124 l'
    case false =>
     rw[rs_false k2]at hp2
     have G2:=hide (G0.out.took hb hz hf2 hp2 (Nat.le_refl _))
     rw[tk_head]at k2
     have Hr:Hid (pAlt K nest [] l=some (.alt acc,l')):=by show _=_;rw[Hps0.out,k2];rfl
     clear hp2 hf2
     go_wp2
     go_ret
     rw[Hr.out]
     refine ⟨w.heap.size,vs',rfl,?_,G2.out.pa,G2.out.bl,G2.out.fp⟩
     have:=G2.out.xv
     simp only[XR]
     exact ⟨this.1,_,ps,G2.out.nd,this.2.1,this.2.2⟩
    case true =>
     rw[rs_true k2]at hp2
     have htl:=headIs_len (by rw[← tk_head];exact k2)
     have G:=hide (G0.out.took hb hz hf2 hp2 (by omega))
     rw[tk_head]at k2
     have hfew2:acc.length+1+l'.tail.length≤101:=by omega
     obtain ⟨k3,rfl⟩:∃ k3,gk=k3+1:=⟨gk-1,by omega⟩
     have Hps:Hid (pAlt K nest [] l=match pSeq k3 nest [] l'.tail with | none=>none|some (x,r)=>pPend k3 nest (acc++[x]) r):=by
      show _=_;rw[Hps0.out,k2];exact pAlt_pend k3 nest acc l'.tail
     have hzr:=G.out.fp.size
     have hlen:=G.out.len
     have Q:=hide (HA.out k3 (by omega) base b nest t l'.tail vs' (S++setsL acc) w2 G.out.pa G.out.bl hb (by omega) (by rw[List.length_append];exact hlen) hn (by omega))
     clear hp2 hf2 G0 Hps0 hlen c5
     go_wp2_with fail
     refine (Q.out).mono ?_
     intro e w3 hx
     cases hp:pSeq k3 nest [] l'.tail with
     | none =>
       rw[hp]at hx Hps
       obtain ⟨rfl,⟨l3,vs3,hpa⟩,hf⟩:=hx
       have P3:=hide hpa
       have F3:=hide (G.out.fp.trans hf)
       clear hpa hf
       obtain ⟨q0,hq0⟩:∃ q0:Option Addr,q0=none:=⟨_,rfl⟩
       rw[← hq0]
       go_wp2
       go_ret
       rw[Hps.out]
       exact ⟨by first | rfl|(subst hq0;rfl),⟨_,_,P3.out⟩,F3.out⟩
     | some yr =>
       obtain ⟨y,r2⟩:=yr
       have hsl:=pSeq_sets hp
       simp only[setsL,List.length_nil,Nat.zero_add]at hsl
       rw[hp]at hx Hps
       obtain ⟨q,vs3,rfl,hxr,hpa,hbl3,hf⟩:=hx
       have hnd:=G.out.nd.fp hf (by omega)
       have c5:=hnd.c5
       have z5:=hnd.fz 5
       have hlt3:=hnd.lt
       have hrow:=G.out.row.fp hf (by omega)
       have X3:=hide hxr
       have P3:=hide hpa
       have B3:=hide hbl3
       have F3:=hide hf
       have L3:=hide hrow
       have hz3:=hf.size
       have hpl:ps.length≤101:=by have:=G.out.kids.len;have:=G.out.few;omega
       have hsl2:(acc).length+1+r2.length≤101:=by omega
       have ae:Value.ownBlock (.slice a ps.length cap)≠some w.heap.size:=fun e=>by have:=hrow.lt _ e;omega
       have gc:∀ o:Obj,(w3.alloc o).cell? ⟨w.heap.size,5,none⟩=some (.slice a ps.length cap):=fun o=>(((Frm.refl [] w3).alloc o).cell (p:=⟨w.heap.size,5,none⟩) hlt3 (by simp)).trans c5
       have gf:∀ o:Obj,(w3.alloc o).frozen? ⟨w.heap.size,5,none⟩=false:=fun o=>(((Frm.refl [] w3).alloc o).frozen (p:=⟨w.heap.size,5,none⟩) hlt3 (by simp)).trans z5
       clear hxr hpa hbl3 hf hrow hnd
       go_wp2_with (first | (at_builtin;refine wp_appX _ rfl _ _ rfl (w.heap.size+1) (.slice a ps.length cap) ps q w3.heap.size rfl (L3.out.alloc _) rfl (cell_newX _ _ _ _ rfl) (by omega) (by simp;omega) ?_;intro gg cap2 w5 hown hgrow hat hgl;have c6:=(hgrow.cell_far ⟨w.heap.size,5,none⟩ (by simp;omega) (Ne.symm ae)).trans (gc _);have z6:=(hgrow.frozen_far ⟨w.heap.size,5,none⟩ (by simp;omega) (Ne.symm ae)).trans (gf _);have G5:=hide (G.out.step hb hz X3.out P3.out B3.out F3.out hsl.1 hsl2 hown hgrow hat);clear hown hgrow hat hgl))
       go_roundg k3
       case measure=>omega
       case rel=>exact ⟨_,_,_,_,_,G5.out,fun e=>by simp at e,by omega,by omega,Hps.out.symm⟩
theorem parser_all:∀ K,AltC K∧SeqC K∧(∀ k,k+1=K→AtomC K):=by
 intro K
 induction K using Nat.strongRecOn with
 | _ K ih =>
   have hatom:∀ k,k<K→AtomC k:=by
    intro k hk
    cases k with
    | zero =>
      intro base b nest t l vs S w _ _ _ _ _ _ h0;omega
    | succ k=>exact takeAtom_any (ih k (by omega)).1
   have hseq:SeqC K:=takeSequence_any (fun k hk=>takeRepeated_any (hatom k hk))
   refine ⟨takeChoice_any (fun k hk=>(ih k hk).2.1),hseq,?_⟩
   rintro k rfl
   exact takeAtom_any (ih k (by omega)).1
set_option linter.unusedVariables false
set_option linter.unusedSimpArgs false
mutual
/-- Places,as they are counted: once there are too many they are not multiplied. -/
def plcG:RX→Nat
 | .one _=>1
 | .seq l=>plcGL l
 | .alt l=>plcGL l
 | .rep x lo hi=>if 40<plcG x then plcG x else plcG x*times lo hi
def plcGL:List RX→Nat
 | []=>0
 | x::r=>plcG x+plcGL r
end
mutual
def digx:RX→Prop
 | .one _=>True
 | .seq l=>digL l
 | .alt l=>digL l
 | .rep x lo hi=>digx x∧lo≤9∧(∀ n,hi=some n→n≤9)
def digL:List RX→Prop
 | []=>True
 | x::r=>digx x∧digL r
end
theorem digL_app:∀ {a b:List RX},digL (a++b)↔digL a∧digL b
 | [],b=>by simp[digL]
 | x::a,b=>by simp[digL,digL_app (a:=a),and_assoc]
theorem times_le{lo:Nat}{hi:Option Nat}(h1:lo≤9)(h2:∀ n,hi=some n→n≤9):times lo hi≤10:=by
 cases hi with
 | none=>simp[times];omega
 | some n=>have:=h2 n rfl;simp[times];omega
mutual
theorem plcG_le:∀ {e:RX},digx e→plcG e≤400*tlx e
 | .one _,_=>by simp[plcG,tlx]
 | .seq l,h=>plcGL_le (show digL l from h)
 | .alt l,h=>by
   have:=plcGL_le (show digL l from h)
   simp only[plcG,tlx];omega
 | .rep x lo hi,h=>by
   have h1:=plcG_le (show digx x from h.1)
   have h2:=times_le h.2.1 h.2.2
   have h3:=opLen_pos lo hi
   simp only[plcG,tlx]
   split
   ·omega
   ·have:plcG x*times lo hi≤40*10:=Nat.mul_le_mul (by omega) h2
    omega
theorem plcGL_le:∀ {l:List RX},digL l→plcGL l≤400*tlxL l
 | [],_=>by simp[plcGL]
 | x::r,h=>by
   have h1:=plcG_le h.1
   have h2:=plcGL_le h.2
   simp only[plcGL,tlxL];omega
end
mutual
theorem plcG_few:∀ {e:RX},plcG e≤40→plc e=plcG e
 | .one _,_=>rfl
 | .seq l,h=>plcGL_few (show plcGL l≤40 from h)
 | .alt l,h=>plcGL_few (show plcGL l≤40 from h)
 | .rep x lo hi,h=>by
   simp only[plcG]at h ⊢
   by_cases h40:40<plcG x
   ·rw[if_pos h40]at h;omega
   ·rw[if_neg h40]
    simp only[plc]
    rw[plcG_few (e:=x) (by omega)]
theorem plcGL_few:∀ {l:List RX},plcGL l≤40→plcL l=plcGL l
 | [],_=>rfl
 | x::r,h=>by
   simp only[plcGL]at h
   simp only[plcL,plcGL]
   rw[plcG_few (e:=x) (by omega),plcGL_few (l:=r) (by omega)]
end
theorem pCounts_dig{t r:List UInt8}{lo:Nat}{hi:Option Nat}(h:pCounts t=some ((lo,hi),r)):lo≤9∧(∀ n,hi=some n→n≤9):=by
 unfold pCounts at h
 split at h
 ·simp at h
 ·rename_i lo' r' hd
  have h1:=pDigit_len hd
  split at h
  ·split at h
   ·rename_i n r2 hd2
    have h3:=pDigit_len hd2
    split at h
    ·simp only[Option.some.injEq,Prod.mk.injEq]at h
     obtain ⟨⟨rfl,rfl⟩,rfl⟩:=h
     exact ⟨h1.2,by intro m hm;simp at hm;omega⟩
    ·simp at h
   ·split at h
    ·simp only[Option.some.injEq,Prod.mk.injEq]at h
     obtain ⟨⟨rfl,rfl⟩,rfl⟩:=h
     exact ⟨h1.2,by intro m hm;simp at hm⟩
    ·simp at h
  ·split at h
   ·simp only[Option.some.injEq,Prod.mk.injEq]at h
    obtain ⟨⟨rfl,rfl⟩,rfl⟩:=h
    exact ⟨h1.2,by intro m hm;simp at hm;omega⟩
   ·simp at h
theorem pRep_dig{t r:List UInt8}{b:Nat × Option Nat}(h:pRep t=some (b,r)):b.1≤9∧(∀ n,b.2=some n→n≤9):=by
 cases t with
 | nil=>simp[pRep]at h
 | cons c q =>
   simp only[pRep]at h
   split at h
   ·simp only[Option.some.injEq,Prod.mk.injEq]at h
    obtain ⟨rfl,rfl⟩:=h
    exact ⟨by simp,by simp⟩
   ·split at h
    ·simp only[Option.some.injEq,Prod.mk.injEq]at h
     obtain ⟨rfl,rfl⟩:=h
     exact ⟨by simp,by simp⟩
    ·split at h
     ·simp only[Option.some.injEq,Prod.mk.injEq]at h
      obtain ⟨rfl,rfl⟩:=h
      exact ⟨by simp,by simp⟩
     ·split at h
      ·obtain ⟨lo,hi⟩:=b
       exact pCounts_dig h
      ·simp at h
theorem pMarks_dig:∀ {k:Nat} {x y:RX} {t r:List UInt8},digx x→pMarks k x t=some (y,r)→digx y
 | 0,x,y,t,r,_,h=>by simp[pMarks]at h
 | k+1,x,y,t,r,hx,h=>by
   simp only[pMarks]at h
   split at h
   ·split at h
    ·simp at h
    ·rename_i b r' hb
     have h1:=pRep_dig hb
     exact pMarks_dig (k:=k) (show digx (.rep x b.1 b.2) from ⟨hx,h1⟩) h
   ·simp only[Option.some.injEq,Prod.mk.injEq]at h
    obtain ⟨rfl,rfl⟩:=h
    exact hx
mutual
theorem pAtom_dig:∀ {k nest:Nat} {t r:List UInt8} {x:RX},pAtom k nest t=some (x,r)→digx x
 | 0,nest,t,r,x,h=>by simp[pAtom]at h
 | k+1,nest,[],r,x,h=>by simp[pAtom]at h
 | k+1,nest,c::q,r,x,h=>by
   simp only[pAtom]at h
   split at h
   ·split at h
    ·simp at h
    ·split at h
     ·simp at h
     ·rename_i x1 r1 h1
      have e:=pAlt_dig (acc:=[]) trivial h1
      split at h
      ·simp at h
       obtain ⟨rfl,rfl⟩:=h
       exact e
      ·simp at h
   ·split at h
    ·split at h
     ·simp at h
     ·simp at h
      obtain ⟨rfl,rfl⟩:=h
      trivial
    ·split at h
     ·simp at h
      obtain ⟨rfl,rfl⟩:=h
      trivial
     ·split at h
      ·cases q with
       | nil=>simp at h
       | cons d q2 =>
         simp at h
         obtain ⟨rfl,rfl⟩:=h
         trivial
      ·split at h
       ·simp at h
       ·simp at h
        obtain ⟨rfl,rfl⟩:=h
        trivial
theorem pSeq_dig:∀ {k nest:Nat} {acc:List RX} {t r:List UInt8} {x:RX},digL acc→pSeq k nest acc t=some (x,r)→digx x
 | 0,nest,acc,t,r,x,_,h=>by simp[pSeq]at h
 | k+1,nest,acc,t,r,x,ha,h=>by
   simp only[pSeq]at h
   split at h
   ·simp at h
    obtain ⟨rfl,rfl⟩:=h
    exact ha
   ·split at h
    ·simp at h
    ·rename_i x1 r1 h1
     have e1:=pAtom_dig h1
     split at h
     ·simp at h
     ·rename_i y r2 h2
      exact pSeq_dig (acc:=acc++[y]) (digL_app.2 ⟨ha,pMarks_dig e1 h2,trivial⟩) h
theorem pAlt_dig:∀ {k nest:Nat} {acc:List RX} {t r:List UInt8} {x:RX},digL acc→pAlt k nest acc t=some (x,r)→digx x
 | 0,nest,acc,t,r,x,_,h=>by simp[pAlt]at h
 | k+1,nest,acc,t,r,x,ha,h=>by
   simp only[pAlt]at h
   split at h
   ·simp at h
   ·rename_i x1 r1 h1
    have e1:=pSeq_dig (acc:=[]) trivial h1
    split at h
    ·exact pAlt_dig (acc:=acc++[x1]) (digL_app.2 ⟨ha,e1,trivial⟩) h
    ·simp at h
     obtain ⟨rfl,rfl⟩:=h
     exact digL_app.2 ⟨ha,e1,trivial⟩
end
theorem pWhole_dig{t:List UInt8}{x:RX}(h:pWhole t=some x):digx x:=by
 unfold pWhole at h
 split at h
 ·rename_i y h1
  simp at h;subst h
  exact pAlt_dig (acc:=[]) trivial h1
 ·simp at h
open Go.RowKit
def PlC(x:RX):Prop:=∀ (A:Nat→Prop) (w:World) (p:Nat),XR A w p x→digx x→tlx x≤100 →
 Calls Tryz.prog 95 #[.pointer (some ⟨p,0,none⟩)] w fun e w'=>e=.returned (.int .i64 (plcG x))∧w=w'
theorem XB.c0{w:World}{eb s:Nat}(h:XB w eb s):w.cell? ⟨eb,0,none⟩=some (.int .i64 0):=by unfold XB at h;simp[World.cell?,h]
theorem XN.c0{w:World}{eb:Nat}{k:Int}{v:Value}(h:XN w eb k v):w.cell? ⟨eb,0,none⟩=some (.int .i64 k):=by unfold XN at h;simp[World.cell?,h]
theorem XW.c0{w:World}{eb q:Nat}{lo hi:Int}(h:XW w eb q lo hi):w.cell? ⟨eb,0,none⟩=some (.int .i64 3):=by unfold XW at h;simp[World.cell?,h]
theorem XW.c6{w:World}{eb q:Nat}{lo hi:Int}(h:XW w eb q lo hi):w.cell? ⟨eb,6,none⟩=some (.pointer (some ⟨q,0,none⟩)):=by unfold XW at h;simp[World.cell?,h]
theorem XW.c7{w:World}{eb q:Nat}{lo hi:Int}(h:XW w eb q lo hi):w.cell? ⟨eb,7,none⟩=some (.int .i64 lo):=by unfold XW at h;simp[World.cell?,h]
theorem XW.c8{w:World}{eb q:Nat}{lo hi:Int}(h:XW w eb q lo hi):w.cell? ⟨eb,8,none⟩=some (.int .i64 hi):=by unfold XW at h;simp[World.cell?,h]
theorem XRs.get{A:Nat→Prop}{w:World}:∀ {ps:List Nat} {l:List RX},XRs A w ps l→∀ (j:Nat) (hj:j<l.length),∃ p,ps[j]?=some p∧XR A w p l[j]
 | [],[],_,j,hj=>by simp at hj
 | p::ps,x::l,h,j,hj=>by
   simp only[XRs]at h
   cases j with
   | zero=>exact ⟨p,rfl,h.1⟩
   | succ j =>
     obtain ⟨q,h1,h2⟩:=XRs.get h.2 j (by simpa using hj)
     exact ⟨q,by simpa using h1,by simpa using h2⟩
 | [],_::_,h,_,_=>by simp only[XRs]at h
 | _::_,[],h,_,_=>by simp only[XRs]at h
theorem XV.cell{A:Nat→Prop}{w:World}{ps:List Nat}{g n cap:Nat}(h:XV A w (.slice (some ⟨g,0,none⟩) n cap) ps){j p:Nat}(hj:ps[j]?=some p):w.cell? ⟨g,j,none⟩=some (.pointer (some ⟨p,0,none⟩)):=by
 have h3:=World.ownsRow.cells h.1 (g:=g) rfl j (.pointer (some ⟨p,0,none⟩)) (by simp[pv,hj])
 rw[add0]at h3;exact h3
theorem plcGL_take(l:List RX)(j:Nat)(hj:j<l.length):plcGL (l.take (j+1))=plcGL (l.take j)+plcG l[j]:=by
 have app:∀ (a b:List RX),plcGL (a++b)=plcGL a+plcGL b:=by
  intro a b
  induction a with
  | nil=>simp[plcGL]
  | cons x a ih=>simp only[List.cons_append,plcGL,ih];omega
 rw[List.take_succ_eq_append_getElem hj,app];simp[plcGL]
theorem digL_mem:∀ {l:List RX} {e:RX},digL l→e∈l→digx e
 | x::r,e,h,he=>by
   rcases List.mem_cons.1 he with h1|h1
   ·rw[h1];exact h.1
   ·exact digL_mem h.2 h1
theorem plcGL_le_take(l:List RX)(hd:digL l)(ht:tlxL l≤100)(j:Nat):plcGL (l.take j)≤40000:=by
 have h1:∀ (l:List RX) (j:Nat),plcGL (l.take j)≤plcGL l:=by
  intro l
  induction l with
  | nil=>intro j;simp[plcGL]
  | cons x r ih =>
    intro j
    cases j with
    | zero=>simp[plcGL]
    | succ j=>have:=ih j;simp only[List.take_succ_cons,plcGL];omega
 have h2:=plcGL_le hd
 have h3:=h1 l j
 omega
theorem places_one(s:Nat):PlC (.one s):=by
 intro A w p h hd ht
 simp only[XR]at h
 have c0:=h.2.c0
 go_enter Tryz.func95,Tryz.ntmps95
 go_wp2
 go_ret
 exact ⟨rfl,rfl⟩
theorem places_parts(A:Nat→Prop)(w:World)(p:Nat)(kd:Int)(v:Value)(ps:List Nat)(l:List RX)(hkd:kd=1∨kd=2)(hn:XN w p kd v)(hv:XV A w v ps)(hr:XRs A w ps l)(hd:digL l)(ht:tlxL l≤100)(ih:∀ y∈l,PlC y) :
 Calls Tryz.prog 95 #[.pointer (some ⟨p,0,none⟩)] w fun e w'=>e=.returned (.int .i64 (plcGL l))∧w=w':=by
 obtain ⟨a,cap,rfl⟩:=own_shape hv.1
 have c0:=hn.c0
 have c5:=hn.c5
 have hlen:=hr.len
 have HV:=hide hv
 have HR:=hide hr
 have HD:=hide hd
 have HT:=hide ht
 have HI:=hide ih
 have k0:(kd==0)=false:=beq_eq_false_iff_ne.2 (by omega)
 have k3:(kd==3)=false:=beq_eq_false_iff_ne.2 (by omega)
 have HL:Hid (∀ j,plcGL (l.take j)≤40000):=fun j=>plcGL_le_take l hd ht j
 have hps:ps.length≤1048576:=by have:=hv.2.2;omega
 have Hlen:=hide hlen
 clear hv hr hd ht ih hn hlen hkd
 go_enter Tryz.func95,Tryz.ntmps95
 go_wp2_with fail
 go_loopg [3,21] ps.length (fun k vn vi wr=>∃ (j:Nat),j+k=ps.length∧vi=.int .i64 j∧vn=.int .i64 (plcGL (l.take j))∧wr=w)
 case atStart=>exact ⟨0,by omega,rfl,rfl,rfl⟩
 case round =>
  obtain ⟨j,hj,rfl,rfl,hw⟩:=hrel
  subst hw
  by_cases hlt:j<ps.length
  ·have hjl:j<l.length:=by have:=Hlen.out;omega
   obtain ⟨q,hq,hx⟩:=HR.out.get j hjl
   obtain ⟨g,rfl⟩:∃ g,a=some ⟨g,0,none⟩:=by
    rcases HV.out.1.2 with ⟨e,h⟩|⟨g,c,cur,e,_⟩
    ·simp at e;omega
    ·simp at e;exact ⟨g,e.1⟩
   have hc:=HV.out.cell hq
   have hm:=List.getElem_mem hjl
   have Hs:=hide (plcGL_take l j hjl)
   have hb1:=HL.out j
   have hb2:=HL.out (j+1)
   rw[Hs.out]at hb2
   have htl:tlx l[j]≤100:=by have:=(plcL_mem hm).2;have:=HT.out;omega
   have PR:=hide (HI.out _ hm _ _ _ hx (digL_mem HD.out hm) htl)
   generalize plcG l[j]=m at *
   generalize plcGL (l.take j)=n at *
   clear hx hm htl hq
   go_wp2_with fail
   refine (PR.out).mono ?_
   rintro e w2 ⟨rfl,rfl⟩
   go_wp2
   go_roundg (gk-1)
   case measure=>omega
   case rel=>exact ⟨j+1,by omega,by go_num,by rw[Hs.out];go_num,rfl⟩
  ·have ht:l.take j=l:=List.take_of_length_le (by have:=Hlen.out;omega)
   rw[ht]
   go_wp2
   go_ret
   exact ⟨rfl,rfl⟩
theorem places_rep(x:RX)(lo:Nat)(hi:Option Nat)(ih:PlC x):PlC (.rep x lo hi):=by
 intro A w p h hd ht
 simp only[XR]at h
 obtain ⟨h0,q,h1,h2⟩:=h
 have c0:=h1.c0
 have c6:=h1.c6
 have c7:=h1.c7
 have c8:=h1.c8
 have hop:=opLen_pos lo hi
 simp only[tlx]at ht
 have PR:=hide (ih A w q h2 hd.1 (by omega))
 have hle:=plcG_le hd.1
 have hlo:=hd.2.1
 have hhi:=hd.2.2
 have Hp:Hid (plcG (.rep x lo hi)=if 40<plcG x then plcG x else plcG x*times lo hi):=rfl
 clear h1 h2 hd ih
 have rp:Calls Tryz.prog 102 #[.pointer (some ⟨p,0,none⟩)] w fun e w'=>e=.returned (.int .i64 (plcG (.rep x lo hi)))∧w=w':=by
  generalize plcG x=n at *
  by_cases h40:40<n
  ·have Hp2:Hid (plcG (.rep x lo hi)=n):=by show _=_;rw[Hp.out,if_pos h40]
   go_enter Tryz.func102,Tryz.ntmps102
   go_wp2_with fail
   refine (PR.out).mono ?_
   rintro e w2 ⟨rfl,rfl⟩
   go_wp2
   go_ret
   rw[Hp2.out]
   exact ⟨rfl,rfl⟩
  ·cases hi with
   | none =>
     have Hp2:Hid (plcG (.rep x lo none)=n*(lo+1)):=by show _=_;rw[Hp.out,if_neg h40];rfl
     have hm:n*(lo+1)≤40*10:=Nat.mul_le_mul (by omega) (by omega)
     go_enter Tryz.func102,Tryz.ntmps102
     go_wp2_with fail
     refine (PR.out).mono ?_
     rintro e w2 ⟨rfl,rfl⟩
     simp only[hiZ]at c8
     have hm2:(n:Int)*((lo:Int)+1)=((n*(lo+1):Nat):Int):=by simp
     generalize n*(lo+1)=z at *
     go_wp2
     go_ret
     rw[Hp2.out]
     exact ⟨by first | rfl|(rw[← hm2];rfl),rfl⟩
   | some m =>
     have hm9:=hhi m rfl
     have Hp2:Hid (plcG (.rep x lo (some m))=n*m):=by show _=_;rw[Hp.out,if_neg h40];rfl
     have hm:n*m≤40*9:=Nat.mul_le_mul (by omega) (by omega)
     have hne:((m:Int) == -1)=false:=beq_eq_false_iff_ne.2 (by omega)
     go_enter Tryz.func102,Tryz.ntmps102
     go_wp2_with fail
     refine (PR.out).mono ?_
     rintro e w2 ⟨rfl,rfl⟩
     simp only[hiZ]at c8
     have hm2:(n:Int)*(m:Int)=((n*m:Nat):Int):=by simp
     generalize n*m=z at *
     go_wp2
     go_ret
     rw[Hp2.out]
     exact ⟨by first | rfl|(rw[← hm2];rfl),rfl⟩
 have RP:=hide rp
 clear rp Hp
 go_enter Tryz.func95,Tryz.ntmps95
 go_wp2_with fail
 refine (RP.out).mono ?_
 rintro e w2 ⟨rfl,rfl⟩
 go_wp2
 go_ret
 exact ⟨rfl,rfl⟩
theorem places_seq(l:List RX)(ih:∀ y∈l,PlC y):PlC (.seq l):=by
 intro A w p h hd ht
 simp only[XR]at h
 obtain ⟨h0,v,ps,h1,h2,h3⟩:=h
 exact places_parts A w p 1 v ps l (.inl rfl) h1 h2 h3 hd ht ih
theorem places_alt(l:List RX)(ih:∀ y∈l,PlC y):PlC (.alt l):=by
 intro A w p h hd ht
 simp only[XR]at h
 obtain ⟨h0,v,ps,h1,h2,h3⟩:=h
 simp only[tlx]at ht
 exact places_parts A w p 2 v ps l (.inr rfl) h1 h2 h3 hd (by omega) ih
mutual
theorem places_any:∀ (x:RX),PlC x
 | .one s=>places_one s
 | .seq l=>places_seq l (placesL_any l)
 | .alt l=>places_alt l (placesL_any l)
 | .rep x lo hi=>places_rep x lo hi (places_any x)
theorem placesL_any:∀ (l:List RX),∀ y∈l,PlC y
 | [],y,hy=>by simp at hy
 | x::r,y,hy=>by
   rcases List.mem_cons.1 hy with h|h
   ·rw[h];exact places_any x
   ·exact placesL_any r y h
end
def WP(base b:Nat)(t:List UInt8)(w:World)(p:Option RX)(e:Ending)(w':World):Prop :=
 match p with
 | some x=>∃ (eb:Nat) (vs':Value),e=.returned (.pointer (some ⟨eb,0,none⟩))∧XR (fun k=>w.heap.size≤k∧k<w'.heap.size) w' eb x∧PA w' b t [] vs'∧BL base w' vs' (setsOf x)∧FP base b w w'
 | none=>e=.returned (.pointer none)∧FP base b w w'
theorem parse_any(base b:Nat)(t:List UInt8)(w:World)(h:PA w b t t (.slice none 0 0))(hb:b<base)(hz:base≤w.heap.size)(ht:t.length≤100) :
 Calls Tryz.prog 94 #[.pointer (some ⟨b,0,none⟩)] w fun e w'=>WP base b t w (pWhole t) e w':=by
 have C:=hide ((parser_all (4*t.length+4)).1 base b 0 t t (.slice none 0 0) [] w h (BL.nil _ _) hb hz (by simp;exact ht) (by omega) (Nat.le_refl _))
 have Hw:Hid (pWhole t=match pAlt (4*t.length+4) 0 [] t with | some (x,[])=>some x|_=>none):=rfl
 have hsz:=bs_size t
 clear h
 go_enter Tryz.func94,Tryz.ntmps94
 go_wp2_with fail
 refine (C.out).mono ?_
 intro e w1 hx
 cases hp:pAlt (4*t.length+4) 0 [] t with
 | none =>
   rw[hp]at hx Hw
   obtain ⟨rfl,⟨l',vs',i,hps,hdr⟩,hf⟩:=hx
   have F:=hide hf
   have c0:=hps.c0
   have c1:=hps.c1
   have hi:=hps.2.1
   clear hf hps
   by_cases hlt:i<t.length
   ·have hd1:decide ((i:Int)<(t.length:Int))=true:=decide_eq_true (by omega)
    go_wp2_with fail
    go_quiet (fail)
    go_wp2
    go_ret
    rw[Hw.out]
    exact ⟨rfl,F.out.drewN _⟩
   ·have hd1:decide ((i:Int)<(t.length:Int))=false:=decide_eq_false (by omega)
    go_wp2_with fail
    go_quiet (fail)
    go_wp2
    go_ret
    rw[Hw.out]
    exact ⟨rfl,F.out.drewN _⟩
 | some xr =>
   obtain ⟨x,r⟩:=xr
   rw[hp]at hx Hw
   obtain ⟨eb,vs',rfl,hxr,⟨i,hps,hdr⟩,hbl,hf⟩:=hx
   have F:=hide hf
   have X:=hide hxr
   have B:=hide hbl
   have P:=hide hps
   have D:=hide hdr
   have c0:=hps.c0
   have c1:=hps.c1
   have hi:=hps.2.1
   clear hf hps hxr hbl hdr
   by_cases hlt:i<t.length
   ·have hd1:decide ((i:Int)<(t.length:Int))=true:=decide_eq_true (by omega)
    obtain ⟨_,hr⟩:=(drop_cons D.out).1 hlt
    have Hw2:Hid (pWhole t=none):=by show _=_;rw[Hw.out,hr]
    clear hr
    go_wp2_with fail
    go_quiet (fail)
    go_wp2
    go_ret
    rw[Hw2.out]
    exact ⟨rfl,F.out.drewN _⟩
   ·have hd1:decide ((i:Int)<(t.length:Int))=false:=decide_eq_false (by omega)
    have hr:=(drop_cons D.out).2 hlt
    have Hw2:Hid (pWhole t=some x):=by show _=_;rw[Hw.out,hr]
    clear hr
    go_wp2_with fail
    go_quiet (fail)
    go_wp2
    go_ret
    rw[Hw2.out]
    refine ⟨eb,vs',rfl,?_,⟨i,P.out.drewN _,?_⟩,?_,F.out.drewN _⟩
    ·exact (X.out.keep (KeepX.frm ((Frm.refl [] w1).drewN _) (fun n hn=>⟨hn.2,by simp⟩))).mono (fun n hn=>hn)
    ·exact (drop_cons D.out).2 hlt ▸ D.out
    ·have b2:BL base w1 vs' (setsOf x):=by simpa using B.out
     exact b2
end Go.Proofs.YtjkialjoamgbgaaGreat
