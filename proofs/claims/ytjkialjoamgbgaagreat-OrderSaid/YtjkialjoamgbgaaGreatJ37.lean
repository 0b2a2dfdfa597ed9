import Derived.Test.YtjkialjoamgbgaaGreatJ36
set_option linter.unusedVariables false
set_option linter.unusedSimpArgs false
set_option linter.unnecessarySimpa false
set_option maxRecDepth 100000
set_option maxHeartbeats 4000000
namespace Go.Proofs.YtjkialjoamgbgaaGreat
open Go.RowKit
theorem pAtom_cons(k nest:Nat)(c:UInt8)(r:List UInt8):pAtom (k+1) nest (c::r) =
 if c==40 then pGroup k nest r
 else if c==91 then (pClass r).map (fun x=>(.one x.1,x.2))
 else if c==46 then some (.one fullSet,r)
 else if c==92 then (match r with | []=>none|d::r2=>some (.one (2 ^ d.toNat),r2))
 else if isSpecial c then none
 else some (.one (2 ^ c.toNat),r):=by
 conv=>lhs;unfold pAtom
 simp only[]
 split
 ·rfl
 ·split
  ·cases pClass r with
   | none=>rfl
   | some x=>obtain ⟨s,q⟩:=x;rfl
  ·rfl
theorem addK_one(c:Nat):addK 0 c (c+1-c)=2 ^ c:=by
 rw[show c+1-c=1 by omega];simp[addK]
theorem setOf_xp{base b:Nat}{t l:List UInt8}{S:List Nat}{w:World}{s:Nat}{e:Ending}{w':World}
 (h:∃ (eb:Nat) (vs':Value),e=.returned (.pointer (some ⟨eb,0,none⟩))∧w.heap.size≤eb∧XB w' eb s∧PA w' b t l vs'∧BL base w' vs' (S++[s])∧FP base b w w'):XP base b t S w (some (.one s,l)) e w' :=
 SP.xp (p:=some (s,l)) h
theorem wd_zero:wd 0 0=0∧wd 0 1=0∧wd 0 2=0∧wd 0 3=0:=by decide
theorem XP.ret{base b:Nat}{t:List UInt8}{S:List Nat}{w:World}{p:Option (RX × List UInt8)}{e:Ending}{w':World}(h:XP base b t S w p e w'):∃ q,e=.returned (.pointer q):=by
 cases p with
 | none=>exact ⟨_,h.1⟩
 | some x=>obtain ⟨eb,vs',h1,_⟩:=h;exact ⟨_,h1⟩
theorem others_full(w:World):Calls Tryz.prog 143 #[.agg #[.int .u64 0, .int .u64 0, .int .u64 0, .int .u64 0]] w fun e w'=>e=.returned (bv fullSet)∧Frm [] w w':=by
 have h:=others_any 0 w
 unfold bv at h
 rw[wd_zero.1,wd_zero.2.1,wd_zero.2.2.1,wd_zero.2.2.2]at h
 have e:cmpl 0=fullSet:=by decide
 rw[e]at h
 exact h
theorem takeAtom_any{k:Nat}(hC:AltC k):AtomC (k+1):=by
 intro base b nest t l vs S w h hs hb hz hS hn hk
 have H:=hide h
 have HS:=hide hs
 have hbl:b<w.heap.size:=by omega
 clear h hs
 go_enter Tryz.func128,Tryz.ntmps128
 go_wp2_with fail
 refine (takeAny_any b t l vs w H.out).mono ?_
 rintro e w1 ⟨rfl,hp1,hf1⟩
 have P1:=hide hp1
 have S1:=hide (HS.out.frm hf1 (by simp;omega))
 have F1:=hide (FP.of_frm (base:=base) hf1)
 have z1:=hf1.size
 clear hp1 hf1
 cases l with
 | nil =>
   go_wp2
   go_ret
   exact ⟨rfl,⟨_,_,P1.out⟩,F1.out⟩
 | cons c r =>
   have Hp:=hide (pAtom_cons k nest c r)
   simp only[List.tail_cons]at P1
   simp only[List.length_cons]at hS hk
   rw[hd_cons]
   have e40:=eqb c 40 (by omega)
   have e91:=eqb c 91 (by omega)
   have e46:=eqb c 46 (by omega)
   have e92:=eqb c 92 (by omega)
   have e41:=eqb c 41 (by omega)
   have e124:=eqb c 124 (by omega)
   have e42:=eqb c 42 (by omega)
   have e43:=eqb c 43 (by omega)
   have e63:=eqb c 63 (by omega)
   have e123:=eqb c 123 (by omega)
   have e125:=eqb c 125 (by omega)
   have e93:=eqb c 93 (by omega)
   have hc8:=c.toNat_lt
   cases k40:(c==40)
   case true =>
    have f40:((c.toNat:Int)==40)=true:=e40.trans k40
    rw[k40]at Hp
    clear e40 e91 e46 e92 e41 e124 e42 e43 e63 e123 e125 e93
    have G:=hide (takeGroup_any hC base b nest t r vs S w1 P1.out S1.out hb (by omega) (by omega) hn (by omega))
    go_wp2_with fail
    refine (G.out).mono ?_
    intro e w2 hx
    have X2:=hide (hx.fpl F1.out hbl)
    obtain ⟨q,rfl⟩:=hx.ret
    clear hx
    go_wp2
    go_ret
    rw[Hp.out]
    exact X2.out
   have f40:((c.toNat:Int)==40)=false:=e40.trans k40
   rw[k40]at Hp
   clear e40
   cases k91:(c==91)
   case true =>
    have f91:((c.toNat:Int)==91)=true:=e91.trans k91
    rw[k91]at Hp
    clear e91 e46 e92 e41 e124 e42 e43 e63 e123 e125 e93
    have G:=hide (takeClass_any base b t r vs S w1 P1.out S1.out hb (by omega) (by omega))
    go_wp2_with fail
    refine (G.out).mono ?_
    intro e w2 hx
    have X2:=hide (hx.xp.fpl F1.out hbl)
    obtain ⟨q,rfl⟩:=hx.xp.ret
    clear hx
    go_wp2
    go_ret
    rw[Hp.out]
    exact X2.out
   have f91:((c.toNat:Int)==91)=false:=e91.trans k91
   rw[k91]at Hp
   clear e91
   cases k46:(c==46)
   case true =>
    have f46:((c.toNat:Int)==46)=true:=e46.trans k46
    rw[k46]at Hp
    clear e46 e92 e41 e124 e42 e43 e63 e123 e125 e93
    go_wp2_with fail
    refine (others_full _).mono ?_
    rintro e w2 ⟨rfl,hf2⟩
    have fA:Frm [] w1 w2:=((Frm.refl _ _).alloc _).trans hf2
    have G:=hide (setOf_any base b t r vs S fullSet w2 (P1.out.frm fA (by simp)) (S1.out.frm fA (by simp)) hb (by have:=fA.size;omega) (by omega))
    have F2:=hide (F1.out.frm (fA.mono (by simp)))
    clear hf2 fA
    go_wp2_with fail
    refine (G.out).mono ?_
    intro e w3 hx
    have X3:=hide ((setOf_xp hx).fpl F2.out hbl)
    obtain ⟨q,rfl⟩:=(setOf_xp hx).ret
    clear hx
    go_wp2
    go_ret
    rw[Hp.out]
    exact X3.out
   have f46:((c.toNat:Int)==46)=false:=e46.trans k46
   rw[k46]at Hp
   clear e46
   cases k92:(c==92)
   case true =>
    have f92:((c.toNat:Int)==92)=true:=e92.trans k92
    rw[k92]at Hp
    clear e92 e41 e124 e42 e43 e63 e123 e125 e93
    go_wp2_with fail
    refine (takeAny_any b t r vs w1 P1.out).mono ?_
    rintro e w2 ⟨rfl,hp2,hf2⟩
    have P2:=hide hp2
    have S2:=hide (S1.out.frm hf2 (by simp;omega))
    have F2:=hide (F1.out.frm hf2)
    have z2:=hf2.size
    clear hp2 hf2
    cases r with
    | nil =>
      go_wp2
      go_ret
      rw[Hp.out]
      exact ⟨rfl,⟨_,_,P2.out⟩,F2.out⟩
    | cons d r2 =>
      rw[hd_cons]
      have hd8:=d.toNat_lt
      simp only[List.tail_cons]at P2
      simp only[List.length_cons]at hS
      have Hsb:Hid (∀ o,o=Obj.cells #[.int .u64 0, .int .u64 0, .int .u64 0, .int .u64 0] 187→SB (w2.alloc o) w2.heap.size (wd 0 0) (wd 0 1) (wd 0 2) (wd 0 3)):=by
       intro o ho
       rw[ho,wd_zero.1,wd_zero.2.1,wd_zero.2.2.1,wd_zero.2.2.2]
       exact SB.new rfl
      go_wp2_with fail
      refine (add_any w2.heap.size 0 d.toNat d.toNat _ (by omega) (by omega) (Hsb.out _ rfl)).mono ?_
      rintro e w4 ⟨rfl,hb4,hf4⟩
      rw[addK_one]at hb4
      have fA:Frm [] w2 w4:=((Frm.refl [] w2).alloc _).fresh hf4 (Nat.le_refl _)
      have G:=hide (setOf_any base b t r2 vs S (2 ^ d.toNat) w4 (P2.out.frm fA (by simp)) (S2.out.frm fA (by simp)) hb (by have:=fA.size;omega) (by omega))
      have F4:=hide (F2.out.frm (fA.mono (by simp)))
      obtain ⟨q0,q1,q2,q3⟩:=hb4.cells
      clear hb4 hf4 fA
      go_wp2_with fail
      refine (G.out).mono ?_
      intro e w5 hx
      have X5:=hide ((setOf_xp hx).fpl F4.out hbl)
      obtain ⟨q,rfl⟩:=(setOf_xp hx).ret
      clear hx
      go_wp2
      go_ret
      rw[Hp.out]
      exact X5.out
   have f92:((c.toNat:Int)==92)=false:=e92.trans k92
   rw[k92]at Hp
   clear e92
   have Hsp:Hid (isSpecial c=(c==41||c==124||c==42||c==43||c==63||c==123||c==125||c==93)):=rfl
   cases k41:(c==41)
   case true =>
    have f41:((c.toNat:Int)==41)=true:=e41.trans k41
    have Hs2:Hid (isSpecial c=true):=by show _=_;rw[Hsp.out,k41];rfl
    rw[Hs2.out]at Hp
    clear e41 e124 e42 e43 e63 e123 e125 e93 Hsp
    go_wp2
    go_ret
    rw[Hp.out]
    exact ⟨rfl,⟨_,_,P1.out⟩,F1.out⟩
   have f41:((c.toNat:Int)==41)=false:=e41.trans k41
   clear e41
   cases k124:(c==124)
   case true =>
    have f124:((c.toNat:Int)==124)=true:=e124.trans k124
    have Hs2:Hid (isSpecial c=true):=by show _=_;rw[Hsp.out,k41,k124];rfl
    rw[Hs2.out]at Hp
    clear e124 e42 e43 e63 e123 e125 e93 Hsp
    go_wp2
    go_ret
    rw[Hp.out]
    exact ⟨rfl,⟨_,_,P1.out⟩,F1.out⟩
   have f124:((c.toNat:Int)==124)=false:=e124.trans k124
   clear e124
   cases k42:(c==42)
   case true =>
    have f42:((c.toNat:Int)==42)=true:=e42.trans k42
    have Hs2:Hid (isSpecial c=true):=by show _=_;rw[Hsp.out,k41,k124,k42];rfl
    rw[Hs2.out]at Hp
    clear e42 e43 e63 e123 e125 e93 Hsp
    go_wp2
    go_ret
    rw[Hp.out]
    exact ⟨rfl,⟨_,_,P1.out⟩,F1.out⟩
   have f42:((c.toNat:Int)==42)=false:=e42.trans k42
   clear e42
   cases k43:(c==43)
   case true =>
    have f43:((c.toNat:Int)==43)=true:=e43.trans k43
    have Hs2:Hid (isSpecial c=true):=by show _=_;rw[Hsp.out,k41,k124,k42,k43];rfl
    rw[Hs2.out]at Hp
    clear e43 e63 e123 e125 e93 Hsp
    go_wp2
    go_ret
    rw[Hp.out]
    exact ⟨rfl,⟨_,_,P1.out⟩,F1.out⟩
   have f43:((c.toNat:Int)==43)=false:=e43.trans k43
   clear e43
   cases k63:(c==63)
   case true =>
    have f63:((c.toNat:Int)==63)=true:=e63.trans k63
    have Hs2:Hid (isSpecial c=true):=by show _=_;rw[Hsp.out,k41,k124,k42,k43,k63];rfl
    rw[Hs2.out]at Hp
    clear e63 e123 e125 e93 Hsp
    go_wp2
    go_ret
    rw[Hp.out]
    exact ⟨rfl,⟨_,_,P1.out⟩,F1.out⟩
   have f63:((c.toNat:Int)==63)=false:=e63.trans k63
   clear e63
   cases k123:(c==123)
   case true =>
    have f123:((c.toNat:Int)==123)=true:=e123.trans k123
    have Hs2:Hid (isSpecial c=true):=by show _=_;rw[Hsp.out,k41,k124,k42,k43,k63,k123];rfl
    rw[Hs2.out]at Hp
    clear e123 e125 e93 Hsp
    go_wp2
    go_ret
    rw[Hp.out]
    exact ⟨rfl,⟨_,_,P1.out⟩,F1.out⟩
   have f123:((c.toNat:Int)==123)=false:=e123.trans k123
   clear e123
   cases k125:(c==125)
   case true =>
    have f125:((c.toNat:Int)==125)=true:=e125.trans k125
    have Hs2:Hid (isSpecial c=true):=by show _=_;rw[Hsp.out,k41,k124,k42,k43,k63,k123,k125];rfl
    rw[Hs2.out]at Hp
    clear e125 e93 Hsp
    go_wp2
    go_ret
    rw[Hp.out]
    exact ⟨rfl,⟨_,_,P1.out⟩,F1.out⟩
   have f125:((c.toNat:Int)==125)=false:=e125.trans k125
   clear e125
   cases k93:(c==93)
   case true =>
    have f93:((c.toNat:Int)==93)=true:=e93.trans k93
    have Hs2:Hid (isSpecial c=true):=by show _=_;rw[Hsp.out,k41,k124,k42,k43,k63,k123,k125,k93];rfl
    rw[Hs2.out]at Hp
    clear e93 Hsp
    go_wp2
    go_ret
    rw[Hp.out]
    exact ⟨rfl,⟨_,_,P1.out⟩,F1.out⟩
   have f93:((c.toNat:Int)==93)=false:=e93.trans k93
   clear e93
   have Hs2:Hid (isSpecial c=false):=by show _=_;rw[Hsp.out,k41,k124,k42,k43,k63,k123,k125,k93];rfl
   rw[Hs2.out]at Hp
   clear Hsp
   have Hsb:Hid (∀ o,o=Obj.cells #[.int .u64 0, .int .u64 0, .int .u64 0, .int .u64 0] 187→SB (w1.alloc o) w1.heap.size (wd 0 0) (wd 0 1) (wd 0 2) (wd 0 3)):=by
    intro o ho
    rw[ho,wd_zero.1,wd_zero.2.1,wd_zero.2.2.1,wd_zero.2.2.2]
    exact SB.new rfl
   go_wp2_with fail
   refine (add_any w1.heap.size 0 c.toNat c.toNat _ (by omega) (by omega) (Hsb.out _ rfl)).mono ?_
   rintro e w4 ⟨rfl,hb4,hf4⟩
   rw[addK_one]at hb4
   have fA:Frm [] w1 w4:=((Frm.refl [] w1).alloc _).fresh hf4 (Nat.le_refl _)
   have G:=hide (setOf_any base b t r vs S (2 ^ c.toNat) w4 (P1.out.frm fA (by simp)) (S1.out.frm fA (by simp)) hb (by have:=fA.size;omega) (by omega))
   have F4:=hide (F1.out.frm (fA.mono (by simp)))
   obtain ⟨q0,q1,q2,q3⟩:=hb4.cells
   clear hb4 hf4 fA
   go_wp2_with fail
   refine (G.out).mono ?_
   intro e w5 hx
   have X5:=hide ((setOf_xp hx).fpl F4.out hbl)
   obtain ⟨q,rfl⟩:=(setOf_xp hx).ret
   clear hx
   go_wp2
   go_ret
   rw[Hp.out]
   exact X5.out
open Go.RowKit
def pRepeated(k nest:Nat)(l:List UInt8):Option (RX × List UInt8) :=
 match pAtom k nest l with
 | none=>none
 | some (x,r)=>pMarks (r.length+1) x r
def RepC(k:Nat):Prop:=∀ (base b nest:Nat) (t l:List UInt8) (vs:Value) (S:List Nat) (w:World),PA w b t l vs→BL base w vs S→b<base→base≤w.heap.size→S.length+l.length≤100→nest≤5→4*l.length+2≤k →
 Calls Tryz.prog 120 #[.pointer (some ⟨b,0,none⟩), .int .i64 nest] w fun e w'=>XP base b t S w (pRepeated k nest l) e w'
theorem XW.new{w:World}{eb q:Nat}{lo hi:Int}(h:eb=w.heap.size):XW (w.alloc (.cells #[.int .i64 3, .int .u64 0, .int .u64 0, .int .u64 0, .int .u64 0, .slice none 0 0, .pointer (some ⟨q,0,none⟩), .int .i64 lo, .int .i64 hi] 190)) eb q lo hi:=by
 subst h;exact heap1 w _
theorem takeRepeated_any{k:Nat}(hA:AtomC k):RepC k:=by
 intro base b nest t l vs S w h hs hb hz hS hn hk
 have A1:=hide (hA base b nest t l vs S w h hs hb hz hS hn hk)
 have hbl:b<w.heap.size:=by omega
 clear h hs
 go_enter Tryz.func120,Tryz.ntmps120
 go_wp2_with fail
 refine (A1.out).mono ?_
 intro e w1 hx
 cases hp:pAtom k nest l with
 | none =>
   have Hr:Hid (pRepeated k nest l=none):=by show _=_;unfold pRepeated;rw[hp]
   rw[hp]at hx
   obtain ⟨rfl,⟨l',vs',hpa⟩,hf⟩:=hx
   have P1:=hide hpa
   have F1:=hide hf
   clear hpa hf
   obtain ⟨q0,hq0⟩:∃ q0:Option Addr,q0=none:=⟨_,rfl⟩
   rw[← hq0]
   go_wp2_with fail
   go_loopg [5] 1 (fun k ve wr=>k=1∧ve=.pointer q0∧wr=w1)
   case atStart=>exact ⟨rfl,by rw[hq0],rfl⟩
   case round =>
    obtain ⟨hk1,rfl,rfl⟩:=hrel
    go_wp2
    go_ret
    rw[Hr.out]
    exact ⟨by subst hq0;rfl,⟨_,_,P1.out⟩,F1.out⟩
 | some x =>
   obtain ⟨x,r⟩:=x
   have Hr:Hid (pRepeated k nest l=pMarks (r.length+1) x r):=by show _=_;unfold pRepeated;rw[hp]
   rw[hp]at hx
   obtain ⟨eb,vs',rfl,hxr,hpa,hbl1,hf⟩:=hx
   have X1:=hide hxr
   have P1:=hide hpa
   have B1:=hide hbl1
   have F1:=hide hf
   clear hxr hpa hbl1 hf
   go_wp2_with fail
   go_loopg [5] (r.length+2) (fun k ve wr=>∃ (q:Nat) (y:RX) (l':List UInt8) (kk:Nat),k=kk+1∧l'.length+1≤kk∧ve=.pointer (some ⟨q,0,none⟩)∧XR (fun n=>w.heap.size≤n∧n<wr.heap.size) wr q y∧setsOf y=setsOf x∧PA wr b t l' vs'∧BL base wr vs' (S++setsOf x)∧FP base b w wr∧pMarks kk y l'=pMarks (r.length+1) x r)
   case atStart=>exact ⟨eb,x,r,r.length+1,rfl,Nat.le_refl _,rfl,X1.out,rfl,P1.out,B1.out,F1.out,rfl⟩
   case round =>
    clear X1 P1 B1 F1
    obtain ⟨q,y,l',kk,hk1,hk2,rfl,hxr,hsy,hpa,hbl1,hf,hpm⟩:=hrel
    obtain ⟨k2,rfl⟩:∃ k2,kk=k2+1:=⟨kk-1,by omega⟩
    have Hpm:Hid (pMarks (r.length+1) x r=if atRepB l' then (match pRep l' with | none=>none|some (b,r)=>pMarks k2 (.rep y b.1 b.2) r) else some (y,l')):=by
     show _=_;rw[← hpm];rfl
    have X1:=hide hxr
    have P1:=hide hpa
    have B1:=hide hbl1
    have F1:=hide hf
    have z1:=hf.size
    have Hsy:=hide hsy
    clear hxr hpa hbl1 hf hpm hsy
    go_wp2_with fail
    refine (atRepetition_any b t l' vs' wr P1.out).mono ?_
    rintro e w2 ⟨rfl,n2,rfl⟩
    cases hat:atRepB l'
    ·have Hm2:Hid (pMarks (r.length+1) x r=some (y,l')):=by show _=_;rw[Hpm.out,hat];rfl
     go_wp2
     go_ret
     rw[Hr.out,Hm2.out]
     refine ⟨q,vs',rfl,?_,P1.out.drewN _,?_,F1.out.drewN _⟩
     ·exact (X1.out.keep (KeepX.frm ((Frm.refl [] wr).drewN n2) (fun n hn=>⟨hn.2,by simp⟩))).mono (fun n hn=>hn)
     ·rw[Hsy.out];exact B1.out
    ·have Hm2:Hid (pMarks (r.length+1) x r=match pRep l' with | none=>none|some (b,r)=>pMarks k2 (.rep y b.1 b.2) r):=by show _=_;rw[Hpm.out,hat];rfl
     go_wp2_with fail
     refine (takeRepetition_any b t l' vs' (wr.drewN n2) (P1.out.drewN n2)).mono ?_
     rintro e w3 ⟨a,m,ok,l3,rfl,hp3,hf3,hc3⟩
     have P3:=hide hp3
     have hf3':Frm [b] wr w3:=((Frm.refl [b] wr).drewN n2).trans hf3
     have X3:=hide ((X1.out.keep (KeepX.frm hf3' (fun n hn=>⟨hn.2,by simp;omega⟩))).mono (B:=fun n=>w.heap.size≤n∧n<w3.heap.size) (fun n hn=>⟨hn.1,Nat.lt_of_lt_of_le hn.2 hf3'.size⟩))
     have B3:=hide (B1.out.frm hf3' (by simp;omega))
     have F3:=hide (F1.out.frm hf3')
     have z3:=hf3'.size
     clear hp3 hf3 hf3'
     cases hrp:pRep l' with
     | none =>
       rw[hrp]at hc3 Hm2
       obtain rfl:ok=false:=hc3
       go_wp2
       go_ret
       rw[Hr.out,Hm2.out]
       exact ⟨rfl,⟨_,_,P3.out⟩,F3.out⟩
     | some br =>
       obtain ⟨⟨lo,hi⟩,r3⟩:=br
       have hlen:=(pRep_len hrp).1
       have hop:=opLen_pos lo hi
       rw[hrp]at hc3 Hm2
       obtain ⟨rfl,rfl,rfl,rfl⟩:a=lo∧m=hiZ hi∧ok=true∧l3=r3:=hc3
       simp only at hlen
       go_wp2
       go_roundg (gk-1)
       case measure=>omega
       case rel =>
        have hfa:=(Frm.refl [] w3).alloc (.cells #[.int .i64 3, .int .u64 0, .int .u64 0, .int .u64 0, .int .u64 0, .slice none 0 0, .pointer (some ⟨q,0,none⟩), .int .i64 lo, .int .i64 (hiZ hi)] 190)
        refine ⟨w3.heap.size, .rep y lo hi,l3,k2,by omega,by omega,rfl,?_,Hsy.out,P3.out.frm hfa (by simp),B3.out.frm hfa (by simp),F3.out.alloc _,Hm2.out.symm⟩
        simp only[XR]
        refine ⟨⟨by omega,by simp⟩,q,XW.new rfl,?_⟩
        exact (X3.out.keep (KeepX.frm hfa (fun n hn=>⟨hn.2,by simp⟩))).mono (fun n hn=>⟨hn.1,by simp;omega⟩)
open Go.RowKit
theorem infoPX:(Tryz.prog.info? 177).map (fun i=>(i.zero,i.size,i.bytes))=some (some (.pointer none),1,8):=by kernel_rfl
def LX(base:Nat)(w:World)(v:Value)(ps:List Nat):Prop:=w.ownsRow base 177 1 v ps.length (pv ps)
theorem wp_appX{ops:Array Oper}{rest:List Oper}{o:Oper}{a:Act}{Q:Exit→Act→World→Prop}(w:World)(hgd:o.guard=none)(s x:Operand)
 (ho:o.op=.call { callee:=.builtin .append,args:=#[s,x],argTypes:=#[188,188] })
 (base:Nat) (v:Value) (ps:List Nat) (p b1:Nat) (hs:a.eval s=v) (hown:LX base w v ps) (hx:a.eval x=.slice (some ⟨b1,0,none⟩) 1 1)
 (hc:w.cell? ⟨b1,0,none⟩=some (.pointer (some ⟨p,0,none⟩))) (hlen:ps.length≤1048576) (hbase:base≤w.heap.size)
 (h:∀ g cap w',LX base w' (.slice (some ⟨g,0,none⟩) (ps.length+1) cap) (ps++[p])→w.grownBy w' v.ownBlock→(v.ownBlock=some g∨g=w.heap.size)→g<w'.heap.size→wpList Tryz.prog ops Q rest (a.put o.dst (.slice (some ⟨g,0,none⟩) (ps.length+1) cap)) w') :
 wpList Tryz.prog ops Q (o::rest) a w:=by
 obtain ⟨i0,hi,hz0,hz1,hz2⟩:=info_parts infoPX
 refine wpList_append_lies w hgd s x 188 ho base 177 i0 (.pointer none) 1 8 Tryz.underlying188 hi hz0 hz1 hz2 rfl (by decide) v ps.length (pv ps) hs hown ⟨b1,0,none⟩ 1 1 [.pointer (some ⟨p,0,none⟩)] hx rfl ?_ (fun x hx=>by simp at hx;subst hx;rfl) (by decide) (by unfold maxLen;omega) (by omega) hbase w.heap.size rfl ?_
 ·intro j u hj
  have:j=0:=by
   cases j with
   | zero=>rfl
   | succ j=>simp at hj
  subst this
  rw[add0]
  simp at hj
  rw[← hj];exact hc
 ·intro g cap w' h1 h2 h3 h4
  exact h g cap w' (by unfold LX pv;simpa[pv] using h1) h2 h3 h4
theorem cell_newX(w:World)(v:Value)(t:TypeId)(n:Nat)(h:w.heap.size=n):(w.alloc (.cells #[v] t)).cell? ⟨n,0,none⟩=some v:=by subst h;simp
theorem seqEnd_B(l:List UInt8):seqEnd l=seqEndB l:=by unfold seqEnd seqEndB;rw[tk_head,tk_head]
theorem pSeq_rep(k nest:Nat)(acc:List RX)(l:List UInt8):pSeq (k+1) nest acc l=if seqEndB l then some (.seq acc,l) else match pRepeated k nest l with | none=>none|some (y,r2)=>pSeq k nest (acc++[y]) r2:=by
 conv=>lhs;unfold pSeq
 unfold pRepeated
 split
 ·rfl
 ·cases pAtom k nest l with
  | none=>rfl
  | some x=>obtain ⟨x,r⟩:=x;rfl
theorem pRepeated_sets{k nest:Nat}{l r:List UInt8}{y:RX}(h:pRepeated k nest l=some (y,r)):(setsOf y).length+r.length≤l.length∧r.length+1≤l.length:=by
 unfold pRepeated at h
 split at h
 ·simp at h
 ·rename_i x r1 h1
  have e1:=pAtom_sets h1
  have e2:=pMarks_sets h
  rw[e2.1];omega
theorem XN.c5{w:World}{eb:Nat}{k:Int}{v:Value}(h:XN w eb k v):w.cell? ⟨eb,5,none⟩=some v:=by unfold XN at h;simp[World.cell?,h]
theorem XN.fz{w:World}{eb:Nat}{k:Int}{v:Value}(h:XN w eb k v)(o:Nat):w.frozen? ⟨eb,o,none⟩=false:=by unfold XN at h;simp[World.frozen?,h]
theorem XN.lt{w:World}{eb:Nat}{k:Int}{v:Value}(h:XN w eb k v):eb<w.heap.size:=(Array.getElem?_eq_some_iff.1 h).1
theorem XN.set5{w:World}{eb:Nat}{k:Int}{v:Value}(h:XN w eb k v)(v':Value):XN (w.setCell ⟨eb,5,none⟩ v') eb k v':=by
 unfold XN at h ⊢;simp[World.setCell,h,Array.getElem?_modify]
theorem XN.new{w:World}{eb:Nat}{k:Int}(h:eb=w.heap.size):XN (w.alloc (.cells #[.int .i64 k, .int .u64 0, .int .u64 0, .int .u64 0, .int .u64 0, .slice none 0 0, .pointer none, .int .i64 0, .int .i64 0] 190)) eb k (.slice none 0 0):=by
 subst h;exact heap1 w _
theorem XN.frm{S:List Nat}{w w':World}{eb:Nat}{k:Int}{v:Value}(h:XN w eb k v)(f:Frm S w w')(hS:eb∉S):XN w' eb k v:=(f.block eb h.lt hS).trans h
theorem XN.fp{base b:Nat}{w w':World}{eb:Nat}{k:Int}{v:Value}(h:XN w eb k v)(f:FP base b w w')(hb:eb≠b):XN w' eb k v:=by
 refine (f.block eb h.lt hb (.inr ?_)).trans h
 intro cur fz e;rw[h]at e;simp at e
theorem LX.fp{base b base':Nat}{w w':World}{v:Value}{ps:List Nat}(h:LX base' w v ps)(f:FP base b w w')(hb:b<base'):LX base' w' v ps:=by
 refine ⟨h.1,?_⟩
 rcases h.2 with hn|⟨g,cap,cur,rfl,hg,hgg,rest⟩
 ·exact .inl hn
 ·refine .inr ⟨g,cap,cur,rfl,hg,(f.block g (Array.getElem?_eq_some_iff.1 hgg).1 (by omega) (.inr ?_)).trans hgg,rest⟩
  intro c fz e;rw[hgg]at e;simp at e
structure GX(base b eb:Nat)(kd:Int)(t:List UInt8)(S:List Nat)(w wr:World)(acc:List RX)(l':List UInt8)(v vs':Value)(ps:List Nat):Prop where
 nd:XN wr eb kd v
 row:LX (eb+1) wr v ps
 kids:XRs (fun n=>eb<n∧n<wr.heap.size∧v.ownBlock≠some n) wr ps acc
 pa:PA wr b t l' vs'
 bl:BL base wr vs' (S++setsL acc)
 fp:FP base b w wr
 eb:w.heap.size≤eb
 len:S.length+(setsL acc).length+l'.length≤100
 few:acc.length+l'.length≤101
theorem GX.xv{base b eb:Nat}{kd:Int}{t:List UInt8}{S:List Nat}{w wr:World}{acc:List RX}{l':List UInt8}{v vs':Value}{ps:List Nat}(h:GX base b eb kd t S w wr acc l' v vs' ps) :
 (w.heap.size≤eb∧eb<wr.heap.size)∧XV (fun k=>w.heap.size≤k∧k<wr.heap.size) wr v ps∧XRs (fun k=>w.heap.size≤k∧k<wr.heap.size) wr ps acc:=by
 refine ⟨⟨h.eb,h.nd.lt⟩,⟨own_base h.row (Nat.zero_le _),?_,?_⟩,h.kids.mono ?_⟩
 ·intro k hk;have:=h.row.lt k hk;have:=h.eb;omega
 ·have:=h.kids.len;have:=h.few;omega
 ·intro n hn;have:=h.eb;exact ⟨by omega,hn.2.1⟩
theorem GX.drewN{base b eb:Nat}{kd:Int}{t:List UInt8}{S:List Nat}{w wr:World}{acc:List RX}{l':List UInt8}{v vs':Value}{ps:List Nat}(n:Nat)(h:GX base b eb kd t S w wr acc l' v vs' ps):GX base b eb kd t S w (wr.drewN n) acc l' v vs' ps :=
 ⟨h.nd,h.row,(h.kids.keep (KeepX.frm ((Frm.refl [] wr).drewN n) (fun k hk=>⟨hk.2.1,by simp⟩))),h.pa.drewN n,h.bl,h.fp.drewN n,h.eb,h.len,h.few⟩
theorem GX.took{base b eb:Nat}{kd:Int}{t:List UInt8}{S:List Nat}{w wr w2:World}{acc:List RX}{l' l2:List UInt8}{v vs':Value}{ps:List Nat}(h:GX base b eb kd t S w wr acc l' v vs' ps)(hb:b<base)(hbw:base≤w.heap.size)(f:Frm [b] wr w2)(hp:PA w2 b t l2 vs')(hl:l2.length≤l'.length):GX base b eb kd t S w w2 acc l2 v vs' ps:=by
 have heb:=h.eb
 have hz:=f.size
 refine ⟨h.nd.frm f (by simp;omega),own_frm h.row f (by simp;omega),?_,hp,h.bl.frm f (by simp;omega),h.fp.frm f,heb,by have:=h.len;omega,by have:=h.few;omega⟩
 exact (h.kids.keep (KeepX.frm f (fun n hn=>⟨hn.2.1,by simp;omega⟩))).mono (fun n hn=>⟨hn.1,by omega,hn.2.2⟩)
theorem GX.step{base b eb:Nat}{kd:Int}{t:List UInt8}{S:List Nat}{w wr w3 w5:World}{acc:List RX}{l' r2:List UInt8}{v vs' vs2:Value}{ps:List Nat}{y:RX}{q g cap:Nat}{o:Obj}
 (h:GX base b eb kd t S w wr acc l' v vs' ps) (hb:b<base) (hbw:base≤w.heap.size) (hx:XR (fun n=>wr.heap.size≤n∧n<w3.heap.size) w3 q y) (hpa:PA w3 b t r2 vs2) (hbl:BL base w3 vs2 (S++setsL acc++setsOf y)) (hf:FP base b wr w3)
 (hs:(setsOf y).length+r2.length≤l'.length) (hr:acc.length+1+r2.length≤101)
 (hrow:LX (eb+1) w5 (.slice (some ⟨g,0,none⟩) (ps.length+1) cap) (ps++[q])) (hgr:(w3.alloc o).grownBy w5 v.ownBlock) (hat:v.ownBlock=some g∨g=(w3.alloc o).heap.size) :
 GX base b eb kd t S w (w5.setCell ⟨eb,5,none⟩ (.slice (some ⟨g,0,none⟩) (ps.length+1) cap)) (acc++[y]) r2 (.slice (some ⟨g,0,none⟩) (ps.length+1) cap) vs2 (ps++[q]):=by
 have heb:=h.eb
 have hlt:=h.nd.lt
 have hz3:=hf.size
 have hz5:=hgr.size
 have hvb:∀ k,v.ownBlock=some k→eb+1≤k∧k<wr.heap.size:=fun k hk=>h.row.lt k hk
 have hza:(w3.alloc o).heap.size=w3.heap.size+1:=by simp
 rw[hza]at hz5 hat
 have F3:=(Frm.refl [] w3).alloc o
 have F5:Frm v.ownBlock.toList (w3.alloc o) w5:=Frm.of_grow hgr
 have F6:=(Frm.refl [eb] w5).setCell (p:=⟨eb,5,none⟩) (.inl (by simp)) (.slice (some ⟨g,0,none⟩) (ps.length+1) cap)
 have hz6:(w5.setCell ⟨eb,5,none⟩ (.slice (some ⟨g,0,none⟩) (ps.length+1) cap)).heap.size=w5.heap.size:=by simp
 have hne:∀ k,k∈v.ownBlock.toList→v.ownBlock=some k:=fun k hk=>by rw[Option.mem_toList]at hk;exact hk
 have n1:eb∉v.ownBlock.toList:=fun hm=>by have:=hvb _ (hne _ hm);omega
 have n2:b∉v.ownBlock.toList:=fun hm=>by have:=hvb _ (hne _ hm);omega
 have keep:∀ (A:Nat→Prop),(∀ k,A k→k<w3.heap.size∧eb<k∧v.ownBlock≠some k)→KeepX A w3 (w5.setCell ⟨eb,5,none⟩ (.slice (some ⟨g,0,none⟩) (ps.length+1) cap)):=by
  intro A hA k hk _
  obtain ⟨a1,a2,a3⟩:=hA k hk
  rw[F6.block k (by omega) (by simp;omega),F5.block k (by rw[hza];omega) (fun hm=>a3 (hne _ hm)),F3.block k a1 (by simp)]
 have vown:Value.ownBlock (.slice (some ⟨g,0,none⟩) (ps.length+1) cap)=some g:=rfl
 refine ⟨?_,?_,?_,?_,?_,?_,heb,?_,?_⟩
 ·exact XN.set5 (((h.nd.fp hf (by omega)).frm F3 (by simp)).frm F5 n1) _
 ·have:=ownsRow_setCell_below hrow (a:=⟨eb,5,none⟩) (by simp) (.slice (some ⟨g,0,none⟩) (ps.length+1) cap)
  exact this
 ·refine XRs.snoc ?_ ?_
  ·have k1:=h.kids.keep (KeepX.fp hf (fun n hn=>⟨hn.2.1,by omega⟩))
   refine (k1.keep (keep _ (fun n hn=>⟨by omega,hn.1,hn.2.2⟩))).mono ?_
   intro n hn
   refine ⟨hn.1,by rw[hz6];omega,?_⟩
   rw[vown]
   intro e
   simp only[Option.some.injEq]at e
   subst e
   rcases hat with e|e
   ·exact hn.2.2 e
   ·omega
  ·refine (hx.keep (keep _ (fun n hn=>⟨hn.2,by omega,fun e=>by have:=hvb _ e;omega⟩))).mono ?_
   intro n hn
   refine ⟨by omega,by rw[hz6];omega,?_⟩
   rw[vown]
   intro e
   simp only[Option.some.injEq]at e
   subst e
   rcases hat with e|e
   ·have:=hvb _ e;omega
   ·omega
 ·exact ((hpa.frm F3 (by simp)).frm F5 n2).frm F6 (by simp;omega)
 ·have b1:BL base w3 vs2 (S++setsL (acc++[y])):=by
   rw[setsL_app,setsL_one,← List.append_assoc];exact hbl
  refine own_frmT (own_frmT (b1.frm F3 (by simp)) F5 ?_) F6 ?_
  ·intro k hk
   have h1:=hne k hk
   obtain ⟨cur,fz,e⟩:=own_block (h.row.fp hf (by omega)) k h1
   refine .inr ⟨cur,177,fz,?_,by decide⟩
   rw[F3.block k (by have:=hvb _ h1;omega) (by simp)];exact e
  ·intro k hk
   simp at hk
   subst hk
   have:=((h.nd.fp hf (by omega)).frm F3 (by simp)).frm F5 n1
   exact .inr ⟨_,190,_,this,by decide⟩
 ·refine FP.fresh ?_ F6 heb
  have f1:=(h.fp.trans hf).frm (F3.mono (by simp))
  refine ⟨hgr.os.trans f1.os,hgr.tape.trans f1.tape,hgr.output.trans f1.output,Nat.le_trans f1.size F5.size,?_⟩
  intro k hk hkb hc
  rw[F5.block k (by have:=f1.size;omega) (fun hm=>by have:=hvb _ (hne _ hm);omega)]
  exact f1.block k hk hkb hc
 ·rw[setsL_app,setsL_one,List.length_append];have:=h.len;omega
 ·simp;omega
theorem takeSequence_any{K:Nat}(hA:∀ k,k<K→RepC k):SeqC K:=by
 intro base b nest t l vs S w h hs hb hz hS hn hk
 have H:=hide h
 have HS:=hide hs
 have hbl:b<w.heap.size:=by omega
 have HA:=hide hA
 clear h hs hA
 go_enter Tryz.func110,Tryz.ntmps110
 go_wp2_with fail
 go_loopg [] K (fun k wr=>∃ (acc:List RX) (l':List UInt8) (v vs':Value) (ps:List Nat),GX base b w.heap.size 1 t S w wr acc l' v vs' ps∧4*l'.length+3≤k∧k≤K∧pSeq k nest acc l'=pSeq K nest [] l)
 case atStart =>
  have hfa:=(Frm.refl [] w).alloc (.cells #[.int .i64 1, .int .u64 0, .int .u64 0, .int .u64 0, .int .u64 0, .slice none 0 0, .pointer none, .int .i64 0, .int .i64 0] 190)
  refine ⟨[],l, .slice none 0 0,vs,[],⟨XN.new rfl,World.ownsRow_nil _ _ _ _,?_,H.out.frm hfa (by simp),?_,(FP.refl _ _ _).alloc _,Nat.le_refl _,?_,?_⟩,hk,Nat.le_refl _,rfl⟩
  ·simp only[XRs]
  ·simpa[setsL] using HS.out.frm hfa (by simp)
  ·simpa[setsL] using hS
  ·simp;omega
 case round =>
  clear H HS
  obtain ⟨acc,l',v,vs',ps,hg,hk1,hk2,hps⟩:=hrel
  obtain ⟨k2,rfl⟩:∃ k2,gk=k2+1:=⟨gk-1,by omega⟩
  have Hps:Hid (pSeq K nest [] l=if seqEndB l' then some (.seq acc,l') else match pRepeated k2 nest l' with | none=>none|some (y,r2)=>pSeq k2 nest (acc++[y]) r2):=by
   show _=_;rw[← hps,pSeq_rep]
  have G:=hide hg
  clear hg hps
  go_wp2_with fail
  refine (atSequenceEnd_any b t l' vs' wr G.out.pa).mono ?_
  rintro e w2 ⟨rfl,n2,rfl⟩
  rw[seqEnd_B]
  cases hse:seqEndB l'
  case true =>
   have Hr:Hid (pSeq K nest [] l=some (.seq acc,l')):=by show _=_;rw[Hps.out,hse];rfl
   go_wp2
   go_ret
   rw[Hr.out]
   have G2:=G.out.drewN n2
   refine ⟨w.heap.size,vs',rfl,?_,G2.pa,G2.bl,G2.fp⟩
   have:=G2.xv
   simp only[XR]
   exact ⟨this.1,v,ps,G2.nd,this.2.1,this.2.2⟩
  case false =>
   have Hr:Hid (pSeq K nest [] l=match pRepeated k2 nest l' with | none=>none|some (y,r2)=>pSeq k2 nest (acc++[y]) r2):=by show _=_;rw[Hps.out,hse];rfl
   have G2:=hide (G.out.drewN n2)
   clear G
   have hzr:=G2.out.fp.size
   have R:=hide (HA.out k2 (by omega) base b nest t l' vs' (S++setsL acc) (wr.drewN n2) G2.out.pa G2.out.bl hb (by omega) (by rw[List.length_append];exact G2.out.len) hn (by omega))
   generalize wr.drewN n2=w2 at *
   go_wp2_with fail
   refine (R.out).mono ?_
   intro e w3 hx
   cases hp:pRepeated k2 nest l' with
   | none =>
     rw[hp]at hx Hr
     obtain ⟨rfl,⟨l3,vs3,hpa⟩,hf⟩:=hx
     have P3:=hide hpa
     have F3:=hide (G2.out.fp.trans hf)
     clear hpa hf
     obtain ⟨q0,hq0⟩:∃ q0:Option Addr,q0=none:=⟨_,rfl⟩
     rw[← hq0]
     go_wp2
     go_ret
     rw[Hr.out]
     exact ⟨by first | rfl|(subst hq0;rfl),⟨_,_,P3.out⟩,F3.out⟩
   | some yr =>
     obtain ⟨y,r2⟩:=yr
     have hsl:=pRepeated_sets hp
     rw[hp]at hx Hr
     obtain ⟨q,vs3,rfl,hxr,hpa,hbl3,hf⟩:=hx
     have hnd:=G2.out.nd.fp hf (by omega)
     have c5:=hnd.c5
     have z5:=hnd.fz 5
     have hlt3:=hnd.lt
     have hrow:=G2.out.row.fp hf (by omega)
     obtain ⟨a,cap,rfl⟩:=own_shape hrow
     have X3:=hide hxr
     have P3:=hide hpa
     have B3:=hide hbl3
     have F3:=hide hf
     have L3:=hide hrow
     have hz3:=hf.size
     have hfew:=G2.out.few
     have hpl:ps.length≤101:=by have:=G2.out.kids.len;omega
     have hsl2:acc.length+1+r2.length≤101:=by omega
     have ae:Value.ownBlock (.slice a ps.length cap)≠some w.heap.size:=fun e=>by have:=hrow.lt _ e;omega
     have gc:∀ o:Obj,(w3.alloc o).cell? ⟨w.heap.size,5,none⟩=some (.slice a ps.length cap):=fun o=>(((Frm.refl [] w3).alloc o).cell (p:=⟨w.heap.size,5,none⟩) hlt3 (by simp)).trans c5
     have gf:∀ o:Obj,(w3.alloc o).frozen? ⟨w.heap.size,5,none⟩=false:=fun o=>(((Frm.refl [] w3).alloc o).frozen (p:=⟨w.heap.size,5,none⟩) hlt3 (by simp)).trans z5
     clear hxr hpa hbl3 hf hrow hnd
     go_wp2_with (first | (at_builtin;refine wp_appX _ rfl _ _ rfl (w.heap.size+1) (.slice a ps.length cap) ps q w3.heap.size rfl (L3.out.alloc _) rfl (cell_newX _ _ _ _ rfl) (by omega) (by simp;omega) ?_;intro gg cap2 w5 hown hgrow hat hgl;have c6:=(hgrow.cell_far ⟨w.heap.size,5,none⟩ (by simp;omega) (Ne.symm ae)).trans (gc _);have z6:=(hgrow.frozen_far ⟨w.heap.size,5,none⟩ (by simp;omega) (Ne.symm ae)).trans (gf _);have G5:=hide (G2.out.step hb hz X3.out P3.out B3.out F3.out hsl.1 hsl2 hown hgrow hat);clear hown hgrow hat hgl))
     go_roundg k2
     case measure=>omega
     case rel=>exact ⟨_,_,_,_,_,G5.out,by omega,by omega,Hr.out.symm⟩
end Go.Proofs.YtjkialjoamgbgaaGreat
