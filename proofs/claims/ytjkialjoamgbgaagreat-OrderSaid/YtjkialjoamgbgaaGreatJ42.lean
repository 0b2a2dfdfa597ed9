import Derived.Test.YtjkialjoamgbgaaGreatJ41
import Derived.Test.YtjkialjoamgbgaaGreatJ40
set_option linter.unusedVariables false
set_option linter.unusedSimpArgs false
set_option linter.unnecessarySimpa false
set_option maxRecDepth 100000
set_option maxHeartbeats 4000000
namespace Go.Proofs.YtjkialjoamgbgaaGreat
open Go.RowKit
def kindN:NF→Nat
 | .zero=>0
 | .one=>1
 | .set _=>2
 | .pair _ _=>3
 | .sum _=>4
 | .star _=>5
structure LK(w:World)(fb vb:Nat)(D:List NF)(ak c i:Nat)(d:NF)(f:FV)(L:List Nat)(cap:Nat):Prop where
 tab:w.cell? ⟨fb,0,none⟩=some (.slice (some ⟨vb,0,none⟩) D.length cap)
 lt:i<D.length
 get:w.cell? ⟨vb,i*12,none⟩=some (.int .i64 f.kd)∧w.cell? ⟨vb,i*12+1,none⟩=some (.int .u64 (wd f.s 0))∧w.cell? ⟨vb,i*12+2,none⟩=some (.int .u64 (wd f.s 1))∧w.cell? ⟨vb,i*12+3,none⟩=some (.int .u64 (wd f.s 2))∧w.cell? ⟨vb,i*12+4,none⟩=some (.int .u64 (wd f.s 3)) ∧
  w.cell? ⟨vb,i*12+5,none⟩=some (.int .i64 f.fi)∧w.cell? ⟨vb,i*12+6,none⟩=some (.int .i64 f.se)∧w.cell? ⟨vb,i*12+7,none⟩=some f.vp∧w.cell? ⟨vb,i*12+8,none⟩=some (.bool f.te)∧w.cell? ⟨vb,i*12+9,none⟩=some (.int .i64 f.lk)∧w.cell? ⟨vb,i*12+10,none⟩=some (.int .i64 f.ak)∧w.cell? ⟨vb,i*12+11,none⟩=some (.int .i64 f.lf)
 kd:f.kd=kindN d
 te:f.te=nul d
 st:f.s<2 ^ 256
 pl:PL w f.vp L
 pair:∀ a b,d=.pair a b→D[f.fi]?=some a∧D[f.se]?=some b
 star:∀ a,d=.star a→D[f.fi]?=some a
 set:∀ s,d=.set s→f.s=s
 sum:∀ l,d=.sum l→(∀ j∈L,j<D.length)∧l=srt (L.map fun j=>D.getD j .zero)∧L.Pairwise (·<·)
 ale:f.ak≤ak
 mem:1≤ak→f.ak=ak→D[f.lf]?=some (left c d)
theorem ST.look{base:Nat}{w:World}{fb vb:Nat}{D:List NF}{ak c:Nat}{U:List NF}{Z:List Nat}(h:ST base w fb vb D ak c U Z){i:Nat}{d:NF}(hi:D[i]?=some d):∃ f L cap,LK w fb vb D ak c i d f L cap:=by
 obtain ⟨E,B,hE,hP,_,_,_⟩:=h
 have hl:=(List.getElem?_eq_some_iff.1 hi).1
 have hEl:=hP.len
 obtain ⟨⟨f,L⟩,he⟩:∃ e,E[i]?=some e:=⟨E[i]'(by omega),List.getElem?_eq_getElem (by omega)⟩
 have hm:=List.mem_of_getElem? he
 obtain ⟨cap,hT,_⟩:=hE.row
 have hkE:(E.map kyE)[i]?=some (kyE (f,L)):=by simp[he]
 have two:i=0∨i=1∨2≤i:=by omega
 refine ⟨f,L,cap,by rw[← hEl];exact hT.c0,hl,form_get hE he,?_,hP.te i _ d he hi,hE.st _ hm,hE.pl _ hm,?_,?_,?_,?_,hP.al _ hm,fun h1 h2=>hP.mm h1 i _ d he hi h2⟩
 ·rcases two with rfl|rfl|h2
  ·have:=hP.tb.k0;rw[hkE]at this;simp[kyE]at this
   have e:=hP.tb.d0;rw[hi]at e;simp at e;rw[e];exact this.1
  ·have:=hP.tb.k1;rw[hkE]at this;simp[kyE]at this
   have e:=hP.tb.d1;rw[hi]at e;simp at e;rw[e];exact this.1
  ·rcases hP.tb.ky i _ d h2 hkE hi with g|⟨g1,g2,g3,g4,g5,x,y,g6,g7,g8⟩|⟨g1,g2,g3,g4,g5,g6,g7⟩|⟨g1,g2,g3,g4,g5,x,g6,g7⟩
   ·rw[g.2.2.2.2];exact g.1
   ·rw[g8];exact g1
   ·rw[g7];exact g1
   ·rw[g7];exact g1
 ·rintro a b rfl
  have h2:=hP.tb.ge hi (by simp) (by simp)
  rcases hP.tb.ky i _ _ h2 hkE hi with g|⟨g1,g2,g3,g4,g5,x,y,g6,g7,g8⟩|⟨g1,g2,g3,g4,g5,g6,g7⟩|⟨g1,g2,g3,g4,g5,x,g6,g7⟩
  ·have:=g.2.2.2.2;simp at this
  ·simp at g8;obtain ⟨rfl,rfl⟩:=g8;exact ⟨g6,g7⟩
  ·simp at g7
  ·simp at g7
 ·rintro a rfl
  have h2:=hP.tb.ge hi (by simp) (by simp)
  rcases hP.tb.ky i _ _ h2 hkE hi with g|⟨g1,g2,g3,g4,g5,x,y,g6,g7,g8⟩|⟨g1,g2,g3,g4,g5,g6,g7⟩|⟨g1,g2,g3,g4,g5,x,g6,g7⟩
  ·have:=g.2.2.2.2;simp at this
  ·simp at g8
  ·simp at g7
  ·simp at g7;subst g7;exact g6
 ·rintro s rfl
  have h2:=hP.tb.ge hi (by simp) (by simp)
  rcases hP.tb.ky i _ _ h2 hkE hi with g|⟨g1,g2,g3,g4,g5,x,y,g6,g7,g8⟩|⟨g1,g2,g3,g4,g5,g6,g7⟩|⟨g1,g2,g3,g4,g5,x,g6,g7⟩
  ·have:=g.2.2.2.2;simp at this;exact this.symm
  ·simp at g8
  ·simp at g7
  ·simp at g7
 ·rintro l rfl
  have h2:=hP.tb.ge hi (by simp) (by simp)
  rcases hP.tb.ky i _ _ h2 hkE hi with g|⟨g1,g2,g3,g4,g5,x,y,g6,g7,g8⟩|⟨g1,g2,g3,g4,g5,g6,g7⟩|⟨g1,g2,g3,g4,g5,x,g6,g7⟩
  ·have:=g.2.2.2.2;simp at this
  ·simp at g8
  ·simp at g7;exact ⟨fun j hj=>by have:=g6 j hj;omega,g7,g5⟩
  ·simp at g7
theorem ST.tbl{base:Nat}{w:World}{fb vb:Nat}{D:List NF}{ak c:Nat}{U:List NF}{Z:List Nat}(h:ST base w fb vb D ak c U Z):D[0]?=some .zero∧D[1]?=some .one∧D.Nodup∧(∀ d∈D,WC d)∧(∀ x∈D,x∈U)∧fb<base∧base≤w.heap.size∧base≤vb∧vb<w.heap.size∧NoInt w [fb,vb]:=by
 obtain ⟨E,B,hE,hP,hU,_,_⟩:=h
 have hv:=hE.vbs
 exact ⟨hP.tb.d0,hP.tb.d1,hP.tb.nd,hP.tb.wc,hU,hE.fb,hE.sz,hv.1,hv.2.1,hE.noInt⟩
theorem ST.zs{base:Nat}{w:World}{fb vb:Nat}{D:List NF}{ak c:Nat}{U:List NF}{Z:List Nat}(h:ST base w fb vb D ak c U Z):∀ k∈Z,k<w.heap.size:=by
 obtain ⟨E,B,_,_,_,_,h5⟩:=h;exact h5.1
theorem ST.num{base:Nat}{w:World}{fb vb:Nat}{D:List NF}{ak c:Nat}{U:List NF}{Z:List Nat}(h:ST base w fb vb D ak c U Z){i j:Nat}{x y:NF}(hi:D[i]?=some x)(hj:D[j]?=some y):i=j↔x=y:=by
 constructor
 ·rintro rfl;rw[hi]at hj;simpa using hj
 ·rintro rfl;exact nodup_get h.tbl.2.2.1 hi hj
theorem RQ.here{base:Nat}{w w':World}{fb vb:Nat}{D:List NF}{ak c:Nat}{U:List NF}{Z:List Nat}{y:NF}{r:Nat}(h:ST base w fb vb D ak c U Z)(f:Frm [] w w')(hr:D[r]?=some y):RQ base w fb vb D ak c U Z y (.returned (.int .i64 (r:Nat))) w' :=
 ⟨vb,[],r,rfl,by simpa using h.keep f,by simpa using hr,FQ.keepR (FQ.refl _ _ _) f⟩
theorem RQ.later{base:Nat}{w w1 w':World}{fb vb vb1:Nat}{D R:List NF}{ak c:Nat}{U:List NF}{Z:List Nat}{y:NF}{e:Ending}(f:FQ fb vb vb1 w w1)(h:RQ base w1 fb vb1 (D++R) ak c U Z y e w'):RQ base w fb vb D ak c U Z y e w':=by
 obtain ⟨vb',R',r,h1,h2,h3,h4⟩:=h
 exact ⟨vb',R++R',r,h1,by simpa using h2,by simpa using h3,f.trans h4⟩
theorem RQ.keepR{base:Nat}{w w1 w':World}{fb vb:Nat}{D:List NF}{ak c:Nat}{U:List NF}{Z:List Nat}{y:NF}{e:Ending}(h:RQ base w fb vb D ak c U Z y e w1)(f:Frm [] w1 w'):RQ base w fb vb D ak c U Z y e w':=by
 obtain ⟨vb',R',r,h1,h2,h3,h4⟩:=h
 exact ⟨vb',R',r,h1,h2.keep f,h3,FQ.keepR h4 f⟩
theorem get_app{D R:List NF}{i:Nat}{x:NF}(h:D[i]?=some x):(D++R)[i]?=some x:=by
 rw[List.getElem?_append_left (List.getElem?_eq_some_iff.1 h).1];exact h
set_option linter.unusedVariables false
set_option linter.unusedSimpArgs false
theorem ris_nodup{l:List NF}(h:Ris l):l.Nodup:=by
 refine List.Pairwise.imp ?_ h
 intro a b hab e
 subst e
 rw[blt_irrefl]at hab
 exact absurd hab (by decide)
theorem srt_congr{a b:List NF}(ha:Tell a)(hb:Tell b)(h:∀ p,p∈a↔p∈b):srt a=srt b :=
 ris_ext (srt_ris a) (srt_ris b) fun p=>by rw[srt_mem_iff ha,srt_mem_iff hb];exact h p
theorem srt_len{l:List NF}(ht:Tell l)(hn:l.Nodup):(srt l).length=l.length :=
 Nat.le_antisymm (nodup_len (ris_nodup (srt_ris l)) fun x hx=>srt_mem hx) (nodup_len hn fun x hx=>(srt_mem_iff ht).2 hx)
def RO(R L:List Nat):Prop:=R.Pairwise (·<·)∧∀ j,j∈R↔j∈L
theorem map_nodup{D:List NF}(nd:D.Nodup){R:List Nat}(hr:R.Pairwise (·<·))(hl:∀ j∈R,j<D.length):(R.map fun j=>D.getD j .zero).Nodup:=by
 rw[List.Nodup,List.pairwise_map]
 refine List.Pairwise.imp_of_mem ?_ hr
 intro a b ha hb hab e
 have:=nodup_get nd (getD_some (hl a ha)) (by rw[e];exact getD_some (hl b hb))
 omega
theorem map_tell{D:List NF}(wc:∀ x∈D,WC x){R:List Nat}(hl:∀ j∈R,j<D.length):Tell (R.map fun j=>D.getD j .zero) :=
 tell_wf fun x hx=>by
  obtain ⟨j,hj,rfl⟩:=List.mem_map.1 hx
  exact (wc _ (getD_mem (hl j hj))).1
theorem ro_srt{D:List NF}(nd:D.Nodup)(wc:∀ x∈D,WC x){R L:List Nat}(h:RO R L)(hl:∀ j∈L,j<D.length){l:List NF}(ht:Tell l)(hm:∀ p,p∈l↔p∈L.map fun j=>D.getD j .zero) :
 srt (R.map fun j=>D.getD j .zero)=srt l∧(srt l).length=R.length:=by
 have hR:∀ j∈R,j<D.length:=fun j hj=>hl j ((h.2 j).1 hj)
 have e:srt (R.map fun j=>D.getD j .zero)=srt l:=by
  refine srt_congr (map_tell wc hR) ht fun p=>?_
  rw[hm p]
  simp only[List.mem_map]
  exact ⟨fun ⟨j,hj,e⟩=>⟨j,(h.2 j).1 hj,e⟩,fun ⟨j,hj,e⟩=>⟨j,(h.2 j).2 hj,e⟩⟩
 refine ⟨e,?_⟩
 rw[← e,srt_len (map_tell wc hR) (map_nodup nd h.1 hR)]
 simp
theorem mkS_many{l:List NF}(h:2≤l.length):mkS l=.sum l:=by
 match l,h with
 | a::b::r,_=>rfl
def OrOK(U:List NF)(ls:List NF):Prop:=(joinB (ls.flatMap parts)≠0→.set (joinB (ls.flatMap parts))∈U)∧(2≤(srt (coreL (ls.flatMap parts))).length→orL ls∈U)∧(ls.flatMap parts).length≤9000000000000∧ls.length≤9000000000000
mutual
def Need(c:Nat)(U:List NF):NF→Prop
 | .zero=>True
 | .one=>True
 | .set _=>True
 | .pair a b=>Need c U a∧(∀ f∈crT (left c a) b,f∈U)∧(nul a=true→Need c U b∧OrOK U [thenN (left c a) b,left c b])
 | .sum l=>NeedL c U l∧OrOK U (leftL c l)
 | .star a=>Need c U a∧∀ f∈crT (left c a) (.star a),f∈U
def NeedL(c:Nat)(U:List NF):List NF→Prop
 | []=>True
 | x::r=>Need c U x∧NeedL c U r
end
theorem needL_mem{c:Nat}{U:List NF}:∀ {l:List NF},NeedL c U l↔∀ x∈l,Need c U x
 | []=>by simp[NeedL]
 | x::r=>by simp only[NeedL,List.mem_cons,forall_eq_or_imp,needL_mem]
theorem nulL_any:∀ l:List NF,nulL l=l.any nul
 | []=>rfl
 | x::r=>by simp[nulL,nulL_any r]
theorem any_congr{a b:List NF}(h:∀ p,p∈a↔p∈b):a.any nul=b.any nul:=by
 rw[Bool.eq_iff_iff,List.any_eq_true,List.any_eq_true]
 exact ⟨fun ⟨x,hx,e⟩=>⟨x,(h x).1 hx,e⟩,fun ⟨x,hx,e⟩=>⟨x,(h x).2 hx,e⟩⟩
theorem put_le{A:List Nat}{n i:Nat}(h:A.Pairwise (·≤·))(hi:i≤A.length)(h1:∀ x∈A.drop i,n<x)(h2:0<i→A.getD (i-1) 0≤n):(A.take i++n::A.drop i).Pairwise (·≤·):=by
 have hs:(A.take i++A.drop i).Pairwise (·≤·):=by rw[List.take_append_drop];exact h
 rw[List.pairwise_append]at hs ⊢
 have ht:∀ x∈A.take i,x≤n:=by
  intro x hx
  obtain ⟨j,hj,rfl⟩:=List.mem_iff_getElem.1 hx
  simp only[List.length_take]at hj
  rw[List.getElem_take]
  have h3:=h2 (by omega)
  have h4:A.getD (i-1) 0=A[i-1]'(by omega):=by simp[List.getD,show i-1<A.length by omega]
  rw[h4]at h3
  refine Nat.le_trans ?_ h3
  by_cases e:j=i-1
  ·subst e;exact Nat.le_refl _
  ·exact List.pairwise_iff_getElem.1 h j (i-1) (by omega) (by omega) (by omega)
 refine ⟨hs.1,?_,?_⟩
 ·rw[List.pairwise_cons]
  exact ⟨fun x hx=>Nat.le_of_lt (h1 x hx),hs.2.1⟩
 ·intro x hx y hy
  rcases List.mem_cons.1 hy with e|e
  ·subst e;exact ht x hx
  ·exact hs.2.2 x hx y e
theorem put_memN{A:List Nat}{n i:Nat}(j:Nat):j∈A.take i++n::A.drop i↔j∈A∨j=n:=by
 have e:j∈A↔j∈A.take i++A.drop i:=by rw[List.take_append_drop]
 rw[e]
 simp only[List.mem_append,List.mem_cons]
 constructor
 ·rintro (h|h|h)
  ·exact .inl (.inl h)
  ·exact .inr h
  ·exact .inl (.inr h)
 ·rintro ((h|h)|h)
  ·exact .inl h
  ·exact .inr (.inr h)
  ·exact .inr (.inl h)
theorem ro_step{R O:List Nat}{k:Nat}(hR:R.Pairwise (·≤·))(hk:k<R.length)(h:RO O (R.take k)) :
 ((k=0∨R.getD (k-1) 0≠R[k])→RO (O++[R[k]]) (R.take (k+1)))∧(¬ (k=0∨R.getD (k-1) 0≠R[k])→RO O (R.take (k+1))):=by
 have ht:R.take (k+1)=R.take k++[R[k]]:=by rw[List.take_add_one,List.getElem?_eq_getElem hk];rfl
 have hp:=List.pairwise_iff_getElem.1 hR
 constructor
 ·intro hc
  constructor
  ·rw[List.pairwise_append]
   refine ⟨h.1,by simp,?_⟩
   intro x hx y hy
   simp at hy;subst hy
   obtain ⟨j,hj,rfl⟩:=List.mem_iff_getElem.1 ((h.2 x).1 hx)
   simp only[List.length_take]at hj
   rw[List.getElem_take]
   have h1:=hp j k (by omega) hk (by omega)
   have h4:R.getD (k-1) 0=R[k-1]'(by omega):=by simp[List.getD,show k-1<R.length by omega]
   rcases hc with hc|hc
   ·omega
   ·rw[h4]at hc
    have h2:R[j]≤R[k-1]:=by
     by_cases e:j=k-1
     ·subst e;exact Nat.le_refl _
     ·exact hp j (k-1) (by omega) (by omega) (by omega)
    have h3:=hp (k-1) k (by omega) hk (by omega)
    omega
  ·intro j;rw[ht];simp only[List.mem_append,h.2 j]
 ·intro hc
  have hc1:¬ k=0:=fun e=>hc (.inl e)
  have hc2:R.getD (k-1) 0=R[k]:=Decidable.byContradiction fun e=>hc (.inr e)
  refine ⟨h.1,fun j=>?_⟩
  rw[ht,h.2 j]
  simp only[List.mem_append,List.mem_singleton]
  refine ⟨fun e=>.inl e,fun e=>e.elim id fun e=>?_⟩
  subst e
  rw[← hc2]
  have h4:R.getD (k-1) 0=R[k-1]'(by omega):=by simp[List.getD,show k-1<R.length by omega]
  rw[h4]
  exact List.mem_iff_getElem.2 ⟨k-1,by simp;omega,by simp⟩
open Go.RowKit
theorem IL.cell{base:Nat}{w:World}{g n cap:Nat}{L:List Nat}(h:IL base w (.slice (some ⟨g,0,none⟩) n cap) L)(j:Nat)(hj:j<L.length):w.cell? ⟨g,j,none⟩=some (.int .i64 (L[j]:Nat)):=by
 have hc:=World.ownsRow.cells h (g:=g) rfl j (.int .i64 (L[j]:Nat)) (by simp[nv,hj])
 rw[add0]at hc;exact hc
theorem IL.fz{base:Nat}{w:World}{g n cap:Nat}{L:List Nat}(h:IL base w (.slice (some ⟨g,0,none⟩) n cap) L)(j:Nat):w.frozen? ⟨g,j,none⟩=false:=by
 obtain ⟨a,c,e⟩:=own_shape h
 simp at e
 obtain ⟨_,rfl,_⟩:=e
 exact World.ownsRow.frozenAt h j
theorem IL.set{base:Nat}{w:World}{g n cap:Nat}{L:List Nat}(h:IL base w (.slice (some ⟨g,0,none⟩) n cap) L)(j m:Nat):IL base (w.setCell ⟨g,j,none⟩ (.int .i64 m)) (.slice (some ⟨g,0,none⟩) n cap) (L.set j m):=by
 obtain ⟨a,c,e⟩:=own_shape h
 simp at e
 obtain ⟨_,rfl,_⟩:=e
 have:=(World.ownsRow.stored h j (.int .i64 m)).1
 unfold IL
 simpa[nv,List.map_set] using this
theorem own_mono{w:World}{base b2:Nat}{e:TypeId}{size:Nat}{v:Value}{n:Nat}{xs:List Value}(h:w.ownsRow base e size v n xs)(hb:b2≤base):w.ownsRow b2 e size v n xs:=by
 refine ⟨h.1,?_⟩
 rcases h.2 with hn|⟨g,cap,cur,hv,hg,rest⟩
 ·exact .inl hn
 ·exact .inr ⟨g,cap,cur,hv,Nat.le_trans hb hg,rest⟩
theorem shift_set(A:List Nat)(k y:Nat)(hk:k<A.length):(A.take (k+1)++y::A.drop (k+1)).set (k+1) (A[k])=A.take k++A[k]::A.drop k:=by
 have e1:A.take (k+1)=A.take k++[A[k]]:=by rw[List.take_add_one,List.getElem?_eq_getElem hk];rfl
 rw[List.drop_eq_getElem_cons hk,e1,List.append_assoc]
 rw[List.set_append_right _ _ (by simp;omega)]
 simp only[List.length_take,Nat.min_eq_left (Nat.le_of_lt hk)]
 rw[show k+1-k=1 by omega]
 rfl
theorem put_set(A:List Nat)(k y m:Nat)(hk:k≤A.length):(A.take k++y::A.drop k).set k m=A.take k++m::A.drop k:=by
 rw[List.set_append_right _ _ (by simp;omega)]
 simp only[List.length_take,Nat.min_eq_left hk,Nat.sub_self]
 rfl
theorem mid_get(A:List Nat)(k y:Nat)(hk:k<A.length)(h:k<(A.take (k+1)++y::A.drop (k+1)).length):(A.take (k+1)++y::A.drop (k+1))[k]=A[k]:=by
 rw[List.getElem_append_left (by simp;omega)]
 simp
theorem mid_len(A:List Nat)(k y:Nat)(hk:k≤A.length):(A.take k++y::A.drop k).length=A.length+1:=by
 simp;omega
def RiseA(A T:List Nat):Prop:=A.Pairwise (·≤·)∧∀ x,x∈A↔x∈T
theorem RiseA.put{A L:List Nat}{j k:Nat}(h:RiseA A (L.take j))(hj:j<L.length)(hk:k≤A.length)(h1:∀ x∈A.drop k,L[j]<x)(h2:0<k→A.getD (k-1) 0≤L[j]):RiseA (A.take k++L[j]::A.drop k) (L.take (j+1)):=by
 refine ⟨put_le h.1 hk h1 h2,fun x=>?_⟩
 have e:L.take (j+1)=L.take j++[L[j]]:=by rw[List.take_add_one,List.getElem?_eq_getElem hj];rfl
 rw[put_memN,h.2 x,e]
 simp only[List.mem_append,List.mem_singleton]
theorem xrising_any(v:Value)(L:List Nat)(w:World)(hv:NL .i64 w v L)(hL:L.length≤9500000000000) :
 Calls Tryz.prog 148 #[v] w fun e w'=>∃ v' R,e=.returned v'∧IL w.heap.size w' v' R∧RO R L∧Frm [] w w':=by
 obtain ⟨a,cap,rfl,h1⟩:=hv
 have H1:=hide h1
 clear h1
 go_enter Tryz.func148,Tryz.ntmps148
 go_wp2_with fail
 go_loopg [3,13] L.length (fun k vr vi wr=>∃ (j:Nat) (A:List Nat),j+k=L.length∧vi=.int .i64 j∧IL w.heap.size wr vr A∧j≤A.length∧A.length≤j∧RiseA A (L.take j)∧Frm [] w wr)
 case atStart =>
  refine ⟨0,[],by omega,rfl,World.ownsRow_lit _ #[] 0 (Nat.le_refl _) (by unfold maxLen;omega) (by simp),by simp,by simp,⟨by simp,by simp⟩,(Frm.refl _ _).alloc _⟩
 case round =>
  obtain ⟨j,A,hj,rfl,hil,hA1,hA2,hri,hfr⟩:=hrel
  obtain ⟨af,capf,rfl⟩:=own_shape hil
  have U:=hide hil
  have F:=hide hfr
  have RI:=hide hri
  have z:=hfr.size
  clear hil hfr hri
  obtain ⟨wo,hwo⟩:∃ wo,wo=wr:=⟨_,rfl⟩
  subst hwo
  obtain ⟨go,hgo⟩:∃ go,go=gk:=⟨_,rfl⟩
  subst hgo
  by_cases hlt:j<L.length
  ·obtain ⟨g,off,rfl,hg,hc⟩:=H1.out j hlt
   have hc2:wo.cell? ⟨g,off+j,none⟩=some (.int .i64 (L[j]:Nat)):=(F.out.cell (p:=⟨g,off+j,none⟩) hg (by simp)).trans hc
   have PUT:Hid (∀ k,k≤A.length→(∀ x∈A.drop k,L[j]<x)→(0<k→A.getD (k-1) 0≤L[j])→RiseA (A.take k++L[j]::A.drop k) (L.take (j+1))):=fun k h1 h2 h3=>RI.out.put hlt h1 h2 h3
   clear hc
   generalize L[j]=m at *
   go_wp2_with (first | (at_builtin;refine wp_appI _ rfl _ _ rfl w.heap.size (.slice af A.length capf) A m wo.heap.size rfl (U.out.alloc _) rfl (cell_newX _ _ _ _ rfl) (by omega) (by simp;omega) ?_;intro gg cap2 w5 hown hgrow hat hgl;have U5:=hide hown;have F5:=hide ((F.out.alloc _).grown hgrow (fun k hk=>Or.inr (U.out.lt _ hk).1));clear hown hgrow hat))
   go_loopg [6] A.length (fun k vi wr=>vi=.int .i64 (k:Nat)∧k≤A.length∧(∃ y,IL w.heap.size wr (.slice (some ⟨gg,0,none⟩) (A.length+1) cap2) (A.take k++y::A.drop k))∧Hid (∀ x∈A.drop k,m<x)∧Frm [] w wr)
   case atStart=>exact ⟨by go_num,by omega,⟨m,by simpa using U5.out⟩,by intro x hx;simp at hx,F5.out⟩
   case round =>
    clear U5 F5 U F hc2
    obtain ⟨rfl,hk,⟨y,hu⟩,hgt,hf⟩:=hrel
    have U6:=hide hu
    have F6:=hide hf
    have z6:=hf.size
    clear hu hf
    cases gk with
    | zero =>
      have q:=U6.out.fz 0
      obtain ⟨z0,qc⟩:∃ z0,wr.cell? ⟨gg,0,none⟩=some z0:=⟨_,U6.out.cell 0 (by rw[mid_len A 0 y (by omega)];omega)⟩
      have P6:=hide (PUT.out 0 (by omega) hgt.out (by omega))
      have V6:Hid (IL w.heap.size (wr.setCell ⟨gg,0,none⟩ (.int .i64 m)) (.slice (some ⟨gg,0,none⟩) (A.length+1) cap2) (A.take 0++m::A.drop 0)):=by
       have:=U6.out.set 0 m
       rw[put_set A 0 y m (by omega)]at this;exact this
      have hge:=(U6.out.lt _ rfl).1
      go_wp2
      go_roundg (go-1)
      case measure=>omega
      case rel =>
       refine ⟨j+1,_,by omega,by go_num,V6.out,?_,?_,P6.out,F6.out.setCell (.inr hge) _⟩
       ·rw[mid_len A 0 m (by omega)];omega
       ·rw[mid_len A 0 m (by omega)];omega
    | succ k =>
      have hkl:k<A.length:=by omega
      have hge:=(U6.out.lt _ rfl).1
      have q:=U6.out.fz (k+1)
      obtain ⟨z0,qc⟩:∃ z0,wr.cell? ⟨gg,k+1,none⟩=some z0:=⟨_,U6.out.cell (k+1) (by rw[mid_len A (k+1) y (by omega)];omega)⟩
      have qk:wr.cell? ⟨gg,k,none⟩=some (.int .i64 (A[k]:Nat)):=by
       have:=U6.out.cell k (by rw[mid_len A (k+1) y (by omega)];omega)
       rw[mid_get A k y hkl]at this;exact this
      have SH:=hide (shift_set A k y hkl)
      have DR:Hid (A.drop k=A[k]::A.drop (k+1)):=List.drop_eq_getElem_cons hkl
      have GD:Hid (A.getD k 0=A[k]):=by show _=_;simp[List.getD,hkl]
      generalize A[k]=p at *
      by_cases hpm:m<p
      ·have V6:Hid (IL w.heap.size (wr.setCell ⟨gg,k+1,none⟩ (.int .i64 p)) (.slice (some ⟨gg,0,none⟩) (A.length+1) cap2) (A.take k++p::A.drop k)):=by
        have:=U6.out.set (k+1) p
        rw[SH.out]at this;exact this
       have hgt2:Hid (∀ x∈A.drop k,m<x):=by
        intro x hx
        rw[DR.out]at hx
        rcases List.mem_cons.1 hx with e|e
        ·omega
        ·exact hgt.out x e
       go_wp2
       go_roundg k
       case measure=>omega
       case rel=>exact ⟨by go_num,by omega,⟨p,V6.out⟩,hgt2,F6.out.setCell (.inr hge) _⟩
      ·have P6:=hide (PUT.out (k+1) (by omega) hgt.out (by intro _;show A.getD k 0≤m;rw[GD.out];omega))
       have V6:Hid (IL w.heap.size (wr.setCell ⟨gg,k+1,none⟩ (.int .i64 m)) (.slice (some ⟨gg,0,none⟩) (A.length+1) cap2) (A.take (k+1)++m::A.drop (k+1))):=by
        have:=U6.out.set (k+1) m
        rw[put_set A (k+1) y m (by omega)]at this;exact this
       go_wp2
       go_roundg (go-1)
       case measure=>omega
       case rel =>
        refine ⟨j+1,_,by omega,by go_num,V6.out,?_,?_,P6.out,F6.out.setCell (.inr hge) _⟩
        ·rw[mid_len A (k+1) m (by omega)];omega
        ·rw[mid_len A (k+1) m (by omega)];omega
  ·have hjl:j=L.length:=by omega
   have RI2:Hid (RiseA A L):=by
    have:=RI.out
    rw[hjl,List.take_length]at this;exact this
   obtain ⟨a',c',e',hN⟩:=row_nl U.out
   simp only[Value.slice.injEq,true_and]at e'
   obtain ⟨rfl,rfl⟩:=e'
   have HN:=hide hN
   clear hN RI hjl H1
   go_wp2_with fail
   go_loopg [7,53] A.length (fun k vo vi wr=>∃ (j2:Nat) (O:List Nat),j2+k=A.length∧vi=.int .i64 j2∧IL wo.heap.size wr vo O∧O.length≤j2∧RO O (A.take j2)∧Frm [] wo wr)
   case atStart =>
    refine ⟨0,[],by omega,rfl,World.ownsRow_lit _ #[] 0 (Nat.le_refl _) (by unfold maxLen;omega) (by simp),by simp,⟨by simp,by simp⟩,(Frm.refl _ _).alloc _⟩
   case round =>
    obtain ⟨j2,O,hj2,rfl,hio,hO,hro,hf2⟩:=hrel
    obtain ⟨ao,capo,rfl⟩:=own_shape hio
    have UO:=hide hio
    have FO:=hide hf2
    have RO1:=hide hro
    have zo:=hf2.size
    clear hio hf2 hro
    obtain ⟨w3,hw3⟩:∃ w3,w3=wr:=⟨_,rfl⟩
    subst hw3
    by_cases hlt2:j2<A.length
    ·obtain ⟨g,off,rfl,hg,hc⟩:=HN.out j2 hlt2
     have hc2:w3.cell? ⟨g,off+j2,none⟩=some (.int .i64 (A[j2]:Nat)):=(FO.out.cell (p:=⟨g,off+j2,none⟩) hg (by simp)).trans hc
     have ST:=hide (ro_step RI2.out.1 hlt2 RO1.out)
     clear hc
     cases j2 with
     | zero =>
       have S1:=hide (ST.out.1 (.inl rfl))
       rw[Nat.add_zero]at hc2
       generalize A[0]=m at *
       go_wp2_with (first | (at_builtin;refine wp_appI _ rfl _ _ rfl wo.heap.size (.slice ao O.length capo) O m w3.heap.size rfl (UO.out.alloc _) rfl (cell_newX _ _ _ _ rfl) (by omega) (by simp;omega) ?_;intro gg cap2 w5 hown hgrow hat hgl;have U5:=hide hown;have F5:=hide ((FO.out.alloc _).grown hgrow (fun k hk=>Or.inr (UO.out.lt _ hk).1));clear hown hgrow hat))
       go_roundg (gk-1)
       case measure=>omega
       case rel=>exact ⟨1,O++[m],by omega,by go_num,by simpa using U5.out,by simp only[List.length_append,List.length_cons,List.length_nil];omega,S1.out,F5.out⟩
     | succ k =>
       obtain ⟨g2,off2,e2,hg2,hck⟩:=HN.out k (by omega)
       simp only[Option.some.injEq,Addr.mk.injEq,and_true]at e2
       obtain ⟨rfl,rfl⟩:=e2
       have hc3:w3.cell? ⟨g,off+k,none⟩=some (.int .i64 (A[k]'(by omega):Nat)):=(FO.out.cell (p:=⟨g,off+k,none⟩) hg2 (by simp)).trans hck
       have GD:Hid (A.getD k 0=A[k]'(by omega)):=by show _=_;simp[List.getD,show k<A.length by omega]
       clear hck
       generalize A[k]'(by omega)=p at *
       generalize A[k+1]=m at *
       by_cases hpm:p=m
       ·have S1:=hide (ST.out.2 (fun e=>e.elim (fun e=>by omega) (fun e=>e (by show A.getD k 0=m;rw[GD.out,hpm]))))
        subst hpm
        clear ST
        go_wp2
        go_roundg (gk-1)
        case measure=>omega
        case rel=>exact ⟨k+1+1,O,by omega,by go_num,UO.out,by omega,S1.out,FO.out⟩
       ·have S1:=hide (ST.out.1 (.inr (by show A.getD k 0≠m;rw[GD.out];exact hpm)))
        have hb:((p:Int) != (m:Int))=true:=by rw[bne_iff_ne];omega
        clear ST
        go_wp2_with (first | (at_builtin;refine wp_appI _ rfl _ _ rfl wo.heap.size (.slice ao O.length capo) O m w3.heap.size rfl (UO.out.alloc _) rfl (cell_newX _ _ _ _ rfl) (by omega) (by simp;omega) ?_;intro gg cap2 w5 hown hgrow hat hgl;have U5:=hide hown;have F5:=hide ((FO.out.alloc _).grown hgrow (fun k hk=>Or.inr (UO.out.lt _ hk).1));clear hown hgrow hat))
        go_roundg (gk-1)
        case measure=>omega
        case rel=>exact ⟨k+1+1,O++[m],by omega,by go_num,by simpa using U5.out,by simp only[List.length_append,List.length_cons,List.length_nil];omega,S1.out,F5.out⟩
    ·have hjl:j2=A.length:=by omega
     have RO2:Hid (RO O L):=by
      have:=RO1.out
      rw[hjl,List.take_length]at this
      exact ⟨this.1,fun x=>(this.2 x).trans (RI2.out.2 x)⟩
     clear RO1 hjl
     go_wp2
     go_ret
     exact ⟨_,O,rfl,own_mono UO.out z,RO2.out,F.out.trans FO.out⟩
end Go.Proofs.YtjkialjoamgbgaaGreat
