import Derived.Test.YtpcbbbilmpobaaaGreatDoorJ35
set_option linter.unusedVariables false
set_option linter.unusedSimpArgs false
set_option linter.unnecessarySimpa false
set_option maxRecDepth 100000
set_option maxHeartbeats 4000000
namespace Go.Proofs.YtpcbbbilmpobaaaGreatDoor
set_option linter.unusedVariables false
set_option linter.unusedSimpArgs false
theorem ris_nodup{l:List NF}(h:Ris l):l.Nodup:=by
 refine List.Pairwise.imp ?_ h;intro a b hab e;subst e;rw[blt_irrefl]at hab;exact absurd hab (by decide)
theorem srt_congr{a b:List NF}(ha:Tell a)(hb:Tell b)(h:∀ p,p∈a↔p∈b):srt a=srt b :=
 ris_ext (srt_ris a) (srt_ris b) fun p=>by rw[srt_mem_iff ha,srt_mem_iff hb];exact h p
theorem srt_len{l:List NF}(ht:Tell l)(hn:l.Nodup):(srt l).length=l.length :=
 Nat.le_antisymm (nodup_len (ris_nodup (srt_ris l)) fun x hx=>srt_mem hx) (nodup_len hn fun x hx=>(srt_mem_iff ht).2 hx)
def RO(R L:List Nat):Prop:=R.Pairwise (·<·)∧∀ j,j∈R↔j∈L
theorem map_nodup{D:List NF}(nd:D.Nodup){R:List Nat}(hr:R.Pairwise (·<·))(hl:∀ j∈R,j<D.length):(R.map fun j=>D.getD j .zero).Nodup:=by
 rw[List.Nodup,List.pairwise_map];refine List.Pairwise.imp_of_mem ?_ hr;intro a b ha hb hab e;have:=nodup_get nd (getD_some (hl a ha)) (by rw[e];exact getD_some (hl b hb));omega
theorem map_tell{D:List NF}(wc:∀ x∈D,WC x){R:List Nat}(hl:∀ j∈R,j<D.length):Tell (R.map fun j=>D.getD j .zero) :=
 tell_wf fun x hx=>by
  obtain ⟨j,hj,rfl⟩:=List.mem_map.1 hx;exact (wc _ (getD_mem (hl j hj))).1
theorem ro_srt{D:List NF}(nd:D.Nodup)(wc:∀ x∈D,WC x){R L:List Nat}(h:RO R L)(hl:∀ j∈L,j<D.length){l:List NF}(ht:Tell l)(hm:∀ p,p∈l↔p∈L.map fun j=>D.getD j .zero) :
 srt (R.map fun j=>D.getD j .zero)=srt l∧(srt l).length=R.length:=by
 have hR:∀ j∈R,j<D.length:=fun j hj=>hl j ((h.2 j).1 hj)
 have e:srt (R.map fun j=>D.getD j .zero)=srt l:=by
  refine srt_congr (map_tell wc hR) ht fun p=>?_
  rw[hm p];simp only[List.mem_map];exact ⟨fun ⟨j,hj,e⟩=>⟨j,(h.2 j).1 hj,e⟩,fun ⟨j,hj,e⟩=>⟨j,(h.2 j).2 hj,e⟩⟩
 refine ⟨e,?_⟩;rw[← e,srt_len (map_tell wc hR) (map_nodup nd h.1 hR)];simp
theorem mkS_many{l:List NF}(h:2≤l.length):mkS l=.sum l:=by
 match l,h with
 | a::b::r,_=>rfl
def OrOK(U:List NF)(ls:List NF):Prop:=(joinB (ls.flatMap parts)≠0→.set (joinB (ls.flatMap parts))∈U)∧(2≤(srt (coreL (ls.flatMap parts))).length→orL ls∈U)∧(ls.flatMap parts).length≤9000000000000∧ls.length≤9000000000000
mutual
def Need(c:Nat)(U:List NF):NF→Prop
 | .zero=>True
 | .one=>True
 | .set _=>True
 | .pair a b=>Need c U a∧(∀ f∈crT (left c a) b,f∈U)∧(nul a=true→Need c U b∧OrOK U [thenN (left c a) b,left c b])
 | .sum l=>NeedL c U l∧OrOK U (leftL c l)
 | .star a=>Need c U a∧∀ f∈crT (left c a) (.star a),f∈U
def NeedL(c:Nat)(U:List NF):List NF→Prop
 | []=>True
 | x::r=>Need c U x∧NeedL c U r
end
theorem needL_mem{c:Nat}{U:List NF}:∀ {l:List NF},NeedL c U l↔∀ x∈l,Need c U x
 | []=>by simp[NeedL]
 | x::r=>by simp only[NeedL,List.mem_cons,forall_eq_or_imp,needL_mem]
theorem nulL_any:∀ l:List NF,nulL l=l.any nul
 | []=>rfl
 | x::r=>by simp[nulL,nulL_any r]
theorem any_congr{a b:List NF}(h:∀ p,p∈a↔p∈b):a.any nul=b.any nul:=by
 rw[Bool.eq_iff_iff,List.any_eq_true,List.any_eq_true];exact ⟨fun ⟨x,hx,e⟩=>⟨x,(h x).1 hx,e⟩,fun ⟨x,hx,e⟩=>⟨x,(h x).2 hx,e⟩⟩
theorem put_le{A:List Nat}{n i:Nat}(h:A.Pairwise (·≤·))(hi:i≤A.length)(h1:∀ x∈A.drop i,n<x)(h2:0<i→A.getD (i-1) 0≤n):(A.take i++n::A.drop i).Pairwise (·≤·):=by
 have hs:(A.take i++A.drop i).Pairwise (·≤·):=by rw[List.take_append_drop];exact h
 rw[List.pairwise_append]at hs ⊢;have ht:∀ x∈A.take i,x≤n:=by
  intro x hx;obtain ⟨j,hj,rfl⟩:=List.mem_iff_getElem.1 hx;simp only[List.length_take]at hj;rw[List.getElem_take];have h3:=h2 (by omega);have h4:A.getD (i-1) 0=A[i-1]'(by omega):=by simp[List.getD,show i-1<A.length by omega]
  rw[h4]at h3;refine Nat.le_trans ?_ h3
  by_cases e:j=i-1
  ·subst e;exact Nat.le_refl _
  ·exact List.pairwise_iff_getElem.1 h j (i-1) (by omega) (by omega) (by omega)
 refine ⟨hs.1,?_,?_⟩
 ·rw[List.pairwise_cons]
  exact ⟨fun x hx=>Nat.le_of_lt (h1 x hx),hs.2.1⟩
 ·intro x hx y hy
  rcases List.mem_cons.1 hy with e|e
  ·subst e;exact ht x hx
  ·exact hs.2.2 x hx y e
theorem put_memN{A:List Nat}{n i:Nat}(j:Nat):j∈A.take i++n::A.drop i↔j∈A∨j=n:=by
 have e:j∈A↔j∈A.take i++A.drop i:=by rw[List.take_append_drop]
 rw[e];simp only[List.mem_append,List.mem_cons]
 constructor
 ·rintro (h|h|h)
  ·exact .inl (.inl h)
  ·exact .inr h
  ·exact .inl (.inr h)
 ·rintro ((h|h)|h)
  ·exact .inl h
  ·exact .inr (.inr h)
  ·exact .inr (.inl h)
theorem ro_step{R O:List Nat}{k:Nat}(hR:R.Pairwise (·≤·))(hk:k<R.length)(h:RO O (R.take k)) :
 ((k=0∨R.getD (k-1) 0≠R[k])→RO (O++[R[k]]) (R.take (k+1)))∧(¬ (k=0∨R.getD (k-1) 0≠R[k])→RO O (R.take (k+1))):=by
 have ht:R.take (k+1)=R.take k++[R[k]]:=by rw[List.take_add_one,List.getElem?_eq_getElem hk];rfl
 have hp:=List.pairwise_iff_getElem.1 hR
 constructor
 ·intro hc
  constructor
  ·rw[List.pairwise_append]
   refine ⟨h.1,by simp,?_⟩;intro x hx y hy;simp at hy;subst hy;obtain ⟨j,hj,rfl⟩:=List.mem_iff_getElem.1 ((h.2 x).1 hx);simp only[List.length_take]at hj;rw[List.getElem_take];have h1:=hp j k (by omega) hk (by omega);have h4:R.getD (k-1) 0=R[k-1]'(by omega):=by simp[List.getD,show k-1<R.length by omega]
   rcases hc with hc|hc
   ·omega
   ·rw[h4]at hc
    have h2:R[j]≤R[k-1]:=by
     by_cases e:j=k-1
     ·subst e;exact Nat.le_refl _
     ·exact hp j (k-1) (by omega) (by omega) (by omega)
    have h3:=hp (k-1) k (by omega) hk (by omega);omega
  ·intro j;rw[ht];simp only[List.mem_append,h.2 j]
 ·intro hc
  have hc1:¬ k=0:=fun e=>hc (.inl e)
  have hc2:R.getD (k-1) 0=R[k]:=Decidable.byContradiction fun e=>hc (.inr e)
  refine ⟨h.1,fun j=>?_⟩;rw[ht,h.2 j];simp only[List.mem_append,List.mem_singleton];refine ⟨fun e=>.inl e,fun e=>e.elim id fun e=>?_⟩;subst e;rw[← hc2];have h4:R.getD (k-1) 0=R[k-1]'(by omega):=by simp[List.getD,show k-1<R.length by omega]
  rw[h4];exact List.mem_iff_getElem.2 ⟨k-1,by simp;omega,by simp⟩
open Go.RowKit
theorem IL.cell{base:Nat}{w:World}{g n cap:Nat}{L:List Nat}(h:IL base w (.slice (some ⟨g,0,none⟩) n cap) L)(j:Nat)(hj:j<L.length):w.cell? ⟨g,j,none⟩=some (.int .i64 (L[j]:Nat)):=by
 have hc:=World.ownsRow.cells h (g:=g) rfl j (.int .i64 (L[j]:Nat)) (by simp[nv,hj]);rw[add0]at hc;exact hc
theorem IL.fz{base:Nat}{w:World}{g n cap:Nat}{L:List Nat}(h:IL base w (.slice (some ⟨g,0,none⟩) n cap) L)(j:Nat):w.frozen? ⟨g,j,none⟩=false:=by
 obtain ⟨a,c,e⟩:=own_shape h;simp at e;obtain ⟨_,rfl,_⟩:=e;exact World.ownsRow.frozenAt h j
theorem IL.set{base:Nat}{w:World}{g n cap:Nat}{L:List Nat}(h:IL base w (.slice (some ⟨g,0,none⟩) n cap) L)(j m:Nat):IL base (w.setCell ⟨g,j,none⟩ (.int .i64 m)) (.slice (some ⟨g,0,none⟩) n cap) (L.set j m):=by
 obtain ⟨a,c,e⟩:=own_shape h;simp at e;obtain ⟨_,rfl,_⟩:=e;have:=(World.ownsRow.stored h j (.int .i64 m)).1;unfold IL;simpa[nv,List.map_set] using this
theorem own_mono{w:World}{base b2:Nat}{e:TypeId}{size:Nat}{v:Value}{n:Nat}{xs:List Value}(h:w.ownsRow base e size v n xs)(hb:b2≤base):w.ownsRow b2 e size v n xs:=by
 refine ⟨h.1,?_⟩;rcases h.2 with hn|⟨g,cap,cur,hv,hg,rest⟩
 ·exact .inl hn
 ·exact .inr ⟨g,cap,cur,hv,Nat.le_trans hb hg,rest⟩
theorem shift_set(A:List Nat)(k y:Nat)(hk:k<A.length):(A.take (k+1)++y::A.drop (k+1)).set (k+1) (A[k])=A.take k++A[k]::A.drop k:=by
 have e1:A.take (k+1)=A.take k++[A[k]]:=by rw[List.take_add_one,List.getElem?_eq_getElem hk];rfl
 rw[List.drop_eq_getElem_cons hk,e1,List.append_assoc];rw[List.set_append_right _ _ (by simp;omega)];simp only[List.length_take,Nat.min_eq_left (Nat.le_of_lt hk)];rw[show k+1-k=1 by omega]
 rfl
theorem put_set(A:List Nat)(k y m:Nat)(hk:k≤A.length):(A.take k++y::A.drop k).set k m=A.take k++m::A.drop k:=by
 rw[List.set_append_right _ _ (by simp;omega)];simp only[List.length_take,Nat.min_eq_left hk,Nat.sub_self]
 rfl
theorem mid_get(A:List Nat)(k y:Nat)(hk:k<A.length)(h:k<(A.take (k+1)++y::A.drop (k+1)).length):(A.take (k+1)++y::A.drop (k+1))[k]=A[k]:=by
 rw[List.getElem_append_left (by simp;omega)];simp
theorem mid_len(A:List Nat)(k y:Nat)(hk:k≤A.length):(A.take k++y::A.drop k).length=A.length+1:=by
 simp;omega
def RiseA(A T:List Nat):Prop:=A.Pairwise (·≤·)∧∀ x,x∈A↔x∈T
theorem RiseA.put{A L:List Nat}{j k:Nat}(h:RiseA A (L.take j))(hj:j<L.length)(hk:k≤A.length)(h1:∀ x∈A.drop k,L[j]<x)(h2:0<k→A.getD (k-1) 0≤L[j]):RiseA (A.take k++L[j]::A.drop k) (L.take (j+1)):=by
 refine ⟨put_le h.1 hk h1 h2,fun x=>?_⟩;have e:L.take (j+1)=L.take j++[L[j]]:=by rw[List.take_add_one,List.getElem?_eq_getElem hj];rfl
 rw[put_memN,h.2 x,e];simp only[List.mem_append,List.mem_singleton]
theorem xrising_any(v:Value)(L:List Nat)(w:World)(hv:NL .i64 w v L)(hL:L.length≤9500000000000) :
 Calls Tryz.prog 168 #[v] w fun e w'=>∃ v' R,e=.returned v'∧IL w.heap.size w' v' R∧RO R L∧Frm [] w w':=by
 obtain ⟨a,cap,rfl,h1⟩:=hv;have H1:=hide h1;clear h1;go_enter Tryz.func168,Tryz.ntmps168
 go_wp2_with fail
 go_loopg [3,13] L.length (fun k vr vi wr=>∃ (j:Nat) (A:List Nat),j+k=L.length∧vi=.int .i64 j∧IL w.heap.size wr vr A∧j≤A.length∧A.length≤j∧RiseA A (L.take j)∧Frm [] w wr)
 case atStart =>
  refine ⟨0,[],by omega,rfl,World.ownsRow_lit _ #[] 0 (Nat.le_refl _) (by unfold maxLen;omega) (by simp),by simp,by simp,⟨by simp,by simp⟩,(Frm.refl _ _).alloc _⟩
 case round =>
  obtain ⟨j,A,hj,rfl,hil,hA1,hA2,hri,hfr⟩:=hrel;obtain ⟨af,capf,rfl⟩:=own_shape hil;have U:=hide hil;have F:=hide hfr;have RI:=hide hri;have z:=hfr.size;clear hil hfr hri;obtain ⟨wo,hwo⟩:∃ wo,wo=wr:=⟨_,rfl⟩;subst hwo;obtain ⟨go,hgo⟩:∃ go,go=gk:=⟨_,rfl⟩;subst hgo
  by_cases hlt:j<L.length
  ·obtain ⟨g,off,rfl,hg,hc⟩:=H1.out j hlt
   have hc2:wo.cell? ⟨g,off+j,none⟩=some (.int .i64 (L[j]:Nat)):=(F.out.cell (p:=⟨g,off+j,none⟩) hg (by simp)).trans hc;have PUT:Hid (∀ k,k≤A.length→(∀ x∈A.drop k,L[j]<x)→(0<k→A.getD (k-1) 0≤L[j])→RiseA (A.take k++L[j]::A.drop k) (L.take (j+1))):=fun k h1 h2 h3=>RI.out.put hlt h1 h2 h3
   clear hc;generalize L[j]=m at *;go_wp2_with (first | (at_builtin;refine wp_appI _ rfl _ _ rfl w.heap.size (.slice af A.length capf) A m wo.heap.size rfl (U.out.alloc _) rfl (cell_newX _ _ _ _ rfl) (by omega) (by simp;omega) ?_;intro gg cap2 w5 hown hgrow hat hgl;have U5:=hide hown;have F5:=hide ((F.out.alloc _).grown hgrow (fun k hk=>Or.inr (U.out.lt _ hk).1));clear hown hgrow hat))
   go_loopg [6] A.length (fun k vi wr=>vi=.int .i64 (k:Nat)∧k≤A.length∧(∃ y,IL w.heap.size wr (.slice (some ⟨gg,0,none⟩) (A.length+1) cap2) (A.take k++y::A.drop k))∧Hid (∀ x∈A.drop k,m<x)∧Frm [] w wr)
   case atStart=>exact ⟨by go_num,by omega,⟨m,by simpa using U5.out⟩,by intro x hx;simp at hx,F5.out⟩
   case round =>
    clear U5 F5 U F hc2;obtain ⟨rfl,hk,⟨y,hu⟩,hgt,hf⟩:=hrel;have U6:=hide hu;have F6:=hide hf;have z6:=hf.size;clear hu hf;cases gk with
    | zero =>
      have q:=U6.out.fz 0;obtain ⟨z0,qc⟩:∃ z0,wr.cell? ⟨gg,0,none⟩=some z0:=⟨_,U6.out.cell 0 (by rw[mid_len A 0 y (by omega)];omega)⟩;have P6:=hide (PUT.out 0 (by omega) hgt.out (by omega));have V6:Hid (IL w.heap.size (wr.setCell ⟨gg,0,none⟩ (.int .i64 m)) (.slice (some ⟨gg,0,none⟩) (A.length+1) cap2) (A.take 0++m::A.drop 0)):=by
       have:=U6.out.set 0 m;rw[put_set A 0 y m (by omega)]at this;exact this
      have hge:=(U6.out.lt _ rfl).1;go_wp2;go_roundg (go-1)
      case measure=>omega
      case rel =>
       refine ⟨j+1,_,by omega,by go_num,V6.out,?_,?_,P6.out,F6.out.setCell (.inr hge) _⟩
       ·rw[mid_len A 0 m (by omega)];omega
       ·rw[mid_len A 0 m (by omega)];omega
    | succ k =>
      have hkl:k<A.length:=by omega
      have hge:=(U6.out.lt _ rfl).1;have q:=U6.out.fz (k+1);obtain ⟨z0,qc⟩:∃ z0,wr.cell? ⟨gg,k+1,none⟩=some z0:=⟨_,U6.out.cell (k+1) (by rw[mid_len A (k+1) y (by omega)];omega)⟩;have qk:wr.cell? ⟨gg,k,none⟩=some (.int .i64 (A[k]:Nat)):=by
       have:=U6.out.cell k (by rw[mid_len A (k+1) y (by omega)];omega);rw[mid_get A k y hkl]at this;exact this
      have SH:=hide (shift_set A k y hkl);have DR:Hid (A.drop k=A[k]::A.drop (k+1)):=List.drop_eq_getElem_cons hkl;have GD:Hid (A.getD k 0=A[k]):=by show _=_;simp[List.getD,hkl]
      generalize A[k]=p at *
      by_cases hpm:m<p
      ·have V6:Hid (IL w.heap.size (wr.setCell ⟨gg,k+1,none⟩ (.int .i64 p)) (.slice (some ⟨gg,0,none⟩) (A.length+1) cap2) (A.take k++p::A.drop k)):=by
        have:=U6.out.set (k+1) p;rw[SH.out]at this;exact this
       have hgt2:Hid (∀ x∈A.drop k,m<x):=by
        intro x hx;rw[DR.out]at hx;rcases List.mem_cons.1 hx with e|e
        ·omega
        ·exact hgt.out x e
       go_wp2;go_roundg k
       case measure=>omega
       case rel=>exact ⟨by go_num,by omega,⟨p,V6.out⟩,hgt2,F6.out.setCell (.inr hge) _⟩
      ·have P6:=hide (PUT.out (k+1) (by omega) hgt.out (by intro _;show A.getD k 0≤m;rw[GD.out];omega))
       have V6:Hid (IL w.heap.size (wr.setCell ⟨gg,k+1,none⟩ (.int .i64 m)) (.slice (some ⟨gg,0,none⟩) (A.length+1) cap2) (A.take (k+1)++m::A.drop (k+1))):=by
        have:=U6.out.set (k+1) m;rw[put_set A (k+1) y m (by omega)]at this;exact this
       go_wp2;go_roundg (go-1)
       case measure=>omega
       case rel =>
        refine ⟨j+1,_,by omega,by go_num,V6.out,?_,?_,P6.out,F6.out.setCell (.inr hge) _⟩
        ·rw[mid_len A (k+1) m (by omega)];omega
        ·rw[mid_len A (k+1) m (by omega)];omega
  ·have hjl:j=L.length:=by omega
   have RI2:Hid (RiseA A L):=by
    have:=RI.out;rw[hjl,List.take_length]at this;exact this
   obtain ⟨a',c',e',hN⟩:=row_nl U.out;simp only[Value.slice.injEq,true_and]at e';obtain ⟨rfl,rfl⟩:=e';have HN:=hide hN;clear hN RI hjl H1;go_wp2_with fail
   go_loopg [7,53] A.length (fun k vo vi wr=>∃ (j2:Nat) (O:List Nat),j2+k=A.length∧vi=.int .i64 j2∧IL wo.heap.size wr vo O∧O.length≤j2∧RO O (A.take j2)∧Frm [] wo wr)
   case atStart =>
    refine ⟨0,[],by omega,rfl,World.ownsRow_lit _ #[] 0 (Nat.le_refl _) (by unfold maxLen;omega) (by simp),by simp,⟨by simp,by simp⟩,(Frm.refl _ _).alloc _⟩
   case round =>
    obtain ⟨j2,O,hj2,rfl,hio,hO,hro,hf2⟩:=hrel;obtain ⟨ao,capo,rfl⟩:=own_shape hio;have UO:=hide hio;have FO:=hide hf2;have RO1:=hide hro;have zo:=hf2.size;clear hio hf2 hro;obtain ⟨w3,hw3⟩:∃ w3,w3=wr:=⟨_,rfl⟩;subst hw3
    by_cases hlt2:j2<A.length
    ·obtain ⟨g,off,rfl,hg,hc⟩:=HN.out j2 hlt2
     have hc2:w3.cell? ⟨g,off+j2,none⟩=some (.int .i64 (A[j2]:Nat)):=(FO.out.cell (p:=⟨g,off+j2,none⟩) hg (by simp)).trans hc;have ST:=hide (ro_step RI2.out.1 hlt2 RO1.out);clear hc;cases j2 with
     | zero =>
       have S1:=hide (ST.out.1 (.inl rfl));rw[Nat.add_zero]at hc2;generalize A[0]=m at *;go_wp2_with (first | (at_builtin;refine wp_appI _ rfl _ _ rfl wo.heap.size (.slice ao O.length capo) O m w3.heap.size rfl (UO.out.alloc _) rfl (cell_newX _ _ _ _ rfl) (by omega) (by simp;omega) ?_;intro gg cap2 w5 hown hgrow hat hgl;have U5:=hide hown;have F5:=hide ((FO.out.alloc _).grown hgrow (fun k hk=>Or.inr (UO.out.lt _ hk).1));clear hown hgrow hat))
       go_roundg (gk-1)
       case measure=>omega
       case rel=>exact ⟨1,O++[m],by omega,by go_num,by simpa using U5.out,by simp only[List.length_append,List.length_cons,List.length_nil];omega,S1.out,F5.out⟩
     | succ k =>
       obtain ⟨g2,off2,e2,hg2,hck⟩:=HN.out k (by omega);simp only[Option.some.injEq,Addr.mk.injEq,and_true]at e2;obtain ⟨rfl,rfl⟩:=e2;have hc3:w3.cell? ⟨g,off+k,none⟩=some (.int .i64 (A[k]'(by omega):Nat)):=(FO.out.cell (p:=⟨g,off+k,none⟩) hg2 (by simp)).trans hck;have GD:Hid (A.getD k 0=A[k]'(by omega)):=by show _=_;simp[List.getD,show k<A.length by omega]
       clear hck;generalize A[k]'(by omega)=p at *;generalize A[k+1]=m at *
       by_cases hpm:p=m
       ·have S1:=hide (ST.out.2 (fun e=>e.elim (fun e=>by omega) (fun e=>e (by show A.getD k 0=m;rw[GD.out,hpm]))))
        subst hpm;clear ST;go_wp2;go_roundg (gk-1)
        case measure=>omega
        case rel=>exact ⟨k+1+1,O,by omega,by go_num,UO.out,by omega,S1.out,FO.out⟩
       ·have S1:=hide (ST.out.1 (.inr (by show A.getD k 0≠m;rw[GD.out];exact hpm)))
        have hb:((p:Int) != (m:Int))=true:=by rw[bne_iff_ne];omega
        clear ST;go_wp2_with (first | (at_builtin;refine wp_appI _ rfl _ _ rfl wo.heap.size (.slice ao O.length capo) O m w3.heap.size rfl (UO.out.alloc _) rfl (cell_newX _ _ _ _ rfl) (by omega) (by simp;omega) ?_;intro gg cap2 w5 hown hgrow hat hgl;have U5:=hide hown;have F5:=hide ((FO.out.alloc _).grown hgrow (fun k hk=>Or.inr (UO.out.lt _ hk).1));clear hown hgrow hat))
        go_roundg (gk-1)
        case measure=>omega
        case rel=>exact ⟨k+1+1,O++[m],by omega,by go_num,by simpa using U5.out,by simp only[List.length_append,List.length_cons,List.length_nil];omega,S1.out,F5.out⟩
    ·have hjl:j2=A.length:=by omega
     have RO2:Hid (RO O L):=by
      have:=RO1.out;rw[hjl,List.take_length]at this;exact ⟨this.1,fun x=>(this.2 x).trans (RI2.out.2 x)⟩
     clear RO1 hjl;go_wp2;go_ret;exact ⟨_,O,rfl,own_mono UO.out z,RO2.out,F.out.trans FO.out⟩
set_option linter.unusedVariables false
set_option linter.unusedSimpArgs false
theorem parts_mkS{l:List NF}(h:∀ p∈l,atomN p=true):parts (mkS l)=l:=by
 match l,h with
 | [],_=>rfl
 | [x],h=>exact atom_parts (h x (by simp))
 | x::y::r,_=>rfl
theorem parts_or{ls:List NF}(hw:∀ x∈ls,wf x):parts (orL ls)=srt (coreL (ls.flatMap parts)) :=
 parts_mkS fun p hp=>core_atom (flat_atom hw) p (srt_mem hp)
theorem parts_wc{x:NF}(h:WC x):(parts x).Nodup∧∀ p∈parts x,isS p=true→p=.set (joinB (parts x)):=by
 have hT:orL [x]=x:=can_T h.1 h.2;have hw:∀ y ∈ [x],wf y:=by simp;exact h.1
 have hp:=parts_or hw;rw[hT]at hp;simp only[List.flatMap_cons,List.flatMap_nil,List.append_nil]at hp;refine ⟨by rw[hp];exact ris_nodup (srt_ris _),?_⟩;intro p hm hs;rw[hp]at hm;rcases core_iff.1 (srt_mem hm) with ⟨_,e⟩|⟨_,e⟩
 ·rw[hs]at e;exact absurd e (by decide)
 ·exact e
theorem parts_len{x:NF}(h:WC x){V:List NF}(hV:∀ p∈parts x,isS p=true∨p=.one∨p∈V):(parts x).length≤V.length+2:=by
 have:=nodup_len (b:=.one::.set (joinB (parts x))::V) (parts_wc h).1 (by
  intro p hp;rcases hV p hp with e|e|e
  ·rw[(parts_wc h).2 p hp e];simp
  ·rw[e];simp
  ·simp[e])
 simpa using this
theorem elems_can:∀ {b:NF},can b→∀ x∈elems b,can x:=by
 intro b;refine NF.ind (P:=fun b=>can b→∀ x∈elems b,can x) ?_ b;intro b ih hb x hx;cases b with
 | pair a d =>
   simp only[elems,List.mem_cons]at hx;rcases hx with rfl|hx
   ·exact hb.1
   ·exact ih d (by simp[NF.size];omega) hb.2 x hx
 | zero=>simp[elems]at hx;subst hx;exact hb
 | one=>simp[elems]at hx;subst hx;exact hb
 | set s=>simp[elems]at hx;subst hx;exact hb
 | sum l=>simp[elems]at hx;subst hx;exact hb
 | star a=>simp[elems]at hx;subst hx;exact hb
theorem occ_can{X Y:NF}{t:List NF}(hX:can X)(h:(Y,t)∈occ X):can Y∧∀ x∈t,can x:=by
 revert Y t hX
 refine NF.ind (P:=fun X=>∀ {Y:NF} {t:List NF},can X→(Y,t)∈occ X→can Y∧∀ x∈t,can x) ?_ X;intro X ih Y t hX h;rcases occ_cases h with ⟨rfl,rfl⟩|⟨a,b,s,rfl,g,rfl⟩|⟨a,b,rfl,g⟩|⟨l,z,rfl,hz,g⟩|⟨a,s,rfl,g,rfl⟩
 ·exact ⟨hX,by intro x hx;simp at hx⟩
 ·have h1:=ih a (by simp[NF.size];omega) hX.1 g
  refine ⟨h1.1,?_⟩;intro x hx;rcases List.mem_append.1 hx with hx|hx
  ·exact h1.2 x hx
  ·exact elems_can hX.2 x hx
 ·exact ih b (by simp[NF.size];omega) hX.2 g
 ·have h1:=size_mem hz
  exact ih z (by simp[NF.size];omega) (canL_mem.1 hX.1 z hz) g
 ·have h1:=ih a (by simp[NF.size]) hX g
  refine ⟨h1.1,?_⟩;intro x hx;rcases List.mem_append.1 hx with hx|hx
  ·exact h1.2 x hx
  ·simp at hx;subst hx;exact hX
theorem chain_can:∀ {t:List NF},(∀ x∈t,can x)→can (chain t)
 | [],_=>trivial
 | [x],h=>h x (by simp)
 | x::y::r,h=>⟨h x (by simp),chain_can (t:=y::r) fun z hz=>h z (List.mem_cons_of_mem _ hz)⟩
theorem dW_can{X:NF}(hw:wf X)(hX:can X)(w:List Nat):can (dW X w):=by
 unfold dW
 induction w generalizing X with
 | nil=>exact hX
 | cons c w ih=>exact ih (left_wf c X hw) (left_can c X hw hX)
theorem mk_WC{h:NF}{t:List NF}(hh:WC h)(ht:elG t)(hc:∀ x∈t,can x)(hd:t≠[]→headN h=true):WC (mk h t):=by
 by_cases e:t=[]
 ·subst e;exact hh
 ·rw[mk_ne e]
  exact ⟨⟨hh.1,chain_wf ht,hd e,chain_tail ht e⟩,hh.2,chain_can hc⟩
theorem vis_WC{X g:NF}{w:List Nat}(hX:WC X)(h:Vis X w g):WC g:=by
 obtain ⟨Z,u,Y,t,v,hZ,hY,hv,rfl,hh⟩:=h;have z1:=occ_good hX.1 hZ;have z2:=occ_can hX.2 hZ;have y1:=occ_good z1.1 hY;have y2:=occ_can z2.1 hY;exact mk_WC ⟨dW_wf y1.1 v,dW_can y1.1 y2.1 v⟩ y1.2 y2.2 hh
theorem then_made:∀ {a b:NF},wf a→tailN a=true→tailN b=true→thenN a b∈crT a b:=by
 intro a b hw ha hb;cases a with
 | zero=>simp[tailN]at ha
 | one=>simp[tailN]at ha
 | set s=>rw[crT_head rfl hb,thenN_head rfl hb];simp
 | sum l=>rw[crT_head rfl hb,thenN_head rfl hb];simp
 | star x=>rw[crT_head rfl hb,thenN_head rfl hb];simp
 | pair x y =>
   have ht:tailN (thenN y b)=true:=thenN_tail hw.2.1 hw.2.2.2 hb;rw[thenN_pairs hb,crT_pair hb,crT_head hw.2.2.1 ht,thenN_head hw.2.2.1 ht];simp
theorem then_parts{a b:NF}(hw:wf a)(ha:tailN a=true)(hb:tailN b=true):parts (thenN a b)=[thenN a b]:=by
 have:∀ {a b:NF},headN a=true→tailN b=true→parts (thenN a b)=[thenN a b]:=fun h1 h2=>by rw[thenN_head h1 h2];rfl
 cases a with
 | zero=>simp[tailN]at ha
 | one=>simp[tailN]at ha
 | set s=>exact this rfl hb
 | sum l=>exact this rfl hb
 | star x=>exact this rfl hb
 | pair x y =>
   rw[thenN_pairs hb];exact this hw.2.2.1 (thenN_tail hw.2.1 hw.2.2.2 hb)
theorem vis_then{X Z Y:NF}{u t:List NF}{v w:List Nat}{c:Nat}(hX:wf X)(hZ:(Z,u)∈occ X)(hY:(Y,t)∈occ Z)(hv:v <:+ w){p:NF}
 (hp:p∈parts (thenN (left c (dW Y v)) (chain t))):isS p=true∨p=.one∨Vis X (w++[c]) p:=by
 have hwZ:=(occ_good hX hZ).1;have hwY:=(occ_good hwZ hY);have hv':v++[c] <:+ w++[c]:=by obtain ⟨z,rfl⟩:=hv;exact ⟨z,by simp⟩
 by_cases ht:t=[]
 ·subst ht
  rw[show chain []=.one from rfl,thenN_one,← dW_snoc]at hp;obtain ⟨s,hs⟩:=occ_trans hZ hY;exact vis_cls hs hv' (parts_dW Y hwY.1 _ p hp)
 ·have hT:=chain_tail hwY.2 ht
  have hwA:=left_wf c _ (dW_wf hwY.1 v)
  by_cases hA:tailN (left c (dW Y v))=true
  ·rw[then_parts hwA hA hT]at hp
   simp at hp;exact .inr (.inr (vis_crT hX hZ hY ht hv (by rw[hp];exact then_made hwA hA hT)))
  ·rcases not_tail hA with e|e
   ·rw[e]at hp;simp[thenN,parts]at hp
   ·rw[e,show thenN .one (chain t)=chain t from rfl]at hp
    exact vis_cls hZ List.suffix_rfl (cls_chain hwZ hY _ hp)
theorem vis_left{X g p:NF}{w:List Nat}{c:Nat}(hX:wf X)(h:Vis X w g)(hp:p∈parts (left c g)):isS p=true∨p=.one∨Vis X (w++[c]) p:=by
 obtain ⟨Z,u,Y,t,v,hZ,hY,hv,rfl,hh⟩:=h;have hwZ:=(occ_good hX hZ).1;have hwY:=(occ_good hwZ hY);rcases left_mk (dW_wf hwY.1 v) hwY.2 hp with e|e|⟨x,c1,r,e1,e2⟩
 ·exact .inl e
 ·exact vis_then hX hZ hY hv e
 ·exact vis_then (Y:=c1) (v:=[]) hX hZ (occ_tail hY e1) List.nil_suffix e2
theorem vis_sum_len{X:NF}{l:List NF}{w:List Nat}(hX:WC X)(h:Vis X w (.sum l)):l.length≤X.size*(w.length+1)+2:=by
 have hwc:=vis_WC hX h;obtain ⟨Z,u,Y,t,v,hZ,hY,hv,hf,hh⟩:=h;have ht:t=[]:=Decidable.byContradiction fun e=>by rw[mk_ne e]at hf;simp at hf
 subst ht;rw[show mk (dW Y v) []=dW Y v from rfl]at hf;have hwZ:=(occ_good hX.1 hZ).1;have hwY:=(occ_good hwZ hY).1;have hlen:=parts_len hwc (V:=(occ Y).flatMap fun o=>(sufs v).map fun v'=>mk (dW o.1 v') o.2) (by
  intro p hp;rw[hf]at hp;rcases parts_dW Y hwY v p hp with e|e|⟨Y',s,v',h1,h2,h3,h4,h5⟩
  ·exact .inl e
  ·exact .inr (.inl e)
  ·exact .inr (.inr (List.mem_flatMap.2 ⟨(Y',s),h1,List.mem_map.2 ⟨v',sufs_mem h2,h4.symm⟩⟩)))
 rw[show parts (.sum l)=l from rfl]at hlen;have hc:((occ Y).flatMap fun o=>(sufs v).map fun v'=>mk (dW o.1 v') o.2).length=(occ Y).length*(v.length+1):=by
  rw[flatMap_len _ (fun _=>v.length+1) (fun o=>by simp[sufs_len])];generalize occ Y=q
  induction q with
  | nil=>simp
  | cons a r ih=>simp only[List.map_cons,List.sum_cons,ih,List.length_cons,Nat.add_mul,Nat.one_mul];omega
 rw[hc,occ_len]at hlen;have a1:Y.size≤X.size:=Nat.le_trans (occ_size hY).1 (occ_size hZ).1;have a2:v.length≤w.length:=hv.length_le;have a3:Y.size*(v.length+1)≤X.size*(w.length+1):=Nat.mul_le_mul a1 (by omega);omega
theorem flat_len{ls:List NF}{n:Nat}(h:∀ x∈ls,(parts x).length≤n):(ls.flatMap parts).length≤ls.length*n:=by
 induction ls with
 | nil=>simp
 | cons a r ih =>
   have h1:=h a (by simp);have h2:=ih fun x hx=>h x (by simp[hx])
   simp only[List.flatMap_cons,List.length_append,List.length_cons,Nat.add_mul,Nat.one_mul];omega
theorem need_vis{X:NF}{w:List Nat}{c:Nat}{U:List NF}(hX:WC X)(hs:X.size≤3280)(hh:X.size*hgt X≤524800)(hw:w.length≤39)(hU:∀ f,Made X w c f→f∈U)(g:NF):Vis X w g→Need c U g:=by
 have hV:(visL X (w++[c])).length≤21516800:=by
  rw[visL_len];have h1:=sumS_le X;simp only[List.length_append,List.length_cons,List.length_nil];have h2:sumS (occ X)*(w.length+(0+1)+1)≤524800*41:=Nat.mul_le_mul (by omega) (by omega);omega
 have hnp:∀ g,Vis X w g→(parts (left c g)).length≤21516802:=fun g hg=>by
  have:=parts_len (WC.left c (vis_WC hX hg)) (V:=visL X (w++[c])) fun p hp=>by
   rcases vis_left hX.1 hg hp with e|e|e
   ·exact .inl e
   ·exact .inr (.inl e)
   ·exact .inr (.inr (vis_visL e))
  omega
 refine NF.ind (P:=fun g=>Vis X w g→Need c U g) ?_ g;intro g ih hg;cases g with
 | zero=>trivial
 | one=>trivial
 | set s=>trivial
 | star a =>
   exact ⟨ih a (by simp[NF.size]) (vis_star1 hX.1 hg),fun f hf=>hU f (made_star hX.1 hg f hf)⟩
 | pair a b =>
   have hwc:=vis_WC hX hg;refine ⟨ih a (by simp[NF.size];omega) (vis_pair1 hX.1 hg),fun f hf=>hU f (made_pair hX.1 hg f hf),fun hn=>⟨ih b (by simp[NF.size];omega) (vis_pair2 hX.1 hg),?_⟩⟩;have hl:left c (.pair a b)=orL [thenN (left c a) b,left c b]:=by simp only[left,hn,if_true];rfl
   have ha:WC a:=⟨hwc.1.1,hwc.2.1⟩;have hb:WC b:=⟨hwc.1.2.1,hwc.2.2⟩;have w1:∀ x ∈ [thenN (left c a) b,left c b],WC x:=by
    intro x hx;simp at hx;rcases hx with rfl|rfl
    ·exact WC.then (WC.left c ha) hb
    ·exact WC.left c hb
   refine ⟨fun _=>?_,fun _=>?_,?_,by simp⟩
   ·have:=made_set (c:=c) hg
    rw[hl,orL_join fun x hx=>(w1 x hx).1]at this;exact hU _ this
   ·have:=made_left (c:=c) hg
    rw[hl]at this;exact hU _ this
   ·have h1:(parts (thenN (left c a) b)).length≤21516802:=by
     have:=parts_len (w1 (thenN (left c a) b) (by simp)) (V:=visL X (w++[c])) fun p hp=>by
      obtain ⟨Z,u,Y,t,v,hZ,hY,ht,hv,rfl,_,rfl⟩:=vis_pair hX.1 hg;rcases vis_then hX.1 hZ hY hv hp with e|e|e
      ·exact .inl e
      ·exact .inr (.inl e)
      ·exact .inr (.inr (vis_visL e))
     omega
    have h2:=hnp b (vis_pair2 hX.1 hg);simp only[List.flatMap_cons,List.flatMap_nil,List.length_append,List.length_nil];omega
 | sum l =>
   have hwc:=vis_WC hX hg;have hlen:=vis_sum_len hX hg;have hlen2:l.length≤131202:=by
    have:X.size*(w.length+1)≤3280*40:=Nat.mul_le_mul hs (by omega);omega
   have hl:left c (.sum l)=orL (leftL c l):=by simp only[left]
   have hm:∀ p∈l,WC p:=fun p hp=>⟨wfL_mem.1 hwc.1.1 p hp,canL_mem.1 hwc.2.1 p hp⟩
   have w1:∀ x∈leftL c l,WC x:=by
    intro x hx;rw[leftL_map]at hx;obtain ⟨p,hp,rfl⟩:=List.mem_map.1 hx;exact WC.left c (hm p hp)
   have hd:∀ p∈l,p.size<(NF.sum l).size:=fun p hp=>by have:=size_mem hp;simp[NF.size];omega
   refine ⟨needL_mem.2 fun p hp=>?_,fun _=>?_,fun _=>?_,?_,?_⟩
   ·rcases vis_sum hX.1 hg hp with e|e|e
    ·cases p<;>simp[isS]at e;trivial
    ·subst e;trivial
    ·exact ih p (hd p hp) e
   ·have:=made_set (c:=c) hg
    rw[hl,orL_join fun x hx=>(w1 x hx).1]at this;exact hU _ this
   ·have:=made_left (c:=c) hg
    rw[hl]at this;exact hU _ this
   ·have:=flat_len (ls:=leftL c l) (n:=21516802) (by
     intro x hx;rw[leftL_map]at hx;obtain ⟨p,hp,rfl⟩:=List.mem_map.1 hx;rcases vis_sum hX.1 hg hp with e|e|e
     ·cases p<;>simp[isS]at e
      simp only[left];split<;>simp[parts]
     ·subst e;simp[left,parts]
     ·exact hnp p e)
    rw[leftL_map,List.length_map]at this;rw[leftL_map];have h3:l.length*21516802≤131202*21516802:=Nat.mul_le_mul_right _ hlen2;omega
   ·rw[leftL_map,List.length_map];omega
end Go.Proofs.YtpcbbbilmpobaaaGreatDoor
