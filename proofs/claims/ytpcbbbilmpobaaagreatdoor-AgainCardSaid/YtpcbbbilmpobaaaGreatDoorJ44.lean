import Derived.Test.YtpcbbbilmpobaaaGreatDoorJ25
import Derived.Test.YtpcbbbilmpobaaaGreatDoorJ43
import Derived.Test.YtpcbbbilmpobaaaGreatDoorJ27
import Derived.Test.YtpcbbbilmpobaaaGreatDoorJ11
import Derived.Test.YtpcbbbilmpobaaaGreatDoorJ32
import Derived.Test.YtpcbbbilmpobaaaGreatDoorJ42
import Derived.Test.YtpcbbbilmpobaaaGreatDoorJ3
set_option linter.unusedVariables false
set_option linter.unusedSimpArgs false
set_option linter.unnecessarySimpa false
set_option maxRecDepth 100000
set_option maxHeartbeats 8000000
namespace Go.Proofs.YtpcbbbilmpobaaaGreatDoor
open Go.RowKit
def takesA(a:AutM)(v:List UInt8):Bool:=a.acc.getD (autT a 0 v) 0==1
def mHolds(aut:List UInt8→AutM)(V:List UInt8→List UInt8)(m:CM):Bool :=
 if m.2.1=0 then V m.1==m.2.2 else if m.2.1=1 then !(V m.1==m.2.2) else if m.2.1=2 then takesA (aut m.2.2) (V m.1) else !(takesA (aut m.2.2) (V m.1))
def stM(s:CS)(V:List UInt8→List UInt8)(t:TstM):Bool :=
 if t.k=0 then V (s.n.getD t.n [])==s.c.getD t.x [] else takesA (s.a.getD t.x ⟨0,[],[],[]⟩) (V (s.n.getD t.n []))
def stT(s:CS)(V:List UInt8→List UInt8)(x:Nat):Bool:=match s.t[x]? with | some t=>stM s V t|none=>false
theorem tT_comp(C:List CR)(s:CS)(V:List UInt8→List UInt8):tT (compM C s) V=stT s V:=rfl
structure CSle(s s':CS):Prop where
 n:s.n <+: s'.n
 c:s.c <+: s'.c
 a:s.a <+: s'.a
 t:s.t <+: s'.t
theorem CSle.refl(s:CS):CSle s s:=⟨List.prefix_refl _,List.prefix_refl _,List.prefix_refl _,List.prefix_refl _⟩
theorem CSle.trans{s s1 s2:CS}(h:CSle s s1)(k:CSle s1 s2):CSle s s2:=⟨h.n.trans k.n,h.c.trans k.c,h.a.trans k.a,h.t.trans k.t⟩
theorem pre_getD{α:Type}{l l':List α}(h:l <+: l')(d:α){i:Nat}(hi:i<l.length):l'.getD i d=l.getD i d:=by
 obtain ⟨r,rfl⟩:=h;simp[List.getD,List.getElem?_append_left hi]
theorem preS_get{α:Type}{l l':List α}(h:l <+: l'){i:Nat}{x:α}(hi:l[i]?=some x):l'[i]?=some x:=by
 obtain ⟨r,rfl⟩:=h;rw[List.getElem?_append_left (List.getElem?_eq_some_iff.1 hi).1];exact hi
theorem stM_le{s s':CS}(h:CSle s s')(V:List UInt8→List UInt8){t:TstM}(ok:TstOK s.n.length s.c.length s.a.length t):stM s' V t=stM s V t:=by
 have hx:=ok.x;unfold stM;rw[pre_getD h.n [] ok.n]
 by_cases hk:t.k=0
 ·rw[if_neg (by omega)]at hx
  rw[if_pos hk,if_pos hk,pre_getD h.c [] hx]
 ·rw[if_pos (by have:=ok.k;omega)]at hx
  rw[if_neg hk,if_neg hk,pre_getD h.a _ hx]
theorem addx_pre(L:List (List UInt8))(x:List UInt8):L <+: addx L x:=by unfold addx;split;exact List.prefix_append _ _;exact List.prefix_refl _
theorem addt_pre(L:List TstM)(x:TstM):L <+: addt L x:=by unfold addt;split;exact List.prefix_append _ _;exact List.prefix_refl _
theorem fdx_get(L:List (List UInt8))(x:List UInt8)(h:fdx L x<L.length):L[fdx L x]=x:=by
 have:=List.findIdx_getElem (p:=(·==x)) (xs:=L) (w:=h);exact eq_of_beq this
theorem addx_get(L:List (List UInt8))(x:List UInt8):(addx L x)[fdx L x]?=some x:=by
 unfold addx
 split
 ·rename_i h;rw[h];simp
 ·rename_i h
  have h1:=fdx_le L x;have h2:fdx L x<L.length:=by omega
  rw[List.getElem?_eq_getElem h2,fdx_get L x h2]
theorem addt_get(L:List TstM)(x:TstM):(addt L x)[fdt L x]?=some x:=by
 unfold addt
 split
 ·rename_i h;rw[h];simp
 ·rename_i h
  have h1:=fdt_le L x;have h2:fdt L x<L.length:=by omega
  have h3:=List.findIdx_getElem (p:=(tEq · x)) (xs:=L) (w:=h2);rw[List.getElem?_eq_getElem h2];have h4:tEq L[fdt L x] x=true:=h3;generalize L[fdt L x]=y at *;obtain ⟨a,b,c⟩:=y;obtain ⟨d,e,f⟩:=x;simp[tEq]at h4;simp[h4]
theorem getD_ofS{α:Type}{l:List α}{i:Nat}{x d:α}(h:l[i]?=some x):l.getD i d=x:=by simp[List.getD,h]
def XA(aut:List UInt8→AutM)(s:CS):Prop:=∀ (i:Nat) (v:List UInt8),s.x[i]?=some v→s.a[i]?=some (aut v)
def bHolds(aut:List UInt8→AutM)(V:List UInt8→List UInt8)(m:CM):Bool:=if m.2.1=2∨m.2.1=3 then takesA (aut m.2.2) (V m.1) else V m.1==m.2.2
theorem mHolds_b(aut:List UInt8→AutM)(V:List UInt8→List UInt8){m:CM}(hm:m.2.1≤3):mHolds aut V m=(bHolds aut V m==cholds m):=by
 obtain ⟨n,k,v⟩:=m;simp only at hm;rcases (show k=0∨k=1∨k=2∨k=3 by omega) with rfl|rfl|rfl|rfl<;>simp[mHolds,bHolds,cholds]
theorem ptest_run{re:List UInt8→Nat}{aut:List UInt8→AutM}{s s1:CS}{t:TstM}(h:CSok s)(hxa:XA aut s){m:CM}(he:ptest re aut s m=some (t,s1))(V:List UInt8→List UInt8) :
 CSle s s1∧XA aut s1∧stM s1 V t=bHolds aut V m:=by
 unfold ptest at he;have hn:=getD_ofS (d:=[]) (addx_get s.n m.1)
 split at he
 ·rename_i hk
  split at he
  ·rename_i hx
   cases he
   refine ⟨⟨addx_pre _ _,List.prefix_refl _,List.prefix_refl _,List.prefix_refl _⟩,hxa,?_⟩;have ha:=hxa (fdx s.x m.2.2) m.2.2 (by rw[List.getElem?_eq_getElem hx,fdx_get _ _ hx]);unfold stM bHolds;rw[if_neg (by simp),if_pos hk];simp only;rw[hn,getD_ofS ha]
  ·rename_i hx
   split at he
   ·cases he
    have hl:fdx s.x m.2.2=s.x.length:=by have:=fdx_le s.x m.2.2;omega
    have hxa2:XA aut { s with n:=addx s.n m.1,x:=s.x++[m.2.2],a:=s.a++[aut m.2.2] }:=by
     intro i v hi;simp only at hi ⊢
     by_cases h1:i<s.x.length
     ·rw[List.getElem?_append_left h1]at hi
      rw[List.getElem?_append_left (by rw[← h.xa];exact h1)];exact hxa i v hi
     ·have h2:i=s.x.length:=by
       have:=(List.getElem?_eq_some_iff.1 hi).1;simp at this;omega
      subst h2;simp at hi;subst hi;rw[h.xa];simp
    refine ⟨⟨addx_pre _ _,List.prefix_refl _,List.prefix_append _ _,List.prefix_refl _⟩,hxa2,?_⟩;have ha:(s.a++[aut m.2.2])[fdx s.x m.2.2]?=some (aut m.2.2):=by rw[hl,h.xa];simp
    unfold stM bHolds;rw[if_neg (by simp),if_pos hk];simp only;rw[hn,getD_ofS ha]
   ·cases he
 ·rename_i hk
  cases he
  refine ⟨⟨addx_pre _ _,addx_pre _ _,List.prefix_refl _,List.prefix_refl _⟩,hxa,?_⟩;unfold stM bHolds;rw[if_pos rfl,if_neg hk];simp only;rw[hn,getD_ofS (addx_get s.c m.2.2)]
theorem pmat_run{re:List UInt8→Nat}{aut:List UInt8→AutM}(ha:∀ v,re v=0→AutOK (aut v))(V:List UInt8→List UInt8):∀ (M:List CM) (s:CS) (acc:List (Nat × Bool)) {l:List (Nat × Bool)} {s1:CS},CSok s→XA aut s→(∀ m∈M,GoodM m)→pmat re aut s acc M=.ok (l,s1) →
 CSle s s1∧XA aut s1∧∃ l',l=acc++l'∧∀ s',CSle s1 s'→allT (stT s' V) l'=M.all (mHolds aut V)
 | [],s,acc,l,s1,h,hx,_,e=>by
   rw[pmat]at e;cases e
   exact ⟨CSle.refl _,hx,[],by simp,fun s' _=>rfl⟩
 | m::r,s,acc,l,s1,h,hx,hM,e=>by
   rw[pmat]at e
   split at e
   ·cases e
   ·rename_i t s2 ht
    obtain ⟨g1,g2,g3⟩:=ptest_ok ha h (hM m (by simp)) ht;obtain ⟨r1,r2,r3⟩:=ptest_run h hx ht V;have le2:CSle s2 { s2 with t:=addt s2.t t }:=⟨List.prefix_refl _,List.prefix_refl _,List.prefix_refl _,addt_pre _ _⟩;obtain ⟨k1,k2,l',k3,k4⟩:=pmat_run ha V r _ _ g1 r2 (fun x hx=>hM x (by simp[hx])) e;refine ⟨(r1.trans le2).trans k1,k2,(fdt s2.t t,cholds m)::l',by rw[k3];simp,fun s' hs'=>?_⟩;have htg:=addt_get s2.t t;have hts:s'.t[fdt s2.t t]?=some t:=preS_get hs'.t (preS_get k1.t htg);have ok:TstOK s2.n.length s2.c.length s2.a.length t:=g1.t t (List.mem_of_getElem? htg);have e1:stT s' V (fdt s2.t t)=bHolds aut V m:=by
     unfold stT;rw[hts];simp only;rw[stM_le ((le2.trans k1).trans hs') V ok,r3]
    show (stT s' V (fdt s2.t t)==cholds m&&allT (stT s' V) l')=_;rw[k4 s' hs',e1,List.all_cons,mHolds_b aut V (hM m (by simp)).kind]
theorem pread_run{re:List UInt8→Nat}{aut:List UInt8→AutM}(ha:∀ v,re v=0→AutOK (aut v))(V:List UInt8→List UInt8):∀ (C:List CR) (s:CS) (i:Nat) {s1:CS},CSok s→XA aut s→(∀ c∈C,GoodCR c)→pread re aut s i C=.ok s1 →
 CSle s s1∧s.q <+: s1.q∧∀ (j:Nat) (c:CR),C[j]?=some c→∀ s',CSle s1 s'→allT (stT s' V) (s1.q.getD (s.q.length+j) [])=c.ifs.all (mHolds aut V)
 | [],s,i,s1,h,hx,_,e=>by
   rw[pread]at e;cases e
   exact ⟨CSle.refl _,List.prefix_refl _,fun j c hj=>by simp at hj⟩
 | c::r,s,i,s1,h,hx,hC,e=>by
   rw[pread]at e;have hc:=hC c (by simp)
   split at e
   ·cases e
   ·rename_i l s2 hl
    obtain ⟨g1,g2,g3⟩:=pmat_ok ha c.ifs s [] h hc.ifs (by simp) hl;obtain ⟨r1,r2,l',r3,r4⟩:=pmat_run ha V c.ifs s [] h hx hc.ifs hl;have hq:=pmat_tge c.ifs s [] hl;have hil:=hc.ifl;simp at g3 r3;subst r3;obtain ⟨k1,k2,k3⟩:=pread_run ha V r { s2 with q:=s2.q++[l] } (i+1) ⟨g1.n,g1.c,g1.a,g1.xa,g1.t,fun x hx=>by
     rcases List.mem_append.1 hx with e1|e1
     ·exact g1.q x e1
     ·rw[List.mem_singleton.1 e1];exact g2,fun x hx=>by
     rcases List.mem_append.1 hx with e1|e1
     ·exact g1.ql x e1
     ·rw[List.mem_singleton.1 e1];omega⟩ r2 (fun x hx=>hC x (by simp[hx])) e
    have le2:CSle s2 { s2 with q:=s2.q++[l] }:=⟨List.prefix_refl _,List.prefix_refl _,List.prefix_refl _,List.prefix_refl _⟩;simp only[hq]at k2 k3;refine ⟨(r1.trans le2).trans k1,(List.prefix_append _ _).trans k2,fun j c' hj s' hs'=>?_⟩;cases j with
    | zero =>
      simp at hj;subst hj;have:s1.q[s.q.length+0]?=some l:=preS_get k2 (by simp);rw[getD_ofS this];exact r4 s' ((le2.trans k1).trans hs')
    | succ j =>
      have:=k3 j c' (by simpa using hj) s' hs';rw[List.length_append,List.length_singleton]at this;rw[show s.q.length+(j+1)=s.q.length+1+j by omega];exact this
def hold(aut:List UInt8→AutM)(V:List UInt8→List UInt8)(C:List CR)(c:Nat):Bool:=match C[c]? with | some x=>x.ifs.all (mHolds aut V)|none=>false
def walkH(H:Nat→Bool)(C:List CR)(S:Nat→List Nat):List Nat→List Nat
 | []=>[]
 | c::r=>if H c then S c++(if (C[c]?.map (·.co))=some true then walkH H C S r else []) else walkH H C S r
def sentH(H:Nat→Bool)(C:List CR):Nat→Nat→List Nat
 | 0,_=>[]
 | f+1,r=>if (kids C r).any H then walkH H C (sentH H C f) (kids C r) else [r]
theorem walkK_H{T:Nat→Bool}{C:List CR}{q:List (List (Nat × Bool))}{H:Nat→Bool}{S S':Nat→List Nat}:∀ K:List Nat,(∀ c∈K,allT T (q.getD c [])=H c∧S c=S' c)→walkK T C q S K=walkH H C S' K
 | [],_=>rfl
 | c::r,h=>by
   rw[walkK,walkH,(h c (by simp)).1,(h c (by simp)).2,walkK_H r (fun x hx=>h x (by simp[hx]))]
theorem sent_H{T:Nat→Bool}{C:List CR}{q:List (List (Nat × Bool))}{H:Nat→Bool}(h:∀ c,c<C.length→allT T (q.getD c [])=H c):∀ f r,sent T C q f r=sentH H C f r
 | 0,_=>rfl
 | f+1,r=>by
   have hk:∀ c∈kids C r,allT T (q.getD c [])=H c∧sent T C q f c=sentH H C f c:=fun c hc=>⟨h c (mem_kids' hc).1,sent_H h f c⟩
   rw[sent,sentH,walkK_H _ hk];have:(kids C r).any (fun c=>allT T (q.getD c []))=(kids C r).any H:=by
    rw[Bool.eq_iff_iff,List.any_eq_true,List.any_eq_true]
    constructor
    ·rintro ⟨x,hx,e⟩;exact ⟨x,hx,by rw[← (hk x hx).1];exact e⟩
    ·rintro ⟨x,hx,e⟩;exact ⟨x,hx,by rw[(hk x hx).1];exact e⟩
   rw[this]
theorem run_comp{re:List UInt8→Nat}{aut:List UInt8→AutM}(ha:∀ v,re v=0→AutOK (aut v)){t:List UInt8}{L:List (List UInt8)}{C:List CR}{s:CS}(ht:t.length≤1048576)(h:cRead t=.ok (L,C))(hp:pread re aut cs0 0 C=.ok s)(V:List UInt8→List UInt8) :
 runM (compM C s) V (compM C s).code.length 0=sentH (hold aut V C) C 6 0:=by
 obtain ⟨h1,h2,h3,h4⟩:=cRead_tree h;have hg:=(cRead1_good t L C ht h1).2.2;have ok0:CSok cs0:=⟨by simp[cs0],by simp[cs0],by simp[cs0],rfl,by simp[cs0],by simp[cs0],by simp[cs0]⟩;obtain ⟨k1,k2,k3⟩:=pread_ok ha C cs0 0 0 ok0 ⟨by simp[cs0],by simp[cs0],by simp[cs0],by simp[cs0],by simp[cs0]⟩ hg hp;obtain ⟨_,_,p3⟩:=pread_run ha V C cs0 0 ok0 (fun i v hi=>by simp[cs0]at hi) hg hp;have hne:C.isEmpty=false:=by cases C with | nil=>simp at h2|cons=>rfl
 have hg0:GL [⟨0,0,0,0⟩]:=by
  intro i hi;simp at hi;subst hi;exact .inl rfl
 obtain ⟨r1,r2,r3⟩:=layR_good C s.q 6 0 0 [⟨0,0,0,0⟩] hg0 (by simp);have r4:=layR_gx C (nt:=s.t.length) k1.q 6 0 0 [⟨0,0,0,0⟩] h2 (by intro x hx;rw[List.mem_singleton.1 hx];exact .inl ⟨rfl,rfl,rfl,rfl⟩);have e1:(compM C s).code=turnM (layR C s.q 6 0 0 [⟨0,0,0,0⟩]).2 (layR C s.q 6 0 0 [⟨0,0,0,0⟩]).1:=by
  show codeM C s.q=_;unfold codeM;rw[hne];rfl
 rw[turn_run (m:=compM C s) r1 (nr:=C.length) r4 _ r2 e1 V,(layR_run _ C s.q 6 0 0 [⟨0,0,0,0⟩] hg0 (by simp)).2,tT_comp];have:rl (stT s V) [(⟨0,0,0,0⟩:InM)] 0=[]:=rfl;rw[this,List.append_nil];refine sent_H (fun c hc=>?_) 6 0;have:=p3 c C[c] (List.getElem?_eq_getElem hc) s (CSle.refl _);unfold hold;rw[List.getElem?_eq_getElem hc];rw[show cs0.q.length+c=c from Nat.zero_add c]at this;exact this
def hitsC(C:List CR)(V:List UInt8→List UInt8):List HitM:=(sentH (hold autC V C) C 6 0).map fun i=>(hitsN C C.length).getD i ⟨[],[],0,0,0⟩
theorem hitsA_comp{t:List UInt8}{L:List (List UInt8)}{C:List CR}{s:CS}(ht:t.length≤1048576)(h:cRead t=.ok (L,C))(hp:pread reC autC cs0 0 C=.ok s)(A:List LBL):hitsA (compM C s) A=hitsC C (lblV A):=by
 unfold hitsA;rw[run_comp autC_ok ht h hp (lblV A)]
 rfl
theorem asc_ris:∀ {B:List (List UInt8)},Asc B→risB B=true
 | [],_=>rfl
 | [_],_=>rfl
 | a::b::l,h=>by
   have h1:=List.pairwise_cons.1 h;rw[risB,bl_lt,decide_eq_true (h1.1 b (by simp)),asc_ris h1.2]
   rfl
/-! Labels in another order. -/
/-! What a route sends: some,each once. -/
theorem walkH_ne{H:Nat→Bool}{C:List CR}{S:Nat→List Nat}:∀ K:List Nat,K.any H=true→(∀ c∈K,S c≠[])→walkH H C S K≠[]
 | [],h,_=>by simp at h
 | c::r,h,hS=>by
   rw[walkH];cases hc:H c
   ·simp only[Bool.false_eq_true,if_false]
    exact walkH_ne r (by simpa[hc] using h) (fun x hx=>hS x (by simp[hx]))
   ·simp only[if_true]
    intro e;exact hS c (by simp) (List.append_eq_nil_iff.1 e).1
inductive Below' (C:List CR) (r:Nat):Nat→Prop
 | self:Below' C r r
 | step {j p:Nat}:par C j=some p→Below' C r p→Below' C r j
theorem Below'.ge{C:List CR}{r j:Nat}(h:Below' C r j):r≤j:=by
 induction h with
 | self=>exact Nat.le_refl _
 | step hp _ ih=>have:=par_lt hp;omega
theorem Below'.up{C:List CR}{c r j:Nat}(hc:par C c=some r)(h:Below' C c j):Below' C r j:=by
 induction h with
 | self=>exact .step hc .self
 | step hp _ ih=>exact .step hp ih
theorem Below'.one{C:List CR}{r a b j:Nat}(ha:par C a=some r)(hb:par C b=some r)(h1:Below' C a j)(h2:Below' C b j):a=b:=by
 induction h1 with
 | self =>
   cases h2 with
   | self=>rfl
   | step hp h3 =>
     rw[ha]at hp;cases hp
     have h4:=h3.ge;have h5:=par_lt hb;omega
 | step hp h3 ih =>
   cases h2 with
   | self =>
     rw[hb]at hp;cases hp
     have h4:=h3.ge;have h5:=par_lt ha;omega
   | step hp2 h4 =>
     rw[hp]at hp2;cases hp2
     exact ih h4
theorem walkH_mem{H:Nat→Bool}{C:List CR}{S:Nat→List Nat}:∀ K:List Nat,∀ x∈walkH H C S K,∃ c∈K,x∈S c
 | [],x,h=>by simp[walkH]at h
 | c::r,x,h=>by
   rw[walkH]at h
   split at h
   ·rcases List.mem_append.1 h with h|h
    ·exact ⟨c,by simp,h⟩
    ·split at h
     ·obtain ⟨d,hd,hx⟩:=walkH_mem r x h
      exact ⟨d,by simp[hd],hx⟩
     ·simp at h
   ·obtain ⟨d,hd,hx⟩:=walkH_mem r x h
    exact ⟨d,by simp[hd],hx⟩
theorem walkH_nodup{H:Nat→Bool}{C:List CR}{S:Nat→List Nat}:∀ K:List Nat,K.Nodup→(∀ c∈K,(S c).Nodup)→(∀ c∈K,∀ d∈K,∀ x,x∈S c→x∈S d→c=d)→(walkH H C S K).Nodup
 | [],_,_,_=>by simp[walkH]
 | c::r,hK,hS,hD=>by
   have hr:=walkH_nodup (H:=H) (C:=C) r (List.nodup_cons.1 hK).2 (fun d hd=>hS d (by simp[hd])) (fun a ha b hb=>hD a (by simp[ha]) b (by simp[hb]));rw[walkH]
   split
   ·rw[List.nodup_append]
    refine ⟨hS c (by simp),?_,?_⟩
    ·split
     ·exact hr
     ·exact List.nodup_nil
    ·intro x hx y hy e
     subst e
     split at hy
     ·obtain ⟨d,hd,hxd⟩:=walkH_mem r x hy
      have:=hD c (by simp) d (by simp[hd]) x hx hxd;subst this;exact (List.nodup_cons.1 hK).1 hd
     ·simp at hy
   ·exact hr
theorem sentH_below{H:Nat→Bool}{C:List CR}:∀ f r,r<C.length→(∀ x∈sentH H C f r,Below' C r x∧x<C.length)∧(sentH H C f r).Nodup
 | 0,r,_=>⟨by simp[sentH],by simp[sentH]⟩
 | f+1,r,hr=>by
   rw[sentH]
   split
   ·have hk:∀ c∈kids C r,(∀ x∈sentH H C f c,Below' C c x∧x<C.length)∧(sentH H C f c).Nodup:=fun c hc=>sentH_below f c (mem_kids' hc).1
    refine ⟨fun x hx=>?_,walkH_nodup _ (kids_nodup C r) (fun c hc=>(hk c hc).2) (fun c hc d hd x hx hy=>?_)⟩
    ·obtain ⟨c,hc,hxc⟩:=walkH_mem _ x hx
     have:=(hk c hc).1 x hxc;exact ⟨this.1.up (mem_kids' hc).2,this.2⟩
    ·exact Below'.one (mem_kids' hc).2 (mem_kids' hd).2 ((hk c hc).1 x hx).1 ((hk d hd).1 x hy).1
   ·exact ⟨fun x hx=>by rw[List.mem_singleton.1 hx];exact ⟨.self,hr⟩,by simp⟩
theorem kid_depth{C:List CR}{r c:Nat}(h:c∈kids C r){x y:CR}(hx:C[r]?=some x)(hy:C[c]?=some y):y.d=x.d+1:=by
 have hp:=(mem_kids' h).2;unfold par at hp;rw[hy]at hp;have go:∀ (d i p:Nat),parGo C d i=some p→(C[p]?.map fun c=>c.d+1)=some d:=by
  intro d i
  induction i with
  | zero=>intro p h;simp[parGo]at h
  | succ i ih =>
    intro p h;rw[parGo]at h
    split at h
    ·rename_i h1;cases h;exact h1
    ·exact ih p h
 have:=go _ _ _ hp;rw[hx]at this;simp at this;omega
theorem sentH_some{H:Nat→Bool}{C:List CR}(hd:∀ c∈C,c.d≤5):∀ f r x,C[r]?=some x→6≤f+x.d→sentH H C f r≠[]
 | 0,r,x,hx,h=>by
   have:=hd x (List.mem_of_getElem? hx);omega
 | f+1,r,x,hx,h=>by
   rw[sentH]
   split
   ·rename_i ha
    refine walkH_ne _ ha (fun c hc=>?_);have hcl:=(mem_kids' hc).1;have:=kid_depth hc hx (List.getElem?_eq_getElem hcl);exact sentH_some hd f c C[c] (List.getElem?_eq_getElem hcl) (by omega)
   ·simp
theorem sentH_len{H:Nat→Bool}{C:List CR}(f r:Nat)(hr:r<C.length):(sentH H C f r).length≤C.length:=by
 obtain ⟨h1,h2⟩:=sentH_below (H:=H) f r hr;exact nodup_le _ _ h2 (fun x hx=>(h1 x hx).2)
theorem hitsC_good{t:List UInt8}{L:List (List UInt8)}{C:List CR}(ht:t.length≤1048576)(h:cRead t=.ok (L,C))(V:List UInt8→List UInt8):hitsC C V≠[]∧(hitsC C V).length≤C.length∧∀ x∈hitsC C V,HitG L x∧HitOK x:=by
 obtain ⟨h1,h2,h3,h4⟩:=cRead_tree h;have hg:=(cRead1_good t L C ht h1).2.2;have hst:=cRead_steps h;have hnm:=cRead_names h;obtain ⟨_,l0,ls,e1,e2,e3⟩:=(cRead1_lines t L C).1 h1;have hn:∀ c∈C,c.rc=[45]∨c.rc∈L:=by
  unfold nameF at hnm
  split at hnm
  ·cases hnm
  ·exact nameGo_ok C 0 hnm
 have ha:∀ c∈C,Asc c.bys:=fun c hc=>by
  obtain ⟨a,_,ha⟩:=mapM_mem rtL ls C e3 c hc;exact rtL_asc ha
 refine ⟨?_,?_,?_⟩
 ·intro e
  exact sentH_some h4 6 0 C[0] (List.getElem?_eq_getElem h2) (by omega) (List.map_eq_nil_iff.1 e)
 ·unfold hitsC
  rw[List.length_map];exact sentH_len 6 0 h2
 ·intro x hx
  obtain ⟨i,hi,rfl⟩:=List.mem_map.1 hx;have hil:=((sentH_below (H:=hold autC V C) 6 0 h2).1 i hi).2;have hm:(hitsN C C.length).getD i ⟨[],[],0,0,0⟩∈hitsN C C.length:=by
   rw[List.getD_eq_getElem?_getD,List.getElem?_eq_getElem (by rw[hitsN_len];exact hil)];exact List.getElem_mem _
  exact ⟨hitsN_g hst hn ha C.length (Nat.le_refl _) _ hm,hitsN_ok hst hg C.length (Nat.le_refl _) _ hm⟩
set_option linter.unusedVariables false
set_option linter.unusedSimpArgs false
/-! How often a set changes from one byte to the next. -/
def chg(s i:Nat):Bool:=s.testBit i != s.testBit (i+1)
def cp(s:Nat):Nat:=(List.range 255).countP (chg s)
def cpL(S:List Nat):Nat:=(S.map cp).sum
theorem cpL_app(a b:List Nat):cpL (a++b)=cpL a+cpL b:=by simp[cpL]
theorem cp_zero:cp 0=0:=by decide +kernel
theorem cp_full:cp fullSet=0:=by decide +kernel
theorem cp_one(c:UInt8):cp (2 ^ c.toNat)≤2:=by
 have:∀ n,n<256→cp (2 ^ n)≤2:=by decide +kernel
 exact this c.toNat c.toNat_lt
theorem addBits_bit(s f:Nat):∀ k i,(addBits s f k).testBit i=(s.testBit i||(decide (f≤i)&&decide (i<f+k)))
 | 0,i=>by
   simp only[addBits,Nat.add_zero];cases h:(decide (f≤i)&&decide (i<f))
   ·simp
   ·simp at h;omega
 | k+1,i=>by
   rw[addBits,Nat.testBit_or,addBits_bit s f k i,Nat.testBit_two_pow];rw[Bool.eq_iff_iff];simp only[Bool.or_eq_true,Bool.and_eq_true,decide_eq_true_eq]
   constructor
   ·rintro ((h|h)|h)
    ·exact .inl h
    ·exact .inr ⟨h.1,by omega⟩
    ·exact .inr ⟨by omega,by omega⟩
   ·rintro (h|h)
    ·exact .inl (.inl h)
    ·by_cases e:i<f+k
     ·exact .inl (.inr ⟨h.1,e⟩)
     ·exact .inr (by omega)
theorem countP_or{p q r:Nat→Bool}(l:List Nat)(h:∀ x∈l,p x=true→q x=true∨r x=true):l.countP p≤l.countP q+l.countP r:=by
 induction l with
 | nil=>simp
 | cons a l ih =>
   have ih:=ih (fun x hx=>h x (by simp[hx]));rw[List.countP_cons,List.countP_cons,List.countP_cons];cases hp:p a
   ·simp;omega
   ·rcases h a (by simp) hp with e|e
    ·rw[e];simp;omega
    ·rw[e];simp;omega
theorem count_eq(n k:Nat):(List.range n).countP (fun i=>decide (i=k))≤1:=by
 induction n with
 | zero=>simp
 | succ n ih =>
   rw[List.range_succ,List.countP_append]
   by_cases h:n=k
   ·subst h
    have:(List.range n).countP (fun i=>decide (i=n))=0:=by
     rw[List.countP_eq_zero];intro x hx;have:=List.mem_range.1 hx;simp;omega
    rw[this];simp
   ·have:([n]:List Nat).countP (fun i=>decide (i=k))=0:=by simp[h]
    omega
theorem cp_range(s:Nat)(a b:UInt8):cp (addRange s a b)≤cp s+2:=by
 unfold cp;have h:=countP_or (p:=chg (addRange s a b)) (q:=chg s) (r:=fun i=>decide (i+1=a.toNat)||decide (i=b.toNat)) (List.range 255) (by
  intro i _ hi;unfold chg addRange at hi;rw[addBits_bit,addBits_bit]at hi;cases hc:chg s i
  ·right
   unfold chg at hc;have e:s.testBit i=s.testBit (i+1):=by simpa using hc
   rw[e]at hi;simp only[Bool.or_eq_true,decide_eq_true_eq];cases hs:s.testBit (i+1)
   ·rw[hs]at hi
    simp only[Bool.false_or]at hi
    by_cases h1:i+1=a.toNat
    ·exact .inl h1
    ·right
     by_cases h2:i=b.toNat
     ·exact h2
     ·exfalso
      have e1:(decide (a.toNat≤i)&&decide (i<a.toNat+(b.toNat+1-a.toNat)))=(decide (a.toNat≤i+1)&&decide (i+1<a.toNat+(b.toNat+1-a.toNat))):=by
       rw[Bool.eq_iff_iff];simp only[Bool.and_eq_true,decide_eq_true_eq];omega
      rw[e1]at hi;simp at hi
   ·rw[hs]at hi;simp at hi
  ·exact .inl rfl)
 have h2:=countP_or (p:=fun i=>decide (i+1=a.toNat)||decide (i=b.toNat)) (q:=fun i=>decide (i=a.toNat-1)) (r:=fun i=>decide (i=b.toNat)) (List.range 255) (by
  intro i _ hi;simp only[Bool.or_eq_true,decide_eq_true_eq]at hi ⊢;omega)
 have h3:=count_eq 255 (a.toNat-1);have h4:=count_eq 255 b.toNat;omega
theorem cp_not(s:Nat):cp (s ^^^ fullSet)=cp s:=by
 unfold cp;refine List.countP_congr (fun i hi=>?_);have hi:=List.mem_range.1 hi;have f:∀ j,j<256→fullSet.testBit j=true:=by decide +kernel
 unfold chg;rw[Nat.testBit_xor,Nat.testBit_xor,f i (by omega),f (i+1) (by omega)];cases s.testBit i<;>cases s.testBit (i+1)<;>simp
theorem pItems_cp:∀ {k st:Nat} {t r:List UInt8} {st':Nat},pItems k st t=some (st',r)→cp st'+2*r.length≤cp st+2*t.length
 | 0,st,t,r,st',h=>by cases h
 | k+1,st,t,r,st',h=>by
   unfold pItems at h
   split at h
   ·cases h
   ·rename_i a b q hi
    have e1:=pItem_len hi;have e2:=cp_range st a b
    split at h
    ·rename_i hc
     have e3:=headIs_len hc;simp at h;obtain ⟨rfl,rfl⟩:=h;omega
    ·have:=pItems_cp h
     omega
theorem pClass_cp{t r:List UInt8}{s:Nat}(h:pClass t=some (s,r)):cp s+2*r.length≤2*t.length:=by
 unfold pClass at h
 split at h
 ·rename_i hc
  have e3:=headIs_len hc
  split at h
  ·cases h
  ·rename_i s1 q h1
   have:=pItems_cp h1;simp at h;obtain ⟨rfl,rfl⟩:=h;rw[cp_not];rw[cp_zero]at this;omega
 ·have:=pItems_cp h
  rw[cp_zero]at this;omega
mutual
theorem pAtom_cp:∀ {k nest:Nat} {t r:List UInt8} {x:RX},pAtom k nest t=some (x,r)→cpL (setsOf x)+2*r.length≤2*t.length
 | 0,nest,t,r,x,h=>by simp[pAtom]at h
 | k+1,nest,[],r,x,h=>by simp[pAtom]at h
 | k+1,nest,c::q,r,x,h=>by
   simp only[pAtom]at h
   split at h
   ·split at h
    ·simp at h
    ·split at h
     ·simp at h
     ·rename_i x1 r1 h1
      have e:=pAlt_cp (acc:=[]) h1
      split at h
      ·rename_i hc
       have e2:=headIs_len hc;simp at h;obtain ⟨rfl,rfl⟩:=h;simp[setsL,cpL]at e ⊢;omega
      ·simp at h
   ·split at h
    ·split at h
     ·simp at h
     ·rename_i s r1 h1
      have e:=pClass_cp h1;simp at h;obtain ⟨rfl,rfl⟩:=h;simp[setsOf,cpL];omega
    ·split at h
     ·simp at h
      obtain ⟨rfl,rfl⟩:=h;simp[setsOf,cpL,cp_full];omega
     ·split at h
      ·cases q with
       | nil=>simp at h
       | cons d q2 =>
         simp at h;obtain ⟨rfl,rfl⟩:=h;have:=cp_one d;simp[setsOf,cpL];omega
      ·split at h
       ·simp at h
       ·simp at h
        obtain ⟨rfl,rfl⟩:=h;have:=cp_one c;simp[setsOf,cpL];omega
theorem pSeq_cp:∀ {k nest:Nat} {acc:List RX} {t r:List UInt8} {x:RX},pSeq k nest acc t=some (x,r)→cpL (setsOf x)+2*r.length≤cpL (setsL acc)+2*t.length
 | 0,nest,acc,t,r,x,h=>by simp[pSeq]at h
 | k+1,nest,acc,t,r,x,h=>by
   simp only[pSeq]at h
   split at h
   ·simp at h
    obtain ⟨rfl,rfl⟩:=h;exact Nat.le_refl _
   ·split at h
    ·simp at h
    ·rename_i x1 r1 h1
     have e1:=pAtom_cp h1
     split at h
     ·simp at h
     ·rename_i y r2 h2
      have e2:=pMarks_sets h2;have e3:=pSeq_cp (acc:=acc++[y]) h;rw[setsL_app,setsL_one,e2.1,cpL_app]at e3;omega
theorem pAlt_cp:∀ {k nest:Nat} {acc:List RX} {t r:List UInt8} {x:RX},pAlt k nest acc t=some (x,r)→cpL (setsOf x)+2*r.length≤cpL (setsL acc)+2*t.length
 | 0,nest,acc,t,r,x,h=>by simp[pAlt]at h
 | k+1,nest,acc,t,r,x,h=>by
   simp only[pAlt]at h
   split at h
   ·simp at h
   ·rename_i x1 r1 h1
    have e1:=pSeq_cp (acc:=[]) h1;have e0:cpL (setsL [])=0:=by simp[setsL,cpL]
    rw[e0,Nat.zero_add]at e1
    split at h
    ·rename_i hc
     have e2:=headIs_len hc;have e3:=pAlt_cp (acc:=acc++[x1]) h;rw[setsL_app,setsL_one,cpL_app]at e3;omega
    ·simp at h
     obtain ⟨rfl,rfl⟩:=h;simp only[setsOf,setsL_app,setsL_one,cpL_app];omega
end
theorem pWhole_cp{t:List UInt8}{e:RX}(h:pWhole t=some e):cpL (setsOf e)≤2*t.length:=by
 unfold pWhole at h
 split at h
 ·rename_i x hx
  cases h
  have:=pAlt_cp hx;simp[setsL,cpL]at this ⊢;exact this
 ·cases h
set_option linter.unusedVariables false
set_option linter.unusedSimpArgs false
/-! How many classes of bytes an expression tells apart. -/
theorem fst_has(S:List Nat)(c:Nat):∃ f∈fstK S (c+1),apart S f c=false:=by
 simp only[fstK]
 split
 ·exact ⟨c,by simp,by simp[apart]⟩
 ·rename_i h
  have h1:clsOf S (fstK S c) c<(fstK S c).length:=by
   have:=clsOf_le S (fstK S c) c;simp at h;omega
  have h2:=List.findIdx_getElem (w:=h1);refine ⟨(fstK S c)[clsOf S (fstK S c) c],List.getElem_mem h1,?_⟩;have h3:(!apart S ((fstK S c)[clsOf S (fstK S c) c]) c)=true:=h2;simpa using h3
theorem apart_next{S:List Nat}{c f:Nat}(h:S.any (fun s=>chg s c)=false)(ha:apart S f c=false):apart S f (c+1)=false:=by
 unfold apart at ha ⊢;rw[List.any_eq_false]at h ha ⊢;intro s hs;have h1:=h s hs;have h2:=ha s hs;simp[chg]at h1 h2 ⊢;rw[h2,h1]
theorem fst_step(S:List Nat)(c:Nat):(fstK S (c+2)).length≤(fstK S (c+1)).length+(if S.any (fun s=>chg s c) then 1 else 0):=by
 cases h:S.any (fun s=>chg s c)
 ·obtain ⟨f,hf,hfa⟩:=fst_has S c
  have h1:=apart_next h hfa;rw[fstK];have h2:clsOf S (fstK S (c+1)) (c+1)<(fstK S (c+1)).length:=by
   unfold clsOf;exact List.findIdx_lt_length_of_exists ⟨f,hf,by simp[h1]⟩
  rw[if_neg (by simp;omega)];simp
 ·rw[fstK]
  split<;>simp
theorem fst_count(S:List Nat):∀ c,(fstK S (c+1)).length≤1+(List.range c).countP (fun i=>S.any (fun s=>chg s i))
 | 0=>by have:=(fstK_le S 1).1;simpa using this
 | c+1=>by
   have h1:=fst_step S c;have h2:=fst_count S c;rw[List.range_succ,List.countP_append];have h3:List.countP (fun i=>S.any (fun s=>chg s i)) [c]=(if S.any (fun s=>chg s c) then 1 else 0):=by
    simp[List.countP_cons]
   show (fstK S (c+2)).length≤_;omega
theorem count_any(l:List Nat):∀ S:List Nat,l.countP (fun i=>S.any (fun s=>chg s i))≤(S.map (fun s=>l.countP (chg s))).sum
 | []=>by simp
 | s::S=>by
   have h:=count_any l S;have h1:=countP_or (p:=fun i=>(s::S).any (fun s=>chg s i)) (q:=chg s) (r:=fun i=>S.any (fun s=>chg s i)) l (by
    intro x _ hx;simpa using hx)
   simp only[List.map_cons,List.sum_cons];omega
theorem fstE_cp(e:RX):(fstE e).length≤1+cpL (setsOf e):=by
 have h1:=fst_count (setsOf e) 255;have h2:=count_any (List.range 255) (setsOf e);unfold fstE;unfold cpL cp;exact Nat.le_trans h1 (by
  have:(setsOf e).map (fun s=>(List.range 255).countP (chg s))=(setsOf e).map (fun s=>List.countP (chg s) (List.range 255)):=rfl;omega)
theorem fstE_len{t:List UInt8}{e:RX}(h:pWhole t=some e):(fstE e).length≤1+2*t.length :=
 Nat.le_trans (fstE_cp e) (by have:=pWhole_cp h;omega)
set_option linter.unusedVariables false
set_option linter.unusedSimpArgs false
/-! How long a program's bytes are. -/
theorem flatB_le{α:Type}{f:α→List UInt8}{b:Nat}:∀ (l:List α),(∀ x∈l,(f x).length≤b)→(l.flatMap f).length≤l.length*b
 | [],_=>by simp
 | x::l,h=>by
   have h1:=h x (by simp);have h2:=flatB_le l (fun y hy=>h y (by simp[hy]));rw[List.flatMap_cons,List.length_append,List.length_cons,Nat.succ_mul];omega
theorem eTn_len(t:List UInt8):(eT t).length=1+t.length:=by simp[eT,nb_len]
theorem eTs_le{l:List (List UInt8)}{b:Nat}(h:∀ t∈l,t.length≤b):(eTs l).length≤1+l.length*(1+b):=by
 have:=flatB_le (f:=eT) (b:=1+b) l (fun x hx=>by rw[eTn_len];have:=h x hx;omega);simp only[eTs,List.length_append,nb_len];omega
theorem eA_le{a:AutM}(ok:AutOK a)(hk:a.k≤81):(eA a).length≤3539:=by
 have h1:=flatB_le (f:=nb 1) (b:=1) a.cl (fun x _=>by rw[nb_len];exact Nat.le_refl 1);have h2:=flatB_le (f:=nb 1) (b:=1) a.acc (fun x _=>by rw[nb_len];exact Nat.le_refl 1);have h3:=flatB_le (f:=nb 1) (b:=1) a.nx (fun x _=>by rw[nb_len];exact Nat.le_refl 1);have h4:=ok.nx;have h5:=ok.cl;have h6:=ok.s2;have h7:a.acc.length*a.k≤40*81:=Nat.mul_le_mul h6 hk;simp only[eA,List.length_append,nb_len];omega
theorem eH_le{h:HitM}(ok:HitOK h):(eH h).length≤55:=by
 have h1:=ok.rc.1;have h2:=eTs_le (l:=h.bl) (b:=8) (fun t ht=>by have:=(ok.b2 t ht).1;omega);have h3:=ok.b1;simp only[eH,List.length_append,nb_len,eTn_len];omega
theorem eM_le{m:Mach}(ok:MOK m)(ha:m.autos.length≤64)(hk:∀ a∈m.autos,a.k≤81)(hc:m.code.length≤1000):(eM m).length≤262144:=by
 have h1:=eTs_le (l:=m.names) (b:=8) (fun t ht=>by have:=(ok.names.2 t ht).1;omega);have h2:=eTs_le (l:=m.consts) (b:=40) (fun t ht=>by have:=ok.consts.2 t ht;omega);have h3:=flatB_le (f:=eA) (b:=3539) m.autos (fun a h=>eA_le (ok.autos.2 a h) (hk a h));have h4:=flatB_le (f:=eTt) (b:=3) m.tests (fun a h=>by simp[eTt,nb_len]);have h5:=flatB_le (f:=eH) (b:=55) m.routes (fun a h=>eH_le (ok.routes.2 a h));have h6:=flatB_le (f:=eI) (b:=6) m.code (fun a h=>by simp[eI,nb_len]);have l1:=ok.names.1;have l2:=ok.consts.1;have l4:=ok.tests.1;have l5:=ok.routes.1;have hm:markL.length=3:=rfl;simp only[eM,List.length_append,nb_len,hm];omega
set_option linter.unusedVariables false
set_option linter.unusedSimpArgs false
/-! A compiled program may be loaded: its bytes are few. -/
def AK(re:List UInt8→Nat)(aut:List UInt8→AutM)(s:CS):Prop:=∀ a∈s.a,∃ v:List UInt8,v.length≤40∧re v=0∧a=aut v
theorem ptest_ak{re:List UInt8→Nat}{aut:List UInt8→AutM}{s s1:CS}{m:CM}{t:TstM}(h:AK re aut s)(hm:GoodM m)(e:ptest re aut s m=some (t,s1)):AK re aut s1:=by
 unfold ptest at e
 split at e
 ·split at e
  ·cases e;exact h
  ·split at e
   ·rename_i h0
    cases e
    intro a ha;rcases List.mem_append.1 ha with h1|h1
    ·exact h a h1
    ·rw[List.mem_singleton.1 h1];exact ⟨m.2.2,hm.val,h0,rfl⟩
   ·cases e
 ·cases e;exact h
theorem pmat_ak{re:List UInt8→Nat}{aut:List UInt8→AutM}:∀ (M:List CM) (s:CS) (acc:List (Nat × Bool)) {l:List (Nat × Bool)} {s1:CS},AK re aut s→(∀ m∈M,GoodM m)→pmat re aut s acc M=.ok (l,s1)→AK re aut s1
 | [],s,acc,l,s1,h,_,e=>by
   rw[pmat]at e;cases e
   exact h
 | m::r,s,acc,l,s1,h,hM,e=>by
   rw[pmat]at e
   split at e
   ·cases e
   ·rename_i t s2 ht
    have h2:=ptest_ak h (hM m (by simp)) ht;exact pmat_ak r _ _ (show AK re aut { s2 with t:=addt s2.t t } from h2) (fun x hx=>hM x (by simp[hx])) e
theorem pread_ak{re:List UInt8→Nat}{aut:List UInt8→AutM}:∀ (C:List CR) (s:CS) (i:Nat) {s1:CS},AK re aut s→(∀ c∈C,GoodCR c)→pread re aut s i C=.ok s1→AK re aut s1
 | [],s,i,s1,h,_,e=>by
   rw[pread]at e;cases e
   exact h
 | c::r,s,i,s1,h,hC,e=>by
   rw[pread]at e
   split at e
   ·cases e
   ·rename_i l s2 hl
    have h2:=pmat_ak c.ifs s [] h (hC c (by simp)).ifs hl;exact pread_ak r { s2 with q:=s2.q++[l] } (i+1) (show AK re aut { s2 with q:=s2.q++[l] } from h2) (fun x hx=>hC x (by simp[hx])) e
theorem autC_k{v:List UInt8}(hv:v.length≤40)(h:reC v=0):(autC v).k≤81:=by
 obtain ⟨e,he,_,_⟩:=reC_zero h;have h1:=fstE_len he;have hk:(autC v).k=(fstE e).length:=by
  unfold autC;rw[he]
 rw[hk];generalize (fstE e).length=n at *;omega
theorem compM_le{t:List UInt8}{L:List (List UInt8)}{C:List CR}{s:CS}(ht:t.length≤1048576)(h:cRead t=.ok (L,C))(hp:pread reC autC cs0 0 C=.ok s):(eM (compM C s)).length≤262144:=by
 obtain ⟨h1,h2,h3,h4⟩:=cRead_tree h;have hg:=(cRead1_good t L C ht h1).2.2;have ok:=mok_of autC_ok ht h hp;obtain ⟨k1,k2,k3⟩:=pread_ok autC_ok C cs0 0 0 ⟨by simp[cs0],by simp[cs0],by simp[cs0],rfl,by simp[cs0],by simp[cs0],by simp[cs0]⟩ ⟨by simp[cs0],by simp[cs0],by simp[cs0],by simp[cs0],by simp[cs0]⟩ hg hp;have ka:=pread_ak (re:=reC) (aut:=autC) C cs0 0 (fun a ha=>by simp[cs0]at ha) hg hp;refine eM_le ok (by have:=k2.a;show s.a.length≤64;omega) (fun a ha=>?_) ?_
 ·obtain ⟨v,hv,h0,rfl⟩:=ka a ha
  exact autC_k hv h0
 ·have hne:C.isEmpty=false:=by cases C with | nil=>simp at h2|cons=>rfl
  have hg0:GL [⟨0,0,0,0⟩]:=by
   intro i hi;simp at hi;subst hi;exact .inl rfl
  obtain ⟨r1,r2,r3⟩:=layR_good C s.q 6 0 0 [⟨0,0,0,0⟩] hg0 (by simp);have r5:=laid_short h3 h2 k1.ql;show (codeM C s.q).length≤1000;unfold codeM;rw[hne];obtain ⟨t1,t2⟩:=turnM_len r1 _ r2;show (turnM (layR C s.q 6 0 0 [⟨0,0,0,0⟩]).2 (layR C s.q 6 0 0 [⟨0,0,0,0⟩]).1).length≤1000;omega
theorem comp_ris{t:List UInt8}{L:List (List UInt8)}{C:List CR}{s:CS}(h:cRead t=.ok (L,C)):∀ x∈(compM C s).routes,risB x.bl=true:=by
 obtain ⟨h1,h2,h3,h4⟩:=cRead_tree h;have hst:=cRead_steps h;have hnm:=cRead_names h;obtain ⟨_,l0,ls,e1,e2,e3⟩:=(cRead1_lines t L C).1 h1;have hn:∀ c∈C,c.rc=[45]∨c.rc∈L:=by
  unfold nameF at hnm
  split at hnm
  ·cases hnm
  ·exact nameGo_ok C 0 hnm
 have ha:∀ c∈C,Asc c.bys:=fun c hc=>by
  obtain ⟨a,_,ha⟩:=mapM_mem rtL ls C e3 c hc;exact rtL_asc ha
 intro x hx;exact asc_ris (hitsN_g hst hn ha C.length (Nat.le_refl _) x hx).bl
theorem ksameHits_eq(w:World)(v1 v2:Value)(hs:List HitM)(h1:HRS w v1 hs)(h2:HRS w v2 hs)(hlen:hs.length≤1000)(hbl:∀ x∈hs,x.bl.length≤1000) :
 Calls Tryz.prog 20 #[v1,v2] w fun e w'=>e=.returned (.bool true)∧∃ q,w'=w.drewN q:=by
 obtain ⟨a1,c1,rfl,hc1,r1⟩:=h1;obtain ⟨a2,c2,rfl,hc2,r2⟩:=h2;have R1:=hide r1;have R2:=hide r2;have HBL:=hide hbl;have hl:=bs_toList;clear r1 r2 hbl;go_enter Tryz.func20,Tryz.ntmps20
 go_wp2_with fail
 go_loopg [5] hs.length (fun k v5 wr=>∃ j q:Nat,j+k=hs.length∧v5=.int .i64 j∧wr=w.drewN q)
 case atStart=>exact ⟨0,0,by omega,rfl,rfl⟩
 case round =>
  obtain ⟨j,q,hjk,rfl,hw⟩:=hrel;obtain ⟨K0,hK0⟩:∃ K0,K0=gk:=⟨_,rfl⟩;subst hw
  by_cases hlt:j<hs.length
  ·have hd1:decide ((j:Int)<(hs.length:Int))=true:=decide_eq_true (by omega)
   obtain ⟨g1,o1,vb1,rfl,p⟩:=R1.out j hlt;obtain ⟨g2,o2,vb2,rfl,p'⟩:=R2.out j hlt;have hb:=HBL.out hs[j] (List.getElem_mem hlt);generalize hs[j]=x at *;have p0:=p.c0;have p1:=p.c1;have p2:=p.c2;have p3:=p.c3;have p4:=p.c4;have q0:=p'.c0;have q1:=p'.c1;have q2:=p'.c2;have q3:=p'.c3;have q4:=p'.c4;obtain ⟨b1,d1,rfl,s1⟩:=p.r.str;obtain ⟨b2,d2,rfl,s2⟩:=p'.r.str;have S1:=hide s1;have S2:=hide s2;clear p p' s1 s2;go_wp2_with fail
   go_quiet (fail)
   go_wp2_with fail
   go_loopg [8] x.bl.length (fun k v8 wr=>∃ i q:Nat,i+k=x.bl.length∧v8=.int .i64 i∧wr=w.drewN q)
   case atStart=>exact ⟨0,q+nq,by omega,rfl,by simp[World.drewN_drewN]⟩
   case round =>
    obtain ⟨i,q',hik,rfl,hw⟩:=hrel;subst hw
    by_cases hil:i<x.bl.length
    ·have hd2:decide ((i:Int)<(x.bl.length:Int))=true:=decide_eq_true (by omega)
     obtain ⟨gb1,ob1,rfl,hgb1,u1⟩:=S1.out i hil;obtain ⟨gb2,ob2,rfl,hgb2,u2⟩:=S2.out i hil;generalize x.bl[i]=y at *;go_wp2_with fail
     go_quiet (fail)
     go_wp2;go_roundg (gk-1)
     case measure=>omega
     case rel=>exact ⟨i+1,_,by omega,by go_num,rfl⟩
    ·have hd2:decide ((i:Int)<(x.bl.length:Int))=false:=decide_eq_false (by omega)
     go_wp2;go_roundg (K0-1)
     case measure=>omega
     case rel=>exact ⟨j+1,_,by omega,by go_num,rfl⟩
  ·have hd1:decide ((j:Int)<(hs.length:Int))=false:=decide_eq_false (by omega)
   go_wp2;go_ret;exact ⟨rfl,q,rfl⟩
end Go.Proofs.YtpcbbbilmpobaaaGreatDoor
