import Derived.Test.YtjkialjoamgbgaaGreatJ12
import Derived.Test.YtjkialjoamgbgaaGreatJ27
import Derived.Test.YtjkialjoamgbgaaGreatJ1
import Derived.Test.YtjkialjoamgbgaaGreatJ3
import Derived.Laws.CopyOwn
import Derived.Laws.MakeOwn
set_option linter.unusedVariables false
set_option linter.unusedSimpArgs false
set_option linter.unnecessarySimpa false
set_option maxRecDepth 100000
set_option maxHeartbeats 8000000
namespace Go.Proofs.YtjkialjoamgbgaaGreat
open Go.RowKit
/-! Lines: a text that is read,line by line. -/
theorem mapM_cons'{α β:Type}(f:α→Option β)(a:α)(l:List α):(a::l).mapM f=match f a with | none=>none|some b=>match l.mapM f with | none=>none|some bs=>some (b::bs):=by
 rw[List.mapM_cons]
 cases f a with
 | none=>rfl
 | some b=>cases l.mapM f<;>rfl
def rtL(l:List UInt8):Option CR:=sRoute l.dropLast
theorem rl2:∀ (t:List UInt8) (ln:Nat) (cur:List UInt8) (R:List (List UInt8)) (C:List CR) (R':List (List UInt8)) (C':List CR),2≤ln →
 (rlGo t ln cur R C=.ok (R',C')↔R'=R∧(lnsGo t cur).flatten=cur++t∧∃ Cs,(lnsGo t cur).mapM rtL=some Cs∧C'=C++Cs)
 | [],ln,cur,R,C,R',C',h=>by
   rw[rlGo,lnsGo]
   have:(ln==1)=false:=by simp;omega
   rw[this,Bool.or_false]
   cases cur with
   | nil =>
     simp
     constructor
     ·rintro ⟨rfl,rfl⟩;exact ⟨rfl,rfl⟩
     ·rintro ⟨rfl,rfl⟩;exact ⟨rfl,rfl⟩
   | cons c r=>simp
 | c::r,ln,cur,R,C,R',C',h=>by
   rw[rlGo,lnsGo]
   by_cases hc:c=10
   ·subst hc
    have:(ln==1)=false:=by simp;omega
    simp only[beq_self_eq_true,if_true,this,Bool.false_eq_true,if_false]
    rw[mapM_cons']
    have hrt:rtL (cur++[10])=sRoute cur:=by unfold rtL;rw[List.dropLast_concat]
    rw[hrt]
    cases hs:sRoute cur with
    | none=>simp
    | some x =>
      simp only
      rw[rl2 r (ln+1) [] R (C++[x]) R' C' (by omega)]
      simp only[List.flatten_cons,List.append_assoc,List.nil_append,List.append_cancel_left_eq]
      constructor
      ·rintro ⟨h1,h2,Cs,h3,h4⟩
       refine ⟨h1,by rw[h2];rfl,x::Cs,by rw[h3],by rw[h4];rfl⟩
      ·rintro ⟨h1,h2,Cs,h3,h4⟩
       refine ⟨h1,by simpa using h2,?_⟩
       cases hm:(lnsGo r []).mapM rtL with
       | none=>rw[hm]at h3;cases h3
       | some Ds=>rw[hm]at h3;cases h3;exact ⟨Ds,rfl,h4⟩
   ·have hc':(c==10)=false:=by simpa using hc
    rw[hc']
    simp only[Bool.false_eq_true,if_false]
    rw[rl2 r ln (cur++[c]) R C R' C' h]
    simp
theorem rl1:∀ (t cur:List UInt8) (R:List (List UInt8)) (C:List CR) (R':List (List UInt8)) (C':List CR),
 (rlGo t 1 cur R C=.ok (R',C')↔(lnsGo t cur).flatten=cur++t∧∃ l0 ls Cs,lnsGo t cur=l0::ls∧sRecvs l0.dropLast=some R'∧ls.mapM rtL=some Cs∧C'=C++Cs)
 | [],cur,R,C,R',C'=>by
   rw[rlGo,lnsGo]
   simp
 | c::r,cur,R,C,R',C'=>by
   rw[rlGo,lnsGo]
   by_cases hc:c=10
   ·subst hc
    simp only[beq_self_eq_true,if_true]
    constructor
    ·intro h
     cases hs:sRecvs cur with
     | none=>rw[hs]at h;cases h
     | some R1 =>
       rw[hs]at h
       obtain ⟨h1,h2,Cs,h3,h4⟩:=(rl2 r 2 [] R1 C R' C' (by omega)).1 h
       refine ⟨by simp[h2],cur++[10],lnsGo r [],Cs,rfl,by rw[List.dropLast_concat,hs,h1],h3,h4⟩
    ·rintro ⟨h1,l0,ls,Cs,h2,h3,h4,h5⟩
     cases h2
     rw[List.dropLast_concat]at h3
     rw[h3]
     exact (rl2 r 2 [] R' C R' C' (by omega)).2 ⟨rfl,by simpa using h1,Cs,h4,h5⟩
   ·have hc':(c==10)=false:=by simpa using hc
    rw[hc']
    simp only[Bool.false_eq_true,if_false]
    rw[rl1 r (cur++[c]) R C R' C']
    simp
theorem cRead1_lines(t:List UInt8)(L:List (List UInt8))(C:List CR):cRead1 t=.ok (L,C)↔(lnsK t).flatten=t∧∃ l0 ls,lnsK t=l0::ls∧sRecvs l0.dropLast=some L∧ls.mapM rtL=some C:=by
 unfold cRead1 lnsK
 rw[rl1]
 simp only[List.nil_append]
 constructor
 ·rintro ⟨h1,l0,ls,Cs,h2,h3,h4,rfl⟩;exact ⟨h1,l0,ls,h2,h3,h4⟩
 ·rintro ⟨h1,l0,ls,h2,h3,h4⟩;exact ⟨h1,l0,ls,C,h2,h3,h4,rfl⟩
theorem nameGo_ok{L:List (List UInt8)}:∀ (C:List CR) (i:Nat),nameGo L C i=0→∀ c∈C,c.rc=[45]∨c.rc∈L
 | [],i,_,c,h=>by simp at h
 | x::r,i,h,c,hc=>by
   rw[nameGo]at h
   split at h
   ·cases h
   ·rename_i h1
    rcases List.mem_cons.1 hc with rfl|hc
    ·by_cases e:c.rc=[45]
     ·exact .inl e
     ·right
      have e':(c.rc == [45])=false:=by simpa using e
      rw[e']at h1
      simpa using h1
    ·exact nameGo_ok r (i+1) h c hc
theorem cRead_names{t:List UInt8}{L:List (List UInt8)}{C:List CR}(h:cRead t=.ok (L,C)):nameF L C=0:=by
 unfold cRead at h
 split at h
 ·cases h
 ·split at h
  ·cases h
  ·split at h
   ·cases h
   ·split at h
    ·cases h
    ·rename_i h1
     cases h
     omega
theorem sBy_asc(l:List UInt8):Asc (sBy l).names:=by
 unfold sBy
 split
 ·dsimp only
  split
  ·exact List.Pairwise.nil
  ·exact rise_asc _ [] List.Pairwise.nil
 ·exact List.Pairwise.nil
theorem rtL_asc{l:List UInt8}{c:CR}(h:rtL l=some c):Asc c.bys:=by
 obtain ⟨_,_,_,_,_,_,rfl⟩:=sRoute_some _ _ h
 exact sBy_asc _
theorem mapM_mem{α β:Type}(f:α→Option β):∀ (l:List α) (m:List β),l.mapM f=some m→∀ b∈m,∃ a∈l,f a=some b
 | [],m,h,b,hb=>by simp at h;subst h;simp at hb
 | a::l,m,h,b,hb=>by
   rw[mapM_cons']at h
   split at h
   ·cases h
   ·rename_i x hx
    split at h
    ·cases h
    ·rename_i bs hbs
     cases h
     rcases List.mem_cons.1 hb with rfl|hb
     ·exact ⟨a,by simp,hx⟩
     ·obtain ⟨y,hy,hf⟩:=mapM_mem f l bs hbs b hb
      exact ⟨y,by simp[hy],hf⟩
structure HitG(L:List (List UInt8))(h:HitM):Prop where
 rc:h.rc∈L
 bl:Asc h.bl
theorem hitsN_g{L:List (List UInt8)}{C:List CR}(hs:Steps C)(hn:∀ c∈C,c.rc=[45]∨c.rc∈L)(ha:∀ c∈C,Asc c.bys):∀ i,i≤C.length→∀ h∈hitsN C i,HitG L h
 | 0,_=>by simp[hitsN]
 | i+1,hi=>by
   intro h hh
   rw[hitsN]at hh
   have ih:=hitsN_g hs hn ha i (by omega)
   rcases List.mem_append.1 hh with e|e
   ·exact ih h e
   ·rw[List.getElem?_eq_getElem (by omega)]at e
    have e:=List.mem_singleton.1 e
    subst e
    have hc:=hn C[i] (List.getElem_mem _)
    have hb:=ha C[i] (List.getElem_mem _)
    have key:∀ ab:HitM,(C[i].rc=[45]→ab.rc∈L)→Asc ab.bl→HitG L (hitB ab C[i]):=by
     intro ab h1 h2
     refine ⟨?_,?_⟩
     ·show (if C[i].rc == [45] then ab.rc else C[i].rc)∈L
      by_cases e:C[i].rc=[45]
      ·rw[if_pos (by simp[e])];exact h1 e
      ·rw[if_neg (by simp[e])];exact hc.resolve_left e
     ·show Asc (if C[i].tb then C[i].bys else ab.bl)
      split
      ·exact hb
      ·exact h2
    cases i with
    | zero =>
      have h0:=(hs.1 C[0] (List.getElem?_eq_getElem (by omega))).2
      refine key _ (fun e=>absurd e h0) ?_
      unfold aboveH
      have:par C 0=none:=by
       cases hp:par C 0 with
       | none=>rfl
       | some p=>exact absurd (par_lt hp) (by omega)
      rw[this]
      exact List.Pairwise.nil
    | succ i =>
      obtain ⟨p,hp⟩:=par_of hs i (by omega)
      have hpl:=par_lt hp
      have hm:aboveH C (hitsN C (i+1)) (i+1)∈hitsN C (i+1):=by
       unfold aboveH
       rw[hp]
       simp only
       rw[List.getD_eq_getElem?_getD,List.getElem?_eq_getElem (by rw[hitsN_len];exact hpl)]
       exact List.getElem_mem _
      have ho:=ih _ hm
      exact key _ (fun _=>ho.rc) ho.bl
open Go.RowKit
def hitsM(m:Mach)(l:List Nat):List HitM:=l.map fun i=>m.routes.getD i ⟨[],[],0,0,0⟩
theorem hitsM_snoc(m:Mach)(l:List Nat)(i:Nat)(hi:i<m.routes.length):hitsM m (l++[i])=hitsM m l++[m.routes[i]]:=by simp[hitsM,List.getD,hi]
theorem ins_cases{m:Mach}(ok:MOK m)(V:List UInt8→List UInt8){k:Nat}(hk:k<m.code.length)(n:Nat) :
 (m.code[k].op=0∧runM m V (n+1) k=[]) ∨
 (m.code[k].op=1∧m.code[k].x<m.routes.length∧k<m.code[k].a∧m.code[k].a<m.code.length∧runM m V (n+1) k=m.code[k].x::runM m V n m.code[k].a) ∨
 (m.code[k].op=2∧k<m.code[k].a∧m.code[k].a<m.code.length∧k<m.code[k].b∧m.code[k].b<m.code.length∧∃ hx:m.code[k].x<m.tests.length,TstOK m.names.length m.consts.length m.autos.length m.tests[m.code[k].x] ∧
   runM m V (n+1) k=runM m V n (if tstM m (V (m.names.getD m.tests[m.code[k].x].n [])) m.tests[m.code[k].x] then m.code[k].a else m.code[k].b)):=by
 have h:=ok.code.2.2 k hk
 have hs:=h.s
 have ho:=h.op
 have hc:m.code[k]?=some m.code[k]:=List.getElem?_eq_getElem hk
 generalize m.code[k]=c at *
 obtain ⟨op,x,a,b⟩:=c
 simp only at ho ⊢
 match op,ho with
 | 0,_=>exact .inl ⟨rfl,by rw[runM,hc];rfl⟩
 | 1,_ =>
   simp[stands]at hs
   exact .inr (.inl ⟨rfl,hs.1.1,hs.1.2.1,hs.1.2.2,by rw[runM,hc];rfl⟩)
 | 2,_ =>
   simp[stands]at hs
   refine .inr (.inr ⟨rfl,hs.1.2.1,hs.1.2.2,hs.2.1,hs.2.2,hs.1.1,ok.tests.2 _ (List.getElem_mem _),?_⟩)
   rw[runM,hc]
   simp only[List.getElem?_eq_getElem hs.1.1]
open Go.RowKit
abbrev LBL:Type:=List UInt8 × List UInt8
def LR(w:World)(v:Value)(L:List LBL):Prop :=
 ∃ a cap,v=.slice a L.length cap∧L.length≤1048576∧∀ (j:Nat) (h:j<L.length),∃ g off,a=some ⟨g,off,none⟩∧g<w.heap.size∧w.cell? ⟨g,off+j*2,none⟩=some (.string (bs L[j].1))∧w.cell? ⟨g,off+j*2+1,none⟩=some (.string (bs L[j].2))
theorem LR.frm{S:List Nat}{w w':World}{v:Value}{L:List LBL}(h:LR w v L)(f:Frm S w w')(hS:∀ a n c,v=.slice (some a) n c→a.block∉S):LR w' v L:=by
 obtain ⟨a,cap,rfl,h0,h1⟩:=h
 refine ⟨a,cap,rfl,h0,?_⟩
 intro j hj
 obtain ⟨g,off,rfl,h2,h3,h4⟩:=h1 j hj
 have hg:=hS ⟨g,off,none⟩ _ _ rfl
 exact ⟨g,off,rfl,Nat.lt_of_lt_of_le h2 f.size,(f.cell (p:=⟨g,off+j*2,none⟩) h2 hg).trans h3,(f.cell (p:=⟨g,off+j*2+1,none⟩) h2 hg).trans h4⟩
def lblV(L:List LBL)(n:List UInt8):List UInt8:=match L.find? (fun x=>x.1==n) with | some x=>x.2|none=>[]
def labsB:List LBL→List LBL→Bool
 | _,[]=>true
 | P,x::r=>isNameL x.1&&decide (x.2.length≤40)&&!(P.any fun y=>y.1==x.1)&&labsB (P++[x]) r
def labsOK(L:List LBL):Bool:=decide (L.length≤12)&&labsB [] L
theorem labsB_at(L:List LBL)(j:Nat)(hj:j<L.length):labsB (L.take j) (L.drop j)=(isNameL L[j].1&&decide (L[j].2.length≤40)&&!((L.take j).any fun y=>y.1==L[j].1)&&labsB (L.take (j+1)) (L.drop (j+1))):=by
 have e:L.take (j+1)=L.take j++[L[j]]:=by rw[List.take_add_one,List.getElem?_eq_getElem hj];rfl
 rw[List.drop_eq_getElem_cons hj,labsB,e]
open Go.RowKit
theorem LR.take{w:World}{a:Option Addr}{n cap:Nat}{L:List LBL}(h:LR w (.slice a n cap) L)(j:Nat)(hj:j≤L.length):LR w (.slice a j cap) (L.take j):=by
 obtain ⟨a',c',e,h0,h1⟩:=h
 simp at e
 obtain ⟨rfl,rfl,rfl⟩:=e
 have hl:(L.take j).length=j:=by simp;omega
 refine ⟨a,cap,by rw[hl],by omega,?_⟩
 intro i hi
 rw[hl]at hi
 obtain ⟨g,off,rfl,h2,h3,h4⟩:=h1 i (by omega)
 exact ⟨g,off,rfl,h2,by rw[List.getElem_take];exact h3,by rw[List.getElem_take];exact h4⟩
theorem valueOf_any(v:Value)(L:List LBL)(n:List UInt8)(w:World)(h:LR w v L) :
 Calls Tryz.prog 59 #[v, .string (bs n)] w fun e w'=>e=.returned (.string (bs (lblV L n)))∧Frm [] w w':=by
 obtain ⟨a,cap,rfl,h0,h1⟩:=h
 have H1:=hide h1
 have hl:=bs_toList
 clear h1
 go_enter Tryz.func59,Tryz.ntmps59
 go_wp2_with fail
 go_loopg [9] L.length (fun k vi wr=>∃ j:Nat,j+k=L.length∧vi=.int .i64 j∧Frm [] w wr∧Hid ((L.drop j).find? (fun x=>x.1==n)=L.find? (fun x=>x.1==n)))
 case atStart=>exact ⟨0,by omega,rfl,Frm.refl _ _,by show _=_;simp⟩
 case round =>
  obtain ⟨j,hj,rfl,hfr,HF⟩:=hrel
  have F:=hide hfr
  clear hfr
  by_cases hlt:j<L.length
  ·obtain ⟨g,off,rfl,hg,hc1,hc2⟩:=H1.out j hlt
   have hf:=HF.out
   rw[List.drop_eq_getElem_cons hlt,List.find?_cons]at hf
   have q1:=(F.out.cell (p:=⟨g,off+j*2,none⟩) hg (by simp)).trans hc1
   have q2:=(F.out.cell (p:=⟨g,off+j*2+1,none⟩) hg (by simp)).trans hc2
   clear hc1 hc2
   generalize L[j]=x at *
   obtain ⟨nm,vl⟩:=x
   simp only at q1 q2 hf
   cases he:(nm==n)
   ·rw[he]at hf
    have HF2:=hide hf
    clear hf HF
    go_wp2
    go_roundg (gk-1)
    case measure=>omega
    case rel=>exact ⟨j+1,by omega,by go_num,F.out.alloc _,HF2⟩
   ·rw[he]at hf
    have HV:Hid (lblV L n=vl):=by show _=_;unfold lblV;rw[← hf]
    clear hf HF
    go_wp2
    go_ret
    rw[HV.out]
    exact ⟨rfl,F.out.alloc _⟩
  ·have HV:Hid (lblV L n=[]):=by
    show _=_
    unfold lblV
    rw[← HF.out,List.drop_eq_nil_of_le (by omega)]
    rfl
   clear HF
   go_wp2
   go_ret
   rw[HV.out]
   exact ⟨rfl,F.out⟩
theorem isNamed_any(v:Value)(L:List LBL)(n:List UInt8)(w:World)(h:LR w v L) :
 Calls Tryz.prog 32 #[v, .string (bs n)] w fun e w'=>e=.returned (.bool (L.any fun x=>x.1==n))∧Frm [] w w':=by
 obtain ⟨a,cap,rfl,h0,h1⟩:=h
 have H1:=hide h1
 have hl:=bs_toList
 clear h1
 go_enter Tryz.func32,Tryz.ntmps32
 go_wp2_with fail
 go_loopg [9] L.length (fun k vi wr=>∃ j:Nat,j+k=L.length∧vi=.int .i64 j∧Frm [] w wr∧Hid (((L.drop j).any fun x=>x.1==n)=L.any fun x=>x.1==n))
 case atStart=>exact ⟨0,by omega,rfl,Frm.refl _ _,by show _=_;simp⟩
 case round =>
  obtain ⟨j,hj,rfl,hfr,HF⟩:=hrel
  have F:=hide hfr
  clear hfr
  by_cases hlt:j<L.length
  ·obtain ⟨g,off,rfl,hg,hc1,hc2⟩:=H1.out j hlt
   have hf:=HF.out
   rw[List.drop_eq_getElem_cons hlt,List.any_cons]at hf
   have q1:=(F.out.cell (p:=⟨g,off+j*2,none⟩) hg (by simp)).trans hc1
   have q2:=(F.out.cell (p:=⟨g,off+j*2+1,none⟩) hg (by simp)).trans hc2
   clear hc1 hc2
   generalize L[j]=x at *
   obtain ⟨nm,vl⟩:=x
   simp only at q1 q2 hf
   cases he:(nm==n)
   ·rw[he,Bool.false_or]at hf
    have HF2:=hide hf
    clear hf HF
    go_wp2
    go_roundg (gk-1)
    case measure=>omega
    case rel=>exact ⟨j+1,by omega,by go_num,F.out.alloc _,HF2⟩
   ·rw[he,Bool.true_or]at hf
    have HV:=hide hf
    clear hf HF
    go_wp2
    go_ret
    rw[← HV.out]
    exact ⟨rfl,F.out.alloc _⟩
  ·have HV:Hid ((L.any fun x=>x.1==n)=false):=by
    show _=_
    rw[← HF.out,List.drop_eq_nil_of_le (by omega)]
    rfl
   clear HF
   go_wp2
   go_ret
   rw[HV.out]
   exact ⟨rfl,F.out⟩
open Go.RowKit
theorem autT_next{x:AutM}(ok:AutOK x){s:Nat}(hs:s<x.acc.length)(c:UInt8):s*x.k+x.cl.getD c.toNat 0<x.nx.length∧x.nx.getD (s*x.k+x.cl.getD c.toNat 0) 0<x.acc.length:=by
 have hc:c.toNat<x.cl.length:=by rw[ok.cl];exact c.toNat_lt
 have h1:x.cl.getD c.toNat 0<x.k:=ok.cls _ (by simp[List.getD,hc])
 have h2:s*x.k+x.k≤x.acc.length*x.k:=by
  have:=Nat.mul_le_mul_right x.k (Nat.succ_le_of_lt hs)
  rwa [Nat.succ_mul]at this
 have h3:s*x.k+x.cl.getD c.toNat 0<x.nx.length:=by rw[ok.nx];omega
 refine ⟨h3,ok.nxs _ ?_⟩
 have e:x.nx.getD (s*x.k+x.cl.getD c.toNat 0) 0=x.nx[s*x.k+x.cl.getD c.toNat 0]:=by rw[List.getD_eq_getElem?_getD,List.getElem?_eq_getElem h3];rfl
 rw[e];exact List.getElem_mem _
theorem takesM_any(A:List Nat)(w:World)(g o:Nat)(x:AutM)(va vn:Value)(v:List UInt8)(h:AUm w g o x va vn)(ra:RW A 1 w va (bc x.acc))(rn:RW A 1 w vn (ic x.nx))(ok:AutOK x)(hv:v.length≤1048576) :
 Calls Tryz.prog 60 #[.pointer (some ⟨g,o,none⟩), .string (bs v)] w fun e w'=>e=.returned (.bool (x.acc.getD (autT x 0 v) 0==1))∧∃ q,w'=w.drewN q:=by
 obtain ⟨aa,ca,rfl,hra⟩:=ra.bool
 obtain ⟨an,cn,rfl,hrn⟩:=rn.num
 have HU:=hide h
 have HRA:=hide hra
 have HRN:=hide hrn
 have OK:=hide ok
 have hsz:=bs_size v
 have hk:=ok.k2
 have hac:=ok.s2
 have hnx:x.nx.length≤10240:=by rw[ok.nx];exact Nat.le_trans (Nat.mul_le_mul ok.s2 ok.k2) (by decide)
 have hs1:=ok.s1
 clear h hra hrn ra rn ok
 go_enter Tryz.func60,Tryz.ntmps60
 go_wp2_with fail
 go_loopg [5,6] v.length (fun k v5 v6 wr=>∃ (i s q:Nat),i+k=v.length∧v6=.int .i64 i∧v5=.int .i64 s∧s<x.acc.length∧Hid (autT x s (v.drop i)=autT x 0 v)∧wr=w.drewN q)
 case atStart=>exact ⟨0,0,0,by omega,rfl,rfl,by omega,rfl,rfl⟩
 case round =>
  obtain ⟨i,s,q,hik,rfl,rfl,hs,HT,hw⟩:=hrel
  subst hw
  by_cases hlt:i<v.length
  ·have c0:=HU.out.c0
   have cN:=HU.out.cn
   have hbg:(bs v)[i]'(by rw[hsz];omega)=v[i]:=rfl
   obtain ⟨hr,hnext⟩:=autT_next OK.out hs v[i]
   have HT2:Hid (autT x (x.nx.getD (s*x.k+x.cl.getD v[i].toNat 0) 0) (v.drop (i+1))=autT x 0 v):=by
    have h2:=HT.out
    rw[List.drop_eq_getElem_cons hlt,autT]at h2;exact h2
   have hb:v[i].toNat<256:=v[i].toNat_lt
   have cc:=HU.out.cc _ hb
   have hcs:x.cl.getD v[i].toNat 0<256:=by
    have hc:v[i].toNat<x.cl.length:=by rw[OK.out.cl];exact hb
    have:=OK.out.cls (x.cl.getD v[i].toNat 0) (by simp[List.getD,hc]);omega
   clear HT
   generalize v[i]=y at *
   generalize x.cl.getD y.toNat 0=m at *
   have hsm:s*x.k≤40*256:=Nat.mul_le_mul (by omega) hk
   obtain ⟨p,hp⟩:∃ p,p=s*x.k:=⟨_,rfl⟩
   have hpz:(s:Int)*(x.k:Int)=(p:Int):=by rw[hp];simp
   rw[← hp]at HT2 hsm hr hnext
   clear hp
   obtain ⟨gn,off,rfl,hgn,hcn⟩:=HRN.out (p+m) hr
   have hgd:x.nx.getD (p+m) 0=x.nx[p+m]:=by simp[List.getD,hr]
   rw[hgd]at HT2 hnext
   generalize x.nx[p+m]=z at *
   have hcn2:∀ k,(w.drewN k).cell? ⟨gn,off+(p+m),none⟩=some (.int .i64 (z:Nat)):=fun k=>hcn
   have cN2:∀ k,(w.drewN k).cell? ⟨g,o+258,none⟩=some (.slice (some ⟨gn,off,none⟩) x.nx.length cn):=fun k=>cN
   clear hgd
   go_wp2_with fail
   go_quiet (fail)
   go_wp2_with fail
   go_roundg (gk-1)
   case measure=>omega
   case rel=>exact ⟨i+1,z,_,by omega,by go_num,rfl,hnext,HT2,rfl⟩
  ·have HT2:Hid (s=autT x 0 v):=by
    have h2:=HT.out
    rw[List.drop_eq_nil_of_le (by omega),autT]at h2;exact h2
   clear HT
   have cA:=HU.out.ca
   obtain ⟨ga,off,rfl,hga,hca⟩:=HRA.out s hs
   have HV:Hid (x.acc.getD (autT x 0 v) 0=x.acc[s]):=by show _=_;rw[← HT2.out];simp[List.getD,hs]
   generalize x.acc[s]=z at *
   go_wp2
   go_ret
   rw[HV.out]
   exact ⟨rfl,q,rfl⟩
open Go.RowKit
theorem PR.c0{w:World}{pb:Nat}{V:V6}{m:Mach}{A:List Nat}(h:PR A w pb V m):w.cell? ⟨pb,0,none⟩=some V.n:=by simp[World.cell?,h.row,V6.cells]
theorem PR.c1{w:World}{pb:Nat}{V:V6}{m:Mach}{A:List Nat}(h:PR A w pb V m):w.cell? ⟨pb,1,none⟩=some V.c:=by simp[World.cell?,h.row,V6.cells]
theorem PR.c2{w:World}{pb:Nat}{V:V6}{m:Mach}{A:List Nat}(h:PR A w pb V m):w.cell? ⟨pb,2,none⟩=some V.a:=by simp[World.cell?,h.row,V6.cells]
theorem PR.c3{w:World}{pb:Nat}{V:V6}{m:Mach}{A:List Nat}(h:PR A w pb V m):w.cell? ⟨pb,3,none⟩=some V.t:=by simp[World.cell?,h.row,V6.cells]
theorem PR.c4{w:World}{pb:Nat}{V:V6}{m:Mach}{A:List Nat}(h:PR A w pb V m):w.cell? ⟨pb,4,none⟩=some V.r:=by simp[World.cell?,h.row,V6.cells]
theorem PR.c5{w:World}{pb:Nat}{V:V6}{m:Mach}{A:List Nat}(h:PR A w pb V m):w.cell? ⟨pb,5,none⟩=some V.i:=by simp[World.cell?,h.row,V6.cells]
theorem PR.lt{w:World}{pb:Nat}{V:V6}{m:Mach}{A:List Nat}(h:PR A w pb V m):pb<w.heap.size:=(Array.getElem?_eq_some_iff.1 h.row).1
theorem aum_of{A:List Nat}{w:World}{cs:Array Value}{x:AutM}{g q:Nat}(h:autI.rel A w cs x)(ok:AutOK x)(hg:g<w.heap.size)(hh:∀ c u,cs[c]?=some u→w.cell? ⟨g,q+c,none⟩=some u) :
 ∃ va vn,AUm w g q x va vn∧RW A 1 w va (bc x.acc)∧RW A 1 w vn (ic x.nx):=by
 obtain ⟨va,vn,rfl,ra,rn⟩:=h
 have hlc:x.cl.length=256:=ok.cl
 have hh2:∀ c u,(acell x va vn).toList[c]?=some u→w.cell? ⟨g,q+c,none⟩=some u:=fun c u hu=>hh c u (by rw[← hu];simp)
 refine ⟨va,vn,⟨hg,hh2 0 _ (by simp[acell]),fun c hc=>?_,hh2 257 _ ?_,hh2 258 _ ?_⟩,ra,rn⟩
 ·have:=hh2 (1+c) (.int .u8 (x.cl.getD c 0:Nat)) (by
   have hl:c<x.cl.length:=by omega
   simp only[acell]
   rw[Nat.add_comm,List.getElem?_cons_succ,List.getElem?_append_left (by simp[nv];exact hl)]
   simp[nv,hl,List.getD])
  rwa [← Nat.add_assoc]at this
 ·simp only[acell]
  rw[List.getElem?_cons_succ,List.getElem?_append_right (by simp[nv,hlc])]
  simp[nv,hlc]
 ·simp only[acell]
  rw[List.getElem?_cons_succ,List.getElem?_append_right (by simp[nv,hlc])]
  simp[nv,hlc]
theorem pholds_any(w:World)(pb:Nat)(V:V6)(m:Mach)(h:PR [] w pb V m)(ok:MOK m)(x:Nat)(hx:x<m.tests.length)(vl:Value)(L:List LBL)(hL:LR w vl L)(hval:∀ n,(lblV L n).length≤1048576) :
 Calls Tryz.prog 34 #[.pointer (some ⟨pb,0,none⟩), .int .i64 x,vl] w fun e w'=>e=.returned (.bool (tstM m (lblV L (m.names.getD m.tests[x].n [])) m.tests[x]))∧Frm [] w w':=by
 have H:=hide h
 have hpb:=h.lt
 have hok:=ok.tests.2 m.tests[x] (List.getElem_mem hx)
 obtain ⟨an,cn,hVn,hn⟩:=h.pg.n.str
 obtain ⟨ac,cc,hVc,hc⟩:=h.pg.c.str
 obtain ⟨css,ha1,ha2⟩:=h.pg.a
 obtain ⟨aa,ca,hVa,ha⟩:=row_at ha1 ha2
 obtain ⟨at',ct,hVt,_,ht⟩:=h.pg.t
 have htl:(tc m.tests).length=m.tests.length:=by simp[tc]
 obtain ⟨gt,ot,rfl,_,hgt,hcell⟩:=ht x (by rw[htl];exact hx)
 have p0:=h.c0
 have p1:=h.c1
 have p2:=h.c2
 have p3:=h.c3
 rw[hVn]at p0
 rw[hVc]at p1
 rw[hVa]at p2
 rw[hVt,htl]at p3
 have t0:w.cell? ⟨gt,ot+x*3,none⟩=some (.int .i64 (m.tests[x].n:Nat)):=hcell 0 _ (by simp[tc,tcell])
 have t1:w.cell? ⟨gt,ot+x*3+1,none⟩=some (.int .i64 (m.tests[x].k:Nat)):=hcell 1 _ (by simp[tc,tcell])
 have t2:w.cell? ⟨gt,ot+x*3+2,none⟩=some (.int .i64 (m.tests[x].x:Nat)):=hcell 2 _ (by simp[tc,tcell])
 have hxb:=ok.tests.1
 have hnb:=ok.names.1
 have HAO:=hide ok.autos.2
 have hcb:=ok.consts.1
 have hab:=ok.autos.1
 clear hcell ht htl ha1 ha2 h ok hVn hVc hVa hVt
 generalize m.tests[x]=t at *
 obtain ⟨gn,on,rfl,hgn,n0⟩:=hn t.n hok.n
 have hgd:m.names.getD t.n []=m.names[t.n]'hok.n:=by simp[List.getD,hok.n]
 rw[hgd]
 have VO:Hid (∀ W,Frm [] w W→Calls Tryz.prog 59 #[vl, .string (bs (m.names[t.n]'hok.n))] W fun e w'=>e=.returned (.string (bs (lblV L (m.names[t.n]'hok.n))))∧Frm [] W w'):=fun W f=>valueOf_any vl L _ W (hL.frm f (by simp))
 have hvl:=hval (m.names[t.n]'hok.n)
 have hnl:=hok.n
 have hk2:=hok.k
 have hx':=hok.x
 have hl:=bs_toList
 have HC:=hide hc
 have HA:=hide ha
 generalize hnm:m.names[t.n]'hok.n=nm at *
 have hsz:=bs_size (lblV L nm)
 generalize hvv:lblV L nm=v at *
 have hd1:decide ((x:Int)<0)=false:=decide_eq_false (by omega)
 have hd2:decide ((t.n:Int)<0)=false:=decide_eq_false (by omega)
 have hd3:decide ((t.x:Int)<0)=false:=decide_eq_false (by omega)
 have hxb2:t.x<256:=by split at hx'<;>omega
 have P0:=hide p0
 have P1:=hide p1
 have P2:=hide p2
 clear hn hc ha hL hval hok hgd hnm hvv
 obtain ⟨tn,tk,tx⟩:=t
 simp only at *
 go_enter Tryz.func34,Tryz.ntmps34
 go_wp2_with fail
 go_quiet (fail)
 go_wp2_with fail
 have FN:Hid (Frm [] w ((w.alloc (Obj.cells #[.int .i64 (tn:Nat), .int .i64 (tk:Nat), .int .i64 (tx:Nat)] 103)).drewN nq).drew):=(((Frm.refl [] w).alloc _).drewN nq).drew
 go_region_with (go_at_call 59;refine (VO.out _ FN.out).mono ?_;rintro e w' ⟨rfl,hF'⟩)
 all_goals
  have F2:=hide (FN.out.trans hF')
  have B2:w'.heap[w.heap.size]?=some (Obj.cells #[.int .i64 (tn:Nat), .int .i64 (tk:Nat), .int .i64 (tx:Nat)] 103):=(hF'.block w.heap.size (by simp) (by simp)).trans (heap1 _ _)
  have d1:w'.cell? ⟨w.heap.size,1,none⟩=some (.int .i64 (tk:Nat)):=by simp[World.cell?,B2]
  have d2:w'.cell? ⟨w.heap.size,2,none⟩=some (.int .i64 (tx:Nat)):=by simp[World.cell?,B2]
  have e1:=F2.out.at (p:=⟨pb,1,none⟩) hpb P1.out
  have e2:=F2.out.at (p:=⟨pb,2,none⟩) hpb P2.out
  clear B2 hF' FN p0 p1 p2 p3 t0 t1 t2 n0
  by_cases hk:tk=0
  ·have hxl:tx<m.consts.length:=by rw[if_neg (by omega)]at hx';exact hx'
   obtain ⟨gc,oc,rfl,hgc,k0⟩:=HC.out tx hxl
   have HV:Hid (tstM m v ⟨tn,tk,tx⟩=(m.consts[tx]==v)):=by
    show _=_;unfold tstM;rw[if_pos hk];simp only[List.getD,List.getElem?_eq_getElem hxl,Option.getD_some];exact BEq.comm
   have k1:=F2.out.at (p:=⟨gc,oc+tx,none⟩) hgc k0
   have hd4:decide ((tx:Int)<(m.consts.length:Int))=true:=decide_eq_true (by omega)
   have hd5:decide (tx<m.consts.length)=true:=decide_eq_true hxl
   generalize m.consts[tx]=cst at *
   subst hk
   clear hx' HC HA k0
   go_wp2_with fail
   go_quiet (fail)
   go_wp2
   go_ret
   rw[HV.out]
   exact ⟨rfl,F2.out.drewN _⟩
  ·have hk1:tk=1:=by omega
   have hxl:tx<m.autos.length:=by rw[if_pos hk1]at hx';exact hx'
   obtain ⟨ga,oa,cs,rfl,hga,_,hrel,hcs⟩:=HA.out tx hxl
   have OK:Hid (AutOK m.autos[tx]):=HAO.out _ (List.getElem_mem hxl)
   have HV:Hid (tstM m v ⟨tn,tk,tx⟩=(m.autos[tx].acc.getD (autT m.autos[tx] 0 v) 0==1)):=by
    show _=_;unfold tstM;rw[if_neg hk];simp[List.getD,hxl]
   obtain ⟨va,vn,hU,ra,rn⟩:=aum_of hrel OK.out hga hcs
   have TKS:Hid (∀ n,Calls Tryz.prog 60 #[.pointer (some ⟨ga,oa+tx*259,none⟩), .string (bs v)] (w'.drewN n) fun e u=>e=.returned (.bool (m.autos[tx].acc.getD (autT m.autos[tx] 0 v) 0==1))∧∃ q,u=(w'.drewN n).drewN q):=fun n =>
    takesM_any [pb] (w'.drewN n) ga (oa+tx*259) m.autos[tx] va vn v (hU.frm (F2.out.drewN n)) (ra.frm (F2.out.drewN n) (by simp)) (rn.frm (F2.out.drewN n) (by simp)) OK.out hvl
   have hd4:decide ((tx:Int)<(m.autos.length:Int))=true:=decide_eq_true (by omega)
   have hd5:decide (tx<m.autos.length)=true:=decide_eq_true hxl
   generalize (m.autos[tx].acc.getD (autT m.autos[tx] 0 v) 0==1)=bb at *
   subst hk1
   clear hx' HC HA hU ra rn hrel hcs hk
   go_wp2_with fail
   go_quiet ((go_at_call 60;exact Calls.quiet_of (TKS.out _)))
   go_wp2
   go_ret
   rw[HV.out]
   exact ⟨rfl,F2.out.drewN _⟩
open Go.RowKit
theorem addQ5(g q j:Nat):(⟨g,q,none⟩:Addr).add j=⟨g,q+j,none⟩:=by unfold Addr.add;split<;>simp_all
def FreshQ(x:HitM)(w:World)(e:Ending)(w':World):Prop :=
 ∃ g,e=.returned (.agg (hcell x (.slice (some ⟨g,0,none⟩) x.bl.length x.bl.length)))∧Frm [] w w'∧w.heap.size≤g∧g<w'.heap.size∧RW [] 1 w' (.slice (some ⟨g,0,none⟩) x.bl.length x.bl.length) (sc x.bl)
theorem pfresh_any(x:HitM)(ab:Option Addr)(cb:Nat)(w:World)(hb:RW [] 1 w (.slice ab x.bl.length cb) (sc x.bl))(hlen:x.bl.length<5) :
 Calls Tryz.prog 33 #[.agg (hcell x (.slice ab x.bl.length cb))] w (FreshQ x w):=by
 obtain ⟨rc,bl,wt,ev,rp⟩:=x
 simp only at hb hlen
 obtain ⟨Zl,hZ⟩:∃ Zl:List Value,Zl=(madeCells #[.string ByteArray.empty] bl.length).toList:=⟨_,rfl⟩
 have HZL:Hid (Zl.length=bl.length):=by show _=_;rw[hZ,Array.length_toList];exact size_madeCells _ _
 have hmk:∀ u:World,(Instr.makeSlice 48 (.int .i64 (bl.length:Int)) (.int .i64 (bl.length:Int))).run Tryz.prog u=.ok (.slice (some ⟨u.heap.size,0,none⟩) bl.length bl.length) (u.alloc (.cells Zl.toArray 9)):=fun u=>by
  obtain ⟨i0,hi,hz0,hz1,hz2⟩:=info_parts2 infoStr
  have:=run_make (P:=Tryz.prog) u 48 9 i0 (.string ByteArray.empty) Tryz.underlying48 hi hz0 .i64 .i64 (bl.length:Int) (bl.length:Int) (by omega) (Int.le_refl _) (by rw[hz2];omega) (by omega)
  rw[hz1,Int.toNat_natCast,Nat.mul_one]at this
  rw[this,hZ];rfl
 obtain ⟨cs,hcs⟩:∃ cs:List Value,cs=bl.map fun s=>.string (bs s):=⟨_,rfl⟩
 have HCL:Hid (cs.length=bl.length):=by show _=_;rw[hcs];simp
 obtain ⟨ab',cb',e,hrow⟩:=hb.str
 simp only[Value.slice.injEq,true_and]at e
 obtain ⟨rfl,rfl⟩:=e
 have HROW:=hide hrow
 have HCS:=hide hcs
 clear hcs hZ hrow hb
 obtain ⟨W,hW⟩:∃ W,W=((w.alloc (Obj.cells #[.string (bs rc), .slice ab bl.length cb, .int .i64 (wt:Nat), .int .i64 (ev:Nat), .int .i64 (rp:Nat)] 70)).alloc (Obj.cells hz 70)).alloc (Obj.cells Zl.toArray 9):=⟨_,rfl⟩
 have FW:Frm [] w W:=by rw[hW];exact (((Frm.refl [] w).alloc _).alloc _).alloc _
 have hzW:W.heap.size=w.heap.size+3:=by rw[hW];simp
 have B0:Hid (W.heap[w.heap.size]?=some (Obj.cells #[.string (bs rc), .slice ab bl.length cb, .int .i64 (wt:Nat), .int .i64 (ev:Nat), .int .i64 (rp:Nat)] 70)):=by
  show _=_;rw[hW];exact ((((Frm.refl [] _).alloc _).alloc _).block w.heap.size (by simp) (by simp)).trans (heap1 _ _)
 have B1:Hid (W.heap[w.heap.size+1]?=some (Obj.cells hz 70)):=by
  show _=_;rw[hW]
  have:=heap1 (w.alloc (Obj.cells #[.string (bs rc), .slice ab bl.length cb, .int .i64 (wt:Nat), .int .i64 (ev:Nat), .int .i64 (rp:Nat)] 70)) (Obj.cells hz 70)
  rw[show (w.alloc (Obj.cells #[.string (bs rc), .slice ab bl.length cb, .int .i64 (wt:Nat), .int .i64 (ev:Nat), .int .i64 (rp:Nat)] 70)).heap.size=w.heap.size+1 by simp]at this
  exact (((Frm.refl [] _).alloc _).block (w.heap.size+1) (by simp) (by simp)).trans this
 have B2:Hid (W.heap[w.heap.size+2]?=some (Obj.cells Zl.toArray 9 (0,0))):=by
  show _=_;rw[hW]
  have:=heap1 ((w.alloc (Obj.cells #[.string (bs rc), .slice ab bl.length cb, .int .i64 (wt:Nat), .int .i64 (ev:Nat), .int .i64 (rp:Nat)] 70)).alloc (Obj.cells hz 70)) (Obj.cells Zl.toArray 9)
  rw[show ((w.alloc (Obj.cells #[.string (bs rc), .slice ab bl.length cb, .int .i64 (wt:Nat), .int .i64 (ev:Nat), .int .i64 (rp:Nat)] 70)).alloc (Obj.cells hz 70)).heap.size=w.heap.size+2 by simp]at this
  exact this
 have HN:Hid (cs.length=Nat.min bl.length bl.length):=by show _=_;rw[HCL.out];exact (Nat.min_self _).symm
 have HPOS:Hid (∀ dp:Option Addr,dp=some ⟨w.heap.size+2,0,none⟩→0<cs.length→dp=some ⟨w.heap.size+2,0,none⟩∧∃ ad,ab=some ad∧∀ j v,cs[j]?=some v→W.cell? (ad.add j)=some v):=by
  intro dp hdp h0
  rw[HCL.out]at h0
  obtain ⟨g,off,rfl,hg,_⟩:=HROW.out 0 h0
  refine ⟨hdp,_,rfl,fun j v hv=>?_⟩
  rw[HCS.out,List.getElem?_map,Option.map_eq_some_iff]at hv
  obtain ⟨y,hy,rfl⟩:=hv
  obtain ⟨hj,rfl⟩:=List.getElem?_eq_some_iff.1 hy
  obtain ⟨g',off',e',hg',hc'⟩:=HROW.out j hj
  simp only[Option.some.injEq,Addr.mk.injEq,and_true]at e'
  obtain ⟨rfl,rfl⟩:=e'
  rw[addQ5]
  exact FW.at (p:=⟨g,off+j,none⟩) hg hc'
 have HFIT:Hid (0+cs.length≤Zl.length):=by show _≤_;rw[HCL.out,HZL.out];omega
 have H1C:Hid (∀ v∈cs,v.oneCell'=true):=by
  intro v hv
  rw[HCS.out]at hv
  obtain ⟨y,_,rfl⟩:=List.mem_map.1 hv
  rfl
 have HB:Hid (Below (w.heap.size+2) W W):=Below.refl _ _
 have HSP:Hid ((splice Zl 0 cs).toArray=cs.toArray):=by
  show _=_;unfold splice;rw[List.take_zero,List.nil_append,List.drop_eq_nil_of_le (by rw[HZL.out,HCL.out];omega),List.append_nil]
 have FWH:=hide FW
 clear FW
 simp only[hcell]
 go_enter Tryz.func33,Tryz.ntmps33
 rw[hW]at HB B2 HPOS
 go_wp2_with (refine wpList_copy_splice rfl _ _ 48 48 rfl 9 Tryz.underlying48 infoStr1 _ _ _ _ _ _ rfl rfl (w.heap.size+2) 0 Zl 9 B2.out cs HN.out (HPOS.out _ rfl) HFIT.out H1C.out (w.heap.size+2) _ HB.out (by omega) ?_;intro w4 HG4 hB4;rw[← hW]at hB4;have C0:w4.heap[w.heap.size]?=_:=(hB4.block w.heap.size (by omega)).trans B0.out;have C1:w4.heap[w.heap.size+1]?=_:=(hB4.block (w.heap.size+1) (by omega)).trans B1.out;have a0:w4.cell? ⟨w.heap.size,0,none⟩=some (.string (bs rc)):=(by simp[World.cell?,C0]);have a1:w4.cell? ⟨w.heap.size,1,none⟩=some (.slice ab bl.length cb):=(by simp[World.cell?,C0]);have a2:w4.cell? ⟨w.heap.size,2,none⟩=some (.int .i64 (wt:Nat)):=(by simp[World.cell?,C0]);have a3:w4.cell? ⟨w.heap.size,3,none⟩=some (.int .i64 (ev:Nat)):=(by simp[World.cell?,C0]);have a4:w4.cell? ⟨w.heap.size,4,none⟩=some (.int .i64 (rp:Nat)):=(by simp[World.cell?,C0]);have az:∀ o,w4.frozen? ⟨w.heap.size,o,none⟩=false:=(fun o=>by simp[World.frozen?,C0]);have b0:w4.cell? ⟨w.heap.size+1,0,none⟩=some (.string ByteArray.empty):=(by simp[World.cell?,C1]);have b1:w4.cell? ⟨w.heap.size+1,1,none⟩=some (.slice none 0 0):=(by simp[World.cell?,C1]);have b2:w4.cell? ⟨w.heap.size+1,2,none⟩=some (.int .i64 0):=(by simp[World.cell?,C1]);have b3:w4.cell? ⟨w.heap.size+1,3,none⟩=some (.int .i64 0):=(by simp[World.cell?,C1]);have b4:w4.cell? ⟨w.heap.size+1,4,none⟩=some (.int .i64 0):=(by simp[World.cell?,C1]);have bz:∀ o,w4.frozen? ⟨w.heap.size+1,o,none⟩=false:=(fun o=>by simp[World.frozen?,C1]);have C1H:=hide C1;have HB4:=hide hB4;clear C0 C1 hB4)
 refine bodyPost_ret (results_cell1 rfl _ _ (w.heap.size+1) (hcell ⟨rc,bl,wt,ev,rp⟩ (.slice (some ⟨w.heap.size+2,0,none⟩) bl.length bl.length)) rfl (loadHit (set5_row _ _ _ _ _ ((((Frm.refl [w.heap.size] w4).setCell (p:=⟨w.heap.size,1,none⟩) (.inl (by simp)) _).block (w.heap.size+1) (by have:=HB4.out.size;omega) (by simp)).trans C1H.out)) rfl)) rfl ?_
 have F4:Frm [] w w4:=FWH.out.below_trans HB4.out (by omega)
 have hz4:=HB4.out.size
 have FS:∀ v,Frm [w.heap.size] w4 (w4.setCell ⟨w.heap.size,1,none⟩ v):=fun v=>(Frm.refl _ _).setCell (p:=⟨w.heap.size,1,none⟩) (.inl (by simp)) _
 have HG5:=HG4.out
 rw[HSP.out]at HG5
 refine ⟨w.heap.size+2,rfl,(F4.over (FS _) (by simp)).over (set5_frm _ _ _ _ _ _ _) (by simp),by omega,?_,?_⟩
 ·exact Nat.lt_of_lt_of_le (by omega:w.heap.size+2<w4.heap.size) (Nat.le_trans (FS _).size (set5_frm _ _ _ _ _ _ _).size)
 ·have R4:RW [w.heap.size,w.heap.size+1] 1 w4 (.slice (some ⟨w.heap.size+2,0,none⟩) bl.length bl.length) (sc bl):=by
   refine ⟨_,bl.length,by rw[sc_len],by rw[sc_len];omega,fun j hj=>⟨w.heap.size+2,0,rfl,by simp,by omega,fun c u hu=>?_⟩⟩
   rw[sc_len]at hj
   have hu2:c=0∧u=.string (bs bl[j]):=by
    cases c with
    | zero=>simp[sc]at hu;exact ⟨rfl,hu.symm⟩
    | succ c=>simp[sc]at hu
   obtain ⟨rfl,rfl⟩:=hu2
   have hcj:cs[j]?=some (.string (bs bl[j])):=by rw[HCS.out];simp[hj]
   simp[World.cell?,HG5,hcj]
  exact ((R4.frm (FS _) (by simp)).frm (set5_frm _ _ _ _ _ _ _) (by simp)).avoid (by simp)
end Go.Proofs.YtjkialjoamgbgaaGreat
