import Derived.Test.YtjkialjoamgbgaaGreatJ1
import Derived.Test.YtjkialjoamgbgaaGreatJ2
set_option linter.unusedVariables false
set_option linter.unusedSimpArgs false
set_option linter.unnecessarySimpa false
set_option maxRecDepth 100000
set_option maxHeartbeats 1000000
namespace Go.Proofs.YtjkialjoamgbgaaGreat
open Go.RowKit
/-! A program's bytes are that program. -/
theorem nmV_nb:∀ (n v:Nat),v<256 ^ n→nmV (nb n v)=v
 | 0,v,h=>by simp at h;subst h;rfl
 | n+1,v,h=>by
   rw[nb,nmV_snoc,nmV_nb n (v / 256) (by rw[Nat.pow_succ]at h;omega)]
   have:(UInt8.ofNat (v % 256)).toNat=v % 256:=by simp
   omega
theorem pN_of{n lo hi v:Nat}(h1:lo≤v)(h2:v<hi)(h3:v<256 ^ n)(r:List UInt8):pN n lo hi (nb n v++r)=some (v,r):=by
 have hl:=nb_len n v
 unfold pN
 rw[List.take_append_of_le_length (by omega),List.take_of_length_le (by omega),List.drop_append_of_le_length (by omega),List.drop_of_length_le (by omega),nmV_nb n v h3,if_pos ⟨by simp;omega,h1,h2⟩]
 rfl
theorem pT_of{hi:Nat}{t:List UInt8}(h:t.length<hi)(h2:t.length<256)(r:List UInt8):pT hi (eT t++r)=some (t,r):=by
 unfold pT eT
 rw[List.append_assoc,pN_of (Nat.zero_le _) h (by simpa using h2)]
 simp
theorem pNm_of{n:List UInt8}(h:okName n)(r:List UInt8):pNm (eT n++r)=some (n,r):=by
 unfold pNm
 rw[pT_of h.1 (by have:=h.1;omega)]
 simp[h.2]
theorem pR_of{α:Type}{p:Nat→PT α}{enc:α→List UInt8}:∀ (l acc:List α) (r:List UInt8),(∀ j (h:j<l.length) r',p (acc.length+j) (enc l[j]++r')=some (l[j],r'))→pR p l.length acc (l.flatMap enc++r)=some (acc++l,r)
 | [],acc,r,_=>by simp[pR]
 | x::l,acc,r,h=>by
   rw[List.length_cons,pR_succ,List.flatMap_cons,List.append_assoc]
   have h0:=h 0 (by simp) (l.flatMap enc++r)
   simp only[Nat.add_zero,List.getElem_cons_zero]at h0
   rw[h0]
   show pR p l.length (acc++[x]) (l.flatMap enc++r)=_
   rw[pR_of l (acc++[x]) r (fun j hj r'=>?_)]
   ·simp
   ·have:=h (j+1) (by simpa using hj) r'
    simp only[List.getElem_cons_succ]at this
    rw[List.length_append,List.length_singleton,show acc.length+1+j=acc.length+(j+1) by omega]
    exact this
theorem pR_each{α:Type}{p:PT α}{enc:α→List UInt8}(l:List α)(r:List UInt8)(h:∀ x∈l,∀ r',p (enc x++r')=some (x,r')):pR (fun _=>p) l.length [] (l.flatMap enc++r)=some (l,r):=by
 have:=pR_of (p:=fun _=>p) (enc:=enc) l [] r (fun j hj r'=>h _ (List.getElem_mem _) r')
 simpa using this
theorem pL_of{hi:Nat}{l:List (List UInt8)}(h:l.length<hi)(h2:l.length<256)(ho:∀ n∈l,okName n)(r:List UInt8):pL hi (eTs l++r)=some (l,r):=by
 unfold pL eTs
 rw[List.append_assoc,pN_of (Nat.zero_le _) h (by simpa using h2)]
 exact pR_each l r (fun x hx r'=>pNm_of (ho x hx) r')
theorem pCs_of{l:List (List UInt8)}(h:l.length<256)(ho:∀ n∈l,n.length<41)(r:List UInt8):pCs (eTs l++r)=some (l,r):=by
 unfold pCs eTs
 rw[List.append_assoc,pN_of (Nat.zero_le _) h (by simpa using h)]
 exact pR_each l r (fun x hx r'=>pT_of (ho x hx) (by have:=ho x hx;omega) r')
theorem pA_of{a:AutM}(ok:AutOK a)(r:List UInt8):pA (eA a++r)=some (a,r):=by
 have s2:=ok.s2
 have k2:=ok.k2
 unfold pA eA
 simp only[List.append_assoc]
 rw[pN_of ok.s1 (by omega) (by simp;omega)]
 simp only[Option.bind_some]
 rw[pN_of ok.k1 (by omega) (by simp;omega)]
 simp only[Option.bind_some]
 have e1:=pR_each (p:=pN 1 0 a.k) (enc:=nb 1) a.cl (a.acc.flatMap (nb 1)++(a.nx.flatMap (nb 1)++r)) (fun x hx r'=>pN_of (Nat.zero_le _) (ok.cls x hx) (by have:=ok.cls x hx;simp;omega) r')
 rw[ok.cl]at e1
 rw[e1]
 simp only[Option.bind_some]
 rw[pR_each (p:=pN 1 0 2) (enc:=nb 1) a.acc (a.nx.flatMap (nb 1)++r) (fun x hx r'=>pN_of (Nat.zero_le _) (ok.acc x hx) (by have:=ok.acc x hx;simp;omega) r')]
 simp only[Option.bind_some]
 have e2:=pR_each (p:=pN 1 0 a.acc.length) (enc:=nb 1) a.nx r (fun x hx r'=>pN_of (Nat.zero_le _) (ok.nxs x hx) (by have:=ok.nxs x hx;simp;omega) r')
 rw[ok.nx]at e2
 rw[e2]
 rfl
theorem pAs_of{l:List AutM}(h:l.length<256)(ho:∀ a∈l,AutOK a)(r:List UInt8):pAs ((nb 1 l.length++l.flatMap eA)++r)=some (l,r):=by
 unfold pAs
 rw[List.append_assoc,pN_of (Nat.zero_le _) h (by simpa using h)]
 exact pR_each l r (fun x hx r'=>pA_of (ho x hx) r')
theorem pTs_of{nn nc na:Nat}{t:TstM}(ok:TstOK nn nc na t)(h1:nn≤256)(h2:nc≤256)(h3:na≤256)(r:List UInt8):pTs nn nc na (eTt t++r)=some (t,r):=by
 have a:=ok.n
 have b:=ok.k
 have c:=ok.x
 have hx:t.x<256:=by split at c<;>omega
 unfold pTs eTt
 simp only[List.append_assoc]
 rw[pN_of (Nat.zero_le _) a (by simp;omega)]
 simp only[Option.bind_some]
 rw[pN_of (Nat.zero_le _) b (by simp;omega)]
 simp only[Option.bind_some]
 rw[pN_of (Nat.zero_le _) c (by simpa using hx)]
 rfl
theorem pTss_of{nn nc na:Nat}{l:List TstM}(h:l.length<256)(ho:∀ t∈l,TstOK nn nc na t)(h1:nn≤256)(h2:nc≤256)(h3:na≤256)(r:List UInt8):pTss nn nc na ((nb 1 l.length++l.flatMap eTt)++r)=some (l,r):=by
 unfold pTss
 rw[List.append_assoc,pN_of (Nat.zero_le _) h (by simpa using h)]
 exact pR_each l r (fun x hx r'=>pTs_of (ho x hx) h1 h2 h3 r')
theorem pH_of{h:HitM}(ok:HitOK h)(hr:risB h.bl=true)(r:List UInt8):pH (eH h++r)=some (h,r):=by
 have b1:=ok.b1
 unfold pH eH
 simp only[List.append_assoc]
 rw[pNm_of ok.rc]
 simp only[Option.bind_some]
 rw[pL_of b1 (by omega) ok.b2]
 simp only[Option.bind_some,hr,if_true]
 rw[pN_of (Nat.zero_le _) ok.wt (by have:=ok.wt;simp;omega)]
 simp only[Option.bind_some]
 rw[pN_of (Nat.zero_le _) ok.ev (by have:=ok.ev;simp;omega)]
 simp only[Option.bind_some]
 rw[pN_of (Nat.zero_le _) ok.rp (by have:=ok.rp;simp;omega)]
 rfl
theorem pHs_of{l:List HitM}(h:l.length<17)(ho:∀ x∈l,HitOK x)(hr:∀ x∈l,risB x.bl=true)(r:List UInt8):pHs ((nb 1 l.length++l.flatMap eH)++r)=some (l,r):=by
 unfold pHs
 rw[List.append_assoc,pN_of (Nat.zero_le _) h (by simp;omega)]
 exact pR_each l r (fun x hx r'=>pH_of (ho x hx) (hr x hx) r')
theorem pI_of{nr nt n i:Nat}{c:InM}(ok:InOK nr nt n i c)(r:List UInt8):pI nr nt n i (eI c++r)=some (c,r):=by
 unfold pI eI
 simp only[List.append_assoc]
 rw[pN_of (Nat.zero_le _) ok.op (by have:=ok.op;simp;omega)]
 simp only[Option.bind_some]
 rw[pN_of (Nat.zero_le _) ok.x (by have:=ok.x;simp;omega)]
 simp only[Option.bind_some]
 rw[pN_of (Nat.zero_le _) ok.a (by have:=ok.a;simp;omega)]
 simp only[Option.bind_some]
 rw[pN_of (Nat.zero_le _) ok.b (by have:=ok.b;simp;omega)]
 simp only[Option.bind_some]
 rw[if_pos ok.s]
theorem pIs_of{nr nt:Nat}{l:List InM}(h1:1≤l.length)(h2:l.length<65536)(ho:∀ j (h:j<l.length),InOK nr nt l.length j l[j])(r:List UInt8):pIs nr nt ((nb 2 l.length++l.flatMap eI)++r)=some (l,r):=by
 unfold pIs
 rw[List.append_assoc,pN_of h1 h2 (by simp;omega)]
 simp only[Option.bind_some]
 have:=pR_of (p:=pI nr nt l.length) (enc:=eI) l [] r (fun j hj r'=>by
  simp only[List.length_nil,Nat.zero_add]
  exact pI_of (ho j hj) r')
 simpa using this
theorem pM_of{m:Mach}(ok:MOK m)(hr:∀ x∈m.routes,risB x.bl=true)(r:List UInt8):pM ((eM m).drop 3++r)=some (m,r):=by
 have e:(eM m).drop 3=eTs m.names++(eTs m.consts++((nb 1 m.autos.length++m.autos.flatMap eA)++((nb 1 m.tests.length++m.tests.flatMap eTt)++((nb 1 m.routes.length++m.routes.flatMap eH)++(nb 2 m.code.length++m.code.flatMap eI))))):=rfl
 rw[e]
 unfold pM
 simp only[List.append_assoc]
 rw[pL_of ok.names.1 ok.names.1 ok.names.2]
 simp only[Option.bind_some]
 rw[pCs_of ok.consts.1 ok.consts.2]
 simp only[Option.bind_some]
 rw[← List.append_assoc (nb 1 m.autos.length),pAs_of ok.autos.1 ok.autos.2]
 simp only[Option.bind_some]
 rw[← List.append_assoc (nb 1 m.tests.length),pTss_of ok.tests.1 ok.tests.2 (Nat.le_of_lt ok.names.1) (Nat.le_of_lt ok.consts.1) (Nat.le_of_lt ok.autos.1)]
 simp only[Option.bind_some]
 rw[← List.append_assoc (nb 1 m.routes.length),pHs_of ok.routes.1 ok.routes.2 hr]
 simp only[Option.bind_some]
 rw[← List.append_assoc (nb 2 m.code.length),pIs_of ok.code.1 ok.code.2.1 ok.code.2.2]
 rfl
theorem ld_of{m:Mach}(ok:MOK m)(hr:∀ x∈m.routes,risB x.bl=true):ld (eM m)=some m:=by
 have h1:(eM m).take 3=markL:=rfl
 have h2:=pM_of ok hr []
 rw[List.append_nil]at h2
 unfold ld
 rw[if_pos h1,h2]
 rfl
open Go.RowKit
def lnsGo:List UInt8→List UInt8→List (List UInt8)
 | [],_=>[]
 | c::r,cur=>if c==10 then (cur++[10])::lnsGo r [] else lnsGo r (cur++[c])
def lnsK(t:List UInt8):List (List UInt8):=lnsGo t []
open Go.RowKit
def SC(w:World)(b:Nat)(t:List UInt8)(i:Nat):Prop :=
 w.heap[b]?=some (.cells #[.string (bs t), .int .i64 i] 160 (0,0))∧i≤t.length∧t.length≤1048576
theorem SC.c0{w:World}{b:Nat}{t:List UInt8}{i:Nat}(h:SC w b t i):w.cell? ⟨b,0,none⟩=some (.string (bs t)):=by
 simp[World.cell?,h.1]
theorem SC.c1{w:World}{b:Nat}{t:List UInt8}{i:Nat}(h:SC w b t i):w.cell? ⟨b,1,none⟩=some (.int .i64 i):=by
 simp[World.cell?,h.1]
theorem SC.fz{w:World}{b:Nat}{t:List UInt8}{i:Nat}(h:SC w b t i)(o:Nat):w.frozen? ⟨b,o,none⟩=false:=by
 simp[World.frozen?,h.1]
theorem SC.lt{w:World}{b:Nat}{t:List UInt8}{i:Nat}(h:SC w b t i):b<w.heap.size :=
 (Array.getElem?_eq_some_iff.1 h.1).1
theorem SC.frm{S:List Nat}{w w':World}{b:Nat}{t:List UInt8}{i:Nat}(h:SC w b t i)(f:Frm S w w')(hS:b∉S):SC w' b t i :=
 ⟨(f.block b h.lt hS).trans h.1,h.2⟩
theorem SC.drew{w:World}{b:Nat}{t:List UInt8}{i:Nat}(h:SC w b t i):SC w.drew b t i:=h
theorem SC.drewN{w:World}{b:Nat}{t:List UInt8}{i:Nat}(n:Nat)(h:SC w b t i):SC (w.drewN n) b t i:=h
theorem SC.set{w:World}{b:Nat}{t:List UInt8}{i:Nat}(h:SC w b t i)(j:Nat)(hj:j≤t.length):SC (w.setCell ⟨b,1,none⟩ (.int .i64 j)) b t j:=by
 refine ⟨?_,hj,h.2.2⟩
 simp[World.setCell,Array.getElem?_modify,h.1]
def At(w:World)(b:Nat)(t l:List UInt8):Prop:=∃ i,SC w b t i∧t.drop i=l
theorem At.frm{S:List Nat}{w w':World}{b:Nat}{t l:List UInt8}(h:At w b t l)(f:Frm S w w')(hS:b∉S):At w' b t l:=by
 obtain ⟨i,h1,h2⟩:=h;exact ⟨i,h1.frm f hS,h2⟩
theorem At.lt{w:World}{b:Nat}{t l:List UInt8}(h:At w b t l):b<w.heap.size:=by
 obtain ⟨i,h1,_⟩:=h;exact h1.lt
open Go.RowKit
def plainB(c:Int):Bool:=decide (32≤c)&&decide (c≤126)
theorem isPlain_any(c:Int)(w:World) :
 Calls Tryz.prog 118 #[.int .u8 c] w fun e w'=>e=.returned (.bool (plainB c))∧w=w':=by
 go_enter Tryz.func118,Tryz.ntmps118
 go_wp2
 all_goals go_ret
 all_goals exact ⟨ret_bool (by simp[plainB, *]<;>omega),rfl⟩
theorem peek_any(b:Nat)(t l:List UInt8)(w:World)(h:At w b t l) :
 Calls Tryz.prog 89 #[.pointer (some ⟨b,0,none⟩)] w fun e w'=>e=.returned (.int .u8 (hd l))∧∃ n,w'=w.drewN n:=by
 obtain ⟨i,h1,h2⟩:=h
 have c0:=h1.c0
 have c1:=h1.c1
 have hi:=h1.2.1
 have ht:=h1.2.2
 have hsz:=bs_size t
 by_cases hlt:i<t.length
 ·have hg:Hid (hd l=(t[i].toNat:Int)):=by rw[← h2];exact hd_drop t i hlt
  have hbg:=bs_get t i (by rw[hsz];exact hlt)
  clear h2 h1
  go_enter Tryz.func89,Tryz.ntmps89
  go_wp2
  go_quiet (fail)
  go_wp2
  go_quiet (fail)
  go_wp2
  go_ret
  exact ⟨ret_int hg.out.symm,_,drewN_two _ _ _⟩
 ·have hg:Hid (hd l=0):=by rw[← h2,List.drop_eq_nil_of_le (by omega)];rfl
  clear h2 h1
  go_enter Tryz.func89,Tryz.ntmps89
  go_wp2
  go_quiet (fail)
  go_wp2
  go_ret
  exact ⟨ret_int hg.out.symm,_,rfl⟩
theorem atEnd_any(b:Nat)(t l:List UInt8)(w:World)(h:At w b t l) :
 Calls Tryz.prog 81 #[.pointer (some ⟨b,0,none⟩)] w fun e w'=>e=.returned (.bool l.isEmpty)∧∃ n,w'=w.drewN n:=by
 obtain ⟨i,h1,h2⟩:=h
 have c0:=h1.c0
 have c1:=h1.c1
 have hi:=h1.2.1
 have ht:=h1.2.2
 have hsz:=bs_size t
 have hg:Hid (l.isEmpty=decide (t.length≤i)):=by
  show l.isEmpty=decide (t.length≤i)
  rw[← h2,Bool.eq_iff_iff];simp
 clear h2 h1
 go_enter Tryz.func81,Tryz.ntmps81
 go_wp2
 go_quiet (fail)
 go_wp2
 go_ret
 exact ⟨ret_bool hg.out.symm,_,rfl⟩
def sTake(wd l:List UInt8):Bool:=wd.isPrefixOf l
def sRest(wd l:List UInt8):List UInt8:=if wd.isPrefixOf l then l.drop wd.length else l
theorem cut_prefix(t wd:List UInt8)(i:Nat)(h:i+wd.length≤t.length):(List.drop i (List.take (i+wd.length) t)==wd)=wd.isPrefixOf (t.drop i):=by
 rw[Bool.eq_iff_iff,List.isPrefixOf_iff_prefix,beq_iff_eq,List.prefix_iff_eq_take,List.drop_take,Nat.add_sub_cancel_left]
 exact eq_comm
theorem take_any(b:Nat)(t l wd:List UInt8)(w:World)(h:At w b t l)(hw:wd.length≤1048576) :
 Calls Tryz.prog 79 #[.pointer (some ⟨b,0,none⟩), .string (bs wd)] w fun e w'=>e=.returned (.bool (sTake wd l))∧At w' b t (sRest wd l)∧Frm [b] w w':=by
 obtain ⟨i,h1,h2⟩:=h
 have c0:=h1.c0
 have c1:=h1.c1
 have hf:=h1.fz 1
 have hi:=h1.2.1
 have ht:=h1.2.2
 have hsz:=bs_size t
 have hsw:=bs_size wd
 have hx:=bs_extract t
 have hl:=bs_toList
 have H1:Hid (SC w b t i):=h1
 have H2:Hid (List.drop i t=l):=h2
 clear h1 h2
 by_cases hlt:i+wd.length≤t.length
 ·have hd1:decide ((t.length:Int)<(i:Int)+(wd.length:Int))=false:=by simp;omega
  have hd2:decide (t.length<i+wd.length)=false:=by simp;omega
  cases hp:wd.isPrefixOf l
  ·have he:(List.drop i (List.take (i+wd.length) t)==wd)=false:=by rw[cut_prefix t wd i hlt,H2.out,hp]
   have Hp:Hid (wd.isPrefixOf l=false):=hp
   clear hp
   go_enter Tryz.func79,Tryz.ntmps79
   go_wp2
   go_quiet (fail)
   go_wp2
   go_ret
   exact ⟨ret_bool (by simp[sTake,Hp.out]),⟨i,H1.out.drewN _,by simp[sRest,Hp.out,H2.out]⟩,(Frm.refl _ _).drewN _⟩
  ·have he:(List.drop i (List.take (i+wd.length) t)==wd)=true:=by rw[cut_prefix t wd i hlt,H2.out,hp]
   have Hp:Hid (wd.isPrefixOf l=true):=hp
   clear hp
   go_enter Tryz.func79,Tryz.ntmps79
   go_wp2
   go_quiet (fail)
   go_wp2
   go_ret
   refine ⟨ret_bool (by simp[sTake,Hp.out]),⟨i+wd.length,?_,by unfold sRest;rw[if_pos Hp.out,← H2.out,List.drop_drop]⟩,?_⟩
   ·exact (H1.out.drewN _).set _ hlt
   ·exact ((Frm.refl _ _).drewN _).setCell (by simp) _
 ·have hd1:decide ((t.length:Int)<(i:Int)+(wd.length:Int))=true:=by simp;omega
  have hd2:decide (t.length<i+wd.length)=true:=by simp;omega
  have Hp:Hid (wd.isPrefixOf l=false):=by
   show wd.isPrefixOf l=false
   rw[Bool.eq_false_iff]
   intro h
   have:=(List.isPrefixOf_iff_prefix.1 h).length_le
   rw[← H2.out,List.length_drop]at this
   omega
  go_enter Tryz.func79,Tryz.ntmps79
  go_wp2
  go_quiet (fail)
  go_wp2
  go_ret
  exact ⟨ret_bool (by simp[sTake,Hp.out]),⟨i,H1.out.drewN _,by simp[sRest,Hp.out,H2.out]⟩,(Frm.refl _ _).drewN _⟩
open Go.RowKit
open Go.RowKit
theorem tw_split{p:UInt8→Bool}:∀ (a r:List UInt8),a.all p=true→(∀ c r',r=c::r'→p c=false)→(a++r).takeWhile p=a∧(a++r).dropWhile p=r
 | [],r,_,h=>by
   cases r with
   | nil=>simp
   | cons c r'=>simp[h c r' rfl]
 | x::a,r,ha,h=>by
   simp only[List.all_cons,Bool.and_eq_true]at ha
   have:=tw_split a r ha.2 h
   simp[ha.1,this.1,this.2]
theorem mid_split(t:List UInt8)(i j:Nat)(h:i≤j)(hj:j≤t.length):t.drop i=(t.take j).drop i++t.drop j:=by
 conv=>lhs;rw[← List.take_append_drop j t]
 rw[List.drop_append_of_le_length (by simp;omega)]
theorem SC.at{w:World}{b:Nat}{t:List UInt8}{i:Nat}(h:SC w b t i):At w b t (t.drop i):=⟨i,h,rfl⟩
theorem takeName_any(b:Nat)(t l:List UInt8)(w:World)(h:At w b t l) :
 Calls Tryz.prog 80 #[.pointer (some ⟨b,0,none⟩)] w fun e w'=>e=.returned (.tuple #[.string (bs (l.takeWhile nmB)), .bool (isNameL (l.takeWhile nmB))])∧At w' b t (l.dropWhile nmB)∧Frm [b] w w':=by
 obtain ⟨i,h1,h2⟩:=h
 have c1:=h1.c1
 have hi:=h1.2.1
 have ht:=h1.2.2
 have H1:Hid (SC w b t i):=h1
 have H2:Hid (List.drop i t=l):=h2
 clear h1 h2
 go_enter Tryz.func80,Tryz.ntmps80
 go_wp2
 go_loopg [] (t.length-i) (fun k wr=>∃ j,j+k=t.length∧i≤j∧SC wr b t j∧((t.take j).drop i).all nmB=true∧Frm [b] w wr)
 case atStart=>exact ⟨i,by omega,by omega,H1.out,by rw[List.drop_eq_nil_of_le (by simp;omega)];rfl,Frm.refl _ _⟩
 case round =>
  obtain ⟨j,hj,hij,hs,hal,hfr⟩:=hrel
  clear c1
  have c0:=hs.c0
  have c1:=hs.c1
  have hf:=hs.fz 1
  have Hs:Hid (SC wr b t j):=hs
  have Hfr:Hid (Frm [b] w wr):=hfr
  have Hal:Hid (((t.take j).drop i).all nmB=true):=hal
  clear hs hal hfr
  cases hn:nameB (hd (t.drop j))
  ·have hsp:l.takeWhile nmB=(t.take j).drop i∧l.dropWhile nmB=t.drop j:=by
    rw[← H2.out,mid_split t i j hij (by omega)]
    refine tw_split _ _ Hal.out ?_
    intro c r' e
    rw[e]at hn;exact hn
   have Hsp:Hid (l.takeWhile nmB=(t.take j).drop i∧l.dropWhile nmB=t.drop j):=hsp
   clear hsp
   have hx:=bs_extract t
   have hsz:=bs_size t
   go_wp2_with (first | (go_at_call 89;refine (peek_any _ _ _ _ Hs.out.at).mono ?_;rintro e w' ⟨rfl,n,rfl⟩)|(go_at_call 58;refine (isNameByte_any _ _).mono ?_;rintro e w' ⟨rfl,rfl⟩))
   go_quiet (fail)
   go_wp2_with (go_at_call 31;refine (IsName_any _ _ (by simp;omega)).mono ?_;rintro e w' ⟨rfl,rfl⟩)
   go_ret2
   rw[Hsp.out.1,Hsp.out.2]
   exact ⟨rfl,(Hs.out.drewN _).at,Hfr.out.drewN _⟩
  ·have hjl:j<t.length:=by
    by_cases hx:j<t.length
    ·exact hx
    ·rw[List.drop_eq_nil_of_le (by omega)]at hn;cases hn
   go_wp2_with (first | (go_at_call 89;refine (peek_any _ _ _ _ Hs.out.at).mono ?_;rintro e w' ⟨rfl,n,rfl⟩)|(go_at_call 58;refine (isNameByte_any _ _).mono ?_;rintro e w' ⟨rfl,rfl⟩))
   go_roundg (gk-1)
   case measure=>omega
   case rel =>
    refine ⟨j+1,by omega,by omega,?_,?_,?_⟩
    ·exact (Hs.out.drewN _).set (j+1) (by omega)
    ·rw[List.take_succ_eq_append_getElem hjl,List.drop_append_of_le_length (by simp;omega),List.all_append,Hal.out]
     rw[hd_drop t j hjl]at hn;simp[nmB,hn]
    ·exact (Hfr.out.drewN _).setCell (by simp) _
def sHexD(l:List UInt8):UInt8 × Bool × List UInt8 :=
 match l with
 | []=>(0,false,[])
 | c::r=>if dgB c then (c-48,true,r) else if 97≤c∧c≤102 then (c-97+10,true,r) else (0,false,c::r)
theorem u8i(c:UInt8):(0:Int)≤c.toNat∧(c.toNat:Int)≤255:=by have:=c.toNat_lt;omega
theorem ret2i{k:IntKind}{x y:Int}{p q:Bool}(h:x=y)(h':p=q):Ending.returned (.tuple #[.int k x, .bool p])=.returned (.tuple #[.int k y, .bool q]):=by rw[h,h']
theorem at_set{w:World}{b i:Nat}{t l:List UInt8}{c:UInt8}{r:List UInt8}(h1:SC w b t i)(h2:t.drop i=c::r):At (w.setCell ⟨b,1,none⟩ (.int .i64 (i+1))) b t r:=by
 have hil:i<t.length:=by
  by_cases hx:i<t.length
  ·exact hx
  ·rw[List.drop_eq_nil_of_le (by omega)]at h2;cases h2
 refine ⟨i+1,h1.set (i+1) hil,?_⟩
 have:=congrArg List.tail h2
 rw[List.tail_drop]at this;exact this
theorem at_len{t:List UInt8}{i:Nat}{c:UInt8}{r:List UInt8}(h2:t.drop i=c::r):i<t.length:=by
 by_cases hx:i<t.length
 ·exact hx
 ·rw[List.drop_eq_nil_of_le (by omega)]at h2;cases h2
theorem takeHexDigit_any(b:Nat)(t l:List UInt8)(w:World)(h:At w b t l) :
 Calls Tryz.prog 127 #[.pointer (some ⟨b,0,none⟩)] w fun e w'=>e=.returned (.tuple #[.int .u8 ((sHexD l).1.toNat), .bool (sHexD l).2.1])∧At w' b t (sHexD l).2.2∧Frm [b] w w':=by
 obtain ⟨i,h1,h2⟩:=h
 have c1:=h1.c1
 have hf:=h1.fz 1
 have hi:=h1.2.1
 have ht:=h1.2.2
 have H1:Hid (SC w b t i):=h1
 have H2:Hid (List.drop i t=l):=h2
 clear h1 h2
 cases l with
 | nil =>
   have hn:digB (hd [])=false:=rfl
   have h0:hd []=0:=rfl
   go_enter Tryz.func127,Tryz.ntmps127
   go_wp2_with (first | (go_at_call 89;refine (peek_any _ _ _ _ ⟨i,H1.out,H2.out⟩).mono ?_;rintro e w' ⟨rfl,n,rfl⟩)|(go_at_call 57;refine (isDigit_any _ _).mono ?_;rintro e w' ⟨rfl,rfl⟩))
   go_ret2
   exact ⟨rfl,⟨i,H1.out.drewN _,H2.out⟩,(Frm.refl _ _).drewN _⟩
 | cons c r =>
   have hc:=hd_cons c r
   have hu:=u8i c
   have hil:i<t.length:=at_len H2.out
   cases hd:digB (c.toNat:Int)
   ·by_cases hx:97≤(c.toNat:Int)∧(c.toNat:Int)≤102
    ·obtain ⟨hx1,hx2⟩:=hx
     have hs:Hid (sHexD (c::r)=(c-97+10,true,r)):=by
      show sHexD (c::r)=(c-97+10,true,r)
      unfold sHexD;simp only[dgB,hd];rw[if_neg (by simp),if_pos (by constructor<;>(rw[UInt8.le_iff_toNat_le];simp;omega))]
     go_enter Tryz.func127,Tryz.ntmps127
     go_wp2_with (first | (go_at_call 89;refine (peek_any _ _ _ _ ⟨i,H1.out,H2.out⟩).mono ?_;rintro e w' ⟨rfl,n,rfl⟩)|(go_at_call 57;refine (isDigit_any _ _).mono ?_;rintro e w' ⟨rfl,rfl⟩))
     go_ret2
     rw[hs.out]
     refine ⟨ret2i ?_ rfl,at_set (l:=r) (H1.out.drewN _) H2.out,((Frm.refl _ _).drewN _).setCell (by simp) _⟩
     have:(c-97).toNat=c.toNat-97:=UInt8.toNat_sub_of_le _ _ (by rw[UInt8.le_iff_toNat_le];simp;omega)
     rw[UInt8.toNat_add,this];simp;omega
    ·have hs:Hid (sHexD (c::r)=(0,false,c::r)):=by
      show sHexD (c::r)=(0,false,c::r)
      unfold sHexD;simp only[dgB,hd];rw[if_neg (by simp),if_neg]
      rintro ⟨h1,h2⟩;rw[UInt8.le_iff_toNat_le]at h1 h2;simp at h1 h2;omega
     go_enter Tryz.func127,Tryz.ntmps127
     go_wp2_with (first | (go_at_call 89;refine (peek_any _ _ _ _ ⟨i,H1.out,H2.out⟩).mono ?_;rintro e w' ⟨rfl,n,rfl⟩)|(go_at_call 57;refine (isDigit_any _ _).mono ?_;rintro e w' ⟨rfl,rfl⟩))
     all_goals first | (exfalso;omega)|skip
     all_goals
      go_ret2
      rw[hs.out]
      exact ⟨rfl,⟨i,H1.out.drewN _,H2.out⟩,(Frm.refl _ _).drewN _⟩
   ·have hb:48≤(c.toNat:Int)∧(c.toNat:Int)≤57:=by simpa[digB] using hd
    obtain ⟨hb1,hb2⟩:=hb
    have hs:Hid (sHexD (c::r)=(c-48,true,r)):=by
     show sHexD (c::r)=(c-48,true,r)
     unfold sHexD;simp only[dgB,hd];rw[if_pos trivial]
    go_enter Tryz.func127,Tryz.ntmps127
    go_wp2_with (first | (go_at_call 89;refine (peek_any _ _ _ _ ⟨i,H1.out,H2.out⟩).mono ?_;rintro e w' ⟨rfl,n,rfl⟩)|(go_at_call 57;refine (isDigit_any _ _).mono ?_;rintro e w' ⟨rfl,rfl⟩))
    go_ret2
    rw[hs.out]
    refine ⟨ret2i ?_ rfl,at_set (l:=r) (H1.out.drewN _) H2.out,((Frm.refl _ _).drewN _).setCell (by simp) _⟩
    have:(c-48).toNat=c.toNat-48:=UInt8.toNat_sub_of_le _ _ (by rw[UInt8.le_iff_toNat_le];simp;omega)
    rw[this];omega
def sHexB(l:List UInt8):UInt8 × Bool × List UInt8 :=
 let a:=sHexD l
 let d:=sHexD a.2.2
 (a.1*16+d.1,a.2.1&&d.2.1,d.2.2)
theorem sHexD_le(l:List UInt8):(sHexD l).1.toNat≤15:=by
 unfold sHexD
 cases l with
 | nil=>simp
 | cons c r =>
   dsimp only
   by_cases h:dgB c=true
   ·rw[if_pos h]
    have hb:48≤(c.toNat:Int)∧(c.toNat:Int)≤57:=by simpa[dgB,digB] using h
    have:(c-48).toNat=c.toNat-48:=UInt8.toNat_sub_of_le _ _ (by rw[UInt8.le_iff_toNat_le];simp;omega)
    simp only[this];omega
   ·rw[if_neg h]
    by_cases h2:97≤c∧c≤102
    ·rw[if_pos h2]
     obtain ⟨h3,h4⟩:=h2
     rw[UInt8.le_iff_toNat_le]at h3 h4
     simp at h3 h4
     have:(c-97).toNat=c.toNat-97:=UInt8.toNat_sub_of_le _ _ (by rw[UInt8.le_iff_toNat_le];simp;omega)
     simp only[UInt8.toNat_add,this];simp;omega
    ·rw[if_neg h2];simp
theorem takeHexByte_any(b:Nat)(t l:List UInt8)(w:World)(h:At w b t l) :
 Calls Tryz.prog 117 #[.pointer (some ⟨b,0,none⟩)] w fun e w'=>e=.returned (.tuple #[.int .u8 ((sHexB l).1.toNat), .bool (sHexB l).2.1])∧At w' b t (sHexB l).2.2∧Frm [b] w w':=by
 have H:Hid (At w b t l):=h
 clear h
 go_enter Tryz.func117,Tryz.ntmps117
 go_wp2_with fail
 refine (takeHexDigit_any _ _ _ _ H.out).mono ?_
 rintro e w1 ⟨rfl,h1,hf1⟩
 go_wp2_with fail
 refine (takeHexDigit_any _ _ _ _ h1).mono ?_
 rintro e w2 ⟨rfl,h2,hf2⟩
 have hu:=u8i (sHexD l).1
 have hv:=u8i (sHexD (sHexD l).2.2).1
 have hle:=sHexD_le l
 have hle2:=sHexD_le (sHexD l).2.2
 have Hx:Hid (sHexB l=((sHexD l).1*16+(sHexD (sHexD l).2.2).1,(sHexD l).2.1&&(sHexD (sHexD l).2.2).2.1,(sHexD (sHexD l).2.2).2.2)):=rfl
 have H2:Hid (At w2 b t (sHexD (sHexD l).2.2).2.2):=h2
 have HF:Hid (Frm [b] w w2):=hf1.trans hf2
 clear h1 hf1 h2 hf2
 generalize sHexD (sHexD l).2.2=d at *
 generalize sHexD l=a at *
 obtain ⟨a1,a2,a3⟩:=a
 obtain ⟨d1,d2,d3⟩:=d
 cases a2
 all_goals
  go_wp2
  go_ret2
  rw[Hx.out]
  refine ⟨ret2i ?_ (by simp),H2.out,HF.out⟩
  rw[UInt8.toNat_add,UInt8.toNat_mul];simp;omega
open Go.RowKit
def sVB(l:List UInt8):UInt8 × Bool × List UInt8 :=
 if sTake [92,34] l then (34,true,sRest [92,34] l)
 else if sTake [92,92] l then (92,true,sRest [92,92] l)
 else if sTake [92,120] l then sHexB (sRest [92,120] l)
 else match l with
  | []=>(0,false,[])
  | c::r=>if !(plainB c.toNat)||c==92 then (0,false,c::r) else (c,true,r)
theorem sRest_no{wd l:List UInt8}(h:sTake wd l=false):sRest wd l=l:=by
 unfold sTake at h;unfold sRest;rw[h];simp
theorem takeValueByte_any(b:Nat)(t l:List UInt8)(w:World)(h:At w b t l) :
 Calls Tryz.prog 108 #[.pointer (some ⟨b,0,none⟩)] w fun e w'=>e=.returned (.tuple #[.int .u8 ((sVB l).1.toNat), .bool (sVB l).2.1])∧At w' b t (sVB l).2.2∧Frm [b] w w':=by
 have H:Hid (At w b t l):=h
 clear h
 go_enter Tryz.func108,Tryz.ntmps108
 go_wp2_with fail
 refine (take_any b t l [92,34] _ H.out (by simp)).mono ?_
 rintro e w1 ⟨rfl,h1,hf1⟩
 cases ht1:sTake [92,34] l
 case true =>
  have Hx:Hid (sVB l=(34,true,sRest [92,34] l)):=by
   show sVB l=_;unfold sVB;rw[ht1];rfl
  have H1:Hid (At w1 b t (sRest [92,34] l)∧Frm [b] w w1):=⟨h1,hf1⟩
  clear h1 hf1
  go_wp2
  go_ret2
  rw[Hx.out]
  exact ⟨rfl,H1.out.1,H1.out.2⟩
 case false =>
 rw[sRest_no ht1]at h1
 have H1:Hid (At w1 b t l):=h1
 have HF1:Hid (Frm [b] w w1):=hf1
 have T1:Hid (sTake [92,34] l=false):=ht1
 clear h1 hf1
 go_wp2_with fail
 refine (take_any b t l [92,92] _ H1.out (by simp)).mono ?_
 rintro e w2 ⟨rfl,h2,hf2⟩
 have HF2:Hid (Frm [b] w w2):=HF1.out.trans hf2
 clear hf2 ht1
 cases ht2:sTake [92,92] l
 case true =>
  have Hx:Hid (sVB l=(92,true,sRest [92,92] l)):=by
   show sVB l=_;unfold sVB;rw[T1.out,ht2];rfl
  have H2:Hid (At w2 b t (sRest [92,92] l)):=h2
  clear h2
  go_wp2
  go_ret2
  rw[Hx.out]
  exact ⟨rfl,H2.out,HF2.out⟩
 case false =>
 rw[sRest_no ht2]at h2
 have H2:Hid (At w2 b t l):=h2
 have T2:Hid (sTake [92,92] l=false):=ht2
 clear h2
 go_wp2_with fail
 refine (take_any b t l [92,120] _ H2.out (by simp)).mono ?_
 rintro e w3 ⟨rfl,h3,hf3⟩
 have HF3:Hid (Frm [b] w w3):=HF2.out.trans hf3
 clear hf3 ht2
 cases ht3:sTake [92,120] l
 case true =>
  have Hx:Hid (sVB l=sHexB (sRest [92,120] l)):=by
   show sVB l=_;unfold sVB;rw[T1.out,T2.out,ht3];rfl
  have H3:Hid (At w3 b t (sRest [92,120] l)):=h3
  clear h3
  go_wp2_with fail
  refine (takeHexByte_any b t _ _ H3.out).mono ?_
  rintro e w4 ⟨rfl,h4,hf4⟩
  have H4:Hid (At w4 b t (sHexB (sRest [92,120] l)).2.2):=h4
  have HF4:Hid (Frm [b] w w4):=HF3.out.trans hf4
  clear h4 hf4
  go_wp2
  go_ret2
  rw[Hx.out]
  exact ⟨rfl,H4.out,HF4.out⟩
 case false =>
 rw[sRest_no ht3]at h3
 have T3:Hid (sTake [92,120] l=false):=ht3
 obtain ⟨i,h5,h6⟩:=h3
 have c1:=h5.c1
 have hf:=h5.fz 1
 have hi:=h5.2.1
 have ht:=h5.2.2
 have H5:Hid (SC w3 b t i):=h5
 have H6:Hid (List.drop i t=l):=h6
 clear h5 h6 ht3
 cases l with
 | nil =>
   have hn:plainB 0=false:=rfl
   have h0:hd []=0:=rfl
   go_wp2_with (first | (go_at_call 89;refine (peek_any _ _ _ _ ⟨i,H5.out,H6.out⟩).mono ?_;rintro e w' ⟨rfl,n,rfl⟩)|(go_at_call 118;refine (isPlain_any _ _).mono ?_;rintro e w' ⟨rfl,rfl⟩))
   go_ret2
   exact ⟨rfl,⟨i,H5.out.drewN _,H6.out⟩,HF3.out.drewN _⟩
 | cons c r =>
   have hc:=hd_cons c r
   have hu:=u8i c
   have hil:i<t.length:=at_len H6.out
   by_cases hx:plainB c.toNat=true∧((c.toNat:Int)==92)=false
   ·obtain ⟨hp,h92⟩:=hx
    have Hx:Hid (sVB (c::r)=(c,true,r)):=by
     show sVB (c::r)=_;unfold sVB;rw[T1.out,T2.out,T3.out]
     have:(c==92)=false:=by
      rw[beq_eq_false_iff_ne]at h92 ⊢;intro e;subst e;exact h92 rfl
     simp[hp,this]
    go_wp2_with (first | (go_at_call 89;refine (peek_any _ _ _ _ ⟨i,H5.out,H6.out⟩).mono ?_;rintro e w' ⟨rfl,n,rfl⟩)|(go_at_call 118;refine (isPlain_any _ _).mono ?_;rintro e w' ⟨rfl,rfl⟩))
    go_ret2
    rw[Hx.out]
    exact ⟨rfl,at_set (l:=r) (H5.out.drewN _) H6.out,(HF3.out.drewN _).setCell (by simp) _⟩
   ·have Hx:Hid (sVB (c::r)=(0,false,c::r)):=by
     show sVB (c::r)=_;unfold sVB;rw[T1.out,T2.out,T3.out]
     by_cases hp:plainB c.toNat=true
     ·have h92:c=92:=by
       by_cases e:c=92
       ·exact e
       ·exact absurd ⟨hp,beq_eq_false_iff_ne.2 (fun h=>e (UInt8.toNat_inj.1 (by simpa using (Int.ofNat_inj.1 h))))⟩ hx
      simp[h92]
     ·simp[hp]
    have hx':plainB c.toNat=false∨((c.toNat:Int)==92)=true:=by
     cases h1:plainB c.toNat<;>cases h2:((c.toNat:Int)==92)<;>simp_all
    clear hx
    rcases hx' with hp|h92
    ·go_wp2_with (first | (go_at_call 89;refine (peek_any _ _ _ _ ⟨i,H5.out,H6.out⟩).mono ?_;rintro e w' ⟨rfl,n,rfl⟩)|(go_at_call 118;refine (isPlain_any _ _).mono ?_;rintro e w' ⟨rfl,rfl⟩))
     go_ret2
     rw[Hx.out]
     exact ⟨rfl,⟨i,H5.out.drewN _,H6.out⟩,HF3.out.drewN _⟩
    ·cases hp:plainB c.toNat
     all_goals
      go_wp2_with (first | (go_at_call 89;refine (peek_any _ _ _ _ ⟨i,H5.out,H6.out⟩).mono ?_;rintro e w' ⟨rfl,n,rfl⟩)|(go_at_call 118;refine (isPlain_any _ _).mono ?_;rintro e w' ⟨rfl,rfl⟩))
      go_ret2
      rw[Hx.out]
      exact ⟨rfl,⟨i,H5.out.drewN _,H6.out⟩,HF3.out.drewN _⟩
end Go.Proofs.YtjkialjoamgbgaaGreat
