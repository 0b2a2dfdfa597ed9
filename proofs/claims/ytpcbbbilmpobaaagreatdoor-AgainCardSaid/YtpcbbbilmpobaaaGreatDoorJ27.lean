import Derived.Test.YtpcbbbilmpobaaaGreatDoorJ4
import Derived.Test.YtpcbbbilmpobaaaGreatDoorJ26
set_option linter.unusedVariables false
set_option linter.unusedSimpArgs false
set_option linter.unnecessarySimpa false
set_option maxRecDepth 100000
set_option maxHeartbeats 200000
namespace Go.Proofs.YtpcbbbilmpobaaaGreatDoor
open Go.RowKit
structure HR(w:World)(g o:Nat)(x:HitM)(vb:Value):Prop where
 lt:g<w.heap.size
 c0:w.cell? ⟨g,o,none⟩=some (.string (bs x.rc))
 c1:w.cell? ⟨g,o+1,none⟩=some vb
 c2:w.cell? ⟨g,o+2,none⟩=some (.int .i64 (x.wt:Nat))
 c3:w.cell? ⟨g,o+3,none⟩=some (.int .i64 (x.ev:Nat))
 c4:w.cell? ⟨g,o+4,none⟩=some (.int .i64 (x.rp:Nat))
 r:RW [] 1 w vb (sc x.bl)
theorem HR.drewN{w:World}{g o:Nat}{x:HitM}{vb:Value}(h:HR w g o x vb)(n:Nat):HR (w.drewN n) g o x vb:=⟨h.lt,h.c0,h.c1,h.c2,h.c3,h.c4,h.r.frm (S:=[]) ((Frm.refl [] w).drewN n) (by simp)⟩
theorem HR.frm{w w':World}{g o:Nat}{x:HitM}{vb:Value}(h:HR w g o x vb)(f:Frm [] w w'):HR w' g o x vb :=
 ⟨Nat.lt_of_lt_of_le h.lt f.size,f.at (p:=⟨g,o,none⟩) h.lt h.c0,f.at (p:=⟨g,o+1,none⟩) h.lt h.c1,f.at (p:=⟨g,o+2,none⟩) h.lt h.c2,f.at (p:=⟨g,o+3,none⟩) h.lt h.c3,f.at (p:=⟨g,o+4,none⟩) h.lt h.c4,h.r.frm f (by simp)⟩
def HRS(w:World)(v:Value)(hs:List HitM):Prop :=
 ∃ a cap,v=.slice a hs.length cap∧hs.length≤cap∧∀ j (h:j<hs.length),∃ g o vb,a=some ⟨g,o,none⟩∧HR w g (o+j*5) hs[j] vb
theorem HRS.frm{w w':World}{v:Value}{hs:List HitM}(h:HRS w v hs)(f:Frm [] w w'):HRS w' v hs:=by
 obtain ⟨a,cap,e,hc,h⟩:=h;refine ⟨a,cap,e,hc,fun j hj=>?_⟩;obtain ⟨g,o,vb,e1,h1⟩:=h j hj;exact ⟨g,o,vb,e1,h1.frm f⟩
theorem HRS.nil(w:World):HRS w (.slice none 0 0) []:=⟨none,0,rfl,Nat.le_refl _,fun j h=>absurd h (by simp)⟩
theorem hrs_of{base:Nat}{w:World}{v:Value}{css:List (Array Value)}{hs:List HitM}(hO:OW 99 5 base w v (lst css))(hI:RowI hitT [] w css hs):HRS w v hs:=by
 have hl:=hI.1;have hR:=hO.rw (A:=[]) (by simp);have hR2:=hR;obtain ⟨a2,cap2,e2,hc2,_⟩:=hR2;obtain ⟨a,cap,e,h⟩:=row_at hR hI;rw[e2]at e;simp only[Value.slice.injEq]at e;obtain ⟨rfl,_,rfl⟩:=e;refine ⟨a2,cap2,by rw[e2,lst_len,hl],by rw[lst_len,hl]at hc2;exact hc2,fun j hj=>?_⟩;obtain ⟨g,o,cs,rfl,hg,_,⟨gb,rfl,hb⟩,hcell⟩:=h j hj;exact ⟨g,o,_,rfl,hg,hcell 0 _ rfl,hcell 1 _ rfl,hcell 2 _ rfl,hcell 3 _ rfl,hcell 4 _ rfl,hb⟩
def hitsA(m:Mach)(L:List LBL):List HitM:=hitsM m (runM m (lblV L) m.code.length 0)
def ROQ(m:Mach)(L:List LBL)(w:World)(e:Ending)(w':World):Prop :=
 Frm [] w w'∧((labsOK L=false∧e=.returned (.tuple #[.slice none 0 0, .int .i64 8]))∨(labsOK L=true∧∃ v,e=.returned (.tuple #[v, .int .i64 0])∧HRS w' v (hitsA m L)))
theorem route_any(w:World)(pb:Nat)(V:V6)(m:Mach)(h:PR [] w pb V m)(ok:MOK m)(a:Option Addr)(k cap:Nat)(L:List LBL)(hL:LR w (.slice a k cap) L)(hv:LV L)(hcap:L.length≤cap) :
 Calls Tryz.prog 19 #[.pointer (some ⟨pb,0,none⟩), .slice a k cap] w (ROQ m L w):=by
 refine (aRoute_any w pb V m h ok a k cap L hL hv hcap).mono ?_;rintro e w' ⟨v,css,hF,⟨h1,rfl⟩|⟨h1,rfl,hO,hI⟩⟩
 ·exact ⟨hF, .inl ⟨h1,rfl⟩⟩
 ·exact ⟨hF, .inr ⟨h1,v,rfl,hrs_of hO hI⟩⟩
set_option linter.unusedVariables false
set_option linter.unusedSimpArgs false
/-- A normal form: no text,the empty one,a set of bytes (its bits),a pair,a sum,a star. -/
inductive NF where
 | zero:NF
 | one:NF
 | set:Nat→NF
 | pair:NF→NF→NF
 | sum:List NF→NF
 | star:NF→NF
mutual
def NF.size:NF→Nat
 | .zero=>1
 | .one=>1
 | .set _=>1
 | .pair a b=>a.size+b.size+1
 | .sum l=>sizeL l+1
 | .star a=>a.size+1
def sizeL:List NF→Nat
 | []=>0
 | x::r=>x.size+sizeL r
end
theorem NF.size_pos(x:NF):0<x.size:=by cases x<;>simp[NF.size]
theorem size_mem:∀ {l:List NF} {x:NF},x∈l→x.size≤sizeL l
 | y::r,x,h=>by
   simp only[sizeL];rcases List.mem_cons.1 h with e|e
   ·subst e;omega
   ·have:=size_mem e;omega
theorem NF.ind{P:NF→Prop}(h:∀ x,(∀ y:NF,y.size<x.size→P y)→P x)(x:NF):P x:=by
 have:∀ n (x:NF),x.size≤n→P x:=by
  intro n
  induction n with
  | zero=>intro x hx;have:=x.size_pos;omega
  | succ n ih=>intro x hx;exact h x (fun y hy=>ih y (by omega))
 exact this _ x (Nat.le_refl _)
mutual
def nul:NF→Bool
 | .zero=>false
 | .one=>true
 | .set _=>false
 | .pair a b=>nul a&&nul b
 | .sum l=>nulL l
 | .star _=>true
def nulL:List NF→Bool
 | []=>false
 | x::r=>nul x||nulL r
end
def hexB(n:Nat):UInt8:=if n<10 then UInt8.ofNat (48+n) else UInt8.ofNat (87+n)
def setName(s:Nat):Nat→List UInt8
 | 0=>[]
 | k+1=>setName s k++(if s.testBit k then [hexB (k / 16),hexB (k % 16)] else [])
mutual
def name:NF→List UInt8
 | .zero=>[48]
 | .one=>[49]
 | .set s=>115::setName s 256
 | .pair a b=>40::(name a++32::(name b++[41]))
 | .sum l=>91::(nameL l++[93])
 | .star a=>name a++[42]
def nameL:List NF→List UInt8
 | []=>[]
 | x::r=>name x++124::nameL r
end
def thenN:NF→NF→NF
 | .zero,_=>.zero
 | .one,b=>b
 | .pair c d,b=>match b with
   | .zero=>.zero
   | .one=>.pair c d
   | b=>thenN c (thenN d b)
 | a,b=>match b with
   | .zero=>.zero
   | .one=>a
   | b=>.pair a b
def starN:NF→NF
 | .zero=>.one
 | .one=>.one
 | .star a=>.star a
 | a=>.star a
def isS:NF→Bool | .set _=>true|_=>false
def bits:NF→Nat | .set s=>s|_=>0
def parts:NF→List NF | .zero=>[] | .sum l=>l|x=>[x]
def joinB(l:List NF):Nat:=l.foldl (fun n x=>n ||| bits x) 0
def blt:List UInt8→List UInt8→Bool
 | [],[]=>false
 | [],_::_=>true
 | _::_,[]=>false
 | a::r,b::q=>if a<b then true else if a==b then blt r q else false
def put:List NF→NF→List NF
 | [],x=>[x]
 | y::r,x=>if blt (name y) (name x) then y::put r x else if name y==name x then y::r else x::y::r
def srt(l:List NF):List NF:=l.foldl put []
def mkS:List NF→NF
 | []=>.zero
 | [x]=>x
 | l=>.sum l
def coreL(l:List NF):List NF:=l.filter (fun x=>!isS x)++(if joinB l=0 then [] else [.set (joinB l)])
def orL(ls:List NF):NF:=mkS (srt (coreL (ls.flatMap parts)))
def orN(a b:NF):NF:=orL [a,b]
mutual
def left(c:Nat):NF→NF
 | .zero=>.zero
 | .one=>.zero
 | .set s=>if s.testBit c then .one else .zero
 | .pair a b=>if nul a then orN (thenN (left c a) b) (left c b) else thenN (left c a) b
 | .sum l=>orL (leftL c l)
 | .star a=>thenN (left c a) (.star a)
def leftL(c:Nat):List NF→List NF
 | []=>[]
 | x::r=>left c x::leftL c r
end
theorem leftL_map(c:Nat):∀ l,leftL c l=l.map (left c)
 | []=>rfl
 | x::r=>by simp only[leftL,List.map_cons,leftL_map c r]
def atomN:NF→Bool | .zero=>false | .sum _=>false|_=>true
def headN:NF→Bool | .set _=>true | .sum _=>true | .star _=>true|_=>false
def tailN:NF→Bool | .zero=>false | .one=>false|_=>true
mutual
def wf:NF→Prop
 | .zero=>True
 | .one=>True
 | .set s=>0<s∧s<2 ^ 256
 | .pair a b=>wf a∧wf b∧headN a=true∧tailN b=true
 | .sum l=>wfL l∧∀ p∈l,atomN p=true
 | .star a=>wf a∧tailN a=true
def wfL:List NF→Prop
 | []=>True
 | x::r=>wf x∧wfL r
end
theorem wfL_mem:∀ {l:List NF},wfL l↔∀ x∈l,wf x
 | []=>by simp[wfL]
 | x::r=>by simp[wfL,wfL_mem (l:=r)]
theorem thenN_zero(a:NF):thenN a .zero=.zero:=by cases a<;>rfl
theorem thenN_one(a:NF):thenN a .one=a:=by cases a<;>rfl
theorem thenN_head{a b:NF}(ha:headN a=true)(hb:tailN b=true):thenN a b=.pair a b:=by
 cases a<;>simp[headN]at ha<;>cases b<;>simp[tailN]at hb<;>rfl
theorem thenN_pairs{c d b:NF}(hb:tailN b=true):thenN (.pair c d) b=thenN c (thenN d b):=by
 cases b<;>simp[tailN]at hb<;>rfl
theorem thenN_tail:∀ {a b:NF},wf a→tailN a=true→tailN b=true→tailN (thenN a b)=true
 | .pair c d,b,wa,_,hb=>by
   obtain ⟨wc,wd,hc,hd⟩:=wa;rw[thenN_pairs hb,thenN_head hc (thenN_tail wd hd hb)];rfl
 | .set _,b,_,_,hb=>by rw[thenN_head rfl hb];rfl
 | .sum _,b,_,_,hb=>by rw[thenN_head rfl hb];rfl
 | .star _,b,_,_,hb=>by rw[thenN_head rfl hb];rfl
theorem thenN_wf:∀ {a b:NF},wf a→wf b→wf (thenN a b)
 | .zero,b,_,_=>trivial
 | .one,b,_,wb=>wb
 | .pair c d,b,wa,wb=>by
   have wa':=wa;obtain ⟨wc,wd,hc,hd⟩:=wa
   by_cases hb:tailN b=true
   ·have ht:=thenN_tail wd hd hb
    rw[thenN_pairs hb,thenN_head hc ht];exact ⟨wc,thenN_wf wd wb,hc,ht⟩
   ·cases b<;>simp[tailN]at hb
    ·rw[thenN_zero];trivial
    ·rw[thenN_one];exact wa'
 | .set s,b,wa,wb=>by
   by_cases hb:tailN b=true
   ·rw[thenN_head rfl hb];exact ⟨wa,wb,rfl,hb⟩
   ·cases b<;>simp[tailN]at hb
    ·rw[thenN_zero];trivial
    ·rw[thenN_one];exact wa
 | .sum l,b,wa,wb=>by
   by_cases hb:tailN b=true
   ·rw[thenN_head rfl hb];exact ⟨wa,wb,rfl,hb⟩
   ·cases b<;>simp[tailN]at hb
    ·rw[thenN_zero];trivial
    ·rw[thenN_one];exact wa
 | .star a,b,wa,wb=>by
   by_cases hb:tailN b=true
   ·rw[thenN_head rfl hb];exact ⟨wa,wb,rfl,hb⟩
   ·cases b<;>simp[tailN]at hb
    ·rw[thenN_zero];trivial
    ·rw[thenN_one];exact wa
theorem not_tail{b:NF}(h:¬ tailN b=true):b=.zero∨b=.one:=by
 cases b<;>simp[tailN]at h<;>simp
theorem thenN_assoc(a b c:NF):wf a→wf b→thenN (thenN a b) c=thenN a (thenN b c):=by
 revert b c
 refine NF.ind (P:=fun a=>∀ b c:NF,wf a→wf b→thenN (thenN a b) c=thenN a (thenN b c)) ?_ a;intro a ih b c wa wb
 by_cases hb:tailN b=true
 case neg =>
  rcases not_tail hb with rfl|rfl
  ·rw[thenN_zero];show NF.zero=thenN a .zero;rw[thenN_zero]
  ·rw[thenN_one];rfl
 by_cases hc:tailN c=true
 case neg =>
  rcases not_tail hc with rfl|rfl
  ·simp only[thenN_zero]
  ·simp only[thenN_one]
 have hbc:=thenN_tail wb hb hc;cases a with
 | zero=>rfl
 | one=>rfl
 | pair x y =>
   obtain ⟨wx,wy,hx,hy⟩:=wa;rw[thenN_pairs hb,thenN_pairs hbc,ih x (by simp[NF.size];omega) _ _ wx (thenN_wf wy wb),ih y (by simp[NF.size];omega) _ _ wy wb]
 | set s=>rw[thenN_head rfl hb,thenN_pairs hc,thenN_head (a:=.set s) rfl hbc]
 | sum s=>rw[thenN_head rfl hb,thenN_pairs hc,thenN_head (a:=.sum s) rfl hbc]
 | star s=>rw[thenN_head rfl hb,thenN_pairs hc,thenN_head (a:=.star s) rfl hbc]
theorem put_mem:∀ {l:List NF} {x p:NF},p∈put l x→p∈l∨p=x
 | [],x,p,h=>by simp[put]at h;exact .inr h
 | y::r,x,p,h=>by
   unfold put at h
   split at h
   ·rcases List.mem_cons.1 h with e|e
    ·exact .inl (by simp[e])
    ·rcases put_mem e with e|e
     ·exact .inl (by simp[e])
     ·exact .inr e
   ·split at h
    ·exact .inl h
    ·rcases List.mem_cons.1 h with e|e
     ·exact .inr e
     ·exact .inl e
theorem foldl_put_mem:∀ {l acc:List NF} {p:NF},p∈l.foldl put acc→p∈acc∨p∈l
 | [],acc,p,h=>.inl h
 | x::r,acc,p,h=>by
   rcases foldl_put_mem (l:=r) h with e|e
   ·rcases put_mem e with e|e
    ·exact .inl e
    ·exact .inr (by simp[e])
   ·exact .inr (by simp[e])
theorem srt_mem{l:List NF}{p:NF}(h:p∈srt l):p∈l:=by
 rcases foldl_put_mem h with e|e
 ·simp at e
 ·exact e
theorem joinB_foldl:∀ (l:List NF) (n:Nat),l.foldl (fun n x=>n ||| bits x) n=n ||| joinB l
 | [],n=>by simp[joinB]
 | x::r,n=>by
   have h1:=joinB_foldl r (n ||| bits x);have h2:=joinB_foldl r (0 ||| bits x);unfold joinB;simp only[List.foldl_cons];rw[h1,h2];simp[Nat.or_assoc]
theorem joinB_cons(x:NF)(r:List NF):joinB (x::r)=bits x ||| joinB r:=by
 have:=joinB_foldl r (0 ||| bits x);unfold joinB at this ⊢;simp only[List.foldl_cons];rw[this];simp
theorem joinB_lt:∀ {l:List NF},(∀ x∈l,wf x)→joinB l<2 ^ 256
 | [],_=>by simp[joinB]
 | x::r,h=>by
   rw[joinB_cons];refine Nat.or_lt_two_pow ?_ (joinB_lt (fun y hy=>h y (by simp[hy])));have hx:=h x (by simp);cases x<;>first | exact hx.2|(simp[bits])
theorem core_mem{l:List NF}{p:NF}(h:p∈coreL l):isS p=true∨p∈l:=by
 unfold coreL at h;rcases List.mem_append.1 h with h|h
 ·exact .inr (List.mem_filter.1 h).1
 ·split at h
  ·simp at h
  ·simp at h;subst h;exact .inl rfl
theorem core_mem2{l:List NF}{p:NF}(h:p∈coreL l):(joinB l≠0∧p=.set (joinB l))∨p∈l:=by
 unfold coreL at h;rcases List.mem_append.1 h with h|h
 ·exact .inr (List.mem_filter.1 h).1
 ·split at h
  ·simp at h
  ·simp at h;exact .inl ⟨by assumption,h⟩
theorem isS_atom{p:NF}(h:isS p=true):atomN p=true:=by cases p<;>simp[isS]at h<;>rfl
theorem atom_parts{p:NF}(h:atomN p=true):parts p=[p]:=by cases p<;>simp[atomN]at h<;>rfl
theorem parts_atom{x p:NF}(hx:wf x)(h:p∈parts x):atomN p=true:=by
 cases x with
 | zero=>simp[parts]at h
 | sum l=>exact hx.2 p h
 | one=>simp[parts]at h;subst h;rfl
 | set s=>simp[parts]at h;subst h;rfl
 | pair a b=>simp[parts]at h;subst h;rfl
 | star a=>simp[parts]at h;subst h;rfl
theorem parts_wf{x p:NF}(hx:wf x)(h:p∈parts x):wf p:=by
 cases x with
 | zero=>simp[parts]at h
 | sum l=>exact wfL_mem.1 hx.1 p h
 | one=>simp[parts]at h;subst h;exact hx
 | set s=>simp[parts]at h;subst h;exact hx
 | pair a b=>simp[parts]at h;subst h;exact hx
 | star a=>simp[parts]at h;subst h;exact hx
theorem mkS_parts{l:List NF}(h:∀ p∈l,atomN p=true){p:NF}:p∈parts (mkS l)↔p∈l:=by
 match l,h with
 | [],_=>simp[mkS,parts]
 | [x],h=>rw[mkS,atom_parts (h x (by simp))]
 | x::y::r,h=>simp[mkS,parts]
theorem orL_parts{ls:List NF}(hw:∀ x∈ls,wf x){p:NF}(h:p∈parts (orL ls)):isS p=true∨∃ x∈ls,p∈parts x:=by
 have hat:∀ q∈srt (coreL (ls.flatMap parts)),atomN q=true:=by
  intro q hq;rcases core_mem (srt_mem hq) with e|e
  ·exact isS_atom e
  ·obtain ⟨x,hx,hq⟩:=List.mem_flatMap.1 e;exact parts_atom (hw x hx) hq
 rcases core_mem (srt_mem ((mkS_parts hat).1 h)) with e|e
 ·exact .inl e
 ·exact .inr (List.mem_flatMap.1 e)
theorem mkS_wf{l:List NF}(h:∀ p∈l,atomN p=true)(hw:∀ p∈l,wf p):wf (mkS l):=by
 match l,h,hw with
 | [],_,_=>trivial
 | [x],_,hw=>exact hw x (by simp)
 | x::y::r,h,hw=>exact ⟨wfL_mem.2 hw,h⟩
theorem orL_wf{ls:List NF}(hw:∀ x∈ls,wf x):wf (orL ls):=by
 refine mkS_wf ?_ ?_
 ·intro q hq
  rcases core_mem (srt_mem hq) with e|e
  ·exact isS_atom e
  ·obtain ⟨x,hx,hq⟩:=List.mem_flatMap.1 e;exact parts_atom (hw x hx) hq
 ·intro q hq
  rcases core_mem2 (srt_mem hq) with ⟨e1,e2⟩|e
  ·subst e2
   refine ⟨Nat.pos_of_ne_zero e1,joinB_lt ?_⟩;intro y hy;obtain ⟨x,hx,hy⟩:=List.mem_flatMap.1 hy;exact parts_wf (hw x hx) hy
  ·obtain ⟨x,hx,hq⟩:=List.mem_flatMap.1 e;exact parts_wf (hw x hx) hq
theorem orN_wf{a b:NF}(ha:wf a)(hb:wf b):wf (orN a b):=orL_wf (by simp;exact ⟨ha,hb⟩)
theorem left_wf(c:Nat)(x:NF):wf x→wf (left c x):=by
 refine NF.ind (P:=fun x=>wf x→wf (left c x)) ?_ x;intro x ih hw;cases x with
 | zero=>trivial
 | one=>trivial
 | set s=>simp only[left];split<;>trivial
 | pair a b =>
   obtain ⟨wa,wb,_,_⟩:=hw;have h1:=thenN_wf (ih a (by simp[NF.size];omega) wa) wb;simp only[left]
   split
   ·exact orN_wf h1 (ih b (by simp[NF.size];omega) wb)
   ·exact h1
 | sum l =>
   simp only[left,leftL_map];refine orL_wf ?_;intro y hy;obtain ⟨z,hz,rfl⟩:=List.mem_map.1 hy;have:=size_mem hz;exact ih z (by simp[NF.size];omega) (wfL_mem.1 hw.1 z hz)
 | star a=>exact thenN_wf (ih a (by simp[NF.size]) hw.1) hw
theorem left_parts{c:Nat}{q p:NF}(hq:wf q)(h:p∈parts (left c q)):isS p=true∨∃ p0∈parts q,p∈parts (left c p0):=by
 cases q with
 | zero=>simp[left,parts]at h
 | sum l =>
   simp only[left,leftL_map]at h;rcases orL_parts (by intro y hy;obtain ⟨z,hz,rfl⟩:=List.mem_map.1 hy;exact left_wf c z (wfL_mem.1 hq.1 z hz)) h with e|⟨y,hy,e⟩
   ·exact .inl e
   ·obtain ⟨z,hz,rfl⟩:=List.mem_map.1 hy;exact .inr ⟨z,hz,e⟩
 | one=>exact .inr ⟨_,by simp[parts],h⟩
 | set s=>exact .inr ⟨_,by simp[parts],h⟩
 | pair a b=>exact .inr ⟨_,by simp[parts],h⟩
 | star a=>exact .inr ⟨_,by simp[parts],h⟩
def elems:NF→List NF
 | .pair a b=>a::elems b
 | x=>[x]
def chain:List NF→NF
 | []=>.one
 | [x]=>x
 | x::r=>.pair x (chain r)
def mk(h:NF):List NF→NF
 | []=>h
 | x::r=>.pair h (chain (x::r))
theorem chain_elems:∀ {b:NF},wf b→chain (elems b)=b
 | .pair a b,h=>by
   have h1:=chain_elems h.2.1;have:∃ y r,elems b=y::r:=by cases b<;>simp[elems]
   obtain ⟨y,r,e⟩:=this;simp only[elems,e,chain]at h1 ⊢;rw[h1]
 | .zero,_=>rfl
 | .one,_=>rfl
 | .set _,_=>rfl
 | .sum _,_=>rfl
 | .star _,_=>rfl
theorem elems_ne(b:NF):elems b≠[]:=by cases b<;>simp[elems]
theorem chain_cons{x:NF}{r:List NF}(h:r≠[]):chain (x::r)=.pair x (chain r):=by
 cases r with
 | nil=>contradiction
 | cons=>rfl
theorem mk_ne{h:NF}{t:List NF}(ht:t≠[]):mk h t=.pair h (chain t):=by
 cases t with
 | nil=>contradiction
 | cons=>rfl
def elG(l:List NF):Prop:=∀ x∈l,wf x∧headN x=true
theorem head_tail{x:NF}(h:headN x=true):tailN x=true:=by cases x<;>simp[headN]at h<;>rfl
theorem chain_wf:∀ {l:List NF},elG l→wf (chain l)
 | [],_=>trivial
 | [x],h=>(h x (by simp)).1
 | x::y::r,h=>by
   have h1:=chain_wf (l:=y::r) (fun z hz=>h z (by simp at hz ⊢;exact .inr hz));have h2:=h x (by simp);refine ⟨h2.1,h1,h2.2,?_⟩;cases r with
   | nil=>exact head_tail (h y (by simp)).2
   | cons=>rfl
theorem chain_tail:∀ {l:List NF},elG l→l≠[]→tailN (chain l)=true
 | [x],h,_=>head_tail (h x (by simp)).2
 | x::y::r,h,_=>rfl
theorem elems_elG:∀ {b:NF},wf b→tailN b=true→elG (elems b)
 | .pair a b,h,_=>by
   intro x hx;simp only[elems,List.mem_cons]at hx;rcases hx with rfl|hx
   ·exact ⟨h.1,h.2.2.1⟩
   ·exact elems_elG h.2.1 h.2.2.2 x hx
 | .set _,h,_=>by intro x hx;simp[elems]at hx;subst hx;exact ⟨h,rfl⟩
 | .sum _,h,_=>by intro x hx;simp[elems]at hx;subst hx;exact ⟨h,rfl⟩
 | .star _,h,_=>by intro x hx;simp[elems]at hx;subst hx;exact ⟨h,rfl⟩
theorem thenN_chain:∀ {s t:List NF},elG s→elG t→thenN (chain s) (chain t)=chain (s++t)
 | [],t,_,_=>rfl
 | x::s,[],hs,ht=>by rw[List.append_nil];exact thenN_one _
 | [x],y::t,hs,ht=>by
   exact thenN_head (hs x (by simp)).2 (chain_tail ht (by simp))
 | x::z::s,y::t,hs,ht=>by
   have hs':elG (z::s):=fun w hw=>hs w (by simp at hw ⊢;exact .inr hw)
   have h1:=thenN_chain (s:=z::s) (t:=y::t) hs' ht;show thenN (.pair x (chain (z::s))) (chain (y::t))=.pair x (chain (z::s++y::t));rw[thenN_pairs (chain_tail ht (by simp)),h1];refine thenN_head (hs x (by simp)).2 (chain_tail ?_ (by simp));intro w hw;rcases List.mem_append.1 hw with hw|hw
   ·exact hs' w hw
   ·exact ht w hw
theorem thenN_mk{h:NF}{s t:List NF}(hh:headN h=true)(hs:elG s)(ht:elG t):thenN (mk h s) (chain t)=mk h (s++t):=by
 cases s with
 | nil =>
   cases t with
   | nil=>exact thenN_one _
   | cons y t=>exact thenN_head hh (chain_tail ht (by simp))
 | cons x s =>
   cases t with
   | nil=>rw[List.append_nil];exact thenN_one _
   | cons y t =>
     have hst:elG (x::s++y::t):=by
      intro w hw;rcases List.mem_append.1 hw with hw|hw
      ·exact hs w hw
      ·exact ht w hw
     show thenN (.pair h (chain (x::s))) (chain (y::t))=.pair h (chain (x::s++y::t));rw[thenN_pairs (chain_tail ht (by simp)),thenN_chain hs ht];exact thenN_head hh (chain_tail hst (by simp))
mutual
def occ:NF→List (NF × List NF)
 | .zero=>[(.zero,[])]
 | .one=>[(.one,[])]
 | .set s=>[(.set s,[])]
 | .pair a b=>(.pair a b,[])::((occ a).map (fun o=>(o.1,o.2++elems b))++occ b)
 | .sum l=>(.sum l,[])::occL l
 | .star a=>(.star a,[])::(occ a).map (fun o=>(o.1,o.2++[.star a]))
def occL:List NF→List (NF × List NF)
 | []=>[]
 | x::r=>occ x++occL r
end
theorem occ_self(X:NF):(X,[])∈occ X:=by cases X<;>simp[occ]
theorem occL_mem:∀ {l:List NF} {o:NF × List NF},o∈occL l↔∃ x∈l,o∈occ x
 | [],o=>by simp[occL]
 | x::r,o=>by simp[occL,occL_mem (l:=r)]
theorem elems_occ:∀ {b:NF} {u r:List NF} {c:NF},elems b=u++c::r→(c,r)∈occ b
 | .pair a b,u,r,c,h=>by
   simp only[elems]at h;cases u with
   | nil =>
     simp at h;obtain ⟨rfl,rfl⟩:=h;simp only[occ,List.mem_cons,List.mem_append,List.mem_map];exact .inr (.inl ⟨(a,[]),occ_self a,by simp⟩)
   | cons y u =>
     simp at h;have:=elems_occ h.2;simp only[occ,List.mem_cons,List.mem_append,List.mem_map];exact .inr (.inr this)
 | .zero,u,r,c,h=>by cases u<;>simp[elems]at h;obtain ⟨rfl,rfl⟩:=h;exact occ_self _
 | .one,u,r,c,h=>by cases u<;>simp[elems]at h;obtain ⟨rfl,rfl⟩:=h;exact occ_self _
 | .set _,u,r,c,h=>by cases u<;>simp[elems]at h;obtain ⟨rfl,rfl⟩:=h;exact occ_self _
 | .sum _,u,r,c,h=>by cases u<;>simp[elems]at h;obtain ⟨rfl,rfl⟩:=h;exact occ_self _
 | .star _,u,r,c,h=>by cases u<;>simp[elems]at h;obtain ⟨rfl,rfl⟩:=h;exact occ_self _
theorem elems_size:∀ {b x:NF},x∈elems b→x.size≤b.size
 | .pair a b,x,h=>by
   simp only[elems,List.mem_cons]at h;rcases h with rfl|h
   ·simp[NF.size];omega
   ·have:=elems_size h;simp[NF.size];omega
 | .zero,x,h=>by simp[elems]at h;subst h;exact Nat.le_refl _
 | .one,x,h=>by simp[elems]at h;subst h;exact Nat.le_refl _
 | .set _,x,h=>by simp[elems]at h;subst h;exact Nat.le_refl _
 | .sum _,x,h=>by simp[elems]at h;subst h;exact Nat.le_refl _
 | .star _,x,h=>by simp[elems]at h;subst h;exact Nat.le_refl _
theorem occ_cases{X Y:NF}{t:List NF}(h:(Y,t)∈occ X):(Y=X∧t=[]) ∨
 (∃ a b s,X=.pair a b∧(Y,s)∈occ a∧t=s++elems b)∨(∃ a b,X=.pair a b∧(Y,t)∈occ b) ∨
 (∃ l x,X=.sum l∧x∈l∧(Y,t)∈occ x)∨(∃ a s,X=.star a∧(Y,s)∈occ a∧t=s++[.star a]):=by
 cases X with
 | zero=>simp[occ]at h;exact .inl h
 | one=>simp[occ]at h;exact .inl h
 | set s=>simp[occ]at h;exact .inl h
 | pair a b =>
   simp only[occ,List.mem_cons,List.mem_append,List.mem_map,Prod.mk.injEq]at h;rcases h with h|⟨⟨Y',s⟩,h,rfl,rfl⟩|h
   ·exact .inl h
   ·exact .inr (.inl ⟨a,b,s,rfl,h,rfl⟩)
   ·exact .inr (.inr (.inl ⟨a,b,rfl,h⟩))
 | sum l =>
   simp only[occ,List.mem_cons,Prod.mk.injEq]at h;rcases h with h|h
   ·exact .inl h
   ·obtain ⟨x,hx,h⟩:=occL_mem.1 h;exact .inr (.inr (.inr (.inl ⟨l,x,rfl,hx,h⟩)))
 | star a =>
   simp only[occ,List.mem_cons,List.mem_map,Prod.mk.injEq]at h;rcases h with h|⟨⟨Y',s⟩,h,rfl,rfl⟩
   ·exact .inl h
   ·exact .inr (.inr (.inr (.inr ⟨a,s,rfl,h,rfl⟩)))
theorem occ_pair1{a b Y:NF}{s:List NF}(h:(Y,s)∈occ a):(Y,s++elems b)∈occ (.pair a b):=by
 simp only[occ,List.mem_cons,List.mem_append,List.mem_map];exact .inr (.inl ⟨_,h,rfl⟩)
theorem occ_pair2{a b Y:NF}{s:List NF}(h:(Y,s)∈occ b):(Y,s)∈occ (.pair a b):=by
 simp only[occ,List.mem_cons,List.mem_append,List.mem_map];exact .inr (.inr h)
theorem occ_sum{l:List NF}{x Y:NF}{s:List NF}(hx:x∈l)(h:(Y,s)∈occ x):(Y,s)∈occ (.sum l):=by
 simp only[occ,List.mem_cons];exact .inr (occL_mem.2 ⟨x,hx,h⟩)
theorem occ_star{a Y:NF}{s:List NF}(h:(Y,s)∈occ a):(Y,s++[.star a])∈occ (.star a):=by
 simp only[occ,List.mem_cons,List.mem_map];exact .inr ⟨_,h,rfl⟩
theorem occ_size{X Y:NF}{t:List NF}(h:(Y,t)∈occ X):Y.size≤X.size∧(t≠[]→Y.size<X.size):=by
 revert Y t
 refine NF.ind (P:=fun X=>∀ {Y:NF} {t:List NF},(Y,t)∈occ X→Y.size≤X.size∧(t≠[]→Y.size<X.size)) ?_ X;intro X ih Y t h;rcases occ_cases h with ⟨rfl,rfl⟩|⟨a,b,s,rfl,g,rfl⟩|⟨a,b,rfl,g⟩|⟨l,x,rfl,hx,g⟩|⟨a,s,rfl,g,rfl⟩
 ·exact ⟨Nat.le_refl _,fun h=>absurd rfl h⟩
 ·have:=(ih a (by simp[NF.size];omega) g).1;simp[NF.size];omega
 ·have:=(ih b (by simp[NF.size];omega) g).1;simp[NF.size];omega
 ·have h1:=size_mem hx
  have:=(ih x (by simp[NF.size];omega) g).1;simp[NF.size];omega
 ·have:=(ih a (by simp[NF.size]) g).1;simp[NF.size];omega
theorem occ_tailsize{X Y:NF}{t:List NF}(h:(Y,t)∈occ X):∀ x∈t,x.size<X.size∨∃ a,x=.star a∧x.size≤X.size:=by
 revert Y t
 refine NF.ind (P:=fun X=>∀ {Y:NF} {t:List NF},(Y,t)∈occ X→∀ x∈t,x.size<X.size∨∃ a,x=.star a∧x.size≤X.size) ?_ X;intro X ih Y t h x hx;rcases occ_cases h with ⟨rfl,rfl⟩|⟨a,b,s,rfl,g,rfl⟩|⟨a,b,rfl,g⟩|⟨l,z,rfl,hz,g⟩|⟨a,s,rfl,g,rfl⟩
 ·simp at hx
 ·rcases List.mem_append.1 hx with hx|hx
  ·rcases ih a (by simp[NF.size];omega) g x hx with h|⟨_,_,h⟩<;>(left;simp[NF.size];omega)
  ·have:=elems_size hx;left;simp[NF.size];omega
 ·rcases ih b (by simp[NF.size];omega) g x hx with h|⟨_,_,h⟩<;>(left;simp[NF.size];omega)
 ·have h1:=size_mem hz
  rcases ih z (by simp[NF.size];omega) g x hx with h|⟨_,_,h⟩<;>(left;simp[NF.size];omega)
 ·rcases List.mem_append.1 hx with hx|hx
  ·rcases ih a (by simp[NF.size]) g x hx with h|⟨_,_,h⟩<;>(left;simp[NF.size];omega)
  ·simp at hx;subst hx;exact .inr ⟨a,rfl,Nat.le_refl _⟩
theorem occ_good{X Y:NF}{t:List NF}(hX:wf X)(h:(Y,t)∈occ X):wf Y∧elG t:=by
 revert Y t hX
 refine NF.ind (P:=fun X=>∀ {Y:NF} {t:List NF},wf X→(Y,t)∈occ X→wf Y∧elG t) ?_ X;intro X ih Y t hX h;rcases occ_cases h with ⟨rfl,rfl⟩|⟨a,b,s,rfl,g,rfl⟩|⟨a,b,rfl,g⟩|⟨l,z,rfl,hz,g⟩|⟨a,s,rfl,g,rfl⟩
 ·exact ⟨hX,by intro x hx;simp at hx⟩
 ·have h1:=ih a (by simp[NF.size];omega) hX.1 g
  refine ⟨h1.1,?_⟩;intro x hx;rcases List.mem_append.1 hx with hx|hx
  ·exact h1.2 x hx
  ·exact elems_elG hX.2.1 hX.2.2.2 x hx
 ·exact ih b (by simp[NF.size];omega) hX.2.1 g
 ·have h1:=size_mem hz
  exact ih z (by simp[NF.size];omega) (wfL_mem.1 hX.1 z hz) g
 ·have h1:=ih a (by simp[NF.size]) hX.1 g
  refine ⟨h1.1,?_⟩;intro x hx;rcases List.mem_append.1 hx with hx|hx
  ·exact h1.2 x hx
  ·simp at hx;subst hx;exact ⟨hX,rfl⟩
theorem occ_tail{X Y:NF}{t u r:List NF}{c:NF}(h:(Y,t)∈occ X)(ht:t=u++c::r):(c,r)∈occ X:=by
 revert Y t u r c
 refine NF.ind (P:=fun X=>∀ {Y:NF} {t u r:List NF} {c:NF},(Y,t)∈occ X→t=u++c::r→(c,r)∈occ X) ?_ X;intro X ih Y t u r c h ht;rcases occ_cases h with ⟨rfl,rfl⟩|⟨a,b,s,rfl,g,rfl⟩|⟨a,b,rfl,g⟩|⟨l,z,rfl,hz,g⟩|⟨a,s,rfl,g,rfl⟩
 ·simp at ht
 ·rcases List.append_eq_append_iff.1 ht with ⟨us,e1,e2⟩|⟨cs,e1,e2⟩
  ·exact occ_pair2 (elems_occ e2)
  ·cases cs with
   | nil=>simp at e1 e2;exact occ_pair2 (elems_occ (u:=[]) (by simpa using e2.symm))
   | cons y cs =>
     simp at e2;obtain ⟨rfl,rfl⟩:=e2;exact occ_pair1 (ih a (by simp[NF.size];omega) g e1)
 ·exact occ_pair2 (ih b (by simp[NF.size];omega) g ht)
 ·have h1:=size_mem hz
  exact occ_sum hz (ih z (by simp[NF.size];omega) g ht)
 ·rcases List.append_eq_append_iff.1 ht with ⟨us,e1,e2⟩|⟨cs,e1,e2⟩
  ·cases us with
   | nil=>simp at e2;obtain ⟨rfl,rfl⟩:=e2;exact occ_self _
   | cons y us=>simp at e2
  ·cases cs with
   | nil=>simp at e2;obtain ⟨rfl,rfl⟩:=e2;exact occ_self _
   | cons y cs =>
     simp at e2;obtain ⟨rfl,rfl⟩:=e2;exact occ_star (ih a (by simp[NF.size]) g e1)
theorem occ_comp{X Y Z:NF}{t s:List NF}(h:(Y,t)∈occ X)(k:(Z,s)∈occ Y):(Z,s++t)∈occ X:=by
 revert Y t
 refine NF.ind (P:=fun X=>∀ {Y:NF} {t:List NF},(Y,t)∈occ X→(Z,s)∈occ Y→(Z,s++t)∈occ X) ?_ X;intro X ih Y t h k;rcases occ_cases h with ⟨rfl,rfl⟩|⟨a,b,s',rfl,g,rfl⟩|⟨a,b,rfl,g⟩|⟨l,z,rfl,hz,g⟩|⟨a,s',rfl,g,rfl⟩
 ·simpa using k
 ·rw[← List.append_assoc];exact occ_pair1 (ih a (by simp[NF.size];omega) g k)
 ·exact occ_pair2 (ih b (by simp[NF.size];omega) g k)
 ·have h1:=size_mem hz
  exact occ_sum hz (ih z (by simp[NF.size];omega) g k)
 ·rw[← List.append_assoc];exact occ_star (ih a (by simp[NF.size]) g k)
theorem left_chain{c:Nat}{p:NF}:∀ {t:List NF},elG t→t≠[]→p∈parts (left c (chain t))→isS p=true∨∃ u c1 r,t=u++c1::r∧p∈parts (thenN (left c c1) (chain r))
 | [x],ht,_,h=>.inr ⟨[],x,[],rfl,by rw[show chain []=.one from rfl,thenN_one];exact h⟩
 | x::y::r,ht,_,h=>by
   have ht':elG (y::r):=fun z hz=>ht z (by simp at hz ⊢;exact .inr hz)
   have hx:=ht x (by simp);have hwl:=left_wf c x hx.1;have hwc:=chain_wf ht';have key:p∈parts (thenN (left c x) (chain (y::r)))→isS p=true∨∃ u c1 r',x::y::r=u++c1::r'∧p∈parts (thenN (left c c1) (chain r')) :=
    fun h=>.inr ⟨[],x,y::r,rfl,h⟩
   rw[show chain (x::y::r)=.pair x (chain (y::r)) from rfl]at h;simp only[left]at h
   split at h
   ·rcases orL_parts (by simp;exact ⟨thenN_wf hwl hwc,left_wf c _ hwc⟩) h with e|⟨z,hz,e⟩
    ·exact .inl e
    ·simp at hz
     rcases hz with rfl|rfl
     ·exact key e
     ·rcases left_chain ht' (by simp) e with e|⟨u,c1,r',e1,e2⟩
      ·exact .inl e
      ·exact .inr ⟨x::u,c1,r',by rw[e1];rfl,e2⟩
   ·exact key h
theorem left_mk{c:Nat}{p h:NF}{t:List NF}(hh:wf h)(ht:elG t)(hp:p∈parts (left c (mk h t))) :
 isS p=true∨p∈parts (thenN (left c h) (chain t))∨∃ u c1 r,t=u++c1::r∧p∈parts (thenN (left c c1) (chain r)):=by
 cases t with
 | nil=>exact .inr (.inl (by rw[show chain []=.one from rfl,thenN_one];exact hp))
 | cons x t =>
   have hwc:=chain_wf ht;rw[show mk h (x::t)=.pair h (chain (x::t)) from rfl]at hp;simp only[left]at hp
   split at hp
   ·rcases orL_parts (by simp;exact ⟨thenN_wf (left_wf c h hh) hwc,left_wf c _ hwc⟩) hp with e|⟨z,hz,e⟩
    ·exact .inl e
    ·simp at hz
     rcases hz with rfl|rfl
     ·exact .inr (.inl e)
     ·rcases left_chain ht (by simp) e with e|e
      ·exact .inl e
      ·exact .inr (.inr e)
   ·exact .inr (.inl hp)
def dW(X:NF)(w:List Nat):NF:=w.foldl (fun x c=>left c x) X
theorem dW_snoc(X:NF)(w:List Nat)(c:Nat):dW X (w++[c])=left c (dW X w):=by simp[dW]
theorem dW_wf{X:NF}(hX:wf X)(w:List Nat):wf (dW X w):=by
 unfold dW
 induction w generalizing X with
 | nil=>exact hX
 | cons c w ih=>exact ih (left_wf c X hX)
def ssN:NF→Bool | .sum _=>true | .set _=>true|_=>false
def Cls(X:NF)(w:List Nat)(p:NF):Prop :=
 isS p=true∨p=.one∨∃ Y t v,(Y,t)∈occ X∧v <:+ w∧headN (dW Y v)=true∧p=mk (dW Y v) t∧(v=[]∨(t≠[]∧∀ u,u <+: v→u≠[]→ssN (dW Y u)=true))
theorem cls_lift{X Y:NF}{w v:List Nat}{p:NF}(ho:(Y,[])∈occ X)(hv:v <:+ w)(h:Cls Y v p):Cls X w p:=by
 rcases h with h|h|⟨Z,t,u,h1,h2,h3,h4,h5⟩
 ·exact .inl h
 ·exact .inr (.inl h)
 ·have:=occ_comp ho h1
  rw[List.append_nil]at this;exact .inr (.inr ⟨Z,t,u,this,h2.trans hv,h3,h4,h5⟩)
theorem cls_parts{X x:NF}(hx:wf x)(ho:(x,[])∈occ X)(w:List Nat){p:NF}(hp:p∈parts x):Cls X w p:=by
 have hpo:(p,[])∈occ X:=by
  cases x with
  | zero=>simp[parts]at hp
  | sum l=>have:=occ_comp ho (occ_sum (l:=l) hp (occ_self p));simpa using this
  | one=>simp[parts]at hp;subst hp;exact ho
  | set s=>simp[parts]at hp;subst hp;exact ho
  | pair a b=>simp[parts]at hp;subst hp;exact ho
  | star a=>simp[parts]at hp;subst hp;exact ho
 have hw:=parts_wf hx hp;have ha:=parts_atom hx hp;clear hp ho hx;cases p with
 | zero=>simp[atomN]at ha
 | sum l=>simp[atomN]at ha
 | one=>exact .inr (.inl rfl)
 | set s=>exact .inl rfl
 | pair a b =>
   have h1:=occ_comp hpo (occ_pair1 (b:=b) (occ_self a));simp only[List.nil_append,List.append_nil]at h1;refine .inr (.inr ⟨a,elems b,[],h1,List.nil_suffix,hw.2.2.1,?_, .inl rfl⟩);rw[mk_ne (elems_ne b),chain_elems hw.2.1];rfl
 | star a=>exact .inr (.inr ⟨.star a,[],[],hpo,List.nil_suffix,rfl,rfl, .inl rfl⟩)
theorem cls_chain{X Y:NF}{t:List NF}(hX:wf X)(ho:(Y,t)∈occ X)(w:List Nat){p:NF}(hp:p∈parts (chain t)):Cls X w p:=by
 match t,ho,hp with
 | [],_,hp=>simp[chain,parts]at hp;exact .inr (.inl hp)
 | [x],ho,hp =>
   have h1:=occ_tail (u:=[]) ho rfl;exact cls_parts (occ_good hX h1).1 h1 w hp
 | x::y::r,ho,hp =>
   have h1:=occ_tail (u:=[]) ho rfl;have h2:=(occ_good hX ho).2 x (by simp);simp[chain,parts]at hp;exact .inr (.inr ⟨x,y::r,[],h1,List.nil_suffix,h2.2,hp, .inl rfl⟩)
theorem cls_then{X Y:NF}{t:List NF}{w u:List Nat}(hX:wf X)(ho:(Y,t)∈occ X)(ht:t≠[])(hu:u <:+ w)
 (hpre:∀ u',u' <+: u→u'≠[]→u'≠u→ssN (dW Y u')=true) (ih:∀ p∈parts (dW Y u),Cls Y u p) {p:NF} (hp:p∈parts (thenN (dW Y u) (chain t))):Cls X w p:=by
 have hg:=occ_good hX ho;have hpre':ssN (dW Y u)=true→∀ u',u' <+: u→u'≠[]→ssN (dW Y u')=true:=by
  intro h u' h1 h2
  by_cases e:u'=u
  ·rw[e];exact h
  ·exact hpre u' h1 h2 e
 have big:∀ F:NF,dW Y u=F→atomN F=true→isS F=false→F≠.one→Cls X w p:=by
  intro F hF ha hs ho1;have hpF:F∈parts F:=by rw[atom_parts ha];simp
  rcases ih F (by rw[hF];exact hpF) with h|h|⟨Z,s,v,h1,h2,h3,h4,h5⟩
  ·rw[hs]at h;contradiction
  ·contradiction
  ·have hgs:=(occ_good hg.1 h1).2
   rw[hF,h4,thenN_mk h3 hgs hg.2,mk_ne (by simp[ht])]at hp;simp only[parts,List.mem_singleton]at hp;refine .inr (.inr ⟨Z,s++t,v,occ_comp ho h1,h2.trans hu,h3,?_,?_⟩)
   ·rw[hp,mk_ne (by simp[ht])]
   ·rcases h5 with h5|h5
    ·exact .inl h5
    ·exact .inr ⟨by simp[ht],h5.2⟩
 cases hF:dW Y u with
 | zero=>rw[hF]at hp;simp[thenN,parts]at hp
 | one=>rw[hF]at hp;exact cls_chain hX ho w hp
 | set s =>
   have hh:headN (dW Y u)=true:=by rw[hF];rfl
   rw[thenN_head hh (chain_tail hg.2 ht)]at hp;simp only[parts,List.mem_singleton]at hp;exact .inr (.inr ⟨Y,t,u,ho,hu,hh,by rw[hp,mk_ne ht], .inr ⟨ht,hpre' (by rw[hF];rfl)⟩⟩)
 | sum l =>
   have hh:headN (dW Y u)=true:=by rw[hF];rfl
   rw[thenN_head hh (chain_tail hg.2 ht)]at hp;simp only[parts,List.mem_singleton]at hp;exact .inr (.inr ⟨Y,t,u,ho,hu,hh,by rw[hp,mk_ne ht], .inr ⟨ht,hpre' (by rw[hF];rfl)⟩⟩)
 | pair a b=>exact big _ hF rfl rfl (by simp)
 | star a=>exact big _ hF rfl rfl (by simp)
theorem parts_dW(X:NF):wf X→∀ (w:List Nat) (p:NF),p∈parts (dW X w)→Cls X w p:=by
 refine NF.ind (P:=fun X=>wf X→∀ (w:List Nat) (p:NF),p∈parts (dW X w)→Cls X w p) ?_ X;intro X ih hX w
 -- an element
 have elem:∀ (w:List Nat) (c:Nat) (c1:NF) (r:List NF) (p:NF),(c1,r)∈occ X→headN c1=true→(∀ l,c1=.sum l→r=[]→c1.size<X.size)→p∈parts (thenN (left c c1) (chain r))→Cls X (w++[c]) p:=by
  intro w c c1 r p ho hh hsz hp;have hg:=occ_good hX ho;have hone:∀ Y:NF,dW Y [c]=left c Y:=fun Y=>rfl
  have hsuf:[c] <:+ w++[c]:=List.suffix_append _ _;have hpre1:∀ (Y:NF) (u':List Nat),u' <+: [c]→u'≠[]→u'≠[c]→ssN (dW Y u')=true:=by
   intro Y u' h1 h2 h3;rcases List.prefix_cons_iff.1 h1 with h|⟨t,rfl,h⟩
   ·contradiction
   ·have:=List.prefix_nil.1 h;subst this;contradiction
  cases c1 with
  | zero=>simp[headN]at hh
  | one=>simp[headN]at hh
  | pair a b=>simp[headN]at hh
  | set s =>
    simp only[left]at hp
    split at hp
    ·exact cls_chain hX ho _ hp
    ·simp[thenN,parts]at hp
  | star Z =>
    have hZ:(Z, .star Z::r)∈occ X:=by
     have:=occ_comp ho (occ_star (occ_self Z));simpa using this
    have hsz1:=(occ_size ho).1;have hlt:Z.size<X.size:=by simp[NF.size]at hsz1;omega
    have hwZ:wf Z:=hg.1.1;have e:thenN (left c (.star Z)) (chain r)=thenN (dW Z [c]) (chain (.star Z::r)):=by
     rw[hone];simp only[left];rw[thenN_assoc _ _ _ (left_wf c Z hwZ) hg.1]
     congr 1
     exact thenN_chain (s:=[.star Z]) (t:=r) (by intro x hx;simp at hx;subst hx;exact ⟨hg.1,rfl⟩) hg.2
    rw[e]at hp;exact cls_then hX hZ (by simp) hsuf (hpre1 Z) (ih Z hlt hwZ [c]) hp
  | sum l =>
    by_cases hr:r=[]
    ·subst hr
     have hlt:=hsz l rfl rfl;rw[show chain []=.one from rfl,thenN_one,← hone]at hp;exact cls_lift ho hsuf (ih _ hlt hg.1 [c] p hp)
    ·have hlt:=(occ_size ho).2 hr
     rw[← hone]at hp;exact cls_then hX ho hr hsuf (hpre1 _) (ih _ hlt hg.1 [c]) hp
 -- the word grows
 have main:∀ n (w:List Nat),w.length=n→∀ p,p∈parts (dW X w)→Cls X w p:=by
  intro n
  induction n with
  | zero =>
    intro w hw p hp;have:=List.eq_nil_of_length_eq_zero hw;subst this;exact cls_parts hX (occ_self X) [] hp
  | succ n ihn =>
    intro w hw p hp;obtain ⟨w',c,rfl⟩:∃ w' c,w=w'++[c]:=by
     have hne:w≠[]:=by intro e;subst e;simp at hw
     exact ⟨w.dropLast,w.getLast hne,(List.dropLast_concat_getLast hne).symm⟩
    have hw':w'.length=n:=by simp at hw;exact hw
    rw[dW_snoc]at hp;have hq:=dW_wf hX w';rcases left_parts hq hp with h|⟨p0,hp0,hp⟩
    ·exact .inl h
    have ha0:=parts_atom hq hp0;rcases ihn w' hw' p0 hp0 with h|h|⟨Y,t,v,ho,hv,hh,rfl,hcond⟩
    ·cases p0<;>simp[isS]at h
     simp only[left]at hp
     split at hp<;>simp[parts]at hp
     exact .inr (.inl hp)
    ·subst h;simp[left,parts]at hp
    have hg:=occ_good hX ho;rcases left_mk (dW_wf hg.1 v) hg.2 hp with h|h|⟨u,c1,r,hu,h⟩
    ·exact .inl h
    ·rcases hcond with rfl|⟨ht,hpre⟩
     ·refine elem w' c Y t p ho hh ?_ h
      rintro l rfl rfl;simp[mk,dW,atomN]at ha0
     ·have hlt:=(occ_size ho).2 ht
      rw[← dW_snoc]at h;refine cls_then hX ho ht (u:=v++[c]) ?_ ?_ (ih Y hlt hg.1 (v++[c])) h
      ·obtain ⟨z,rfl⟩:=hv;exact ⟨z,by simp⟩
      ·intro u' h1 h2 h3
       rcases List.prefix_concat_iff.1 h1 with e|e
       ·contradiction
       ·exact hpre u' e h2
    ·have ho1:=occ_tail ho hu
     have hc1:=hg.2 c1 (by rw[hu];simp);refine elem w' c c1 r p ho1 hc1.2 ?_ h;rintro l rfl rfl;rcases occ_tailsize ho (.sum l) (by rw[hu];simp) with h|⟨a,e,_⟩
     ·exact h
     ·simp at e
 exact main _ w rfl
end Go.Proofs.YtpcbbbilmpobaaaGreatDoor
