import Derived.Test.YtpcbbbilmpobaaaGreatDoorJ14
set_option linter.unusedVariables false
set_option linter.unusedSimpArgs false
set_option linter.unnecessarySimpa false
set_option maxRecDepth 100000
set_option maxHeartbeats 4000000
namespace Go.Proofs.YtpcbbbilmpobaaaGreatDoor
open Go.RowKit
def kRecv:List UInt8:=[114,101,99,101,105,118,101,114,115]
def recL:Nat→List (List UInt8)→List UInt8→Option (List (List UInt8))
 | 0,_,_=>none
 | k+1,acc,l =>
   if sTake [32] l then
    let nm:=(sRest [32] l).takeWhile nmB
    if !(isNameL nm)||decide (8≤acc.length) then none else recL k (acc++[nm]) ((sRest [32] l).dropWhile nmB)
   else if decide (0<acc.length)&&l.isEmpty then some acc else none
def sRecvs(t:List UInt8):Option (List (List UInt8)):=if sTake kRecv t then recL 10 [] (sRest kRecv t) else none
theorem readReceivers_any(t:List UInt8)(w:World)(ht:t.length≤1048576) :
 Calls Tryz.prog 69 #[.string (bs t)] w fun e w'=>Frm [] w w'∧∃ v' L,e=.returned (.tuple #[v', .bool (sRecvs t).isSome])∧SL w.heap.size w' v' L∧∀ L',sRecvs t=some L'→L=L':=by
 have ha0:At (w.alloc (Obj.cells #[Value.string (bs t),Value.int IntKind.i64 0] 168)) w.heap.size t t :=
  ⟨0,⟨heap1 _ _,Nat.zero_le _,ht⟩,rfl⟩
 have A0:Hid (At (w.alloc (Obj.cells #[Value.string (bs t),Value.int IntKind.i64 0] 168)) w.heap.size t t):=ha0;clear ha0;go_enter Tryz.func69,Tryz.ntmps69
 go_wp2_with fail
 refine (take_any w.heap.size t t kRecv _ A0.out (by simp[kRecv])).mono ?_;rintro e w1 ⟨rfl,h1,hf1⟩;have HF1:Hid (Frm [] w w1):=((Frm.refl [] w).alloc _).new hf1 (by simp);have hz1:w.heap.size+1≤w1.heap.size:=by have:=hf1.size;simpa using this
 cases ht1:sTake kRecv t
 case false =>
  have Hx:Hid (sRecvs t=none):=by
   show sRecvs t=none;unfold sRecvs;rw[ht1];rfl
  clear h1 hf1;go_wp2;go_ret2;rw[Hx.out];exact ⟨HF1.out,_,[],rfl,SL.nil _ _,fun L' h=>by cases h⟩
 case true =>
 have Hx:Hid (sRecvs t=recL 10 [] (sRest kRecv t)):=by
  show sRecvs t=_;unfold sRecvs;rw[ht1];rfl
 have H1:Hid (At w1 w.heap.size t (sRest kRecv t)):=h1;clear h1 hf1 ht1;go_wp2_with fail
 go_loopg [5] 10 (fun k v wr=>∃ (acc:List (List UInt8)) (l':List UInt8) (g cap:Nat),acc.length+k=10∧acc.length≤8∧v=.slice (some ⟨g,0,none⟩) acc.length cap∧w.heap.size+1≤g∧SL (w.heap.size+1) wr v acc∧recL k acc l'=sRecvs t∧At wr w.heap.size t l'∧Frm [] w wr∧w.heap.size+1≤wr.heap.size)
 case atStart=>exact ⟨[],sRest kRecv t,_,_,by simp,by simp,rfl,hz1,World.ownsRow_lit _ #[] 0 hz1 (by unfold maxLen;omega) (by simp),Hx.out.symm,H1.out.frm (S:=[]) ((Frm.refl _ _).alloc _) (by simp),HF1.out.alloc _,by simp;omega⟩
 case round =>
  obtain ⟨acc,l',g,cap,hk,hac,rfl,hg,hsl,hlb,hat,hfr,hz⟩:=hrel;have Hs:Hid (SL (w.heap.size+1) wr (.slice (some ⟨g,0,none⟩) acc.length cap) acc):=hsl;have Hl:Hid (recL gk acc l'=sRecvs t):=hlb;have Ha:Hid (At wr w.heap.size t l'):=hat;have Hf:Hid (Frm [] w wr):=hfr;clear hsl hlb hat hfr H1 HF1 Hx;obtain ⟨m,rfl⟩:∃ m,gk=m+1:=⟨gk-1,by omega⟩;go_wp2_with fail
  refine (take_any w.heap.size t l' [32] _ Ha.out (by simp)).mono ?_;rintro e w2 ⟨rfl,h2,hf2⟩;have Hs2:Hid (SL (w.heap.size+1) w2 (.slice (some ⟨g,0,none⟩) acc.length cap) acc):=Hs.out.frm hf2 (by simp);have Hf2:Hid (Frm [] w w2):=Hf.out.new hf2 (by simp);have hz2:w.heap.size+1≤w2.heap.size:=by have:=hf2.size;omega
  have H2:Hid (At w2 w.heap.size t (sRest [32] l')):=h2;clear h2 hf2 Hs Hf Ha;cases ht:sTake [32] l'
  case false =>
   rw[sRest_no ht]at H2;have Hx:Hid (sRecvs t=if decide (0<acc.length)&&l'.isEmpty then some acc else none):=by
    show _=_;rw[← Hl.out];conv=>lhs;unfold recL
    rw[ht];rfl
   by_cases h0:0<acc.length
   ·have h0':decide ((0:Int)<(acc.length:Int))=true:=decide_eq_true (by omega)
    go_wp2_with (go_at_call 88;refine (atEnd_any w.heap.size t l' _ (by exact H2.out)).mono ?_;rintro e w' ⟨rfl,n,rfl⟩)
    go_ret2;refine ⟨Hf2.out.drewN _,_,acc,?_,(Hs2.out.frm (S:=[]) ((Frm.refl _ _).drewN _) (by simp)).base (by omega),?_⟩
    ·rw[Hx.out];cases l'<;>simp[h0]<;>rfl
    ·intro L' h;rw[Hx.out]at h;cases l'<;>simp_all
   ·have h0':decide ((0:Int)<(acc.length:Int))=false:=decide_eq_false (by omega)
    have Hx2:Hid (sRecvs t=none):=by show _=_;rw[Hx.out];simp[h0]
    go_wp2;go_ret2;refine ⟨Hf2.out,_,acc,?_,Hs2.out.base (by omega),?_⟩
    ·rw[Hx2.out];rfl
    ·intro L' h;rw[Hx2.out]at h;cases h
  case true =>
  generalize hl1:sRest [32] l'=l1 at *;have Hst2:Hid (sRecvs t=(if !(isNameL (l1.takeWhile nmB))||decide (8≤acc.length) then none else recL m (acc++[l1.takeWhile nmB]) (l1.dropWhile nmB))):=by
   show _=_;rw[← Hl.out];conv=>lhs;unfold recL
   rw[if_pos ht,hl1]
  clear hl1 Hl ht;go_wp2_with fail
  refine (takeName_any w.heap.size t l1 _ H2.out).mono ?_;rintro e w3 ⟨rfl,h3,hf3⟩;have H3:Hid (At w3 w.heap.size t (l1.dropWhile nmB)):=h3;have Hf3:Hid (Frm [] w w3):=Hf2.out.new hf3 (by simp);have Hs3:Hid (SL (w.heap.size+1) w3 (.slice (some ⟨g,0,none⟩) acc.length cap) acc):=Hs2.out.frm hf3 (by simp);have hz3:w.heap.size+1≤w3.heap.size:=by have:=hf3.size;omega
  clear h3 hf3 Hs2 Hf2 H2;cases hn:isNameL (l1.takeWhile nmB)
  ·have Hx:Hid (sRecvs t=none):=by
    show _=_;rw[Hst2.out,hn];rfl
   go_wp2;go_ret2;refine ⟨Hf3.out,_,[],?_,SL.nil _ _,?_⟩
   ·rw[Hx.out];rfl
   ·intro L' h;rw[Hx.out]at h;cases h
  ·by_cases h4:8≤acc.length
   ·have Hx:Hid (sRecvs t=none):=by
     show _=_;rw[Hst2.out,hn];simp[h4]
    go_wp2;go_ret2;refine ⟨Hf3.out,_,[],?_,SL.nil _ _,?_⟩
    ·rw[Hx.out];rfl
    ·intro L' h;rw[Hx.out]at h;cases h
   ·have Hx:Hid (recL m (acc++[l1.takeWhile nmB]) (l1.dropWhile nmB)=sRecvs t):=by
     show _=_;rw[Hst2.out,hn];simp[h4]
    go_wp2_with (first | (at_builtin;refine wp_appS _ rfl _ _ rfl (w.heap.size+1) (.slice (some ⟨g,0,none⟩) acc.length cap) acc (l1.takeWhile nmB) w3.heap.size rfl (Hs3.out.frm (S:=[]) ((Frm.refl _ _).alloc _) (by simp)) rfl (by simp) (by omega) (by simp;omega) ?_;intro g2 cap2 w4 hs2 hg2 hb2))
    go_roundg m
    case measure=>omega
    case rel =>
     refine ⟨acc++[l1.takeWhile nmB],_,g2,cap2,by simp;omega,by simp;omega,by simp,hb2,by simpa using hs2,Hx.out,?_,?_,?_⟩
     ·refine At.frm (S:=[g]) (H3.out.frm (S:=[]) ((Frm.refl _ _).alloc _) (by simp)) (Frm.of_grown hg2) (by simp;omega)
     ·exact (Hf3.out.alloc _).grown hg2 (fun k hk=>by simp[Value.ownBlock]at hk;omega)
     ·have:=hg2.size;simp at this;omega
def Apart(w:World)(base:Nat)(S:List Nat):Prop:=∀ k,k∈S→k<base∨∃ cur e' fz,w.heap[k]?=some (.cells cur e' fz)∧e'≠9∧e'≠116
theorem CRep.frm{S:List Nat}{base:Nat}{w w':World}{v:RV}{c:CR}(h:CRep base w v c)(f:Frm S w w')(hS:Apart w base S):CRep base w' v c :=
 ⟨h.d,h.rc,h.tb,own_frmT h.by_ f (fun k hk=>(hS k hk).imp id (fun ⟨a,b,c,d,e⟩=>⟨a,b,c,d,e.1⟩)),h.wt,h.ev,h.rp,own_frmT h.ifs f (fun k hk=>(hS k hk).imp id (fun ⟨a,b,c,d,e⟩=>⟨a,b,c,d,e.2⟩)),h.co⟩
theorem CRep.base{base base':Nat}{w:World}{v:RV}{c:CR}(h:CRep base w v c)(hb:base'≤base):CRep base' w v c :=
 ⟨h.d,h.rc,h.tb,h.by_.base hb,h.wt,h.ev,h.rp,h.ifs.base hb,h.co⟩
def CB(w:World)(cb:Nat)(vr vt:Value):Prop:=w.heap[cb]?=some (.cells #[vr,vt] 50 (0,0))
theorem CB.c0{w:World}{cb:Nat}{vr vt:Value}(h:CB w cb vr vt):w.cell? ⟨cb,0,none⟩=some vr:=by
 unfold CB at h;simp[World.cell?,h]
theorem CB.c1{w:World}{cb:Nat}{vr vt:Value}(h:CB w cb vr vt):w.cell? ⟨cb,1,none⟩=some vt:=by
 unfold CB at h;simp[World.cell?,h]
theorem CB.fz{w:World}{cb:Nat}{vr vt:Value}(h:CB w cb vr vt)(o:Nat):w.frozen? ⟨cb,o,none⟩=false:=by
 unfold CB at h;simp[World.frozen?,h]
theorem CB.lt{w:World}{cb:Nat}{vr vt:Value}(h:CB w cb vr vt):cb<w.heap.size:=(Array.getElem?_eq_some_iff.1 h).1
theorem CB.frm{S:List Nat}{w w':World}{cb:Nat}{vr vt:Value}(h:CB w cb vr vt)(f:Frm S w w')(hS:cb∉S):CB w' cb vr vt:=(f.block cb h.lt hS).trans h
theorem CB.set0{w:World}{cb:Nat}{vr vt:Value}(h:CB w cb vr vt)(v:Value):CB (w.setCell ⟨cb,0,none⟩ v) cb v vt:=by
 unfold CB at *;simp[World.setCell,Array.getElem?_modify,h]
theorem CB.set1{w:World}{cb:Nat}{vr vt:Value}(h:CB w cb vr vt)(v:Value):CB (w.setCell ⟨cb,1,none⟩ v) cb vr v:=by
 unfold CB at *;simp[World.setCell,Array.getElem?_modify,h]
def rcells(rv:RV):List Value:=rv.cells.toList
def rvl(R:List RV):List Value:=R.flatMap rcells
def RL(base:Nat)(w:World)(v:Value)(R:List RV):Prop:=w.ownsRow base 78 9 v R.length (rvl R)
theorem RL.nil(base:Nat)(w:World):RL base w (.slice none 0 0) []:=World.ownsRow_nil w base _ 9
theorem infoRoute:(Tryz.prog.info? 78).map (fun i=>(i.zero,i.size,i.bytes))=some (some (.agg #[.int .i64 0, .string ByteArray.empty, .bool false, .slice none 0 0, .int .i64 0, .int .i64 0, .int .i64 0, .slice none 0 0, .bool false]),9,112):=by kernel_rfl
theorem addLine1_any(cb:Nat)(t:List UInt8)(vr vt:Value)(w:World)(ht:t.length≤1048576)(hc:CB w cb vr vt) :
 Calls Tryz.prog 42 #[.pointer (some ⟨cb,0,none⟩), .int .i64 1, .string (bs t)] w fun e w'=>Frm [cb] w w'∧e=.returned (.bool (sRecvs t).isSome)∧∃ vr' L,CB w' cb vr' vt∧SL w.heap.size w' vr' L∧∀ L',sRecvs t=some L'→L=L':=by
 have HC:Hid (CB w cb vr vt):=hc;clear hc;go_enter Tryz.func42,Tryz.ntmps42
 go_wp2_with fail
 refine (readReceivers_any t w ht).mono ?_;rintro e w1 ⟨hf1,v1,L,rfl,hs1,hL⟩;have hc1:=HC.out.frm hf1 (by simp);have c0:=hc1.c0;have f0:=hc1.fz 0;have hlt:=HC.out.lt;have HC1:Hid (CB w1 cb vr vt):=hc1;have HF1:Hid (Frm [] w w1):=hf1;have HS1:Hid (SL w.heap.size w1 v1 L):=hs1;have HL:Hid (∀ L',sRecvs t=some L'→L=L'):=hL;obtain ⟨a1,cap1,rfl⟩:=HS1.out.shape;clear hc1 hf1 hs1 hL HC;go_wp2;go_ret;refine ⟨HF1.out.nil.setCell (by simp) _,rfl,_,L,HC1.out.set0 _,?_,HL.out⟩;exact HS1.out.frm (S:=[cb]) ((Frm.refl _ _).setCell (by simp) _) (by simp;omega)
theorem addLine2_any(cb base:Nat)(line:Int)(t:List UInt8)(vr vt:Value)(R:List RV)(w:World)(ht:t.length≤1048576)(hc:CB w cb vr vt)(hr:RL base w vt R)(hR:R.length≤1048576)(hcb:cb<base)(hb:base≤w.heap.size)(hl:(line==1)=false) :
 Calls Tryz.prog 42 #[.pointer (some ⟨cb,0,none⟩), .int .i64 line, .string (bs t)] w fun e w'=>Frm (cb::vt.ownBlock.toList) w w'∧e=.returned (.bool (sRoute t).isSome)∧∃ vt' rv,CB w' cb vr vt'∧RL base w' vt' (R++[rv])∧∀ c,sRoute t=some c→CRep w.heap.size w' rv c:=by
 have HC:Hid (CB w cb vr vt):=hc;have HR:Hid (RL base w vt R):=hr;clear hc hr;obtain ⟨i0,hi,hza,hzb,hzc⟩:=info_parts infoRoute;go_enter Tryz.func42,Tryz.ntmps42
 go_wp2_with fail
 refine (readRoute_any t w ht).mono ?_;rintro e w1 ⟨hf1,⟨d,rc,tb,vby,wt,ev,rp,vif,co⟩,⟨ab,nb,capb,hvb⟩,⟨ai,ni,capi,hvi⟩,rfl,hrep⟩;simp only at hvb hvi;subst hvb hvi;have hlt:=HC.out.lt;have hz1:=hf1.size;obtain ⟨a,cap,rfl⟩:=own_shape HR.out;have HC1:Hid (CB w1 cb vr (.slice a R.length cap)):=HC.out.frm hf1 (by simp);have HF1:Hid (Frm [] w w1):=hf1;have HR1:Hid (RL base w1 (.slice a R.length cap) R):=own_frm HR.out hf1 (by simp);have HP:Hid (∀ c,sRoute t=some c→CRep w.heap.size w1 ⟨d,rc,tb, .slice ab nb capb,wt,ev,rp, .slice ai ni capi,co⟩ c):=hrep;clear hf1 hrep HC;have c1:=HC1.out.c1;have f1:=HC1.out.fz 1;have hlt1:=HC1.out.lt;have ag:Value.ownBlock (.slice a R.length cap)≠some cb:=fun e=>by have:=HR1.out.lt _ e;omega
 have am:Value.ownBlock (.slice a R.length cap)≠some w1.heap.size:=fun e=>by have:=HR1.out.lt _ e;omega
 have g2:∀ o o':Obj,((w1.alloc o).alloc o').drew.frozen? ⟨cb,1,none⟩=false:=fun o o'=>(((((Frm.refl [] w1).alloc o).alloc o').drew).frozen hlt1 (by simp)).trans f1
 have hun:RV.cells ⟨d,rc,tb, .slice ab nb capb,wt,ev,rp, .slice ai ni capi,co⟩=#[.int .i64 d, .string (bs rc), .bool tb, .slice ab nb capb, .int .i64 wt, .int .i64 ev, .int .i64 rp, .slice ai ni capi, .bool co]:=rfl;rw[hun];go_wp2_with fail
 go_region_law ((refine step_append_lies _ (by rfl) _ _ _ (by rfl) base 78 i0 _ 9 112 Tryz.underlying48 hi hza hzb hzc rfl (by omega) (.slice a R.length cap) R.length (rvl R) (by rfl) (by exact (HR1.out.alloc _).alloc _) ⟨w1.heap.size+1,0,none⟩ 1 1 (rcells ⟨d,rc,tb, .slice ab nb capb,wt,ev,rp, .slice ai ni capi,co⟩) (by rfl) (by rfl) (World.news_of_block (cs:=RV.cells ⟨d,rc,tb, .slice ab nb capb,wt,ev,rp, .slice ai ni capi,co⟩) (t:=78) (fr:=(0,0)) (by exact heap_new2 _ _ _)) (by simp[Value.oneCell',rcells,RV.cells]) (by omega) (by unfold maxLen;omega) (by omega) (by simp;omega) (w1.heap.size+2) (by simp) ?_;intro gg cap2 w4 hown4 hgrow hat hlt4;have c4:=(hgrow.cell_far ⟨cb,1,none⟩ (by simp;omega) (Ne.symm ag));have f4:=(hgrow.frozen_far ⟨cb,1,none⟩ (by simp;omega) (Ne.symm ag));have f5:=f4.trans (g2 _ _)))
 all_goals
  have HO:Hid (World.grownBy _ w4 (Value.ownBlock (.slice a R.length cap))):=hgrow;have HO4:Hid (w4.ownsRow base 78 9 (.slice (some ⟨gg,0,none⟩) (R.length+1) cap2) (R.length+1) (rvl R++rcells ⟨d,rc,tb, .slice ab nb capb,wt,ev,rp, .slice ai ni capi,co⟩)):=hown4;clear hgrow hown4;go_wp2;go_ret;have F4:=Frm.of_grow HO.out;have C4:CB w4 cb vr (.slice a R.length cap):=(HC1.out.frm (S:=[]) ((((Frm.refl _ _).alloc _).alloc _).drew) (by simp)).frm F4 (by simpa[Option.mem_toList] using fun e=>ag e);refine ⟨?_,rfl, .slice (some ⟨gg,0,none⟩) (R.length+1) cap2,⟨d,rc,tb, .slice ab nb capb,wt,ev,rp, .slice ai ni capi,co⟩,C4.set1 _,?_,?_⟩
  ·refine Frm.setCell ?_ (by simp) _
   refine Frm.trans (b:=w1) HF1.out.nil ?_;exact ((((Frm.refl _ _).alloc _).alloc _).drew).grown HO.out (fun k hk=>Or.inl (by simp[hk]))
  ·have:=ownsRow_setCell_below HO4.out (a:=⟨cb,1,none⟩) hcb (.slice (some ⟨gg,0,none⟩) (R.length+1) cap2)
   simpa[RL,rvl] using this
  ·intro c hc
   refine (CRep.frm (S:=Value.ownBlock (.slice a R.length cap) |>.toList) (((HP.out c hc).frm (S:=[]) ((((Frm.refl _ _).alloc _).alloc _).drew) (by intro k hk;simp at hk))) F4 ?_).frm (S:=[cb]) ((Frm.refl _ _).setCell (by simp) _) (by intro k hk;simp at hk;exact Or.inl (by omega));intro k hk;rw[Option.mem_toList]at hk;refine Or.inl ?_;have h1:=own_lt HR.out k hk;exact h1
def Reps(base:Nat)(w:World)(R:List RV)(C:List CR):Prop:=R.length=C.length∧∀ (i:Nat) (rv:RV) (c:CR),R[i]?=some rv→C[i]?=some c→CRep base w rv c
theorem Reps.frm{S:List Nat}{base:Nat}{w w':World}{R:List RV}{C:List CR}(h:Reps base w R C)(f:Frm S w w')(hS:Apart w base S):Reps base w' R C :=
 ⟨h.1,fun i rv c h1 h2=>(h.2 i rv c h1 h2).frm f hS⟩
theorem Reps.nil(base:Nat)(w:World):Reps base w [] []:=⟨rfl,fun i rv c h=>by simp at h⟩
theorem Reps.snoc{base:Nat}{w:World}{R:List RV}{C:List CR}{rv:RV}{c:CR}(h:Reps base w R C)(h1:CRep base w rv c):Reps base w (R++[rv]) (C++[c]):=by
 refine ⟨by simp[h.1],fun i rv' c' h2 h3=>?_⟩
 by_cases hi:i<R.length
 ·rw[List.getElem?_append_left hi]at h2
  rw[List.getElem?_append_left (by rw[← h.1];exact hi)]at h3;exact h.2 i rv' c' h2 h3
 ·rw[List.getElem?_append_right (by omega)]at h2
  rw[List.getElem?_append_right (by rw[← h.1];omega)]at h3;rw[← h.1]at h3;have hz:i-R.length=0:=by
   by_cases hz:i-R.length=0
   ·exact hz
   ·rw[List.getElem?_eq_none (by simp;omega)]at h2;cases h2
  rw[hz]at h2 h3;simp at h2 h3;subst h2 h3;exact h1
theorem Reps.base{base base':Nat}{w:World}{R:List RV}{C:List CR}(h:Reps base w R C)(hb:base'≤base):Reps base' w R C :=
 ⟨h.1,fun i rv c h1 h2=>(h.2 i rv c h1 h2).base hb⟩
def rlGo:List UInt8→Nat→List UInt8→List (List UInt8)→List CR→Except Nat (List (List UInt8) × List CR)
 | [],ln,cur,R,C=>if !(cur.isEmpty)||ln==1 then .error ln else .ok (R,C)
 | c::r,ln,cur,R,C =>
   if c==10 then
    (if ln==1 then (match sRecvs cur with | none=>.error 1|some R'=>rlGo r 2 [] R' C)
     else (match sRoute cur with | none=>.error ln|some x=>rlGo r (ln+1) [] R (C++[x])))
   else rlGo r ln (cur++[c]) R C
def cRead1(t:List UInt8):Except Nat (List (List UInt8) × List CR):=rlGo t 1 [] [] []
theorem load_cfg{w:World}{cb:Nat}{vr vt:Value}(h:CB w cb vr vt):(loadVar 50 ⟨cb,0,none⟩).run Tryz.prog w=.ok (.agg #[vr,vt]) w:=by
 have h0:=h.c0;have h1:=h.c1;simp[go_sem,h0,h1]
theorem results_lines{w:World}{rb:Nat}{vr vt:Value}{ln:Int}{tmps:Array Value}(h:CB w rb vr vt)(h2:tmps.getD 2 undef=.pointer (some ⟨rb,0,none⟩))(h3:tmps.getD 3 undef=.int .i64 ln) :
 (results Tryz.f21 tmps).run Tryz.prog w=.ok (.tuple #[.agg #[vr,vt], .int .i64 ln]) w:=by
 rw[results_cell_tmp Tryz.results21,h2,h3];simp[asAddr,load_cfg h]
theorem RL.frm{S:List Nat}{base:Nat}{w w':World}{v:Value}{R:List RV}(h:RL base w v R)(f:Frm S w w')(hS:∀ k,k∈S→k<base):RL base w' v R:=own_frm h f hS
theorem own_block{w:World}{base:Nat}{e:TypeId}{size:Nat}{v:Value}{n:Nat}{xs:List Value}(h:w.ownsRow base e size v n xs)(k:Nat)(hk:v.ownBlock=some k):∃ cur fz,w.heap[k]?=some (.cells cur e fz):=by
 rcases h.2 with ⟨rfl,_⟩|⟨g,cap,cur,rfl,hb,hg,_⟩
 ·simp[Value.ownBlock]at hk
 ·simp[Value.ownBlock]at hk
  subst hk;exact ⟨cur,_,hg⟩
theorem own_base{w:World}{base base':Nat}{e:TypeId}{size:Nat}{v:Value}{n:Nat}{xs:List Value}(h:w.ownsRow base e size v n xs)(hb:base'≤base):w.ownsRow base' e size v n xs:=by
 refine ⟨h.1,?_⟩;rcases h.2 with hn|⟨g,cap,cur,rfl,hg,rest⟩
 ·exact .inl hn
 ·exact .inr ⟨g,cap,cur,rfl,by omega,rest⟩
def LinesRep(base:Nat)(w:World)(vr vt:Value)(ln:Int):Except Nat (List (List UInt8) × List CR)→Prop
 | .error n=>vr=.slice none 0 0∧vt=.slice none 0 0∧ln=n∧1≤n
 | .ok (R,C)=>ln=0∧SL base w vr R∧∃ rvs,RL base w vt rvs∧Reps base w rvs C∧rvs.length≤1048576
theorem readLines_any(t:List UInt8)(w:World)(ht:t.length≤1040000) :
 Calls Tryz.prog 21 #[.string (bs t)] w fun e w'=>Frm [] w w'∧∃ vr vt ln,e=.returned (.tuple #[.agg #[vr,vt], .int .i64 ln])∧LinesRep w.heap.size w' vr vt ln (cRead1 t):=by
 have hsz:=bs_size t;have hx:=bs_extract t;have hb0:CB ((w.alloc (Obj.cells #[.slice none 0 0, .slice none 0 0] 50)).alloc (Obj.cells #[.slice none 0 0, .slice none 0 0] 50)) w.heap.size (.slice none 0 0) (.slice none 0 0):=by
  unfold CB;rw[Below.heap_alloc _ _ _ (by simp)];exact heap_alloc_new w _
 have hb1:CB ((w.alloc (Obj.cells #[.slice none 0 0, .slice none 0 0] 50)).alloc (Obj.cells #[.slice none 0 0, .slice none 0 0] 50)) (w.heap.size+1) (.slice none 0 0) (.slice none 0 0):=by
  unfold CB;have:=heap_alloc_new (w.alloc (Obj.cells #[.slice none 0 0, .slice none 0 0] 50)) (Obj.cells #[.slice none 0 0, .slice none 0 0] 50);rw[← this];simp
 have B0:=hb0;have HB0:Hid (CB ((w.alloc (Obj.cells #[.slice none 0 0, .slice none 0 0] 50)).alloc (Obj.cells #[.slice none 0 0, .slice none 0 0] 50)) w.heap.size (.slice none 0 0) (.slice none 0 0)):=hb0;have HB1:Hid (CB ((w.alloc (Obj.cells #[.slice none 0 0, .slice none 0 0] 50)).alloc (Obj.cells #[.slice none 0 0, .slice none 0 0] 50)) (w.heap.size+1) (.slice none 0 0) (.slice none 0 0)):=hb1;clear hb0 hb1 B0;go_enter Tryz.func21,Tryz.ntmps21
 go_wp2_with fail
 go_loopg [5,6,7] t.length (fun k vl vs vi wr=>∃ (ln st ii:Nat) (L:List (List UInt8)) (vr vt:Value) (C:List CR) (R:List RV),ii+k=t.length∧st≤ii∧1≤ln∧ln≤ii+1∧vl=.int .i64 ln∧vs=.int .i64 st∧vi=.int .i64 ii ∧
  CB wr (w.heap.size+1) vr vt∧CB wr w.heap.size (.slice none 0 0) (.slice none 0 0)∧SL (w.heap.size+2) wr vr L∧RL (w.heap.size+2) wr vt R∧Reps (w.heap.size+2) wr R C∧R.length≤ln∧rlGo (t.drop ii) ln ((t.take ii).drop st) L C=cRead1 t∧Frm [] w wr∧w.heap.size+2≤wr.heap.size)
 case atStart=>exact ⟨1,0,0,[],_,_,[],[],by omega,by omega,by omega,by omega,rfl,rfl,rfl,HB1.out,HB0.out,SL.nil _ _,RL.nil _ _,Reps.nil _ _,by simp,rfl,((Frm.refl _ _).alloc _).alloc _,by simp⟩
 case round =>
 obtain ⟨ln,st,ii,L,vr,vt,C,R,hk,hst,hl1,hl2,rfl,rfl,rfl,hcb,hrb,hsl,hrl,hrp,hrn,hgo,hfr,hz⟩:=hrel;have KC:Hid (CB wr (w.heap.size+1) vr vt):=hcb;have KR:Hid (CB wr w.heap.size (.slice none 0 0) (.slice none 0 0)):=hrb;have KS:Hid (SL (w.heap.size+2) wr vr L):=hsl;have KL:Hid (RL (w.heap.size+2) wr vt R):=hrl;have KP:Hid (Reps (w.heap.size+2) wr R C):=hrp;have KG:Hid (rlGo (t.drop ii) ln ((t.take ii).drop st) L C=cRead1 t):=hgo;have KF:Hid (Frm [] w wr):=hfr;clear hcb hrb hsl hrl hrp hgo hfr HB0 HB1
 by_cases hlt:ii<t.length
 ·have hbg2:(bs t)[ii]'(by rw[hsz];omega)=t[ii]:=rfl
  have Hd:Hid (t.drop ii=t[ii]::t.drop (ii+1)):=List.drop_eq_getElem_cons hlt;have Ht:Hid (t.take (ii+1)=t.take ii++[t[ii]]):=List.take_succ_eq_append_getElem hlt;generalize t[ii]=c at *
  by_cases hc:(c==10)=true
  ·have hc1:((c.toNat:Int) != 10)=false:=by
    have:c=10:=by simpa using hc
    subst this;rfl
   by_cases hl:ln=1
   ·subst hl
    have Hg2:Hid (cRead1 t=(match sRecvs ((t.take ii).drop st) with | none=>.error 1|some R'=>rlGo (t.drop (ii+1)) 2 [] R' C)):=by
     show _=_;rw[← KG.out,Hd.out];conv=>lhs;unfold rlGo
     rw[hc];rfl
    go_wp2_with fail
    refine (addLine1_any (w.heap.size+1) ((t.take ii).drop st) vr vt wr (by simp;omega) KC.out).mono ?_;rintro e w1 ⟨hf1,rfl,vr',L',hc1',hs1,hL⟩;have KR1:Hid (CB w1 w.heap.size (.slice none 0 0) (.slice none 0 0)):=KR.out.frm hf1 (by simp);have KF1:Hid (Frm [] w w1):=KF.out.new hf1 (by simp);have hz1:w.heap.size+2≤w1.heap.size:=by have:=hf1.size;omega
    cases hR:sRecvs ((t.take ii).drop st) with
    | none =>
      rw[hR]at Hg2;have d0:=KR1.out.c0;have d1:=KR1.out.c1;have df:=KR1.out.fz;clear hf1 hc1' hs1 hL;simp only[Option.isSome_none];go_wp2;refine bodyPost_ret (results_lines (vr:=.slice none 0 0) (vt:=.slice none 0 0) (ln:=1) (rb:=w.heap.size) ?_ (by rfl) (by rfl)) rfl ?_
      ·exact (KR1.out.set0 _).set1 _
      ·refine ⟨(KF1.out.setCell (by simp) _).setCell (by simp) _,_,_,_,rfl,?_⟩
       rw[Hg2.out];exact ⟨rfl,rfl,rfl,Nat.le_refl _⟩
    | some R' =>
      rw[hR]at Hg2;obtain rfl:=hL R' hR;have KC1:Hid (CB w1 (w.heap.size+1) vr' vt):=hc1';have KS1:Hid (SL (w.heap.size+2) w1 vr' L'):=hs1.base hz;have KL1:Hid (RL (w.heap.size+2) w1 vt R):=KL.out.frm hf1 (by simp);have KP1:Hid (Reps (w.heap.size+2) w1 R C):=KP.out.frm hf1 (by intro k hk;simp at hk;exact Or.inl (by omega));clear hf1 hc1' hs1 hL hR KC KR KS KL KP KF;simp only[Option.isSome_some];go_wp2;go_roundg (gk-1)
      case measure=>omega
      case rel =>
       refine ⟨2,ii+1,ii+1,L',vr',vt,C,R,by omega,by omega,by omega,by omega,by go_num,by go_num,by go_num,KC1.out,KR1.out,KS1.out,KL1.out,KP1.out,by omega,?_,KF1.out,hz1⟩;have he:(t.take (ii+1)).drop (ii+1)=[]:=List.drop_eq_nil_of_le (by rw[List.length_take];omega);rw[Hg2.out,he]
   ·have Hg2:Hid (cRead1 t=(match sRoute ((t.take ii).drop st) with | none=>.error ln|some x=>rlGo (t.drop (ii+1)) (ln+1) [] L (C++[x]))):=by
     show _=_;rw[← KG.out,Hd.out];conv=>lhs;unfold rlGo
     rw[hc,if_pos rfl,if_neg (by simpa using hl)]
    have hl':((ln:Int)==1)=false:=beq_eq_false_iff_ne.2 (by omega);go_wp2_with fail
    refine (addLine2_any (w.heap.size+1) (w.heap.size+2) ln ((t.take ii).drop st) vr vt R wr (by simp;omega) KC.out KL.out (by omega) (by omega) hz hl').mono ?_;rintro e w1 ⟨hf1,rfl,vt',rv,hc1',hl1',hrep⟩;have KR1:Hid (CB w1 w.heap.size (.slice none 0 0) (.slice none 0 0)):=KR.out.frm hf1 (by
     simp only[List.mem_cons,Option.mem_toList,not_or];exact ⟨by omega,fun e=>by have:=(KL.out.lt _ e).1;omega⟩)
    have KF1:Hid (Frm [] w w1):=KF.out.new hf1 (by
     simp only[List.mem_cons,Option.mem_toList];rintro x (rfl|e)
     ·omega
     ·have:=(KL.out.lt _ e).1;omega)
    have hz1:w.heap.size+2≤w1.heap.size:=by have:=hf1.size;omega
    cases hR:sRoute ((t.take ii).drop st) with
    | none =>
      rw[hR]at Hg2;have d0:=KR1.out.c0;have d1:=KR1.out.c1;have df:=KR1.out.fz;clear hf1 hc1' hl1' hrep;simp only[Option.isSome_none];go_wp2;refine bodyPost_ret (results_lines (vr:=.slice none 0 0) (vt:=.slice none 0 0) (ln:=ln) (rb:=w.heap.size) ?_ (by rfl) (by rfl)) rfl ?_
      ·exact (KR1.out.set0 _).set1 _
      ·refine ⟨(KF1.out.setCell (by simp) _).setCell (by simp) _,_,_,_,rfl,?_⟩
       rw[Hg2.out];exact ⟨rfl,rfl,rfl,hl1⟩
    | some x =>
      rw[hR]at Hg2;have hap:Apart wr (w.heap.size+2) ((w.heap.size+1)::vt.ownBlock.toList):=by
       intro k hk;simp only[List.mem_cons,Option.mem_toList]at hk;rcases hk with rfl|e
       ·exact Or.inl (by omega)
       ·obtain ⟨cur,fz,h1⟩:=own_block KL.out k e
        exact Or.inr ⟨cur,_,fz,h1,by decide,by decide⟩
      have KC1:Hid (CB w1 (w.heap.size+1) vr vt'):=hc1';have KS1:Hid (SL (w.heap.size+2) w1 vr L):=own_frmT KS.out hf1 (fun k hk=>(hap k hk).imp id (fun ⟨a,b,c,d,e⟩=>⟨a,b,c,d,e.1⟩));have KL1:Hid (RL (w.heap.size+2) w1 vt' (R++[rv])):=hl1';have KP1:Hid (Reps (w.heap.size+2) w1 (R++[rv]) (C++[x])):=(KP.out.frm hf1 hap).snoc ((hrep x hR).base hz);clear hf1 hc1' hl1' hrep hR KC KR KS KL KP KF;simp only[Option.isSome_some];go_wp2;go_roundg (gk-1)
      case measure=>omega
      case rel =>
       refine ⟨ln+1,ii+1,ii+1,L,vr,vt',C++[x],R++[rv],by omega,by omega,by omega,by omega,by go_num,by go_num,by go_num,KC1.out,KR1.out,KS1.out,KL1.out,KP1.out,by simp;omega,?_,KF1.out,hz1⟩;have he:(t.take (ii+1)).drop (ii+1)=[]:=List.drop_eq_nil_of_le (by rw[List.length_take];omega);rw[Hg2.out,he]
  ·have hc1:((c.toNat:Int) != 10)=true:=by
    rw[bne_iff_ne];intro h;apply hc;have:c.toNat=10:=by omega
    have:c=10:=UInt8.toNat_inj.1 this;subst this;rfl
   have Hg2:Hid (rlGo (t.drop (ii+1)) ln ((t.take (ii+1)).drop st) L C=cRead1 t):=by
    show _=_;rw[← KG.out,Hd.out];conv=>rhs;unfold rlGo
    rw[if_neg hc,Ht.out,List.drop_append_of_le_length (by simp;omega)]
   go_wp2;go_roundg (gk-1)
   case measure=>omega
   case rel =>
    exact ⟨ln,st,ii+1,L,vr,vt,C,R,by omega,by omega,by omega,by omega,rfl,rfl,by go_num,KC.out,KR.out,KS.out,KL.out,KP.out,hrn,Hg2.out,KF.out,hz⟩
 ·have Hg2:Hid (cRead1 t=if !((t.drop st).isEmpty)||ln==1 then .error ln else .ok (L,C)):=by
   show _=_;rw[← KG.out,List.drop_eq_nil_of_le (by omega),List.take_of_length_le (by omega)];rfl
  have d0:=KR.out.c0;have d1:=KR.out.c1;have df:=KR.out.fz
  by_cases hs:st<t.length
  ·have hs':decide ((st:Int)<(t.length:Int))=true:=decide_eq_true (by omega)
   have Hg3:Hid (cRead1 t=.error ln):=by
    show _=_;rw[Hg2.out];have:(t.drop st).isEmpty=false:=by simpa using hs
    rw[this];rfl
   go_wp2;refine bodyPost_ret (results_lines (vr:=.slice none 0 0) (vt:=.slice none 0 0) (ln:=ln) (rb:=w.heap.size) ?_ (by rfl) (by rfl)) rfl ?_
   ·exact (KR.out.set0 _).set1 _
   ·refine ⟨(KF.out.setCell (by simp) _).setCell (by simp) _,_,_,_,rfl,?_⟩
    rw[Hg3.out];exact ⟨rfl,rfl,rfl,hl1⟩
  ·have hs':decide ((st:Int)<(t.length:Int))=false:=decide_eq_false (by omega)
   have he:(t.drop st).isEmpty=true:=by simpa using hs
   by_cases hl:ln=1
   ·subst hl
    have Hg3:Hid (cRead1 t=.error 1):=by
     show _=_;rw[Hg2.out];simp
    go_wp2;refine bodyPost_ret (results_lines (vr:=.slice none 0 0) (vt:=.slice none 0 0) (ln:=1) (rb:=w.heap.size) ?_ (by rfl) (by rfl)) rfl ?_
    ·exact (KR.out.set0 _).set1 _
    ·refine ⟨(KF.out.setCell (by simp) _).setCell (by simp) _,_,_,_,rfl,?_⟩
     rw[Hg3.out];exact ⟨rfl,rfl,rfl,hl1⟩
   ·have hl':((ln:Int)==1)=false:=beq_eq_false_iff_ne.2 (by omega)
    have Hg3:Hid (cRead1 t=.ok (L,C)):=by
     show _=_;rw[Hg2.out,he];have:(ln==1)=false:=by simpa using hl
     rw[this];rfl
    have e0:=KC.out.c0;have e1:=KC.out.c1;obtain ⟨a0,n0,rfl⟩:=KS.out.shape;obtain ⟨a1,n1,rfl⟩:=own_shape KL.out;go_wp2;refine bodyPost_ret (results_lines (vr:=.slice a0 L.length n0) (vt:=.slice a1 R.length n1) (ln:=0) (rb:=w.heap.size) ?_ (by rfl) (by rfl)) rfl ?_
    ·exact (KR.out.set0 _).set1 _
    ·have F:Frm [w.heap.size] wr ((wr.setCell ⟨w.heap.size,0,none⟩ (.slice a0 L.length n0)).setCell ⟨w.heap.size,1,none⟩ (.slice a1 R.length n1)):=((Frm.refl _ _).setCell (by simp) _).setCell (by simp) _
     refine ⟨(KF.out.setCell (by simp) _).setCell (by simp) _,_,_,_,rfl,?_⟩;rw[Hg3.out];exact ⟨rfl,(KS.out.frm F (by simp)).base (by omega),R,own_base (KL.out.frm F (by simp)) (by omega),(KP.out.frm F (by intro k hk;simp at hk;exact Or.inl (by omega))).base (by omega),by omega⟩
end Go.Proofs.YtpcbbbilmpobaaaGreatDoor
