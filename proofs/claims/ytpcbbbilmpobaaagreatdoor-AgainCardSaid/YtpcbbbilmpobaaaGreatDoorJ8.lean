import Derived.Test.YtpcbbbilmpobaaaGreatDoorJ7
import Derived.Lib.AppendStr
import Derived.Lib.SlBytesConst
set_option linter.unusedVariables false
set_option linter.unusedSimpArgs false
set_option linter.unnecessarySimpa false
set_option maxRecDepth 100000
set_option maxHeartbeats 4000000
namespace Go.Proofs.YtpcbbbilmpobaaaGreatDoor
open Go.RowKit
def pI0:PT InM:=fun s=>(pN 1 0 3 s).bind fun o=>(pN 1 0 256 o.2).bind fun x=>(pN 2 0 65536 x.2).bind fun a=>(pN 2 0 65536 a.2).bind fun b=>some (⟨o.1,x.1,a.1,b.1⟩,b.2)
theorem pI_eq(nr nt n i:Nat)(s:List UInt8):pI nr nt n i s=(pI0 s).bind fun x=>if stands nr nt n i x.1=true then some x else none:=by
 unfold pI pI0;cases pN 1 0 3 s with
 | none=>rfl
 | some o =>
   simp only[Option.bind_some];cases pN 1 0 256 o.2 with
   | none=>rfl
   | some x =>
     simp only[Option.bind_some];cases pN 2 0 65536 x.2 with
     | none=>rfl
     | some a =>
       simp only[Option.bind_some];cases pN 2 0 65536 a.2 with
       | none=>rfl
       | some b=>rfl
abbrev IZ(w:World)(rb:Nat):Prop:=w.heap[rb]?=some (.cells #[.int .i64 0, .int .i64 0, .int .i64 0, .int .i64 0] 102 (0,0))
def InsQ(w:World)(b:Nat)(t:List UInt8)(i:Nat)(V:V6)(e:Ending)(w':World):Prop :=
 ∃ (i':Nat) (ok:Bool) (x:InM),e=.returned (.tuple #[.agg (icell x), .bool ok])∧LD w' b t i' V∧Frm [b] w w'∧PO ok pI0 (t.drop i) x (t.drop i')∧x.op<16777216∧x.x<16777216∧x.a<16777216∧x.b<16777216
theorem takeInstruction_any(b:Nat)(t:List UInt8)(i:Nat)(V:V6)(w:World)(h:LD w b t i V) :
 Calls Tryz.prog 60 #[.pointer (some ⟨b,0,none⟩)] w (InsQ w b t i V):=by
 have F0:=hide ((Frm.refl [b] w).alloc (Obj.cells #[.int .i64 0, .int .i64 0, .int .i64 0, .int .i64 0] 102));have R0:Hid (IZ (w.alloc (Obj.cells #[.int .i64 0, .int .i64 0, .int .i64 0, .int .i64 0] 102)) w.heap.size):=heap1 _ _;have N1:=hide (ltakeNumber_any b t i V 1 0 3 1 0 2 _ (h.frm (S:=[]) ((Frm.refl [] w).alloc (Obj.cells #[.int .i64 0, .int .i64 0, .int .i64 0, .int .i64 0] 102)) (by simp)) (by omega) (by omega) (by omega) rfl rfl rfl);have hb:=h.lt;clear h;go_enter Tryz.func60,Tryz.ntmps60
 go_wp2_with fail
 refine (N1.out).mono ?_;rintro e w1 ⟨i1,n1,ok1,rfl,hL1,hF1,hP1,hv1⟩;have N2:=hide (ltakeNumber_any b t i1 V 1 0 256 1 0 255 w1 hL1 (by omega) (by omega) (by omega) rfl rfl rfl);have F1:=hide (F0.out.trans hF1);have hz1:=hF1.size;simp at hz1;have R1:Hid (IZ w1 w.heap.size):=(hF1.block w.heap.size (by simp) (by simp;omega)).trans R0.out;have P1:=hide hP1;clear hL1 hF1 hP1 N1 F0 R0;go_wp2_with fail
 refine (N2.out).mono ?_;rintro e w2 ⟨i2,n2,ok2,rfl,hL2,hF2,hP2,hv2⟩;have N3:=hide (ltakeNumber_any b t i2 V 2 0 65536 2 0 65535 w2 hL2 (by omega) (by omega) (by omega) rfl rfl rfl);have F2:=hide (F1.out.trans hF2);have hz2:=hF2.size;have R2:Hid (IZ w2 w.heap.size):=(hF2.block w.heap.size (by omega) (by simp;omega)).trans R1.out;have P2:=hide hP2;clear hL2 hF2 hP2 N2 F1 R1;go_wp2_with fail
 refine (N3.out).mono ?_;rintro e w3 ⟨i3,n3,ok3,rfl,hL3,hF3,hP3,hv3⟩;have N4:=hide (ltakeNumber_any b t i3 V 2 0 65536 2 0 65535 w3 hL3 (by omega) (by omega) (by omega) rfl rfl rfl);have F3:=hide (F2.out.trans hF3);have hz3:=hF3.size;have R3:Hid (IZ w3 w.heap.size):=(hF3.block w.heap.size (by omega) (by simp;omega)).trans R2.out;have P3:=hide hP3;clear hL3 hF3 hP3 N3 F2 R2;go_wp2_with fail
 refine (N4.out).mono ?_;rintro e w4 ⟨i4,n4,ok4,rfl,hL4,hF4,hP4,hv4⟩;have L4:=hide hL4;have F4:=hide (F3.out.trans hF4);have hz4:=hF4.size;have R4:Hid (IZ w4 w.heap.size):=(hF4.block w.heap.size (by omega) (by simp;omega)).trans R3.out;have HP:Hid (PO (ok1&&ok2&&ok3&&ok4) pI0 (t.drop i) ⟨n1,n2,n3,n4⟩ (t.drop i4)):=by
  show PO _ _ _ _ _;unfold PO pI0;rcases P1.out with ⟨e1,h1⟩|⟨e1,h1⟩
  ·rw[h1]
   simp only[Option.bind_some];rcases P2.out with ⟨e2,h2⟩|⟨e2,h2⟩
   ·rw[h2]
    simp only[Option.bind_some];rcases P3.out with ⟨e3,h3⟩|⟨e3,h3⟩
    ·rw[h3]
     simp only[Option.bind_some];rcases hP4 with ⟨e4,h4⟩|⟨e4,h4⟩
     ·rw[h4,e1,e2,e3,e4];left;exact ⟨rfl,rfl⟩
     ·rw[h4,e1,e2,e3,e4];right;exact ⟨rfl,rfl⟩
    ·rw[h3,e1,e2,e3];right;exact ⟨rfl,rfl⟩
   ·rw[h2,e1,e2];right;exact ⟨rfl,rfl⟩
  ·rw[h1,e1];right;exact ⟨rfl,rfl⟩
 clear hL4 hF4 hP4 N4 F3 R3 P1 P2 P3;have dz:∀ o,w4.frozen? ⟨w.heap.size,o,none⟩=false:=fun o=>by simp[World.frozen?,R4.out]
 have d0:w4.cell? ⟨w.heap.size,0,none⟩=some (.int .i64 0):=by simp[World.cell?,R4.out]
 have d1:w4.cell? ⟨w.heap.size,1,none⟩=some (.int .i64 0):=by simp[World.cell?,R4.out]
 have d2:w4.cell? ⟨w.heap.size,2,none⟩=some (.int .i64 0):=by simp[World.cell?,R4.out]
 have d3:w4.cell? ⟨w.heap.size,3,none⟩=some (.int .i64 0):=by simp[World.cell?,R4.out]
 have hw4:w.heap.size<w4.heap.size:=by omega
 cases ok1<;>cases ok2<;>cases ok3
 all_goals
  go_wp2;refine bodyPost_ret (results_cell_tmpA rfl _ _ w.heap.size (icell ⟨n1,n2,n3,n4⟩) rfl (loadIns ((((Frm.refl [] _).alloc _).block w.heap.size (by simp[World.setCell];omega) (by simp)).trans (set4_row _ _ _ _ R4.out)) rfl)) rfl ?_;exact ⟨i4,_,⟨n1,n2,n3,n4⟩,rfl,(L4.out.frm (set4_frm _ _ _ _ _ _) (by simp;omega)).frm ((Frm.refl [] _).alloc _) (by simp),(F4.out.over (set4_frm _ _ _ _ _ _) (by simp)).alloc _,HP.out,hv1,hv2,hv3,hv4⟩
def yc(L:List UInt8):List (List Value):=L.map fun c=>[.int .u8 c.toNat]
theorem yc_len(L:List UInt8):(yc L).length=L.length:=by simp[yc]
theorem yc_snoc(L:List UInt8)(c:UInt8):yc L++[[.int .u8 c.toNat]]=yc (L++[c]):=by simp[yc]
theorem yc_flat(L:List UInt8):(yc L).flatten=byt L:=by
 induction L with
 | nil=>rfl
 | cons c L ih=>simp only[yc,byt,List.map_cons,List.flatten_cons]at ih ⊢;rw[ih];rfl
def YB(base:Nat)(w:World)(v:Value)(L:List UInt8):Prop :=
 OW 5 1 base w v (yc L)∨(∃ g,v=.slice (some ⟨g,0,none⟩) 3 3∧base≤g∧L=markL∧w.heap[g]?=some (.cells #[.int .u8 79, .int .u8 66, .int .u8 49] 5 (3,4)))
structure KP(base sb:Nat)(w w':World):Prop where
 os:w'.os=w.os
 tape:w'.tape=w.tape
 output:w'.output=w.output
 size:w.heap.size≤w'.heap.size
 block:∀ k,k<w.heap.size→k≠sb→(k<base∨∀ cur fz,w.heap[k]?≠some (.cells cur 5 fz))→w'.heap[k]?=w.heap[k]?
theorem KP.refl(base sb:Nat)(w:World):KP base sb w w:=⟨rfl,rfl,rfl,Nat.le_refl _,fun _ _ _ _=>rfl⟩
theorem KP.trans{base sb:Nat}{a b c:World}(h:KP base sb a b)(k:KP base sb b c):KP base sb a c:=by
 refine ⟨k.os.trans h.os,k.tape.trans h.tape,k.output.trans h.output,Nat.le_trans h.size k.size,fun i hi hs hc=>?_⟩;have e:=h.block i hi hs hc;rw[k.block i (Nat.lt_of_lt_of_le hi h.size) hs (hc.imp id (fun h2 cur fz=>by rw[e];exact h2 cur fz))];exact e
theorem KP.of_frm{base sb:Nat}{w w':World}(f:Frm [sb] w w'):KP base sb w w':=⟨f.os,f.tape,f.output,f.size,fun k hk hs _=>f.block k hk (by simpa using hs)⟩
theorem YB.u8{base:Nat}{w:World}{v:Value}{L:List UInt8}(h:YB base w v L){r:Nat}(hr:v.ownBlock=some r):base≤r∧∃ cur fz,w.heap[r]?=some (.cells cur 5 fz):=by
 rcases h with h|⟨g,rfl,hb,_,hg⟩
 ·refine ⟨(h.lt hr).1,?_⟩
  rcases h.1.2 with ⟨rfl,_⟩|⟨g,cap,cur,rfl,_,hgg,_⟩
  ·simp[Value.ownBlock]at hr
  ·simp[Value.ownBlock]at hr
   subst hr;exact ⟨cur,_,hgg⟩
 ·simp[Value.ownBlock]at hr
  subst hr;exact ⟨hb,_,_,hg⟩
theorem KP.grown{base sb:Nat}{w w':World}{v:Value}{L:List UInt8}(h:YB base w v L)(hg:w.grownBy w' v.ownBlock):KP base sb w w':=by
 refine ⟨hg.os,hg.tape,hg.output,hg.size,fun k hk _ hc=>hg.block k hk (fun e=>?_)⟩;obtain ⟨h1,cur,fz,h2⟩:=h.u8 e.symm;rcases hc with hc|hc
 ·omega
 ·exact hc cur fz h2
def SAV(base:Nat)(w:World)(sb:Nat)(v:Value)(L:List UInt8):Prop:=w.heap[sb]?=some (.cells #[v] 86 (0,0))∧base≤sb∧YB base w v L
theorem SAV.c0{base:Nat}{w:World}{sb:Nat}{v:Value}{L:List UInt8}(h:SAV base w sb v L):w.cell? ⟨sb,0,none⟩=some v:=by simp[World.cell?,h.1]
theorem SAV.fz{base:Nat}{w:World}{sb:Nat}{v:Value}{L:List UInt8}(h:SAV base w sb v L)(o:Nat):w.frozen? ⟨sb,o,none⟩=false:=by simp[World.frozen?,h.1]
theorem SAV.lt{base:Nat}{w:World}{sb:Nat}{v:Value}{L:List UInt8}(h:SAV base w sb v L):sb<w.heap.size:=(Array.getElem?_eq_some_iff.1 h.1).1
theorem YB.alloc{base:Nat}{w:World}{v:Value}{L:List UInt8}(h:YB base w v L)(o:Obj):YB base (w.alloc o) v L:=by
 rcases h with h|⟨g,h1,h2,h3,h4⟩
 ·exact .inl (h.frm (S:=[]) ((Frm.refl [] _).alloc _) (by simp))
 ·exact .inr ⟨g,h1,h2,h3,(((Frm.refl [] w).alloc o).block g (Array.getElem?_eq_some_iff.1 h4).1 (by simp)).trans h4⟩
theorem YB.shape{base:Nat}{w:World}{v:Value}{L:List UInt8}(h:YB base w v L):∃ a c,v=.slice a L.length c:=by
 rcases h with h|⟨g,h1,h2,h3,h4⟩
 ·obtain ⟨a,c,e⟩:=h.shape;rw[yc_len]at e;exact ⟨a,c,e⟩
 ·exact ⟨_,3,by rw[h1,h3];rfl⟩
theorem wp_appY{ops:Array Oper}{rest:List Oper}{o:Oper}{a:Act}{Q:Exit→Act→World→Prop}(w:World)(hgd:o.guard=none)(s x:Operand)
 (ho:o.op=.call { callee:=.builtin .append,args:=#[s,x],argTypes:=#[84,84] })
 (base:Nat) (v:Value) (L:List UInt8) (b1:Nat) (y:UInt8) (hs:a.eval s=v) (hown:YB base w v L) (hx:a.eval x=.slice (some ⟨b1,0,none⟩) 1 1)
 (hc:w.cell? ⟨b1,0,none⟩=some (.int .u8 y.toNat)) (hlen:L.length≤1000000000) (hbase:base≤w.heap.size)
 (h:∀ g cap w',OW 5 1 base w' (.slice (some ⟨g,0,none⟩) (L.length+1) cap) (yc (L++[y]))→w.grownBy w' v.ownBlock→wpList Tryz.prog ops Q rest (a.put o.dst (.slice (some ⟨g,0,none⟩) (L.length+1) cap)) w') :
 wpList Tryz.prog ops Q (o::rest) a w:=by
 have hl:=yc_len L;have hcc:∀ j u,([.int .u8 y.toNat]:List Value)[j]?=some u→w.cell? ⟨b1,j,none⟩=some u:=by
  intro j u hj;cases j with
  | zero=>simp only[List.getElem?_cons_zero,Option.some.injEq]at hj;rw[← hj];exact hc
  | succ j=>simp at hj
 rcases hown with hown|⟨g,rfl,hb,rfl,hg⟩
 ·refine wp_appG w hgd s x 84 5 (.int .u8 0) 1 1 infoU8 Tryz.underlying84 rfl (by decide) ho base v (yc L) b1 [.int .u8 y.toNat] hs hown hx rfl hcc ?_ (by omega) (by omega) hbase ?_
  ·intro u hu
   simp only[List.mem_singleton]at hu;subst hu;rfl
  ·rw[hl,yc_snoc]
   intro g cap w' h1 h2 _ _;exact h g cap w' h1 h2
 ·obtain ⟨i0,hi,hz0,hz1,hz2⟩:=info_parts2 infoU8
  refine wpList_append_grows w hgd s x 84 ho 5 i0 _ 1 1 Tryz.underlying84 hi hz0 hz1 hz2 rfl (by decide) (some ⟨g,0,none⟩) 3 3 [.int .u8 79, .int .u8 66, .int .u8 49] hs (fun e=>by cases e) rfl ?_ ⟨b1,0,none⟩ 1 1 [.int .u8 y.toNat] hx rfl (fun j u hj=>by rw[add0];exact hcc j u hj) ?_ (by omega) (by unfold maxLen;omega) (by omega) ?_
  ·intro b e j u hj
   cases e
   rw[add0,cell_of_row w g j _ _ _ hg];simpa using hj
  ·intro u hu
   simp only[List.mem_singleton]at hu;subst hu;rfl
  ·intro v' w' h1 h2
   obtain ⟨g2,cap,e,_,_⟩:=h1.form (by omega);subst e;have ho2:OW 5 1 base w' (.slice (some ⟨g2,0,none⟩) (3+1) cap) (yc (markL++[y])):=by
    refine (OW.base (base:=w.heap.size) ⟨?_,?_⟩ hbase)
    ·have:(yc (markL++[y])).flatten=[.int .u8 79, .int .u8 66, .int .u8 49]++[.int .u8 y.toNat]:=rfl
     rw[this,yc_len];exact h1
    ·intro z hz
     unfold yc at hz;obtain ⟨c,_,rfl⟩:=List.mem_map.1 hz
     rfl
   refine h g2 cap w' ho2 ⟨h2.os,h2.tape,h2.output,h2.size,fun k hk _=>h2.block k hk (by simp)⟩
def AD(base:Nat)(w:World)(sb:Nat)(L x:List UInt8)(w':World):Prop:=∃ v',SAV base w' sb v' (L++x)∧KP base sb w w'∧OW 5 1 base w' v' (yc (L++x))
theorem YB.ne{base:Nat}{w:World}{v:Value}{L:List UInt8}(h:YB base w v L){sb:Nat}{u:Value}(hs:w.heap[sb]?=some (.cells #[u] 86 (0,0))):v.ownBlock≠some sb:=by
 intro e;obtain ⟨_,cur,fz,h2⟩:=h.u8 e;rw[hs]at h2;simp at h2
theorem addNumber_any:∀ (k:Nat) (base sb:Nat) (v:Value) (L:List UInt8) (n:Nat) (sz:Int) (w:World),1≤k→k≤3→sz=(k:Int)→SAV base w sb v L→L.length≤900000000→base≤w.heap.size→n<16777216 →
 Calls Tryz.prog 29 #[.pointer (some ⟨sb,0,none⟩), .int .i64 sz, .int .i64 (n:Nat)] w fun e w'=>e=.returned (.tuple #[])∧AD base w sb L (nb k n) w':=by
 intro k
 induction k with
 | zero=>intro base sb v L n sz w h1;omega
 | succ k ih =>
   intro base sb v L n sz w h1 h3 hsz hs hL hb hn;subst hsz;have hx:(UInt8.ofNat (n % 256)).toNat=n % 256:=by rw[UInt8.toNat_ofNat'];exact Nat.mod_eq_of_lt (Nat.mod_lt _ (by omega))
   by_cases hk:k=0
   ·subst hk
    have S:=hide hs;obtain ⟨a,c,rfl⟩:=hs.2.2.shape;have c0:=hs.c0;have z:=hs.fz 0;have hsb:=hs.lt;have hbs:=hs.2.1;have YBB:=hide hs.2.2;clear hs ih;go_enter Tryz.func29,Tryz.ntmps29
    have hcell:∀ o,o=Obj.cells #[Value.int .u8 ((n:Int) % 256)] 5→(w.alloc o).cell? ⟨w.heap.size,0,none⟩=some (.int .u8 ((UInt8.ofNat (n % 256)).toNat:Nat)):=by
     intro o ho;subst ho;rw[hx];simp
    go_wp2_with (first | (at_builtin;refine wp_appY _ rfl _ _ rfl base (.slice a L.length c) L w.heap.size (UInt8.ofNat (n % 256)) rfl (YBB.out.alloc _) rfl (hcell _ rfl) (by omega) (by simp;omega) ?_;intro g2 cap2 w6 hs6 hg6;have O6:=hide hs6;have G6:=hide hg6;have c6:=(hg6.cell_far ⟨sb,0,none⟩ (by simp;omega) (fun e=>YBB.out.ne S.out.1 e.symm));have f6:=(hg6.frozen_far ⟨sb,0,none⟩ (by simp;omega) (fun e=>YBB.out.ne S.out.1 e.symm));clear hs6 hg6))
    go_end0
    have h6:w6.heap[sb]?=some (.cells #[.slice a L.length c] 86 (0,0)):=(G6.out.block sb (by simp;omega) (fun e=>YBB.out.ne S.out.1 e.symm)).trans ((((Frm.refl [] w).alloc _).block sb hsb (by simp)).trans S.out.1);have FS:∀ u,Frm [sb] w6 (w6.setCell ⟨sb,0,none⟩ u):=fun u=>(Frm.refl [sb] w6).setCell (p:=⟨sb,0,none⟩) (.inl (by simp)) u
    have O7:∀ u,OW 5 1 base (w6.setCell ⟨sb,0,none⟩ u) (.slice (some ⟨g2,0,none⟩) (L.length+1) cap2) (yc (L++[UInt8.ofNat (n % 256)])):=fun u=>O6.out.keep (FS u) (fun r hr hm=>by simp at hm;subst hm;exact YB.ne (.inl O6.out) h6 hr)
    have K7:∀ u,KP base sb w (w6.setCell ⟨sb,0,none⟩ u):=fun u=>((KP.of_frm (((Frm.refl [sb] w).alloc _))).trans (KP.grown (YBB.out.alloc _) G6.out)).trans (KP.of_frm (FS u))
    refine ⟨rfl, .slice (some ⟨g2,0,none⟩) (L.length+1) cap2,⟨?_,hbs, .inl (O7 _)⟩,K7 _,O7 _⟩;simp[World.setCell,Array.getElem?_modify,h6]
   ·have hcast:((k:Int)+1)-1=(k:Int):=by omega
    have hd1:decide ((1:Int)<(k:Int)+1)=true:=decide_eq_true (by omega);have hcast2:(((k+1:Nat):Int))=(k:Int)+1:=by omega
    have hdv:((n / 256:Nat):Int)=(n:Int) / 256:=by omega
    have N1:=hide (ih base sb v L (n / 256) (k:Int) w (by omega) (by omega) rfl hs hL hb (by omega));rw[hdv]at N1;clear hs ih;go_enter Tryz.func29,Tryz.ntmps29
    go_wp2_with fail
    refine (N1.out).mono ?_;rintro e w1 ⟨rfl,v1,hS1,hK1,hO1⟩;have S:=hide hS1;have K1:=hide hK1;have hz1:=hK1.size;obtain ⟨a,c,rfl⟩:=hS1.2.2.shape;have c0:=hS1.c0;have z:=hS1.fz 0;have hsb:=hS1.lt;have hbs:=hS1.2.1;have YBB:=hide hS1.2.2;have hLL:(L++nb k (n / 256)).length≤900000010:=by rw[List.length_append,nb_len];omega
    have HN:Hid (nb (k+1) n=nb k (n / 256)++[UInt8.ofNat (n % 256)]):=rfl;generalize hLLe:L++nb k (n / 256)=LL at *;have HLL:=hide hLLe;clear hS1 hK1 hO1 N1 hLLe;have hcell:∀ o,o=Obj.cells #[Value.int .u8 ((n:Int) % 256)] 5→(w1.alloc o).cell? ⟨w1.heap.size,0,none⟩=some (.int .u8 ((UInt8.ofNat (n % 256)).toNat:Nat)):=by
     intro o ho;subst ho;rw[hx];simp
    go_wp2_with (first | (at_builtin;refine wp_appY _ rfl _ _ rfl base (.slice a LL.length c) LL w1.heap.size (UInt8.ofNat (n % 256)) rfl (YBB.out.alloc _) rfl (hcell _ rfl) (by omega) (by simp;omega) ?_;intro g2 cap2 w6 hs6 hg6;have O6:=hide hs6;have G6:=hide hg6;have c6:=(hg6.cell_far ⟨sb,0,none⟩ (by simp;omega) (fun e=>YBB.out.ne S.out.1 e.symm));have f6:=(hg6.frozen_far ⟨sb,0,none⟩ (by simp;omega) (fun e=>YBB.out.ne S.out.1 e.symm));clear hs6 hg6))
    go_end0
    have h6:w6.heap[sb]?=some (.cells #[.slice a LL.length c] 86 (0,0)):=(G6.out.block sb (by simp;omega) (fun e=>YBB.out.ne S.out.1 e.symm)).trans ((((Frm.refl [] w1).alloc _).block sb hsb (by simp)).trans S.out.1);have FS:∀ u,Frm [sb] w6 (w6.setCell ⟨sb,0,none⟩ u):=fun u=>(Frm.refl [sb] w6).setCell (p:=⟨sb,0,none⟩) (.inl (by simp)) u
    have O7:∀ u,OW 5 1 base (w6.setCell ⟨sb,0,none⟩ u) (.slice (some ⟨g2,0,none⟩) (LL.length+1) cap2) (yc (LL++[UInt8.ofNat (n % 256)])):=fun u=>O6.out.keep (FS u) (fun r hr hm=>by simp at hm;subst hm;exact YB.ne (.inl O6.out) h6 hr)
    have K7:∀ u,KP base sb w1 (w6.setCell ⟨sb,0,none⟩ u):=fun u=>((KP.of_frm (((Frm.refl [sb] w1).alloc _))).trans (KP.grown (YBB.out.alloc _) G6.out)).trans (KP.of_frm (FS u))
    have e:L++nb (k+1) n=LL++[UInt8.ofNat (n % 256)]:=by rw[HN.out,← List.append_assoc,HLL.out]
    refine ⟨rfl, .slice (some ⟨g2,0,none⟩) (LL.length+1) cap2,⟨?_,hbs, .inl ?_⟩,K1.out.trans (K7 _),?_⟩
    ·simp[World.setCell,Array.getElem?_modify,h6]
    ·rw[e];exact O7 _
    ·rw[e];exact O7 _
theorem KP.frm{W0 w w':World}{sb:Nat}(k:KP W0.heap.size sb w w')(f:Frm [] W0 w)(h:W0.heap.size≤sb):Frm [] W0 w' :=
 ⟨k.os.trans f.os,k.tape.trans f.tape,k.output.trans f.output,Nat.le_trans f.size k.size,fun i hi _=>(k.block i (Nat.lt_of_lt_of_le hi f.size) (by omega) (.inl hi)).trans (f.block i hi (by simp))⟩
theorem str_cells(x:List UInt8):Lib.strCells (bs x)=byt x:=by simp[Lib.strCells,byt,bs]
theorem byt_append(a b:List UInt8):byt (a++b)=byt a++byt b:=by simp[byt]
theorem yc_one(L:List UInt8):∀ z∈yc L,z.length=1:=by
 intro z hz;unfold yc at hz;obtain ⟨c,_,rfl⟩:=List.mem_map.1 hz
 rfl
theorem addText_any(base sb:Nat)(v:Value)(L x:List UInt8)(w:World)(hs:SAV base w sb v L)(hL:L.length≤800000000)(hb:base≤w.heap.size)(hx:x.length≤1048576) :
 Calls Tryz.prog 53 #[.pointer (some ⟨sb,0,none⟩), .string (bs x)] w fun e w'=>e=.returned (.tuple #[])∧AD base w sb L (eT x) w':=by
 have N1:=hide (addNumber_any 1 base sb v L x.length 1 w (by omega) (by omega) rfl hs (by omega) hb (by omega));have hsz:=bs_size x;clear hs;go_enter Tryz.func53,Tryz.ntmps53
 go_wp2_with fail
 refine (N1.out).mono ?_;rintro e w1 ⟨rfl,v1,hS1,hK1,hO1⟩;have S:=hide hS1;have K1:=hide hK1;have O1:=hide hO1;have hz1:=hK1.size;obtain ⟨a,c,rfl⟩:=hS1.2.2.shape;have c0:=hS1.c0;have z:=hS1.fz 0;have hsb:=hS1.lt;have hbs:=hS1.2.1;have YBB:=hide hS1.2.2;have hLL:(L++nb 1 x.length).length≤800000010:=by rw[List.length_append,nb_len];omega
 generalize hLLe:L++nb 1 x.length=LL at *;have HLL:=hide hLLe;clear hS1 hK1 hO1 N1 hLLe;obtain ⟨i0,hi,hz0,hz1',hz2⟩:=info_parts2 infoU8;have OO:Hid (w1.ownsRow base 5 1 (.slice a LL.length c) LL.length (byt LL)):=by
  have:=O1.out.1;rw[yc_len,yc_flat]at this;exact this
 go_wp2_with (first | (at_builtin;refine Lib.wpList_append_own_string _ rfl _ _ 84 9 rfl base 5 i0 Tryz.underlying84 Tryz.underlying9 hi hz0 hz1' hz2 (.slice a LL.length c) LL.length (byt LL) rfl OO.out (bs x) rfl (by rw[hsz];unfold maxLen;omega) (by rw[hsz];omega) (by omega) ?_;intro v6 w6 hs6 hg6 hv6;obtain ⟨a6,cap6,e6⟩:=own_shape hs6;subst e6;have O6:=hide hs6;have G6:=hide hg6;have c6:=(hg6.cell_far ⟨sb,0,none⟩ (by simp;omega) (fun e=>YBB.out.ne S.out.1 e.symm));have f6:=(hg6.frozen_far ⟨sb,0,none⟩ (by simp;omega) (fun e=>YBB.out.ne S.out.1 e.symm));clear hs6 hg6 hv6))
 go_end0
 have h6:w6.heap[sb]?=some (.cells #[.slice a LL.length c] 86 (0,0)):=(G6.out.block sb (by omega) (fun e=>YBB.out.ne S.out.1 e.symm)).trans S.out.1;have FS:∀ u,Frm [sb] w6 (w6.setCell ⟨sb,0,none⟩ u):=fun u=>(Frm.refl [sb] w6).setCell (p:=⟨sb,0,none⟩) (.inl (by simp)) u
 have O6':OW 5 1 base w6 (.slice a6 (LL.length+x.length) cap6) (yc (LL++x)):=by
  refine ⟨?_,yc_one _⟩;have h:=O6.out;rw[str_cells,← byt_append,hsz]at h;rw[yc_len,yc_flat,List.length_append];exact h
 have O7:∀ u,OW 5 1 base (w6.setCell ⟨sb,0,none⟩ u) (.slice a6 (LL.length+x.length) cap6) (yc (LL++x)):=fun u=>O6'.keep (FS u) (fun r hr hm=>by simp at hm;subst hm;exact YB.ne (.inl O6') h6 hr)
 have K7:∀ u,KP base sb w1 (w6.setCell ⟨sb,0,none⟩ u):=fun u=>(KP.grown YBB.out G6.out).trans (KP.of_frm (FS u))
 have e:L++eT x=LL++x:=by unfold eT;rw[← List.append_assoc,HLL.out]
 refine ⟨rfl, .slice a6 (LL.length+x.length) cap6,⟨?_,hbs, .inl ?_⟩,K1.out.trans (K7 _),?_⟩
 ·simp[World.setCell,Array.getElem?_modify,h6]
 ·rw[e];exact O7 _
 ·rw[e];exact O7 _
theorem AD.add{base:Nat}{w w1 w2:World}{sb:Nat}{L x y:List UInt8}(h:AD base w sb L x w1)(k:∀ v,SAV base w1 sb v (L++x)→AD base w1 sb (L++x) y w2):AD base w sb L (x++y) w2:=by
 obtain ⟨v,h1,h2,_⟩:=h;obtain ⟨v2,k1,k2,k3⟩:=k v h1;exact ⟨v2,by rw[← List.append_assoc];exact k1,h2.trans k2,by rw[← List.append_assoc];exact k3⟩
theorem addTexts_any(W0:World)(A:List Nat)(sb:Nat)(v tv:Value)(L:List UInt8)(xs:List (List UInt8))(w:World)(hs:SAV W0.heap.size w sb v L)(hF:Frm [] W0 w)(ht:RW A 1 W0 tv (sc xs))(hx:∀ x∈xs,x.length≤1048576)(hxs:xs.length<16777216)(hL:L.length+(eTs xs).length≤700000000) :
 Calls Tryz.prog 28 #[.pointer (some ⟨sb,0,none⟩),tv] w fun e w'=>e=.returned (.tuple #[])∧AD W0.heap.size w sb L (eTs xs) w':=by
 obtain ⟨ta,tcap,rfl,h1⟩:=ht.str;have H1:=hide h1;have HX:=hide hx;have hz0:=hF.size;have hbs:=hs.2.1;have F0:=hide hF;have N1:=hide (addNumber_any 1 W0.heap.size sb v L xs.length 1 w (by omega) (by omega) rfl hs (by omega) hF.size hxs);clear h1 ht hs hx hF;go_enter Tryz.func28,Tryz.ntmps28
 go_wp2_with fail
 refine (N1.out).mono ?_;rintro e w1 ⟨rfl,hA⟩;have A1:=hide hA;clear hA N1;go_wp2_with fail
 go_loopg [12] xs.length (fun k v12 wr=>∃ j:Nat,j+k=xs.length∧v12=.int .i64 j∧AD W0.heap.size w sb L (nb 1 xs.length++(xs.take j).flatMap eT) wr)
 case atStart=>exact ⟨0,by omega,rfl,by simpa using A1.out⟩
 case round =>
  obtain ⟨j,hjk,rfl,hA⟩:=hrel;have A2:=hide hA;clear hA
  by_cases hlt:j<xs.length
  ·have hd1:decide ((j:Int)<(xs.length:Int))=true:=decide_eq_true (by omega)
   obtain ⟨g,off,rfl,hg,hc⟩:=H1.out j hlt;obtain ⟨v2,hS2,hK2,hO2⟩:=A2.out;have F2:=hide (hK2.frm F0.out hbs);have hc2:wr.cell? ⟨g,off+j,none⟩=some (.string (bs xs[j])):=(F2.out.cell (p:=⟨g,off+j,none⟩) hg (by simp)).trans hc;have hxl:=HX.out xs[j] (List.getElem_mem hlt);have HT:Hid ((xs.take (j+1)).flatMap eT=(xs.take j).flatMap eT++eT xs[j]):=by
    show _=_;rw[List.take_succ_eq_append_getElem hlt,List.flatMap_append];simp
   have hlen:(L++(nb 1 xs.length++(xs.take j).flatMap eT)).length≤700000000:=by
    have e1:(xs.flatMap eT).length=((xs.take j).flatMap eT).length+((xs.drop j).flatMap eT).length:=by rw[← List.length_append,← List.flatMap_append,List.take_append_drop]
    simp only[eTs,List.length_append,nb_len]at hL ⊢;omega
   have N2:=hide (addText_any W0.heap.size sb v2 _ xs[j] wr hS2 (by omega) F2.out.size hxl);clear hS2 hK2 hO2 hc;generalize xs[j]=x at *;go_wp2_with fail
   refine (N2.out).mono ?_;rintro e w3 ⟨rfl,hA3⟩;have A3:Hid (AD W0.heap.size w sb L ((nb 1 xs.length++(xs.take j).flatMap eT)++eT x) w3):=A2.out.add (fun _ _=>hA3);clear hA3 N2;go_wp2_with fail
   go_roundg (gk-1)
   case measure=>omega
   case rel =>
    refine ⟨j+1,by omega,by go_num,?_⟩;rw[HT.out,← List.append_assoc];exact A3.out
  ·have hd1:decide ((j:Int)<(xs.length:Int))=false:=decide_eq_false (by omega)
   have A3:Hid (AD W0.heap.size w sb L (eTs xs) wr):=by
    have h:=A2.out;rw[List.take_of_length_le (by omega)]at h;exact h
   go_wp2;go_end0
   exact ⟨rfl,A3.out⟩
theorem eT_len(x:List UInt8):(eT x).length=x.length+1:=by unfold eT;rw[List.length_append,nb_len];omega
theorem AD.sav{base:Nat}{w w':World}{sb:Nat}{L x:List UInt8}(h:AD base w sb L x w'):∃ v,SAV base w' sb v (L++x):=by
 obtain ⟨v,h1,_⟩:=h;exact ⟨v,h1⟩
theorem AD.kp{base:Nat}{w w':World}{sb:Nat}{L x:List UInt8}(h:AD base w sb L x w'):KP base sb w w':=by
 obtain ⟨v,_,h1,_⟩:=h;exact h1
theorem KP.loc{base sb:Nat}{w w':World}(k:KP base sb w w'){lb:Nat}{cs:Array Value}{t:TypeId}(h:w.heap[lb]?=some (.cells cs t (0,0)))(ht:t≠5)(hs:lb≠sb):w'.heap[lb]?=some (.cells cs t (0,0)):=by
 rw[k.block lb (Array.getElem?_eq_some_iff.1 h).1 hs (.inr (fun cur fz e=>by rw[h]at e;simp at e;exact ht e.2.1))];exact h
theorem addHit_any(W0:World)(A:List Nat)(sb:Nat)(v:Value)(L:List UInt8)(x:HitM)(ab:Option Addr)(cb:Nat)(w:World)(hs:SAV W0.heap.size w sb v L)(hF:Frm [] W0 w)(ht:RW A 1 W0 (.slice ab x.bl.length cb) (sc x.bl))(hr:x.rc.length≤1048576)(hx:∀ y∈x.bl,y.length≤1048576)(hxs:x.bl.length<16777216)(h1:x.wt<16777216)(h2:x.ev<16777216)(h3:x.rp<16777216)(hL:L.length+(eH x).length≤600000000) :
 Calls Tryz.prog 31 #[.pointer (some ⟨sb,0,none⟩), .agg (hcell x (.slice ab x.bl.length cb))] w fun e w'=>e=.returned (.tuple #[])∧AD W0.heap.size w sb L (eH x) w':=by
 obtain ⟨rc,bl,wt,ev,rp⟩:=x;simp only[eH,List.length_append,nb_len,eT_len]at hL;simp only at ht hr hx hxs h1 h2 h3 hL;have hbs:=hs.2.1;have hsb:=hs.lt;have F0:=hide hF;have hz0:=hF.size;have T:=hide ht;have HX:=hide hx;have S0:SAV W0.heap.size (w.alloc (Obj.cells (hcell ⟨rc,bl,wt,ev,rp⟩ (.slice ab bl.length cb)) 99)) sb v L:=⟨(((Frm.refl [] w).alloc _).block sb hsb (by simp)).trans hs.1,hbs,hs.2.2.alloc _⟩;have K0:Hid (KP W0.heap.size sb w (w.alloc (Obj.cells (hcell ⟨rc,bl,wt,ev,rp⟩ (.slice ab bl.length cb)) 99))):=KP.of_frm ((Frm.refl [sb] w).alloc _);have B0:Hid ((w.alloc (Obj.cells (hcell ⟨rc,bl,wt,ev,rp⟩ (.slice ab bl.length cb)) 99)).heap[w.heap.size]?=some (.cells (hcell ⟨rc,bl,wt,ev,rp⟩ (.slice ab bl.length cb)) 99 (0,0))):=heap1 _ _;have N1:=hide (addText_any W0.heap.size sb v L rc _ S0 (by omega) (by simp;omega) hr);clear hs hF ht S0 hx;go_enter Tryz.func31,Tryz.ntmps31
 simp only[hcell]at N1 ⊢;go_wp2_with fail
 refine (N1.out).mono ?_;rintro e w1 ⟨rfl,hA1⟩;have A1:=hide hA1;have B1:=hide (hA1.kp.loc B0.out (by decide) (by omega));obtain ⟨v1,hS1⟩:=hA1.sav;have FW1:=hide ((K0.out.trans hA1.kp).frm F0.out hbs);have N2:=hide (addTexts_any W0 A sb v1 _ (L++eT rc) bl w1 hS1 FW1.out T.out HX.out hxs (by rw[List.length_append,eT_len];omega));have d0:w1.cell? ⟨w.heap.size,0,none⟩=some (.string (bs rc)):=by simp[World.cell?,B1.out,hcell]
 have d1:w1.cell? ⟨w.heap.size,1,none⟩=some (.slice ab bl.length cb):=by simp[World.cell?,B1.out,hcell]
 clear hA1 hS1 N1 B0;go_wp2_with fail
 refine (N2.out).mono ?_;rintro e w2 ⟨rfl,hA2⟩;have A2:=hide (A1.out.add (fun _ _=>hA2));have B2:=hide (hA2.kp.loc B1.out (by decide) (by omega));obtain ⟨v2,hS2⟩:=A2.out.sav;have hz2:=(A2.out.kp).size;simp at hz2;have N3:=hide (addNumber_any 3 W0.heap.size sb v2 _ wt 3 w2 (by omega) (by omega) rfl hS2 (by simp only[List.length_append,eT_len];omega) (by omega) h1);have f2:w2.cell? ⟨w.heap.size,2,none⟩=some (.int .i64 (wt:Nat)):=by simp[World.cell?,B2.out,hcell]
 clear hA2 hS2 N2 A1 B1 d0 d1;go_wp2_with fail
 refine (N3.out).mono ?_;rintro e w3 ⟨rfl,hA3⟩;have A3:=hide (A2.out.add (fun _ _=>hA3));have B3:=hide (hA3.kp.loc B2.out (by decide) (by omega));obtain ⟨v3,hS3⟩:=A3.out.sav;have hz3:=(A3.out.kp).size;simp at hz3;have N4:=hide (addNumber_any 3 W0.heap.size sb v3 _ ev 3 w3 (by omega) (by omega) rfl hS3 (by simp only[List.length_append,eT_len,nb_len];omega) (by omega) h2);have f3:w3.cell? ⟨w.heap.size,3,none⟩=some (.int .i64 (ev:Nat)):=by simp[World.cell?,B3.out,hcell]
 clear hA3 hS3 N3 A2 B2 f2;go_wp2_with fail
 refine (N4.out).mono ?_;rintro e w4 ⟨rfl,hA4⟩;have A4:=hide (A3.out.add (fun _ _=>hA4));have B4:=hide (hA4.kp.loc B3.out (by decide) (by omega));obtain ⟨v4,hS4⟩:=A4.out.sav;have hz4:=(A4.out.kp).size;simp at hz4;have N5:=hide (addNumber_any 3 W0.heap.size sb v4 _ rp 3 w4 (by omega) (by omega) rfl hS4 (by simp only[List.length_append,eT_len,nb_len];omega) (by omega) h3);have f4:w4.cell? ⟨w.heap.size,4,none⟩=some (.int .i64 (rp:Nat)):=by simp[World.cell?,B4.out,hcell]
 clear hA4 hS4 N4 A3 B3 f3;go_wp2_with fail
 refine (N5.out).mono ?_;rintro e w5 ⟨rfl,hA5⟩;have A5:=hide (A4.out.add (fun _ _=>hA5));clear hA5 N5;go_wp2;go_end0
 refine ⟨rfl,?_⟩;obtain ⟨v5,k1,k2,k3⟩:=A5.out;have e:eH ⟨rc,bl,wt,ev,rp⟩=eT rc++eTs bl++nb 3 wt++nb 3 ev++nb 3 rp:=by simp[eH,List.append_assoc]
 rw[← e]at k1 k3;exact ⟨v5,k1,K0.out.trans k2,k3⟩
end Go.Proofs.YtpcbbbilmpobaaaGreatDoor
