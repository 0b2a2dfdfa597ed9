import Derived.Test.YtpcbbbilmpobaaaGreatDoorJ34
import Derived.Test.YtpcbbbilmpobaaaGreatDoorJ29
set_option linter.unusedVariables false
set_option linter.unusedSimpArgs false
set_option linter.unnecessarySimpa false
set_option maxRecDepth 100000
set_option maxHeartbeats 2000000
namespace Go.Proofs.YtpcbbbilmpobaaaGreatDoor
open Go.RowKit
structure FV where
 kd:Nat
 s:Nat
 fi:Nat
 se:Nat
 vp:Value
 te:Bool
 lk:Nat
 ak:Nat
 lf:Nat
def FV.cells(f:FV):Array Value:=#[.int .i64 f.kd, .int .u64 (wd f.s 0), .int .u64 (wd f.s 1), .int .u64 (wd f.s 2), .int .u64 (wd f.s 3), .int .i64 f.fi, .int .i64 f.se,f.vp, .bool f.te, .int .i64 f.lk, .int .i64 f.ak, .int .i64 f.lf]
def hashW(h:Int)(x:Nat):Int:=mixZ (mixZ h ((x:Int) % 4294967296)) ((x:Int) / 4294967296)
def hashP(h:Int)(L:List Nat):Int:=L.foldl (fun (h:Int) (n:Nat)=>mixZ h ((n:Int) % 4294967296)) h
def hashI(kd fi se:Nat)(W:List Nat):Int:=W.foldl hashW (mixZ (mixZ ((kd:Int) % 4294967296) ((fi:Int) % 4294967296)) ((se:Int) % 4294967296))
def ws(s:Nat):List Nat:=[wd s 0,wd s 1,wd s 2,wd s 3]
def hashF(kd s fi se:Nat)(L:List Nat):Int:=hashP (hashI kd fi se (ws s)) L
theorem idx0(a b c d:Int)(w:World):(Instr.index 195 (.agg #[.int .u64 a, .int .u64 b, .int .u64 c, .int .u64 d]) (.int .i64 0)).run Tryz.prog w=.ok (.int .u64 a) w:=by
 simp[Instr.index,go_sem,Tryz.underlying195]
theorem idx1(a b c d:Int)(w:World):(Instr.index 195 (.agg #[.int .u64 a, .int .u64 b, .int .u64 c, .int .u64 d]) (.int .i64 1)).run Tryz.prog w=.ok (.int .u64 b) w:=by
 simp[Instr.index,go_sem,Tryz.underlying195]
theorem idx2(a b c d:Int)(w:World):(Instr.index 195 (.agg #[.int .u64 a, .int .u64 b, .int .u64 c, .int .u64 d]) (.int .i64 2)).run Tryz.prog w=.ok (.int .u64 c) w:=by
 simp[Instr.index,go_sem,Tryz.underlying195]
theorem idx3(a b c d:Int)(w:World):(Instr.index 195 (.agg #[.int .u64 a, .int .u64 b, .int .u64 c, .int .u64 d]) (.int .i64 3)).run Tryz.prog w=.ok (.int .u64 d) w:=by
 simp[Instr.index,go_sem,Tryz.underlying195]
theorem hash_any(f:FV)(L:List Nat)(w:World)(hv:NL .i64 w f.vp L)(hL:L.length≤10000000000000) :
 Calls Tryz.prog 152 #[.agg f.cells] w fun e w'=>e=.returned (.int .u32 (Go.bits BinOp.xor IntKind.u32 (hashF f.kd f.s f.fi f.se L) (hashF f.kd f.s f.fi f.se L / 2 ^ 16)))∧Frm [] w w':=by
 obtain ⟨kd,s,fi,se,vp,te,lk,ak,lf⟩:=f;simp only at hv ⊢;obtain ⟨a,cap,rfl,h1⟩:=hv;have hun:FV.cells ⟨kd,s,fi,se, .slice a L.length cap,te,lk,ak,lf⟩=#[.int .i64 kd, .int .u64 (wd s 0), .int .u64 (wd s 1), .int .u64 (wd s 2), .int .u64 (wd s 3), .int .i64 fi, .int .i64 se, .slice a L.length cap, .bool te, .int .i64 lk, .int .i64 ak, .int .i64 lf]:=rfl;rw[hun];clear hun;have H1:=hide h1;have HM:=hide mixed_any;have HF:Hid (hashF kd s fi se L=hashP (hashI kd fi se [wd s 0,wd s 1,wd s 2,wd s 3]) L):=rfl;have b0:=wd_lt s 0;have b1:=wd_lt s 1;have b2:=wd_lt s 2;have b3:=wd_lt s 3;clear h1;generalize wd s 0=w0 at *;generalize wd s 1=w1 at *;generalize wd s 2=w2 at *;generalize wd s 3=w3 at *;go_enter Tryz.func152,Tryz.ntmps152
 go_wp2_with (go_at_call 166;refine (HM.out _ _ _).mono ?_;rintro e w' ⟨rfl,rfl⟩)
 go_loopg [3,22] 4 (fun k vh vi wr=>∃ i:Nat,i+k=4∧vi=.int .i64 i∧vh=.int .u32 (hashI kd fi se ([w0,w1,w2,w3].take i))∧wr=w.alloc (.cells #[.int .i64 kd, .int .u64 w0, .int .u64 w1, .int .u64 w2, .int .u64 w3, .int .i64 fi, .int .i64 se, .slice a L.length cap, .bool te, .int .i64 lk, .int .i64 ak, .int .i64 lf] 206))
 case atStart=>exact ⟨0,by omega,rfl,rfl,rfl⟩
 case round =>
  obtain ⟨i,hi,rfl,rfl,hw⟩:=hrel;have q7:wr.cell? ⟨w.heap.size,7,none⟩=some (.slice a L.length cap):=by rw[hw];have:=heap1 w (.cells #[.int .i64 kd, .int .u64 w0, .int .u64 w1, .int .u64 w2, .int .u64 w3, .int .i64 fi, .int .i64 se, .slice a L.length cap, .bool te, .int .i64 lk, .int .i64 ak, .int .i64 lf] 206);simp only[World.cell?,this];rfl
  have FR:Hid (Frm [] w wr):=by show Frm [] w wr;rw[hw];exact (Frm.refl _ _).alloc _
  have HW:=hide hw;clear hw;rcases (by omega:i=0∨i=1∨i=2∨i=3∨i=4) with rfl|rfl|rfl|rfl|rfl
  ·have hx:=idx0 (w0:Int) w1 w2 w3
   go_wp2_with (go_at_call 166;refine (HM.out _ _ _).mono ?_;rintro e w' ⟨rfl,rfl⟩)
   go_roundg 3
   case measure=>omega
   case rel=>exact ⟨1,by omega,by go_num,rfl,HW.out⟩
  ·have hx:=idx1 (w0:Int) w1 w2 w3
   go_wp2_with (go_at_call 166;refine (HM.out _ _ _).mono ?_;rintro e w' ⟨rfl,rfl⟩)
   go_roundg 2
   case measure=>omega
   case rel=>exact ⟨2,by omega,by go_num,rfl,HW.out⟩
  ·have hx:=idx2 (w0:Int) w1 w2 w3
   go_wp2_with (go_at_call 166;refine (HM.out _ _ _).mono ?_;rintro e w' ⟨rfl,rfl⟩)
   go_roundg 1
   case measure=>omega
   case rel=>exact ⟨3,by omega,by go_num,rfl,HW.out⟩
  ·have hx:=idx3 (w0:Int) w1 w2 w3
   go_wp2_with (go_at_call 166;refine (HM.out _ _ _).mono ?_;rintro e w' ⟨rfl,rfl⟩)
   go_roundg 0
   case measure=>omega
   case rel=>exact ⟨4,by omega,by go_num,rfl,HW.out⟩
  ·have HF2:Hid (hashF kd s fi se L=hashP (hashI kd fi se (List.take 4 [w0,w1,w2,w3])) L):=HF.out
   generalize hashI kd fi se (List.take 4 [w0,w1,w2,w3])=h4 at *;clear HF;go_wp2_with fail
   go_loopg [3,38] L.length (fun k vh vi wq=>∃ (j:Nat) (x:Int),j+k=L.length∧vi=.int .i64 j∧vh=.int .u32 x∧hashP x (L.drop j)=hashP h4 L∧wq=wr)
   case atStart=>exact ⟨0,h4,by omega,rfl,rfl,rfl,rfl⟩
   case round =>
    obtain ⟨j,x,hj,rfl,rfl,hx,hwq⟩:=hrel;subst hwq;have HX:=hide hx;clear hx
    by_cases hlt:j<L.length
    ·obtain ⟨g,off,rfl,hg,hc⟩:=H1.out j hlt
     have q1:=(FR.out.cell (p:=⟨g,off+j,none⟩) hg (by simp)).trans hc;have Hd:Hid (hashP (mixZ x ((L[j]:Int) % 4294967296)) (L.drop (j+1))=hashP h4 L):=by
      show _=_;rw[← HX.out,List.drop_eq_getElem_cons hlt];rfl
     clear hc HX;generalize L[j]=m at *;go_wp2_with (go_at_call 166;refine (HM.out _ _ _).mono ?_;rintro e w' ⟨rfl,rfl⟩)
     go_roundg (gk-1)
     case measure=>omega
     case rel=>exact ⟨j+1,_,by omega,by go_num,rfl,Hd.out,rfl⟩
    ·have Hd:Hid (hashF kd s fi se L=x):=by
      show _=_;rw[HF2.out,← HX.out,List.drop_eq_nil_of_le (by omega)];rfl
     go_wp2;go_ret;rw[Hd.out];exact ⟨rfl,FR.out⟩
theorem wd_ext{s t:Nat}(hs:s<2 ^ 256)(ht:t<2 ^ 256)(h0:wd s 0=wd t 0)(h1:wd s 1=wd t 1)(h2:wd s 2=wd t 2)(h3:wd s 3=wd t 3):s=t:=by
 apply Nat.eq_of_testBit_eq;intro i
 by_cases hi:i<256
 ·have e:∀ x,x.testBit i=(wd x (i / 64)).testBit (i % 64):=fun x=>by
   rw[wd_bit _ _ _ (Nat.mod_lt _ (by decide)),show 64*(i / 64)+i % 64=i by omega]
  rw[e s,e t];rcases (by omega:i / 64=0∨i / 64=1∨i / 64=2∨i / 64=3) with h|h|h|h<;>rw[h]
  ·rw[h0]
  ·rw[h1]
  ·rw[h2]
  ·rw[h3]
 ·have hp:(2:Nat) ^ 256≤2 ^ i:=Nat.pow_le_pow_right (by omega) (by omega)
  rw[Nat.testBit_lt_two_pow (Nat.lt_of_lt_of_le hs hp),Nat.testBit_lt_two_pow (Nat.lt_of_lt_of_le ht hp)]
theorem eqBS(a b c d x y z u:Int)(w:World):(Op.equalIn 10000 195 (.agg #[.int .u64 a, .int .u64 b, .int .u64 c, .int .u64 d]) (.agg #[.int .u64 x, .int .u64 y, .int .u64 z, .int .u64 u])).run Tryz.prog w=.ok (a==x&&(b==y&&(c==z&&d==u))) w:=by
 have u3:=Tryz.underlying193;have a3:=Tryz.isAgg193;have z3:=Tryz.sizeOf193;rw[show (10000:Nat)=9999+1 from rfl,Op.equalIn];simp only[Sem.run_bind,run_underlying Tryz.underlying195,Result.andThen_ok];simp only[Std.Legacy.Range.forIn_eq_forIn_range',Std.Legacy.Range.size,Nat.sub_zero,Nat.add_sub_cancel,Nat.div_one,List.range'_succ,List.range'_zero,List.forIn_cons,List.forIn_nil];go_simp
 by_cases h1:a=x<;>by_cases h2:b=y<;>by_cases h3:c=z<;>by_cases h4:d=u<;>simp[h1,h2,h3,h4]
theorem eqBSw{s t:Nat}(hs:s<2 ^ 256)(ht:t<2 ^ 256)(w:World):(Op.equalIn 10000 195 (.agg #[.int .u64 (wd s 0), .int .u64 (wd s 1), .int .u64 (wd s 2), .int .u64 (wd s 3)]) (.agg #[.int .u64 (wd t 0), .int .u64 (wd t 1), .int .u64 (wd t 2), .int .u64 (wd t 3)])).run Tryz.prog w=.ok (decide (s=t)) w:=by
 rw[eqBS]
 congr 1
 rw[Bool.eq_iff_iff];simp only[Bool.and_eq_true,beq_iff_eq,decide_eq_true_eq,Int.ofNat_inj]
 constructor
 ·rintro ⟨h0,h1,h2,h3⟩
  exact wd_ext hs ht (by omega) (by omega) (by omega) (by omega)
 ·rintro rfl
  exact ⟨rfl,rfl,rfl,rfl⟩
theorem same_any(f g:FV)(L M:List Nat)(w:World)(hv:NL .i64 w f.vp L)(hu:NL .i64 w g.vp M)(hL:L.length≤10000000000000)(hM:M.length≤10000000000000)(hs:f.s<2 ^ 256)(ht:g.s<2 ^ 256) :
 Calls Tryz.prog 153 #[.agg f.cells, .agg g.cells] w fun e w'=>e=.returned (.bool (decide (f.kd=g.kd∧f.fi=g.fi∧f.se=g.se∧f.s=g.s∧L=M)))∧Frm [] w w':=by
 obtain ⟨kd,s,fi,se,vp,te,lk,ak,lf⟩:=f;obtain ⟨kd2,s2,fi2,se2,vp2,te2,lk2,ak2,lf2⟩:=g;simp only at hv hu hs ht ⊢;obtain ⟨a,cap,rfl,h1⟩:=hv;obtain ⟨b,cap2,rfl,h2⟩:=hu;have SL:=hide (fun (o o':Obj)=>sameList_any (.slice a L.length cap) (.slice b M.length cap2) L M ((w.alloc o).alloc o') (NL.frm (S:=[]) ⟨a,cap,rfl,h1⟩ (((Frm.refl _ _).alloc _).alloc _) (by simp)) (NL.frm (S:=[]) ⟨b,cap2,rfl,h2⟩ (((Frm.refl _ _).alloc _).alloc _) (by simp)) hL hM);have u1:FV.cells ⟨kd,s,fi,se, .slice a L.length cap,te,lk,ak,lf⟩=#[.int .i64 kd, .int .u64 (wd s 0), .int .u64 (wd s 1), .int .u64 (wd s 2), .int .u64 (wd s 3), .int .i64 fi, .int .i64 se, .slice a L.length cap, .bool te, .int .i64 lk, .int .i64 ak, .int .i64 lf]:=rfl;have u2:FV.cells ⟨kd2,s2,fi2,se2, .slice b M.length cap2,te2,lk2,ak2,lf2⟩=#[.int .i64 kd2, .int .u64 (wd s2 0), .int .u64 (wd s2 1), .int .u64 (wd s2 2), .int .u64 (wd s2 3), .int .i64 fi2, .int .i64 se2, .slice b M.length cap2, .bool te2, .int .i64 lk2, .int .i64 ak2, .int .i64 lf2]:=rfl;rw[u1,u2];clear u1 u2 h1 h2
 by_cases hk:kd=kd2
 case neg =>
  have n1:((kd:Int) != (kd2:Int))=true:=by rw[bne_iff_ne];omega
  have Hr:Hid (decide (kd=kd2∧fi=fi2∧se=se2∧s=s2∧L=M)=false):=by show _=_;simp[hk]
  go_enter Tryz.func153,Tryz.ntmps153
  go_wp2;go_ret;rw[Hr.out];exact ⟨rfl,((Frm.refl _ _).alloc _).alloc _⟩
 have n1:((kd:Int) != (kd2:Int))=false:=by rw[bne_eq_false_iff_eq];omega
 by_cases hf:fi=fi2
 case neg =>
  have n2:((fi:Int) != (fi2:Int))=true:=by rw[bne_iff_ne];omega
  have Hr:Hid (decide (kd=kd2∧fi=fi2∧se=se2∧s=s2∧L=M)=false):=by show _=_;simp[hf]
  go_enter Tryz.func153,Tryz.ntmps153
  go_wp2;go_ret;rw[Hr.out];exact ⟨rfl,((Frm.refl _ _).alloc _).alloc _⟩
 have n2:((fi:Int) != (fi2:Int))=false:=by rw[bne_eq_false_iff_eq];omega
 by_cases he:se=se2
 case neg =>
  have n3:((se:Int) != (se2:Int))=true:=by rw[bne_iff_ne];omega
  have Hr:Hid (decide (kd=kd2∧fi=fi2∧se=se2∧s=s2∧L=M)=false):=by show _=_;simp[he]
  go_enter Tryz.func153,Tryz.ntmps153
  go_wp2;go_ret;rw[Hr.out];exact ⟨rfl,((Frm.refl _ _).alloc _).alloc _⟩
 have n3:((se:Int) != (se2:Int))=false:=by rw[bne_eq_false_iff_eq];omega
 have Hr:Hid (decide (kd=kd2∧fi=fi2∧se=se2∧s=s2∧L=M)=decide (s=s2∧L=M)):=by show _=_;simp[hk,hf,he]
 clear hk hf he;have EQ:=eqBSw hs ht
 by_cases hS:s=s2
 case neg =>
  have Hr2:Hid (decide (s=s2∧L=M)=false):=by show _=_;simp[hS]
  have EQ':∀ w,_:=fun w=>(EQ w).trans (by rw[decide_eq_false hS])
  clear EQ;go_enter Tryz.func153,Tryz.ntmps153
  go_wp2;go_ret;rw[Hr.out,Hr2.out];exact ⟨rfl,((Frm.refl _ _).alloc _).alloc _⟩
 have Hr2:Hid (decide (s=s2∧L=M)=decide (L=M)):=by show _=_;simp[hS]
 have EQ':∀ w,_:=fun w=>(EQ w).trans (by rw[decide_eq_true hS])
 clear EQ hS;go_enter Tryz.func153,Tryz.ntmps153
 go_wp2_with (go_at_call 167;refine (SL.out _ _).mono ?_;rintro e w' ⟨rfl,n,rfl⟩)
 go_ret;rw[Hr.out,Hr2.out];exact ⟨rfl,Frm.drewN n (((Frm.refl _ _).alloc _).alloc _)⟩
def FT(w:World)(fb:Nat)(va:Value)(B:List Nat)(ak:Nat):Prop :=
 w.heap[fb]?=some (.cells (va::(nv .i64 B++[.int .i64 ak])).toArray 210 (0,0))∧B.length=1024
theorem FT.lt{w:World}{fb:Nat}{va:Value}{B:List Nat}{ak:Nat}(h:FT w fb va B ak):fb<w.heap.size:=(Array.getElem?_eq_some_iff.1 h.1).1
theorem FT.fz{w:World}{fb:Nat}{va:Value}{B:List Nat}{ak:Nat}(h:FT w fb va B ak)(o:Nat):w.frozen? ⟨fb,o,none⟩=false:=by simp[World.frozen?,h.1]
theorem FT.frm{S:List Nat}{w w':World}{fb:Nat}{va:Value}{B:List Nat}{ak:Nat}(h:FT w fb va B ak)(f:Frm S w w')(hS:fb∉S):FT w' fb va B ak:=⟨(f.block fb h.lt hS).trans h.1,h.2⟩
theorem FT.c0{w:World}{fb:Nat}{va:Value}{B:List Nat}{ak:Nat}(h:FT w fb va B ak):w.cell? ⟨fb,0,none⟩=some va:=by
 simp[World.cell?,h.1]
theorem FT.cell{w:World}{fb:Nat}{va:Value}{B:List Nat}{ak:Nat}(h:FT w fb va B ak)(c:Nat)(hc:c<1024):w.cell? ⟨fb,1+c,none⟩=some (.int .i64 (B.getD c 0)):=by
 have hl:c<B.length:=by rw[h.2];exact hc
 have e:(va::(nv .i64 B++[.int .i64 ak]))[1+c]?=some (.int .i64 (B.getD c 0)):=by
  rw[Nat.add_comm,List.getElem?_cons_succ,List.getElem?_append_left (by simp[nv];exact hl)];simp[nv,hl]
 simp[World.cell?,h.1];simpa using e
theorem FT.cask{w:World}{fb:Nat}{va:Value}{B:List Nat}{ak:Nat}(h:FT w fb va B ak):w.cell? ⟨fb,1025,none⟩=some (.int .i64 ak):=by
 have e:(va::(nv .i64 B++[.int .i64 ak]))[1025]?=some (.int .i64 ak):=by
  rw[List.getElem?_cons_succ,List.getElem?_append_right (by simp[nv,h.2])];simp[nv,h.2]
 simp only[World.cell?,h.1];simpa using e
theorem FT.setB{w:World}{fb:Nat}{va:Value}{B:List Nat}{ak:Nat}(h:FT w fb va B ak)(c m:Nat)(hc:c<1024):FT (w.setCell ⟨fb,1+c,none⟩ (.int .i64 m)) fb va (B.set c m) ak:=by
 refine ⟨?_,by rw[List.length_set];exact h.2⟩;have hl:c<B.length:=by rw[h.2];exact hc
 have e:(va::(nv .i64 B++[.int .i64 ak])).set (1+c) (.int .i64 m)=va::(nv .i64 (B.set c m)++[.int .i64 ak]):=by
  rw[Nat.add_comm,List.set_cons_succ,List.set_append_left _ _ (by simp[nv];exact hl)];simp[nv,List.map_set]
 have h1:=h.1;simp only[World.setCell,Array.getElem?_modify,h1,if_true,Option.map_some];rw[← e];simp
theorem FT.set0{w:World}{fb:Nat}{va:Value}{B:List Nat}{ak:Nat}(h:FT w fb va B ak)(m:Value):FT (w.setCell ⟨fb,0,none⟩ m) fb m B ak:=by
 refine ⟨?_,h.2⟩;have h1:=h.1;simp only[World.setCell,Array.getElem?_modify,h1,if_true,Option.map_some];simp
theorem FT.setA{w:World}{fb:Nat}{va:Value}{B:List Nat}{ak:Nat}(h:FT w fb va B ak)(m:Nat):FT (w.setCell ⟨fb,1025,none⟩ (.int .i64 m)) fb va B m:=by
 refine ⟨?_,h.2⟩;have e:(va::(nv .i64 B++[.int .i64 ak])).set 1025 (.int .i64 m)=va::(nv .i64 B++[.int .i64 m]):=by
  rw[List.set_cons_succ,List.set_append_right _ _ (by simp[nv,h.2])];simp[nv,h.2]
 have h1:=h.1;simp only[World.setCell,Array.getElem?_modify,h1,if_true,Option.map_some];rw[← e];simp
def fv(L:List FV):List Value:=L.flatMap fun f=>f.cells.toList
def zeroForm:Value:=.agg #[.int .i64 0, .int .u64 0, .int .u64 0, .int .u64 0, .int .u64 0, .int .i64 0, .int .i64 0, .slice none 0 0, .bool false, .int .i64 0, .int .i64 0, .int .i64 0]
theorem infoForm:(Tryz.prog.info? 206).map (fun i=>(i.zero,i.size,i.bytes))=some (some zeroForm,12,112):=by kernel_rfl
theorem fv_get(L:List FV)(j k:Nat)(hk:k<12)(f:FV)(hf:L[j]?=some f):(fv L)[j*12+k]?=f.cells.toList[k]?:=by
 induction L generalizing j with
 | nil=>simp at hf
 | cons g L ih =>
   have hl:g.cells.toList.length=12:=by simp[FV.cells]
   cases j with
   | zero =>
     simp at hf;subst hf;simp only[fv,List.flatMap_cons];rw[List.getElem?_append_left (by omega)];simp
   | succ j =>
     simp only[fv,List.flatMap_cons];rw[List.getElem?_append_right (by omega),show (j+1)*12+k-g.cells.toList.length=j*12+k by omega];exact ih j (by simpa using hf)
def FL(base:Nat)(w:World)(v:Value)(L:List FV):Prop:=w.ownsRow base 206 12 v L.length (fv L)
theorem wp_appF{ops:Array Oper}{rest:List Oper}{o:Oper}{a:Act}{Q:Exit→Act→World→Prop}(w:World)(hgd:o.guard=none)(s x:Operand)
 (ho:o.op=.call { callee:=.builtin .append,args:=#[s,x],argTypes:=#[207,207] })
 (base:Nat) (v:Value) (L:List FV) (f:FV) (b1:Nat) (hs:a.eval s=v) (hown:FL base w v L) (hx:a.eval x=.slice (some ⟨b1,0,none⟩) 1 1)
 (hc:w.heap[b1]?=some (.cells f.cells 206 (0,0))) (hv:f.vp.oneCell'=true) (hlen:L.length≤1000000000000) (hbase:base≤w.heap.size)
 (h:∀ g cap w',FL base w' (.slice (some ⟨g,0,none⟩) (L.length+1) cap) (L++[f])→w.grownBy w' v.ownBlock→(v.ownBlock=some g∨g=w.heap.size)→g<w'.heap.size→wpList Tryz.prog ops Q rest (a.put o.dst (.slice (some ⟨g,0,none⟩) (L.length+1) cap)) w') :
 wpList Tryz.prog ops Q (o::rest) a w:=by
 obtain ⟨i0,hi,hz0,hz1,hz2⟩:=info_parts infoForm;refine wpList_append_lies w hgd s x 207 ho base 206 i0 zeroForm 12 112 Tryz.underlying207 hi hz0 hz1 hz2 rfl (by decide) v L.length (fv L) hs hown ⟨b1,0,none⟩ 1 1 f.cells.toList hx (by simp[FV.cells]) ?_ ?_ (by decide) (by unfold maxLen;omega) (by omega) hbase w.heap.size rfl ?_
 ·intro j u hj
  rw[add0];simp only[World.cell?,hc];simpa using hj
 ·intro u hu
  simp only[FV.cells,List.mem_cons,List.not_mem_nil,or_false]at hu;rcases hu with rfl|rfl|rfl|rfl|rfl|rfl|rfl|rfl|rfl|rfl|rfl|rfl<;>first | exact hv|rfl
 ·intro g cap w' h1 h2 h3 h4
  exact h g cap w' (by unfold FL fv;simpa[fv] using h1) h2 h3 h4
theorem heapAt(w:World)(a:Obj)(n:Nat)(h:n=w.heap.size):(w.alloc a).heap[n]?=some a:=by subst h;exact heap1 w a
theorem zeroForms:Tryz.zeroCells210=(Value.slice none 0 0::(nv .i64 (List.replicate 1024 0)++[.int .i64 0])).toArray:=by kernel_rfl
theorem FT.new(w:World):FT (w.alloc (Obj.cells Tryz.zeroCells210 210)) w.heap.size (.slice none 0 0) (List.replicate 1024 0) 0:=by
 refine ⟨?_,List.length_replicate⟩;rw[zeroForms];exact heap1 _ _
def fv0:FV:=⟨0,0,0,0, .slice none 0 0,false,0,0,0⟩
def fv1:FV:=⟨1,0,0,0, .slice none 0 0,true,0,0,0⟩
theorem fv0c:fv0.cells=#[.int .i64 0, .int .u64 0, .int .u64 0, .int .u64 0, .int .u64 0, .int .i64 0, .int .i64 0, .slice none 0 0, .bool false, .int .i64 0, .int .i64 0, .int .i64 0]:=by kernel_rfl
theorem fv1c:fv1.cells=#[.int .i64 1, .int .u64 0, .int .u64 0, .int .u64 0, .int .u64 0, .int .i64 0, .int .i64 0, .slice none 0 0, .bool true, .int .i64 0, .int .i64 0, .int .i64 0]:=by kernel_rfl
theorem sz2(w:World)(a b:Obj):w.heap.size+1≤((w.alloc a).alloc b).heap.size:=by
 have e1:(w.alloc a).heap.size=w.heap.size+1:=by simp
 have e2:((w.alloc a).alloc b).heap.size=(w.alloc a).heap.size+1:=by simp
 omega
theorem newForms_any(w:World) :
 Calls Tryz.prog 114 #[] w fun e w'=>∃ va,e=.returned (.pointer (some ⟨w.heap.size,0,none⟩))∧FT w' w.heap.size va (List.replicate 1024 0) 0∧FL (w.heap.size+1) w' va [fv0,fv1]∧Frm [] w w':=by
 have z0:∀ h,Tryz.zeroCells210[0]'h=.slice none 0 0:=by intro h;simp only[zeroForms];rfl
 have FN:=hide (FT.new w);have FR:Hid (∀ o,Frm [] w (w.alloc o)):=fun o=>(Frm.refl _ _).alloc _
 go_enter Tryz.func114,Tryz.ntmps114
 go_wp2_with (first | (at_builtin;refine wp_appF _ rfl _ _ rfl (w.heap.size+1) (.slice none 0 0) [] fv0 (w.heap.size+1) rfl (World.ownsRow_nil _ _ _ _) rfl (by rw[fv0c];exact heapAt _ _ _ (by simp)) rfl (by simp) (sz2 _ _ _) ?_;intro gg cap2 w5 hown hgrow hat hgl;have F5:=Frm.of_grow hgrow;have A5:=(FN.out.frm (S:=[]) ((Frm.refl _ _).alloc _) (by simp)).frm F5 (by simp[Value.ownBlock]);have A6:=hide (A5.set0 (.slice (some ⟨gg,0,none⟩) 1 cap2));have q1:=A5.c0;have q2:=A5.fz 0;have U5:=hide (ownsRow_setCell_below hown (a:=⟨w.heap.size,0,none⟩) (by simp) (.slice (some ⟨gg,0,none⟩) 1 cap2));have F6:=hide (((FR.out _).alloc _).grown hgrow (fun k hk=>by simp[Value.ownBlock]at hk));have z5:=Nat.le_trans (sz2 _ _ _) hgrow.size;clear hown hgrow hat F5 A5)|(at_builtin;refine wp_appF _ rfl _ _ rfl (w.heap.size+1) (.slice (some ⟨_,0,none⟩) 1 _) [fv0] fv1 _ rfl (U5.out.alloc _) rfl (by rw[fv1c];exact heapAt _ _ _ (by simp)) rfl (by simp) (by first | (simp;done)|(simp;omega)) ?_;intro g2 cap3 w7 hown hgrow hat hgl2;have hge:w.heap.size+1≤gg:=(U5.out.lt _ rfl).1;have A7:=(A6.out.frm (S:=[]) ((Frm.refl _ _).alloc _) (by simp)).frm (Frm.of_grow hgrow) (by simp[Value.ownBlock];omega);have q3:=A7.c0;have q4:=A7.fz 0;have A8:=hide (A7.set0 (.slice (some ⟨g2,0,none⟩) 2 cap3));have U8:=hide (ownsRow_setCell_below hown (a:=⟨w.heap.size,0,none⟩) (Nat.lt_succ_self _) (.slice (some ⟨g2,0,none⟩) 2 cap3));have F8:=hide (((F6.out.setCell (.inr (Nat.le_refl _)) _).alloc _).grown hgrow (fun k hk=>Or.inr (by simp[Value.ownBlock]at hk;omega)));clear hown hgrow hat A7 U5 A6 F6))
 go_ret;exact ⟨_,rfl,A8.out,U8.out,F8.out.setCell (.inr (Nat.le_refl _)) _⟩
set_option linter.unusedVariables false
set_option linter.unusedSimpArgs false
/-- What tells a form of the table from the others. -/
structure KY where
 kd:Nat
 s:Nat
 fi:Nat
 se:Nat
 L:List Nat
def Ky(D:List NF)(n:Nat)(k:KY)(d:NF):Prop :=
 (k.kd=2∧k.fi=0∧k.se=0∧k.L=[]∧d=.set k.s) ∨
 (k.kd=3∧k.s=0∧k.L=[]∧k.fi<n∧k.se<n∧∃ x y,D[k.fi]?=some x∧D[k.se]?=some y∧d=.pair x y) ∨
 (k.kd=4∧k.s=0∧k.fi=0∧k.se=0∧k.L.Pairwise (·<·)∧(∀ j∈k.L,j<n)∧d=.sum (srt (k.L.map fun j=>D.getD j .zero))) ∨
 (k.kd=5∧k.s=0∧k.se=0∧k.L=[]∧k.fi<n∧∃ x,D[k.fi]?=some x∧d=.star x)
theorem Ky.push{D R:List NF}{n:Nat}{k:KY}{d:NF}(h:Ky D n k d)(hn:n≤D.length):Ky (D++R) n k d:=by
 have e:∀ j x,D[j]?=some x→(D++R)[j]?=some x:=fun j x hj=>by
  have:=(List.getElem?_eq_some_iff.1 hj).1;rw[List.getElem?_append_left this];exact hj
 rcases h with h|⟨h1,h2,h3,h4,h5,x,y,h6,h7,h8⟩|⟨h1,h2,h3,h4,h5,h6,h7⟩|⟨h1,h2,h3,h4,h5,x,h6,h7⟩
 ·exact .inl h
 ·exact .inr (.inl ⟨h1,h2,h3,h4,h5,x,y,e _ _ h6,e _ _ h7,h8⟩)
 ·refine .inr (.inr (.inl ⟨h1,h2,h3,h4,h5,h6,?_⟩))
  rw[h7]
  congr 2
  apply List.map_congr_left;intro j hj;have:=h6 j hj;simp[List.getD,List.getElem?_append_left (show j<D.length by omega)]
 ·exact .inr (.inr (.inr ⟨h1,h2,h3,h4,h5,x,e _ _ h6,h7⟩))
theorem Ky.mono{D:List NF}{n m:Nat}{k:KY}{d:NF}(h:Ky D n k d)(hn:n≤m):Ky D m k d:=by
 rcases h with h|⟨h1,h2,h3,h4,h5,h6⟩|⟨h1,h2,h3,h4,h5,h6,h7⟩|⟨h1,h2,h3,h4,h5,h6⟩
 ·exact .inl h
 ·exact .inr (.inl ⟨h1,h2,h3,by omega,by omega,h6⟩)
 ·exact .inr (.inr (.inl ⟨h1,h2,h3,h4,h5,fun j hj=>by have:=h6 j hj;omega,h7⟩))
 ·exact .inr (.inr (.inr ⟨h1,h2,h3,h4,by omega,h6⟩))
theorem rise_ext:∀ {a b:List Nat},a.Pairwise (·<·)→b.Pairwise (·<·)→(∀ j,j∈a↔j∈b)→a=b
 | [],[],_,_,_=>rfl
 | [],y::b,_,_,h=>by have:=(h y).2 (by simp);simp at this
 | x::a,[],_,_,h=>by have:=(h x).1 (by simp);simp at this
 | x::a,y::b,ha,hb,h=>by
   rw[List.pairwise_cons]at ha hb;have hxy:x=y:=by
    have h1:=(h x).1 (by simp);have h2:=(h y).2 (by simp);rcases List.mem_cons.1 h1 with e|e
    ·exact e
    ·rcases List.mem_cons.1 h2 with e2|e2
     ·exact e2.symm
     ·have a1:=ha.1 y e2;have a2:=hb.1 x e;omega
   subst hxy
   congr 1
   refine rise_ext ha.2 hb.2 fun j=>⟨fun hj=>?_,fun hj=>?_⟩
   ·have:=ha.1 j hj
    rcases List.mem_cons.1 ((h j).1 (by simp[hj])) with e|e
    ·omega
    ·exact e
   ·have:=hb.1 j hj
    rcases List.mem_cons.1 ((h j).2 (by simp[hj])) with e|e
    ·omega
    ·exact e
theorem nodup_get{D:List NF}(h:D.Nodup){i j:Nat}{d:NF}(hi:D[i]?=some d)(hj:D[j]?=some d):i=j:=by
 obtain ⟨h1,e1⟩:=List.getElem?_eq_some_iff.1 hi;obtain ⟨h2,e2⟩:=List.getElem?_eq_some_iff.1 hj;have hne:=List.pairwise_iff_getElem.1 h;rcases Nat.lt_trichotomy i j with hl|hl|hl
 ·exact absurd (e1.trans e2.symm) (hne i j h1 h2 hl)
 ·exact hl
 ·exact absurd (e2.trans e1.symm) (hne j i h2 h1 hl)
theorem getD_some{D:List NF}{j:Nat}(h:j<D.length):D[j]?=some (D.getD j .zero):=by simp[List.getD,h]
theorem getD_mem{D:List NF}{j:Nat}(h:j<D.length):D.getD j .zero∈D:=List.mem_of_getElem? (getD_some h)
theorem Ky.inj{D:List NF}{n m:Nat}{k q:KY}{d:NF}(nd:D.Nodup)(wc:∀ x∈D,WC x)(h:Ky D n k d)(g:Ky D m q d)(hn:n≤D.length)(hm:m≤D.length):k=q:=by
 obtain ⟨kd,s,fi,se,L⟩:=k;obtain ⟨kd',s',fi',se',L'⟩:=q;rcases h with ⟨h1,h2,h3,h4,h5⟩|⟨h1,h2,h3,h4,h5,x,y,h6,h7,h8⟩|⟨h1,h2,h3,h4,h5,h6,h7⟩|⟨h1,h2,h3,h4,h5,x,h6,h7⟩ <;>
  rcases g with ⟨g1,g2,g3,g4,g5⟩|⟨g1,g2,g3,g4,g5,x',y',g6,g7,g8⟩|⟨g1,g2,g3,g4,g5,g6,g7⟩|⟨g1,g2,g3,g4,g5,x',g6,g7⟩ <;>
  simp only at * <;> subst d<;>simp only[NF.set.injEq,NF.pair.injEq,NF.sum.injEq,NF.star.injEq,reduceCtorEq]at *
 ·simp[*]
 ·obtain ⟨rfl,rfl⟩:=g8
  simp[nodup_get nd h6 g6,nodup_get nd h7 g7, *]
 ·have hT:∀ (M:List Nat) (k:Nat),k≤D.length→(∀ j∈M,j<k)→Tell (M.map fun j=>D.getD j .zero):=fun M k hk hM=>tell_wf fun x hx=>by
   obtain ⟨j,hj,rfl⟩:=List.mem_map.1 hx;exact (wc _ (getD_mem (by have:=hM j hj;omega))).1
  have hL:L=L':=by
   refine rise_ext h5 g5 fun j=>⟨fun hj=>?_,fun hj=>?_⟩
   ·have hlt:j<D.length:=by have:=h6 j hj;omega
    have m1:D.getD j .zero∈srt (L.map fun j=>D.getD j .zero):=(srt_mem_iff (hT L n hn h6)).2 (List.mem_map.2 ⟨j,hj,rfl⟩);rw[g7,srt_mem_iff (hT L' m hm g6)]at m1;obtain ⟨j',hj',e⟩:=List.mem_map.1 m1;have hlt':j'<D.length:=by have:=g6 j' hj';omega
    have:=nodup_get nd (getD_some hlt') (by rw[e];exact getD_some hlt);exact this ▸ hj'
   ·have hlt:j<D.length:=by have:=g6 j hj;omega
    have m1:D.getD j .zero∈srt (L'.map fun j=>D.getD j .zero):=(srt_mem_iff (hT L' m hm g6)).2 (List.mem_map.2 ⟨j,hj,rfl⟩);rw[← g7,srt_mem_iff (hT L n hn h6)]at m1;obtain ⟨j',hj',e⟩:=List.mem_map.1 m1;have hlt':j'<D.length:=by have:=h6 j' hj';omega
    have:=nodup_get nd (getD_some hlt') (by rw[e];exact getD_some hlt);exact this ▸ hj'
  simp[*]
 ·subst g7
  simp[nodup_get nd h6 g6, *]
theorem Ky.same{D:List NF}{n m:Nat}{k:KY}{d e:NF}(h:Ky D n k d)(g:Ky D m k e):d=e:=by
 rcases h with ⟨h1,h2,h3,h4,h5⟩|⟨h1,h2,h3,h4,h5,x,y,h6,h7,h8⟩|⟨h1,h2,h3,h4,h5,h6,h7⟩|⟨h1,h2,h3,h4,h5,x,h6,h7⟩ <;>
  rcases g with ⟨g1,g2,g3,g4,g5⟩|⟨g1,g2,g3,g4,g5,x',y',g6,g7,g8⟩|⟨g1,g2,g3,g4,g5,g6,g7⟩|⟨g1,g2,g3,g4,g5,x',g6,g7⟩ <;>
  first | omega|skip
 ·rw[h5,g5]
 ·rw[h8,g8];rw[h6]at g6;rw[h7]at g7;simp at g6 g7;simp[g6,g7]
 ·rw[h7,g7]
 ·rw[h7,g7];rw[h6]at g6;simp at g6;simp[g6]
theorem Ky.two{D:List NF}{n:Nat}{k:KY}{d:NF}(h:Ky D n k d):d≠.zero∧d≠.one:=by
 rcases h with ⟨h1,h2,h3,h4,h5⟩|⟨h1,h2,h3,h4,h5,x,y,h6,h7,h8⟩|⟨h1,h2,h3,h4,h5,h6,h7⟩|⟨h1,h2,h3,h4,h5,x,h6,h7⟩<;>subst d<;>simp
structure Tbl(K:List KY)(D:List NF):Prop where
 len:K.length=D.length
 d0:D[0]?=some .zero
 d1:D[1]?=some .one
 k0:K[0]?=some ⟨0,0,0,0,[]⟩
 k1:K[1]?=some ⟨1,0,0,0,[]⟩
 ky:∀ i k d,2≤i→K[i]?=some k→D[i]?=some d→Ky D i k d
 nd:D.Nodup
 wc:∀ d∈D,WC d
theorem Tbl.two{K:List KY}{D:List NF}(t:Tbl K D):2≤D.length:=by
 have:=(List.getElem?_eq_some_iff.1 t.d1).1;omega
theorem Tbl.ge{K:List KY}{D:List NF}(t:Tbl K D){i:Nat}{d:NF}(h:D[i]?=some d)(h0:d≠.zero)(h1:d≠.one):2≤i:=by
 rcases i with _|_|i
 ·rw[t.d0]at h;simp at h;exact absurd h.symm h0
 ·rw[show (0+1)=1 from rfl,t.d1]at h;simp at h;exact absurd h.symm h1
 ·omega
theorem Tbl.kyAt{K:List KY}{D:List NF}(t:Tbl K D){i:Nat}{d:NF}(hi:2≤i)(h:D[i]?=some d):∃ k,K[i]?=some k∧Ky D i k d:=by
 have hl:=(List.getElem?_eq_some_iff.1 h).1;rw[← t.len]at hl;exact ⟨K[i],List.getElem?_eq_getElem hl,t.ky i _ d hi (List.getElem?_eq_getElem hl) h⟩
theorem Tbl.found{K:List KY}{D:List NF}(t:Tbl K D){k:KY}{d:NF}(h:Ky D D.length k d){i:Nat}(hi:D[i]?=some d):2≤i∧K[i]?=some k:=by
 have h2:=t.ge hi h.two.1 h.two.2;obtain ⟨q,hq,hk⟩:=t.kyAt h2 hi;have hl:=(List.getElem?_eq_some_iff.1 hi).1;exact ⟨h2,by rw[hq,Ky.inj t.nd t.wc hk h (by omega) (Nat.le_refl _)]⟩
theorem Tbl.sameKey{K:List KY}{D:List NF}(t:Tbl K D){k:KY}{d:NF}(h:Ky D D.length k d){i:Nat}(hi:2≤i)(hk:K[i]?=some k):D[i]?=some d:=by
 have hl:=(List.getElem?_eq_some_iff.1 hk).1;rw[t.len]at hl;have hd:D[i]?=some D[i]:=List.getElem?_eq_getElem hl;rw[hd,(t.ky i k _ hi hk hd).same h]
theorem Tbl.push{K:List KY}{D:List NF}(t:Tbl K D){k:KY}{d:NF}(h:Ky D D.length k d)(hw:WC d)(hd:d∉D):Tbl (K++[k]) (D++[d]):=by
 have h2:=t.two;have hlen:=t.len;refine ⟨by simp[t.len],?_,?_,?_,?_,?_,?_,?_⟩
 ·rw[List.getElem?_append_left (by omega)];exact t.d0
 ·rw[List.getElem?_append_left (by omega)];exact t.d1
 ·rw[List.getElem?_append_left (by omega)];exact t.k0
 ·rw[List.getElem?_append_left (by omega)];exact t.k1
 ·intro i q e hi hq he
  by_cases hl:i<D.length
  ·rw[List.getElem?_append_left (by omega)]at hq he
   exact (t.ky i q e hi hq he).push (by omega)
  ·have hb:=(List.getElem?_eq_some_iff.1 he).1
   simp at hb;have:i=D.length:=by omega
   subst this;rw[List.getElem?_append_right (by omega)]at hq he;simp[hlen]at hq he;subst hq he;exact h.push (Nat.le_refl _)
 ·rw[List.nodup_append]
  exact ⟨t.nd,by simp,fun a ha b hb e=>by simp at hb;subst hb;exact hd (e ▸ ha)⟩
 ·intro x hx
  rcases List.mem_append.1 hx with e|e
  ·exact t.wc x e
  ·simp at e;exact e ▸ hw
def lastB(h:KY→Nat)(K:List KY)(b:Nat):Nat→Nat
 | 0=>0
 | n+1=>if 2≤n∧(K[n]?.map h)=some b then n else lastB h K b n
theorem lastB_spec(h:KY→Nat)(K:List KY)(b:Nat):∀ n,lastB h K b n=0∨(2≤lastB h K b n∧lastB h K b n<n∧K[lastB h K b n]?.map h=some b)
 | 0=>.inl rfl
 | n+1=>by
   unfold lastB
   split
   next e=>exact .inr ⟨e.1,by omega,e.2⟩
   next e =>
    rcases lastB_spec h K b n with e1|⟨e1,e2,e3⟩
    ·exact .inl e1
    ·exact .inr ⟨e1,by omega,e3⟩
theorem lastB_max(h:KY→Nat)(K:List KY)(b:Nat):∀ n j,j<n→2≤j→K[j]?.map h=some b→j≤lastB h K b n
 | n+1,j,hj,h2,hk=>by
   unfold lastB
   split
   next e=>omega
   next e =>
    by_cases hjn:j=n
    ·subst hjn;exact absurd ⟨h2,hk⟩ e
    ·exact lastB_max h K b n j (by omega) h2 hk
theorem lastB_push(h:KY→Nat)(K:List KY)(k:KY)(b:Nat):∀ n,n≤K.length→lastB h (K++[k]) b n=lastB h K b n
 | 0,_=>rfl
 | n+1,hn=>by
   unfold lastB;rw[List.getElem?_append_left (by omega),lastB_push h K k b n (by omega)]
theorem lastB_new(h:KY→Nat)(K:List KY)(k:KY)(b:Nat)(h2:2≤K.length):lastB h (K++[k]) b (K.length+1)=if h k=b then K.length else lastB h K b K.length:=by
 rw[lastB,lastB_push h K k b _ (Nat.le_refl _),List.getElem?_append_right (Nat.le_refl _)];simp[h2]
end Go.Proofs.YtpcbbbilmpobaaaGreatDoor
