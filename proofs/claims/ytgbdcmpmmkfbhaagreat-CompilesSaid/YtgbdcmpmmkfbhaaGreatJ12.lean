import Derived.Test.YtgbdcmpmmkfbhaaGreatJ5
import Derived.Test.YtgbdcmpmmkfbhaaGreatJ7
import Derived.Test.YtgbdcmpmmkfbhaaGreatJ11
import Derived.Test.YtgbdcmpmmkfbhaaGreatJ10
import Derived.Test.YtgbdcmpmmkfbhaaGreatJ3
import Derived.Deep.DeepCutAuto
import Derived.Test.YtgbdcmpmmkfbhaaGreatJ1
set_option linter.unusedVariables false
set_option linter.unusedSimpArgs false
set_option linter.unnecessarySimpa false
set_option maxRecDepth 100000
set_option maxHeartbeats 4000000
namespace Go.Proofs.YtgbdcmpmmkfbhaaGreat
variable {e e2:TypeId} {w w' x y:World} {v v2 va z:Value} {xs xs2:List Value} {B L S Z:LN} {a ak b fb g i n s t vb xb:Nat} {ops:Array Oper} {rest:List Oper} {D R U:List NF} {d:NF}
open Go.RowKit
def qD(S:LN)(c:Nat):LB:=S.map λs=>if s.testBit c then 49 else 48
theorem af1:∀(S:LN) (a b:Nat),(qD S a==qD S b)=!(apart S a b)
 | [],a,b=>rfl
 | s::S,a,b=>by
   have ih:=af1 S a b;have e:(qD (s::S) a==qD (s::S) b)=(((if s.testBit a then (49:UInt8) else 48)==(if s.testBit b then 49 else 48))&&(qD S a==qD S b)):=by
    simp[qD,List.cons_beq_cons]
   rw[e,ih];simp only[apart,List.any_cons];cases s.testBit a<;>cases s.testBit b<;>simp<;>decide
theorem ahr(S F:LN)(c:Nat):(ma (F.map (qD S)) (qD S c)<0/\(mZ S F c==F.length)=true)\/(0<=ma (F.map (qD S)) (qD S c)/\(mZ S F c==F.length)=false):=by
 unfold ma mZ;have h:∀f,(qD S f==qD S c)=!(apart S f c):=λf=>af1 S f c
 rw[List.findIdx?_map];cases hf:List.findIdx? ((λx=>x==qD S c) ∘ qD S) F with
 | none =>
   left
   refine⟨by simp,?_⟩;rw[a2k]at hf;have:F.findIdx (λf=>!(apart S f c))=F.length:=by
    rw[a2V];intro x hx;have:=hf x hx;simp only[Function.comp]at this;rw[<-h x];exact this
   rw[this];simp
 | some i =>
   right
   refine⟨by simp,?_⟩;rw[a1S]at hf;obtain⟨hi,h1,_⟩:=hf;have aO:F.findIdx (λf=>!(apart S f c))<F.length:=by
    rw[List.findIdx_lt_length];refine⟨F[i],a0z hi,?_⟩;simp only[Function.comp]at h1;rw[<-h];exact h1
   simp only[a0k];omega
theorem OV.other{e1:TypeId} {base:Nat}{v1:Value}{Oy:List Value}(h1:OV e1 base w v1 Oy)(h2:OV e2 base w v2 xs2)(bL:e1≠e2)(hg:w.grownBy w' v1.ownBlock):OV e2 base w' v2 xs2:=by
 refine jb h2 (aA.dS hg) ?_;intro k hk
 right
 rcases h1.2 with⟨e,h0⟩|⟨g,cap,cur,e,hb,mP,rest⟩
 ·rw[e]at hk;simp[Value.ownBlock]at hk
 rw[e]at hk;simp[Value.ownBlock]at hk;subst hk;exact⟨cur,e1,_,mP,bL⟩
theorem OV.sl {base:Nat} {L:List LB}(h:OV 9 base w v (sv L)):SL base w v L:=by
 unfold OV at h;rw[ak4]at h;exact h
theorem ahs(S:LN)(c i s:Nat)(h:S[i]?=some s):(qD S c).take (i+1)=(qD S c).take i++[if s.testBit c then 49 else 48]:=by
 rw[a1n]
 congr 1
 simp[qD,h]
theorem aa6(w:World)(p:Nat)(t:TR)(h:RN w p t)(hl:(jF t).length<=1000) :
 Calls Tryz.prog 54 #[.pointer (some ⟨p,0,none⟩)] w λe w'=>∃v,e=.returned v/\OV 3 w.heap.size w' v (nv .i64 (lM (jF t) 256))/\aA [] w w':=by
 have A:=aj (wO t w w p (.slice none 0 0) [] h (aA.refl _ _) (OV.nil _ _ _) (by simp;omega));clear h;obtain⟨S,hS⟩:∃S,jF t=S:=⟨_,rfl⟩;rw[hS]at hl |-;have HS:=aj hS;clear hS;go_enter Tryz.func54,Tryz.ntmps54
 go_wp2_with fail
 refine(A.o).mono ?_;rintro e w1 ⟨v1,qs,rfl,sw,rC,lK⟩;rw[HS.o]at lK;have O1:=aj sw;have F1:=aj rC;have S1:=aj lK;obtain⟨al,nl0,cl,rfl,rU⟩:=sw.open;have Gb:qs.length=S.length:=lK.len;have ao0:nl0=S.length:=by rw[rU];simp;exact Gb
 clear rU sw rC lK A;subst ao0;simp only[a1a]at O1;go_wp2_with fail
 go_loopg [4,5,6] 256 (λk v4 v5 v6 wr=>∃(c:Nat) (F:LN),c+k=256/\v6=.int .i64 c/\F=lM S c/\OV 9 w.heap.size wr v4 (sv (F.map (qD S)))/\OV 3 w.heap.size wr v5 (nv .i64 F)/\OV 80 w.heap.size wr (.slice al S.length cl) (qs.map aK)/\aA [] w wr)
 case atStart=>exact⟨0,[],rfl,rfl,rfl,OV.nil _ _ _,OV.nil _ _ _,O1,F1⟩
 case round =>
  clear O1 F1;obtain⟨c,F,hck,rfl,hF,ho4,ho5,ho3,hf⟩:=hrel;have O4:=aj ho4;have O5:=aj ho5;have O3:=aj ho3;have Fr:=aj hf;have HF:=aj hF;have iA:=hf.size;have hFl:F.length<=c/\∀f∈F,f<c:=by rw[hF];exact xN S c
  obtain⟨a4,n4,c4,rfl,hn4⟩:=ho4.open;obtain⟨a5,n5,c5,rfl,VN⟩:=ho5.open;have Hn4:Z_ (n4=F.length):=by show _=_;rw[hn4];simp[sv]
  have VO:Z_ (n5=F.length):=by show _=_;rw[VN];simp[nv]
  have aqu:=hFl.1;have aqv:=Gb;clear ho4 ho5 ho3 hf hF hn4 VN hFl;obtain⟨wo,Pn⟩:∃wo,wo=wr:=⟨_,rfl⟩;subst Pn;obtain⟨go,gP⟩:∃go,go=gk:=⟨_,rfl⟩;subst gP
  by_cases aO:c<256
  ·go_wp2_with fail
   go_loopg [7,8] S.length (λk v7 v8 wr=>∃(i:Nat),i+k=S.length/\v8=.int .i64 i/\v7=.string (bs ((qD S c).take i))/\wo=wr)
   case atStart=>exact⟨0,by omega,rfl,rfl,rfl⟩
   case round =>
    obtain⟨i,hik,rfl,rfl,rfl⟩:=hrel;have rU:(qD S c).length=S.length:=by simp[qD]
    have EM:((qD S c).take i).length=i:=by rw[a1q,rU];omega
    have fM:=bS ((qD S c).take i);rw[EM]at fM
    by_cases hi:i<S.length
    ·obtain⟨s,hs⟩:∃s,S[i]?=some s:=⟨S[i],a0c hi⟩
     obtain⟨q,hq,uO⟩:=S1.o.get i s hs;obtain⟨g3,rfl,_,_,Jv⟩:=O3.o.cell (j:=i) (u:=aK q) (by rw[a1d,hq];rfl);unfold aK at Jv;have amm:RN wo q (.one s):=RN.aW (eU.of Fr) uO;have jX:=RK.cin amm c (s.testBit c) (Iw s c aO);have Ht:=aj (ahs S c i s hs);have Jr:=kH ((qD S c).take i);have h49:bs [49]=⟨#[49]⟩:=rfl;have h48:bs [48]=⟨#[48]⟩:=rfl;have ao1:=Jr [49];have ao2:=Jr [48];rw[h49]at ao1;rw[h48]at ao2;clear uO amm hq hs Jr h49 h48;cases afE:s.testBit c
     all_goals
      rw[afE]at jX Ht;simp only[a0n,a0G,a0C]at Ht;go_wp2;go_roundg (gk-1)
      case measure=>omega
      case rel=>exact⟨i+1,by omega,by go_num,by rw[Ht.o],rfl⟩
    have hie:i=S.length:=by omega
    subst hie;have Ym:(qD S c).take S.length=qD S c:=a0D (by rw[rU];exact a0a _);rw[Ym]at fM |-;clear EM;have RSn:RS 0 wo (.slice a4 n4 c4) (F.map (qD S)):=(O4.o.sl.rs (by rw[a0B];omega)).base (a1C _);have NF:=aj (ui (.slice a4 n4 c4) (F.map (qD S)) (qD S c) wo RSn);clear RSn;go_wp2_with fail
    refine(NF.o).mono ?_;rintro e w2 ⟨rfl,rfl⟩;have HK:Z_ (lM S (c+1)=if mZ S F c==F.length then F++[c] else F):=by show _=_;rw[HF.o];rfl
    rcases ahr S F c with⟨h1,h2⟩|⟨h1,h2⟩
    ·rw[h2]at HK
     simp only[a0C]at HK;generalize ma (F.map (qD S)) (qD S c)=fi at h1 |-;go_wp2_with (first | (at_builtin;refine Ak _ rfl _ _ 35 9 _ 16 uS Tryz.underlying35 rfl rfl w.heap.size (.slice a4 n4 c4) (sv (F.map (qD S))) (n4+1) wo.heap.size (.string (bs (qD S c))) (by rw[Hn4.o];simp[sv]) rfl (O4.o.aB (S:=[]) ((aA.refl [] _).alloc _) (by simp)) rfl (kK _ _ _ _ rfl) rfl (by simp[sv];omega) (by simp[sv];omega) (by simp;omega) ?_;intro g7 amn w7 aQ aG aX iD;have O7:=aj aQ;have P5:=aj (OV.other (O4.o.aB (S:=[]) ((aA.refl [] _).alloc _) (by simp)) (O5.o.aB (S:=[]) ((aA.refl [] _).alloc _) (by simp)) (by decide) aG);have P3:=aj (OV.other (O4.o.aB (S:=[]) ((aA.refl [] _).alloc _) (by simp)) (O3.o.aB (S:=[]) ((aA.refl [] _).alloc _) (by simp)) (by decide) aG);have F7:=aj ((Fr.o.alloc _).grown aG (λk hk=>.inr (O4.o.base k hk)));have z7:=aG.size;clear aQ aG aX iD)|(at_builtin;refine Ak _ rfl _ _ 128 3 _ 8 Ur Tryz.underlying128 rfl rfl w.heap.size (.slice a5 n5 c5) (nv .i64 F) (n5+1) w7.heap.size (.int .i64 c) (by rw[VO.o];simp[nv]) rfl (P5.o.aB (S:=[]) ((aA.refl [] _).alloc _) (by simp)) rfl (kK _ _ _ _ rfl) rfl (by simp[nv];omega) (by simp[nv];omega) (by simp at z7 |-;omega) ?_;intro g8 aqw w8 aQ aG aX iD;have O8:=aj aQ;have Q4:=aj (OV.other (P5.o.aB (S:=[]) ((aA.refl [] _).alloc _) (by simp)) (O7.o.aB (S:=[]) ((aA.refl [] _).alloc _) (by simp)) (by decide) aG);have Q3:=aj (OV.other (P5.o.aB (S:=[]) ((aA.refl [] _).alloc _) (by simp)) (P3.o.aB (S:=[]) ((aA.refl [] _).alloc _) (by simp)) (by decide) aG);have F8:=aj ((F7.o.alloc _).grown aG (λk hk=>.inr (P5.o.base k hk)));clear aQ aG aX iD))
     go_roundg (go-1)
     case measure=>omega
     case rel =>
      refine⟨c+1,F++[c],by omega,by go_num,HK.o.symm,?_,?_,Q3,F8⟩
      ·have:=Q4.o
       simpa[sv] using this
      have:=O8.o;simpa[nv] using this
    rw[h2]at HK;simp only[a0n,a0G]at HK;generalize ma (F.map (qD S)) (qD S c)=fi at h1 |-;go_wp2;go_roundg (go-1)
    case measure=>omega
    case rel=>exact⟨c+1,F,by omega,by go_num,HK.o.symm,O4,O5,O3,Fr⟩
  have VJ:c=256:=by omega
  subst VJ;go_wp2;go_ret;refine⟨_,rfl,?_,Fr⟩;rw[<-HF.o];exact O5
/-! A row that grows,its spare room empty: no form's own row lies in what is written. -/
def OZ(e:TypeId)(z:Value)(base:Nat)(w:World)(v:Value)(xs:List Value):Prop:=∃g m,v=.slice (some ⟨g,0,none⟩) xs.length (xs.length+m)/\base<=g/\xs.length+m<=maxLen /\
 w.heap[g]?=some (.cells (xs++List.replicate m z).toArray e (0,0))
theorem OZ.ov {base:Nat}(h:OZ e z base w v xs):OV e base w v xs:=by
 obtain⟨g,m,rfl,hb,hm,hg⟩:=h;refine⟨by simp,.inr ⟨g,xs.length+m,_,by simp,hb,hg,by simp,hm,by simp,?_⟩⟩;simp
theorem OZ.aB {base:Nat}(h:OZ e z base w v xs)(f:aA S w w')(hS:∀k,k∈S->k<base):OZ e z base w' v xs:=by
 obtain⟨g,m,rfl,hb,hm,hg⟩:=h;exact⟨g,m,rfl,hb,hm,(f.block g (a0d.1 hg).1 (λhk=>by have:=hS g hk;omega)).trans hg⟩
theorem OZ.other {base:Nat}(h:OZ e z base w v xs)(h2:OV e2 base w v2 xs2)(bL:e2≠e)(hg:w.grownBy w' v2.ownBlock):OZ e z base w' v xs:=by
 obtain⟨g,m,rfl,hb,hm,mP⟩:=h;refine⟨g,m,rfl,hb,hm,(hg.block g (a0d.1 mP).1 ?_).trans mP⟩;intro e1;rcases h2.2 with⟨e0,h0⟩|⟨g2,cap,cur,e0,hb,kg,rest⟩
 ·rw[e0]at e1;simp[Value.ownBlock]at e1
 rw[e0]at e1;simp[Value.ownBlock]at e1;subst e1;rw[mP]at kg;simp at kg;exact bL kg.2.symm
theorem OZ.lit {base:Nat}(w:World)(u:Value)(hb:base<=w.heap.size):OZ e z base (w.alloc (.cells #[u] e)) (.slice (some ⟨w.heap.size,0,none⟩) 1 1) [u] :=
 ⟨w.heap.size,0,by simp,hb,by unfold maxLen;simp,heap_alloc_new w _⟩
theorem ae0(z:Value)(hz:z.cells=#[z])(k:Nat):Builtin.zeroCells z.cells k=(List.replicate k z).toArray:=by
 rw[hz];apply Array.ext
 ·simp[Builtin.zeroCells]
 intro i h1 h2;simp[Builtin.zeroCells,Nat.mod_one]
theorem KT.row{m:Nat} {u:Value}(he:e≠145)(hz:∀q,z≠.pointer (some q))(hg:w.heap[g]?=some (.cells (xs++List.replicate (m+1) z).toArray e (0,0))) :
 KT w (w.setRow g (xs++[u]++List.replicate m z).toArray):=by
 refine⟨λk cur fz hk=>setRow_other w g k _ ?_,λk j q hk=>?_⟩
 ·rintro rfl
  rw[hg]at hk;simp at hk;exact he hk.2.1
 by_cases hkg:k=g
 ·subst hkg
  rw[cell_setRow_same w k j _ _ _ _ hg];rw[cell_of_row w k j _ _ _ hg]at hk;simp only[List.getElem?_toArray]at hk |-
  by_cases h1:j<xs.length
  ·rw[a0u h1]at hk
   rw[a0u (by simp;omega),a0u h1];exact hk
  rw[a0R (by omega),a2v]at hk
  split at hk
  ·simp at hk;exact absurd hk (hz q)
  simp at hk
 have:=setRow_other w g k (xs++[u]++List.replicate m z).toArray hkg;unfold World.cell? at hk |-;simp only[this];exact hk
theorem aa7 {o:Oper} {a:Act} {Q:Exit->Act->World->Prop}(w:World)(nJ:o.guard=none)(s x:Operand)(t e:TypeId)(z:Value)(FC:Nat)
 (Ks:(Tryz.prog.info? e).map (λi=>(i.zero,i.size,i.bytes))=some (some z,1,FC)) (ht:Tryz.prog.underlying t=some (.slice e)) (EK:z.cells=#[z]) (he:e≠145) (hzp:∀q,z≠.pointer (some q)) (DT:FC<=1000)
 (ho:o.op=.call { callee:=.builtin .append,args:=#[s,x],argTypes:=#[t,t] })
 (base:Nat) (v:Value) (xs:List Value) (N b1:Nat) (u:Value) (hN:N=xs.length+1) (hs:a.eval s=v) (aQ:OZ e z base w v xs) (hx:a.eval x=.slice (some ⟨b1,0,none⟩) 1 1)
 (hc:w.cell? ⟨b1,0,none⟩=some u) (hu:u.oneCell'=true) (hlen:xs.length<=1000) (iW:base<=w.heap.size)
 (h:∀g cap w',OZ e z base w' (.slice (some ⟨g,0,none⟩) N cap) (xs++[u])->w.grownBy w' v.ownBlock->KT w w'->wpList Tryz.prog ops Q rest (a.put o.dst (.slice (some ⟨g,0,none⟩) N cap)) w') :
 wpList Tryz.prog ops Q (o::rest) a w:=by
 subst hN;obtain⟨i0,hi,iA,fT,gF⟩:=info_parts Ks;obtain⟨g,m,rfl,hb,hm,hg⟩:=aQ;have ajC:∀j y,[u][j]?=some y->w.cell? ((⟨b1,0,none⟩:Addr).add j)=some y:=by
  intro j y hj;have:j=0:=by
   cases j with
   | zero=>rfl
   | succ j=>simp at hj
  subst this;rw[add0];simp at hj;rw[<-hj];exact hc
 have rD:(xs.length+1)*FC<=1001*1000:=a0E (by omega) DT;refine wpList_plain nJ λ_ hK=>?_
 by_cases anH:m=0
 ·subst anH
  have hr:=run_append_grow (P:=Tryz.prog) w t o.type e i0 z ht hi iA ⟨g,0,none⟩ xs.length (xs.length+0) xs (by simp[fT]) (by
   intro j y hj;rw[show(⟨g,0,none⟩:Addr).add j=⟨g,j,none⟩ by rw[Addr.add_mid];simp,cell_of_row w g j _ _ _ hg];simpa using hj) ⟨b1,0,none⟩ 1 1 [u] (by simp[fT]) ajC (by omega) (by omega) (by rw[gF];exact growslice_fits (by omega) (by omega))
  have hge:=grownCap_ge w (xs.length+1) (xs.length+0) e;have hcm:grownCap w (xs.length+1) (xs.length+0) e<=maxLen:=grownCap_le_maxLen w (xs.length+1) _ _ (by unfold maxLen;omega);rw[ae0 z EK]at hr;generalize grownCap w (xs.length+1) (xs.length+0) e=gc at hr hge hcm;have he:xs.toArray++[u].toArray++(List.replicate (gc-(xs.length+1)) z).toArray=(xs++[u]++List.replicate (gc-(xs.length+1)) z).toArray:=by simp
  rw[he]at hr;unfold Oper.wp execOp;simp only[ho,resolve,invoke,builtin,Sem.run_bind,Sem.run_pure,Result.andThen_ok,List.map_toArray,a0A,a1T,hs,hx,hr];refine hK _ _ (h _ _ _ ?_ ?_ ?_)
  ·refine⟨w.heap.size,gc-(xs.length+1),?_,iW,?_,?_⟩
   ·simp;omega
   ·simp;omega
   exact heap_alloc_new w.drew _
  ·exact⟨rfl,rfl,rfl,by simp,λk hk _=>heap_alloc_old w.drew _ hk⟩
  exact KT.aB (((aA.refl [] w).drew).alloc _)
 obtain⟨m',rfl⟩:∃m',m=m'+1:=⟨m-1,by omega⟩;have hr:=run_append_room (P:=Tryz.prog) w t o.type e i0 ht hi g xs.length (xs.length+(m'+1)) _ hg ⟨b1,0,none⟩ 1 1 [u] (by simp[fT]) ajC (by simpa using hu) (by omega) (by simp[fT]);have he2:((xs++List.replicate (m'+1) z).toArray.toList.take (xs.length*i0.size)++[u]++(xs++List.replicate (m'+1) z).toArray.toList.drop (xs.length*i0.size + [u].length)).toArray=(xs++[u]++List.replicate m' z).toArray:=by
  rw[fT];simp[List.drop_append]
 rw[he2]at hr;unfold Oper.wp execOp;simp only[ho,resolve,invoke,builtin,Sem.run_bind,Sem.run_pure,Result.andThen_ok,List.map_toArray,a0A,a1T,hs,hx,hr];refine hK _ _ (h _ _ _ ?_ ?_ ?_)
 ·refine⟨g,m',?_,hb,?_,setRow_heap w g _ _ _ _ hg⟩
  ·simp;omega
  simp;omega
 ·exact⟨rfl,rfl,rfl,by simp,λk _ hk=>setRow_other w g k _ (λe=>hk (by simp[Value.ownBlock,e]))⟩
 exact KT.row he hzp hg
theorem aht {base:Nat}{size:Nat}(h:w.ownsRow base e size v n xs)(f:aA S w w')(hS:∀k,v.ownBlock=some k->k∉S):w'.ownsRow base e size v n xs:=by
 refine⟨h.1,?_⟩;rcases h.2 with hn|⟨g,cap,cur,rfl,hb,mP,rest⟩
 ·exact .inl hn
 refine .inr ⟨g,cap,cur,rfl,hb,?_,rest⟩;rw[f.block g (a0d.1 mP).1 (hS g rfl)];exact mP
def Ra(S:LN)(c:Nat):LN:=WI S c++List.replicate (256-c) 0
theorem ae1(S:LN)(c:Nat)(hc:c<256):(Ra S c).set c (mZ S (lM S c) c)=Ra S (c+1):=by
 unfold Ra WI;rw[a1t _ _ (by simp)];simp only[a0B,List.length_range,a2H];rw[List.range_succ,a0T,a0K]
 congr 1
 obtain⟨k,hk⟩:∃k,256-c=k+1:=⟨255-c,by omega⟩;rw[hk,show 256-(c+1)=k by omega,List.replicate_succ]
 rfl
theorem WJ(base ab:Nat)(vs:Value)(S F1 CL:LN)(va vn:Value)(w:World)(rC:lM S 256=F1)(hCL:WI S 256=CL)(hs:BL base w vs S)(ha:AB w ab 0 (List.replicate 256 0) va vn)(hS:S.length<=1000)(bL:vs.ownBlock≠some ab) :
 Calls Tryz.prog 98 #[.pointer (some ⟨ab,0,none⟩),vs] w λe w'=>∃v,e=.returned v/\UL w.heap.size w' v F1/\AB w' ab F1.length CL va vn/\aA [ab] w w':=by
 obtain⟨asl,WH,rfl⟩:=aT hs;have HS:=aj hs;have HNE:Z_ (Value.ownBlock (.slice asl S.length WH)≠some ab):=bL;clear bL;have HA:=aj ha;have qy:=aj rC;have Vx:=aj hCL;clear rC hCL;have aO:=ha.lt;clear hs ha;go_enter Tryz.func98,Tryz.ntmps98
 go_wp2_with fail
 go_loopg [5,6] 256 (λk vf vc wr=>∃(c:Nat),c+k=256/\vc=.int .i64 c/\UL w.heap.size wr vf (lM S c)/\AB wr ab 0 (Ra S c) va vn/\aA [ab] w wr)
 case atStart =>
  refine⟨0,by omega,rfl,World.ownsRow_lit _ #[] 0 (a0a _) (by unfold maxLen;omega) (by simp),?_,(aA.refl _ _).alloc _⟩;exact HA.o.aB (S:=[]) ((aA.refl _ _).alloc _) (by simp)
 case round =>
  clear HA;obtain⟨c,hc,rfl,hul,adb,bU⟩:=hrel;obtain⟨af,WK,rfl⟩:=aT hul;have hle:=xN S c;have F:=aj bU;have U:=aj hul;have A:=aj adb;have z:=bU.size;clear bU hul adb
  by_cases lL:c<256
  ·clear qy Vx
   have lK:BL base wr (.slice asl S.length WH) S:=aht HS.o F.o (λk hk=>by simp;rintro rfl;exact HNE.o hk);have C:=aj (aa5 base (.slice asl S.length WH) (.slice af (lM S c).length WK) S (lM S c) c wr lK (vM U) hS (by omega) (λf hf=>by have:=hle.2 f hf;omega) lL);have bN:Z_ (lM S (c+1)=if mZ S (lM S c) c==(lM S c).length then lM S c++[c] else lM S c):=rfl;have Hcs:=aj (ae1 S c lL);have Bp:=ahq S (lM S c) c;have sH:=hle.1;generalize mZ S (lM S c) c=m at *;generalize lM S c=F0 at *;clear lK hle;have Yc:c<256:=lL;go_wp2_with fail
   refine(C.o).mono ?_;rintro e w2 ⟨rfl,aS⟩;have F2:=aj (F.o.trans (aS.mono (by simp)));have U2:=aj (ek U.o aS (by simp));have A2:=aj (A.o.aB aS (by simp));have z2:=aS.size;clear aS
   by_cases hm:m=F0.length
   ·subst hm
    have oF:Z_ (lM S (c+1)=F0++[c]):=by show _=_;rw[bN.o];simp
    have ao3:Z_ ((Ra S c).set c F0.length=Ra S (c+1)):=Hcs.o;have hae:Value.ownBlock (.slice af F0.length WK)≠some ab:=λe=>by have:=U2.o.lt _ e;omega
    have A3:=aj (λo=>A2.o.aB (S:=[]) (w':=w2.alloc o) ((aA.refl _ _).alloc _) (by simp));have CE:=A2.o.lt;clear bN Hcs C;go_wp2_with (first | (at_builtin;refine ajB _ rfl _ _ rfl w.heap.size (.slice af F0.length WK) F0 c w2.heap.size rfl (U2.o.alloc _) rfl (jo _ _ _ _ rfl) (by omega) (by simp;omega) ?_;intro gg aP w5 aQ aG aX iD;have F5:=aA.dS aG;have A5:=(A3.o _).aB F5 (by simpa[a0H] using λe=>hae e);have q1:=A5.cell c Yc;have q2:=A5.fz (1+c);have A6:=aj A5;have U6:=aj aQ;have F6:=aj ((F2.o.alloc _).grown aG (λk hk=>Or.inr (U2.o.lt _ hk).1));clear aQ aG aX iD F5 A5))
    go_roundg (gk-1)
    case measure=>omega
    case rel =>
     refine⟨c+1,by omega,by go_num,?_,?_,F6.o.setCell (.inl (by simp)) _⟩
     ·rw[oF.o]
      have:=ownsRow_setCell_below U6.o (a:=⟨ab,1+c,none⟩) (by simp;omega) (.int .u8 F0.length);exact this
     rw[<-ao3.o];exact A6.o.set c F0.length Yc
   have hb:((m:Int)==(F0.length:Int))=false:=a0k.2 (by omega);have oF:Z_ (lM S (c+1)=F0):=by show _=_;rw[bN.o,a0g];simpa using hm
   have q1:=A2.o.cell c Yc;have q2:=A2.o.fz (1+c);clear bN C;go_wp2;go_roundg (gk-1)
   case measure=>omega
   case rel =>
    refine⟨c+1,by omega,by go_num,?_,?_,F2.o.setCell (.inl (by simp)) _⟩
    ·rw[oF.o]
     exact ownsRow_setCell_below U2.o (a:=⟨ab,1+c,none⟩) (by simp;omega) (.int .u8 m)
    rw[<-Hcs.o];exact A2.o.set c m Yc
  have VJ:c=256:=by omega
  have q0:=A.o.c0;have q2:=A.o.fz 0;have hp:Ra S c=CL:=by
   rw[VJ,<-Vx.o];unfold Ra;rw[a2H,List.replicate_zero,a0Q]
  have bR:lM S c=F1:=by rw[VJ];exact qy
  rw[hp]at A;rw[bR]at U hle;rw[bR];clear hp bR qy Vx VJ;have G1:=aj (F.o.setCell (p:=⟨ab,0,none⟩) (.inl (by simp)) (.int .i64 F1.length));have G2:=aj (ownsRow_setCell_below U.o (a:=⟨ab,0,none⟩) (by simp;omega) (.int .i64 F1.length));have G3:=aj (A.o.set0 F1.length);go_wp2;go_ret;exact⟨.slice af F1.length WK,rfl,G2,G3,G1⟩
def Rc(h x:Int):Int:=IntKind.u32.wrap (Go.bits BinOp.xor IntKind.u32 h x*16777619)
theorem ae2(h x:Int)(w:World) :
 Calls Tryz.prog 142 #[.int .u32 h,.int .u32 x] w λe w'=>e=.returned (.int .u32 (Rc h x))/\w=w':=by
 have Hm:Z_ (Rc h x=IntKind.u32.wrap (Go.bits BinOp.xor IntKind.u32 h x*16777619)):=rfl;go_enter Tryz.func142,Tryz.ntmps142
 go_wp2;go_ret;rw[Hm.o];exact⟨rfl,rfl⟩
theorem Yt(v u:Value)(L M:LN)(w:World)(hv:NL .i64 w v L)(hu:NL .i64 w u M)(hL:L.length<=10000000000000)(hM:M.length<=10000000000000) :
 Calls Tryz.prog 143 #[v,u] w λe w'=>e=.returned (.bool (decide (L=M)))/\∃n,w'=w.drewN n:=by
 obtain⟨a,cap,rfl,h1⟩:=hv;obtain⟨b,aP,rfl,h2⟩:=hu;have H1:=aj h1;have H2:=aj h2;clear h1 h2
 by_cases hl:L.length=M.length
 ·have hb:((L.length:Int) != (M.length:Int))=false:=by rw[a1V];omega
  have HLM:=aj hl;clear hl;go_enter Tryz.func143,Tryz.ntmps143
  go_wp2_with fail
  go_loopg [13] L.length (λk vi wr=>∃(j n:Nat),j+k=L.length/\vi=.int .i64 j/\wr=w.drewN n/\decide (L.drop j=M.drop j)=decide (L=M))
  case atStart=>exact⟨0,0,by omega,rfl,rfl,rfl⟩
  case round =>
   obtain⟨j,n,hj,rfl,hw,hd⟩:=hrel;have HD:=aj hd;clear hd
   by_cases aO:j<L.length
   ·have amo:j<M.length:=by have:=HLM.o;omega
    obtain⟨g,off,rfl,_,hc⟩:=H1.o j aO;obtain⟨g2,amq,rfl,_,uM⟩:=H2.o j amo;have q1:wr.cell? ⟨g,off+j,none⟩=some (.int .i64 L[j]):=by rw[hw];exact hc
    have q2:wr.cell? ⟨g2,amq+j,none⟩=some (.int .i64 M[j]):=by rw[hw];exact uM
    have Hd:Z_ (decide (L=M)=(decide (L[j]=M[j])&&decide (L.drop (j+1)=M.drop (j+1)))):=by
     show _=_;rw[<-HD.o,a0q aO,a0q amo];rw[a0P];simp only[a0S,a0N,List.cons.injEq]
    have Hw:=aj hw;clear hc uM hw HD;generalize L[j]=x at *;generalize M[j]=y at *
    by_cases L9:x=y
    ·have rD:((x:Int) != (y:Int))=false:=by rw[a1V];omega
     have xZ:Z_ (decide (L.drop (j+1)=M.drop (j+1))=decide (L=M)):=by show _=_;rw[Hd.o];simp[L9]
     clear Hd;go_wp2_with fail
     go_quiet (fail)
     go_wp2;go_roundg (gk-1)
     case measure=>omega
     case rel=>exact⟨j+1,n+_,by omega,by go_num,by rw[Hw.o,Dk],xZ⟩
    have rD:((x:Int) != (y:Int))=true:=by rw[a1O];omega
    have xZ:Z_ (decide (L=M)=false):=by show _=_;rw[Hd.o];simp[L9]
    clear Hd;go_wp2_with fail
    go_quiet (fail)
    go_wp2;go_ret;rw[xZ.o,Hw.o];exact⟨rfl,_,Dk _ _ _⟩
   have xZ:Z_ (decide (L=M)=true):=by
    show _=_;rw[<-HD.o,a0p (by omega),a0p (by have:=HLM.o;omega)];rfl
   have Hw:=aj hw;clear hw HD;go_wp2;go_ret;rw[xZ.o];exact⟨rfl,_,Hw⟩
 have hb:((L.length:Int) != (M.length:Int))=true:=by rw[a1O];omega
 have Hd:Z_ (decide (L=M)=false):=by show _=_;rw[a0f];intro e;exact hl (by rw[e])
 go_enter Tryz.func143,Tryz.ntmps143
 go_wp2;go_ret;rw[Hd.o];exact⟨rfl,0,rfl⟩
structure FV where
 kd:Nat
 s:Nat
 fi:Nat
 se:Nat
 vp:Value
 te:Bool
 lk:Nat
 ak:Nat
 lf:Nat
def FV.cells(f:FV):Array Value:=#[.int .i64 f.kd,.int .u64 (wd f.s 0),.int .u64 (wd f.s 1),.int .u64 (wd f.s 2),.int .u64 (wd f.s 3),.int .i64 f.fi,.int .i64 f.se,f.vp,.bool f.te,.int .i64 f.lk,.int .i64 f.ak,.int .i64 f.lf]
def anI(h:Int)(x:Nat):Int:=Rc (Rc h ((x:Int) % 4294967296)) ((x:Int) / 4294967296)
def Lp(h:Int)(L:LN):Int:=L.foldl (λ(h:Int) (n:Nat)=>Rc h ((n:Int) % 4294967296)) h
def WM(kd fi se:Nat)(W:LN):Int:=W.foldl anI (Rc (Rc ((kd:Int) % 4294967296) ((fi:Int) % 4294967296)) ((se:Int) % 4294967296))
def ws(s:Nat):LN:=[wd s 0,wd s 1,wd s 2,wd s 3]
def Lr(kd s fi se:Nat)(L:LN):Int:=Lp (WM kd fi se (ws s)) L
theorem ao4(a b c d:Int)(w:World):(Instr.index 192 (.agg #[.int .u64 a,.int .u64 b,.int .u64 c,.int .u64 d]) (.int .i64 0)).run Tryz.prog w=.ok (.int .u64 a) w:=by
 simp[Instr.index,go_sem,Tryz.underlying192]
theorem ao5(a b c d:Int)(w:World):(Instr.index 192 (.agg #[.int .u64 a,.int .u64 b,.int .u64 c,.int .u64 d]) (.int .i64 1)).run Tryz.prog w=.ok (.int .u64 b) w:=by
 simp[Instr.index,go_sem,Tryz.underlying192]
theorem ao6(a b c d:Int)(w:World):(Instr.index 192 (.agg #[.int .u64 a,.int .u64 b,.int .u64 c,.int .u64 d]) (.int .i64 2)).run Tryz.prog w=.ok (.int .u64 c) w:=by
 simp[Instr.index,go_sem,Tryz.underlying192]
theorem ao7(a b c d:Int)(w:World):(Instr.index 192 (.agg #[.int .u64 a,.int .u64 b,.int .u64 c,.int .u64 d]) (.int .i64 3)).run Tryz.prog w=.ok (.int .u64 d) w:=by
 simp[Instr.index,go_sem,Tryz.underlying192]
theorem ahu(f:FV)(L:LN)(w:World)(hv:NL .i64 w f.vp L)(hL:L.length<=10000000000000) :
 Calls Tryz.prog 128 #[.agg f.cells] w λe w'=>e=.returned (.int .u32 (Go.bits BinOp.xor IntKind.u32 (Lr f.kd f.s f.fi f.se L) (Lr f.kd f.s f.fi f.se L / 2 ^ 16)))/\aA [] w w':=by
 obtain⟨kd,s,fi,se,vp,te,lk,ak,lf⟩:=f;simp only at hv |-;obtain⟨a,cap,rfl,h1⟩:=hv;have Va:FV.cells ⟨kd,s,fi,se,.slice a L.length cap,te,lk,ak,lf⟩=#[.int .i64 kd,.int .u64 (wd s 0),.int .u64 (wd s 1),.int .u64 (wd s 2),.int .u64 (wd s 3),.int .i64 fi,.int .i64 se,.slice a L.length cap,.bool te,.int .i64 lk,.int .i64 ak,.int .i64 lf]:=rfl;rw[Va];clear Va;have H1:=aj h1;have HM:=aj ae2;have HF:Z_ (Lr kd s fi se L=Lp (WM kd fi se [wd s 0,wd s 1,wd s 2,wd s 3]) L):=rfl;have b0:=iL s 0;have b1:=iL s 1;have b2:=iL s 2;have b3:=iL s 3;clear h1;generalize wd s 0=w0 at *;generalize wd s 1=w1 at *;generalize wd s 2=w2 at *;generalize wd s 3=w3 at *;go_enter Tryz.func128,Tryz.ntmps128
 go_wp2_with (go_at_call 142;refine(HM.o _ _ _).mono ?_;rintro e w' ⟨rfl,rfl⟩)
 go_loopg [3,22] 4 (λk vh vi wr=>∃i:Nat,i+k=4/\vi=.int .i64 i/\vh=.int .u32 (WM kd fi se ([w0,w1,w2,w3].take i))/\wr=w.alloc (.cells #[.int .i64 kd,.int .u64 w0,.int .u64 w1,.int .u64 w2,.int .u64 w3,.int .i64 fi,.int .i64 se,.slice a L.length cap,.bool te,.int .i64 lk,.int .i64 ak,.int .i64 lf] 203))
 case atStart=>exact⟨0,by omega,rfl,rfl,rfl⟩
 case round =>
  obtain⟨i,hi,rfl,rfl,hw⟩:=hrel;have q7:wr.cell? ⟨w.heap.size,7,none⟩=some (.slice a L.length cap):=by rw[hw];have:=bK w (.cells #[.int .i64 kd,.int .u64 w0,.int .u64 w1,.int .u64 w2,.int .u64 w3,.int .i64 fi,.int .i64 se,.slice a L.length cap,.bool te,.int .i64 lk,.int .i64 ak,.int .i64 lf] 203);simp only[World.cell?,this];rfl
  have FR:Z_ (aA [] w wr):=by show aA [] w wr;rw[hw];exact(aA.refl _ _).alloc _
  have HW:=aj hw;clear hw;rcases(by omega:i=0\/i=1\/i=2\/i=3\/i=4) with rfl|rfl|rfl|rfl|rfl
  ·have hx:=ao4 (w0:Int) w1 w2 w3
   go_wp2_with (go_at_call 142;refine(HM.o _ _ _).mono ?_;rintro e w' ⟨rfl,rfl⟩)
   go_roundg 3
   case measure=>omega
   case rel=>exact⟨1,by omega,by go_num,rfl,HW⟩
  ·have hx:=ao5 (w0:Int) w1 w2 w3
   go_wp2_with (go_at_call 142;refine(HM.o _ _ _).mono ?_;rintro e w' ⟨rfl,rfl⟩)
   go_roundg 2
   case measure=>omega
   case rel=>exact⟨2,by omega,by go_num,rfl,HW⟩
  ·have hx:=ao6 (w0:Int) w1 w2 w3
   go_wp2_with (go_at_call 142;refine(HM.o _ _ _).mono ?_;rintro e w' ⟨rfl,rfl⟩)
   go_roundg 1
   case measure=>omega
   case rel=>exact⟨3,by omega,by go_num,rfl,HW⟩
  ·have hx:=ao7 (w0:Int) w1 w2 w3
   go_wp2_with (go_at_call 142;refine(HM.o _ _ _).mono ?_;rintro e w' ⟨rfl,rfl⟩)
   go_roundg 0
   case measure=>omega
   case rel=>exact⟨4,by omega,by go_num,rfl,HW⟩
  have xY:Z_ (Lr kd s fi se L=Lp (WM kd fi se (List.take 4 [w0,w1,w2,w3])) L):=HF.o;generalize WM kd fi se (List.take 4 [w0,w1,w2,w3])=h4 at *;clear HF;go_wp2_with fail
  go_loopg [3,38] L.length (λk vh vi wq=>∃(j:Nat) (x:Int),j+k=L.length/\vi=.int .i64 j/\vh=.int .u32 x/\Lp x (L.drop j)=Lp h4 L/\wq=wr)
  case atStart=>exact⟨0,h4,by omega,rfl,rfl,rfl,rfl⟩
  case round =>
   obtain⟨j,x,hj,rfl,rfl,hx,hwq⟩:=hrel;subst hwq;have HX:=aj hx;clear hx
   by_cases aO:j<L.length
   ·obtain⟨g,off,rfl,hg,hc⟩:=H1.o j aO
    have q1:=(FR.o.cell (p:=⟨g,off+j,none⟩) hg (by simp)).trans hc;have Hd:Z_ (Lp (Rc x ((L[j]:Int) % 4294967296)) (L.drop (j+1))=Lp h4 L):=by
     show _=_;rw[<-HX.o,a0q aO];rfl
    clear hc HX;generalize L[j]=m at *;go_wp2_with (go_at_call 142;refine(HM.o _ _ _).mono ?_;rintro e w' ⟨rfl,rfl⟩)
    go_roundg (gk-1)
    case measure=>omega
    case rel=>exact⟨j+1,_,by omega,by go_num,rfl,Hd,rfl⟩
   have Hd:Z_ (Lr kd s fi se L=x):=by
    show _=_;rw[xY.o,<-HX.o,a0p (by omega)];rfl
   go_wp2;go_ret;rw[Hd.o];exact⟨rfl,FR⟩
theorem alM(hs:s<2 ^ 256)(ht:t<2 ^ 256)(h0:wd s 0=wd t 0)(h1:wd s 1=wd t 1)(h2:wd s 2=wd t 2)(h3:wd s 3=wd t 3):s=t:=by
 apply a1D;intro i
 by_cases hi:i<256
 ·have e:∀x,x.testBit i=(wd x (i / 64)).testBit (i % 64):=λx=>by
   rw[xu _ _ _ (Nat.mod_lt _ (by decide)),show 64*(i / 64)+i % 64=i by omega]
  rw[e s,e t];rcases(by omega:i / 64=0\/i / 64=1\/i / 64=2\/i / 64=3) with h|h|h|h<;>rw[h]
  ·rw[h0]
  ·rw[h1]
  ·rw[h2]
  rw[h3]
 have hp:(2:Nat) ^ 256<=2 ^ i:=a1r (by omega) (by omega);rw[a1B (a0x hs hp),a1B (a0x ht hp)]
theorem ao8(a b c d x y z u:Int)(w:World):(Op.equalIn 10000 192 (.agg #[.int .u64 a,.int .u64 b,.int .u64 c,.int .u64 d]) (.agg #[.int .u64 x,.int .u64 y,.int .u64 z,.int .u64 u])).run Tryz.prog w=.ok (a==x&&(b==y&&(c==z&&d==u))) w:=by
 have u3:=Tryz.underlying190;have a3:=Tryz.isAgg190;have z3:=Tryz.sizeOf190;rw[show(10000:Nat)=9999+1 from rfl,Op.equalIn];simp only[Sem.run_bind,run_underlying Tryz.underlying192,Result.andThen_ok];simp only[Std.Legacy.Range.forIn_eq_forIn_range',Std.Legacy.Range.size,Nat.sub_zero,Nat.add_sub_cancel,Nat.div_one,List.range'_succ,List.range'_zero,List.forIn_cons,List.forIn_nil];go_simp
 by_cases h1:a=x<;>by_cases h2:b=y<;>by_cases h3:c=z<;>by_cases h4:d=u<;>simp[h1,h2,h3,h4]
theorem ajD(hs:s<2 ^ 256)(ht:t<2 ^ 256)(w:World):(Op.equalIn 10000 192 (.agg #[.int .u64 (wd s 0),.int .u64 (wd s 1),.int .u64 (wd s 2),.int .u64 (wd s 3)]) (.agg #[.int .u64 (wd t 0),.int .u64 (wd t 1),.int .u64 (wd t 2),.int .u64 (wd t 3)])).run Tryz.prog w=.ok (decide (s=t)) w:=by
 rw[ao8]
 congr 1
 rw[a0P];simp only[a0N,a0X,a0S,a2P]
 constructor
 ·rintro⟨h0,h1,h2,h3⟩
  exact alM hs ht (by omega) (by omega) (by omega) (by omega)
 rintro rfl;exact⟨rfl,rfl,rfl,rfl⟩
theorem ahv(f g:FV)(L M:LN)(w:World)(hv:NL .i64 w f.vp L)(hu:NL .i64 w g.vp M)(hL:L.length<=10000000000000)(hM:M.length<=10000000000000)(hs:f.s<2 ^ 256)(ht:g.s<2 ^ 256) :
 Calls Tryz.prog 129 #[.agg f.cells,.agg g.cells] w λe w'=>e=.returned (.bool (decide (f.kd=g.kd/\f.fi=g.fi/\f.se=g.se/\f.s=g.s/\L=M)))/\aA [] w w':=by
 obtain⟨kd,s,fi,se,vp,te,lk,ak,lf⟩:=f;obtain⟨kd2,s2,fi2,se2,vp2,te2,lk2,ak2,lf2⟩:=g;simp only at hv hu hs ht |-;obtain⟨a,cap,rfl,h1⟩:=hv;obtain⟨b,aP,rfl,h2⟩:=hu;have SL:=aj (λ(o o':Obj)=>Yt (.slice a L.length cap) (.slice b M.length aP) L M ((w.alloc o).alloc o') (NL.aB (S:=[]) ⟨a,cap,rfl,h1⟩ (((aA.refl _ _).alloc _).alloc _) (by simp)) (NL.aB (S:=[]) ⟨b,aP,rfl,h2⟩ (((aA.refl _ _).alloc _).alloc _) (by simp)) hL hM);have u1:FV.cells ⟨kd,s,fi,se,.slice a L.length cap,te,lk,ak,lf⟩=#[.int .i64 kd,.int .u64 (wd s 0),.int .u64 (wd s 1),.int .u64 (wd s 2),.int .u64 (wd s 3),.int .i64 fi,.int .i64 se,.slice a L.length cap,.bool te,.int .i64 lk,.int .i64 ak,.int .i64 lf]:=rfl;have u2:FV.cells ⟨kd2,s2,fi2,se2,.slice b M.length aP,te2,lk2,ak2,lf2⟩=#[.int .i64 kd2,.int .u64 (wd s2 0),.int .u64 (wd s2 1),.int .u64 (wd s2 2),.int .u64 (wd s2 3),.int .i64 fi2,.int .i64 se2,.slice b M.length aP,.bool te2,.int .i64 lk2,.int .i64 ak2,.int .i64 lf2]:=rfl;rw[u1,u2];clear u1 u2 h1 h2
 by_cases hk:kd=kd2
 case neg =>
  have n1:((kd:Int) != (kd2:Int))=true:=by rw[a1O];omega
  have Hr:Z_ (decide (kd=kd2/\fi=fi2/\se=se2/\s=s2/\L=M)=false):=by show _=_;simp[hk]
  go_enter Tryz.func129,Tryz.ntmps129
  go_wp2;go_ret;rw[Hr.o];exact⟨rfl,((aA.refl _ _).alloc _).alloc _⟩
 have n1:((kd:Int) != (kd2:Int))=false:=by rw[a1V];omega
 by_cases hf:fi=fi2
 case neg =>
  have n2:((fi:Int) != (fi2:Int))=true:=by rw[a1O];omega
  have Hr:Z_ (decide (kd=kd2/\fi=fi2/\se=se2/\s=s2/\L=M)=false):=by show _=_;simp[hf]
  go_enter Tryz.func129,Tryz.ntmps129
  go_wp2;go_ret;rw[Hr.o];exact⟨rfl,((aA.refl _ _).alloc _).alloc _⟩
 have n2:((fi:Int) != (fi2:Int))=false:=by rw[a1V];omega
 by_cases he:se=se2
 case neg =>
  have n3:((se:Int) != (se2:Int))=true:=by rw[a1O];omega
  have Hr:Z_ (decide (kd=kd2/\fi=fi2/\se=se2/\s=s2/\L=M)=false):=by show _=_;simp[he]
  go_enter Tryz.func129,Tryz.ntmps129
  go_wp2;go_ret;rw[Hr.o];exact⟨rfl,((aA.refl _ _).alloc _).alloc _⟩
 have n3:((se:Int) != (se2:Int))=false:=by rw[a1V];omega
 have Hr:Z_ (decide (kd=kd2/\fi=fi2/\se=se2/\s=s2/\L=M)=decide (s=s2/\L=M)):=by show _=_;simp[hk,hf,he]
 clear hk hf he;have EQ:=ajD hs ht
 by_cases hS:s=s2
 case neg =>
  have MU:Z_ (decide (s=s2/\L=M)=false):=by show _=_;simp[hS]
  have EQ':∀w,_:=λw=>(EQ w).trans (by rw[a0f hS])
  clear EQ;go_enter Tryz.func129,Tryz.ntmps129
  go_wp2;go_ret;rw[Hr.o,MU.o];exact⟨rfl,((aA.refl _ _).alloc _).alloc _⟩
 have MU:Z_ (decide (s=s2/\L=M)=decide (L=M)):=by show _=_;simp[hS]
 have EQ':∀w,_:=λw=>(EQ w).trans (by rw[a0h hS])
 clear EQ hS;go_enter Tryz.func129,Tryz.ntmps129
 go_wp2_with (go_at_call 143;refine(SL.o _ _).mono ?_;rintro e w' ⟨rfl,n,rfl⟩)
 go_ret;rw[Hr.o,MU.o];exact⟨rfl,aA.drewN n (((aA.refl _ _).alloc _).alloc _)⟩
def FT(w:World)(fb:Nat)(va:Value)(B:LN)(ak:Nat):Prop :=
 w.heap[fb]?=some (.cells (va::(nv .i64 B++[.int .i64 ak])).toArray 207 (0,0))/\B.length=1024
theorem FT.lt(h:FT w fb va B ak):fb<w.heap.size:=(a0d.1 h.1).1
theorem FT.fz(h:FT w fb va B ak)(o:Nat):w.frozen? ⟨fb,o,none⟩=false:=by simp[World.frozen?,h.1]
theorem FT.aB(h:FT w fb va B ak)(f:aA S w w')(hS:fb∉S):FT w' fb va B ak:=⟨(f.block fb h.lt hS).trans h.1,h.2⟩
theorem FT.c0(h:FT w fb va B ak):w.cell? ⟨fb,0,none⟩=some va:=by
 simp[World.cell?,h.1]
theorem FT.cell(h:FT w fb va B ak)(c:Nat)(hc:c<1024):w.cell? ⟨fb,1+c,none⟩=some (.int .i64 (B.getD c 0)):=by
 have hl:c<B.length:=by rw[h.2];exact hc
 have e:(va::(nv .i64 B++[.int .i64 ak]))[1+c]?=some (.int .i64 (B.getD c 0)):=by
  rw[a2m,a1u,a0u (by simp[nv];exact hl)];simp[nv,hl]
 simp[World.cell?,h.1];simpa using e
theorem FT.ao9(h:FT w fb va B ak):w.cell? ⟨fb,1025,none⟩=some (.int .i64 ak):=by
 have e:(va::(nv .i64 B++[.int .i64 ak]))[1025]?=some (.int .i64 ak):=by
  rw[a1u,a0R (by simp[nv,h.2])];simp[nv,h.2]
 simp only[World.cell?,h.1];simpa using e
theorem FT.ajE(h:FT w fb va B ak)(c m:Nat)(hc:c<1024):FT (w.setCell ⟨fb,1+c,none⟩ (.int .i64 m)) fb va (B.set c m) ak:=by
 refine⟨?_,by rw[a3k];exact h.2⟩;have hl:c<B.length:=by rw[h.2];exact hc
 have e:(va::(nv .i64 B++[.int .i64 ak])).set (1+c) (.int .i64 m)=va::(nv .i64 (B.set c m)++[.int .i64 ak]):=by
  rw[a2m,a1N,a3f _ _ (by simp[nv];exact hl)];simp[nv,a2n]
 have h1:=h.1;simp only[World.setCell,a0t,h1,a0C,a1x];rw[<-e];simp
theorem FT.set0(h:FT w fb va B ak)(m:Value):FT (w.setCell ⟨fb,0,none⟩ m) fb m B ak:=by
 refine⟨?_,h.2⟩;have h1:=h.1;simp only[World.setCell,a0t,h1,a0C,a1x];simp
theorem FT.abV(h:FT w fb va B ak)(m:Nat):FT (w.setCell ⟨fb,1025,none⟩ (.int .i64 m)) fb va B m:=by
 refine⟨?_,h.2⟩;have e:(va::(nv .i64 B++[.int .i64 ak])).set 1025 (.int .i64 m)=va::(nv .i64 B++[.int .i64 m]):=by
  rw[a1N,a1t _ _ (by simp[nv,h.2])];simp[nv,h.2]
 have h1:=h.1;simp only[World.setCell,a0t,h1,a0C,a1x];rw[<-e];simp
def fv(L:List FV):List Value:=L.flatMap λf=>f.cells.toList
def ZN:Value:=.agg #[.int .i64 0,.int .u64 0,.int .u64 0,.int .u64 0,.int .u64 0,.int .i64 0,.int .i64 0,.slice none 0 0,.bool false,.int .i64 0,.int .i64 0,.int .i64 0]
theorem ZO:(Tryz.prog.info? 203).map (λi=>(i.zero,i.size,i.bytes))=some (some ZN,12,112):=by kernel_rfl
theorem alN(L:List FV)(j k:Nat)(hk:k<12)(f:FV)(hf:L[j]?=some f):(fv L)[j*12+k]?=f.cells.toList[k]?:=by
 induction L generalizing j with
 | nil=>simp at hf
 | cons g L ih =>
   have hl:g.cells.toList.length=12:=by simp[FV.cells]
   cases j with
   | zero =>
     simp at hf;subst hf;simp only[fv,a0Z];rw[a0u (by omega)];simp
   | succ j =>
     simp only[fv,a0Z];rw[a0R (by omega),show(j+1)*12+k-g.cells.toList.length=j*12+k by omega];exact ih j (by simpa using hf)
def FL(base:Nat)(w:World)(v:Value)(L:List FV):Prop:=w.ownsRow base 203 12 v L.length (fv L)
theorem ade {o:Oper} {a:Act} {Q:Exit->Act->World->Prop}(w:World)(nJ:o.guard=none)(s x:Operand)
 (ho:o.op=.call { callee:=.builtin .append,args:=#[s,x],argTypes:=#[204,204] })
 (base:Nat) (v:Value) (L:List FV) (f:FV) (b1:Nat) (hs:a.eval s=v) (aQ:FL base w v L) (hx:a.eval x=.slice (some ⟨b1,0,none⟩) 1 1)
 (hc:w.heap[b1]?=some (.cells f.cells 203 (0,0))) (hv:f.vp.oneCell'=true) (hlen:L.length<=1000000000000) (iW:base<=w.heap.size)
 (h:∀g cap w',FL base w' (.slice (some ⟨g,0,none⟩) (L.length+1) cap) (L++[f])->w.grownBy w' v.ownBlock->(v.ownBlock=some g\/g=w.heap.size)->g<w'.heap.size->wpList Tryz.prog ops Q rest (a.put o.dst (.slice (some ⟨g,0,none⟩) (L.length+1) cap)) w') :
 wpList Tryz.prog ops Q (o::rest) a w:=by
 obtain⟨i0,hi,iA,fT,gF⟩:=info_parts ZO;refine wpList_append_lies w nJ s x 204 ho base 203 i0 ZN 12 112 Tryz.underlying204 hi iA fT gF rfl (by decide) v L.length (fv L) hs aQ ⟨b1,0,none⟩ 1 1 f.cells.toList hx (by simp[FV.cells]) ?_ ?_ (by decide) (by unfold maxLen;omega) (by omega) iW w.heap.size rfl ?_
 ·intro j u hj
  rw[add0];simp only[World.cell?,hc];simpa using hj
 ·intro u hu
  simp only[FV.cells,a0l,a1Y,or_false]at hu;rcases hu with rfl|rfl|rfl|rfl|rfl|rfl|rfl|rfl|rfl|rfl|rfl|rfl<;>first | exact hv|rfl
 intro g cap w' h1 h2 h3 h4;exact h g cap w' (by unfold FL fv;simpa[fv] using h1) h2 h3 h4
theorem af2(w:World)(a:Obj)(n:Nat)(h:n=w.heap.size):(w.alloc a).heap[n]?=some a:=by subst h;exact bK w a
theorem WN:Tryz.zeroCells207=(Value.slice none 0 0::(nv .i64 (List.replicate 1024 0)++[.int .i64 0])).toArray:=by kernel_rfl
theorem FT.new(w:World):FT (w.alloc (Obj.cells Tryz.zeroCells207 207)) w.heap.size (.slice none 0 0) (List.replicate 1024 0) 0:=by
 refine⟨?_,List.length_replicate⟩;rw[WN];exact bK _ _
def fv0:FV:=⟨0,0,0,0,.slice none 0 0,false,0,0,0⟩
def fv1:FV:=⟨1,0,0,0,.slice none 0 0,true,0,0,0⟩
theorem apa:fv0.cells=#[.int .i64 0,.int .u64 0,.int .u64 0,.int .u64 0,.int .u64 0,.int .i64 0,.int .i64 0,.slice none 0 0,.bool false,.int .i64 0,.int .i64 0,.int .i64 0]:=by kernel_rfl
theorem apb:fv1.cells=#[.int .i64 1,.int .u64 0,.int .u64 0,.int .u64 0,.int .u64 0,.int .i64 0,.int .i64 0,.slice none 0 0,.bool true,.int .i64 0,.int .i64 0,.int .i64 0]:=by kernel_rfl
theorem sz2(w:World)(a b:Obj):w.heap.size+1<=((w.alloc a).alloc b).heap.size:=by
 have e1:(w.alloc a).heap.size=w.heap.size+1:=by simp
 have e2:((w.alloc a).alloc b).heap.size=(w.alloc a).heap.size+1:=by simp
 omega
theorem Yu(w:World) :
 Calls Tryz.prog 99 #[] w λe w'=>∃va,e=.returned (.pointer (some ⟨w.heap.size,0,none⟩))/\FT w' w.heap.size va (List.replicate 1024 0) 0/\FL (w.heap.size+1) w' va [fv0,fv1]/\aA [] w w':=by
 have z0:∀h,Tryz.zeroCells207[0]'h=.slice none 0 0:=by intro h;simp only[WN];rfl
 have FN:=aj (FT.new w);have FR:Z_ (∀o,aA [] w (w.alloc o)):=λo=>(aA.refl _ _).alloc _
 go_enter Tryz.func99,Tryz.ntmps99
 go_wp2_with (first | (at_builtin;refine ade _ rfl _ _ rfl (w.heap.size+1) (.slice none 0 0) [] fv0 (w.heap.size+1) rfl (World.ownsRow_nil _ _ _ _) rfl (by rw[apa];exact af2 _ _ _ (by simp)) rfl (by simp) (sz2 _ _ _) ?_;intro gg aP w5 aQ aG aX iD;have F5:=aA.dS aG;have A5:=(FN.o.aB (S:=[]) ((aA.refl _ _).alloc _) (by simp)).aB F5 (by simp[Value.ownBlock]);have A6:=aj (A5.set0 (.slice (some ⟨gg,0,none⟩) 1 aP));have q1:=A5.c0;have q2:=A5.fz 0;have U5:=aj (ownsRow_setCell_below aQ (a:=⟨w.heap.size,0,none⟩) (by simp) (.slice (some ⟨gg,0,none⟩) 1 aP));have F6:=aj (((FR.o _).alloc _).grown aG (λk hk=>by simp[Value.ownBlock]at hk));have z5:=a0e (sz2 _ _ _) aG.size;clear aQ aG aX F5 A5)|(at_builtin;refine ade _ rfl _ _ rfl (w.heap.size+1) (.slice (some ⟨_,0,none⟩) 1 _) [fv0] fv1 _ rfl (U5.o.alloc _) rfl (by rw[apb];exact af2 _ _ _ (by simp)) rfl (by simp) (by first | (simp;done)|(simp;omega)) ?_;intro g2 Zi w7 aQ aG aX aqx;have hge:w.heap.size+1<=gg:=(U5.o.lt _ rfl).1;have A7:=(A6.o.aB (S:=[]) ((aA.refl _ _).alloc _) (by simp)).aB (aA.dS aG) (by simp[Value.ownBlock];omega);have q3:=A7.c0;have q4:=A7.fz 0;have A8:=aj (A7.set0 (.slice (some ⟨g2,0,none⟩) 2 Zi));have U8:=aj (ownsRow_setCell_below aQ (a:=⟨w.heap.size,0,none⟩) (a2B _) (.slice (some ⟨g2,0,none⟩) 2 Zi));have F8:=aj (((F6.o.setCell (.inr (a0a _)) _).alloc _).grown aG (λk hk=>Or.inr (by simp[Value.ownBlock]at hk;omega)));clear aQ aG aX A7 U5 A6 F6))
 go_ret;exact⟨_,rfl,A8,U8,F8.o.setCell (.inr (a0a _)) _⟩
theorem kW {base:Nat}{size:Nat}(h:w.ownsRow base e size v n xs)(f:aA S w w')(hS:∀k,v.ownBlock=some k->k∉S):w'.ownsRow base e size v n xs:=by
 refine⟨h.1,?_⟩;rcases h.2 with hn|⟨g,cap,cur,rfl,hb,mP,rest⟩
 ·exact .inl hn
 refine .inr ⟨g,cap,cur,rfl,hb,?_,rest⟩;rw[f.block g (a0d.1 mP).1 (hS g rfl)];exact mP
def ZP(k:KY):Int:=Go.bits BinOp.xor IntKind.u32 (Lr k.kd k.s k.fi k.se k.L) (Lr k.kd k.s k.fi k.se k.L / 2 ^ 16)
def lh(k:KY):Nat:=(ZP k % 1024).toNat
theorem af3(k:KY):lh k<1024:=by unfold lh;omega
theorem alO(k:KY):ZP k % 1024=(lh k:Int):=by unfold lh;omega
def jy(e:FV × LN):KY:=⟨e.1.kd,e.1.s,e.1.fi,e.1.se,e.2⟩
def PL(w:World)(v:Value)(L:LN):Prop :=
 NL .i64 w v L/\(∀a n c,v=.slice (some a) n c->∃cur fz,w.heap[a.block]?=some (.cells cur 3 fz))/\L.length<=10000000000000
theorem PL.cell1(h:PL w v L):v.oneCell'=true:=by
 obtain⟨a,cap,rfl,_⟩:=h.1;rfl
theorem PL.nil(w:World):PL w (.slice none 0 0) []:=⟨⟨none,0,rfl,λj h=>by simp at h⟩,λa n c e=>by simp at e,by simp⟩
theorem PL.af4 {base:Nat}(h:IL base w v L)(hl:L.length<=10000000000000):PL w v L:=by
 refine⟨vM h,?_,hl⟩;intro a n c e;rcases h.2 with⟨e1,_⟩|⟨g,cap,cur,e1,_,hg,_⟩
 ·rw[e1]at e;simp at e
 rw[e1]at e;simp at e;obtain⟨rfl,_⟩:=e;exact⟨cur,_,hg⟩
def oP(w:World)(S:LN):Prop:=∀k∈S,∀cur fz,w.heap[k]?≠some (.cells cur 3 fz)
theorem PL.aB(h:PL w v L)(f:aA S w w')(hS:oP w S):PL w' v L:=by
 have hn:∀a n c,v=.slice (some a) n c->a.block∉S:=λa n c e hm=>by
  obtain⟨cur,fz,hc⟩:=h.2.1 a n c e;exact hS _ hm cur fz hc
 refine⟨h.1.aB f hn,?_,h.2.2⟩;intro a n c e;obtain⟨cur,fz,hc⟩:=h.2.1 a n c e;exact⟨cur,fz,(f.block _ (a0d.1 hc).1 (hn a n c e)).trans hc⟩
theorem oP.nil(w:World):oP w []:=λk hk=>by simp at hk
structure TE(base:Nat)(w:World)(fb vb:Nat)(E:List (FV × LN))(B:LN)(ak:Nat):Prop where
 row:∃cap,FT w fb (.slice (some ⟨vb,0,none⟩) E.length cap) B ak/\FL base w (.slice (some ⟨vb,0,none⟩) E.length cap) (E.map Prod.fst)
 pl:∀e∈E,PL w e.1.vp e.2
 st:∀e∈E,e.1.s<2 ^ 256
 fb:fb<base
 sz:base<=w.heap.size
theorem TE.Yv {base:Nat} {E:List (FV × LN)}(h:TE base w fb vb E B ak) :
 base<=vb/\vb<w.heap.size/\∃cur,w.heap[vb]?=some (.cells cur 203 (0,0)):=by
 obtain⟨cap,_,h1⟩:=h.row;have h2:=h1.lt vb rfl;refine⟨h2.1,h2.2,?_⟩;rcases h1.2 with⟨e1,_⟩|⟨g,c,cur,e1,_,hg,_⟩
 ·simp at e1
 simp at e1;obtain⟨rfl,_⟩:=e1;exact⟨cur,hg⟩
theorem TE.uj {base:Nat} {E:List (FV × LN)}(h:TE base w fb vb E B ak):oP w [fb,vb]:=by
 obtain⟨cap,h1,_⟩:=h.row;obtain⟨_,_,cur,h2⟩:=h.Yv;intro k hk aib fz;simp only[a0l,a1Y,or_false]at hk;rcases hk with rfl|rfl
 ·rw[h1.1];simp
 rw[h2];simp
theorem TE.aB {base:Nat} {E:List (FV × LN)}(h:TE base w fb vb E B ak)(f:aA S w w')(h1:fb∉S)(h2:vb∉S)(h3:oP w S):TE base w' fb vb E B ak:=by
 obtain⟨cap,ht,hl⟩:=h.row;exact⟨⟨cap,ht.aB f h1,kW hl f (λk hk=>by simp[Value.ownBlock]at hk;subst hk;exact h2)⟩,λe he=>(h.pl e he).aB f h3,h.st,h.fb,a0e h.sz f.size⟩
theorem TE.aW {base:Nat} {E:List (FV × LN)}(h:TE base w fb vb E B ak)(f:aA [] w w'):TE base w' fb vb E B ak :=
 h.aB f (by simp) (by simp) (oP.nil _)
theorem TE.cell {base:Nat} {E:List (FV × LN)}(h:TE base w fb vb E B ak) {e:FV × LN}(hi:E[i]?=some e)(k:Nat)(hk:k<12) :
 w.cell? ⟨vb,i*12+k,none⟩=e.1.cells.toList[k]?:=by
 obtain⟨cap,_,hl⟩:=h.row;have h1:=alN (E.map Prod.fst) i k hk e.1 (by simp[hi]);have h3:=World.ownsRow.cells hl (g:=vb) rfl (i*12+k);have aO:k<e.1.cells.toList.length:=by simp[FV.cells];omega
 rw[a0c aO]at h1 |-;have:=h3 _ h1;rw[add0]at this;exact this
structure TP(E:List (FV × LN))(B:LN)(D:List NF)(ak c:Nat):Prop where
 tb:Ml (E.map jy) D
 bu:∀b,b<1024->B.getD b 0=lastB lh (E.map jy) b E.length
 lk:∀(i:Nat) (e:FV × LN),2<=i->E[i]?=some e->e.1.lk=lastB lh (E.map jy) (lh (jy e)) i
 te:∀(i:Nat) (e:FV × LN) (d:NF),E[i]?=some e->D[i]?=some d->e.1.te=dY d
 al:∀e∈E,e.1.ak<=ak
 mm:1<=ak->∀(i:Nat) (e:FV × LN) (d:NF),E[i]?=some e->D[i]?=some d->e.1.ak=ak->D[e.1.lf]?=some (left c d)
theorem TP.len {E:List (FV × LN)}{c:Nat}(h:TP E B D ak c):E.length=D.length:=by have:=h.tb.len;simpa using this
theorem TP.two {E:List (FV × LN)}{c:Nat}(h:TP E B D ak c):2<=E.length:=by rw[h.len];exact h.tb.two
theorem TP.push {E:List (FV × LN)}{c:Nat}(h:TP E B D ak c)(hB:B.length=1024) {f:FV}
 (hk:Ky D D.length (jy (f,L)) d) (hw:WC d) (hd:d∉D) (Bu:f.te=dY d) (Kv:f.lk=B.getD (lh (jy (f,L))) 0) (ha:f.ak=0) :
 TP (E++[(f,L)]) (B.set (lh (jy (f,L))) E.length) (D++[d]) ak c:=by
 have hl:=h.len;have h2:=h.two;have hkl:(E.map jy).length=E.length:=by simp
 refine⟨?_,?_,?_,?_,?_,?_⟩
 ·rw[a0T];exact h.tb.push hk hw hd
 ·intro b hb
  rw[a0T,a0v];show _=lastB lh (E.map jy++[jy (f,L)]) b (E.length+1);have e:=aej lh (E.map jy) (jy (f,L)) b (by omega);rw[hkl]at e;rw[e]
  by_cases FU:lh (jy (f,L))=b
  ·subst FU;simp[List.getD,hB,hb]
  rw[a0g FU,<-h.bu b hb];simp[List.getD,List.getElem?_set,FU]
 ·intro i e hi he
  rw[a0T];show _=lastB lh (E.map jy++[jy (f,L)]) _ i;have jf:=(a0i.1 he).1;simp at jf;rw[Fw _ _ _ _ _ (by omega)]
  by_cases aO:i<E.length
  ·rw[a0u aO]at he
   exact h.lk i e hi he
  have:i=E.length:=by omega
  subst this;simp at he;subst he;rw[<-h.bu _ (af3 _)];exact Kv
 ·intro i e d' he EP
  by_cases aO:i<E.length
  ·rw[a0u aO]at he
   rw[a0u (by omega)]at EP;exact h.te i e d' he EP
  have jf:=(a0i.1 he).1;simp at jf;have:i=E.length:=by omega
  subst this;rw[hl]at EP;simp at he EP;subst he EP;exact Bu
 ·intro e he
  rcases a0b.1 he with e1|e1
  ·exact h.al e e1
  simp at e1;subst e1;simp[ha]
 intro h1 i e d' he EP hak
 by_cases aO:i<E.length
 ·rw[a0u aO]at he
  rw[a0u (by omega)]at EP;have:=h.mm h1 i e d' he EP hak;have hb:=(a0i.1 this).1;rw[a0u hb];exact this
 have jf:=(a0i.1 he).1;simp at jf;have:i=E.length:=by omega
 subst this;simp at he;subst he;simp only at hak;omega
def ZZ(w:World)(E:List (FV × LN))(Z:LN):Prop:=(∀k∈Z,k<w.heap.size)/\∀e∈E,∀x n c,e.1.vp=.slice (some x) n c->x.block∉Z
theorem ZZ.mono {E:List (FV × LN)}(h:ZZ w E Z)(hs:w.heap.size<=w'.heap.size):ZZ w' E Z:=⟨λk hk=>a0x (h.1 k hk) hs,h.2⟩
def ST(base:Nat)(w:World)(fb vb:Nat)(D:List NF)(ak c:Nat)(U:List NF)(Z:LN):Prop :=
 ∃E B,TE base w fb vb E B ak/\TP E B D ak c/\(∀x∈D,x∈U)/\U.length<=1000000000000/\ZZ w E Z
theorem ST.len {base:Nat}{c:Nat}(h:ST base w fb vb D ak c U Z):D.length<=1000000000000:=by
 obtain⟨E,B,_,h2,h3,h4,_⟩:=h;exact a0e (oK h2.tb.nd h3) h4
theorem ST.aW {base:Nat}{c:Nat}(h:ST base w fb vb D ak c U Z)(f:aA [] w w'):ST base w' fb vb D ak c U Z:=by
 obtain⟨E,B,h1,h2,h3,h4,h5⟩:=h;exact⟨E,B,h1.aW f,h2,h3,h4,h5.mono f.size⟩
theorem ST.aB {base:Nat}{c:Nat}(h:ST base w fb vb D ak c U Z)(f:aA S w w')(h1:fb∉S)(h2:vb∉S)(h3:oP w S):ST base w' fb vb D ak c U Z:=by
 obtain⟨E,B,k1,k2,k3,k4,k5⟩:=h;exact⟨E,B,k1.aB f h1 h2 h3,k2,k3,k4,k5.mono f.size⟩
structure FQ(fb vb jg:Nat)(w w':World):Prop where
 fr:aA [fb,vb] w w'
 mv:jg=vb\/w.heap.size<=jg
theorem FQ.refl(fb vb:Nat)(w:World):FQ fb vb vb w w:=⟨aA.refl _ _,.inl rfl⟩
theorem FQ.trans{c:Nat}{z:World}(h:FQ fb a b x y)(k:FQ fb b c y z):FQ fb a c x z:=by
 refine⟨⟨k.fr.os.trans h.fr.os,k.fr.tape.trans h.fr.tape,k.fr.output.trans h.fr.output,a0e h.fr.size k.fr.size,λi hi hS=>?_⟩,?_⟩
 ·refine(k.fr.block i (a0x hi h.fr.size) ?_).trans (h.fr.block i hi hS)
  simp only[a0l,a1Y,or_false,not_or]at hS |-;refine⟨hS.1,λe=>?_⟩;rcases h.mv with e1|e1
  ·exact hS.2 (e.trans e1)
  omega
 have:=h.fr.size;rcases k.mv with e|e
 ·rcases h.mv with e1|e1
  ·exact .inl (e.trans e1)
  exact .inr (by omega)
 exact .inr (by omega)
theorem FQ.WQ{z:World}(h:aA [] x y)(k:FQ fb a b y z):FQ fb a b x z :=
 FQ.trans ⟨h.nil,.inl rfl⟩ k
theorem FQ.keepR{z:World}(h:FQ fb a b x y)(k:aA [] y z):FQ fb a b x z :=
 h.trans ⟨k.nil,.inl rfl⟩
theorem FQ.block(h:FQ fb a b x y) {k:Nat}(hk:k<x.heap.size)(h1:k≠fb)(h2:k≠a):y.heap[k]?=x.heap[k]?:=h.fr.block k hk (by simp[h1,h2])
theorem PD(a b:Int):0<=Go.bits BinOp.xor IntKind.u32 a b:=by
 show 0<=IntKind.u32.wrap ((BitVec.ofInt 32 a ^^^ BitVec.ofInt 32 b).toNat:Int);simp[IntKind.wrap,IntKind.bits,IntKind.signed];omega
theorem Nu(k:KY):0<=ZP k:=PD _ _
theorem ahw(k:KY):(ZP k).tmod 1024=(lh k:Int):=by rw[a2f (Nu k)];exact alO k
def RQ(base:Nat)(w:World)(fb vb:Nat)(D:List NF)(ak c:Nat)(U:List NF)(Z:LN)(y:NF)(e:Ending)(w':World):Prop :=
 ∃jg R r,e=.returned (.int .i64 (r:Nat))/\ST base w' fb jg (D++R) ak c U Z/\(D++R)[r]?=some y/\FQ fb vb jg w w'
theorem TE.ajE {base:Nat} {E:List (FV × LN)}(h:TE base w fb vb E B ak)(b n:Nat)(hb:b<1024) :
 TE base (w.setCell ⟨fb,1+b,none⟩ (.int .i64 n)) fb vb E (B.set b n) ak:=by
 obtain⟨cap,ht,hl⟩:=h.row;have F:aA [fb] w (w.setCell ⟨fb,1+b,none⟩ (.int .i64 n)):=(aA.refl _ _).setCell (.inl (by simp)) _;have hv:=h.Yv;have hfb:=h.fb;refine⟨⟨cap,ht.ajE b n hb,kW hl F λk hk=>by simp[Value.ownBlock]at hk;subst hk;simp;omega⟩,λe he=>(h.pl e he).aB F ?_,h.st,h.fb,?_⟩
 ·intro k hk;exact h.uj k (by simp at hk;simp[hk])
 exact a0e h.sz F.size
theorem TE.abV {base:Nat} {E:List (FV × LN)}(h:TE base w fb vb E B ak)(n:Nat) :
 TE base (w.setCell ⟨fb,1025,none⟩ (.int .i64 n)) fb vb E B n:=by
 obtain⟨cap,ht,hl⟩:=h.row;have F:aA [fb] w (w.setCell ⟨fb,1025,none⟩ (.int .i64 n)):=(aA.refl _ _).setCell (.inl (by simp)) _;have hv:=h.Yv;have hfb:=h.fb;refine⟨⟨cap,ht.abV n,kW hl F λk hk=>by simp[Value.ownBlock]at hk;subst hk;simp;omega⟩,λe he=>(h.pl e he).aB F ?_,h.st,h.fb,?_⟩
 ·intro k hk;exact h.uj k (by simp at hk;simp[hk])
 exact a0e h.sz F.size
theorem TE.grow {base:Nat}{cap:Nat} {E:List (FV × LN)} {f:FV}(h:TE base w fb vb E B ak)(hp:PL w f.vp L)(hs:f.s<2 ^ 256)
 (hg:w.grownBy w' (some vb)) (aQ:w'.ownsRow base 203 12 (.slice (some ⟨g,0,none⟩) (E.length+1) cap) (E.length+1) (fv (E.map Prod.fst)++f.cells.toList)) :
 TE base (w'.setCell ⟨fb,0,none⟩ (.slice (some ⟨g,0,none⟩) (E.length+1) cap)) fb g (E++[(f,L)]) B ak:=by
 obtain⟨Ey,ht,hl⟩:=h.row;have hv:=h.Yv;have hfb:=h.fb;have F:aA [vb] w w':=aA.dS hg;have F2:aA [fb] w' (w'.setCell ⟨fb,0,none⟩ (.slice (some ⟨g,0,none⟩) (E.length+1) cap)):=(aA.refl _ _).setCell (.inl (by simp)) _;have F3:aA [fb,vb] w (w'.setCell ⟨fb,0,none⟩ (.slice (some ⟨g,0,none⟩) (E.length+1) cap)):=(F.mono (by intro k _ hk;simp at hk;simp[hk])).trans (F2.mono (by intro k _ hk;simp at hk;simp[hk]));have hT:=(ht.aB F (by simp;omega)).set0 (.slice (some ⟨g,0,none⟩) (E.length+1) cap);refine⟨⟨cap,by simpa using hT,?_⟩,?_,?_,h.fb,a0e h.sz F3.size⟩
 ·have:=ownsRow_setCell_below aQ (a:=⟨fb,0,none⟩) hfb (.slice (some ⟨g,0,none⟩) (E.length+1) cap)
  unfold FL;simpa[fv] using this
 ·intro e he
  rcases a0b.1 he with he|he
  ·exact(h.pl e he).aB F3 h.uj
  simp at he;subst he;exact hp.aB F3 h.uj
 intro e he;rcases a0b.1 he with he|he
 ·exact h.st e he
 simp at he;subst he;exact hs
theorem PE {base:Nat} {E:List (FV × LN)}(h:TE base w fb vb E B ak) {f:FV}(hi:E[i]?=some (f,L)) :
 w.cell? ⟨vb,i*12,none⟩=some (.int .i64 f.kd)/\w.cell? ⟨vb,i*12+1,none⟩=some (.int .u64 (wd f.s 0))/\w.cell? ⟨vb,i*12+2,none⟩=some (.int .u64 (wd f.s 1))/\w.cell? ⟨vb,i*12+3,none⟩=some (.int .u64 (wd f.s 2))/\w.cell? ⟨vb,i*12+4,none⟩=some (.int .u64 (wd f.s 3)) /\
 w.cell? ⟨vb,i*12+5,none⟩=some (.int .i64 f.fi)/\w.cell? ⟨vb,i*12+6,none⟩=some (.int .i64 f.se)/\w.cell? ⟨vb,i*12+7,none⟩=some f.vp/\w.cell? ⟨vb,i*12+8,none⟩=some (.bool f.te)/\w.cell? ⟨vb,i*12+9,none⟩=some (.int .i64 f.lk)/\w.cell? ⟨vb,i*12+10,none⟩=some (.int .i64 f.ak)/\w.cell? ⟨vb,i*12+11,none⟩=some (.int .i64 f.lf) :=
 ⟨h.cell hi 0 (by decide),h.cell hi 1 (by decide),h.cell hi 2 (by decide),h.cell hi 3 (by decide),h.cell hi 4 (by decide),h.cell hi 5 (by decide),h.cell hi 6 (by decide),h.cell hi 7 (by decide),h.cell hi 8 (by decide),h.cell hi 9 (by decide),h.cell hi 10 (by decide),h.cell hi 11 (by decide)⟩
def FX(w:World)(xb:Nat)(f:FV):Prop:=w.heap[xb]?=some (.cells f.cells 203 (0,0))
theorem FX.lt {f:FV}(h:FX w xb f):xb<w.heap.size:=(a0d.1 h).1
theorem FX.aB {f:FV}(h:FX w xb f)(F:aA S w w')(hS:xb∉S):FX w' xb f:=(F.block xb h.lt hS).trans h
theorem FX.fz {f:FV}(h:FX w xb f)(o:Nat):w.frozen? ⟨xb,o,none⟩=false:=by unfold FX at h;simp[World.frozen?,h]
theorem FX.get {f:FV}(h:FX w xb f) :
 w.cell? ⟨xb,0,none⟩=some (.int .i64 f.kd)/\w.cell? ⟨xb,1,none⟩=some (.int .u64 (wd f.s 0))/\w.cell? ⟨xb,2,none⟩=some (.int .u64 (wd f.s 1))/\w.cell? ⟨xb,3,none⟩=some (.int .u64 (wd f.s 2))/\w.cell? ⟨xb,4,none⟩=some (.int .u64 (wd f.s 3)) /\
 w.cell? ⟨xb,5,none⟩=some (.int .i64 f.fi)/\w.cell? ⟨xb,6,none⟩=some (.int .i64 f.se)/\w.cell? ⟨xb,7,none⟩=some f.vp/\w.cell? ⟨xb,8,none⟩=some (.bool f.te)/\w.cell? ⟨xb,9,none⟩=some (.int .i64 f.lk)/\w.cell? ⟨xb,10,none⟩=some (.int .i64 f.ak)/\w.cell? ⟨xb,11,none⟩=some (.int .i64 f.lf):=by
 unfold FX at h;simp only[World.cell?,h];exact⟨rfl,rfl,rfl,rfl,rfl,rfl,rfl,rfl,rfl,rfl,rfl,rfl⟩
theorem FX.anJ {f:FV}(h:FX w xb f)(n:Nat):FX (w.setCell ⟨xb,9,none⟩ (.int .i64 n)) xb { f with lk:=n }:=by
 unfold FX at h |-;simp only[World.setCell,a0t,h,a0C,a1x]
 rfl
theorem FV.one(f:FV)(hv:f.vp.oneCell'=true):∀u∈f.cells.toList,u.oneCell'=true:=by
 intro u hu;simp only[FV.cells,a0l,a1Y,or_false]at hu;rcases hu with rfl|rfl|rfl|rfl|rfl|rfl|rfl|rfl|rfl|rfl|rfl|rfl<;>first | exact hv|rfl
def Nv(K:List KY)(k:KY)(i:Nat):Prop :=
 (i=0\/(2<=i/\i<K.length/\K[i]?.map lh=some (lh k)))/\∀j,i<j->2<=j->K[j]?≠some k
theorem Nv.start(K:List KY)(k:KY):Nv K k (lastB lh K (lh k) K.length):=by
 constructor
 ·exact xG lh K (lh k) K.length
 intro j hj h2 hk;have hl:=(a0i.1 hk).1;have:=Kk lh K (lh k) K.length j hl h2 (by rw[hk];rfl);omega
theorem Nv.next {K:List KY} {k q:KY}(h:Nv K k i)(hi:0<i)(hq:K[i]?=some q)(bL:q≠k):lh q=lh k/\lastB lh K (lh q) i<i/\Nv K k (lastB lh K (lh q) i):=by
 have hb:lh q=lh k:=by
  rcases h.1 with e|⟨_,_,e⟩
  ·omega
  rw[hq]at e;simpa using e
 have aO:lastB lh K (lh q) i<i:=by rcases xG lh K (lh q) i with e|⟨_,e,_⟩<;>omega
 refine⟨hb,aO,?_,?_⟩
 ·rcases xG lh K (lh q) i with e|⟨e1,e2,e3⟩
  ·exact .inl e
  rcases h.1 with e|⟨_,e,_⟩
  ·omega
  exact .inr ⟨e1,by omega,by rw[e3,hb]⟩
 intro j hj h2 hk
 by_cases hji:i<j
 ·exact h.2 j hji h2 hk
 by_cases ou:j=i
 ·subst ou;rw[hq]at hk;simp at hk;exact bL hk
 have:=Kk lh K (lh q) i j (by omega) h2 (by rw[hk,hb];rfl);omega
def RE(base:Nat)(w:World)(fb vb:Nat)(E:List (FV × LN))(D:List NF)(ak c:Nat)(U:List NF)(Z:LN)(y:NF)(vp:Value)(L:LN)(e:Ending)(w':World):Prop :=
 ∃jg R r E' B',e=.returned (.int .i64 (r:Nat))/\TE base w' fb jg E' B' ak/\TP E' B' (D++R) ak c/\(∀x∈D++R,x∈U)/\U.length<=1000000000000/\(D++R)[r]?=some y/\FQ fb vb jg w w'/\(∀e∈E',e∈E\/(e.1.vp=vp/\e.2=L))/\ZZ w' E' Z
theorem RE.rq {base:Nat} {E:List (FV × LN)}{c:Nat} {y:NF} {vp:Value} {e:Ending}(h:RE base w fb vb E D ak c U Z y vp L e w'):RQ base w fb vb D ak c U Z y e w':=by
 obtain⟨jg,R,r,E',B',h1,h2,h3,h4,h5,h6,h7,_,h8⟩:=h;exact⟨jg,R,r,h1,⟨E',B',h2,h3,h4,h5,h8⟩,h6,h7⟩
theorem ZQ(base:Nat)(w:World)(fb vb:Nat)(E:List (FV × LN))(B:LN)(D:List NF)(ak c:Nat)(U:List NF)(Z:LN)(f:FV)(L:LN)(d:NF)
 (hE:TE base w fb vb E B ak) (hP:TP E B D ak c) (hU:∀x∈D,x∈U) (CG:U.length<=1000000000000) (hp:PL w f.vp L) (hs:f.s<2 ^ 256) (hk:Ky D D.length (jy (f,L)) d) (hw:WC d) (hd:d∈U) (Bu:f.te=dY d) (ha:f.ak=0) (Jw:ZZ w E Z) (MW:∀x n cc,f.vp=.slice (some x) n cc->x.block∉Z) :
 Calls Tryz.prog 118 #[.pointer (some ⟨fb,0,none⟩),.agg f.cells] w (RE base w fb vb E D ak c U Z d f.vp L):=by
 have HZZ:=aj Jw;have HFZ:=aj MW;clear Jw MW;have hlen:D.length<=1000000000000:=a0e (oK hP.tb.nd hU) CG;have hEl:E.length=D.length:=hP.len;have HH:Z_ (∀w',aA [] w w'->Calls Tryz.prog 128 #[.agg f.cells] w' λe w2=>e=.returned (.int .u32 (ZP (jy (f,L))))/\aA [] w' w2) :=
  λw' F=>ahu f L w' (hp.1.aB F (by simp)) hp.2.2
 have SM:Z_ (∀(w':World) (g:FV) (M:LN),aA [] w w'->(g,M)∈E->Calls Tryz.prog 129 #[.agg g.cells,.agg f.cells] w' λe w2=>(∃b:Bool,e=.returned (.bool b)/\(b=true->jy (g,M)=jy (f,L))/\(b=false->jy (g,M)≠jy (f,L)))/\aA [] w' w2):=by
  intro w' g M F hm;refine(ahv g f M L w' ((hE.pl _ hm).1.aB F (by simp)) (hp.1.aB F (by simp)) (hE.pl _ hm).2.2 hp.2.2 (hE.st _ hm) hs).mono ?_;rintro e w2 ⟨rfl,hf⟩;refine⟨⟨_,rfl,?_,?_⟩,hf⟩
  ·intro hb
   rw[a0S]at hb;simp only[jy,KY.mk.injEq];exact⟨hb.1,hb.2.2.2.1,hb.2.1,hb.2.2.1,hb.2.2.2.2⟩
  intro hb e;rw[a1i]at hb;simp only[jy,KY.mk.injEq]at e;exact hb ⟨e.1,e.2.2.1,e.2.2.2.1,e.2.1,e.2.2.2.2⟩
 have hbk:=af3 (jy (f,L));have aqy:=ahw (jy (f,L));have ER:=Nu (jy (f,L));obtain⟨cap,hT,hF⟩:=hE.row;have hB:B.getD (lh (jy (f,L))) 0=lastB lh (E.map jy) (lh (jy (f,L))) E.length:=hP.bu _ hbk;have ST0:Z_ (Nv (E.map jy) (jy (f,L)) (B.getD (lh (jy (f,L))) 0)):=by
  show Nv _ _ _;rw[hB];have:=Nv.start (E.map jy) (jy (f,L));simpa using this
 have HE:=aj hE;have HP:=aj hP;have HPL:=aj hp;have HT:=aj hT;have XB0:Z_ (FX (w.alloc (.cells f.cells 203)) w.heap.size f):=bK w _;have HEL:=aj hEl;have HTE:=aj Bu;have HAK:=aj ha;have HK0:=aj hk;have hlE:E.length<=1000000000000:=by omega
 clear hP hE hp hT hF hB hEl Bu ha hk;have HKK:Z_ (lh (jy (f,L))<1024):=hbk;generalize hKK:lh (jy (f,L))=b at *;generalize ZP (jy (f,L))=H at *;have HK:=aj hKK;generalize hB0:B.getD b 0=i0 at *;have vG:=aj hB0;clear hKK hB0;have Cu:=HE.o.Yv;have hfb:=HE.o.fb;have fM:=HE.o.sz;have Va:f.cells=#[.int .i64 f.kd,.int .u64 (wd f.s 0),.int .u64 (wd f.s 1),.int .u64 (wd f.s 2),.int .u64 (wd f.s 3),.int .i64 f.fi,.int .i64 f.se,f.vp,.bool f.te,.int .i64 f.lk,.int .i64 f.ak,.int .i64 f.lf]:=rfl;rw[Va]at HH SM |-;have HUN:=aj Va;clear Va;go_enter Tryz.func118,Tryz.ntmps118
 go_wp2_with (go_at_call 128;refine(HH.o _ ((aA.refl _ _).alloc _)).mono ?_;rintro e w2 ⟨rfl,aS⟩;have F2:=aj (((aA.refl [] w).alloc _).trans aS);have X2:=aj (FX.aB XB0.o aS (by simp));have T2:=HT.o.aB F2.o (by simp);have q1:w2.cell? ⟨fb,1+b,none⟩=some (.int .i64 i0):=(by have:=T2.cell b hbk;rw[vG.o]at this;exact this);clear aS T2)
 go_loopg [6] i0 (λk vi wr=>vi=.int .i64 (k:Nat)/\Z_ (Nv (E.map jy) (jy (f,L)) k)/\FX wr w.heap.size f/\aA [] w wr)
 case atStart=>exact⟨rfl,ST0,X2,F2⟩
 case round =>
  clear X2 F2 q1;obtain⟨rfl,hsr,hx,bU⟩:=hrel;have X3:=aj hx;have F3:=aj bU;have z3:=bU.size;have x3:=hx.lt;clear hx bU;have T3:=aj (HE.o.aW F3);have r0:=(HT.o.aB F3.o (by simp)).c0
  by_cases h0:gk=0
  ·subst h0
   have hnD:Z_ (d∉D):=by
    intro hm;obtain⟨i,hi⟩:=a3h hm;have:=HP.o.tb.found HK0.o hi;exact hsr.o.2 i (by omega) this.1 this.2
   have T3t:=HT.o.aB F3.o (by simp);have q1:wr.cell? ⟨fb,1+b,none⟩=some (.int .i64 i0):=by have:=T3t.cell b hbk;rw[vG.o]at this;exact this
   have q2:=T3t.fz (1+b);have q3:=X3.o.fz 9;obtain⟨x0,x1,x2,x3',x4,x5,x6,x7,x8,x9,x10,x11⟩:=X3.o.get;clear x0 x1 x2 x3' x4 x5 x6 x7 x8 x10 x11;have X4:=aj (X3.o.anJ i0);have F4:Z_ (aA [] w (wr.setCell ⟨w.heap.size,9,none⟩ (.int .i64 i0))):=F3.o.setCell (.inr (a0a _)) _;have T4:=aj (HE.o.aW F4);have T5:=aj (T4.o.ajE b E.length hbk);have F5:Z_ (aA [fb] w ((wr.setCell ⟨w.heap.size,9,none⟩ (.int .i64 i0)).setCell ⟨fb,1+b,none⟩ (.int .i64 E.length))):=aA.setCell F4.o.nil (.inl (by simp)) _;have X5:Z_ (FX ((wr.setCell ⟨w.heap.size,9,none⟩ (.int .i64 i0)).setCell ⟨fb,1+b,none⟩ (.int .i64 E.length)) w.heap.size { f with lk:=i0 }):=X4.o.aB (S:=[fb]) ((aA.refl _ _).setCell (.inl (by simp)) _) (by simp;omega);clear T3t X3 T3;go_wp2_with fail
   generalize ((wr.setCell ⟨w.heap.size,9,none⟩ (.int .i64 i0)).setCell ⟨fb,1+b,none⟩ (.int .i64 E.length))=wc at T5 F5 X5 |-;clear q1 q2 q3 x9 r0 X4 F4 T4;obtain⟨amr,T5t,T5l⟩:=T5.o.row;have r0:=T5t.c0;have r1:=T5t.fz 0;have TT:=aj T5t;have TL:Z_ (wc.ownsRow base 203 12 (.slice (some ⟨vb,0,none⟩) E.length amr) E.length (fv (E.map Prod.fst))):=by
    have:=T5l;unfold FL at this;rw[a0B]at this;exact this
   clear T5t T5l;obtain⟨x0,x1,x2,x3',x4,x5,x6,x7,x8,x9,x10,x11⟩:=X5.o.get;simp only at x0 x1 x2 x3' x4 x5 x6 x7 x8 x9 x10 x11;have z5:=F5.o.size;have apc:=TT.o.lt;have bL:fb≠vb:=by omega
   have hvp:f.vp.oneCell'=true:=HPL.o.cell1;obtain⟨i9,hi,KH,Sv,EK⟩:=info_parts ZO;have g2:∀o:Obj,(wc.alloc o).drew.frozen? ⟨fb,0,none⟩=false:=λo=>((((aA.refl [] wc).alloc o).drew).frozen apc (by simp)).trans r1
   go_region_law ((refine step_append_lies _ (by rfl) _ _ _ (by rfl) base 203 i9 _ 12 112 Tryz.underlying204 hi KH Sv EK rfl (by omega) (.slice (some ⟨vb,0,none⟩) E.length amr) E.length (fv (E.map Prod.fst)) (by rfl) (by exact TL.o.alloc _) ⟨wc.heap.size,0,none⟩ 1 1 (FV.cells ⟨f.kd,f.s,f.fi,f.se,f.vp,f.te,i0,f.ak,f.lf⟩).toList (by rfl) (by rfl) (World.news_of_block (cs:=FV.cells ⟨f.kd,f.s,f.fi,f.se,f.vp,f.te,i0,f.ak,f.lf⟩) (t:=203) (fr:=(0,0)) (by exact bK _ _)) (FV.one _ (by exact hvp)) (by omega) (by unfold maxLen;omega) (by omega) (by simp;omega) (wc.heap.size+1) (by simp) ?_;intro gg aP w4 bF aG aX zx;have c4:=(aG.cell_far ⟨fb,0,none⟩ (by simp;omega) (by simp[Value.ownBlock];omega));have f4:=(aG.frozen_far ⟨fb,0,none⟩ (by simp;omega) (by simp[Value.ownBlock];omega));have f5:=f4.trans (g2 _)))
   all_goals
    have T6:=T5.o.aW (((aA.refl [] wc).alloc (Obj.cells (FV.cells ⟨f.kd,f.s,f.fi,f.se,f.vp,f.te,i0,f.ak,f.lf⟩) 203)).drew);have P5:PL wc f.vp L:=HPL.o.aB F5.o (λk hk=>HE.o.uj k (by simp at hk;simp[hk]));have P6:=P5.aB (((aA.refl [] wc).alloc (Obj.cells (FV.cells ⟨f.kd,f.s,f.fi,f.se,f.vp,f.te,i0,f.ak,f.lf⟩) 203)).drew) (oP.nil _);have T7:=aj (TE.grow (f:=⟨f.kd,f.s,f.fi,f.se,f.vp,f.te,i0,f.ak,f.lf⟩) (L:=L) T6 P6 hs aG bF);have Q7:Z_ (TP (E++[(⟨f.kd,f.s,f.fi,f.se,f.vp,f.te,i0,f.ak,f.lf⟩,L)]) (B.set b E.length) (D++[d]) ak c):=by
     have:=HP.o.push HT.o.2 (f:=⟨f.kd,f.s,f.fi,f.se,f.vp,f.te,i0,f.ak,f.lf⟩) (L:=L) HK0.o hw hnD.o HTE.o (by show i0=B.getD (lh (jy (f,L))) 0;rw[HK.o];exact vG.o.symm) HAK;rw[show lh (jy ((⟨f.kd,f.s,f.fi,f.se,f.vp,f.te,i0,f.ak,f.lf⟩:FV),L))=b from HK.o]at this;exact this
    have F7:Z_ (aA [fb,vb] w w4):=aA.grown ((F5.o.mono (by intro k _ hk;simp at hk;simp[hk])).alloc _).drew aG (λk hk=>by simp[Value.ownBlock]at hk;subst hk;exact .inl (by simp));have M7:Z_ (gg=vb\/w.heap.size<=gg):=by
     rcases aX with e|e
     ·simp[Value.ownBlock]at e;exact .inl e.symm
     exact .inr (by omega)
    clear aG bF aX T6 P5 P6 x0 x1 x2 x3' x4 x5 x6 x7 x8 x9 x10 x11;go_wp2;go_ret;refine⟨gg,[d],E.length,_,_,rfl,T7,Q7,?_,CG,?_,⟨aA.setCell F7.o (.inl (by simp)) _,M7⟩,λe he=>?_,?_⟩
    ·intro x hx
     rcases a0b.1 hx with hx|hx
     ·exact hU x hx
     simp at hx;subst hx;exact hd
    ·rw[HEL.o];simp
    ·rcases a0b.1 he with he|he
     ·exact .inl he
     simp at he;subst he;exact .inr ⟨rfl,rfl⟩
    have hz:=HZZ.o.mono (w':=w4.setCell ⟨fb,0,none⟩ (.slice (some ⟨gg,0,none⟩) (E.length+1) aP)) (by have:=F7.o.size;simpa using this);refine⟨hz.1,λe he=>?_⟩;rcases a0b.1 he with he|he
    ·exact hz.2 e he
    simp at he;subst he;exact HFZ
  have aO:2<=gk/\gk<E.length:=by
   rcases hsr.o.1 with e|⟨e1,e2,_⟩
   ·exact absurd e h0
   exact⟨e1,by simpa using e2⟩
  obtain⟨⟨g,M⟩,hgM⟩:∃e,E[gk]?=some e:=⟨E[gk]'aO.2,a0c aO.2⟩;have oC:(g,M)∈E:=a0M hgM;have Yw:Z_ ((E.map jy)[gk]?=some (jy (g,M))):=by show _=_;simp[hgM]
  have HGM:=aj hgM;obtain⟨c0,c1,c2,c3,c4,c5,c6,c7,c8,c9,c10,c11⟩:=PE T3.o hgM;obtain⟨x0,x1,x2,x3',x4,x5,x6,x7,x8,x9,x10,x11⟩:=X3.o.get;have SM2:Z_ (Calls Tryz.prog 129 #[.agg #[.int .i64 g.kd,.int .u64 (wd g.s 0),.int .u64 (wd g.s 1),.int .u64 (wd g.s 2),.int .u64 (wd g.s 3),.int .i64 g.fi,.int .i64 g.se,g.vp,.bool g.te,.int .i64 g.lk,.int .i64 g.ak,.int .i64 g.lf],.agg #[.int .i64 f.kd,.int .u64 (wd f.s 0),.int .u64 (wd f.s 1),.int .u64 (wd f.s 2),.int .u64 (wd f.s 3),.int .i64 f.fi,.int .i64 f.se,f.vp,.bool f.te,.int .i64 f.lk,.int .i64 f.ak,.int .i64 f.lf]] wr.drew λe w2=>(∃b:Bool,e=.returned (.bool b)/\(b=true->jy (g,M)=jy (f,L))/\(b=false->jy (g,M)≠jy (f,L)))/\aA [] wr.drew w2):=SM.o wr.drew g M F3.o.drew oC;clear hgM;have Vo:=aO.1;have lL:=aO.2;go_wp2_with fail
  go_region_with (go_at_call 129;refine SM2.o.mono ?_;rintro e w4 ⟨⟨bb,rfl,mV,rD⟩,nR⟩;have HB1:=aj mV;have HB2:=aj rD;have F4:=aj nR;clear mV rD nR)
  all_goals
   have F5:=aj (F3.o.drew.trans F4);have T5:=aj (HE.o.aW F5);have r5:=(HT.o.aB F5.o (by simp)).c0;have c5':=(PE T5.o HGM).2.2.2.2.2.2.2.2.2.1;have X5:=aj ((show FX wr.drew w.heap.size f from X3.o).aB F4.o (by simp));clear c0 c1 c2 c3 c4 c5 c6 c7 c8 c9 c10 c11 x0 x1 x2 x3' x4 x5 x6 x7 x8 x9 x10 x11 r0 SM2;cases bb with
   | true =>
     have hD:Z_ (D[gk]?=some d):=HP.o.tb.sameKey HK0.o Vo (by rw[<-HB1.o rfl];exact Yw);go_wp2;go_ret;exact⟨vb,[],gk,E,B,rfl,T5,by simpa using HP.o,by simpa using hU,CG,by simpa using hD.o,FQ.keepR (FQ.refl _ _ _) F5,λe he=>.inl he,HZZ.o.mono F5.o.size⟩
   | false =>
     have hN:=hsr.o.next (by omega) Yw.o (HB2.o rfl);have hl:g.lk=lastB lh (E.map jy) (lh (jy (g,M))) gk:=HP.o.lk gk _ Vo HGM;rw[<-hl]at hN;have HN:=aj hN;clear hN hl;go_wp2;go_roundg g.lk
     case measure=>exact HN.o.2.1
     case rel=>exact⟨rfl,HN.o.2.2,X5,F5⟩
theorem Gr(base:Nat)(w:World)(fb vb:Nat)(D:List NF)(ak c:Nat)(U:List NF)(Z:LN)(f:FV)(L:LN)(d:NF)
 (h:ST base w fb vb D ak c U Z) (hp:PL w f.vp L) (hs:f.s<2 ^ 256) (hk:Ky D D.length (jy (f,L)) d) (hw:WC d) (hd:d∈U) (Bu:f.te=dY d) (ha:f.ak=0) (MW:∀x n cc,f.vp=.slice (some x) n cc->x.block∉Z) :
 Calls Tryz.prog 118 #[.pointer (some ⟨fb,0,none⟩),.agg f.cells] w (RQ base w fb vb D ak c U Z d):=by
 obtain⟨E,B,hE,hP,hU,CG,Jw⟩:=h;exact(ZQ base w fb vb E B D ak c U Z f L d hE hP hU CG hp hs hk hw hd Bu ha Jw MW).mono λe w' hr=>hr.rq
def oQ:NF->Nat
 | .zero=>0
 | .one=>1
 | .set _=>2
 | .pair _ _=>3
 | .sum _=>4
 | .star _=>5
structure LK(w:World)(fb vb:Nat)(D:List NF)(ak c i:Nat)(d:NF)(f:FV)(L:LN)(cap:Nat):Prop where
 tab:w.cell? ⟨fb,0,none⟩=some (.slice (some ⟨vb,0,none⟩) D.length cap)
 lt:i<D.length
 get:w.cell? ⟨vb,i*12,none⟩=some (.int .i64 f.kd)/\w.cell? ⟨vb,i*12+1,none⟩=some (.int .u64 (wd f.s 0))/\w.cell? ⟨vb,i*12+2,none⟩=some (.int .u64 (wd f.s 1))/\w.cell? ⟨vb,i*12+3,none⟩=some (.int .u64 (wd f.s 2))/\w.cell? ⟨vb,i*12+4,none⟩=some (.int .u64 (wd f.s 3)) /\
  w.cell? ⟨vb,i*12+5,none⟩=some (.int .i64 f.fi)/\w.cell? ⟨vb,i*12+6,none⟩=some (.int .i64 f.se)/\w.cell? ⟨vb,i*12+7,none⟩=some f.vp/\w.cell? ⟨vb,i*12+8,none⟩=some (.bool f.te)/\w.cell? ⟨vb,i*12+9,none⟩=some (.int .i64 f.lk)/\w.cell? ⟨vb,i*12+10,none⟩=some (.int .i64 f.ak)/\w.cell? ⟨vb,i*12+11,none⟩=some (.int .i64 f.lf)
 kd:f.kd=oQ d
 te:f.te=dY d
 st:f.s<2 ^ 256
 pl:PL w f.vp L
 pair:∀a b,d=.pair a b->D[f.fi]?=some a/\D[f.se]?=some b
 star:∀a,d=.star a->D[f.fi]?=some a
 set:∀s,d=.set s->f.s=s
 sum:∀l,d=.sum l->(∀j∈L,j<D.length)/\l=fU (L.map λj=>D.getD j .zero)/\L.Pairwise (·<·)
 ale:f.ak<=ak
 mem:1<=ak->f.ak=ak->D[f.lf]?=some (left c d)
theorem ST.look {base:Nat}{c:Nat}(h:ST base w fb vb D ak c U Z)(hi:D[i]?=some d):∃f L cap,LK w fb vb D ak c i d f L cap:=by
 obtain⟨E,B,hE,hP,_,_,_⟩:=h;have hl:=(a0i.1 hi).1;have hEl:=hP.len;obtain⟨⟨f,L⟩,he⟩:∃e,E[i]?=some e:=⟨E[i]'(by omega),a0c (by omega)⟩;have hm:=a0M he;obtain⟨cap,hT,_⟩:=hE.row;have Yw:(E.map jy)[i]?=some (jy (f,L)):=by simp[he]
 have two:i=0\/i=1\/2<=i:=by omega
 refine⟨f,L,cap,by rw[<-hEl];exact hT.c0,hl,PE hE he,?_,hP.te i _ d he hi,hE.st _ hm,hE.pl _ hm,?_,?_,?_,?_,hP.al _ hm,λh1 h2=>hP.mm h1 i _ d he hi h2⟩
 ·rcases two with rfl|rfl|h2
  ·have:=hP.tb.k0;rw[Yw]at this;simp[jy]at this
   have e:=hP.tb.d0;rw[hi]at e;simp at e;rw[e];exact this.1
  ·have:=hP.tb.k1;rw[Yw]at this;simp[jy]at this
   have e:=hP.tb.d1;rw[hi]at e;simp at e;rw[e];exact this.1
  rcases hP.tb.ky i _ d h2 Yw hi with g|⟨g1,g2,g3,g4,g5,x,y,g6,g7,g8⟩|⟨g1,g2,g3,g4,g5,g6,g7⟩|⟨g1,g2,g3,g4,g5,x,g6,g7⟩
  ·rw[g.2.2.2.2];exact g.1
  ·rw[g8];exact g1
  ·rw[g7];exact g1
  rw[g7];exact g1
 ·rintro a b rfl
  have h2:=hP.tb.ge hi (by simp) (by simp);rcases hP.tb.ky i _ _ h2 Yw hi with g|⟨g1,g2,g3,g4,g5,x,y,g6,g7,g8⟩|⟨g1,g2,g3,g4,g5,g6,g7⟩|⟨g1,g2,g3,g4,g5,x,g6,g7⟩
  ·have:=g.2.2.2.2;simp at this
  ·simp at g8;obtain⟨rfl,rfl⟩:=g8;exact⟨g6,g7⟩
  ·simp at g7
  simp at g7
 ·rintro a rfl
  have h2:=hP.tb.ge hi (by simp) (by simp);rcases hP.tb.ky i _ _ h2 Yw hi with g|⟨g1,g2,g3,g4,g5,x,y,g6,g7,g8⟩|⟨g1,g2,g3,g4,g5,g6,g7⟩|⟨g1,g2,g3,g4,g5,x,g6,g7⟩
  ·have:=g.2.2.2.2;simp at this
  ·simp at g8
  ·simp at g7
  simp at g7;subst g7;exact g6
 ·rintro s rfl
  have h2:=hP.tb.ge hi (by simp) (by simp);rcases hP.tb.ky i _ _ h2 Yw hi with g|⟨g1,g2,g3,g4,g5,x,y,g6,g7,g8⟩|⟨g1,g2,g3,g4,g5,g6,g7⟩|⟨g1,g2,g3,g4,g5,x,g6,g7⟩
  ·have:=g.2.2.2.2;simp at this;exact this.symm
  ·simp at g8
  ·simp at g7
  simp at g7
 rintro l rfl;have h2:=hP.tb.ge hi (by simp) (by simp);rcases hP.tb.ky i _ _ h2 Yw hi with g|⟨g1,g2,g3,g4,g5,x,y,g6,g7,g8⟩|⟨g1,g2,g3,g4,g5,g6,g7⟩|⟨g1,g2,g3,g4,g5,x,g6,g7⟩
 ·have:=g.2.2.2.2;simp at this
 ·simp at g8
 ·simp at g7;exact⟨λj hj=>by have:=g6 j hj;omega,g7,g5⟩
 simp at g7
theorem ST.ng {base:Nat}{c:Nat}(h:ST base w fb vb D ak c U Z):D[0]?=some .zero/\D[1]?=some .one/\D.Nodup/\(∀d∈D,WC d)/\(∀x∈D,x∈U)/\fb<base/\base<=w.heap.size/\base<=vb/\vb<w.heap.size/\oP w [fb,vb]:=by
 obtain⟨E,B,hE,hP,hU,_,_⟩:=h;have hv:=hE.Yv;exact⟨hP.tb.d0,hP.tb.d1,hP.tb.nd,hP.tb.wc,hU,hE.fb,hE.sz,hv.1,hv.2.1,hE.uj⟩
theorem ST.zs {base:Nat}{c:Nat}(h:ST base w fb vb D ak c U Z):∀k∈Z,k<w.heap.size:=by
 obtain⟨E,B,_,_,_,_,h5⟩:=h;exact h5.1
theorem ST.num {base:Nat}{c:Nat}(h:ST base w fb vb D ak c U Z){j:Nat} {x y:NF}(hi:D[i]?=some x)(hj:D[j]?=some y):i=j↔x=y:=by
 constructor
 ·rintro rfl;rw[hi]at hj;simpa using hj
 rintro rfl;exact ug h.ng.2.2.1 hi hj
theorem RQ.here {base:Nat}{c:Nat} {y:NF} {r:Nat}(h:ST base w fb vb D ak c U Z)(f:aA [] w w')(hr:D[r]?=some y):RQ base w fb vb D ak c U Z y (.returned (.int .i64 (r:Nat))) w' :=
 ⟨vb,[],r,rfl,by simpa using h.aW f,by simpa using hr,FQ.keepR (FQ.refl _ _ _) f⟩
theorem RQ.later {base:Nat}{w1:World}{zY:Nat}{c:Nat} {y:NF} {e:Ending}(f:FQ fb vb zY w w1)(h:RQ base w1 fb zY (D++R) ak c U Z y e w'):RQ base w fb vb D ak c U Z y e w':=by
 obtain⟨jg,R',r,h1,h2,h3,h4⟩:=h;exact⟨jg,R++R',r,h1,by simpa using h2,by simpa using h3,f.trans h4⟩
theorem pK {x:NF}(h:D[i]?=some x):(D++R)[i]?=some x:=by
 rw[a0u (a0i.1 h).1];exact h
end Go.Proofs.YtgbdcmpmmkfbhaaGreat
