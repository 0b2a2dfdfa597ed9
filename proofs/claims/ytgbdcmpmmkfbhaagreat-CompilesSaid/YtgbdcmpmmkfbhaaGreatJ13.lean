import Derived.Test.YtgbdcmpmmkfbhaaGreatJ12
import Derived.Test.YtgbdcmpmmkfbhaaGreatJ3
import Derived.Test.YtgbdcmpmmkfbhaaGreatJ10
import Derived.BigRegion
import Derived.Test.YtgbdcmpmmkfbhaaGreatJ1
set_option linter.unusedVariables false
set_option linter.unusedSimpArgs false
set_option linter.unnecessarySimpa false
set_option maxRecDepth 100000
set_option maxHeartbeats 4000000
namespace Go.Proofs.YtgbdcmpmmkfbhaaGreat
variable {w w' w1 w2 w5:World} {a ak b b2 bb cap fb g j n q r s t vb jg:Nat} {I L P S Z Z2:LN} {e:Ending} {v v5 vp:Value} {D R U X:List NF} {d y:NF}
open Go.RowKit
theorem IL.cell {base:Nat}(h:IL base w (.slice (some ⟨g,0,none⟩) n cap) L)(j:Nat)(hj:j<L.length):w.cell? ⟨g,j,none⟩=some (.int .i64 (L[j]:Nat)):=by
 have hc:=World.ownsRow.cells h (g:=g) rfl j (.int .i64 (L[j]:Nat)) (by simp[nv,hj]);rw[add0]at hc;exact hc
theorem IL.fz {base:Nat}(h:IL base w (.slice (some ⟨g,0,none⟩) n cap) L)(j:Nat):w.frozen? ⟨g,j,none⟩=false:=by
 obtain⟨a,c,e⟩:=aT h;simp at e;obtain⟨_,rfl,_⟩:=e;exact World.ownsRow.frozenAt h j
theorem IL.set {base:Nat}(h:IL base w (.slice (some ⟨g,0,none⟩) n cap) L)(j m:Nat):IL base (w.setCell ⟨g,j,none⟩ (.int .i64 m)) (.slice (some ⟨g,0,none⟩) n cap) (L.set j m):=by
 obtain⟨a,c,e⟩:=aT h;simp at e;obtain⟨_,rfl,_⟩:=e;have:=(World.ownsRow.stored h j (.int .i64 m)).1;unfold IL;simpa[nv,a2n] using this
theorem y5{base:Nat} {e:TypeId} {size:Nat} {xs:List Value}(h:w.ownsRow base e size v n xs)(hb:b2<=base):w.ownsRow b2 e size v n xs:=by
 refine⟨h.1,?_⟩;rcases h.2 with hn|⟨g,cap,cur,hv,hg,rest⟩
 ·exact .inl hn
 exact .inr ⟨g,cap,cur,hv,a0e hb hg,rest⟩
theorem ae3(A:LN)(k y:Nat)(hk:k<A.length):(A.take (k+1)++y::A.drop (k+1)).set (k+1) (A[k])=A.take k++A[k]::A.drop k:=by
 have e1:A.take (k+1)=A.take k++[A[k]]:=by rw[a1n,a0c hk];rfl
 rw[a0q hk,e1,a0K];rw[a1t _ _ (by simp;omega)];simp only[a1q,a2S (Nat.le_of_lt hk)];rw[show k+1-k=1 by omega]
 rfl
theorem adf(A:LN)(k y m:Nat)(hk:k<=A.length):(A.take k++y::A.drop k).set k m=A.take k++m::A.drop k:=by
 rw[a1t _ _ (by simp;omega)];simp only[a1q,a2S hk,a2H]
 rfl
theorem ajF(A:LN)(k y:Nat)(hk:k<A.length)(h:k<(A.take (k+1)++y::A.drop (k+1)).length):(A.take (k+1)++y::A.drop (k+1))[k]=A[k]:=by
 rw[List.getElem_append_left (by simp;omega)];simp
theorem zG(A:LN)(k y:Nat)(hk:k<=A.length):(A.take k++y::A.drop k).length=A.length+1:=by
 simp;omega
def PH(A T:LN):Prop:=A.Pairwise (·<=·)/\∀x,x∈A↔x∈T
theorem PH.put{A:LN}{k:Nat}(h:PH A (L.take j))(hj:j<L.length)(hk:k<=A.length)(h1:∀x∈A.drop k,L[j]<x)(h2:0<k->A.getD (k-1) 0<=L[j]):PH (A.take k++L[j]::A.drop k) (L.take (j+1)):=by
 refine⟨alb h.1 hk h1 h2,λx=>?_⟩;have e:L.take (j+1)=L.take j++[L[j]]:=by rw[a1n,a0c hj];rfl
 rw[agI,h.2 x,e];simp only[a0b,a0y]
theorem aa8(v:Value)(L:LN)(w:World)(hv:NL .i64 w v L)(hL:L.length<=9500000000000) :
 Calls Tryz.prog 144 #[v] w λe w'=>∃v' R,e=.returned v'/\IL w.heap.size w' v' R/\RO R L/\aA [] w w':=by
 obtain⟨a,cap,rfl,h1⟩:=hv;have H1:=aj h1;clear h1;go_enter Tryz.func144,Tryz.ntmps144
 go_wp2_with fail
 go_loopg [3,13] L.length (λk vr vi wr=>∃(j:Nat) (A:LN),j+k=L.length/\vi=.int .i64 j/\IL w.heap.size wr vr A/\j<=A.length/\A.length<=j/\PH A (L.take j)/\aA [] w wr)
 case atStart =>
  refine⟨0,[],by omega,rfl,World.ownsRow_lit _ #[] 0 (a0a _) (by unfold maxLen;omega) (by simp),by simp,by simp,⟨by simp,by simp⟩,(aA.refl _ _).alloc _⟩
 case round =>
  obtain⟨j,A,hj,rfl,jf,Nf,hA2,hri,bU⟩:=hrel;obtain⟨af,WK,rfl⟩:=aT jf;have U:=aj jf;have F:=aj bU;have RI:=aj hri;have z:=bU.size;clear jf bU hri;obtain⟨wo,Pn⟩:∃wo,wo=wr:=⟨_,rfl⟩;subst Pn;obtain⟨go,gP⟩:∃go,go=gk:=⟨_,rfl⟩;subst gP
  by_cases aO:j<L.length
  ·obtain⟨g,off,rfl,hg,hc⟩:=H1.o j aO
   have uM:wo.cell? ⟨g,off+j,none⟩=some (.int .i64 (L[j]:Nat)):=(F.o.cell (p:=⟨g,off+j,none⟩) hg (by simp)).trans hc;have PUT:Z_ (∀k,k<=A.length->(∀x∈A.drop k,L[j]<x)->(0<k->A.getD (k-1) 0<=L[j])->PH (A.take k++L[j]::A.drop k) (L.take (j+1))):=λk h1 h2 h3=>RI.o.put aO h1 h2 h3
   clear hc;generalize L[j]=m at *;go_wp2_with (first | (at_builtin;refine sO _ rfl _ _ rfl w.heap.size (.slice af A.length WK) A m wo.heap.size rfl (U.o.alloc _) rfl (jo _ _ _ _ rfl) (by omega) (by simp;omega) ?_;intro gg aP w5 aQ aG aX iD;have U5:=aj aQ;have F5:=aj ((F.o.alloc _).grown aG (λk hk=>Or.inr (U.o.lt _ hk).1));clear aQ aG aX))
   go_loopg [6] A.length (λk vi wr=>vi=.int .i64 (k:Nat)/\k<=A.length/\(∃y,IL w.heap.size wr (.slice (some ⟨gg,0,none⟩) (A.length+1) aP) (A.take k++y::A.drop k))/\Z_ (∀x∈A.drop k,m<x)/\aA [] w wr)
   case atStart=>exact⟨by go_num,by omega,⟨m,by simpa using U5.o⟩,by intro x hx;simp at hx,F5⟩
   case round =>
    clear U5 F5 U F uM;obtain⟨rfl,hk,⟨y,hu⟩,dJ,hf⟩:=hrel;have U6:=aj hu;have F6:=aj hf;have z6:=hf.size;clear hu hf;cases gk with
    | zero =>
      have q:=U6.o.fz 0;obtain⟨z0,qc⟩:∃z0,wr.cell? ⟨gg,0,none⟩=some z0:=⟨_,U6.o.cell 0 (by rw[zG A 0 y (by omega)];omega)⟩;have P6:=aj (PUT.o 0 (by omega) dJ.o (by omega));have V6:Z_ (IL w.heap.size (wr.setCell ⟨gg,0,none⟩ (.int .i64 m)) (.slice (some ⟨gg,0,none⟩) (A.length+1) aP) (A.take 0++m::A.drop 0)):=by
       have:=U6.o.set 0 m;rw[adf A 0 y m (by omega)]at this;exact this
      have hge:=(U6.o.lt _ rfl).1;go_wp2;go_roundg (go-1)
      case measure=>omega
      case rel =>
       refine⟨j+1,_,by omega,by go_num,V6,?_,?_,P6,F6.o.setCell (.inr hge) _⟩
       ·rw[zG A 0 m (by omega)];omega
       rw[zG A 0 m (by omega)];omega
    | succ k =>
      have hkl:k<A.length:=by omega
      have hge:=(U6.o.lt _ rfl).1;have q:=U6.o.fz (k+1);obtain⟨z0,qc⟩:∃z0,wr.cell? ⟨gg,k+1,none⟩=some z0:=⟨_,U6.o.cell (k+1) (by rw[zG A (k+1) y (by omega)];omega)⟩;have qk:wr.cell? ⟨gg,k,none⟩=some (.int .i64 (A[k]:Nat)):=by
       have:=U6.o.cell k (by rw[zG A (k+1) y (by omega)];omega);rw[ajF A k y hkl]at this;exact this
      have SH:=aj (ae3 A k y hkl);have DR:Z_ (A.drop k=A[k]::A.drop (k+1)):=a0q hkl;have GD:Z_ (A.getD k 0=A[k]):=by show _=_;simp[List.getD,hkl]
      generalize A[k]=p at *
      by_cases Cj:m<p
      ·have V6:Z_ (IL w.heap.size (wr.setCell ⟨gg,k+1,none⟩ (.int .i64 p)) (.slice (some ⟨gg,0,none⟩) (A.length+1) aP) (A.take k++p::A.drop k)):=by
        have:=U6.o.set (k+1) p;rw[SH.o]at this;exact this
       have apd:Z_ (∀x∈A.drop k,m<x):=by
        intro x hx;rw[DR.o]at hx;rcases a0l.1 hx with e|e
        ·omega
        exact dJ.o x e
       go_wp2;go_roundg k
       case measure=>omega
       case rel=>exact⟨by go_num,by omega,⟨p,V6⟩,apd,F6.o.setCell (.inr hge) _⟩
      have P6:=aj (PUT.o (k+1) (by omega) dJ.o (by intro _;show A.getD k 0<=m;rw[GD.o];omega));have V6:Z_ (IL w.heap.size (wr.setCell ⟨gg,k+1,none⟩ (.int .i64 m)) (.slice (some ⟨gg,0,none⟩) (A.length+1) aP) (A.take (k+1)++m::A.drop (k+1))):=by
       have:=U6.o.set (k+1) m;rw[adf A (k+1) y m (by omega)]at this;exact this
      go_wp2;go_roundg (go-1)
      case measure=>omega
      case rel =>
       refine⟨j+1,_,by omega,by go_num,V6,?_,?_,P6,F6.o.setCell (.inr hge) _⟩
       ·rw[zG A (k+1) m (by omega)];omega
       rw[zG A (k+1) m (by omega)];omega
  have qM:j=L.length:=by omega
  have RI2:Z_ (PH A L):=by
   have:=RI.o;rw[qM,a2i]at this;exact this
  obtain⟨a',c',e',hN⟩:=vM U;simp only[Value.slice.injEq,a1X]at e';obtain⟨rfl,rfl⟩:=e';have HN:=aj hN;clear hN RI qM H1;go_wp2_with fail
  go_loopg [7,53] A.length (λk vo vi wr=>∃(j2:Nat) (O:LN),j2+k=A.length/\vi=.int .i64 j2/\IL wo.heap.size wr vo O/\O.length<=j2/\RO O (A.take j2)/\aA [] wo wr)
  case atStart =>
   refine⟨0,[],by omega,rfl,World.ownsRow_lit _ #[] 0 (a0a _) (by unfold maxLen;omega) (by simp),by simp,⟨by simp,by simp⟩,(aA.refl _ _).alloc _⟩
  case round =>
   obtain⟨j2,O,Yx,rfl,hio,hO,hro,aS⟩:=hrel;obtain⟨ao,ams,rfl⟩:=aT hio;have UO:=aj hio;have FO:=aj aS;have RO1:=aj hro;have zo:=aS.size;clear hio aS hro;obtain⟨w3,hw3⟩:∃w3,w3=wr:=⟨_,rfl⟩;subst hw3
   by_cases lL:j2<A.length
   ·obtain⟨g,off,rfl,hg,hc⟩:=HN.o j2 lL
    have uM:w3.cell? ⟨g,off+j2,none⟩=some (.int .i64 (A[j2]:Nat)):=(FO.o.cell (p:=⟨g,off+j2,none⟩) hg (by simp)).trans hc;have ST:=aj (aip RI2.o.1 lL RO1);clear hc;cases j2 with
    | zero =>
      have S1:=aj (ST.o.1 (.inl rfl));rw[a1G]at uM;generalize A[0]=m at *;go_wp2_with (first | (at_builtin;refine sO _ rfl _ _ rfl wo.heap.size (.slice ao O.length ams) O m w3.heap.size rfl (UO.o.alloc _) rfl (jo _ _ _ _ rfl) (by omega) (by simp;omega) ?_;intro gg aP w5 aQ aG aX iD;have U5:=aj aQ;have F5:=aj ((FO.o.alloc _).grown aG (λk hk=>Or.inr (UO.o.lt _ hk).1));clear aQ aG aX))
      go_roundg (gk-1)
      case measure=>omega
      case rel=>exact⟨1,O++[m],by omega,by go_num,by simpa using U5.o,by simp only[a0v,a0o,a1f];omega,S1,F5⟩
    | succ k =>
      obtain⟨g2,amq,e2,kg,hck⟩:=HN.o k (by omega);simp only[Option.some.injEq,Addr.mk.injEq,and_true]at e2;obtain⟨rfl,rfl⟩:=e2;have Jv:w3.cell? ⟨g,off+k,none⟩=some (.int .i64 (A[k]'(by omega):Nat)):=(FO.o.cell (p:=⟨g,off+k,none⟩) kg (by simp)).trans hck;have GD:Z_ (A.getD k 0=A[k]'(by omega)):=by show _=_;simp[List.getD,show k<A.length by omega]
      clear hck;generalize A[k]'(by omega)=p at *;generalize A[k+1]=m at *
      by_cases Cj:p=m
      ·have S1:=aj (ST.o.2 (λe=>e.elim (λe=>by omega) (λe=>e (by show A.getD k 0=m;rw[GD.o,Cj]))))
       subst Cj;clear ST;go_wp2;go_roundg (gk-1)
       case measure=>omega
       case rel=>exact⟨k+1+1,O,by omega,by go_num,UO,by omega,S1,FO⟩
      have S1:=aj (ST.o.1 (.inr (by show A.getD k 0≠m;rw[GD.o];exact Cj)));have hb:((p:Int) != (m:Int))=true:=by rw[a1O];omega
      clear ST;go_wp2_with (first | (at_builtin;refine sO _ rfl _ _ rfl wo.heap.size (.slice ao O.length ams) O m w3.heap.size rfl (UO.o.alloc _) rfl (jo _ _ _ _ rfl) (by omega) (by simp;omega) ?_;intro gg aP w5 aQ aG aX iD;have U5:=aj aQ;have F5:=aj ((FO.o.alloc _).grown aG (λk hk=>Or.inr (UO.o.lt _ hk).1));clear aQ aG aX))
      go_roundg (gk-1)
      case measure=>omega
      case rel=>exact⟨k+1+1,O++[m],by omega,by go_num,by simpa using U5.o,by simp only[a0v,a0o,a1f];omega,S1,F5⟩
   have qM:j2=A.length:=by omega
   have RO2:Z_ (RO O L):=by
    have:=RO1.o;rw[qM,a2i]at this;exact⟨this.1,λx=>(this.2 x).trans (RI2.o.2 x)⟩
   clear RO1 qM;go_wp2;go_ret;exact⟨_,O,rfl,y5 UO.o z,RO2,F.o.trans FO⟩
theorem RQ.first {base:Nat}{c:Nat}(f:aA [] w w1)(h:RQ base w1 fb vb D ak c U Z y e w'):RQ base w fb vb D ak c U Z y e w' :=
 RQ.later (R:=[]) (FQ.keepR (FQ.refl _ _ _) f) (by simpa using h)
theorem ape(h:a=b):((a:Int)==(b:Int))=true:=by subst h;simp
theorem amt(h:a≠b):((a:Int)==(b:Int))=false:=by rw[a0k];omega
theorem WR(h:a≠0):((a:Int)==0)=false:=by rw[a0k];omega
theorem aa9(h:a≠1):((a:Int)==1)=false:=by rw[a0k];omega
theorem aba(Z:LN):∀x n c,(Value.slice none 0 0)=.slice (some x) n c->x.block∉Z:=by intro x n c e;simp at e
def Fv(s:Nat):NF:=if s=0 then .zero else .set s
theorem ajG(hs:s<2 ^ 256)(w:World):(Op.equalIn 10000 192 (.agg #[.int .u64 (wd s 0),.int .u64 (wd s 1),.int .u64 (wd s 2),.int .u64 (wd s 3)]) (.agg #[.int .u64 0,.int .u64 0,.int .u64 0,.int .u64 0])).run Tryz.prog w=.ok (decide (s=0)) w:=by
 have:=ajD hs (t:=0) (by decide) w;simpa[wd] using this
theorem abb(kd fi se:Nat)(vp:Value)(te:Bool)(ki fii sei:Int)(h1:(kd:Int)=ki)(h2:(fi:Int)=fii)(h3:(se:Int)=sei):FV.cells ⟨kd,0,fi,se,vp,te,0,0,0⟩=#[.int .i64 ki,.int .u64 0,.int .u64 0,.int .u64 0,.int .u64 0,.int .i64 fii,.int .i64 sei,vp,.bool te,.int .i64 0,.int .i64 0,.int .i64 0]:=by
 subst h1 h2 h3;simp[FV.cells,wd]
theorem alP(s:Nat):FV.cells ⟨2,s,0,0,.slice none 0 0,false,0,0,0⟩=#[.int .i64 2,.int .u64 (wd s 0),.int .u64 (wd s 1),.int .u64 (wd s 2),.int .u64 (wd s 3),.int .i64 0,.int .i64 0,.slice none 0 0,.bool false,.int .i64 0,.int .i64 0,.int .i64 0]:=by
 simp[FV.cells]
theorem bv0:bv 0=.agg #[.int .u64 0,.int .u64 0,.int .u64 0,.int .u64 0]:=by simp[bv,wd]
theorem alQ(w:World):(Op.equalIn 10000 192 (.agg #[.int .u64 0,.int .u64 0,.int .u64 0,.int .u64 0]) (.agg #[.int .u64 0,.int .u64 0,.int .u64 0,.int .u64 0])).run Tryz.prog w=.ok true w:=by
 have:=ajG (s:=0) (by decide) w;simpa[wd] using this
theorem RE.first {base:Nat} {E:List (FV × LN)}{c:Nat}(f:aA [] w w1)(h:RE base w1 fb vb E D ak c U Z y vp L e w'):RE base w fb vb E D ak c U Z y vp L e w':=by
 obtain⟨jg,R,r,E',B',h1,h2,h3,h4,h5,h6,h7,h8⟩:=h;exact⟨jg,R,r,E',B',h1,h2,h3,h4,h5,h6,FQ.WQ f h7,h8⟩
theorem ajH(base:Nat)(w:World)(fb vb:Nat)(E:List (FV × LN))(B:LN)(D:List NF)(ak c:Nat)(U:List NF)(Z:LN)(s:Nat)(hE:TE base w fb vb E B ak)(hP:TP E B D ak c)(hUD:∀x∈D,x∈U)(CG:U.length<=1000000000000)(hs:s<2 ^ 256)(hU:s≠0->.set s∈U)(Jw:ZZ w E Z) :
 Calls Tryz.prog 108 #[.pointer (some ⟨fb,0,none⟩),bv s] w (RE base w fb vb E D ak c U Z (Fv s) (.slice none 0 0) []):=by
 have Ta:=aj hP.tb.d0
 by_cases h0:s=0
 ·subst h0
  rw[bv0];have EQ:=alQ;have HE:=aj hE;have HP:=aj hP;clear hE hP;go_enter Tryz.func108,Tryz.ntmps108
  go_wp2;go_ret;exact⟨vb,[],0,E,B,rfl,HE.o.aW ((aA.refl _ _).alloc _),by simpa using HP.o,by simpa using hUD,CG,by simpa[Fv] using Ta.o,FQ.keepR (FQ.refl _ _ _) ((aA.refl _ _).alloc _),λe he=>.inl he,Jw.mono (by simp)⟩
 have N1:Z_ (∀w',aA [] w w'->Calls Tryz.prog 118 #[.pointer (some ⟨fb,0,none⟩),.agg #[.int .i64 2,.int .u64 (wd s 0),.int .u64 (wd s 1),.int .u64 (wd s 2),.int .u64 (wd s 3),.int .i64 0,.int .i64 0,.slice none 0 0,.bool false,.int .i64 0,.int .i64 0,.int .i64 0]] w' (RE base w' fb vb E D ak c U Z (.set s) (.slice none 0 0) [])):=by
  intro w' F;have:=ZQ base w' fb vb E B D ak c U Z ⟨2,s,0,0,.slice none 0 0,false,0,0,0⟩ [] (.set s) (hE.aW F) hP hUD CG (PL.nil _) hs (.inl ⟨rfl,rfl,rfl,rfl,rfl⟩) ⟨⟨a2Q h0,hs⟩,trivial⟩ (hU h0) rfl rfl (Jw.mono F.size) (aba Z);rw[alP]at this;exact this
 have EQ:=ajG hs;have hsn:Z_ (Fv s=.set s):=by show _=_;simp[Fv,h0]
 have hdz:decide (s=0)=false:=by simp[h0]
 rw[hsn.o];unfold bv;clear hE hP;go_enter Tryz.func108,Tryz.ntmps108
 go_wp2_with (go_at_call 118;refine(N1.o _ ((aA.refl _ _).alloc _)).mono ?_;rintro e w2 Tc;have R2:=aj (RE.first ((aA.refl _ _).alloc _) Tc);obtain⟨_,_,r,_,_,rfl,_⟩:=Tc)
 go_ret;exact R2
theorem ajI(base:Nat)(w:World)(fb vb:Nat)(D:List NF)(ak c:Nat)(U:List NF)(Z:LN)(s:Nat)(h:ST base w fb vb D ak c U Z)(hs:s<2 ^ 256)(hU:s≠0->.set s∈U) :
 Calls Tryz.prog 108 #[.pointer (some ⟨fb,0,none⟩),bv s] w (RQ base w fb vb D ak c U Z (Fv s)):=by
 obtain⟨E,B,hE,hP,hUD,CG,Jw⟩:=h;exact(ajH base w fb vb E B D ak c U Z s hE hP hUD CG hs hU Jw).mono λe w' hr=>hr.rq
theorem ahx(base:Nat)(w:World)(fb vb:Nat)(D:List NF)(ak c:Nat)(U:List NF)(Z:LN)(a:NF)(i:Nat)(h:ST base w fb vb D ak c U Z)(hi:D[i]?=some a)(hU:iI a∈U) :
 Calls Tryz.prog 120 #[.pointer (some ⟨fb,0,none⟩),.int .i64 i] w (RQ base w fb vb D ak c U Z (iI a)):=by
 have HS:=aj h;obtain⟨f,L,cap,K⟩:=h.look hi;have aO:=K.lt;have hlen:=h.len;have t0:=K.tab;have k0:=K.get.1;have Ta:=aj h.ng.1;have HD1:=aj h.ng.2.1;have n0:=h.num hi h.ng.1;have n1:=h.num hi h.ng.2.1;have HI:=aj hi;have kd:=K.kd;rw[kd]at k0;clear hi kd K
 by_cases e0:i=0
 ·have:=n0.1 e0;subst this;subst e0
  clear n0 n1;go_enter Tryz.func120,Tryz.ntmps120
  go_wp2;go_ret;exact RQ.here (r:=1) h (aA.refl _ _) HD1
 by_cases e1:i=1
 ·have:=n1.1 e1;subst this;subst e1
  clear n0 n1;go_enter Tryz.func120,Tryz.ntmps120
  go_wp2;go_ret;exact RQ.here (r:=1) h (aA.refl _ _) HD1
 have b0:=WR e0;have b1:=aa9 e1;have m0:a≠.zero:=λe=>e0 (n0.2 e)
 have m1:a≠.one:=λe=>e1 (n1.2 e)
 clear n0 n1;have N1:Z_ (∀w',aA [] w w'->(∀x,a≠.star x)->Calls Tryz.prog 118 #[.pointer (some ⟨fb,0,none⟩),.agg #[.int .i64 5,.int .u64 0,.int .u64 0,.int .u64 0,.int .u64 0,.int .i64 i,.int .i64 0,.slice none 0 0,.bool true,.int .i64 0,.int .i64 0,.int .i64 0]] w' (RQ base w' fb vb D ak c U Z (iI a))):=by
  intro w' F hns;have hsa:iI a=.star a:=by cases a<;>first | rfl|exact absurd rfl m0|exact absurd rfl m1|exact absurd rfl (hns _)
  have hw:=h.ng.2.2.2.1 a (a0M HI);rw[hsa]at hU |-;have hw2:=WC.star hw;rw[hsa]at hw2;have:=Gr base w' fb vb D ak c U Z ⟨5,0,i,0,.slice none 0 0,true,0,0,0⟩ [] (.star a) (h.aW F) (PL.nil _) (a2T 256) (.inr (.inr (.inr ⟨rfl,rfl,rfl,rfl,aO,a,HI,rfl⟩))) hw2 hU rfl rfl (aba Z);rw[abb 5 i 0 _ _ 5 i 0 rfl rfl rfl]at this;exact this
 have lL:(i:Int)<D.length:=by omega
 cases a with
 | star x =>
   clear N1;go_enter Tryz.func120,Tryz.ntmps120
   simp only[oQ]at k0;go_wp2;go_ret;exact RQ.here (r:=i) h (aA.refl _ _) HI
 | zero=>exact absurd rfl m0
 | one=>exact absurd rfl m1
 | _ =>
   have N2:=aj (N1.o w (aA.refl _ _) (by intro x e;simp at e));clear N1;simp only[oQ]at k0;go_enter Tryz.func120,Tryz.ntmps120
   go_wp2_with (go_at_call 118;refine(N2.o).mono ?_;rintro e w2 ⟨jg,R,r,rfl,dM,hr,hq⟩;have R2:=aj (show RQ base w fb vb D ak c U Z _ (.returned (.int .i64 (r:Nat))) w2 from ⟨jg,R,r,rfl,dM,hr,hq⟩);clear dM hr hq)
   go_ret;exact R2
theorem abd(base:Nat)(w0 w:World)(fb vb:Nat)(D:List NF)(ak c:Nat)(U:List NF)(Z:LN)(a:NF)(i:Nat)(h:ST base w0 fb vb D ak c U Z)(F0:aA [] w0 w)(hi:D[i]?=some a) :
 Calls Tryz.prog 130 #[.pointer (some ⟨fb,0,none⟩),.int .i64 i] w λe w'=>∃v L,e=.returned v/\PL w' v L/\(∀j∈L,j<D.length)/\(∀p,p∈parts a↔p∈L.map λj=>D.getD j .zero)/\L.length<=(parts a).length/\(L≠[]->∀x n cp,v=.slice (some x) n cp->x.block<w0.heap.size\/x.block=w.heap.size)/\aA [] w w':=by
 obtain⟨f,L,cap,K⟩:=h.look hi;have aO:=K.lt;have hlen:=h.len;have Cu:=h.ng.2.2.2.2.2;have t0:=(F0.cell (p:=⟨fb,0,none⟩) (by show fb<_;omega) (by simp)).trans K.tab;have k0:=(F0.cell (p:=⟨vb,i*12,none⟩) Cu.2.2.2.1 (by simp)).trans K.get.1;have k7:=(F0.cell (p:=⟨vb,i*12+7,none⟩) Cu.2.2.2.1 (by simp)).trans K.get.2.2.2.2.2.2.2.1;have Ta:=aj h.ng.1;have n0:=h.num hi h.ng.1;have HI:=aj hi;have kd:=K.kd;have KS:=aj K.sum;have KP:=aj K.pl;have HW:=aj h.ng.2.2.2.1;have HND:=aj h.ng.2.2.1;rw[kd]at k0;clear hi kd K;have nJ:Z_ (D.getD i .zero=a):=by show _=_;simp[List.getD,HI.o]
 by_cases e0:i=0
 ·have:=n0.1 e0;subst this;subst e0
  clear n0;go_enter Tryz.func130,Tryz.ntmps130
  go_wp2;go_ret;exact⟨_,[],rfl,PL.nil _,by simp,by simp[parts],by simp,by simp,aA.refl _ _⟩
 have b0:=WR e0;have m0:a≠.zero:=λe=>e0 (n0.2 e)
 clear n0;have lL:(i:Int)<D.length:=by omega
 by_cases acE:∃l,a=.sum l
 ·obtain⟨l,rfl⟩:=acE
  simp only[oQ]at k0;have hl:=KS.o l rfl;have hr:l.length=L.length/\∀p,p∈l↔p∈L.map λj=>D.getD j .zero:=by
   have ht:=Ca HW.o hl.1;refine⟨?_,λp=>?_⟩
   ·rw[hl.2.1,abW ht (Kl HND.o hl.2.2 hl.1)];simp
   rw[hl.2.1];exact iq ht
  have HR:=aj hr;have HL:=aj hl;clear hl hr;go_enter Tryz.func130,Tryz.ntmps130
  go_wp2;go_ret;refine⟨_,L,rfl,KP.o.aB F0 (oP.nil _),HL.o.1,by simpa[parts] using HR.o.2,by simp[parts,HR.o.1],?_,aA.refl _ _⟩;intro bL x n cp e;obtain⟨a3,c3,e3,h3⟩:=KP.o.1;obtain⟨g,off,e4,hg,_⟩:=h3 0 (a1P.2 bL);rw[e3,e4]at e;simp at e;obtain⟨rfl,_⟩:=e;exact .inl hg
 have hk4:oQ a≠4:=by cases a<;>simp_all[oQ]
 have aqz:((oQ a:Int)==4)=false:=by rw[a0k];omega
 have mJ:Z_ (parts a=[a]):=by show _=_;cases a<;>simp_all[parts]
 go_enter Tryz.func130,Tryz.ntmps130
 go_wp2;go_ret;refine⟨_,[i],rfl,?_,by simpa using aO,?_,by simp[mJ.o],λ_ x n cp e=>by simp at e;obtain⟨rfl,_⟩:=e;exact .inr rfl,(aA.refl _ _).alloc _⟩
 ·exact PL.af4 (base:=w.heap.size) (World.ownsRow_lit _ #[.int .i64 i] 1 (a0a _) (by unfold maxLen;omega) (by simp)) (by simp)
 intro p;rw[mJ.o];simp only[a0A,a1T,nJ.o]
def af5(A:NF):Prop:=∀(base:Nat) (w:World) (fb vb:Nat) (D:List NF) (ak c:Nat) (U:List NF) (Z:LN) (B:NF) (i j:Nat),ST base w fb vb D ak c U Z->D[i]?=some A->D[j]?=some B->(∀f∈sD A B,f∈U) ->
    Calls Tryz.prog 121 #[.pointer (some ⟨fb,0,none⟩),.int .i64 i,.int .i64 j] w (RQ base w fb vb D ak c U Z (aH A B))
theorem anK {a:NF}(h:∀x y,a≠.pair x y):((oQ a:Int)==3)=false:=by
 rw[a0k];cases a<;>simp[oQ]
 exact h _ _ rfl
theorem IX(A:NF):af5 A:=by
 refine NF.ind (P:=af5) ?_ A;intro A ih base w fb vb D ak c U Z B i j h hi hj hU;obtain⟨f,L,cap,K⟩:=h.look hi;obtain⟨f2,L2,aP,K2⟩:=h.look hj;have aO:=K.lt;have hlt':=K2.lt;have hlen:=h.len;have t0:=K.tab;obtain⟨c0,c1,c2,c3,c4,c5,c6,c7,c8,c9,c10,c11⟩:=K.get;have d8:=K2.get.2.2.2.2.2.2.2.2.1;have Ta:=aj h.ng.1;have HD1:=aj h.ng.2.1;have HI:=aj hi;have HJ:=aj hj;have n0:=h.num hi h.ng.1;have n1:=h.num hi h.ng.2.1;have o0:=h.num hj h.ng.1;have o1:=h.num hj h.ng.2.1;have kd:=K.kd;have te:=K.te;have te2:=K2.te;obtain⟨av,WT,hvp,_⟩:=K.pl.1;rw[hvp]at c7;clear hvp;have KP:=aj K.pair;have HS:=aj h;have HU:=aj hU;have wA:=h.ng.2.2.2.1 A (a0M hi);have wB:=h.ng.2.2.2.1 B (a0M hj);have Cu:=h.ng.2.2.2.2.2;rw[kd]at c0;rw[te]at c8;rw[te2]at d8;clear hi hj kd te te2 K K2 hU h;have Vo:(i:Int)<D.length:=by omega
 have lL:(j:Int)<D.length:=by omega
 by_cases e0:i=0
 ·have:=n0.1 e0;subst this;subst e0
  clear n0 n1 o0 o1;go_enter Tryz.func121,Tryz.ntmps121
  go_wp2;go_ret;exact RQ.here (r:=0) HS.o (aA.refl _ _) Ta
 have b0:=WR e0;have m0:A≠.zero:=λe=>e0 (n0.2 e)
 by_cases e1:j=0
 ·have:=o0.1 e1;subst this;subst e1
  clear n0 n1 o0 o1;go_enter Tryz.func121,Tryz.ntmps121
  go_wp2;go_ret;exact RQ.here (r:=0) HS.o (aA.refl _ _) (by rw[eF];exact Ta)
 have b1:=WR e1;have p0:B≠.zero:=λe=>e1 (o0.2 e)
 by_cases e2:i=1
 ·have:=n1.1 e2;subst this;subst e2
  clear n0 n1 o0 o1;go_enter Tryz.func121,Tryz.ntmps121
  go_wp2;go_ret;exact RQ.here (r:=j) HS.o (aA.refl _ _) HJ
 have b2:=aa9 e2;have m1:A≠.one:=λe=>e2 (n1.2 e)
 by_cases e3:j=1
 ·have:=o1.1 e3;subst this;subst e3
  clear n0 n1 o0 o1;go_enter Tryz.func121,Tryz.ntmps121
  go_wp2;go_ret;exact RQ.here (r:=i) HS.o (aA.refl _ _) (by rw[bz];exact HI)
 have b3:=aa9 e3;have p1:B≠.one:=λe=>e3 (o1.2 e)
 clear n0 n1 o0 o1;have hbt:aM B=true:=by cases B<;>simp_all[aM]
 by_cases hp:∃x y,A=.pair x y
 ·obtain⟨x,y,rfl⟩:=hp
  have hpr:=KP.o x y rfl;simp only[oQ]at c0;go_enter Tryz.func121,Tryz.ntmps121
  go_wp2_with fail
  have F1:aA [] w (w.alloc (Obj.cells #[.int .i64 3,.int .u64 (wd f.s 0),.int .u64 (wd f.s 1),.int .u64 (wd f.s 2),.int .u64 (wd f.s 3),.int .i64 f.fi,.int .i64 f.se,.slice av L.length WT,.bool (dY (.pair x y)),.int .i64 f.lk,.int .i64 f.ak,.int .i64 f.lf] 203)):=(aA.refl _ _).alloc _;have mV:=bK w (Obj.cells #[.int .i64 3,.int .u64 (wd f.s 0),.int .u64 (wd f.s 1),.int .u64 (wd f.s 2),.int .u64 (wd f.s 3),.int .i64 f.fi,.int .i64 f.se,.slice av L.length WT,.bool (dY (.pair x y)),.int .i64 f.lk,.int .i64 f.ak,.int .i64 f.lf] 203);have z1:(w.alloc (Obj.cells #[.int .i64 3,.int .u64 (wd f.s 0),.int .u64 (wd f.s 1),.int .u64 (wd f.s 2),.int .u64 (wd f.s 3),.int .i64 f.fi,.int .i64 f.se,.slice av L.length WT,.bool (dY (.pair x y)),.int .i64 f.lk,.int .i64 f.ak,.int .i64 f.lf] 203)).heap.size=w.heap.size+1:=by simp
  generalize w.alloc (Obj.cells #[.int .i64 3,.int .u64 (wd f.s 0),.int .u64 (wd f.s 1),.int .u64 (wd f.s 2),.int .u64 (wd f.s 3),.int .i64 f.fi,.int .i64 f.se,.slice av L.length WT,.bool (dY (.pair x y)),.int .i64 f.lk,.int .i64 f.ak,.int .i64 f.lf] 203)=w1 at F1 mV z1 |-;have hcr:=HU.o;rw[BS hbt]at hcr;refine(ih y (by simp[NF.size];omega) base w1 fb vb D ak c U Z B f.se j (HS.o.aW F1) hpr.2 HJ.o (λg hg=>hcr g (by simp[hg]))).mono ?_;rintro e w2 ⟨zY,R,r1,rfl,dM,lG,hq⟩;have q5:w2.cell? ⟨w.heap.size,5,none⟩=some (.int .i64 f.fi):=by
   have:=hq.block (k:=w.heap.size) (by omega) (by omega) (by omega);rw[mV]at this;simp[World.cell?,this]
  have C2:=aj (ih x (by simp[NF.size];omega) base w2 fb zY (D++R) ak c U Z (aH y B) f.fi r1 dM (pK hpr.1) lG (λg hg=>hcr g (by simp[hg])));have Q2:=aj (FQ.WQ F1 hq);have HT:Z_ (aH (.pair x y) B=aH x (aH y B)):=cz hbt;clear hcr dM lG hq mV z1 F1 hpr c0 c1 c2 c3 c4 c5 c6 c7 c8 c9 c10 c11 t0 d8 ih;go_wp2_with fail
  refine(C2.o).mono ?_;rintro e w3 eZ;have R3:=aj (RQ.later Q2.o eZ);obtain⟨_,_,r3,rfl,_⟩:=eZ;go_wp2;go_ret;rw[HT.o];exact R3
 have k3:=anK (a:=A) (λx y e=>hp ⟨x,y,e⟩);have hah:dE A=true:=by cases A<;>simp_all[dE]
 have HT:Z_ (aH A B=.pair A B):=aU hah hbt;have Sz:(NF.pair A B)∈U:=HU.o _ (by rw[lF hah hbt];simp);have N1:Z_ (∀w',aA [] w w'->Calls Tryz.prog 118 #[.pointer (some ⟨fb,0,none⟩),.agg #[.int .i64 3,.int .u64 0,.int .u64 0,.int .u64 0,.int .u64 0,.int .i64 i,.int .i64 j,.slice none 0 0,.bool (dY A&&dY B),.int .i64 0,.int .i64 0,.int .i64 0]] w' (RQ base w' fb vb D ak c U Z (.pair A B))):=by
  intro w' F;have hw2:=WC.then wA wB;rw[HT.o]at hw2;have:=Gr base w' fb vb D ak c U Z ⟨3,0,i,j,.slice none 0 0,dY A&&dY B,0,0,0⟩ [] (.pair A B) (HS.o.aW F) (PL.nil _) (a2T 256) (.inr (.inl ⟨rfl,rfl,rfl,aO,hlt',A,B,HI,HJ,rfl⟩)) hw2 Sz rfl rfl (aba Z);rw[abb 3 i j _ _ 3 i j rfl rfl rfl]at this;exact this
 clear Sz HU;rw[HT.o];have F0:Z_ (∀o,aA [] w (w.alloc o)):=λo=>(aA.refl _ _).alloc o
 have hv1:=Cu.2.2.2.1;have Yb:fb<w.heap.size:=by omega
 have t0':∀o,(w.alloc o).cell? ⟨fb,0,none⟩=some (.slice (some ⟨vb,0,none⟩) D.length cap):=λo=>(((aA.refl [] w).alloc o).cell (p:=⟨fb,0,none⟩) Yb (by simp)).trans t0
 have d8':∀o,(w.alloc o).cell? ⟨vb,j*12+8,none⟩=some (.bool (dY B)):=λo=>(((aA.refl [] w).alloc o).cell (p:=⟨vb,j*12+8,none⟩) hv1 (by simp)).trans d8
 cases hnA:dY A with
 | true =>
   rw[hnA]at c8 N1;cases hnB:dY B with
   | true =>
     rw[hnB]at d8 N1;simp only[hnB]at d8';go_enter Tryz.func121,Tryz.ntmps121
     go_wp2_with (go_at_call 118;refine(N1.o _ (F0.o _)).mono ?_;rintro e w3 eZ;have R3:=aj (RQ.first (F0.o _) eZ);obtain⟨_,_,r3,rfl,_⟩:=eZ)
     go_ret;exact R3
   | false =>
     rw[hnB]at d8 N1;simp only[hnB]at d8';go_enter Tryz.func121,Tryz.ntmps121
     go_wp2_with (go_at_call 118;refine(N1.o _ (F0.o _)).mono ?_;rintro e w3 eZ;have R3:=aj (RQ.first (F0.o _) eZ);obtain⟨_,_,r3,rfl,_⟩:=eZ)
     go_ret;exact R3
 | false =>
   rw[hnA]at c8 N1;go_enter Tryz.func121,Tryz.ntmps121
   go_wp2_with (go_at_call 118;refine(N1.o _ (F0.o _)).mono ?_;rintro e w3 eZ;have R3:=aj (RQ.first (F0.o _) eZ);obtain⟨_,_,r3,rfl,_⟩:=eZ)
   go_ret;exact R3
theorem zH(h:D[j]?=some d):D.getD j .zero=d:=by simp[List.getD,h]
theorem any_take_succ(R:LN)(g:Nat->Bool)(j:Nat)(h:j<R.length):(R.take (j+1)).any g=((R.take j).any g||g R[j]):=by
 have e:R.take (j+1)=R.take j++[R[j]]:=by rw[a1n,a0c h];rfl
 rw[e,List.any_append];simp only[List.any_cons,List.any_nil,Bool.or_false]
theorem adg(base:Nat)(w:World)(fb vb:Nat)(D:List NF)(ak c:Nat)(U:List NF)(Z:LN)(v:Value)(L:LN)(l:List NF)(h:ST base w fb vb D ak c U Z)(hv:NL .i64 w v L)(hL:L.length<=9500000000000)
 (hl:∀j∈L,j<D.length) (ht:E8 l) (hm:∀p,p∈l↔p∈L.map λj=>D.getD j .zero) (hw:WC (mkS (fU l))) (hU:2<=(fU l).length->mkS (fU l)∈U) :
 Calls Tryz.prog 132 #[.pointer (some ⟨fb,0,none⟩),v] w (RQ base w fb vb D ak c U Z (mkS (fU l))):=by
 have hlen:=h.len;have R1:=aj (aa8 v L w hv hL);have Ta:=aj h.ng.1;have ND:=h.ng.2.2.1;have WCD:=h.ng.2.2.2.1;have RS:Z_ (∀R,RO R L->fU (R.map λj=>D.getD j .zero)=fU l/\(fU l).length=R.length):=λR hR=>ala ND WCD hR hl ht hm
 have HL:=aj hl;have HU:=aj hU;have HW:=aj hw;have HS:=aj h;have HZ:=aj h.zs;obtain⟨av,cv,rfl,_⟩:=hv;clear hl hU hw h ht hm;go_enter Tryz.func132,Tryz.ntmps132
 go_wp2_with fail
 refine(R1.o).mono ?_;rintro e w1 ⟨v',R,rfl,jf,hro,aZ⟩;have wR:=RS.o R hro;have hRl:∀j∈R,j<D.length:=λj hj=>HL.o j ((hro.2 j).1 hj)
 have WU:R.length<=D.length:=by
  rw[<-wR.2,<-wR.1];exact oK (zi (uX _)) λx hx=>by
   obtain⟨j,hj,rfl⟩:=a0s.1 (jR hx);exact Ip (hRl j hj)
 have qE:=aj wR;have PI:=aj hro;have PK:=aj hRl;have F1:=aj aZ;have S1:=aj (HS.o.aW aZ);have IL1:=aj jf;obtain⟨a',c',rfl⟩:=aT jf;obtain⟨a2,c2,e2,hN⟩:=vM jf;simp only[Value.slice.injEq,a1X]at e2;obtain⟨rfl,rfl⟩:=e2;have HN:=aj hN;clear wR hro hRl aZ jf hN R1 RS HS HL
 match R,WU,qE,PI,PK,IL1,HN with
 | [],WU,qE,PI,PK,IL1,HN =>
   have e:Z_ (mkS (fU l)=.zero):=by show _=_;rw[<-qE.o.1];rfl
   clear HN IL1;go_wp2;go_ret;rw[e.o];exact RQ.first F1.o (RQ.here (r:=0) S1.o (aA.refl _ _) Ta)
 | [r],WU,qE,PI,PK,IL1,HN =>
   have e:Z_ (mkS (fU l)=D.getD r .zero):=by show _=_;rw[<-qE.o.1];rfl
   have hr:r<D.length:=PK.o r (by simp);obtain⟨g,off,rfl,hg,hc⟩:=HN.o 0 (by simp);simp only[List.getElem_cons_zero,a1G]at hc;clear HN IL1;go_wp2;go_ret;rw[e.o];exact RQ.first F1.o (RQ.here (r:=r) S1.o (aA.refl _ _) (getD_some hr))
 | r::r'::R',WU,qE,PI,PK,IL1,HN =>
   obtain⟨R,hR⟩:∃R,R=r::r'::R':=⟨_,rfl⟩;have h2:2<=R.length:=by rw[hR];simp
   rw[<-hR]at WU qE PI PK IL1 HN;have hlR:(r::r'::R').length=R.length:=by rw[hR]
   rw[hlR];clear hR hlR;have b0:=WR (a:=R.length) (by omega);have b1:=aa9 (a:=R.length) (by omega);go_wp2_with fail
   have N1:Z_ (∀w',aA [] w1 w'->Calls Tryz.prog 118 #[.pointer (some ⟨fb,0,none⟩),.agg #[.int .i64 4,.int .u64 0,.int .u64 0,.int .u64 0,.int .u64 0,.int .i64 0,.int .i64 0,.slice a' R.length c',.bool ((R.take R.length).any λj=>dY (D.getD j .zero)),.int .i64 0,.int .i64 0,.int .i64 0]] w' (RQ base w' fb vb D ak c U Z (mkS (fU l)))):=by
    intro w' F;have hms:mkS (fU l)=.sum (fU (R.map λj=>D.getD j .zero)):=by rw[qE.o.1];exact agH (by rw[qE.o.2];exact h2)
    have Sz:=HU.o (by rw[qE.o.2];exact h2);have hww:=HW.o;rw[hms]at Sz hww |-;have pY:PL w' (.slice a' R.length c') R:=(PL.af4 IL1.o (by omega)).aB F (oP.nil _);have Bu:((R.take R.length).any λj=>dY (D.getD j .zero))=dY (.sum (fU (R.map λj=>D.getD j .zero))):=by
     rw[a2i];show _=abJ _;rw[Iq,any_congr (a:=fU (R.map λj=>D.getD j .zero)) (b:=R.map λj=>D.getD j .zero) (λp=>iq (Ca WCD PK.o)),List.any_map]
     rfl
    have:=Gr base w' fb vb D ak c U Z ⟨4,0,0,0,.slice a' R.length c',(R.take R.length).any λj=>dY (D.getD j .zero),0,0,0⟩ R _ (S1.o.aW F) pY (a2T 256) (.inr (.inr (.inl ⟨rfl,rfl,rfl,rfl,PI.o.1,PK,rfl⟩))) hww Sz Bu rfl (λx n cc e hm=>by simp at e;obtain⟨rfl,_⟩:=e;have h1:=(IL1.o.lt _ rfl).1;have h2:=HZ.o _ hm;omega);rw[abb 4 0 0 _ _ 4 0 0 rfl rfl rfl]at this;exact this
   go_loopg [6,22] R.length (λk vt vi wr=>∃j:Nat,j+k=R.length/\vi=.int .i64 j/\vt=.bool ((R.take j).any λj=>dY (D.getD j .zero))/\wr=w1)
   case atStart=>exact⟨0,by omega,rfl,by simp,rfl⟩
   case round =>
    obtain⟨j,hj,rfl,rfl,hw⟩:=hrel;subst hw
    by_cases aO:j<R.length
    ·obtain⟨g,off,rfl,hg,hc⟩:=HN.o j aO
     have hrj:=PK.o R[j] (a0z aO);obtain⟨f,L2,cap,K⟩:=S1.o.look (getD_some hrj);have t0:=K.tab;have k8:=K.get.2.2.2.2.2.2.2.2.1;have Bu:=K.te;rw[Bu]at k8;have AT:=aj (any_take_succ R (λj=>dY (D.getD j .zero)) j aO);clear K Bu;generalize R[j]=m at *;clear N1;cases hb:(R.take j).any λj=>dY (D.getD j .zero)
     ·rw[hb]at AT
      have AT2:Z_ (((R.take (j+1)).any λj=>dY (D.getD j .zero))=dY (D.getD m .zero)):=by have:=AT.o;rw[Bool.false_or]at this;exact this
      clear AT hb;generalize dY (D.getD m .zero)=bm at *;go_wp2;go_roundg (gk-1)
      case measure=>omega
      case rel=>exact⟨j+1,by omega,by go_num,by rw[AT2.o],rfl⟩
     rw[hb]at AT;have AT2:Z_ (((R.take (j+1)).any λj=>dY (D.getD j .zero))=true):=by have:=AT.o;rw[Bool.true_or]at this;exact this
     clear AT hb;go_wp2;go_roundg (gk-1)
     case measure=>omega
     case rel=>exact⟨j+1,by omega,by go_num,by rw[AT2.o],rfl⟩
    have qM:j=R.length:=by omega
    subst qM;have N2:=aj (N1.o wr (aA.refl _ _));clear N1;generalize ((R.take R.length).any λj=>dY (D.getD j .zero))=tb at *;go_wp2_with (go_at_call 118;refine(N2.o).mono ?_;rintro e w3 eZ;have R3:=aj (RQ.first F1.o eZ);obtain⟨_,_,r3,rfl,_⟩:=eZ)
    go_ret;exact R3
def ET(D:List NF)(P:LN)(s:Nat)(X:List NF):Prop :=
 (∀q∈P,q<D.length)/\(∀p,p∈P.map (λj=>D.getD j .zero)↔p∈X/\di p=false)/\s=aY X/\P.length<=X.length
theorem ET.nil(D:List NF):ET D [] 0 []:=⟨by simp,by simp,rfl,by simp⟩
theorem Rh(X:List NF)(d:NF):aY (X++[d])=aY X ||| bits d:=by
 rw[xm,qG];simp[aY]
theorem ET.set(h:ET D P s X):ET D P (s ||| t) (X++[.set t]):=by
 refine⟨h.1,λp=>?_,?_,?_⟩
 ·rw[h.2.1 p]
  constructor
  ·rintro⟨a,b⟩;exact⟨by simp[a],b⟩
  rintro⟨a,b⟩;rcases a0b.1 a with e|e
  ·exact⟨e,b⟩
  simp at e;subst e;simp[di]at b
 ·rw[Rh,<-h.2.2.1];rfl
 have:=h.2.2.2;simp;omega
theorem ET.add(h:ET D P s X)(hq:D[q]?=some d)(hd:di d=false):ET D (P++[q]) s (X++[d]):=by
 have nJ:=zH hq;refine⟨?_,λp=>?_,?_,?_⟩
 ·intro j hj
  rcases a0b.1 hj with e|e
  ·exact h.1 j e
  simp at e;subst e;exact(a0i.1 hq).1
 ·rw[a0T,a0b,h.2.1 p]
  simp only[a0A,a1T,a0y,a0b,nJ]
  constructor
  ·rintro(⟨a,b⟩|e)
   ·exact⟨.inl a,b⟩
   subst e;exact⟨.inr rfl,hd⟩
  rintro⟨a|e,b⟩
  ·exact .inl ⟨a,b⟩
  exact .inr e
 ·rw[Rh,<-h.2.2.1,Ow hd];simp
 have:=h.2.2.2;simp;omega
theorem ET.congr{Y:List NF}(h:ET D P s X)(hm:∀p,p∈X↔p∈Y)(hl:X.length<=Y.length):ET D P s Y:=by
 refine⟨h.1,λp=>by rw[h.2.1 p,hm p],?_,a0e h.2.2.2 hl⟩;rw[h.2.2.1];refine Dr λi=>?_
 rw[a0P,a1H,a1H];exact⟨λ⟨x,hx,e⟩=>⟨x,(hm x).1 hx,e⟩,λ⟨x,hx,e⟩=>⟨x,(hm x).2 hx,e⟩⟩
theorem ET.core(h:ET D P (aY X) X)(h0:aY X=0):∀p,p∈bG X↔p∈P.map λj=>D.getD j .zero:=by
 intro p;rw[h.2.1 p,ku]
 constructor
 ·rintro(a|⟨a,_⟩)
  ·exact a
  exact absurd h0 a
 intro a;exact .inl a
theorem WV(h:∀q∈P,q<D.length):(P.map λj=>(D++R).getD j .zero)=P.map λj=>D.getD j .zero:=by
 refine a2d λj hj=>?_
 simp[List.getD,a0u (h j hj)]
theorem ET.coreS(h:ET D P (aY X) X)(h0:aY X≠0)(hr:(D++R)[r]?=some (.set (aY X))):∀p,p∈bG X↔p∈(P++[r]).map λj=>(D++R).getD j .zero:=by
 intro p;rw[a0T,a0b,WV h.1,h.2.1 p,ku];simp only[a0A,a1T,a0y,zH hr]
 constructor
 ·rintro(a|⟨_,b⟩)
  ·exact .inl a
  exact .inr b
 rintro(a|b)
 ·exact .inl a
 exact .inr ⟨h0,b⟩
def BX(w:World)(bb s:Nat):Prop:=w.heap[bb]?=some (.cells #[.int .u64 (wd s 0),.int .u64 (wd s 1),.int .u64 (wd s 2),.int .u64 (wd s 3)] 192 (0,0))
theorem BX.lt(h:BX w bb s):bb<w.heap.size:=(a0d.1 h).1
theorem BX.aB(h:BX w bb s)(F:aA S w w')(hS:bb∉S):BX w' bb s:=(F.block bb h.lt hS).trans h
theorem BX.fz(h:BX w bb s)(o:Nat):w.frozen? ⟨bb,o,none⟩=false:=by unfold BX at h;simp[World.frozen?,h]
theorem BX.get(h:BX w bb s):w.cell? ⟨bb,0,none⟩=some (.int .u64 (wd s 0))/\w.cell? ⟨bb,1,none⟩=some (.int .u64 (wd s 1))/\w.cell? ⟨bb,2,none⟩=some (.int .u64 (wd s 2))/\w.cell? ⟨bb,3,none⟩=some (.int .u64 (wd s 3)):=by
 unfold BX at h;simp only[World.cell?,h];exact⟨rfl,rfl,rfl,rfl⟩
theorem BX.set(h:BX w bb s)(t:Nat):BX ((((w.setCell ⟨bb,0,none⟩ (.int .u64 (wd t 0))).setCell ⟨bb,1,none⟩ (.int .u64 (wd t 1))).setCell ⟨bb,2,none⟩ (.int .u64 (wd t 2))).setCell ⟨bb,3,none⟩ (.int .u64 (wd t 3))) bb t:=by
 unfold BX at h |-;simp only[World.setCell,a0t,h,a0C,a1x]
 rfl
structure OQ(w wr:World)(bb:Nat)(D:List NF)(vp:Value)(P:LN)(s:Nat)(X:List NF):Prop where
 il:IL w.heap.size wr vp P
 nb:vp.ownBlock≠some bb
 bx:BX wr bb s
 os:ET D P s X
 fr:aA [] w wr
 bw:w.heap.size<=bb
 sl:s<2 ^ 256
theorem OQ.aW{wr:World}(h:OQ w wr bb D vp P s X)(f:aA [] wr w'):OQ w w' bb D vp P s X :=
 ⟨ek h.il f (by simp),h.nb,h.bx.aB f (by simp),h.os,h.fr.trans f,h.bw,h.sl⟩
theorem BX.uj(h:BX w bb s):oP w [bb]:=by
 intro k hk cur fz;simp at hk;subst hk;rw[h];simp
theorem PL.ajJ(h:PL w v L)(f:aA S w w')(hS:∀a n c,v=.slice (some a) n c->a.block∉S):PL w' v L:=by
 refine⟨h.1.aB f hS,?_,h.2.2⟩;intro a n c e;obtain⟨cur,fz,hc⟩:=h.2.1 a n c e;exact⟨cur,fz,(f.block _ (a0d.1 hc).1 (hS a n c e)).trans hc⟩
theorem OQ.joined{wr:World}(h:OQ w wr bb D vp P s X)(ht:t<2 ^ 256)(f:aA [bb] wr w')(hb:BX w' bb (s ||| t)):OQ w w' bb D vp P (s ||| t) (X++[.set t]):=by
 have UM:=h.bw;refine⟨kW h.il f (λk hk=>by simp;intro e;subst e;exact h.nb hk),h.nb,hb,h.os.set,?_,h.bw,Nat.or_lt_two_pow h.sl ht⟩;exact⟨f.os.trans h.fr.os,f.tape.trans h.fr.tape,f.output.trans h.fr.output,a0e h.fr.size f.size,λk hk _=>(f.block k (a0x hk h.fr.size) (by simp;omega)).trans (h.fr.block k hk (by simp))⟩
theorem OQ.add{wr:World} {o:Obj}(h:OQ w wr bb D vp P s X)(hq:D[q]?=some d)(hd:di d=false)
 (jf:IL w.heap.size w' (.slice (some ⟨g,0,none⟩) (P.length+1) cap) (P++[q])) (hg:(wr.alloc o).grownBy w' vp.ownBlock) (aX:vp.ownBlock=some g\/g=(wr.alloc o).heap.size):OQ w w' bb D (.slice (some ⟨g,0,none⟩) (P.length+1) cap) (P++[q]) s (X++[d]):=by
 have UM:=h.bw;have Jn:=h.bx.lt;have F1:=(aA.refl [] wr).alloc o;have F2:aA vp.ownBlock.toList (wr.alloc o) w':=aA.dS hg;have K1:=h.aW F1;refine⟨jf,?_,K1.bx.aB F2 (λhm=>by rw[a0H]at hm;exact h.nb hm),h.os.add hq hd,?_,h.bw,h.sl⟩
 ·simp only[Value.ownBlock,ne_eq,Option.some.injEq]
  intro e;subst e;rcases aX with e|e
  ·exact h.nb e
  simp at e;omega
 exact K1.fr.grown hg (λk hk=>.inr (h.il.lt k hk).1)
theorem TE.ajK {base:Nat} {E:List (FV × LN)} {B:LN}(h:TE base w fb vb E B ak)(f:aA S w w')(h1:fb∉S)(h2:vb∉S)(h3:∀e∈E,∀x n c,e.1.vp=.slice (some x) n c->x.block∉S):TE base w' fb vb E B ak:=by
 obtain⟨cap,ht,hl⟩:=h.row;exact⟨⟨cap,ht.aB f h1,kW hl f (λk hk=>by simp[Value.ownBlock]at hk;subst hk;exact h2)⟩,λe he=>(h.pl e he).ajJ f (h3 e he),h.st,h.fb,a0e h.sz f.size⟩
theorem PL.blk(h:PL w v L) {x:Addr}{c:Nat}(e:v=.slice (some x) n c):x.block<w.heap.size:=by
 obtain⟨cur,fz,hc⟩:=h.2.1 x n c e;exact(a0d.1 hc).1
theorem aA.alR {a b:World}(h:aA S a.drew b):aA S a b:=⟨h.os,h.tape,h.output,h.size,h.block⟩
theorem ajL{gg sz:Nat}(h:vp.ownBlock≠some g)(aX:vp.ownBlock=some gg\/gg=sz)(hg:g<sz):Value.ownBlock (.slice (some ⟨gg,0,none⟩) n cap)≠some g:=by
 intro e;simp[Value.ownBlock]at e;subst e;rcases aX with e|e
 ·exact h e
 omega
theorem ae4(ls:List NF)(k:Nat):((ls.take k).flatMap parts).length<=(ls.flatMap parts).length:=by
 have e:ls.flatMap parts=(ls.take k).flatMap parts++(ls.drop k).flatMap parts:=by rw[<-a2L,a1I]
 rw[e];simp
theorem Gs(M:LN)(f:Nat->NF)(j:Nat)(h:j<M.length)(X:List NF):X++(M.take (j+1)).map f=(X++(M.take j).map f)++[f M[j]]:=by
 have e:M.take (j+1)=M.take j++[M[j]]:=by rw[a1n,a0c h];rfl
 rw[e,a0T,a0K];rfl
theorem anL {a:NF}(h:di a=false):((oQ a:Int)==2)=false:=by
 rw[a0k];cases a<;>simp_all[oQ,di]
theorem abf(base:Nat)(w:World)(fb vb:Nat)(D:List NF)(ak c:Nat)(U:List NF)(Z:LN)(v:Value)(I:LN)(ls:List NF)(h:ST base w fb vb D ak c U Z)(hv:NL .i64 w v I)
 (hI:∀j∈I,j<D.length) (hls:ls=I.map λj=>D.getD j .zero) (hU:Cb U ls) :
 Calls Tryz.prog 119 #[.pointer (some ⟨fb,0,none⟩),v] w (RQ base w fb vb D ak c U Z (bI ls)):=by
 obtain⟨ai,ci,rfl,hN⟩:=hv;have HN:=aj hN;have HS:=aj h;have HI:=aj hI;have HLS:=aj hls;have HU:=aj hU;have hll:ls.length=I.length:=by rw[hls];simp
 have hIl:I.length<=9000000000000:=by have:=hU.2.2.2;omega
 have hlen:=h.len;have HLL:=aj hll;clear hN hI hls hU hll h;go_enter Tryz.func119,Tryz.ntmps119
 go_wp2_with fail
 go_loopg [5,16] I.length (λk vp vi wr=>∃(j:Nat) (P:LN) (s:Nat),j+k=I.length/\vi=.int .i64 j/\OQ w wr (w.heap.size+1) D vp P s ((ls.take j).flatMap parts))
 case atStart =>
  have F2:aA [] w ((w.alloc (Obj.cells #[] 3)).alloc (Obj.cells #[.int .u64 0,.int .u64 0,.int .u64 0,.int .u64 0] 192)):=((aA.refl _ _).alloc _).alloc _;refine⟨0,[],0,by omega,rfl,?_,by simp[Value.ownBlock],?_,ET.nil D,F2,by omega,a2T 256⟩
  ·have:=World.ownsRow_lit (w:=w) (base:=w.heap.size) (e:=3) (size:=1) #[] 0 (a0a _) (by unfold maxLen;omega) (by simp)
   exact World.ownsRow.alloc this _
  have e:w.heap.size+1=(w.alloc (Obj.cells #[] 3)).heap.size:=by simp
  unfold BX;rw[e];have:=bK (w.alloc (Obj.cells #[] 3)) (Obj.cells #[.int .u64 0,.int .u64 0,.int .u64 0,.int .u64 0] 192);simpa[wd] using this
 case round =>
  obtain⟨j,P,s,hj,rfl,Ee⟩:=hrel;obtain⟨wo,Pn⟩:∃wo,wo=wr:=⟨_,rfl⟩;subst Pn;obtain⟨go,gP⟩:∃go,go=gk:=⟨_,rfl⟩;subst gP;obtain⟨ap,cp',rfl⟩:=aT Ee.il;have OQ1:=aj Ee;have zo:=Ee.fr.size;have Jn:=Ee.bx.lt;clear Ee
  by_cases aO:j<I.length
  ·obtain⟨g,off,rfl,hg,hc⟩:=HN.o j aO
   have uM:wo.cell? ⟨g,off+j,none⟩=some (.int .i64 (I[j]:Nat)):=(OQ1.o.fr.cell (p:=⟨g,off+j,none⟩) hg (by simp)).trans hc;have hij:=HI.o I[j] (a0z aO);have PO:=aj (abd base w wo fb vb D ak c U Z _ I[j] HS.o OQ1.o.fr (getD_some hij));have FL1:Z_ ((ls.take (j+1)).flatMap parts=(ls.take j).flatMap parts++parts (D.getD I[j] .zero)):=by
    show _=_;have e:ls.take (j+1)=ls.take j++[D.getD I[j] .zero]:=by
     rw[HLS.o,a1n];simp[aO]
    rw[e,a2L];simp
   have hXL:((ls.take j).flatMap parts).length+(parts (D.getD I[j] .zero)).length<=9000000000000:=by
    have h1:=ae4 ls (j+1);rw[FL1.o,a0v]at h1;have:=HU.o.2.2.1;omega
   clear hc hij;generalize hIj:I[j]=i at *;generalize hDi:D.getD i .zero=a at *;clear hIj hDi;go_wp2_with fail
   refine(PO.o).mono ?_;rintro e w2 ⟨v2,M,rfl,pY,hM,oC,hMl,ajM,aS⟩;obtain⟨a2,c2,rfl,_⟩:=pY.1;have BL2:Z_ (M≠[]->∀x n cp,(Value.slice a2 M.length c2)=.slice (some x) n cp->x.block<w.heap.size\/x.block=wo.heap.size):=ajM;have OQ2:=aj (OQ1.o.aW aS);have PL2:=aj pY;have HM:=aj hM;have HMM:=aj oC;have z2:=aS.size;have jf:=OQ1.o.il;have NE2:Z_ (∀x n cp,M≠[]->(Value.slice a2 M.length c2)=.slice (some x) n cp->Value.ownBlock (.slice ap P.length cp')≠some x.block):=by
    intro x n cp bL e e2;have h1:=jf.lt _ e2;rcases BL2.o bL x n cp e with h2|h2<;>omega
   clear pY hM oC ajM aS jf PO OQ1;go_wp2_with fail
   go_loopg [5,24] M.length (λk vp vi wr=>∃(j2:Nat) (P:LN) (s:Nat),j2+k=M.length/\vi=.int .i64 j2/\OQ w wr (w.heap.size+1) D vp P s ((ls.take j).flatMap parts++(M.take j2).map λj=>D.getD j .zero)/\PL wr (.slice a2 M.length c2) M/\Z_ (∀x n cp,M≠[]->(Value.slice a2 M.length c2)=.slice (some x) n cp->vp.ownBlock≠some x.block))
   case atStart=>exact⟨0,P,s,by omega,rfl,by simpa using OQ2.o,PL2,NE2⟩
   case round =>
    clear OQ2 PL2 NE2;obtain⟨j2,P2,s2,Yx,rfl,Ee,pY,NE⟩:=hrel;obtain⟨ap2,cp2,rfl⟩:=aT Ee.il;have O3:=aj Ee;have P3:=aj pY;have z3:=Ee.fr.size;have aqA:=Ee.bx.lt;have hP2:=Ee.os.2.2.2;have nQ:=Ee.sl;have S3:=aj (HS.o.aW Ee.fr);have b3:=Ee.bx.get;have g0:=Ee.bx.fz 0;have g1:=Ee.bx.fz 1;have g2:=Ee.bx.fz 2;have g3:=Ee.bx.fz 3;clear Ee pY
    by_cases lL:j2<M.length
    ·obtain⟨a3,c3,e3,h3⟩:=P3.o.1
     simp only[Value.slice.injEq,a1X]at e3;obtain⟨rfl,rfl⟩:=e3;obtain⟨g,off,rfl,kg,Jv⟩:=h3 j2 lL;have bL:M≠[]:=λe=>by rw[e]at lL;simp at lL
     have hmj:=HM.o M[j2] (a0z lL);have hD3:=getD_some hmj;obtain⟨f,L2,cap,K⟩:=S3.o.look hD3;have t0:=K.tab;obtain⟨k0,k1,k2,k3,k4,_⟩:=K.get;have hkd:=K.kd;have KS:=aj K.set;have KT:=aj K.st;rw[hkd]at k0;have MT:=aj (Gs M (λj=>D.getD j .zero) j2 lL ((ls.take j).flatMap parts));have hX2:((ls.take j).flatMap parts++(M.take j2).map λj=>D.getD j .zero).length<=9000000000000:=by
      simp only[a0v,a0B,a1q];omega
     clear h3 K hkd;have aqB:((M[j2]:Nat):Int)<D.length:=by omega
     generalize M[j2]=q at *;generalize D.getD q .zero=d at *;have HD3:=aj hD3;clear hD3;cases hsd:di d
     ·have ME:=anL hsd
      have MT2:Z_ (((ls.take j).flatMap parts++(M.take (j2+1)).map λj=>D.getD j .zero)=((ls.take j).flatMap parts++(M.take j2).map λj=>D.getD j .zero)++[d]):=MT.o;clear MT b3 k1 k2 k3 k4 g0 g1 g2 g3;go_wp2_with (first | (at_builtin;refine sO _ rfl _ _ rfl w.heap.size (.slice ap2 P2.length cp2) P2 q wr.heap.size rfl (O3.o.il.alloc _) rfl (jo _ _ _ _ rfl) (by omega) (by simp;omega) ?_;intro gg aP w5 aQ aG aX iD;have O5:=aj (O3.o.add HD3.o hsd aQ aG aX);have P5:=aj ((P3.o.aB ((aA.refl [] wr).alloc _) (oP.nil _)).ajJ (aA.dS aG) (λa n cc e hm=>by rw[a0H]at hm;exact NE.o a n cc bL e hm));have N5:Z_ (∀x n cp,M≠[]->(Value.slice (some ⟨g,off,none⟩) M.length c2)=.slice (some x) n cp->Value.ownBlock (.slice (some ⟨gg,0,none⟩) (P2.length+1) aP)≠some x.block):=(λx n cc _ e=>by simp at e;obtain⟨rfl,_⟩:=e;exact ajL (NE.o ⟨g,off,none⟩ _ _ bL rfl) aX (by simp;omega));clear aQ aG aX))
      go_roundg (gk-1)
      case measure=>omega
      case rel=>exact⟨j2+1,P2++[q],s2,by omega,by go_num,by rw[MT2.o];simpa using O5.o,P5,by simpa using N5⟩
     obtain⟨t,rfl⟩:∃t,d=.set t:=by cases d<;>simp[di]at hsd;exact⟨_,rfl⟩
     have hft:f.s=t:=KS.o t rfl;have ht:=KT.o;rw[hft]at k1 k2 k3 k4 ht;clear hft;obtain⟨b0,b1,b2,b3⟩:=b3;have J:=aj (ac2 s2 t wr.drew nQ ht);simp only[bv]at J;have hk:((oQ (.set t):Nat):Int)=2:=rfl;rw[hk]at k0;clear hk;have MT2:Z_ (((ls.take j).flatMap parts++(M.take (j2+1)).map λj=>D.getD j .zero)=((ls.take j).flatMap parts++(M.take j2).map λj=>D.getD j .zero)++[.set t]):=MT.o;clear MT;go_wp2_with fail
     go_region_with (go_at_call 131;refine(J.o).mono ?_;rintro e w4 ⟨rfl,nR⟩;have B4:BX w4 (w.heap.size+1) s2:=BX.aB (show BX wr.drew (w.heap.size+1) s2 from O3.o.bx) nR (by simp);obtain⟨d0,d1,d2,d3⟩:=B4.get;have e0:=B4.fz 0;have e1:=B4.fz 1;have e2:=B4.fz 2;have e3:=B4.fz 3;have B5:=aj (B4.set (s2 ||| t));have F4:=aj nR;clear nR B4)
     all_goals
      have F5:Z_ (aA [w.heap.size+1] wr ((((w4.setCell ⟨w.heap.size+1,0,none⟩ (.int .u64 (wd (s2 ||| t) 0))).setCell ⟨w.heap.size+1,1,none⟩ (.int .u64 (wd (s2 ||| t) 1))).setCell ⟨w.heap.size+1,2,none⟩ (.int .u64 (wd (s2 ||| t) 2))).setCell ⟨w.heap.size+1,3,none⟩ (.int .u64 (wd (s2 ||| t) 3)))):=((((aA.alR F4).nil.setCell (.inl (by simp)) _).setCell (.inl (by simp)) _).setCell (.inl (by simp)) _).setCell (.inl (by simp)) _;have O5:=aj (O3.o.joined ht F5.o B5);have P5:=aj (P3.o.aB F5.o O3.o.bx.uj);clear b0 b1 b2 b3 d0 d1 d2 d3 e0 e1 e2 e3 g0 g1 g2 g3 k0 k1 k2 k3 k4 t0 J;go_wp2;go_roundg (gk-1)
      case measure=>omega
      case rel=>exact⟨j2+1,P2,s2 ||| t,by omega,by go_num,by rw[MT2.o];exact O5,P5,NE⟩
    have ou:j2=M.length:=by omega
    have O4:Z_ (OQ w wr (w.heap.size+1) D (.slice ap2 P2.length cp2) P2 s2 ((ls.take (j+1)).flatMap parts)):=by
     have h:=O3.o;refine⟨h.il,h.nb,h.bx,?_,h.fr,h.bw,h.sl⟩;refine h.os.congr ?_ ?_
     ·intro p
      rw[FL1.o,ou,a2i,a0b,a0b,<-HMM.o p]
     rw[FL1.o,ou,a2i,a0v,a0v,a0B];omega
    clear O3 P3 NE b3 g0 g1 g2 g3 ou;go_wp2;go_roundg (go-1)
    case measure=>omega
    case rel=>exact⟨j+1,P2,s2,by omega,by go_num,O4⟩
  have ou:j=I.length:=by omega
  have O4:Z_ (OQ w wo (w.heap.size+1) D (.slice ap P.length cp') P s (ls.flatMap parts)):=by
   have h:=OQ1.o;rw[ou,<-HLL.o,a2i]at h;exact h
  clear OQ1 ou;obtain⟨E,B,hE,hP,hUD,CG,Jw⟩:=HS.o;have aqC:=HS.o.ng.2.2.2.2.2;have hsj:s=aY (ls.flatMap parts):=O4.o.os.2.2.1;have hls:∀x∈ls,WC x:=by
   intro x hx;rw[HLS.o]at hx;obtain⟨k,hk,rfl⟩:=a0s.1 hx;exact HS.o.ng.2.2.2.1 _ (Ip (HI.o k hk))
  have ajN:∀p∈ls.flatMap parts,wf p:=xD λx hx=>(hls x hx).1
  have SE:=aj (ajH base wo fb vb E B D ak c U Z s (hE.aW O4.o.fr) hP hUD CG O4.o.sl (λh0=>by rw[hsj]at h0 |-;exact HU.o.1 h0) (Jw.mono O4.o.fr.size));simp only[bv]at SE;obtain⟨b0,b1,b2,b3⟩:=O4.o.bx.get;have HT:Z_ (E8 (bG (ls.flatMap parts))):=BR (Mc ajN);have HWC:Z_ (WC (mkS (fU (bG (ls.flatMap parts))))):=WC.bI hls;have HUO:Z_ (2<=(fU (bG (ls.flatMap parts))).length->mkS (fU (bG (ls.flatMap parts)))∈U):=HU.o.2.1;have hPl:P.length<=9000000000000:=a0e O4.o.os.2.2.2 HU.o.2.2.1;have HSJ:=aj hsj;have HE:=aj hE;clear hsj hls ajN hE;go_wp2_with fail
  refine(SE.o).mono ?_;rintro e w3 ⟨zY,R,r,E',B',rfl,hT',hP',af6,_,hr,hq,iN,uP⟩;have S3:Z_ (ST base w3 fb zY (D++R) ak c U Z):=⟨E',B',hT',hP',af6,CG,uP⟩;have I3:Z_ (IL w.heap.size w3 (.slice ap P.length cp') P):=kW O4.o.il hq.fr (λk hk=>by have:=(O4.o.il.lt k hk).1;simp;omega);have Q3:=aj (FQ.WQ O4.o.fr hq);have z3:=hq.fr.size;have HPD:Z_ (∀q∈P,q<(D++R).length):=λq hqq=>by have:=O4.o.os.1 q hqq;simp;omega
  have OS4:Z_ (ET D P (aY (ls.flatMap parts)) (ls.flatMap parts)):=by have:=O4.o.os;rw[HSJ.o]at this;exact this
  have n0:=S3.o.num hr S3.o.ng.1
  by_cases h0:s=0
  ·have hr0:r=0:=n0.2 (by simp[Fv,h0])
   subst hr0;have si:aY (ls.flatMap parts)=0:=by rw[<-HSJ.o];exact h0
   have SU:=aj (adg base w3 fb zY (D++R) ak c U Z (.slice ap P.length cp') P (bG (ls.flatMap parts)) S3.o (vM I3) (by omega) HPD.o HT.o (λp=>by rw[WV OS4.o.1];exact OS4.o.core si p) HWC.o HUO);clear hq hr iN hT' hP' af6 b0 b1 b2 b3 SE si n0;go_wp2_with fail
   refine(SU.o).mono ?_;rintro e w6 eZ;have R6:=aj (RQ.later Q3.o eZ);obtain⟨_,_,r6,rfl,_⟩:=eZ;go_wp2;go_ret;exact R6
  have hsn:Fv s=.set s:=by simp[Fv,h0]
  rw[hsn]at hr n0;have hr0:r≠0:=λe=>by have:=n0.1 e;simp at this
  have hbn:((r:Int) != 0)=true:=by rw[a1O];omega
  have si:aY (ls.flatMap parts)≠0:=by rw[<-HSJ.o];exact h0
  have hmv:=hq.mv;have hzo:=O4.o.fr.size;have hrr:r<(D++R).length:=(a0i.1 hr).1;have hrj:(D++R)[r]?=some (.set (aY (ls.flatMap parts))):=by rw[<-HSJ.o];exact hr
  have SU:Z_ (∀(w5:World) (gg aP:Nat) (o:Obj),IL w.heap.size w5 (.slice (some ⟨gg,0,none⟩) (P.length+1) aP) (P++[r])->(w3.alloc o).grownBy w5 (Value.ownBlock (.slice ap P.length cp'))->Calls Tryz.prog 132 #[.pointer (some ⟨fb,0,none⟩),.slice (some ⟨gg,0,none⟩) (P.length+1) aP] w5 (RQ base w fb vb D ak c U Z (mkS (fU (bG (ls.flatMap parts)))))):=by
   intro w5 gg aP o aQ aG;have hbk:∀k,k∈(Value.ownBlock (.slice ap P.length cp')).toList->w.heap.size<=k/\k<wo.heap.size:=λk hk=>by
    rw[a0H]at hk;exact O4.o.il.lt k hk
   have F5:aA (Value.ownBlock (.slice ap P.length cp')).toList (w3.alloc o) w5:=aA.dS aG;have T4:=hT'.aW ((aA.refl [] w3).alloc o);have T5:TE base w5 fb zY E' B' ak:=by
    refine T4.ajK F5 (λhm=>by have:=hbk _ hm;omega) (λhm=>by have:=hbk _ hm;omega) ?_;intro e he x n cc e1 hm;have hk:=hbk _ hm;rcases iN e he with h1|h1
    ·have:=(HE.o.pl e h1).blk e1;omega
    rw[h1.1]at e1;simp at e1
   have Q5:FQ fb vb zY w w5:=by
    refine⟨?_,Q3.o.mv⟩;exact(Q3.o.fr.alloc o).grown aG (λk hk=>.inr (O4.o.il.lt k hk).1)
   have hs:=adg base w5 fb zY (D++R) ak c U Z (.slice (some ⟨gg,0,none⟩) (P.length+1) aP) (P++[r]) (bG (ls.flatMap parts)) ⟨E',B',T5,hP',af6,CG,uP.mono (by have:=F5.size;simp at this;omega)⟩ (vM (by simpa[IL] using aQ)) (by rw[a0v];simp only[a0o,a1f];omega) (λj hj=>by
    rcases a0b.1 hj with e|e
    ·exact HPD.o j e
    simp at e;subst e;exact hrr) HT.o (OS4.o.coreS si hrj) HWC.o HUO
   exact hs.mono λe w6 eZ=>RQ.later Q5 eZ
  clear hq hr iN hT' hP' af6 b0 b1 b2 b3 SE si n0 hsn;go_wp2_with (first | (at_builtin;refine sO _ rfl _ _ rfl w.heap.size (.slice ap P.length cp') P r w3.heap.size rfl (I3.o.alloc _) rfl (jo _ _ _ _ rfl) (by omega) (by simp;omega) ?_;intro gg aP w5 aQ aG aX iD;have C5:=aj (SU.o w5 gg aP _ aQ aG);clear aQ aG aX)|(go_at_call 132;refine(C5.o).mono ?_;rintro e w6 eZ;have R6:=aj eZ;obtain⟨_,_,r6,rfl,_⟩:=eZ))
  go_ret;exact R6
theorem ST.more {base:Nat}{wo:World}{c:Nat}(h:ST base w fb vb D ak c U Z)(f:aA [] w wo)(hk:∀k∈Z2,w.heap.size<=k/\k<wo.heap.size):ST base wo fb vb D ak c U (Z2++Z):=by
 obtain⟨E,B,h1,h2,h3,h4,h5⟩:=h;refine⟨E,B,h1.aW f,h2,h3,h4,?_,?_⟩
 ·intro k hm
  rcases a0b.1 hm with e|e
  ·exact(hk k e).2
  exact a0x (h5.1 k e) f.size
 intro e he x n cc ex hm;rcases a0b.1 hm with e1|e1
 ·have:=(h1.pl e he).blk ex;have:=(hk _ e1).1;omega
 exact h5.2 e he x n cc ex e1
theorem ST.less {base:Nat}{c:Nat}(h:ST base w fb vb D ak c U (Z2++Z)):ST base w fb vb D ak c U Z:=by
 obtain⟨E,B,h1,h2,h3,h4,h5⟩:=h;exact⟨E,B,h1,h2,h3,h4,λk hk=>h5.1 k (by simp[hk]),λe he x n cc ex hm=>h5.2 e he x n cc ex (by simp[hm])⟩
theorem ST.apf {base:Nat}{c:Nat}(h:ST base w fb vb D ak c U Z)(f:aA S w w')(h1:fb∉S)(h2:vb∉S)(hS:∀k∈S,k∈Z):ST base w' fb vb D ak c U Z:=by
 obtain⟨E,B,k1,k2,k3,k4,k5⟩:=h;exact⟨E,B,k1.ajK f h1 h2 (λe he x n cc ex hm=>k5.2 e he x n cc ex (hS _ hm)),k2,k3,k4,k5.mono f.size⟩
theorem ST.ae5 {base:Nat}{c:Nat} {o:Obj}(h:ST base w fb vb D ak c U (v.ownBlock.toList++Z))(hg:(w.alloc o).grownBy w5 v.ownBlock)(aX:v.ownBlock=some g\/g=(w.alloc o).heap.size)(iD:g<w5.heap.size)(h1:fb∉v.ownBlock.toList)(h2:vb∉v.ownBlock.toList):ST base w5 fb vb D ak c U ([g]++Z):=by
 have hk:=(h.aW ((aA.refl [] w).alloc o)).apf (aA.dS hg) h1 h2 (λk hk=>by simp[hk]);obtain⟨E,B,k1,k2,k3,k4,k5⟩:=h;have hz:ZZ w E Z:=⟨λk hk=>k5.1 k (by simp[hk]),λe he x n cc ex hm=>k5.2 e he x n cc ex (by simp[hm])⟩;have hs:w.heap.size<=w5.heap.size:=by have:=hg.size;simp at this;omega
 refine⟨E,B,(k1.aW ((aA.refl [] w).alloc o)).ajK (aA.dS hg) h1 h2 (λe he x n cc ex hm=>k5.2 e he x n cc ex (by simp[hm])),k2,k3,k4,?_,?_⟩
 ·intro k hm
  rcases a0b.1 hm with e|e
  ·simp at e;omega
  exact a0x (hz.1 k e) hs
 intro e he x n cc ex hm;rcases a0b.1 hm with e1|e1
 ·simp at e1
  have hb:=(k1.pl e he).blk ex;rcases aX with e2|e2
  ·exact k5.2 e he x n cc ex (a0b.2 (.inl (by rw[a0H,e2,e1])))
  simp at e2;omega
 exact hz.2 e he x n cc ex e1
def RZ(base:Nat)(w:World)(fb vb:Nat)(D:List NF)(ak c:Nat)(U:List NF)(Z:LN)(y:NF)(r:Nat)(w':World):Prop :=
 ∃jg R,ST base w' fb jg (D++R) ak c U Z/\(D++R)[r]?=some y/\FQ fb vb jg w w'
theorem RZ.here {base:Nat}{c:Nat}(h:ST base w fb vb D ak c U Z)(f:aA [] w w')(hr:D[r]?=some y):RZ base w fb vb D ak c U Z y r w' :=
 ⟨vb,[],by simpa using h.aW f,by simpa using hr,FQ.keepR (FQ.refl _ _ _) f⟩
theorem RQ.rz {base:Nat}{c:Nat}(h:RQ base w fb vb D ak c U Z y e w'):∃r:Nat,e=.returned (.int .i64 (r:Nat))/\RZ base w fb vb D ak c U Z y r w':=by
 obtain⟨jg,R,r,h1,h2,h3,h4⟩:=h;exact⟨r,h1,jg,R,h2,h3,h4⟩
theorem RZ.rq {base:Nat}{c:Nat}(h:RZ base w fb vb D ak c U Z y r w'):RQ base w fb vb D ak c U Z y (.returned (.int .i64 (r:Nat))) w':=by
 obtain⟨jg,R,h2,h3,h4⟩:=h;exact⟨jg,R,r,rfl,h2,h3,h4⟩
theorem RZ.aW {base:Nat}{c:Nat}(h:RZ base w fb vb D ak c U Z y r w1)(f:aA [] w1 w2):RZ base w fb vb D ak c U Z y r w2:=by
 obtain⟨jg,R,h2,h3,h4⟩:=h;exact⟨jg,R,h2.aW f,h3,FQ.keepR h4 f⟩
theorem RZ.call {base:Nat}{c:Nat}{y':NF} {fn:Nat} {args:Array Value}(h:RZ base w fb vb D ak c U Z y r w1)
 (hc:∀(jg:Nat) (D':List NF),ST base w1 fb jg D' ak c U Z->D'[r]?=some y->(∀(i:Nat) (d:NF),D[i]?=some d->D'[i]?=some d)->Calls Tryz.prog fn args w1 (RQ base w1 fb jg D' ak c U Z y')):Calls Tryz.prog fn args w1 (RQ base w fb vb D ak c U Z y'):=by
 obtain⟨jg,R,h2,h3,h4⟩:=h;exact(hc jg (D++R) h2 h3 (λi d hd=>pK hd)).mono λe w' hr=>RQ.later h4 hr
theorem Jy(base:Nat)(w:World)(fb vb:Nat)(D:List NF)(ak c:Nat)(U:List NF)(Z:LN)(a:NF)(i lo:Nat)(hi:Option Nat)(h:ST base w fb vb D ak c U Z)(ha:D[i]?=some a)(hR:aeT U a lo hi)(l7:lo<=9)(zV:∀n,hi=some n->lo<=n/\n<=9) :
 Calls Tryz.prog 110 #[.pointer (some ⟨fb,0,none⟩),.int .i64 i,.int .i64 lo,.int .i64 (SN hi)] w (RQ base w fb vb D ak c U Z (jM a lo hi)):=by
 have HA:=aj ha;have HS:=aj h;have HR:=aj hR;have HD1:=aj h.ng.2.1;rw[aeS];have TH:Z_ (∀(w1:World) (k r:Nat) (t:NF),RZ base w fb vb D ak c U Z t r w1->(∀f∈sD a t,f∈U)->Calls Tryz.prog 121 #[.pointer (some ⟨fb,0,none⟩),.int .i64 i,.int .i64 r] w1 (RQ base w fb vb D ak c U Z (aH a t))):=by
  intro w1 k r t h1 hcr;exact h1.call λjg D' dM hr hD=>IX a base w1 fb jg D' ak c U Z t i r dM (hD _ _ HA) hr hcr
 clear h ha hR;cases hi with
 | none =>
   have SA:=aj (ahx base w fb vb D ak c U Z a i HS.o HA.o (HR.o.1 rfl));have e1:SN none=-1:=rfl;rw[e1];clear e1;go_enter Tryz.func110,Tryz.ntmps110
   go_wp2_with fail
   refine(SA.o).mono ?_;rintro e w1 eZ;obtain⟨r1,rfl,fT⟩:=eZ.rz;have R1:Z_ (RZ base w fb vb D ak c U Z (eQ a 0 (wU a lo none)) r1 w1):=fT;clear eZ fT SA;go_wp2_with fail
   go_loopg [9,10] 0 (λk v9 v10 wr=>v9=.int .i64 r1/\v10=.int .i64 lo/\wr=w1)
   case atStart=>exact⟨rfl,rfl,rfl⟩
   case round =>
    obtain⟨rfl,rfl,hw⟩:=hrel;subst hw;have rU:¬ ((lo:Int) < -1):=by omega
    go_wp2_with fail
    go_loopg [9,12] lo (λk v9 v12 wr=>∃(j r:Nat),j+k=lo/\v12=.int .i64 j/\v9=.int .i64 r/\RZ base w fb vb D ak c U Z (eQ a j (wU a lo none)) r wr)
    case atStart=>exact⟨0,r1,by omega,rfl,rfl,R1⟩
    case round =>
     clear R1;obtain⟨j,r,hj,rfl,rfl,hz⟩:=hrel;have RR:=aj hz;clear hz
     by_cases aO:j<lo
     ·have C:=aj (TH.o wr 0 r _ RR.o (HR.o.2.2 j aO))
      have HP:Z_ (eQ a (j+1) (wU a lo none)=aH a (eQ a j (wU a lo none))):=We _ _ _;clear RR;go_wp2_with fail
      refine(C.o).mono ?_;rintro e w2 eZ;obtain⟨r2,rfl,gF⟩:=eZ.rz;have R2:=aj gF;clear eZ gF C;go_wp2;go_roundg (gk-1)
      case measure=>omega
      case rel=>exact⟨j+1,r2,by omega,by go_num,rfl,by rw[HP.o];exact R2⟩
     have ou:j=lo:=by omega
     subst ou;go_wp2;go_ret;exact RR.o.rq
 | some n =>
   obtain⟨Js,hn9⟩:=zV n rfl;have e1:SN (some n)=(n:Int):=rfl;rw[e1];clear e1;have bL:((n:Int) == -1)=false:=by rw[a0k];omega
   go_enter Tryz.func110,Tryz.ntmps110
   go_wp2_with fail
   go_loopg [9,10] (n-lo) (λk v9 v10 wr=>∃(j r:Nat),j+k=n-lo/\v10=.int .i64 (lo+j:Nat)/\v9=.int .i64 r/\RZ base w fb vb D ak c U Z (dD a j .one) r wr)
   case atStart=>exact⟨0,1,by omega,by simp,rfl,RZ.here HS.o (aA.refl _ _) HD1⟩
   case round =>
    obtain⟨j,r,hj,rfl,rfl,hz⟩:=hrel;have RR:=aj hz;clear hz
    by_cases aO:j<n-lo
    ·have jT:=HR.o.2.1 n rfl j aO
     have C:=aj (TH.o wr 0 r _ RR.o jT.1);have HP:Z_ (dD a (j+1) .one=dZ (aH a (dD a j .one)) .one):=aeR _ _ _;have OK:=aj jT.2;have Ji:((lo+j:Nat):Int)<n:=by omega
     clear RR jT;go_wp2_with fail
     refine(C.o).mono ?_;rintro e w2 eZ;obtain⟨r2,rfl,gF⟩:=eZ.rz;have R2:=aj gF;have OC:Z_ (∀o,o=Obj.cells #[.int .i64 r2,.int .i64 1] 3->Calls Tryz.prog 119 #[.pointer (some ⟨fb,0,none⟩),.slice (some ⟨w2.heap.size,0,none⟩) 2 2] (w2.alloc o) (RQ base w fb vb D ak c U Z (dZ (aH a (dD a j .one)) .one))):=by
      rintro o rfl;have uP:=R2.o.aW ((aA.refl [] w2).alloc (Obj.cells #[.int .i64 r2,.int .i64 1] 3));refine uP.call λjg D' dM hr hD=>?_
      have jf:IL w2.heap.size (w2.alloc (Obj.cells #[.int .i64 r2,.int .i64 1] 3)) (.slice (some ⟨w2.heap.size,0,none⟩) 2 2) [r2,1]:=World.ownsRow_lit _ #[.int .i64 r2,.int .i64 1] 2 (a0a _) (by unfold maxLen;omega) (by simp);refine abf base _ fb jg D' ak c U Z (.slice (some ⟨w2.heap.size,0,none⟩) 2 2) [r2,1] [aH a (dD a j .one),.one] dM (vM jf) ?_ ?_ OK
      ·intro q hq
       simp at hq;rcases hq with rfl|rfl
       ·exact(a0i.1 hr).1
       exact(a0i.1 dM.ng.2.1).1
      simp only[a0A,a1T,zH hr,zH dM.ng.2.1]
     clear eZ gF C;go_wp2_with fail
     refine(OC.o _ rfl).mono ?_;rintro e w3 eZ;obtain⟨r3,rfl,uP⟩:=eZ.rz;have R3:=aj uP;clear eZ uP OC R2;go_wp2;go_roundg (gk-1)
     case measure=>omega
     case rel=>exact⟨j+1,r3,by omega,by go_num,rfl,by rw[HP.o];exact R3⟩
    have ou:j=n-lo:=by omega
    have R1:Z_ (RZ base w fb vb D ak c U Z (eQ a 0 (wU a lo (some n))) r wr):=by have:=RR.o;rw[ou]at this;exact this
    have Ji:¬ ((lo+j:Nat):Int)<n:=by omega
    clear RR ou;go_wp2_with fail
    go_loopg [9,12] lo (λk v9 v12 wr=>∃(j r:Nat),j+k=lo/\v12=.int .i64 j/\v9=.int .i64 r/\RZ base w fb vb D ak c U Z (eQ a j (wU a lo (some n))) r wr)
    case atStart=>exact⟨0,r,by omega,rfl,rfl,R1⟩
    case round =>
     clear R1;obtain⟨j,r,hj,rfl,rfl,hz⟩:=hrel;have RR:=aj hz;clear hz
     by_cases aO:j<lo
     ·have C:=aj (TH.o wr 0 r _ RR.o (HR.o.2.2 j aO))
      have HP:Z_ (eQ a (j+1) (wU a lo (some n))=aH a (eQ a j (wU a lo (some n)))):=We _ _ _;clear RR;go_wp2_with fail
      refine(C.o).mono ?_;rintro e w2 eZ;obtain⟨r2,rfl,gF⟩:=eZ.rz;have R2:=aj gF;clear eZ gF C;go_wp2;go_roundg (gk-1)
      case measure=>omega
      case rel=>exact⟨j+1,r2,by omega,by go_num,rfl,by rw[HP.o];exact R2⟩
     have ou:j=lo:=by omega
     subst ou;go_wp2;go_ret;exact RR.o.rq
theorem ST.ae6 {A:Nat->Prop} {base:Nat}{c:Nat}(h:ST base w fb vb D ak c U Z)(q:FQ fb vb jg w w'):mY A w w':=by
 obtain⟨E,B,h1,_⟩:=h;obtain⟨cap,ht,_⟩:=h1.row;obtain⟨_,_,cur,hv⟩:=h1.Yv;intro k _ ⟨cu,fz,hk⟩;have aO:k<w.heap.size:=by rcases hk with e|e<;>exact(a0d.1 e).1
 refine q.block aO ?_ ?_
 ·rintro rfl;rw[ht.1]at hk;rcases hk with e|e<;>simp at e
 rintro rfl;rw[hv]at hk;rcases hk with e|e<;>simp at e
def WY(x:RX):Prop:=∀(A:Nat->Prop) (base:Nat) (w:World) (fb vb:Nat) (D:List NF) (ak c:Nat) (U:List NF) (Z:LN) (p:Nat),ST base w fb vb D ak c U Z->XR A w p x->Wi U x->rM x->vV x ->
 Calls Tryz.prog 100 #[.pointer (some ⟨fb,0,none⟩),.pointer (some ⟨p,0,none⟩)] w (RQ base w fb vb D ak c U Z (bn x))
theorem Jz(A:Nat->Prop)(base:Nat)(w:World)(fb vb:Nat)(D:List NF)(ak c:Nat)(U:List NF)(Z:LN)(v:Value)(ps:LN)(l:List RX)(h:ST base w fb vb D ak c U Z)(hv:XV A w v ps)(hr:kQ A w ps l)(hN:xq U l)(hS:Li U l)(hd:lz l)(ho:kv l)(ih:∀y∈l,WY y) :
 Calls Tryz.prog 111 #[.pointer (some ⟨fb,0,none⟩),v] w (RQ base w fb vb D ak c U Z (sF l)):=by
 obtain⟨a,cap,rfl⟩:=aT hv.1;have hlen:=hr.len;have HV:=aj hv;have HR:=aj hr;have HN:=aj hN;have HSO:=aj hS;have HD:=aj hd;have HO:=aj ho;have HI:=aj ih;have HS:=aj h;have HD1:=aj h.ng.2.1;have rW:=hv.2.2;have Av:=aj hlen;clear hv hr hN hS hd ho ih h hlen;go_enter Tryz.func111,Tryz.ntmps111
 go_wp2_with fail
 go_loopg [5,6] ps.length (λk v5 v6 wr=>∃r:Nat,k<=ps.length/\v6=.int .i64 ((k:Int)-1)/\v5=.int .i64 r/\RZ base w fb vb D ak c U Z (sF (l.drop k)) r wr)
 case atStart=>exact⟨1,by omega,by go_num,rfl,RZ.here HS.o (aA.refl _ _) (by rw[Av.o,a3i];exact HD1)⟩
 case round =>
  obtain⟨r,hk,rfl,rfl,hz⟩:=hrel;have RR:=aj hz;clear hz;cases gk with
  | zero =>
    have R0:Z_ (RZ base w fb vb D ak c U Z (sF l) r wr):=RR.o;clear RR;go_wp2;go_ret;exact R0.o.rq
  | succ m =>
    have Bp:m<l.length:=by have:=Av.o;omega
    obtain⟨g,rfl⟩:∃g,a=some ⟨g,0,none⟩:=by
     rcases HV.o.1.2 with⟨e,h⟩|⟨g,c,cur,e,_⟩
     ·simp at e;omega
     simp at e;exact⟨g,e.1⟩
    obtain⟨zY,R,dM,hrr,hq⟩:=RR.o;have KX:mY A w wr:=HS.o.ae6 hq;obtain⟨p,hp,hx⟩:=(HR.o.aW KX).get m Bp;have hc:=(HV.o.aW KX).cell hp;have hm:=a0z Bp;have C:=aj (HI.o _ hm A base wr fb zY (D++R) ak c U Z p dM hx (Gi.1 HN.o _ hm) (IW HD.o hm) (IM HO.o hm));have HT:Z_ (sF (l.drop m)=aH (bn l[m]) (sF (l.drop (m+1)))):=by show _=_;rw[a0q Bp];rfl
    have CR:=aj (HSO.o.get m Bp);have HRR:=aj hrr;have HQ:=aj hq;have UN:((m+1:Nat):Int)-1=m:=by omega
    rw[UN];clear UN KX hx hm hp dM hrr hq RR;generalize bn l[m]=y at *;generalize sF (l.drop (m+1))=t at *;have hmp:(m:Int)<ps.length:=by omega
    go_wp2_with fail
    refine(C.o).mono ?_;rintro e w2 ⟨yf,R2,r2,rfl,zI,pX,nC⟩;have T:=aj (IX y base w2 fb yf (D++R++R2) ak c U Z t r2 r zI pX (pK HRR) CR);have Q2:=aj (HQ.o.trans nC);clear zI pX nC C hc;go_wp2_with fail
    refine(T.o).mono ?_;rintro e w3 eZ;have amu:RQ base w fb vb D ak c U Z (aH y t) e w3:=RQ.later (R:=R++R2) Q2.o (by simpa using eZ);obtain⟨r3,rfl,uP⟩:=amu.rz;have R3:=aj uP;clear eZ amu uP T;go_wp2;go_roundg m
    case measure=>omega
    case rel=>exact⟨r3,by omega,by go_num,rfl,by rw[HT.o];exact R3⟩
theorem ST.PM{base:Nat}{c:Nat}(h:ST base w fb vb D ak c U Z)(hi:IL b2 w v I):fb∉v.ownBlock.toList/\vb∉v.ownBlock.toList:=by
 obtain⟨E,B,h1,_⟩:=h;obtain⟨cap,ht,_⟩:=h1.row;obtain⟨_,_,cur,hv⟩:=h1.Yv;have key:∀k,v.ownBlock=some k->∃cur,w.heap[k]?=some (.cells cur 3 (0,0)):=by
  intro k hk;rcases hi.2 with⟨e,_⟩|⟨g,cp,cur,e,_,hg,_⟩
  ·rw[e]at hk;simp[Value.ownBlock]at hk
  rw[e]at hk;simp[Value.ownBlock]at hk;subst hk;exact⟨cur,hg⟩
 constructor
 ·intro hm
  rw[a0H]at hm;obtain⟨cu,hc⟩:=key _ hm;rw[ht.1]at hc;simp at hc
 intro hm;rw[a0H]at hm;obtain⟨cu,hc⟩:=key _ hm;rw[hv]at hc;simp at hc
structure GQ(base:Nat)(w wr:World)(fb vb:Nat)(D:List NF)(ak c:Nat)(U:List NF)(Z:LN)(v5:Value)(I:LN)(X:List NF)(jg:Nat)(R:List NF):Prop where
 il:IL w.heap.size wr v5 I
 st:ST base wr fb jg (D++R) ak c U (v5.ownBlock.toList++Z)
 lt:∀q∈I,q<(D++R).length
 mp:X=I.map λj=>(D++R).getD j .zero
 fq:FQ fb vb jg w wr
theorem GQ.start {base:Nat}{c:Nat}(h:ST base w fb vb D ak c U Z):GQ base w (w.alloc (Obj.cells #[] 3)) fb vb D ak c U Z (.slice (some ⟨w.heap.size,0,none⟩) 0 0) [] [] vb []:=by
 have F:=(aA.refl [] w).alloc (Obj.cells #[] 3);refine⟨World.ownsRow_lit _ #[] 0 (a0a _) (by unfold maxLen;omega) (by simp),?_,by simp,by simp,FQ.keepR (FQ.refl _ _ _) F⟩;rw[a0Q];exact h.more F (λk hk=>by simp[Value.ownBlock]at hk;subst hk;simp)
theorem GQ.turn {base:Nat}{wr:World}{yf:Nat}{c:Nat}{R2:List NF}(h:GQ base w wr fb vb D ak c U Z v5 I X jg R)(dM:ST base w2 fb yf (D++R++R2) ak c U (v5.ownBlock.toList++Z))(hq:FQ fb jg yf wr w2):GQ base w w2 fb vb D ak c U Z v5 I X yf (R++R2):=by
 have bL:=h.st.PM h.il;refine⟨kW h.il hq.fr (λk hk=>?_),by rw[<-a0K];exact dM,?_,?_,h.fq.trans hq⟩
 ·simp only[a0l,a1Y,or_false,not_or]
  exact⟨λe=>bL.1 (by rw[a0H,<-e];exact hk),λe=>bL.2 (by rw[a0H,<-e];exact hk)⟩
 ·intro q hqq;have:=h.lt q hqq;simp at this |-;omega
 rw[<-a0K,WV h.lt];exact h.mp
theorem GQ.add {base:Nat}{wr:World}{c:Nat} {o:Obj}(h:GQ base w wr fb vb D ak c U Z v5 I X jg R)(hq:(D++R)[q]?=some y)
 (jf:IL w.heap.size w5 (.slice (some ⟨g,0,none⟩) (I.length+1) cap) (I++[q])) (hg:(wr.alloc o).grownBy w5 v5.ownBlock) (aX:v5.ownBlock=some g\/g=(wr.alloc o).heap.size) (iD:g<w5.heap.size):GQ base w w5 fb vb D ak c U Z (.slice (some ⟨g,0,none⟩) (I.length+1) cap) (I++[q]) (X++[y]) jg R:=by
 have bL:=h.st.PM h.il;refine⟨jf,h.st.ae5 hg aX iD bL.1 bL.2,?_,?_,⟨(h.fq.fr.alloc o).grown hg (λk hk=>.inr (h.il.lt k hk).1),h.fq.mv⟩⟩
 ·intro j hj
  rcases a0b.1 hj with e|e
  ·exact h.lt j e
  simp at e;subst e;exact(a0i.1 hq).1
 rw[a0T,<-h.mp];simp only[a0A,a1T,zH hq]
theorem GQ.or {base:Nat}{wr:World}{c:Nat}(h:GQ base w wr fb vb D ak c U Z v5 I X jg R)(hU:Cb U X) :
 Calls Tryz.prog 119 #[.pointer (some ⟨fb,0,none⟩),v5] wr (RQ base w fb vb D ak c U Z (bI X)) :=
 (abf base wr fb jg (D++R) ak c U Z v5 I X h.st.less (vM h.il) h.lt h.mp hU).mono λe w' hr=>RQ.later h.fq hr
theorem Nw(A:Nat->Prop)(base:Nat)(w:World)(fb vb:Nat)(D:List NF)(ak c:Nat)(U:List NF)(Z:LN)(v:Value)(ps:LN)(l:List RX)(h:ST base w fb vb D ak c U Z)(hv:XV A w v ps)(hr:kQ A w ps l)(hN:xq U l)(hS:Cb U (ji l))(hd:lz l)(ho:kv l)(ih:∀y∈l,WY y) :
 Calls Tryz.prog 109 #[.pointer (some ⟨fb,0,none⟩),v] w (RQ base w fb vb D ak c U Z (bI (ji l))):=by
 obtain⟨a,cap,rfl⟩:=aT hv.1;have hlen:=hr.len;have HV:=aj hv;have HR:=aj hr;have HN:=aj hN;have HSO:=aj hS;have HD:=aj hd;have HO:=aj ho;have HI:=aj ih;have HS:=aj h;have rW:=hv.2.2;have Av:=aj hlen;clear hv hr hN hS hd ho ih h hlen;go_enter Tryz.func109,Tryz.ntmps109
 go_wp2_with fail
 go_loopg [5,12] ps.length (λk v5 v12 wr=>∃(j:Nat) (I:LN) (jg:Nat) (R:List NF),j+k=ps.length/\v12=.int .i64 j/\I.length<=j/\GQ base w wr fb vb D ak c U Z v5 I ((ji l).take j) jg R)
 case atStart=>exact⟨0,[],vb,[],by omega,rfl,by simp,GQ.start HS⟩
 case round =>
  obtain⟨j,I,zY,R,hj,rfl,hIl,hg⟩:=hrel;obtain⟨a5,c5,rfl⟩:=aT hg.il;have G:=aj hg;have zr:=hg.fq.fr.size;clear hg
  by_cases aO:j<ps.length
  ·have Bp:j<l.length:=by have:=Av.o;omega
   obtain⟨g,rfl⟩:∃g,a=some ⟨g,0,none⟩:=by
    rcases HV.o.1.2 with⟨e,h⟩|⟨g,c,cur,e,_⟩
    ·simp at e;omega
    simp at e;exact⟨g,e.1⟩
   have KX:mY A w wr:=HS.o.ae6 G.o.fq;obtain⟨p,hp,hx⟩:=(HR.o.aW KX).get j Bp;have hc:=(HV.o.aW KX).cell hp;have hm:=a0z Bp;have C:=aj (HI.o _ hm A base wr fb zY (D++R) ak c U ((Value.ownBlock (.slice a5 I.length c5)).toList++Z) p G.o.st hx (Gi.1 HN.o _ hm) (IW HD.o hm) (IM HO.o hm));have HT:Z_ ((ji l).take (j+1)=(ji l).take j++[bn l[j]]):=by show _=_;rw[q9,a1n];simp[Bp]
   clear KX hx hm hp;generalize bn l[j]=y at *;go_wp2_with fail
   refine(C.o).mono ?_;rintro e w2 ⟨yf,R2,r2,rfl,zI,pX,nC⟩;have G2:=aj (G.o.turn zI nC);have z2:=nC.fr.size;have nO:Z_ ((D++(R++R2))[r2]?=some y):=by show _=_;rw[<-a0K];exact pX
   clear zI pX nC C hc G;go_wp2_with (first | (at_builtin;refine sO _ rfl _ _ rfl w.heap.size (.slice a5 I.length c5) I r2 w2.heap.size rfl (G2.o.il.alloc _) rfl (jo _ _ _ _ rfl) (by omega) (by simp;omega) ?_;intro gg aP w5 aQ aG aX iD;have G5:=aj (G2.o.add nO.o aQ aG aX iD);clear aQ aG aX))
   go_roundg (gk-1)
   case measure=>omega
   case rel=>exact⟨j+1,I++[r2],yf,R++R2,by omega,by go_num,by simp only[a0v,a0o,a1f];omega,by rw[HT.o];simpa using G5.o⟩
  have G2:Z_ (GQ base w wr fb vb D ak c U Z (.slice a5 I.length c5) I (ji l) zY R):=by
   have:=G.o;rw[a0D (by rw[q9,a0B];have:=Av.o;omega)]at this;exact this
  have C:=aj (G2.o.or HSO);clear G G2;go_wp2_with fail
  refine(C.o).mono ?_;rintro e w3 eZ;have R3:=aj eZ;obtain⟨_,_,r3,rfl,_⟩:=eZ;go_wp2;go_ret;exact R3
theorem XB.get{eb:Nat}(h:XB w eb s):w.cell? ⟨eb,0,none⟩=some (.int .i64 0)/\w.cell? ⟨eb,1,none⟩=some (.int .u64 (wd s 0))/\w.cell? ⟨eb,2,none⟩=some (.int .u64 (wd s 1))/\w.cell? ⟨eb,3,none⟩=some (.int .u64 (wd s 2))/\w.cell? ⟨eb,4,none⟩=some (.int .u64 (wd s 3)):=by
 unfold XB at h;simp only[World.cell?,h];exact⟨rfl,rfl,rfl,rfl,rfl⟩
theorem adi(s:Nat):WY (.one s):=by
 intro A base w fb vb D ak c U Z p h hx hn hd ho;simp only[XR]at hx;obtain⟨c0,c1,c2,c3,c4⟩:=hx.2.get;have SA:=aj (ajI base w fb vb D ak c U Z s h ho hn);simp only[bv]at SA;have e:bn (.one s)=Fv s:=rfl;rw[e];clear hx h hn;go_enter Tryz.func100,Tryz.ntmps100
 go_wp2_with fail
 refine(SA.o).mono ?_;rintro e w3 eZ;have R3:=aj eZ;obtain⟨_,_,r3,rfl,_⟩:=eZ;go_wp2;go_ret;exact R3
theorem adj(l:List RX)(ih:∀y∈l,WY y):WY (.alt l):=by
 intro A base w fb vb D ak c U Z p h hx hn hd ho;simp only[XR]at hx;obtain⟨_,v,ps,h1,h2,h3⟩:=hx;have c0:=h1.c0;have c5:=h1.c5;have CA:=aj (Nw A base w fb vb D ak c U Z v ps l h h2 h3 hn.1 hn.2 hd ho.1 ih);have e:bn (.alt l)=bI (ji l):=rfl;rw[e];obtain⟨a,cap,rfl⟩:=aT h2.1;clear h1 h2 h3 h hn;go_enter Tryz.func100,Tryz.ntmps100
 go_wp2_with fail
 refine(CA.o).mono ?_;rintro e w3 eZ;have R3:=aj eZ;obtain⟨_,_,r3,rfl,_⟩:=eZ;go_wp2;go_ret;exact R3
theorem adk(l:List RX)(ih:∀y∈l,WY y):WY (.seq l):=by
 intro A base w fb vb D ak c U Z p h hx hn hd ho;simp only[XR]at hx;obtain⟨_,v,ps,h1,h2,h3⟩:=hx;have c0:=h1.c0;have c5:=h1.c5;have CA:=aj (Jz A base w fb vb D ak c U Z v ps l h h2 h3 hn.1 hn.2 hd ho ih);have e:bn (.seq l)=sF l:=rfl;rw[e];obtain⟨a,cap,rfl⟩:=aT h2.1;clear h1 h2 h3 h hn;go_enter Tryz.func100,Tryz.ntmps100
 go_wp2_with fail
 refine(CA.o).mono ?_;rintro e w3 eZ;have R3:=aj eZ;obtain⟨_,_,r3,rfl,_⟩:=eZ;go_wp2;go_ret;exact R3
theorem adl(x:RX)(lo:Nat)(hi:Option Nat)(ih:WY x):WY (.rep x lo hi):=by
 intro A base w fb vb D ak c U Z p h hx hn hd ho;simp only[XR]at hx;obtain⟨_,q,h1,h2⟩:=hx;have c0:=h1.c0;have c6:=h1.c6;have HS:=aj h;have C:=aj (ih A base w fb vb D ak c U Z q h h2 hn.1 hd.1 ho.1);have e:bn (.rep x lo hi)=jM (bn x) lo hi:=rfl;rw[e];have HN:=aj hn.2;have kY:=hd.2;have UR:=ho.2;have H1:=aj h1;have Fz:∃cu fz,w.heap[p]?=some (.cells cu 195 fz):=⟨_,_,h1⟩;clear h1 h2 h hn hd ho e;go_enter Tryz.func100,Tryz.ntmps100
 go_wp2_with fail
 refine(C.o).mono ?_;rintro e w3 eZ;obtain⟨jg,R,r,rfl,dM,hr,hq⟩:=eZ;have KX:mY (λ_=>True) w w3:=HS.o.ae6 hq;have X3:XW w3 p q lo (SN hi):=by
  obtain⟨cu,fz,hc⟩:=Fz;have:=KX p trivial ⟨cu,fz,.inl hc⟩;exact this.trans H1
 have c7:=X3.c7;have c8:=X3.c8;have N2:Z_ (Calls Tryz.prog 110 #[.pointer (some ⟨fb,0,none⟩),.int .i64 r,.int .i64 lo,.int .i64 (SN hi)] w3.drew (RQ base w fb vb D ak c U Z (jM (bn x) lo hi))) :=
  (Jy base w3.drew fb jg (D++R) ak c U Z (bn x) r lo hi (dM.aW ((aA.refl _ _).drew)) hr HN.o kY.1 (λn hn=>⟨UR n hn,kY.2 n hn⟩)).mono λe w' h=>RQ.later (FQ.keepR hq ((aA.refl _ _).drew)) h
 clear KX X3 dM hr hq C Fz;generalize SN hi=hz at *;go_wp2_with fail
 go_region_with (go_at_call 110;refine(N2.o).mono ?_;rintro e w4 eZ;have R4:=aj eZ;obtain⟨_,_,r4,rfl,_⟩:=eZ)
 all_goals
  go_wp2;go_ret;exact R4
mutual
theorem Gu:∀(x:RX),WY x
 | .one s=>adi s
 | .seq l=>adk l (Ef l)
 | .alt l=>adj l (Ef l)
 | .rep x lo hi=>adl x lo hi (Gu x)
theorem Ef:∀(l:List RX),∀y∈l,WY y
 | [],y,hy=>by simp at hy
 | x::r,y,hy=>by
   rcases a0l.1 hy with h|h
   ·rw[h];exact Gu x
   exact Ef r y h
end
end Go.Proofs.YtgbdcmpmmkfbhaaGreat
