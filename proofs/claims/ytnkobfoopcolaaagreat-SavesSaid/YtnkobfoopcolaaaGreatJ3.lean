import Derived.Test.YtnkobfoopcolaaaGreatJ2
import Derived.Test.YtnkobfoopcolaaaGreatJ1
import Derived.Deep.WholeRow
import Derived.Laws.Bits64
import Derived.Laws.Bits64b
import Derived.RegionTactic
import Derived.BigRegion
import Derived.Deep.DeepCutAuto
set_option linter.unusedVariables false
set_option linter.unusedSimpArgs false
set_option linter.unnecessarySimpa false
set_option linter.defProp false
set_option maxRecDepth 100000
set_option maxHeartbeats 4000000
namespace Go.Proofs.YtnkobfoopcolaaaGreat
open Go.RowKit
section
variable {i n:Nat} {α:Type} {w' x y:World} {e:RX} {F S:LN} {l t:LB} {w0 w1 w2 w3:Int} {tmps:Array Value} {v vs:Value} {xs:List Value}
def Bi(X:NF)(a:List LN)(v:LN):Nat:=a.findIdx λu=>name (dW X u)==name (dW X v)
def rQ(X:NF)(w:LN):LN->List LN->LN->Bool × List LN × LN
 | [],a,nx=>(true,a,nx)
 | c::F,a,nx=>if Bi X a (w++[c])=40 then (false,a,nx) else rQ X w F (if Bi X a (w++[c])=a.length then a++[w++[c]] else a) (nx++[Bi X a (w++[c])])
def yz(X:NF)(F:LN):Nat->Nat->List LN->LN->Bool × List LN × LN
 | 0,_,a,nx=>(true,a,nx)
 | k+1,i,a,nx=>match a[i]? with
   | none=>(true,a,nx)
   | some w=>match rQ X w F a nx with
     | (false,r)=>(false,r)
     | (true,b,c)=>yz X F k (i+1) b c
def oC(X:NF)(F:LN):Bool × List LN × LN:=yz X F 41 0 [[]] []
theorem alx(X a v):Bi X a v<=a.length:=a2U
def WB(a:List LN):Prop:=a.length<=40/\∀(j:Nat) (u:LN),a[j]?=some u->u.length<=j
theorem WB.one:WB [[]]:=by
 refine⟨by simp,λj u h=>?_⟩;cases j with
 | zero=>simp at h;subst h;simp
 | succ j=>simp at h
theorem WB.add {a w c}(h:WB a)(d:a[i]?=some w)(f:a.length≠40):WB (a++[w++[c]]):=by
 have:=h.1;have:=h.2 i w d;have:=(a0d.1 d).1;refine⟨by simp;omega,λj u b=>?_⟩;by_cases e:j<a.length
 .rw[a0s e]at b;exact h.2 j u b
 grind
def Vn(X w):∀F a nx,a <+: (rQ X w F a nx).2.1
 | [],a,nx=>a0N _
 | c::F,a,nx=>by
   unfold rQ;split
   .exact a0N _
   refine List.IsPrefix.trans ?_ (Vn X w F _ _);split
   .exact a1t _ _
   exact a0N _
theorem rR {a b}(h:a <+: b) {x:α}(c:a[i]?=some x):b[i]?=some x:=by obtain⟨t,rfl⟩:=h;rw[a0s (a0d.1 c).1];omega
theorem aaT(X w)(i:Nat):∀F a nx,WB a->a[i]?=some w->WB (rQ X w F a nx).2.1
 | [],a,nx,h,_=>h
 | c::F,a,nx,h,d=>by
   unfold rQ;split
   .omega
   rename_i b;refine aaT X w i F _ _ ?_ ?_
   .split
    .rename_i he;exact h.add d (by omega)
    omega
   grind
theorem ady(X F):∀k i a nx,a <+: (yz X F k i a nx).2.1
 | 0,i,a,nx=>a0N _
 | k+1,i,a,nx=>by
   unfold yz;split
   .exact a0N _
   rename_i w e;have h:=Vn X w F a nx;split
   .grind
   rename_i b d c;rw[c]at h;exact h.trans (ady X F k (i+1) b d)
theorem aho(X F):∀k i a nx,WB a->WB (yz X F k i a nx).2.1
 | 0,i,a,nx,h=>h
 | k+1,i,a,nx,h=>by
   unfold yz;split
   .omega
   rename_i w b;have c:=aaT X w i F a nx h b;split
   .grind
   simp_all[aho]
def aaU(X F):WB (oC X F).2.1:=aho X F 41 0 [[]] [] WB.one
def D7(e:RX)(F:LN):List NF:=[.zero,.one]++Td e++(oC (bn e) F).2.1.flatMap λw=>F.flatMap λc=>J7 (bn e) w c
def ahp{β:Type}(f:α->List β)(n)(l:List α)(h:∀a∈l,(f a).length<=n):(l.flatMap f).length<=l.length*n:=D4 f n l h
def am4(ho:tL e)(hd:uO e)(a:dI e<=40)(ht:jX e<=40)(k:Dn e<=200)(hF:F.length<=256):(D7 e F).length<=1000000000000:=by
 have:=Te ho hd a (by omega);have h:mh e<=40:=by rw[rZ a];omega
 have b:=aaU (bn e) F;have g:∀w∈(oC (bn e) F).2.1,(F.flatMap λc=>J7 (bn e) w c).length<=16256204800:=by intro w f;obtain⟨j,d⟩:=a1T f;have:=b.2 j w d;have:=(a0d.1 d).1;have:=ahp (λc=>J7 (bn e) w c) _ F (λc m=>a0h (ajm _ _ _ (by have:=b.1;omega)) (a0o _ (Px ho h ht)));omega
 have:=ahp (λw=>F.flatMap λc=>J7 (bn e) w c) _ _ g;have:(oC (bn e) F).2.1.length*16256204800<=40*16256204800:=a0z _ b.1;unfold D7;simp only[a0p,a0r,a1e];omega
def am5:∀f∈Td e,f∈D7 e F:=λf a=>by unfold D7;simp[a]
def am6:NF.zero∈D7 e F/\NF.one∈D7 e F:=by unfold D7;simp
def aj5(ho:tL e)(d:dI e<=40)(ht:jX e<=40) {w}(b:w∈(oC (bn e) F).2.1) {c}(l:c∈F):Fg c (D7 e F) (dW (bn e) w):=by
 have n:mh e<=40:=by rw[rZ d];omega
 have h:=aaU (bn e) F;obtain⟨j,g⟩:=a1T b;have:=h.2 j w g;have:=(a0d.1 g).1;have a:=rF ho;have i:(bn e).size<=3280:=by
  by_cases m:mh e=0
  .rw[a.2.1 m];simp[NF.size]
  have:=(a.2.2 (by omega)).sz;have:2*mh e*(jX e+1)<=2*40*41:=a0D (by omega) (by omega);omega
 refine amz a.1 i (Px ho n ht) (by have:=h.1;omega) (λf k=>?_) _ (Mt (fT _) (List.suffix_refl w));unfold D7;refine a0e.2 (.inr (a1l.2 ⟨w,b,a1l.2 ⟨c,l,agl k⟩⟩))
theorem apL(X a v):(oI (a.map λu=>name (dW X u)) (name (dW X v))<0/\Bi X a v=a.length)\/(0<=oI (a.map λu=>name (dW X u)) (name (dW X v))/\Bi X a v<a.length):=by grind [oI,Bi,name,dW,left]
def auP {X}(h:WC X):∀u:LN,WC (dW X u)
 | u=>by
   have key:∀(u:LN) (y:NF),WC y->WC (dW y u):=by
    intro u;induction u with
    | nil=>intro y b;exact b
    | cons a r c=>intro y b;exact c _ (b.left a)
   exact key u X h
def am7(h:fF t=some e)(ht:t.length<=40)(a:dI e<=40)(u)(g:u.length<=39)(c) :
 WC (dW (bn e) u)/\xP c (dW (bn e) u)/\nl (left c (dW (bn e) u))<9223372036854775807:=by
 have d:=mQ h;have b:=uC d.1;have f:=Px d.1 (by rw[rZ a];omega) (by omega);refine⟨auP b u,amW b f (u:=u) (by omega) c _ (.inr (.inr (Mt (fT _) (List.suffix_refl u)))),?_⟩;rw[<-tK];exact ahj h ht a (u++[c]) (by simp;omega)
def wd(s i:Nat):Nat:=s / 2 ^ (64*i) % 2 ^ 64
theorem jv(s i):wd s i<18446744073709551616:=a3i _ (by decide)
theorem zk(s q r)(a:r<64):(wd s q).testBit r=s.testBit (64*q+r):=by unfold wd;rw[Nat.testBit_mod_two_pow,Nat.testBit_div_two_pow];simp[a,a2w]
def bv(s:Nat):Value:=.agg #[.int .u64 (wd s 0),.int .u64 (wd s 1),.int .u64 (wd s 2),.int .u64 (wd s 3)]
theorem zZ(w r:Nat)(a:w<18446744073709551616):(Go.bits BinOp.and IntKind.u64 ((w:Int) / 2 ^ r) 1==1)=w.testBit r:=by
 have c:((w:Int) / 2 ^ r)=((w / 2 ^ r:Nat):Int):=by simp
 have b:w / 2 ^ r<18446744073709551616:=a2i (Nat.div_le_self _ _) a;rw[c,show(1:Int)=((1:Nat):Int) from rfl,bits_and_u64_nat _ _ b (by decide),Nat.testBit_eq_decide_div_mod_eq,Nat.and_one_is_mod];rw[a0T];simp;omega
def ahq(w0 w1 w2 w3:Nat)(q r w)(hq:q<4)(g:r<64)(f:w0<18446744073709551616)(d:w1<18446744073709551616)(b:w2<18446744073709551616)(a:w3<18446744073709551616) :
 zF 161 #[.agg #[.int .u64 w0,.int .u64 w1,.int .u64 w2,.int .u64 w3],.int .u8 (64*q+r:Nat)] w λe w'=>e=zR (.bool ((if q=0 then w0 else if q=1 then w1 else if q=2 then w2 else w3).testBit r))/\aB [] w w':=by
 have hd:((64*q+r:Nat):Int).tdiv 64=q:=by rw[a2z (by omega)];omega
 have h:((64*q+r:Nat):Int).tmod 64=r:=by rw[a2f (by omega)];omega
 generalize 64*q+r=c at *;rcases(by omega:q=0\/q=1\/q=2\/q=3) with rfl|rfl|rfl|rfl
 .delta zF;go_in;go_wp2;go_ret;exact⟨by rw[<-zZ _ _ f];rfl,zJ⟩
 .delta zF;go_in;go_wp2;go_ret;exact⟨by rw[<-zZ _ _ d];rfl,zJ⟩
 .delta zF;go_in;go_wp2;go_ret;exact⟨by rw[<-zZ _ _ b];rfl,zJ⟩
 delta zF;go_in;go_wp2;go_ret;exact⟨by rw[<-zZ _ _ a];rfl,zJ⟩
def am8(s)(c:Nat)(w)(a:c<256) :
 zF 161 #[bv s,.int .u8 c] w λe w'=>e=zR (.bool (s.testBit c))/\aB [] w w':=by
 have h:=ahq (wd s 0) (wd s 1) (wd s 2) (wd s 3) (c / 64) (c % 64) w (by omega) (a3i _ (by decide)) (jv _ _) (jv _ _) (jv _ _) (jv _ _);rw[show 64*(c / 64)+c % 64=c by omega]at h;have e:(if c / 64=0 then wd s 0 else if c / 64=1 then wd s 1 else if c / 64=2 then wd s 2 else wd s 3).testBit (c % 64)=s.testBit c:=by
  have key:(wd s (c / 64)).testBit (c % 64)=s.testBit c:=by rw[zk _ _ _ (a3i _ (by decide)),show 64*(c / 64)+c % 64=c by omega]
  rw[<-key];rcases(by omega:c / 64=0\/c / 64=1\/c / 64=2\/c / 64=3) with h|h|h|h<;>simp[h]
 rw[e]at h;exact h
def SB(w:World)(b:Nat)(w0 w1 w2 w3:Int):Prop:=w.heap[b]?=some (.cells #[.int .u64 w0,.int .u64 w1,.int .u64 w2,.int .u64 w3] 236 (0,0))
def SB.new {w:World} {b}(hb:b=w.heap.size):SB (w.alloc (Obj.cells #[.int .u64 w0,.int .u64 w1,.int .u64 w2,.int .u64 w3] 236)) b w0 w1 w2 w3:=by subst hb;exact bD w _
theorem SB.cells {w b}(h:SB w b w0 w1 w2 w3) :
 zC w b 0 (.int .u64 w0)/\zC w b 1 (.int .u64 w1)/\zC w b 2 (.int .u64 w2)/\zC w b 3 (.int .u64 w3):=by
 unfold SB at h;refine⟨?_,?_,?_,?_⟩<;>simp[World.cell?,h]
theorem SB.fz {w b}(h:SB w b w0 w1 w2 w3)(o):w.frozen? (zB b o)=false:=by unfold SB at h;simp[World.frozen?,h]
theorem SB.lt {w b}(h:SB w b w0 w1 w2 w3):b<w.heap.size:=(a0c.1 h).1
theorem SB.aC{w b}(h:SB w b w0 w1 w2 w3)(f:aB S w w')(a:b∉S):SB w' b w0 w1 w2 w3:=(f.block b h.lt a).trans h
theorem SB.drew {w b}(h:SB w b w0 w1 w2 w3):SB w.drew b w0 w1 w2 w3:=h
def SB.set0 {w b}(h:SB w b w0 w1 w2 w3)(v):SB (w.setCell (zA b) (.int .u64 v)) b v w1 w2 w3:=by unfold SB at h |-;simp[World.setCell,h,a0v]
def SB.set1 {w b}(h:SB w b w0 w1 w2 w3)(v):SB (w.setCell (zB b 1) (.int .u64 v)) b w0 v w2 w3:=by unfold SB at h |-;simp[World.setCell,h,a0v]
def SB.set2 {w b}(h:SB w b w0 w1 w2 w3)(v):SB (w.setCell (zB b 2) (.int .u64 v)) b w0 w1 v w3:=by unfold SB at h |-;simp[World.setCell,h,a0v]
def SB.ahr {w b}(h:SB w b w0 w1 w2 w3)(v):SB (w.setCell (zB b 3) (.int .u64 v)) b w0 w1 w2 v:=by unfold SB at h |-;simp[World.setCell,h,a0v]
def SB.far {w b b' o}(h:SB w b w0 w1 w2 w3)(v)(hb:b≠b'):SB (w.setCell (zB b' o) v) b w0 w1 w2 w3:=by unfold SB at h |-;rw[Below.heap_setCell _ _ _ _ hb];omega
theorem SB.load {w b}(h:SB w b w0 w1 w2 w3):(loadVar 236 (zA b)).run Tryz.prog w=.ok (.agg #[.int .u64 w0,.int .u64 w1,.int .u64 w2,.int .u64 w3]) w:=by obtain⟨e,d,c,a⟩:=h.cells;simp[go_sem,e,d,c,a]
def Yp {w b}(h:SB w b w0 w1 w2 w3)(c:tmps.getD 4 undef=zP b) :
 (results Tryz.f165 tmps).run Tryz.prog w=.ok (.agg #[.int .u64 w0,.int .u64 w1,.int .u64 w2,.int .u64 w3]) w:=by
 have a:tmps[4]?.getD undef=zP b:=by simpa using c
 simp only[results,Tryz.results165];simp[Sem.run_bind,Result.andThen,a,asAddr,h.load]
theorem aaV(s t i):wd (s ||| t) i=wd s i ||| wd t i:=by
 apply a1D;intro k;by_cases b:k<64
 .rw[a2D,zk _ _ _ b,zk _ _ _ b,zk _ _ _ b,a2D]
 have a:∀x,(wd x i).testBit k=false:=λx=>a1z (a0t (jv x i) (by rw[show(18446744073709551616:Nat)=2 ^ 64 by decide];exact a1r (by omega) (by omega)));rw[a2D,a,a,a];rfl
def jz(k i a b:Nat):Int:=if i<k then ((a ||| b:Nat):Int) else (a:Int)
def ahs(s t w)(I:s<2 ^ 256)(ht:t<2 ^ 256) :
 zF 165 #[bv s,bv t] w λe w'=>e=zR (bv (s ||| t))/\aB [] w w':=by
 unfold bv;have B:=aaV s t 0;have A:=aaV s t 1;have y:=aaV s t 2;have x:=aaV s t 3;have v:=jv s 0;have u:=jv s 1;have l2:=jv s 2;have r:=jv s 3;have q:=jv t 0;have p:=jv t 1;have o:=jv t 2;have n:=jv t 3;generalize wd s 0=l at *;generalize wd s 1=s1 at *;generalize wd s 2=s2 at *;generalize wd s 3=i at *;generalize wd t 0=t0 at *;generalize wd t 1=t1 at *;generalize wd t 2=t2 at *;generalize wd t 3=f at *;delta zF;go_in;go_wp2_with fail;go_loopg [6] 4 (λk m wr=>∃(j:Nat),j+k=4/\m=zI j/\SB wr w.heap.size (jz j 0 l t0) (jz j 1 s1 t1) (jz j 2 s2 t2) (jz j 3 i f)/\SB wr (w.heap.size+1) t0 t1 t2 f/\SB wr (w.heap.size+1+1) 0 0 0 0/\aB [] w wr);exact⟨0,by omega,rfl,(SB.new rfl).aC (S:=[]) (zJ.alloc _) (by simp),(SB.new (by simp)).aC zG (by simp),SB.new (by simp),(zJ.alloc _).alloc _⟩
 .obtain⟨j,J,rfl,a,d,c,F⟩:=hrel;rcases(by omega:j=0\/j=1\/j=2\/j=3\/j=4) with rfl|rfl|rfl|rfl|rfl
  .simp[jz,a1u,Nat.reduceLT,a0G,a0I]at a;obtain⟨c0,c1,c2,c3⟩:=a.cells;obtain⟨d0,d1,h,g⟩:=d.cells;have z:=a.fz;go_wp2_with fail;go_region;go_wp2;go_roundg 3
   .refine⟨1,by omega,by go_num,?_,(d.far _ (by omega)).drew,(c.far _ (by omega)).drew,(F.setCell (.inr (a0b _)) _).drew⟩;have:=(a.set0 (Go.bits BinOp.or IntKind.u64 l t0)).drew;rw[bits_or_u64_nat _ _ v q]at this |-;simpa only[jz,a1u,Nat.reduceLT,a0G,a0I] using this
   omega
  .simp[jz,a1u,Nat.reduceLT,a0G,a0I]at a;obtain⟨c0,c1,c2,c3⟩:=a.cells;obtain⟨d0,d1,h,g⟩:=d.cells;have z:=a.fz;have a:=a;have d:=d;have c:=c;go_wp2_with fail;go_region;go_wp2;go_roundg 2
   .refine⟨2,by omega,by go_num,?_,(d.far _ (by omega)).drew,(c.far _ (by omega)).drew,(F.setCell (.inr (a0b _)) _).drew⟩;have:=(a.set1 (Go.bits BinOp.or IntKind.u64 s1 t1)).drew;rw[bits_or_u64_nat _ _ u p]at this |-;simpa only[jz,a1u,Nat.reduceLT,a0G,a0I] using this
   omega
  .simp[jz,a1u,Nat.reduceLT,a0G,a0I]at a;obtain⟨c0,c1,c2,c3⟩:=a.cells;obtain⟨d0,d1,h,g⟩:=d.cells;have z:=a.fz;have a:=a;have d:=d;have c:=c;go_wp2_with fail;go_region;go_wp2;go_roundg 1
   .refine⟨3,by omega,by go_num,?_,(d.far _ (by omega)).drew,(c.far _ (by omega)).drew,(F.setCell (.inr (a0b _)) _).drew⟩;have:=(a.set2 (Go.bits BinOp.or IntKind.u64 s2 t2)).drew;rw[bits_or_u64_nat _ _ l2 o]at this |-;simpa only[jz,a1u,Nat.reduceLT,a0G,a0I] using this
   omega
  .simp[jz,a1u,Nat.reduceLT,a0G,a0I]at a;obtain⟨c0,c1,c2,c3⟩:=a.cells;obtain⟨_,_,h,g⟩:=d.cells;have z:=a.fz;have a:=a;have d:=d;have c:=c;go_wp2_with fail;go_region;go_wp2;go_roundg 0
   .refine⟨4,by omega,by go_num,?_,(d.far _ (by omega)).drew,(c.far _ (by omega)).drew,(F.setCell (.inr (a0b _)) _).drew⟩;have:=(a.ahr (Go.bits BinOp.or IntKind.u64 i f)).drew;rw[bits_or_u64_nat _ _ r n]at this |-;simpa only[jz,a1u,Nat.reduceLT,a0G,a0I] using this
   omega
  simp[jz,a1u,Nat.reduceLT,a0G,a0I]at a;obtain⟨_,_,_,_⟩:=a.cells;obtain⟨H,G,E,D⟩:=c.cells;have:=c.fz;have c:=c;go_wp2;refine bodyPost_ret (Yp (b:=w.heap.size+1+1) ((((c.set0 _).set1 _).set2 _).ahr _) (by rfl)) rfl ?_;refine⟨by rw[B,A,y,x],?_⟩;exact(((F.setCell (.inr (by simp;omega)) _).setCell (.inr (by simp;omega)) _).setCell (.inr (by simp;omega)) _).setCell (.inr (by simp;omega)) _
def aly(s:Nat):Nat:=s ^^^ (2 ^ 256-1)
theorem apM(i)(a:i<4):wd (2 ^ 256-1) i=18446744073709551615:=by rcases(by omega:i=0\/i=1\/i=2\/i=3) with rfl|rfl|rfl|rfl<;>decide +kernel
theorem asg(s t i):wd (s ^^^ t) i=wd s i ^^^ wd t i:=by
 apply a1D;intro k;by_cases b:k<64
 .rw[a2o,zk _ _ _ b,zk _ _ _ b,zk _ _ _ b,a2o]
 have a:∀x,(wd x i).testBit k=false:=λx=>a1z (a0t (jv x i) (by rw[show(18446744073709551616:Nat)=2 ^ 64 by decide];exact a1r (by omega) (by omega)));rw[a2o,a,a,a];rfl
def Tf(s i)(b:i<4):wd (aly s) i=18446744073709551615-wd s i:=by
 unfold aly;rw[asg,apM i b];have h:=jv s i;generalize wd s i=x at *;rw[show(18446744073709551615:Nat)=2 ^ 64-1 by decide];apply a1D;intro k;rw[a2o,a3c];rw[show 2 ^ 64-1-x=2 ^ 64-(x+1) by omega,Nat.testBit_two_pow_sub_succ (by omega)];by_cases a:k<64
 .simp[a]
 have:x.testBit k=false:=a1z (a0t h (by rw[show(18446744073709551616:Nat)=2 ^ 64 by decide];exact a1r (by omega) (by omega)));simp[a,this]
theorem am9(x)(h:x<18446744073709551616):18446744073709551615 ^^^ x=18446744073709551615-x:=by
 rw[show(18446744073709551615:Nat)=2 ^ 64-1 by decide];apply a1D;intro k;rw[a2o,a3c];rw[show 2 ^ 64-1-x=2 ^ 64-(x+1) by omega,Nat.testBit_two_pow_sub_succ (by omega)];by_cases a:k<64
 .simp[a]
 have:x.testBit k=false:=a1z (a0t h (by rw[show(18446744073709551616:Nat)=2 ^ 64 by decide];exact a1r (by omega) (by omega)));simp[a,this]
theorem Tg(x:Nat)(h:x<18446744073709551616):Go.bits BinOp.xor IntKind.u64 IntKind.u64.max (x:Int)=((18446744073709551615-x:Nat):Int):=by rw[show IntKind.u64.max=((18446744073709551615:Nat):Int) by decide,bits_xor_u64_nat _ _ (by decide) h,am9 x h]
def Yq {w b}(h:SB w b w0 w1 w2 w3)(c:tmps.getD 2 undef=zP b) :
 (results Tryz.f173 tmps).run Tryz.prog w=.ok (.agg #[.int .u64 w0,.int .u64 w1,.int .u64 w2,.int .u64 w3]) w:=by
 have a:tmps[2]?.getD undef=zP b:=by simpa using c
 simp only[results,Tryz.results173];simp[Sem.run_bind,Result.andThen,a,asAddr,h.load]
def oz(k i a:Nat):Int:=if i<k then ((18446744073709551615-a:Nat):Int) else (a:Int)
def WY(s w) :
 zF 173 #[bv s] w λe w'=>e=zR (bv (aly s))/\aB [] w w':=by
 unfold bv;have E0:=Tf s 0 (by omega);have E1:=Tf s 1 (by omega);have E2:=Tf s 2 (by omega);have E3:=Tf s 3 (by omega);have l0:=jv s 0;have l1:=jv s 1;have l2:=jv s 2;have l3:=jv s 3;generalize wd s 0=s0 at *;generalize wd s 1=s1 at *;generalize wd s 2=s2 at *;generalize wd s 3=s3 at *;delta zF;go_in;go_wp2_with fail;go_loopg [4] 4 (λk vi wr=>∃(j:Nat),j+k=4/\vi=zI j/\SB wr w.heap.size (oz j 0 s0) (oz j 1 s1) (oz j 2 s2) (oz j 3 s3)/\SB wr (w.heap.size+1) 0 0 0 0/\aB [] w wr);exact⟨0,by omega,rfl,(SB.new rfl).aC zG (by simp),SB.new (by simp),zJ.alloc _⟩
 ·obtain⟨j,_,rfl,H0,H2,F⟩:=hrel;rcases(by omega:j=0\/j=1\/j=2\/j=3\/j=4) with rfl|rfl|rfl|rfl|rfl
  ·simp[oz,a1u,Nat.reduceLT,a0G,a0I]at H0;obtain⟨c0,c1,c2,c3⟩:=H0.cells;have z:=H0.fz;go_wp2;go_roundg 3
   ·refine⟨1,by omega,by go_num,?_,(H2.far _ (by omega)),(F.setCell (.inr (a0b _)) _)⟩;have:=H0.set0 (Go.bits BinOp.xor IntKind.u64 IntKind.u64.max s0);rw[Tg _ l0]at this |-;simpa only[oz,a1u,Nat.reduceLT,a0G,a0I] using this
   omega
  ·simp[oz,a1u,Nat.reduceLT,a0G,a0I]at H0;obtain⟨c0,c1,c2,c3⟩:=H0.cells;have z:=H0.fz;have H0:=H0;have H2:=H2;go_wp2;go_roundg 2
   ·refine⟨2,by omega,by go_num,?_,(H2.far _ (by omega)),(F.setCell (.inr (a0b _)) _)⟩;have:=H0.set1 (Go.bits BinOp.xor IntKind.u64 IntKind.u64.max s1);rw[Tg _ l1]at this |-;simpa only[oz,a1u,Nat.reduceLT,a0G,a0I] using this
   omega
  ·simp[oz,a1u,Nat.reduceLT,a0G,a0I]at H0;obtain⟨c0,c1,c2,c3⟩:=H0.cells;have z:=H0.fz;have H0:=H0;have H2:=H2;go_wp2;go_roundg 1
   ·refine⟨3,by omega,by go_num,?_,(H2.far _ (by omega)),(F.setCell (.inr (a0b _)) _)⟩;have:=H0.set2 (Go.bits BinOp.xor IntKind.u64 IntKind.u64.max s2);rw[Tg _ l2]at this |-;simpa only[oz,a1u,Nat.reduceLT,a0G,a0I] using this
   omega
  ·simp[oz,a1u,Nat.reduceLT,a0G,a0I]at H0;obtain⟨c0,c1,c2,c3⟩:=H0.cells;have z:=H0.fz;have H0:=H0;have H2:=H2;go_wp2;go_roundg 0
   ·refine⟨4,by omega,by go_num,?_,(H2.far _ (by omega)),(F.setCell (.inr (a0b _)) _)⟩;have:=H0.ahr (Go.bits BinOp.xor IntKind.u64 IntKind.u64.max s3);rw[Tg _ l3]at this |-;simpa only[oz,a1u,Nat.reduceLT,a0G,a0I] using this
   omega
  simp[oz,a1u,Nat.reduceLT,a0G,a0I]at H0;obtain⟨_,_,_,_⟩:=H0.cells;obtain⟨_,_,_,_⟩:=H2.cells;have:=H2.fz;have H2:=H2;go_wp2;refine bodyPost_ret (Yq (b:=w.heap.size+1) ((((H2.set0 _).set1 _).set2 _).ahr _) (by rfl)) rfl ?_;refine⟨by rw[E0,E1,E2,E3],?_⟩;exact(((F.setCell (.inr (by simp)) _).setCell (.inr (by simp)) _).setCell (.inr (by simp)) _).setCell (.inr (by simp)) _
def pU(s f:Nat):Nat->Nat
 | 0=>s
 | k+1=>pU s f k ||| 2 ^ (f+k)
theorem ash(c i)(d:i<4)(e:c<256):wd (2 ^ c) i=if i=c / 64 then 2 ^ (c % 64) else 0:=by
 apply a1D;intro k;by_cases b:k<64
 .rw[zk _ _ _ b,a2I];by_cases h:i=c / 64
  .rw[a0m h,a2I];congr 1;apply propext;omega
  rw[a0n h];simp;omega
 have a:(2:Nat) ^ 64<=2 ^ k:=a1r (by omega) (by omega);rw[a1z (a0t (jv _ _) a)];split
 .rw[a2I];simp;omega
 simp
def YU(x c i)(a:i<4)(b:c<256):wd (x ||| 2 ^ c) i=if i=c / 64 then wd x i ||| 2 ^ (c % 64) else wd x i:=by
 rw[aaV,ash c i a b];split
 .rfl
 simp
theorem or_bit(x r:Nat)(a:x<18446744073709551616)(b:r<64):Go.bits BinOp.or IntKind.u64 (x:Int) (IntKind.u64.wrap (2 ^ r))=((x ||| 2 ^ r:Nat):Int):=by
 have d:(2:Nat) ^ r<18446744073709551616:=by rw[show(18446744073709551616:Nat)=2 ^ 64 by decide];exact a3e (by omega) b
 have c:IntKind.u64.wrap ((2:Int) ^ r)=((2 ^ r:Nat):Int):=by
  have e:((2:Int) ^ r)=((2 ^ r:Nat):Int):=by simp
  rw[e,IntKind.wrap_u64];generalize 2 ^ r=z at *;omega
 rw[c,bits_or_u64_nat _ _ a d]
def aaW(b s f l:Nat)(w)(I:l<256)(L:f<256)(hb:SB w b (wd s 0) (wd s 1) (wd s 2) (wd s 3)) :
 zF 174 #[zP b,.int .u8 f,.int .u8 l] w λe w'=>e=zQ #[]/\SB w' b (wd (pU s f (l+1-f)) 0) (wd (pU s f (l+1-f)) 1) (wd (pU s f (l+1-f)) 2) (wd (pU s f (l+1-f)) 3)/\aB [b] w w':=by
 have x:=aj hb;clear hb;delta zF;go_in;go_wp2_with fail;go_loopg [6] (l+1-f) (λk y wr=>∃(j c:Nat),j+k=l+1-f/\c=f+j/\y=zI c/\SB wr b (wd (pU s f j) 0) (wd (pU s f j) 1) (wd (pU s f j) 2) (wd (pU s f j) 3)/\aB [b] w wr);case atStart=>exact⟨0,f,by omega,rfl,rfl,x,aB.refl _ _⟩
 case round =>
  clear x;obtain⟨j,c,J,u,rfl,d,v⟩:=hrel;have F:=aj v;clear v;by_cases M:j<l+1-f
  .have h:f+j<256:=by omega
   have A:f+j<=l:=by omega
   have i:Z_ (pU s _ (j+1)=pU _ _ j ||| 2 ^ (f+j)):=rfl;rw[<-u]at h A i;have a:=aj u;clear u;have hd:(c:Int).tdiv 64=((c / 64:Nat):Int):=by rw[a2z (by omega)];omega
   have H:(c:Int).tmod 64=((c % 64:Nat):Int):=by rw[a2f (by omega)];omega
   have W0:=aj (YU (pU s f j) _ 0 (by omega) h);have t:=aj (YU (pU s f j) c 1 (by omega) h);have p:=aj (YU (pU s f j) c 2 (by omega) h);have n:=aj (YU (pU s f j) c 3 (by omega) h);have G:=jv (pU s f j) 0;have E:=jv (pU s f j) 1;have l2:=jv (pU s f j) 2;have D:=jv (pU s f j) 3;have m:c % 64<64:=a3i _ (by decide);have hq:c / 64<4:=by omega
   generalize wd (pU _ _ j) 0=C at *;generalize wd (pU s f j) 1=s1 at *;generalize wd (pU s f j) 2=s2 at *;generalize wd (pU s f j) 3=B at *;generalize c % 64=r at *;generalize c / 64=q at *;obtain⟨_,_,_,_⟩:=d.cells;have z:=d.fz;have g:=aj d;clear d;rcases(by omega:q=0\/q=1\/q=2\/q=3) with rfl|rfl|rfl|rfl
   .go_wp2_with fail;go_region;go_wp2;go_roundg (gk-1);case measure=>omega
    case rel =>
     refine⟨j+1,c+1,by omega,by rw[a.o];omega,by go_num,?_,(F.o.setCell (.inl (by simp)) _).drew⟩;rw[i.o,W0.o,t.o,p.o,n.o];have:=(g.o.set0 (Go.bits BinOp.or IntKind.u64 C (IntKind.u64.wrap (2 ^ r)))).drew;rw[or_bit _ _ G m]at this |-;simpa using this
   .go_wp2_with fail;go_region;go_wp2;go_roundg (gk-1);case measure=>omega
    case rel =>
     refine⟨j+1,c+1,by omega,by rw[a.o];omega,by go_num,?_,(F.o.setCell (.inl (by simp)) _).drew⟩;rw[i.o,W0.o,t.o,p.o,n.o];have:=(g.o.set1 (Go.bits BinOp.or IntKind.u64 s1 (IntKind.u64.wrap (2 ^ r)))).drew;rw[or_bit _ _ E m]at this |-;simpa using this
   .go_wp2_with fail;go_region;go_wp2;go_roundg (gk-1);case measure=>omega
    case rel =>
     refine⟨j+1,c+1,by omega,by rw[a.o];omega,by go_num,?_,(F.o.setCell (.inl (by simp)) _).drew⟩;rw[i.o,W0.o,t.o,p.o,n.o];have:=(g.o.set2 (Go.bits BinOp.or IntKind.u64 s2 (IntKind.u64.wrap (2 ^ r)))).drew;rw[or_bit _ _ l2 m]at this |-;simpa using this
   go_wp2_with fail;go_region;go_wp2;go_roundg (gk-1);case measure=>omega
   case rel =>
    refine⟨j+1,c+1,by omega,by rw[a.o];omega,by go_num,?_,(F.o.setCell (.inl (by simp)) _).drew⟩;rw[i.o,W0.o,t.o,p.o,n.o];have:=(g.o.ahr (Go.bits BinOp.or IntKind.u64 B (IntKind.u64.wrap (2 ^ r)))).drew;rw[or_bit _ _ D m]at this |-;simpa using this
  have he:j=l+1-f:=by omega
  subst he;have g:=aj d;clear d;have:¬ (c<=l):=by omega
  go_wp2;go_end0;exact⟨rfl,g,F⟩
def PS(w:World)(b:Nat)(t:LB)(i:Nat)(vs:Value):Prop :=
 w.heap[b]?=some (.cells #[zT t,zI i,vs] 222 (0,0))/\i<=t.length/\t.length<=1048576
theorem PS.c0 {w b}(h:PS w b t i vs):zC w b 0 (zT t):=by simp[World.cell?,h.1]
theorem PS.c1 {w b}(h:PS w b t i vs):zC w b 1 (zI i):=by simp[World.cell?,h.1]
theorem PS.c2 {w b}(h:PS w b t i vs):zC w b 2 vs:=by simp[World.cell?,h.1]
theorem PS.fz {w b}(h:PS w b t i vs)(o):w.frozen? (zB b o)=false:=by simp[World.frozen?,h.1]
theorem PS.lt {w b}(h:PS w b t i vs):b<w.heap.size:=(a0c.1 h.1).1
theorem PS.aC{w b}(h:PS w b t i vs)(f:aB S w w')(a:b∉S):PS w' b t i vs:=⟨(f.block b h.lt a).trans h.1,h.2⟩
theorem PS.drew {w b}(h:PS w b t i vs):PS w.drew b t i vs:=h
theorem PS.drewN {w b}(n)(h:PS w b t i vs):PS (w.drewN n) b t i vs:=h
def PS.at_ {w b}(h:PS w b t i vs)(j)(a:j<=t.length):PS (w.setCell (zB b 1) (zI j)) b t j vs:=by refine⟨?_,a,h.2.2⟩;have:=h.1;simp[World.setCell,a0v,this]
def PS.sets {w b}(h:PS w b t i vs)(v):PS (w.setCell (zB b 2) v) b t i v:=by refine⟨?_,h.2⟩;have:=h.1;simp[World.setCell,a0v,this]
def PA(w:World)(b:Nat)(t l:LB)(vs:Value):Prop:=∃i,PS w b t i vs/\t.drop i=l
theorem PA.drewN {w b}(n)(h:PA w b t l vs):PA (w.drewN n) b t l vs:=h
theorem PA.aC{w b}(h:PA w b t l vs)(f:aB S w w')(a:b∉S):PA w' b t l vs:=by obtain⟨i,d,c⟩:=h;exact⟨i,d.aC f a,c⟩
def tk(c:UInt8):LB->Bool
 | []=>false
 | x::_=>x==c
def rs(c:UInt8)(l:LB):LB:=if tk c l then l.tail else l
theorem drop_cons(h:t.drop i=l):(i<t.length->∃a:i<t.length,l=t[i]::t.drop (i+1))/\(¬ i<t.length->l=[]):=by
 constructor
 .intro a;exact⟨a,by rw[<-h];exact a0k a⟩
 intro a;rw[<-h];exact a0i (by omega)
def jI(b t l vs c w)(h:PA w b t l vs) :
 zF 139 #[zP b,.int .u8 c.toNat] w λe w'=>e=zR (.bool (tk c l))/\PA w' b t (rs c l) vs/\aB [b] w w':=by
 obtain⟨i,d,g⟩:=h;have:=d.c0;have:=d.c1;have:=d.fz 1;have:=d.2.1;have:=d.2.2;have o:=bL t;by_cases k:i<t.length
 .obtain⟨_,f⟩:=(drop_cons g).1 k;have:(bs t)[i]'(by rw[o];omega)=t[i]:=rfl;generalize m:t[i]=x at *;by_cases j:x=c
  .subst j;have a:tk x l=true/\rs x l=t.drop (i+1):=by show _/\_;rw[f];simp[tk,rs]
   delta zF;go_in;go_wp2;go_quiet (fail);go_wp2;go_ret;rw[a.1,a.2];exact⟨rfl,⟨i+1,(d.drewN _).at_ (i+1) k,rfl⟩,(zK.drewN _).setCell (.inl (by simp)) _⟩
  have a:tk c l=false/\rs c l=l:=by show _/\_;rw[f];simp[tk,rs,j]
  have:((x.toNat:Int) != (c.toNat:Int))=true:=by rw[a1M];intro e;exact j (a1w.1 (by omega))
  delta zF;go_in;go_wp2;go_quiet (fail);go_wp2;go_ret;rw[a.1,a.2];exact⟨rfl,⟨i,d.drewN _,g⟩,zK.drewN _⟩
 have a:tk c l=false/\rs c l=l:=by show _/\_;rw[(drop_cons g).2 k];simp[tk,rs]
 delta zF;go_in;go_wp2;go_quiet (fail);go_wp2;go_ret;rw[a.1,a.2];exact⟨rfl,⟨i,d.drewN _,g⟩,zK.drewN _⟩
def Bj(b t l vs w)(h:PA w b t l vs) :
 zF 169 #[zP b] w λe w'=>e=zQ #[.int .u8 (hd l),.bool (!l.isEmpty)]/\PA w' b t l.tail vs/\aB [b] w w':=by
 obtain⟨i,c,g⟩:=h;have:=c.c0;have:=c.c1;have:=c.fz 1;have:=c.2.1;have:=c.2.2;have k:=bL t;by_cases f:i<t.length
 .obtain⟨_,d⟩:=(drop_cons g).1 f;have:(bs t)[i]'(by rw[k];omega)=t[i]:=rfl;generalize m:t[i]=x at *;have a:hd l=x.toNat/\l.isEmpty=false/\l.tail=t.drop (i+1):=by show _/\_;rw[d];simp[hd]
  delta zF;go_in;go_wp2;go_quiet (fail);go_wp2;go_quiet (fail);go_wp2;go_ret2;rw[a.1,a.2.1,a.2.2];exact⟨rfl,⟨i+1,(c.drewN _).at_ (i+1) f,rfl⟩,((aB.refl [b] w).drewN _).setCell (.inl (by simp)) _⟩
 have a:hd l=0/\l.isEmpty=true/\l.tail=l:=by show _/\_;rw[((drop_cons g).2 f)];simp[hd]
 delta zF;go_in;go_wp2;go_quiet (fail);go_wp2;go_ret2;rw[a.1,a.2.1,a.2.2];exact⟨rfl,⟨i,c.drewN _,g⟩,zK.drewN _⟩
def MZ(l:LB):Bool:=l.isEmpty||tk 124 l||tk 41 l
def Qs(b t l vs w)(h:PA w b t l vs) :
 zF 149 #[zP b] w λe w'=>e=zR (.bool (MZ l))/\∃n,w'=w.drewN n:=by
 obtain⟨i,a,f⟩:=h;have:=a.c0;have:=a.c1;have:=a.2.1;have q:=bL t;by_cases k:i<t.length
 .have o:decide (t.length<=i)=false:=a0f (by omega);obtain⟨_,d⟩:=(drop_cons f).1 k;have:(bs t)[i]'(by rw[q];omega)=t[i]:=rfl;generalize r:t[i]=x at *;have c:MZ l=((x==124)||(x==41)):=by rw[d];simp[MZ,tk]
  have j:((x.toNat:Int)==124)=(x==124):=by
   rw[a0T];simp;constructor
   .intro e;exact a1w.1 (by simpa using(by omega:x.toNat=124))
   intro e;subst e;rfl
  have g:((x.toNat:Int)==41)=(x==41):=by
   rw[a0T];simp;constructor
   .intro e;exact a1w.1 (by simpa using(by omega:x.toNat=41))
   intro e;subst e;rfl
  cases m:(x==124)
  .rw[m]at j c;delta zF;go_in;go_wp2;go_quiet (fail);go_wp2;go_ret;rw[c];exact⟨dD (by rw[<-g];rfl),_,rfl⟩
  rw[m]at j c;delta zF;go_in;go_wp2;go_quiet (fail);go_wp2;go_ret;rw[c];exact⟨dD (by rfl),_,rfl⟩
 have:decide (t.length<=i)=true:=a0g (by omega);have d:=(drop_cons f).2 k;have c:MZ l=true:=by rw[d];rfl
 delta zF;go_in;go_wp2;go_quiet (fail);go_wp2;go_ret;rw[c];exact⟨rfl,_,rfl⟩
theorem jw(c l):tk c l=bA c l:=by cases l<;>rfl
def yA(l:LB):Nat:=match di l with | some (n,_)=>n|none=>0
def acf(l:LB):LB:=match di l with | some (_,r)=>r|none=>l
theorem afj(a b:UInt8):(a<=b)=(a.toNat<=b.toNat):=by rw[a1p]
def asi {a b c d}(h:a=b)(e:c=d):Ending.returned (.tuple #[zI a,.bool c])=zQ #[zI b,.bool d]:=by rw[h,e]
def Cu(b t l vs w)(h:PA w b t l vs) :
 zF 180 #[zP b] w λe w'=>e=zQ #[zI (yA l),.bool (di l).isSome]/\PA w' b t (acf l) vs/\aB [b] w w':=by
 obtain⟨i,c,g⟩:=h;have:=c.c0;have:=c.c1;have:=c.fz 1;have:=c.2.1;have:=c.2.2;have y:=bL t;by_cases k:i<t.length
 .have:decide (t.length<=i)=false:=a0f (by omega);obtain⟨_,d⟩:=(drop_cons g).1 k;have:(bs t)[i]'(by rw[y];omega)=t[i]:=rfl;generalize q:t[i]=x at *;have:=x.toNat_lt;by_cases o:48<=x.toNat/\x.toNat<=57
  .have a:yA l=x.toNat-48/\(di l).isSome=true/\acf l=t.drop (i+1):=by
    show _/\_;have m:(48<=x&&x<=57)=true:=by simp[afj];exact o
    unfold yA acf;rw[d];simp only[di,m,a0G];simp
   have n:decide ((x.toNat:Int)<48)=false:=a0f (by omega);have:=aBb 57 x.toNat (by omega);delta zF;go_in;go_wp2;go_quiet (fail);go_wp2;go_quiet (fail);go_wp2;go_ret2;rw[a.1,a.2.1,a.2.2];refine⟨?_,⟨i+1,(c.drewN _).at_ (i+1) k,rfl⟩,((aB.refl [b] w).drewN _).setCell (.inl (by simp)) _⟩;exact asi (by omega) rfl
  have a:yA l=0/\(di l).isSome=false/\acf l=l:=by
   show _/\_;have m:(48<=x&&x<=57)=false:=by rw[a2p];intro e;simp[afj]at e;exact o e
   unfold yA acf;rw[d];simp only[di,m];simp
  by_cases A:x.toNat<48;have:decide ((x.toNat:Int)<48)=true:=a0g (by omega);rotate_left;have:decide ((x.toNat:Int)<48)=false:=a0f (by omega);have:=decLt 57 x.toNat (by omega);all_goals
   delta zF;go_in;go_wp2;go_quiet (fail);go_wp2;go_ret2;rw[a.1,a.2.1,a.2.2];exact⟨rfl,⟨i,c.drewN _,g⟩,zK.drewN _⟩
 have:decide (t.length<=i)=true:=a0g (by omega);have d:=(drop_cons g).2 k;have a:yA l=0/\(di l).isSome=false/\acf l=l:=by show _/\_;rw[d];exact⟨rfl,rfl,rfl⟩
 delta zF;go_in;go_wp2;go_quiet (fail);go_wp2;go_ret2;rw[a.1,a.2.1,a.2.2];exact⟨rfl,⟨i,c.drewN _,g⟩,zK.drewN _⟩
def Iy(x)(n:Nat)(a:n<256):((x.toNat:Int)==(n:Int))=(x==UInt8.ofNat n):=by
 have h:(UInt8.ofNat n).toNat=n:=by rw[UInt8.toNat_ofNat'];omega
 rw[a0T,a0W,a0W];constructor
 .intro e;apply a1w.1;omega
 intro e;rw[e,h]
def Tj(b t l vs w)(h:PA w b t l vs) :
 zF 159 #[zP b] w λe w'=>e=zR (.bool (DK l))/\∃n,w'=w.drewN n:=by
 obtain⟨i,a,o⟩:=h;have:=a.c0;have:=a.c1;have:=a.2.1;have z:=bL t;by_cases q:i<t.length
 .obtain⟨_,j⟩:=(drop_cons o).1 q;have:(bs t)[i]'(by rw[z];omega)=t[i]:=rfl;generalize A:t[i]=x at *;have g:DK l=DI x:=by rw[j];rfl
  have f:=Iy x 42 (by omega);have d:=Iy x 43 (by omega);have c:=Iy x 63 (by omega);have k:=Iy x 123 (by omega);have p:DI x=(x==42||x==43||x==63||x==123):=rfl;cases k1:(x==42)
  .have:((x.toNat:Int)==42)=false:=f.trans k1;cases k2:(x==43)
   .have:((x.toNat:Int)==43)=false:=d.trans k2;cases m:(x==63)
    .have:((x.toNat:Int)==63)=false:=c.trans m;have s:((x.toNat:Int)==123)=(x==123):=k;delta zF;go_in;go_wp2;go_quiet (fail);go_wp2;go_quiet (fail);go_wp2;go_ret;rw[g,p,k1,k2,m];exact⟨dD (by simp[s]),_,rfl⟩
    have:((x.toNat:Int)==63)=true:=c.trans m;delta zF;go_in;go_wp2;go_quiet (fail);go_wp2;go_quiet (fail);go_wp2;go_ret;rw[g,p,k1,k2,m];exact⟨dD (by simp),_,rfl⟩
   have:((x.toNat:Int)==43)=true:=d.trans k2;delta zF;go_in;go_wp2;go_quiet (fail);go_wp2;go_quiet (fail);go_wp2;go_ret;rw[g,p,k1,k2];exact⟨dD (by simp),_,rfl⟩
  have:((x.toNat:Int)==42)=true:=f.trans k1;delta zF;go_in;go_wp2;go_quiet (fail);go_wp2;go_quiet (fail);go_wp2;go_ret;rw[g,p,k1];exact⟨dD (by simp),_,rfl⟩
 have g:DK l=false:=by rw[((drop_cons o).2 q)];rfl
 delta zF;go_in;go_wp2;go_quiet (fail);go_wp2;go_ret;rw[g];exact⟨rfl,_,rfl⟩
def Yt:Option Nat->Int
 | none=>-1
 | some n=>n
def CP(p:Option ((Nat × Option Nat) × LB))(a m:Int)(ok:Bool)(b:LB):Prop :=
 match p with
 | some ((lo,c),r)=>a=lo/\m=Yt c/\ok=true/\b=r
 | none=>ok=false
def afk(h:(di l).isSome=false):dL l=none:=by
 unfold dL;cases hd:di l with
 | none=>rfl
 | some x=>rw[hd]at h;simp at h
def adz(h:(di l).isSome=true):di l=some (yA l,acf l)/\yA l<=9:=by
 cases hd:di l with
 | none=>rw[hd]at h;simp at h
 | some x=>obtain⟨n,r⟩:=x;have:=aeV hd;unfold yA acf;rw[hd];exact⟨rfl,this.2⟩
def ana(h:(di l).isSome=false):di l=none/\acf l=l:=by
 cases hd:di l with
 | none=>unfold acf;rw[hd];exact⟨rfl,rfl⟩
 | some x=>rw[hd]at h;simp at h
def Yu(b t l vs w)(h:PA w b t l vs) :
 zF 175 #[zP b] w λe w'=>∃a m ok F,e=zQ #[zI a,zI m,.bool ok]/\PA w' b t F vs/\aB [b] w w'/\CP (dL l) a m ok F:=by
 cases A:(di l).isSome
 .have B:=afk A;delta zF;go_in;go_wp2_with fail;refine(Cu _ _ _ _ _ h).mono ?_;rintro e w1 ⟨rfl,D,F1⟩;rw[A];go_wp2;go_ret3;refine⟨_,_,_,_,rfl,D,F1,?_⟩;rw[B];rfl
 obtain⟨E,O⟩:=adz A;have B:dL l=if bA 44 (acf l) then
  match di (acf l).tail with
  | some (n,u)=>if bA 125 u&&decide (yA l<=n) then some ((yA l,some n),u.tail) else none
  | none=>if bA 125 (acf l).tail then some ((yA l,none),(acf l).tail.tail) else none
 else if bA 125 (acf l) then some ((yA l,some (yA l)),(acf l).tail) else none:=by
  conv=>lhs;unfold dL
  rw[E];all_goals rfl
 delta zF;go_in;go_wp2_with fail;refine(Cu _ _ _ _ _ h).mono ?_;rintro e w1 ⟨rfl,D,F1⟩;rw[A];generalize yA l=lo at *;generalize acf l=r at *;go_wp2_with fail;refine(jI b t r vs 44 w1 D).mono ?_;rintro e w2 ⟨rfl,C,H⟩;have F2:=F1.trans H;clear H;cases o:tk 44 r
 .have k:rs 44 r=r:=by unfold rs;rw[o];rfl
  rw[jw]at o;have g:dL l=if bA 125 r then some ((lo,some lo),r.tail) else none:=by rw[B,o];rfl
  go_wp2_with fail;refine(jI b t (rs 44 r) vs 125 w2 C).mono ?_;rintro e w3 ⟨rfl,j,x⟩;have F3:=F2.trans x;clear x;rw[k]at j |-;cases y:tk 125 r
  .go_wp2;go_ret3;refine⟨_,_,_,_,rfl,j,F3,?_⟩;rw[jw]at y;rw[g,y];rfl
  have s:rs 125 r=r.tail:=by unfold rs;rw[y];rfl
  have M:((lo:Int) == -1)=false:=a0j.2 (by omega);go_wp2;go_ret3;refine⟨_,_,_,_,rfl,j,F3,?_⟩;rw[jw]at y;rw[g,y,s];exact⟨rfl,rfl,rfl,rfl⟩
 have k:rs 44 r=r.tail:=by unfold rs;rw[o];rfl
 rw[jw]at o;have g:dL l=match di r.tail with
  | some (n,u)=>if bA 125 u&&decide (lo<=n) then some ((lo,some n),u.tail) else none
  | none=>if bA 125 r.tail then some ((lo,none),r.tail.tail) else none:=by
  rw[B,o];rfl
 rw[k]at C;go_wp2_with fail;refine(Cu b t r.tail vs w2 C).mono ?_;rintro e w3 ⟨rfl,j,x⟩;have F3:=F2.trans x;clear x;cases G:(di r.tail).isSome
 .obtain⟨f,I⟩:=ana G;have d:dL l=if bA 125 r.tail then some ((lo,none),r.tail.tail) else none:=by rw[g,f]
  rw[I]at j;clear f I;go_wp2_with fail;refine(jI b t r.tail vs 125 w3 j).mono ?_;rintro e J ⟨rfl,p,v⟩;have F4:=F3.trans v;clear v;cases c:tk 125 r.tail
  .go_wp2;go_ret3;refine⟨_,_,_,_,rfl,p,F4,?_⟩;rw[jw]at c;rw[d,c];rfl
  have s:rs 125 r.tail=r.tail.tail:=by unfold rs;rw[c];rfl
  go_wp2;go_ret3;refine⟨_,_,_,_,rfl,p,F4,?_⟩;rw[jw]at c;rw[d,c,s];exact⟨rfl,rfl,rfl,rfl⟩
 obtain⟨f,L⟩:=adz G;have d:dL l=if bA 125 (acf r.tail)&&decide (lo<=yA r.tail) then some ((lo,some (yA r.tail)),(acf r.tail).tail) else none:=by rw[g,f]
 clear f;generalize yA r.tail=z at *;generalize acf r.tail=q at *;go_wp2_with fail;refine(jI b t q vs 125 w3 j).mono ?_;rintro e J ⟨rfl,p,v⟩;have F4:=F3.trans v;clear v;have:((z:Int) == -1)=false:=a0j.2 (by omega);cases c:tk 125 q
 .go_wp2;go_ret3;refine⟨_,_,_,_,rfl,p,F4,?_⟩;rw[jw]at c;rw[d,c];rfl
 have s:rs 125 q=q.tail:=by unfold rs;rw[c];rfl
 by_cases i:lo<=z
 .go_wp2;go_ret3;refine⟨_,_,_,_,rfl,p,F4,?_⟩;rw[jw]at c;rw[d,c,s,a0g i];exact⟨rfl,rfl,by first | rfl|simp[i],rfl⟩
 go_wp2;go_ret3;refine⟨_,_,_,_,rfl,p,F4,?_⟩;rw[jw]at c;rw[d,c,a0f i];show _=false
 first | rfl|simp[i]
theorem vE {c}(h:tk c l=true):rs c l=l.tail:=by unfold rs;rw[h];rfl
theorem wU {c}(h:tk c l=false):rs c l=l:=by unfold rs;rw[h];rfl
theorem apN {c}(h:tk c l=true):l=c::l.tail:=by
 cases l with
 | nil=>simp[tk]at h
 | cons x r=>simp[tk]at h;simp[h]
def apO(l):DJ l=if tk 42 l then some ((0,none),l.tail) else if tk 43 l then some ((1,none),l.tail) else if tk 63 l then some ((0,some 1),l.tail) else if tk 123 l then dL l.tail else none:=by cases l<;>rfl
def Oa(b t l vs w)(h:PA w b t l vs) :
 zF 160 #[zP b] w λe w'=>∃a m ok k,e=zQ #[zI a,zI m,.bool ok]/\PA w' b t k vs/\aB [b] w w'/\CP (DJ l) a m ok k:=by
 have j:=apO l;delta zF;go_in;go_wp2_with fail;refine(jI _ _ _ _ 42 _ h).mono ?_;rintro e w1 ⟨rfl,f,F1⟩;cases k1:tk 42 l
 case true =>
  rw[vE k1]at f;go_wp2;go_ret3;refine⟨_,_,_,_,rfl,f,F1,?_⟩;rw[j,k1];exact⟨rfl,rfl,rfl,rfl⟩
 rw[wU k1]at f;have f:=f;go_wp2_with fail;refine(jI b t l vs 43 w1 f).mono ?_;rintro e w2 ⟨rfl,d,r⟩;have F2:=F1.trans r;clear r;cases k2:tk 43 l
 case true =>
  rw[vE k2]at d;go_wp2;go_ret3;refine⟨_,_,_,_,rfl,d,F2,?_⟩;rw[j,k1,k2];exact⟨rfl,rfl,rfl,rfl⟩
 rw[wU k2]at d;have d:=d;go_wp2_with fail;refine(jI b t l vs 63 w2 d).mono ?_;rintro e w3 ⟨rfl,c,q⟩;have F3:=F2.trans q;clear q;cases g:tk 63 l
 case true =>
  rw[vE g]at c;go_wp2;go_ret3;refine⟨_,_,_,_,rfl,c,F3,?_⟩;rw[j,k1,k2,g];exact⟨rfl,rfl,rfl,rfl⟩
 rw[wU g]at c;have c:=c;go_wp2_with fail;refine(jI b t l vs 123 w3 c).mono ?_;rintro e s ⟨rfl,i,p⟩;have F4:=F3.trans p;clear p;cases n:tk 123 l
 case false =>
  go_wp2;go_ret3;refine⟨_,_,_,_,rfl,i,F4,?_⟩;rw[j,k1,k2,g,n];rfl
 rw[vE n]at i;have i:=i;have v:DJ l=dL l.tail:=by rw[j,k1,k2,g,n];rfl
 go_wp2_with fail;refine(Yu b t l.tail vs s i).mono ?_;rintro e y ⟨a,m,ok,k,rfl,u,o,x⟩;have F5:=F4.trans o;clear o;go_wp2;go_ret3;refine⟨_,_,_,_,rfl,u,F5,?_⟩;rw[v];exact x
def BP(p:Option (UInt8 × LB))(v:UInt8)(ok:Bool)(a:LB):Prop :=
 match p with
 | some (c,r)=>v=c/\ok=true/\a=r
 | none=>ok=false
def hdB(l:LB):UInt8:=l.head?.getD 0
theorem alz(l):hd l=((hdB l).toNat:Int):=rfl
def D8(b t l vs w)(h:PA w b t l vs) :
 zF 181 #[zP b] w λe w'=>∃v ok q,e=zQ #[.int .u8 v.toNat,.bool ok]/\PA w' b t q vs/\aB [b] w w'/\BP (lh l) v ok q:=by
 delta zF;go_in;go_wp2_with fail;refine(jI _ _ _ _ 92 _ h).mono ?_;rintro e w1 ⟨rfl,m,F1⟩;cases k1:tk 92 l
 case true =>
  rw[vE k1]at m;have a:lh l=match l.tail with | []=>none|d::p=>some (d,p):=by rw[apN k1];rfl
  go_wp2_with fail;refine(Bj b t l.tail vs w1 m).mono ?_;rintro e w2 ⟨rfl,j,o⟩;have F2:=F1.trans o;clear o;rw[alz];go_wp2;go_ret2;refine⟨hdB l.tail,_,_,rfl,j,F2,?_⟩;rw[a];cases l.tail with
  | nil=>rfl
  | cons d p=>exact⟨rfl,rfl,rfl⟩
 rw[wU k1]at m;have m:=m;go_wp2_with fail;refine(Bj b t l vs w1 m).mono ?_;rintro e _ ⟨rfl,j,o⟩;have F2:=F1.trans o;clear o;rw[alz];have i:=Iy (hdB l) 93 (by omega);have g:=Iy (hdB l) 91 (by omega);have f:=Iy (hdB l) 45 (by omega);have a:lh l=if l.isEmpty then none else if hdB l==93||hdB l==91||hdB l==45 then none else some (hdB l,l.tail):=by
  cases l with
  | nil=>rfl
  | cons x r=>have:(x==92)=false:=k1;simp only[lh,this];rfl
 generalize hdB l=x at *;cases k2:l.isEmpty
 .rw[k2]at a;cases c:(x==93)
  .have y:((x.toNat:Int) != 93)=true:=by rw[a1M];intro e;rw[show(x==93)=true from i.symm.trans (a0W.2 e)]at c;cases c
   cases k:(x==91)
   .have u:((x.toNat:Int) != 91)=true:=by rw[a1M];intro e;rw[show(x==91)=true from g.symm.trans (a0W.2 e)]at k;cases k
    cases n:(x==45)
    .have s:((x.toNat:Int) != 45)=true:=by rw[a1M];intro e;rw[show(x==45)=true from f.symm.trans (a0W.2 e)]at n;cases n
     rw[c,k,n]at a;clear i g f;go_wp2;go_ret2;refine⟨x,_,_,rfl,j,F2,?_⟩;rw[a];exact⟨rfl,rfl,rfl⟩
    have:((x.toNat:Int) != 45)=false:=by rw[a1X];exact a0W.1 (f.trans n)
    rw[c,k,n]at a;clear i g f;go_wp2;go_ret2;refine⟨x,_,_,rfl,j,F2,?_⟩;rw[a];rfl
   have:((x.toNat:Int) != 91)=false:=by rw[a1X];exact a0W.1 (g.trans k)
   rw[c,k]at a;clear i g f;go_wp2;go_ret2;refine⟨x,_,_,rfl,j,F2,?_⟩;rw[a];rfl
  have:((x.toNat:Int) != 93)=false:=by rw[a1X];exact a0W.1 (i.trans c)
  rw[c]at a;clear i g f;go_wp2;go_ret2;refine⟨x,_,_,rfl,j,F2,?_⟩;rw[a];rfl
 rw[k2]at a;clear i g f;go_wp2;go_ret2;refine⟨x,_,_,rfl,j,F2,?_⟩;rw[a];rfl
def IP(p:Option ((UInt8 × UInt8) × LB))(a c:UInt8)(ok:Bool)(b:LB):Prop :=
 match p with
 | some ((x,y),r)=>a=x/\c=y/\ok=true/\b=r
 | none=>ok=false
def acs(b t l vs w)(h:PA w b t l vs) :
 zF 179 #[zP b] w λe w'=>∃a c ok v,e=zQ #[.int .u8 a.toNat,.int .u8 c.toNat,.bool ok]/\PA w' b t v vs/\aB [b] w w'/\IP (tN l) a c ok v:=by
 have g:tN l=match lh l with
  | none=>none
  | some (a,r)=>if bA 45 r then (match lh r.tail with | none=>none|some (b,r2)=>if a<=b then some ((a,b),r2) else none) else some ((a,a),r):=rfl
 delta zF;go_in;go_wp2_with fail;refine(D8 _ _ _ _ _ h).mono ?_;rintro e w1 ⟨x,k,m,rfl,C,F1,p⟩;cases z:lh l with
 | none =>
   rw[z]at p g;obtain rfl:k=false:=p;go_wp2;go_ret3;refine⟨0,0,_,_,rfl,C,F1,?_⟩;rw[g];rfl
 | some s =>
   obtain⟨c,r⟩:=s;rw[z]at p g;obtain⟨rfl,rfl,rfl⟩:x=c/\k=true/\m=r:=p;go_wp2_with fail;refine(jI b t m vs 45 w1 C).mono ?_;rintro e w2 ⟨rfl,i,B⟩;have F2:=F1.trans B;clear B;cases k2:tk 45 m
   .rw[wU k2]at i;rw[jw]at k2;go_wp2;go_ret3;refine⟨x,x,_,_,rfl,i,F2,?_⟩;rw[g];simp only[k2];exact⟨rfl,rfl,by first | rfl|simp,rfl⟩
   rw[vE k2]at i;have i:=i;rw[jw]at k2;go_wp2_with fail;refine(D8 b t m.tail vs w2 i).mono ?_;rintro e _ ⟨y,j,E,rfl,u,A,f⟩;have F3:=F2.trans A;clear A;cases o:lh m.tail with
   | none =>
     rw[o]at f;obtain rfl:j=false:=f;go_wp2;go_ret3;refine⟨x,y,_,_,rfl,u,F3,?_⟩;rw[g];simp only[k2,o];rfl
   | some s =>
     obtain⟨d,D⟩:=s;rw[o]at f;obtain⟨rfl,rfl,rfl⟩:y=d/\j=true/\E=D:=f;by_cases q:x.toNat<=y.toNat
     .go_wp2;go_ret3;refine⟨x,y,_,_,rfl,u,F3,?_⟩;rw[g];simp only[k2,o,a0G];rw[a0m (by rw[afj];exact q)];exact⟨rfl,rfl,by first | rfl|simp[q],rfl⟩
     go_wp2;go_ret3;refine⟨x,y,_,_,rfl,u,F3,?_⟩;rw[g];simp only[k2,o,a0G];rw[a0n (by rw[afj];exact q)];show _=false
     first | rfl|simp[q]
def Ea(s:Nat):List Value:=[.int .u64 (wd s 0),.int .u64 (wd s 1),.int .u64 (wd s 2),.int .u64 (wd s 3)]
def BL(base:Nat)(w:World)(v:Value)(S:LN):Prop:=w.ownsRow base 236 4 v S.length (S.flatMap Ea)
theorem BL.nil(base w):BL base w zN []:=World.ownsRow_nil w base _ 4
def asj:(Tryz.prog.info? 236).map (λi=>(i.zero,i.size,i.bytes))=some (some (.agg #[.int .u64 0,.int .u64 0,.int .u64 0,.int .u64 0]),4,32):=by kernel_rfl
structure FP(base b:Nat)(w w':World):Prop where
 os:w'.os=w.os
 tape:w'.tape=w.tape
 output:w'.output=w.output
 size:w.heap.size<=w'.heap.size
 block:∀k,k<w.heap.size->k≠b->(k<base\/∀cur fz,w.heap[k]?≠some (.cells cur 236 fz))->w'.heap[k]?=w.heap[k]?
theorem FP.refl(base b w):FP base b w w:=⟨rfl,rfl,rfl,a0b _,λ_ _ _ _=>rfl⟩
theorem FP.trans {base b z}(h:FP base b x y)(k:FP base b y z):FP base b x z :=
 ⟨k.os.trans h.os,k.tape.trans h.tape,k.output.trans h.output,a0h h.size k.size,λi c hb a=>by
   have e:=h.block i c hb a;refine(k.block i (a0t c h.size) hb ?_).trans e;rcases a with a|a
   .omega
   exact .inr (λcur fz=>by rw[e];exact a cur fz)⟩
def FP.Tk {base b w}(h:aB [b] w w'):FP base b w w':=⟨h.os,h.tape,h.output,h.size,λk a hb _=>h.block k a (by simpa using hb)⟩
theorem FP.aC {base b w}(h:FP base b x w)(f:aB [b] w w'):FP base b x w':=h.trans (.Tk f)
theorem FP.alloc {base b w}(h:FP base b x w)(o):FP base b x (w.alloc o):=h.aC zJ
theorem FP.drew {base b w}(h:FP base b x w):FP base b x w.drew:=⟨h.os,h.tape,h.output,h.size,h.block⟩
theorem FP.drewN {base b w}(n)(h:FP base b x w):FP base b x (w.drewN n):=⟨h.os,h.tape,h.output,h.size,h.block⟩
theorem FP.grown {base b:Nat}{w:World}(ho:w.ownsRow base 236 4 v n xs)(a:w.grownBy w' v.ownBlock):FP base b w w':=by
 refine⟨a.os,a.tape,a.output,a.size,λk d hb c=>a.block k d ?_⟩;intro e;have g:=ho.lt k e.symm;obtain⟨cur,fz,f⟩:=Ip ho k e.symm;rcases c with c|c
 .omega
 exact c cur fz f
def XB(w:World)(eb:Nat)(s:Nat):Prop:=w.heap[eb]?=some (.cells #[zI 0,.int .u64 (wd s 0),.int .u64 (wd s 1),.int .u64 (wd s 2),.int .u64 (wd s 3),zN,.pointer none,zI 0,zI 0] 239 (0,0))
def Cw(base b t l vs S s w)(h:PA w b t l vs)(c:BL base w vs S)(hb:b<base)(hz:base<=w.heap.size)(X:S.length<=1048576) :
 zF 172 #[zP b,bv s] w λe w'=>∃eb v,e=zR (zP eb)/\w.heap.size<=eb/\XB w' eb s/\PA w' b t l v/\BL base w' v (S++[s])/\FP base b w w':=by
 unfold bv;obtain⟨i,j,R⟩:=h;have c2:=j.c2;have G:=j.fz 2;have I:=j.lt;obtain⟨a,cap,rfl⟩:=aW c;obtain⟨C,D,L,J,N⟩:=info_parts asj;have O:∀(w:World) (eb:Nat),eb=w.heap.size->XB (w.alloc (.cells #[zI 0,.int .u64 (wd s 0),.int .u64 (wd s 1),.int .u64 (wd s 2),.int .u64 (wd s 3),zN,.pointer none,zI 0,zI 0] 239)) eb s:=by intro w _ e;subst e;exact bD _ _
 have P:S.flatMap Ea++[.int .u64 (wd s 0),.int .u64 (wd s 1),.int .u64 (wd s 2),.int .u64 (wd s 3)]=(S++[s]).flatMap Ea:=by simp[Ea]
 have n:Value.ownBlock (.slice a S.length cap)≠some b:=λe=>by have:=c.lt _ e;omega
 have H:Value.ownBlock (.slice a S.length cap)≠some w.heap.size:=λe=>by have:=c.lt _ e;omega
 generalize wd s 0=g at *;generalize wd s 1=s1 at *;generalize wd s 2=s2 at *;generalize wd s 3=f at *;have F:∀o k:Obj,((w.alloc o).alloc k).drew.frozen? (zB b 2)=false:=λo k=>(((((aB.refl [] w).alloc o).alloc k).drew).frozen I (by simp)).trans G;delta zF;go_in;go_wp2_with fail;go_region_law ((refine step_append_lies _ (by rfl) _ _ _ (by rfl) base 236 C _ 4 32 Tryz.underlying220 D L J N rfl (by omega) (.slice a S.length cap) S.length (S.flatMap Ea) (by rfl) (by exact(c.alloc _).alloc _) (zA (w.heap.size+1)) 1 1 [.int .u64 g,.int .u64 s1,.int .u64 s2,.int .u64 f] (by rfl) (by rfl) (World.news_of_block (cs:=#[.int .u64 g,.int .u64 s1,.int .u64 s2,.int .u64 f]) (t:=236) (fr:=(0,0)) (by exact Ik _ _ _)) (by simp[Value.oneCell']) (by omega) (by unfold maxLen;omega) (by omega) (by simp;omega) (w.heap.size+2) (by simp) ?_;intro m p r q d Z _;have c4:=(d.cell_far (zB b 2) (by simp;omega) (Ne.symm n));have x:=(d.frozen_far (zB b 2) (by simp;omega) (Ne.symm n))));all_goals
  have F4:=aB.fo d;have A:SB r w.heap.size g s1 s2 f:=((SB.new (w:=w) (b:=w.heap.size) rfl).aC (S:=[]) (zJ.drew) (by simp)).aC F4 (by simpa[a0H] using λe=>H e);have y:PS r b t i (.slice a S.length cap):=(j.aC (S:=[]) ((zJ.alloc _).drew) (by simp)).aC F4 (by simpa[a0H] using λe=>n e);have G4:=FP.trans (base:=base) (b:=b) (((FP.refl base b w).alloc _).alloc _).drew (FP.grown ((c.alloc _).alloc _) d);have B:=F4.size;simp at B;have M:=y.sets (zS m (S.length+1) p);have z:=A.far (b':=b) (o:=2) (zS m (S.length+1) p) (by omega);obtain⟨W,V,U,T⟩:=z.cells;clear d F4 A z y c4 x;go_wp2;go_ret;refine⟨_,_,rfl,?_,O _ _ (by simp),⟨i,M.aC zG (by simp),R⟩,?_,(G4.aC (zK.setCell (.inl (by simp)) _)).alloc _⟩
  .omega
  have u:=q;rw[P]at u;have:=ownsRow_setCell_below u (a:=(zB b 2)) hb (zS m (S.length+1) p);have E:=this.alloc (.cells #[zI 0,.int .u64 g,.int .u64 s1,.int .u64 s2,.int .u64 f,zN,.pointer none,zI 0,zI 0] 239);unfold BL;rw[a0p];exact E
theorem aht(s f):∀k,pU s f k=vg s f k
 | 0=>rfl
 | k+1=>by simp only[pU,vg,aht s f k]
theorem BL.aC {base w L}(h:BL base w v L)(f:aB S w w')(a:∀k,k∈S->k<base):BL base w' v L:=fG h f a
def aB.fresh{z}(h:aB S x y)(k:aB [n] y z)(c:x.heap.size<=n):aB S x z :=
 ⟨k.os.trans h.os,k.tape.trans h.tape,k.output.trans h.output,a0h h.size k.size,
  λi a b=>(k.block i (a0t a h.size) (by simp;omega)).trans (h.block i a b)⟩
def anb{w base e size}(h:w.ownsRow base e size v n xs)(f:aB S w w')
 (d:∀k,k∈S->v.ownBlock≠some k):w'.ownsRow base e size v n xs:=by
 refine⟨h.1,?_⟩;rcases h.2 with b|⟨g,cap,cur,rfl,hb,a,rest⟩
 .exact .inl b
 refine .inr ⟨g,cap,cur,rfl,hb,?_,rest⟩;rw[f.block g (a0c.1 a).1 (λc=>d g c (by simp[Value.ownBlock]))];omega
def SP(base b:Nat)(t:LB)(S:LN)(w:World)(p:Option (Nat × LB))(e:Ending)(w':World):Prop :=
 match p with
 | some (s,r)=>∃(eb:Nat) (a:Value),e=zR (zP eb)/\w.heap.size<=eb/\XB w' eb s/\PA w' b t r a/\BL base w' a (S++[s])/\FP base b w w'
 | none=>e=zR (.pointer none)/\(∃c a,PA w' b t c a)/\FP base b w w'
theorem PA.len {w b}(h:PA w b t l vs):l.length<=t.length/\t.length<=1048576:=by obtain⟨i,c,a⟩:=h;exact⟨by rw[<-a];simp,c.2.2⟩
def aaX(base b t l vs S w)(h:PA w b t l vs)(hs:BL base w vs S)(hb:b<base)(hz:base<=w.heap.size)(hS:S.length<=1000000) :
 zF 171 #[zP b] w λe w'=>SP base b t S w (nT l) e w':=by
 have jE:b<w.heap.size:=by omega
 delta zF;go_in;go_wp2_with fail;refine(jI _ _ _ _ 94 _ h).mono ?_;rintro e w1 ⟨rfl,P1,F1⟩;have Z:=F1.size;obtain⟨m,P⟩:∃m,m=rs 94 l:=⟨_,rfl⟩;have J:nT l=match fE (l.length+1) 0 m with | none=>none|some (s,r)=>some (if tk 94 l then s ^^^ fU else s,r):=by
  unfold nT;rw[<-jw,P];cases F:tk 94 l
  .rw[wU F];simp only[a0A,a0I];cases fE (l.length+1) 0 l with
   | none=>rfl
   | some x=>obtain⟨s,r⟩:=x;rfl
  rw[vE F];rfl
 have hll:m.length<=l.length:=by rw[P];unfold rs;split<;>simp
 rw[<-P]at P1;clear P;generalize tk 94 l=ot at *;go_wp2_with fail;go_loopg [5] (l.length+2) (λk ve wr=>∃(s':Nat) (g:LB) (U:Bool),ve=.bool U/\SB wr w1.heap.size (wd s' 0) (wd s' 1) (wd s' 2) (wd s' 3)/\PA wr b t g vs/\aB [b] w wr/\s'<2 ^ 256/\w1.heap.size<wr.heap.size /\
  (if U then fE (l.length+1) 0 m=some (s',g) else (∃E,k=E+1/\g.length+1<=E/\fE E s' g=fE (l.length+1) 0 m)))
 case atStart =>
  refine⟨0,m,false,rfl,?_,P1.aC zG (by simp),F1.alloc _,by decide,by simp,?_⟩
  .have:wd 0 0=0/\wd 0 1=0/\wd 0 2=0/\wd 0 3=0:=by decide
   rw[this.1,this.2.1,this.2.2.1,this.2.2.2];exact SB.new rfl
  simp only[a0A,a0I];exact⟨_,rfl,by omega,rfl⟩
 case round =>
  obtain⟨s',g,U,rfl,d,j,F2,JU,_,i⟩:=hrel;cases U
  case false =>
   simp only[a0A,a0I]at i;obtain⟨E,_,_,Vo⟩:=i;obtain⟨k2,rfl⟩:∃k2,E=k2+1:=⟨E-1,by omega⟩;have I:fE (l.length+1) 0 m=match tN g with | none=>none|some ((a,b),r)=>if bA 93 r then some (addRange s' a b,r.tail) else fE k2 (addRange s' a b) r:=by rw[<-Vo];rfl
   clear Vo;go_wp2_with fail;refine(acs b t g vs wr j).mono ?_;rintro e w3 ⟨a,c,ok,n,rfl,P3,V,o⟩;have F3:=F2.trans V;have B3:=(d.aC V (by simp;omega));have:=V.size;clear V d;cases u:tN g with
   | none =>
     rw[u]at o I;obtain rfl:ok=false:=o;have z:nT l=none:=by rw[J,I]
     go_wp2;go_ret;rw[z];exact⟨rfl,⟨_,_,P3⟩,.Tk F3⟩
   | some x =>
     obtain⟨⟨x,y⟩,r⟩:=x;have:=BZ u;rw[u]at o I;obtain⟨rfl,rfl,rfl,rfl⟩:a=x/\c=y/\ok=true/\n=r:=o;have:=a.toNat_lt;have ZP:=c.toNat_lt;have X:pU s' a.toNat (c.toNat+1-a.toNat)=addRange s' a c:=by rw[aht];rfl
     have ng:=Rq JU a c;go_wp2_with fail;refine(aaW w1.heap.size s' a.toNat c.toNat w3 (by omega) (by omega) B3).mono ?_;rintro e w4 ⟨rfl,B4,R⟩;rw[X]at B4;have P4:=(P3.aC R (by simp;omega));have F4:=F3.fresh R Z;have z4:=R.size;clear R;generalize addRange s' a c=O at *;go_wp2_with fail;refine(jI b t n vs 93 w4 P4).mono ?_;rintro e N ⟨rfl,q,f⟩;have M:=(B4.aC f (by simp;omega));have F5:=F4.trans f;have z5:=f.size;clear f;have Yv:(rs 93 n).length<=n.length:=by unfold rs;split<;>simp
     cases T:tk 93 n
     .have v:fE (l.length+1) 0 m=fE k2 O n:=by rw[I];simp only[<-jw,T];rfl
      rw[wU T]at q;go_wp2;go_roundg (gk-1);case measure=>omega
      case rel=>refine⟨O,n,false,rfl,M,q,F5,ng,by omega,?_⟩;simp only[a0A,a0I];exact⟨k2,by omega,by omega,v.symm⟩
     have v:fE (l.length+1) 0 m=some (O,n.tail):=by rw[I];simp only[<-jw,T];rfl
     rw[vE T]at q;have q:=q;go_wp2;go_roundg (gk-1);case measure=>omega
     case rel=>refine⟨O,n.tail,true,rfl,M,q,F5,ng,by omega,?_⟩;simp only[a0G];exact v
  case true =>
   simp only[a0G]at i;have z:nT l=some (if ot then s' ^^^ fU else s',g):=by rw[J,i]
   have H:S.length<=1048576:=by omega
   have L:=(hs.aC F2 (by simp;omega));have gD:base<=wr.heap.size:=by omega
   have j:=j;have d:=d;clear i;obtain⟨q0,q1,q2,q3⟩:=d.cells;cases ot
   focus
    go_wp2_with fail;refine(Cw base b t g vs S s' wr j L hb gD H).mono ?_;rintro e w6 ⟨eb,iN,rfl,G,X6,P6,L6,W⟩;have G6:=(FP.Tk (base:=base) F2).trans W
   rotate_left;have HQ:∀(w:World),zF 173 #[.agg #[.int .u64 (wd s' 0),.int .u64 (wd s' 1),.int .u64 (wd s' 2),.int .u64 (wd s' 3)]] w λe w'=>e=zR (.agg #[.int .u64 (wd (s' ^^^ fU) 0),.int .u64 (wd (s' ^^^ fU) 1),.int .u64 (wd (s' ^^^ fU) 2),.int .u64 (wd (s' ^^^ fU) 3)])/\aB [] w w':=λw=>WY s' w;go_wp2_with fail;refine(HQ wr).mono ?_;rintro e N ⟨rfl,f⟩;have M:=d.aC f (by simp);have q:=j.aC f (by simp);have S5:=L.aC f (by simp);have F5:=F2.trans (f.mono (by simp));have:=f.size;obtain⟨_,_,_,_⟩:=M.cells;have:=M.fz;clear f;have Y:∀D C B A:Value,aB [w1.heap.size] N ((((N.setCell (zA w1.heap.size) D).setCell (zB w1.heap.size 1) C).setCell (zB w1.heap.size 2) B).setCell (zB w1.heap.size 3) A):=λD C B A=>((((aB.refl [w1.heap.size] N).setCell (p:=(zA w1.heap.size)) (.inl (by simp)) D).setCell (p:=(zB w1.heap.size 1)) (.inl (by simp)) C).setCell (p:=(zB w1.heap.size 2)) (.inl (by simp)) B).setCell (p:=(zB w1.heap.size 3)) (.inl (by simp)) A;have U6:=(λD C B A=>Cw base b t g vs S (s' ^^^ fU) _ (q.aC (Y D C B A) (by simp;omega)) (anb S5 (Y D C B A) (by intro k F e;simp at F;subst F;have:=hs.lt _ e;omega)) hb (by simp;omega) H);generalize s' ^^^ fU=s6 at *;go_wp2_with fail;refine(U6 _ _ _ _).mono ?_;rintro e _ ⟨eb,iN,rfl,G,X6,P6,L6,W⟩;have G6:=(FP.Tk (base:=base) (F5.fresh (Y _ _ _ _) Z)).trans W;simp at G;all_goals
    clear W;go_wp2;go_ret;rw[z];exact⟨eb,iN,rfl,by omega,X6,P6,L6,G6⟩
def XN(w:World)(eb:Nat)(k:Int)(v:Value):Prop:=w.heap[eb]?=some (.cells #[zI k,.int .u64 0,.int .u64 0,.int .u64 0,.int .u64 0,v,.pointer none,zI 0,zI 0] 239 (0,0))
def XW(w:World)(eb q:Nat)(lo a:Int):Prop:=w.heap[eb]?=some (.cells #[zI 3,.int .u64 0,.int .u64 0,.int .u64 0,.int .u64 0,zN,zP q,zI lo,zI a] 239 (0,0))
def pv(a:LN):List Value:=a.map λp=>zP p
def XV(A:Nat->Prop)(w:World)(v:Value)(a:LN):Prop:=w.ownsRow 0 223 1 v a.length (pv a)/\(∀k,v.ownBlock=some k->A k)/\a.length<=1000
mutual
def XR(A:Nat->Prop)(w:World):Nat->RX->Prop
 | p,.one s=>A p/\XB w p s
 | p,.seq l=>A p/\∃v a,XN w p 1 v/\XV A w v a/\mD A w a l
 | p,.alt l=>A p/\∃v a,XN w p 2 v/\XV A w v a/\mD A w a l
 | p,.rep x lo b=>A p/\∃q,XW w p q lo (Yt b)/\XR A w q x
def mD(A:Nat->Prop)(w:World):LN->List RX->Prop
 | [],[]=>True
 | p::a,x::l=>XR A w p x/\mD A w a l
 | _,_=>False
end
def pO(A:Nat->Prop)(w w':World):Prop:=∀k,A k->(∃cur fz,w.heap[k]?=some (.cells cur 239 fz)\/w.heap[k]?=some (.cells cur 223 fz))->w'.heap[k]?=w.heap[k]?
theorem XV.aY {A w a}(h:XV A w v a)(k:pO A w w'):XV A w' v a:=by
 refine⟨⟨h.1.1,?_⟩,h.2⟩;rcases h.1.2 with c|⟨g,cap,cur,rfl,hb,b,rest⟩
 .exact .inl c
 exact .inr ⟨g,cap,cur,rfl,hb,(k g (h.2.1 g rfl) ⟨cur,_,.inr b⟩).trans b,rest⟩
mutual
theorem XR.aY {A:Nat->Prop}{w:World}(k:pO A w w'):∀{p:Nat} {x:RX},XR A w p x->XR A w' p x
 | p,.one s,h=>by simp only[XR]at h |-;exact⟨h.1,(k p h.1 ⟨_,_,.inl h.2⟩).trans h.2⟩
 | p,.seq l,h=>by simp only[XR]at h |-;obtain⟨b,v,d,a,c,e⟩:=h;exact⟨b,v,d,(k p b ⟨_,_,.inl a⟩).trans a,c.aY k,mD.aY k e⟩
 | p,.alt l,h=>by simp only[XR]at h |-;obtain⟨b,v,d,a,c,e⟩:=h;exact⟨b,v,d,(k p b ⟨_,_,.inl a⟩).trans a,c.aY k,mD.aY k e⟩
 | p,.rep x lo f,h=>by simp only[XR]at h |-;obtain⟨b,q,a,c⟩:=h;exact⟨b,q,(k p b ⟨_,_,.inl a⟩).trans a,XR.aY k c⟩
theorem mD.aY {A:Nat->Prop}{w:World}(k:pO A w w'):∀{a:LN} {l:List RX},mD A w a l->mD A w' a l
 | [],[],_=>by simp only[mD]
 | p::a,x::l,h=>by simp only[mD]at h |-;exact⟨XR.aY k h.1,mD.aY k h.2⟩
 | [],_::_,h=>by simp only[mD]at h
 | _::_,[],h=>by simp only[mD]at h
end
mutual
theorem XR.mono {A B:Nat->Prop} {w:World}(k:∀n,A n->B n):∀{p:Nat} {x:RX},XR A w p x->XR B w p x
 | p,.one s,h=>by simp only[XR]at h |-;exact⟨k p h.1,h.2⟩
 | p,.seq l,h=>by simp only[XR]at h |-;obtain⟨c,v,d,b,a,f⟩:=h;exact⟨k p c,v,d,b,⟨a.1,λn e=>k n (a.2.1 n e),a.2.2⟩,mD.mono k f⟩
 | p,.alt l,h=>by simp only[XR]at h |-;obtain⟨c,v,d,b,a,f⟩:=h;exact⟨k p c,v,d,b,⟨a.1,λn e=>k n (a.2.1 n e),a.2.2⟩,mD.mono k f⟩
 | p,.rep x lo g,h=>by simp only[XR]at h |-;obtain⟨c,q,b,a⟩:=h;exact⟨k p c,q,b,XR.mono k a⟩
theorem mD.mono {A B:Nat->Prop} {w:World}(k:∀n,A n->B n):∀{a:LN} {l:List RX},mD A w a l->mD B w a l
 | [],[],_=>by simp only[mD]
 | p::a,x::l,h=>by simp only[mD]at h |-;exact⟨XR.mono k h.1,mD.mono k h.2⟩
 | [],_::_,h=>by simp only[mD]at h
 | _::_,[],h=>by simp only[mD]at h
end
theorem mD.snoc {A w}:∀{a l p x},mD A w a l->XR A w p x->mD A w (a++[p]) (l++[x])
 | [],[],p,x,_,h=>by simp only[a0V,mD];exact⟨h,trivial⟩
 | q::a,y::l,p,x,h,b=>by simp_all[mD,mD.snoc]
 | [],_::_,p,x,h,_=>by simp only[mD]at h
 | _::_,[],p,x,h,_=>by simp only[mD]at h
theorem mD.len {A w}:∀{a l},mD A w a l->a.length=l.length
 | [],[],_=>rfl
 | p::a,x::l,h=>by simp only[mD]at h;simp[mD.len h.2]
 | [],_::_,h=>by simp only[mD]at h
 | _::_,[],h=>by simp only[mD]at h
theorem pO.aC {A w}(f:aB S w w')(b:∀k,A k->k<w.heap.size/\k∉S):pO A w w' :=
 λk a _=>f.block k (b k a).1 (b k a).2
def pO.fp {A base b w}(f:FP base b w w')(d:∀k,A k->k<w.heap.size/\k≠b):pO A w w':=by intro k a ⟨cur,fz,h⟩;refine f.block k (d k a).1 (d k a).2 (.inr ?_);intro c g e;rcases h with h|h<;>rw[h]at e<;>simp at e
def FP.fresh{base b z}(h:FP base b x y)(k:aB [n] y z)(d:x.heap.size<=n):FP base b x z :=
 ⟨k.os.trans h.os,k.tape.trans h.tape,k.output.trans h.output,a0h h.size k.size,
  λi a hb c=>(k.block i (a0t a h.size) (by simp;omega)).trans (h.block i a hb c)⟩
def XP(base b:Nat)(t:LB)(S:LN)(w:World)(p:Option (RX × LB))(e:Ending)(w':World):Prop :=
 match p with
 | some (x,r)=>∃(eb:Nat) (a:Value),e=zR (zP eb)/\XR (λk=>w.heap.size<=k/\k<w'.heap.size) w' eb x/\PA w' b t r a/\BL base w' a (S++dB x)/\FP base b w w'
 | none=>e=zR (.pointer none)/\(∃c a,PA w' b t c a)/\FP base b w w'
theorem XB.lt {w eb s}(h:XB w eb s):eb<w.heap.size:=(a0c.1 h).1
def SP.xp {base b w p e}(h:SP base b t S w p e w'):XP base b t S w (p.map λx=>(.one x.1,x.2)) e w':=by
 cases p with
 | none=>exact h
 | some x=>obtain⟨s,r⟩:=x;obtain⟨eb,c,j,i,a,g,f,d⟩:=h;refine⟨eb,c,j,?_,g,f,d⟩;simp only[XR];exact⟨⟨i,a.lt⟩,a⟩
end
section
variable {b cap eb j n q s:Nat} {l l' t:LB} {L S ps:LN} {w w':World} {e e2:TypeId} {hi k:Int} {ops:Array Oper} {rest:List Oper} {a:Act} {y:RX} {v v2 iN:Value} {acc:List RX} {xs xs2:List Value}
def alA(k:Nat):Prop:=∀(base b nest:Nat) (t l:LB) (vs:Value) (S:LN) (w:World),PA w b t l vs->BL base w vs S->b<base->base<=w.heap.size->S.length+l.length<=100->nest<=5->4*l.length+4<=k ->
 zF 130 #[zP b,zI nest] w λe w'=>XP base b t S w (iQ k nest [] l) e w'
def alB(k:Nat):Prop:=∀(base b nest:Nat) (t l:LB) (vs:Value) (S:LN) (w:World),PA w b t l vs->BL base w vs S->b<base->base<=w.heap.size->S.length+l.length<=100->nest<=5->4*l.length+3<=k ->
 zF 140 #[zP b,zI nest] w λe w'=>XP base b t S w (jF k nest [] l) e w'
def afl(k:Nat):Prop:=∀(base b nest:Nat) (t l:LB) (vs:Value) (S:LN) (w:World),PA w b t l vs->BL base w vs S->b<base->base<=w.heap.size->S.length+l.length<=100->nest<=5->4*l.length+2<=k ->
 zF 158 #[zP b,zI nest] w λe w'=>XP base b t S w (ik k nest l) e w'
def ak4(k nest:Nat)(l:LB):Option (RX × LB) :=
 if 5<=nest then none else match iQ k (nest+1) [] l with | none=>none|some (x,r2)=>if bA 41 r2 then some (x,r2.tail) else none
def XP.fpl{base a p e}(h:XP base b t S a p e w')(f:FP base b w a)(hb:b<w.heap.size):XP base b t S w p e w':=by
 cases p with
 | none=>exact⟨h.1,h.2.1,f.trans h.2.2⟩
 | some x=>obtain⟨x,r⟩:=x;obtain⟨eb,iN,k,j,i,g,d⟩:=h;exact⟨eb,iN,k,j.mono (λn c=>⟨a0h f.size c.1,c.2⟩),i,g,f.trans d⟩
def aaY {k}(hC:alA k)(base b nest:Nat)(t l vs S w)(h:PA w b t l vs)(q:BL base w vs S)(hb:b<base)(hz:base<=w.heap.size)(u:S.length+l.length<=100)(f:nest<=5)(s:4*l.length+4<=k) :
 zF 170 #[zP b,zI nest] w λe w'=>XP base b t S w (ak4 k nest l) e w':=by
 by_cases p:5<=nest
 .have d:ak4 k nest l=none:=by unfold ak4;rw[a0m p]
  delta zF;go_in;go_wp2;go_ret;rw[d];exact⟨rfl,⟨_,_,h⟩,FP.refl _ _ _⟩
 have d:ak4 k nest l=match iQ k (nest+1) [] l with | none=>none|some (x,r2)=>if bA 41 r2 then some (x,r2.tail) else none:=by unfold ak4;rw[a0n p]
 have z:=hC base b (nest+1) t l vs S w h q hb hz u (by omega) s;delta zF;go_in;go_wp2_with fail;refine z.mono ?_;intro e m g;cases o:iQ k (nest+1) [] l with
 | none =>
   rw[o]at g d;obtain⟨rfl,⟨l',iN,i⟩,F1⟩:=g;go_wp2_with fail;refine(jI b t l' iN 41 m i).mono ?_;rintro e j ⟨rfl,c,a⟩;have F2:=F1.aC a;clear a;cases tk 41 l';all_goals
    go_wp2;go_ret;rw[d];exact⟨rfl,⟨_,_,c⟩,F2⟩
 | some x =>
   obtain⟨x,r⟩:=x;rw[o]at g d;obtain⟨eb,iN,rfl,y,i,C,F1⟩:=g;have E:b<w.heap.size:=by omega
   have D:=F1.size;go_wp2_with fail;refine(jI b t r iN 41 m i).mono ?_;rintro e j ⟨rfl,c,a⟩;have v:=((y.aY (pO.aC a (λn f=>⟨f.2,by simp;omega⟩))).mono (B:=λn=>w.heap.size<=n/\n<j.heap.size) (λn f=>⟨f.1,a0t f.2 a.size⟩));have A:=(C.aC a (by simp;omega));have F2:=F1.aC a;clear a;cases k2:tk 41 r
   .rw[jw]at k2;go_wp2;go_ret;rw[d];simp only[k2];exact⟨rfl,⟨_,_,c⟩,F2⟩
   rw[vE k2]at c;have c:=c;rw[jw]at k2;go_wp2;go_ret;rw[d];simp only[k2];exact⟨eb,iN,rfl,v,c,A,F2⟩
def ahu(k nest c r):ik (k+1) nest (c::r) =
 if c==40 then ak4 k nest r
 else if c==91 then (nT r).map (λx=>(.one x.1,x.2))
 else if c==46 then some (.one fU,r)
 else if c==92 then (match r with | []=>none|d::r2=>some (.one (2 ^ d.toNat),r2))
 else if iI c then none
 else some (.one (2 ^ c.toNat),r):=by
 conv=>lhs;unfold ik
 simp only[];split
 .rfl
 split
 .cases nT r with
  | none=>rfl
  | some x=>obtain⟨s,q⟩:=x;rfl
 rfl
theorem adA(c):pU 0 c (c+1-c)=2 ^ c:=by rw[show c+1-c=1 by omega];simp[pU]
def BF{base e}
 (h:∃(eb:Nat) (iN:Value),e=zR (zP eb)/\w.heap.size<=eb/\XB w' eb s/\PA w' b t l iN/\BL base w' iN (S++[s])/\FP base b w w'):XP base b t S w (some (.one s,l)) e w' :=
 SP.xp (p:=some (s,l)) h
def rT:wd 0 0=0/\wd 0 1=0/\wd 0 2=0/\wd 0 3=0:=by decide
def XP.ret{base p e}(h:XP base b t S w p e w'):∃q,e=zR (.pointer q):=by
 cases p with
 | none=>exact⟨_,h.1⟩
 | some x=>obtain⟨eb,iN,a,_⟩:=h;exact⟨_,a⟩
def afm(w):zF 173 #[.agg #[.int .u64 0,.int .u64 0,.int .u64 0,.int .u64 0]] w λe w'=>e=zR (bv fU)/\aB [] w w':=by
 have h:=WY 0 w;unfold bv at h;rw[rT.1,rT.2.1,rT.2.2.1,rT.2.2.2]at h;have e:aly 0=fU:=by decide
 rw[e]at h;exact h
def Oy {k}(hC:alA k):afl (k+1):=by
 intro base b nest t l vs S w H HS hb _ hS hn hk;have V:b<w.heap.size:=by omega
 delta zF;go_in;go_wp2_with fail;refine(Bj _ _ _ _ _ H).mono ?_;rintro e I ⟨rfl,y,aZ⟩;have X:=(HS.aC aZ (by simp;omega));have F1:=FP.Tk (base:=base) aZ;have:=aZ.size;cases l with
 | nil=>go_wp2;go_ret;exact⟨rfl,⟨_,_,y⟩,F1⟩
 | cons c r =>
   have f:=ahu k nest c r;simp only[a1L]at y;simp only[a0r]at hS hk;rw[JQ];have M:=Iy c 40 (by omega);have W:=Iy c 91 (by omega);have A:=Iy c 46 (by omega);have R:=Iy c 92 (by omega);have v:=Iy c 41 (by omega);have J:=Iy c 124 (by omega);have i:=Iy c 42 (by omega);have h:=Iy c 43 (by omega);have g:=Iy c 63 (by omega);have C:=Iy c 123 (by omega);have a:=Iy c 125 (by omega);have z:=Iy c 93 (by omega);have:=c.toNat_lt;cases UZ:(c==40)
   case true =>
    have:((c.toNat:Int)==40)=true:=M.trans UZ;rw[UZ]at f;have G:=aaY hC base b nest t r vs S I y X hb (by omega) (by omega) hn (by omega);go_wp2_with fail;refine G.mono ?_;intro e E m;have X2:=m.fpl F1 V;obtain⟨q,rfl⟩:=m.ret;go_wp2;go_ret;rw[f];exact X2
   have:((c.toNat:Int)==40)=false:=M.trans UZ;rw[UZ]at f;cases Sc:(c==91)
   case true =>
    have:((c.toNat:Int)==91)=true:=W.trans Sc;rw[Sc]at f;have G:=aaX base b t r vs S I y X hb (by omega) (by omega);go_wp2_with fail;refine G.mono ?_;intro e E m;obtain⟨q,rfl⟩:=m.xp.ret;go_wp2;go_ret;rw[f];exact m.xp.fpl F1 V
   have:((c.toNat:Int)==91)=false:=W.trans Sc;rw[Sc]at f;cases Sd:(c==46)
   case true =>
    have:((c.toNat:Int)==46)=true:=A.trans Sd;rw[Sd]at f;go_wp2_with fail;refine(afm _).mono ?_;rintro e E ⟨rfl,N⟩;have u:aB [] I E:=zJ.trans N;have G:=(Cw base b t r vs S fU E (y.aC u (by simp)) (X.aC u (by simp)) hb (by have:=u.size;omega) (by omega));have F2:=F1.aC (u.mono (by simp));go_wp2_with fail;refine G.mono ?_;intro e _ m;obtain⟨q,rfl⟩:=(BF m).ret;go_wp2;go_ret;rw[f];exact (BF m).fpl F2 V
   have:((c.toNat:Int)==46)=false:=A.trans Sd;rw[Sd]at f;cases Z:(c==92)
   case true =>
    have:((c.toNat:Int)==92)=true:=R.trans Z;rw[Z]at f;go_wp2_with fail;refine(Bj b t r vs I y).mono ?_;rintro e E ⟨rfl,P2,N⟩;have F2:=F1.aC N;have:=N.size;cases r with
    | nil=>go_wp2;go_ret;rw[f];exact⟨rfl,⟨_,_,P2⟩,F2⟩
    | cons d r2 =>
      rw[JQ];have:=d.toNat_lt;simp only[a1L]at P2;simp only[a0r]at hS;have P:∀o,o=Obj.cells #[.int .u64 0,.int .u64 0,.int .u64 0,.int .u64 0] 236->SB (E.alloc o) E.heap.size (wd 0 0) (wd 0 1) (wd 0 2) (wd 0 3):=by intro o ho;rw[ho,rT.1,rT.2.1,rT.2.2.1,rT.2.2.2];exact SB.new rfl
      go_wp2_with fail;refine(aaW E.heap.size 0 d.toNat d.toNat _ (by omega) (by omega) (P _ rfl)).mono ?_;rintro e T ⟨rfl,O,U⟩;rw[adA]at O;have u:aB [] E T:=((aB.refl [] E).alloc _).fresh U (a0b _);have G:=(Cw base b t r2 vs S (2 ^ d.toNat) T (P2.aC u (by simp)) ((X.aC N (by simp;omega)).aC u (by simp)) hb (by have:=u.size;omega) (by omega));have F4:=F2.aC (u.mono (by simp));obtain⟨_,_,_,_⟩:=O.cells;go_wp2_with fail;refine G.mono ?_;intro e _ m;have X5:=(BF m).fpl F4 V;obtain⟨q,rfl⟩:=(BF m).ret;go_wp2;go_ret;rw[f];exact X5
   have:((c.toNat:Int)==92)=false:=R.trans Z;rw[Z]at f;have n:iI c=(c==41||c==124||c==42||c==43||c==63||c==123||c==125||c==93):=rfl;cases D:(c==41)
   case true =>
    have:((c.toNat:Int)==41)=true:=v.trans D;have p:iI c=true:=by rw[n,D];rfl
    rw[p]at f;go_wp2;go_ret;rw[f];exact⟨rfl,⟨_,_,y⟩,F1⟩
   have:((c.toNat:Int)==41)=false:=v.trans D;cases F:(c==124)
   case true =>
    have:((c.toNat:Int)==124)=true:=J.trans F;have p:iI c=true:=by rw[n,D,F];rfl
    rw[p]at f;go_wp2;go_ret;rw[f];exact⟨rfl,⟨_,_,y⟩,F1⟩
   have:((c.toNat:Int)==124)=false:=J.trans F;cases j:(c==42)
   case true =>
    have:((c.toNat:Int)==42)=true:=i.trans j;have p:iI c=true:=by rw[n,D,F,j];rfl
    rw[p]at f;go_wp2;go_ret;rw[f];exact⟨rfl,⟨_,_,y⟩,F1⟩
   have:((c.toNat:Int)==42)=false:=i.trans j;cases s:(c==43)
   case true =>
    have:((c.toNat:Int)==43)=true:=h.trans s;have p:iI c=true:=by rw[n,D,F,j,s];rfl
    rw[p]at f;go_wp2;go_ret;rw[f];exact⟨rfl,⟨_,_,y⟩,F1⟩
   have:((c.toNat:Int)==43)=false:=h.trans s;cases x:(c==63)
   case true =>
    have:((c.toNat:Int)==63)=true:=g.trans x;have p:iI c=true:=by rw[n,D,F,j,s,x];rfl
    rw[p]at f;go_wp2;go_ret;rw[f];exact⟨rfl,⟨_,_,y⟩,F1⟩
   have:((c.toNat:Int)==63)=false:=g.trans x;cases B:(c==123)
   case true =>
    have:((c.toNat:Int)==123)=true:=C.trans B;have p:iI c=true:=by rw[n,D,F,j,s,x,B];rfl
    rw[p]at f;go_wp2;go_ret;rw[f];exact⟨rfl,⟨_,_,y⟩,F1⟩
   have:((c.toNat:Int)==123)=false:=C.trans B;cases Y:(c==125)
   case true =>
    have:((c.toNat:Int)==125)=true:=a.trans Y;have p:iI c=true:=by rw[n,D,F,j,s,x,B,Y];rfl
    rw[p]at f;go_wp2;go_ret;rw[f];exact⟨rfl,⟨_,_,y⟩,F1⟩
   have:((c.toNat:Int)==125)=false:=a.trans Y;cases L:(c==93)
   case true =>
    have:((c.toNat:Int)==93)=true:=z.trans L;have p:iI c=true:=by rw[n,D,F,j,s,x,B,Y,L];rfl
    rw[p]at f;go_wp2;go_ret;rw[f];exact⟨rfl,⟨_,_,y⟩,F1⟩
   have:((c.toNat:Int)==93)=false:=z.trans L;have p:iI c=false:=by rw[n,D,F,j,s,x,B,Y,L];rfl
   rw[p]at f;have P:∀o,o=Obj.cells #[.int .u64 0,.int .u64 0,.int .u64 0,.int .u64 0] 236->SB (I.alloc o) I.heap.size (wd 0 0) (wd 0 1) (wd 0 2) (wd 0 3):=by intro o ho;rw[ho,rT.1,rT.2.1,rT.2.2.1,rT.2.2.2];exact SB.new rfl
   go_wp2_with fail;refine(aaW I.heap.size 0 c.toNat c.toNat _ (by omega) (by omega) (P _ rfl)).mono ?_;rintro e T ⟨rfl,O,U⟩;rw[adA]at O;have u:aB [] I T:=((aB.refl [] I).alloc _).fresh U (a0b _);obtain⟨_,_,_,_⟩:=O.cells;go_wp2_with fail;refine (Cw base b t r vs S (2 ^ c.toNat) T (y.aC u (by simp)) (X.aC u (by simp)) hb (by have:=u.size;omega) (by omega)).mono ?_;intro e _ m;have X5:=(BF m).fpl (F1.aC (u.mono (by simp))) V;obtain⟨q,rfl⟩:=(BF m).ret;go_wp2;go_ret;rw[f];exact X5
def mE(k nest:Nat)(l:LB):Option (RX × LB) :=
 match ik k nest l with
 | none=>none
 | some (x,r)=>dQ (r.length+1) x r
def ati(k:Nat):Prop:=∀(base b nest:Nat) (t l:LB) (vs:Value) (S:LN) (w:World),PA w b t l vs->BL base w vs S->b<base->base<=w.heap.size->S.length+l.length<=100->nest<=5->4*l.length+2<=k ->
 zF 150 #[zP b,zI nest] w λe w'=>XP base b t S w (mE k nest l) e w'
def XW.new{lo}(h:eb=w.heap.size):XW (w.alloc (.cells #[zI 3,.int .u64 0,.int .u64 0,.int .u64 0,.int .u64 0,zN,zP q,zI lo,zI hi] 239)) eb q lo hi:=by subst h;exact bD w _
def Tm {k}(Y:afl k):ati k:=by
 intro base b nest t l vs S w h M hb hz X c W;have A1:=Y base b nest t l vs S w h M hb hz X c W;have:b<w.heap.size:=by omega
 clear h M;delta zF;go_in;go_wp2_with fail;refine A1.mono ?_;intro e T A;cases C:ik k nest l with
 | none =>
   have E:mE k nest l=none:=by unfold mE;rw[C]
   rw[C]at A;obtain⟨rfl,⟨l',iN,f⟩,F1⟩:=A;obtain⟨G,J⟩:∃G:Option Addr,G=none:=⟨_,rfl⟩;rw[<-J];go_wp2_with fail;go_loopg [5] 1 (λk F wr=>k=1/\F=.pointer G/\wr=T);exact⟨rfl,by rw[J],rfl⟩
   .obtain⟨H,rfl,rfl⟩:=hrel;go_wp2;go_ret;rw[E];exact⟨by subst J;rfl,⟨_,_,f⟩,F1⟩
 | some x =>
   obtain⟨x,r⟩:=x;have E:mE k nest l=dQ (r.length+1) x r:=by unfold mE;rw[C]
   rw[C]at A;obtain⟨eb,iN,rfl,o,f,u,F1⟩:=A;go_wp2_with fail;go_loopg [5] (r.length+2) (λk F wr=>∃(q:Nat) (y:RX) (l':LB) (i:Nat),k=i+1/\l'.length+1<=i/\F=zP q/\XR (λn=>w.heap.size<=n/\n<wr.heap.size) wr q y/\dB y=dB x/\PA wr b t l' iN/\BL base wr iN (S++dB x)/\FP base b w wr/\dQ i y l'=dQ (r.length+1) x r);exact⟨eb,x,r,r.length+1,rfl,a0b _,rfl,o,rfl,f,u,F1,rfl⟩
   .clear o f u F1;obtain⟨q,y,l',i,H,_,rfl,o,p,f,u,F1,R⟩:=hrel;obtain⟨k2,rfl⟩:∃k2,i=k2+1:=⟨i-1,by omega⟩;have s:dQ (r.length+1) x r=if DK l' then (match DJ l' with | none=>none|some (b,r)=>dQ k2 (.rep y b.1 b.2) r) else some (y,l'):=by rw[<-R];rfl
    have:=F1.size;clear R;go_wp2_with fail;refine(Tj _ _ _ _ _ f).mono ?_;rintro e _ ⟨rfl,z,rfl⟩;cases N:DK l'
    .have j:dQ (r.length+1) x r=some (y,l'):=by rw[s,N];rfl
     go_wp2;go_ret;rw[E,j];refine⟨q,iN,rfl,?_,f.drewN _,?_,F1.drewN _⟩
     .exact(o.aY (pO.aC ((aB.refl [] wr).drewN z) (λn c=>⟨c.2,by simp⟩))).mono (λn c=>c)
     rw[p];exact u
    have j:dQ (r.length+1) x r=match DJ l' with | none=>none|some (b,r)=>dQ k2 (.rep y b.1 b.2) r:=by rw[s,N];rfl
    go_wp2_with fail;refine(Oa b t l' iN (wr.drewN z) (f.drewN z)).mono ?_;rintro e v ⟨a,m,ok,L,rfl,P,O,D⟩;have d:aB [b] wr v:=((aB.refl [b] wr).drewN z).trans O;have Z:=((o.aY (pO.aC d (λn c=>⟨c.2,by simp;omega⟩))).mono (B:=λn=>w.heap.size<=n/\n<v.heap.size) (λn c=>⟨c.1,a0t c.2 d.size⟩));have B3:=(u.aC d (by simp;omega));have F3:=F1.aC d;have:=d.size;clear O d;cases I:DJ l' with
    | none=>rw[I]at D j;obtain rfl:ok=false:=D;go_wp2;go_ret;rw[E,j];exact⟨rfl,⟨_,_,P⟩,F3⟩
    | some br =>
      obtain⟨⟨lo,hi⟩,U⟩:=br;have hlen:=(E9 I).1;have:=vU lo hi;rw[I]at D j;obtain⟨rfl,rfl,rfl,rfl⟩:a=lo/\m=Yt hi/\ok=true/\L=U:=D;simp only at hlen;go_wp2;go_roundg (gk-1)
      .have g:=(aB.refl [] v).alloc (.cells #[zI 3,.int .u64 0,.int .u64 0,.int .u64 0,.int .u64 0,zN,zP q,zI lo,zI (Yt hi)] 239);refine⟨v.heap.size,.rep y lo hi,L,k2,by omega,by omega,rfl,?_,p,P.aC g (by simp),B3.aC g (by simp),F3.alloc _,j.symm⟩;simp only[XR];refine⟨⟨by omega,by simp⟩,q,XW.new rfl,?_⟩;exact(Z.aY (pO.aC g (λn c=>⟨c.2,by simp⟩))).mono (λn c=>⟨c.1,by simp;omega⟩)
      omega
def asn:(Tryz.prog.info? 223).map (λi=>(i.zero,i.size,i.bytes))=some (some (.pointer none),1,8):=by kernel_rfl
def LX(base:Nat)(w:World)(v:Value)(ps:LN):Prop:=w.ownsRow base 223 1 v ps.length (pv ps)
def aaZ {o} {Q:Exit->Act->World->Prop}(w)(e:o.guard=none)(s x)
 (ho:o.op=.call { callee:=.builtin .append,args:=#[s,x],argTypes:=#[237,237] })
 (base v ps p b1) (i:a.eval s=v) (y:LX base w v ps) (b:a.eval x=zS b1 1 1)
 (k:zC w b1 0 (zP p)) (hlen:ps.length<=1048576) (d:base<=w.heap.size)
 (h:∀g cap w',LX base w' (zS g (ps.length+1) cap) (ps++[p])->w.grownBy w' v.ownBlock->(v.ownBlock=some g\/g=w.heap.size)->g<w'.heap.size->wpList Tryz.prog ops Q rest (a.put o.dst (zS g (ps.length+1) cap)) w') :
 wpList Tryz.prog ops Q (o::rest) a w:=by
 obtain⟨f,hi,gT,t,r⟩:=info_parts asn;refine wpList_append_lies w e s x 237 ho base 223 f (.pointer none) 1 8 Tryz.underlying237 hi gT t r rfl (by decide) v ps.length (pv ps) i y (zA b1) 1 1 [zP p] b rfl ?_ (λx b=>by simp at b;subst b;rfl) (by decide) (by unfold maxLen;omega) (by omega) d w.heap.size rfl ?_
 .intro j u c;have:j=0:=by
   cases j with
   | zero=>rfl
   | succ j=>simp at c
  subst this;rw[add0];simp at c;rw[<-c];omega
 intro g cap w' q n m l;exact h g cap w' (by unfold LX pv;simpa[pv] using q) n m l
def j6(w:World)(v t n)(h:w.heap.size=n):zC (w.alloc (.cells #[v] t)) n 0 v:=by subst h;simp
theorem anc(l):MZ l=tQ l:=by unfold MZ tQ;rw[jw,jw]
theorem ane(k nest acc l):jF (k+1) nest acc l=if tQ l then some (.seq acc,l) else match mE k nest l with | none=>none|some (y,r2)=>jF k nest (acc++[y]) r2:=by
 conv=>lhs;unfold jF
 unfold mE;split
 .rfl
 cases ik k nest l with
 | none=>rfl
 | some x=>obtain⟨x,r⟩:=x;rfl
def Yw {k nest r}(h:mE k nest l=some (y,r)):(dB y).length+r.length<=l.length/\r.length+1<=l.length:=by
 unfold mE at h;split at h
 .simp at h
 rename_i x b a
 have c:=Kj a;have e2:=xJ h;rw[e2.1];omega
def XN.c5(h:XN w eb k v):zC w eb 5 v:=by unfold XN at h;simp[World.cell?,h]
theorem XN.fz(h:XN w eb k v)(o):w.frozen? (zB eb o)=false:=by unfold XN at h;simp[World.frozen?,h]
theorem XN.lt(h:XN w eb k v):eb<w.heap.size:=(a0c.1 h).1
def XN.awm(h:XN w eb k v)(v'):XN (w.setCell (zB eb 5) v') eb k v':=by unfold XN at h |-;simp[World.setCell,h,a0v]
def XN.new(h:eb=w.heap.size):XN (w.alloc (.cells #[zI k,.int .u64 0,.int .u64 0,.int .u64 0,.int .u64 0,zN,.pointer none,zI 0,zI 0] 239)) eb k zN:=by subst h;exact bD w _
theorem XN.aC(h:XN w eb k v)(f:aB S w w')(a:eb∉S):XN w' eb k v:=(f.block eb h.lt a).trans h
def XN.fp{base}(h:XN w eb k v)(f:FP base b w w')(hb:eb≠b):XN w' eb k v:=by refine(f.block eb h.lt hb (.inr ?_)).trans h;intro cur fz e;rw[h]at e;simp at e
def LX.fp{base base'}(h:LX base' w v ps)(f:FP base b w w')(hb:b<base'):LX base' w' v ps:=by
 refine⟨h.1,?_⟩;rcases h.2 with d|⟨g,cap,cur,rfl,i,a,rest⟩
 .exact .inl d
 refine .inr ⟨g,cap,cur,rfl,i,(f.block g (a0c.1 a).1 (by omega) (.inr ?_)).trans a,rest⟩;intro c fz e;rw[a]at e;simp at e
structure GX(base b eb:Nat)(kd:Int)(t:LB)(S:LN)(w wr:World)(acc:List RX)(l':LB)(v iN:Value)(ps:LN):Prop where
 nd:XN wr eb kd v
 row:LX (eb+1) wr v ps
 kids:mD (λn=>eb<n/\n<wr.heap.size/\v.ownBlock≠some n) wr ps acc
 pa:PA wr b t l' iN
 bl:BL base wr iN (S++cz acc)
 fp:FP base b w wr
 eb:w.heap.size<=eb
 len:S.length+(cz acc).length+l'.length<=100
 few:acc.length+l'.length<=101
def GX.xv{base kd wr}(h:GX base b eb kd t S w wr acc l' v iN ps) :
 (w.heap.size<=eb/\eb<wr.heap.size)/\XV (λk=>w.heap.size<=k/\k<wr.heap.size) wr v ps/\mD (λk=>w.heap.size<=k/\k<wr.heap.size) wr ps acc:=by
 refine⟨⟨h.eb,h.nd.lt⟩,⟨wQ h.row (a1G _),?_,?_⟩,h.kids.mono ?_⟩
 .intro k c;have:=h.row.lt k c;have:=h.eb;omega
 .have:=h.kids.len;have:=h.few;omega
 intro n a;have:=h.eb;omega
theorem GX.drewN{base kd wr}(n)(h:GX base b eb kd t S w wr acc l' v iN ps):GX base b eb kd t S w (wr.drewN n) acc l' v iN ps :=
 ⟨h.nd,h.row,(h.kids.aY (pO.aC ((aB.refl [] wr).drewN n) (λk a=>⟨a.2.1,by simp⟩))),h.pa.drewN n,h.bl,h.fp.drewN n,h.eb,h.len,h.few⟩
def GX.took{base kd wr c l2}(h:GX base b eb kd t S w wr acc l' v iN ps)(hb:b<base)(i:base<=w.heap.size)(f:aB [b] wr c)(e:PA c b t l2 iN)(g:l2.length<=l'.length):GX base b eb kd t S w c acc l2 v iN ps:=by have d:=h.eb;have hz:=f.size;refine⟨h.nd.aC f (by simp;omega),fG h.row f (by simp;omega),?_,e,h.bl.aC f (by simp;omega),h.fp.aC f,d,by have:=h.len;omega,by have:=h.few;omega⟩;exact(h.kids.aY (pO.aC f (λn a=>⟨a.2.1,by simp;omega⟩))).mono (λn a=>⟨a.1,by omega,a.2.2⟩)
def GX.step{base kd wr c j C i g o}
 (h:GX base b eb kd t S w wr acc l' v iN ps) (hb:b<base) (ZU:base<=w.heap.size) (N:XR (λn=>wr.heap.size<=n/\n<c.heap.size) c q y) (U:PA c b t C i) (L:BL base c i (S++cz acc++dB y)) (m:FP base b wr c)
 (X:(dB y).length+C.length<=l'.length) (Y:acc.length+1+C.length<=101)
 (M:LX (eb+1) j (zS g (ps.length+1) cap) (ps++[q])) (B:(c.alloc o).grownBy j v.ownBlock) (F:v.ownBlock=some g\/g=(c.alloc o).heap.size) :
 GX base b eb kd t S w (j.setCell (zB eb 5) (zS g (ps.length+1) cap)) (acc++[y]) C (zS g (ps.length+1) cap) i (ps++[q]):=by
 have u:=h.eb;have Z:=h.nd.lt;have W:=m.size;have V:=B.size;have s:∀k,v.ownBlock=some k->eb+1<=k/\k<wr.heap.size:=λk d=>h.row.lt k d;have I:(c.alloc o).heap.size=c.heap.size+1:=by simp
 rw[I]at V F;have F3:=(aB.refl [] c).alloc o;have F5:=aB.fo B;have D:=(aB.refl [eb] j).setCell (p:=(zB eb 5)) (.inl (by simp)) (zS g (ps.length+1) cap);have H:(j.setCell (zB eb 5) (zS g (ps.length+1) cap)).heap.size=j.heap.size:=by simp
 have x:∀k,k∈v.ownBlock.toList->v.ownBlock=some k:=λk d=>by rw[a0H]at d;omega
 have n1:eb∉v.ownBlock.toList:=λl=>by have:=s _ (x _ l);omega
 have J:b∉v.ownBlock.toList:=λl=>by have:=s _ (x _ l);omega
 have aY:∀(A:Nat->Prop),(∀k,A k->k<c.heap.size/\eb<k/\v.ownBlock≠some k)->pO A c (j.setCell (zB eb 5) (zS g (ps.length+1) cap)):=by intro A P k d _;obtain⟨T,a2,R⟩:=P k d;rw[D.block k (by omega) (by simp;omega),F5.block k (by omega) (λl=>R (x _ l)),F3.block k T (by simp)]
 have z:Value.ownBlock (zS g (ps.length+1) cap)=some g:=rfl;refine⟨?_,?_,?_,?_,?_,?_,u,?_,?_⟩
 .exact XN.awm (((h.nd.fp m (by omega)).aC F3 (by simp)).aC F5 n1) _
 .have:=ownsRow_setCell_below M (a:=(zB eb 5)) (by simp) (zS g (ps.length+1) cap);exact this
 .refine mD.snoc ?_ ?_
  .have k1:=h.kids.aY (pO.fp m (λn f=>⟨f.2.1,by omega⟩));refine(k1.aY (aY _ (λn f=>⟨by omega,f.1,f.2.2⟩))).mono ?_;intro n f;refine⟨f.1,by omega,?_⟩;rw[z];intro e;simp[Option.some.injEq]at e;subst e;rcases F with e|e
   .exact f.2.2 e
   omega
  refine(N.aY (aY _ (λn f=>⟨f.2,by omega,λe=>by have:=s _ e;omega⟩))).mono ?_;intro n f;refine⟨by omega,by omega,?_⟩;rw[z];intro e;simp[Option.some.injEq]at e;subst e;rcases F with e|e
  .have:=s _ e;omega
  omega
 .exact((U.aC F3 (by simp)).aC F5 J).aC D (by simp;omega)
 .have b1:BL base c i (S++cz (acc++[y])):=by rw[yK,Ce,<-a0M];omega
  refine jJ (jJ (b1.aC F3 (by simp)) F5 ?_) D ?_
  .intro k d;have G:=x k d;obtain⟨cur,fz,e⟩:=Ip (h.row.fp m (by omega)) k G;refine .inr ⟨cur,223,fz,?_,by decide⟩;rw[F3.block k (by have:=s _ G;omega) (by simp)];omega
  intro k d;simp at d;subst d;have:=((h.nd.fp m (by omega)).aC F3 (by simp)).aC F5 n1;exact .inr ⟨_,239,_,this,by decide⟩
 .refine FP.fresh ?_ D u;have r:=(h.fp.trans m).aC (F3.mono (by simp));refine⟨B.os.trans r.os,B.tape.trans r.tape,B.output.trans r.output,a0h r.size F5.size,?_⟩;intro k d E O;rw[F5.block k (by omega) (λl=>by have:=s _ (x _ l);omega)];exact r.block k d E O
 .rw[yK,Ce,a0p];have:=h.len;omega
 simp;omega
def Tn {K}(hA:∀k,k<K->ati k):alB K:=by
 intro base b nest t l vs S w H L hb hz hS X Z;have jE:b<w.heap.size:=by omega
 delta zF;go_in;go_wp2_with fail;go_loopg [] K (λk wr=>∃(acc:List RX) (l':LB) (v iN:Value) (ps:LN),GX base b w.heap.size 1 t S w wr acc l' v iN ps/\4*l'.length+3<=k/\k<=K/\jF k nest acc l'=jF K nest [] l)
 case atStart =>
  have h:=(aB.refl [] w).alloc (.cells #[zI 1,.int .u64 0,.int .u64 0,.int .u64 0,.int .u64 0,zN,.pointer none,zI 0,zI 0] 239);refine⟨[],l,zN,vs,[],⟨XN.new rfl,World.ownsRow_nil _ _ _ _,?_,H.aC h (by simp),?_,(FP.refl _ _ _).alloc _,a0b _,?_,?_⟩,Z,a0b _,rfl⟩
  .simp only[mD]
  .simpa[cz] using L.aC h (by simp)
  .simpa[cz] using hS
  simp;omega
 case round =>
  clear H L;obtain⟨acc,l',v,iN,ps,G,Y,JG,A⟩:=hrel;obtain⟨k2,rfl⟩:∃k2,gk=k2+1:=⟨gk-1,by omega⟩;have I:jF K nest [] l=if tQ l' then some (.seq acc,l') else match mE k2 nest l' with | none=>none|some (y,g)=>jF k2 nest (acc++[y]) g:=by rw[<-A,ane]
  clear A;go_wp2_with fail;refine(Qs b t l' iN wr G.pa).mono ?_;rintro e T ⟨rfl,j,rfl⟩;rw[anc];cases J:tQ l'
  case true =>
   have d:jF K nest [] l=some (.seq acc,l'):=by rw[I,J];rfl
   go_wp2;go_ret;rw[d];have c:=G.drewN j;refine⟨w.heap.size,iN,rfl,?_,c.pa,c.bl,c.fp⟩;have:=c.xv;simp only[XR];exact⟨this.1,v,ps,c.nd,this.2.1,this.2.2⟩
  case false =>
   have d:jF K nest [] l=match mE k2 nest l' with | none=>none|some (y,g)=>jF k2 nest (acc++[y]) g:=by rw[I,J];rfl
   have c:=G.drewN j;clear G;have W:=c.fp.size;have R:=(hA k2 (by omega) base b nest t l' iN (S++cz acc) (wr.drewN j) c.pa c.bl hb (by omega) (by rw[a0p];exact c.len) X (by omega));generalize wr.drewN j=T at *;go_wp2_with fail;refine R.mono ?_;intro e f m;cases s:mE k2 nest l' with
   | none=>rw[s]at m d;obtain⟨rfl,⟨l3,r,x⟩,C⟩:=m;have F3:=c.fp.trans C;clear C;obtain⟨B,N⟩:∃B:Option Addr,B=none:=⟨_,rfl⟩;rw[<-N];go_wp2;go_ret;rw[d];exact⟨by first | rfl|(subst N;rfl),⟨_,_,x⟩,F3⟩
   | some P =>
     obtain⟨y,g⟩:=P;have U:=Yw s;rw[s]at m d;obtain⟨q,r,rfl,X3,x,B3,F3⟩:=m;have i:=c.nd.fp F3 (by omega);have c5:=i.c5;have O:=i.fz 5;have M:=i.lt;have z:=c.row.fp F3 (by omega);obtain⟨a,cap,rfl⟩:=aW z;have xg:=F3.size;have SS:=c.few;have lV:ps.length<=101:=by have:=c.kids.len;omega
     have u:acc.length+1+g.length<=101:=by omega
     have E:Value.ownBlock (.slice a ps.length cap)≠some w.heap.size:=λe=>by have:=z.lt _ e;omega
     have gc:∀o:Obj,zC (f.alloc o) w.heap.size 5 (.slice a ps.length cap):=λo=>(((aB.refl [] f).alloc o).cell (p:=(zB w.heap.size 5)) M (by simp)).trans c5;have gf:∀o:Obj,(f.alloc o).frozen? (zB w.heap.size 5)=false:=λo=>(((aB.refl [] f).alloc o).frozen (p:=(zB w.heap.size 5)) M (by simp)).trans O;clear i;go_wp2_with (first | (at_builtin;refine aaZ _ rfl _ _ rfl (w.heap.size+1) (.slice a ps.length cap) ps q f.heap.size rfl (z.alloc _) rfl (j6 _ _ _ _ rfl) (by omega) (by simp;omega) ?_;intro gg aU w5 F n D V;have c6:=(n.cell_far (zB w.heap.size 5) (by simp;omega) (Ne.symm E)).trans (gc _);have z6:=(n.frozen_far (zB w.heap.size 5) (by simp;omega) (Ne.symm E)).trans (gf _);have G5:=c.step hb hz X3 x B3 F3 U.1 u F n D;clear F n D V));go_roundg k2;exact⟨_,_,_,_,_,G5,by omega,by omega,d.symm⟩;omega
def Qt(k nest:Nat)(acc:List RX)(l:LB):Option (RX × LB) :=
 if acc.isEmpty then iQ k nest [] l else if bA 124 l then iQ k nest acc l.tail else some (.alt acc,l)
def aa1(k nest acc l):iQ (k+1) nest acc l=match jF k nest [] l with | none=>none|some (x,r)=>Qt k nest (acc++[x]) r:=by
 conv=>lhs;unfold iQ
 cases jF k nest [] l with
 | none=>rfl
 | some x =>
   obtain⟨x,r⟩:=x;have:(acc++[x]).isEmpty=false:=by cases acc<;>rfl
   simp only[Qt,this];rfl
def Yy {K}(hA:∀k,k<K->alB k):alA K:=by
 intro base b nest t l vs S w H HS hb hz hS hn hk;have jE:b<w.heap.size:=by omega
 delta zF;go_in;go_wp2_with fail;go_loopg [] K (λk wr=>∃(acc:List RX) (l':LB) (v iN:Value) (ps:LN),GX base b w.heap.size 2 t S w wr acc l' v iN ps/\(acc=[]->4*l'.length+4<=k)/\4*l'.length<=k/\k<=K/\Qt k nest acc l'=iQ K nest [] l)
 case atStart =>
  have F:=(aB.refl [] w).alloc (.cells #[zI 2,.int .u64 0,.int .u64 0,.int .u64 0,.int .u64 0,zN,.pointer none,zI 0,zI 0] 239);refine⟨[],l,zN,vs,[],⟨XN.new rfl,World.ownsRow_nil _ _ _ _,?_,H.aC F (by simp),?_,(FP.refl _ _ _).alloc _,a0b _,?_,?_⟩,λ_=>hk,by omega,a0b _,rfl⟩
  .simp[mD]
  .simpa[cz] using HS.aC F (by simp)
  .simpa[cz] using hS
  simp;omega
 case round =>
  clear H HS;obtain⟨acc,l',v,iN,ps,G0,E,_,_,U⟩:=hrel;have iG:=G0.row;obtain⟨a,cap,rfl⟩:=aW iG;have c5:=G0.nd.c5;have z:=G0.kids.len;have SS:=G0.few;cases acc with
  | nil =>
    have D:ps.length=0:=by simpa using z
    have kM:((ps.length:Int)==0)=true:=by rw[D];rfl
    have hk4:=E rfl;obtain⟨k2,rfl⟩:∃k2,gk=k2+1:=⟨gk-1,by omega⟩;have h:iQ K nest [] l=match jF k2 nest [] l' with | none=>none|some (x,r)=>Qt k2 nest ([]++[x]) r:=by rw[<-U];unfold Qt;simp[List.isEmpty_nil,a0G];exact aa1 k2 nest [] l'
    have hzr:=G0.fp.size;have hlen:=G0.len;simp[cz,a1e]at hlen;have axQ:l'.length<=100:=by omega
    have Q:=hA k2 (by omega) base b nest t l' iN (S++cz []) wr G0.pa G0.bl hb (by omega) (by simp[cz];omega) hn (by omega);clear U iG z D hlen;go_wp2_with fail;refine Q.mono ?_;intro e c f;cases m:jF k2 nest [] l' with
    | none=>rw[m]at f h;obtain⟨rfl,⟨l3,j,u⟩,I⟩:=f;have F3:=G0.fp.trans I;clear I;obtain⟨C,T⟩:∃C:Option Addr,C=none:=⟨_,rfl⟩;rw[<-T];go_wp2;go_ret;rw[h];exact⟨by first | rfl|(subst T;rfl),⟨_,_,u⟩,F3⟩
    | some X =>
      obtain⟨y,Y⟩:=X;have B:=yL m;simp only[cz,a1e,a1n]at B;rw[m]at f h;obtain⟨q,j,rfl,X3,u,B3,F3⟩:=f;have d:=G0.nd.fp F3 (by omega);have c5:=d.c5;have W:=d.fz 5;have P:=d.lt;have O:=G0.row.fp F3 (by omega);have z:ps.length<=101:=by have:=G0.kids.len;omega
      have s:(([]:List RX)).length+1+Y.length<=101:=by simp;omega
      have L:Value.ownBlock (.slice a ps.length cap)≠some w.heap.size:=λe=>by have:=O.lt _ e;omega
      have gc:∀o:Obj,zC (c.alloc o) w.heap.size 5 (.slice a ps.length cap):=λo=>(((aB.refl [] c).alloc o).cell (p:=(zB w.heap.size 5)) P (by simp)).trans c5;have gf:∀o:Obj,(c.alloc o).frozen? (zB w.heap.size 5)=false:=λo=>(((aB.refl [] c).alloc o).frozen (p:=(zB w.heap.size 5)) P (by simp)).trans W;clear d;go_wp2_with (first | (at_builtin;refine aaZ _ rfl _ _ rfl (w.heap.size+1) (.slice a ps.length cap) ps q c.heap.size rfl (O.alloc _) rfl (j6 _ _ _ _ rfl) (by omega) (by simp;omega) ?_;intro gg aU w5 N g J Z;have c6:=(g.cell_far (zB w.heap.size 5) (by simp;omega) (Ne.symm L)).trans (gc _);have z6:=(g.frozen_far (zB w.heap.size 5) (by simp;omega) (Ne.symm L)).trans (gf _);have G5:=G0.step hb hz X3 u B3 F3 B.1 s N g J;clear N g J Z));go_roundg k2;exact⟨_,_,_,_,_,G5,λe=>by simp at e,by omega,by omega,h.symm⟩;omega
  | cons x0 awn =>
    have bJ:¬ ps.length=0:=by rw[z];simp
    have kM:((ps.length:Int)==0)=false:=a0j.2 (by omega);generalize M:x0::awn=acc at *;have hae:acc.isEmpty=false:=by rw[<-M];rfl
    have n:iQ K nest [] l=if bA 124 l' then iQ gk nest acc l'.tail else some (.alt acc,l'):=by rw[<-U];unfold Qt;rw[hae];rfl
    clear U E z M;go_wp2_with fail;refine(jI _ _ _ _ 124 _ G0.pa).mono ?_;rintro e w2 ⟨rfl,A,V⟩;cases k2:tk 124 l'
    case false =>
     rw[wU k2]at A;have R:=G0.took hb hz V A (a0b _);rw[jw]at k2;have Hr:iQ K nest [] l=some (.alt acc,l'):=by rw[n,k2];rfl
     clear A V;go_wp2;go_ret;rw[Hr];refine⟨w.heap.size,iN,rfl,?_,R.pa,R.bl,R.fp⟩;have:=R.xv;simp only[XR];exact⟨this.1,_,ps,R.nd,this.2.1,this.2.2⟩
    case true =>
     rw[vE k2]at A;have:=jg (by rw[<-jw];exact k2);have G:=G0.took hb hz V A (by omega);rw[jw]at k2;obtain⟨i,rfl⟩:∃i,gk=i+1:=⟨gk-1,by omega⟩;have h:iQ K nest [] l=match jF i nest [] l'.tail with | none=>none|some (x,r)=>Qt i nest (acc++[x]) r:=by rw[n,k2];exact aa1 i nest acc l'.tail
     have:=G.fp.size;have hlen:=G.len;have Q:=(hA i (by omega) base b nest t l'.tail iN (S++cz acc) w2 G.pa G.bl hb (by omega) (by rw[a0p];exact hlen) hn (by omega));clear A V G0 n hlen c5;go_wp2_with fail;refine Q.mono ?_;intro e c f;cases m:jF i nest [] l'.tail with
     | none=>rw[m]at f h;obtain⟨rfl,⟨_,j,u⟩,I⟩:=f;have F3:=G.fp.trans I;clear I;obtain⟨C,T⟩:∃C:Option Addr,C=none:=⟨_,rfl⟩;rw[<-T];go_wp2;go_ret;rw[h];exact⟨by first | rfl|(subst T;rfl),⟨_,_,u⟩,F3⟩
     | some X =>
       obtain⟨y,Y⟩:=X;have B:=yL m;simp only[cz,a1e,a1n]at B;rw[m]at f h;obtain⟨q,j,rfl,X3,u,B3,F3⟩:=f;have d:=G.nd.fp F3 (by omega);have c5:=d.c5;have W:=d.fz 5;have P:=d.lt;have O:=G.row.fp F3 (by omega);have:ps.length<=101:=by have:=G.kids.len;omega
       have s:(acc).length+1+Y.length<=101:=by omega
       have L:Value.ownBlock (.slice a ps.length cap)≠some w.heap.size:=λe=>by have:=O.lt _ e;omega
       have gc:∀o:Obj,zC (c.alloc o) w.heap.size 5 (.slice a ps.length cap):=λo=>(((aB.refl [] c).alloc o).cell (p:=(zB w.heap.size 5)) P (by simp)).trans c5;have gf:∀o:Obj,(c.alloc o).frozen? (zB w.heap.size 5)=false:=λo=>(((aB.refl [] c).alloc o).frozen (p:=(zB w.heap.size 5)) P (by simp)).trans W;clear d;go_wp2_with (first | (at_builtin;refine aaZ _ rfl _ _ rfl (w.heap.size+1) (.slice a ps.length cap) ps q c.heap.size rfl (O.alloc _) rfl (j6 _ _ _ _ rfl) (by omega) (by simp;omega) ?_;intro _ _ _ N g J Z;have:=(g.cell_far (zB w.heap.size 5) (by simp;omega) (Ne.symm L)).trans (gc _);have:=(g.frozen_far (zB w.heap.size 5) (by simp;omega) (Ne.symm L)).trans (gf _);have G5:=G.step hb hz X3 u B3 F3 B.1 s N g J;clear N g J Z));go_roundg i;exact⟨_,_,_,_,_,G5,λe=>by simp at e,by omega,by omega,h.symm⟩;omega
def ahv:∀K,alA K/\alB K/\(∀k,k+1=K->afl K):=by
 intro K;induction K using Nat.strongRecOn with
 | _ K c =>
   have e:∀k,k<K->afl k:=by
    intro k a;cases k with
    | zero=>intro _ b _ t l _ S w _ _ _ _ _ _ f;omega
    | succ k=>exact Oy (c k (by omega)).1
   have d:=Tn (λk a=>Tm (e k a));refine⟨Yy (λk a=>(c k a).2.1),d,?_⟩;rintro k rfl;exact Oy (c k (by omega)).1
def PlC(x:RX):Prop:=∀(A:Nat->Prop) (w:World) (p:Nat),XR A w p x->uO x->jX x<=100 ->
 zF 118 #[zP p] w λe w'=>e=zR (zI (dI x))/\w=w'
theorem XB.c0(h:XB w eb s):zC w eb 0 (zI 0):=by unfold XB at h;simp[World.cell?,h]
theorem XN.c0(h:XN w eb k v):zC w eb 0 (zI k):=by unfold XN at h;simp[World.cell?,h]
theorem XW.c0{lo}(h:XW w eb q lo hi):zC w eb 0 (zI 3):=by unfold XW at h;simp[World.cell?,h]
def XW.c6{lo}(h:XW w eb q lo hi):zC w eb 6 (zP q):=by unfold XW at h;simp[World.cell?,h]
theorem XW.c7{lo}(h:XW w eb q lo hi):zC w eb 7 (zI lo):=by unfold XW at h;simp[World.cell?,h]
theorem XW.c8{lo}(h:XW w eb q lo hi):zC w eb 8 (zI hi):=by unfold XW at h;simp[World.cell?,h]
def mD.get {A}:∀{ps l},mD A w ps l->∀j (a:j<l.length),∃p,ps[j]?=some p/\XR A w p l[j]
 | [],[],_,j,a=>by simp at a
 | p::ps,x::l,h,j,a=>by
   simp only[mD]at h;cases j with
   | zero=>exact⟨p,rfl,h.1⟩
   | succ j=>obtain⟨q,c,b⟩:=mD.get h.2 j (by simpa using a);exact⟨q,by simpa using c,by simpa using b⟩
 | [],_::_,h,_,_=>by simp only[mD]at h
 | _::_,[],h,_,_=>by simp only[mD]at h
theorem XV.cell {A g}(h:XV A w (zS g n cap) ps){p}(b:ps[j]?=some p):zC w g j (zP p):=by have a:=World.ownsRow.cells h.1 (g:=g) rfl j (zP p) (by simp[pv,b]);rw[add0]at a;omega
def ahw(l:List RX)(j)(d:j<l.length):bV (l.take (j+1))=bV (l.take j)+dI l[j]:=by
 have app:∀(a b:List RX),bV (a++b)=bV a+bV b:=by
  intro a b;induction a with
  | nil=>simp[bV]
  | cons x a c=>simp only[a0L,bV,c];omega
 rw[a0F d,app];simp[bV]
def ak5:∀{l e},mZ l->e∈l->uO e
 | x::r,e,h,he=>by
   rcases a0l.1 he with a|a
   .rw[a];exact h.1
   exact ak5 h.2 a
def aa2(l)(hd:mZ l)(ht:gu l<=100)(j):bV (l.take j)<=40000:=by
 have b:∀(l:List RX) (j:Nat),bV (l.take j)<=bV l:=by
  intro l;induction l with
  | nil=>intro j;simp[bV]
  | cons x r a =>
    intro j;cases j with
    | zero=>simp[bV]
    | succ j=>have:=a j;simp only[a2J,bV];omega
 have d:=MJ hd;have c:=b l j;omega
def ahx(s):PlC (.one s):=by
 intro A w p h hd ht;simp only[XR]at h;have c0:=h.2.c0;delta zF;go_in;go_wp2;go_ret;exact⟨rfl,rfl⟩
def Oz(A w p kd v ps l)(o:kd=1\/kd=2)(i:XN w p kd v)(b:XV A w v ps)(s:mD A w ps l)(hd:mZ l)(ht:gu l<=100)(E:∀y∈l,PlC y) :
 zF 118 #[zP p] w λe w'=>e=zR (zI (bV l))/\w=w':=by
 obtain⟨a,_,rfl⟩:=aW b.1;have:=i.c0;have:=i.c5;have x:=s.len;have G:=ht;have:(kd==0)=false:=a0j.2 (by omega);have:(kd==3)=false:=a0j.2 (by omega);have u:∀j,bV (l.take j)<=40000:=λj=>aa2 l hd ht j;have:ps.length<=1048576:=by have:=b.2.2;omega
 clear ht i o;delta zF;go_in;go_wp2_with fail;go_loopg [3,21] ps.length (λk B C wr=>∃(j:Nat),j+k=ps.length/\C=zI j/\B=zI (bV (l.take j))/\wr=w);exact⟨0,by omega,rfl,rfl,rfl⟩
 .obtain⟨j,M,rfl,rfl,F⟩:=hrel;subst F;by_cases O:j<ps.length
  .have f:j<l.length:=by omega
   obtain⟨q,hq,r⟩:=s.get j f;obtain⟨g,rfl⟩:∃g,a=some (zA g):=by
    rcases b.1.2 with⟨e,h⟩|⟨g,c,_,e,_⟩
    .simp at e;omega
    simp at e;exact⟨g,e.1⟩
   have:=b.cell hq;have d:=a0u f;have t:=ahw l j f;have:=u j;have D:=u (j+1);rw[t]at D;have z:jX l[j]<=100:=by have:=(Bu d).2;omega
   have PR:=E _ d _ _ _ r (ak5 hd d) z;generalize dI l[j]=m at *;generalize bV (l.take j)=n at *;clear r d z hq;go_wp2_with fail;refine PR.mono ?_;rintro e H ⟨rfl,rfl⟩;go_wp2;go_roundg (gk-1);exact⟨j+1,by omega,by go_num,by rw[t];go_num,rfl⟩;omega
  have ht:l.take j=l:=a0C (by omega);rw[ht];go_wp2;go_ret;exact⟨rfl,rfl⟩
def ahy(x lo hi)(i:PlC x):PlC (.rep x lo hi):=by
 intro A w p h hd ht;simp[XR]at h;obtain⟨v,q,b,j⟩:=h;have:=b.c0;have:=b.c6;have:=b.c7;have c8:=b.c8;have:=vU lo hi;simp only[jX]at ht;have PR:=i A w q j hd.1 (by omega);have:=hd.2.1;have k:=hd.2.2;have c:dI (.rep x lo hi)=if 40<dI x then dI x else dI x*times lo hi:=rfl;clear b j hd i;have t:zF 131 #[zP p] w λe w'=>e=zR (zI (dI (.rep x lo hi)))/\w=w':=by
  generalize dI x=n at *;by_cases g:40<n
  .have a:dI (.rep x lo hi)=n:=by rw[c,a0m g]
   delta zF;go_in;go_wp2_with fail;refine PR.mono ?_;rintro e d ⟨rfl,rfl⟩;go_wp2;go_ret;rw[a];exact⟨rfl,rfl⟩
  cases hi with
  | none =>
    have a:dI (.rep x lo none)=n*(lo+1):=by rw[c,a0n g];rfl
    have r:n*(lo+1)<=40*10:=a0D (by omega) (by omega);delta zF;go_in;go_wp2_with fail;refine PR.mono ?_;rintro e d ⟨rfl,rfl⟩;simp only[Yt]at c8;have f:(n:Int)*((lo:Int)+1)=((n*(lo+1):Nat):Int):=by simp
    generalize n*(lo+1)=z at *;go_wp2;go_ret;rw[a];exact⟨by first | rfl|(rw[<-f];rfl),rfl⟩
  | some m =>
    have:=k m rfl;have a:dI (.rep x lo (some m))=n*m:=by rw[c,a0n g];rfl
    have:n*m<=40*9:=a0D (by omega) (by omega);have:((m:Int) == -1)=false:=a0j.2 (by omega);delta zF;go_in;go_wp2_with fail;refine PR.mono ?_;rintro e d ⟨rfl,rfl⟩;simp only[Yt]at c8;have f:(n:Int)*(m:Int)=((n*m:Nat):Int):=by simp
    generalize n*m=z at *;go_wp2;go_ret;rw[a];exact⟨by first | rfl|(rw[<-f];rfl),rfl⟩
 clear c;delta zF;go_in;go_wp2_with fail;refine t.mono ?_;rintro e d ⟨rfl,rfl⟩;go_wp2;go_ret;exact⟨rfl,rfl⟩
def ahz(l)(a:∀y∈l,PlC y):PlC (.seq l):=by intro A w p h hd ht;simp only[XR]at h;obtain⟨e,v,ps,d,c,b⟩:=h;exact Oz A w p 1 v ps l (.inl rfl) d c b hd ht a
def ahA(l)(a:∀y∈l,PlC y):PlC (.alt l):=by intro A w p h hd ht;simp only[XR]at h;obtain⟨e,v,ps,d,c,b⟩:=h;simp only[jX]at ht;exact Oz A w p 2 v ps l (.inr rfl) d c b hd (by omega) a
mutual
theorem Lb:∀(x:RX),PlC x
 | .one s=>ahx s
 | .seq l=>ahz l (Iz l)
 | .alt l=>ahA l (Iz l)
 | .rep x lo hi=>ahy x lo hi (Lb x)
theorem Iz:∀(l:List RX),∀y∈l,PlC y
 | [],y,a=>by simp at a
 | x::r,y,a=>by
   rcases a0l.1 a with h|h
   .rw[h];exact Lb x
   exact Iz r y h
end
def WP(base b:Nat)(t:LB)(w:World)(p:Option RX)(e:Ending)(w':World):Prop :=
 match p with
 | some x=>∃(eb:Nat) (iN:Value),e=zR (zP eb)/\XR (λk=>w.heap.size<=k/\k<w'.heap.size) w' eb x/\PA w' b t [] iN/\BL base w' iN (dB x)/\FP base b w w'
 | none=>e=zR (.pointer none)/\FP base b w w'
def aj6(base b t w)(h:PA w b t t zN)(hb:b<base)(hz:base<=w.heap.size)(ht:t.length<=100) :
 zF 117 #[zP b] w λe w'=>WP base b t w (fF t) e w':=by
 have a:fF t=match iQ (4*t.length+4) 0 [] t with | some (x,[])=>some x|_=>none:=rfl;have:=bL t;delta zF;go_in
 go_wp2_with fail;refine ((ahv (4*t.length+4)).1 base b 0 t t zN [] w h (BL.nil _ _) hb hz (by simp;exact ht) (by omega) (a0b _)).mono ?_;intro e m f;cases o:iQ (4*t.length+4) 0 [] t with
 | none =>
   rw[o]at f a;obtain⟨rfl,⟨_,iN,i,d,s⟩,F⟩:=f;have:=d.c0;have:=d.c1;have:=d.2.1;by_cases g:i<t.length
   .go_wp2;go_quiet (fail);go_wp2;go_ret;rw[a];exact⟨rfl,F.drewN _⟩
   go_wp2;go_quiet (fail);go_wp2;go_ret;rw[a];exact⟨rfl,F.drewN _⟩
 | some p =>
   obtain⟨x,r⟩:=p;rw[o]at f a;obtain⟨eb,iN,rfl,X,⟨i,P,D⟩,B,F⟩:=f;have:=P.c0;have:=P.c1;have:=P.2.1;by_cases g:i<t.length
   .obtain⟨_,c⟩:=(drop_cons D).1 g;have l:fF t=none:=by rw[a,c]
    go_wp2;go_quiet (fail);go_wp2;go_ret;rw[l];exact⟨rfl,F.drewN _⟩
   have l:fF t=some x:=by rw[a,(drop_cons D).2 g]
   go_wp2;go_quiet (fail);go_wp2;go_ret;rw[l];refine⟨eb,iN,rfl,?_,⟨i,P.drewN _,?_⟩,?_,F.drewN _⟩
   .exact(X.aY (pO.aC ((aB.refl [] m).drewN _) (λn j=>⟨j.2,by simp⟩))).mono (λn j=>j)
   .exact(drop_cons D).2 g ▸ D
   have b2:BL base m iN (dB x):=by simpa using B
   exact b2
def afn(w0 w1 w2 w3:Nat)(q r w)(hq:q<4)(hr:r<64)(h0:w0<18446744073709551616)(h1:w1<18446744073709551616)(h2:w2<18446744073709551616)(h3:w3<18446744073709551616) :
 zF 161 #[.agg #[.int .u64 w0,.int .u64 w1,.int .u64 w2,.int .u64 w3],.int .u8 (64*q+r:Nat)] w λe w'=>e=zR (.bool ((if q=0 then w0 else if q=1 then w1 else if q=2 then w2 else w3).testBit r))/\w'=w.alloc (.cells #[.int .u64 w0,.int .u64 w1,.int .u64 w2,.int .u64 w3] 236):=by
 have:((64*q+r:Nat):Int).tdiv 64=q:=by rw[a2z (by omega)];omega
 have:((64*q+r:Nat):Int).tmod 64=r:=by rw[a2f (by omega)];omega
 generalize 64*q+r=c at *;rcases(by omega:q=0\/q=1\/q=2\/q=3) with rfl|rfl|rfl|rfl
 ·delta zF;go_in;go_wp2;go_ret;exact⟨by rw[<-zZ _ _ h0];rfl,rfl⟩
 ·delta zF;go_in;go_wp2;go_ret;exact⟨by rw[<-zZ _ _ h1];rfl,rfl⟩
 ·delta zF;go_in;go_wp2;go_ret;exact⟨by rw[<-zZ _ _ h2];rfl,rfl⟩
 delta zF;go_in;go_wp2;go_ret;exact⟨by rw[<-zZ _ _ h3];rfl,rfl⟩
def aso(s)(c:Nat)(w)(a:c<256) :
 zF 161 #[.agg #[.int .u64 (wd s 0),.int .u64 (wd s 1),.int .u64 (wd s 2),.int .u64 (wd s 3)],.int .u8 c] w λe w'=>e=zR (.bool (s.testBit c))/\w'=w.alloc (.cells #[.int .u64 (wd s 0),.int .u64 (wd s 1),.int .u64 (wd s 2),.int .u64 (wd s 3)] 236):=by
 have h:=afn (wd s 0) (wd s 1) (wd s 2) (wd s 3) (c / 64) (c % 64) w (by omega) (a3i _ (by decide)) (jv _ _) (jv _ _) (jv _ _) (jv _ _);rw[show 64*(c / 64)+c % 64=c by omega]at h;have e:(if c / 64=0 then wd s 0 else if c / 64=1 then wd s 1 else if c / 64=2 then wd s 2 else wd s 3).testBit (c % 64)=s.testBit c:=by
  have b:c / 64<4:=by omega
  have key:(wd s (c / 64)).testBit (c % 64)=s.testBit c:=by rw[zk _ _ _ (a3i _ (by decide)),show 64*(c / 64)+c % 64=c by omega]
  rw[<-key];rcases(by omega:c / 64=0\/c / 64=1\/c / 64=2\/c / 64=3) with h|h|h|h<;>simp[h]
 rw[e]at h;omega
def apart(S:LN)(a b:Nat):Bool:=S.any λs=>s.testBit a != s.testBit b
theorem BL.cell {base g}(h:BL base w (zS g n cap) S)(d:S[j]?=some s)(k)(b:k<4):w.cell? (zB g (j*4+k))=(Ea s)[k]?:=by have c:=flat_get Ea 4 (λa=>rfl) S j k s d b;have e:=World.ownsRow.cells h (g:=g) rfl (j*4+k);have f:k<(Ea s).length:=b;rw[a0a f]at c |-;have:=e _ c;rw[add0]at this;omega
def aa3(base vs S)(a b:Nat)(w)(q:BL base w vs S)(J:a<256)(hb:b<256)(L:S.length<=1000) :
 zF 151 #[vs,.int .u8 a,.int .u8 b] w λe w'=>e=zR (.bool (apart S a b))/\aB [] w w':=by
 obtain⟨r,cap,rfl⟩:=aW q;delta zF;go_in;go_wp2_with fail;go_loopg [11] S.length (λk v wr=>∃(j:Nat),j+k=S.length/\v=zI j/\apart (S.drop j) a b=apart S a b/\aB [] w wr);exact⟨0,by omega,rfl,rfl,zK⟩
 .obtain⟨j,I,rfl,p,F⟩:=hrel;by_cases t:j<S.length
  .have o:BL base wr (.slice r S.length cap) S:=q.aC F (by simp);obtain⟨g,rfl⟩:∃g,r=some (zA g):=by
    rcases o.2 with⟨e,h⟩|⟨g,c,_,e,_⟩
    .omega
    simp at e;exact⟨g,e.1⟩
   have i:=a0a t;have f:=λk x=>o.cell i k x;have u:=a0k t;generalize S[j]=s at *;have:zC wr g (j*4) (.int .u64 (wd s 0)):=f 0 (by omega);have:zC wr g (j*4+1) (.int .u64 (wd s 1)):=f 1 (by omega);have:zC wr g (j*4+2) (.int .u64 (wd s 2)):=f 2 (by omega);have:zC wr g (j*4+3) (.int .u64 (wd s 3)):=f 3 (by omega);have n:apart S a b=((s.testBit a != s.testBit b)||apart (S.drop (j+1)) a b):=by rw[<-p,u];rfl
   have z:=λ(c:Nat) (f:c<256) (w:World)=>aso s c w f;generalize s.testBit=fb at *;clear f o i p u;generalize wd s 0=C at *;generalize wd s 1=s1 at *;generalize wd s 2=s2 at *;generalize wd s 3=B at *;go_wp2_with fail;go_region_with (go_at_call 161;refine(z _ (by assumption) _).mono ?_;rintro e A ⟨rfl,rfl⟩);all_goals
    cases m:fb a
    .cases l:fb b
     .have d:apart (S.drop (j+1)) a b=apart S a b:=by rw[n,m,l];rfl
      go_wp2;go_roundg (gk-1);exact⟨j+1,by omega,by go_num,d,((((F.alloc _).alloc _).alloc _).drew)⟩;omega
     have d:apart S a b=true:=by rw[n,m,l];rfl
     go_wp2;go_ret;rw[d];exact⟨rfl,((((F.alloc _).alloc _).alloc _).drew)⟩
    cases l:fb b
    .have d:apart S a b=true:=by rw[n,m,l];rfl
     go_wp2;go_ret;rw[d];exact⟨rfl,((((F.alloc _).alloc _).alloc _).drew)⟩
    have d:apart (S.drop (j+1)) a b=apart S a b:=by rw[n,m,l];rfl
    go_wp2;go_roundg (gk-1);exact⟨j+1,by omega,by go_num,d,((((F.alloc _).alloc _).alloc _).drew)⟩;omega
  have y:apart S a b=false:=by rw[<-p,a0i (by omega)];rfl
  go_wp2;go_ret;rw[y];exact⟨rfl,F⟩
def NL(k:IntKind)(w:World)(v:Value)(L:LN):Prop :=
 ∃a cap,v=.slice a L.length cap/\∀(j:Nat) (h:j<L.length),∃g off,a=some (zB g off)/\g<w.heap.size/\w.cell? (zB g (off+j))=some (.int k L[j])
theorem NL.aC {k}(h:NL k w v L)(f:aB S w w')(e:∀a n c,v=.slice (some a) n c->a.block∉S):NL k w' v L:=by obtain⟨a,cap,rfl,l⟩:=h;refine⟨a,cap,rfl,?_⟩;intro j d;obtain⟨g,off,rfl,b,i⟩:=l j d;exact⟨g,off,rfl,a0t b f.size,(f.cell (p:=(zB g (off+j))) b (e (zB g off) _ _ rfl)).trans i⟩
def aj7(v L)(n:Nat)(w)(l:NL .i64 w v L)(s:L.length<=1048576) :
 zF 136 #[v,zI n] w λe w'=>e=zR (zI (L.findIdx (·==n)))/\w=w':=by
 obtain⟨a,_,rfl,p⟩:=l;delta zF;go_in;go_wp2_with fail;go_loopg [9] L.length (λk h wr=>∃(j:Nat),j+k=L.length/\h=zI j/\wr=w/\j+(L.drop j).findIdx (·==n)=L.findIdx (·==n));exact⟨0,by omega,rfl,rfl,by simp⟩
 .obtain⟨j,q,rfl,i,c⟩:=hrel;subst i;by_cases f:j<L.length
  .obtain⟨g,_,rfl,_,r⟩:=p j f;have hd:=a0k f;rw[hd,List.findIdx_cons]at c;generalize L[j]=m at *;cases b:(m==n)
   .have hb:((m:Int)==(n:Int))=false:=by rw[a0j];intro e;simp at b;omega
    rw[b]at c;have d:Z_ ((j+1)+(L.drop (j+1)).findIdx (·==n)=L.findIdx (·==n)):=by show _=_;simp at c;omega
    clear c hd;go_wp2;go_roundg (gk-1);exact⟨j+1,by omega,by go_num,rfl,d⟩;omega
   have:((m:Int)==(n:Int))=true:=by rw[a0W];simp at b;omega
   rw[b]at c;have d:Z_ (L.findIdx (·==n)=j):=by show _=_;simp at c;omega
   clear c hd;go_wp2;go_ret;rw[d.o];exact⟨rfl,rfl⟩
  have d:Z_ (L.findIdx (·==n)=L.length):=by show _=_;rw[<-c,a0i (by omega)];simp;omega
  clear c;go_wp2;go_ret;rw[d.o];exact⟨rfl,rfl⟩
def kU(S F:LN)(c:Nat):Nat:=F.findIdx λf=>!(apart S f c)
def afo(base vs v S F)(c:Nat)(w)(s:BL base w vs S)(z:NL .u8 w v F)(C:S.length<=1000)(hF:F.length<=1000)(y:∀f∈F,f<256)(B:c<256) :
 zF 141 #[vs,v,.int .u8 c] w λe w'=>e=zR (zI (kU S F c))/\aB [] w w':=by
 obtain⟨a,cap,rfl,D⟩:=z;obtain⟨o,q,rfl⟩:=aW s;delta zF;go_in;go_wp2_with fail;go_loopg [11] F.length (λk x wr=>∃(j:Nat),j+k=F.length/\x=zI j/\aB [] w wr/\j+kU S (F.drop j) c=kU S F c);exact⟨0,by omega,rfl,zK,by simp⟩
 .obtain⟨j,G,rfl,i,b⟩:=hrel;by_cases r:j<F.length
  .obtain⟨g,off,rfl,A,t⟩:=D j r;have E:=(i.cell A (by simp)).trans t;have n:=y _ (a0u r);have hd:F.drop j=F[j]::F.drop (j+1):=a0k r;rw[hd]at b;unfold kU at b;rw[List.findIdx_cons]at b;generalize F[j]=m at *;have T:=aa3 base (.slice o S.length q) S m c wr (s.aC i (by simp)) n B C;clear t hd;cases l:apart S m c
   .rw[l]at b;have h:kU S F c=j:=by unfold kU;simp at b;omega
    clear b;rw[l]at T;go_wp2_with fail;refine T.mono ?_;rintro e u ⟨rfl,d⟩;have F2:=i.trans d;clear d;go_wp2;go_ret;rw[h];exact⟨rfl,F2⟩
   rw[l]at b;have h:(j+1)+kU S (F.drop (j+1)) c=kU S F c:=by unfold kU;simp at b;omega
   clear b;rw[l]at T;go_wp2_with fail;refine T.mono ?_;rintro e u ⟨rfl,d⟩;have F2:=i.trans d;clear d;go_wp2;go_roundg (gk-1);exact⟨j+1,by omega,by go_num,F2,h⟩;omega
  have h:kU S F c=F.length:=by rw[<-b,a0i (by omega)];unfold kU;simp;omega
  clear b;go_wp2;go_ret;rw[h];exact⟨rfl,i⟩
def UL(base:Nat)(w:World)(v:Value)(L:LN):Prop:=w.ownsRow base 5 1 v L.length (nv .u8 L)
def IL(base:Nat)(w:World)(v:Value)(L:LN):Prop:=w.ownsRow base 3 1 v L.length (nv .i64 L)
def xV {k base}(h:w.ownsRow base e 1 v L.length (nv k L)):NL k w v L:=by
 obtain⟨a,cap,rfl⟩:=aW h;refine⟨a,cap,rfl,?_⟩;intro j i;rcases h.2 with⟨b,m⟩|⟨g,c,cur,b,l,f,_⟩
 .omega
 simp at b;obtain⟨rfl,rfl⟩:=b;have d:=World.ownsRow.cells h rfl j (.int k L[j]) (by simp[nv,i]);rw[add0]at d;exact⟨g,0,rfl,(a0c.1 f).1,by simpa using d⟩
theorem apQ {o} {Q:Exit->Act->World->Prop}(w)(d:o.guard=none)(s x)
 (ho:o.op=.call { callee:=.builtin .append,args:=#[s,x],argTypes:=#[90,90] })
 (base v L) (n b1:Nat) (f:a.eval s=v) (k:UL base w v L) (b:a.eval x=zS b1 1 1)
 (l:zC w b1 0 (.int .u8 n)) (hlen:L.length<=1048576) (c:base<=w.heap.size)
 (h:∀g cap w',UL base w' (zS g (L.length+1) cap) (L++[n])->w.grownBy w' v.ownBlock->(v.ownBlock=some g\/g=w.heap.size)->g<w'.heap.size->wpList Tryz.prog ops Q rest (a.put o.dst (zS g (L.length+1) cap)) w') :
 wpList Tryz.prog ops Q (o::rest) a w:=by
 obtain⟨e,hi,gT,j,i⟩:=info_parts ak6;refine wpList_append_lies w d s x 90 ho base 5 e (.int .u8 0) 1 1 Tryz.underlying90 hi gT j i rfl (by decide) v L.length (nv .u8 L) f k (zA b1) 1 1 [.int .u8 n] b rfl ?_ (λx b=>by simp at b;subst b;rfl) (by decide) (by unfold maxLen;omega) (by omega) c w.heap.size rfl ?_
 .grind [add0]
 grind [UL,nv]
theorem vG {o} {Q:Exit->Act->World->Prop}(w)(d:o.guard=none)(s x)
 (ho:o.op=.call { callee:=.builtin .append,args:=#[s,x],argTypes:=#[63,63] })
 (base v L) (n b1:Nat) (f:a.eval s=v) (k:IL base w v L) (b:a.eval x=zS b1 1 1)
 (l:zC w b1 0 (zI n)) (hlen:L.length<=10000000000000) (c:base<=w.heap.size)
 (h:∀g cap w',IL base w' (zS g (L.length+1) cap) (L++[n])->w.grownBy w' v.ownBlock->(v.ownBlock=some g\/g=w.heap.size)->g<w'.heap.size->wpList Tryz.prog ops Q rest (a.put o.dst (zS g (L.length+1) cap)) w') :
 wpList Tryz.prog ops Q (o::rest) a w:=by
 obtain⟨e,hi,gT,j,i⟩:=info_parts ZB;refine wpList_append_lies w d s x 63 ho base 3 e (zI 0) 1 8 Tryz.underlying63 hi gT j i rfl (by decide) v L.length (nv .i64 L) f k (zA b1) 1 1 [zI n] b rfl ?_ (λx b=>by simp at b;subst b;rfl) (by decide) (by unfold maxLen;omega) (by omega) c w.heap.size rfl ?_
 .grind [add0]
 grind [IL,nv]
def gP(S:LN):Nat->LN
 | 0=>[]
 | c+1=>if kU S (gP S c) c==(gP S c).length then gP S c++[c] else gP S c
def Xa(S:LN)(c:Nat):LN:=(List.range c).map λi=>kU S (gP S i) i
theorem xW(S):∀c,(gP S c).length<=c/\∀f∈gP S c,f<c
 | 0=>by simp[gP]
 | c+1=>by
   have h:=xW S c;simp only[gP];split
   .grind
   grind
def adD(S F c):kU S F c<=F.length:=a2U
def tu(S:LN)(c:Nat):LB:=S.map λs=>if s.testBit c then 49 else 48
def alD:∀S a b,(tu S a==tu S b)=!(apart S a b)
 | [],a,b=>rfl
 | s::S,a,b=>by
   have c:=alD S a b;have e:(tu (s::S) a==tu (s::S) b)=(((if s.testBit a then (49:UInt8) else 48)==(if s.testBit b then 49 else 48))&&(tu S a==tu S b)):=by simp[tu,List.cons_beq_cons]
   rw[e,c];simp only[apart,a3m];cases s.testBit a<;>cases s.testBit b<;>simp<;>decide
def anf(S F c):(oI (F.map (tu S)) (tu S c)<0/\(kU S F c==F.length)=true)\/(0<=oI (F.map (tu S)) (tu S c)/\(kU S F c==F.length)=false):=by
 unfold oI kU;have h:∀f,(tu S f==tu S c)=!(apart S f c):=λf=>alD S f c;rw[List.findIdx?_map];cases a:List.findIdx? ((λx=>x==tu S c) ∘ tu S) F with
 | none =>
   left;refine⟨by simp,?_⟩;rw[a2C]at a;have:F.findIdx (λf=>!(apart S f c))=F.length:=by rw[List.findIdx_eq_length];intro x d;have:=a x d;simp only[Function.comp]at this;rw[<-h x];omega
   rw[this];simp
 | some i =>
   right;refine⟨by simp,?_⟩;rw[a2e]at a;obtain⟨hi,b,_⟩:=a;have e:F.findIdx (λf=>!(apart S f c))<F.length:=by rw[List.findIdx_lt_length];refine⟨F[i],a0u hi,?_⟩;simp only[Function.comp]at b;rw[<-h];omega
   simp only[a0j];omega
def OV.other{b base c UK}(i:OV b base w c UK)(h:OV e2 base w v2 xs2)(j:b≠e2)(f:w.grownBy w' c.ownBlock):OV e2 base w' v2 xs2:=by
 refine jJ h (aB.fo f) ?_;intro k a;right;rcases i.2 with⟨e,l⟩|⟨g,_,cur,e,_,d,_⟩
 .rw[e]at a;simp[Value.ownBlock]at a
 rw[e]at a;simp[Value.ownBlock]at a;subst a;exact⟨cur,b,_,d,j⟩
def OV.sl {base L}(h:OV 9 base w v (sv L)):SL base w v L:=by unfold OV at h;rw[arJ]at h;exact h
def ang(S c i s)(h:S[i]?=some s):(tu S c).take (i+1)=(tu S c).take i++[if s.testBit c then 49 else 48]:=by
 rw[a1c];congr 1;simp[tu,h]
def afp(w p t)(h:RN w p t)(hl:(kP t).length<=1000) :
 zF 85 #[zP p] w λe w'=>∃v,e=zR v/\OV 3 w.heap.size w' v (nv .i64 (gP (kP t) 256))/\aB [] w w':=by
 have A:=yO t w w p zN [] h zK (OV.nil _ _ _) (by simp;omega);clear h;obtain⟨S,HS⟩:∃S,kP t=S:=⟨_,rfl⟩;rw[HS]at hl |-;delta zF;go_in;go_wp2_with fail;refine A.mono ?_;rintro e _ ⟨_,qs,rfl,D,F1,X⟩;rw[HS]at X;obtain⟨al,E,cl,rfl,l⟩:=D.open;have Kv:qs.length=S.length:=X.len;have V:E=S.length:=by rw[l];simp;exact Kv
 clear l A;subst V;simp only[a0V]at D;go_wp2_with fail;go_loopg [4,5,6] 256 (λk v4 v5 v6 wr=>∃(c:Nat) (F:LN),c+k=256/\v6=zI c/\F=gP S c/\OV 9 w.heap.size wr v4 (sv (F.map (tu S)))/\OV 3 w.heap.size wr v5 (nv .i64 F)/\OV 135 w.heap.size wr (.slice al S.length cl) (qs.map aM)/\aB [] w wr);exact⟨0,[],rfl,rfl,rfl,OV.nil _ _ _,OV.nil _ _ _,D,F1⟩
 .clear D F1;obtain⟨c,F,_,rfl,HF,d,C,Y,Fr⟩:=hrel;have gT:=Fr.size;have r:F.length<=c/\∀f∈F,f<c:=by rw[HF];exact xW S c
  obtain⟨W,m,c4,rfl,n⟩:=d.open;obtain⟨a5,G,c5,rfl,NV⟩:=C.open;have Hn4:Z_ (m=F.length):=by show _=_;rw[n];simp[sv]
  have Hn5:Z_ (G=F.length):=by show _=_;rw[NV];simp[nv]
  have ax5:=r.1;clear n NV r;obtain⟨b,Vg⟩:∃b,b=wr:=⟨_,rfl⟩;subst Vg;obtain⟨go,iD⟩:∃go,go=gk:=⟨_,rfl⟩;subst iD;by_cases aL:c<256
  .go_wp2_with fail;go_loopg [7,8] S.length (λk v7 v8 wr=>∃(i:Nat),i+k=S.length/\v8=zI i/\v7=zT ((tu S c).take i)/\b=wr);exact⟨0,by omega,rfl,rfl,rfl⟩
   .obtain⟨i,_,rfl,rfl,rfl⟩:=hrel;have l:(tu S c).length=S.length:=by simp[tu]
    have Bh:((tu S c).take i).length=i:=by rw[a1k,l];omega
    have eG:=bL ((tu S c).take i);rw[Bh]at eG;by_cases hi:i<S.length
    .obtain⟨s,J⟩:∃s,S[i]?=some s:=⟨S[i],a0a hi⟩;obtain⟨q,hq,uT⟩:=X.get i s J;obtain⟨_,rfl,_,_,JK⟩:=Y.cell (j:=i) (u:=aM q) (by rw[a0Q,hq];rfl);unfold aM at JK;have z:RN b q (.one s):=RN.aY (dX.of Fr) uT;have kG:=RK.cin z c (s.testBit c) (Ib s c aL);have Ht:=ang S c i s J;have Z:=mf ((tu S c).take i);have x:bs [49]=⟨#[49]⟩:=rfl;have y:bs [48]=⟨#[48]⟩:=rfl;have U:=Z [49];have T:=Z [48];rw[x]at U;rw[y]at T;clear uT z hq J Z x y;cases Rw:s.testBit c;all_goals
      rw[Rw]at kG Ht;simp only[a0A,a0I,a0G]at Ht;go_wp2;go_roundg (gk-1);exact⟨i+1,by omega,by go_num,by rw[Ht],rfl⟩;omega
    have M:i=S.length:=by omega
    subst M;have I:(tu S c).take S.length=tu S c:=a0C (by rw[l];exact a0b _);rw[I]at eG |-;clear Bh;have RSn:RS 0 b (.slice W m c4) (F.map (tu S)):=(d.sl.rs (by rw[a0y];omega)).base (a1G _);have NF:=wh (.slice W m c4) (F.map (tu S)) (tu S c) b RSn;clear RSn;go_wp2_with fail;refine NF.mono ?_;rintro e _ ⟨rfl,rfl⟩;have g:Z_ (gP S (c+1)=if kU S F c==F.length then F++[c] else F):=by show _=_;rw[HF];rfl
    rcases anf S F c with⟨P,O⟩|⟨P,O⟩
    .rw[O]at g;simp only[a0G]at g;generalize oI (F.map (tu S)) (tu S c)=fi at P |-;go_wp2_with (first | (at_builtin;refine DL _ rfl _ _ 46 9 _ 16 uY Tryz.underlying46 rfl rfl w.heap.size (.slice W m c4) (sv (F.map (tu S))) (m+1) b.heap.size (zT (tu S c)) (by rw[Hn4.o];simp[sv]) rfl (d.aC zG (by simp)) rfl (mi _ _ _ _ rfl) rfl (by simp[sv];omega) (by simp[sv];omega) (by simp;omega) ?_;intro _ _ w7 O7 a R H;have B:=OV.other (d.aC zG (by simp)) (C.aC zG (by simp)) (by decide) a;have P3:=OV.other (d.aC zG (by simp)) (Y.aC zG (by simp)) (by decide) a;have F7:=(Fr.alloc _).grown a (λk L=>.inr (d.base k L));have z7:=a.size;clear a R H)|(at_builtin;refine DL _ rfl _ _ 63 3 _ 8 ZB Tryz.underlying63 rfl rfl w.heap.size (.slice a5 G c5) (nv .i64 F) (G+1) w7.heap.size (zI c) (by rw[Hn5.o];simp[nv]) rfl (B.aC zG (by simp)) rfl (mi _ _ _ _ rfl) rfl (by simp[nv];omega) (by simp[nv];omega) (by simp at z7 |-;omega) ?_;intro _ _ _ O8 a R H;have Q4:=OV.other (B.aC zG (by simp)) (O7.aC zG (by simp)) (by decide) a;have Q3:=OV.other (B.aC zG (by simp)) (P3.aC zG (by simp)) (by decide) a;have F8:=(F7.alloc _).grown a (λk L=>.inr (B.base k L));clear a R H));go_roundg (go-1)
     .refine⟨c+1,F++[c],by omega,by go_num,g.o.symm,?_,?_,Q3,F8⟩
      .have:=Q4;simpa[sv] using this
      have:=O8;simpa[nv] using this
     omega
    rw[O]at g;simp only[a0A,a0I]at g;generalize oI (F.map (tu S)) (tu S c)=fi at P |-;go_wp2;go_roundg (go-1);exact⟨c+1,F,by omega,by go_num,g.o.symm,d,C,Y,Fr⟩;omega
  have N:c=256:=by omega
  subst N;go_wp2;go_ret;refine⟨_,rfl,?_,Fr⟩;rw[<-HF];exact C
def OZ(e:TypeId)(z:Value)(base:Nat)(w:World)(v:Value)(xs:List Value):Prop:=∃g m,v=zS g xs.length (xs.length+m)/\base<=g/\xs.length+m<=maxLen /\
 w.heap[g]?=some (.cells (xs++List.replicate m z).toArray e (0,0))
def OZ.ov {z base}(h:OZ e z base w v xs):OV e base w v xs:=by obtain⟨g,m,rfl,hb,a,b⟩:=h;refine⟨by simp,.inr ⟨g,xs.length+m,_,by simp,hb,b,by simp,a,by simp,?_⟩⟩;simp
theorem OZ.aC {z base}(h:OZ e z base w v xs)(f:aB S w w')(d:∀k,k∈S->k<base):OZ e z base w' v xs:=by obtain⟨g,m,rfl,hb,b,a⟩:=h;exact⟨g,m,rfl,hb,b,(f.block g (a0c.1 a).1 (λc=>by have:=d g c;omega)).trans a⟩
def OZ.other {z base}(h:OZ e z base w v xs)(j:OV e2 base w v2 xs2)(k:e2≠e)(i:w.grownBy w' v2.ownBlock):OZ e z base w' v xs:=by
 obtain⟨g,m,rfl,hb,f,b⟩:=h;refine⟨g,m,rfl,hb,f,(i.block g (a0c.1 b).1 ?_).trans b⟩;intro a;rcases j.2 with⟨d,l⟩|⟨n,_,_,d,_,c,_⟩
 .rw[d]at a;simp[Value.ownBlock]at a
 rw[d]at a;simp[Value.ownBlock]at a;subst a;rw[b]at c;simp at c;exact k c.2.symm
theorem OZ.lit {z:Value} {base:Nat}(w:World)(u:Value)(hb:base<=w.heap.size):OZ e z base (w.alloc (.cells #[u] e)) (zS w.heap.size 1 1) [u] :=
 ⟨w.heap.size,0,by simp,hb,by unfold maxLen;simp,heap_alloc_new w _⟩
theorem aj8(z)(hz:z.cells=#[z])(k):Builtin.zeroCells z.cells k=(List.replicate k z).toArray:=by
 rw[hz];apply Array.ext
 .simp[Builtin.zeroCells]
 intro i b a;simp[Builtin.zeroCells,Nat.mod_one]
theorem KT.row {z g m u}(he:e≠191)(hz:∀q,z≠.pointer (some q))(c:w.heap[g]?=some (.cells (xs++List.replicate (m+1) z).toArray e (0,0))) :
 KT w (w.setRow g (xs++[u]++List.replicate m z).toArray):=by
 refine⟨λk cur fz b=>setRow_other w g k _ ?_,λk j q b=>?_⟩
 .grind
 by_cases a:k=g
 .subst a;rw[cell_setRow_same w k j _ _ _ _ c];rw[cell_of_row w k j _ _ _ c]at b;simp[List.getElem?_toArray]at b |-;by_cases d:j<xs.length
  .grind
  grind
 have:=setRow_other w g k (xs++[u]++List.replicate m z).toArray a;unfold World.cell? at b |-;simp only[this];omega
theorem afq {o} {Q:Exit->Act->World->Prop}(w)(L:o.guard=none)(s x t e z E)
 (V:(Tryz.prog.info? e).map (λi=>(i.zero,i.size,i.bytes))=some (some z,1,E)) (ht:Tryz.prog.underlying t=some (.slice e)) (U:z.cells=#[z]) (he:e≠191) (p:∀q,z≠.pointer (some q)) (I:E<=1000)
 (ho:o.op=.call { callee:=.builtin .append,args:=#[s,x],argTypes:=#[t,t] })
 (base v xs N b1 u) (R:N=xs.length+1) (G:a.eval s=v) (T:OZ e z base w v xs) (F:a.eval x=zS b1 1 1)
 (Y:zC w b1 0 u) (M:u.oneCell'=true) (hlen:xs.length<=1000) (J:base<=w.heap.size)
 (h:∀g cap w',OZ e z base w' (zS g N cap) (xs++[u])->w.grownBy w' v.ownBlock->KT w w'->wpList Tryz.prog ops Q rest (a.put o.dst (zS g N cap)) w') :
 wpList Tryz.prog ops Q (o::rest) a w:=by
 subst R;obtain⟨f,hi,gT,n,S⟩:=info_parts V;obtain⟨g,m,rfl,hb,X,l⟩:=T;have d:∀j y,[u][j]?=some y->w.cell? (((zA b1):Addr).add j)=some y:=by grind [add0]
 have W:(xs.length+1)*E<=1001*1000:=a0D (by omega) I;refine wpList_plain L λ_ H=>?_;by_cases D:m=0
 .subst D;have c:=run_append_grow w t o.type e f z ht hi gT (zA g) xs.length (xs.length+0) xs (by simp[n]) (by intro j y O;rw[show((zA g):Addr).add j=(zB g j) by rw[Addr.add_mid];simp,cell_of_row w g j _ _ _ l];simpa using O) (zA b1) 1 1 [u] (by simp[n]) d (by omega) (by omega) (by rw[S];exact growslice_fits (by omega) (by omega));have A:=grownCap_ge w (xs.length+1) (xs.length+0) e;have C:grownCap w (xs.length+1) (xs.length+0) e<=maxLen:=grownCap_le_maxLen w (xs.length+1) _ _ (by unfold maxLen;omega);rw[aj8 _ U]at c;generalize grownCap w (xs.length+1) (xs.length+0) e=gc at c A C;have he:xs.toArray++[u].toArray++(List.replicate (gc-(xs.length+1)) z).toArray=(xs++[u]++List.replicate (gc-(xs.length+1)) z).toArray:=by simp
  rw[he]at c;unfold Oper.wp execOp;simp only[ho,resolve,invoke,builtin,Sem.run_bind,Sem.run_pure,Result.andThen_ok,List.map_toArray,a0E,a1V,G,F,c];refine H _ _ (h _ _ _ ?_ ?_ ?_)
  .refine⟨w.heap.size,gc-(xs.length+1),?_,J,?_,?_⟩
   .simp;omega
   .simp;omega
   exact heap_alloc_new w.drew _
  .exact⟨rfl,rfl,rfl,by simp,λk r _=>heap_alloc_old w.drew _ r⟩
  exact KT.aC (((aB.refl [] w).drew).alloc _)
 obtain⟨b,rfl⟩:∃b,m=b+1:=⟨m-1,by omega⟩;have c:=run_append_room w t o.type e f ht hi g xs.length (xs.length+(b+1)) _ l (zA b1) 1 1 [u] (by simp[n]) d (by simpa using M) (by omega) (by simp[n]);have B:((xs++List.replicate (b+1) z).toArray.toList.take (xs.length*f.size)++[u]++(xs++List.replicate (b+1) z).toArray.toList.drop (xs.length*f.size + [u].length)).toArray=(xs++[u]++List.replicate b z).toArray:=by simp_all
 rw[B]at c;unfold Oper.wp execOp;simp only[ho,resolve,invoke,builtin,Sem.run_bind,Sem.run_pure,Result.andThen_ok,List.map_toArray,a0E,a1V,G,F,c];refine H _ _ (h _ _ _ ?_ ?_ ?_)
 .refine⟨g,b,?_,hb,?_,setRow_heap w g _ _ _ _ l⟩
  .simp;omega
  simp;omega
 .exact⟨rfl,rfl,rfl,by simp,λk _ r=>setRow_other w g k _ (λe=>r (by simp[Value.ownBlock,e]))⟩
 exact KT.row he p l
end
section
variable {B S Z:LN} {w w' w1 x:World} {e:Ending} {a ak b cap fb i j k n s t vb xb:Nat} {v va vp:Value} {xs:List Value} {D R U:List NF} {d y:NF}
def anh {base e size}(h:w.ownsRow base e size v n xs)(f:aB S w w')(c:∀k,v.ownBlock=some k->k∉S):w'.ownsRow base e size v n xs:=by
 refine⟨h.1,?_⟩;rcases h.2 with b|⟨g,cap,cur,rfl,hb,a,rest⟩
 .exact .inl b
 refine .inr ⟨g,cap,cur,rfl,hb,?_,rest⟩;rw[f.block g (a0c.1 a).1 (c g rfl)];omega
def Xb(S:LN)(c:Nat):LN:=Xa S c++List.replicate (256-c) 0
def aj9(S c)(b:c<256):(Xb S c).set c (kU S (gP S c) c)=Xb S (c+1):=by
 unfold Xb Xa;rw[a1v _ _ (by simp)];simp only[a0y,List.length_range,a2v];rw[List.range_succ,a0P,a0M];congr 1;obtain⟨k,a⟩:∃k,256-c=k+1:=⟨255-c,by omega⟩;rw[a,show 256-(c+1)=k by omega,List.replicate_succ];rfl
def aa6(base b vs S F1 CL va y w)(B:gP S 256=F1)(i:Xa S 256=CL)(V:BL base w vs S)(I:AB w b 0 (List.replicate 256 0) va y)(hS:S.length<=1000)(Y:vs.ownBlock≠some b) :
 zF 132 #[zP b,vs] w λe w'=>∃v,e=zR v/\UL w.heap.size w' v F1/\AB w' b F1.length CL va y/\aB [b] w w':=by
 obtain⟨j,l,rfl⟩:=aW V;have N:=Y;clear Y;have aL:=I.lt;delta zF;go_in;go_wp2_with fail;go_loopg [5,6] 256 (λk Z vc wr=>∃(c:Nat),c+k=256/\vc=zI c/\UL w.heap.size wr Z (gP S c)/\AB wr b 0 (Xb S c) va y/\aB [b] w wr);case atStart=>refine⟨0,by omega,rfl,World.ownsRow_lit _ #[] 0 (a0b _) (by unfold maxLen;omega) (by simp),?_,zJ⟩;exact I.aC zG (by simp)
 case round =>
  clear I;obtain⟨c,_,rfl,U,A,F⟩:=hrel;obtain⟨t,g,rfl⟩:=aW U;have d:=xW S c;have z:=F.size;by_cases E:c<256
  .clear B i;have T:BL base wr (.slice j S.length l) S:=anh V F (λk G=>by simp;rintro rfl;exact N G);have C:=(afo base (.slice j S.length l) (.slice t (gP S c).length g) S (gP S c) c wr T (xV U) hS (by omega) (λf hf=>by have:=d.2 f hf;omega) E);have s:gP S (c+1)=if kU S (gP S c) c==(gP S c).length then gP S c++[c] else gP S c:=rfl;have n:=aj9 S c E;have Ez:=adD S (gP S c) c;have qR:=d.1;generalize kU S (gP S c) c=m at *;generalize gP S c=F0 at *;clear T d;have u:c<256:=E;go_wp2_with fail
   refine C.mono ?_;rintro e P ⟨rfl,q⟩;have F2:=F.trans (q.mono (by simp));have x:=fG U q (by simp);have r:=A.aC q (by simp);have z2:=q.size;clear q;by_cases X:m=F0.length
   .subst X;have D:gP S (c+1)=F0++[c]:=by rw[s];simp
    have L:(Xb S c).set c F0.length=Xb S (c+1):=n;have H:Value.ownBlock (.slice t F0.length g)≠some b:=λe=>by have:=x.lt _ e;omega
    clear s n C;go_wp2_with (first | (at_builtin;refine apQ _ rfl _ _ rfl w.heap.size (.slice t F0.length g) F0 c P.heap.size rfl (x.alloc _) rfl (j6 _ _ _ _ rfl) (by omega) (by simp;omega) ?_;intro _ _ _ U6 M bq iE;have F5:=aB.fo M;have O:=((λo=>r.aC (S:=[]) (w':=P.alloc o) zJ (by simp)) _).aC F5 (by simpa[a0H] using λe=>H e);have q1:=O.cell c u;have R:=O.fz (1+c);have F6:=(F2.alloc _).grown M (λk G=>Or.inr (x.lt _ G).1);clear M bq iE F5));go_roundg (gk-1)
    .refine⟨c+1,by omega,by go_num,?_,?_,F6.setCell (.inl (by simp)) _⟩
     .rw[D];have:=ownsRow_setCell_below U6 (a:=(zB b (1+c))) (by simp;omega) (.int .u8 F0.length);exact this
     rw[<-L];exact O.set c F0.length u
    omega
   have:((m:Int)==(F0.length:Int))=false:=a0j.2 (by omega);have D:gP S (c+1)=F0:=by rw[s,a0n];simpa using X
   have:=r.cell c u;have R:=r.fz (1+c);clear s C;go_wp2;go_roundg (gk-1)
   .refine⟨c+1,by omega,by go_num,?_,?_,F2.setCell (.inl (by simp)) _⟩
    .rw[D];exact ownsRow_setCell_below x (a:=(zB b (1+c))) (by simp;omega) (.int .u8 m)
    rw[<-n];exact r.set c m u
   omega
  have h:c=256:=by omega
  have:=A.c0;have:=A.fz 0;have W:Xb S c=CL:=by rw[h,<-i];unfold Xb;rw[a2v,List.replicate_zero,a0R]
  have J:gP S c=F1:=by rw[h];exact B
  rw[W]at A;rw[J]at U d;rw[J];clear W J B i h;go_wp2;go_ret;exact⟨.slice t F1.length g,rfl,(ownsRow_setCell_below U (a:=(zA b)) (by simp;omega) (zI F1.length)),A.set0 F1.length,F.setCell (p:=(zA b)) (.inl (by simp)) (zI F1.length)⟩
def Xc(h x:Int):Int:=IntKind.u32.wrap (Go.bits BinOp.xor IntKind.u32 h x*16777619)
def aka(h x w) :
 zF 176 #[.int .u32 h,.int .u32 x] w λe w'=>e=zR (.int .u32 (Xc h x))/\w=w':=by
 have a:Xc h x=IntKind.u32.wrap (Go.bits BinOp.xor IntKind.u32 h x*16777619):=rfl;delta zF;go_in;go_wp2;go_ret;rw[a];exact⟨rfl,rfl⟩
def acu(v u L M w)(E:NL .i64 w v L)(F:NL .i64 w u M)(R:L.length<=10000000000000)(P:M.length<=10000000000000) :
 zF 177 #[v,u] w λe w'=>e=zR (.bool (decide (L=M)))/\∃n,w'=w.drewN n:=by
 obtain⟨a,_,rfl,z⟩:=E;obtain⟨b,S,rfl,t⟩:=F;have I:=aj z;have H:=aj t;clear z t;by_cases p:L.length=M.length
 .have hb:((L.length:Int) != (M.length:Int))=false:=by rw[a1X];omega
  have h:=aj p;clear p;delta zF;go_in;go_wp2_with fail;go_loopg [13] L.length (λk C wr=>∃(j n:Nat),j+k=L.length/\C=zI j/\wr=w.drewN n/\decide (L.drop j=M.drop j)=decide (L=M));case atStart=>exact⟨0,0,by omega,rfl,rfl,rfl⟩
  case round =>
   obtain⟨j,n,O,rfl,c,hd⟩:=hrel;have m:=aj hd;clear hd;by_cases A:j<L.length
   .have f:j<M.length:=by have:=h.o;omega
    obtain⟨g,off,rfl,_,s⟩:=I.o j A;obtain⟨G,q,rfl,_,r⟩:=H.o j f;have:zC wr g (off+j) (zI L[j]):=by rw[c];exact s
    have:zC wr G (q+j) (zI M[j]):=by rw[c];exact r
    have d:Z_ (decide (L=M)=(decide (L[j]=M[j])&&decide (L.drop (j+1)=M.drop (j+1)))):=by
     show _=_;rw[<-m.o,a0k A,a0k f];rw[a0T];simp only[a0U,a0O,List.cons.injEq]
    have l:=aj c;clear s r c m;generalize L[j]=x at *;generalize M[j]=y at *;by_cases B:x=y
    .have D:((x:Int) != (y:Int))=false:=by rw[a1X];omega
     have i:Z_ (decide (L.drop (j+1)=M.drop (j+1))=decide (L=M)):=by show _=_;rw[d.o];simp[B]
     clear d;go_wp2_with fail;go_quiet (fail);go_wp2;go_roundg (gk-1);case measure=>omega
     case rel=>exact⟨j+1,n+_,by omega,by go_num,by rw[l.o,yD],i⟩
    have:((x:Int) != (y:Int))=true:=by rw[a1M];omega
    have i:Z_ (decide (L=M)=false):=by show _=_;rw[d.o];simp[B]
    clear d;go_wp2_with fail;go_quiet (fail);go_wp2;go_ret;rw[i.o,l.o];exact⟨rfl,_,yD _ _ _⟩
   have i:Z_ (decide (L=M)=true):=by
    show _=_;rw[<-m.o,a0i (by omega),a0i (by have:=h.o;omega)];rfl
   have l:=aj c;clear c m;go_wp2;go_ret;rw[i.o];exact⟨rfl,_,l⟩
 have:((L.length:Int) != (M.length:Int))=true:=by rw[a1M];omega
 have d:Z_ (decide (L=M)=false):=by show _=_;rw[a0f];intro e;exact p (by rw[e])
 delta zF;go_in;go_wp2;go_ret;rw[d.o];exact⟨rfl,0,rfl⟩
structure FV where
 kd:Nat
 s:Nat
 fi:Nat
 se:Nat
 vp:Value
 te:Bool
 lk:Nat
 ak:Nat
 lf:Nat
def FV.cells(f:FV):Array Value:=#[zI f.kd,.int .u64 (wd f.s 0),.int .u64 (wd f.s 1),.int .u64 (wd f.s 2),.int .u64 (wd f.s 3),zI f.fi,zI f.se,f.vp,.bool f.te,zI f.lk,zI f.ak,zI f.lf]
def auS(h:Int)(x:Nat):Int:=Xc (Xc h ((x:Int) % 4294967296)) ((x:Int) / 4294967296)
def Qu(h:Int)(L:LN):Int:=L.foldl (λ(h:Int) (n:Nat)=>Xc h ((n:Int) % 4294967296)) h
def aa8(kd fi se:Nat)(W:LN):Int:=W.foldl auS (Xc (Xc ((kd:Int) % 4294967296) ((fi:Int) % 4294967296)) ((se:Int) % 4294967296))
def ws(s:Nat):LN:=[wd s 0,wd s 1,wd s 2,wd s 3]
def Qv(kd s fi se:Nat)(L:LN):Int:=Qu (aa8 kd fi se (ws s)) L
def awt(a b c d w):(Instr.index 236 (.agg #[.int .u64 a,.int .u64 b,.int .u64 c,.int .u64 d]) (zI 0)).run Tryz.prog w=.ok (.int .u64 a) w:=by simp[Instr.index,go_sem,Tryz.underlying236]
def awu(a b c d w):(Instr.index 236 (.agg #[.int .u64 a,.int .u64 b,.int .u64 c,.int .u64 d]) (zI 1)).run Tryz.prog w=.ok (.int .u64 b) w:=by simp[Instr.index,go_sem,Tryz.underlying236]
def awv(a b c d w):(Instr.index 236 (.agg #[.int .u64 a,.int .u64 b,.int .u64 c,.int .u64 d]) (zI 2)).run Tryz.prog w=.ok (.int .u64 c) w:=by simp[Instr.index,go_sem,Tryz.underlying236]
def aww(a b c d w):(Instr.index 236 (.agg #[.int .u64 a,.int .u64 b,.int .u64 c,.int .u64 d]) (zI 3)).run Tryz.prog w=.ok (.int .u64 d) w:=by simp[Instr.index,go_sem,Tryz.underlying236]
theorem ani(f:FV)(L w)(B:NL .i64 w f.vp L)(S:L.length<=10000000000000) :
 Calls Tryz.prog 162 #[.agg f.cells] w λe w'=>e=.returned (.int .u32 (Go.bits BinOp.xor IntKind.u32 (Qv f.kd f.s f.fi f.se L) (Qv f.kd f.s f.fi f.se L / 2 ^ 16)))/\aB [] w w':=by
 obtain⟨kd,s,fi,se,vp,te,lk,ak,lf⟩:=f;simp only at B |-;obtain⟨a,cap,rfl,D⟩:=B;have A:FV.cells ⟨kd,s,fi,se,.slice a L.length cap,te,lk,ak,lf⟩=#[.int .i64 kd,.int .u64 (wd s 0),.int .u64 (wd s 1),.int .u64 (wd s 2),.int .u64 (wd s 3),.int .i64 fi,.int .i64 se,.slice a L.length cap,.bool te,.int .i64 lk,.int .i64 ak,.int .i64 lf]:=rfl;rw[A];clear A;have M:=aj D;have l:=aj aka;have F:Z_ (Qv kd s fi se L=Qu (aa8 kd fi se [wd s 0,wd s 1,wd s 2,wd s 3]) L):=rfl;have U:=jv s 0;have b1:=jv s 1;have b2:=jv s 2;have T:=jv s 3;clear D;generalize wd s 0=d at *;generalize wd s 1=w1 at *;generalize wd s 2=c at *;generalize wd s 3=b at *;go_in;go_wp2_with (go_at_call 176;refine(l.o _ _ _).mono ?_;rintro e w' ⟨rfl,rfl⟩);go_loopg [3,22] 4 (λk t r wr=>∃i:Nat,i+k=4/\r=.int .i64 i/\t=.int .u32 (aa8 kd fi se ([d,w1,c,b].take i))/\wr=w.alloc (.cells #[.int .i64 kd,.int .u64 d,.int .u64 w1,.int .u64 c,.int .u64 b,.int .i64 fi,.int .i64 se,.slice a L.length cap,.bool te,.int .i64 lk,.int .i64 ak,.int .i64 lf] 247));case atStart=>exact⟨0,by omega,rfl,rfl,rfl⟩
 case round =>
  obtain⟨i,R,rfl,rfl,n⟩:=hrel;have N:wr.cell? ⟨w.heap.size,7,none⟩=some (.slice a L.length cap):=by rw[n];have:=bD w (.cells #[.int .i64 kd,.int .u64 d,.int .u64 w1,.int .u64 c,.int .u64 b,.int .i64 fi,.int .i64 se,.slice a L.length cap,.bool te,.int .i64 lk,.int .i64 ak,.int .i64 lf] 247);simp only[World.cell?,this];rfl
  have G:Z_ (aB [] w wr):=by show aB [] w wr;rw[n];exact(aB.refl _ _).alloc _
  have q:=aj n;clear n;rcases(by omega:i=0\/i=1\/i=2\/i=3\/i=4) with rfl|rfl|rfl|rfl|rfl
  .have h:=awt (d:Int) w1 c b;go_wp2_with (go_at_call 176;refine(l.o _ _ _).mono ?_;rintro e w' ⟨rfl,rfl⟩);go_roundg 3;case measure=>omega
   case rel=>exact⟨1,by omega,by go_num,rfl,q⟩
  .have h:=awu (d:Int) w1 c b;go_wp2_with (go_at_call 176;refine(l.o _ _ _).mono ?_;rintro e w' ⟨rfl,rfl⟩);go_roundg 2;case measure=>omega
   case rel=>exact⟨2,by omega,by go_num,rfl,q⟩
  .have h:=awv (d:Int) w1 c b;go_wp2_with (go_at_call 176;refine(l.o _ _ _).mono ?_;rintro e w' ⟨rfl,rfl⟩);go_roundg 1;case measure=>omega
   case rel=>exact⟨3,by omega,by go_num,rfl,q⟩
  .have h:=aww (d:Int) w1 c b;go_wp2_with (go_at_call 176;refine(l.o _ _ _).mono ?_;rintro e w' ⟨rfl,rfl⟩);go_roundg 0;case measure=>omega
   case rel=>exact⟨4,by omega,by go_num,rfl,q⟩
  have I:Z_ (Qv kd s fi se L=Qu (aa8 kd fi se (List.take 4 [d,w1,c,b])) L):=F.o;generalize aa8 kd fi se (List.take 4 [d,w1,c,b])=v at *;clear F;go_wp2_with fail;go_loopg [3,38] L.length (λk t r H=>∃(j:Nat) (x:Int),j+k=L.length/\r=.int .i64 j/\t=.int .u32 x/\Qu x (L.drop j)=Qu v L/\H=wr);case atStart=>exact⟨0,v,by omega,rfl,rfl,rfl,rfl⟩
  case round =>
   obtain⟨j,x,P,rfl,rfl,h,u⟩:=hrel;subst u;have z:=aj h;clear h;by_cases E:j<L.length
   .obtain⟨g,off,rfl,J,C⟩:=M.o j E;have O:=(G.o.cell J (by simp)).trans C;have y:Z_ (Qu (Xc x ((L[j]:Int) % 4294967296)) (L.drop (j+1))=Qu v L):=by
     show _=_;rw[<-z.o,a0k E];rfl
    clear C z;generalize L[j]=m at *;go_wp2_with (go_at_call 176;refine(l.o _ _ _).mono ?_;rintro e w' ⟨rfl,rfl⟩);go_roundg (gk-1);case measure=>omega
    case rel=>exact⟨j+1,_,by omega,by go_num,rfl,y,rfl⟩
   have y:Z_ (Qv kd s fi se L=x):=by
    show _=_;rw[I.o,<-z.o,a0i (by omega)];rfl
   go_wp2;go_ret;rw[y.o];exact⟨rfl,G⟩
def asq(b:s<2 ^ 256)(ht:t<2 ^ 256)(g:wd s 0=wd t 0)(f:wd s 1=wd t 1)(d:wd s 2=wd t 2)(c:wd s 3=wd t 3):s=t:=by
 apply a1D;intro i;by_cases j:i<256
 .have e:∀x,x.testBit i=(wd x (i / 64)).testBit (i % 64):=λx=>by rw[zk _ _ _ (a3i _ (by decide)),show 64*(i / 64)+i % 64=i by omega]
  rw[e s,e t];rcases(by omega:i / 64=0\/i / 64=1\/i / 64=2\/i / 64=3) with h|h|h|h<;>rw[h]
  .rw[g]
  .rw[f]
  .rw[d]
  rw[c]
 have a:(2:Nat) ^ 256<=2 ^ i:=a1r (by omega) (by omega);rw[a1z (a0t b a),a1z (a0t ht a)]
theorem awx(a b c d x y z u w):(Op.equalIn 10000 236 (.agg #[.int .u64 a,.int .u64 b,.int .u64 c,.int .u64 d]) (.agg #[.int .u64 x,.int .u64 y,.int .u64 z,.int .u64 u])).run Tryz.prog w=.ok (a==x&&(b==y&&(c==z&&d==u))) w:=by
 have:=Tryz.underlying234;have:=Tryz.isAgg234;have:=Tryz.sizeOf234;rw[show(10000:Nat)=9999+1 from rfl,Op.equalIn];simp[Sem.run_bind,run_underlying Tryz.underlying236,Result.andThen_ok];simp only[Std.Legacy.Range.forIn_eq_forIn_range',Std.Legacy.Range.size,Nat.sub_zero,Nat.add_sub_cancel,Nat.div_one,List.range'_succ,List.range'_zero,List.forIn_cons,List.forIn_nil];go_simp;by_cases h:a=x<;>by_cases g:b=y<;>by_cases f:c=z<;>by_cases e:d=u<;>simp[h,g,f,e]
def apS(a:s<2 ^ 256)(ht:t<2 ^ 256)(w):(Op.equalIn 10000 236 (.agg #[.int .u64 (wd s 0),.int .u64 (wd s 1),.int .u64 (wd s 2),.int .u64 (wd s 3)]) (.agg #[.int .u64 (wd t 0),.int .u64 (wd t 1),.int .u64 (wd t 2),.int .u64 (wd t 3)])).run Tryz.prog w=.ok (decide (s=t)) w:=by
 rw[awx];congr 1;rw[a0T];simp only[a0O,a0W,a0U,a2N];constructor
 .rintro⟨e,d,c,b⟩;exact asq a ht (by omega) (by omega) (by omega) (by omega)
 rintro rfl;omega
def anj(f g:FV)(L M w)(y:NL .i64 w f.vp L)(z:NL .i64 w g.vp M)(I:L.length<=10000000000000)(H:M.length<=10000000000000)(A:f.s<2 ^ 256)(ht:g.s<2 ^ 256) :
 zF 163 #[.agg f.cells,.agg g.cells] w λe w'=>e=zR (.bool (decide (f.kd=g.kd/\f.fi=g.fi/\f.se=g.se/\f.s=g.s/\L=M)))/\aB [] w w':=by
 obtain⟨kd,s,fi,se,_,te,lk,ak,lf⟩:=f;obtain⟨d,s2,h,c,D,j,k,p,l⟩:=g;simp only at y z A ht |-;obtain⟨a,cap,rfl,C⟩:=y;obtain⟨b,q,rfl,B⟩:=z;have SL:=λ(o E:Obj)=>acu (.slice a L.length cap) (.slice b M.length q) L M ((w.alloc o).alloc E) (NL.aC (S:=[]) ⟨a,cap,rfl,C⟩ (zJ.alloc _) (by simp)) (NL.aC (S:=[]) ⟨b,q,rfl,B⟩ (zJ.alloc _) (by simp)) I H;have u1:FV.cells ⟨kd,s,fi,se,.slice a L.length cap,te,lk,ak,lf⟩=#[zI kd,.int .u64 (wd s 0),.int .u64 (wd s 1),.int .u64 (wd s 2),.int .u64 (wd s 3),zI fi,zI se,.slice a L.length cap,.bool te,zI lk,zI ak,zI lf]:=rfl;have u2:FV.cells ⟨d,s2,h,c,.slice b M.length q,j,k,p,l⟩=#[zI d,.int .u64 (wd s2 0),.int .u64 (wd s2 1),.int .u64 (wd s2 2),.int .u64 (wd s2 3),zI h,zI c,.slice b M.length q,.bool j,zI k,zI p,zI l]:=rfl;rw[u1,u2];clear u1 u2 C B;by_cases t:kd=d
 case neg =>
  have n1:((kd:Int) != (d:Int))=true:=by rw[a1M];omega
  have i:decide (kd=d/\fi=h/\se=c/\s=s2/\L=M)=false:=by simp[t]
  delta zF;go_in;go_wp2;go_ret;rw[i];exact⟨rfl,zJ.alloc _⟩
 have:((kd:Int) != (d:Int))=false:=by rw[a1X];omega
 by_cases u:fi=h
 case neg =>
  have G:((fi:Int) != (h:Int))=true:=by rw[a1M];omega
  have i:decide (kd=d/\fi=h/\se=c/\s=s2/\L=M)=false:=by simp[u]
  delta zF;go_in;go_wp2;go_ret;rw[i];exact⟨rfl,zJ.alloc _⟩
 have:((fi:Int) != (h:Int))=false:=by rw[a1X];omega
 by_cases he:se=c
 case neg =>
  have F:((se:Int) != (c:Int))=true:=by rw[a1M];omega
  have i:decide (kd=d/\fi=h/\se=c/\s=s2/\L=M)=false:=by simp[he]
  delta zF;go_in;go_wp2;go_ret;rw[i];exact⟨rfl,zJ.alloc _⟩
 have:((se:Int) != (c:Int))=false:=by rw[a1X];omega
 have i:decide (kd=d/\fi=h/\se=c/\s=s2/\L=M)=decide (s=s2/\L=M):=by simp[t,u,he]
 clear t u he;have r:=apS A ht;by_cases m:s=s2
 case neg =>
  have v:decide (s=s2/\L=M)=false:=by simp[m]
  have x:∀w,_:=λw=>(r w).trans (by rw[a0f m]);clear r;delta zF;go_in;go_wp2;go_ret;rw[i,v];exact⟨rfl,zJ.alloc _⟩
 have v:decide (s=s2/\L=M)=decide (L=M):=by simp[m]
 have:∀w,_:=λw=>(r w).trans (by rw[a0g m]);clear r m;delta zF;go_in;go_wp2_with (go_at_call 177;refine(SL _ _).mono ?_;rintro e _ ⟨rfl,n,rfl⟩);go_ret;rw[i,v];exact⟨rfl,aB.drewN n (zJ.alloc _)⟩
def FT(w:World)(fb:Nat)(va:Value)(B:LN)(ak:Nat):Prop :=
 w.heap[fb]?=some (.cells (va::(nv .i64 B++[zI ak])).toArray 251 (0,0))/\B.length=1024
theorem FT.lt(h:FT w fb va B ak):fb<w.heap.size:=(a0c.1 h.1).1
theorem FT.fz(h:FT w fb va B ak)(o):w.frozen? (zB fb o)=false:=by simp[World.frozen?,h.1]
theorem FT.aC(h:FT w fb va B ak)(f:aB S w w')(a:fb∉S):FT w' fb va B ak:=⟨(f.block fb h.lt a).trans h.1,h.2⟩
theorem FT.c0(h:FT w fb va B ak):zC w fb 0 va:=by simp[World.cell?,h.1]
theorem FT.cell(h:FT w fb va B ak)(c)(a:c<1024):zC w fb (1+c) (zI (B.getD c 0)):=by
 have b:c<B.length:=by rw[h.2];omega
 have e:(va::(nv .i64 B++[zI ak]))[1+c]?=some (zI (B.getD c 0)):=by grind [nv]
 simp[World.cell?,h.1];simpa using e
theorem FT.awy(h:FT w fb va B ak):w.cell? ⟨fb,1025,none⟩=some (.int .i64 ak):=by
 have e:(va::(nv .i64 B++[.int .i64 ak]))[1025]?=some (.int .i64 ak):=by rw[a1m,a0K (by simp[nv,h.2])];simp[nv,h.2]
 simp only[World.cell?,h.1];simpa using e
theorem FT.apT(h:FT w fb va B ak)(c m:Nat)(a:c<1024):FT (w.setCell (zB fb (1+c)) (zI m)) fb va (B.set c m) ak:=by
 refine⟨?_,by rw[a3p];exact h.2⟩;have d:c<B.length:=by rw[h.2];omega
 have e:(va::(nv .i64 B++[zI ak])).set (1+c) (zI m)=va::(nv .i64 (B.set c m)++[zI ak]):=by grind [nv,Nat.add_comm,List.set_append_left,List.map_set]
 have b:=h.1;simp only[World.setCell,a0v,b,a0G,a1x];rw[<-e];simp
def FT.set0(h:FT w fb va B ak)(m):FT (w.setCell (zA fb) m) fb m B ak:=by refine⟨?_,h.2⟩;have a:=h.1;simp only[World.setCell,a0v,a,a0G,a1x];simp
def FT.agr(h:FT w fb va B ak)(m:Nat):FT (w.setCell (zB fb 1025) (zI m)) fb va B m:=by
 refine⟨?_,h.2⟩;have e:(va::(nv .i64 B++[zI ak])).set 1025 (zI m)=va::(nv .i64 B++[zI m]):=by rw[a1S,a1v _ _ (by simp[nv,h.2])];simp[nv,h.2]
 have a:=h.1;simp only[World.setCell,a0v,a,a0G,a1x];rw[<-e];simp
def fv(L:List FV):List Value:=L.flatMap λf=>f.cells.toList
def adF:Value:=.agg #[zI 0,.int .u64 0,.int .u64 0,.int .u64 0,.int .u64 0,zI 0,zI 0,zN,.bool false,zI 0,zI 0,zI 0]
def adG:(Tryz.prog.info? 247).map (λi=>(i.zero,i.size,i.bytes))=some (some adF,12,112):=by kernel_rfl
def asr(L j k)(d:k<12)(f)(a:L[j]?=some f):(fv L)[j*12+k]?=f.cells.toList[k]?:=by
 induction L generalizing j with
 | nil=>simp at a
 | cons g L b =>
   have c:g.cells.toList.length=12:=by simp[FV.cells]
   cases j with
   | zero=>simp at a;subst a;simp[fv,a1i];rw[a0s (by omega)];simp
   | succ j=>simp only[fv,a1i];rw[a0K (by omega),show(j+1)*12+k-g.cells.toList.length=j*12+k by omega];exact b j (by simpa using a)
def FL(base:Nat)(w:World)(v:Value)(L:List FV):Prop:=w.ownsRow base 247 12 v L.length (fv L)
theorem ahC {ops rest o a} {Q:Exit->Act->World->Prop}(w)(d:o.guard=none)(s x)
 (ho:o.op=.call { callee:=.builtin .append,args:=#[s,x],argTypes:=#[248,248] })
 (base v L f b1) (l:a.eval s=v) (t:FL base w v L) (i:a.eval x=zS b1 1 1)
 (p:w.heap[b1]?=some (.cells f.cells 247 (0,0))) (k:f.vp.oneCell'=true) (hlen:L.length<=1000000000000) (c:base<=w.heap.size)
 (h:∀g cap w',FL base w' (zS g (L.length+1) cap) (L++[f])->w.grownBy w' v.ownBlock->(v.ownBlock=some g\/g=w.heap.size)->g<w'.heap.size->wpList Tryz.prog ops Q rest (a.put o.dst (zS g (L.length+1) cap)) w') :
 wpList Tryz.prog ops Q (o::rest) a w:=by
 obtain⟨e,n,gT,r,q⟩:=info_parts adG;refine wpList_append_lies w d s x 248 ho base 247 e adF 12 112 Tryz.underlying248 n gT r q rfl (by decide) v L.length (fv L) l t (zA b1) 1 1 f.cells.toList i (by simp[FV.cells]) ?_ ?_ (by decide) (by unfold maxLen;omega) (by omega) c w.heap.size rfl ?_
 .intro j u m;rw[add0];simp[World.cell?,p];simpa using m
 .intro u b;simp[FV.cells,a0l,a1U,a2V]at b;rcases b with rfl|rfl|rfl|rfl|rfl|rfl|rfl|rfl|rfl|rfl|rfl|rfl<;>first | exact k|rfl
 grind [FL,fv]
def alE(w:World)(a n)(h:n=w.heap.size):(w.alloc a).heap[n]?=some a:=by subst h;exact bD w a
theorem aa9:Tryz.zeroCells251=(Value.slice none 0 0::(nv .i64 (List.replicate 1024 0)++[zI 0])).toArray:=by kernel_rfl
def FT.new(w:World):FT (w.alloc (Obj.cells Tryz.zeroCells251 251)) w.heap.size zN (List.replicate 1024 0) 0:=by refine⟨?_,List.length_replicate⟩;rw[aa9];exact bD _ _
def fv0:FV:=⟨0,0,0,0,zN,false,0,0,0⟩
def fv1:FV:=⟨1,0,0,0,zN,true,0,0,0⟩
theorem awz:fv0.cells=#[zI 0,.int .u64 0,.int .u64 0,.int .u64 0,.int .u64 0,zI 0,zI 0,zN,.bool false,zI 0,zI 0,zI 0]:=by kernel_rfl
theorem awC:fv1.cells=#[zI 1,.int .u64 0,.int .u64 0,.int .u64 0,.int .u64 0,zI 0,zI 0,zN,.bool true,zI 0,zI 0,zI 0]:=by kernel_rfl
def sz2(w:World)(a b):w.heap.size+1<=((w.alloc a).alloc b).heap.size:=by
 have d:(w.alloc a).heap.size=w.heap.size+1:=by simp
 have c:((w.alloc a).alloc b).heap.size=(w.alloc a).heap.size+1:=by simp
 omega
def acv(w) :
 zF 133 #[] w λe w'=>∃va,e=zR (zP w.heap.size)/\FT w' w.heap.size va (List.replicate 1024 0) 0/\FL (w.heap.size+1) w' va [fv0,fv1]/\aB [] w w':=by
 have:∀h,Tryz.zeroCells251[0]'h=zN:=by intro h;simp only[aa9];rfl
 have x:=FT.new w;have v:∀o,aB [] w (w.alloc o):=λo=>zJ;delta zF;go_in;go_wp2_with (first | (at_builtin;refine ahC _ rfl _ _ rfl _ zN [] fv0 (w.heap.size+1) rfl (World.ownsRow_nil _ _ _ _) rfl (by rw[awz];exact alE _ _ _ (by simp)) rfl (by simp) (sz2 _ _ _) ?_;intro j p D d b l I;have F5:=aB.fo b;have g:=(x.aC zG (by simp)).aC F5 (by simp[Value.ownBlock]);have r:=g.set0 (zS j 1 p);have:=g.c0;have:=g.fz 0;have m:=ownsRow_setCell_below d (a:=(zA w.heap.size)) (by simp) (zS j 1 p);have q:=((v _).alloc _).grown b (λk i=>by simp[Value.ownBlock]at i);have:=a0h (sz2 _ _ _) b.size;clear d b l F5 g)|(at_builtin;refine ahC _ rfl _ _ rfl (w.heap.size+1) (.slice (some ⟨_,0,none⟩) 1 _) [fv0] fv1 _ rfl (m.alloc _) rfl (by rw[awC];exact alE _ _ _ (by simp)) rfl (by simp) (by first | (simp;done)|(simp;omega)) ?_;intro n c C d b l t;have:w.heap.size+1<=j:=(m.lt _ rfl).1;have f:=(r.aC zG (by simp)).aC (aB.fo b) (by simp[Value.ownBlock];omega);have:=f.c0;have:=f.fz 0;have z:=f.set0 (zS n 2 c);have u:=ownsRow_setCell_below d (a:=(zA w.heap.size)) (a3j _) (zS n 2 c);have y:=(((q.setCell (.inr (a0b _)) _).alloc _).grown b (λk i=>Or.inr (by simp[Value.ownBlock]at i;omega)));clear d b l f m r q));go_ret;exact⟨_,rfl,z,u,y.setCell (.inr (a0b _)) _⟩
def mO {base e size}(h:w.ownsRow base e size v n xs)(f:aB S w w')(c:∀k,v.ownBlock=some k->k∉S):w'.ownsRow base e size v n xs:=by
 refine⟨h.1,?_⟩;rcases h.2 with b|⟨g,cap,cur,rfl,hb,a,rest⟩
 .exact .inl b
 refine .inr ⟨g,cap,cur,rfl,hb,?_,rest⟩;rw[f.block g (a0c.1 a).1 (c g rfl)];omega
def adH(k:KY):Int:=Go.bits BinOp.xor IntKind.u32 (Qv k.kd k.s k.fi k.se k.L) (Qv k.kd k.s k.fi k.se k.L / 2 ^ 16)
def mV(k:KY):Nat:=(adH k % 1024).toNat
theorem alF(k):mV k<1024:=by unfold mV;omega
def ass(k):adH k % 1024=(mV k:Int):=by unfold mV;omega
def kz(e:FV × LN):KY:=⟨e.1.kd,e.1.s,e.1.fi,e.1.se,e.2⟩
def PL(w:World)(v:Value)(L:LN):Prop :=
 NL .i64 w v L/\(∀a n c,v=.slice (some a) n c->∃cur fz,w.heap[a.block]?=some (.cells cur 3 fz))/\L.length<=10000000000000
def PL.cell1 {L}(h:PL w v L):v.oneCell'=true:=by obtain⟨a,cap,rfl,_⟩:=h.1;rfl
theorem PL.nil(w):PL w zN []:=⟨⟨none,0,rfl,λj h=>by simp at h⟩,λa n c e=>by simp at e,by simp⟩
theorem PL.alG {base L}(h:IL base w v L)(d:L.length<=10000000000000):PL w v L:=by
 refine⟨xV h,?_,d⟩;intro a n c e;rcases h.2 with⟨b,_⟩|⟨g,cap,cur,b,_,f,_⟩
 .rw[b]at e;simp at e
 grind
def qV(w:World)(S:LN):Prop:=∀k∈S,∀cur fz,w.heap[k]?≠some (.cells cur 3 fz)
theorem PL.aC {L}(h:PL w v L)(f:aB S w w')(i:qV w S):PL w' v L:=by
 have d:∀a n c,v=.slice (some a) n c->a.block∉S:=λa n c e g=>by obtain⟨cur,fz,b⟩:=h.2.1 a n c e;exact i _ g cur fz b
 refine⟨h.1.aC f d,?_,h.2.2⟩;intro a n c e;obtain⟨cur,fz,b⟩:=h.2.1 a n c e;exact⟨cur,fz,(f.block _ (a0c.1 b).1 (d a n c e)).trans b⟩
theorem qV.nil(w):qV w []:=λk a=>by simp at a
structure TE(base:Nat)(w:World)(fb vb:Nat)(E:List (FV × LN))(B:LN)(ak:Nat):Prop where
 row:∃cap,FT w fb (zS vb E.length cap) B ak/\FL base w (zS vb E.length cap) (E.map Prod.fst)
 pl:∀e∈E,PL w e.1.vp e.2
 st:∀e∈E,e.1.s<2 ^ 256
 fb:fb<base
 sz:base<=w.heap.size
theorem TE.vbs {base E}(h:TE base w fb vb E B ak) :
 base<=vb/\vb<w.heap.size/\∃cur,w.heap[vb]?=some (.cells cur 247 (0,0)):=by
 obtain⟨cap,_,b⟩:=h.row;have a:=b.lt vb rfl;refine⟨a.1,a.2,?_⟩;rcases b.2 with⟨d,_⟩|⟨g,c,cur,d,_,e,_⟩
 .simp at d
 grind
def TE.wu {base E}(h:TE base w fb vb E B ak):qV w [fb,vb]:=by
 obtain⟨cap,c,_⟩:=h.row;obtain⟨_,_,cur,b⟩:=h.vbs;intro k a d fz;simp only[a0l,a1U,a2V]at a;rcases a with rfl|rfl
 .rw[c.1];simp
 rw[b];simp
theorem TE.aC {base E}(h:TE base w fb vb E B ak)(f:aB S w w')(g:fb∉S)(d:vb∉S)(c:qV w S):TE base w' fb vb E B ak:=by obtain⟨cap,ht,b⟩:=h.row;exact⟨⟨cap,ht.aC f g,mO b f (λk a=>by simp[Value.ownBlock]at a;subst a;omega)⟩,λe he=>(h.pl e he).aC f c,h.st,h.fb,a0h h.sz f.size⟩
theorem TE.aY {base E}(h:TE base w fb vb E B ak)(f:aB [] w w'):TE base w' fb vb E B ak :=
 h.aC f (by simp) (by simp) (qV.nil _)
theorem TE.cell {base E}(h:TE base w fb vb E B ak) {e}(d:E[i]?=some e)(k)(c:k<12) :
 w.cell? (zB vb (i*12+k))=e.1.cells.toList[k]?:=by
 obtain⟨cap,_,b⟩:=h.row;have a:=asr (E.map Prod.fst) i k c e.1 (by simp[d]);have f:=World.ownsRow.cells b (g:=vb) rfl (i*12+k);have j:k<e.1.cells.toList.length:=by simp[FV.cells];omega
 rw[a0a j]at a |-;have:=f _ a;rw[add0]at this;omega
structure TP(E:List (FV × LN))(B:LN)(D:List NF)(ak c:Nat):Prop where
 tb:Ru (E.map kz) D
 bu:∀b,b<1024->B.getD b 0=lastB mV (E.map kz) b E.length
 lk:∀(i:Nat) (e:FV × LN),2<=i->E[i]?=some e->e.1.lk=lastB mV (E.map kz) (mV (kz e)) i
 te:∀(i:Nat) (e:FV × LN) (d:NF),E[i]?=some e->D[i]?=some d->e.1.te=dK d
 al:∀e∈E,e.1.ak<=ak
 mm:1<=ak->∀(i:Nat) (e:FV × LN) (d:NF),E[i]?=some e->D[i]?=some d->e.1.ak=ak->D[e.1.lf]?=some (left c d)
theorem TP.len {E c}(h:TP E B D ak c):E.length=D.length:=by have:=h.tb.len;simpa using this
def TP.two {E c}(h:TP E B D ak c):2<=E.length:=by rw[h.len];exact h.tb.two
theorem TP.push {E c}(h:TP E B D ak c)(w:B.length=1024) {f L}
 (q:Ky D D.length (kz (f,L)) d) (p:WC d) (hd:d∉D) (y:f.te=dK d) (t:f.lk=B.getD (mV (kz (f,L))) 0) (v:f.ak=0) :
 TP (E++[(f,L)]) (B.set (mV (kz (f,L))) E.length) (D++[d]) ak c:=by
 have u:=h.len;have x:=h.two;have j:(E.map kz).length=E.length:=by simp
 refine⟨?_,?_,?_,?_,?_,?_⟩
 .rw[a0P];exact h.tb.push q p hd
 .intro b hb;rw[a0P,a0p];show _=lastB mV (E.map kz++[kz (f,L)]) b (E.length+1);have e:=ajs mV (E.map kz) (kz (f,L)) b (by omega);rw[j]at e;rw[e];by_cases n:mV (kz (f,L))=b
  .grind
  rw[a0n n,<-h.bu b hb];simp[List.getD,List.getElem?_set,n]
 .intro i e r he;rw[a0P];show _=lastB mV (E.map kz++[kz (f,L)]) _ i;have o:=(a0d.1 he).1;simp at o;rw[Kg _ _ _ _ _ (by omega)];by_cases a:i<E.length
  .rw[a0s a]at he;exact h.lk i e r he
  have:i=E.length:=by omega
  subst this;simp at he;subst he;rw[<-h.bu _ (alF _)];omega
 .intro i e l he g;by_cases a:i<E.length
  .rw[a0s a]at he;rw[a0s (by omega)]at g;exact h.te i e l he g
  grind
 .intro e he;rcases a0e.1 he with m|m
  .exact h.al e m
  grind
 intro s i e l he g k;by_cases a:i<E.length
 .rw[a0s a]at he;rw[a0s (by omega)]at g;have:=h.mm s i e l he g k;have hb:=(a0d.1 this).1;rw[a0s hb];omega
 grind
def ZZ(w:World)(E:List (FV × LN))(Z:LN):Prop:=(∀k∈Z,k<w.heap.size)/\∀e∈E,∀x n c,e.1.vp=.slice (some x) n c->x.block∉Z
theorem ZZ.mono {E}(h:ZZ w E Z)(a:w.heap.size<=w'.heap.size):ZZ w' E Z:=⟨λk b=>a0t (h.1 k b) a,h.2⟩
def ST(base:Nat)(w:World)(fb vb:Nat)(D:List NF)(ak c:Nat)(U:List NF)(Z:LN):Prop :=
 ∃E B,TE base w fb vb E B ak/\TP E B D ak c/\(∀x∈D,x∈U)/\U.length<=1000000000000/\ZZ w E Z
theorem ST.len {base c}(h:ST base w fb vb D ak c U Z):D.length<=1000000000000:=by obtain⟨E,B,_,d,b,a,_⟩:=h;exact a0h (qP d.tb.nd b) a
theorem ST.aY {base c}(h:ST base w fb vb D ak c U Z)(f:aB [] w w'):ST base w' fb vb D ak c U Z:=by obtain⟨E,B,g,e,d,b,a⟩:=h;exact⟨E,B,g.aY f,e,d,b,a.mono f.size⟩
theorem ST.aC {base c}(h:ST base w fb vb D ak c U Z)(f:aB S w w')(i:fb∉S)(g:vb∉S)(e:qV w S):ST base w' fb vb D ak c U Z:=by obtain⟨E,B,k1,k2,d,b,a⟩:=h;exact⟨E,B,k1.aC f i g e,k2,d,b,a.mono f.size⟩
structure FQ(fb vb jS:Nat)(w w':World):Prop where
 fr:aB [fb,vb] w w'
 mv:jS=vb\/w.heap.size<=jS
theorem FQ.refl(fb vb w):FQ fb vb vb w w:=⟨zK,.inl rfl⟩
theorem FQ.trans{c y z}(h:FQ fb a b x y)(k:FQ fb b c y z):FQ fb a c x z:=by
 refine⟨⟨k.fr.os.trans h.fr.os,k.fr.tape.trans h.fr.tape,k.fr.output.trans h.fr.output,a0h h.fr.size k.fr.size,λi g f=>?_⟩,?_⟩
 .refine(k.fr.block i (a0t g h.fr.size) ?_).trans (h.fr.block i g f);simp only[a0l,a1U,a2V,not_or]at f |-;refine⟨f.1,λe=>?_⟩;rcases h.mv with d|d
  .exact f.2 (e.trans d)
  omega
 have:=h.fr.size;rcases k.mv with e|e
 .rcases h.mv with d|d;all_goals grind
 omega
def FQ.aba{y z}(h:aB [] x y)(k:FQ fb a b y z):FQ fb a b x z :=
 FQ.trans ⟨h.nil,.inl rfl⟩ k
theorem FQ.keepR{y z}(h:FQ fb a b x y)(k:aB [] y z):FQ fb a b x z :=
 h.trans ⟨k.nil,.inl rfl⟩
theorem FQ.block{y}(h:FQ fb a b x y)(c:k<x.heap.size)(e:k≠fb)(d:k≠a):y.heap[k]?=x.heap[k]?:=h.fr.block k c (by simp[e,d])
def Vq(a b):0<=Go.bits BinOp.xor IntKind.u32 a b:=by show 0<=IntKind.u32.wrap ((BitVec.ofInt 32 a ^^^ BitVec.ofInt 32 b).toNat:Int);simp[IntKind.wrap,IntKind.bits,IntKind.signed];omega
theorem Tt(k):0<=adH k:=Vq _ _
def ank(k):(adH k).tmod 1024=(mV k:Int):=by rw[a2f (Tt k)];exact ass k
def RQ(base:Nat)(w:World)(fb vb:Nat)(D:List NF)(ak c:Nat)(U:List NF)(Z:LN)(y:NF)(e:Ending)(w':World):Prop :=
 ∃a R r,e=zR (zI (r:Nat))/\ST base w' fb a (D++R) ak c U Z/\(D++R)[r]?=some y/\FQ fb vb a w w'
def TE.apT {base E}(h:TE base w fb vb E B ak)(b n:Nat)(hb:b<1024) :
 TE base (w.setCell (zB fb (1+b)) (zI n)) fb vb E (B.set b n) ak:=by
 obtain⟨cap,ht,c⟩:=h.row;have F:aB [fb] w (w.setCell (zB fb (1+b)) (zI n)):=zK.setCell (.inl (by simp)) _;have f:=h.vbs;have d:=h.fb;refine⟨⟨cap,ht.apT b n hb,mO c F λk a=>by simp[Value.ownBlock]at a;subst a;simp;omega⟩,λe he=>(h.pl e he).aC F ?_,h.st,h.fb,?_⟩
 .intro k a;exact h.wu k (by simp at a;simp[a])
 exact a0h h.sz F.size
def TE.agr {base E}(h:TE base w fb vb E B ak)(n:Nat) :
 TE base (w.setCell (zB fb 1025) (zI n)) fb vb E B n:=by
 obtain⟨cap,ht,b⟩:=h.row;have F:aB [fb] w (w.setCell (zB fb 1025) (zI n)):=zK.setCell (.inl (by simp)) _;have d:=h.vbs;have c:=h.fb;refine⟨⟨cap,ht.agr n,mO b F λk a=>by simp[Value.ownBlock]at a;subst a;simp;omega⟩,λe he=>(h.pl e he).aC F ?_,h.st,h.fb,?_⟩
 .intro k a;exact h.wu k (by simp at a;simp[a])
 exact a0h h.sz F.size
theorem TE.grow {base g E f L}(h:TE base w fb vb E B ak)(d:PL w f.vp L)(n:f.s<2 ^ 256)
 (i:w.grownBy w' (some vb)) (l:w'.ownsRow base 247 12 (zS g (E.length+1) cap) (E.length+1) (fv (E.map Prod.fst)++f.cells.toList)) :
 TE base (w'.setCell (zA fb) (zS g (E.length+1) cap)) fb g (E++[(f,L)]) B ak:=by
 obtain⟨p,ht,o⟩:=h.row;have m:=h.vbs;have c:=h.fb;have F:=aB.fo i;have F2:aB [fb] w' (w'.setCell (zA fb) (zS g (E.length+1) cap)):=zK.setCell (.inl (by simp)) _;have F3:aB [fb,vb] w (w'.setCell (zA fb) (zS g (E.length+1) cap)):=(F.mono (by intro k _ b;simp at b;simp[b])).trans (F2.mono (by intro k _ b;simp at b;simp[b]));have j:=(ht.aC F (by simp;omega)).set0 (zS g (E.length+1) cap);refine⟨⟨cap,by simpa using j,?_⟩,?_,?_,h.fb,a0h h.sz F3.size⟩
 .have:=ownsRow_setCell_below l (a:=(zA fb)) c (zS g (E.length+1) cap);unfold FL;simpa[fv] using this
 .intro e he;rcases a0e.1 he with he|he
  .exact(h.pl e he).aC F3 h.wu
  simp at he;subst he;exact d.aC F3 h.wu
 intro e he;rcases a0e.1 he with he|he
 .exact h.st e he
 grind
def Vr {base E}(h:TE base w fb vb E B ak) {f L}(a:E[i]?=some (f,L)) :
 zC w vb (i*12) (zI f.kd)/\zC w vb (i*12+1) (.int .u64 (wd f.s 0))/\zC w vb (i*12+2) (.int .u64 (wd f.s 1))/\zC w vb (i*12+3) (.int .u64 (wd f.s 2))/\zC w vb (i*12+4) (.int .u64 (wd f.s 3)) /\
 zC w vb (i*12+5) (zI f.fi)/\zC w vb (i*12+6) (zI f.se)/\zC w vb (i*12+7) f.vp/\zC w vb (i*12+8) (.bool f.te)/\zC w vb (i*12+9) (zI f.lk)/\zC w vb (i*12+10) (zI f.ak)/\zC w vb (i*12+11) (zI f.lf) :=
 ⟨h.cell a 0 (by decide),h.cell a 1 (by decide),h.cell a 2 (by decide),h.cell a 3 (by decide),h.cell a 4 (by decide),h.cell a 5 (by decide),h.cell a 6 (by decide),h.cell a 7 (by decide),h.cell a 8 (by decide),h.cell a 9 (by decide),h.cell a 10 (by decide),h.cell a 11 (by decide)⟩
def FX(w:World)(xb:Nat)(f:FV):Prop:=w.heap[xb]?=some (.cells f.cells 247 (0,0))
theorem FX.lt {f}(h:FX w xb f):xb<w.heap.size:=(a0c.1 h).1
theorem FX.aC {f}(h:FX w xb f)(F:aB S w w')(a:xb∉S):FX w' xb f:=(F.block xb h.lt a).trans h
theorem FX.fz {f}(h:FX w xb f)(o):w.frozen? (zB xb o)=false:=by unfold FX at h;simp[World.frozen?,h]
theorem FX.get {f}(h:FX w xb f) :
 w.cell? ⟨xb,0,none⟩=some (.int .i64 f.kd)/\w.cell? ⟨xb,1,none⟩=some (.int .u64 (wd f.s 0))/\w.cell? ⟨xb,2,none⟩=some (.int .u64 (wd f.s 1))/\w.cell? ⟨xb,3,none⟩=some (.int .u64 (wd f.s 2))/\w.cell? ⟨xb,4,none⟩=some (.int .u64 (wd f.s 3)) /\
 w.cell? ⟨xb,5,none⟩=some (.int .i64 f.fi)/\w.cell? ⟨xb,6,none⟩=some (.int .i64 f.se)/\w.cell? ⟨xb,7,none⟩=some f.vp/\w.cell? ⟨xb,8,none⟩=some (.bool f.te)/\w.cell? ⟨xb,9,none⟩=some (.int .i64 f.lk)/\w.cell? ⟨xb,10,none⟩=some (.int .i64 f.ak)/\w.cell? ⟨xb,11,none⟩=some (.int .i64 f.lf):=by
 unfold FX at h;simp only[World.cell?,h];exact⟨rfl,rfl,rfl,rfl,rfl,rfl,rfl,rfl,rfl,rfl,rfl,rfl⟩
def FX.auT {f}(h:FX w xb f)(n:Nat):FX (w.setCell (zB xb 9) (zI n)) xb { f with lk:=n }:=by
 unfold FX at h |-;simp only[World.setCell,a0v,h,a0G,a1x];rfl
theorem FV.one(f:FV)(b:f.vp.oneCell'=true):∀u∈f.cells.toList,u.oneCell'=true:=by intro u a;simp only[FV.cells,a0l,a1U,a2V]at a;rcases a with rfl|rfl|rfl|rfl|rfl|rfl|rfl|rfl|rfl|rfl|rfl|rfl<;>first | exact b|rfl
def Tu(K:List KY)(k:KY)(i:Nat):Prop :=
 (i=0\/(2<=i/\i<K.length/\K[i]?.map mV=some (mV k)))/\∀j,i<j->2<=j->K[j]?≠some k
def Tu.start(K k):Tu K k (lastB mV K (mV k) K.length):=by
 constructor
 .exact zD mV _ _ K.length
 intro j d c a;have b:=(a0d.1 a).1;have:=Py mV _ _ K.length j b c (by rw[a];rfl);omega
def Tu.next {K k q}(h:Tu K k i)(o:0<i)(hq:K[i]?=some q)(l:q≠k):mV q=mV k/\lastB mV K (mV q) i<i/\Tu K k (lastB mV K (mV q) i):=by
 have hb:mV q=mV k:=by
  rcases h.1 with e|⟨_,_,e⟩
  .omega
  rw[hq]at e;simpa using e
 have m:lastB mV K (mV q) i<i:=by rcases zD mV K (mV q) i with e|⟨_,e,_⟩<;>omega
 refine⟨hb,m,?_,?_⟩
 .rcases zD mV K (mV q) i with e|⟨g,p,f⟩
  .omega
  rcases h.1 with e|⟨_,e,_⟩
  .omega
  exact .inr ⟨g,by omega,by rw[f,hb]⟩
 intro j n c a;by_cases b:i<j
 .exact h.2 j b c a
 by_cases d:j=i
 .subst d;rw[hq]at a;simp at a;exact l a
 have:=Py mV K (mV q) i j (by omega) c (by rw[a,hb];rfl);omega
def RE(base:Nat)(w:World)(fb vb:Nat)(E:List (FV × LN))(D:List NF)(ak c:Nat)(U:List NF)(Z:LN)(y:NF)(vp:Value)(L:LN)(e:Ending)(w':World):Prop :=
 ∃b R r a d,e=zR (zI (r:Nat))/\TE base w' fb b a d ak/\TP a d (D++R) ak c/\(∀x∈D++R,x∈U)/\U.length<=1000000000000/\(D++R)[r]?=some y/\FQ fb vb b w w'/\(∀e∈a,e∈E\/(e.1.vp=vp/\e.2=L))/\ZZ w' a Z
def RE.rq {base E c L}(h:RE base w fb vb E D ak c U Z y vp L e w'):RQ base w fb vb D ak c U Z y e w':=by obtain⟨a,R,r,m,n,l,k,j,i,g,f,d,_,b⟩:=h;exact⟨a,R,r,l,⟨m,n,k,j,i,g,b⟩,f,d⟩
def adI(base w fb vb E B D ak c U Z f L d)
 (hE:TE base w fb vb E B ak) (hP:TP E B D ak c) (hU:∀x∈D,x∈U) (Gd:U.length<=1000000000000) (W:PL w f.vp L) (hs:f.s<2 ^ 256) (m:Ky D D.length (kz (f,L)) d) (hw:WC d) (hd:d∈U) (Gc:f.te=dK d) (ha:f.ak=0) (Gf:ZZ w E Z) (Sv:∀x n cc,f.vp=.slice (some x) n cc->x.block∉Z) :
 zF 152 #[zP fb,.agg f.cells] w (RE base w fb vb E D ak c U Z d f.vp L):=by
 have HZZ:=aj Gf;have HFZ:=aj Sv;clear Gf Sv;have hlen:=a0h (qP hP.tb.nd hU) Gd;have hEl:E.length=D.length:=hP.len;have HH:Z_ (∀w',aB [] w w'->zF 162 #[.agg f.cells] w' λe v=>e=zR (.int .u32 (adH (kz (f,L))))/\aB [] w' v) :=
  λw' F=>ani f L w' (W.1.aC F (by simp)) W.2.2
 have SM:Z_ (∀(w':World) (g:FV) (M:LN),aB [] w w'->(g,M)∈E->zF 163 #[.agg g.cells,.agg f.cells] w' λe v=>(∃b:Bool,e=zR (.bool b)/\(b=true->kz (g,M)=kz (f,L))/\(b=false->kz (g,M)≠kz (f,L)))/\aB [] w' v):=by
  intro w' g M F hm;refine(anj g f M L w' ((hE.pl _ hm).1.aC F (by simp)) (W.1.aC F (by simp)) (hE.pl _ hm).2.2 W.2.2 (hE.st _ hm) hs).mono ?_;rintro e v ⟨rfl,hf⟩;refine⟨⟨_,rfl,?_,?_⟩,hf⟩
  .intro hb;rw[a0U]at hb;simp only[kz,KY.mk.injEq];exact⟨hb.1,hb.2.2.2.1,hb.2.1,hb.2.2.1,hb.2.2.2.2⟩
  intro hb e;rw[a1g]at hb;simp only[kz,KY.mk.injEq]at e;exact hb ⟨e.1,e.2.2.1,e.2.2.2.1,e.2.1,e.2.2.2.2⟩
 have q:=alF (kz (f,L));have ax9:=ank (kz (f,L));obtain⟨_,hT,hF⟩:=hE.row;have hB:B.getD (mV (kz (f,L))) 0=lastB mV (E.map kz) (mV (kz (f,L))) E.length:=hP.bu _ q;have ST0:Z_ (Tu (E.map kz) (kz (f,L)) (B.getD (mV (kz (f,L))) 0)):=by
  show Tu _ _ _;rw[hB];have:=Tu.start (E.map kz) (kz (f,L));simpa using this
 have C:=aj hE;have HP:=aj hP;have HPL:=aj W;have HT:=aj hT;have XB0:Z_ (FX (w.alloc (.cells f.cells 247)) w.heap.size f):=bD w _;have HEL:=aj hEl;have HTE:=aj Gc;have HAK:=aj ha;have A:=aj m;have hlE:E.length<=1000000000000:=by omega
 clear hP hE W hT hF hB hEl Gc ha m;generalize hKK:mV (kz (f,L))=b at *;generalize adH (kz (f,L))=H at *;have HK:=aj hKK;generalize Av:B.getD b 0=a at *;have uh:=aj Av;clear hKK Av;have Be:=C.o.vbs;have hfb:=C.o.fb;have eG:=C.o.sz;have iy:f.cells=#[zI f.kd,.int .u64 (wd f.s 0),.int .u64 (wd f.s 1),.int .u64 (wd f.s 2),.int .u64 (wd f.s 3),zI f.fi,zI f.se,f.vp,.bool f.te,zI f.lk,zI f.ak,zI f.lf]:=rfl;rw[iy]at HH SM |-;clear iy;delta zF;go_in;go_wp2_with (go_at_call 162;refine(HH.o _ ((aB.refl _ _).alloc _)).mono ?_;rintro e v ⟨rfl,aR⟩;have F2:=aj (((aB.refl [] w).alloc _).trans aR);have X2:=aj (FX.aC XB0.o aR (by simp));have T2:=HT.o.aC F2.o (by simp);have q1:zC v fb (1+b) (zI a):=(by have:=T2.cell b q;rw[uh.o]at this;exact this);clear aR T2);go_loopg [6] a (λk vi wr=>vi=zI (k:Nat)/\Z_ (Tu (E.map kz) (kz (f,L)) k)/\FX wr w.heap.size f/\aB [] w wr);case atStart=>exact⟨rfl,ST0,X2,F2⟩
 case round =>
  clear X2 F2 q1;obtain⟨rfl,y,r,bH⟩:=hrel;have X:=aj r;have F3:=aj bH;clear r bH;have T3:=aj (C.o.aY F3);have r0:=(HT.o.aC F3.o (by simp)).c0;by_cases h0:gk=0
  .subst h0;have hnD:Z_ (d∉D):=by
    intro hm;obtain⟨i,hi⟩:=a1T hm;have:=HP.o.tb.found A.o hi;exact y.o.2 i (by omega) this.1 this.2
   have z:=HT.o.aC F3.o (by simp);have q1:zC wr fb (1+b) (zI a):=by have:=z.cell b q;rw[uh.o]at this;exact this
   have q2:=z.fz (1+b);have q3:=X.o.fz 9;obtain⟨V,T,R,h,P,O,N,J,I,G,l,j⟩:=X.o.get;clear V T R h P O N J I l j;have X4:=aj (X.o.auT a);have F4:Z_ (aB [] w (wr.setCell (zB w.heap.size 9) (zI a))):=F3.o.setCell (.inr (a0b _)) _;have T4:=aj (C.o.aY F4);have Y:=aj (T4.o.apT b E.length q);have F5:Z_ (aB [fb] w ((wr.setCell (zB w.heap.size 9) (zI a)).setCell (zB fb (1+b)) (zI E.length))):=aB.setCell F4.o.nil (.inl (by simp)) _;have X5:Z_ (FX ((wr.setCell (zB w.heap.size 9) (zI a)).setCell (zB fb (1+b)) (zI E.length)) w.heap.size { f with lk:=a }):=X4.o.aC (S:=[fb]) ((aB.refl _ _).setCell (.inl (by simp)) _) (by simp;omega);clear z X T3;go_wp2_with fail;generalize ((wr.setCell (zB w.heap.size 9) (zI a)).setCell (zB fb (1+b)) (zI E.length))=wc at Y F5 X5 |-;clear q1 q2 q3 G r0 X4 F4 T4;obtain⟨atp,u,T5l⟩:=Y.o.row;have r0:=u.c0;have r1:=u.fz 0;have TT:=aj u;have TL:Z_ (wc.ownsRow base 247 12 (zS vb E.length atp) E.length (fv (E.map Prod.fst))):=by
    have:=T5l;unfold FL at this;rw[a0y]at this;exact this
   clear u T5l;obtain⟨V,T,R,h,P,O,N,J,I,G,l,j⟩:=X5.o.get;simp only at V T R h P O N J I G l j;have z5:=F5.o.size;have awD:=TT.o.lt;have bJ:fb≠vb:=by omega
   have hvp:f.vp.oneCell'=true:=HPL.o.cell1;obtain⟨i9,hi,Qa,Yk,Il⟩:=info_parts adG;have g2:∀o:Obj,(wc.alloc o).drew.frozen? (zA fb)=false:=λo=>((((aB.refl [] wc).alloc o).drew).frozen awD (by simp)).trans r1;go_region_law ((refine step_append_lies _ (by rfl) _ _ _ (by rfl) base 247 i9 _ 12 112 Tryz.underlying248 hi Qa Yk Il rfl (by omega) (zS vb E.length atp) E.length (fv (E.map Prod.fst)) (by rfl) (by exact TL.o.alloc _) (zA wc.heap.size) 1 1 (FV.cells ⟨f.kd,f.s,f.fi,f.se,f.vp,f.te,a,f.ak,f.lf⟩).toList (by rfl) (by rfl) (World.news_of_block (cs:=FV.cells ⟨f.kd,f.s,f.fi,f.se,f.vp,f.te,a,f.ak,f.lf⟩) (t:=247) (fr:=(0,0)) (by exact bD _ _)) (FV.one _ (by exact hvp)) (by omega) (by unfold maxLen;omega) (by omega) (by simp;omega) (wc.heap.size+1) (by simp) ?_;intro gg aU w4 bT aH bq _;have c4:=(aH.cell_far (zA fb) (by simp;omega) (by simp[Value.ownBlock];omega));have f4:=(aH.frozen_far (zA fb) (by simp;omega) (by simp[Value.ownBlock];omega))));all_goals
    have T6:=Y.o.aY (((aB.refl [] wc).alloc (.cells (FV.cells ⟨f.kd,f.s,f.fi,f.se,f.vp,f.te,a,f.ak,f.lf⟩) 247)).drew);have P5:PL wc f.vp L:=HPL.o.aC F5.o (λk m=>C.o.wu k (by simp at m;simp[m]));have P6:=P5.aC (((aB.refl [] wc).alloc (.cells (FV.cells ⟨f.kd,f.s,f.fi,f.se,f.vp,f.te,a,f.ak,f.lf⟩) 247)).drew) (qV.nil _);have T7:=aj (TE.grow (f:=⟨f.kd,f.s,f.fi,f.se,f.vp,f.te,a,f.ak,f.lf⟩) (L:=L) T6 P6 hs aH bT);have Q7:Z_ (TP (E++[(⟨f.kd,f.s,f.fi,f.se,f.vp,f.te,a,f.ak,f.lf⟩,L)]) (B.set b E.length) (D++[d]) ak c):=by
     have:=HP.o.push HT.o.2 (f:=⟨f.kd,f.s,f.fi,f.se,f.vp,f.te,a,f.ak,f.lf⟩) (L:=L) A.o hw hnD.o HTE.o (by show a=B.getD (mV (kz (f,L))) 0;rw[HK.o];exact uh.o.symm) HAK;rw[show mV (kz ((⟨f.kd,f.s,f.fi,f.se,f.vp,f.te,a,f.ak,f.lf⟩:FV),L))=b from HK.o]at this;exact this
    have F7:Z_ (aB [fb,vb] w w4):=aB.grown ((F5.o.mono (by intro k _ m;simp at m;simp[m])).alloc _).drew aH (λk m=>by simp[Value.ownBlock]at m;subst m;exact .inl (by simp));have M7:Z_ (gg=vb\/w.heap.size<=gg):=by
     rcases bq with e|e
     .simp[Value.ownBlock]at e;exact .inl e.symm
     exact .inr (by omega)
    clear aH bT bq T6 P5 P6 V T R h P O N J I G l j;go_wp2;go_ret;refine⟨gg,[d],E.length,_,_,rfl,T7,Q7,?_,Gd,?_,⟨aB.setCell F7.o (.inl (by simp)) _,M7⟩,λe he=>?_,?_⟩
    .intro x r;rcases a0e.1 r with r|r
     .exact hU x r
     simp at r;subst r;exact hd
    .rw[HEL.o];simp
    .rcases a0e.1 he with he|he
     .exact .inl he
     simp at he;subst he;exact .inr ⟨rfl,rfl⟩
    have hz:=HZZ.o.mono (w':=w4.setCell (zA fb) (zS gg (E.length+1) aU)) (by have:=F7.o.size;simpa using this);refine⟨hz.1,λe he=>?_⟩;rcases a0e.1 he with he|he
    .exact hz.2 e he
    simp at he;subst he;exact HFZ
  have aL:2<=gk/\gk<E.length:=by
   rcases y.o.1 with e|⟨e1,e2,_⟩
   .exact absurd e h0
   exact⟨e1,by simpa using e2⟩
  obtain⟨⟨g,M⟩,p⟩:∃e,E[gk]?=some e:=⟨E[gk]'aL.2,a0a aL.2⟩;have nJ:(g,M)∈E:=a0B p;have hkE:Z_ ((E.map kz)[gk]?=some (kz (g,M))):=by show _=_;simp[p]
  have HGM:=aj p;obtain⟨c0,c1,c2,c3,c4,c5,c6,c7,c8,c9,c10,c11⟩:=Vr T3.o p;obtain⟨V,T,R,h,P,O,N,J,I,G,l,j⟩:=X.o.get;have SM2:Z_ (zF 163 #[.agg #[zI g.kd,.int .u64 (wd g.s 0),.int .u64 (wd g.s 1),.int .u64 (wd g.s 2),.int .u64 (wd g.s 3),zI g.fi,zI g.se,g.vp,.bool g.te,zI g.lk,zI g.ak,zI g.lf],.agg #[zI f.kd,.int .u64 (wd f.s 0),.int .u64 (wd f.s 1),.int .u64 (wd f.s 2),.int .u64 (wd f.s 3),zI f.fi,zI f.se,f.vp,.bool f.te,zI f.lk,zI f.ak,zI f.lf]] wr.drew λe v=>(∃b:Bool,e=zR (.bool b)/\(b=true->kz (g,M)=kz (f,L))/\(b=false->kz (g,M)≠kz (f,L)))/\aB [] wr.drew v):=SM.o wr.drew g M F3.o.drew nJ;clear p;have aag:=aL.1;go_wp2_with fail;go_region_with (go_at_call 163;refine SM2.o.mono ?_;rintro e _ ⟨⟨bb,rfl,kv,jR⟩,nL⟩;have HB1:=aj kv;have HB2:=aj jR;have F4:=aj nL;clear kv jR nL);all_goals
   have F5:=aj (F3.o.drew.trans F4);have Y:=aj (C.o.aY F5);have:=(HT.o.aC F5.o (by simp)).c0;have:=(Vr Y.o HGM).2.2.2.2.2.2.2.2.2.1;have X5:=aj ((show FX wr.drew w.heap.size f from X.o).aC F4.o (by simp));clear c0 c1 c2 c3 c4 c5 c6 c7 c8 c9 c10 c11 V T R h P O N J I G l j r0 SM2;cases bb with
   | true =>
     have hD:Z_ (D[gk]?=some d):=HP.o.tb.sameKey A.o aag (by rw[<-HB1.o rfl];exact hkE);go_wp2;go_ret;exact⟨vb,[],gk,E,B,rfl,Y,by simpa using HP.o,by simpa using hU,Gd,by simpa using hD.o,FQ.keepR (FQ.refl _ _ _) F5,λe he=>.inl he,HZZ.o.mono F5.o.size⟩
   | false =>
     have hN:=y.o.next (by omega) hkE.o (HB2.o rfl);have hl:g.lk=lastB mV (E.map kz) (mV (kz (g,M))) gk:=HP.o.lk gk _ aag HGM;rw[<-hl]at hN;have HN:=aj hN;clear hN hl;go_wp2;go_roundg g.lk;case measure=>exact HN.o.2.1
     case rel=>exact⟨rfl,HN.o.2.2,X5,F5⟩
def Lc(base w fb vb D ak c U Z f L d)
 (h:ST base w fb vb D ak c U Z) (i:PL w f.vp L) (b:f.s<2 ^ 256) (j:Ky D D.length (kz (f,L)) d) (a:WC d) (hd:d∈U) (r:f.te=dK d) (k:f.ak=0) (o:∀x n cc,f.vp=.slice (some x) n cc->x.block∉Z) :
 zF 152 #[zP fb,.agg f.cells] w (RQ base w fb vb D ak c U Z d):=by
 obtain⟨E,B,hE,m,l,q,p⟩:=h;exact(adI _ _ _ _ _ _ _ _ _ _ _ _ _ _ hE m l q i b j a hd r k p o).mono λe w' g=>g.rq
def qW:NF->Nat
 | .zero=>0
 | .one=>1
 | .set _=>2
 | .pair _ _=>3
 | .sum _=>4
 | .star _=>5
structure LK(w:World)(fb vb:Nat)(D:List NF)(ak c i:Nat)(d:NF)(f:FV)(L:LN)(cap:Nat):Prop where
 tab:w.cell? (zA fb)=some (zS vb D.length cap)
 lt:i<D.length
 get:w.cell? (zB vb (i*12))=some (zI f.kd)/\w.cell? (zB vb (i*12+1))=some (.int .u64 (wd f.s 0))/\w.cell? (zB vb (i*12+2))=some (.int .u64 (wd f.s 1))/\w.cell? (zB vb (i*12+3))=some (.int .u64 (wd f.s 2))/\w.cell? (zB vb (i*12+4))=some (.int .u64 (wd f.s 3)) /\
  w.cell? (zB vb (i*12+5))=some (zI f.fi)/\w.cell? (zB vb (i*12+6))=some (zI f.se)/\w.cell? (zB vb (i*12+7))=some f.vp/\w.cell? (zB vb (i*12+8))=some (.bool f.te)/\w.cell? (zB vb (i*12+9))=some (zI f.lk)/\w.cell? (zB vb (i*12+10))=some (zI f.ak)/\w.cell? (zB vb (i*12+11))=some (zI f.lf)
 kd:f.kd=qW d
 te:f.te=dK d
 st:f.s<2 ^ 256
 pl:PL w f.vp L
 pair:∀a b,d=.pair a b->D[f.fi]?=some a/\D[f.se]?=some b
 star:∀a,d=.star a->D[f.fi]?=some a
 set:∀s,d=.set s->f.s=s
 sum:∀l,d=.sum l->(∀j∈L,j<D.length)/\l=gU (L.map λj=>D.getD j .zero)/\L.Pairwise (·<·)
 ale:f.ak<=ak
 mem:1<=ak->f.ak=ak->D[f.lf]?=some (left c d)
theorem ST.look {base c}(h:ST base w fb vb D ak c U Z)(r:D[i]?=some d):∃f L cap,LK w fb vb D ak c i d f L cap:=by
 obtain⟨E,B,hE,m,_,_,_⟩:=h;have G:=(a0d.1 r).1;have F:=m.len;obtain⟨⟨f,L⟩,he⟩:∃e,E[i]?=some e:=⟨E[i]'(by omega),a0a (by omega)⟩;have C:=a0B he;obtain⟨cap,I,_⟩:=hE.row;have p:(E.map kz)[i]?=some (kz (f,L)):=by simp[he]
 have two:i=0\/i=1\/2<=i:=by omega
 refine⟨f,L,cap,by rw[<-F];exact I.c0,G,Vr hE he,?_,m.te i _ d he r,hE.st _ C,hE.pl _ C,?_,?_,?_,?_,m.al _ C,λJ z=>m.mm J i _ d he r z⟩
 .rcases two with rfl|rfl|z
  .have:=m.tb.k0;rw[p]at this;simp[kz]at this;have e:=m.tb.d0;rw[r]at e;simp at e;rw[e];exact this.1
  .have:=m.tb.k1;rw[p]at this;simp[kz]at this;have e:=m.tb.d1;rw[r]at e;simp at e;rw[e];exact this.1
  rcases m.tb.ky i _ d z p r with g|⟨o,v,u,t,q,x,y,n,k,A⟩|⟨o,v,u,t,q,n,k⟩|⟨o,v,u,t,q,x,n,k⟩
  .rw[g.2.2.2.2];exact g.1
  .rw[A];exact o
  .rw[k];exact o
  rw[k];exact o
 .rintro a b rfl;have z:=m.tb.ge r (by simp) (by simp);rcases m.tb.ky i _ _ z p r with g|⟨o,v,u,t,q,x,y,n,k,A⟩|⟨o,v,u,t,q,n,k⟩|⟨o,v,u,t,q,x,n,k⟩
  .grind
  .simp at A;obtain⟨rfl,rfl⟩:=A;exact⟨n,k⟩
  .simp at k
  simp at k
 .rintro a rfl;have z:=m.tb.ge r (by simp) (by simp);rcases m.tb.ky i _ _ z p r with g|⟨o,v,u,t,q,x,y,n,k,A⟩|⟨o,v,u,t,q,n,k⟩|⟨o,v,u,t,q,x,n,k⟩
  .grind
  .simp at A
  .simp at k
  simp at k;subst k;exact n
 .rintro s rfl;have z:=m.tb.ge r (by simp) (by simp);rcases m.tb.ky i _ _ z p r with g|⟨o,v,u,t,q,x,y,n,k,A⟩|⟨o,v,u,t,q,n,k⟩|⟨o,v,u,t,q,x,n,k⟩
  .have:=g.2.2.2.2;simp at this;exact this.symm
  .simp at A
  .simp at k
  simp at k
 rintro l rfl;have z:=m.tb.ge r (by simp) (by simp);rcases m.tb.ky i _ _ z p r with g|⟨o,v,u,t,q,x,y,n,k,A⟩|⟨o,v,u,t,q,n,k⟩|⟨o,v,u,t,q,x,n,k⟩
 .grind
 .simp at A
 .simp at k;exact⟨λj H=>by have:=n j H;omega,k,q⟩
 simp at k
def ST.pP {base c}(h:ST base w fb vb D ak c U Z):D[0]?=some .zero/\D[1]?=some .one/\D.Nodup/\(∀d∈D,WC d)/\(∀x∈D,x∈U)/\fb<base/\base<=w.heap.size/\base<=vb/\vb<w.heap.size/\qV w [fb,vb]:=by obtain⟨E,B,hE,a,e,_,_⟩:=h;have b:=hE.vbs;exact⟨a.tb.d0,a.tb.d1,a.tb.nd,a.tb.wc,e,hE.fb,hE.sz,b.1,b.2.1,hE.wu⟩
def ST.zs {base c}(h:ST base w fb vb D ak c U Z):∀k∈Z,k<w.heap.size:=by obtain⟨E,B,_,_,_,_,a⟩:=h;exact a.1
theorem ST.num {base c}(h:ST base w fb vb D ak c U Z){x}(b:D[i]?=some x)(a:D[j]?=some y):i=j↔x=y:=by
 constructor
 .grind
 rintro rfl;exact yI h.pP.2.2.1 b a
def RQ.here {base c r}(h:ST base w fb vb D ak c U Z)(f:aB [] w w')(a:D[r]?=some y):RQ base w fb vb D ak c U Z y (zR (zI (r:Nat))) w' :=
 ⟨vb,[],r,rfl,by simpa using h.aY f,by simpa using a,FQ.keepR (FQ.refl _ _ _) f⟩
def RQ.later {base a c}(f:FQ fb vb a w w1)(h:RQ base w1 fb a (D++R) ak c U Z y e w'):RQ base w fb vb D ak c U Z y e w':=by obtain⟨b,k,r,j,i,g,d⟩:=h;exact⟨b,R++k,r,j,by simpa using i,by simpa using g,f.trans d⟩
theorem RQ.keepR {base c}(h:RQ base w fb vb D ak c U Z y e w1)(f:aB [] w1 w'):RQ base w fb vb D ak c U Z y e w':=by obtain⟨a,j,r,i,g,d,b⟩:=h;exact⟨a,j,r,i,g.aY f,d,FQ.keepR b f⟩
theorem rU {x}(h:D[i]?=some x):(D++R)[i]?=some x:=by grind
theorem IL.cell {base g L}(h:IL base w (zS g n cap) L)(j)(b:j<L.length):zC w g j (zI (L[j]:Nat)):=by have a:=World.ownsRow.cells h (g:=g) rfl j (zI (L[j]:Nat)) (by simp[nv,b]);rw[add0]at a;omega
theorem IL.fz {base g L}(h:IL base w (zS g n cap) L)(j):w.frozen? (zB g j)=false:=by obtain⟨a,c,e⟩:=aW h;simp at e;obtain⟨_,rfl,_⟩:=e;exact World.ownsRow.frozenAt h j
theorem IL.set {base:Nat}{g:Nat} {L:LN}(h:IL base w (zS g n cap) L)(j m:Nat):IL base (w.setCell (zB g j) (zI m)) (zS g n cap) (L.set j m):=by obtain⟨a,c,e⟩:=aW h;simp at e;obtain⟨_,rfl,_⟩:=e;have:=(World.ownsRow.stored h j (zI m)).1;unfold IL;simpa[nv,a2d] using this
def BH {base b2 e size}(h:w.ownsRow base e size v n xs)(hb:b2<=base):w.ownsRow b2 e size v n xs:=by
 refine⟨h.1,?_⟩;rcases h.2 with b|⟨g,cap,cur,a,c,rest⟩
 .exact .inl b
 exact .inr ⟨g,cap,cur,a,a0h hb c,rest⟩
def akb(A:LN)(k y)(a:k<A.length):(A.take (k+1)++y::A.drop (k+1)).set (k+1) (A[k])=A.take k++A[k]::A.drop k:=by
 have b:A.take (k+1)=A.take k++[A[k]]:=by rw[a1c,a0a a];rfl
 rw[a0k a,b,a0M];rw[a1v _ _ (by simp;omega)];simp only[a1k,a2n (a3t a)];rw[show k+1-k=1 by omega];rfl
theorem ahD(A:LN)(k y m)(a:k<=A.length):(A.take k++y::A.drop k).set k m=A.take k++m::A.drop k:=by
 rw[a1v _ _ (by simp;omega)];simp only[a1k,a2n a,a2v];rfl
theorem apU(A:LN)(k y)(a:k<A.length)(h:k<(A.take (k+1)++y::A.drop (k+1)).length):(A.take (k+1)++y::A.drop (k+1))[k]=A[k]:=by rw[List.getElem_append_left (by simp;omega)];simp
theorem Cy(A:LN)(k y)(a:k<=A.length):(A.take k++y::A.drop k).length=A.length+1:=by simp;omega
def Vs(A T:LN):Prop:=A.Pairwise (·<=·)/\∀x,x∈A↔x∈T
theorem Vs.put {A L:LN}(h:Vs A (L.take j))(b:j<L.length)(a:k<=A.length)(d:∀x∈A.drop k,L[j]<x)(c:0<k->A.getD (k-1) 0<=L[j]):Vs (A.take k++L[j]::A.drop k) (L.take (j+1)):=by
 refine⟨arQ h.1 a d c,λx=>?_⟩;have e:L.take (j+1)=L.take j++[L[j]]:=by rw[a1c,a0a b];rfl
 rw[amw,h.2 x,e];simp only[a0e,a0w]
def afr(v L w)(hv:NL .i64 w v L)(hL:L.length<=9500000000000) :
 zF 178 #[v] w λe w'=>∃v' R,e=zR v'/\IL w.heap.size w' v' R/\RO R L/\aB [] w w':=by
 obtain⟨a,_,rfl,V⟩:=hv;delta zF;go_in;go_wp2_with fail;go_loopg [3,13] L.length (λk vr D wr=>∃(j:Nat) (A:LN),j+k=L.length/\D=zI j/\IL w.heap.size wr vr A/\j<=A.length/\A.length<=j/\Vs A (L.take j)/\aB [] w wr);case atStart=>refine⟨0,[],by omega,rfl,World.ownsRow_lit _ #[] 0 (a0b _) (by unfold maxLen;omega) (by simp),by simp,by simp,⟨by simp,by simp⟩,zJ⟩
 case round =>
  obtain⟨j,A,_,rfl,U,_,_,RI,F⟩:=hrel;obtain⟨af,aa7,rfl⟩:=aW U;have z:=F.size;obtain⟨i,Vg⟩:∃i,i=wr:=⟨_,rfl⟩;subst Vg;obtain⟨go,iD⟩:∃go,go=gk:=⟨_,rfl⟩;subst iD;by_cases aL:j<L.length
  .obtain⟨g,off,rfl,hg,H⟩:=V j aL;have Y:zC i g (off+j) (zI (L[j]:Nat)):=(F.cell hg (by simp)).trans H;have P:∀k,k<=A.length->(∀x∈A.drop k,L[j]<x)->(0<k->A.getD (k-1) 0<=L[j])->Vs (A.take k++L[j]::A.drop k) (L.take (j+1)):=λk V h2 h3=>RI.put aL V h2 h3;clear H;generalize L[j]=m at *;go_wp2_with (first | (at_builtin;refine vG _ rfl _ _ rfl _ _ _ _ _ rfl (U.alloc _) rfl (j6 _ _ _ _ rfl) (by omega) (by simp;omega) ?_;intro c u w5 B l I iE;have F5:=(F.alloc _).grown l (λk t=>Or.inr (U.lt _ t).1);clear l I));go_loopg [6] A.length (λk D wr=>D=zI (k:Nat)/\k<=A.length/\(∃y,IL w.heap.size wr (zS c (A.length+1) u) (A.take k++y::A.drop k))/\(∀x∈A.drop k,m<x)/\aB [] w wr);exact⟨by go_num,by omega,⟨m,by simpa using B⟩,by intro x S;simp at S,F5⟩
   .clear B F5 U F Y;obtain⟨rfl,t,⟨y,d⟩,dZ,X⟩:=hrel;cases gk with
    | zero =>
      have q:=d.fz 0;obtain⟨C,qc⟩:∃C,zC wr c 0 C:=⟨_,d.cell 0 (by rw[Cy _ _ _ (by omega)];omega)⟩;have P6:=P 0 (by omega) dZ (by omega);have V6:IL w.heap.size (wr.setCell (zA c) (zI m)) (zS c (A.length+1) u) (A.take 0++m::A.drop 0):=by have:=d.set 0 m;rw[ahD A 0 y m (by omega)]at this;exact this
      have h:=(d.lt _ rfl).1;go_wp2;go_roundg (go-1)
      .refine⟨j+1,_,by omega,by go_num,V6,?_,?_,P6,X.setCell (.inr h) _⟩
       .rw[Cy A 0 m (by omega)];omega
       rw[Cy A 0 m (by omega)];omega
      omega
    | succ k =>
      have f:k<A.length:=by omega
      have h:=(d.lt _ rfl).1;have q:=d.fz (k+1);obtain⟨C,_⟩:∃C,zC wr c (k+1) C:=⟨_,d.cell (k+1) (by rw[Cy _ _ _ (by omega)];omega)⟩;have qk:zC wr c k (zI (A[k]:Nat)):=by have:=d.cell k (by rw[Cy A (k+1) y (by omega)];omega);rw[apU A k y f]at this;exact this
      have SH:=akb _ _ y f;have DR:A.drop k=A[k]::A.drop (k+1):=a0k f;have W:A.getD k 0=A[k]:=by simp[List.getD,f]
      generalize A[k]=p at *;by_cases T:m<p
      .have V6:IL w.heap.size (wr.setCell (zB c (k+1)) (zI p)) (zS c (A.length+1) u) (A.take k++p::A.drop k):=by have:=d.set (k+1) p;rw[SH]at this;exact this
       have awE:∀x∈A.drop k,m<x:=by
        intro x S;rw[DR]at S;rcases a0l.1 S with e|e
        .omega
        exact dZ x e
       go_wp2;go_roundg k;exact⟨by go_num,by omega,⟨p,V6⟩,awE,X.setCell (.inr h) _⟩;omega
      have P6:=(P (k+1) (by omega) dZ (by intro _;show A.getD k 0<=m;rw[W];omega));have V6:IL w.heap.size (wr.setCell (zB c (k+1)) (zI m)) (zS c (A.length+1) u) (A.take (k+1)++m::A.drop (k+1)):=by have:=d.set (k+1) m;rw[ahD A (k+1) y m (by omega)]at this;exact this
      go_wp2;go_roundg (go-1)
      .refine⟨j+1,_,by omega,by go_num,V6,?_,?_,P6,X.setCell (.inr h) _⟩
       .rw[Cy A (k+1) m (by omega)];omega
       rw[Cy A (k+1) m (by omega)];omega
      omega
  have E:j=L.length:=by omega
  have N:Vs A L:=by have:=RI;rw[E,a2h]at this;exact this
  obtain⟨_,_,e',HN⟩:=xV U;simp[Value.slice.injEq,a1W]at e';obtain⟨rfl,rfl⟩:=e';clear RI E V;go_wp2_with fail;go_loopg [7,53] A.length (λk vo D wr=>∃(b:Nat) (O:LN),b+k=A.length/\D=zI b/\IL i.heap.size wr vo O/\O.length<=b/\RO O (A.take b)/\aB [] i wr);case atStart=>refine⟨0,[],by omega,rfl,World.ownsRow_lit _ #[] 0 (a0b _) (by unfold maxLen;omega) (by simp),by simp,⟨by simp,by simp⟩,zJ⟩
  case round =>
   obtain⟨b,O,_,rfl,n,_,o,r⟩:=hrel;obtain⟨ao,J,rfl⟩:=aW n;have zo:=r.size;obtain⟨s,Z⟩:∃s,s=wr:=⟨_,rfl⟩;subst Z;by_cases ng:b<A.length
   .obtain⟨g,off,rfl,hg,H⟩:=HN b ng;have Y:zC s g (off+b) (zI (A[b]:Nat)):=(r.cell (p:=(zB g (off+b))) hg (by simp)).trans H;have ST:=aoF N.1 ng o;clear H;cases b with
    | zero =>
      have M:=ST.1 (.inl rfl);rw[a1Q]at Y;generalize A[0]=m at *;go_wp2_with (first | (at_builtin;refine vG _ rfl _ _ rfl i.heap.size (.slice ao O.length J) O m s.heap.size rfl (n.alloc _) rfl (j6 _ _ _ _ rfl) (by omega) (by simp;omega) ?_;intro c u w5 B l I iE;have F5:=(r.alloc _).grown l (λk t=>Or.inr (n.lt _ t).1);clear l I));go_roundg (gk-1);exact⟨1,O++[m],by omega,by go_num,by simpa using B,by simp only[a0p,a0r,a1e];omega,M,F5⟩;omega
    | succ k =>
      obtain⟨_,_,e2,iM,G⟩:=HN k (by omega);simp only[Option.some.injEq,Addr.mk.injEq,a2u]at e2;obtain⟨rfl,rfl⟩:=e2;have JK:zC s g (off+k) (zI (A[k]'(by omega):Nat)):=(r.cell (p:=(zB g (off+k))) iM (by simp)).trans G;have W:A.getD k 0=A[k]'(by omega):=by simp[List.getD,show k<A.length by omega]
      clear G;generalize A[k]'(by omega)=p at *;generalize A[k+1]=m at *;by_cases T:p=m
      .have M:=(ST.2 (λe=>e.elim (λe=>by omega) (λe=>e (by show A.getD k 0=m;rw[W,T]))));subst T;clear ST;go_wp2;go_roundg (gk-1);exact⟨k+1+1,O,by omega,by go_num,n,by omega,M,r⟩;omega
      have M:=(ST.1 (.inr (by show A.getD k 0≠m;rw[W];exact T)));have hb:((p:Int) != (m:Int))=true:=by rw[a1M];omega
      clear ST;go_wp2_with (first | (at_builtin;refine vG _ rfl _ _ rfl i.heap.size (.slice ao O.length J) O m s.heap.size rfl (n.alloc _) rfl (j6 _ _ _ _ rfl) (by omega) (by simp;omega) ?_;intro c u _ B l I _;have F5:=(r.alloc _).grown l (λk t=>Or.inr (n.lt _ t).1);clear l I));go_roundg (gk-1);exact⟨k+1+1,O++[m],by omega,by go_num,by simpa using B,by simp only[a0p,a0r,a1e];omega,M,F5⟩;omega
   have E:b=A.length:=by omega
   have RO2:RO O L:=by have:=o;rw[E,a2h]at this;exact⟨this.1,λx=>(this.2 x).trans (N.2 x)⟩
   clear o E;go_wp2;go_ret;exact⟨_,O,rfl,BH n z,RO2,F.trans r⟩
theorem RQ.first {base c}(f:aB [] w w1)(h:RQ base w1 fb vb D ak c U Z y e w'):RQ base w fb vb D ak c U Z y e w' :=
 RQ.later (R:=[]) (FQ.keepR (FQ.refl _ _ _) f) (by simpa using h)
def atr(h:a≠b):((a:Int)==(b:Int))=false:=by rw[a0j];omega
def abb(h:a≠0):((a:Int)==0)=false:=by rw[a0j];omega
def afs(h:a≠1):((a:Int)==1)=false:=by rw[a0j];omega
def aft(Z:LN):∀x n c,(Value.slice none 0 0)=.slice (some x) n c->x.block∉Z:=by intro x n c e;simp at e
def Ke(s:Nat):NF:=if s=0 then .zero else .set s
def apV(a:s<2 ^ 256)(w):(Op.equalIn 10000 236 (.agg #[.int .u64 (wd s 0),.int .u64 (wd s 1),.int .u64 (wd s 2),.int .u64 (wd s 3)]) (.agg #[.int .u64 0,.int .u64 0,.int .u64 0,.int .u64 0])).run Tryz.prog w=.ok (decide (s=0)) w:=by have:=apS a (t:=0) (by decide) w;simpa[wd] using this
theorem afu(kd fi se:Nat)(vp te c b a)(f:(kd:Int)=c)(e:(fi:Int)=b)(d:(se:Int)=a):FV.cells ⟨kd,0,fi,se,vp,te,0,0,0⟩=#[zI c,.int .u64 0,.int .u64 0,.int .u64 0,.int .u64 0,zI b,zI a,vp,.bool te,zI 0,zI 0,zI 0]:=by subst f e d;simp[FV.cells,wd]
theorem asu(s):FV.cells ⟨2,s,0,0,zN,false,0,0,0⟩=#[zI 2,.int .u64 (wd s 0),.int .u64 (wd s 1),.int .u64 (wd s 2),.int .u64 (wd s 3),zI 0,zI 0,zN,.bool false,zI 0,zI 0,zI 0]:=by simp[FV.cells]
theorem bv0:bv 0=.agg #[.int .u64 0,.int .u64 0,.int .u64 0,.int .u64 0]:=by simp[bv,wd]
def asv(w):(Op.equalIn 10000 236 (.agg #[.int .u64 0,.int .u64 0,.int .u64 0,.int .u64 0]) (.agg #[.int .u64 0,.int .u64 0,.int .u64 0,.int .u64 0])).run Tryz.prog w=.ok true w:=by have:=apV (s:=0) (by decide) w;simpa[wd] using this
theorem RE.first {base E c L}(f:aB [] w w1)(h:RE base w1 fb vb E D ak c U Z y vp L e w'):RE base w fb vb E D ak c U Z y vp L e w':=by obtain⟨a,R,r,n,o,m,l,k,j,i,g,d,b⟩:=h;exact⟨a,R,r,n,o,m,l,k,j,i,g,FQ.aba f d,b⟩
def apW(base w fb vb E B D ak c U Z s)(hE:TE base w fb vb E B ak)(g:TP E B D ak c)(a:∀x∈D,x∈U)(k:U.length<=1000000000000)(f:s<2 ^ 256)(m:s≠0->.set s∈U)(j:ZZ w E Z) :
 zF 142 #[zP fb,bv s] w (RE base w fb vb E D ak c U Z (Ke s) zN []):=by
 have h:=g.tb.d0;by_cases b:s=0
 .subst b;rw[bv0];have p:=asv;delta zF;go_in;go_wp2;go_ret;exact⟨vb,[],0,E,B,rfl,hE.aY zJ,by simpa using g,by simpa using a,k,by simpa[Ke] using h,FQ.keepR (FQ.refl _ _ _) zJ,λe he=>.inl he,j.mono (by simp)⟩
 have o:∀w',aB [] w w'->zF 152 #[zP fb,.agg #[zI 2,.int .u64 (wd s 0),.int .u64 (wd s 1),.int .u64 (wd s 2),.int .u64 (wd s 3),zI 0,zI 0,zN,.bool false,zI 0,zI 0,zI 0]] w' (RE base w' fb vb E D ak c U Z (.set s) zN []):=by intro w' F;have:=adI _ _ _ _ _ _ D ak c U Z ⟨2,s,0,0,zN,false,0,0,0⟩ [] (.set s) (hE.aY F) g a k (PL.nil _) f (.inl ⟨rfl,rfl,rfl,rfl,rfl⟩) ⟨⟨a2P b,f⟩,trivial⟩ (m b) rfl rfl (j.mono F.size) (aft Z);rw[asu]at this;exact this
 have:=apV f;have d:Ke s=.set s:=by simp[Ke,b]
 rw[d];unfold bv;delta zF;go_in;go_wp2_with (go_at_call 152;refine(o _ zJ).mono ?_;rintro e q i;have n:=RE.first zJ i;obtain⟨_,_,r,_,_,rfl,_⟩:=i);go_ret;exact n
def apX(base w fb vb D ak c U Z s)(h:ST base w fb vb D ak c U Z)(b:s<2 ^ 256)(f:s≠0->.set s∈U) :
 zF 142 #[zP fb,bv s] w (RQ base w fb vb D ak c U Z (Ke s)):=by
 obtain⟨E,B,hE,g,a,j,i⟩:=h;exact(apW _ _ _ _ _ _ _ _ _ _ _ _ hE g a j b f i).mono λe w' d=>d.rq
def anl(base w fb vb D ak c U Z a)(i:Nat)(h:ST base w fb vb D ak c U Z)(b:D[i]?=some a)(t:iH a∈U) :
 zF 154 #[zP fb,zI i] w (RQ base w fb vb D ak c U Z (iH a)):=by
 obtain⟨f,L,_,K⟩:=h.look b;have A:=K.lt;have t0:=K.tab;have k0:=K.get.1;have k:=h.pP.2.1;have d:=h.num b h.pP.1;have n1:=h.num b h.pP.2.1;have kd:=K.kd;rw[kd]at k0;clear kd K;by_cases m:i=0
 .have:=d.1 m;subst this;subst m;clear d n1;delta zF;go_in;go_wp2;go_ret;exact RQ.here h zK k
 by_cases l:i=1
 .have:=n1.1 l;subst this;subst l;clear d n1;delta zF;go_in;go_wp2;go_ret;exact RQ.here h zK k
 have H:=abb m;have b1:=afs l;have q:a≠.zero:=λe=>m (d.2 e);have p:a≠.one:=λe=>l (n1.2 e);clear d n1;have o:∀w',aB [] w w'->(∀x,a≠.star x)->zF 152 #[zP fb,.agg #[zI 5,.int .u64 0,.int .u64 0,.int .u64 0,.int .u64 0,zI i,zI 0,zN,.bool true,zI 0,zI 0,zI 0]] w' (RQ base w' fb vb D ak c U Z (iH a)):=by
  intro w' F n;have j:iH a=.star a:=by cases a<;>first | rfl|exact absurd rfl q|exact absurd rfl p|exact absurd rfl (n _)
  have z:=h.pP.2.2.2.1 a (a0B b);rw[j]at t |-;have g:=WC.star z;rw[j]at g;have:=Lc _ _ _ _ _ ak c U Z ⟨5,0,i,0,zN,true,0,0,0⟩ [] (.star a) (h.aY F) (PL.nil _) (a2S 256) (.inr (.inr (.inr ⟨rfl,rfl,rfl,rfl,A,a,b,rfl⟩))) g t rfl rfl (aft Z);rw[afu 5 i 0 _ _ 5 i 0 rfl rfl rfl]at this;exact this
 have:(i:Int)<D.length:=by omega
 cases a with
 | star x =>
   clear o;delta zF;go_in;simp[qW]at k0;go_wp2;go_ret;exact RQ.here (r:=i) h zK b
 | zero=>exact absurd rfl q
 | one=>exact absurd rfl p
 | _ =>
   have C:=(o w zK (by intro x e;simp at e));clear o;simp only[qW]at k0;delta zF;go_in;go_wp2_with (go_at_call 152;refine C.mono ?_;rintro e v ⟨y,R,r,rfl,u,s,hq⟩;have B:=(show RQ base w fb vb D ak c U Z _ (zR (zI (r:Nat))) v from ⟨y,R,r,rfl,u,s,hq⟩);clear u s hq);go_ret;exact B
end
section
variable {a d y:NF} {D R U X xs ys:List NF} {I L P S Z Z2:LN} {ak bb cap fb g n q s t vb jS:Nat} {w' w1 w2 w5:World} {v v5 vp:Value} {e:Ending}
def afv(base m w fb vb D ak c U Z a)(i:Nat)(h:ST base m fb vb D ak c U Z)(F0:aB [] m w)(o:D[i]?=some a) :
 zF 164 #[zP fb,zI i] w λe w'=>∃v L,e=zR v/\PL w' v L/\(∀j∈L,j<D.length)/\(∀p,p∈parts a↔p∈L.map λj=>D.getD j .zero)/\L.length<=(parts a).length/\(L≠[]->∀x n cp,v=.slice (some x) n cp->x.block<m.heap.size\/x.block=w.heap.size)/\aB [] w w':=by
 obtain⟨f,L,_,K⟩:=h.look o;have G:=K.lt;have t:=h.pP.2.2.2.2.2;have t0:=(F0.cell (by show fb<_;omega) (by simp)).trans K.tab;have k0:=(F0.cell (p:=(zB vb (i*12))) t.2.2.2.1 (by simp)).trans K.get.1;have N:=(F0.cell (p:=(zB vb (i*12+7))) t.2.2.2.1 (by simp)).trans K.get.2.2.2.2.2.2.2.1;have d:=h.num o h.pP.1;have kd:=K.kd;have KS:=K.sum;have KP:=K.pl;have H:=h.pP.2.2.2.1;have r:=h.pP.2.2.1;rw[kd]at k0;clear kd K;have u:D.getD i .zero=a:=by simp[List.getD,o]
 by_cases k:i=0
 .have:=d.1 k;subst this;subst k;clear d;delta zF;go_in;go_wp2;go_ret;exact⟨_,[],rfl,PL.nil _,by simp,by simp[parts],by simp,by simp,zK⟩
 have:=abb k;have:a≠.zero:=λe=>k (d.2 e);clear d;have:(i:Int)<D.length:=by omega
 by_cases q:∃l,a=.sum l
 .obtain⟨l,rfl⟩:=q;simp only[qW]at k0;have b:=KS l rfl;have HR:l.length=L.length/\∀p,p∈l↔p∈L.map λj=>D.getD j .zero:=by
   have ht:=Fe H b.1;refine⟨?_,λp=>?_⟩
   .rw[b.2.1,ags ht (Pz r b.2.2 b.1)];simp
   rw[b.2.1];exact iA ht
  delta zF;go_in;go_wp2;go_ret;refine⟨_,L,rfl,KP.aC F0 (qV.nil _),b.1,by simpa[parts] using HR.2,by simp[parts,HR.1],?_,zK⟩;intro E x n cp e;obtain⟨P,_,C,A⟩:=KP.1;obtain⟨g,_,B,z,_⟩:=A 0 (a1O.2 E);rw[C,B]at e;simp at e;obtain⟨rfl,_⟩:=e;exact .inl z
 have:qW a≠4:=by cases a<;>simp_all[qW]
 have:((qW a:Int)==4)=false:=by rw[a0j];omega
 have s:parts a=[a]:=by cases a<;>simp_all[parts]
 delta zF;go_in;go_wp2;go_ret;refine⟨_,[i],rfl,?_,by simpa using G,?_,by simp[s],λ_ x n cp e=>by simp at e;obtain⟨rfl,_⟩:=e;exact .inr rfl,zJ⟩
 .exact PL.alG (base:=w.heap.size) (World.ownsRow_lit _ #[zI i] 1 (a0b _) (by unfold maxLen;omega) (by simp)) (by simp)
 intro p;rw[s];simp only[a0E,a1V,u]
def alH(A:NF):Prop:=∀(base:Nat) (w:World) (fb vb:Nat) (D:List NF) (ak c:Nat) (U:List NF) (Z:LN) (B:NF) (i j:Nat),ST base w fb vb D ak c U Z->D[i]?=some A->D[j]?=some B->(∀f∈uZ A B,f∈U) ->
    zF 155 #[zP fb,zI i,zI j] w (RQ base w fb vb D ak c U Z (aG A B))
def auU(h:∀x y,a≠.pair x y):((qW a:Int)==3)=false:=by
 rw[a0j];cases a<;>simp[qW];exact h _ _ rfl
def amj(A):alH A:=by
 refine NF.ind ?_ A;intro A ih base w fb vb D ak c U Z B i j b E C HU;obtain⟨f,L,cap,K⟩:=b.look E;obtain⟨_,_,_,K2⟩:=b.look C;have aL:=K.lt;have M:=K2.lt;have t0:=K.tab;obtain⟨c0,c1,c2,c3,c4,c5,c6,c7,c8,c9,c10,c11⟩:=K.get;have S:=K2.get.2.2.2.2.2.2.2.2.1;have T:=b.pP.1;have t:=b.num E b.pP.1;have n1:=b.num E b.pP.2.1;have q:=b.num C b.pP.1;have n:=b.num C b.pP.2.1;have kd:=K.kd;have te:=K.te;have G:=K2.te;obtain⟨av,m,I,_⟩:=K.pl.1;rw[I]at c7;have KP:=K.pair;have Be:=b.pP.2.2.2.2.2;rw[kd]at c0;rw[te]at c8;rw[G]at S;have aag:(i:Int)<D.length:=by omega
 have ng:(j:Int)<D.length:=by omega
 by_cases Y:i=0
 .have:=t.1 Y;subst this;subst Y;delta zF;go_in;go_wp2;go_ret;exact RQ.here (r:=0) b zK T
 have b0:=abb Y;have m0:A≠.zero:=λe=>Y (t.2 e);by_cases X:j=0
 .have:=q.1 X;subst this;subst X;delta zF;go_in;go_wp2;go_ret;exact RQ.here (r:=0) b zK (by rw[fJ];exact T)
 have b1:=abb X;have p0:B≠.zero:=λe=>X (q.2 e);by_cases W:i=1
 .have:=n1.1 W;subst this;subst W;delta zF;go_in;go_wp2;go_ret;exact RQ.here (r:=j) b zK C
 have b2:=afs W;have m1:A≠.one:=λe=>W (n1.2 e);by_cases V:j=1
 .have:=n.1 V;subst this;subst V;delta zF;go_in;go_wp2;go_ret;exact RQ.here (r:=i) b zK (by rw[bF];exact E)
 have b3:=afs V;have p1:B≠.one:=λe=>V (n.2 e);have X0:aP B=true:=by cases B<;>simp_all[aP]
 by_cases hp:∃x y,A=.pair x y
 .obtain⟨x,y,rfl⟩:=hp;have u:=KP x y rfl;simp only[qW]at c0;delta zF;go_in;go_wp2_with fail;have F1:aB [] w (w.alloc (.cells #[zI 3,.int .u64 (wd f.s 0),.int .u64 (wd f.s 1),.int .u64 (wd f.s 2),.int .u64 (wd f.s 3),zI f.fi,zI f.se,.slice av L.length m,.bool (dK (.pair x y)),zI f.lk,zI f.ak,zI f.lf] 247)):=zJ;have kv:=bD w (.cells #[zI 3,.int .u64 (wd f.s 0),.int .u64 (wd f.s 1),.int .u64 (wd f.s 2),.int .u64 (wd f.s 3),zI f.fi,zI f.se,.slice av L.length m,.bool (dK (.pair x y)),zI f.lk,zI f.ak,zI f.lf] 247);have z1:(w.alloc (.cells #[zI 3,.int .u64 (wd f.s 0),.int .u64 (wd f.s 1),.int .u64 (wd f.s 2),.int .u64 (wd f.s 3),zI f.fi,zI f.se,.slice av L.length m,.bool (dK (.pair x y)),zI f.lk,zI f.ak,zI f.lf] 247)).heap.size=w.heap.size+1:=by simp
  generalize w.alloc (.cells #[zI 3,.int .u64 (wd f.s 0),.int .u64 (wd f.s 1),.int .u64 (wd f.s 2),.int .u64 (wd f.s 3),zI f.fi,zI f.se,.slice av L.length m,.bool (dK (.pair x y)),zI f.lk,zI f.ak,zI f.lf] 247)=w1 at F1 kv z1 |-;have l:=HU;rw[E5 X0]at l;refine(ih y (by simp[NF.size];omega) base w1 fb vb D ak c U Z B f.se j (b.aY F1) u.2 C (λg hg=>l g (by simp[hg]))).mono ?_;rintro e w2 ⟨Dp,R,r1,rfl,dY,lz,hq⟩;have q5:zC w2 w.heap.size 5 (zI f.fi):=by have:=hq.block (k:=w.heap.size) (by omega) (by omega) (by omega);rw[kv]at this;simp[World.cell?,this]
  have C2:=(ih x (by simp[NF.size];omega) base w2 fb Dp (D++R) ak c U Z (aG y B) f.fi r1 dY (rU u.1) lz (λg hg=>l g (by simp[hg])));have Q2:=FQ.aba F1 hq;have HT:aG (.pair x y) B=aG x (aG y B):=dA X0;go_wp2_with fail;refine C2.mono ?_;rintro e w3 d;have v:=RQ.later Q2 d;obtain⟨_,_,r3,rfl,_⟩:=d;go_wp2;go_ret;rw[HT];exact v
 have k3:=auU (a:=A) (λx y e=>hp ⟨x,y,e⟩);have N:dP A=true:=by cases A<;>simp_all[dP]
 have HT:aG A B=.pair A B:=aX N X0;have EF:(NF.pair A B)∈U:=HU _ (by rw[nA N X0];simp);have z:∀w',aB [] w w'->zF 152 #[zP fb,.agg #[zI 3,.int .u64 0,.int .u64 0,.int .u64 0,.int .u64 0,zI i,zI j,zN,.bool (dK A&&dK B),zI 0,zI 0,zI 0]] w' (RQ base w' fb vb D ak c U Z (.pair A B)):=by intro w' F;have H:=WC.then (b.pP.2.2.2.1 A (a0B E)) (b.pP.2.2.2.1 B (a0B C));rw[HT]at H;have:=Lc base w' fb vb D ak c U Z ⟨3,0,i,j,zN,dK A&&dK B,0,0,0⟩ [] (.pair A B) (b.aY F) (PL.nil _) (a2S 256) (.inr (.inl ⟨rfl,rfl,rfl,aL,M,A,B,E,C,rfl⟩)) H EF rfl rfl (aft Z);rw[afu 3 i j _ _ 3 i j rfl rfl rfl]at this;exact this
 rw[HT];have F0:∀o,aB [] w (w.alloc o):=λo=>zK.alloc o;have hv1:=Be.2.2.2.1;have hv0:fb<w.heap.size:=by omega
 have:∀o,zC (w.alloc o) fb 0 (zS vb D.length cap):=λo=>(((aB.refl [] w).alloc o).cell (p:=(zA fb)) hv0 (by simp)).trans t0;have O:∀o,zC (w.alloc o) vb (j*12+8) (.bool (dK B)):=λo=>(((aB.refl [] w).alloc o).cell (p:=(zB vb (j*12+8))) hv1 (by simp)).trans S;cases J:dK A with
 | true =>
   rw[J]at c8 z;cases h:dK B with
   | true =>
     rw[h]at S z;simp only[h]at O;delta zF;go_in;go_wp2_with (go_at_call 152;refine(z _ (F0 _)).mono ?_;rintro e w3 d;have v:=RQ.first (F0 _) d;obtain⟨_,_,r3,rfl,_⟩:=d);go_ret;exact v
   | false =>
     rw[h]at S z;simp only[h]at O;delta zF;go_in;go_wp2_with (go_at_call 152;refine(z _ (F0 _)).mono ?_;rintro e w3 d;have v:=RQ.first (F0 _) d;obtain⟨_,_,r3,rfl,_⟩:=d);go_ret;exact v
 | false =>
   rw[J]at c8 z;delta zF;go_in;go_wp2_with (go_at_call 152;refine(z _ (F0 _)).mono ?_;rintro e _ d;have v:=RQ.first (F0 _) d;obtain⟨_,_,_,rfl,_⟩:=d);go_ret;exact v
theorem Cz {j}(h:D[j]?=some d):D.getD j .zero=d:=by simp[List.getD,h]
def any_take_succ(R:LN)(g j)(h:j<R.length):(R.take (j+1)).any g=((R.take j).any g||g R[j]):=by
 have e:R.take (j+1)=R.take j++[R[j]]:=by rw[a1c,a0a h];rfl
 rw[e,List.any_append];simp only[a3m,List.any_nil,Bool.or_false]
def ahE(base w fb vb D ak c U Z v L l)(h:ST base w fb vb D ak c U Z)(X:NL .i64 w v L)(hL:L.length<=9500000000000)
 (N:∀j∈L,j<D.length) (ht:JY l) (E:∀p,p∈l↔p∈L.map λj=>D.getD j .zero) (C:WC (mkS (gU l))) (hU:2<=(gU l).length->mkS (gU l)∈U) :
 zF 166 #[zP fb,v] w (RQ base w fb vb D ak c U Z (mkS (gU l))):=by
 have hlen:=h.len;have R1:=afr _ _ _ X hL;have W:=h.pP.1;have ND:=h.pP.2.2.1;have A:=h.pP.2.2.2.1;have RS:∀R,RO R L->gU (R.map λj=>D.getD j .zero)=gU l/\(gU l).length=R.length:=λR t=>arP ND A t N ht E;have HW:=C;have HZ:=h.zs;obtain⟨_,_,rfl,_⟩:=X;clear C ht E;delta zF;go_in;go_wp2_with fail;refine R1.mono ?_;rintro e w1 ⟨_,R,rfl,d,s,F1⟩;have su:=RS R s;have o:∀j∈R,j<D.length:=λj G=>N j ((s.2 j).1 G);have i:R.length<=D.length:=by
  rw[<-su.2,<-su.1];exact qP (Cb (xA _)) λx hx=>by obtain⟨j,G,rfl⟩:=a0q.1 (kK hx);exact MG (o j G)
 have H:=h.aY F1;obtain⟨T,P,rfl⟩:=aW d;obtain⟨_,_,e2,q⟩:=xV d;simp[Value.slice.injEq,a1W]at e2;obtain⟨rfl,rfl⟩:=e2;clear R1 RS h N
 match R,i,su,s,o,d,q with
 | [],i,su,s,o,d,q =>
   have e:mkS (gU l)=.zero:=by rw[<-su.1];rfl
   clear q d;go_wp2;go_ret;rw[e];exact RQ.first F1 (RQ.here (r:=0) H zK W)
 | [r],i,su,s,o,d,q =>
   have e:mkS (gU l)=D.getD r .zero:=by rw[<-su.1];rfl
   have hr:r<D.length:=o r (by simp);obtain⟨g,off,rfl,hg,Y⟩:=q 0 (by simp);simp[List.getElem_cons_zero,a1Q]at Y;clear q d;go_wp2;go_ret;rw[e];exact RQ.first F1 (RQ.here (r:=r) H zK (getD_some hr))
 | r::r'::R',i,su,s,o,d,q =>
   obtain⟨R,t⟩:∃R,R=r::r'::R':=⟨_,rfl⟩;have O:2<=R.length:=by rw[t];simp
   rw[<-t]at i su s o d q;have z:(r::r'::R').length=R.length:=by rw[t]
   rw[z];clear t z;have b0:=abb (a:=R.length) (by omega);have b1:=afs (a:=R.length) (by omega);go_wp2_with fail;have V:∀w',aB [] w1 w'->zF 152 #[zP fb,.agg #[zI 4,.int .u64 0,.int .u64 0,.int .u64 0,.int .u64 0,zI 0,zI 0,.slice T R.length P,.bool ((R.take R.length).any λj=>dK (D.getD j .zero)),zI 0,zI 0,zI 0]] w' (RQ base w' fb vb D ak c U Z (mkS (gU l))):=by
    intro w' F;have M:mkS (gU l)=.sum (gU (R.map λj=>D.getD j .zero)):=by rw[su.1];exact amv (by rw[su.2];exact O)
    have EF:=hU (by rw[su.2];exact O);have y:=HW;rw[M]at EF y |-;have lV:PL w' (.slice T R.length P) R:=(PL.alG d (by omega)).aC F (qV.nil _);have I:((R.take R.length).any λj=>dK (D.getD j .zero))=dK (.sum (gU (R.map λj=>D.getD j .zero))):=by
     rw[a2h];show _=agc _;rw[Fh,any_congr (a:=gU (R.map λj=>D.getD j .zero)) (b:=R.map λj=>D.getD j .zero) (λp=>iA (Fe A o)),List.any_map];rfl
    have:=Lc base w' fb vb D ak c U Z ⟨4,0,0,0,.slice T R.length P,(R.take R.length).any λj=>dK (D.getD j .zero),0,0,0⟩ R _ (H.aY F) lV (a2S 256) (.inr (.inr (.inl ⟨rfl,rfl,rfl,rfl,s.1,o,rfl⟩))) y EF I rfl (λx n cc e E=>by simp at e;obtain⟨rfl,_⟩:=e;have h1:=(d.lt _ rfl).1;have O:=HZ _ E;omega);rw[afu 4 0 0 _ _ 4 0 0 rfl rfl rfl]at this;exact this
   go_loopg [6,22] R.length (λk vt vi wr=>∃j:Nat,j+k=R.length/\vi=zI j/\vt=.bool ((R.take j).any λj=>dK (D.getD j .zero))/\wr=w1);case atStart=>exact⟨0,by omega,rfl,by simp,rfl⟩
   case round =>
    obtain⟨j,G,rfl,rfl,C⟩:=hrel;subst C;by_cases S:j<R.length
    .obtain⟨g,_,rfl,_,Y⟩:=q j S;have J:=o R[j] (a0u S);obtain⟨f,_,_,K⟩:=H.look (getD_some J);have t0:=K.tab;have k8:=K.get.2.2.2.2.2.2.2.2.1;have I:=K.te;rw[I]at k8;have u:=any_take_succ R (λj=>dK (D.getD j .zero)) j S;clear K I;generalize R[j]=m at *;clear V;cases hb:(R.take j).any λj=>dK (D.getD j .zero);rw[hb]at u;have B:((R.take (j+1)).any λj=>dK (D.getD j .zero))=dK (D.getD m .zero):=by have:=u;rw[a3l]at this;exact this
     clear u hb;generalize dK (D.getD m .zero)=bm at *;rotate_left;rw[hb]at u;have B:((R.take (j+1)).any λj=>dK (D.getD j .zero))=true:=by have:=u;rw[Bool.true_or]at this;exact this
     clear u hb;all_goals
      go_wp2;go_roundg (gk-1);case measure=>omega
      case rel=>exact⟨j+1,by omega,by go_num,by rw[B],rfl⟩
    have mK:j=R.length:=by omega
    subst mK;have N2:=V wr zK;clear V;generalize ((R.take R.length).any λj=>dK (D.getD j .zero))=tb at *;go_wp2_with (go_at_call 152;refine N2.mono ?_;rintro e _ fV;have R3:=RQ.first F1 fV;obtain⟨_,_,_,rfl,_⟩:=fV);go_ret;exact R3
def JL(D:List NF)(P:LN)(s:Nat)(X:List NF):Prop :=
 (∀q∈P,q<D.length)/\(∀p,p∈P.map (λj=>D.getD j .zero)↔p∈X/\dF p=false)/\s=bf X/\P.length<=X.length
theorem JL.nil(D):JL D [] 0 []:=⟨by simp,by simp,rfl,by simp⟩
theorem Xe(X d):bf (X++[d])=bf X ||| bits d:=by rw[zh,tH];simp[bf]
theorem JL.set(h:JL D P s X):JL D P (s ||| t) (X++[.set t]):=by
 refine⟨h.1,λp=>?_,?_,?_⟩
 .rw[h.2.1 p];constructor
  .grind
  grind [dF]
 .rw[Xe,<-h.2.2.1];rfl
 have:=h.2.2.2;simp;omega
theorem JL.add(h:JL D P s X)(hq:D[q]?=some d)(hd:dF d=false):JL D (P++[q]) s (X++[d]):=by
 have a:=Cz hq;refine⟨?_,λp=>?_,?_,?_⟩
 .intro j b;rcases a0e.1 b with e|e
  .exact h.1 j e
  grind
 .rw[a0P,a0e,h.2.1 p];simp only[a0E,a1V,a0w,a0e,a];constructor
  .grind
  grind
 .rw[Xe,<-h.2.2.1,UI hd];simp
 have:=h.2.2.2;simp;omega
theorem JL.congr{Y}(h:JL D P s X)(b:∀p,p∈X↔p∈Y)(c:X.length<=Y.length):JL D P s Y:=by
 refine⟨h.1,λp=>by rw[h.2.1 p,b p],?_,a0h h.2.2.2 c⟩;rw[h.2.2.1];refine GY λi=>?_;rw[a0T,a1s,a1s];exact⟨λ⟨x,a,e⟩=>⟨x,(b x).1 a,e⟩,λ⟨x,a,e⟩=>⟨x,(b x).2 a,e⟩⟩
theorem JL.core(h:JL D P (bf X) X)(b:bf X=0):∀p,p∈bN X↔p∈P.map λj=>D.getD j .zero:=by
 intro p;rw[h.2.1 p,jl];constructor
 .grind
 intro a;exact .inl a
theorem abf(h:∀q∈P,q<D.length):(P.map λj=>(D++R).getD j .zero)=P.map λj=>D.getD j .zero:=by grind [List.map_congr_left,List.getD,List.getElem?_append_left]
theorem JL.coreS {r}(h:JL D P (bf X) X)(b:bf X≠0)(a:(D++R)[r]?=some (.set (bf X))):∀p,p∈bN X↔p∈(P++[r]).map λj=>(D++R).getD j .zero:=by
 intro p;rw[a0P,a0e,abf h.1,h.2.1 p,jl];simp only[a0E,a1V,a0w,Cz a];constructor
 .grind
 grind
def BX(w:World)(bb s:Nat):Prop:=w.heap[bb]?=some (.cells #[.int .u64 (wd s 0),.int .u64 (wd s 1),.int .u64 (wd s 2),.int .u64 (wd s 3)] 236 (0,0))
theorem BX.lt {w}(h:BX w bb s):bb<w.heap.size:=(a0c.1 h).1
theorem BX.aC{w}(h:BX w bb s)(F:aB S w w')(a:bb∉S):BX w' bb s:=(F.block bb h.lt a).trans h
theorem BX.fz {w}(h:BX w bb s)(o):w.frozen? (zB bb o)=false:=by unfold BX at h;simp[World.frozen?,h]
theorem BX.get {w}(h:BX w bb s):w.cell? ⟨bb,0,none⟩=some (.int .u64 (wd s 0))/\w.cell? ⟨bb,1,none⟩=some (.int .u64 (wd s 1))/\w.cell? ⟨bb,2,none⟩=some (.int .u64 (wd s 2))/\w.cell? ⟨bb,3,none⟩=some (.int .u64 (wd s 3)):=by
 unfold BX at h;simp only[World.cell?,h];exact⟨rfl,rfl,rfl,rfl⟩
theorem BX.set {w}(h:BX w bb s)(t):BX ((((w.setCell (zA bb) (.int .u64 (wd t 0))).setCell (zB bb 1) (.int .u64 (wd t 1))).setCell (zB bb 2) (.int .u64 (wd t 2))).setCell (zB bb 3) (.int .u64 (wd t 3))) bb t:=by
 unfold BX at h |-;simp only[World.setCell,a0v,h,a0G,a1x];rfl
structure OQ(w wr:World)(bb:Nat)(D:List NF)(vp:Value)(P:LN)(s:Nat)(X:List NF):Prop where
 il:IL w.heap.size wr vp P
 nb:vp.ownBlock≠some bb
 bx:BX wr bb s
 os:JL D P s X
 fr:aB [] w wr
 bw:w.heap.size<=bb
 sl:s<2 ^ 256
theorem OQ.aY{w wr}(h:OQ w wr bb D vp P s X)(f:aB [] wr w'):OQ w w' bb D vp P s X :=
 ⟨fG h.il f (by simp),h.nb,h.bx.aC f (by simp),h.os,h.fr.trans f,h.bw,h.sl⟩
def BX.wu {w}(h:BX w bb s):qV w [bb]:=by intro k a cur fz;simp at a;subst a;rw[h];simp
def PL.apY{w}(h:PL w v L)(f:aB S w w')(d:∀a n c,v=.slice (some a) n c->a.block∉S):PL w' v L:=by refine⟨h.1.aC f d,?_,h.2.2⟩;intro a n c e;obtain⟨cur,fz,b⟩:=h.2.1 a n c e;exact⟨cur,fz,(f.block _ (a0c.1 b).1 (d a n c e)).trans b⟩
def OQ.joined{w wr}(h:OQ w wr bb D vp P s X)(ht:t<2 ^ 256)(f:aB [bb] wr w')(hb:BX w' bb (s ||| t)):OQ w w' bb D vp P (s ||| t) (X++[.set t]):=by have b:=h.bw;refine⟨mO h.il f (λk a=>by simp;intro e;subst e;exact h.nb a),h.nb,hb,h.os.set,?_,h.bw,Nat.or_lt_two_pow h.sl ht⟩;exact⟨f.os.trans h.fr.os,f.tape.trans h.fr.tape,f.output.trans h.fr.output,a0h h.fr.size f.size,λk a _=>(f.block k (a0t a h.fr.size) (by simp;omega)).trans (h.fr.block k a (by simp))⟩
theorem OQ.add{w wr o}(h:OQ w wr bb D vp P s X)(hq:D[q]?=some d)(hd:dF d=false)
 (f:IL w.heap.size w' (zS g (P.length+1) cap) (P++[q])) (b:(wr.alloc o).grownBy w' vp.ownBlock) (j:vp.ownBlock=some g\/g=(wr.alloc o).heap.size):OQ w w' bb D (zS g (P.length+1) cap) (P++[q]) s (X++[d]):=by
 have:=h.bw;have:=h.bx.lt;have c:=h.aY ((aB.refl [] wr).alloc o);refine⟨f,?_,c.bx.aC (aB.fo b) (λa=>by rw[a0H]at a;exact h.nb a),h.os.add hq hd,?_,h.bw,h.sl⟩
 .simp[Value.ownBlock,ne_eq,Option.some.injEq];intro e;subst e;rcases j with e|e
  .exact h.nb e
  simp at e;omega
 exact c.fr.grown b (λk i=>.inr (h.il.lt k i).1)
def TE.apZ {base w E B}(h:TE base w fb vb E B ak)(f:aB S w w')(i:fb∉S)(g:vb∉S)(d:∀e∈E,∀x n c,e.1.vp=.slice (some x) n c->x.block∉S):TE base w' fb vb E B ak:=by obtain⟨cap,ht,b⟩:=h.row;exact⟨⟨cap,ht.aC f i,mO b f (λk a=>by simp[Value.ownBlock]at a;subst a;omega)⟩,λe he=>(h.pl e he).apY f (d e he),h.st,h.fb,a0h h.sz f.size⟩
def PL.blk {w}(h:PL w v L) {x c}(e:v=.slice (some x) n c):x.block<w.heap.size:=by obtain⟨cur,fz,a⟩:=h.2.1 x n c e;exact(a0c.1 a).1
def aB.asw {a b}(h:aB S a.drew b):aB S a b:=⟨h.os,h.tape,h.output,h.size,h.block⟩
def ap0{a sz}(h:vp.ownBlock≠some g)(b:vp.ownBlock=some a\/a=sz)(c:g<sz):Value.ownBlock (zS a n cap)≠some g:=by
 intro e;simp[Value.ownBlock]at e;subst e;rcases b with e|e
 .exact h e
 omega
def akc(ls:List NF)(k):((ls.take k).flatMap parts).length<=(ls.flatMap parts).length:=by
 have e:ls.flatMap parts=(ls.take k).flatMap parts++(ls.drop k).flatMap parts:=by rw[<-List.flatMap_append,a1C]
 rw[e];simp
def Ld(M:LN)(f j)(h:j<M.length)(X:List NF):X++(M.take (j+1)).map f=(X++(M.take j).map f)++[f M[j]]:=by
 have e:M.take (j+1)=M.take j++[M[j]]:=by rw[a1c,a0a h];rfl
 rw[e,a0P,a0M];rfl
def auV(h:dF a=false):((qW a:Int)==2)=false:=by rw[a0j];cases a<;>simp_all[qW,dF]
def afx(base w fb vb D ak c U Z v I ls)(h:ST base w fb vb D ak c U Z)(hv:NL .i64 w v I)
 (hI:∀j∈I,j<D.length) (y:ls=I.map λj=>D.getD j .zero) (hU:Ff U ls) :
 zF 153 #[zP fb,v] w (RQ base w fb vb D ak c U Z (bQ ls)):=by
 obtain⟨_,_,rfl,hN⟩:=hv;have HS:=aj h;have HI:=aj hI;have HLS:=aj y;have HU:=aj hU;have hll:ls.length=I.length:=by rw[y];simp
 have hIl:I.length<=9000000000000:=by have:=hU.2.2.2;omega
 delta zF;go_in;go_wp2_with fail;go_loopg [5,16] I.length (λk vp vi wr=>∃(j:Nat) (P:LN) (s:Nat),j+k=I.length/\vi=zI j/\OQ w wr (w.heap.size+1) D vp P s ((ls.take j).flatMap parts))
 case atStart =>
  have F2:aB [] w ((w.alloc (.cells #[] 3)).alloc (.cells #[.int .u64 0,.int .u64 0,.int .u64 0,.int .u64 0] 236)):=((aB.refl _ _).alloc _).alloc _;refine⟨0,[],0,by omega,rfl,?_,by simp[Value.ownBlock],?_,JL.nil _,F2,by omega,a2S 256⟩
  .have:=World.ownsRow_lit (w:=w) (e:=3) (size:=1) #[] 0 (a0b _) (by unfold maxLen;omega) (by simp);exact World.ownsRow.alloc this _
  have e:w.heap.size+1=(w.alloc (.cells #[] 3)).heap.size:=by simp
  unfold BX;rw[e];have:=bD (w.alloc (.cells #[] 3)) (.cells #[.int .u64 0,.int .u64 0,.int .u64 0,.int .u64 0] 236);simpa[wd] using this
 case round =>
  obtain⟨j,P,s,hj,rfl,b⟩:=hrel;obtain⟨N,Vg⟩:∃N,N=wr:=⟨_,rfl⟩;subst Vg;obtain⟨go,iD⟩:∃go,go=gk:=⟨_,rfl⟩;subst iD;obtain⟨ap,m,rfl⟩:=aW b.il;have z:=aj b;have Nz:=b.bx.lt;by_cases aL:j<I.length
  .obtain⟨g,off,rfl,hg,hc⟩:=(aj hN).o j aL;have oN:zC N g (off+j) (zI (I[j]:Nat)):=(z.o.fr.cell hg (by simp)).trans hc;have PO:=aj (afv base w N fb vb D ak c U Z _ I[j] HS.o z.o.fr (getD_some (HI.o I[j] (a0u aL))));have FL1:Z_ ((ls.take (j+1)).flatMap parts=(ls.take j).flatMap parts++parts (D.getD I[j] .zero)):=by
    show _=_;have e:ls.take (j+1)=ls.take j++[D.getD I[j] .zero]:=by
     rw[HLS.o,a1c];simp[aL]
    rw[e,List.flatMap_append];simp
   have hXL:((ls.take j).flatMap parts).length+(parts (D.getD I[j] .zero)).length<=9000000000000:=by
    have h1:=akc ls (j+1);rw[FL1.o,a0p]at h1;have:=HU.o.2.2.1;omega
   generalize hIj:I[j]=i at *;generalize hDi:D.getD i .zero=a at *;go_wp2_with fail;refine(PO.o).mono ?_;rintro e _ ⟨_,M,rfl,lV,hM,nJ,_,ap1,aR⟩;obtain⟨a2,c2,rfl,_⟩:=lV.1;have BL2:Z_ (M≠[]->∀x n cp,(Value.slice a2 M.length c2)=.slice (some x) n cp->x.block<w.heap.size\/x.block=N.heap.size):=ap1;have HMM:=aj nJ;have jc:=z.o.il;have NE2:Z_ (∀x n cp,M≠[]->(Value.slice a2 M.length c2)=.slice (some x) n cp->Value.ownBlock (.slice ap P.length m)≠some x.block):=by
    intro x n cp bJ e e2;have h1:=jc.lt _ e2;rcases BL2.o bJ x n cp e with _|_<;>omega
   go_wp2_with fail;go_loopg [5,24] M.length (λk vp vi wr=>∃(l:Nat) (P:LN) (s:Nat),l+k=M.length/\vi=zI l/\OQ w wr (w.heap.size+1) D vp P s ((ls.take j).flatMap parts++(M.take l).map λj=>D.getD j .zero)/\PL wr (.slice a2 M.length c2) M/\Z_ (∀x n cp,M≠[]->(Value.slice a2 M.length c2)=.slice (some x) n cp->vp.ownBlock≠some x.block));case atStart=>exact⟨0,P,s,by omega,rfl,by simpa using (aj (z.o.aY aR)).o,aj lV,NE2⟩
   case round =>
    obtain⟨l,W,s2,_,rfl,b,lV,NE⟩:=hrel;obtain⟨ap2,cp2,rfl⟩:=aW b.il;have O3:=aj b;have P3:=aj lV;have ayb:=b.bx.lt;have hP2:=b.os.2.2.2;have qj:=b.sl;have S3:=aj (HS.o.aY b.fr);have T:=b.bx.get;have g0:=b.bx.fz 0;have g1:=b.bx.fz 1;have g2:=b.bx.fz 2;have g3:=b.bx.fz 3;by_cases ng:l<M.length
    .obtain⟨_,_,e3,h3⟩:=P3.o.1;simp only[Value.slice.injEq,a1W]at e3;obtain⟨rfl,rfl⟩:=e3;obtain⟨g,off,rfl,_,_⟩:=h3 l ng;have bJ:M≠[]:=λe=>by rw[e]at ng;simp at ng
     have hmj:=(aj hM).o M[l] (a0u ng);have hD3:=getD_some hmj;obtain⟨f,_,_,K⟩:=S3.o.look hD3;have t0:=K.tab;obtain⟨k0,k1,k2,k3,k4,_⟩:=K.get;have hkd:=K.kd;have KS:=aj K.set;have KT:=aj K.st;rw[hkd]at k0;have MT:=aj (Ld M (λj=>D.getD j .zero) l ng ((ls.take j).flatMap parts));have hX2:((ls.take j).flatMap parts++(M.take l).map λj=>D.getD j .zero).length<=9000000000000:=by
      simp only[a0p,a0y,a1k];omega
     clear h3 K hkd;have ayc:((M[l]:Nat):Int)<D.length:=by omega
     generalize M[l]=q at *;generalize D.getD q .zero=d at *;have HD3:=aj hD3;clear hD3;cases hsd:dF d
     .have JG:=auV hsd;have MT2:Z_ (((ls.take j).flatMap parts++(M.take (l+1)).map λj=>D.getD j .zero)=((ls.take j).flatMap parts++(M.take l).map λj=>D.getD j .zero)++[d]):=MT.o;clear MT T k1 k2 k3 k4 g0 g1 g2 g3;go_wp2_with (first | (at_builtin;refine vG _ rfl _ _ rfl w.heap.size (.slice ap2 W.length cp2) W q wr.heap.size rfl (O3.o.il.alloc _) rfl (j6 _ _ _ _ rfl) (by omega) (by simp;omega) ?_;intro S V w5 aS H bq iE;have O5:=aj (O3.o.add HD3.o hsd aS H bq);have P5:=aj ((P3.o.aC ((aB.refl [] wr).alloc _) (qV.nil _)).apY (aB.fo H) (λa n cc e O=>by rw[a0H]at O;exact NE.o a n cc bJ e O));have N5:Z_ (∀x n cp,M≠[]->(Value.slice (some (zB g off)) M.length c2)=.slice (some x) n cp->Value.ownBlock (zS S (W.length+1) V)≠some x.block):=(λx n cc _ e=>by simp at e;obtain⟨rfl,_⟩:=e;exact ap0 (NE.o (zB g off) _ _ bJ rfl) bq (by simp;omega));clear aS H bq));go_roundg (gk-1);case measure=>omega
      case rel=>exact⟨l+1,W++[q],s2,by omega,by go_num,by rw[MT2.o];simpa using O5.o,P5,by simpa using N5⟩
     obtain⟨t,rfl⟩:∃t,d=.set t:=by cases d<;>simp[dF]at hsd;exact⟨_,rfl⟩
     have hft:f.s=t:=KS.o t rfl;have ht:=KT.o;rw[hft]at k1 k2 k3 k4 ht;clear hft;obtain⟨b0,b1,b2,T⟩:=T;have J:=aj (ahs s2 t wr.drew qj ht);simp only[bv]at J;have A:((qW (.set t):Nat):Int)=2:=rfl;rw[A]at k0;clear A;have MT2:Z_ (((ls.take j).flatMap parts++(M.take (l+1)).map λj=>D.getD j .zero)=((ls.take j).flatMap parts++(M.take l).map λj=>D.getD j .zero)++[.set t]):=MT.o;clear MT;go_wp2_with fail;go_region_with (go_at_call 165;refine(J.o).mono ?_;rintro e w4 ⟨rfl,nL⟩;have B4:BX w4 (w.heap.size+1) s2:=BX.aC (show BX wr.drew (w.heap.size+1) s2 from O3.o.bx) nL (by simp);obtain⟨d0,d1,d2,d3⟩:=B4.get;have e0:=B4.fz 0;have e1:=B4.fz 1;have e2:=B4.fz 2;have e3:=B4.fz 3;have B5:=aj (B4.set (s2 ||| t));have F4:=aj nL;clear nL B4);all_goals
      have F5:Z_ (aB [w.heap.size+1] wr ((((w4.setCell (zA (w.heap.size+1)) (.int .u64 (wd (s2 ||| t) 0))).setCell (zB (w.heap.size+1) 1) (.int .u64 (wd (s2 ||| t) 1))).setCell (zB (w.heap.size+1) 2) (.int .u64 (wd (s2 ||| t) 2))).setCell (zB (w.heap.size+1) 3) (.int .u64 (wd (s2 ||| t) 3)))):=((((aB.asw F4).nil.setCell (.inl (by simp)) _).setCell (.inl (by simp)) _).setCell (.inl (by simp)) _).setCell (.inl (by simp)) _;have O5:=aj (O3.o.joined ht F5.o B5);have P5:=aj (P3.o.aC F5.o O3.o.bx.wu);clear b0 b1 b2 T d0 d1 d2 d3 e0 e1 e2 e3 g0 g1 g2 g3 k0 k1 k2 k3 k4 t0 J;go_wp2;go_roundg (gk-1);case measure=>omega
      case rel=>exact⟨l+1,W,s2 ||| t,by omega,by go_num,by rw[MT2.o];exact O5,P5,NE⟩
    have qI:l=M.length:=by omega
    have u:Z_ (OQ w wr (w.heap.size+1) D (.slice ap2 W.length cp2) W s2 ((ls.take (j+1)).flatMap parts)):=by
     have h:=O3.o;refine⟨h.il,h.nb,h.bx,?_,h.fr,h.bw,h.sl⟩;refine h.os.congr ?_ ?_
     .intro p;rw[FL1.o,qI,a2h,a0e,a0e,<-HMM.o p]
     rw[FL1.o,qI,a2h,a0p,a0p,a0y];omega
    clear O3 P3 NE T g0 g1 g2 g3 qI;go_wp2;go_roundg (go-1);case measure=>omega
    case rel=>exact⟨j+1,W,s2,by omega,by go_num,u⟩
  have qI:j=I.length:=by omega
  have u:Z_ (OQ w N (w.heap.size+1) D (.slice ap P.length m) P s (ls.flatMap parts)):=by
   have h:=z.o;rw[qI,<-(aj hll).o,a2h]at h;exact h
  clear z qI;obtain⟨E,B,hE,hP,hUD,Gd,Gf⟩:=HS.o;have ayd:=HS.o.pP.2.2.2.2.2;have Y:s=bf (ls.flatMap parts):=u.o.os.2.2.1;have y:∀x∈ls,WC x:=by
   intro x hx;rw[HLS.o]at hx;obtain⟨k,A,rfl⟩:=a0q.1 hx;exact HS.o.pP.2.2.2.1 _ (MG (HI.o k A))
  have ap3:∀p∈ls.flatMap parts,wf p:=xC λx hx=>(y x hx).1;have SE:=aj (apW base N fb vb E B D ak c U Z s (hE.aY u.o.fr) hP hUD Gd u.o.sl (λh0=>by rw[Y]at h0 |-;exact HU.o.1 h0) (Gf.mono u.o.fr.size));simp only[bv]at SE;obtain⟨b0,b1,b2,T⟩:=u.o.bx.get;have HT:Z_ (JY (bN (ls.flatMap parts))):=BU (J4 ap3);have HWC:Z_ (WC (mkS (gU (bN (ls.flatMap parts))))):=WC.bQ y;have HUO:Z_ (2<=(gU (bN (ls.flatMap parts))).length->mkS (gU (bN (ls.flatMap parts)))∈U):=HU.o.2.1;have hPl:P.length<=9000000000000:=a0h u.o.os.2.2.2 HU.o.2.2.1;have L:=aj Y;have HE:=aj hE;clear Y y ap3 hE;go_wp2_with fail;refine(SE.o).mono ?_;rintro e X ⟨Dp,R,r,E',B',rfl,C,F,G,_,hr,hq,iG,xg⟩;have S3:Z_ (ST base X fb Dp (D++R) ak c U Z):=⟨E',B',C,F,G,Gd,xg⟩;have I3:Z_ (IL w.heap.size X (.slice ap P.length m) P):=mO u.o.il hq.fr (λk A=>by have:=(u.o.il.lt k A).1;simp;omega);have Q3:=aj (FQ.aba u.o.fr hq);have z3:=hq.fr.size;have HPD:Z_ (∀q∈P,q<(D++R).length):=λq hqq=>by have:=u.o.os.1 q hqq;simp;omega
  have OS4:Z_ (JL D P (bf (ls.flatMap parts)) (ls.flatMap parts)):=by have:=u.o.os;rw[L.o]at this;exact this
  have n0:=S3.o.num hr S3.o.pP.1;by_cases h0:s=0
  .have hr0:r=0:=n0.2 (by simp[Ke,h0]);subst hr0;have rC:bf (ls.flatMap parts)=0:=by rw[<-L.o];exact h0
   have SU:=aj (ahE base X fb Dp (D++R) ak c U Z (.slice ap P.length m) P (bN (ls.flatMap parts)) S3.o (xV I3) (by omega) HPD.o HT.o (λp=>by rw[abf OS4.o.1];exact OS4.o.core rC p) HWC.o HUO);clear hq hr iG C F G b0 b1 b2 T SE rC n0;go_wp2_with fail;refine(SU.o).mono ?_;rintro e w6 fV;have R6:=aj (RQ.later Q3.o fV);obtain⟨_,_,r6,rfl,_⟩:=fV;go_wp2;go_ret;exact R6
  have hsn:Ke s=.set s:=by simp[Ke,h0]
  rw[hsn]at hr n0;have hr0:r≠0:=λe=>by have:=n0.1 e;simp at this
  have hbn:((r:Int) != 0)=true:=by rw[a1M];omega
  have rC:bf (ls.flatMap parts)≠0:=by rw[<-L.o];exact h0
  have hmv:=hq.mv;have hrr:r<(D++R).length:=(a0d.1 hr).1;have hrj:(D++R)[r]?=some (.set (bf (ls.flatMap parts))):=by rw[<-L.o];exact hr
  have SU:Z_ (∀(w5:World) (S V:Nat) (o:Obj),IL w.heap.size w5 (zS S (P.length+1) V) (P++[r])->(X.alloc o).grownBy w5 (Value.ownBlock (.slice ap P.length m))->zF 166 #[zP fb,zS S (P.length+1) V] w5 (RQ base w fb vb D ak c U Z (mkS (gU (bN (ls.flatMap parts)))))):=by
   intro w5 S V o aS H;have hbk:∀k,k∈(Value.ownBlock (.slice ap P.length m)).toList->w.heap.size<=k/\k<N.heap.size:=λk A=>by
    rw[a0H]at A;exact u.o.il.lt k A
   have F5:aB (Value.ownBlock (.slice ap P.length m)).toList (X.alloc o) w5:=aB.fo H;have T4:=C.aY ((aB.refl [] X).alloc o);have T5:TE base w5 fb Dp E' B' ak:=by
    refine T4.apZ F5 (λO=>by have:=hbk _ O;omega) (λO=>by have:=hbk _ O;omega) ?_;intro e he x n _ e1 O;have A:=hbk _ O;rcases iG e he with h1|h1
    .have:=(HE.o.pl e h1).blk e1;omega
    rw[h1.1]at e1;simp at e1
   have Q5:FQ fb vb Dp w w5:=by
    refine⟨?_,Q3.o.mv⟩;exact(Q3.o.fr.alloc o).grown H (λk A=>.inr (u.o.il.lt k A).1)
   have hs:=ahE base w5 fb Dp (D++R) ak c U Z (zS S (P.length+1) V) (P++[r]) (bN (ls.flatMap parts)) ⟨E',B',T5,F,G,Gd,xg.mono (by have:=F5.size;simp at this;omega)⟩ (xV (by simpa[IL] using aS)) (by rw[a0p];simp only[a0r,a1e];omega) (λj hj=>by
    rcases a0e.1 hj with e|e
    .exact HPD.o j e
    simp at e;subst e;exact hrr) HT.o (OS4.o.coreS rC hrj) HWC.o HUO
   exact hs.mono λe w6 fV=>RQ.later Q5 fV
  clear hq hr iG C F G b0 b1 b2 T SE rC n0 hsn;go_wp2_with (first | (at_builtin;refine vG _ rfl _ _ rfl w.heap.size (.slice ap P.length m) P r X.heap.size rfl (I3.o.alloc _) rfl (j6 _ _ _ _ rfl) (by omega) (by simp;omega) ?_;intro S V w5 aS H bq _;have C5:=aj (SU.o w5 S V _ aS H);clear aS H bq)|(go_at_call 166;refine(C5.o).mono ?_;rintro e _ fV;have R6:=aj fV;obtain⟨_,_,_,rfl,_⟩:=fV));go_ret;exact R6
def ST.more {base w a c}(h:ST base w fb vb D ak c U Z)(f:aB [] w a)(g:∀k∈Z2,w.heap.size<=k/\k<a.heap.size):ST base a fb vb D ak c U (Z2++Z):=by
 obtain⟨E,B,j,o,m,l,i⟩:=h;refine⟨E,B,j.aY f,o,m,l,?_,?_⟩
 .intro k b;rcases a0e.1 b with e|e
  .exact(g k e).2
  exact a0t (i.1 k e) f.size
 intro e he x n cc ex b;rcases a0e.1 b with d|d
 .have:=(j.pl e he).blk ex;have:=(g _ d).1;omega
 exact i.2 e he x n cc ex d
def ST.less {base w c}(h:ST base w fb vb D ak c U (Z2++Z)):ST base w fb vb D ak c U Z:=by obtain⟨E,B,j,i,g,f,a⟩:=h;exact⟨E,B,j,i,g,f,λk d=>a.1 k (by simp[d]),λe he x n cc ex b=>a.2 e he x n cc ex (by simp[b])⟩
def ST.akd {base w c o}(h:ST base w fb vb D ak c U (v.ownBlock.toList++Z))(i:(w.alloc o).grownBy w5 v.ownBlock)(s:v.ownBlock=some g\/g=(w.alloc o).heap.size)(t:g<w5.heap.size)(m:fb∉v.ownBlock.toList)(l:vb∉v.ownBlock.toList):ST base w5 fb vb D ak c U ([g]++Z):=by
 obtain⟨E,B,k1,k2,q,p,b⟩:=h;have hz:ZZ w E Z:=⟨λk d=>b.1 k (by simp[d]),λe he x n cc ex a=>b.2 e he x n cc ex (by simp[a])⟩;have r:w.heap.size<=w5.heap.size:=by have:=i.size;simp at this;omega
 refine⟨E,B,(k1.aY ((aB.refl [] w).alloc o)).apZ (aB.fo i) m l (λe he x n cc ex a=>b.2 e he x n cc ex (by simp[a])),k2,q,p,?_,?_⟩
 .intro k a;rcases a0e.1 a with e|e
  .simp at e;omega
  exact a0t (hz.1 k e) r
 intro e he x n cc ex a;rcases a0e.1 a with f|f
 .simp at f;have hb:=(k1.pl e he).blk ex;rcases s with j|j
  .exact b.2 e he x n cc ex (a0e.2 (.inl (by rw[a0H,j,f])))
  simp at j;omega
 exact hz.2 e he x n cc ex f
def RZ(base:Nat)(w:World)(fb vb:Nat)(D:List NF)(ak c:Nat)(U:List NF)(Z:LN)(y:NF)(r:Nat)(w':World):Prop :=
 ∃jS R,ST base w' fb jS (D++R) ak c U Z/\(D++R)[r]?=some y/\FQ fb vb jS w w'
def RZ.here {base w c r}(h:ST base w fb vb D ak c U Z)(f:aB [] w w')(a:D[r]?=some y):RZ base w fb vb D ak c U Z y r w' :=
 ⟨vb,[],by simpa using h.aY f,by simpa using a,FQ.keepR (FQ.refl _ _ _) f⟩
def RQ.rz {base w c}(h:RQ base w fb vb D ak c U Z y e w'):∃r:Nat,e=zR (zI (r:Nat))/\RZ base w fb vb D ak c U Z y r w':=by obtain⟨jS,R,r,f,d,b,a⟩:=h;exact⟨r,f,jS,R,d,b,a⟩
def RZ.rq {base w c r}(h:RZ base w fb vb D ak c U Z y r w'):RQ base w fb vb D ak c U Z y (zR (zI (r:Nat))) w':=by obtain⟨jS,R,d,b,a⟩:=h;exact⟨jS,R,r,rfl,d,b,a⟩
theorem RZ.aY {base w c r}(h:RZ base w fb vb D ak c U Z y r w1)(f:aB [] w1 w2):RZ base w fb vb D ak c U Z y r w2:=by obtain⟨jS,R,d,b,a⟩:=h;exact⟨jS,R,d.aY f,b,FQ.keepR a f⟩
def RZ.call {base w c b r fn args}(h:RZ base w fb vb D ak c U Z y r w1)
 (g:∀(jS:Nat) (a:List NF),ST base w1 fb jS a ak c U Z->a[r]?=some y->(∀(i:Nat) (d:NF),D[i]?=some d->a[i]?=some d)->zF fn args w1 (RQ base w1 fb jS a ak c U Z b)):zF fn args w1 (RQ base w fb vb D ak c U Z b):=by
 obtain⟨jS,R,l,k,j⟩:=h;exact(g jS (D++R) l k (λi d hd=>rU hd)).mono λe w' f=>RQ.later j f
def Ob(base w fb vb D ak c U Z a)(i lo:Nat)(u)(h:ST base w fb vb D ak c U Z)(N:D[i]?=some a)(E:aj1 U a lo u)(jU:lo<=9)(T:∀n,u=some n->lo<=n/\n<=9) :
 zF 144 #[zP fb,zI i,zI lo,zI (Yt u)] w (RQ base w fb vb D ak c U Z (kD a lo u)):=by
 have J:=h.pP.2.1;rw[aj0];have I:∀(w1:World) (k r:Nat) (t:NF),RZ base w fb vb D ak c U Z t r w1->(∀f∈uZ a t,f∈U)->zF 155 #[zP fb,zI i,zI r] w1 (RQ base w fb vb D ak c U Z (aG a t)):=by intro w1 k r t h1 H;exact h1.call λjS L x B O=>amj a base w1 fb jS L ak c U Z t i r x (O _ _ N) B H
 cases u with
 | none =>
   have R:=anl _ _ _ _ _ _ c U Z a i h N (E.1 rfl);have v:Yt none=-1:=rfl;rw[v];clear v;delta zF;go_in;go_wp2_with fail;refine R.mono ?_;rintro e w1 b;obtain⟨F,rfl,P⟩:=b.rz;have z:RZ base w fb vb D ak c U Z (eQ a 0 (yU a lo none)) F w1:=P;clear b P R;go_wp2_with fail;go_loopg [9,10] 0 (λk g m wr=>g=zI F/\m=zI lo/\wr=w1);exact⟨rfl,rfl,rfl⟩
   .obtain⟨rfl,rfl,hw⟩:=hrel;subst hw;have uD:¬ ((lo:Int) < -1):=by omega
    go_wp2_with fail;go_loopg [9,12] lo (λk g l wr=>∃(j r:Nat),j+k=lo/\l=zI j/\g=zI r/\RZ base w fb vb D ak c U Z (eQ a j (yU a lo none)) r wr);exact⟨0,F,by omega,rfl,rfl,z⟩
    .clear z;obtain⟨j,r,M,rfl,rfl,RR⟩:=hrel;by_cases y:j<lo
     .have C:=I wr 0 r _ RR (E.2.2 j y);have A:eQ a (j+1) (yU a lo none)=aG a (eQ a j (yU a lo none)):=Qp _ _ _;clear RR;go_wp2_with fail;refine C.mono ?_;rintro e w2 b;obtain⟨d,rfl,s⟩:=b.rz;clear b C;go_wp2;go_roundg (gk-1);exact⟨j+1,d,by omega,by go_num,rfl,by rw[A];exact s⟩;omega
     have p:j=lo:=by omega
     subst p;go_wp2;go_ret;exact RR.rq
 | some n =>
   obtain⟨_,_⟩:=T n rfl;have v:Yt (some n)=(n:Int):=rfl;rw[v];clear v;have bJ:((n:Int) == -1)=false:=by rw[a0j];omega
   delta zF;go_in;go_wp2_with fail;go_loopg [9,10] (n-lo) (λk g m wr=>∃(j r:Nat),j+k=n-lo/\m=zI (lo+j:Nat)/\g=zI r/\RZ base w fb vb D ak c U Z (dG a j .one) r wr);exact⟨0,1,by omega,by simp,rfl,RZ.here h zK J⟩
   .obtain⟨j,r,M,rfl,rfl,RR⟩:=hrel;by_cases y:j<n-lo
    .have G:=E.2.1 n rfl j y;have C:=I wr 0 r _ RR G.1;have A:dG a (j+1) .one=kY (aG a (dG a j .one)) .one:=aaL _ _ _;have OK:=G.2;have X:((lo+j:Nat):Int)<n:=by omega
     clear RR G;go_wp2_with fail;refine C.mono ?_;rintro e w2 b;obtain⟨d,rfl,s⟩:=b.rz;have S:∀o,o=Obj.cells #[zI d,zI 1] 3->zF 153 #[zP fb,zS w2.heap.size 2 2] (w2.alloc o) (RQ base w fb vb D ak c U Z (kY (aG a (dG a j .one)) .one)):=by
      rintro o rfl;have V:=s.aY ((aB.refl [] w2).alloc (.cells #[zI d,zI 1] 3));refine V.call λjS L x B O=>?_;have Y:IL w2.heap.size (w2.alloc (.cells #[zI d,zI 1] 3)) (zS w2.heap.size 2 2) [d,1]:=World.ownsRow_lit _ #[zI d,zI 1] 2 (a0b _) (by unfold maxLen;omega) (by simp);refine afx base _ fb jS L ak c U Z (zS w2.heap.size 2 2) [d,1] [aG a (dG a j .one),.one] x (xV Y) ?_ ?_ OK
      .intro q hq;simp at hq;rcases hq with rfl|rfl
       .exact(a0d.1 B).1
       exact(a0d.1 x.pP.2.1).1
      simp only[a0E,a1V,Cz B,Cz x.pP.2.1]
     clear b C;go_wp2_with fail;refine(S _ rfl).mono ?_;rintro e _ b;obtain⟨W,rfl,R3⟩:=b.rz;clear b S s;go_wp2;go_roundg (gk-1);exact⟨j+1,W,by omega,by go_num,rfl,by rw[A];exact R3⟩;omega
    have p:j=n-lo:=by omega
    have z:RZ base w fb vb D ak c U Z (eQ a 0 (yU a lo (some n))) r wr:=by have:=RR;rw[p]at this;exact this
    have:¬ ((lo+j:Nat):Int)<n:=by omega
    clear RR p;go_wp2_with fail;go_loopg [9,12] lo (λk g l wr=>∃(j r:Nat),j+k=lo/\l=zI j/\g=zI r/\RZ base w fb vb D ak c U Z (eQ a j (yU a lo (some n))) r wr);exact⟨0,r,by omega,rfl,rfl,z⟩
    .clear z;obtain⟨j,r,M,rfl,rfl,RR⟩:=hrel;by_cases y:j<lo
     .have C:=I wr 0 r _ RR (E.2.2 j y);have A:eQ a (j+1) (yU a lo (some n))=aG a (eQ a j (yU a lo (some n))):=Qp _ _ _;clear RR;go_wp2_with fail;refine C.mono ?_;rintro e _ b;obtain⟨d,rfl,s⟩:=b.rz;clear b C;go_wp2;go_roundg (gk-1);exact⟨j+1,d,by omega,by go_num,rfl,by rw[A];exact s⟩;omega
     have p:j=lo:=by omega
     subst p;go_wp2;go_ret;exact RR.rq
def ST.ake {A base w c}(h:ST base w fb vb D ak c U Z)(q:FQ fb vb jS w w'):pO A w w':=by
 obtain⟨E,B,b,_⟩:=h;obtain⟨cap,ht,_⟩:=b.row;obtain⟨_,_,cur,d⟩:=b.vbs;intro k _ ⟨g,fz,a⟩;have f:k<w.heap.size:=by rcases a with e|e<;>exact(a0c.1 e).1
 refine q.block f ?_ ?_
 .rintro rfl;rw[ht.1]at a;rcases a with e|e<;>simp at e
 rintro rfl;rw[d]at a;rcases a with e|e<;>simp at e
def NmC(x:RX):Prop:=∀(A:Nat->Prop) (base:Nat) (w:World) (fb vb:Nat) (D:List NF) (ak c:Nat) (U:List NF) (Z:LN) (p:Nat),ST base w fb vb D ak c U Z->XR A w p x->aaM U x->uO x->tL x ->
 zF 134 #[zP fb,zP p] w (RQ base w fb vb D ak c U Z (bn x))
def Oc(A base w fb vb D ak c U Z v b l)(h:ST base w fb vb D ak c U Z)(j:XV A w v b)(q:mD A w b l)(L:zi U l)(J:Qq U l)(hd:mZ l)(ho:jm l)(G:∀y∈l,NmC y) :
 zF 145 #[zP fb,v] w (RQ base w fb vb D ak c U Z (sJ l)):=by
 obtain⟨a,_,rfl⟩:=aW j.1;have hlen:=q.len;have S:=aj j;have HR:=aj q;have HN:=aj L;have u:=aj J;have HD:=aj hd;have HO:=aj ho;have HI:=aj G;have V:=aj h;have z:=aj h.pP.2.1;have:=j.2.2;have W:=aj hlen;clear j q L J hd ho G h hlen;delta zF;go_in;go_wp2;go_loopg [5,6] b.length (λk v5 v6 wr=>∃r:Nat,k<=b.length/\v6=zI ((k:Int)-1)/\v5=zI r/\RZ base w fb vb D ak c U Z (sJ (l.drop k)) r wr);case atStart=>exact⟨1,by omega,by go_num,rfl,RZ.here V.o (aB.refl _ _) (by rw[W.o,a2H];exact z)⟩
 case round =>
  obtain⟨r,_,rfl,rfl,hz⟩:=hrel;have RR:=aj hz;clear hz;cases gk with
  | zero =>
    have R0:Z_ (RZ base w fb vb D ak c U Z (sJ l) r wr):=RR.o;clear RR;go_wp2;go_ret;exact R0.o.rq
  | succ m =>
    have n:m<l.length:=by have:=W.o;omega
    obtain⟨g,rfl⟩:∃g,a=some (zA g):=by
     rcases S.o.1.2 with⟨e,h⟩|⟨g,c,_,e,_⟩
     .simp at e;omega
     simp at e;exact⟨g,e.1⟩
    obtain⟨Dp,R,N,d,hq⟩:=RR.o;have s:pO A w wr:=V.o.ake hq;obtain⟨p,I,H⟩:=(HR.o.aY s).get m n;have hc:=(S.o.aY s).cell I;have f:=a0u n;have C:=aj (HI.o _ f A base wr fb Dp (D++R) ak c U Z p N H (KQ.1 HN.o _ f) (ak5 HD.o f) (MX HO.o f));have HT:Z_ (sJ (l.drop m)=aG (bn l[m]) (sJ (l.drop (m+1)))):=by show _=_;rw[a0k n];rfl
    have CR:=aj (u.o.get m n);have x:=aj d;have HQ:=aj hq;have O:((m+1:Nat):Int)-1=m:=by omega
    rw[O];clear O s H f I N d hq RR;generalize bn l[m]=y at *;generalize sJ (l.drop (m+1))=t at *;have:(m:Int)<b.length:=by omega
    go_wp2_with fail;refine(C.o).mono ?_;rintro e w2 ⟨Aw,P,r2,rfl,X,F,E⟩;have T:=aj (amj y base w2 fb Aw (D++R++P) ak c U Z t r2 r X F (rU x) CR);have Q2:=aj (HQ.o.trans E);clear X F E C hc;go_wp2_with fail;refine(T.o).mono ?_;rintro e Y M;have i:RQ base w fb vb D ak c U Z (aG y t) e Y:=RQ.later Q2.o (by simpa using M);obtain⟨r3,rfl,B⟩:=i.rz;have R3:=aj B;clear M i B T;go_wp2;go_roundg m;case measure=>omega
    case rel=>exact⟨r3,by omega,by go_num,rfl,by rw[HT.o];exact R3⟩
def ST.Vv {base b2 w c}(h:ST base w fb vb D ak c U Z)(j:IL b2 w v I):fb∉v.ownBlock.toList/\vb∉v.ownBlock.toList:=by
 obtain⟨E,B,f,_⟩:=h;obtain⟨cap,ht,_⟩:=f.row;obtain⟨_,_,cur,i⟩:=f.vbs;have key:∀k,v.ownBlock=some k->∃cur,w.heap[k]?=some (.cells cur 3 (0,0)):=by
  intro k b;rcases j.2 with⟨e,_⟩|⟨g,cp,cur,e,_,l,_⟩
  .rw[e]at b;simp[Value.ownBlock]at b
  rw[e]at b;simp[Value.ownBlock]at b;subst b;exact⟨cur,l⟩
 constructor
 .intro a;rw[a0H]at a;obtain⟨m,d⟩:=key _ a;rw[ht.1]at d;simp at d
 intro a;rw[a0H]at a;obtain⟨m,d⟩:=key _ a;rw[i]at d;simp at d
structure GQ(base:Nat)(w wr:World)(fb vb:Nat)(D:List NF)(ak c:Nat)(U:List NF)(Z:LN)(v5:Value)(I:LN)(X:List NF)(jS:Nat)(R:List NF):Prop where
 il:IL w.heap.size wr v5 I
 st:ST base wr fb jS (D++R) ak c U (v5.ownBlock.toList++Z)
 lt:∀q∈I,q<(D++R).length
 mp:X=I.map λj=>(D++R).getD j .zero
 fq:FQ fb vb jS w wr
def GQ.start {base w c}(h:ST base w fb vb D ak c U Z):GQ base w (w.alloc (Obj.cells #[] 3)) fb vb D ak c U Z (zS w.heap.size 0 0) [] [] vb []:=by have F:=(aB.refl [] w).alloc (Obj.cells #[] 3);refine⟨World.ownsRow_lit _ #[] 0 (a0b _) (by omega) (by simp),?_,by simp,by simp,FQ.keepR (FQ.refl _ _ _) F⟩;rw[a0R];exact h.more F (λk a=>by simp[Value.ownBlock]at a;subst a;simp)
def GQ.turn {base w wr b c g}(h:GQ base w wr fb vb D ak c U Z v5 I X jS R)(i:ST base w2 fb b (D++R++g) ak c U (v5.ownBlock.toList++Z))(hq:FQ fb jS b wr w2):GQ base w w2 fb vb D ak c U Z v5 I X b (R++g):=by
 have f:=h.st.Vv h.il;refine⟨mO h.il hq.fr (λk d=>?_),by rw[<-a0M];omega,?_,?_,h.fq.trans hq⟩
 .simp only[a0l,a1U,a2V,not_or];exact⟨λe=>f.1 (by rw[a0H,<-e];omega),λe=>f.2 (by rw[a0H,<-e];omega)⟩
 .intro q a;have:=h.lt q a;simp at this |-;omega
 rw[<-a0M,abf h.lt];exact h.mp
theorem GQ.aY {base w wr c}(h:GQ base w wr fb vb D ak c U Z v5 I X jS R)(f:aB [] wr w2):GQ base w w2 fb vb D ak c U Z v5 I X jS R :=
 ⟨fG h.il f (by simp),h.st.aY f,h.lt,h.mp,FQ.keepR h.fq f⟩
theorem GQ.add {base w wr c o}(h:GQ base w wr fb vb D ak c U Z v5 I X jS R)(hq:(D++R)[q]?=some y)
 (d:IL w.heap.size w5 (zS g (I.length+1) cap) (I++[q])) (a:(wr.alloc o).grownBy w5 v5.ownBlock) (m:v5.ownBlock=some g\/g=(wr.alloc o).heap.size) (f:g<w5.heap.size):GQ base w w5 fb vb D ak c U Z (zS g (I.length+1) cap) (I++[q]) (X++[y]) jS R:=by
 have b:=h.st.Vv h.il;refine⟨d,h.st.akd a m f b.1 b.2,?_,?_,⟨(h.fq.fr.alloc o).grown a (λk i=>.inr (h.il.lt k i).1),h.fq.mv⟩⟩
 .intro j l;rcases a0e.1 l with e|e
  .exact h.lt j e
  simp at e;subst e;exact(a0d.1 hq).1
 rw[a0P,<-h.mp];simp only[a0E,a1V,Cz hq]
def GQ.or {base w wr c}(h:GQ base w wr fb vb D ak c U Z v5 I X jS R)(b:Ff U X) :
 zF 153 #[zP fb,v5] wr (RQ base w fb vb D ak c U Z (bQ X)) :=
 (afx base wr fb jS (D++R) ak c U Z v5 I X h.st.less (xV h.il) h.lt h.mp b).mono λe w' a=>RQ.later h.fq a
def Tv(A base w fb vb D ak c U Z v b l)(h:ST base w fb vb D ak c U Z)(i:XV A w v b)(s:mD A w b l)(L:zi U l)(J:Ff U (iP l))(hd:mZ l)(ho:jm l)(E:∀y∈l,NmC y) :
 zF 143 #[zP fb,v] w (RQ base w fb vb D ak c U Z (bQ (iP l))):=by
 obtain⟨a,_,rfl⟩:=aW i.1;have hlen:=s.len;have T:=aj i;have HR:=aj s;have HN:=aj L;have x:=aj J;have HD:=aj hd;have HO:=aj ho;have HI:=aj E;have V:=aj h;have uU:=i.2.2;have X:=aj hlen;clear i s L J hd ho E h hlen;delta zF;go_in;go_wp2;go_loopg [5,12] b.length (λk v5 n wr=>∃(j:Nat) (I:LN) (jS:Nat) (R:List NF),j+k=b.length/\n=zI j/\I.length<=j/\GQ base w wr fb vb D ak c U Z v5 I ((iP l).take j) jS R);case atStart=>exact⟨0,[],vb,[],by omega,rfl,by simp,GQ.start V⟩
 case round =>
  obtain⟨j,I,W,R,_,rfl,_,m⟩:=hrel;obtain⟨t,c5,rfl⟩:=aW m.il;have G:=aj m;have zr:=m.fq.fr.size;clear m;by_cases aL:j<b.length
  .have z:j<l.length:=by have:=X.o;omega
   obtain⟨g,rfl⟩:∃g,a=some (zA g):=by
    rcases T.o.1.2 with⟨e,h⟩|⟨g,c,_,e,_⟩
    .simp at e;omega
    simp at e;exact⟨g,e.1⟩
   have u:pO A w wr:=V.o.ake G.o.fq;obtain⟨p,H,F⟩:=(HR.o.aY u).get j z;have hc:=(T.o.aY u).cell H;have d:=a0u z;have C:=aj (HI.o _ d A base wr fb W (D++R) ak c U ((Value.ownBlock (.slice t I.length c5)).toList++Z) p G.o.st F (KQ.1 HN.o _ d) (ak5 HD.o d) (MX HO.o d));have HT:Z_ ((iP l).take (j+1)=(iP l).take j++[bn l[j]]):=by show _=_;rw[uB,a1c];simp[z]
   clear u F d H;generalize bn l[j]=y at *;go_wp2_with fail;refine(C.o).mono ?_;rintro e w2 ⟨Aw,S,q,rfl,Y,B,r⟩;have f:=aj (G.o.turn Y r);have z2:=r.fr.size;have tV:Z_ ((D++(R++S))[q]?=some y):=by show _=_;rw[<-a0M];exact B
   clear Y B r C hc G;go_wp2_with (first | (at_builtin;refine vG _ rfl _ _ rfl _ _ _ _ _ rfl (f.o.il.alloc _) rfl (j6 _ _ _ _ rfl) (by omega) (by simp;omega) ?_;intro _ _ _ O P N iE;have G5:=aj (f.o.add tV.o O P N iE);clear O P N));go_roundg (gk-1);case measure=>omega
   case rel=>exact⟨j+1,I++[q],Aw,R++S,by omega,by go_num,by simp[a0p,a0r,a1e];omega,by rw[HT.o];simpa using G5.o⟩
  have f:Z_ (GQ base w wr fb vb D ak c U Z (.slice t I.length c5) I (iP l) W R):=by
   have:=G.o;rw[a0C (by rw[uB,a0y];have:=X.o;omega)]at this;exact this
  have C:=aj (f.o.or x);go_wp2_with fail;refine(C.o).mono ?_;rintro e _ M;have R3:=aj M;obtain⟨_,_,_,rfl,_⟩:=M;go_wp2;go_ret;exact R3
theorem XB.get {w eb}(h:XB w eb s):w.cell? ⟨eb,0,none⟩=some (.int .i64 0)/\w.cell? ⟨eb,1,none⟩=some (.int .u64 (wd s 0))/\w.cell? ⟨eb,2,none⟩=some (.int .u64 (wd s 1))/\w.cell? ⟨eb,3,none⟩=some (.int .u64 (wd s 2))/\w.cell? ⟨eb,4,none⟩=some (.int .u64 (wd s 3)):=by
 unfold XB at h;simp only[World.cell?,h];exact⟨rfl,rfl,rfl,rfl,rfl⟩
def ahG(s):NmC (.one s):=by
 intro A base w fb vb D ak c U Z p h hx hn _ ho;simp[XR]at hx;obtain⟨_,_,_,_,_⟩:=hx.2.get;have SA:=aj (apX base w fb vb D ak c U Z s h ho hn);simp only[bv]at SA;have e:bn (.one s)=Ke s:=rfl;rw[e];clear hx h hn;delta zF;go_in;go_wp2_with fail;refine(SA.o).mono ?_;rintro e _ fV;have R3:=aj fV;obtain⟨_,_,_,rfl,_⟩:=fV;go_wp2;go_ret;exact R3
def ahH(l)(m:∀y∈l,NmC y):NmC (.alt l):=by
 intro A base w fb vb D ak c U Z p h g b hd ho;simp only[XR]at g;obtain⟨_,v,k,f,d,i⟩:=g;have:=f.c0;have:=f.c5;have q:=aj (Tv A base w fb vb D ak c U Z v k l h d i b.1 b.2 hd ho.1 m);have e:bn (.alt l)=bQ (iP l):=rfl;rw[e];obtain⟨a,_,rfl⟩:=aW d.1;clear f d i h b;delta zF;go_in;go_wp2_with fail;refine(q.o).mono ?_;rintro e r j;have n:=aj j;obtain⟨_,_,s,rfl,_⟩:=j;go_wp2;go_ret;exact n
def ahI(l)(m:∀y∈l,NmC y):NmC (.seq l):=by
 intro A base w fb vb D ak c U Z p h g b hd ho;simp only[XR]at g;obtain⟨_,v,k,f,d,i⟩:=g;have:=f.c0;have:=f.c5;have q:=aj (Oc A base w fb vb D ak c U Z v k l h d i b.1 b.2 hd ho m);have e:bn (.seq l)=sJ l:=rfl;rw[e];obtain⟨a,_,rfl⟩:=aW d.1;clear f d i h b;delta zF;go_in;go_wp2_with fail;refine(q.o).mono ?_;rintro e r j;have n:=aj j;obtain⟨_,_,s,rfl,_⟩:=j;go_wp2;go_ret;exact n
def ahJ(x lo a)(y:NmC x):NmC (.rep x lo a):=by
 intro A base w fb vb D ak c U Z p h l b hd ho;simp[XR]at l;obtain⟨_,q,d,s⟩:=l;have c0:=d.c0;have c6:=d.c6;have F:=aj h;have C:=aj (y A base w fb vb D ak c U Z q h s b.1 hd.1 ho.1);have e:bn (.rep x lo a)=kD (bn x) lo a:=rfl;rw[e];have G:=aj b.2;have k:=hd.2;have B:=ho.2;have H:=aj d;have v:∃i fz,w.heap[p]?=some (.cells i 239 fz):=⟨_,_,d⟩;clear d s h b hd ho e;delta zF;go_in;go_wp2_with fail;refine(C.o).mono ?_;rintro e f g;obtain⟨jS,R,r,rfl,t,m,hq⟩:=g;have u:pO (λ_=>True) w f:=F.o.ake hq;have j:XW f p q lo (Yt a):=by
  obtain⟨i,fz,z⟩:=v;have:=u p trivial ⟨i,fz,.inl z⟩;exact this.trans H
 have:=j.c7;have:=j.c8;have E:Z_ (zF 144 #[zP fb,zI r,zI lo,zI (Yt a)] f.drew (RQ base w fb vb D ak c U Z (kD (bn x) lo a))) :=
  (Ob base f.drew fb jS (D++R) ak c U Z (bn x) r lo a (t.aY ((aB.refl _ _).drew)) m G.o k.1 (λn b=>⟨B n b,k.2 n b⟩)).mono λe w' h=>RQ.later (FQ.keepR hq ((aB.refl _ _).drew)) h
 clear u j t m hq C v;generalize Yt a=hz at *;go_wp2_with fail;go_region_with (go_at_call 144;refine(E.o).mono ?_;rintro e I g;have R4:=aj g;obtain⟨_,_,J,rfl,_⟩:=g);all_goals
  go_wp2;go_ret;exact R4
mutual
theorem Le:∀(x:RX),NmC x
 | .one s=>ahG s
 | .seq l=>ahI l (ID l)
 | .alt l=>ahH l (ID l)
 | .rep x lo a=>ahJ x lo a (Le x)
theorem ID:∀(l:List RX),∀y∈l,NmC y
 | [],y,a=>by simp at a
 | x::r,y,a=>by
   rcases a0l.1 a with h|h
   .rw[h];exact Le x
   exact ID r y h
end
def LfC(d:NF):Prop:=∀(base:Nat) (w:World) (fb vb:Nat) (D:List NF) (ak c:Nat) (U:List NF) (Z:LN) (i:Nat),ST base w fb vb D ak c U Z->D[i]?=some d->Fg c U d->c<256->1<=ak ->
 zF 146 #[zP fb,zI i,.int .u8 c] w (RQ base w fb vb D ak c U Z (left c d))
def YC(a b)(O:LfC a)(N:LfC b)(base w fb vb D ak c U Z)(fi se:Nat)(kd t s1 s2 s lk C lf te av nv z)
 (h:ST base w fb vb D ak c U Z) (h1:D[fi]?=some a) (h2:D[se]?=some b) (hn:Fg c U (.pair a b)) (hc:c<256) (ha:1<=ak) :
 zF 167 #[zP fb,.agg #[zI kd,.int .u64 t,.int .u64 s1,.int .u64 s2,.int .u64 s,zI fi,zI se,.slice av nv z,.bool te,zI lk,zI C,zI lf],.int .u8 c] w (RQ base w fb vb D ak c U Z (left c (.pair a b))):=by
 have H1:=aj h1;have H2:=aj h2;have W:=aj hn;have:=h.pP.2.2.2.2.2;have F0:aB [] w (w.alloc (.cells #[zI kd,.int .u64 t,.int .u64 s1,.int .u64 s2,.int .u64 s,zI fi,zI se,.slice av nv z,.bool te,zI lk,zI C,zI lf] 247)):=(aB.refl _ _).alloc _;have J:=bD w (.cells #[zI kd,.int .u64 t,.int .u64 s1,.int .u64 s2,.int .u64 s,zI fi,zI se,.slice av nv z,.bool te,zI lk,zI C,zI lf] 247);have z0:(w.alloc (Obj.cells #[zI kd,.int .u64 t,.int .u64 s1,.int .u64 s2,.int .u64 s,zI fi,zI se,.slice av nv z,.bool te,zI lk,zI C,zI lf] 247)).heap.size=w.heap.size+1:=by simp
 delta zF;go_in;go_wp2_with fail;generalize w.alloc (Obj.cells #[zI kd,.int .u64 t,.int .u64 s1,.int .u64 s2,.int .u64 s,zI fi,zI se,.slice av nv z,.bool te,zI lk,zI C,zI lf] 247)=w0 at F0 J z0 |-;have A1:=aj (O base w0 fb vb D ak c U Z fi ((aj h).o.aY F0) H1.o W.o.1 hc ha);refine(A1.o).mono ?_;rintro e w1 j;obtain⟨Dp,g,r1,rfl,m,lz,F⟩:=j;have B:=FQ.aba (aj F0).o F;have G:w1.heap[w.heap.size]?=w0.heap[w.heap.size]?:=F.block (by omega) (by omega) (by omega);rw[(aj J).o]at G;have p5:zC w1 w.heap.size 5 (zI fi):=by simp[World.cell?,G]
 have p6:zC w1 w.heap.size 6 (zI se):=by simp[World.cell?,G]
 have T:=aj (amj (left _ a) base w1 fb Dp (D++g) ak c U Z b r1 se m lz (rU H2) W.o.2.1);have:=aj m;have:=F.fr.size;have:=F.mv;go_wp2_with fail;refine(T.o).mono ?_;rintro e w2 j;obtain⟨Aw,k,d,rfl,Y,u,H⟩:=j;have I:w2.heap[w.heap.size]?=w1.heap[w.heap.size]?:=H.block (by omega) (by omega) (by omega);rw[(aj G).o]at I;have:zC w2 w.heap.size 5 (zI fi):=by simp[World.cell?,I]
 have:zC w2 w.heap.size 6 (zI se):=by simp[World.cell?,I]
 have y:(D++g++k)[fi]?=some a:=rU (rU H1);obtain⟨f,L,cap,K⟩:=Y.look y;have t0:=K.tab;have M:=K.get.2.2.2.2.2.2.2.2.1;have aL:=K.lt;rw[K.te]at M;have S2:=aj Y;have Q2:=aj (FQ.trans (aj B).o H);have tV:=aj u;have zq2:=H.fr.size;have ng:(fi:Int)<(D++g++k).length:=by omega
 clear K Y u H I T p5 p6 y;obtain⟨nD,x⟩:∃n,n=(D++g++k).length:=⟨_,rfl⟩;rw[<-x]at t0 aL ng;clear x;cases p:dK a with
 | false =>
   rw[p]at M;have X:Z_ (left c (.pair a b)=aG (left c a) b):=by show _=_;simp only[left,p];simp
   have E:Z_ (∀nq,RQ base w fb vb D ak c U Z (aG (left _ a) b) (zR (zI (d:Nat))) (w2.drewN nq)):=λnq=>⟨Aw,g++k,d,rfl,by rw[<-a0M];exact S2.o.aY ((aB.refl _ _).drewN _),by rw[<-a0M];exact tV,FQ.keepR Q2.o ((aB.refl _ _).drewN _)⟩;go_wp2_with fail;go_quiet (fail);go_wp2;go_ret;rw[X.o];exact E.o _
 | true =>
   rw[p]at M;have X:Z_ (left c (.pair a b)=bQ [aG (left c a) b,left c b]):=by show _=_;simp only[left,p];simp;rfl
   have V:=W.o.2.2 p;have B1:=aj (λnq=>N base (w2.drewN nq) fb Aw (D++g++k) ak c U Z se (S2.o.aY ((aB.refl _ _).drewN _)) (rU (rU H2)) V.1 hc ha);have OK:=aj V.2;clear V p;go_wp2_with fail;go_quiet (fail);go_wp2_with fail;refine(B1.o _).mono ?_;rintro e i j;obtain⟨r,E,l,rfl,A,Ak,v⟩:=j;have OC:Z_ (∀o,o=Obj.cells #[zI d,zI l] 3->zF 153 #[zP fb,zS i.heap.size 2 2] (i.alloc o) (RQ base w fb vb D ak c U Z (bQ [aG (left c a) b,left c b]))):=by
    rintro o rfl;have F3:=(aB.refl [] i).alloc (Obj.cells #[zI d,zI l] 3);have S:=A.aY F3;have jc:IL i.heap.size (i.alloc (Obj.cells #[zI d,zI l] 3)) (zS i.heap.size 2 2) [d,l]:=World.ownsRow_lit _ #[zI d,zI l] 2 (a0b _) (by unfold maxLen;omega) (by simp);have u:(D++g++k++E)[d]?=some (aG (left _ a) b):=rU tV;have Q4:FQ fb vb r w (i.alloc (Obj.cells #[zI d,zI l] 3)):=FQ.keepR (FQ.trans (FQ.keepR Q2.o ((aB.refl _ _).drewN _)) v) F3;refine(afx base _ fb r (D++g++k++E) ak c U Z (zS i.heap.size 2 2) [d,l] [aG (left c a) b,left c b] S (xV jc) ?_ ?_ OK).mono λe w' h=>RQ.later (R:=g++k++E) Q4 (by simpa[a0M] using h)
    .intro q hq;simp only[a0l,a1U,a2V]at hq;rcases hq with rfl|rfl
     .exact(a0d.1 u).1
     exact(a0d.1 Ak).1
    simp only[a0E,a1V,Cz u,Cz Ak]
   clear A Ak v B1;go_wp2_with fail;refine(OC.o _ rfl).mono ?_;rintro e w4 j;have R4:=aj j;obtain⟨_,_,r4,rfl,_⟩:=j;go_wp2;go_ret;rw[X.o];exact R4
theorem adJ(a:∀x∈ys,wf x)(h:xs.Perm ys):bQ xs=bQ ys :=
 vT (λx b=>a x (h.mem_iff.1 b)) a λp=>(h.flatMap_right parts).mem_iff
def Ff.perm(c:∀x∈ys,wf x)(h:xs.Perm ys)(k:Ff U ys):Ff U xs:=by
 have b:=h.flatMap_right parts;have d:bf (xs.flatMap parts)=bf (ys.flatMap parts):=GY λi=>by rw[a0T,a1s,a1s];exact⟨λ⟨x,a,e⟩=>⟨x,b.mem_iff.1 a,e⟩,λ⟨x,a,e⟩=>⟨x,b.mem_iff.2 a,e⟩⟩
 have j:gU (bN (xs.flatMap parts))=gU (bN (ys.flatMap parts)) :=
  GZ (xC λx a=>c x (h.mem_iff.1 a)) (xC c) (λp _=>b.mem_iff) d
 refine⟨λg=>?_,λf=>?_,?_,?_⟩
 .rw[d]at g |-;exact k.1 g
 .rw[adJ c h];rw[j]at f;exact k.2.1 f
 .rw[b.length_eq];exact k.2.2.1
 rw[h.length_eq];exact k.2.2.2
theorem GQ.first {base w a wr c}(f:aB [] w a)(h:RQ base a fb vb D ak c U Z (bQ X) e wr):RQ base w fb vb D ak c U Z (bQ X) e wr:=RQ.first f h
def ST.wu {base w c}(h:ST base w fb vb D ak c U Z):qV w [fb,vb]:=h.pP.2.2.2.2.2.2.2.2.2
theorem abg(l)(ih:∀y∈l,LfC y)(base w fb vb D ak c U Z L kd f s1 s2 d lk m lf fi se te av b)
 (h:ST base w fb vb D ak c U Z) (Y:PL w (.slice av L.length b) L) (hl:∀j∈L,j<D.length) (i:(L.map λj=>D.getD j .zero).Perm l) (J:Fg c U (.sum l)) (hc:c<256) (ha:1<=ak) (X:∀x∈l,wf x) :
 Calls Tryz.prog 168 #[.pointer (some ⟨fb,0,none⟩),.agg #[.int .i64 kd,.int .u64 f,.int .u64 s1,.int .u64 s2,.int .u64 d,.int .i64 fi,.int .i64 se,.slice av L.length b,.bool te,.int .i64 lk,.int .i64 m,.int .i64 lf],.int .u8 c] w (RQ base w fb vb D ak c U Z (left c (.sum l))):=by
 have hLl:L.length<=9000000000000:=by have h1:=J.2.2.2.2;rw[fP,a0y]at h1;have h2:=i.length_eq;rw[a0y]at h2;omega
 have pm:(L.map λq=>left c (D.getD q .zero)).Perm (xy c l):=by rw[fP];have:=i.map (left c);rw[a2m]at this;exact this
 have wl:∀x∈xy c l,wf x:=by intro x W;rw[fP]at W;obtain⟨y,hy,rfl⟩:=a0q.1 W;exact gI c y (X y hy)
 have S:left c (.sum l)=bQ (L.map λq=>left c (D.getD q .zero)):=by rw[adJ wl pm];rfl
 have P:Ff U (L.map λq=>left c (D.getD q .zero)):=Ff.perm wl pm J.2;have u:aB [] w (w.alloc (.cells #[.int .i64 kd,.int .u64 f,.int .u64 s1,.int .u64 s2,.int .u64 d,.int .i64 fi,.int .i64 se,.slice av L.length b,.bool te,.int .i64 lk,.int .i64 m,.int .i64 lf] 247)):=zJ;have T:∀o,((w.alloc (.cells #[.int .i64 kd,.int .u64 f,.int .u64 s1,.int .u64 s2,.int .u64 d,.int .i64 fi,.int .i64 se,.slice av L.length b,.bool te,.int .i64 lk,.int .i64 m,.int .i64 lf] 247)).alloc o).cell? ⟨w.heap.size,7,none⟩=some (.slice av L.length b):=by
  intro o;rw[((aB.refl [] _).alloc o).cell (p:=⟨w.heap.size,7,none⟩) (by simp) (by simp)];have:=bD w (.cells #[.int .i64 kd,.int .u64 f,.int .u64 s1,.int .u64 s2,.int .u64 d,.int .i64 fi,.int .i64 se,.slice av L.length b,.bool te,.int .i64 lk,.int .i64 m,.int .i64 lf] 247);simp only[World.cell?,this];rfl
 have O:(w.alloc (.cells #[.int .i64 kd,.int .u64 f,.int .u64 s1,.int .u64 s2,.int .u64 d,.int .i64 fi,.int .i64 se,.slice av L.length b,.bool te,.int .i64 lk,.int .i64 m,.int .i64 lf] 247)).heap.size=w.heap.size+1:=by simp
 clear pm wl X;rw[S];go_in;go_wp2_with fail;generalize w.alloc (.cells #[.int .i64 kd,.int .u64 f,.int .u64 s1,.int .u64 s2,.int .u64 d,.int .i64 fi,.int .i64 se,.slice av L.length b,.bool te,.int .i64 lk,.int .i64 m,.int .i64 lf] 247)=B at u T O |-;have hz:=O;clear O;have z0:=u.size;have gT:=hz;rw[<-gT];clear gT hz;clear T;go_loopg [7,15] L.length (λk v7 E wr=>∃(j:Nat) (I:LN) (jS:Nat) (R:List NF),j+k=L.length/\E=.int .i64 j/\I.length<=j/\GQ base B wr fb vb D ak c U Z v7 I ((L.take j).map λq=>left c (D.getD q .zero)) jS R/\PL wr (.slice av L.length b) L);exact⟨0,[],vb,[],by omega,rfl,by simp,GQ.start (h.aY u),(Y.aC u (qV.nil _)).aC zJ (qV.nil _)⟩
 .obtain⟨j,I,Dp,R,_,rfl,_,G,A⟩:=hrel;obtain⟨N,c5,rfl⟩:=aW G.il;have zr:=G.fq.fr.size;by_cases z:j<L.length
  .obtain⟨_,_,e3,h3⟩:=A.1;simp only[Value.slice.injEq,a1W]at e3;obtain⟨rfl,rfl⟩:=e3;obtain⟨g,_,rfl,_,JK⟩:=h3 j z;have ap1:g<w.heap.size:=Y.blk rfl;have s:=hl L[j] (a0u z);have t:(D++R)[L[j]]?=some (D.getD L[j] .zero):=rU (getD_some s);have H:D.getD L[j] .zero∈l:=i.mem_iff.1 (a0q.2 ⟨L[j],a0u z,rfl⟩);have C:=ih _ H base wr fb Dp (D++R) ak c U ((Value.ownBlock (.slice N I.length c5)).toList++Z) L[j] G.st t (PD.1 J.1 _ H) hc ha;have HT:((L.take (j+1)).map λq=>left c (D.getD q .zero))=((L.take j).map λq=>left c (D.getD q .zero))++[left c (D.getD L[j] .zero)]:=by have:=Ld L (λq=>left c (D.getD q .zero)) j z [];exact this
   clear h3 s t H;generalize left c (D.getD L[j] .zero)=y at *;generalize L[j]=q at *;go_wp2_with fail;refine C.mono ?_;rintro e w2 ⟨Aw,R2,F,rfl,CE,V,v⟩;have r:=G.turn CE v;have P4:=A.aC v.fr G.st.wu;have z2:=v.fr.size;have tV:(D++(R++R2))[F]?=some y:=by rw[<-a0M];exact V
   clear CE V v C JK G A;go_wp2_with (first | (at_builtin;refine vG _ rfl _ _ rfl B.heap.size (.slice N I.length c5) I F w2.heap.size rfl (r.il.alloc _) rfl (j6 _ _ _ _ rfl) (by omega) (by simp;omega) ?_;intro _ _ _ aS M bq iE;have G5:=r.add tV aS M bq iE;have P5:=((P4.aC ((aB.refl [] w2).alloc _) (qV.nil _)).apY (aB.fo M) (λa n cc e i=>by simp at e;obtain⟨rfl,_⟩:=e;rw[a0H]at i;have:=(r.il.lt _ i).1;simp at this;omega));clear aS M bq));go_roundg (gk-1);exact⟨j+1,I++[F],Aw,R++R2,by omega,by go_num,by simp only[a0p,a0r,a1e];omega,by rw[HT];simpa using G5,P5⟩;omega
  have r:GQ base B wr fb vb D ak c U Z (.slice N I.length c5) I (L.map λq=>left c (D.getD q .zero)) Dp R:=by have:=G;rw[a0C (by omega)]at this;exact this
  have C:=r.or P;clear G r A;go_wp2_with fail;refine C.mono ?_;rintro e _ fV;have R3:=RQ.first u fV;obtain⟨_,_,_,rfl,_⟩:=fV;go_wp2;go_ret;exact R3
def acw(d)(ih:∀y:NF,y.size<d.size->LfC y)(base w fb vb D ak c U Z)(i:Nat)(h:ST base w fb vb D ak c U Z)(hi:D[i]?=some d)(hn:Fg c U d)(hc:c<256)(ha:1<=ak) :
 zF 156 #[zP fb,zI i,.int .u8 c] w (RQ base w fb vb D ak c U Z (left c d)):=by
 obtain⟨f,L,_,K⟩:=h.look hi;have:=K.lt;have:=K.tab;obtain⟨c0,c1,c2,c3,c4,_,_,c7,_,_,_,_⟩:=K.get;obtain⟨av,abd,hvp,_⟩:=K.pl.1;rw[hvp]at c7;rw[K.kd]at c0;have KPL:=aj K.pl;rw[hvp]at KPL;have KS:=aj K.set;have KP:=aj K.pair;have KT:=aj K.star;have KU:=aj K.sum;have HS:=aj h;have HI:=aj hi;have HN:=aj hn;have HD0:=aj h.pP.1;have HD1:=aj h.pP.2.1;have HW:=aj h.pP.2.2.2.1;have HND:=aj h.pP.2.2.1;have:(i:Int)<D.length:=by omega
 clear K h hi hn hvp;have F0:Z_ (∀o,aB [] w (w.alloc o)):=λo=>(aB.refl _ _).alloc o;cases d with
 | zero =>
   simp[qW]at c0;delta zF;go_in;go_wp2;go_ret;exact RQ.here (r:=0) HS.o (F0.o _) HD0
 | one =>
   simp[qW]at c0;delta zF;go_in;go_wp2;go_ret;exact RQ.here (r:=0) HS.o (F0.o _) HD0
 | set s =>
   have hfs:=KS.o s rfl;rw[hfs]at c1 c2 c3 c4;simp[qW]at c0;have XH:=aj (am8 s c);simp only[bv]at XH;clear hfs;cases hb:s.testBit c with
   | true =>
     rw[hb]at XH;have HL:Z_ (left c (.set s)=.one):=by show _=_;simp[left,hb]
     clear hb;delta zF;go_in;go_wp2_with fail;refine(XH.o _ hc).mono ?_;rintro e w2 ⟨rfl,aR⟩;have F2:=aj ((F0.o _).trans aR);clear aR;go_wp2;go_ret;rw[HL.o];exact RQ.here (r:=1) HS.o F2.o HD1
   | false =>
     rw[hb]at XH;have HL:Z_ (left c (.set s)=.zero):=by show _=_;simp[left,hb]
     clear hb;delta zF;go_in;go_wp2_with fail;refine(XH.o _ hc).mono ?_;rintro e _ ⟨rfl,aR⟩;have F2:=aj ((F0.o _).trans aR);clear aR;go_wp2;go_ret;rw[HL.o];exact RQ.here (r:=0) HS.o F2.o HD0
 | pair a b =>
   simp[qW]at c0;have hp:=KP.o a b rfl;have C:=aj (λ(w':World) (F:aB [] w w')=>YC a b (ih a (by simp[NF.size];omega)) (ih b (by simp[NF.size];omega)) base w' fb vb D ak c U Z f.fi f.se 3 (wd f.s 0) (wd f.s 1) (wd f.s 2) (wd f.s 3) f.lk f.ak f.lf f.te av L.length abd (HS.o.aY F) hp.1 hp.2 HN.o hc ha);clear hp;delta zF;go_in;go_wp2_with fail;refine(C.o _ (F0.o _)).mono ?_;rintro e w3 fV;have R3:=aj (RQ.first (F0.o _) fV);obtain⟨_,_,r3,rfl,_⟩:=fV;go_wp2;go_ret;exact R3
 | sum l =>
   simp[qW]at c0;have hu:=KU.o l rfl;have ht:=Fe HW.o hu.1;have JW:=HW.o _ (a0B HI);have Ig:(L.map λj=>D.getD j .zero).Perm l:=by
    refine(List.perm_ext_iff_of_nodup (Pz HND.o hu.2.2 hu.1) ?_).2 λp=>?_
    ·rw[hu.2.1];exact Cb (xA _)
    rw[hu.2.1];exact(iA ht).symm
   have C:=aj (λ(w':World) (F:aB [] w w')=>abg l (λy hy=>ih y (by have:=dx hy;simp[NF.size];omega)) base w' fb vb D ak c U Z L 4 (wd f.s 0) (wd f.s 1) (wd f.s 2) (wd f.s 3) f.lk f.ak f.lf f.fi f.se f.te av abd (HS.o.aY F) (KPL.o.aC F (qV.nil _)) hu.1 Ig HN.o hc ha (kJ.1 JW.1.1));clear hu ht JW Ig;delta zF;go_in;go_wp2_with fail;refine(C.o _ (F0.o _)).mono ?_;rintro e w3 fV;have R3:=aj (RQ.first (F0.o _) fV);obtain⟨_,_,r3,rfl,_⟩:=fV;go_wp2;go_ret;exact R3
 | star a =>
   simp only[qW]at c0;have hs:=KT.o a rfl;have C:=aj (λ(w':World) (F:aB [] w w')=>ih a (by simp[NF.size]) base w' fb vb D ak c U Z f.fi (HS.o.aY F) hs HN.o.1 hc ha);clear hs;delta zF;go_in;go_wp2_with fail;refine(C.o _ (F0.o _)).mono ?_;rintro e w3 fV;obtain⟨r3,rfl,hz⟩:=(RQ.first (F0.o _) fV).rz;have T:Z_ (zF 155 #[zP fb,zI r3,zI i] w3 (RQ base w fb vb D ak c U Z (left c (.star a)))):=hz.call λjS D' dY hr hD=>amj (left c a) base w3 fb jS D' ak c U Z (.star a) r3 i dY hr (hD _ _ HI) HN.o.2;clear fV hz C;go_wp2_with fail;refine(T.o).mono ?_;rintro e _ fV;have R4:=aj fV;obtain⟨_,_,_,rfl,_⟩:=fV;go_wp2;go_ret;exact R4
end
end Go.Proofs.YtnkobfoopcolaaaGreat
