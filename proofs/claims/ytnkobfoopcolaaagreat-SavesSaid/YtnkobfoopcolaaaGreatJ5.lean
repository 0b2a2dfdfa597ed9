import Derived.Test.YtnkobfoopcolaaaGreatJ4
import Derived.Test.YtnkobfoopcolaaaGreatJ1
import Derived.Laws.CopyOwn
import Derived.Test.YtnkobfoopcolaaaGreatJ2
import Derived.Deep.DeepCutAuto
import Derived.Deep.CutBlock
import Derived.Laws.MakeOwn
import Derived.Test.YtnkobfoopcolaaaGreatJ3
set_option linter.unusedVariables false
set_option linter.unusedSimpArgs false
set_option linter.unnecessarySimpa false
set_option linter.defProp false
set_option maxRecDepth 100000
set_option maxHeartbeats 8000000
namespace Go.Proofs.YtnkobfoopcolaaaGreat
open Go.RowKit
section
variable {g j n:Nat} {B L M:List Bool} {w:World}
def Rt:TR->LN->Prop
 | .nil,w=>w=[]
 | .one s,w=>∃c,w=[c]/\s.testBit c=true
 | .both a b,w=>EJ (Rt a) (Rt b) w
 | .either a b,w=>Rt a w\/Rt b w
 | .often a lo hi,w=>∃k,lo<=k/\(∀n,hi=some n->k<=n)/\sG (Rt a) k w
mutual
theorem abB:∀(e:RX),tL e->∀w,Rt (gW e) w↔Rg e w
 | .one s,_,w=>by simp only[gW,Rt,Rg]
 | .seq l,h,w=>by
   simp only[gW,Rg];rw[atU l .nil h w];constructor
   .rintro⟨u,v,rfl,c,b⟩;rw[show u=[] from c];exact b
   intro a;exact⟨[],w,rfl,rfl,a⟩
 | .alt l,h,w=>by simp only[gW,Rg];exact au5 l h.1 h.2 w
 | .rep x lo d,h,w=>by simp only[gW,Rg,Rt];simp only[QM (abB x h.1)]
theorem atU:∀(l:List RX) (r:TR),jm l->∀w,Rt (Ag r l) w↔EJ (Rt r) (RgS l) w
 | [],r,_,w=>by
   simp only[Ag];constructor
   .intro h;exact⟨w,[],by simp,h,by simp only[RgS]⟩
   rintro⟨u,v,rfl,b,a⟩;simp only[RgS]at a;subst a;simpa using b
 | x::l,r,h,w=>by
   simp only[Ag];rw[atU l (.both r (gW x)) h.2 w];have e:∀u,Rt (.both r (gW x)) u↔EJ (Rt r) (Rg x) u:=λu=>by simp only[Rt];exact rf (λ_=>Iff.rfl) (abB x h.1)
   rw[rf e (λ_=>Iff.rfl),QK];refine rf (λ_=>Iff.rfl) (λu=>?_);simp only[RgS,EJ]
theorem au5:∀(l:List RX),jm l->l≠[]->∀w,Rt (yu l) w↔RgA l w
 | [],_,h,w=>absurd rfl h
 | x::l,h,_,w=>by simp only[yu];rw[atV l (gW x) h.2 w,abB x h.1 w];simp only[RgA]
theorem atV:∀(l:List RX) (r:TR),jm l->∀w,Rt (Ah r l) w↔(Rt r w\/RgA l w)
 | [],r,_,w=>by simp only[Ah,RgA,a2V]
 | x::l,r,h,w=>by simp only[Ah];rw[atV l (.either r (gW x)) h.2 w];simp only[Rt,RgA,abB x h.1 w,or_assoc]
end
def sQ(s:LB)(i j:Nat):LN:=((s.take j).drop i).map (·.toNat)
def akq(s i):sQ s i i=[]:=by simp[sQ]
theorem anI {s i}(b:i<=j)(a:j<=s.length)(h:sQ s i j=[]):i=j:=by unfold sQ at h;have:=congrArg List.length h;simp at this;omega
theorem VH {s i k}(c:i<=j)(a:j<=k)(b:k<=s.length):sQ s i k=sQ s i j++sQ s j k:=by
 unfold sQ;rw[<-a0P];congr 1;have e:s.take k=s.take j++(s.take k).drop j:=by grind [Nat.min_eq_left,List.take_append_drop]
 conv=>lhs;rw[e]
 rw[a1N (by simp;omega)]
def Xn {s i k u v}(e:i<=k)(d:k<=s.length)(h:sQ s i k=u++v):∃j,i<=j/\j<=k/\sQ s i j=u/\sQ s j k=v:=by
 have c:(sQ s i k).length=k-i:=by unfold sQ;simp;omega
 rw[h,a0p]at c;refine⟨i+u.length,by omega,by omega,?_⟩;have a:=VH (s:=s) (i:=i) (j:=i+u.length) (k:=k) (by omega) (by omega) d;rw[h]at a;have b:(sQ s i (i+u.length)).length=u.length:=by unfold sQ;simp;omega
 have:=List.append_inj a b.symm;exact⟨this.1.symm,this.2.symm⟩
theorem aec {s i c}(h:s[i]?=some c):sQ s i (i+1)=[c.toNat]:=by grind [sQ,List.getElem?_eq_some_iff,List.take_add_one,List.drop_eq_nil_of_le]
def uM(P:LN->Prop)(s:LB)(A B:List Bool):Prop:=∀j,B[j]?=some true↔∃i,A[i]?=some true/\i<=j/\j<=s.length/\P (sQ s i j)
theorem uM.congr {P Q s A}(h:uM P s A B)(e:∀w,P w↔Q w):uM Q s A B:=λj=>by rw[h j];simp only[e]
theorem ah5(s A)(hA:A.length=s.length+1):uM (λw=>w=[]) s A A:=λj=>by
 constructor
 ·intro h;have:=(a0d.1 h).1;exact⟨j,h,a0b _,by omega,akq s j⟩
 rintro⟨i,h1,h2,h3,h4⟩;rw[<-anI h2 h3 h4];omega
theorem uM.comp {P Q s A}(h:uM P s A M)(k:uM Q s M B):uM (EJ P Q) s A B:=λj=>by
 rw[k j];constructor
 .rintro⟨i,c,b,a,q⟩;obtain⟨n,g,f,l,d⟩:=(h i).1 c;exact⟨n,g,by omega,a,_,_,VH f b a,d,q⟩
 rintro⟨i,c,b,a,u,v,e,p,o⟩;obtain⟨m,g,f,l,d⟩:=Xn b a e;exact⟨m,(h m).2 ⟨i,c,g,by omega,by rw[l];omega⟩,f,a,by rw[d];omega⟩
def sH(a b:List Bool):List Bool:=List.zipWith (·||·) a b
theorem abC {a b}(h:a.length=b.length):(sH a b).length=a.length:=by simp[sH,h]
theorem aqF {a b}(h:a.length=b.length)(j:Nat):(sH a b)[j]?=some true↔a[j]?=some true\/b[j]?=some true:=by grind [sH]
def uM.or {P Q s A C}(h:uM P s A B)(k:uM Q s A C)(e:B.length=C.length):uM (λw=>P w\/Q w) s A (sH B C):=λj=>by
 rw[aqF e,h j,k j];constructor
 .rintro(⟨i,d,c,b,a⟩|⟨i,d,c,b,a⟩)
  .exact⟨i,d,c,b,.inl a⟩
  exact⟨i,d,c,b,.inr a⟩
 rintro⟨i,d,c,b,a|a⟩
 .exact .inl ⟨i,d,c,b,a⟩
 exact .inr ⟨i,d,c,b,a⟩
def aed {P k w}:sG P (k+1) w↔EJ (sG P k) P w:=by
 constructor
 .intro h;obtain⟨u,v,rfl,b,a⟩:=I1 h;exact⟨u,v,rfl,b,T9.1 a⟩
 rintro⟨u,v,rfl,b,a⟩;exact Gs b (T9.2 a)
def uM.step {P s A k}(h:uM (sG P k) s A M)(g:uM P s M B):uM (sG P (k+1)) s A B:=(h.comp g).congr λ_=>aed.symm
def Btw(P:LN->Prop)(lo a:Nat)(w:LN):Prop:=∃i,lo<=i/\i<=a/\sG P i w
def aqG {P lo w}:sG P lo w↔Btw P lo lo w:=by
 constructor
 .intro h;exact⟨lo,a0b _,a0b _,h⟩
 rintro⟨i,b,a,h⟩;rw[show i=lo by omega]at h;omega
theorem aee {P lo k}(c:lo<=k) {w}:(Btw P lo k w\/sG P (k+1) w)↔Btw P lo (k+1) w:=by
 constructor
 .rintro(⟨i,a,b,h⟩|h)
  .exact⟨i,a,by omega,h⟩
  exact⟨k+1,by omega,a0b _,h⟩
 rintro⟨i,a,b,h⟩;by_cases e:i=k+1
 .subst e;exact .inr h
 exact .inl ⟨i,a,by omega,h⟩
theorem uM.done {P s A lo k}(N:lo<=k)(h:uM (Btw P lo k) s A B)(g:uM (sG P (k+1)) s A M)(p:∀j:Nat,M[j]?=some true->B[j]?=some true)(r)(hh:∀n,r=some n->k<=n) :
 uM (λw=>∃i,lo<=i/\(∀n,r=some n->i<=n)/\sG P i w) s A B:=by
 have key:∀(m:Nat) (i j:Nat),A[i]?=some true->i<=j->j<=s.length->lo<=m->sG P m (sQ s i j)->B[j]?=some true:=by
  intro m;induction m with
  | zero=>intro i j f d b l c;exact(h j).2 ⟨i,f,d,b,0,l,by omega,c⟩
  | succ m y =>
    intro i j f d b l c;by_cases D:m+1<=k
    .exact(h j).2 ⟨i,f,d,b,m+1,l,D,c⟩
    by_cases J:m=k
    .subst J;exact p j ((g j).2 ⟨i,f,d,b,c⟩)
    obtain⟨u,v,e,z,L⟩:=aed.1 c;obtain⟨q,I,R,H,O⟩:=Xn d b e;have hq:=y i q f I (by omega) (by omega) (by rw[H];omega);obtain⟨o,x,W,V,a,U,T,S⟩:=(h q).1 hq;have t:sG P (a+1) (sQ s o j):=by grind [VH,Gs,T9]
    by_cases E:a+1<=k
    .exact(h j).2 ⟨o,x,by omega,b,a+1,by omega,E,t⟩
    have:a=k:=by omega
    subst this;exact p j ((g j).2 ⟨o,x,by omega,b,t⟩)
 intro j;constructor
 .intro F;obtain⟨i,f,d,b,a,l,c,G⟩:=(h j).1 F;exact⟨i,f,d,b,a,l,λn C=>a0h c (hh n C),G⟩
 grind
def uM.full {P s A lo}(h:uM (Btw P lo n) s A B):uM (λw=>∃i,lo<=i/\(∀m,some n=some m->i<=m)/\sG P i w) s A B:=by
 refine h.congr λw=>?_;constructor
 .rintro⟨i,b,c,a⟩;exact⟨i,b,λm d=>by simp at d;omega,a⟩
 rintro⟨i,b,c,a⟩;exact⟨i,b,c n rfl,a⟩
def aqH {s A} {b:Nat}(m:∀j:Nat,B[j]?=some true↔∃(i:Nat) (c:UInt8),j=i+1/\A[i]?=some true/\s[i]?=some c/\b.testBit c.toNat=true):uM (λw=>∃c,w=[c]/\b.testBit c=true) s A B:=λj=>by
 rw[m j];constructor
 .rintro⟨i,c,rfl,d,a,h⟩;have:=(a0d.1 a).1;exact⟨i,d,by omega,by omega,c.toNat,aec a,h⟩
 rintro⟨i,d,a,h,c,e,l⟩;have f:(sQ s i j).length=j-i:=by unfold sQ;simp;omega
 rw[e]at f;simp at f;have k:j=i+1:=by omega
 subst k;have g:i<s.length:=by omega
 refine⟨i,s[i],rfl,d,a0a g,?_⟩;have:=aec (a0a g);rw[e]at this;simp at this;rw[<-this];omega
def Ua:TR->Prop
 | .nil=>True
 | .one _=>True
 | .both a b=>Ua a/\Ua b
 | .either a b=>Ua a/\Ua b
 | .often a lo c=>Ua a/\(∀n,c=some n->lo<=n)
mutual
theorem Nh:∀(e:RX),tL e->Ua (gW e)
 | .one s,_=>trivial
 | .seq l,h=>by simp only[gW];exact aqI l .nil trivial h
 | .alt l,h=>by simp only[gW];exact asF l h.1
 | .rep x lo a,h=>by simp only[gW,Ua];exact⟨Nh x h.1,h.2⟩
theorem aqI:∀(l:List RX) (r:TR),Ua r->jm l->Ua (Ag r l)
 | [],r,a,_=>by simp only[Ag];exact a
 | x::l,r,a,h=>by simp only[Ag];exact aqI l _ ⟨a,Nh x h.1⟩ h.2
theorem asF:∀(l:List RX),jm l->Ua (yu l)
 | [],_=>by simp only[yu];exact trivial
 | x::l,h=>by simp only[yu];exact aqJ l _ (Nh x h.1) h.2
theorem aqJ:∀(l:List RX) (r:TR),Ua r->jm l->Ua (Ah r l)
 | [],r,a,_=>by simp only[Ah];exact a
 | x::l,r,a,h=>by simp only[Ah];exact aqJ l _ ⟨a,Nh x h.1⟩ h.2
end
theorem aef {a}(h:a.length=n):sH (List.replicate n false) a=a:=by
 subst h;unfold sH;induction a with
 | nil=>rfl
 | cons x r b=>simp only[a0r,List.replicate_succ,a2W,a3l];rw[b]
def AX(a:List Bool):Nat:=a.countP (! ·)
def aqK(a):AX a<=a.length:=List.countP_le_length
def ah6:∀{a b},a.length=b.length->AX (sH a b)<=AX a
 | [],[],_=>a0b _
 | x::a,y::b,h=>by have c:=ah6 (a:=a) (b:=b) (by simpa using h);unfold AX sH at *;simp only[a2W,a2G];cases x<;>cases y<;>simp<;>omega
 | [],_::_,h=>by simp at h
 | _::_,[],h=>by simp at h
def abD:∀{a b},a.length=b.length->∀(j:Nat),a[j]?=some false->b[j]?=some true->AX (sH a b)<AX a
 | [],[],_,j,c,_=>by simp at c
 | x::a,y::b,h,0,c,d=>by have e:=ah6 (by simpa using h);simp at c d;subst c d;unfold AX sH at *;simp only[a2W,a2G];simp;omega
 | x::a,y::b,h,j+1,c,d=>by have e:=abD (by simpa using h) j (by simpa using c) (by simpa using d);unfold AX sH at *;simp[a2W,a2G];cases x<;>cases y<;>simp<;>omega
 | [],_::_,h,_,_,_=>by simp at h
 | _::_,[],h,_,_,_=>by simp at h
def Ub(A:List Bool)(s:LB)(b k:Nat):Bool:=(A[k]?.getD false)&&(match s[k]? with | some c=>b.testBit c.toNat|none=>false)
def um(A:List Bool)(s:LB)(b i:Nat):List Bool:=(List.range (s.length+1)).map λj=>decide (0<j)&&decide (j<=i)&&Ub A s b (j-1)
theorem Ni(A s b i):(um A s b i).length=s.length+1:=by simp[um]
theorem akr(A s b):um A s b 0=List.replicate (s.length+1) false:=by
 apply a3g
 .simp[um]
 grind [um]
theorem aks {A s b i}(a:i<s.length):um A s b (i+1)=if Ub A s b i then (um A s b i).set (i+1) true else um A s b i:=by
 apply a3g
 .split<;>simp[um]
 grind [um,Ub]
theorem anJ(A s b):uM (λw=>∃c,w=[c]/\b.testBit c=true) s A (um A s b s.length):=by
 refine aqH λj=>?_;rcases a2a j (s.length+1) with a|a
 .grind [um,Ub,Ni]
 grind [Ni]
def BO(w:World)(g:Nat)(L:List Bool):Prop:=w.heap[g]?=some (.cells (L.map λb=>Value.bool b).toArray 4 (0,0))
abbrev xq(g n:Nat):Value:=zS g n n
theorem BO.lt(h:BO w g L):g<w.heap.size:=(a0c.1 h).1
theorem BO.aC {S w'}(h:BO w g L)(f:aB S w w')(a:g∉S):BO w' g L:=(f.block g h.lt a).trans h
theorem BO.cell(h:BO w g L)(j)(a:j<L.length):w.cell? ⟨g,j,none⟩=some (.bool L[j]):=by rw[cell_of_row w g j _ _ _ h];simp[a]
theorem BO.fz(h:BO w g L)(o):w.frozen? (zB g o)=false:=by unfold BO at h;simp[World.frozen?,h]
theorem BO.set(h:BO w g L)(j x):BO (w.setCell (zB g j) (.bool x)) g (L.set j x):=by
 unfold BO at *;have:((L.map λb=>Value.bool b).toArray.setIfInBounds j (.bool x))=((L.set j x).map λb=>Value.bool b).toArray:=by apply Array.ext';simp[a2d]
 simp[World.setCell,a0v,h,<-this]
def BO.new(u:World)(L):BO (u.alloc (.cells (L.map λb=>Value.bool b).toArray 4)) u.heap.size L:=bD _ _
def wE(a b:List Bool)(i:Nat):List Bool:=sH (a.take i) (b.take i)++a.drop i
theorem ah7(a b):wE a b 0=a:=by simp[wE,sH]
def akt {a b i}(h:a.length=b.length)(c:i<=a.length):(wE a b i).length=a.length:=by simp[wE,sH];omega
theorem aku {a b}(h:a.length=b.length):wE a b a.length=sH a b:=by unfold wE;rw[a0C (a0b _),a0C (by omega),a2H,a0R]
def anK {a b i}(h:a.length=b.length)(d:i<a.length):(wE a b i)[i]?=a[i]?:=by
 unfold wE;have c:(sH (a.take i) (b.take i)).length=i:=by simp[sH];omega
 rw[a0K (by omega),c,a3u];simp
theorem ah8 {a b i}(h:a.length=b.length)(c:i<a.length):(wE a b i).set i (a[i]||b[i]'(by omega))=wE a b (i+1):=by
 unfold wE;have d:(sH (a.take i) (b.take i)).length=i:=by simp[sH];omega
 rw[List.set_append,a0n (by omega),d,a2v,a0k c,List.set_cons_zero];rw[a0F c,a0F (by omega)];have e:sH (a.take i++[a[i]]) (b.take i++[b[i]'(by omega)])=sH (a.take i) (b.take i)++[a[i]||b[i]'(by omega)]:=by unfold sH;rw[List.zipWith_append (by simp;omega)];rfl
 rw[e,a0M];rfl
theorem ai7(w a g n L1 b)(p:BO w a L1)(v:BO w g b)(z:a≠g)(o:n=L1.length)(d:L1.length=b.length)(hb:n<=1000) :
 Calls Tryz.prog 108 #[xq a n,xq g n] w λe w'=>e=.returned (.tuple #[])/\BO w' a (sH L1 b)/\aB [a] w w':=by
 have s:BO w a (wE L1 b 0):=by show BO _ _ _;rw[ah7];exact p
 clear p;unfold xq;go_in;go_wp2_with fail;go_loopg [4] n (λk t wr=>∃(i:Nat),i+k=n/\t=.int .i64 i/\BO wr a (wE L1 b i)/\aB [a] w wr);exact⟨0,by omega,rfl,s,zK⟩
 .clear s;obtain⟨i,E,rfl,h,F⟩:=hrel;have C:=h.fz i;by_cases A:i<n
  .have c:i<L1.length:=by rw[<-o];exact A
   have r:i<b.length:=by rw[<-d];exact c
   have m:=v.aC F (by simp;exact λe=>z e.symm);have j:=anK d c;have c1:wr.cell? ⟨a,i,none⟩=some (.bool L1[i]):=by
    have D:=akt d (a3t c);have:=h.cell i (by omega);rw[this];congr 2;have u:=a0a (l:=wE L1 b i) (i:=i) (by omega);rw[u,a0a c]at j;exact Option.some.inj j
   have:=m.cell i r;have q:BO (wr.setCell ⟨a,i,none⟩ (.bool (L1[i]||b[i]))) a (wE L1 b (i+1)):=by show BO _ _ _;rw[<-ah8 d c];exact h.set i _
   have NF:∀x,aB [a] w (wr.setCell ⟨a,i,none⟩ (.bool x)):=λx=>F.setCell (.inl (by simp)) _;clear m j;generalize L1[i]=x at *;generalize b[i]=y at *;clear c r;cases x
   .cases y;all_goals
     go_wp2;go_roundg (gk-1);exact⟨i+1,by omega,by go_num,q,NF _⟩;omega
   go_wp2;go_roundg (gk-1);exact⟨i+1,by omega,by go_num,q,NF _⟩;omega
  have f:i=L1.length:=by omega
  have B:BO wr a (sH L1 b):=by show BO _ _ _;rw[<-aku d,<-f];exact h
  clear f;go_wp2;go_end0;exact⟨rfl,B,F⟩
def pF(a b:List Bool):Bool:=(List.zipWith (λx y=>y&&!x) a b).any id
def akv {a b}(e:a.length=b.length)(h:pF a b=false)(j:Nat)(c:b[j]?=some true):a[j]?=some true:=by
 unfold pF at h;rw[List.any_eq_false]at h;have hb:=(a0d.1 c).1;have d:j<a.length:=by omega
 have:=h ((λx y=>y&&!x) a[j] b[j]) (by refine a0B (i:=j) ?_;rw[a3b,a0a d,a0a hb]);rw[(a0d.1 c).2]at this;rw[a0a d];simpa using this
def Xo {a b}(g:a.length=b.length)(h:pF a b=true):∃j:Nat,a[j]?=some false/\b[j]?=some true:=by
 unfold pF at h;rw[a1s]at h;obtain⟨x,f,d⟩:=h;obtain⟨j,c⟩:=a1T f;rw[a3b]at c;rcases a2a j a.length with e|e
 .have hb:j<b.length:=by omega
  rw[a0a e,a0a hb]at c;simp at c;refine⟨j,?_,?_⟩
  .rw[a0a e];rw[<-c]at d;simp at d;simp[d.2]
  rw[a0a hb];rw[<-c]at d;simp at d;simp[d.1]
 rw[a1Z e]at c;simp at c
def akw {a b i}(e:a.length=b.length)(c:i<a.length)(h:∀j,j<i->((b[j]?.getD false)&&!(a[j]?.getD false))=false)(d:((b[i]'(by omega))&&!a[i])=true):pF a b=true:=by unfold pF;rw[a1s];refine⟨(b[i]'(by omega))&&!a[i],a0B (i:=i) ?_,d⟩;rw[a3b,a0a c,a0a (by omega)]
def afP {a b}(f:a.length=b.length)(h:∀j,j<a.length->((b[j]?.getD false)&&!(a[j]?.getD false))=false):pF a b=false:=by
 unfold pF;rw[List.any_eq_false];intro x e;obtain⟨j,c⟩:=a1T e;rw[a3b]at c;rcases a2a j a.length with d|d
 .have hb:j<b.length:=by omega
  have:=h j d;rw[a0a d,a0a hb]at this c;simp at c;rw[<-c];simpa using this
 rw[a1Z d]at c;simp at c
def ah9(w r q n L1 a)(v:BO w r L1)(u:BO w q a)(m:n=L1.length)(d:L1.length=a.length)(hb:n<=1000) :
 zF 109 #[xq r n,xq q n] w λe w'=>e=zR (.bool (pF L1 a))/\w=w':=by
 unfold xq;delta zF;go_in;go_wp2_with fail;go_loopg [5] n (λk t wr=>∃(i:Nat),i+k=n/\t=zI i/\w=wr/\∀j,j<i->((a[j]?.getD false)&&!(L1[j]?.getD false))=false);exact⟨0,by omega,rfl,rfl,λj o=>by omega⟩
 .obtain⟨i,A,rfl,rfl,l⟩:=hrel;by_cases z:i<n
  .have c:i<L1.length:=by rw[<-m];exact z
   have g:i<a.length:=by rw[<-d];exact c
   have c1:=v.cell i c;have c2:=u.cell i g;have f:(a[i]&&!L1[i])=true->pF L1 a=true:=λh=>akw d c l h;have s:(a[i]&&!L1[i])=false->∀j,j<i+1->((a[j]?.getD false)&&!(L1[j]?.getD false))=false:=by
    intro h j o;rcases a2a j i with p|p
    .exact l j p
    have:j=i:=by omega
    subst this;rw[a0a c,a0a g];exact h
   generalize L1[i]=x at *;generalize a[i]=y at *;clear c g;cases y
   .have b:=s rfl;go_wp2;go_roundg (gk-1);exact⟨i+1,by omega,by go_num,rfl,b⟩;omega
   cases x
   .have b:=f rfl;go_wp2;go_ret;rw[b];exact⟨rfl,rfl⟩
   have b:=s rfl;go_wp2;go_roundg (gk-1);exact⟨i+1,by omega,by go_num,rfl,b⟩;omega
  have b:pF L1 a=false:=afP d (λj o=>l j (by omega));go_wp2;go_ret;rw[b];exact⟨rfl,rfl⟩
def FmQ(t:TR)(s:LB)(A:List Bool)(w:World)(e:Ending)(w':World):Prop :=
 ∃g B,e=zR (xq g (s.length+1))/\BO w' g B/\w.heap.size<=g/\aB [] w w'/\B.length=s.length+1/\uM (Rt t) s A B
def FmC(t:TR):Prop:=∀(w:World) (p a:Nat) (s:LB) (A:List Bool),RN w p t->BO w a A->A.length=s.length+1->s.length<=900->Ua t->Se t ->
 zF 88 #[aM p,zT s,xq a (s.length+1)] w (FmQ t s A w)
abbrev zbl(n:Nat):List Bool:=List.replicate n false
theorem BJ(n:Nat)(b:n<=1000000000)(w):∃a:Array Value,(Instr.makeSlice 98 (.int .i64 (n:Int)) (.int .i64 (n:Int))).run Tryz.prog w=.ok (.slice (some ⟨w.heap.size,0,none⟩) n n) (w.alloc (.cells a 4))/\BO (w.alloc (.cells a 4)) w.heap.size (zbl n) :=
 ⟨_,abx n b w,BO.new _ _⟩
def aia(W g a n Z A)(k:n=A.length)(i:Z.length=n)(h:BO W g Z)(l:BO W a A) :
 ∃d,(Builtin.copy_ #[98,98] 3 #[xq g n,xq a n]).run Tryz.prog W=.ok (zI (n:Int)) d/\BO d g A/\aB [g] W d:=by
 subst k;have f:(A.map λb=>Value.bool b).length=A.length:=by simp
 have e:=run_copy_row Tryz.prog W 98 98 3 4 g 0 A.length A.length (zA a) A.length A.length (Z.map λb=>Value.bool b).toArray 4 (A.map λb=>Value.bool b) Tryz.underlying98 (by kernel_rfl) h (by rw[f];exact(Nat.min_self _).symm) (by
  intro j v c;rw[show((zA a):Addr).add j=(zB a j) by rw[Addr.add_mid];simp,cell_of_row W a j _ _ _ l];simpa using c) (by simp[i]) (by
  intro v c;obtain⟨y,_,rfl⟩:=a0q.1 c;rfl)
 rw[f]at e;refine⟨_,e,?_,aB.setRow _ _ _⟩;unfold BO;rw[setRow_heap W g _ _ 4 _ h];have m:(Z.map λb=>Value.bool b).drop A.length=[]:=a0i (by simp[i]);simp[m]
def asG:FmC .nil:=by
 intro w p l s A h d c t _ _;obtain⟨n,b⟩:∃n,n=s.length+1:=⟨_,rfl⟩;have a:n=A.length:=by omega
 have c0:=RK.c0 h;have:=bY c0;obtain⟨o,u,j⟩:=BJ n (by omega) _;obtain⟨i,k,e,g⟩:=aia (w.alloc (.cells o 4)) w.heap.size l n (zbl n) A a (by simp) j (d.aC (S:=[]) ((aB.refl [] _).alloc _) (by simp));have F4:Z_ (aB [] w i):=((aB.refl [] w).alloc _).above g (by simp);rw[<-b];have f:Z_ (FmQ .nil s A w (zR (xq w.heap.size n)) i):=⟨w.heap.size,A,by rw[<-b],e,a0b _,F4,c,ah5 s A c⟩;clear h d c e g b a j;unfold aM xq at *;delta zF;go_in;go_wp2;go_ret;exact f
def asH(b):FmC (.one b):=by
 intro w p _ s A h t D _ _ _;obtain⟨n,g⟩:∃n,n=s.length+1:=⟨_,rfl⟩;have c0:=RK.c0 h;have:=bY c0;obtain⟨G,U,N⟩:=BJ n (by omega) w;have R:=bL s;have:=t.lt;have z:=aj h;have V:=aj t;have B:=aj D;have I:=aj g;have:n<=1000:=by omega
 have M:Z_ (BO (w.alloc (.cells G 4)) w.heap.size (um A s b 0)):=by
  show BO _ _ _;rw[akr,<-g];exact N
 have F0:Z_ (aB [w.heap.size] w (w.alloc (.cells G 4))):=(aB.refl _ _).alloc _;rw[<-g];clear h t D N g;unfold aM xq at *;delta zF;go_in;go_wp2_with fail;go_loopg [8] s.length (λk O wr=>∃(i:Nat),i+k=s.length/\O=zI i/\BO wr w.heap.size (um A s b i)/\aB [w.heap.size] w wr);case atStart=>exact⟨0,by omega,rfl,M,F0⟩
 case round =>
  clear M F0 U c0;obtain⟨i,_,rfl,hb,f⟩:=hrel;have C:=aj hb;have F:=aj f;by_cases E:i<s.length
  .have a:i<A.length:=by have:=B.o;omega
   have:i+1<n:=by have:=I.o;omega
   have:=(V.o.aC f (by simp;omega)).cell i a;have:(bs s)[i]'(by rw[R];omega)=s[i]:=rfl;have u:s[i].toNat<256:=s[i].toNat_lt;have cin:=RK.cin (z.o.aY (dX.aC f (λk m cur fz e=>by simp at m;subst m;rw[Array.getElem?_eq_none (a0b _)]at e;simp at e))) s[i].toNat (b.testBit s[i].toNat) (Ib b _ u);have:=hb.fz (i+1);have l:=Ni A s b i;obtain⟨y,_⟩:∃y,zC wr w.heap.size (i+1) (.bool y):=⟨_,hb.cell (i+1) (by omega)⟩;have ST:=aks (A:=A) (b:=b) E;have H:Ub A s b i=(A[i]&&b.testBit s[i].toNat):=by unfold Ub;simp[a0a a,a0a E]
   rw[H]at ST;have v:=aj ST;have X:Z_ (∀q,BO ((wr.drewN q).setCell (zB w.heap.size (i+1)) (.bool true)) w.heap.size ((um A s b i).set (i+1) true)):=λq=>(C.o.aC (S:=[]) ((aB.refl [] _).drewN q) (by simp)).set (i+1) true;have W:Z_ (∀q,aB [w.heap.size] w ((wr.drewN q).setCell (zB w.heap.size (i+1)) (.bool true))):=λq=>(F.o.drewN q).setCell (.inl (by simp)) _;have L:Z_ (∀q,BO (wr.drewN q) w.heap.size (um A s b i)):=λq=>C.o.aC (S:=[]) ((aB.refl [] _).drewN q) (by simp);have J:Z_ (∀q,aB [w.heap.size] w (wr.drewN q)):=λq=>F.o.drewN q;clear hb f ST H l;generalize A[i]=x at *;generalize s[i]=c at *;clear a;cases x
   .have d:Z_ (um A s b (i+1)=um A s b i):=by show _=_;rw[v.o];simp
    go_wp2_with fail;go_quiet (fail);go_wp2;go_roundg (gk-1);case measure=>omega
    case rel=>exact⟨i+1,by omega,by go_num,by rw[d.o];exact L.o _,J.o _⟩
   cases j:b.testBit c.toNat
   .have d:Z_ (um A s b (i+1)=um A s b i):=by show _=_;rw[v.o,j];simp
    rw[j]at cin;go_wp2_with fail;go_quiet (fail);go_wp2;go_roundg (gk-1);case measure=>omega
    case rel=>exact⟨i+1,by omega,by go_num,by rw[d.o];exact L.o _,J.o _⟩
   have d:Z_ (um A s b (i+1)=(um A s b i).set (i+1) true):=by show _=_;rw[v.o,j];simp
   rw[j]at cin;go_wp2_with fail;go_quiet (fail);go_wp2;go_roundg (gk-1);case measure=>omega
   case rel=>exact⟨i+1,by omega,by go_num,by rw[d.o];exact X.o _,W.o _⟩
  have r:i=s.length:=by omega
  have d:Z_ (FmQ (.one b) s A w (zR (zS w.heap.size n n)) wr):=by
   refine⟨w.heap.size,um A s b s.length,by rw[<-I.o],by rw[<-r];exact C,a0b _,F.o.mono (λk m P=>by simp at P;omega),Ni _ _ _ _,anJ A s b⟩
  clear hb f;go_wp2;go_ret;exact d
def aqL(x y)(J:FmC x)(I:FmC y):FmC (.both x y):=by
 intro w p X s A h L N i f u;obtain⟨n,j⟩:∃n,n=s.length+1:=⟨_,rfl⟩;obtain⟨a,b,d,P,O⟩:=h;have c0:=d.c0;have W:=bY c0;obtain⟨ca,cb,_⟩:=d.ends;unfold pq at ca cb;obtain⟨U,_,Av⟩:=BJ n (by omega) w;have t:Z_ (aB [] w (w.alloc (.cells U 4))):=(aB.refl [] w).alloc _;have l:=aj (J (w.alloc (.cells U 4)) a X s A (RN.aY (dX.of t) P) (L.aC t.o (by simp)) N i f.1 u.1);have H2:=aj O;have HY:=aj I;have q:=aj f;have r:=aj u;have HS:=aj i;have m:=aj j;rw[<-j]at l |-;clear P O d L N J I f u i j Av;unfold aM xq at *;delta zF;go_in;go_wp2_with fail;refine(l.o).mono ?_;rintro e v ⟨g,M,rfl,F,IE,S,z,D⟩;have F1:=aj (t.o.trans S);have:zC v p 258 (zP b):=(F1.o.cell (p:=(zB p 258)) W (by simp)).trans cb;have k:=aj (HY.o v b g s M (RN.aY (dX.of F1) H2) F z HS.o q.o.2 r.o.2);rw[<-m.o]at k;rw[<-m.o];unfold aM xq at *;go_wp2_with fail;refine(k.o).mono ?_;rintro e V ⟨R,B,rfl,G,H,T,C,E⟩;have c:Z_ (FmQ (.both x y) s A w (zR (xq R (s.length+1))) V):=⟨R,B,rfl,G,a0h F1.o.size H,F1.o.trans T,C,by simp only[Rt];exact (aj D).o.comp E⟩;rw[<-m.o]at c |-;unfold xq at *;go_wp2;go_ret;exact c
def akx(x y)(hx:FmC x)(Z:FmC y):FmC (.either x y):=by
 intro w p ga s A h u v r q L;obtain⟨n,t⟩:∃n,n=s.length+1:=⟨_,rfl⟩;obtain⟨a,b,i,h1,h2⟩:=h;have c0:=i.c0;have lV:=bY c0;obtain⟨ca,cb,_⟩:=i.ends;unfold pq at ca cb;obtain⟨Zc,_,Av⟩:=BJ n (by omega) w;have N:n<=1000:=by omega
 have J:Z_ (aB [] w (w.alloc (.cells Zc 4))):=(aB.refl [] w).alloc _;have F:=aj (hx (w.alloc (.cells Zc 4)) a ga s A (RN.aY (dX.of J) h1) (u.aC J.o (by simp)) v r q.1 L.1);have R:=aj Av;have H2:=aj h2;have HY:=aj Z;have G:=aj q;have H:=aj L;have HS:=aj r;have d:=aj t;have HA:=aj u;have I:=aj v;rw[<-t]at F |-;clear h1 h2 i u v hx Z q L r t Av;unfold aM xq at *;delta zF;go_in;go_wp2_with fail;refine(F.o).mono ?_;rintro e P ⟨g,M,rfl,X,IE,C,S,V⟩;have F1:=aj (J.o.trans C);have:zC P p 258 (zP b):=(F1.o.cell (p:=(zB p 258)) lV (by simp)).trans cb;have E:=aj (HY.o P b ga s A (RN.aY (dX.of F1) H2) (HA.o.aC F1.o (by simp)) I.o HS.o G.o.2 H.o.2);rw[<-d.o]at E;rw[<-d.o];have O1:=aj (R.o.aC C (by simp));have c:=aj S;have j:=IE;simp at j;unfold aM xq at *;go_wp2_with fail;refine(E.o).mono ?_;rintro e w2 ⟨g2,B,rfl,Y,_,m,T,W⟩;have:=O1.o.lt;have J1:=aj (ai7 w2 w.heap.size g n (zbl n) M (O1.o.aC m (by simp)) ((aj X).o.aC m (by simp)) (by omega) (by simp) (by rw[c.o,<-d.o];simp) N);have D:=aj T;rw[<-d.o];unfold xq at *;go_wp2_with fail;refine(J1.o).mono ?_;rintro e O ⟨rfl,f,z⟩;rw[aef (by rw[c.o,<-d.o])]at f;have J2:=aj (ai7 O w.heap.size g2 n M B f ((aj Y).o.aC z (by simp;omega)) (by omega) (by rw[c.o,<-d.o]) (by rw[c.o,D.o]) N);have F3:Z_ (aB [w.heap.size] w O):=(aj (F1.o.trans m)).o.nil.trans z;unfold xq at *;go_wp2_with fail;refine(J2.o).mono ?_;rintro e w4 ⟨rfl,f,U⟩;have l:Z_ (FmQ (.either x y) s A w (zR (xq w.heap.size (s.length+1))) w4):=⟨w.heap.size,sH M B,rfl,f,a0b _,(F3.o.trans U).mono (λk i hm=>by simp at hm;omega),by rw[abC (by rw[c.o,D.o])];exact c,by simp only[Rt];exact (aj V).o.or (aj W).o (by rw[c.o,D.o])⟩;rw[<-d.o]at l;unfold xq at *;go_wp2;go_ret;exact l
def anL(x lo H)(hx:FmC x):FmC (.often x lo H):=by
 intro w p ga s A h ha hA hs jU AY;obtain⟨n,hn⟩:∃n,n=s.length+1:=⟨_,rfl⟩;obtain⟨a,hk,h1⟩:=h;have c0:=hk.c0;have lV:=bY c0;obtain⟨ca,_,clo,chi⟩:=hk.ends;unfold pq at ca;obtain⟨Zc,Oh,Av⟩:=BJ n (by omega) w;have zX:n<=1000:=by omega
 have:=AY.2.1;have HI9:Z_ (∀m,H=some m->m<=9):=AY.2.2;have HLO:Z_ (∀m,H=some m->lo<=m):=jU.2;have Fa:Z_ (aB [] w (w.alloc (.cells Zc 4))):=(aB.refl [] w).alloc _;have NX:Z_ (∀(W:World) (g:Nat) (M:List Bool),aB [] w W->BO W g M->M.length=s.length+1->zF 88 #[zP a,zT s,zS g n n] W (FmQ x s M W)):=by
  intro W g M r hb E;rw[hn];exact hx W a g s M (RN.aY (dX.of r) h1) hb E hs jU.1 AY.1
 have HC:Z_ (∀W,aB [] w W->zC W p 257 (zP a)/\zC W p 259 (zI lo)/\zC W p 260 (zI (hiT H))):=λW r =>
  ⟨(r.cell (p:=(zB p 257)) lV (by simp)).trans ca,(r.cell (p:=(zB p 259)) lV (by simp)).trans clo,(r.cell (p:=(zB p 260)) lV (by simp)).trans chi⟩
 have U:=aj hn;have uh:=aj Av;have HA:=aj (ha.aC Fa.o (by simp));have HAl:=aj hA;have:=ha.lt;have Gf:w.heap.size<(w.alloc (.cells Zc 4)).heap.size:=by simp
 have HZZ:=aj Gf;have TJ:Z_ (∀(W:World) (B:List Bool),BO W w.heap.size B->aB [] w W->B.length=s.length+1->uM (Rt (.often x lo H)) s A B->FmQ (.often x lo H) s A w (zR (zS w.heap.size n n)) W):=by
  intro W B h1 h2 h3 h4;exact⟨w.heap.size,B,by rw[<-hn],h1,a0b _,h2,h3,h4⟩
 rw[<-hn];clear h1 hk ha hA hx jU AY hs hn Av ca clo chi Gf;unfold aM xq at *;delta zF;go_in;go_wp2_with fail;go_loopg [2,12] lo (λk v2 v12 wr=>∃(i g:Nat) (M:List Bool),i+k=lo/\v12=zI i/\v2=zS g n n/\BO wr g M/\g≠w.heap.size/\M.length=s.length+1/\uM (sG (Rt x) i) s A M/\BO wr w.heap.size (zbl n)/\aB [] w wr/\w.heap.size<wr.heap.size);case atStart=>exact⟨0,ga,A,by omega,rfl,rfl,HA,by omega,HAl,(ah5 s A HAl).congr (λ_=>Iff.rfl),uh,Fa,HZZ⟩
 case round =>
 obtain⟨i,g,M,Ku,rfl,rfl,hb,Y,E,hr,ho,r,hz⟩:=hrel;have B:=aj hb;have HL:=aj E;have R:=aj hr;have O:=aj ho;have F:=aj r;have NE:=aj Y;obtain⟨atX,aw1,J⟩:=HC.o wr r;by_cases aL:i<lo
 .have T:=aj (NX.o wr g M r hb E);go_wp2_with fail;refine(T.o).mono ?_;rintro e l ⟨t,b,rfl,C,iM,c,d,D⟩;rw[<-U.o];have V:=aj C;have F2:=aj (F.o.trans c);have O2:=aj (O.o.aC c (by simp));have Z:=aj (R.o.step D);have S:=aj d;have z2:=c.size;unfold xq;go_wp2;go_roundg (gk-1);case measure=>omega
  case rel=>exact⟨i+1,t,b,by omega,by go_num,rfl,V,by omega,S,Z,O2,F2,by omega⟩
 have hie:i=lo:=by omega
 subst hie;have J1:=aj (ai7 wr w.heap.size g n (zbl n) M ho hb (λe=>Y e.symm) (by simp) (by rw[E,<-U.o];simp) zX);unfold xq at J1;go_wp2_with fail;refine(J1.o).mono ?_;rintro e w2 ⟨rfl,hj,c⟩;rw[aef (by rw[HL.o,<-U.o])]at hj;have O2:=aj hj;have F2:Z_ (aB [] w w2):=F.o.above c (by simp);have V:=aj (B.o.aC c (by simpa using NE.o));have z2:=c.size;obtain⟨_,aw2,_⟩:=HC.o w2 F2;go_wp2_with fail;go_loopg [2,13] (AX M) (λk v2 v13 wr=>∃(j g:Nat) (M B:List Bool),i<=j/\v13=zI j/\v2=zS g n n/\k=AX B/\j+k<=i+n/\(∀m,H=some m->j<=m)/\BO wr g M/\g≠w.heap.size/\M.length=s.length+1/\uM (sG (Rt x) j) s A M/\BO wr w.heap.size B/\B.length=s.length+1/\uM (Btw (Rt x) i j) s A B/\aB [] w wr/\w.heap.size<wr.heap.size);case atStart=>exact⟨i,g,M,M,a0b _,rfl,rfl,rfl,by have:=aqK M;have:=HL.o;have:=U.o;omega,HLO,V,NE,HL,R,O2,HL,R.o.congr (λ_=>aqG),F2,by omega⟩
 case round =>
 obtain⟨j,g,M,B,NG,rfl,rfl,hk,_,yn,hb,Y,E,hr,ho,jE,X0,r,_⟩:=hrel;have R:=aj hr;have O:=aj ho;have F:=aj r;have f:=aj jE;have BT:=aj X0;have HHI:=aj yn;have HK:=aj hk;obtain⟨_,_,J⟩:=HC.o wr r;have T:=aj (NX.o wr g M r hb E);have L:Z_ ((∀m,H=some m->j+1<=m)->∀(l:World) (t:Nat) (b:List Bool),BO l t b->wr.heap.size<=t->aB [] wr l->b.length=s.length+1->uM (Rt x) s M b->(pF B b=false->FmQ (.often x i H) s A w (zR (zS w.heap.size n n)) l)/\zF 109 #[zS w.heap.size n n,zS t n n] l (λe w'=>e=zR (.bool (pF B b))/\l=w')/\zF 108 #[zS w.heap.size n n,zS t n n] l (λe w'=>e=zQ #[]/\BO w' w.heap.size (sH B b)/\aB [w.heap.size] l w')):=by
  intro hm l t b C iM c d D;have sU:=O.o.aC c (by simp);refine⟨λu=>TJ.o l B sU (F.o.trans c) f.o ?_,ah9 l w.heap.size t n B b sU C (by rw[f.o,<-U.o]) (by rw[f.o,d]) zX,ai7 l w.heap.size t n B b sU C (by omega) (by rw[f.o,<-U.o]) (by rw[f.o,d]) zX⟩;simp only[Rt];exact BT.o.done NG (R.o.step D) (λq hq=>akv (by rw[f.o,d]) u q hq) H HHI
 cases H with
 | none =>
   have X:hiT none=-1:=rfl;rw[X]at J;have GC:Z_ (∀m,(none:Option Nat)=some m->j+1<=m):=λm hm=>by simp at hm
   have GO:=aj (L.o GC);go_wp2_with fail;refine(T.o).mono ?_;rintro e l ⟨t,b,rfl,C,iM,c,d,D⟩;rw[<-U.o];obtain⟨G1,G2,G3⟩:=GO.o l t b C iM c d D;have z:=aj G1;have y:=aj G2;have v:=aj G3;have V:=aj C;have Z:=aj (R.o.step D);have S:=aj d;have F2:=aj (F.o.trans c);have z2:=c.size;have I:Z_ (pF B b=true->AX (sH B b)<AX B):=λu=>by
    obtain⟨q,q1,q2⟩:=Xo (by rw[f.o,d]) u;exact abD (by rw[f.o,d]) q q1 q2
   unfold xq;go_wp2_with fail;refine(y.o).mono ?_;rintro e w1' ⟨rfl,rfl⟩;cases u:pF B b
   .have N:=aj (z.o u);go_wp2;go_ret;exact N
   have au6:=I.o u;go_wp2_with fail;refine(v.o).mono ?_;rintro e w3 ⟨rfl,G,P⟩;have O3:=aj G;have F3:Z_ (aB [] w w3):=F2.o.above P (by simp);have B3:=aj (V.o.aC P (by simp;omega));have z3:=P.size;have BT3:Z_ (uM (Btw (Rt x) i (j+1)) s A (sH B b)):=(BT.o.or Z.o (by rw[f.o,S.o])).congr (λ_=>aee NG);have HOL:Z_ ((sH B b).length=s.length+1):=by show _=_;rw[abC (by rw[f.o,S.o])];exact f
   have hkk:=HK.o;go_wp2;go_roundg (AX (sH B b));case measure=>omega
   case rel=>exact⟨j+1,t,b,sH B b,by omega,by go_num,rfl,rfl,by omega,GC,B3,by omega,S,Z,O3,HOL,BT3,F3,by omega⟩
 | some m =>
   have X:hiT (some m)=(m:Int):=rfl;rw[X]at J;have:=HI9.o m rfl;have:=HHI.o m rfl;by_cases hjm:j<m
   .have GC:Z_ (∀q,some m=some q->j+1<=q):=λq hq=>by simp at hq;omega
    have GO:=aj (L.o GC);go_wp2_with fail;refine(T.o).mono ?_;rintro e l ⟨t,b,rfl,C,iM,c,d,D⟩;rw[<-U.o];obtain⟨G1,G2,G3⟩:=GO.o l t b C iM c d D;have z:=aj G1;have y:=aj G2;have v:=aj G3;have V:=aj C;have Z:=aj (R.o.step D);have S:=aj d;have F2:=aj (F.o.trans c);have:=c.size;have I:Z_ (pF B b=true->AX (sH B b)<AX B):=λu=>by
     obtain⟨q,q1,q2⟩:=Xo (by rw[f.o,d]) u;exact abD (by rw[f.o,d]) q q1 q2
    unfold xq;go_wp2_with fail;refine(y.o).mono ?_;rintro e _ ⟨rfl,rfl⟩;cases u:pF B b
    .have N:=aj (z.o u);go_wp2;go_ret;exact N
    have:=I.o u;go_wp2_with fail;refine(v.o).mono ?_;rintro e w3 ⟨rfl,G,P⟩;have O3:=aj G;have F3:Z_ (aB [] w w3):=F2.o.above P (by simp);have B3:=aj (V.o.aC P (by simp;omega));have:=P.size;have BT3:Z_ (uM (Btw (Rt x) i (j+1)) s A (sH B b)):=(BT.o.or Z.o (by rw[f.o,S.o])).congr (λ_=>aee NG);have HOL:Z_ ((sH B b).length=s.length+1):=by show _=_;rw[abC (by rw[f.o,S.o])];exact f
    have:=HK.o;go_wp2;go_roundg (AX (sH B b));case measure=>omega
    case rel=>exact⟨j+1,t,b,sH B b,by omega,by go_num,rfl,rfl,by omega,GC,B3,by omega,S,Z,O3,HOL,BT3,F3,by omega⟩
   have aw3:j=m:=by omega
   subst aw3;have N:Z_ (FmQ (.often x i (some j)) s A w (zR (zS w.heap.size n n)) wr):=TJ.o wr B O.o F.o f.o (by simp only[Rt];exact BT.o.full);go_wp2;go_ret;exact N
def zb:∀t:TR,FmC t
 | .nil=>asG
 | .one b=>asH b
 | .both x y=>aqL x y (zb x) (zb y)
 | .either x y=>akx x y (zb x) (zb y)
 | .often x lo a=>anL x lo a (zb x)
theorem Xp(w p t s)(h:RN w p t)(x:Ua t)(G:Se t)(A:s.length<=900) :
 Calls Tryz.prog 72 #[.pointer (some ⟨p,0,none⟩),.string (bs s)] w λe w'=>∃b,e=.returned (.bool b)/\(b=true↔Rt t (s.map (·.toNat)))/\aB [] w w':=by
 have R:=bL s;obtain⟨n,u⟩:∃n,n=s.length+1:=⟨_,rfl⟩;obtain⟨a,m,c⟩:=BJ n (by omega) _;have f:(n:Int)=(s.length:Int)+1:=by omega
 have T:(Instr.makeSlice 98 (.int .i64 ((s.length:Int)+1)) (.int .i64 ((s.length:Int)+1))).run Tryz.prog w=.ok (.slice (some ⟨w.heap.size,0,none⟩) n n) (w.alloc (.cells a 4)):=by rw[<-f];exact m
 have J:(w.alloc (.cells a 4)).cell? ⟨w.heap.size,0,none⟩=some (.bool false):=by rw[c.cell 0 (by simp;omega)];simp
 have N:=c.fz 0;have E:a=((zbl n).map λb=>Value.bool b).toArray:=by
  have l:=bD w (.cells a 4);unfold BO at c;rw[l]at c;simpa using c
 have j:BO (w.alloc (.cells (a.setIfInBounds 0 (.bool true)) 4)) w.heap.size ((zbl n).set 0 true):=by
  unfold BO;rw[bD,E];have:((zbl n).map λb=>Value.bool b).toArray.setIfInBounds 0 (.bool true)=(((zbl n).set 0 true).map λb=>Value.bool b).toArray:=by
   apply Array.ext';rw[a2d];simp
  rw[this]
 have F1:Z_ (aB [] w (w.alloc (.cells (a.setIfInBounds 0 (.bool true)) 4))):=(aB.refl [] w).alloc _;have d:((zbl n).set 0 true).length=s.length+1:=by simp[u]
 have NF:=aj (zb t _ p w.heap.size s _ (RN.aY (dX.of F1) h) j d A x G);have:0<n:=by omega
 have:s.length<n:=by omega
 have:n<=1000:=by omega
 have L:=aj u;rw[<-u]at NF;have q:Z_ (∀B:List Bool,B.length=s.length+1->uM (Rt t) s ((zbl n).set 0 true) B->(B.getD s.length false=true↔Rt t (s.map (·.toNat)))):=by
  intro B C r;have l:=r s.length;rw[a0a (by omega)]at l;rw[a0x,a0a (by omega)];simp only[Option.some.injEq]at l;simp only[Option.getD_some];rw[l];constructor
  .rintro⟨i,v,_,_,k⟩;have I:i=0:=by
    rw[List.getElem?_set]at v;by_cases e:0=i
    .exact e.symm
    rw[a0n e,a2K]at v;split at v<;>simp at v
   subst I;unfold sQ at k;rw[a0C (a0b _),a2j]at k;exact k
  intro k;refine⟨0,by rw[List.getElem?_set];simp;omega,by omega,a0b _,?_⟩;unfold sQ;rw[a0C (a0b _),a2j];exact k
 clear h x G A c j u m f d E;unfold aM xq at NF;go_in;go_wp2_with fail;refine(NF.o).mono ?_;rintro e O ⟨g,B,rfl,hb,P,D,C,r⟩;have:=hb.cell s.length (by omega);have F:=aj (q.o B C r);have F2:=aj (F1.o.trans D);rw[<-L.o];have z:B.getD s.length false=B[s.length]'(by omega):=by rw[a0x,a0a (by omega)];rfl
 rw[z]at F;clear z;generalize B[s.length]'(by omega)=y at *;clear hb D r q NF;unfold xq;go_wp2;go_ret;exact⟨y,rfl,F,F2⟩
def rtT(d:Nat)(rc:LB)(told:Bool)(names V:List LB):Option RR:=match nO 3 (-1,-1,-1) V with
 | none=>none
 | some (b,a)=>if (dO (a.length+1) a []).2.2 then some ⟨rc,told,names,b.1,b.2.1,b.2.2,(dO (a.length+1) a []).1,(dO (a.length+1) a []).2.1,d⟩ else none
def rtB(d:Nat)(rc:LB)(V:List LB):Option RR:=match qX V with
 | none=>none
 | some (told,names,a)=>rtT d rc told names a
def RS.axy {b off c} {V:List LB}(h:V.length=2)(d:c=0):RS b w (.slice (some (zB g off)) (V.length-2) c) (V.drop 2):=by subst d;exact⟨some (zB g off),0,by simp,by simp;omega,by simp;omega,λj a=>by simp at a;omega⟩
def Xq(l w)(hl:l.length<=9000) :
 zF 50 #[zT l] w λe w'=>aqj w e w' (yY l)/\aB [] w w':=by
 have eG:=bL;have D:=tF;have Bh:=aT;have k0:({ data:=#[] }:ByteArray).toList=[]:=aT _;have kM:qz (w.alloc (Obj.cells (iY.cells ⟨[],zN,-1,-1,-1,zN,false,zN,0,0⟩) 114)) w.heap.size ⟨[],zN,-1,-1,-1,zN,false,zN,0,0⟩:=bD _ _;have uh:=aj kM;clear kM;delta zF;go_in;go_wp2_with fail;go_loopg [0] l.length (λk vs wr=>∃(m:LB) (d:Nat),m.length<=k/\d+m.length<=l.length/\(bO m).1+d=(bO l).1/\(bO m).2=(bO l).2/\vs=zT m/\qz wr w.heap.size ⟨[],zN,-1,-1,-1,zN,false,zN,d,0⟩/\aB [] w wr);case atStart=>exact⟨l,0,a0b _,by omega,by omega,rfl,rfl,uh,(aB.refl _ _).alloc _⟩
 case round =>
 clear uh;obtain⟨m,d,PW,Ih,gJ,ll,rfl,G,bH⟩:=hrel;have Hd:=aj (And.intro gJ ll);have Hr:=aj G;have Hf:=aj bH;clear gJ ll G bH;by_cases vB:∃r,m=32::r
 .obtain⟨r,rfl⟩:=vB;have zt:(bs (32::r))[0]'(by rw[eG];simp)=32:=rfl;have bJ:((32::r:LB) == [])=false:=rfl;have c6:zC wr w.heap.size 8 (zI d):=Hr.o.cell 8;have f6:=Hr.o.fz 8;have Am:Z_ ((bO r).1+(d+1)=(bO l).1/\(bO r).2=(bO l).2):=by
   have:=Hd.o;rw[WN 32 r rfl]at this;exact⟨by have:=this.1;simp only at this;omega,this.2⟩
  simp only[a0r]at PW Ih;have hex:List.drop 1 (List.take (r.length+1) (32::r))=r:=by simp
  clear Hd;go_wp2;go_roundg (gk-1);case measure=>omega
  case rel=>exact⟨r,d+1,by omega,by omega,Am.o.1,Am.o.2,by simp,Hr.o.set 8 _ _ (by simp[iY.cells]),Hf.o.setCell (by simp) _⟩
 have Am:Z_ (d=(bO l).1/\m=(bO l).2):=by
  have:=Hd.o;cases m with
  | nil=>exact⟨by have:=this.1;simp[bO]at this;exact this,this.2⟩
  | cons c r =>
    have hc:(c==32)=false:=by
     rw[a0j];intro e;subst e;exact vB ⟨r,rfl⟩
    rw[aad c r hc]at this;exact⟨by simpa using this.1,by simpa using this.2⟩
 have ayF:m.length<=9000:=by omega
 have HR:Z_ (yY l=rtW d (dU true 32 m)):=by show _=_;unfold yY;rw[<-Am.o.1,<-Am.o.2]
 have ayG:d<=9000:=by omega
 have au7:(m == [])=true\/((m == [])=false/\∃c,(∀h,(bs m)[0]'h=c)/\((c.toNat:Int)==32)=false):=by
  cases m with
  | nil=>exact Or.inl rfl
  | cons c r =>
    refine Or.inr ⟨rfl,c,λ_=>rfl,?_⟩;rw[a0j];intro e;have:c=32:=a1w.1 (a2N.1 e);subst this;exact vB ⟨r,rfl⟩
 clear Hd Am vB Ih PW;have jE:=Hr.o.lt;have fin:∀(e:Ending) (w':World) (p:Option Addr),yY l=none->e=zQ #[.pointer p,.bool false]->aB [] w w'->aqj w e w' (yY l)/\aB [] w w':=by
  intro e w' p z h2 h3;rw[z];exact⟨⟨p,h2⟩,h3⟩
 have Fin:=aj fin;clear fin;rcases au7 with he|⟨he,c,hc,hc32⟩
 .have Vz:m=[]:=by simpa using he
  subst Vz;have u:Z_ (yY l=none):=by show _=_;rw[HR.o];rfl
  go_wp2_with fail;refine(Lj [] 32 true wr (by simp)).mono ?_;rintro e i ⟨v,rfl,hs,J⟩;obtain⟨a,cap,rfl⟩:=hs.shape;have hlen:(dU true 32 []).length=1:=rfl;rw[hlen];have U:=aj (Hf.o.trans J);clear hs J hlen;go_wp2;go_ret2;exact Fin.o _ _ _ u.o rfl U
 have hlp:0<(bs m).size:=by
  rw[eG,a1O];intro e;rw[e]at he;cases he
 have Cm:(bs m)[0]'hlp=c:=hc hlp;clear hc;go_wp2_with fail;refine(Lj m 32 true wr (by omega)).mono ?_;rintro e i ⟨v,rfl,hs,J⟩;have kG:=Lr true 32 m;generalize dU true 32 m=W at *;obtain⟨hWx,L,hW1⟩:=kG;obtain⟨a,cap,rfl⟩:=hs.shape;have Hs:=aj ((hs.rs (by omega)).base (base':=w.heap.size+1) (by have:=Hr.o.lt;omega));have Hwl:Z_ (∀x∈W,x.length<=100000):=λx D=>by have:=hWx x D;omega
 have Ss:=aj (Hr.o.aC J (by simp));have U:=aj (Hf.o.trans J);have gD:w.heap.size+1<=i.heap.size:=by have:=Ss.o.lt;omega
 clear hs J hWx Hr Hf Cm hc32 he hlp;by_cases hW2:W.length<2
 .have u:Z_ (yY l=none):=by show _=_;rw[HR.o];unfold rtW;simp[hW2]
  have ll:decide ((W.length:Int)<2)=true:=a0g (by omega);go_wp2;go_ret2;exact Fin.o _ _ _ u.o rfl U
 have ll:decide ((W.length:Int)<2)=false:=a0f (by omega);obtain⟨g,off,ha,hgb,_,hWc,aO⟩:=Hs.o.Ay (by omega);subst ha;have c0:zC i g off (zT (W.getD 0 [])):=aO 0 (by omega);have c1:zC i g (off+1) (zT (W.getD 1 [])):=aO 1 (by omega);have kR:({ data:=#[114,111,117,116,101] }:ByteArray).toList=Bn:=aT _;have k45:({ data:=#[45] }:ByteArray).toList=[45]:=aT _;have ayH:(W.getD 1 []).length<=100000:=Hwl.o _ (by rw[a0x,a0a (by omega)];exact a0u _);have tV:Z_ (yY l=if !(W.getD 0 []==Bn) then none
  else if !(aJ (W.getD 1 []))&&!(W.getD 1 [] == [45]) then none
  else rtB d (W.getD 1 []) (W.drop 2)):=by
  show _=_;rw[HR.o];unfold rtW;rw[a0f hW2];rfl
 clear aO HR;generalize W.getD 0 []=x0 at *;generalize W.getD 1 []=f at *;cases h0:(x0==Bn)
 .have u:Z_ (yY l=none):=by show _=_;rw[tV.o,h0];rfl
  go_wp2;go_ret2;exact Fin.o _ _ _ u.o rfl U
 have p0:zC i w.heap.size 0 (.string (bs [])):=Ss.o.cell 0;have pf:=Ss.o.fz 0;go_wp2_with fail;refine(nH f _ (by omega)).mono ?_;rintro e w' ⟨rfl,rfl⟩;have q:=aj (Ss.o.set 0 (zT f) ⟨f,zN,-1,-1,-1,zN,false,zN,d,0⟩ rfl);have Yn:=aj ((aB.refl [w.heap.size] i).setCell (p:=(zA w.heap.size)) (by simp) (zT f));generalize i.setCell (zA w.heap.size) (zT f)=w3 at *;have q0:zC w3 w.heap.size 0 (zT f):=q.o.cell 0;have PZ:Z_ (yY l=if !(aJ f)&&!(f == [45]) then none
  else rtB d f (W.drop 2)):=by
  show _=_;rw[tV.o,h0];rfl
 clear tV c0 c1 p0 pf h0 Ss;go_upto_region 10 with fail;go_cut [6,60] (λv6 vt wc=>wc=w3/\vt=.bool (!(aJ f)&&!(f == [45])))
 case first =>
  cases UA:aJ f
  .cases A:(f == [45]);all_goals
    go_wp2;go_meet;case rel=>exact⟨rfl,by rw[UA,A];rfl⟩
  go_wp2;go_meet;case rel=>exact⟨rfl,by rw[UA];rfl⟩
 case rest =>
 obtain⟨rfl,rfl⟩:=hcut;cases Ko:(!(aJ f)&&!(f == [45]))
 case true =>
  have u:Z_ (yY l=none):=by show _=_;rw[PZ.o,Ko];rfl
  go_wp2;go_ret2;exact Fin.o _ _ _ u.o rfl (U.o.new Yn.o (by simp))
 case false =>
 have R:=aj PZ;rw[Ko]at R;clear PZ Ko q0;go_upto_region 12 with fail;have JM:=aj (Hs.o.drop2 2 (by omega));go_cut [5] (λvw E=>E=wc/\RS (w.heap.size+1) i vw (W.drop 2))
 case first =>
  by_cases oN:cap=2;all_goals
   go_wp2;go_meet;case rel=>exact⟨rfl,by first | exact JM.o|exact RS.axy (by omega) rfl⟩
 case rest =>
 obtain⟨rfl,aqM⟩:=hcut;have atZ:∀x∈W.drop 2,x.length<=100000:=λx D=>Hwl.o x (a1f D);have aw4:(W.drop 2).length<=9001:=by simp;omega
 generalize W.drop 2=V at *;clear Hs JM Hwl L hW1 hW2 ll hWc hgb;have P:=aqM;obtain⟨a1,ag0,e1,_,hVc,_⟩:=P;subst e1;have O:=aj aqM;have B:=aj atZ;clear aqM atZ;have kBY:({ data:=#[98,121] }:ByteArray).toList=wBy:=aT _;have aqN:=Yn.o;have SN:1<V.length->∃g off,a1=some (zB g off)/\zC wc g off (zT (V.getD 0 []))/\zC wc g (off+1) (zT (V.getD 1 []))/\(∀Y,aB [w.heap.size] i Y->zC Y g (off+1) (zT (V.getD 1 []))):=by
  intro h;obtain⟨g,off,ha,hgb,_,_,aO⟩:=O.o.Ay (by omega);have d0:=aO 0 (by omega);have d1:=aO 1 (by omega);have X:=World.block_lt_of_cell? i _ d1;refine⟨g,off,ha,(aqN.cell (p:=(zB g off)) X (by simp;omega)).trans d0,(aqN.cell (p:=(zB g (off+1))) X (by simp;omega)).trans d1,λY H=>(H.cell (p:=(zB g (off+1))) X (by simp;omega)).trans d1⟩
 have afQ:=aj SN;clear SN aqN;go_upto_region 13 with fail;go_cut [71] (λvt E=>E=wc/\vt=.bool (decide (1<V.length)&&(V.getD 0 []==wBy)))
 case first =>
  by_cases z:1<V.length
  .obtain⟨g,off,rfl,c0,c1,_⟩:=afQ.o z;have gJ:=decLt 1 V.length (by omega);go_wp2;go_meet;case rel=>exact⟨rfl,by rw[a0g z];rfl⟩
  have gJ:=aBb 1 V.length (by omega);go_wp2;go_meet;case rel=>exact⟨rfl,by rw[a0f z];rfl⟩
 case rest =>
 obtain⟨rfl,rfl⟩:=hcut;have k58:({ data:=#[58] }:ByteArray)=bs [58]:=rfl;have Il:i.heap.size<=wc.heap.size:=Yn.o.size;go_upto_if 71 with fail;go_cut [5,6,7,8] (λvw v6 v7 v8 E=>∃(told:Bool) (names t:List LB) (ek:Value),qX V=some (told,names,t)/\t.length<=9001/\(∀x∈t,x.length<=100000)/\RS (w.heap.size+1) i vw t/\qz E w.heap.size ⟨f,ek,-1,-1,-1,zN,false,zN,d,0⟩/\SL i.heap.size E ek (byW told names)/\aB [w.heap.size] i E)
 case first =>
  cases xL:(decide (1<V.length)&&(V.getD 0 []==wBy))
  case false =>
   have Hb:Z_ (qX V=some (false,[],V)):=by show _=_;unfold qX;rw[xL];rfl
   go_wp2;go_meet;case rel=>exact⟨false,[],V,zN,Hb,aw4,B,O,q,SL.nil _ _,Yn⟩
  case true =>
  have z:1<V.length:=by
   rw[a0O,a1E]at xL;exact xL.1
  obtain⟨g,off,rfl,c0,c1,cx⟩:=afQ.o z;have Hcx:=aj cx;clear cx;have p1:zC wc w.heap.size 1 zN:=q.o.cell 1;have pf:=q.o.fz 1;have Tp:=q.o.lt;have aqO:(V.getD 1 []).length<=100000:=B.o _ (by rw[a0x,a0a z];exact a0u _);have dw:Z_ (qX V=if V.getD 1 [] == [45] then some (true,[],V.drop 2)
   else if (dU false 44 (V.getD 1 [])).all aJ&&decide ((dU false 44 (V.getD 1 [])).length<=4) then some (true,Ed (dU false 44 (V.getD 1 [])),V.drop 2) else none):=by
   show _=_;unfold qX;rw[xL];rfl
  have JM:=aj (O.o.drop2 2 (by omega));generalize V.getD 1 []=T at *;go_upto_region 15 with fail;have Hrd:=aj ((q.o.set 1 (zS wc.heap.size 1 1) ⟨f,zS wc.heap.size 1 1,-1,-1,-1,zN,false,zN,d,0⟩ rfl).aC (S:=[]) ((aB.refl _ _).alloc (.cells #[.string (bs [58])] 9)) (by simp));have Fd:=aj ((Yn.o.setCell (p:=(zB w.heap.size 1)) (by simp) (zS wc.heap.size 1 1)).alloc (.cells #[.string (bs [58])] 9));have Hsd:Z_ (SL i.heap.size ((wc.setCell (zB w.heap.size 1) (zS wc.heap.size 1 1)).alloc (.cells #[.string (bs [58])] 9)) (zS wc.heap.size 1 1) [[58]]):=by
   have:=World.ownsRow_lit (base:=i.heap.size) (e:=9) (size:=1) (wc.setCell (zB w.heap.size 1) (zS wc.heap.size 1 1)) #[.string (bs [58])] 1 (by simp[World.setCell];exact Il) (by unfold maxLen;omega) (by simp);have e:(wc.setCell (zB w.heap.size 1) (zS wc.heap.size 1 1)).heap.size=wc.heap.size:=by simp[World.setCell]
   rw[e]at this;exact this
  generalize aw5:wc.heap.size=bb at *;generalize (wc.setCell (zB w.heap.size 1) (zS bb 1 1)).alloc (.cells #[.string (bs [58])] 9)=w5 at *;have c1':zC w5 g (off+1) (zT T):=Hcx.o w5 Fd;have Fu:i.heap.size<=w5.heap.size:=Fd.o.size;clear p1 pf c0 c1 aw5;have slc:∀(v5:Value) (E:World),qz E w.heap.size ⟨f,v5,-1,-1,-1,zN,false,zN,d,0⟩->True:=λ_ _ _=>trivial;clear slc;cases A:(T == [45])
  case true =>
   have Hb:Z_ (qX V=some (true,[],V.drop 2)):=by show _=_;rw[dw.o,A];rfl
   by_cases oN:ag0=2;all_goals
    go_wp2;go_meet;case rel=>exact⟨true,[],V.drop 2,_,Hb,by simp;omega,λx D=>B.o x (a1f D),by first | exact JM.o|exact RS.axy (by omega) rfl,Hrd,Hsd,Fd⟩
  case false =>
  go_wp2_with fail;refine(Lj T 44 false w5 (by omega)).mono ?_;rintro e w6 ⟨v6,rfl,hs6,Fs⟩;have kG:=Lr false 44 T;obtain⟨hNx,hNl,hN1⟩:=kG;have HNx:=aj hNx;have qK:Z_ (qX V=if (dU false 44 T).all aJ&&decide ((dU false 44 T).length<=4) then some (true,Ed (dU false 44 T),V.drop 2) else none):=by
   show _=_;rw[dw.o,A];rfl
  clear dw hNx A;generalize dU false 44 T=N at *;obtain⟨aN,ayI,rfl⟩:=hs6.shape;have HsN:=aj ((hs6.rs (by omega)).base (base':=0) (a1G _));have Hr6:=aj (Hrd.o.aC Fs (by simp));have Hs6:=aj (Hsd.o.aC Fs (by simp));have F6:=aj (Fd.o.trans Fs.nil);clear hs6 Fs;have at0:Z_ (((N.all aJ&&decide (N.length<=4))=false)->yY l=none):=by
   intro h;rw[R.o];unfold rtB;rw[qK.o,h];rfl
  have hfw:Z_ (∀Y,aB [w.heap.size] i Y->aB [] w Y):=λY h=>U.o.new h (by simp);go_wp2_with fail;go_loopg [6,8] N.length (λk v6 vi wr=>∃(j:Nat),j+k=N.length/\vi=zI j/\(N.take j).all aJ=true/\wr=w6);case atStart=>exact⟨0,by omega,rfl,by simp,rfl⟩
  case round =>
   obtain⟨j,hj,rfl,ja,hw6⟩:=hrel;subst hw6;have oL:=aj ja;clear ja;by_cases X:j<N.length
   .obtain⟨a',xK,e,_,_,h3⟩:=HsN.o;simp at e;obtain⟨e1,e2⟩:=e;subst e1 e2;obtain⟨gN,ayJ,h4,_,h6⟩:=h3 j X;subst h4;clear h3;have hyl:=HNx.o _ (a0u X);have Ht:Z_ (N.take (j+1)=N.take j++[N[j]]):=a0F X;have Hm:Z_ (N[j]∈N):=a0u X;generalize N[j]=y at *;go_wp2_with fail;refine(nH y _ (by omega)).mono ?_;rintro e w' ⟨rfl,rfl⟩;cases hny:aJ y
    .have u:Z_ (yY l=none):=at0.o (by
      have:N.all aJ=false:=by
       rw[a2p];intro ha;have:=a1d.1 ha y Hm;rw[hny]at this;cases this
      rw[this];rfl)
     go_wp2;go_ret2;exact Fin.o _ _ _ u.o rfl (hfw.o _ F6)
    have zu:Z_ ((N.take (j+1)).all aJ=true):=by
     show _=_;rw[Ht.o,a2c,oL.o];simp[hny]
    go_wp2;go_roundg (gk-1);case measure=>omega
    case rel=>exact⟨j+1,by omega,by go_num,zu,rfl⟩
   have adO:Z_ (N.all aJ=true):=by
    have:=oL.o;rw[a0C (by omega)]at this;exact this
   by_cases h4:4<N.length
   .have u:Z_ (yY l=none):=at0.o (by rw[a0f (by omega)];simp);have hd4:=decLt 4 N.length (by omega);go_wp2;go_ret2;exact Fin.o _ _ _ u.o rfl (hfw.o _ F6)
   have hd4:=aBb 4 N.length (by omega);have Hb:Z_ (qX V=some (true,Ed N,V.drop 2)):=by
    show _=_;rw[qK.o,adO.o,a0g (by omega)];rfl
   have Z:=anp N;obtain⟨ayK,aa0⟩:=Z;have vB:=aa0 hN1;go_wp2_with fail;refine(ahR _ N wr HsN.o (by omega)).mono ?_;rintro e w7 ⟨v7,rfl,I,Aj⟩;have Hr7:=aj (Hr6.o.aC Aj (by simp));have Hs7:=aj (Hs6.o.aC Aj (by simp));have F7:=aj (F6.o.trans Aj.nil);obtain⟨a7,c7,e7⟩:=I.shape;obtain⟨g7,hg7⟩:∃g7,a7=some (zA g7):=by
    rcases I.2 with⟨e,h⟩|⟨g,c,cur,e,_⟩
    .omega
    rw[e7]at e;simp at e;exact⟨g,e.1⟩
   subst hg7 e7;have HN7:=aj I;have Nw:i.heap.size<=w7.heap.size:=F7.o.size;have p1:zC w7 w.heap.size 1 (zS bb 1 1):=Hr7.o.cell 1;clear I Aj;generalize Ed N=M at *;have Ko:=(Hs7.o.lt bb rfl).1;by_cases oN:ag0=2;all_goals
    go_wp2_with (first | (at_builtin;refine adW _ rfl _ _ rfl i.heap.size wr.heap.size (zS bb 1 1) [[58]] M g7 c7 rfl Hs7.o rfl HN7.o (by omega) (by simp;omega) Nw ?_;intro gb Js w8 hs8 hg8 hb8;have Hs8:=aj hs8;have F78:=aB.Bt hg8;have Hr8:=aj (Hr7.o.aC F78 (by simp;omega));have F8:=aj (F7.o.grown hg8 (λk hk=>by simp[Value.ownBlock]at hk;omega));have p8:=Hr8.o.cell 1;have f8:=Hr8.o.fz 1;clear hs8 hg8 F78));go_meet;case rel=>exact⟨true,M,V.drop 2,zS gb (1+M.length) Js,Hb,by simp;omega,λx D=>B.o x (a1f D),by first | exact JM.o|exact RS.axy (by omega) rfl,Hr8.o.set 1 _ _ rfl,(Hs8.o.aC (S:=[w.heap.size]) ((aB.refl _ _).setCell (by simp) _) (by simp;omega)),F8.o.setCell (by simp) _⟩
 case rest =>
 obtain⟨told,names,t,ek,Bq,aw6,aAA,yR,G,Z,hfc⟩:=hcut;have F:=aj hfc;have s:=aj G;have L9:=aj Z;have IG:Z_ (yY l=rtT d f told names t):=by
  show _=_;rw[R.o];unfold rtB;rw[Bq];rfl
 clear R Bq hfc G Z afQ O B Yn q Il;have kw0:({ data:=#[119,97,105,116] }:ByteArray)=bs Az:=rfl;have kw1:({ data:=#[101,118,101,114,121] }:ByteArray)=bs vQ:=rfl;have kw2:({ data:=#[114,101,112,101,97,116] }:ByteArray)=bs rW:=rfl;have at5:=bD wc (Obj.cells #[zT Az,zT vQ,zT rW] 9);have at6:=aj at5;have Il:i.heap.size<=wc.heap.size:=F.o.size;have Frb:=aj (s.o.aC (S:=[]) ((aB.refl _ _).alloc (Obj.cells #[zT Az,zT vQ,zT rW] 9)) (by simp));have Fsl:=aj (L9.o.aC (S:=[]) ((aB.refl _ _).alloc (Obj.cells #[zT Az,zT vQ,zT rW] 9)) (by simp));have FF:=aj (F.o.alloc (Obj.cells #[zT Az,zT vQ,zT rW] 9));clear at5 s L9 F;have P:=aj yR;have aqP:=aj aAA;clear yR aAA;go_wp2_with fail;generalize aw7:wc.heap.size=bw at *;have ayL:w.heap.size<bw:=by omega
 clear aw7;go_loopg [5,10] 3 (λk vw vi wr=>∃(t0 t1 t2:Int) (b:List LB),k<=3/\vi=zI (3-k:Nat)/\b.length<=9001/\(∀x∈b,x.length<=100000)/\RS (w.heap.size+1) i vw b/\qz wr w.heap.size ⟨f,ek,t0,t1,t2,zN,false,zN,d,0⟩/\SL i.heap.size wr ek (byW told names)/\aB [w.heap.size] i wr/\wr.heap[bw]?=some (.cells #[zT Az,zT vQ,zT rW] 9 (0,0))/\nO k (t0,t1,t2) b=nO 3 (-1,-1,-1) t);case atStart=>exact⟨-1,-1,-1,t,a0b _,rfl,aw6,aqP,P,Frb,Fsl,FF,at6,rfl⟩
 case round =>
  clear Frb Fsl FF at6 P aqP;obtain⟨t0,t1,t2,b,Vo,rfl,L,H,yR,G,Z,J,ZU,htm⟩:=hrel;have JO:=aj H;have ED:=aj yR;have s:=aj G;have L9:=aj Z;have F:=aj J;have EK:=aj ZU;have C:=aj htm;have Jo:=G.lt;obtain⟨aw,aqQ,ew,_,hWc,_⟩:=yR;subst ew;clear H G Z J ZU htm;by_cases hg:gk=0
  case neg =>
   obtain⟨j,hj⟩:∃j,j+gk=3:=⟨3-gk,by omega⟩;rw[show 3-gk=j by omega];obtain⟨ky,tt,up,q0,pt,dY,Ju⟩:∃(ky:LB) (tt:Int) (up:Int->Int × Int × Int),zC wr bw j (zT ky)/\zC wr w.heap.size (2+j) (zI tt)/\(nO 3 (-1,-1,-1) t=if decide (1<b.length)&&(b.getD 0 []==ky) then
    (if decide (iR (b.getD 1 [])<0) then none else nO (gk-1) (up (iR (b.getD 1 []))) (b.drop 2)) else nO (gk-1) (t0,t1,t2) b)/\∀n:Int,qz (wr.setCell (zB w.heap.size (2+j)) (zI n)) w.heap.size ⟨f,ek,(up n).1,(up n).2.1,(up n).2.2,zN,false,zN,d,0⟩:=by
    rcases(show gk=3\/gk=2\/gk=1 by omega) with rfl|rfl|rfl
    .obtain rfl:j=0:=by omega
     exact⟨Az,t0,λn=>(n,t1,t2),by simp[World.cell?,EK.o],s.o.cell 2,by rw[<-C.o];rfl,λn=>s.o.set 2 _ ⟨f,ek,n,t1,t2,zN,false,zN,d,0⟩ rfl⟩
    .obtain rfl:j=1:=by omega
     exact⟨vQ,t1,λn=>(t0,n,t2),by simp[World.cell?,EK.o],s.o.cell 3,by rw[<-C.o];rfl,λn=>s.o.set 3 _ ⟨f,ek,t0,n,t2,zN,false,zN,d,0⟩ rfl⟩
    obtain rfl:j=2:=by omega
    exact⟨rW,t2,λn=>(t0,t1,n),by simp[World.cell?,EK.o],s.o.cell 4,by rw[<-C.o];rfl,λn=>s.o.set 4 _ ⟨f,ek,t0,t1,n,zN,false,zN,d,0⟩ rfl⟩
   have pf:=s.o.fz (2+j);have dw:=aj dY;have HS:=aj Ju;have xg:j<3:=by omega
   have HJ:Z_ (3-(gk-1)=j+1):=by show _=_;omega
   clear dY Ju C;by_cases z:1<b.length
   case neg =>
    have gJ:=aBb 1 b.length (by omega);have Hx:Z_ (nO (gk-1) (t0,t1,t2) b=nO 3 (-1,-1,-1) t):=by show _=_;rw[dw.o,a0f z];rfl
    go_wp2;go_quiet (fail);go_wp2;go_roundg (gk-1);case measure=>omega
    case rel=>exact⟨t0,t1,t2,b,by omega,by rw[HJ.o];go_num,L,JO,ED,s,L9,F.o.drewN _,EK,Hx⟩
   case pos =>
   have gJ:=decLt 1 b.length (by omega);obtain⟨g,off,ha,hgb,_,_,aO⟩:=ED.o.Ay (by omega);subst ha;have d0:=aO 0 (by omega);have d1:=aO 1 (by omega);have Xr:=World.block_lt_of_cell? i _ d1;have c0:zC wr g off (zT (b.getD 0 [])):=(F.o.cell (p:=(zB g off)) Xr (by simp;omega)).trans d0;have c1:zC wr g (off+1) (zT (b.getD 1 [])):=(F.o.cell (p:=(zB g (off+1))) Xr (by simp;omega)).trans d1;have aqO:(b.getD 1 []).length<=100000:=JO.o _ (by rw[a0x,a0a z];exact a0u _);have JM:=aj (ED.o.drop2 2 (by omega));clear aO d0 d1;generalize b.getD 0 []=y0 at *;generalize b.getD 1 []=y1 at *;cases hy:(y0==ky)
   case false =>
    have Hx:Z_ (nO (gk-1) (t0,t1,t2) b=nO 3 (-1,-1,-1) t):=by show _=_;rw[dw.o,hy];simp
    go_wp2;go_quiet (fail);go_wp2;go_roundg (gk-1);case measure=>omega
    case rel=>exact⟨t0,t1,t2,b,by omega,by rw[HJ.o];go_num,L,JO,ED,s,L9,F.o.drewN _,EK,Hx⟩
   case true =>
   have qK:Z_ (nO 3 (-1,-1,-1) t=if decide (iR y1<0) then none else nO (gk-1) (up (iR y1)) (b.drop 2)):=by
    show _=_;rw[dw.o,hy,a0g z];rfl
   generalize hnn:iR y1=nn at *;by_cases AV:nn<0
   .have Lp:decide (nn<0)=true:=a0g AV;have u:Z_ (yY l=none):=by show _=_;rw[IG.o];unfold rtT;rw[qK.o,Lp];rfl
    go_wp2;go_quiet (fail);go_wp2_with fail;go_region_with (go_at_call 66;refine(mW y1 _ (by omega)).mono ?_;rintro e w' ⟨rfl,rfl⟩;rw[hnn]);go_wp2;go_ret2;exact Fin.o _ _ _ u.o rfl (U.o.new ((F.o.drewN _).setCell (by simp) _) (by simp))
   have Lp:decide (nn<0)=false:=a0f AV;have Hx:Z_ (nO (gk-1) (up nn) (b.drop 2)=nO 3 (-1,-1,-1) t):=by
    show _=_;rw[qK.o,Lp];rfl
   by_cases oN:aqQ=2;all_goals
    go_wp2;go_quiet (fail);go_wp2_with fail;go_region_with (go_at_call 66;refine(mW y1 _ (by omega)).mono ?_;rintro e w' ⟨rfl,rfl⟩;rw[hnn]);go_wp2;go_roundg (gk-1);case measure=>omega
    case rel=>exact⟨_,_,_,b.drop 2,by omega,by rw[HJ.o];go_num,by simp;omega,λx D=>JO.o x (a1f D),by first | exact JM.o|exact RS.axy (by omega) rfl,HS.o nn,(L9.o.aC (S:=[w.heap.size]) (((aB.refl [w.heap.size] wr).drewN _).setCell (p:=(zB w.heap.size (2+j))) (by simp) (zI nn)) (by simp;omega)),(F.o.drewN _).setCell (by simp) _,(((aB.refl [w.heap.size] wr).setCell (p:=(zB w.heap.size (2+j))) (by simp) (zI nn)).block bw (a0c.1 EK).1 (by simp;omega)).trans EK,Hx⟩
  case pos =>
   subst hg;have HR6:Z_ (yY l=if (dO (b.length+1) b []).2.2 then some ⟨f,told,names,t0,t1,t2,(dO (b.length+1) b []).1,(dO (b.length+1) b []).2.1,d⟩ else none):=by
    show _=_;rw[IG.o];unfold rtT;rw[<-C.o];rfl
   clear IG;have aw8:=aj (ED.o.aC F.o (by simp));go_wp2_with fail;refine(ano w.heap.size (w.heap.size+1) _ b ⟨f,ek,t0,t1,t2,zN,false,zN,d,0⟩ wr s.o aw8.o (by omega) rfl rfl (by omega) JO).mono ?_;rintro e w' ⟨rfl,⟨vi',E4,hi'⟩,hf'⟩;have Hb':=aj E4;have Hi':=aj hi';have F':=aj hf';have hzr:w.heap.size<=wr.heap.size:=by omega
   clear E4 hi' hf';generalize dO (b.length+1) b []=RES at *;obtain⟨ra,ro,rk⟩:=RES;go_wp2;go_ret2;have hF:aB [] w w':=U.o.new (F.o.trans F') (by simp);refine⟨?_,hF⟩;rw[HR6.o];cases rk with
   | false=>exact⟨_,rfl⟩
   | true=>exact⟨w.heap.size,_,a0b _,rfl,⟨Hb',rfl,wQ (L9.o.aC F'.o (by simp;omega)) (by omega),rfl,rfl,rfl,wQ Hi'.o hzr,rfl,rfl,rfl,rfl⟩⟩
end
section
variable {ops:Array Oper} {rest:List Oper} {a:Act} {w w':World} {x y:Value} {n:Nat} {α:Type}
def alX:(Tryz.prog.info? 72).map (λi=>(i.zero,i.size,i.bytes))=some (some (.pointer none),1,8):=by kernel_rfl
def abH {o} {Q:Exit->Act->World->Prop}(w)(f:o.guard=none)(s x)
 (ho:o.op=.call { callee:=.builtin .append,args:=#[s,x],argTypes:=#[73,73] })
 (base v B b b1) (k:a.eval s=v) (y:LP base w v B) (c:a.eval x=zS b1 1 1)
 (m:zC w b1 0 (tC b)) (hlen:B.length<=1048576) (e:base<=w.heap.size)
 (h:∀g cap w',LP base w' (zS g (B.length+1) cap) (B++[b])->w.grownBy w' v.ownBlock->(v.ownBlock=some g\/g=w.heap.size)->wpList Tryz.prog ops Q rest (a.put o.dst (zS g (B.length+1) cap)) w') :
 wpList Tryz.prog ops Q (o::rest) a w:=by
 obtain⟨i,l,gT,t,r⟩:=info_parts alX;refine wpList_append_lies w f s x 73 ho base 72 i (.pointer none) 1 8 Tryz.underlying73 l gT t r rfl (by decide) v B.length (B.map tC) k y (zA b1) 1 1 [tC b] c rfl ?_ (λx c=>by simp at c;subst c;rfl) (by decide) (by unfold maxLen;omega) (by omega) e w.heap.size rfl ?_
 .intro j u d;have:j=0:=by
   cases j with
   | zero=>rfl
   | succ j=>simp at d
  subst this;rw[add0];simp at d;rw[<-d];omega
 intro g cap w' q p n z;exact h g cap w' (by unfold LP;simpa using q) p n
def grE(cb:Nat)(f:Nat × Nat):Ending:=zQ #[if f.1=0 then tC cb else .pointer none,zI f.1,zI f.2]
def aeg(L R n)(h:uJ R=n)(a:n≠0):xh L R=(3,n):=by unfold xh;rw[h,a0m a]
def aqR(L R)(h:uJ R=0)(hd:mq [] L=true):xh L R=(4,1):=by unfold xh;rw[h,a0n (by simp),a0m hd]
def anM(L R n)(h:uJ R=0)(hd:mq [] L=false)(a:lN L R 0=n)(b:n≠0):xh L R=(4,n):=by unfold xh;rw[h,a0n (by simp),hd,a,a0m b];rfl
def asI(L R)(h:uJ R=0)(hd:mq [] L=false)(a:lN L R 0=0):xh L R=(0,0):=by unfold xh;rw[h,a0n (by simp),hd,a];rfl
theorem abI(R)(h:0<R.length):uJ R=pX R 0 0:=by
 unfold uJ;cases R with
 | nil=>simp at h
 | cons=>rfl
theorem Xt {X:List (Nat × iY × RR)} {j x}(h:X[j]?=some x):sD (xd (X.take (j+1)))=IM (sD (xd (X.take j))) (x.1,x.2.2.d):=by unfold sD xd;rw[a1c,h];simp
def GP(w:World)(cb:Nat)(vr a:Value)(L:List LB)(X:List (Nat × iY × RR))(e:Ending)(w':World):Prop :=
 e=grE cb (xh L (X.map (·.2.2)))/\aB (cb::X.map (·.1)) w w'/\((xh L (X.map (·.2.2))).1=0->∃K:Nat->Value,sw w' cb vr (tC ((X.map (·.1)).getD 0 0)) a/\(∀x∈X,qz w' x.1 { x.2.1 with vk:=K x.1 })/\∀x∈X,LP w.heap.size w' (K x.1) ((sD (xd X)).2 x.1))
def GP.bad {cb vr b L X e l}(h:xh L (X.map (·.2.2))=(n+1,l))(he:e=grE cb (n+1,l))(c:aB (cb::X.map (·.1)) w w'):GP w cb vr b L X e w' :=
 ⟨by rw[h];omega,c,λa=>by rw[h]at a;omega⟩
theorem afR:∀(L:List LB) x j,(∃k,L.findIdx? (·==x)=some k/\k<j)↔x∈L.take j
 | [],x,j=>by simp
 | y::L,x,0=>by simp
 | y::L,x,j+1=>by
   rw[List.findIdx?_cons,a2J];by_cases h:(y==x)=true
   .rw[a0m h];have:y=x:=by simpa using h
    subst this;simp
   rw[a0n h];have c:x≠y:=λe=>h (by simp[e]);rw[a0l,<-afR L x j];constructor
   .rintro⟨k,a,d⟩;cases hh:L.findIdx? (·==x) with
    | none=>simp[hh]at a
    | some b=>simp[hh]at a;exact .inr ⟨b,rfl,by omega⟩
   rintro(e|⟨k,a,d⟩)
   .exact(c e).elim
   exact⟨k+1,by simp[a],by omega⟩
theorem anN(L)(j:Nat)(x)(a:x∈L):decide (oI L x<(j:Int))=(L.take j).contains x:=by
 have h:=afR L x j;rw[a0T,a1E,List.contains_iff_mem,<-h];unfold oI;cases hh:L.findIdx? (·==x) with
 | none=>have:=a2C.1 hh x a;simp at this
 | some k=>simp
theorem anO(L x):decide (oI L x<0)=!(L.contains x):=by
 have h:=afR L x L.length;rw[a2h]at h;unfold oI;cases hh:L.findIdx? (·==x) with
 | none =>
   have:x∉L:=λb=>by obtain⟨k,a,_⟩:=h.2 b;rw[hh]at a;simp at a
   simp[this]
 | some k =>
   have a:k<L.length:=by have:=(List.findIdx?_eq_some_iff_findIdx_eq.1 hh).1;omega
   have:=h.1 ⟨k,hh,a⟩;simp[this]
def aqS {o} {Q:Exit->Act->World->Prop}(w)(f:o.guard=none)(s x)
 (ho:o.op=.call { callee:=.builtin .append,args:=#[s,x],argTypes:=#[73,73] })
 (base v n xs b b1) (k:a.eval s=v) (z:w.ownsRow base 72 1 v n xs) (c:a.eval x=zS b1 1 1)
 (m:zC w b1 0 (tC b)) (hlen:n<=1048576) (e:base<=w.heap.size)
 (h:∀g cap w',w'.ownsRow base 72 1 (zS g (n+1) cap) (n+1) (xs++[tC b])->w.grownBy w' v.ownBlock->(v.ownBlock=some g\/g=w.heap.size)->wpList Tryz.prog ops Q rest (a.put o.dst (zS g (n+1) cap)) w') :
 wpList Tryz.prog ops Q (o::rest) a w:=by
 obtain⟨i,l,gT,y,t⟩:=info_parts alX;refine wpList_append_lies w f s x 73 ho base 72 i (.pointer none) 1 8 Tryz.underlying73 l gT y t rfl (by decide) v n xs k z (zA b1) 1 1 [tC b] c rfl ?_ (λx c=>by simp at c;subst c;rfl) (by decide) (by unfold maxLen;omega) (by omega) e w.heap.size rfl ?_
 .intro j u d;have:j=0:=by
   cases j with
   | zero=>rfl
   | succ j=>simp at d
  subst this;rw[add0];simp at d;rw[<-d];omega
 intro g cap w' r q p A;exact h g cap w' r q p
def Ja(w:World)(v t n)(h:w.heap.size=n):zC (w.alloc (.cells #[v] t)) n 0 v:=by subst h;simp
theorem uN(w:World)(a v):(w.setCell a v).heap.size=w.heap.size:=by simp[World.setCell]
def sw.set1 {b z}(h:sw w b x y z)(v):sw (w.setCell (zB b 1) v) b x v z:=by unfold sw at *;simp[World.setCell,a0v,h]
def LP.some {base:Nat} {a:Option Addr}{cap:Nat} {B:LN}(h:LP base w (.slice a n cap) B)(d:0<B.length):∃g,a=some (zA g)/\n=B.length/\B.length<=cap:=by
 rcases h.2 with⟨_,e⟩|⟨g,c,cur,e,_,_,b,_⟩
 .omega
 simp at e;obtain⟨rfl,rfl,rfl⟩:=e;exact⟨g,rfl,rfl,b⟩
def aky(cb base:Nat)(vr vl:Value)(L:List LB)(X:List (Nat × iY × RR))(w:World)(hc:sw w cb vr (.pointer none) vl)
 (hs:∀w',aB (cb::X.map (·.1)) w w'->RS 0 w' vr L/\LP base w' vl (X.map (·.1)))
 (A:∀x∈X,Dq base w x.1 x.2.1 x.2.2/\x.2.1.vk=zN) (R:∀(i:Nat) x,X[i]?=some x->x.2.1.row=(i:Int)+2) (hcx:∀x∈X,x.1≠cb) (qH:(X.map (·.1)).Nodup) (hL:L.length<=9000) (hX:X.length<=9000) (qd:∀x∈X,x.2.2.d<=9000) :
 zF 51 #[tC cb] w (GP w cb vr vl L X):=by
 have Bh:=aT;have k45:({ data:=#[45] }:ByteArray).toList=[45]:=aT _;have Hc:=aj hc;have Hs:=aj hs;have Hx:=aj A;have alR:=aj R;have Hcx:=aj hcx;have Hdd:=aj qd;have uA:=hc.lt;have G0:GI w w cb X (λ_=>zN) (λ_=>[]) [] zN 0:=by
  refine⟨λx A=>(Hx.o x A).1.at_.lt,λx A=>?_,λx A=>⟨a0b _,World.ownsRow_nil _ _ _ _⟩,by simp[Value.ownBlock],by simp[Value.ownBlock],World.ownsRow_nil _ _ _ _,by simp,aB.refl _ _⟩;have T:=(Hx.o x A).1.at_;have h2:=(Hx.o x A).2;rw[show({ x.2.1 with vk:=zN }:iY)=x.2.1 by rw[<-h2]];exact T
 have HG0:=aj G0;obtain⟨b0,kM⟩:∃b0,(X.map (·.1)).getD 0 0=b0:=⟨_,rfl⟩;have uh:=aj kM;clear kM;obtain⟨⟨ar,cr,hvr,-,rP,-⟩,Vz⟩:=hs w (aB.refl _ _);obtain⟨al,cl,Af⟩:=aW Vz;rw[a0y]at Af;subst hvr Af;clear hc hs A R hcx qd G0 Vz qH;show zF 51 #[zP cb] w _;delta zF;go_in;go_wp2_with fail;go_loopg [5,6] X.length (λk vw vi wr=>∃(j:Nat) (K:Nat->Value) (C:Nat->LN) (B:LN) (vt:Value),j+k=X.length/\vi=zI j/\(∃aw cw,vw=.slice aw B.length cw)/\GI w wr cb X K C B vw j/\sD (xd (X.take j))=(B,C)/\sw wr cb (.slice ar L.length cr) vt (.slice al X.length cl)/\(j=0->vt=.pointer none/\vw=zN)/\(0<j->vt=zP b0)/\pX ((X.map (·.2.2)).drop j) j B.length=pX (X.map (·.2.2)) 0 0);case atStart=>exact⟨0,_,_,[],_,by omega,rfl,⟨_,_,rfl⟩,HG0,rfl,Hc,λ_=>⟨rfl,rfl⟩,λh=>by omega,by simp⟩
 case round =>
 obtain⟨j,K,C,B,vt,lU,Io,⟨aw,cw,s⟩,YI,XL,F,h0,T,z⟩:=hrel;subst Io s;clear HG0 Hc;have d:=aj YI;have HBC:=aj XL;clear XL;have P:=aj F;have H0:=aj h0;have H1:=aj T;have u:=aj z;have hzr:=YI.aC.size;have hcw:=F.lt;have O:=(Hs.o _ YI.aC).2;have c0:zC wr cb 0 (.slice ar L.length cr):=F.cell 0;have c1:zC wr cb 1 vt:=F.cell 1;have c2:zC wr cb 2 (.slice al X.length cl):=F.cell 2;have f1:=F.fz 1;by_cases aL:j<X.length
 .obtain⟨m,rfl⟩:∃m,gk=m+1:=⟨gk-1,by omega⟩;have gJ:=decLt j X.length (by omega);obtain⟨gl,ja,-,Z⟩:=O.some (by simp;omega);subst ja;rw[a0y]at Z;have cj:zC wr gl j (tC X[j].1):=by
   have:=O.cell j (by simpa using aL);simpa using this
  have D:X[j]∈X:=a0u aL;have hq:=(Hx.o _ D).1;have R:=alR.o j _ (a0a aL);have r:=YI.rb _ D;have jP:=Hdd.o _ D;have f:Z_ (pX (X.map (·.2.2)) 0 0=if (!(uX j X[j].2.2)&&!(qY j B.length X[j].2.2))||decide (5<X[j].2.2.d)||decide (16<=j) then j+2 else pX ((X.map (·.2.2)).drop (j+1)) (j+1) (X[j].2.2.d+1)):=by
   show _=_;have e:(X.map (·.2.2)).drop j=X[j].2.2::(X.map (·.2.2)).drop (j+1):=by
    rw[a0k (by simpa using aL)];simp
   rw[<-u.o,e];conv=>lhs;unfold pX
  have hTF:Z_ (uJ (X.map (·.2.2))=pX (X.map (·.2.2)) 0 0):=abI _ (by simp;omega);generalize H:X[j]=x at *;have HXj:=aj H;clear YI F h0 T z O H;obtain⟨b,⟨t,ek,vt0,vt1,vt2,iJ,YJ,vk,vd,alY⟩,⟨rc,told,names,t0,t1,t2,ifs,on,c⟩⟩:=x;obtain⟨-,e1,-,-,-,-,G,e2,e3⟩:=hq;simp only at e1 e2 e3 R r G jP;subst e1 e2 e3 R;obtain⟨ai,ci,aw9⟩:=aW G;subst aw9;clear G;have uW:=aj r;have jE:b<w.heap.size:=d.o.lt _ D;have d0:zC wr b 0 (zT t):=r.cell 0;have d5:zC wr b 5 (.slice ai ifs.length ci):=r.cell 5;have d6:zC wr b 6 (.bool YJ):=r.cell 6;have d8:zC wr b 8 (zI (c:Int)):=r.cell 8;have d9:zC wr b 9 (zI ((j:Int)+2)):=r.cell 9;unfold tC at cj;clear r;have g:Z_ ((((!(uX j ⟨t,told,names,t0,t1,t2,ifs,YJ,c⟩)&&!(qY j B.length ⟨t,told,names,t0,t1,t2,ifs,YJ,c⟩))||decide (5<c)||decide (16<=j))=true)->xh L (X.map (·.2.2))=(3,j+2)):=by
   intro hh;refine aeg _ _ _ ?_ (by omega);rw[hTF.o,f.o];exact a0m hh
  have HN:Z_ ((((!(uX j ⟨t,told,names,t0,t1,t2,ifs,YJ,c⟩)&&!(qY j B.length ⟨t,told,names,t0,t1,t2,ifs,YJ,c⟩))||decide (5<c)||decide (16<=j))=false)->pX ((X.map (·.2.2)).drop (j+1)) (j+1) (c+1)=pX (X.map (·.2.2)) 0 0):=by
   intro hh;rw[f.o];exact(a0n (by simp only[hh];simp)).symm
  clear f hTF;by_cases E:j=0
  .have j1:((j:Int)==0)=true:=by simp[E]
   have j2:=aBb 0 j (by omega);have j3:=aBc 16 j (by omega);have q:=aj E;have j4:j<=0:=by omega
   clear E;cases g1:((c:Int)==0)
   .have n1:(c==0)=false:=a0j.2 (by intro e;subst e;simp at g1);have Hn1:=aj n1;clear n1;go_wp2_with fail;go_quiet (fail);go_wp2;go_ret3;exact GP.bad (g.o (by simp[uX,qY,q.o,Hn1.o])) (by simp[grE]) (d.o.aC.drewN _)
   have dn0:c=0:=by simpa using g1
   subst dn0;clear g1;cases I:((ifs.length:Int)==0)
   .have n1:Z_ (ifs.isEmpty=false):=by
     show _=_;cases ifs with
     | nil=>simp at I
     | cons=>rfl
    go_wp2_with fail;go_quiet (fail);go_wp2;go_ret3;exact GP.bad (g.o (by simp[uX,qY,q.o,n1.o])) (by simp[grE]) (d.o.aC.drewN _)
   have n2:Z_ (ifs.isEmpty=true):=by
    show _=_;cases ifs with
    | nil=>rfl
    | cons=>simp at I;omega
   cases YJ
   case true =>
    go_wp2_with fail;go_quiet (fail);go_wp2;go_ret3;exact GP.bad (g.o (by simp[uX,qY,q.o])) (by simp[grE]) (d.o.aC.drewN _)
   cases g4:(t == [45])
   case true =>
    go_wp2_with fail;go_quiet (fail);go_wp2;go_ret3;exact GP.bad (g.o (by simp[uX,qY,q.o,g4])) (by simp[grE]) (d.o.aC.drewN _)
   obtain⟨V,s⟩:=H0.o q;simp only[Value.slice.injEq]at s;obtain⟨haw,Av,axa⟩:=s;subst haw axa V;have hBn:B=[]:=a0S Av;subst hBn;have jV:=HN.o (by simp[uX,q.o,n2.o,g4]);have HX2:=aj jV;clear jV;have aqT:Z_ (sD (xd (X.take (j+1)))=([b],C)):=by
    show _=_;rw[Xt (a0a aL),HXj.o,HBC.o];rfl
   have HBb:Z_ (b0=b):=by
    show _=_;have T:=HXj.o;have h2:=q.o;subst h2;rw[<-uh.o,a0x,a0Q,a0a aL,T];rfl
   have PH:b<wr.heap.size:=by omega
   have bJ:cb≠b:=λe=>(Hcx.o _ D) e.symm;go_wp2_with (first | (at_builtin;refine abH _ rfl _ _ rfl w.heap.size zN [] b wr.heap.size rfl (World.ownsRow_nil _ _ _ _) rfl (Ja _ _ _ _ (uN _ _ _)) (by simp) (by simp;omega) ?_;intro I aU w2 qj iM jR));go_roundg m;case measure=>omega
   case rel =>
    have G1:=((d.o.root uA Hcx.o (zP b)).TF ((aB.refl _ _).alloc (Obj.cells #[zP b] 72))).ahS ⟨_,D,rfl⟩ iM qj jR;exact⟨j+1,K,C,[b],zP b,by omega,by go_num,⟨_,_,rfl⟩,G1.up,aqT,((P.o.set1 _).aC (S:=[]) ((aB.refl _ _).alloc _) (by simp)).aC (S:=[]) (aB.fo iM) (by simp),λh=>by omega,λ_=>by rw[HBb.o],HX2⟩
  have j1:((j:Int)==0)=false:=a0j.2 (by omega);have j2:=decLt 0 j (by omega);by_cases g1:0<c
  case neg =>
   have g1':=aBb 0 c (by omega);go_wp2_with fail;go_quiet (fail);go_wp2;go_ret3;exact GP.bad (g.o (by simp[uX,qY,E,g1])) (by simp[grE]) (d.o.aC.drewN _)
  have g1':=decLt 0 c (by omega);by_cases I:c<=B.length
  case neg =>
   have g2':=aBc c B.length (by omega);go_wp2_with fail;go_quiet (fail);go_wp2;go_ret3;exact GP.bad (g.o (by simp[uX,qY,E,I])) (by simp[grE]) (d.o.aC.drewN _)
  have g2':=decLe c B.length (by omega);by_cases g3:5<c
  case pos =>
   have g3':=decLt 5 c (by omega);go_wp2_with fail;go_quiet (fail);go_wp2;go_ret3;exact GP.bad (g.o (by simp[g3])) (by simp[grE]) (d.o.aC.drewN _)
  have g3':=aBb 5 c (by omega);by_cases g4:16<=j
  case pos =>
   have g4':=decLe 16 j (by omega);go_wp2_with fail;go_quiet (fail);go_wp2;go_ret3;exact GP.bad (g.o (by simp[g4])) (by simp[grE]) (d.o.aC.drewN _)
  have g4':=aBc 16 j (by omega);obtain⟨gw,haw,-,hBc⟩:=d.o.way.some (by omega);subst haw;obtain⟨d1,axb⟩:∃d1,c=d1+1:=⟨c-1,by omega⟩;subst axb;have hB1:d1<B.length:=by omega
  have cu:zC wr gw d1 (tC B[d1]):=LP.cell d.o.way d1 hB1;obtain⟨⟨bu,vu,ru⟩,v,U⟩:=d.o.abp _ (a0u hB1);simp only at U;have aqT:Z_ (sD (xd (X.take (j+1)))=(B.take (d1+1)++[b],λk=>if k=bu then C k++[b] else C k)):=by
   show _=_;have iE:(B.take (d1+1)).getLast?=some bu:=by
    rw[List.getLast?_eq_getElem?,a1k,a2n (by omega),List.getElem?_take];simp[a0a hB1,U]
   rw[Xt (a0a aL),HXj.o,HBC.o];simp only[IM,iE]
  generalize B[d1]=bu' at *;subst U;have HGc:=aj (d.o.cut (d1+1) I);have hB':(B.take (d1+1)).length=d1+1:=by rw[a1k];omega
  obtain⟨Y,jk⟩:=d.o.Oe _ v;simp only at jk Y;unfold LP at jk;obtain⟨y,M⟩:∃y,y=(C bu).length:=⟨_,rfl⟩;obtain⟨xk,aqU⟩:∃xk,xk=(C bu).map tC:=⟨_,rfl⟩;rw[<-M,<-aqU]at jk;rw[<-M]at Y;have axc:=aj M;have axd:=aj aqU;clear M aqU;obtain⟨ak,ck,Uc⟩:=aW jk;have W:=d.o.rb _ v;have e7:zC wr bu 7 (.slice ak y ck):=(W.cell 7).trans (by rw[<-Uc];rfl);have z7:wr.frozen? (zB bu 7)=false:=W.fz 7;have hbu:bu<w.heap.size:=d.o.lt _ v;have Hok:Z_ (wr.ownsRow w.heap.size 72 1 (.slice ak y ck) y xk):=by
   show World.ownsRow _ _ _ _ _ _ _;rw[<-Uc];exact jk
  have Hvk:=aj Uc;have hdm:((d1+1:Nat):Int)-1=(d1:Int):=by omega
  have Hgw:Z_ (w.heap.size<=gw):=(d.o.way.lt gw rfl).1;have PH:b<wr.heap.size:=by omega
  have Hne:Z_ (cb≠bu):=λe=>(Hcx.o _ v) e.symm;have jV:=HN.o (by simp[uX,qY,E,I,g3,g4,j2];omega);have HX2:=aj jV;clear jV Uc W jk;generalize B.take (d1+1)=B' at *;unfold tC at cu;have ag:Value.ownBlock (.slice ak y ck)≠some bu:=λe=>by have:=Hok.o.lt _ e;omega
  go_wp2_with (first | (at_builtin;refine aqS _ rfl _ _ rfl w.heap.size (.slice ak y ck) y xk b wr.heap.size rfl (Hok.o.alloc _) rfl (Ja _ _ _ _ rfl) (by omega) (by simp;omega) ?_;intro gg aU w4 bT aH bq;have e8:zC w4 bu 7 (.slice ak y ck):=(aH.cell_far (zB bu 7) (by simp;omega) (Ne.symm ag)).trans ((((aB.refl [] wr).alloc _).cell (p:=(zB bu 7)) (by simp;omega) (by simp)).trans e7);have z8:=(aH.frozen_far (zB bu 7) (by simp;omega) (Ne.symm ag)).trans (((aB.refl [] wr).alloc _).frozen (p:=(zB bu 7)) (by simp;omega) (by simp));rw[z7]at z8;have HO:=aj aH;have HO4:=aj bT;have Hat:=aj bq;have Yl:=aH.size;simp at Yl;have QO:=aj ((HGc.o.TF ((aB.refl _ _).alloc _)).aqk v Y axc.o (b:=b) (by rw[axd.o];simp[tC]) (by rw[Hvk.o];exact aH) bT (by rw[Hvk.o];exact bq));clear aH bT bq)|(at_builtin;refine abH _ rfl _ _ rfl w.heap.size (zS gw (d1+1) cw) B' b w4.heap.size rfl ((QO.o.TF ((aB.refl _ _).alloc _)).way) rfl (Ja _ _ _ _ (uN _ _ _)) (by omega) (by simp;omega) ?_;intro I ac9 w5 hs5 Vy hb5));go_roundg m;case measure=>omega
  case rel =>
   have G1:=(QO.o.TF ((aB.refl _ _).alloc (Obj.cells #[zP b] 72))).ahS ⟨_,D,rfl⟩ Vy hs5 hb5;have hp:=H1.o (by omega);refine⟨j+1,_,_,B'++[b],vt,by omega,by go_num,⟨some (zA I),ac9,by simp[hB']⟩,by rw[hB']at G1;exact G1,aqT,?_,λh=>by omega,λ_=>hp,?_⟩
   .have C4:sw w4 cb (.slice ar L.length cr) vt (zS gl X.length cl):=(P.o.aC (S:=[]) ((aB.refl _ _).alloc _) (by simp)).aC (aB.fo HO) (by rw[a0H];intro e;have:=Hok.o.lt _ e;omega);have C5:=C4.aC (S:=[bu]) (((aB.refl _ _).setCell (p:=(zB bu 7)) (by simp) (zS gg (y+1) aU)).alloc (Obj.cells #[zP b] 72)) (by simpa using Hne.o);exact C5.aC (aB.fo Vy) (by simp[Value.ownBlock];have:=Hgw.o;omega)
   rw[a0p,hB'];exact HX2
 have gJ:=aBb j X.length (by omega);have hjX:j=X.length:=by omega
 have IU:pX (X.map (·.2.2)) 0 0=0:=by
  rw[<-u.o,a0i (by simp;omega)];rfl
 clear O u;by_cases hX0:X.length=0
 .have E:j=0:=by omega
  obtain⟨V,s⟩:=H0.o E;subst V;have g:Z_ (xh L (X.map (·.2.2))=(3,2)):=by
   refine aeg _ _ _ ?_ (by omega);have:X=[]:=a0S hX0;rw[this];rfl
  clear hX0 E hjX s IU YI F h0 T z;go_wp2;go_ret3;exact GP.bad (g.o) (by simp[grE]) (d.o.aC)
 have hp:=H1.o (by omega);subst hp;have HBX:Z_ ((sD (xd X)).2=C):=by
  show _=_;have:=HBC.o;rw[a0C (by omega)]at this;rw[this]
 have HT:Z_ (uJ (X.map (·.2.2))=0):=by
  show _=_;rw[abI _ (by simp;omega)];exact IU
 clear IU YI F h0 T z H0 H1;obtain⟨wl,JW⟩:∃wl,wl=wr:=⟨_,rfl⟩;subst JW;go_wp2_with fail;go_loopg [13] L.length (λk vi wq=>∃(i:Nat),i+k=L.length/\vi=zI i/\mq (L.take i) (L.drop i)=mq [] L/\aB [] wl wq);case atStart=>exact⟨0,by omega,rfl,by simp,aB.refl _ _⟩
 case round =>
 obtain⟨i,Ku,Io,z,J⟩:=hrel;subst Io;have u:=aj z;have NJ:=aj J;have Pd:=aj (P.o.aC J (by simp));have c0':zC wr cb 0 (.slice ar L.length cr):=Pd.o.cell 0;have su:=aj (Hs.o _ (d.o.aC.trans J.nil)).1;clear z J;by_cases G:i<L.length
 .obtain⟨m,rfl⟩:∃m,gk=m+1:=⟨gk-1,by omega⟩;have ll:=decLt i L.length (by omega);obtain⟨ga,oa,har,-,-,-,aO⟩:=su.o.Ay (by omega);subst har;have ci:zC wr ga (oa+i) (.string (bs L[i])):=by
   have:=aO i G;rwa [a0x,a0a G]at this
  have f:Z_ (mq [] L=if decide (oI L L[i]<(i:Int)) then true else mq (L.take (i+1)) (L.drop (i+1))):=by
   show _=_;rw[<-u.o,a0k G,anN _ _ _ (a0u G)];conv=>lhs;unfold mq
   rw[a0F G]
  clear aO u;generalize L[i]=n at *;by_cases hk:oI L n<(i:Int)
  .have g:Z_ (xh L (X.map (·.2.2))=(4,1)):=aqR _ _ HT.o (by rw[f.o,a0g hk];rfl);clear f;go_wp2_with fail;go_region_with (go_at_call 68;refine(wh _ L n wr.drew (by exact su)).mono ?_;rintro e w' ⟨rfl,rfl⟩);all_goals
    go_wp2_with fail;go_ret3;exact GP.bad g.o (by simp[grE]) (d.o.aC.trans (NJ.o.drew).nil)
  have Hn:Z_ (mq (L.take (i+1)) (L.drop (i+1))=mq [] L):=by show _=_;rw[f.o,a0f hk];rfl
  clear f;go_wp2_with fail;go_region_with (go_at_call 68;refine(wh _ L n wr.drew (by exact su)).mono ?_;rintro e w' ⟨rfl,rfl⟩);all_goals
   go_wp2_with fail;go_roundg m;case measure=>omega
   case rel=>exact⟨i+1,by omega,by go_num,Hn,NJ.o.drew⟩
 have ll:=aBb i L.length (by omega);have HD:Z_ (mq [] L=false):=by
  show _=_;rw[<-u.o,a0i (by omega)];unfold mq;rfl
 have abK:=Pd;have axe:=aj (d.o.TF NJ);clear u Pd su P d NJ;obtain⟨wm,hwm⟩:∃wm,wm=wr:=⟨_,rfl⟩;subst hwm;go_wp2_with fail;go_loopg [15] X.length (λk vi wq=>∃(i:Nat),i+k=X.length/\vi=zI i/\lN L ((X.map (·.2.2)).drop i) i=lN L (X.map (·.2.2)) 0/\aB [] wm wq);case atStart=>exact⟨0,by omega,rfl,by simp,aB.refl _ _⟩
 case round =>
 obtain⟨a,ayM,Io,z,J⟩:=hrel;subst Io;have u:=aj z;have NJ:=aj J;have Pd:=aj (abK.o.aC J (by simp));have l:=aj (axe.o.TF J);have c2':zC wr cb 2 (.slice al X.length cl):=Pd.o.cell 2;have c3':zC wr cb 0 (.slice ar L.length cr):=Pd.o.cell 0;have su:=aj (Hs.o _ l.o.aC).1;have O:=(Hs.o _ l.o.aC).2;clear z J;by_cases N:a<X.length
 .obtain⟨m,rfl⟩:∃m,gk=m+1:=⟨gk-1,by omega⟩;have hd3:=decLt a X.length (by omega);obtain⟨gl,ja,-,Z⟩:=O.some (by simp;omega);subst ja;rw[a0y]at Z;have cj:zC wr gl a (tC X[a].1):=by
   have:=O.cell a (by simpa using N);simpa using this
  have D:X[a]∈X:=a0u N;have hq:=(Hx.o _ D).1;have R:=alR.o a _ (a0a N);have r:=l.o.rb _ D;have f:Z_ (lN L (X.map (·.2.2)) 0=if !(X[a].2.2.rc == [45])&&!(L.contains X[a].2.2.rc) then a+2 else lN L ((X.map (·.2.2)).drop (a+1)) (a+1)):=by
   show _=_;have e:(X.map (·.2.2)).drop a=X[a].2.2::(X.map (·.2.2)).drop (a+1):=by
    rw[a0k (by simpa using N)];simp
   rw[<-u.o,e];conv=>lhs;unfold lN
  generalize H:X[a]=x at *;clear H u O;obtain⟨b,⟨t,ek,vt0,vt1,vt2,iJ,YJ,vk,vd,alY⟩,⟨rc,told,names,t0,t1,t2,ifs,on,c⟩⟩:=x;obtain⟨-,e1,-,-,-,-,axf,e2,e3⟩:=hq;simp only at e1 e2 e3 R r;subst e1 e2 e3 R;simp only at f;clear axf;have d0:zC wr b 0 (zT t):=r.cell 0;have d9:zC wr b 9 (zI ((a:Int)+2)):=r.cell 9;unfold tC at cj;clear r;rw[<-anO]at f;cases g45:(t == [45])
  .by_cases hk:oI L t<0
   .have g:Z_ (xh L (X.map (·.2.2))=(4,a+2)):=anM _ _ _ HT.o HD.o (by rw[f.o,g45,a0g hk];rfl) (by omega);clear f;go_wp2_with fail;go_region_with (go_at_call 68;refine(wh _ L t wr.drew (by exact su)).mono ?_;rintro e w' ⟨rfl,rfl⟩);all_goals
     go_wp2_with fail;go_quiet (fail);go_wp2;go_ret3;exact GP.bad g.o (by simp[grE]) (l.o.aC.drew.drewN _)
   have Hn:Z_ (lN L ((X.map (·.2.2)).drop (a+1)) (a+1)=lN L (X.map (·.2.2)) 0):=by show _=_;rw[f.o,a0f hk];simp
   clear f;go_wp2_with fail;go_region_with (go_at_call 68;refine(wh _ L t wr.drew (by exact su)).mono ?_;rintro e w' ⟨rfl,rfl⟩);all_goals
    go_wp2_with fail;go_roundg m;case measure=>omega
    case rel=>exact⟨a+1,by omega,by go_num,Hn,NJ.o.drew⟩
  have Hn:Z_ (lN L ((X.map (·.2.2)).drop (a+1)) (a+1)=lN L (X.map (·.2.2)) 0):=by show _=_;rw[f.o,g45];simp
  clear f;go_wp2_with fail;go_region_with (go_at_call 68;refine(wh _ L t wr.drew (by exact su)).mono ?_;rintro e w' ⟨rfl,rfl⟩);all_goals
   go_wp2_with fail;go_roundg m;case measure=>omega
   case rel=>exact⟨a+1,by omega,by go_num,Hn,NJ.o.drew⟩
 have hd3:=aBb a X.length (by omega);have g:Z_ (xh L (X.map (·.2.2))=(0,0)):=asI _ _ HT.o HD.o (by rw[<-u.o,a0i (by simp;omega)];rfl);clear u O su;go_wp2;go_ret3;refine⟨?_,l.o.aC,λ_=>⟨K,by rw[uh.o];exact Pd,l.o.rb,λx A=>?_⟩⟩
 .rw[g.o];simp[grE,tC]
 have h2:=(l.o.Oe x A).2;rw[HBX.o];exact h2
def au8(l r)(h:yY l=some r):r.d<=l.length:=by
 have hd:=Kr l;unfold yY rtW at h;split at h
 .cases h
 split at h
 .cases h
 split at h
 .cases h
 split at h
 .cases h
 split at h
 .simp at h;subst h;omega
 cases h
def sw.set0 {b z}(h:sw w b x y z)(v):sw (w.setCell (zA b) v) b v y z:=by unfold sw at *;simp[World.setCell,a0v,h]
def sw.set2 {b z}(h:sw w b x y z)(v):sw (w.setCell (zB b 2) v) b x y v:=by unfold sw at *;simp[World.setCell,a0v,h]
def akz(t n)(a:¬ 1200<t.length)(h:sO (dU false 10 t) 0 [] []=.error n):sF t=.error (2,n):=by unfold sF;rw[a0n a,h]
def anP(t L R)(a:¬ 1200<t.length)(h:sO (dU false 10 t) 0 [] []=.ok (L,R)):sF t=if (xh L R).1=0 then .ok (L,R) else .error (xh L R):=by unfold sF;rw[a0n a,h]
def aqV(L R)(h:(xh L R).1=0):xh L R=(0,0):=by
 unfold xh at *;by_cases c:uJ R≠0
 .rw[a0m c]at h;omega
 rw[a0n c]at h |-;by_cases b:mq [] L=true
 .rw[a0m b]at h;omega
 rw[a0n b]at h |-;by_cases a:lN L R 0≠0
 .rw[a0m a]at h;omega
 rw[a0n a]
def anQ(t w)(ht:t.length<=1048576) :
 zF 30 #[zT t] w λe w'=>IQ w e w' (sF t)/\aB [] w w':=by
 have eG:=bL;have Bh:=aT;have k0:({ data:=#[] }:ByteArray).toList=[]:=aT _;have kR:({ data:=#[114,101,99,101,105,118,101,114,115] }:ByteArray).toList=mU:=aT _;delta zF;go_in;by_cases hl:1200<t.length
 .have Hp:Z_ (sF t=.error (1,0)):=by show _=_;unfold sF;rw[a0m hl]
  go_wp2;go_ret3;rw[Hp.o];exact⟨rfl,aB.refl _ _⟩
 have hl':t.length<=1200:=by omega
 have Hl:=aj hl;clear hl;go_wp2_with fail;refine(Lj _ 10 _ _ (by omega)).mono ?_;rintro e l ⟨v,rfl,hs,hf⟩;obtain⟨hWx,hWl,hW1⟩:=Lr false 10 t;have HE:Z_ (∀n,sO (dU false 10 t) 0 [] []=.error n->sF t=.error (2,n)):=λn h=>akz t n Hl.o h;have HK:Z_ (∀L R,sO (dU false 10 t) 0 [] []=.ok (L,R)->sF t=if (xh L R).1=0 then .ok (L,R) else .error (xh L R)):=λL R h=>anP _ _ _ Hl.o h;generalize dU false 10 t=W at *;generalize OJ:sO W 0 [] []=F at *;have alS:=aj OJ;clear OJ;obtain⟨aw,cw,rfl⟩:=hs.shape;obtain⟨n,_⟩:∃n,W.length=n+1:=⟨W.length-1,by omega⟩;obtain⟨gw,haw,_,_,_⟩:∃g,aw=some (zA g)/\w.heap.size<=g/\g<l.heap.size/\W.length<=cw:=by
  rcases hs.2 with⟨_,e⟩|⟨g,c,cur,e,hb,hh,h3,_⟩
  .omega
  simp at e;obtain⟨rfl,rfl⟩:=e;exact⟨g,rfl,hb,(a0c.1 hh).1,h3⟩
 subst haw;have JO:Z_ (∀x∈W,x.length<=9000):=λx D=>by have:=hWx x D;omega
 have Hs:=aj hs;have Hf:=aj hf;have fM:=hf.size;have uD:n<=1200:=by omega
 have UA:((n:Int)+1)-1=(n:Int):=by omega
 clear hs hf hWx hWl hW1;have Hc0:Z_ (sw (l.alloc (.cells #[zN,.pointer none,zN] 75)) l.heap.size zN (.pointer none) zN):=bD _ _;go_wp2_with fail;go_loopg [8] n (λk vi wr=>∃(i:Nat) (vr vl:Value) (L:List LB) (X:List (Nat × iY × RR)),i+k=n/\vi=zI i/\QI wr l.heap.size vr vl L X/\sw wr l.heap.size vr (.pointer none) vl/\(i=0->vr=zN/\vl=zN/\X=[])/\(0<i->X.length+1=i)/\L.length<=9000/\(∀x∈X,x.2.2.d<=9000)/\sO (W.drop i) i L (X.map (·.2.2))=F/\aB [] l wr);case atStart=>exact⟨0,_,_,[],[],by omega,rfl,QI.nil _ _,Hc0,λ_=>⟨rfl,rfl,rfl⟩,λh=>by omega,by simp,by simp,alS,(aB.refl _ _).alloc _⟩
 case round =>
 obtain⟨i,vr,_,L,X,_,Io,T,kG,h0,h1,hL,hXd,iD,bH⟩:=hrel;subst Io;have B:=aj T;have Hcb:=aj kG;have H0:=aj h0;have H1:=aj h1;have HXd:=aj hXd;have Gu:=aj iD;have NJ:=aj bH;have Hfw:=aj (Hf.o.trans bH);have hcw:=kG.lt;have rJ:SL w.heap.size wr (zS gw W.length cw) W:=Hs.o.aC bH (by simp);by_cases aL:i<n
 .obtain⟨m,rfl⟩:∃m,gk=m+1:=⟨gk-1,by omega⟩;have ci:zC wr gw i (zT (W.getD i [])):=rJ.cell i (by omega);have Dr:W.getD i []∈W:=by
   rw[a0x,a0a (by omega)];exact a0u _
  have D:=JO.o _ Dr;have JM:Z_ (W.drop i=W.getD i []::W.getD (i+1) []::W.drop (i+2)):=by
   show _=_;rw[a0k (by omega:i<W.length),a0k (by omega:i+1<W.length)];simp[a0x,a0a (by omega:i<W.length),a0a (by omega:i+1<W.length)]
  have al1:Z_ (W.drop (i+1)=W.getD (i+1) []::W.drop (i+2)):=by
   show _=_;rw[a0k (by omega:i+1<W.length)];simp[a0x,a0a (by omega:i+1<W.length)]
  generalize W.getD i []=x at *;clear T kG h0 h1 hXd iD bH rJ Dr;by_cases O:i=0
  ·
   obtain⟨hvr,Af,hXe⟩:=H0.o O;subst hvr Af hXe;have hL0:L=[]:=by
    obtain⟨a,c,e,_⟩:=B.o.rs;simp at e;exact a0S e.2.1.symm
   subst hL0;have I:Z_ (F=match abq x with | none=>.error 1|some L'=>sO (W.drop 1) 1 L' []):=by
    show _=_;rw[<-Gu.o,JM.o,show(1:Nat)=i+1 by omega,al1.o];conv=>lhs;unfold sO
    rw[O];rfl
   have Hi0:=aj O;have hic:(i:Int)=0:=by omega
   have c0i:zC wr gw 0 (zT x):=by rw[<-O];exact ci
   clear Gu JM al1 O ci;go_wp2_with fail;refine(Lj x 32 false wr (by omega)).mono ?_;rintro e A ⟨_,rfl,Sk,bW⟩;obtain⟨-,_,_⟩:=Lr false 32 x;have akA:Z_ (((((dU false 32 x).getD 0 []==mU)&&decide (1<(dU false 32 x).length)&&decide ((dU false 32 x).length<=9))&&((dU false 32 x).drop 1).all aJ)=false->F=.error 1):=by
    intro h;rw[I.o];unfold abq;rw[h];rfl
   have au9:Z_ (((((dU false 32 x).getD 0 []==mU)&&decide (1<(dU false 32 x).length)&&decide ((dU false 32 x).length<=9))&&((dU false 32 x).drop 1).all aJ)=true->sO (W.drop 1) 1 ((dU false 32 x).drop 1) []=F):=by
    intro h;rw[I.o];unfold abq;rw[h];rfl
   clear I;have HVn:Z_ (∀y∈dU false 32 x,y.length<=9000):=λy z=>by have:=(Lr false 32 x).1 y z;omega
   generalize dU false 32 x=V at *;obtain⟨av,cap,rfl⟩:=Sk.shape;obtain⟨g,hav,hg,IE,_⟩:∃g,av=some (zA g)/\wr.heap.size<=g/\g<A.heap.size/\V.length<=cap:=by
    rcases Sk.2 with⟨_,e⟩|⟨g,c,_,e,hb,hh,h3,_⟩
    .omega
    simp at e;obtain⟨rfl,rfl⟩:=e;exact⟨g,rfl,hb,(a0c.1 hh).1,h3⟩
   subst hav;have su:=aj (Sk.rs (by omega));have cv0:zC A g 0 (zT (V.getD 0 [])):=Sk.cell 0 (by omega);have Y:=aj (Hcb.o.aC bW (by simp));have c0:zC A l.heap.size 0 zN:=Y.o.cell 0;have f0:=Y.o.fz 0;have Yg:=aj bW;have Kt:g≠l.heap.size:=by omega
   obtain⟨q,hq⟩:∃q,V.length=q+1:=⟨V.length-1,by omega⟩;have NZ:(V.drop 1).length=q:=by rw[a2F];omega
   have HVd:Z_ (∀y∈V.drop 1,y.length<=9000):=λy z=>HVn.o y (a1f z);have HRd:Z_ (RS (wr.heap.size) A (.slice (some (zB g 1)) q (cap-1)) (V.drop 1)):=by
    have:=su.o.drop2 1 (by omega);rw[hq]at this;exact this
   clear Sk bW HVn;generalize V.drop 1=s at *;generalize V.getD 0 []=M at *;by_cases kL:cap=1
   .subst kL;have EC:q=0:=by omega
    subst EC;have E:Z_ (sF t=.error (2,1)):=HE.o _ (akA.o (by rw[a0f (by omega:¬ 1<V.length)];simp));cases b1:(M==mU);all_goals
     have IG:Z_ (RS wr.heap.size ((A.setCell (zA l.heap.size) (zS g 1 1)).setCell (zA l.heap.size) (zS g 0 0)) (zS g 0 0) s):=by
      have f5:aB [l.heap.size] A ((A.setCell (zA l.heap.size) (zS g 1 1)).setCell (zA l.heap.size) (zS g 0 0)):=((aB.refl _ _).setCell (by simp) _).setCell (by simp) _;exact RS.aC (⟨some (zA g),0,by simp;omega,by omega,by omega,λj hj=>by omega⟩) f5 (by simp;omega)
     have Hc5:Z_ (sw ((A.setCell (zA l.heap.size) (zS g 1 1)).setCell (zA l.heap.size) (zS g 0 0)) l.heap.size (zS g 0 0) (.pointer none) zN):=(Y.o.set0 _).set0 _;have F5:Z_ (aB [] l ((A.setCell (zA l.heap.size) (zS g 1 1)).setCell (zA l.heap.size) (zS g 0 0))):=((NJ.o.trans Yg).setCell (.inr (a0b _)) _).setCell (.inr (a0b _)) _;have Fu:g<((A.setCell (zA l.heap.size) (zS g 1 1)).setCell (zA l.heap.size) (zS g 0 0)).heap.size:=by rw[uN,uN];exact IE
     go_wp2_with fail;generalize ((A.setCell (zA l.heap.size) (zS g 1 1)).setCell (zA l.heap.size) (zS g 0 0))=w5 at *;go_loopg [9,10] 0 (λk P vk wq=>∃(j:Nat),j+k=0/\vk=zI j/\P=.bool (false&&(s.take j).all aJ)/\aB [] w5 wq);case atStart=>exact⟨0,by omega,rfl,by first | rfl|(simp;done)|(simp;omega),aB.refl _ _⟩
     case round =>
     obtain⟨j,lU,Uc,U,J⟩:=hrel;subst Uc U;have C:=aj J;have N:=aj (Hc5.o.aC J (by simp));have HRq:=aj (IG.o.aC J (by simp));have cq:zC wr l.heap.size 0 (zS g 0 0):=N.o.cell 0;clear J;by_cases hj:j<0
     .omega
     have hjq:j=0:=by omega
     have G:Z_ ((s.take j).all aJ=s.all aJ):=by
      show _=_;rw[a0C (by omega)]
     go_wp2;go_ret3;rw[E.o];exact⟨by simp[IQ],Hf.o.trans (F5.o.trans C)⟩
   by_cases jk:(M==mU)=true/\0<q/\q+1<=9
   .obtain⟨b1,pQ,hq9⟩:=jk;have IG:Z_ (RS wr.heap.size ((A.setCell (zA l.heap.size) (zS g (q+1) cap)).setCell (zA l.heap.size) (.slice (some (zB g 1)) q (cap-1))) (.slice (some (zB g 1)) q (cap-1)) s):=by
     have f5:aB [l.heap.size] A ((A.setCell (zA l.heap.size) (zS g (q+1) cap)).setCell (zA l.heap.size) (.slice (some (zB g 1)) q (cap-1))):=((aB.refl _ _).setCell (by simp) _).setCell (by simp) _;exact RS.aC (HRd.o) f5 (by simp;omega)
    have Hc5:Z_ (sw ((A.setCell (zA l.heap.size) (zS g (q+1) cap)).setCell (zA l.heap.size) (.slice (some (zB g 1)) q (cap-1))) l.heap.size (.slice (some (zB g 1)) q (cap-1)) (.pointer none) zN):=(Y.o.set0 _).set0 _;have F5:Z_ (aB [] l ((A.setCell (zA l.heap.size) (zS g (q+1) cap)).setCell (zA l.heap.size) (.slice (some (zB g 1)) q (cap-1)))):=((NJ.o.trans Yg).setCell (.inr (a0b _)) _).setCell (.inr (a0b _)) _;have Fu:g<((A.setCell (zA l.heap.size) (zS g (q+1) cap)).setCell (zA l.heap.size) (.slice (some (zB g 1)) q (cap-1))).heap.size:=by rw[uN,uN];exact IE
    go_wp2_with fail;generalize ((A.setCell (zA l.heap.size) (zS g (q+1) cap)).setCell (zA l.heap.size) (.slice (some (zB g 1)) q (cap-1)))=w5 at *;go_loopg [9,10] q (λk P vk wq=>∃(j:Nat),j+k=q/\vk=zI j/\P=.bool (true&&(s.take j).all aJ)/\aB [] w5 wq);case atStart=>exact⟨0,by omega,rfl,by first | rfl|(simp;done)|(simp;omega),aB.refl _ _⟩
    case round =>
    obtain⟨j,lU,Uc,U,J⟩:=hrel;subst Uc U;have C:=aj J;have N:=aj (Hc5.o.aC J (by simp));have HRq:=aj (IG.o.aC J (by simp));have cq:zC wr l.heap.size 0 (.slice (some (zB g 1)) q (cap-1)):=N.o.cell 0;clear J;by_cases hj:j<q
    .obtain⟨m2,rfl⟩:∃m2,gk=m2+1:=⟨gk-1,by omega⟩;obtain⟨g',o',Ty,-,-,-,aO⟩:=HRq.o.Ay (by omega);simp only[Option.some.injEq,Addr.mk.injEq,a2u]at Ty;obtain⟨rfl,rfl⟩:=Ty;have cj:=aO j (by omega);have hnm':(s.getD j []).length<=9000:=HVd.o _ (by rw[a0x,a0a (by omega)];exact a0u _);have G:Z_ ((s.take (j+1)).all aJ=((s.take j).all aJ&&aJ (s.getD j []))):=by
      show _=_;rw[a0F (by omega:j<s.length),a2c,a0x,a0a (by omega:j<s.length)];simp
     clear aO;generalize s.getD j []=nn at *;generalize (s.take j).all aJ=okb at *;cases okb;all_goals
      go_wp2_with (first | (go_at_call 13;refine(nH nn _ (by omega)).mono ?_;rintro e w' ⟨rfl,rfl⟩));go_roundg m2;case measure=>omega
      case rel=>exact⟨j+1,by omega,by go_num,by rw[G.o];simp,C⟩
    have hjq:j=q:=by omega
    have G:Z_ ((s.take j).all aJ=s.all aJ):=by
     show _=_;rw[a0C (by omega)]
    rw[G.o];clear G;cases fI:s.all aJ
    .have E:Z_ (sF t=.error (2,1)):=HE.o _ (akA.o (by simp[fI]));go_wp2;go_ret3;rw[E.o];exact⟨by simp[IQ],Hf.o.trans (F5.o.trans C)⟩
    have E:Z_ (sO (W.drop 1) 1 s []=F):=au9.o (by rw[b1,a0g (by omega:1<V.length),a0g (by omega:V.length<=9),fI];rfl);go_wp2;go_roundg m;case measure=>omega
    case rel =>
     refine⟨1,_,_,s,[],by have:=Hi0.o;omega,by go_num,?_,N,λh=>by omega,λ_=>rfl,by omega,by simp,E,F5.o.trans C⟩;have hzq:=C.o.size;exact⟨HRq.o.base (by omega),World.ownsRow_nil _ _ _ _,by simp,by simp,by simp,by simp,by simp,by simp,by simp[Value.ownBlock];omega,by simp[Value.ownBlock],by simp,by simp[Value.ownBlock];omega⟩
   have E:Z_ (sF t=.error (2,1)):=HE.o _ (akA.o (by
    rw[a2p];intro h;simp only[a0O,a0U]at h;exact jk ⟨h.1.1.1,by omega,by omega⟩))
   rcases(show(M==mU)=false\/((M==mU)=true/\q<1)\/((M==mU)=true/\0<q/\9<q+1) by
    by_cases h1:(M==mU)=true
    .by_cases h2:q<1
     .exact .inr (.inl ⟨h1,h2⟩)
     exact .inr (.inr ⟨h1,by omega,by have:¬ q+1<=9:=λh=>jk ⟨h1,by omega,h⟩
                                      omega⟩)
    exact .inl (by simpa using h1)) with b1|⟨b1,EC⟩|⟨b1,pQ,hq9⟩
   all_goals
    clear jk;have IG:Z_ (RS wr.heap.size ((A.setCell (zA l.heap.size) (zS g (q+1) cap)).setCell (zA l.heap.size) (.slice (some (zB g 1)) q (cap-1))) (.slice (some (zB g 1)) q (cap-1)) s):=by
     have f5:aB [l.heap.size] A ((A.setCell (zA l.heap.size) (zS g (q+1) cap)).setCell (zA l.heap.size) (.slice (some (zB g 1)) q (cap-1))):=((aB.refl _ _).setCell (by simp) _).setCell (by simp) _;exact RS.aC (HRd.o) f5 (by simp;omega)
    have Hc5:Z_ (sw ((A.setCell (zA l.heap.size) (zS g (q+1) cap)).setCell (zA l.heap.size) (.slice (some (zB g 1)) q (cap-1))) l.heap.size (.slice (some (zB g 1)) q (cap-1)) (.pointer none) zN):=(Y.o.set0 _).set0 _;have F5:Z_ (aB [] l ((A.setCell (zA l.heap.size) (zS g (q+1) cap)).setCell (zA l.heap.size) (.slice (some (zB g 1)) q (cap-1)))):=((NJ.o.trans Yg).setCell (.inr (a0b _)) _).setCell (.inr (a0b _)) _;have Fu:g<((A.setCell (zA l.heap.size) (zS g (q+1) cap)).setCell (zA l.heap.size) (.slice (some (zB g 1)) q (cap-1))).heap.size:=by rw[uN,uN];exact IE
    go_wp2_with fail;generalize ((A.setCell (zA l.heap.size) (zS g (q+1) cap)).setCell (zA l.heap.size) (.slice (some (zB g 1)) q (cap-1)))=w5 at *;go_loopg [9,10] q (λk P vk wq=>∃(j:Nat),j+k=q/\vk=zI j/\P=.bool (false&&(s.take j).all aJ)/\aB [] w5 wq);case atStart=>exact⟨0,by omega,rfl,by first | rfl|(simp;done)|(simp;omega),aB.refl _ _⟩
    case round =>
    obtain⟨j,_,Uc,U,J⟩:=hrel;subst Uc U;have C:=aj J;have N:=aj (Hc5.o.aC J (by simp));have HRq:=aj (IG.o.aC J (by simp));have cq:zC wr l.heap.size 0 (.slice (some (zB g 1)) q (cap-1)):=N.o.cell 0;clear J;by_cases hj:j<q
    .first
     | omega
     | obtain⟨m2,rfl⟩:∃m2,gk=m2+1:=⟨gk-1,by omega⟩
       obtain⟨_,_,Ty,-,-,-,aO⟩:=HRq.o.Ay (by omega);simp only[Option.some.injEq,Addr.mk.injEq,a2u]at Ty;obtain⟨rfl,rfl⟩:=Ty;have cj:=aO j (by omega);have hnm':(s.getD j []).length<=9000:=HVd.o _ (by rw[a0x,a0a (by omega)];exact a0u _);have G:Z_ ((s.take (j+1)).all aJ=((s.take j).all aJ&&aJ (s.getD j []))):=by
        show _=_;rw[a0F (by omega:j<s.length),a2c,a0x,a0a (by omega:j<s.length)];simp
       clear aO;generalize s.getD j []=nn at *;generalize (s.take j).all aJ=okb at *;cases okb;all_goals
        go_wp2_with (first | (go_at_call 13;refine(nH nn _ (by omega)).mono ?_;rintro e _ ⟨rfl,rfl⟩));go_roundg m2;case measure=>omega
        case rel=>exact⟨j+1,by omega,by go_num,by rw[G.o];simp,C⟩
    have hjq:j=q:=by omega
    have G:Z_ ((s.take j).all aJ=s.all aJ):=by
     show _=_;rw[a0C (by omega)]
    go_wp2;go_ret3;rw[E.o];exact⟨by simp[IQ],Hf.o.trans (F5.o.trans C)⟩
  -- a route
  have IJ:((i:Int)==0)=false:=a0j.2 (by omega);have Ic:(i==0)=false:=a0j.2 O;have hX:X.length+1=i:=H1.o (by omega);have I:Z_ (F=match yY x with | none=>.error (i+1)|some r=>sO (W.drop (i+1)) (i+1) L (X.map (·.2.2)++[r])):=by
   show _=_;rw[<-Gu.o,JM.o,al1.o];conv=>lhs;unfold sO
   rw[Ic];rfl
  clear Gu JM al1;obtain⟨al,cl,Af⟩:=aW B.o.lp;rw[a0y]at Af;subst Af;rcases hr:yY x with _|r
  .have E:Z_ (sF t=.error (2,i+1)):=HE.o _ (by rw[I.o,hr]);have Hr:=aj hr;clear I hr Ic;go_wp2_with fail;refine(Xq x wr (by omega)).mono ?_;rintro e H ⟨hp,Z⟩;rw[Hr.o]at hp;obtain⟨p,rfl⟩:=hp;have oF:=aj Z;clear Z;go_wp2;go_ret3;rw[E.o];exact⟨by simp[IQ],Hfw.o.trans oF⟩
  have E:Z_ (sO (W.drop (i+1)) (i+1) L (X.map (·.2.2)++[r])=F):=by show _=_;rw[I.o,hr]
  have Hr:=aj hr;clear I hr Ic;go_wp2_with fail;refine(Xq x wr (by omega)).mono ?_;rintro e H ⟨hp,Z⟩;rw[Hr.o]at hp;obtain⟨b,⟨Ma,ek,vt0,vt1,vt2,iJ,YJ,vk,vd,alY⟩,hbz,rfl,lZ⟩:=hp;have aqX:=aj lZ;have oF:=aj Z;have gD:=Z.size;have jR:=lZ.at_.lt;have d9:zC H b 9 (zI alY):=lZ.at_.cell 9;have z9:=lZ.at_.fz 9;have Pd:=aj (Hcb.o.aC Z (by simp));have c2:zC H l.heap.size 2 (.slice al X.length cl):=Pd.o.cell 2;have f2:=Pd.o.fz 2;have bJ:b≠l.heap.size:=by omega
  have hne':l.heap.size≠b:=by omega
  have ag:Value.ownBlock (.slice al X.length cl)≠some l.heap.size:=λe=>by have:=B.o.lp.lt _ e;omega
  have rH:∀u o,Z_ (aB [] wr ((H.setCell (zB b 9) u).alloc o)):=λu o=>(oF.o.setCell (.inr hbz) _).alloc _;have g2:∀u o,zC ((H.setCell (zB b 9) u).alloc o) l.heap.size 2 (.slice al X.length cl):=λu o=>((((aB.refl [b] H).setCell (p:=(zB b 9)) (by simp) u).alloc o).cell (p:=(zB l.heap.size 2)) (by simp;omega) (by simp;omega)).trans c2;have g3:∀u o,((H.setCell (zB b 9) u).alloc o).frozen? (zB l.heap.size 2)=false:=λu o=>((((aB.refl [b] H).setCell (p:=(zB b 9)) (by simp) u).alloc o).frozen (p:=(zB l.heap.size 2)) (by simp;omega) (by simp;omega)).trans f2;clear lZ Z;go_wp2_with (first | (at_builtin;refine abH _ rfl _ _ rfl (l.heap.size+1) (.slice al X.length cl) (X.map (·.1)) b H.heap.size rfl ((B.o.TF (rH _ _).o).lp) rfl (Ja _ _ _ _ (uN _ _ _)) (by simp;omega) (by simp;omega) ?_;intro g4 Kq _ Mr Sl MS;have c4:=(Sl.cell_far (zB l.heap.size 2) (by simp;omega) (Ne.symm ag)).trans (g2 _ _);have z4:=(Sl.frozen_far (zB l.heap.size 2) (by simp;omega) (Ne.symm ag)).trans (g3 _ _);have Hs4:=aj Mr;have Hg4:=aj Sl;have Hb4:=aj MS;clear Mr Sl MS));go_roundg m;case measure=>omega
  case rel =>
   have hRB:qz (H.setCell (zB b 9) (zI ((i:Int)+1))) b ⟨Ma,ek,vt0,vt1,vt2,iJ,YJ,vk,vd,(i:Int)+1⟩:=aqX.o.at_.set 9 _ _ rfl;have at7:aB [b] H (H.setCell (zB b 9) (zI ((i:Int)+1))):=(aB.refl _ _).setCell (by simp) _;have hRQ:Dq (l.heap.size+1) ((H.setCell (zB b 9) (zI ((i:Int)+1))).alloc (.cells #[zP b] 72)) b ⟨Ma,ek,vt0,vt1,vt2,iJ,YJ,vk,vd,(i:Int)+1⟩ r:=by
    have q:=aqX.o;refine Dq.aC (S:=[]) (Dq.base (base:=wr.heap.size) ⟨hRB,q.rc,jJ q.Im at7 ?_,q.t0,q.t1,q.t2,jJ q.ifs at7 ?_,q.on,q.d⟩ (by omega)) ((aB.refl _ _).alloc _) (by simp) (by simp)
    .intro k hk;simp at hk;subst hk;exact .inr ⟨_,_,_,q.at_,by decide⟩
    intro k hk;simp at hk;subst hk;exact .inr ⟨_,_,_,q.at_,by decide⟩
   have Q4:=QI.snoc (B.o.TF (rH (zI ((i:Int)+1)) (.cells #[zP b] 72)).o) (x:=(b,⟨Ma,ek,vt0,vt1,vt2,iJ,YJ,vk,vd,(i:Int)+1⟩,r)) hRQ aqX.o.vk (by simp;omega) (λy z=>by have:=B.o.lt y z;simp;omega) (by simp;omega) (λe=>by have:=B.o.vrt _ e;simp at this;omega) (λe=>by have:=B.o.lp.lt _ e;simp at this;omega) Hg4.o Hs4.o Hb4;rw[a0y,hX]at Q4;refine⟨i+1,vr,zS g4 i Kq,L,_,by omega,by go_num,Q4.awR 2 _,?_,λh=>by omega,λ_=>by simp;omega,hL,?_,?_,?_⟩
   .exact sw.set2 ((Hcb.o.aC (rH _ _).o (by simp)).aC (aB.fo Hg4) (by rw[a0H];exact ag)) _
   .intro y z;rw[a0e,a0w]at z;rcases z with z|rfl
    .exact HXd.o y z
    have:=au8 _ _ Hr;simp;omega
   .rw[a0P];exact E
   exact((NJ.o.trans (rH _ _).o).grown Hg4.o (λk hk=>.inr (by have:=B.o.lp.lt _ hk;omega))).setCell (.inr (a0b _)) _
 -- the end
 have EF:i=n:=by omega
 subst EF;have ci:zC wr gw i (zT (W.getD i [])):=rJ.cell i (by omega);have I:Z_ (F=if !((W.getD i []).isEmpty)||i==0 then .error (i+1) else .ok (L,X.map (·.2.2))):=by
  show _=_;rw[<-Gu.o,a0k (by omega:i<W.length),a0i (by omega),a0x,a0a (by omega:i<W.length)];unfold sO;rfl
 generalize W.getD i []=x at *;obtain⟨ar,cr,hvr⟩:∃a c,vr=.slice a L.length c:=by
  obtain⟨a,c,e,_⟩:=T.rs;exact⟨a,c,e⟩
 obtain⟨al,cl,Af⟩:=aW T.lp;rw[a0y]at Af;subst hvr Af;clear T kG h0 h1 hXd iD bH rJ Gu;cases D:(x == [])
 .have E:Z_ (sF t=.error (2,i+1)):=HE.o _ (by
   rw[I.o];have:x.isEmpty=false:=by
    cases x with
    | nil=>simp at D
    | cons=>rfl
   rw[this];rfl)
  clear I;go_wp2;go_ret3;rw[E.o];exact⟨by simp[IQ],Hfw⟩
 by_cases O:i=0
 .have e0:((i:Int)==0)=true:=by simp[O]
  have E:Z_ (sF t=.error (2,i+1)):=HE.o _ (by rw[I.o,O];simp);have ayP:i<=0:=by omega
  clear I O;go_wp2;go_ret3;rw[E.o];exact⟨by simp[IQ],Hfw⟩
 have e0:((i:Int)==0)=false:=a0j.2 (by omega);have hxe:x=[]:=by simpa using D
 have E:Z_ (sF t=if (xh L (X.map (·.2.2))).1=0 then .ok (L,X.map (·.2.2)) else .error (xh L (X.map (·.2.2)))):=HK.o _ _ (by rw[I.o,hxe];simp[O]);have hX:X.length+1=i:=H1.o (by omega);clear I hxe;go_wp2_with fail;refine(aky l.heap.size (l.heap.size+1) (.slice ar L.length cr) (.slice al X.length cl) L X wr Hcb.o (λw' f=>B.o.kept f) (λx D=>⟨B.o.rq x D,B.o.vk x D⟩) B.o.row (λx D=>by have:=B.o.gt x D;omega) B.o.nd hL (by omega) HXd).mono ?_;rintro e H ⟨rfl,Z,aua⟩;have axg:=aj aua;have oF:=aj Z;clear aua Z;have aub:Z_ (aB [] w H):=by
  refine Hf.o.trans ((NJ.o.nil (S:=l.heap.size::X.map (·.1))).trans oF.o |>.mono ?_);intro k _ hm;rw[a0l,a0q]at hm;rcases hm with rfl|⟨x,D,rfl⟩
  .omega
  have:=B.o.gt x D;omega
 unfold grE;generalize hg:xh L (X.map (·.2.2))=f at *;have Hg:=aj hg;clear hg;obtain⟨f1,_⟩:=f;by_cases aZ:f1=0
 .subst aZ;have e2:=aqV _ _ (by rw[Hg.o]);rw[Hg.o]at e2;simp at e2;subst e2;go_wp2;go_ret3;rw[E.o];obtain⟨K,oN,hK,axh⟩:=axg.o (by first | trivial|rfl|simp);have hxd:xd (X.map (λx=>(x.1,{ x.2.1 with vk:=K x.1 },x.2.2)))=xd X:=by simp[xd,Function.comp_def]
  refine⟨⟨l.heap.size,l.heap.size+1,_,_,_,X.map (λx=>(x.1,{ x.2.1 with vk:=K x.1 },x.2.2)),rfl,oN,(B.o.kept oF).1,?_,?_,?_,⟨fM,by omega,?_,?_,?_,?_,?_⟩⟩,aub⟩
  .have:=(B.o.kept oF).2;simpa[Function.comp_def] using this
  .intro y z;rw[a0q]at z;obtain⟨x,D,rfl⟩:=z;exact B.o.rqs oF.o hK x D
  .simp[Function.comp_def]
  .intro i y z;rw[a0Q]at z;cases hxi:X[i]? with
   | none=>rw[hxi]at z;simp at z
   | some x =>
     rw[hxi]at z;simp at z;subst z;exact B.o.row i x hxi
  .have:=B.o.nd;simpa[Function.comp_def] using this
  .intro y z;rw[a0q]at z;obtain⟨x,D,rfl⟩:=z;have:=B.o.gt x D;exact this
  .simp[Function.comp_def]
  intro y z;rw[a0q]at z;obtain⟨x,D,rfl⟩:=z;rw[hxd];exact wQ (axh x D) (by omega)
 simp only[aZ,a0I];go_wp2;go_ret3;rw[E.o];simp only[aZ,a0I];exact⟨rfl,aub⟩
theorem abM(n):∀L a,lJ n L (a,true)=(a++L,true)
 | [],a=>by simp[lJ]
 | x::L,a=>by unfold lJ;simp only[a2O,Bool.false_and];rw[a0n (by simp),abM n L];simp
theorem Xu(n):∀L a,(if (lJ n L (a,false)).2 then (lJ n L (a,false)).1 else (lJ n L (a,false)).1++[n])=a++ins n L
 | [],a=>by simp[lJ,ins]
 | x::L,a=>by
   have e:lJ n (x::L) (a,false)=lJ n L (if n<x then (a++[n]++[x],true) else (a++[x],false)):=by
    conv=>lhs;unfold lJ
    rw[aqh];simp
   rw[e];unfold ins;by_cases h:n<x
   .grind [abM]
   simp only[a0n h];have:=Xu n L (a++[x]);rw[this];simp
theorem akB(L n):uf L n=ins n L:=by simp[Xu,uf]
theorem azn:∀(L acc:List LB),Asc acc->Asc (L.foldl oH acc)
 | [],acc,h=>h
 | n::L,acc,h=>by
   simp only[a1R];refine azn L _ ?_;unfold oH;by_cases a:acc.contains n=true
   .rw[a0m a];omega
   grind [akB,ahQ]
def glue(p:LB):List LB->List LB
 | []=>[p]
 | h::r=>(p++h)::r
theorem ze(p q W):glue p (glue q W)=glue (p++q) W:=by cases W<;>simp[glue]
def oD(q:Bool)(c:UInt8):LB->Bool->Bool->List LB
 | [],_,_=>[[]]
 | x::r,i,true=>glue [x] (oD q c r i false)
 | x::r,i,false =>
   if (if q&&x==34 then !i else i)&&x==92 then glue [x] (oD q c r (if q&&x==34 then !i else i) true)
   else if x==c&&!(if q&&x==34 then !i else i) then []::oD q c r (if q&&x==34 then !i else i) false
   else glue [x] (oD q c r (if q&&x==34 then !i else i) false)
theorem abN(p W):glue p W≠[]:=by cases W<;>simp[glue]
theorem Db(q c l i e):oD q c l i e≠[]:=by
 cases l with
 | nil=>cases e<;>simp[oD]
 | cons x r =>
   cases e with
   | true=>unfold oD;exact abN _ _
   | false =>
     unfold oD;generalize (if (q&&x==34)=true then !i else i)=i1;by_cases a:(i1&&x==92)=true
     .grind [abN]
     grind [abN]
theorem Gv(q c):∀k l i t out,l.length<k->jy q c k l i t out=out++glue t (oD q c l i false)
 | 0,l,i,t,out,h=>by omega
 | k+1,[],i,t,out,h=>by unfold jy oD;simp[glue]
 | k+1,x::r,i,t,out,h=>by
   simp only[a0r]at h;unfold jy oD;dsimp only;generalize (if (q&&x==34)=true then !i else i)=i1;by_cases a:(i1&&x==92)=true
   .rw[a0m a];cases r with
    | nil =>
      have j:i1=true:=by simp at a;exact a.1
      subst j;rw[a0n (by simp),a0n (by simp),Gv _ c k [] _ _ _ (by omega)];simp[oD,glue]
    | cons d f=>rw[a0m (by simp[a])];rw[List.drop_succ_cons,a2j,Gv _ c k f _ _ _ (by simp at h |-;omega)];simp only[oD,ze,a2J,a3w]
   rw[a0n a,a0n (by intro e;apply a;simp[a0O]at e |-;exact e.1)];by_cases b:(x==c&&!i1)=true
   .rw[a0m b,a0m b,Gv _ c k r _ _ _ (by omega)];have:glue [] (oD q c r i1 false)=oD q c r i1 false:=by
     cases g:oD q c r i1 false with
     | nil=>exact(Db _ c _ _ _ g).elim
     | cons=>rfl
    rw[this];simp[glue]
   rw[a0n b,a0n b,Gv _ c k r _ _ _ (by omega),ze]
theorem Ue(q c l):dU q c l=oD q c l false false:=by
 unfold dU;rw[Gv q c _ _ _ _ _ (a3j _),a0V];cases h:oD q c l false false with
 | nil=>exact(Db q c l false false h).elim
 | cons=>rfl
def oo:LB->Bool->Bool->LB × LB
 | [],_,_=>([],[])
 | x::r,i,true=>(x::(oo r i false).1,(oo r i false).2)
 | x::r,i,false =>
   if (if x==34 then !i else i)&&x==92 then (x::(oo r (if x==34 then !i else i) true).1,(oo r (if x==34 then !i else i) true).2)
   else if x==32&&!(if x==34 then !i else i) then ([],x::r)
   else (x::(oo r (if x==34 then !i else i) false).1,(oo r (if x==34 then !i else i) false).2)
def W0(l:LB):List LB:=oD true 32 l false false
def tw:LB->List LB
 | []=>[]
 | _::r=>W0 r
theorem Ad(x r):tw (x::r)=W0 r:=rfl
theorem al2:tw []=[]:=rfl
def bd(l:LB):Bool:=match l with | []=>true|x::_=>x==32
theorem Uf:∀l i e,oD true 32 l i e=(oo l i e).1::tw (oo l i e).2
 | [],i,e=>by cases e<;>rfl
 | x::r,i,true=>by unfold oD oo;rw[Uf r i false];rfl
 | x::r,i,false=>by
   unfold oD oo;simp only[a3k];generalize d:(if (x==34)=true then !i else i)=i1;by_cases b:(i1&&x==92)=true
   .rw[a0m b,a0m b,Uf r i1 true];rfl
   rw[a0n b,a0n b];by_cases a:(x==32&&!i1)=true
   .rw[a0m a,a0m a];have c:i1=false:=by simp at a;exact a.2
    subst c;rfl
   rw[a0n a,a0n a,Uf r i1 false];rfl
theorem Mb:∀l i e,l=(oo l i e).1++(oo l i e).2/\bd (oo l i e).2=true
 | [],i,e=>by cases e<;>simp[oo,bd]
 | x::r,i,true=>by unfold oo;have:=Mb r i false;exact⟨by simp;exact this.1,this.2⟩
 | x::r,i,false=>by
   unfold oo;generalize c:(if (x==34)=true then !i else i)=i1;by_cases a:(i1&&x==92)=true
   .rw[a0m a];have:=Mb r i1 true;exact⟨by simp;exact this.1,this.2⟩
   rw[a0n a];by_cases b:(x==32&&!i1)=true
   .grind [bd]
   rw[a0n b];have:=Mb r i1 false;exact⟨by simp;exact this.1,this.2⟩
def fw(l:LB):LB:=(oo l false false).1
def wG(l:LB):LB:=(oo l false false).2
theorem EM(l):W0 l=fw l::tw (wG l):=Uf l false false
theorem Nj(l):l=fw l++wG l:=(Mb l false false).1
theorem afS(l):bd (wG l)=true:=(Mb l false false).2
theorem yj(l)(h:bd l=true):fw l=[]/\wG l=l:=by
 cases l with
 | nil=>exact⟨rfl,rfl⟩
 | cons x r =>
   have:x=32:=by simpa[bd] using h
   subst this;exact⟨rfl,rfl⟩
def clean(p:LB):Bool:=p.all λx=>!(x==32)&&!(x==34)
def ma:∀p s,clean p=true->fw (p++s)=p++fw s/\wG (p++s)=wG s
 | [],s,_=>⟨rfl,rfl⟩
 | x::p,s,h=>by
   unfold clean at h;simp only[a1P,a0O,a1j]at h;have a:=ma p s h.2;have:oo (x::(p++s)) false false=(x::(oo (p++s) false false).1,(oo (p++s) false false).2):=by
    conv=>lhs;unfold oo
    rw[h.1.2,h.1.1];rfl
   unfold fw wG at *;rw[a0L,this];exact⟨by simp[a.1],a.2⟩
def QQ(p:LB)(W:List LB):Bool:=decide (1<W.length)&&(W.getD 0 []==p)
def asJ(l):(tw l).length=0↔l=[]:=by
 cases l with
 | nil=>simp[tw]
 | cons x r=>rw[Ad,EM];simp
def aih {l}(h:bd l=true)(a:l≠[]):∃r,l=32::r:=by
 cases l with
 | nil=>exact(a rfl).elim
 | cons x r=>simp[bd]at h;subst h;exact⟨r,rfl⟩
def fC(p l)(h:aQ p l=true):l=p++aK p l:=by unfold aQ at h;unfold aK;rw[a0m h];have:=a2y.1 h;obtain⟨t,rfl⟩:=this;simp
theorem qF(p s):aQ p (p++s)=true/\aK p (p++s)=s:=by simp[aQ,aK]
theorem akC(p l)(b:clean p=true)(c:bd l=true):QQ p (tw l)=aQ (32::(p++[32])) l:=by
 cases l with
 | nil=>simp[QQ,tw,aQ]
 | cons x r =>
   have:x=32:=by simpa[bd] using c
   subst this;rw[a0T];constructor
   .intro h;unfold QQ at h;rw[Ad,EM]at h;simp[a0r,a0O,a0U,a0W]at h;have g:wG r≠[]:=λe=>by rw[e,al2]at h;simp at h
    obtain⟨a,i⟩:=aih (afS _) g;have f:fw r=p:=by simpa using h.2
    have:=Nj r;rw[f,i]at this;rw[this];have d:=(qF (32::(p++[32])) a).1;simpa using d
   intro h;have e:=fC _ _ h;generalize aK (32::(p++[32])) (32::r)=a at e;have j:r=p++32::a:=by simpa using e
   subst j;unfold QQ;have:=ma p (32::a) b;have hb:=yj (32::a) rfl;rw[Ad,EM,this.1,this.2,hb.1,hb.2,Ad,EM];simp
def abO(p l)(b:clean p=true)(h:aQ (32::(p++[32])) l=true):(tw l).getD 1 []=fw (aK (32::(p++[32])) l)/\(tw l).drop 2=tw (wG (aK (32::(p++[32])) l)):=by
 have e:=fC _ _ h;generalize aK (32::(p++[32])) l=a at e;subst e;have c:tw (32::(p++[32])++a)=p::W0 a:=by
  have d:(32::(p++[32])++a)=32::(p++32::a):=by simp
  rw[d];show W0 (p++32::a)=_;have:=ma p (32::a) b;have hb:=yj (32::a) rfl;rw[EM,this.1,this.2,hb.1,hb.2,Ad];simp
 rw[c,EM];simp
theorem Ug(p l)(h:bd l=false):aQ (32::p) l=false:=by
 cases l with
 | nil=>simp[bd]at h
 | cons x r =>
   unfold bd at h;have:(32==x)=false:=by grind
   simp[aQ,List.isPrefixOf,this]
theorem aqY(p l)(h:bd l=false):aK (32::p) l=l:=by have:=Ug p l h;unfold aQ at this;unfold aK;rw[a0n (by simp[this])]
theorem anR(c):(!(bK c)||(!(c==32)&&!(c==34)&&!(c==44)&&!(c==45)))=true:=vO (p:=λc=>!(bK c)||(!(c==32)&&!(c==34)&&!(c==44)&&!(c==45))) (by decide +kernel) c
theorem anS(c):(!(nG c)||(!(c==32)&&!(c==34)&&decide (48<=c.toNat)&&decide (c.toNat<=57)))=true:=vO (p:=λc=>!(nG c)||(!(c==32)&&!(c==34)&&decide (48<=c.toNat)&&decide (c.toNat<=57))) (by decide +kernel) c
theorem Mc {c}(h:bK c=true):c≠32/\c≠34/\c≠44/\c≠45:=by grind [anR]
theorem abP {c}(h:nG c=true):c≠32/\c≠34/\48<=c.toNat/\c.toNat<=57:=by grind [anS]
def nS(p):∀(l:List α),(l.takeWhile p).all p=true
 | []=>rfl
 | x::r=>by simp_all
theorem vJ(p):∀(l:List α) (x:α) r,l.dropWhile p=x::r->p x=false
 | [],x,r,h=>by simp at h
 | y::l,x,r,h=>by
   rw[List.dropWhile_cons]at h;cases a:p y
   .grind
   rw[a]at h;simp at h;exact vJ p l x r h
theorem Nk {p}(a:∀c,p c=true->c≠32/\c≠34)(l)(h:l.all p=true):clean l=true:=by grind [clean]
theorem Md(x s)(h:bd (x::s)=false):∃h,fw (x::s)=x::h:=by grind [bd,fw,oo]
theorem Dc {s}(h:bd s=false):∃x r,s=x::r/\x≠32:=by
 cases s with
 | nil=>simp[bd]at h
 | cons x r=>exact⟨x,r,rfl,by simpa[bd] using h⟩
theorem Gw(a x b)(h:bK x=false):aJ (a++x::b)=false:=by grind [aJ,bK]
theorem aqZ(r):aJ (fw r)=(aJ (r.takeWhile bK)&&bd (r.dropWhile bK))/\(bd (r.dropWhile bK)=true->fw r=r.takeWhile bK/\wG r=r.dropWhile bK):=by
 have a:clean (r.takeWhile bK)=true:=Nk (λc h=>⟨(Mc h).1,(Mc h).2.1⟩) _ (nS _ _);have e:r.takeWhile bK++r.dropWhile bK=r:=a1J;have h:=ma (r.takeWhile bK) (r.dropWhile bK) a;rw[e]at h;have hd:=vJ bK r;generalize r.takeWhile bK=n at *;generalize r.dropWhile bK=s at *;cases hb:bd s
 .obtain⟨x,s',rfl,d⟩:=Dc hb;obtain⟨f,b⟩:=Md x s' hb;refine⟨?_,by simp⟩;rw[h.1,b,Gw _ _ _ (hd x s' rfl)];simp
 simp_all[yj,hb]
theorem aq0(r):(aJ (fw r)||fw r == [45])=((eZ r).2.1&&bd (eZ r).2.2)/\((eZ r).2.1=true->bd (eZ r).2.2=true->fw r=(eZ r).1/\wG r=(eZ r).2.2):=by
 unfold eZ;by_cases ht:aQ [45] r=true
 .rw[a0m ht];have e:=fC _ _ ht;generalize aK [45] r=r' at *;subst e;have h:=ma [45] r' (by decide);rw[h.1,h.2];cases hb:bd r'
  .obtain⟨x,s',rfl,c⟩:=Dc hb;obtain⟨a,b⟩:=Md x s' hb;rw[b];have:aJ ([45]++x::a)=false:=by have:=Gw [] 45 (x::a) (by decide);simpa using this
   rw[this];simp
  simp[yj,hb]
 grind [fw,Nj,qF,aqZ]
def yl(D:LB)(n:Nat):Nat:=D.foldl (λn c=>n*10+(c.toNat-48)) n
def abQ:∀D n,n*10 ^ D.length<=yl D n
 | [],n=>by simp[yl]
 | c::D,n=>by have:=abQ D (n*10+(c.toNat-48));unfold yl at *;simp only[a1R,a0r,Nat.pow_succ];refine a0h ?_ this;rw[a1b (10 ^ D.length) 10,<-a0Z];exact a0z _ (by omega)
def aii:∀D n,D.all nG=true->yl D n<(n+1)*10 ^ D.length
 | [],n,_=>by simp[yl]
 | c::D,n,h=>by simp only[a1P,a0O]at h;have a:=abP h.1;have:=aii D (n*10+(c.toNat-48)) h.2;unfold yl at *;simp only[a1R,a0r,Nat.pow_succ];refine a0t this ?_;rw[a1b (10 ^ D.length) 10,<-a0Z];exact a0z _ (by omega)
theorem abR:∀D (n:Nat),D.all nG=true->Ap D (n:Int)=(yl D n:Int)
 | [],n,_=>rfl
 | c::D,n,h=>by
   simp only[a1P,a0O]at h;have b:=abP h.1;have a:lW c.toNat=true:=h.1;unfold Ap;rw[a0m a];have:(10*(n:Int)+c.toNat-48)=((n*10+(c.toNat-48):Nat):Int):=by omega
   rw[this,abR D _ h.2];rfl
def aeh:∀D s n,D.all nG=true->(∀x r,s=x::r->nG x=false)->n<=99999->(if yl D n<=99999 then uP (D++s) n=(yl D n,true,s) else (uP (D++s) n).2.1=false)
 | [],s,n,_,b,d=>by
   have a:yl [] n=n:=rfl;rw[a0V,a,a0m d];cases s with
   | nil=>rfl
   | cons x r=>unfold uP;rw[a0n (by rw[b x r rfl];simp)]
 | c::D,s,n,h,b,d=>by
   simp only[a1P,a0O]at h;rw[a0L];unfold uP;rw[a0m h.1];have a:yl (c::D) n=yl D (n*10+(c.toNat-48)):=rfl;by_cases hb:99999<n*10+(c.toNat-48)
   .rw[a0m hb];have:=abQ D (n*10+(c.toNat-48));have e:1<=10 ^ D.length:=a2P (by simp);have f:n*10+(c.toNat-48)<=(n*10+(c.toNat-48))*10 ^ D.length:=a2r _ e;rw[a0n (by omega)]
   rw[a0n hb,a];exact aeh D s _ h.2 b (by omega)
theorem asK(r):decide (0<=iR (fw r))=((lI r).2.1&&bd (lI r).2.2)/\((lI r).2.1=true->bd (lI r).2.2=true->iR (fw r)=((lI r).1:Int)/\wG r=(lI r).2.2):=by
 unfold lI;by_cases ht:aQ [48] r=true
 .rw[a0m ht];have e:=fC _ _ ht;generalize aK [48] r=r' at *;subst e;have h:=ma [48] r' (by decide);rw[h.1,h.2];cases hb:bd r'
  .obtain⟨x,s',rfl,j⟩:=Dc hb;obtain⟨k,i⟩:=Md x _ hb;rw[i];refine⟨?_,by simp⟩;have:iR ([48]++x::k)=-1:=by simp[iR,hd]
   rw[this];simp
  simp[yj,hb,iR,Ap,hd,nG,lW]
 rw[a0n ht];have w:clean (r.takeWhile nG)=true:=Nk (λc h=>⟨(abP h).1,(abP h).2.1⟩) _ (nS _ _);have e:r.takeWhile nG++r.dropWhile nG=r:=a1J;have h:=ma (r.takeWhile nG) (r.dropWhile nG) w;rw[e]at h;have o:=vJ nG r;have d:=nS nG r;by_cases f:lW (hd r)=true
 .rw[a0n (by simp[f])];have y:∃c D,r.takeWhile nG=c::D/\c≠48:=by
   cases r with
   | nil=>simp[hd,lW]at f
   | cons c r'=>have q:nG c=true:=f;refine⟨c,r'.takeWhile nG,by rw[List.takeWhile_cons,q];rfl,λe=>?_⟩;subst e;exact ht (qF [48] r').1
  have t:=aeh (r.takeWhile nG) (r.dropWhile nG) 0 d (λx r' h=>o x r' h) (by omega);rw[e]at t;generalize r.takeWhile nG=D at *;generalize r.dropWhile nG=s at *;obtain⟨c,a,rfl,g⟩:=y;have G:=aii (c::a) 0 d;have u:10 ^ a.length<=yl (c::a) 0:=by
   have F:=abQ a (0*10+(c.toNat-48));have E:yl (c::a) 0=yl a (0*10+(c.toNat-48)):=rfl;simp only[a1P,a0O]at d;have C:=abP d.1;have B:c.toNat≠48:=λe=>g (a1w.1 (by simpa using e));have b:1<=0*10+(c.toNat-48):=by omega
   have m:1*10 ^ a.length<=(0*10+(c.toNat-48))*10 ^ a.length:=a0z _ b;omega
  have l:∀z,iR ((c::a)++z)=if z=[] then (if (c::a).length<=5 then (yl (c::a) 0:Int) else -1) else iR ((c::a)++z):=by
   intro z;by_cases hz:z=[]
   .subst hz;rw[a0m rfl,a0R];unfold iR;have A:(hd (c::a)==48)=false:=by rw[a0j];intro e;apply g;apply a1w.1;have:(c.toNat:Int)=48:=e;show c.toNat=48;omega
    rw[A,d];by_cases b:(c::a).length<=5
    .rw[a0m b,a0f (by omega)];have:=abR (c::a) 0 d;simpa using this
    rw[a0n b,a0g (by omega)];simp
   rw[a0n hz]
  have b:(c::a).length<=5↔yl (c::a) 0<=99999:=by
   constructor
   .intro b;have:(0+1)*10 ^ (c::a).length<=(0+1)*10 ^ 5:=a0o _ (a1r (by omega) b);omega
   intro b;apply Classical.byContradiction;intro m;have:10 ^ 5<=10 ^ a.length:=a1r (by omega) (by simp at m;omega);omega
  cases hb:bd s
  .obtain⟨x,s',rfl,j⟩:=Dc hb;obtain⟨k,i⟩:=Md x s' hb;have:iR (fw r)=-1:=by grind [iR,nG]
   rw[this];by_cases v:yl (c::a) 0<=99999
   .grind
   grind
  have n:=yj s hb;rw[h.1,h.2,n.1,n.2,l [],a0m rfl];by_cases v:yl (c::a) 0<=99999
  .grind
  grind
 rw[a0m (by simp[f])];refine⟨?_,by simp⟩;have:iR (fw r)=-1:=by
  cases r with
  | nil=>rfl
  | cons x r' =>
    have j:nG x=false:=by
     have:lW (hd (x::r'))=false:=by simpa using f
     exact this
    cases hb:bd (x::r')
    .obtain⟨k,i⟩:=Md x _ hb;rw[i];unfold iR;simp[j]
    rw[(yj _ hb).1];rfl
 rw[this];simp
theorem aei:∀(L acc:List LB),Asc acc->L.foldl oH acc=L.foldl lM acc
 | [],acc,_=>rfl
 | n::L,acc,h=>by
   simp only[a1R];have e:oH acc n=lM acc n/\Asc (oH acc n):=by grind [oH,lM,akB,ahQ,adT]
   rw[<-e.1];exact aei L _ e.2
theorem aq1(L):DV L=Ed L:=aei L [] (by simp[Asc])
def C0(l:LB):List LB:=oD false 44 l false false
theorem al3:C0 []=[[]]:=rfl
theorem aej(r):C0 (44::r)=[]::C0 r:=by
 unfold C0;conv=>lhs;unfold oD
 rfl
theorem aij(x r)(h:x≠44):C0 (x::r)=glue [x] (C0 r):=by
 unfold C0;conv=>lhs;unfold oD
 simp[h]
theorem afT:∀p s,(∀x∈p,x≠44)->C0 (p++s)=glue p (C0 s)
 | [],s,_=>by
   cases h:C0 s with
   | nil=>exact(Db _ _ _ _ _ h).elim
   | cons=>simp[h,glue]
 | x::p,s,h=>by simp_all[aij,afT,ze]
theorem asL(l):1<=(C0 l).length:=by grind [C0,Db]
theorem VI(r):fw (44::r)=44::fw r/\wG (44::r)=wG r:=by have:=ma [44] r (by decide);simpa using this
def al4(s)(h:aQ [44] s=false)(hb:bd s=false):∃x s',s=x::s'/\x≠32/\x≠44:=by obtain⟨x,s',rfl,a⟩:=Dc hb;refine⟨x,s',rfl,a,λe=>?_⟩;subst e;have:=(qF [44] s').1;simp at this;rw[this]at h;cases h
def Xv(k:Nat)(acc:List LB)(a:LB):List LB × Bool × LB :=
 if !(aJ (a.takeWhile bK))||decide (4<=acc.length) then ([],false,a.dropWhile bK) else uQ k (acc++[a.takeWhile bK]) (a.dropWhile bK)
def aq2:∀k acc l,5<=k+acc.length->acc.length<=4 ->
 (if (C0 (fw l)).all aJ&&decide (acc.length+(C0 (fw l)).length<=4) then Xv k acc l=(acc++C0 (fw l),true,wG l) else ((Xv k acc l).2.1&&bd (Xv k acc l).2.2)=false):=by
 intro k;induction k with
 | zero=>intro acc l B A;omega
 | succ k t =>
 intro acc l B A;have w:clean (l.takeWhile bK)=true:=Nk (λc h=>⟨(Mc h).1,(Mc h).2.1⟩) _ (nS _ _);have I:∀x∈l.takeWhile bK,x≠44:=λx u=>(Mc (a1d.1 (nS bK l) x u)).2.2.1;have e:l.takeWhile bK++l.dropWhile bK=l:=a1J;have h:=ma (l.takeWhile bK) (l.dropWhile bK) w;rw[e]at h;have r:=vJ bK l;unfold Xv;generalize l.takeWhile bK=n at *;generalize l.dropWhile bK=s at *;rw[h.1,h.2,afT n _ I];have f:∀x s',s=x::s'->x≠44->x≠32->(glue n (C0 (fw s))).all aJ=false:=by
  intro x s' es b a;subst es;obtain⟨C,G⟩:=Md x s' (by simpa[bd] using a);rw[G,aij x _ b,ze];cases hz:C0 C with
  | nil=>exact(Db _ _ _ _ _ hz).elim
  | cons y Y=>simp only[glue,a1P];rw[a0M,a1h,Gw n x y (r x s' rfl)];rfl
 by_cases d:(!(aJ n)||decide (4<=acc.length))=true
 .rw[a0m d,a0n]
  .simp
  rw[a1a]at d;intro hh;rw[a0O]at hh;rcases d with g|z
  ·
   have i:aJ n=false:=by simpa using g
   cases hb:bd s
   .by_cases ht:aQ [44] s=true
    .have es:=fC _ _ ht;rw[a1h]at es;rw[es,(VI _).1,aej]at hh;simp[glue,i]at hh
    obtain⟨x,s',es,a,b⟩:=al4 s (by simpa using ht) hb;rw[f x s' es b a]at hh;simp at hh
   simp_all[yj,hb,al3,hh,glue]
  have:4<=acc.length:=by simpa using z
  have m:=asL (fw s);have v:(glue n (C0 (fw s))).length=(C0 (fw s)).length:=by
   cases hz:C0 (fw s) with
   | nil=>rw[hz]at m;simp at m
   | cons=>rfl
  have:=hh.2;rw[v]at this;simp at this;omega
 rw[a0n d];simp only[a1a,not_or,a1j,a0U]at d;have g:aJ n=true:=by simpa using d.1
 have H:acc.length<4:=by omega
 have o:(acc++[n]).isEmpty=false:=by cases acc<;>rfl
 by_cases ht:aQ [44] s=true
 ·
  have es:=fC _ _ ht;rw[a1h]at es;have j:uQ (k+1) (acc++[n]) s=Xv k (acc++[n]) (aK [44] s):=by
   conv=>lhs;unfold uQ
   unfold Xv;rw[o,ht];rfl
  rw[j];generalize aK [44] s=s' at *;have:=t (acc++[n]) s' (by simp;omega) (by simp;omega);rw[es,(VI s').1,(VI s').2,aej];have F:acc.length+(C0 (fw s')).length+1=(acc++[n]).length+(C0 (fw s')).length:=by simp;omega
  have E:glue n ([]::C0 (fw s'))=n::C0 (fw s'):=by simp[glue]
  have D:acc++n::C0 (fw s')=(acc++[n])++C0 (fw s'):=by simp
  rw[E,a1P,g,a3k,a0r,<-a2M,F,D];exact this
 have q:aQ [44] s=false:=by simpa using ht
 have j:uQ (k+1) (acc++[n]) s=(acc++[n],true,s):=by
  conv=>lhs;unfold uQ
  rw[o,q];rfl
 rw[j];cases hb:bd s
 .obtain⟨x,s',es,a,b⟩:=al4 s q hb;rw[f x s' es b a];simp
 rw[(yj s hb).1,(yj s hb).2,al3];have:glue n [[]]=[n]:=by simp[glue]
 rw[this,a0m (by simp[g];omega)]
theorem aq3(r):((C0 (fw r)).all aJ&&decide ((C0 (fw r)).length<=4))=((gL r).2.1&&bd (gL r).2.2)/\((gL r).2.1=true->bd (gL r).2.2=true->C0 (fw r)=(gL r).1/\wG r=(gL r).2.2):=by
 have h:=aq2 5 [] r (by simp) (by simp);have e:gL r=Xv 5 [] r:=by unfold gL uQ Xv;simp
 rw[e];simp only[a1e,a1n,a0V]at h;by_cases a:((C0 (fw r)).all aJ&&decide ((C0 (fw r)).length<=4))=true
 .grind [afS]
 grind
end
section
variable {α:Type} {Z:LN} {w w0 w1 w4:World} {gg kb:Nat} {V V' V1 V2:V6} {U U' U1 U2:V4} {r:RD} {s':CS}
theorem anT(c):(if nG c then ((c-48:UInt8),true) else if 97<=c/\c<=102 then (c-97+10,true) else (0,false))=(if 0<=lL c then (UInt8.ofNat (lL c).toNat,true) else (0,false)):=by have:=vO (p:=λc=>decide ((if nG c then ((c-48:UInt8),true) else if 97<=c/\c<=102 then (c-97+10,true) else (0,false))=(if 0<=lL c then (UInt8.ofNat (lL c).toNat,true) else (0,false)))) (by decide +kernel) c;exact a2q this
theorem Ej(c r):gK (c::r)=if 0<=lL c then (UInt8.ofNat (lL c).toNat,true,r) else (0,false,c::r):=by grind [anT,gK,nG,lL]
theorem aek(a b:Int)(c:0<=a)(hb:0<=b):UInt8.ofNat a.toNat*16+UInt8.ofNat b.toNat=UInt8.ofNat (16*a+b).toNat:=by
 have:(16*a+b).toNat=a.toNat*16+b.toNat:=by omega
 rw[this,UInt8.ofNat_add,UInt8.ofNat_mul];rfl
theorem afU(x t)(h:x≠34)(a:x≠92):oo (x::t) true false=(x::(oo t true false).1,(oo t true false).2):=by
 conv=>lhs;unfold oo
 have c:(x==34)=false:=by simpa using h
 have b:(x==92)=false:=by simpa using a
 rw[c,b];simp
def abS(x t):oo (92::x::t) true false=(92::x::(oo t true false).1,(oo t true false).2):=by
 conv=>lhs;unfold oo
 simp only[show((92:UInt8)==34)=false from rfl];rw[a0m (by rfl)];conv=>lhs;unfold oo
 rfl
def akD(t):oo (34::t) true false=(34::(oo t false false).1,(oo t false false).2):=by
 conv=>lhs;unfold oo
 rfl
theorem anU(t):oo (34::t) false false=(34::(oo t true false).1,(oo t true false).2):=by
 conv=>lhs;unfold oo
 rfl
theorem Nl(a b x y t):aQ [a,b] (x::y::t)=(a==x&&b==y):=by simp[aQ,List.isPrefixOf]
theorem take1(a x t):aQ [a] (x::t)=(a==x):=by simp[aQ,List.isPrefixOf]
theorem anV(a b x t)(h:a≠x):aQ [a,b] (x::t)=false:=by grind [aQ]
theorem rest_of {p l s}(h:l=p++s):aK p l=s:=by subst h;exact(qF p s).2
theorem anW(l)(a:(I9 l).2.1=true)(o:aQ [34] l=false):∃e,l=e++(I9 l).2.2/\1<=e.length/\(∀j m acc,dR (j+1) (e++m) acc=dR j m (acc++[(I9 l).1]))/\(∀t,oo (e++t) true false=(e++(oo t true false).1,(oo t true false).2)):=by
 unfold I9 at *
 by_cases k:aQ [92,34] l=true
 .rw[a0m k]
  have e:=fC _ _ k
  exact⟨[92,34],e,by simp,λj m acc=>by conv=>lhs;unfold dR
                                       rfl,λt=>by have:=abS 34 t;simpa using this⟩
 rw[a0n k]at a |-
 by_cases i:aQ [92,92] l=true
 .rw[a0m i]
  have e:=fC _ _ i
  exact⟨[92,92],e,by simp,λj m acc=>by conv=>lhs;unfold dR
                                       rfl,λt=>by have:=abS 92 t;simpa using this⟩
 rw[a0n i]at a |-
 by_cases h:aQ [92,120] l=true
 .rw[a0m h]at a |-
  have e:=fC _ _ h;generalize aK [92,120] l=r at *;subst e;unfold Ex at *;dsimp only at *;cases r with
  | nil=>simp[gK]at a
  | cons x r =>
    rw[Ej]at a |-
    by_cases d:0<=lL x
    .rw[a0m d]at a |-
     dsimp only at *;cases r with
     | nil=>simp[gK]at a
     | cons y r =>
       rw[Ej]at a |-
       by_cases b:0<=lL y
       .rw[a0m b]at a |-
        dsimp only;refine⟨[92,120,x,y],by simp,by simp,λj m acc=>?_,λt=>?_⟩
        .rw[aek _ _ d b]
         conv=>lhs;unfold dR
         have d1:decide (lL x<0)=false:=a0f (by omega);have u:decide (lL y<0)=false:=a0f (by omega);simp[d1,u,mR]
        have g:∀z:UInt8,0<=lL z->z≠34/\z≠92:=by intro z hz;have:=vO (p:=λc=>!(decide (0<=lL c))||(!(c==34)&&!(c==92))) (by decide +kernel) z;simp[hz]at this;exact this
        have:=abS 120 (x::y::t);rw[afU x _ (g x d).1 (g x d).2,afU y _ (g y b).1 (g y b).2]at this;simpa using this
       grind
    grind
 rw[a0n h]at a |-;cases l with
 | nil=>simp at a
 | cons c r =>
   dsimp only at *
   by_cases f:(!(mR c.toNat)||c==92)=true
   .grind
   rw[a0n f];simp[a1a,not_or,a1j,a2X,a0W]at f;have n:c≠34:=λe=>by subst e;rw[take1]at o;simp at o
   refine⟨[c],rfl,by simp,λj m acc=>?_,λt=>?_⟩
   .conv=>lhs;unfold dR
    simp only[a1h];have s:(c==34)=false:=by simpa using n
    have q:(c==92)=false:=by simpa using f.2
    rw[s,q,f.1];rfl
   grind [afU]
theorem abT:∀k acc l v s,acc.length<=40->tZ k acc l=(v,true,s)->∃m,l=m++34::s/\(∀j,m.length<j->dR j m acc=some v)/\(∀t,oo (m++34::t) true false=(m++34::(oo t false false).1,(oo t false false).2))/\v.length<=40
 | 0,acc,l,v,s,_,h=>by simp[tZ]at h
 | k+1,acc,l,v,s,p,h=>by
   unfold tZ at h;by_cases a:aQ [34] l=true
   .rw[a0m a]at h;simp at h;obtain⟨rfl,rfl⟩:=h;have e:=fC _ _ a;refine⟨[],by simpa using e,λj c=>?_,λt=>by simpa using akD t,p⟩;obtain⟨j,rfl⟩:∃b,j=b+1:=⟨j-1,by omega⟩;rfl
   rw[a0n a]at h;by_cases d:(!(I9 l).2.1||decide (40<=acc.length))=true
   .grind
   rw[a0n d]at h;simp only[a1a,not_or,a1j,a2X,a0U]at d;obtain⟨e,he,o,i,r⟩:=anW l d.1 (by simpa using a);obtain⟨m,n,c,q,g⟩:=abT k _ _ v s (by simp;omega) h;refine⟨e++m,by rw[a0M,<-n];omega,λj f=>?_,λt=>?_,g⟩
   .obtain⟨j,rfl⟩:∃b,j=b+1:=⟨j-1,by omega⟩;rw[i,c j (by simp at f;omega)]
   grind
theorem akE(m v)(h:dR (m.length+2) m []=some v)(a:v.length<=40):gV (34::(m++[34]))=(v,true):=by
 unfold gV;have f:decide ((34::(m++[34])).length<2)=false:=a0f (by simp);have e:(hd (34::(m++[34]))==34)=true:=rfl;have d:((34::(m++[34])).getLast?==some 34)=true:=by grind
 have c:((34::(m++[34])).take ((34::(m++[34])).length-1)).drop 1=m:=by simp
 have b:(34::(m++[34])).length=m.length+2:=by simp
 rw[f,e,d,c,b,h];simp[a]
theorem akF(l v s)(h:qm l=(v,true,s)):∃q,l=34::q++s/\gV (34::q)=(v,true)/\(∀t,fw (34::q++t)=34::q++fw t/\wG (34::q++t)=wG t):=by
 unfold qm at h;by_cases ht:aQ [34] l=true
 .rw[a0m ht]at h;obtain⟨m,d,c,a,b⟩:=abT _ _ _ v s (by simp) h;refine⟨m++[34],by rw[(fC _ _ ht),d];simp,akE m v (c _ (by omega)) b,λt=>?_⟩;have f:(34::(m++[34])++t)=34::(m++34::t):=by simp
  unfold fw wG;rw[f,anU,a];simp
 grind
theorem ael(j c r acc v)(h:dR (j+1) (c::r) acc=some v):∃e n m,c::r=e++m/\1<=e.length/\dR j m (acc++[n])=some v/\∀t,I9 (e++t)=(n,true,t)/\aQ [34] (e++t)=false:=by
 unfold dR at h;by_cases l:(c==34||!(mR c.toNat))=true
 .grind
 rw[a0n l]at h;simp[a1a,not_or,a1j,a2X,a0W]at l;by_cases b:(c==92)=true
 .rw[a0m b]at h;have:c=92:=by simpa using b
  subst this;cases r with
  | nil=>simp at h
  | cons d g =>
    dsimp only at h;by_cases f:(d==120)=true
    .rw[a0m f]at h;have:d=120:=by simpa using f
     subst this
     match g,h with
     | [],h=>simp at h
     | [x],h=>simp at h
     | x::y::o,h =>
       dsimp only at h;by_cases a:(decide (lL x<0)||decide (lL y<0))=true
       .grind
       rw[a0n a]at h;simp[a1a,not_or,a0U]at a;have k:0<=lL x:=by omega
       have i:0<=lL y:=by omega
       refine⟨[92,120,x,y],_,o,by simp,by simp,h,λt=>⟨?_,by simp[take1]⟩⟩;unfold I9;simp[a0L,a0V];rw[Nl,Nl,Nl];have q:aK [92,120] (92::120::x::y::t)=x::y::t:=rest_of rfl;rw[q,a0n (by decide),a0n (by decide),a0m (by decide)];unfold Ex;dsimp only;rw[Ej,a0m k];dsimp only;rw[Ej,a0m i,aek _ _ k i];rfl
    rw[a0n f]at h;by_cases a:(!(d==34)&&!(d==92))=true
    .grind
    rw[a0n a]at h;refine⟨[92,d],d,g,by simp,by simp,h,λt=>⟨?_,by simp[take1]⟩⟩;unfold I9;simp[a0L,a0V];rw[Nl,Nl];by_cases hd:d=34
    .subst hd;rw[a0m (by decide)];exact congrArg _ (congrArg _ (rest_of rfl))
    have p:d=92:=by simp at a;exact a hd
    subst p;rw[a0n (by decide),a0m (by decide)];exact congrArg _ (congrArg _ (rest_of rfl))
 rw[a0n b]at h;refine⟨[c],c,r,rfl,by simp,h,λt=>⟨?_,?_⟩⟩
 .grind [I9,anV]
 grind [take1]
def ail:∀j m acc v,dR j m acc=some v->acc.length<=v.length
 | 0,m,acc,v,h=>by simp[dR]at h
 | j+1,[],acc,v,h=>by simp[dR]at h;subst h;omega
 | j+1,c::r,acc,v,h=>by obtain⟨e,b,m,_,_,a,_⟩:=ael j c r acc v h;have:=ail j m _ v a;simp at this;omega
def Xx:∀j k m acc v s,dR j m acc=some v->v.length<=40->m.length<k->tZ k acc (m++34::s)=(v,true,s)
 | 0,k,m,acc,v,s,h,_,_=>by simp[dR]at h
 | j+1,0,m,acc,v,s,h,_,f=>by omega
 | j+1,k+1,[],acc,v,s,h,_,_=>by simp[dR]at h;subst h;unfold tZ;have:=qF [34] s;simp[a1h]at this;rw[a0V,this.1,a0m rfl,this.2]
 | j+1,k+1,c::r,acc,v,s,h,b,f=>by
   obtain⟨e,l,m,he,g,a,ht⟩:=ael j c r acc v h;have d:=ail j m _ v a;simp[a0p,a0X]at d;rw[he,a0M];unfold tZ;have:(c::r).length=e.length+m.length:=by rw[he];simp
   rw[(ht _).2,(ht _).1,a0n (by simp),a0n (by simp;omega)];exact Xx j k m _ v s a b (by omega)
theorem anX(q v)(h:gV q=(v,true)):∃m,q=34::(m++[34])/\dR q.length m []=some v/\v.length<=40:=by
 unfold gV at h;by_cases b:(decide (q.length<2)||!(hd q==34)||!(q.getLast?==some 34))=true
 .grind
 rw[a0n b]at h;simp[a1a,not_or,a0U,a1j,a2X,a0W]at b;obtain⟨⟨g,n⟩,o⟩:=b;have e:q=34::(((q.take (q.length-1)).drop 1)++[34]):=by
  cases q with
  | nil=>simp at g
  | cons c r =>
    have j:c=34:=by apply a1w.1;have:(c.toNat:Int)=34:=n;show c.toNat=34;omega
    subst j;have d:r≠[]:=λe=>by subst e;simp at g
    have l:r.getLast d=34:=by grind
    have f:=a2t d;rw[l]at f;have k:(List.take ((34::r).length-1) (34::r)).drop 1=r.dropLast:=by grind
    rw[k,f]
 cases a:dR q.length ((q.take (q.length-1)).drop 1) [] with
 | none=>rw[a]at h;simp at h
 | some v'=>rw[a]at h;simp at h;obtain⟨rfl,i⟩:=h;exact⟨_,e,a,i⟩
def Xy(q v s)(h:gV q=(v,true)):qm (q++s)=(v,true,s)/\∃a,q=34::a:=by
 obtain⟨m,rfl,c,b⟩:=anX q v h;refine⟨?_,_,rfl⟩;have e:(34::(m++[34])++s)=34::(m++34::s):=by simp
 rw[e];unfold qm;have:=qF [34] (m++34::s);simp only[a1h]at this;rw[this.1,a0m rfl,this.2];exact Xx _ _ m [] v s c b (by simp;omega)
def qG(m:CM):RM:=(m.1,jr m.2.1,m.2.2)
def aim(l)(h:(jq l).2.1=true):l=jr (jq l).1++(jq l).2.2:=by
 unfold jq at *;by_cases c:aQ [61,126] l=true
 .rw[a0m c];exact fC _ _ c
 rw[a0n c]at h |-;by_cases b:aQ [33,126] l=true
 .rw[a0m b];exact fC _ _ b
 rw[a0n b]at h |-;by_cases a:aQ [33,61] l=true
 .rw[a0m a];exact fC _ _ a
 rw[a0n a]at h |-;exact fC _ _ h
theorem ain(k)(h:k<=3):k=0\/k=1\/k=2\/k=3:=by omega
theorem afV(k)(a:k<=3)(t):jq (jr k++34::t)=(k,true,34::t):=by grind [ain,jr,jq,Nl,take1,aK,rest_of]
def aem(k):∃x t,jr k=x::t/\(x=61\/x=33):=by
 unfold jr;split
 .exact⟨_,_,rfl,.inr rfl⟩
 split
 .exact⟨_,_,rfl,.inl rfl⟩
 split
 .exact⟨_,_,rfl,.inr rfl⟩
 exact⟨_,_,rfl,.inl rfl⟩
def afW(k):clean (jr k)=true:=by
 unfold jr;split
 .decide
 split
 .decide
 split<;>decide
def aen {p}(n:LB)(x t)(b:n.all p=true)(a:p x=false):(n++x::t).takeWhile p=n/\(n++x::t).dropWhile p=x::t:=by simp_all
theorem anY(c):(!(bK c)||qy c)=true:=vO (p:=λc=>!(bK c)||qy c) (by decide +kernel) c
theorem akG(n:LB)(h:n.all bK=true):n.all qy=true:=by grind [anY]
theorem aeo(n)(h:aJ n=true):n.all bK=true:=by grind [aJ]
theorem akH(n k q v)(d:aJ n=true)(g:k<=3)(hq:gV q=(v,true)):rV (n++(jr k++q))=((n,jr k,v),true):=by
 obtain⟨_,a,rfl⟩:=Xy q v [] hq;obtain⟨x,t,e,f⟩:=aem k;have b:qy x=false:=by rcases f with rfl|rfl<;>decide
 have c:=aen n x (t++34::a) (akG n (aeo n d)) b;rw[<-a0L,<-e]at c;unfold rV;rw[c.1,c.2];dsimp only;rcases ain k g with rfl|rfl|rfl|rfl
 .have e:jr 0++34::a=61::34::a:=rfl;rw[e];have s2:ui (61::34::a)=false:=by simp[ui]
  have s1:CJ (61::34::a)=true:=by simp[CJ,hd]
  rw[s2,s1];simp[hq,d,jr]
 .grind [jr,ui]
 .grind [jr,ui]
 grind [jr,ui]
def axk(r)(h:CJ r=true):∃t,r=61::t:=by
 unfold CJ at h;cases r with
 | nil=>simp at h
 | cons c t=>simp only[a0O,a0W]at h;have:(c.toNat:Int)=61:=h.2;have:c=61:=a1w.1 (by show c.toNat=61;omega);exact⟨t,by rw[this]⟩
theorem aq4(h m)(e:rV h=(m,true)):∃n k q v,h=n++(jr k++q)/\k<=3/\aJ n=true/\gV q=(v,true)/\m=(n,jr k,v):=by
 have d:h.takeWhile qy++h.dropWhile qy=h:=a1J;unfold rV at e;dsimp only at e;generalize h.takeWhile qy=n at *;generalize h.dropWhile qy=r at *;by_cases c:ui r=true
 .rw[a0m c]at e;simp[Prod.mk.injEq,a0O]at e;obtain⟨rfl,g,b⟩:=e;unfold ui at c;simp only[a0O,a0U,a1a,a0W]at c;have f:r=r.take 2++r.drop 2:=(a1C 2 r).symm;have hq:gV (r.drop 2)=((gV (r.drop 2)).1,true):=by rw[<-g]
  rcases c.2 with(a|a)|a
  .exact⟨n,2,r.drop 2,_,by rw[<-d];conv=>lhs;rw[f,a]
                           rfl,by omega,b,hq,by rw[a];rfl⟩
  .exact⟨n,3,r.drop 2,_,by rw[<-d];conv=>lhs;rw[f,a]
                           rfl,by omega,b,hq,by rw[a];rfl⟩
  exact⟨n,1,r.drop 2,_,by rw[<-d];conv=>lhs;rw[f,a]
                          rfl,by omega,b,hq,by rw[a];rfl⟩
 rw[a0n c]at e;by_cases i:CJ r=true
 .rw[a0m i]at e;obtain⟨t,rfl⟩:=axk _ i;simp only[Prod.mk.injEq,a0O]at e;obtain⟨rfl,g,b⟩:=e;have hq:gV t=((gV t).1,true):=by grind
  exact⟨n,0,t,_,by rw[<-d];rfl,by omega,b,hq,rfl⟩
 grind
theorem aio(n k q v s)(g:aJ n=true)(i:k<=3)(hq:gV q=(v,true)):kF (n++(jr k++q)++s)=((n,k,v),true,s):=by
 have f:=Xy q v s hq;obtain⟨b,rfl⟩:=f.2;obtain⟨x,t,e,h⟩:=aem k;have c:bK x=false:=by rcases h with rfl|rfl<;>decide
 have d:=aen n x (t++34::(b++s)) (aeo n g) c;rw[<-a0L,<-e]at d;have j:n++(jr k++34::b)++s=n++(jr k++34::(b++s)):=by simp
 rw[j];unfold kF;dsimp only;rw[d.1,d.2,afV k i];dsimp only;have a:=f.1;rw[a0L]at a;rw[a,g];rfl
theorem asM(r):(rV (fw r)).2=((kF r).2.1&&bd (kF r).2.2)/\((kF r).2.1=true->bd (kF r).2.2=true->(rV (fw r)).1=qG (kF r).1/\wG r=(kF r).2.2):=by
 have:(kF r).2.1=true->bd (kF r).2.2=true->rV (fw r)=(qG (kF r).1,true)/\wG r=(kF r).2.2:=by
  intro f g;unfold kF at *;dsimp only at *;simp[a0O]at f;obtain⟨⟨b,d⟩,t⟩:=f;have B:r.takeWhile bK++r.dropWhile bK=r:=a1J;have x:clean (r.takeWhile bK)=true:=Nk (p:=bK) (λc h=>⟨(Mc h).1,(Mc h).2.1⟩) _ (nS _ _);have A:=aim _ d;have C:=adf (r.dropWhile bK);generalize r.takeWhile bK=n at *;generalize r.dropWhile bK=o at *;generalize E:jq o=K at *;obtain⟨k,_,l2⟩:=K;dsimp only at *;generalize y:qm l2=V at *;obtain⟨v,D,s⟩:=V;dsimp only at *;subst t;obtain⟨q,z,u,w⟩:=akF l2 v s y;have m:=ma n (jr k++(34::q++s)) x;have l:=ma (jr k) (34::q++s) (afW k);have j:=w s;have i:=yj s g;have a:r=n++(jr k++(34::q++s)):=by rw[<-B,A,z]
  rw[a,m.1,m.2,l.1,l.2,j.1,j.2,i.1,i.2,a0R,akH n k (34::q) v b C u];exact⟨rfl,rfl⟩
 have:(rV (fw r)).2=true->(kF r).2.1=true/\bd (kF r).2.2=true:=by intro h;obtain⟨n,k,q,v,e,d,b,hq,_⟩:=aq4 _ _ (by rw[<-h]);have a:=Nj r;rw[e]at a;rw[a,aio n k q v (wG r) b d hq];exact⟨rfl,afS r⟩
 refine⟨?_,λf g=>?_⟩
 .grind
 grind
def S5(l:LB):Option Bool:=if (aK iq l).isEmpty then some (aQ iq l) else none
theorem ava(l)(h:bd l=false):S5 l=none:=by grind [S5,aqY,aK,iq,Dc]
def VJ(W:List LB):Option Bool:=if (W.length==1)&&(W.getD 0 []==EI) then some true else if W.isEmpty then some false else none
theorem avb(l)(h:bd l=true):S5 l=VJ (tw l):=by
 cases l with
 | nil=>rfl
 | cons x r =>
   have:x=32:=by simpa[bd] using h
   subst this;rw[Ad,EM];unfold VJ S5;by_cases a:aQ iq (32::r)=true
   .have e:=fC _ _ a;have b:r=EI++aK iq (32::r):=by grind [EI,aK,iq]
    rw[a];generalize aK iq (32::r)=s at *;subst b;have f:=ma EI s (by decide);rw[f.1,f.2];cases s with
    | nil=>rfl
    | cons y s =>
      simp only[a1I];rw[a0n (by simp)];cases hb:bd (y::s)
      .obtain⟨i,b⟩:=Md y s hb;rw[b];rw[a0n]
       .rfl
       simp
      simp[yj,hb,Ad,EM]
   have c:aK iq (32::r)=32::r:=by unfold aQ at a;unfold aK;rw[a0n a]
   rw[c];simp only[a1I];rw[a0n (by simp),a0n]
   .rfl
   intro hh;apply a;simp only[a0r,a0O,a0W]at hh;have g:wG r=[]:=(asJ _).1 (by omega);have d:fw r=EI:=by simpa using hh.2
   have:=Nj r;rw[g,d,a0R]at this;rw[this];decide
theorem afX(k W acc)(h:QQ wIf W=false):(if (dO (k+1) W acc).2.2 then some ((dO (k+1) W acc).1,(dO (k+1) W acc).2.1) else none)=if acc.length<=4 then (VJ W).map (λb=>(acc,b)) else none:=by grind [dO,QQ,VJ,EI]
theorem Xz:∀k W acc,4<acc.length->(dO k W acc).2.2=false
 | 0,W,acc,h=>rfl
 | k+1,W,acc,h=>by
   unfold dO;split
   .split
    .exact Xz k _ _ (by simp;omega)
    rfl
   grind
def S4g(k:Nat)(acc:List CM)(l:LB):Option (List CM × Bool):=if (wP k acc l).2.1 then (S5 (wP k acc l).2.2).map (λb=>((wP k acc l).1,b)) else none
def R4g(k:Nat)(acc:List RM)(W:List LB):Option (List RM × Bool):=if (dO k W acc).2.2 then some ((dO k W acc).1,(dO k W acc).2.1) else none
theorem aip(k acc l)(h:bd l=false):S4g (k+1) acc l=none:=by grind [S4g,wP,aQ,tq,Ug,ava]
theorem aep:∀k k2 acc l,6<=k+acc.length->acc.length<=4->bd l=true->(tw l).length<k2->(S4g k acc l).map (λx=>(x.1.map qG,x.2))=R4g k2 (acc.map qG) (tw l)
 | 0,k2,acc,l,s,r,_,_=>by omega
 | k+1,0,acc,l,s,r,hb,y=>by omega
 | k+1,k2+1,acc,l,s,r,hb,y=>by
   have c:QQ wIf (tw l)=aQ tq l:=akC wIf l (by decide) hb;by_cases ht:aQ tq l=true
   .have p:=abO wIf _ (by decide) ht;have u:=p.1;have m:(tw l).drop 2=tw (wG (aK tq l)):=p.2;rw[ht]at c;have hlen:1<(tw l).length:=by grind [QQ]
    have q:=asM (aK tq l);have g:R4g (k2+1) (acc.map qG) (tw l)=if (rV (fw (aK tq l))).2 then R4g k2 (acc.map qG++[(rV (fw (aK tq l))).1]) (tw (wG (aK tq l))) else none:=by
     unfold R4g;have e:dO (k2+1) (tw l) (acc.map qG)=if (rV (fw (aK tq l))).2 then dO k2 (tw (wG (aK tq l))) (acc.map qG++[(rV (fw (aK tq l))).1]) else (acc.map qG,false,false):=by
      conv=>lhs;unfold dO
      unfold QQ at c;rw[c,u,m];rfl
     rw[e];by_cases v:(rV (fw (aK tq l))).2=true
     .grind
     grind
    have w:S4g (k+1) acc l=if !(kF (aK tq l)).2.1||decide (4<=acc.length) then none else S4g k (acc++[(kF (aK tq l)).1]) (kF (aK tq l)).2.2:=by
     unfold S4g;have e:wP (k+1) acc l=if !(kF (aK tq l)).2.1||decide (4<=acc.length) then (acc,false,(kF (aK tq l)).2.2) else wP k (acc++[(kF (aK tq l)).1]) (kF (aK tq l)).2.2:=by
      conv=>lhs;unfold wP
      rw[ht];rfl
     rw[e];by_cases v:(!(kF (aK tq l)).2.1||decide (4<=acc.length))=true
     .grind
     grind
    rw[g,w,q.1];generalize z:kF (aK tq l)=X at *;obtain⟨x,f,d⟩:=X;dsimp only at *;cases f
    .simp
    cases i:bd d
    .by_cases a:4<=acc.length
     .simp[a]
     obtain⟨n,rfl⟩:∃n,k=n+1:=⟨k-1,by omega⟩;rw[a0n (by simp[a]),aip _ _ _ i];simp
    have j:=q.2 rfl i;by_cases a:4<=acc.length
    .have:R4g k2 (acc.map qG++[(rV (fw (aK tq l))).1]) (tw (wG (aK tq l)))=none:=by unfold R4g;rw[Xz _ _ _ (by simp;omega)];rfl
     rw[this];simp[a]
    rw[a0n (by simp[a]),j.1,j.2];have o:=aep k k2 (acc++[x]) d (by simp;omega) (by simp;omega) i (by
     have:(tw d).length=(tw l).length-2:=by rw[<-j.2,<-m,a2F]
     omega)
    rw[a0P]at o;rw[o];simp
   have t:aQ tq l=false:=by simpa using ht
   rw[t]at c;have h:=afX k2 (tw l) (acc.map qG) c;have g:R4g (k2+1) (acc.map qG) (tw l)=(VJ (tw l)).map (λb=>(acc.map qG,b)):=by grind [R4g]
   rw[g];unfold S4g wP;rw[t];simp only[a0A,a0I,a0G];rw[avb l hb];cases VJ (tw l)<;>simp
def S4(l:LB):Option (List CM × Bool):=S4g 6 [] l
theorem avc(l)(h:bd l=false):S4 l=none:=aip 5 [] l h
def R4(W:List LB):Option (List RM × Bool):=R4g (W.length+1) [] W
theorem avd(l)(h:bd l=true):(S4 l).map (λx=>(x.1.map qG,x.2))=R4 (tw l):=aep 6 _ [] l (by simp) (by simp) h (a3j _)
theorem abU(p)(c:clean p=true)(F:LB->Int->Option α)(G:List LB->Int->Option α)(hF:∀l n,bd l=false->F l n=none)(hG:∀l n,bd l=true->F l n=G (tw l) n)(l)(hb:bd l=true) :
 (if (bZ (32::(p++[32])) l).2.1 then F (bZ (32::(p++[32])) l).2.2 (bZ (32::(p++[32])) l).1 else none)=(if QQ p (tw l) then (if decide (iR ((tw l).getD 1 [])<0) then none else G ((tw l).drop 2) (iR ((tw l).getD 1 []))) else G (tw l) (-1)):=by
 rw[akC p l c hb];unfold bZ;by_cases ht:aQ (32::(p++[32])) l=true
 .have b:=abO p l c ht;have d:=asK (aK (32::(p++[32])) l);simp only[a0m ht];rw[b.1,b.2];generalize aK (32::(p++[32])) l=r at *;generalize e:lI r=N at *;obtain⟨n,a,nr⟩:=N;dsimp only at *;cases a
  .grind
  grind
 grind
def akI(p)(F:LB->Int->Option α)(hF:∀l n,bd l=false->F l n=none)(l)(hb:bd l=false) :
 (if (bZ (32::p) l).2.1 then F (bZ (32::p) l).2.2 (bZ (32::p) l).1 else none)=none:=by simp_all[bZ,Ug,hb]
theorem by_step(F:LB->Bool->List LB->Option α)(G:List LB->Bool->List LB->Option α)(hF:∀l t n,bd l=false->F l t n=none)(hG:∀l t n,bd l=true->F l t n=G (tw l) t n)(l)(hb:bd l=true) :
 (if (lK l).ok then F (lK l).rest (lK l).tells (lK l).names else none)=(match qX (tw l) with | none=>none|some (told,names,W)=>G W told names):=by
 have q:=akC wBy l (by decide) hb;have b:QQ wBy (tw l)=aQ [32,98,121,32] l:=q;unfold qX;unfold QQ at b;rw[b];unfold lK;by_cases ht:aQ [32,98,121,32] l=true
 .have k:=abO wBy l (by decide) ht;have m:(tw l).getD 1 []=fw (aK [32,98,121,32] l):=k.1;have o:(tw l).drop 2=tw (wG (aK [32,98,121,32] l)):=k.2;simp only[a0m ht];rw[m,o];generalize aK [32,98,121,32] l=r at *;by_cases a:aQ [45] r=true
  .simp only[a0m a];have e:=fC _ _ a;generalize aK [45] r=s at *;subst e;have f:=ma [45] s (by decide);rw[f.1,f.2];cases i:bd s
   .obtain⟨x,s',rfl,_⟩:=Dc i;obtain⟨c,w⟩:=Md x s' i;rw[w];simp only[a0G];rw[hF _ _ _ i];have h:([45]++x::c == [45])=false:=by simp
    rw[h];have v:(dU false 44 ([45]++x::c)).all aJ=false:=by
     rw[Ue];have:=afT [45] (x::c) (by simp);unfold C0 at this;rw[this];cases hz:oD false 44 (x::c) false false with
     | nil=>exact(Db _ _ _ _ _ hz).elim
     | cons y Y=>have:=Gw [] 45 y (by decide);simp only[glue,a1P];rw[a0V]at this;rw[a1h,this];rfl
    rw[v];simp
   simp_all[yj,hG]
  simp only[a0n a];have h:(fw r == [45])=false:=by grind [Nj,qF]
  rw[h];have p:=aq3 r;have u:dU false 44 (fw r)=C0 (fw r):=Ue _ _ _;rw[u,p.1];generalize gL r=z at *;obtain⟨A,d,j⟩:=z;dsimp only at *;cases d
  .simp
  cases g:bd j
  .simp[hF j _ _ g]
  simp_all[aq1,hG]
 grind
def qN(c:CR):RR:=⟨c.rc,c.tb,c.jM,c.wt,c.ev,c.rp,c.ifs.map qG,c.co,c.d⟩
def F0(d:Nat)(rc:LB)(told:Bool)(names:List LB)(t0 t1 t2:Int)(l:LB):Option RR:=(S4 l).map λx=>⟨rc,told,names,t0,t1,t2,x.1.map qG,x.2,d⟩
def G0(d:Nat)(rc:LB)(told:Bool)(names:List LB)(t0 t1 t2:Int)(W:List LB):Option RR:=(R4 W).map λx=>⟨rc,told,names,t0,t1,t2,x.1,x.2,d⟩
theorem aq5(d rc told names t0 t1 t2 l)(h:bd l=false):F0 d rc told names t0 t1 t2 l=none:=by grind [F0,avc]
def ave(d rc told names t0 t1 t2 l)(h:bd l=true):F0 d rc told names t0 t1 t2 l=G0 d rc told names t0 t1 t2 (tw l):=by unfold F0 G0;rw[<-avd l h];cases S4 l<;>rfl
def F1(d:Nat)(rc:LB)(told:Bool)(names:List LB)(t0 t1:Int)(l:LB):Option RR:=if (bZ rO l).2.1 then F0 d rc told names t0 t1 (bZ rO l).1 (bZ rO l).2.2 else none
def F2(d:Nat)(rc:LB)(told:Bool)(names:List LB)(t0:Int)(l:LB):Option RR:=if (bZ pV l).2.1 then F1 d rc told names t0 (bZ pV l).1 (bZ pV l).2.2 else none
def F3(d:Nat)(rc:LB)(told:Bool)(names:List LB)(l:LB):Option RR:=if (bZ qo l).2.1 then F2 d rc told names (bZ qo l).1 (bZ qo l).2.2 else none
def VK(d:Nat)(rc:LB)(told:Bool)(names:List LB)(k:Nat)(a:Int × Int × Int)(W:List LB):Option RR:=match nO k a W with | none=>none|some (a,W2)=>G0 d rc told names a.1 a.2.1 a.2.2 W2
def aq6(d rc told names t0 t1 l)(h:bd l=false):F1 d rc told names t0 t1 l=none:=by have:=akI (rW++[32]) (λl n=>F0 d rc told names t0 t1 n l) (λl n h=>aq5 _ _ _ _ _ _ _ l h) l h;exact this
def aq7(d rc told names t0 l)(h:bd l=false):F2 d rc told names t0 l=none:=by have:=akI (vQ++[32]) (λl n=>F1 d rc told names t0 n l) (λl n h=>aq6 _ _ _ _ _ _ l h) l h;exact this
theorem aq8(d rc told names l)(h:bd l=false):F3 d rc told names l=none:=by have:=akI (Az++[32]) (λl n=>F2 d rc told names n l) (λl n h=>aq7 _ _ _ _ _ l h) l h;exact this
theorem VL(d rc told names k a W):VK d rc told names (k+1) a W=if QQ (alP k) W then (if decide (iR (W.getD 1 [])<0) then none else VK d rc told names k (aqi k a (iR (W.getD 1 []))) (W.drop 2)) else VK d rc told names k a W:=by
 unfold VK;have e:nO (k+1) a W=if QQ (alP k) W then (if decide (iR (W.getD 1 [])<0) then none else nO k (aqi k a (iR (W.getD 1 []))) (W.drop 2)) else nO k a W:=by
  conv=>lhs;unfold nO
  rfl
 rw[e];by_cases b:QQ (alP k) W=true
 .grind
 simp only[a0n b]
def avf(d rc told names t0 t1 l)(h:bd l=true):F1 d rc told names t0 t1 l=VK d rc told names 1 (t0,t1,-1) (tw l):=by have:=abU rW (by decide) (λl n=>F0 d rc told names t0 t1 n l) (λW n=>VK d rc told names 0 (t0,t1,n) W) (λl n h=>aq5 _ _ _ _ _ _ _ l h) (λl n h=>ave _ _ _ _ _ _ _ l h) l h;rw[VL];exact this
def avg(d rc told names t0 l)(h:bd l=true):F2 d rc told names t0 l=VK d rc told names 2 (t0,-1,-1) (tw l):=by have:=abU vQ (by decide) (λl n=>F1 d rc told names t0 n l) (λW n=>VK d rc told names 1 (t0,n,-1) W) (λl n h=>aq6 _ _ _ _ _ _ l h) (λl n h=>avf _ _ _ _ _ _ l h) l h;rw[VL];exact this
def avh(d rc told names l)(h:bd l=true):F3 d rc told names l=VK d rc told names 3 (-1,-1,-1) (tw l):=by have:=abU Az (by decide) (λl n=>F2 d rc told names n l) (λW n=>VK d rc told names 2 (n,-1,-1) W) (λl n h=>aq7 _ _ _ _ _ l h) (λl n h=>avg _ _ _ _ _ l h) l h;rw[VL];exact this
def F4(d:Nat)(rc:LB)(l:LB):Option RR:=if (lK l).ok then F3 d rc (lK l).tells (lK l).names (lK l).rest else none
theorem avi(d rc l)(h:bd l=false):F4 d rc l=none:=by grind [F4,lK,Ug,aq8]
def G4(d:Nat)(rc:LB)(W:List LB):Option RR:=match qX W with | none=>none|some (told,names,W1)=>VK d rc told names 3 (-1,-1,-1) W1
theorem avj(d rc l)(h:bd l=true):F4 d rc l=G4 d rc (tw l) :=
 by_step (λl t n=>F3 d rc t n l) (λW t n=>VK d rc t n 3 (-1,-1,-1) W) (λl t n h=>aq8 _ _ _ _ l h) (λl t n h=>avh _ _ _ _ l h) l h
def F5(d:Nat)(l:LB):Option RR:=if (eZ l).2.1 then F4 d (eZ l).1 (eZ l).2.2 else none
theorem avk(d r):F5 d r=if aJ (fw r)||(fw r == [45]) then G4 d (fw r) (tw (wG r)) else none:=by
 have h:=aq0 r;rw[h.1];unfold F5;generalize eZ r=z at *;obtain⟨c,a,b⟩:=z;dsimp only at *;cases a
 .simp
 cases hb:bd b
 .simp[avi _ _ _ hb]
 simp_all[hb,avj]
theorem anZ(t):(gM t).map qN=if aQ lC (bO t).2 then F5 (bO t).1 (aK lC (bO t).2) else none:=by
 rw[aat];unfold F5 F4 F3 F2 F1 F0 S4 S4g;have m:srA t=eZ (aK lC (bO t).2):=rfl;have eb:srB t=lK (srA t).2.2:=rfl;have i:Ym t=dN (srB t).rest:=rfl;have em:srM t=wP 6 [] (Ym t).rest:=rfl;by_cases l:aQ lC (bO t).2=true
 .rw[a0m l,a0m l,<-m];by_cases k:(srA t).2.1=true
  .rw[a0m k,a0m k,<-eb];by_cases j:(srB t).ok=true
   .rw[a0m j,a0m j];generalize n:Ym t=c at *;unfold dN at i;dsimp only at i;subst i;dsimp only at *;generalize bZ qo (srB t).rest=a at *;generalize bZ pV a.2.2=b at *;generalize bZ rO b.2.2=c at *;by_cases h:a.2.1=true
    .by_cases d:b.2.1=true
     .by_cases g:c.2.1=true
      .rw[a0m (by simp[h,d,g]),a0m h,a0m d,a0m g,<-em];by_cases f:(srM t).2.1=true
       .rw[a0m f,a0m f];unfold S5;by_cases e:(aK iq (srM t).2.2).isEmpty=true
        .rw[a0m e,a0m e];rfl
        rw[a0n e,a0n e];rfl
       rw[a0n f,a0n f];rfl
      rw[a0n (by simp[g]),a0m h,a0m d,a0n g];rfl
     rw[a0n (by simp[d]),a0m h,a0n d];rfl
    grind
   grind
  grind
 grind
theorem avl(d W):rtW d W=if decide (W.length<2)||!(W.getD 0 []==Bn) then none else if aJ (W.getD 1 [])||(W.getD 1 [] == [45]) then G4 d (W.getD 1 []) (W.drop 2) else none:=by
 unfold rtW;by_cases a:(decide (W.length<2)||!(W.getD 0 []==Bn))=true
 .rw[a0m a,a0m a]
 rw[a0n a,a0n a];by_cases b:(aJ (W.getD 1 [])||(W.getD 1 [] == [45]))=true
 .rw[a0m b,a0n (by intro h;simp only[a0O,a1j]at h;rw[h.1,h.2]at b;simp at b)];unfold G4;cases qX (W.drop 2) with
  | none=>rfl
  | some x =>
    obtain⟨_,_,e⟩:=x;dsimp only;unfold VK;cases nO 3 (-1,-1,-1) e with
    | none=>rfl
    | some y =>
      obtain⟨f,c⟩:=y;dsimp only;unfold G0 R4 R4g;by_cases g:(dO (c.length+1) c []).2.2=true
      .grind
      grind
 grind
theorem an0(t):yY t=(gM t).map qN:=by
 rw[anZ];unfold yY;rw[avl,Ue];generalize (bO t).2=l;generalize (bO t).1=d;have g:oD true 32 l false false=fw l::tw (wG l):=EM l;rw[g];by_cases h:aQ lC l=true
 .rw[a0m h];have e:=fC _ _ h;generalize aK lC l=r at *;have i:l=Bn++32::r:=e;subst i;have f:=ma Bn (32::r) (by decide);have b:=yj (32::r) rfl;rw[f.1,f.2,b.1,b.2,Ad,EM,avk];simp;omega
 rw[a0n h,a0m];simp[a1a,a0U,a0r,a1j,List.getD_cons_zero];by_cases c:fw l=Bn
 .left;by_cases a:wG l=[]
  .rw[a,al2];simp
  exfalso;obtain⟨r,e⟩:=aih (afS _) a;apply h;have:=Nj l;rw[c,e]at this;rw[this];exact(qF lC r).1
 right;simpa using c
def D0(c:UInt8)(l:LB):List LB:=oD false c l false false
theorem axF(c):D0 c []=[[]]:=rfl
theorem VM(c r):D0 c (c::r)=[]::D0 c r:=by
 unfold D0;conv=>lhs;unfold oD
 simp
theorem Uh(c x r)(h:x≠c):D0 c (x::r)=glue [x] (D0 c r):=by
 unfold D0;conv=>lhs;unfold oD
 simp[h]
theorem Me(c l):D0 c l≠[]:=Db _ _ _ _ _
theorem afY(c):∀p s,(∀x∈p,x≠c)->D0 c (p++s)=glue p (D0 c s)
 | [],s,_=>by
   cases h:D0 c s with
   | nil=>exact(Me c s h).elim
   | cons=>simp[h,glue]
 | x::p,s,h=>by simp_all[Uh,afY,ze]
theorem aud(c l):dU false c l=D0 c l:=Ue _ _ _
def aiq(c l):∃h W,D0 c l=h::W/\(∀x r,l=x::r->x≠c->∃d,h=x::d):=by
 cases l with
 | nil=>exact⟨[],[],rfl,by simp⟩
 | cons x r =>
   by_cases a:x=c
   .subst a;exact⟨[],D0 x r,VM _ _,λy r' e b=>by simp at e;exact(b e.1.symm).elim⟩
   cases hz:D0 c r with
   | nil=>exact(Me c r hz).elim
   | cons y Y=>exact⟨x::y,Y,by rw[Uh c x r a,hz];rfl,λz r' e _=>by simp at e;exact⟨y,by rw[e.1]⟩⟩
theorem aq9:∀k acc l,9<=k+acc.length->acc.length<=8 ->
 DW (k+1) acc l=(match l with
  | []=>if 0<acc.length then some acc else none
  | x::r=>if x=32/\(D0 32 r).all aJ/\acc.length+(D0 32 r).length<=8 then some (acc++D0 32 r) else none):=by
 intro k;induction k with
 | zero=>omega
 | succ k j =>
 intro acc l o m;unfold DW;cases l with
 | nil =>
   have:aQ [32] []=false:=rfl;rw[this];by_cases p:0<acc.length<;>simp[p]
 | cons x r =>
   by_cases c:x=32
   .subst c;have ht:=qF [32] r;rw[a1h]at ht;rw[a0m ht.1];dsimp only;rw[ht.2];have e:r.takeWhile bK++r.dropWhile bK=r:=a1J;have f:∀x∈r.takeWhile bK,x≠32:=λx c=>(Mc (a1d.1 (nS bK r) x c)).1;have i:=vJ bK r;have t:D0 32 r=glue (r.takeWhile bK) (D0 32 (r.dropWhile bK)):=by rw[<-afY 32 _ _ f,e]
    rw[t];generalize r.takeWhile bK=n at *;generalize r.dropWhile bK=s at *;obtain⟨h,W,a,hh⟩:=aiq 32 s;rw[a];simp only[glue,a1P,a0r];have u:aJ (n++h)=true->aJ n=true/\(s=[]\/∃r',s=32::r'):=by
     intro b;cases s with
     | nil=>rw[axF]at a;simp at a;obtain⟨rfl,_⟩:=a;rw[a0R]at b;exact⟨b,.inl rfl⟩
     | cons y s' =>
       by_cases g:y=32
       .grind [VM]
       obtain⟨q,rfl⟩:=hh y s' rfl g;rw[Gw n y q (i y s' rfl)]at b;cases b
    by_cases d:(!(aJ n)||decide (8<=acc.length))=true
    .grind
    rw[a0n d];simp only[a1a,not_or,a1j,a2X,a0U]at d;rw[j (acc++[n]) s (by simp;omega) (by simp;omega)];cases s with
    | nil=>rw[axF]at a;simp at a;obtain⟨rfl,rfl⟩:=a;simp[d.1];omega
    | cons y s' =>
      dsimp only;by_cases g:y=32
      .grind [VM,D0,aJ]
      grind
   grind [aQ,take1]
theorem ara(t):abq t=iW t:=by
 unfold abq iW;rw[aud];by_cases ht:aQ mU t=true
 .rw[a0m ht];have e:=fC _ _ ht;generalize aK mU t=l at *;subst e;rw[afY 32 mU l (by decide),aq9 9 [] l (by simp) (by simp)];cases l with
  | nil=>rfl
  | cons x r =>
    dsimp only;by_cases a:x=32
    .grind [VM,D0,Me,glue,mU,aJ]
    obtain⟨h,W,f,hh⟩:=aiq 32 _;obtain⟨i,rfl⟩:=hh x r rfl a;rw[f,a0n (by simp[glue]),a0n (λh=>a h.1)]
 rw[a0n ht,a0n];intro hh;apply ht;simp[a0O,a0W]at hh;have b:=hh.1.1.1;have g:1<(D0 32 t).length:=by simpa using hh.1.1.2
 have key:∀(l:LB) (h:LB) (W:List LB),D0 32 l=h::W->∃s,l=h++s:=by
  intro l;induction l with
  | nil=>intro h W e;rw[axF]at e;simp at e;exact⟨[],by rw[e.1];rfl⟩
  | cons x r c =>
    intro h W e;by_cases a:x=32
    .simp_all[VM]
    rw[Uh 32 x _ a]at e;cases hz:D0 32 r with
    | nil=>exact(Me _ _ hz).elim
    | cons y Y=>rw[hz]at e;simp[glue]at e;obtain⟨s,d⟩:=c y Y hz;exact⟨s,by rw[<-e.1,d];rfl⟩
 cases hz:D0 32 t with
 | nil=>exact(Me _ _ hz).elim
 | cons h W =>
   rw[hz]at b;have:h=mU:=by simpa using b
   subst this;obtain⟨s,rfl⟩:=key t _ W hz;exact(qF mU s).1
def al6(x:Except Nat (List LB × List CR)):Except Nat (List LB × List RR):=match x with | .error n=>.error n | .ok (L,C)=>.ok (L,C.map qN)
theorem avm(x W)(a:W≠[])(i L R):sO (x::W) i L R=if i==0 then (match abq x with | none=>.error 1|some L'=>sO W 1 L' R) else (match yY x with | none=>.error (i+1)|some r=>sO W (i+1) L (R++[r])):=by
 cases W with
 | nil=>exact(a rfl).elim
 | cons y W=>conv=>lhs;unfold sO
             rfl
theorem Nn:∀l i cur L C,sO (glue cur (D0 10 l)) i L (C.map qN)=al6 (yw l (i+1) cur L C)
 | [],i,cur,L,C=>by grind [axF,glue,sO,yw,al6]
 | c::r,i,cur,L,C=>by
   unfold yw;by_cases f:c=10
   .subst f;rw[VM];simp only[glue,a0R];have b:((10:UInt8)==10)=true:=rfl;rw[avm _ _ (Me _ _),b,ara,an0];simp only[a0G];have d:D0 10 r=glue [] (D0 10 r):=by
     cases h:D0 10 r with
     | nil=>exact(Me _ _ h).elim
     | cons=>rfl
    by_cases a:i=0
    .subst a;rw[a0m (by rfl),a0m (by rfl)];cases e:iW cur with
     | none=>rfl
     | some k=>dsimp only;rw[d];exact Nn r 1 [] k C
    have j:(i==0)=false:=by simpa using a
    have g:(i+1==1)=false:=by simpa using a
    rw[j,g];simp[a0A,a0I];cases e:gM cur with
    | none=>rfl
    | some x=>simp only[a1x];rw[d];have:=Nn r (i+1) [] L (C++[x]);rw[a0P]at this;exact this
   simp_all[Uh,ze,Nn]
theorem akJ(t):sO (dU false 10 t) 0 [] []=al6 (oV t):=by
 have:=Nn t 0 [] [] [];have a:glue [] (D0 10 t)=D0 10 t:=by
  cases h:D0 10 t with
  | nil=>exact(Me _ _ h).elim
  | cons=>rfl
 rw[a]at this;rw[aud];exact this
theorem air:∀C i a,0<i->pX (C.map qN) i (a+1)=lD C i a
 | [],i,a,_=>rfl
 | c::C,i,a,g=>by
   rw[a0E];unfold pX lD;have b:(i==0)=false:=by rw[a0j];omega
   have f:uX i (qN c)=false:=by unfold uX;rw[b];rfl
   rw[f,b];have hd:(qN c).d=c.d:=rfl;simp only[a0A,a0I];have e:((!false&&!(qY i (a+1) (qN c)))||decide (5<(qN c).d)||decide (16<=i))=(!(jN (c.d:Int) (a:Int))||decide (16<=i)):=by grind [qY,jN,hd]
   rw[e,hd,air C (i+1) c.d (by omega)]
theorem an1(C):pX (C.map qN) 0 0=lD C 0 0:=by
 cases C with
 | nil=>rfl
 | cons c C =>
   rw[a0E];unfold pX lD;have a:uX 0 (qN c)=nW c:=by simp[uX,nW,qN]
   have hb:qY 0 0 (qN c)=false:=by unfold qY;rfl
   have hd:(qN c).d=c.d:=rfl;rw[a,hb,hd];have e:((!(nW c)&&!false)||decide (5<c.d)||decide (16<=0))=(!(if (0==0)=true then nW c else jN (c.d:Int) 0)||decide (16<=0)):=by grind [nW]
   rw[e,air C 1 c.d (by omega)]
theorem an3(C):uJ (C.map qN)=iX C:=by simp[uJ,iX,an1]
theorem ais(L):∀C i,lN L (C.map qN) i=xM L C i
 | [],i=>rfl
 | c::C,i=>by rw[a0E];unfold lN xM;rw[ais L C (i+1)];rfl
def axl(x:Except (Nat × Nat) (List LB × List CR)):Except (Nat × Nat) (List LB × List RR):=match x with | .error n=>.error n | .ok (L,C)=>.ok (L,C.map qN)
theorem arb(t):sF t=axl (jH t):=by
 unfold sF jH;by_cases a:1200<t.length
 .rw[a0m a,a0m a];rfl
 rw[a0n a,a0n a,akJ];cases oV t with
 | error n=>rfl
 | ok x =>
   obtain⟨L,C⟩:=x;simp[al6];have e:xh L (C.map qN)=if 0<iX C then (3,iX C) else if 0<mr L C then (4,mr L C) else (0,0):=by grind [xh,mr,an3,ais,iX,mq,xM]
   rw[e];by_cases c:0<iX C
   .simp only[a0m c];rfl
   simp only[a0n c];by_cases b:0<mr L C
   .simp only[a0m b];rfl
   simp only[a0n b];rfl
def asN(c)(h:xN c)(hd:c.d<=5):alQ (qN c):=by
 refine⟨by show c.d<=9000;omega,?_,h.byl,λn f=>xO (h.jM n f),h.wt,h.ev,h.rp,by show(c.ifs.map qG).length<=4;rw[a0y];exact h.ifl,λm i=>?_⟩
 .rcases h.rc with e|e
  .show c.rc.length<=8;rw[e];simp
  exact xO e
 have a:m∈c.ifs.map qG:=i;rw[a0q]at a;obtain⟨x,b,rfl⟩:=a;have g:=h.ifs x b;exact⟨xO g.name,by show(jr x.2.1).length<=2;unfold jr;split<;>(try split)<;>(try split)<;>simp,g.val⟩
def KS.own {s}(h:KS Z w0 kb w V U s)(i:Nat)(a:∀ca cq,(Gm V U s ca cq)[i]?=some r):OW r.ty r.k w0.heap.size w r.v r.vs:=by obtain⟨ca,cq,g⟩:=h.g;exact g.rw.asz i r (a ca cq)
theorem KS.lo {s}(h:KS Z w0 kb w V U s):kb<w0.heap.size/\w0.heap.size<=w.heap.size:=by obtain⟨ca,cq,g⟩:=h.g;exact⟨g.lo,g.fr.size⟩
theorem KS.put{s}(h:KS Z w0 kb w V U s)(f:aB [] w w1)(i r r')(d:∀ca cq,(Gm V U s ca cq)[i]?=some r)(l:∀ca cq,(Gm V U s ca cq).set i r'=Gm V' U' s' ca cq)(c:s'.a=s.a)(b:s'.q=s.q)
 (e:w1.grownBy w4 r.v.ownBlock) (ho:OW r'.ty r'.k w0.heap.size w4 r'.v r'.vs) (hb:r'.v.ownBlock=some gg) (t:r.v.ownBlock=some gg\/gg=w1.heap.size) (o v) (n:(VD V U).setIfInBounds o v=VD V' U'):KS Z w0 kb (w4.setCell (zB kb o) v) V' U' s':=by
 have y:=h.own i d;obtain⟨ca,cq,g⟩:=h.g;have z:=g.lo;have x:=g.aC f (by simp);have j:=x.grow i (d ca cq) e ho hb t;rw[l]at j;have u:=j.aC ((aB.refl [kb] _).setCell (p:=(zB kb o)) (.inl (by simp)) v) (by simp);refine⟨((h.row.aC f (by simp)).grown e (λr m=>by have:=(y.lt m).1;omega)).set o v n,ca,cq,?_⟩;rw[c,b];omega
def Mf(V:V6)(U:V4):LN:=[V.n,V.c,U.x,V.a,V.t,U.q].flatMap λv=>v.ownBlock.toList
theorem Np(V U s ca cq):owns (Gm V U s ca cq)=Mf V U:=rfl
structure KF(kb:Nat)(w:World)(V:V6)(U:V4)(w':World)(V':V6)(U':V4):Prop where
 f:aB (kb::Mf V U) w w'
 asz:∀g∈Mf V' U',g∈Mf V U\/w.heap.size<=g
theorem KF.refl(kb w V U):KF kb w V U w V U:=⟨zK,λg h=>.inl h⟩
theorem KF.trans{c}(h:KF kb w V U w1 V1 U1)(k:KF kb w1 V1 U1 c V2 U2):KF kb w V U c V2 U2:=by
 refine⟨h.f.over k.f ?_,λg d=>?_⟩
 .intro x b;rcases a0l.1 b with rfl|b
  .exact .inr (by simp)
  rcases h.asz x b with a|a
  .exact .inr (by simp[a])
  omega
 rcases k.asz g d with a|a
 .exact h.asz g a
 exact .inr (a0h h.f.size a)
def KF.of(h:aB [] w w1):KF kb w V U w1 V U:=⟨zK.over h (by simp),λg a=>.inl a⟩
theorem KF.put{s:CS} {ca cq ca' cq':List (Array Value)}(f:aB [] w w1)(i:Nat){r':RD}(c:(Gm V U s ca cq)[i]?=some r)(l:(Gm V U s ca cq).set i r'=Gm V' U' s' ca' cq')(n:w1.grownBy w4 r.v.ownBlock)(hb:r'.v.ownBlock=some gg)(a:r.v.ownBlock=some gg\/gg=w1.heap.size)(o:Nat)(v:Value):KF kb w V U (w4.setCell (zB kb o) v) V' U':=by
 have k:i<(Gm V U s ca cq).length:=(a0d.1 c).1;refine⟨((((aB.refl _ w).over f (by simp))).grown n (λg m=>.inl ?_)).setCell (p:=(zB kb o)) (.inl (by simp)) v,λg d=>?_⟩
 .rw[<-Np V U s ca cq];exact a0l.2 (.inr (oK.2 ⟨i,r,c,m⟩))
 rw[<-Np V' U' s' ca' cq',<-l]at d;obtain⟨j,t,b,ht⟩:=oK.1 d;by_cases e:j=i
 .subst e;rw[List.getElem?_set_self k]at b;cases b;rw[hb]at ht;cases ht;rcases a with a|a
  .exact .inl (by rw[<-Np V U s ca cq];exact oK.2 ⟨j,r,c,a⟩)
  exact .inr (by rw[a];exact f.size)
 rw[List.getElem?_set_ne (λh=>e h.symm)]at b;exact .inl (by rw[<-Np V U s ca cq];exact oK.2 ⟨j,t,b,ht⟩)
theorem KS.off {S w' s}(h:KS Z w0 kb w V U s)(f:aB S w w')(c:∀g∈S,g∈Z)(a:∀g∈S,w0.heap.size<=g)(ho:∀g∈S,g∉Mf V U):KS Z w0 kb w' V U s:=by have d:=h.lo.1;obtain⟨ca,cq,g⟩:=h.g;exact⟨h.row.aC f (λb=>by have:=a kb b;omega),ca,cq,g.off f c a ho⟩
def arc(a b):QE a b=(a.n==b.n&&(a.k==b.k&&a.x==b.x)):=rfl
def RW.tst {A v L}(h:RW A 3 w v (tc L)):∃a cap,v=.slice a L.length cap/\∀j (c:j<L.length),∃g off,a=some (zB g off)/\g<w.heap.size/\zC w g (off+j*3) (zI (L[j].n:Nat))/\zC w g (off+j*3+1) (zI (L[j].k:Nat))/\zC w g (off+j*3+2) (zI (L[j].x:Nat)):=by obtain⟨a,cap,e,m,f⟩:=h;rw[YX]at e;refine⟨a,cap,e,λj c=>?_⟩;obtain⟨g,off,i,l,d,b⟩:=f j (by rw[YX];omega);exact⟨g,off,i,d,b 0 _ (by simp[tc,kV]),b 1 _ (by simp[tc,kV]),b 2 _ (by simp[tc,kV])⟩
def Ui(Z w0 kb w V U s)(h:KS Z w0 kb w V U s)(x)(dY:s.t.length<=1000) :
 zF 60 #[zP kb,.agg (kV x)] w λe w'=>e=zR (zI (C6 s.t x:Nat))/\∃V',KS Z w0 kb w' V' U { s with t:=pE s.t x }/\(V'.r=V.r/\V'.i=V.i)/\KF kb w V U w' V' U:=by
 obtain⟨I,L,M,vt,vr,J⟩:=V;have Y:=h.own 4 (λca cq=>rfl);obtain⟨a,cap,rfl,r⟩:=(Y.rw (A:=[]) (by simp)).tst;have c3:=h.row.c 3;simp at c3;have R:=aj r;have O:=aj Y;have HK:=aj h;have jU:=h.lo;have YG:=h.row.lt;clear r Y h;obtain⟨f,d,b⟩:=x;simp only[kV];go_enter Tryz.func60,Tryz.ntmps60;go_wp2_with fail;go_loopg [13] s.t.length (λk N wr=>∃j:Nat,j+k=s.t.length/\N=zI j/\aB [] w wr/\Z_ (wr.heap[w.heap.size]?=some (.cells #[zI (f:Nat),zI (d:Nat),zI (b:Nat)] 102))/\Z_ (∀i (n:i<j) (D:i<s.t.length),QE s.t[i] ⟨f,d,b⟩=false));case atStart=>exact⟨0,by omega,rfl,(aB.refl _ _).alloc _,bD _ _,λi n=>by omega⟩
 case round =>
  obtain⟨j,_,rfl,hF,H,u⟩:=hrel;have F:=aj hF;have hB:=H.o;have:=aA9 hB;have T:w.heap.size<wr.heap.size:=(a0c.1 hB).1;have:=hF.at (p:=(zB kb 3)) YG c3;clear hB;by_cases aL:j<s.t.length
  .have gJ:=decLt j s.t.length (by omega);obtain⟨g,off,rfl,X,q0,q1,q2⟩:=R.o j aL;have t0:=hF.at (p:=(zB g (off+j*3))) X q0;have t1:=hF.at (p:=(zB g (off+j*3+1))) X q1;have t2:=hF.at (p:=(zB g (off+j*3+2))) X q2;have q:=arc s.t[j] ⟨f,d,b⟩;have m:Z_ (QE s.t[j] ⟨f,d,b⟩=true->C6 s.t ⟨f,d,b⟩=j):=λhe=>asB aL (λi n=>u.o i n (by omega)) he;have l:Z_ (QE s.t[j] ⟨f,d,b⟩=false->∀i (n:i<j+1) (D:i<s.t.length),QE s.t[i] ⟨f,d,b⟩=false):=λhe i n jc=>by
    by_cases e:i=j
    .subst e;exact he
    exact u.o i (by omega) jc
   clear q0 q1 q2 hF;generalize W:s.t[j]=tj at *;obtain⟨B,ak,ax⟩:=tj;clear W;simp only at t0 t1 t2 q;by_cases e1:B=f
   .subst e1;by_cases e2:ak=d
    .subst e2;by_cases e3:ax=b
     .subst e3;have C:Z_ (C6 s.t ⟨B,ak,ax⟩=j):=m.o (by rw[q];simp);have HA:Z_ (pE s.t ⟨B,ak,ax⟩=s.t):=by show _=_;unfold pE;rw[a0n];rw[C.o];omega
      clear m l u q;go_wp2;go_ret;rw[C.o,HA.o];exact⟨rfl,_,HK.o.aC (F.o.alloc _),⟨rfl,rfl⟩,KF.of (F.o.alloc _)⟩
     have z:Z_ (∀i (n:i<j+1) (D:i<s.t.length),QE s.t[i] ⟨B,ak,b⟩=false):=l.o (by rw[q];simp[e3]);clear m l u q;go_wp2;go_roundg (gk-1);case measure=>omega
     case rel=>exact⟨j+1,by omega,by go_num,F.o.alloc _,((aB.refl [] _).alloc _ |>.block w.heap.size T (by simp)).trans H,z⟩
    have z:Z_ (∀i (n:i<j+1) (D:i<s.t.length),QE s.t[i] ⟨B,d,b⟩=false):=l.o (by rw[q];simp[e2]);clear m l u q;go_wp2;go_roundg (gk-1);case measure=>omega
    case rel=>exact⟨j+1,by omega,by go_num,F.o.alloc _,((aB.refl [] _).alloc _ |>.block w.heap.size T (by simp)).trans H,z⟩
   have z:Z_ (∀i (n:i<j+1) (D:i<s.t.length),QE s.t[i] ⟨f,d,b⟩=false):=l.o (by rw[q];simp[e1]);clear m l u q;go_wp2;go_roundg (gk-1);case measure=>omega
   case rel=>exact⟨j+1,by omega,by go_num,F.o.alloc _,((aB.refl [] _).alloc _ |>.block w.heap.size T (by simp)).trans H,z⟩
  have C:Z_ (C6 s.t ⟨f,d,b⟩=s.t.length):=anz (λi n=>u.o i (by omega) n);have HA:Z_ (pE s.t ⟨f,d,b⟩=s.t++[⟨f,d,b⟩]):=by show _=_;unfold pE;rw[a0m C.o]
  have P:Z_ ((tc s.t).length=s.t.length):=YX s.t;have Dt:Z_ (∀r,Value.ownBlock (.slice a s.t.length cap)=some r->r≠kb):=λr hr=>by have:=(O.o.lt hr).1;omega
  have OR:=aj (O.o.aC hF (by simp));have v:=aj (HK.o.aC hF);have:kb<wr.heap.size:=by omega
  clear u hF;go_wp2_with fail;go_region_law ((refine CU _ (by rfl) _ _ 48 102 _ 3 24 anv Tryz.underlying48 (by rfl) (by omega) (by rfl) w0.heap.size (.slice a s.t.length cap) (tc s.t) wr.heap.size (kV ⟨f,d,b⟩) (0,0) (by rfl) (OR.o.aC (S:=[]) (((aB.refl [] _).alloc _).drew) (by simp)) (by rfl) (by rfl) (by exact bD _ _) (akj _) (by rw[P.o];omega) (by rw[P.o];omega) (by simp;omega) (wr.heap.size+1) (by simp) ?_;intro gg y w4 E G bq _;rw[P.o]at E |-;have R4:=aj ((v.o.row.aC (S:=[]) (((aB.refl [] _).alloc _).drew) (by simp)).grown G Dt);have k3:=R4.o.c 3;have y3:=R4.o.fz 3;simp at k3));all_goals
   rw[aqr]at E;have K5:=aj (v.o.put (((aB.refl [] _).alloc _).drew) 4 ⟨102,3,.slice a s.t.length cap,tc s.t⟩ ⟨102,3,zS gg (s.t.length+1) y,tc (s.t++[⟨f,d,b⟩])⟩ (V':=⟨I,L,M,zS gg (s.t.length+1) y,vr,J⟩) (U':=U) (s':={ s with t:=s.t++[⟨f,d,b⟩] }) (λca cq=>rfl) (λca cq=>rfl) rfl rfl G E rfl (by simpa using bq) 3 (zS gg (s.t.length+1) y) rfl);have KF5:Z_ (KF kb w ⟨I,L,M,.slice a s.t.length cap,vr,J⟩ U (w4.setCell (zB kb 3) (zS gg (s.t.length+1) y)) ⟨I,L,M,zS gg (s.t.length+1) y,vr,J⟩ U):=KF.put (s:=s) (s':={ s with t:=s.t++[⟨f,d,b⟩] }) (ca:=[]) (cq:=[]) (ca':=[]) (cq':=[]) ((F.o.alloc _).drew) 4 (r:=⟨102,3,.slice a s.t.length cap,tc s.t⟩) (r':=⟨102,3,zS gg (s.t.length+1) y,tc (s.t++[⟨f,d,b⟩])⟩) rfl rfl G rfl (by simpa using bq) 3 _;have m3:=K5.o.row.c 3;simp at m3;clear G E bq k3 y3 R4;go_wp2;go_ret;rw[C.o,HA.o];exact⟨congrArg Ending.returned (by go_num),_,K5,⟨rfl,rfl⟩,KF5⟩
def RCP(re:LB->Nat)(bI:LB->gz)(v:LB):Prop :=
 ∀w:World,zF 96 #[zT v] w λe w'=>aB [] w w'/\∃cs:Array Value,cs.size=259/\cs.all (·.oneCell')=true/\e=zQ #[.agg cs,zI (re v:Nat)]/\(re v=0->∀A:LN,(∀g∈A,g<w.heap.size)->dV adY A w' [cs] [bI v])
def KV(V V':V6)(U U':V4):Prop:=V'.r=V.r/\V'.i=V.i/\U'.rt=U.rt/\U'.l=U.l
theorem KV.refl(V U):KV V V U U:=⟨rfl,rfl,rfl,rfl⟩
theorem KV.trans(h:KV V V1 U U1)(k:KV V1 V2 U1 U2):KV V V2 U U2:=⟨k.1.trans h.1,k.2.1.trans h.2.1,k.2.2.1.trans h.2.2.1,k.2.2.2.trans h.2.2.2⟩
def NAQ(Z:LN)(re:LB->Nat)(bI:LB->gz)(w0:World)(kb:Nat)(w:World)(V:V6)(U:V4)(s:CS)(v:LB)(e:Ending)(w':World):Prop :=
 (iL s.x v<s.x.length/\e=zQ #[zI (iL s.x v:Nat),zI 0]/\KS Z w0 kb w' V U s/\KF kb w V U w' V U) \/
 (iL s.x v=s.x.length/\re v=0/\e=zQ #[zI (s.x.length:Nat),zI 0]/\∃V' U',KS Z w0 kb w' V' U' { s with x:=s.x++[v],a:=s.a++[bI v] }/\KV V V' U U'/\KF kb w V U w' V' U') \/
 (iL s.x v=s.x.length/\re v≠0/\e=zQ #[zI 0,zI (re v:Nat)]/\aB [kb] w0 w'/\KF kb w V U w' V U)
theorem KS.fr {s}(h:KS Z w0 kb w V U s):aB [kb] w0 w:=by obtain⟨ca,cq,g⟩:=h.g;exact g.fr
def KG.ait {rs ca c cq b}(h:KG Z w0 kb w rs ca c cq b):∀g∈kb::owns rs,g<w.heap.size:=by
 intro g a;rcases a0l.1 a with rfl|a
 .exact a0t h.lo h.fr.size
 obtain⟨i,r,d,ho⟩:=oK.1 a;exact((h.rw.asz i r d).lt ho).2
def Jb(Z re)(bI:LB->gz)(w0 kb w V U s)(h:KS Z w0 kb w V U s)(hZ:∀g∈Z,g<w.heap.size)(v)(hv:RCP re bI v)(hx:s.x.length<=1000)(hsa:s.a.length<=1000) :
 zF 76 #[zP kb,zT v] w (NAQ Z re bI w0 kb w V U s v):=by
 obtain⟨j,l,m,vt,vr,k⟩:=V;obtain⟨rt,n,t,ul⟩:=U;have hO:OW 9 1 w0.heap.size w n (sc s.x):=h.own 2 (r:=⟨9,1,n,sc s.x⟩) (λca cq=>rfl);have N1:=aj (VE w n [] s.x v (hO.rw (by simp)) (by omega));obtain⟨C,z,he⟩:=hO.shape;rw[iC]at he;subst he;have c7:=h.row.c 7;simp at c7;have X:=Eg s.x v;have HK:=aj h;have jU:=h.lo;have YG:=h.row.lt;have HV:=aj hv;clear h hO hv;by_cases I:iL s.x v<s.x.length
 .have gJ:=decLt (iL s.x v) s.x.length (by omega);have HFD:=aj I;clear I X;generalize hf:iL s.x v=fx at *;have HF:=aj hf;clear hf;delta zF;go_in;go_wp2_with fail;refine(N1.o).mono ?_;rintro e w1 ⟨rfl,rfl⟩;go_wp2;go_ret2;exact .inl ⟨by rw[HF.o];exact HFD,by rw[HF.o];rfl,HK,KF.refl _ _ _ _⟩
 have Lf:iL s.x v=s.x.length:=by omega
 rw[Lf]at N1;have HFE:=aj Lf;clear I X Lf;have N2:=aj (HV.o w);delta zF;go_in;go_wp2_with fail;refine(N1.o).mono ?_;rintro e w1' ⟨rfl,rfl⟩;clear N1;go_wp2_with fail;refine(N2.o).mono ?_;clear N2;rintro e w1 ⟨qh,cs,pY,fI,rfl,iG⟩;obtain⟨F,dY,E,hh3,xg⟩:∃F,(storeCells (zA w1.heap.size) cs.toList).run Tryz.prog (w1.alloc (Obj.cells Tryz.zeroCells100 100))=.ok () F/\Z_ (aB [] w1 F)/\Z_ (F.heap[w1.heap.size]?=some (.cells cs 100 (0,0)))/\F.heap.size=w1.heap.size+1:=by
  have hh:(w1.alloc (Obj.cells Tryz.zeroCells100 100)).heap[w1.heap.size]?=some (.cells Tryz.zeroCells100 100 (0,0)):=bD _ _;exact⟨_,vX hh (by rw[pY,jZ]) fI,((aB.refl [] w1).alloc _).over (aB.setRow _ _ _) (by simp),vW hh,by simp[World.setRow]⟩
 have HZ3:=aj xg;clear xg;have G:=aj (qh.trans E);have ayQ:=G.o.size;have M:=aj (HK.o.aC G);have k7:=M.o.row.c 7;simp at k7;have kz7:=M.o.row.fz 7;by_cases R:re v=0
 .have bJ:((re v:Int)==0)=true:=by rw[R];rfl
  have al8:Z_ (∀A:LN,(∀g∈A,g<w.heap.size)->dV adY A F [cs] [bI v]):=λA hA=>(iG R A hA).aC E.o (by simp);have N:=aj R;rw[R];have P:=aj pY;have adL:=aj fI;have fM:=qh.size;clear iG qh fI E bJ c7 R;have OX:=aj (M.o.own 2 (r:=⟨9,1,.slice C s.x.length z,sc s.x⟩) (λca cq=>rfl));have LD:Z_ (∀r,Value.ownBlock (.slice C s.x.length z)=some r->w0.heap.size<=r/\r<w.heap.size):=λr D=>⟨(OX.o.lt D).1,((HK.o.own 2 (r:=⟨9,1,.slice C s.x.length z,sc s.x⟩) (λca cq=>rfl)).lt D).2⟩;have gT:=jU.2;have hk0:=jU.1;go_upto_region 7 with fail;go_cut [6] (λv6 wc=>True/\v6=zI (s.x.length:Nat)/\∃n ca cq,KR wc kb ⟨j,l,m,vt,vr,k⟩ ⟨rt,n,t,ul⟩/\KG Z w0 kb wc (Gm ⟨j,l,m,vt,vr,k⟩ ⟨rt,n,t,ul⟩ { s with x:=s.x++[v] } ca cq) ca s.a cq s.q/\wc.heap[w1.heap.size]?=some (.cells cs 100 (0,0))/\dV adY (Z++kb::owns (Gm ⟨j,l,m,vt,vr,k⟩ ⟨rt,n,t,ul⟩ { s with x:=s.x++[v] } ca cq)) wc [cs] [bI v]/\KF kb w ⟨j,l,m,vt,vr,k⟩ ⟨rt,.slice C s.x.length z,t,ul⟩ wc ⟨j,l,m,vt,vr,k⟩ ⟨rt,n,t,ul⟩)
  case first =>
   go_wp2_with (at_builtin;refine ant _ rfl _ _ rfl w0.heap.size (.slice C s.x.length z) s.x F.heap.size v rfl (OX.o.aC (S:=[]) ((aB.refl [] _).alloc _) (by simp)) rfl (by simp) (by omega) (by simp;omega) ?_;intro L f w4 Mr Sl aue AO;have O4:=aj Mr;have G4:=aj Sl;have R4:=aj ((M.o.row.aC (S:=[]) ((aB.refl [] _).alloc _) (by simp)).grown G4.o (λr D=>by have:=(LD.o r D).1;omega));have j7:=R4.o.c 7;have jz:=R4.o.fz 7;simp at j7;have O:=aj aue;clear Mr Sl aue);go_meet;have K4:=M.o.put ((aB.refl [] _).alloc _) 2 ⟨9,1,.slice C s.x.length z,sc s.x⟩ ⟨9,1,zS L (s.x.length+1) f,sc (s.x++[v])⟩ (V':=⟨j,l,m,vt,vr,k⟩) (U':=⟨rt,zS L (s.x.length+1) f,t,ul⟩) (s':={ s with x:=s.x++[v] }) (λca cq=>rfl) (λca cq=>rfl) rfl rfl G4.o O4.o rfl O.o 7 (zS L (s.x.length+1) f) rfl;obtain⟨ca,cq,g4⟩:=K4.g;obtain⟨ca0,cq0,g0⟩:=HK.o.g;have RA:=(al8.o (Z++kb::owns (Gm ⟨j,l,m,vt,vr,k⟩ ⟨rt,.slice C s.x.length z,t,ul⟩ s ca0 cq0)) (λg W=>by rcases a0e.1 W with W|W;exact hZ g W;exact g0.ait g W)).aC (S:=[]) ((aB.refl [] _).alloc (Obj.cells #[zT v] 9)) (by simp);have RA2:=RA.turn (B:=Z++kb::owns (Gm ⟨j,l,m,vt,vr,k⟩ ⟨rt,zS L (s.x.length+1) f,t,ul⟩ { s with x:=s.x++[v] } ca cq)) G4.o (λr D=>VP 2 (r:=⟨9,1,.slice C s.x.length z,sc s.x⟩) rfl D) O.o (VN (rs:=Gm ⟨j,l,m,vt,vr,k⟩ ⟨rt,.slice C s.x.length z,t,ul⟩ s ca0 cq0) 2 (r:=⟨9,1,.slice C s.x.length z,sc s.x⟩) (r':=⟨9,1,zS L (s.x.length+1) f,sc (s.x++[v])⟩) rfl rfl);have FB:aB [kb] w4 (w4.setCell (zB kb 7) (zS L (s.x.length+1) f)):=(aB.refl [kb] _).setCell (p:=(zB kb 7)) (.inl (by simp)) _;refine⟨trivial,rfl,_,ca,cq,K4.row,g4,?_,RA2.aC FB (by simp),KF.put (s:=s) (s':={ s with x:=s.x++[v] }) (ca:=[]) (cq:=[]) (ca':=[]) (cq':=[]) (G.o.alloc _) 2 (r:=⟨9,1,.slice C s.x.length z,sc s.x⟩) (r':=⟨9,1,zS L (s.x.length+1) f,sc (s.x++[v])⟩) rfl rfl G4.o rfl O.o 7 _⟩;have h3:=HZ3.o;have e1:(F.alloc (Obj.cells #[zT v] 9)).heap[w1.heap.size]?=some (.cells cs 100 (0,0)):=(((aB.refl [] F).alloc _).block w1.heap.size (by omega) (by simp)).trans hh3;have e2:w4.heap[w1.heap.size]?=some (.cells cs 100 (0,0)):=(G4.o.block w1.heap.size (by simp;omega) (λe=>by have:=(LD.o _ e.symm).2;omega)).trans e1;exact(FB.block w1.heap.size (a0c.1 e2).1 (by simp;omega)).trans e2
  case rest =>
   obtain⟨_,rfl,n,ca,cq,u,y,hH,hRA,auf⟩:=hcut;have KFC:=aj auf;clear auf;have J:OW 100 259 w0.heap.size wc m (fZ ca):=y.rw.asz 3 ⟨100,259,m,fZ ca⟩ rfl;have ayR:ca.length<=1000:=by rw[y.ai.1];exact hsa
   obtain⟨H,d,Y⟩:=J.shape;rw[jA]at Y;subst Y;have OA:=aj J;have mI:=aj (jA ca);have HKR:=aj u;have HKG:=aj y;have HH:=aj hH;have HRA:=aj hRA;have T:=u.lt;have Il:=y.fr.size;have c2:=u.c 2;have z2:=u.fz 2;simp at c2;have ag:Value.ownBlock (.slice H ca.length d)≠some kb:=λe=>by have:=(OA.o.lt e).1;omega
   have g2z:∀o:Obj,(wc.drew.alloc o).frozen? (zB kb 2)=false:=λo=>((((aB.refl [] wc).drew).alloc o).frozen (p:=(zB kb 2)) T (by simp)).trans z2;clear J u y hH hRA M k7 kz7 OX LD;go_wp2_with fail;refine wp_region_any (by kernel_rfl) ?_;change wpAny _ _ _ _ _ _ _ (World.drew _);refine wpAny_take (i:=0) (v:=?v0) rfl (by kernel_rfl) (by kernel_rfl) (by kernel_rfl) (λ_ _ _ h=>h) (Or.inl ⟨by rfl,?h0⟩) ?_
   case h0 =>
    intro w;go_simp;with_reducible rfl
   refine wpAny_take (i:=1) (v:=?v1) rfl (by kernel_rfl) (by kernel_rfl) (by kernel_rfl) (λ_ _ _ h=>h) (Or.inl ⟨by rfl,?h1⟩) ?_
   case h1 =>
    intro w;go_simp;with_reducible rfl
   refine wpAny_take (i:=2) (v:=?v2) rfl (by kernel_rfl) (by kernel_rfl) (by kernel_rfl) (λ_ _ _ h=>h) (Or.inl ⟨by rfl,?h2⟩) ?_
   case h2 =>
    intro w;go_simp;with_reducible rfl
   refine wpAny_take (i:=3) (v:=?v3) rfl (by kernel_rfl) (by kernel_rfl) (by kernel_rfl) (λ_ _ _ h=>h) (Or.inl ⟨by rfl,?h3⟩) ?_
   case h3 =>
    intro w;go_simp;with_reducible rfl
   refine wpAny_take (i:=4) (v:=?v4) rfl (by kernel_rfl) (by kernel_rfl) (by kernel_rfl) (λ_ _ _ h=>h) (Or.inl ⟨by rfl,?h4⟩) ?_
   case h4 =>
    intro w;go_simp;with_reducible rfl
   refine wpAny_ready (rs:=[5,6]) (by kernel_rfl) (by simp) ?_;refine AllReady.cons rfl (λK b=>?_) (AllReady.cons rfl (λK b=>?_) AllReady.nil)
   focus
    go_simp;refine b _ _ ?_;clear b K;refine wpAny_ready (rs:=[6]) (by kernel_rfl) (by simp) ?_;refine AllReady.cons rfl (λK b=>?_) AllReady.nil;refine Lx _ (by rfl) _ (by rfl) w1.heap.size (by rfl) cs (rY HH.o P) ?_;refine b _ _ ?_;clear b K;refine wpAny_ready (rs:=[7]) (by kernel_rfl) (by simp) ?_;refine AllReady.cons rfl (λK b=>?_) AllReady.nil;refine AA _ (by rfl) _ (by rfl) cs (by rfl) P.o ?_
   rotate_left;refine Lx _ (by rfl) _ (by rfl) w1.heap.size (by rfl) cs (rY HH.o P) ?_;refine b _ _ ?_;clear b K;refine wpAny_ready (rs:=[5,7]) (by kernel_rfl) (by simp) ?_;refine AllReady.cons rfl (λK b=>?_) (AllReady.cons rfl (λK b=>?_) AllReady.nil)
   focus
    go_simp;refine b _ _ ?_;clear b K;refine wpAny_ready (rs:=[7]) (by kernel_rfl) (by simp) ?_;refine AllReady.cons rfl (λK b=>?_) AllReady.nil;refine AA _ (by rfl) _ (by rfl) cs (by rfl) P.o ?_
   rotate_left;refine AA _ (by rfl) _ (by rfl) cs (by rfl) P.o ?_;refine b _ _ ?_;clear b K;refine wpAny_ready (rs:=[5]) (by kernel_rfl) (by simp) ?_;refine AllReady.cons rfl (λK b=>?_) AllReady.nil;have c2a:zC (wc.drew.alloc (Obj.cells cs 100)) kb 2 (.slice H ca.length d):=((((aB.refl [] wc).drew).alloc _).cell (p:=(zB kb 2)) T (by simp)).trans c2;go_simp;all_goals
    refine b _ _ ?_;clear b K;refine wpAny_ready (rs:=[8]) (by kernel_rfl) (by simp) ?_;refine AllReady.cons rfl (λK b=>?_) AllReady.nil
    (refine CU _ (by rfl) _ _ 47 100 _ 259 312 ahU Tryz.underlying47 jZ (by omega) (by rfl) w0.heap.size (.slice H ca.length d) (fZ ca) wc.heap.size cs (0,0) (by rfl) (OA.o.aC (S:=[]) (((aB.refl [] _).drew).alloc _) (by simp)) (by rfl) P.o (by exact bD _ _) adL.o (by rw[mI.o];omega) (by rw[mI.o];omega) (by simp;omega) (wc.heap.size+1) (by simp) ?_;intro gg f w4 bT aH bq AO;have c4:=(aH.cell_far (zB kb 2) (by simp;omega) (Ne.symm ag));have f4:=(aH.frozen_far (zB kb 2) (by simp;omega) (Ne.symm ag));have f5:=f4.trans (g2z _);rw[mI.o]at bT |-)
    refine b _ _ ?_;clear b K;refine wpAny_take (i:=9) (v:=?v9) rfl (by kernel_rfl) (by kernel_rfl) (by kernel_rfl) (λ_ _ _ h=>h) (Or.inl ⟨by rfl,?h9⟩) ?_
    case h9 =>
     intro w;go_simp;try with_reducible rfl
    refine wpAny_take (i:=10) (v:=?v10) rfl (by kernel_rfl) (by kernel_rfl) (by kernel_rfl) (λ_ _ _ h=>h) (Or.inl ⟨by rfl,?h10⟩) ?_
    case h10 =>
     intro w;go_simp;try with_reducible rfl
    refine wpAny_take (i:=11) (v:=?v11) rfl (by kernel_rfl) (by kernel_rfl) (by kernel_rfl) (λ_ _ _ h=>h) (Or.inl ⟨by rfl,?h11⟩) ?_
    case h11 =>
     intro w;go_simp;try with_reducible rfl
    refine wpAny_ready (rs:=[12]) (by kernel_rfl) (by simp) ?_;refine AllReady.cons rfl (λK b=>?_) AllReady.nil;go_simp;refine b _ _ ?_;clear b K;refine wpAny_done (by kernel_rfl) ?_ _;have G5:=aj aH;have O5:=aj bT;have YK:Z_ (Value.ownBlock (.slice H ca.length d)=some gg\/gg=(wc.drew.alloc (Obj.cells cs 100)).heap.size):=bq.imp id (λh=>by rw[h];simp);clear aH bT bq;go_wp2;go_ret2;have F3:aB [] wc (wc.drew.alloc (Obj.cells cs 100)):=((aB.refl [] wc).drew).alloc _;have O6:=O5.o;rw[Gi]at O6;have g5:=(HKG.o.aC F3 (by simp)).grow 3 (r:=⟨100,259,.slice H ca.length d,fZ ca⟩) (r':=⟨100,259,zS gg (ca.length+1) f,fZ (ca++[cs])⟩) rfl G5.o O6 rfl YK;have r5:=(HRA.o.aC F3 (by simp)).turn G5.o (λr D=>VP 3 (r:=⟨100,259,.slice H ca.length d,fZ ca⟩) rfl D) YK.o (VN 3 (r:=⟨100,259,.slice H ca.length d,fZ ca⟩) (r':=⟨100,259,zS gg (ca.length+1) f,fZ (ca++[cs])⟩) rfl rfl);have g6:KG Z w0 kb w4 (Gm ⟨j,l,zS gg (ca.length+1) f,vt,vr,k⟩ ⟨rt,n,t,ul⟩ { s with x:=s.x++[v],a:=s.a++[bI v] } (ca++[cs]) cq) (ca++[cs]) (s.a++[bI v]) cq s.q:=⟨g5.fr,g5.lo,g5.rw,g5.ai.snoc (r5.2 0 cs (bI v) rfl rfl),g5.qi⟩;have R6:=((HKR.o.aC F3 (by simp)).grown G5.o (λr D e=>ag (by rw[D,e]))).set (V':=⟨j,l,zS gg (ca.length+1) f,vt,vr,k⟩) (U':=⟨rt,n,t,ul⟩) 2 (zS gg (ca.length+1) f) rfl;exact .inr (.inl ⟨HFE,N,rfl,_,_,⟨R6,ca++[cs],cq,g6.aC (S:=[kb]) ((aB.refl [kb] _).setCell (p:=(zB kb 2)) (.inl (by simp)) _) (by simp)⟩,⟨rfl,rfl,rfl,rfl⟩,KFC.o.trans (KF.put (s:=s) (s':=s) (ca:=ca) (cq:=cq) (ca':=ca++[cs]) (cq':=cq) F3 3 (r:=⟨100,259,.slice H ca.length d,fZ ca⟩) (r':=⟨100,259,zS gg (ca.length+1) f,fZ (ca++[cs])⟩) rfl rfl G5.o rfl YK.o 2 _)⟩)
 have N:=aj R;have bJ:((re v:Int) != 0)=true:=by rw[a1M];omega
 have hne':decide ((re v:Int)=0)=false:=a0f (by omega);clear iG qh fI E;go_wp2;go_ret2;exact .inr (.inr ⟨HFE,N,rfl,M.o.fr,KF.of G⟩)
end
section
variable {Z:LN} {w w0:World} {V:V6} {L:List LB} {x:LB} {g:Nat}
def KS.Dx {kb U s}(h:KS Z w0 kb w V U s):∀g∈kb::Mf V U,g<w.heap.size:=by obtain⟨ca,cq,g⟩:=h.g;exact g.ait
theorem KF.aY {kb a wb e U i}(h:KF kb a V U wb e i) {n b o}(c:∀g∈kb::Mf V U,g<n)(hb:n<=b)(ho:a.heap[b]?=some o):wb.heap[b]?=some o :=
 (h.f.block b (a0c.1 ho).1 (λd=>by have:=c b d;omega)).trans ho
def aeq(h:iL L x=L.length):l9 L x=L++[x]:=by unfold l9;rw[a0m h]
def aer(h:¬ iL L x=L.length):l9 L x=L:=by unfold l9;rw[a0n h]
def TOQ(Z:LN)(re:LB->Nat)(bI:LB->gz)(w0:World)(kb:Nat)(w:World)(V:V6)(U:V4)(s:CS)(m:CM)(e:Ending)(w':World):Prop :=
 (nP re bI s m=none/\re m.2.2≠0/\aB [kb] w0 w'/\∃t,e=zQ #[.agg (kV t),zI (re m.2.2:Nat)]) \/
 (∃t s1 V' U',nP re bI s m=some (t,s1)/\e=zQ #[.agg (kV t),zI 0]/\KS Z w0 kb w' V' U' s1/\KV V V' U U'/\KF kb w V U w' V' U')
def avn:(Tryz.prog.info? 102).map (·.size)=some 3:=by kernel_rfl
def wZ {cs}(h:w.heap[g]?=some (.cells cs 102 (0,0)))(a:cs.size=3):(loadVar 102 (zA g)).run Tryz.prog w=.ok (.agg cs) w :=
 run_loadVar_row w g 102 102 cs (0,0) _ h Tryz.underlying102 rfl (by rw[a];exact avn)
def xc {t f e d}(c b a)(h:w.heap[g]?=some (.cells #[f,e,d] t (0,0))):(((w.setCell (zA g) c).setCell (zB g 1) b).setCell (zB g 2) a).heap[g]?=some (.cells #[c,b,a] t (0,0)):=by simp[World.setCell,a0v,h]
def VQ(w g c b a):aB [g] w (((w.setCell (zA g) c).setCell (zB g 1) b).setCell (zB g 2) a) :=
 (((aB.refl [g] _).setCell (p:=(zA g)) (.inl (by simp)) _).setCell (p:=(zB g 1)) (.inl (by simp)) _).setCell (p:=(zB g 2)) (.inl (by simp)) _
def aiu(Z re)(bI:LB->gz)(w0 kb w V U s)(h:KS Z w0 kb w V U s)(hZ:∀g∈Z,g<w.heap.size)(nm kd d)(hv:(kd=2\/kd=3)->RCP re bI d)(hkd:kd<=3)(hbn:s.n.length<=1000)(XL:s.c.length<=1000)(Nz:s.x.length<=1000)(hba:s.a.length<=1000) :
 zF 59 #[zP kb,.agg #[zT nm,zI (kd:Nat),zT d]] w (TOQ Z re bI w0 kb w V U s (nm,kd,d)):=by
 obtain⟨vn,C,A,vt,vr,z⟩:=V;have hO:=h.own 0 (λca cq=>rfl);obtain⟨E,cn,he⟩:=hO.shape;rw[iC]at he;subst he;have HOL:=h.Dx;have jU:=h.lo;have YG:=h.row.lt;have hfl:=Eg s.n nm;have c0:=h.row.c 0;simp at c0;have N1:∀W,aB [] w W->zF 75 #[.slice E s.n.length cn,zT nm] W λe w'=>e=zR (zI (iL s.n nm:Nat))/\w'=W:=λW hW=>(VE W _ [] s.n nm ((hO.rw (by simp)).aC hW (by simp)) (by omega)).mono (λe w' h=>⟨h.1,h.2.symm⟩);have FW:∀n,aB [] w (((w.alloc (.cells #[zT nm,zI (kd:Nat),zT d] 149)).alloc (.cells #[zI 0,zI 0,zI 0] 102)).drewN n):=λn=>(((aB.refl [] w).alloc _).alloc _).drewN n;clear hO;delta zF;go_in;go_upto_region 1 with fail;go_cut [6] (λv6 wc=>True/\v6=zI (iL s.n nm:Nat)/\aB [] w wc/\wc.heap[w.heap.size]?=some (.cells #[zT nm,zI (kd:Nat),zT d] 149 (0,0))/\wc.heap[w.heap.size+1]?=some (.cells #[zI 0,zI 0,zI 0] 102 (0,0)))
 case first =>
  go_quiet ((go_at_call 75;exact Calls.quiet_of_same (N1 _ (FW _))));go_wp2;go_meet;exact⟨trivial,rfl,FW _,(zG.block w.heap.size (by simp) (by simp)).trans (bD _ _),Nf _ _ _⟩
 case rest =>
  obtain⟨_,rfl,O,HM,HT⟩:=hcut;obtain⟨J,hwa⟩:∃J,J=wc:=⟨_,rfl⟩;subst hwa;have KA:=((h.alU (a0b _)).alU (Nat.le_succ _)).aC O;have:w.heap.size+1<J.heap.size:=(a0c.1 HT).1;have m0:zC J w.heap.size 0 (zT nm):=by simp[World.cell?,HM]
  have d0:=O.at (p:=(zA kb)) YG c0;have z0:=KA.row.fz 0;have:=KA.row.lt;have OA:=KA.own 0 (r:=⟨9,1,.slice E s.n.length cn,sc s.n⟩) (λca cq=>rfl);have R:(sc s.n).length=s.n.length:=iC s.n;have Dt:∀r,Value.ownBlock (.slice E s.n.length cn)=some r->r≠kb:=λr hr=>by have:=(OA.lt hr).1;omega
  clear N1 FW c0;go_upto_if 25 with fail;go_cut [6] (λv6 wc=>True/\v6=zI (iL s.n nm:Nat)/\∃q,KS ((w.heap.size+1)::w.heap.size::Z) w0 kb wc ⟨q,C,A,vt,vr,z⟩ U { s with n:=l9 s.n nm }/\KF kb J ⟨.slice E s.n.length cn,C,A,vt,vr,z⟩ U wc ⟨q,C,A,vt,vr,z⟩ U)
  case first =>
   by_cases Y:iL s.n nm=s.n.length
   .have B:=aeq Y;have kv:((iL s.n nm:Int)==(s.n.length:Int))=true:=by rw[Y];simp
    clear hfl;generalize iL s.n nm=fx at *;subst Y;go_wp2_with fail;go_region_law ((refine CU _ (by rfl) _ _ 46 9 _ 1 16 uY Tryz.underlying46 (by rfl) (by omega) (by rfl) w0.heap.size (.slice E s.n.length cn) (sc s.n) J.heap.size #[zT nm] (0,0) (by rfl) (OA.aC (S:=[]) (zG.drew) (by simp)) (by rfl) (by rfl) (by exact bD _ _) (by simp[Value.oneCell']) (by rw[R];omega) (by rw[R];omega) (by simp;omega) (J.heap.size+1) (by simp) ?_;intro u v w4 bT L bq AO;rw[R]at bT |-;have R4:=(KA.row.aC (S:=[]) (zG.drew) (by simp)).grown L Dt;have k0:=R4.c 0;have y0:=R4.fz 0;simp at k0));all_goals
     have O4:OW 9 1 w0.heap.size w4 (zS u (s.n.length+1) v) (sc (s.n++[nm])):=by rw[<-abt];exact bT
     have K5:=KA.put (zG.drew) 0 ⟨9,1,.slice E s.n.length cn,sc s.n⟩ ⟨9,1,zS u (s.n.length+1) v,sc (s.n++[nm])⟩ (V':=⟨zS u (s.n.length+1) v,C,A,vt,vr,z⟩) (U':=U) (s':={ s with n:=s.n++[nm] }) (λca cq=>rfl) (λca cq=>rfl) rfl rfl L O4 rfl (by simpa using bq) 0 (zS u (s.n.length+1) v) rfl;have N:KF kb J ⟨.slice E s.n.length cn,C,A,vt,vr,z⟩ U (w4.setCell (zA kb) (zS u (s.n.length+1) v)) ⟨zS u (s.n.length+1) v,C,A,vt,vr,z⟩ U:=KF.put (s:=s) (s':={ s with n:=s.n++[nm] }) (ca:=[]) (cq:=[]) (ca':=[]) (cq':=[]) (zG.drew) 0 (r:=⟨9,1,.slice E s.n.length cn,sc s.n⟩) (r':=⟨9,1,zS u (s.n.length+1) v,sc (s.n++[nm])⟩) rfl rfl L rfl (by simpa using bq) 0 _;clear L bT bq k0 y0 R4 O4;go_wp2;go_meet;exact⟨trivial,rfl,_,by rw[B];exact K5,N⟩
   have B:=aer Y;have kv:((iL s.n nm:Int)==(s.n.length:Int))=false:=by rw[a0j];omega
   generalize iL s.n nm=fx at *;go_wp2;go_meet;exact⟨trivial,rfl,_,by rw[B];exact KA,KF.refl _ _ _ _⟩
  case rest =>
   obtain⟨_,rfl,q,KB,M⟩:=hcut;obtain⟨wb,EH⟩:∃wb,wb=wc:=⟨_,rfl⟩;subst EH;have hmb:=M.aY HOL (a0b _) HM;have:zC wb w.heap.size 1 (zI (kd:Nat)):=by simp[World.cell?,hmb]
   have:zC wb w.heap.size 2 (zT d):=by simp[World.cell?,hmb]
   have:=M.f.size;have hkb:=KB.row.lt;have HZ2:∀g∈(w.heap.size+1)::w.heap.size::Z,g<wb.heap.size:=λg hg=>by
    simp at hg;rcases hg with rfl|rfl|hg
    .omega
    .omega
    have:=hZ g hg;omega
   have D:∀(l:World) (H:V6) (I:V4) (s3:CS) (a b c:Value),KS ((w.heap.size+1)::w.heap.size::Z) w0 kb l H I s3->KF kb wb ⟨q,C,A,vt,vr,z⟩ U l H I->KS Z w0 kb (((l.setCell (zA (w.heap.size+1)) a).setCell (zB (w.heap.size+1) 1) b).setCell (zB (w.heap.size+1) 2) c) H I s3/\KF kb w ⟨.slice E s.n.length cn,C,A,vt,vr,z⟩ U (((l.setCell (zA (w.heap.size+1)) a).setCell (zB (w.heap.size+1) 1) b).setCell (zB (w.heap.size+1) 2) c) H I:=by
    intro l H I _ a b c hk hf;have fI:=M.trans hf;have FS:=VQ l (w.heap.size+1) a b c;have j:=hk.off FS (by simp) (by simp;omega) (by
     intro g hg hm;simp at hg;subst hg;rcases fI.asz _ hm with T|T
     .have:=HOL (w.heap.size+1) (by simp[T]);omega
     omega)
    have K:=(KF.of (kb:=kb) (V:=⟨.slice E s.n.length cn,C,A,vt,vr,z⟩) (U:=U) O).trans fI;exact⟨j.afK.afK,K.f.over FS (by simp),K.asz⟩
   have X:∀(l:World) (H:V6) (I:V4),KF kb wb ⟨q,C,A,vt,vr,z⟩ U l H I->l.heap[w.heap.size+1]?=some (.cells #[zI 0,zI 0,zI 0] 102 (0,0)):=λl H I hf=>(M.trans hf).aY HOL (Nat.le_succ _) HT;clear hmb m0 d0 z0 OA R Dt;by_cases hk:kd=2\/kd=3
   .have N2:=(Jb ((w.heap.size+1)::w.heap.size::Z) re bI w0 kb wb ⟨q,C,A,vt,vr,z⟩ U { s with n:=l9 s.n nm } KB HZ2 d (hv hk) Nz hba);have y:nP re bI s (nm,kd,d)=if iL s.x d<s.x.length then some (⟨iL s.n nm,1,iL s.x d⟩,{ s with n:=l9 s.n nm }) else if re d=0 then some (⟨iL s.n nm,1,iL s.x d⟩,{ s with n:=l9 s.n nm,x:=s.x++[d],a:=s.a++[bI d] }) else none:=by unfold nP;rw[a0m hk]
    generalize iL s.n nm=fn at *;rcases hk with rfl|rfl
    .go_wp2_with fail;refine N2.mono ?_;clear N2;rintro e l hN;rcases hN with⟨j,rfl,i,m⟩|⟨j,T,rfl,H,I,i,P,m⟩|⟨j,F,rfl,F3,m⟩
     .have t:=D l _ _ _ (zI (fn:Nat)) (zI 1) (zI (iL s.x d:Nat)) i m;have k:=X l _ _ m;have G:nP re bI s (nm,2,d)=some (⟨fn,1,iL s.x d⟩,{ s with n:=l9 s.n nm }):=by rw[y,a0m j]
      have:=aA9 k;clear j i m y;generalize iL s.x d=fv at *;go_wp2_with fail;refine bodyPost_ret (bS rfl _ _ (w.heap.size+1) (kV ⟨fn,1,fv⟩) rfl (wZ (xc _ _ _ k) rfl)) rfl ?_;exact .inr ⟨_,_,_,_,G,rfl,t.1,KV.refl _ _,t.2⟩
     .have t:=D l _ _ _ (zI (fn:Nat)) (zI 1) (zI (s.x.length:Nat)) i m;have k:=X l _ _ m;have G:nP re bI s (nm,2,d)=some (⟨fn,1,s.x.length⟩,{ s with n:=l9 s.n nm,x:=s.x++[d],a:=s.a++[bI d] }):=by rw[y,a0n (by simp only at j;omega),a0m T];simp only at j;rw[j]
      have:=aA9 k;clear j T i m y;go_wp2_with fail;refine bodyPost_ret (bS rfl _ _ (w.heap.size+1) (kV ⟨fn,1,s.x.length⟩) rfl (wZ (xc _ _ _ k) rfl)) rfl ?_;exact .inr ⟨_,_,_,_,G,rfl,t.1,⟨P.1,P.2.1,P.2.2.1,P.2.2.2⟩,t.2⟩
     have k:=X l _ _ m;have G:nP re bI s (nm,2,d)=none:=by rw[y,a0n (by simp only at j;omega),a0n F]
     have:=aA9 k;clear j m y;go_wp2_with fail;refine bodyPost_ret (bS rfl _ _ (w.heap.size+1) (kV ⟨fn,1,0⟩) rfl (wZ (xc _ _ _ k) rfl)) rfl ?_;exact .inl ⟨G,F,F3.over (VQ _ _ _ _ _) (by simp;omega),_,rfl⟩
    go_wp2_with fail;refine N2.mono ?_;clear N2;rintro e l hN;rcases hN with⟨j,rfl,i,m⟩|⟨j,T,rfl,H,I,i,P,m⟩|⟨j,F,rfl,F3,m⟩
    .have t:=D l _ _ _ (zI (fn:Nat)) (zI 1) (zI (iL s.x d:Nat)) i m;have k:=X l _ _ m;have G:nP re bI s (nm,3,d)=some (⟨fn,1,iL s.x d⟩,{ s with n:=l9 s.n nm }):=by rw[y,a0m j]
     have:=aA9 k;clear j i m y;generalize iL s.x d=fv at *;go_wp2_with fail;refine bodyPost_ret (bS rfl _ _ (w.heap.size+1) (kV ⟨fn,1,fv⟩) rfl (wZ (xc _ _ _ k) rfl)) rfl ?_;exact .inr ⟨_,_,_,_,G,rfl,t.1,KV.refl _ _,t.2⟩
    .have t:=D l _ _ _ (zI (fn:Nat)) (zI 1) (zI (s.x.length:Nat)) i m;have k:=X l _ _ m;have G:nP re bI s (nm,3,d)=some (⟨fn,1,s.x.length⟩,{ s with n:=l9 s.n nm,x:=s.x++[d],a:=s.a++[bI d] }):=by rw[y,a0n (by simp only at j;omega),a0m T];simp only at j;rw[j]
     have:=aA9 k;clear j T i m y;go_wp2_with fail;refine bodyPost_ret (bS rfl _ _ (w.heap.size+1) (kV ⟨fn,1,s.x.length⟩) rfl (wZ (xc _ _ _ k) rfl)) rfl ?_;exact .inr ⟨_,_,_,_,G,rfl,t.1,⟨P.1,P.2.1,P.2.2.1,P.2.2.2⟩,t.2⟩
    have k:=X l _ _ m;have G:nP re bI s (nm,3,d)=none:=by rw[y,a0n (by simp only at j;omega),a0n F]
    have:=aA9 k;clear j m y;go_wp2_with fail;refine bodyPost_ret (bS rfl _ _ (w.heap.size+1) (kV ⟨fn,1,0⟩) rfl (wZ (xc _ _ _ k) rfl)) rfl ?_;exact .inl ⟨G,F,F3.over (VQ _ _ _ _ _) (by simp;omega),_,rfl⟩
   have y:nP re bI s (nm,kd,d)=some (⟨iL s.n nm,0,iL s.c d⟩,{ s with n:=l9 s.n nm,c:=l9 s.c d }):=by unfold nP;rw[a0n hk]
   have:((kd:Int)==2)=false:=by rw[a0j];omega
   have:((kd:Int)==3)=false:=by rw[a0j];omega
   have OB:OW 9 1 w0.heap.size wb C (sc s.c):=KB.own 1 (r:=⟨9,1,C,sc s.c⟩) (λca cq=>rfl);obtain⟨ac,VR,he⟩:=OB.shape;rw[iC]at he;subst he;have c1:=KB.row.c 1;simp at c1;have N3:∀W,aB [] wb W->zF 75 #[.slice ac s.c.length VR,zT d] W λe w'=>e=zR (zI (iL s.c d:Nat))/\w'=W:=λW hW=>(VE W _ [] s.c d ((OB.rw (by simp)).aC hW (by simp)) (by omega)).mono (λe w' h=>⟨h.1,h.2.symm⟩);have FB:∀n,aB [] wb (wb.drewN n):=λn=>(aB.refl [] _).drewN n;have hfc:=Eg s.c d;have R:(sc s.c).length=s.c.length:=iC s.c;have Dt:∀r,Value.ownBlock (.slice ac s.c.length VR)=some r->r≠kb:=λr hr=>by have:=(OB.lt hr).1;omega
   have hmw:w.heap.size<wb.heap.size:=by omega
   have:∀n o,zC ((wb.drewN n).alloc o) kb 1 (.slice ac s.c.length VR):=λn o=>((((aB.refl [] wb).drewN n).alloc o).cell (p:=(zB kb 1)) hkb (by simp)).trans c1;generalize iL s.n nm=fn at *;by_cases Y:iL s.c d=s.c.length
   .have B:=aeq Y;rw[Y]at N3 y;clear hfc;go_wp2_with fail;go_quiet ((go_at_call 75;exact Calls.quiet_of_same (N3 _ (FB _))));go_wp2_with fail;go_region_law ((refine CU _ (by rfl) _ _ 46 9 _ 1 16 uY Tryz.underlying46 (by rfl) (by omega) (by rfl) w0.heap.size (.slice ac s.c.length VR) (sc s.c) wb.heap.size #[zT d] (0,0) (by rfl) (OB.aC (S:=[]) (((aB.refl [] _).drewN _).alloc _) (by simp)) (by rfl) (by rfl) (by exact bD (wb.drewN _) _) (by simp[Value.oneCell']) (by rw[R];omega) (by rw[R];omega) (by simp;omega) (wb.heap.size+1) (by simp) ?_;intro u v w4 bT L bq _;rw[R]at bT |-;have R4:=(KB.row.aC (S:=[]) (((aB.refl [] _).drewN _).alloc _) (by simp)).grown L Dt;have k1:=R4.c 1;have y1:=R4.fz 1;simp at k1));all_goals
     have O4:OW 9 1 w0.heap.size w4 (zS u (s.c.length+1) v) (sc (s.c++[d])):=by rw[<-abt];exact bT
     have K5:=KB.put (((aB.refl [] _).drewN _).alloc _) 1 ⟨9,1,.slice ac s.c.length VR,sc s.c⟩ ⟨9,1,zS u (s.c.length+1) v,sc (s.c++[d])⟩ (V':=⟨q,zS u (s.c.length+1) v,A,vt,vr,z⟩) (U':=U) (s':={ s with n:=l9 s.n nm,c:=s.c++[d] }) (λca cq=>rfl) (λca cq=>rfl) rfl rfl L O4 rfl (by simpa using bq) 1 (zS u (s.c.length+1) v) rfl;have N:KF kb wb ⟨q,.slice ac s.c.length VR,A,vt,vr,z⟩ U (w4.setCell (zB kb 1) (zS u (s.c.length+1) v)) ⟨q,zS u (s.c.length+1) v,A,vt,vr,z⟩ U:=KF.put (s:=s) (s':={ s with c:=s.c++[d] }) (ca:=[]) (cq:=[]) (ca':=[]) (cq':=[]) (((aB.refl [] _).drewN _).alloc _) 1 (r:=⟨9,1,.slice ac s.c.length VR,sc s.c⟩) (r':=⟨9,1,zS u (s.c.length+1) v,sc (s.c++[d])⟩) rfl rfl L rfl (by simpa using bq) 1 _;have k:=X _ _ _ N;have t:=D _ _ _ _ (zI (fn:Nat)) (zI 0) (zI (s.c.length:Nat)) K5 N;have:=aA9 k;clear L bT bq k1 y1 R4 O4;generalize w4.setCell (zB kb 1) (zS u (s.c.length+1) v)=w5 at *;go_wp2_with fail;refine bodyPost_ret (bS rfl _ _ (w.heap.size+1) (kV ⟨fn,0,s.c.length⟩) rfl (wZ (xc _ _ _ k) rfl)) rfl ?_;exact .inr ⟨_,_,_,_,by rw[y,B],rfl,t.1,⟨rfl,rfl,rfl,rfl⟩,t.2⟩
   have B:=aer Y;have:((iL s.c d:Int)==(s.c.length:Int))=false:=by rw[a0j];omega
   generalize iL s.c d=fc at *;have k:=X wb _ _ (KF.refl _ _ _ _);have:=aA9 k;go_wp2_with fail;go_quiet ((go_at_call 75;exact Calls.quiet_of_same (N3 _ (FB _))));go_wp2_with fail;refine bodyPost_ret (bS rfl _ _ (w.heap.size+1) (kV ⟨fn,0,fc⟩) rfl (wZ (xc _ _ _ (k:(wb.drewN nq).heap[w.heap.size+1]?=_)) rfl)) rfl ?_;have t:=D (wb.drewN nq) _ _ _ (zI (fn:Nat)) (zI 0) (zI (fc:Nat)) (KB.aC (FB nq)) (KF.of (FB nq));exact .inr ⟨_,_,_,_,by rw[y,B],rfl,t.1,KV.refl _ _,t.2⟩
def mF(re:LB->Nat):List CM->Nat
 | []=>0
 | m::r=>if (m.2.1==2||m.2.1==3)&&!(re m.2.2==0) then re m.2.2 else mF re r
def xF(re:LB->Nat):List CR->Nat->Nat × Nat
 | [],_=>(0,0)
 | c::r,i=>if !(mF re c.ifs==0) then (mF re c.ifs,i+2) else xF re r (i+1)
theorem ard {re} {bI:LB->gz} {s}(b:∀y∈s.x,re y=0)(m) :
 (nP re bI s m=none/\(m.2.1==2||m.2.1==3)=true/\re m.2.2≠0)\/(∃t s1,nP re bI s m=some (t,s1)/\(∀y∈s1.x,re y=0)/\((m.2.1==2||m.2.1==3)&&!(re m.2.2==0))=false):=by
 unfold nP;by_cases a:m.2.1=2\/m.2.1=3
 .rw[a0m a];by_cases d:iL s.x m.2.2<s.x.length
  .rw[a0m d];refine .inr ⟨_,_,rfl,b,?_⟩;have hz:re m.2.2=0:=by grind [iL]
   simp[hz]
  grind
 grind
theorem El {re} {bI:LB->gz}:∀M s acc,(∀y∈s.x,re y=0) ->
 (∃e,nu re bI s acc M=.error e/\mF re M=e/\e≠0)\/(∃l s1,nu re bI s acc M=.ok (l,s1)/\mF re M=0/\∀y∈s1.x,re y=0)
 | [],s,acc,a=>.inr ⟨acc,s,rfl,rfl,a⟩
 | m::r,s,acc,a=>by
   rcases ard (bI:=bI) a m with⟨d,c,b⟩|⟨t,s1,d,c,b⟩
   .grind [nu,mF]
   have e:nu re bI s acc (m::r)=nu re bI { s1 with t:=pE s1.t t } (acc++[(C6 s1.t t,IV m)]) r:=by rw[nu,d]
   rw[e,mF,b];exact El r { s1 with t:=pE s1.t t } _ c
theorem Uk {re} {bI:LB->gz}:∀C s i,(∀y∈s.x,re y=0) ->
 (∃e,pread re bI s i C=.error e/\xF re C i=e/\e.1≠0)\/(∃s1,pread re bI s i C=.ok s1/\xF re C i=(0,0)/\∀y∈s1.x,re y=0)
 | [],s,i,a=>.inr ⟨s,rfl,rfl,a⟩
 | c::r,s,i,a=>by
   rcases El (bI:=bI) c.ifs s [] a with⟨e,f,d,b⟩|⟨l,s1,f,d,b⟩
   .grind [pread,xF]
   have e:pread re bI s i (c::r)=pread re bI { s1 with q:=s1.q++[l] } (i+1) r:=by rw[pread,f]
   rw[e,xF,d];exact Uk r { s1 with q:=s1.q++[l] } (i+1) b
structure CSB(s:CS)(k:Nat):Prop where
 n:s.n.length<=k
 c:s.c.length<=k
 x:s.x.length<=k
 a:s.a.length<=k
 t:s.t.length<=k
def aeu(L x):(l9 L x).length<=L.length+1:=by unfold l9;split<;>simp
def VS(L x):(pE L x).length<=L.length+1:=by unfold pE;split<;>simp
def aev {re} {bI:LB->gz} {s s1 t k}(h:CSB s k) {m}(he:nP re bI s m=some (t,s1)):CSB { s1 with t:=pE s1.t t } (k+1)/\s1.t=s.t/\s1.q=s.q:=by
 have:=aeu s.n m.1;have:=aeu s.c m.2.2;obtain⟨i,g,f,e,d⟩:=h;unfold nP at he;split at he
 .split at he
  .cases he;have ht:=VS s.t ⟨iL s.n m.1,1,iL s.x m.2.2⟩;exact⟨⟨by simp only;omega,by simp only;omega,by simp only;omega,by simp only;omega,by simp only;omega⟩,rfl,rfl⟩
  split at he
  .cases he;have ht:=VS s.t ⟨iL s.n m.1,1,iL s.x m.2.2⟩;exact⟨⟨by simp only;omega,by simp only;omega,by simp;omega,by simp;omega,by simp only;omega⟩,rfl,rfl⟩
  cases he
 cases he;have:=VS s.t ⟨iL s.n m.1,0,iL s.c m.2.2⟩;exact⟨⟨by simp only;omega,by simp only;omega,by simp only;omega,by simp only;omega,by simp only;omega⟩,rfl,rfl⟩
def KS.aew{Z' kb U s}(h:KS Z w0 kb w V U s)(c:∀g∈Z',g∈Z\/w.heap.size<=g):KS Z' w0 kb w V U s:=by
 obtain⟨ca,cq,g⟩:=h.g;have av:∀x∈Z'++kb::owns (Gm V U s ca cq),x∈Z++kb::owns (Gm V U s ca cq)\/w.heap.size<=x:=by
  intro x a;rcases a0e.1 a with a|a
  .rcases c x a with b|b
   .exact .inl (a0e.2 (.inl b))
   omega
  exact .inl (a0e.2 (.inr a))
 exact⟨h.row,ca,cq,g.fr,g.lo,g.rw,g.ai.cO av,g.qi.cO av⟩
def RW.mts {A v M}(h:RW A 3 w v (LH M)):∃a cap,v=.slice a M.length cap/\∀j (c:j<M.length),∃g off,a=some (zB g off)/\g∉A/\g<w.heap.size/\zC w g (off+j*3) (.string (bs M[j].1))/\zC w g (off+j*3+1) (zI (M[j].2.1:Nat))/\zC w g (off+j*3+2) (.string (bs M[j].2.2)):=by obtain⟨a,cap,e,l,i⟩:=h;rw[show(LH M).length=M.length by simp[LH]]at e;refine⟨a,cap,e,λj c=>?_⟩;obtain⟨g,off,k,f,d,b⟩:=i j (by simpa[LH] using c);exact⟨g,off,k,f,d,b 0 _ (by simp[LH,Bb]),b 1 _ (by simp[LH,Bb]),b 2 _ (by simp[LH,Bb])⟩
def asO:(Tryz.prog.info? 147).map (λi=>(i.zero,i.size,i.bytes))=some (some zN,1,24):=by kernel_rfl
def aiw:(Tryz.prog.info? 154).map (λi=>(i.zero,i.size,i.bytes))=some (some (.agg #[zI 0,.bool false]),2,16):=by kernel_rfl
theorem aex(w:World)(fd hb j u)(a:[Value.int .i64 (fd:Nat),Value.bool hb][j]?=some u):(w.alloc (Obj.cells #[.int .i64 (fd:Nat),.bool hb] 154)).cell? ⟨w.heap.size,j,none⟩=some u:=by simp only[World.cell?,bD w (Obj.cells #[.int .i64 (fd:Nat),.bool hb] 154)];simpa using a
theorem an4(w:World)(v j u)(a:[v][j]?=some u):(w.alloc (Obj.cells #[v] 147)).cell? ⟨w.heap.size,j,none⟩=some u:=by simp only[World.cell?,bD w (Obj.cells #[v] 147)];simpa using a
def RMQ(Z:LN)(re:LB->Nat)(bI:LB->gz)(w0:World)(kb:Nat)(V:V6)(U:V4)(s:CS)(M:List CM)(e:Ending)(w':World):Prop :=
 (∃n,nu re bI s [] M=.error n/\e=zR (zI (n:Nat))/\aB [kb] w0 w') \/
 (∃l s1 V' U',nu re bI s [] M=.ok (l,s1)/\e=zR (zI 0)/\KS Z w0 kb w' V' U' { s1 with q:=s1.q++[l] }/\KV V V' U U')
def Ul(Z re)(bI:LB->gz)(w0 kb w V U s)(h:KS Z w0 kb w V U s)(hZ:∀g∈Z,g<w.heap.size)(kG:CSB s 500)(v M)(hM:RW [kb] 3 w0 v (LH M))(hMl:M.length<=4)(hMk:∀m∈M,m.2.1<=3/\((m.2.1=2\/m.2.1=3)->RCP re bI m.2.2))(hq:s.q.length<=1000) :
 zF 45 #[zP kb,v] w (RMQ Z re bI w0 kb V U s M):=by
 obtain⟨am,cm,rfl,r⟩:=hM.mts;have R:=aj r;have HK:=aj h;have HMK:=aj hMk;have jU:=h.lo;have YG:=h.row.lt;have HOL:=aj h.Dx;have HZ:=aj hZ;have HCB:=aj kG;clear h hM r hMk hZ kG;delta zF;go_in;go_wp2_with fail;go_loopg [5,15] M.length (λk v5 v15 wr=>∃(j:Nat) (acc:List (Nat × Bool)) (B:CS) (N:V6) (Uj:V4),j+k=M.length/\v15=zI j/\acc.length=j/\w.heap.size<=wr.heap.size/\OW 154 2 w.heap.size wr v5 (cc acc)/\Z_ (∀g,v5.ownBlock=some g->g∉Mf N Uj)/\Z_ (KS (v5.ownBlock.toList++Z) w0 kb wr N Uj B)/\Z_ (KV V N U Uj)/\Z_ (nu re bI B acc (M.drop j)=nu re bI s [] M)/\Z_ (CSB B (500+j))/\Z_ (B.q=s.q))
 case atStart =>
  refine⟨0,[],s,V,U,by omega,rfl,rfl,by simp,OW.empty _ _ _ _ (a0b _),?_,?_,KV.refl _ _,?_,HCB,?_⟩
  .intro g b y;have e:w.heap.size=g:=by simpa[Value.ownBlock] using b
   have:=HOL.o g (by simp[y]);omega
  .exact(HK.o.aew (λg b=>by
    rcases a0e.1 b with d|d
    .exact .inr (by have:g=w.heap.size:=by simpa[Value.ownBlock] using d
                    omega)
    exact .inl d)).aC ((aB.refl [] _).alloc _)
  .show _=_;rfl
  show _=_;rfl
 case round =>
  obtain⟨j,acc,B,N,Uj,lU,rfl,ja,hzr,hO,X,T,Gx,HP,CBJ,HQ⟩:=hrel;obtain⟨ac,l,he⟩:=hO.shape;rw[YY,ja]at he;subst he;have O:=aj hO;clear hO;by_cases aL:j<M.length
  .have gJ:=decLt j M.length (by omega);obtain⟨gm,om,rfl,arf,J,q0,q1,q2⟩:=R.o j aL;have t0:=(T.o.fr.cell (p:=(zB gm (om+j*3))) J arf).trans q0;have t1:=(T.o.fr.cell (p:=(zB gm (om+j*3+1))) J arf).trans q1;have t2:=(T.o.fr.cell (p:=(zB gm (om+j*3+2))) J arf).trans q2;have ayW:=a0t J T.o.fr.size;have Oh:=HMK.o M[j] (a0u aL);have hdp:M.drop j=M[j]::M.drop (j+1):=a0k aL;have HP1:Z_ (nu re bI B acc (M[j]::M.drop (j+1))=nu re bI s [] M):=by show _=_;rw[<-hdp];exact HP
   generalize M[j]=m at *;obtain⟨nm,kd,F⟩:=m;simp only at t0 t1 t2 Oh;have Ko:=CBJ.o;obtain⟨b1,b2,b3,b4,b5⟩:=Ko;have N1:=aj (aiu ((Value.ownBlock (.slice ac j l)).toList++Z) re bI w0 kb (wr.alloc (Obj.cells #[zT nm,zI (kd:Nat),zT F] 149)) N Uj B (T.o.aC ((aB.refl [] _).alloc _)) (by
    intro g b;rcases a0e.1 b with d|d
    .have:=(O.o.lt (by simpa using d)).2;simp;omega
    have:=HZ.o g d;simp;omega) nm kd F Oh.2 Oh.1 (by omega) (by omega) (by omega) (by omega))
   clear q0 q1 q2 HP hdp;go_wp2_with fail;refine(N1.o).mono ?_;clear N1;rintro e w2 hT;rcases hT with⟨d,i,C,t,rfl⟩|⟨t,s1,V2,G,d,rfl,hK2,aix,aug⟩
   .have HE:Z_ (nu re bI s [] M=.error (re F)):=by show _=_;rw[<-HP1.o,nu,d]
    have bJ:((re F:Int) != 0)=true:=by rw[a1M];simp only at i;omega
    have Jl:((re F:Int)==0)=false:=by rw[a0j];simp only at i;omega
    have F3:=aj C;clear d i C;simp only[kV];go_wp2;go_ret;exact .inl ⟨_,HE,rfl,F3.o.alloc _⟩
   obtain⟨auh,CE,aui⟩:=aev CBJ.o d;have Qi:Z_ (nu re bI { s1 with t:=pE s1.t t } (acc++[(C6 s1.t t,IV (nm,kd,F))]) (M.drop (j+1))=nu re bI s [] M):=by show _=_;rw[<-HP1.o,nu,d]
   have CB2:=aj auh;have HQ2:Z_ ({ s1 with t:=pE s1.t t }.q=s.q):=aui.trans HQ;have N2:=aj (Ui _ w0 kb (w2.alloc (Obj.cells (kV t) 102)) V2 G s1 (hK2.aC ((aB.refl [] _).alloc _)) t (by rw[CE];omega));have K2F:=aj aug;have E:=aj (Gx.o.trans aix);have hbm:(wr.alloc (Obj.cells #[zT nm,zI (kd:Nat),zT F] 149)).heap[wr.heap.size]?=some (.cells #[zT nm,zI (kd:Nat),zT F] 149 (0,0)):=bD _ _;have HBM:=aj hbm;have OL:=aj T.o.Dx;obtain⟨tn,tk,tx⟩:=t;simp only[kV]at N2 |-;clear d hK2 aix aug auh CE aui HP1 hbm Gx t0 t1 t2;go_wp2_with fail;refine(N2.o).mono ?_;clear N2;rintro e A ⟨rfl,V4,hK4,hV4,auj⟩;have W:KF kb (wr.alloc (Obj.cells #[zT nm,zI (kd:Nat),zT F] 149)) N Uj A V4 G:=K2F.o.trans ((KF.of ((aB.refl [] w2).alloc _)).trans auj);have MS:A.heap[wr.heap.size]?=some (.cells #[zT nm,zI (kd:Nat),zT F] 149 (0,0)):=(W.f.block wr.heap.size (by simp) (λy=>by have:=OL.o _ y;omega)).trans HBM;have m1:zC A wr.heap.size 1 (zI (kd:Nat)):=by simp[World.cell?,MS]
   have O4:=aj ((O.o.aC (S:=[]) ((aB.refl [] _).alloc _) (by simp)).off W.f (λg b y=>by
    rcases a0l.1 y with rfl|y
    .have:=(O.o.lt b).1;omega
    exact X.o g b y))
   have P:Z_ (∀g,Value.ownBlock (.slice ac j l)=some g->g∉Mf V4 G):=λg b y=>by
    rcases W.asz g y with d|d
    .exact X.o g b d
    have:=(O.o.lt b).2;simp at d;omega
   have K4:=aj hK4;have auk:Z_ (KV V V4 U G):=⟨hV4.1.trans E.o.1,hV4.2.trans E.o.2.1,E.o.2.2.1,E.o.2.2.2⟩;have Yl:wr.heap.size<A.heap.size:=(a0c.1 MS).1;have mI:Z_ ((cc acc).length=j):=by show _=_;rw[YY];exact ja
   generalize hfd:C6 s1.t ⟨tn,tk,tx⟩=fd at *;clear hfd hK4 hV4 auj W MS K2F HBM E X T;rcases(show(kd=0\/kd=2)\/(kd=1\/kd=3) by omega) with hk|hk
   .rcases hk with rfl|rfl;all_goals
     go_wp2_with (at_builtin;refine qD _ rfl _ _ 147 154 _ 2 16 aiw Tryz.underlying147 rfl (by omega) rfl w.heap.size (.slice ac j l) (cc acc) A.heap.size [zI (fd:Nat),.bool true] rfl (O4.o.aC (S:=[]) ((aB.refl [] _).alloc _) (by simp)) rfl rfl (aex _ _ _) (by intro u Y;simp at Y;rcases Y with rfl|rfl<;>rfl) (by rw[mI.o];omega) (by rw[mI.o];omega) (by simp;omega) ?_;intro z L w5 wH aH bq arh;rw[mI.o]at wH |-;have O5:=aj wH;have G5:=aj aH;have YK:=aj bq;clear wH aH bq);have I:aB [] A (A.alloc (Obj.cells #[zI (fd:Nat),.bool true] 154)):=(aB.refl [] _).alloc _;have FG:aB (Value.ownBlock (.slice ac j l)).toList (A.alloc (Obj.cells #[zI (fd:Nat),.bool true] 154)) w5:=(aB.refl _ _).grown G5.o (λr hr=>.inl (by simp[hr]));have K5:KS ([z]++Z) w0 kb w5 V4 G { s1 with t:=pE s1.t ⟨tn,tk,tx⟩ }:=by
      have k1:=(K4.o.aC I).aew (Z':=(Value.ownBlock (.slice ac j l)).toList++(z::Z)) (λg b=>by
       rcases a0e.1 b with d|d
       .exact .inl (a0e.2 (.inl d))
       rcases a0l.1 d with rfl|d
       .rcases YK.o with i|i
        .exact .inl (a0e.2 (.inl (by simp[i])))
        exact .inr (by rw[i];exact a0b _)
       exact .inl (a0e.2 (.inr d)))
      have k2:=k1.off FG (λg b=>a0e.2 (.inl b)) (λg b=>by have:=(O4.o.lt (by simpa using b)).1;omega) (λg b=>P.o g (by simpa using b));exact k2.aew (λg b=>.inl (a0e.2 (.inr (by simpa using b))))
     have HK5:=aj K5;have NO5:Z_ (∀g,Value.ownBlock (zS z (j+1) L)=some g->g∉Mf V4 G):=λg b y=>by
      have e:z=g:=by simpa[Value.ownBlock] using b
      subst e;rcases YK.o with i|i
      .exact P.o _ i y
      have C:=K4.o.Dx z (by simp[y]);rw[i]at C;simp at C;omega
     have H:=O5.o;rw[show cc acc++[[Value.int .i64 (fd:Nat),Value.bool true]]=cc (acc++[(fd,true)]) from ahV acc (fd,true)]at H;have HO6:=aj H;have Fu:=FG.size;have Sa:=I.size;clear I FG K5 H;go_roundg (gk-1);case measure=>omega
     case rel=>exact⟨j+1,acc++[(fd,true)],_,V4,G,by omega,by go_num,by simp;omega,by omega,HO6,NO5,HK5,auk,Qi,CB2,HQ2⟩
   rcases hk with rfl|rfl;all_goals
    go_wp2_with (at_builtin;refine qD _ rfl _ _ 147 154 _ 2 16 aiw Tryz.underlying147 rfl (by omega) rfl w.heap.size (.slice ac j l) (cc acc) A.heap.size [zI (fd:Nat),.bool false] rfl (O4.o.aC (S:=[]) ((aB.refl [] _).alloc _) (by simp)) rfl rfl (aex _ _ _) (by intro u Y;simp at Y;rcases Y with rfl|rfl<;>rfl) (by rw[mI.o];omega) (by rw[mI.o];omega) (by simp;omega) ?_;intro z L w5 wH aH bq arh;rw[mI.o]at wH |-;have O5:=aj wH;have G5:=aj aH;have YK:=aj bq;clear wH aH bq);have I:aB [] A (A.alloc (Obj.cells #[zI (fd:Nat),.bool false] 154)):=(aB.refl [] _).alloc _;have FG:aB (Value.ownBlock (.slice ac j l)).toList (A.alloc (Obj.cells #[zI (fd:Nat),.bool false] 154)) w5:=(aB.refl _ _).grown G5.o (λr hr=>.inl (by simp[hr]));have K5:KS ([z]++Z) w0 kb w5 V4 G { s1 with t:=pE s1.t ⟨tn,tk,tx⟩ }:=by
     have k1:=(K4.o.aC I).aew (Z':=(Value.ownBlock (.slice ac j l)).toList++(z::Z)) (λg b=>by
      rcases a0e.1 b with d|d
      .exact .inl (a0e.2 (.inl d))
      rcases a0l.1 d with rfl|d
      .rcases YK.o with i|i
       .exact .inl (a0e.2 (.inl (by simp[i])))
       exact .inr (by rw[i];exact a0b _)
      exact .inl (a0e.2 (.inr d)))
     have k2:=k1.off FG (λg b=>a0e.2 (.inl b)) (λg b=>by have:=(O4.o.lt (by simpa using b)).1;omega) (λg b=>P.o g (by simpa using b));exact k2.aew (λg b=>.inl (a0e.2 (.inr (by simpa using b))))
    have HK5:=aj K5;have NO5:Z_ (∀g,Value.ownBlock (zS z (j+1) L)=some g->g∉Mf V4 G):=λg b y=>by
     have e:z=g:=by simpa[Value.ownBlock] using b
     subst e;rcases YK.o with i|i
     .exact P.o _ i y
     have C:=K4.o.Dx z (by simp[y]);rw[i]at C;simp at C;omega
    have H:=O5.o;rw[show cc acc++[[Value.int .i64 (fd:Nat),Value.bool false]]=cc (acc++[(fd,false)]) from ahV acc (fd,false)]at H;have HO6:=aj H;have Fu:=FG.size;have Sa:=I.size;clear I FG K5 H;go_roundg (gk-1);case measure=>omega
    case rel=>exact⟨j+1,acc++[(fd,false)],_,V4,G,by omega,by go_num,by simp;omega,by omega,HO6,NO5,HK5,auk,Qi,CB2,HQ2⟩
  have gJ:=aBb j M.length (by omega);have hj:j=M.length:=by omega
  have HE:Z_ (nu re bI s [] M=.ok (acc,B)):=by
   show _=_;rw[<-HP.o,hj,a2H];rfl
  have KZ:=T.o.aew (Z':=Z) (λg b=>.inl (a0e.2 (.inr b)));obtain⟨rt,ux,uq,ul⟩:=Uj;obtain⟨ca,cq,b⟩:=KZ.g;have hOQ:OW 147 1 w0.heap.size wr uq (fZ cq):=b.rw.asz 5 ⟨147,1,uq,fZ cq⟩ rfl;have hcq:cq.length<=1000:=by rw[b.qi.1,HQ.o];exact hq
  obtain⟨aq,D,heq⟩:=hOQ.shape;rw[jA]at heq;subst heq;have c8:=KZ.row.c 8;simp at c8;have z8:=KZ.row.fz 8;have hkr:=KZ.row.lt;have HRQ:Z_ (dV aqu (Z++kb::owns (Gm N ⟨rt,ux,.slice aq cq.length D,ul⟩ B ca cq)) wr [#[.slice ac j l]] [acc]):=by
   refine⟨rfl,λn cs x d i=>?_⟩;rcases n with _|n
   .simp at d i;subst d i;refine⟨_,rfl,O.o.rw (λg iD y=>?_)⟩;rcases a0e.1 y with C|C
    .have h4:=HZ.o g C;have h5:=(O.o.lt iD).1;omega
    rcases a0l.1 C with rfl|C
    .have h5:=(O.o.lt iD).1;omega
    exact X.o g iD C
   simp at d
  have HG:=aj b;have OQ:=aj hOQ;have HTQ:Z_ ((fZ cq).length=cq.length):=jA cq;have HKR:=aj KZ.row;have Dt:Z_ (∀r,Value.ownBlock (.slice aq cq.length D)=some r->r≠kb):=λr hr=>by have:=(OQ.o.lt hr).1;omega
  have ayX:=b.fr.size;clear b hOQ KZ T HP hj;go_wp2_with (at_builtin;refine qD _ rfl _ _ 120 147 _ 1 24 asO Tryz.underlying120 rfl (by omega) rfl w0.heap.size (.slice aq cq.length D) (fZ cq) wr.heap.size [.slice ac j l] rfl (OQ.o.aC (S:=[]) ((aB.refl [] _).alloc _) (by simp)) rfl rfl (an4 _ _) (by intro u Y;simp at Y;rcases Y with rfl;rfl) (by rw[HTQ.o];omega) (by rw[HTQ.o];omega) (by simp;omega) ?_;intro z L A bT aH bq AO;rw[HTQ.o]at bT |-;have O4:=aj bT;have G4:=aj aH;have YK:=aj bq;have R4:=aj ((HKR.o.aC (S:=[]) ((aB.refl [] _).alloc _) (by simp)).grown G4.o Dt);have k8:=R4.o.c 8;have y8:=R4.o.fz 8;simp at k8;clear bT aH bq);go_ret;have I:aB [] wr (wr.alloc (Obj.cells #[.slice ac j l] 147)):=(aB.refl [] _).alloc _;have H:=O4.o;rw[show fZ cq++[[Value.slice ac j l]]=fZ (cq++[#[.slice ac j l]]) from Gi cq #[.slice ac j l]]at H;have g5:=(HG.o.aC I (by simp)).grow 5 (r:=⟨147,1,.slice aq cq.length D,fZ cq⟩) (r':=⟨147,1,zS z (cq.length+1) L,fZ (cq++[#[.slice ac j l]])⟩) rfl G4.o H rfl YK;have r5:=(HRQ.o.aC I (by simp)).turn G4.o (λr hr=>VP 5 (r:=⟨147,1,.slice aq cq.length D,fZ cq⟩) rfl hr) YK.o (VN 5 (r:=⟨147,1,.slice aq cq.length D,fZ cq⟩) (r':=⟨147,1,zS z (cq.length+1) L,fZ (cq++[#[.slice ac j l]])⟩) rfl rfl);have g6:KG Z w0 kb A (Gm N ⟨rt,ux,zS z (cq.length+1) L,ul⟩ { B with q:=B.q++[acc] } ca (cq++[#[.slice ac j l]])) ca B.a (cq++[#[.slice ac j l]]) (B.q++[acc]):=⟨g5.fr,g5.lo,g5.rw,g5.ai,g5.qi.snoc (r5.2 0 _ _ rfl rfl)⟩;have R6:=R4.o.set (V':=N) (U':=⟨rt,ux,zS z (cq.length+1) L,ul⟩) 8 (zS z (cq.length+1) L) rfl;exact .inr ⟨acc,B,_,_,HE,rfl,⟨R6,ca,cq++[#[.slice ac j l]],g6.aC (S:=[kb]) ((aB.refl [kb] _).setCell (p:=(zB kb 8)) (.inl (by simp)) _) (by simp)⟩,⟨Gx.o.1,Gx.o.2.1,Gx.o.2.2.1,Gx.o.2.2.2⟩⟩
def akK {l N m}(b:m<l.length)(a:m<N.length)(out):nY l N (m+1) out=if N[m]<0 then nY l N m out else nY l N m (out++[aci N l[m]]):=by rw[nY,a0a b];simp[List.getD,a]
theorem VT(w:World)(o c j u)(a:(jT c).toList[j]?=some u):((w.alloc o).alloc (Obj.cells (jT c) 105)).cell? ⟨w.heap.size+1,j,none⟩=some u:=by have h:=Nf w o (Obj.cells (jT c) 105);unfold World.cell?;simp only[h];simpa[jT] using a
def aiz(w v A l)(h:RW A 4 w v (uj l))(q:GL l)(first)(hf:first < l.length)(hl:l.length<=900000000) :
 zF 65 #[v,zI first] w λe w'=>∃v',e=zR v'/\aB [] w w'/\OW 105 4 w.heap.size w' v' (uj (mH l first)):=by
 have N1:=aby _ _ _ _ h q _ hf hl;obtain⟨a,_,rfl,R⟩:=h.ins;have Y:=q;have:=Eh l first
 have X:=IY q first;have HT:mH l first=nY _ _ (first + 1) []:=rfl;generalize numsOf l first=N at *
 clear h q;delta zF;go_in;go_wp2_with fail;refine N1.mono ?_;clear N1;rintro e G ⟨gn,rfl,F1,_,Dt⟩;have fM:=F1.size;have:=Dt.lt;go_wp2_with fail;go_loopg [6,7] (first + 1) (λk v6 v7 wr=>∃(j:Nat) (x:Int) (out:List bX),j<=first + 1/\k=j/\v7=zI x/\x=(j:Int)-1/\out.length+j<=first + 1/\(nY l N j out=mH l first)/\aB [] G wr/\OW 105 4 G.heap.size wr v6 (uj out));case atStart=>exact⟨first + 1,_,[],a0b _,rfl,rfl,by omega,by simp,HT.symm,zJ,OW.empty _ _ _ _ (a0b _)⟩
 case round =>
  obtain⟨j,x,out,_,rfl,rfl,hx,_,o,F,O⟩:=hrel;obtain⟨V,co,he⟩:=O.shape;rw[CZ]at he;subst he;have:=F.size;have i:=CZ out;rcases gk with _|m
  .obtain rfl:x=-1:=by omega
   have C:=o;clear hx o;go_wp2;go_ret;refine⟨_,rfl,F1.trans F,?_⟩;rw[<-C];exact O.base fM
  obtain rfl:x=(m:Int):=by omega
  clear hx;have M:m<l.length:=by omega
  have y:=Dt.aC F (by simp);have:=y.cell m (by omega);have g:=akK (N:=N) M (by omega) out;obtain⟨H,ol,rfl,q,q0,q1,q2,q3⟩:=R m M;have J:=F1.trans F;have t0:=(J.cell (p:=(zB H (ol+m*4))) q (by simp)).trans q0;have t1:=(J.cell (p:=(zB H (ol+m*4+1))) q (by simp)).trans q1;have t2:=(J.cell (p:=(zB H (ol+m*4+2))) q (by simp)).trans q2;have T:=(J.cell (p:=(zB H (ol+m*4+3))) q (by simp)).trans q3;have:gn<wr.heap.size:=by omega
  have t:=Y m M;have L:=X m l[m] (a0a M);rw[show N.getD m 0=N[m] by simp[List.getD,show m<N.length by omega]]at L;clear q0 q1 q2 q3 J;by_cases P:N[m]<0
  .rw[a0m P]at g;have C:nY l N m out=mH l first:=g.symm.trans o;generalize N[m]=nm at *;clear g o t L t0 t1 t2 T;go_wp2;go_roundg m
   case measure=>omega
   case rel=>exact⟨m,_,out,by omega,rfl,rfl,by omega,by omega,C,F,O⟩
  rw[a0n P]at g;have B:=L (by omega);generalize UA:N[m]=nm at *;have s:∃c,l[m]=c:=⟨_,rfl⟩;obtain⟨c,s⟩:=s;rw[s]at t0 t1 t2 T g t B;obtain⟨_,b,f,d⟩:=c;simp only at t0 t1 t2 T t B;clear L s UA;rcases t with rfl|⟨rfl,ha⟩|⟨rfl,_,_⟩
  focus
   have C:nY l N m (out++[⟨0,b,f,d⟩])=mH l first:=g.symm.trans o;clear g o B;go_wp2_with (at_builtin;refine qD _ rfl _ _ 49 105 _ 4 32 TS Tryz.underlying49 rfl (by omega) rfl G.heap.size (.slice V out.length co) (uj out) (wr.heap.size+1) (jT ⟨0,b,f,d⟩).toList rfl (O.aC (S:=[]) (zG.alloc _) (by simp)) rfl rfl (VT _ _ ⟨0,b,f,d⟩) (by intro u z;simp[jT]at z;rcases z with rfl|rfl|rfl|rfl<;>rfl) (by rw[i];omega) (by rw[i];omega) (by simp;omega) ?_;intro gg aU Z E G4 I AO;rw[i,Nb]at E;rw[i];clear I)
  rotate_left
  focus
   obtain⟨n,D⟩:=a2L (B.1 (by omega));have n1:=y.cell f (by omega);rw[show N[f]'(by omega)=(n:Int) by rw[<-D];simp[List.getD,show f<N.length by omega]]at n1;have C:nY l N m (out++[⟨1,b,n,d⟩])=mH l first:=by
    have e:aci N ⟨1,b,f,d⟩=⟨1,b,n,d⟩:=by simp only[aci,D];simp
    rw[e]at g;exact g.symm.trans o
   clear g o B D;go_wp2_with (at_builtin;refine qD _ rfl _ _ 49 105 _ 4 32 TS Tryz.underlying49 rfl (by omega) rfl G.heap.size (.slice V out.length co) (uj out) (wr.heap.size+1) (jT ⟨1,b,n,d⟩).toList rfl (O.aC (S:=[]) (zG.alloc _) (by simp)) rfl rfl (VT _ _ ⟨1,b,n,d⟩) (by intro u z;simp[jT]at z;rcases z with rfl|rfl|rfl|rfl<;>rfl) (by rw[i];omega) (by rw[i];omega) (by simp;omega) ?_;intro gg aU Z E G4 I AO;rw[i,Nb]at E;rw[i];clear I)
  rotate_left;obtain⟨n,D⟩:=a2L (B.1 (by omega));obtain⟨nb,W⟩:=a2L (B.2 rfl);have n1:=y.cell f (by omega);rw[show N[f]'(by omega)=(n:Int) by rw[<-D];simp[List.getD,show f<N.length by omega]]at n1;have n2:=y.cell d (by omega);rw[show N[d]'(by omega)=(nb:Int) by rw[<-W];simp[List.getD,show d<N.length by omega]]at n2;have C:nY l N m (out++[⟨2,b,n,nb⟩])=mH l first:=by
   have e:aci N ⟨2,b,f,d⟩=⟨2,b,n,nb⟩:=by simp only[aci,D,W];simp
   rw[e]at g;exact g.symm.trans o
  clear g o B D W;go_wp2_with (at_builtin;refine qD _ rfl _ _ 49 105 _ 4 32 TS Tryz.underlying49 rfl (by omega) rfl G.heap.size (.slice V out.length co) (uj out) (wr.heap.size+1) (jT ⟨2,b,n,nb⟩).toList rfl (O.aC (S:=[]) (zG.alloc _) (by simp)) rfl rfl (VT _ _ ⟨2,b,n,nb⟩) (by intro u z;simp[jT]at z;rcases z with rfl|rfl|rfl|rfl<;>rfl) (by rw[i];omega) (by rw[i];omega) (by simp;omega) ?_;intro _ _ Z E G4 I _;rw[i,Nb]at E;rw[i];clear I);all_goals
   go_roundg m;case measure=>omega
   case rel=>exact⟨m,_,_,by omega,rfl,rfl,by omega,by simp;omega,C,((F.alloc _).alloc _).grown G4 (λr hr=>.inr (O.lt hr).1),E⟩
def asP:GL [⟨0,0,0,0⟩]:=by intro i a;simp at a;subst a;exact .inl rfl
def aiA {C q}:GL (ig C q 6 0 0 [⟨0,0,0,0⟩]).2/\(ig C q 6 0 0 [⟨0,0,0,0⟩]).1<(ig C q 6 0 0 [⟨0,0,0,0⟩]).2.length :=
 let h:=C9 C q 6 0 0 [⟨0,0,0,0⟩] asP (by simp)
 ⟨h.1,h.2.1⟩
def Um(w0 kb w V rt i g C q)(a:LC w0 kb rt g C q)(h:LY w0 kb w V ⟨rt,i,g,zN⟩ [])(l:0<C.length) :
 zF 48 #[zP kb] w λe w'=>∃v v',e=zR v/\KR w' kb V ⟨rt,i,g,v'⟩/\aB [kb] w0 w'/\aB [kb] w w'/\OW 105 4 w.heap.size w' v (uj (C8 C q)):=by
 obtain⟨G,M,k,_⟩:=a.zV.co;subst k;have D:=h.row.c 6;simp at D;have:=a.cl;have:((C.length:Int)==0)=false:=by rw[a0j];omega
 have m:=TW _ _ _ V _ [] h ⟨0,0,0,0⟩ (by simp);simp only[jT]at m;have H:C8 C q=mH (ig C q 6 0 0 [⟨0,0,0,0⟩]).2 (ig C q 6 0 0 [⟨0,0,0,0⟩]).1:=by unfold C8;rw[a0n (by simp;intro e;rw[e]at l;simp at l)]
 have x:=aiA (C:=C) (q:=q);have o:=Gp a.cl a.qb 6 0 0 [⟨0,0,0,0⟩];clear h;delta zF;go_in;go_wp2_with fail;refine m.mono ?_;clear m;rintro e z ⟨rfl,A,b,n⟩;have u:=O0 _ _ V _ _ _ _ _ a 6 0 0 z A [⟨0,0,0,0⟩] b l (by omega) (by simp[bnd]);clear b;generalize ig C q 6 0 0 [⟨0,0,0,0⟩]=X at *;obtain⟨first,l2⟩:=X;go_wp2_with fail;refine u.mono ?_;clear u;rintro e p ⟨rfl,L,d,r⟩;obtain⟨P,_,he⟩:=d.asz.shape;rw[CZ]at he;simp only at he;subst he;have E:=o;simp[bnd]at E;have t:=aiz p _ [] l2 (d.asz.rw (by simp)) x.1 first x.2 (by omega);have B:=d.row.c 9;simp at B;have y:aB [kb] w p:=(n.trans r).f;clear r;go_wp2_with fail
 refine t.mono ?_;clear t;rintro e I ⟨J,rfl,F3,s⟩;obtain⟨O,_,j⟩:=s.shape;subst j;go_wp2;go_ret;rw[H];exact⟨_,_,rfl,d.row.aC F3 (by simp),d.fr.over F3 (by simp),y.over F3 (by simp),s.base y.size⟩
theorem axm(g q j):((zB g q):Addr).add j=(zB g (q+j)):=by unfold Addr.add;split<;>simp_all
def alloc_at(w:World)(o k)(h:w.heap.size=k):(w.alloc o).heap[k]?=some o:=by subst h;exact bD w o
def avo(x:kN)(w:World)(e:Ending)(w':World):Prop :=
 ∃g,e=zR (.agg (aO x (zS g x.bl.length x.bl.length)))/\aB [] w w'/\w.heap.size<=g/\g<w'.heap.size/\RW [] 1 w' (zS g x.bl.length x.bl.length) (sc x.bl)
def akL(W g bl p b)(Z:List Value)(m:Z.length=bl.length)(c:W.heap[g]?=some (.cells Z.toArray 9 (0,0)))(t:RW [] 1 W (.slice p bl.length b) (sc bl)) :
 ∃f,(Builtin.copy_ #[46,46] 3 #[zS g bl.length bl.length,.slice p bl.length b]).run Tryz.prog W=.ok (zI (bl.length:Int)) f/\f.heap[g]?=some (.cells (bl.map λs=>Value.string (bs s)).toArray 9 (0,0))/\Below g W f:=by
 by_cases n:bl=[]
 .subst n;obtain rfl:Z=[]:=a0S m;exact⟨W,run_copy_none W 46 46 3 9 _ _ 0 0 0 b Tryz.underlying46 VC rfl,c,Below.refl _ _⟩
 have A:=a1O.2 n;obtain⟨D,C,e,k⟩:=t.str;simp only[Value.slice.injEq,a1W]at e;obtain⟨rfl,rfl⟩:=e;obtain⟨x,q,rfl,_,_⟩:=k 0 A;have l:(bl.map λs=>Value.string (bs s)).length=bl.length:=by simp
 have h:=run_copy_row Tryz.prog W 46 46 3 9 g 0 bl.length bl.length (zB x q) bl.length b Z.toArray 9 (bl.map λs=>Value.string (bs s)) Tryz.underlying46 VC c (by rw[l];exact(Nat.min_self _).symm) (by
  intro j v a;rw[a0Q,Option.map_eq_some_iff]at a;obtain⟨y,r,rfl⟩:=a;obtain⟨u,rfl⟩:=a0d.1 r;obtain⟨B,i,o,w,d⟩:=k j u;simp only[Option.some.injEq,Addr.mk.injEq,a2u]at o;obtain⟨rfl,rfl⟩:=o;rw[axm];omega) (by simp[m]) (by
  intro v a;obtain⟨y,_,rfl⟩:=a0q.1 a;rfl)
 rw[l]at h;refine⟨_,h,?_,below_setRow (Below.refl _ _) (a0b _) _⟩;rw[setRow_heap W g _ _ 9 _ c];have z:Z.drop bl.length=[]:=a0i (by omega);simp[z]
def Pe(x c t ca ek iJ w)(T:RW [] 1 w (.slice t x.bl.length ca) (sc x.bl))(hb:RW [] 1 w ek (sc c.jM))(JI:∃ai ci,iJ=.slice ai c.ifs.length ci)(hx:x.bl.length<=1000)(hc:c.jM.length<=1000)(M:-1<=c.wt/\-1<=c.ev/\-1<=c.rp) :
 zF 62 #[.agg (aO x (.slice t x.bl.length ca)),.agg (rcl c ek iJ)] w (avo (ny x c) w):=by
 obtain⟨ai,ci,rfl⟩:=JI;obtain⟨E,C,rfl,_⟩:=hb.str;have I:∀W,zF 77 #[zI c.wt,zI (x.wt:Nat)] W λe w'=>e=zR (zI (uk c.wt x.wt:Nat))/\W=w':=λW=>LM W c.wt x.wt M.1;have H:∀W,zF 77 #[zI c.ev,zI (x.ev:Nat)] W λe w'=>e=zR (zI (uk c.ev x.ev:Nat))/\W=w':=λW=>LM _ _ _ M.2.1;have G:∀W,zF 77 #[zI c.rp,zI (x.rp:Nat)] W λe w'=>e=zR (zI (uk c.rp x.rp:Nat))/\W=w':=λW=>LM _ _ _ M.2.2;obtain⟨g,J⟩:∃g,g=if c.rc == [45] then x.rc else c.rc:=⟨_,rfl⟩
 obtain⟨bl,h⟩:∃bl,bl=if c.tb then c.jM else x.bl:=⟨_,rfl⟩
 have HH:ny x c=⟨g,bl,uk c.wt x.wt,uk c.ev x.ev,uk c.rp x.rp⟩:=by rw[J,h];rfl
 obtain⟨F,D,r,z⟩:∃F D,(if c.tb then Value.slice E c.jM.length C else .slice t x.bl.length ca)=.slice F bl.length D/\RW [] 1 w (.slice F bl.length D) (sc bl):=by
  cases B:c.tb
  .rw[B]at h;simp[a0A,a0I]at h;subst h;exact⟨t,ca,rfl,T⟩
  rw[B]at h;simp[a0G]at h;subst h;exact⟨E,C,rfl,hb⟩
 have hlen:bl.length<=1000:=by rw[h];split<;>omega
 obtain⟨s,O⟩:∃s:List Value,s=(madeCells #[.string ByteArray.empty] bl.length).toList:=⟨_,rfl⟩;have R:s.length=bl.length:=by rw[O,a3o];exact size_madeCells _ _
 have Oh:∀u:World,(Instr.makeSlice 46 (zI (bl.length:Int)) (zI (bl.length:Int))).run Tryz.prog u=.ok (zS u.heap.size bl.length bl.length) (u.alloc (.cells s.toArray 9)):=λu=>by obtain⟨X,Y,gT,fM,Z⟩:=kg uY;have:=run_make u 46 9 X (.string ByteArray.empty) Tryz.underlying46 Y gT .i64 .i64 (bl.length:Int) (bl.length:Int) (by omega) (a3n _) (by rw[Z];omega) (by omega);rw[fM,a2A,a1H]at this;rw[this,O];rfl
 have S:aB [] w (((((w.alloc (.cells #[zT x.rc,.slice t x.bl.length ca,zI (x.wt:Nat),zI (x.ev:Nat),zI (x.rp:Nat)] 68)).alloc (.cells #[zI (c.d:Nat),zT c.rc,.bool c.tb,.slice E c.jM.length C,zI c.wt,zI c.ev,zI c.rp,.slice ai c.ifs.length ci,.bool c.co] 125)).alloc (.cells #[.string { data:=#[] },zN,zI 0,zI 0,zI 0] 68)).alloc (.cells #[zT g,zS (w.heap.size+1+1+1+1) bl.length bl.length,zI 0,zI 0,zI 0] 68)).alloc (.cells s.toArray 9)):=(((((aB.refl [] w).alloc _).alloc _).alloc _).alloc _).alloc _;obtain⟨n,N,A,y⟩:=akL (((((w.alloc (.cells #[zT x.rc,.slice t x.bl.length ca,zI (x.wt:Nat),zI (x.ev:Nat),zI (x.rp:Nat)] 68)).alloc (.cells #[zI (c.d:Nat),zT c.rc,.bool c.tb,.slice E c.jM.length C,zI c.wt,zI c.ev,zI c.rp,.slice ai c.ifs.length ci,.bool c.co] 125)).alloc (.cells #[.string { data:=#[] },zN,zI 0,zI 0,zI 0] 68)).alloc (.cells #[zT g,zS (w.heap.size+1+1+1+1) bl.length bl.length,zI 0,zI 0,zI 0] 68)).alloc (.cells s.toArray 9)) (w.heap.size+1+1+1+1) bl F D s R (alloc_at _ _ _ (by simp)) (z.aC S (by simp));have F4:=S.TU y (by omega);have C0:=(y.block w.heap.size (by omega)).trans (((((zG.alloc _).alloc _).alloc _).block w.heap.size (by simp) (by simp)).trans (bD _ _));have L:=(y.block (w.heap.size+1) (by omega)).trans ((((zG.alloc _).alloc _).block (w.heap.size+1) (by simp) (by simp)).trans (alloc_at _ _ (w.heap.size+1) (by simp)));have m:=(y.block (w.heap.size+1+1) (by omega)).trans (((zG.alloc _).block (w.heap.size+1+1) (by simp) (by simp)).trans (alloc_at _ _ (w.heap.size+1+1) (by simp)));have U:=(y.block (w.heap.size+1+1+1) (by omega)).trans ((zG.block (w.heap.size+1+1+1) (by simp) (by simp)).trans (alloc_at _ _ (w.heap.size+1+1+1) (by simp)));have:=aBa C0;have:zC n (w.heap.size+1) 4 (zI c.wt):=by simp[World.cell?,L]
 have:zC n (w.heap.size+1) 5 (zI c.ev):=by simp[World.cell?,L]
 have:zC n (w.heap.size+1) 6 (zI c.rp):=by simp[World.cell?,L]
 have:=aBa m;have:=aBa U;have l:w.heap.size+1+1+1+1<n.heap.size:=(a0c.1 A).1;have:=aT;have:({ data:=#[45] }:ByteArray).toList=[45]:=aT [45];clear C0 L U y S T hb z O;simp only[aO,rcl];delta zF;go_in;cases B:c.tb<;>cases V:(c.rc == [45]);all_goals
  rw[B]at h r N;rw[V]at J;simp only[a0A,a0I,a0G,Value.slice.injEq]at h r J;subst h J;obtain⟨rfl,_,rfl⟩:=r
 focus
  go_wp2_with fail;refine(I _).mono ?_;rintro e w' ⟨rfl,rfl⟩;go_wp2_with fail;refine(H _).mono ?_;rintro e w' ⟨rfl,rfl⟩;go_wp2_with fail;refine(G _).mono ?_;rintro e w' ⟨rfl,rfl⟩;go_wp2_with fail;have a:∀(u:World) (o:Nat) (v:Value),aB [w.heap.size+1+1+1] u (u.setCell (zB (w.heap.size+1+1+1) o) v):=λu o v=>zK.setCell (p:=(zB (w.heap.size+1+1+1) o)) (.inl (by simp)) _;have q:=λ(u:World) (o:Nat) (v:Value)=>(a u o v).size;refine bodyPost_ret (qE rfl _ _ (w.heap.size+1+1) (aO ⟨c.rc,x.bl,uk c.wt x.wt,uk c.ev x.ev,uk c.rp x.rp⟩ (zS (w.heap.size+1+1+1+1) x.bl.length x.bl.length)) rfl (Gl (yZ _ _ _ _ _ (((a _ _ _).block (w.heap.size+1+1) (by simp;omega) (by simp)).trans (((a _ _ _).block (w.heap.size+1+1) (by simp;omega) (by simp)).trans (((a _ _ _).block (w.heap.size+1+1) (by omega) (by simp)).trans m)))) rfl)) rfl ?_;have R4:RW [w.heap.size+1+1,w.heap.size+1+1+1] 1 n (zS (w.heap.size+1+1+1+1) x.bl.length x.bl.length) (sc x.bl):=by
   refine⟨_,x.bl.length,by rw[iC],by rw[iC];exact a0b _,λj i=>⟨w.heap.size+1+1+1+1,0,rfl,by simp<;>omega,l,λk u f=>?_⟩⟩;rw[iC]at i;have b:k=0:=by
    cases k with
    | zero=>rfl
    | succ k=>simp[sc]at f
   subst b;simp[sc]at f;subst f;simp[World.cell?,A,i]
 rotate_left
 focus
  go_wp2_with fail;refine(I _).mono ?_;rintro e w' ⟨rfl,rfl⟩;go_wp2_with fail;refine(H _).mono ?_;rintro e w' ⟨rfl,rfl⟩;go_wp2_with fail;refine(G _).mono ?_;rintro e w' ⟨rfl,rfl⟩;go_wp2_with fail;have a:∀(u:World) (o:Nat) (v:Value),aB [w.heap.size+1+1+1] u (u.setCell (zB (w.heap.size+1+1+1) o) v):=λu o v=>zK.setCell (p:=(zB (w.heap.size+1+1+1) o)) (.inl (by simp)) _;have q:=λ(u:World) (o:Nat) (v:Value)=>(a u o v).size;refine bodyPost_ret (qE rfl _ _ (w.heap.size+1+1) (aO ⟨x.rc,x.bl,uk c.wt x.wt,uk c.ev x.ev,uk c.rp x.rp⟩ (zS (w.heap.size+1+1+1+1) x.bl.length x.bl.length)) rfl (Gl (yZ _ _ _ _ _ (((a _ _ _).block (w.heap.size+1+1) (by simp;omega) (by simp)).trans (((a _ _ _).block (w.heap.size+1+1) (by simp;omega) (by simp)).trans (((a _ _ _).block (w.heap.size+1+1) (by omega) (by simp)).trans m)))) rfl)) rfl ?_;have R4:RW [w.heap.size+1+1,w.heap.size+1+1+1] 1 n (zS (w.heap.size+1+1+1+1) x.bl.length x.bl.length) (sc x.bl):=by
   refine⟨_,x.bl.length,by rw[iC],by rw[iC];exact a0b _,λj i=>⟨w.heap.size+1+1+1+1,0,rfl,by simp<;>omega,l,λk u f=>?_⟩⟩;rw[iC]at i;have b:k=0:=by
    cases k with
    | zero=>rfl
    | succ k=>simp[sc]at f
   subst b;simp[sc]at f;subst f;simp[World.cell?,A,i]
 rotate_left
 focus
  go_wp2_with fail;refine(I _).mono ?_;rintro e w' ⟨rfl,rfl⟩;go_wp2_with fail;refine(H _).mono ?_;rintro e w' ⟨rfl,rfl⟩;go_wp2_with fail;refine(G _).mono ?_;rintro e w' ⟨rfl,rfl⟩;go_wp2_with fail;have a:∀(u:World) (o:Nat) (v:Value),aB [w.heap.size+1+1+1] u (u.setCell (zB (w.heap.size+1+1+1) o) v):=λu o v=>zK.setCell (p:=(zB (w.heap.size+1+1+1) o)) (.inl (by simp)) _;have q:=λ(u:World) (o:Nat) (v:Value)=>(a u o v).size;refine bodyPost_ret (qE rfl _ _ (w.heap.size+1+1) (aO ⟨c.rc,c.jM,uk c.wt x.wt,uk c.ev x.ev,uk c.rp x.rp⟩ (zS (w.heap.size+1+1+1+1) c.jM.length c.jM.length)) rfl (Gl (yZ _ _ _ _ _ (((a _ _ _).block (w.heap.size+1+1) (by simp;omega) (by simp)).trans (((a _ _ _).block (w.heap.size+1+1) (by simp;omega) (by simp)).trans (((a _ _ _).block (w.heap.size+1+1) (by omega) (by simp)).trans m)))) rfl)) rfl ?_;have R4:RW [w.heap.size+1+1,w.heap.size+1+1+1] 1 n (zS (w.heap.size+1+1+1+1) c.jM.length c.jM.length) (sc c.jM):=by
   refine⟨_,c.jM.length,by rw[iC],by rw[iC];exact a0b _,λj i=>⟨w.heap.size+1+1+1+1,0,rfl,by simp<;>omega,l,λk u f=>?_⟩⟩;rw[iC]at i;have b:k=0:=by
    cases k with
    | zero=>rfl
    | succ k=>simp[sc]at f
   subst b;simp[sc]at f;subst f;simp[World.cell?,A,i]
 rotate_left;go_wp2_with fail;refine(I _).mono ?_;rintro e w' ⟨rfl,rfl⟩;go_wp2_with fail;refine(H _).mono ?_;rintro e w' ⟨rfl,rfl⟩;go_wp2_with fail;refine(G _).mono ?_;rintro e _ ⟨rfl,rfl⟩;go_wp2_with fail;have a:∀(u:World) (o:Nat) (v:Value),aB [w.heap.size+1+1+1] u (u.setCell (zB (w.heap.size+1+1+1) o) v):=λu o v=>zK.setCell (p:=(zB (w.heap.size+1+1+1) o)) (.inl (by simp)) _;have q:=λ(u:World) (o:Nat) (v:Value)=>(a u o v).size;refine bodyPost_ret (qE rfl _ _ (w.heap.size+1+1) (aO ⟨x.rc,c.jM,uk c.wt x.wt,uk c.ev x.ev,uk c.rp x.rp⟩ (zS (w.heap.size+1+1+1+1) c.jM.length c.jM.length)) rfl (Gl (yZ _ _ _ _ _ (((a _ _ _).block (w.heap.size+1+1) (by simp;omega) (by simp)).trans (((a _ _ _).block (w.heap.size+1+1) (by simp;omega) (by simp)).trans (((a _ _ _).block (w.heap.size+1+1) (by omega) (by simp)).trans m)))) rfl)) rfl ?_;have R4:RW [w.heap.size+1+1,w.heap.size+1+1+1] 1 n (zS (w.heap.size+1+1+1+1) c.jM.length c.jM.length) (sc c.jM):=by
  refine⟨_,c.jM.length,by rw[iC],by rw[iC];exact a0b _,λj i=>⟨w.heap.size+1+1+1+1,0,rfl,by simp<;>omega,l,λk u f=>?_⟩⟩;rw[iC]at i;have b:k=0:=by
   cases k with
   | zero=>rfl
   | succ k=>simp[sc]at f
  subst b;simp[sc]at f;subst f;simp[World.cell?,A,i]
 all_goals
  rw[HH];refine⟨w.heap.size+1+1+1+1,rfl,?_,by omega,?_,?_⟩
  .exact(((F4.over (a _ _ _) (by simp;omega)).over (a _ _ _) (by simp;omega)).over (a _ _ _) (by simp;omega)).over (l8 _ _ _ _ _ _ _) (by simp;omega)
  .exact a0t l (a0h (a0h (a0h (a _ _ _).size (a _ _ _).size) (a _ _ _).size) (l8 _ _ _ _ _ _ _).size)
  exact((((R4.aC (a _ _ _) (by simp)).aC (a _ _ _) (by simp)).aC (a _ _ _) (by simp)).aC (l8 _ _ _ _ _ _ _) (by simp)).cO (by simp)
end
section
variable {A F nx:LN} {w:World} {v:Value} {t:LB} {L:List LB} {n nr nt:Nat} {l:List bX} {X:NF} {St:List LN} {e:RX}
theorem ry(C):∀n,(fD C n).length=n
 | 0=>rfl
 | n+1=>by rw[fD];simp[ry C n]
def an5(C j)(a:j<C.length):fD C (j+1)=fD C j++[ny (uK C (fD C j) j) C[j]]:=by rw[fD,a0a a]
def VU {C}(hb:∀c∈C,c.jM.length<=4):∀n,∀x∈fD C n,x.bl.length<=4
 | 0,x,h=>by simp[fD]at h
 | n+1,x,h=>by
   rw[fD,a0e,a0w]at h;rcases h with h|rfl
   .exact VU hb n x h
   split
   .rename_i c b;have e:=hb c (a0B b);have:(uK C (fD C n) n).bl.length<=4:=by
     unfold uK;split
     .rename_i p _;by_cases a:p<(fD C n).length
      .rw[a0x,a0a a];exact VU hb n _ (a0u a)
      rw[a0x,a1Z (by omega)];simp[lQ]
     simp[lQ]
    simp[ny];split<;>assumption
   simp[lQ]
theorem En {C j p}(h:par C j=some p):p<j:=by
 unfold par at h;split at h
 .exact(Un h)
 cases h
 where
 Un {C:List CR} {d:Nat}:∀{i p:Nat},nQ C d i=some p->p<i
 | 0,p,h=>by simp[nQ]at h
 | j+1,p,h=>by
   rw[nQ]at h;split at h
   .cases h;omega
   have:=Un h;omega
theorem aez(w:World)(e a d c b g j u)(f:(aO ⟨e,a,d,c,b⟩ (.slice (some ⟨g,0,none⟩) a.length a.length)).toList[j]?=some u):(w.alloc (Obj.cells #[.string (bs e),.slice (some ⟨g,0,none⟩) a.length a.length,.int .i64 (d:Nat),.int .i64 (c:Nat),.int .i64 (b:Nat)] 68)).cell? ⟨w.heap.size,j,none⟩=some u:=by have:=bD w (Obj.cells #[.string (bs e),.slice (some ⟨g,0,none⟩) a.length a.length,.int .i64 (d:Nat),.int .i64 (c:Nat),.int .i64 (b:Nat)] 68);simp only[World.cell?,this];simpa[aO] using f
def an6(A w)(hA:∀g∈A,g<w.heap.size)(v C)(h:QH [] w v C)(hC:C.length<=1000)(I:∀c∈C,c.d<=1048576/\c.jM.length<=4/\-1<=c.wt/\-1<=c.ev/\-1<=c.rp) :
 zF 47 #[v] w λe w'=>∃v' m,e=zR v'/\aB [] w w'/\OW 68 5 w.heap.size w' v' (fZ m)/\dV azx (A++v'.ownBlock.toList) w' m (fD C C.length):=by
 have HA:=aj hA;have Og:=aj h;obtain⟨_,q1,q2⟩:=h;obtain⟨a,cap,rfl,r⟩:=sP q1 q2;have R:=aj r;have HG:=aj I;clear q1 q2 r I;delta zF;go_in;go_wp2_with fail;go_loopg [3,11] C.length (λk v3 v11 wr=>∃(j:Nat) (m:List (Array Value)),j+k=C.length/\v11=zI j/\m.length=j/\aB [] w wr/\OW 68 5 w.heap.size wr v3 (fZ m)/\Z_ (dV azx (A++v3.ownBlock.toList) wr m (fD C j)));case atStart=>exact⟨0,[],by omega,rfl,rfl,(aB.refl _ _).alloc _,OW.empty _ _ _ _ (a0b _),dV.nil _ _ _⟩
 case round =>
  obtain⟨j,m,_,rfl,Lt,hF,hO,HI⟩:=hrel;obtain⟨ao,co,he⟩:=hO.shape;rw[jA,Lt]at he;subst he;have F:=aj hF;have O:=aj hO;have:=hF.size;have V:Z_ ((fZ m).length=j):=by show _=_;rw[jA];exact Lt
  by_cases aL:j<C.length
  .obtain⟨f,or,_,rfl,G,_,⟨_,_,rfl,xL,JI⟩,k1⟩:=R.o j aL;obtain⟨ay,cy,rfl,_⟩:=xL.str;obtain⟨ai,ci,Io,_⟩:=JI;rw[show(LH C[j].ifs).length=C[j].ifs.length by simp[LH]]at Io;subst Io;have t0:zC wr f (or+j*9) (zI (C[j].d:Nat)):=hF.at (p:=(zB f (or+j*9+0))) G (k1 0 _ rfl);have t1:zC wr f (or+j*9+1) (.string (bs C[j].rc)):=hF.at (p:=(zB f (or+j*9+1))) G (k1 1 _ rfl);have t2:zC wr f (or+j*9+2) (.bool C[j].tb):=hF.at (p:=(zB f (or+j*9+2))) G (k1 2 _ rfl);have t3:zC wr f (or+j*9+3) (.slice ay C[j].jM.length cy):=hF.at (p:=(zB f (or+j*9+3))) G (k1 3 _ rfl);have t4:zC wr f (or+j*9+4) (zI C[j].wt):=hF.at (p:=(zB f (or+j*9+4))) G (k1 4 _ rfl);have t5:zC wr f (or+j*9+5) (zI C[j].ev):=hF.at (p:=(zB f (or+j*9+5))) G (k1 5 _ rfl);have t6:zC wr f (or+j*9+6) (zI C[j].rp):=hF.at (p:=(zB f (or+j*9+6))) G (k1 6 _ rfl);have t7:zC wr f (or+j*9+7) (.slice ai C[j].ifs.length ci):=hF.at (p:=(zB f (or+j*9+7))) G (k1 7 _ rfl);have t8:zC wr f (or+j*9+8) (.bool C[j].co):=hF.at (p:=(zB f (or+j*9+8))) G (k1 8 _ rfl);have Z:Z_ (∀W,aB [] w W->zF 61 #[.slice (some (zB f or)) C.length cap,zI j] W λe w'=>e=zR (zI (Gn C j))/\∃q,w'=W.drewN q):=λW Y=>OT W _ [] C (Og.o.aC Y (by simp)) (by omega) (λc l=>(HG.o c l).1) j aL;have Kt:=HG.o C[j] (a0u aL);have Qi:=aj (an5 C j aL);have HBY:=aj xL;clear k1 xL hF hO;cases N:par C j with
   | none =>
     have Yb:Gn C j=-1:=by unfold Gn;rw[N]
     have uz:uK C (fD C j) j=lQ:=by unfold uK;rw[N]
     rw[Yb]at Z;rw[uz]at Qi;have U:Z_ (∀W,aB [] w W->zF 62 #[.agg #[.string { data:=#[] },zN,zI 30,zI 300,zI 14400],.agg #[zI (C[j].d:Nat),.string (bs C[j].rc),.bool C[j].tb,.slice ay C[j].jM.length cy,zI C[j].wt,zI C[j].ev,zI C[j].rp,.slice ai C[j].ifs.length ci,.bool C[j].co]] W λe w'=>∃g,e=zR (.agg #[.string (bs (ny lQ C[j]).rc),zS g (ny lQ C[j]).bl.length (ny lQ C[j]).bl.length,zI ((ny lQ C[j]).wt:Nat),zI ((ny lQ C[j]).ev:Nat),zI ((ny lQ C[j]).rp:Nat)])/\aB [] W w'/\W.heap.size<=g/\g<w'.heap.size/\RW [] 1 w' (zS g (ny lQ C[j]).bl.length (ny lQ C[j]).bl.length) (sc (ny lQ C[j]).bl)):=λW Y=>Pe lQ C[j] none 0 _ _ W (RW.nil _ _ _) (HBY.o.aC Y (by simp)) ⟨ai,ci,rfl⟩ (by simp[lQ]) (by omega) ⟨Kt.2.2.1,Kt.2.2.2.1,Kt.2.2.2.2⟩;generalize ny lQ C[j]=y at *;obtain⟨E,b,D,z,x⟩:=y;simp only at U;generalize C[j]=c at *;clear N Yb uz;go_wp2_with fail;refine(Z.o _ ((F.o.alloc _).alloc _)).mono ?_;clear Z;rintro e w2 ⟨rfl,qn,rfl⟩;go_wp2_with fail;refine(U.o _ (((F.o.alloc _).alloc _).drewN _)).mono ?_;clear U;rintro e w3 ⟨g,rfl,Gq,I,P,s⟩;have t:aB [] wr w3:=((((aB.refl [] wr).alloc _).alloc _).drewN _).trans Gq;have Sl:wr.heap.size<=g:=by simp at I;omega
     have n:∀r,Value.ownBlock (.slice ao j co)=some r->r<wr.heap.size:=λr M=>(O.o.lt M).2;have R3:=aj (s.afJ (B:=A++(Value.ownBlock (.slice ao j co)).toList) (λl=>by simp at l;rcases l with l|l;have:=HA.o g l;omega;have:=n g l;omega));have O3:=aj (O.o.aC t (by simp));have I3:=aj (HI.o.aC t (by simp));have F3:=aj (F.o.trans t);have xg:=t.size;clear Gq I P s t Sl n t0 t1 t2 t3 t4 t5 t6 t7 t8;go_wp2_with (at_builtin;refine qD _ rfl _ _ 34 68 _ 5 64 CV Tryz.underlying34 rfl (by omega) rfl w.heap.size (.slice ao j co) (fZ m) w3.heap.size (aO ⟨E,b,D,z,x⟩ (zS g b.length b.length)).toList rfl (O3.o.aC (S:=[]) ((aB.refl [] _).alloc _) (by simp)) rfl rfl (aez _ _ _ _ _ _ _) (by intro u hu;simp[aO]at hu;rcases hu with rfl|rfl|rfl|rfl|rfl<;>rfl) (by rw[V.o];omega) (by rw[V.o];omega) (by simp;omega) ?_;intro gg aU w5 L T bq arh;rw[V.o]at L |-;have F5:Z_ (aB [] w w5):=(F3.o.alloc _).grown T (λr M=>.inr (O3.o.lt M).1);have O5:=aj L;have I5:Z_ (dV azx (A++[gg]) w5 (m++[aO ⟨E,b,D,z,x⟩ (zS g b.length b.length)]) (fD C j++[⟨E,b,D,z,x⟩])):=((I3.o.aC (S:=[]) ((aB.refl [] _).alloc _) (by simp)).snoc ⟨g,rfl,R3.o.aC (S:=[]) ((aB.refl [] _).alloc _) (by simp)⟩).app T bq;clear L T bq);go_roundg (gk-1);case measure=>omega
     case rel =>
      have O6:=O5.o;rw[Gi]at O6;refine⟨j+1,m++[aO ⟨E,b,D,z,x⟩ (zS g b.length b.length)],by omega,by go_num,by simp;omega,F5,O6,?_⟩;show dV _ _ _ _ _;rw[Qi.o];exact I5
   | some p =>
     have:=En N;have Yb:Gn C j=(p:Int):=by unfold Gn;rw[N]
     have KH:=ry C j;have lV:p<(fD C j).length:=by omega
     have uz:uK C (fD C j) j=(fD C j)[p]:=by
      unfold uK;rw[N];simp only[a0x,a0a lV,Option.getD_some]
     have:=VU (C:=C) (λc l=>(HG.o c l).2.1) j _ (a0u lV);rw[Yb]at Z;rw[uz]at Qi;obtain⟨_,_,hvh,hrh⟩:=sP (O.o.rw (A:=[]) (by simp)) (HI.o.cO (B:=[]) (by simp));simp only[Value.slice.injEq]at hvh;obtain⟨rfl,hjj,rfl⟩:=hvh;obtain⟨J,H,_,rfl,_,_,⟨gp,rfl,Qe⟩,X⟩:=hrh p lV;have u0:zC wr J (H+p*5) (.string (bs (fD C j)[p].rc)):=X 0 _ rfl;have u1:zC wr J (H+p*5+1) (zS gp (fD C j)[p].bl.length (fD C j)[p].bl.length):=X 1 _ rfl;have u2:zC wr J (H+p*5+2) (zI ((fD C j)[p].wt:Nat)):=X 2 _ rfl;have u3:zC wr J (H+p*5+3) (zI ((fD C j)[p].ev:Nat)):=X 3 _ rfl;have u4:zC wr J (H+p*5+4) (zI ((fD C j)[p].rp:Nat)):=X 4 _ rfl;have HRP:=aj Qe;clear hrh X Qe uz Yb N hjj KH;generalize Yr:(fD C j)[p]=i at *;clear Yr lV;have U:Z_ (∀W,aB [] wr W->zF 62 #[.agg #[zT i.rc,zS gp i.bl.length i.bl.length,zI (i.wt:Nat),zI (i.ev:Nat),zI (i.rp:Nat)],.agg #[zI (C[j].d:Nat),.string (bs C[j].rc),.bool C[j].tb,.slice ay C[j].jM.length cy,zI C[j].wt,zI C[j].ev,zI C[j].rp,.slice ai C[j].ifs.length ci,.bool C[j].co]] W λe w'=>∃g,e=zR (.agg #[.string (bs (ny i C[j]).rc),zS g (ny i C[j]).bl.length (ny i C[j]).bl.length,zI ((ny i C[j]).wt:Nat),zI ((ny i C[j]).ev:Nat),zI ((ny i C[j]).rp:Nat)])/\aB [] W w'/\W.heap.size<=g/\g<w'.heap.size/\RW [] 1 w' (zS g (ny i C[j]).bl.length (ny i C[j]).bl.length) (sc (ny i C[j]).bl)):=λW Y=>Pe i C[j] (some (zA gp)) i.bl.length _ _ W (HRP.o.aC Y (by simp)) (HBY.o.aC (F.o.trans Y) (by simp)) ⟨ai,ci,rfl⟩ (by omega) (by omega) ⟨Kt.2.2.1,Kt.2.2.2.1,Kt.2.2.2.2⟩;generalize ny i C[j]=y at *;obtain⟨E,b,D,z,x⟩:=y;simp only at U;generalize C[j]=c at *;go_wp2_with fail;refine(Z.o _ ((F.o.alloc _).alloc _)).mono ?_;clear Z;rintro e _ ⟨rfl,_,rfl⟩;go_wp2_with fail;refine(U.o _ (((((aB.refl [] wr).alloc _).alloc _).drewN _).over (l8 _ _ _ _ _ _ _) (by simp))).mono ?_;clear U;rintro e w3 ⟨g,rfl,Gq,I,P,s⟩;have t:aB [] wr w3:=(((((aB.refl [] wr).alloc _).alloc _).drewN _).over (l8 _ _ _ _ _ _ _) (by simp)).trans Gq;have Sl:wr.heap.size<=g:=by simp at I;omega
     have n:∀r,Value.ownBlock (.slice (some (zB J H)) j co)=some r->r<wr.heap.size:=λr M=>(O.o.lt M).2;have R3:=aj (s.afJ (B:=A++(Value.ownBlock (.slice (some (zB J H)) j co)).toList) (λl=>by simp at l;rcases l with l|l;have:=HA.o g l;omega;have:=n g l;omega));have O3:=aj (O.o.aC t (by simp));have I3:=aj (HI.o.aC t (by simp));have F3:=aj (F.o.trans t);have:=t.size;clear Gq I P s t Sl n t0 t1 t2 t3 t4 t5 t6 t7 t8 u0 u1 u2 u3 u4;go_wp2_with (at_builtin;refine qD _ rfl _ _ 34 68 _ 5 64 CV Tryz.underlying34 rfl (by omega) rfl w.heap.size (.slice (some (zB J H)) j co) (fZ m) w3.heap.size (aO ⟨E,b,D,z,x⟩ (zS g b.length b.length)).toList rfl (O3.o.aC (S:=[]) ((aB.refl [] _).alloc _) (by simp)) rfl rfl (aez _ _ _ _ _ _ _) (by intro u hu;simp[aO]at hu;rcases hu with rfl|rfl|rfl|rfl|rfl<;>rfl) (by rw[V.o];omega) (by rw[V.o];omega) (by simp;omega) ?_;intro gg _ w5 L T bq _;rw[V.o]at L |-;have F5:Z_ (aB [] w w5):=(F3.o.alloc _).grown T (λr M=>.inr (O3.o.lt M).1);have O5:=aj L;have I5:Z_ (dV azx (A++[gg]) w5 (m++[aO ⟨E,b,D,z,x⟩ (zS g b.length b.length)]) (fD C j++[⟨E,b,D,z,x⟩])):=((I3.o.aC (S:=[]) ((aB.refl [] _).alloc _) (by simp)).snoc ⟨g,rfl,R3.o.aC (S:=[]) ((aB.refl [] _).alloc _) (by simp)⟩).app T bq;clear L T bq);go_roundg (gk-1);case measure=>omega
     case rel =>
      have O6:=O5.o;rw[Gi]at O6;refine⟨j+1,m++[aO ⟨E,b,D,z,x⟩ (zS g b.length b.length)],by omega,by go_num,by simp;omega,F5,O6,?_⟩;show dV _ _ _ _ _;rw[Qi.o];exact I5
  have:=aBb j C.length (by omega);have hj:j=C.length:=by omega
  subst hj;clear hF hO;go_wp2;go_ret;exact⟨_,m,rfl,F,O,HI⟩
theorem abV {re} {bI:LB->gz}:∀M s acc k {l s1},CSB s k->nu re bI s acc M=.ok (l,s1)->CSB s1 (k+M.length)/\s1.q=s.q/\l.length=acc.length+M.length
 | [],s,acc,k,l,s1,h,e=>by grind [nu]
 | m::r,s,acc,k,l,s1,h,e=>by
   rw[nu]at e;split at e
   .cases e
   rename_i t s2 ht;obtain⟨b,_,a⟩:=aev h ht;obtain⟨f,d,c⟩:=abV r _ _ (k+1) b e;refine⟨?_,d.trans a,by simp at c |-;omega⟩;rw[a0r,show k+(r.length+1)=k+1+r.length by omega];omega
def QH.cO{B C}(h:QH A w v C)(a:∀g∈B,g∈A\/w.heap.size<=g):QH B w v C:=by obtain⟨d,c,b⟩:=h;exact⟨d,c.cO a,b.cO a⟩
def results3 {fn p u t ty}(h:fn.results=#[.cell p ty,.tmp u,.tmp t])(tmps w g cs a b)
 (e:tmps.getD p undef=zP g) (d:tmps.getD u undef=a) (ht:tmps.getD t undef=b) (f:(loadVar ty (zA g)).run Tryz.prog w=.ok (.agg cs) w) :
 (results fn tmps).run Tryz.prog w=.ok (.tuple #[.agg cs,a,b]) w:=by
 have i:tmps[p]?.getD undef=zP g:=by simpa using e
 have c:tmps[u]?.getD undef=a:=by simpa using d
 have j:tmps[t]?.getD undef=b:=by simpa using ht
 simp[results,h,i,c,j,asAddr,f]
abbrev vz:V6:=⟨zN,zN,zN,zN,zN,zN⟩
def KS.start(Z) {c kb rt}(d:KR c kb vz ⟨rt,zN,zN,zN⟩):KS Z c kb c vz ⟨rt,zN,zN,zN⟩ lT:=by
 refine⟨d,[],[],zK,d.lt,⟨?_,?_⟩,dV.nil _ _ _,dV.nil _ _ _⟩
 .intro i r a
  match i,a with
  | 0,a=>cases a;exact OW.nil _ _ _ _
  | 1,a=>cases a;exact OW.nil _ _ _ _
  | 2,a=>cases a;exact OW.nil _ _ _ _
  | 3,a=>cases a;exact OW.nil _ _ _ _
  | 4,a=>cases a;exact OW.nil _ _ _ _
  | 5,a=>cases a;exact OW.nil _ _ _ _
  | i+6,a=>simp at a
 intro i j r s _ a _ g b
 match i,a with
 | 0,a=>cases a;cases b
 | 1,a=>cases a;cases b
 | 2,a=>cases a;cases b
 | 3,a=>cases a;cases b
 | 4,a=>cases a;cases b
 | 5,a=>cases a;cases b
 | i+6,a=>simp at a
def aiC(i:Nat)(w)(a:i<=1000000):zF 46 #[zI i] w λe w'=>e=zR (zI ((i+2:Nat):Int))/\w=w':=by
 delta zF;go_in;go_wp2;go_ret;exact⟨congrArg Ending.returned (by go_num),rfl⟩
def PCQ(re:LB->Nat)(bI:LB->gz)(C:List CR)(w:World)(e:Ending)(w':World):Prop :=
 aB [] w w'/\((∃n ln,pread re bI lT 0 C=.error (n,ln)/\e=zQ #[.agg vz.cells,zI (n:Nat),zI (ln:Nat)]) \/
 (∃s V,pread re bI lT 0 C=.ok s/\e=zQ #[.agg V.cells,zI 0,zI 0]/\PG [] w' V (iZ C s)))
def dV.plain {a xs}(h:dV azx A w a xs):dV Gj A w a xs :=
 ⟨h.1,λn cs x c b=>by obtain⟨g,e,r⟩:=h.2 n cs x c b;exact⟨_,e,r⟩⟩
def acz(re)(bI:LB->gz)(vr vt C w)(zV:QH [] w vt C)(bJ:0<C.length)(hCl:C.length<=16)(hC:∀c∈C,c.d<=5/\c.jM.length<=4/\-1<=c.wt/\-1<=c.ev/\-1<=c.rp/\c.ifs.length<=4/\∀m∈c.ifs,m.2.1<=3/\((m.2.1=2\/m.2.1=3)->RCP re bI m.2.2))(hvr:∃a n c,vr=.slice a n c) :
 zF 29 #[.agg #[vr,vt]] w (PCQ re bI C w):=by
 obtain⟨a0,n0,c0,rfl⟩:=hvr;obtain⟨Ay,H,ert⟩:∃a cap,vt=.slice a C.length cap:=by obtain⟨I,h1,h2⟩:=zV;obtain⟨a,cap,e,_⟩:=sP h1 h2;exact⟨a,cap,e⟩
 subst ert;obtain⟨W0,D⟩:∃W0,W0=((w.alloc (.cells #[.slice a0 n0 c0,.slice Ay C.length H] 82)).alloc (.cells #[zN,zN,zN,zN,zN,zN] 51)).alloc (.cells #[zN,zN,zN,zN,zN,zN,.slice Ay C.length H,zN,zN,zN] 122):=⟨_,rfl⟩;have Qb:aB [] w W0:=by rw[D];exact(((aB.refl [] w).alloc _).alloc _).alloc _
 have gT:W0.heap.size=w.heap.size+3:=by rw[D];simp
 have HBC:W0.heap[w.heap.size]?=some (.cells #[.slice a0 n0 c0,.slice Ay C.length H] 82):=by rw[D];exact((zG.alloc _).block w.heap.size (by simp) (by simp)).trans (bD _ _)
 have HBP:W0.heap[w.heap.size+1]?=some (.cells #[zN,zN,zN,zN,zN,zN] 51):=by rw[D];exact(zG.block (w.heap.size+1) (by simp) (by simp)).trans (alloc_at _ _ _ (by simp))
 have BK:KR W0 (w.heap.size+1+1) vz ⟨.slice Ay C.length H,zN,zN,zN⟩:=by rw[D];exact alloc_at _ _ _ (by simp)
 have HS:=KS.start [w.heap.size+1] BK;have Og:QH [w.heap.size+1+1] W0 (.slice Ay C.length H) C:=(zV.cO (by simp;omega)).aC Qb (by simp);clear zV BK;delta zF;go_in;go_wp2_with fail;go_loopg [15] C.length (λk v15 wr=>∃(j:Nat) (f:CS) (Vj:V6) (Uj:V4),j+k=C.length/\v15=zI j/\(KS [w.heap.size+1] W0 (w.heap.size+1+1) wr Vj Uj f)/\(KV vz Vj ⟨.slice Ay C.length H,zN,zN,zN⟩ Uj)/\(pread re bI f j (C.drop j)=pread re bI lT 0 C)/\(CSB f (4*j))/\(f.q.length=j)/\(∀x∈f.q,x.length<=4)/\(∀y∈f.x,re y=0))
 case atStart =>
  refine⟨0,lT,vz,_,by omega,rfl,?_,KV.refl _ _,?_,⟨by simp[lT],by simp[lT],by simp[lT],by simp[lT],by simp[lT]⟩,?_,?_,?_⟩
  .show KS _ _ _ _ _ _ _;have:=HS;rw[D]at this |-;omega
  .rfl
  .rfl
  .intro x h;simp[lT]at h
  intro x h;simp[lT]at h
 case round =>
  obtain⟨j,f,Vj,Uj,_,rfl,s,Gx,HP,CBJ,U,HQ4,HX⟩:=hrel;have:=s.fr.size;have bc:=(s.fr.block w.heap.size (by omega) (by simp;omega)).trans HBC;have HBW:=(s.fr.block (w.heap.size+1) (by omega) (by simp)).trans HBP;have:zC wr w.heap.size 1 (.slice Ay C.length H):=by simp[World.cell?,bc]
  by_cases aL:j<C.length
  .obtain⟨I,r1,r2⟩:=id Og;obtain⟨_,_,ea,rr⟩:=sP r1 r2;simp[Value.slice.injEq,a1W]at ea;obtain⟨rfl,rfl⟩:=ea;obtain⟨F,or,_,rfl,Au,RU,⟨_,_,rfl,xL,JI⟩,kk⟩:=rr j aL;obtain⟨ay,cy,rfl,_⟩:=xL.str;obtain⟨ai,ci,rfl,_⟩:=JI.mts;have tc:∀(o:Nat) (u:Value),(rcl C[j] (.slice ay C[j].jM.length cy) (.slice ai C[j].ifs.length ci))[o]?=some u->zC wr F (or+j*9+o) u:=λo u hu=>(s.fr.cell (p:=(zB F (or+j*9+o))) Au RU).trans (kk o u hu);have:zC wr F (or+j*9) (zI (C[j].d:Nat)):=tc 0 _ rfl;have:zC wr F (or+j*9+1) (.string (bs C[j].rc)):=tc 1 _ rfl;have:zC wr F (or+j*9+2) (.bool C[j].tb):=tc 2 _ rfl;have:zC wr F (or+j*9+3) (.slice ay C[j].jM.length cy):=tc 3 _ rfl;have:zC wr F (or+j*9+4) (zI C[j].wt):=tc 4 _ rfl;have:zC wr F (or+j*9+5) (zI C[j].ev):=tc 5 _ rfl;have:zC wr F (or+j*9+6) (zI C[j].rp):=tc 6 _ rfl;have:zC wr F (or+j*9+7) (.slice ai C[j].ifs.length ci):=tc 7 _ rfl;have:zC wr F (or+j*9+8) (.bool C[j].co):=tc 8 _ rfl;have Lt:=hC C[j] (a0u aL);obtain⟨h1,h2,h3,h4,h5,h6,h7⟩:=Lt;have Z:=CBJ;have N1:∀W,aB [] wr W->zF 45 #[zP (w.heap.size+1+1),.slice ai C[j].ifs.length ci] W (RMQ [w.heap.size+1] re bI W0 (w.heap.size+1+1) Vj Uj f C[j].ifs):=λW hW=>Ul [w.heap.size+1] re bI W0 (w.heap.size+1+1) W Vj Uj f (s.aC hW) (by have:=hW.size;simp;omega) ⟨by have:=Z.n;omega,by have:=Z.c;omega,by have:=Z.x;omega,by have:=Z.a;omega,by have:=Z.t;omega⟩ _ C[j].ifs JI h6 h7 (by omega);have L:pread re bI f j (C[j]::C.drop (j+1))=pread re bI lT 0 C:=by rw[<-a0k aL];omega
   clear kk rr JI xL tc Z HP bc h7;generalize C[j]=c at *;go_wp2_with fail;refine(N1 _ zG).mono ?_;clear N1;rintro e M hT;rcases hT with⟨n,z,rfl,F2⟩|⟨l,s1,V2,U2,z,rfl,K2,aix⟩
   .have HE:pread re bI lT 0 C=.error (n,j+2):=by rw[<-L,pread,z]
    have:((n:Int) != 0)=true:=by
     rcases El (re:=re) (bI:=bI) c.ifs f [] HX with⟨e,G,_,f3⟩|⟨l',s',G,_⟩
     .rw[z]at G;cases G;rw[a1M];omega
     rw[z]at G;cases G
    have HB2:=(F2.block (w.heap.size+1) (by omega) (by simp)).trans HBP;have:=aBd HB2;have NL:=aiC j M (by omega);clear z L;go_wp2_with fail;refine NL.mono ?_;rintro e _ ⟨rfl,rfl⟩;go_wp2_with fail;refine bodyPost_ret (results3 rfl _ _ (w.heap.size+1) vz.cells _ _ rfl rfl rfl (adZ (ad1 _ _ _ _ _ _ HB2) rfl)) rfl ?_;refine⟨?_,.inl ⟨n,j+2,HE,rfl⟩⟩;exact((Qb.over F2 (by simp;omega)).over (ad2 _ _ _ _ _ _ _ _) (by simp))
   obtain⟨g1,g2,g3⟩:=abV c.ifs f [] (4*j) CBJ z;have HE:pread re bI { s1 with q:=s1.q++[l] } (j+1) (C.drop (j+1))=pread re bI lT 0 C:=by rw[<-L,pread,z]
   have CB2:CSB { s1 with q:=s1.q++[l] } (4*(j+1)):=⟨by have:=g1.n;simp only;omega,by have:=g1.c;simp only;omega,by have:=g1.x;simp only;omega,by have:=g1.a;simp only;omega,by have:=g1.t;simp only;omega⟩;have HQ2:{ s1 with q:=s1.q++[l] }.q.length=j+1:=by show(s1.q++[l]).length=_;rw[a0p,g2,U];rfl
   have HQ5:∀x∈{ s1 with q:=s1.q++[l] }.q,x.length<=4:=by
    intro x h;have JH:x∈s1.q++[l]:=h;rw[a0e,a0w,g2]at JH;rcases JH with JH|rfl
    .exact HQ4 x JH
    simp at g3;omega
   have HX2:∀y∈{ s1 with q:=s1.q++[l] }.x,re y=0:=by
    rcases El (re:=re) (bI:=bI) c.ifs f [] HX with⟨e,G,_⟩|⟨l',s',G,_,f3⟩
    .rw[z]at G;cases G
    rw[z]at G;cases G;omega
   have KV2:=Gx.trans aix;clear aix g1 g2 g3 z L;go_wp2;go_roundg (gk-1);exact⟨j+1,_,V2,U2,by omega,by go_num,K2,KV2,HE,CB2,HQ2,HQ5,HX2⟩;omega
  have hj:j=C.length:=by omega
  have HE:pread re bI lT 0 C=.ok f:=by
   rw[<-HP,hj,a2H];rfl
  obtain⟨vn,vc,va,vt,_,_⟩:=Vj;obtain⟨_,ux,uq,_⟩:=Uj;obtain⟨z,e2,e3,e4⟩:=id Gx;simp only at z e2 e3 e4;subst z e2 e3 e4;have N2:=an6 [w.heap.size+1+1,w.heap.size+1] wr (by simp;omega) (.slice Ay C.length H) C ((Og.aC s.fr (by simp)).cO (by simp)) (by omega) (λc N=>by obtain⟨_,_,_,_,_,_⟩:=hC c N;omega);have Vd:=s.row;clear HP Gx bc;go_wp2_with fail;refine N2.mono ?_;clear N2;rintro e M ⟨_,I,rfl,F2,O2,I2⟩;obtain⟨T,O,he⟩:=O2.shape;rw[jA]at he;subst he;have R2:=Vd.aC F2 (by simp);have c4:=R2.c 4;simp at c4;have:=R2.fz 4;have R3:=R2.set (V':=⟨vn,vc,va,vt,.slice T I.length O,zN⟩) (U':=⟨.slice Ay C.length H,ux,uq,zN⟩) 4 (.slice T I.length O) rfl;have FK:aB [w.heap.size+1+1] wr (M.setCell (zB (w.heap.size+1+1) 4) (.slice T I.length O)):=(zK.over F2 (by simp)).setCell (p:=(zB (w.heap.size+1+1) 4)) (.inl (by simp)) _;have HLC:LC (M.setCell (zB (w.heap.size+1+1) 4) (.slice T I.length O)) (w.heap.size+1+1) (.slice Ay C.length H) uq C f.q:=by
   obtain⟨ca,cq,g⟩:=s.g;refine⟨(Og.aC s.fr (by simp)).aC FK (by simp),⟨cq,?_,?_⟩,by omega,HQ4,hCl,λc N=>(hC c N).1⟩
   .have ow:OW 147 1 W0.heap.size wr uq (fZ cq):=g.rw.asz 5 ⟨147,1,uq,fZ cq⟩ rfl;exact(ow.rw (A:=[w.heap.size+1+1]) (λx h N=>by simp at N;have:=(ow.lt h).1;omega)).aC FK (by simp)
   exact(g.qi.cO (B:=[w.heap.size+1+1]) (λx h=>by simp at h;subst h;exact .inl (by simp))).aC FK (by simp)
  generalize hw3:M.setCell (zB (w.heap.size+1+1) 4) (.slice T I.length O)=w3 at *;have N3:=Um w3 (w.heap.size+1+1) w3 _ _ ux uq C f.q HLC ⟨R3,zK,R3.lt,OW.nil _ _ _ _⟩ bJ;clear HLC;obtain⟨an,cn,en⟩:∃a c,vn=.slice a f.n.length c:=by obtain⟨a,c,e⟩:=(s.own 0 (r:=⟨9,1,vn,sc f.n⟩) (λca cq=>rfl)).shape;exact⟨a,c,by rw[iC]at e;omega⟩
  obtain⟨ac,VR,ec⟩:∃a c,vc=.slice a f.c.length c:=by obtain⟨a,c,e⟩:=(s.own 1 (r:=⟨9,1,vc,sc f.c⟩) (λca cq=>rfl)).shape;exact⟨a,c,by rw[iC]at e;omega⟩
  obtain⟨S,ctx,et⟩:∃a c,vt=.slice a f.t.length c:=by obtain⟨a,c,e⟩:=(s.own 4 (r:=⟨102,3,vt,tc f.t⟩) (λca cq=>rfl)).shape;exact⟨a,c,by rw[YX]at e;omega⟩
  obtain⟨aa,na,P,ea⟩:∃a n c,va=.slice a n c:=by obtain⟨ca,cq,g⟩:=s.g;obtain⟨a,c,e⟩:=(g.rw.asz 3 ⟨100,259,va,fZ ca⟩ rfl).shape;exact⟨a,_,c,e⟩
  subst en ec et ea;go_wp2_with fail;refine N3.mono ?_;clear N3;rintro e w4 ⟨_,_,rfl,i,_,F4,O4⟩;obtain⟨a4,R,e4⟩:=O4.shape;subst e4;have d0:=i.c 0;have d1:=i.c 1;have d2:=i.c 2;have d3:=i.c 3;have d4:=i.c 4;have d5:=i.c 5;have:=i.fz 5;simp at d0 d1 d2 d3 d4 d5;have J:aB [w.heap.size+1+1] M w3:=by rw[<-hw3];exact zK.setCell (p:=(zB (w.heap.size+1+1) 4)) (.inl (by simp)) _
  have V:=(F4.block (w.heap.size+1) (by have:=J.size;have:=F2.size;omega) (by simp)).trans ((J.block (w.heap.size+1) (by have:=F2.size;omega) (by simp)).trans ((F2.block (w.heap.size+1) (by omega) (by simp)).trans HBW));have:=aBd V;clear i;go_wp2_with fail;have hl4:w.heap.size+1<w4.heap.size:=(a0c.1 V).1;have FB:=λ(X:Value)=>(aB.refl [w.heap.size+1+1] w4).setCell (p:=(zB (w.heap.size+1+1) 5)) (.inl (by simp)) X;refine bodyPost_ret (results3 rfl _ _ (w.heap.size+1) (V6.cells ⟨.slice an f.n.length cn,.slice ac f.c.length VR,.slice aa na P,.slice S f.t.length ctx,.slice T I.length O,.slice a4 (uj (C8 C f.q)).length R⟩) _ _ rfl rfl rfl (adZ (ad1 _ _ _ _ _ _ (((FB _).block (w.heap.size+1) hl4 (by simp)).trans V)) rfl)) rfl ?_;have FE:=((aB.refl [w.heap.size+1+1,w.heap.size+1] w4).over (FB (.slice a4 (uj (C8 C f.q)).length R)) (by simp)).over (ad2 _ (w.heap.size+1) (.slice an f.n.length cn) (.slice ac f.c.length VR) (.slice aa na P) (.slice S f.t.length ctx) (.slice T I.length O) (.slice a4 (uj (C8 C f.q)).length R)) (by simp);have F3E:=((aB.refl [w.heap.size+1+1,w.heap.size+1] w3).over F4 (by simp)).trans FE;have Y:=((aB.refl [w.heap.size+1+1,w.heap.size+1] M).over J (by simp)).trans F3E;have E:=((aB.refl [w.heap.size+1+1,w.heap.size+1] wr).over F2 (by simp)).trans Y;obtain⟨ca,_,g⟩:=s.g;have Jl:∀(e:TypeId) (k b:Nat) (u:World) (v:Value) (vs:List (List Value)),OW e k b u v vs->w.heap.size+3<=b->∀x,v.ownBlock=some x->x ∉ [w.heap.size+1+1,w.heap.size+1]:=by intro e k b u v _ ho _ x h N;have:=(ho.lt h).1;simp at N;omega
  refine⟨(Qb.over s.fr (by simp;omega)).over E (by simp;omega),.inr ⟨f,_,HE,rfl,?_⟩⟩;have on:=g.rw.asz 0 ⟨9,1,.slice an f.n.length cn,sc f.n⟩ rfl;have oc:=g.rw.asz 1 ⟨9,1,.slice ac f.c.length VR,sc f.c⟩ rfl;have oa:=g.rw.asz 3 ⟨100,259,.slice aa na P,fZ ca⟩ rfl;have ot:=g.rw.asz 4 ⟨102,3,.slice S f.t.length ctx,tc f.t⟩ rfl;have:=F2.size;have:=J.size;refine⟨?_,?_,⟨ca,?_,?_⟩,?_,⟨I,?_,?_⟩,?_⟩
  .exact((on.rw (Jl _ _ _ _ _ _ on (by omega))).aC E (by simp)).cO (by simp)
  .exact((oc.rw (Jl _ _ _ _ _ _ oc (by omega))).aC E (by simp)).cO (by simp)
  .exact((oa.rw (Jl _ _ _ _ _ _ oa (by omega))).aC E (by simp)).cO (by simp)
  .exact((g.ai.cO (B:=[w.heap.size+1+1,w.heap.size+1]) (λx h=>.inl (by simp at h |-;omega))).aC E (by simp)).cO (by simp)
  .exact((ot.rw (Jl _ _ _ _ _ _ ot (by omega))).aC E (by simp)).cO (by simp)
  .exact((O2.rw (Jl _ _ _ _ _ _ O2 (by omega))).aC Y (by simp)).cO (by simp)
  .exact(((I2.cO (B:=[w.heap.size+1+1,w.heap.size+1]) (λx h=>.inl (a0e.2 (.inl h)))).aC Y (by simp)).cO (by simp)).plain
  exact((O4.rw (Jl _ _ _ _ _ _ O4 (by omega))).aC FE (by simp)).cO (by simp)
theorem ari(L):(sc L).flatten=sv L:=by
 induction L with
 | nil=>rfl
 | cons x r a=>simp only[sc,sv,a0E,List.flatten_cons]at a |-;rw[a];rfl
def SL.rw0 {base}(h:SL base w v L):RW [] 1 w v (sc L):=by
 have a:OW 9 1 base w v (sc L):=by
  refine⟨?_,λx b=>?_⟩
  .rw[ari,iC];exact h
  obtain⟨y,_,rfl⟩:=a0q.1 b;rfl
 exact a.rw (by simp)
def ML.rw0 {base M}(h:ML base w v M):RW [] 3 w v (LH M):=by
 have a:OW 149 3 base w v (LH M):=by
  refine⟨?_,λx b=>?_⟩
  .have e:(LH M).flatten=mv M:=by unfold LH mv;rw[List.flatMap_def]
   rw[e,show(LH M).length=M.length by simp[LH]];exact h
  obtain⟨y,_,rfl⟩:=a0q.1 b;rfl
 exact a.rw (by simp)
def asQ {base R C}(h:RL base w v R)(f:qL base w R C):QH [] w v C:=by
 refine⟨R.map RV.cells,?_,by simpa using f.1,λn cs c g k=>?_⟩
 .have i:OW 125 9 base w v (fZ (R.map RV.cells)):=by
   refine⟨?_,λx b=>?_⟩
   .have e:(fZ (R.map RV.cells)).flatten=rvl R:=by unfold fZ rvl DX;rw[a2m,List.flatMap_def];rfl
    rw[e,jA,a0y];exact h
   unfold fZ at b;rw[a2m]at b;obtain⟨y,_,rfl⟩:=a0q.1 b;rfl
  exact i.rw (by simp)
 rw[a0Q,Option.map_eq_some_iff]at g;obtain⟨rv,j,rfl⟩:=g;have a:=f.2 n rv c j k;refine⟨rv.ek,rv.iJ,?_,a.Im.rw0,a.ifs.rw0⟩;unfold RV.cells rcl;rw[a.d,a.rc,a.tb,a.wt,a.ev,a.rp,a.co]
theorem abX:∀C i a,i<=16->lD C i a=0->(∀c∈C,c.d<=5)/\C.length+i<=16
 | [],i,a,e,_=>⟨by simp,by simpa using e⟩
 | c::r,i,a,e,h=>by
   unfold lD at h;cases hb:(!(if (i==0)=true then nW c else jN c.d a)||decide (16<=i))
   .rw[hb]at h;simp only[a0A,a0I]at h;have g:(if (i==0)=true then nW c else jN c.d a)=true/\¬ 16<=i:=by grind
    obtain⟨f,j⟩:=abX r (i+1) c.d (by omega) h;refine⟨λx b=>?_,by simp;omega⟩;rcases a0l.1 b with rfl|b
    .grind [nW,jN]
    exact f x b
   rw[hb]at h;simp at h
def pI {C}(h:jH t=.ok (L,C)):oV t=.ok (L,C)/\0<C.length/\C.length<=16/\∀c∈C,c.d<=5:=by
 unfold jH at h;split at h
 .cases h
 split at h
 .cases h
 rename_i l f i;split at h
 .cases h
 rename_i ht;split at h
 .cases h
 simp only[Except.ok.injEq,Prod.mk.injEq]at h;obtain⟨rfl,rfl⟩:=h;have e:iX f=0:=by omega
 unfold iX at e;split at e
 .omega
 rename_i j;obtain⟨g,k⟩:=abX f 0 0 (by omega) e;refine⟨i,?_,by omega,g⟩;cases f with
 | nil=>simp at j
 | cons a b=>simp
def pJ(re:LB->Nat)(t:LB):Nat × Nat :=
 match jH t with
 | .error (n,l)=>(n,l)
 | .ok (_,C)=>xF re C 0
def ACQ(re:LB->Nat)(bI:LB->gz)(t:LB)(w:World)(e:Ending)(w':World):Prop :=
 aB [] w w'/\(((pJ re t).1≠0/\e=zQ #[.pointer none,zI ((pJ re t).1:Nat),zI ((pJ re t).2:Nat)]) \/
 (∃L C s V pb,pJ re t=(0,0)/\jH t=.ok (L,C)/\pread re bI lT 0 C=.ok s/\e=zQ #[zP pb,zI 0,zI 0]/\w'.heap[pb]?=some (.cells V.cells 53 (0,0))/\PG [pb] w' V (iZ C s)/\w.heap.size<=pb))
def acA(re)(bI:LB->gz)(t w)(ht:t.length<=1048576)(Gg:∀L C,jH t=.ok (L,C)->∀c∈C,∀m∈c.ifs,(m.2.1=2\/m.2.1=3)->RCP re bI m.2.2) :
 zF 14 #[zT t] w (ACQ re bI t w):=by
 have M:=aj Gg;clear Gg;delta zF;go_in;go_wp2_with fail;refine(afb _ _ ht).mono ?_;rintro e w1 ⟨aZ,_,vt,F,ln,rfl,u⟩;have KF:=aj aZ;clear aZ;cases f:jH t with
 | error nl =>
   obtain⟨n,l⟩:=nl;have v:Z_ (pJ re t=(n,l)):=by show _=_;unfold pJ;rw[f]
   rw[f]at u;obtain⟨rfl,rfl,rfl,rfl,_⟩:=u;have bJ:((n:Int) != 0)=true:=by rw[a1M];omega
   go_wp2;go_ret3;refine⟨KF.o.alloc _,.inl ?_⟩;rw[v.o];exact⟨by simp only;omega,rfl⟩
 | ok LC =>
   obtain⟨L,C⟩:=LC;have v:Z_ (pJ re t=xF re C 0):=by show _=_;unfold pJ;rw[f]
   obtain⟨W,h2,h3,h4⟩:=pI f;have p:=(qT t L C ht W).2.2;rw[f]at u;obtain⟨rfl,rfl,U,_,Qd,Qe,_⟩:=u;obtain⟨a0,T,rfl⟩:=U.shape;have j:=asQ Qd Qe;obtain⟨Ay,P,E⟩:∃a cap,vt=.slice a C.length cap:=by
    obtain⟨_,q1,q2⟩:=j;obtain⟨a,cap,e,_⟩:=sP q1 q2;exact⟨a,cap,e⟩
   subst E;have N2:=aj (acz re bI (.slice a0 L.length T) (.slice Ay C.length P) C (w1.alloc (.cells #[.slice a0 L.length T,.slice Ay C.length P] 82)) (j.aC (S:=[]) ((aB.refl [] _).alloc _) (by simp)) h2 h3 (λc y=>by
    have g:=p c y;exact⟨h4 c y,g.byl,g.wt.1,g.ev.1,g.rp.1,g.ifl,λm JJ=>⟨(g.ifs m JJ).kind,λhk=>M.o L C f c y m JJ hk⟩⟩) ⟨_,_,_,rfl⟩)
   have HR:=aj f;have q:=aj (Uk (re:=re) (bI:=bI) C lT 0 (by simp[lT]));clear j Qd Qe U p W f;go_wp2_with fail;refine(N2.o).mono ?_;clear N2;rintro e O ⟨R,hq⟩;have F2:=aj ((KF.o.alloc _).trans R);clear R;rcases hq with⟨n,ln,h,rfl⟩|⟨s,V,h,rfl,b⟩
   .have k:xF re C 0=(n,ln)/\n≠0:=by
     rcases q.o with⟨e,d,D,f3⟩|⟨s1,d,_⟩
     .rw[h]at d;cases d;exact⟨D,f3⟩
     rw[h]at d;cases d
    have x:=aj k;have:((n:Int) != 0)=true:=by rw[a1M];have:=k.2;omega
    clear k h;simp only[V6.cells];go_wp2;go_ret3;refine⟨F2.o.alloc _,.inl ?_⟩;rw[v.o,x.o.1];exact⟨x.o.2,rfl⟩
   have k:xF re C 0=(0,0):=by
    rcases q.o with⟨e,d,_⟩|⟨_,d,D,_⟩
    .rw[h]at d;cases d
    exact D
   have x:=aj k;have HE:=aj h;obtain⟨_,_,_,_,_,_⟩:=V;obtain⟨an,cn,Y,_⟩:=b.n;obtain⟨ac,VR,ec,_⟩:=b.c;obtain⟨ca,A,_⟩:=id b.a;obtain⟨aa,I,ea,_⟩:=A;obtain⟨J,ctx,X,_⟩:=b.t;obtain⟨cr,z,_⟩:=id b.r;obtain⟨ar,G,F,_⟩:=z;obtain⟨ai,H,Z,_⟩:=b.i;simp only at Y ec ea X F Z;subst Y ec ea X F Z;have N:=aj b;clear k h b;simp only[V6.cells];go_wp2;go_ret3;refine⟨(F2.o.alloc _).alloc _,.inr ⟨L,C,s,⟨.slice an (sc (iZ C s).names).length cn,.slice ac (sc (iZ C s).consts).length VR,.slice aa (fZ ca).length I,.slice J (tc (iZ C s).tests).length ctx,.slice ar (fZ cr).length G,.slice ai (uj (iZ C s).code).length H⟩,O.heap.size+1,by rw[v.o,x.o],HR,HE,rfl,Nf _ _ _,?_,by have:=F2.o.size;omega⟩⟩;exact(N.o.cO (B:=[O.heap.size+1]) (by simp)).aC (S:=[]) (((aB.refl [] _).alloc _).alloc _) (by simp)
theorem aiD(m):Ef (qG m)=(m.2.1==2||m.2.1==3):=by
 unfold Ef qG jr;by_cases c:m.2.1=1
 .simp[c]
 by_cases b:m.2.1=2
 .simp[b]
 by_cases a:m.2.1=3
 .simp[a]
 simp[c,b,a]
theorem aiE:∀M:List CM,Xj (M.map qG)=mF gH M
 | []=>rfl
 | m::M=>by rw[a0E,Xj,mF,aiD,aiE M];rfl
theorem afZ:∀C i,QA (C.map qN) i=xF gH C i
 | [],_=>rfl
 | c::C,i=>by have e:(qN c).ifs=c.ifs.map qG:=rfl;rw[a0E,QA,xF,e,aiE,afZ C (i+1)]
structure CfR(w w':World)(cb base:Nat)(C:List CR)(X:List (Nat × iY × RR)):Prop where
 lo:w.heap.size<=cb
 up:cb<base
 cf:∃vr vl,sw w' cb vr (tC ((X.map (·.1)).getD 0 0)) vl
 rb:∀x∈X,qz w' x.1 x.2.1
 rc:∀x∈X,x.2.1.rc=x.2.2.rc/\x.2.1.t0=x.2.2.t0/\x.2.1.t1=x.2.2.t1/\x.2.1.t2=x.2.2.t2/\x.2.1.on=x.2.2.on
 Im:∀x∈X,SL base w' x.2.1.ek (byW x.2.2.told x.2.2.names)
 kd:∀x∈X,LP base w' x.2.1.vk ((sD (xd X)).2 x.1)
 ifs:JN w' X (λ_ _=>True)
 nd:(X.map (·.1)).Nodup
 eq:X.map (·.2.2)=C.map qN
def MnQ(t:LB)(w:World)(e:Ending)(w':World):Prop :=
 aB [] w w'/\(((pJ gH t).1≠0/\e=zQ #[.pointer none,zI ((pJ gH t).1:Nat),zI ((pJ gH t).2:Nat)]) \/
 (∃L C cb base X,pJ gH t=(0,0)/\jH t=.ok (L,C)/\e=zQ #[tC cb,zI 0,zI 0]/\CfR w w' cb base C X))
def aiF(re):∀C i,(xF re C i).1=0->xF re C i=(0,0)
 | [],_,_=>rfl
 | c::C,i,h=>by
   rw[xF]at h |-;by_cases a:mF re c.ifs=0
   .simp[a]at h |-;exact aiF re C (i+1) h
   have:(mF re c.ifs==0)=false:=by simpa using a
   rw[this]at h;simp at h;omega
def akM{l}(h:jH t=.error (n,l)):n≠0:=by
 unfold jH at h;split at h
 .simp at h;omega
 split at h
 .simp at h;omega
 split at h
 .simp at h;omega
 split at h
 .simp at h;omega
 cases h
def akN(t w)(ht:t.length<=1048576):zF 15 #[zT t] w (MnQ t w):=by
 have Y:=aj (anQ _ w ht);delta zF;go_in;go_wp2_with fail;refine(Y.o).mono ?_;rintro e N ⟨u,y⟩;rw[arb]at u;clear Y;cases b:jH t with
 | error x =>
   obtain⟨n,l⟩:=x;rw[b]at u;have HR:Z_ (pJ gH t=(n,l)):=by show _=_;unfold pJ;rw[b]
   have R:=akM b;have B:((n:Int)==0)=false:=a0j.2 (by omega);have F:=aj y;have HN:=aj R;obtain rfl:=u;clear b y R;go_wp2;go_ret3;refine⟨F,.inl ⟨by rw[HR.o];exact HN,by rw[HR.o];rfl⟩⟩
 | ok x =>
   obtain⟨L,C⟩:=x;rw[b]at u;obtain⟨cb,base,vr,vt,O,X,rfl,q,yR,T,a,f,z⟩:=u;have f:C.map qN=X.map (·.2.2):=f;have HR:Z_ (pJ gH t=QA (X.map (·.2.2)) 0):=by show _=_;unfold pJ;rw[b,<-f,afZ]
   have U:=qT t L C ht (pI b).1;have v:=(pI b).2.2;have A:X.length=C.length:=by have:=congrArg List.length f;simpa using this.symm
   have i:∀x∈X,alQ x.2.2:=by
    intro x a;have:x.2.2∈C.map qN:=by rw[f];exact List.mem_map_of_mem a
    rw[a0q]at this;obtain⟨c,q,e⟩:=this;rw[<-e];exact asN c (U.2.2 c q) (v.2 c q)
   have NR:=aj (afG cb base vr vt O X N q T a z.row (by omega) (λx a=>⟨by have:=(i x a).ifs;omega,λm D=>((i x a).im m D).2.2⟩));have d:=aj a;have g:=aj z;have I:=aj q;have F:=aj y;have H:=aj b;have G:=aj f;have Z:Z_ ((QA (X.map (·.2.2)) 0).1=0->QA (X.map (·.2.2)) 0=(0,0)):=by
    intro h;rw[<-f,afZ]at h |-;exact aiF _ _ _ h
   clear q yR T a z U v A i b y f;unfold tC at NR |-;go_wp2_with fail;refine(NR.o).mono ?_;rintro e M ⟨rfl,s,V⟩;have AI:=aj V;have FW:Z_ (aB [] w M):=((F.o.nil (S:=QB X)).trans s).mono (λk p D=>by
    have:=(YW d.o D).1;have:=g.o.lo;have:=g.o.up;omega)
   have J:Z_ ((QA (X.map (·.2.2)) 0).1=0->CfR w M cb base C X):=by
    intro r;have nt:∀k,k∈QB X->∀t:TypeId,t≠137->k<base\/∃cur W fz,N.heap[k]?=some (.cells cur W fz)/\W≠t:=λk p t B=>by
     obtain⟨_,c,h⟩:=YW d.o p;exact .inr ⟨c,_,_,h,λe=>B e.symm⟩
    refine⟨g.o.lo,g.o.up,⟨vr,O,?_⟩,λx a=>?_,λx a=>?_,λx a=>?_,λx a=>?_,AI.o r,g.o.nd,G.o.symm⟩
    .rw[<-g.o.root];exact I.o.aC s (TI d.o I.o (by decide))
    .exact(d.o x a).at_.aC s (TI d.o (d.o x a).at_ (by decide))
    .have h:=d.o x a;exact⟨h.rc,h.t0,h.t1,h.t2,h.on⟩
    .exact jJ (d.o x a).Im s (λk p=>nt k p _ (by decide))
    exact jJ (g.o.Oe x a) s (λk p=>nt k p _ (by decide))
   clear s V NR F d g I AI;obtain⟨j,E⟩:∃j,QA (X.map (·.2.2)) 0=j:=⟨_,rfl⟩;rw[E]at HR Z J;rw[E];clear E;obtain⟨P,_⟩:=j;by_cases r:P=0
   .have e:=Z.o r;simp only[Prod.mk.injEq]at e;obtain⟨rfl,rfl⟩:=e;clear Z r;go_wp2;go_ret3;exact⟨FW,.inr ⟨L,C,cb,base,X,HR,H,rfl,J.o (by first | trivial|rfl)⟩⟩
   have:((P:Int)==0)=false:=a0j.2 (by omega);have H0:=aj r;clear r Z J;go_wp2;go_ret3;exact⟨FW,.inl ⟨by rw[HR.o];exact H0,by rw[HR.o];rfl⟩⟩
abbrev kW:Type:=LB × LB
def LR(w:World)(v:Value)(L:List kW):Prop :=
 ∃a cap,v=.slice a L.length cap/\L.length<=1048576/\∀(j:Nat) (h:j<L.length),∃g off,a=some (zB g off)/\g<w.heap.size/\w.cell? (zB g (off+j*2))=some (.string (bs L[j].1))/\w.cell? (zB g (off+j*2+1))=some (.string (bs L[j].2))
theorem LR.aC {S w' L}(h:LR w v L)(f:aB S w w')(i:∀a n c,v=.slice (some a) n c->a.block∉S):LR w' v L:=by obtain⟨a,cap,rfl,o,m⟩:=h;refine⟨a,cap,rfl,o,?_⟩;intro j e;obtain⟨g,off,rfl,b,l,k⟩:=m j e;have d:=i (zB g off) _ _ rfl;exact⟨g,off,rfl,a0t b f.size,(f.cell (p:=(zB g (off+j*2))) b d).trans l,(f.cell (p:=(zB g (off+j*2+1))) b d).trans k⟩
def dH(L:List kW)(n:LB):LB:=match L.find? (λx=>x.1==n) with | some x=>x.2|none=>[]
def uo:List kW->List kW->Bool
 | _,[]=>true
 | P,x::r=>aJ x.1&&decide (x.2.length<=40)&&!(P.any λy=>y.1==x.1)&&uo (P++[x]) r
def gB(L:List kW):Bool:=decide (L.length<=12)&&uo [] L
theorem aeA(L:List kW)(j)(a:j<L.length):uo (L.take j) (L.drop j)=(aJ L[j].1&&decide (L[j].2.length<=40)&&!((L.take j).any λy=>y.1==L[j].1)&&uo (L.take (j+1)) (L.drop (j+1))):=by grind [uo,List.take_add_one,List.getElem?_eq_getElem,List.drop_eq_getElem_cons]
def aiH(v L n w)(h:LR w v L) :
 zF 38 #[v,zT n] w λe w'=>e=zR (zT (dH L n))/\w=w':=by
 obtain⟨a,_,rfl,y,r⟩:=h;have:=aT;delta zF;go_in;go_wp2_with fail;go_loopg [5] L.length (λk l wr=>∃j:Nat,j+k=L.length/\l=zI j/\wr=w/\Z_ ((L.drop j).find? (λx=>x.1==n)=L.find? (λx=>x.1==n)));exact⟨0,by omega,rfl,rfl,by show _=_;simp⟩
 .obtain⟨j,t,rfl,q,c⟩:=hrel;subst q;by_cases f:j<L.length
  .obtain⟨g,_,rfl,u,p,m⟩:=r j f;have b:=c.o;rw[a0k f,List.find?_cons]at b;generalize L[j]=x at *;obtain⟨nm,i⟩:=x;simp only at p m b;cases he:(nm==n)
   .rw[he]at b;clear c;go_wp2;go_roundg (gk-1);exact⟨j+1,by omega,by go_num,rfl,b⟩;omega
   rw[he]at b;have d:Z_ (dH L n=i):=by show _=_;unfold dH;rw[<-b]
   clear c;go_wp2;go_ret;rw[d.o];exact⟨rfl,rfl⟩
  have d:Z_ (dH L n=[]):=by
   show _=_;unfold dH;rw[<-c.o,a0i (by omega)];rfl
  clear c;go_wp2;go_ret;rw[d.o];exact⟨rfl,rfl⟩
def Uo(RN:∀(n:LB) (w:World),n.length<=140737488355328->zF 13 #[zT n] w λe w'=>e=zR (.bool (aJ n))/\w=w')
 (v L w) (h:LR w v L) (N:∀x∈L,x.1.length<=140737488355328/\x.2.length<=140737488355328) :
 zF 5 #[v] w λe w'=>e=zR (.bool (gB L))/\aB [] w w':=by
 obtain⟨a,_,rfl,_,C⟩:=h;have:=aT;have:=bL;by_cases hL:12<L.length
 .have b:gB L=false:=by unfold gB;rw[a0f (by omega)];rfl
  delta zF;go_in;go_wp2;go_ret;rw[b];exact⟨rfl,zK⟩
 have U:gB L=uo [] L:=by unfold gB;rw[a0g (by omega)];rfl
 delta zF;go_in;go_wp2_with fail;go_loopg [3] L.length (λk m wr=>∃j q:Nat,j+k=L.length/\m=zI j/\wr=w.drewN q/\(uo (L.take j) (L.drop j)=gB L));exact⟨0,0,by omega,rfl,rfl,by rw[U];simp⟩
 .obtain⟨j,q,X,rfl,o,l⟩:=hrel;subst o;obtain⟨go,M⟩:∃go,go=gk:=⟨_,rfl⟩;subst M;by_cases r:j<L.length
  .obtain⟨g,_,rfl,Z,J,I⟩:=C j r;have A:=N L[j] (a0u r);have c:gB L=(aJ L[j].1&&decide (L[j].2.length<=40)&&!((L.take j).any λy=>y.1==L[j].1)&&uo (L.take (j+1)) (L.drop (j+1))):=by rw[<-l];exact aeA _ _ r
   generalize P:L[j]=x at *;obtain⟨nm,E⟩:=x;simp only at J I A c;have d:=RN _ (w.drewN q) A.1;cases D:aJ nm
   .rw[D]at d c;have b:gB L=false:=by rw[c];rfl
    go_wp2_with (go_at_call 13;refine d.mono ?_;rintro e w' ⟨rfl,rfl⟩);go_ret;rw[b];exact⟨rfl,zK.drewN _⟩
   rw[D]at d c;by_cases Af:40<E.length
   .have b:gB L=false:=by rw[c,a0f (by omega)];rfl
    go_wp2_with (go_at_call 13;refine d.mono ?_;rintro e w' ⟨rfl,rfl⟩);go_ret;rw[b];exact⟨rfl,zK.drewN _⟩
   have s:gB L=(!((L.take j).any λy=>y.1==nm)&&uo (L.take (j+1)) (L.drop (j+1))):=by rw[c,a0g (by omega)];rfl
   go_wp2_with (go_at_call 13;refine d.mono ?_;rintro e _ ⟨rfl,rfl⟩);go_loopg [5] j (λk m wr=>∃i q:Nat,i+k=j/\m=zI i/\wr=w.drewN q/\(((L.take i).any λy=>y.1==nm)=false));exact⟨0,q,by omega,rfl,rfl,by simp⟩
   .obtain⟨i,H,Y,rfl,o,f⟩:=hrel;subst o;by_cases V:i<j
    .obtain⟨_,R,B,O,T,_⟩:=C i (by omega);simp only[Option.some.injEq,Addr.mk.injEq,a2u]at B;obtain⟨rfl,rfl⟩:=B;have t:L.take (i+1)=L.take i++[L[i]'(by omega)]:=by rw[a1c,a0a (by omega)];rfl
     have p:L[i]'(by omega)∈L.take j:=by rw[a3r];exact⟨i,by omega,rfl⟩
     generalize L[i]'(by omega)=y at *;obtain⟨z,F⟩:=y;simp only at T;cases he:(z==nm)
     .have u:((L.take (i+1)).any λy=>y.1==nm)=false:=by rw[t,List.any_append,f];simp[he]
      go_wp2_with fail;go_quiet (fail);go_wp2;go_roundg (gk-1);exact⟨i+1,_,by omega,by go_num,rfl,u⟩;omega
     have b:gB L=false:=by rw[s,a1s.2 ⟨(z,F),p,he⟩];rfl
     go_wp2_with fail;go_quiet (fail);go_wp2;go_ret;rw[b];exact⟨rfl,(zK.drewN _).drewN _⟩
    have S:i=j:=by omega
    subst S;have G:uo (L.take (i+1)) (L.drop (i+1))=gB L:=by rw[s,f];rfl
    go_wp2;go_roundg (go-1);exact⟨i+1,H,by omega,by go_num,rfl,G⟩;omega
  have b:gB L=true:=by rw[<-l,a0i (by omega)];rfl
  go_wp2;go_ret;rw[b];exact⟨rfl,zK.drewN _⟩
def VV(X:NF)(F:LN)(St:List LN)(nx:LN)(i:Nat):Prop :=
 ∀(u:LN),St[i]?=some u->∀(k c:Nat),F[k]?=some c->∃j v,nx[i*F.length+k]?=some j/\St[j]?=some v/\dW X v=dW X (u++[c])
theorem asR(a:wf X)(St v):(Bi X St v=St.length)\/∃u,St[Bi X St v]?=some u/\dW X u=dW X v:=by grind [Bi,name,dW,UH,BR,alx]
theorem abY(m:wf X)(w):∀F St nx a d,rQ X w F St nx=(true,a,d) ->
 St <+: a/\∃b,d=nx++b/\b.length=F.length/\∀(k c:Nat),F[k]?=some c->∃j v,b[k]?=some j/\a[j]?=some v/\dW X v=dW X (w++[c])
 | [],St,nx,a,d,h=>by grind [rQ]
 | c::F,St,nx,a,d,h=>by
   unfold rQ at h;split at h
   .simp at h
   rename_i t;obtain⟨i,b,p,o,n⟩:=abY m w F _ _ a d h;have l:St <+: (if Bi X St (w++[c])=St.length then St++[w++[c]] else St):=by grind
   have q:∃v,(if Bi X St (w++[c])=St.length then St++[w++[c]] else St)[Bi X St (w++[c])]?=some v/\dW X v=dW X (w++[c]):=by grind [asR,rR]
   refine⟨l.trans i,Bi X St (w++[c])::b,by rw[p];simp,by simp[o],?_⟩;intro k s e;cases k with
   | zero=>simp at e;subst e;obtain⟨v,g,f⟩:=q;exact⟨_,v,by simp,rR i g,f⟩
   | succ k=>obtain⟨j,v,g,f,r⟩:=n k s (by simpa using e);exact⟨j,v,by simpa using g,f,r⟩
theorem VV.mono{b f i}(h:VV X F St nx i)(m:i<St.length)(e:St <+: b)(g:nx <+: f):VV X F b f i:=by
 intro u d k c l;have a:St[i]?=some u:=by obtain⟨t,rfl⟩:=e;rw[a0s m]at d;omega
 obtain⟨j,v,p,o,n⟩:=h u a k c l;exact⟨j,v,rR g p,rR e o,n⟩
theorem abZ(y:wf X)(F):∀k i St nx b e,yz X F k i St nx=(true,b,e)->i+k=41->WB St->nx.length=i*F.length->i<=St.length->(∀a,a<i->VV X F St nx a) ->
 St <+: b/\e.length=b.length*F.length/\∀a,a<b.length->VV X F b e a
 | 0,i,St,nx,b,e,h,N,s,z,A,x=>by have:=s.1;omega
 | k+1,i,St,nx,b,e,h,N,s,z,A,x=>by
   unfold yz at h;split at h
   .grind
   rename_i w p;have R:=(a0d.1 p).1;split at h
   .simp at h
   rename_i m d f;obtain⟨n,P,r,E,D⟩:=abY y w F St nx m d f;have l:=aaT X w i F St nx s p;rw[f]at l;have O:=n.length_le;have q:nx <+: d:=by rw[r];exact a1t _ _
   obtain⟨I,H,G⟩:=abZ y F k (i+1) m d b e h (by omega) l (by rw[r,a0p,E,z,a0J];omega) (by omega) (λa C=>by
    by_cases g:a<i
    .exact(x a g).mono (by omega) n q
    have:a=i:=by omega
    subst this;intro u t o c B;have:u=w:=by rw[rR n p]at t;simpa using t.symm
    subst this;obtain⟨j,v,M,L,J⟩:=D o c B;refine⟨j,v,?_,L,J⟩;rw[r,a0K (by omega),show a*F.length+o-nx.length=o by omega];omega)
   exact⟨n.trans I,H,G⟩
def Df(b:wf X)(h:oC X F=(true,St,nx)):St[0]?=some []/\nx.length=St.length*F.length/\St.length<=40/\∀i,i<St.length->VV X F St nx i:=by have a:=aaU X F;rw[h]at a;obtain⟨e,d,c⟩:=abZ b F 41 0 [[]] [] St nx h rfl WB.one (by simp) (by simp) (λi f=>by omega);exact⟨rR e rfl,d,a.1,c⟩
def Up(n:Nat)(cl:Nat->Nat)(nx:LN)(s:Nat):LN->Nat
 | []=>s
 | b::v=>Up n cl nx (nx.getD (s*n+cl b) 0) v
theorem amc(g:wf X)(h:oC X F=(true,St,nx)) {cl}(d:∀b,b<256->∃f,F[cl b]?=some f/\qZ f b X) :
 ∀v u w s,(∀b∈v,b<256)->St[s]?=some u->dW X u=dW X w->∃a,St[Up F.length cl nx s v]?=some a/\dW X a=dW X (w++v)
 | [],u,w,s,_,c,e=>⟨u,c,by simpa using e⟩
 | b::v,u,w,s,hb,c,e=>by
   obtain⟨f,k,r⟩:=d b (hb b (by simp));obtain⟨j,u2,p,o,t⟩:=(Df g h).2.2.2 s (a0d.1 c).1 u c (cl b) f k;have q:nx.getD (s*F.length+cl b) 0=j:=by simp[List.getD,p]
   have n:dW X u2=dW X (w++[b]):=by grind [tK,anF,asC]
   obtain⟨a,m,l⟩:=amc g h d v u2 (w++[b]) j (λx i=>hb x (by simp[i])) o n;refine⟨a,?_,by simpa using l⟩;rw[Up,q];omega
def akO(ho:tL e)(h:oC (bn e) F=(true,St,nx)) {cl}(c:∀b,b<256->∃f,F[cl b]?=some f/\∀s∈dB e,s.testBit f=s.testBit b)(v)(g:∀b∈v,b<256) :
 ∃t:Bool,(St.map λu=>dK (dW (bn e) u))[Up F.length cl nx 0 v]?=some t/\(t=true↔Rg e v):=by
 have a:=(rF ho).1.1;obtain⟨d,l,k⟩:=amc a h (λb hb=>by obtain⟨f,j,i⟩:=c b hb;exact⟨f,j,TZ i⟩) v [] [] 0 g (Df a h).1 rfl;refine⟨dK (dW (bn e) d),by simp[l],?_⟩;rw[k,a0V,au4 a,axE ho]
def VW(S):∀k n,gP S n <+: gP S (n+k)
 | 0,n=>a0N _
 | k+1,n=>by
   refine(VW S k n).trans ?_;show gP S (n+k) <+: gP S (n+k+1);simp only[gP];split
   .exact a1t _ _
   exact a0N _
theorem QT(S b)(hb:b<256):∃f,(gP S 256)[kU S (gP S b) b]?=some f/\∀s∈S,s.testBit f=s.testBit b:=by
 have d:gP S (b+1) <+: gP S 256:=by have:=VW S (255-b) (b+1);rw[show b+1+(255-b)=256 by omega]at this;omega
 by_cases h:kU S (gP S b) b<(gP S b).length
 .have g:=List.findIdx_getElem (xs:=gP S b) (p:=λf=>!(apart S f b)) (w:=h);have e:gP S b <+: gP S 256:=by have:=VW S (256-b) b;rw[show b+(256-b)=256 by omega]at this;omega
  refine⟨_,rR e (a0a h),?_⟩;intro s c;have a:apart S (gP S b)[kU S (gP S b) b] b=false:=by grind [apart,gP,kU]
  unfold apart at a;rw[List.any_eq_false]at a;have:=a s c;simpa using this
 have he:kU S (gP S b) b=(gP S b).length:=Nat.le_antisymm (adD _ _ _) (by omega);refine⟨b,rR d ?_,λs _=>rfl⟩;simp only[gP];rw[he];simp
def clB(e:RX)(b:Nat):Nat:=(ach e).getD b 0
theorem af0(e b)(hb:b<256):clB e b=kU (dB e) (gP (dB e) b) b:=by simp[clB,ach,Xa,hb]
def aiJ(ho:tL e)(h:(eu e).1=true)(v:LN)(c:∀b∈v,b<256) :
 ∃t:Bool,((eu e).2.1.map λu=>dK (dW (bn e) u))[Up (kZ e).length (clB e) (eu e).2.2 0 v]?=some t/\(t=true↔Rg e v):=by
 obtain⟨St,nx,hE⟩:∃St nx,eu e=(true,St,nx):=⟨(eu e).2.1,(eu e).2.2,by rw[<-h]⟩;have a:=hE;rw[hE];refine akO ho a (λb hb=>?_) v c;rw[af0 e b hb];exact QT (dB e) b hb
structure AU(w:World)(g o:Nat)(n:Nat)(cl:LN)(va vn:Value)(acc:List Bool)(nx:LN):Prop where
 c0:w.cell? (zB g o)=some (zI n)
 cc:∀c,c<256->w.cell? (zB g (o+1+c))=some (.int .u8 (cl.getD c 0))
 ca:w.cell? (zB g (o+257))=some va
 cn:w.cell? (zB g (o+258))=some vn
 ra:∃a cap,va=.slice a acc.length cap/\∀(j:Nat) (h:j<acc.length),∃g off,a=some (zB g off)/\g<w.heap.size/\w.cell? (zB g (off+j))=some (.bool acc[j])
 rn:NL .i64 w vn nx
 n1:n<=256
 xs:∀x∈nx,x<=1000000
 cs:∀c,c<256->cl.getD c 0<=255
 ln:nx.length<=1000000/\acc.length<=1000000
def tkP(n:Nat)(cl:LN)(acc:List Bool)(nx:LN)(s:Nat):LB->Bool
 | []=>acc.getD s false
 | b::v=>if s*n+cl.getD b.toNat 0<nx.length then tkP n cl acc nx (nx.getD (s*n+cl.getD b.toNat 0) 0) v else false
theorem AU.drewN{g o cl b a acc}(k)(h:AU w g o n cl b a acc nx):AU (w.drewN k) g o n cl b a acc nx:=⟨h.c0,h.cc,h.ca,h.cn,h.ra,h.rn,h.n1,h.xs,h.cs,h.ln⟩
theorem aiK(e:wf X)(h:oC X F=(true,St,nx)) {cl}(acc)(a:∀b,b<256->∃f,F[cl.getD b 0]?=some f) :
 ∀v s,s<St.length->tkP F.length cl acc nx s v=acc.getD (Up F.length (λb=>cl.getD b 0) nx s (v.map (·.toNat))) false
 | [],s,_=>rfl
 | b::v,s,c=>by
   obtain⟨f,i⟩:=a b.toNat b.toNat_lt;obtain⟨j,_,g,k,_⟩:=(Df e h).2.2.2 s c St[s] (a0a c) _ f i;have d:nx.getD (s*F.length+cl.getD b.toNat 0) 0=j:=by rw[a0x,g];rfl
   rw[tkP,a0m ((a0d.1 g).1),d];simp only[a0E,Up,d];exact aiK e h acc a v j (a0d.1 k).1
theorem an7(ho:tL e)(h:(eu e).1=true)(v) :
 tkP (kZ e).length (ach e) ((eu e).2.1.map λu=>dK (dW (bn e) u)) (eu e).2.2 0 v=true↔Rg e (v.map (·.toNat)):=by
 obtain⟨St,nx,hE⟩:∃St nx,eu e=(true,St,nx):=⟨(eu e).2.1,(eu e).2.2,by rw[<-h]⟩;have a:=hE;have c:=(rF ho).1.1;obtain⟨t,d,i⟩:=aiJ ho h (v.map (·.toNat)) (λb hb=>by obtain⟨x,_,rfl⟩:=a0q.1 hb;exact x.toNat_lt);rw[hE]at d |-;rw[aiK c a _ (λb hb=>by obtain⟨f,g,_⟩:=QT (dB e) b hb;refine⟨f,?_⟩;have:=af0 e b hb;unfold clB at this;rw[this];exact g) v 0 (a0d.1 ((Df c a).1)).1];have k:Up _ (λb=>(ach e).getD b 0) nx 0 (v.map (·.toNat))=Up (kZ e).length (clB e) nx 0 (v.map (·.toNat)):=rfl;rw[k,<-i];simp only[a0x,d,Option.getD_some]
theorem aiL(ho:tL e)(h:(eu e).1=true):(eu e).2.1.length<=40/\(eu e).2.2.length=(eu e).2.1.length*(kZ e).length/\(kZ e).length<=256/\(∀x∈(eu e).2.2,x<(eu e).2.1.length)/\(ach e).length=256/\(∀b,b<256->(ach e).getD b 0<(kZ e).length)/\1<=(eu e).2.1.length:=by
 obtain⟨St,nx,hE⟩:∃St nx,eu e=(true,St,nx):=⟨(eu e).2.1,(eu e).2.2,by rw[<-h]⟩;obtain⟨s1,s2,k,i⟩:=Df ((rF ho).1.1) hE;have hF:=(xW (dB e) 256).1;rw[hE];refine⟨k,s2,hF,?_,adN _ _,?_,(a0d.1 s1).1⟩
 .intro x m;obtain⟨p,n⟩:=a1T m;have g:0<(kZ e).length:=by grind
  have d:p / (kZ e).length<St.length:=by rw[Nat.div_lt_iff_lt_mul g,<-s2];exact (a0d.1 n).1
  have o:p % (kZ e).length<(kZ e).length:=a3i _ g;obtain⟨j,v,t,s,_⟩:=i (p / (kZ e).length) d _ (a0a d) (p % (kZ e).length) _ (a0a o);have:p / (kZ e).length*(kZ e).length+p % (kZ e).length=p:=by rw[a1b];exact Nat.div_add_mod _ _
  rw[this]at t;have a:x=j:=by grind
  rw[a];exact(a0d.1 s).1
 intro b hb;obtain⟨f,q,_⟩:=QT _ _ hb;have:=af0 e b hb;unfold clB at this;rw[this];exact(a0d.1 q).1
def gQ(v:LB):gz:=match fF v with
 | some e=>⟨(kZ e).length,ach e,(eu e).2.1.map λu=>if dK (dW (bn e) u) then 1 else 0,(eu e).2.2⟩
 | none=>⟨0,[],[],[]⟩
theorem VX {v}(h:gH v=0):∃e,fF v=some e/\(eu e).1=true/\dI e<=40:=by grind [gH]
theorem ark(v)(s:v.length<=40):RCP gH gQ v:=by
 intro w;refine(acy v w s).mono ?_;rintro e w' ⟨hF,cs,G,F,rfl,H,E⟩;refine⟨hF,cs,G,F,rfl,λo A D=>?_⟩;obtain⟨x,f,_,_⟩:=VX o;obtain⟨l,k,rfl,hq,B⟩:=E x f o;refine⟨rfl,λn c y m d=>?_⟩;have t:n=0:=by grind
 subst t;simp only[List.getElem?_cons_zero,Option.some.injEq]at m d;subst m d;have q:OW 4 1 w.heap.size w' l (bc (gQ v).acc):=by
  refine⟨?_,λy d=>by obtain⟨_,_,rfl⟩:=a0q.1 d;rfl⟩;have j:(bc (gQ v).acc).flatten=((eu x).2.1.map λu=>dK (dW (bn x) u)).map λb=>Value.bool b:=by
   unfold gQ bc;rw[f];simp only[a2m];rw[<-List.flatMap_def];induction (eu x).2.1 with
   | nil=>rfl
   | cons a r i=>simp only[a1i,a0E,i,Function.comp];cases dK (dW (bn x) a)<;>rfl
  rw[j,show(bc (gQ v).acc).length=((eu x).2.1.map λu=>dK (dW (bn x) u)).length by unfold gQ bc;rw[f];simp];exact hq
 have p:OW 3 1 w.heap.size w' k (ic (gQ v).nx):=by
  refine⟨?_,λy d=>by obtain⟨_,_,rfl⟩:=a0q.1 d;rfl⟩;have j:(ic (gQ v).nx).flatten=nv .i64 (eu x).2.2:=by
   unfold gQ ic nv;rw[f];simp only;induction (eu x).2.2 with
   | nil=>rfl
   | cons a r i=>simp only[a0E,List.flatten_cons,i];rfl
  rw[j,show(ic (gQ v).nx).length=(eu x).2.2.length by unfold gQ ic;rw[f];simp];exact B
 have far:∀{ty:TypeId} {u:Value} {vs:List (List Value)},OW ty 1 w.heap.size w' u vs->∀g,u.ownBlock=some g->g∉A:=by intro ty u vs h g C z;have:=(h.1.lt g C).1;have:=D g z;omega
 refine⟨l,k,?_,q.rw (far q),p.rw (far p)⟩;unfold Lv gQ;rw[f]
structure ab0(N:List Int)(i c:Nat):Prop where
 b:∀j,i<=j->0<=N.getD j (-1)->N.getD j (-1)<c
 d:∀j j',i<=j->j<j'->0<=N.getD j (-1)->0<=N.getD j' (-1)->N.getD j' (-1)<N.getD j (-1)
 s:∀k:Nat,k<c->∃j,i<=j/\N.getD j (-1)=(k:Int)
theorem QU(l):∀i (R:List Bool) (N:List Int) (c:Nat),i<=l.length->N.length=l.length->ab0 N i c->∃y,ab0 (mG l i R N c) 0 y
 | 0,R,N,c,_,_,h=>⟨c,h⟩
 | i+1,R,N,c,z,u,h=>by
   have f:∀(v:Int) (j:Nat),j≠i->(N.set i v).getD j (-1)=N.getD j (-1):=λv j m=>getD_set_ne _ _ _ _ _ (λe=>m e.symm);have p:∀v:Int,(N.set i v).getD i (-1)=v:=λv=>yg _ _ _ _ (by omega);rw[mG];split
   .obtain⟨x,w⟩:∃x,l[i]?=some x:=⟨l[i],a0a (by omega)⟩;simp only[w];refine QU l i _ (N.set i (c:Int)) (c+1) (by omega) (by simp[u]) ⟨?_,?_,?_⟩
    .intro j m a;by_cases e:j=i
     .subst e;rw[p];omega
     rw[f _ _ e]at a |-;have:=h.b j (by omega) a;omega
    .intro j n m g a o;have r:n≠i:=by omega
     rw[f _ _ r]at o |-;by_cases e:j=i
     .subst e;rw[p];exact h.b n (by omega) o
     rw[f _ _ e]at a |-;exact h.d j n (by omega) g a o
    intro k t;by_cases e:k=c
    .grind
    obtain⟨j,m,q⟩:=h.s k (by omega);exact⟨j,by omega,by rw[f _ _ (by omega)];omega⟩
   refine QU l i R (N.set i (-1)) c (by omega) (by simp[u]) ⟨?_,?_,?_⟩
   .intro j m a;by_cases e:j=i
    .grind
    rw[f _ _ e]at a |-;exact h.b j (by omega) a
   .intro j n m g a o;have r:n≠i:=by omega
    rw[f _ _ r]at o |-;by_cases e:j=i
    .grind
    rw[f _ _ e]at a |-;exact h.d j n (by omega) g a o
   intro k t;obtain⟨j,m,q⟩:=h.s k t;exact⟨j,by omega,by rw[f _ _ (by omega)];omega⟩
theorem Mh(l first):∃c,ab0 (numsOf l first) 0 c:=by
 unfold numsOf;refine QU l l.length _ _ 0 (a0b _) (by simp) ⟨?_,?_,?_⟩
 .grind
 .grind
 omega
theorem VY(d:GL l)(first):∀i (R:List Bool) (N:List Int) (c:Nat),i<=l.length->N.length=l.length->(∀j,first < j->j<i->R.getD j false=false)->(∀j,first < j->i<=j->N.getD j (-1)<0)->∀j,first < j->(mG l i R N c).getD j (-1)<0
 | 0,R,N,c,_,_,_,h=>λj a=>h j a (by omega)
 | i+1,R,N,c,q,g,n,h=>by
   rw[mG];split
   .rename_i m;obtain⟨x,b⟩:∃x,l[i]?=some x:=⟨l[i],a0a (by omega)⟩;have r:i<=first:=by grind
    simp[b];have k:=d i (by omega);have p:l[i]'(by omega)=x:=by rw[a0a (by omega)]at b;exact Option.some.inj b
    rw[p]at k;refine VY d first i _ _ _ (by omega) (by simp[g]) (λj a f=>by omega) (λj a o=>?_)
    rw[getD_set_ne _ _ _ _ _ (by omega)];exact h j a (by omega)
   refine VY d _ i _ _ _ (by omega) (by simp[g]) (λj a f=>n j a (by omega)) (λj a o=>?_);by_cases e:j=i
   .grind
   grind
theorem QW(b:GL l)(first):∀j,first < j->(numsOf l first).getD j (-1)<0:=by
 unfold numsOf;refine VY b first l.length _ _ 0 (a0b _) (by simp) (λj c a=>?_) (λj c a=>?_)
 .grind
 grind
structure Nr(l:List bX)(N:List Int)(i:Nat)(out:List bX):Prop where
 a:∀(j:Nat) (x:bX),i<=j->l[j]?=some x->0<=N.getD j (-1)->out[(N.getD j (-1)).toNat]?=some (aci N x)
 s:∀k:Nat,k<out.length->∃j,i<=j/\N.getD j (-1)=(k:Int)
 b:∀j,i<=j->0<=N.getD j (-1)->N.getD j (-1)<out.length
theorem Gy(N:List Int)(j)(h:j<N.length):N.getD j 0=N.getD j (-1):=by simp[List.getD,h]
theorem Dh {N c}(n:ab0 N 0 c)(t:N.length=l.length):∀i out,i<=l.length->Nr l N i out->Nr l N 0 (nY l N i out)
 | 0,out,_,h=>h
 | i+1,out,z,h=>by
   rw[nY,Gy N i (by omega)];split
   .rename_i B;refine Dh n t i out (by omega) ⟨?_,?_,?_⟩
    .intro j x m q g;by_cases e:j=i
     .subst e;omega
     exact h.a j x (by omega) q g
    .intro k o;obtain⟨j,m,f⟩:=h.s k o;exact⟨j,by omega,f⟩
    intro j m g;by_cases e:j=i
    .subst e;omega
    exact h.b j (by omega) g
   rename_i A;obtain⟨x,q⟩:∃x,l[i]?=some x:=⟨l[i],a0a (by omega)⟩;simp[q];have g:0<=N.getD i (-1):=by omega
   have hlen:N.getD i (-1)=(out.length:Int):=by
    rcases Int.lt_trichotomy (N.getD i (-1)) (out.length:Int) with r|r|r
    .obtain⟨k,o⟩:=a2L g;obtain⟨j,m,f⟩:=h.s k (by omega);have:=n.d i j (by omega) (by omega) g (by omega);omega
    .omega
    obtain⟨j,_,f⟩:=n.s out.length (by have:=n.b i (by omega) g;omega);rcases Nat.lt_trichotomy j i with e|e|e
    .have:=n.d j i (by omega) e (by omega) g;omega
    .subst e;omega
    have:=h.b j (by omega) (by omega);omega
   refine Dh n t i _ (by omega) ⟨?_,?_,?_⟩
   .intro j y m v p;by_cases e:j=i
    .grind
    have u:=h.a j y (by omega) v p;have w:=(a0d.1 u).1;rw[a0s w];omega
   .intro k o;simp at o;by_cases e:k=out.length
    .grind
    obtain⟨j,m,f⟩:=h.s k (by omega);exact⟨j,by omega,f⟩
   intro j m p;simp only[a0p,a0X];by_cases e:j=i
   .subst e;omega
   have:=h.b j (by omega) p;omega
def GXi(nr nt:Nat)(x:bX):Prop:=(x.op=0/\x.x=0/\x.a=0/\x.b=0)\/(x.op=1/\x.x<nr/\x.b=0)\/(x.op=2/\x.x<nt)
def Mi(nr nt:Nat)(l:List bX):Prop:=∀x∈l,GXi nr nt x
theorem Mi.snoc {x}(h:Mi nr nt l)(b:GXi nr nt x):Mi nr nt (l++[x]):=by
 intro y a;rcases a0e.1 a with a|a
 .exact h y a
 grind
def QY(h:Mi nr nt l)(y n):∀q:List (Nat × Bool),(∀c∈q,c.1<nt)->Mi nr nt (bR q y n l).2
 | [],_=>h
 | c::r,hq=>by
   rw[bR];refine(QY h y n r (λx a=>hq x (by simp[a]))).snoc ?_;have:=hq c (by simp);split<;>exact .inr (.inr ⟨rfl,this⟩)
theorem XD {q:List (List (Nat × Bool))}(hq:∀x∈q,∀c∈x,c.1<nt)(k):∀c∈q.getD k [],c.1<nt:=by grind
def aiM {rec:Nat->Nat->List bX->Nat × List bX}(a:LN)(b:∀c∈a,∀d l,Mi nr nt l->Mi nr nt (rec c d l).2)(C) {q}(hq:∀x∈q,∀c∈x,c.1<nt)(d)(h:Mi nr nt l):∀K:LN,(∀c∈K,c∈a)->Mi nr nt (ji rec C q d l K).2.2
 | [],_=>h
 | c::r,e=>by rw[ji];exact QY (b c (e c (by simp)) _ _ (aiM a b C hq d h r (λx f=>e x (by simp[f])))) _ _ _ (XD hq c)
def aiN {q}(hq:∀x∈q,∀c∈x,c.1<nt)(first)(h:Mi nr nt l):∀Z:List (Nat × Nat),Mi nr nt (lS q first l Z).2
 | []=>h
 | z::r=>by rw[lS];exact QY (aiN hq first h r) _ _ _ (XD hq z.1)
def ab1(C) {q}(hq:∀x∈q,∀c∈x,c.1<nt):∀f r d l,r<C.length->Mi C.length nt l->Mi C.length nt (ig C q f r d l).2
 | 0,_,_,_,_,h=>h
 | f+1,r,d,l,b,h=>by rw[ig];refine aiN hq _ (Mi.snoc ?_ (.inr (.inl ⟨rfl,b,rfl⟩))) _;refine aiM (kids C r) (λc a d l e=>ab1 C hq f c d l ?_ e) C hq d h (kids C r) (λc a=>a);unfold kids at a;rw[List.mem_filter,a2b]at a;omega
theorem an8(i:GL l)(w:Mi nr nt l)(first)(E:first < l.length):∀k (h:k<(mH l first).length),stands nr nt (mH l first).length k (mH l first)[k]=true:=by
 obtain⟨c,q⟩:=Mh _ _;have hlen:=Eh l first
 have u:=IY i first
 have B:=QW i first
 have n:Nr l (numsOf l first) 0 (mH l first):=by
  refine Dh q hlen (first + 1) [] (by omega) ⟨λj x m _ f=>?_,λk g=>by simp at g,λj m f=>?_⟩
  .grind
  grind
 generalize numsOf l first=N at *
 generalize mH l first=out at *
 intro k g;obtain⟨j,_,v⟩:=n.s k g;have m:j<N.length:=by grind
 have p:l[j]?=some l[j]:=a0a (by omega);have ho:=n.a j _ (by omega) p (by omega);rw[v,a2A,a0a g]at ho;rw[Option.some.inj ho];have z:=i j (by omega);have r:=w l[j] (a0u _);obtain⟨s1,s2⟩:=u j _ p (by rw[Gy _ _ m];omega);generalize l[j]=y at *;obtain⟨op,C,a,b⟩:=y;simp[GXi]at r;simp only at z s1 s2;have e:∀t,t<j->0<=N.getD t 0->k<(N.getD t 0).toNat/\(N.getD t 0).toNat<out.length:=by intro t ht f;rw[Gy _ _ (by omega)]at f |-;have o:=q.d t j (by omega) ht f (by omega);have F:=n.b t (by omega) f;omega
 rcases r with⟨rfl,rfl,rfl,rfl⟩|⟨rfl,o,rfl⟩|⟨rfl,o⟩
 .simp[aci,stands]
 .grind [aci,stands]
 have A:=e a (by omega) (s1 (by omega));have hb:=e b (by omega) (s2 rfl);simp only[aci,stands];generalize (N.getD a 0).toNat=D at *;generalize (N.getD b 0).toNat=tb at *;simp[o,A,hb]
def Gz:∀n (l:LN),l.Nodup->(∀x∈l,x<n)->l.length<=n
 | 0,l,_,h=>by
   cases l with
   | nil=>simp
   | cons a r=>have:=h a (by simp);omega
 | n+1,l,hd,h=>by
   by_cases c:n∈l
   .have d:=Gz n (l.erase n) (hd.erase n) (λx b=>by
     have g:=h x (List.mem_of_mem_erase b);have f:x≠n:=λe=>by subst e;exact hd.not_mem_erase b
     omega)
    rw[List.length_erase_of_mem c]at d;omega
   have:=Gz n l hd (λx b=>by
    have:=h x b;have:x≠n:=λe=>by subst e;exact c b
    omega)
   omega
theorem Jd(y n l):∀q:List (Nat × Bool),(bR q y n l).2.length=l.length+q.length
 | []=>rfl
 | c::r=>by simp[bR,Jd y n l r];omega
def GA(C:List CR)(q:List (List (Nat × Bool))):Nat->Nat->Nat
 | 0,_=>0
 | f+1,r=>1+((kids C r).map λc=>GA C q f c+2*(q.getD c []).length).sum
def aeB {rec:Nat->Nat->List bX->Nat × List bX} {g:Nat->Nat}(a:∀c d l,(rec c d l).2.length=l.length+g c)(C q d l):∀K:LN,(ji rec C q d l K).2.2.length=l.length+(K.map λc=>g c+(q.getD c []).length).sum/\(ji rec C q d l K).2.1.length=K.length
 | []=>⟨by simp[ji],rfl⟩
 | c::r=>by obtain⟨e,b⟩:=aeB a C q d l r;rw[ji];refine⟨?_,by simp[b]⟩;show(bR _ _ _ _).2.length=_;rw[Jd,a,e];simp only[a0E,a0Y];omega
theorem aeC(q first l):∀(K a:LN),a.length=K.length->(lS q first l (K.zip a)).2.length=l.length+(K.map λc=>(q.getD c []).length).sum
 | [],_,_=>by simp[lS]
 | c::r,[],h=>by simp at h
 | c::r,b::a,h=>by
   have d:=aeC q first l r a (by simpa using h)
   rw[List.zip_cons_cons,lS,Jd,d];simp[a0E,a0Y];omega
theorem VZ(f g:Nat->Nat):∀K:LN,(K.map f).sum+(K.map g).sum=(K.map λc=>f c+g c).sum
 | []=>rfl
 | c::r=>by have:=VZ f g r;simp only[a0E,a0Y];omega
theorem aeD(C q):∀f r d l,(ig C q f r d l).2.length=l.length+GA C q f r
 | 0,_,_,l=>by simp[ig,GA]
 | f+1,r,d,l=>by
   obtain⟨g,e⟩:=aeB (aeD C q f) C q d l (kids C r);rw[ig];generalize ji (ig C q f) C q d l (kids C r)=x at *;show(lS _ _ _ _).2.length=_;rw[aeC q _ _ (kids C r) x.2.1 e,a0p,g,GA];have b:=VZ (λc=>GA C q f c+(q.getD c []).length) (λc=>(q.getD c []).length) (kids C r);have a:(kids C r).map (λc=>GA C q f c+2*(q.getD c []).length)=(kids C r).map λc=>GA C q f c+(q.getD c []).length+(q.getD c []).length:=by congr 1;funext c;omega
   rw[a,<-b];simp only[a0X];omega
def XE(C r):(kids C r).Nodup:=by unfold kids;exact List.Pairwise.filter _ List.nodup_range
theorem kX {C r c}(h:c∈kids C r):c<C.length/\par C c=some r:=by grind [kids]
def Uq(C)(K:LN)(h:K.Nodup):(K.flatMap (kids C)).Nodup:=by unfold List.Nodup at *;rw[List.pairwise_flatMap];refine⟨λa _=>XE C a,h.imp ?_⟩;intro a b d x g y f e;subst e;have i:=(kX g).2;have c:=(kX f).2;rw[i]at c;exact d (Option.some.inj c)
def af1(f m):∀K:LN,(∀c∈K,f c<=m)->(K.map f).sum<=K.length*m
 | [],_=>by simp
 | c::r,h=>by have d:=af1 f m r (λx a=>h x (by simp[a]));have b:=h c (by simp);simp only[a0E,a0Y,a0r,a0J];omega
theorem ab2(C g):∀K:LN,(K.map λr=>1+((kids C r).map g).sum).sum=K.length+((K.flatMap (kids C)).map g).sum
 | []=>rfl
 | c::r=>by have:=ab2 C g r;simp only[a0E,a0Y,a1i,a0P,a1Y,a0r];omega
theorem aiO {C}(hC:C.length<=16) {q}(hq:∀x∈q,x.length<=4):∀f (K:LN),K.Nodup->(∀c∈K,c<C.length)->(K.map (GA C q f)).sum<=f*144
 | 0,K,_,_=>by have:=af1 (GA C q 0) 0 K (λc _=>by simp[GA]);omega
 | f+1,K,hd,d=>by
   have:=aiO hC hq f (K.flatMap (kids C)) (Uq C K hd) (λc a=>by obtain⟨r,_,b⟩:=a1l.1 a;exact(kX b).1);have:=Gz C.length K hd d;have:=Gz C.length (K.flatMap (kids C)) (Uq C K hd) (λc a=>by obtain⟨r,_,b⟩:=a1l.1 a;exact(kX b).1);have e:(K.map (GA C q (f+1)))=K.map λr=>1+((kids C r).map λc=>GA C q f c+2*(q.getD c []).length).sum:=rfl;rw[e,ab2 C (λc=>GA C q f c+2*(q.getD c []).length),<-VZ];have:=af1 (λc=>2*(q.getD c []).length) 8 (K.flatMap (kids C)) (λc _=>by
    by_cases h:c<q.length
    .grind
    simp[List.getD,h])
   omega
def aiP {C}(hC:C.length<=16)(a:0<C.length) {q}(hq:∀x∈q,x.length<=4):(ig C q 6 0 0 [⟨0,0,0,0⟩]).2.length<=865:=by rw[aeD];have:=aiO hC hq 6 [0] (by simp) (by simpa using a);simp at this |-;omega
end
end Go.Proofs.YtnkobfoopcolaaaGreat
