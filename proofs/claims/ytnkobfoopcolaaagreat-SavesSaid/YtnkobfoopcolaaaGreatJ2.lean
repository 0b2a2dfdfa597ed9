import Derived.Test.YtnkobfoopcolaaaGreatJ1
import Derived.Deep.MidRow
import Derived.Deep.RegionLaw
import Derived.Lib.ItoaNum
set_option linter.unusedVariables false
set_option linter.unusedSimpArgs false
set_option linter.unnecessarySimpa false
set_option linter.defProp false
set_option maxRecDepth 100000
set_option maxHeartbeats 8000000
namespace Go.Proofs.YtnkobfoopcolaaaGreat
open Go.RowKit
section
variable {w w':World} {b i k p:Nat} {L:List Bool} {a l v:Value} {S:LN} {C:Array Value} {x:NF} {r t:LB}
def Km(k:Nat)(L:List Bool)(a b l:Value)(nm:LB):Array Value:=(.int .u8 k::(L.map Value.bool++[a,b,l,zT nm])).toArray
def TK(w:World)(p k:Nat)(L:List Bool)(a b l:Value)(nm:LB):Prop :=
 w.heap[p]?=some (.cells (Km k L a b l nm) 191 (0,0))/\L.length=256
theorem TK.lt{b nm}(h:TK w p k L a b l nm):p<w.heap.size:=(a0c.1 h.1).1
theorem TK.aC{b nm}(h:TK w p k L a b l nm)(f:aB S w w')(c:p∉S):TK w' p k L a b l nm:=⟨(f.block p h.lt c).trans h.1,h.2⟩
theorem TK.at{b nm}(h:TK w p k L a b l nm)(o v)(e:(Km k L a b l nm).toList[o]?=some v):w.cell? ⟨p,o,none⟩=some v:=by simp only[World.cell?,h.1];simpa using e
theorem TK.c0{b nm}(h:TK w p k L a b l nm):zC w p 0 (.int .u8 k):=h.at 0 _ (by simp[Km])
theorem TK.cin{b nm}(h:TK w p k L a b l nm)(c x)(d:L[c]?=some x):zC w p (1+c) (.bool x):=by have e:=(a0d.1 d).1;refine h.at (1+c) _ ?_;rw[a2w];simp only[Km,a1m];rw[a0s (by simp;omega)];simp[d]
def Sf{b nm}(h:L.length=256)(j):(Km k L a b l nm).toList[257+j]?=[a,b,l,zT nm][j]?:=by rw[show 257+j=(256+j)+1 by omega];simp only[Km,a1m];rw[a0K (by simp[h])];simp[h]
def TK.ends{b nm}(h:TK w p k L a b l nm):zC w p 257 a/\zC w p 258 b/\zC w p 259 l/\zC w p 260 (zT nm) :=
 ⟨h.at 257 _ (Sf h.2 0),h.at 258 _ (Sf h.2 1),h.at 259 _ (Sf h.2 2),h.at 260 _ (Sf h.2 3)⟩
def TK.of{b nm}(h:C=Km k L a b l nm)(c:L.length=256):TK (w.alloc (Obj.cells C 191)) w.heap.size k L a b l nm:=by subst h;exact⟨bD _ _,c⟩
def RVq(w:World)(v:Value)(us:List Value):Prop:=us.length<=140737488355328/\∃a n cap,v=.slice a n cap/\n=us.length/\n<=cap/\((a=none/\cap=0)\/∃g,a=some (zA g))/\∀j u,us[j]?=some u->∃g,a=some (zA g)/\w.cell? (zB g j)=some u
theorem bY {g o u}(h:w.cell? ⟨g,o,none⟩=some u):g<w.heap.size:=by
 unfold World.cell? at h;cases hh:w.heap[g]? with
 | none=>simp[hh]at h
 | some x=>exact(a0c.1 hh).1
theorem RVq.aC {us}(h:RVq w v us)(f:aB [] w w'):RVq w' v us:=by obtain⟨o,a,n,cap,m,l,k,c,i⟩:=h;refine⟨o,a,n,cap,m,l,k,c,λj u d=>?_⟩;obtain⟨g,e,b⟩:=i j u d;exact⟨g,e,(f.cell (p:=(zB g j)) (bY b) (by simp)).trans b⟩
def OV.rv {e base xs}(h:OV e base w v xs)(c:xs.length<=140737488355328):RVq w v xs:=by
 rcases h.2 with⟨e,f⟩|⟨g,cap,_,e,_,i,a,_⟩
 .subst e;exact⟨c,none,0,0,rfl,f.symm,a0b _,.inl ⟨rfl,rfl⟩,λj u b=>by have:=(a0d.1 b).1;omega⟩
 subst e;refine⟨c,_,_,cap,rfl,rfl,a,.inr ⟨g,rfl⟩,λj u b=>⟨g,rfl,?_⟩⟩;have d:=World.ownsRow.cells h rfl j u b;rw[add0]at d;omega
def j5:NF->Nat
 | .zero=>48
 | .one=>49
 | .set _=>115
 | .pair _ _=>99
 | .sum _=>97
 | .star _=>42
abbrev sM:Value:=.pointer none
abbrev AM:Value:=zN
mutual
def TN(w:World):Nat->NF->Prop
 | p,.zero=>TK w p 48 nF sM sM AM [48]
 | p,.one=>TK w p 49 nF sM sM AM [49]
 | p,.set s=>TK w p 115 (bl s) sM sM AM (name (.set s))
 | p,.pair x y=>∃a b,TK w p 99 nF (aM a) (aM b) AM (name (.pair x y))/\TN w a x/\TN w b y
 | p,.sum l=>∃v c,TK w p 97 nF sM sM v (name (.sum l))/\RVq w v (c.map aM)/\jC w c l
 | p,.star x=>∃a,TK w p 42 nF (aM a) sM AM (name (.star x))/\TN w a x
def jC(w:World):LN->List NF->Prop
 | [],[]=>True
 | p::a,x::l=>TN w p x/\jC w a l
 | _,_=>False
end
mutual
theorem TN.aC(f:aB [] w w'):∀{p:Nat} {x:NF},TN w p x->TN w' p x
 | p,.zero,h=>by simp only[TN]at h |-;exact h.aC f (by simp)
 | p,.one,h=>by simp only[TN]at h |-;exact h.aC f (by simp)
 | p,.set s,h=>by simp only[TN]at h |-;exact h.aC f (by simp)
 | p,.pair x y,h=>by simp only[TN]at h |-;obtain⟨a,b,d,c,e⟩:=h;exact⟨a,b,d.aC f (by simp),TN.aC f c,TN.aC f e⟩
 | p,.sum l,h=>by simp only[TN]at h |-;obtain⟨v,g,d,c,e⟩:=h;exact⟨v,g,d.aC f (by simp),c.aC f,jC.aC f e⟩
 | p,.star x,h=>by simp only[TN]at h |-;obtain⟨a,d,c⟩:=h;exact⟨a,d.aC f (by simp),TN.aC f c⟩
theorem jC.aC(f:aB [] w w'):∀{a:LN} {l:List NF},jC w a l->jC w' a l
 | [],[],_=>by simp only[jC]
 | p::a,x::l,h=>by simp only[jC]at h |-;exact⟨TN.aC f h.1,jC.aC f h.2⟩
 | [],_::_,h=>by simp only[jC]at h
 | _::_,[],h=>by simp only[jC]at h
end
def TN.node(h:TN w p x):∃L a b l,TK w p (j5 x) L a b l (name x):=by
 cases x with
 | zero=>simp[TN]at h;exact⟨_,_,_,_,h⟩
 | one=>simp[TN]at h;exact⟨_,_,_,_,h⟩
 | set s=>simp[TN]at h;exact⟨_,_,_,_,h⟩
 | pair x y=>simp[TN]at h;obtain⟨a,b,c,_⟩:=h;exact⟨_,_,_,_,c⟩
 | sum l=>simp only[TN]at h;obtain⟨v,d,c,_⟩:=h;exact⟨_,_,_,_,c⟩
 | star x=>simp[TN]at h;obtain⟨a,c,_⟩:=h;exact⟨_,_,_,_,c⟩
theorem TN.kd(h:TN w p x):zC w p 0 (.int .u8 (j5 x)):=by obtain⟨_,_,_,_,a⟩:=h.node;exact a.c0
def TN.nm(h:TN w p x):zC w p 260 (zT (name x)):=by obtain⟨_,_,_,_,a⟩:=h.node;exact a.ends.2.2.2
theorem jC.len:∀{a l},jC w a l->a.length=l.length
 | [],[],_=>rfl
 | p::a,x::l,h=>by simp only[jC]at h;simp[jC.len h.2]
 | [],_::_,h=>by simp only[jC]at h
 | _::_,[],h=>by simp only[jC]at h
def jC.get:∀{a l},jC w a l->∀(j:Nat) x,l[j]?=some x->∃p,a[j]?=some p/\TN w p x
 | [],[],_,j,x,h=>by simp at h
 | p::a,y::l,h,0,x,b=>by simp only[jC]at h;simp at b;subst b;exact⟨p,rfl,h.1⟩
 | p::a,y::l,h,j+1,x,b=>by simp only[jC]at h;obtain⟨q,d,c⟩:=jC.get h.2 j x (by simpa using b);exact⟨q,by simpa using d,c⟩
 | [],_::_,h,_,_,_=>by simp only[jC]at h
 | _::_,[],h,_,_,_=>by simp only[jC]at h
theorem jC.app:∀{a b l m},jC w a l->jC w b m->jC w (a++b) (l++m)
 | [],b,[],m,_,h=>h
 | p::a,b,x::l,m,h,k=>by simp only[jC,a0L]at h |-;exact⟨h.1,jC.app h.2 k⟩
 | [],_,_::_,_,h,_=>by simp only[jC]at h
 | _::_,_,[],_,h,_=>by simp only[jC]at h
theorem jC.take:∀{a l} k,jC w a l->jC w (a.take k) (l.take k)/\jC w (a.drop k) (l.drop k)
 | [],[],k,_=>by simp[jC]
 | p::a,x::l,0,h=>⟨by simp[jC],h⟩
 | p::a,x::l,k+1,h=>by simp only[jC]at h;have:=jC.take k h.2;simp only[a2J,List.drop_succ_cons,jC];exact⟨⟨h.1,this.1⟩,this.2⟩
 | [],_::_,_,h=>by simp only[jC]at h
 | _::_,[],_,h=>by simp only[jC]at h
def auF:(Tryz.zeroCells191.setIfInBounds 0 (.int .u8 48)).setIfInBounds 260 (.string ⟨#[48]⟩)=Km 48 nF sM sM AM [48]:=by kernel_rfl
def avS:(Tryz.zeroCells191.setIfInBounds 0 (.int .u8 49)).setIfInBounds 260 (.string ⟨#[49]⟩)=Km 49 nF sM sM AM [49]:=by kernel_rfl
theorem auG(q s):((Tryz.zeroCells191.setIfInBounds 0 (.int .u8 42)).setIfInBounds 257 (.pointer q)).setIfInBounds 260 (.string s)=Km 42 nF (.pointer q) sM AM s.data.toList:=by cases s;kernel_rfl
def pairT(q r s):(((Tryz.zeroCells191.setIfInBounds 0 (.int .u8 99)).setIfInBounds 257 (.pointer q)).setIfInBounds 258 (.pointer r)).setIfInBounds 260 (.string s)=Km 99 nF (.pointer q) (.pointer r) AM s.data.toList:=by cases s;kernel_rfl
def oQ(w):zF 107 #[] w λe w'=>∃p,e=zR (aM p)/\TN w' p .zero/\aB [] w w':=by
 delta zF;go_in;go_wp2;go_ret;exact⟨w.heap.size,rfl,by simp only[TN];exact TK.of auF qQ,zJ⟩
def wO(w):zF 104 #[] w λe w'=>∃p,e=zR (aM p)/\TN w' p .one/\aB [] w w':=by
 delta zF;go_in;go_wp2;go_ret;exact⟨w.heap.size,rfl,by simp only[TN];exact TK.of avS qQ,zJ⟩
def agT {b}(h:aP b=true):(((j5 b:Nat):Int)==48)=false/\(((j5 b:Nat):Int)==49)=false:=by cases b<;>simp[aP]at h<;>simp[j5]
def zU(w:World)(x:NF)(e:Ending)(w':World):Prop:=∃p,e=zR (aM p)/\TN w' p x/\aB [] w w'
theorem MN(l):(bs l).data.toList=l:=aor l
theorem TN.pair {pa pb:Nat} {a b:NF}(c:TN w pa a)(hb:TN w pb b)(hC:C=Km 99 nF (aM pa) (aM pb) AM (name (.pair a b))):TN (w.alloc (Obj.cells C 191)) w.heap.size (.pair a b):=by simp only[TN];exact⟨pa,pb,TK.of hC qQ,c.aC zJ,hb.aC zJ⟩
theorem ajE(a b):name (.pair a b)=40::(name a++32::(name b++[41])):=by simp only[name]
def ThC(a:NF):Prop:=∀(b:NF) (w:World) (pa pb:Nat),TN w pa a->TN w pb b->wf a->wf b->nl (aG a b)<9223372036854775807 ->
 zF 102 #[aM pa,aM pb] w (zU w (aG a b))
theorem DT {a}(hh:dP a=true):ThC a:=by
 intro b w pa pb A B z _ j;have:=A.kd;have kb:=B.kd;have:=A.nm;have:=B.nm;have i:(((j5 a:Nat):Int)==48)=false/\(((j5 a:Nat):Int)==49)=false/\(((j5 a:Nat):Int)==99)=false:=by cases a<;>simp[dP]at hh<;>simp[j5]
 obtain⟨t,r,q⟩:=i;unfold aM;cases g:aP b
 case false =>
  rcases fQ (by rw[g];simp) with h|h
  .subst h;have d:=fJ a;rw[d];simp[j5]at kb;generalize j5 a=c at *;delta zF;go_in;go_wp2_with fail;refine (oQ w).mono ?_;rintro e C ⟨p,rfl,P,F⟩;unfold aM;go_wp2;go_ret;exact⟨p,rfl,P,F⟩
  subst h;have d:=bF a;rw[d];simp[j5]at kb;generalize j5 a=c at *;delta zF;go_in;go_wp2;go_ret;exact⟨pa,rfl,A,zK⟩
 case true =>
  obtain⟨o,n⟩:=agT g;rw[(aX hh g)]at j |-;rw[Fb]at j;unfold nl at j;have:(⟨#[40]⟩:ByteArray)++bs (name a)=bs (40::name a):=mf [40] (name a);have:bs (40::name a)++⟨#[32]⟩=bs (40::name a++[32]):=mf (40::name a) [32];have:bs (40::name a++[32])++bs (name b)=bs (40::name a++[32]++name b):=mf _ _;have:bs (40::name a++[32]++name b)++⟨#[41]⟩=bs (40::name a++[32]++name b++[41]):=mf _ [41];have f:name (.pair a b)=40::name a++[32]++name b++[41]:=by rw[ajE];simp
  have:=bL (name a);have:(bs (40::name a)).size=(name a).length+1:=bL _;have:(bs (40::name a++[32])).size=(name a).length+2:=by rw[bL];simp
  have:=bL (name b);have:(bs (40::name a++[32]++name b)).size=(name a).length+2+(name b).length:=by rw[bL];simp;omega
  have:¬ (9223372036854775807<1+(name a).length):=by omega
  have:¬ (9223372036854775807<(name a).length+1+1):=by omega
  have:¬ (9223372036854775807<(name a).length+2+(name b).length):=by omega
  have:¬ (9223372036854775807<(name a).length+2+(name b).length+1):=by omega
  have fin:∀(W:World),aB [] w W->TN (W.alloc (.cells ((((Tryz.zeroCells191.setIfInBounds 0 (.int .u8 99)).setIfInBounds 257 (.pointer (some ⟨pa,0,none⟩))).setIfInBounds 258 (.pointer (some ⟨pb,0,none⟩))).setIfInBounds 260 (.string (bs (40::name a++[32]++name b++[41])))) 191)) W.heap.size (.pair a b):=by intro W k;refine TN.pair (A.aC k) (B.aC k) ?_;rw[(λ(s:ByteArray)=>pairT (some ⟨pa,0,none⟩) (some ⟨pb,0,none⟩) s),MN,<-f];rfl
  generalize j5 a=c at *;generalize j5 b=l at *;generalize bs (40::name a++[32]++name b++[41])=u at *;generalize bs (40::name a++[32]++name b)=v at *;generalize bs (40::name a++[32])=x at *;generalize bs (40::name a)=y at *;generalize (name a).length=S at *;generalize (name b).length=R at *;delta zF;go_in;go_wp2_with fail;go_region;go_wp2;go_ret;exact⟨_,rfl,fin _ zK.drew,(zK.drew).alloc _⟩
def agU:ThC .zero:=by
 intro b w pa pb a hb f wb h;have c:=a.kd;have N:=oQ w;have d:aG .zero b=.zero:=rfl;rw[d];simp only[j5]at c;clear a hb;unfold aM;delta zF;go_in;go_wp2_with fail;refine N.mono ?_;rintro e g ⟨p,rfl,P,F⟩;clear N;unfold aM;go_wp2;go_ret;exact⟨p,rfl,P,F⟩
def ajF:ThC .one:=by
 intro b w _ pb a B i _ k;have d:=a.kd;have kb:=B.kd;have h:aG .one b=b:=rfl;rw[h];simp[j5]at d;clear a;unfold aM;by_cases hz:b=.zero
 .subst hz;have N:=oQ w;simp[j5]at kb;delta zF;go_in;go_wp2_with fail;refine N.mono ?_;rintro e j ⟨p,rfl,P,F⟩;clear N;unfold aM;go_wp2;go_ret;exact⟨p,rfl,P,F⟩
 have:(((j5 b:Nat):Int)==48)=false:=by
  cases b<;>simp[j5];exact absurd rfl hz
 generalize j5 b=c at *;delta zF;go_in;go_wp2;go_ret;exact⟨pb,rfl,B,zK⟩
def agV {c d}(hd:ThC d):ThC (.pair c d):=by
 intro b w pa pb j hb g wb n;have I:=j.kd;have kb:=hb.kd;have A:=aj j;simp[j5]at I;simp only[TN]at j;obtain⟨pc,E,x,y,v⟩:=j;obtain⟨r,m,_,_⟩:=x.ends;unfold aM at r m;cases l:aP b
 case false =>
  rcases fQ (by rw[l];simp) with h|h
  .subst h;have i:Z_ (aG (.pair c d) .zero=.zero):=rfl;rw[i.o];simp only[j5]at kb;unfold aM;delta zF;go_in;go_wp2_with fail;refine((aj (oQ w)).o).mono ?_;rintro e k ⟨p,rfl,f,a⟩;have P:=aj f;have F:=aj a;unfold aM;go_wp2;go_ret;exact⟨p,rfl,P,F⟩
  subst h;have i:Z_ (aG (.pair c d) .one=.pair c d):=rfl;rw[i.o];simp only[j5]at kb;unfold aM;delta zF;go_in;go_wp2;go_ret;exact⟨pa,rfl,A,aB.refl _ _⟩
 case true =>
  obtain⟨M,L⟩:=agT l;rw[(aj (dA (c:=c) (d:=d) l)).o]at n |-;have u:=lY g.2.1 wb;have q:c≠.zero:=λe=>by have:=g.2.2.1;rw[e]at this;simp[dP]at this
  have s:=aj (hd b w E pb (aj v).o (aj hb).o g.2.1 wb (a2i (agy g.1 u q) n));have t:Z_ (∀(w':World) (p:Nat),aB [] w w'->TN w' p (aG d b)->zF 102 #[aM pc,aM p] w' (zU w' (aG c (aG d b)))):=λw' p a f=>DT g.2.2.1 (aG d b) w' pc p ((aj y).o.aC a) f g.1 u n;have CL:Z_ (∀w',aB [] w w'->zC w' pa 257 (zP pc)):=λw' a=>(a.cell (p:=(zB pa 257)) (bY r) (by simp)).trans r;unfold aM at s t |-;generalize j5 b=H at *;delta zF;go_in;go_wp2_with fail;refine(s.o).mono ?_;rintro e k ⟨p,rfl,f,a⟩;have:=CL.o k a;have F:=aj a;unfold aM;go_wp2_with fail;refine((aj (t.o k p a f)).o).mono ?_;rintro e S ⟨G,rfl,f,a⟩;have F2:=aj (F.o.trans a);unfold aM;go_wp2;go_ret;exact⟨G,rfl,aj f,F2⟩
def yP(a):ThC a:=by
 refine NF.ind ?_ a;intro a b;cases a with
 | zero=>exact agU
 | one=>exact ajF
 | set s=>exact DT rfl
 | sum l=>exact DT rfl
 | star x=>exact DT rfl
 | pair c d=>exact agV (b d (by simp[NF.size];omega))
theorem ajG(a w pa)(c:TN w pa a)(f:nl (iH a)<9223372036854775807) :
 Calls Tryz.prog 105 #[aM pa] w (zU w (iH a)):=by
 have b:=c.kd;have u:=c.nm;unfold aM;have E:=wO w;have one:∀k,(k=48\/k=49)->w.cell? ⟨pa,0,none⟩=some (.int .u8 (k:Nat))->Calls Tryz.prog 105 #[.pointer (some ⟨pa,0,none⟩)] w (zU w .one):=by
  intro k n h;clear b;rcases n with rfl|rfl;all_goals
   go_in;go_wp2_with fail;refine E.mono ?_;rintro e r ⟨p,rfl,P,F⟩;unfold aM;go_wp2;go_ret;exact⟨p,rfl,P,F⟩
 have d:∀k,(((k:Nat):Int)==48)=false->(((k:Nat):Int)==49)=false->(((k:Nat):Int)==42)=false->k<256->iH a=.star a->w.cell? ⟨pa,0,none⟩=some (.int .u8 (k:Nat))->Calls Tryz.prog 105 #[.pointer (some ⟨pa,0,none⟩)] w (zU w (iH a)):=by
  intro k j i m v g h;rw[g]at f |-;rw[ZE]at f;unfold nl at f;have:bs (name a)++⟨#[42]⟩=bs (name a++[42]):=mf _ [42];have:=bL (name a);have:¬ (9223372036854775807<(name a).length+1):=by omega
  have fin:TN (w.alloc (Obj.cells (((Tryz.zeroCells191.setIfInBounds 0 (.int .u8 42)).setIfInBounds 257 (.pointer (some ⟨pa,0,none⟩))).setIfInBounds 260 (.string (bs (name a++[42])))) 191)) w.heap.size (.star a):=by show TN _ _ _;simp[TN];refine⟨pa,TK.of ?_ qQ,c.aC zJ⟩;rw[auG,MN];simp[name];rfl
  generalize bs (name a++[42])=q at *;clear b c g E one;go_in;go_wp2;go_ret;exact⟨_,rfl,fin,zJ⟩
 cases a with
 | zero=>exact one 48 (.inl rfl) b
 | one=>exact one 49 (.inr rfl) b
 | set s=>exact d 115 rfl rfl rfl (by decide) rfl b
 | pair x y=>exact d 99 rfl rfl rfl (by decide) rfl b
 | sum l=>exact d 97 rfl rfl rfl (by decide) rfl b
 | star x =>
   have o:iH (.star x)=.star x:=rfl;rw[o];simp[j5]at b;go_in;go_wp2;go_ret;exact⟨pa,rfl,c,zK⟩
def NnC(x:NF):Prop:=∀(w:World) (p:Nat),TN w p x ->
 zF 106 #[aM p] w λe w'=>e=zR (.bool (dK x))/\w=w'
def arZ(l)(u:∀y∈l,NnC y):NnC (.sum l):=by
 intro w p h;have k0:=h.kd;simp[j5]at k0;simp only[TN]at h;obtain⟨v,E,i,z,r⟩:=h;obtain⟨_,_,G,_⟩:=i.ends;obtain⟨b,av,n,cap,rfl,c,H,_,C⟩:=z;have hlen:=r.len;rw[a0y]at c b;have t:n=l.length:=c.trans hlen;subst t;rw[hlen]at b;clear i c hlen;unfold aM;delta zF;go_in;go_wp2_with fail;go_loopg [5] l.length (λk s wr=>∃(j:Nat),j+k=l.length/\s=zI j/\w=wr/\(l.take j).any dK=false);exact⟨0,by omega,rfl,rfl,rfl⟩
 .obtain⟨j,F,rfl,rfl,f⟩:=hrel;by_cases A:j<l.length
  .obtain⟨x,a⟩:∃x,l[j]?=some x:=⟨l[j],a0a A⟩;obtain⟨q,hq,o⟩:=r.get j x a;obtain⟨g,rfl,aO⟩:=C j (aM q) (by rw[a0Q,hq];rfl);have N:=u x (a0B a) w q o;have B:l.take (j+1)=l.take j++[x]:=by rw[a1c,a];rfl
   have d:x∈l:=a0B a;unfold aM at aO N;clear a hq o;go_wp2_with fail;refine N.mono ?_;rintro e D ⟨rfl,rfl⟩;cases m:dK x
   .go_wp2;go_roundg (gk-1)
    .refine⟨j+1,by omega,by go_num,rfl,?_⟩;rw[B,List.any_append,f];simp[m]
    omega
   have HR:dK (.sum l)=true:=by simp only[dK];rw[Fh,a1s];exact⟨x,d,m⟩
   go_wp2;go_ret;rw[HR];exact⟨rfl,rfl⟩
  have HR:dK (.sum l)=false:=by simp only[dK];rw[Fh];have:=f;rw[a0C (by omega)]at this;exact this
  go_wp2;go_ret;rw[HR];exact⟨rfl,rfl⟩
def ao3(x y)(j:NnC x)(i:NnC y):NnC (.pair x y):=by
 intro w p h;have k0:=h.kd;simp[j5]at k0;simp only[TN]at h;obtain⟨a,b,d,f,hb⟩:=h;obtain⟨k,c,_⟩:=d.ends;have A:=j w a f;have B:=i w b hb;have HR:dK (.pair x y)=(dK x&&dK y):=by simp only[dK]
 unfold aM at k c A B |-;clear d f hb;delta zF;go_in;go_wp2_with fail;refine A.mono ?_;rintro e g ⟨rfl,rfl⟩;go_wp2_with fail;refine B.mono ?_;rintro e g ⟨rfl,rfl⟩;cases l:dK x;all_goals
  go_wp2;go_ret;rw[HR,l];exact⟨by first | rfl|simp,rfl⟩
def Sg {r}(a:j5 x=k)(b:dK x=r)(h:∀(w:World) (p:Nat),zC w p 0 (.int .u8 (k:Nat))->zF 106 #[zP p] w λe w'=>e=zR (.bool r)/\w=w'):NnC x:=by intro w p ht;have k0:=ht.kd;rw[a]at k0;rw[b];exact h w p k0
def ajH(x):NnC x:=by
 refine NF.ind ?_ x;intro x c;cases x with
 | zero=>exact Sg (k:=48) (r:=false) rfl (by simp only[dK]) (λw p k0=>by
    delta zF;go_in;go_wp2;go_ret;exact⟨rfl,rfl⟩)
 | one=>exact Sg (k:=49) (r:=true) rfl (by simp only[dK]) (λw p k0=>by
    delta zF;go_in;go_wp2;go_ret;exact⟨rfl,rfl⟩)
 | set s=>exact Sg (k:=115) (r:=false) rfl (by simp only[dK]) (λw p k0=>by
    delta zF;go_in;go_wp2;go_ret;exact⟨rfl,rfl⟩)
 | star a=>exact Sg (k:=42) (r:=true) rfl (by simp only[dK]) (λw p k0=>by
    delta zF;go_in;go_wp2;go_ret;exact⟨rfl,rfl⟩)
 | pair a b=>exact ao3 a b (c a (by simp[NF.size];omega)) (c b (by simp[NF.size];omega))
 | sum l=>exact arZ l (λy d=>c y (by have:=dx d;simp[NF.size];omega))
def avV(s z):Tryz.prog.built 191 [(0,.int .u8 115),(1,.agg ((bl s).map Value.bool).toArray),(5,.string z)]=some (Km 115 (bl s) sM sM AM z.data.toList):=by cases z;kernel_rfl
def SC(w:World)(b:Nat)(t:LB)(i:Nat):Prop :=
 w.heap[b]?=some (.cells #[zT t,zI i] 195 (0,0))/\i<=t.length/\t.length<=1048576
theorem SC.c0(h:SC w b t i):zC w b 0 (zT t):=by simp[World.cell?,h.1]
theorem SC.c1(h:SC w b t i):zC w b 1 (zI i):=by simp[World.cell?,h.1]
theorem SC.fz(h:SC w b t i)(o):w.frozen? (zB b o)=false:=by simp[World.frozen?,h.1]
theorem SC.lt(h:SC w b t i):b<w.heap.size :=
 (a0c.1 h.1).1
theorem SC.aC(h:SC w b t i)(f:aB S w w')(a:b∉S):SC w' b t i :=
 ⟨(f.block b h.lt a).trans h.1,h.2⟩
theorem SC.drew(h:SC w b t i):SC w.drew b t i:=h
theorem SC.drewN(n)(h:SC w b t i):SC (w.drewN n) b t i:=h
theorem SC.set(h:SC w b t i)(j)(a:j<=t.length):SC (w.setCell (zB b 1) (zI j)) b t j:=by refine⟨?_,a,h.2.2⟩;simp[World.setCell,a0v,h.1]
def At(w:World)(b:Nat)(t l:LB):Prop:=∃i,SC w b t i/\t.drop i=l
theorem At.aC{l}(h:At w b t l)(f:aB S w w')(a:b∉S):At w' b t l:=by obtain⟨i,d,c⟩:=h;exact⟨i,d.aC f a,c⟩
theorem At.lt{l}(h:At w b t l):b<w.heap.size:=by obtain⟨i,a,_⟩:=h;exact a.lt
def mR(c:Int):Bool:=decide (32<=c)&&decide (c<=126)
def Ba(c w) :
 zF 148 #[.int .u8 c] w λe w'=>e=zR (.bool (mR c))/\w=w':=by
 delta zF;go_in;go_wp2;all_goals go_ret
 all_goals exact⟨dD (by simp[mR, *]<;>omega),rfl⟩
def kQ(b t l w)(h:At w b t l) :
 zF 111 #[zP b] w λe w'=>e=zR (.int .u8 (hd l))/\∃n,w'=w.drewN n:=by
 obtain⟨i,a,c⟩:=h;have:=a.c0;have:=a.c1;have:=bL t;by_cases f:i<t.length
 .have d:hd l=(t[i].toNat:Int):=by rw[<-c];exact EP t i f
  delta zF;go_in;go_wp2;go_quiet (fail);go_wp2;go_quiet (fail);go_wp2;go_ret;exact⟨mJ d.symm,_,yD _ _ _⟩
 have d:hd l=0:=by rw[<-c,a0i (by omega)];rfl
 delta zF;go_in;go_wp2;go_quiet (fail);go_wp2;go_ret;exact⟨mJ d.symm,_,rfl⟩
def Z6(b t l w)(h:At w b t l) :
 zF 91 #[zP b] w λe w'=>e=zR (.bool l.isEmpty)/\∃n,w'=w.drewN n:=by
 obtain⟨i,a,c⟩:=h;have:=a.c0;have:=a.c1;have d:l.isEmpty=decide (t.length<=i):=by show l.isEmpty=decide (t.length<=i);rw[<-c,a0T];simp
 delta zF;go_in;go_wp2;go_quiet (fail);go_wp2;go_ret;exact⟨dD d.symm,_,rfl⟩
def aQ(wd l:LB):Bool:=wd.isPrefixOf l
def aK(wd l:LB):LB:=if wd.isPrefixOf l then l.drop wd.length else l
theorem WH(t wd:LB)(i)(h:i+wd.length<=t.length):(List.drop i (List.take (i+wd.length) t)==wd)=wd.isPrefixOf (t.drop i):=by rw[a0T,a2y,a0W,List.prefix_iff_eq_take,List.drop_take,Nat.add_sub_cancel_left];exact eq_comm
def gX(b t l wd w)(h:At w b t l)(q:wd.length<=1048576) :
 zF 89 #[zP b,zT wd] w λe w'=>e=zR (.bool (aQ wd l))/\At w' b t (aK wd l)/\aB [b] w w':=by
 obtain⟨i,c,k⟩:=h;have c0:=c.c0;have c1:=c.c1;have u:=c.fz 1;have s:=c.2.1;have ht:=c.2.2;have v:=bL t;have n:=bL wd;have p:=tF t;have r:=aT;have j:=c;have f:=k;by_cases g:i+wd.length<=t.length
 .have o:decide ((t.length:Int)<(i:Int)+(wd.length:Int))=false:=by simp;omega
  have m:decide (t.length<i+wd.length)=false:=by simp;omega
  cases d:wd.isPrefixOf l
  .have he:(List.drop i (List.take (i+wd.length) t)==wd)=false:=by rw[WH t wd i g,f,d]
   have a:=d;delta zF;go_in;go_wp2;go_quiet (fail);go_wp2;go_ret;exact⟨dD (by simp[aQ,a]),⟨i,j.drewN _,by simp[aK,a,f]⟩,zK.drewN _⟩
  have he:(List.drop i (List.take (i+wd.length) t)==wd)=true:=by rw[WH t wd i g,f,d]
  have a:=d;delta zF;go_in;go_wp2;go_quiet (fail);go_wp2;go_ret;refine⟨dD (by simp[aQ,a]),⟨i+wd.length,?_,by unfold aK;rw[a0m a,<-f,a2Z]⟩,?_⟩
  .exact(j.drewN _).set _ g
  exact(zK.drewN _).setCell (by simp) _
 have o:decide ((t.length:Int)<(i:Int)+(wd.length:Int))=true:=by simp;omega
 have m:decide (t.length<i+wd.length)=true:=by simp;omega
 have a:wd.isPrefixOf l=false:=by show wd.isPrefixOf l=false;rw[a2p];intro h;have:=(a2y.1 h).length_le;rw[<-f,a2F]at this;omega
 delta zF;go_in;go_wp2;go_quiet (fail);go_wp2;go_ret;exact⟨dD (by simp[aQ,a]),⟨i,j.drewN _,by simp[aK,a,f]⟩,zK.drewN _⟩
open Go.RowKit
def MP {p}:∀(a r:LB),a.all p=true->(∀c r',r=c::r'->p c=false)->(a++r).takeWhile p=a/\(a++r).dropWhile p=r
 | [],r,_,h=>by
   cases r with
   | nil=>simp
   | cons c r'=>simp[h c r' rfl]
 | x::a,r,b,h=>by simp only[a1P,a0O]at b;have:=MP a r b.2 h;simp[b.1,this.1,this.2]
theorem ajI(t:LB)(i j)(h:i<=j)(a:j<=t.length):t.drop i=(t.take j).drop i++t.drop j:=by
 conv=>lhs;rw[<-a1C j t]
 rw[a1N (by simp;omega)]
theorem SC.at(h:SC w b t i):At w b t (t.drop i):=⟨i,h,rfl⟩
def vC(b t l w)(h:At w b t l) :
 zF 90 #[zP b] w λe w'=>e=zQ #[zT (l.takeWhile bK),.bool (aJ (l.takeWhile bK))]/\At w' b t (l.dropWhile bK)/\aB [b] w w':=by
 obtain⟨i,f,s⟩:=h;have c1:=f.c1;have:=f.2.1;have:=f.2.2;have A:=f;have z:List.drop i t=l:=s;clear f s;delta zF;go_in;go_wp2;go_loopg [] (t.length-i) (λk wr=>∃j,j+k=t.length/\i<=j/\SC wr b t j/\((t.take j).drop i).all bK=true/\aB [b] w wr);exact⟨i,by omega,by omega,A,by rw[a0i (by simp;omega)];rfl,zK⟩
 .obtain⟨j,B,y,d,q,u⟩:=hrel;clear c1;have:=d.c0;have:=d.c1;have D:=d.fz 1;have g:SC wr b t j:=d;have v:aB [b] w wr:=u;have o:((t.take j).drop i).all bK=true:=q;clear d q u;cases a:Uy (hd (t.drop j))
  .have m:l.takeWhile bK=(t.take j).drop i/\l.dropWhile bK=t.drop j:=by rw[<-z,ajI t i j y (by omega)];refine MP _ _ o ?_;intro c r' e;rw[e]at a;exact a
   have x:l.takeWhile bK=(t.take j).drop i/\l.dropWhile bK=t.drop j:=m;clear m;have r:=tF t;have E:=bL t;go_wp2_with (first | (go_at_call 111;refine(kQ _ _ _ _ g.at).mono ?_;rintro e w' ⟨rfl,n,rfl⟩)|(go_at_call 110;refine(vN _ _).mono ?_;rintro e w' ⟨rfl,rfl⟩));go_quiet (fail);go_wp2_with (go_at_call 112;refine(JR _ _ (by simp;omega)).mono ?_;rintro e w' ⟨rfl,rfl⟩);go_ret2;rw[x.1,x.2];exact⟨rfl,(g.drewN _).at,v.drewN _⟩
  have p:j<t.length:=by
   by_cases r:j<t.length
   .exact r
   rw[a0i (by omega)]at a;cases a
  go_wp2_with (first | (go_at_call 111;refine(kQ _ _ _ _ g.at).mono ?_;rintro e w' ⟨rfl,n,rfl⟩)|(go_at_call 110;refine(vN _ _).mono ?_;rintro e w' ⟨rfl,rfl⟩));go_roundg (gk-1)
  .refine⟨j+1,by omega,by omega,?_,?_,?_⟩
   .exact(g.drewN _).set (j+1) (by omega)
   .rw[a0F p,a1N (by simp;omega),a2c,o];rw[EP t j p]at a;simp[bK,a]
   exact(v.drewN _).setCell (by simp) _
  omega
def gK(l:LB):UInt8 × Bool × LB :=
 match l with
 | []=>(0,false,[])
 | c::r=>if nG c then (c-48,true,r) else if 97<=c/\c<=102 then (c-97+10,true,r) else (0,false,c::r)
def u8i(c:UInt8):(0:Int)<=c.toNat/\(c.toNat:Int)<=255:=by have:=c.toNat_lt;omega
def ajJ {k x y p q}(h:x=y)(a:p=q):Ending.returned (.tuple #[.int k x,.bool p])=zQ #[.int k y,.bool q]:=by rw[h,a]
def at_set{l:LB} {c:UInt8}(f:SC w b t i)(a:t.drop i=c::r):At (w.setCell (zB b 1) (zI (i+1))) b t r:=by
 have d:i<t.length:=by
  by_cases e:i<t.length
  .omega
  rw[a0i (by omega)]at a;cases a
 refine⟨i+1,f.set (i+1) d,?_⟩;have:=congrArg List.tail a;rw[List.tail_drop]at this;exact this
def at_len {c}(a:t.drop i=c::r):i<t.length:=by
 by_cases b:i<t.length
 .omega
 rw[a0i (by omega)]at a;cases a
def DU(b t l w)(h:At w b t l) :
 zF 157 #[zP b] w λe w'=>e=zQ #[.int .u8 ((gK l).1.toNat),.bool (gK l).2.1]/\At w' b t (gK l).2.2/\aB [b] w w':=by
 obtain⟨i,h1,h2⟩:=h;have c1:=h1.c1;have hf:=h1.fz 1;have ht:=h1.2.2;have H1:Z_ (SC w b t i):=h1;have H2:Z_ (List.drop i t=l):=h2;clear h1 h2;cases l with
 | nil =>
   have h0:hd []=0:=rfl;delta zF;go_in;go_wp2_with (first | (go_at_call 111;refine(kQ _ _ _ _ ⟨i,H1,H2⟩).mono ?_;rintro e w' ⟨rfl,n,rfl⟩)|(go_at_call 125;refine(iT _ _).mono ?_;rintro e w' ⟨rfl,rfl⟩));go_ret2;exact⟨rfl,⟨i,H1.o.drewN _,H2⟩,zK.drewN _⟩
 | cons c r =>
   have hc:=JQ c r;have hu:=u8i c;have jc:i<t.length:=at_len H2;cases hd:lW (c.toNat:Int)
   ·by_cases hx:97<=(c.toNat:Int)/\(c.toNat:Int)<=102
    ·obtain⟨_,_⟩:=hx;have hs:Z_ (gK (c::r)=(c-97+10,true,r)):=by show gK (c::r)=(c-97+10,true,r);unfold gK;simp only[nG,hd];rw[a0n (by simp),a0m (by constructor<;>(rw[a1p];simp;omega))]
     delta zF;go_in;go_wp2_with (first | (go_at_call 111;refine(kQ _ _ _ _ ⟨i,H1,H2⟩).mono ?_;rintro e w' ⟨rfl,n,rfl⟩)|(go_at_call 125;refine(iT _ _).mono ?_;rintro e w' ⟨rfl,rfl⟩));go_ret2;rw[hs.o];refine⟨ajJ ?_ rfl,at_set (l:=r) (H1.o.drewN _) H2,(zK.drewN _).setCell (by simp) _⟩;have:(c-97).toNat=c.toNat-97:=a3a _ _ (by rw[a1p];simp;omega);rw[UInt8.toNat_add,this];simp;omega
    have hs:Z_ (gK (c::r)=(0,false,c::r)):=by show gK (c::r)=(0,false,c::r);unfold gK;simp only[nG,hd];rw[a0n (by simp),a0n];rintro⟨h1,h2⟩;rw[a1p]at h1 h2;simp at h1 h2;omega
    delta zF;go_in;go_wp2_with (first | (go_at_call 111;refine(kQ _ _ _ _ ⟨i,H1,H2⟩).mono ?_;rintro e w' ⟨rfl,n,rfl⟩)|(go_at_call 125;refine(iT _ _).mono ?_;rintro e w' ⟨rfl,rfl⟩));all_goals first | (exfalso;omega)|skip
    all_goals
     go_ret2;rw[hs.o];exact⟨rfl,⟨i,H1.o.drewN _,H2⟩,zK.drewN _⟩
   have hb:48<=(c.toNat:Int)/\(c.toNat:Int)<=57:=by simpa[lW] using hd
   obtain⟨kv,jR⟩:=hb;have hs:Z_ (gK (c::r)=(c-48,true,r)):=by show gK (c::r)=(c-48,true,r);unfold gK;simp only[nG,hd];rw[a0m trivial]
   delta zF;go_in;go_wp2_with (first | (go_at_call 111;refine(kQ _ _ _ _ ⟨i,H1,H2⟩).mono ?_;rintro e w' ⟨rfl,n,rfl⟩)|(go_at_call 125;refine(iT _ _).mono ?_;rintro e w' ⟨rfl,rfl⟩));go_ret2;rw[hs.o];refine⟨ajJ ?_ rfl,at_set (l:=r) (H1.o.drewN _) H2,(zK.drewN _).setCell (by simp) _⟩;have:(c-48).toNat=c.toNat-48:=a3a _ _ (by rw[a1p];simp;omega);rw[this];omega
def Ex(l:LB):UInt8 × Bool × LB :=
 let a:=gK l
 let d:=gK a.2.2
 (a.1*16+d.1,a.2.1&&d.2.1,d.2.2)
def ac7(l):(gK l).1.toNat<=15:=by
 unfold gK;cases l with
 | nil=>simp
 | cons c r =>
   dsimp only;by_cases h:nG c=true
   .rw[a0m h];have hb:48<=(c.toNat:Int)/\(c.toNat:Int)<=57:=by simpa[nG,lW] using h
    have:(c-48).toNat=c.toNat-48:=a3a _ _ (by rw[a1p];simp;omega);simp[this];omega
   rw[a0n h];by_cases a:97<=c/\c<=102
   .rw[a0m a];obtain⟨d,b⟩:=a;rw[a1p]at d b;simp at d b;have:(c-97).toNat=c.toNat-97:=a3a _ _ (by rw[a1p];simp;omega);simp only[UInt8.toNat_add,this];simp;omega
   rw[a0n a];simp
def U7(b t l w)(h:At w b t l) :
 zF 147 #[zP b] w λe w'=>e=zQ #[.int .u8 ((Ex l).1.toNat),.bool (Ex l).2.1]/\At w' b t (Ex l).2.2/\aB [b] w w':=by
 have H:=h;clear h;delta zF;go_in;go_wp2_with fail;refine(DU _ _ _ _ H).mono ?_;rintro e r ⟨rfl,g,i⟩;go_wp2_with fail;refine(DU _ _ _ _ g).mono ?_;rintro e c ⟨rfl,f,j⟩;have:=u8i (gK l).1;have:=u8i (gK (gK l).2.2).1;have:=ac7 l;have:=ac7 (gK l).2.2;have o:Ex l=((gK l).1*16+(gK (gK l).2.2).1,(gK l).2.1&&(gK (gK l).2.2).2.1,(gK (gK l).2.2).2.2):=rfl;have q:At c b t (gK (gK l).2.2).2.2:=f;have p:aB [b] w c:=i.trans j;clear g i f j;generalize gK (gK l).2.2=d at *;generalize gK l=a at *;obtain⟨z,n,y⟩:=a;obtain⟨_,x,v⟩:=d;cases n;all_goals
  go_wp2;go_ret2;rw[o];refine⟨ajJ ?_ (by simp),q,p⟩;rw[UInt8.toNat_add,UInt8.toNat_mul];simp;omega
def I9(l:LB):UInt8 × Bool × LB :=
 if aQ [92,34] l then (34,true,aK [92,34] l)
 else if aQ [92,92] l then (92,true,aK [92,92] l)
 else if aQ [92,120] l then Ex (aK [92,120] l)
 else match l with
  | []=>(0,false,[])
  | c::r=>if !(mR c.toNat)||c==92 then (0,false,c::r) else (c,true,r)
theorem jL {wd l}(h:aQ wd l=false):aK wd l=l:=by unfold aQ at h;unfold aK;rw[h];simp
def PU(b t l w)(h:At w b t l) :
 zF 138 #[zP b] w λe w'=>e=zQ #[.int .u8 ((I9 l).1.toNat),.bool (I9 l).2.1]/\At w' b t (I9 l).2.2/\aB [b] w w':=by
 have H:=h;clear h;delta zF;go_in;go_wp2_with fail;refine(gX b t l [92,34] _ H (by simp)).mono ?_;rintro e q ⟨rfl,m,x⟩;cases u:aQ [92,34] l
 case true =>
  have a:I9 l=(34,true,aK [92,34] l):=by show I9 l=_;unfold I9;rw[u];rfl
  have z:At q b t (aK [92,34] l)/\aB [b] w q:=⟨m,x⟩;clear m x;go_wp2;go_ret2;rw[a];exact⟨rfl,z.1,z.2⟩
 case false =>
 rw[jL u]at m;have z:At q b t l:=m;have S:aB [b] w q:=x;have y:aQ [92,34] l=false:=u;clear m x;go_wp2_with fail;refine(gX b t l [92,92] _ z (by simp)).mono ?_;rintro e C ⟨rfl,k,P⟩;have J:aB [b] w C:=S.trans P;clear P u;cases A:aQ [92,92] l
 case true =>
  have a:I9 l=(92,true,aK [92,92] l):=by show I9 l=_;unfold I9;rw[y,A];rfl
  have G:At C b t (aK [92,92] l):=k;clear k;go_wp2;go_ret2;rw[a];exact⟨rfl,G,J⟩
 case false =>
 rw[jL A]at k;have G:At C b t l:=k;have E:aQ [92,92] l=false:=A;clear k;go_wp2_with fail;refine(gX b t l [92,120] _ G (by simp)).mono ?_;rintro e B ⟨rfl,v,O⟩;have p:aB [b] w B:=J.trans O;clear O A;cases s:aQ [92,120] l
 case true =>
  have a:I9 l=Ex (aK [92,120] l):=by show I9 l=_;unfold I9;rw[y,E,s];rfl
  have V:At B b t (aK [92,120] l):=v;clear v;go_wp2_with fail;refine(U7 b t _ _ V).mono ?_;rintro e I ⟨rfl,N,L⟩;have U:At I b t (Ex (aK [92,120] l)).2.2:=N;have F:aB [b] w I:=p.trans L;clear N L;go_wp2;go_ret2;rw[a];exact⟨rfl,U,F⟩
 case false =>
 rw[jL s]at v;have R:aQ [92,120] l=false:=s;obtain⟨i,j,M⟩:=v;have c1:=j.c1;have hf:=j.fz 1;have ht:=j.2.2;have f:SC B b t i:=j;have d:List.drop i t=l:=M;clear j M s;cases l with
 | nil =>
   have Y:mR 0=false:=rfl;have h0:hd []=0:=rfl;go_wp2_with (first | (go_at_call 111;refine(kQ _ _ _ _ ⟨i,f,d⟩).mono ?_;rintro e w' ⟨rfl,n,rfl⟩)|(go_at_call 148;refine(Ba _ _).mono ?_;rintro e w' ⟨rfl,rfl⟩));go_ret2;exact⟨rfl,⟨i,f.drewN _,d⟩,p.drewN _⟩
 | cons c r =>
   have hc:=JQ c r;have X:=u8i c;have W:i<t.length:=at_len d;by_cases D:mR c.toNat=true/\((c.toNat:Int)==92)=false
   .obtain⟨g,o⟩:=D;have a:I9 (c::r)=(c,true,r):=by
     show I9 (c::r)=_;unfold I9;rw[y,E,R];have:(c==92)=false:=by rw[a0j]at o |-;intro e;subst e;exact o rfl
     simp[g,this]
    go_wp2_with (first | (go_at_call 111;refine(kQ _ _ _ _ ⟨i,f,d⟩).mono ?_;rintro e w' ⟨rfl,n,rfl⟩)|(go_at_call 148;refine(Ba _ _).mono ?_;rintro e w' ⟨rfl,rfl⟩));go_ret2;rw[a];exact⟨rfl,at_set (l:=r) (f.drewN _) d,(p.drewN _).setCell (by simp) _⟩
   have a:I9 (c::r)=(0,false,c::r):=by
    show I9 (c::r)=_;unfold I9;rw[y,E,R];by_cases g:mR c.toNat=true
    .have o:c=92:=by
      by_cases e:c=92
      .exact e
      exact absurd ⟨g,a0j.2 (λh=>e (a1w.1 (by simpa using(a2N.1 h))))⟩ D
     simp[o]
    simp[g]
   have T:mR c.toNat=false\/((c.toNat:Int)==92)=true:=by cases m:mR c.toNat<;>cases k:((c.toNat:Int)==92)<;>simp_all
   clear D;rcases T with g|o
   .go_wp2_with (first | (go_at_call 111;refine(kQ _ _ _ _ ⟨i,f,d⟩).mono ?_;rintro e w' ⟨rfl,n,rfl⟩)|(go_at_call 148;refine(Ba _ _).mono ?_;rintro e w' ⟨rfl,rfl⟩));go_ret2;rw[a];exact⟨rfl,⟨i,f.drewN _,d⟩,p.drewN _⟩
   cases g:mR c.toNat;all_goals
    go_wp2_with (first | (go_at_call 111;refine(kQ _ _ _ _ ⟨i,f,d⟩).mono ?_;rintro e w' ⟨rfl,n,rfl⟩)|(go_at_call 148;refine(Ba _ _).mono ?_;rintro e w' ⟨rfl,rfl⟩));go_ret2;rw[a];exact⟨rfl,⟨i,f.drewN _,d⟩,p.drewN _⟩
def tZ:Nat->LB->LB->LB × Bool × LB
 | 0,_,l=>([],false,l)
 | n+1,acc,l =>
   if aQ [34] l then (acc,true,aK [34] l)
   else if !(I9 l).2.1||decide (40<=acc.length) then ([],false,(I9 l).2.2)
   else tZ n (acc++[(I9 l).1]) (I9 l).2.2
def qm(l:LB):LB × Bool × LB :=
 if aQ [34] l then tZ (l.length+1) [] (aK [34] l) else ([],false,l)
def amN(wd l):(aK wd l).length<=l.length:=by unfold aK;split<;>simp
def Z8(l):(gK l).2.2.length<=l.length:=by
 unfold gK;cases l with
 | nil=>simp
 | cons c r =>
   dsimp only;split
   .simp
   split<;>simp
def ajK(l):(Ex l).2.2.length<=l.length:=a0h (Z8 _) (Z8 _)
def PV {wd l}(h:aQ wd l=true):(aK wd l).length+wd.length=l.length:=by unfold aQ at h;have:=(a2y.1 h).length_le;unfold aK;rw[a0m h];simp;omega
def ao4(l)(h:(I9 l).2.1=true):(I9 l).2.2.length<l.length:=by
 unfold I9 at h |-;by_cases d:aQ [92,34] l=true
 .rw[a0m d];have:=PV d;simp at this |-;omega
 rw[a0n d]at h |-;by_cases b:aQ [92,92] l=true
 .rw[a0m b];have:=PV b;simp at this |-;omega
 rw[a0n b]at h |-;by_cases a:aQ [92,120] l=true
 .rw[a0m a];have:=PV a;have:=ajK (aK [92,120] l);simp at *;omega
 rw[a0n a]at h |-;cases l with
 | nil=>simp at h
 | cons c r =>
   dsimp only at h |-;split at h
   .simp at h
   rename_i e;rw[a0n e];simp
def Z9(b t l w)(h:At w b t l) :
 zF 129 #[zP b] w λe w'=>e=zQ #[.string (bs (qm l).1),.bool (qm l).2.1]/\At w' b t (qm l).2.2/\aB [b] w w':=by
 have hb:=h.lt;have H:=h;clear h;obtain⟨i0,hi,gT,fM,gD⟩:=info_parts ak6;delta zF;go_in;go_wp2_with fail;refine(gX b t l [34] _ H (by simp)).mono ?_;rintro e C ⟨rfl,q,r⟩;cases J:aQ [34] l
 case false =>
  have s:qm l=([],false,l):=by show qm l=_;unfold qm;rw[J];rfl
  rw[jL J]at q;have B:At C b t l/\aB [b] w C:=⟨q,r⟩;clear q r;go_wp2;go_ret2;rw[s];exact⟨rfl,B.1,B.2⟩
 case true =>
 have s:qm l=tZ (l.length+1) [] (aK [34] l):=by show qm l=_;unfold qm;rw[J];rfl
 have nC:=r.size;have B:At C b t (aK [34] l)/\aB [b] w C:=⟨q,r⟩;clear q r;go_wp2_with fail;go_loopg [4] (l.length+1) (λk v wr=>∃acc a g cap,v=zS g acc.length cap/\wr.ownsRow w.heap.size 5 1 v acc.length (byt acc)/\acc.length<=40/\a.length<k/\tZ k acc a=tZ (l.length+1) [] (aK [34] l)/\At wr b t a/\aB [b] w wr);case atStart=>refine⟨[],aK [34] l,_,_,rfl,?_,by simp,Nat.lt_succ_of_le (amN _ _),rfl,B.1.aC zG (by simp),B.2.alloc _⟩;exact World.ownsRow_lit _ #[] 0 nC (by unfold maxLen;omega) (by simp)
 case round =>
  obtain⟨acc,a,g,cap,rfl,aS,_,_,W,Z,bH⟩:=hrel;have R:wr.ownsRow w.heap.size 5 1 (zS g acc.length cap) acc.length (byt acc):=aS;have y:tZ gk acc a=tZ (l.length+1) [] (aK [34] l):=W;have Ha:At wr b t a:=Z;have T:aB [b] w wr:=bH;clear aS W Z bH;obtain⟨m,rfl⟩:∃m,gk=m+1:=⟨gk-1,by omega⟩;go_wp2_with fail;refine(gX b t a [34] _ Ha (by simp)).mono ?_;rintro e d ⟨rfl,p,i⟩;cases G:aQ [34] a
  case true =>
   have o:qm l=(acc,true,aK [34] a):=by show qm l=_;rw[s,<-y];unfold tZ;rw[G];rfl
   have A:At d b t (aK [34] a)/\aB [b] w d:=⟨p,T.trans i⟩;have U9:=fG R i (by simp;omega);have hcv:=run_convert_bytes_back (P:=Tryz.prog) d 90 9 5 (zA g) cap acc Tryz.underlying90 Tryz.underlying5 Tryz.underlying9 (λj hj=>by refine U9.cells rfl j _ ?_;simp[byt,hj]);clear p i U9;go_wp2;go_ret2;rw[o];exact⟨rfl,A.1,A.2⟩
  case false =>
  rw[jL G]at p;have A:At d b t a:=p;have U:aB [b] w d:=T.trans i;have z:d.ownsRow w.heap.size 5 1 (zS g acc.length cap) acc.length (byt acc):=fG R i (by simp;omega);have E:aQ [34] a=false:=G;clear p i Ha T R;go_wp2_with fail;refine(PU b t a _ A).mono ?_;rintro e n ⟨rfl,Y,M⟩;have F:At n b t (I9 a).2.2:=Y;have D:aB [b] w n:=U.trans M;have c:n.ownsRow w.heap.size 5 1 (zS g acc.length cap) acc.length (byt acc):=fG z M (by simp;omega);have Sk:=D.size;clear Y M A U z G;cases f:(I9 a).2.1
  case false =>
   have o:qm l=([],false,(I9 a).2.2):=by show qm l=_;rw[s,<-y];unfold tZ;rw[E,f];rfl
   go_wp2;go_ret2;rw[o];exact⟨rfl,F,D⟩
  case true =>
  have Af:=ao4 a f;by_cases Eu:40<=acc.length
  .have o:qm l=([],false,(I9 a).2.2):=by show qm l=_;rw[s,<-y];unfold tZ;rw[E,f];simp[Eu]
   go_wp2;go_ret2;rw[o];exact⟨rfl,F,D⟩
  have u:tZ m (acc++[(I9 a).1]) (I9 a).2.2=tZ (l.length+1) [] (aK [34] l):=by
   show tZ m (acc++[(I9 a).1]) (I9 a).2.2=_;rw[<-y];conv=>rhs;unfold tZ
   rw[E,f];simp[Eu]
  clear y E;generalize hsv:I9 a=x at *;obtain⟨I,_,x3⟩:=x;simp only at f Af u F;subst f;have O:=c;go_wp2_with (first | (at_builtin;refine wpList_append_own _ rfl _ _ 90 rfl w.heap.size 5 i0 (.int .u8 0) 1 1 Tryz.underlying90 hi gT fM gD rfl (by decide) (zS g acc.length cap) _ _ rfl (O.alloc _) (zA n.heap.size) 1 1 [.int .u8 I.toNat] rfl rfl (cell_one_new _ _ _) (λx V=>by simp at V;subst V;rfl) (by unfold maxLen;omega) (by omega) (by simp;omega) ?_;intro _ _ bT Sl N));go_roundg m
  .obtain⟨g',xK,L⟩:=Uz bT (λe=>by have:=N.1 e;simp at this);subst L;refine⟨acc++[I],x3,g',xK,by simp,?_,by simp;omega,by omega,u,?_,?_⟩
   .simpa[byt] using bT
   .refine At.aC (S:=[g]) ?_ (aB.Bt (w:=n.alloc (.cells #[.int .u8 I.toNat] 5)) Sl) ?_
    .exact F.aC zG (by simp)
    have:=(c.lt g rfl).1;simp;omega
   exact(D.alloc _).grown Sl (λk X=>by simp[Value.ownBlock]at X;subst X;exact Or.inr (c.lt g rfl).1)
  omega
def uP:LB->Nat->Nat × Bool × LB
 | [],n=>(n,true,[])
 | c::r,n=>if nG c then (if 99999<n*10+(c.toNat-48) then (0,false,c::r) else uP r (n*10+(c.toNat-48))) else (n,true,c::r)
def lI(l:LB):Nat × Bool × LB :=
 if aQ [48] l then (0,true,aK [48] l) else if !(lW (hd l)) then (0,false,l) else uP l 0
def Yh(b t l w)(h:At w b t l) :
 zF 127 #[zP b] w λe w'=>e=zQ #[zI (lI l).1,.bool (lI l).2.1]/\At w' b t (lI l).2.2/\aB [b] w w':=by
 have H:=h;clear h;delta zF;go_in;go_wp2_with fail;refine(gX b t l [48] _ H (by simp)).mono ?_;rintro e u ⟨rfl,p,z⟩;cases y:aQ [48] l
 case true =>
  have g:lI l=(0,true,aK [48] l):=by show lI l=_;unfold lI;rw[y];rfl
  have j:At u b t (aK [48] l)/\aB [b] w u:=⟨p,z⟩;clear p z;go_wp2;go_ret2;rw[g];exact⟨rfl,j.1,j.2⟩
 case false =>
 rw[jL y]at p;have j:At u b t l:=p;have C:aB [b] w u:=z;have N:aQ [48] l=false:=y;clear p z y;go_wp2_with fail;refine(kQ b t l _ j).mono ?_;rintro e w' ⟨rfl,n,rfl⟩;cases G:lW (hd l)
 case false =>
  have g:lI l=(0,false,l):=by show lI l=_;unfold lI;rw[N,G];rfl
  go_wp2_with (go_at_call 125;refine(iT _ _).mono ?_;rintro e w' ⟨rfl,rfl⟩);go_ret2;rw[g];exact⟨rfl,j.aC (S:=[]) (zK.drewN _) (by simp),C.drewN _⟩
 case true =>
 have g:lI l=uP l 0:=by show lI l=_;unfold lI;rw[N,G];rfl
 go_wp2_with (go_at_call 125;refine(iT _ _).mono ?_;rintro e w' ⟨rfl,rfl⟩);go_loopg [4] l.length (λk v wr=>∃(f:LB) (x:Nat),v=zI x/\x<=99999/\f.length<=k/\uP f x=uP l 0/\At wr b t f/\aB [b] w wr);exact⟨l,0,rfl,by omega,a0b _,rfl,j.aC (S:=[]) (zK.drewN _) (by simp),C.drewN _⟩
 .obtain⟨f,x,rfl,U,O,J,⟨i,m,L⟩,M⟩:=hrel;have:=m.c1;have:=m.fz 1;have:=m.2.2;have d:SC wr b t i:=m;have a:List.drop i t=f:=L;have A:uP f x=uP l 0:=J;have B:aB [b] w wr:=M;clear m L J M j C G;cases f with
  | nil =>
    have h0:hd []=0:=rfl;have o:lI l=(x,true,[]):=by show lI l=_;rw[g,<-A];rfl
    go_wp2_with (first | (go_at_call 111;refine(kQ _ _ _ _ ⟨i,d,a⟩).mono ?_;rintro e w' ⟨rfl,n,rfl⟩)|(go_at_call 125;refine(iT _ _).mono ?_;rintro e w' ⟨rfl,rfl⟩));go_ret2;rw[o];exact⟨rfl,⟨i,d.drewN _,a⟩,B.drewN _⟩
  | cons c r =>
    have Z:=JQ c r;have V:=u8i c;have R:i<t.length:=at_len a;cases D:lW (c.toNat:Int)
    case false =>
     have o:lI l=(x,true,c::r):=by show lI l=_;rw[g,<-A];unfold uP;simp[nG,D]
     go_wp2_with (first | (go_at_call 111;refine(kQ _ _ _ _ ⟨i,d,a⟩).mono ?_;rintro e w' ⟨rfl,n,rfl⟩)|(go_at_call 125;refine(iT _ _).mono ?_;rintro e w' ⟨rfl,rfl⟩));go_ret2;rw[o];exact⟨rfl,⟨i,d.drewN _,a⟩,B.drewN _⟩
    case true =>
     have hb:48<=(c.toNat:Int)/\(c.toNat:Int)<=57:=by simpa[lW] using D
     obtain⟨P,T⟩:=hb;have I:uP (c::r) x=(if 99999<x*10+(c.toNat-48) then (0,false,c::r) else uP r (x*10+(c.toNat-48))):=by
      conv=>lhs;unfold uP
      simp[nG,D]
     have s:uP (c::r) x=(if 99999<x*10+(c.toNat-48) then (0,false,c::r) else uP r (x*10+(c.toNat-48))):=I;clear I;simp only[a0r]at O;by_cases q:99999<x*10+(c.toNat-48)
     .have o:lI l=(0,false,c::r):=by show lI l=_;rw[g,<-A,s,a0m q]
      have E:(99999:Int)<(x:Int)*10+((c.toNat:Int)-48):=by omega
      go_wp2_with (first | (go_at_call 111;refine(kQ b t (c::r) _ (At.aC (S:=[]) ⟨i,d,a⟩ (by first | exact zK|exact zK.drewN _) (by simp))).mono ?_;rintro e w' ⟨rfl,n,rfl⟩)|(go_at_call 125;refine(iT _ _).mono ?_;rintro e w' ⟨rfl,rfl⟩));go_ret2;rw[o];exact⟨rfl,⟨i,d.drewN _,a⟩,B.drewN _⟩
     have F:uP r (x*10+(c.toNat-48))=uP l 0:=by show uP r _=_;rw[<-A,s,a0n q]
     have E:(x:Int)*10+((c.toNat:Int)-48)<=99999:=by omega
     go_wp2_with (first | (go_at_call 111;refine(kQ b t (c::r) _ (At.aC (S:=[]) ⟨i,d,a⟩ (by first | exact zK|exact zK.drewN _) (by simp))).mono ?_;rintro e w' ⟨rfl,n,rfl⟩)|(go_at_call 125;refine(iT _ _).mono ?_;rintro e w' ⟨rfl,rfl⟩));go_roundg (gk-1)
     .refine⟨r,x*10+(c.toNat-48),?_,by omega,by omega,F,at_set (l:=r) (d.drewN _) a,(B.drewN _).setCell (by simp) _⟩;congr 1;omega
     omega
def jq(l:LB):Nat × Bool × LB :=
 if aQ [61,126] l then (2,true,aK [61,126] l)
 else if aQ [33,126] l then (3,true,aK [33,126] l)
 else if aQ [33,61] l then (1,true,aK [33,61] l)
 else (0,aQ [61] l,aK [61] l)
def acn(b t l w)(h:At w b t l) :
 zF 128 #[zP b] w λe w'=>e=zQ #[zI (jq l).1,.bool (jq l).2.1]/\At w' b t (jq l).2.2/\aB [b] w w':=by
 delta zF;go_in;go_wp2_with fail;refine(gX _ _ _ [61,126] _ h (by simp)).mono ?_;rintro e g ⟨rfl,f,k⟩;cases j:aQ [61,126] l
 case true =>
  have a:jq l=(2,true,aK [61,126] l):=by show jq l=_;unfold jq;rw[j];rfl
  have m:At g b t (aK [61,126] l)/\aB [b] w g:=⟨f,k⟩;go_wp2;go_ret2;rw[a];exact⟨rfl,m.1,m.2⟩
 case false =>
 rw[jL j]at f;have q:=j;go_wp2_with fail;refine(gX _ _ _ [33,126] _ f (by simp)).mono ?_;rintro e p ⟨rfl,d,B⟩;have x:=k.trans B;cases n:aQ [33,126] l
 case true =>
  have a:jq l=(3,true,aK [33,126] l):=by show jq l=_;unfold jq;rw[q,n];rfl
  have u:=d;go_wp2;go_ret2;rw[a];exact⟨rfl,u,x⟩
 case false =>
 rw[jL n]at d;have D:=n;go_wp2_with fail;refine(gX _ _ _ [33,61] _ d (by simp)).mono ?_;rintro e o ⟨rfl,c,A⟩;have C:=x.trans A;cases i:aQ [33,61] l
 case true =>
  have a:jq l=(1,true,aK [33,61] l):=by show jq l=_;unfold jq;rw[q,D,i];rfl
  have s:=c;go_wp2;go_ret2;rw[a];exact⟨rfl,s,C⟩
 case false =>
 rw[jL i]at c;go_wp2_with fail;refine(gX _ _ _ [61] _ c (by simp)).mono ?_;rintro e v ⟨rfl,z,y⟩;have a:jq l=(0,aQ [61] l,aK [61] l):=by show jq l=_;unfold jq;rw[q,D,i];rfl
 go_wp2;go_ret2;rw[a];exact⟨rfl,z,C.trans y⟩
def bZ(wd l:LB):Int × Bool × LB :=
 if aQ wd l then (((lI (aK wd l)).1:Int),(lI (aK wd l)).2.1,(lI (aK wd l)).2.2) else (-1,true,l)
def Ey(b t l wd w)(h:At w b t l)(o:wd.length<=1048576) :
 zF 115 #[zP b,zT wd] w λe w'=>e=zQ #[zI (bZ wd l).1,.bool (bZ wd l).2.1]/\At w' b t (bZ wd l).2.2/\aB [b] w w':=by
 have H:=h;clear h;delta zF;go_in;go_wp2_with fail;refine(gX b t l wd _ H o).mono ?_;rintro e d ⟨rfl,a,f⟩;cases g:aQ wd l
 case false =>
  have i:bZ wd l=(-1,true,l):=by show bZ wd l=_;unfold bZ;rw[g];rfl
  rw[jL g]at a;have c:At d b t l/\aB [b] w d:=⟨a,f⟩;clear a f;go_wp2;go_ret2;rw[i];exact⟨rfl,c.1,c.2⟩
 case true =>
 have i:bZ wd l=(((lI (aK wd l)).1:Int),(lI (aK wd l)).2.1,(lI (aK wd l)).2.2):=by show bZ wd l=_;unfold bZ;rw[g];rfl
 have c:At d b t (aK wd l)/\aB [b] w d:=⟨a,f⟩;clear a f;go_wp2_with fail;refine(Yh b t _ _ c.1).mono ?_;rintro e j ⟨rfl,k,m⟩;have n:At j b t (lI (aK wd l)).2.2/\aB [b] w j:=⟨k,c.2.trans m⟩;clear k m;go_wp2;go_ret2;rw[i];exact⟨rfl,n.1,n.2⟩
abbrev CM:=LB × Nat × LB
def kF(l:LB):CM × Bool × LB :=
 let n:=l.takeWhile bK
 let l1:=l.dropWhile bK
 let k:=jq l1
 let v:=qm k.2.2
 ((n,k.1,v.1),aJ n&&k.2.1&&v.2.1,v.2.2)
def ac8(m:CM):Value:=.agg #[zT m.1,zI m.2.1,zT m.2.2]
def Va(b t l w)(h:At w b t l) :
 zF 116 #[zP b] w λe w'=>e=zQ #[ac8 (kF l).1,.bool (kF l).2.1]/\At w' b t (kF l).2.2/\aB [b] w w':=by
 have hb:=h.lt;have H:=h;clear h;delta zF;go_in;go_wp2_with fail;refine(vC b t l _ (H.aC zG (by simp))).mono ?_;rintro e s ⟨rfl,k,n⟩;have A:At s b t (l.dropWhile bK):=k;clear k;go_wp2_with fail;refine(acn b t _ _ A).mono ?_;rintro e B ⟨rfl,j,p⟩;have d:=n.trans p;clear n p;go_wp2_with fail;refine(Z9 b t _ _ j).mono ?_;rintro e a ⟨rfl,i,m⟩;have f:=d.trans m;clear d m j;have c:=(f.block w.heap.size (by simp) (by simp;omega)).trans (heap_alloc_new w _);have hz:=f.size;have z:aB [b] w a:=((aB.refl [b] w).alloc _).trans f;have r:At a b t (kF l).2.2:=i;clear f i;have ca:zC a w.heap.size 0 (.string ⟨#[]⟩):=by simp[World.cell?,c]
 have cb:zC a w.heap.size 1 (zI 0):=by simp[World.cell?,c]
 have cc:zC a w.heap.size 2 (.string ⟨#[]⟩):=by simp[World.cell?,c]
 have E:∀o,a.frozen? (zB w.heap.size o)=false:=by intro o;simp[World.frozen?,c]
 have g:w.heap.size<a.heap.size:=by simp at hz;omega
 have q:kF l=((l.takeWhile bK,(jq (l.dropWhile bK)).1,(qm (jq (l.dropWhile bK)).2.2).1),aJ (l.takeWhile bK)&&(jq (l.dropWhile bK)).2.1&&(qm (jq (l.dropWhile bK)).2.2).2.1,(qm (jq (l.dropWhile bK)).2.2).2.2):=rfl;clear c hz;generalize qm (jq (l.dropWhile bK)).2.2=sv at *;generalize jq (l.dropWhile bK)=x at *;generalize l.takeWhile bK=nm at *;obtain⟨u,D,C⟩:=sv;obtain⟨k1,k2,F⟩:=x;cases y:aJ nm<;>cases k2;all_goals
  go_wp2;refine bodyPost_ret (v:=.tuple #[ac8 (nm,k1,u),.bool _]) (by simp[results,Tryz.results116,go_sem,ac8,ca,cb,cc,g]<;>rfl) rfl ?_;rw[q];refine⟨by simp[y],?_,?_⟩
  .rw[q]at r;exact r.aC (S:=[w.heap.size]) ((((zK.setCell (by simp) _).setCell (by simp) _).setCell (by simp) _).alloc _) (by simp;omega)
  exact(((z.setCell (by simp) _).setCell (by simp) _).setCell (by simp) _).alloc _
def aaa(v L n w)(h:RS 0 w v L) :
 zF 58 #[v,zT n] w λe w'=>e=zR (.bool (L.contains n))/\w=w':=by
 obtain⟨a,cap,rfl,u,t,f⟩:=h;have p:=f;clear f;have q:=aT;delta zF;go_in;go_wp2;go_loopg [9] L.length (λk i wr=>∃j,j+k=L.length/\i=zI j/\wr=w/\(L.take j).contains n=false);exact⟨0,by omega,rfl,rfl,by simp⟩
 .obtain⟨j,r,rfl,o,b⟩:=hrel;subst o;have d:(L.take j).contains n=false:=b;clear b;by_cases l:j<L.length
  .obtain⟨g,off,rfl,_,s⟩:=p j l;cases he:(L[j]==n)
   .have m:(L.take (j+1)).contains n=false:=by
     show(L.take (j+1)).contains n=false;have b:=d;rw[a0F l];simp only[a2B,a1g,a0e,a0w]at b |-;intro h;rcases h with h|h
     .exact b h
     rw[h]at he;simp at he
    go_wp2;go_roundg (gk-1);exact⟨j+1,by omega,by go_num,rfl,m⟩;omega
   have c:L.contains n=true:=by show L.contains n=true;rw[a2B,a1E,<-a0W.1 he];exact a0u _
   go_wp2;go_ret;exact⟨dD c.symm,rfl⟩
  have c:L.contains n=false:=by have:=d;rw[a0C (by omega)]at this;exact this
  go_wp2;go_ret;exact⟨dD c.symm,rfl⟩
def lJ(n:LB):List LB->List LB × Bool->List LB × Bool
 | [],s=>s
 | x::r,s=>lJ n r (if !s.2&&Op.bytesLess n x then (s.1++[n]++[x],true) else (s.1++[x],s.2))
def uf(L:List LB)(n:LB):List LB :=
 if (lJ n L ([],false)).2 then (lJ n L ([],false)).1 else (lJ n L ([],false)).1++[n]
theorem aco(v L n w)(h:RS 0 w v L)(hL:L.length<=1000) :
 Calls Tryz.prog 126 #[v,.string (bs n)] w λe w'=>∃v',e=.returned v'/\SL w.heap.size w' v' (uf L n)/\aB [] w w':=by
 obtain⟨a,cap,rfl,_,_,J⟩:=h;have U:=J;clear J;have:=aT;go_in;go_wp2;go_loopg [5,6,12] L.length (λk v p i wr=>∃(j:Nat) (acc:List LB) (pb:Bool) (g cap:Nat),j+k=L.length/\i=.int .i64 j/\p=.bool pb/\v=.slice (some ⟨g,0,none⟩) acc.length cap/\SL w.heap.size wr v acc/\w.heap.size<=g/\acc.length<=j+pb.toNat/\lJ n (L.drop j) (acc,pb)=lJ n L ([],false)/\aB [] w wr);exact⟨0,[],false,_,_,by omega,rfl,rfl,rfl,World.ownsRow_lit _ #[] 0 (a0b _) (by unfold maxLen;omega) (by simp),a0b _,by simp,by simp,zJ⟩
 .obtain⟨j,acc,pb,g,r,Y,rfl,rfl,rfl,I,Z,N,o,E⟩:=hrel;have:=E.size;have:=Bool.toNat_le pb;have u:SL w.heap.size wr (.slice (some ⟨g,0,none⟩) acc.length r) acc:=I;have f:lJ n (L.drop j) (acc,pb)=lJ n L ([],false):=o;have q:aB [] w wr:=E;clear I o E;by_cases M:j<L.length
  .obtain⟨R,off,rfl,_,H⟩:=U j M;have:wr.cell? ⟨R,off+j,none⟩=some (.string (bs L[j])):=by rw[q.cell (World.block_lt_of_cell? w _ H) (by simp)];exact H
   clear H;have y:=a0k M;generalize L[j]=x at *;cases m:(!pb&&Op.bytesLess n x)
   .have d:lJ n (L.drop (j+1)) (acc++[x],pb)=lJ n L ([],false):=by
     show lJ n (L.drop (j+1)) (acc++[x],pb)=_;rw[<-f,y];conv=>rhs;unfold lJ
     simp only[m];rfl
    clear f y;have T:pb=true\/(pb=false/\Op.bytesLess n x=false):=by cases pb<;>simp_all
    clear m;rcases T with rfl|⟨rfl,m⟩;all_goals
     go_wp2_with (first | (at_builtin;refine rA _ rfl _ _ rfl w.heap.size (.slice (some ⟨g,0,none⟩) acc.length r) acc x wr.heap.size rfl (u.aC zG (by simp)) rfl (by simp) (by omega) (by simp;omega) ?_;intro s t z l b A));go_roundg (gk-1)
     .refine⟨j+1,acc++[x],_,s,t,by omega,by go_num,rfl,by simp,by simpa using l,A,by simp at N |-;omega,d,?_⟩;exact(q.alloc _).YN (base:=0) b (λk c=>by simp[Value.ownBlock]at c;omega)
     omega
   have V:pb=false:=by cases pb<;>simp_all
   have:Op.bytesLess n x=true:=by cases pb<;>simp_all
   subst V;have d:lJ n (L.drop (j+1)) (acc++[n]++[x],true)=lJ n L ([],false):=by
    show lJ n (L.drop (j+1)) (acc++[n]++[x],true)=_;rw[<-f,y];conv=>rhs;unfold lJ
    simp only[m];rfl
   clear f y m;go_wp2_with (first | (at_builtin;refine rA _ rfl _ _ rfl w.heap.size (.slice (some ⟨s,0,none⟩) (acc.length+1) t) (acc++[n]) x z.heap.size rfl (l.aC zG (by simp)) rfl (by simp) (by simp;omega) (by simp;omega) ?_;intro P F W S B C)|(at_builtin;refine rA _ rfl _ _ rfl w.heap.size (.slice (some ⟨g,0,none⟩) acc.length r) acc n wr.heap.size rfl (u.aC zG (by simp)) rfl (by simp) (by omega) (by simp;omega) ?_;intro s t z l b A;have D:=b.size;simp at D));go_roundg (gk-1)
   .refine⟨j+1,acc++[n]++[x],_,P,F,by omega,by go_num,rfl,by simp,by simpa using S,C,by simp at N |-;omega,d,?_⟩;exact(((q.alloc _).YN (base:=0) b (λk c=>by simp[Value.ownBlock]at c;omega)).alloc _).YN (base:=0) B (λk c=>by simp[Value.ownBlock]at c;omega)
   omega
  have d:lJ n L ([],false)=(acc,pb):=by show lJ _ L ([],false)=_;rw[<-f,a0i (by omega)];rfl
  clear f;cases pb
  .have G:uf L n=acc++[n]:=by show uf L n=_;unfold uf;rw[d];rfl
   go_wp2_with (first | (at_builtin;refine rA _ rfl _ _ rfl w.heap.size (.slice (some ⟨g,0,none⟩) acc.length r) acc n wr.heap.size rfl (u.aC zG (by simp)) rfl (by simp) (by omega) (by simp;omega) ?_;intro s t z l b A;have D:=b.size;simp at D));go_ret;rw[G];exact⟨_,rfl,l,(q.alloc _).YN (base:=0) b (λk c=>by simp[Value.ownBlock]at c;omega)⟩
  have G:uf L n=acc:=by show uf L n=_;unfold uf;rw[d];rfl
  go_wp2;go_ret;rw[G];exact⟨_,rfl,u,q⟩
def Vb(n):∀L s,(lJ n L s).1.length+s.2.toNat=s.1.length+L.length+(lJ n L s).2.toNat
 | [],s=>by simp[lJ]
 | x::r,(acc,p)=>by
   unfold lJ;by_cases h:(!p&&Op.bytesLess n x)=true
   .simp only[h,a0G];have:=Vb n r (acc++[n]++[x],true);simp at this h |-;rw[h.1];simp;omega
   simp only[h];have:=Vb n r (acc++[x],p);simp at this |-;omega
theorem aab(L n):(uf L n).length=L.length+1:=by unfold uf;have:=Vb n L ([],false);cases h:(lJ n L ([],false)).2<;>simp[h]at this |-<;>omega
def oH(acc:List LB)(n:LB):List LB:=if acc.contains n then acc else uf acc n
def DV(L:List LB):List LB:=L.foldl oH []
def ajL(acc n):(oH acc n).length<=acc.length+1:=by unfold oH;split<;>simp[aab]
theorem Yi(v L w)(h:RS 0 w v L)(H:L.length<=1000) :
 Calls Tryz.prog 114 #[v] w λe w'=>∃v',e=.returned v'/\SL w.heap.size w' v' (DV L)/\aB [] w w':=by
 obtain⟨a,cap,rfl,J,I,s⟩:=h;have E:=s;clear s;go_in;go_wp2;go_loopg [3,9] L.length (λk v i wr=>∃(j:Nat) (acc:List LB),j+k=L.length/\i=.int .i64 j/\SL w.heap.size wr v acc/\acc.length<=j/\(L.drop j).foldl oH acc=DV L/\aB [] w wr);exact⟨0,[],by omega,rfl,World.ownsRow_lit _ #[] 0 (a0b _) (by unfold maxLen;omega) (by simp),by simp,by simp[DV],zJ⟩
 .obtain⟨j,acc,F,rfl,q,M,b,l⟩:=hrel;have hz:=l.size;have d:=q;have m:(L.drop j).foldl oH acc=DV L:=b;have f:aB [] w wr:=l;clear q b l;by_cases u:j<L.length
  .obtain⟨C,off,rfl,_,o⟩:=E j u;have G:wr.cell? ⟨C,off+j,none⟩=some (.string (bs L[j])):=by rw[f.cell (World.block_lt_of_cell? w _ o) (by simp)];exact o
   clear o;have z:=a0k u;generalize L[j]=x at *;have c:(L.drop (j+1)).foldl oH (oH acc x)=DV L:=by rw[<-m,z];rfl
   clear m z;go_wp2_with fail;refine(aaa u3 acc x wr ((d.rs (by omega)).base (a1G _))).mono ?_;rintro e w' ⟨rfl,rfl⟩;cases y:acc.contains x
   .have n:oH acc x=uf acc x:=by show oH acc x=_;unfold oH;rw[y];rfl
    go_wp2_with fail;refine(aco u3 acc x wr ((d.rs (by omega)).base (a1G _)) (by omega)).mono ?_;rintro e p ⟨v',rfl,r,t⟩;have A:SL w.heap.size p v' (uf acc x):=r.base hz;have B:aB [] w p:=f.trans t;clear r t;go_wp2;go_roundg (gk-1)
    .rw[n]at c;exact⟨j+1,uf acc x,by omega,by go_num,A,by rw[aab];omega,c,B⟩
    omega
   have n:oH acc x=acc:=by show oH acc x=_;unfold oH;rw[y];rfl
   go_wp2;go_roundg (gk-1)
   .rw[n]at c;exact⟨j+1,acc,by omega,by go_num,d,by omega,c,f⟩
   omega
  have D:DV L=acc:=by show DV L=acc;rw[<-m,a0i (by omega)];rfl
  go_wp2;go_ret;rw[D];exact⟨_,rfl,d,f⟩
def uQ:Nat->List LB->LB->List LB × Bool × LB
 | 0,_,l=>([],false,l)
 | k+1,acc,l =>
   if !(acc.isEmpty)&&!(aQ [44] l) then (acc,true,l)
   else
    let l1:=if acc.isEmpty then l else aK [44] l
    let nm:=l1.takeWhile bK
    if !(aJ nm)||decide (4<=acc.length) then ([],false,l1.dropWhile bK)
    else uQ k (acc++[nm]) (l1.dropWhile bK)
def gL(l:LB):List LB × Bool × LB:=uQ 6 [] l
def Yj(b t l w)(h:At w b t l) :
 zF 113 #[zP b] w λe w'=>∃v',e=zQ #[v',.bool (gL l).2.1]/\SL w.heap.size w' v' (gL l).1/\(gL l).1.length<=4/\At w' b t (gL l).2.2/\aB [b] w w':=by
 have:=h.lt;have H:=h;clear h;delta zF;go_in;go_wp2_with fail;go_loopg [4] 6 (λk v wr=>∃(acc:List LB) (a:LB) (g cap:Nat),acc.length+k=6/\acc.length<=4/\v=zS g acc.length cap/\w.heap.size<=g/\SL w.heap.size wr v acc/\uQ k acc a=gL l/\At wr b t a/\aB [b] w wr);exact⟨[],l,_,_,by simp,by simp,rfl,a0b _,World.ownsRow_lit _ #[] 0 (a0b _) (by unfold maxLen;omega) (by simp),rfl,H.aC zG (by simp),zJ⟩
 .obtain⟨acc,a,g,cap,B,Yf,rfl,_,T,y,X,N⟩:=hrel;have D:SL w.heap.size wr (zS g acc.length cap) acc:=T;have Y:uQ gk acc a=gL l:=y;have F:At wr b t a:=X;have E:aB [b] w wr:=N;clear T y X N;obtain⟨m,rfl⟩:∃m,gk=m+1:=⟨gk-1,by omega⟩;have step:∀(c:LB) (q:World),c=(if acc.isEmpty then a else aK [44] a)->(acc.isEmpty=true\/aQ [44] a=true)->gL l=(if !(aJ (c.takeWhile bK))||decide (4<=acc.length) then ([],false,c.dropWhile bK) else uQ m (acc++[c.takeWhile bK]) (c.dropWhile bK)):=by
   intro c q e h;rw[<-Y];conv=>lhs;unfold uQ
   rw[a0n (by rcases h with h|h<;>simp[h]),<-e]
  have C:∀(c:LB) (q:World),c=(if acc.isEmpty then a else aK [44] a)->(acc.isEmpty=true\/aQ [44] a=true)->gL l=(if !(aJ (c.takeWhile bK))||decide (4<=acc.length) then ([],false,c.dropWhile bK) else uQ m (acc++[c.takeWhile bK]) (c.dropWhile bK)):=step;clear step;by_cases n:acc=[]
  .subst n;have d:=C a wr rfl (Or.inl rfl);have r:gL l=(if !(aJ (a.takeWhile bK))||decide (4<=([]:List LB).length) then ([],false,a.dropWhile bK) else uQ m ([]++[a.takeWhile bK]) (a.dropWhile bK)):=d;clear C d;simp only[a1e]at *;go_wp2_with fail;refine(vC b t a _ F).mono ?_;rintro e i ⟨rfl,A,o⟩;have u:At i b t (a.dropWhile bK):=A;have j:aB [b] w i:=E.trans o;have G:SL w.heap.size i (zS g 0 cap) []:=D.aC o (by simp;omega);have gD:=j.size;clear A o D F E;cases s:aJ (a.takeWhile bK)
   .have f:gL l=([],false,a.dropWhile bK):=by rw[r,s];rfl
    go_wp2;go_ret2;rw[f];exact⟨_,rfl,SL.nil _ _,by simp,u,j⟩
   have f:uQ m [a.takeWhile bK] (a.dropWhile bK)=gL l:=by rw[r,s];rfl
   go_wp2_with (first | (at_builtin;refine rA _ rfl _ _ rfl w.heap.size (zS g 0 cap) [] (a.takeWhile bK) i.heap.size rfl (G.aC zG (by simp)) rfl (by simp) (by simp) (by simp;omega) ?_;intro M P Z I x L));go_roundg m
   .refine⟨[a.takeWhile bK],_,M,P,by simp;omega,by simp,by simp,L,by simpa using I,f,?_,?_⟩
    .refine At.aC (S:=[g]) (u.aC zG (by simp)) (aB.Bt x) (by simp;omega)
    exact(j.alloc _).grown x (λk B=>by simp[Value.ownBlock]at B;omega)
   omega
  have:((acc.length:Int)==0)=false:=a0j.2 (by have:=a1O.2 n;omega);have z:acc.isEmpty=false:=by simpa using n
  go_wp2_with fail;refine(gX b t a [44] _ F (by simp)).mono ?_;rintro e q ⟨rfl,W,O⟩;have U:=D.aC O (by simp;omega);have J:aB [b] w q:=E.trans O;have p:SL w.heap.size q (zS g acc.length cap) acc:=U;have R:At q b t (aK [44] a):=W;clear W O U E D F;cases ht:aQ [44] a
  .have f:gL l=(acc,true,a):=by rw[<-Y];unfold uQ;simp[z,ht]
   rw[jL ht]at R;go_wp2;go_ret2;rw[f];exact⟨_,rfl,p,Yf,R,J⟩
  have d:=C (aK [44] a) wr (by rw[z];rfl) (Or.inr ht);have r:gL l=(if !(aJ ((aK [44] a).takeWhile bK))||decide (4<=acc.length) then ([],false,(aK [44] a).dropWhile bK) else uQ m (acc++[(aK [44] a).takeWhile bK]) ((aK [44] a).dropWhile bK)):=d;clear C d;go_wp2_with fail;refine(vC b t _ _ R).mono ?_;rintro e i ⟨rfl,A,o⟩;generalize aK [44] a=c at *;have u:At i b t (c.dropWhile bK):=A;have j:aB [b] w i:=J.trans o;have G:SL w.heap.size i (zS g acc.length cap) acc:=p.aC o (by simp;omega);have:=j.size;clear A o p J;cases s:aJ (c.takeWhile bK)
  .have f:gL l=([],false,c.dropWhile bK):=by rw[r,s];rfl
   go_wp2;go_ret2;rw[f];exact⟨_,rfl,SL.nil _ _,by simp,u,j⟩
  by_cases V:4<=acc.length
  .have f:gL l=([],false,c.dropWhile bK):=by rw[r,s];simp[V]
   go_wp2;go_ret2;rw[f];exact⟨_,rfl,SL.nil _ _,by simp,u,j⟩
  have f:uQ m (acc++[c.takeWhile bK]) (c.dropWhile bK)=gL l:=by rw[r,s];simp[V]
  go_wp2_with (first | (at_builtin;refine rA _ rfl _ _ rfl w.heap.size (zS g acc.length cap) acc (c.takeWhile bK) i.heap.size rfl (G.aC zG (by simp)) rfl (by simp) (by omega) (by simp;omega) ?_;intro M P Z I x L));go_roundg m
  .refine⟨acc++[c.takeWhile bK],_,M,P,by simp;omega,by simp;omega,by simp,L,by simpa using I,f,?_,?_⟩
   .refine At.aC (S:=[g]) (u.aC zG (by simp)) (aB.Bt x) (by simp;omega)
   exact(j.alloc _).grown x (λk B=>by simp[Value.ownBlock]at B;omega)
  omega
end
section
variable {a w w':World} {base' cb n rb:Nat} {S:LN} {v vr vt:Value} {L:List CM} {tmps:Array Value} {e:TypeId} {xs:List Value}
structure RV where
 d:Int
 rc:LB
 tb:Bool
 ek:Value
 wt:Int
 ev:Int
 rp:Int
 iJ:Value
 co:Bool
def RV.cells(r:RV):Array Value:=#[zI r.d,zT r.rc,.bool r.tb,r.ek,zI r.wt,zI r.ev,zI r.rp,r.iJ,.bool r.co]
def RT(w:World)(rb:Nat)(r:RV):Prop:=w.heap[rb]?=some (.cells r.cells 125 (0,0))
theorem RT.lt {r}(h:RT w rb r):rb<w.heap.size:=(a0c.1 h).1
theorem RT.cell {r}(h:RT w rb r)(o):w.cell? (zB rb o)=r.cells[o]?:=by unfold RT at h;simp[World.cell?,h]
def RT.all {d wt ev rp rc tb co x y}(h:RT w rb ⟨d,rc,tb,x,wt,ev,rp,y,co⟩):zC w rb 0 (zI d)/\zC w rb 1 (zT rc)/\zC w rb 2 (.bool tb)/\zC w rb 3 x/\zC w rb 4 (zI wt)/\zC w rb 5 (zI ev)/\zC w rb 6 (zI rp)/\zC w rb 7 y/\zC w rb 8 (.bool co):=⟨h.cell 0,h.cell 1,h.cell 2,h.cell 3,h.cell 4,h.cell 5,h.cell 6,h.cell 7,h.cell 8⟩
theorem RT.fz {r}(h:RT w rb r)(o):w.frozen? (zB rb o)=false:=by unfold RT at h;simp[World.frozen?,h]
theorem RT.aC {r}(h:RT w rb r)(f:aB S w w')(a:rb∉S):RT w' rb r :=
 (f.block rb h.lt a).trans h
theorem RT.set {r}(h:RT w rb r)(o v r')(e:r'.cells=r.cells.setIfInBounds o v):RT (w.setCell (zB rb o) v) rb r':=by unfold RT at *;simp[World.setCell,a0v,h,e]
theorem RT.drewN {r}(h:RT w rb r)(n):RT (w.drewN n) rb r:=h
def eZ(l:LB):LB × Bool × LB :=
 if aQ [45] l then ([45],true,aK [45] l) else (l.takeWhile bK,aJ (l.takeWhile bK),l.dropWhile bK)
def Sm(b rb t l r w)(h:At w b t l)(m:RT w rb r)(y:b≠rb) :
 zF 92 #[zP b,zP rb] w λe w'=>e=zR (.bool (eZ l).2.1)/\At w' b t (eZ l).2.2/\RT w' rb { r with rc:=(eZ l).1 }/\aB [b,rb] w w':=by
 have H:=h;have HR:RT w rb r:=m;delta zF;go_in;go_wp2_with fail;refine(gX b t l [45] _ H (by simp)).mono ?_;rintro e c ⟨rfl,d,f⟩;have a:=HR.aC f (by simp;omega);cases j:aQ [45] l
 case true =>
  have o:eZ l=([45],true,aK [45] l):=by show eZ l=_;unfold eZ;rw[j];rfl
  have c1:zC c rb 1 (zT r.rc):=a.cell 1;have u:=a.fz 1;have k:At c b t (aK [45] l)/\aB [b,rb] w c:=⟨d,f.mono (by simp;omega)⟩;have v:RT c rb r:=a;go_wp2;go_ret;rw[o];exact⟨rfl,k.1.aC (S:=[rb]) (zK.setCell (by simp) _) (by simp;omega),v.set 1 _ _ rfl,k.2.setCell (by simp) _⟩
 case false =>
 have o:eZ l=(l.takeWhile bK,aJ (l.takeWhile bK),l.dropWhile bK):=by show eZ l=_;unfold eZ;rw[j];rfl
 rw[jL j]at d;have k:At c b t l:=d;go_wp2_with fail;refine(vC b t l _ k).mono ?_;rintro e g ⟨rfl,p,n⟩;have i:=a.aC n (by simp;omega);have:zC g rb 1 (zT r.rc):=i.cell 1;have:=i.fz 1;have q:At g b t (l.dropWhile bK)/\aB [b,rb] w g:=⟨p,(f.trans n).mono (by simp;omega)⟩;have s:RT g rb r:=i;go_wp2;go_ret;rw[o];exact⟨rfl,q.1.aC (S:=[rb]) (zK.setCell (by simp) _) (by simp;omega),s.set 1 _ _ rfl,q.2.setCell (by simp) _⟩
structure ByR where
 tells:Bool
 names:List LB
 ok:Bool
 rest:LB
def lK(l:LB):ByR :=
 if aQ [32,98,121,32] l then
  let l1:=aK [32,98,121,32] l
  if aQ [45] l1 then ⟨true,[],true,aK [45] l1⟩
  else ⟨true,DV (gL l1).1,(gL l1).2.1,(gL l1).2.2⟩
 else ⟨false,[],true,l⟩
def agY(b rb t l r w)(h:At w b t l)(F:RT w rb r)(bJ:b≠rb)(N:r.tb=false)(O:r.ek=zN) :
 zF 93 #[zP b,zP rb] w λe w'=>e=zR (.bool (lK l).ok)/\At w' b t (lK l).rest/\(∃v,RT w' rb { r with tb:=(lK l).tells,ek:=v }/\SL w.heap.size w' v (lK l).names)/\aB [b,rb] w w':=by
 obtain⟨d,rc,_,_,wt,ev,rp,iJ,co⟩:=r;simp only at N O;subst N O;have:=F.lt;have H:=h;have HR:RT w rb ⟨d,rc,false,zN,wt,ev,rp,iJ,co⟩:=F;clear h F;delta zF;go_in;go_wp2_with fail;refine(gX b t l [32,98,121,32] _ H (by simp)).mono ?_;rintro e j ⟨rfl,g,i⟩;have c:=HR.aC i (by simp;omega);cases z:aQ [32,98,121,32] l
 case false =>
  have q:lK l=⟨false,[],true,l⟩:=by show lK l=_;unfold lK;rw[z];rfl
  rw[jL z]at g;have u:At j b t l/\aB [b,rb] w j:=⟨g,i.mono (by simp;omega)⟩;have B:RT j rb ⟨d,rc,false,zN,wt,ev,rp,iJ,co⟩:=c;clear g i c;go_wp2;go_ret;rw[q];exact⟨rfl,u.1,⟨_,B,SL.nil _ _⟩,u.2⟩
 case true =>
 have c2:zC j rb 2 (.bool false):=c.cell 2;have f2:=c.fz 2;generalize T:aK [32,98,121,32] l=a at *;have u:At j b t a:=g;have P:aB [b,rb] w j:=i.mono (by simp;omega);have B:RT j rb ⟨d,rc,false,zN,wt,ev,rp,iJ,co⟩:=c;have f:aK [32,98,121,32] l=a/\aQ [32,98,121,32] l=true:=⟨T,z⟩;clear g i c T z;go_wp2_with fail;have c:=B.set 2 (.bool true) ⟨d,rc,true,zN,wt,ev,rp,iJ,co⟩ rfl;have g:=u.aC (S:=[rb]) (zK.setCell (p:=(zB rb 2)) (by simp) (.bool true)) (by simp;omega);have i:=P.setCell (p:=(zB rb 2)) (by simp) (.bool true);refine(gX b t a [45] _ g (by simp)).mono ?_;rintro e m ⟨rfl,n,I⟩;have U:=c.aC I (by simp;omega);have o:=i.trans (I.mono (S':=[b,rb]) (by simp;omega));have R:aB [b,rb] w m:=o;have E:RT m rb ⟨d,rc,true,zN,wt,ev,rp,iJ,co⟩:=U;clear g c i I U o c2 f2 u P B;cases D:aQ [45] a
 case true =>
  have q:lK l=⟨true,[],true,aK [45] a⟩:=by show lK l=_;unfold lK;rw[f.1,f.2];simp[D]
  have C:At m b t (aK [45] a):=n;clear n;go_wp2;go_ret;rw[q];exact⟨rfl,C,⟨_,E,SL.nil _ _⟩,R⟩
 case false =>
 have q:lK l=⟨true,DV (gL a).1,(gL a).2.1,(gL a).2.2⟩:=by show lK l=_;unfold lK;rw[f.1,f.2];simp[D]
 rw[jL D]at n;have C:At m b t a:=n;clear n D;go_wp2_with fail;refine(Yj b t a _ C).mono ?_;rintro e x ⟨v',rfl,X,_,V,G⟩;have Z:=E.aC G (by simp;omega);have W:aB [b,rb] w x:=R.trans (G.mono (S':=[b,rb]) (by simp;omega));have J:SL m.heap.size x v' (gL a).1:=X;have H3:At x b t (gL a).2.2:=V;have PZ:RT x rb ⟨d,rc,true,zN,wt,ev,rp,iJ,co⟩:=Z;clear X V G Z C E;go_wp2_with fail;refine(Yi v' _ _ ((J.rs (by omega)).base (a1G _)) (by omega)).mono ?_;rintro e k ⟨v4,rfl,Y,y⟩;have A:=PZ.aC y (by simp);have:zC k rb 3 zN:=A.cell 3;have:=A.fz 3;have M:aB [b,rb] w k:=W.trans y.nil;have s:SL w.heap.size k v4 (DV (gL a).1):=Y.base W.size;have H4:At k b t (gL a).2.2:=H3.aC y (by simp);have L:RT k rb ⟨d,rc,true,zN,wt,ev,rp,iJ,co⟩:=A;clear Y y A;obtain⟨a4,Kq,rfl⟩:=s.shape;go_wp2;go_ret;rw[q];refine⟨rfl,H4.aC (S:=[rb]) (zK.setCell (by simp) _) (by simp;omega),⟨.slice a4 (DV (gL a).1).length Kq,L.set 3 _ _ rfl,?_⟩,M.setCell (by simp) _⟩;exact s.aC (S:=[rb]) (zK.setCell (by simp) _) (by simp;omega)
structure TmR where
 wt:Int
 ev:Int
 rp:Int
 ok:Bool
 rest:LB
def qo:LB:=[32,119,97,105,116,32]
def pV:LB:=[32,101,118,101,114,121,32]
def rO:LB:=[32,114,101,112,101,97,116,32]
def dN(l:LB):TmR :=
 let a:=bZ qo l
 let b:=bZ pV a.2.2
 let c:=bZ rO b.2.2
 ⟨a.1,b.1,c.1,a.2.1&&b.2.1&&c.2.1,c.2.2⟩
def aac(b rb t l r w)(h:At w b t l)(f:RT w rb r)(V:b≠rb) :
 zF 94 #[zP b,zP rb] w λe w'=>e=zR (.bool (dN l).ok)/\At w' b t (dN l).rest/\RT w' rb { r with wt:=(dN l).wt,ev:=(dN l).ev,rp:=(dN l).rp }/\aB [b,rb] w w':=by
 have H:Z_ (At w b t l):=h;have HR:Z_ (RT w rb r):=f;clear h f;delta zF;go_in;go_wp2_with fail;refine(Ey b t l qo _ H.o (by simp[qo])).mono ?_;rintro e n ⟨rfl,s,v⟩;have j:Z_ (At n b t (bZ qo l).2.2/\aB [b] w n):=⟨s,v⟩;clear s v;go_wp2_with fail;refine(Ey b t _ pV _ j.o.1 (by simp[pV])).mono ?_;rintro e m ⟨rfl,q,A⟩;have i:Z_ (At m b t (bZ pV (bZ qo l).2.2).2.2/\aB [b] w m):=⟨q,j.o.2.trans A⟩;clear q A;go_wp2_with fail;refine(Ey b t _ rO _ i.o.1 (by simp[rO])).mono ?_;rintro e c ⟨rfl,p,u⟩;have g:=i.o.2.trans u;have a:=HR.o.aC g (by simp;omega);have G:Z_ (aB [b,rb] w c):=g.mono (by simp;omega);have F:Z_ (dN l=⟨(bZ qo l).1,(bZ pV (bZ qo l).2.2).1,(bZ rO (bZ pV (bZ qo l).2.2).2.2).1,(bZ qo l).2.1&&(bZ pV (bZ qo l).2.2).2.1&&(bZ rO (bZ pV (bZ qo l).2.2).2.2).2.1,(bZ rO (bZ pV (bZ qo l).2.2).2.2).2.2⟩):=rfl;have I:Z_ (At c b t (bZ rO (bZ pV (bZ qo l).2.2).2.2).2.2):=p;clear p u g j i;generalize bZ rO (bZ pV (bZ qo l).2.2).2.2=z at *;generalize bZ pV (bZ qo l).2.2=y at *;generalize bZ qo l=x at *;obtain⟨k,D,O⟩:=x;obtain⟨C,B,N⟩:=y;obtain⟨M,L,J⟩:=z;obtain⟨d,rc,tb,ek,wt,ev,rp,iJ,co⟩:=r;have:zC c rb 4 (zI wt):=a.cell 4;have:zC c rb 5 (zI ev):=a.cell 5;have:zC c rb 6 (zI rp):=a.cell 6;have:=a.fz 4;have:=a.fz 5;have:=a.fz 6;have E:Z_ (RT c rb ⟨d,rc,tb,ek,wt,ev,rp,iJ,co⟩):=a;clear a HR;cases D<;>cases B;all_goals
  go_wp2;go_ret;rw[F.o];refine⟨by simp,?_,?_,?_⟩
  .exact I.o.aC (S:=[rb]) (((zK.setCell (by simp) _).setCell (by simp) _).setCell (by simp) _) (by simp;omega)
  .exact((E.o.set 4 _ ⟨d,rc,tb,ek,k,ev,rp,iJ,co⟩ rfl).set 5 _ ⟨d,rc,tb,ek,k,C,rp,iJ,co⟩ rfl).set 6 _ _ rfl
  exact((G.o.setCell (by simp) _).setCell (by simp) _).setCell (by simp) _
def Bb(m:CM):List Value:=[zT m.1,zI m.2.1,zT m.2.2]
def mv(M:List CM):List Value:=M.flatMap Bb
def ML(base:Nat)(w:World)(v:Value)(M:List CM):Prop:=w.ownsRow base 149 3 v M.length (mv M)
theorem ML.aC {base}(h:ML base w v L)(f:aB S w w')(a:∀k,k∈S->k<base):ML base w' v L:=fG h f a
theorem ML.nil(base w):ML base w zN []:=World.ownsRow_nil w base _ 3
def ao7:(Tryz.prog.info? 149).map (λi=>(i.zero,i.size,i.bytes))=some (some (.agg #[.string ByteArray.empty,zI 0,.string ByteArray.empty]),3,40):=by kernel_rfl
def Ik(w:World)(a b):((w.alloc a).alloc b).drew.heap[w.heap.size+1]?=some b:=by have:=heap_alloc_new (w.alloc a) b;rw[<-this];simp;rfl
def aB.fo {row}(h:w.grownBy w' row):aB row.toList w w' :=
 ⟨h.os,h.tape,h.output,h.size,λk a b=>h.block k a (λe=>b (by rw[<-e];simp))⟩
def tq:LB:=[32,105,102,32]
def wP:Nat->List CM->LB->List CM × Bool × LB
 | 0,acc,l=>(acc,false,l)
 | k+1,acc,l =>
   if aQ tq l then
    let x:=kF (aK tq l)
    if !x.2.1||decide (4<=acc.length) then (acc,false,x.2.2) else wP k (acc++[x.1]) x.2.2
   else (acc,true,l)
def IX(l:LB):List CM × Bool × LB:=wP 6 [] l
def Sr(b rb t l r w)(h:At w b t l)(R:RT w rb r)(bJ:b≠rb)(JI:r.iJ=zN) :
 zF 95 #[zP b,zP rb] w λe w'=>e=zR (.bool (IX l).2.1)/\At w' b t (IX l).2.2/\(∃v,RT w' rb { r with iJ:=v }/\ML w.heap.size w' v (IX l).1)/\(IX l).1.length<=4/\aB [b,rb] w w':=by
 obtain⟨d,rc,tb,ek,wt,ev,rp,_,co⟩:=r;simp only at JI;subst JI;have hb:=h.lt;have jW:=R.lt;have H:=h;have HR:=R;obtain⟨i0,hi,Qa,Yk,Il⟩:=info_parts ao7;delta zF;go_in;go_wp2_with fail;go_loopg [] 6 (λk wr=>∃(acc:List CM) (c:LB) (v:Value),acc.length+k=6/\acc.length<=4/\RT wr rb ⟨d,rc,tb,ek,wt,ev,rp,v,co⟩/\ML w.heap.size wr v acc/\wP k acc c=IX l/\At wr b t c/\aB [b,rb] w wr);exact⟨[],l,_,by simp,by simp,HR,ML.nil _ _,rfl,H,zK⟩
 .obtain⟨acc,c,v,hk,Z,zV,Ez,s,V,W⟩:=hrel;have Hr:=zV;have Hm:=Ez;have Hl:=s;have Ha:=V;have Hf:=W;obtain⟨m,rfl⟩:∃m,gk=m+1:=⟨gk-1,by omega⟩;go_wp2_with fail;refine(gX _ _ _ tq _ Ha (by simp[tq])).mono ?_;rintro e i ⟨rfl,u,y⟩;have G:=Hr.aC y (by simp;omega);have g:=Hm.aC y (by simp;omega);have P:aB [b,rb] w i:=Hf.trans (y.mono (by simp;omega));cases ht:aQ tq c
  case false =>
   have n:IX l=(acc,true,c):=by rw[<-Hl];unfold wP;simp[ht]
   rw[jL ht]at u;have q:At i b t c/\RT i rb ⟨d,rc,tb,ek,wt,ev,rp,v,co⟩/\ML w.heap.size i v acc:=⟨u,G,g⟩;go_wp2;go_ret;rw[n];exact⟨rfl,q.1,⟨_,q.2.1,q.2.2⟩,Z,P⟩
  case true =>
  have J:IX l=if !(kF (aK tq c)).2.1||decide (4<=acc.length) then (acc,false,(kF (aK tq c)).2.2) else wP m (acc++[(kF (aK tq c)).1]) (kF (aK tq c)).2.2:=by
   rw[<-Hl];conv=>lhs;unfold wP
   rw[a0m ht]
  have q:=u;have z:=G;have A:=g;go_wp2_with fail;refine(Va _ t _ _ q).mono ?_;rintro e f ⟨rfl,T,L⟩;generalize kF (aK tq c)=x at *;obtain⟨x1,x2,p⟩:=x;simp only at T J;have I:=z.aC L (by simp;omega);have JJ:=A.aC L (by simp;omega);have F:aB [b,rb] w f:=P.trans (L.mono (by simp;omega));obtain⟨a,cap,rfl⟩:=aW JJ;have c7:zC f rb 7 (.slice a acc.length cap):=I.cell 7;have f7:=I.fz 7;have H2:At f b t p:=T;have N:RT f rb ⟨d,rc,tb,ek,wt,ev,rp,.slice a acc.length cap,co⟩:=I;have j:ML w.heap.size f (.slice a acc.length cap) acc:=JJ;have gD:=F.size;have FJ:=N.lt;cases x2
  case false =>
   have n:IX l=(acc,false,p):=by rw[J];rfl
   unfold ac8;go_wp2;go_ret;rw[n];refine⟨rfl,H2.aC (S:=[]) ?_ (by simp),⟨_,N.aC (S:=[]) ?_ (by simp),j.aC (S:=[]) ?_ (by simp)⟩,Z,F.alloc _⟩;all_goals exact zJ
  case true =>
  by_cases h4:4<=acc.length
  .have n:IX l=(acc,false,p):=by rw[J];simp[h4]
   unfold ac8;go_wp2;go_ret;rw[n];refine⟨rfl,H2.aC (S:=[]) ?_ (by simp),⟨_,N.aC (S:=[]) ?_ (by simp),j.aC (S:=[]) ?_ (by simp)⟩,Z,F.alloc _⟩;all_goals exact zJ
  have n:wP m (acc++[x1]) p=IX l:=by rw[J];simp[h4]
  have X:Value.ownBlock (.slice a acc.length cap)≠some rb:=λe=>by have:=j.lt _ e;omega
  have ab:Value.ownBlock (.slice a acc.length cap)≠some b:=λe=>by have:=j.lt _ e;omega
  have am:Value.ownBlock (.slice a acc.length cap)≠some f.heap.size:=λe=>by have:=j.lt _ e;omega
  have g2:∀o O:Obj,((f.alloc o).alloc O).drew.frozen? (zB rb 7)=false:=λo O=>(((((aB.refl [] f).alloc o).alloc O).drew).frozen FJ (by simp)).trans f7;unfold ac8;obtain⟨D,C,B⟩:=x1;go_wp2_with fail;go_region_law ((refine step_append_lies _ (by rfl) _ _ _ (by rfl) w.heap.size 149 i0 _ 3 40 Tryz.underlying123 hi Qa Yk Il rfl (by omega) (.slice a acc.length cap) acc.length (mv acc) (by rfl) (by exact(j.alloc _).alloc _) (zA (f.heap.size+1)) 1 1 (Bb (D,C,B)) (by rfl) (by rfl) (World.news_of_block (cs:=(Bb (D,C,B)).toArray) (t:=149) (fr:=(0,0)) (by exact Ik _ _ _)) (by simp[Value.oneCell',Bb]) (by omega) (by unfold maxLen;omega) (by omega) (by simp;omega) (f.heap.size+2) (by simp) ?_;intro U Y E bT M V _;have c4:=(M.cell_far (zB rb 7) (by simp;omega) (Ne.symm X));have f5:=(M.frozen_far (zB rb 7) (by simp;omega) (Ne.symm X)).trans (g2 _ _)));all_goals
   have HO:=M;have HO4:=bT;go_wp2;go_roundg m
   .have F4:=aB.fo HO;have A4:At E b t p:=(H2.aC (S:=[]) ((zJ.alloc _).drew) (by simp)).aC F4 (by simpa[a0H] using λe=>ab e);have R4:RT E rb ⟨d,rc,tb,ek,wt,ev,rp,.slice a acc.length cap,co⟩:=(N.aC (S:=[]) ((zJ.alloc _).drew) (by simp)).aC F4 (by simpa[a0H] using λe=>X e);refine⟨acc++[(D,C,B)],p,zS U (acc.length+1) Y,by simp;omega,by simp;omega,R4.set 7 _ _ rfl,?_,n,?_,?_⟩
    .have:=ownsRow_setCell_below HO4 (a:=(zB rb 7)) jW (zS U (acc.length+1) Y);simpa[ML,mv] using this
    .exact A4.aC (S:=[rb]) (zK.setCell (by simp) _) (by simp;omega)
    exact((((F.alloc _).alloc _).drew).grown HO (λk hk=>Or.inr (j.lt _ hk).1)).setCell (by simp) _
   omega
def aB.new(h:aB [] a w)(k:aB S w w')(d:∀x,x∈S->a.heap.size<=x):aB [] a w' :=
 ⟨k.os.trans h.os,k.tape.trans h.tape,k.output.trans h.output,a0h h.size k.size,λi b _=>(k.block i (a0t b h.size) (λc=>by have:=d i c;omega)).trans (h.block i b (by simp))⟩
theorem ML.base{base:Nat}(h:ML base w v L)(hb:base'<=base):ML base' w v L:=by
 refine⟨h.1,?_⟩;rcases h.2 with a|⟨g,cap,cur,rfl,b,rest⟩
 .exact .inl a
 exact .inr ⟨g,cap,cur,rfl,by omega,rest⟩
def aV:RV:=⟨0,[],false,zN,0,0,0,zN,false⟩
def lC:LB:=[114,111,117,116,101,32]
def iq:LB:=[32,99,111,110,116,105,110,117,101]
structure CR where
 d:Nat
 rc:LB
 tb:Bool
 jM:List LB
 wt:Int
 ev:Int
 rp:Int
 ifs:List CM
 co:Bool
structure Jr(base:Nat)(w:World)(v:RV)(c:CR):Prop where
 d:v.d=c.d
 rc:v.rc=c.rc
 tb:v.tb=c.tb
 Im:SL base w v.ek c.jM
 wt:v.wt=c.wt
 ev:v.ev=c.ev
 rp:v.rp=c.rp
 ifs:ML base w v.iJ c.ifs
 co:v.co=c.co
def bO:LB->Nat × LB
 | []=>(0,[])
 | c::r=>if c==32 then ((bO r).1+1,(bO r).2) else (0,c::r)
def gM(t:LB):Option CR :=
 let l0:=(bO t).2
 if aQ lC l0 then
  let a:=eZ (aK lC l0)
  if a.2.1 then
   let b:=lK a.2.2
   if b.ok then
    let c:=dN b.rest
    if c.ok then
     let m:=IX c.rest
     if m.2.1 then
      if (aK iq m.2.2).isEmpty then some ⟨(bO t).1,a.1,b.tells,b.names,c.wt,c.ev,c.rp,m.1,aQ iq m.2.2⟩ else none
     else none
    else none
   else none
  else none
 else none
theorem aln(l:LB):aQ [32] l=(match l with | c::_=>c==32 | []=>false):=by
 unfold aQ;cases l with
 | nil=>rfl
 | cons c r=>simp[List.isPrefixOf];rw[a0T];simp;exact eq_comm
theorem WN(c:UInt8)(r:LB)(h:(c==32)=true):bO (c::r)=((bO r).1+1,(bO r).2):=by
 conv=>lhs;unfold bO
 rw[h];rfl
theorem aad(c:UInt8)(r:LB)(h:(c==32)=false):bO (c::r)=(0,c::r):=by
 conv=>lhs;unfold bO
 rw[h];rfl
def ao8(w:World)(a b c:Obj):(((w.alloc a).alloc b).alloc c).heap[w.heap.size+1+1]?=some c:=by have:=heap_alloc_new ((w.alloc a).alloc b) c;rw[<-this];simp
def ao9(w:World)(a b c:Obj):(((w.alloc a).alloc b).alloc c).heap[w.heap.size+1]?=some b:=by rw[Below.heap_alloc _ _ _ (by simp)];have:=heap_alloc_new (w.alloc a) b;rw[<-this];simp
def apa(w:World)(a b c:Obj):(((w.alloc a).alloc b).alloc c).heap[w.heap.size]?=some a:=by rw[Below.heap_alloc _ _ _ (by simp;omega),Below.heap_alloc _ _ _ (by simp)];exact heap_alloc_new w a
def RT.apb {r:RV}(h:RT w rb r)(d:Int)(rc:LB)(tb:Bool)(ek:Value)(wt ev rp:Int)(iJ:Value)(co:Bool) :
 RT (((((((((w.setCell (zA rb) (zI d)).setCell (zB rb 1) (zT rc)).setCell (zB rb 2) (.bool tb)).setCell (zB rb 3) ek).setCell (zB rb 4) (zI wt)).setCell (zB rb 5) (zI ev)).setCell (zB rb 6) (zI rp)).setCell (zB rb 7) iJ).setCell (zB rb 8) (.bool co)) rb ⟨d,rc,tb,ek,wt,ev,rp,iJ,co⟩ :=
 ((((((((h.set 0 _ { r with d:=d } rfl).set 1 _ { r with d:=d,rc:=rc } rfl).set 2 _ { r with d:=d,rc:=rc,tb:=tb } rfl).set 3 _ { r with d:=d,rc:=rc,tb:=tb,ek:=ek } rfl).set 4 _ { r with d:=d,rc:=rc,tb:=tb,ek:=ek,wt:=wt } rfl).set 5 _ { r with d:=d,rc:=rc,tb:=tb,ek:=ek,wt:=wt,ev:=ev } rfl).set 6 _ { r with d:=d,rc:=rc,tb:=tb,ek:=ek,wt:=wt,ev:=ev,rp:=rp } rfl).set 7 _ { r with d:=d,rc:=rc,tb:=tb,ek:=ek,wt:=wt,ev:=ev,rp:=rp,iJ:=iJ } rfl).set 8 _ _ rfl
def aB.apb(h:aB S a w)(hb:a.heap.size<=rb)(k j i g f e d c b:Value):aB S a (((((((((w.setCell (zA rb) k).setCell (zB rb 1) j).setCell (zB rb 2) i).setCell (zB rb 3) g).setCell (zB rb 4) f).setCell (zB rb 5) e).setCell (zB rb 6) d).setCell (zB rb 7) c).setCell (zB rb 8) b) :=
 ((((((((h.setCell (Or.inr hb) _).setCell (Or.inr hb) _).setCell (Or.inr hb) _).setCell (Or.inr hb) _).setCell (Or.inr hb) _).setCell (Or.inr hb) _).setCell (Or.inr hb) _).setCell (Or.inr hb) _).setCell (Or.inr hb) _
def aB.apc(h:aB [rb] a w)(n:Nat)(k j i g f e d c b:Value):aB [rb] a ((((((((((w.drewN n).setCell (zA rb) k).setCell (zB rb 1) j).setCell (zB rb 2) i).setCell (zB rb 3) g).setCell (zB rb 4) f).setCell (zB rb 5) e).setCell (zB rb 6) d).setCell (zB rb 7) c).setCell (zB rb 8) b) :=
 (((((((((h.drewN n).setCell (by simp) _).setCell (by simp) _).setCell (by simp) _).setCell (by simp) _).setCell (by simp) _).setCell (by simp) _).setCell (by simp) _).setCell (by simp) _).setCell (by simp) _
theorem agZ {rv:RV}(h:RT w rb rv):(loadVar 125 (zA rb)).run Tryz.prog w=.ok (.agg rv.cells) w:=by obtain⟨d,_,_,_,_,_,_,_,_⟩:=rv;have gT:=h.all;simp[go_sem,RV.cells,gT]
def qw {rv:RV} {ok:Bool}(h:RT w rb rv)(b:tmps.getD 2 undef=zP rb)(a:tmps.getD 3 undef=.bool ok) :
 (results Tryz.f74 tmps).run Tryz.prog w=.ok (.tuple #[.agg rv.cells,.bool ok]) w:=by
 rw[results_cell_tmp Tryz.results74,b,a];simp[asAddr,agZ h]
def aae(t w)(ht:t.length<=1048576) :
 zF 74 #[zT t] w λe w'=>aB [] w w'/\∃rv,(∃a n c,rv.ek=.slice a n c)/\(∃a n c,rv.iJ=.slice a n c) /\
  e=zQ #[.agg rv.cells,.bool (gM t).isSome]/\∀c,gM t=some c->Jr w.heap.size w' rv c:=by
 have Zj:At (((w.alloc (.cells aV.cells 125)).alloc (.cells #[Value.string (bs t),Value.int IntKind.i64 0] 195)).alloc (.cells aV.cells 125)) (w.heap.size+1) t t :=
  ⟨0,⟨ao9 _ _ _ _,a1G _,ht⟩,rfl⟩
 have v:RT (((w.alloc (.cells aV.cells 125)).alloc (.cells #[Value.string (bs t),Value.int IntKind.i64 0] 195)).alloc (.cells aV.cells 125)) (w.heap.size+1+1) aV:=ao8 _ _ _ _;have EC:RT (((w.alloc (.cells aV.cells 125)).alloc (.cells #[Value.string (bs t),Value.int IntKind.i64 0] 195)).alloc (.cells aV.cells 125)) w.heap.size aV:=apa _ _ _ _;have Kc:aB [] w (((w.alloc (.cells aV.cells 125)).alloc (.cells #[Value.string (bs t),Value.int IntKind.i64 0] 195)).alloc (.cells aV.cells 125)):=(zJ.alloc _).alloc _;have A0:Z_ (_/\_/\_/\_):=⟨Zj,v,EC,Kc⟩;clear Zj v EC Kc;go_enter Tryz.func74,Tryz.ntmps74;go_wp2_with fail;go_loopg [] t.length (λk wr=>∃(l:LB) (d:Nat),l.length<=k/\d+l.length<=t.length/\(bO l).1+d=(bO t).1/\(bO l).2=(bO t).2/\At wr (w.heap.size+1) t l/\RT wr (w.heap.size+1+1) { aV with d:=d }/\RT wr w.heap.size aV/\aB [] w wr);exact⟨t,0,a0b _,by omega,by omega,rfl,A0.o.1,A0.o.2.1,A0.o.2.2.1,A0.o.2.2.2⟩
 case round =>
 clear A0;obtain⟨l,d,PW,Ih,gJ,ll,bq,zV,v,bH⟩:=hrel;have Hd:Z_ ((bO l).1+d=(bO t).1/\(bO l).2=(bO t).2):=⟨gJ,ll⟩;have HA:Z_ (At wr (w.heap.size+1) t l):=bq;have HR:Z_ (RT wr (w.heap.size+1+1) { aV with d:=d }):=zV;have H0:Z_ (RT wr w.heap.size aV):=v;have Qb:Z_ (aB [] w wr):=bH;clear gJ ll bq zV v bH;go_wp2_with fail;refine(gX _ _ _ [32] _ HA.o (by simp)).mono ?_;rintro e I ⟨rfl,h1,aZ⟩;have H1:Z_ (At I (w.heap.size+1) t (aK [32] l)):=h1;have X:Z_ (RT I (w.heap.size+1+1) { aV with d:=d }):=HR.o.aC aZ (by simp);have B:Z_ (RT I w.heap.size aV):=H0.o.aC aZ (by simp);have sZ:Z_ (aB [] w I):=Qb.o.new aZ (by simp);clear h1 aZ HA HR H0 Qb;cases f:aQ [32] l
 case true =>
  obtain⟨c,r,rfl⟩:∃c r,l=c::r:=by
   cases l with
   | nil=>cases f
   | cons c r=>exact⟨c,r,rfl⟩
  have A:(c==32)=true:=by rw[aln]at f;omega
  have Hr:Z_ (aK [32] (c::r)=r):=by show aK [32] (c::r)=r;unfold aQ at f;unfold aK;rw[a0m f];rfl
  rw[Hr.o]at H1;simp only[a0r]at PW Ih;have c0:zC I (w.heap.size+1+1) 0 (zI d):=X.o.cell 0;have f0:=X.o.fz 0;have y:Z_ ((bO r).1+(d+1)=(bO t).1/\(bO r).2=(bO t).2):=by have:=Hd.o;rw[WN c r A]at this;exact⟨by omega,this.2⟩
  clear Hd f;go_wp2;go_roundg (gk-1)
  .refine⟨r,d+1,by omega,by omega,y.o.1,y.o.2,?_,?_,?_,?_⟩
   .exact H1.o.aC (S:=[w.heap.size+1+1]) (zK.setCell (by simp) _) (by simp)
   .exact X.o.set 0 _ _ rfl
   .exact B.o.aC (S:=[w.heap.size+1+1]) (zK.setCell (by simp) _) (by simp;omega)
   exact sZ.o.setCell (Or.inr (by simp;omega)) _
  omega
 case false =>
 rw[jL f]at H1;have y:Z_ (d=(bO t).1/\l=(bO t).2):=by
  have:=Hd.o;cases l with
  | nil=>exact⟨by have:=this.1;simp[bO]at this;omega,this.2⟩
  | cons c r=>rw[aln]at f;rw[aad c r f]at this;exact⟨by omega,by simpa using this.2⟩
 clear Hd f;go_wp2_with fail;refine(gX (w.heap.size+1) t l lC _ H1.o (by simp[lC])).mono ?_;rintro e w2 ⟨rfl,h2,aR⟩;have HA:Z_ (At w2 (w.heap.size+1) t (aK lC l)):=h2;have W:Z_ (RT w2 (w.heap.size+1+1) { aV with d:=d }):=X.o.aC aR (by simp);have b:Z_ (RT w2 w.heap.size aV):=B.o.aC aR (by simp);have i:Z_ (aB [] w w2):=sZ.o.new aR (by simp);clear h2 aR H1 X B sZ;cases f:aQ lC l
 case false =>
  have z:Z_ (gM t=none):=by show gM t=none;unfold gM;rw[<-y.o.2];simp[f]
  have:=b.o.all;have V:=b.o.fz;go_wp2;refine bodyPost_ret (qw (rv:=aV) (ok:=false) (rb:=w.heap.size) ?_ (by rfl) (by rfl)) rfl ?_
  .exact((((((((b.o.set 0 _ aV rfl).set 1 _ aV rfl).set 2 _ aV rfl).set 3 _ aV rfl).set 4 _ aV rfl).set 5 _ aV rfl).set 6 _ aV rfl).set 7 _ aV rfl).set 8 _ aV rfl
  rw[z.o];refine⟨?_,aV,⟨_,_,_,rfl⟩,⟨_,_,_,rfl⟩,rfl,λc h=>by cases h⟩;exact((((((((i.o.setCell (by simp) _).setCell (by simp) _).setCell (by simp) _).setCell (by simp) _).setCell (by simp) _).setCell (by simp) _).setCell (by simp) _).setCell (by simp) _).setCell (by simp) _
 case true =>
 have U:Z_ (aQ lC l=true):=f;clear f;generalize qR:aK lC l=p at *;have L1:Z_ (aK lC l=p):=qR;clear qR;go_wp2_with fail;refine(Sm (w.heap.size+1) (w.heap.size+1+1) t p _ _ HA.o W.o (by omega)).mono ?_;rintro e w3 ⟨rfl,h3,Ak,bW⟩;have HA3:Z_ (At w3 (w.heap.size+1) t (eZ p).2.2):=h3;have R3:Z_ (RT w3 (w.heap.size+1+1) { aV with d:=d,rc:=(eZ p).1 }):=Ak;have s:Z_ (RT w3 w.heap.size aV):=b.o.aC bW (by simp;omega);have q:Z_ (aB [] w w3):=i.o.new bW (by simp;omega);clear h3 Ak bW HA W b i;have b:=s;have i:=q;clear s q;cases f:(eZ p).2.1
 case false =>
  have z:Z_ (gM t=none):=by show gM t=none;unfold gM;rw[<-y.o.2];simp[U.o,L1.o,f]
  have:=b.o.all;have V:=b.o.fz;go_wp2;refine bodyPost_ret (qw (rv:=aV) (ok:=false) (rb:=w.heap.size) ?_ (by rfl) (by rfl)) rfl ?_
  .exact((((((((b.o.set 0 _ aV rfl).set 1 _ aV rfl).set 2 _ aV rfl).set 3 _ aV rfl).set 4 _ aV rfl).set 5 _ aV rfl).set 6 _ aV rfl).set 7 _ aV rfl).set 8 _ aV rfl
  rw[z.o];refine⟨?_,aV,⟨_,_,_,rfl⟩,⟨_,_,_,rfl⟩,rfl,λc h=>by cases h⟩;exact((((((((i.o.setCell (by simp) _).setCell (by simp) _).setCell (by simp) _).setCell (by simp) _).setCell (by simp) _).setCell (by simp) _).setCell (by simp) _).setCell (by simp) _).setCell (by simp) _
 case true =>
 have T2:Z_ ((eZ p).2.1=true):=f;clear f;generalize oP:(eZ p).2.2=l2 at *;have L2:Z_ ((eZ p).2.2=l2):=oP;clear oP;go_wp2_with fail;refine(agY (w.heap.size+1) (w.heap.size+1+1) t l2 _ _ HA3.o R3.o (by omega) rfl rfl).mono ?_;rintro e H ⟨rfl,h4,⟨x,Sn,Mr⟩,nL⟩;have HA4:Z_ (At H (w.heap.size+1) t (lK l2).rest):=h4;have R4:Z_ (RT H (w.heap.size+1+1) { aV with d:=d,rc:=(eZ p).1,tb:=(lK l2).tells,ek:=x }):=Sn;have S4:Z_ (SL (w.heap.size+1+1+1) H x (lK l2).names):=Mr.base (by have:=R3.o.lt;omega);have s:Z_ (RT H w.heap.size aV):=b.o.aC nL (by simp;omega);have q:Z_ (aB [] w H):=i.o.new nL (by simp;omega);clear h4 Sn Mr nL HA3 R3 b i;have b:=s;have i:=q;clear s q;cases f:(lK l2).ok
 case false =>
  have z:Z_ (gM t=none):=by show gM t=none;unfold gM;rw[<-y.o.2];simp[U.o,L1.o,T2.o,L2.o,f]
  have:=b.o.all;have V:=b.o.fz;go_wp2;refine bodyPost_ret (qw (rv:=aV) (ok:=false) (rb:=w.heap.size) ?_ (by rfl) (by rfl)) rfl ?_
  .exact((((((((b.o.set 0 _ aV rfl).set 1 _ aV rfl).set 2 _ aV rfl).set 3 _ aV rfl).set 4 _ aV rfl).set 5 _ aV rfl).set 6 _ aV rfl).set 7 _ aV rfl).set 8 _ aV rfl
  rw[z.o];refine⟨?_,aV,⟨_,_,_,rfl⟩,⟨_,_,_,rfl⟩,rfl,λc h=>by cases h⟩;exact((((((((i.o.setCell (by simp) _).setCell (by simp) _).setCell (by simp) _).setCell (by simp) _).setCell (by simp) _).setCell (by simp) _).setCell (by simp) _).setCell (by simp) _).setCell (by simp) _
 case true =>
 have T3:Z_ ((lK l2).ok=true):=f;clear f;generalize R:(lK l2).rest=g at *;have L3:Z_ ((lK l2).rest=g):=R;clear R;go_wp2_with fail;refine(aac (w.heap.size+1) (w.heap.size+1+1) t g _ _ HA4.o R4.o (by omega)).mono ?_;rintro e G ⟨rfl,h5,M,xe⟩;have HA5:Z_ (At G (w.heap.size+1) t (dN g).rest):=h5;have R5:Z_ (RT G (w.heap.size+1+1) { aV with d:=d,rc:=(eZ p).1,tb:=(lK l2).tells,ek:=x,wt:=(dN g).wt,ev:=(dN g).ev,rp:=(dN g).rp }):=M;have S5:Z_ (SL (w.heap.size+1+1+1) G x (lK l2).names):=S4.o.aC xe (by simp);have s:Z_ (RT G w.heap.size aV):=b.o.aC xe (by simp;omega);have q:Z_ (aB [] w G):=i.o.new xe (by simp;omega);clear h5 M xe HA4 R4 b i S4;have b:=s;have i:=q;clear s q;cases f:(dN g).ok
 case false =>
  have z:Z_ (gM t=none):=by show gM t=none;unfold gM;rw[<-y.o.2];simp[U.o,L1.o,T2.o,L2.o,T3.o,L3.o,f]
  have:=b.o.all;have V:=b.o.fz;go_wp2;refine bodyPost_ret (qw (rv:=aV) (ok:=false) (rb:=w.heap.size) ?_ (by rfl) (by rfl)) rfl ?_
  .exact((((((((b.o.set 0 _ aV rfl).set 1 _ aV rfl).set 2 _ aV rfl).set 3 _ aV rfl).set 4 _ aV rfl).set 5 _ aV rfl).set 6 _ aV rfl).set 7 _ aV rfl).set 8 _ aV rfl
  rw[z.o];refine⟨?_,aV,⟨_,_,_,rfl⟩,⟨_,_,_,rfl⟩,rfl,λc h=>by cases h⟩;exact((((((((i.o.setCell (by simp) _).setCell (by simp) _).setCell (by simp) _).setCell (by simp) _).setCell (by simp) _).setCell (by simp) _).setCell (by simp) _).setCell (by simp) _).setCell (by simp) _
 case true =>
 have T4:Z_ ((dN g).ok=true):=f;clear f;generalize P:(dN g).rest=u at *;have L4:Z_ ((dN g).rest=u):=P;clear P;go_wp2_with fail;refine(Sr (w.heap.size+1) (w.heap.size+1+1) t u _ _ HA5.o R5.o (by omega) rfl).mono ?_;rintro e C ⟨rfl,h6,⟨D,L,N⟩,_,Fs⟩;have HA6:Z_ (At C (w.heap.size+1) t (IX u).2.2):=h6;have R6:Z_ (RT C (w.heap.size+1+1) { aV with d:=d,rc:=(eZ p).1,tb:=(lK l2).tells,ek:=x,wt:=(dN g).wt,ev:=(dN g).ev,rp:=(dN g).rp,iJ:=D }):=L;have S6:Z_ (SL (w.heap.size+1+1+1) C x (lK l2).names):=S5.o.aC Fs (by simp);have M6:Z_ (ML (w.heap.size+1+1+1) C D (IX u).1):=N.base (by have:=R5.o.lt;omega);have s:Z_ (RT C w.heap.size aV):=b.o.aC Fs (by simp;omega);have q:Z_ (aB [] w C):=i.o.new Fs (by simp;omega);clear h6 L N Fs HA5 R5 b i S5;have b:=s;have i:=q;clear s q;cases f:(IX u).2.1
 case false =>
  have z:Z_ (gM t=none):=by show gM t=none;unfold gM;rw[<-y.o.2];simp[U.o,L1.o,T2.o,L2.o,T3.o,L3.o,T4.o,L4.o,f]
  have:=b.o.all;have V:=b.o.fz;go_wp2;refine bodyPost_ret (qw (rv:=aV) (ok:=false) (rb:=w.heap.size) ?_ (by rfl) (by rfl)) rfl ?_
  .exact((((((((b.o.set 0 _ aV rfl).set 1 _ aV rfl).set 2 _ aV rfl).set 3 _ aV rfl).set 4 _ aV rfl).set 5 _ aV rfl).set 6 _ aV rfl).set 7 _ aV rfl).set 8 _ aV rfl
  rw[z.o];refine⟨?_,aV,⟨_,_,_,rfl⟩,⟨_,_,_,rfl⟩,rfl,λc h=>by cases h⟩;exact((((((((i.o.setCell (by simp) _).setCell (by simp) _).setCell (by simp) _).setCell (by simp) _).setCell (by simp) _).setCell (by simp) _).setCell (by simp) _).setCell (by simp) _).setCell (by simp) _
 case true =>
 have T5:Z_ ((IX u).2.1=true):=f;clear f;generalize O:(IX u).2.2=j at *;have L5:Z_ ((IX u).2.2=j):=O;clear O;go_wp2_with fail;refine(gX (w.heap.size+1) t j iq _ HA6.o (by simp[iq])).mono ?_;rintro e m ⟨rfl,h7,F⟩;have HA7:Z_ (At m (w.heap.size+1) t (aK iq j)):=h7;have R7:Z_ (RT m (w.heap.size+1+1) { aV with d:=d,rc:=(eZ p).1,tb:=(lK l2).tells,ek:=x,wt:=(dN g).wt,ev:=(dN g).ev,rp:=(dN g).rp,iJ:=D }):=R6.o.aC F (by simp);have S7:Z_ (SL (w.heap.size+1+1+1) m x (lK l2).names):=S6.o.aC F (by simp);have M7:Z_ (ML (w.heap.size+1+1+1) m D (IX u).1):=M6.o.aC F (by simp);have s:Z_ (RT m w.heap.size aV):=b.o.aC F (by simp);have q:Z_ (aB [] w m):=i.o.new F (by simp);clear h7 F HA6 R6 b i S6 M6;have b:=s;have i:=q;clear s q;have c8:zC m (w.heap.size+1+1) 8 (.bool false):=R7.o.cell 8;have f8:=R7.o.fz 8;go_wp2_with fail;have R8:Z_ (RT (m.setCell (zB (w.heap.size+1+1) 8) (.bool (aQ iq j))) (w.heap.size+1+1) ⟨d,(eZ p).1,(lK l2).tells,x,(dN g).wt,(dN g).ev,(dN g).rp,D,aQ iq j⟩):=R7.o.set 8 _ _ rfl;have E:aB [w.heap.size+1+1] m (m.setCell (zB (w.heap.size+1+1) 8) (.bool (aQ iq j))):=zK.setCell (by simp) _;have HA8:Z_ (At (m.setCell (zB (w.heap.size+1+1) 8) (.bool (aQ iq j))) (w.heap.size+1) t (aK iq j)):=HA7.o.aC E (by simp);have S8:Z_ (SL (w.heap.size+1+1+1) (m.setCell (zB (w.heap.size+1+1) 8) (.bool (aQ iq j))) x (lK l2).names):=S7.o.aC E (by simp);have M8:Z_ (ML (w.heap.size+1+1+1) (m.setCell (zB (w.heap.size+1+1) 8) (.bool (aQ iq j))) D (IX u).1):=M7.o.aC E (by simp);have Y:Z_ (RT (m.setCell (zB (w.heap.size+1+1) 8) (.bool (aQ iq j))) w.heap.size aV):=b.o.aC E (by simp;omega);have Z:Z_ (aB [] w (m.setCell (zB (w.heap.size+1+1) 8) (.bool (aQ iq j)))):=i.o.new E (by simp;omega);clear E b i c8 f8 HA7 R7 S7 M7;have b:=Y;have i:=Z;clear Y Z;generalize m.setCell (zB (w.heap.size+1+1) 8) (.bool (aQ iq j))=w8 at *;obtain⟨a4,Kq,rfl⟩:=S8.o.shape;obtain⟨a6,T,rfl⟩:=aW M8;have:=R8.o.all;have:=b.o.all;have:=b.o.fz;go_region_with (go_at_call 91;refine(Z6 (w.heap.size+1) t (aK iq j) _ (by exact HA8)).mono ?_;rintro e _ ⟨rfl,n,rfl⟩);all_goals
  go_wp2;refine bodyPost_ret (qw (rv:=⟨d,(eZ p).1,(lK l2).tells,.slice a4 (lK l2).names.length Kq,(dN g).wt,(dN g).ev,(dN g).rp,.slice a6 (IX u).1.length T,aQ iq j⟩) (ok:=(aK iq j).isEmpty) (rb:=w.heap.size) ?_ (by rfl) (by rfl)) rfl ?_
  .exact RT.apb (b.o.drewN _) _ _ _ _ _ _ _ _ _
  have J:(gM t)=if (aK iq j).isEmpty then some ⟨(bO t).1,(eZ p).1,(lK l2).tells,(lK l2).names,(dN g).wt,(dN g).ev,(dN g).rp,(IX u).1,aQ iq j⟩ else none:=by unfold gM;rw[<-y.o.2];simp[U.o,L1.o,T2.o,L2.o,T3.o,L3.o,T4.o,L4.o,T5.o,L5.o]
  refine⟨aB.apb (i.o.drewN _) (a0b _) _ _ _ _ _ _ _ _ _,⟨d,(eZ p).1,(lK l2).tells,.slice a4 (lK l2).names.length Kq,(dN g).wt,(dN g).ev,(dN g).rp,.slice a6 (IX u).1.length T,aQ iq j⟩,⟨_,_,_,rfl⟩,⟨_,_,_,rfl⟩,?_,?_⟩
  .rw[J];cases (aK iq j).isEmpty<;>rfl
  intro c A;rw[J]at A;cases he:(aK iq j).isEmpty
  .rw[he]at A;cases A
  rw[he]at A;simp only[a0G,Option.some.injEq]at A;subst A;refine⟨by simp[y.o.1],rfl,rfl,?_,rfl,rfl,rfl,?_,rfl⟩
  .exact SL.base ((S8.o.aC (S:=[w.heap.size]) (aB.apc zK _ _ _ _ _ _ _ _ _ _) (by simp;omega))) (by omega)
  exact ML.base ((M8.o.aC (S:=[w.heap.size]) (aB.apc zK _ _ _ _ _ _ _ _ _ _) (by simp;omega))) (by omega)
def mU:LB:=[114,101,99,101,105,118,101,114,115]
def DW:Nat->List LB->LB->Option (List LB)
 | 0,_,_=>none
 | k+1,acc,l =>
   if aQ [32] l then
    let nm:=(aK [32] l).takeWhile bK
    if !(aJ nm)||decide (8<=acc.length) then none else DW k (acc++[nm]) ((aK [32] l).dropWhile bK)
   else if decide (0<acc.length)&&l.isEmpty then some acc else none
def iW(t:LB):Option (List LB):=if aQ mU t then DW 10 [] (aK mU t) else none
def Qc(t w)(ht:t.length<=1048576) :
 zF 73 #[zT t] w λe w'=>aB [] w w'/\∃v' L,e=zQ #[v',.bool (iW t).isSome]/\SL w.heap.size w' v' L/\∀d,iW t=some d->L=d:=by
 have W:At (w.alloc (.cells #[Value.string (bs t),Value.int IntKind.i64 0] 195)) w.heap.size t t :=
  ⟨0,⟨bD _ _,a1G _,ht⟩,rfl⟩
 have A0:=W;clear W;delta zF;go_in;go_wp2_with fail;refine(gX w.heap.size t t mU _ A0 (by simp[mU])).mono ?_;rintro e u ⟨rfl,C,q⟩;have x:aB [] w u:=((aB.refl [] w).alloc _).new q (by simp);have T:w.heap.size+1<=u.heap.size:=by have:=q.size;simpa using this
 cases A:aQ mU t
 case false =>
  have a:iW t=none:=by show iW t=none;unfold iW;rw[A];rfl
  clear C q;go_wp2;go_ret2;rw[a];exact⟨x,_,[],rfl,SL.nil _ _,λd h=>by cases h⟩
 case true =>
 have a:iW t=DW 10 [] (aK mU t):=by show iW t=_;unfold iW;rw[A];rfl
 have H1:At u w.heap.size t (aK mU t):=C;clear C q A;go_wp2_with fail;go_loopg [5] 10 (λk v wr=>∃(acc:List LB) (b:LB) (g cap:Nat),acc.length+k=10/\acc.length<=8/\v=zS g acc.length cap/\w.heap.size+1<=g/\SL (w.heap.size+1) wr v acc/\DW k acc b=iW t/\At wr w.heap.size t b/\aB [] w wr/\w.heap.size+1<=wr.heap.size);exact⟨[],aK mU t,_,_,by simp,by simp,rfl,T,World.ownsRow_lit _ #[] 0 T (by unfold maxLen;omega) (by simp),a.symm,H1.aC zG (by simp),x.alloc _,by simp;omega⟩
 .obtain⟨acc,b,g,cap,M,_,rfl,_,H,i,U,V,_⟩:=hrel;have X:SL (w.heap.size+1) wr (zS g acc.length cap) acc:=H;have G:DW gk acc b=iW t:=i;have Z:At wr w.heap.size t b:=U;have Y:aB [] w wr:=V;clear H i U V H1 x a;obtain⟨m,rfl⟩:∃m,gk=m+1:=⟨gk-1,by omega⟩;go_wp2_with fail;refine(gX w.heap.size t b [32] _ Z (by simp)).mono ?_;rintro e j ⟨rfl,P,r⟩;have l:SL (w.heap.size+1) j (zS g acc.length cap) acc:=X.aC r (by simp);have o:aB [] w j:=Y.new r (by simp);have gD:w.heap.size+1<=j.heap.size:=by have:=r.size;omega
  have s:At j w.heap.size t (aK [32] b):=P;clear P r X Y Z;cases ht:aQ [32] b
  case false =>
   rw[jL ht]at s;have a:iW t=if decide (0<acc.length)&&b.isEmpty then some acc else none:=by
    rw[<-G];conv=>lhs;unfold DW
    rw[ht];rfl
   by_cases R:0<acc.length
   .go_wp2_with (go_at_call 91;refine(Z6 w.heap.size t b _ (by exact s)).mono ?_;rintro e _ ⟨rfl,n,rfl⟩);go_ret2;refine⟨o.drewN _,_,acc,?_,(l.aC (S:=[]) (zK.drewN _) (by simp)).base (by omega),?_⟩
    .rw[a];cases b<;>simp[R]<;>rfl
    intro d h;rw[a]at h;cases b<;>simp_all
   have J:iW t=none:=by rw[a];simp[R]
   go_wp2;go_ret2;refine⟨o,_,acc,?_,l.base (by omega),?_⟩
   .rw[J];rfl
   intro d h;rw[J]at h;cases h
  case true =>
  generalize I:aK [32] b=c at *;have y:iW t=(if !(aJ (c.takeWhile bK))||decide (8<=acc.length) then none else DW m (acc++[c.takeWhile bK]) (c.dropWhile bK)):=by
   rw[<-G];conv=>lhs;unfold DW
   rw[a0m ht,I]
  clear I G ht;go_wp2_with fail;refine(vC w.heap.size t c _ s).mono ?_;rintro e f ⟨rfl,O,p⟩;have H3:At f w.heap.size t (c.dropWhile bK):=O;have E:aB [] w f:=o.new p (by simp);have F:SL (w.heap.size+1) f (zS g acc.length cap) acc:=l.aC p (by simp);have xg:w.heap.size+1<=f.heap.size:=by have:=p.size;omega
  clear O p l o s;cases B:aJ (c.takeWhile bK)
  .have a:iW t=none:=by rw[y,B];rfl
   go_wp2;go_ret2;refine⟨E,_,[],?_,SL.nil _ _,?_⟩
   .rw[a];rfl
   intro d h;rw[a]at h;cases h
  by_cases N:8<=acc.length
  .have a:iW t=none:=by rw[y,B];simp[N]
   go_wp2;go_ret2;refine⟨E,_,[],?_,SL.nil _ _,?_⟩
   .rw[a];rfl
   intro d h;rw[a]at h;cases h
  have a:DW m (acc++[c.takeWhile bK]) (c.dropWhile bK)=iW t:=by rw[y,B];simp[N]
  go_wp2_with (first | (at_builtin;refine rA _ rfl _ _ rfl (w.heap.size+1) (zS g acc.length cap) acc (c.takeWhile bK) f.heap.size rfl (F.aC zG (by simp)) rfl (by simp) (by omega) (by simp;omega) ?_;intro g2 aU _ qj z jR));go_roundg m
  .refine⟨acc++[c.takeWhile bK],_,g2,aU,by simp;omega,by simp;omega,by simp,jR,by simpa using qj,a,?_,?_,?_⟩
   .refine At.aC (S:=[g]) (H3.aC zG (by simp)) (aB.Bt z) (by simp;omega)
   .exact(E.alloc _).grown z (λk M=>by simp[Value.ownBlock]at M;omega)
   have:=z.size;simp at this;omega
  omega
def Apart(w:World)(base:Nat)(S:LN):Prop:=∀k,k∈S->k<base\/∃cur a fz,w.heap[k]?=some (.cells cur a fz)/\a≠9/\a≠149
theorem Jr.aC {base v c}(h:Jr base w v c)(f:aB S w w')(i:Apart w base S):Jr base w' v c :=
 ⟨h.d,h.rc,h.tb,jJ h.Im f (λk g=>(i k g).imp id (λ⟨a,b,c,d,e⟩=>⟨a,b,c,d,e.1⟩)),h.wt,h.ev,h.rp,jJ h.ifs f (λk g=>(i k g).imp id (λ⟨a,b,c,d,e⟩=>⟨a,b,c,d,e.2⟩)),h.co⟩
theorem Jr.base{base v c}(h:Jr base w v c)(hb:base'<=base):Jr base' w v c :=
 ⟨h.d,h.rc,h.tb,h.Im.base hb,h.wt,h.ev,h.rp,h.ifs.base hb,h.co⟩
def CB(w:World)(cb:Nat)(vr vt:Value):Prop:=w.heap[cb]?=some (.cells #[vr,vt] 82 (0,0))
theorem CB.c0(h:CB w cb vr vt):zC w cb 0 vr:=by unfold CB at h;simp[World.cell?,h]
theorem CB.c1(h:CB w cb vr vt):zC w cb 1 vt:=by unfold CB at h;simp[World.cell?,h]
theorem CB.fz(h:CB w cb vr vt)(o):w.frozen? (zB cb o)=false:=by unfold CB at h;simp[World.frozen?,h]
theorem CB.lt(h:CB w cb vr vt):cb<w.heap.size:=(a0c.1 h).1
theorem CB.aC(h:CB w cb vr vt)(f:aB S w w')(a:cb∉S):CB w' cb vr vt:=(f.block cb h.lt a).trans h
def CB.set0(h:CB w cb vr vt)(v):CB (w.setCell (zA cb) v) cb v vt:=by unfold CB at *;simp[World.setCell,a0v,h]
def CB.set1(h:CB w cb vr vt)(v):CB (w.setCell (zB cb 1) v) cb vr v:=by unfold CB at *;simp[World.setCell,a0v,h]
def DX(rv:RV):List Value:=rv.cells.toList
def rvl(R:List RV):List Value:=R.flatMap DX
def RL(base:Nat)(w:World)(v:Value)(R:List RV):Prop:=w.ownsRow base 125 9 v R.length (rvl R)
theorem RL.nil(base w):RL base w zN []:=World.ownsRow_nil w base _ 9
def ajM:(Tryz.prog.info? 125).map (λi=>(i.zero,i.size,i.bytes))=some (some (.agg #[zI 0,.string ByteArray.empty,.bool false,zN,zI 0,zI 0,zI 0,zN,.bool false]),9,112):=by kernel_rfl
def acp(cb t vr vt w)(ht:t.length<=1048576)(k:CB w cb vr vt) :
 zF 55 #[zP cb,zI 1,zT t] w λe w'=>aB [cb] w w'/\e=zR (.bool (iW t).isSome)/\∃a L,CB w' cb a vt/\SL w.heap.size w' a L/\∀b,iW t=some b->L=b:=by
 have i:=k;clear k;delta zF;go_in;go_wp2_with fail;refine(Qc t w ht).mono ?_;rintro e f ⟨g,m,L,rfl,j,l⟩;have d:=i.aC g (by simp);have:=d.c0;have:=d.fz 0;have:=i.lt;have h:CB f cb vr vt:=d;have n:aB [] w f:=g;have c:SL w.heap.size f m L:=j;have p:∀b,iW t=some b->L=b:=l;obtain⟨s,o,rfl⟩:=c.shape;clear d g j l i;go_wp2;go_ret;refine⟨n.nil.setCell (by simp) _,rfl,_,L,h.set0 _,?_,p⟩;exact c.aC (S:=[cb]) (zK.setCell (by simp) _) (by simp;omega)
def acr(cb base line t vr vt R w)(ht:t.length<=1048576)(q:CB w cb vr vt)(E:RL base w vt R)(hR:R.length<=1048576)(L:cb<base)(hb:base<=w.heap.size)(hl:(line==1)=false) :
 zF 55 #[zP cb,zI line,zT t] w λe w'=>aB (cb::vt.ownBlock.toList) w w'/\e=zR (.bool (gM t).isSome)/\∃n rv,CB w' cb vr n/\RL base w' n (R++[rv])/\∀c,gM t=some c->Jr w.heap.size w' rv c:=by
 have C:=q;have HR:=E;obtain⟨N,O,X,W,Y⟩:=info_parts ajM;delta zF;go_in;go_wp2_with fail;refine(aae _ _ ht).mono ?_;rintro e g ⟨p,⟨d,rc,tb,_,wt,ev,rp,_,co⟩,⟨l,nb,m,I⟩,⟨ai,j,f,G⟩,rfl,D⟩;simp only at I G;subst I G;have aL:=C.lt;have fM:=p.size;obtain⟨a,cap,rfl⟩:=aW HR;have h:CB g cb vr (.slice a R.length cap):=C.aC p (by simp);have A:RL base g (.slice a R.length cap) R:=fG HR p (by simp);have c1:=h.c1;have y:=h.lt;have x:Value.ownBlock (.slice a R.length cap)≠some cb:=λe=>by have:=A.lt _ e;omega
 have am:Value.ownBlock (.slice a R.length cap)≠some g.heap.size:=λe=>by have:=A.lt _ e;omega
 have T:∀o u:Obj,((g.alloc o).alloc u).drew.frozen? (zB cb 1)=false:=λo u=>(((((aB.refl [] g).alloc o).alloc u).drew).frozen y (by simp)).trans (h.fz 1);have M:RV.cells ⟨d,rc,tb,.slice l nb m,wt,ev,rp,.slice ai j f,co⟩=#[zI d,zT rc,.bool tb,.slice l nb m,zI wt,zI ev,zI rp,.slice ai j f,.bool co]:=rfl;rw[M];go_wp2_with fail;go_region_law ((refine step_append_lies _ (by rfl) _ _ _ (by rfl) base 125 N _ 9 112 Tryz.underlying80 O X W Y rfl (by omega) (.slice a R.length cap) R.length (rvl R) (by rfl) (by exact(A.alloc _).alloc _) (zA (g.heap.size+1)) 1 1 (DX ⟨d,rc,tb,.slice l nb m,wt,ev,rp,.slice ai j f,co⟩) (by rfl) (by rfl) (World.news_of_block (by exact Ik _ _ _)) (by simp[Value.oneCell',DX,RV.cells]) (by omega) (by unfold maxLen;omega) (by omega) (by simp;omega) (g.heap.size+2) (by simp) ?_;intro v z s F r _ _;have c4:=r.cell_far (zB cb 1) (by simp;omega) (Ne.symm x);have U:=r.frozen_far (zB cb 1) (by simp;omega) (Ne.symm x)));all_goals
  have H:=r;go_wp2;go_ret;have F4:=aB.fo H;have C4:CB s cb vr (.slice a R.length cap):=(h.aC (S:=[]) ((zJ.alloc _).drew) (by simp)).aC F4 (by simpa[a0H] using λe=>x e);refine⟨?_,rfl,zS v (R.length+1) z,⟨d,rc,tb,.slice l nb m,wt,ev,rp,.slice ai j f,co⟩,C4.set1 _,?_,?_⟩
  .refine aB.setCell ?_ (by simp) _;refine aB.trans (b:=g) p.nil ?_;exact((zJ.alloc _).drew).grown H (λk i=>Or.inl (by simp[i]))
  .have:=ownsRow_setCell_below F (a:=(zB cb 1)) L (zS v (R.length+1) z);simpa[RL,rvl] using this
  intro c q;refine(Jr.aC (S:=Value.ownBlock (.slice a R.length cap) |>.toList) (((D c q).aC (S:=[]) ((zJ.alloc _).drew) (by intro k i;simp at i))) F4 ?_).aC (S:=[cb]) (zK.setCell (by simp) _) (by intro k i;simp at i;exact Or.inl (by omega));intro k i;rw[a0H]at i;refine Or.inl ?_;exact Dx HR _ i
def qL(base:Nat)(w:World)(R:List RV)(C:List CR):Prop:=R.length=C.length/\∀(i:Nat) (rv:RV) (c:CR),R[i]?=some rv->C[i]?=some c->Jr base w rv c
theorem qL.aC {base R C}(h:qL base w R C)(f:aB S w w')(a:Apart w base S):qL base w' R C :=
 ⟨h.1,λi rv c d b=>(h.2 i rv c d b).aC f a⟩
theorem qL.nil(base w):qL base w [] []:=⟨rfl,λi rv c h=>by simp at h⟩
theorem qL.snoc {base R C rv c}(h:qL base w R C)(f:Jr base w rv c):qL base w (R++[rv]) (C++[c]):=by
 refine⟨by simp[h.1],λi d g a b=>?_⟩;by_cases e:i<R.length
 .rw[a0s e]at a;rw[a0s (by rw[<-h.1];omega)]at b;exact h.2 i d g a b
 rw[a0K (by omega)]at a;rw[a0K (by rw[<-h.1];omega)]at b;rw[<-h.1]at b;have hz:i-R.length=0:=by
  by_cases hz:i-R.length=0
  .omega
  rw[a1Z (by simp;omega)]at a;cases a
 rw[hz]at a b;simp at a b;subst a b;omega
theorem qL.base{base R C}(h:qL base w R C)(hb:base'<=base):qL base' w R C :=
 ⟨h.1,λi rv c b a=>(h.2 i rv c b a).base hb⟩
def yw:LB->Nat->LB->List LB->List CR->Except Nat (List LB × List CR)
 | [],ln,cur,R,C=>if !(cur.isEmpty)||ln==1 then .error ln else .ok (R,C)
 | c::r,ln,cur,R,C =>
   if c==10 then
    (if ln==1 then (match iW cur with | none=>.error 1|some R'=>yw r 2 [] R' C)
     else (match gM cur with | none=>.error ln|some x=>yw r (ln+1) [] R (C++[x])))
   else yw r ln (cur++[c]) R C
def oV(t:LB):Except Nat (List LB × List CR):=yw t 1 [] [] []
theorem adb(h:CB w cb vr vt):(loadVar 82 (zA cb)).run Tryz.prog w=.ok (.agg #[vr,vt]) w:=by have b:=h.c0;have a:=h.c1;simp[go_sem,b,a]
def ug {ln}(h:CB w rb vr vt)(b:tmps.getD 2 undef=zP rb)(a:tmps.getD 3 undef=zI ln) :
 (results Tryz.f42 tmps).run Tryz.prog w=.ok (.tuple #[.agg #[vr,vt],zI ln]) w:=by
 rw[results_cell_tmp Tryz.results42,b,a];simp[asAddr,adb h]
theorem RL.aC {base R}(h:RL base w v R)(f:aB S w w')(a:∀k,k∈S->k<base):RL base w' v R:=fG h f a
def Ip {base size}(h:w.ownsRow base e size v n xs)(k)(a:v.ownBlock=some k):∃cur fz,w.heap[k]?=some (.cells cur e fz):=by
 rcases h.2 with⟨rfl,_⟩|⟨g,cap,cur,rfl,hb,b,_⟩
 .simp[Value.ownBlock]at a
 simp[Value.ownBlock]at a;subst a;exact⟨cur,_,b⟩
def wQ{base size}(h:w.ownsRow base e size v n xs)(hb:base'<=base):w.ownsRow base' e size v n xs:=by
 refine⟨h.1,?_⟩;rcases h.2 with a|⟨g,cap,cur,rfl,b,rest⟩
 .exact .inl a
 exact .inr ⟨g,cap,cur,rfl,by omega,rest⟩
def amO(base:Nat)(w:World)(vr vt:Value)(ln:Int):Except Nat (List LB × List CR)->Prop
 | .error n=>vr=zN/\vt=zN/\ln=n/\1<=n
 | .ok (R,C)=>ln=0/\SL base w vr R/\∃a,RL base w vt a/\qL base w a C/\a.length<=1048576
def aah(t w)(ht:t.length<=1040000) :
 zF 42 #[zT t] w λe w'=>aB [] w w'/\∃vr vt ln,e=zQ #[.agg #[vr,vt],zI ln]/\amO w.heap.size w' vr vt ln (oV t):=by
 have eG:=bL t;have hx:=tF t;have kM:CB ((w.alloc (Obj.cells #[zN,zN] 82)).alloc (Obj.cells #[zN,zN] 82)) w.heap.size zN zN:=by
  unfold CB;rw[Below.heap_alloc _ _ _ (by simp)];exact heap_alloc_new w _
 have kv:CB ((w.alloc (Obj.cells #[zN,zN] 82)).alloc (Obj.cells #[zN,zN] 82)) (w.heap.size+1) zN zN:=by
  unfold CB;have:=heap_alloc_new (w.alloc (Obj.cells #[zN,zN] 82)) (Obj.cells #[zN,zN] 82);rw[<-this];simp
 have B0:=kM;have uh:Z_ (CB ((w.alloc (Obj.cells #[zN,zN] 82)).alloc (Obj.cells #[zN,zN] 82)) w.heap.size zN zN):=kM;have HB1:Z_ (CB ((w.alloc (Obj.cells #[zN,zN] 82)).alloc (Obj.cells #[zN,zN] 82)) (w.heap.size+1) zN zN):=kv;clear kM kv B0;delta zF;go_in;go_wp2_with fail;go_loopg [5,6,7] t.length (λk vl vs vi wr=>∃(ln st ii:Nat) (L:List LB) (vr vt:Value) (C:List CR) (R:List RV),ii+k=t.length/\st<=ii/\1<=ln/\ln<=ii+1/\vl=zI ln/\vs=zI st/\vi=zI ii /\
  CB wr (w.heap.size+1) vr vt/\CB wr w.heap.size zN zN/\SL (w.heap.size+2) wr vr L/\RL (w.heap.size+2) wr vt R/\qL (w.heap.size+2) wr R C/\R.length<=ln/\yw (t.drop ii) ln ((t.take ii).drop st) L C=oV t/\aB [] w wr/\w.heap.size+2<=wr.heap.size)
 case atStart=>exact⟨1,0,0,[],_,_,[],[],by omega,by omega,by omega,by omega,rfl,rfl,rfl,HB1,uh,SL.nil _ _,RL.nil _ _,qL.nil _ _,by simp,rfl,((aB.refl _ _).alloc _).alloc _,by simp⟩
 case round =>
 obtain⟨ln,st,ii,L,vr,vt,C,R,hk,dY,qR,oP,rfl,rfl,rfl,kG,jW,rJ,Qd,Qe,uT,iD,bH,hz⟩:=hrel;have KC:Z_ (CB wr (w.heap.size+1) vr vt):=kG;have KR:Z_ (CB wr w.heap.size zN zN):=jW;have KS:Z_ (SL (w.heap.size+2) wr vr L):=rJ;have KL:Z_ (RL (w.heap.size+2) wr vt R):=Qd;have KP:Z_ (qL (w.heap.size+2) wr R C):=Qe;have KG:Z_ (yw (t.drop ii) ln ((t.take ii).drop st) L C=oV t):=iD;have KF:Z_ (aB [] w wr):=bH;clear kG jW rJ Qd Qe iD bH uh HB1;by_cases aL:ii<t.length
 ·have aos:(bs t)[ii]'(by rw[eG];omega)=t[ii]:=rfl;have Hd:Z_ (t.drop ii=t[ii]::t.drop (ii+1)):=a0k aL;have Ht:Z_ (t.take (ii+1)=t.take ii++[t[ii]]):=a0F aL;generalize t[ii]=c at *;by_cases hc:(c==10)=true
  ·have kL:((c.toNat:Int) != 10)=false:=by
    have:c=10:=by simpa using hc
    subst this;rfl
   by_cases hl:ln=1
   ·subst hl;have Iq:Z_ (oV t=(match iW ((t.take ii).drop st) with | none=>.error 1|some R'=>yw (t.drop (ii+1)) 2 [] R' C)):=by
     show _=_;rw[<-KG.o,Hd.o];conv=>lhs;unfold yw
     rw[hc];rfl
    go_wp2_with fail;refine(acp (w.heap.size+1) ((t.take ii).drop st) vr vt wr (by simp;omega) KC).mono ?_;rintro e w1 ⟨aZ,rfl,vr',L',aai,nC,hL⟩;have Vd:Z_ (CB w1 w.heap.size zN zN):=KR.o.aC aZ (by simp);have KF1:Z_ (aB [] w w1):=KF.o.new aZ (by simp);have fM:w.heap.size+2<=w1.heap.size:=by have:=aZ.size;omega
    cases hR:iW ((t.take ii).drop st) with
    | none =>
      rw[hR]at Iq;have d0:=Vd.o.c0;have d1:=Vd.o.c1;have df:=Vd.o.fz;clear aZ aai nC hL;simp only[Option.isSome_none];go_wp2;refine bodyPost_ret (ug (vr:=zN) (vt:=zN) (ln:=1) (rb:=w.heap.size) ?_ (by rfl) (by rfl)) rfl ?_
      ·exact(Vd.o.set0 _).set1 _
      refine⟨(KF1.o.setCell (by simp) _).setCell (by simp) _,_,_,_,rfl,?_⟩;rw[Iq.o];exact⟨rfl,rfl,rfl,a0b _⟩
    | some R' =>
      rw[hR]at Iq;obtain rfl:=hL R' hR;have KC1:Z_ (CB w1 (w.heap.size+1) vr' vt):=aai;have KS1:Z_ (SL (w.heap.size+2) w1 vr' L'):=nC.base hz;have KL1:Z_ (RL (w.heap.size+2) w1 vt R):=KL.o.aC aZ (by simp);have KP1:Z_ (qL (w.heap.size+2) w1 R C):=KP.o.aC aZ (by intro k hk;simp at hk;exact Or.inl (by omega));clear aZ aai nC hL hR KC KR KS KL KP KF;simp only[Option.isSome_some];go_wp2;go_roundg (gk-1);case measure=>omega
      case rel =>
       refine⟨2,ii+1,ii+1,L',vr',vt,C,R,by omega,by omega,by omega,by omega,by go_num,by go_num,by go_num,KC1,Vd,KS1,KL1,KP1,by omega,?_,KF1,fM⟩;have he:(t.take (ii+1)).drop (ii+1)=[]:=a0i (by rw[a1k];omega);rw[Iq.o,he]
   have Iq:Z_ (oV t=(match gM ((t.take ii).drop st) with | none=>.error ln|some x=>yw (t.drop (ii+1)) (ln+1) [] L (C++[x]))):=by
    show _=_;rw[<-KG.o,Hd.o];conv=>lhs;unfold yw
    rw[hc,a0m rfl,a0n (by simpa using hl)]
   have hl':((ln:Int)==1)=false:=a0j.2 (by omega);go_wp2_with fail;refine(acr (w.heap.size+1) (w.heap.size+2) ln ((t.take ii).drop st) vr vt R wr (by simp;omega) KC.o KL.o (by omega) (by omega) hz hl').mono ?_;rintro e w1 ⟨aZ,rfl,vt',rv,aai,ape,lZ⟩;have Vd:Z_ (CB w1 w.heap.size zN zN):=KR.o.aC aZ (by
    simp only[a0l,a0H,not_or];exact⟨by omega,λe=>by have:=(KL.o.lt _ e).1;omega⟩)
   have KF1:Z_ (aB [] w w1):=KF.o.new aZ (by
    simp only[a0l,a0H];rintro x (rfl|e)
    ·omega
    have:=(KL.o.lt _ e).1;omega)
   have fM:w.heap.size+2<=w1.heap.size:=by have:=aZ.size;omega
   cases hR:gM ((t.take ii).drop st) with
   | none =>
     rw[hR]at Iq;have d0:=Vd.o.c0;have d1:=Vd.o.c1;have df:=Vd.o.fz;clear aZ aai ape lZ;simp only[Option.isSome_none];go_wp2;refine bodyPost_ret (ug (vr:=zN) (vt:=zN) (ln:=ln) (rb:=w.heap.size) ?_ (by rfl) (by rfl)) rfl ?_
     ·exact(Vd.o.set0 _).set1 _
     refine⟨(KF1.o.setCell (by simp) _).setCell (by simp) _,_,_,_,rfl,?_⟩;rw[Iq.o];exact⟨rfl,rfl,rfl,qR⟩
   | some x =>
     rw[hR]at Iq;have NU:Apart wr (w.heap.size+2) ((w.heap.size+1)::vt.ownBlock.toList):=by
      intro k hk;simp only[a0l,a0H]at hk;rcases hk with rfl|e
      ·exact Or.inl (by omega)
      obtain⟨cur,fz,h1⟩:=Ip KL.o k e;exact Or.inr ⟨cur,_,fz,h1,by decide,by decide⟩
     have KC1:Z_ (CB w1 (w.heap.size+1) vr vt'):=aai;have KS1:Z_ (SL (w.heap.size+2) w1 vr L):=jJ KS.o aZ (λk hk=>(NU k hk).imp id (λ⟨a,b,c,d,e⟩=>⟨a,b,c,d,e.1⟩));have KL1:Z_ (RL (w.heap.size+2) w1 vt' (R++[rv])):=ape;have KP1:Z_ (qL (w.heap.size+2) w1 (R++[rv]) (C++[x])):=(KP.o.aC aZ NU).snoc ((lZ x hR).base hz);clear aZ aai ape lZ hR KC KR KS KL KP KF;simp only[Option.isSome_some];go_wp2;go_roundg (gk-1);case measure=>omega
     case rel =>
      refine⟨ln+1,ii+1,ii+1,L,vr,vt',C++[x],R++[rv],by omega,by omega,by omega,by omega,by go_num,by go_num,by go_num,KC1,Vd,KS1,KL1,KP1,by simp;omega,?_,KF1,fM⟩;have he:(t.take (ii+1)).drop (ii+1)=[]:=a0i (by rw[a1k];omega);rw[Iq.o,he]
  have kL:((c.toNat:Int) != 10)=true:=by
   rw[a1M];intro h;apply hc;have:c.toNat=10:=by omega
   have:c=10:=a1w.1 this;subst this;rfl
  have Iq:Z_ (yw (t.drop (ii+1)) ln ((t.take (ii+1)).drop st) L C=oV t):=by
   show _=_;rw[<-KG.o,Hd.o];conv=>rhs;unfold yw
   rw[a0n hc,Ht.o,a1N (by simp;omega)]
  go_wp2;go_roundg (gk-1);case measure=>omega
  case rel =>
   exact⟨ln,st,ii+1,L,vr,vt,C,R,by omega,by omega,by omega,by omega,rfl,rfl,by go_num,KC,KR,KS,KL,KP,uT,Iq,KF,hz⟩
 have Iq:Z_ (oV t=if !((t.drop st).isEmpty)||ln==1 then .error ln else .ok (L,C)):=by
  show _=_;rw[<-KG.o,a0i (by omega),a0C (by omega)];rfl
 have d0:=KR.o.c0;have d1:=KR.o.c1;have df:=KR.o.fz;by_cases hs:st<t.length
 ·have JU:=decLt st t.length (by omega);have Hg3:Z_ (oV t=.error ln):=by
   show _=_;rw[Iq.o];have:(t.drop st).isEmpty=false:=by simpa using hs
   rw[this];rfl
  go_wp2;refine bodyPost_ret (ug (vr:=zN) (vt:=zN) (ln:=ln) (rb:=w.heap.size) ?_ (by rfl) (by rfl)) rfl ?_
  ·exact(KR.o.set0 _).set1 _
  refine⟨(KF.o.setCell (by simp) _).setCell (by simp) _,_,_,_,rfl,?_⟩;rw[Hg3.o];exact⟨rfl,rfl,rfl,qR⟩
 have JU:=aBb st t.length (by omega);have he:(t.drop st).isEmpty=true:=by simpa using hs
 by_cases hl:ln=1
 ·subst hl;have Hg3:Z_ (oV t=.error 1):=by
   show _=_;rw[Iq.o];simp
  go_wp2;refine bodyPost_ret (ug (vr:=zN) (vt:=zN) (ln:=1) (rb:=w.heap.size) ?_ (by rfl) (by rfl)) rfl ?_
  ·exact(KR.o.set0 _).set1 _
  refine⟨(KF.o.setCell (by simp) _).setCell (by simp) _,_,_,_,rfl,?_⟩;rw[Hg3.o];exact⟨rfl,rfl,rfl,qR⟩
 have hl':((ln:Int)==1)=false:=a0j.2 (by omega);have Hg3:Z_ (oV t=.ok (L,C)):=by
  show _=_;rw[Iq.o,he];have:(ln==1)=false:=by simpa using hl
  rw[this];rfl
 have e0:=KC.o.c0;have e1:=KC.o.c1;obtain⟨a0,n0,rfl⟩:=KS.o.shape;obtain⟨a1,n1,rfl⟩:=aW KL;go_wp2;refine bodyPost_ret (ug (vr:=.slice a0 L.length n0) (vt:=.slice a1 R.length n1) (ln:=0) (rb:=w.heap.size) ?_ (by rfl) (by rfl)) rfl ?_
 ·exact(KR.o.set0 _).set1 _
 have F:aB [w.heap.size] wr ((wr.setCell (zA w.heap.size) (.slice a0 L.length n0)).setCell (zB w.heap.size 1) (.slice a1 R.length n1)):=((aB.refl _ _).setCell (by simp) _).setCell (by simp) _;refine⟨(KF.o.setCell (by simp) _).setCell (by simp) _,_,_,_,rfl,?_⟩;rw[Hg3.o];exact⟨rfl,(KS.o.aC F (by simp)).base (by omega),R,wQ (KL.o.aC F (by simp)) (by omega),(KP.o.aC F (by intro k hk;simp at hk;exact Or.inl (by omega))).base (by omega),by omega⟩
end
section
variable {α:Type} {w w':World} {b cap n:Nat} {a:Option Addr} {L:List Bool} {v:Value} {l:List NF}
def zW(n w)(b:0<=n)(a:n<=2000000) :
 zF 46 #[zI n] w λe w'=>e=zR (zI (n+2))/\w=w':=by
 delta zF;go_in;go_wp2;go_ret;exact⟨rfl,rfl⟩
def jN(d a:Int):Bool:=decide (1<=d)&&decide (d<=5)&&decide (d<=a+1)
def nW(c:CR):Bool:=(c.d==0)&&c.ifs.isEmpty&&!c.co&&!(c.rc == [45])
def aaj(rv:RV)(b w)(o:0<=b)(m:b<=2000000)(hb:∃a n c,rv.ek=.slice a n c)(f:∃a n c,rv.iJ=.slice a n c) :
 zF 56 #[.agg rv.cells,zI b] w λe w'=>e=zR (.bool (jN rv.d b))/\aB [] w w':=by
 obtain⟨d,rc,tb,ek,wt,ev,rp,iJ,co⟩:=rv;obtain⟨l,nb,cb,hb⟩:=hb;obtain⟨ai,k,ci,f⟩:=f;simp only at hb f;subst hb f;show zF 56 #[.agg #[zI d,zT rc,.bool tb,.slice l nb cb,zI wt,zI ev,zI rp,.slice ai k ci,.bool co],zI b] w _;by_cases h:1<=d
 .by_cases i:d<=5;have g:=a0g h;have j:decide (d<=5)=true:=a0g i;rotate_left;have g:=a0g h;have j:decide (d<=5)=false:=a0f i;all_goals
   delta zF;go_in;go_wp2;go_ret;exact⟨dD (by simp[jN,g,j]),zJ⟩
 have g:=a0f h;delta zF;go_in;go_wp2;go_ret;exact⟨dD (by simp[jN,g]),zJ⟩
def aak(d rc tb c nb cb wt ev rp ai b ci co a w)(g:0<=a)(f:a<=2000000) :
 zF 56 #[.agg #[zI d,zT rc,.bool tb,.slice c nb cb,zI wt,zI ev,zI rp,.slice ai b ci,.bool co],zI a] w λe w'=>e=zR (.bool (jN d a))/\aB [] w w' :=
 aaj ⟨d,rc,tb,.slice c nb cb,wt,ev,rp,.slice ai b ci,co⟩ a w g f ⟨_,_,_,rfl⟩ ⟨_,_,_,rfl⟩
def aal(rv:RV)(b w)(hb:∃a n c,rv.ek=.slice a n c)(g:∃a c,rv.iJ=.slice a b c) :
 zF 57 #[.agg rv.cells] w λe w'=>e=zR (.bool ((rv.d==0)&&(b==0)&&!rv.co&&!(rv.rc == [45])))/\aB [] w w':=by
 obtain⟨d,rc,tb,_,wt,ev,rp,_,co⟩:=rv;obtain⟨j,nb,cb,hb⟩:=hb;obtain⟨ai,ci,g⟩:=g;simp only at hb g;subst hb g;have:=aT;have:=aT [45];show zF 57 #[.agg #[zI d,zT rc,.bool tb,.slice j nb cb,zI wt,zI ev,zI rp,.slice ai b ci,.bool co]] w _;cases i:(d==0)
 .delta zF;go_in;go_wp2;go_ret;exact⟨dD (by simp[i]),zJ⟩
 cases h:((b:Int)==0);have f:(b==0)=false:=by rw[a0j]at h |-;omega
 rotate_left;have f:(b==0)=true:=by rw[a0W]at h |-;omega
 cases co;all_goals
  delta zF;go_in;go_wp2;go_ret;exact⟨dD (by simp[i,f]),zJ⟩
def aam(d rc tb b nb cb wt ev rp ai a ci co w) :
 zF 57 #[.agg #[zI d,zT rc,.bool tb,.slice b nb cb,zI wt,zI ev,zI rp,.slice ai a ci,.bool co]] w λe w'=>e=zR (.bool ((d==0)&&(a==0)&&!co&&!(rc == [45])))/\aB [] w w' :=
 aal ⟨d,rc,tb,.slice b nb cb,wt,ev,rp,.slice ai a ci,co⟩ a w ⟨_,_,_,rfl⟩ ⟨_,_,rfl⟩
def lD:List CR->Nat->Int->Nat
 | [],_,_=>0
 | c::r,i,a=>if !(if i==0 then nW c else jN c.d a)||decide (16<=i) then i+2 else lD r (i+1) c.d
def iX(C:List CR):Nat:=if C.isEmpty then 2 else lD C 0 0
def flat_get{β:Type}(f:α->List β)(s)(b:∀a,(f a).length=s):∀(L:List α) j k (a:α),L[j]?=some a->k<s->(L.flatMap f)[j*s+k]?=(f a)[k]?
 | [],j,k,a,h,_=>by simp at h
 | x::L,0,k,a,h,c=>by simp at h;subst h;rw[Nat.zero_mul,a1n,a1i,a0s (by rw[b];omega)]
 | x::L,j+1,k,a,h,c=>by simp at h;rw[a1i,a0K (by rw[b,a0J];omega),b,show(j+1)*s+k-s=j*s+k by rw[a0J];omega];exact flat_get f s b L j k a h c
theorem RL.cell {base R g}(h:RL base w (zS g n cap) R) {j rv}(d:R[j]?=some rv)(k)(b:k<9):w.cell? (zB g (j*9+k))=rv.cells[k]?:=by
 have f:=flat_get DX _ (λa=>rfl) R j k rv d b;have c:(DX rv)[k]?=rv.cells[k]?:=by simp[DX]
 have e:=World.ownsRow.cells h rfl (j*9+k);have i:k<rv.cells.size:=b;rw[Array.getElem?_eq_getElem i]at c |-;have:=e _ (f.trans c);rw[add0]at this;omega
def aan(base v R C w)(F:RL base w v R)(G:qL base w R C)(hR:R.length<=1048576)(hd:∀c∈C,c.d<=1048576) :
 zF 43 #[v] w λe w'=>e=zR (zI (iX C))/\aB [] w w':=by
 obtain⟨a,cap,rfl⟩:=aW F;have q:=G.1;have HR:Z_ (RL base w (.slice a R.length cap) R):=F;have HP:Z_ (qL base w R C):=G;have HD:Z_ (∀c∈C,c.d<=1048576):=hd;clear F G hd;by_cases X:R.length=0
 .have I:Z_ (iX C=2):=by show _=_;unfold iX;rw[a0S (q.symm.trans X)];rfl
  delta zF;go_in;go_wp2_with (go_at_call 46;refine(zW _ _ (by omega) (by omega)).mono ?_;rintro e w' ⟨rfl,rfl⟩);go_ret;exact⟨mJ (by rw[I.o];rfl),zK⟩
 have hb:((R.length:Int)==0)=false:=a0j.2 (by omega);have I:Z_ (iX C=lD C 0 0):=by
  show _=_;unfold iX;have:C.isEmpty=false:=by
   cases C with
   | nil=>rw[a1e]at q;omega
   | cons=>rfl
  rw[this];rfl
 obtain⟨g,rfl⟩:∃g,a=some (zA g):=by
  rcases HR.o.2 with⟨e,h⟩|⟨g,c,_,e,_⟩
  .omega
  simp at e;exact⟨g,e.1⟩
 have Ao:Z_ (R.length=C.length):=q;clear q;delta zF;go_in;go_wp2_with fail;go_loopg [3,13] R.length (λk vd vi wr=>∃(j:Nat) (i:Nat),j+k=R.length/\vi=zI j/\vd=zI i/\i<=1048576/\lD (C.drop j) j i=iX C/\aB [] w wr);exact⟨0,0,by omega,rfl,rfl,by omega,I.o.symm,zK⟩
 .obtain⟨j,i,_,rfl,rfl,_,W,Z⟩:=hrel;have KG:Z_ (lD (C.drop j) j i=iX C):=W;have KF:Z_ (aB [] w wr):=Z;clear W Z;by_cases aL:j<R.length
  .have q:=Ao.o;have p:=a0a aL;have x:C[j]?=some (C[j]'(by omega)):=a0a (by omega);have r:=HP.o.2 j _ _ p x;have y:=HD.o _ (a0u (l:=C) (n:=j) (by omega));have Hd:Z_ (C.drop j=(C[j]'(by omega))::C.drop (j+1)):=a0k (by omega);generalize (C[j]'(by omega))=c at *;have V:RL base wr (zS g R.length cap) R:=fG HR.o KF.o (by simp);have aO:=λk hk=>V.cell p k hk;generalize R[j]=rv at *;obtain⟨d,rc,tb,ek,wt,ev,rp,iJ,co⟩:=rv;have U:zC wr g (j*9) (zI d):=aO 0 (by omega);have:zC wr g (j*9+1) (zT rc):=aO 1 (by omega);have:zC wr g (j*9+2) (.bool tb):=aO 2 (by omega);have:zC wr g (j*9+3) ek:=aO 3 (by omega);have:zC wr g (j*9+4) (zI wt):=aO 4 (by omega);have:zC wr g (j*9+5) (zI ev):=aO 5 (by omega);have:zC wr g (j*9+6) (zI rp):=aO 6 (by omega);have:zC wr g (j*9+7) iJ:=aO 7 (by omega);have:zC wr g (j*9+8) (.bool co):=aO 8 (by omega);obtain⟨t,cb,eb⟩:=r.Im.shape;obtain⟨ai,ci,Y⟩:=aW r.ifs;have u:=r.d;have S:=r.rc;have Sz:=r.co;simp only at eb Y u S Sz;subst eb Y u S Sz;clear aO V r p x q;have B:=bD wr (.cells #[Value.int IntKind.i64 c.d,Value.string (bs c.rc),Value.bool tb,Value.slice t c.jM.length cb,Value.int IntKind.i64 wt,Value.int IntKind.i64 ev,Value.int IntKind.i64 rp,Value.slice ai c.ifs.length ci,Value.bool c.co] 125);have HN:Z_ (RT (wr.alloc (.cells #[Value.int IntKind.i64 c.d,Value.string (bs c.rc),Value.bool tb,Value.slice t c.jM.length cb,Value.int IntKind.i64 wt,Value.int IntKind.i64 ev,Value.int IntKind.i64 rp,Value.slice ai c.ifs.length ci,Value.bool c.co] 125)) wr.heap.size ⟨c.d,c.rc,tb,.slice t c.jM.length cb,wt,ev,rp,.slice ai c.ifs.length ci,c.co⟩):=B;clear B;have A:Z_ (iX C=if !(if j==0 then nW c else jN c.d i)||decide (16<=j) then j+2 else lD (C.drop (j+1)) (j+1) c.d):=by show _=_;rw[<-KG.o,Hd.o];rfl
   clear KG Hd;go_wp2_with fail;refine(aak c.d c.rc tb t _ cb wt ev rp ai _ ci c.co i _ (by omega) (by omega)).mono ?_;rintro e P ⟨rfl,J⟩;have b:Z_ (aB [] w P):=(KF.o.alloc _).trans J;have E:=HN.o.aC J (by simp);have N:Z_ (RT P wr.heap.size ⟨c.d,c.rc,tb,.slice t c.jM.length cb,wt,ev,rp,.slice ai c.ifs.length ci,c.co⟩):=E;have U:=E.all;clear J E HN;by_cases T:j=0
   .subst T;have M:nW c=(((c.d:Int)==0)&&(c.ifs.length==0)&&!c.co&&!(c.rc == [45])):=by
     unfold nW;have e1:((c.d:Int)==0)=(c.d==0):=by rw[a0T];simp
     have e2:(c.ifs.length==0)=c.ifs.isEmpty:=by cases c.ifs<;>rfl
     rw[e1,e2]
    go_wp2_with fail;refine(aam c.d c.rc tb t _ cb wt ev rp ai _ ci c.co _).mono ?_;rintro e O ⟨rfl,L⟩;have D:Z_ (aB [] w O):=b.o.trans L;have:zC O wr.heap.size 0 (zI c.d):=(N.o.aC L (by simp)).cell 0;rw[<-M];clear L U;cases s:nW c
    .have f:Z_ (iX C=2):=by show _=_;rw[A.o,s];rfl
     go_wp2_with (go_at_call 46;refine(zW _ _ (by omega) (by omega)).mono ?_;rintro e w' ⟨rfl,rfl⟩);go_ret;exact⟨mJ (by rw[f.o];rfl),D⟩
    have f:Z_ (lD (C.drop 1) 1 c.d=iX C):=by show _=_;rw[A.o,s];rfl
    go_wp2;go_roundg (gk-1);exact⟨1,c.d,by omega,by go_num,rfl,y,f,D⟩;omega
   have:((j:Int)==0)=false:=a0j.2 (by omega);have m:(j==0)=false:=a0j.2 T;cases s:jN c.d i
   .have f:Z_ (iX C=j+2):=by show _=_;rw[A.o,s,m];rfl
    go_wp2_with (go_at_call 46;refine(zW _ _ (by omega) (by omega)).mono ?_;rintro e w' ⟨rfl,rfl⟩);go_ret;exact⟨mJ (by rw[f.o];simp),b⟩
   by_cases z:16<=j
   .have f:Z_ (iX C=j+2):=by show _=_;rw[A.o,s,m];simp[z]
    go_wp2_with (go_at_call 46;refine(zW _ _ (by omega) (by omega)).mono ?_;rintro e _ ⟨rfl,rfl⟩);go_ret;exact⟨mJ (by rw[f.o];simp),b⟩
   have f:Z_ (lD (C.drop (j+1)) (j+1) c.d=iX C):=by show _=_;rw[A.o,s,m];simp[z]
   go_wp2;go_roundg (gk-1);exact⟨j+1,c.d,by omega,by go_num,rfl,y,f,b⟩;omega
  have H:Z_ (iX C=0):=by show _=_;rw[<-KG.o,a0i (by have:=Ao.o;omega)];rfl
  go_wp2;go_ret;exact⟨mJ (by rw[H.o];rfl),KF⟩
def mq:List LB->List LB->Bool
 | _,[]=>false
 | pre,x::r=>if pre.contains x then true else mq (pre++[x]) r
def xM(L:List LB):List CR->Nat->Nat
 | [],_=>0
 | c::r,i=>if !(c.rc == [45])&&!(L.contains c.rc) then i+2 else xM L r (i+1)
def mr(L:List LB)(C:List CR):Nat:=if mq [] L then 1 else xM L C 0
theorem RS.take {base L}(h:RS base w (.slice a n cap) L)(k)(m:k<=L.length):RS base w (.slice a k cap) (L.take k):=by obtain⟨q,l,e,p,o,i⟩:=h;simp at e;obtain⟨rfl,rfl,rfl⟩:=e;refine⟨a,cap,by simp;omega,by simp;omega,by simp;omega,λj b=>?_⟩;simp at b;obtain⟨g,off,f,d,c⟩:=i j (by omega);exact⟨g,off,f,d,by simpa using c⟩
def aap(base vr vt L R C w)(E:SL base w vr L)(F:RL base w vt R)(G:qL base w R C)(hR:R.length<=1048576)(hL:L.length<=1048576) :
 zF 44 #[.agg #[vr,vt]] w λe w'=>e=zR (zI (mr L C))/\aB [] w w':=by
 obtain⟨a,cap,rfl⟩:=aW F;obtain⟨b,f,rfl⟩:=E.shape;have X:Z_ (R.length=C.length):=G.1;have HR:Z_ (RL base w (.slice a R.length cap) R):=F;have W:Z_ (RS 0 w (.slice b L.length f) L):=(E.rs hL).base (a1G _);have HP:Z_ (qL base w R C):=G;clear F G E;have:=aT;have:=aT [45];have P:=bD w (.cells #[.slice b L.length f,.slice a R.length cap] 82);have Y:Z_ (CB (w.alloc (.cells #[.slice b L.length f,.slice a R.length cap] 82)) w.heap.size (.slice b L.length f) (.slice a R.length cap)):=P;clear P;delta zF;go_in;go_wp2_with fail;go_loopg [10] L.length (λk B wr=>∃(j:Nat),j+k=L.length/\B=zI j/\mq (L.take j) (L.drop j)=mq [] L/\CB wr w.heap.size (.slice b L.length f) (.slice a R.length cap)/\aB [] w wr);exact⟨0,by omega,rfl,rfl,Y,zJ⟩
 .obtain⟨j,T,rfl,t,i,u⟩:=hrel;have A:Z_ (mq (L.take j) (L.drop j)=mq [] L):=t;have q:Z_ (CB wr w.heap.size (.slice b L.length f) (.slice a R.length cap)):=i;have KF:Z_ (aB [] w wr):=u;have d0:=i.c0;have d1:=i.c1;clear t i u;by_cases p:j<L.length
  .have r:RS 0 wr (.slice b L.length f) L:=W.o.aC KF.o (by simp);have N:Z_ (RS 0 wr (.slice b L.length f) L):=r;obtain⟨_,_,e,_,_,U⟩:=r;simp at e;obtain⟨e1,e2⟩:=e;subst e1 e2;obtain⟨g,_,h4,_,_⟩:=U j p;subst h4;clear U;have y:Z_ (L.drop j=L[j]::L.drop (j+1)):=a0k p;have Ht:Z_ (L.take (j+1)=L.take j++[L[j]]):=a0F p;generalize L[j]=x at *;go_wp2_with fail;refine(aaa _ (L.take j) x _ (N.o.take j (by omega))).mono ?_;rintro e w' ⟨rfl,rfl⟩;cases v:(L.take j).contains x
   .have J:Z_ (mq (L.take (j+1)) (L.drop (j+1))=mq [] L):=by
     show _=_;rw[<-A.o,y.o,Ht.o];conv=>rhs;unfold mq
     rw[v];rfl
    go_wp2;go_roundg (gk-1);exact⟨j+1,by omega,by go_num,J,q,KF⟩;omega
   have n:Z_ (mr L C=1):=by show _=_;unfold mr;rw[<-A.o,y.o];unfold mq;rw[v];rfl
   go_wp2;go_ret;exact⟨mJ (by rw[n.o];rfl),KF⟩
  have M:Z_ (mr L C=xM L C 0):=by show _=_;unfold mr;rw[<-A.o,a0i (by omega)];rfl
  clear A;go_wp2_with fail;go_loopg [25] R.length (λk B wr=>∃(j:Nat),j+k=R.length/\B=zI j/\xM L (C.drop j) j=mr L C/\CB wr w.heap.size (.slice b L.length f) (.slice a R.length cap)/\aB [] w wr);exact⟨0,by omega,rfl,M.o.symm,q,KF⟩
  .clear d0 d1 q KF p T;obtain⟨j,T,rfl,S,i,u⟩:=hrel;have KG:Z_ (xM L (C.drop j) j=mr L C):=S;have q:Z_ (CB wr w.heap.size (.slice b L.length f) (.slice a R.length cap)):=i;have KF:Z_ (aB [] w wr):=u;have:=i.c0;have:=i.c1;have:=i.lt;clear S i u;by_cases p:j<R.length
   .have Z:=X.o;have l:R[j]?=some R[j]:=a0a p;have s:C[j]?=some (C[j]'(by omega)):=a0a (by omega);have z:=HP.o.2 j _ _ l s;have y:Z_ (C.drop j=(C[j]'(by omega))::C.drop (j+1)):=a0k (by omega);generalize (C[j]'(by omega))=c at *;have D:RL base wr (.slice a R.length cap) R:=fG HR.o KF.o (by simp);obtain⟨g,hg⟩:∃g,a=some (zA g):=by
     rcases D.2 with⟨e,h⟩|⟨g,c,_,e,_⟩
     .omega
     simp at e;exact⟨g,e.1⟩
    subst hg;have aO:=λk hk=>D.cell l k hk;generalize R[j]=rv at *;obtain⟨d,rc,tb,ek,wt,ev,rp,iJ,co⟩:=rv;have:zC wr g (j*9) (zI d):=aO 0 (by omega);have:zC wr g (j*9+1) (zT rc):=aO 1 (by omega);have:zC wr g (j*9+2) (.bool tb):=aO 2 (by omega);have:zC wr g (j*9+3) ek:=aO 3 (by omega);have:zC wr g (j*9+4) (zI wt):=aO 4 (by omega);have:zC wr g (j*9+5) (zI ev):=aO 5 (by omega);have:zC wr g (j*9+6) (zI rp):=aO 6 (by omega);have:zC wr g (j*9+7) iJ:=aO 7 (by omega);have:zC wr g (j*9+8) (.bool co):=aO 8 (by omega);obtain⟨_,_,eb⟩:=z.Im.shape;obtain⟨_,_,V⟩:=aW z.ifs;have O:=z.rc;simp only at eb V O;subst eb V O;clear aO D z l s Z;have I:Z_ (mr L C=if !(c.rc == [45])&&!(L.contains c.rc) then j+2 else xM L (C.drop (j+1)) (j+1)):=by show _=_;rw[<-KG.o,y.o];rfl
    have r:∀o,RS 0 (wr.alloc o) (.slice b L.length f) L:=λo=>W.o.aC (KF.o.alloc o) (by simp);have N:=aj r;clear KG y r;cases m:(c.rc == [45])
    .go_wp2_with fail;refine(aaa _ L c.rc _ (N.o _)).mono ?_;rintro e w' ⟨rfl,rfl⟩;cases v:L.contains c.rc
     .have n:Z_ (mr L C=j+2):=by show _=_;rw[I.o,m,v];rfl
      go_wp2_with (go_at_call 46;refine(zW _ _ (by omega) (by omega)).mono ?_;rintro e _ ⟨rfl,rfl⟩);go_ret;exact⟨mJ (by rw[n.o];simp),KF.o.alloc _⟩
     have n:Z_ (xM L (C.drop (j+1)) (j+1)=mr L C):=by show _=_;rw[I.o,m,v];rfl
     go_wp2;go_roundg (gk-1);exact⟨j+1,by omega,by go_num,n,q.o.aC zG (by simp),KF.o.alloc _⟩;omega
    have n:Z_ (xM L (C.drop (j+1)) (j+1)=mr L C):=by show _=_;rw[I.o,m];rfl
    go_wp2;go_roundg (gk-1);exact⟨j+1,by omega,by go_num,n,q.o.aC zG (by simp),KF.o.alloc _⟩;omega
   have H:Z_ (mr L C=0):=by show _=_;rw[<-KG.o,a0i (by have:=X.o;omega)];rfl
   go_wp2;go_ret;exact⟨mJ (by rw[H.o];rfl),KF⟩
structure Qf(m:CM):Prop where
 name:aJ m.1=true
 kind:m.2.1<=3
 val:m.2.2.length<=40
structure xN(c:CR):Prop where
 d:c.d<=1048576
 rc:c.rc=[45]\/aJ c.rc=true
 jM:∀n∈c.jM,aJ n=true
 byl:c.jM.length<=4
 wt:-1<=c.wt/\c.wt<=99999
 ev:-1<=c.ev/\c.ev<=99999
 rp:-1<=c.rp/\c.rp<=99999
 ifs:∀m∈c.ifs,Qf m
 ifl:c.ifs.length<=4
theorem xO {n}(h:aJ n=true):n.length<=8:=by grind [aJ]
theorem ade:∀k acc l,acc.length<=40->(tZ k acc l).1.length<=40
 | 0,acc,l,_=>by simp[tZ]
 | k+1,acc,l,h=>by
   unfold tZ;split
   .omega
   split
   .simp
   rename_i a;simp at a;exact ade k _ _ (by simp;omega)
theorem amP(l):(qm l).1.length<=40:=by grind [qm,ade]
theorem adf(l):(jq l).1<=3:=by grind [jq]
def ajN(l)(h:(kF l).2.1=true):Qf (kF l).1:=by unfold kF at h |-;simp only[a0O]at h;exact⟨h.1.1,adf _,amP _⟩
def aaq:∀k acc l,(∀m∈acc,Qf m)->acc.length<=4->(∀m∈(wP k acc l).1,Qf m)/\(wP k acc l).1.length<=4
 | 0,acc,l,h,b=>⟨h,b⟩
 | k+1,acc,l,h,b=>by
   unfold wP;split
   .dsimp only;split
    .exact⟨h,b⟩
    rename_i c;simp at c;refine aaq k _ _ ?_ (by simp;omega);intro m a;rw[a0e,a0w]at a;rcases a with a|rfl
    .exact h m a
    exact ajN _ c.1
   exact⟨h,b⟩
theorem ag1:∀l n,n<=99999->(uP l n).1<=99999
 | [],n,h=>h
 | c::r,n,h=>by
   unfold uP;split
   .split
    .omega
    exact ag1 r _ (by omega)
   omega
theorem apf(l):(lI l).1<=99999:=by grind [lI,ag1]
def Ve(wd l):-1<=(bZ wd l).1/\(bZ wd l).1<=99999:=by
 unfold bZ;split
 .have:=apf (aK wd l);omega
 omega
def aar:∀k acc l,(∀m∈acc,aJ m=true)->acc.length<=4->(∀m∈(uQ k acc l).1,aJ m=true)/\(uQ k acc l).1.length<=4
 | 0,acc,l,h,c=>by simp[uQ]
 | k+1,acc,l,h,c=>by
   unfold uQ;split
   .exact⟨h,c⟩
   dsimp only;generalize (if acc.isEmpty=true then l else aK [44] l)=l1;split
   .simp
   rename_i b;rw[a1a,not_or]at b;simp only[Bool.not_eq_true,Bool.not_eq_false',a1g]at b;refine aar k _ _ ?_ (by simp;omega);intro m a;rw[a0e,a0w]at a;rcases a with a|rfl
   .exact h m a
   exact b.1
theorem adg(n)(p:LB->Prop)(c:p n):∀L s,(∀x∈L,p x)->(∀x∈s.1,p x)->∀x∈(lJ n L s).1,p x
 | [],s,_,a=>a
 | y::r,s,d,a=>by
   unfold lJ;refine adg n p c r _ (λx b=>d x (by simp[b])) ?_;split
   .grind
   grind
theorem ajO(n)(p:LB->Prop)(a:p n)(L)(h:∀x∈L,p x):∀x∈uf L n,p x:=by
 have b:=adg n p a L ([],false) h (by simp);unfold uf;split
 .omega
 grind
def aas(p:LB->Prop):∀(L acc:List LB) ,(∀x∈L,p x)->(∀x∈acc,p x)->(∀x∈L.foldl oH acc,p x)/\(L.foldl oH acc).length<=acc.length+L.length
 | [],acc,_,h=>⟨h,by simp⟩
 | y::r,acc,b,a=>by
   have d:∀x∈oH acc y,p x:=by
    unfold oH;split
    .omega
    exact ajO _ p (b y (by simp)) _ a
   have:=aas p r (oH acc y) (λx c=>b x (by simp[c])) d;have e:=ajL acc y;refine⟨this.1,?_⟩;have f:=this.2;simp[a1R,a0r];omega
def amQ(l):(∀m∈(lK l).names,aJ m=true)/\(lK l).names.length<=4:=by
 unfold lK;split
 .dsimp only;split
  .simp
  have h:=aar 6 [] (aK [32,98,121,32] l) (by simp) (by simp);have a:=aas (λm=>aJ m=true) (gL (aK [32,98,121,32] l)).1 [] h.1 (by simp);refine⟨a.1,?_⟩;have b:=a.2;have c:(gL (aK [32,98,121,32] l)).1.length<=4:=h.2;simp at b;show(DV (gL (aK [32,98,121,32] l)).1).length<=4;unfold DV;omega
 simp
theorem ag2(l)(h:(eZ l).2.1=true):(eZ l).1=[45]\/aJ (eZ l).1=true:=by grind [eZ]
def Kr:∀t,(bO t).1<=t.length
 | []=>by simp[bO]
 | c::r=>by unfold bO;have:=Kr r;split<;>simp<;>omega
def srA(t):=eZ (aK lC (bO t).2)
def srB(t):=lK (srA t).2.2
def Ym(t):=dN (srB t).rest
def srM(t):=IX (Ym t).rest
theorem aat(t):gM t=if aQ lC (bO t).2 then (if (srA t).2.1 then (if (srB t).ok then (if (Ym t).ok then (if (srM t).2.1 then (if (aK iq (srM t).2.2).isEmpty then some ⟨(bO t).1,(srA t).1,(srB t).tells,(srB t).names,(Ym t).wt,(Ym t).ev,(Ym t).rp,(srM t).1,aQ iq (srM t).2.2⟩ else none) else none) else none) else none) else none) else none:=rfl
theorem BA {b o} {c:α}(h:(if b then o else none)=some c):b=true/\o=some c:=by grind
def ae8(t c)(h:gM t=some c):aQ lC (bO t).2=true/\(srA t).2.1=true/\(srB t).ok=true/\(Ym t).ok=true/\(srM t).2.1=true/\(aK iq (srM t).2.2).isEmpty=true /\
 (⟨(bO t).1,(srA t).1,(srB t).tells,(srB t).names,(Ym t).wt,(Ym t).ev,(Ym t).rp,(srM t).1,aQ iq (srM t).2.2⟩:CR)=c:=by
 rw[aat]at h;obtain⟨g,h⟩:=BA h;obtain⟨f,h⟩:=BA h;obtain⟨e,h⟩:=BA h;obtain⟨d,h⟩:=BA h;obtain⟨b,h⟩:=BA h;obtain⟨a,h⟩:=BA h;exact⟨g,f,e,d,b,a,Option.some.inj h⟩
def ae9(t c)(ht:t.length<=1048576)(h:gM t=some c):xN c:=by obtain⟨i,b,g,f,e,d,rfl⟩:=ae8 t c h;have hb:=amQ (eZ (aK lC (bO t).2)).2.2;have a:=aaq 6 [] (dN (lK (eZ (aK lC (bO t).2)).2.2).rest).rest (by simp) (by simp);exact⟨a0h (Kr t) ht,ag2 _ b,hb.1,hb.2,Ve _ _,Ve _ _,Ve _ _,a.1,a.2⟩
theorem aau:∀k acc l L,(∀m∈acc,aJ m=true)->acc.length<=8->DW k acc l=some L->(∀m∈L,aJ m=true)/\L.length<=8
 | 0,acc,l,L,_,_,h=>by simp[DW]at h
 | k+1,acc,l,L,c,d,h=>by
   unfold DW at h;split at h
   .dsimp only at h;split at h
    .cases h
    rename_i b;rw[a1a,not_or]at b;simp only[Bool.not_eq_true,Bool.not_eq_false',a1g]at b;refine aau k _ _ L ?_ (by simp;omega) h;intro m a;rw[a0e,a0w]at a;rcases a with a|rfl
    .exact c m a
    exact b.1
   grind
def afa(t L)(h:iW t=some L):(∀m∈L,aJ m=true)/\L.length<=8:=by
 unfold iW at h;split at h
 .exact aau 10 [] _ L (by simp) (by simp) h
 cases h
theorem Ir:∀t ln cur L C a b,t.length+cur.length<=1048576->(∀m∈L,aJ m=true)->L.length<=8->(∀c∈C,xN c)->yw t ln cur L C=.ok (a,b)->(∀m∈a,aJ m=true)/\a.length<=8/\(∀c∈b,xN c)
 | [],ln,cur,L,C,a,b,_,g,f,e,h=>by grind [yw]
 | c::r,ln,cur,L,C,a,b,j,g,f,e,h=>by
   simp only[a0r]at j;unfold yw at h;split at h
   .split at h
    .split at h
     .cases h
     rename_i l k;have:=afa _ _ k;exact Ir r 2 [] l C a b (by simp;omega) this.1 this.2 e h
    split at h
    .cases h
    rename_i x i
    have:=ae9 _ _ (by omega) i;refine Ir r (ln+1) [] L (C++[x]) a b (by simp;omega) g f ?_ h;intro c d;rw[a0e,a0w]at d;rcases d with d|rfl
    .exact e c d
    omega
   exact Ir r ln (cur++[c]) L C a b (by simp;omega) g f e h
def qT(t L C)(ht:t.length<=1048576)(h:oV t=.ok (L,C)):(∀m∈L,aJ m=true)/\L.length<=8/\(∀c∈C,xN c) :=
 Ir t 1 [] [] [] L C (by omega) (by simp) (by simp) (by simp) h
def jH(t:LB):Except (Nat × Nat) (List LB × List CR) :=
 if 1200<t.length then .error (1,0) else
 match oV t with
 | .error n=>.error (2,n)
 | .ok (L,C)=>if 0<iX C then .error (3,iX C) else if 0<mr L C then .error (4,mr L C) else .ok (L,C)
def apg(base:Nat)(w:World)(vr vt:Value)(e ln:Int):Except (Nat × Nat) (List LB × List CR)->Prop
 | .error (n,l)=>vr=zN/\vt=zN/\e=n/\ln=l/\1<=n
 | .ok (R,C)=>e=0/\ln=0/\SL base w vr R/\∃a,RL base w vt a/\qL base w a C/\a.length<=1048576
def results_read {rb vr vt e ln tmps}(h:CB w rb vr vt)(g:tmps.getD 2 undef=zP rb)(f:tmps.getD 3 undef=zI e)(d:tmps.getD 4 undef=zI ln) :
 (results Tryz.f28 tmps).run Tryz.prog w=.ok (.tuple #[.agg #[vr,vt],zI e,zI ln]) w:=by
 have c:tmps[2]?.getD undef=zP rb:=by simpa using g
 have b:tmps[3]?.getD undef=zI e:=by simpa using f
 have a:tmps[4]?.getD undef=zI ln:=by simpa using d
 simp only[results,Tryz.results28];simp[Sem.run_bind,Result.andThen,c,b,a,asAddr,adb h]
def afb(t w)(ht:t.length<=1048576) :
 zF 28 #[zT t] w λe w'=>aB [] w w'/\∃vr vt er ln,e=zQ #[.agg #[vr,vt],zI er,zI ln]/\apg w.heap.size w' vr vt er ln (jH t):=by
 have eG:=bL t;have kM:=bD w (Obj.cells #[zN,zN] 82);have T:CB (w.alloc (Obj.cells #[zN,zN] 82)) w.heap.size zN zN:=kM;clear kM;by_cases I:1200<t.length
 .have D:jH t=.error (1,0):=by unfold jH;rw[a0m I]
  delta zF;go_in;go_wp2;refine bodyPost_ret (results_read (vr:=zN) (vt:=zN) (e:=1) (ln:=0) (rb:=w.heap.size) ?_ (by rfl) (by rfl) (by rfl)) rfl ?_
  .exact T
  rw[D];exact⟨zJ,_,_,_,_,rfl,rfl,rfl,rfl,rfl,a0b _⟩
 have G:jH t=match oV t with
  | .error n=>.error (2,n)
  | .ok (L,C)=>if 0<iX C then .error (3,iX C) else if 0<mr L C then .error (4,mr L C) else .ok (L,C):=by
  unfold jH;rw[a0n I]
 delta zF;go_in;go_wp2_with fail;refine(aah t _ (by omega)).mono ?_;rintro e g ⟨S,vr,vt,ln,rfl,R⟩;have fM:w.heap.size<g.heap.size:=by have:=S.size;simp at this;omega
 have E:CB g w.heap.size zN zN:=T.aC S (by simp);have KF:aB [] w g:=zJ.trans S;clear S T;cases P:oV t with
 | error n =>
   rw[P]at R G;obtain⟨rfl,rfl,rfl,hn⟩:=R;have d0:=E.c0;have d1:=E.c1;have df:=E.fz;have dZ:(0:Int)<(n:Int):=by omega
   go_wp2;refine bodyPost_ret (results_read (vr:=zN) (vt:=zN) (e:=2) (ln:=n) (rb:=w.heap.size) ?_ (by rfl) (by rfl) (by rfl)) rfl ?_
   .exact((E.set0 _).set1 _).aC zG (by simp)
   rw[G];exact⟨((KF.setCell (by simp) _).setCell (by simp) _).alloc _,_,_,_,_,rfl,rfl,rfl,rfl,rfl,by omega⟩
 | ok LC =>
   obtain⟨L,C⟩:=LC;have J:=qT t L C (by omega) P;rw[P]at R G;obtain⟨rfl,V,a,X,Qe,U⟩:=R;obtain⟨o,j,rfl⟩:=V.shape;obtain⟨l,n1,rfl⟩:=aW X;have KS:SL (w.heap.size+1) g (.slice o L.length j) L:=(by simpa using V);have KL:RL (w.heap.size+1) g (.slice l a.length n1) a:=(by simpa using X);have KP:qL (w.heap.size+1) g a C:=(by simpa using Qe);have KG:(∀m∈L,aJ m=true)/\L.length<=8/\(∀c∈C,xN c):=J;clear V X Qe J P;have M:=bD g (Obj.cells #[.slice o L.length j,.slice l a.length n1] 82);have HN:CB (g.alloc (Obj.cells #[.slice o L.length j,.slice l a.length n1] 82)) g.heap.size (.slice o L.length j) (.slice l a.length n1):=M;clear M;go_wp2_with fail;refine(aan (w.heap.size+1) _ a C _ (KL.aC zG (by simp)) (KP.aC zG (by intro k v;simp at v)) U (λc hc=>(KG.2.2 c hc).d)).mono ?_;rintro e r ⟨rfl,W⟩;have f:aB [] g r:=zJ.trans W;have p:CB r g.heap.size (.slice o L.length j) (.slice l a.length n1):=HN.aC W (by simp);have b:CB r w.heap.size zN zN:=E.aC f (by simp);have B:aB [] w r:=KF.trans f;have y:SL (w.heap.size+1) r (.slice o L.length j) L:=KS.aC f (by simp);have A:RL (w.heap.size+1) r (.slice l a.length n1) a:=KL.aC f (by simp);have z:qL (w.heap.size+1) r a C:=KP.aC f (by intro k v;simp at v);clear W f HN E KF KS KL KP;by_cases s:0<iX C
   .have D:jH t=.error (3,iX C):=by rw[G];simp[s]
    have d0:=b.c0;have d1:=b.c1;have df:=b.fz;have dZ:(0:Int)<(iX C:Int):=by omega
    generalize iX C=tf at *;go_wp2;refine bodyPost_ret (results_read (vr:=zN) (vt:=zN) (e:=3) (ln:=tf) (rb:=w.heap.size) ?_ (by rfl) (by rfl) (by rfl)) rfl ?_
    .exact(b.set0 _).set1 _
    rw[D];exact⟨(B.setCell (by simp) _).setCell (by simp) _,_,_,_,_,rfl,rfl,rfl,rfl,rfl,by omega⟩
   have h:iX C=0:=by omega
   have e0:=p.c0;have e1:=p.c1;rw[h];go_wp2_with fail;refine(aap (w.heap.size+1) _ _ L a C _ y A z U (by have:=KG.2.1;omega)).mono ?_;rintro e q ⟨rfl,x⟩;have N:CB q g.heap.size (.slice o L.length j) (.slice l a.length n1):=p.aC x (by simp);have i:CB q w.heap.size zN zN:=b.aC x (by simp);have O:aB [] w q:=B.trans x;have Y:SL (w.heap.size+1) q (.slice o L.length j) L:=y.aC x (by simp);have KL3:RL (w.heap.size+1) q (.slice l a.length n1) a:=A.aC x (by simp);have Z:qL (w.heap.size+1) q a C:=z.aC x (by intro k v;simp at v);clear x p b B y A z e0 e1;have d0:=i.c0;have d1:=i.c1;have df:=i.fz;by_cases H:0<mr L C
   .have D:jH t=.error (4,mr L C):=by rw[G];simp[h,H]
    have dZ:(0:Int)<(mr L C:Int):=by omega
    generalize mr L C=nf at *;clear h s;go_wp2;refine bodyPost_ret (results_read (vr:=zN) (vt:=zN) (e:=4) (ln:=nf) (rb:=w.heap.size) ?_ (by rfl) (by rfl) (by rfl)) rfl ?_
    .exact(i.set0 _).set1 _
    rw[D];exact⟨(O.setCell (by simp) _).setCell (by simp) _,_,_,_,_,rfl,rfl,rfl,rfl,rfl,by omega⟩
   have u:mr L C=0:=by omega
   have D:jH t=.ok (L,C):=by rw[G];simp[h,u]
   rw[u];have e0:=N.c0;have e1:=N.c1;clear h s u H;go_wp2;refine bodyPost_ret (results_read (vr:=.slice o L.length j) (vt:=.slice l a.length n1) (e:=0) (ln:=0) (rb:=w.heap.size) ?_ (by rfl) (by rfl) (by rfl)) rfl ?_
   .exact(i.set0 _).set1 _
   have F:aB [w.heap.size] q ((q.setCell (zA w.heap.size) (.slice o L.length j)).setCell (zB w.heap.size 1) (.slice l a.length n1)):=(zK.setCell (by simp) _).setCell (by simp) _;rw[D];refine⟨(O.setCell (by simp) _).setCell (by simp) _,_,_,_,_,rfl,rfl,rfl,(Y.aC F (by simp)).base (by omega),a,wQ (KL3.aC F (by simp)) (by omega),(Z.aC F (by intro k v;simp at v;exact Or.inl (by omega))).base (by omega),U⟩
def jr(k:Nat):LB:=if k=1 then [33,61] else if k=2 then [61,126] else if k=3 then [33,126] else [61]
def my(x y:UInt8):((x.toNat:Int)==(y.toNat:Int))=(x==y):=by
 rw[a0T,a0W,a0W];constructor
 .intro h;exact a1w.1 (a2N.1 h)
 intro h;rw[h]
def oI(L:List LB)(n:LB):Int:=match L.findIdx? (·==n) with | some i=>(i:Int)|none=>-1
def wh(v L n w)(h:RS 0 w v L) :
 zF 68 #[v,zT n] w λe w'=>e=zR (zI (oI L n))/\w=w':=by
 obtain⟨a,cap,rfl,B,A,l⟩:=h;have r:=l;have s:=aT;delta zF;go_in;go_wp2;go_loopg [5] L.length (λk i wr=>∃j,j+k=L.length/\i=zI j/\wr=w/\(∀x∈L.take j,(x==n)=false));exact⟨0,by omega,rfl,rfl,by simp⟩
 .obtain⟨j,t,rfl,o,c⟩:=hrel;subst o;by_cases f:j<L.length
  .obtain⟨g,off,rfl,_,z⟩:=r j f;have p:=a0F f;have q:(L[j]==n)=true->L.findIdx? (·==n)=some j:=by intro he;rw[a2e];refine⟨f,he,λi u=>?_⟩;have:=c (L[i]'(by omega)) (by rw[a3r];exact⟨i,by omega,rfl⟩);rw[this];simp
   generalize L[j]=x at *;cases he:(x==n)
   .have m:∀y∈L.take (j+1),(y==n)=false:=by
     intro y b;rw[p,a0e,a0w]at b;rcases b with b|rfl
     .exact c y b
     exact he
    go_wp2;go_roundg (gk-1);exact⟨j+1,by omega,by go_num,rfl,m⟩;omega
   have d:oI L n=(j:Int):=by unfold oI;rw[q he]
   go_wp2;go_ret;rw[d];exact⟨rfl,rfl⟩
  have d:oI L n=-1:=by
   have h:L.findIdx? (·==n)=none:=by rw[a2C];have:=c;rw[a0C (by omega)]at this;exact this
   unfold oI;rw[h]
  go_wp2;go_ret;rw[d];exact⟨rfl,rfl⟩
def ak3(w:World)(c):(convert 90 9 (zS w.heap.size 1 1)).run Tryz.prog (w.alloc (.cells #[.int .u8 c.toNat] 5))=.ok (.string (bs [c])) (w.alloc (.cells #[.int .u8 c.toNat] 5)):=by
 have:=run_convert_bytes_back (P:=Tryz.prog) (w.alloc (.cells #[.int .u8 c.toNat] 5)) 90 9 5 (zA w.heap.size) 1 [c] Tryz.underlying90 Tryz.underlying5 Tryz.underlying9 (λj a=>by
  have:j=0:=by simp at a;omega
  subst this;rw[add0];unfold World.cell?;simp only[bD];rfl)
 exact this
def lL(c:UInt8):Int:=match xw.findIdx? (·==c) with | some i=>(i:Int)|none=>-1
def ag3(c):-1<=lL c/\lL c<=15:=by
 unfold lL;cases h:xw.findIdx? (·==c) with
 | none=>simp
 | some i=>have:=(a2e.1 h).1;have:xw.length=16:=rfl;simp only;omega
def aaw(c w) :
 zF 120 #[.int .u8 c.toNat] w λe w'=>e=zR (zI (lL c))/\w=w':=by
 have g:xw.length=16:=rfl;have o:=bL xw;have p:({ data:=#[48,49,50,51,52,53,54,55,56,57,97,98,99,100,101,102] }:ByteArray)=bs xw:=rfl;delta zF;go_in;go_wp2;go_loopg [3] 16 (λk i wr=>∃j,j+k=16/\i=zI j/\wr=w/\(∀x∈xw.take j,(x==c)=false));exact⟨0,by omega,rfl,rfl,by simp⟩
 .obtain⟨j,u,rfl,n,b⟩:=hrel;subst n;by_cases q:j<16
  .have d:=q;have t:(bs xw)[j]'(by rw[o];exact d)=xw[j]:=rfl;have r:xw.take (j+1)=xw.take j++[xw[j]]:=a0F d;have s:(xw[j]==c)=true->lL c=(j:Int):=by
    intro he;have:xw.findIdx? (·==c)=some j:=by rw[a2e];refine⟨d,he,λi v=>?_⟩;have:=b (xw[i]'(by omega)) (by rw[a3r];exact⟨i,by omega,rfl⟩);rw[this];simp
    unfold lL;rw[this]
   generalize xw[j]=x at *;have l:((x.toNat:Int)==(c.toNat:Int))=(x==c):=by
    rw[a0T,a0W,a0W];constructor
    .intro h;exact a1w.1 (a2N.1 h)
    intro h;rw[h]
   cases he:(x==c)
   .rw[he]at l;have m:∀y∈xw.take (j+1),(y==c)=false:=by
     intro y a;rw[r,a0e,a0w]at a;rcases a with a|rfl
     .exact b y a
     exact he
    go_wp2;go_roundg (gk-1);exact⟨j+1,by omega,by go_num,rfl,m⟩;omega
   rw[he]at l;have f:=s he;go_wp2;go_ret;rw[f];exact⟨rfl,rfl⟩
  have f:lL c=-1:=by
   have h:xw.findIdx? (·==c)=none:=by rw[a2C];have:=b;rw[a0C (by rw[g];omega)]at this;exact this
   unfold lL;rw[h]
  go_wp2;go_ret;rw[f];exact⟨rfl,rfl⟩
def Ap:LB->Int->Int
 | [],n=>n
 | c::r,n=>if lW c.toNat then Ap r (10*n+c.toNat-48) else -1
def iR(l:LB):Int :=
 if l.isEmpty then -1
 else if decide (5<l.length) then -1
 else if !(l.all nG) then -1
 else if (hd l==48)&&!(l == [48]) then -1 else Ap l 0
abbrev apj:ByteArray:=⟨#[48,49,50,51,52,53,54,55,56,57,97,98,99,100,101,102]⟩
def alp:∀k (h:k<apj.size),apj[k]'h=sI k:=by
 have h:∀k:Fin 16,apj[k.1]'(by have:=k.2;exact this)=sI k.1:=by decide +kernel
 intro k a;exact h ⟨k,a⟩
theorem Ow(s k):setName s (k+1)=setName s k++(if s.testBit k then [sI (k / 16),sI (k % 16)] else []):=rfl
theorem EE:∀s k,(∀i,i<k->s.testBit i=false)↔(setName s k).isEmpty=true
 | s,0=>by simp[setName]
 | s,k+1=>by
   have d:=EE s k;have g:∀a b:LB,(a++b).isEmpty=(a.isEmpty&&b.isEmpty):=by intro a b;cases a<;>simp
   rw[Ow,g,a0O,<-d];constructor
   .intro h;exact⟨λi f=>h i (by omega),by rw[h k (by omega)];rfl⟩
   intro⟨j,c⟩ i f;by_cases e:i=k
   .subst e;cases hb:s.testBit i
    .rfl
    rw[hb]at c;simp at c
   exact j i (by omega)
def amR(w:World)(x y):(convert 90 9 (zS w.heap.size 2 2)).run Tryz.prog (w.alloc (.cells #[.int .u8 x.toNat,.int .u8 y.toNat] 5))=.ok (.string (bs [x,y])) (w.alloc (.cells #[.int .u8 x.toNat,.int .u8 y.toNat] 5)):=by
 have:=run_convert_bytes_back (P:=Tryz.prog) (w.alloc (.cells #[.int .u8 x.toNat,.int .u8 y.toNat] 5)) 90 9 5 (zA w.heap.size) 2 [x,y] Tryz.underlying90 Tryz.underlying5 Tryz.underlying9 (λj a=>by
  have:j=0\/j=1:=by simp at a;omega
  rcases this with rfl|rfl
  .rw[add0];unfold World.cell?;simp only[bD];rfl
  rw[add0];unfold World.cell?;simp only[bD];rfl)
 exact this
def Vf(s:Nat):NF:=if s=0 then .zero else .set s
def amS:(Tryz.prog.info? 183).map (·.size)=some 256:=by kernel_rfl
def ajP(b o s w wr z)(H:∀i,i<256->zC w b (o+i) (.bool (s.testBit i)))(F:aB [] w wr) :
 ∃LB:List Value,wr.rangeAt b o LB/\(Tryz.prog.info? 183).map (·.size)=some LB.length /\
  Tryz.prog.built 191 [(0,.int .u8 115),(1,.agg LB.toArray),(5,.string z)]=some (Km 115 (bl s) sM sM AM z.data.toList):=by
 refine⟨(bl s).map Value.bool,?_,by rw[a0y,ak0];exact amS,avV s z⟩;intro j v a;rw[a0Q]at a;cases d:(bl s)[j]? with
 | none=>rw[d]at a;simp at a
 | some x=>have c:=(a0d.1 d).1;rw[ak0]at c;rw[Ib s j c]at a;simp only[a1x,Option.some.injEq]at a;rw[<-a];exact(F.cell (p:=(zB b (o+j))) (bY (H j c)) (by simp)).trans (H j c)
def SG(b o s w)(h:∀i,i<256->zC w b (o+i) (.bool (s.testBit i)))(v:s<2 ^ 256) :
 zF 101 #[.pointer (some (zB b o))] w (zU w (Vf s)):=by
 have H:=aj h;delta zF;go_in;go_wp2_with fail;go_loopg [3,4,5] 256 (λk u t r wr=>∃(c:Nat),c+k=256/\r=zI c/\u=zT (115::setName s c)/\t=.bool (!(setName s c).isEmpty)/\aB [] w wr);case atStart=>exact⟨0,rfl,rfl,rfl,rfl,aB.refl _ _⟩
 case round =>
  obtain⟨c,y,rfl,rfl,rfl,d⟩:=hrel;have F:=aj d;have a:=aj (Ow s c);by_cases q:c<256
  .have aO:zC wr b (o+c) (.bool (s.testBit c)):=(F.o.cell (bY (H.o c q)) (by simp)).trans (H.o c q);cases hb:s.testBit c
   .rw[hb]at aO a;simp[a0A,a0I,a0R]at a;go_wp2;go_roundg (gk-1);case measure=>omega
    case rel=>exact⟨c+1,by omega,by go_num,by rw[a.o],by rw[a.o],F⟩
   rw[hb]at aO a;simp[a0G]at a;have hq:(c:Int).tdiv 16=((c / 16:Nat):Int):=by rw[a2z (by omega)];omega
   have O:(c:Int).tmod 16=((c % 16:Nat):Int):=by rw[a2f (by omega)];omega
   have l:c / 16<16:=by omega
   have j:c % 16<16:=by omega
   have M:=alp (c / 16) l;have L:=alp (c % 16) j;have R:=Ia s c;have T:bs (115::setName s c)++bs [sI (c / 16),sI (c % 16)]=bs (115::setName s (c+1)):=by rw[mf,a.o];rfl
   have s1:(bs (115::setName s c)).size=(setName s c).length+1:=bL _;have s2:(bs [sI (c / 16),sI (c % 16)]).size=2:=rfl;have J:¬ (9223372036854775807<(setName s c).length+1+2):=by omega
   have x:(convert 90 9 (zS wr.heap.size 2 2)).run Tryz.prog (wr.alloc (.cells #[.int .u8 (sI (c / 16)).toNat,.int .u8 (sI (c % 16)).toNat] 5)).drew=.ok (.string (bs [sI (c / 16),sI (c % 16)])) (wr.alloc (.cells #[.int .u8 (sI (c / 16)).toNat,.int .u8 (sI (c % 16)).toNat] 5)).drew:=amR wr.drew (sI (c / 16)) (sI (c % 16));generalize c / 16=cq at *;generalize c % 16=U at *;go_wp2_with fail;go_region;go_wp2;go_roundg (gk-1);case measure=>omega
   case rel=>exact⟨c+1,by omega,by go_num,rfl,by rw[a.o];simp,(F.o.drew).alloc _⟩
  have g:c=256:=by omega
  subst g;have hz:(setName s 256).isEmpty=decide (s=0):=by
   by_cases e:s=0
   .subst e;rw[(EE 0 256).1 (λi _=>Nat.zero_testBit i)];rfl
   have:¬ (setName s 256).isEmpty=true:=by
    rw[<-EE s 256];intro z;obtain⟨i,f⟩:=Nat.exists_testBit_of_ne_zero e;by_cases D:i<256
    .rw[z i D]at f;simp at f
    have B:s<2 ^ i:=a0t v (a1r (by decide) (by omega));rw[a1z B]at f;simp at f
   simp only[Bool.not_eq_true]at this;rw[this];simp[e]
  by_cases e:s=0
  .rw[a0g e]at hz;have HR:Z_ (Vf s=.zero):=a0m e;rw[hz];simp[a2O];go_wp2_with fail;refine((aj (oQ _)).o).mono ?_;rintro S I ⟨p,rfl,n,d⟩;unfold aM;go_wp2;go_ret;rw[HR.o];exact⟨p,rfl,aj n,aj (F.o.trans d)⟩
  rw[a0f e]at hz;have HR:Z_ (Vf s=.set s):=a0n e;rw[hz];obtain⟨LB,m,A,ST⟩:=ajP _ _ _ _ _ _ H.o F;have fin:Z_ (TN (wr.alloc (.cells (Km 115 (bl s) sM sM AM (bs (115::setName s 256)).data.toList) 191)) wr.heap.size (.set s)):=by
   show TN _ _ _;simp[TN];refine TK.of ?_ (ak0 s);rw[MN];simp[name]
  obtain⟨C,hC⟩:∃C,Km 115 (bl s) sM sM AM (bs (115::setName s 256)).data.toList=C:=⟨_,rfl⟩;rw[hC]at ST fin;simp[a1K];go_wp2_with (first | refine wpList_load_mid rfl 183 _ rfl b o rfl LB _ m Tryz.underlying183 rfl A ?_|refine wpList_buildTo rfl 191 _ rfl _ rfl C (by rw[Array.toList_map];exact ST) ?_);go_ret;rw[HR.o];exact⟨_,rfl,fin,F.o.alloc _⟩
theorem adi:∀a b,Op.bytesLess a b=blt a b
 | [],[]=>rfl
 | [],_::_=>rfl
 | _::_,[]=>rfl
 | a::x,b::y=>by
   simp only[Op.bytesLess,blt,adi x y];cases c:decide (a<b)
   .have:¬ a<b:=by simpa using c
    rw[a0n this];cases d:(a==b)<;>simp
   have:a<b:=by simpa using c
   rw[a0m this];simp
def afc:∀(l:List NF) (x:NF) (j:Nat),(∀y∈l.take j,blt (name y) (name x)=true)->(∀y,l[j]?=some y->blt (name y) (name x)=false)->j<=l.length ->
 put l x=(match l[j]? with | some y=>if name y==name x then l else l.take j++x::l.drop j|none=>l.take j++x::l.drop j)
 | [],x,j,_,_,a=>by
   have:j=0:=by simpa using a
   subst this;simp[put]
 | y::r,x,0,_,c,_=>by have b:=c y rfl;simp only[put,b,a0A,a0I,List.getElem?_cons_zero,a3w,a0V,a2j]
 | y::r,x,j+1,d,c,a=>by
   have b:=d y (by simp);have e:=afc r x j (λz hz=>d z (by simp[hz])) (λz hz=>c z (by simpa using hz)) (by simpa using a);simp only[put,b,a0G,a1m,a2J,List.drop_succ_cons,a0L];rw[e];cases r[j]? with
   | none=>rfl
   | some z=>simp only[];split<;>rfl
def DY:(Tryz.prog.info? 187).map (λi=>(i.zero,i.size,i.bytes))=some (some (.pointer none),1,8):=by kernel_rfl
def SI {ops rest o a} {Q:Exit->Act->World->Prop}(w)(f:o.guard=none)(s x)
 (ho:o.op=.call { callee:=.builtin .append,args:=#[s,x],argTypes:=#[189,189] })
 (base v xs news N d b m c) (z:N=xs.length+m) (F:news.length=m) (n:a.eval s=v) (E:OV 187 base w v xs) (k:a.eval x=.slice (some (zB d b)) m c)
 (t:∀j u,news[j]?=some u->zC w d (b+j) u) (l:∀u∈news,u.oneCell'=true) (p:0<m) (hlen:(xs.length+m)*8<=140737488355328) (e:base<=w.heap.size)
 (h:∀g cap w',OV 187 base w' (zS g N cap) (xs++news)->w.grownBy w' v.ownBlock->wpList Tryz.prog ops Q rest (a.put o.dst (zS g N cap)) w') :
 wpList Tryz.prog ops Q (o::rest) a w:=by
 subst z;obtain⟨i,r,gT,D,C⟩:=info_parts DY;refine wpList_append_lies w f s x 189 ho base 187 i (.pointer none) 1 8 Tryz.underlying189 r gT D C rfl (by decide) v xs.length xs n E (zB d b) m c news k (by omega) ?_ l p (by unfold maxLen;omega) hlen e w.heap.size rfl ?_
 .intro j y q;rw[Addr.add_mid];exact t j y q
 intro g cap w' B A H G;exact h g cap w' (by unfold OV;rw[a0p,F];omega) A
def OV.alq {e base xs}(h:OV e base w (.slice a n cap) xs):n<=cap:=by
 rcases h.2 with⟨e,j⟩|⟨g,c,_,e,_,d,b,_⟩
 .simp[Value.slice.injEq]at e;omega
 simp[Value.slice.injEq]at e;omega
def Ks(L:LN):∀u∈L.map aM,u.oneCell'=true:=by
 intro u a;obtain⟨n,_,rfl⟩:=a0q.1 a;rfl
def TV(w:World)(v:Value)(l:List NF):Prop:=∃a,RVq w v (a.map aM)/\jC w a l
theorem TV.aC(h:TV w v l)(f:aB [] w w'):TV w' v l:=by obtain⟨a,c,b⟩:=h;exact⟨a,c.aC f,b.aC f⟩
def PtQ(w:World)(l:List NF)(e:Ending)(w':World):Prop:=∃v,e=zR v/\TV w' v l/\aB [] w w'
def adj(w v l p x)(hv:TV w v l)(hx:TN w p x)(hl:l.length<=10000000000000) :
 zF 123 #[v,aM p] w (PtQ w (put l x)):=by
 obtain⟨a,⟨M,_,n,cap,rfl,hn,Fz,uz,hc⟩,hs⟩:=hv;have hlen:=hs.len;rw[a0y]at hn;have uD:=hn.trans hlen;subst uD;have L:=hx.nm;have X:=aj hx;have R:=aj hc;have I:=aj hs;have DZ:=aj hlen;have Hbd:=aj M;have Hab:=aj uz;clear uz;have:=aT;unfold aM;clear hc hs hx hn hlen M;delta zF;go_in;go_wp2_with fail;go_loopg [5] l.length (λk v5 wr=>∃(j:Nat),j+k=l.length/\v5=zI j/\aB [] w wr/\(∀y∈l.take j,blt (name y) (name x)=true));case atStart=>exact⟨0,by omega,rfl,aB.refl _ _,by simp⟩
 case round =>
  obtain⟨j,lU,rfl,hf,ja⟩:=hrel;have F:=aj hf;have oL:=aj ja;have:=(hf.cell (p:=(zB p 260)) (bY L) (by simp)).trans L;clear hf ja;by_cases hj:j<l.length
  .obtain⟨y,H⟩:∃y,l[j]?=some y:=⟨l[j],a0a hj⟩;obtain⟨q,hq,Ij⟩:=I.o.get j y H;obtain⟨g,rfl,aO⟩:=R.o j (aM q) (by rw[a0Q,hq];rfl);have alr:=(F.o.cell (p:=(zB g j)) (bY aO) (by simp)).trans aO;have:=(Ij.aC F).nm;have B:=decLt j l.length (by omega);have:(j:Int)<(l.length:Int):=by omega
   have Hy:=aj H;have aL:=adi (name y) (name x);unfold aM at alr;clear aO hq Ij H;cases hb:blt (name y) (name x)
   case true =>
    rw[hb]at aL;have Ht:Z_ (l.take (j+1)=l.take j++[y]):=by show _=_;rw[a1c,Hy.o];rfl
    go_wp2_with fail;go_quiet (fail);go_wp2;go_roundg (gk-1);case measure=>omega
    case rel =>
     refine⟨j+1,by omega,by go_num,F.o.drewN _,?_⟩;intro z hz;rw[Ht.o,a0e,a0w]at hz;rcases hz with hz|rfl
     .exact oL.o z hz
     exact hb
   case false =>
    rw[hb]at aL;have m:=aj (afc l x j oL.o (λz hz=>by rw[Hy.o]at hz;simp at hz;subst hz;exact hb) (by omega));rw[Hy.o]at m;simp only[]at m;cases UA:(name y==name x)
    case true =>
     rw[UA]at m;simp only[a0G]at m;go_wp2_with fail;go_quiet (fail);go_wp2_with fail;go_quiet (fail);go_wp2;go_ret;rw[m.o];exact⟨_,rfl,TV.aC ⟨a,⟨Hbd,_,_,cap,rfl,by rw[a0y,DZ.o],Fz,.inr ⟨g,rfl⟩,R⟩,I⟩ ((F.o.drewN _).drewN _),(F.o.drewN _).drewN _⟩
    case false =>
     rw[UA]at m;simp only[a0A,a0I]at m;go_wp2_with fail;go_quiet (fail);go_wp2_with fail;go_quiet (fail);have U:∀i u,(a.map aM)[i]?=some u->zC w g i u:=by
      intro i u f;obtain⟨g',e,h⟩:=R.o i u f;simp at e;subst e;exact h
     have s:Z_ (∀n,aB [] w (wr.drewN n)):=λn=>F.o.drewN n;have lV:=DZ.o;have zw:=F.o.size;have E:Z_ (∀n i u,((a.take j).map aM)[i]?=some u->zC (wr.drewN n) g (0+i) u):=by
      intro n i u f;rw[a1n];rw[List.map_take,List.getElem?_take]at f;split at f
      .have h:=U i u f;exact((s.o n).cell (p:=(zB g i)) (bY h) (by simp)).trans h
      simp at f
     have HC2:Z_ (∀W,aB [] w W->∀i u,((a.drop j).map aM)[i]?=some u->zC W g (j+i) u):=by
      intro W C i u f;rw[List.map_drop,a3u]at f;have h:=U (j+i) u f;exact(C.cell (p:=(zB g (j+i))) (bY h) (by simp)).trans h
     have HC3:Z_ (∀W,aB [] w W->∀i u,(a.map aM)[i]?=some u->zC W g (0+i) u):=by
      intro W C i u f;rw[a1n];have h:=U i u f;exact(C.cell (p:=(zB g i)) (bY h) (by simp)).trans h
     clear U;by_cases j0:j=0
     .subst j0;go_wp2_with (first | (at_builtin;refine DL _ rfl _ _ 189 187 _ 8 DY Tryz.underlying189 rfl rfl w.heap.size zN [] 1 wr.heap.size (aM p) rfl rfl (OV.nil _ _ _) rfl (mi _ _ _ _ rfl) rfl (by simp) (by simp) (by simp;omega) ?_;intro N c8 V b c D A;have t:=aj b;have r:=aj (((s.o _).alloc _).grown c (λk d=>by simp[Value.ownBlock]at d));have J:=r.o.size;have k8:=OV.alq b;clear b c D A)|(at_builtin;refine SI _ rfl _ _ rfl w.heap.size (zS N 1 c8) ([]++[aM p]) (a.map aM) (l.length+1) _ _ _ _ (by simp;omega) (by simp;omega) rfl t.o rfl (HC3.o _ r) (Ks _) (by omega) (by simp;omega) J ?_;intro g9 c9 w9 b c;have O9:=aj b;have G:=aj (r.o.grown c (λk d=>.inr (t.o.base k d)));clear b c));go_ret;rw[m.o];have e:(([]:List Value)++[aM p])++a.map aM=(p::a).map aM:=rfl;refine⟨_,rfl,⟨p::a,?_,?_⟩,G⟩
      .rw[<-e];exact O9.o.rv (by simp;omega)
      show jC _ _ (x::l);simp only[jC];exact⟨X.o.aC G,I.o.aC G⟩
     go_wp2_with (first | (at_builtin;refine SI _ rfl _ _ rfl w.heap.size zN [] ((a.take j).map aM) j _ _ _ _ (by simp) (by simp;omega) rfl (OV.nil _ _ _) rfl (E.o _) (Ks _) (by omega) (by simp;omega) (s.o _).size ?_;intro g7 c7 Y b c;have P:=aj b;have F7:=aj ((s.o _).grown c (λk d=>by simp[Value.ownBlock]at d));have z7:=a0h (s.o _).size c.size;clear b c)|(at_builtin;refine DL _ rfl _ _ 189 187 _ 8 DY Tryz.underlying189 rfl rfl w.heap.size (zS g7 j c7) ([]++(a.take j).map aM) (j+1) Y.heap.size (aM p) (by simp;omega) rfl (P.o.aC (S:=[]) ((aB.refl [] _).alloc _) (by simp)) rfl (mi _ _ _ _ rfl) rfl (by simp;omega) (by simp;omega) (by simp;omega) ?_;intro N c8 V b c D A;have t:=aj b;have r:=aj ((F7.o.alloc _).grown c (λk d=>.inr (P.o.base k d)));have J:=r.o.size;have k8:=OV.alq b;clear b c D A)|(at_builtin;refine SI _ rfl _ _ rfl w.heap.size (zS N (j+1) c8) ([]++(a.take j).map aM++[aM p]) ((a.drop j).map aM) (l.length+1) _ _ _ _ (by simp;omega) (by simp;omega) rfl t.o rfl (HC2.o _ r) (Ks _) (by omega) (by simp;omega) J ?_;intro _ _ _ b c;have O9:=aj b;have G:=aj (r.o.grown c (λk d=>.inr (t.o.base k d)));clear b c));go_ret;rw[m.o];have e:([]++(a.take j).map aM++[aM p])++(a.drop j).map aM=(a.take j++p::a.drop j).map aM:=by simp
     have ht:=(I.o.aC G).take j;refine⟨_,rfl,⟨a.take j++p::a.drop j,?_,?_⟩,G⟩
     .rw[<-e];exact O9.o.rv (by simp;omega)
     refine ht.1.app ?_;simp only[jC];exact⟨X.o.aC G,ht.2⟩
  have T:j=l.length:=by omega
  have B:=aBb j l.length (by omega);have m:=aj (afc l x j oL.o (λz hz=>by rw[a1Z (by omega)]at hz;simp at hz) (by omega));rw[a1Z (by omega)]at m;simp only[]at m;rw[a0C (by omega),a0i (by omega)]at m;have s:Z_ (∀n,aB [] w (wr.drewN n)):=λn=>F.o.drewN n;have lV:=DZ.o;have:=F.o.size;have fin:Z_ (∀W Z,aB [] w W->OV 187 w.heap.size W Z ((a++[p]).map aM)->PtQ w (put l x) (zR Z) W):=by
   intro W Z C hO;rw[m.o];refine⟨_,rfl,⟨a++[p],hO.rv (by simp;omega),(I.o.aC C).app ?_⟩,C⟩;simp only[jC];exact⟨X.o.aC C,trivial⟩
  by_cases l0:l.length=0
  .have avZ:a=[]:=List.length_eq_zero_iff.1 (by omega);have rC:j=0:=by omega
   subst rC;rw[l0]at B |-;clear T l0 hj lV lU;rcases Hab.o with⟨rfl,rfl⟩|⟨g,rfl⟩;all_goals
    go_wp2_with fail;go_quiet (fail);go_wp2_with fail;go_quiet (fail);go_wp2_with (first | (at_builtin;refine DL _ rfl _ _ 189 187 _ 8 DY Tryz.underlying189 rfl rfl w.heap.size zN [] 1 wr.heap.size (aM p) rfl rfl (OV.nil _ _ _) rfl (mi _ _ _ _ rfl) rfl (by simp) (by simp) (by simp;omega) ?_;intro N c8 V b c D A;have t:=aj b;have r:=aj (((s.o _).alloc _).grown c (λk d=>by simp[Value.ownBlock]at d));have J:=r.o.size;have k8:=OV.alq b;clear b c D A));all_goals
     go_ret;refine fin.o _ _ r.o ?_;rw[avZ];exact t
  obtain⟨y,H⟩:∃y,l[0]?=some y:=⟨l[0]'(by omega),a0a (by omega)⟩;obtain⟨q,hq,_⟩:=I.o.get 0 y H;obtain⟨g,rfl,_⟩:=R.o 0 (aM q) (by rw[a0Q,hq];rfl);clear hq H;have E:Z_ (∀n i u,((a.take j).map aM)[i]?=some u->zC (wr.drewN n) g (0+i) u):=by
   intro n i u f;rw[a1n];rw[a0C (by omega)]at f;obtain⟨_,e,h⟩:=R.o i u f;simp at e;subst e;exact((s.o n).cell (p:=(zB g i)) (bY h) (by simp)).trans h
  have:¬ j=0:=by omega
  have O:l.length=j:=T.symm;rw[O]at B |-;have:j<=cap:=by omega
  clear O;have Hje:=aj T;clear T;go_wp2_with fail;go_quiet (fail);go_wp2_with fail;go_quiet (fail);go_wp2_with (first | (at_builtin;refine SI _ rfl _ _ rfl w.heap.size zN [] ((a.take j).map aM) j _ _ _ _ (by simp) (by simp;omega) rfl (OV.nil _ _ _) rfl (E.o _) (Ks _) (by omega) (by simp;omega) (s.o _).size ?_;intro g7 c7 Y b c;have P:=aj b;have F7:=aj ((s.o _).grown c (λk d=>by simp[Value.ownBlock]at d));have:=a0h (s.o _).size c.size;clear b c)|(at_builtin;refine DL _ rfl _ _ 189 187 _ 8 DY Tryz.underlying189 rfl rfl w.heap.size (zS g7 j c7) ([]++(a.take j).map aM) (j+1) Y.heap.size (aM p) (by simp;omega) rfl (P.o.aC (S:=[]) ((aB.refl [] _).alloc _) (by simp)) rfl (mi _ _ _ _ rfl) rfl (by simp;omega) (by simp;omega) (by simp;omega) ?_;intro N _ V b c D A;have t:=aj b;have r:=aj ((F7.o.alloc _).grown c (λk d=>.inr (P.o.base k d)));have:=r.o.size;have:=OV.alq b;clear b c D A));all_goals
   go_ret;refine fin.o _ _ r.o ?_;have e:[]++(a.take j).map aM++[aM p]=(a++[p]).map aM:=by rw[a0C (by omega)];simp
   rw[<-e];exact t
def kH:NF->List NF
 | .sum l=>l
 | x=>[x]
def kS(st:Nat × List NF):NF->Nat × List NF
 | .zero=>st
 | .set s=>(st.1 ||| s,st.2)
 | x=>(st.1,put st.2 x)
theorem WQ:∀l st,l.foldl kS st=(st.1 ||| bf l,((l.filter λx=>match x with | .zero=>false|x=>!dF x).foldl put st.2))
 | [],st=>by simp[bf]
 | x::r,st=>by rw[a1R,WQ r,tH];cases x<;>simp[kS,bits,dF,Nat.or_assoc]
theorem apl {a b}(c:wf a)(hb:wf b):(kH a++kH b).foldl kS (0,[])=(bf (parts a++parts b),((parts a++parts b).filter λx=>!dF x).foldl put []):=by
 have key:∀x:NF,wf x->(kH x).filter (λx=>match x with | .zero=>false|x=>!dF x)=(parts x).filter (λx=>!dF x)/\bf (kH x)=bf (parts x):=by
  intro x e;cases x with
  | sum l=>refine⟨?_,rfl⟩;simp only[kH,parts];apply List.filter_congr;intro y d;have:=e.2 y d;cases y<;>simp[iU]at this<;>rfl
  | zero=>exact⟨rfl,rfl⟩
  | one=>exact⟨rfl,rfl⟩
  | set s=>exact⟨rfl,rfl⟩
  | pair x y=>exact⟨rfl,rfl⟩
  | star x=>exact⟨rfl,rfl⟩
 rw[WQ,a3v,(key a c).1,(key b hb).1,zh,(key a c).2,(key b hb).2,<-zh,<-a3v];simp
def adk(st:Nat × List NF):List NF:=if st.1=0 then st.2 else put st.2 (.set st.1)
theorem ar0 {a b}(c:wf a)(hb:wf b):kY a b=mkS (adk ((kH a++kH b).foldl kS (0,[]))):=by grind [apl,hb,kY,bQ,adk,gU,bN]
def WR(x):(kH x).length<=np x+1:=by cases x<;>simp[kH,np,parts]
theorem aax:∀(l:List NF) st,(l.foldl kS st).2.length<=st.2.length+l.length
 | [],st=>by simp
 | x::r,st=>by
   have h:=aax r (kS st x);have c:(kS st x).2.length<=st.2.length+1:=by
    have a:∀(l:List NF) (x:NF),(put l x).length<=l.length+1:=by
     intro l;induction l with
     | nil=>intro x;simp[put]
     | cons y r b =>
       intro x;simp[put];split
       .grind
       split<;>simp
    cases x<;>simp[kS]<;>exact a _ _
   simp[a1R,a0r];omega
def adl:∀(l:List NF) st,(∀x∈l,wf x)->st.1<2 ^ 256->(l.foldl kS st).1<2 ^ 256
 | [],st,_,h=>h
 | x::r,st,a,h=>by
   rw[a1R];refine adl r _ (λy b=>a y (by simp[b])) ?_;cases x with
   | set s=>exact Nat.or_lt_two_pow h (a (.set s) (by simp)).2
   | _=>exact h
structure KT(w w':World):Prop where
 tm:∀(k:Nat) (cur:Array Value) (fz:Nat × Nat),w.heap[k]?=some (Obj.cells cur 191 fz)->w'.heap[k]?=w.heap[k]?
 pt:∀(g j:Nat) (q:Addr),w.cell? (zB g j)=some (.pointer (some q))->w'.cell? (zB g j)=some (.pointer (some q))
theorem KT.aC(f:aB [] w w'):KT w w' :=
 ⟨λk cur fz h=>f.block k (a0c.1 h).1 (by simp),λg j q h=>(f.cell (p:=(zB g j)) (bY h) (by simp)).trans h⟩
def TK.kt {p k a b l nm}(h:TK w p k L a b l nm)(f:KT w w'):TK w' p k L a b l nm:=⟨(f.tm p _ _ h.1).trans h.1,h.2⟩
def RVq.kt {b:LN}(h:RVq w v (b.map aM))(f:KT w w'):RVq w' v (b.map aM):=by obtain⟨q,a,n,cap,p,o,l,d,k⟩:=h;refine⟨q,a,n,cap,p,o,l,d,λj u c=>?_⟩;obtain⟨g,i,e⟩:=k j u c;obtain⟨m,_,rfl⟩:=a0q.1 (a0B c);exact⟨g,i,f.pt g j _ e⟩
mutual
theorem TN.kt(f:KT w w'):∀{p:Nat} {x:NF},TN w p x->TN w' p x
 | p,.zero,h=>by simp only[TN]at h |-;exact h.kt f
 | p,.one,h=>by simp only[TN]at h |-;exact h.kt f
 | p,.set s,h=>by simp only[TN]at h |-;exact h.kt f
 | p,.pair x y,h=>by simp only[TN]at h |-;obtain⟨a,b,d,c,e⟩:=h;exact⟨a,b,d.kt f,TN.kt f c,TN.kt f e⟩
 | p,.sum l,h=>by simp only[TN]at h |-;obtain⟨v,g,d,c,e⟩:=h;exact⟨v,g,d.kt f,c.kt f,jC.kt f e⟩
 | p,.star x,h=>by simp only[TN]at h |-;obtain⟨a,d,c⟩:=h;exact⟨a,d.kt f,TN.kt f c⟩
theorem jC.kt(f:KT w w'):∀{a:LN} {l:List NF},jC w a l->jC w' a l
 | [],[],_=>by simp only[jC]
 | p::a,x::l,h=>by simp only[jC]at h |-;exact⟨TN.kt f h.1,jC.kt f h.2⟩
 | [],_::_,h=>by simp only[jC]at h
 | _::_,[],h=>by simp only[jC]at h
end
def TV.kt(h:TV w v l)(f:KT w w'):TV w' v l:=by obtain⟨a,c,b⟩:=h;exact⟨a,c.kt f,b.kt f⟩
def IB(w:World)(b:Nat)(L:List Bool):Prop:=w.heap[b]?=some (.cells (L.map Value.bool).toArray 183 (0,0))/\L.length=256
theorem IB.lt(h:IB w b L):b<w.heap.size:=(a0c.1 h.1).1
theorem IB.aC {S}(h:IB w b L)(f:aB S w w')(a:b∉S):IB w' b L:=⟨(f.block b h.lt a).trans h.1,h.2⟩
theorem IB.cell(h:IB w b L)(c x)(a:L[c]?=some x):w.cell? ⟨b,c,none⟩=some (.bool x):=by simp only[World.cell?,h.1];simp[a]
theorem IB.fz(h:IB w b L)(o):w.frozen? (zB b o)=false:=by simp[World.frozen?,h.1]
theorem IB.set(h:IB w b L)(c x):IB (w.setCell (zB b c) (.bool x)) b (L.set c x):=by
 refine⟨?_,by rw[a3p];exact h.2⟩;have a:=h.1;simp only[World.setCell,a0v,a,a0G,a1x];have:(L.map Value.bool).toArray.setIfInBounds c (.bool x)=((L.set c x).map Value.bool).toArray:=by grind
 simp[this]
def IB.kt(h:IB w b L)(c x):KT w (w.setCell (zB b c) (.bool x)):=by
 have far:∀k,k≠b->(w.setCell (zB b c) (.bool x)).heap[k]?=w.heap[k]?:=by intro k d;simp only[World.setCell,a0v];rw[a0n (λe=>d e.symm)]
 refine⟨λk cur fz d=>far k ?_,λg j q a=>?_⟩
 .rintro rfl;rw[h.1]at d;simp at d
 have i:g≠b:=by
  rintro rfl;unfold World.cell? at a;simp only[h.1]at a;simp only[List.getElem?_toArray,a0Q]at a;cases f:L[j]? with
  | none=>rw[f]at a;simp at a
  | some y=>rw[f]at a;simp at a
 have:=far g i;unfold World.cell? at a |-;simp only[this];omega
theorem auJ:Tryz.zeroCells183=(nF.map Value.bool).toArray:=by kernel_rfl
def orB(s t c:Nat):List Bool:=(List.range 256).map λi=>if i<c then s.testBit i||t.testBit i else s.testBit i
theorem amT(s t):orB s t 0=bl s:=by simp[orB,bl]
theorem apn(s t):orB s t 256=bl (s ||| t):=by simp_all[orB,bl]
theorem apo(s t c i)(h:i<256):(orB s t c)[i]?=some (if i<c then s.testBit i||t.testBit i else s.testBit i):=by simp[orB,h]
theorem apq(s t c)(h:c<256):(orB s t c).set c (s.testBit c||t.testBit c)=orB s t (c+1):=by
 apply a3g (by simp[orB]);intro i b a;simp only[orB,List.getElem_set,List.getElem_map,List.getElem_range];by_cases e:c=i
 .subst e;simp
 grind
end
section
variable {L l:List NF} {X x y:NF} {N b' i ib k m m' n p q t u w w':Nat} {ps:LN} {v5 v9:Value} {B:List Bool} {hi:Option Nat} {a:TR} {α:Type}
def apr(e:wf (.sum l))(f:can (.sum l)):2<=l.length:=by
 have c:mkS (gU (bN ([NF.sum l].flatMap parts)))=.sum l:=f.2;simp only[a1i,a2E,a0R,parts]at c;generalize g:gU (bN l)=L at c
 match L,c with
 | [],c=>simp[mkS]at c
 | [z],c =>
   have hz:z∈gU (bN l):=by rw[g];simp
   have d:z=.sum l:=c;rcases wI (kK hz) with h|h
   .rw[d]at h;simp[dF]at h
   have:=e.2 z h;rw[d]at this;simp[iU]at this
 | a::b::r,c=>simp only[mkS,NF.sum.injEq]at c;rw[<-c];simp
def take2(a b:NF):Nat->List NF
 | 0=>[]
 | 1=>kH a
 | _=>kH a++kH b
theorem av0(av n cap s):((Tryz.zeroCells191.setIfInBounds 0 (.int .u8 97)).setIfInBounds 259 (.slice av n cap)).setIfInBounds 260 (.string s)=Km 97 nF sM sM (.slice av n cap) s.data.toList:=by cases s;kernel_rfl
theorem Qg:∀a b,ed (a++b)=ed a++ed b
 | [],b=>by simp[ed]
 | x::a,b=>by simp only[a0L,ed,Qg a b,a0M,a0L]
def ag5 {E:List NF} {j}(h:E[j]?=some y):ed (E.take (j+1))=ed (E.take j)++name y++[124]:=by rw[a1c,h,Qg];simp[ed]
def adm {E j}:(ed (E.take j)).length<=(ed E).length:=by
 have h:ed E=ed (E.take j)++ed (E.drop j):=by rw[<-Qg,a1C]
 rw[h,a0p];omega
def amU(t):(t=0/\Vf t=.zero)\/(t≠0/\Vf t=.set t):=by
 unfold Vf;by_cases h:t=0
 .exact .inl ⟨h,a0m h⟩
 exact .inr ⟨h,a0n h⟩
def ar1(h:∀l,x≠.sum l):(((j5 x:Nat):Int)==97)=false/\kH x=[x]:=by
 cases x with
 | sum l=>exact absurd rfl (h l)
 | _=>exact⟨by simp[j5],rfl⟩
structure Or2(w:World)(L:List NF)(ps:LN)(ib:Nat)(v5:Value)(wr:World)(v9:Value)(i:Nat)(B:List Bool):Prop where
 oot:TV wr v9 ((L.take i).foldl kS (0,[])).2
 inn:IB wr ib B
 row:OV 187 (w.heap.size+1) wr v5 (ps.map aM)
 fr:aB [] w wr
theorem Or2.go {w wr w'}(h:Or2 w L ps ib v5 wr v9 i B)(f:aB [] wr w'):Or2 w L ps ib v5 w' v9 i B :=
 ⟨h.oot.aC f,h.inn.aC f (by simp),h.row.aC f (by simp),h.fr.trans f⟩
theorem Or2.set {w wr}(h:Or2 w L ps ib v5 wr v9 i B)(hi:w.heap.size<=ib)(c x):Or2 w L ps ib v5 (wr.setCell (zB ib c) (.bool x)) v9 i (B.set c x):=by refine⟨h.oot.kt (h.inn.kt c x),h.inn.set c x,?_,h.fr.setCell (.inr hi) _⟩;refine jJ h.row ((aB.refl [ib] wr).setCell (p:=(zB ib c)) (.inl (by simp)) (.bool x)) ?_;intro k a;simp only[a0w]at a;subst a;exact .inr ⟨_,_,_,h.inn.1,by decide⟩
def ajQ(h:L[i]?=some x):(L.take (i+1)).foldl kS (0,[])=kS ((L.take i).foldl kS (0,[])) x:=by rw[a1c,h,List.foldl_append];rfl
def ar2(b:x≠.zero)(a:∀s,x≠.set s):(((j5 x:Nat):Int)==48)=false/\(((j5 x:Nat):Int)==115)=false/\∀st,kS st x=(st.1,put st.2 x):=by
 cases x with
 | zero=>exact absurd rfl b
 | set s=>exact absurd rfl (a s)
 | _=>exact⟨by simp[j5],by simp[j5],λ_=>rfl⟩
structure Or1(w:World)(a b:NF)(wr:World)(v5:Value)(i:Nat):Prop where
 row:∃ps,OV 187 (w.heap.size+1) wr v5 (ps.map aM)/\jC w ps (take2 a b i)
 fr:aB [] w wr
theorem SK(a b w pa pb)(ha:TN w pa a)(hb:TN w pb b)(wa:WC a)(wb:WC b)(hn:nl (kY a b)<9223372036854775807)(hc:np (kY a b)<=1000000000000) :
 Calls Tryz.prog 103 #[aM pa,aM pb] w (zU w (kY a b)):=by
 have JW:∀x ∈ [a,b],wf x:=by simp;exact⟨wa.1,wb.1⟩
 have ca:np a<=1000000000000:=a0h (MH JW (by simp) wa.2) hc;have cb:np b<=1000000000000:=a0h (MH JW (by simp) wb.2) hc;have la:=WR a;have lb:=WR b;have A:=aj ha;have B:=aj hb;have WA:=aj wa;have WB:=aj wb;have C:=aj (ar0 wa.1 wb.1);have HN:=aj hn;clear ha hb wa wb JW hn hc;unfold aM;go_in;go_wp2_with fail;have FA:Z_ (aB [] w (w.alloc (.cells #[.pointer (some ⟨pa,0,none⟩),.pointer (some ⟨pb,0,none⟩)] 187))):=(aB.refl _ _).alloc _;have HA0:Z_ ((w.alloc (.cells #[.pointer (some ⟨pa,0,none⟩),.pointer (some ⟨pb,0,none⟩)] 187)).heap[w.heap.size]?=some (.cells #[.pointer (some ⟨pa,0,none⟩),.pointer (some ⟨pb,0,none⟩)] 187 (0,0))):=bD _ _;go_loopg [5,7] 2 (λk v5 v7 wr=>∃(i:Nat),i+k=2/\v7=.int .i64 i/\Or1 w a b wr v5 i/\wr.heap[w.heap.size]?=some (.cells #[.pointer (some ⟨pa,0,none⟩),.pointer (some ⟨pb,0,none⟩)] 187 (0,0)));case atStart=>exact⟨0,rfl,rfl,⟨⟨[],OV.nil _ _ _,by simp[take2,jC]⟩,FA⟩,HA0⟩
 case round =>
  clear FA HA0;obtain⟨i,_,rfl,hO,hH⟩:=hrel;obtain⟨⟨ps,hov,hts⟩,bH⟩:=hO;have zr2:=(a0c.1 hH).1;have O:=aj hov;have T:=aj hts;have F:=aj bH;have HH:=aj hH;have zr:=bH.size;obtain⟨a5,W,c5,rfl,NV⟩:=hov.open;rw[a0y]at NV;have hlen:=hts.len;clear hov hts bH hH;by_cases hi:i<2
  .obtain⟨x,px,m,aO,htk,wx,lx⟩:∃x px,TN w px x/\wr.cell? ⟨w.heap.size,i,none⟩=some (.pointer (some ⟨px,0,none⟩))/\take2 a b (i+1)=take2 a b i++kH x/\WC x/\(take2 a b i).length+(kH x).length<=2000000000002:=by
    rcases(by omega:i=0\/i=1) with rfl|rfl
    .exact⟨a,pa,A,by simp[World.cell?,HH.o],by simp[take2],WA,by simp[take2];omega⟩
    exact⟨b,pb,B,by simp[World.cell?,HH.o],by simp[take2],WB,by simp[take2];omega⟩
   have kx:=(m.aC F).kd;have X:=aj m;have Y:=aj htk;have WX:=aj wx;have DZ:=aj hlen;have U:=aj NV;have hlz:W<=2000000000002:=by omega
   clear m htk wx hlen NV;by_cases ag6:∃l,x=.sum l
   .obtain⟨l,rfl⟩:=ag6;have h2:=apr WX.o.1 WX.o.2;have hX:=X.o;simp only[TN]at hX;obtain⟨v,qs,I,⟨hbd,_,n,cap,rfl,hnq,_,uz,pY⟩,M⟩:=hX;obtain⟨_,_,_,_⟩:=(I.aC F.o (by simp)).ends;have Kv:=M.len;rw[a0y]at hnq;have uD:n=l.length:=hnq.trans Kv;subst uD;obtain⟨y,f⟩:∃y,l[0]?=some y:=⟨l[0]'(by omega),a0a (by omega)⟩;obtain⟨q0,EC,_⟩:=M.get 0 y f;obtain⟨g,rfl,_⟩:=pY 0 (aM q0) (by rw[a0Q,EC];rfl);have HC:Z_ (∀j u,(qs.map aM)[j]?=some u->wr.cell? ⟨g,0+j,none⟩=some u):=by
     intro j u hu;rw[a1n];obtain⟨g',e,h⟩:=pY j u hu;simp at e;subst e;exact(F.o.cell (p:=⟨g,j,none⟩) (bY h) (by simp)).trans h
    have HQ:=aj M;have Hql:=aj Kv;have lx2:(take2 a b i).length+l.length<=2000000000002:=lx;have hl8:l.length<=2000000000002:=by omega
    have Hpg:Z_ (kH (.sum l)=l):=rfl;have auK:Z_ (ps.length+l.length<=2000000000002):=by show _<=_;have:=DZ.o;omega
    clear I pY M Kv hnq EC f uz hbd lx;simp only[j5]at kx;have aps:Z_ (∀k,(Value.slice a5 W c5).ownBlock=some k->k≠w.heap.size):=λk I e=>by have:=O.o.base k I;omega
    go_wp2_with (at_builtin;refine SI _ rfl _ _ rfl (w.heap.size+1) (.slice a5 W c5) (ps.map aM) (qs.map aM) (W+l.length) g 0 l.length cap (by rw[a0y];exact congrArg (·+l.length) U) (by rw[a0y];exact Hql) rfl O.o rfl HC.o (Ks _) (by omega) (by rw[a0y];have:=auK.o;omega) zr2 ?_;intro g7 c7 w7 aS aH;have O7:=aj aS;have F7:=aj (F.o.grown aH (λk I=>.inr (Nat.le_of_succ_le (O.o.base k I))));have H7:=aj ((aH.block w.heap.size (by omega) (λe=>aps.o _ e.symm rfl)).trans HH);clear aS aH);go_roundg (gk-1);case measure=>omega
    case rel =>
     refine⟨i+1,by omega,by go_num,⟨⟨ps++qs,by rw[a0P];exact O7,?_⟩,F7⟩,H7⟩;rw[Y.o,Hpg.o];exact T.o.app HQ
   obtain⟨_,hpg⟩:=ar1 (λl e=>ag6 ⟨l,e⟩);rw[hpg]at Y lx;clear hpg ag6;generalize j5 x=kdx at *;have aps:Z_ (∀k,(Value.slice a5 W c5).ownBlock=some k->k≠w.heap.size):=λk I e=>by have:=O.o.base k I;omega
   go_wp2_with (at_builtin;refine DL _ rfl _ _ 189 187 _ 8 DY Tryz.underlying189 rfl rfl (w.heap.size+1) (.slice a5 W c5) (ps.map aM) (W+1) wr.heap.size (aM px) (by rw[a0y];exact congrArg (·+1) U) rfl (O.o.aC (S:=[]) ((aB.refl [] _).alloc _) (by simp)) rfl (mi _ _ _ _ rfl) rfl (by rw[a0y,<-U.o];omega) (by rw[a0y,<-U.o];omega) (by simp;omega) ?_;intro _ _ _ aS aH bq iE;have O7:=aj aS;have F7:=aj ((F.o.alloc _).grown aH (λk I=>.inr (Nat.le_of_succ_le (O.o.base k I))));have H7:=aj ((aH.block w.heap.size (by simp;omega) (λe=>aps.o _ e.symm rfl)).trans ((((aB.refl [] wr).alloc _).block w.heap.size (by omega) (by simp)).trans HH));clear aS aH bq iE);go_roundg (gk-1);case measure=>omega
   case rel =>
    refine⟨i+1,by omega,by go_num,⟨⟨ps++[px],by rw[a0P];exact O7,?_⟩,F7⟩,H7⟩;rw[Y.o];refine T.o.app ?_;simp only[jC];exact⟨X,trivial⟩
  have Ic:i=2:=by omega
  subst Ic;have HL:Z_ (take2 a b 2=kH a++kH b):=rfl;rw[HL.o]at T hlen;obtain⟨L,hL⟩:∃L,kH a++kH b=L:=⟨_,rfl⟩;have hLl:L.length<=2000000000002:=by rw[<-hL,a0p];omega
  have hLw:∀x∈L,wf x:=by
   rw[<-hL];have key:∀y:NF,wf y->∀x∈kH y,wf x:=by
    intro y f x m;cases y with
    | sum l=>exact kJ.1 f.1 x m
    | _=>simp only[kH,a0w]at m;rw[m];exact f
   intro x m;rcases a0e.1 m with h|h
   .exact key a WA.o.1 x h
   exact key b WB.o.1 x h
  rw[hL]at T C hlen;have hnL:W=L.length:=NV.trans hlen;subst hnL;have HLw:=aj hLw;clear hL hLw HL HH hlen NV;go_wp2_with fail;have zib:w.heap.size<=wr.heap.size:=zr;have Q0:Z_ (Or2 w L ps wr.heap.size (.slice a5 L.length c5) (wr.alloc (.cells Tryz.zeroCells183 183)) AM 0 (bl 0)):=by
   refine⟨⟨[],⟨by simp,none,0,0,rfl,rfl,a0b _,.inl ⟨rfl,rfl⟩,λj u hj=>by simp at hj⟩,by simp[jC]⟩,?_,O.o.aC ((aB.refl [] _).alloc _) (by simp),F.o.alloc _⟩;rw[auJ,Rz];exact⟨bD _ _,qQ⟩
  have hTl:=T.o.len;obtain⟨ib,hib⟩:∃ib,wr.heap.size=ib:=⟨_,rfl⟩;rw[hib]at Q0 zib |-;generalize wr.alloc (.cells Tryz.zeroCells183 183)=wB at Q0 |-;clear O F zr zr2 hib;go_loopg [9,10] L.length (λk v9 v10 wq=>∃(i:Nat) (vo:Value),i+k=L.length/\v10=.int .i64 i/\v9=vo/\Or2 w L ps ib (.slice a5 L.length c5) wq vo i (bl ((L.take i).foldl kS (0,[])).1));case atStart=>exact⟨0,AM,by omega,rfl,rfl,Q0⟩
  case round =>
   clear Q0;obtain⟨i,_,av3,rfl,rfl,hQ⟩:=hrel;obtain⟨_,⟨_,ao,no,co,rfl,hno,_⟩,uU⟩:=hQ.oot;have R:Z_ (no=((L.take i).foldl kS (0,[])).2.length):=by show _=_;rw[hno,a0y];exact uU.len
   have Q:=aj hQ;have zq:=hQ.fr.size;have t:((L.take i).foldl kS (0,[])).2.length<=10000000000000:=a0h (aax (L.take i) (0,[])) (by simp;omega);clear hQ hno uU;obtain⟨wo,Vg⟩:∃wo,wo=wr:=⟨_,rfl⟩;subst Vg;obtain⟨go,iD⟩:∃go,go=gk:=⟨_,rfl⟩;subst iD;by_cases hi3:i<L.length
   .obtain⟨x,m⟩:∃x,L[i]?=some x:=⟨L[i],a0a hi3⟩;obtain⟨q,hq,J⟩:=T.o.get i x m;obtain⟨g,rfl,_,_,aO⟩:=Q.o.row.cell (j:=i) (u:=aM q) (by rw[a0Q,hq];rfl);have apt:=J.aC Q.o.fr;have kx:=apt.kd;have HX:=aj apt;have HS:=aj (ajQ m);have hxw:=HLw.o x (a0B m);unfold aM at aO;have Hpq:Z_ ((ps.map aM)[i]?=some (aM q)):=by show _=_;rw[a0Q,hq];rfl
    clear hq J apt m;by_cases hz:x=.zero
    .subst hz;simp only[j5]at kx;have d:Z_ ((L.take (i+1)).foldl kS (0,[])=(L.take i).foldl kS (0,[])):=HS.o;go_wp2;go_roundg (go-1);case measure=>omega
     case rel =>
      refine⟨i+1,_,by omega,by go_num,rfl,?_⟩;have:=Q.o;refine⟨?_,?_,this.row,this.fr⟩
      .rw[d.o];exact this.oot
      rw[d.o];exact this.inn
    by_cases Ju:∃s,x=.set s
    .obtain⟨s,rfl⟩:=Ju;simp only[j5]at kx;obtain⟨t0,Qh⟩:∃t0,((L.take i).foldl kS (0,[])).1=t0:=⟨_,rfl⟩;have d:Z_ ((L.take (i+1)).foldl kS (0,[])=(t0 ||| s,((L.take i).foldl kS (0,[])).2)):=by show _=_;rw[HS.o,<-Qh];rfl
     rw[Qh]at Q;clear HS Qh t;go_wp2_with fail;go_loopg [11] 256 (λk v11 wz=>∃(c:Nat),c+k=256/\v11=.int .i64 c/\Or2 w L ps ib (.slice (some ⟨g,0,none⟩) L.length c5) wz (.slice ao no co) i (orB t0 s c)/\TN wz q (.set s));case atStart=>exact⟨0,rfl,rfl,by rw[amT];exact Q,HX⟩
     case round =>
      clear Q HX;obtain⟨c,_,rfl,hQ2,hX2⟩:=hrel;have Q2:=aj hQ2;have X2:=aj hX2;have alr:wr.cell? ⟨g,i,none⟩=some (.pointer (some ⟨q,0,none⟩)):=by
       obtain⟨_,e,_,_,h⟩:=hQ2.row.cell (j:=i) (u:=aM q) Hpq;simp only[Option.some.injEq,Addr.mk.injEq]at e;obtain⟨rfl,_⟩:=e;exact h
      clear hQ2 hX2;by_cases hc6:c<256
      .have EF:=Q2.o.inn.cell c (t0.testBit c) (by rw[apo _ _ _ _ hc6,a0n (by omega)]);have Sv:=Q2.o.inn.fz c;have hX3:=X2.o;simp only[TN]at hX3;have axX:=hX3.cin c (s.testBit c) (Ib s c hc6);have Q3:=aj (Q2.o.set zib c (t0.testBit c||s.testBit c));have X3:=aj (X2.o.kt (Q2.o.inn.kt c (t0.testBit c||s.testBit c)));rw[apq _ _ _ hc6]at Q3;clear hX3;cases zH:t0.testBit c;all_goals
        rw[zH]at EF Q3 X3;simp only[Bool.true_or,a3l]at Q3 X3;go_wp2;go_roundg (gk-1);case measure=>omega
        case rel=>exact⟨c+1,by omega,by go_num,Q3,X3⟩
      have hce:c=256:=by omega
      subst hce;rw[apn]at Q2;go_wp2;go_roundg (go-1);case measure=>omega
      case rel =>
       refine⟨i+1,_,by omega,by go_num,rfl,?_⟩;have:=Q2.o;refine⟨?_,?_,this.row,this.fr⟩
       .rw[d.o];exact this.oot
       rw[d.o];exact this.inn
    obtain⟨_,_,dY⟩:=ar2 hz (λs e=>Ju ⟨s,e⟩);have d:Z_ ((L.take (i+1)).foldl kS (0,[])=(((L.take i).foldl kS (0,[])).1,put ((L.take i).foldl kS (0,[])).2 x)):=by show _=_;rw[HS.o,dY]
    have N:=aj (adj wo (.slice ao no co) _ q x Q.o.oot HX.o t);unfold aM at N;clear HS dY hz Ju t;generalize j5 x=kdx at *;go_wp2_with fail;refine(N.o).mono ?_;rintro e _ ⟨v3,rfl,G,bW⟩;have Q3:=aj (Q.o.go bW);have V3:=aj G;obtain⟨ps3,⟨_,_,_,_,rfl,h3,_⟩,_⟩:=G;clear bW N Q h3;go_wp2;go_roundg (go-1);case measure=>omega
    case rel =>
     refine⟨i+1,_,by omega,by go_num,rfl,?_⟩;have:=Q3.o;refine⟨?_,?_,this.row,this.fr⟩
     .rw[d.o];exact V3
     rw[d.o];exact this.inn
   have hiL:i=L.length:=by omega
   subst hiL;rw[a0C (a0b _)]at Q R t;have ht8:=adl L (0,[]) HLw.o (by decide);obtain⟨st,dY⟩:∃st,L.foldl kS (0,[])=st:=⟨_,rfl⟩;rw[dY]at Q R t ht8 C;have Qi:=aj dY;clear dY av3 T HLw A B hTl;have NB:=aj (SG ib 0 st.1 wo (λc hc=>by rw[a1n];exact Q.o.inn.cell c _ (Ib _ _ hc)) ht8);go_wp2_with fail;refine(NB.o).mono ?_;rintro e w1 ⟨p1,rfl,jb,aZ⟩;have kp:=jb.kd;have V1:=aj (Q.o.oot.aC aZ);rw[show(L.take L.length)=L from a0C (a0b _)]at V1;have F1:=aj (Q.o.fr.trans aZ);have P1:=aj jb;clear jb aZ NB Q;unfold aM;have HEs:Z_ ((L.foldl kS (0,[])).2=st.2):=by show _=_;rw[Qi.o]
   rw[HEs.o]at V1;rcases amU st.1 with⟨h0,h1⟩|⟨h0,h1⟩
   case' inl =>
    rw[h1]at kp;simp only[j5]at kp;have H:Z_ (adk st=st.2):=by show _=_;unfold adk;rw[a0m h0]
    rw[H.o]at C;obtain⟨E,hE⟩:∃E,st.2=E:=⟨_,rfl⟩;rw[hE]at C V1 R;clear H hE h1 h0 P1;obtain⟨D,Z⟩:∃D,D=w1:=⟨_,rfl⟩;have V:=V1;have FF:=F1;rw[<-Z]at V FF kp;clear V1 F1;rw[<-Z];obtain⟨af,haf⟩:∃x,x=ao:=⟨_,rfl⟩;obtain⟨cf,hcf⟩:∃x,x=co:=⟨_,rfl⟩;obtain⟨nf,hnf⟩:∃x,x=no:=⟨_,rfl⟩;rw[<-haf,<-hcf,<-hnf]at V |-;clear haf hcf Z R hnf
   case' inr =>
    rw[h1]at kp;simp only[j5]at kp;have H:Z_ (adk st=put st.2 (.set st.1)):=by show _=_;unfold adk;rw[a0n h0]
    rw[H.o]at C;rw[h1]at P1;have NP:=aj (adj w1 (.slice ao no co) st.2 p1 (.set st.1) V1.o P1.o t);unfold aM at NP;clear H h1 h0 P1 V1;go_wp2_with fail;refine(NP.o).mono ?_;rintro e D ⟨_,rfl,G,bW⟩;have V:=aj G;have FF:=aj (F1.o.trans bW);obtain⟨_,⟨_,af,nf,cf,rfl,h3,_⟩,_⟩:=G;clear bW F1 h3 NP;generalize put st.2 (.set st.1)=E at C V
   all_goals
    obtain⟨psE,⟨hbE,_,_,_,eV,P,hcE,atc,SN⟩,hTE⟩:=V.o;simp only[Value.slice.injEq]at eV;obtain⟨rfl,rfl,rfl⟩:=eV;rw[a0y]at P hbE;have hlE:=hTE.len;have av4:nf=E.length:=P.trans hlE;have HC:=aj SN;have Y:=aj hTE;have axZ:E.length<=140737488355328:=by omega
    have Hlp:Z_ (psE.length=E.length):=hlE;have HbE:Z_ ((psE.map aM).length<=140737488355328):=by show _<=_;rw[a0y];exact hbE
    have HhE:=aj atc;clear SN hTE P hlE hbE atc;have get:Z_ (∀j y,E[j]?=some y->∃q g,af=some ⟨g,0,none⟩/\D.cell? ⟨g,j,none⟩=some (.pointer (some ⟨q,0,none⟩))/\TN D q y):=by
     intro j y f;obtain⟨q,hq,J⟩:=Y.o.get j y f;obtain⟨g,hg,hc⟩:=HC.o j (aM q) (by rw[a0Q,hq];rfl);exact⟨q,g,hg,hc,J⟩
    subst av4;by_cases e0:E.length=0
    .have hE0:E=[]:=List.length_eq_zero_iff.1 e0;have HZ:Z_ (kY a b=.zero):=by show _=_;rw[C.o,hE0];rfl
     have b0:(((E.length:Nat):Int)==0)=true:=by rw[e0];rfl
     have N:=aj (oQ D);clear C hE0 e0 HC Y get;go_wp2_with fail;refine(N.o).mono ?_;rintro e _ ⟨p9,rfl,hp9,hf9⟩;have P9:=aj hp9;have F9:=aj (FF.o.trans hf9);clear hp9 hf9 N;unfold aM;go_wp2;go_ret;rw[HZ.o];exact⟨p9,rfl,P9,F9⟩
    have b0:(((E.length:Nat):Int)==0)=false:=by rw[a0j];omega
    by_cases e1:E.length=1
    .obtain⟨y,f⟩:∃y,E=[y]:=List.length_eq_one_iff.1 e1;have HZ:Z_ (kY a b=y):=by show _=_;rw[C.o,f];rfl
     have b1:(((E.length:Nat):Int)==1)=true:=by rw[e1];rfl
     obtain⟨q,g,rfl,aO,J⟩:=get.o 0 y (by rw[f];rfl);have QN:=aj J;have Ox:(0:Int)<(E.length:Int):=by omega
     clear C f e1 HC Y get J;go_wp2;go_ret;rw[HZ.o];exact⟨q,rfl,QN,FF⟩
    have b1:(((E.length:Nat):Int)==1)=false:=by rw[a0j];omega
    have HZ:Z_ (kY a b=.sum E):=by
     show _=_;rw[C.o]
     match E,e0,e1 with
     | [],e0,_=>exact absurd rfl e0
     | [z],_,e1=>exact absurd rfl e1
     | y::z::r,_,_=>rfl
    have P:(ed E).length+2<9223372036854775807:=by
     have:=HN.o;rw[HZ.o]at this;simp only[nl,name,a0r,a0p,a1e]at this;omega
    clear C HC;go_wp2_with fail;go_loopg [13,14] E.length (λk v13 v14 wq=>∃(j:Nat),j+k=E.length/\v14=.int .i64 j/\v13=.string (bs (91::ed (E.take j)))/\D=wq);case atStart=>exact⟨0,by omega,rfl,rfl,rfl⟩
    case round =>
     obtain⟨j,_,rfl,rfl,rfl⟩:=hrel;have hle:=adm (E:=E) (j:=j);have s1:(bs (91::ed (E.take j))).size=(ed (E.take j)).length+1:=bL _;by_cases hj:j<E.length
     .obtain⟨y,f⟩:∃y,E[j]?=some y:=⟨E[j],a0a hj⟩;obtain⟨q,g,rfl,_,J⟩:=get.o j y f;have:=J.nm;have Hnt:=aj (ag5 f);have as9:=adm (E:=E) (j:=j+1);have uD:(ed (E.take (j+1))).length=(ed (E.take j)).length+(name y).length+1:=by rw[Hnt.o];simp;omega
      have e1':bs (91::ed (E.take j))++bs (name y)=bs (91::ed (E.take j)++name y):=mf _ _;have e2':bs (91::ed (E.take j)++name y)++⟨#[124]⟩=bs (91::ed (E.take (j+1))):=by rw[Hnt.o];exact mf (91::ed (E.take j)++name y) [124]
      have:=bL (name y);have s3:(bs (91::ed (E.take j)++name y)).size=(ed (E.take j)).length+1+(name y).length:=by rw[bL];simp;omega
      have:¬ (9223372036854775807<(ed (E.take j)).length+1+(name y).length):=by omega
      have:¬ (9223372036854775807<(ed (E.take j)).length+1+(name y).length+1):=by omega
      have:(j:Int)<(E.length:Int):=by omega
      clear f J hle as9 uD;generalize bs (91::ed (E.take j)++name y)=z2 at e1' e2' s3;go_wp2;go_roundg (gk-1);case measure=>omega
      case rel=>exact⟨j+1,by omega,by go_num,rfl,rfl⟩
     have qI:E.take j=E:=a0C (by omega);rw[qI]at s1 |-;have e3:bs (91::ed E)++⟨#[93]⟩=bs (91::ed E++[93]):=mf _ [93];have q3:¬ (9223372036854775807<(ed E).length+1+1):=by omega
     have q4:¬ (9223372036854775807<(ed E).length+2):=by omega
     have fin:Z_ (TN (D.alloc (Obj.cells (((Tryz.zeroCells191.setIfInBounds 0 (.int .u8 97)).setIfInBounds 259 (.slice af E.length cf)).setIfInBounds 260 (.string (bs (91::ed E++[93])))) 191)) D.heap.size (.sum E)):=by
      show TN _ _ _;simp only[TN];have ff:aB [] D (D.alloc (Obj.cells (((Tryz.zeroCells191.setIfInBounds 0 (.int .u8 97)).setIfInBounds 259 (.slice af E.length cf)).setIfInBounds 260 (.string (bs (91::ed E++[93])))) 191)):=(aB.refl _ _).alloc _;obtain⟨psV,hv1,hv2⟩:=V.o;refine⟨.slice af E.length cf,psV,TK.of ?_ qQ,hv1.aC ff,hv2.aC ff⟩;rw[av0,MN];simp only[name];rfl
     generalize bs (91::ed E++[93])=z9 at e3 fin;clear hle qI get Y;go_wp2;go_ret;rw[HZ.o];exact⟨_,rfl,fin,FF.o.alloc _⟩
mutual
def xP(c:Nat):NF->Prop
 | .zero=>True
 | .one=>True
 | .set _=>True
 | .pair a b=>xP c a/\xP c b/\np (left c (.pair a b))<=1000000000000
 | .sum l=>aay c l/\np (left c (.sum l))<=1000000000000
 | .star a=>xP c a
def aay(c:Nat):List NF->Prop
 | []=>True
 | x::r=>xP c x/\aay c r
end
def adp {c}:∀{l},aay c l->∀x∈l,xP c x
 | x::r,h,y,a=>by
   simp only[aay]at h;rcases a0l.1 a with e|e
   .rw[e];exact h.1
   exact adp h.2 y e
def Vh(c:Nat)(x:NF):Prop:=∀(w:World) (p:Nat),TN w p x->WC x->xP c x->nl (left c x)<9223372036854775807 ->
 zF 87 #[aM p,zI c] w (zU w (left c x))
def ag7{c}(b:j5 x=k)(a:left c x=.zero)(h:∀(w:World) (p:Nat),zC w p 0 (.int .u8 (k:Nat))->zF 87 #[zP p,zI c] w (zU w .zero)):Vh c x:=by intro w p ht _ _ _;have k0:=ht.kd;rw[b]at k0;rw[a];exact h w p k0
def ag8(c):Vh c .zero/\Vh c .one:=by
 constructor;refine ag7 rfl (by simp[left]) (λw p k0=>?_);rotate_left;refine ag7 rfl (by simp[left]) (λw p k0=>?_);all_goals
  have N:=oQ w;delta zF;go_in;go_wp2_with fail;refine N.mono ?_;rintro e a ⟨q,rfl,P,F⟩;clear N;unfold aM;go_wp2;go_ret;exact⟨q,rfl,P,F⟩
def ar3(c s)(d:c<256):Vh c (.set s):=by
 intro w p ht _ _ _;have k0:=ht.kd;simp[j5]at k0;simp only[TN]at ht;have b:=ht.cin c (s.testBit c) (Ib s c d);have a:left c (.set s)=if s.testBit c then .one else .zero:=by simp only[left]
 unfold aM;clear ht;cases hb:s.testBit c
 case' false=>rw[hb]at b a;have N:=oQ w
 case' true=>rw[hb]at b a;have N:=wO w
 all_goals
  delta zF;go_in;go_wp2_with fail;refine N.mono ?_;rintro e f ⟨q,rfl,P,F⟩;clear N;unfold aM;go_wp2;go_ret;rw[a];exact⟨q,rfl,P,F⟩
def apu(c a)(x:c<256)(t:Vh c a):Vh c (.star a):=by
 intro w p ht d m g;have k0:=ht.kd;simp[j5]at k0;have T:=aj ht;simp only[TN]at ht;obtain⟨pa,j,k⟩:=ht;obtain⟨u,_⟩:=j.ends;have h:WC a:=⟨d.1.1,d.2⟩;have n:Z_ (left c (.star a)=aG (left c a) (.star a)):=by show _=_;simp only[left]
 have A:=aj (t w pa k h (by simpa only[xP] using m) (a2i (agB d) g));rw[n.o]at g;have i:Z_ (∀(w':World) (q:Nat),aB [] w w'->TN w' q (left c a)->zF 102 #[aM q,aM p] w' (zU w' (aG (left c a) (.star a)))):=λw' q b hq=>yP (left c a) (.star a) w' q p hq (T.o.aC b) (h.left c).1 d.1 g;unfold aM at u A i |-;clear j k T d h g m;delta zF;go_in;go_wp2_with fail;refine(A.o).mono ?_;rintro e r ⟨q,rfl,f,b⟩;have l:=aj (i.o r q b f);have F:=aj b;clear f b A i;unfold aM;go_wp2_with fail;refine(l.o).mono ?_;rintro e v ⟨s,rfl,f,b⟩;have P:=aj f;have F2:=aj (F.o.trans b);clear f b l F;unfold aM;go_wp2;go_ret;rw[n.o];exact⟨s,rfl,P,F2⟩
def apv(c a b)(hc:c<256)(v:Vh c a)(u:Vh c b):Vh c (.pair a b):=by
 intro w p ht h k x;have k0:=ht.kd;simp[j5]at k0;simp only[TN]at ht;obtain⟨pa,pb,I,y,hb⟩:=ht;obtain⟨z,f,_⟩:=I.ends;have m:WC a:=⟨h.1.1,h.2.1⟩;have wb:WC b:=⟨h.1.2.1,h.2.2⟩;simp only[xP]at k;have T:=agz (c:=c) h;have A:=v w pa y m k.1 (by omega);have B:Z_ (∀(w':World) (q:Nat),aB [] w w'->TN w' q (left c a)->zF 102 #[aM q,aM pb] w' (zU w' (aG (left c a) b))):=λw' q d hq=>yP (left c a) b w' q pb hq (hb.aC d) (m.left c).1 wb.1 (by omega);have D:Z_ (∀(w':World),aB [] w w'->zF 106 #[aM pa] w' λe t=>e=zR (.bool (dK a))/\w'=t):=λw' d=>ajH a w' pa (y.aC d);have E:Z_ (dK a=true->∀(w':World),aB [] w w'->zF 87 #[aM pb,zI c] w' (zU w' (left c b))):=λg w' d=>u w' pb (hb.aC d) wb k.2.1 (a2i (agA h g) x);have C:Z_ (dK a=true->∀(w':World) (q r:Nat),TN w' q (aG (left c a) b)->TN w' r (left c b)->zF 103 #[aM q,aM r] w' (zU w' (kY (aG (left c a) b) (left c b)))):=by
  intro g w' q r hq U;have e:left c (.pair a b)=kY (aG (left c a) b) (left c b):=by simp only[left];rw[a0m g]
  exact SK _ _ w' q r hq U ((m.left c).then wb) (wb.left c) (by rw[<-e];exact x) (by rw[<-e];exact k.2.2)
 have s:Z_ (left c (.pair a b)=if dK a then kY (aG (left c a) b) (left c b) else aG (left c a) b):=by show _=_;simp[left]
 have l:Z_ (∀w',aB [] w w'->zC w' p 257 (aM pa)):=λw' d=>(d.cell (p:=(zB p 257)) (bY z) (by simp)).trans z;have i:Z_ (∀w',aB [] w w'->zC w' p 258 (aM pb)):=λw' d=>(d.cell (p:=(zB p 258)) (bY f) (by simp)).trans f;unfold aM at z A B D E C l i |-;clear I y hb h m wb x k T f;delta zF;go_in;go_wp2_with fail;refine A.mono ?_;rintro e G ⟨q,rfl,j,F⟩;have J:=B.o G q F j;have:=i.o G F;clear j A B;unfold aM;go_wp2_with fail;refine J.mono ?_;rintro e n ⟨H,rfl,L,d⟩;have F2:=F.trans d;have:=l.o n F2;have:=i.o n F2;have Y:=D.o n F2;clear d J F D;unfold aM;go_wp2_with fail;refine Y.mono ?_;rintro e _ ⟨rfl,rfl⟩;cases g:dK a;case false=>rw[g]at s;go_wp2;go_ret;rw[s.o];exact⟨H,rfl,L,F2⟩
 case true =>
  rw[g]at s;have O:=E.o g n F2;have N:=C.o g;clear E C;go_wp2_with fail;refine O.mono ?_;rintro e P ⟨S,rfl,j,d⟩;have M:=N P H S (L.aC d) j;have F4:=F2.trans d;clear j d O N;unfold aM;go_wp2_with fail;refine M.mono ?_;rintro e Z ⟨R,rfl,X,d⟩;have F5:=F4.trans d;clear d M;unfold aM;go_wp2;go_ret;rw[s.o];exact⟨R,rfl,X,F5⟩
def apw {xs a}(d:∀x∈xs,WC x)(c:∀x∈a,WC x):nl (bQ xs)<=nl (bQ (xs++a))/\np (bQ xs)<=np (bQ (xs++a)):=by
 have b:=WC.bQ d;have e:=Ri (UK:=xs) (bs:=a) (λx h=>(d x h).1) (λx h=>(c x h).1);have f:∀x∈bQ xs::a,wf x:=by
  intro x h;rcases a0l.1 h with rfl|h
  .exact b.1
  exact(c x h).1
 rw[<-e];exact⟨or_mono f (by simp) b.2,MH f (by simp) b.2⟩
def Kw(c:Nat)(l:List NF)(j:Nat):NF:=bQ ((l.take j).map (left c))
def ajR {c:Nat} {j:Nat}(a:∀x∈l,WC x)(h:l[j]?=some y):Kw c l (j+1)=kY (Kw c l j) (left c y):=by
 unfold Kw;have e:∀x∈(l.take j).map (left c),wf x:=by intro x d;obtain⟨z,hz,rfl⟩:=a0q.1 d;exact((a z (a3h hz)).left c).1
 have b:=((a y (a0B h)).left c).1;rw[a1c,h,a0P];exact(Ri e (bs:=[left c y]) (by simp;omega)).symm
def apx {c}(b:∀x∈l,WC x)(j):WC (Kw c l j):=by refine WC.bQ ?_;intro x a;obtain⟨z,hz,rfl⟩:=a0q.1 a;exact(b z (a3h hz)).left c
def apy {c}(b:∀x∈l,WC x)(j):nl (Kw c l j)<=nl (left c (.sum l))/\np (Kw c l j)<=np (left c (.sum l)):=by
 have e:left c (.sum l)=bQ ((l.take j).map (left c)++(l.drop j).map (left c)):=by simp only[left];rw[fP,<-a0P,a1C]
 rw[e];refine apw ?_ ?_
 .intro x a;obtain⟨z,hz,rfl⟩:=a0q.1 a;exact(b z (a3h hz)).left c
 intro x a;obtain⟨z,hz,rfl⟩:=a0q.1 a;exact(b z (a1f hz)).left c
theorem amV {c}:Kw c l l.length=left c (.sum l):=by unfold Kw;simp only[left];rw[fP,a0C (a0b _)]
def apz {c}(b:∀x∈l,WC x)(a:y∈l):nl (left c y)<=nl (left c (.sum l)):=by simp only[left];rw[fP];refine or_mono ?_ (a0q.2 ⟨y,a,rfl⟩) ((b y a).left c).2;intro x d;obtain⟨z,hz,rfl⟩:=a0q.1 d;exact((b z hz).left c).1
def ar4(h:WC (.sum l)):∀x∈l,WC x:=λx a=>⟨kJ.1 h.1.1 x a,wM.1 h.2.1 x a⟩
def ar5(c l)(hc:c<256)(Y:∀y∈l,Vh c y):Vh c (.sum l):=by
 intro w p ht H o S;have k0:=ht.kd;simp[j5]at k0;simp only[TN]at ht;obtain⟨v,_,J,Z,R⟩:=ht;obtain⟨_,_,B,_⟩:=J.ends;obtain⟨h,av,n,cap,rfl,b,_,_,HC⟩:=Z;have hlen:=R.len;rw[a0y]at b h;have U:n=l.length:=b.trans hlen;subst U;simp only[xP]at o;have i:=ar4 H;have FL:=adp o.1;have NP:=o.2;rw[hlen]at h;have D:∀w',aB [] w w'->zC w' p 259 (.slice av l.length cap):=λw' x=>(x.cell (p:=(zB p 259)) (bY B) (by simp)).trans B;have P:=oQ w;unfold aM;clear J b hlen H o B;delta zF;go_in;go_wp2_with fail;refine P.mono ?_;rintro e _ ⟨X,rfl,N,F1⟩;clear P;unfold aM;go_wp2_with fail;go_loopg [9,10] l.length (λk v9 u wr=>∃(j q:Nat),j+k=l.length/\u=zI j/\v9=zP q/\TN wr q (Kw c l j)/\aB [] w wr);exact⟨0,X,by omega,rfl,rfl,N,F1⟩
 .clear N F1;obtain⟨j,q,_,rfl,rfl,Q,F⟩:=hrel;have:=D wr F;by_cases hj:j<l.length
  .obtain⟨y,m⟩:∃y,l[j]?=some y:=⟨l[j],a0a hj⟩;have a:=a0B m;obtain⟨r,I,G⟩:=R.get j y m;obtain⟨g,rfl,f⟩:=HC j (aM r) (by rw[a0Q,I];rfl);have aO:=(F.cell (p:=(zB g j)) (bY f) (by simp)).trans f;have t:=i y a;have E:=Y y a wr r (G.aC F) t (FL y a) (a2i (apz i a) S);have z:=ajR (c:=c) i m;have d:=apy (c:=c) i (j+1);have C:∀(w':World) (s:Nat),aB [] wr w'->TN w' s (left c y)->zF 103 #[aM q,aM s] w' (zU w' (kY (Kw c l j) (left c y))):=by
    intro w' s x hs;refine SK _ _ w' q s (Q.aC x) hs (apx i j) (t.left c) ?_ ?_
    .rw[<-z];exact a2i d.1 S
    rw[<-z];exact a0h d.2 NP
   have:(j:Int)<(l.length:Int):=by omega
   unfold aM at aO E C;clear f I G m a t d;go_wp2_with fail;refine E.mono ?_;rintro e T ⟨s2,rfl,L,A⟩;have O:=C T s2 A L;have F2:=F.trans A;clear L A E C;unfold aM;go_wp2_with fail;refine O.mono ?_;rintro e _ ⟨V,rfl,P3,M⟩;have F3:=F2.trans M;clear M O;unfold aM;go_wp2;go_roundg (gk-1);exact⟨j+1,V,by omega,by go_num,rfl,by rw[z];exact P3,F3⟩;omega
  have W:j=l.length:=by omega
  have HL:Kw c l j=left c (.sum l):=by rw[W,amV]
  rw[HL]at Q;go_wp2;go_ret;exact⟨q,rfl,Q,F⟩
def afe(c)(e:c<256)(x):Vh c x:=by
 refine NF.ind ?_ x;intro x d;cases x with
 | zero=>exact(ag8 c).1
 | one=>exact(ag8 c).2
 | set s=>exact ar3 c s e
 | star a=>exact apu c a e (d a (by simp[NF.size]))
 | pair a b=>exact apv c a b e (d a (by simp[NF.size];omega)) (d b (by simp[NF.size];omega))
 | sum l=>exact ar5 c l e (λy f=>d y (by have:=dx f;simp[NF.size];omega))
theorem amW(f:WC X)(p:X.size*dZ X<=524800) {u}(o:u.length<=40)(c g):(dF g=true\/g=.one\/sV X u g)->xP c g:=by
 refine NF.ind (P:=λg=>(dF g=true\/g=.one\/sV X u g)->xP c g) ?_ g;intro g j h;have e:=ao2 (c:=c) f p o h;cases g with
 | zero=>simp[xP]
 | one=>simp[xP]
 | set s=>simp[xP]
 | pair a b =>
   have d:sV X u (.pair a b):=by grind [dF]
   simp[xP];exact⟨j a (by simp[NF.size];omega) (.inr (.inr (Zs f.1 d))),j b (by simp[NF.size];omega) (.inr (.inr (Pw f.1 d))),e⟩
 | star a =>
   have d:sV X u (.star a):=by grind [dF]
   simp[xP];exact j a (by simp[NF.size]) (.inr (.inr (Zt f.1 d)))
 | sum l =>
   have d:sV X u (.sum l):=by grind [dF]
   simp[xP];refine⟨?_,e⟩;have key:∀i:List NF,(∀y∈i,y∈l)->aay c i:=by
    intro i;induction i with
    | nil=>intro _;simp[aay]
    | cons y r k=>intro m;have n:=m y (by simp);simp[aay];refine⟨j y (by have:=dx n;simp[NF.size];omega) (Zu f.1 d n),k (λz hz=>m z (by simp[hz]))⟩
   exact key l (λ_ h=>h)
def apA(x):nl x+1<=515*x.size:=by
 refine NF.ind (P:=λx=>nl x+1<=515*x.size) ?_ x;intro x d;cases x with
 | zero=>simp[nl,name,NF.size]
 | one=>simp[nl,name,NF.size]
 | set s=>have:=YO s;simp[NF.size];omega
 | pair a b=>have g:=d a (by simp[NF.size];omega);have i:=d b (by simp[NF.size];omega);rw[Fb];simp[NF.size];omega
 | star a=>have g:=d a (by simp[NF.size]);rw[ZE];simp[NF.size];omega
 | sum l =>
   have key:∀c:List NF,(∀y∈c,y∈l)->sW c<=515*bP c:=by
    intro c;induction c with
    | nil=>intro _;simp[sW,bP]
    | cons y r e=>intro f;have:=d y (by have:=dx (f y (by simp));simp[NF.size];omega);have:=e (λz hz=>f z (by simp[hz]));rw[Ca];simp[bP];omega
   have:=key l (λ_ h=>h);rw[MF];simp[NF.size];omega
def GT(t:TR):Prop:=∃e,tL e/\uO e/\dI e<=40/\jX e<=40/\gW e=t
theorem Et.sz(h:Et x p t):x.size<=1+2*p*(t+1):=by
 by_cases a:p=0
 .rw[h.2.1 a];simp[NF.size]
 have:=(h.2.2 (by omega)).sz;omega
theorem GT.bd {t}(h:GT t):∃p u,p<=40/\u<=40/\Et (dJ t) p u/\(1<=p->1<=u):=by obtain⟨e,b,d,a,c,rfl⟩:=h;refine⟨mh e,jX e,by rw[rZ a];omega,c,?_,J9⟩;rw[Fj e b];exact rF b
theorem Kz:∀a b,bV (a++b)=bV a+bV b
 | [],b=>by simp[bV]
 | x::a,b=>by simp only[a0L,bV,Kz a b];omega
def EG(e:RX):Prop:=tL e/\uO e/\dI e<=40/\jX e<=40
def EG.seq {l x}(h:EG (.seq (l++[x]))):EG (.seq l)/\EG x:=by
 obtain⟨f,e,d,c⟩:=h;have b:=Bv.1 (show jm (l++[x]) from f);have a:=By.1 (show mZ (l++[x]) from e);simp[dI,Kz]at d;simp only[jX,Bw]at c;have i:bV [x]=dI x:=by simp[bV]
 have g:gu [x]=jX x:=by simp[gu]
 exact⟨⟨b.1,a.1,by simp only[dI];omega,by simp only[jX];omega⟩,b.2.1,a.2.1,by omega,by omega⟩
theorem EG.av5 {x}(h:EG (.alt [x])):EG x:=by
 obtain⟨c,b,d,a⟩:=h;refine⟨c.1.1,b.1,?_,?_⟩
 .grind [dI,bV]
 simp[jX,gu]at a;omega
def EG.alt {l x}(a:l≠[])(h:EG (.alt (l++[x]))):EG (.alt l)/\EG x:=by
 obtain⟨g,f,e,d⟩:=h;have c:=Bv.1 (show jm (l++[x]) from g.1);have b:=By.1 (show mZ (l++[x]) from f);simp[dI,Kz]at e;simp only[jX,Bw,a0p,a0r,a1e]at d;have:bV [x]=dI x:=by simp[bV]
 have:gu [x]=jX x:=by simp[gu]
 have:=a1O.2 a;exact⟨⟨⟨c.1,a⟩,b.1,by simp only[dI];omega,by simp only[jX];omega⟩,c.2.1,b.2.1,by omega,by omega⟩
theorem EG.rep {x lo}(h:EG (.rep x lo hi)):EG x/\lo<=9/\(∀n,hi=some n->n<=9)/\(∀n,hi=some n->lo<=n):=by
 obtain⟨b,a,e,d⟩:=h;have c:dI x<=40:=by grind [dI]
 exact⟨⟨b.1,a.1,c,by simp only[jX]at d;omega⟩,a.2.1,a.2.2,b.2⟩
def GT.of {e}(h:EG e):GT (gW e):=⟨e,h.1,h.2.1,h.2.2.1,h.2.2.2,rfl⟩
def EG.inv:∀n e,SizeOf.sizeOf e<=n->EG e ->
 (∀a b,gW e=.both a b->GT a/\GT b)/\(∀a b,gW e=.either a b->GT a/\GT b)/\(∀a lo hi,gW e=.often a lo hi->GT a/\lo<=9/\(∀n,hi=some n->n<=9)/\(∀n,hi=some n->lo<=n))
 | 0,e,c,_=>by cases e<;>simp at c
 | n+1,.one s,_,_=>by simp[gW]
 | n+1,.rep x lo hi,_,h=>by refine⟨by simp[gW],by simp[gW],?_⟩;intro a g i e;simp only[gW,TR.often.injEq]at e;obtain⟨rfl,rfl,rfl⟩:=e;have:=h.rep;exact⟨GT.of this.1,this.2⟩
 | n+1,.seq l,_,h=>by
   rcases List.eq_nil_or_concat l with rfl|⟨f,x,rfl⟩
   .simp[gW,Ag]
   rw[List.concat_eq_append]at h |-;rw[agK];have:=h.seq;refine⟨?_,by simp,by simp⟩;intro a b e;simp[TR.both.injEq]at e;obtain⟨rfl,rfl⟩:=e;exact⟨GT.of this.1,GT.of this.2⟩
 | n+1,.alt l,c,h=>by
   rcases List.eq_nil_or_concat l with rfl|⟨f,x,rfl⟩
   .exact absurd rfl h.1.2
   rw[List.concat_eq_append]at h c |-;by_cases d:f=[]
   .subst d;simp only[a0V]at h c |-;rw[ac4];exact EG.inv n x (by simp at c;omega) h.av5
   rw[agL d];have:=h.alt d;refine⟨by simp,?_,by simp⟩;intro a b e;simp[TR.either.injEq]at e;obtain⟨rfl,rfl⟩:=e;exact⟨GT.of this.1,GT.of this.2⟩
theorem GT.both{b}(h:GT (.both a b)):GT a/\GT b:=by obtain⟨e,i,g,f,d,c⟩:=h;exact(EG.inv _ e (a0b _) ⟨i,g,f,d⟩).1 a b c
theorem GT.either{b}(h:GT (.either a b)):GT a/\GT b:=by obtain⟨e,i,g,f,d,c⟩:=h;exact(EG.inv _ e (a0b _) ⟨i,g,f,d⟩).2.1 a b c
def GT.often {lo}(h:GT (.often a lo hi)):GT a/\lo<=9/\(∀n,hi=some n->n<=9)/\(∀n,hi=some n->lo<=n):=by obtain⟨e,g,f,d,c,b⟩:=h;exact(EG.inv _ e (a0b _) ⟨g,f,d,c⟩).2.2 a lo hi b
theorem GT.wc {t}(h:GT t):WC (dJ t):=by obtain⟨p,u,_,_,a,_⟩:=h.bd;exact a.1
def Et.few(h:Et x p u)(b:p<=1000)(a:u<=1000):nl x<9223372036854775807/\np x<=1000000000000:=by have:=h.sz;have:=apA x;have:=ZY x;have:2*p*(u+1)<=2000*1001:=a0D (by omega) (by omega);omega
theorem Qj(a):∀j t,dG a (j+1) t=kY (aG a (dG a j t)) .one
 | 0,t=>rfl
 | j+1,t=>by have:=Qj a j (kY (aG a t) .one);exact this
theorem Cq(a):∀j t,eQ a (j+1) t=aG a (eQ a j t)
 | 0,t=>rfl
 | j+1,t=>Cq a j (aG a t)
def ajS(lo hi):iV lo hi<=10:=by cases hi<;>simp only[iV]<;>(repeat' split)<;>omega
theorem GT.one {s}(h:GT (.one s)):s<2 ^ 256:=by
 have:=h.wc.1;simp only[dJ]at this;split at this
 .omega
 exact this.2
def KE {a}(d:p<=40)(g:u<=40)(h:Et a p u)(b:1<=p->1<=u)(lo hi)(f:lo<=20)(c:∀n,hi=some n->n<=20/\lo<=n) :
 WC (kD a lo hi)/\nl (kD a lo hi)<9223372036854775807/\np (kD a lo hi)<=1000000000000:=by
 have hb:=aeY h b _ _ (λn e=>(c n e).2);have ht:times lo hi<=21:=by
  cases hi with
  | none=>simp only[times];omega
  | some n=>have:=c n rfl;simp only[times];omega
 have i:p*times lo hi<=40*21:=a0D d ht;have ho:=ajS lo hi;exact⟨hb.1,hb.few (by omega) (by omega)⟩
def ajT {a}(d:p<=40)(c:u<=40)(h:Et a p u)(b:1<=p->1<=u)(j)(f:j<=19) :
 nl (aG a (dG a j .one))<9223372036854775807:=by
 have e:aG a (dG a j .one)=kD a 1 (some (1+j)):=by simp[kD,eQ]
 rw[e];exact(KE d c h b _ _ (by omega) (λn e=>by simp at e;omega)).2.1
def Vi(t:TR):Prop:=∀(w:World) (p:Nat),RN w p t->GT t->zF 86 #[aM p] w (zU w (dJ t))
def ar6:Vi .nil:=by
 intro w p h b;have c0:=RK.c0 h;have N:=wO w;unfold aM;clear h;delta zF;go_in;go_wp2_with fail;refine N.mono ?_;rintro e a ⟨q,rfl,P,F⟩;clear N;unfold aM;go_wp2;go_ret;exact⟨q,rfl,P,F⟩
def ar7(s):Vi (.one s):=by
 intro w p h a;have c0:=RK.c0 h;have N:=SG p 1 s w (λi hi=>RK.cin h i _ (Ib s i hi)) a.one;unfold aM;clear h;delta zF;go_in;go_wp2_with fail;refine N.mono ?_;rintro e b ⟨q,rfl,P,F⟩;clear N;unfold aM;go_wp2;go_ret;exact⟨q,rfl,P,F⟩
def apB(x y)(f:Vi x)(d:Vi y):Vi (.both x y):=by
 intro w p h i;obtain⟨a,b,g,n,m⟩:=h;have:=g.c0;obtain⟨ca,cb,_⟩:=g.ends;obtain⟨k,j⟩:=i.both;have A:=f w a n k;obtain⟨I,_,L,J,t,E⟩:=i.bd;have u:=(t.few (by omega) (by omega)).1;have v:∀(w':World) (q r:Nat),TN _ q (dJ x)->TN _ r (dJ y)->zF 102 #[aM q,aM r] w' (zU w' (dJ (.both x y))):=λw' q r hq D=>yP (dJ x) (dJ y) w' q r hq D k.wc.1 j.wc.1 u;have B:∀w',aB [] w w'->zF 86 #[aM b] w' (zU w' (dJ y)):=λw' c=>d w' b (RN.aY (dX.nil c) m) j;have CB:∀w',aB [] w w'->zC w' p 258 (pq (some b)):=λw' c=>(c.cell (bY cb) (by simp)).trans cb;unfold pq at ca CB;unfold aM at A v B |-;clear g n m k j i t E u cb;delta zF;go_in;go_wp2_with fail;refine A.mono ?_;rintro e l ⟨q,rfl,P,F⟩;have z:=B l F;clear A;unfold aM;go_wp2_with fail;refine z.mono ?_;rintro e C ⟨r,rfl,o,c⟩;have T:=v C q r (P.aC c) o;have F2:=F.trans c;clear o c z;unfold aM;go_wp2_with fail;refine T.mono ?_;rintro e H ⟨s,rfl,G,c⟩;have F3:=F2.trans c;clear c T;unfold aM;go_wp2;go_ret;exact⟨s,rfl,G,F3⟩
def ajU(x y)(f:Vi x)(d:Vi y):Vi (.either x y):=by
 intro w p h i;obtain⟨a,b,g,o,n⟩:=h;have:=g.c0;obtain⟨ca,cb,_⟩:=g.ends;obtain⟨k,j⟩:=i.either;have A:=f w a o k;obtain⟨I,_,L,J,u,E⟩:=i.bd;have l:=u.few (by omega) (by omega);have v:∀(w':World) (q r:Nat),TN _ q (dJ x)->TN _ r (dJ y)->zF 103 #[aM q,aM r] w' (zU w' (dJ (.either x y))):=λw' q r hq D=>SK _ _ _ _ _ hq D k.wc j.wc l.1 l.2;have B:∀w',aB [] w w'->zF 86 #[aM b] w' (zU w' (dJ y)):=λw' c=>d w' b (RN.aY (dX.nil c) n) j;have CB:∀w',aB [] w w'->zC w' p 258 (pq (some b)):=λw' c=>(c.cell (bY cb) (by simp)).trans cb;unfold pq at ca CB;unfold aM at A v B |-;clear g o n k j i u E l cb;delta zF;go_in;go_wp2_with fail;refine A.mono ?_;rintro e m ⟨q,rfl,P,F⟩;have z:=B m F;clear A;unfold aM;go_wp2_with fail;refine z.mono ?_;rintro e C ⟨r,rfl,t,c⟩;have T:=v C q r (P.aC c) t;have F2:=F.trans c;clear t c z;unfold aM;go_wp2_with fail;refine T.mono ?_;rintro e H ⟨s,rfl,G,c⟩;have F3:=F2.trans c;clear c T;unfold aM;go_wp2;go_ret;exact⟨s,rfl,G,F3⟩
def apC(x lo)(Y:Vi x):Vi (.often x lo none):=by
 intro w p h O;obtain⟨a,v,M⟩:=h;have:=v.c0;obtain⟨ca,_,d,f⟩:=v.ends;obtain⟨o,_,_,_⟩:=O.often;obtain⟨_,_,S,R,B,z⟩:=o.bd;have A:=Y w a M o;have l:=o.wc;obtain⟨T,c⟩:∃T,iH (dJ x)=T:=⟨_,rfl⟩;have g:nl T<9223372036854775807:=by rw[<-c];exact(KE S R B z 0 none (by omega) (λn e=>by simp at e)).2.1
 have J:WC T:=by rw[<-c];exact l.star
 have H:∀(w':World) (q:Nat),TN _ q (dJ x)->zF 105 #[aM q] w' (zU w' T):=λw' q hq=>by rw[<-c];exact ajG _ w' q hq (by rw[c];exact g)
 have HR:dJ (.often x lo none)=eQ (dJ x) lo T:=by rw[<-c];rfl
 have E:∀j,j<lo->∀(w':World) (q r:Nat),TN w' q (dJ x)->TN w' r (eQ (dJ x) j T)->zF 102 #[aM q,aM r] w' (zU w' (eQ (dJ x) (j+1) T)):=by intro j N w' q r hq Z;rw[Cq];refine yP _ _ w' q r hq Z l.1 (J8 l j T J).1 ?_;rw[<-Cq,<-c];exact(KE S R B z (j+1) none (by omega) (λn e=>by simp at e)).2.1
 have I:∀w',aB [] w w'->zC w' p 259 (zI lo)/\zC w' p 260 (zI (-1)):=λw' b=>⟨(b.cell (p:=(zB p 259)) (bY d) (by simp)).trans d,(b.cell (p:=(zB p 260)) (bY f) (by simp)).trans f⟩;unfold pq at ca;unfold aM at A H |-;delta zF;go_in;go_wp2_with fail;refine A.mono ?_;rintro e W ⟨q,rfl,U,F1⟩;unfold aM;go_wp2_with fail;refine(wO W).mono ?_;rintro e L ⟨_,rfl,hp,b⟩;have D:=U.aC b;have F2:=F1.trans b;obtain⟨_,_⟩:=I L F2;unfold aM;go_wp2_with fail;refine (H L q D).mono ?_;rintro e m ⟨ps,rfl,PT,i⟩;have FT:=F2.trans i;have Q:∀w',aB [] m w'->TN w' q (dJ x):=λw' y=>(D.aC i).aC y;obtain⟨_,_⟩:=I m FT;unfold aM;go_wp2;go_loopg [8,9] 1 (λk t v9 wr=>k=1/\t=zP ps/\v9=zI lo/\m=wr);exact⟨rfl,rfl,rfl,rfl⟩
 case round =>
 obtain⟨_,rfl,rfl,rfl⟩:=hrel;have:decide ((lo:Int) < -1)=false:=a0f (by omega);go_wp2;go_loopg [8,12] lo (λk t u wr=>∃(j pt:Nat),j+k=lo/\u=zI j/\t=zP pt/\TN wr pt (eQ (dJ x) j T)/\aB [] w wr/\aB [] m wr);exact⟨0,_,by omega,rfl,rfl,PT,FT,zK⟩
 .obtain⟨j,pt,_,rfl,rfl,P,F,G⟩:=hrel;obtain⟨_,_⟩:=I wr F;by_cases N:j<lo
  .have C:=E j N wr q pt (Q wr G) P;unfold aM at C;go_wp2_with fail;refine C.mono ?_;rintro e _ ⟨s,rfl,P5,b⟩;unfold aM;go_wp2;go_roundg (gk-1);exact⟨j+1,s,by omega,by go_num,rfl,P5,F.trans b,G.trans b⟩;omega
  have X:j=lo:=by omega
  subst X;go_wp2;go_ret;rw[HR];exact⟨pt,rfl,P,F⟩
def apD(x lo n)(ih:Vi x):Vi (.often x lo (some n)):=by
 intro w p h hg;obtain⟨a,I,hx⟩:=h;have:=I.c0;obtain⟨ca,_,i,l⟩:=I.ends;obtain⟨D,_,u,KH⟩:=hg.often;have u:=u n rfl;have KH:=KH n rfl;obtain⟨_,_,M,L,C,B⟩:=D.bd;have A:=aj (ih w a hx D);have f:=D.wc;have HR:Z_ (dJ (.often x lo (some n))=eQ _ lo (dG _ (n-lo) .one)):=rfl;have W:Z_ (∀j,j<n-lo->∀(w':World) (q r:Nat),TN w' q (dJ x)->TN w' r (dG (dJ x) j .one)->zF 102 #[aM q,aM r] w' (zU w' (aG (dJ x) (dG (dJ x) j .one)))):=by
  intro j g w' q r hq t;exact yP _ _ w' q r hq t f.1 (E7 f j .one .one).1 (ajT M L C B j (by omega))
 have X:Z_ (∀j,j<n-lo->∀(w':World) (q r:Nat),TN w' q (aG (dJ x) (dG (dJ x) j .one))->TN w' r .one->zF 103 #[aM q,aM r] w' (zU w' (dG (dJ x) (j+1) .one))):=by
  intro j g w' q r hq t;rw[Qj];have b:=KE M L C B 0 (some (j+1)) (by omega) (λm e=>by simp at e;omega);have e:kD (dJ x) 0 (some (j+1))=kY (aG (dJ x) (dG (dJ x) j .one)) .one:=by rw[<-Qj];rfl
  rw[e]at b;exact SK _ _ w' q r hq t (f.then (E7 f j .one .one)) .one b.2.1 b.2.2
 have V:Z_ (∀j,j<lo->∀(w':World) (q r:Nat),TN w' q (dJ x)->TN w' r (eQ (dJ x) j (dG (dJ x) (n-lo) .one))->zF 102 #[aM q,aM r] w' (zU w' (eQ (dJ x) (j+1) (dG (dJ x) (n-lo) .one)))):=by
  intro j g w' q r hq t;rw[Cq];refine yP _ _ w' q r hq t f.1 (J8 f j _ (E7 f _ .one .one)).1 ?_;rw[<-Cq];have b:=KE M L C B (j+1) (some (j+1+(n-lo))) (by omega) (λm e=>by simp at e;omega);have e:kD (dJ x) (j+1) (some (j+1+(n-lo)))=eQ (dJ x) (j+1) (dG (dJ x) (n-lo) .one):=by
   simp only[kD];rw[show j+1+(n-lo)-(j+1)=n-lo by omega]
  rw[e]at b;exact b.2.1
 have Z:Z_ (∀w',aB [] w w'->zC w' p 259 (zI lo)/\zC w' p 260 (zI n)):=λw' b=>⟨(b.cell (p:=(zB p 259)) (bY i) (by simp)).trans i,(b.cell (p:=(zB p 260)) (bY l) (by simp)).trans l⟩;unfold pq at ca;unfold aM at A |-;delta zF;go_in;go_wp2_with fail;refine(A.o).mono ?_;rintro e w1 ⟨q,rfl,d,b⟩;have P1:=aj d;have F1:=aj b;unfold aM;go_wp2_with fail;refine(wO w1).mono ?_;rintro e y ⟨pe,rfl,d,b⟩;have P2:=aj (P1.o.aC b);have F2:=aj (F1.o.trans b);have E2:=aj d;obtain⟨_,_⟩:=Z.o y F2;have Q:Z_ (∀w',aB [] y w'->TN w' q (dJ x)):=λw' J=>P2.o.aC J;unfold aM;go_wp2;go_loopg [8,9] (n-lo) (λk E v9 wr=>∃(j c pt:Nat),j+k=n-lo/\c=lo+j/\v9=zI c/\E=zP pt/\TN wr pt (dG (dJ x) j .one)/\aB [] w wr/\aB [] y wr);case atStart=>exact⟨0,lo,pe,by omega,rfl,rfl,rfl,E2,F2,aB.refl _ _⟩
 case round =>
 clear E2 F2 P2;obtain⟨j,c,pt,lU,R,rfl,rfl,d,b,v⟩:=hrel;have P:=aj d;have F:=aj b;have G:=aj v;obtain⟨cl,ch⟩:=Z.o wr b;clear d b v;by_cases g:j<n-lo
 .have PY:c<n:=by omega
  have O:=aj (W.o j g wr q pt (Q.o wr G) P);have U:=aj R;clear R;unfold aM at O;go_wp2_with fail;refine(O.o).mono ?_;rintro e w3 ⟨s3,rfl,d,b⟩;have P3:=aj d;have F3:=aj (F.o.trans b);have G3:=aj (G.o.trans b);clear d b O;unfold aM;go_wp2_with fail;refine(wO w3).mono ?_;rintro e w4 ⟨s4,rfl,d,b⟩;have T:=aj (X.o j g w4 s3 s4 (P3.o.aC b) d);have F4:=aj (F3.o.trans b);have G4:=aj (G3.o.trans b);clear d b;unfold aM at T |-;go_wp2_with fail;refine(T.o).mono ?_;rintro e w5 ⟨s5,rfl,d,b⟩;have S:=aj d;have F5:=aj (F4.o.trans b);have Y:=aj (G4.o.trans b);clear d b T;unfold aM;go_wp2;go_roundg (gk-1);case measure=>omega
  case rel=>exact⟨j+1,c+1,s5,by omega,by have:=U.o;omega,by go_num,rfl,S,F5,Y⟩
 have z:j=n-lo:=by omega
 have:¬ c<n:=by omega
 rw[z]at P;clear R z g lU;go_wp2_with fail;go_loopg [8,12] lo (λk E H wr=>∃(j pt:Nat),j+k=lo/\H=zI j/\E=zP pt/\TN wr pt (eQ (dJ x) j (dG (dJ x) (n-lo) .one))/\aB [] w wr/\aB [] y wr);case atStart=>exact⟨0,_,by omega,rfl,rfl,P,F,G⟩
 case round =>
  clear P F G cl ch;obtain⟨j,pt,_,rfl,rfl,d,b,v⟩:=hrel;have P:=aj d;have F:=aj b;have G:=aj v;obtain⟨_,_⟩:=Z.o wr b;clear d b v;by_cases g:j<lo
  .have N:=aj (V.o j g wr q pt (Q.o wr G) P);unfold aM at N;go_wp2_with fail;refine(N.o).mono ?_;rintro e _ ⟨s,rfl,d,b⟩;have S:=aj d;have F5:=aj (F.o.trans b);have Y:=aj (G.o.trans b);clear d b N;unfold aM;go_wp2;go_roundg (gk-1);case measure=>omega
   case rel=>exact⟨j+1,s,by omega,by go_num,rfl,S,F5,Y⟩
  have z:j=lo:=by omega
  subst z;go_wp2;go_ret;rw[HR.o];exact⟨pt,rfl,P,F⟩
def qU:∀t:TR,Vi t
 | .nil=>ar6
 | .one s=>ar7 s
 | .both x y=>apB x y (qU x) (qU y)
 | .either x y=>ajU x y (qU x) (qU y)
 | .often x lo none=>apC x lo (qU x)
 | .often x lo (some n)=>apD x lo n (qU x)
theorem MU(F f)(c:α->Nat):∀l:List α,(∀a∈l,((parts (F a)).map f).sum<=c a)->(((l.map F).flatMap parts).map f).sum<=(l.map c).sum
 | [],_=>by simp
 | a::r,h=>by have e:=h a (by simp);have d:=MU F f c r (λx b=>h x (by simp[b]));simp only[a0E,a1i,a0P,a1Y,a0Y];omega
theorem FU(e)(k:Nat):∀l:List α,(l.map λa=>e a*k).sum=(l.map e).sum*k
 | []=>by simp
 | a::r=>by simp only[a0E,a0Y,a0J,FU e k r]
theorem sum_add(e f:α->Nat):∀l:List α,(l.map λa=>e a+f a).sum=(l.map e).sum+(l.map f).sum
 | []=>by simp
 | a::r=>by simp only[a0E,a0Y,sum_add e f r];omega
theorem KP.bQ {l:List α} {F:α->NF} {t:α->Nat} {C E e:α->Nat->Nat}(i:∀a∈l,wf (F a))(h:∀a∈l,KP (F a) (t a) (C a) (E a) (e a)) :
 KP (bQ (l.map F)) (l.map t).sum (λn=>(l.map λa=>C a n).sum) (λn=>(l.map λa=>E a n).sum) (λn=>(l.map λa=>e a n).sum):=by
 have f:∀x∈l.map F,wf x:=λx g=>by obtain⟨a,b,rfl⟩:=a0q.1 g;exact i a b
 refine⟨?_,λn=>?_,λk n j=>?_⟩
 .exact a0h (DN f pn 514 (λy d=>by simp[pn,d])) (MU F pn t l λa b=>(h a b).t)
 .exact a0h (DN f (pc 0 n) 514 (λy d=>by simp[pc,d])) (MU F _ _ l λa b=>(h a b).c n)
 refine a0h (DN f (pc k n) (514+k) (λy d=>by simp[pc,d])) (a0h (MU F _ (λa=>E a n+e a n*k) l λa b=>(h a b).e k n j) ?_);rw[sum_add,FU];exact a0b _
def KP.or{Y f d p m i o j g}(r:wf X)(q:wf Y)(v:KP X f p m i)(u:KP Y d o j g) :
 KP (kY X Y) (f+d) (λn=>p n+o n) (λn=>m n+j n) (λn=>i n+g n):=by
 have h:=KP.bQ (l:=[true,false]) (F:=λb=>if b then X else Y) (t:=λb=>if b then f else d) (C:=λb=>if b then p else o) (E:=λb=>if b then m else j) (e:=λb=>if b then i else g)
  (by intro a _;cases a;exact q;exact r) (by intro a _;cases a;exact u;exact v)
 have w:kY X Y=Go.Proofs.YtnkobfoopcolaaaGreat.bQ ([true,false].map λb=>if b then X else Y):=rfl;rw[w];refine⟨by simpa using h.t,λn=>by simpa using h.c n,λk n s=>by simpa using h.e k n s⟩
theorem KP.one:KP .one 2 (λ_=>0) (λ_=>0) (λ_=>0):=by refine⟨by simp[parts,pn,dF,nl,name],λn=>by simp[parts,pc,dF,oG,hG],λk n _=>by simp[parts,pc,dF,oG,hG]⟩
theorem KP.zero:KP .zero 0 (λ_=>0) (λ_=>0) (λ_=>0):=by refine⟨by simp[parts],λn=>by simp[parts],λk n _=>by simp[parts]⟩
theorem KP.set(s):KP (.set s) 514 (λ_=>514) (λ_=>514) (λ_=>1):=by refine⟨by simp[parts,pn,dF],λn=>by simp[parts,pc,dF],λk n _=>by simp[parts,pc,dF]⟩
theorem KP.of {C E e}(h:zL X t C E e)(d:gF X=true\/∃a,X=.star a):KP X (t+1) C E e:=by
 have b:parts X=[X]/\dF X=false:=by
  rcases d with d|⟨a,rfl⟩
  .cases X<;>simp[gF]at d;exact⟨rfl,rfl⟩
  exact⟨rfl,rfl⟩
 have ht:=h.t;refine⟨?_,λn=>?_,λk n f=>?_⟩
 .grind [pn]
 .rw[b.1];simpa[pc,b.2] using h.c n
 rw[b.1];simpa[pc,b.2] using h.e k n f
theorem KP.mono{a C E e f d b}(h:KP X t C E e)(ht:t<=a)(hC:∀n,C n<=f n)(hE:∀n,E n<=d n)(he:∀n,e n<=b n):KP X a f d b :=
 ⟨a0h h.t ht,λn=>a0h (h.c n) (hC n),λk n g=>a0h (h.e k n g) (a2Y (hE n) (a0z k (he n)))⟩
def hh:Nat->Nat->Nat
 | 0,_=>1
 | k+1,n=>hh k n+sumTo (hh k) n
theorem YQ:∀k n,1<=hh k n
 | 0,_=>a0b _
 | k+1,n=>by have:=YQ k n;simp only[hh];omega
theorem ag9(f):∀{n},1<=n->f n<=sumTo f n
 | 0,h=>by omega
 | n+1,_=>by simp only[sumTo];omega
theorem ar8(k)(a:1<=n):2*hh k n<=hh (k+1) n:=by grind [ag9,hh]
def SV(k)(a:1<=n):∀j,2 ^ j*hh k n<=hh (k+j) n
 | 0=>by simp
 | j+1=>by have c:=SV k a j;have b:=ar8 (k+j) a;rw[Nat.pow_succ,show k+(j+1)=k+j+1 by omega,Nat.mul_right_comm];omega
theorem ar9(n):hh 1 n=n+1:=by have:=oO 1 n;simp only[hh];omega
def aff{a}(b:1<=n)(h:k<=a):hh k n<=hh a n:=by obtain⟨j,rfl⟩:∃j,a=k+j:=⟨a-k,by omega⟩;have d:=SV k b j;have c:1<=2 ^ j:=Nat.one_le_two_pow;have:=a0z (hh k n) c;omega
def asa {C a}(h:∀n,1<=n->C n<=a*hh k n)(n):sumTo C n+a*hh k n<=a*hh (k+1) n:=by
 have b:sumTo C n<=sumTo (λj=>a*hh k j) n:=qJ λj b _=>h j b;have d:∀n,sumTo (λj=>a*hh k j) n=a*sumTo (hh k) n:=by
  intro n;induction n with
  | zero=>simp[sumTo]
  | succ n c=>simp[sumTo,c,a1A]
 rw[d]at b;simp[hh,a1A];omega
def atd:LN:=[0,1,4,10,18,28,40,54,72,100,112,123,180,193,216,280,324,341,400,419,504,540,562,586,720,784,810,1000,1028,1058,1120,1151,1296,1329,1364,1512,1800,1837,1876,1930,2016]
def dS(p:Nat):Nat:=atd.getD p 0
theorem aha(b:1<=p)(hq:1<=q)(h:p+q<=40):dS p+dS q+p*q<=dS (p+q):=by
 have:((List.range 41).all λp=>(List.range 41).all λq=>!(decide (p+q<=40))||decide (dS p+dS q+p*q<=dS (p+q)))=true:=by decide +kernel
 have a:=a1d.1 (a1d.1 this p (by simp;omega)) q (by simp;omega);simp only[a1a,a1j,a1g,a0U]at a;omega
def apE(e:1<=p)(c:2<=N)(b:N<=10)(h:N*p<=40):(N*N+N-2)*dS p<=dS (N*p):=by
 have:((List.range 41).all λp=>(List.range 11).all λN=>!(decide (2<=N/\N*p<=40))||decide ((N*N+N-2)*dS p<=dS (N*p)))=true:=by decide +kernel
 have d:p<=40:=a0h (a1q p (by omega)) h;have a:=a1d.1 (a1d.1 this p (by simp;omega)) N (by simp;omega);simp only[a1a,a1j,a1g,a0U]at a;omega
def YR(h:p<=40):p*p<=dS p:=by
 have:((List.range 41).all λp=>decide (p*p<=dS p))=true:=by decide +kernel
 have a:=a1d.1 this p (by simp;omega);simpa using a
theorem auM:hh 10 40=47573905428:=by decide +kernel
def lg(p:Nat):Nat:=Nat.log2 p
def apF(b:1<=p)(h:p<=40):2 ^ lg p<=p/\p<2 ^ (lg p+1):=by
 have:((List.range 41).all λp=>!(decide (1<=p))||decide (2 ^ lg p<=p/\p<2 ^ (lg p+1)))=true:=by decide +kernel
 have a:=a1d.1 this p (by simp;omega);simp only[a1a,a1j,a1g,a0U]at a;omega
def afg(h:p+q<=40):lg p<=lg (p+q):=by
 have:((List.range 41).all λp=>(List.range 41).all λq=>!(decide (p+q<=40))||decide (lg p<=lg (p+q)))=true:=by decide +kernel
 have a:=a1d.1 (a1d.1 this p (by simp;omega)) q (by simp;omega);simp only[a1a,a1j,a1g,a0U]at a;omega
def afh(b:1<=p)(c:2<=N)(h:N*p<=40):lg p+1<=lg (N*p):=by
 have:((List.range 41).all λp=>(List.range 41).all λN=>!(decide (1<=p/\2<=N/\N*p<=40))||decide (lg p+1<=lg (N*p)))=true:=by decide +kernel
 have e:p<=40:=a0h (a1q p (by omega)) h;have d:N<=40:=a0h (a2r N (by omega)) h;have a:=a1d.1 (a1d.1 this p (by simp;omega)) N (by simp;omega);simp only[a1a,a1j,a1g,a0U]at a;omega
def L1(p b n:Nat):Nat:=if b+lg p=0 then 1 else n+1
theorem Iv(p b n):1<=L1 p b n:=by unfold L1;split<;>omega
theorem ajV(p b)(c:1<=n):L1 p b n*2 ^ lg p<=2*hh (b+lg p) n:=by
 unfold L1;split
 .grind [lg,YQ]
 rename_i h;obtain⟨j,d⟩:∃j,b+lg p=1+j:=⟨b+lg p-1,by omega⟩;have a:=SV 1 c j;rw[ar9]at a;rw[d];have e:2 ^ lg p<=2*2 ^ j:=by rw[a1b,<-Nat.pow_succ];exact a1r (by omega) (by omega)
 calc (n+1)*2 ^ lg p<=(n+1)*(2*2 ^ j):=a0o _ e
  _=2*(2 ^ j*(n+1)):=by rw[a1b (n+1),a0Z]
  _<=2*hh (1+j) n:=a0o _ a
def Rb(p b w n:Nat):Nat:=964*w*dS p*hh (b+lg p) n
def tails{b y}(f:1<=p)(h:p<=40)(a:1<=n)(ht:t<=964*p) {e}(he:e<=p*y*L1 p b n):e*t*2 ^ lg p<=Rb p b (2*y) n:=by
 have c:=YR h
 calc e*t*2 ^ lg p<=(p*y*L1 p b n)*(964*p)*2 ^ lg p:=a0z _ (a0D he ht)
  _=964*y*(p*p)*(L1 p b n*2 ^ lg p):=by simp only[a1b,a1y,a0Z]
  _<=964*y*dS p*(2*hh (b+lg p) n):=a0D (a0o _ c) (ajV p b a)
  _=Rb p b (2*y) n:=by unfold Rb;simp only[a1b,a1y,a0Z]
theorem SX(p b w v n):Rb p b w n+Rb p b v n=Rb p b (w+v) n:=by unfold Rb;simp only[a1A,a0J]
def vD{b v}(h:w<=v):Rb p b w n<=Rb p b v n:=by unfold Rb;exact a0z _ (a0z _ (a0o _ h))
structure Pt(X:NF)(p b m w:Nat)(t:Nat)(C E e:Nat->Nat):Prop where
 kp:KP X t C E e
 ht:t+10<=p*(524+10*(m+b))
 he:∀n,e n+(if jK X then 1+(if rG X then n else 0) else 0)<=p*(1+m+b)*L1 p b n
 hC:∀n,1<=n->C n*2 ^ lg p<=Rb p b w n
 hE:∀n,1<=n->(t+3+E n+(if rG X then sumTo (λj=>C j+519) n else 0))*2 ^ lg p<=Rb p b w n
 br:rG X=true->1<=b+lg p
theorem Pt.set(s):Pt (.set s) 1 0 0 2 514 (λ_=>514) (λ_=>514) (λ_=>1):=by
 refine⟨KP.set s,by omega,λn=>?_,λn c=>?_,λn c=>?_,λh=>by simp[rG]at h⟩
 .simp[Iv,jK]
 .have b:lg 1=0:=by decide +kernel
  have a:dS 1=1:=by decide +kernel
  unfold Rb;rw[b,a];simp[hh]
 have b:lg 1=0:=by decide +kernel
 have a:dS 1=1:=by decide +kernel
 unfold Rb;rw[b,a];simp[hh,rG]
theorem Pt.star{b C E e}(h:Pt X p b m w t C E e)(i:1<=p)(z:p<=40)(M:m+b<=43)(hz:X≠.zero) :
 ∃A J,Pt (.star X) p b (m+1) (w+2*(m+b)+8) (t+4) A A J:=by
 have o:∃tk,tk<=t+2/\zL X tk C (λn=>t+3+E n+(if rG X then if gF X then 0 else sumTo (λj=>C j+519) n else 0)) (λn=>e n+(if jK X then 1+(if rG X then n else 0) else 0)):=by
  cases d:jK X
  .refine⟨t,by omega,(h.kp.plain d hz).mono (a0b _) (λ_=>a0b _) (λn=>by omega) (λn=>by simp)⟩
  cases X with
  | sum l =>
    refine⟨t+2,by omega,h.kp.sum.mono (a0b _) (λ_=>a0b _) (λn=>?_) (λn=>?_)⟩
    .simp[rG,gF]
    show 1+e n+(if JE l=true then n else 0)<=e n+(1+(if JE l=true then n else 0));omega
  | zero=>simp[jK]at d
  | one=>simp[jK]at d
  | set s=>simp[jK]at d
  | pair a c=>simp[jK]at d
  | star a=>simp[jK]at d
 obtain⟨tk,D,o⟩:=o
 let F:Nat->Nat:=λn=>t+3+E n+(if rG X then sumTo (λj=>C j+519) n else 0)
 let y:Nat->Nat:=λn=>e n+(if jK X then 1+(if rG X then n else 0) else 0)
 refine⟨λn=>F n+(y n+1+(if gF X then n else 0))*(t+6),λn=>1+y n+(if gF X then n else 0),?_⟩;have B:∀n,1+y n+(if gF X then n else 0)<=p*(1+(m+1)+b)*L1 p b n:=by
  intro n;have u:=h.he n;have r:1+(if gF X then n else 0)<=p*L1 p b n:=by
   have q:L1 p b n<=p*L1 p b n:=a1q _ i;refine a0h ?_ q;by_cases f:gF X=true
   .have:rG X=true:=by cases X<;>simp[gF]at f;rfl
    have:=h.br this;simp[f,a0G];unfold L1;rw[a0n (by omega)];omega
   grind [Iv]
  have v:p*(1+(m+1)+b)*L1 p b n=p*(1+m+b)*L1 p b n+p*L1 p b n:=by grind
  rw[v];show 1+(e n+(if jK X then 1+(if rG X then n else 0) else 0))+(if gF X then n else 0)<=_;omega
 have g:∀n,tk+2+(t+3+E n+(if rG X then if gF X then 0 else sumTo (λj=>C j+519) n else 0))+(y n)*(tk+4)+(if gF X then sumTo (λj=>C j+(tk+523)) n else 0)<=F n+(y n+1+(if gF X then n else 0))*(t+6):=by
  intro n;have u:y n*(tk+4)<=y n*(t+6):=a0o _ (by omega);by_cases f:gF X=true
  .have x:rG X=true:=by cases X<;>simp[gF]at f;rfl
   have r:sumTo (λj=>C j+(tk+523)) n=sumTo (λj=>C j+519) n+n*(tk+4):=by rw[<-oO _ n,<-yJ];congr 1;funext j;omega
   have q:n*(tk+4)<=n*(t+6):=a0o _ (by omega);simp[F,f,x,a0G,r,a0J];omega
  grind
 have H:∀n,1<=n->(t+4+3+(F n+(y n+1+(if gF X then n else 0))*(t+6)))*2 ^ lg p<=Rb p b (w+2*(m+b)+8) n:=by
  intro n k;have ht:=h.ht;have L:t+10<=964*p:=by have:p*(524+10*(m+b))<=p*964:=a0o _ (by omega);omega
  have r:=tails i z k (by omega:t+6<=964*p) (B n);have q:=tails (y:=1) (e:=1) (b:=b) i z k (by omega:t+7<=964*p) (by have:=Iv p b n;have:1*1<=p*L1 p b n:=a0D i this;simpa using this);have v:(t+4+3+(F n+(y n+1+(if gF X then n else 0))*(t+6)))*2 ^ lg p=F n*2 ^ lg p+(1+y n+(if gF X then n else 0))*(t+6)*2 ^ lg p+1*(t+7)*2 ^ lg p:=by grind
  rw[v];have I:Rb p b (w+2*(m+b)+8) n=Rb p b w n+Rb p b (2*(1+(m+1)+b)) n+Rb p b (2*1) n+Rb p b 2 n:=by grind [SX]
  rw[I];have:F n*2 ^ lg p<=Rb p b w n:=h.hE n k;omega
 refine⟨?_,?_,?_,?_,?_,?_⟩
 .refine(KP.of o.star (.inr ⟨X,rfl⟩)).mono (by omega) (λn=>g n) (λn=>g n) (λn=>?_);exact a0b _
 .have:=h.ht;rw[show 524+10*(m+1+b)=(524+10*(m+b))+10 by omega,a1A];omega
 .grind [jK]
 .grind
 .grind [rG]
 intro x;simp[rG]at x
def lift{f a b}(c:1<=n)(h:f*2 ^ lg a<=Rb a b w n)(g:lg a<=lg p):f*2 ^ lg p<=964*w*dS a*hh (b+lg p) n:=by
 obtain⟨j,d⟩:∃j,lg p=lg a+j:=⟨lg p-lg a,by omega⟩;rw[d,Nat.pow_add,<-a0Z]
 calc f*2 ^ lg a*2 ^ j<=Rb a b w n*2 ^ j:=a0z _ h
  _=964*w*dS a*(2 ^ j*hh (b+lg a) n):=by unfold Rb;rw[a0Z (964*w*dS a),a1b (hh _ _)]
  _<=964*w*dS a*hh (b+(lg a+j)) n:=by rw[<-a2M];exact a0o _ (SV _ c j)
theorem FY{b}(h:lg p<=lg q)(hb:b<=b'):L1 p b n<=L1 q b' n:=by grind [L1]
structure Ct(X:NF)(p b m w:Nat)(t:Nat)(C E e:Nat->Nat):Prop where
 k:zL X t C E e
 ht:t+8<=p*(524+10*(m+b))
 he:∀n,e n<=p*(1+m+b)*L1 p b n
 hC:∀n,1<=n->C n*2 ^ lg p<=Rb p b w n
 hE:∀n,1<=n->E n*2 ^ lg p<=Rb p b w n
def Pt.ct{b C E e}(h:Pt X p b m w t C E e)(hz:X≠.zero):∃g k j,Ct X p b m w g C k j:=by
 have ht:=h.ht;cases d:jK X
 .refine⟨t,E,e,h.kp.plain d hz,by omega,λn=>by have:=h.he n;omega,h.hC,λn f=>?_⟩;exact a0h (a0z _ (by omega)) (h.hE n f)
 cases X with
 | sum l =>
   refine⟨t+2,_,_,h.kp.sum,by omega,λn=>?_,h.hC,λn f=>?_⟩
   .have o:e n+(1+(if JE l=true then n else 0))<=p*(1+m+b)*L1 p b n:=h.he n;omega
   exact h.hE n f
 | zero=>simp[jK]at d
 | one=>simp[jK]at d
 | set s=>simp[jK]at d
 | pair a c=>simp[jK]at d
 | star a=>simp[jK]at d
def ahb{b}(a:1<=n)(h:b<=b'):Rb p b w n<=Rb p b' w n:=by unfold Rb;exact a0o _ (aff a (by omega))
def ahc{b e}(h:e<=p*(1+m+b)*L1 p b n)(a:m<=m')(hb:b<=b'):e<=p*(1+m'+b')*L1 p b' n :=
 a0h h (a0D (a0o _ (by omega)) (FY (a0b _) hb))
theorem Ct.mono{b C E e}(h:Ct X p b m w t C E e)(hb:b<=b')(d:m<=m')(c:w<=w'):Ct X p b' m' w' t C E e :=
 ⟨h.k,a0h h.ht (a0o _ (by omega)),λn=>ahc (h.he n) d hb,λn a=>a0h (h.hC n a) (a0h (vD c) (ahb a hb)),λn a=>a0h (h.hE n a) (a0h (vD c) (ahb a hb))⟩
theorem Pt.mono{b C E e}(h:Pt X p b m w t C E e)(hb:b<=b')(f:m<=m')(c:w<=w'):Pt X p b' m' w' t C E e :=
 ⟨h.kp,a0h h.ht (a0o _ (by omega)),λn=>ahc (h.he n) f hb,λn a=>a0h (h.hC n a) (a0h (vD c) (ahb a hb)),λn a=>a0h (h.hE n a) (a0h (vD c) (ahb a hb)),λd=>by have:=h.br d;omega⟩
theorem Ct.cons {A B b tA c F r eA CB s j}(d:Ct A p b m w tA F r eA)(f:Ct B q b m w c CB s j)(D:1<=p)(hq:1<=q)(e:p+q<=40)(I:m+b<=44)(C:2*(1+m+b)<=w)
 (u:wf A) (v:aP A=true) (t:wf B) (tb:aP B=true) :
 Ct (aG A B) (p+q) b m w (tA+c+3) (λn=>r n+eA n*(c+3)+CB n) (λn=>r n+eA n*(c+3)+s n) (λn=>eA n+j n):=by
 have i:=afg e;have l2:lg q<=lg (p+q):=by rw[a2w];exact afg (by omega)
 have:=d.ht;have:=f.ht;have h:∀n,1<=n->eA n*(c+3)*2 ^ lg (p+q)<=964*w*(p*q)*hh (b+lg (p+q)) n:=by
  intro n a;have o:=a0h (d.he n) (a0o _ (FY i (a0b _)));have l:c+3<=964*q:=by have:q*(524+10*(m+b))<=q*964:=a0o _ (by omega);omega
  calc eA n*(c+3)*2 ^ lg (p+q)<=p*(1+m+b)*L1 (p+q) b n*(964*q)*2 ^ lg (p+q):=a0z _ (a0D o l)
   _=964*(1+m+b)*(p*q)*(L1 (p+q) b n*2 ^ lg (p+q)):=by simp[a1b,a1y,a0Z]
   _<=964*(1+m+b)*(p*q)*(2*hh (b+lg (p+q)) n):=a0o _ (ajV (p+q) b a)
   _=964*(2*(1+m+b))*(p*q)*hh (b+lg (p+q)) n:=by simp only[a1b,a1y,a0Z]
   _<=964*w*(p*q)*hh (b+lg (p+q)) n:=a0z _ (a0z _ (a0o _ C))
 have g:∀n x y z:Nat,x*2 ^ lg (p+q)<=964*w*dS p*hh (b+lg (p+q)) n->y*2 ^ lg (p+q)<=964*w*(p*q)*hh (b+lg (p+q)) n->z*2 ^ lg (p+q)<=964*w*dS q*hh (b+lg (p+q)) n->(x+y+z)*2 ^ lg (p+q)<=Rb (p+q) b w n:=by
  intro n x y z H G _;have:=aha D hq e;have o:964*w*dS p*hh (b+lg (p+q)) n+964*w*(p*q)*hh (b+lg (p+q)) n+964*w*dS q*hh (b+lg (p+q)) n=964*w*(dS p+p*q+dS q)*hh (b+lg (p+q)) n:=by grind
  have l:964*w*(dS p+p*q+dS q)*hh (b+lg (p+q)) n<=Rb (p+q) b w n:=by unfold Rb;exact a0z _ (a0o _ (by omega))
  rw[a0J,a0J];omega
 refine⟨d.k.then f.k u v t tb,?_,λn=>?_,λn a=>?_,λn a=>?_⟩
 .rw[a0J];omega
 .have:=a0h (d.he n) (a0o _ (FY i (a0b _)));have:=a0h (f.he n) (a0o _ (FY l2 (a0b _)));rw[a0J,a0J];omega
 .exact g n _ _ _ (lift a (d.hE n a) i) (h n a) (lift a (f.hC n a) l2)
 exact g n _ _ _ (lift a (d.hE n a) i) (h n a) (lift a (f.hE n a) l2)
structure Gt(X:NF)(p b m w:Nat)(t:Nat)(C E e:Nat->Nat):Prop where
 kp:KP X t C E e
 ht:t+5<=p*(524+10*(m+b))
 he:∀n,e n<=p*(1+m+b)*L1 p b n
 hC:∀n,1<=n->C n*2 ^ lg p<=Rb p b w n
 hE:∀n,1<=n->(t+3+E n)*2 ^ lg p<=Rb p b w n
def Pt.gt{b C E e}(h:Pt X p b m w t C E e):Gt X p b m w t C E e :=
 ⟨h.kp,by have:=h.ht;omega,λn=>by have:=h.he n;omega,h.hC,λn a=>a0h (a0z _ (by omega)) (h.hE n a)⟩
def Ct.gt{b C E e}(h:Ct X p b m w t C E e)(d:1<=p)(i:p<=40)(j:m+b<=44)(f:gF X=true):Gt X p b m (w+2) (t+1) C E e:=by
 have ht:=h.ht;refine⟨KP.of h.k (.inl f),by omega,h.he,λn a=>a0h (h.hC n a) (vD (by omega)),λn a=>?_⟩;have c:t+4<=964*p:=by have:p*(524+10*(m+b))<=p*964:=a0o _ (by omega);omega
 have o:=h.hE n a;have l:=tails (y:=1) (e:=1) (b:=b) d i a c (by have:=Iv p b n;have:=a0D d this;simpa using this);have g:(t+1+3+E n)*2 ^ lg p=E n*2 ^ lg p+1*(t+4)*2 ^ lg p:=by rw[<-a0J];congr 1;omega
 rw[g,<-SX];have:Rb p b (2*1) n=Rb p b 2 n:=rfl;omega
theorem Qk(f a):∀n,sumTo (λj=>f j*a) n=sumTo f n*a
 | 0=>by simp[sumTo]
 | n+1=>by simp only[sumTo,Qk f a n,a0J]
def atf {C:Nat->Nat}{b}(c:1<=p)(l:p<=40)(f:1<=n)(hC:∀n,1<=n->C n*2 ^ lg p<=Rb p b w n) {x}(e:x*2 ^ lg p<=Rb p b w n):(x+sumTo (λj=>C j+519) n)*2 ^ lg p<=Rb p (b+1) (w+2) n:=by
 have h:=asa hC n;rw[Qk]at h;have g:sumTo (λj=>C j+519) n=sumTo C n+n*519:=by rw[yJ,oO]
 have:n*519*2 ^ lg p<=Rb p (b+1) (2*1) n:=by
  refine tails c l f (by omega) ?_;have:n<=L1 p (b+1) n:=by unfold L1;rw[a0n (by omega)];omega
  have:L1 p (b+1) n<=p*L1 p (b+1) n:=a1q _ c;rw[a1H];omega
 have i:Rb p (b+1) (w+2) n=964*w*dS p*hh (b+lg p+1) n+Rb p (b+1) (2*1) n:=by rw[<-SX,show b+lg p+1=(b+1)+lg p by omega];rfl
 rw[i,g,a0J,a0J];have:x*2 ^ lg p<=964*w*dS p*hh (b+lg p) n:=e;omega
theorem Gt.shut{b C E e}(h:Gt X p b m w t C E e)(c:1<=p)(g:p<=40):Pt X p (b+1) m (w+2) t C E e:=by
 have f:∀n,L1 p b n<=L1 p (b+1) n:=λn=>FY (a0b _) (by omega);refine⟨h.kp,?_,λn=>?_,λn a=>?_,λn a=>?_,λ_=>by omega⟩
 .have:=h.ht;rw[show 524+10*(m+(b+1))=(524+10*(m+b))+10 by omega,a1A];omega
 .have d:=h.he n;have:p*(1+m+b)*L1 p b n<=p*(1+m+b)*L1 p (b+1) n:=a0o _ (f n);have:L1 p (b+1) n<=p*L1 p (b+1) n:=a1q _ c;have:(if jK X then 1+(if rG X then n else 0) else 0)<=L1 p (b+1) n:=by grind [L1]
  rw[show 1+m+(b+1)=(1+m+b)+1 by omega,a1A,a0J,a1H];omega
 .exact a0h (h.hC n a) (a0h (vD (by omega)) (ahb a (by omega)))
 refine a0h (a0z _ ?_) (atf c g a h.hC (h.hE n a));split<;>omega
theorem apG(e:nU x=true)(g:l.Nodup)(j:∀y∈l,y=x\/y=.one)(f:x∈l):JE l=false:=by
 have c:vP x=false:=by cases x<;>simp[nU]at e<;>rfl
 have a:∀y∈l.filter (λy=>!vP y),y=x:=by grind [vP]
 have d:x∈l.filter (λy=>!vP y):=List.mem_filter.2 ⟨f,by simp[c]⟩;have b:(l.filter (λy=>!vP y)).Nodup:=g.filter _;unfold JE;generalize l.filter (λy=>!vP y)=L at *
 match L,a,d,b with
 | [],_,d,_=>simp at d
 | [y],a,_,_=>have:=a y (by simp);subst this;simp[e]
 | y::z::r,a,_,b=>rw[(a y (by simp)),a z (by simp)]at b;simp at b
end
section
variable {X Z a:NF} {M N P P' b' i j m m' v w x y:Nat} {α:Type} {hi:Option Nat}
theorem apH(b:WC X)(h:NF.one∈parts X):kY X .one=X:=by
 have d:=Pv b.1 b.2;have c:bQ [X,.one]=bQ [X]:=by
  refine vT ?_ ?_ ?_
  .intro x a;simp at a;rcases a with rfl|rfl;exact b.1;exact trivial
  .intro x a;simp at a;subst a;exact b.1
  grind [parts]
 unfold kY;rw[c,d]
theorem adq(u:WC X)(g:nU X=true):rG (kY X .one)=false:=by
 have F:∀x ∈ [X,NF.one],wf x:=by intro x k;simp at k;rcases k with rfl|rfl;exact u.1;exact trivial
 have m:=u.or WC.one;obtain⟨c,-⟩:=Cc m.1 m.2;have j:∀p∈parts (kY X .one),p=X\/p=.one:=by
  intro p d;unfold kY bQ at d;have B:∀q∈gU (bN ([X,NF.one].flatMap parts)),iU q=true:=by
   intro q hq;rcases wI (kK hq) with h|h
   .exact ET h
   grind [mY]
  rw[Pm B]at d;have v:=kK d;have o:[X,NF.one].flatMap parts=[X,.one]:=by cases X<;>simp[nU]at g<;>rfl
  rw[o]at v;rcases Zf v with⟨A,e⟩|C
  .cases X with
   | set s=>left;rw[e];simp[bf,bits]
   | star a=>exact absurd (by simp[bf,bits]) A
   | zero=>simp[nU]at g
   | one=>simp[nU]at g
   | pair a b=>simp[nU]at g
   | sum l=>simp[nU]at g
  simpa using C
 cases f:kY X .one with
 | sum l =>
   rw[f]at j c;simp[parts]at j c;have w:X∈l:=by
    rw[f]at m;have n:bQ [NF.sum l]=.sum l:=Pv m.1 m.2;by_cases k:X∈l
    .omega
    exfalso;have i:∀y∈l,y=.one:=λy t=>(j y t).resolve_left (λe=>k (e ▸ t))
    match l,i,c,n with
    | [],_,_,n=>simp[bQ,parts,bN,bf,gU,mkS]at n
    | [y],i,_,n=>have:=i y (by simp);subst this;simp[bQ,parts,bN,dF,bf,bits,gU,put,mkS]at n
    | y::z::r,i,c,_=>have E:=i y (by simp);have D:=i z (by simp);rw[E,D]at c;simp at c
   simp only[rG];exact apG g c j w
 | pair a b =>
   have:=j (.pair a b) (by rw[f];simp[parts]);rcases this with h|h
   .grind [nU]
   simp at h
 | zero=>rfl
 | one=>rfl
 | set s=>rfl
 | star a=>rfl
theorem amX {l}(a:WC (.sum l))(hb:JE l=false):NF.one∈l:=by
 by_cases f:NF.one∈l
 .omega
 exfalso;have e:l.filter (λy=>!vP y)=l:=by grind [vP,List.filter_eq_self]
 unfold JE at hb;rw[e]at hb
 match l,hb with
 | [],hb=>simp at hb
 | [x],hb =>
   have c:bQ [NF.sum [x]]=.sum [x]:=Pv a.1 a.2;have d:nU x=true:=by simpa using hb
   cases x<;>simp[nU]at d
   .rename_i s;have b:s≠0:=by have:0<s:=a.1.1.1.1;omega
    simp[bQ,parts,bN,dF,bf,bits,gU,put,mkS,b]at c
   simp[bQ,parts,bN,dF,bf,bits,gU,put,mkS]at c
 | x::y::r,hb=>simp at hb
theorem Pt.opt{p b t C E e}(h:Pt X p b m w t C E e)(f:WC X)(i:1<=p)(B:p<=40)(hz:X≠.zero)(ho:X≠.one) :
 ∃r D A,Pt (kY X .one) p b (m+1) (w+2) r C D A:=by
 by_cases o:NF.one∈parts X
 .rw[apH f o];exact⟨t,E,e,h.mono (a0b _) (by omega) (by omega)⟩
 have q:rG (kY X .one)=true->rG X=true:=by
  intro d;cases X with
  | zero=>exact absurd rfl hz
  | one=>exact absurd rfl ho
  | set s=>rw[adq f rfl]at d;cases d
  | star a=>rw[adq f rfl]at d;cases d
  | pair a c=>rfl
  | sum l =>
    cases hb:JE l
    .exact absurd (amX f hb) o
    simpa[rG] using hb
 have u:=KP.or f.1 (show wf .one from trivial) h.kp KP.one;refine⟨t+2,E,e,⟨u.mono (a0b _) (λn=>by simp) (λn=>by simp) (λn=>by simp),?_,λn=>?_,λn g=>?_,λn g=>?_,λd=>h.br (q d)⟩⟩
 .have:=h.ht;rw[show 524+10*(m+1+b)=(524+10*(m+b))+10 by omega,a1A];omega
 .have z:=h.he n;have x:L1 p b n<=p*L1 p b n:=a1q _ i;have v:(if jK (kY X .one) then 1+(if rG (kY X .one) then n else 0) else 0)<=L1 p b n:=by
   have:=Iv p b n;by_cases d:rG (kY X .one)=true
   .have F:=h.br (q d);have k:L1 p b n=n+1:=by unfold L1;rw[a0n (by omega)]
    rw[k,d];split<;>simp<;>omega
   grind
  rw[show 1+(m+1)+b=(1+m+b)+1 by omega,a1A,a0J,a1H];omega
 .exact a0h (h.hC n g) (vD (by omega))
 have z:=h.hE n g;have x:=tails (y:=1) (e:=1) (b:=b) (t:=2) i B g (by omega) (by have:=Iv p b n;have:=a0D i this;simpa using this);rw[<-SX];have G:Rb p b (2*1) n=Rb p b 2 n:=rfl;have v:(t+2+3+E n+(if rG (kY X .one) then sumTo (λj=>C j+519) n else 0))*2 ^ lg p<=(t+3+E n+(if rG X then sumTo (λj=>C j+519) n else 0))*2 ^ lg p+1*2*2 ^ lg p:=by grind [rG,kY,Nat.add_mul,Nat.mul_le_mul_right,Bool.false_eq_true]
 omega
theorem ahd(p):∀l:List α,(∀a∈l,1<=p a)->(l.map p).sum<=40->(l.map λa=>dS (p a)).sum<=dS (l.map p).sum
 | [],_,_=>by simp[dS,atd]
 | a::r,h,c=>by
   simp only[a0E,a0Y]at c |-;have e:=ahd p r (λx b=>h x (by simp[b])) (by omega);have f:=h a (by simp);by_cases d:(r.map p).sum=0
   .have:r=[]:=by
     cases r with
     | nil=>rfl
     | cons x r=>have:=h x (by simp);simp at d;omega
    subst this;simp
   grind [aha]
def als(p) {l:List α}(b:(l.map p).sum<=40) {a:α}(c:a∈l):lg (p a)<=lg (l.map p).sum:=by obtain⟨A,B,rfl⟩:=a2Q c;simp only[a0P,a0E,a1Y,a0Y]at b |-;have:=afg (p:=p a) (q:=(A.map p).sum+(B.map p).sum) (by omega);rw[show(A.map p).sum+(p a+(B.map p).sum)=p a+((A.map p).sum+(B.map p).sum) by omega];omega
def aaA(f g:α->Nat):∀l:List α,(∀a∈l,f a<=g a)->(l.map f).sum<=(l.map g).sum
 | [],_=>by simp
 | a::r,h=>by have d:=h a (by simp);have c:=aaA f g r (λx b=>h x (by simp[b]));simp only[a0E,a0Y];omega
theorem adr(f)(k:Nat)(l:List α):(l.map f).sum*k=(l.map λa=>f a*k).sum:=(FU f k l).symm
def aaB(t E:α->Nat) {l}(h:l≠[])(k):(l.map t).sum+k+(l.map E).sum<=(l.map λa=>t a+k+E a).sum:=by
 have:∀l:List α,l≠[]->(l.map t).sum+k+(l.map E).sum<=(l.map λa=>t a+k+E a).sum:=by
  intro l;induction l with
  | nil=>intro h;exact absurd rfl h
  | cons a r c =>
    intro _;simp only[a0E,a0Y];by_cases b:r=[]
    .subst b;simp
    have:=c b;omega
 exact this l h
theorem Gt.bQ {l:List α} {F:α->NF} {p t:α->Nat} {C E e:α->Nat->Nat}{b:Nat}(j:l≠[])(q:∀a∈l,wf (F a))(s:∀a∈l,1<=p a)(i:(l.map p).sum<=40)
 (h:∀a∈l,Gt (F a) (p a) b m w (t a) (C a) (E a) (e a)) (v:∀a∈l,t a+7<=p a*(524+10*(m+b))) :
 Gt (bQ (l.map F)) (l.map p).sum b m w (l.map t).sum (λn=>(l.map λa=>C a n).sum) (λn=>(l.map λa=>E a n).sum) (λn=>(l.map λa=>e a n).sum)/\(l.map t).sum+7<=(l.map p).sum*(524+10*(m+b)):=by
 have hG:=ahd p l s i;have g:(l.map t).sum+7<=(l.map p).sum*(524+10*(m+b)):=by
  have B:=aaB t (λ_=>0) j 7;have y:=aaA (λa=>t a+7+0) (λa=>p a*(524+10*(m+b))) l (λa c=>by have:=v a c;omega);rw[FU]at y;have x:∀r:List α,(r.map λ_:α=>0).sum=0:=by
   intro r;induction r with
   | nil=>rfl
   | cons a r o=>simpa using o
  have A:=x l;omega
 have k:∀(f:α->Nat) (n:Nat),1<=n->(∀a∈l,f a*2 ^ lg (p a)<=Rb (p a) b w n)->(l.map f).sum*2 ^ lg (l.map p).sum<=Rb (l.map p).sum b w n:=by
  intro f n d u;rw[adr];refine a0h (aaA _ (λa=>964*w*dS (p a)*hh (b+lg (l.map p).sum) n) l λa c=>lift d (u a c) (als p i c)) ?_;rw[FU (λa=>964*w*dS (p a))];have z:(l.map λa=>964*w*dS (p a)).sum=964*w*(l.map λa=>dS (p a)).sum:=by
   rw[a1b (964*w),adr];congr 1;exact a2s λa _=>a1b _ _
  rw[z];unfold Rb;exact a0z _ (a0o _ hG)
 refine⟨⟨KP.bQ q λa c=>(h a c).kp,by omega,λn=>?_,λn d=>?_,λn d=>?_⟩,g⟩
 .refine a0h (aaA _ (λa=>p a*((1+m+b)*L1 (l.map p).sum b n)) l λa c=>?_) ?_
  .refine a0h ((h a c).he n) ?_;rw[a0Z];exact a0o _ (a0o _ (FY (als p i c) (a0b _)))
  rw[FU,a0Z];exact a0b _
 .exact k (λa=>C a n) n d λa c=>(h a c).hC n d
 refine a0h (a0z _ (aaB t (λa=>E a n) j 3)) ?_;exact k (λa=>t a+3+E a n) n d λa c=>(h a c).hE n d
theorem Gt.one{p b t C E e}(h:Gt X p b m w t C E e)(d:wf X)(i:t+7<=p*(524+10*(m+b)))(c:1<=p)(g:p<=40):Gt (kY X .one) p b m (w+2) (t+2) C E e:=by
 have f:=KP.or d (show wf .one from trivial) h.kp KP.one;refine⟨f.mono (a0b _) (λn=>by simp) (λn=>by simp) (λn=>by simp),by omega,h.he,λn a=>a0h (h.hC n a) (vD (by omega)),λn a=>?_⟩;have k:=h.hE n a;have j:=tails (y:=1) (e:=1) (b:=b) (t:=2) c g a (by omega) (by have:=Iv p b n;have:1*1<=p*L1 p b n:=a0D c this;simpa using this);rw[<-SX];have o:Rb p b (2*1) n=Rb p b 2 n:=rfl;have l:(t+2+3+E n)*2 ^ lg p=(t+3+E n)*2 ^ lg p+1*2*2 ^ lg p:=by rw[<-a0J];congr 1;omega
 omega
def Jh(k n:Nat):Nat:=sumTo (hh k) n
theorem av9(k n):hh (k+1) n=hh k n+Jh k n:=rfl
def awc(k n):n<=Jh k n:=by
 have a:sumTo (λ_=>1) n<=sumTo (hh k) n:=qJ λj _ _=>YQ k j;rw[oO]at a;simpa[Jh] using a
structure Tw(p b m:Nat)(X:NF)(i o c x y:Nat)(t:Nat)(C E e:Nat->Nat):Prop where
 k:zL X t C E e
 ho:o<=i
 ht:t+8<=i*(p*(524+10*(m+b)))+5*o
 he:∀n,e n<=i*(p*(1+m+b)*(n+1))+o*(n+1)
 hC:∀n,1<=n->C n*2 ^ lg p<=964*dS p*(c*hh (b+lg p) n)
 hE:∀n,1<=n->E n*2 ^ lg p<=964*dS p*(x*hh (b+lg p) n+y*Jh (b+lg p) n)
def apI(p b n):L1 p b n<=n+1:=by unfold L1;split<;>omega
theorem Ct.tw{p b t C E e}(h:Ct X p b m w t C E e):Tw p b m X 1 0 w w 0 t C E e:=by
 refine⟨h.k,by omega,by have:=h.ht;omega,λn=>?_,λn a=>?_,λn a=>?_⟩
 .rw[a2T,Nat.zero_mul,a1Q];exact a0h (h.he n) (a0o _ (apI _ _ _))
 .have c:=h.hC n a;unfold Rb at c;have d:964*w*dS p*hh (b+lg p) n=964*dS p*(w*hh (b+lg p) n):=by simp[a1b,a1y,a0Z]
  omega
 have c:=h.hE n a;unfold Rb at c;have d:964*w*dS p*hh (b+lg p) n=964*dS p*(w*hh (b+lg p) n):=by simp[a1b,a1y,a0Z]
 rw[Nat.zero_mul,a1Q];omega
def Tw.apJ{p b o c t C E e}(h:Tw p b m X i o c x y t C E e)(a:1<=p)(d:m+b<=43):t+8<=964*(i*p):=by
 have:=h.ht;have:=h.ho;have:i*(p*(524+10*(m+b)))<=i*(p*954):=a0o _ (a0o _ (by omega));have:i*(p*954)=954*(i*p):=by simp[a1b,a1y,a0Z]
 have:i<=i*p:=a2r _ a;omega
theorem Tw.copy{A p b o c tA t J d eA C E e}(g:Ct A p b m w tA J d eA)(h:Tw p b m X i o c x y t C E e)(B:1<=p)(I:p<=40)(D:m+b<=43)
 (u:wf A) (z:aP A=true) (s:wf X) (v:aP X=true) :
 Tw p b m (aG A X) (i+1) o (c+w+2*(1+m+b)*i) (x+w+2*(1+m+b)*i) y (tA+t+3) (λn=>d n+eA n*(t+3)+C n) (λn=>d n+eA n*(t+3)+E n) (λn=>eA n+e n):=by
 have:=g.ht;have:=h.ht;have F:t+3<=964*(i*p):=by have:=h.apJ B D;omega
 have j:∀n,1<=n->eA n*(t+3)*2 ^ lg p<=964*dS p*(2*(1+m+b)*i*hh (b+lg p) n):=by
  intro n a;have H:=ajV p b a
  calc eA n*(t+3)*2 ^ lg p<=p*(1+m+b)*L1 p b n*(964*(i*p))*2 ^ lg p:=a0z _ (a0D (g.he n) F)
   _=964*(1+m+b)*i*(p*p)*(L1 p b n*2 ^ lg p):=by simp only[a1b,a1y,a0Z]
   _<=964*(1+m+b)*i*dS p*(2*hh (b+lg p) n):=a0D (a0o _ (YR I)) H
   _=964*dS p*(2*(1+m+b)*i*hh (b+lg p) n):=by simp only[a1b,a1y,a0Z]
 have f:∀n,1<=n->d n*2 ^ lg p<=964*dS p*(w*hh (b+lg p) n):=by
  intro n a;have l:=g.hE n a;unfold Rb at l;have q:964*w*dS p*hh (b+lg p) n=964*dS p*(w*hh (b+lg p) n):=by simp[a1b,a1y,a0Z]
  omega
 refine⟨g.k.then h.k u z s v,by have:=h.ho;omega,?_,λn=>?_,λn a=>?_,λn a=>?_⟩
 .grind
 .have l:=a0h (g.he n) (a0o _ (apI _ _ _));have r:=h.he n;rw[a0J,a2T];omega
 .have l:=f n a;have r:=j n a;have G:=h.hC n a;have q:964*dS p*((c+w+2*(1+m+b)*i)*hh (b+lg p) n)=964*dS p*(w*hh (b+lg p) n)+964*dS p*(2*(1+m+b)*i*hh (b+lg p) n)+964*dS p*(c*hh (b+lg p) n):=by grind
  show(d n+eA n*(t+3)+C n)*2 ^ lg p<=_;rw[q,a0J,a0J];omega
 have:=f n a;have:=j n a;have:=h.hE n a;have q:964*dS p*((x+w+2*(1+m+b)*i)*hh (b+lg p) n+y*Jh (b+lg p) n)=964*dS p*(w*hh (b+lg p) n)+964*dS p*(2*(1+m+b)*i*hh (b+lg p) n)+964*dS p*(x*hh (b+lg p) n+y*Jh (b+lg p) n):=by grind
 show(d n+eA n*(t+3)+E n)*2 ^ lg p<=_;rw[q,a0J,a0J];omega
def atg {C:Nat->Nat} {p b c n}(a:1<=p)(d:p<=40)(hC:∀n,1<=n->C n*2 ^ lg p<=964*dS p*(c*hh (b+lg p) n)):sumTo (λj=>C j+519) n*2 ^ lg p<=964*dS p*((c+1)*Jh (b+lg p) n):=by
 have g:sumTo (λj=>C j+519) n=sumTo C n+n*519:=by rw[yJ,oO]
 have:sumTo C n*2 ^ lg p<=964*dS p*(c*Jh (b+lg p) n):=by
  rw[<-Qk];refine a0h (qJ λj h _=>hC j h) ?_;have i:∀n,sumTo (λj=>964*dS p*(c*hh (b+lg p) j)) n=964*dS p*(c*Jh (b+lg p) n):=by
   intro n;unfold Jh;induction n with
   | zero=>simp[sumTo]
   | succ n e=>simp[sumTo,e,a1A]
  rw[i];omega
 have:n*519*2 ^ lg p<=964*dS p*(1*Jh (b+lg p) n):=by
  have:=(apF a d).1;have:=YR d;have:p<=p*p:=a1q _ a;have f:=awc (b+lg p) n
  calc n*519*2 ^ lg p<=Jh (b+lg p) n*964*dS p:=a0D (a0D f (by omega)) (by omega)
   _=964*dS p*(1*Jh (b+lg p) n):=by rw[a2T];simp[a1b,a1y,a0Z]
 rw[g,a0J,a0J,a1A];omega
def alu{p b n t}(c:1<=p)(a:p<=40)(ht:t<=964*(i*p)):t*2 ^ lg p<=964*dS p*(i*hh (b+lg p) n):=by
 have f:=(apF c a).1;have e:=YR a;have d:=YQ (b+lg p) n
 calc t*2 ^ lg p<=964*(i*p)*p:=a0D ht f
  _=964*(p*p)*(i*1):=by rw[a1H];simp only[a1b,a1y,a0Z]
  _<=964*dS p*(i*hh (b+lg p) n):=a0D (a0o _ e) (a0o _ d)
theorem Tw.opt{p b o c t C E e}(h:Tw p b m Z i o c x y t C E e)(B:wf Z)(g:gF Z=true)(q:1<=p)(w:p<=40)(A:m+b<=43)(ho:o+1<=i)(r:kY Z .one≠.zero) :
 Tw p b m (kY Z .one) i (o+1) c (x+i) (y+c+1) (t+5) C (λn=>t+6+E n+sumTo (λj=>C j+519) n) (λn=>1+e n+n):=by
 have u:=KP.or B (show wf .one from trivial) (KP.of h.k (.inl g)) KP.one;have v:KP (kY Z .one) (t+3) C E e:=u.mono (by omega) (λn=>by simp) (λn=>by simp) (λn=>by simp);have D:zL (kY Z .one) (t+5) C (λn=>t+6+E n+sumTo (λj=>C j+519) n) (λn=>1+e n+n):=by
  cases d:jK (kY Z .one)
  .exact(v.plain d r).mono (by omega) (λ_=>a0b _) (λn=>by omega) (λn=>by omega)
  cases f:kY Z .one with
  | sum l =>
    rw[f]at v;refine v.sum.mono (by omega) (λ_=>a0b _) (λn=>?_) (λn=>?_)
    .split<;>omega
    split<;>omega
  | zero=>rw[f]at d;simp[jK]at d
  | one=>rw[f]at d;simp[jK]at d
  | set s=>rw[f]at d;simp[jK]at d
  | pair a c=>rw[f]at d;simp[jK]at d
  | star a=>rw[f]at d;simp[jK]at d
 have:=h.apJ q A;refine⟨D,ho,by have:=h.ht;omega,λn=>?_,h.hC,λn z=>?_⟩
 .have:=h.he n;show 1+e n+n<=_;rw[a0J o 1];omega
 have:=h.hE n z;have:=atg (n:=n) q w h.hC;have:=alu (b:=b) (n:=n) q w (by omega:t+6<=964*(i*p));have F:964*dS p*((x+i)*hh (b+lg p) n+(y+c+1)*Jh (b+lg p) n)=964*dS p*(i*hh (b+lg p) n)+964*dS p*(x*hh (b+lg p) n+y*Jh (b+lg p) n)+964*dS p*((c+1)*Jh (b+lg p) n):=by grind
 show(t+6+E n+sumTo (λj=>C j+519) n)*2 ^ lg p<=_;rw[F,a0J,a0J];omega
def conv{f p b n}(c:1<=p)(d:2<=N)(a:N<=10)(e:N*p<=40)(g:1<=n)(k:2*M<=w*(N*N+N-2))(h:f*2 ^ lg p<=964*dS p*(M*hh (b+lg p+1) n)):f*2 ^ lg (N*p)<=Rb (N*p) b w n:=by
 obtain⟨j,i⟩:∃j,lg (N*p)=lg p+(1+j):=⟨lg (N*p)-lg p-1,by have:=afh c d e;omega⟩;have m:=SV (b+lg p+1) g j;have l:2*M*dS p<=w*dS (N*p):=by
  calc 2*M*dS p<=w*(N*N+N-2)*dS p:=a0z _ k
   _=w*((N*N+N-2)*dS p):=a0Z _ _ _
   _<=w*dS (N*p):=a0o _ (apE c d a e)
 have o:b+lg (N*p)=b+lg p+1+j:=by omega
 unfold Rb;rw[o,i,Nat.pow_add,Nat.pow_add,<-a0Z]
 calc f*2 ^ lg p*(2 ^ 1*2 ^ j)<=964*dS p*(M*hh (b+lg p+1) n)*(2 ^ 1*2 ^ j):=a0z _ h
  _=964*(2*M*dS p)*(2 ^ j*hh (b+lg p+1) n):=by rw[Nat.pow_one];simp only[a1b,a1y,a0Z]
  _<=964*(w*dS (N*p))*hh (b+lg p+1+j) n:=a0D (a0o _ l) m
  _=964*w*dS (N*p)*hh (b+lg p+1+j) n:=by simp only[a0Z]
theorem Tw.pt{p b o c t C E e}(h:Tw p b m Z N o c x y t C E e)(a:gF Z=true)(d:1<=p)(q:2<=N)(g:N<=10)(i:N*p<=40)(B:m+b<=43)
 (A:x+N<=M) (z:y+c+1<=M) (s:2*M<=w*(N*N+N-2)):Pt Z (N*p) b (m+1) w (t+1) C E e:=by
 have r:p<=40:=a0h (a1q p (by omega)) i;have:=afh d q i;have:N<=N*p:=a2r _ d;have F:∀n,L1 (N*p) b n=n+1:=λn=>by unfold L1;rw[a0n (by omega)]
 have J:rG Z=true:=by cases Z<;>simp[gF]at a;rfl
 have l:jK Z=false:=by cases Z<;>simp[gF]at a;rfl
 have:=h.ho;have:=h.apJ d B;refine⟨KP.of h.k (.inl a),?_,λn=>?_,λn f=>?_,λn f=>?_,λ_=>by omega⟩
 .have u:=h.ht;have v:N*p*(524+10*(m+1+b))=N*(p*(524+10*(m+b)))+10*(N*p):=by grind
  omega
 .have u:=h.he n;rw[l,F n];have v:N*p*(1+(m+1)+b)*(n+1)=N*(p*(1+m+b)*(n+1))+N*p*(n+1):=by grind
  have G:o*(n+1)<=N*p*(n+1):=a0z _ (by omega);simp[a0A,a0I];omega
 .refine conv d q g i f s (a0h (h.hC n f) (a0o _ (a0D (by omega) (aff f (by omega)))))
 refine conv d q g i f s ?_
 have:=h.hE n f;have:=atg (n:=n) d r h.hC;have:=alu (b:=b) (n:=n) d r (by omega:t+4<=964*(N*p));rw[J];simp[a0G];have:964*dS p*(N*hh (b+lg p) n)+964*dS p*(x*hh (b+lg p) n+y*Jh (b+lg p) n)+964*dS p*((c+1)*Jh (b+lg p) n)=964*dS p*((x+N)*hh (b+lg p) n+(y+c+1)*Jh (b+lg p) n):=by grind
 have:964*dS p*((x+N)*hh (b+lg p) n+(y+c+1)*Jh (b+lg p) n)<=964*dS p*(M*hh (b+lg p+1) n):=by refine a0o _ ?_;rw[av9,a1A];exact a2Y (a0z _ A) (a0z _ z)
 have H:(t+1+3+E n+sumTo (λj=>C j+519) n)*2 ^ lg p=(t+4)*2 ^ lg p+E n*2 ^ lg p+sumTo (λj=>C j+519) n*2 ^ lg p:=by grind
 rw[H];omega
theorem Tw.mono{p b o c a l j g t C E e}(h:Tw p b m X i o c x y t C E e)(ho:o<=a)(d:a<=i)(s:c<=l)(r:x<=j)(q:y<=g):Tw p b m X i a l j g t C E e :=
 ⟨h.k,d,by have:=h.ht;omega,λn=>a0h (h.he n) (Nat.add_le_add_left (a0z _ ho) _),λn f=>a0h (h.hC n f) (a0o _ (a0z _ s)),
  λn f=>a0h (h.hE n f) (a0o _ (a2Y (a0z _ r) (a0z _ q)))⟩
def cB(v w d:Nat):Nat->Nat
 | 0=>v
 | i+1=>cB v w d i+w+d*(i+1)
def xB(v w d:Nat):Nat->Nat
 | 0=>v
 | i+1=>xB v w d i+w+d*(i+1)+(i+2)
def yB(v w d:Nat):Nat->Nat
 | 0=>0
 | i+1=>yB v w d i+cB v w d (i+1)+1
def TT(A:NF)(p b m v w:Nat)(X:NF)(j:Nat):Prop:=∃t C E e,Tw p b m X (j+1) (j+1) (cB v w (2*(1+m+b)) j) (xB v w (2*(1+m+b)) j) (yB v w (2*(1+m+b)) j) t C E e
def TPn(p b m v w:Nat)(X:NF)(j:Nat):Prop:=gF X=true/\∃t C E e,Tw p b m X (j+2) (j+1) (cB v w (2*(1+m+b)) (j+1)) (xB v w (2*(1+m+b)) (j+1)-(j+2)) (yB v w (2*(1+m+b)) j) t C E e
def Ql{A}(i:wf A)(g:aP A=true)(b:aP X=true):gF (aG A X)=true:=by
 induction A using NF.ind generalizing X with
 | h A j =>
   cases A with
   | zero=>simp[aP]at g
   | one=>simp[aP]at g
   | set s=>rw[aX rfl b];rfl
   | sum l=>rw[aX rfl b];rfl
   | star a=>rw[aX rfl b];rfl
   | pair c d=>obtain⟨k,hd,f,e⟩:=i;rw[dA b];exact j c (by simp[NF.size];omega) k (head_tail f) (eP hd e b)
def TT.copy{A p b tA o n eA}(k:Ct A p b m w tA o n eA)(h:TT A p b m v w X j)(g:1<=p)(l:p<=40)(i:m+b<=43)(a:wf A)(d:aP A=true)(f:wf X)(c:aP X=true):TPn p b m v w (aG A X) j:=by
 obtain⟨t,C,E,e,h⟩:=h;refine⟨Ql a d c,_,_,_,_,(Tw.copy k h g l i a d f c).mono (a0b _) (by omega) ?_ ?_ (a0b _)⟩
 .simp only[cB];omega
 simp only[xB];omega
def TPn.tt{A p b}(h:TPn p b m v w X j):TT A p b m v w X (j+1):=by obtain⟨_,t,C,E,e,h⟩:=h;refine⟨t,C,E,e,h.mono (by omega) (by omega) (a0b _) (by omega) ?_⟩;simp only[yB];omega
def TPn.opt{A p b}(h:TPn p b m v w X j)(a:wf X)(c:1<=p)(f:p<=40)(d:m+b<=43)(hz:kY X .one≠.zero):TT A p b m v w (kY X .one) (j+1):=by
 obtain⟨g,t,C,E,e,h⟩:=h;refine⟨_,_,_,_,(Tw.opt h a g c f d (by omega) hz).mono (by omega) (by omega) (a0b _) ?_ ?_⟩
 .simp only[xB];omega
 simp only[yB];omega
def TPn.pt{p b w'}(h:TPn p b m v w X j)(c:1<=p)(k:j<=8)(g:(j+2)*p<=40)(d:m+b<=43)(i:v<=w+2*(m+b)+8)(a:w+(if j=0 then 2*(m+b)+9 else 6*(m+b)+33)<=w'):∃t C E e,Pt X ((j+2)*p) b (m+1) w' t C E e:=by
 obtain⟨f,t,C,E,e,h⟩:=h;refine⟨t+1,C,E,e,Tw.pt (M:=w'*((j+2)*(j+2)+(j+2)-2) / 2) h f c (by omega) (by omega) g d ?_ ?_ ?_⟩
 .rcases(show j=0\/j=1\/j=2\/j=3\/j=4\/j=5\/j=6\/j=7\/j=8 by omega) with rfl|rfl|rfl|rfl|rfl|rfl|rfl|rfl|rfl<;>simp[xB]at a |-<;>omega
 .rcases(show j=0\/j=1\/j=2\/j=3\/j=4\/j=5\/j=6\/j=7\/j=8 by omega) with rfl|rfl|rfl|rfl|rfl|rfl|rfl|rfl|rfl<;>simp[yB,cB]at a |-<;>omega
 omega
def Vk:∀{l p},p∈l->bits p<=bf l
 | x::r,p,h=>by
   rw[tH];rcases a0l.1 h with rfl|h
   .exact Nat.left_le_or
   exact a0h (Vk h) Nat.right_le_or
def aaC(h:WC a)(ht:aP a=true):∃p∈parts a,p≠.one:=by
 cases a with
 | zero=>simp[aP]at ht
 | one=>simp[aP]at ht
 | set s=>exact⟨.set s,by simp[parts],by simp⟩
 | pair c d=>exact⟨.pair c d,by simp[parts],by simp⟩
 | star c=>exact⟨.star c,by simp[parts],by simp⟩
 | sum l =>
   obtain⟨f,-⟩:=Cc h.1 h.2;have g:bQ [NF.sum l]=.sum l:=Pv h.1 h.2;simp only[parts]at f |-;by_cases i:∃p∈l,p≠.one
   .omega
   exfalso;have b:∀y∈l,y=.one:=λy j=>Classical.byContradiction λe=>i ⟨y,j,e⟩
   match l,b,f,g with
   | [],_,_,g=>simp[bQ,parts,bN,bf,gU,mkS]at g
   | [y],b,_,g=>have:=b y (by simp);subst this;simp[bQ,parts,bN,dF,bf,bits,gU,put,mkS]at g
   | y::z::r,b,f,_=>have m:=b y (by simp);have k:=b z (by simp);rw[m,k]at f;simp at f
theorem KI(e:WC a)(ht:aP a=true):aP (kY a .one)=true:=by
 have k:∀x ∈ [a,NF.one],wf x:=by intro x f;simp at f;rcases f with rfl|rfl;exact e.1;exact trivial
 have j:NF.one∈parts (kY a .one):=by grind [kY,rD,bN,dF,parts]
 obtain⟨p,g,r⟩:=aaC e ht;have i:∃q∈parts (kY a .one),q≠.one:=by
  have o:p ∈ [a,NF.one].flatMap parts:=by simp[g]
  cases m:dF p
  .grind [kY,rD,bN]
  have b:=wK e.1 g;have hb:bf ([a,NF.one].flatMap parts)≠0:=by
   have:=Vk o;cases p<;>simp[dF]at m;rename_i s;have t:=b.1;simp only[bits]at this;omega
  refine⟨.set (bf ([a,NF.one].flatMap parts)),?_,by simp⟩;unfold kY;rw[rD k];unfold bN;rw[a0n hb];simp
 cases h:kY a .one with
 | zero=>rw[h]at j;simp[parts]at j
 | one=>rw[h]at i;obtain⟨q,hq,n⟩:=i;simp[parts]at hq;exact absurd hq n
 | set s=>rfl
 | pair c d=>rfl
 | star c=>rfl
 | sum l=>rfl
def mM(h:aP a=true):a≠.zero/\a≠.one:=by cases a<;>simp[aP]at h<;>simp
def aaD {A p b tA u t eA}(n:Ct A p b m w tA u t eA)(d:WC A)(e:aP A=true)(f:1<=p)(i:p<=40)(g:m+b<=43) :
 ∀k j X,TT A p b m v w X j->WC X->aP X=true->TT A p b m v w (dG A k X) (j+k)/\WC (dG A k X)/\aP (dG A k X)=true
 | 0,j,X,h,c,a=>⟨h,c,a⟩
 | k+1,j,X,h,c,a=>by have s:=h.copy n f i g d.1 e c.1 a;have l:=d.then c;have o:=eP d.1 e a;have t2:=KI l o;have r:TT A p b m v w (kY (aG A X) .one) (j+1):=s.opt l.1 f i g (mM t2).1;have q:=aaD n d e f i g k (j+1) _ r (l.or .one) t2;rw[show j+(k+1)=j+1+k by omega];exact q
def SY {A p b tA B z eA}(n:Ct A p b m w tA B z eA)(f:WC A)(g:aP A=true)(i:1<=p)(q:p<=40)(l:m+b<=43) :
 ∀k j X,TT A p b m v w X j->WC X->aP X=true->TT A p b m v w (eQ A k X) (j+k)/\WC (eQ A k X)/\aP (eQ A k X)=true/\(∀a,k=a+1->TPn p b m v w (eQ A k X) (j+a))
 | 0,j,X,h,d,c=>⟨h,d,c,λa e=>by omega⟩
 | k+1,j,X,h,d,c=>by
   have o:=h.copy n i q l f.1 g d.1 c;have y:=f.then d;have r:=eP f.1 g c;obtain⟨x,u,t,s⟩:=SY n f g i q l k (j+1) _ (o.tt (A:=A)) y r;refine⟨by rw[show j+(k+1)=j+1+k by omega];exact x,u,t,λa e=>?_⟩;obtain rfl:a=k:=by omega
   cases a with
   | zero=>exact o
   | succ a=>have:=s a rfl;rw[show j+(a+1)=j+1+a by omega];exact this
def Tw.pt0{p b c t C E e}(h:Tw p b m Z N 0 c x y t C E e)(z:t+11<=N*p*(524+10*(m+b)))(a:gF Z=true)(j:1<=p)(k:2<=N)(g:N<=10)(l:N*p<=40)(r:m+b<=43)
 (q:x+N<=M) (o:y+c+1<=M) (u:2*M<=w*(N*N+N-2)):Pt Z (N*p) b m w (t+1) C E e:=by
 have d:=h.pt a j k g l r q o u;have s:=afh j k l;have v:∀n,L1 (N*p) b n=n+1:=λn=>by unfold L1;rw[a0n (by omega)]
 have f:jK Z=false:=by cases Z<;>simp[gF]at a;rfl
 refine⟨d.kp,by omega,λn=>?_,d.hC,d.hE,d.br⟩;have i:=h.he n;rw[f,v n];simp only[a0A,a0I,Nat.zero_mul,a1Q]at i |-;rw[a0Z,a0Z];rw[a0Z]at i;omega
theorem Pt.plus{p b t C E e}(h:Pt a p b m w t C E e)(q:WC a)(c:aP a=true)(k:1<=p)(o:2*p<=40)(D:m+1+b<=43) :
 ∃t C E e,Pt (aG a (iH a)) (2*p) b (m+1) (w+2*(m+b)+12) t C E e:=by
 have r:p<=40:=by omega
 obtain⟨tA,v,eA,n⟩:=h.ct (mM c).1;have d:∃g CS j i,Ct (iH a) p b (m+1) (w+2*(m+b)+8) g CS j i:=by
  by_cases s:∃x,a=.star x
  .obtain⟨x,rfl⟩:=s;exact⟨tA,C,v,eA,n.mono (a0b _) (by omega) (by omega)⟩
  have u:iH a=.star a:=by cases a<;>first | rfl|exact absurd ⟨_,rfl⟩ s|(simp[aP]at c)
  obtain⟨B,H,d⟩:=h.star k r (by omega) (mM c).1;obtain⟨g,j,i,l⟩:=d.ct (by simp);rw[u];exact⟨g,B,j,i,l⟩
 obtain⟨g,_,j,i,d⟩:=d;have z:=q.star;have f:aP (iH a)=true:=by cases a<;>first | rfl|(simp[aP]at c)
 have A:Ct a p b (m+1) w tA _ v eA:=n.mono (a0b _) (by omega) (a0b _);have y:=Tw.copy A d.tw k r (by omega) q.1 c z.1 f;refine⟨_,_,_,_,Tw.pt0 (M:=2*(w+2*(m+b)+12)) y ?_ (Ql q.1 c f) k (by omega) (by omega) o (by omega) ?_ ?_ ?_⟩
 .have:=n.ht;have:=d.ht;show tA+g+3+11<=2*p*(524+10*(m+1+b));have:2*p*(524+10*(m+1+b))=p*(524+10*(m+b))+10*p+p*(524+10*(m+1+b)):=by grind
  omega
 all_goals grind
theorem ads(a):∀k t,dG a (k+1) t=kY (aG a (dG a k t)) .one
 | 0,t=>rfl
 | k+1,t=>by show dG a (k+1) (kY (aG a t) .one)=_;rw[ads a k];rfl
def Ct.tt{A p b t C E e}(h:Ct X p b m v t C E e):TT A p b m v w X 0 :=
 ⟨t,C,E,e,h.tw.mono (by omega) (by omega) (a0b _) (a0b _) (a0b _)⟩
def amY{p b t C E e}(h:Pt a p b m w t C E e)(c:aP a=true)(l:1<=p)(k:p<=40)(u:m+b<=43):∃d CS i g,Ct (iH a) p b (m+1) (w+2*(m+b)+8) d CS i g:=by
 by_cases j:∃x,a=.star x
 .obtain⟨x,rfl⟩:=j;obtain⟨tA,r,eA,o⟩:=h.ct (mM c).1;exact⟨tA,C,r,eA,o.mono (a0b _) (by omega) (by omega)⟩
 have q:iH a=.star a:=by cases a<;>first | rfl|exact absurd ⟨_,rfl⟩ j|(simp[aP]at c)
 obtain⟨s,v,n⟩:=h.star l k (by omega) (mM c).1;obtain⟨d,i,g,f⟩:=n.ct (by simp);rw[q];exact⟨d,s,i,g,f⟩
def KO(b:aP a=true):aP (iH a)=true:=by cases a<;>first | rfl|(simp[aP]at b)
def Pt.aoP{p b t C E e}(h:Pt a p b m w t C E e)(d:WC a)(c:aP a=true)(f:1<=p)(lo hi)(S:∀n,hi=some n->lo<=n)(W:2<=times lo hi)(G:times lo hi<=10)(i:times lo hi*p<=40)(hm:m+2+b<=43) :
 ∃t C E e,Pt (kD a lo hi) (times lo hi*p) b (m+3) (w+6*(m+b)+43) t C E e:=by
 have l:p<=40:=a0h (a1q p (by omega)) i;obtain⟨tA,EA,eA,hA⟩:=h.ct (mM c).1;have u:Ct a p b (m+1) w tA _ EA eA:=hA.mono (a0b _) (by omega) (a0b _);have fin:∀(v:Nat) (X:NF) (j:Nat),TPn p b (m+1) v w X j->v<=w+2*(m+b)+8->j<=8->(j+2)*p<=40->∃t C E e,Pt X ((j+2)*p) b (m+2) (w+6*(m+b)+41) t C E e:=by intro v X j hT _ hj M;exact hT.pt f hj M (by omega) (by omega) (by split<;>omega)
 cases hi with
 | none=>have L:times _ none=lo+1:=rfl;rw[L]at W G i |-;obtain⟨k,rfl⟩:∃k,lo=k+1:=⟨lo-1,by omega⟩;obtain⟨_,_,_,_,hS⟩:=amY h c f l (by omega);obtain⟨-,-,-,o⟩:=SY u d c f l (by omega) (k+1) 0 (iH a) (hS.tt (A:=a)) d.star (KO c);have g:=o k rfl;rw[a1n]at g;obtain⟨y,x,B,z,s⟩:=fin _ _ k g (by omega) (by omega) i;exact⟨y,x,B,z,s.mono (a0b _) (by omega) (by omega)⟩
 | some n =>
   have L:times lo (some n)=n:=rfl;have:=S n rfl;rw[L]at W G i |-;by_cases KH:lo=n
   .subst KH;obtain⟨k,rfl⟩:∃k,lo=k+2:=⟨lo-2,by omega⟩;have I:kD a (k+2) (some (k+2))=eQ a (k+1) a:=by show eQ _ (k+2) (dG _ (k+2-(k+2)) .one)=_;rw[a2v];show eQ a (k+1) (aG a .one)=_;rw[bF]
    rw[I];obtain⟨-,-,-,o⟩:=SY u d c f l (by omega) (k+1) 0 a (u.tt (A:=a)) d c;have g:=o k rfl;rw[a1n]at g;obtain⟨y,x,B,z,s⟩:=fin _ _ k g (by omega) (by omega) i;exact⟨y,x,B,z,s.mono (a0b _) (by omega) (by omega)⟩
   obtain⟨k,V⟩:∃k,n-lo=k+1:=⟨n-lo-1,by omega⟩;obtain⟨_,_,_,hO⟩:=h.opt d f l (mM c).1 (mM c).2;have Y:=d.or .one;have q:=KI d c;obtain⟨Z,_,_,F⟩:=hO.ct (mM q).1;have I:dG a (k+1) .one=dG a k (kY a .one):=by simp[dG,kY,aG,bF]
   cases lo with
   | zero =>
     obtain⟨r,rfl⟩:∃r,k=r+1:=⟨k-1,by omega⟩;have P:kD a 0 (some n)=kY (aG a (dG a r (kY a .one))) .one:=by show dG _ (n-0) .one=_;rw[V,I,ads]
     obtain⟨H,o,g⟩:=aaD u d c f l (by omega) r 0 _ (F.tt (A:=a)) Y q;rw[a1n]at H;have s:=H.copy u f l (by omega) d.1 c o.1 g;have D:n=r+2:=by omega
     rw[P,D];rw[D]at i;obtain⟨y,x,B,z,O⟩:=fin _ _ r s (by omega) (by omega) i;have WZ:=d.then o;have U:=eP d.1 c g;obtain⟨J,T,R,N⟩:=O.opt WZ (by have:1*1<=(r+2)*p:=a0D (by omega) f;omega) i (mM U).1 (mM U).2;exact⟨J,x,T,R,N.mono (a0b _) (by omega) (by omega)⟩
   | succ lo =>
     have P:kD a (lo+1) (some n)=eQ a (lo+1) (dG a k (kY a .one)):=by show eQ _ (lo+1) (dG _ (n-(lo+1)) .one)=_;rw[V,I]
     obtain⟨H,o,g⟩:=aaD u d c f l (by omega) k 0 _ (F.tt (A:=a)) Y q;rw[a1n]at H;obtain⟨-,-,-,s⟩:=SY u d c f l (by omega) (lo+1) k _ H o g;have O:=s lo rfl;have D:n=k+lo+2:=by omega
     rw[P,D];rw[D]at i;obtain⟨y,x,B,z,N⟩:=fin _ _ (k+lo) O (by omega) (by omega) i;exact⟨y,x,B,z,N.mono (a0b _) (by omega) (by omega)⟩
def WW(m b:Nat):Nat:=m*m+22*m+2+8*b
def Ta{b}(a:m<=m')(hb:b<=b'):WW m b<=WW m' b':=by have:=a0D a a;unfold WW;omega
theorem awd(m b):WW (m+1) b=WW m b+2*m+23:=by grind [WW]
theorem awe(m b):WW (m+3) b=WW m b+6*m+75:=by grind [WW]
def awf(m b):2*(1+m+b)<=WW m b:=by unfold WW;omega
def EL(X:NF)(P b m:Nat):Prop:=X=.zero\/X=.one\/(aP X=true/\∃p t C E e,1<=p/\p<=P/\Pt X p b m (WW m b) t C E e)
theorem EL.mono{b}(h:EL X P b m)(f:P<=P')(hb:b<=b')(a:m<=m'):EL X P' b' m':=by
 rcases h with h|h|⟨ht,p,t,C,E,e,d,g,c⟩
 .exact .inl h
 .exact .inr (.inl h)
 exact .inr (.inr ⟨ht,p,t,C,E,e,d,by omega,c.mono hb a (Ta a hb)⟩)
def aaE:∀k,eQ .zero k .zero=.zero
 | 0=>rfl
 | k+1=>aaE k
theorem aaF:∀k,dG .zero k .one=.one
 | 0=>rfl
 | k+1=>by
   show dG .zero k (kY (aG .zero .one) .one)=.one;have:kY (aG .zero .one) .one=.one:=by simp[aG,kY,bQ,parts,bN,dF,bf,bits,gU,put,mkS]
   rw[this];exact aaF k
def WT(k):eQ .zero k .one=.zero\/eQ .zero k .one=.one:=by
 cases k with
 | zero=>exact .inr rfl
 | succ k=>exact .inl (aaE k)
def ajW(lo hi):kD .zero lo hi=.zero\/kD .zero lo hi=.one:=by
 cases hi with
 | none=>exact WT _
 | some n=>simp[kD,aaF];exact WT lo
def EL.rep{b}(h:EL X P b m)(c:WC X)(lo hi)(q:∀n,hi=some n->lo<=n)(a:times lo hi<=10)(R:times lo hi*P<=40)(O:P<=40)(L:m+2+b<=43)(hb:b<=5) :
 EL (kD X lo hi) (times lo hi*P) b (m+iV lo hi):=by
 rcases h with rfl|rfl|⟨ht,p,t,C,E,e,d,v,r⟩
 .rcases ajW _ _ with h|h
  .exact .inl h
  exact .inr (.inl h)
 .exact .inr (.inl (acO _ _))
 have g:times _ hi*p<=times lo hi*P:=a0o _ v;have J:=vU lo hi;have I:=awd m b;have H:=awe m b;by_cases i:2<=times lo hi
 .by_cases B:lo=1/\hi=none
  .obtain⟨rfl,rfl⟩:=B;have l:kD _ 1 none=aG X (iH X):=rfl;have w:times 1 none=2:=rfl;have j:iV 1 none=1:=rfl;rw[w]at R g |-;rw[l,j];obtain⟨s,A,f,o,y⟩:=r.plus c ht d (by omega) (by omega);exact .inr (.inr ⟨eP c.1 ht (KO ht),2*p,s,A,f,o,by omega,g,y.mono (a0b _) (a0b _) (by omega)⟩)
  have j:iV lo hi=3:=by
   cases hi with
   | none=>simp only[iV];rw[a0n];simp only[times]at i;intro h;exact B ⟨by omega,rfl⟩
   | some n=>simp only[iV];rw[a0n];simp only[times]at i;omega
  rw[j];obtain⟨s,A,f,o,y⟩:=r.aoP c ht d lo hi q i a (by omega) L;have V:aP (kD X lo hi)=true:=by
   cases hi with
   | none =>
     simp[times]at i;have:∀k (T:NF),aP T=true->aP (eQ X k T)=true:=by
      intro k;induction k with
      | zero=>intro T a;exact a
      | succ k u=>intro T a;exact u _ (eP c.1 ht a)
     exact this lo _ (KO ht)
   | some n =>
     have G:∀k (T:NF),aP T=true->aP (eQ X k T)=true:=by
      intro k;induction k with
      | zero=>intro T a;exact a
      | succ k u=>intro T a;exact u _ (eP c.1 ht a)
     have z:∀k (T:NF),WC T->aP T=true->aP (dG X k T)=true:=by
      intro k;induction k with
      | zero=>intro T _ a;exact a
      | succ k u=>intro T F a;exact u _ ((c.then F).or .one) (KI (c.then F) (eP c.1 ht a))
     simp only[times]at i;show aP (eQ X lo (dG X (n-lo) .one))=true;cases W:n-lo with
     | zero=>have:=q n rfl;obtain⟨k,rfl⟩:∃k,lo=k+1:=⟨lo-1,by omega⟩;show aP (eQ X k (aG X .one))=true;rw[bF];exact G k X ht
     | succ k=>refine G lo _ ?_;show aP (dG X k (kY (aG X .one) .one))=true;rw[bF];exact z k _ (c.or .one) (KI c ht)
  refine .inr (.inr ⟨V,times lo hi*p,s,A,f,o,?_,g,y.mono (a0b _) (a0b _) (by omega)⟩);have:1*1<=times lo hi*p:=a0D (by omega) d;omega
 cases hi with
 | none =>
   simp only[times]at i;obtain rfl:lo=0:=by omega
   have l:kD X 0 none=iH X:=rfl;have w:times 0 none*P=P:=by simp[times]
   have j:iV 0 none=1:=rfl;rw[l,w,j];by_cases D:∃x,X=.star x
   .obtain⟨x,rfl⟩:=D;exact .inr (.inr ⟨ht,p,t,C,E,e,d,v,r.mono (a0b _) (by omega) (by omega)⟩)
   have U:iH X=.star X:=by cases X<;>first | rfl|exact absurd ⟨_,rfl⟩ D|(simp[aP]at ht)
   obtain⟨f,o,N⟩:=r.star d (by omega) (by omega) (mM ht).1;rw[U];exact .inr (.inr ⟨rfl,p,t+4,f,f,o,d,v,N.mono (a0b _) (a0b _) (by omega)⟩)
 | some n =>
   simp only[times]at i;have M:=q n rfl;rcases(show n=0\/n=1 by omega) with rfl|rfl
   .obtain rfl:lo=0:=by omega
    exact .inr (.inl rfl)
   have w:times lo (some 1)*P=P:=by simp[times]
   rw[w];rcases(show lo=0\/lo=1 by omega) with rfl|rfl
   .have l:kD X 0 (some 1)=kY X .one:=by show kY (aG X .one) .one=_;rw[bF]
    have j:iV 0 (some 1)=1:=rfl;rw[l,j];obtain⟨s,f,o,S⟩:=r.opt c d (by omega) (mM ht).1 (mM ht).2;exact .inr (.inr ⟨KI c ht,p,s,C,f,o,d,v,S.mono (a0b _) (a0b _) (by omega)⟩)
   have l:kD X 1 (some 1)=X:=by show aG X .one=X;exact bF X
   rw[l];exact .inr (.inr ⟨ht,p,t,C,E,e,d,v,r.mono (a0b _) (by omega) (Ta (by omega) (a0b _))⟩)
def CL(X:NF)(P b m:Nat):Prop:=X=.zero\/X=.one\/(aP X=true/\∃p,1<=p/\p<=P/\((∃t C E e,Pt X p b m (WW m b) t C E e)\/(gF X=true/\∃t C E e,Ct X p b m (WW m b) t C E e)))
theorem CL.mono{b}(h:CL X P b m)(g:P<=P')(hb:b<=b')(c:m<=m'):CL X P' b' m':=by
 rcases h with h|h|⟨ht,p,f,i,a⟩
 .exact .inl h
 .exact .inr (.inl h)
 refine .inr (.inr ⟨ht,p,f,by omega,?_⟩);rcases a with⟨t,C,E,e,a⟩|⟨d,t,C,E,e,a⟩
 .exact .inl ⟨t,C,E,e,a.mono hb c (Ta c hb)⟩
 exact .inr ⟨d,t,C,E,e,a.mono hb c (Ta c hb)⟩
theorem EL.cl{b}(h:EL X P b m):CL X P b m:=by
 rcases h with h|h|⟨ht,p,t,C,E,e,d,c,a⟩
 .exact .inl h
 .exact .inr (.inl h)
 exact .inr (.inr ⟨ht,p,d,c,.inl ⟨t,C,E,e,a⟩⟩)
def CL.cons {A B Q b}(i:EL A P b m)(a:CL B Q b m)(j:WC A)(WB:WC B)(v:P+Q<=40)(u:m+b<=44):CL (aG A B) (P+Q) b m:=by
 rcases i with rfl|rfl|⟨c,p,t,C,E,e,o,x,n⟩
 .exact .inl rfl
 .exact a.mono (by omega) (a0b _) (a0b _)
 rcases a with rfl|rfl|⟨tb,q,w,y,d⟩
 .exact .inl (fJ A)
 .rw[bF];exact .inr (.inr ⟨c,p,o,by omega,.inl ⟨t,C,E,e,n⟩⟩)
 obtain⟨tA,z,eA,i⟩:=n.ct (mM c).1;have a:∃f CB h g,Ct B q b m (WW m b) f CB h g:=by
  rcases d with⟨l,k,s,r,d⟩|⟨_,l,k,s,r,d⟩
  .obtain⟨f,h,g,a⟩:=d.ct (mM tb).1;exact⟨f,k,h,g,a⟩
  exact⟨l,k,s,r,d⟩
 obtain⟨f,CB,h,g,a⟩:=a;have:=i.cons a o w (by omega) u (awf m b) j.1 c WB.1 tb;exact .inr (.inr ⟨eP j.1 c tb,p+q,by omega,by omega,.inr ⟨Ql j.1 c tb,_,_,_,_,this⟩⟩)
def CL.gt{b}(h:CL X P b m)(i:P<=40)(g:m+b<=44)(ht:aP X=true):∃p t C E e,1<=p/\p<=P/\Gt X p b m (WW m b+2) t C E e/\t+7<=p*(524+10*(m+b)):=by
 rcases h with rfl|rfl|⟨_,p,c,d,a⟩
 .simp[aP]at ht
 .simp[aP]at ht
 rcases a with⟨t,C,E,e,a⟩|⟨f,t,C,E,e,a⟩
 .exact⟨p,t,C,E,e,c,d,(a.mono (a0b _) (a0b _) (by omega)).gt,by have:=a.ht;omega⟩
 exact⟨p,t+1,C,E,e,c,d,a.gt c (by omega) g f,by have:=a.ht;omega⟩
def amZ {xs}(g:∀x∈xs,WC x)(e:a∈xs)(ht:aP a=true):aP (bQ xs)=true:=by
 have f:∀x∈xs,wf x:=λx n=>(g x n).1;obtain⟨p,i,m⟩:=aaC (g a e) ht;have o:∃q∈parts (bQ xs),q≠.one:=by
  have k:=a1l.2 ⟨a,e,i⟩;cases h:dF p
  .refine⟨p,?_,m⟩;rw[rD f];unfold bN;exact a1B _ (List.mem_filter.2 ⟨k,by simp[h]⟩)
  have b:=wK (f a e) i;have hb:bf (xs.flatMap parts)≠0:=by
   have:=Vk k;cases p<;>simp[dF]at h;rename_i s;have t:0<s:=b.1;simp only[bits]at this;omega
  refine⟨.set (bf (xs.flatMap parts)),?_,by simp⟩;rw[rD f];unfold bN;rw[a0n hb];simp
 obtain⟨q,hq,r⟩:=o;cases j:bQ xs with
 | zero=>rw[j]at hq;simp[parts]at hq
 | one=>rw[j]at hq;simp[parts]at hq;exact absurd hq r
 | set s=>rfl
 | pair c d=>rfl
 | star c=>rfl
 | sum l=>rfl
theorem adt:∀l:List RX,iO l=(l.map mh).sum
 | []=>rfl
 | x::r=>by simp only[iO,a0E,a0Y,adt r]
theorem WU(f:α->Nat)(q):∀l:List α,((l.filter q).map f).sum<=(l.map f).sum
 | []=>by simp
 | x::r=>by
   have:=WU f q r;rw[List.filter_cons];split
   .grind
   grind
theorem Yo(h:¬ aP a=true):∀p,p∈parts a->p=.one:=by grind [fQ,parts]
theorem alv {l:List RX}{b:Nat}(u:∀x∈l,WC (bn x))(h:∀x∈l,CL (bn x) (mh x) b m)(N:iO l<=40)(S:m+b<=44) :
 bQ (iP l)=.zero\/bQ (iP l)=.one\/(aP (bQ (iP l))=true/\∃p t C E e,1<=p/\p<=iO l/\Gt (bQ (iP l)) p b m (WW m b+4) t C E e):=by
 rw[uB];rw[adt]at N |-;have d:∀x∈l.map bn,wf x:=λx c=>by obtain⟨a,o,rfl⟩:=a0q.1 c;exact(u a o).1
 have z:∀x∈l.map bn,WC x:=λx c=>by obtain⟨a,o,rfl⟩:=a0q.1 c;exact u a o
 let l':List RX:=l.filter λx=>aP (bn x)
 have g:∀x∈l',x∈l/\aP (bn x)=true:=λx c=>by simpa[l'] using List.mem_filter.1 c
 have J:∀x∈l,mh x<=40:=λx c=>by obtain⟨A,B,rfl⟩:=a2Q c;simp at N;omega
 have R:(∃x∈l,bn x=.one)\/¬ ∃x∈l,bn x=.one:=Classical.em _;have r:∀p,p∈(l.map bn).flatMap parts↔p∈(l'.map bn).flatMap parts\/(p=.one/\∃x∈l,bn x=.one):=by grind [aP,bn,Yo,fQ,parts]
 by_cases s:l'=[]
 .rcases R with ho|ho
  .right;left;have:bQ (l.map bn)=bQ [.one]:=vT d (by intro x c;simp at c;subst c;trivial) (λp=>by rw[r p,s];simp[parts];intro _;omega);rw[this];simp[bQ,parts,bN,dF,bf,bits,gU,put,mkS]
  left;have:bQ (l.map bn)=bQ []:=vT d (by simp) (λp=>by rw[r p,s];simp;intro _ x c e;exact ho ⟨x,c,e⟩);rw[this];rfl
 right;right;have hd:∀a:{x // x∈l'},∃p t C E e,1<=p/\p<=mh a.1/\Gt (bn a.1) p b m (WW m b+2) t C E e/\t+7<=p*(524+10*(m+b)):=λa=>(h a.1 (g a.1 a.2).1).gt (J a.1 (g a.1 a.2).1) S (g a.1 a.2).2
 let p:{x // x∈l'}->Nat:=λa=>(hd a).choose
 let t:{x // x∈l'}->Nat:=λa=>(hd a).choose_spec.choose
 let C:{x // x∈l'}->Nat->Nat:=λa=>(hd a).choose_spec.choose_spec.choose
 let E:{x // x∈l'}->Nat->Nat:=λa=>(hd a).choose_spec.choose_spec.choose_spec.choose
 let e:{x // x∈l'}->Nat->Nat:=λa=>(hd a).choose_spec.choose_spec.choose_spec.choose_spec.choose
 have j:∀a,1<=p a/\p a<=mh a.1/\Gt (bn a.1) (p a) b m (WW m b+2) (t a) (C a) (E a) (e a)/\t a+7<=p a*(524+10*(m+b)):=λa=>(hd a).choose_spec.choose_spec.choose_spec.choose_spec.choose_spec;have I:l'.attach.map (λa=>bn a.1)=l'.map bn:=by simp
 have M:(l'.attach.map (λa=>mh a.1)).sum=(l'.map mh).sum:=by congr 1;simp
 have O:(l'.attach.map p).sum<=(l.map mh).sum:=by refine a0h (aaA p (λa=>mh a.1) _ λa _=>(j a).2.1) ?_;rw[M];exact WU mh _ l
 have P:l'.attach≠[]:=by simpa using s
 have hG:=Gt.bQ P (λa _=>(u a.1 (g a.1 a.2).1).1) (λa _=>(j a).1) (by omega) (λa _=>(j a).2.2.1) (λa _=>(j a).2.2.2);rw[I]at hG;obtain⟨v,k⟩:=List.exists_mem_of_ne_nil l' s;have w:1<=(l'.attach.map p).sum:=by obtain⟨T,U⟩:=List.exists_mem_of_ne_nil _ P;obtain⟨A,B,D⟩:=a2Q U;have:=(j T).1;rw[D];simp;omega
 have f:∀x∈l'.map bn,wf x:=λx c=>by obtain⟨a,o,rfl⟩:=a0q.1 c;exact(u a (g a o).1).1
 refine⟨amZ z (a0q.2 ⟨v,(g v k).1,rfl⟩) (g v k).2,?_⟩;rcases R with ho|ho
 .have H:bQ (l.map bn)=kY (bQ (l'.map bn)) .one:=by
   unfold kY;rw[Ri f (by intro x c;simp at c;subst c;trivial)];refine vT d (by intro x c;rcases a0e.1 c with c|c;exact f x c;simp at c;subst c;trivial) (λq=>?_);rw[r q];simp[List.flatMap_append,a0e,a1i,a2E,a0R,parts,a0w];constructor
   .simp_all
   simp_all
  rw[H];have i:=hG.1.one (Ms f) hG.2 w (by omega);exact⟨_,_,_,_,_,w,O,i⟩
 have H:=vT d f (λq=>by
  rw[r q];constructor
  .rintro(G|⟨_,G⟩)
   .exact G
   exact absurd G ho
  exact .inl)
 rw[H];have i:=hG.1;refine⟨_,_,_,_,_,w,O,⟨i.kp,i.ht,i.he,λn y=>a0h (i.hC n y) (vD (by omega)),λn y=>a0h (i.hE n y) (vD (by omega))⟩⟩
mutual
def mm:RX->Nat
 | .one _=>0
 | .seq l=>yT l
 | .alt l=>yT l
 | .rep x lo hi=>mm x+iV lo hi
def yT:List RX->Nat
 | []=>0
 | x::r=>max (mm x) (yT r)
end
mutual
def bE:RX->Nat
 | .one _=>0
 | .seq l=>Qn l+1
 | .alt l=>xQ l+1
 | .rep x _ _=>bE x
def Qn:List RX->Nat
 | []=>0
 | x::r=>max (bE x) (Qn r)
def bC:RX->Nat
 | .one _=>0
 | .seq l=>Qn l
 | .alt l=>xQ l+1
 | .rep x _ _=>bE x
def xQ:List RX->Nat
 | []=>0
 | x::r=>max (bC x) (xQ r)
end
mutual
def sm:RX->Prop
 | .one _=>True
 | .seq l=>iO l<=40/\smL l
 | .alt l=>iO l<=40/\smL l
 | .rep x lo hi=>mh x*times lo hi<=40/\times lo hi<=10/\mh x<=40/\sm x
def smL:List RX->Prop
 | []=>True
 | x::r=>sm x/\smL r
end
mutual
theorem ahf:∀(e:RX),tL e->sm e->(∀b m,bE e<=b->mm e<=m->b<=5->m+2+b<=43->EL (bn e) (mh e) b m)/\(∀b m,bC e<=b->mm e<=m->b<=5->m+2+b<=43->CL (bn e) (mh e) b m)
 | .one s,ho,f=>by
   have h:∀b m,EL (bn (.one s)) (mh (.one s)) b m:=by
    intro b m;simp only[bn,mh];split
    .exact .inl rfl
    exact .inr (.inr ⟨rfl,1,514,_,_,_,by omega,by omega,(Pt.set s).mono (a1G _) (a1G _) (by unfold WW;omega)⟩)
   exact⟨λb m _ _ _ _=>h b m,λb m _ _ _ _=>(h b m).cl⟩
 | .seq l,ho,f=>by
   have k:=(MV l ho f.2).1;have g:iO l<=40:=f.1;refine⟨λb m hb a c d=>?_,λb m hb a c d=>k b m g hb a c d⟩;simp only[bE]at hb;obtain⟨b',rfl⟩:∃b',b=b'+1:=⟨b-1,by omega⟩;have h:=k b' m g (by omega) a (by omega) (by omega);show EL (sJ l) (iO l) (b'+1) m;by_cases ht:aP (sJ l)=true
   .obtain⟨p,t,C,E,e,j,i,o,_⟩:=h.gt g (by omega) ht;exact .inr (.inr ⟨ht,p,t,C,E,e,j,i,(o.shut j (by omega)).mono (a0b _) (a0b _) (by unfold WW;omega)⟩)
   rcases fQ ht with e|e
   .exact .inl e
   exact .inr (.inl e)
 | .alt l,ho,f=>by
   have k:=(MV l ho.1 f.2).2;have g:iO l<=40:=f.1;have q:∀x∈l,WC (bn x):=λx n=>E8 ho.1 (bn x) (by rw[uB];exact a0q.2 ⟨x,n,rfl⟩);have key:∀b m,xQ l+1<=b->yT l<=m->b<=5->m+2+b<=43->EL (bQ (iP l)) (iO l) b m:=by
    intro b m hb a c d;obtain⟨b',rfl⟩:∃b',b=b'+1:=⟨b-1,by omega⟩;have h:=k b' m (by omega) a (by omega) (by omega);rcases alv q h g (by omega) with e|e|⟨ht,p,t,C,E,e,j,i,o⟩
    .exact .inl e
    .exact .inr (.inl e)
    exact .inr (.inr ⟨ht,p,t,C,E,e,j,i,(o.shut j (by omega)).mono (a0b _) (a0b _) (by unfold WW;omega)⟩)
   exact⟨λb m hb a c d=>key b m hb a c d,λb m hb a c d=>(key b m hb a c d).cl⟩
 | .rep x lo hi,ho,f=>by
   have n:=(ahf x ho.1 f.2.2.2).1;have key:∀b m,bE x<=b->mm x+iV lo hi<=m->b<=5->m+2+b<=43->EL (kD (bn x) lo hi) (mh x*times lo hi) b m:=by intro b m hb a c d;have h:=n b (m-iV lo hi) hb (by omega) c (by omega);have i:=h.rep (uC ho.1) lo hi ho.2 f.2.1 (by rw[a1b];exact f.1) f.2.2.1 (by omega) c;rw[a1b];exact i.mono (a0b _) (a0b _) (by omega)
   exact⟨λb m hb a c d=>key b m hb a c d,λb m hb a c d=>(key b m hb a c d).cl⟩
theorem MV:∀(l:List RX),jm l->smL l->(∀b m,iO l<=40->Qn l<=b->yT l<=m->b<=5->m+2+b<=43->CL (sJ l) (iO l) b m)/\(∀b m,xQ l<=b->yT l<=m->b<=5->m+2+b<=43->∀x∈l,CL (bn x) (mh x) b m)
 | [],_,_=>⟨λb m _ _ _ _ _=>.inr (.inl rfl),λb m _ _ _ _ x c=>by simp at c⟩
 | y::r,ho,g=>by
   have j:=ahf y ho.1 g.1;have i:=MV r ho.2 g.2;refine⟨λb m h hb f d a=>?_,λb m hb f d a x c=>?_⟩
   .simp only[Qn]at hb;simp only[yT]at f;simp only[iO]at h;exact CL.cons (j.1 b m (by omega) (by omega) d a) (i.1 b m (by omega) (by omega) (by omega) d a) (uC ho.1) (Zz ho.2) h (by omega)
   simp only[xQ]at hb;simp only[yT]at f;rcases a0l.1 c with e|c
   .rw[e];exact j.2 b m (by omega) (by omega) d a
   exact i.2 b m (by omega) (by omega) d a x c
end
def KP.all {t C E e}(h:KP X t C E e)(n):oG X 0+hG X 0 n<=C n:=by
 have d:=h.c n;cases X with
 | zero=>simp[oG,hG]
 | one=>simp[oG,hG]
 | set s=>have:=U4 0 n (.set s);simp[parts]at d;omega
 | pair a b=>have:=U4 0 n (.pair a b);simp[parts]at d;omega
 | star a=>have:=U4 0 n (.star a);simp[parts]at d;omega
 | sum l=>have:=ae7 0 n l;simp[parts]at d;simp only[oG,hG,a0G];omega
def asb {p}(h:p<=40):lg p<=5/\dS p<=72*2 ^ lg p/\(lg p=5->dS p<=63*2 ^ lg p):=by
 have:((List.range 41).all λp=>decide (lg p<=5/\dS p<=72*2 ^ lg p/\(lg p=5->dS p<=63*2 ^ lg p)))=true:=by decide +kernel
 have a:=a1d.1 this p (by simp;omega);exact a2q a
theorem awj:hh 9 40=7271678484:=by decide +kernel
def asc {p b}(h:p<=40)(hb:b<=5):dS p*hh (b+lg p) 40<=63*47573905428*2 ^ lg p:=by
 obtain⟨f,e,d⟩:=asb h;by_cases c:lg p=5
 .have a:hh (b+lg p) 40<=47573905428:=by rw[<-auM];exact aff (by omega) (by omega)
  calc dS p*hh (b+lg p) 40<=63*2 ^ lg p*47573905428:=a0D (d c) a
   _=63*47573905428*2 ^ lg p:=by omega
 have a:hh (b+lg p) 40<=7271678484:=by rw[<-awj];exact aff (by omega) (by omega)
 calc dS p*hh (b+lg p) 40<=72*2 ^ lg p*7271678484:=a0D e a
  _=72*7271678484*2 ^ lg p:=by omega
  _<=63*47573905428*2 ^ lg p:=a0z _ (by omega)
theorem ahg {l}(ho:tL (.alt l))(c:sm (.alt l))(hb:xQ l<=5)(r:yT l+2*xQ l<=40)(w)(h:w.length<=40):nl (dW (bn (.alt l)) w)<9223372036854775807:=by
 have d:=uC ho;have q:=auu _ d.1 d.2 w 40 h;refine a2i q ?_;have k:=(MV l ho.1 c.2).2 (xQ l) (yT l) (a0b _) (a0b _) hb (by omega);have j:∀x∈l,WC (bn x):=λx g=>E8 ho.1 (bn x) (by rw[uB];exact a0q.2 ⟨x,g,rfl⟩);have i:=c.1;unfold nB;show 518+oG (bQ (iP l)) 0+hG (bQ (iP l)) 0 40<_;rcases alv j k i (by omega) with e|e|⟨_,p,t,C,E,e,y,v,f⟩
 .rw[e];simp[oG,hG]
 .rw[e];simp[oG,hG]
 have u:=f.kp.all 40;have o:=f.hC 40 (by omega);have n:=asc (p:=p) (b:=xQ l) (by omega) hb;have a:WW (yT l) (xQ l)+4<=2526:=by have:=a0D (show yT l<=40 by omega) (show yT l<=40 by omega);unfold WW;omega
 have m:C 40*2 ^ lg p<=964*2526*63*47573905428*2 ^ lg p:=by
  refine a0h o ?_;unfold Rb
  calc 964*(WW (yT l) (xQ l)+4)*dS p*hh (xQ l+lg p) 40=964*(WW (yT l) (xQ l)+4)*(dS p*hh (xQ l+lg p) 40):=a0Z _ _ _
   _<=964*2526*(63*47573905428*2 ^ lg p):=a0D (a0o _ a) n
   _=964*2526*63*47573905428*2 ^ lg p:=by omega
 have s:=Nat.le_of_mul_le_mul_right m (a2S _);omega
def chg(s i:Nat):Bool:=s.testBit i != s.testBit (i+1)
def cp(s:Nat):Nat:=(List.range 255).countP (chg s)
def cpL(S:LN):Nat:=(S.map cp).sum
theorem axG(a b):cpL (a++b)=cpL a+cpL b:=by simp[cpL]
theorem ahh:cp 0=0:=by decide +kernel
theorem aAj:cp fU=0:=by decide +kernel
def azX(c:UInt8):cp (2 ^ c.toNat)<=2:=by
 have:∀n,n<256->cp (2 ^ n)<=2:=by decide +kernel
 exact this c.toNat c.toNat_lt
theorem Iw(s f):∀k i,(vg s f k).testBit i=(s.testBit i||(decide (f<=i)&&decide (i<f+k)))
 | 0,i=>by grind [vg]
 | k+1,i=>by
   rw[vg,a2D,Iw s f k i,a2I];rw[a0T];simp only[a1a,a0O,a0U];constructor
   .grind
   grind
theorem aaG {p q r}(l:LN)(h:∀x∈l,p x=true->q x=true\/r x=true):l.countP p<=l.countP q+l.countP r:=by
 induction l with
 | nil=>simp
 | cons a l b =>
   have b:=b (λx c=>h x (by simp[c]));rw[a2G,a2G,a2G];cases d:p a
   .simp;omega
   grind
theorem count_eq(n k):(List.range n).countP (λi=>decide (i=k))<=1:=by
 induction n with
 | zero=>simp
 | succ n a =>
   rw[List.range_succ,List.countP_append];by_cases h:n=k
   .grind [List.range,List.countP_eq_zero]
   grind
theorem am0(s a b):cp (addRange s a b)<=cp s+2:=by
 unfold cp;have:=aaG (p:=chg (addRange s a b)) (q:=chg s) (r:=λi=>decide (i+1=a.toNat)||decide (i=b.toNat)) (List.range 255) (by
  intro i _ hi;unfold chg addRange at hi;rw[Iw,Iw]at hi;cases c:chg s i
  .grind [chg]
  exact .inl rfl)
 have:=aaG (p:=λi=>decide (i+1=a.toNat)||decide (i=b.toNat)) (q:=λi=>decide (i=a.toNat-1)) (r:=λi=>decide (i=b.toNat)) (List.range 255) (by intro i _ hi;simp[a1a,a0U]at hi |-;omega);have:=count_eq 255 (a.toNat-1);have:=count_eq 255 b.toNat;omega
theorem ase(s):cp (s ^^^ fU)=cp s:=by
 unfold cp;refine List.countP_congr (λi hi=>?_);have hi:=a2b.1 hi;have f:∀j,j<256->fU.testBit j=true:=by decide +kernel
 unfold chg;rw[a2o,a2o,f i (by omega),f (i+1) (by omega)];cases s.testBit i<;>cases s.testBit (i+1)<;>simp
theorem Qo:∀{k st t r c},fE k st t=some (c,r)->cp c+2*r.length<=cp st+2*t.length
 | 0,st,t,r,c,h=>by cases h
 | k+1,st,t,r,c,h=>by
   unfold fE at h;split at h
   .cases h
   rename_i a b q hi;have e:=BZ hi;have d:=am0 st a b;split at h
   .grind
   have:=Qo h;omega
def ajX {t r s}(h:nT t=some (s,r)):cp s+2*r.length<=2*t.length:=by
 unfold nT at h;split at h
 .rename_i a;have c:=jg a;split at h
  .cases h
  rename_i s1 q b;have:=Qo b;simp at h;obtain⟨rfl,rfl⟩:=h;rw[ase];rw[ahh]at this;omega
 have:=Qo h;rw[ahh]at this;omega
mutual
theorem az7:∀{k nest:Nat} {t r:LB} {x:RX},ik k nest t=some (x,r)->cpL (dB x)+2*r.length<=2*t.length
 | 0,nest,t,r,x,h=>by simp[ik]at h
 | k+1,nest,[],r,x,h=>by simp[ik]at h
 | k+1,nest,c::q,r,x,h=>by
   simp only[ik]at h;split at h
   .split at h
    .simp at h
    split at h
    .simp at h
    rename_i g b a;have e:=axK (acc:=[]) a;split at h
    .rename_i f;have j:=jg f;simp at h;obtain⟨rfl,rfl⟩:=h;simp[cz,cpL]at e |-;omega
    simp at h
   split at h
   .split at h
    .simp at h
    rename_i s b a;have e:=ajX a;simp at h;obtain⟨rfl,rfl⟩:=h;simp[dB,cpL];omega
   split at h
   .simp at h;obtain⟨rfl,rfl⟩:=h;simp[dB,cpL,aAj];omega
   split at h
   .cases q with
    | nil=>simp at h
    | cons d i=>simp at h;obtain⟨rfl,rfl⟩:=h;have:=azX d;simp[dB,cpL];omega
   split at h
   .simp at h
   simp at h;obtain⟨rfl,rfl⟩:=h;have:=azX c;simp[dB,cpL];omega
theorem azw:∀{k nest:Nat} {acc:List RX} {t r:LB} {x:RX},jF k nest acc t=some (x,r)->cpL (dB x)+2*r.length<=cpL (cz acc)+2*t.length
 | 0,nest,acc,t,r,x,h=>by simp[jF]at h
 | k+1,nest,acc,t,r,x,h=>by
   simp only[jF]at h;split at h
   .simp at h;obtain⟨rfl,rfl⟩:=h;exact a0b _
   split at h
   .simp at h
   rename_i e g b;have i:=az7 b;split at h
   .simp at h
   rename_i y f a;have d:=xJ a;have c:=azw (acc:=acc++[y]) h;rw[yK,Ce,d.1,axG]at c;omega
theorem axK:∀{k nest:Nat} {acc:List RX} {t r:LB} {x:RX},iQ k nest acc t=some (x,r)->cpL (dB x)+2*r.length<=cpL (cz acc)+2*t.length
 | 0,nest,acc,t,r,x,h=>by simp[iQ]at h
 | k+1,nest,acc,t,r,x,h=>by
   simp only[iQ]at h;split at h
   .simp at h
   rename_i a g c;have e:=azw (acc:=[]) c;have f:cpL (cz [])=0:=by simp[cz,cpL]
   rw[f,a1n]at e;split at h
   .rename_i b;have i:=jg b;have d:=axK (acc:=acc++[a]) h;rw[yK,Ce,axG]at d;omega
   simp at h;obtain⟨rfl,rfl⟩:=h;simp only[dB,yK,Ce,axG];omega
end
def azN {t e}(h:fF t=some e):cpL (dB e)<=2*t.length:=by
 unfold fF at h;split at h
 .rename_i x a
  cases h;have:=axK a;simp[cz,cpL]at this |-;omega
 cases h
theorem MW:∀(l:List RX) (y:RX),yT (l++[y])=max (yT l) (mm y)
 | [],y=>by simp[yT]
 | x::r,y=>by simp only[a0L,yT,MW r y];omega
theorem Vl:∀(l:List RX) (y:RX),Qn (l++[y])=max (Qn l) (bE y)
 | [],y=>by simp[Qn]
 | x::r,y=>by simp only[a0L,Qn,Vl r y];omega
theorem FZ:∀(l:List RX) (y:RX),xQ (l++[y])=max (xQ l) (bC y)
 | [],y=>by simp[xQ]
 | x::r,y=>by simp only[a0L,xQ,FZ r y];omega
def aaH:∀{k x y t r},dQ k x t=some (y,r)->bE y=bE x/\mm y+r.length<=mm x+t.length
 | 0,x,y,t,r,h=>by simp[dQ]at h
 | k+1,x,y,t,r,h=>by
   simp only[dQ]at h;split at h
   .split at h
    .simp at h
    rename_i b e c;have f:=E9 c;obtain⟨a,d⟩:=aaH h;simp only[bE,mm]at a d;omega
   simp at h;obtain⟨rfl,rfl⟩:=h;omega
mutual
theorem am1:∀{k nest:Nat} {t r:LB} {x:RX},nest<=5->ik k nest t=some (x,r)->bE x+nest<=5/\mm x+2*bE x+r.length<=t.length
 | 0,nest,t,r,x,b,h=>by simp[ik]at h
 | k+1,nest,[],r,x,b,h=>by simp[ik]at h
 | k+1,nest,c::q,r,x,b,h=>by
   simp only[ik]at h;split at h
   .split at h
    .simp at h
    rename_i n;split at h
    .simp at h
    rename_i o f a;obtain⟨l,m,j,i⟩:=aaI (acc:=[]) (by omega) (by simp[xQ];omega) a;split at h
    .rename_i g;have u:=jg g;simp at h;obtain⟨rfl,rfl⟩:=h;subst m;simp[bE,mm,xQ,yT]at j i |-;omega
    simp at h
   split at h
   .split at h
    .simp at h
    rename_i s f a;have e:=ajX a;simp at h;obtain⟨rfl,rfl⟩:=h;simp[bE,mm];omega
   split at h
   .simp at h;obtain⟨rfl,rfl⟩:=h;simp[bE,mm];omega
   split at h
   .cases q with
    | nil=>simp at h
    | cons d p=>simp at h;obtain⟨rfl,rfl⟩:=h;simp[bE,mm];omega
   split at h
   .simp at h
   simp at h;obtain⟨rfl,rfl⟩:=h;simp[bE,mm];omega
theorem ahi:∀{k nest:Nat} {acc:List RX} {t r:LB} {x:RX},nest<=5->Qn acc+nest<=5->jF k nest acc t=some (x,r)->∃l,x=.seq l/\Qn l+nest<=5/\yT l+2*Qn l+r.length<=yT acc+2*Qn acc+t.length
 | 0,nest,acc,t,r,x,a,b,h=>by simp[jF]at h
 | k+1,nest,acc,t,r,x,a,b,h=>by
   simp only[jF]at h;split at h
   .grind
   split at h
   .simp at h
   rename_i i m d;obtain⟨q,p⟩:=am1 a d;split at h
   .simp at h
   rename_i y j c;obtain⟨o,n⟩:=aaH c;obtain⟨l,g,f,e⟩:=ahi a (by rw[Vl];omega) h;rw[MW,Vl]at e;exact⟨l,g,f,by omega⟩
theorem aaI:∀{k nest:Nat} {acc:List RX} {t r:LB} {x:RX},nest<=5->xQ acc+nest<=5->iQ k nest acc t=some (x,r)->∃l,x=.alt l/\xQ l+nest<=5/\yT l+2*xQ l+r.length<=yT acc+2*xQ acc+t.length
 | 0,nest,acc,t,r,x,a,e,h=>by simp[iQ]at h
 | k+1,nest,acc,t,r,x,a,e,h=>by
   simp only[iQ]at h;split at h
   .simp at h
   rename_i n o f;obtain⟨c,m,q,j⟩:=ahi (acc:=[]) a (by simp[Qn];omega) f;subst m;simp only[yT,Qn]at j;split at h
   .rename_i d;have p:=jg d;obtain⟨l,i,g,b⟩:=aaI a (by rw[FZ];simp only[bC];omega) h;rw[MW,FZ]at b;simp only[bC,mm]at b;exact⟨l,i,g,by omega⟩
   simp at h;obtain⟨rfl,rfl⟩:=h;refine⟨acc++[.seq c],rfl,?_,?_⟩
   .rw[FZ];simp only[bC];omega
   rw[MW,FZ];simp only[bC,mm];omega
end
theorem ajY {t e}(h:fF t=some e):∃l,e=.alt l/\xQ l<=5/\yT l+2*xQ l<=t.length:=by
 unfold fF at h;split at h
 .rename_i y a;obtain⟨l,c,d,b⟩:=aaI (a1G _) (by simp[xQ]) a;simp at h;subst h;simp[xQ,yT]at b;exact⟨l,c,by omega,by omega⟩
 simp at h
mutual
theorem ajZ:∀(e:RX),uO e->dI e<=40->sm e
 | .one _,_,_=>trivial
 | .seq l,hd,h=>by simp only[dI]at h;exact⟨by rw[Cf h];exact h,afi l hd h⟩
 | .alt l,hd,h=>by simp only[dI]at h;exact⟨by rw[Cf h];exact h,afi l hd h⟩
 | .rep x lo hi,hd,h=>by
   simp only[dI]at h;split at h
   .omega
   rename_i c;have a:dI x<=40:=by omega
   have b:=rZ a;refine⟨by rw[b];exact h,ac0 hd.2.1 hd.2.2,by rw[b];exact a,ajZ x hd.1 a⟩
theorem afi:∀(l:List RX),mZ l->bV l<=40->smL l
 | [],_,_=>trivial
 | x::r,hd,h=>by simp only[bV]at h;exact⟨ajZ x hd.1 (by omega),afi r hd.2 (by omega)⟩
end
theorem ahj {t e}(h:fF t=some e)(ht:t.length<=40)(b:dI e<=40)(w)(a:w.length<=40):nl (dW (bn e) w)<9223372036854775807:=by grind [ajY,ahg,mQ,ajZ,zM]
theorem aaJ(a):∀k t,eQ a k (aG a t)=aG a (eQ a k t)
 | 0,t=>rfl
 | k+1,t=>by rw[eQ,aaJ a k (aG a t)];rfl
theorem Qp(a k t):eQ a (k+1) t=aG a (eQ a k t):=aaJ a k t
theorem aaK(a):∀k t,dG a k (kY (aG a t) .one)=kY (aG a (dG a k t)) .one
 | 0,t=>rfl
 | k+1,t=>by rw[dG,aaK a k (kY (aG a t) .one)];rfl
theorem aaL(a k t):dG a (k+1) t=kY (aG a (dG a k t)) .one:=aaK a k t
def yU(a:NF)(lo:Nat):Option Nat->NF
 | none=>iH a
 | some n=>dG a (n-lo) .one
theorem aj0(a lo hi):kD a lo hi=eQ a lo (yU a lo hi):=by cases hi<;>rfl
def aj1(U:List NF)(a:NF)(lo:Nat)(hi:Option Nat):Prop :=
 (hi=none->iH a∈U) /\
 (∀n,hi=some n->∀k,k<n-lo->(∀f∈uZ a (dG a k .one),f∈U)/\Ff U [aG a (dG a k .one),.one]) /\
 (∀k,k<lo->∀f∈uZ a (eQ a k (yU a lo hi)),f∈U)
def Qq(U:List NF):List RX->Prop
 | []=>True
 | x::r=>(∀f∈uZ (bn x) (sJ r),f∈U)/\Qq U r
def Qq.get {U}:∀{l},Qq U l->∀i (hi:i<l.length),∀f∈uZ (bn l[i]) (sJ (l.drop (i+1))),f∈U
 | x::r,h,0,_=>h.1
 | x::r,h,i+1,hi=>by simpa using Qq.get h.2 i (by simpa using hi)
mutual
def aaM(U:List NF):RX->Prop
 | .one s=>s≠0->.set s∈U
 | .seq l=>zi U l/\Qq U l
 | .alt l=>zi U l/\Ff U (iP l)
 | .rep x lo hi=>aaM U x/\aj1 U (bn x) lo hi
def zi(U:List NF):List RX->Prop
 | []=>True
 | x::r=>aaM U x/\zi U r
end
theorem KQ {U}:∀{l},zi U l↔∀x∈l,aaM U x
 | []=>by simp[zi]
 | x::r=>by simp only[zi,a0l,forall_eq_or_imp,KQ]
def Tc(ls:List NF):List NF:=[.set (bf (ls.flatMap parts)),bQ ls]
def adu(lo:Nat):Option Nat->Nat
 | none=>0
 | some n=>n-lo
def Qr(a:NF)(lo:Nat)(hi:Option Nat):List NF :=
 iH a::((List.range (adu lo hi)).flatMap (λk=>uZ a (dG a k .one)++Tc [aG a (dG a k .one),.one]) ++
  (List.range lo).flatMap λk=>uZ a (eQ a k (yU a lo hi)))
mutual
def Td:RX->List NF
 | .one s=>[.set s]
 | .seq l=>aaN l
 | .alt l=>aaO l++Tc (iP l)
 | .rep x lo hi=>Td x++Qr (bn x) lo hi
def aaO:List RX->List NF
 | []=>[]
 | x::r=>Td x++aaO r
def aaN:List RX->List NF
 | []=>[]
 | x::r=>(Td x++aaN r)++uZ (bn x) (sJ r)
end
def aaP:∀a b,wf a->(uZ a b).length<=cl a:=by
 intro a;refine NF.ind (P:=λa=>∀b,wf a->(uZ a b).length<=cl a) ?_ a;intro a d b c;by_cases hb:aP b=true
 .cases a with
  | zero=>simp[uZ]
  | one=>simp[uZ]
  | set s=>rw[nA rfl hb];exact Rn _
  | sum l=>rw[nA rfl hb];exact Rn _
  | star x=>rw[nA rfl hb];exact Rn _
  | pair x y=>have ht:=eP c.2.1 c.2.2.2 hb;rw[E5 hb,nA c.2.2.1 ht];have:=d y (by simp[NF.size];omega) b c.2.1;simp[cl,elems]at this |-;omega
 rcases fQ hb with e|e<;>subst e<;>cases a<;>simp[uZ]
def ZO(x:NF):Prop:=∃p t,Et x p t/\p<=40/\t<=100
theorem ZO.wc {x}(h:ZO x):WC x:=by obtain⟨p,t,h,_⟩:=h;exact h.1
theorem ZO.cl {x:NF}(h:ZO x):cl x<=40:=by
 obtain⟨p,t,h,a,ht⟩:=h;by_cases b:p=0
 .rw[h.2.1 b];decide
 exact a0h ((h.2.2 (by omega)).cp.cl (by omega)) a
theorem ZO.size {x}(h:ZO x):x.size<=8080:=by
 obtain⟨p,t,h,b,ht⟩:=h;by_cases a:p=0
 .rw[h.2.1 a];decide
 refine a0h (h.2.2 (by omega)).sz ?_;have:2*p*(t+1)<=80*101:=a0D (by omega) (by omega);omega
def aaQ:∀l:List NF,l.length<=bP l
 | []=>a1G _
 | x::r=>by have:=x.size_pos;have:=aaQ r;simp only[bP,a0r];omega
def aj2 {x n}(h:x.size<=n):(parts x).length<=n:=a0h (aaQ _) (a0h (Ws x) h)
def ahk {U ls n}(a:∀f∈Tc ls,f∈U)(h:∀x∈ls,x.size<=n)(d:ls.length<=1000)(c:n<=1000000):Ff U ls:=by
 refine⟨λ_=>a _ (by simp[Tc]),λ_=>a _ (by simp[Tc]),?_,by omega⟩;have g:=acX λx b=>aj2 (h x b);have e:=a0D d c;omega
theorem am2(lo hi):iV lo hi<=3:=by cases hi<;>simp only[iV]<;>split<;>omega
theorem apK {p t lo n}(c:Et a p t)(ht:1<=p->1<=t)(h:p*n<=40)(b:t<=90) {k}(d:k<=n-lo):ZO (dG a k .one):=by
 have:=aeY c ht 0 (some k) (by simp);refine⟨_,_,this,?_,?_⟩
 .exact a0h (a0o _ (show times 0 (some k)<=n by simp[times];omega)) h
 grind [am2]
def D4{β:Type}(f:α->List β)(n):∀l:List α,(∀a∈l,(f a).length<=n)->(l.flatMap f).length<=l.length*n
 | [],_=>by simp
 | a::r,h=>by
   have d:=h a (by simp);have c:=D4 f n r λx b=>h x (by simp[b]);simp only[a1i,a0p,a0r,a0J,a2T];omega
def am3{b}(c:a.size<=8080)(hb:b.size<=8080):(aG a b).size<=16161:=by have:=Hq a b;omega
theorem asf {U p t lo}(i:Et a p t)(l:p<=40)(ht:1<=p->1<=t)(h:p*times lo hi<=40)(c:t<=90)(m:∀n,hi=some n->lo<=n)(j:∀f∈Qr a lo hi,f∈U):aj1 U a lo hi:=by
 have hF:ZO a:=⟨p,t,i,l,by omega⟩;refine⟨λ_=>j _ (by simp[Qr]),?_,?_⟩
 .rintro n rfl k g;have e:∀f∈uZ a (dG _ k .one)++Tc [aG a (dG _ k .one),.one],f∈U:=λf b=>j f (by unfold Qr;exact a2l _ (a1B _ (a1l.2 ⟨k,a2b.2 g,b⟩)));refine⟨λf b=>e f (a1B _ b),ahk (n:=16161) (λf b=>e f (a1o _ b)) ?_ (by simp) (by omega)⟩;intro x d;simp at d;rcases d with rfl|rfl
  .exact am3 hF.size ((apK i ht h c (a3t g)).size)
  decide
 grind [Qr]
def aj3 {lo}(hF:ZO a)(h:lo<=9)(c:∀n,hi=some n->n<=9):(Qr a lo hi).length<=800:=by
 have g:=hF.cl;have b:=hF.wc.1;have f:=D4 (λk=>uZ a (dG a k .one)++Tc [aG a (dG a k .one),.one]) 42 (List.range (adu lo hi)) (λk _=>by have:=aaP a (dG a k .one) b;simp[Tc];omega);have e:=D4 (λk=>uZ a (eQ a k (yU a lo hi))) 40 (List.range lo) (λk _=>by have:=aaP a (eQ a k (yU a lo hi)) b;omega);have d:adu lo hi<=9:=by
  cases hi with
  | none=>simp[adu]
  | some n=>have:=c n rfl;simp only[adu];omega
 rw[List.length_range]at f e;unfold Qr;simp only[a0r,a0p];omega
def aaR {e}(h:tL e)(a:dI e<=40)(ht:jX e<=90):ZO (bn e):=⟨_,_,rF h,by rw[rZ a];omega,by omega⟩
def aaS:∀{l e},e∈l->dI e<=bV l
 | x::r,e,h=>by
   simp only[bV];rcases a0l.1 h with rfl|h
   .omega
   have:=aaS h;omega
def MX:∀{l e},jm l->e∈l->tL e
 | x::r,e,a,h=>by
   rcases a0l.1 h with rfl|h
   .exact a.1
   exact MX a.2 h
mutual
theorem YS:∀{e:RX} {U:List NF},tL e->uO e->dI e<=40->jX e<=90->(∀f∈Td e,f∈U)->aaM U e
 | .one s,U,ho,hd,b,ht,a=>λ_=>a _ (by simp[Td])
 | .seq l,U,ho,hd,b,ht,a=>ahl (show jm l from ho) (show mZ l from hd) (show bV l<=40 from b) (show gu l<=90 from ht) a
 | .alt l,U,ho,hd,b,ht,a=>by have k:gu l+(l.length-1)<=90:=ht;have j:bV l<=40:=b;simp only[Td]at a;refine⟨ahm ho.1 (show mZ l from hd) j (by omega) λf c=>a f (a1B _ c),?_⟩;refine ahk (n:=8080) (λf c=>a f (a1o _ c)) ?_ (by rw[uB,a0y];omega) (by omega);intro x i;rw[uB]at i;obtain⟨e,he,rfl⟩:=a0q.1 i;exact(aaR (MX ho.1 he) (by have:=aaS he;omega) (by have:=(Bu he).2;omega)).size
 | .rep x lo hi,U,ho,hd,b,ht,a=>by
   have k:jX x+iV lo hi<=90:=ht;simp only[Td]at a;have d:dI x<=40:=by
    simp only[dI]at b;by_cases h:40<dI x
    .rw[a0m h]at b;omega
    omega
   have g:mh x*times lo hi<=40:=by simp only[dI]at b;rw[a0n (by omega)]at b;rw[rZ d];exact b
   exact⟨YS ho.1 hd.1 d (by omega) λf c=>a f (a1B _ c),
    asf (rF ho.1) (by rw[rZ d];exact d) J9 g (by omega) ho.2 λf c=>a f (a1o _ c)⟩
theorem ahm:∀{l:List RX} {U:List NF},jm l->mZ l->bV l<=40->gu l<=90->(∀f∈aaO l,f∈U)->zi U l
 | [],U,_,_,_,_,_=>trivial
 | x::r,U,ho,hd,c,ht,b=>by simp only[bV]at c;simp only[gu]at ht;simp only[aaO]at b;exact⟨YS ho.1 hd.1 (by omega) (by omega) λf a=>b f (a1B _ a),ahm ho.2 hd.2 (by omega) (by omega) λf a=>b f (a1o _ a)⟩
theorem ahl:∀{l:List RX} {U:List NF},jm l->mZ l->bV l<=40->gu l<=90->(∀f∈aaN l,f∈U)->zi U l/\Qq U l
 | [],U,_,_,_,_,_=>⟨trivial,trivial⟩
 | x::r,U,ho,hd,d,ht,b=>by
   simp only[bV]at d;simp only[gu]at ht;simp only[aaN]at b;have c:=ahl (U:=U) ho.2 hd.2 (by omega) (by omega) λf a=>b f (a1B _ (a1o _ a));exact⟨⟨YS ho.1 hd.1 (by omega) (by omega) λf a=>b f (a1B _ (a1B _ a)),c.1⟩,λf a=>b f (a1o _ a),c.2⟩
end
mutual
def Dn:RX->Nat
 | .one _=>1
 | .seq l=>wR l+1
 | .alt l=>wR l+1
 | .rep x _ _=>Dn x+1
def wR:List RX->Nat
 | []=>0
 | x::r=>Dn x+wR r
end
theorem MY:∀a b,wR (a++b)=wR a+wR b
 | [],b=>by simp[wR]
 | x::a,b=>by simp only[a0L,wR,MY a b];omega
def WV:∀{k x y t r},dQ k x t=some (y,r)->Dn y+r.length<=Dn x+t.length
 | 0,x,y,t,r,h=>by simp[dQ]at h
 | k+1,x,y,t,r,h=>by
   simp only[dQ]at h;split at h
   .split at h
    .simp at h
    rename_i b r' hb;have d:=E9 hb;have c:=vU b.1 b.2;have a:=WV (k:=k) h;simp only[Dn]at a;omega
   simp[Option.some.injEq,Prod.mk.injEq]at h;obtain⟨rfl,rfl⟩:=h;omega
mutual
theorem aj4:∀{k nest:Nat} {t r:LB} {x:RX},ik k nest t=some (x,r)->Dn x+3*r.length<=3*t.length
 | 0,nest,t,r,x,h=>by simp[ik]at h
 | k+1,nest,[],r,x,h=>by simp[ik]at h
 | k+1,nest,c::q,r,x,h=>by
   simp only[ik]at h;split at h
   .split at h
    .simp at h
    split at h
    .simp at h
    rename_i g i a;have e:=Vm (acc:=[]) a;split at h
    .rename_i b;have f:=jg b;simp at h;obtain⟨rfl,rfl⟩:=h;simp only[wR,a0r]at e |-;simp only[List.length_tail]at f;simp;omega
    simp at h
   split at h
   .split at h
    .simp at h
    rename_i a;have e:=Kb a;simp at h;obtain⟨rfl,rfl⟩:=h;simp only[Dn,a0r];omega
   split at h
   .simp at h;obtain⟨rfl,rfl⟩:=h;simp only[Dn,a0r];omega
   split at h
   .cases q with
    | nil=>simp at h
    | cons d j=>simp at h;obtain⟨rfl,rfl⟩:=h;simp only[Dn,a0r];omega
   split at h
   .simp at h
   simp at h;obtain⟨rfl,rfl⟩:=h;simp only[Dn,a0r];omega
theorem adv:∀{k nest:Nat} {acc:List RX} {t r:LB} {x:RX},jF k nest acc t=some (x,r)->Dn x+3*r.length<=1+wR acc+3*t.length
 | 0,nest,acc,t,r,x,h=>by simp[jF]at h
 | k+1,nest,acc,t,r,x,h=>by
   simp only[jF]at h;split at h
   .grind [Dn]
   split at h
   .simp at h
   rename_i d f c;have j:=aj4 c;split at h
   .simp at h
   rename_i y e a;have i:=WV a;have b:=adv (acc:=acc++[y]) h;have g:=(xJ a).2;rw[MY]at b;simp only[wR]at b;omega
theorem Vm:∀{k nest:Nat} {acc:List RX} {t r:LB} {x:RX},iQ k nest acc t=some (x,r)->Dn x+3*r.length<=2+wR acc+3*t.length
 | 0,nest,acc,t,r,x,h=>by simp[iQ]at h
 | k+1,nest,acc,t,r,x,h=>by
   simp only[iQ]at h;split at h
   .simp at h
   rename_i b f d;have e:=adv (acc:=[]) d;simp only[wR]at e;split at h
   .rename_i c;have g:=jg c;have a:=Vm (acc:=acc++[b]) h;rw[MY]at a;simp only[wR]at a;omega
   simp at h;obtain⟨rfl,rfl⟩:=h;simp only[Dn,MY,wR];omega
end
def ahn {t x}(h:fF t=some x):Dn x<=3*t.length+2:=by
 unfold fF at h;split at h
 .rename_i y a;simp at h;subst h;have:=Vm a;simp only[wR]at this;omega
 simp at h
mutual
theorem Te:∀{e:RX},tL e->uO e->dI e<=40->jX e<=90->(Td e).length+40<=1000*Dn e
 | .one s,ho,hd,a,ht=>by simp[Td,Dn]
 | .seq l,ho,hd,a,ht=>by have:=adw (show jm l from ho) (show mZ l from hd) (show bV l<=40 from a) (show gu l<=90 from ht);simp only[Td,Dn];omega
 | .alt l,ho,hd,a,ht=>by have d:gu l+(l.length-1)<=90:=ht;have c:=adx ho.1 (show mZ l from hd) (show bV l<=40 from a) (by omega);simp only[Td,Dn,a0p];simp[Tc];omega
 | .rep x lo hi,ho,hd,a,ht=>by
   have d:jX x+iV lo hi<=90:=ht;have b:dI x<=40:=by
    simp only[dI]at a;by_cases h:40<dI x
    .rw[a0m h]at a;omega
    omega
   have c:=Te ho.1 hd.1 b (by omega);have f:=aj3 (aaR ho.1 b (by omega)) hd.2.1 hd.2.2;simp only[Td,Dn,a0p];omega
theorem adx:∀{l:List RX},jm l->mZ l->bV l<=40->gu l<=90->(aaO l).length<=1000*wR l
 | [],_,_,_,_=>by simp[aaO]
 | x::r,ho,hd,a,ht=>by simp only[bV]at a;simp only[gu]at ht;have c:=Te ho.1 hd.1 (by omega) (by omega);have b:=adx ho.2 hd.2 (by omega) (by omega);simp only[aaO,wR,a0p];omega
theorem adw:∀{l:List RX},jm l->mZ l->bV l<=40->gu l<=90->(aaN l).length<=1000*wR l
 | [],_,_,_,_=>by simp[aaN]
 | x::r,ho,hd,a,ht=>by simp only[bV]at a;simp only[gu]at ht;have e:=Te ho.1 hd.1 (by omega) (by omega);have d:=adw ho.2 hd.2 (by omega) (by omega);have c:=aaP (bn x) (sJ r) (rF ho.1).1.1;have b:=(aaR ho.1 (show dI x<=40 by omega) (by omega)).cl;simp only[aaN,wR,a0p];omega
end
end
end Go.Proofs.YtnkobfoopcolaaaGreat
