import Derived.Test.YtedmellodofajaaGreatDoorJ5
import Derived.Deep.MidRow
import Derived.Test.YtedmellodofajaaGreatDoorJ4
import Derived.Test.YtedmellodofajaaGreatDoorJ1
import Derived.Deep.RegionLaw
set_option linter.unusedVariables false
set_option linter.unusedSimpArgs false
set_option linter.unnecessarySimpa false
set_option linter.defProp false
set_option maxRecDepth 100000
set_option maxHeartbeats 4000000
namespace Go.Proofs.YtedmellodofajaaGreatDoor
open Go.RowKit
section
variable {w w':World} {b i k p:Nat} {L:List Bool} {a l v:Value} {S:LN} {C:Array Value} {x:NF} {r t:LB}
def Km(k:Nat)(L:List Bool)(a b l:Value)(nm:LB):Array Value:=(.int .u8 k::(L.map Value.bool++[a,b,l,zT nm])).toArray
def TK(w:World)(p k:Nat)(L:List Bool)(a b l:Value)(nm:LB):Prop :=
 w.heap[p]?=some (.cells (Km k L a b l nm) 214 (0,0))/\L.length=256
theorem TK.lt{b:Value} {nm:LB}(h:TK w p k L a b l nm):p<w.heap.size:=(a0c.1 h.1).1
theorem TK.aC{b:Value} {nm:LB}(h:TK w p k L a b l nm)(f:aB S w w')(c:p∉S):TK w' p k L a b l nm:=⟨(f.block p h.lt c).trans h.1,h.2⟩
theorem TK.at{b:Value} {nm:LB}(h:TK w p k L a b l nm)(o:Nat)(v:Value)(e:(Km k L a b l nm).toList[o]?=some v):w.cell? ⟨p,o,none⟩=some v:=by simp only[World.cell?,h.1];simpa using e
theorem TK.c0{b:Value} {nm:LB}(h:TK w p k L a b l nm):zC w p 0 (.int .u8 k):=h.at 0 _ (by simp[Km])
def TK.cin{b:Value} {nm:LB}(h:TK w p k L a b l nm)(c:Nat)(x:Bool)(d:L[c]?=some x):zC w p (1+c) (.bool x):=by have e:=(a0d.1 d).1;refine h.at (1+c) _ ?_;rw[a2w];simp only[Km,a1m];rw[a0s (by simp;exact e)];simp[d]
def Sf{b:Value} {nm:LB}(h:L.length=256)(j:Nat):(Km k L a b l nm).toList[257+j]?=[a,b,l,zT nm][j]?:=by rw[show 257+j=(256+j)+1 by omega];simp only[Km,a1m];rw[a0K (by simp[h])];simp[h]
def TK.ends{b:Value} {nm:LB}(h:TK w p k L a b l nm):zC w p 257 a/\zC w p 258 b/\zC w p 259 l/\zC w p 260 (zT nm) :=
 ⟨h.at 257 _ (Sf h.2 0),h.at 258 _ (Sf h.2 1),h.at 259 _ (Sf h.2 2),h.at 260 _ (Sf h.2 3)⟩
def TK.of{b:Value} {nm:LB}(h:C=Km k L a b l nm)(c:L.length=256):TK (w.alloc (Obj.cells C 214)) w.heap.size k L a b l nm:=by subst h;exact⟨bD _ _,c⟩
def RVq(w:World)(v:Value)(us:List Value):Prop:=us.length<=140737488355328/\∃a n cap,v=.slice a n cap/\n=us.length/\n<=cap/\((a=none/\cap=0)\/∃g,a=some (zA g))/\∀j u,us[j]?=some u->∃g,a=some (zA g)/\w.cell? (zB g j)=some u
theorem bY {g o:Nat} {u:Value}(h:w.cell? ⟨g,o,none⟩=some u):g<w.heap.size:=by
 unfold World.cell? at h;cases hh:w.heap[g]? with
 | none=>simp[hh]at h
 | some x=>exact(a0c.1 hh).1
theorem RVq.aC {us:List Value}(h:RVq w v us)(f:aB [] w w'):RVq w' v us:=by obtain⟨o,a,n,cap,m,l,k,c,i⟩:=h;refine⟨o,a,n,cap,m,l,k,c,λj u d=>?_⟩;obtain⟨g,e,b⟩:=i j u d;exact⟨g,e,(f.cell (p:=(zB g j)) (bY b) (by simp)).trans b⟩
def OV.rv {e:TypeId} {base:Nat} {xs:List Value}(h:OV e base w v xs)(c:xs.length<=140737488355328):RVq w v xs:=by
 rcases h.2 with⟨e,f⟩|⟨g,cap,cur,e,hb,i,a,rest⟩
 .subst e
  exact⟨c,none,0,0,rfl,f.symm,a0b _,.inl ⟨rfl,rfl⟩,λj u b=>by have:=(a0d.1 b).1;omega⟩
 subst e;refine⟨c,_,_,cap,rfl,rfl,a,.inr ⟨g,rfl⟩,λj u b=>⟨g,rfl,?_⟩⟩;have d:=World.ownsRow.cells h (g:=g) rfl j u b;rw[add0]at d;exact d
def j5:NF->Nat
 | .zero=>48
 | .one=>49
 | .set _=>115
 | .pair _ _=>99
 | .sum _=>97
 | .star _=>42
abbrev sM:Value:=.pointer none
abbrev AM:Value:=zN
mutual
def TN(w:World):Nat->NF->Prop
 | p,.zero=>TK w p 48 nF sM sM AM [48]
 | p,.one=>TK w p 49 nF sM sM AM [49]
 | p,.set s=>TK w p 115 (bl s) sM sM AM (name (.set s))
 | p,.pair x y=>∃a b,TK w p 99 nF (aM a) (aM b) AM (name (.pair x y))/\TN w a x/\TN w b y
 | p,.sum l=>∃v c,TK w p 97 nF sM sM v (name (.sum l))/\RVq w v (c.map aM)/\jC w c l
 | p,.star x=>∃a,TK w p 42 nF (aM a) sM AM (name (.star x))/\TN w a x
def jC(w:World):LN->List NF->Prop
 | [],[]=>True
 | p::a,x::l=>TN w p x/\jC w a l
 | _,_=>False
end
mutual
theorem TN.aC(f:aB [] w w'):∀{p:Nat} {x:NF},TN w p x->TN w' p x
 | p,.zero,h=>by simp only[TN]at h |-;exact h.aC f (by simp)
 | p,.one,h=>by simp only[TN]at h |-;exact h.aC f (by simp)
 | p,.set s,h=>by simp only[TN]at h |-;exact h.aC f (by simp)
 | p,.pair x y,h=>by simp only[TN]at h |-;obtain⟨a,b,d,c,e⟩:=h;exact⟨a,b,d.aC f (by simp),TN.aC f c,TN.aC f e⟩
 | p,.sum l,h=>by simp only[TN]at h |-;obtain⟨v,g,d,c,e⟩:=h;exact⟨v,g,d.aC f (by simp),c.aC f,jC.aC f e⟩
 | p,.star x,h=>by simp only[TN]at h |-;obtain⟨a,d,c⟩:=h;exact⟨a,d.aC f (by simp),TN.aC f c⟩
theorem jC.aC(f:aB [] w w'):∀{a:LN} {l:List NF},jC w a l->jC w' a l
 | [],[],_=>by simp only[jC]
 | p::a,x::l,h=>by simp only[jC]at h |-;exact⟨TN.aC f h.1,jC.aC f h.2⟩
 | [],_::_,h=>by simp only[jC]at h
 | _::_,[],h=>by simp only[jC]at h
end
def TN.node(h:TN w p x):∃L a b l,TK w p (j5 x) L a b l (name x):=by
 cases x with
 | zero=>simp only[TN]at h;exact⟨_,_,_,_,h⟩
 | one=>simp only[TN]at h;exact⟨_,_,_,_,h⟩
 | set s=>simp only[TN]at h;exact⟨_,_,_,_,h⟩
 | pair x y=>simp only[TN]at h;obtain⟨a,b,c,_⟩:=h;exact⟨_,_,_,_,c⟩
 | sum l=>simp only[TN]at h;obtain⟨v,d,c,_⟩:=h;exact⟨_,_,_,_,c⟩
 | star x=>simp only[TN]at h;obtain⟨a,c,_⟩:=h;exact⟨_,_,_,_,c⟩
theorem TN.kd(h:TN w p x):zC w p 0 (.int .u8 (j5 x)):=by obtain⟨_,_,_,_,a⟩:=h.node;exact a.c0
def TN.nm(h:TN w p x):zC w p 260 (zT (name x)):=by obtain⟨_,_,_,_,a⟩:=h.node;exact a.ends.2.2.2
theorem jC.len:∀{a:LN} {l:List NF},jC w a l->a.length=l.length
 | [],[],_=>rfl
 | p::a,x::l,h=>by simp only[jC]at h;simp[jC.len h.2]
 | [],_::_,h=>by simp only[jC]at h
 | _::_,[],h=>by simp only[jC]at h
def jC.get:∀{a:LN} {l:List NF},jC w a l->∀(j:Nat) (x:NF),l[j]?=some x->∃p,a[j]?=some p/\TN w p x
 | [],[],_,j,x,h=>by simp at h
 | p::a,y::l,h,0,x,b=>by simp only[jC]at h;simp at b;subst b;exact⟨p,rfl,h.1⟩
 | p::a,y::l,h,j+1,x,b=>by simp only[jC]at h;obtain⟨q,d,c⟩:=jC.get h.2 j x (by simpa using b);exact⟨q,by simpa using d,c⟩
 | [],_::_,h,_,_,_=>by simp only[jC]at h
 | _::_,[],h,_,_,_=>by simp only[jC]at h
theorem jC.app:∀{a b:LN} {l m:List NF},jC w a l->jC w b m->jC w (a++b) (l++m)
 | [],b,[],m,_,h=>h
 | p::a,b,x::l,m,h,k=>by simp only[jC,a0L]at h |-;exact⟨h.1,jC.app h.2 k⟩
 | [],_,_::_,_,h,_=>by simp only[jC]at h
 | _::_,_,[],_,h,_=>by simp only[jC]at h
theorem jC.take:∀{a:LN} {l:List NF} (k:Nat),jC w a l->jC w (a.take k) (l.take k)/\jC w (a.drop k) (l.drop k)
 | [],[],k,_=>by simp[jC]
 | p::a,x::l,0,h=>⟨by simp[jC],h⟩
 | p::a,x::l,k+1,h=>by simp only[jC]at h;have:=jC.take k h.2;simp only[a2J,List.drop_succ_cons,jC];exact⟨⟨h.1,this.1⟩,this.2⟩
 | [],_::_,_,h=>by simp only[jC]at h
 | _::_,[],_,h=>by simp only[jC]at h
def auF:(Tryz.zeroCells214.setIfInBounds 0 (.int .u8 48)).setIfInBounds 260 (.string ⟨#[48]⟩)=Km 48 nF sM sM AM [48]:=by kernel_rfl
def avS:(Tryz.zeroCells214.setIfInBounds 0 (.int .u8 49)).setIfInBounds 260 (.string ⟨#[49]⟩)=Km 49 nF sM sM AM [49]:=by kernel_rfl
theorem auG(q:Option Addr)(s:ByteArray):((Tryz.zeroCells214.setIfInBounds 0 (.int .u8 42)).setIfInBounds 257 (.pointer q)).setIfInBounds 260 (.string s)=Km 42 nF (.pointer q) sM AM s.data.toList:=by cases s;kernel_rfl
def pairT(q r:Option Addr)(s:ByteArray):(((Tryz.zeroCells214.setIfInBounds 0 (.int .u8 99)).setIfInBounds 257 (.pointer q)).setIfInBounds 258 (.pointer r)).setIfInBounds 260 (.string s)=Km 99 nF (.pointer q) (.pointer r) AM s.data.toList:=by cases s;kernel_rfl
def oQ(w:World):zF 132 #[] w λe w'=>∃p,e=zR (aM p)/\TN w' p .zero/\aB [] w w':=by
 delta zF;go_in
 go_wp2;go_ret;exact⟨w.heap.size,rfl,by simp only[TN];exact TK.of auF qQ,zJ⟩
def wO(w:World):zF 129 #[] w λe w'=>∃p,e=zR (aM p)/\TN w' p .one/\aB [] w w':=by
 delta zF;go_in
 go_wp2;go_ret;exact⟨w.heap.size,rfl,by simp only[TN];exact TK.of avS qQ,zJ⟩
def agT {b:NF}(h:aP b=true):(((j5 b:Nat):Int)==48)=false/\(((j5 b:Nat):Int)==49)=false:=by cases b<;>simp[aP]at h<;>simp[j5]
def zU(w:World)(x:NF)(e:Ending)(w':World):Prop:=∃p,e=zR (aM p)/\TN w' p x/\aB [] w w'
theorem MN(l:LB):(bs l).data.toList=l:=aor l
theorem TN.pair {pa pb:Nat} {a b:NF}(c:TN w pa a)(hb:TN w pb b)(hC:C=Km 99 nF (aM pa) (aM pb) AM (name (.pair a b))):TN (w.alloc (Obj.cells C 214)) w.heap.size (.pair a b):=by simp only[TN];exact⟨pa,pb,TK.of hC qQ,c.aC zJ,hb.aC zJ⟩
theorem ajE(a b:NF):name (.pair a b)=40::(name a++32::(name b++[41])):=by simp only[name]
def ThC(a:NF):Prop:=∀(b:NF) (w:World) (pa pb:Nat),TN w pa a->TN w pb b->wf a->wf b->nl (aG a b)<9223372036854775807 ->
 zF 127 #[aM pa,aM pb] w (zU w (aG a b))
theorem DT {a:NF}(hh:dP a=true):ThC a:=by
 intro b w pa pb A B z wb j;have T:=A.kd;have kb:=B.kd;have O:=A.nm;have nb:=B.nm;have i:(((j5 a:Nat):Int)==48)=false/\(((j5 a:Nat):Int)==49)=false/\(((j5 a:Nat):Int)==99)=false:=by cases a<;>simp[dP]at hh<;>simp[j5]
 obtain⟨t,r,q⟩:=i;have U:j5 a<256:=by cases a<;>simp[j5]
 unfold aM;cases g:aP b
 case false =>
  rcases fQ (by rw[g];simp) with h|h
  .subst h
   have N:=oQ w;have d:aG a .zero=.zero:=fJ a;rw[d];simp only[j5]at kb;generalize j5 a=c at *;delta zF;go_in
   go_wp2_with fail
   refine N.mono ?_;rintro e C ⟨p,rfl,P,F⟩;clear N;unfold aM;go_wp2;go_ret;exact⟨p,rfl,P,F⟩
  subst h;have d:aG a .one=a:=bF a;rw[d];simp only[j5]at kb;generalize j5 a=c at *;delta zF;go_in
  go_wp2;go_ret;exact⟨pa,rfl,A,zK⟩
 case true =>
  obtain⟨o,n⟩:=agT g;have m:j5 b<256:=by cases b<;>simp[j5]
  have d:=aX hh g;rw[d]at j |-;rw[Fb]at j;unfold nl at j;have Z:(⟨#[40]⟩:ByteArray)++bs (name a)=bs (40::name a):=mf [40] (name a);have Y:bs (40::name a)++⟨#[32]⟩=bs (40::name a++[32]):=mf (40::name a) [32];have X:bs (40::name a++[32])++bs (name b)=bs (40::name a++[32]++name b):=mf _ _;have V:bs (40::name a++[32]++name b)++⟨#[41]⟩=bs (40::name a++[32]++name b++[41]):=mf _ [41];have f:name (.pair a b)=40::name a++[32]++name b++[41]:=by rw[ajE];simp
  have s1:=bL (name a);have s2:(bs (40::name a)).size=(name a).length+1:=bL _;have G:(bs (40::name a++[32])).size=(name a).length+2:=by rw[bL];simp
  have E:=bL (name b);have D:(bs (40::name a++[32]++name b)).size=(name a).length+2+(name b).length:=by rw[bL];simp;omega
  have M:¬ (9223372036854775807<1+(name a).length):=by omega
  have L:¬ (9223372036854775807<(name a).length+1+1):=by omega
  have J:¬ (9223372036854775807<(name a).length+2+(name b).length):=by omega
  have I:¬ (9223372036854775807<(name a).length+2+(name b).length+1):=by omega
  have H:¬ (9223372036854775807<(name a).length+2):=by omega
  have PT:=(λ(s:ByteArray)=>pairT (some ⟨pa,0,none⟩) (some ⟨pb,0,none⟩) s);have fin:∀(W:World),aB [] w W->TN (W.alloc (Obj.cells ((((Tryz.zeroCells214.setIfInBounds 0 (.int .u8 99)).setIfInBounds 257 (.pointer (some ⟨pa,0,none⟩))).setIfInBounds 258 (.pointer (some ⟨pb,0,none⟩))).setIfInBounds 260 (.string (bs (40::name a++[32]++name b++[41])))) 214)) W.heap.size (.pair a b):=by intro W k;refine TN.pair (A.aC k) (B.aC k) ?_;rw[PT,MN,<-f];rfl
  generalize j5 a=c at *;generalize j5 b=l at *;generalize bs (40::name a++[32]++name b++[41])=u at *;generalize bs (40::name a++[32]++name b)=v at *;generalize bs (40::name a++[32])=x at *;generalize bs (40::name a)=y at *;generalize (name a).length=S at *;generalize (name b).length=R at *;clear PT f;delta zF;go_in
  go_wp2_with fail
  go_region
  go_wp2;go_ret;exact⟨_,rfl,fin _ zK.drew,(zK.drew).alloc _⟩
def agU:ThC .zero:=by
 intro b w pa pb a hb f wb h;have c:=a.kd;have N:=oQ w;have d:aG .zero b=.zero:=rfl;rw[d];simp only[j5]at c;clear a hb;unfold aM;delta zF;go_in
 go_wp2_with fail
 refine N.mono ?_;rintro e g ⟨p,rfl,P,F⟩;clear N;unfold aM;go_wp2;go_ret;exact⟨p,rfl,P,F⟩
def ajF:ThC .one:=by
 intro b w pa pb a B i wb k;have d:=a.kd;have kb:=B.kd;have h:aG .one b=b:=rfl;rw[h];simp only[j5]at d;clear a;unfold aM
 by_cases hz:b=.zero
 .subst hz
  have N:=oQ w;simp only[j5]at kb;delta zF;go_in
  go_wp2_with fail
  refine N.mono ?_;rintro e j ⟨p,rfl,P,F⟩;clear N;unfold aM;go_wp2;go_ret;exact⟨p,rfl,P,F⟩
 have g:(((j5 b:Nat):Int)==48)=false:=by
  cases b<;>simp[j5]
  exact absurd rfl hz
 have f:j5 b<256:=by cases b<;>simp[j5]
 generalize j5 b=c at *;delta zF;go_in
 go_wp2;go_ret;exact⟨pb,rfl,B,zK⟩
def agV {c d:NF}(hd:ThC d):ThC (.pair c d):=by
 intro b w pa pb j hb g wb n;have I:=j.kd;have kb:=hb.kd;have A:=aj j;have B:=aj hb;simp only[j5]at I;simp only[TN]at j;obtain⟨pc,E,x,y,v⟩:=j;obtain⟨r,m,_,_⟩:=x.ends;unfold aM at r m;have C:=aj y;have D:=aj v;clear hb y v x;cases l:aP b
 case false =>
  rcases fQ (by rw[l];simp) with h|h
  .subst h
   have N:=aj (oQ w);have i:Z_ (aG (.pair c d) .zero=.zero):=rfl;rw[i.o];simp only[j5]at kb;unfold aM;delta zF;go_in
   go_wp2_with fail
   refine(N.o).mono ?_;rintro e k ⟨p,rfl,f,a⟩;have P:=aj f;have F:=aj a;clear f a N;unfold aM;go_wp2;go_ret;exact⟨p,rfl,P,F⟩
  subst h;have i:Z_ (aG (.pair c d) .one=.pair c d):=rfl;rw[i.o];simp only[j5]at kb;unfold aM;delta zF;go_in
  go_wp2;go_ret;exact⟨pa,rfl,A,aB.refl _ _⟩
 case true =>
  obtain⟨M,L⟩:=agT l;have J:j5 b<256:=by cases b<;>simp[j5]
  have i:=aj (dA (c:=c) (d:=d) l);rw[i.o]at n |-;have u:=lY g.2.1 wb;have q:c≠.zero:=λe=>by have:=g.2.2.1;rw[e]at this;simp[dP]at this
  have R:=a2i (agy g.1 u q) n;have s:=aj (hd b w E pb D.o B.o g.2.1 wb R);have t:Z_ (∀(w':World) (p:Nat),aB [] w w'->TN w' p (aG d b)->zF 127 #[aM pc,aM p] w' (zU w' (aG c (aG d b)))):=λw' p a f=>DT g.2.2.1 (aG d b) w' pc p (C.o.aC a) f g.1 u n
  have CL:Z_ (∀w',aB [] w w'->zC w' pa 257 (zP pc)):=λw' a=>(a.cell (p:=(zB pa 257)) (bY r) (by simp)).trans r
  unfold aM at s t |-;generalize j5 b=H at *;delta zF;go_in
  go_wp2_with fail
  refine(s.o).mono ?_;rintro e k ⟨p,rfl,f,a⟩;have z:=aj (t.o k p a f);have O:=CL.o k a;have F:=aj a;clear f a s t CL;unfold aM;go_wp2_with fail
  refine(z.o).mono ?_;rintro e S ⟨G,rfl,f,a⟩;have P:=aj f;have F2:=aj (F.o.trans a);clear f a z F;unfold aM;go_wp2;go_ret;exact⟨G,rfl,P,F2⟩
def yP(a:NF):ThC a:=by
 refine NF.ind (P:=ThC) ?_ a;intro a b;cases a with
 | zero=>exact agU
 | one=>exact ajF
 | set s=>exact DT rfl
 | sum l=>exact DT rfl
 | star x=>exact DT rfl
 | pair c d=>exact agV (b d (by simp[NF.size];omega))
theorem ajG(a:NF)(w:World)(pa:Nat)(c:TN w pa a)(f:nl (iH a)<9223372036854775807) :
 Calls Tryz.prog 130 #[aM pa] w (zU w (iH a)):=by
 have b:=c.kd;have u:=c.nm;unfold aM;have E:=wO w;have one:∀k,(k=48\/k=49)->w.cell? ⟨pa,0,none⟩=some (.int .u8 (k:Nat))->Calls Tryz.prog 130 #[.pointer (some ⟨pa,0,none⟩)] w (zU w .one):=by
  intro k n h;clear b;rcases n with rfl|rfl
  all_goals
   go_in
   go_wp2_with fail
   refine E.mono ?_;rintro e r ⟨p,rfl,P,F⟩;unfold aM;go_wp2;go_ret;exact⟨p,rfl,P,F⟩
 have d:∀k,(((k:Nat):Int)==48)=false->(((k:Nat):Int)==49)=false->(((k:Nat):Int)==42)=false->k<256->iH a=.star a->w.cell? ⟨pa,0,none⟩=some (.int .u8 (k:Nat))->Calls Tryz.prog 130 #[.pointer (some ⟨pa,0,none⟩)] w (zU w (iH a)):=by
  intro k j i m v g h;rw[g]at f |-;rw[ZE]at f;unfold nl at f;have z:bs (name a)++⟨#[42]⟩=bs (name a++[42]):=mf _ [42];have s1:=bL (name a);have t:¬ (9223372036854775807<(name a).length+1):=by omega
  have fin:TN (w.alloc (Obj.cells (((Tryz.zeroCells214.setIfInBounds 0 (.int .u8 42)).setIfInBounds 257 (.pointer (some ⟨pa,0,none⟩))).setIfInBounds 260 (.string (bs (name a++[42])))) 214)) w.heap.size (.star a):=by show TN _ _ _;simp only[TN];refine⟨pa,TK.of ?_ qQ,c.aC zJ⟩;rw[auG,MN];simp only[name];rfl
  generalize bs (name a++[42])=q at *;clear b c g E one;go_in
  go_wp2;go_ret;exact⟨_,rfl,fin,zJ⟩
 cases a with
 | zero=>exact one 48 (.inl rfl) b
 | one=>exact one 49 (.inr rfl) b
 | set s=>exact d 115 rfl rfl rfl (by decide) rfl b
 | pair x y=>exact d 99 rfl rfl rfl (by decide) rfl b
 | sum l=>exact d 97 rfl rfl rfl (by decide) rfl b
 | star x =>
   have o:iH (.star x)=.star x:=rfl;rw[o];simp only[j5]at b;clear one d E;go_in
   go_wp2;go_ret;exact⟨pa,rfl,c,zK⟩
def NnC(x:NF):Prop:=∀(w:World) (p:Nat),TN w p x ->
 zF 131 #[aM p] w λe w'=>e=zR (.bool (dK x))/\w=w'
def arZ(l:List NF)(u:∀y∈l,NnC y):NnC (.sum l):=by
 intro w p h;have k0:=h.kd;simp only[j5]at k0;simp only[TN]at h;obtain⟨v,E,f,z,r⟩:=h;obtain⟨_,_,G,_⟩:=f.ends;obtain⟨m,av,n,cap,rfl,b,H,_,C⟩:=z;have hlen:=r.len;rw[a0y]at b m;have t:n=l.length:=b.trans hlen;subst t;rw[hlen]at m;clear f b hlen;unfold aM;delta zF;go_in
 go_wp2_with fail
 go_loopg [5] l.length (λk s wr=>∃(j:Nat),j+k=l.length/\s=zI j/\w=wr/\(l.take j).any dK=false)
 exact⟨0,by omega,rfl,rfl,rfl⟩
 .obtain⟨j,F,rfl,rfl,d⟩:=hrel
  by_cases A:j<l.length
  .obtain⟨x,a⟩:∃x,l[j]?=some x:=⟨l[j],a0a A⟩
   obtain⟨q,hq,o⟩:=r.get j x a;obtain⟨g,rfl,aO⟩:=C j (aM q) (by rw[a0Q,hq];rfl);have N:=u x (a0B a) w q o;have B:l.take (j+1)=l.take j++[x]:=by rw[a1c,a];rfl
   have c:x∈l:=a0B a;unfold aM at aO N;clear a hq o;go_wp2_with fail
   refine N.mono ?_;rintro e D ⟨rfl,rfl⟩;cases i:dK x
   .go_wp2
    go_roundg (gk-1)
    .refine⟨j+1,by omega,by go_num,rfl,?_⟩;rw[B,List.any_append,d];simp[i]
    omega
   have HR:dK (.sum l)=true:=by simp only[dK];rw[Fh,a1s];exact⟨x,c,i⟩
   go_wp2;go_ret;rw[HR];exact⟨rfl,rfl⟩
  have HR:dK (.sum l)=false:=by simp only[dK];rw[Fh];have:=d;rw[a0C (by omega)]at this;exact this
  go_wp2;go_ret;rw[HR];exact⟨rfl,rfl⟩
def ao3(x y:NF)(j:NnC x)(i:NnC y):NnC (.pair x y):=by
 intro w p h;have k0:=h.kd;simp only[j5]at k0;simp only[TN]at h;obtain⟨a,b,d,f,hb⟩:=h;obtain⟨k,c,_⟩:=d.ends;have A:=j w a f;have B:=i w b hb;have HR:dK (.pair x y)=(dK x&&dK y):=by simp only[dK]
 unfold aM at k c A B |-;clear d f hb;delta zF;go_in
 go_wp2_with fail
 refine A.mono ?_;rintro e g ⟨rfl,rfl⟩;go_wp2_with fail
 refine B.mono ?_;rintro e g ⟨rfl,rfl⟩;cases l:dK x
 all_goals
  go_wp2;go_ret;rw[HR,l];exact⟨by first | rfl|simp,rfl⟩
def Sg {r:Bool}(a:j5 x=k)(b:dK x=r)(h:∀(w:World) (p:Nat),zC w p 0 (.int .u8 (k:Nat))->zF 131 #[zP p] w λe w'=>e=zR (.bool r)/\w=w'):NnC x:=by intro w p ht;have k0:=ht.kd;rw[a]at k0;rw[b];exact h w p k0
def ajH(x:NF):NnC x:=by
 refine NF.ind (P:=NnC) ?_ x;intro x c;cases x with
 | zero=>exact Sg (k:=48) (r:=false) rfl (by simp only[dK]) (λw p k0=>by
    delta zF;go_in
    go_wp2;go_ret;exact⟨rfl,rfl⟩)
 | one=>exact Sg (k:=49) (r:=true) rfl (by simp only[dK]) (λw p k0=>by
    delta zF;go_in
    go_wp2;go_ret;exact⟨rfl,rfl⟩)
 | set s=>exact Sg (k:=115) (r:=false) rfl (by simp only[dK]) (λw p k0=>by
    delta zF;go_in
    go_wp2;go_ret;exact⟨rfl,rfl⟩)
 | star a=>exact Sg (k:=42) (r:=true) rfl (by simp only[dK]) (λw p k0=>by
    delta zF;go_in
    go_wp2;go_ret;exact⟨rfl,rfl⟩)
 | pair a b=>exact ao3 a b (c a (by simp[NF.size];omega)) (c b (by simp[NF.size];omega))
 | sum l=>exact arZ l (λy d=>c y (by have:=dx d;simp[NF.size];omega))
def avV(s:Nat)(z:ByteArray):Tryz.prog.built 214 [(0,.int .u8 115),(1,.agg ((bl s).map Value.bool).toArray),(5,.string z)]=some (Km 115 (bl s) sM sM AM z.data.toList):=by cases z;kernel_rfl
def SC(w:World)(b:Nat)(t:LB)(i:Nat):Prop :=
 w.heap[b]?=some (.cells #[zT t,zI i] 217 (0,0))/\i<=t.length/\t.length<=1048576
theorem SC.c0(h:SC w b t i):zC w b 0 (zT t):=by simp[World.cell?,h.1]
theorem SC.c1(h:SC w b t i):zC w b 1 (zI i):=by simp[World.cell?,h.1]
theorem SC.fz(h:SC w b t i)(o:Nat):w.frozen? (zB b o)=false:=by simp[World.frozen?,h.1]
theorem SC.lt(h:SC w b t i):b<w.heap.size :=
 (a0c.1 h.1).1
theorem SC.aC(h:SC w b t i)(f:aB S w w')(a:b∉S):SC w' b t i :=
 ⟨(f.block b h.lt a).trans h.1,h.2⟩
theorem SC.drew(h:SC w b t i):SC w.drew b t i:=h
theorem SC.drewN(n:Nat)(h:SC w b t i):SC (w.drewN n) b t i:=h
theorem SC.set(h:SC w b t i)(j:Nat)(a:j<=t.length):SC (w.setCell (zB b 1) (zI j)) b t j:=by refine⟨?_,a,h.2.2⟩;simp[World.setCell,a0v,h.1]
def At(w:World)(b:Nat)(t l:LB):Prop:=∃i,SC w b t i/\t.drop i=l
theorem At.aC{l:LB}(h:At w b t l)(f:aB S w w')(a:b∉S):At w' b t l:=by obtain⟨i,d,c⟩:=h;exact⟨i,d.aC f a,c⟩
theorem At.lt{l:LB}(h:At w b t l):b<w.heap.size:=by obtain⟨i,a,_⟩:=h;exact a.lt
def mR(c:Int):Bool:=decide (32<=c)&&decide (c<=126)
def Ba(c:Int)(w:World) :
 zF 113 #[.int .u8 c] w λe w'=>e=zR (.bool (mR c))/\w=w':=by
 delta zF;go_in
 go_wp2
 all_goals go_ret
 all_goals exact⟨dD (by simp[mR, *]<;>omega),rfl⟩
def kQ(b:Nat)(t l:LB)(w:World)(h:At w b t l) :
 zF 133 #[zP b] w λe w'=>e=zR (.int .u8 (hd l))/\∃n,w'=w.drewN n:=by
 obtain⟨i,a,c⟩:=h;have c0:=a.c0;have c1:=a.c1;have k:=a.2.1;have ht:=a.2.2;have g:=bL t
 by_cases f:i<t.length
 .have d:hd l=(t[i].toNat:Int):=by rw[<-c];exact EP t i f
  have j:=arI t i (by rw[g];exact f);clear c a;delta zF;go_in
  go_wp2;go_quiet (fail)
  go_wp2;go_quiet (fail)
  go_wp2;go_ret;exact⟨mJ d.symm,_,yD _ _ _⟩
 have d:hd l=0:=by rw[<-c,a0i (by omega)];rfl
 clear c a;delta zF;go_in
 go_wp2;go_quiet (fail)
 go_wp2;go_ret;exact⟨mJ d.symm,_,rfl⟩
def Z6(b:Nat)(t l:LB)(w:World)(h:At w b t l) :
 zF 107 #[zP b] w λe w'=>e=zR (.bool l.isEmpty)/\∃n,w'=w.drewN n:=by
 obtain⟨i,a,c⟩:=h;have c0:=a.c0;have c1:=a.c1;have f:=a.2.1;have ht:=a.2.2;have g:=bL t;have d:l.isEmpty=decide (t.length<=i):=by show l.isEmpty=decide (t.length<=i);rw[<-c,a0T];simp
 clear c a;delta zF;go_in
 go_wp2;go_quiet (fail)
 go_wp2;go_ret;exact⟨dD d.symm,_,rfl⟩
def aQ(wd l:LB):Bool:=wd.isPrefixOf l
def aK(wd l:LB):LB:=if wd.isPrefixOf l then l.drop wd.length else l
theorem WH(t wd:LB)(i:Nat)(h:i+wd.length<=t.length):(List.drop i (List.take (i+wd.length) t)==wd)=wd.isPrefixOf (t.drop i):=by rw[a0T,a2y,a0W,List.prefix_iff_eq_take,List.drop_take,Nat.add_sub_cancel_left];exact eq_comm
def gX(b:Nat)(t l wd:LB)(w:World)(h:At w b t l)(q:wd.length<=1048576) :
 zF 105 #[zP b,zT wd] w λe w'=>e=zR (.bool (aQ wd l))/\At w' b t (aK wd l)/\aB [b] w w':=by
 obtain⟨i,c,k⟩:=h;have c0:=c.c0;have c1:=c.c1;have u:=c.fz 1;have s:=c.2.1;have ht:=c.2.2;have v:=bL t;have n:=bL wd;have p:=tF t;have r:=aT;have j:SC w b t i:=c;have f:List.drop i t=l:=k;clear c k
 by_cases g:i+wd.length<=t.length
 .have o:decide ((t.length:Int)<(i:Int)+(wd.length:Int))=false:=by simp;omega
  have m:decide (t.length<i+wd.length)=false:=by simp;omega
  cases d:wd.isPrefixOf l
  .have he:(List.drop i (List.take (i+wd.length) t)==wd)=false:=by rw[WH t wd i g,f,d]
   have a:wd.isPrefixOf l=false:=d;clear d;delta zF;go_in
   go_wp2;go_quiet (fail)
   go_wp2;go_ret;exact⟨dD (by simp[aQ,a]),⟨i,j.drewN _,by simp[aK,a,f]⟩,zK.drewN _⟩
  have he:(List.drop i (List.take (i+wd.length) t)==wd)=true:=by rw[WH t wd i g,f,d]
  have a:wd.isPrefixOf l=true:=d;clear d;delta zF;go_in
  go_wp2;go_quiet (fail)
  go_wp2;go_ret;refine⟨dD (by simp[aQ,a]),⟨i+wd.length,?_,by unfold aK;rw[a0m a,<-f,a2Z]⟩,?_⟩
  .exact(j.drewN _).set _ g
  exact(zK.drewN _).setCell (by simp) _
 have o:decide ((t.length:Int)<(i:Int)+(wd.length:Int))=true:=by simp;omega
 have m:decide (t.length<i+wd.length)=true:=by simp;omega
 have a:wd.isPrefixOf l=false:=by show wd.isPrefixOf l=false;rw[a2p];intro h;have:=(a2y.1 h).length_le;rw[<-f,a2F]at this;omega
 delta zF;go_in
 go_wp2;go_quiet (fail)
 go_wp2;go_ret;exact⟨dD (by simp[aQ,a]),⟨i,j.drewN _,by simp[aK,a,f]⟩,zK.drewN _⟩
open Go.RowKit
def MP {p:UInt8->Bool}:∀(a r:LB),a.all p=true->(∀c r',r=c::r'->p c=false)->(a++r).takeWhile p=a/\(a++r).dropWhile p=r
 | [],r,_,h=>by
   cases r with
   | nil=>simp
   | cons c r'=>simp[h c r' rfl]
 | x::a,r,b,h=>by simp only[a1P,a0O]at b;have:=MP a r b.2 h;simp[b.1,this.1,this.2]
theorem ajI(t:LB)(i j:Nat)(h:i<=j)(a:j<=t.length):t.drop i=(t.take j).drop i++t.drop j:=by
 conv=>lhs;rw[<-a1C j t]
 rw[a1N (by simp;omega)]
theorem SC.at(h:SC w b t i):At w b t (t.drop i):=⟨i,h,rfl⟩
def vC(b:Nat)(t l:LB)(w:World)(h:At w b t l) :
 zF 106 #[zP b] w λe w'=>e=zQ #[zT (l.takeWhile bK),.bool (aJ (l.takeWhile bK))]/\At w' b t (l.dropWhile bK)/\aB [b] w w':=by
 obtain⟨i,f,s⟩:=h;have c1:=f.c1;have C:=f.2.1;have ht:=f.2.2;have A:SC w b t i:=f;have z:List.drop i t=l:=s;clear f s;delta zF;go_in
 go_wp2;go_loopg [] (t.length-i) (λk wr=>∃j,j+k=t.length/\i<=j/\SC wr b t j/\((t.take j).drop i).all bK=true/\aB [b] w wr)
 exact⟨i,by omega,by omega,A,by rw[a0i (by simp;omega)];rfl,zK⟩
 .obtain⟨j,B,y,d,q,u⟩:=hrel;clear c1;have c0:=d.c0;have c1:=d.c1;have D:=d.fz 1;have g:SC wr b t j:=d;have v:aB [b] w wr:=u;have o:((t.take j).drop i).all bK=true:=q;clear d q u;cases a:Uy (hd (t.drop j))
  .have m:l.takeWhile bK=(t.take j).drop i/\l.dropWhile bK=t.drop j:=by rw[<-z,ajI t i j y (by omega)];refine MP _ _ o ?_;intro c r' e;rw[e]at a;exact a
   have x:l.takeWhile bK=(t.take j).drop i/\l.dropWhile bK=t.drop j:=m;clear m;have r:=tF t;have E:=bL t;go_wp2_with (first | (go_at_call 133;refine(kQ _ _ _ _ g.at).mono ?_;rintro e w' ⟨rfl,n,rfl⟩)|(go_at_call 119;refine(vN _ _).mono ?_;rintro e w' ⟨rfl,rfl⟩))
   go_quiet (fail)
   go_wp2_with (go_at_call 94;refine(JR _ _ (by simp;omega)).mono ?_;rintro e w' ⟨rfl,rfl⟩)
   go_ret2;rw[x.1,x.2];exact⟨rfl,(g.drewN _).at,v.drewN _⟩
  have p:j<t.length:=by
   by_cases r:j<t.length
   .exact r
   rw[a0i (by omega)]at a;cases a
  go_wp2_with (first | (go_at_call 133;refine(kQ _ _ _ _ g.at).mono ?_;rintro e w' ⟨rfl,n,rfl⟩)|(go_at_call 119;refine(vN _ _).mono ?_;rintro e w' ⟨rfl,rfl⟩))
  go_roundg (gk-1)
  .refine⟨j+1,by omega,by omega,?_,?_,?_⟩
   .exact(g.drewN _).set (j+1) (by omega)
   .rw[a0F p,a1N (by simp;omega),a2c,o]
    rw[EP t j p]at a;simp[bK,a]
   exact(v.drewN _).setCell (by simp) _
  omega
def gK(l:LB):UInt8 × Bool × LB :=
 match l with
 | []=>(0,false,[])
 | c::r=>if nG c then (c-48,true,r) else if 97<=c/\c<=102 then (c-97+10,true,r) else (0,false,c::r)
def u8i(c:UInt8):(0:Int)<=c.toNat/\(c.toNat:Int)<=255:=by have:=c.toNat_lt;omega
def ajJ {k:IntKind} {x y:Int} {p q:Bool}(h:x=y)(a:p=q):Ending.returned (.tuple #[.int k x,.bool p])=zQ #[.int k y,.bool q]:=by rw[h,a]
def at_set{l:LB} {c:UInt8}(f:SC w b t i)(a:t.drop i=c::r):At (w.setCell (zB b 1) (zI (i+1))) b t r:=by
 have d:i<t.length:=by
  by_cases e:i<t.length
  .exact e
  rw[a0i (by omega)]at a;cases a
 refine⟨i+1,f.set (i+1) d,?_⟩;have:=congrArg List.tail a;rw[List.tail_drop]at this;exact this
def at_len {c:UInt8}(a:t.drop i=c::r):i<t.length:=by
 by_cases b:i<t.length
 .exact b
 rw[a0i (by omega)]at a;cases a
def DU(b:Nat)(t l:LB)(w:World)(h:At w b t l) :
 zF 188 #[zP b] w λe w'=>e=zQ #[.int .u8 ((gK l).1.toNat),.bool (gK l).2.1]/\At w' b t (gK l).2.2/\aB [b] w w':=by
 obtain⟨i,a,j⟩:=h;have c1:=a.c1;have y:=a.fz 1;have x:=a.2.1;have ht:=a.2.2;have f:Z_ (SC w b t i):=a;have d:Z_ (List.drop i t=l):=j;clear a j;cases l with
 | nil =>
   have v:lW (hd [])=false:=rfl;have A:hd []=0:=rfl;delta zF;go_in
   go_wp2_with (first | (go_at_call 133;refine(kQ _ _ _ _ ⟨i,f,d⟩).mono ?_;rintro e w' ⟨rfl,n,rfl⟩)|(go_at_call 118;refine(iT _ _).mono ?_;rintro e w' ⟨rfl,rfl⟩))
   go_ret2;exact⟨rfl,⟨i,f.o.drewN _,d⟩,zK.drewN _⟩
 | cons c r =>
   have z:=JQ c r;have u:=u8i c;have q:i<t.length:=at_len d;cases hd:lW (c.toNat:Int)
   .by_cases m:97<=(c.toNat:Int)/\(c.toNat:Int)<=102
    .obtain⟨B,k⟩:=m
     have g:Z_ (gK (c::r)=(c-97+10,true,r)):=by show gK (c::r)=(c-97+10,true,r);unfold gK;simp only[nG,hd];rw[a0n (by simp),a0m (by constructor<;>(rw[a1p];simp;omega))]
     delta zF;go_in
     go_wp2_with (first | (go_at_call 133;refine(kQ _ _ _ _ ⟨i,f,d⟩).mono ?_;rintro e w' ⟨rfl,n,rfl⟩)|(go_at_call 118;refine(iT _ _).mono ?_;rintro e w' ⟨rfl,rfl⟩))
     go_ret2;rw[g.o];refine⟨ajJ ?_ rfl,at_set (l:=r) (f.o.drewN _) d,(zK.drewN _).setCell (by simp) _⟩;have:(c-97).toNat=c.toNat-97:=a3a _ _ (by rw[a1p];simp;omega);rw[UInt8.toNat_add,this];simp;omega
    have g:Z_ (gK (c::r)=(0,false,c::r)):=by show gK (c::r)=(0,false,c::r);unfold gK;simp only[nG,hd];rw[a0n (by simp),a0n];rintro⟨a,j⟩;rw[a1p]at a j;simp at a j;omega
    delta zF;go_in
    go_wp2_with (first | (go_at_call 133;refine(kQ _ _ _ _ ⟨i,f,d⟩).mono ?_;rintro e w' ⟨rfl,n,rfl⟩)|(go_at_call 118;refine(iT _ _).mono ?_;rintro e w' ⟨rfl,rfl⟩))
    all_goals first | (exfalso;omega)|skip
    all_goals
     go_ret2;rw[g.o];exact⟨rfl,⟨i,f.o.drewN _,d⟩,zK.drewN _⟩
   have hb:48<=(c.toNat:Int)/\(c.toNat:Int)<=57:=by simpa[lW] using hd
   obtain⟨p,s⟩:=hb;have g:Z_ (gK (c::r)=(c-48,true,r)):=by show gK (c::r)=(c-48,true,r);unfold gK;simp only[nG,hd];rw[a0m trivial]
   delta zF;go_in
   go_wp2_with (first | (go_at_call 133;refine(kQ _ _ _ _ ⟨i,f,d⟩).mono ?_;rintro e w' ⟨rfl,n,rfl⟩)|(go_at_call 118;refine(iT _ _).mono ?_;rintro e w' ⟨rfl,rfl⟩))
   go_ret2;rw[g.o];refine⟨ajJ ?_ rfl,at_set (l:=r) (f.o.drewN _) d,(zK.drewN _).setCell (by simp) _⟩;have:(c-48).toNat=c.toNat-48:=a3a _ _ (by rw[a1p];simp;omega);rw[this];omega
def Ex(l:LB):UInt8 × Bool × LB :=
 let a:=gK l
 let d:=gK a.2.2
 (a.1*16+d.1,a.2.1&&d.2.1,d.2.2)
def ac7(l:LB):(gK l).1.toNat<=15:=by
 unfold gK;cases l with
 | nil=>simp
 | cons c r =>
   dsimp only
   by_cases h:nG c=true
   .rw[a0m h]
    have hb:48<=(c.toNat:Int)/\(c.toNat:Int)<=57:=by simpa[nG,lW] using h
    have:(c-48).toNat=c.toNat-48:=a3a _ _ (by rw[a1p];simp;omega);simp only[this];omega
   rw[a0n h]
   by_cases a:97<=c/\c<=102
   .rw[a0m a]
    obtain⟨d,b⟩:=a;rw[a1p]at d b;simp at d b;have:(c-97).toNat=c.toNat-97:=a3a _ _ (by rw[a1p];simp;omega);simp only[UInt8.toNat_add,this];simp;omega
   rw[a0n a];simp
def U7(b:Nat)(t l:LB)(w:World)(h:At w b t l) :
 zF 177 #[zP b] w λe w'=>e=zQ #[.int .u8 ((Ex l).1.toNat),.bool (Ex l).2.1]/\At w' b t (Ex l).2.2/\aB [b] w w':=by
 have H:At w b t l:=h;clear h;delta zF;go_in
 go_wp2_with fail
 refine(DU _ _ _ _ H).mono ?_;rintro e r ⟨rfl,g,i⟩;go_wp2_with fail
 refine(DU _ _ _ _ g).mono ?_;rintro e c ⟨rfl,f,j⟩;have u:=u8i (gK l).1;have s:=u8i (gK (gK l).2.2).1;have k:=ac7 l;have m:=ac7 (gK l).2.2;have o:Ex l=((gK l).1*16+(gK (gK l).2.2).1,(gK l).2.1&&(gK (gK l).2.2).2.1,(gK (gK l).2.2).2.2):=rfl;have q:At c b t (gK (gK l).2.2).2.2:=f;have p:aB [b] w c:=i.trans j;clear g i f j;generalize gK (gK l).2.2=d at *;generalize gK l=a at *;obtain⟨z,n,y⟩:=a;obtain⟨d1,x,v⟩:=d;cases n
 all_goals
  go_wp2;go_ret2;rw[o];refine⟨ajJ ?_ (by simp),q,p⟩;rw[UInt8.toNat_add,UInt8.toNat_mul];simp;omega
def pF(l:LB):UInt8 × Bool × LB :=
 if aQ [92,34] l then (34,true,aK [92,34] l)
 else if aQ [92,92] l then (92,true,aK [92,92] l)
 else if aQ [92,120] l then Ex (aK [92,120] l)
 else match l with
  | []=>(0,false,[])
  | c::r=>if !(mR c.toNat)||c==92 then (0,false,c::r) else (c,true,r)
theorem jL {wd l:LB}(h:aQ wd l=false):aK wd l=l:=by unfold aQ at h;unfold aK;rw[h];simp
def PU(b:Nat)(t l:LB)(w:World)(h:At w b t l) :
 zF 163 #[zP b] w λe w'=>e=zQ #[.int .u8 ((pF l).1.toNat),.bool (pF l).2.1]/\At w' b t (pF l).2.2/\aB [b] w w':=by
 have H:At w b t l:=h;clear h;go_enter Tryz.func163,Tryz.ntmps163
 go_wp2_with fail
 refine(gX b t l [92,34] _ H (by simp)).mono ?_;rintro e q ⟨rfl,m,x⟩;cases u:aQ [92,34] l
 case true =>
  have a:pF l=(34,true,aK [92,34] l):=by show pF l=_;unfold pF;rw[u];rfl
  have z:At q b t (aK [92,34] l)/\aB [b] w q:=⟨m,x⟩;clear m x;go_wp2;go_ret2;rw[a];exact⟨rfl,z.1,z.2⟩
 case false =>
 rw[jL u]at m;have z:At q b t l:=m;have S:aB [b] w q:=x;have y:aQ [92,34] l=false:=u;clear m x;go_wp2_with fail
 refine(gX b t l [92,92] _ z (by simp)).mono ?_;rintro e C ⟨rfl,k,P⟩;have J:aB [b] w C:=S.trans P;clear P u;cases A:aQ [92,92] l
 case true =>
  have a:pF l=(92,true,aK [92,92] l):=by show pF l=_;unfold pF;rw[y,A];rfl
  have G:At C b t (aK [92,92] l):=k;clear k;go_wp2;go_ret2;rw[a];exact⟨rfl,G,J⟩
 case false =>
 rw[jL A]at k;have G:At C b t l:=k;have E:aQ [92,92] l=false:=A;clear k;go_wp2_with fail
 refine(gX b t l [92,120] _ G (by simp)).mono ?_;rintro e B ⟨rfl,v,O⟩;have p:aB [b] w B:=J.trans O;clear O A;cases s:aQ [92,120] l
 case true =>
  have a:pF l=Ex (aK [92,120] l):=by show pF l=_;unfold pF;rw[y,E,s];rfl
  have V:At B b t (aK [92,120] l):=v;clear v;go_wp2_with fail
  refine(U7 b t _ _ V).mono ?_;rintro e I ⟨rfl,N,L⟩;have U:At I b t (Ex (aK [92,120] l)).2.2:=N;have F:aB [b] w I:=p.trans L;clear N L;go_wp2;go_ret2;rw[a];exact⟨rfl,U,F⟩
 case false =>
 rw[jL s]at v;have R:aQ [92,120] l=false:=s;obtain⟨i,j,M⟩:=v;have c1:=j.c1;have hf:=j.fz 1;have Z:=j.2.1;have ht:=j.2.2;have f:SC B b t i:=j;have d:List.drop i t=l:=M;clear j M s;cases l with
 | nil =>
   have Y:mR 0=false:=rfl;have h0:hd []=0:=rfl;go_wp2_with (first | (go_at_call 133;refine(kQ _ _ _ _ ⟨i,f,d⟩).mono ?_;rintro e w' ⟨rfl,n,rfl⟩)|(go_at_call 113;refine(Ba _ _).mono ?_;rintro e w' ⟨rfl,rfl⟩))
   go_ret2;exact⟨rfl,⟨i,f.drewN _,d⟩,p.drewN _⟩
 | cons c r =>
   have hc:=JQ c r;have X:=u8i c;have W:i<t.length:=at_len d
   by_cases D:mR c.toNat=true/\((c.toNat:Int)==92)=false
   .obtain⟨g,o⟩:=D
    have a:pF (c::r)=(c,true,r):=by
     show pF (c::r)=_;unfold pF;rw[y,E,R];have:(c==92)=false:=by rw[a0j]at o |-;intro e;subst e;exact o rfl
     simp[g,this]
    go_wp2_with (first | (go_at_call 133;refine(kQ _ _ _ _ ⟨i,f,d⟩).mono ?_;rintro e w' ⟨rfl,n,rfl⟩)|(go_at_call 113;refine(Ba _ _).mono ?_;rintro e w' ⟨rfl,rfl⟩))
    go_ret2;rw[a];exact⟨rfl,at_set (l:=r) (f.drewN _) d,(p.drewN _).setCell (by simp) _⟩
   have a:pF (c::r)=(0,false,c::r):=by
    show pF (c::r)=_;unfold pF;rw[y,E,R]
    by_cases g:mR c.toNat=true
    .have o:c=92:=by
      by_cases e:c=92
      .exact e
      exact absurd ⟨g,a0j.2 (λh=>e (a1w.1 (by simpa using(a2N.1 h))))⟩ D
     simp[o]
    simp[g]
   have T:mR c.toNat=false\/((c.toNat:Int)==92)=true:=by cases m:mR c.toNat<;>cases k:((c.toNat:Int)==92)<;>simp_all
   clear D;rcases T with g|o
   .go_wp2_with (first | (go_at_call 133;refine(kQ _ _ _ _ ⟨i,f,d⟩).mono ?_;rintro e w' ⟨rfl,n,rfl⟩)|(go_at_call 113;refine(Ba _ _).mono ?_;rintro e w' ⟨rfl,rfl⟩))
    go_ret2;rw[a];exact⟨rfl,⟨i,f.drewN _,d⟩,p.drewN _⟩
   cases g:mR c.toNat
   all_goals
    go_wp2_with (first | (go_at_call 133;refine(kQ _ _ _ _ ⟨i,f,d⟩).mono ?_;rintro e w' ⟨rfl,n,rfl⟩)|(go_at_call 113;refine(Ba _ _).mono ?_;rintro e w' ⟨rfl,rfl⟩))
    go_ret2;rw[a];exact⟨rfl,⟨i,f.drewN _,d⟩,p.drewN _⟩
def tZ:Nat->LB->LB->LB × Bool × LB
 | 0,_,l=>([],false,l)
 | n+1,acc,l =>
   if aQ [34] l then (acc,true,aK [34] l)
   else if !(pF l).2.1||decide (40<=acc.length) then ([],false,(pF l).2.2)
   else tZ n (acc++[(pF l).1]) (pF l).2.2
def qm(l:LB):LB × Bool × LB :=
 if aQ [34] l then tZ (l.length+1) [] (aK [34] l) else ([],false,l)
def amN(wd l:LB):(aK wd l).length<=l.length:=by unfold aK;split<;>simp
def Z8(l:LB):(gK l).2.2.length<=l.length:=by
 unfold gK;cases l with
 | nil=>simp
 | cons c r =>
   dsimp only
   split
   .simp
   split<;>simp
def ajK(l:LB):(Ex l).2.2.length<=l.length:=a0h (Z8 _) (Z8 _)
def PV {wd l:LB}(h:aQ wd l=true):(aK wd l).length+wd.length=l.length:=by unfold aQ at h;have:=(a2y.1 h).length_le;unfold aK;rw[a0m h];simp;omega
def ao4(l:LB)(h:(pF l).2.1=true):(pF l).2.2.length<l.length:=by
 unfold pF at h |-
 by_cases d:aQ [92,34] l=true
 .rw[a0m d];have:=PV d;simp at this |-;omega
 rw[a0n d]at h |-
 by_cases b:aQ [92,92] l=true
 .rw[a0m b];have:=PV b;simp at this |-;omega
 rw[a0n b]at h |-
 by_cases a:aQ [92,120] l=true
 .rw[a0m a];have:=PV a;have:=ajK (aK [92,120] l);simp at *;omega
 rw[a0n a]at h |-;cases l with
 | nil=>simp at h
 | cons c r =>
   dsimp only at h |-
   split at h
   .simp at h
   rename_i e;rw[a0n e];simp
def Z9(b:Nat)(t l:LB)(w:World)(h:At w b t l) :
 zF 150 #[zP b] w λe w'=>e=zQ #[.string (bs (qm l).1),.bool (qm l).2.1]/\At w' b t (qm l).2.2/\aB [b] w w':=by
 have hb:=h.lt;have H:At w b t l:=h;clear h;obtain⟨i0,hi,gT,fM,gD⟩:=info_parts ak6;delta zF;go_in
 go_wp2_with fail
 refine(gX b t l [34] _ H (by simp)).mono ?_;rintro e C ⟨rfl,q,r⟩;cases J:aQ [34] l
 case false =>
  have s:qm l=([],false,l):=by show qm l=_;unfold qm;rw[J];rfl
  rw[jL J]at q;have B:At C b t l/\aB [b] w C:=⟨q,r⟩;clear q r;go_wp2;go_ret2;rw[s];exact⟨rfl,B.1,B.2⟩
 case true =>
 have s:qm l=tZ (l.length+1) [] (aK [34] l):=by show qm l=_;unfold qm;rw[J];rfl
 have nC:=r.size;have B:At C b t (aK [34] l)/\aB [b] w C:=⟨q,r⟩;clear q r;go_wp2_with fail
 go_loopg [4] (l.length+1) (λk v wr=>∃acc a g cap,v=zS g acc.length cap/\wr.ownsRow w.heap.size 5 1 v acc.length (tT acc)/\acc.length<=40/\a.length<k/\tZ k acc a=tZ (l.length+1) [] (aK [34] l)/\At wr b t a/\aB [b] w wr)
 case atStart=>refine⟨[],aK [34] l,_,_,rfl,?_,by simp,Nat.lt_succ_of_le (amN _ _),rfl,B.1.aC zG (by simp),B.2.alloc _⟩;exact World.ownsRow_lit _ #[] 0 nC (by unfold maxLen;omega) (by simp)
 case round =>
  obtain⟨acc,a,g,cap,rfl,aS,Yf,PW,W,Z,bH⟩:=hrel;have R:wr.ownsRow w.heap.size 5 1 (zS g acc.length cap) acc.length (tT acc):=aS;have y:tZ gk acc a=tZ (l.length+1) [] (aK [34] l):=W;have Ha:At wr b t a:=Z;have T:aB [b] w wr:=bH;clear aS W Z bH;obtain⟨m,rfl⟩:∃m,gk=m+1:=⟨gk-1,by omega⟩;go_wp2_with fail
  refine(gX b t a [34] _ Ha (by simp)).mono ?_;rintro e d ⟨rfl,p,i⟩;cases G:aQ [34] a
  case true =>
   have o:qm l=(acc,true,aK [34] a):=by show qm l=_;rw[s,<-y];unfold tZ;rw[G];rfl
   have A:At d b t (aK [34] a)/\aB [b] w d:=⟨p,T.trans i⟩;have U9:=fG R i (by simp;omega);have hlen:acc.length=(acc).length:=rfl;have hcv:=run_convert_bytes_back (P:=Tryz.prog) d 91 9 5 (zA g) cap acc Tryz.underlying91 Tryz.underlying5 Tryz.underlying9 (λj hj=>by refine U9.cells rfl j _ ?_;simp[tT,hj])
   clear p i U9;go_wp2;go_ret2;rw[o];exact⟨rfl,A.1,A.2⟩
  case false =>
  rw[jL G]at p;have A:At d b t a:=p;have U:aB [b] w d:=T.trans i;have z:d.ownsRow w.heap.size 5 1 (zS g acc.length cap) acc.length (tT acc):=fG R i (by simp;omega);have E:aQ [34] a=false:=G;clear p i Ha T R;go_wp2_with fail
  refine(PU b t a _ A).mono ?_;rintro e n ⟨rfl,Y,M⟩;have F:At n b t (pF a).2.2:=Y;have D:aB [b] w n:=U.trans M;have c:n.ownsRow w.heap.size 5 1 (zS g acc.length cap) acc.length (tT acc):=fG z M (by simp;omega);have Sk:=D.size;clear Y M A U z G;cases f:(pF a).2.1
  case false =>
   have o:qm l=([],false,(pF a).2.2):=by show qm l=_;rw[s,<-y];unfold tZ;rw[E,f];rfl
   go_wp2;go_ret2;rw[o];exact⟨rfl,F,D⟩
  case true =>
  have Af:=ao4 a f
  by_cases Eu:40<=acc.length
  .have o:qm l=([],false,(pF a).2.2):=by show qm l=_;rw[s,<-y];unfold tZ;rw[E,f];simp[Eu]
   go_wp2;go_ret2;rw[o];exact⟨rfl,F,D⟩
  have u:tZ m (acc++[(pF a).1]) (pF a).2.2=tZ (l.length+1) [] (aK [34] l):=by
   show tZ m (acc++[(pF a).1]) (pF a).2.2=_;rw[<-y];conv=>rhs;unfold tZ
   rw[E,f];simp[Eu]
  clear y E;generalize hsv:pF a=x at *;obtain⟨I,x2,x3⟩:=x;simp only at f Af u F;subst f;have O:=c;go_wp2_with (first | (at_builtin;refine wpList_append_own _ rfl _ _ 91 rfl w.heap.size 5 i0 (.int .u8 0) 1 1 Tryz.underlying91 hi gT fM gD rfl (by decide) (zS g acc.length cap) _ _ rfl (O.alloc _) (zA n.heap.size) 1 1 [.int .u8 I.toNat] rfl rfl (cell_one_new _ _ _) (λx V=>by simp at V;subst V;rfl) (by unfold maxLen;omega) (by omega) (by simp;omega) ?_;intro v' w4 bT Sl N))
  go_roundg m
  .obtain⟨g',xK,L⟩:=Uz bT (λe=>by have:=N.1 e;simp at this);subst L;refine⟨acc++[I],x3,g',xK,by simp,?_,by simp;omega,by omega,u,?_,?_⟩
   .simpa[tT] using bT
   .refine At.aC (S:=[g]) ?_ (aB.Bt (w:=n.alloc (.cells #[.int .u8 I.toNat] 5)) Sl) ?_
    .exact F.aC zG (by simp)
    have:=(c.lt g rfl).1;simp;omega
   exact(D.alloc _).grown Sl (λk X=>by simp[Value.ownBlock]at X;subst X;exact Or.inr (c.lt g rfl).1)
  omega
def uP:LB->Nat->Nat × Bool × LB
 | [],n=>(n,true,[])
 | c::r,n=>if nG c then (if 99999<n*10+(c.toNat-48) then (0,false,c::r) else uP r (n*10+(c.toNat-48))) else (n,true,c::r)
def lI(l:LB):Nat × Bool × LB :=
 if aQ [48] l then (0,true,aK [48] l) else if !(lW (hd l)) then (0,false,l) else uP l 0
def Yh(b:Nat)(t l:LB)(w:World)(h:At w b t l) :
 zF 148 #[zP b] w λe w'=>e=zQ #[zI (lI l).1,.bool (lI l).2.1]/\At w' b t (lI l).2.2/\aB [b] w w':=by
 have H:At w b t l:=h;clear h;delta zF;go_in
 go_wp2_with fail
 refine(gX b t l [48] _ H (by simp)).mono ?_;rintro e u ⟨rfl,p,z⟩;cases y:aQ [48] l
 case true =>
  have g:lI l=(0,true,aK [48] l):=by show lI l=_;unfold lI;rw[y];rfl
  have j:At u b t (aK [48] l)/\aB [b] w u:=⟨p,z⟩;clear p z;go_wp2;go_ret2;rw[g];exact⟨rfl,j.1,j.2⟩
 case false =>
 rw[jL y]at p;have j:At u b t l:=p;have C:aB [b] w u:=z;have N:aQ [48] l=false:=y;clear p z y;go_wp2_with fail
 refine(kQ b t l _ j).mono ?_;rintro e w' ⟨rfl,n,rfl⟩;cases G:lW (hd l)
 case false =>
  have g:lI l=(0,false,l):=by show lI l=_;unfold lI;rw[N,G];rfl
  go_wp2_with (go_at_call 118;refine(iT _ _).mono ?_;rintro e w' ⟨rfl,rfl⟩)
  go_ret2;rw[g];exact⟨rfl,j.aC (S:=[]) (zK.drewN _) (by simp),C.drewN _⟩
 case true =>
 have g:lI l=uP l 0:=by show lI l=_;unfold lI;rw[N,G];rfl
 go_wp2_with (go_at_call 118;refine(iT _ _).mono ?_;rintro e w' ⟨rfl,rfl⟩)
 go_loopg [4] l.length (λk v wr=>∃(f:LB) (x:Nat),v=zI x/\x<=99999/\f.length<=k/\uP f x=uP l 0/\At wr b t f/\aB [b] w wr)
 exact⟨l,0,rfl,by omega,a0b _,rfl,j.aC (S:=[]) (zK.drewN _) (by simp),C.drewN _⟩
 .obtain⟨f,x,rfl,U,O,I,⟨i,m,J⟩,L⟩:=hrel;have c1:=m.c1;have Y:=m.fz 1;have X:=m.2.1;have ht:=m.2.2;have d:SC wr b t i:=m;have a:List.drop i t=f:=J;have A:uP f x=uP l 0:=I;have B:aB [b] w wr:=L;clear m J I L j C G;cases f with
  | nil =>
    have W:lW (hd [])=false:=rfl;have h0:hd []=0:=rfl;have o:lI l=(x,true,[]):=by show lI l=_;rw[g,<-A];rfl
    go_wp2_with (first | (go_at_call 133;refine(kQ _ _ _ _ ⟨i,d,a⟩).mono ?_;rintro e w' ⟨rfl,n,rfl⟩)|(go_at_call 118;refine(iT _ _).mono ?_;rintro e w' ⟨rfl,rfl⟩))
    go_ret2;rw[o];exact⟨rfl,⟨i,d.drewN _,a⟩,B.drewN _⟩
  | cons c r =>
    have Z:=JQ c r;have V:=u8i c;have R:i<t.length:=at_len a;cases D:lW (c.toNat:Int)
    case false =>
     have o:lI l=(x,true,c::r):=by show lI l=_;rw[g,<-A];unfold uP;simp[nG,D]
     go_wp2_with (first | (go_at_call 133;refine(kQ _ _ _ _ ⟨i,d,a⟩).mono ?_;rintro e w' ⟨rfl,n,rfl⟩)|(go_at_call 118;refine(iT _ _).mono ?_;rintro e w' ⟨rfl,rfl⟩))
     go_ret2;rw[o];exact⟨rfl,⟨i,d.drewN _,a⟩,B.drewN _⟩
    case true =>
     have hb:48<=(c.toNat:Int)/\(c.toNat:Int)<=57:=by simpa[lW] using D
     obtain⟨P,T⟩:=hb;have M:uP (c::r) x=(if 99999<x*10+(c.toNat-48) then (0,false,c::r) else uP r (x*10+(c.toNat-48))):=by
      conv=>lhs;unfold uP
      simp[nG,D]
     have s:uP (c::r) x=(if 99999<x*10+(c.toNat-48) then (0,false,c::r) else uP r (x*10+(c.toNat-48))):=M;clear M;simp only[a0r]at O
     by_cases q:99999<x*10+(c.toNat-48)
     .have o:lI l=(0,false,c::r):=by show lI l=_;rw[g,<-A,s,a0m q]
      have E:(99999:Int)<(x:Int)*10+((c.toNat:Int)-48):=by omega
      go_wp2_with (first | (go_at_call 133;refine(kQ b t (c::r) _ (At.aC (S:=[]) ⟨i,d,a⟩ (by first | exact zK|exact zK.drewN _) (by simp))).mono ?_;rintro e w' ⟨rfl,n,rfl⟩)|(go_at_call 118;refine(iT _ _).mono ?_;rintro e w' ⟨rfl,rfl⟩))
      go_ret2;rw[o];exact⟨rfl,⟨i,d.drewN _,a⟩,B.drewN _⟩
     have F:uP r (x*10+(c.toNat-48))=uP l 0:=by show uP r _=_;rw[<-A,s,a0n q]
     have E:(x:Int)*10+((c.toNat:Int)-48)<=99999:=by omega
     go_wp2_with (first | (go_at_call 133;refine(kQ b t (c::r) _ (At.aC (S:=[]) ⟨i,d,a⟩ (by first | exact zK|exact zK.drewN _) (by simp))).mono ?_;rintro e w' ⟨rfl,n,rfl⟩)|(go_at_call 118;refine(iT _ _).mono ?_;rintro e w' ⟨rfl,rfl⟩))
     go_roundg (gk-1)
     .refine⟨r,x*10+(c.toNat-48),?_,by omega,by omega,F,at_set (l:=r) (d.drewN _) a,(B.drewN _).setCell (by simp) _⟩
      congr 1;omega
     omega
def jq(l:LB):Nat × Bool × LB :=
 if aQ [61,126] l then (2,true,aK [61,126] l)
 else if aQ [33,126] l then (3,true,aK [33,126] l)
 else if aQ [33,61] l then (1,true,aK [33,61] l)
 else (0,aQ [61] l,aK [61] l)
def acn(b:Nat)(t l:LB)(w:World)(h:At w b t l) :
 zF 149 #[zP b] w λe w'=>e=zQ #[zI (jq l).1,.bool (jq l).2.1]/\At w' b t (jq l).2.2/\aB [b] w w':=by
 have H:At w b t l:=h;clear h;delta zF;go_in
 go_wp2_with fail
 refine(gX b t l [61,126] _ H (by simp)).mono ?_;rintro e g ⟨rfl,f,k⟩;cases j:aQ [61,126] l
 case true =>
  have a:jq l=(2,true,aK [61,126] l):=by show jq l=_;unfold jq;rw[j];rfl
  have m:At g b t (aK [61,126] l)/\aB [b] w g:=⟨f,k⟩;clear f k;go_wp2;go_ret2;rw[a];exact⟨rfl,m.1,m.2⟩
 case false =>
 rw[jL j]at f;have m:At g b t l:=f;have E:aB [b] w g:=k;have q:aQ [61,126] l=false:=j;clear f k;go_wp2_with fail
 refine(gX b t l [33,126] _ m (by simp)).mono ?_;rintro e p ⟨rfl,d,B⟩;have x:aB [b] w p:=E.trans B;clear B j;cases n:aQ [33,126] l
 case true =>
  have a:jq l=(3,true,aK [33,126] l):=by show jq l=_;unfold jq;rw[q,n];rfl
  have u:At p b t (aK [33,126] l):=d;clear d;go_wp2;go_ret2;rw[a];exact⟨rfl,u,x⟩
 case false =>
 rw[jL n]at d;have u:At p b t l:=d;have D:aQ [33,126] l=false:=n;clear d;go_wp2_with fail
 refine(gX b t l [33,61] _ u (by simp)).mono ?_;rintro e o ⟨rfl,c,A⟩;have C:aB [b] w o:=x.trans A;clear A n;cases i:aQ [33,61] l
 case true =>
  have a:jq l=(1,true,aK [33,61] l):=by show jq l=_;unfold jq;rw[q,D,i];rfl
  have s:At o b t (aK [33,61] l):=c;clear c;go_wp2;go_ret2;rw[a];exact⟨rfl,s,C⟩
 case false =>
 rw[jL i]at c;have F:aQ [33,61] l=false:=i;have s:At o b t l:=c;clear c i;go_wp2_with fail
 refine(gX b t l [61] _ s (by simp)).mono ?_;rintro e v ⟨rfl,z,y⟩;have r:aB [b] w v:=C.trans y;have a:jq l=(0,aQ [61] l,aK [61] l):=by show jq l=_;unfold jq;rw[q,D,F];rfl
 have G:At v b t (aK [61] l):=z;clear z y;go_wp2;go_ret2;rw[a];exact⟨rfl,G,r⟩
def bZ(wd l:LB):Int × Bool × LB :=
 if aQ wd l then (((lI (aK wd l)).1:Int),(lI (aK wd l)).2.1,(lI (aK wd l)).2.2) else (-1,true,l)
def Ey(b:Nat)(t l wd:LB)(w:World)(h:At w b t l)(o:wd.length<=1048576) :
 zF 136 #[zP b,zT wd] w λe w'=>e=zQ #[zI (bZ wd l).1,.bool (bZ wd l).2.1]/\At w' b t (bZ wd l).2.2/\aB [b] w w':=by
 have H:At w b t l:=h;clear h;delta zF;go_in
 go_wp2_with fail
 refine(gX b t l wd _ H o).mono ?_;rintro e d ⟨rfl,a,f⟩;cases g:aQ wd l
 case false =>
  have i:bZ wd l=(-1,true,l):=by show bZ wd l=_;unfold bZ;rw[g];rfl
  rw[jL g]at a;have c:At d b t l/\aB [b] w d:=⟨a,f⟩;clear a f;go_wp2;go_ret2;rw[i];exact⟨rfl,c.1,c.2⟩
 case true =>
 have i:bZ wd l=(((lI (aK wd l)).1:Int),(lI (aK wd l)).2.1,(lI (aK wd l)).2.2):=by show bZ wd l=_;unfold bZ;rw[g];rfl
 have c:At d b t (aK wd l)/\aB [b] w d:=⟨a,f⟩;clear a f;go_wp2_with fail
 refine(Yh b t _ _ c.1).mono ?_;rintro e j ⟨rfl,k,m⟩;have n:At j b t (lI (aK wd l)).2.2/\aB [b] w j:=⟨k,c.2.trans m⟩;clear k m;go_wp2;go_ret2;rw[i];exact⟨rfl,n.1,n.2⟩
abbrev CM:=LB × Nat × LB
def kF(l:LB):CM × Bool × LB :=
 let n:=l.takeWhile bK
 let l1:=l.dropWhile bK
 let k:=jq l1
 let v:=qm k.2.2
 ((n,k.1,v.1),aJ n&&k.2.1&&v.2.1,v.2.2)
def ac8(m:CM):Value:=.agg #[zT m.1,zI m.2.1,zT m.2.2]
def Va(b:Nat)(t l:LB)(w:World)(h:At w b t l) :
 zF 137 #[zP b] w λe w'=>e=zQ #[ac8 (kF l).1,.bool (kF l).2.1]/\At w' b t (kF l).2.2/\aB [b] w w':=by
 have hb:=h.lt;have H:At w b t l:=h;clear h;delta zF;go_in
 go_wp2_with fail
 refine(vC b t l _ (H.aC zG (by simp))).mono ?_;rintro e s ⟨rfl,k,n⟩;have A:At s b t (l.dropWhile bK):=k;clear k;go_wp2_with fail
 refine(acn b t _ _ A).mono ?_;rintro e B ⟨rfl,j,p⟩;have d:=n.trans p;clear n p;go_wp2_with fail
 refine(Z9 b t _ _ j).mono ?_;rintro e a ⟨rfl,i,m⟩;have f:=d.trans m;clear d m j;have c:=(f.block w.heap.size (by simp) (by simp;omega)).trans (heap_alloc_new w _);have hz:=f.size;have z:aB [b] w a:=((aB.refl [b] w).alloc _).trans f;have r:At a b t (kF l).2.2:=i;clear f i;have ca:zC a w.heap.size 0 (.string ⟨#[]⟩):=by simp[World.cell?,c]
 have cb:zC a w.heap.size 1 (zI 0):=by simp[World.cell?,c]
 have cc:zC a w.heap.size 2 (.string ⟨#[]⟩):=by simp[World.cell?,c]
 have E:∀o,a.frozen? (zB w.heap.size o)=false:=by intro o;simp[World.frozen?,c]
 have g:w.heap.size<a.heap.size:=by simp at hz;omega
 have q:kF l=((l.takeWhile bK,(jq (l.dropWhile bK)).1,(qm (jq (l.dropWhile bK)).2.2).1),aJ (l.takeWhile bK)&&(jq (l.dropWhile bK)).2.1&&(qm (jq (l.dropWhile bK)).2.2).2.1,(qm (jq (l.dropWhile bK)).2.2).2.2):=rfl;clear c hz;generalize qm (jq (l.dropWhile bK)).2.2=sv at *;generalize jq (l.dropWhile bK)=x at *;generalize l.takeWhile bK=nm at *;obtain⟨u,D,C⟩:=sv;obtain⟨k1,k2,F⟩:=x;cases y:aJ nm<;>cases k2
 all_goals
  go_wp2;refine bodyPost_ret (v:=.tuple #[ac8 (nm,k1,u),.bool _]) (by simp[results,Tryz.results137,go_sem,ac8,ca,cb,cc,g]<;>rfl) rfl ?_;rw[q];refine⟨by simp[y],?_,?_⟩
  .rw[q]at r
   exact r.aC (S:=[w.heap.size]) ((((zK.setCell (by simp) _).setCell (by simp) _).setCell (by simp) _).alloc _) (by simp;omega)
  exact(((z.setCell (by simp) _).setCell (by simp) _).setCell (by simp) _).alloc _
def aaa(v:Value)(L:List LB)(n:LB)(w:World)(h:RS 0 w v L) :
 zF 46 #[v,zT n] w λe w'=>e=zR (.bool (L.contains n))/\w=w':=by
 obtain⟨a,cap,rfl,u,t,f⟩:=h;have p:∀j (h:j<L.length),∃g off,a=some (zB g off)/\0<=g/\zC w g (off+j) (.string (bs L[j])):=f;clear f;have q:=aT;delta zF;go_in
 go_wp2;go_loopg [9] L.length (λk i wr=>∃j,j+k=L.length/\i=zI j/\wr=w/\(L.take j).contains n=false)
 exact⟨0,by omega,rfl,rfl,by simp⟩
 .obtain⟨j,r,rfl,o,b⟩:=hrel;subst o;have d:(L.take j).contains n=false:=b;clear b
  by_cases l:j<L.length
  .obtain⟨g,off,rfl,_,s⟩:=p j l
   cases he:(L[j]==n)
   .have m:(L.take (j+1)).contains n=false:=by
     show(L.take (j+1)).contains n=false;have b:=d;rw[a0F l];simp only[a2B,a1g,a0e,a0w]at b |-;intro h;rcases h with h|h
     .exact b h
     rw[h]at he;simp at he
    go_wp2;go_roundg (gk-1);exact⟨j+1,by omega,by go_num,rfl,m⟩;omega
   have c:L.contains n=true:=by show L.contains n=true;rw[a2B,a1E,<-a0W.1 he];exact a0u _
   go_wp2;go_ret;exact⟨dD c.symm,rfl⟩
  have c:L.contains n=false:=by have:=d;rw[a0C (by omega)]at this;exact this
  go_wp2;go_ret;exact⟨dD c.symm,rfl⟩
def lJ(n:LB):List LB->List LB × Bool->List LB × Bool
 | [],s=>s
 | x::r,s=>lJ n r (if !s.2&&Op.bytesLess n x then (s.1++[n]++[x],true) else (s.1++[x],s.2))
def uf(L:List LB)(n:LB):List LB :=
 if (lJ n L ([],false)).2 then (lJ n L ([],false)).1 else (lJ n L ([],false)).1++[n]
theorem aco(v:Value)(L:List LB)(n:LB)(w:World)(h:RS 0 w v L)(hL:L.length<=1000) :
 Calls Tryz.prog 147 #[v,.string (bs n)] w λe w'=>∃I,e=.returned I/\SL w.heap.size w' I (uf L n)/\aB [] w w':=by
 obtain⟨a,cap,rfl,h1,h2,M⟩:=h;have V:∀j (h:j<L.length),∃g off,a=some ⟨g,off,none⟩/\0<=g/\w.cell? ⟨g,off+j,none⟩=some (.string (bs L[j])):=M;clear M;have Y:=aT;go_in
 go_wp2;go_loopg [5,6,12] L.length (λk v p i wr=>∃(j:Nat) (acc:List LB) (pb:Bool) (g cap:Nat),j+k=L.length/\i=.int .i64 j/\p=.bool pb/\v=.slice (some ⟨g,0,none⟩) acc.length cap/\SL w.heap.size wr v acc/\w.heap.size<=g/\acc.length<=j+pb.toNat/\lJ n (L.drop j) (acc,pb)=lJ n L ([],false)/\aB [] w wr)
 exact⟨0,[],false,_,_,by omega,rfl,rfl,rfl,World.ownsRow_lit _ #[] 0 (a0b _) (by unfold maxLen;omega) (by simp),a0b _,by simp,by simp,zJ⟩
 .obtain⟨j,acc,pb,g,r,Z,rfl,rfl,rfl,J,hg,O,o,E⟩:=hrel;have hz:=E.size;have P:pb.toNat<=1:=Bool.toNat_le pb;have u:SL w.heap.size wr (.slice (some ⟨g,0,none⟩) acc.length r) acc:=J;have f:lJ n (L.drop j) (acc,pb)=lJ n L ([],false):=o;have q:aB [] w wr:=E;clear J o E
  by_cases N:j<L.length
  .obtain⟨S,off,rfl,_,H⟩:=V j N
   have hc:wr.cell? ⟨S,off+j,none⟩=some (.string (bs L[j])):=by rw[q.cell (World.block_lt_of_cell? w _ H) (by simp)];exact H
   clear H;have y:L.drop j=L[j]::L.drop (j+1):=(a0k N);generalize L[j]=x at *;cases m:(!pb&&Op.bytesLess n x)
   .have d:lJ n (L.drop (j+1)) (acc++[x],pb)=lJ n L ([],false):=by
     show lJ n (L.drop (j+1)) (acc++[x],pb)=_;rw[<-f,y];conv=>rhs;unfold lJ
     simp only[m];rfl
    clear f y;have U:pb=true\/(pb=false/\Op.bytesLess n x=false):=by cases pb<;>simp_all
    clear m;rcases U with rfl|⟨rfl,m⟩
    all_goals
     go_wp2_with (first | (at_builtin;refine rA _ rfl _ _ rfl w.heap.size (.slice (some ⟨g,0,none⟩) acc.length r) acc x wr.heap.size rfl (u.aC zG (by simp)) rfl (by simp) (by omega) (by simp;omega) ?_;intro s t z l b A))
     go_roundg (gk-1)
     .refine⟨j+1,acc++[x],_,s,t,by omega,by go_num,rfl,by simp,by simpa using l,A,by simp at O |-;omega,d,?_⟩;exact(q.alloc _).YN (base:=0) b (λk c=>by simp[Value.ownBlock]at c;omega)
     omega
   have W:pb=false:=by cases pb<;>simp_all
   have Ko:Op.bytesLess n x=true:=by cases pb<;>simp_all
   subst W;have d:lJ n (L.drop (j+1)) (acc++[n]++[x],true)=lJ n L ([],false):=by
    show lJ n (L.drop (j+1)) (acc++[n]++[x],true)=_;rw[<-f,y];conv=>rhs;unfold lJ
    simp only[m];rfl
   clear f y m;go_wp2_with (first | (at_builtin;refine rA _ rfl _ _ rfl w.heap.size (.slice (some ⟨s,0,none⟩) (acc.length+1) t) (acc++[n]) x z.heap.size rfl (l.aC zG (by simp)) rfl (by simp) (by simp;omega) (by simp;omega) ?_;intro R F X T B C)|(at_builtin;refine rA _ rfl _ _ rfl w.heap.size (.slice (some ⟨g,0,none⟩) acc.length r) acc n wr.heap.size rfl (u.aC zG (by simp)) rfl (by simp) (by omega) (by simp;omega) ?_;intro s t z l b A;have D:=b.size;simp at D))
   go_roundg (gk-1)
   .refine⟨j+1,acc++[n]++[x],_,R,F,by omega,by go_num,rfl,by simp,by simpa using T,C,by simp at O |-;omega,d,?_⟩;exact(((q.alloc _).YN (base:=0) b (λk c=>by simp[Value.ownBlock]at c;omega)).alloc _).YN (base:=0) B (λk c=>by simp[Value.ownBlock]at c;omega)
   omega
  have d:lJ n L ([],false)=(acc,pb):=by show lJ n L ([],false)=_;rw[<-f,a0i (by omega)];rfl
  clear f;cases pb
  .have G:uf L n=acc++[n]:=by show uf L n=_;unfold uf;rw[d];rfl
   go_wp2_with (first | (at_builtin;refine rA _ rfl _ _ rfl w.heap.size (.slice (some ⟨g,0,none⟩) acc.length r) acc n wr.heap.size rfl (u.aC zG (by simp)) rfl (by simp) (by omega) (by simp;omega) ?_;intro s t z l b A;have D:=b.size;simp at D))
   go_ret;rw[G];exact⟨_,rfl,l,(q.alloc _).YN (base:=0) b (λk c=>by simp[Value.ownBlock]at c;omega)⟩
  have G:uf L n=acc:=by show uf L n=_;unfold uf;rw[d];rfl
  go_wp2;go_ret;rw[G];exact⟨_,rfl,u,q⟩
def Vb(n:LB):∀(L:List LB) (s:List LB × Bool),(lJ n L s).1.length+s.2.toNat=s.1.length+L.length+(lJ n L s).2.toNat
 | [],s=>by simp[lJ]
 | x::r,(acc,p)=>by
   unfold lJ
   by_cases h:(!p&&Op.bytesLess n x)=true
   .simp only[h,a0G]
    have:=Vb n r (acc++[n]++[x],true);simp at this h |-;rw[h.1];simp;omega
   simp only[h];have:=Vb n r (acc++[x],p);simp at this |-;omega
theorem aab(L:List LB)(n:LB):(uf L n).length=L.length+1:=by unfold uf;have:=Vb n L ([],false);cases h:(lJ n L ([],false)).2<;>simp[h]at this |-<;>omega
def oH(acc:List LB)(n:LB):List LB:=if acc.contains n then acc else uf acc n
def DV(L:List LB):List LB:=L.foldl oH []
def ajL(acc:List LB)(n:LB):(oH acc n).length<=acc.length+1:=by unfold oH;split<;>simp[aab]
theorem Yi(v:Value)(L:List LB)(w:World)(h:RS 0 w v L)(I:L.length<=1000) :
 Calls Tryz.prog 135 #[v] w λe w'=>∃c,e=.returned c/\SL w.heap.size w' c (DV L)/\aB [] w w':=by
 obtain⟨a,cap,rfl,M,J,t⟩:=h;have F:∀j (h:j<L.length),∃g off,a=some ⟨g,off,none⟩/\0<=g/\w.cell? ⟨g,off+j,none⟩=some (.string (bs L[j])):=t;clear t;go_in
 go_wp2;go_loopg [3,9] L.length (λk v i wr=>∃(j:Nat) (acc:List LB),j+k=L.length/\i=.int .i64 j/\SL w.heap.size wr v acc/\acc.length<=j/\(L.drop j).foldl oH acc=DV L/\aB [] w wr)
 exact⟨0,[],by omega,rfl,World.ownsRow_lit _ #[] 0 (a0b _) (by unfold maxLen;omega) (by simp),by simp,by simp[DV],zJ⟩
 .obtain⟨j,acc,G,rfl,r,N,b,m⟩:=hrel;have hz:=m.size;have f:SL w.heap.size wr u3 acc:=r;have n:(L.drop j).foldl oH acc=DV L:=b;have l:aB [] w wr:=m;clear r b m
  by_cases y:j<L.length
  .obtain⟨D,off,rfl,_,p⟩:=F j y
   have H:wr.cell? ⟨D,off+j,none⟩=some (.string (bs L[j])):=by rw[l.cell (World.block_lt_of_cell? w _ p) (by simp)];exact p
   clear p;have A:L.drop j=L[j]::L.drop (j+1):=(a0k y);generalize L[j]=x at *;have d:(L.drop (j+1)).foldl oH (oH acc x)=DV L:=by rw[<-n,A];rfl
   clear n A;go_wp2_with fail
   refine(aaa u3 acc x wr ((f.rs (by omega)).base (a1G _))).mono ?_;rintro e w' ⟨rfl,rfl⟩;cases z:acc.contains x
   .have o:oH acc x=uf acc x:=by show oH acc x=_;unfold oH;rw[z];rfl
    go_wp2_with fail
    refine(aco u3 acc x wr ((f.rs (by omega)).base (a1G _)) (by omega)).mono ?_;rintro e q ⟨c,rfl,s,u⟩;have B:SL w.heap.size q c (uf acc x):=s.base hz;have C:aB [] w q:=l.trans u;clear s u;go_wp2;go_roundg (gk-1)
    .rw[o]at d;exact⟨j+1,uf acc x,by omega,by go_num,B,by rw[aab];omega,d,C⟩
    omega
   have o:oH acc x=acc:=by show oH acc x=_;unfold oH;rw[z];rfl
   go_wp2;go_roundg (gk-1)
   .rw[o]at d;exact⟨j+1,acc,by omega,by go_num,f,by omega,d,l⟩
   omega
  have E:DV L=acc:=by show DV L=acc;rw[<-n,a0i (by omega)];rfl
  go_wp2;go_ret;rw[E];exact⟨_,rfl,f,l⟩
def uQ:Nat->List LB->LB->List LB × Bool × LB
 | 0,_,l=>([],false,l)
 | k+1,acc,l =>
   if !(acc.isEmpty)&&!(aQ [44] l) then (acc,true,l)
   else
    let l1:=if acc.isEmpty then l else aK [44] l
    let nm:=l1.takeWhile bK
    if !(aJ nm)||decide (4<=acc.length) then ([],false,l1.dropWhile bK)
    else uQ k (acc++[nm]) (l1.dropWhile bK)
def gL(l:LB):List LB × Bool × LB:=uQ 6 [] l
def Yj(b:Nat)(t l:LB)(w:World)(h:At w b t l) :
 zF 134 #[zP b] w λe w'=>∃T,e=zQ #[T,.bool (gL l).2.1]/\SL w.heap.size w' T (gL l).1/\(gL l).1.length<=4/\At w' b t (gL l).2.2/\aB [b] w w':=by
 have hb:=h.lt;have H:At w b t l:=h;clear h;delta zF;go_in
 go_wp2_with fail
 go_loopg [4] 6 (λk v wr=>∃(acc:List LB) (a:LB) (g cap:Nat),acc.length+k=6/\acc.length<=4/\v=zS g acc.length cap/\w.heap.size<=g/\SL w.heap.size wr v acc/\uQ k acc a=gL l/\At wr b t a/\aB [b] w wr)
 exact⟨[],l,_,_,by simp,by simp,rfl,a0b _,World.ownsRow_lit _ #[] 0 (a0b _) (by unfold maxLen;omega) (by simp),rfl,H.aC zG (by simp),zJ⟩
 .obtain⟨acc,a,g,cap,B,Yf,rfl,hg,U,y,Y,M⟩:=hrel;have hz:=M.size;have D:SL w.heap.size wr (zS g acc.length cap) acc:=U;have Z:uQ gk acc a=gL l:=y;have F:At wr b t a:=Y;have E:aB [b] w wr:=M;clear U y Y M;obtain⟨m,rfl⟩:∃m,gk=m+1:=⟨gk-1,by omega⟩;have step:∀(c:LB) (q:World),c=(if acc.isEmpty then a else aK [44] a)->(acc.isEmpty=true\/aQ [44] a=true)->gL l=(if !(aJ (c.takeWhile bK))||decide (4<=acc.length) then ([],false,c.dropWhile bK) else uQ m (acc++[c.takeWhile bK]) (c.dropWhile bK)):=by
   intro c q e h;rw[<-Z];conv=>lhs;unfold uQ
   rw[a0n (by rcases h with h|h<;>simp[h]),<-e]
  have C:∀(c:LB) (q:World),c=(if acc.isEmpty then a else aK [44] a)->(acc.isEmpty=true\/aQ [44] a=true)->gL l=(if !(aJ (c.takeWhile bK))||decide (4<=acc.length) then ([],false,c.dropWhile bK) else uQ m (acc++[c.takeWhile bK]) (c.dropWhile bK)):=step;clear step
  by_cases n:acc=[]
  .subst n
   have d:=C a wr rfl (Or.inl rfl);have r:gL l=(if !(aJ (a.takeWhile bK))||decide (4<=([]:List LB).length) then ([],false,a.dropWhile bK) else uQ m ([]++[a.takeWhile bK]) (a.dropWhile bK)):=d;clear C d;simp only[a1e]at *;go_wp2_with fail
   refine(vC b t a _ F).mono ?_;rintro e i ⟨rfl,A,o⟩;have u:At i b t (a.dropWhile bK):=A;have j:aB [b] w i:=E.trans o;have G:SL w.heap.size i (zS g 0 cap) []:=D.aC o (by simp;omega);have gD:=j.size;clear A o D F E;cases s:aJ (a.takeWhile bK)
   .have f:gL l=([],false,a.dropWhile bK):=by rw[r,s];rfl
    go_wp2;go_ret2;rw[f];exact⟨_,rfl,SL.nil _ _,by simp,u,j⟩
   have f:uQ m [a.takeWhile bK] (a.dropWhile bK)=gL l:=by rw[r,s];rfl
   go_wp2_with (first | (at_builtin;refine rA _ rfl _ _ rfl w.heap.size (zS g 0 cap) [] (a.takeWhile bK) i.heap.size rfl (G.aC zG (by simp)) rfl (by simp) (by simp) (by simp;omega) ?_;intro L O w3 I x J))
   go_roundg m
   .refine⟨[a.takeWhile bK],_,L,O,by simp;omega,by simp,by simp,J,by simpa using I,f,?_,?_⟩
    .refine At.aC (S:=[g]) (u.aC zG (by simp)) (aB.Bt x) (by simp;omega)
    exact(j.alloc _).grown x (λk B=>by simp[Value.ownBlock]at B;omega)
   omega
  have bJ:((acc.length:Int)==0)=false:=a0j.2 (by have:=a1O.2 n;omega);have z:acc.isEmpty=false:=by simpa using n
  go_wp2_with fail
  refine(gX b t a [44] _ F (by simp)).mono ?_;rintro e q ⟨rfl,X,N⟩;have V:=D.aC N (by simp;omega);have P:aB [b] w q:=E.trans N;have p:SL w.heap.size q (zS g acc.length cap) acc:=V;have R:At q b t (aK [44] a):=X;clear X N V E D F;cases ht:aQ [44] a
  .have f:gL l=(acc,true,a):=by rw[<-Z];unfold uQ;simp[z,ht]
   rw[jL ht]at R;go_wp2;go_ret2;rw[f];exact⟨_,rfl,p,Yf,R,P⟩
  have d:=C (aK [44] a) wr (by rw[z];rfl) (Or.inr ht);have r:gL l=(if !(aJ ((aK [44] a).takeWhile bK))||decide (4<=acc.length) then ([],false,(aK [44] a).dropWhile bK) else uQ m (acc++[(aK [44] a).takeWhile bK]) ((aK [44] a).dropWhile bK)):=d;clear C d;go_wp2_with fail
  refine(vC b t _ _ R).mono ?_;rintro e i ⟨rfl,A,o⟩;generalize aK [44] a=c at *;have u:At i b t (c.dropWhile bK):=A;have j:aB [b] w i:=P.trans o;have G:SL w.heap.size i (zS g acc.length cap) acc:=p.aC o (by simp;omega);have gD:=j.size;clear A o p P;cases s:aJ (c.takeWhile bK)
  .have f:gL l=([],false,c.dropWhile bK):=by rw[r,s];rfl
   go_wp2;go_ret2;rw[f];exact⟨_,rfl,SL.nil _ _,by simp,u,j⟩
  by_cases W:4<=acc.length
  .have f:gL l=([],false,c.dropWhile bK):=by rw[r,s];simp[W]
   go_wp2;go_ret2;rw[f];exact⟨_,rfl,SL.nil _ _,by simp,u,j⟩
  have f:uQ m (acc++[c.takeWhile bK]) (c.dropWhile bK)=gL l:=by rw[r,s];simp[W]
  go_wp2_with (first | (at_builtin;refine rA _ rfl _ _ rfl w.heap.size (zS g acc.length cap) acc (c.takeWhile bK) i.heap.size rfl (G.aC zG (by simp)) rfl (by simp) (by omega) (by simp;omega) ?_;intro L O w3 I x J))
  go_roundg m
  .refine⟨acc++[c.takeWhile bK],_,L,O,by simp;omega,by simp;omega,by simp,J,by simpa using I,f,?_,?_⟩
   .refine At.aC (S:=[g]) (u.aC zG (by simp)) (aB.Bt x) (by simp;omega)
   exact(j.alloc _).grown x (λk B=>by simp[Value.ownBlock]at B;omega)
  omega
end
section
variable {a w w':World} {base' cb n rb:Nat} {S:LN} {v vr vt:Value} {L:List CM} {tmps:Array Value} {e:TypeId} {xs:List Value}
structure RV where
 d:Int
 rc:LB
 tb:Bool
 ek:Value
 wt:Int
 ev:Int
 rp:Int
 iJ:Value
 co:Bool
def RV.cells(r:RV):Array Value:=#[zI r.d,zT r.rc,.bool r.tb,r.ek,zI r.wt,zI r.ev,zI r.rp,r.iJ,.bool r.co]
def RT(w:World)(rb:Nat)(r:RV):Prop:=w.heap[rb]?=some (.cells r.cells 81 (0,0))
theorem RT.lt {r:RV}(h:RT w rb r):rb<w.heap.size:=(a0c.1 h).1
theorem RT.cell {r:RV}(h:RT w rb r)(o:Nat):w.cell? (zB rb o)=r.cells[o]?:=by unfold RT at h;simp[World.cell?,h]
theorem RT.fz {r:RV}(h:RT w rb r)(o:Nat):w.frozen? (zB rb o)=false:=by unfold RT at h;simp[World.frozen?,h]
theorem RT.aC {r:RV}(h:RT w rb r)(f:aB S w w')(a:rb∉S):RT w' rb r :=
 (f.block rb h.lt a).trans h
theorem RT.set {r:RV}(h:RT w rb r)(o:Nat)(v:Value)(r':RV)(e:r'.cells=r.cells.setIfInBounds o v):RT (w.setCell (zB rb o) v) rb r':=by unfold RT at *;simp[World.setCell,a0v,h,e]
theorem RT.drewN {r:RV}(h:RT w rb r)(n:Nat):RT (w.drewN n) rb r:=h
def eZ(l:LB):LB × Bool × LB :=
 if aQ [45] l then ([45],true,aK [45] l) else (l.takeWhile bK,aJ (l.takeWhile bK),l.dropWhile bK)
def Sm(b rb:Nat)(t l:LB)(r:RV)(w:World)(h:At w b t l)(m:RT w rb r)(y:b≠rb) :
 zF 108 #[zP b,zP rb] w λe w'=>e=zR (.bool (eZ l).2.1)/\At w' b t (eZ l).2.2/\RT w' rb { r with rc:=(eZ l).1 }/\aB [b,rb] w w':=by
 have hb:=h.lt;have x:=m.lt;have H:At w b t l:=h;have HR:RT w rb r:=m;clear h m;delta zF;go_in
 go_wp2_with fail
 refine(gX b t l [45] _ H (by simp)).mono ?_;rintro e c ⟨rfl,d,f⟩;have a:=HR.aC f (by simp;omega);cases j:aQ [45] l
 case true =>
  have o:eZ l=([45],true,aK [45] l):=by show eZ l=_;unfold eZ;rw[j];rfl
  have c1:zC c rb 1 (zT r.rc):=a.cell 1;have u:=a.fz 1;have k:At c b t (aK [45] l)/\aB [b,rb] w c:=⟨d,f.mono (by simp;omega)⟩;have v:RT c rb r:=a;clear d f a;go_wp2;go_ret;rw[o];exact⟨rfl,k.1.aC (S:=[rb]) (zK.setCell (by simp) _) (by simp;omega),v.set 1 _ _ rfl,k.2.setCell (by simp) _⟩
 case false =>
 have o:eZ l=(l.takeWhile bK,aJ (l.takeWhile bK),l.dropWhile bK):=by show eZ l=_;unfold eZ;rw[j];rfl
 rw[jL j]at d;have k:At c b t l:=d;clear d;go_wp2_with fail
 refine(vC b t l _ k).mono ?_;rintro e g ⟨rfl,p,n⟩;have i:=a.aC n (by simp;omega);have c1:zC g rb 1 (zT r.rc):=i.cell 1;have u:=i.fz 1;have q:At g b t (l.dropWhile bK)/\aB [b,rb] w g:=⟨p,(f.trans n).mono (by simp;omega)⟩;have s:RT g rb r:=i;clear p n f i a j;go_wp2;go_ret;rw[o];exact⟨rfl,q.1.aC (S:=[rb]) (zK.setCell (by simp) _) (by simp;omega),s.set 1 _ _ rfl,q.2.setCell (by simp) _⟩
structure ByR where
 tells:Bool
 names:List LB
 ok:Bool
 rest:LB
def lK(l:LB):ByR :=
 if aQ [32,98,121,32] l then
  let l1:=aK [32,98,121,32] l
  if aQ [45] l1 then ⟨true,[],true,aK [45] l1⟩
  else ⟨true,DV (gL l1).1,(gL l1).2.1,(gL l1).2.2⟩
 else ⟨false,[],true,l⟩
def agY(b rb:Nat)(t l:LB)(r:RV)(w:World)(h:At w b t l)(F:RT w rb r)(bJ:b≠rb)(N:r.tb=false)(O:r.ek=zN) :
 zF 109 #[zP b,zP rb] w λe w'=>e=zR (.bool (lK l).ok)/\At w' b t (lK l).rest/\(∃v,RT w' rb { r with tb:=(lK l).tells,ek:=v }/\SL w.heap.size w' v (lK l).names)/\aB [b,rb] w w':=by
 obtain⟨d,rc,tb,ek,wt,ev,rp,iJ,co⟩:=r;simp only at N O;subst N O;have hb:=h.lt;have jW:=F.lt;have H:At w b t l:=h;have HR:RT w rb ⟨d,rc,false,zN,wt,ev,rp,iJ,co⟩:=F;clear h F;delta zF;go_in
 go_wp2_with fail
 refine(gX b t l [32,98,121,32] _ H (by simp)).mono ?_;rintro e j ⟨rfl,g,i⟩;have c:=HR.aC i (by simp;omega);cases z:aQ [32,98,121,32] l
 case false =>
  have q:lK l=⟨false,[],true,l⟩:=by show lK l=_;unfold lK;rw[z];rfl
  rw[jL z]at g;have u:At j b t l/\aB [b,rb] w j:=⟨g,i.mono (by simp;omega)⟩;have B:RT j rb ⟨d,rc,false,zN,wt,ev,rp,iJ,co⟩:=c;clear g i c;go_wp2;go_ret;rw[q];exact⟨rfl,u.1,⟨_,B,SL.nil _ _⟩,u.2⟩
 case true =>
 have c2:zC j rb 2 (.bool false):=c.cell 2;have f2:=c.fz 2;generalize U:aK [32,98,121,32] l=a at *;have u:At j b t a:=g;have R:aB [b,rb] w j:=i.mono (by simp;omega);have B:RT j rb ⟨d,rc,false,zN,wt,ev,rp,iJ,co⟩:=c;have f:aK [32,98,121,32] l=a/\aQ [32,98,121,32] l=true:=⟨U,z⟩;clear g i c U z;go_wp2_with fail
 have c:=B.set 2 (.bool true) ⟨d,rc,true,zN,wt,ev,rp,iJ,co⟩ rfl;have g:=u.aC (S:=[rb]) (zK.setCell (p:=(zB rb 2)) (by simp) (.bool true)) (by simp;omega);have i:=R.setCell (p:=(zB rb 2)) (by simp) (.bool true);refine(gX b t a [45] _ g (by simp)).mono ?_;rintro e m ⟨rfl,n,I⟩;have V:=c.aC I (by simp;omega);have o:=i.trans (I.mono (S':=[b,rb]) (by simp;omega));have T:aB [b,rb] w m:=o;have E:RT m rb ⟨d,rc,true,zN,wt,ev,rp,iJ,co⟩:=V;clear g c i I V o c2 f2 u R B;cases D:aQ [45] a
 case true =>
  have q:lK l=⟨true,[],true,aK [45] a⟩:=by show lK l=_;unfold lK;rw[f.1,f.2];simp[D]
  have C:At m b t (aK [45] a):=n;clear n;go_wp2;go_ret;rw[q];exact⟨rfl,C,⟨_,E,SL.nil _ _⟩,T⟩
 case false =>
 have q:lK l=⟨true,DV (gL a).1,(gL a).2.1,(gL a).2.2⟩:=by show lK l=_;unfold lK;rw[f.1,f.2];simp[D]
 rw[jL D]at n;have C:At m b t a:=n;clear n D;go_wp2_with fail
 refine(Yj b t a _ C).mono ?_;rintro e x ⟨P,rfl,Z,hl3,W,G⟩;have Ak:=E.aC G (by simp;omega);have X:aB [b,rb] w x:=T.trans (G.mono (S':=[b,rb]) (by simp;omega));have J:SL m.heap.size x P (gL a).1:=Z;have H3:At x b t (gL a).2.2:=W;have PZ:RT x rb ⟨d,rc,true,zN,wt,ev,rp,iJ,co⟩:=Ak;clear Z W G Ak C E;go_wp2_with fail
 refine(Yi P _ _ ((J.rs (by omega)).base (a1G _)) (by omega)).mono ?_;rintro e k ⟨v4,rfl,Y,y⟩;have A:=PZ.aC y (by simp);have c3:zC k rb 3 zN:=A.cell 3;have f3:=A.fz 3;have M:aB [b,rb] w k:=X.trans y.nil;have s:SL w.heap.size k v4 (DV (gL a).1):=Y.base X.size;have H4:At k b t (gL a).2.2:=H3.aC y (by simp);have L:RT k rb ⟨d,rc,true,zN,wt,ev,rp,iJ,co⟩:=A;clear Y y A;obtain⟨a4,Kq,rfl⟩:=s.shape;go_wp2;go_ret;rw[q];refine⟨rfl,H4.aC (S:=[rb]) (zK.setCell (by simp) _) (by simp;omega),⟨.slice a4 (DV (gL a).1).length Kq,L.set 3 _ _ rfl,?_⟩,M.setCell (by simp) _⟩;exact s.aC (S:=[rb]) (zK.setCell (by simp) _) (by simp;omega)
structure TmR where
 wt:Int
 ev:Int
 rp:Int
 ok:Bool
 rest:LB
def qo:LB:=[32,119,97,105,116,32]
def pV:LB:=[32,101,118,101,114,121,32]
def rO:LB:=[32,114,101,112,101,97,116,32]
def dN(l:LB):TmR :=
 let a:=bZ qo l
 let b:=bZ pV a.2.2
 let c:=bZ rO b.2.2
 ⟨a.1,b.1,c.1,a.2.1&&b.2.1&&c.2.1,c.2.2⟩
def aac(b rb:Nat)(t l:LB)(r:RV)(w:World)(h:At w b t l)(f:RT w rb r)(V:b≠rb) :
 zF 110 #[zP b,zP rb] w λe w'=>e=zR (.bool (dN l).ok)/\At w' b t (dN l).rest/\RT w' rb { r with wt:=(dN l).wt,ev:=(dN l).ev,rp:=(dN l).rp }/\aB [b,rb] w w':=by
 have hb:=h.lt;have P:=f.lt;have H:Z_ (At w b t l):=h;have HR:Z_ (RT w rb r):=f;clear h f;delta zF;go_in
 go_wp2_with fail
 refine(Ey b t l qo _ H.o (by simp[qo])).mono ?_;rintro e n ⟨rfl,s,v⟩;have j:Z_ (At n b t (bZ qo l).2.2/\aB [b] w n):=⟨s,v⟩;clear s v;go_wp2_with fail
 refine(Ey b t _ pV _ j.o.1 (by simp[pV])).mono ?_;rintro e m ⟨rfl,q,A⟩;have i:Z_ (At m b t (bZ pV (bZ qo l).2.2).2.2/\aB [b] w m):=⟨q,j.o.2.trans A⟩;clear q A;go_wp2_with fail
 refine(Ey b t _ rO _ i.o.1 (by simp[rO])).mono ?_;rintro e c ⟨rfl,p,u⟩;have g:=i.o.2.trans u;have a:=HR.o.aC g (by simp;omega);have G:Z_ (aB [b,rb] w c):=g.mono (by simp;omega);have F:Z_ (dN l=⟨(bZ qo l).1,(bZ pV (bZ qo l).2.2).1,(bZ rO (bZ pV (bZ qo l).2.2).2.2).1,(bZ qo l).2.1&&(bZ pV (bZ qo l).2.2).2.1&&(bZ rO (bZ pV (bZ qo l).2.2).2.2).2.1,(bZ rO (bZ pV (bZ qo l).2.2).2.2).2.2⟩):=rfl;have I:Z_ (At c b t (bZ rO (bZ pV (bZ qo l).2.2).2.2).2.2):=p;clear p u g j i;generalize bZ rO (bZ pV (bZ qo l).2.2).2.2=z at *;generalize bZ pV (bZ qo l).2.2=y at *;generalize bZ qo l=x at *;obtain⟨k,D,O⟩:=x;obtain⟨C,B,N⟩:=y;obtain⟨M,L,J⟩:=z;obtain⟨d,rc,tb,ek,wt,ev,rp,iJ,co⟩:=r;have c4:zC c rb 4 (zI wt):=a.cell 4;have c5:zC c rb 5 (zI ev):=a.cell 5;have c6:zC c rb 6 (zI rp):=a.cell 6;have U:=a.fz 4;have T:=a.fz 5;have R:=a.fz 6;have E:Z_ (RT c rb ⟨d,rc,tb,ek,wt,ev,rp,iJ,co⟩):=a;clear a HR;cases D<;>cases B
 all_goals
  go_wp2;go_ret;rw[F.o];refine⟨by simp,?_,?_,?_⟩
  .exact I.o.aC (S:=[rb]) (((zK.setCell (by simp) _).setCell (by simp) _).setCell (by simp) _) (by simp;omega)
  .exact((E.o.set 4 _ ⟨d,rc,tb,ek,k,ev,rp,iJ,co⟩ rfl).set 5 _ ⟨d,rc,tb,ek,k,C,rp,iJ,co⟩ rfl).set 6 _ _ rfl
  exact((G.o.setCell (by simp) _).setCell (by simp) _).setCell (by simp) _
def Bb(m:CM):List Value:=[zT m.1,zI m.2.1,zT m.2.2]
def mv(M:List CM):List Value:=M.flatMap Bb
def ML(base:Nat)(w:World)(v:Value)(M:List CM):Prop:=w.ownsRow base 140 3 v M.length (mv M)
theorem ML.aC {base:Nat}(h:ML base w v L)(f:aB S w w')(a:∀k,k∈S->k<base):ML base w' v L:=fG h f a
theorem ML.nil(base:Nat)(w:World):ML base w zN []:=World.ownsRow_nil w base _ 3
def ao7:(Tryz.prog.info? 140).map (λi=>(i.zero,i.size,i.bytes))=some (some (.agg #[.string ByteArray.empty,zI 0,.string ByteArray.empty]),3,40):=by kernel_rfl
def Ik(w:World)(a b:Obj):((w.alloc a).alloc b).drew.heap[w.heap.size+1]?=some b:=by have:=heap_alloc_new (w.alloc a) b;rw[<-this];simp;rfl
def aB.fo {row:Option Nat}(h:w.grownBy w' row):aB row.toList w w' :=
 ⟨h.os,h.tape,h.output,h.size,λk a b=>h.block k a (λe=>b (by rw[<-e];simp))⟩
def tq:LB:=[32,105,102,32]
def wP:Nat->List CM->LB->List CM × Bool × LB
 | 0,acc,l=>(acc,false,l)
 | k+1,acc,l =>
   if aQ tq l then
    let x:=kF (aK tq l)
    if !x.2.1||decide (4<=acc.length) then (acc,false,x.2.2) else wP k (acc++[x.1]) x.2.2
   else (acc,true,l)
def mo(l:LB):List CM × Bool × LB:=wP 6 [] l
def Sr(b rb:Nat)(t l:LB)(r:RV)(w:World)(h:At w b t l)(P:RT w rb r)(bJ:b≠rb)(JI:r.iJ=zN) :
 zF 111 #[zP b,zP rb] w λe w'=>e=zR (.bool (mo l).2.1)/\At w' b t (mo l).2.2/\(∃v,RT w' rb { r with iJ:=v }/\ML w.heap.size w' v (mo l).1)/\(mo l).1.length<=4/\aB [b,rb] w w':=by
 obtain⟨d,rc,tb,ek,wt,ev,rp,iJ,co⟩:=r;simp only at JI;subst JI;have hb:=h.lt;have jW:=P.lt;have H:At w b t l:=h;have HR:RT w rb ⟨d,rc,tb,ek,wt,ev,rp,zN,co⟩:=P;clear h P;obtain⟨i0,hi,Qa,Yk,Il⟩:=info_parts ao7;delta zF;go_in
 go_wp2_with fail
 go_loopg [] 6 (λk wr=>∃(acc:List CM) (c:LB) (v:Value),acc.length+k=6/\acc.length<=4/\RT wr rb ⟨d,rc,tb,ek,wt,ev,rp,v,co⟩/\ML w.heap.size wr v acc/\wP k acc c=mo l/\At wr b t c/\aB [b,rb] w wr)
 exact⟨[],l,_,by simp,by simp,HR,ML.nil _ _,rfl,H,zK⟩
 .obtain⟨acc,c,v,hk,Y,zV,Ez,s,U,V⟩:=hrel;have hz:=V.size;have Hr:RT wr rb ⟨d,rc,tb,ek,wt,ev,rp,v,co⟩:=zV;have Hm:ML w.heap.size wr v acc:=Ez;have Hl:wP gk acc c=mo l:=s;have Ha:At wr b t c:=U;have Hf:aB [b,rb] w wr:=V;clear zV Ez s U V;obtain⟨m,rfl⟩:∃m,gk=m+1:=⟨gk-1,by omega⟩;go_wp2_with fail
  refine(gX b t c tq _ Ha (by simp[tq])).mono ?_;rintro e i ⟨rfl,u,y⟩;have G:=Hr.aC y (by simp;omega);have g:=Hm.aC y (by simp;omega);have Z:aB [b,rb] w i:=Hf.trans (y.mono (by simp;omega));cases ht:aQ tq c
  case false =>
   have n:mo l=(acc,true,c):=by rw[<-Hl];unfold wP;simp[ht]
   rw[jL ht]at u;have q:At i b t c/\RT i rb ⟨d,rc,tb,ek,wt,ev,rp,v,co⟩/\ML w.heap.size i v acc:=⟨u,G,g⟩;clear u G g y;go_wp2;go_ret;rw[n];exact⟨rfl,q.1,⟨_,q.2.1,q.2.2⟩,Y,Z⟩
  case true =>
  have J:mo l=if !(kF (aK tq c)).2.1||decide (4<=acc.length) then (acc,false,(kF (aK tq c)).2.2) else wP m (acc++[(kF (aK tq c)).1]) (kF (aK tq c)).2.2:=by
   rw[<-Hl];conv=>lhs;unfold wP
   rw[a0m ht]
  have q:At i b t (aK tq c):=u;have z:RT i rb ⟨d,rc,tb,ek,wt,ev,rp,v,co⟩:=G;have A:ML w.heap.size i v acc:=g;clear u G g y Hl ht;go_wp2_with fail
  refine(Va b t _ _ q).mono ?_;rintro e f ⟨rfl,R,L⟩;generalize kF (aK tq c)=x at *;obtain⟨x1,x2,p⟩:=x;simp only at R J;have I:=z.aC L (by simp;omega);have JJ:=A.aC L (by simp;omega);have F:aB [b,rb] w f:=Z.trans (L.mono (by simp;omega));obtain⟨a,cap,rfl⟩:=aW JJ;have c7:zC f rb 7 (.slice a acc.length cap):=I.cell 7;have f7:=I.fz 7;have H2:At f b t p:=R;have N:RT f rb ⟨d,rc,tb,ek,wt,ev,rp,.slice a acc.length cap,co⟩:=I;have j:ML w.heap.size f (.slice a acc.length cap) acc:=JJ;have gD:=F.size;have FJ:=N.lt;clear R L I JJ q z A Z;cases x2
  case false =>
   have n:mo l=(acc,false,p):=by rw[J];rfl
   unfold ac8;go_wp2;go_ret;rw[n];refine⟨rfl,H2.aC (S:=[]) ?_ (by simp),⟨_,N.aC (S:=[]) ?_ (by simp),j.aC (S:=[]) ?_ (by simp)⟩,Y,F.alloc _⟩
   all_goals exact zJ
  case true =>
  by_cases h4:4<=acc.length
  .have n:mo l=(acc,false,p):=by rw[J];simp[h4]
   unfold ac8;go_wp2;go_ret;rw[n];refine⟨rfl,H2.aC (S:=[]) ?_ (by simp),⟨_,N.aC (S:=[]) ?_ (by simp),j.aC (S:=[]) ?_ (by simp)⟩,Y,F.alloc _⟩
   all_goals exact zJ
  have n:wP m (acc++[x1]) p=mo l:=by rw[J];simp[h4]
  have W:Value.ownBlock (.slice a acc.length cap)≠some rb:=λe=>by have:=j.lt _ e;omega
  have ab:Value.ownBlock (.slice a acc.length cap)≠some b:=λe=>by have:=j.lt _ e;omega
  have am:Value.ownBlock (.slice a acc.length cap)≠some f.heap.size:=λe=>by have:=j.lt _ e;omega
  have g1:∀o:Obj,(f.alloc o).drew.frozen? (zB rb 7)=false:=λo=>((((aB.refl [] f).alloc o).drew).frozen FJ (by simp)).trans f7
  have g2:∀o O:Obj,((f.alloc o).alloc O).drew.frozen? (zB rb 7)=false:=λo O=>(((((aB.refl [] f).alloc o).alloc O).drew).frozen FJ (by simp)).trans f7
  unfold ac8;obtain⟨D,C,B⟩:=x1;go_wp2_with fail
  go_region_law ((refine step_append_lies _ (by rfl) _ _ _ (by rfl) w.heap.size 140 i0 _ 3 40 Tryz.underlying79 hi Qa Yk Il rfl (by omega) (.slice a acc.length cap) acc.length (mv acc) (by rfl) (by exact(j.alloc _).alloc _) (zA (f.heap.size+1)) 1 1 (Bb (D,C,B)) (by rfl) (by rfl) (World.news_of_block (cs:=(Bb (D,C,B)).toArray) (t:=140) (fr:=(0,0)) (by exact Ik _ _ _)) (by simp[Value.oneCell',Bb]) (by omega) (by unfold maxLen;omega) (by omega) (by simp;omega) (f.heap.size+2) (by simp) ?_;intro T X E bT M U aL;have c4:=(M.cell_far (zB rb 7) (by simp;omega) (Ne.symm W));have f4:=(M.frozen_far (zB rb 7) (by simp;omega) (Ne.symm W));have f5:=f4.trans (g2 _ _)))
  all_goals
   have HO:World.grownBy _ E (Value.ownBlock (.slice a acc.length cap)):=M;have HO4:E.ownsRow w.heap.size 140 3 (zS T (acc.length+1) X) (acc.length+1) (mv acc++Bb (D,C,B)):=bT;clear M bT;go_wp2;go_roundg m
   .have F4:=aB.fo HO;have A4:At E b t p:=(H2.aC (S:=[]) ((zJ.alloc _).drew) (by simp)).aC F4 (by simpa[a0H] using λe=>ab e);have R4:RT E rb ⟨d,rc,tb,ek,wt,ev,rp,.slice a acc.length cap,co⟩:=(N.aC (S:=[]) ((zJ.alloc _).drew) (by simp)).aC F4 (by simpa[a0H] using λe=>W e);refine⟨acc++[(D,C,B)],p,zS T (acc.length+1) X,by simp;omega,by simp;omega,R4.set 7 _ _ rfl,?_,n,?_,?_⟩
    .have:=ownsRow_setCell_below HO4 (a:=(zB rb 7)) jW (zS T (acc.length+1) X)
     simpa[ML,mv] using this
    .exact A4.aC (S:=[rb]) (zK.setCell (by simp) _) (by simp;omega)
    exact((((F.alloc _).alloc _).drew).grown HO (λk hk=>Or.inr (j.lt _ hk).1)).setCell (by simp) _
   omega
def aB.new(h:aB [] a w)(k:aB S w w')(d:∀x,x∈S->a.heap.size<=x):aB [] a w' :=
 ⟨k.os.trans h.os,k.tape.trans h.tape,k.output.trans h.output,a0h h.size k.size,λi b _=>(k.block i (a0t b h.size) (λc=>by have:=d i c;omega)).trans (h.block i b (by simp))⟩
theorem ML.base{base:Nat}(h:ML base w v L)(hb:base'<=base):ML base' w v L:=by
 refine⟨h.1,?_⟩;rcases h.2 with a|⟨g,cap,cur,rfl,b,rest⟩
 .exact .inl a
 exact .inr ⟨g,cap,cur,rfl,by omega,rest⟩
def aV:RV:=⟨0,[],false,zN,0,0,0,zN,false⟩
def lC:LB:=[114,111,117,116,101,32]
def iq:LB:=[32,99,111,110,116,105,110,117,101]
structure CR where
 d:Nat
 rc:LB
 tb:Bool
 jM:List LB
 wt:Int
 ev:Int
 rp:Int
 ifs:List CM
 co:Bool
structure Jr(base:Nat)(w:World)(v:RV)(c:CR):Prop where
 d:v.d=c.d
 rc:v.rc=c.rc
 tb:v.tb=c.tb
 Im:SL base w v.ek c.jM
 wt:v.wt=c.wt
 ev:v.ev=c.ev
 rp:v.rp=c.rp
 ifs:ML base w v.iJ c.ifs
 co:v.co=c.co
def bO:LB->Nat × LB
 | []=>(0,[])
 | c::r=>if c==32 then ((bO r).1+1,(bO r).2) else (0,c::r)
def gM(t:LB):Option CR :=
 let l0:=(bO t).2
 if aQ lC l0 then
  let a:=eZ (aK lC l0)
  if a.2.1 then
   let b:=lK a.2.2
   if b.ok then
    let c:=dN b.rest
    if c.ok then
     let m:=mo c.rest
     if m.2.1 then
      if (aK iq m.2.2).isEmpty then some ⟨(bO t).1,a.1,b.tells,b.names,c.wt,c.ev,c.rp,m.1,aQ iq m.2.2⟩ else none
     else none
    else none
   else none
  else none
 else none
theorem aln(l:LB):aQ [32] l=(match l with | c::_=>c==32 | []=>false):=by
 unfold aQ;cases l with
 | nil=>rfl
 | cons c r=>simp[List.isPrefixOf];rw[a0T];simp;exact eq_comm
theorem WN(c:UInt8)(r:LB)(h:(c==32)=true):bO (c::r)=((bO r).1+1,(bO r).2):=by
 conv=>lhs;unfold bO
 rw[h];rfl
theorem aad(c:UInt8)(r:LB)(h:(c==32)=false):bO (c::r)=(0,c::r):=by
 conv=>lhs;unfold bO
 rw[h];rfl
def ao8(w:World)(a b c:Obj):(((w.alloc a).alloc b).alloc c).heap[w.heap.size+1+1]?=some c:=by have:=heap_alloc_new ((w.alloc a).alloc b) c;rw[<-this];simp
def ao9(w:World)(a b c:Obj):(((w.alloc a).alloc b).alloc c).heap[w.heap.size+1]?=some b:=by rw[Below.heap_alloc _ _ _ (by simp)];have:=heap_alloc_new (w.alloc a) b;rw[<-this];simp
def apa(w:World)(a b c:Obj):(((w.alloc a).alloc b).alloc c).heap[w.heap.size]?=some a:=by rw[Below.heap_alloc _ _ _ (by simp;omega),Below.heap_alloc _ _ _ (by simp)];exact heap_alloc_new w a
def RT.apb {r:RV}(h:RT w rb r)(d:Int)(rc:LB)(tb:Bool)(ek:Value)(wt ev rp:Int)(iJ:Value)(co:Bool) :
 RT (((((((((w.setCell (zA rb) (zI d)).setCell (zB rb 1) (zT rc)).setCell (zB rb 2) (.bool tb)).setCell (zB rb 3) ek).setCell (zB rb 4) (zI wt)).setCell (zB rb 5) (zI ev)).setCell (zB rb 6) (zI rp)).setCell (zB rb 7) iJ).setCell (zB rb 8) (.bool co)) rb ⟨d,rc,tb,ek,wt,ev,rp,iJ,co⟩ :=
 ((((((((h.set 0 _ { r with d:=d } rfl).set 1 _ { r with d:=d,rc:=rc } rfl).set 2 _ { r with d:=d,rc:=rc,tb:=tb } rfl).set 3 _ { r with d:=d,rc:=rc,tb:=tb,ek:=ek } rfl).set 4 _ { r with d:=d,rc:=rc,tb:=tb,ek:=ek,wt:=wt } rfl).set 5 _ { r with d:=d,rc:=rc,tb:=tb,ek:=ek,wt:=wt,ev:=ev } rfl).set 6 _ { r with d:=d,rc:=rc,tb:=tb,ek:=ek,wt:=wt,ev:=ev,rp:=rp } rfl).set 7 _ { r with d:=d,rc:=rc,tb:=tb,ek:=ek,wt:=wt,ev:=ev,rp:=rp,iJ:=iJ } rfl).set 8 _ _ rfl
def aB.apb(h:aB S a w)(hb:a.heap.size<=rb)(k j i g f e d c b:Value):aB S a (((((((((w.setCell (zA rb) k).setCell (zB rb 1) j).setCell (zB rb 2) i).setCell (zB rb 3) g).setCell (zB rb 4) f).setCell (zB rb 5) e).setCell (zB rb 6) d).setCell (zB rb 7) c).setCell (zB rb 8) b) :=
 ((((((((h.setCell (Or.inr hb) _).setCell (Or.inr hb) _).setCell (Or.inr hb) _).setCell (Or.inr hb) _).setCell (Or.inr hb) _).setCell (Or.inr hb) _).setCell (Or.inr hb) _).setCell (Or.inr hb) _).setCell (Or.inr hb) _
def aB.apc(h:aB [rb] a w)(n:Nat)(k j i g f e d c b:Value):aB [rb] a ((((((((((w.drewN n).setCell (zA rb) k).setCell (zB rb 1) j).setCell (zB rb 2) i).setCell (zB rb 3) g).setCell (zB rb 4) f).setCell (zB rb 5) e).setCell (zB rb 6) d).setCell (zB rb 7) c).setCell (zB rb 8) b) :=
 (((((((((h.drewN n).setCell (by simp) _).setCell (by simp) _).setCell (by simp) _).setCell (by simp) _).setCell (by simp) _).setCell (by simp) _).setCell (by simp) _).setCell (by simp) _).setCell (by simp) _
theorem agZ {rv:RV}(h:RT w rb rv):(loadVar 81 (zA rb)).run Tryz.prog w=.ok (.agg rv.cells) w:=by obtain⟨d,rc,tb,ek,wt,ev,rp,iJ,co⟩:=rv;have gT:zC w rb 0 (zI d):=h.cell 0;have e:zC w rb 1 (zT rc):=h.cell 1;have c:zC w rb 2 (.bool tb):=h.cell 2;have b:zC w rb 3 ek:=h.cell 3;have f:zC w rb 4 (zI wt):=h.cell 4;have j:zC w rb 5 (zI ev):=h.cell 5;have g:zC w rb 6 (zI rp):=h.cell 6;have i:zC w rb 7 iJ:=h.cell 7;have a:zC w rb 8 (.bool co):=h.cell 8;simp[go_sem,RV.cells,gT,e,c,b,f,j,g,i,a]
def qw {rv:RV} {ok:Bool}(h:RT w rb rv)(b:tmps.getD 2 undef=zP rb)(a:tmps.getD 3 undef=.bool ok) :
 (results Tryz.f76 tmps).run Tryz.prog w=.ok (.tuple #[.agg rv.cells,.bool ok]) w:=by
 rw[results_cell_tmp Tryz.results76,b,a];simp[asAddr,agZ h]
def aae(t:LB)(w:World)(ht:t.length<=1048576) :
 zF 76 #[zT t] w λe w'=>aB [] w w'/\∃rv,(∃a n c,rv.ek=.slice a n c)/\(∃a n c,rv.iJ=.slice a n c) /\
  e=zQ #[.agg rv.cells,.bool (gM t).isSome]/\∀c,gM t=some c->Jr w.heap.size w' rv c:=by
 have Zj:At (((w.alloc (Obj.cells aV.cells 81)).alloc (Obj.cells #[Value.string (bs t),Value.int IntKind.i64 0] 217)).alloc (Obj.cells aV.cells 81)) (w.heap.size+1) t t :=
  ⟨0,⟨ao9 _ _ _ _,a1G _,ht⟩,rfl⟩
 have C:RT (((w.alloc (Obj.cells aV.cells 81)).alloc (Obj.cells #[Value.string (bs t),Value.int IntKind.i64 0] 217)).alloc (Obj.cells aV.cells 81)) (w.heap.size+1+1) aV:=ao8 _ _ _ _;have EC:RT (((w.alloc (Obj.cells aV.cells 81)).alloc (Obj.cells #[Value.string (bs t),Value.int IntKind.i64 0] 217)).alloc (Obj.cells aV.cells 81)) w.heap.size aV:=apa _ _ _ _;have Kc:aB [] w (((w.alloc (Obj.cells aV.cells 81)).alloc (Obj.cells #[Value.string (bs t),Value.int IntKind.i64 0] 217)).alloc (Obj.cells aV.cells 81)):=(zJ.alloc _).alloc _;have A0:Z_ (_/\_/\_/\_):=⟨Zj,C,EC,Kc⟩;clear Zj C EC Kc;delta zF;go_in
 go_wp2_with fail
 go_loopg [] t.length (λk wr=>∃(l:LB) (d:Nat),l.length<=k/\d+l.length<=t.length/\(bO l).1+d=(bO t).1/\(bO l).2=(bO t).2/\At wr (w.heap.size+1) t l/\RT wr (w.heap.size+1+1) { aV with d:=d }/\RT wr w.heap.size aV/\aB [] w wr)
 exact⟨t,0,a0b _,by omega,by omega,rfl,A0.o.1,A0.o.2.1,A0.o.2.2.1,A0.o.2.2.2⟩
 case round =>
 clear A0;obtain⟨l,d,PW,Ih,gJ,ll,bq,zV,C,bH⟩:=hrel;have Hd:Z_ ((bO l).1+d=(bO t).1/\(bO l).2=(bO t).2):=⟨gJ,ll⟩;have HA:Z_ (At wr (w.heap.size+1) t l):=bq;have HR:Z_ (RT wr (w.heap.size+1+1) { aV with d:=d }):=zV;have H0:Z_ (RT wr w.heap.size aV):=C;have Qb:Z_ (aB [] w wr):=bH;clear gJ ll bq zV C bH;go_wp2_with fail
 refine(gX (w.heap.size+1) t l [32] _ HA.o (by simp)).mono ?_;rintro e T ⟨rfl,h1,aZ⟩;have H1:Z_ (At T (w.heap.size+1) t (aK [32] l)):=h1;have R1:Z_ (RT T (w.heap.size+1+1) { aV with d:=d }):=HR.o.aC aZ (by simp);have M:Z_ (RT T w.heap.size aV):=H0.o.aC aZ (by simp);have sZ:Z_ (aB [] w T):=Qb.o.new aZ (by simp);clear h1 aZ HA HR H0 Qb;cases g:aQ [32] l
 case true =>
  obtain⟨c,r,rfl⟩:∃c r,l=c::r:=by
   cases l with
   | nil=>cases g
   | cons c r=>exact⟨c,r,rfl⟩
  have I:(c==32)=true:=by rw[aln]at g;exact g
  have Hr:Z_ (aK [32] (c::r)=r):=by show aK [32] (c::r)=r;unfold aQ at g;unfold aK;rw[a0m g];rfl
  rw[Hr.o]at H1;simp only[a0r]at PW Ih;have c0:zC T (w.heap.size+1+1) 0 (zI d):=R1.o.cell 0;have f0:=R1.o.fz 0;have F:Z_ ((bO r).1+(d+1)=(bO t).1/\(bO r).2=(bO t).2):=by have:=Hd.o;rw[WN c r I]at this;exact⟨by have:=this.1;simp only at this;omega,this.2⟩
  clear Hd g;go_wp2;go_roundg (gk-1)
  .refine⟨r,d+1,by omega,by omega,F.o.1,F.o.2,?_,?_,?_,?_⟩
   .exact H1.o.aC (S:=[w.heap.size+1+1]) (zK.setCell (by simp) _) (by simp)
   .exact R1.o.set 0 _ _ rfl
   .exact M.o.aC (S:=[w.heap.size+1+1]) (zK.setCell (by simp) _) (by simp;omega)
   exact sZ.o.setCell (Or.inr (by simp;omega)) _
  omega
 case false =>
 rw[jL g]at H1;have F:Z_ (d=(bO t).1/\l=(bO t).2):=by
  have:=Hd.o;cases l with
  | nil=>exact⟨by have:=this.1;simp[bO]at this;exact this,this.2⟩
  | cons c r=>rw[aln]at g;rw[aad c r g]at this;exact⟨by simpa using this.1,by simpa using this.2⟩
 clear Hd g;go_wp2_with fail
 refine(gX (w.heap.size+1) t l lC _ H1.o (by simp[lC])).mono ?_;rintro e B ⟨rfl,h2,aR⟩;have HA:Z_ (At B (w.heap.size+1) t (aK lC l)):=h2;have R1':Z_ (RT B (w.heap.size+1+1) { aV with d:=d }):=R1.o.aC aR (by simp);have b:Z_ (RT B w.heap.size aV):=M.o.aC aR (by simp);have i:Z_ (aB [] w B):=sZ.o.new aR (by simp);clear h2 aR H1 R1 M sZ;cases g:aQ lC l
 case false =>
  have H:Z_ (gM t=none):=by show gM t=none;unfold gM;rw[<-F.o.2];simp[g]
  have gT:zC B w.heap.size 0 (zI 0):=b.o.cell 0;have fM:zC B w.heap.size 1 (.string (bs [])):=b.o.cell 1;have Z:zC B w.heap.size 2 (.bool false):=b.o.cell 2;have R:zC B w.heap.size 3 zN:=b.o.cell 3;have Yl:zC B w.heap.size 4 (zI 0):=b.o.cell 4;have Fu:zC B w.heap.size 5 (zI 0):=b.o.cell 5;have Sa:zC B w.heap.size 6 (zI 0):=b.o.cell 6;have Nw:zC B w.heap.size 7 zN:=b.o.cell 7;have D:zC B w.heap.size 8 (.bool false):=b.o.cell 8;have Sv:=b.o.fz;go_wp2;refine bodyPost_ret (qw (rv:=aV) (ok:=false) (rb:=w.heap.size) ?_ (by rfl) (by rfl)) rfl ?_
  .exact((((((((b.o.set 0 _ aV rfl).set 1 _ aV rfl).set 2 _ aV rfl).set 3 _ aV rfl).set 4 _ aV rfl).set 5 _ aV rfl).set 6 _ aV rfl).set 7 _ aV rfl).set 8 _ aV rfl
  rw[H.o];refine⟨?_,aV,⟨_,_,_,rfl⟩,⟨_,_,_,rfl⟩,rfl,λc h=>by cases h⟩;exact((((((((i.o.setCell (by simp) _).setCell (by simp) _).setCell (by simp) _).setCell (by simp) _).setCell (by simp) _).setCell (by simp) _).setCell (by simp) _).setCell (by simp) _).setCell (by simp) _
 case true =>
 have T1:Z_ (aQ lC l=true):=g;clear g;generalize qR:aK lC l=p at *;have L1:Z_ (aK lC l=p):=qR;clear qR;go_wp2_with fail
 refine(Sm (w.heap.size+1) (w.heap.size+1+1) t p _ _ HA.o R1'.o (by omega)).mono ?_;rintro e A ⟨rfl,h3,Ak,bW⟩;have HA3:Z_ (At A (w.heap.size+1) t (eZ p).2.2):=h3;have R3:Z_ (RT A (w.heap.size+1+1) { aV with d:=d,rc:=(eZ p).1 }):=Ak;have z:Z_ (RT A w.heap.size aV):=b.o.aC bW (by simp;omega);have y:Z_ (aB [] w A):=i.o.new bW (by simp;omega);clear h3 Ak bW HA R1' b i;have b:=z;have i:=y;clear z y;cases g:(eZ p).2.1
 case false =>
  have H:Z_ (gM t=none):=by show gM t=none;unfold gM;rw[<-F.o.2];simp[T1.o,L1.o,g]
  have gT:zC A w.heap.size 0 (zI 0):=b.o.cell 0;have fM:zC A w.heap.size 1 (.string (bs [])):=b.o.cell 1;have Z:zC A w.heap.size 2 (.bool false):=b.o.cell 2;have R:zC A w.heap.size 3 zN:=b.o.cell 3;have Yl:zC A w.heap.size 4 (zI 0):=b.o.cell 4;have Fu:zC A w.heap.size 5 (zI 0):=b.o.cell 5;have Sa:zC A w.heap.size 6 (zI 0):=b.o.cell 6;have Nw:zC A w.heap.size 7 zN:=b.o.cell 7;have D:zC A w.heap.size 8 (.bool false):=b.o.cell 8;have Sv:=b.o.fz;go_wp2;refine bodyPost_ret (qw (rv:=aV) (ok:=false) (rb:=w.heap.size) ?_ (by rfl) (by rfl)) rfl ?_
  .exact((((((((b.o.set 0 _ aV rfl).set 1 _ aV rfl).set 2 _ aV rfl).set 3 _ aV rfl).set 4 _ aV rfl).set 5 _ aV rfl).set 6 _ aV rfl).set 7 _ aV rfl).set 8 _ aV rfl
  rw[H.o];refine⟨?_,aV,⟨_,_,_,rfl⟩,⟨_,_,_,rfl⟩,rfl,λc h=>by cases h⟩;exact((((((((i.o.setCell (by simp) _).setCell (by simp) _).setCell (by simp) _).setCell (by simp) _).setCell (by simp) _).setCell (by simp) _).setCell (by simp) _).setCell (by simp) _).setCell (by simp) _
 case true =>
 have T2:Z_ ((eZ p).2.1=true):=g;clear g;generalize oP:(eZ p).2.2=l2 at *;have L2:Z_ ((eZ p).2.2=l2):=oP;clear oP;go_wp2_with fail
 refine(agY (w.heap.size+1) (w.heap.size+1+1) t l2 _ _ HA3.o R3.o (by omega) rfl rfl).mono ?_;rintro e v ⟨rfl,h4,⟨E,Sn,XK⟩,nL⟩;have HA4:Z_ (At v (w.heap.size+1) t (lK l2).rest):=h4;have R4:Z_ (RT v (w.heap.size+1+1) { aV with d:=d,rc:=(eZ p).1,tb:=(lK l2).tells,ek:=E }):=Sn;have S4:Z_ (SL (w.heap.size+1+1+1) v E (lK l2).names):=XK.base (by have:=R3.o.lt;omega);have z:Z_ (RT v w.heap.size aV):=b.o.aC nL (by simp;omega);have y:Z_ (aB [] w v):=i.o.new nL (by simp;omega);clear h4 Sn XK nL HA3 R3 b i;have b:=z;have i:=y;clear z y;cases g:(lK l2).ok
 case false =>
  have H:Z_ (gM t=none):=by show gM t=none;unfold gM;rw[<-F.o.2];simp[T1.o,L1.o,T2.o,L2.o,g]
  have gT:zC v w.heap.size 0 (zI 0):=b.o.cell 0;have fM:zC v w.heap.size 1 (.string (bs [])):=b.o.cell 1;have Z:zC v w.heap.size 2 (.bool false):=b.o.cell 2;have R:zC v w.heap.size 3 zN:=b.o.cell 3;have Yl:zC v w.heap.size 4 (zI 0):=b.o.cell 4;have Fu:zC v w.heap.size 5 (zI 0):=b.o.cell 5;have Sa:zC v w.heap.size 6 (zI 0):=b.o.cell 6;have Nw:zC v w.heap.size 7 zN:=b.o.cell 7;have D:zC v w.heap.size 8 (.bool false):=b.o.cell 8;have Sv:=b.o.fz;go_wp2;refine bodyPost_ret (qw (rv:=aV) (ok:=false) (rb:=w.heap.size) ?_ (by rfl) (by rfl)) rfl ?_
  .exact((((((((b.o.set 0 _ aV rfl).set 1 _ aV rfl).set 2 _ aV rfl).set 3 _ aV rfl).set 4 _ aV rfl).set 5 _ aV rfl).set 6 _ aV rfl).set 7 _ aV rfl).set 8 _ aV rfl
  rw[H.o];refine⟨?_,aV,⟨_,_,_,rfl⟩,⟨_,_,_,rfl⟩,rfl,λc h=>by cases h⟩;exact((((((((i.o.setCell (by simp) _).setCell (by simp) _).setCell (by simp) _).setCell (by simp) _).setCell (by simp) _).setCell (by simp) _).setCell (by simp) _).setCell (by simp) _).setCell (by simp) _
 case true =>
 have T3:Z_ ((lK l2).ok=true):=g;clear g;generalize Y:(lK l2).rest=f at *;have L3:Z_ ((lK l2).rest=f):=Y;clear Y;go_wp2_with fail
 refine(aac (w.heap.size+1) (w.heap.size+1+1) t f _ _ HA4.o R4.o (by omega)).mono ?_;rintro e u ⟨rfl,h5,J,xe⟩;have HA5:Z_ (At u (w.heap.size+1) t (dN f).rest):=h5;have R5:Z_ (RT u (w.heap.size+1+1) { aV with d:=d,rc:=(eZ p).1,tb:=(lK l2).tells,ek:=E,wt:=(dN f).wt,ev:=(dN f).ev,rp:=(dN f).rp }):=J;have S5:Z_ (SL (w.heap.size+1+1+1) u E (lK l2).names):=S4.o.aC xe (by simp);have z:Z_ (RT u w.heap.size aV):=b.o.aC xe (by simp;omega);have y:Z_ (aB [] w u):=i.o.new xe (by simp;omega);clear h5 J xe HA4 R4 b i S4;have b:=z;have i:=y;clear z y;cases g:(dN f).ok
 case false =>
  have H:Z_ (gM t=none):=by show gM t=none;unfold gM;rw[<-F.o.2];simp[T1.o,L1.o,T2.o,L2.o,T3.o,L3.o,g]
  have gT:zC u w.heap.size 0 (zI 0):=b.o.cell 0;have fM:zC u w.heap.size 1 (.string (bs [])):=b.o.cell 1;have Z:zC u w.heap.size 2 (.bool false):=b.o.cell 2;have R:zC u w.heap.size 3 zN:=b.o.cell 3;have Yl:zC u w.heap.size 4 (zI 0):=b.o.cell 4;have Fu:zC u w.heap.size 5 (zI 0):=b.o.cell 5;have Sa:zC u w.heap.size 6 (zI 0):=b.o.cell 6;have Nw:zC u w.heap.size 7 zN:=b.o.cell 7;have D:zC u w.heap.size 8 (.bool false):=b.o.cell 8;have Sv:=b.o.fz;go_wp2;refine bodyPost_ret (qw (rv:=aV) (ok:=false) (rb:=w.heap.size) ?_ (by rfl) (by rfl)) rfl ?_
  .exact((((((((b.o.set 0 _ aV rfl).set 1 _ aV rfl).set 2 _ aV rfl).set 3 _ aV rfl).set 4 _ aV rfl).set 5 _ aV rfl).set 6 _ aV rfl).set 7 _ aV rfl).set 8 _ aV rfl
  rw[H.o];refine⟨?_,aV,⟨_,_,_,rfl⟩,⟨_,_,_,rfl⟩,rfl,λc h=>by cases h⟩;exact((((((((i.o.setCell (by simp) _).setCell (by simp) _).setCell (by simp) _).setCell (by simp) _).setCell (by simp) _).setCell (by simp) _).setCell (by simp) _).setCell (by simp) _).setCell (by simp) _
 case true =>
 have T4:Z_ ((dN f).ok=true):=g;clear g;generalize X:(dN f).rest=x at *;have L4:Z_ ((dN f).rest=x):=X;clear X;go_wp2_with fail
 refine(Sr (w.heap.size+1) (w.heap.size+1+1) t x _ _ HA5.o R5.o (by omega) rfl).mono ?_;rintro e s ⟨rfl,h6,⟨N,Up,V⟩,_,Fs⟩;have HA6:Z_ (At s (w.heap.size+1) t (mo x).2.2):=h6;have R6:Z_ (RT s (w.heap.size+1+1) { aV with d:=d,rc:=(eZ p).1,tb:=(lK l2).tells,ek:=E,wt:=(dN f).wt,ev:=(dN f).ev,rp:=(dN f).rp,iJ:=N }):=Up;have S6:Z_ (SL (w.heap.size+1+1+1) s E (lK l2).names):=S5.o.aC Fs (by simp);have M6:Z_ (ML (w.heap.size+1+1+1) s N (mo x).1):=V.base (by have:=R5.o.lt;omega);have z:Z_ (RT s w.heap.size aV):=b.o.aC Fs (by simp;omega);have y:Z_ (aB [] w s):=i.o.new Fs (by simp;omega);clear h6 Up V Fs HA5 R5 b i S5;have b:=z;have i:=y;clear z y;cases g:(mo x).2.1
 case false =>
  have H:Z_ (gM t=none):=by show gM t=none;unfold gM;rw[<-F.o.2];simp[T1.o,L1.o,T2.o,L2.o,T3.o,L3.o,T4.o,L4.o,g]
  have gT:zC s w.heap.size 0 (zI 0):=b.o.cell 0;have fM:zC s w.heap.size 1 (.string (bs [])):=b.o.cell 1;have Z:zC s w.heap.size 2 (.bool false):=b.o.cell 2;have R:zC s w.heap.size 3 zN:=b.o.cell 3;have Yl:zC s w.heap.size 4 (zI 0):=b.o.cell 4;have Fu:zC s w.heap.size 5 (zI 0):=b.o.cell 5;have Sa:zC s w.heap.size 6 (zI 0):=b.o.cell 6;have Nw:zC s w.heap.size 7 zN:=b.o.cell 7;have D:zC s w.heap.size 8 (.bool false):=b.o.cell 8;have Sv:=b.o.fz;go_wp2;refine bodyPost_ret (qw (rv:=aV) (ok:=false) (rb:=w.heap.size) ?_ (by rfl) (by rfl)) rfl ?_
  .exact((((((((b.o.set 0 _ aV rfl).set 1 _ aV rfl).set 2 _ aV rfl).set 3 _ aV rfl).set 4 _ aV rfl).set 5 _ aV rfl).set 6 _ aV rfl).set 7 _ aV rfl).set 8 _ aV rfl
  rw[H.o];refine⟨?_,aV,⟨_,_,_,rfl⟩,⟨_,_,_,rfl⟩,rfl,λc h=>by cases h⟩;exact((((((((i.o.setCell (by simp) _).setCell (by simp) _).setCell (by simp) _).setCell (by simp) _).setCell (by simp) _).setCell (by simp) _).setCell (by simp) _).setCell (by simp) _).setCell (by simp) _
 case true =>
 have T5:Z_ ((mo x).2.1=true):=g;clear g;generalize W:(mo x).2.2=j at *;have L5:Z_ ((mo x).2.2=j):=W;clear W;go_wp2_with fail
 refine(gX (w.heap.size+1) t j iq _ HA6.o (by simp[iq])).mono ?_;rintro e q ⟨rfl,h7,P⟩;have HA7:Z_ (At q (w.heap.size+1) t (aK iq j)):=h7;have R7:Z_ (RT q (w.heap.size+1+1) { aV with d:=d,rc:=(eZ p).1,tb:=(lK l2).tells,ek:=E,wt:=(dN f).wt,ev:=(dN f).ev,rp:=(dN f).rp,iJ:=N }):=R6.o.aC P (by simp);have S7:Z_ (SL (w.heap.size+1+1+1) q E (lK l2).names):=S6.o.aC P (by simp);have M7:Z_ (ML (w.heap.size+1+1+1) q N (mo x).1):=M6.o.aC P (by simp);have z:Z_ (RT q w.heap.size aV):=b.o.aC P (by simp);have y:Z_ (aB [] w q):=i.o.new P (by simp);clear h7 P HA6 R6 b i S6 M6;have b:=z;have i:=y;clear z y;have c8:zC q (w.heap.size+1+1) 8 (.bool false):=R7.o.cell 8;have f8:=R7.o.fz 8;go_wp2_with fail
 have G:Z_ (RT (q.setCell (zB (w.heap.size+1+1) 8) (.bool (aQ iq j))) (w.heap.size+1+1) ⟨d,(eZ p).1,(lK l2).tells,E,(dN f).wt,(dN f).ev,(dN f).rp,N,aQ iq j⟩):=R7.o.set 8 _ _ rfl;have O:aB [w.heap.size+1+1] q (q.setCell (zB (w.heap.size+1+1) 8) (.bool (aQ iq j))):=zK.setCell (by simp) _;have HA8:Z_ (At (q.setCell (zB (w.heap.size+1+1) 8) (.bool (aQ iq j))) (w.heap.size+1) t (aK iq j)):=HA7.o.aC O (by simp);have S8:Z_ (SL (w.heap.size+1+1+1) (q.setCell (zB (w.heap.size+1+1) 8) (.bool (aQ iq j))) E (lK l2).names):=S7.o.aC O (by simp);have M8:Z_ (ML (w.heap.size+1+1+1) (q.setCell (zB (w.heap.size+1+1) 8) (.bool (aQ iq j))) N (mo x).1):=M7.o.aC O (by simp);have R08:Z_ (RT (q.setCell (zB (w.heap.size+1+1) 8) (.bool (aQ iq j))) w.heap.size aV):=b.o.aC O (by simp;omega);have HF8:Z_ (aB [] w (q.setCell (zB (w.heap.size+1+1) 8) (.bool (aQ iq j)))):=i.o.new O (by simp;omega);clear O b i c8 f8 HA7 R7 S7 M7;have b:=R08;have i:=HF8;clear R08 HF8;generalize q.setCell (zB (w.heap.size+1+1) 8) (.bool (aQ iq j))=m at *;obtain⟨a4,Kq,rfl⟩:=S8.o.shape;obtain⟨a6,L,rfl⟩:=aW M8;have C:zC m (w.heap.size+1+1) 0 (zI d):=G.o.cell 0;have lz:zC m (w.heap.size+1+1) 1 (.string (bs (eZ p).1)):=G.o.cell 1;have lq:zC m (w.heap.size+1+1) 2 (.bool (lK l2).tells):=G.o.cell 2;have Ak:zC m (w.heap.size+1+1) 3 (.slice a4 (lK l2).names.length Kq):=G.o.cell 3;have Sn:zC m (w.heap.size+1+1) 4 (zI (dN f).wt):=G.o.cell 4;have J:zC m (w.heap.size+1+1) 5 (zI (dN f).ev):=G.o.cell 5;have Up:zC m (w.heap.size+1+1) 6 (zI (dN f).rp):=G.o.cell 6;have hr7:zC m (w.heap.size+1+1) 7 (.slice a6 (mo x).1.length L):=G.o.cell 7;have hr8:zC m (w.heap.size+1+1) 8 (.bool (aQ iq j)):=G.o.cell 8;have gT:zC m w.heap.size 0 (zI 0):=b.o.cell 0;have fM:zC m w.heap.size 1 (.string (bs [])):=b.o.cell 1;have Z:zC m w.heap.size 2 (.bool false):=b.o.cell 2;have R:zC m w.heap.size 3 zN:=b.o.cell 3;have Yl:zC m w.heap.size 4 (zI 0):=b.o.cell 4;have Fu:zC m w.heap.size 5 (zI 0):=b.o.cell 5;have Sa:zC m w.heap.size 6 (zI 0):=b.o.cell 6;have Nw:zC m w.heap.size 7 zN:=b.o.cell 7;have D:zC m w.heap.size 8 (.bool false):=b.o.cell 8;have Sv:=b.o.fz;go_region_with (go_at_call 107;refine(Z6 (w.heap.size+1) t (aK iq j) _ (by exact HA8)).mono ?_;rintro e w' ⟨rfl,n,rfl⟩)
 all_goals
  go_wp2;refine bodyPost_ret (qw (rv:=⟨d,(eZ p).1,(lK l2).tells,.slice a4 (lK l2).names.length Kq,(dN f).wt,(dN f).ev,(dN f).rp,.slice a6 (mo x).1.length L,aQ iq j⟩) (ok:=(aK iq j).isEmpty) (rb:=w.heap.size) ?_ (by rfl) (by rfl)) rfl ?_
  .exact RT.apb (b.o.drewN _) _ _ _ _ _ _ _ _ _
  have U:(gM t)=if (aK iq j).isEmpty then some ⟨(bO t).1,(eZ p).1,(lK l2).tells,(lK l2).names,(dN f).wt,(dN f).ev,(dN f).rp,(mo x).1,aQ iq j⟩ else none:=by unfold gM;rw[<-F.o.2];simp[T1.o,L1.o,T2.o,L2.o,T3.o,L3.o,T4.o,L4.o,T5.o,L5.o]
  refine⟨aB.apb (i.o.drewN _) (a0b _) _ _ _ _ _ _ _ _ _,⟨d,(eZ p).1,(lK l2).tells,.slice a4 (lK l2).names.length Kq,(dN f).wt,(dN f).ev,(dN f).rp,.slice a6 (mo x).1.length L,aQ iq j⟩,⟨_,_,_,rfl⟩,⟨_,_,_,rfl⟩,?_,?_⟩
  .rw[U];cases (aK iq j).isEmpty<;>rfl
  intro c I;rw[U]at I;cases he:(aK iq j).isEmpty
  .rw[he]at I;cases I
  rw[he]at I;simp only[a0G,Option.some.injEq]at I;subst I;refine⟨by simp[F.o.1],rfl,rfl,?_,rfl,rfl,rfl,?_,rfl⟩
  .exact SL.base ((S8.o.aC (S:=[w.heap.size]) (aB.apc zK _ _ _ _ _ _ _ _ _ _) (by simp;omega))) (by omega)
  exact ML.base ((M8.o.aC (S:=[w.heap.size]) (aB.apc zK _ _ _ _ _ _ _ _ _ _) (by simp;omega))) (by omega)
def mU:LB:=[114,101,99,101,105,118,101,114,115]
def DW:Nat->List LB->LB->Option (List LB)
 | 0,_,_=>none
 | k+1,acc,l =>
   if aQ [32] l then
    let nm:=(aK [32] l).takeWhile bK
    if !(aJ nm)||decide (8<=acc.length) then none else DW k (acc++[nm]) ((aK [32] l).dropWhile bK)
   else if decide (0<acc.length)&&l.isEmpty then some acc else none
def iW(t:LB):Option (List LB):=if aQ mU t then DW 10 [] (aK mU t) else none
def Qc(t:LB)(w:World)(ht:t.length<=1048576) :
 zF 75 #[zT t] w λe w'=>aB [] w w'/\∃H L,e=zQ #[H,.bool (iW t).isSome]/\SL w.heap.size w' H L/\∀d,iW t=some d->L=d:=by
 have X:At (w.alloc (Obj.cells #[Value.string (bs t),Value.int IntKind.i64 0] 217)) w.heap.size t t :=
  ⟨0,⟨bD _ _,a1G _,ht⟩,rfl⟩
 have A0:At (w.alloc (Obj.cells #[Value.string (bs t),Value.int IntKind.i64 0] 217)) w.heap.size t t:=X;clear X;delta zF;go_in
 go_wp2_with fail
 refine(gX w.heap.size t t mU _ A0 (by simp[mU])).mono ?_;rintro e u ⟨rfl,C,q⟩;have x:aB [] w u:=((aB.refl [] w).alloc _).new q (by simp);have U:w.heap.size+1<=u.heap.size:=by have:=q.size;simpa using this
 cases A:aQ mU t
 case false =>
  have a:iW t=none:=by show iW t=none;unfold iW;rw[A];rfl
  clear C q;go_wp2;go_ret2;rw[a];exact⟨x,_,[],rfl,SL.nil _ _,λd h=>by cases h⟩
 case true =>
 have a:iW t=DW 10 [] (aK mU t):=by show iW t=_;unfold iW;rw[A];rfl
 have H1:At u w.heap.size t (aK mU t):=C;clear C q A;go_wp2_with fail
 go_loopg [5] 10 (λk v wr=>∃(acc:List LB) (b:LB) (g cap:Nat),acc.length+k=10/\acc.length<=8/\v=zS g acc.length cap/\w.heap.size+1<=g/\SL (w.heap.size+1) wr v acc/\DW k acc b=iW t/\At wr w.heap.size t b/\aB [] w wr/\w.heap.size+1<=wr.heap.size)
 exact⟨[],aK mU t,_,_,by simp,by simp,rfl,U,World.ownsRow_lit _ #[] 0 U (by unfold maxLen;omega) (by simp),a.symm,H1.aC zG (by simp),x.alloc _,by simp;omega⟩
 .obtain⟨acc,b,g,cap,N,Yf,rfl,hg,I,i,V,W,hz⟩:=hrel;have Y:SL (w.heap.size+1) wr (zS g acc.length cap) acc:=I;have G:DW gk acc b=iW t:=i;have Ha:At wr w.heap.size t b:=V;have Z:aB [] w wr:=W;clear I i V W H1 x a;obtain⟨m,rfl⟩:∃m,gk=m+1:=⟨gk-1,by omega⟩;go_wp2_with fail
  refine(gX w.heap.size t b [32] _ Ha (by simp)).mono ?_;rintro e j ⟨rfl,R,r⟩;have l:SL (w.heap.size+1) j (zS g acc.length cap) acc:=Y.aC r (by simp);have o:aB [] w j:=Z.new r (by simp);have gD:w.heap.size+1<=j.heap.size:=by have:=r.size;omega
  have s:At j w.heap.size t (aK [32] b):=R;clear R r Y Z Ha;cases ht:aQ [32] b
  case false =>
   rw[jL ht]at s;have a:iW t=if decide (0<acc.length)&&b.isEmpty then some acc else none:=by
    rw[<-G];conv=>lhs;unfold DW
    rw[ht];rfl
   by_cases T:0<acc.length
   .have D:decide ((0:Int)<(acc.length:Int))=true:=a0g (by omega)
    go_wp2_with (go_at_call 107;refine(Z6 w.heap.size t b _ (by exact s)).mono ?_;rintro e w' ⟨rfl,n,rfl⟩)
    go_ret2;refine⟨o.drewN _,_,acc,?_,(l.aC (S:=[]) (zK.drewN _) (by simp)).base (by omega),?_⟩
    .rw[a];cases b<;>simp[T]<;>rfl
    intro d h;rw[a]at h;cases b<;>simp_all
   have D:decide ((0:Int)<(acc.length:Int))=false:=a0f (by omega);have M:iW t=none:=by rw[a];simp[T]
   go_wp2;go_ret2;refine⟨o,_,acc,?_,l.base (by omega),?_⟩
   .rw[M];rfl
   intro d h;rw[M]at h;cases h
  case true =>
  generalize J:aK [32] b=c at *;have y:iW t=(if !(aJ (c.takeWhile bK))||decide (8<=acc.length) then none else DW m (acc++[c.takeWhile bK]) (c.dropWhile bK)):=by
   rw[<-G];conv=>lhs;unfold DW
   rw[a0m ht,J]
  clear J G ht;go_wp2_with fail
  refine(vC w.heap.size t c _ s).mono ?_;rintro e f ⟨rfl,P,p⟩;have H3:At f w.heap.size t (c.dropWhile bK):=P;have E:aB [] w f:=o.new p (by simp);have F:SL (w.heap.size+1) f (zS g acc.length cap) acc:=l.aC p (by simp);have xg:w.heap.size+1<=f.heap.size:=by have:=p.size;omega
  clear P p l o s;cases B:aJ (c.takeWhile bK)
  .have a:iW t=none:=by rw[y,B];rfl
   go_wp2;go_ret2;refine⟨E,_,[],?_,SL.nil _ _,?_⟩
   .rw[a];rfl
   intro d h;rw[a]at h;cases h
  by_cases O:8<=acc.length
  .have a:iW t=none:=by rw[y,B];simp[O]
   go_wp2;go_ret2;refine⟨E,_,[],?_,SL.nil _ _,?_⟩
   .rw[a];rfl
   intro d h;rw[a]at h;cases h
  have a:DW m (acc++[c.takeWhile bK]) (c.dropWhile bK)=iW t:=by rw[y,B];simp[O]
  go_wp2_with (first | (at_builtin;refine rA _ rfl _ _ rfl (w.heap.size+1) (zS g acc.length cap) acc (c.takeWhile bK) f.heap.size rfl (F.aC zG (by simp)) rfl (by simp) (by omega) (by simp;omega) ?_;intro g2 aU w4 qj z jR))
  go_roundg m
  .refine⟨acc++[c.takeWhile bK],_,g2,aU,by simp;omega,by simp;omega,by simp,jR,by simpa using qj,a,?_,?_,?_⟩
   .refine At.aC (S:=[g]) (H3.aC zG (by simp)) (aB.Bt z) (by simp;omega)
   .exact(E.alloc _).grown z (λk N=>by simp[Value.ownBlock]at N;omega)
   have:=z.size;simp at this;omega
  omega
def Apart(w:World)(base:Nat)(S:LN):Prop:=∀k,k∈S->k<base\/∃cur a fz,w.heap[k]?=some (.cells cur a fz)/\a≠9/\a≠140
theorem Jr.aC {base:Nat} {v:RV} {c:CR}(h:Jr base w v c)(f:aB S w w')(i:Apart w base S):Jr base w' v c :=
 ⟨h.d,h.rc,h.tb,jJ h.Im f (λk g=>(i k g).imp id (λ⟨a,b,c,d,e⟩=>⟨a,b,c,d,e.1⟩)),h.wt,h.ev,h.rp,jJ h.ifs f (λk g=>(i k g).imp id (λ⟨a,b,c,d,e⟩=>⟨a,b,c,d,e.2⟩)),h.co⟩
theorem Jr.base{base:Nat} {v:RV} {c:CR}(h:Jr base w v c)(hb:base'<=base):Jr base' w v c :=
 ⟨h.d,h.rc,h.tb,h.Im.base hb,h.wt,h.ev,h.rp,h.ifs.base hb,h.co⟩
def CB(w:World)(cb:Nat)(vr vt:Value):Prop:=w.heap[cb]?=some (.cells #[vr,vt] 47 (0,0))
theorem CB.c0(h:CB w cb vr vt):zC w cb 0 vr:=by unfold CB at h;simp[World.cell?,h]
theorem CB.c1(h:CB w cb vr vt):zC w cb 1 vt:=by unfold CB at h;simp[World.cell?,h]
theorem CB.fz(h:CB w cb vr vt)(o:Nat):w.frozen? (zB cb o)=false:=by unfold CB at h;simp[World.frozen?,h]
theorem CB.lt(h:CB w cb vr vt):cb<w.heap.size:=(a0c.1 h).1
theorem CB.aC(h:CB w cb vr vt)(f:aB S w w')(a:cb∉S):CB w' cb vr vt:=(f.block cb h.lt a).trans h
def CB.set0(h:CB w cb vr vt)(v:Value):CB (w.setCell (zA cb) v) cb v vt:=by unfold CB at *;simp[World.setCell,a0v,h]
def CB.set1(h:CB w cb vr vt)(v:Value):CB (w.setCell (zB cb 1) v) cb vr v:=by unfold CB at *;simp[World.setCell,a0v,h]
def DX(rv:RV):List Value:=rv.cells.toList
def rvl(R:List RV):List Value:=R.flatMap DX
def RL(base:Nat)(w:World)(v:Value)(R:List RV):Prop:=w.ownsRow base 81 9 v R.length (rvl R)
theorem RL.nil(base:Nat)(w:World):RL base w zN []:=World.ownsRow_nil w base _ 9
def ajM:(Tryz.prog.info? 81).map (λi=>(i.zero,i.size,i.bytes))=some (some (.agg #[zI 0,.string ByteArray.empty,.bool false,zN,zI 0,zI 0,zI 0,zN,.bool false]),9,112):=by kernel_rfl
def acp(cb:Nat)(t:LB)(vr vt:Value)(w:World)(ht:t.length<=1048576)(k:CB w cb vr vt) :
 zF 43 #[zP cb,zI 1,zT t] w λe w'=>aB [cb] w w'/\e=zR (.bool (iW t).isSome)/\∃a L,CB w' cb a vt/\SL w.heap.size w' a L/\∀b,iW t=some b->L=b:=by
 have i:CB w cb vr vt:=k;clear k;delta zF;go_in
 go_wp2_with fail
 refine(Qc t w ht).mono ?_;rintro e f ⟨g,m,L,rfl,j,l⟩;have d:=i.aC g (by simp);have c0:=d.c0;have q:=d.fz 0;have r:=i.lt;have h:CB f cb vr vt:=d;have n:aB [] w f:=g;have c:SL w.heap.size f m L:=j;have p:∀b,iW t=some b->L=b:=l;obtain⟨s,o,rfl⟩:=c.shape;clear d g j l i;go_wp2;go_ret;refine⟨n.nil.setCell (by simp) _,rfl,_,L,h.set0 _,?_,p⟩;exact c.aC (S:=[cb]) (zK.setCell (by simp) _) (by simp;omega)
def acr(cb base:Nat)(line:Int)(t:LB)(vr vt:Value)(R:List RV)(w:World)(ht:t.length<=1048576)(q:CB w cb vr vt)(E:RL base w vt R)(hR:R.length<=1048576)(L:cb<base)(hb:base<=w.heap.size)(hl:(line==1)=false) :
 zF 43 #[zP cb,zI line,zT t] w λe w'=>aB (cb::vt.ownBlock.toList) w w'/\e=zR (.bool (gM t).isSome)/\∃n rv,CB w' cb vr n/\RL base w' n (R++[rv])/\∀c,gM t=some c->Jr w.heap.size w' rv c:=by
 have C:CB w cb vr vt:=q;have HR:RL base w vt R:=E;clear q E;obtain⟨M,N,X,V,Y⟩:=info_parts ajM;delta zF;go_in
 go_wp2_with fail
 refine(aae t w ht).mono ?_;rintro e g ⟨p,⟨d,rc,tb,ek,wt,ev,rp,iJ,co⟩,⟨l,nb,m,I⟩,⟨ai,j,f,G⟩,rfl,D⟩;simp only at I G;subst I G;have aL:=C.lt;have fM:=p.size;obtain⟨a,cap,rfl⟩:=aW HR;have h:CB g cb vr (.slice a R.length cap):=C.aC p (by simp);have J:aB [] w g:=p;have A:RL base g (.slice a R.length cap) R:=fG HR p (by simp);have Z:∀c,gM t=some c->Jr w.heap.size g ⟨d,rc,tb,.slice l nb m,wt,ev,rp,.slice ai j f,co⟩ c:=D;clear p D C;have c1:=h.c1;have U:=h.fz 1;have y:=h.lt;have x:Value.ownBlock (.slice a R.length cap)≠some cb:=λe=>by have:=A.lt _ e;omega
 have am:Value.ownBlock (.slice a R.length cap)≠some g.heap.size:=λe=>by have:=A.lt _ e;omega
 have P:∀o u:Obj,((g.alloc o).alloc u).drew.frozen? (zB cb 1)=false:=λo u=>(((((aB.refl [] g).alloc o).alloc u).drew).frozen y (by simp)).trans U
 have W:RV.cells ⟨d,rc,tb,.slice l nb m,wt,ev,rp,.slice ai j f,co⟩=#[zI d,zT rc,.bool tb,.slice l nb m,zI wt,zI ev,zI rp,.slice ai j f,.bool co]:=rfl;rw[W];go_wp2_with fail
 go_region_law ((refine step_append_lies _ (by rfl) _ _ _ (by rfl) base 81 M _ 9 112 Tryz.underlying45 N X V Y rfl (by omega) (.slice a R.length cap) R.length (rvl R) (by rfl) (by exact(A.alloc _).alloc _) (zA (g.heap.size+1)) 1 1 (DX ⟨d,rc,tb,.slice l nb m,wt,ev,rp,.slice ai j f,co⟩) (by rfl) (by rfl) (World.news_of_block (cs:=RV.cells ⟨d,rc,tb,.slice l nb m,wt,ev,rp,.slice ai j f,co⟩) (t:=81) (fr:=(0,0)) (by exact Ik _ _ _)) (by simp[Value.oneCell',DX,RV.cells]) (by omega) (by unfold maxLen;omega) (by omega) (by simp;omega) (g.heap.size+2) (by simp) ?_;intro v z s F r bq AO;have c4:=(r.cell_far (zB cb 1) (by simp;omega) (Ne.symm x));have T:=(r.frozen_far (zB cb 1) (by simp;omega) (Ne.symm x));have f5:=T.trans (P _ _)))
 all_goals
  have H:World.grownBy _ s (Value.ownBlock (.slice a R.length cap)):=r;have B:s.ownsRow base 81 9 (zS v (R.length+1) z) (R.length+1) (rvl R++DX ⟨d,rc,tb,.slice l nb m,wt,ev,rp,.slice ai j f,co⟩):=F;clear r F;go_wp2;go_ret;have F4:=aB.fo H;have C4:CB s cb vr (.slice a R.length cap):=(h.aC (S:=[]) ((zJ.alloc _).drew) (by simp)).aC F4 (by simpa[a0H] using λe=>x e);refine⟨?_,rfl,zS v (R.length+1) z,⟨d,rc,tb,.slice l nb m,wt,ev,rp,.slice ai j f,co⟩,C4.set1 _,?_,?_⟩
  .refine aB.setCell ?_ (by simp) _
   refine aB.trans (b:=g) J.nil ?_;exact((zJ.alloc _).drew).grown H (λk i=>Or.inl (by simp[i]))
  .have:=ownsRow_setCell_below B (a:=(zB cb 1)) L (zS v (R.length+1) z)
   simpa[RL,rvl] using this
  intro c q;refine(Jr.aC (S:=Value.ownBlock (.slice a R.length cap) |>.toList) (((Z c q).aC (S:=[]) ((zJ.alloc _).drew) (by intro k i;simp at i))) F4 ?_).aC (S:=[cb]) (zK.setCell (by simp) _) (by intro k i;simp at i;exact Or.inl (by omega));intro k i;rw[a0H]at i;refine Or.inl ?_;have O:=Dx HR k i;exact O
def qL(base:Nat)(w:World)(R:List RV)(C:List CR):Prop:=R.length=C.length/\∀(i:Nat) (rv:RV) (c:CR),R[i]?=some rv->C[i]?=some c->Jr base w rv c
theorem qL.aC {base:Nat} {R:List RV} {C:List CR}(h:qL base w R C)(f:aB S w w')(a:Apart w base S):qL base w' R C :=
 ⟨h.1,λi rv c d b=>(h.2 i rv c d b).aC f a⟩
theorem qL.nil(base:Nat)(w:World):qL base w [] []:=⟨rfl,λi rv c h=>by simp at h⟩
theorem qL.snoc {base:Nat} {R:List RV} {C:List CR} {rv:RV} {c:CR}(h:qL base w R C)(f:Jr base w rv c):qL base w (R++[rv]) (C++[c]):=by
 refine⟨by simp[h.1],λi d g a b=>?_⟩
 by_cases e:i<R.length
 .rw[a0s e]at a
  rw[a0s (by rw[<-h.1];exact e)]at b;exact h.2 i d g a b
 rw[a0K (by omega)]at a;rw[a0K (by rw[<-h.1];omega)]at b;rw[<-h.1]at b;have hz:i-R.length=0:=by
  by_cases hz:i-R.length=0
  .exact hz
  rw[a1Z (by simp;omega)]at a;cases a
 rw[hz]at a b;simp at a b;subst a b;exact f
theorem qL.base{base:Nat} {R:List RV} {C:List CR}(h:qL base w R C)(hb:base'<=base):qL base' w R C :=
 ⟨h.1,λi rv c b a=>(h.2 i rv c b a).base hb⟩
def yw:LB->Nat->LB->List LB->List CR->Except Nat (List LB × List CR)
 | [],ln,cur,R,C=>if !(cur.isEmpty)||ln==1 then .error ln else .ok (R,C)
 | c::r,ln,cur,R,C =>
   if c==10 then
    (if ln==1 then (match iW cur with | none=>.error 1|some R'=>yw r 2 [] R' C)
     else (match gM cur with | none=>.error ln|some x=>yw r (ln+1) [] R (C++[x])))
   else yw r ln (cur++[c]) R C
def oV(t:LB):Except Nat (List LB × List CR):=yw t 1 [] [] []
theorem adb(h:CB w cb vr vt):(loadVar 47 (zA cb)).run Tryz.prog w=.ok (.agg #[vr,vt]) w:=by have b:=h.c0;have a:=h.c1;simp[go_sem,b,a]
def ug {ln:Int}(h:CB w rb vr vt)(b:tmps.getD 2 undef=zP rb)(a:tmps.getD 3 undef=zI ln) :
 (results Tryz.f23 tmps).run Tryz.prog w=.ok (.tuple #[.agg #[vr,vt],zI ln]) w:=by
 rw[results_cell_tmp Tryz.results23,b,a];simp[asAddr,adb h]
theorem RL.aC {base:Nat} {R:List RV}(h:RL base w v R)(f:aB S w w')(a:∀k,k∈S->k<base):RL base w' v R:=fG h f a
def Ip {base:Nat} {size:Nat}(h:w.ownsRow base e size v n xs)(k:Nat)(a:v.ownBlock=some k):∃cur fz,w.heap[k]?=some (.cells cur e fz):=by
 rcases h.2 with⟨rfl,_⟩|⟨g,cap,cur,rfl,hb,b,_⟩
 .simp[Value.ownBlock]at a
 simp[Value.ownBlock]at a;subst a;exact⟨cur,_,b⟩
def wQ{base:Nat} {size:Nat}(h:w.ownsRow base e size v n xs)(hb:base'<=base):w.ownsRow base' e size v n xs:=by
 refine⟨h.1,?_⟩;rcases h.2 with a|⟨g,cap,cur,rfl,b,rest⟩
 .exact .inl a
 exact .inr ⟨g,cap,cur,rfl,by omega,rest⟩
def amO(base:Nat)(w:World)(vr vt:Value)(ln:Int):Except Nat (List LB × List CR)->Prop
 | .error n=>vr=zN/\vt=zN/\ln=n/\1<=n
 | .ok (R,C)=>ln=0/\SL base w vr R/\∃a,RL base w vt a/\qL base w a C/\a.length<=1048576
def aah(t:LB)(w:World)(ht:t.length<=1040000) :
 zF 23 #[zT t] w λe w'=>aB [] w w'/\∃vr vt ln,e=zQ #[.agg #[vr,vt],zI ln]/\amO w.heap.size w' vr vt ln (oV t):=by
 have eG:=bL t;have hx:=tF t;have kM:CB ((w.alloc (Obj.cells #[zN,zN] 47)).alloc (Obj.cells #[zN,zN] 47)) w.heap.size zN zN:=by
  unfold CB;rw[Below.heap_alloc _ _ _ (by simp)];exact heap_alloc_new w _
 have kv:CB ((w.alloc (Obj.cells #[zN,zN] 47)).alloc (Obj.cells #[zN,zN] 47)) (w.heap.size+1) zN zN:=by
  unfold CB;have:=heap_alloc_new (w.alloc (Obj.cells #[zN,zN] 47)) (Obj.cells #[zN,zN] 47);rw[<-this];simp
 have B0:=kM;have uh:Z_ (CB ((w.alloc (Obj.cells #[zN,zN] 47)).alloc (Obj.cells #[zN,zN] 47)) w.heap.size zN zN):=kM;have HB1:Z_ (CB ((w.alloc (Obj.cells #[zN,zN] 47)).alloc (Obj.cells #[zN,zN] 47)) (w.heap.size+1) zN zN):=kv;clear kM kv B0;delta zF;go_in
 go_wp2_with fail
 go_loopg [5,6,7] t.length (λk vl vs vi wr=>∃(ln st ii:Nat) (L:List LB) (vr vt:Value) (C:List CR) (R:List RV),ii+k=t.length/\st<=ii/\1<=ln/\ln<=ii+1/\vl=zI ln/\vs=zI st/\vi=zI ii /\
  CB wr (w.heap.size+1) vr vt/\CB wr w.heap.size zN zN/\SL (w.heap.size+2) wr vr L/\RL (w.heap.size+2) wr vt R/\qL (w.heap.size+2) wr R C/\R.length<=ln/\yw (t.drop ii) ln ((t.take ii).drop st) L C=oV t/\aB [] w wr/\w.heap.size+2<=wr.heap.size)
 case atStart=>exact⟨1,0,0,[],_,_,[],[],by omega,by omega,by omega,by omega,rfl,rfl,rfl,HB1,uh,SL.nil _ _,RL.nil _ _,qL.nil _ _,by simp,rfl,((aB.refl _ _).alloc _).alloc _,by simp⟩
 case round =>
 obtain⟨ln,st,ii,L,vr,vt,C,R,hk,dY,qR,oP,rfl,rfl,rfl,kG,jW,rJ,Qd,Qe,uT,iD,bH,hz⟩:=hrel;have KC:Z_ (CB wr (w.heap.size+1) vr vt):=kG;have KR:Z_ (CB wr w.heap.size zN zN):=jW;have KS:Z_ (SL (w.heap.size+2) wr vr L):=rJ;have KL:Z_ (RL (w.heap.size+2) wr vt R):=Qd;have KP:Z_ (qL (w.heap.size+2) wr R C):=Qe;have KG:Z_ (yw (t.drop ii) ln ((t.take ii).drop st) L C=oV t):=iD;have KF:Z_ (aB [] w wr):=bH;clear kG jW rJ Qd Qe iD bH uh HB1
 by_cases aL:ii<t.length
 ·have aos:(bs t)[ii]'(by rw[eG];omega)=t[ii]:=rfl
  have Hd:Z_ (t.drop ii=t[ii]::t.drop (ii+1)):=a0k aL;have Ht:Z_ (t.take (ii+1)=t.take ii++[t[ii]]):=a0F aL;generalize t[ii]=c at *
  by_cases hc:(c==10)=true
  ·have kL:((c.toNat:Int) != 10)=false:=by
    have:c=10:=by simpa using hc
    subst this;rfl
   by_cases hl:ln=1
   ·subst hl
    have Iq:Z_ (oV t=(match iW ((t.take ii).drop st) with | none=>.error 1|some R'=>yw (t.drop (ii+1)) 2 [] R' C)):=by
     show _=_;rw[<-KG.o,Hd.o];conv=>lhs;unfold yw
     rw[hc];rfl
    go_wp2_with fail
    refine(acp (w.heap.size+1) ((t.take ii).drop st) vr vt wr (by simp;omega) KC).mono ?_;rintro e w1 ⟨aZ,rfl,vr',L',aai,nC,hL⟩;have Vd:Z_ (CB w1 w.heap.size zN zN):=KR.o.aC aZ (by simp);have YL:Z_ (aB [] w w1):=KF.o.new aZ (by simp);have fM:w.heap.size+2<=w1.heap.size:=by have:=aZ.size;omega
    cases hR:iW ((t.take ii).drop st) with
    | none =>
      rw[hR]at Iq;have d0:=Vd.o.c0;have d1:=Vd.o.c1;have df:=Vd.o.fz;clear aZ aai nC hL;simp only[Option.isSome_none];go_wp2;refine bodyPost_ret (ug (vr:=zN) (vt:=zN) (ln:=1) (rb:=w.heap.size) ?_ (by rfl) (by rfl)) rfl ?_
      ·exact(Vd.o.set0 _).set1 _
      refine⟨(YL.o.setCell (by simp) _).setCell (by simp) _,_,_,_,rfl,?_⟩;rw[Iq.o];exact⟨rfl,rfl,rfl,a0b _⟩
    | some R' =>
      rw[hR]at Iq;obtain rfl:=hL R' hR;have KC1:Z_ (CB w1 (w.heap.size+1) vr' vt):=aai;have KS1:Z_ (SL (w.heap.size+2) w1 vr' L'):=nC.base hz;have KL1:Z_ (RL (w.heap.size+2) w1 vt R):=KL.o.aC aZ (by simp);have KP1:Z_ (qL (w.heap.size+2) w1 R C):=KP.o.aC aZ (by intro k hk;simp at hk;exact Or.inl (by omega));clear aZ aai nC hL hR KC KR KS KL KP KF;simp only[Option.isSome_some];go_wp2;go_roundg (gk-1)
      case measure=>omega
      case rel =>
       refine⟨2,ii+1,ii+1,L',vr',vt,C,R,by omega,by omega,by omega,by omega,by go_num,by go_num,by go_num,KC1,Vd,KS1,KL1,KP1,by omega,?_,YL,fM⟩;have he:(t.take (ii+1)).drop (ii+1)=[]:=a0i (by rw[a1k];omega);rw[Iq.o,he]
   have Iq:Z_ (oV t=(match gM ((t.take ii).drop st) with | none=>.error ln|some x=>yw (t.drop (ii+1)) (ln+1) [] L (C++[x]))):=by
    show _=_;rw[<-KG.o,Hd.o];conv=>lhs;unfold yw
    rw[hc,a0m rfl,a0n (by simpa using hl)]
   have hl':((ln:Int)==1)=false:=a0j.2 (by omega);go_wp2_with fail
   refine(acr (w.heap.size+1) (w.heap.size+2) ln ((t.take ii).drop st) vr vt R wr (by simp;omega) KC.o KL.o (by omega) (by omega) hz hl').mono ?_;rintro e w1 ⟨aZ,rfl,vt',rv,aai,ape,lZ⟩;have Vd:Z_ (CB w1 w.heap.size zN zN):=KR.o.aC aZ (by
    simp only[a0l,a0H,not_or];exact⟨by omega,λe=>by have:=(KL.o.lt _ e).1;omega⟩)
   have YL:Z_ (aB [] w w1):=KF.o.new aZ (by
    simp only[a0l,a0H];rintro x (rfl|e)
    ·omega
    have:=(KL.o.lt _ e).1;omega)
   have fM:w.heap.size+2<=w1.heap.size:=by have:=aZ.size;omega
   cases hR:gM ((t.take ii).drop st) with
   | none =>
     rw[hR]at Iq;have d0:=Vd.o.c0;have d1:=Vd.o.c1;have df:=Vd.o.fz;clear aZ aai ape lZ;simp only[Option.isSome_none];go_wp2;refine bodyPost_ret (ug (vr:=zN) (vt:=zN) (ln:=ln) (rb:=w.heap.size) ?_ (by rfl) (by rfl)) rfl ?_
     ·exact(Vd.o.set0 _).set1 _
     refine⟨(YL.o.setCell (by simp) _).setCell (by simp) _,_,_,_,rfl,?_⟩;rw[Iq.o];exact⟨rfl,rfl,rfl,qR⟩
   | some x =>
     rw[hR]at Iq;have NU:Apart wr (w.heap.size+2) ((w.heap.size+1)::vt.ownBlock.toList):=by
      intro k hk;simp only[a0l,a0H]at hk;rcases hk with rfl|e
      ·exact Or.inl (by omega)
      obtain⟨cur,fz,h1⟩:=Ip KL.o k e;exact Or.inr ⟨cur,_,fz,h1,by decide,by decide⟩
     have KC1:Z_ (CB w1 (w.heap.size+1) vr vt'):=aai;have KS1:Z_ (SL (w.heap.size+2) w1 vr L):=jJ KS.o aZ (λk hk=>(NU k hk).imp id (λ⟨a,b,c,d,e⟩=>⟨a,b,c,d,e.1⟩));have KL1:Z_ (RL (w.heap.size+2) w1 vt' (R++[rv])):=ape;have KP1:Z_ (qL (w.heap.size+2) w1 (R++[rv]) (C++[x])):=(KP.o.aC aZ NU).snoc ((lZ x hR).base hz);clear aZ aai ape lZ hR KC KR KS KL KP KF;simp only[Option.isSome_some];go_wp2;go_roundg (gk-1)
     case measure=>omega
     case rel =>
      refine⟨ln+1,ii+1,ii+1,L,vr,vt',C++[x],R++[rv],by omega,by omega,by omega,by omega,by go_num,by go_num,by go_num,KC1,Vd,KS1,KL1,KP1,by simp;omega,?_,YL,fM⟩;have he:(t.take (ii+1)).drop (ii+1)=[]:=a0i (by rw[a1k];omega);rw[Iq.o,he]
  have kL:((c.toNat:Int) != 10)=true:=by
   rw[a1M];intro h;apply hc;have:c.toNat=10:=by omega
   have:c=10:=a1w.1 this;subst this;rfl
  have Iq:Z_ (yw (t.drop (ii+1)) ln ((t.take (ii+1)).drop st) L C=oV t):=by
   show _=_;rw[<-KG.o,Hd.o];conv=>rhs;unfold yw
   rw[a0n hc,Ht.o,a1N (by simp;omega)]
  go_wp2;go_roundg (gk-1)
  case measure=>omega
  case rel =>
   exact⟨ln,st,ii+1,L,vr,vt,C,R,by omega,by omega,by omega,by omega,rfl,rfl,by go_num,KC,KR,KS,KL,KP,uT,Iq,KF,hz⟩
 have Iq:Z_ (oV t=if !((t.drop st).isEmpty)||ln==1 then .error ln else .ok (L,C)):=by
  show _=_;rw[<-KG.o,a0i (by omega),a0C (by omega)];rfl
 have d0:=KR.o.c0;have d1:=KR.o.c1;have df:=KR.o.fz
 by_cases hs:st<t.length
 ·have JU:decide ((st:Int)<(t.length:Int))=true:=a0g (by omega)
  have Hg3:Z_ (oV t=.error ln):=by
   show _=_;rw[Iq.o];have:(t.drop st).isEmpty=false:=by simpa using hs
   rw[this];rfl
  go_wp2;refine bodyPost_ret (ug (vr:=zN) (vt:=zN) (ln:=ln) (rb:=w.heap.size) ?_ (by rfl) (by rfl)) rfl ?_
  ·exact(KR.o.set0 _).set1 _
  refine⟨(KF.o.setCell (by simp) _).setCell (by simp) _,_,_,_,rfl,?_⟩;rw[Hg3.o];exact⟨rfl,rfl,rfl,qR⟩
 have JU:decide ((st:Int)<(t.length:Int))=false:=a0f (by omega);have he:(t.drop st).isEmpty=true:=by simpa using hs
 by_cases hl:ln=1
 ·subst hl
  have Hg3:Z_ (oV t=.error 1):=by
   show _=_;rw[Iq.o];simp
  go_wp2;refine bodyPost_ret (ug (vr:=zN) (vt:=zN) (ln:=1) (rb:=w.heap.size) ?_ (by rfl) (by rfl)) rfl ?_
  ·exact(KR.o.set0 _).set1 _
  refine⟨(KF.o.setCell (by simp) _).setCell (by simp) _,_,_,_,rfl,?_⟩;rw[Hg3.o];exact⟨rfl,rfl,rfl,qR⟩
 have hl':((ln:Int)==1)=false:=a0j.2 (by omega);have Hg3:Z_ (oV t=.ok (L,C)):=by
  show _=_;rw[Iq.o,he];have:(ln==1)=false:=by simpa using hl
  rw[this];rfl
 have e0:=KC.o.c0;have e1:=KC.o.c1;obtain⟨a0,n0,rfl⟩:=KS.o.shape;obtain⟨a1,n1,rfl⟩:=aW KL;go_wp2;refine bodyPost_ret (ug (vr:=.slice a0 L.length n0) (vt:=.slice a1 R.length n1) (ln:=0) (rb:=w.heap.size) ?_ (by rfl) (by rfl)) rfl ?_
 ·exact(KR.o.set0 _).set1 _
 have F:aB [w.heap.size] wr ((wr.setCell (zA w.heap.size) (.slice a0 L.length n0)).setCell (zB w.heap.size 1) (.slice a1 R.length n1)):=((aB.refl _ _).setCell (by simp) _).setCell (by simp) _;refine⟨(KF.o.setCell (by simp) _).setCell (by simp) _,_,_,_,rfl,?_⟩;rw[Hg3.o];exact⟨rfl,(KS.o.aC F (by simp)).base (by omega),R,wQ (KL.o.aC F (by simp)) (by omega),(KP.o.aC F (by intro k hk;simp at hk;exact Or.inl (by omega))).base (by omega),by omega⟩
end
end Go.Proofs.YtedmellodofajaaGreatDoor
