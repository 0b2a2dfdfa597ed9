import Derived.Test.YtedmellodofajaaGreatDoorChecked
import Derived.WalkKit
import Derived.WalkSpells
import Derived.WalkLawsBesides
import Derived.Deep.QuietTactic
import Derived.BigQuiet
import Derived.Deep.LoopGhost
import Derived.Deep.RegionHeld3
import Derived.Deep.AppendLies
import Derived.Test.YtedmellodofajaaGreatDoorJ1
set_option linter.unusedVariables false
set_option linter.unusedSimpArgs false
set_option linter.unnecessarySimpa false
set_option linter.defProp false
set_option maxRecDepth 100000
set_option maxHeartbeats 1000000
namespace Go.Proofs.YtedmellodofajaaGreatDoor
open Go.RowKit
section
variable {S:LN} {w w':World} {e:TypeId} {v:Value} {base' n:Nat} {xs:List Value} {L:List LB}
theorem bL(l:LB):(bs l).size=l.length:=rfl
def aor(l:LB):(bs l).data.toList=l:=by simp[bs]
theorem aT(l:LB):(bs l).toList=l:=by rw[ByteArray.toList_eq];simp[bs]
theorem aje(s:ByteArray):bs s.data.toList=s:=by cases s;simp[bs]
theorem mf(a b:LB):bs a++bs b=bs (a++b):=by apply ByteArray.ext;simp[bs]
def tF(l:LB)(a b:Nat):(bs l).extract a b=bs ((l.take b).drop a):=by
 apply ByteArray.ext;simp[bs,ByteArray.data_extract,List.extract_eq_take_drop,List.take_drop]
 by_cases h:a<=b
 .rw[Nat.add_sub_cancel' h]
 rw[show b-a=0 by omega,a1Q,a0i (by simp only[a1k];omega),a0i (by simp only[a1k];omega)]
def arI(l:LB)(k:Nat)(h:k<(bs l).size):(bs l)[k]=l[k]'h:=rfl
structure aB(S:LN)(w w':World):Prop where
 os:w'.os=w.os
 tape:w'.tape=w.tape
 output:w'.output=w.output
 size:w.heap.size<=w'.heap.size
 block:∀k,k<w.heap.size->k∉S->w'.heap[k]?=w.heap[k]?
theorem aB.refl(S:LN)(w:World):aB S w w:=⟨rfl,rfl,rfl,a0b _,λ_ _ _=>rfl⟩
theorem aB.trans {a b c:World}(h:aB S a b)(k:aB S b c):aB S a c :=
 ⟨k.os.trans h.os,k.tape.trans h.tape,k.output.trans h.output,a0h h.size k.size,
  λi d e=>(k.block i (a0t d h.size) e).trans (h.block i d e)⟩
theorem aB.mono{S':LN} {a b:World}(h:aB S a b)(d:∀k,k<a.heap.size->k∈S->k∈S'):aB S' a b :=
 ⟨h.os,h.tape,h.output,h.size,λk c f=>h.block k c (λe=>f (d k c e))⟩
theorem aB.nil {a b:World}(h:aB [] a b):aB S a b:=h.mono (by simp)
theorem aB.drew{a:World}(h:aB S a w):aB S a w.drew:=⟨h.os,h.tape,h.output,h.size,h.block⟩
theorem aB.drewN{a:World}(n:Nat)(h:aB S a w):aB S a (w.drewN n):=⟨h.os,h.tape,h.output,h.size,h.block⟩
theorem aB.setCell{a:World}(h:aB S a w) {p:Addr}(b:p.block∈S\/a.heap.size<=p.block)(u:Value):aB S a (w.setCell p u):=by
 refine⟨h.os,h.tape,h.output,?_,λk d c=>?_⟩
 .have:=h.size;simp[World.setCell];exact this
 have f:k≠p.block:=by
  intro e;rcases b with b|b
  .exact c (e ▸ b)
  omega
 rw[Below.heap_setCell _ _ _ _ f];exact h.block k d c
theorem aB.alloc{a:World}(h:aB S a w)(o:Obj):aB S a (w.alloc o):=by
 refine⟨h.os,h.tape,h.output,?_,λk b c=>?_⟩
 .have:=h.size;simp;omega
 rw[Below.heap_alloc _ _ _ (a0t b h.size)];exact h.block k b c
def aB.grown{a:World} {row:Option Nat}(h:aB S a w)(b:w.grownBy w' row)(f:∀k,row=some k->k∈S\/a.heap.size<=k):aB S a w':=by refine⟨b.os.trans h.os,b.tape.trans h.tape,b.output.trans h.output,a0h h.size b.size,λk c d=>?_⟩;rw[b.block k (a0t c h.size) (λe=>(f k e.symm).elim d (λg=>by omega))];exact h.block k c d
def aB.below {a b:World}(h:aB [] a b):Below a.heap.size a b:=⟨h.os,h.tape,h.output,h.size,λk c=>h.block k c (by simp)⟩
theorem aB.cell(h:aB S w w') {p:Addr}(a:p.block<w.heap.size)(b:p.block∉S):w'.cell? p=w.cell? p:=World.cell?_of_block (h.block _ a b)
def aB.frozen(h:aB S w w') {p:Addr}(a:p.block<w.heap.size)(b:p.block∉S):w'.frozen? p=w.frozen? p:=World.frozen?_of_block (h.block _ a b)
def dD {a b:Bool}(h:a=b):Ending.returned (.bool a)=zR (.bool b):=by rw[h]
def mJ {k:IntKind} {a b:Int}(h:a=b):Ending.returned (.int k a)=zR (.int k b):=by rw[h]
def NW {a b:LB}(h:a=b):Ending.returned (zT a)=zR (zT b):=by rw[h]
def aj {p:Prop}(h:p):Z_ p:=h
def lW(c:Int):Bool:=decide (48<=c)&&decide (c<=57)
def Zd(c:Int):Bool:=(decide (97<=c)&&decide (c<=122))||(decide (65<=c)&&decide (c<=90))
def Uy(c:Int):Bool:=Zd c||lW c||(c==95)
def iT(c:Int)(w:World) :
 zF 118 #[.int .u8 c] w λe w'=>e=zR (.bool (lW c))/\w=w':=by
 delta zF;go_in
 go_wp2
 all_goals go_ret
 all_goals exact⟨dD (by simp[lW, *]<;>omega),rfl⟩
def acm(c:Int)(w:World) :
 zF 142 #[.int .u8 c] w λe w'=>e=zR (.bool (Zd c))/\w=w':=by
 delta zF;go_in
 go_wp2
 all_goals go_ret
 all_goals exact⟨dD (by simp[Zd, *]<;>omega),rfl⟩
def vN(c:Int)(w:World) :
 zF 119 #[.int .u8 c] w λe w'=>e=zR (.bool (Uy c))/\w=w':=by
 cases b:Zd c<;>cases a:lW c
 all_goals
  delta zF;go_in
  go_wp2_with (first | (go_at_call 142;refine(acm _ _).mono ?_;rintro e w' ⟨rfl,rfl⟩)|(go_at_call 118;refine(iT _ _).mono ?_;rintro e w' ⟨rfl,rfl⟩))
  all_goals go_ret
  all_goals exact⟨dD (by simp[Uy, *]),rfl⟩
theorem yD(w:World)(a b:Nat):(w.drewN a).drewN b=w.drewN (a+b):=by simp[World.drewN,a2M]
def hd(l:LB):Int:=((l.head?.getD 0).toNat:Int)
theorem EP(t:LB)(i:Nat)(h:i<t.length):hd (t.drop i)=(t[i].toNat:Int):=by unfold hd;rw[List.head?_drop,a0a h];rfl
def bK(c:UInt8):Bool:=Uy c.toNat
def nG(c:UInt8):Bool:=lW c.toNat
def aJ(n:LB):Bool:=!(n.isEmpty)&&decide (n.length<=8)&&!(lW (hd n))&&n.all bK
theorem JQ(c:UInt8)(r:LB):hd (c::r)=(c.toNat:Int):=rfl
def JR(n:LB)(w:World)(z:n.length<=1048576) :
 zF 94 #[zT n] w λe w'=>e=zR (.bool (aJ n))/\w=w':=by
 have m:=bL n
 by_cases l:n.length=0
 .have a:Z_ (aJ n=false):=by show aJ n=false;rw[a0S l];rfl
  delta zF;go_in
  go_wp2;go_ret;exact⟨dD a.o.symm,rfl⟩
 by_cases B:8<n.length
 .have a:Z_ (aJ n=false):=by show aJ n=false;unfold aJ;simp;intros;omega
  have hb:((n.length:Int)==0)=false:=a0j.2 (by omega);delta zF;go_in
  go_wp2;go_ret;exact⟨dD a.o.symm,rfl⟩
 have hb:((n.length:Int)==0)=false:=a0j.2 (by omega);have v:decide ((8:Int)<(n.length:Int))=false:=a0f (by omega);have u:decide (8<n.length)=false:=a0f (by omega);have hh:Z_ (hd n=(n[0].toNat:Int)):=EP n 0 (by omega);have t:(bs n)[0]'(by rw[m];omega)=n[0]:=rfl;generalize d:n[0]=c0 at t hh;have y:Z_ (n[0]=c0):=d;clear d;cases s:lW c0.toNat
 .delta zF;go_in
  go_wp2_with (go_at_call 118;refine(iT _ _).mono ?_;rintro e w' ⟨rfl,rfl⟩)
  go_loopg [3] n.length (λk i wr=>∃j,j+k=n.length/\i=zI j/\wr=w/\(n.take j).all bK=true)
  exact⟨0,by omega,rfl,rfl,by simp⟩
  .obtain⟨j,A,rfl,rfl,b⟩:=hrel
   by_cases q:j<n.length
   .have g:(bs n)[j]'(by rw[m];omega)=n[j]:=rfl
    generalize c:n[j]=p at g;have f:Z_ (n[j]=p):=c;clear c;cases r:Uy p.toNat
    .have a:Z_ (aJ n=false):=by
      show aJ n=false;have:n.all bK=false:=by rw[a2p];intro x;have:=a1d.1 x (n[j]'q) (a0u _);unfold bK at this;rw[f.o,r]at this;cases this
      unfold aJ;rw[this];simp
     have h:Z_ ((n.take j).all bK=true):=b;clear b hh;go_wp2_with (go_at_call 119;refine(vN _ _).mono ?_;rintro e w' ⟨rfl,rfl⟩)
     go_ret;exact⟨dD a.o.symm,rfl⟩
    have h:Z_ ((n.take (j+1)).all bK=true):=by show(n.take (j+1)).all bK=true;rw[a0F q,a2c,b];simp[bK,r,f.o]
    clear b hh;go_wp2_with (go_at_call 119;refine(vN _ _).mono ?_;rintro e w' ⟨rfl,rfl⟩)
    go_roundg (gk-1);exact⟨j+1,by omega,by go_num,rfl,h⟩;omega
   have a:Z_ (aJ n=true):=by show aJ n=true;unfold aJ;have:n.take j=n:=a0C (by omega);rw[this]at b;rw[b,hh.o,s];simp;exact⟨by intro e;simp[e]at l,by omega⟩
   clear b hh;go_wp2;go_ret;exact⟨dD a.o.symm,rfl⟩
 have a:Z_ (aJ n=false):=by show aJ n=false;unfold aJ;rw[hh.o,s];simp
 delta zF;go_in
 go_wp2_with (go_at_call 118;refine(iT _ _).mono ?_;rintro e w' ⟨rfl,rfl⟩)
 go_ret;exact⟨dD a.o.symm,rfl⟩
theorem fG {base:Nat} {size:Nat}(h:w.ownsRow base e size v n xs)(f:aB S w w')(d:∀k,k∈S->k<base):w'.ownsRow base e size v n xs:=by
 refine⟨h.1,?_⟩;rcases h.2 with b|⟨g,cap,cur,rfl,hb,a,rest⟩
 .exact .inl b
 refine .inr ⟨g,cap,cur,rfl,hb,?_,rest⟩;rw[f.block g (a0c.1 a).1 (λc=>by have:=d g c;omega)];exact a
def Uz {base:Nat} {size:Nat}(h:w.ownsRow base e size v n xs)(a:v≠zN):∃g cap,v=zS g n cap:=by
 rcases h.2 with⟨b,_⟩|⟨g,cap,cur,rfl,_⟩
 .exact absurd b a
 exact⟨g,cap,rfl⟩
def aB.Bt{g cap:Nat}(h:w.grownBy w' (Value.ownBlock (zS g n cap))):aB [g] w w' :=
 ⟨h.os,h.tape,h.output,h.size,λk a b=>h.block k a (λe=>b (by simp[Value.ownBlock]at e;simp[e]))⟩
def ak6:(Tryz.prog.info? 5).map (λi=>(i.zero,i.size,i.bytes))=some (some (.int .u8 0),1,1):=by kernel_rfl
def uY:(Tryz.prog.info? 9).map (λi=>(i.zero,i.size,i.bytes))=some (some (.string ByteArray.empty),1,16):=by kernel_rfl
def tT(l:LB):List Value:=l.map λc=>.int .u8 c.toNat
def RS(base:Nat)(w:World)(v:Value)(L:List LB):Prop :=
 ∃a cap,v=.slice a L.length cap/\L.length<=1048576/\L.length<=cap/\∀j (h:j<L.length),∃g off,a=some (zB g off)/\base<=g/\w.cell? (zB g (off+j))=some (.string (bs L[j]))
theorem RS.aC {base:Nat}(h:RS base w v L)(f:aB S w w')(e:∀k,k∈S->k<base):RS base w' v L:=by obtain⟨a,cap,rfl,m,l,i⟩:=h;refine⟨a,cap,rfl,m,l,λj d=>?_⟩;obtain⟨g,off,rfl,hb,b⟩:=i j d;exact⟨g,off,rfl,hb,by rw[f.cell (World.block_lt_of_cell? w _ b) (λc=>by have:=e g c;omega)];exact b⟩
theorem RS.base{base:Nat}(h:RS base w v L)(hb:base'<=base):RS base' w v L:=by obtain⟨a,cap,rfl,f,e,d⟩:=h;refine⟨a,cap,rfl,f,e,λj b=>?_⟩;obtain⟨g,off,rfl,hb,c⟩:=d j b;exact⟨g,off,rfl,by omega,c⟩
theorem RS.drewN {base:Nat}(h:RS base w v L)(n:Nat):RS base (w.drewN n) v L:=h
def sv(L:List LB):List Value:=L.map λs=>zT s
theorem arJ(L:List LB):(sv L).length=L.length:=by simp[sv]
theorem ajf(L:List LB)(s:LB):sv L++[zT s]=sv (L++[s]):=by simp[sv]
def SL(base:Nat)(w:World)(v:Value)(L:List LB):Prop:=w.ownsRow base 9 1 v L.length (sv L)
theorem SL.aC {base:Nat}(h:SL base w v L)(f:aB S w w')(a:∀k,k∈S->k<base):SL base w' v L:=fG h f a
theorem SL.rs {base:Nat}(h:SL base w v L)(c:L.length<=1048576):RS base w v L:=by
 rcases h.2 with⟨rfl,f⟩|⟨g,cap,cur,rfl,hb,l,a,e,k,i⟩
 .exact⟨none,0,by rw[f],c,by omega,λj d=>by omega⟩
 refine⟨_,cap,rfl,c,a,λj d=>⟨g,0,rfl,hb,?_⟩⟩;have:=h.cells (g:=g) rfl j (.string (bs L[j])) (by simp[sv,d]);have b:((zA g):Addr).add j=(zB g (0+j)):=by unfold Addr.add;split<;>simp_all
 rw[b]at this;exact this
theorem add0(b j:Nat):((zA b):Addr).add j=(zB b j):=by unfold Addr.add;split<;>simp_all
def rA {ops:Array Oper} {rest:List Oper} {o:Oper} {a:Act} {Q:Exit->Act->World->Prop}(w:World)(k:o.guard=none)(s x:Operand)
 (ho:o.op=.call { callee:=.builtin .append,args:=#[s,x],argTypes:=#[44,44] })
 (base:Nat) (v:Value) (L:List LB) (n:LB) (b1:Nat) (m:a.eval s=v) (A:SL base w v L) (b:a.eval x=zS b1 1 1)
 (q:zC w b1 0 (zT n)) (hlen:L.length<=1048576) (i:base<=w.heap.size)
 (h:∀g cap w',SL base w' (zS g (L.length+1) cap) (L++[n])->w.grownBy w' v.ownBlock->base<=g->wpList Tryz.prog ops Q rest (a.put o.dst (zS g (L.length+1) cap)) w') :
 wpList Tryz.prog ops Q (o::rest) a w:=by
 obtain⟨l,p,gT,z,y⟩:=info_parts uY;refine wpList_append_own w k s x 44 ho base 9 l (.string ByteArray.empty) 1 16 Tryz.underlying44 p gT z y rfl (by decide) v L.length (sv L) m A (zA b1) 1 1 [zT n] b rfl ?_ (λx b=>by simp at b;subst b;rfl) (by unfold maxLen;omega) (by omega) i ?_
 .intro j u c
  have:j=0:=by
   cases j with
   | zero=>rfl
   | succ j=>simp at c
  subst this;rw[add0];simp at c;rw[<-c];exact q
 intro B w' f t r;obtain⟨g,cap,rfl⟩:=Uz f (λe=>by have:=r.1 e;simp at this);have d:SL base w' (zS g (L.length+1) cap) (L++[n]):=by unfold SL;rw[<-ajf];simpa using f
 exact h g cap w' d t (f.lt g rfl).1
def aB.YN{a:World} {base:Nat}(h:aB [] a w)(d:w.grownBy w' v.ownBlock)(b:∀k,v.ownBlock=some k->a.heap.size<=k):aB [] a w' :=
 h.grown d (λk c=>Or.inr (b k c))
theorem SL.base{base:Nat}(h:SL base w v L)(hb:base'<=base):SL base' w v L:=by
 refine⟨h.1,?_⟩;rcases h.2 with a|⟨g,cap,cur,rfl,b,rest⟩
 .exact .inl a
 exact .inr ⟨g,cap,cur,rfl,by omega,rest⟩
theorem SL.nil(base:Nat)(w:World):SL base w zN []:=World.ownsRow_nil w base _ 1
def aW {base:Nat} {size:Nat}(h:w.ownsRow base e size v n xs):∃a cap,v=.slice a n cap:=by
 rcases h.2 with⟨e,b⟩|⟨g,cap,cur,e,_⟩
 .exact⟨none,0,by rw[e,b]⟩
 exact⟨_,_,e⟩
def SL.shape {base:Nat}(h:SL base w v L):∃a cap,v=.slice a L.length cap:=aW h
def jJ {base:Nat} {size:Nat}(h:w.ownsRow base e size v n xs)(f:aB S w w')
 (j:∀k,k∈S->k<base\/∃cur c fz,w.heap[k]?=some (.cells cur c fz)/\c≠e):w'.ownsRow base e size v n xs:=by
 refine⟨h.1,?_⟩;rcases h.2 with d|⟨g,cap,cur,rfl,hb,b,rest⟩
 .exact .inl d
 refine .inr ⟨g,cap,cur,rfl,hb,?_,rest⟩;rw[f.block g (a0c.1 b).1 (λi=>by
  rcases j g i with a|⟨m,c,fz,a,l⟩
  .omega
  rw[b]at a;simp at a;exact l a.2.1.symm)]
 exact b
def Dx {base:Nat} {size:Nat}(h:w.ownsRow base e size v n xs)(k:Nat)(a:v.ownBlock=some k):k<w.heap.size:=(h.lt k a).2
def zG {o:Obj}:aB [] w (w.alloc o):=(aB.refl [] _).alloc _
def zJ {o:Obj}:aB S w (w.alloc o):=(aB.refl _ _).alloc _
def zK:aB S w w:=aB.refl _ _
def oM(l:LB)(c:UInt8):Bool:=l.contains c
def vR(c:UInt8)(l:LB)(w:World)(r:l.length<=1048576) :
 zF 67 #[.int .u8 c.toNat,.string (bs l)] w λe w'=>e=zR (.bool (oM l c))/\w=w':=by
 have n:=bL l;delta zF;go_in
 go_wp2;go_loopg [5] l.length (λk i wr=>∃j,j+k=l.length/\i=zI j/\wr=w/\(l.take j).contains c=false)
 exact⟨0,by omega,rfl,rfl,by simp⟩
 .obtain⟨j,s,rfl,m,b⟩:=hrel;subst m
  by_cases f:j<l.length
  .have q:(bs l)[j]'(by rw[n];omega)=l[j]:=rfl
   have o:l.take (j+1)=l.take j++[l[j]]:=a0F f;have p:l[j]∈l:=a0u f;generalize l[j]=x at *;cases he:((x.toNat:Int)==(c.toNat:Int))
   .have g:(l.take (j+1)).contains c=false:=by
     have d:=b;rw[o];simp only[a2B,a1g,a0e,a0w]at d |-;intro h;rcases h with h|h
     .exact d h
     rw[h]at he;simp at he
    go_wp2;go_roundg (gk-1);exact⟨j+1,by omega,by go_num,rfl,g⟩;omega
   have a:oM l c=true:=by have:x=c:=a1w.1 (a2N.1 (a0W.1 he));unfold oM;rw[a2B,a1E,<-this];exact p
   go_wp2;go_ret;exact⟨dD a.symm,rfl⟩
  have a:oM l c=false:=by have:=b;rw[a0C (by omega)]at this;exact this
  go_wp2;go_ret;exact⟨dD a.symm,rfl⟩
def yE:LB:=[97,98,99,100,101,102,103,104,105,106,107,108,109,110,111,112,113,114,115,116,117,118,119,120,121,122,65,66,67,68,69,70,71,72,73,74,75,76,77,78,79,80,81,82,83,84,85,86,87,88,89,90,95]
def xu:LB:=[48,49,50,51,52,53,54,55,56,57]
def xw:LB:=[48,49,50,51,52,53,54,55,56,57,97,98,99,100,101,102]
def vO {p:UInt8->Bool}(h:(List.range 256).all (λn=>p (UInt8.ofNat n))=true)(c:UInt8):p c=true:=by
 have:=a1d.1 h c.toNat (a2b.2 c.toNat_lt)
 rwa [UInt8.ofNat_toNat]at this
theorem agb(c:UInt8):oM yE c=(Zd c.toNat||c==95):=by have:=vO (p:=λc=>oM yE c==(Zd c.toNat||c==95)) (by decide +kernel) c;simpa using this
theorem Pk(c:UInt8):oM xu c=lW c.toNat:=by have:=vO (p:=λc=>oM xu c==lW c.toNat) (by decide +kernel) c;simpa using this
def arK(c:UInt8):bK c=(oM yE c||oM xu c):=by
 rw[agb,Pk];unfold bK Uy;have:((c.toNat:Int)==95)=(c==95):=by
  rw[a0T,a0W,a0W]
  constructor
  .intro h;exact a1w.1 (by simpa using(a2N.1 h))
  intro h;subst h;rfl
 rw[this];cases Zd c.toNat<;>cases lW c.toNat<;>cases (c==95)<;>rfl
def aou(c:UInt8)(h:oM yE c=true):lW c.toNat=false:=by have:=vO (p:=λc=>!(oM yE c)||!(lW c.toNat)) (by decide +kernel) c;rw[h]at this;simpa using this
theorem GJ(n:LB):aJ n=(decide (0<n.length)&&decide (n.length<=8)&&!(lW (hd n))&&n.all bK):=by unfold aJ;cases n<;>simp
def nH(n:LB)(w:World)(F:n.length<=140737488355328) :
 zF 39 #[zT n] w λe w'=>e=zR (.bool (aJ n))/\w=w':=by
 have B:=bL n;delta zF;go_in
 go_wp2;go_loopg [3] n.length (λk i wr=>∃j,j+k=n.length/\i=zI j/\wr=w/\(n.take j).all bK=true/\(0<j->lW (hd n)=false))
 exact⟨0,by omega,rfl,rfl,by simp,by omega⟩
 .obtain⟨j,G,rfl,v,p,c⟩:=hrel;subst v
  by_cases q:j<n.length
  .have E:(bs n)[j]'(by rw[B];omega)=n[j]:=rfl
   have t:n.take (j+1)=n.take j++[n[j]]:=a0F q;have C:n[j]∈n:=a0u q;have u:j=0->hd n=(n[j].toNat:Int):=by intro e;subst e;exact EP n 0 q
   generalize n[j]=x at *;have Fin:bK x=false\/(j=0/\lW x.toNat=true)->aJ n=false:=by
    intro h;rw[GJ];rcases h with h|⟨l,d⟩
    .have:n.all bK=false:=by rw[a2p];intro A;have:=a1d.1 A x C;rw[h]at this;cases this
     rw[this];simp
    rw[u l,d];simp
   go_wp2_with fail
   refine(vR x yE _ (by decide)).mono ?_;rintro e w' ⟨rfl,rfl⟩;go_wp2_with fail
   refine(vR x xu _ (by decide)).mono ?_;rintro e w' ⟨rfl,rfl⟩;have b:=arK x;have r:=Pk x;cases d:oM yE x
   .cases g:oM xu x
    .have a:aJ n=false:=Fin (Or.inl (by rw[b,d,g];rfl))
     go_wp2;go_ret;exact⟨dD a.symm,rfl⟩
    by_cases f:j=0
    .have a:aJ n=false:=Fin (Or.inr ⟨f,by rw[<-r];exact g⟩)
     subst f;go_wp2;go_ret;exact⟨dD a.symm,rfl⟩
    have y:((j:Int)==0)=false:=a0j.2 (by omega);have o:(n.take (j+1)).all bK=true:=by rw[t,a2c,p];simp[b,d,g]
    go_wp2;go_roundg (gk-1);exact⟨j+1,by omega,by go_num,rfl,o,λ_=>c (by omega)⟩;omega
   have o:(n.take (j+1)).all bK=true:=by rw[t,a2c,p];simp[b,d]
   have s:lW (hd n)=false:=by
    by_cases f:j=0
    .rw[u f];exact aou x d
    exact c (by omega)
   cases g:oM xu x
   all_goals
    go_wp2;go_roundg (gk-1);exact⟨j+1,by omega,by go_num,rfl,o,λ_=>s⟩;omega
  have m:=p;rw[a0C (by omega)]at m
  by_cases l:0<n.length
  .have D:decide ((0:Int)<(n.length:Int))=true:=a0g (by omega)
   have a:aJ n=decide ((n.length:Int)<=8):=by
    have:decide (n.length<=8)=decide ((n.length:Int)<=8):=by rw[a0T,a1E,a1E];omega
    rw[GJ,m,c (by omega),this,a0g l];generalize decide ((n.length:Int)<=8)=z;cases z<;>rfl
   clear m;go_wp2;go_ret;exact⟨dD (by rw[a]),rfl⟩
  have D:decide ((0:Int)<(n.length:Int))=false:=a0f (by omega);have a:aJ n=false:=by rw[GJ];simp[l]
  clear m;go_wp2;go_ret;exact⟨dD a.symm,rfl⟩
inductive NF where
 | zero:NF
 | one:NF
 | set:Nat->NF
 | pair:NF->NF->NF
 | sum:List NF->NF
 | star:NF->NF
mutual
def NF.size:NF->Nat
 | .zero=>1
 | .one=>1
 | .set _=>1
 | .pair a b=>a.size+b.size+1
 | .sum l=>bP l+1
 | .star a=>a.size+1
def bP:List NF->Nat
 | []=>0
 | x::r=>x.size+bP r
end
theorem NF.size_pos(x:NF):0<x.size:=by cases x<;>simp[NF.size]
def dx:∀{l:List NF} {x:NF},x∈l->x.size<=bP l
 | y::r,x,h=>by
   simp only[bP];rcases a0l.1 h with e|e
   .subst e;omega
   have:=dx e;omega
def NF.ind {P:NF->Prop}(h:∀x,(∀y:NF,y.size<x.size->P y)->P x)(x:NF):P x:=by
 have:∀n (x:NF),x.size<=n->P x:=by
  intro n
  induction n with
  | zero=>intro x b;have:=x.size_pos;omega
  | succ n a=>intro x b;exact h x (λy c=>a y (by omega))
 exact this _ x (a0b _)
mutual
def dK:NF->Bool
 | .zero=>false
 | .one=>true
 | .set _=>false
 | .pair a b=>dK a&&dK b
 | .sum l=>agc l
 | .star _=>true
def agc:List NF->Bool
 | []=>false
 | x::r=>dK x||agc r
end
def sI(n:Nat):UInt8:=if n<10 then UInt8.ofNat (48+n) else UInt8.ofNat (87+n)
def setName(s:Nat):Nat->LB
 | 0=>[]
 | k+1=>setName s k++(if s.testBit k then [sI (k / 16),sI (k % 16)] else [])
mutual
def name:NF->LB
 | .zero=>[48]
 | .one=>[49]
 | .set s=>115::setName s 256
 | .pair a b=>40::(name a++32::(name b++[41]))
 | .sum l=>91::(ed l++[93])
 | .star a=>name a++[42]
def ed:List NF->LB
 | []=>[]
 | x::r=>name x++124::ed r
end
def aG:NF->NF->NF
 | .zero,_=>.zero
 | .one,b=>b
 | .pair c d,b=>match b with
   | .zero=>.zero
   | .one=>.pair c d
   | b=>aG c (aG d b)
 | a,b=>match b with
   | .zero=>.zero
   | .one=>a
   | b=>.pair a b
def iH:NF->NF
 | .zero=>.one
 | .one=>.one
 | .star a=>.star a
 | a=>.star a
def dF:NF->Bool | .set _=>true|_=>false
def bits:NF->Nat | .set s=>s|_=>0
def parts:NF->List NF | .zero=>[] | .sum l=>l|x=>[x]
def bf(l:List NF):Nat:=l.foldl (λn x=>n ||| bits x) 0
def blt:LB->LB->Bool
 | [],[]=>false
 | [],_::_=>true
 | _::_,[]=>false
 | a::r,b::q=>if a<b then true else if a==b then blt r q else false
def put:List NF->NF->List NF
 | [],x=>[x]
 | y::r,x=>if blt (name y) (name x) then y::put r x else if name y==name x then y::r else x::y::r
def gU(l:List NF):List NF:=l.foldl put []
def mkS:List NF->NF
 | []=>.zero
 | [x]=>x
 | l=>.sum l
def bN(l:List NF):List NF:=l.filter (λx=>!dF x)++(if bf l=0 then [] else [.set (bf l)])
def bQ(ls:List NF):NF:=mkS (gU (bN (ls.flatMap parts)))
def iw(a b:NF):NF:=bQ [a,b]
mutual
def left(c:Nat):NF->NF
 | .zero=>.zero
 | .one=>.zero
 | .set s=>if s.testBit c then .one else .zero
 | .pair a b=>if dK a then iw (aG (left c a) b) (left c b) else aG (left c a) b
 | .sum l=>bQ (xy c l)
 | .star a=>aG (left c a) (.star a)
def xy(c:Nat):List NF->List NF
 | []=>[]
 | x::r=>left c x::xy c r
end
theorem fP(c:Nat):∀l,xy c l=l.map (left c)
 | []=>rfl
 | x::r=>by simp only[xy,a0E,fP c r]
def iU:NF->Bool | .zero=>false | .sum _=>false|_=>true
def dP:NF->Bool | .set _=>true | .sum _=>true | .star _=>true|_=>false
def aP:NF->Bool | .zero=>false | .one=>false|_=>true
mutual
def wf:NF->Prop
 | .zero=>True
 | .one=>True
 | .set s=>0<s/\s<2 ^ 256
 | .pair a b=>wf a/\wf b/\dP a=true/\aP b=true
 | .sum l=>wfL l/\∀p∈l,iU p=true
 | .star a=>wf a/\aP a=true
def wfL:List NF->Prop
 | []=>True
 | x::r=>wf x/\wfL r
end
theorem kJ:∀{l:List NF},wfL l↔∀x∈l,wf x
 | []=>by simp[wfL]
 | x::r=>by simp[wfL,kJ (l:=r)]
theorem fJ(a:NF):aG a .zero=.zero:=by cases a<;>rfl
theorem bF(a:NF):aG a .one=a:=by cases a<;>rfl
theorem aX {a b:NF}(c:dP a=true)(hb:aP b=true):aG a b=.pair a b:=by cases a<;>simp[dP]at c<;>cases b<;>simp[aP]at hb<;>rfl
theorem dA {c d b:NF}(hb:aP b=true):aG (.pair c d) b=aG c (aG d b):=by cases b<;>simp[aP]at hb<;>rfl
theorem eP:∀{a b:NF},wf a->aP a=true->aP b=true->aP (aG a b)=true
 | .pair c d,b,e,_,hb=>by obtain⟨wc,wd,f,hd⟩:=e;rw[dA hb,aX f (eP wd hd hb)];rfl
 | .set _,b,_,_,hb=>by rw[aX rfl hb];rfl
 | .sum _,b,_,_,hb=>by rw[aX rfl hb];rfl
 | .star _,b,_,_,hb=>by rw[aX rfl hb];rfl
theorem lY:∀{a b:NF},wf a->wf b->wf (aG a b)
 | .zero,b,_,_=>trivial
 | .one,b,_,wb=>wb
 | .pair c d,b,e,wb=>by
   have f:=e;obtain⟨wc,wd,g,hd⟩:=e
   by_cases hb:aP b=true
   .have ht:=eP wd hd hb
    rw[dA hb,aX g ht];exact⟨wc,lY wd wb,g,ht⟩
   cases b<;>simp[aP]at hb
   .rw[fJ];trivial
   rw[bF];exact f
 | .set s,b,e,wb=>by
   by_cases hb:aP b=true
   .rw[aX rfl hb];exact⟨e,wb,rfl,hb⟩
   cases b<;>simp[aP]at hb
   .rw[fJ];trivial
   rw[bF];exact e
 | .sum l,b,e,wb=>by
   by_cases hb:aP b=true
   .rw[aX rfl hb];exact⟨e,wb,rfl,hb⟩
   cases b<;>simp[aP]at hb
   .rw[fJ];trivial
   rw[bF];exact e
 | .star a,b,e,wb=>by
   by_cases hb:aP b=true
   .rw[aX rfl hb];exact⟨e,wb,rfl,hb⟩
   cases b<;>simp[aP]at hb
   .rw[fJ];trivial
   rw[bF];exact e
theorem fQ {b:NF}(h:¬ aP b=true):b=.zero\/b=.one:=by grind [aP]
theorem GK(a b c:NF):wf a->wf b->aG (aG a b) c=aG a (aG b c):=by
 revert b c
 refine NF.ind (P:=λa=>∀b c:NF,wf a->wf b->aG (aG a b) c=aG a (aG b c)) ?_ a;intro a g b c i wb
 by_cases hb:aP b=true
 case neg =>
  rcases fQ hb with rfl|rfl
  .simp[fJ,aG]
  rw[bF];rfl
 by_cases d:aP c=true
 case neg =>
  rcases fQ d with rfl|rfl
  .simp only[fJ]
  simp only[bF]
 have e:=eP wb hb d;cases a with
 | zero=>rfl
 | one=>rfl
 | pair x y=>obtain⟨h,f,k,j⟩:=i;rw[dA hb,dA e,g x (by simp[NF.size];omega) _ _ h (lY f wb),g y (by simp[NF.size];omega) _ _ f wb]
 | set s=>rw[aX rfl hb,dA d,aX (a:=.set s) rfl e]
 | sum s=>rw[aX rfl hb,dA d,aX (a:=.sum s) rfl e]
 | star s=>rw[aX rfl hb,dA d,aX (a:=.star s) rfl e]
theorem put_mem:∀{l:List NF} {x p:NF},p∈put l x->p∈l\/p=x
 | [],x,p,h=>by simp[put]at h;exact .inr h
 | y::r,x,p,h=>by
   unfold put at h
   split at h
   .rcases a0l.1 h with e|e
    .exact .inl (by simp[e])
    rcases put_mem e with e|e
    .exact .inl (by simp[e])
    exact .inr e
   grind
def JS:∀{l acc:List NF} {p:NF},p∈l.foldl put acc->p∈acc\/p∈l
 | [],acc,p,h=>.inl h
 | x::r,acc,p,h=>by
   rcases JS (l:=r) h with e|e
   .grind [put_mem]
   exact .inr (by simp[e])
theorem kK {l:List NF} {p:NF}(h:p∈gU l):p∈l:=by
 rcases JS h with e|e
 .simp at e
 exact e
theorem GN:∀(l:List NF) (n:Nat),l.foldl (λn x=>n ||| bits x) n=n ||| bf l
 | [],n=>by simp[bf]
 | x::r,n=>by have b:=GN r (n ||| bits x);have a:=GN r (0 ||| bits x);unfold bf;simp only[a1R];rw[b,a];simp[Nat.or_assoc]
theorem tH(x:NF)(r:List NF):bf (x::r)=bits x ||| bf r:=by grind [GN,bits,bf]
def UB:∀{l:List NF},(∀x∈l,wf x)->bf l<2 ^ 256
 | [],_=>by simp[bf]
 | x::r,h=>by rw[tH];refine Nat.or_lt_two_pow ?_ (UB (λy a=>h y (by simp[a])));have b:=h x (by simp);cases x<;>first | exact b.2|(simp[bits])
def wI {l:List NF} {p:NF}(h:p∈bN l):dF p=true\/p∈l:=by
 unfold bN at h;rcases a0e.1 h with h|h
 .grind
 split at h
 .simp at h
 simp at h;subst h;exact .inl rfl
def Zf {l:List NF} {p:NF}(h:p∈bN l):(bf l≠0/\p=.set (bf l))\/p∈l:=by grind [bN]
def ET {p:NF}(h:dF p=true):iU p=true:=by cases p<;>simp[dF]at h<;>rfl
theorem wJ {p:NF}(h:iU p=true):parts p=[p]:=by cases p<;>simp[iU]at h<;>rfl
theorem mY {x p:NF}(c:wf x)(h:p∈parts x):iU p=true:=by
 cases x with
 | zero=>simp[parts]at h
 | sum l=>exact c.2 p h
 | one=>simp[parts]at h;subst h;rfl
 | set s=>simp[parts]at h;subst h;rfl
 | pair a b=>simp[parts]at h;subst h;rfl
 | star a=>simp[parts]at h;subst h;rfl
theorem wK {x p:NF}(c:wf x)(h:p∈parts x):wf p:=by
 cases x with
 | zero=>simp[parts]at h
 | sum l=>exact kJ.1 c.1 p h
 | one=>simp[parts]at h;subst h;exact c
 | set s=>simp[parts]at h;subst h;exact c
 | pair a b=>simp[parts]at h;subst h;exact c
 | star a=>simp[parts]at h;subst h;exact c
theorem Pm {l:List NF}(h:∀p∈l,iU p=true) {p:NF}:p∈parts (mkS l)↔p∈l:=by
 match l,h with
 | [],_=>simp[mkS,parts]
 | [x],h=>rw[mkS,wJ (h x (by simp))]
 | x::y::r,h=>simp[mkS,parts]
def Pn {ls:List NF}(b:∀x∈ls,wf x) {p:NF}(h:p∈parts (bQ ls)):dF p=true\/∃x∈ls,p∈parts x:=by
 have a:∀q∈gU (bN (ls.flatMap parts)),iU q=true:=by
  intro q hq;rcases wI (kK hq) with e|e
  .exact ET e
  grind [mY]
 rcases wI (kK ((Pm a).1 h)) with e|e
 .exact .inl e
 grind
def arL {l:List NF}(h:∀p∈l,iU p=true)(a:∀p∈l,wf p):wf (mkS l):=by
 match l,h,a with
 | [],_,_=>trivial
 | [x],_,a=>exact a x (by simp)
 | x::y::r,h,a=>exact⟨kJ.2 a,h⟩
theorem Ms {ls:List NF}(c:∀x∈ls,wf x):wf (bQ ls):=by
 refine arL ?_ ?_
 .intro q hq
  rcases wI (kK hq) with e|e
  .exact ET e
  grind [mY]
 intro q hq;rcases Zf (kK hq) with⟨f,d⟩|e
 .subst d
  refine⟨a2P f,UB ?_⟩;intro y a;obtain⟨x,b,a⟩:=a1l.1 a;exact wK (c x b) a
 grind [wK]
theorem arM {a b:NF}(ha:wf a)(hb:wf b):wf (iw a b):=Ms (by simp;exact⟨ha,hb⟩)
theorem gI(c:Nat)(x:NF):wf x->wf (left c x):=by
 refine NF.ind (P:=λx=>wf x->wf (left c x)) ?_ x;intro x e d;cases x with
 | zero=>trivial
 | one=>trivial
 | set s=>simp only[left];split<;>trivial
 | pair a b =>
   obtain⟨f,wb,_,_⟩:=d;have h:=lY (e a (by simp[NF.size];omega) f) wb;simp only[left]
   split
   .grind [arM,NF.size]
   exact h
 | sum l=>simp only[left,fP];refine Ms ?_;intro y g;obtain⟨z,hz,rfl⟩:=a0q.1 g;have:=dx hz;exact e z (by simp[NF.size];omega) (kJ.1 d.1 z hz)
 | star a=>exact lY (e a (by simp[NF.size]) d.1) d
def Wh {c:Nat} {q p:NF}(hq:wf q)(h:p∈parts (left c q)):dF p=true\/∃f∈parts q,p∈parts (left c f):=by
 cases q with
 | zero=>simp[left,parts]at h
 | sum l =>
   simp only[left,fP]at h;rcases Pn (by intro y d;obtain⟨z,hz,rfl⟩:=a0q.1 d;exact gI c z (kJ.1 hq.1 z hz)) h with e|⟨y,d,e⟩
   .exact .inl e
   obtain⟨z,hz,rfl⟩:=a0q.1 d;exact .inr ⟨z,hz,e⟩
 | one=>exact .inr ⟨_,by simp[parts],h⟩
 | set s=>exact .inr ⟨_,by simp[parts],h⟩
 | pair a b=>exact .inr ⟨_,by simp[parts],h⟩
 | star a=>exact .inr ⟨_,by simp[parts],h⟩
def elems:NF->List NF
 | .pair a b=>a::elems b
 | x=>[x]
def chain:List NF->NF
 | []=>.one
 | [x]=>x
 | x::r=>.pair x (chain r)
def mk(h:NF):List NF->NF
 | []=>h
 | x::r=>.pair h (chain (x::r))
theorem xz:∀{b:NF},wf b->chain (elems b)=b
 | .pair a b,h=>by
   have c:=xz h.2.1;have:∃y r,elems b=y::r:=by cases b<;>simp[elems]
   obtain⟨y,r,e⟩:=this;simp only[elems,e,chain]at c |-;rw[c]
 | .zero,_=>rfl
 | .one,_=>rfl
 | .set _,_=>rfl
 | .sum _,_=>rfl
 | .star _,_=>rfl
theorem EU(b:NF):elems b≠[]:=by cases b<;>simp[elems]
theorem Wi {x:NF} {r:List NF}(h:r≠[]):chain (x::r)=.pair x (chain r):=by
 cases r with
 | nil=>contradiction
 | cons=>rfl
theorem lH {h:NF} {t:List NF}(ht:t≠[]):mk h t=.pair h (chain t):=by
 cases t with
 | nil=>contradiction
 | cons=>rfl
def EV(l:List NF):Prop:=∀x∈l,wf x/\dP x=true
def head_tail {x:NF}(h:dP x=true):aP x=true:=by cases x<;>simp[dP]at h<;>rfl
def EW:∀{l:List NF},EV l->wf (chain l)
 | [],_=>trivial
 | [x],h=>(h x (by simp)).1
 | x::y::r,h=>by
   have b:=EW (l:=y::r) (λz hz=>h z (by simp at hz |-;exact .inr hz));have a:=h x (by simp);refine⟨a.1,b,a.2,?_⟩;cases r with
   | nil=>exact head_tail (h y (by simp)).2
   | cons=>rfl
theorem fK:∀{l:List NF},EV l->l≠[]->aP (chain l)=true
 | [x],h,_=>head_tail (h x (by simp)).2
 | x::y::r,h,_=>rfl
def Zg:∀{b:NF},wf b->aP b=true->EV (elems b)
 | .pair a b,h,_=>by
   intro x c;simp only[elems,a0l]at c;rcases c with rfl|c
   .exact⟨h.1,h.2.2.1⟩
   exact Zg h.2.1 h.2.2.2 x c
 | .set _,h,_=>by intro x c;simp[elems]at c;subst c;exact⟨h,rfl⟩
 | .sum _,h,_=>by intro x c;simp[elems]at c;subst c;exact⟨h,rfl⟩
 | .star _,h,_=>by intro x c;simp[elems]at c;subst c;exact⟨h,rfl⟩
theorem uw:∀{s t:List NF},EV s->EV t->aG (chain s) (chain t)=chain (s++t)
 | [],t,_,_=>rfl
 | x::s,[],b,ht=>by rw[a0R];exact bF _
 | [x],y::t,b,ht=>by exact aX (b x (by simp)).2 (fK ht (by simp))
 | x::z::s,y::t,b,ht=>by
   have c:EV (z::s):=λw a=>b w (by simp at a |-;exact .inr a)
   have d:=uw (s:=z::s) (t:=y::t) c ht;show aG (.pair x (chain (z::s))) (chain (y::t))=.pair x (chain (z::s++y::t));rw[dA (fK ht (by simp)),d];refine aX (b x (by simp)).2 (fK ?_ (by simp));intro w a;rcases a0e.1 a with a|a
   .exact c w a
   exact ht w a
theorem UC {h:NF} {s t:List NF}(hh:dP h=true)(b:EV s)(ht:EV t):aG (mk h s) (chain t)=mk h (s++t):=by
 cases s with
 | nil =>
   cases t with
   | nil=>exact bF _
   | cons y t=>exact aX hh (fK ht (by simp))
 | cons x s =>
   cases t with
   | nil=>rw[a0R];exact bF _
   | cons y t =>
     have c:EV (x::s++y::t):=by
      intro w a;rcases a0e.1 a with a|a
      .exact b w a
      exact ht w a
     show aG (.pair h (chain (x::s))) (chain (y::t))=.pair h (chain (x::s++y::t));rw[dA (fK ht (by simp)),uw b ht];exact aX hh (fK c (by simp))
mutual
def bG:NF->List (NF × List NF)
 | .zero=>[(.zero,[])]
 | .one=>[(.one,[])]
 | .set s=>[(.set s,[])]
 | .pair a b=>(.pair a b,[])::((bG a).map (λo=>(o.1,o.2++elems b))++bG b)
 | .sum l=>(.sum l,[])::Dz l
 | .star a=>(.star a,[])::(bG a).map (λo=>(o.1,o.2++[.star a]))
def Dz:List NF->List (NF × List NF)
 | []=>[]
 | x::r=>bG x++Dz r
end
theorem fT(X:NF):(X,[])∈bG X:=by cases X<;>simp[bG]
theorem EZ:∀{l:List NF} {o:NF × List NF},o∈Dz l↔∃x∈l,o∈bG x
 | [],o=>by simp[Dz]
 | x::r,o=>by simp[Dz,EZ (l:=r)]
def Po:∀{b:NF} {u r:List NF} {c:NF},elems b=u++c::r->(c,r)∈bG b
 | .pair a b,u,r,c,h=>by
   simp only[elems]at h;cases u with
   | nil=>simp at h;obtain⟨rfl,rfl⟩:=h;simp only[bG,a0l,a0e,a0q];exact .inr (.inl ⟨(a,[]),fT a,by simp⟩)
   | cons y u=>simp at h;have:=Po h.2;simp only[bG,a0l,a0e,a0q];exact .inr (.inr this)
 | .zero,u,r,c,h=>by cases u<;>simp[elems]at h;obtain⟨rfl,rfl⟩:=h;exact fT _
 | .one,u,r,c,h=>by cases u<;>simp[elems]at h;obtain⟨rfl,rfl⟩:=h;exact fT _
 | .set _,u,r,c,h=>by cases u<;>simp[elems]at h;obtain⟨rfl,rfl⟩:=h;exact fT _
 | .sum _,u,r,c,h=>by cases u<;>simp[elems]at h;obtain⟨rfl,rfl⟩:=h;exact fT _
 | .star _,u,r,c,h=>by cases u<;>simp[elems]at h;obtain⟨rfl,rfl⟩:=h;exact fT _
def Wj:∀{b x:NF},x∈elems b->x.size<=b.size
 | .pair a b,x,h=>by
   simp only[elems,a0l]at h;rcases h with rfl|h
   .simp[NF.size];omega
   have:=Wj h;simp[NF.size];omega
 | .zero,x,h=>by simp[elems]at h;subst h;exact a0b _
 | .one,x,h=>by simp[elems]at h;subst h;exact a0b _
 | .set _,x,h=>by simp[elems]at h;subst h;exact a0b _
 | .sum _,x,h=>by simp[elems]at h;subst h;exact a0b _
 | .star _,x,h=>by simp[elems]at h;subst h;exact a0b _
def tJ {X Y:NF} {t:List NF}(h:(Y,t)∈bG X):(Y=X/\t=[]) \/
 (∃a b s,X=.pair a b/\(Y,s)∈bG a/\t=s++elems b)\/(∃a b,X=.pair a b/\(Y,t)∈bG b) \/
 (∃l x,X=.sum l/\x∈l/\(Y,t)∈bG x)\/(∃a s,X=.star a/\(Y,s)∈bG a/\t=s++[.star a]):=by
 cases X with
 | zero=>simp[bG]at h;exact .inl h
 | one=>simp[bG]at h;exact .inl h
 | set s=>simp[bG]at h;exact .inl h
 | pair a b =>
   simp only[bG,a0l,a0e,a0q,Prod.mk.injEq]at h;rcases h with h|⟨⟨c,s⟩,h,rfl,rfl⟩|h
   .exact .inl h
   .grind
   grind
 | sum l =>
   simp only[bG,a0l,Prod.mk.injEq]at h;rcases h with h|h
   .exact .inl h
   grind [EZ]
 | star a =>
   simp only[bG,a0l,a0q,Prod.mk.injEq]at h;rcases h with h|⟨⟨c,s⟩,h,rfl,rfl⟩
   .exact .inl h
   grind
theorem BM {a b Y:NF} {s:List NF}(h:(Y,s)∈bG a):(Y,s++elems b)∈bG (.pair a b):=by grind [bG]
theorem BN {a b Y:NF} {s:List NF}(h:(Y,s)∈bG b):(Y,s)∈bG (.pair a b):=by grind [bG]
def JV {l:List NF} {x Y:NF} {s:List NF}(a:x∈l)(h:(Y,s)∈bG x):(Y,s)∈bG (.sum l):=by grind [bG,EZ]
theorem wL {a Y:NF} {s:List NF}(h:(Y,s)∈bG a):(Y,s++[.star a])∈bG (.star a):=by grind [bG]
def pZ {X Y:NF} {t:List NF}(h:(Y,t)∈bG X):Y.size<=X.size/\(t≠[]->Y.size<X.size):=by
 revert Y t
 refine NF.ind (P:=λX=>∀{Y:NF} {t:List NF},(Y,t)∈bG X->Y.size<=X.size/\(t≠[]->Y.size<X.size)) ?_ X;intro X c Y t h;rcases tJ h with⟨rfl,rfl⟩|⟨a,b,s,rfl,g,rfl⟩|⟨a,b,rfl,g⟩|⟨l,x,rfl,d,g⟩|⟨a,s,rfl,g,rfl⟩
 .grind
 .grind [NF.size]
 .grind [NF.size]
 .have e:=dx d
  have:=(c x (by simp[NF.size];omega) g).1;simp[NF.size];omega
 grind [NF.size]
def Ol {X Y:NF} {t:List NF}(h:(Y,t)∈bG X):∀x∈t,x.size<X.size\/∃a,x=.star a/\x.size<=X.size:=by
 revert Y t
 refine NF.ind (P:=λX=>∀{Y:NF} {t:List NF},(Y,t)∈bG X->∀x∈t,x.size<X.size\/∃a,x=.star a/\x.size<=X.size) ?_ X;intro X d Y t h x c;rcases tJ h with⟨rfl,rfl⟩|⟨a,b,s,rfl,g,rfl⟩|⟨a,b,rfl,g⟩|⟨l,z,rfl,hz,g⟩|⟨a,s,rfl,g,rfl⟩
 .simp at c
 .rcases a0e.1 c with c|c
  .rcases d a (by simp[NF.size];omega) g x c with h|⟨_,_,h⟩<;>(left;simp[NF.size];omega)
  have:=Wj c;left;simp[NF.size];omega
 .rcases d b (by simp[NF.size];omega) g x c with h|⟨_,_,h⟩<;>(left;simp[NF.size];omega)
 .have e:=dx hz
  rcases d z (by simp[NF.size];omega) g x c with h|⟨_,_,h⟩<;>(left;simp[NF.size];omega)
 rcases a0e.1 c with c|c
 .rcases d a (by simp[NF.size]) g x c with h|⟨_,_,h⟩<;>(left;simp[NF.size];omega)
 grind
def bU {X Y:NF} {t:List NF}(d:wf X)(h:(Y,t)∈bG X):wf Y/\EV t:=by
 revert Y t d
 refine NF.ind (P:=λX=>∀{Y:NF} {t:List NF},wf X->(Y,t)∈bG X->wf Y/\EV t) ?_ X;intro X f Y t d h;rcases tJ h with⟨rfl,rfl⟩|⟨a,b,s,rfl,g,rfl⟩|⟨a,b,rfl,g⟩|⟨l,z,rfl,hz,g⟩|⟨a,s,rfl,g,rfl⟩
 .exact⟨d,by intro x c;simp at c⟩
 .have e:=f a (by simp[NF.size];omega) d.1 g
  refine⟨e.1,?_⟩;intro x c;rcases a0e.1 c with c|c
  .exact e.2 x c
  exact Zg d.2.1 d.2.2.2 x c
 .exact f b (by simp[NF.size];omega) d.2.1 g
 .have e:=dx hz
  exact f z (by simp[NF.size];omega) (kJ.1 d.1 z hz) g
 have e:=f a (by simp[NF.size]) d.1 g;refine⟨e.1,?_⟩;intro x c;rcases a0e.1 c with c|c
 .exact e.2 x c
 simp at c;subst c;exact⟨d,rfl⟩
def uy {X Y:NF} {t u r:List NF} {c:NF}(h:(Y,t)∈bG X)(ht:t=u++c::r):(c,r)∈bG X:=by
 revert Y t u r c
 refine NF.ind (P:=λX=>∀{Y:NF} {t u r:List NF} {c:NF},(Y,t)∈bG X->t=u++c::r->(c,r)∈bG X) ?_ X;intro X f Y t u r c h ht;rcases tJ h with⟨rfl,rfl⟩|⟨a,b,s,rfl,g,rfl⟩|⟨a,b,rfl,g⟩|⟨l,z,rfl,hz,g⟩|⟨a,s,rfl,g,rfl⟩
 .simp at ht
 .rcases List.append_eq_append_iff.1 ht with⟨us,e,d⟩|⟨cs,e,d⟩
  .exact BN (Po d)
  cases cs with
  | nil=>simp at e d;exact BN (Po (u:=[]) (by simpa using d.symm))
  | cons y cs=>simp at d;obtain⟨rfl,rfl⟩:=d;exact BM (f a (by simp[NF.size];omega) g e)
 .grind [BN,NF.size]
 .have i:=dx hz
  exact JV hz (f z (by simp[NF.size];omega) g ht)
 rcases List.append_eq_append_iff.1 ht with⟨us,e,d⟩|⟨cs,e,d⟩
 .cases us with
  | nil=>simp at d;obtain⟨rfl,rfl⟩:=d;exact fT _
  | cons y us=>simp at d
 cases cs with
 | nil=>simp at d;obtain⟨rfl,rfl⟩:=d;exact fT _
 | cons y cs=>simp at d;obtain⟨rfl,rfl⟩:=d;exact wL (f a (by simp[NF.size]) g e)
def ko {X Y Z:NF} {t s:List NF}(h:(Y,t)∈bG X)(k:(Z,s)∈bG Y):(Z,s++t)∈bG X:=by
 revert Y t
 refine NF.ind (P:=λX=>∀{Y:NF} {t:List NF},(Y,t)∈bG X->(Z,s)∈bG Y->(Z,s++t)∈bG X) ?_ X;intro X c Y t h k;rcases tJ h with⟨rfl,rfl⟩|⟨a,b,s',rfl,g,rfl⟩|⟨a,b,rfl,g⟩|⟨l,z,rfl,hz,g⟩|⟨a,s',rfl,g,rfl⟩
 .simpa using k
 .grind [BM,NF.size]
 .grind [BN,NF.size]
 .have d:=dx hz
  exact JV hz (c z (by simp[NF.size];omega) g k)
 grind [wL,NF.size]
theorem Wk {c:Nat} {p:NF}:∀{t:List NF},EV t->t≠[]->p∈parts (left c (chain t))->dF p=true\/∃u c1 r,t=u++c1::r/\p∈parts (aG (left c c1) (chain r))
 | [x],ht,_,h=>.inr ⟨[],x,[],rfl,by rw[show chain []=.one from rfl,bF];exact h⟩
 | x::y::r,ht,_,h=>by
   have b:EV (y::r):=λz hz=>ht z (by simp at hz |-;exact .inr hz)
   have d:=ht x (by simp);have f:=gI c x d.1;have a:=EW b;have key:p∈parts (aG (left c x) (chain (y::r)))->dF p=true\/∃u c1 r',x::y::r=u++c1::r'/\p∈parts (aG (left c c1) (chain r')) :=
    λh=>.inr ⟨[],x,y::r,rfl,h⟩
   rw[show chain (x::y::r)=.pair x (chain (y::r)) from rfl]at h;simp only[left]at h
   split at h
   .rcases Pn (by simp;exact⟨lY f a,gI c _ a⟩) h with e|⟨z,hz,e⟩
    .exact .inl e
    simp at hz;rcases hz with rfl|rfl
    .exact key e
    rcases Wk b (by simp) e with e|⟨u,c1,r',i,g⟩
    .exact .inl e
    grind
   exact key h
def Q9 {c:Nat} {p h:NF} {t:List NF}(hh:wf h)(ht:EV t)(a:p∈parts (left c (mk h t))) :
 dF p=true\/p∈parts (aG (left c h) (chain t))\/∃u c1 r,t=u++c1::r/\p∈parts (aG (left c c1) (chain r)):=by
 cases t with
 | nil=>exact .inr (.inl (by rw[show chain []=.one from rfl,bF];exact a))
 | cons x t =>
   have b:=EW ht;rw[show mk h (x::t)=.pair h (chain (x::t)) from rfl]at a;simp only[left]at a
   split at a
   .rcases Pn (by simp;exact⟨lY (gI c h hh) b,gI c _ b⟩) a with e|⟨z,hz,e⟩
    .exact .inl e
    simp at hz;rcases hz with rfl|rfl
    .exact .inr (.inl e)
    grind [Wk]
   exact .inr (.inl a)
def dW(X:NF)(w:LN):NF:=w.foldl (λx c=>left c x) X
theorem tK(X:NF)(w:LN)(c:Nat):dW X (w++[c])=left c (dW X w):=by simp[dW]
theorem BR {X:NF}(a:wf X)(w:LN):wf (dW X w):=by
 unfold dW
 induction w generalizing X with
 | nil=>exact a
 | cons c w b=>exact b (gI c X a)
def ym:NF->Bool | .sum _=>true | .set _=>true|_=>false
def XM(X:NF)(w:LN)(p:NF):Prop :=
 dF p=true\/p=.one\/∃Y t v,(Y,t)∈bG X/\v <:+ w/\dP (dW Y v)=true/\p=mk (dW Y v) t/\(v=[]\/(t≠[]/\∀u,u <+: v->u≠[]->ym (dW Y u)=true))
theorem amo {X Y:NF} {w v:LN} {p:NF}(ho:(Y,[])∈bG X)(a:v <:+ w)(h:XM Y v p):XM X w p:=by
 rcases h with h|h|⟨Z,t,u,f,e,d,c,b⟩
 .exact .inl h
 .exact .inr (.inl h)
 have:=ko ho f;rw[a0R]at this;exact .inr (.inr ⟨Z,t,u,this,e.trans a,d,c,b⟩)
def Zh {X x:NF}(e:wf x)(ho:(x,[])∈bG X)(w:LN) {p:NF}(c:p∈parts x):XM X w p:=by
 have d:(p,[])∈bG X:=by
  cases x with
  | zero=>simp[parts]at c
  | sum l=>have:=ko ho (JV (l:=l) c (fT p));simpa using this
  | one=>simp[parts]at c;subst c;exact ho
  | set s=>simp[parts]at c;subst c;exact ho
  | pair a b=>simp[parts]at c;subst c;exact ho
  | star a=>simp[parts]at c;subst c;exact ho
 have f:=wK e c;have g:=mY e c;clear c ho e;cases p with
 | zero=>simp[iU]at g
 | sum l=>simp[iU]at g
 | one=>exact .inr (.inl rfl)
 | set s=>exact .inl rfl
 | pair a b=>have h:=ko d (BM (b:=b) (fT a));simp only[a0V,a0R]at h;refine .inr (.inr ⟨a,elems b,[],h,a2k,f.2.2.1,?_,.inl rfl⟩);rw[lH (EU b),xz f.2.1];rfl
 | star a=>exact .inr (.inr ⟨.star a,[],[],d,a2k,rfl,rfl,.inl rfl⟩)
theorem Pp {X Y:NF} {t:List NF}(c:wf X)(ho:(Y,t)∈bG X)(w:LN) {p:NF}(a:p∈parts (chain t)):XM X w p:=by
 match t,ho,a with
 | [],_,a=>simp[chain,parts]at a;exact .inr (.inl a)
 | [x],ho,a=>have b:=uy (u:=[]) ho rfl;exact Zh (bU c b).1 b w a
 | x::y::r,ho,a=>have b:=uy (u:=[]) ho rfl;have d:=(bU c ho).2 x (by simp);simp[chain,parts]at a;exact .inr (.inr ⟨x,y::r,[],b,a2k,d.2,a,.inl rfl⟩)
def UD {X Y:NF} {t:List NF} {w u:LN}(k:wf X)(ho:(Y,t)∈bG X)(ht:t≠[])(i:u <:+ w)
 (y:∀e,e <+: u->e≠[]->e≠u->ym (dW Y e)=true) (n:∀p∈parts (dW Y u),XM Y u p)  {p:NF} (c:p∈parts (aG (dW Y u) (chain t))):XM X w p:=by
 have f:=bU k ho;have d:ym (dW Y u)=true->∀e,e <+: u->e≠[]->ym (dW Y e)=true:=by grind
 have m:∀F:NF,dW Y u=F->iU F=true->dF F=false->F≠.one->XM X w p:=by
  intro F hF q o x;have j:F∈parts F:=by rw[wJ q];simp
  rcases n F (by rw[hF];exact j) with h|h|⟨Z,s,v,h1,h2,h3,h4,g⟩
  .rw[o]at h;contradiction
  .contradiction
  have r:=(bU f.1 h1).2;rw[hF,h4,UC h3 r f.2,lH (by simp[ht])]at c;simp only[parts,a0w]at c;refine .inr (.inr ⟨Z,s++t,v,ko ho h1,h2.trans i,h3,?_,?_⟩)
  .rw[c,lH (by simp[ht])]
  rcases g with g|g
  .exact .inl g
  simp_all
 cases hF:dW Y u with
 | zero=>rw[hF]at c;simp[aG,parts]at c
 | one=>rw[hF]at c;exact Pp k ho w c
 | set s =>
   have hh:dP (dW Y u)=true:=by rw[hF];rfl
   rw[aX hh (fK f.2 ht)]at c;simp only[parts,a0w]at c;exact .inr (.inr ⟨Y,t,u,ho,i,hh,by rw[c,lH ht],.inr ⟨ht,d (by rw[hF];rfl)⟩⟩)
 | sum l =>
   have hh:dP (dW Y u)=true:=by rw[hF];rfl
   rw[aX hh (fK f.2 ht)]at c;simp only[parts,a0w]at c;exact .inr (.inr ⟨Y,t,u,ho,i,hh,by rw[c,lH ht],.inr ⟨ht,d (by rw[hF];rfl)⟩⟩)
 | pair a b=>exact m _ hF rfl rfl (by simp)
 | star a=>exact m _ hF rfl rfl (by simp)
theorem yF(X:NF):wf X->∀(w:LN) (p:NF),p∈parts (dW X w)->XM X w p:=by
 refine NF.ind (P:=λX=>wf X->∀(w:LN) (p:NF),p∈parts (dW X w)->XM X w p) ?_ X;intro X y g w;have elem:∀(w:LN) (c:Nat) (c1:NF) (r:List NF) (p:NF),(c1,r)∈bG X->dP c1=true->(∀l,c1=.sum l->r=[]->c1.size<X.size)->p∈parts (aG (left c c1) (chain r))->XM X (w++[c]) p:=by
  intro w c c1 r p ho hh T d;have f:=bU g ho;have H:∀Y:NF,dW Y [c]=left c Y:=λY=>rfl
  have k:[c] <:+ w++[c]:=List.suffix_append _ _;have G:∀(Y:NF) (o:LN),o <+: [c]->o≠[]->o≠[c]->ym (dW Y o)=true:=by grind [List.prefix_cons_iff]
  cases c1 with
  | zero=>simp[dP]at hh
  | one=>simp[dP]at hh
  | pair a b=>simp[dP]at hh
  | set s =>
    simp only[left]at d
    split at d
    .exact Pp g ho _ d
    simp[aG,parts]at d
  | star Z =>
    have N:(Z,.star Z::r)∈bG X:=by have:=ko ho (wL (fT Z));simpa using this
    have B:=(pZ ho).1;have m:Z.size<X.size:=by simp[NF.size]at B;omega
    have I:wf Z:=f.1.1;have e:aG (left c (.star Z)) (chain r)=aG (dW Z [c]) (chain (.star Z::r)):=by
     rw[H];simp only[left];rw[GK _ _ _ (gI c Z I) f.1]
     congr 1
     exact uw (s:=[.star Z]) (t:=r) (by intro x D;simp at D;subst D;exact⟨f.1,rfl⟩) f.2
    rw[e]at d;exact UD g N (by simp) k (G Z) (y Z m I [c]) d
  | sum l =>
    by_cases E:r=[]
    .grind [chain,bF,amo]
    have m:=(pZ ho).2 E;rw[<-H]at d;exact UD g ho E k (G _) (y _ m f.1 [c]) d
 have main:∀n (w:LN),w.length=n->∀p,p∈parts (dW X w)->XM X w p:=by
  intro n
  induction n with
  | zero=>intro w i p d;have:=a0S i;subst this;exact Zh g (fT X) [] d
  | succ n q =>
    intro w i p d;obtain⟨w',c,rfl⟩:∃w' c,w=w'++[c]:=by
     have F:w≠[]:=by intro e;subst e;simp at i
     exact⟨w.dropLast,w.getLast F,(a2t F).symm⟩
    have R:w'.length=n:=by simp at i;exact i
    rw[tK]at d;have hq:=BR g w';rcases Wh hq d with h|⟨C,j,d⟩
    .exact .inl h
    have O:=mY hq j;rcases q w' R C j with h|h|⟨Y,t,v,ho,M,hh,rfl,S⟩
    .cases C<;>simp[dF]at h
     simp only[left]at d
     split at d<;>simp[parts]at d
     exact .inr (.inl d)
    .grind [left,parts]
    have f:=bU g ho;rcases Q9 (BR f.1 v) f.2 d with h|h|⟨u,c1,r,A,h⟩
    .exact .inl h
    .rcases S with rfl|⟨ht,U⟩
     .refine elem w' c Y t p ho hh ?_ h
      rintro l rfl rfl;simp[mk,dW,iU]at O
     have m:=(pZ ho).2 ht;rw[<-tK]at h;refine UD g ho ht (u:=v++[c]) ?_ ?_ (y Y m f.1 (v++[c])) h
     .obtain⟨z,rfl⟩:=M;exact⟨z,by simp⟩
     grind [List.prefix_concat_iff]
    have J:=uy ho A;have L:=f.2 c1 (by rw[A];simp);refine elem w' c c1 r p J L.2 ?_ h;rintro l rfl rfl;rcases Ol ho (.sum l) (by rw[A];simp) with h|⟨a,e,_⟩
    .exact h
    simp at e
 exact main _ w rfl
theorem zy:∀a:LB,blt a a=false
 | []=>rfl
 | a::r=>by simp[blt,zy r]
theorem Pq:∀{a b c:LB},blt a b=true->blt b c=true->blt a c=true
 | [],[],_,h,_=>by simp[blt]at h
 | [],_::_,[],_,h=>by simp[blt]at h
 | [],_::_,_::_,_,_=>rfl
 | _::_,[],_,h,_=>by simp[blt]at h
 | _::_,_::_,[],_,h=>by simp[blt]at h
 | a::x,b::y,c::z,f,e=>by
   unfold blt at f e |-
   split at f
   .grind
   split at f
   .rename_i _ i
    have:=eq_of_beq i;subst this
    split at e
    .rename_i g;rw[a0m g]
    rename_i g
    split at e
    .rename_i d
     have:=eq_of_beq d;subst this;rw[a0n g,a0m (a3d _)];exact Pq f e
    simp at e
   simp at f
theorem age:∀(a b:LB),blt a b=true\/a=b\/blt b a=true
 | [],[]=>.inr (.inl rfl)
 | [],_::_=>.inl rfl
 | _::_,[]=>.inr (.inr rfl)
 | a::x,b::y=>by
   by_cases d:a<b
   .grind [left,blt]
   by_cases c:a=b
   .simp_all[age,left,blt]
   grind [blt]
def Ris(l:List NF):Prop:=l.Pairwise (λx y=>blt (name x) (name y)=true)
def agf:∀{l:List NF} {x:NF},Ris l->Ris (put l x)
 | [],x,h=>List.pairwise_singleton _ _
 | y::r,x,h=>by
   have c:=h;unfold Ris at h;rw[a1F]at h;unfold put
   split
   .rename_i a
    refine a1F.2 ⟨?_,agf h.2⟩;intro p b;rcases put_mem b with e|e
    .exact h.1 p e
    subst e;exact a
   split
   .exact c
   rename_i g f
   refine a1F.2 ⟨?_,c⟩;have d:blt (name x) (name y)=true:=by grind [age,name]
   intro p b;rcases a0l.1 b with e|e
   .subst e;exact d
   exact Pq d (h.1 p e)
def JX:∀{l acc:List NF},Ris acc->Ris (l.foldl put acc)
 | [],_,h=>h
 | _::r,_,h=>JX (l:=r) (agf h)
def xA(l:List NF):Ris (gU l):=JX List.Pairwise.nil
def agh:∀{l:List NF} {x:NF},(∀y,name y=name x->y∈l->y=x)->x∈put l x
 | [],x,_=>by simp[put]
 | y::r,x,h=>by
   unfold put
   split
   .exact a2l _ (agh (λz hz a=>h z hz (a2l _ a)))
   grind
theorem agi:∀{l:List NF} {x p:NF},p∈l->p∈put l x
 | y::r,x,p,h=>by
   unfold put
   split
   .rcases a0l.1 h with e|e
    .simp[e]
    simp_all[agi]
   grind
def JY(l:List NF):Prop:=∀x∈l,∀y∈l,name x=name y->x=y
def JZ:∀{l acc:List NF} {p:NF},JY (acc++l)->(p∈acc\/p∈l)->p∈l.foldl put acc
 | [],acc,p,_,h=>by simpa using h
 | x::r,acc,p,ht,h=>by
   have g:x∈put acc x:=agh (λy e d=>ht y (by simp[d]) x (by simp) e);refine JZ (l:=r) ?_ ?_
   .intro a f b hb e
    have c:∀z,z∈put acc x++r->z∈acc++x::r:=by
     intro z hz;rcases a0e.1 hz with h|h
     .grind [put_mem]
     simp[h]
    exact ht a (c a f) b (c b hb) e
   grind [agi]
theorem iA {l:List NF}(ht:JY l) {p:NF}:p∈gU l↔p∈l :=
 ⟨kK,λh=>JZ (acc:=[]) ht (.inr h)⟩
def Zk:∀{a b:List NF},Ris a->Ris b->(∀p,p∈a↔p∈b)->a=b
 | [],[],_,_,_=>rfl
 | [],y::b,_,_,h=>by have:=(h y).2 (by simp);simp at this
 | x::a,[],_,_,h=>by have:=(h x).1 (by simp);simp at this
 | x::a,y::b,d,hb,h=>by
   have c:=a1F.1 d;have f:=a1F.1 hb;have e:x=y:=by grind [Pq,zy]
   subst e
   congr 1
   refine Zk c.2 f.2 ?_;intro p
   constructor
   .grind [zy]
   grind [zy]
def GU(c:UInt8):Bool:=(48<=c&&c<=57)||(97<=c&&c<=102)
def okr(r:LB):Prop:=∀c r',r=c::r'->c≠42/\GU c=false
def nI:Nat->LB
 | 0=>[]
 | n+1=>42::nI n
def ajg:Nat->NF->NF
 | 0,x=>x
 | n+1,x=>ajg n (.star x)
def yG:∀{k a:Nat} {r r':LB},okr r->okr r'->nI k++r=nI a++r'->k=a/\r=r'
 | 0,0,r,r',_,_,h=>⟨rfl,h⟩
 | 0,k+1,r,r',c,_,h=>by have:=c 42 (nI k++r') h;simp at this
 | k+1,0,r,r',_,b,h=>by have:=b 42 (nI k++r) h.symm;simp at this
 | k+1,a+1,r,r',c,b,h=>by simp only[nI,a0L,List.cons.injEq,a1W]at h;obtain⟨e,d⟩:=yG c b h;exact⟨by rw[e],d⟩
theorem amq(n:Nat)(h:n<16):GU (sI n)=true:=by
 have:∀m:Fin 16,GU (sI m.1)=true:=by decide
 exact this ⟨n,h⟩
def unhex(c:UInt8):Nat:=if c<=57 then c.toNat-48 else c.toNat-87
theorem Wn(n:Nat)(h:n<16):unhex (sI n)=n:=by
 have:∀m:Fin 16,unhex (sI m.1)=m.1:=by decide
 exact this ⟨n,h⟩
def Rf:LB->LN
 | a::b::r=>(unhex a*16+unhex b)::Rf r
 | _=>[]
def GV(s:Nat):∀k,k<=256->∀c∈setName s k,GU c=true
 | 0,_,c,h=>by simp[setName]at h
 | k+1,a,c,h=>by
   simp only[setName,a0e]at h;rcases h with h|h
   .exact GV s k (by omega) c h
   grind [amq]
def Wo(s:Nat):Nat->LN
 | 0=>[]
 | k+1=>Wo s k++(if s.testBit k then [k] else [])
theorem Wp:∀(a:LB) (x y:UInt8),(∃m,a.length=2*m)->Rf (a++[x,y])=Rf a++[unhex x*16+unhex y]
 | [],x,y,_=>rfl
 | [a],x,y,h=>by obtain⟨m,h⟩:=h;simp at h;omega
 | a::b::r,x,y,h=>by obtain⟨m,h⟩:=h;have:=Wp r x y ⟨m-1,by simp at h;omega⟩;simp only[a0L,Rf,this]
theorem Rh(s:Nat):∀k,∃m,(setName s k).length=2*m
 | 0=>⟨0,rfl⟩
 | k+1=>by
   obtain⟨m,h⟩:=Rh s k;simp only[setName]
   split
   .exact⟨m+1,by simp[h];omega⟩
   exact⟨m,by simp[h]⟩
theorem J3(s:Nat):∀k,k<=256->Rf (setName s k)=Wo s k
 | 0,_=>rfl
 | k+1,h=>by
   have a:=J3 s k (by omega);simp only[setName,Wo]
   split
   .rw[Wp _ _ _ (Rh s k),a,Wn _ (by omega),Wn _ (by omega)]
    congr 2;omega
   simp[a]
theorem UG(s:Nat):∀k i,i∈Wo s k↔i<k/\s.testBit i=true
 | 0,i=>by simp[Wo]
 | k+1,i=>by
   simp only[Wo,a0e,UG s k i]
   by_cases h:s.testBit k=true
   .grind
   grind
theorem aeW {s t:Nat}(a:s<2 ^ 256)(ht:t<2 ^ 256)(h:setName s 256=setName t 256):s=t:=by
 have c:Wo s 256=Wo t 256:=by rw[<-J3 s 256 (by omega),<-J3 t 256 (by omega),h]
 apply a1D;intro i
 by_cases d:i<256
 .have b:=UG s 256 i
  have e:=UG t 256 i;rw[c]at b;rw[a0T]
  constructor
  .grind
  grind
 rw[a1z (a0t a (a1r (by omega) (by omega))),a1z (a0t ht (a1r (by omega) (by omega)))]
def acF:∀{a b r r':LB},(∀c∈a,GU c=true)->(∀c∈b,GU c=true)->(∀c q,r=c::q->GU c=false)->(∀c q,r'=c::q->GU c=false)->a++r=b++r'->a=b/\r=r'
 | [],[],r,r',_,_,_,_,h=>⟨rfl,h⟩
 | [],y::b,r,r',_,hb,g,_,h=>by grind
 | x::a,[],r,r',e,_,_,f,h=>by grind
 | x::a,y::b,r,r',e,hb,g,f,h=>by simp only[a0L,List.cons.injEq]at h;obtain⟨j,i⟩:=acF (λc d=>e c (by simp[d])) (λc d=>hb c (by simp[d])) g f h.2;exact⟨by rw[h.1,j],i⟩
def Zm {r:LB}(h:okr r)(k:Nat):∀c q,nI k++r=c::q->GU c=false:=by
 intro c q e;cases k with
 | zero=>exact(h c q e).2
 | succ k=>simp[nI]at e;rw[<-e.1];decide
def NI(n:Nat):Prop:=∀(x y:NF),x.size+y.size<=n->wf x->wf y->∀(k a:Nat) (r r':LB),okr r->okr r'->name x++(nI k++r)=name y++(nI a++r')->ajg k x=ajg a y/\r=r'
def aow(r:LB):okr (32::r):=by intro c q e;simp at e;rw[<-e.1];decide
def aox(r:LB):okr (41::r):=by intro c q e;simp at e;rw[<-e.1];decide
def ak7(r:LB):okr (124::r):=by intro c q e;simp at e;rw[<-e.1];decide
def Ps(x:NF):∃c r,name x=c::r/\c≠93:=by
 refine NF.ind (P:=λx=>∃c r,name x=c::r/\c≠93) ?_ x;intro x d;cases x with
 | zero=>exact⟨_,_,rfl,by decide⟩
 | one=>exact⟨_,_,rfl,by decide⟩
 | set s=>exact⟨_,_,rfl,by decide⟩
 | pair a b=>exact⟨_,_,rfl,by decide⟩
 | sum l=>exact⟨_,_,rfl,by decide⟩
 | star a=>obtain⟨c,r,h,e⟩:=d a (by simp[NF.size]);exact⟨c,r++[42],by simp[name,h],e⟩
def Zn(d:NI n):∀{l a:List NF} {r r':LB},bP l+bP a<=n->wfL l->wfL a->ed l++93::r=ed a++93::r'->l=a/\r=r'
 | [],[],r,r',_,_,_,h=>by simpa[ed] using h
 | [],y::a,r,r',_,_,_,h=>by obtain⟨c,q,e,b⟩:=Ps y;simp[ed,e]at h;exact absurd h.1.symm b
 | x::l,[],r,r',_,_,_,h=>by obtain⟨c,q,e,b⟩:=Ps x;simp[ed,e]at h;exact absurd h.1 b
 | x::l,y::a,r,r',j,g,f,h=>by simp only[bP]at j;simp only[ed,a0M,a0L]at h;obtain⟨o,i⟩:=d x y (by omega) g.1 f.1 0 0 _ _ (ak7 _) (ak7 _) h;simp only[List.cons.injEq,a1W]at i;obtain⟨m,k⟩:=Zn d (by omega) g.2 f.2 i;exact⟨by rw[show x=y from o,m],k⟩
def Om:∀n,NI n
 | 0=>by intro x y h;have:=x.size_pos;omega
 | n+1=>by
   have o:=Om n;intro x y q j i k e r r' f g h;cases x with
   | star a =>
     have:name a++(nI (k+1)++r)=name y++(nI e++r'):=by simp only[name,a0M,a1h]at h;exact h
     exact o a y (by simp[NF.size]at q;omega) j.1 i (k+1) e r r' f g this
   | zero =>
     cases y with
     | star b =>
       have:name NF.zero++(nI k++r)=name b++(nI (e+1)++r'):=by simp only[name,a0M,a1h]at h |-;exact h
       exact o _ b (by simp[NF.size]at q |-;omega) j i.1 k (e+1) r r' f g this
     | zero=>simp only[name,a0L,List.cons.injEq,a1W,a0V]at h;obtain⟨p,m⟩:=yG f g h;exact⟨by rw[p],m⟩
     | _=>simp[name]at h
   | one =>
     cases y with
     | star b =>
       have:name NF.one++(nI k++r)=name b++(nI (e+1)++r'):=by simp only[name,a0M,a1h]at h |-;exact h
       exact o _ b (by simp[NF.size]at q |-;omega) j i.1 k (e+1) r r' f g this
     | one=>simp only[name,a0L,List.cons.injEq,a1W,a0V]at h;obtain⟨p,m⟩:=yG f g h;exact⟨by rw[p],m⟩
     | _=>simp[name]at h
   | set s =>
     cases y with
     | star b =>
       have:name (.set s)++(nI k++r)=name b++(nI (e+1)++r'):=by simp only[name,a0M,a1h]at h |-;exact h
       exact o _ b (by simp[NF.size]at q |-;omega) j i.1 k (e+1) r r' f g this
     | set t=>simp only[name,a0L,List.cons.injEq,a1W]at h;obtain⟨p,m⟩:=acF (GV s 256 (by omega)) (GV t 256 (by omega)) (Zm f k) (Zm g e) h;obtain⟨z,u⟩:=yG f g m;exact⟨by rw[z,aeW j.2 i.2 p],u⟩
     | _=>simp[name]at h
   | pair a b =>
     cases y with
     | star c =>
       have:name (.pair a b)++(nI k++r)=name c++(nI (e+1)++r'):=by simp only[name,a0M,a1h]at h |-;exact h
       exact o _ c (by simp[NF.size]at q |-;omega) j i.1 k (e+1) r r' f g this
     | pair c d=>simp only[name,a0L,a0M,List.cons.injEq,a1W,a0V]at h;simp only[NF.size]at q;obtain⟨p,m⟩:=o a c (by omega) j.1 i.1 0 0 _ _ (aow _) (aow _) h;simp only[List.cons.injEq,a1W]at m;obtain⟨z,u⟩:=o b d (by omega) j.2.1 i.2.1 0 0 _ _ (aox _) (aox _) m;simp only[List.cons.injEq,a1W]at u;obtain⟨w,v⟩:=yG f g u;exact⟨by rw[w,show a=c from p,show b=d from z],v⟩
     | _=>simp[name]at h
   | sum l =>
     cases y with
     | star c =>
       have:name (.sum l)++(nI k++r)=name c++(nI (e+1)++r'):=by simp only[name,a0M,a1h]at h |-;exact h
       exact o _ c (by simp[NF.size]at q |-;omega) j i.1 k (e+1) r r' f g this
     | sum A=>simp only[name,a0L,a0M,List.cons.injEq,a1W,a0V]at h;simp only[NF.size]at q;obtain⟨p,m⟩:=Zn o (by omega) j.1 i.1 h;obtain⟨w,v⟩:=yG f g m;exact⟨by rw[w,p],v⟩
     | _=>simp[name]at h
theorem UH {x y:NF}(d:wf x)(b:wf y)(h:name x=name y):x=y:=by
 have a:okr []:=by intro c q e;simp at e
 exact(Om _ x y (a0b _) d b 0 0 [] [] a a (by simpa[nI] using h)).1
theorem BU {l:List NF}(h:∀x∈l,wf x):JY l:=λx b y a e=>UH (h x b) (h y a) e
theorem mg:∀(l:List NF) (i:Nat),(bf l).testBit i=l.any λx=>(bits x).testBit i
 | [],i=>by simp[bf]
 | x::r,i=>by rw[tH,a2D,mg r i];simp
def GY {a b:List NF}(h:∀i,(a.any λx=>(bits x).testBit i)=b.any λx=>(bits x).testBit i):bf a=bf b:=by apply a1D;intro i;rw[mg,mg,h]
theorem UI {x:NF}(h:dF x=false):bits x=0:=by cases x<;>simp[dF]at h<;>rfl
theorem jl {l:List NF} {p:NF}:p∈bN l↔(p∈l/\dF p=false)\/(bf l≠0/\p=.set (bf l)):=by grind [bN,bf]
theorem J4 {l:List NF}(a:∀x∈l,wf x):∀x∈bN l,wf x:=by
 intro x b;rcases jl.1 b with h|⟨c,rfl⟩
 .exact a x h.1
 exact⟨a2P c,UB a⟩
theorem Zo {l:List NF}(b:∀x∈l,iU x=true):∀x∈bN l,iU x=true:=by
 intro x a;rcases jl.1 a with h|⟨c,rfl⟩
 .exact b x h.1
 rfl
def GZ {F G:List NF}(hF:∀x∈F,wf x)(hG:∀x∈G,wf x)(h:∀p,dF p=false->(p∈F↔p∈G))(a:bf F=bf G):gU (bN F)=gU (bN G):=by
 refine Zk (xA _) (xA _) ?_;intro p;rw[iA (BU (J4 hF)),iA (BU (J4 hG)),jl,jl,a]
 constructor
 .grind
 grind
theorem xC {ls:List NF}(a:∀x∈ls,wf x):∀p∈ls.flatMap parts,wf p:=by grind [wK]
theorem Zp {ls:List NF}(a:∀x∈ls,wf x):∀p∈ls.flatMap parts,iU p=true:=by grind [mY]
theorem rD {ls:List NF}(a:∀x∈ls,wf x) {p:NF}:p∈parts (bQ ls)↔p∈bN (ls.flatMap parts):=by unfold bQ;rw[Pm (λq hq=>Zo (Zp a) q (kK hq)),iA (BU (J4 (xC a)))]
theorem UJ {ls:List NF}(a:∀x∈ls,wf x):bf (parts (bQ ls))=bf (ls.flatMap parts):=by
 apply a1D;intro i;rw[mg,a0T,a1s]
 constructor
 .rintro⟨p,b,hb⟩
  rcases jl.1 ((rD a).1 b) with⟨_,h⟩|⟨_,rfl⟩
  .rw[UI h]at hb;simp at hb
  exact hb
 intro hb;have c:bf (ls.flatMap parts)≠0:=by intro e;rw[e]at hb;simp at hb
 exact⟨.set (bf (ls.flatMap parts)),(rD a).2 (jl.2 (.inr ⟨c,rfl⟩)),hb⟩
theorem zh(a b:List NF):bf (a++b)=bf a ||| bf b:=by apply a1D;intro i;rw[a2D,mg,mg,mg,List.any_append]
theorem Ri {UK bs:List NF}(b:∀x∈UK,wf x)(hb:∀x∈bs,wf x):bQ (bQ UK::bs)=bQ (UK++bs):=by
 have a:∀x∈UK++bs,wf x:=by grind
 have ho:∀x∈bQ UK::bs,wf x:=by simp_all[Ms,hb]
 show mkS _=mkS _
 congr 1
 refine GZ (xC ho) (xC a) ?_ ?_
 .grind [rD,jl,dF]
 grind [zh,UJ]
def vT {UK bs:List NF}(a:∀x∈UK,wf x)(hb:∀x∈bs,wf x)(h:∀p,p∈UK.flatMap parts↔p∈bs.flatMap parts):bQ UK=bQ bs:=by
 show mkS _=mkS _
 congr 1
 refine GZ (xC a) (xC hb) (λp _=>h p) ?_;refine GY λi=>?_
 rw[a0T,a1s,a1s]
 constructor
 .grind
 grind
def Wq(x:NF):Prop:=bQ [x]=x
def aoy {ls:List NF}(a:∀x∈ls,wf x):Wq (bQ ls):=by have:=Ri a (bs:=[]) (by simp);rwa [a0R]at this
def acG {x:NF}(c:wf x)(h:∀l,x≠.sum l):Wq x:=by
 cases x with
 | sum l=>exact absurd rfl (h l)
 | zero=>rfl
 | one=>simp[Wq,bQ,parts,bN,dF,bf,bits,gU,put,mkS]
 | pair a b=>simp[Wq,bQ,parts,bN,dF,bf,bits,gU,put,mkS]
 | star a=>simp[Wq,bQ,parts,bN,dF,bf,bits,gU,put,mkS]
 | set s =>
   have:s≠0:=by have:=c.1;omega
   simp[Wq,bQ,parts,bN,dF,bf,bits,gU,put,mkS,this]
mutual
def can:NF->Prop
 | .zero=>True
 | .one=>True
 | .set _=>True
 | .pair a b=>can a/\can b
 | .sum l=>agj l/\Wq (.sum l)
 | .star a=>can a
def agj:List NF->Prop
 | []=>True
 | x::r=>can x/\agj r
end
theorem wM:∀{l:List NF},agj l↔∀x∈l,can x
 | []=>by simp[agj]
 | x::r=>by simp[agj,wM (l:=r)]
def Pv {x:NF}(a:wf x)(h:can x):Wq x:=by
 cases x with
 | sum l=>exact h.2
 | _=>exact acG a (by simp)
theorem ajh {x p:NF}(a:can x)(h:p∈parts x):can p:=by
 cases x with
 | zero=>simp[parts]at h
 | sum l=>exact wM.1 a.1 p h
 | _=>simp[parts]at h;subst h;exact a
def Zq {ls:List NF}(d:∀x∈ls,wf x)(e:∀x∈ls,can x):can (bQ ls):=by
 have c:∀p∈parts (bQ ls),can p:=by
  intro p c;rcases jl.1 ((rD d).1 c) with⟨h,_⟩|⟨_,rfl⟩
  .grind [ajh]
  trivial
 cases ho:bQ ls with
 | zero=>trivial
 | sum l=>rw[ho]at c;refine⟨wM.2 c,?_⟩;have:=aoy d;rwa [ho]at this
 | one=>trivial
 | set s=>trivial
 | pair a b=>rw[ho]at c;exact c _ (by simp[parts])
 | star a=>rw[ho]at c;exact c _ (by simp[parts])
def BV:∀{a b:NF},can a->can b->can (aG a b)
 | .zero,b,_,_=>trivial
 | .one,b,_,hb=>hb
 | .pair c d,b,e,hb=>by
   by_cases ht:aP b=true
   .rw[dA ht];exact BV e.1 (BV e.2 hb)
   grind [fQ,fJ,bF]
 | .set s,b,e,hb=>by
   by_cases ht:aP b=true
   .rw[aX rfl ht];exact⟨e,hb⟩
   grind [fQ,fJ,bF]
 | .sum l,b,e,hb=>by
   by_cases ht:aP b=true
   .rw[aX rfl ht];exact⟨e,hb⟩
   grind [fQ,fJ,bF]
 | .star a,b,e,hb=>by
   by_cases ht:aP b=true
   .rw[aX rfl ht];exact⟨e,hb⟩
   grind [fQ,fJ,bF]
def acH(c:Nat)(x:NF):wf x->can x->can (left c x):=by
 refine NF.ind (P:=λx=>wf x->can x->can (left c x)) ?_ x;intro x e f d;cases x with
 | zero=>trivial
 | one=>trivial
 | set s=>simp only[left];split<;>trivial
 | pair a b =>
   obtain⟨i,wb,_,_⟩:=f;have h:=BV (e a (by simp[NF.size];omega) i d.1) d.2;simp only[left]
   split
   .refine Zq ?_ ?_
    .grind [lY,gI]
    simp;exact⟨h,e b (by simp[NF.size];omega) wb d.2⟩
   exact h
 | sum l =>
   simp only[left,fP];refine Zq ?_ ?_
   .intro y g;obtain⟨z,hz,rfl⟩:=a0q.1 g;exact gI c z (kJ.1 f.1 z hz)
   intro y g;obtain⟨z,hz,rfl⟩:=a0q.1 g;have:=dx hz;exact e z (by simp[NF.size];omega) (kJ.1 f.1 z hz) (wM.1 d.1 z hz)
 | star a=>exact BV (e a (by simp[NF.size]) f.1 d) d
def amr {a:NF}(h:wf a):wf (iH a):=by cases a<;>first | trivial|exact h|exact⟨h,rfl⟩
def aji {a:NF}(h:can a):can (iH a):=by cases a<;>first | trivial|exact h
def sV(X:NF)(w:LN)(f:NF):Prop :=
 ∃Z u Y t v,(Z,u)∈bG X/\(Y,t)∈bG Z/\v <:+ w/\f=mk (dW Y v) t/\(t≠[]->dP (dW Y v)=true)
theorem yH {X Z Y:NF} {u t:List NF}(h:(Z,u)∈bG X)(k:(Y,t)∈bG Z):∃s,(Y,s)∈bG X:=⟨_,ko h k⟩
theorem Mt {X Y:NF} {t:List NF}(h:(Y,t)∈bG X) {v w:LN}(a:v <:+ w):sV X w (dW Y v) :=
 ⟨Y,t,Y,[],v,h,fT Y,a,rfl,λh=>absurd rfl h⟩
theorem ajj {X Z Y:NF} {u t:List NF}(d:wf X)(b:(Z,u)∈bG X)(a:(Y,t)∈bG Z)(ht:t≠[])(w:LN):sV X w (chain t):=by
 match t,a,ht with
 | c1::r,a,_=>have e:=uy (u:=[]) a rfl;have c:=(bU (bU d b).1 a).2 c1 (by simp);refine⟨Z,u,c1,r,[],b,e,a2k,?_,λ_=>c.2⟩;cases r<;>rfl
theorem Zr {X Y:NF} {t:List NF}(h:(Y,t)∈bG X) {v w:LN}(c:v <:+ w) {p:NF}(d:XM Y v p):dF p=true\/p=.one\/sV X w p:=by
 rcases d with a|a|⟨i,s,b,a,g,f,e,j⟩
 .exact .inl a
 .exact .inr (.inl a)
 exact .inr (.inr ⟨Y,t,i,s,b,h,a,g.trans c,e,λ_=>f⟩)
theorem Mv {X:NF}(k:wf X) {w:LN} {a b:NF}(h:sV X w (.pair a b)) :
 ∃Z u Y t v,(Z,u)∈bG X/\(Y,t)∈bG Z/\t≠[]/\v <:+ w/\a=dW Y v/\dP a=true/\b=chain t:=by
 obtain⟨Z,u,Y,t,v,e,f,g,c,hh⟩:=h
 by_cases ht:t=[]
 .subst ht
  rw[show mk (dW Y v) []=dW Y v from rfl]at c;have l:=(bU k e).1;have m:=(bU l f).1;have i:=yF Y m v (.pair a b) (by rw[<-c];simp[parts]);rcases i with d|d|⟨z,s,n,d,y,x,r,q⟩
  .simp[dF]at d
  .simp at d
  obtain⟨o,j⟩:=yH e f
  by_cases p:s=[]
  .grind [mk,dW,dP]
  grind [lH]
 rw[lH ht]at c;simp only[NF.pair.injEq]at c;exact⟨Z,u,Y,t,v,e,f,ht,g,c.1,by rw[c.1];exact hh ht,c.2⟩
def Zs {X:NF}(c:wf X) {w:LN} {a b:NF}(h:sV X w (.pair a b)):sV X w a:=by grind [Mv,yH,Mt]
def Pw {X:NF}(c:wf X) {w:LN} {a b:NF}(h:sV X w (.pair a b)):sV X w b:=by grind [Mv,ajj]
def acI {X:NF}(i:wf X) {w:LN} {a:NF}(h:sV X w (.star a)):∃s,(.star a,s)∈bG X:=by
 obtain⟨Z,u,Y,t,v,f,g,m,e,hh⟩:=h
 by_cases ht:t=[]
 .subst ht
  rw[show mk (dW Y v) []=dW Y v from rfl]at e;have j:=(bU i f).1;have k:=(bU j g).1;obtain⟨l,b⟩:=yH f g;rcases yF Y k v (.star a) (by rw[<-e];simp[parts]) with h1|h1|⟨Y',s,v',h1,h2,h3,h4,h5⟩
  .simp[dF]at h1
  .simp at h1
  rcases h5 with rfl|⟨d,_⟩
  .by_cases d:s=[]
   .subst d
    have c:NF.star a=Y':=h4;subst c;exact yH b h1
   grind [lH]
  grind [lH]
 grind [lH]
theorem Zt {X:NF}(c:wf X) {w:LN} {a:NF}(h:sV X w (.star a)):sV X w a:=by obtain⟨s,b⟩:=acI c h;exact Mt (v:=[]) (ko b (wL (fT a))) a2k
def Zu {X:NF}(g:wf X) {w:LN} {l:List NF}(h:sV X w (.sum l)) {p:NF}(f:p∈l):dF p=true\/p=.one\/sV X w p:=by
 obtain⟨Z,u,Y,t,v,c,d,e,b,hh⟩:=h
 by_cases ht:t=[]
 .subst ht
  rw[show mk (dW Y v) []=dW Y v from rfl]at b;have i:=(bU g c).1;have j:=(bU i d).1;obtain⟨k,a⟩:=yH c d;exact Zr a e (yF Y j v p (by rw[<-b];exact f))
 grind [lH]
def uZ:NF->NF->List NF
 | .zero,_=>[]
 | .one,_=>[]
 | .pair c d,b=>match b with
   | .zero=>[]
   | .one=>[]
   | b=>uZ d b++uZ c (aG d b)
 | a,b=>match b with
   | .zero=>[]
   | .one=>[]
   | b=>[.pair a b]
theorem nA {a b:NF}(c:dP a=true)(hb:aP b=true):uZ a b=[.pair a b]:=by cases a<;>simp[dP]at c<;>cases b<;>simp[aP]at hb<;>rfl
theorem E5 {c d b:NF}(hb:aP b=true):uZ (.pair c d) b=uZ d b++uZ c (aG d b):=by cases b<;>simp[aP]at hb<;>rfl
def Zv:∀{s t:List NF} {f:NF},EV s->EV t->s≠[]->t≠[]->f∈uZ (chain s) (chain t)->∃x c1 r,s=x++c1::r/\f=mk c1 (r++t)
 | [x],t,f,d,ht,_,c,h=>by rw[show chain [x]=x from rfl,nA (d x (by simp)).2 (fK ht c)]at h;simp at h;exact⟨[],x,[],rfl,by rw[h,a0V,lH c]⟩
 | x::y::s,t,f,d,ht,_,c,h=>by
   have g:EV (y::s):=λz hz=>d z (by simp at hz |-;exact .inr hz)
   have j:EV (y::s++t):=by
    intro w b;rcases a0e.1 b with b|b
    .exact g w b
    exact ht w b
   rw[Wi (by simp),E5 (fK ht c),uw g ht,nA (d x (by simp)).2 (fK j (by simp))]at h;rcases a0e.1 h with h|h
   .obtain⟨a,c1,r,e,i⟩:=Zv g ht (by simp) c h
    exact⟨x::a,c1,r,by rw[e];rfl,i⟩
   simp at h;exact⟨[],x,y::s,rfl,by rw[h];rfl⟩
theorem Zw {X Z Y:NF} {u t:List NF} {v w:LN} {c:Nat}(A:wf X)(k:(Z,u)∈bG X)(m:(Y,t)∈bG Z)(ht:t≠[])(y:v <:+ w) {f:NF}
 (h:f∈uZ (left c (dW Y v)) (chain t)):sV X (w++[c]) f:=by
 have C:=(bU A k).1;have d:=bU C m;have o:=fK d.2 ht;have i:v++[c] <:+ w++[c]:=by obtain⟨z,rfl⟩:=y;exact⟨z,by simp⟩
 rw[<-tK]at h;have q:=BR d.1 (v++[c]);have p:=yF Y d.1 (v++[c]);have head:dP (dW Y (v++[c]))=true->sV X (w++[c]) f:=by intro hh;rw[nA hh o]at h;simp at h;exact⟨Z,u,Y,t,v++[c],k,m,i,by rw[h,lH ht],λ_=>hh⟩
 cases hF:dW Y (v++[c]) with
 | zero=>rw[hF]at h;simp[uZ]at h
 | one=>rw[hF]at h;simp[uZ]at h
 | set s=>exact head (by rw[hF];rfl)
 | sum l=>exact head (by rw[hF];rfl)
 | star a=>exact head (by rw[hF];rfl)
 | pair a b =>
   rcases p (.pair a b) (by rw[hF];simp[parts]) with h1|h1|⟨Y',s,v',h1,h2,h3,h4,h5⟩
   .simp[dF]at h1
   .simp at h1
   have j:s≠[]:=by grind [mk,dW,dP]
   have n:=(bU d.1 h1).2;have B:EV (s++t):=by
    intro w g;rcases a0e.1 g with g|g
    .exact n w g
    exact d.2 w g
   rw[hF,h4,lH j,E5 o,uw n d.2,nA h3 (fK B (by simp[j]))]at h;rcases a0e.1 h with h|h
   .obtain⟨x,c1,r,e,rfl⟩:=Zv n d.2 j ht h
    have ho:=ko m (uy h1 e);have hh:=(n c1 (by rw[e];simp)).2;exact⟨Z,u,c1,r++t,[],k,ho,a2k,rfl,λ_=>hh⟩
   simp at h;exact⟨Z,u,Y',s++t,v',k,ko m h1,h2.trans i,by rw[h,lH (by simp[j])],λ_=>h3⟩
def Made(X:NF)(w:LN)(c:Nat)(f:NF):Prop :=
 sV X (w++[c]) f\/∃g,sV X w g/\(f=left c g\/f=.set (bf (parts (left c g))))
def ajk {X a b:NF} {w:LN} {c:Nat}(d:wf X)(h:sV X w (.pair a b)):∀f∈uZ (left c a) b,Made X w c f:=by obtain⟨Z,u,Y,t,v,i,j,ht,e,rfl,_,rfl⟩:=Mv d h;intro f g;exact .inl (Zw d i j ht e g)
theorem ajl {X a:NF} {w:LN} {c:Nat}(b:wf X)(h:sV X w (.star a)):∀f∈uZ (left c a) (.star a),Made X w c f:=by obtain⟨s,d⟩:=acI b h;intro f e;exact .inl (Zw (v:=[]) (t:=[.star a]) b d (wL (fT a)) (by simp) a2k e)
theorem Zx {X g:NF} {w:LN} {c:Nat}(h:sV X w g):Made X w c (left c g):=.inr ⟨g,h,.inl rfl⟩
def acJ {X g:NF} {w:LN} {c:Nat}(h:sV X w g):Made X w c (.set (bf (parts (left c g)))):=.inr ⟨g,h,.inr rfl⟩
end
section
variable {α:Type} {X Y a d f x:NF} {w w':World} {ab b g h h' i j m n p p' s s':Nat} {D l ls:List NF} {r t:LB} {A R S:LN} {va vn:Value} {cs old:Array Value}
def DF{α:Type}:List α->List (List α)
 | []=>[[]]
 | a::r=>(a::r)::DF r
theorem Mw:∀{w v:List α},v <:+ w->v∈DF w
 | [],v,h=>by have:=List.suffix_nil.1 h;subst this;simp[DF]
 | a::r,v,h=>by
   rcases List.suffix_cons_iff.1 h with e|e
   .subst e;simp[DF]
   simp_all[DF,Mw]
theorem Mx:∀w:List α,(DF w).length=w.length+1
 | []=>rfl
 | a::r=>by simp[DF,Mx r]
def Rj(X:NF)(w:LN):List NF:=(bG X).flatMap λZ=>(bG Z.1).flatMap λY=>(DF w).map λv=>mk (dW Y.1 v) Y.2
theorem E6 {w:LN}(h:sV X w f):f∈Rj X w:=by obtain⟨Z,u,Y,t,v,b,c,a,rfl,_⟩:=h;exact a1l.2 ⟨(Z,u),b,a1l.2 ⟨(Y,t),c,a0q.2 ⟨v,Mw a,rfl⟩⟩⟩
theorem Zy(X:NF):(bG X).length=X.size:=by
 refine NF.ind (P:=λX=>(bG X).length=X.size) ?_ X;intro X d;cases X with
 | zero=>rfl
 | one=>rfl
 | set s=>rfl
 | pair a b=>simp[bG,NF.size,d a (by simp[NF.size];omega),d b (by simp[NF.size];omega)]
 | star a=>simp[bG,NF.size,d a (by simp[NF.size])]
 | sum l =>
   have:∀c:List NF,(∀x∈c,x∈l)->(Dz c).length=bP c:=by
    intro c
    induction c with
    | nil=>intro _;rfl
    | cons x r e=>intro h;have f:=dx (h x (by simp));simp[Dz,bP,d x (by simp[NF.size];omega),e (λy g=>h y (by simp[g]))]
   simp[bG,NF.size,this l (λx f=>f)]
mutual
def dZ:NF->Nat
 | .zero=>1
 | .one=>1
 | .set _=>1
 | .pair a b=>max (dZ a) (dZ b)+1
 | .sum l=>J5 l+1
 | .star a=>dZ a+1
def J5:List NF->Nat
 | []=>0
 | x::r=>max (dZ x) (J5 r)
end
def J6:∀{l:List NF} {x:NF},x∈l->dZ x<=J5 l
 | y::r,x,h=>by
   simp only[J5];rcases a0l.1 h with e|e
   .subst e;omega
   have:=J6 e;omega
def Rk(x:NF):0<dZ x:=by cases x<;>simp[dZ]
def ou(l:List (NF × List NF)):Nat:=(l.map λo=>o.1.size).sum
theorem Rm(a b:List (NF × List NF)):ou (a++b)=ou a+ou b:=by simp[ou]
theorem acK(l:List (NF × List NF))(t:List NF):ou (l.map λo=>(o.1,o.2++t))=ou l:=by simp[ou,Function.comp_def]
def agk(X:NF):ou (bG X)<=X.size*dZ X:=by
 refine NF.ind (P:=λX=>ou (bG X)<=X.size*dZ X) ?_ X;intro X e;cases X with
 | zero=>decide
 | one=>decide
 | set s=>simp[bG,ou,NF.size,dZ]
 | pair a b =>
   have k:=e a (by simp[NF.size];omega);have hb:=e b (by simp[NF.size];omega);have d:ou (bG (.pair a b))=(a.size+b.size+1)+(ou (bG a)+ou (bG b)):=by simp only[bG];rw[show ∀x r,ou (x::r)=x.1.size+ou r from λx r=>by simp[ou],Rm,acK];simp[NF.size]
   rw[d];simp only[NF.size,dZ];have t:a.size*dZ a<=a.size*max (dZ a) (dZ b):=a0o _ (by omega);have q:b.size*dZ b<=b.size*max (dZ a) (dZ b):=a0o _ (by omega);have i:(a.size+b.size+1)*(max (dZ a) (dZ b)+1)=a.size*max (dZ a) (dZ b)+b.size*max (dZ a) (dZ b)+max (dZ a) (dZ b)+(a.size+b.size+1):=by grind
   omega
 | star a =>
   have k:=e a (by simp[NF.size]);have d:ou (bG (.star a))=(a.size+1)+ou (bG a):=by simp only[bG];rw[show ∀x r,ou (x::r)=x.1.size+ou r from λx r=>by simp[ou],acK];simp[NF.size]
   rw[d];simp only[NF.size,dZ];have i:(a.size+1)*(dZ a+1)=a.size*dZ a+dZ a+(a.size+1):=by grind
   omega
 | sum l =>
   have o:∀c:List NF,(∀x∈c,x∈l)->ou (Dz c)<=bP c*J5 l:=by
    intro c
    induction c with
    | nil=>intro _;simp[Dz,ou,bP]
    | cons x r f=>intro h;have g:=dx (h x (by simp));have n:=e x (by simp[NF.size];omega);have p:=f (λy j=>h y (by simp[j]));have m:=J6 (h x (by simp));simp only[Dz,Rm,bP,a0J];have:=a0o x.size m;omega
   have d:ou (bG (.sum l))=(bP l+1)+ou (Dz l):=by simp[bG,ou,NF.size]
   have n:=o l (λx g=>g);rw[d];simp only[NF.size,dZ];have i:(bP l+1)*(J5 l+1)=bP l*J5 l+J5 l+(bP l+1):=by grind
   omega
theorem xD{β:Type}(f:α->List β)(g:α->Nat)(b:∀a,(f a).length=g a):∀l:List α,(l.flatMap f).length=(l.map g).sum
 | []=>rfl
 | a::r=>by simp[b a,xD f g b r]
theorem acL(X:NF)(w:LN):(Rj X w).length=ou (bG X)*(w.length+1):=by
 unfold Rj;rw[xD _ (λZ=>Z.1.size*(w.length+1))]
 .unfold ou
  generalize bG X=l
  induction l with
  | nil=>simp
  | cons a r b=>simp only[a0E,a0Y,b,a0J]
 intro Z;rw[xD _ (λ_=>w.length+1)]
 .rw[<-Zy Z.1]
  generalize bG Z.1=l
  induction l with
  | nil=>simp
  | cons a r b=>simp only[a0E,a0Y,b,a0r,a0J,a2T];omega
 intro Y;simp[Mx]
def J7(X:NF)(w:LN)(c:Nat):List NF:=Rj X (w++[c])++((Rj X w).map (left c)++(Rj X w).map λg=>.set (bf (parts (left c g))))
def agl {w:LN} {c:Nat}(h:Made X w c f):f∈J7 X w c:=by
 unfold J7;rcases h with h|⟨g,a,rfl|rfl⟩
 .grind [E6]
 .grind [E6]
 grind [E6]
def ajm(X:NF)(w:LN)(c:Nat)(a:w.length<=39):(J7 X w c).length<=121*(X.size*dZ X):=by have h:=agk X;unfold J7;simp only[a0p,a0y,acL,a0r,a1e];generalize ou (bG X)=s at *;have d:s*(w.length+1+1)<=s*41:=a0o _ (by omega);have b:s*(w.length+1)<=s*40:=a0o _ (by omega);simp only[a1n];omega
def qP:∀{a b:List α},a.Nodup->(∀x∈a,x∈b)->a.length<=b.length
 | [],b,_,_=>a1G _
 | x::a,b,g,h=>by
   have f:=h x (by simp);obtain⟨b1,b2,rfl⟩:=a2Q f;have c:=a2R.1 g;have:=qP (a:=a) (b:=b1++b2) c.2 (by
    intro y d;have:=h y (by simp[d]);rcases a0e.1 this with e|e
    .grind
    rcases a0l.1 e with e|e
    .grind
    exact a1o _ e)
   simp at this |-;omega
inductive RX where
 | one:Nat->RX
 | seq:List RX->RX
 | alt:List RX->RX
 | rep:RX->Nat->Option Nat->RX
def times(lo:Nat):Option Nat->Nat
 | none=>lo+1
 | some n=>n
def iV(lo:Nat):Option Nat->Nat
 | none=>if lo<=1 then 1 else 3
 | some n=>if lo=0/\n=1 then 1 else 3
mutual
def mh:RX->Nat
 | .one _=>1
 | .seq l=>iO l
 | .alt l=>iO l
 | .rep x lo a=>mh x*times lo a
def iO:List RX->Nat
 | []=>0
 | x::r=>mh x+iO r
end
mutual
def jX:RX->Nat
 | .one _=>1
 | .seq l=>gu l
 | .alt l=>gu l+(l.length-1)
 | .rep x lo a=>jX x+iV lo a
def gu:List RX->Nat
 | []=>0
 | x::r=>jX x+gu r
end
mutual
def tL:RX->Prop
 | .one s=>s<2 ^ 256
 | .seq l=>jm l
 | .alt l=>jm l/\l≠[]
 | .rep x lo a=>tL x/\(∀n,a=some n->lo<=n)
def jm:List RX->Prop
 | []=>True
 | x::r=>tL x/\jm r
end
def eQ(a:NF):Nat->NF->NF
 | 0,t=>t
 | k+1,t=>eQ a k (aG a t)
def dG(a:NF):Nat->NF->NF
 | 0,t=>t
 | k+1,t=>dG a k (iw (aG a t) .one)
def kD(a:NF)(lo:Nat):Option Nat->NF
 | none=>eQ a lo (iH a)
 | some n=>eQ a lo (dG a (n-lo) .one)
mutual
def bn:RX->NF
 | .one s=>if s=0 then .zero else .set s
 | .seq l=>sJ l
 | .alt l=>bQ (iP l)
 | .rep x lo a=>kD (bn x) lo a
def sJ:List RX->NF
 | []=>.one
 | x::r=>aG (bn x) (sJ r)
def iP:List RX->List NF
 | []=>[]
 | x::r=>bn x::iP r
end
theorem uB:∀l,iP l=l.map bn
 | []=>rfl
 | x::r=>by simp only[iP,a0E,uB r]
def WC(x:NF):Prop:=wf x/\can x
theorem WC.zero:WC .zero:=⟨trivial,trivial⟩
theorem WC.one:WC .one:=⟨trivial,trivial⟩
theorem WC.then{b:NF}(c:WC a)(hb:WC b):WC (aG a b):=⟨lY c.1 hb.1,BV c.2 hb.2⟩
theorem WC.bQ(h:∀x∈ls,WC x):WC (bQ ls):=⟨Ms λx a=>(h x a).1,Zq (λx a=>(h x a).1) λx a=>(h x a).2⟩
def WC.or{b:NF}(c:WC a)(hb:WC b):WC (iw a b):=WC.bQ (by simp;exact⟨c,hb⟩)
theorem WC.star(b:WC a):WC (iH a):=⟨amr b.1,aji b.2⟩
theorem WC.left(c:Nat)(b:WC a):WC (left c a):=⟨gI c a b.1,acH c a b.1 b.2⟩
def J8(b:WC a):∀k t,WC t->WC (eQ a k t)
 | 0,t,h=>h
 | k+1,t,h=>J8 b k _ (b.then h)
def E7(b:WC a):∀k t,WC t->WC (dG a k t)
 | 0,t,h=>h
 | k+1,t,h=>E7 b k _ ((b.then h).or .one)
def agm(b:WC a)(lo:Nat)(c:Option Nat):WC (kD a lo c):=by
 cases c with
 | none=>exact J8 b lo _ b.star
 | some n=>exact J8 b lo _ (E7 b _ _ .one)
mutual
theorem uC:∀{e:RX},tL e->WC (bn e)
 | .one s,h=>by
   simp only[bn]
   split
   .exact .zero
   exact⟨⟨a2P (by assumption),h⟩,trivial⟩
 | .seq l,h=>Zz (show jm l from h)
 | .alt l,h=>WC.bQ (E8 (show jm l from h.1))
 | .rep x lo a,h=>agm (uC (show tL x from h.1)) lo a
theorem Zz:∀{l:List RX},jm l->WC (sJ l)
 | [],_=>.one
 | x::r,h=>(uC h.1).then (Zz h.2)
theorem E8:∀{l:List RX},jm l->∀x∈iP l,WC x
 | [],_,x,a=>by simp[iP]at a
 | y::r,h,x,a=>by
   simp only[iP,a0l]at a;rcases a with rfl|a
   .exact uC h.1
   exact E8 h.2 x a
end
def EN:∀(a b:NF),(aG a b).size<=a.size+b.size+1
 | .zero,b=>by simp only[aG,NF.size];omega
 | .one,b=>by simp only[aG,NF.size];omega
 | .pair c d,b=>by
   by_cases hb:aP b=true
   .rw[dA hb]
    have f:=EN d b;have e:=EN c (aG d b);simp only[NF.size];omega
   rcases fQ hb with rfl|rfl
   .rw[fJ];simp[NF.size]
   rw[bF];omega
 | .set s,b=>by cases b<;>simp[aG,NF.size]<;>omega
 | .sum l,b=>by cases b<;>simp[aG,NF.size]<;>omega
 | .star a,b=>by cases b<;>simp[aG,NF.size]<;>omega
theorem Es:∀(a b:List NF),bP (a++b)=bP a+bP b
 | [],b=>by simp[bP]
 | x::a,b=>by simp only[a0L,bP,Es a b];omega
def acM:∀(l:List NF) (x:NF),bP (put l x)<=bP l+x.size
 | [],x=>by simp[put,bP]
 | y::r,x=>by
   unfold put
   split
   .have:=acM r x;simp only[bP];omega
   grind [bP]
def Jj:∀(l acc:List NF),bP (l.foldl put acc)<=bP acc+bP l
 | [],acc=>by simp[bP]
 | x::r,acc=>by have b:=Jj r (put acc x);have a:=acM acc x;simp only[a1R,bP];omega
def ajn:∀(l:List NF),bP (bN l)<=bP l:=by
 intro l;have key:∀l:List NF,bP (l.filter λx=>!dF x)+(if bf l=0 then 0 else 1)<=bP l:=by
  intro l
  induction l with
  | nil=>simp[bf,bP]
  | cons x r b =>
    cases a:dF x with
    | true =>
      have:x.size=1:=by cases x<;>simp[dF]at a;rfl
      simp only[List.filter_cons,a,a2O,a0A,a0I,bP]
      split<;>split at b<;>omega
    | false=>rw[tH,UI a];simp only[List.filter_cons,a,a1K,a0G,bP,Nat.zero_or];omega
 have:=key l;unfold bN;rw[Es]
 split at this
 .grind [bP]
 grind [bP,NF.size]
def Ws(x:NF):bP (parts x)<=x.size:=by cases x<;>simp[parts,bP,NF.size]
def ZA:∀ls:List NF,bP (ls.flatMap parts)<=bP ls
 | []=>by simp[bP]
 | x::r=>by have b:=ZA r;have a:=Ws x;simp only[a1i,Es,bP];omega
def ams(l:List NF):(mkS l).size<=bP l+1:=by
 match l with
 | []=>simp[mkS,NF.size,bP]
 | [x]=>simp[mkS,bP]
 | x::y::r=>simp[mkS,NF.size]
def agn(ls:List NF):(bQ ls).size<=bP ls+1:=by have b:=ams (gU (bN (ls.flatMap parts)));have a:=Jj (bN (ls.flatMap parts)) [];have d:=ajn (ls.flatMap parts);have c:=ZA ls;unfold bQ;unfold gU at b |-;simp only[bP]at a;omega
def cl(x:NF):Nat:=(elems x).length
theorem Rn(x:NF):0<cl x:=by cases x<;>simp[cl,elems]
def aoz(h:dP x=true):cl x=1:=by cases x<;>simp[dP]at h<;>rfl
def UM:∀(a b:NF),wf a->dZ (aG a b)<=max (dZ a+1) (cl a+dZ b)
 | .zero,b,_=>by have:=Rk b;simp only[aG,dZ];omega
 | .one,b,_=>by simp only[aG,cl,elems,a0X];omega
 | .pair c d,b,e=>by
   by_cases hb:aP b=true
   .rw[dA hb]
    have i:=UM d b e.2.1;have h:=UM c (aG d b) e.1;have g:=aoz e.2.2.1;have f:cl (.pair c d)=cl d+1:=rfl;simp only[dZ];omega
   rcases fQ hb with rfl|rfl
   .simp[fJ,dZ]
   rw[bF];omega
 | .set s,b,_=>by cases b<;>simp only[aG,dZ,cl,elems,a0X]<;>omega
 | .sum l,b,_=>by cases b<;>simp only[aG,dZ,cl,elems,a0X]<;>omega
 | .star a,b,_=>by cases b<;>simp only[aG,dZ,cl,elems,a0X]<;>omega
def agp:∀(a b:NF),wf a->cl (aG a b)<=cl a+cl b
 | .zero,b,_=>by have:=Rn b;simp only[aG,cl,elems,a0X]at *;omega
 | .one,b,_=>by simp only[aG,cl,elems,a0X];omega
 | .pair c d,b,e=>by
   by_cases hb:aP b=true
   .rw[dA hb,aX e.2.2.1 (eP e.2.1 e.2.2.2 hb)]
    have h:=agp d b e.2.1;have g:cl (.pair c d)=cl d+1:=rfl;have f:cl (.pair c (aG d b))=cl (aG d b)+1:=rfl;omega
   rcases fQ hb with rfl|rfl
   .simp[fJ,cl,Rn]
   rw[bF];omega
 | .set s,b,_=>by cases b<;>simp only[aG,cl,elems,a0X,a0r]<;>omega
 | .sum l,b,_=>by cases b<;>simp only[aG,cl,elems,a0X,a0r]<;>omega
 | .star a,b,_=>by cases b<;>simp only[aG,cl,elems,a0X,a0r]<;>omega
def aoA(h:∀x∈l,dZ x<=n):J5 l<=n:=by
 induction l with
 | nil=>simp[J5]
 | cons x r a=>have d:=h x (by simp);have c:=a (λy b=>h y (by simp[b]));simp only[J5];omega
def ajo{p:NF}(h:p∈parts x):dZ p<=dZ x:=by
 cases x with
 | zero=>simp[parts]at h
 | sum l=>have:=J6 (show p∈l from h);simp only[dZ];omega
 | _=>simp[parts]at h;subst h;exact a0b _
def ak8(d:∀x∈ls,wf x)(e:1<=n)(h:∀x∈ls,dZ x<=n):dZ (bQ ls)<=n+1:=by
 have a:∀p∈parts (bQ ls),dZ p<=n:=by
  intro p a;rcases jl.1 ((rD d).1 a) with⟨b,_⟩|⟨_,rfl⟩
  .obtain⟨x,c,b⟩:=a1l.1 b
   have:=ajo b;have:=h x c;omega
  simpa[dZ] using e
 cases ho:bQ ls with
 | zero=>simp[dZ]
 | sum l=>rw[ho]at a;have:=aoA (l:=l) a;simp only[dZ];omega
 | _=>rw[ho]at a;exact a0h (a _ (List.mem_singleton_self _)) (Nat.le_succ n)
def Nv(x:NF)(n:Nat):Prop:=∀p∈parts x,cl p<=n
theorem Nv.cl(h:Nv x n)(a:1<=n):cl x<=n:=by
 cases x with
 | zero=>exact a
 | sum l=>exact a
 | _=>exact h _ (by simp[parts])
theorem Nv.mono(h:Nv x n)(b:n<=m):Nv x m:=λp a=>a0h (h p a) b
theorem Nv.then{b:NF}(f:wf a)(h:Nv a n)(hb:Nv b m)(i:1<=n)(j:1<=m):Nv (aG a b) (n+m):=by
 have o:=h.cl i;have k:=hb.cl j;have g:=agp a b f;intro p e;cases ht:aG a b with
 | zero=>rw[ht]at e;simp[parts]at e
 | sum l =>
   by_cases tb:aP b=true
   .cases a with
    | zero=>simp[aG]at ht
    | one=>have:=hb p (by rw[show aG .one b=b from rfl]at e;exact e);omega
    | pair c d=>rw[dA tb,aX f.2.2.1 (eP f.2.1 f.2.2.2 tb)]at ht;simp at ht
    | set s=>rw[aX rfl tb]at ht;simp at ht
    | sum s=>rw[aX rfl tb]at ht;simp at ht
    | star s=>rw[aX rfl tb]at ht;simp at ht
   rcases fQ tb with rfl|rfl
   .grind [fJ]
   rw[bF]at e;have:=h p e;omega
 | one=>rw[ht]at e g;simp[parts]at e;subst e;omega
 | set s=>rw[ht]at e g;simp[parts]at e;subst e;omega
 | pair c d=>rw[ht]at e g;simp[parts]at e;subst e;omega
 | star c=>rw[ht]at e g;simp[parts]at e;subst e;omega
theorem Nv.bQ(c:∀x∈ls,wf x)(e:1<=n)(h:∀x∈ls,Nv x n):Nv (bQ ls) n:=by
 intro p d;rcases jl.1 ((rD c).1 d) with⟨a,_⟩|⟨_,rfl⟩
 .obtain⟨x,b,a⟩:=a1l.1 a;exact h x b p a
 exact e
structure Bd(x:NF)(p s h:Nat):Prop where
 wc:WC x
 cp:Nv x p
 sz:x.size<=s
 ht:dZ x<=h
theorem Bd.then{b:NF}(c:Bd a p s h)(hb:Bd b p' s' h')(d:1<=p)(e:1<=p'):Bd (aG a b) (p+p') (s+s'+1) (max (h+1) (p+h')):=by
 refine⟨c.wc.then hb.wc,Nv.then c.wc.1 c.cp hb.cp d e,?_,?_⟩
 .have:=EN a b;have:=c.sz;have:=hb.sz;omega
 have g:=UM a b c.wc.1;have f:=c.cp.cl d;have:=c.ht;have:=hb.ht;omega
def Bd.or1(c:Bd a p s h)(f:1<=p):Bd (iw a .one) p (s+2) (h+1):=by
 have e:∀x ∈ [a,NF.one],wf x:=by simp;exact⟨c.wc.1,trivial⟩
 refine⟨c.wc.or .one,Nv.bQ e f ?_,?_,?_⟩
 .intro x b
  simp at b;rcases b with rfl|rfl
  .exact c.cp
  intro p' g;simp[parts]at g;subst g;exact f
 .have d:=agn [a,NF.one];simp only[bP,NF.size]at d
  have:=c.sz;show(bQ [a,.one]).size<=_;omega
 have i:=Rk a;have d:=c.ht;refine ak8 e (by omega) ?_;intro x b;simp at b;rcases b with rfl|rfl
 .exact d
 simp only[dZ];omega
theorem Bd.mono(a:Bd x p s h)(c:p<=p')(b:s<=s')(hh:h<=h'):Bd x p' s' h' :=
 ⟨a.wc,a.cp.mono c,a0h a.sz b,a0h a.ht hh⟩
def Ro(c:Bd a p s h)(b:1<=p):∀(k:Nat) {t:NF} {q s' h':Nat},Bd t q s' h'->1<=q->h+1<=h'->Bd (eQ a k t) (k*p+q) (k*(s+1)+s') (k*p+h')
 | 0,t,q,s',h',ht,_,_=>by simpa[eQ] using ht
 | k+1,t,q,s',h',ht,hq,hh=>by
   have d:=Ro c b k (c.then ht b hq) (by omega) (show h+1<=max (h+1) (p+h') by omega);refine d.mono ?_ ?_ ?_
   .rw[a0J];omega
   .grind
   rw[a0J k 1 p];omega
def agq(c:Bd a p s h)(b:1<=p):∀(k:Nat) {t:NF} {q s' h':Nat},Bd t q s' h'->1<=q->h+1<=h'->Bd (dG a k t) (k*p+q) (k*(s+3)+s') (k*(p+1)+h')
 | 0,t,q,s',h',ht,_,_=>by simpa[dG] using ht
 | k+1,t,q,s',h',ht,hq,hh=>by
   have d:=agq c b k ((c.then ht b hq).or1 (by omega)) (by omega) (show h+1<=max (h+1) (p+h')+1 by omega);refine d.mono ?_ ?_ ?_
   .rw[a0J];omega
   .grind
   grind
theorem aeX:iw .one .one=.one:=by simp[iw,bQ,parts,bN,dF,bf,bits,gU,put,mkS,name,blt]
theorem acN:∀k,dG .one k .one=.one
 | 0=>rfl
 | k+1=>by show dG .one k (iw (aG .one .one) .one)=.one;rw[show aG .one .one=.one from rfl,aeX];exact acN k
theorem UN:∀k t,eQ .one k t=t
 | 0,t=>rfl
 | k+1,t=>UN k t
def acO(lo:Nat)(a:Option Nat):kD .one lo a=.one:=by
 cases a with
 | none=>simp only[kD,UN];rfl
 | some n=>simp only[kD,UN,acN]
def vU(lo:Nat)(a:Option Nat):1<=iV lo a:=by cases a<;>simp only[iV]<;>split<;>omega
mutual
theorem J9:∀{e:RX},1<=mh e->1<=jX e
 | .one _,_=>a0b _
 | .seq l,h=>My (show 1<=iO l from h)
 | .alt l,h=>by have:=My (show 1<=iO l from h);simp only[jX];omega
 | .rep x lo a,h=>by have:=vU lo a;simp only[jX];omega
theorem My:∀{l:List RX},1<=iO l->1<=gu l
 | [],h=>by simp[iO]at h
 | x::r,h=>by
   simp only[iO]at h;simp only[gu]
   by_cases a:1<=mh x
   .have:=J9 a;omega
   have:=My (l:=r) (by omega);omega
end
def Et(x:NF)(p t:Nat):Prop:=WC x/\(p=0->x=.one)/\(1<=p->Bd x p (2*p*(t+1)) (2*p+2*t))
def arN{b:NF}{t q u:Nat}(c:Et a p t)(hb:Et b q u)(ht:1<=p->1<=t)(j:1<=q->1<=u):Et (aG a b) (p+q) (t+u):=by
 refine⟨c.1.then hb.1,?_,?_⟩
 .intro h
  rw[c.2.1 (by omega),hb.2.1 (by omega)];rfl
 intro h;have mono:∀(x:NF) (p' d:Nat),1<=p'->p'<=p+q->d<=t+u->Bd x p' (2*p'*(d+1)) (2*p'+2*d)->Bd x (p+q) (2*(p+q)*(t+u+1)) (2*(p+q)+2*(t+u)):=by intro x p' d i g f hb;exact hb.mono g (a0D (by omega) (by omega)) (by omega)
 by_cases k:p=0
 .rw[c.2.1 k]
  exact mono b q u (by omega) (by omega) (by omega) (hb.2.2 (by omega))
 by_cases hq:q=0
 .rw[hb.2.1 hq,bF]
  exact mono a p t (by omega) (by omega) (by omega) (c.2.2 (by omega))
 have i:=(c.2.2 (by omega)).then (hb.2.2 (by omega)) (by omega) (by omega);have g:=ht (by omega);have f:=j (by omega);refine i.mono (a0b _) ?_ (by omega);have e:2*(p+q)*(t+u+1)=2*p*(t+1)+2*q*(u+1)+2*(p*u)+2*(q*t):=by grind
 have l:1<=p*u:=Nat.mul_pos (by omega) f;omega
def aeY{t:Nat}(g:Et a p t)(ht:1<=p->1<=t)(lo:Nat)(c:Option Nat)(hh:∀n,c=some n->lo<=n):Et (kD a lo c) (p*times lo c) (t+iV lo c):=by
 have l:=agm g.1 lo c;refine⟨l,?_,?_⟩
 .intro h
  rcases Nat.mul_eq_zero.1 h with h|h
  .rw[g.2.1 h];exact acO lo c
  cases c with
  | none=>simp[times]at h
  | some n =>
    simp only[times]at h;subst h;have:lo=0:=by have:=hh 0 rfl;omega
    subst this;rfl
 intro h;have b:1<=p:=by grind
 have hb:=g.2.2 b;cases c with
 | none =>
   have r:Bd (iH a) p (2*p*(t+1)+1) (2*p+2*t+1):=by
    refine⟨g.1.star,?_,?_,?_⟩
    .intro q hq
     cases a<;>simp[iH,parts]at hq<;>subst hq<;>exact b
    .have:=hb.sz;cases a<;>simp only[iH,NF.size]at this |-<;>omega
    have:=hb.ht;cases a<;>simp only[iH,dZ]at this |-<;>omega
   have j:=Ro hb b lo r b (by omega);have ho:1<=iV lo none:=vU lo none;refine j.mono ?_ ?_ ?_
   .grind [times,Nat.mul_add,Nat.mul_comm]
   .simp only[times]
    have z:2*(p*(lo+1))*(t+iV lo none+1)=2*p*(t+1)*(lo+1)+2*p*iV lo none*(lo+1):=by grind
    have y:lo+1<=2*p*iV lo none*(lo+1):=a1q _ (Nat.mul_pos (by omega) (by omega));have x:lo*(2*p*(t+1)+1)+(2*p*(t+1)+1)=2*p*(t+1)*(lo+1)+(lo+1):=by grind
    omega
   simp only[times];have:p*(lo+1)=lo*p+p:=by rw[a1A,a1H,a1b]
   omega
 | some n =>
   simp only[times]at h |-;have u:1<=n:=by grind
   have s:=hh n rfl
   by_cases f:lo=0/\n=1
   .obtain⟨rfl,rfl⟩:=f
    have e:kD a 0 (some 1)=iw a .one:=by show iw (aG a .one) .one=_;rw[bF]
    rw[e];refine(hb.or1 b).mono (by omega) ?_ ?_
    .grind [iV]
    grind [iV]
   have ho:iV lo (some n)=3:=by simp only[iV];rw[a0n f]
   rw[ho];have w:2*(p*n)*(t+3+1)=n*(2*p*(t+1))+6*(p*n):=by grind
   have v:n<=p*n:=a1q _ (by omega)
   by_cases B:lo<n
   ·
    have k:dG a (n-lo) .one=dG a (n-lo-1) (iw a .one):=by obtain⟨m,d⟩:∃m,n-lo=m+1:=⟨n-lo-1,by omega⟩;rw[d];show dG a m (iw (aG a .one) .one)=_;rw[bF];rfl
    have j:=agq hb b (n-lo-1) (hb.or1 b) b (a0b _);rw[<-k]at j;have i:=Ro hb b lo j (by omega) (by omega);obtain⟨m,d⟩:∃m,n=lo+m+1:=⟨n-lo-1,by omega⟩;subst d;rw[show lo+m+1-lo-1=m by omega]at i;refine i.mono ?_ ?_ ?_
    .grind
    .grind
    have b1:p*(lo+m+1)=lo*p+m*p+p:=by rw[a1A,a1A,a1H,a1b p lo,a1b p m]
    have b2:m*(p+1)=m*p+m:=by rw[a1A,a1H]
    have A:m<=m*p:=a2r _ (by omega);omega
   have o:lo=n:=by omega
   subst o;obtain⟨m,d⟩:∃m,lo=m+1:=⟨lo-1,by omega⟩;subst d;have k:kD a (m+1) (some (m+1))=eQ a m a:=by simp[kD,dG,eQ,aG,bF]
   rw[k];have i:=Ro hb b m (hb.mono (a0b _) (a0b _) (Nat.le_succ _)) b (a0b _);refine i.mono ?_ ?_ ?_
   .grind
   .grind
   grind
def aoB(h:∀x∈ls,x=.one)(d:ls≠[]):bQ ls=.one:=by
 have c:bQ ls=bQ [.one]:=by
  refine vT (λx b=>by rw[h x b];trivial) (by simp;trivial) ?_;intro p
  constructor
  .grind
  intro a;obtain⟨x,r,rfl⟩:∃x r,ls=x::r:=by cases ls with | nil=>contradiction|cons x r=>exact⟨x,r,rfl⟩
  rw[h x (by simp)];simp at a |-;exact .inl a
 rw[c];exact acG trivial (by simp)
def zc:List RX->Nat
 | []=>0
 | x::r=>(if mh x=0 then 1 else 0)+zc r
def aoC:∀(l:List RX),zc l<=l.length/\(iO l≠0->zc l+1<=l.length)
 | []=>⟨by simp[zc],λh=>by simp[iO]at h⟩
 | x::r=>by
   have h:=aoC r;have b:iO (x::r)=mh x+iO r:=rfl;have a:zc (x::r)=(if mh x=0 then 1 else 0)+zc r:=rfl;rw[b,a,a0r]
   by_cases c:mh x=0
   .grind
   grind
def acP:∀{l:List RX},(∀e∈l,Et (bn e) (mh e) (jX e))->bP (iP l)<=2*iO l*(gu l+1)+zc l
 | [],_=>by simp[iP,bP]
 | x::r,h=>by
   have d:=acP (l:=r) (λe he=>h e (by simp[he]));have b:=h x (by simp);simp only[iP,bP,iO,gu,zc]
   by_cases a:mh x=0
   .rw[a0m a,b.2.1 a,a]
    simp only[NF.size,a1n];have:2*iO r*(gu r+1)<=2*iO r*(jX x+gu r+1):=a0o _ (by omega);omega
   rw[a0n a];have c:=(b.2.2 (by omega)).sz;have e:2*(mh x+iO r)*(jX x+gu r+1)=2*mh x*(jX x+1)+2*iO r*(gu r+1)+2*(mh x*gu r)+2*(iO r*jX x):=by grind
   omega
def Bu:∀{l:List RX} {e:RX},e∈l->mh e<=iO l/\jX e<=gu l
 | x::r,e,h=>by
   simp only[iO,gu];rcases a0l.1 h with h|h
   .subst h;omega
   have:=Bu h;omega
def arO {l:List RX}(h:∀e∈l,Et (bn e) (mh e) (jX e))(m:l≠[]):Et (bQ (iP l)) (iO l) (gu l+(l.length-1)):=by
 have b:∀x∈iP l,∃e∈l,bn e=x:=by intro x a;rw[uB]at a;obtain⟨e,he,rfl⟩:=a0q.1 a;exact⟨e,he,rfl⟩
 have d:∀x∈iP l,WC x:=by intro x a;obtain⟨e,he,rfl⟩:=b x a;exact(h e he).1
 have f:∀x∈iP l,wf x:=λx a=>(d x a).1
 match l,m,h with
 | [x],_,h=>have a:=h x (by simp);have e:bQ (iP [x])=bn x:=Pv a.1.1 a.1.2;rw[e];simp only[iO,gu,a1Q,a0X,a2v];exact a
 | x::y::r,_,h =>
   generalize j:x::y::r=l at *;have o:2<=l.length:=by rw[<-j];simp
   refine⟨WC.bQ d,?_,?_⟩
   .intro c
    refine aoB ?_ (by rw[<-j];simp[iP]);intro z hz;obtain⟨e,he,rfl⟩:=b z hz;have:=Bu he;exact(h e he).2.1 (by omega)
   intro k;have hz:=(aoC l).2 (by omega);refine⟨WC.bQ d,Nv.bQ f k ?_,?_,?_⟩
   .intro z hz
    obtain⟨e,he,rfl⟩:=b z hz;have i:=Bu he
    by_cases c:mh e=0
    .rw[(h e he).2.1 c];intro p g;simp[parts]at g;subst g;exact k
    exact((h e he).2.2 (by omega)).cp.mono i.1
   .have v:=agn (iP l)
    have u:=acP h;have t:2*iO l*(gu l+(l.length-1)+1)=2*iO l*(gu l+1)+2*iO l*(l.length-1):=by rw[<-a1A];congr 1;omega
    have s:2*(l.length-1)<=2*iO l*(l.length-1):=a0z _ (by omega);omega
   have q:=ak8 f (n:=2*iO l+2*gu l) (by omega) (by
    intro z hz;obtain⟨e,he,rfl⟩:=b z hz;have i:=Bu he
    by_cases c:mh e=0
    .rw[(h e he).2.1 c];simp only[dZ];omega
    have:=((h e he).2.2 (by omega)).ht;omega)
   omega
mutual
theorem rF:∀{e:RX},tL e->Et (bn e) (mh e) (jX e)
 | .one s,h=>by
   refine⟨uC h,λh=>by simp[mh]at h,λ_=>⟨uC h,?_,?_,?_⟩⟩
   .simp only[bn];split<;>(intro p a;simp[parts]at a)
    subst a;exact a0b _
   .simp only[bn];split<;>simp[NF.size,mh,jX]
   simp only[bn];split<;>simp[dZ,mh,jX]
 | .seq l,h=>acQ (show jm l from h)
 | .alt l,h=>arO (acR (show jm l from h.1)) h.2
 | .rep x lo b,h=>aeY (rF (show tL x from h.1)) J9 lo b h.2
theorem acQ:∀{l:List RX},jm l->Et (sJ l) (iO l) (gu l)
 | [],_=>⟨.one,λ_=>rfl,λh=>by simp[iO]at h⟩
 | x::r,h=>arN (rF h.1) (acQ h.2) J9 My
theorem acR:∀{l:List RX},jm l->∀e∈l,Et (bn e) (mh e) (jX e)
 | [],_,e,he=>by simp at he
 | x::r,h,e,he=>by
   rcases a0l.1 he with a|a
   .rw[a];exact rF h.1
   exact acR h.2 e a
end
def Px {e:RX}(h:tL e)(g:mh e<=40)(ht:jX e<=40):(bn e).size*dZ (bn e)<=524800:=by
 have hb:=rF h
 by_cases f:mh e=0
 .rw[hb.2.1 f];decide
 have a:=hb.2.2 (by omega);have d:2*mh e*(jX e+1)<=80*41:=a0D (by omega) (by omega);have c:(bn e).size<=3280:=a0h a.sz d;have b:dZ (bn e)<=160:=a0h a.ht (by omega);exact a0h (a0D c b) (by decide)
def bA(c:UInt8):LB->Bool
 | []=>false
 | x::_=>x==c
def DI(c:UInt8):Bool:=c==42||c==43||c==63||c==123
def di:LB->Option (Nat × LB)
 | []=>none
 | c::r=>if 48<=c&&c<=57 then some (c.toNat-48,r) else none
def dL(t:LB):Option ((Nat × Option Nat) × LB) :=
 match di t with
 | none=>none
 | some (lo,r) =>
   if bA 44 r then
    match di r.tail with
    | some (n,a)=>if bA 125 a&&decide (lo<=n) then some ((lo,some n),a.tail) else none
    | none=>if bA 125 r.tail then some ((lo,none),r.tail.tail) else none
   else if bA 125 r then some ((lo,some lo),r.tail) else none
def DJ:LB->Option ((Nat × Option Nat) × LB)
 | []=>none
 | c::r=>if c==42 then some ((0,none),r) else if c==43 then some ((1,none),r) else if c==63 then some ((0,some 1),r) else if c==123 then dL r else none
def DK:LB->Bool
 | []=>false
 | c::_=>DI c
def dQ:Nat->RX->LB->Option (RX × LB)
 | 0,_,_=>none
 | k+1,x,t=>if DK t then (match DJ t with | none=>none|some (b,r)=>dQ k (.rep x b.1 b.2) r) else some (x,t)
def lh:LB->Option (UInt8 × LB)
 | []=>none
 | c::r=>if c==92 then (match r with | []=>none|d::r2=>some (d,r2)) else if c==93||c==91||c==45 then none else some (c,r)
def tN(t:LB):Option ((UInt8 × UInt8) × LB) :=
 match lh t with
 | none=>none
 | some (a,r)=>if bA 45 r then (match lh r.tail with | none=>none|some (b,r2)=>if a<=b then some ((a,b),r2) else none) else some ((a,a),r)
def vg(s f:Nat):Nat->Nat
 | 0=>s
 | k+1=>vg s f k ||| 2 ^ (f+k)
def addRange(s:Nat)(a b:UInt8):Nat:=vg s a.toNat (b.toNat+1-a.toNat)
def fE:Nat->Nat->LB->Option (Nat × LB)
 | 0,_,_=>none
 | k+1,s,t =>
   match tN t with
   | none=>none
   | some ((a,b),r)=>if bA 93 r then some (addRange s a b,r.tail) else fE k (addRange s a b) r
def fU:Nat:=2 ^ 256-1
def nT(t:LB):Option (Nat × LB) :=
 if bA 94 t then (match fE (t.length+1) 0 t.tail with | none=>none|some (s,r)=>some (s ^^^ fU,r))
 else fE (t.length+1) 0 t
def iI(c:UInt8):Bool:=c==41||c==124||c==42||c==43||c==63||c==123||c==125||c==93
def tQ(t:LB):Bool:=t.isEmpty||bA 124 t||bA 41 t
mutual
def ik:Nat->Nat->LB->Option (RX × LB)
 | 0,_,_=>none
 | k+1,nest,t =>
   match t with
   | []=>none
   | c::r =>
     if c==40 then (if 5<=nest then none else match iQ k (nest+1) [] r with | none=>none|some (x,r2)=>if bA 41 r2 then some (x,r2.tail) else none)
     else if c==91 then (match nT r with | none=>none|some (s,r2)=>some (.one s,r2))
     else if c==46 then some (.one fU,r)
     else if c==92 then (match r with | []=>none|d::r2=>some (.one (2 ^ d.toNat),r2))
     else if iI c then none
     else some (.one (2 ^ c.toNat),r)
def jF:Nat->Nat->List RX->LB->Option (RX × LB)
 | 0,_,_,_=>none
 | k+1,nest,acc,t =>
   if tQ t then some (.seq acc,t)
   else match ik k nest t with
    | none=>none
    | some (x,r)=>match dQ (r.length+1) x r with
      | none=>none
      | some (y,a)=>jF k nest (acc++[y]) a
def iQ:Nat->Nat->List RX->LB->Option (RX × LB)
 | 0,_,_,_=>none
 | k+1,nest,acc,t =>
   match jF k nest [] t with
   | none=>none
   | some (x,r)=>if bA 124 r then iQ k nest (acc++[x]) r.tail else some (.alt (acc++[x]),r)
end
def fF(t:LB):Option RX :=
 match iQ (4*t.length+4) 0 [] t with
 | some (x,[])=>some x
 | _=>none
def jg {c:UInt8}(h:bA c t=true):t.tail.length+1=t.length:=by cases t<;>simp[bA]at h |-
def zz(h:di t=some (n,r)):r.length+1=t.length/\n<=9:=by
 cases t with
 | nil=>simp[di]at h
 | cons c q =>
   simp only[di]at h
   split at h
   .rename_i a
    simp only[Option.some.injEq,Prod.mk.injEq]at h;obtain⟨rfl,rfl⟩:=h;simp only[a0O,a0U]at a;have:c.toNat<=57:=by have:=a1p.1 a.2;simpa using this
    simp;omega
   simp at h
def Rp {lo:Nat} {a:Option Nat}(h:dL t=some ((lo,a),r)):r.length+2<=t.length/\(∀n,a=some n->lo<=n):=by
 unfold dL at h
 split at h
 .simp at h
 rename_i b r' hd
 have k:=zz hd
 split at h
 .rename_i e
  have j:=jg e
  split at h
  .rename_i n f c
   have i:=zz c
   split at h
   .grind
   simp at h
  grind
 split at h
 .rename_i hb
  have g:=jg hb;simp only[Option.some.injEq,Prod.mk.injEq]at h;obtain⟨⟨rfl,rfl⟩,rfl⟩:=h;refine⟨by omega,?_⟩;intro m d;simp at d;omega
 simp at h
def E9 {b:Nat × Option Nat}(h:DJ t=some (b,r)):r.length+iV b.1 b.2<=t.length/\(∀n,b.2=some n->b.1<=n):=by
 cases t with
 | nil=>simp[DJ]at h
 | cons c q =>
   simp only[DJ]at h
   split at h
   .grind [iV]
   split at h
   .grind [iV]
   split at h
   .grind [iV]
   split at h
   .obtain⟨lo,a⟩:=b
    have d:=Rp h;have e:iV lo a<=3:=by cases a<;>simp only[iV]<;>split<;>omega
    exact⟨by simp;omega,d.2⟩
   simp at h
def Wt:∀{k:Nat} {x y:RX} {t r:LB},tL x->dQ k x t=some (y,r)->tL y/\jX y+r.length<=jX x+t.length
 | 0,x,y,t,r,_,h=>by simp[dQ]at h
 | k+1,x,y,t,r,c,h=>by
   simp only[dQ]at h
   split at h
   .split at h
    .simp at h
    rename_i b r' hb
    have d:=E9 hb;have a:=Wt (k:=k) (show tL (.rep x b.1 b.2) from ⟨c,d.2⟩) h;simp only[jX]at a;exact⟨a.1,by omega⟩
   grind
def Wu {c:UInt8}(h:lh t=some (c,r)):r.length+1<=t.length:=by
 cases t with
 | nil=>simp[lh]at h
 | cons d q =>
   simp only[lh]at h
   split at h
   .grind
   grind
def BZ {ab:UInt8 × UInt8}(h:tN t=some (ab,r)):r.length+1<=t.length:=by
 unfold tN at h
 split at h
 .simp at h
 rename_i a g e
 have k:=Wu e
 split at h
 .rename_i c
  have j:=jg c
  split at h
  .simp at h
  rename_i b f d
  have i:=Wu d
  split at h
  .grind
  simp at h
 grind
def Wv{f:Nat}(a:s<2 ^ 256):∀k,f+k<=256->vg s f k<2 ^ 256
 | 0,_=>a
 | k+1,h=>Nat.or_lt_two_pow (Wv a k (by omega)) (a3e (by omega) (by omega))
def Rq(c:s<2 ^ 256)(a b:UInt8):addRange s a b<2 ^ 256:=by
 have:=a.toNat_lt;have:=b.toNat_lt
 by_cases h:a.toNat<=b.toNat
 .exact Wv c _ (by omega)
 unfold addRange;rw[show b.toNat+1-a.toNat=0 by omega];exact c
def Ka:∀{k s s':Nat} {t r:LB},s<2 ^ 256->fE k s t=some (s',r)->s'<2 ^ 256/\r.length+1<=t.length
 | 0,s,s',t,r,_,h=>by simp[fE]at h
 | k+1,s,s',t,r,c,h=>by
   simp only[fE]at h
   split at h
   .simp at h
   rename_i a b f d
   have g:=BZ d;have e:=Rq c a b
   split at h
   .grind
   have:=Ka (k:=k) e h;exact⟨this.1,by omega⟩
def Kb(h:nT t=some (s,r)):s<2 ^ 256/\r.length+1<=t.length:=by
 unfold nT at h
 split at h
 .rename_i a
  have e:=jg a
  split at h
  .simp at h
  rename_i s1 c b
  have:=Ka (by decide) b;simp at h;obtain⟨rfl,rfl⟩:=h;exact⟨Nat.xor_lt_two_pow this.1 (by decide),by omega⟩
 exact Ka (by decide) h
theorem Bv:∀{a b:List RX},jm (a++b)↔jm a/\jm b
 | [],b=>by simp[jm]
 | x::a,b=>by simp[jm,Bv (a:=a),and_assoc]
theorem Bw:∀{a b:List RX},gu (a++b)=gu a+gu b
 | [],b=>by simp[gu]
 | x::a,b=>by simp[gu,Bw (a:=a)];omega
mutual
theorem ajp:∀{k nest:Nat} {t r:LB} {x:RX},ik k nest t=some (x,r)->tL x/\jX x+r.length<=t.length
 | 0,nest,t,r,x,h=>by simp[ik]at h
 | k+1,nest,[],r,x,h=>by simp[ik]at h
 | k+1,nest,c::q,r,x,h=>by
   simp only[ik]at h
   split at h
   .split at h
    .simp at h
    split at h
    .simp at h
    rename_i g b a
    have e:=UQ (acc:=[]) (by simp[jm]) a
    split at h
    .rename_i f
     have j:=jg f;simp at h;obtain⟨rfl,rfl⟩:=h;simp[gu]at e;exact⟨e.1,by simp;omega⟩
    simp at h
   split at h
   .split at h
    .simp at h
    rename_i s b a
    have e:=Kb a;simp at h;obtain⟨rfl,rfl⟩:=h;exact⟨e.1,by simp[jX];omega⟩
   split at h
   .simp at h
    obtain⟨rfl,rfl⟩:=h;exact⟨by simp only[tL,fU];decide,by simp[jX];omega⟩
   split at h
   .cases q with
    | nil=>simp at h
    | cons d i=>simp at h;obtain⟨rfl,rfl⟩:=h;have:=d.toNat_lt;exact⟨a3e (by omega) (by omega),by simp[jX];omega⟩
   split at h
   .simp at h
   simp at h;obtain⟨rfl,rfl⟩:=h;have:=c.toNat_lt;exact⟨a3e (by omega) (by omega),by simp[jX];omega⟩
theorem acS:∀{k nest:Nat} {acc:List RX} {t r:LB} {x:RX},jm acc->jF k nest acc t=some (x,r)->tL x/\jX x+r.length<=gu acc+t.length
 | 0,nest,acc,t,r,x,_,h=>by simp[jF]at h
 | k+1,nest,acc,t,r,x,b,h=>by
   simp only[jF]at h
   split at h
   .simp at h
    obtain⟨rfl,rfl⟩:=h;exact⟨b,by simp[jX]⟩
   split at h
   .simp at h
   rename_i g j d
   have f:=ajp d
   split at h
   .simp at h
   rename_i y i c
   have e:=Wt f.1 c;have a:=acS (acc:=acc++[y]) (Bv.2 ⟨b,e.1,trivial⟩) h;rw[Bw]at a;simp only[gu]at a;exact⟨a.1,by omega⟩
theorem UQ:∀{k nest:Nat} {acc:List RX} {t r:LB} {x:RX},jm acc->iQ k nest acc t=some (x,r)->tL x/\jX x+r.length<=gu acc+acc.length+t.length
 | 0,nest,acc,t,r,x,_,h=>by simp[iQ]at h
 | k+1,nest,acc,t,r,x,c,h=>by
   simp only[iQ]at h
   split at h
   .simp at h
   rename_i d g f
   have b:=acS (acc:=[]) trivial f;simp only[gu]at b
   split at h
   .rename_i e
    have i:=jg e;have a:=UQ (acc:=acc++[d]) (Bv.2 ⟨c,b.1,trivial⟩) h;rw[Bw]at a;simp only[gu,a0p,a0X]at a;exact⟨a.1,by omega⟩
   simp at h;obtain⟨rfl,rfl⟩:=h;refine⟨⟨Bv.2 ⟨c,b.1,trivial⟩,by simp⟩,?_⟩;simp only[jX,Bw,gu,a0p,a0X];omega
end
theorem mQ {x:RX}(h:fF t=some x):tL x/\jX x<=t.length:=by
 unfold fF at h
 split at h
 .rename_i y a
  simp at h;subst h;have:=UQ (acc:=[]) trivial a;simp[gu]at this;exact this
 simp at h
def QP(w:World)(b:Nat)(t:LB)(ok:Bool):Prop :=
 w.heap[b]?=some (.cells #[zT t,.bool ok] 167 (0,0))/\t.length<=1048576
theorem QP.c0 {ok:Bool}(h:QP w b t ok):zC w b 0 (zT t):=by simp[World.cell?,h.1]
theorem QP.c1 {ok:Bool}(h:QP w b t ok):zC w b 1 (.bool ok):=by simp[World.cell?,h.1]
theorem QP.fz {ok:Bool}(h:QP w b t ok)(o:Nat):w.frozen? (zB b o)=false:=by simp[World.frozen?,h.1]
theorem QP.lt {ok:Bool}(h:QP w b t ok):b<w.heap.size :=
 (a0c.1 h.1).1
theorem QP.aC {ok:Bool}(h:QP w b t ok)(f:aB S w w')(a:b∉S):QP w' b t ok :=
 ⟨(f.block b h.lt a).trans h.1,h.2⟩
theorem QP.off {ok:Bool}(h:QP w b t ok):QP (w.setCell (zB b 1) (.bool false)) b t false:=by refine⟨?_,h.2⟩;simp[World.setCell,a0v,h.1]
theorem QP.go {ok:Bool}(h:QP w b t ok)(r:LB)(a:r.length<=t.length):QP (w.setCell (zA b) (zT r)) b r ok:=by refine⟨?_,a0h a h.2⟩;simp[World.setCell,a0v,h.1]
def gT:LB->Nat
 | []=>0
 | c::_=>c.toNat
def vV(b:Nat)(t:LB)(ok:Bool)(w:World)(h:QP w b t ok) :
 zF 100 #[zP b] w λe w'=>e=zQ #[.int .u8 (gT t),.bool (!t.isEmpty)]/\w=w':=by
 have f:=h.c0;have a:=h.2;have d:=bL t;cases t with
 | nil =>
   have e:bs []=⟨#[]⟩:=rfl;delta zF;go_in
   go_wp2;go_ret2;exact⟨rfl,rfl⟩
 | cons c r =>
   have hb:(bs (c::r))[0]'(by rw[bL];simp)=c:=rfl;simp only[a0r]at d a;delta zF;go_in
   go_wp2;go_ret2;exact⟨rfl,rfl⟩
def jY(b:Nat)(t:LB)(ok:Bool)(w:World)(h:QP w b t ok) :
 zF 101 #[zP b] w λe w'=>e=zR (.int .u8 (gT t))/\QP w' b t.tail (ok&&!t.isEmpty)/\aB [b] w w':=by
 have g:=h.c0;have f:=h.c1;have j:=h.fz 0;have i:=h.fz 1;have a:=h.2;have d:=bL t;cases t with
 | nil =>
   have H:=h.off;clear h;delta zF;go_in
   go_wp2;go_ret;refine⟨rfl,?_,zK.setCell (.inl (by simp)) _⟩;simp only[List.isEmpty_nil,a2O,Bool.and_false,List.tail_nil];exact H
 | cons c r =>
   have H:=h.go r (by simp);have he:=tF (c::r) 1 (r.length+1);have hd:((c::r).take (r.length+1)).drop 1=r:=by simp
   rw[hd]at he;clear hd;have hb:(bs (c::r))[0]'(by rw[bL];simp)=c:=rfl;simp only[a0r]at d a;clear h;delta zF;go_in
   go_wp2;go_ret;refine⟨rfl,?_,zK.setCell (.inl (by simp)) _⟩;simp only[a1I,a1K,a2x,a1L];exact H
def nv(k:IntKind)(L:LN):List Value:=L.map λ(n:Nat)=>.int k n
def ZB:(Tryz.prog.info? 3).map (λi=>(i.zero,i.size,i.bytes))=some (some (zI 0),1,8):=by kernel_rfl
theorem bD(w:World)(a:Obj):(w.alloc a).heap[w.heap.size]?=some a:=heap_alloc_new w a
def AB(w:World)(ab:Nat)(n:Int)(cl:LN)(va vn:Value):Prop :=
 w.heap[ab]?=some (.cells (zI n::(nv .u8 cl++[va,vn])).toArray 102 (0,0))/\cl.length=256
theorem AB.lt {n:Int} {cl:LN}(h:AB w ab n cl va vn):ab<w.heap.size:=(a0c.1 h.1).1
theorem AB.fz {n:Int} {cl:LN}(h:AB w ab n cl va vn)(o:Nat):w.frozen? (zB ab o)=false:=by simp[World.frozen?,h.1]
theorem AB.aC {n:Int} {cl:LN}(h:AB w ab n cl va vn)(f:aB S w w')(a:ab∉S):AB w' ab n cl va vn:=⟨(f.block ab h.lt a).trans h.1,h.2⟩
theorem AB.c0 {n:Int} {cl:LN}(h:AB w ab n cl va vn):zC w ab 0 (zI n):=by simp[World.cell?,h.1]
theorem AB.cell {n:Int} {cl:LN}(h:AB w ab n cl va vn)(c:Nat)(a:c<256):zC w ab (1+c) (.int .u8 (cl.getD c 0)):=by
 have b:c<cl.length:=by rw[h.2];exact a
 have e:(zI n::(nv .u8 cl++[va,vn]))[1+c]?=some (.int .u8 (cl.getD c 0)):=by grind [nv]
 simp[World.cell?,h.1];simpa using e
theorem AB.set {n:Int} {cl:LN}(h:AB w ab n cl va vn)(c m:Nat)(a:c<256):AB (w.setCell (zB ab (1+c)) (.int .u8 m)) ab n (cl.set c m) va vn:=by
 refine⟨?_,by rw[a3p];exact h.2⟩;have d:c<cl.length:=by rw[h.2];exact a
 have e:(zI n::(nv .u8 cl++[va,vn])).set (1+c) (.int .u8 m)=zI n::(nv .u8 (cl.set c m)++[va,vn]):=by grind [nv,Nat.add_comm,List.set_append_left,List.map_set]
 have b:=h.1;simp only[World.setCell,a0v,b,a0G,a1x];rw[<-e];simp
def AB.set0 {n:Int} {cl:LN}(h:AB w ab n cl va vn)(m:Int):AB (w.setCell (zA ab) (zI m)) ab m cl va vn:=by refine⟨?_,h.2⟩;have a:=h.1;simp only[World.setCell,a0v,a,a0G,a1x];simp
theorem AB.Ke {n:Int} {cl:LN}(h:AB w ab n cl va vn)(v:Value):AB (w.setCell (zB ab 258) v) ab n cl va v:=by
 refine⟨?_,h.2⟩;have e:(zI n::(nv .u8 cl++[va,vn])).set 258 v=zI n::(nv .u8 cl++[va,v]):=by rw[a1S,a1v _ _ (by simp[nv,h.2])];simp[nv,h.2]
 have a:=h.1;simp only[World.setCell,a0v,a,a0G,a1x];rw[<-e];simp
def AB.agr {n:Int} {cl:LN}(h:AB w ab n cl va vn)(v:Value):AB (w.setCell (zB ab 257) v) ab n cl v vn:=by
 refine⟨?_,h.2⟩;have e:(zI n::(nv .u8 cl++[va,vn])).set 257 v=zI n::(nv .u8 cl++[v,vn]):=by rw[a1S,a1v _ _ (by simp[nv,h.2])];simp[nv,h.2]
 have a:=h.1;simp only[World.setCell,a0v,a,a0G,a1x];rw[<-e];simp
theorem AB.cN {n:Int} {cl:LN}(h:AB w ab n cl va vn):w.cell? ⟨ab,257,none⟩=some va/\w.cell? ⟨ab,258,none⟩=some vn:=by
 have b:(.int .i64 n::(nv .u8 cl++[va,vn]))[257]?=some va:=by rw[a1m,a0K (by simp[nv,h.2])];simp[nv,h.2]
 have a:(.int .i64 n::(nv .u8 cl++[va,vn]))[258]?=some vn:=by rw[a1m,a0K (by simp[nv,h.2])];simp[nv,h.2]
 simp only[World.cell?,h.1];exact⟨by simpa using b,by simpa using a⟩
def H8:(Tryz.prog.info? 102).map (·.size)=some 259:=by kernel_rfl
theorem ajq:Tryz.zeroCells102=(Value.int .i64 0::(nv .u8 (List.replicate 256 0)++[zN,zN])).toArray:=by kernel_rfl
theorem jZ:Tryz.zeroCells102.size=259:=by kernel_rfl
def xH:Tryz.zeroCells102.all (·.oneCell')=true:=by kernel_rfl
def AB.new(w:World):AB (w.alloc (Obj.cells Tryz.zeroCells102 102)) w.heap.size 0 (List.replicate 256 0) zN zN:=by refine⟨?_,List.length_replicate⟩;rw[ajq];exact bD _ _
def bS {fn:Func} {p u:Tmp} {ty:TypeId}(h:fn.results=#[.cell p ty,.tmp u])(tmps:Array Value)(w:World)(g:Nat)(cs:Array Value)
 (a:tmps.getD p undef=zP g) (b:(loadVar ty (zA g)).run Tryz.prog w=.ok (.agg cs) w) :
 (results fn tmps).run Tryz.prog w=.ok (.tuple #[.agg cs,tmps.getD u undef]) w:=by
 have c:tmps[p]?.getD undef=zP g:=by simpa using a
 simp[results,h,c,asAddr,b]
def rY {t:TypeId} {fr:Nat × Nat}(b:w.heap[g]?=some (.cells cs t fr))(a:cs.size=259):(loadVar 102 (zA g)).run Tryz.prog w=.ok (.agg cs) w :=
 run_loadVar_row w g t 102 cs fr _ b Tryz.underlying102 rfl (by rw[a];exact H8)
theorem aB.setRow(w:World)(g:Nat)(cs:Array Value):aB [g] w (w.setRow g cs):=by refine⟨rfl,rfl,rfl,by simp[World.setRow],λk b a=>?_⟩;simp at a;simp only[World.setRow,a0v];rw[a0n (λe=>a e.symm)]
theorem vW {t:TypeId}(h:w.heap[g]?=some (.cells old t (0,0))):(w.setRow g cs).heap[g]?=some (.cells cs t (0,0)):=by simp only[World.setRow,a0v,h,a0G,a1x]
def vX {t:TypeId}(h:w.heap[g]?=some (.cells old t (0,0)))(c:cs.size=old.size)(b:cs.all (·.oneCell')=true):(storeCells (zA g) cs.toList).run Tryz.prog w=.ok () (w.setRow g cs):=by have:=run_storeCells_from (P:=Tryz.prog) g t cs.toList 0 old w h (by simp;omega) (λv a=>(a2g.1 b) v (by simpa using a));simpa using this
def acT:(Tryz.prog.info? 4).map (λi=>(i.zero,i.size,i.bytes))=some (some (.bool false),1,1):=by kernel_rfl
theorem H9 {o:Oper} {a:Act} {K:Act->World->Prop} {Q:Exit->Act->World->Prop}(x:Operand)(ho:o.op=.load 102 x)(g:Nat)(b:a.eval x=.pointer (some ⟨g,0,none⟩))(cs:Array Value)(c:(loadVar 102 ⟨g,0,none⟩).run Tryz.prog w=.ok (.agg cs) w)(h:K (a.put o.dst (.agg cs)) w):o.wp Tryz.prog a w K Q:=by unfold Oper.wp execOp;simp only[ho,b,Instr.loadAt,Instr.sureAddr,Sem.run_bind,Sem.run_pure,Result.andThen_ok,c];exact h
def jK:NF->Bool | .sum _=>true|_=>false
mutual
def hsk:List NF->NF->List (NF × List NF)
 | _,.zero=>[]
 | _,.one=>[]
 | _,.set _=>[]
 | k,.pair a b=>hsk (elems b++k) a++hsk k b
 | k,.sum l=>(if k.isEmpty then [] else [(.sum l,k)])++Ww k l
 | k,.star a=>(if jK a then [] else [(a,.star a::k)])++hsk (.star a::k) a
def Ww:List NF->List NF->List (NF × List NF)
 | _,[]=>[]
 | k,x::r=>hsk k x++Ww k r
end
theorem MC:∀{l k:List NF} {o:NF × List NF},o∈Ww k l↔∃x∈l,o∈hsk k x
 | [],k,o=>by simp[Ww]
 | x::r,k,o=>by simp[Ww,MC (l:=r)]
def aoD(Y:NF):∀(k t s:List NF) (Z:NF),(Z,s)∈hsk k Y->(Z,s++t)∈hsk (k++t) Y:=by
 refine NF.ind (P:=λY=>∀(k t s:List NF) (Z:NF),(Z,s)∈hsk k Y->(Z,s++t)∈hsk (k++t) Y) ?_ Y;intro Y d k t s Z h;cases Y with
 | zero=>simp[hsk]at h
 | one=>simp[hsk]at h
 | set n=>simp[hsk]at h
 | pair a b =>
   simp only[hsk,a0e]at h |-;rcases h with h|h
   .grind [left,NF.size,NF.size_pos]
   grind [NF.size,NF.size_pos]
 | sum l =>
   simp only[hsk,a0e]at h |-;rcases h with h|h
   .simp_all
   right
   rw[MC]at h |-;obtain⟨x,c,h⟩:=h;exact⟨x,c,d x (by have:=dx c;simp[NF.size];omega) _ t s Z h⟩
 | star a =>
   simp only[hsk,a0e]at h |-;rcases h with h|h
   .grind
   grind [NF.size]
def Rs(X:NF):∀(Y:NF) (t k s:List NF) (Z:NF),(Y,t)∈bG X->(Z,s)∈hsk (t++k) Y->(Z,s)∈hsk k X:=by
 refine NF.ind (P:=λX=>∀(Y:NF) (t k s:List NF) (Z:NF),(Y,t)∈bG X->(Z,s)∈hsk (t++k) Y->(Z,s)∈hsk k X) ?_ X;intro X d Y t k s Z ho h;cases X with
 | zero=>simp[bG]at ho;obtain⟨rfl,rfl⟩:=ho;simpa using h
 | one=>simp[bG]at ho;obtain⟨rfl,rfl⟩:=ho;simpa using h
 | set n=>simp[bG]at ho;obtain⟨rfl,rfl⟩:=ho;simpa using h
 | pair a b =>
   simp only[bG,a0l,a0e,a0q,Prod.mk.injEq]at ho;rcases ho with⟨rfl,rfl⟩|⟨⟨e,s'⟩,ho,rfl,rfl⟩|ho
   .simpa using h
   .grind [hsk,left,NF.size,NF.size_pos]
   grind [hsk,NF.size,NF.size_pos]
 | sum l =>
   simp only[bG,a0l,Prod.mk.injEq]at ho;rcases ho with⟨rfl,rfl⟩|ho
   .simpa using h
   rw[EZ]at ho;obtain⟨x,c,ho⟩:=ho;simp only[hsk,a0e]
   right
   rw[MC];exact⟨x,c,d x (by have:=dx c;simp[NF.size];omega) _ t _ s Z ho h⟩
 | star a =>
   simp only[bG,a0l,a0q,Prod.mk.injEq]at ho;rcases ho with⟨rfl,rfl⟩|⟨⟨e,s'⟩,ho,rfl,rfl⟩
   .simpa using h
   grind [hsk,NF.size]
def XU(X:NF)(w:LN)(p:NF):Prop :=
 dF p=true\/p=.one\/(∃Y t,(Y,t)∈bG X/\dP Y=true/\p=mk Y t) \/
 ∃Y t v,(Y,t)∈bG X/\(Y,t)∈hsk [] X/\t≠[]/\v≠[]/\v <:+ w/\dP (dW Y v)=true/\p=mk (dW Y v) t/\∀u,u <+: v->u≠[]->ym (dW Y u)=true
theorem amt {w v:LN} {p:NF}(ho:(Y,[])∈bG X)(e:v <:+ w)(h:XU Y v p):XU X w p:=by
 rcases h with h|h|⟨Z,t,d,b,a⟩|⟨Z,t,u,d,c,ht,i,b,a,g,f⟩
 .exact .inl h
 .exact .inr (.inl h)
 .have:=ko ho d
  rw[a0R]at this;exact .inr (.inr (.inl ⟨Z,t,this,b,a⟩))
 have:=ko ho d;rw[a0R]at this;exact .inr (.inr (.inr ⟨Z,t,u,this,Rs X Y [] [] t Z ho (by simpa using c),ht,i,b.trans e,a,g,f⟩))
def ZC(e:wf x)(ho:(x,[])∈bG X)(w:LN) {p:NF}(c:p∈parts x):XU X w p:=by
 have d:(p,[])∈bG X:=by
  cases x with
  | zero=>simp[parts]at c
  | sum l=>have:=ko ho (JV (l:=l) c (fT p));simpa using this
  | one=>simp[parts]at c;subst c;exact ho
  | set s=>simp[parts]at c;subst c;exact ho
  | pair a b=>simp[parts]at c;subst c;exact ho
  | star a=>simp[parts]at c;subst c;exact ho
 have f:=wK e c;have g:=mY e c;clear c ho e;cases p with
 | zero=>simp[iU]at g
 | sum l=>simp[iU]at g
 | one=>exact .inr (.inl rfl)
 | set s=>exact .inl rfl
 | pair a b=>have h:=ko d (BM (b:=b) (fT a));simp only[a0V,a0R]at h;refine .inr (.inr (.inl ⟨a,elems b,h,f.2.2.1,?_⟩));rw[lH (EU b),xz f.2.1]
 | star a=>exact .inr (.inr (.inl ⟨.star a,[],d,rfl,rfl⟩))
def ZD {t:List NF}(c:wf X)(ho:(Y,t)∈bG X)(w:LN) {p:NF}(a:p∈parts (chain t)):XU X w p:=by
 match t,ho,a with
 | [],_,a=>simp[chain,parts]at a;exact .inr (.inl a)
 | [x],ho,a=>have b:=uy (u:=[]) ho rfl;exact ZC (bU c b).1 b w a
 | x::y::r,ho,a=>have b:=uy (u:=[]) ho rfl;have d:=(bU c ho).2 x (by simp);simp[chain,parts]at a;exact .inr (.inr (.inl ⟨x,y::r,b,d.2,a⟩))
def UR {t:List NF} {w u:LN}(n:wf X)(ho:(Y,t)∈bG X)(m:(Y,t)∈hsk [] X)(ht:t≠[])(g:u≠[])(i:u <:+ w)
 (z:∀e,e <+: u->e≠[]->e≠u->ym (dW Y e)=true) (q:∀p∈parts (dW Y u),XU Y u p)  {p:NF} (c:p∈parts (aG (dW Y u) (chain t))):XU X w p:=by
 have f:=bU n ho;have d:ym (dW Y u)=true->∀e,e <+: u->e≠[]->ym (dW Y e)=true:=by grind
 have o:∀F:NF,dW Y u=F->iU F=true->dF F=false->F≠.one->XU X w p:=by
  intro F hF x r y;have j:F∈parts F:=by rw[wJ x];simp
  rcases q F (by rw[hF];exact j) with h|h|⟨Z,s,h1,h3,h4⟩|⟨Z,s,v,h1,h1',hs0,h0,h2,h3,h4,h5⟩
  .rw[r]at h;contradiction
  .contradiction
  .have k:=(bU f.1 h1).2
   rw[hF,h4,UC h3 k f.2,lH (by simp[ht])]at c;simp only[parts,a0w]at c;exact .inr (.inr (.inl ⟨Z,s++t,ko ho h1,h3,by rw[c,lH (by simp[ht])]⟩))
  have k:=(bU f.1 h1).2;rw[hF,h4,UC h3 k f.2,lH (by simp[ht])]at c;simp only[parts,a0w]at c;have hh:(Z,s++t)∈hsk [] X:=Rs X Y t [] (s++t) Z ho (by simpa using aoD Y [] t s Z h1');exact .inr (.inr (.inr ⟨Z,s++t,v,ko ho h1,hh,by simp[ht],h0,h2.trans i,h3,by rw[c,lH (by simp[ht])],h5⟩))
 cases hF:dW Y u with
 | zero=>rw[hF]at c;simp[aG,parts]at c
 | one=>rw[hF]at c;exact ZD n ho w c
 | set s =>
   have hh:dP (dW Y u)=true:=by rw[hF];rfl
   rw[aX hh (fK f.2 ht)]at c;simp only[parts,a0w]at c;exact .inr (.inr (.inr ⟨Y,t,u,ho,m,ht,g,i,hh,by rw[c,lH ht],d (by rw[hF];rfl)⟩))
 | sum l =>
   have hh:dP (dW Y u)=true:=by rw[hF];rfl
   rw[aX hh (fK f.2 ht)]at c;simp only[parts,a0w]at c;exact .inr (.inr (.inr ⟨Y,t,u,ho,m,ht,g,i,hh,by rw[c,lH ht],d (by rw[hF];rfl)⟩))
 | pair a b=>exact o _ hF rfl rfl (by simp)
 | star a=>exact o _ hF rfl rfl (by simp)
def ajr(X:NF):wf X->∀(w:LN) (p:NF),p∈parts (dW X w)->XU X w p:=by
 refine NF.ind (P:=λX=>wf X->∀(w:LN) (p:NF),p∈parts (dW X w)->XU X w p) ?_ X;intro X A g w;have elem:∀(w:LN) (c:Nat) (c1:NF) (r:List NF) (p:NF),(c1,r)∈bG X->dP c1=true->(∀l,c1=.sum l->r=[]->c1.size<X.size)->p∈parts (aG (left c c1) (chain r))->XU X (w++[c]) p:=by
  intro w c c1 r p ho hh eG d;have f:=bU g ho;have J:∀Y:NF,dW Y [c]=left c Y:=λY=>rfl
  have m:[c] <:+ w++[c]:=List.suffix_append _ _;have I:∀(Y:NF) (q:LN),q <+: [c]->q≠[]->q≠[c]->ym (dW Y q)=true:=by grind [List.prefix_cons_iff]
  cases c1 with
  | zero=>simp[dP]at hh
  | one=>simp[dP]at hh
  | pair a b=>simp[dP]at hh
  | set s =>
    simp only[left]at d
    split at d
    .exact ZD g ho _ d
    simp[aG,parts]at d
  | star Z =>
    have T:(Z,.star Z::r)∈bG X:=by have:=ko ho (wL (fT Z));simpa using this
    have C:(Z,.star Z::r)∈hsk [] X:=Rs X (.star Z) r [] _ Z ho (by
     simp only[hsk,a0R,a0e];cases Z with
     | sum l=>right;simp[hsk]
     | _=>left;simp[jK])
    have E:=(pZ ho).1;have o:Z.size<X.size:=by simp[NF.size]at E;omega
    have L:wf Z:=f.1.1;have e:aG (left c (.star Z)) (chain r)=aG (dW Z [c]) (chain (.star Z::r)):=by
     rw[J];simp only[left];rw[GK _ _ _ (gI c Z L) f.1]
     congr 1
     exact uw (s:=[.star Z]) (t:=r) (by intro x G;simp at G;subst G;exact⟨f.1,rfl⟩) f.2
    rw[e]at d;exact UR g T C (by simp) (by simp) m (I Z) (A Z o L [c]) d
  | sum l =>
    by_cases B:r=[]
    .grind [chain,bF,amt]
    have o:=(pZ ho).2 B;have D:(NF.sum l,r)∈hsk [] X:=Rs X (.sum l) r [] _ _ ho (by
     cases r with
     | nil=>exact absurd rfl B
     | cons x r=>simp[hsk])
    rw[<-J]at d;exact UR g ho D B (by simp) m (I _) (A _ o f.1 [c]) d
 have main:∀n (w:LN),w.length=n->∀p,p∈parts (dW X w)->XU X w p:=by
  intro n
  induction n with
  | zero=>intro w i p d;have:=a0S i;subst this;exact ZC g (fT X) [] d
  | succ n y =>
    intro w i p d;obtain⟨w',c,rfl⟩:∃w' c,w=w'++[c]:=by
     have H:w≠[]:=by intro e;subst e;simp at i
     exact⟨w.dropLast,w.getLast H,(a2t H).symm⟩
    have W:w'.length=n:=by simp at i;exact i
    rw[tK]at d;have hq:=BR g w';rcases Wh hq d with h|⟨F,k,d⟩
    .exact .inl h
    have V:=mY hq k;have U:∀(Y:NF) (t u:List NF) (c1:NF) (r:List NF),(Y,t)∈bG X->t=u++c1::r->p∈parts (aG (left c c1) (chain r))->XU X (w'++[c]) p:=by
     intro Y t u c1 r ho j h;have f:=bU g ho;have M:=uy ho j;have N:=f.2 c1 (by rw[j];simp);refine elem w' c c1 r p M N.2 ?_ h;rintro l rfl rfl;rcases Ol ho (.sum l) (by rw[j];simp) with h|⟨a,e,_⟩
     .exact h
     simp at e
    rcases y w' W F k with h|h|⟨Y,t,ho,hh,rfl⟩|⟨Y,t,v,ho,S,ht,O,R,hh,rfl,Wl⟩
    .cases F<;>simp[dF]at h
     simp only[left]at d
     split at d<;>simp[parts]at d
     exact .inr (.inl d)
    .grind [left,parts]
    .have f:=bU g ho
     rcases Q9 f.1 f.2 d with h|h|⟨u,c1,r,j,h⟩
     .exact .inl h
     .refine elem w' c Y t p ho hh ?_ h
      rintro l rfl rfl;simp[mk,iU]at V
     grind
    have f:=bU g ho;rcases Q9 (BR f.1 v) f.2 d with h|h|⟨u,c1,r,j,h⟩
    .exact .inl h
    .have o:=(pZ ho).2 ht
     rw[<-tK]at h;refine UR g ho S ht (u:=v++[c]) (by simp) ?_ ?_ (A Y o f.1 (v++[c])) h
     .obtain⟨z,rfl⟩:=R;exact⟨z,by simp⟩
     grind [List.prefix_concat_iff]
    grind
 exact main _ w rfl
def nl(x:NF):Nat:=(name x).length
def tn(t:List NF):Nat:=(t.map λx=>nl x+3).sum
theorem ak9(s t:List NF):tn (s++t)=tn s+tn t:=by simp[tn]
theorem Fb(a b:NF):nl (.pair a b)=nl a+nl b+3:=by simp[nl,name];omega
theorem ZE(a:NF):nl (.star a)=nl a+1:=by simp[nl,name]
theorem US:∀{t:List NF},t≠[]->tn t=nl (chain t)+3
 | [x],_=>by simp[tn,chain]
 | x::y::r,_=>by have h:=US (t:=y::r) (by simp);rw[show tn (x::y::r)=nl x+3+tn (y::r) by simp[tn],h,show chain (x::y::r)=.pair x (chain (y::r)) from rfl,Fb];omega
theorem aoE(h:NF)(t:List NF):nl (mk h t)=nl h+tn t:=by
 cases t with
 | nil=>simp[mk,tn]
 | cons x r=>rw[lH (by simp),Fb,US (by simp)];omega
theorem acU {b:NF}(hb:wf b):tn (elems b)=nl b+3:=by rw[US (EU b),xz hb]
theorem Ia(s:Nat):∀k,(setName s k).length<=2*k
 | 0=>by simp[setName]
 | k+1=>by
   have:=Ia s k;simp only[setName,a0p]
   split<;>simp<;>omega
def YO(s:Nat):nl (.set s)<=513:=by grind [Ia,nl,name]
def vP:NF->Bool | .one=>true|_=>false
def nU:NF->Bool | .set _=>true | .star _=>true|_=>false
def JE(l:List NF):Bool:=match l.filter (λx=>!vP x) with | [x]=>!nU x|_=>true
def gF:NF->Bool | .pair _ _=>true|_=>false
def sumTo(f:Nat->Nat):Nat->Nat
 | 0=>0
 | n+1=>sumTo f n+f (n+1)
mutual
def oG:NF->Nat->Nat
 | .zero,_=>0
 | .one,_=>0
 | .set s,k=>nl (.set s)+k+1
 | .pair a b,k=>oG a (k+nl b+3)+oG b k
 | .sum l,k=>(if k=0 then 0 else nl (.sum l)+k+1)+XX l k
 | .star a,k=>nl (.star a)+k+1+oG a (k+nl (.star a)+3)
def XX:List NF->Nat->Nat
 | [],_=>0
 | x::r,k=>oG x k+XX r k
end
mutual
def hG:NF->Nat->Nat->Nat
 | .zero,_,_=>0
 | .one,_,_=>0
 | .set _,_,_=>0
 | .pair a b,k,n=>hG a (k+nl b+3) n+hG b k n
 | .sum l,k,n=>(if k=0 then 0 else if JE l then sumTo (λj=>518+XX l 0+XY l 0 j+k+1) n else 0)+XY l k n
 | .star a,k,n=>(if gF a then sumTo (λj=>518+oG a 0+hG a 0 j+(k+nl (.star a)+3)+1) n else 0)+hG a (k+nl (.star a)+3) n
def XY:List NF->Nat->Nat->Nat
 | [],_,_=>0
 | x::r,k,n=>hG x k n+XY r k n
end
def nB(X:NF)(n:Nat):Nat:=518+oG X 0+hG X 0 n
theorem qJ {f g:Nat->Nat}:∀{n},(∀j,1<=j->j<=n->f j<=g j)->sumTo f n<=sumTo g n
 | 0,_=>a0b _
 | n+1,h=>by have d:=qJ (n:=n) (λj a b=>h j a (by omega));have c:=h (n+1) (by omega) (by omega);simp only[sumTo];omega
def sumTo_le {f:Nat->Nat}:∀{m n},m<=n->sumTo f m<=sumTo f n
 | m,0,h=>by have:m=0:=by omega
             subst this;exact a0b _
 | m,n+1,h=>by
   by_cases e:m=n+1
   .subst e;exact a0b _
   have:=sumTo_le (f:=f) (m:=m) (n:=n) (by omega);simp only[sumTo];omega
def sW(l:List NF):Nat:=(l.map λp=>nl p+1).sum
theorem ME(a b:List NF):sW (a++b)=sW a+sW b:=by simp[sW]
theorem Ca(p:NF)(r:List NF):sW (p::r)=nl p+1+sW r:=by simp[sW]
def aeZ:∀{l M:List NF},l.Nodup->(∀p∈l,p∈M)->sW l<=sW M
 | [],M,_,_=>by simp[sW]
 | p::r,M,b,h=>by
   rw[a2R]at b;obtain⟨A,B,rfl⟩:=a2Q (h p (by simp));have a:=aeZ (l:=r) (M:=A++B) b.2 (λq hq=>by
    have:=h q (by simp[hq]);simp only[a0e,a0l]at this |-;rcases this with a|rfl|a
    .exact .inl a
    .exact absurd hq b.1
    exact .inr a)
   rw[Ca,ME,Ca];rw[ME]at a;omega
theorem MF(l:List NF):nl (.sum l)=sW l+2:=by
 have:∀l:List NF,(ed l).length=sW l:=by
  intro l
  induction l with
  | nil=>simp[ed,sW]
  | cons x r a=>rw[Ca];simp[ed,a,nl];omega
 simp[nl,name,this l]
def amu(c:wf x):nl x<=sW (parts x)+2:=by
 cases x with
 | zero=>simp[nl,name,parts,sW]
 | sum l=>rw[MF];simp[parts]
 | one=>simp[parts,sW];omega
 | set s=>simp[parts,sW];omega
 | pair a b=>simp[parts,sW];omega
 | star a=>simp[parts,sW];omega
structure KY where
 kd:Nat
 s:Nat
 fi:Nat
 se:Nat
 L:LN
def Ky(D:List NF)(n:Nat)(k:KY)(d:NF):Prop :=
 (k.kd=2/\k.fi=0/\k.se=0/\k.L=[]/\d=.set k.s) \/
 (k.kd=3/\k.s=0/\k.L=[]/\k.fi<n/\k.se<n/\∃x y,D[k.fi]?=some x/\D[k.se]?=some y/\d=.pair x y) \/
 (k.kd=4/\k.s=0/\k.fi=0/\k.se=0/\k.L.Pairwise (·<·)/\(∀j∈k.L,j<n)/\d=.sum (gU (k.L.map λj=>D.getD j .zero))) \/
 (k.kd=5/\k.s=0/\k.se=0/\k.L=[]/\k.fi<n/\∃x,D[k.fi]?=some x/\d=.star x)
def Ky.push{R:List NF} {k:KY}(h:Ky D n k d)(p:n<=D.length):Ky (D++R) n k d:=by
 have e:∀j x,D[j]?=some x->(D++R)[j]?=some x:=λj x m=>by have:=(a0d.1 m).1;rw[a0s this];exact m
 rcases h with h|⟨l,i,g,f,c,x,y,a,b,o⟩|⟨l,i,g,f,c,a,b⟩|⟨l,i,g,f,c,x,a,b⟩
 .exact .inl h
 .exact .inr (.inl ⟨l,i,g,f,c,x,y,e _ _ a,e _ _ b,o⟩)
 .refine .inr (.inr (.inl ⟨l,i,g,f,c,a,?_⟩))
  rw[b]
  congr 2
  apply a2s;intro j m;have:=a j m;simp[List.getD,a0s (show j<D.length by omega)]
 exact .inr (.inr (.inr ⟨l,i,g,f,c,x,e _ _ a,b⟩))
theorem Ky.mono {k:KY}(h:Ky D n k d)(o:n<=m):Ky D m k d:=by
 rcases h with h|⟨e,c,b,f,g,a⟩|⟨e,c,b,f,g,a,l⟩|⟨e,c,b,f,g,a⟩
 .exact .inl h
 .exact .inr (.inl ⟨e,c,b,by omega,by omega,a⟩)
 .exact .inr (.inr (.inl ⟨e,c,b,f,g,λj i=>by have:=a j i;omega,l⟩))
 exact .inr (.inr (.inr ⟨e,c,b,f,by omega,a⟩))
def acV:∀{a b:LN},a.Pairwise (·<·)->b.Pairwise (·<·)->(∀j,j∈a↔j∈b)->a=b
 | [],[],_,_,_=>rfl
 | [],y::b,_,_,h=>by have:=(h y).2 (by simp);simp at this
 | x::a,[],_,_,h=>by have:=(h x).1 (by simp);simp at this
 | x::a,y::b,c,hb,h=>by
   rw[a1F]at c hb;have g:x=y:=by
    have f:=(h x).1 (by simp);have i:=(h y).2 (by simp);rcases a0l.1 f with e|e
    .exact e
    grind
   subst g
   congr 1
   refine acV c.2 hb.2 λj=>⟨λd=>?_,λd=>?_⟩
   .grind
   grind
theorem yI(h:D.Nodup)(b:D[i]?=some d)(a:D[j]?=some d):i=j:=by grind [List.getElem?_eq_some_iff,List.pairwise_iff_getElem,Nat.lt_trichotomy]
theorem getD_some(h:j<D.length):D[j]?=some (D.getD j .zero):=by simp[List.getD,h]
def MG(h:j<D.length):D.getD j .zero∈D:=a0B (getD_some h)
theorem Ky.inj {k q:KY}(nd:D.Nodup)(wc:∀x∈D,WC x)(h:Ky D n k d)(g:Ky D m q d)(I:n<=D.length)(J:m<=D.length):k=q:=by
 obtain⟨kd,s,fi,se,L⟩:=k;obtain⟨R,s',U,P,v⟩:=q;rcases h with⟨B,A,z,w,r⟩|⟨B,A,z,w,r,x,y,f,N,Y⟩|⟨B,A,z,w,r,f,N⟩|⟨B,A,z,w,r,x,f,N⟩ <;>
  rcases g with⟨G,F,E,C,u⟩|⟨G,F,E,C,u,O,V,i,t,Z⟩|⟨G,F,E,C,u,i,t⟩|⟨G,F,E,C,u,O,i,t⟩ <;>
  simp only at * <;> subst d<;>simp only[NF.set.injEq,NF.pair.injEq,NF.sum.injEq,NF.star.injEq,reduceCtorEq]at *
 .simp[*]
 .grind [yI]
 .have p:∀(M:LN) (k:Nat),k<=D.length->(∀j∈M,j<k)->JY (M.map λj=>D.getD j .zero):=λM k W T=>BU λx S=>by obtain⟨j,c,rfl⟩:=a0q.1 S;exact(wc _ (MG (by have:=T j c;omega))).1
  have X:L=v:=by
   refine acV r u λj=>⟨λc=>?_,λc=>?_⟩
   .have H:j<D.length:=by have:=f j c;omega
    have l:D.getD j .zero∈gU (L.map λj=>D.getD j .zero):=(iA (p L n I f)).2 (a0q.2 ⟨j,c,rfl⟩);rw[t,iA (p v m J i)]at l;obtain⟨o,b,e⟩:=a0q.1 l;have a:o<D.length:=by have:=i o b;omega
    have:=yI nd (getD_some a) (by rw[e];exact getD_some H);exact this ▸ b
   have H:j<D.length:=by have:=i j c;omega
   have l:D.getD j .zero∈gU (v.map λj=>D.getD j .zero):=(iA (p v m J i)).2 (a0q.2 ⟨j,c,rfl⟩);rw[<-t,iA (p L n I f)]at l;obtain⟨o,b,e⟩:=a0q.1 l;have a:o<D.length:=by have:=f o b;omega
   have:=yI nd (getD_some a) (by rw[e];exact getD_some H);exact this ▸ b
  simp[*]
 grind [yI]
theorem Ky.same {k:KY}{e:NF}(h:Ky D n k d)(g:Ky D m k e):d=e:=by
 rcases h with⟨l,j,i,f,a⟩|⟨l,j,i,f,a,x,y,t,c,z⟩|⟨l,j,i,f,a,t,c⟩|⟨l,j,i,f,a,x,t,c⟩ <;>
  rcases g with⟨s,r,q,p,b⟩|⟨s,r,q,p,b,v,w,u,o,A⟩|⟨s,r,q,p,b,u,o⟩|⟨s,r,q,p,b,v,u,o⟩ <;>
  first | omega|skip
 .rw[a,b]
 .grind
 .rw[c,o]
 grind
def Ky.two {k:KY}(h:Ky D n k d):d≠.zero/\d≠.one:=by rcases h with⟨f,e,c,b,a⟩|⟨f,e,c,b,a,x,y,i,g,j⟩|⟨f,e,c,b,a,i,g⟩|⟨f,e,c,b,a,x,i,g⟩<;>subst d<;>simp
structure Ru(K:List KY)(D:List NF):Prop where
 len:K.length=D.length
 d0:D[0]?=some .zero
 d1:D[1]?=some .one
 k0:K[0]?=some ⟨0,0,0,0,[]⟩
 k1:K[1]?=some ⟨1,0,0,0,[]⟩
 ky:∀i k d,2<=i->K[i]?=some k->D[i]?=some d->Ky D i k d
 nd:D.Nodup
 wc:∀d∈D,WC d
def Ru.two {K:List KY}(t:Ru K D):2<=D.length:=by have:=(a0d.1 t.d1).1;omega
def Ru.ge {K:List KY}(t:Ru K D)(h:D[i]?=some d)(b:d≠.zero)(a:d≠.one):2<=i:=by
 rcases i with _|_|i
 .rw[t.d0]at h;simp at h;exact absurd h.symm b
 .rw[show(0+1)=1 from rfl,t.d1]at h;simp at h;exact absurd h.symm a
 omega
def Ru.avC {K:List KY}(t:Ru K D)(b:2<=i)(h:D[i]?=some d):∃k,K[i]?=some k/\Ky D i k d:=by have a:=(a0d.1 h).1;rw[<-t.len]at a;exact⟨K[i],a0a a,t.ky i _ d b (a0a a) h⟩
def Ru.found {K:List KY}(t:Ru K D) {k:KY}(h:Ky D D.length k d)(a:D[i]?=some d):2<=i/\K[i]?=some k:=by have b:=t.ge a h.two.1 h.two.2;obtain⟨q,hq,c⟩:=t.avC b a;have e:=(a0d.1 a).1;exact⟨b,by rw[hq,Ky.inj t.nd t.wc c h (by omega) (a0b _)]⟩
def Ru.sameKey {K:List KY}(t:Ru K D) {k:KY}(h:Ky D D.length k d)(c:2<=i)(b:K[i]?=some k):D[i]?=some d:=by have a:=(a0d.1 b).1;rw[t.len]at a;have hd:D[i]?=some D[i]:=a0a a;rw[hd,(t.ky i k _ c b hd).same h]
def Ru.push {K:List KY}(t:Ru K D) {k:KY}(h:Ky D D.length k d)(f:WC d)(hd:d∉D):Ru (K++[k]) (D++[d]):=by
 have m:=t.two;have hlen:=t.len;refine⟨by simp[t.len],?_,?_,?_,?_,?_,?_,?_⟩
 .rw[a0s (by omega)];exact t.d0
 .rw[a0s (by omega)];exact t.d1
 .rw[a0s (by omega)];exact t.k0
 .rw[a0s (by omega)];exact t.k1
 .intro i q e g hq he
  by_cases l:i<D.length
  .rw[a0s (by omega)]at hq he
   exact(t.ky i q e g hq he).push (by omega)
  have hb:=(a0d.1 he).1;simp at hb;have:i=D.length:=by omega
  subst this;rw[a0K (by omega)]at hq he;simp[hlen]at hq he;subst hq he;exact h.push (a0b _)
 .rw[List.nodup_append]
  exact⟨t.nd,by simp,λa j b hb e=>by simp at hb;subst hb;exact hd (e ▸ j)⟩
 intro x c;rcases a0e.1 c with e|e
 .exact t.wc x e
 simp at e;exact e ▸ f
def lastB(h:KY->Nat)(K:List KY)(b:Nat):Nat->Nat
 | 0=>0
 | n+1=>if 2<=n/\(K[n]?.map h)=some b then n else lastB h K b n
def zD(h:KY->Nat)(K:List KY)(b:Nat):∀n,lastB h K b n=0\/(2<=lastB h K b n/\lastB h K b n<n/\K[lastB h K b n]?.map h=some b)
 | 0=>.inl rfl
 | n+1=>by
   unfold lastB
   split
   next e=>exact .inr ⟨e.1,by omega,e.2⟩
   next e =>
    rcases zD h K b n with a|⟨a,d,c⟩
    .exact .inl a
    exact .inr ⟨a,by omega,c⟩
def Py(h:KY->Nat)(K:List KY)(b:Nat):∀n j,j<n->2<=j->K[j]?.map h=some b->j<=lastB h K b n
 | n+1,j,f,d,a=>by
   unfold lastB
   split
   next e=>omega
   next e =>
    by_cases c:j=n
    .grind
    exact Py h K b n j (by omega) d a
theorem Kg(h:KY->Nat)(K:List KY)(k:KY)(b:Nat):∀n,n<=K.length->lastB h (K++[k]) b n=lastB h K b n
 | 0,_=>rfl
 | n+1,a=>by unfold lastB;rw[a0s (by omega),Kg h K k b n (by omega)]
def ajs(h:KY->Nat)(K:List KY)(k:KY)(b:Nat)(a:2<=K.length):lastB h (K++[k]) b (K.length+1)=if h k=b then K.length else lastB h K b K.length:=by grind [lastB,Kg]
def Cb(h:Ris l):l.Nodup:=by refine List.Pairwise.imp ?_ h;intro a b c e;subst e;rw[zy]at c;exact absurd c (by decide)
def ajt {a b:List NF}(c:JY a)(hb:JY b)(h:∀p,p∈a↔p∈b):gU a=gU b :=
 Zk (xA a) (xA b) λp=>by rw[iA c,iA hb];exact h p
theorem ags(ht:JY l)(b:l.Nodup):(gU l).length=l.length :=
 Nat.le_antisymm (qP (Cb (xA l)) λx a=>kK a) (qP b λx a=>(iA ht).2 a)
def RO(R L:LN):Prop:=R.Pairwise (·<·)/\∀j,j∈R↔j∈L
theorem Pz(nd:D.Nodup)(d:R.Pairwise (·<·))(c:∀j∈R,j<D.length):(R.map λj=>D.getD j .zero).Nodup:=by rw[List.Nodup,List.pairwise_map];refine List.Pairwise.imp_of_mem ?_ d;intro a b f hb g e;have:=yI nd (getD_some (c a f)) (by rw[e];exact getD_some (c b hb));omega
theorem Fe(wc:∀x∈D,WC x)(b:∀j∈R,j<D.length):JY (R.map λj=>D.getD j .zero) :=
 BU λx a=>by obtain⟨j,c,rfl⟩:=a0q.1 a;exact(wc _ (MG (b j c))).1
def arP(nd:D.Nodup)(wc:∀x∈D,WC x){L:LN}(h:RO R L)(d:∀j∈L,j<D.length)(ht:JY l)(c:∀p,p∈l↔p∈L.map λj=>D.getD j .zero) :
 gU (R.map λj=>D.getD j .zero)=gU l/\(gU l).length=R.length:=by
 have b:∀j∈R,j<D.length:=λj a=>d j ((h.2 j).1 a)
 have e:gU (R.map λj=>D.getD j .zero)=gU l:=by
  refine ajt (Fe wc b) ht λp=>?_
  rw[c p];simp only[a0q];exact⟨λ⟨j,a,e⟩=>⟨j,(h.2 j).1 a,e⟩,λ⟨j,a,e⟩=>⟨j,(h.2 j).2 a,e⟩⟩
 refine⟨e,?_⟩;rw[<-e,ags (Fe wc b) (Pz nd h.1 b)];simp
def amv(h:2<=l.length):mkS l=.sum l:=by
 match l,h with
 | a::b::r,_=>rfl
def Ff(U:List NF)(ls:List NF):Prop:=(bf (ls.flatMap parts)≠0->.set (bf (ls.flatMap parts))∈U)/\(2<=(gU (bN (ls.flatMap parts))).length->bQ ls∈U)/\(ls.flatMap parts).length<=9000000000000/\ls.length<=9000000000000
mutual
def Fg(c:Nat)(U:List NF):NF->Prop
 | .zero=>True
 | .one=>True
 | .set _=>True
 | .pair a b=>Fg c U a/\(∀f∈uZ (left c a) b,f∈U)/\(dK a=true->Fg c U b/\Ff U [aG (left c a) b,left c b])
 | .sum l=>ZF c U l/\Ff U (xy c l)
 | .star a=>Fg c U a/\∀f∈uZ (left c a) (.star a),f∈U
def ZF(c:Nat)(U:List NF):List NF->Prop
 | []=>True
 | x::r=>Fg c U x/\ZF c U r
end
theorem PD {c:Nat} {U:List NF}:∀{l:List NF},ZF c U l↔∀x∈l,Fg c U x
 | []=>by simp[ZF]
 | x::r=>by simp only[ZF,a0l,forall_eq_or_imp,PD]
theorem Fh:∀l:List NF,agc l=l.any dK
 | []=>rfl
 | x::r=>by simp[agc,Fh r]
theorem any_congr {a b:List NF}(h:∀p,p∈a↔p∈b):a.any dK=b.any dK:=by grind
def arQ(h:A.Pairwise (·<=·))(k:i<=A.length)(l:∀x∈A.drop i,n<x)(g:0<i->A.getD (i-1) 0<=n):(A.take i++n::A.drop i).Pairwise (·<=·):=by
 have a:(A.take i++A.drop i).Pairwise (·<=·):=by rw[a1C];exact h
 rw[List.pairwise_append]at a |-;have ht:∀x∈A.take i,x<=n:=by
  intro x c;obtain⟨j,d,rfl⟩:=a3f.1 c;simp only[a1k]at d;rw[List.getElem_take];have b:=g (by omega);have f:A.getD (i-1) 0=A[i-1]'(by omega):=by simp[List.getD,show i-1<A.length by omega]
  rw[f]at b;refine a0h ?_ b
  by_cases e:j=i-1
  .subst e;exact a0b _
  grind [List.pairwise_iff_getElem]
 refine⟨a.1,?_,?_⟩
 .grind [List.pairwise_cons,Nat.le_of_lt]
 grind
theorem amw(j:Nat):j∈A.take i++n::A.drop i↔j∈A\/j=n:=by grind [List.take_append_drop]
def aoF{O:LN} {k:Nat}(m:R.Pairwise (·<=·))(c:k<R.length)(h:RO O (R.take k)) :
 ((k=0\/R.getD (k-1) 0≠R[k])->RO (O++[R[k]]) (R.take (k+1)))/\(¬ (k=0\/R.getD (k-1) 0≠R[k])->RO O (R.take (k+1))):=by
 have ht:R.take (k+1)=R.take k++[R[k]]:=by rw[a1c,a0a c];rfl
 have i:=a3q.1 m
 constructor
 .intro a
  constructor
  .rw[List.pairwise_append]
   refine⟨h.1,by simp,?_⟩;intro x g y b;simp at b;subst b;obtain⟨j,l,rfl⟩:=a3f.1 ((h.2 x).1 g);simp only[a1k]at l;rw[List.getElem_take];have o:=i j k (by omega) c (by omega);have d:R.getD (k-1) 0=R[k-1]'(by omega):=by simp[List.getD,show k-1<R.length by omega]
   rcases a with a|a
   .omega
   grind
  intro j;rw[ht];simp only[a0e,h.2 j]
 intro a;have n:¬ k=0:=λe=>a (.inl e)
 have f:R.getD (k-1) 0=R[k]:=Decidable.byContradiction λe=>a (.inr e)
 refine⟨h.1,λj=>?_⟩;rw[ht,h.2 j];simp only[a0e,a0w];refine⟨λe=>.inl e,λe=>e.elim id λe=>?_⟩;subst e;rw[<-f];have d:R.getD (k-1) 0=R[k-1]'(by omega):=by simp[List.getD,show k-1<R.length by omega]
 rw[d];exact a3f.2 ⟨k-1,by simp;omega,by simp⟩
end
end Go.Proofs.YtedmellodofajaaGreatDoor
