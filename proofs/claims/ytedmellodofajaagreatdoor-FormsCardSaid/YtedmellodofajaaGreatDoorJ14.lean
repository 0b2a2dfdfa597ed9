import Derived.Test.YtedmellodofajaaGreatDoorJ13
import Derived.Laws.CopyOwn
import Derived.Laws.MakeOwn
import Derived.Test.YtedmellodofajaaGreatDoorJ7
import Derived.Test.YtedmellodofajaaGreatDoorJ11
import Derived.Test.YtedmellodofajaaGreatDoorJ12
import Derived.Test.YtedmellodofajaaGreatDoorJ10
import Derived.Test.YtedmellodofajaaGreatDoorJ8
import Derived.Test.YtedmellodofajaaGreatDoorJ1
import Derived.Laws.IdiomStrings
import Derived.Test.YtedmellodofajaaGreatDoorJ4
import Derived.Deep.RegionLaw
import Derived.Great.BuildSlice
import Derived.Lib.AppendStr
import Derived.Lib.SlBytesConst
set_option linter.unusedVariables false
set_option linter.unusedSimpArgs false
set_option linter.unnecessarySimpa false
set_option linter.defProp false
set_option maxRecDepth 100000
set_option maxHeartbeats 8000000
namespace Go.Proofs.YtedmellodofajaaGreatDoor
open Go.RowKit
section
variable {C:List CR} {A F nx:LN} {w w0:World} {v:Value} {t:LB} {L:List LB} {g n:Nat} {X:NF} {St:List LN}
theorem axm(g q j:Nat):((zB g q):Addr).add j=(zB g (q+j)):=by unfold Addr.add;split<;>simp_all
def alloc_at(w:World)(o:Obj)(k:Nat)(h:w.heap.size=k):(w.alloc o).heap[k]?=some o:=by subst h;exact bD w o
def avo(x:kN)(w:World)(e:Ending)(w':World):Prop :=
 ∃g,e=zR (.agg (aO x (zS g x.bl.length x.bl.length)))/\aB [] w w'/\w.heap.size<=g/\g<w'.heap.size/\RW [] 1 w' (zS g x.bl.length x.bl.length) (sc x.bl)
def akL(W:World)(g:Nat)(bl:List LB)(p:Option Addr)(b:Nat)(Z:List Value)(m:Z.length=bl.length)(c:W.heap[g]?=some (.cells Z.toArray 9 (0,0)))(t:RW [] 1 W (.slice p bl.length b) (sc bl)) :
 ∃f,(Builtin.copy_ #[44,44] 3 #[zS g bl.length bl.length,.slice p bl.length b]).run Tryz.prog W=.ok (zI (bl.length:Int)) f/\f.heap[g]?=some (.cells (bl.map λs=>Value.string (bs s)).toArray 9 (0,0))/\Below g W f:=by
 by_cases n:bl=[]
 .subst n
  obtain rfl:Z=[]:=a0S m;exact⟨W,run_copy_none (P:=Tryz.prog) W 44 44 3 9 _ _ 0 0 0 b Tryz.underlying44 VC rfl,c,Below.refl _ _⟩
 have A:0<bl.length:=a1O.2 n;obtain⟨D,C,e,k⟩:=t.str;simp only[Value.slice.injEq,a1W]at e;obtain⟨rfl,rfl⟩:=e;obtain⟨x,q,rfl,_,_⟩:=k 0 A;have l:(bl.map λs=>Value.string (bs s)).length=bl.length:=by simp
 have h:=run_copy_row Tryz.prog W 44 44 3 9 g 0 bl.length bl.length (zB x q) bl.length b Z.toArray 9 (bl.map λs=>Value.string (bs s)) Tryz.underlying44 VC c (by rw[l];exact(Nat.min_self _).symm) (by
  intro j v a;rw[a0Q,Option.map_eq_some_iff]at a;obtain⟨y,r,rfl⟩:=a;obtain⟨u,rfl⟩:=a0d.1 r;obtain⟨B,i,o,w,d⟩:=k j u;simp only[Option.some.injEq,Addr.mk.injEq,a2u]at o;obtain⟨rfl,rfl⟩:=o;rw[axm];exact d) (by simp[m]) (by
  intro v a;obtain⟨y,_,rfl⟩:=a0q.1 a
  rfl)
 rw[l]at h;refine⟨_,h,?_,below_setRow (Below.refl _ _) (a0b _) _⟩;rw[setRow_heap W g _ _ 9 _ c];have z:Z.drop bl.length=[]:=a0i (by omega);simp[z]
def Pe(x:kN)(c:CR)(y:Option Addr)(ca:Nat)(ek iJ:Value)(w:World)(U:RW [] 1 w (.slice y x.bl.length ca) (sc x.bl))(hb:RW [] 1 w ek (sc c.jM))(JI:∃ai ci,iJ=.slice ai c.ifs.length ci)(hx:x.bl.length<=1000)(hc:c.jM.length<=1000)(N:-1<=c.wt/\-1<=c.ev/\-1<=c.rp) :
 zF 53 #[.agg (aO x (.slice y x.bl.length ca)),.agg (rcl c ek iJ)] w (avo (ny x c) w):=by
 obtain⟨ai,ci,rfl⟩:=JI;obtain⟨F,D,rfl,_⟩:=hb.str;have J:∀W,zF 82 #[zI c.wt,zI (x.wt:Nat)] W λe w'=>e=zR (zI (uk c.wt x.wt:Nat))/\W=w':=λW=>LM W c.wt x.wt N.1
 have I:∀W,zF 82 #[zI c.ev,zI (x.ev:Nat)] W λe w'=>e=zR (zI (uk c.ev x.ev:Nat))/\W=w':=λW=>LM W c.ev x.ev N.2.1
 have H:∀W,zF 82 #[zI c.rp,zI (x.rp:Nat)] W λe w'=>e=zR (zI (uk c.rp x.rp:Nat))/\W=w':=λW=>LM W c.rp x.rp N.2.2
 obtain⟨i,L⟩:∃i,i=if c.rc == [45] then x.rc else c.rc:=⟨_,rfl⟩
 obtain⟨bl,l⟩:∃bl,bl=if c.tb then c.jM else x.bl:=⟨_,rfl⟩
 have HH:ny x c=⟨i,bl,uk c.wt x.wt,uk c.ev x.ev,uk c.rp x.rp⟩:=by rw[L,l];rfl
 obtain⟨G,E,r,A⟩:∃G E,(if c.tb then Value.slice F c.jM.length D else .slice y x.bl.length ca)=.slice G bl.length E/\RW [] 1 w (.slice G bl.length E) (sc bl):=by
  cases C:c.tb
  .rw[C]at l
   simp only[a0A,a0I]at l;subst l;exact⟨y,ca,rfl,U⟩
  rw[C]at l;simp only[a0G]at l;subst l;exact⟨F,D,rfl,hb⟩
 have hlen:bl.length<=1000:=by rw[l];split<;>omega
 obtain⟨s,R⟩:∃s:List Value,s=(madeCells #[.string ByteArray.empty] bl.length).toList:=⟨_,rfl⟩;have S:s.length=bl.length:=by rw[R,a3o];exact size_madeCells _ _
 have Oh:∀u:World,(Instr.makeSlice 44 (zI (bl.length:Int)) (zI (bl.length:Int))).run Tryz.prog u=.ok (zS u.heap.size bl.length bl.length) (u.alloc (.cells s.toArray 9)):=λu=>by obtain⟨X,Y,gT,fM,Z⟩:=kg uY;have:=run_make (P:=Tryz.prog) u 44 9 X (.string ByteArray.empty) Tryz.underlying44 Y gT .i64 .i64 (bl.length:Int) (bl.length:Int) (by omega) (a3n _) (by rw[Z];omega) (by omega);rw[fM,a2A,a1H]at this;rw[this,R];rfl
 have T:aB [] w (((((w.alloc (Obj.cells #[zT x.rc,.slice y x.bl.length ca,zI (x.wt:Nat),zI (x.ev:Nat),zI (x.rp:Nat)] 106)).alloc (Obj.cells #[zI (c.d:Nat),zT c.rc,.bool c.tb,.slice F c.jM.length D,zI c.wt,zI c.ev,zI c.rp,.slice ai c.ifs.length ci,.bool c.co] 81)).alloc (Obj.cells #[.string { data:=#[] },zN,zI 0,zI 0,zI 0] 106)).alloc (Obj.cells #[zT i,zS (w.heap.size+1+1+1+1) bl.length bl.length,zI 0,zI 0,zI 0] 106)).alloc (Obj.cells s.toArray 9)):=(((((aB.refl [] w).alloc _).alloc _).alloc _).alloc _).alloc _;obtain⟨b,O,B,z⟩:=akL (((((w.alloc (Obj.cells #[zT x.rc,.slice y x.bl.length ca,zI (x.wt:Nat),zI (x.ev:Nat),zI (x.rp:Nat)] 106)).alloc (Obj.cells #[zI (c.d:Nat),zT c.rc,.bool c.tb,.slice F c.jM.length D,zI c.wt,zI c.ev,zI c.rp,.slice ai c.ifs.length ci,.bool c.co] 81)).alloc (Obj.cells #[.string { data:=#[] },zN,zI 0,zI 0,zI 0] 106)).alloc (Obj.cells #[zT i,zS (w.heap.size+1+1+1+1) bl.length bl.length,zI 0,zI 0,zI 0] 106)).alloc (Obj.cells s.toArray 9)) (w.heap.size+1+1+1+1) bl G E s S (alloc_at _ _ _ (by simp)) (A.aC T (by simp));have F4:=T.TU z (by omega);have C0:=(z.block w.heap.size (by omega)).trans (((((zG.alloc _).alloc _).alloc _).block w.heap.size (by simp) (by simp)).trans (bD _ _));have M:=(z.block (w.heap.size+1) (by omega)).trans ((((zG.alloc _).alloc _).block (w.heap.size+1) (by simp) (by simp)).trans (alloc_at _ _ (w.heap.size+1) (by simp)));have f:=(z.block (w.heap.size+1+1) (by omega)).trans (((zG.alloc _).block (w.heap.size+1+1) (by simp) (by simp)).trans (alloc_at _ _ (w.heap.size+1+1) (by simp)));have t:=(z.block (w.heap.size+1+1+1) (by omega)).trans ((zG.block (w.heap.size+1+1+1) (by simp) (by simp)).trans (alloc_at _ _ (w.heap.size+1+1+1) (by simp)));have a2:zC b w.heap.size 2 (zI (x.wt:Nat)):=by simp[World.cell?,C0]
 have a3:zC b w.heap.size 3 (zI (x.ev:Nat)):=by simp[World.cell?,C0]
 have a4:zC b w.heap.size 4 (zI (x.rp:Nat)):=by simp[World.cell?,C0]
 have r4:zC b (w.heap.size+1) 4 (zI c.wt):=by simp[World.cell?,M]
 have r5:zC b (w.heap.size+1) 5 (zI c.ev):=by simp[World.cell?,M]
 have r6:zC b (w.heap.size+1) 6 (zI c.rp):=by simp[World.cell?,M]
 have e0:zC b (w.heap.size+1+1) 0 (.string { data:=#[] }):=by simp[World.cell?,f]
 have e1:zC b (w.heap.size+1+1) 1 zN:=by simp[World.cell?,f]
 have e2:zC b (w.heap.size+1+1) 2 (zI 0):=by simp[World.cell?,f]
 have e3:zC b (w.heap.size+1+1) 3 (zI 0):=by simp[World.cell?,f]
 have e4:zC b (w.heap.size+1+1) 4 (zI 0):=by simp[World.cell?,f]
 have ez:∀o,b.frozen? (zB (w.heap.size+1+1) o)=false:=λo=>by simp[World.frozen?,f]
 have h0:zC b (w.heap.size+1+1+1) 0 (zT i):=by simp[World.cell?,t]
 have h1:zC b (w.heap.size+1+1+1) 1 (zS (w.heap.size+1+1+1+1) bl.length bl.length):=by simp[World.cell?,t]
 have h2:zC b (w.heap.size+1+1+1) 2 (zI 0):=by simp[World.cell?,t]
 have h3:zC b (w.heap.size+1+1+1) 3 (zI 0):=by simp[World.cell?,t]
 have h4:zC b (w.heap.size+1+1+1) 4 (zI 0):=by simp[World.cell?,t]
 have Yl:∀o,b.frozen? (zB (w.heap.size+1+1+1) o)=false:=λo=>by simp[World.frozen?,t]
 have n:w.heap.size+1+1+1+1<b.heap.size:=(a0c.1 B).1;have hl:=aT;have avW:({ data:=#[45] }:ByteArray).toList=[45]:=aT [45];clear C0 M t z T U hb A R;simp only[aO,rcl];delta zF;go_in
 cases C:c.tb<;>cases V:(c.rc == [45])
 all_goals
  rw[C]at l r O;rw[V]at L;simp only[a0A,a0I,a0G,Value.slice.injEq]at l r L;subst l L;obtain⟨rfl,_,rfl⟩:=r
 focus
  go_wp2_with fail
  refine(J _).mono ?_;rintro e w' ⟨rfl,rfl⟩;go_wp2_with fail
  refine(I _).mono ?_;rintro e w' ⟨rfl,rfl⟩;go_wp2_with fail
  refine(H _).mono ?_;rintro e w' ⟨rfl,rfl⟩;go_wp2_with fail
  have a:∀(u:World) (o:Nat) (v:Value),aB [w.heap.size+1+1+1] u (u.setCell (zB (w.heap.size+1+1+1) o) v):=λu o v=>zK.setCell (p:=(zB (w.heap.size+1+1+1) o)) (.inl (by simp)) _
  have q:=λ(u:World) (o:Nat) (v:Value)=>(a u o v).size
  refine bodyPost_ret (qE rfl _ _ (w.heap.size+1+1) (aO ⟨c.rc,x.bl,uk c.wt x.wt,uk c.ev x.ev,uk c.rp x.rp⟩ (zS (w.heap.size+1+1+1+1) x.bl.length x.bl.length)) rfl (Gl (yZ _ _ _ _ _ (((a _ _ _).block (w.heap.size+1+1) (by have:=q;simp;omega) (by simp)).trans (((a _ _ _).block (w.heap.size+1+1) (by simp;omega) (by simp)).trans (((a _ _ _).block (w.heap.size+1+1) (by omega) (by simp)).trans f)))) rfl)) rfl ?_;have R4:RW [w.heap.size+1+1,w.heap.size+1+1+1] 1 b (zS (w.heap.size+1+1+1+1) x.bl.length x.bl.length) (sc x.bl):=by
   refine⟨_,x.bl.length,by rw[iC],by rw[iC];exact a0b _,λj m=>⟨w.heap.size+1+1+1+1,0,rfl,by simp<;>omega,n,λk u h=>?_⟩⟩;rw[iC]at m;have g:k=0:=by
    cases k with
    | zero=>rfl
    | succ k=>simp[sc]at h
   subst g;simp[sc]at h;subst h;simp[World.cell?,B,m]
 rotate_left
 focus
  go_wp2_with fail
  refine(J _).mono ?_;rintro e w' ⟨rfl,rfl⟩;go_wp2_with fail
  refine(I _).mono ?_;rintro e w' ⟨rfl,rfl⟩;go_wp2_with fail
  refine(H _).mono ?_;rintro e w' ⟨rfl,rfl⟩;go_wp2_with fail
  have a:∀(u:World) (o:Nat) (v:Value),aB [w.heap.size+1+1+1] u (u.setCell (zB (w.heap.size+1+1+1) o) v):=λu o v=>zK.setCell (p:=(zB (w.heap.size+1+1+1) o)) (.inl (by simp)) _
  have q:=λ(u:World) (o:Nat) (v:Value)=>(a u o v).size
  refine bodyPost_ret (qE rfl _ _ (w.heap.size+1+1) (aO ⟨x.rc,x.bl,uk c.wt x.wt,uk c.ev x.ev,uk c.rp x.rp⟩ (zS (w.heap.size+1+1+1+1) x.bl.length x.bl.length)) rfl (Gl (yZ _ _ _ _ _ (((a _ _ _).block (w.heap.size+1+1) (by have:=q;simp;omega) (by simp)).trans (((a _ _ _).block (w.heap.size+1+1) (by simp;omega) (by simp)).trans (((a _ _ _).block (w.heap.size+1+1) (by omega) (by simp)).trans f)))) rfl)) rfl ?_;have R4:RW [w.heap.size+1+1,w.heap.size+1+1+1] 1 b (zS (w.heap.size+1+1+1+1) x.bl.length x.bl.length) (sc x.bl):=by
   refine⟨_,x.bl.length,by rw[iC],by rw[iC];exact a0b _,λj m=>⟨w.heap.size+1+1+1+1,0,rfl,by simp<;>omega,n,λk u h=>?_⟩⟩;rw[iC]at m;have g:k=0:=by
    cases k with
    | zero=>rfl
    | succ k=>simp[sc]at h
   subst g;simp[sc]at h;subst h;simp[World.cell?,B,m]
 rotate_left
 focus
  go_wp2_with fail
  refine(J _).mono ?_;rintro e w' ⟨rfl,rfl⟩;go_wp2_with fail
  refine(I _).mono ?_;rintro e w' ⟨rfl,rfl⟩;go_wp2_with fail
  refine(H _).mono ?_;rintro e w' ⟨rfl,rfl⟩;go_wp2_with fail
  have a:∀(u:World) (o:Nat) (v:Value),aB [w.heap.size+1+1+1] u (u.setCell (zB (w.heap.size+1+1+1) o) v):=λu o v=>zK.setCell (p:=(zB (w.heap.size+1+1+1) o)) (.inl (by simp)) _
  have q:=λ(u:World) (o:Nat) (v:Value)=>(a u o v).size
  refine bodyPost_ret (qE rfl _ _ (w.heap.size+1+1) (aO ⟨c.rc,c.jM,uk c.wt x.wt,uk c.ev x.ev,uk c.rp x.rp⟩ (zS (w.heap.size+1+1+1+1) c.jM.length c.jM.length)) rfl (Gl (yZ _ _ _ _ _ (((a _ _ _).block (w.heap.size+1+1) (by have:=q;simp;omega) (by simp)).trans (((a _ _ _).block (w.heap.size+1+1) (by simp;omega) (by simp)).trans (((a _ _ _).block (w.heap.size+1+1) (by omega) (by simp)).trans f)))) rfl)) rfl ?_;have R4:RW [w.heap.size+1+1,w.heap.size+1+1+1] 1 b (zS (w.heap.size+1+1+1+1) c.jM.length c.jM.length) (sc c.jM):=by
   refine⟨_,c.jM.length,by rw[iC],by rw[iC];exact a0b _,λj m=>⟨w.heap.size+1+1+1+1,0,rfl,by simp<;>omega,n,λk u h=>?_⟩⟩;rw[iC]at m;have g:k=0:=by
    cases k with
    | zero=>rfl
    | succ k=>simp[sc]at h
   subst g;simp[sc]at h;subst h;simp[World.cell?,B,m]
 rotate_left
 go_wp2_with fail
 refine(J _).mono ?_;rintro e w' ⟨rfl,rfl⟩;go_wp2_with fail
 refine(I _).mono ?_;rintro e w' ⟨rfl,rfl⟩;go_wp2_with fail
 refine(H _).mono ?_;rintro e w' ⟨rfl,rfl⟩;go_wp2_with fail
 have a:∀(u:World) (o:Nat) (v:Value),aB [w.heap.size+1+1+1] u (u.setCell (zB (w.heap.size+1+1+1) o) v):=λu o v=>zK.setCell (p:=(zB (w.heap.size+1+1+1) o)) (.inl (by simp)) _
 have q:=λ(u:World) (o:Nat) (v:Value)=>(a u o v).size
 refine bodyPost_ret (qE rfl _ _ (w.heap.size+1+1) (aO ⟨x.rc,c.jM,uk c.wt x.wt,uk c.ev x.ev,uk c.rp x.rp⟩ (zS (w.heap.size+1+1+1+1) c.jM.length c.jM.length)) rfl (Gl (yZ _ _ _ _ _ (((a _ _ _).block (w.heap.size+1+1) (by have:=q;simp;omega) (by simp)).trans (((a _ _ _).block (w.heap.size+1+1) (by simp;omega) (by simp)).trans (((a _ _ _).block (w.heap.size+1+1) (by omega) (by simp)).trans f)))) rfl)) rfl ?_;have R4:RW [w.heap.size+1+1,w.heap.size+1+1+1] 1 b (zS (w.heap.size+1+1+1+1) c.jM.length c.jM.length) (sc c.jM):=by
  refine⟨_,c.jM.length,by rw[iC],by rw[iC];exact a0b _,λj m=>⟨w.heap.size+1+1+1+1,0,rfl,by simp<;>omega,n,λk u h=>?_⟩⟩;rw[iC]at m;have g:k=0:=by
   cases k with
   | zero=>rfl
   | succ k=>simp[sc]at h
  subst g;simp[sc]at h;subst h;simp[World.cell?,B,m]
 all_goals
  rw[HH];refine⟨w.heap.size+1+1+1+1,rfl,?_,by omega,?_,?_⟩
  .exact(((F4.over (a _ _ _) (by simp;omega)).over (a _ _ _) (by simp;omega)).over (a _ _ _) (by simp;omega)).over (l8 _ _ _ _ _ _ _) (by simp;omega)
  .exact a0t n (a0h (a0h (a0h (a _ _ _).size (a _ _ _).size) (a _ _ _).size) (l8 _ _ _ _ _ _ _).size)
  exact((((R4.aC (a _ _ _) (by simp)).aC (a _ _ _) (by simp)).aC (a _ _ _) (by simp)).aC (l8 _ _ _ _ _ _ _) (by simp)).cO (by simp)
theorem ry(C:List CR):∀n,(fD C n).length=n
 | 0=>rfl
 | n+1=>by rw[fD];simp[ry C n]
def an5(C:List CR)(j:Nat)(a:j<C.length):fD C (j+1)=fD C j++[ny (uK C (fD C j) j) C[j]]:=by rw[fD,a0a a]
def VU(hb:∀c∈C,c.jM.length<=4):∀n,∀x∈fD C n,x.bl.length<=4
 | 0,x,h=>by simp[fD]at h
 | n+1,x,h=>by
   rw[fD,a0e,a0w]at h;rcases h with h|rfl
   .exact VU hb n x h
   split
   .rename_i c b
    have e:=hb c (a0B b);have d:(uK C (fD C n) n).bl.length<=4:=by
     unfold uK
     split
     .rename_i p _
      by_cases a:p<(fD C n).length
      .rw[a0x,a0a a]
       exact VU hb n _ (a0u a)
      rw[a0x,a1Z (by omega)];simp[lQ]
     simp[lQ]
    simp only[ny]
    split<;>assumption
   simp[lQ]
def En {j p:Nat}(h:par C j=some p):p<j:=by
 unfold par at h
 split at h
 .exact(Un h)
 cases h
 where
 Un {C:List CR} {d:Nat}:∀{i p:Nat},nQ C d i=some p->p<i
 | 0,p,h=>by simp[nQ]at h
 | j+1,p,h=>by
   rw[nQ]at h
   split at h
   .cases h;omega
   have:=Un h;omega
theorem aez(w:World)(e:LB)(a:List LB)(d c b g:Nat)(j:Nat)(u:Value)(f:(aO ⟨e,a,d,c,b⟩ (.slice (some ⟨g,0,none⟩) a.length a.length)).toList[j]?=some u):(w.alloc (Obj.cells #[.string (bs e),.slice (some ⟨g,0,none⟩) a.length a.length,.int .i64 (d:Nat),.int .i64 (c:Nat),.int .i64 (b:Nat)] 106)).cell? ⟨w.heap.size,j,none⟩=some u:=by have:=bD w (Obj.cells #[.string (bs e),.slice (some ⟨g,0,none⟩) a.length a.length,.int .i64 (d:Nat),.int .i64 (c:Nat),.int .i64 (b:Nat)] 106);simp only[World.cell?,this];simpa[aO] using f
def an6(A:LN)(w:World)(hA:∀g∈A,g<w.heap.size)(v:Value)(C:List CR)(h:QH [] w v C)(hC:C.length<=1000)(I:∀c∈C,c.d<=1048576/\c.jM.length<=4/\-1<=c.wt/\-1<=c.ev/\-1<=c.rp) :
 zF 29 #[v] w λe w'=>∃v' m,e=zR v'/\aB [] w w'/\OW 106 5 w.heap.size w' v' (fZ m)/\dV aeQ (A++v'.ownBlock.toList) w' m (fD C C.length):=by
 have HA:=aj hA;have Og:=aj h;obtain⟨lT,q1,q2⟩:=h;obtain⟨a,cap,rfl,r⟩:=sP q1 q2;have R:=aj r;have HG:=aj I;clear q1 q2 r I;delta zF;go_in
 go_wp2_with fail
 go_loopg [3,11] C.length (λk v3 v11 wr=>∃(j:Nat) (m:List (Array Value)),j+k=C.length/\v11=zI j/\m.length=j/\aB [] w wr/\OW 106 5 w.heap.size wr v3 (fZ m)/\Z_ (dV aeQ (A++v3.ownBlock.toList) wr m (fD C j)))
 case atStart=>exact⟨0,[],by omega,rfl,rfl,(aB.refl _ _).alloc _,OW.empty _ _ _ _ (a0b _),dV.nil _ _ _⟩
 case round =>
  obtain⟨j,m,lU,rfl,Lt,hF,hO,HI⟩:=hrel;obtain⟨ao,co,he⟩:=hO.shape;rw[jA,Lt]at he;subst he;have F:=aj hF;have O:=aj hO;have Gf:=hF.size;have V:Z_ ((fZ m).length=j):=by show _=_;rw[jA];exact Lt
  by_cases aL:j<C.length
  .have gJ:decide ((j:Int)<(C.length:Int))=true:=a0g (by omega)
   obtain⟨f,or,csr,rfl,G,_,⟨ek,iJ,rfl,xL,JI⟩,k1⟩:=R.o j aL;obtain⟨ay,cy,rfl,_⟩:=xL.str;obtain⟨ai,ci,Io,_⟩:=JI;rw[show(LH C[j].ifs).length=C[j].ifs.length by simp[LH]]at Io;subst Io;have t0:zC wr f (or+j*9) (zI (C[j].d:Nat)):=hF.at (p:=(zB f (or+j*9+0))) G (k1 0 _ rfl);have t1:zC wr f (or+j*9+1) (.string (bs C[j].rc)):=hF.at (p:=(zB f (or+j*9+1))) G (k1 1 _ rfl);have t2:zC wr f (or+j*9+2) (.bool C[j].tb):=hF.at (p:=(zB f (or+j*9+2))) G (k1 2 _ rfl);have t3:zC wr f (or+j*9+3) (.slice ay C[j].jM.length cy):=hF.at (p:=(zB f (or+j*9+3))) G (k1 3 _ rfl);have t4:zC wr f (or+j*9+4) (zI C[j].wt):=hF.at (p:=(zB f (or+j*9+4))) G (k1 4 _ rfl);have t5:zC wr f (or+j*9+5) (zI C[j].ev):=hF.at (p:=(zB f (or+j*9+5))) G (k1 5 _ rfl);have t6:zC wr f (or+j*9+6) (zI C[j].rp):=hF.at (p:=(zB f (or+j*9+6))) G (k1 6 _ rfl);have t7:zC wr f (or+j*9+7) (.slice ai C[j].ifs.length ci):=hF.at (p:=(zB f (or+j*9+7))) G (k1 7 _ rfl);have t8:zC wr f (or+j*9+8) (.bool C[j].co):=hF.at (p:=(zB f (or+j*9+8))) G (k1 8 _ rfl);have Z:Z_ (∀W,aB [] w W->zF 52 #[.slice (some (zB f or)) C.length cap,zI j] W λe w'=>e=zR (zI (Gn C j))/\∃q,w'=W.drewN q):=λW Y=>OT W _ [] C (Og.o.aC Y (by simp)) (by omega) (λc l=>(HG.o c l).1) j aL
   have Kt:=HG.o C[j] (a0u aL);have Qi:=aj (an5 C j aL);have HBY:=aj xL;have axn:f<wr.heap.size:=by omega
   clear k1 xL hF hO;cases N:par C j with
   | none =>
     have Yb:Gn C j=-1:=by unfold Gn;rw[N]
     have uz:uK C (fD C j) j=lQ:=by unfold uK;rw[N]
     rw[Yb]at Z;rw[uz]at Qi;have U:Z_ (∀W,aB [] w W->zF 53 #[.agg #[.string { data:=#[] },zN,zI 30,zI 300,zI 14400],.agg #[zI (C[j].d:Nat),.string (bs C[j].rc),.bool C[j].tb,.slice ay C[j].jM.length cy,zI C[j].wt,zI C[j].ev,zI C[j].rp,.slice ai C[j].ifs.length ci,.bool C[j].co]] W λe w'=>∃g,e=zR (.agg #[.string (bs (ny lQ C[j]).rc),zS g (ny lQ C[j]).bl.length (ny lQ C[j]).bl.length,zI ((ny lQ C[j]).wt:Nat),zI ((ny lQ C[j]).ev:Nat),zI ((ny lQ C[j]).rp:Nat)])/\aB [] W w'/\W.heap.size<=g/\g<w'.heap.size/\RW [] 1 w' (zS g (ny lQ C[j]).bl.length (ny lQ C[j]).bl.length) (sc (ny lQ C[j]).bl)):=λW Y=>Pe lQ C[j] none 0 _ _ W (RW.nil _ _ _) (HBY.o.aC Y (by simp)) ⟨ai,ci,rfl⟩ (by simp[lQ]) (by omega) ⟨Kt.2.2.1,Kt.2.2.2.1,Kt.2.2.2.2⟩
     generalize ny lQ C[j]=y at *;obtain⟨E,b,D,z,x⟩:=y;simp only at U;generalize C[j]=c at *;clear N Yb uz;go_wp2_with fail
     refine(Z.o _ ((F.o.alloc _).alloc _)).mono ?_;clear Z;rintro e w2 ⟨rfl,qn,rfl⟩;go_wp2_with fail
     refine(U.o _ (((F.o.alloc _).alloc _).drewN _)).mono ?_;clear U;rintro e w3 ⟨g,rfl,Gq,I,P,s⟩;have t:aB [] wr w3:=((((aB.refl [] wr).alloc _).alloc _).drewN _).trans Gq;have Sl:wr.heap.size<=g:=by simp at I;omega
     have n:∀r,Value.ownBlock (.slice ao j co)=some r->r<wr.heap.size:=λr M=>(O.o.lt M).2
     have R3:=aj (s.afJ (B:=A++(Value.ownBlock (.slice ao j co)).toList) (λl=>by simp at l;rcases l with l|l;have:=HA.o g l;omega;have:=n g l;omega));have O3:=aj (O.o.aC t (by simp));have I3:=aj (HI.o.aC t (by simp));have F3:=aj (F.o.trans t);have xg:=t.size;clear Gq I P s t Sl n t0 t1 t2 t3 t4 t5 t6 t7 t8;go_wp2_with (at_builtin;refine qD _ rfl _ _ 53 106 _ 5 64 CV Tryz.underlying53 rfl (by omega) rfl w.heap.size (.slice ao j co) (fZ m) w3.heap.size (aO ⟨E,b,D,z,x⟩ (zS g b.length b.length)).toList rfl (O3.o.aC (S:=[]) ((aB.refl [] _).alloc _) (by simp)) rfl rfl (aez _ _ _ _ _ _ _) (by intro u hu;simp[aO]at hu;rcases hu with rfl|rfl|rfl|rfl|rfl<;>rfl) (by rw[V.o];omega) (by rw[V.o];omega) (by simp;omega) ?_;intro gg aU w5 L T bq arh;rw[V.o]at L |-;have F5:Z_ (aB [] w w5):=(F3.o.alloc _).grown T (λr M=>.inr (O3.o.lt M).1);have O5:=aj L;have I5:Z_ (dV aeQ (A++[gg]) w5 (m++[aO ⟨E,b,D,z,x⟩ (zS g b.length b.length)]) (fD C j++[⟨E,b,D,z,x⟩])):=((I3.o.aC (S:=[]) ((aB.refl [] _).alloc _) (by simp)).snoc ⟨g,rfl,R3.o.aC (S:=[]) ((aB.refl [] _).alloc _) (by simp)⟩).app T bq;clear L T bq)
     go_roundg (gk-1)
     case measure=>omega
     case rel =>
      have O6:=O5.o;rw[Gi]at O6;refine⟨j+1,m++[aO ⟨E,b,D,z,x⟩ (zS g b.length b.length)],by omega,by go_num,by simp;omega,F5,O6,?_⟩;show dV _ _ _ _ _;rw[Qi.o];exact I5
   | some p =>
     have hpj:=En N;have Yb:Gn C j=(p:Int):=by unfold Gn;rw[N]
     have KH:=ry C j;have lV:p<(fD C j).length:=by omega
     have uz:uK C (fD C j) j=(fD C j)[p]:=by
      unfold uK;rw[N];simp only[a0x,a0a lV,Option.getD_some]
     have SS:=VU (C:=C) (λc l=>(HG.o c l).2.1) j _ (a0u lV);rw[Yb]at Z;rw[uz]at Qi;obtain⟨ah,ch,hvh,hrh⟩:=sP (O.o.rw (A:=[]) (by simp)) (HI.o.cO (B:=[]) (by simp));simp only[Value.slice.injEq]at hvh;obtain⟨rfl,hjj,rfl⟩:=hvh;obtain⟨J,H,csh,rfl,hgh,_,⟨gp,rfl,Qe⟩,X⟩:=hrh p lV;have u0:zC wr J (H+p*5) (.string (bs (fD C j)[p].rc)):=X 0 _ rfl;have u1:zC wr J (H+p*5+1) (zS gp (fD C j)[p].bl.length (fD C j)[p].bl.length):=X 1 _ rfl;have u2:zC wr J (H+p*5+2) (zI ((fD C j)[p].wt:Nat)):=X 2 _ rfl;have u3:zC wr J (H+p*5+3) (zI ((fD C j)[p].ev:Nat)):=X 3 _ rfl;have u4:zC wr J (H+p*5+4) (zI ((fD C j)[p].rp:Nat)):=X 4 _ rfl;have HRP:=aj Qe;have hdp:decide ((p:Int)<(j:Int))=true:=a0g (by omega);have ay1:decide ((0:Int)<=(p:Int))=true:=a0g (by omega);clear hrh X Qe uz Yb N hjj KH;generalize Yr:(fD C j)[p]=i at *;clear Yr lV;have U:Z_ (∀W,aB [] wr W->zF 53 #[.agg #[zT i.rc,zS gp i.bl.length i.bl.length,zI (i.wt:Nat),zI (i.ev:Nat),zI (i.rp:Nat)],.agg #[zI (C[j].d:Nat),.string (bs C[j].rc),.bool C[j].tb,.slice ay C[j].jM.length cy,zI C[j].wt,zI C[j].ev,zI C[j].rp,.slice ai C[j].ifs.length ci,.bool C[j].co]] W λe w'=>∃g,e=zR (.agg #[.string (bs (ny i C[j]).rc),zS g (ny i C[j]).bl.length (ny i C[j]).bl.length,zI ((ny i C[j]).wt:Nat),zI ((ny i C[j]).ev:Nat),zI ((ny i C[j]).rp:Nat)])/\aB [] W w'/\W.heap.size<=g/\g<w'.heap.size/\RW [] 1 w' (zS g (ny i C[j]).bl.length (ny i C[j]).bl.length) (sc (ny i C[j]).bl)):=λW Y=>Pe i C[j] (some (zA gp)) i.bl.length _ _ W (HRP.o.aC Y (by simp)) (HBY.o.aC (F.o.trans Y) (by simp)) ⟨ai,ci,rfl⟩ (by omega) (by omega) ⟨Kt.2.2.1,Kt.2.2.2.1,Kt.2.2.2.2⟩
     generalize ny i C[j]=y at *;obtain⟨E,b,D,z,x⟩:=y;simp only at U;generalize C[j]=c at *;go_wp2_with fail
     refine(Z.o _ ((F.o.alloc _).alloc _)).mono ?_;clear Z;rintro e w2 ⟨rfl,qn,rfl⟩;go_wp2_with fail
     refine(U.o _ (((((aB.refl [] wr).alloc _).alloc _).drewN _).over (l8 _ _ _ _ _ _ _) (by simp))).mono ?_;clear U;rintro e w3 ⟨g,rfl,Gq,I,P,s⟩;have t:aB [] wr w3:=(((((aB.refl [] wr).alloc _).alloc _).drewN _).over (l8 _ _ _ _ _ _ _) (by simp)).trans Gq;have Sl:wr.heap.size<=g:=by simp at I;omega
     have n:∀r,Value.ownBlock (.slice (some (zB J H)) j co)=some r->r<wr.heap.size:=λr M=>(O.o.lt M).2
     have R3:=aj (s.afJ (B:=A++(Value.ownBlock (.slice (some (zB J H)) j co)).toList) (λl=>by simp at l;rcases l with l|l;have:=HA.o g l;omega;have:=n g l;omega));have O3:=aj (O.o.aC t (by simp));have I3:=aj (HI.o.aC t (by simp));have F3:=aj (F.o.trans t);have xg:=t.size;clear Gq I P s t Sl n t0 t1 t2 t3 t4 t5 t6 t7 t8 u0 u1 u2 u3 u4;go_wp2_with (at_builtin;refine qD _ rfl _ _ 53 106 _ 5 64 CV Tryz.underlying53 rfl (by omega) rfl w.heap.size (.slice (some (zB J H)) j co) (fZ m) w3.heap.size (aO ⟨E,b,D,z,x⟩ (zS g b.length b.length)).toList rfl (O3.o.aC (S:=[]) ((aB.refl [] _).alloc _) (by simp)) rfl rfl (aez _ _ _ _ _ _ _) (by intro u hu;simp[aO]at hu;rcases hu with rfl|rfl|rfl|rfl|rfl<;>rfl) (by rw[V.o];omega) (by rw[V.o];omega) (by simp;omega) ?_;intro gg aU w5 L T bq arh;rw[V.o]at L |-;have F5:Z_ (aB [] w w5):=(F3.o.alloc _).grown T (λr M=>.inr (O3.o.lt M).1);have O5:=aj L;have I5:Z_ (dV aeQ (A++[gg]) w5 (m++[aO ⟨E,b,D,z,x⟩ (zS g b.length b.length)]) (fD C j++[⟨E,b,D,z,x⟩])):=((I3.o.aC (S:=[]) ((aB.refl [] _).alloc _) (by simp)).snoc ⟨g,rfl,R3.o.aC (S:=[]) ((aB.refl [] _).alloc _) (by simp)⟩).app T bq;clear L T bq)
     go_roundg (gk-1)
     case measure=>omega
     case rel =>
      have O6:=O5.o;rw[Gi]at O6;refine⟨j+1,m++[aO ⟨E,b,D,z,x⟩ (zS g b.length b.length)],by omega,by go_num,by simp;omega,F5,O6,?_⟩;show dV _ _ _ _ _;rw[Qi.o];exact I5
  have gJ:decide ((j:Int)<(C.length:Int))=false:=a0f (by omega);have hj:j=C.length:=by omega
  subst hj;clear hF hO;go_wp2;go_ret;exact⟨_,m,rfl,F,O,HI⟩
def abV {re:LB->Nat} {bI:LB->gz}:∀(M:List CM) (s:CS) (acc:List (Nat × Bool)) (k:Nat) {l:List (Nat × Bool)} {s1:CS},CSB s k->nu re bI s acc M=.ok (l,s1)->CSB s1 (k+M.length)/\s1.q=s.q/\l.length=acc.length+M.length
 | [],s,acc,k,l,s1,h,e=>by grind [nu]
 | m::r,s,acc,k,l,s1,h,e=>by
   rw[nu]at e
   split at e
   .cases e
   rename_i t s2 ht
   obtain⟨b,_,a⟩:=aev h ht;obtain⟨f,d,c⟩:=abV r _ _ (k+1) b e;refine⟨?_,d.trans a,by simp at c |-;omega⟩;rw[a0r,show k+(r.length+1)=k+1+r.length by omega];exact f
def QH.cO{B:LN}(h:QH A w v C)(a:∀g∈B,g∈A\/w.heap.size<=g):QH B w v C:=by obtain⟨d,c,b⟩:=h;exact⟨d,c.cO a,b.cO a⟩
def results3 {fn:Func} {p u t:Tmp} {ty:TypeId}(h:fn.results=#[.cell p ty,.tmp u,.tmp t])(tmps:Array Value)(w:World)(g:Nat)(cs:Array Value)(a b:Value)
 (e:tmps.getD p undef=zP g) (d:tmps.getD u undef=a) (ht:tmps.getD t undef=b) (f:(loadVar ty (zA g)).run Tryz.prog w=.ok (.agg cs) w) :
 (results fn tmps).run Tryz.prog w=.ok (.tuple #[.agg cs,a,b]) w:=by
 have i:tmps[p]?.getD undef=zP g:=by simpa using e
 have c:tmps[u]?.getD undef=a:=by simpa using d
 have j:tmps[t]?.getD undef=b:=by simpa using ht
 simp[results,h,i,c,j,asAddr,f]
abbrev vz:V6:=⟨zN,zN,zN,zN,zN,zN⟩
def KS.start(Z:LN) {kb:Nat} {rt:Value}(c:KR w0 kb vz ⟨rt,zN,zN,zN⟩):KS Z w0 kb w0 vz ⟨rt,zN,zN,zN⟩ lT:=by
 refine⟨c,[],[],zK,c.lt,⟨?_,?_⟩,dV.nil _ _ _,dV.nil _ _ _⟩
 .intro i r a
  match i,a with
  | 0,a=>cases a;exact OW.nil _ _ _ _
  | 1,a=>cases a;exact OW.nil _ _ _ _
  | 2,a=>cases a;exact OW.nil _ _ _ _
  | 3,a=>cases a;exact OW.nil _ _ _ _
  | 4,a=>cases a;exact OW.nil _ _ _ _
  | 5,a=>cases a;exact OW.nil _ _ _ _
  | i+6,a=>simp at a
 intro i j r s _ a _ g b
 match i,a with
 | 0,a=>cases a;cases b
 | 1,a=>cases a;cases b
 | 2,a=>cases a;cases b
 | 3,a=>cases a;cases b
 | 4,a=>cases a;cases b
 | 5,a=>cases a;cases b
 | i+6,a=>simp at a
def aiC(i:Nat)(w:World)(a:i<=1000000):zF 28 #[zI i] w λe w'=>e=zR (zI ((i+2:Nat):Int))/\w=w':=by
 delta zF;go_in
 go_wp2;go_ret;exact⟨congrArg Ending.returned (by go_num),rfl⟩
def PCQ(re:LB->Nat)(bI:LB->gz)(C:List CR)(w:World)(e:Ending)(w':World):Prop :=
 aB [] w w'/\((∃n ln,pread re bI lT 0 C=.error (n,ln)/\e=zQ #[.agg vz.cells,zI (n:Nat),zI (ln:Nat)]) \/
 (∃s V,pread re bI lT 0 C=.ok s/\e=zQ #[.agg V.cells,zI 0,zI 0]/\PG [] w' V (iZ C s)))
def dV.plain {a:List (Array Value)} {xs:List kN}(h:dV aeQ A w a xs):dV Gj A w a xs :=
 ⟨h.1,λn cs x c b=>by obtain⟨g,e,r⟩:=h.2 n cs x c b;exact⟨_,e,r⟩⟩
def acz(re:LB->Nat)(bI:LB->gz)(vr vt:Value)(C:List CR)(w:World)(zV:QH [] w vt C)(bJ:0<C.length)(hCl:C.length<=16)(hC:∀c∈C,c.d<=5/\c.jM.length<=4/\-1<=c.wt/\-1<=c.ev/\-1<=c.rp/\c.ifs.length<=4/\∀m∈c.ifs,m.2.1<=3/\((m.2.1=2\/m.2.1=3)->RCP re bI m.2.2))(hvr:∃a n c,vr=.slice a n c) :
 zF 15 #[.agg #[vr,vt]] w (PCQ re bI C w):=by
 obtain⟨a0,n0,c0,rfl⟩:=hvr;obtain⟨Ay,M,ert⟩:∃a cap,vt=.slice a C.length cap:=by obtain⟨N,h1,h2⟩:=zV;obtain⟨a,cap,e,_⟩:=sP h1 h2;exact⟨a,cap,e⟩
 subst ert;obtain⟨W0,G⟩:∃W0,W0=((w.alloc (Obj.cells #[.slice a0 n0 c0,.slice Ay C.length M] 47)).alloc (Obj.cells #[zN,zN,zN,zN,zN,zN] 56)).alloc (Obj.cells #[zN,zN,zN,zN,zN,zN,.slice Ay C.length M,zN,zN,zN] 85):=⟨_,rfl⟩;have Qb:aB [] w W0:=by rw[G];exact(((aB.refl [] w).alloc _).alloc _).alloc _
 have gT:W0.heap.size=w.heap.size+3:=by rw[G];simp
 have HBC:W0.heap[w.heap.size]?=some (Obj.cells #[.slice a0 n0 c0,.slice Ay C.length M] 47):=by rw[G];exact((zG.alloc _).block w.heap.size (by simp) (by simp)).trans (bD _ _)
 have HBP:W0.heap[w.heap.size+1]?=some (Obj.cells #[zN,zN,zN,zN,zN,zN] 56):=by rw[G];exact(zG.block (w.heap.size+1) (by simp) (by simp)).trans (alloc_at _ _ _ (by simp))
 have BK:KR W0 (w.heap.size+1+1) vz ⟨.slice Ay C.length M,zN,zN,zN⟩:=by rw[G];exact alloc_at _ _ _ (by simp)
 have HS:=KS.start [w.heap.size+1] BK;have Og:Z_ (QH [w.heap.size+1+1] W0 (.slice Ay C.length M) C):=(zV.cO (by simp;omega)).aC Qb (by simp);clear zV BK;delta zF;go_in
 go_wp2_with fail
 go_loopg [15] C.length (λk v15 wr=>∃(j:Nat) (f:CS) (Vj:V6) (Uj:V4),j+k=C.length/\v15=zI j/\Z_ (KS [w.heap.size+1] W0 (w.heap.size+1+1) wr Vj Uj f)/\Z_ (KV vz Vj ⟨.slice Ay C.length M,zN,zN,zN⟩ Uj)/\Z_ (pread re bI f j (C.drop j)=pread re bI lT 0 C)/\Z_ (CSB f (4*j))/\Z_ (f.q.length=j)/\Z_ (∀x∈f.q,x.length<=4)/\Z_ (∀y∈f.x,re y=0))
 case atStart =>
  refine⟨0,lT,vz,_,by omega,rfl,?_,KV.refl _ _,?_,⟨by simp[lT],by simp[lT],by simp[lT],by simp[lT],by simp[lT]⟩,?_,?_,?_⟩
  .show KS _ _ _ _ _ _ _
   have:=HS;rw[G]at this |-;exact this
  .show _=_;rfl
  .show _=_;rfl
  .intro x i;simp[lT]at i
  intro x i;simp[lT]at i
 case round =>
  obtain⟨j,f,Vj,Uj,lU,rfl,D,Gx,HP,CBJ,Z,HQ4,HX⟩:=hrel;have hzj:=D.o.fr.size;have bc:=(D.o.fr.block w.heap.size (by omega) (by simp;omega)).trans HBC;have HBW:=(D.o.fr.block (w.heap.size+1) (by omega) (by simp)).trans HBP;have k1:zC wr w.heap.size 1 (.slice Ay C.length M):=by simp[World.cell?,bc]
  by_cases aL:j<C.length
  .have gJ:decide ((j:Int)<(C.length:Int))=true:=a0g (by omega)
   obtain⟨N,r1,r2⟩:=Og.o;obtain⟨a',xK,ea,rr⟩:=sP r1 r2;simp only[Value.slice.injEq,a1W]at ea;obtain⟨rfl,rfl⟩:=ea;obtain⟨I,or,csr,rfl,Au,RU,⟨ek,iJ,rfl,xL,JI⟩,kk⟩:=rr j aL;obtain⟨ay,cy,rfl,_⟩:=xL.str;obtain⟨ai,ci,rfl,_⟩:=JI.mts;have tc:∀(o:Nat) (u:Value),(rcl C[j] (.slice ay C[j].jM.length cy) (.slice ai C[j].ifs.length ci))[o]?=some u->zC wr I (or+j*9+o) u:=λo u hu=>(D.o.fr.cell (p:=(zB I (or+j*9+o))) Au RU).trans (kk o u hu)
   have t0:zC wr I (or+j*9) (zI (C[j].d:Nat)):=tc 0 _ rfl;have t1:zC wr I (or+j*9+1) (.string (bs C[j].rc)):=tc 1 _ rfl;have t2:zC wr I (or+j*9+2) (.bool C[j].tb):=tc 2 _ rfl;have t3:zC wr I (or+j*9+3) (.slice ay C[j].jM.length cy):=tc 3 _ rfl;have t4:zC wr I (or+j*9+4) (zI C[j].wt):=tc 4 _ rfl;have t5:zC wr I (or+j*9+5) (zI C[j].ev):=tc 5 _ rfl;have t6:zC wr I (or+j*9+6) (zI C[j].rp):=tc 6 _ rfl;have t7:zC wr I (or+j*9+7) (.slice ai C[j].ifs.length ci):=tc 7 _ rfl;have t8:zC wr I (or+j*9+8) (.bool C[j].co):=tc 8 _ rfl;have axn:I<wr.heap.size:=by omega
   have Lt:=hC C[j] (a0u aL);obtain⟨h1,h2,h3,h4,h5,h6,h7⟩:=Lt;have kG:=CBJ.o;have N1:Z_ (∀W,aB [] wr W->zF 27 #[zP (w.heap.size+1+1),.slice ai C[j].ifs.length ci] W (RMQ [w.heap.size+1] re bI W0 (w.heap.size+1+1) Vj Uj f C[j].ifs)):=λW hW=>Ul [w.heap.size+1] re bI W0 (w.heap.size+1+1) W Vj Uj f (D.o.aC hW) (by have:=hW.size;simp;omega) ⟨by have:=kG.n;omega,by have:=kG.c;omega,by have:=kG.x;omega,by have:=kG.a;omega,by have:=kG.t;omega⟩ _ C[j].ifs JI h6 h7 (by rw[Z.o];omega)
   have P:Z_ (pread re bI f j (C[j]::C.drop (j+1))=pread re bI lT 0 C):=by show _=_;rw[<-a0k aL];exact HP
   clear kk rr JI xL tc kG HP bc h7;generalize C[j]=c at *;go_wp2_with fail
   refine(N1.o _ zG).mono ?_;clear N1;rintro e E hT;rcases hT with⟨n,F,rfl,F2⟩|⟨l,s1,V2,U2,F,rfl,K2,aix⟩
   .have HE:Z_ (pread re bI lT 0 C=.error (n,j+2)):=by show _=_;rw[<-P.o,pread,F]
    have hn0:((n:Int) != 0)=true:=by
     rcases El (re:=re) (bI:=bI) c.ifs f [] HX.o with⟨e,J,_,f3⟩|⟨l',s',J,_⟩
     .rw[F]at J;cases J
      rw[a1M];omega
     rw[F]at J;cases J
    have z:=(F2.block (w.heap.size+1) (by omega) (by simp)).trans HBP;have e0:zC E (w.heap.size+1) 0 zN:=by simp[World.cell?,z]
    have e1':zC E (w.heap.size+1) 1 zN:=by simp[World.cell?,z]
    have e2:zC E (w.heap.size+1) 2 zN:=by simp[World.cell?,z]
    have e3:zC E (w.heap.size+1) 3 zN:=by simp[World.cell?,z]
    have e4:zC E (w.heap.size+1) 4 zN:=by simp[World.cell?,z]
    have e5:zC E (w.heap.size+1) 5 zN:=by simp[World.cell?,z]
    have ez:∀o,E.frozen? (zB (w.heap.size+1) o)=false:=λo=>by simp[World.frozen?,z]
    have NL:=aiC j E (by omega);clear F P;go_wp2_with fail
    refine NL.mono ?_;rintro e w' ⟨rfl,rfl⟩;go_wp2_with fail
    refine bodyPost_ret (results3 rfl _ _ (w.heap.size+1) vz.cells _ _ rfl rfl rfl (adZ (ad1 _ _ _ _ _ _ z) rfl)) rfl ?_;refine⟨?_,.inl ⟨n,j+2,HE,rfl⟩⟩;exact((Qb.over F2 (by simp;omega)).over (ad2 _ _ _ _ _ _ _ _) (by simp))
   obtain⟨g1,g2,g3⟩:=abV c.ifs f [] (4*j) CBJ.o F;have HE:Z_ (pread re bI { s1 with q:=s1.q++[l] } (j+1) (C.drop (j+1))=pread re bI lT 0 C):=by show _=_;rw[<-P.o,pread,F]
   have CB2:Z_ (CSB { s1 with q:=s1.q++[l] } (4*(j+1))):=⟨by have:=g1.n;simp only;omega,by have:=g1.c;simp only;omega,by have:=g1.x;simp only;omega,by have:=g1.a;simp only;omega,by have:=g1.t;simp only;omega⟩;have HQ2:Z_ ({ s1 with q:=s1.q++[l] }.q.length=j+1):=by show(s1.q++[l]).length=_;rw[a0p,g2,Z.o];rfl
   have HQ5:Z_ (∀x∈{ s1 with q:=s1.q++[l] }.q,x.length<=4):=by
    intro x i;have JH:x∈s1.q++[l]:=i;rw[a0e,a0w,g2]at JH;rcases JH with JH|rfl
    .exact HQ4.o x JH
    simp at g3;omega
   have HX2:Z_ (∀y∈{ s1 with q:=s1.q++[l] }.x,re y=0):=by
    rcases El (re:=re) (bI:=bI) c.ifs f [] HX.o with⟨e,J,_⟩|⟨l',s',J,_,f3⟩
    .rw[F]at J;cases J
    rw[F]at J;cases J;exact f3
   have KV2:=Gx.o.trans aix;clear aix g1 g2 g3 F P;go_wp2;go_roundg (gk-1);exact⟨j+1,_,V2,U2,by omega,by go_num,K2,KV2,HE,CB2,HQ2,HQ5,HX2⟩;omega
  have gJ:decide ((j:Int)<(C.length:Int))=false:=a0f (by omega);have hj:j=C.length:=by omega
  have HE:Z_ (pread re bI lT 0 C=.ok f):=by
   show _=_;rw[<-HP.o,hj,a2H]
   rfl
  obtain⟨vn,vc,va,vt,vr,vi⟩:=Vj;obtain⟨rt,ux,uq,ul⟩:=Uj;obtain⟨F,e2,e3,e4⟩:=Gx.o;simp only at F e2 e3 e4;subst F e2 e3 e4;have N2:=(an6 [w.heap.size+1+1,w.heap.size+1] wr (by simp;omega) (.slice Ay C.length M) C ((Og.o.aC D.o.fr (by simp)).cO (by simp)) (by omega) (λc R=>by obtain⟨h1,h2,h3,h4,h5,_⟩:=hC c R;exact⟨by omega,h2,h3,h4,h5⟩));have Vd:=D.o.row;clear HP Gx bc;go_wp2_with fail
  refine N2.mono ?_;clear N2;rintro e E ⟨v2,N,rfl,F2,O2,I2⟩;obtain⟨Y,S,he⟩:=O2.shape;rw[jA]at he;subst he;have R2:=Vd.aC F2 (by simp);have c4:=R2.c 4;simp at c4;have z4:=R2.fz 4;have R3:=R2.set (V':=⟨vn,vc,va,vt,.slice Y N.length S,zN⟩) (U':=⟨.slice Ay C.length M,ux,uq,zN⟩) 4 (.slice Y N.length S) rfl;have FK:Z_ (aB [w.heap.size+1+1] wr (E.setCell (zB (w.heap.size+1+1) 4) (.slice Y N.length S))):=(zK.over F2 (by simp)).setCell (p:=(zB (w.heap.size+1+1) 4)) (.inl (by simp)) _;have HLC:Z_ (LC (E.setCell (zB (w.heap.size+1+1) 4) (.slice Y N.length S)) (w.heap.size+1+1) (.slice Ay C.length M) uq C f.q):=by
   obtain⟨ca,cq,g⟩:=D.o.g;refine⟨(Og.o.aC D.o.fr (by simp)).aC FK.o (by simp),⟨cq,?_,?_⟩,by rw[Z.o,hj],HQ4,hCl,λc R=>(hC c R).1⟩
   .have ow:OW 143 1 W0.heap.size wr uq (fZ cq):=g.rw.o 5 ⟨143,1,uq,fZ cq⟩ rfl
    exact(ow.rw (A:=[w.heap.size+1+1]) (λx i R=>by simp at R;have:=(ow.lt i).1;omega)).aC FK.o (by simp)
   exact(g.qi.cO (B:=[w.heap.size+1+1]) (λx i=>by simp at i;subst i;exact .inl (by simp))).aC FK.o (by simp)
  generalize hw3:E.setCell (zB (w.heap.size+1+1) 4) (.slice Y N.length S)=w3 at *;have N3:=Um w3 (w.heap.size+1+1) w3 _ _ ux uq C f.q HLC.o ⟨R3,zK,R3.lt,OW.nil _ _ _ _⟩ bJ;clear HLC;obtain⟨an,cn,en⟩:∃a c,vn=.slice a f.n.length c:=by obtain⟨a,c,e⟩:=(D.o.own 0 (r:=⟨9,1,vn,sc f.n⟩) (λca cq=>rfl)).shape;exact⟨a,c,by rw[iC]at e;exact e⟩
  obtain⟨ac,VR,ec⟩:∃a c,vc=.slice a f.c.length c:=by obtain⟨a,c,e⟩:=(D.o.own 1 (r:=⟨9,1,vc,sc f.c⟩) (λca cq=>rfl)).shape;exact⟨a,c,by rw[iC]at e;exact e⟩
  obtain⟨V,ctx,et⟩:∃a c,vt=.slice a f.t.length c:=by obtain⟨a,c,e⟩:=(D.o.own 4 (r:=⟨104,3,vt,tc f.t⟩) (λca cq=>rfl)).shape;exact⟨a,c,by rw[YX]at e;exact e⟩
  obtain⟨aa,na,T,ea⟩:∃a n c,va=.slice a n c:=by obtain⟨ca,cq,g⟩:=D.o.g;obtain⟨a,c,e⟩:=(g.rw.o 3 ⟨102,259,va,fZ ca⟩ rfl).shape;exact⟨a,_,c,e⟩
  subst en ec et ea;go_wp2_with fail
  refine N3.mono ?_;clear N3;rintro e L ⟨v4,vl4,rfl,s,_,F4,O4⟩;obtain⟨a4,U,e4⟩:=O4.shape;subst e4;have d0:=s.c 0;have d1:=s.c 1;have d2:=s.c 2;have d3:=s.c 3;have d4:=s.c 4;have d5:=s.c 5;have dz:=s.fz 5;simp at d0 d1 d2 d3 d4 d5;have O:aB [w.heap.size+1+1] E w3:=by rw[<-hw3];exact zK.setCell (p:=(zB (w.heap.size+1+1) 4)) (.inl (by simp)) _
  have h:=(F4.block (w.heap.size+1) (by have:=O.size;have:=F2.size;omega) (by simp)).trans ((O.block (w.heap.size+1) (by have:=F2.size;omega) (by simp)).trans ((F2.block (w.heap.size+1) (by omega) (by simp)).trans HBW));have p0:zC L (w.heap.size+1) 0 zN:=by simp[World.cell?,h]
  have p1:zC L (w.heap.size+1) 1 zN:=by simp[World.cell?,h]
  have p2:zC L (w.heap.size+1) 2 zN:=by simp[World.cell?,h]
  have p3:zC L (w.heap.size+1) 3 zN:=by simp[World.cell?,h]
  have p4:zC L (w.heap.size+1) 4 zN:=by simp[World.cell?,h]
  have p5:zC L (w.heap.size+1) 5 zN:=by simp[World.cell?,h]
  have pz:∀o,L.frozen? (zB (w.heap.size+1) o)=false:=λo=>by simp[World.frozen?,h]
  clear s;go_wp2_with fail
  have hl4:w.heap.size+1<L.heap.size:=(a0c.1 h).1;have FB:=λ(X:Value)=>(aB.refl [w.heap.size+1+1] L).setCell (p:=(zB (w.heap.size+1+1) 5)) (.inl (by simp)) X
  refine bodyPost_ret (results3 rfl _ _ (w.heap.size+1) (V6.cells ⟨.slice an f.n.length cn,.slice ac f.c.length VR,.slice aa na T,.slice V f.t.length ctx,.slice Y N.length S,.slice a4 (uj (C8 C f.q)).length U⟩) _ _ rfl rfl rfl (adZ (ad1 _ _ _ _ _ _ (((FB _).block (w.heap.size+1) hl4 (by simp)).trans h)) rfl)) rfl ?_;have FE:=((aB.refl [w.heap.size+1+1,w.heap.size+1] L).over (FB (.slice a4 (uj (C8 C f.q)).length U)) (by simp)).over (ad2 _ (w.heap.size+1) (.slice an f.n.length cn) (.slice ac f.c.length VR) (.slice aa na T) (.slice V f.t.length ctx) (.slice Y N.length S) (.slice a4 (uj (C8 C f.q)).length U)) (by simp);have F3E:=((aB.refl [w.heap.size+1+1,w.heap.size+1] w3).over F4 (by simp)).trans FE;have F2E:=((aB.refl [w.heap.size+1+1,w.heap.size+1] E).over O (by simp)).trans F3E;have H:=((aB.refl [w.heap.size+1+1,w.heap.size+1] wr).over F2 (by simp)).trans F2E;obtain⟨ca,cq,g⟩:=D.o.g;have Jl:∀(e:TypeId) (k b:Nat) (u:World) (v:Value) (vs:List (List Value)),OW e k b u v vs->w.heap.size+3<=b->∀x,v.ownBlock=some x->x ∉ [w.heap.size+1+1,w.heap.size+1]:=by intro e k b u v vs ho hb x i R;have:=(ho.lt i).1;simp at R;omega
  refine⟨(Qb.over D.o.fr (by simp;omega)).over H (by simp;omega),.inr ⟨f,_,HE,rfl,?_⟩⟩;have on:=g.rw.o 0 ⟨9,1,.slice an f.n.length cn,sc f.n⟩ rfl;have oc:=g.rw.o 1 ⟨9,1,.slice ac f.c.length VR,sc f.c⟩ rfl;have oa:=g.rw.o 3 ⟨102,259,.slice aa na T,fZ ca⟩ rfl;have ot:=g.rw.o 4 ⟨104,3,.slice V f.t.length ctx,tc f.t⟩ rfl;have gD:=F2.size;have xg:=O.size;refine⟨?_,?_,⟨ca,?_,?_⟩,?_,⟨N,?_,?_⟩,?_⟩
  .exact((on.rw (Jl _ _ _ _ _ _ on (by omega))).aC H (by simp)).cO (by simp)
  .exact((oc.rw (Jl _ _ _ _ _ _ oc (by omega))).aC H (by simp)).cO (by simp)
  .exact((oa.rw (Jl _ _ _ _ _ _ oa (by omega))).aC H (by simp)).cO (by simp)
  .exact((g.ai.cO (B:=[w.heap.size+1+1,w.heap.size+1]) (λx i=>.inl (by simp at i |-;rcases i with rfl|rfl;exact .inr (.inl rfl);exact .inl rfl))).aC H (by simp)).cO (by simp)
  .exact((ot.rw (Jl _ _ _ _ _ _ ot (by omega))).aC H (by simp)).cO (by simp)
  .exact((O2.rw (Jl _ _ _ _ _ _ O2 (by omega))).aC F2E (by simp)).cO (by simp)
  .exact(((I2.cO (B:=[w.heap.size+1+1,w.heap.size+1]) (λx i=>.inl (a0e.2 (.inl i)))).aC F2E (by simp)).cO (by simp)).plain
  exact((O4.rw (Jl _ _ _ _ _ _ O4 (by omega))).aC FE (by simp)).cO (by simp)
theorem ari(L:List LB):(sc L).flatten=sv L:=by
 induction L with
 | nil=>rfl
 | cons x r a=>simp only[sc,sv,a0E,List.flatten_cons]at a |-;rw[a];rfl
def SL.rw0 {base:Nat}(h:SL base w v L):RW [] 1 w v (sc L):=by
 have a:OW 9 1 base w v (sc L):=by
  refine⟨?_,λx b=>?_⟩
  .rw[ari,iC];exact h
  obtain⟨y,_,rfl⟩:=a0q.1 b;rfl
 exact a.rw (by simp)
def ML.rw0 {base:Nat} {M:List CM}(h:ML base w v M):RW [] 3 w v (LH M):=by
 have a:OW 140 3 base w v (LH M):=by
  refine⟨?_,λx b=>?_⟩
  .have e:(LH M).flatten=mv M:=by unfold LH mv;rw[List.flatMap_def]
   rw[e,show(LH M).length=M.length by simp[LH]];exact h
  obtain⟨y,_,rfl⟩:=a0q.1 b;rfl
 exact a.rw (by simp)
def asQ {base:Nat} {R:List RV}(h:RL base w v R)(f:qL base w R C):QH [] w v C:=by
 refine⟨R.map RV.cells,?_,by simpa using f.1,λn cs c g k=>?_⟩
 .have i:OW 81 9 base w v (fZ (R.map RV.cells)):=by
   refine⟨?_,λx b=>?_⟩
   .have e:(fZ (R.map RV.cells)).flatten=rvl R:=by unfold fZ rvl DX;rw[a2m,List.flatMap_def];rfl
    rw[e,jA,a0y];exact h
   unfold fZ at b;rw[a2m]at b;obtain⟨y,_,rfl⟩:=a0q.1 b;rfl
  exact i.rw (by simp)
 rw[a0Q,Option.map_eq_some_iff]at g;obtain⟨rv,j,rfl⟩:=g;have a:=f.2 n rv c j k;refine⟨rv.ek,rv.iJ,?_,a.Im.rw0,a.ifs.rw0⟩;unfold RV.cells rcl;rw[a.d,a.rc,a.tb,a.wt,a.ev,a.rp,a.co]
def abX:∀(C:List CR) (i:Nat) (a:Int),i<=16->lD C i a=0->(∀c∈C,c.d<=5)/\C.length+i<=16
 | [],i,a,e,_=>⟨by simp,by simpa using e⟩
 | c::r,i,a,e,h=>by
   unfold lD at h;cases hb:(!(if (i==0)=true then nW c else jN c.d a)||decide (16<=i))
   .rw[hb]at h
    simp only[a0A,a0I]at h;have g:(if (i==0)=true then nW c else jN c.d a)=true/\¬ 16<=i:=by grind
    obtain⟨f,j⟩:=abX r (i+1) c.d (by omega) h;refine⟨λx b=>?_,by simp;omega⟩;rcases a0l.1 b with rfl|b
    .grind [nW,jN]
    exact f x b
   rw[hb]at h;simp at h
def pI(h:jH t=.ok (L,C)):oV t=.ok (L,C)/\0<C.length/\C.length<=16/\∀c∈C,c.d<=5:=by
 unfold jH at h
 split at h
 .cases h
 split at h
 .cases h
 rename_i l f i
 split at h
 .cases h
 rename_i ht
 split at h
 .cases h
 simp only[Except.ok.injEq,Prod.mk.injEq]at h;obtain⟨rfl,rfl⟩:=h;have e:iX f=0:=by omega
 unfold iX at e
 split at e
 .cases e
 rename_i j
 obtain⟨g,k⟩:=abX f 0 0 (by omega) e;refine⟨i,?_,by omega,g⟩;cases f with
 | nil=>simp at j
 | cons a b=>simp
def pJ(re:LB->Nat)(t:LB):Nat × Nat :=
 match jH t with
 | .error (n,l)=>(n,l)
 | .ok (_,C)=>xF re C 0
def ACQ(re:LB->Nat)(bI:LB->gz)(t:LB)(w:World)(e:Ending)(w':World):Prop :=
 aB [] w w'/\(((pJ re t).1≠0/\e=zQ #[.pointer none,zI ((pJ re t).1:Nat),zI ((pJ re t).2:Nat)]) \/
 (∃L C s V pb,pJ re t=(0,0)/\jH t=.ok (L,C)/\pread re bI lT 0 C=.ok s/\e=zQ #[zP pb,zI 0,zI 0]/\w'.heap[pb]?=some (.cells V.cells 60 (0,0))/\PG [pb] w' V (iZ C s)/\w.heap.size<=pb))
def acA(re:LB->Nat)(bI:LB->gz)(t:LB)(w:World)(ht:t.length<=1048576)(Gg:∀L C,jH t=.ok (L,C)->∀c∈C,∀m∈c.ifs,(m.2.1=2\/m.2.1=3)->RCP re bI m.2.2) :
 zF 7 #[zT t] w (ACQ re bI t w):=by
 have M:=aj Gg;clear Gg;delta zF;go_in
 go_wp2_with fail
 refine(afb t w ht).mono ?_;rintro e w1 ⟨aZ,vr,vt,F,ln,rfl,u⟩;have KF:=aj aZ;clear aZ;cases f:jH t with
 | error nl =>
   obtain⟨n,l⟩:=nl;have v:Z_ (pJ re t=(n,l)):=by show _=_;unfold pJ;rw[f]
   rw[f]at u;obtain⟨rfl,rfl,rfl,rfl,hn⟩:=u;have bJ:((n:Int) != 0)=true:=by rw[a1M];omega
   go_wp2;go_ret3
   refine⟨KF.o.alloc _,.inl ?_⟩;rw[v.o];exact⟨by simp only;omega,rfl⟩
 | ok LC =>
   obtain⟨L,C⟩:=LC;have v:Z_ (pJ re t=xF re C 0):=by show _=_;unfold pJ;rw[f]
   obtain⟨W,h2,h3,h4⟩:=pI f;have p:=(qT t L C ht W).2.2;rw[f]at u;obtain⟨rfl,rfl,U,yo,Qd,Qe,uT⟩:=u;obtain⟨a0,T,rfl⟩:=U.shape;have j:=asQ Qd Qe;obtain⟨Ay,P,E⟩:∃a cap,vt=.slice a C.length cap:=by
    obtain⟨bB,q1,q2⟩:=j;obtain⟨a,cap,e,_⟩:=sP q1 q2;exact⟨a,cap,e⟩
   subst E;have N2:=aj (acz re bI (.slice a0 L.length T) (.slice Ay C.length P) C (w1.alloc (Obj.cells #[.slice a0 L.length T,.slice Ay C.length P] 47)) (j.aC (S:=[]) ((aB.refl [] _).alloc _) (by simp)) h2 h3 (λc y=>by
    have g:=p c y;exact⟨h4 c y,g.byl,g.wt.1,g.ev.1,g.rp.1,g.ifl,λm JJ=>⟨(g.ifs m JJ).kind,λhk=>M.o L C f c y m JJ hk⟩⟩) ⟨_,_,_,rfl⟩)
   have HR:=aj f;have q:=aj (Uk (re:=re) (bI:=bI) C lT 0 (by simp[lT]));clear j Qd Qe U p W f;go_wp2_with fail
   refine(N2.o).mono ?_;clear N2;rintro e O ⟨R,hq⟩;have F2:=aj ((KF.o.alloc _).trans R);clear R;rcases hq with⟨n,ln,h,rfl⟩|⟨s,V,h,rfl,b⟩
   .have k:xF re C 0=(n,ln)/\n≠0:=by
     rcases q.o with⟨e,d,D,f3⟩|⟨s1,d,_⟩
     .rw[h]at d;cases d;exact⟨D,f3⟩
     rw[h]at d;cases d
    have x:=aj k;have bJ:((n:Int) != 0)=true:=by rw[a1M];have:=k.2;omega
    clear k h;simp only[V6.cells];go_wp2;go_ret3
    refine⟨F2.o.alloc _,.inl ?_⟩;rw[v.o,x.o.1];exact⟨x.o.2,rfl⟩
   have k:xF re C 0=(0,0):=by
    rcases q.o with⟨e,d,_⟩|⟨s1,d,D,_⟩
    .rw[h]at d;cases d
    exact D
   have x:=aj k;have HE:=aj h;obtain⟨vn,vc,va,vt,vr',vi⟩:=V;obtain⟨an,cn,Y,_⟩:=b.n;obtain⟨ac,VR,ec,_⟩:=b.c;obtain⟨ca,A,_⟩:=id b.a;obtain⟨aa,I,ea,_⟩:=A;obtain⟨J,ctx,X,_⟩:=b.t;obtain⟨cr,z,_⟩:=id b.r;obtain⟨ar,G,F,_⟩:=z;obtain⟨ai,H,Z,_⟩:=b.i;simp only at Y ec ea X F Z;subst Y ec ea X F Z;have N:=aj b;clear k h b;simp only[V6.cells];go_wp2;go_ret3
   refine⟨(F2.o.alloc _).alloc _,.inr ⟨L,C,s,⟨.slice an (sc (iZ C s).names).length cn,.slice ac (sc (iZ C s).consts).length VR,.slice aa (fZ ca).length I,.slice J (tc (iZ C s).tests).length ctx,.slice ar (fZ cr).length G,.slice ai (uj (iZ C s).code).length H⟩,O.heap.size+1,by rw[v.o,x.o],HR,HE,rfl,Nf _ _ _,?_,by have:=F2.o.size;omega⟩⟩;exact(N.o.cO (B:=[O.heap.size+1]) (by simp)).aC (S:=[]) (((aB.refl [] _).alloc _).alloc _) (by simp)
theorem aiD(m:CM):Ef (qG m)=(m.2.1==2||m.2.1==3):=by
 unfold Ef qG jr
 by_cases c:m.2.1=1
 .simp[c]
 by_cases b:m.2.1=2
 .simp[b]
 by_cases a:m.2.1=3
 .simp[a]
 have e:(m.2.1==2)=false:=by simpa using b
 have d:(m.2.1==3)=false:=by simpa using a
 simp[c,b,a]
theorem aiE:∀M:List CM,Xj (M.map qG)=mF gH M
 | []=>rfl
 | m::M=>by rw[a0E,Xj,mF,aiD,aiE M];rfl
theorem afZ:∀(C:List CR) (i:Nat),QA (C.map qN) i=xF gH C i
 | [],_=>rfl
 | c::C,i=>by have e:(qN c).ifs=c.ifs.map qG:=rfl;rw[a0E,QA,xF,e,aiE,afZ C (i+1)]
structure CfR(w w':World)(cb base:Nat)(C:List CR)(X:List (Nat × iY × RR)):Prop where
 lo:w.heap.size<=cb
 up:cb<base
 cf:∃vr vl,sw w' cb vr (tC ((X.map (·.1)).getD 0 0)) vl
 rb:∀x∈X,qz w' x.1 x.2.1
 rc:∀x∈X,x.2.1.rc=x.2.2.rc/\x.2.1.t0=x.2.2.t0/\x.2.1.t1=x.2.2.t1/\x.2.1.t2=x.2.2.t2/\x.2.1.on=x.2.2.on
 Im:∀x∈X,SL base w' x.2.1.ek (byW x.2.2.told x.2.2.names)
 kd:∀x∈X,LP base w' x.2.1.vk ((sD (xd X)).2 x.1)
 ifs:JN w' X (λ_ _=>True)
 nd:(X.map (·.1)).Nodup
 eq:X.map (·.2.2)=C.map qN
def MnQ(t:LB)(w:World)(e:Ending)(w':World):Prop :=
 aB [] w w'/\(((pJ gH t).1≠0/\e=zQ #[.pointer none,zI ((pJ gH t).1:Nat),zI ((pJ gH t).2:Nat)]) \/
 (∃L C cb base X,pJ gH t=(0,0)/\jH t=.ok (L,C)/\e=zQ #[tC cb,zI 0,zI 0]/\CfR w w' cb base C X))
def aiF(re:LB->Nat):∀(C:List CR) (i:Nat),(xF re C i).1=0->xF re C i=(0,0)
 | [],_,_=>rfl
 | c::C,i,h=>by
   rw[xF]at h |-
   by_cases a:mF re c.ifs=0
   .simp[a]at h |-
    exact aiF re C (i+1) h
   have:(mF re c.ifs==0)=false:=by simpa using a
   rw[this]at h;simp at h;exact absurd h a
def akM{l:Nat}(h:jH t=.error (n,l)):n≠0:=by
 unfold jH at h
 split at h
 .simp at h;omega
 split at h
 .simp at h;omega
 split at h
 .simp at h;omega
 split at h
 .simp at h;omega
 cases h
def akN(t:LB)(w:World)(ht:t.length<=1048576):zF 12 #[zT t] w (MnQ t w):=by
 have N1:=aj (anQ t w ht);go_enter Tryz.func12,Tryz.ntmps12
 go_wp2_with fail
 refine(N1.o).mono ?_;rintro e w1 ⟨hp,hf⟩;rw[arb]at hp;clear N1;cases hr:jH t with
 | error x =>
   obtain⟨n,l⟩:=x;rw[hr]at hp;have HR:Z_ (pJ gH t=(n,l)):=by show _=_;unfold pJ;rw[hr]
   have hn:=akM hr;have bJ:((n:Int)==0)=false:=a0j.2 (by omega);have F:=aj hf;have HN:=aj hn;obtain rfl:=hp;clear hr hf hn;go_wp2;go_ret3
   refine⟨F,.inl ⟨by rw[HR.o];exact HN,by rw[HR.o];rfl⟩⟩
 | ok x =>
   obtain⟨L,C⟩:=x;rw[hr]at hp;obtain⟨cb,base,vr,vt,vl,X,rfl,hc,yR,hl,hx,hR,hm⟩:=hp;have hR:C.map qN=X.map (·.2.2):=hR;have HR:Z_ (pJ gH t=QA (X.map (·.2.2)) 0):=by show _=_;unfold pJ;rw[hr,<-hR,afZ]
   have hg:=qT t L C ht (pI hr).1;have alo:=(pI hr).2.2;have hXl:X.length=C.length:=by have:=congrArg List.length hR;simpa using this.symm
   have hGd:∀x∈X,alQ x.2.2:=by
    intro x hx;have:x.2.2∈C.map qN:=by rw[hR];exact List.mem_map_of_mem hx
    rw[a0q]at this;obtain⟨c,hc,e⟩:=this;rw[<-e];exact asN c (hg.2.2 c hc) (alo.2 c hc)
   have NR:=aj (afG cb base vr vt vl X w1 hc hl hx hm.row (by omega) (λx hx=>⟨by have:=(hGd x hx).ifs;omega,λm VG=>((hGd x hx).im m VG).2.2⟩));have HX:=aj hx;have HM:=aj hm;have HC:=aj hc;have F:=aj hf;have HRD:=aj hr;have HRR:=aj hR;have Z:Z_ ((QA (X.map (·.2.2)) 0).1=0->QA (X.map (·.2.2)) 0=(0,0)):=by
    intro h;rw[<-hR,afZ]at h |-;exact aiF _ _ _ h
   clear hc yR hl hx hm hg alo hXl hGd hr hf hR;unfold tC at NR |-;go_wp2_with fail
   refine(NR.o).mono ?_;rintro e w2 ⟨rfl,aR,ha⟩;have AI:=aj ha;have FW:Z_ (aB [] w w2):=((F.o.nil (S:=QB X)).trans aR).mono (λk hk VG=>by
    have h1:=(YW HX.o VG).1;have h2:=HM.o.lo;have h3:=HM.o.up;omega)
   have CF:Z_ ((QA (X.map (·.2.2)) 0).1=0->CfR w w2 cb base C X):=by
    intro h0;have nt:∀k,k∈QB X->∀t:TypeId,t≠130->k<base\/∃cur e' fz,w1.heap[k]?=some (.cells cur e' fz)/\e'≠t:=λk hk t bJ=>by
     obtain⟨_,c,h⟩:=YW HX.o hk;exact .inr ⟨c,_,_,h,λe=>bJ e.symm⟩
    refine⟨HM.o.lo,HM.o.up,⟨vr,vl,?_⟩,λx hx=>?_,λx hx=>?_,λx hx=>?_,λx hx=>?_,AI.o h0,HM.o.nd,HRR.o.symm⟩
    ·rw[<-HM.o.root]
     exact HC.o.aC aR (TI HX.o HC.o (by decide))
    ·exact(HX.o x hx).at_.aC aR (TI HX.o (HX.o x hx).at_ (by decide))
    ·have h:=HX.o x hx
     exact⟨h.rc,h.t0,h.t1,h.t2,h.on⟩
    ·exact jJ (HX.o x hx).Im aR (λk hk=>nt k hk _ (by decide))
    exact jJ (HM.o.Oe x hx) aR (λk hk=>nt k hk _ (by decide))
   clear aR ha NR F HX HM HC AI;obtain⟨RES,OJ⟩:∃RES,QA (X.map (·.2.2)) 0=RES:=⟨_,rfl⟩;rw[OJ]at HR Z CF;rw[OJ];clear OJ;obtain⟨r1,r2⟩:=RES
   by_cases h0:r1=0
   ·have e:=Z.o h0
    simp only[Prod.mk.injEq]at e;obtain⟨rfl,rfl⟩:=e;clear Z h0;go_wp2;go_ret3
    exact⟨FW,.inr ⟨L,C,cb,base,X,HR,HRD,rfl,CF.o (by first | trivial|rfl)⟩⟩
   have bJ:((r1:Int)==0)=false:=a0j.2 (by omega);have H0:=aj h0;clear h0 Z CF;go_wp2;go_ret3
   exact⟨FW,.inl ⟨by rw[HR.o];exact H0,by rw[HR.o];rfl⟩⟩
def gQ(v:LB):gz:=match fF v with
 | some e=>⟨(kZ e).length,xq e,(eu e).2.1.map λu=>if dK (dW (bn e) u) then 1 else 0,(eu e).2.2⟩
 | none=>⟨0,[],[],[]⟩
def VX {v:LB}(h:gH v=0):∃e,fF v=some e/\(eu e).1=true/\dI e<=40:=by grind [gH]
def ark(v:LB)(s:v.length<=40):RCP gH gQ v:=by
 intro w;refine(acy v w s).mono ?_;rintro e w' ⟨hF,cs,G,F,rfl,H,E⟩;refine⟨hF,cs,G,F,rfl,λo A D=>?_⟩;obtain⟨x,f,_,_⟩:=VX o;obtain⟨l,k,rfl,hq,B⟩:=E x f o;refine⟨rfl,λn c y m d=>?_⟩;have t:n=0:=by grind
 subst t;simp only[List.getElem?_cons_zero,Option.some.injEq]at m d;subst m d;have q:OW 4 1 w.heap.size w' l (bc (gQ v).acc):=by
  refine⟨?_,λy d=>by obtain⟨_,_,rfl⟩:=a0q.1 d;rfl⟩;have j:(bc (gQ v).acc).flatten=((eu x).2.1.map λu=>dK (dW (bn x) u)).map λb=>Value.bool b:=by
   unfold gQ bc;rw[f];simp only[a2m];rw[<-List.flatMap_def]
   induction (eu x).2.1 with
   | nil=>rfl
   | cons a r i=>simp only[a1i,a0E,i,Function.comp];cases dK (dW (bn x) a)<;>rfl
  rw[j,show(bc (gQ v).acc).length=((eu x).2.1.map λu=>dK (dW (bn x) u)).length by unfold gQ bc;rw[f];simp];exact hq
 have p:OW 3 1 w.heap.size w' k (ic (gQ v).nx):=by
  refine⟨?_,λy d=>by obtain⟨_,_,rfl⟩:=a0q.1 d;rfl⟩;have j:(ic (gQ v).nx).flatten=nv .i64 (eu x).2.2:=by
   unfold gQ ic nv;rw[f];simp only
   induction (eu x).2.2 with
   | nil=>rfl
   | cons a r i=>simp only[a0E,List.flatten_cons,i];rfl
  rw[j,show(ic (gQ v).nx).length=(eu x).2.2.length by unfold gQ ic;rw[f];simp];exact B
 have far:∀{ty:TypeId} {u:Value} {vs:List (List Value)},OW ty 1 w.heap.size w' u vs->∀g,u.ownBlock=some g->g∉A:=by intro ty u vs h g C z;have:=(h.1.lt g C).1;have:=D g z;omega
 refine⟨l,k,?_,q.rw (far q),p.rw (far p)⟩;unfold Lv gQ;rw[f]
structure KN(w w':World):Prop where
 size:w.heap.size<=w'.heap.size
 cell:∀(a:Addr) (v:Value),w.cell? a=some v->v≠.pointer none->w'.cell? a=some v
 row:∀(k:Nat) (cur:Array Value) (t:TypeId) (fz:Nat × Nat),w.heap[k]?=some (.cells cur t fz)->t≠26->w'.heap[k]?=w.heap[k]?
abbrev pz:Array Value:=#[.pointer none,.pointer none,.pointer none,.string ByteArray.empty]
def aoh:(Tryz.prog.info? 26).map (·.size)=some 4:=by kernel_rfl
def aeT {cs:Array Value}(h:w.heap[g]?=some (.cells cs 26 (0,0)))(a:cs.size=4):(loadVar 26 (zA g)).run Tryz.prog w=.ok (.agg cs) w :=
 run_loadVar_row w g 26 26 cs (0,0) _ h Tryz.underlying26 rfl (by rw[a];exact aoh)
def arw(x c:Value)(h:w.heap[g]?=some (.cells pz 26 (0,0))):KN w ((((w.setCell (zA g) x).setCell (zB g 1) c).setCell (zB g 2) (.pointer none)).setCell (zB g 3) (.string ByteArray.empty)):=by
 have f:=Nc w g x c (.pointer none) (.string ByteArray.empty);have r:=VB x c (.pointer none) (.string ByteArray.empty) h;refine⟨f.size,λa v d i=>?_,λk cur t fz e ht=>?_⟩
 .by_cases j:a.block=g
  .obtain⟨b,o,m⟩:=a
   simp only at j;subst j;cases m with
   | some m=>simp[World.cell?,h]at d
   | none =>
     rw[cell_of_row _ b o _ _ _ r];rw[cell_of_row w b o _ _ _ h]at d;rcases a2a o 4 with ho|ho
     .have:o=0\/o=1\/o=2\/o=3:=by omega
      rcases this with rfl|rfl|rfl|rfl
      .simp at d;exact absurd d.symm i
      .simp at d;exact absurd d.symm i
      .simp at d;exact absurd d.symm i
      exact d
     rw[Array.getElem?_eq_none (by simpa using ho)]at d;cases d
  exact(f.cell (p:=a) (World.block_lt_of_cell? w _ d) (by simpa using j)).trans d
 refine f.block k (a0c.1 e).1 ?_;simp;rintro rfl;rw[h]at e;simp at e;exact ht e.2.1.symm
def CdQ(Q:World->Nat->Prop)(t:LB)(w:World)(e:Ending)(w':World):Prop :=
 aB [] w w'/\(((pJ gH t).1≠0/\e=zQ #[.agg pz,.bool true]) \/
 (∃pb L C cb base X,pJ gH t=(0,0)/\jH t=.ok (L,C)/\e=zQ #[.agg #[zP pb,zP cb,.pointer none,.string ByteArray.empty],.bool true]/\Q w' pb/\CfR w w' cb base C X/\w.heap.size<=pb))
def CpQ(Q:World->Nat->Prop)(t:LB)(w:World)(e:Ending)(w':World):Prop :=
 aB [] w w'/\(((pJ gH t).1≠0/\e=zQ #[.pointer none,zI ((pJ gH t).1:Nat),zI ((pJ gH t).2:Nat)]) \/
 (∃pb,pJ gH t=(0,0)/\e=zQ #[zP pb,zI 0,zI 0]/\Q w' pb/\w.heap.size<=pb))
theorem CfR.over{w':World} {cb base:Nat} {X:List (Nat × iY × RR)}(h:CfR w0 w cb base C X)(f:aB [g] w w')(L:g<w0.heap.size)(z:World)(M:z.heap.size<=w0.heap.size)(u:∃cur,w.heap[g]?=some (.cells cur 26 (0,0))):CfR z w' cb base C X:=by
 obtain⟨cur,o⟩:=u;have J:=h.lo;have s:=h.up;have ne:∀(k:Nat) (c:Array Value) (t:TypeId) (fz:Nat × Nat),w.heap[k]?=some (.cells c t fz)->t≠26->k ∉ [g]:=by intro k c t fz d ht r;simp at r;subst r;rw[o]at d;simp at d;exact ht d.2.1.symm
 refine⟨by omega,s,?_,λx i=>?_,h.rc,λx i=>?_,λx i=>?_,λj x i=>?_,h.nd,h.eq⟩
 .obtain⟨vr,D,A⟩:=h.cf
  exact⟨vr,D,A.aC f (ne _ _ _ _ A (by decide))⟩
 .exact(h.rb x i).aC f (ne _ _ _ _ (h.rb x i) (by decide))
 .exact fG (h.Im x i) f (λk d=>by simp at d;omega)
 .exact fG (h.kd x i) f (λk d=>by simp at d;omega)
 obtain⟨a,cap,I,H,v⟩:=h.ifs j x i;refine⟨a,cap,I,H,?_⟩;rcases v with v|⟨B,y,e,l,d⟩
 .exact .inl v
 refine .inr ⟨B,y,e,(f.block B (a0c.1 l).1 (ne _ _ _ _ l (by decide))).trans l,λk m r=>?_⟩;obtain⟨c0,c1,c2,q,c3,hd,hq⟩:=d k m r;refine⟨c0,c1,c2,q,c3,hd,λp u=>?_⟩;obtain⟨n,e,G,F,E⟩:=hq p u;exact⟨n,e,G,F,RN.aY (dX.aC f (λb hb c fz hh=>by simp at hb;subst hb;rw[o]at hh;simp at hh)) E⟩
theorem acC(Q:World->Nat->Prop)(hQ:∀a b p,Q a p->KN a b->Q b p)(hQf:∀a b p,Q a p->aB [] a b->Q b p)(t:LB)(w:World)(ht:t.length<=1048576)(hC:∀w,Calls Tryz.prog 7 #[.string (bs t)] w (CpQ Q t w)) :
 Calls Tryz.prog 5 #[.string (bs t)] w (CdQ Q t w):=by
 have F0:=aj ((aB.refl [] w).alloc (Obj.cells pz 26));have R0:Z_ ((w.alloc (Obj.cells pz 26)).heap[w.heap.size]?=some (.cells pz 26 (0,0))):=bD _ _;have N1:=aj (hC (w.alloc (Obj.cells pz 26)));have HQ:=aj hQ;have HQf:=aj hQf;clear hC hQ hQf;go_in
 go_wp2_with fail
 refine(N1.o).mono ?_;clear N1;rintro e w1 ⟨qh,h1⟩;have F1:=aj (F0.o.trans qh);have R1:(w1.heap[w.heap.size]?=some (.cells pz 26 (0,0))):=(qh.block w.heap.size (by simp) (by simp)).trans R0;have fM:=qh.size;simp at fM;have N2:=aj (akN t w1 ht);have RR1:=aj R1;clear qh F0 R0 R1;rcases h1 with⟨hl,rfl⟩|⟨pb,hl,rfl,hP,Ev⟩
 ·have HL:=aj hl
  generalize hc:pJ gH t=cr at *;obtain⟨n,l⟩:=cr;simp only at hl HL |-;have bJ:((n:Int) != 0)=true:=by rw[a1M];omega
  have hne':((n:Int)==0)=false:=by rw[a0j];omega
  have e1:((n:Int)==(n:Int))=true:=a3d _;have e2:((l:Int)==(l:Int))=true:=a3d _;have HC:=aj hc;clear hl hc;go_wp2_with fail
  refine(N2.o).mono ?_;clear N2;rintro e w2 ⟨og,h2⟩;rw[HC.o]at h2;have R2:(w2.heap[w.heap.size]?=some (.cells pz 26 (0,0))):=(og.block w.heap.size (by omega) (by simp)).trans RR1;have F2:=aj (F1.o.trans og);have hR2:=aj R2;have d0:w2.cell? ⟨w.heap.size,0,none⟩=some (.pointer none):=by simp[World.cell?,R2]
  have d1:w2.cell? ⟨w.heap.size,1,none⟩=some (.pointer none):=by simp[World.cell?,R2]
  have d2:w2.cell? ⟨w.heap.size,2,none⟩=some (.pointer none):=by simp[World.cell?,R2]
  have d3:w2.cell? ⟨w.heap.size,3,none⟩=some (.string ByteArray.empty):=by simp[World.cell?,R2]
  have dz:∀o,w2.frozen? ⟨w.heap.size,o,none⟩=false:=λo=>by simp[World.frozen?,R2]
  clear og R2;rcases h2 with⟨_,rfl⟩|⟨_,_,_,_,_,h,_⟩
  ·simp only
   go_wp2;refine bodyPost_ret (bS rfl _ _ w.heap.size pz rfl (aeT (VB _ _ _ _ hR2) rfl)) rfl ?_;refine⟨F2.o.above (Nc _ _ _ _ _ _) (by simp),.inl ⟨by rw[HC.o];exact HL,rfl⟩⟩
  exfalso
  simp only[Prod.mk.injEq]at h;exact HL.o h.1
 have HL:=aj hl;have P1:=aj hP;clear hl hP;go_wp2_with fail
 refine(N2.o).mono ?_;clear N2;rintro e w2 ⟨og,h2⟩;rw[HL.o]at h2;have R2:(w2.heap[w.heap.size]?=some (.cells pz 26 (0,0))):=(og.block w.heap.size (by omega) (by simp)).trans RR1;have F2:=aj (F1.o.trans og);have P2:=aj (HQf.o _ _ _ P1.o og);have hR2:=aj R2;have d0:w2.cell? ⟨w.heap.size,0,none⟩=some (.pointer none):=by simp[World.cell?,R2]
 have d1:w2.cell? ⟨w.heap.size,1,none⟩=some (.pointer none):=by simp[World.cell?,R2]
 have d2:w2.cell? ⟨w.heap.size,2,none⟩=some (.pointer none):=by simp[World.cell?,R2]
 have d3:w2.cell? ⟨w.heap.size,3,none⟩=some (.string ByteArray.empty):=by simp[World.cell?,R2]
 have dz:∀o,w2.frozen? ⟨w.heap.size,o,none⟩=false:=λo=>by simp[World.frozen?,R2]
 clear og R2;rcases h2 with⟨h,_⟩|⟨L,C,cb,base,X,_,We,rfl,hcf⟩
 ·simp at h
 have HRD:=aj We;have CF:=aj hcf;clear We hcf;unfold tC;go_wp2;refine bodyPost_ret (bS rfl _ _ w.heap.size #[.pointer (some ⟨pb,0,none⟩),.pointer (some ⟨cb,0,none⟩),.pointer none,.string ByteArray.empty] rfl (aeT (VB _ _ _ _ hR2) rfl)) rfl ?_;refine⟨F2.o.above (Nc _ _ _ _ _ _) (by simp),.inr ⟨pb,L,C,cb,base,X,HL,HRD,rfl,HQ.o _ _ _ P2.o (arw _ _ hR2),CF.o.over (Nc _ _ _ _ _ _) (by omega) w (by omega) ⟨_,hR2⟩,?_⟩⟩;simp at Ev;omega
def VV(X:NF)(F:LN)(St:List LN)(nx:LN)(i:Nat):Prop :=
 ∀(u:LN),St[i]?=some u->∀(k c:Nat),F[k]?=some c->∃j v,nx[i*F.length+k]?=some j/\St[j]?=some v/\dW X v=dW X (u++[c])
theorem asR(a:wf X)(St:List LN)(v:LN):(Bi X St v=St.length)\/∃u,St[Bi X St v]?=some u/\dW X u=dW X v:=by grind [Bi,name,dW,UH,BR,alx]
def abY(m:wf X)(w:LN):∀(F:LN) (St:List LN) (nx:LN) (a:List LN) (d:LN),rQ X w F St nx=(true,a,d) ->
 St <+: a/\∃b,d=nx++b/\b.length=F.length/\∀(k c:Nat),F[k]?=some c->∃j v,b[k]?=some j/\a[j]?=some v/\dW X v=dW X (w++[c])
 | [],St,nx,a,d,h=>by grind [rQ]
 | c::F,St,nx,a,d,h=>by
   unfold rQ at h
   split at h
   .simp at h
   rename_i t
   obtain⟨i,b,p,o,n⟩:=abY m w F _ _ a d h;have l:St <+: (if Bi X St (w++[c])=St.length then St++[w++[c]] else St):=by grind
   have q:∃v,(if Bi X St (w++[c])=St.length then St++[w++[c]] else St)[Bi X St (w++[c])]?=some v/\dW X v=dW X (w++[c]):=by grind [asR,rR]
   refine⟨l.trans i,Bi X St (w++[c])::b,by rw[p];simp,by simp[o],?_⟩;intro k s e;cases k with
   | zero=>simp at e;subst e;obtain⟨v,g,f⟩:=q;exact⟨_,v,by simp,rR i g,f⟩
   | succ k=>obtain⟨j,v,g,f,r⟩:=n k s (by simpa using e);exact⟨j,v,by simpa using g,f,r⟩
theorem VV.mono{b:List LN}{f:LN} {i:Nat}(h:VV X F St nx i)(m:i<St.length)(e:St <+: b)(g:nx <+: f):VV X F b f i:=by
 intro u d k c l;have a:St[i]?=some u:=by obtain⟨t,rfl⟩:=e;rw[a0s m]at d;exact d
 obtain⟨j,v,p,o,n⟩:=h u a k c l;exact⟨j,v,rR g p,rR e o,n⟩
def abZ(y:wf X)(F:LN):∀(k i:Nat) (St:List LN) (nx:LN) (b:List LN) (e:LN),yz X F k i St nx=(true,b,e)->i+k=41->WB St->nx.length=i*F.length->i<=St.length->(∀a,a<i->VV X F St nx a) ->
 St <+: b/\e.length=b.length*F.length/\∀a,a<b.length->VV X F b e a
 | 0,i,St,nx,b,e,h,N,s,z,A,x=>by have:=s.1;omega
 | k+1,i,St,nx,b,e,h,N,s,z,A,x=>by
   unfold yz at h
   split at h
   .grind
   rename_i w p
   have R:=(a0d.1 p).1
   split at h
   .simp at h
   rename_i m d f
   obtain⟨n,P,r,E,D⟩:=abY y w F St nx m d f;have l:=aaT X w i F St nx s p;rw[f]at l;have O:=n.length_le;have q:nx <+: d:=by rw[r];exact a1t _ _
   obtain⟨I,H,G⟩:=abZ y F k (i+1) m d b e h (by omega) l (by rw[r,a0p,E,z,a0J];omega) (by omega) (λa C=>by
    by_cases g:a<i
    .exact(x a g).mono (by omega) n q
    have:a=i:=by omega
    subst this;intro u t o c B;have:u=w:=by rw[rR n p]at t;simpa using t.symm
    subst this;obtain⟨j,v,M,L,J⟩:=D o c B;refine⟨j,v,?_,L,J⟩;rw[r,a0K (by omega),show a*F.length+o-nx.length=o by omega];exact M)
   exact⟨n.trans I,H,G⟩
def Df(b:wf X)(h:oC X F=(true,St,nx)):St[0]?=some []/\nx.length=St.length*F.length/\St.length<=40/\∀i,i<St.length->VV X F St nx i:=by have a:=aaU X F;rw[h]at a;obtain⟨e,d,c⟩:=abZ b F 41 0 [[]] [] St nx h rfl WB.one (by simp) (by simp) (λi f=>by omega);exact⟨rR e rfl,d,a.1,c⟩
def VW(S:LN):∀(k n:Nat),gP S n <+: gP S (n+k)
 | 0,n=>a0N _
 | k+1,n=>by
   refine(VW S k n).trans ?_;show gP S (n+k) <+: gP S (n+k+1);simp only[gP]
   split
   .exact a1t _ _
   exact a0N _
def QT(S:LN)(b:Nat)(hb:b<256):∃f,(gP S 256)[kU S (gP S b) b]?=some f/\∀s∈S,s.testBit f=s.testBit b:=by
 have d:gP S (b+1) <+: gP S 256:=by have:=VW S (255-b) (b+1);rw[show b+1+(255-b)=256 by omega]at this;exact this
 by_cases h:kU S (gP S b) b<(gP S b).length
 .have g:=List.findIdx_getElem (xs:=gP S b) (p:=λf=>!(apart S f b)) (w:=h)
  have e:gP S b <+: gP S 256:=by have:=VW S (256-b) b;rw[show b+(256-b)=256 by omega]at this;exact this
  refine⟨_,rR e (a0a h),?_⟩;intro s c;have a:apart S (gP S b)[kU S (gP S b) b] b=false:=by grind [apart,gP,kU]
  unfold apart at a;rw[List.any_eq_false]at a;have:=a s c;simpa using this
 have he:kU S (gP S b) b=(gP S b).length:=Nat.le_antisymm (adD _ _ _) (by omega);refine⟨b,rR d ?_,λs _=>rfl⟩;simp only[gP];rw[he];simp
def clB(e:RX)(b:Nat):Nat:=(xq e).getD b 0
def af0(e:RX)(b:Nat)(hb:b<256):clB e b=kU (dB e) (gP (dB e) b) b:=by simp[clB,xq,Xa,hb]
structure AU(w:World)(g o:Nat)(n:Nat)(cl:LN)(va vn:Value)(acc:List Bool)(nx:LN):Prop where
 c0:w.cell? (zB g o)=some (zI n)
 cc:∀c,c<256->w.cell? (zB g (o+1+c))=some (.int .u8 (cl.getD c 0))
 ca:w.cell? (zB g (o+257))=some va
 cn:w.cell? (zB g (o+258))=some vn
 ra:∃a cap,va=.slice a acc.length cap/\∀(j:Nat) (h:j<acc.length),∃g off,a=some (zB g off)/\g<w.heap.size/\w.cell? (zB g (off+j))=some (.bool acc[j])
 rn:NL .i64 w vn nx
 n1:n<=256
 xs:∀x∈nx,x<=1000000
 cs:∀c,c<256->cl.getD c 0<=255
 ln:nx.length<=1000000/\acc.length<=1000000
theorem AU.drewN{o:Nat} {cl:LN} {b a:Value} {acc:List Bool}(k:Nat)(h:AU w g o n cl b a acc nx):AU (w.drewN k) g o n cl b a acc nx:=⟨h.c0,h.cc,h.ca,h.cn,h.ra,h.rn,h.n1,h.xs,h.cs,h.ln⟩
def aiL {e:RX}(ho:tL e)(h:(eu e).1=true):(eu e).2.1.length<=40/\(eu e).2.2.length=(eu e).2.1.length*(kZ e).length/\(kZ e).length<=256/\(∀x∈(eu e).2.2,x<(eu e).2.1.length)/\(xq e).length=256/\(∀b,b<256->(xq e).getD b 0<(kZ e).length)/\1<=(eu e).2.1.length:=by
 obtain⟨St,nx,hE⟩:∃St nx,eu e=(true,St,nx):=⟨(eu e).2.1,(eu e).2.2,by rw[<-h]⟩;have c:oC (bn e) (kZ e)=(true,St,nx):=hE;have r:=(rF ho).1.1;obtain⟨s1,s2,k,i⟩:=Df r c;have hF:(kZ e).length<=256:=(xW (dB e) 256).1;rw[hE];refine⟨k,s2,hF,?_,adN _ _,?_,(a0d.1 s1).1⟩
 .intro x m
  obtain⟨p,n⟩:=a1T m;have l:=(a0d.1 n).1;have g:0<(kZ e).length:=by grind
  have d:p / (kZ e).length<St.length:=by rw[Nat.div_lt_iff_lt_mul g,<-s2];exact l
  have o:p % (kZ e).length<(kZ e).length:=a3i _ g;obtain⟨j,v,t,s,_⟩:=i (p / (kZ e).length) d _ (a0a d) (p % (kZ e).length) _ (a0a o);have:p / (kZ e).length*(kZ e).length+p % (kZ e).length=p:=by rw[a1b];exact Nat.div_add_mod _ _
  rw[this]at t;have a:x=j:=by grind
  rw[a];exact(a0d.1 s).1
 intro b hb;obtain⟨f,q,_⟩:=QT (dB e) b hb;have:=af0 e b hb;unfold clB at this;rw[this];exact(a0d.1 q).1
end
section
variable {l:List bX} {b i k nr nt r rb sb:Nat} {L t x y:LB} {C:List CR} {s:CS} {m:mP} {A:LN} {w w':World} {v:Value} {vs:List (List Value)} {V:V6} {a:Act}
structure ab0(N:List Int)(i c:Nat):Prop where
 b:∀j,i<=j->0<=N.getD j (-1)->N.getD j (-1)<c
 d:∀j j',i<=j->j<j'->0<=N.getD j (-1)->0<=N.getD j' (-1)->N.getD j' (-1)<N.getD j (-1)
 s:∀k:Nat,k<c->∃j,i<=j/\N.getD j (-1)=(k:Int)
def QU(l:List bX):∀i (R:List Bool) (N:List Int) (c:Nat),i<=l.length->N.length=l.length->ab0 N i c->∃y,ab0 (mG l i R N c) 0 y
 | 0,R,N,c,_,_,h=>⟨c,h⟩
 | i+1,R,N,c,z,u,h=>by
   have f:∀(v:Int) (j:Nat),j≠i->(N.set i v).getD j (-1)=N.getD j (-1):=λv j m=>getD_set_ne _ _ _ _ _ (λe=>m e.symm)
   have p:∀v:Int,(N.set i v).getD i (-1)=v:=λv=>yg _ _ _ _ (by omega)
   rw[mG]
   split
   .obtain⟨x,w⟩:∃x,l[i]?=some x:=⟨l[i],a0a (by omega)⟩
    simp only[w];refine QU l i _ (N.set i (c:Int)) (c+1) (by omega) (by simp[u]) ⟨?_,?_,?_⟩
    .intro j m a
     by_cases e:j=i
     .subst e;rw[p];omega
     rw[f _ _ e]at a |-;have:=h.b j (by omega) a;omega
    .intro j n m g a o
     have r:n≠i:=by omega
     rw[f _ _ r]at o |-
     by_cases e:j=i
     .subst e;rw[p]
      exact h.b n (by omega) o
     rw[f _ _ e]at a |-;exact h.d j n (by omega) g a o
    intro k t
    by_cases e:k=c
    .grind
    obtain⟨j,m,q⟩:=h.s k (by omega);exact⟨j,by omega,by rw[f _ _ (by omega)];exact q⟩
   refine QU l i R (N.set i (-1)) c (by omega) (by simp[u]) ⟨?_,?_,?_⟩
   .intro j m a
    by_cases e:j=i
    .grind
    rw[f _ _ e]at a |-;exact h.b j (by omega) a
   .intro j n m g a o
    have r:n≠i:=by omega
    rw[f _ _ r]at o |-
    by_cases e:j=i
    .grind
    rw[f _ _ e]at a |-;exact h.d j n (by omega) g a o
   intro k t;obtain⟨j,m,q⟩:=h.s k t;exact⟨j,by omega,by rw[f _ _ (by omega)];exact q⟩
def Mh(l:List bX)(first:Nat):∃c,ab0 (numsOf l first) 0 c:=by
 unfold numsOf;refine QU l l.length _ _ 0 (a0b _) (by simp) ⟨?_,?_,?_⟩
 .grind
 .grind
 intro k a;omega
def VY(d:GL l)(first:Nat):∀i (R:List Bool) (N:List Int) (c:Nat),i<=l.length->N.length=l.length->(∀j,first < j->j<i->R.getD j false=false)->(∀j,first < j->i<=j->N.getD j (-1)<0)->∀j,first < j->(mG l i R N c).getD j (-1)<0
 | 0,R,N,c,_,_,_,h=>λj a=>h j a (by omega)
 | i+1,R,N,c,q,g,n,h=>by
   rw[mG]
   split
   .rename_i m
    obtain⟨x,b⟩:∃x,l[i]?=some x:=⟨l[i],a0a (by omega)⟩;have r:i<=first:=by grind
    simp only[b];have k:=d i (by omega);have p:l[i]'(by omega)=x:=by rw[a0a (by omega)]at b;exact Option.some.inj b
    rw[p]at k;refine VY d first i _ _ _ (by omega) (by simp[g]) (λj a f=>by omega) (λj a o=>?_)
    rw[getD_set_ne _ _ _ _ _ (by omega)];exact h j a (by omega)
   refine VY d first i _ _ _ (by omega) (by simp[g]) (λj a f=>n j a (by omega)) (λj a o=>?_)
   by_cases e:j=i
   .grind
   grind
def QW(b:GL l)(first:Nat):∀j,first < j->(numsOf l first).getD j (-1)<0:=by
 unfold numsOf;refine VY b first l.length _ _ 0 (a0b _) (by simp) (λj c a=>?_) (λj c a=>?_)
 .grind
 grind
structure Nr(l:List bX)(N:List Int)(i:Nat)(out:List bX):Prop where
 a:∀(j:Nat) (x:bX),i<=j->l[j]?=some x->0<=N.getD j (-1)->out[(N.getD j (-1)).toNat]?=some (Bq N x)
 s:∀k:Nat,k<out.length->∃j,i<=j/\N.getD j (-1)=(k:Int)
 b:∀j,i<=j->0<=N.getD j (-1)->N.getD j (-1)<out.length
theorem Gy(N:List Int)(j:Nat)(h:j<N.length):N.getD j 0=N.getD j (-1):=by simp[List.getD,h]
def Dh {N:List Int} {c:Nat}(n:ab0 N 0 c)(t:N.length=l.length):∀i out,i<=l.length->Nr l N i out->Nr l N 0 (nY l N i out)
 | 0,out,_,h=>h
 | i+1,out,z,h=>by
   rw[nY,Gy N i (by omega)]
   split
   .rename_i B
    refine Dh n t i out (by omega) ⟨?_,?_,?_⟩
    .intro j x m q g
     by_cases e:j=i
     .subst e;omega
     exact h.a j x (by omega) q g
    .intro k o
     obtain⟨j,m,f⟩:=h.s k o;exact⟨j,by omega,f⟩
    intro j m g
    by_cases e:j=i
    .subst e;omega
    exact h.b j (by omega) g
   rename_i A
   obtain⟨x,q⟩:∃x,l[i]?=some x:=⟨l[i],a0a (by omega)⟩;simp only[q];have g:0<=N.getD i (-1):=by omega
   have hlen:N.getD i (-1)=(out.length:Int):=by
    rcases Int.lt_trichotomy (N.getD i (-1)) (out.length:Int) with r|r|r
    .obtain⟨k,o⟩:=a2L g
     obtain⟨j,m,f⟩:=h.s k (by omega);have:=n.d i j (by omega) (by omega) g (by rw[f];omega);omega
    .exact r
    obtain⟨j,_,f⟩:=n.s out.length (by have:=n.b i (by omega) g;omega);rcases Nat.lt_trichotomy j i with e|e|e
    .have:=n.d j i (by omega) e (by rw[f];omega) g
     omega
    .subst e;omega
    have:=h.b j (by omega) (by rw[f];omega);omega
   refine Dh n t i _ (by omega) ⟨?_,?_,?_⟩
   .intro j y m v p
    by_cases e:j=i
    .grind
    have u:=h.a j y (by omega) v p;have w:=(a0d.1 u).1;rw[a0s w];exact u
   .intro k o
    simp at o
    by_cases e:k=out.length
    .grind
    obtain⟨j,m,f⟩:=h.s k (by omega);exact⟨j,by omega,f⟩
   intro j m p;simp only[a0p,a0X]
   by_cases e:j=i
   .subst e;omega
   have:=h.b j (by omega) p;omega
def GXi(nr nt:Nat)(x:bX):Prop:=(x.op=0/\x.x=0/\x.a=0/\x.b=0)\/(x.op=1/\x.x<nr/\x.b=0)\/(x.op=2/\x.x<nt)
def Mi(nr nt:Nat)(l:List bX):Prop:=∀x∈l,GXi nr nt x
theorem Mi.snoc {x:bX}(h:Mi nr nt l)(b:GXi nr nt x):Mi nr nt (l++[x]):=by
 intro y a;rcases a0e.1 a with a|a
 .exact h y a
 grind
def QY(h:Mi nr nt l)(y n:Nat):∀q:List (Nat × Bool),(∀c∈q,c.1<nt)->Mi nr nt (bR q y n l).2
 | [],_=>h
 | c::r,hq=>by
   rw[bR];refine(QY h y n r (λx a=>hq x (by simp[a]))).snoc ?_;have:=hq c (by simp)
   split<;>exact .inr (.inr ⟨rfl,this⟩)
theorem XD {q:List (List (Nat × Bool))}(hq:∀x∈q,∀c∈x,c.1<nt)(k:Nat):∀c∈q.getD k [],c.1<nt:=by grind
def aiM {rec:Nat->Nat->List bX->Nat × List bX}(a:LN)(b:∀c∈a,∀d l,Mi nr nt l->Mi nr nt (rec c d l).2)(C:List CR) {q:List (List (Nat × Bool))}(hq:∀x∈q,∀c∈x,c.1<nt)(d:Nat)(h:Mi nr nt l):∀K:LN,(∀c∈K,c∈a)->Mi nr nt (ji rec C q d l K).2.2
 | [],_=>h
 | c::r,e=>by rw[ji];exact QY (b c (e c (by simp)) _ _ (aiM a b C hq d h r (λx f=>e x (by simp[f])))) _ _ _ (XD hq c)
def aiN {q:List (List (Nat × Bool))}(hq:∀x∈q,∀c∈x,c.1<nt)(first:Nat)(h:Mi nr nt l):∀Z:List (Nat × Nat),Mi nr nt (lS q first l Z).2
 | []=>h
 | z::r=>by rw[lS];exact QY (aiN hq first h r) _ _ _ (XD hq z.1)
def ab1(C:List CR) {q:List (List (Nat × Bool))}(hq:∀x∈q,∀c∈x,c.1<nt):∀f r d l,r<C.length->Mi C.length nt l->Mi C.length nt (ig C q f r d l).2
 | 0,_,_,_,_,h=>h
 | f+1,r,d,l,b,h=>by rw[ig];refine aiN hq _ (Mi.snoc ?_ (.inr (.inl ⟨rfl,b,rfl⟩))) _;refine aiM (kids C r) (λc a d l e=>ab1 C hq f c d l ?_ e) C hq d h (kids C r) (λc a=>a);unfold kids at a;rw[List.mem_filter,a2b]at a;exact a.1
def an8(i:GL l)(w:Mi nr nt l)(first:Nat)(E:first < l.length):∀k (h:k<(mH l first).length),stands nr nt (mH l first).length k (mH l first)[k]=true:=by
 obtain⟨c,q⟩:=Mh l first
 have hlen:=Eh l first
 have u:=IY i first
 have B:=QW i first
 have n:Nr l (numsOf l first) 0 (mH l first):=by
  refine Dh q hlen (first + 1) [] (by omega) ⟨λj x m _ f=>?_,λk g=>by simp at g,λj m f=>?_⟩
  .grind
  grind
 generalize numsOf l first=N at *
 generalize mH l first=out at *
 intro k g;obtain⟨j,_,v⟩:=n.s k g;have m:j<N.length:=by grind
 have p:l[j]?=some l[j]:=a0a (by omega);have ho:=n.a j _ (by omega) p (by omega);rw[v,a2A,a0a g]at ho;rw[Option.some.inj ho];have z:=i j (by omega);have r:=w l[j] (a0u _);obtain⟨s1,s2⟩:=u j _ p (by rw[Gy N j m];omega);generalize l[j]=y at *;obtain⟨op,C,a,b⟩:=y;simp only[GXi]at r;simp only at z s1 s2;have e:∀t,t<j->0<=N.getD t 0->k<(N.getD t 0).toNat/\(N.getD t 0).toNat<out.length:=by intro t ht f;rw[Gy N t (by omega)]at f |-;have o:=q.d t j (by omega) ht f (by omega);have F:=n.b t (by omega) f;omega
 rcases r with⟨rfl,rfl,rfl,rfl⟩|⟨rfl,o,rfl⟩|⟨rfl,o⟩
 .simp[Bq,stands]
 .grind [Bq,stands]
 have A:=e a (by omega) (s1 (by omega));have hb:=e b (by omega) (s2 rfl);simp only[Bq,stands];generalize (N.getD a 0).toNat=D at *;generalize (N.getD b 0).toNat=tb at *;simp[o,A,hb]
def Gz:∀(n:Nat) (l:LN),l.Nodup->(∀x∈l,x<n)->l.length<=n
 | 0,l,_,h=>by
   cases l with
   | nil=>simp
   | cons a r=>have:=h a (by simp);omega
 | n+1,l,hd,h=>by
   by_cases c:n∈l
   .have d:=Gz n (l.erase n) (hd.erase n) (λx b=>by
     have g:=h x (List.mem_of_mem_erase b);have f:x≠n:=λe=>by subst e;exact hd.not_mem_erase b
     omega)
    rw[List.length_erase_of_mem c]at d;omega
   have d:=Gz n l hd (λx b=>by
    have g:=h x b;have f:x≠n:=λe=>by subst e;exact c b
    omega)
   omega
theorem Jd(y n:Nat)(l:List bX):∀q:List (Nat × Bool),(bR q y n l).2.length=l.length+q.length
 | []=>rfl
 | c::r=>by simp[bR,Jd y n l r];omega
def GA(C:List CR)(q:List (List (Nat × Bool))):Nat->Nat->Nat
 | 0,_=>0
 | f+1,r=>1+((kids C r).map λc=>GA C q f c+2*(q.getD c []).length).sum
def aeB {rec:Nat->Nat->List bX->Nat × List bX} {g:Nat->Nat}(a:∀c d l,(rec c d l).2.length=l.length+g c)(C:List CR)(q:List (List (Nat × Bool)))(d:Nat)(l:List bX):∀K:LN,(ji rec C q d l K).2.2.length=l.length+(K.map λc=>g c+(q.getD c []).length).sum/\(ji rec C q d l K).2.1.length=K.length
 | []=>⟨by simp[ji],rfl⟩
 | c::r=>by obtain⟨e,b⟩:=aeB a C q d l r;rw[ji];refine⟨?_,by simp[b]⟩;show(bR _ _ _ _).2.length=_;rw[Jd,a,e];simp only[a0E,a0Y];omega
theorem aeC(q:List (List (Nat × Bool)))(first:Nat)(l:List bX):∀(K a:LN),a.length=K.length->(lS q first l (K.zip a)).2.length=l.length+(K.map λc=>(q.getD c []).length).sum
 | [],_,_=>by simp[lS]
 | c::r,[],h=>by simp at h
 | c::r,b::a,h=>by
   have d:=aeC q first l r a (by simpa using h)
   rw[List.zip_cons_cons,lS,Jd,d];simp only[a0E,a0Y];omega
theorem VZ(f g:Nat->Nat):∀K:LN,(K.map f).sum+(K.map g).sum=(K.map λc=>f c+g c).sum
 | []=>rfl
 | c::r=>by have:=VZ f g r;simp only[a0E,a0Y];omega
theorem aeD(C:List CR)(q:List (List (Nat × Bool))):∀f r d l,(ig C q f r d l).2.length=l.length+GA C q f r
 | 0,_,_,l=>by simp[ig,GA]
 | f+1,r,d,l=>by
   obtain⟨g,e⟩:=aeB (aeD C q f) C q d l (kids C r);rw[ig];generalize ji (ig C q f) C q d l (kids C r)=x at *;show(lS _ _ _ _).2.length=_;rw[aeC q _ _ (kids C r) x.2.1 e,a0p,g,GA];have b:=VZ (λc=>GA C q f c+(q.getD c []).length) (λc=>(q.getD c []).length) (kids C r);have a:(kids C r).map (λc=>GA C q f c+2*(q.getD c []).length)=(kids C r).map λc=>GA C q f c+(q.getD c []).length+(q.getD c []).length:=by congr 1;funext c;omega
   rw[a,<-b];simp only[a0X];omega
def XE(C:List CR)(r:Nat):(kids C r).Nodup:=by unfold kids;exact List.Pairwise.filter _ List.nodup_range
def kX{c:Nat}(h:c∈kids C r):c<C.length/\par C c=some r:=by grind [kids]
def Uq(C:List CR)(K:LN)(h:K.Nodup):(K.flatMap (kids C)).Nodup:=by unfold List.Nodup at *;rw[List.pairwise_flatMap];refine⟨λa _=>XE C a,h.imp ?_⟩;intro a b d x g y f e;subst e;have i:=(kX g).2;have c:=(kX f).2;rw[i]at c;exact d (Option.some.inj c)
def af1(f:Nat->Nat)(m:Nat):∀K:LN,(∀c∈K,f c<=m)->(K.map f).sum<=K.length*m
 | [],_=>by simp
 | c::r,h=>by have d:=af1 f m r (λx a=>h x (by simp[a]));have b:=h c (by simp);simp only[a0E,a0Y,a0r,a0J];omega
theorem ab2(C:List CR)(g:Nat->Nat):∀K:LN,(K.map λr=>1+((kids C r).map g).sum).sum=K.length+((K.flatMap (kids C)).map g).sum
 | []=>rfl
 | c::r=>by have:=ab2 C g r;simp only[a0E,a0Y,a1i,a0P,a1Y,a0r];omega
def aiO(hC:C.length<=16) {q:List (List (Nat × Bool))}(hq:∀x∈q,x.length<=4):∀(f:Nat) (K:LN),K.Nodup->(∀c∈K,c<C.length)->(K.map (GA C q f)).sum<=f*144
 | 0,K,_,_=>by have:=af1 (GA C q 0) 0 K (λc _=>by simp[GA]);simpa using this
 | f+1,K,hd,d=>by
   have k:=aiO hC hq f (K.flatMap (kids C)) (Uq C K hd) (λc a=>by obtain⟨r,_,b⟩:=a1l.1 a;exact(kX b).1)
   have i:=Gz C.length K hd d;have g:=Gz C.length (K.flatMap (kids C)) (Uq C K hd) (λc a=>by obtain⟨r,_,b⟩:=a1l.1 a;exact(kX b).1)
   have e:(K.map (GA C q (f+1)))=K.map λr=>1+((kids C r).map λc=>GA C q f c+2*(q.getD c []).length).sum:=rfl
   rw[e,ab2 C (λc=>GA C q f c+2*(q.getD c []).length),<-VZ];have j:=af1 (λc=>2*(q.getD c []).length) 8 (K.flatMap (kids C)) (λc _=>by
    by_cases h:c<q.length
    .grind
    simp[List.getD,h])
   rw[a0J];omega
def aiP(hC:C.length<=16)(a:0<C.length) {q:List (List (Nat × Bool))}(hq:∀x∈q,x.length<=4):(ig C q 6 0 0 [⟨0,0,0,0⟩]).2.length<=865:=by rw[aeD];have:=aiO hC hq 6 [0] (by simp) (by simpa using a);simp at this |-;omega
def Mj(l:List bX)(first:Nat):∀i (R:List Bool) (N:List Int) (c:Nat),i<=first->0<=N.getD first (-1)->0<=(mG l i R N c).getD first (-1)
 | 0,R,N,c,_,h=>h
 | i+1,R,N,c,a,h=>by
   rw[mG]
   split
   .split
    .exact Mj l first i _ _ _ (by omega) (by rw[getD_set_ne _ _ _ _ _ (by omega)];exact h)
    exact h
   exact Mj l first i _ _ _ (by omega) (by rw[getD_set_ne _ _ _ _ _ (by omega)];exact h)
def Bp(l:List bX)(first:Nat)(b:first < l.length):∀i (R:List Bool) (N:List Int) (c:Nat),first < i->i<=l.length->N.length=l.length->R.length=l.length->R.getD first false=true->0<=(mG l i R N c).getD first (-1)
 | 0,R,N,c,h,_,_,_,_=>by omega
 | i+1,R,N,c,h,g,f,a,d=>by
   rw[mG]
   by_cases e:first=i
   .subst e
    rw[a0m d,a0a b];exact Mj l first first _ _ _ (a0b _) (by rw[yg _ _ _ _ (by omega)];omega)
   split
   .rw[a0a (by omega)]
    refine Bp l first b i _ _ _ (by omega) (by omega) (by simp[f]) (by split;exact a;split;simp[a];simp[a]) ?_
    split
    .exact d
    grind
   exact Bp l first b i _ _ _ (by omega) (by omega) (by simp[f]) a d
theorem QZ(l:List bX)(N:List Int):∀i out,(nY l N i out).length<=out.length+i
 | 0,out=>by simp[nY]
 | i+1,out=>by
   rw[nY]
   split
   .have:=QZ l N i out;omega
   split
   .rename_i x _
    have:=QZ l N i (out++[Bq N x]);simp only[a0p,a0X]at this;refine a0h this (by omega)
   omega
def akP(e:GL l)(first:Nat)(a:first < l.length):1<=(mH l first).length/\(mH l first).length<=l.length:=by
 refine⟨?_,?_⟩
 .obtain⟨c,i⟩:=Mh l first
  have hlen:=Eh l first
  have m:=QW e first
  have d:0<=(numsOf l first).getD first (-1):=by unfold numsOf;exact Bp l first a l.length _ _ 0 a (a0b _) (by simp) (by simp) (yg _ _ _ _ (by simpa using a))
  have h:Nr l (numsOf l first) 0 (mH l first):=by
   refine Dh i hlen (first + 1) [] (by omega) ⟨λj x g _ d=>?_,λk f=>by simp at f,λj g d=>?_⟩
   .grind
   grind
  have:=h.b first (by omega) d
  omega
 grind [QZ,numsOf,mH]
def Steps(C:List CR):Prop:=(∀c,C[0]?=some c->c.d=0/\c.rc≠[45])/\∀(i:Nat) (a b:CR),C[i]?=some a->C[i+1]?=some b->1<=b.d/\b.d<=a.d+1
def Pg:∀(C:List CR) (i:Nat) (e:Nat),lD C i e=0->(∀c,C[0]?=some c->(i=0->c.d=0/\c.rc≠[45])/\(i≠0->1<=c.d/\c.d<=e+1))/\∀(k:Nat) (a b:CR),C[k]?=some a->C[k+1]?=some b->1<=b.d/\b.d<=a.d+1
 | [],i,e,_=>⟨by simp,by simp⟩
 | c::r,i,e,h=>by
   unfold lD at h;cases hb:(!(if (i==0)=true then nW c else jN c.d e)||decide (16<=i))
   .rw[hb]at h
    simp only[a0A,a0I]at h;have f:(if (i==0)=true then nW c else jN c.d e)=true:=by grind
    obtain⟨n,m⟩:=Pg r (i+1) c.d h;refine⟨λx j=>?_,λk a b l g=>?_⟩
    .grind [nW,jN]
    grind
   rw[hb]at h;simp at h
def ab3(h:Steps C):∀(i:Nat) (c:CR),C[i]?=some c->∀e,e<=c.d->∃j x,j<=i/\C[j]?=some x/\x.d=e
 | 0,c,a,e,he=>by have:=(h.1 c a).1;exact⟨0,c,a0b _,a,by omega⟩
 | i+1,c,a,e,he=>by
   by_cases m:e=c.d
   .grind
   have f:i<C.length:=by have:=(a0d.1 a).1;omega
   have l:=(h.2 i C[i] c (a0a f) a).2;obtain⟨j,x,k,g,b⟩:=ab3 h i C[i] (a0a f) e (by omega);exact⟨j,x,by omega,g,b⟩
def aeE {d:Nat}:∀(i j:Nat) (x:CR),j<i->C[j]?=some x->x.d+1=d->∃p,nQ C d i=some p
 | 0,j,x,h,_,_=>by omega
 | i+1,j,x,h,b,hd=>by
   rw[nQ]
   by_cases e:(C[i]?.map λc=>c.d+1)=some d
   .rw[a0m e];exact⟨i,rfl⟩
   rw[a0n e];refine aeE i j x ?_ b hd;rcases a2a j i with a|a
   .exact a
   grind
def asS(h:Steps C)(i:Nat)(a:i+1<C.length):∃p,par C (i+1)=some p:=by unfold par;rw[a0a a];have f:=h.2 i C[i] C[i+1] (a0a (by omega)) (a0a a);obtain⟨j,x,e,c,b⟩:=ab3 h i C[i] (a0a (by omega)) (C[i+1].d-1) (by omega);exact aeE (i+1) j x (by omega) c (by omega)
structure Ph(s:CS):Prop where
 n:∀x∈s.n,Bo x
 c:∀x∈s.c,x.length<41
 a:∀x∈s.a,Gr x
 xa:s.x.length=s.a.length
 t:∀t∈s.t,Lu s.n.length s.c.length s.a.length t
 q:∀l∈s.q,∀c∈l,c.1<s.t.length
 ql:∀l∈s.q,l.length<=4
theorem Lu.mono {d f g a b c:Nat} {t:jd}(h:Lu d f g t)(l:d<=a)(j:f<=b)(i:g<=c):Lu a b c t:=by
 refine⟨by have:=h.n;omega,h.k,?_⟩;have:=h.x
 split<;>rename_i e<;>simp only[e,a0G,a0I]at this<;>omega
def aiQ(L:List LB)(x:LB):L.length<=(l9 L x).length:=by unfold l9;split<;>simp
theorem aiR(L:List jd)(x:jd):L.length<=(pE L x).length:=by unfold pE;split<;>simp
def Za(L:List LB)(x:LB):iL L x<(l9 L x).length:=by grind [Eg,l9]
def asT(L:List jd)(x:jd):C6 L x<(pE L x).length:=by grind [alT,pE]
def aeF {L:List LB}(h:y∈l9 L x):y∈L\/y=x:=by grind [l9]
def V5 {L:List jd} {x y:jd}(h:y∈pE L x):y∈L\/y=x:=by grind [pE]
theorem aeG {re:LB->Nat} {bI:LB->gz}(p:∀v,re v=0->Gr (bI v)){s1:CS} {t:jd}(h:Ph s) {m:CM}(i:Qf m)(he:nP re bI s m=some (t,s1)) :
 Ph { s1 with t:=pE s1.t t }/\s1.t=s.t/\s1.q=s.q:=by
 have g:=aiQ s.n m.1;have j:=aiQ s.c m.2.2;have on:∀x∈l9 s.n m.1,Bo x:=λx d=>by
  rcases aeF d with e|rfl
  .exact h.n x e
  exact⟨by have:=xO i.name;omega,i.name⟩
 have k:∀x∈l9 s.c m.2.2,x.length<41:=λx d=>by
  rcases aeF d with e|rfl
  .exact h.c x e
  have:=i.val;omega
 have f:∀t,∀l∈s.q,∀c∈l,c.1<(pE s.t t).length:=λt l o c j=>by have:=h.q l o c j;have:=aiR s.t t;omega
 unfold nP at he
 split at he
 .split at he
  .rename_i d
   cases he
   refine⟨⟨on,h.c,h.a,h.xa,λy b=>?_,f _,h.ql⟩,rfl,rfl⟩;rcases V5 b with e|rfl
   .exact(h.t y e).mono g (a0b _) (a0b _)
   exact⟨Za _ _,by simp,by simp only[a0G];rw[<-h.xa];exact d⟩
  rename_i d
  split at he
  .rename_i r
   cases he
   refine⟨⟨on,h.c,λy b=>?_,by simp[h.xa],λy b=>?_,f _,h.ql⟩,rfl,rfl⟩
   .rcases a0e.1 b with e|e
    .exact h.a y e
    rw[a0w.1 e];exact p _ r
   rcases V5 b with e|rfl
   .exact(h.t y e).mono g (a0b _) (by simp)
   exact⟨Za _ _,by simp,by simp only[a0G,a0p,a0X];have:=Eg s.x m.2.2;have:=h.xa;omega⟩
  cases he
 cases he
 refine⟨⟨on,k,h.a,h.xa,λy b=>?_,f _,h.ql⟩,rfl,rfl⟩;rcases V5 b with e|rfl
 .exact(h.t y e).mono g j (a0b _)
 exact⟨Za _ _,by simp,by simp only[Nat.zero_ne_one,a0I];exact Za _ _⟩
theorem ab4 {re:LB->Nat} {bI:LB->gz}(a:∀v,re v=0->Gr (bI v)):∀(M:List CM) (s:CS) (acc:List (Nat × Bool)) {l:List (Nat × Bool)} {s1:CS},Ph s->(∀m∈M,Qf m)->(∀c∈acc,c.1<s.t.length)->nu re bI s acc M=.ok (l,s1)->Ph s1/\(∀c∈l,c.1<s1.t.length)/\l.length=acc.length+M.length
 | [],s,acc,l,s1,h,_,j,e=>by grind [nu]
 | m::r,s,acc,l,s1,h,b,j,e=>by
   rw[nu]at e
   split at e
   .cases e
   rename_i t s2 ht
   obtain⟨k,o,n⟩:=aeG a h (b m (by simp)) ht;obtain⟨k1,k2,f⟩:=ab4 a r _ _ k (λx g=>b x (by simp[g])) (λc i=>by
    rcases a0e.1 i with d|d
    .grind [aiR,pE]
    rw[a0w.1 d];exact asT _ _) e
   exact⟨k1,k2,by rw[f];simp;omega⟩
theorem V7 {re:LB->Nat} {bI:LB->gz}(m:∀v,re v=0->Gr (bI v)):∀(C:List CR) (s:CS) (i k:Nat) {s1:CS},Ph s->CSB s k->(∀c∈C,xN c)->pread re bI s i C=.ok s1->Ph s1/\CSB s1 (k+4*C.length)/\s1.q.length=s.q.length+C.length
 | [],s,i,k,s1,h,hb,_,e=>by simp_all[pread,hb]
 | c::r,s,i,k,s1,h,hb,hC,e=>by
   rw[pread]at e;have j:=hC c (by simp)
   split at e
   .cases e
   rename_i l s2 g
   obtain⟨b,u,p⟩:=ab4 m c.ifs s [] h j.ifs (by simp) g;obtain⟨b1,b2,z⟩:=abV c.ifs s [] k hb g;have y:=j.ifl;simp at p;have w:CSB { s2 with q:=s2.q++[l] } (k+4):=⟨by have:=b1.n;simp only;omega,by have:=b1.c;simp only;omega,by have:=b1.x;simp only;omega,by have:=b1.a;simp only;omega,by have:=b1.t;simp only;omega⟩;obtain⟨k1,k2,o⟩:=V7 m r { s2 with q:=s2.q++[l] } (i+1) (k+4) ⟨b.n,b.c,b.a,b.xa,b.t,λx f=>by
    rcases a0e.1 f with d|d
    .exact b.q x d
    .rw[a0w.1 d];exact u,λx f=>by
    rcases a0e.1 f with d|d
    .exact b.ql x d
    rw[a0w.1 d];omega⟩ w (λx f=>hC x (by simp[f])) e
   refine⟨k1,?_,?_⟩
   .grind
   rw[o];simp[b2];omega
def af2 {x:Int} {y:Nat}(h:-1<=x/\x<=99999)(a:y<100000):uk x y<100000:=by unfold uk;split<;>omega
def aiS {a:kN} {c:CR}(b:xN c)(h:afH a\/c.rc≠[45])(hb:a.bl.length<5/\(∀n∈a.bl,Bo n)/\a.wt<100000/\a.ev<100000/\a.rp<100000):afH (ny a c):=by
 have on:∀n,aJ n=true->Bo n:=λn d=>⟨by have:=xO d;omega,d⟩
 refine⟨?_,?_,?_,af2 b.wt hb.2.2.1,af2 b.ev hb.2.2.2.1,af2 b.rp hb.2.2.2.2⟩
 .show Bo (if c.rc == [45] then a.rc else c.rc)
  by_cases e:c.rc=[45]
  .rw[a0m (by simp[e])]
   rcases h with h|h
   .exact h.rc
   exact absurd e h
  rw[a0n (by simp[e])];exact on _ (b.rc.resolve_left e)
 .show(if c.tb then c.jM else a.bl).length<5
  split
  .have:=b.byl;omega
  exact hb.1
 show ∀n∈(if c.tb then c.jM else a.bl),Bo n
 split
 .exact λn d=>on n (b.jM n d)
 exact hb.2.1
def aeI(a:Steps C)(f:∀c∈C,xN c):∀i,i<=C.length->∀h∈fD C i,afH h
 | 0,_=>by simp[fD]
 | i+1,m=>by
   intro h hh;rw[fD]at hh;have d:=aeI a f i (by omega);rcases a0e.1 hh with e|e
   .exact d h e
   rw[a0a (by omega)]at e;have e:=a0w.1 e;subst e;have g:=f C[i] (a0u _);cases i with
   | zero =>
     have k:=(a.1 C[0] (a0a (by omega))).2;refine aiS g (.inr k) ?_;unfold uK;have:par C 0=none:=by
      cases b:par C 0 with
      | none=>rfl
      | some p=>exact absurd (En b) (by omega)
     rw[this];simp[lQ]
   | succ i =>
     obtain⟨p,b⟩:=asS a i (by omega);have l:=En b;have j:uK C (fD C (i+1)) (i+1)∈fD C (i+1):=by grind [uK,ry]
     have ho:=d _ j;exact aiS g (.inl ho) ⟨ho.b1,ho.b2,ho.wt,ho.ev,ho.rp⟩
theorem Ur {L:List LB}(h:jH t=.ok (L,C)):Steps C:=by
 have d:=(pI h).2.1;unfold jH at h
 split at h
 .cases h
 split at h
 .cases h
 split at h
 .cases h
 rename_i j k _ i
 split at h
 .cases h
 cases h
 have b:lD C 0 ((0:Nat):Int)=0:=by
  have:iX C=lD C 0 0:=by unfold iX;rw[a0n];cases C with | nil=>simp at d|cons=>simp
  have e:lD C 0 0=0:=by omega
  exact e
 obtain⟨g,f⟩:=Pg C 0 0 b;exact⟨λc a=>(g c a).1 rfl,f⟩
theorem asU {re:LB->Nat} {bI:LB->gz}(w:∀v,re v=0->Gr (bI v)) {L:List LB}(ht:t.length<=1048576)(h:jH t=.ok (L,C))(r:pread re bI lT 0 C=.ok s):MOK (iZ C s):=by
 obtain⟨z,g,y,M⟩:=pI h;have o:=(qT t L C ht z).2.2;obtain⟨k1,k2,J⟩:=V7 w C lT 0 0 ⟨by simp[lT],by simp[lT],by simp[lT],rfl,by simp[lT],by simp[lT],by simp[lT]⟩ ⟨by simp[lT],by simp[lT],by simp[lT],by simp[lT],by simp[lT]⟩ o r;have E:=Ur h;refine⟨⟨by have:=k2.n;show s.n.length<256;omega,k1.n⟩,⟨by have:=k2.c;show s.c.length<256;omega,k1.c⟩,⟨by have:=k2.a;show s.a.length<256;omega,k1.a⟩,⟨by have:=k2.t;show s.t.length<256;omega,k1.t⟩,⟨by show(fD C C.length).length<17;rw[ry];omega,aeI E o C.length (a0b _)⟩,?_⟩;have F:C.isEmpty=false:=by cases C with | nil=>simp at g|cons=>rfl
 have G:GL [⟨0,0,0,0⟩]:=by intro i m;simp at m;subst m;exact .inl rfl
 obtain⟨l,k,I⟩:=C9 C s.q 6 0 0 [⟨0,0,0,0⟩] G (by simp);have p:=ab1 C (nt:=s.t.length) k1.q 6 0 0 [⟨0,0,0,0⟩] g (by intro x f;rw[a0w.1 f];exact .inl ⟨rfl,rfl,rfl,rfl⟩);have H:=aiP y g k1.ql;have D:(iZ C s).code=mH (ig C s.q 6 0 0 [⟨0,0,0,0⟩]).2 (ig C s.q 6 0 0 [⟨0,0,0,0⟩]).1:=by show C8 C s.q=_;unfold C8;rw[F];rfl
 have B:(iZ C s).lF.length=C.length:=ry C C.length;have A:(iZ C s).tests.length=s.t.length:=rfl;rw[D,B,A];obtain⟨t1,t2⟩:=akP l _ k;refine⟨t1,by omega,λj u=>?_⟩;have O:=k2.t;have b:=an8 l p _ k j u;generalize f:(mH (ig C s.q 6 0 0 [⟨0,0,0,0⟩]).2 (ig C s.q 6 0 0 [⟨0,0,0,0⟩]).1)[j]=x at b |-;clear f;generalize (mH (ig C s.q 6 0 0 [⟨0,0,0,0⟩]).2 (ig C s.q 6 0 0 [⟨0,0,0,0⟩]).1).length=N at *;have d:=b;unfold stands at b
 split at b
 .rename_i e;simp at b;exact⟨d,by omega,by omega,by omega,by omega⟩
 .rename_i e;simp at b;exact⟨d,by omega,by omega,by omega,by omega⟩
 .rename_i e;simp at b;exact⟨d,by omega,by omega,by omega,by omega⟩
 cases b
def ab5(v:LB)(h:gH v=0):Gr (gQ v):=by
 obtain⟨e,he,l,_⟩:=VX h;obtain⟨s1,s2,j,i,d,a,g⟩:=aiL (mQ he).1 l;have m:=a 0 (by omega);have k:gQ v=⟨(kZ e).length,xq e,(eu e).2.1.map λu=>if dK (dW (bn e) u) then 1 else 0,(eu e).2.2⟩:=by unfold gQ;rw[he]
 rw[k];generalize kZ e=F at *;generalize xq e=K at *;generalize eu e=A at *;refine⟨by simpa using g,by simpa using s1,by show 1<=F.length;omega,j,d,λc f=>?_,λc f=>?_,by simpa using s2,by simpa using i⟩
 .obtain⟨b,hb,rfl⟩:=List.getElem_of_mem f
  have:=a b (by simp only[d]at hb;exact hb);rw[a0x,a0a hb]at this;exact this
 grind
def CMQ(t:LB)(w:World)(e:Ending)(w':World):Prop :=
 aB [] w w'/\(((pJ gH t).1≠0/\e=zQ #[.pointer none,zI ((pJ gH t).1:Nat),zI ((pJ gH t).2:Nat)]) \/
 (∃L C s V pb,pJ gH t=(0,0)/\jH t=.ok (L,C)/\pread gH gQ lT 0 C=.ok s/\e=zQ #[zP pb,zI 0,zI 0]/\PR [] w' pb V (iZ C s)/\MOK (iZ C s)/\w.heap.size<=pb))
def af3(t:LB)(w:World)(ht:t.length<=1048576):zF 7 #[zT t] w (CMQ t w):=by
 refine(acA gH gQ t w ht (λL C h c g m f _=>ark _ ?_)).mono ?_
 .have a:=(pI h).1
  exact((qT t L C ht a).2.2 c g).ifs m f |>.val
 rintro e w' ⟨hF,h|⟨L,C,s,V,pb,a,d,b,rfl,k,j,i⟩⟩
 .exact⟨hF,.inl h⟩
 exact⟨hF,.inr ⟨L,C,s,V,pb,a,d,b,rfl,⟨k,j,by simp⟩,asU ab5 ht d b,i⟩⟩
def RW.kn(h:RW A k w v vs)(f:KN w w')(o:∀u∈vs,∀y∈u,y≠.pointer none):RW A k w' v vs:=by obtain⟨a,cap,rfl,n,m⟩:=h;refine⟨a,cap,rfl,n,λj d=>?_⟩;obtain⟨g,off,rfl,l,i,e⟩:=m j d;exact⟨g,off,rfl,l,a0t i f.size,λc x b=>f.cell _ _ (e c x b) (o _ (a0u d) x (a0B b))⟩
def RW.slc(h:RW A k w v vs):v≠.pointer none:=by obtain⟨a,cap,rfl,_⟩:=h;simp
def akW(L:List LB):∀u∈sc L,∀y∈u,y≠.pointer none:=by intro u b y a;obtain⟨s,_,rfl⟩:=a0q.1 b;simp at a;subst a;simp
def avp(L:LN):∀u∈bc L,∀y∈u,y≠.pointer none:=by intro u b y a;obtain⟨s,_,rfl⟩:=a0q.1 b;simp at a;subst a;simp
def avq(L:LN):∀u∈ic L,∀y∈u,y≠.pointer none:=by intro u b y a;obtain⟨s,_,rfl⟩:=a0q.1 b;simp at a;subst a;simp
def avr(L:List jd):∀u∈tc L,∀y∈u,y≠.pointer none:=by intro u b y a;obtain⟨s,_,rfl⟩:=a0q.1 b;simp[kV]at a;rcases a with rfl|rfl|rfl<;>simp
def asZ(L:List bX):∀u∈uj L,∀y∈u,y≠.pointer none:=by intro u b y a;obtain⟨s,_,rfl⟩:=a0q.1 b;simp[jT]at a;rcases a with rfl|rfl|rfl|rfl<;>simp
def amg {α:Type} {I:TQ α} {b:List (Array Value)} {xs:List α}(h:dV I A w b xs)(g:∀cs x,I.rel A w cs x->∀y∈cs.toList,y≠.pointer none):∀u∈fZ b,∀y∈u,y≠.pointer none:=by intro u e y d;obtain⟨cs,c,rfl⟩:=a0q.1 e;obtain⟨n,a⟩:=a1T c;have f:=(a0d.1 a).1;exact g cs _ (h.2 n cs (xs[n]'(by rw[<-h.1];exact f)) a (a0a _)) y d
def PG.kn(h:PG A w V m)(f:KN w w'):PG A w' V m:=by
 obtain⟨z,v,j⟩:=h.a;obtain⟨k,u,g⟩:=h.r;refine⟨h.n.kn f (akW _),h.c.kn f (akW _),⟨z,v.kn f (amg j ?_),j.1,λn cs x o l=>?_⟩,h.t.kn f (avr _),⟨k,u.kn f (amg g ?_),g.1,λn cs x o l=>?_⟩,h.i.kn f (asZ _)⟩
 .rintro cs x ⟨s,p,rfl,b,e⟩ y d
  simp[Lv,nv]at d;rcases d with rfl|⟨_,_,rfl⟩|rfl|rfl
  .simp
  .simp
  .exact b.slc
  exact e.slc
 .obtain⟨s,p,rfl,b,e⟩:=j.2 n cs x o l
  exact⟨s,p,rfl,b.kn f (avp _),e.kn f (avq _)⟩
 .rintro cs x ⟨q,rfl,b⟩ y d
  simp[aO]at d;rcases d with rfl|rfl|rfl|rfl|rfl
  .simp
  .exact b.slc
  .simp
  .simp
  simp
 obtain⟨q,rfl,b⟩:=g.2 n cs x o l;exact⟨q,rfl,b.kn f (akW _)⟩
def PR.kn {pb:Nat}(h:PR A w pb V m)(f:KN w w'):PR A w' pb V m :=
 ⟨(f.row pb _ _ _ h.row (by decide)).trans h.row,h.pg.kn f,h.av⟩
def QC(t:LB)(w:World)(pb:Nat):Prop:=∃L C s V,jH t=.ok (L,C)/\pread gH gQ lT 0 C=.ok s/\PR [] w pb V (iZ C s)/\MOK (iZ C s)
def aoi(t:LB)(w:World)(ht:t.length<=1048576):zF 7 #[zT t] w (CpQ (QC t) t w):=by
 refine(af3 t w ht).mono ?_;rintro e w' ⟨hF,⟨a,rfl⟩|⟨L,C,s,V,pb,a,g,f,rfl,d,c,b⟩⟩
 .exact⟨hF,.inl ⟨a,rfl⟩⟩
 exact⟨hF,.inr ⟨pb,a,rfl,⟨L,C,s,V,g,f,d,c⟩,b⟩⟩
def ace(t:LB)(w:World)(ht:t.length<=1048576):zF 5 #[zT t] w (CdQ (QC t) t w) :=
 acC (QC t) (λa b p ⟨L,C,s,V,g,e,d,c⟩ f=>⟨L,C,s,V,g,e,d.kn f,c⟩) (λa b p ⟨L,C,s,V,g,e,d,c⟩ f=>⟨L,C,s,V,g,e,d.aC f (by simp),c⟩) t w ht (λw=>aoi t w ht)
open Go.RowKit
open Go.RowKit
open Go.RowKit
abbrev HZ(w:World)(rb:Nat):Prop:=w.heap[rb]?=some (.cells hz 106 (0,0))
open Go.RowKit
def yc(L:LB):List (List Value):=L.map λc=>[.int .u8 c.toNat]
theorem Lg(L:LB):(yc L).length=L.length:=by simp[yc]
theorem aja(L:LB)(c:UInt8):yc L++[[.int .u8 c.toNat]]=yc (L++[c]):=by simp[yc]
theorem abB(L:LB):(yc L).flatten=tT L:=by
 induction L with
 | nil=>rfl
 | cons c L a=>simp only[yc,tT,a0E,List.flatten_cons]at a |-;rw[a];rfl
def YB(base:Nat)(w:World)(v:Value)(L:LB):Prop :=
 OW 5 1 base w v (yc L)\/(∃g,v=zS g 3 3/\base<=g/\L=qO/\w.heap[g]?=some (.cells #[.int .u8 79,.int .u8 66,.int .u8 49] 5 (3,4)))
structure KPs(base sb:Nat)(w w':World):Prop where
 os:w'.os=w.os
 tape:w'.tape=w.tape
 output:w'.output=w.output
 size:w.heap.size<=w'.heap.size
 block:∀k,k<w.heap.size->k≠sb->(k<base\/∀cur fz,w.heap[k]?≠some (.cells cur 5 fz))->w'.heap[k]?=w.heap[k]?
theorem KPs.refl(base sb:Nat)(w:World):KPs base sb w w:=⟨rfl,rfl,rfl,a0b _,λ_ _ _ _=>rfl⟩
theorem KPs.trans{base:Nat} {a b c:World}(h:KPs base sb a b)(k:KPs base sb b c):KPs base sb a c:=by refine⟨k.os.trans h.os,k.tape.trans h.tape,k.output.trans h.output,a0h h.size k.size,λi f d g=>?_⟩;have e:=h.block i f d g;rw[k.block i (a0t f h.size) d (g.imp id (λj cur fz=>by rw[e];exact j cur fz))];exact e
def KPs.Tk{base:Nat}(f:aB [sb] w w'):KPs base sb w w':=⟨f.os,f.tape,f.output,f.size,λk b a _=>f.block k b (by simpa using a)⟩
theorem YB.u8 {base:Nat}(h:YB base w v L)(a:v.ownBlock=some r):base<=r/\∃cur fz,w.heap[r]?=some (.cells cur 5 fz):=by
 rcases h with h|⟨g,rfl,hb,_,c⟩
 .refine⟨(h.lt a).1,?_⟩
  rcases h.1.2 with⟨rfl,_⟩|⟨g,cap,cur,rfl,_,b,_⟩
  .simp[Value.ownBlock]at a
  simp[Value.ownBlock]at a;subst a;exact⟨cur,_,b⟩
 simp[Value.ownBlock]at a;subst a;exact⟨hb,_,_,c⟩
def KPs.grown{base:Nat}(h:YB base w v L)(a:w.grownBy w' v.ownBlock):KPs base sb w w':=by
 refine⟨a.os,a.tape,a.output,a.size,λk c _ b=>a.block k c (λe=>?_)⟩;obtain⟨f,cur,fz,d⟩:=h.u8 e.symm;rcases b with b|b
 .omega
 exact b cur fz d
def I6(base:Nat)(w:World)(sb:Nat)(v:Value)(L:LB):Prop:=w.heap[sb]?=some (.cells #[v] 93 (0,0))/\base<=sb/\YB base w v L
theorem I6.c0 {base:Nat}(h:I6 base w sb v L):zC w sb 0 v:=by simp[World.cell?,h.1]
theorem I6.fz {base:Nat}(h:I6 base w sb v L)(o:Nat):w.frozen? (zB sb o)=false:=by simp[World.frozen?,h.1]
theorem I6.lt {base:Nat}(h:I6 base w sb v L):sb<w.heap.size:=(a0c.1 h.1).1
theorem YB.alloc {base:Nat}(h:YB base w v L)(o:Obj):YB base (w.alloc o) v L:=by
 rcases h with h|⟨g,d,c,b,a⟩
 .exact .inl (h.aC zG (by simp))
 exact .inr ⟨g,d,c,b,(((aB.refl [] w).alloc o).block g (a0c.1 a).1 (by simp)).trans a⟩
def YB.shape {base:Nat}(h:YB base w v L):∃a c,v=.slice a L.length c:=by
 rcases h with h|⟨g,d,i,b,f⟩
 .obtain⟨a,c,e⟩:=h.shape;rw[Lg]at e;exact⟨a,c,e⟩
 exact⟨_,3,by rw[d,b];rfl⟩
def abC {ops:Array Oper} {rest:List Oper} {o:Oper} {Q:Exit->Act->World->Prop}(w:World)(p:o.guard=none)(s x:Operand)
 (ho:o.op=.call { callee:=.builtin .append,args:=#[s,x],argTypes:=#[91,91] })
 (base:Nat) (v:Value) (L:LB) (b1:Nat) (y:UInt8) (r:a.eval s=v) (m:YB base w v L) (q:a.eval x=zS b1 1 1)
 (G:zC w b1 0 (.int .u8 y.toNat)) (hlen:L.length<=1000000000) (n:base<=w.heap.size)
 (h:∀g cap w',OW 5 1 base w' (zS g (L.length+1) cap) (yc (L++[y]))->w.grownBy w' v.ownBlock->wpList Tryz.prog ops Q rest (a.put o.dst (zS g (L.length+1) cap)) w') :
 wpList Tryz.prog ops Q (o::rest) a w:=by
 have C:=Lg L;have A:∀j u,([.int .u8 y.toNat]:List Value)[j]?=some u->zC w b1 j u:=by
  intro j u d;cases j with
  | zero=>simp only[List.getElem?_cons_zero,Option.some.injEq]at d;rw[<-d];exact G
  | succ j=>simp at d
 rcases m with m|⟨g,rfl,hb,rfl,F⟩
 .refine qD w p s x 91 5 (.int .u8 0) 1 1 ak6 Tryz.underlying91 rfl (by decide) ho base v (yc L) b1 [.int .u8 y.toNat] r m q rfl A ?_ (by omega) (by omega) n ?_
  .intro u i
   simp only[a0w]at i;subst i;rfl
  rw[C,aja];intro g cap w' l f _ _;exact h g cap w' l f
 obtain⟨B,E,gT,I,H⟩:=kg ak6;refine wpList_append_grows w p s x 91 ho 5 B _ 1 1 Tryz.underlying91 E gT I H rfl (by decide) (some (zA g)) 3 3 [.int .u8 79,.int .u8 66,.int .u8 49] r (λe=>by cases e) rfl ?_ (zA b1) 1 1 [.int .u8 y.toNat] q rfl (λj u d=>by rw[add0];exact A j u d) ?_ (by omega) (by unfold maxLen;omega) (by omega) ?_
 .intro b e j u d
  cases e
  rw[add0,cell_of_row w g j _ _ _ F];simpa using d
 .intro u i
  simp only[a0w]at i;subst i;rfl
 intro M w' l f;obtain⟨t,cap,e,_,_⟩:=l.form (by omega);subst e;have J:OW 5 1 base w' (zS t (3+1) cap) (yc (qO++[y])):=by
  refine(OW.base (base:=w.heap.size) ⟨?_,?_⟩ n)
  .have:(yc (qO++[y])).flatten=[.int .u8 79,.int .u8 66,.int .u8 49]++[.int .u8 y.toNat]:=rfl
   rw[this,Lg];exact l
  intro z hz;unfold yc at hz;obtain⟨c,_,rfl⟩:=a0q.1 hz
  rfl
 refine h t cap w' J ⟨f.os,f.tape,f.output,f.size,λk D _=>f.block k D (by simp)⟩
def AD(base:Nat)(w:World)(sb:Nat)(L x:LB)(w':World):Prop:=∃a,I6 base w' sb a (L++x)/\KPs base sb w w'/\OW 5 1 base w' a (yc (L++x))
def YB.ne {base:Nat}(h:YB base w v L) {u:Value}(b:w.heap[sb]?=some (.cells #[u] 93 (0,0))):v.ownBlock≠some sb:=by intro e;obtain⟨_,cur,fz,a⟩:=h.u8 e;rw[b]at a;simp at a
def bz:∀(k:Nat) (base sb:Nat) (v:Value) (L:LB) (n:Nat) (sz:Int) (w:World),1<=k->k<=3->sz=(k:Int)->I6 base w sb v L->L.length<=900000000->base<=w.heap.size->n<16777216 ->
 zF 32 #[zP sb,zI sz,zI (n:Nat)] w λe w'=>e=zQ #[]/\AD base w sb L (nb k n) w':=by
 intro k
 induction k with
 | zero=>intro base sb v L n sz w N;omega
 | succ k y =>
   intro base sb v L n sz w N Y P S M hb X;subst P;have G:(UInt8.ofNat (n % 256)).toNat=n % 256:=by rw[UInt8.toNat_ofNat'];exact Nat.mod_eq_of_lt (a3i _ (by omega))
   by_cases I:k=0
   .subst I
    obtain⟨a,c,rfl⟩:=S.2.2.shape;have c0:=S.c0;have z:=S.fz 0;have D:=S.lt;have x:=S.2.1;have d:=S.2.2;clear y;delta zF;go_in
    have aO:∀o,o=Obj.cells #[Value.int .u8 ((n:Int) % 256)] 5->zC (w.alloc o) w.heap.size 0 (.int .u8 ((UInt8.ofNat (n % 256)).toNat:Nat)):=by intro o ho;subst ho;rw[G];simp
    go_wp2_with (first | (at_builtin;refine abC _ rfl _ _ rfl base (.slice a L.length c) L w.heap.size (UInt8.ofNat (n % 256)) rfl (d.alloc _) rfl (aO _ rfl) (by omega) (by simp;omega) ?_;intro l m b s f;have c6:=(f.cell_far (zA sb) (by simp;omega) (λe=>d.ne S.1 e.symm));have O:=(f.frozen_far (zA sb) (by simp;omega) (λe=>d.ne S.1 e.symm))))
    go_end0
    have j:b.heap[sb]?=some (.cells #[.slice a L.length c] 93 (0,0)):=(f.block sb (by simp;omega) (λe=>d.ne S.1 e.symm)).trans ((((aB.refl [] w).alloc _).block sb D (by simp)).trans S.1);have t:∀u,aB [sb] b (b.setCell (zA sb) u):=λu=>(aB.refl [sb] b).setCell (p:=(zA sb)) (.inl (by simp)) u
    have q:∀u,OW 5 1 base (b.setCell (zA sb) u) (zS l (L.length+1) m) (yc (L++[UInt8.ofNat (n % 256)])):=λu=>s.aY (t u) (λr A i=>by simp at i;subst i;exact YB.ne (.inl s) j A)
    have F:∀u,KPs base sb w (b.setCell (zA sb) u):=λu=>((KPs.Tk (((aB.refl [sb] w).alloc _))).trans (KPs.grown (d.alloc _) f)).trans (KPs.Tk (t u))
    refine⟨rfl,zS l (L.length+1) m,⟨?_,x,.inl (q _)⟩,F _,q _⟩;simp[World.setCell,a0v,j]
   have R:((k:Int)+1)-1=(k:Int):=by omega
   have Z:decide ((1:Int)<(k:Int)+1)=true:=a0g (by omega);have T:(((k+1:Nat):Int))=(k:Int)+1:=by omega
   have B:((n / 256:Nat):Int)=(n:Int) / 256:=by omega
   have E:=y base sb v L (n / 256) (k:Int) w (by omega) (by omega) rfl S M hb (by omega);rw[B]at E;clear y;delta zF;go_in
   go_wp2_with fail
   refine E.mono ?_;rintro e h ⟨rfl,W,S,H,C⟩;have fM:=H.size;obtain⟨a,c,rfl⟩:=S.2.2.shape;have c0:=S.c0;have z:=S.fz 0;have D:=S.lt;have x:=S.2.1;have d:=S.2.2;have J:(L++nb k (n / 256)).length<=900000010:=by rw[a0p,cz];omega
   have V:nb (k+1) n=nb k (n / 256)++[UInt8.ofNat (n % 256)]:=rfl;generalize U:L++nb k (n / 256)=g at *;clear C E;have aO:∀o,o=Obj.cells #[Value.int .u8 ((n:Int) % 256)] 5->zC (h.alloc o) h.heap.size 0 (.int .u8 ((UInt8.ofNat (n % 256)).toNat:Nat)):=by intro o ho;subst ho;rw[G];simp
   go_wp2_with (first | (at_builtin;refine abC _ rfl _ _ rfl base (.slice a g.length c) g h.heap.size (UInt8.ofNat (n % 256)) rfl (d.alloc _) rfl (aO _ rfl) (by omega) (by simp;omega) ?_;intro l m b s f;have c6:=(f.cell_far (zA sb) (by simp;omega) (λe=>d.ne S.1 e.symm));have O:=(f.frozen_far (zA sb) (by simp;omega) (λe=>d.ne S.1 e.symm))))
   go_end0
   have j:b.heap[sb]?=some (.cells #[.slice a g.length c] 93 (0,0)):=(f.block sb (by simp;omega) (λe=>d.ne S.1 e.symm)).trans ((((aB.refl [] h).alloc _).block sb D (by simp)).trans S.1);have t:∀u,aB [sb] b (b.setCell (zA sb) u):=λu=>(aB.refl [sb] b).setCell (p:=(zA sb)) (.inl (by simp)) u
   have q:∀u,OW 5 1 base (b.setCell (zA sb) u) (zS l (g.length+1) m) (yc (g++[UInt8.ofNat (n % 256)])):=λu=>s.aY (t u) (λr A i=>by simp at i;subst i;exact YB.ne (.inl s) j A)
   have F:∀u,KPs base sb h (b.setCell (zA sb) u):=λu=>((KPs.Tk (((aB.refl [sb] h).alloc _))).trans (KPs.grown (d.alloc _) f)).trans (KPs.Tk (t u))
   have e:L++nb (k+1) n=g++[UInt8.ofNat (n % 256)]:=by rw[V,<-a0M,U]
   refine⟨rfl,zS l (g.length+1) m,⟨?_,x,.inl ?_⟩,H.trans (F _),?_⟩
   .simp[World.setCell,a0v,j]
   .rw[e];exact q _
   rw[e];exact q _
theorem KPs.aC{W0:World}(k:KPs W0.heap.size sb w w')(f:aB [] W0 w)(h:W0.heap.size<=sb):aB [] W0 w' :=
 ⟨k.os.trans f.os,k.tape.trans f.tape,k.output.trans f.output,a0h f.size k.size,λi a _=>(k.block i (a0t a f.size) (by omega) (.inl a)).trans (f.block i a (by simp))⟩
theorem ah4(x:LB):Lib.strCells (bs x)=tT x:=by simp[Lib.strCells,tT,bs]
theorem aeR(a b:LB):tT (a++b)=tT a++tT b:=by simp[tT]
def akX(L:LB):∀z∈yc L,z.length=1:=by
 intro z hz;unfold yc at hz;obtain⟨c,_,rfl⟩:=a0q.1 hz
 rfl
def QM(base sb:Nat)(v:Value)(L x:LB)(w:World)(q:I6 base w sb v L)(W:L.length<=800000000)(hb:base<=w.heap.size)(V:x.length<=1048576) :
 zF 57 #[zP sb,zT x] w λe w'=>e=zQ #[]/\AD base w sb L (eT x) w':=by
 have B:=bz 1 base sb v L x.length 1 w (by omega) (by omega) rfl q (by omega) hb (by omega);have l:=bL x;clear q;delta zF;go_in
 go_wp2_with fail
 refine B.mono ?_;rintro e o ⟨rfl,U,S,C,P⟩;have X:=C.size;obtain⟨a,c,rfl⟩:=S.2.2.shape;have c0:=S.c0;have z:=S.fz 0;have Z:=S.lt;have E:=S.2.1;have j:=S.2.2;have I:(L++nb 1 x.length).length<=800000010:=by rw[a0p,cz];omega
 generalize N:L++nb 1 x.length=b at *;clear B;obtain⟨F,H,gT,m,J⟩:=kg ak6;have O:o.ownsRow base 5 1 (.slice a b.length c) b.length (tT b):=by have:=P.1;rw[Lg,abB]at this;exact this
 go_wp2_with (first | (at_builtin;refine Lib.wpList_append_own_string _ rfl _ _ 91 9 rfl base 5 F Tryz.underlying91 Tryz.underlying9 H gT m J (.slice a b.length c) b.length (tT b) rfl O (bs x) rfl (by rw[l];unfold maxLen;omega) (by rw[l];omega) (by omega) ?_;intro T d A i k;obtain⟨n,f,M⟩:=aW A;subst M;have c6:=(i.cell_far (zA sb) (by simp;omega) (λe=>j.ne S.1 e.symm));have Y:=(i.frozen_far (zA sb) (by simp;omega) (λe=>j.ne S.1 e.symm));clear k))
 go_end0
 have t:d.heap[sb]?=some (.cells #[.slice a b.length c] 93 (0,0)):=(i.block sb (by omega) (λe=>j.ne S.1 e.symm)).trans S.1;have D:∀u,aB [sb] d (d.setCell (zA sb) u):=λu=>(aB.refl [sb] d).setCell (p:=(zA sb)) (.inl (by simp)) u
 have g:OW 5 1 base d (.slice n (b.length+x.length) f) (yc (b++x)):=by refine⟨?_,akX _⟩;have h:=A;rw[ah4,<-aeR,l]at h;rw[Lg,abB,a0p];exact h
 have y:∀u,OW 5 1 base (d.setCell (zA sb) u) (.slice n (b.length+x.length) f) (yc (b++x)):=λu=>g.aY (D u) (λr G s=>by simp at s;subst s;exact YB.ne (.inl g) t G)
 have R:∀u,KPs base sb o (d.setCell (zA sb) u):=λu=>(KPs.grown j i).trans (KPs.Tk (D u))
 have e:L++eT x=b++x:=by unfold eT;rw[<-a0M,N]
 refine⟨rfl,.slice n (b.length+x.length) f,⟨?_,E,.inl ?_⟩,C.trans (R _),?_⟩
 .simp[World.setCell,a0v,t]
 .rw[e];exact y _
 rw[e];exact y _
theorem AD.add {base:Nat}{a b:World}(h:AD base w sb L x a)(k:∀v,I6 base a sb v (L++x)->AD base a sb (L++x) y b):AD base w sb L (x++y) b:=by obtain⟨v,f,e,_⟩:=h;obtain⟨c,k1,k2,d⟩:=k v f;exact⟨c,by rw[<-a0M];exact k1,e.trans k2,by rw[<-a0M];exact d⟩
def CK(W0:World)(A:LN)(sb:Nat)(v q:Value)(L:LB)(xs:List LB)(w:World)(f:I6 W0.heap.size w sb v L)(hF:aB [] W0 w)(ht:RW A 1 W0 q (sc xs))(r:∀x∈xs,x.length<=1048576)(d:xs.length<16777216)(H:L.length+(sQ xs).length<=700000000) :
 zF 31 #[zP sb,q] w λe w'=>e=zQ #[]/\AD W0.heap.size w sb L (sQ xs) w':=by
 obtain⟨S,J,rfl,t⟩:=ht.str;have O:=aj t;have M:=aj r;have gT:=hF.size;have F:=f.2.1;have F0:=aj hF;have y:=aj (bz 1 W0.heap.size sb v L xs.length 1 w (by omega) (by omega) rfl f (by omega) hF.size d);clear t ht f r hF;delta zF;go_in
 go_wp2_with fail
 refine(y.o).mono ?_;rintro e R ⟨rfl,b⟩;have P:=aj b;clear b y;go_wp2_with fail
 go_loopg [12] xs.length (λk c wr=>∃j:Nat,j+k=xs.length/\c=zI j/\AD W0.heap.size w sb L (nb 1 xs.length++(xs.take j).flatMap eT) wr)
 case atStart=>exact⟨0,by omega,rfl,by simpa using P.o⟩
 case round =>
  obtain⟨j,U,rfl,b⟩:=hrel;have n:=aj b;clear b
  by_cases l:j<xs.length
  .have I:decide ((j:Int)<(xs.length:Int))=true:=a0g (by omega)
   obtain⟨g,off,rfl,G,s⟩:=O.o j l;obtain⟨E,B,a,i⟩:=n.o;have F2:=aj (a.aC F0.o F);have T:zC wr g (off+j) (.string (bs xs[j])):=(F2.o.cell (p:=(zB g (off+j))) G (by simp)).trans s;have C:=M.o xs[j] (a0u l);have N:Z_ ((xs.take (j+1)).flatMap eT=(xs.take j).flatMap eT++eT xs[j]):=by
    show _=_;rw[a0F l,List.flatMap_append];simp
   have hlen:(L++(nb 1 xs.length++(xs.take j).flatMap eT)).length<=700000000:=by
    have V:(xs.flatMap eT).length=((xs.take j).flatMap eT).length+((xs.drop j).flatMap eT).length:=by rw[<-a0p,<-List.flatMap_append,a1C]
    simp only[sQ,a0p,cz]at H |-;omega
   have u:=aj (QM W0.heap.size sb E _ xs[j] wr B (by omega) F2.o.size C);clear B a i s;generalize xs[j]=x at *;go_wp2_with fail
   refine(u.o).mono ?_;rintro e D ⟨rfl,z⟩;have m:Z_ (AD W0.heap.size w sb L ((nb 1 xs.length++(xs.take j).flatMap eT)++eT x) D):=n.o.add (λ_ _=>z);clear z u;go_wp2_with fail
   go_roundg (gk-1)
   case measure=>omega
   case rel =>
    refine⟨j+1,by omega,by go_num,?_⟩;rw[N.o,<-a0M];exact m
  have I:decide ((j:Int)<(xs.length:Int))=false:=a0f (by omega);have m:Z_ (AD W0.heap.size w sb L (sQ xs) wr):=by
   have h:=n.o;rw[a0C (by omega)]at h;exact h
  go_wp2;go_end0
  exact⟨rfl,m⟩
theorem Q6(x:LB):(eT x).length=x.length+1:=by unfold eT;rw[a0p,cz];omega
def AD.Di {base:Nat}(h:AD base w sb L x w'):∃v,I6 base w' sb v (L++x):=by obtain⟨v,a,_⟩:=h;exact⟨v,a⟩
theorem AD.kp {base:Nat}(h:AD base w sb L x w'):KPs base sb w w':=by obtain⟨v,_,a,_⟩:=h;exact a
def KPs.loc{base:Nat}(k:KPs base sb w w') {a:Nat} {cs:Array Value} {t:TypeId}(h:w.heap[a]?=some (.cells cs t (0,0)))(ht:t≠5)(b:a≠sb):w'.heap[a]?=some (.cells cs t (0,0)):=by rw[k.block a (a0c.1 h).1 b (.inr (λcur fz e=>by rw[h]at e;simp at e;exact ht e.2.1))];exact h
def aeS(W0:World)(A:LN)(sb:Nat)(v:Value)(L:LB)(x:kN)(a:Option Addr)(cb:Nat)(w:World)(c:I6 W0.heap.size w sb v L)(hF:aB [] W0 w)(ht:RW A 1 W0 (.slice a x.bl.length cb) (sc x.bl))(E:x.rc.length<=1048576)(D:∀y∈x.bl,y.length<=1048576)(b:x.bl.length<16777216)(I:x.wt<16777216)(H:x.ev<16777216)(G:x.rp<16777216)(F:L.length+(eH x).length<=600000000) :
 zF 34 #[zP sb,.agg (aO x (.slice a x.bl.length cb))] w λe w'=>e=zQ #[]/\AD W0.heap.size w sb L (eH x) w':=by
 obtain⟨rc,bl,wt,ev,rp⟩:=x;simp only[eH,a0p,cz,Q6]at F;simp only at ht E D b I H G F;have B:=c.2.1;have Ns:=c.lt;have gT:=hF.size;have J:I6 W0.heap.size (w.alloc (Obj.cells (aO ⟨rc,bl,wt,ev,rp⟩ (.slice a bl.length cb)) 106)) sb v L:=⟨(((aB.refl [] w).alloc _).block sb Ns (by simp)).trans c.1,B,c.2.2.alloc _⟩;have S:KPs W0.heap.size sb w (w.alloc (Obj.cells (aO ⟨rc,bl,wt,ev,rp⟩ (.slice a bl.length cb)) 106)):=KPs.Tk ((aB.refl [sb] w).alloc _);have U:(w.alloc (Obj.cells (aO ⟨rc,bl,wt,ev,rp⟩ (.slice a bl.length cb)) 106)).heap[w.heap.size]?=some (.cells (aO ⟨rc,bl,wt,ev,rp⟩ (.slice a bl.length cb)) 106 (0,0)):=bD _ _;have m:=(QM W0.heap.size sb v L rc _ J (by omega) (by simp;omega) E);clear c J;delta zF;go_in
 simp only[aO]at m |-;go_wp2_with fail
 refine m.mono ?_;rintro e k ⟨rfl,g⟩;have h:=g.kp.loc U (by decide) (by omega);obtain⟨v1,z⟩:=g.Di;have o:=(S.trans g.kp).aC hF B;have P:=(CK W0 A sb v1 _ (L++eT rc) bl k z o ht D b (by rw[a0p,Q6];omega));have d0:zC k w.heap.size 0 (zT rc):=by simp[World.cell?,h,aO]
 have d1:zC k w.heap.size 1 (.slice a bl.length cb):=by simp[World.cell?,h,aO]
 clear z m U;go_wp2_with fail
 refine P.mono ?_;rintro e u ⟨rfl,l⟩;have j:=g.add (λ_ _=>l);have q:=l.kp.loc h (by decide) (by omega);obtain⟨Z,T⟩:=j.Di;have gD:=(j.kp).size;simp at gD;have O:=(bz 3 W0.heap.size sb Z _ wt 3 u (by omega) (by omega) rfl T (by simp only[a0p,Q6];omega) (by omega) I);have f2:zC u w.heap.size 2 (zI (wt:Nat)):=by simp[World.cell?,q,aO]
 clear l T P g h d0 d1;go_wp2_with fail
 refine O.mono ?_;rintro e t ⟨rfl,n⟩;have i:=j.add (λ_ _=>n);have p:=n.kp.loc q (by decide) (by omega);obtain⟨Y,R⟩:=i.Di;have V:=(i.kp).size;simp at V;have N:=(bz 3 W0.heap.size sb Y _ ev 3 t (by omega) (by omega) rfl R (by simp only[a0p,Q6,cz];omega) (by omega) H);have f3:zC t w.heap.size 3 (zI (ev:Nat)):=by simp[World.cell?,p,aO]
 clear n R O j q f2;go_wp2_with fail
 refine N.mono ?_;rintro e s ⟨rfl,hA4⟩;have r:=i.add (λ_ _=>hA4);have B4:=hA4.kp.loc p (by decide) (by omega);obtain⟨X,d⟩:=r.Di;have Yl:=(r.kp).size;simp at Yl;have M:=(bz 3 W0.heap.size sb X _ rp 3 s (by omega) (by omega) rfl d (by simp only[a0p,Q6,cz];omega) (by omega) G);have f4:zC s w.heap.size 4 (zI (rp:Nat)):=by simp[World.cell?,B4,aO]
 clear hA4 d N i p f3;go_wp2_with fail
 refine M.mono ?_;rintro e w5 ⟨rfl,f⟩;have A5:=r.add (λ_ _=>f);clear f M;go_wp2;go_end0
 refine⟨rfl,?_⟩;obtain⟨W,k1,k2,C⟩:=A5;have e:eH ⟨rc,bl,wt,ev,rp⟩=eT rc++sQ bl++nb 3 wt++nb 3 ev++nb 3 rp:=by simp[eH,a0M]
 rw[<-e]at k1 C;exact⟨W,k1,S.trans k2,C⟩
theorem anF(g q j:Nat):((zB g q):Addr).add j=(zB g (q+j)):=by unfold Addr.add;split<;>simp_all
def aeU(w:World)(a:Addr)(ty:TypeId)(cs:Array Value)(d:TypeDesc)(h:∀j v,cs.toList[j]?=some v->w.cell? (a.add j)=some v)
 (f:Tryz.prog.underlying ty=some d) (hd:(match d with | .struct _ | .array _ _=>true|_=>false)=true) (e:(Tryz.prog.info? ty).map (·.size)=some cs.size) :
 (loadVar ty a).run Tryz.prog w=.ok (.agg cs) w:=by
 have c:(loadCells a cs.toList.length).run Tryz.prog w=.ok cs.toList.toArray w:=run_loadCells_list (P:=Tryz.prog) w a cs.toList h;cases hq:Tryz.prog.info? ty with
 | none=>simp[hq]at e
 | some i =>
   have g:i.size=cs.size:=by simpa[hq] using e
   have b:(isAgg ty).run Tryz.prog w=.ok true w:=by unfold isAgg;rw[Sem.run_bind,run_underlying f w];cases d<;>simp_all
   simp[loadVar,b,sizeOf,typeInfo,hq,g];rw[a3o]at c;rw[c];simp
def aeV {o:Oper} {K:Act->World->Prop} {Q:Exit->Act->World->Prop}(t:TypeId)(x:Operand)(ho:o.op=.load t x)(p:Addr)(b:a.eval x=.pointer (some p))(cs:Array Value)(c:(loadVar t p).run Tryz.prog w=.ok (.agg cs) w)(h:K (a.put o.dst (.agg cs)) w):o.wp Tryz.prog a w K Q:=by unfold Oper.wp execOp;simp only[ho,b,Instr.loadAt,Instr.sureAddr,Sem.run_bind,Sem.run_pure,Result.andThen_ok,c];exact h
def ajc:(Tryz.prog.info? 98).map (·.size)=some 256:=by kernel_rfl
def aiT(w:World)(cs:Array Value)(j:Nat)(v:Value)(i:j<256)(h:cs[j]?=some v):(Instr.index 98 (.agg cs) (zI (j:Nat))).run Tryz.prog w=.ok v w:=by
 obtain⟨g,c,gT,d,l⟩:=kg ak6;have a:(isAgg 5).run Tryz.prog w=.ok false w:=by
  unfold isAgg;rw[Sem.run_bind,run_underlying Tryz.underlying5 w]
  rfl
 have f:(j:Int)<256:=by omega
 have e:j<cs.size:=(a0c.1 h).1;have b:cs[j]=v:=(a0c.1 h).2;simp[Instr.index,asIntOf,run_underlying Tryz.underlying98,part,sizeOf,typeInfo,c,d,a,f,h,e,b];intro k;omega
def clA(x:gz):Array Value:=(x.cl.map λ(c:Nat)=>Value.int .u8 c).toArray
def Rt(W0:World)(A:LN)(sb:Nat)(v:Value)(L:LB)(x:gz)(va vn:Value)(g q:Nat)(w:World)(hs:I6 W0.heap.size w sb v L)(hF:aB [] W0 w)(hu:AUm W0 g q x va vn)(ra:RW A 1 W0 va (bc x.acc))(rn:RW A 1 W0 vn (ic x.nx))(ok:Gr x)(hL:L.length+(eA x).length<=600000000) :
 zF 33 #[zP sb,.pointer (some (zB g q))] w λe w'=>e=zQ #[]/\AD W0.heap.size w sb L (eA x) w':=by
 have nK:=hs.2.1;have F0:=aj hF;have gT:=hF.size;have U:=aj hu;have OK:=aj ok;obtain⟨aa,ca,rfl,ha1,ha2⟩:=ra;obtain⟨an,cn,rfl,zX,Ze⟩:=rn;have RA:=aj ha2;have RN:=aj Ze;have uA:=ok.cl;have Yf:=ok.s2;have hk:=ok.k2;have aqI:x.nx.length<=10240:=by rw[ok.nx];exact a0h (a0D ok.s2 ok.k2) (by decide)
 have hLL:=hL;simp only[eA,a0p,cz]at hLL;have q3:=(U.o.aC F0).ca;have N1:=aj (bz 1 W0.heap.size sb v L x.acc.length 1 w (by omega) (by omega) rfl hs (by omega) hF.size (by omega));clear hs hF hu ok ha1 ha2 zX Ze;rw[afI]at q3;rw[afI]at U;rw[TM]at U;delta zF;go_in
 go_wp2_with fail
 refine(N1.o).mono ?_;rintro e w1 ⟨rfl,S9⟩;have A1:=aj S9;obtain⟨v1,um⟩:=S9.Di;have FW1:=aj (S9.kp.aC F0.o nK);have N2:=aj (bz 2 W0.heap.size sb v1 _ x.k 2 w1 (by omega) (by omega) rfl um (by simp only[a0p,cz];omega) FW1.o.size (by omega));have r0:=(U.o.aC FW1).c0;clear S9 um N1 q3;go_wp2_with fail
 refine(N2.o).mono ?_;rintro e w2 ⟨rfl,Nt⟩;have A2:=aj (A1.o.add (λ_ _=>Nt));have FW2:=aj ((A2.o.kp).aC F0.o nK);clear Nt N2 A1 FW1 r0;have pY:(clA x).size=256:=by simp[clA,uA]
 have HCA:Z_ ((loadVar 98 (zB g (q+1))).run Tryz.prog w2=.ok (.agg (clA x)) w2):=by
  refine aeU w2 (zB g (q+1)) 98 (clA x) _ ?_ Tryz.underlying98 rfl (by rw[pY];exact ajc);intro j u hj;rw[anF];have mK:j<x.cl.length:=by
   have:=(a0d.1 hj).1;simpa[clA] using this
  rw[(U.o.aC FW2.o).cc j (by omega)];simp[clA,mK]at hj;simp[List.getD,mK,hj]
 have HC:Z_ (∀j,j<256->(clA x)[j]?=some (.int .u8 (x.cl.getD j 0:Nat))):=by
  intro j hj;have mK:j<x.cl.length:=by omega
  simp[clA,mK,List.getD]
 go_wp2_with fail
 refine aeV 98 (.tmp 25) rfl (zB g (q+1)) rfl (clA x) HCA.o ?_;clear HCA;go_wp2_with fail
 go_loopg [27] 256 (λk v27 wr=>∃j:Nat,j+k=256/\v27=zI j/\AD W0.heap.size w sb L (nb 1 x.acc.length++nb 2 x.k++(x.cl.take j).flatMap (nb 1)) wr)
 case atStart=>exact⟨0,by omega,rfl,by simpa using A2.o⟩
 case round =>
  clear A2 FW2;obtain⟨j,lU,rfl,hA⟩:=hrel;have A3:=aj hA;clear hA
  by_cases aL:j<256
  ·have gJ:decide ((j:Int)<256)=true:=a0g (by omega)
   have Lt:=HC.o j aL;have hix:=aiT wr (clA x) j _ aL Lt;obtain⟨v3,Mr,Nu,hO3⟩:=A3.o;obtain⟨a3,c3,he3⟩:=Mr.2.2.shape;subst he3;have S:=aj Mr;have BJ:=aj Mr.2.2;have c0:=Mr.c0;have z:=Mr.fz 0;have Ns:=Mr.lt;have hzr:=(Nu.aC F0.o nK).size;have K3:=aj Nu;have amc:x.cl.getD j 0<256:=by
    have mK:j<x.cl.length:=by omega
    have h1:=OK.o.cls (x.cl.getD j 0) (by simp[List.getD,mK]);omega
   have hy:(UInt8.ofNat (x.cl.getD j 0)).toNat=x.cl.getD j 0:=by rw[UInt8.toNat_ofNat'];exact Nat.mod_eq_of_lt amc
   have Dt:Z_ (nb 1 (x.cl.getD j 0)=[UInt8.ofNat (x.cl.getD j 0)]):=by show _=_;rw[nb,nb,Nat.mod_eq_of_lt amc];rfl
   have HT:Z_ ((x.cl.take (j+1)).flatMap (nb 1)=(x.cl.take j).flatMap (nb 1)++nb 1 (x.cl.getD j 0)):=by
    have mK:j<x.cl.length:=by omega
    show _=_;rw[a0F mK,List.flatMap_append];simp[List.getD,mK]
   have aO:∀o,o=Obj.cells #[Value.int .u8 (x.cl.getD j 0:Nat)] 5->zC (wr.alloc o) wr.heap.size 0 (.int .u8 ((UInt8.ofNat (x.cl.getD j 0)).toNat:Nat)):=by
    intro o ho;subst ho;rw[hy];simp
   have hlen:(L++(nb 1 x.acc.length++nb 2 x.k++(x.cl.take j).flatMap (nb 1))).length<=600000000:=by
    have e1:(x.cl.flatMap (nb 1)).length=((x.cl.take j).flatMap (nb 1)).length+((x.cl.drop j).flatMap (nb 1)).length:=by rw[<-a0p,<-List.flatMap_append,a1C]
    simp only[a0p,cz];omega
   generalize Uw:L++(nb 1 x.acc.length++nb 2 x.k++(x.cl.take j).flatMap (nb 1))=LL at *;have Pj:=aj Uw;generalize x.cl.getD j 0=m at *;clear Mr Nu hO3 Lt Uw A3;go_wp2_with (first | (at_builtin;refine abC _ rfl _ _ rfl W0.heap.size (.slice a3 LL.length c3) LL wr.heap.size (UInt8.ofNat m) rfl (BJ.o.alloc _) rfl (aO _ rfl) (by omega) (by simp;omega) ?_;intro g2 aU w6 Mq Gs;have O6:=aj Mq;have G6:=aj Gs;have c6:=(Gs.cell_far (zA sb) (by simp;omega) (λe=>BJ.o.ne S.o.1 e.symm));have f6:=(Gs.frozen_far (zA sb) (by simp;omega) (λe=>BJ.o.ne S.o.1 e.symm));clear Mq Gs))
   go_roundg (gk-1)
   case measure=>omega
   case rel =>
    have h6:w6.heap[sb]?=some (.cells #[.slice a3 LL.length c3] 93 (0,0)):=(G6.o.block sb (by simp;omega) (λe=>BJ.o.ne S.o.1 e.symm)).trans ((((aB.refl [] wr).alloc _).block sb Ns (by simp)).trans S.o.1);have FS:∀u,aB [sb] w6 (w6.setCell (zA sb) u):=λu=>(aB.refl [sb] w6).setCell (p:=(zA sb)) (.inl (by simp)) u
    have O7:∀u,OW 5 1 W0.heap.size (w6.setCell (zA sb) u) (zS g2 (LL.length+1) aU) (yc (LL++[UInt8.ofNat m])):=λu=>O6.o.aY (FS u) (λr hr hm=>by simp at hm;subst hm;exact YB.ne (.inl O6) h6 hr)
    have K7:∀u,KPs W0.heap.size sb wr (w6.setCell (zA sb) u):=λu=>((KPs.Tk (((aB.refl [sb] wr).alloc _))).trans (KPs.grown (BJ.o.alloc _) G6)).trans (KPs.Tk (FS u))
    have e:L++(nb 1 x.acc.length++nb 2 x.k++(x.cl.take (j+1)).flatMap (nb 1))=LL++[UInt8.ofNat m]:=by rw[HT.o,Dt.o,<-Pj.o];simp
    refine⟨j+1,by omega,by go_num,zS g2 (LL.length+1) aU,⟨?_,nK,.inl ?_⟩,K3.o.trans (K7 _),?_⟩
    ·simp[World.setCell,a0v,h6]
    ·rw[e];exact O7 _
    rw[e];exact O7 _
  have qI:j=256:=by omega
  have gJ:decide ((j:Int)<256)=false:=a0f (by omega);have A4:Z_ (AD W0.heap.size w sb L (nb 1 x.acc.length++nb 2 x.k++x.cl.flatMap (nb 1)) wr):=by
   have h:=A3.o;rw[a0C (by omega)]at h;exact h
  subst qI;clear A3 HC;have FW:=aj ((A4.o.kp).aC F0.o nK);have r2:=(U.o.aC FW).ca;go_wp2_with fail
  obtain⟨wB,hwB⟩:∃wB,wB=wr:=⟨_,rfl⟩;rw[<-hwB]at A4 FW r2 |-;clear hwB;go_loopg [46] x.acc.length (λk v46 wr=>∃j:Nat,j+k=x.acc.length/\v46=zI j/\AD W0.heap.size w sb L (nb 1 x.acc.length++nb 2 x.k++x.cl.flatMap (nb 1)++(x.acc.take j).flatMap (nb 1)) wr)
  case atStart=>exact⟨0,by omega,rfl,by simpa using A4.o⟩
  case round =>
   clear A4 FW r2;obtain⟨j,lU,rfl,hA⟩:=hrel;have A5:=aj hA;clear hA
   by_cases aL:j<x.acc.length
   ·have gJ:decide ((j:Int)<(x.acc.length:Int))=true:=a0g (by omega)
    obtain⟨ga,off,e1,_,hga,hca⟩:=RA.o j (by rw[afI];exact aL);subst e1;obtain⟨v5,hS5,hK5,hO5⟩:=A5.o;have F5:=aj (hK5.aC F0.o nK);have kG:zC wr ga (off+j) (.bool (x.acc[j]==1)):=by
     have h:=hca 0 (.bool (x.acc[j]==1)) (by simp[bc]);rw[a1H,a1Q]at h;exact(F5.o.cell (p:=(zB ga (off+j))) hga (by simp)).trans h
    have h01:x.acc[j]<2:=OK.o.acc _ (a0u aL);have HT:Z_ ((x.acc.take (j+1)).flatMap (nb 1)=(x.acc.take j).flatMap (nb 1)++nb 1 x.acc[j]):=by
     show _=_;rw[a0F aL,List.flatMap_append];simp
    have hlen:(L++(nb 1 x.acc.length++nb 2 x.k++x.cl.flatMap (nb 1)++(x.acc.take j).flatMap (nb 1))).length<=600000000:=by
     have e1:(x.acc.flatMap (nb 1)).length=((x.acc.take j).flatMap (nb 1)).length+((x.acc.drop j).flatMap (nb 1)).length:=by rw[<-a0p,<-List.flatMap_append,a1C]
     simp only[a0p,cz];omega
    have N5:=aj (bz 1 W0.heap.size sb v5 _ x.acc[j] 1 wr (by omega) (by omega) rfl hS5 (by omega) F5.o.size (by omega));generalize x.acc[j]=m at *;clear hS5 hK5 hO5 hca;have aog:m=0\/m=1:=by omega
    rcases aog with rfl|rfl
    all_goals
     go_wp2_with fail
     refine(N5.o).mono ?_;rintro e w6 ⟨rfl,hA6⟩;have A6:=aj (A5.o.add (λ_ _=>hA6));clear hA6 N5;go_wp2_with fail
     go_roundg (gk-1)
     case measure=>omega
     case rel =>
      refine⟨j+1,by omega,by go_num,?_⟩;rw[HT.o,<-a0M];exact A6
   have qI:j=x.acc.length:=by omega
   have gJ:decide ((j:Int)<(x.acc.length:Int))=false:=a0f (by omega);have A6:Z_ (AD W0.heap.size w sb L (nb 1 x.acc.length++nb 2 x.k++x.cl.flatMap (nb 1)++x.acc.flatMap (nb 1)) wr):=by
    have h:=A5.o;rw[a0C (by omega)]at h;exact h
   clear A5 qI;have FW:=aj ((A6.o.kp).aC F0.o nK);have r2:=(U.o.aC FW).cn;go_wp2_with fail
   obtain⟨wC,hwC⟩:∃wC,wC=wr:=⟨_,rfl⟩;rw[<-hwC]at A6 FW r2 |-;clear hwC;go_loopg [61] x.nx.length (λk v61 wr=>∃j:Nat,j+k=x.nx.length/\v61=zI j/\AD W0.heap.size w sb L (nb 1 x.acc.length++nb 2 x.k++x.cl.flatMap (nb 1)++x.acc.flatMap (nb 1)++(x.nx.take j).flatMap (nb 1)) wr)
   case atStart=>exact⟨0,by omega,rfl,by simpa using A6.o⟩
   case round =>
    clear A6 FW r2;obtain⟨j2,aqJ,rfl,hA⟩:=hrel;have A7:=aj hA;clear hA
    by_cases ng:j2<x.nx.length
    ·have gJ:decide ((j2:Int)<(x.nx.length:Int))=true:=a0g (by omega)
     obtain⟨ga,off,e1,_,hga,hca⟩:=RN.o j2 (by rw[TM];exact ng);subst e1;obtain⟨v5,hS5,hK5,hO5⟩:=A7.o;have F5:=aj (hK5.aC F0.o nK);have kG:zC wr ga (off+j2) (zI (x.nx[j2]:Nat)):=by
      have h:=hca 0 (zI (x.nx[j2]:Nat)) (by simp[ic]);rw[a1H,a1Q]at h;exact(F5.o.cell (p:=(zB ga (off+j2))) hga (by simp)).trans h
     have h01:x.nx[j2]<x.acc.length:=OK.o.nxs _ (a0u ng);have HT:Z_ ((x.nx.take (j2+1)).flatMap (nb 1)=(x.nx.take j2).flatMap (nb 1)++nb 1 x.nx[j2]):=by
      show _=_;rw[a0F ng,List.flatMap_append];simp
     have hlen:(L++(nb 1 x.acc.length++nb 2 x.k++x.cl.flatMap (nb 1)++x.acc.flatMap (nb 1)++(x.nx.take j2).flatMap (nb 1))).length<=600000000:=by
      have e1:(x.nx.flatMap (nb 1)).length=((x.nx.take j2).flatMap (nb 1)).length+((x.nx.drop j2).flatMap (nb 1)).length:=by rw[<-a0p,<-List.flatMap_append,a1C]
      simp only[a0p,cz];omega
     have N5:=aj (bz 1 W0.heap.size sb v5 _ x.nx[j2] 1 wr (by omega) (by omega) rfl hS5 (by omega) F5.o.size (by omega));generalize x.nx[j2]=m at *;clear hS5 hK5 hO5 hca;go_wp2_with fail
     refine(N5.o).mono ?_;rintro e w6 ⟨rfl,hA6⟩;have A8:=aj (A7.o.add (λ_ _=>hA6));clear hA6 N5;go_wp2_with fail
     go_roundg (gk-1)
     case measure=>omega
     case rel =>
      refine⟨j2+1,by omega,by go_num,?_⟩;rw[HT.o,<-a0M];exact A8
    have gJ:decide ((j2:Int)<(x.nx.length:Int))=false:=a0f (by omega);have A8:Z_ (AD W0.heap.size w sb L (eA x) wr):=by
     have h:=A7.o;rw[show x.nx.take j2=x.nx from a0C (by omega)]at h;show AD _ _ _ _ _ _;unfold eA;simpa using h
    go_wp2;go_end0
    exact⟨rfl,A8⟩
open Go.RowKit
abbrev LZ(w:World)(rb:Nat):Prop:=w.heap[rb]?=some (.cells V6.z.cells 56 (0,0))
theorem LZ.c(h:LZ w rb)(j:Nat)(b:j<6):w.cell? ⟨rb,j,none⟩=some (.slice none 0 0):=by
 have a:V6.z.cells=#[.slice none 0 0,.slice none 0 0,.slice none 0 0,.slice none 0 0,.slice none 0 0,.slice none 0 0]:=rfl;simp only[World.cell?,h,a]
 match j,b with
 | 0,_=>rfl
 | 1,_=>rfl
 | 2,_=>rfl
 | 3,_=>rfl
 | 4,_=>rfl
 | 5,_=>rfl
theorem LZ.z(h:LZ w rb)(o:Nat):w.frozen? (zB rb o)=false:=by simp[World.frozen?,h]
end
end Go.Proofs.YtedmellodofajaaGreatDoor
