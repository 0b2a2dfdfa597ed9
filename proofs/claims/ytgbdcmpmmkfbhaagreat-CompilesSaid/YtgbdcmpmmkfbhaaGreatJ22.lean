import Derived.Test.YtgbdcmpmmkfbhaaGreatJ20
import Derived.Laws.CopyOwn
import Derived.Laws.MakeOwn
import Derived.Test.YtgbdcmpmmkfbhaaGreatJ21
import Derived.Test.YtgbdcmpmmkfbhaaGreatJ7
import Derived.Test.YtgbdcmpmmkfbhaaGreatJ16
import Derived.Test.YtgbdcmpmmkfbhaaGreatJ18
import Derived.Test.YtgbdcmpmmkfbhaaGreatJ19
import Derived.Test.YtgbdcmpmmkfbhaaGreatJ14
import Derived.Test.YtgbdcmpmmkfbhaaGreatRows
import Derived.ProofKit
import Derived.OpenShut
import Derived.DataShut
import Derived.SizedLaws
import Derived.Carry
import Derived.Test.YtgbdcmpmmkfbhaaGreatJ1
set_option linter.unusedVariables false
set_option linter.unusedSimpArgs false
set_option linter.unnecessarySimpa false
set_option maxRecDepth 100000
set_option maxHeartbeats 8000000
namespace Go.Proofs.YtgbdcmpmmkfbhaaGreat
open Go.RowKit
theorem apU(g q j:Nat):(⟨g,q,none⟩:Addr).add j=⟨g,q+j,none⟩:=by unfold Addr.add;split<;>simp_all
theorem alloc_at(w:World)(o:Obj)(k:Nat)(h:w.heap.size=k):(w.alloc o).heap[k]?=some o:=by subst h;exact bK w o
def aod(x:C6)(w:World)(e:Ending)(w':World):Prop :=
 ∃g,e=.returned (.agg (aV x (.slice (some ⟨g,0,none⟩) x.bl.length x.bl.length)))/\aA [] w w'/\w.heap.size<=g/\g<w'.heap.size/\RW [] 1 w' (.slice (some ⟨g,0,none⟩) x.bl.length x.bl.length) (sc x.bl)
theorem afv(W:World)(g:Nat)(bl:List LB)(ax:Option Addr)(cx:Nat)(Z:List Value)(hZ:Z.length=bl.length)(hg:W.heap[g]?=some (.cells Z.toArray 9 (0,0)))(hr:RW [] 1 W (.slice ax bl.length cx) (sc bl)) :
 ∃W4,(Builtin.copy_ #[35,35] 3 #[.slice (some ⟨g,0,none⟩) bl.length bl.length,.slice ax bl.length cx]).run Tryz.prog W=.ok (.int .i64 (bl.length:Int)) W4/\W4.heap[g]?=some (.cells (bl.map λs=>Value.string (bs s)).toArray 9 (0,0))/\Below g W W4:=by
 by_cases h0:bl=[]
 ·subst h0
  obtain rfl:Z=[]:=a1l hZ;exact⟨W,run_copy_none (P:=Tryz.prog) W 35 35 3 9 _ _ 0 0 0 cx Tryz.underlying35 aal rfl,hg,Below.refl _ _⟩
 have afS:0<bl.length:=a1P.2 h0;obtain⟨a',c',e,iN⟩:=hr.str;simp only[Value.slice.injEq,a1X]at e;obtain⟨rfl,rfl⟩:=e;obtain⟨ga,oa,rfl,_,_⟩:=iN 0 afS;have hl:(bl.map λs=>Value.string (bs s)).length=bl.length:=by simp
 have anb:=run_copy_row Tryz.prog W 35 35 3 9 g 0 bl.length bl.length ⟨ga,oa,none⟩ bl.length cx Z.toArray 9 (bl.map λs=>Value.string (bs s)) Tryz.underlying35 aal hg (by rw[hl];exact(Nat.min_self _).symm) (by
  intro j v hv;rw[a1d,Option.map_eq_some_iff]at hv;obtain⟨y,hy,rfl⟩:=hv;obtain⟨hj,rfl⟩:=a0i.1 hy;obtain⟨g',off',e',hg',hc'⟩:=iN j hj;simp only[Option.some.injEq,Addr.mk.injEq,and_true]at e';obtain⟨rfl,rfl⟩:=e';rw[apU];exact hc') (by simp[hZ]) (by
  intro v hv;obtain⟨y,_,rfl⟩:=a0s.1 hv
  rfl)
 rw[hl]at anb;refine⟨_,anb,?_,below_setRow (Below.refl _ _) (a0a _) _⟩;rw[setRow_heap W g _ _ 9 _ hg];have e2:Z.drop bl.length=[]:=a0p (by omega);simp[e2]
theorem J7(x:C6)(c:CR)(aa:Option Addr)(ca:Nat)(dP iB:Value)(w:World)(ha:RW [] 1 w (.slice aa x.bl.length ca) (sc x.bl))(hb:RW [] 1 w dP (sc c.nU))(Ph:∃ai ci,iB=.slice ai c.ifs.length ci)(hx:x.bl.length<=1000)(hc:c.nU.length<=1000)(hw:-1<=c.wt/\-1<=c.ev/\-1<=c.rp) :
 Calls Tryz.prog 30 #[.agg (aV x (.slice aa x.bl.length ca)),.agg (rcl c dP iB)] w (aod (pQ x c) w):=by
 obtain⟨ai,ci,rfl⟩:=Ph;obtain⟨ay,cy,rfl,_⟩:=hb.str;have T1:Z_ (∀W,Calls Tryz.prog 46 #[.int .i64 c.wt,.int .i64 (x.wt:Nat)] W λe w'=>e=.returned (.int .i64 (yP c.wt x.wt:Nat))/\W=w'):=λW=>H9 W c.wt x.wt hw.1
 have T2:Z_ (∀W,Calls Tryz.prog 46 #[.int .i64 c.ev,.int .i64 (x.ev:Nat)] W λe w'=>e=.returned (.int .i64 (yP c.ev x.ev:Nat))/\W=w'):=λW=>H9 W c.ev x.ev hw.2.1
 have T3:Z_ (∀W,Calls Tryz.prog 46 #[.int .i64 c.rp,.int .i64 (x.rp:Nat)] W λe w'=>e=.returned (.int .i64 (yP c.rp x.rp:Nat))/\W=w'):=λW=>H9 W c.rp x.rp hw.2.2
 obtain⟨rc2,agz⟩:∃rc2,rc2=if c.rc == [45] then x.rc else c.rc:=⟨_,rfl⟩
 obtain⟨bl,jO⟩:∃bl,bl=if c.tb then c.nU else x.bl:=⟨_,rfl⟩
 have HH:Z_ (pQ x c=⟨rc2,bl,yP c.wt x.wt,yP c.ev x.ev,yP c.rp x.rp⟩):=by show _=_;rw[agz,jO];rfl
 obtain⟨ax,cx,hvx,hRx⟩:∃ax cx,(if c.tb then Value.slice ay c.nU.length cy else .slice aa x.bl.length ca)=.slice ax bl.length cx/\RW [] 1 w (.slice ax bl.length cx) (sc bl):=by
  cases Bf:c.tb
  ·rw[Bf]at jO
   simp only[a0n,a0G]at jO;subst jO;exact⟨aa,ca,rfl,ha⟩
  rw[Bf]at jO;simp only[a0C]at jO;subst jO;exact⟨ay,cy,rfl,hb⟩
 have hlen:bl.length<=1000:=by rw[jO];split<;>omega
 obtain⟨Zl,hZ⟩:∃Zl:List Value,Zl=(madeCells #[.string ByteArray.empty] bl.length).toList:=⟨_,rfl⟩;have HZL:Z_ (Zl.length=bl.length):=by show _=_;rw[hZ,Array.length_toList];exact size_madeCells _ _
 have hmk:∀u:World,(Instr.makeSlice 35 (.int .i64 (bl.length:Int)) (.int .i64 (bl.length:Int))).run Tryz.prog u=.ok (.slice (some ⟨u.heap.size,0,none⟩) bl.length bl.length) (u.alloc (.cells Zl.toArray 9)):=λu=>by
  obtain⟨i0,hi,iA,fT,gF⟩:=oZ uS;have:=run_make (P:=Tryz.prog) u 35 9 i0 (.string ByteArray.empty) Tryz.underlying35 hi iA .i64 .i64 (bl.length:Int) (bl.length:Int) (by omega) (Int.le_refl _) (by rw[gF];omega) (by omega);rw[fT,Int.toNat_natCast,a1c]at this;rw[this,hZ];rfl
 have FW:aA [] w (((((w.alloc (Obj.cells #[.string (bs x.rc),.slice aa x.bl.length ca,.int .i64 (x.wt:Nat),.int .i64 (x.ev:Nat),.int .i64 (x.rp:Nat)] 101)).alloc (Obj.cells #[.int .i64 (c.d:Nat),.string (bs c.rc),.bool c.tb,.slice ay c.nU.length cy,.int .i64 c.wt,.int .i64 c.ev,.int .i64 c.rp,.slice ai c.ifs.length ci,.bool c.co] 62)).alloc (Obj.cells #[.string { data:=#[] },.slice none 0 0,.int .i64 0,.int .i64 0,.int .i64 0] 101)).alloc (Obj.cells #[.string (bs rc2),.slice (some ⟨w.heap.size+1+1+1+1,0,none⟩) bl.length bl.length,.int .i64 0,.int .i64 0,.int .i64 0] 101)).alloc (Obj.cells Zl.toArray 9)):=(((((aA.refl [] w).alloc _).alloc _).alloc _).alloc _).alloc _;obtain⟨w4,hcp,HG4,hB4⟩:=afv (((((w.alloc (Obj.cells #[.string (bs x.rc),.slice aa x.bl.length ca,.int .i64 (x.wt:Nat),.int .i64 (x.ev:Nat),.int .i64 (x.rp:Nat)] 101)).alloc (Obj.cells #[.int .i64 (c.d:Nat),.string (bs c.rc),.bool c.tb,.slice ay c.nU.length cy,.int .i64 c.wt,.int .i64 c.ev,.int .i64 c.rp,.slice ai c.ifs.length ci,.bool c.co] 62)).alloc (Obj.cells #[.string { data:=#[] },.slice none 0 0,.int .i64 0,.int .i64 0,.int .i64 0] 101)).alloc (Obj.cells #[.string (bs rc2),.slice (some ⟨w.heap.size+1+1+1+1,0,none⟩) bl.length bl.length,.int .i64 0,.int .i64 0,.int .i64 0] 101)).alloc (Obj.cells Zl.toArray 9)) (w.heap.size+1+1+1+1) bl ax cx Zl HZL.o (alloc_at _ _ _ (by simp)) (hRx.aB FW (by simp));have F4:=aj (FW.abA hB4 (by omega));have C0:=(hB4.block w.heap.size (by omega)).trans (((((((aA.refl [] _).alloc _).alloc _).alloc _).alloc _).block w.heap.size (by simp) (by simp)).trans (bK _ _));have C1:=(hB4.block (w.heap.size+1) (by omega)).trans ((((((aA.refl [] _).alloc _).alloc _).alloc _).block (w.heap.size+1) (by simp) (by simp)).trans (alloc_at _ _ (w.heap.size+1) (by simp)));have C2:=(hB4.block (w.heap.size+1+1) (by omega)).trans (((((aA.refl [] _).alloc _).alloc _).block (w.heap.size+1+1) (by simp) (by simp)).trans (alloc_at _ _ (w.heap.size+1+1) (by simp)));have C3:=(hB4.block (w.heap.size+1+1+1) (by omega)).trans ((((aA.refl [] _).alloc _).block (w.heap.size+1+1+1) (by simp) (by simp)).trans (alloc_at _ _ (w.heap.size+1+1+1) (by simp)));have a2:w4.cell? ⟨w.heap.size,2,none⟩=some (.int .i64 (x.wt:Nat)):=by simp[World.cell?,C0]
 have a3:w4.cell? ⟨w.heap.size,3,none⟩=some (.int .i64 (x.ev:Nat)):=by simp[World.cell?,C0]
 have a4:w4.cell? ⟨w.heap.size,4,none⟩=some (.int .i64 (x.rp:Nat)):=by simp[World.cell?,C0]
 have r4:w4.cell? ⟨w.heap.size+1,4,none⟩=some (.int .i64 c.wt):=by simp[World.cell?,C1]
 have r5:w4.cell? ⟨w.heap.size+1,5,none⟩=some (.int .i64 c.ev):=by simp[World.cell?,C1]
 have r6:w4.cell? ⟨w.heap.size+1,6,none⟩=some (.int .i64 c.rp):=by simp[World.cell?,C1]
 have e0:w4.cell? ⟨w.heap.size+1+1,0,none⟩=some (.string { data:=#[] }):=by simp[World.cell?,C2]
 have e1:w4.cell? ⟨w.heap.size+1+1,1,none⟩=some (.slice none 0 0):=by simp[World.cell?,C2]
 have e2:w4.cell? ⟨w.heap.size+1+1,2,none⟩=some (.int .i64 0):=by simp[World.cell?,C2]
 have e3:w4.cell? ⟨w.heap.size+1+1,3,none⟩=some (.int .i64 0):=by simp[World.cell?,C2]
 have e4:w4.cell? ⟨w.heap.size+1+1,4,none⟩=some (.int .i64 0):=by simp[World.cell?,C2]
 have ez:∀o,w4.frozen? ⟨w.heap.size+1+1,o,none⟩=false:=λo=>by simp[World.frozen?,C2]
 have h0:w4.cell? ⟨w.heap.size+1+1+1,0,none⟩=some (.string (bs rc2)):=by simp[World.cell?,C3]
 have h1:w4.cell? ⟨w.heap.size+1+1+1,1,none⟩=some (.slice (some ⟨w.heap.size+1+1+1+1,0,none⟩) bl.length bl.length):=by simp[World.cell?,C3]
 have h2:w4.cell? ⟨w.heap.size+1+1+1,2,none⟩=some (.int .i64 0):=by simp[World.cell?,C3]
 have h3:w4.cell? ⟨w.heap.size+1+1+1,3,none⟩=some (.int .i64 0):=by simp[World.cell?,C3]
 have h4:w4.cell? ⟨w.heap.size+1+1+1,4,none⟩=some (.int .i64 0):=by simp[World.cell?,C3]
 have Vk:∀o,w4.frozen? ⟨w.heap.size+1+1+1,o,none⟩=false:=λo=>by simp[World.frozen?,C3]
 have C2H:=aj C2;have HG:=aj HG4;have RJ:w.heap.size+1+1+1+1<w4.heap.size:=(a0d.1 HG4).1;have hl:=bg;have aoC:({ data:=#[45] }:ByteArray).toList=[45]:=bg [45];clear C0 C1 C2 C3 hB4 FW HG4 ha hb hRx hZ;simp only[aV,rcl];go_enter Tryz.func30,Tryz.ntmps30
 cases Bf:c.tb<;>cases qQ:(c.rc == [45])
 all_goals
  rw[Bf]at jO hvx hcp;rw[qQ]at agz;simp only[a0n,a0G,a0C,Value.slice.injEq]at jO hvx agz;subst jO agz;obtain⟨rfl,_,rfl⟩:=hvx
 ·go_wp2_with fail
  refine(T1.o _).mono ?_;rintro e w' ⟨rfl,rfl⟩;go_wp2_with fail
  refine(T2.o _).mono ?_;rintro e w' ⟨rfl,rfl⟩;go_wp2_with fail
  refine(T3.o _).mono ?_;rintro e w' ⟨rfl,rfl⟩;go_wp2_with fail
  have FS:∀(u:World) (o:Nat) (v:Value),aA [w.heap.size+1+1+1] u (u.setCell ⟨w.heap.size+1+1+1,o,none⟩ v):=λu o v=>(aA.refl _ _).setCell (p:=⟨w.heap.size+1+1+1,o,none⟩) (.inl (by simp)) _
  have lK:=λ(u:World) (o:Nat) (v:Value)=>(FS u o v).size
  refine bodyPost_ret (vR rfl _ _ (w.heap.size+1+1) (aV ⟨c.rc,x.bl,yP c.wt x.wt,yP c.ev x.ev,yP c.rp x.rp⟩ (.slice (some ⟨w.heap.size+1+1+1+1,0,none⟩) x.bl.length x.bl.length)) rfl (NW (I8 _ _ _ _ _ (((FS _ _ _).block (w.heap.size+1+1) (by have:=lK;simp;omega) (by simp)).trans (((FS _ _ _).block (w.heap.size+1+1) (by simp;omega) (by simp)).trans (((FS _ _ _).block (w.heap.size+1+1) (by omega) (by simp)).trans C2H)))) rfl)) rfl ?_;have R4:RW [w.heap.size+1+1,w.heap.size+1+1+1] 1 w4 (.slice (some ⟨w.heap.size+1+1+1+1,0,none⟩) x.bl.length x.bl.length) (sc x.bl):=by
   refine⟨_,x.bl.length,by rw[jq],by rw[jq];exact a0a _,λj hj=>⟨w.heap.size+1+1+1+1,0,rfl,by simp<;>omega,RJ,λk u hu=>?_⟩⟩;rw[jq]at hj;have hu2:k=0:=by
    cases k with
    | zero=>rfl
    | succ k=>simp[sc]at hu
   subst hu2;simp[sc]at hu;subst hu;simp[World.cell?,HG.o,hj]
  rw[HH.o];refine⟨w.heap.size+1+1+1+1,rfl,?_,by omega,?_,?_⟩
  ·exact(((F4.o.over (FS _ _ _) (by simp;omega)).over (FS _ _ _) (by simp;omega)).over (FS _ _ _) (by simp;omega)).over (kG _ _ _ _ _ _ _) (by simp;omega)
  ·exact a0x RJ (a0e (a0e (a0e (FS _ _ _).size (FS _ _ _).size) (FS _ _ _).size) (kG _ _ _ _ _ _ _).size)
  exact((((R4.aB (FS _ _ _) (by simp)).aB (FS _ _ _) (by simp)).aB (FS _ _ _) (by simp)).aB (kG _ _ _ _ _ _ _) (by simp)).bW (by simp)
 ·go_wp2_with fail
  refine(T1.o _).mono ?_;rintro e w' ⟨rfl,rfl⟩;go_wp2_with fail
  refine(T2.o _).mono ?_;rintro e w' ⟨rfl,rfl⟩;go_wp2_with fail
  refine(T3.o _).mono ?_;rintro e w' ⟨rfl,rfl⟩;go_wp2_with fail
  have FS:∀(u:World) (o:Nat) (v:Value),aA [w.heap.size+1+1+1] u (u.setCell ⟨w.heap.size+1+1+1,o,none⟩ v):=λu o v=>(aA.refl _ _).setCell (p:=⟨w.heap.size+1+1+1,o,none⟩) (.inl (by simp)) _
  have lK:=λ(u:World) (o:Nat) (v:Value)=>(FS u o v).size
  refine bodyPost_ret (vR rfl _ _ (w.heap.size+1+1) (aV ⟨x.rc,x.bl,yP c.wt x.wt,yP c.ev x.ev,yP c.rp x.rp⟩ (.slice (some ⟨w.heap.size+1+1+1+1,0,none⟩) x.bl.length x.bl.length)) rfl (NW (I8 _ _ _ _ _ (((FS _ _ _).block (w.heap.size+1+1) (by have:=lK;simp;omega) (by simp)).trans (((FS _ _ _).block (w.heap.size+1+1) (by simp;omega) (by simp)).trans (((FS _ _ _).block (w.heap.size+1+1) (by omega) (by simp)).trans C2H)))) rfl)) rfl ?_;have R4:RW [w.heap.size+1+1,w.heap.size+1+1+1] 1 w4 (.slice (some ⟨w.heap.size+1+1+1+1,0,none⟩) x.bl.length x.bl.length) (sc x.bl):=by
   refine⟨_,x.bl.length,by rw[jq],by rw[jq];exact a0a _,λj hj=>⟨w.heap.size+1+1+1+1,0,rfl,by simp<;>omega,RJ,λk u hu=>?_⟩⟩;rw[jq]at hj;have hu2:k=0:=by
    cases k with
    | zero=>rfl
    | succ k=>simp[sc]at hu
   subst hu2;simp[sc]at hu;subst hu;simp[World.cell?,HG.o,hj]
  rw[HH.o];refine⟨w.heap.size+1+1+1+1,rfl,?_,by omega,?_,?_⟩
  ·exact(((F4.o.over (FS _ _ _) (by simp;omega)).over (FS _ _ _) (by simp;omega)).over (FS _ _ _) (by simp;omega)).over (kG _ _ _ _ _ _ _) (by simp;omega)
  ·exact a0x RJ (a0e (a0e (a0e (FS _ _ _).size (FS _ _ _).size) (FS _ _ _).size) (kG _ _ _ _ _ _ _).size)
  exact((((R4.aB (FS _ _ _) (by simp)).aB (FS _ _ _) (by simp)).aB (FS _ _ _) (by simp)).aB (kG _ _ _ _ _ _ _) (by simp)).bW (by simp)
 ·go_wp2_with fail
  refine(T1.o _).mono ?_;rintro e w' ⟨rfl,rfl⟩;go_wp2_with fail
  refine(T2.o _).mono ?_;rintro e w' ⟨rfl,rfl⟩;go_wp2_with fail
  refine(T3.o _).mono ?_;rintro e w' ⟨rfl,rfl⟩;go_wp2_with fail
  have FS:∀(u:World) (o:Nat) (v:Value),aA [w.heap.size+1+1+1] u (u.setCell ⟨w.heap.size+1+1+1,o,none⟩ v):=λu o v=>(aA.refl _ _).setCell (p:=⟨w.heap.size+1+1+1,o,none⟩) (.inl (by simp)) _
  have lK:=λ(u:World) (o:Nat) (v:Value)=>(FS u o v).size
  refine bodyPost_ret (vR rfl _ _ (w.heap.size+1+1) (aV ⟨c.rc,c.nU,yP c.wt x.wt,yP c.ev x.ev,yP c.rp x.rp⟩ (.slice (some ⟨w.heap.size+1+1+1+1,0,none⟩) c.nU.length c.nU.length)) rfl (NW (I8 _ _ _ _ _ (((FS _ _ _).block (w.heap.size+1+1) (by have:=lK;simp;omega) (by simp)).trans (((FS _ _ _).block (w.heap.size+1+1) (by simp;omega) (by simp)).trans (((FS _ _ _).block (w.heap.size+1+1) (by omega) (by simp)).trans C2H)))) rfl)) rfl ?_;have R4:RW [w.heap.size+1+1,w.heap.size+1+1+1] 1 w4 (.slice (some ⟨w.heap.size+1+1+1+1,0,none⟩) c.nU.length c.nU.length) (sc c.nU):=by
   refine⟨_,c.nU.length,by rw[jq],by rw[jq];exact a0a _,λj hj=>⟨w.heap.size+1+1+1+1,0,rfl,by simp<;>omega,RJ,λk u hu=>?_⟩⟩;rw[jq]at hj;have hu2:k=0:=by
    cases k with
    | zero=>rfl
    | succ k=>simp[sc]at hu
   subst hu2;simp[sc]at hu;subst hu;simp[World.cell?,HG.o,hj]
  rw[HH.o];refine⟨w.heap.size+1+1+1+1,rfl,?_,by omega,?_,?_⟩
  ·exact(((F4.o.over (FS _ _ _) (by simp;omega)).over (FS _ _ _) (by simp;omega)).over (FS _ _ _) (by simp;omega)).over (kG _ _ _ _ _ _ _) (by simp;omega)
  ·exact a0x RJ (a0e (a0e (a0e (FS _ _ _).size (FS _ _ _).size) (FS _ _ _).size) (kG _ _ _ _ _ _ _).size)
  exact((((R4.aB (FS _ _ _) (by simp)).aB (FS _ _ _) (by simp)).aB (FS _ _ _) (by simp)).aB (kG _ _ _ _ _ _ _) (by simp)).bW (by simp)
 go_wp2_with fail
 refine(T1.o _).mono ?_;rintro e w' ⟨rfl,rfl⟩;go_wp2_with fail
 refine(T2.o _).mono ?_;rintro e w' ⟨rfl,rfl⟩;go_wp2_with fail
 refine(T3.o _).mono ?_;rintro e w' ⟨rfl,rfl⟩;go_wp2_with fail
 have FS:∀(u:World) (o:Nat) (v:Value),aA [w.heap.size+1+1+1] u (u.setCell ⟨w.heap.size+1+1+1,o,none⟩ v):=λu o v=>(aA.refl _ _).setCell (p:=⟨w.heap.size+1+1+1,o,none⟩) (.inl (by simp)) _
 have lK:=λ(u:World) (o:Nat) (v:Value)=>(FS u o v).size
 refine bodyPost_ret (vR rfl _ _ (w.heap.size+1+1) (aV ⟨x.rc,c.nU,yP c.wt x.wt,yP c.ev x.ev,yP c.rp x.rp⟩ (.slice (some ⟨w.heap.size+1+1+1+1,0,none⟩) c.nU.length c.nU.length)) rfl (NW (I8 _ _ _ _ _ (((FS _ _ _).block (w.heap.size+1+1) (by have:=lK;simp;omega) (by simp)).trans (((FS _ _ _).block (w.heap.size+1+1) (by simp;omega) (by simp)).trans (((FS _ _ _).block (w.heap.size+1+1) (by omega) (by simp)).trans C2H)))) rfl)) rfl ?_;have R4:RW [w.heap.size+1+1,w.heap.size+1+1+1] 1 w4 (.slice (some ⟨w.heap.size+1+1+1+1,0,none⟩) c.nU.length c.nU.length) (sc c.nU):=by
  refine⟨_,c.nU.length,by rw[jq],by rw[jq];exact a0a _,λj hj=>⟨w.heap.size+1+1+1+1,0,rfl,by simp<;>omega,RJ,λk u hu=>?_⟩⟩;rw[jq]at hj;have hu2:k=0:=by
   cases k with
   | zero=>rfl
   | succ k=>simp[sc]at hu
  subst hu2;simp[sc]at hu;subst hu;simp[World.cell?,HG.o,hj]
 rw[HH.o];refine⟨w.heap.size+1+1+1+1,rfl,?_,by omega,?_,?_⟩
 ·exact(((F4.o.over (FS _ _ _) (by simp;omega)).over (FS _ _ _) (by simp;omega)).over (FS _ _ _) (by simp;omega)).over (kG _ _ _ _ _ _ _) (by simp;omega)
 ·exact a0x RJ (a0e (a0e (a0e (FS _ _ _).size (FS _ _ _).size) (FS _ _ _).size) (kG _ _ _ _ _ _ _).size)
 exact((((R4.aB (FS _ _ _) (by simp)).aB (FS _ _ _) (by simp)).aB (FS _ _ _) (by simp)).aB (kG _ _ _ _ _ _ _) (by simp)).bW (by simp)
open Go.RowKit
theorem XX(C:List CR):∀n,(jr C n).length=n
 | 0=>rfl
 | n+1=>by rw[jr];simp[XX C n]
theorem ah5(C:List CR)(j:Nat)(hj:j<C.length):jr C (j+1)=jr C j++[pQ (AR C (jr C j) j) C[j]]:=by
 rw[jr,a0c hj]
theorem Qq{C:List CR}(hb:∀c∈C,c.nU.length<=4):∀n,∀x∈jr C n,x.bl.length<=4
 | 0,x,h=>by simp[jr]at h
 | n+1,x,h=>by
   rw[jr,a0b,a0y]at h;rcases h with h|rfl
   ·exact Qq hb n x h
   split
   ·rename_i c hc
    have h1:=hb c (a0M hc);have h2:(AR C (jr C n) n).bl.length<=4:=by
     unfold AR
     split
     ·rename_i p _
      by_cases hp:p<(jr C n).length
      ·rw[a0F,a0c hp]
       exact Qq hb n _ (a0z hp)
      rw[a0F,a1W (by omega)];simp[o6]
     simp[o6]
    simp only[pQ]
    split<;>assumption
   simp[o6]
theorem al6{C:List CR}{j p:Nat}(h:par C j=some p):p<j:=by
 unfold par at h
 split at h
 ·exact(Ol h)
 cases h
 where
 Ol {C:List CR} {d:Nat}:∀{i p:Nat},rZ C d i=some p->p<i
 | 0,p,h=>by simp[rZ]at h
 | j+1,p,h=>by
   rw[rZ]at h
   split at h
   ·cases h;omega
   have:=Ol h;omega
theorem aaz(w:World)(h1:LB)(h2:List LB)(h3 h4 h5 g:Nat)(j:Nat)(u:Value)(hu:(aV ⟨h1,h2,h3,h4,h5⟩ (.slice (some ⟨g,0,none⟩) h2.length h2.length)).toList[j]?=some u):(w.alloc (Obj.cells #[.string (bs h1),.slice (some ⟨g,0,none⟩) h2.length h2.length,.int .i64 (h3:Nat),.int .i64 (h4:Nat),.int .i64 (h5:Nat)] 101)).cell? ⟨w.heap.size,j,none⟩=some u:=by
 have:=bK w (Obj.cells #[.string (bs h1),.slice (some ⟨g,0,none⟩) h2.length h2.length,.int .i64 (h3:Nat),.int .i64 (h4:Nat),.int .i64 (h5:Nat)] 101);simp only[World.cell?,this];simpa[aV] using hu
theorem ah6(A:LN)(w:World)(hA:∀g∈A,g<w.heap.size)(v:Value)(C:List CR)(h:LQ [] w v C)(hC:C.length<=1000)(hg:∀c∈C,c.d<=1048576/\c.nU.length<=4/\-1<=c.wt/\-1<=c.ev/\-1<=c.rp) :
 Calls Tryz.prog 16 #[v] w λe w'=>∃v' eu,e=.returned v'/\aA [] w w'/\OW 101 5 w.heap.size w' v' (iO eu)/\iG adM (A++v'.ownBlock.toList) w' eu (jr C C.length):=by
 have HA:=aj hA;have HRT:=aj h;obtain⟨C8,q1,q2⟩:=h;obtain⟨a,cap,rfl,r⟩:=yO q1 q2;have R:=aj r;have HG:=aj hg;clear q1 q2 r hg;go_enter Tryz.func16,Tryz.ntmps16
 go_wp2_with fail
 go_loopg [3,11] C.length (λk v3 v11 wr=>∃(j:Nat) (eu:List (Array Value)),j+k=C.length/\v11=.int .i64 j/\eu.length=j/\aA [] w wr/\OW 101 5 w.heap.size wr v3 (iO eu)/\Z_ (iG adM (A++v3.ownBlock.toList) wr eu (jr C j)))
 case atStart=>exact⟨0,[],by omega,rfl,rfl,(aA.refl _ _).alloc _,OW.empty _ _ _ _ (a0a _),iG.nil _ _ _⟩
 case round =>
  obtain⟨j,eu,sI,rfl,hcj,hF,hO,HI⟩:=hrel;obtain⟨ao,co,he⟩:=hO.shape;rw[sZ,hcj]at he;subst he;have F:=aj hF;have O:=aj hO;have Jw:=hF.size;have jv:Z_ ((iO eu).length=j):=by show _=_;rw[sZ];exact hcj
  by_cases aO:j<C.length
  ·have iH:decide ((j:Int)<(C.length:Int))=true:=a0h (by omega)
   obtain⟨gr,or,csr,rfl,Ec,_,⟨dP,iB,rfl,DT,Ph⟩,k1⟩:=R.o j aO;obtain⟨ay,cy,rfl,_⟩:=DT.str;obtain⟨ai,ci,DV,_⟩:=Ph;rw[show(Hq C[j].ifs).length=C[j].ifs.length by simp[Hq]]at DV;subst DV;have t0:wr.cell? ⟨gr,or+j*9,none⟩=some (.int .i64 (C[j].d:Nat)):=hF.at (p:=⟨gr,or+j*9+0,none⟩) Ec (k1 0 _ rfl);have t1:wr.cell? ⟨gr,or+j*9+1,none⟩=some (.string (bs C[j].rc)):=hF.at (p:=⟨gr,or+j*9+1,none⟩) Ec (k1 1 _ rfl);have t2:wr.cell? ⟨gr,or+j*9+2,none⟩=some (.bool C[j].tb):=hF.at (p:=⟨gr,or+j*9+2,none⟩) Ec (k1 2 _ rfl);have t3:wr.cell? ⟨gr,or+j*9+3,none⟩=some (.slice ay C[j].nU.length cy):=hF.at (p:=⟨gr,or+j*9+3,none⟩) Ec (k1 3 _ rfl);have t4:wr.cell? ⟨gr,or+j*9+4,none⟩=some (.int .i64 C[j].wt):=hF.at (p:=⟨gr,or+j*9+4,none⟩) Ec (k1 4 _ rfl);have t5:wr.cell? ⟨gr,or+j*9+5,none⟩=some (.int .i64 C[j].ev):=hF.at (p:=⟨gr,or+j*9+5,none⟩) Ec (k1 5 _ rfl);have t6:wr.cell? ⟨gr,or+j*9+6,none⟩=some (.int .i64 C[j].rp):=hF.at (p:=⟨gr,or+j*9+6,none⟩) Ec (k1 6 _ rfl);have t7:wr.cell? ⟨gr,or+j*9+7,none⟩=some (.slice ai C[j].ifs.length ci):=hF.at (p:=⟨gr,or+j*9+7,none⟩) Ec (k1 7 _ rfl);have t8:wr.cell? ⟨gr,or+j*9+8,none⟩=some (.bool C[j].co):=hF.at (p:=⟨gr,or+j*9+8,none⟩) Ec (k1 8 _ rfl);have N1:Z_ (∀W,aA [] w W->Calls Tryz.prog 29 #[.slice (some ⟨gr,or,none⟩) C.length cap,.int .i64 j] W λe w'=>e=.returned (.int .i64 (C9 C j))/\∃q,w'=W.drewN q):=λW hW=>JZ W _ [] C (HRT.o.aB hW (by simp)) (by omega) (λc hm=>(HG.o c hm).1) j aO
   have Lb:=HG.o C[j] (a0z aO);have Po:=aj (ah5 C j aO);have HBY:=aj DT;have apV:gr<wr.heap.size:=by omega
   clear k1 DT hF hO;cases hp:par C j with
   | none =>
     have Sk:C9 C j=-1:=by unfold C9;rw[hp]
     have qZ:AR C (jr C j) j=o6:=by unfold AR;rw[hp]
     rw[Sk]at N1;rw[qZ]at Po;have N2:Z_ (∀W,aA [] w W->Calls Tryz.prog 30 #[.agg #[.string { data:=#[] },.slice none 0 0,.int .i64 30,.int .i64 300,.int .i64 14400],.agg #[.int .i64 (C[j].d:Nat),.string (bs C[j].rc),.bool C[j].tb,.slice ay C[j].nU.length cy,.int .i64 C[j].wt,.int .i64 C[j].ev,.int .i64 C[j].rp,.slice ai C[j].ifs.length ci,.bool C[j].co]] W λe w'=>∃g,e=.returned (.agg #[.string (bs (pQ o6 C[j]).rc),.slice (some ⟨g,0,none⟩) (pQ o6 C[j]).bl.length (pQ o6 C[j]).bl.length,.int .i64 ((pQ o6 C[j]).wt:Nat),.int .i64 ((pQ o6 C[j]).ev:Nat),.int .i64 ((pQ o6 C[j]).rp:Nat)])/\aA [] W w'/\W.heap.size<=g/\g<w'.heap.size/\RW [] 1 w' (.slice (some ⟨g,0,none⟩) (pQ o6 C[j]).bl.length (pQ o6 C[j]).bl.length) (sc (pQ o6 C[j]).bl)):=λW hW=>J7 o6 C[j] none 0 _ _ W (RW.nil _ _ _) (HBY.o.aB hW (by simp)) ⟨ai,ci,rfl⟩ (by simp[o6]) (by omega) ⟨Lb.2.2.1,Lb.2.2.2.1,Lb.2.2.2.2⟩
     generalize pQ o6 C[j]=y at *;obtain⟨h1,h2,h3,h4,h5⟩:=y;simp only at N2;generalize C[j]=c at *;clear hp Sk qZ;go_wp2_with fail
     refine(N1.o _ ((F.o.alloc _).alloc _)).mono ?_;clear N1;rintro e w2 ⟨rfl,qn,rfl⟩;go_wp2_with fail
     refine(N2.o _ (((F.o.alloc _).alloc _).drewN _)).mono ?_;clear N2;rintro e w3 ⟨g,rfl,Df,hg,hg3,hR3⟩;have FA:aA [] wr w3:=((((aA.refl [] wr).alloc _).alloc _).drewN _).trans Df;have MN:wr.heap.size<=g:=by simp at hg;omega
     have hob:∀r,Value.ownBlock (.slice ao j co)=some r->r<wr.heap.size:=λr hr=>(O.o.lt hr).2
     have R3:=aj (hR3.akF (B:=A++(Value.ownBlock (.slice ao j co)).toList) (λhm=>by simp at hm;rcases hm with hm|hm;have:=HA.o g hm;omega;have:=hob g hm;omega));have O3:=aj (O.o.aB FA (by simp));have I3:=aj (HI.o.aB FA (by simp));have F3:=aj (F.o.trans FA);have uP:=FA.size;clear Df hg hg3 hR3 FA MN hob t0 t1 t2 t3 t4 t5 t6 t7 t8;go_wp2_with (at_builtin;refine og _ rfl _ _ 43 101 _ 5 64 adL Tryz.underlying43 rfl (by omega) rfl w.heap.size (.slice ao j co) (iO eu) w3.heap.size (aV ⟨h1,h2,h3,h4,h5⟩ (.slice (some ⟨g,0,none⟩) h2.length h2.length)).toList rfl (O3.o.aB (S:=[]) ((aA.refl [] _).alloc _) (by simp)) rfl rfl (aaz _ _ _ _ _ _ _) (by intro u hu;simp[aV]at hu;rcases hu with rfl|rfl|rfl|rfl|rfl<;>rfl) (by rw[jv.o];omega) (by rw[jv.o];omega) (by simp;omega) ?_;intro gg aP w5 lU aG aX adT;rw[jv.o]at lU |-;have F5:Z_ (aA [] w w5):=(F3.o.alloc _).grown aG (λr hr=>.inr (O3.o.lt hr).1);have O5:=aj lU;have I5:Z_ (iG adM (A++[gg]) w5 (eu++[aV ⟨h1,h2,h3,h4,h5⟩ (.slice (some ⟨g,0,none⟩) h2.length h2.length)]) (jr C j++[⟨h1,h2,h3,h4,h5⟩])):=((I3.o.aB (S:=[]) ((aA.refl [] _).alloc _) (by simp)).snoc ⟨g,rfl,R3.o.aB (S:=[]) ((aA.refl [] _).alloc _) (by simp)⟩).app aG aX;clear lU aG aX)
     go_roundg (gk-1)
     case measure=>omega
     case rel =>
      have O6:=O5.o;rw[y7]at O6;refine⟨j+1,eu++[aV ⟨h1,h2,h3,h4,h5⟩ (.slice (some ⟨g,0,none⟩) h2.length h2.length)],by omega,by go_num,by simp;omega,F5,O6,?_⟩;show iG _ _ _ _ _;rw[Po.o];exact I5
   | some p =>
     have hpj:=al6 hp;have Sk:C9 C j=(p:Int):=by unfold C9;rw[hp]
     have Js:=XX C j;have pY:p<(jr C j).length:=by omega
     have qZ:AR C (jr C j) j=(jr C j)[p]:=by
      unfold AR;rw[hp];simp only[a0F,a0c pY,Option.getD_some]
     have Na:=Qq (C:=C) (λc hm=>(HG.o c hm).2.1) j _ (a0z pY);rw[Sk]at N1;rw[qZ]at Po;obtain⟨ah,ch,hvh,hrh⟩:=yO (O.o.rw (A:=[]) (by simp)) (HI.o.bW (B:=[]) (by simp));simp only[Value.slice.injEq]at hvh;obtain⟨rfl,hjj,rfl⟩:=hvh;obtain⟨gh,oh,csh,rfl,hgh,_,⟨gp,rfl,KW⟩,kh⟩:=hrh p pY;have u0:wr.cell? ⟨gh,oh+p*5,none⟩=some (.string (bs (jr C j)[p].rc)):=kh 0 _ rfl;have u1:wr.cell? ⟨gh,oh+p*5+1,none⟩=some (.slice (some ⟨gp,0,none⟩) (jr C j)[p].bl.length (jr C j)[p].bl.length):=kh 1 _ rfl;have u2:wr.cell? ⟨gh,oh+p*5+2,none⟩=some (.int .i64 ((jr C j)[p].wt:Nat)):=kh 2 _ rfl;have u3:wr.cell? ⟨gh,oh+p*5+3,none⟩=some (.int .i64 ((jr C j)[p].ev:Nat)):=kh 3 _ rfl;have u4:wr.cell? ⟨gh,oh+p*5+4,none⟩=some (.int .i64 ((jr C j)[p].rp:Nat)):=kh 4 _ rfl;have HRP:=aj KW;have hdp:decide ((p:Int)<(j:Int))=true:=a0h (by omega);have ars:decide ((0:Int)<=(p:Int))=true:=a0h (by omega);clear hrh kh KW qZ Sk hp hjj Js;generalize hxx:(jr C j)[p]=xx at *;clear hxx pY;have N2:Z_ (∀W,aA [] wr W->Calls Tryz.prog 30 #[.agg #[.string (bs xx.rc),.slice (some ⟨gp,0,none⟩) xx.bl.length xx.bl.length,.int .i64 (xx.wt:Nat),.int .i64 (xx.ev:Nat),.int .i64 (xx.rp:Nat)],.agg #[.int .i64 (C[j].d:Nat),.string (bs C[j].rc),.bool C[j].tb,.slice ay C[j].nU.length cy,.int .i64 C[j].wt,.int .i64 C[j].ev,.int .i64 C[j].rp,.slice ai C[j].ifs.length ci,.bool C[j].co]] W λe w'=>∃g,e=.returned (.agg #[.string (bs (pQ xx C[j]).rc),.slice (some ⟨g,0,none⟩) (pQ xx C[j]).bl.length (pQ xx C[j]).bl.length,.int .i64 ((pQ xx C[j]).wt:Nat),.int .i64 ((pQ xx C[j]).ev:Nat),.int .i64 ((pQ xx C[j]).rp:Nat)])/\aA [] W w'/\W.heap.size<=g/\g<w'.heap.size/\RW [] 1 w' (.slice (some ⟨g,0,none⟩) (pQ xx C[j]).bl.length (pQ xx C[j]).bl.length) (sc (pQ xx C[j]).bl)):=λW hW=>J7 xx C[j] (some ⟨gp,0,none⟩) xx.bl.length _ _ W (HRP.o.aB hW (by simp)) (HBY.o.aB (F.o.trans hW) (by simp)) ⟨ai,ci,rfl⟩ (by omega) (by omega) ⟨Lb.2.2.1,Lb.2.2.2.1,Lb.2.2.2.2⟩
     generalize pQ xx C[j]=y at *;obtain⟨h1,h2,h3,h4,h5⟩:=y;simp only at N2;generalize C[j]=c at *;go_wp2_with fail
     refine(N1.o _ ((F.o.alloc _).alloc _)).mono ?_;clear N1;rintro e w2 ⟨rfl,qn,rfl⟩;go_wp2_with fail
     refine(N2.o _ (((((aA.refl [] wr).alloc _).alloc _).drewN _).over (kG _ _ _ _ _ _ _) (by simp))).mono ?_;clear N2;rintro e w3 ⟨g,rfl,Df,hg,hg3,hR3⟩;have FA:aA [] wr w3:=(((((aA.refl [] wr).alloc _).alloc _).drewN _).over (kG _ _ _ _ _ _ _) (by simp)).trans Df;have MN:wr.heap.size<=g:=by simp at hg;omega
     have hob:∀r,Value.ownBlock (.slice (some ⟨gh,oh,none⟩) j co)=some r->r<wr.heap.size:=λr hr=>(O.o.lt hr).2
     have R3:=aj (hR3.akF (B:=A++(Value.ownBlock (.slice (some ⟨gh,oh,none⟩) j co)).toList) (λhm=>by simp at hm;rcases hm with hm|hm;have:=HA.o g hm;omega;have:=hob g hm;omega));have O3:=aj (O.o.aB FA (by simp));have I3:=aj (HI.o.aB FA (by simp));have F3:=aj (F.o.trans FA);have uP:=FA.size;clear Df hg hg3 hR3 FA MN hob t0 t1 t2 t3 t4 t5 t6 t7 t8 u0 u1 u2 u3 u4;go_wp2_with (at_builtin;refine og _ rfl _ _ 43 101 _ 5 64 adL Tryz.underlying43 rfl (by omega) rfl w.heap.size (.slice (some ⟨gh,oh,none⟩) j co) (iO eu) w3.heap.size (aV ⟨h1,h2,h3,h4,h5⟩ (.slice (some ⟨g,0,none⟩) h2.length h2.length)).toList rfl (O3.o.aB (S:=[]) ((aA.refl [] _).alloc _) (by simp)) rfl rfl (aaz _ _ _ _ _ _ _) (by intro u hu;simp[aV]at hu;rcases hu with rfl|rfl|rfl|rfl|rfl<;>rfl) (by rw[jv.o];omega) (by rw[jv.o];omega) (by simp;omega) ?_;intro gg aP w5 lU aG aX adT;rw[jv.o]at lU |-;have F5:Z_ (aA [] w w5):=(F3.o.alloc _).grown aG (λr hr=>.inr (O3.o.lt hr).1);have O5:=aj lU;have I5:Z_ (iG adM (A++[gg]) w5 (eu++[aV ⟨h1,h2,h3,h4,h5⟩ (.slice (some ⟨g,0,none⟩) h2.length h2.length)]) (jr C j++[⟨h1,h2,h3,h4,h5⟩])):=((I3.o.aB (S:=[]) ((aA.refl [] _).alloc _) (by simp)).snoc ⟨g,rfl,R3.o.aB (S:=[]) ((aA.refl [] _).alloc _) (by simp)⟩).app aG aX;clear lU aG aX)
     go_roundg (gk-1)
     case measure=>omega
     case rel =>
      have O6:=O5.o;rw[y7]at O6;refine⟨j+1,eu++[aV ⟨h1,h2,h3,h4,h5⟩ (.slice (some ⟨g,0,none⟩) h2.length h2.length)],by omega,by go_num,by simp;omega,F5,O6,?_⟩;show iG _ _ _ _ _;rw[Po.o];exact I5
  have iH:decide ((j:Int)<(C.length:Int))=false:=a0f (by omega);have hj:j=C.length:=by omega
  subst hj;clear hF hO;go_wp2;go_ret;exact⟨_,eu,rfl,F,O,HI⟩
open Go.RowKit
theorem ad1{re:LB->Nat}{dw:LB->lS}:∀(M:List CM) (s:CS) (acc:List (Nat × Bool)) (k:Nat) {l:List (Nat × Bool)} {s1:CS},CSB s k->qT re dw s acc M=.ok (l,s1)->CSB s1 (k+M.length)/\s1.q=s.q/\l.length=acc.length+M.length
 | [],s,acc,k,l,s1,h,e=>by
   rw[qT]at e;cases e
   exact⟨h,rfl,rfl⟩
 | m::r,s,acc,k,l,s1,h,e=>by
   rw[qT]at e
   split at e
   ·cases e
   rename_i t s2 ht
   obtain⟨h1,_,h3⟩:=aas h ht;obtain⟨g1,g2,g3⟩:=ad1 r _ _ (k+1) h1 e;refine⟨?_,g2.trans h3,by simp at g3 |-;omega⟩;rw[a0o,show k+(r.length+1)=k+1+r.length by omega];exact g1
theorem LQ.bW{A B:LN}{w:World}{v:Value}{C:List CR}(h:LQ A w v C)(hB:∀g∈B,g∈A\/w.heap.size<=g):LQ B w v C:=by
 obtain⟨eu,h1,h2⟩:=h;exact⟨eu,h1.bW hB,h2.bW hB⟩
theorem results3{fn:Func}{p u t:Tmp}{ty:TypeId}(h:fn.results=#[.cell p ty,.tmp u,.tmp t])(tmps:Array Value)(w:World)(g:Nat)(cs:Array Value)(a b:Value)
 (hp:tmps.getD p undef=.pointer (some ⟨g,0,none⟩)) (hu:tmps.getD u undef=a) (ht:tmps.getD t undef=b) (hl:(loadVar ty ⟨g,0,none⟩).run Tryz.prog w=.ok (.agg cs) w) :
 (results fn tmps).run Tryz.prog w=.ok (.tuple #[.agg cs,a,b]) w:=by
 have Sd:tmps[p]?.getD undef=.pointer (some ⟨g,0,none⟩):=by simpa using hp
 have hu':tmps[u]?.getD undef=a:=by simpa using hu
 have LW:tmps[t]?.getD undef=b:=by simpa using ht
 simp[results,h,Sd,hu',LW,asAddr,hl]
abbrev vz:V6:=⟨.slice none 0 0,.slice none 0 0,.slice none 0 0,.slice none 0 0,.slice none 0 0,.slice none 0 0⟩
theorem KS.start(Z:LN){w0:World}{kb:Nat}{rt:Value}(hr:KR w0 kb vz ⟨rt,.slice none 0 0,.slice none 0 0,.slice none 0 0⟩):KS Z w0 kb w0 vz ⟨rt,.slice none 0 0,.slice none 0 0,.slice none 0 0⟩ C8:=by
 refine⟨hr,[],[],aA.refl _ _,hr.lt,⟨?_,?_⟩,iG.nil _ _ _,iG.nil _ _ _⟩
 ·intro i r hi
  match i,hi with
  | 0,hi=>cases hi;exact OW.nil _ _ _ _
  | 1,hi=>cases hi;exact OW.nil _ _ _ _
  | 2,hi=>cases hi;exact OW.nil _ _ _ _
  | 3,hi=>cases hi;exact OW.nil _ _ _ _
  | 4,hi=>cases hi;exact OW.nil _ _ _ _
  | 5,hi=>cases hi;exact OW.nil _ _ _ _
  | i+6,hi=>simp at hi
 intro i j r s _ hi _ g hg
 match i,hi with
 | 0,hi=>cases hi;cases hg
 | 1,hi=>cases hi;cases hg
 | 2,hi=>cases hi;cases hg
 | 3,hi=>cases hi;cases hg
 | 4,hi=>cases hi;cases hg
 | 5,hi=>cases hi;cases hg
 | i+6,hi=>simp at hi
open Go.RowKit
theorem ad2(i:Nat)(w:World)(hi:i<=1000000):Calls Tryz.prog 15 #[.int .i64 i] w λe w'=>e=.returned (.int .i64 ((i+2:Nat):Int))/\w=w':=by
 go_enter Tryz.func15,Tryz.ntmps15
 go_wp2;go_ret;exact⟨congrArg Ending.returned (by go_num),rfl⟩
def PCQ(re:LB->Nat)(dw:LB->lS)(C:List CR)(w:World)(e:Ending)(w':World):Prop :=
 aA [] w w'/\((∃n ln,pread re dw C8 0 C=.error (n,ln)/\e=.returned (.tuple #[.agg vz.cells,.int .i64 (n:Nat),.int .i64 (ln:Nat)])) \/
 (∃s V,pread re dw C8 0 C=.ok s/\e=.returned (.tuple #[.agg V.cells,.int .i64 0,.int .i64 0])/\PG [] w' V (Qi C s)))
theorem iG.plain{A:LN}{w:World}{eu:List (Array Value)}{xs:List C6}(h:iG adM A w eu xs):iG am0 A w eu xs :=
 ⟨h.1,λn cs x h1 h2=>by obtain⟨g,e,r⟩:=h.2 n cs x h1 h2;exact⟨_,e,r⟩⟩
theorem YH(re:LB->Nat)(dw:LB->lS)(vr vt:Value)(C:List CR)(w:World)(Cr:LQ [] w vt C)(bL:0<C.length)(hCl:C.length<=16)(hC:∀c∈C,c.d<=5/\c.nU.length<=4/\-1<=c.wt/\-1<=c.ev/\-1<=c.rp/\c.ifs.length<=4/\∀m∈c.ifs,m.2.1<=3/\((m.2.1=2\/m.2.1=3)->RCP re dw m.2.2))(hvr:∃a n c,vr=.slice a n c) :
 Calls Tryz.prog 8 #[.agg #[vr,vt]] w (PCQ re dw C w):=by
 obtain⟨a0,n0,c0,rfl⟩:=hvr;obtain⟨yg,rT,ert⟩:∃a cap,vt=.slice a C.length cap:=by
  obtain⟨eu,h1,h2⟩:=Cr;obtain⟨a,cap,e,_⟩:=yO h1 h2;exact⟨a,cap,e⟩
 subst ert;obtain⟨W0,hW0⟩:∃W0,W0=((w.alloc (Obj.cells #[.slice a0 n0 c0,.slice yg C.length rT] 38)).alloc (Obj.cells #[.slice none 0 0,.slice none 0 0,.slice none 0 0,.slice none 0 0,.slice none 0 0,.slice none 0 0] 46)).alloc (Obj.cells #[.slice none 0 0,.slice none 0 0,.slice none 0 0,.slice none 0 0,.slice none 0 0,.slice none 0 0,.slice yg C.length rT,.slice none 0 0,.slice none 0 0,.slice none 0 0] 59):=⟨_,rfl⟩;have F0:aA [] w W0:=by rw[hW0];exact(((aA.refl [] w).alloc _).alloc _).alloc _
 have iA:W0.heap.size=w.heap.size+3:=by rw[hW0];simp
 have BC:W0.heap[w.heap.size]?=some (Obj.cells #[.slice a0 n0 c0,.slice yg C.length rT] 38):=by
  rw[hW0];exact((((aA.refl [] _).alloc _).alloc _).block w.heap.size (by simp) (by simp)).trans (bK _ _)
 have BP:W0.heap[w.heap.size+1]?=some (Obj.cells #[.slice none 0 0,.slice none 0 0,.slice none 0 0,.slice none 0 0,.slice none 0 0,.slice none 0 0] 46):=by
  rw[hW0];exact(((aA.refl [] _).alloc _).block (w.heap.size+1) (by simp) (by simp)).trans (alloc_at _ _ _ (by simp))
 have BK:KR W0 (w.heap.size+1+1) vz ⟨.slice yg C.length rT,.slice none 0 0,.slice none 0 0,.slice none 0 0⟩:=by
  rw[hW0];exact alloc_at _ _ _ (by simp)
 have HS:=aj (KS.start [w.heap.size+1] BK);have HRT:Z_ (LQ [w.heap.size+1+1] W0 (.slice yg C.length rT) C):=(Cr.bW (by simp;omega)).aB F0 (by simp);have HC:=aj hC;have Vm:=aj F0;have HBC:=aj BC;have HBP:=aj BP;have HW0:=aj hW0;clear Cr hC F0 BC BP BK hW0;go_enter Tryz.func8,Tryz.ntmps8
 go_wp2_with fail
 go_loopg [15] C.length (λk v15 wr=>∃(j:Nat) (sj:CS) (Vj:V6) (Uj:V4),j+k=C.length/\v15=.int .i64 j/\Z_ (KS [w.heap.size+1] W0 (w.heap.size+1+1) wr Vj Uj sj)/\Z_ (KV vz Vj ⟨.slice yg C.length rT,.slice none 0 0,.slice none 0 0,.slice none 0 0⟩ Uj)/\Z_ (pread re dw sj j (C.drop j)=pread re dw C8 0 C)/\Z_ (CSB sj (4*j))/\Z_ (sj.q.length=j)/\Z_ (∀x∈sj.q,x.length<=4)/\Z_ (∀y∈sj.x,re y=0))
 case atStart =>
  refine⟨0,C8,vz,_,by omega,rfl,?_,KV.refl _ _,?_,⟨by simp[C8],by simp[C8],by simp[C8],by simp[C8],by simp[C8]⟩,?_,?_,?_⟩
  ·show KS _ _ _ _ _ _ _
   have:=HS.o;rw[HW0.o]at this |-;exact this
  ·show _=_;rfl
  ·show _=_;rfl
  ·intro x hx;simp[C8]at hx
  intro x hx;simp[C8]at hx
 case round =>
  obtain⟨j,sj,Vj,Uj,sI,rfl,KJ,Dh,HP,CBJ,HQL,HQ4,HX⟩:=hrel;have hzj:=KJ.o.fr.size;have bc:=(KJ.o.fr.block w.heap.size (by omega) (by simp;omega)).trans HBC;have bp:=(KJ.o.fr.block (w.heap.size+1) (by omega) (by simp)).trans HBP;have k1:wr.cell? ⟨w.heap.size,1,none⟩=some (.slice yg C.length rT):=by simp[World.cell?,bc]
  by_cases aO:j<C.length
  ·have iH:decide ((j:Int)<(C.length:Int))=true:=a0h (by omega)
   obtain⟨eu,r1,r2⟩:=HRT.o;obtain⟨a',xJ,ea,rr⟩:=yO r1 r2;simp only[Value.slice.injEq,a1X]at ea;obtain⟨rfl,rfl⟩:=ea;obtain⟨gr,or,csr,rfl,Ec,Mw,⟨dP,iB,rfl,DT,Ph⟩,kk⟩:=rr j aO;obtain⟨ay,cy,rfl,_⟩:=DT.str;obtain⟨ai,ci,rfl,_⟩:=Ph.mts;have tc:∀(o:Nat) (u:Value),(rcl C[j] (.slice ay C[j].nU.length cy) (.slice ai C[j].ifs.length ci))[o]?=some u->wr.cell? ⟨gr,or+j*9+o,none⟩=some u:=λo u hu=>(KJ.o.fr.cell (p:=⟨gr,or+j*9+o,none⟩) Ec Mw).trans (kk o u hu)
   have t0:wr.cell? ⟨gr,or+j*9,none⟩=some (.int .i64 (C[j].d:Nat)):=tc 0 _ rfl;have t1:wr.cell? ⟨gr,or+j*9+1,none⟩=some (.string (bs C[j].rc)):=tc 1 _ rfl;have t2:wr.cell? ⟨gr,or+j*9+2,none⟩=some (.bool C[j].tb):=tc 2 _ rfl;have t3:wr.cell? ⟨gr,or+j*9+3,none⟩=some (.slice ay C[j].nU.length cy):=tc 3 _ rfl;have t4:wr.cell? ⟨gr,or+j*9+4,none⟩=some (.int .i64 C[j].wt):=tc 4 _ rfl;have t5:wr.cell? ⟨gr,or+j*9+5,none⟩=some (.int .i64 C[j].ev):=tc 5 _ rfl;have t6:wr.cell? ⟨gr,or+j*9+6,none⟩=some (.int .i64 C[j].rp):=tc 6 _ rfl;have t7:wr.cell? ⟨gr,or+j*9+7,none⟩=some (.slice ai C[j].ifs.length ci):=tc 7 _ rfl;have t8:wr.cell? ⟨gr,or+j*9+8,none⟩=some (.bool C[j].co):=tc 8 _ rfl;have apV:gr<wr.heap.size:=by omega
   have hcj:=HC.o C[j] (a0z aO);obtain⟨h1,h2,h3,h4,h5,h6,h7⟩:=hcj;have jX:=CBJ.o;have N1:Z_ (∀W,aA [] wr W->Calls Tryz.prog 14 #[.pointer (some ⟨w.heap.size+1+1,0,none⟩),.slice ai C[j].ifs.length ci] W (RMQ [w.heap.size+1] re dw W0 (w.heap.size+1+1) Vj Uj sj C[j].ifs)):=λW hW=>Og [w.heap.size+1] re dw W0 (w.heap.size+1+1) W Vj Uj sj (KJ.o.aB hW) (by have:=hW.size;simp;omega) ⟨by have:=jX.n;omega,by have:=jX.c;omega,by have:=jX.x;omega,by have:=jX.a;omega,by have:=jX.t;omega⟩ _ C[j].ifs Ph h6 h7 (by rw[HQL.o];omega)
   have HPR:Z_ (pread re dw sj j (C[j]::C.drop (j+1))=pread re dw C8 0 C):=by show _=_;rw[<-a0q aO];exact HP
   clear kk rr Ph DT tc jX HP bc h7;generalize C[j]=c at *;go_wp2_with fail
   refine(N1.o _ ((aA.refl [] _).alloc _)).mono ?_;clear N1;rintro e w2 hT;rcases hT with⟨n,e1,rfl,vF⟩|⟨l,s1,V2,U2,e1,rfl,hK2,adR⟩
   ·have HE:Z_ (pread re dw C8 0 C=.error (n,j+2)):=by show _=_;rw[<-HPR.o,pread,e1]
    have hn0:((n:Int) != 0)=true:=by
     rcases AV (re:=re) (dw:=dw) c.ifs sj [] HX.o with⟨e,f1,_,f3⟩|⟨l',s',f1,_⟩
     ·rw[e1]at f1;cases f1
      rw[a1O];omega
     rw[e1]at f1;cases f1
    have bp2:=(vF.block (w.heap.size+1) (by omega) (by simp)).trans HBP;have e0:w2.cell? ⟨w.heap.size+1,0,none⟩=some (.slice none 0 0):=by simp[World.cell?,bp2]
    have e1':w2.cell? ⟨w.heap.size+1,1,none⟩=some (.slice none 0 0):=by simp[World.cell?,bp2]
    have e2:w2.cell? ⟨w.heap.size+1,2,none⟩=some (.slice none 0 0):=by simp[World.cell?,bp2]
    have e3:w2.cell? ⟨w.heap.size+1,3,none⟩=some (.slice none 0 0):=by simp[World.cell?,bp2]
    have e4:w2.cell? ⟨w.heap.size+1,4,none⟩=some (.slice none 0 0):=by simp[World.cell?,bp2]
    have e5:w2.cell? ⟨w.heap.size+1,5,none⟩=some (.slice none 0 0):=by simp[World.cell?,bp2]
    have ez:∀o,w2.frozen? ⟨w.heap.size+1,o,none⟩=false:=λo=>by simp[World.frozen?,bp2]
    have HB2:=aj bp2;have F2:=aj vF;have NL:=aj (ad2 j w2 (by omega));clear e1 bp2 vF HPR;go_wp2_with fail
    refine(NL.o).mono ?_;rintro e w' ⟨rfl,rfl⟩;go_wp2_with fail
    refine bodyPost_ret (results3 rfl _ _ (w.heap.size+1) vz.cells _ _ rfl rfl rfl (aai (aaj _ _ _ _ _ _ HB2) rfl)) rfl ?_;refine⟨?_,.inl ⟨n,j+2,HE,rfl⟩⟩;exact((Vm.o.over F2.o (by simp;omega)).over (aak _ _ _ _ _ _ _ _) (by simp))
   obtain⟨g1,g2,g3⟩:=ad1 c.ifs sj [] (4*j) CBJ.o e1;have HE:Z_ (pread re dw { s1 with q:=s1.q++[l] } (j+1) (C.drop (j+1))=pread re dw C8 0 C):=by show _=_;rw[<-HPR.o,pread,e1]
   have CB2:Z_ (CSB { s1 with q:=s1.q++[l] } (4*(j+1))):=⟨by have:=g1.n;simp only;omega,by have:=g1.c;simp only;omega,by have:=g1.x;simp only;omega,by have:=g1.a;simp only;omega,by have:=g1.t;simp only;omega⟩;have HQ2:Z_ ({ s1 with q:=s1.q++[l] }.q.length=j+1):=by show(s1.q++[l]).length=_;rw[a0v,g2,HQL.o];rfl
   have HQ5:Z_ (∀x∈{ s1 with q:=s1.q++[l] }.q,x.length<=4):=by
    intro x hx;have U0:x∈s1.q++[l]:=hx;rw[a0b,a0y,g2]at U0;rcases U0 with U0|rfl
    ·exact HQ4.o x U0
    simp at g3;omega
   have HX2:Z_ (∀y∈{ s1 with q:=s1.q++[l] }.x,re y=0):=by
    rcases AV (re:=re) (dw:=dw) c.ifs sj [] HX.o with⟨e,f1,_⟩|⟨l',s',f1,_,f3⟩
    ·rw[e1]at f1;cases f1
    rw[e1]at f1;cases f1;exact f3
   have K2:=aj hK2;have KV2:=aj (Dh.o.trans adR);clear hK2 adR g1 g2 g3 e1 HPR;go_wp2;go_roundg (gk-1)
   case measure=>omega
   case rel=>exact⟨j+1,_,V2,U2,by omega,by go_num,K2,KV2,HE,CB2,HQ2,HQ5,HX2⟩
  have iH:decide ((j:Int)<(C.length:Int))=false:=a0f (by omega);have hj:j=C.length:=by omega
  have HE:Z_ (pread re dw C8 0 C=.ok sj):=by
   show _=_;rw[<-HP.o,hj,a3i]
   rfl
  obtain⟨vn,vc,va,vt,vr,vi⟩:=Vj;obtain⟨rt,ux,uq,ul⟩:=Uj;obtain⟨e1,e2,e3,e4⟩:=Dh.o;simp only at e1 e2 e3 e4;subst e1 e2 e3 e4;have N2:=aj (ah6 [w.heap.size+1+1,w.heap.size+1] wr (by simp;omega) (.slice yg C.length rT) C ((HRT.o.aB KJ.o.fr (by simp)).bW (by simp)) (by omega) (λc hm=>by obtain⟨h1,h2,h3,h4,h5,_⟩:=HC.o c hm;exact⟨by omega,h2,h3,h4,h5⟩));have Pj:=aj KJ.o.row;have HBW:=aj bp;clear HP Dh bc bp;go_wp2_with fail
  refine(N2.o).mono ?_;clear N2;rintro e w2 ⟨v2,eu,rfl,vF,hO2,hI2⟩;obtain⟨ah,ch,he⟩:=hO2.shape;rw[sZ]at he;subst he;have R2:=aj (Pj.o.aB vF (by simp));have c4:=R2.o.c 4;simp at c4;have z4:=R2.o.fz 4;have R3:=aj (R2.o.set (V':=⟨vn,vc,va,vt,.slice ah eu.length ch,.slice none 0 0⟩) (U':=⟨.slice yg C.length rT,ux,uq,.slice none 0 0⟩) 4 (.slice ah eu.length ch) rfl);have FK:Z_ (aA [w.heap.size+1+1] wr (w2.setCell ⟨w.heap.size+1+1,4,none⟩ (.slice ah eu.length ch))):=((aA.refl _ _).over vF (by simp)).setCell (p:=⟨w.heap.size+1+1,4,none⟩) (.inl (by simp)) _;have O2:=aj hO2;have I2:=aj hI2;have F2:=aj vF;have HLC:Z_ (LC (w2.setCell ⟨w.heap.size+1+1,4,none⟩ (.slice ah eu.length ch)) (w.heap.size+1+1) (.slice yg C.length rT) uq C sj.q):=by
   obtain⟨ca,cq,g⟩:=KJ.o.g;refine⟨(HRT.o.aB KJ.o.fr (by simp)).aB FK.o (by simp),⟨cq,?_,?_⟩,by rw[HQL.o,hj],HQ4,hCl,λc hm=>(HC.o c hm).1⟩
   ·have ow:OW 90 1 W0.heap.size wr uq (iO cq):=g.rw.o 5 ⟨90,1,uq,iO cq⟩ rfl
    exact(ow.rw (A:=[w.heap.size+1+1]) (λx hx hm=>by simp at hm;have:=(ow.lt hx).1;omega)).aB FK.o (by simp)
   exact(g.qi.bW (B:=[w.heap.size+1+1]) (λx hx=>by simp at hx;subst hx;exact .inl (by simp))).aB FK.o (by simp)
  generalize hw3:w2.setCell ⟨w.heap.size+1+1,4,none⟩ (.slice ah eu.length ch)=w3 at *;have N3:=aj (Oj w3 (w.heap.size+1+1) w3 _ _ ux uq C sj.q HLC.o ⟨R3,aA.refl _ _,R3.o.lt,OW.nil _ _ _ _⟩ bL);have HW3:=aj hw3;clear vF hO2 hI2 HLC;obtain⟨an,cn,en⟩:∃a c,vn=.slice a sj.n.length c:=by
   obtain⟨a,c,e⟩:=(KJ.o.own 0 (r:=⟨9,1,vn,sc sj.n⟩) (λca cq=>rfl)).shape;exact⟨a,c,by rw[jq]at e;exact e⟩
  obtain⟨ac,Qm,ec⟩:∃a c,vc=.slice a sj.c.length c:=by
   obtain⟨a,c,e⟩:=(KJ.o.own 1 (r:=⟨9,1,vc,sc sj.c⟩) (λca cq=>rfl)).shape;exact⟨a,c,by rw[jq]at e;exact e⟩
  obtain⟨atx,ctx,et⟩:∃a c,vt=.slice a sj.t.length c:=by
   obtain⟨a,c,e⟩:=(KJ.o.own 4 (r:=⟨94,3,vt,tc sj.t⟩) (λca cq=>rfl)).shape;exact⟨a,c,by rw[TG]at e;exact e⟩
  obtain⟨aa,na,caa,ea⟩:∃a n c,va=.slice a n c:=by
   obtain⟨ca,cq,g⟩:=KJ.o.g;obtain⟨a,c,e⟩:=(g.rw.o 3 ⟨157,259,va,iO ca⟩ rfl).shape;exact⟨a,_,c,e⟩
  subst en ec et ea;go_wp2_with fail
  refine(N3.o).mono ?_;clear N3;rintro e w4 ⟨v4,vl4,rfl,hR4,_,hF4,hO4⟩;obtain⟨a4,c4',e4⟩:=hO4.shape;subst e4;have d0:=hR4.c 0;have d1:=hR4.c 1;have d2:=hR4.c 2;have d3:=hR4.c 3;have d4:=hR4.c 4;have d5:=hR4.c 5;have dz:=hR4.fz 5;simp at d0 d1 d2 d3 d4 d5;have F4:=aj hF4;have O4:=aj hO4;have SF:aA [w.heap.size+1+1] w2 w3:=by rw[<-HW3.o];exact(aA.refl _ _).setCell (p:=⟨w.heap.size+1+1,4,none⟩) (.inl (by simp)) _
  have anc:=aj SF;have b4:=(hF4.block (w.heap.size+1) (by have:=SF.size;have:=F2.o.size;omega) (by simp)).trans ((SF.block (w.heap.size+1) (by have:=F2.o.size;omega) (by simp)).trans ((F2.o.block (w.heap.size+1) (by omega) (by simp)).trans HBW));have p0:w4.cell? ⟨w.heap.size+1,0,none⟩=some (.slice none 0 0):=by simp[World.cell?,b4]
  have p1:w4.cell? ⟨w.heap.size+1,1,none⟩=some (.slice none 0 0):=by simp[World.cell?,b4]
  have p2:w4.cell? ⟨w.heap.size+1,2,none⟩=some (.slice none 0 0):=by simp[World.cell?,b4]
  have p3:w4.cell? ⟨w.heap.size+1,3,none⟩=some (.slice none 0 0):=by simp[World.cell?,b4]
  have p4:w4.cell? ⟨w.heap.size+1,4,none⟩=some (.slice none 0 0):=by simp[World.cell?,b4]
  have p5:w4.cell? ⟨w.heap.size+1,5,none⟩=some (.slice none 0 0):=by simp[World.cell?,b4]
  have pz:∀o,w4.frozen? ⟨w.heap.size+1,o,none⟩=false:=λo=>by simp[World.frozen?,b4]
  have HB4:=aj b4;clear hR4 hF4 hO4 SF b4;go_wp2_with fail
  have hl4:w.heap.size+1<w4.heap.size:=(a0d.1 HB4).1;have FB:=λ(X:Value)=>(aA.refl [w.heap.size+1+1] w4).setCell (p:=⟨w.heap.size+1+1,5,none⟩) (.inl (by simp)) X
  refine bodyPost_ret (results3 rfl _ _ (w.heap.size+1) (V6.cells ⟨.slice an sj.n.length cn,.slice ac sj.c.length Qm,.slice aa na caa,.slice atx sj.t.length ctx,.slice ah eu.length ch,.slice a4 (vY (LJ C sj.q)).length c4'⟩) _ _ rfl rfl rfl (aai (aaj _ _ _ _ _ _ (((FB _).block (w.heap.size+1) hl4 (by simp)).trans HB4)) rfl)) rfl ?_;have FE:=((aA.refl [w.heap.size+1+1,w.heap.size+1] w4).over (FB (.slice a4 (vY (LJ C sj.q)).length c4')) (by simp)).over (aak _ (w.heap.size+1) (.slice an sj.n.length cn) (.slice ac sj.c.length Qm) (.slice aa na caa) (.slice atx sj.t.length ctx) (.slice ah eu.length ch) (.slice a4 (vY (LJ C sj.q)).length c4')) (by simp);have F3E:=((aA.refl [w.heap.size+1+1,w.heap.size+1] w3).over F4.o (by simp)).trans FE;have F2E:=((aA.refl [w.heap.size+1+1,w.heap.size+1] w2).over anc.o (by simp)).trans F3E;have FRE:=((aA.refl [w.heap.size+1+1,w.heap.size+1] wr).over F2.o (by simp)).trans F2E;obtain⟨ca,cq,g⟩:=KJ.o.g;have Es:∀(e:TypeId) (k b:Nat) (u:World) (v:Value) (vs:List (List Value)),OW e k b u v vs->w.heap.size+3<=b->∀x,v.ownBlock=some x->x ∉ [w.heap.size+1+1,w.heap.size+1]:=by
   intro e k b u v vs ho hb x hx hm;have:=(ho.lt hx).1;simp at hm;omega
  refine⟨(Vm.o.over KJ.o.fr (by simp;omega)).over FRE (by simp;omega),.inr ⟨sj,_,HE,rfl,?_⟩⟩;have on:=g.rw.o 0 ⟨9,1,.slice an sj.n.length cn,sc sj.n⟩ rfl;have oc:=g.rw.o 1 ⟨9,1,.slice ac sj.c.length Qm,sc sj.c⟩ rfl;have oa:=g.rw.o 3 ⟨157,259,.slice aa na caa,iO ca⟩ rfl;have ot:=g.rw.o 4 ⟨94,3,.slice atx sj.t.length ctx,tc sj.t⟩ rfl;have gF:=F2.o.size;have uP:=anc.o.size;refine⟨?_,?_,⟨ca,?_,?_⟩,?_,⟨eu,?_,?_⟩,?_⟩
  ·exact((on.rw (Es _ _ _ _ _ _ on (by omega))).aB FRE (by simp)).bW (by simp)
  ·exact((oc.rw (Es _ _ _ _ _ _ oc (by omega))).aB FRE (by simp)).bW (by simp)
  ·exact((oa.rw (Es _ _ _ _ _ _ oa (by omega))).aB FRE (by simp)).bW (by simp)
  ·exact((g.ai.bW (B:=[w.heap.size+1+1,w.heap.size+1]) (λx hx=>.inl (by simp at hx |-;rcases hx with rfl|rfl;exact .inr (.inl rfl);exact .inl rfl))).aB FRE (by simp)).bW (by simp)
  ·exact((ot.rw (Es _ _ _ _ _ _ ot (by omega))).aB FRE (by simp)).bW (by simp)
  ·exact((O2.o.rw (Es _ _ _ _ _ _ O2.o (by omega))).aB F2E (by simp)).bW (by simp)
  ·exact(((I2.o.bW (B:=[w.heap.size+1+1,w.heap.size+1]) (λx hx=>.inl (a0b.2 (.inl hx)))).aB F2E (by simp)).bW (by simp)).plain
  exact((O4.o.rw (Es _ _ _ _ _ _ O4.o (by omega))).aB FE (by simp)).bW (by simp)
open Go.RowKit
theorem akR(L:List LB):(sc L).flatten=sv L:=by
 induction L with
 | nil=>rfl
 | cons x r ih=>simp only[sc,sv,a0A,List.flatten_cons]at ih |-;rw[ih];rfl
theorem SL.rw0{base:Nat}{w:World}{v:Value}{L:List LB}(h:SL base w v L):RW [] 1 w v (sc L):=by
 have ow:OW 9 1 base w v (sc L):=by
  refine⟨?_,λx hx=>?_⟩
  ·rw[akR,jq];exact h
  obtain⟨y,_,rfl⟩:=a0s.1 hx;rfl
 exact ow.rw (by simp)
theorem ML.rw0{base:Nat}{w:World}{v:Value}{M:List CM}(h:ML base w v M):RW [] 3 w v (Hq M):=by
 have ow:OW 92 3 base w v (Hq M):=by
  refine⟨?_,λx hx=>?_⟩
  ·have e:(Hq M).flatten=mv M:=by unfold Hq mv;rw[List.flatMap_def]
   rw[e,show(Hq M).length=M.length by simp[Hq]];exact h
  obtain⟨y,_,rfl⟩:=a0s.1 hx;rfl
 exact ow.rw (by simp)
theorem al7{base:Nat}{w:World}{v:Value}{R:List RV}{C:List CR}(h:RL base w v R)(hp:oH base w R C):LQ [] w v C:=by
 refine⟨R.map RV.cells,?_,by simpa using hp.1,λn cs c h1 h2=>?_⟩
 ·have ow:OW 62 9 base w v (iO (R.map RV.cells)):=by
   refine⟨?_,λx hx=>?_⟩
   ·have e:(iO (R.map RV.cells)).flatten=rvl R:=by unfold iO rvl Ar;rw[a2C,List.flatMap_def];rfl
    rw[e,sZ,a0B];exact h
   unfold iO at hx;rw[a2C]at hx;obtain⟨y,_,rfl⟩:=a0s.1 hx;rfl
  exact ow.rw (by simp)
 rw[a1d,Option.map_eq_some_iff]at h1;obtain⟨rv,h3,rfl⟩:=h1;have hr:=hp.2 n rv c h3 h2;refine⟨rv.dP,rv.iB,?_,hr.KI.rw0,hr.ifs.rw0⟩;unfold RV.cells rcl;rw[hr.d,hr.rc,hr.tb,hr.wt,hr.ev,hr.rp,hr.co]
open Go.RowKit
theorem XZ:∀(C:List CR) (i:Nat) (da:Int),i<=16->qh C i da=0->(∀c∈C,c.d<=5)/\C.length+i<=16
 | [],i,da,hi,_=>⟨by simp,by simpa using hi⟩
 | c::r,i,da,hi,h=>by
   unfold qh at h;cases hb:(!(if (i==0)=true then nG c else jH c.d da)||decide (16<=i))
   ·rw[hb]at h
    simp only[a0n,a0G]at h;have mV:(if (i==0)=true then nG c else jH c.d da)=true/\¬ 16<=i:=by
     cases hx:(if (i==0)=true then nG c else jH c.d da)
     ·rw[hx]at hb;simp at hb
     rw[hx]at hb;simp at hb;exact⟨rfl,by omega⟩
    obtain⟨h1,h2⟩:=XZ r (i+1) c.d (by omega) h;refine⟨λx hx=>?_,by simp;omega⟩;rcases a0l.1 hx with rfl|hx
    ·have h3:=mV.1
     by_cases h0:(i==0)=true
     ·rw[a0j h0]at h3;simp[nG]at h3;omega
     rw[a0g h0]at h3;simp[jH]at h3;omega
    exact h1 x hx
   rw[hb]at h;simp at h
theorem AZ{t:LB}{L:List LB}{C:List CR}(h:mX t=.ok (L,C)):mD t=.ok (L,C)/\0<C.length/\C.length<=16/\∀c∈C,c.d<=5:=by
 unfold mX at h
 split at h
 ·cases h
 split at h
 ·cases h
 rename_i L' C' h1
 split at h
 ·cases h
 rename_i ht
 split at h
 ·cases h
 simp only[Except.ok.injEq,Prod.mk.injEq]at h;obtain⟨rfl,rfl⟩:=h;have ht0:iX C'=0:=by omega
 unfold iX at ht0
 split at ht0
 ·cases ht0
 rename_i bL
 obtain⟨h3,h4⟩:=XZ C' 0 0 (by omega) ht0;refine⟨h1,?_,by omega,h3⟩;cases C' with
 | nil=>simp at bL
 | cons a b=>simp
open Go.RowKit
def qV(re:LB->Nat)(t:LB):Nat × Nat :=
 match mX t with
 | .error (n,l)=>(n,l)
 | .ok (_,C)=>xF re C 0
def ACQ(re:LB->Nat)(dw:LB->lS)(t:LB)(w:World)(e:Ending)(w':World):Prop :=
 aA [] w w'/\(((qV re t).1≠0/\e=.returned (.tuple #[.pointer none,.int .i64 ((qV re t).1:Nat),.int .i64 ((qV re t).2:Nat)])) \/
 (∃L C s V pb,qV re t=(0,0)/\mX t=.ok (L,C)/\pread re dw C8 0 C=.ok s/\e=.returned (.tuple #[.pointer (some ⟨pb,0,none⟩),.int .i64 0,.int .i64 0])/\w'.heap[pb]?=some (.cells V.cells 50 (0,0))/\PG [pb] w' V (Qi C s)/\w.heap.size<=pb))
theorem YI(re:LB->Nat)(dw:LB->lS)(t:LB)(w:World)(ht:t.length<=1048576)(Tc:∀L C,mX t=.ok (L,C)->∀c∈C,∀m∈c.ifs,(m.2.1=2\/m.2.1=3)->RCP re dw m.2.2) :
 Calls Tryz.prog 5 #[.string (bs t)] w (ACQ re dw t w):=by
 have XK:=aj Tc;clear Tc;go_enter Tryz.func5,Tryz.ntmps5
 go_wp2_with fail
 refine(aaS t w ht).mono ?_;rintro e w1 ⟨aZ,vr,vt,er,ln,rfl,kz⟩;have KF:=aj aZ;clear aZ;cases hr:mX t with
 | error nl =>
   obtain⟨n,l⟩:=nl;have Hx:Z_ (qV re t=(n,l)):=by show _=_;unfold qV;rw[hr]
   rw[hr]at kz;obtain⟨rfl,rfl,rfl,rfl,hn⟩:=kz;have bL:((n:Int) != 0)=true:=by rw[a1O];omega
   go_wp2;go_ret3
   refine⟨KF.o.alloc _,.inl ?_⟩;rw[Hx.o];exact⟨by simp only;omega,rfl⟩
 | ok LC =>
   obtain⟨L,C⟩:=LC;have Hx:Z_ (qV re t=xF re C 0):=by show _=_;unfold qV;rw[hr]
   obtain⟨h1,h2,h3,h4⟩:=AZ hr;have VH:=(yJ t L C ht h1).2.2;rw[hr]at kz;obtain⟨rfl,rfl,hs,vX,KQ,KW,uO⟩:=kz;obtain⟨a0,n0,rfl⟩:=hs.shape;have akS:=al7 KQ KW;obtain⟨yg,rT,ert⟩:∃a cap,vt=.slice a C.length cap:=by
    obtain⟨eu,q1,q2⟩:=akS;obtain⟨a,cap,e,_⟩:=yO q1 q2;exact⟨a,cap,e⟩
   subst ert;have N2:=aj (YH re dw (.slice a0 L.length n0) (.slice yg C.length rT) C (w1.alloc (Obj.cells #[.slice a0 L.length n0,.slice yg C.length rT] 38)) (akS.aB (S:=[]) ((aA.refl [] _).alloc _) (by simp)) h2 h3 (λc hm=>by
    have g:=VH c hm;exact⟨h4 c hm,g.byl,g.wt.1,g.ev.1,g.rp.1,g.ifl,λm Jq=>⟨(g.ifs m Jq).kind,λhk=>XK.o L C hr c hm m Jq hk⟩⟩) ⟨_,_,_,rfl⟩)
   have HR:=aj hr;have HPF:=aj (Oc (re:=re) (dw:=dw) C C8 0 (by simp[C8]));clear akS KQ KW hs VH h1 hr;go_wp2_with fail
   refine(N2.o).mono ?_;clear N2;rintro e w2 ⟨vF,hq⟩;have F2:=aj ((KF.o.alloc _).trans vF);clear vF;rcases hq with⟨n,ln,e1,rfl⟩|⟨s,V,e1,rfl,hPG⟩
   ·have hx:xF re C 0=(n,ln)/\n≠0:=by
     rcases HPF.o with⟨e,f1,f2,f3⟩|⟨s1,f1,_⟩
     ·rw[e1]at f1;cases f1;exact⟨f2,f3⟩
     rw[e1]at f1;cases f1
    have HX:=aj hx;have bL:((n:Int) != 0)=true:=by rw[a1O];have:=hx.2;omega
    clear hx e1;simp only[V6.cells];go_wp2;go_ret3
    refine⟨F2.o.alloc _,.inl ?_⟩;rw[Hx.o,HX.o.1];exact⟨HX.o.2,rfl⟩
   have hx:xF re C 0=(0,0):=by
    rcases HPF.o with⟨e,f1,_⟩|⟨s1,f1,f2,_⟩
    ·rw[e1]at f1;cases f1
    exact f2
   have HX:=aj hx;have HE:=aj e1;obtain⟨vn,vc,va,vt,vr',vi⟩:=V;obtain⟨an,cn,en,_⟩:=hPG.n;obtain⟨ac,Qm,ec,_⟩:=hPG.c;obtain⟨ca,hca,_⟩:=id hPG.a;obtain⟨aa,caa,ea,_⟩:=hca;obtain⟨atx,ctx,et,_⟩:=hPG.t;obtain⟨cr,hcr,_⟩:=id hPG.r;obtain⟨ar,car,er,_⟩:=hcr;obtain⟨ai,cai,ei,_⟩:=hPG.i;simp only at en ec ea et er ei;subst en ec ea et er ei;have HPG:=aj hPG;clear hx e1 hPG;simp only[V6.cells];go_wp2;go_ret3
   refine⟨(F2.o.alloc _).alloc _,.inr ⟨L,C,s,⟨.slice an (sc (Qi C s).names).length cn,.slice ac (sc (Qi C s).consts).length Qm,.slice aa (iO ca).length caa,.slice atx (tc (Qi C s).tests).length ctx,.slice ar (iO cr).length car,.slice ai (vY (Qi C s).code).length cai⟩,w2.heap.size+1,by rw[Hx.o,HX.o],HR,HE,rfl,NZ _ _ _,?_,by have:=F2.o.size;omega⟩⟩;exact(HPG.o.bW (B:=[w2.heap.size+1]) (by simp)).aB (S:=[]) (((aA.refl [] _).alloc _).alloc _) (by simp)
open Go.RowKit
/-! What a text means,on both sides. -/
theorem akT(m:CM):CO (rR m)=(m.2.1==2||m.2.1==3):=by
 unfold CO rR iK
 by_cases h1:m.2.1=1
 ·simp[h1]
 by_cases h2:m.2.1=2
 ·simp[h2]
 by_cases h3:m.2.1=3
 ·simp[h3]
 have e2:(m.2.1==2)=false:=by simpa using h2
 have e3:(m.2.1==3)=false:=by simpa using h3
 simp[h1,h2,h3]
theorem ad3:∀M:List CM,Ro (M.map rR)=mF jC M
 | []=>rfl
 | m::M=>by
   rw[a0A,Ro,mF,akT,ad3 M];rfl
theorem abE:∀(C:List CR) (i:Nat),Lx (C.map qw) i=xF jC C i
 | [],_=>rfl
 | c::C,i=>by
   have e:(qw c).ifs=c.ifs.map rR:=rfl;rw[a0A,Lx,xF,e,ad3,abE C (i+1)]
structure CfR(w w':World)(cb base:Nat)(C:List CR)(X:List (Nat × jK × RR)):Prop where
 lo:w.heap.size<=cb
 up:cb<base
 cf:∃vr vl,oV w' cb vr (sU ((X.map (·.1)).getD 0 0)) vl
 rb:∀x∈X,pN w' x.1 x.2.1
 rc:∀x∈X,x.2.1.rc=x.2.2.rc/\x.2.1.t0=x.2.2.t0/\x.2.1.t1=x.2.2.t1/\x.2.1.t2=x.2.2.t2/\x.2.1.on=x.2.2.on
 KI:∀x∈X,SL base w' x.2.1.dP (byW x.2.2.told x.2.2.names)
 kd:∀x∈X,LP base w' x.2.1.vk ((Bv (xd X)).2 x.1)
 ifs:EV w' X (λ_ _=>True)
 nd:(X.map (·.1)).Nodup
 eq:X.map (·.2.2)=C.map qw
def MnQ(t:LB)(w:World)(e:Ending)(w':World):Prop :=
 aA [] w w'/\(((qV jC t).1≠0/\e=.returned (.tuple #[.pointer none,.int .i64 ((qV jC t).1:Nat),.int .i64 ((qV jC t).2:Nat)])) \/
 (∃L C cb base X,qV jC t=(0,0)/\mX t=.ok (L,C)/\e=.returned (.tuple #[sU cb,.int .i64 0,.int .i64 0])/\CfR w w' cb base C X))
theorem ad4(re:LB->Nat):∀(C:List CR) (i:Nat),(xF re C i).1=0->xF re C i=(0,0)
 | [],_,_=>rfl
 | c::C,i,h=>by
   rw[xF]at h |-
   by_cases hm:mF re c.ifs=0
   ·simp[hm]at h |-
    exact ad4 re C (i+1) h
   have:(mF re c.ifs==0)=false:=by simpa using hm
   rw[this]at h;simp at h;exact absurd h hm
theorem afw{t:LB}{n l:Nat}(h:mX t=.error (n,l)):n≠0:=by
 unfold mX at h
 split at h
 ·simp at h;omega
 split at h
 ·simp at h;omega
 split at h
 ·simp at h;omega
 split at h
 ·simp at h;omega
 cases h
theorem afx(t:LB)(w:World)(ht:t.length<=1048576):Calls Tryz.prog 6 #[.string (bs t)] w (MnQ t w):=by
 have N1:=aj (ahJ t w ht);go_enter Tryz.func6,Tryz.ntmps6
 go_wp2_with fail
 refine(N1.o).mono ?_;rintro e w1 ⟨hp,hf⟩;rw[akz]at hp;clear N1;cases hr:mX t with
 | error x =>
   obtain⟨n,l⟩:=x;rw[hr]at hp;have HR:Z_ (qV jC t=(n,l)):=by show _=_;unfold qV;rw[hr]
   have hn:=afw hr;have bL:((n:Int)==0)=false:=a0k.2 (by omega);have F:=aj hf;have HN:=aj hn;obtain rfl:=hp;clear hr hf hn;go_wp2;go_ret3
   refine⟨F,.inl ⟨by rw[HR.o];exact HN,by rw[HR.o];rfl⟩⟩
 | ok x =>
   obtain⟨L,C⟩:=x;rw[hr]at hp;obtain⟨cb,base,vr,vt,vl,X,rfl,hc,wR,hl,hx,hR,hm⟩:=hp;have hR:C.map qw=X.map (·.2.2):=hR;have HR:Z_ (qV jC t=Lx (X.map (·.2.2)) 0):=by show _=_;unfold qV;rw[hr,<-hR,abE]
   have hg:=yJ t L C ht (AZ hr).1;have afO:=(AZ hr).2.2;have hXl:X.length=C.length:=by have:=congrArg List.length hR;simpa using this.symm
   have hGd:∀x∈X,age x.2.2:=by
    intro x hx;have:x.2.2∈C.map qw:=by rw[hR];exact List.mem_map_of_mem hx
    rw[a0s]at this;obtain⟨c,hc,e⟩:=this;rw[<-e];exact alZ c (hg.2.2 c hc) (afO.2 c hc)
   have NR:=aj (abp cb base vr vt vl X w1 hc hl hx hm.row (by omega) (λx hx=>⟨by have:=(hGd x hx).ifs;omega,λm hmm=>((hGd x hx).im m hmm).2.2⟩));have HX:=aj hx;have HM:=aj hm;have HC:=aj hc;have F:=aj hf;have HRD:=aj hr;have HRR:=aj hR;have Z:Z_ ((Lx (X.map (·.2.2)) 0).1=0->Lx (X.map (·.2.2)) 0=(0,0)):=by
    intro h;rw[<-hR,abE]at h |-;exact ad4 _ _ _ h
   clear hc wR hl hx hm hg afO hXl hGd hr hf hR;unfold sU at NR |-;go_wp2_with fail
   refine(NR.o).mono ?_;rintro e w2 ⟨rfl,aS,ha⟩;have AI:=aj ha;have FW:Z_ (aA [] w w2):=((F.o.nil (S:=LA X)).trans aS).mono (λk hk hmm=>by
    have h1:=(TB HX.o hmm).1;have h2:=HM.o.lo;have h3:=HM.o.up;omega)
   have CF:Z_ ((Lx (X.map (·.2.2)) 0).1=0->CfR w w2 cb base C X):=by
    intro h0;have nt:∀k,k∈LA X->∀t:TypeId,t≠82->k<base\/∃cur e' fz,w1.heap[k]?=some (.cells cur e' fz)/\e'≠t:=λk hk t bL=>by
     obtain⟨_,c,h⟩:=TB HX.o hk;exact .inr ⟨c,_,_,h,λe=>bL e.symm⟩
    refine⟨HM.o.lo,HM.o.up,⟨vr,vl,?_⟩,λx hx=>?_,λx hx=>?_,λx hx=>?_,λx hx=>?_,AI.o h0,HM.o.nd,HRR.o.symm⟩
    ·rw[<-HM.o.root]
     exact HC.o.aB aS (NK HX.o HC.o (by decide))
    ·exact(HX.o x hx).at_.aB aS (NK HX.o (HX.o x hx).at_ (by decide))
    ·have h:=HX.o x hx
     exact⟨h.rc,h.t0,h.t1,h.t2,h.on⟩
    ·exact jb (HX.o x hx).KI aS (λk hk=>nt k hk _ (by decide))
    exact jb (HM.o.PU x hx) aS (λk hk=>nt k hk _ (by decide))
   clear aS ha NR F HX HM HC AI;obtain⟨RES,JV⟩:∃RES,Lx (X.map (·.2.2)) 0=RES:=⟨_,rfl⟩;rw[JV]at HR Z CF;rw[JV];clear JV;obtain⟨r1,r2⟩:=RES
   by_cases h0:r1=0
   ·have e:=Z.o h0
    simp only[Prod.mk.injEq]at e;obtain⟨rfl,rfl⟩:=e;clear Z h0;go_wp2;go_ret3
    exact⟨FW,.inr ⟨L,C,cb,base,X,HR,HRD,rfl,CF.o (by first | trivial|rfl)⟩⟩
   have bL:((r1:Int)==0)=false:=a0k.2 (by omega);have H0:=aj h0;clear h0 Z CF;go_wp2;go_ret3
   exact⟨FW,.inl ⟨by rw[HR.o];exact H0,by rw[HR.o];rfl⟩⟩
open Go.RowKit
def Dj(v:LB):lS:=match fD v with
 | some e=>⟨(CJ e).length,JU e,(kX e).2.1.map λu=>if dY (dW (bn e) u) then 1 else 0,(kX e).2.2⟩
 | none=>⟨0,[],[],[]⟩
theorem ah7{v:LB}(h:jC v=0):∃e,fD v=some e/\(kX e).1=true/\dx e<=40:=by
 unfold jC at h
 split at h
 ·cases h
 rename_i e he
 split at h
 ·cases h
 split at h
 ·rename_i h1 h2;exact⟨e,he,h2,by omega⟩
 cases h
theorem akU(v:LB)(hv:v.length<=40):RCP jC Dj v:=by
 intro w;refine(YC v w hv).mono ?_;rintro e w' ⟨hF,cs,h1,h2,rfl,h3,h4⟩;refine⟨hF,cs,h1,h2,rfl,λh0 A hA=>?_⟩;obtain⟨x,hx,_,_⟩:=ah7 h0;obtain⟨va,vn,rfl,hq,hi⟩:=h4 x hx h0;refine⟨rfl,λn c y hc hy=>?_⟩;have hn:n=0:=by
  cases n with
  | zero=>rfl
  | succ n=>simp at hc
 subst hn;simp only[a2O,Option.some.injEq]at hc hy;subst hc hy;have OB:OW 4 1 w.heap.size w' va (bc (Dj v).acc):=by
  refine⟨?_,λy hy=>by obtain⟨_,_,rfl⟩:=a0s.1 hy;rfl⟩;have e1:(bc (Dj v).acc).flatten=((kX x).2.1.map λu=>dY (dW (bn x) u)).map λb=>Value.bool b:=by
   unfold Dj bc;rw[hx];simp only[a2C];rw[<-List.flatMap_def]
   induction (kX x).2.1 with
   | nil=>rfl
   | cons a r ih=>simp only[a0Z,a0A,ih,Function.comp];cases dY (dW (bn x) a)<;>rfl
  rw[e1,show(bc (Dj v).acc).length=((kX x).2.1.map λu=>dY (dW (bn x) u)).length by unfold Dj bc;rw[hx];simp];exact hq
 have OI:OW 3 1 w.heap.size w' vn (ic (Dj v).nx):=by
  refine⟨?_,λy hy=>by obtain⟨_,_,rfl⟩:=a0s.1 hy;rfl⟩;have e1:(ic (Dj v).nx).flatten=nv .i64 (kX x).2.2:=by
   unfold Dj ic nv;rw[hx];simp only
   induction (kX x).2.2 with
   | nil=>rfl
   | cons a r ih=>simp only[a0A,List.flatten_cons,ih];rfl
  rw[e1,show(ic (Dj v).nx).length=(kX x).2.2.length by unfold Dj ic;rw[hx];simp];exact hi
 have far:∀{ty:TypeId} {u:Value} {vs:List (List Value)},OW ty 1 w.heap.size w' u vs->∀g,u.ownBlock=some g->g∉A:=by
  intro ty u vs h g hg hm;have:=(h.1.lt g hg).1;have:=hA g hm;omega
 refine⟨va,vn,?_,OB.rw (far OB),OI.rw (far OI)⟩;unfold akD Dj;rw[hx]
open Go.RowKit
structure KN(w w':World):Prop where
 size:w.heap.size<=w'.heap.size
 cell:∀(a:Addr) (v:Value),w.cell? a=some v->v≠.pointer none->w'.cell? a=some v
 row:∀(k:Nat) (cur:Array Value) (t:TypeId) (fz:Nat × Nat),w.heap[k]?=some (.cells cur t fz)->t≠26->w'.heap[k]?=w.heap[k]?
abbrev pz:Array Value:=#[.pointer none,.pointer none,.pointer none,.string ByteArray.empty]
theorem ah8:(Tryz.prog.info? 26).map (·.size)=some 4:=by kernel_rfl
theorem aaA{w:World}{g:Nat}{cs:Array Value}(h:w.heap[g]?=some (.cells cs 26 (0,0)))(hs:cs.size=4):(loadVar 26 ⟨g,0,none⟩).run Tryz.prog w=.ok (.agg cs) w :=
 run_loadVar_row w g 26 26 cs (0,0) _ h Tryz.underlying26 rfl (by rw[hs];exact ah8)
theorem akV{w:World}{g:Nat}(x c:Value)(h:w.heap[g]?=some (.cells pz 26 (0,0))):KN w ((((w.setCell ⟨g,0,none⟩ x).setCell ⟨g,1,none⟩ c).setCell ⟨g,2,none⟩ (.pointer none)).setCell ⟨g,3,none⟩ (.string ByteArray.empty)):=by
 have f:=Ja w g x c (.pointer none) (.string ByteArray.empty);have r:=Qf x c (.pointer none) (.string ByteArray.empty) h;refine⟨f.size,λa v ha hv=>?_,λk cur t fz hk ht=>?_⟩
 ·by_cases hg:a.block=g
  ·obtain⟨b,o,m⟩:=a
   simp only at hg;subst hg;cases m with
   | some m=>simp[World.cell?,h]at ha
   | none =>
     rw[cell_of_row _ b o _ _ _ r];rw[cell_of_row w b o _ _ _ h]at ha;rcases a3n o 4 with ho|ho
     ·have:o=0\/o=1\/o=2\/o=3:=by omega
      rcases this with rfl|rfl|rfl|rfl
      ·simp at ha;exact absurd ha.symm hv
      ·simp at ha;exact absurd ha.symm hv
      ·simp at ha;exact absurd ha.symm hv
      exact ha
     rw[Array.getElem?_eq_none (by simpa using ho)]at ha;cases ha
  exact(f.cell (p:=a) (World.block_lt_of_cell? w _ ha) (by simpa using hg)).trans ha
 refine f.block k (a0d.1 hk).1 ?_;simp;rintro rfl;rw[h]at hk;simp at hk;exact ht hk.2.1.symm
def CdQ(Q:World->Nat->Prop)(t:LB)(w:World)(e:Ending)(w':World):Prop :=
 aA [] w w'/\(((qV jC t).1≠0/\e=.returned (.tuple #[.agg pz,.bool true])) \/
 (∃pb L C cb base X,qV jC t=(0,0)/\mX t=.ok (L,C)/\e=.returned (.tuple #[.agg #[.pointer (some ⟨pb,0,none⟩),.pointer (some ⟨cb,0,none⟩),.pointer none,.string ByteArray.empty],.bool true])/\Q w' pb/\CfR w w' cb base C X/\w.heap.size<=pb))
def CpQ(Q:World->Nat->Prop)(t:LB)(w:World)(e:Ending)(w':World):Prop :=
 aA [] w w'/\(((qV jC t).1≠0/\e=.returned (.tuple #[.pointer none,.int .i64 ((qV jC t).1:Nat),.int .i64 ((qV jC t).2:Nat)])) \/
 (∃pb,qV jC t=(0,0)/\e=.returned (.tuple #[.pointer (some ⟨pb,0,none⟩),.int .i64 0,.int .i64 0])/\Q w' pb/\w.heap.size<=pb))
theorem CfR.over{w0 w w':World}{cb base:Nat}{C:List CR}{X:List (Nat × jK × RR)}(h:CfR w0 w cb base C X){g:Nat}(f:aA [g] w w')(hg:g<w0.heap.size)(w9:World)(h9:w9.heap.size<=w0.heap.size)(hp:∃cur,w.heap[g]?=some (.cells cur 26 (0,0))):CfR w9 w' cb base C X:=by
 obtain⟨cur,Z7⟩:=hp;have l7:=h.lo;have hup:=h.up;have ne:∀(k:Nat) (c:Array Value) (t:TypeId) (fz:Nat × Nat),w.heap[k]?=some (.cells c t fz)->t≠26->k ∉ [g]:=by
  intro k c t fz hk ht hm;simp at hm;subst hm;rw[Z7]at hk;simp at hk;exact ht hk.2.1.symm
 refine⟨by omega,hup,?_,λx hx=>?_,h.rc,λx hx=>?_,λx hx=>?_,λj x hx=>?_,h.nd,h.eq⟩
 ·obtain⟨vr,vl,hc⟩:=h.cf
  exact⟨vr,vl,hc.aB f (ne _ _ _ _ hc (by decide))⟩
 ·exact(h.rb x hx).aB f (ne _ _ _ _ (h.rb x hx) (by decide))
 ·exact ek (h.KI x hx) f (λk hk=>by simp at hk;omega)
 ·exact ek (h.kd x hx) f (λk hk=>by simp at hk;omega)
 obtain⟨a,cap,h1,h2,h3⟩:=h.ifs j x hx;refine⟨a,cap,h1,h2,?_⟩;rcases h3 with h3|⟨g',aib,e,hg',hk⟩
 ·exact .inl h3
 refine .inr ⟨g',aib,e,(f.block g' (a0d.1 hg').1 (ne _ _ _ _ hg' (by decide))).trans hg',λk m hm=>?_⟩;obtain⟨c0,c1,c2,q,c3,hd,hq⟩:=hk k m hm;refine⟨c0,c1,c2,q,c3,hd,λp hp=>?_⟩;obtain⟨n,e,h4,h5,h6⟩:=hq p hp;exact⟨n,e,h4,h5,RN.aW (eU.aB f (λb hb c fz hh=>by simp at hb;subst hb;rw[Z7]at hh;simp at hh)) h6⟩
theorem YJ(Q:World->Nat->Prop)(hQ:∀a b p,Q a p->KN a b->Q b p)(hQf:∀a b p,Q a p->aA [] a b->Q b p)(t:LB)(w:World)(ht:t.length<=1048576)(hC:∀w,Calls Tryz.prog 5 #[.string (bs t)] w (CpQ Q t w)) :
 Calls Tryz.prog 4 #[.string (bs t)] w (CdQ Q t w):=by
 have F0:=aj ((aA.refl [] w).alloc (Obj.cells pz 26));have R0:Z_ ((w.alloc (Obj.cells pz 26)).heap[w.heap.size]?=some (.cells pz 26 (0,0))):=bK _ _;have N1:=aj (hC (w.alloc (Obj.cells pz 26)));have HQ:=aj hQ;have HQf:=aj hQf;clear hC hQ hQf;go_enter Tryz.func4,Tryz.ntmps4
 go_wp2_with fail
 refine(N1.o).mono ?_;clear N1;rintro e w1 ⟨rC,h1⟩;have F1:=aj (F0.o.trans rC);have R1:(w1.heap[w.heap.size]?=some (.cells pz 26 (0,0))):=(rC.block w.heap.size (by simp) (by simp)).trans R0;have fT:=rC.size;simp at fT;have N2:=aj (afx t w1 ht);have RR1:=aj R1;clear rC F0 R0 R1;rcases h1 with⟨hl,rfl⟩|⟨pb,hl,rfl,hP,Fz⟩
 ·have HL:=aj hl
  generalize hc:qV jC t=cr at *;obtain⟨n,l⟩:=cr;simp only at hl HL |-;have bL:((n:Int) != 0)=true:=by rw[a1O];omega
  have hne':((n:Int)==0)=false:=by rw[a0k];omega
  have e1:((n:Int)==(n:Int))=true:=a2x _;have e2:((l:Int)==(l:Int))=true:=a2x _;have HC:=aj hc;clear hl hc;go_wp2_with fail
  refine(N2.o).mono ?_;clear N2;rintro e w2 ⟨vF,h2⟩;rw[HC.o]at h2;have R2:(w2.heap[w.heap.size]?=some (.cells pz 26 (0,0))):=(vF.block w.heap.size (by omega) (by simp)).trans RR1;have F2:=aj (F1.o.trans vF);have hR2:=aj R2;have d0:w2.cell? ⟨w.heap.size,0,none⟩=some (.pointer none):=by simp[World.cell?,R2]
  have d1:w2.cell? ⟨w.heap.size,1,none⟩=some (.pointer none):=by simp[World.cell?,R2]
  have d2:w2.cell? ⟨w.heap.size,2,none⟩=some (.pointer none):=by simp[World.cell?,R2]
  have d3:w2.cell? ⟨w.heap.size,3,none⟩=some (.string ByteArray.empty):=by simp[World.cell?,R2]
  have dz:∀o,w2.frozen? ⟨w.heap.size,o,none⟩=false:=λo=>by simp[World.frozen?,R2]
  clear vF R2;rcases h2 with⟨_,rfl⟩|⟨_,_,_,_,_,h,_⟩
  ·simp only
   go_wp2;refine bodyPost_ret (bH rfl _ _ w.heap.size pz rfl (aaA (Qf _ _ _ _ hR2) rfl)) rfl ?_;refine⟨F2.o.above (Ja _ _ _ _ _ _) (by simp),.inl ⟨by rw[HC.o];exact HL,rfl⟩⟩
  exfalso
  simp only[Prod.mk.injEq]at h;exact HL.o h.1
 have HL:=aj hl;have P1:=aj hP;clear hl hP;go_wp2_with fail
 refine(N2.o).mono ?_;clear N2;rintro e w2 ⟨vF,h2⟩;rw[HL.o]at h2;have R2:(w2.heap[w.heap.size]?=some (.cells pz 26 (0,0))):=(vF.block w.heap.size (by omega) (by simp)).trans RR1;have F2:=aj (F1.o.trans vF);have P2:=aj (HQf.o _ _ _ P1.o vF);have hR2:=aj R2;have d0:w2.cell? ⟨w.heap.size,0,none⟩=some (.pointer none):=by simp[World.cell?,R2]
 have d1:w2.cell? ⟨w.heap.size,1,none⟩=some (.pointer none):=by simp[World.cell?,R2]
 have d2:w2.cell? ⟨w.heap.size,2,none⟩=some (.pointer none):=by simp[World.cell?,R2]
 have d3:w2.cell? ⟨w.heap.size,3,none⟩=some (.string ByteArray.empty):=by simp[World.cell?,R2]
 have dz:∀o,w2.frozen? ⟨w.heap.size,o,none⟩=false:=λo=>by simp[World.frozen?,R2]
 clear vF R2;rcases h2 with⟨h,_⟩|⟨L,C,cb,base,X,_,hrd,rfl,hcf⟩
 ·simp at h
 have HRD:=aj hrd;have CF:=aj hcf;clear hrd hcf;unfold sU;go_wp2;refine bodyPost_ret (bH rfl _ _ w.heap.size #[.pointer (some ⟨pb,0,none⟩),.pointer (some ⟨cb,0,none⟩),.pointer none,.string ByteArray.empty] rfl (aaA (Qf _ _ _ _ hR2) rfl)) rfl ?_;refine⟨F2.o.above (Ja _ _ _ _ _ _) (by simp),.inr ⟨pb,L,C,cb,base,X,HL,HRD,rfl,HQ.o _ _ _ P2.o (akV _ _ hR2),CF.o.over (Ja _ _ _ _ _ _) (by omega) w (by omega) ⟨_,hR2⟩,?_⟩⟩;simp at Fz;omega
open Go.RowKit
theorem akW(t:LB)(w:World)(ht:t.length<=1048576):Calls Tryz.prog 5 #[.string (bs t)] w (CpQ (λ_ _=>True) t w):=by
 refine(YI jC Dj t w ht (λL C h c hc m hm _=>akU _ ?_)).mono ?_
 ·have h1:=(AZ h).1
  exact((yJ t L C ht h1).2.2 c hc).ifs m hm |>.val
 rintro e w' ⟨hF,⟨h1,rfl⟩|⟨L,C,s,V,pb,h1,_,_,rfl,_,_,Fz⟩⟩
 ·exact⟨hF,.inl ⟨h1,rfl⟩⟩
 exact⟨hF,.inr ⟨pb,h1,rfl,trivial,Fz⟩⟩
theorem Qr(t:LB)(w:World)(ht:t.length<=140737488355328) :
 Calls Tryz.prog 3 #[.string (bs t)] w λe w'=>e=.returned (.bool true)/\aA [] w w':=by
 have fM:=bS
 by_cases hb:16384<t.length
 ·have hd:decide ((16384:Int)<(t.length:Int))=true:=a0h (by omega)
  have EP:decide (16384<t.length)=true:=a0h hb;go_enter Tryz.func3,Tryz.ntmps3
  go_wp2;go_ret;exact⟨rfl,aA.refl _ _⟩
 have hd:decide ((16384:Int)<(t.length:Int))=false:=a0f (by omega);have EP:decide (16384<t.length)=false:=a0f hb;have N1:=aj (YJ (λ_ _=>True) (λ_ _ _ _ _=>trivial) (λ_ _ _ _ _=>trivial) t w (by omega) (λw=>akW t w (by omega)));go_enter Tryz.func3,Tryz.ntmps3
 go_wp2_with fail
 refine(N1.o).mono ?_;clear N1;rintro e w1 ⟨hF,hq⟩;have F:=aj hF;clear hF;rcases hq with⟨_,rfl⟩|⟨pb,L,C,cb,base,X,_,_,rfl,_⟩
 ·go_wp2
  go_ret;exact⟨rfl,F.o.alloc _⟩
 go_wp2;go_ret;exact⟨rfl,F.o.alloc _⟩
end Go.Proofs.YtgbdcmpmmkfbhaaGreat
namespace Go.Proofs.YtgbdcmpmmkfbhaaGreat.RY
open Go.ChangeShapes Go.WideShapes Go.ChangeAt Go.RowKit
open Go.ChangeMaps (open_string shut_string)
theorem own:ownKnob Tryz.prog.godebug=none:=by kernel_rfl
theorem lifted(os:Os)(started:os.Started)(H:Type)(enc:TypeId × Value->H) :
 ReturnsInHanded {} Tryz.checked os 3 .any (Rows.compilesSpec.pre6 enc Tryz.prog Tryz.f3 Rows.compilesRow.domain false) (Rows.compilesSpec.post enc Tryz.prog Tryz.f3 false true false false):=by
 refine returnsInHanded_of_change_sized (C:=Tryz.checked) own started (by kernel_rfl) Tryz.func3
  (ChangeSpec.witness6 (enc:=enc) (C:=Tryz.checked) false ⟨#[],#[.string ByteArray.empty],[]⟩ 8 (by kernel_rfl) (by kernel_rfl) (by kernel_rfl) (by kernel_rfl)) ?_
 intro W base args ds gs before akX hW arv ane _;have anf:∀(j:Nat) t v,Tryz.f3.params[j]?=some t->args[j]?=some v->Value.okWide Tryz.prog W .any base t v:=akX;have hW':=hW;obtain⟨p,q,hA0,hV,rfl,MW,oo⟩:=hW;have hA:DataW.TrodAll enc Tryz.prog W 0 (λ_=>true) true Tryz.f3.params.toList args.toList ds p:=hA0;have fM:(DataW.weightsEach Tryz.prog (Tryz.f3.params.toList++Rows.compilesSpec.plain.varTypes Tryz.prog) (ds++gs)).all (·<=reachBytes)=true:=ane;rw[Tryz.params3]at hA anf fM;obtain⟨v0,vs0,d0,ds0,p0,q0,aqg,rfl,rfl,h0,r0⟩:=trodAll_cons hA;obtain⟨rfl,rfl,rfl⟩:=trodAll_nil r0;obtain rfl:args=#[v0]:=by cases args;simp_all
 obtain⟨rfl,rfl⟩:=trodVars_none hV;obtain⟨s,rfl,rfl,rfl,hs⟩:=open_string Tryz.underlying9 (anf 0 9 v0 rfl rfl) h0;clear hA0 akX ane;simp only[a0Q]at hW';have pF:s.data.toList.length<=140737488355328:=a0e (sized_string (j:=0) fM rfl rfl) (Nat.le_of_lt reachBytes_lt);have hb:Value.string s=.string (bs s.data.toList):=by rw[ang]
 rw[hb];refine(Qr s.data.toList W pF).mono λe W' ⟨he,hf⟩=>?_
 rw[<-hb];subst he;refine⟨_,rfl,[.lit (.string s.data.toList)],[],[],[],[],[],by simpa using hW',trodAll_cons_mk (shut_bool Tryz.underlying4 _) trodAll_mk0,trodAll_cons_mk (shut_string Tryz.underlying9 hs) trodAll_mk0,rfl,hf.below.frame _,λh=>by cases h⟩
theorem over:Rows.compilesRow.holds Tryz.pinned (OpenSpec.ofChange Rows.compilesSpec) :=
 OpenClaim.holds_of_wide 3 Tryz.f3 rfl rfl rfl rfl rfl rfl rfl ⟨rfl,rfl,rfl,rfl,rfl⟩ rfl rfl rfl rfl rfl (by kernel_rfl) Tryz.func3 (by kernel_rfl)
  (a2X (by kernel_rfl)) (by unfold Func.isWrapper;first | (rw[a0j (by decide +kernel)];kernel_rfl)|(rw[a0g (by decide +kernel)];exact⟨rfl,rfl⟩))
  (λos started H enc _=>lifted os started H enc)
end Go.Proofs.YtgbdcmpmmkfbhaaGreat.RY
namespace Go.Proofs.YtgbdcmpmmkfbhaaGreat
theorem compiles_said:Rows.CompilesSaid:=RY.over
end Go.Proofs.YtgbdcmpmmkfbhaaGreat
