import Derived.Test.YtpcbbbilmpobaaaGreatDoorJ23
set_option linter.unusedVariables false
set_option linter.unusedSimpArgs false
set_option linter.unnecessarySimpa false
set_option maxRecDepth 100000
set_option maxHeartbeats 4000000
namespace Go.Proofs.YtpcbbbilmpobaaaGreatDoor
open Go.RowKit
theorem LineOf_any(n:Int)(w:World)(h0:0≤n)(h1:n≤2000000) :
 Calls Tryz.prog 25 #[.int .i64 n] w fun e w'=>e=.returned (.int .i64 (n+2))∧w=w':=by
 go_enter Tryz.func25,Tryz.ntmps25
 go_wp2;go_ret;exact ⟨rfl,rfl⟩
def followOk(d da:Int):Bool:=decide (1≤d)&&decide (d≤5)&&decide (d≤da+1)
def rootOk(c:CR):Bool:=(c.d==0)&&c.ifs.isEmpty&&!c.co&&!(c.rc == [45])
theorem mayFollow_any(rv:RV)(da:Int)(w:World)(h0:0≤da)(h1:da≤2000000)(hb:∃ a n c,rv.vby=.slice a n c)(hi:∃ a n c,rv.vif=.slice a n c) :
 Calls Tryz.prog 43 #[.agg rv.cells, .int .i64 da] w fun e w'=>e=.returned (.bool (followOk rv.d da))∧Frm [] w w':=by
 obtain ⟨d,rc,tb,vby,wt,ev,rp,vif,co⟩:=rv;obtain ⟨ab,nb,cb,hb⟩:=hb;obtain ⟨ai,ni,ci,hi⟩:=hi;simp only at hb hi;subst hb hi;show Calls Tryz.prog 43 #[.agg #[.int .i64 d, .string (bs rc), .bool tb, .slice ab nb cb, .int .i64 wt, .int .i64 ev, .int .i64 rp, .slice ai ni ci, .bool co], .int .i64 da] w _
 by_cases h2:1≤d
 ·by_cases h3:d≤5
  ·have e2:decide (1≤d)=true:=decide_eq_true h2
   have e3:decide (d≤5)=true:=decide_eq_true h3;go_enter Tryz.func43,Tryz.ntmps43
   go_wp2;go_ret;exact ⟨ret_bool (by simp[followOk,e2,e3]),(Frm.refl _ _).alloc _⟩
  ·have e2:decide (1≤d)=true:=decide_eq_true h2
   have e3:decide (d≤5)=false:=decide_eq_false h3;go_enter Tryz.func43,Tryz.ntmps43
   go_wp2;go_ret;exact ⟨ret_bool (by simp[followOk,e2,e3]),(Frm.refl _ _).alloc _⟩
 ·have e2:decide (1≤d)=false:=decide_eq_false h2
  go_enter Tryz.func43,Tryz.ntmps43
  go_wp2;go_ret;exact ⟨ret_bool (by simp[followOk,e2]),(Frm.refl _ _).alloc _⟩
theorem mayFollow_lit(d:Int)(rc:List UInt8)(tb:Bool)(ab:Option Addr)(nb cb:Nat)(wt ev rp:Int)(ai:Option Addr)(ni ci:Nat)(co:Bool)(da:Int)(w:World)(h0:0≤da)(h1:da≤2000000) :
 Calls Tryz.prog 43 #[.agg #[.int .i64 d, .string (bs rc), .bool tb, .slice ab nb cb, .int .i64 wt, .int .i64 ev, .int .i64 rp, .slice ai ni ci, .bool co], .int .i64 da] w fun e w'=>e=.returned (.bool (followOk d da))∧Frm [] w w' :=
 mayFollow_any ⟨d,rc,tb, .slice ab nb cb,wt,ev,rp, .slice ai ni ci,co⟩ da w h0 h1 ⟨_,_,_,rfl⟩ ⟨_,_,_,rfl⟩
theorem mayBeRoot_any(rv:RV)(ni:Nat)(w:World)(hb:∃ a n c,rv.vby=.slice a n c)(hi:∃ a c,rv.vif=.slice a ni c) :
 Calls Tryz.prog 44 #[.agg rv.cells] w fun e w'=>e=.returned (.bool ((rv.d==0)&&(ni==0)&&!rv.co&&!(rv.rc == [45])))∧Frm [] w w':=by
 obtain ⟨d,rc,tb,vby,wt,ev,rp,vif,co⟩:=rv;obtain ⟨ab,nb,cb,hb⟩:=hb;obtain ⟨ai,ci,hi⟩:=hi;simp only at hb hi;subst hb hi;have hl:=bs_toList;have hk:({ data:=#[45] }:ByteArray).toList=[45]:=bs_toList [45];show Calls Tryz.prog 44 #[.agg #[.int .i64 d, .string (bs rc), .bool tb, .slice ab nb cb, .int .i64 wt, .int .i64 ev, .int .i64 rp, .slice ai ni ci, .bool co]] w _;cases h1:(d==0)
 ·go_enter Tryz.func44,Tryz.ntmps44
  go_wp2;go_ret;exact ⟨ret_bool (by simp[h1]),(Frm.refl _ _).alloc _⟩
 ·cases h2:((ni:Int)==0)
  ·have h2':(ni==0)=false:=by rw[beq_eq_false_iff_ne]at h2 ⊢;omega
   go_enter Tryz.func44,Tryz.ntmps44
   go_wp2;go_ret;exact ⟨ret_bool (by simp[h1,h2']),(Frm.refl _ _).alloc _⟩
  ·have h2':(ni==0)=true:=by rw[beq_iff_eq]at h2 ⊢;omega
   cases co
   all_goals
    go_enter Tryz.func44,Tryz.ntmps44
    go_wp2;go_ret;exact ⟨ret_bool (by simp[h1,h2']),(Frm.refl _ _).alloc _⟩
theorem mayBeRoot_lit(d:Int)(rc:List UInt8)(tb:Bool)(ab:Option Addr)(nb cb:Nat)(wt ev rp:Int)(ai:Option Addr)(ni ci:Nat)(co:Bool)(w:World) :
 Calls Tryz.prog 44 #[.agg #[.int .i64 d, .string (bs rc), .bool tb, .slice ab nb cb, .int .i64 wt, .int .i64 ev, .int .i64 rp, .slice ai ni ci, .bool co]] w fun e w'=>e=.returned (.bool ((d==0)&&(ni==0)&&!co&&!(rc == [45])))∧Frm [] w w' :=
 mayBeRoot_any ⟨d,rc,tb, .slice ab nb cb,wt,ev,rp, .slice ai ni ci,co⟩ ni w ⟨_,_,_,rfl⟩ ⟨_,_,rfl⟩
def treeGo:List CR→Nat→Int→Nat
 | [],_,_=>0
 | c::r,i,da=>if !(if i==0 then rootOk c else followOk c.d da)||decide (16≤i) then i+2 else treeGo r (i+1) c.d
def treeF(C:List CR):Nat:=if C.isEmpty then 2 else treeGo C 0 0
theorem flat_get{α β:Type}(f:α→List β)(s:Nat)(hf:∀ a,(f a).length=s):∀ (L:List α) (j k:Nat) (a:α),L[j]?=some a→k<s→(L.flatMap f)[j*s+k]?=(f a)[k]?
 | [],j,k,a,h,_=>by simp at h
 | x::L,0,k,a,h,hk=>by
   simp at h;subst h;rw[Nat.zero_mul,Nat.zero_add,List.flatMap_cons,List.getElem?_append_left (by rw[hf];exact hk)]
 | x::L,j+1,k,a,h,hk=>by
   simp at h;rw[List.flatMap_cons,List.getElem?_append_right (by rw[hf,Nat.add_mul];omega),hf,show (j+1)*s+k-s=j*s+k by rw[Nat.add_mul];omega];exact flat_get f s hf L j k a h hk
theorem RL.cell{base:Nat}{w:World}{R:List RV}{g n cap:Nat}(h:RL base w (.slice (some ⟨g,0,none⟩) n cap) R){j:Nat}{rv:RV}(hj:R[j]?=some rv)(k:Nat)(hk:k<9):w.cell? ⟨g,j*9+k,none⟩=rv.cells[k]?:=by
 have h1:=flat_get rcells 9 (fun a=>rfl) R j k rv hj hk;have h2:(rcells rv)[k]?=rv.cells[k]?:=by simp[rcells]
 have h3:=World.ownsRow.cells h (g:=g) rfl (j*9+k);have hlt:k<rv.cells.size:=hk;rw[Array.getElem?_eq_getElem hlt]at h2 ⊢;have:=h3 _ (h1.trans h2);rw[add0]at this;exact this
theorem treeFault_any(base:Nat)(v:Value)(R:List RV)(C:List CR)(w:World)(hr:RL base w v R)(hp:Reps base w R C)(hR:R.length≤1048576)(hd:∀ c∈C,c.d≤1048576) :
 Calls Tryz.prog 22 #[v] w fun e w'=>e=.returned (.int .i64 (treeF C))∧Frm [] w w':=by
 obtain ⟨a,cap,rfl⟩:=own_shape hr;have hcl:R.length=C.length:=hp.1;have HR:Hid (RL base w (.slice a R.length cap) R):=hr;have HP:Hid (Reps base w R C):=hp;have HD:Hid (∀ c∈C,c.d≤1048576):=hd;clear hr hp hd
 by_cases h0:R.length=0
 ·have hg:Hid (treeF C=2):=by
   show _=_;unfold treeF;rw[List.eq_nil_of_length_eq_zero (hcl.symm.trans h0)];rfl
  have hb:((R.length:Int)==0)=true:=by simp[h0]
  go_enter Tryz.func22,Tryz.ntmps22
  go_wp2_with (go_at_call 25;refine (LineOf_any _ _ (by omega) (by omega)).mono ?_;rintro e w' ⟨rfl,rfl⟩)
  go_ret;exact ⟨ret_int (by rw[hg.out];rfl),Frm.refl _ _⟩
 have hb:((R.length:Int)==0)=false:=beq_eq_false_iff_ne.2 (by omega);have hg:Hid (treeF C=treeGo C 0 0):=by
  show _=_;unfold treeF;have:C.isEmpty=false:=by
   cases C with
   | nil=>rw[List.length_nil]at hcl;omega
   | cons=>rfl
  rw[this];rfl
 obtain ⟨g,rfl⟩:∃ g,a=some ⟨g,0,none⟩:=by
  rcases HR.out.2 with ⟨e,h⟩|⟨g,c,cur,e,_⟩
  ·omega
  ·simp at e;exact ⟨g,e.1⟩
 have HCL:Hid (R.length=C.length):=hcl;clear hcl;go_enter Tryz.func22,Tryz.ntmps22
 go_wp2_with fail
 go_loopg [3,13] R.length (fun k vd vi wr=>∃ (j:Nat) (da:Nat),j+k=R.length∧vi=.int .i64 j∧vd=.int .i64 da∧da≤1048576∧treeGo (C.drop j) j da=treeF C∧Frm [] w wr)
 case atStart=>exact ⟨0,0,by omega,rfl,rfl,by omega,hg.out.symm,Frm.refl _ _⟩
 case round =>
  obtain ⟨j,da,hj,rfl,rfl,hda,hgo,hfr⟩:=hrel;have KG:Hid (treeGo (C.drop j) j da=treeF C):=hgo;have KF:Hid (Frm [] w wr):=hfr;clear hgo hfr
  by_cases hlt:j<R.length
  ·have hcl:=HCL.out
   have hjR:R[j]?=some R[j]:=List.getElem?_eq_getElem hlt;have hjC:C[j]?=some (C[j]'(by omega)):=List.getElem?_eq_getElem (by omega);have hrep:=HP.out.2 j _ _ hjR hjC;have hdc:=HD.out _ (List.getElem_mem (l:=C) (n:=j) (by omega));have Hd:Hid (C.drop j=(C[j]'(by omega))::C.drop (j+1)):=List.drop_eq_getElem_cons (by omega);generalize (C[j]'(by omega))=c at *;have hr1:RL base wr (.slice (some ⟨g,0,none⟩) R.length cap) R:=own_frm HR.out KF.out (by simp);have hcell:=fun k hk=>hr1.cell hjR k hk
   generalize R[j]=rv at *;obtain ⟨d,rc,tb,vby,wt,ev,rp,vif,co⟩:=rv;have q0:wr.cell? ⟨g,j*9,none⟩=some (.int .i64 d):=hcell 0 (by omega);have q1:wr.cell? ⟨g,j*9+1,none⟩=some (.string (bs rc)):=hcell 1 (by omega);have q2:wr.cell? ⟨g,j*9+2,none⟩=some (.bool tb):=hcell 2 (by omega);have q3:wr.cell? ⟨g,j*9+3,none⟩=some vby:=hcell 3 (by omega);have q4:wr.cell? ⟨g,j*9+4,none⟩=some (.int .i64 wt):=hcell 4 (by omega);have q5:wr.cell? ⟨g,j*9+5,none⟩=some (.int .i64 ev):=hcell 5 (by omega);have q6:wr.cell? ⟨g,j*9+6,none⟩=some (.int .i64 rp):=hcell 6 (by omega);have q7:wr.cell? ⟨g,j*9+7,none⟩=some vif:=hcell 7 (by omega);have q8:wr.cell? ⟨g,j*9+8,none⟩=some (.bool co):=hcell 8 (by omega);obtain ⟨ab,cb,eb⟩:=hrep.by_.shape;obtain ⟨ai,ci,ei⟩:=own_shape hrep.ifs;have hrd:=hrep.d;have hrc:=hrep.rc;have hco:=hrep.co;simp only at eb ei hrd hrc hco;subst eb ei hrd hrc hco;clear hcell hr1 hrep hjR hjC hcl;have hnew:=heap1 wr (Obj.cells #[Value.int IntKind.i64 c.d,Value.string (bs c.rc),Value.bool tb,Value.slice ab c.bys.length cb,Value.int IntKind.i64 wt,Value.int IntKind.i64 ev,Value.int IntKind.i64 rp,Value.slice ai c.ifs.length ci,Value.bool c.co] 78);have HN:Hid (RT (wr.alloc (Obj.cells #[Value.int IntKind.i64 c.d,Value.string (bs c.rc),Value.bool tb,Value.slice ab c.bys.length cb,Value.int IntKind.i64 wt,Value.int IntKind.i64 ev,Value.int IntKind.i64 rp,Value.slice ai c.ifs.length ci,Value.bool c.co] 78)) wr.heap.size ⟨c.d,c.rc,tb, .slice ab c.bys.length cb,wt,ev,rp, .slice ai c.ifs.length ci,c.co⟩):=hnew;clear hnew;have Hst:Hid (treeF C=if !(if j==0 then rootOk c else followOk c.d da)||decide (16≤j) then j+2 else treeGo (C.drop (j+1)) (j+1) c.d):=by
    show _=_;rw[← KG.out,Hd.out];rfl
   clear KG Hd;go_wp2_with fail
   refine (mayFollow_lit c.d c.rc tb ab _ cb wt ev rp ai _ ci c.co da _ (by omega) (by omega)).mono ?_;rintro e w1 ⟨rfl,hf1⟩;have KF1:Hid (Frm [] w w1):=(KF.out.alloc _).trans hf1;have hn1:=HN.out.frm hf1 (by simp);have HN1:Hid (RT w1 wr.heap.size ⟨c.d,c.rc,tb, .slice ab c.bys.length cb,wt,ev,rp, .slice ai c.ifs.length ci,c.co⟩):=hn1;have q0:w1.cell? ⟨wr.heap.size,0,none⟩=some (.int .i64 c.d):=hn1.cell 0;have q1:w1.cell? ⟨wr.heap.size,1,none⟩=some (.string (bs c.rc)):=hn1.cell 1;have q2:w1.cell? ⟨wr.heap.size,2,none⟩=some (.bool tb):=hn1.cell 2;have q3:w1.cell? ⟨wr.heap.size,3,none⟩=some (.slice ab c.bys.length cb):=hn1.cell 3;have q4:w1.cell? ⟨wr.heap.size,4,none⟩=some (.int .i64 wt):=hn1.cell 4;have q5:w1.cell? ⟨wr.heap.size,5,none⟩=some (.int .i64 ev):=hn1.cell 5;have q6:w1.cell? ⟨wr.heap.size,6,none⟩=some (.int .i64 rp):=hn1.cell 6;have q7:w1.cell? ⟨wr.heap.size,7,none⟩=some (.slice ai c.ifs.length ci):=hn1.cell 7;have q8:w1.cell? ⟨wr.heap.size,8,none⟩=some (.bool c.co):=hn1.cell 8;clear hf1 hn1 HN
   by_cases hj0:j=0
   ·subst hj0
    have hrt:rootOk c=(((c.d:Int)==0)&&(c.ifs.length==0)&&!c.co&&!(c.rc == [45])):=by
     unfold rootOk;have e1:((c.d:Int)==0)=(c.d==0):=by
      rw[Bool.eq_iff_iff];simp
     have e2:(c.ifs.length==0)=c.ifs.isEmpty:=by cases c.ifs<;>rfl
     rw[e1,e2]
    have Hrt:=hide hrt;clear hrt;go_wp2_with fail
    refine (mayBeRoot_lit c.d c.rc tb ab _ cb wt ev rp ai _ ci c.co _).mono ?_;rintro e w2 ⟨rfl,hf2⟩;have KF2:Hid (Frm [] w w2):=KF1.out.trans hf2;have q0':w2.cell? ⟨wr.heap.size,0,none⟩=some (.int .i64 c.d):=(HN1.out.frm hf2 (by simp)).cell 0;rw[← Hrt.out];clear hf2 q0 q1 q2 q3 q4 q5 q6 q7 q8;cases hok:rootOk c
    ·have Hx:Hid (treeF C=2):=by show _=_;rw[Hst.out,hok];rfl
     go_wp2_with (go_at_call 25;refine (LineOf_any _ _ (by omega) (by omega)).mono ?_;rintro e w' ⟨rfl,rfl⟩)
     go_ret;exact ⟨ret_int (by rw[Hx.out];rfl),KF2.out⟩
    ·have Hx:Hid (treeGo (C.drop 1) 1 c.d=treeF C):=by show _=_;rw[Hst.out,hok];rfl
     go_wp2;go_roundg (gk-1)
     case measure=>omega
     case rel=>exact ⟨1,c.d,by omega,by go_num,rfl,hdc,Hx.out,KF2.out⟩
   ·have hj0':((j:Int)==0)=false:=beq_eq_false_iff_ne.2 (by omega)
    have hjn:(j==0)=false:=beq_eq_false_iff_ne.2 hj0;cases hok:followOk c.d da
    ·have Hx:Hid (treeF C=j+2):=by show _=_;rw[Hst.out,hok,hjn];rfl
     go_wp2_with (go_at_call 25;refine (LineOf_any _ _ (by omega) (by omega)).mono ?_;rintro e w' ⟨rfl,rfl⟩)
     go_ret;exact ⟨ret_int (by rw[Hx.out];simp),KF1.out⟩
    ·by_cases h16:16≤j
     ·have Hx:Hid (treeF C=j+2):=by show _=_;rw[Hst.out,hok,hjn];simp[h16]
      go_wp2_with (go_at_call 25;refine (LineOf_any _ _ (by omega) (by omega)).mono ?_;rintro e w' ⟨rfl,rfl⟩)
      go_ret;exact ⟨ret_int (by rw[Hx.out];simp),KF1.out⟩
     ·have Hx:Hid (treeGo (C.drop (j+1)) (j+1) c.d=treeF C):=by show _=_;rw[Hst.out,hok,hjn];simp[h16]
      go_wp2;go_roundg (gk-1)
      case measure=>omega
      case rel=>exact ⟨j+1,c.d,by omega,by go_num,rfl,hdc,Hx.out,KF1.out⟩
  ·have hgz:Hid (treeF C=0):=by
    show _=_;rw[← KG.out,List.drop_eq_nil_of_le (by have:=HCL.out;omega)];rfl
   go_wp2;go_ret;exact ⟨ret_int (by rw[hgz.out];rfl),KF.out⟩
def dupGo:List (List UInt8)→List (List UInt8)→Bool
 | _,[]=>false
 | pre,x::r=>if pre.contains x then true else dupGo (pre++[x]) r
def nameGo(L:List (List UInt8)):List CR→Nat→Nat
 | [],_=>0
 | c::r,i=>if !(c.rc == [45])&&!(L.contains c.rc) then i+2 else nameGo L r (i+1)
def nameF(L:List (List UInt8))(C:List CR):Nat:=if dupGo [] L then 1 else nameGo L C 0
theorem RS.take{base:Nat}{w:World}{a:Option Addr}{n cap:Nat}{L:List (List UInt8)}(h:RS base w (.slice a n cap) L)(k:Nat)(hk:k≤L.length):RS base w (.slice a k cap) (L.take k):=by
 obtain ⟨a',cap',e,h1,h2,h3⟩:=h;simp at e;obtain ⟨rfl,rfl,rfl⟩:=e;refine ⟨a,cap,by simp;omega,by simp;omega,by simp;omega,fun j hj=>?_⟩;simp at hj;obtain ⟨g,off,h4,h5,h6⟩:=h3 j (by omega);exact ⟨g,off,h4,h5,by simpa using h6⟩
theorem nameFault_any(base:Nat)(vr vt:Value)(L:List (List UInt8))(R:List RV)(C:List CR)(w:World)(hs:SL base w vr L)(hr:RL base w vt R)(hp:Reps base w R C)(hR:R.length≤1048576)(hL:L.length≤1048576) :
 Calls Tryz.prog 23 #[.agg #[vr,vt]] w fun e w'=>e=.returned (.int .i64 (nameF L C))∧Frm [] w w':=by
 obtain ⟨a,cap,rfl⟩:=own_shape hr;obtain ⟨a0,cap0,rfl⟩:=hs.shape;have HCL:Hid (R.length=C.length):=hp.1;have HR:Hid (RL base w (.slice a R.length cap) R):=hr;have HS:Hid (RS 0 w (.slice a0 L.length cap0) L):=(hs.rs hL).base (Nat.zero_le _);have HP:Hid (Reps base w R C):=hp;clear hr hp hs;have hl:=bs_toList;have hk45:({ data:=#[45] }:ByteArray).toList=[45]:=bs_toList [45];have hb0:=heap1 w (Obj.cells #[.slice a0 L.length cap0, .slice a R.length cap] 50);have HB0:Hid (CB (w.alloc (Obj.cells #[.slice a0 L.length cap0, .slice a R.length cap] 50)) w.heap.size (.slice a0 L.length cap0) (.slice a R.length cap)):=hb0;clear hb0;go_enter Tryz.func23,Tryz.ntmps23
 go_wp2_with fail
 go_loopg [10] L.length (fun k vi wr=>∃ (j:Nat),j+k=L.length∧vi=.int .i64 j∧dupGo (L.take j) (L.drop j)=dupGo [] L∧CB wr w.heap.size (.slice a0 L.length cap0) (.slice a R.length cap)∧Frm [] w wr)
 case atStart=>exact ⟨0,by omega,rfl,rfl,HB0.out,(Frm.refl _ _).alloc _⟩
 case round =>
  obtain ⟨j,hj,rfl,hdu,hcb,hfr⟩:=hrel;have KD:Hid (dupGo (L.take j) (L.drop j)=dupGo [] L):=hdu;have KC:Hid (CB wr w.heap.size (.slice a0 L.length cap0) (.slice a R.length cap)):=hcb;have KF:Hid (Frm [] w wr):=hfr;have d0:=hcb.c0;have d1:=hcb.c1;clear hdu hcb hfr
  by_cases hlt:j<L.length
  ·have hrs:RS 0 wr (.slice a0 L.length cap0) L:=HS.out.frm KF.out (by simp)
   have Hrs:Hid (RS 0 wr (.slice a0 L.length cap0) L):=hrs;obtain ⟨a',cap',e,h1,h2,h3⟩:=hrs;simp at e;obtain ⟨e1,e2⟩:=e;subst e1 e2;obtain ⟨g,off,h4,h5,h6⟩:=h3 j hlt;subst h4;clear h3;have Hd:Hid (L.drop j=L[j]::L.drop (j+1)):=List.drop_eq_getElem_cons hlt;have Ht:Hid (L.take (j+1)=L.take j++[L[j]]):=List.take_succ_eq_append_getElem hlt;generalize L[j]=x at *;go_wp2_with fail
   refine (has_any _ (L.take j) x _ (Hrs.out.take j (by omega))).mono ?_;rintro e w' ⟨rfl,rfl⟩;cases hcn:(L.take j).contains x
   ·have KD2:Hid (dupGo (L.take (j+1)) (L.drop (j+1))=dupGo [] L):=by
     show _=_;rw[← KD.out,Hd.out,Ht.out];conv=>rhs;unfold dupGo
     rw[hcn];rfl
    go_wp2;go_roundg (gk-1)
    case measure=>omega
    case rel=>exact ⟨j+1,by omega,by go_num,KD2.out,KC.out,KF.out⟩
   ·have Hx:Hid (nameF L C=1):=by
     show _=_;unfold nameF;rw[← KD.out,Hd.out];unfold dupGo;rw[hcn];rfl
    go_wp2;go_ret;exact ⟨ret_int (by rw[Hx.out];rfl),KF.out⟩
  ·have Hx0:Hid (nameF L C=nameGo L C 0):=by
    show _=_;unfold nameF;rw[← KD.out,List.drop_eq_nil_of_le (by omega)];rfl
   clear KD;go_wp2_with fail
   go_loopg [25] R.length (fun k vi wr=>∃ (j:Nat),j+k=R.length∧vi=.int .i64 j∧nameGo L (C.drop j) j=nameF L C∧CB wr w.heap.size (.slice a0 L.length cap0) (.slice a R.length cap)∧Frm [] w wr)
   case atStart=>exact ⟨0,by omega,rfl,Hx0.out.symm,KC.out,KF.out⟩
   case round =>
    clear d0 d1 KC KF hlt hj;obtain ⟨j,hj,rfl,hgo,hcb,hfr⟩:=hrel;have KG:Hid (nameGo L (C.drop j) j=nameF L C):=hgo;have KC:Hid (CB wr w.heap.size (.slice a0 L.length cap0) (.slice a R.length cap)):=hcb;have KF:Hid (Frm [] w wr):=hfr;have d0:=hcb.c0;have d1:=hcb.c1;have hcs:=hcb.lt;clear hgo hcb hfr
    by_cases hlt:j<R.length
    ·have hcl:=HCL.out
     have hjR:R[j]?=some R[j]:=List.getElem?_eq_getElem hlt;have hjC:C[j]?=some (C[j]'(by omega)):=List.getElem?_eq_getElem (by omega);have hrep:=HP.out.2 j _ _ hjR hjC;have Hd:Hid (C.drop j=(C[j]'(by omega))::C.drop (j+1)):=List.drop_eq_getElem_cons (by omega);generalize (C[j]'(by omega))=c at *;have hr1:RL base wr (.slice a R.length cap) R:=own_frm HR.out KF.out (by simp);obtain ⟨g,hg⟩:∃ g,a=some ⟨g,0,none⟩:=by
      rcases hr1.2 with ⟨e,h⟩|⟨g,c,cur,e,_⟩
      ·omega
      ·simp at e;exact ⟨g,e.1⟩
     subst hg;have hcell:=fun k hk=>hr1.cell hjR k hk
     generalize R[j]=rv at *;obtain ⟨d,rc,tb,vby,wt,ev,rp,vif,co⟩:=rv;have q0:wr.cell? ⟨g,j*9,none⟩=some (.int .i64 d):=hcell 0 (by omega);have q1:wr.cell? ⟨g,j*9+1,none⟩=some (.string (bs rc)):=hcell 1 (by omega);have q2:wr.cell? ⟨g,j*9+2,none⟩=some (.bool tb):=hcell 2 (by omega);have q3:wr.cell? ⟨g,j*9+3,none⟩=some vby:=hcell 3 (by omega);have q4:wr.cell? ⟨g,j*9+4,none⟩=some (.int .i64 wt):=hcell 4 (by omega);have q5:wr.cell? ⟨g,j*9+5,none⟩=some (.int .i64 ev):=hcell 5 (by omega);have q6:wr.cell? ⟨g,j*9+6,none⟩=some (.int .i64 rp):=hcell 6 (by omega);have q7:wr.cell? ⟨g,j*9+7,none⟩=some vif:=hcell 7 (by omega);have q8:wr.cell? ⟨g,j*9+8,none⟩=some (.bool co):=hcell 8 (by omega);obtain ⟨ab,cb,eb⟩:=hrep.by_.shape;obtain ⟨ai,ci,ei⟩:=own_shape hrep.ifs;have hrc:=hrep.rc;simp only at eb ei hrc;subst eb ei hrc;clear hcell hr1 hrep hjR hjC hcl;have Hst:Hid (nameF L C=if !(c.rc == [45])&&!(L.contains c.rc) then j+2 else nameGo L (C.drop (j+1)) (j+1)):=by
      show _=_;rw[← KG.out,Hd.out];rfl
     have hrs:∀ o,RS 0 (wr.alloc o) (.slice a0 L.length cap0) L:=fun o=>HS.out.frm (KF.out.alloc o) (by simp)
     have Hrs:=hide hrs;clear KG Hd hrs;cases h45:(c.rc == [45])
     ·go_wp2_with fail
      refine (has_any _ L c.rc _ (Hrs.out _)).mono ?_;rintro e w' ⟨rfl,rfl⟩;cases hcn:L.contains c.rc
      ·have Hx:Hid (nameF L C=j+2):=by show _=_;rw[Hst.out,h45,hcn];rfl
       go_wp2_with (go_at_call 25;refine (LineOf_any _ _ (by omega) (by omega)).mono ?_;rintro e w' ⟨rfl,rfl⟩)
       go_ret;exact ⟨ret_int (by rw[Hx.out];simp),KF.out.alloc _⟩
      ·have Hx:Hid (nameGo L (C.drop (j+1)) (j+1)=nameF L C):=by show _=_;rw[Hst.out,h45,hcn];rfl
       go_wp2;go_roundg (gk-1)
       case measure=>omega
       case rel=>exact ⟨j+1,by omega,by go_num,Hx.out,KC.out.frm (S:=[]) ((Frm.refl _ _).alloc _) (by simp),KF.out.alloc _⟩
     ·have Hx:Hid (nameGo L (C.drop (j+1)) (j+1)=nameF L C):=by show _=_;rw[Hst.out,h45];rfl
      go_wp2;go_roundg (gk-1)
      case measure=>omega
      case rel=>exact ⟨j+1,by omega,by go_num,Hx.out,KC.out.frm (S:=[]) ((Frm.refl _ _).alloc _) (by simp),KF.out.alloc _⟩
    ·have hgz:Hid (nameF L C=0):=by
      show _=_;rw[← KG.out,List.drop_eq_nil_of_le (by have:=HCL.out;omega)];rfl
     go_wp2;go_ret;exact ⟨ret_int (by rw[hgz.out];rfl),KF.out⟩
structure GoodM(m:CM):Prop where
 name:isNameL m.1=true
 kind:m.2.1≤3
 val:m.2.2.length≤40
structure GoodCR(c:CR):Prop where
 d:c.d≤1048576
 rc:c.rc=[45]∨isNameL c.rc=true
 bys:∀ n∈c.bys,isNameL n=true
 byl:c.bys.length≤4
 wt:-1≤c.wt∧c.wt≤99999
 ev:-1≤c.ev∧c.ev≤99999
 rp:-1≤c.rp∧c.rp≤99999
 ifs:∀ m∈c.ifs,GoodM m
 ifl:c.ifs.length≤4
theorem isNameL_len{n:List UInt8}(h:isNameL n=true):n.length≤8:=by
 unfold isNameL at h;simp at h;exact h.1.1.2
theorem valL_len:∀ (k:Nat) (acc l:List UInt8),acc.length≤40→(valL k acc l).1.length≤40
 | 0,acc,l,_=>by simp[valL]
 | k+1,acc,l,h=>by
   unfold valL
   split
   ·exact h
   split
   ·simp
   ·rename_i h1
    simp at h1;exact valL_len k _ _ (by simp;omega)
theorem sVal_len(l:List UInt8):(sVal l).1.length≤40:=by
 unfold sVal;split
 ·exact valL_len _ _ _ (by simp)
 ·simp
theorem sKind_le(l:List UInt8):(sKind l).1≤3:=by
 unfold sKind
 split
 ·simp
 split
 ·simp
 split
 ·simp
 ·simp
theorem sMat_good(l:List UInt8)(h:(sMat l).2.1=true):GoodM (sMat l).1:=by
 unfold sMat at h ⊢;simp only[Bool.and_eq_true]at h;exact ⟨h.1.1,sKind_le _,sVal_len _⟩
theorem matL_good:∀ (k:Nat) (acc:List CM) (l:List UInt8),(∀ m∈acc,GoodM m)→acc.length≤4→(∀ m∈(matL k acc l).1,GoodM m)∧(matL k acc l).1.length≤4
 | 0,acc,l,h,h4=>⟨h,h4⟩
 | k+1,acc,l,h,h4=>by
   unfold matL
   split
   ·dsimp only
    split
    ·exact ⟨h,h4⟩
    ·rename_i h1
     simp at h1;refine matL_good k _ _ ?_ (by simp;omega);intro m hm;rw[List.mem_append,List.mem_singleton]at hm;rcases hm with hm|rfl
     ·exact h m hm
     ·exact sMat_good _ h1.1
   ·exact ⟨h,h4⟩
theorem numL_le:∀ (l:List UInt8) (n:Nat),n≤99999→(numL l n).1≤99999
 | [],n,h=>h
 | c::r,n,h=>by
   unfold numL
   split
   ·split
    ·exact Nat.zero_le _
    ·exact numL_le r _ (by omega)
   ·exact h
theorem sNum_le(l:List UInt8):(sNum l).1≤99999:=by
 unfold sNum;split
 ·simp
 split
 ·simp
 ·exact numL_le _ _ (by omega)
theorem sTime_le(wd l:List UInt8):-1≤(sTime wd l).1∧(sTime wd l).1≤99999:=by
 unfold sTime;split
 ·have:=sNum_le (sRest wd l);dsimp only;omega
 ·dsimp only;omega
theorem labL_good:∀ (k:Nat) (acc:List (List UInt8)) (l:List UInt8),(∀ m∈acc,isNameL m=true)→acc.length≤4→(∀ m∈(labL k acc l).1,isNameL m=true)∧(labL k acc l).1.length≤4
 | 0,acc,l,h,h4=>by simp[labL]
 | k+1,acc,l,h,h4=>by
   unfold labL
   split
   ·exact ⟨h,h4⟩
   ·dsimp only
    generalize (if acc.isEmpty=true then l else sRest [44] l)=l1
    split
    ·simp
    ·rename_i h1
     rw[Bool.or_eq_true,not_or]at h1;simp only[Bool.not_eq_true,Bool.not_eq_false',decide_eq_false_iff_not]at h1;refine labL_good k _ _ ?_ (by simp;omega);intro m hm;rw[List.mem_append,List.mem_singleton]at hm;rcases hm with hm|rfl
     ·exact h m hm
     ·exact h1.1
theorem wnGo_mem(n:List UInt8)(p:List UInt8→Prop)(hn:p n):∀ (L:List (List UInt8)) (s:List (List UInt8) × Bool),(∀ x∈L,p x)→(∀ x∈s.1,p x)→∀ x∈(wnGo n L s).1,p x
 | [],s,_,h2=>h2
 | y::r,s,h1,h2=>by
   unfold wnGo;refine wnGo_mem n p hn r _ (fun x hx=>h1 x (by simp[hx])) ?_
   split
   ·intro x hx;simp at hx;rcases hx with hx|rfl|rfl
    ·exact h2 x hx
    ·exact hn
    ·exact h1 _ (by simp)
   ·intro x hx;simp at hx;rcases hx with hx|rfl
    ·exact h2 x hx
    ·exact h1 _ (by simp)
theorem withN_mem(n:List UInt8)(p:List UInt8→Prop)(hn:p n)(L:List (List UInt8))(h:∀ x∈L,p x):∀ x∈withN L n,p x:=by
 have h1:=wnGo_mem n p hn L ([],false) h (by simp);unfold withN;split
 ·exact h1
 ·intro x hx;rw[List.mem_append,List.mem_singleton]at hx
  rcases hx with hx|rfl
  ·exact h1 x hx
  ·exact hn
theorem rise_good(p:List UInt8→Prop):∀ (L acc:List (List UInt8)) ,(∀ x∈L,p x)→(∀ x∈acc,p x)→(∀ x∈L.foldl rise1 acc,p x)∧(L.foldl rise1 acc).length≤acc.length+L.length
 | [],acc,_,h=>⟨h,by simp⟩
 | y::r,acc,h1,h2=>by
   have h3:∀ x∈rise1 acc y,p x:=by
    unfold rise1;split
    ·exact h2
    ·exact withN_mem y p (h1 y (by simp)) acc h2
   have:=rise_good p r (rise1 acc y) (fun x hx=>h1 x (by simp[hx])) h3;have hl:=rise1_len acc y;refine ⟨this.1,?_⟩;have h4:=this.2;simp only[List.foldl_cons,List.length_cons];omega
theorem sBy_good(l:List UInt8):(∀ m∈(sBy l).names,isNameL m=true)∧(sBy l).names.length≤4:=by
 unfold sBy;split
 ·dsimp only
  split
  ·simp
  ·have h:=labL_good 6 [] (sRest [32,98,121,32] l) (by simp) (by simp)
   have h2:=rise_good (fun m=>isNameL m=true) (sLabs (sRest [32,98,121,32] l)).1 [] h.1 (by simp);refine ⟨h2.1,?_⟩;have h3:=h2.2;have h4:(sLabs (sRest [32,98,121,32] l)).1.length≤4:=h.2;simp at h3;show (rise (sLabs (sRest [32,98,121,32] l)).1).length≤4;unfold rise;omega
 ·simp
theorem sRecv_good(l:List UInt8)(h:(sRecv l).2.1=true):(sRecv l).1=[45]∨isNameL (sRecv l).1=true:=by
 unfold sRecv at h ⊢
 split
 ·exact Or.inl rfl
 ·rename_i h1;rw[if_neg h1]at h;exact Or.inr h
theorem sDepth_len:∀ (t:List UInt8),(sDepth t).1≤t.length
 | []=>by simp[sDepth]
 | c::r=>by
   unfold sDepth;have:=sDepth_len r;split<;>simp<;>omega
def srA(t:List UInt8):=sRecv (sRest kRoute (sDepth t).2)
def srB(t:List UInt8):=sBy (srA t).2.2
def srC(t:List UInt8):=sTimes (srB t).rest
def srM(t:List UInt8):=sMats (srC t).rest
theorem sRoute_eq(t:List UInt8):sRoute t=if sTake kRoute (sDepth t).2 then (if (srA t).2.1 then (if (srB t).ok then (if (srC t).ok then (if (srM t).2.1 then (if (sRest kCont (srM t).2.2).isEmpty then some ⟨(sDepth t).1,(srA t).1,(srB t).tells,(srB t).names,(srC t).wt,(srC t).ev,(srC t).rp,(srM t).1,sTake kCont (srM t).2.2⟩ else none) else none) else none) else none) else none) else none:=rfl
theorem ite_some{α:Type}{b:Bool}{o:Option α}{c:α}(h:(if b then o else none)=some c):b=true∧o=some c:=by
 cases b
 ·cases h
 ·exact ⟨rfl,h⟩
theorem sRoute_some(t:List UInt8)(c:CR)(h:sRoute t=some c):sTake kRoute (sDepth t).2=true∧(srA t).2.1=true∧(srB t).ok=true∧(srC t).ok=true∧(srM t).2.1=true∧(sRest kCont (srM t).2.2).isEmpty=true ∧
 (⟨(sDepth t).1,(srA t).1,(srB t).tells,(srB t).names,(srC t).wt,(srC t).ev,(srC t).rp,(srM t).1,sTake kCont (srM t).2.2⟩:CR)=c:=by
 rw[sRoute_eq]at h;obtain ⟨h1,h⟩:=ite_some h;obtain ⟨h2,h⟩:=ite_some h;obtain ⟨h3,h⟩:=ite_some h;obtain ⟨h4,h⟩:=ite_some h;obtain ⟨h5,h⟩:=ite_some h;obtain ⟨h6,h⟩:=ite_some h;exact ⟨h1,h2,h3,h4,h5,h6,Option.some.inj h⟩
theorem sRoute_good(t:List UInt8)(c:CR)(ht:t.length≤1048576)(h:sRoute t=some c):GoodCR c:=by
 obtain ⟨h1,h2,h3,h4,h5,h6,rfl⟩:=sRoute_some t c h;have hb:=sBy_good (sRecv (sRest kRoute (sDepth t).2)).2.2;have hm:=matL_good 6 [] (sTimes (sBy (sRecv (sRest kRoute (sDepth t).2)).2.2).rest).rest (by simp) (by simp);exact ⟨Nat.le_trans (sDepth_len t) ht,sRecv_good _ h2,hb.1,hb.2,sTime_le _ _,sTime_le _ _,sTime_le _ _,hm.1,hm.2⟩
theorem recL_good:∀ (k:Nat) (acc:List (List UInt8)) (l:List UInt8) (L:List (List UInt8)),(∀ m∈acc,isNameL m=true)→acc.length≤8→recL k acc l=some L→(∀ m∈L,isNameL m=true)∧L.length≤8
 | 0,acc,l,L,_,_,h=>by simp[recL]at h
 | k+1,acc,l,L,h1,h8,h=>by
   unfold recL at h
   split at h
   ·dsimp only at h
    split at h
    ·cases h
    ·rename_i h2
     rw[Bool.or_eq_true,not_or]at h2;simp only[Bool.not_eq_true,Bool.not_eq_false',decide_eq_false_iff_not]at h2;refine recL_good k _ _ L ?_ (by simp;omega) h;intro m hm;rw[List.mem_append,List.mem_singleton]at hm;rcases hm with hm|rfl
     ·exact h1 m hm
     ·exact h2.1
   ·split at h
    ·simp only[Option.some.injEq]at h;subst h;exact ⟨h1,h8⟩
    ·cases h
theorem sRecvs_good(t:List UInt8)(L:List (List UInt8))(h:sRecvs t=some L):(∀ m∈L,isNameL m=true)∧L.length≤8:=by
 unfold sRecvs at h
 split at h
 ·exact recL_good 10 [] _ L (by simp) (by simp) h
 ·cases h
theorem rlGo_good:∀ (t:List UInt8) (ln:Nat) (cur:List UInt8) (L:List (List UInt8)) (C:List CR) (L':List (List UInt8)) (C':List CR),t.length+cur.length≤1048576→(∀ m∈L,isNameL m=true)→L.length≤8→(∀ c∈C,GoodCR c)→rlGo t ln cur L C=.ok (L',C')→(∀ m∈L',isNameL m=true)∧L'.length≤8∧(∀ c∈C',GoodCR c)
 | [],ln,cur,L,C,L',C',_,h1,h2,h3,h=>by
   unfold rlGo at h
   split at h
   ·cases h
   ·simp only[Except.ok.injEq,Prod.mk.injEq]at h
    obtain ⟨rfl,rfl⟩:=h;exact ⟨h1,h2,h3⟩
 | c::r,ln,cur,L,C,L',C',hl,h1,h2,h3,h=>by
   simp only[List.length_cons]at hl;unfold rlGo at h
   split at h
   ·split at h
    ·split at h
     ·cases h
     ·rename_i R' hR
      have:=sRecvs_good _ _ hR;exact rlGo_good r 2 [] R' C L' C' (by simp;omega) this.1 this.2 h3 h
    ·split at h
     ·cases h
     ·rename_i x hx
      have:=sRoute_good _ _ (by omega) hx;refine rlGo_good r (ln+1) [] L (C++[x]) L' C' (by simp;omega) h1 h2 ?_ h;intro c hc;rw[List.mem_append,List.mem_singleton]at hc;rcases hc with hc|rfl
      ·exact h3 c hc
      ·exact this
   ·exact rlGo_good r ln (cur++[c]) L C L' C' (by simp;omega) h1 h2 h3 h
theorem cRead1_good(t:List UInt8)(L:List (List UInt8))(C:List CR)(ht:t.length≤1048576)(h:cRead1 t=.ok (L,C)):(∀ m∈L,isNameL m=true)∧L.length≤8∧(∀ c∈C,GoodCR c) :=
 rlGo_good t 1 [] [] [] L C (by simpa using ht) (by simp) (by simp) (by simp) h
def cRead(t:List UInt8):Except (Nat × Nat) (List (List UInt8) × List CR) :=
 if 1200<t.length then .error (1,0) else
 match cRead1 t with
 | .error n=>.error (2,n)
 | .ok (L,C)=>if 0<treeF C then .error (3,treeF C) else if 0<nameF L C then .error (4,nameF L C) else .ok (L,C)
def ReadRep(base:Nat)(w:World)(vr vt:Value)(e ln:Int):Except (Nat × Nat) (List (List UInt8) × List CR)→Prop
 | .error (n,l)=>vr=.slice none 0 0∧vt=.slice none 0 0∧e=n∧ln=l∧1≤n
 | .ok (R,C)=>e=0∧ln=0∧SL base w vr R∧∃ rvs,RL base w vt rvs∧Reps base w rvs C∧rvs.length≤1048576
theorem results_read{w:World}{rb:Nat}{vr vt:Value}{e ln:Int}{tmps:Array Value}(h:CB w rb vr vt)(h2:tmps.getD 2 undef=.pointer (some ⟨rb,0,none⟩))(h3:tmps.getD 3 undef=.int .i64 e)(h4:tmps.getD 4 undef=.int .i64 ln) :
 (results Tryz.f14 tmps).run Tryz.prog w=.ok (.tuple #[.agg #[vr,vt], .int .i64 e, .int .i64 ln]) w:=by
 have h2':tmps[2]?.getD undef=.pointer (some ⟨rb,0,none⟩):=by simpa using h2
 have h3':tmps[3]?.getD undef=.int .i64 e:=by simpa using h3
 have h4':tmps[4]?.getD undef=.int .i64 ln:=by simpa using h4
 simp only[results,Tryz.results14];simp[Sem.run_bind,Result.andThen,h2',h3',h4',asAddr,load_cfg h]
theorem cfgRead_any(t:List UInt8)(w:World)(ht:t.length≤1048576) :
 Calls Tryz.prog 14 #[.string (bs t)] w fun e w'=>Frm [] w w'∧∃ vr vt er ln,e=.returned (.tuple #[.agg #[vr,vt], .int .i64 er, .int .i64 ln])∧ReadRep w.heap.size w' vr vt er ln (cRead t):=by
 have hsz:=bs_size t;have hb0:=heap1 w (Obj.cells #[.slice none 0 0, .slice none 0 0] 50);have HB0:Hid (CB (w.alloc (Obj.cells #[.slice none 0 0, .slice none 0 0] 50)) w.heap.size (.slice none 0 0) (.slice none 0 0)):=hb0;clear hb0
 by_cases h1200:1200<t.length
 ·have Hx:Hid (cRead t=.error (1,0)):=by show _=_;unfold cRead;rw[if_pos h1200]
  go_enter Tryz.func14,Tryz.ntmps14
  go_wp2;refine bodyPost_ret (results_read (vr:=.slice none 0 0) (vt:=.slice none 0 0) (e:=1) (ln:=0) (rb:=w.heap.size) ?_ (by rfl) (by rfl) (by rfl)) rfl ?_
  ·exact HB0.out
  ·rw[Hx.out]
   exact ⟨(Frm.refl _ _).alloc _,_,_,_,_,rfl,rfl,rfl,rfl,rfl,Nat.le_refl _⟩
 have HX:Hid (cRead t=match cRead1 t with
  | .error n=>.error (2,n)
  | .ok (L,C)=>if 0<treeF C then .error (3,treeF C) else if 0<nameF L C then .error (4,nameF L C) else .ok (L,C)):=by
  show _=_;unfold cRead;rw[if_neg h1200]
 go_enter Tryz.func14,Tryz.ntmps14
 go_wp2_with fail
 refine (readLines_any t _ (by omega)).mono ?_;rintro e w1 ⟨hf1,vr,vt,ln,rfl,hrep⟩;have hz1:w.heap.size<w1.heap.size:=by have:=hf1.size;simp at this;omega
 have KB:Hid (CB w1 w.heap.size (.slice none 0 0) (.slice none 0 0)):=HB0.out.frm hf1 (by simp);have KF:Hid (Frm [] w w1):=((Frm.refl _ _).alloc _).trans hf1;clear hf1 HB0;cases hr1:cRead1 t with
 | error n =>
   rw[hr1]at hrep HX;obtain ⟨rfl,rfl,rfl,hn⟩:=hrep;have d0:=KB.out.c0;have d1:=KB.out.c1;have df:=KB.out.fz;have hgt:(0:Int)<(n:Int):=by omega
   go_wp2;refine bodyPost_ret (results_read (vr:=.slice none 0 0) (vt:=.slice none 0 0) (e:=2) (ln:=n) (rb:=w.heap.size) ?_ (by rfl) (by rfl) (by rfl)) rfl ?_
   ·exact ((KB.out.set0 _).set1 _).frm (S:=[]) ((Frm.refl _ _).alloc _) (by simp)
   ·rw[HX.out]
    exact ⟨((KF.out.setCell (by simp) _).setCell (by simp) _).alloc _,_,_,_,_,rfl,rfl,rfl,rfl,rfl,by omega⟩
 | ok LC =>
   obtain ⟨L,C⟩:=LC;have hgood:=cRead1_good t L C (by omega) hr1;rw[hr1]at hrep HX;obtain ⟨rfl,hs,rvs,hrl,hrp,hrn⟩:=hrep;obtain ⟨a0,n0,rfl⟩:=hs.shape;obtain ⟨a1,n1,rfl⟩:=own_shape hrl;have KS:Hid (SL (w.heap.size+1) w1 (.slice a0 L.length n0) L):=hide (by simpa using hs);have KL:Hid (RL (w.heap.size+1) w1 (.slice a1 rvs.length n1) rvs):=hide (by simpa using hrl);have KP:Hid (Reps (w.heap.size+1) w1 rvs C):=hide (by simpa using hrp);have KG:Hid ((∀ m∈L,isNameL m=true)∧L.length≤8∧(∀ c∈C,GoodCR c)):=hgood;clear hs hrl hrp hgood hr1;have hnew:=heap1 w1 (Obj.cells #[.slice a0 L.length n0, .slice a1 rvs.length n1] 50);have HN:Hid (CB (w1.alloc (Obj.cells #[.slice a0 L.length n0, .slice a1 rvs.length n1] 50)) w1.heap.size (.slice a0 L.length n0) (.slice a1 rvs.length n1)):=hnew;clear hnew;go_wp2_with fail
   refine (treeFault_any (w.heap.size+1) _ rvs C _ (KL.out.frm (S:=[]) ((Frm.refl _ _).alloc _) (by simp)) (KP.out.frm (S:=[]) ((Frm.refl _ _).alloc _) (by intro k hk;simp at hk)) hrn (fun c hc=>(KG.out.2.2 c hc).d)).mono ?_;rintro e w2 ⟨rfl,hf2⟩;have F12:Frm [] w1 w2:=((Frm.refl _ _).alloc _).trans hf2;have KN2:Hid (CB w2 w1.heap.size (.slice a0 L.length n0) (.slice a1 rvs.length n1)):=HN.out.frm hf2 (by simp);have KB2:Hid (CB w2 w.heap.size (.slice none 0 0) (.slice none 0 0)):=KB.out.frm F12 (by simp);have KF2:Hid (Frm [] w w2):=KF.out.trans F12;have KS2:Hid (SL (w.heap.size+1) w2 (.slice a0 L.length n0) L):=KS.out.frm F12 (by simp);have KL2:Hid (RL (w.heap.size+1) w2 (.slice a1 rvs.length n1) rvs):=KL.out.frm F12 (by simp);have KP2:Hid (Reps (w.heap.size+1) w2 rvs C):=KP.out.frm F12 (by intro k hk;simp at hk);clear hf2 F12 HN KB KF KS KL KP
   by_cases htf:0<treeF C
   ·have Hx:Hid (cRead t=.error (3,treeF C)):=by show _=_;rw[HX.out];simp[htf]
    have d0:=KB2.out.c0;have d1:=KB2.out.c1;have df:=KB2.out.fz;have hgt:(0:Int)<(treeF C:Int):=by omega
    generalize treeF C=tf at *;go_wp2;refine bodyPost_ret (results_read (vr:=.slice none 0 0) (vt:=.slice none 0 0) (e:=3) (ln:=tf) (rb:=w.heap.size) ?_ (by rfl) (by rfl) (by rfl)) rfl ?_
    ·exact (KB2.out.set0 _).set1 _
    ·rw[Hx.out]
     exact ⟨(KF2.out.setCell (by simp) _).setCell (by simp) _,_,_,_,_,rfl,rfl,rfl,rfl,rfl,by omega⟩
   ·have htz:treeF C=0:=by omega
    have e0:=KN2.out.c0;have e1:=KN2.out.c1;rw[htz];go_wp2_with fail
    refine (nameFault_any (w.heap.size+1) _ _ L rvs C _ KS2.out KL2.out KP2.out hrn (by have:=KG.out.2.1;omega)).mono ?_;rintro e w3 ⟨rfl,hf3⟩;have KN3:Hid (CB w3 w1.heap.size (.slice a0 L.length n0) (.slice a1 rvs.length n1)):=KN2.out.frm hf3 (by simp);have KB3:Hid (CB w3 w.heap.size (.slice none 0 0) (.slice none 0 0)):=KB2.out.frm hf3 (by simp);have KF3:Hid (Frm [] w w3):=KF2.out.trans hf3;have KS3:Hid (SL (w.heap.size+1) w3 (.slice a0 L.length n0) L):=KS2.out.frm hf3 (by simp);have KL3:Hid (RL (w.heap.size+1) w3 (.slice a1 rvs.length n1) rvs):=KL2.out.frm hf3 (by simp);have KP3:Hid (Reps (w.heap.size+1) w3 rvs C):=KP2.out.frm hf3 (by intro k hk;simp at hk);clear hf3 KN2 KB2 KF2 KS2 KL2 KP2 e0 e1;have d0:=KB3.out.c0;have d1:=KB3.out.c1;have df:=KB3.out.fz
    by_cases hnf:0<nameF L C
    ·have Hx:Hid (cRead t=.error (4,nameF L C)):=by show _=_;rw[HX.out];simp[htz,hnf]
     have hgt:(0:Int)<(nameF L C:Int):=by omega
     generalize nameF L C=nf at *;clear htz htf;go_wp2;refine bodyPost_ret (results_read (vr:=.slice none 0 0) (vt:=.slice none 0 0) (e:=4) (ln:=nf) (rb:=w.heap.size) ?_ (by rfl) (by rfl) (by rfl)) rfl ?_
     ·exact (KB3.out.set0 _).set1 _
     ·rw[Hx.out]
      exact ⟨(KF3.out.setCell (by simp) _).setCell (by simp) _,_,_,_,_,rfl,rfl,rfl,rfl,rfl,by omega⟩
    ·have hnz:nameF L C=0:=by omega
     have Hx:Hid (cRead t=.ok (L,C)):=by show _=_;rw[HX.out];simp[htz,hnz]
     rw[hnz];have e0:=KN3.out.c0;have e1:=KN3.out.c1;clear htz htf hnz hnf;go_wp2;refine bodyPost_ret (results_read (vr:=.slice a0 L.length n0) (vt:=.slice a1 rvs.length n1) (e:=0) (ln:=0) (rb:=w.heap.size) ?_ (by rfl) (by rfl) (by rfl)) rfl ?_
     ·exact (KB3.out.set0 _).set1 _
     ·have F:Frm [w.heap.size] w3 ((w3.setCell ⟨w.heap.size,0,none⟩ (.slice a0 L.length n0)).setCell ⟨w.heap.size,1,none⟩ (.slice a1 rvs.length n1)):=((Frm.refl _ _).setCell (by simp) _).setCell (by simp) _
      rw[Hx.out];refine ⟨(KF3.out.setCell (by simp) _).setCell (by simp) _,_,_,_,_,rfl,rfl,rfl,(KS3.out.frm F (by simp)).base (by omega),rvs,own_base (KL3.out.frm F (by simp)) (by omega),(KP3.out.frm F (by intro k hk;simp at hk;exact Or.inl (by omega))).base (by omega),hrn⟩
end Go.Proofs.YtpcbbbilmpobaaaGreatDoor
