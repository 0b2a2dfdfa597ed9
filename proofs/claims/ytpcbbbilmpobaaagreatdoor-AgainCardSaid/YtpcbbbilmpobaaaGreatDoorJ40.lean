import Derived.Test.YtpcbbbilmpobaaaGreatDoorJ39
set_option linter.unusedVariables false
set_option linter.unusedSimpArgs false
set_option linter.unnecessarySimpa false
set_option maxRecDepth 100000
set_option maxHeartbeats 4000000
namespace Go.Proofs.YtpcbbbilmpobaaaGreatDoor
open Go.RowKit
theorem ST.more{base:Nat}{w wo:World}{fb vb:Nat}{D:List NF}{ak c:Nat}{U:List NF}{Z Z2:List Nat}(h:ST base w fb vb D ak c U Z)(f:Frm [] w wo)(hk:∀ k∈Z2,w.heap.size≤k∧k<wo.heap.size):ST base wo fb vb D ak c U (Z2++Z):=by
 obtain ⟨E,B,h1,h2,h3,h4,h5⟩:=h;refine ⟨E,B,h1.keep f,h2,h3,h4,?_,?_⟩
 ·intro k hm
  rcases List.mem_append.1 hm with e|e
  ·exact (hk k e).2
  ·exact Nat.lt_of_lt_of_le (h5.1 k e) f.size
 ·intro e he x n cc ex hm
  rcases List.mem_append.1 hm with e1|e1
  ·have:=(h1.pl e he).blk ex;have:=(hk _ e1).1;omega
  ·exact h5.2 e he x n cc ex e1
theorem ST.less{base:Nat}{w:World}{fb vb:Nat}{D:List NF}{ak c:Nat}{U:List NF}{Z Z2:List Nat}(h:ST base w fb vb D ak c U (Z2++Z)):ST base w fb vb D ak c U Z:=by
 obtain ⟨E,B,h1,h2,h3,h4,h5⟩:=h;exact ⟨E,B,h1,h2,h3,h4,fun k hk=>h5.1 k (by simp[hk]),fun e he x n cc ex hm=>h5.2 e he x n cc ex (by simp[hm])⟩
theorem ST.frmZ{S:List Nat}{base:Nat}{w w':World}{fb vb:Nat}{D:List NF}{ak c:Nat}{U:List NF}{Z:List Nat}(h:ST base w fb vb D ak c U Z)(f:Frm S w w')(h1:fb∉S)(h2:vb∉S)(hS:∀ k∈S,k∈Z):ST base w' fb vb D ak c U Z:=by
 obtain ⟨E,B,k1,k2,k3,k4,k5⟩:=h;exact ⟨E,B,k1.frmR f h1 h2 (fun e he x n cc ex hm=>k5.2 e he x n cc ex (hS _ hm)),k2,k3,k4,k5.mono f.size⟩
theorem ST.growZ{base:Nat}{w w5:World}{fb vb g:Nat}{D:List NF}{ak c:Nat}{U:List NF}{Z:List Nat}{v:Value}{o:Obj}(h:ST base w fb vb D ak c U (v.ownBlock.toList++Z))(hg:(w.alloc o).grownBy w5 v.ownBlock)(hat:v.ownBlock=some g∨g=(w.alloc o).heap.size)(hgl:g<w5.heap.size)(h1:fb∉v.ownBlock.toList)(h2:vb∉v.ownBlock.toList):ST base w5 fb vb D ak c U ([g]++Z):=by
 have hk:=(h.keep ((Frm.refl [] w).alloc o)).frmZ (Frm.of_grow hg) h1 h2 (fun k hk=>by simp[hk]);obtain ⟨E,B,k1,k2,k3,k4,k5⟩:=h;have hz:ZZ w E Z:=⟨fun k hk=>k5.1 k (by simp[hk]),fun e he x n cc ex hm=>k5.2 e he x n cc ex (by simp[hm])⟩;have hs:w.heap.size≤w5.heap.size:=by have:=hg.size;simp at this;omega
 refine ⟨E,B,(k1.keep ((Frm.refl [] w).alloc o)).frmR (Frm.of_grow hg) h1 h2 (fun e he x n cc ex hm=>k5.2 e he x n cc ex (by simp[hm])),k2,k3,k4,?_,?_⟩
 ·intro k hm
  rcases List.mem_append.1 hm with e|e
  ·simp at e;omega
  ·exact Nat.lt_of_lt_of_le (hz.1 k e) hs
 ·intro e he x n cc ex hm
  rcases List.mem_append.1 hm with e1|e1
  ·simp at e1
   have hb:=(k1.pl e he).blk ex;rcases hat with e2|e2
   ·exact k5.2 e he x n cc ex (List.mem_append.2 (.inl (by rw[Option.mem_toList,e2,e1])))
   ·simp at e2;omega
  ·exact hz.2 e he x n cc ex e1
def RZ(base:Nat)(w:World)(fb vb:Nat)(D:List NF)(ak c:Nat)(U:List NF)(Z:List Nat)(y:NF)(r:Nat)(w':World):Prop :=
 ∃ vb' R,ST base w' fb vb' (D++R) ak c U Z∧(D++R)[r]?=some y∧FQ fb vb vb' w w'
theorem RZ.here{base:Nat}{w w':World}{fb vb:Nat}{D:List NF}{ak c:Nat}{U:List NF}{Z:List Nat}{y:NF}{r:Nat}(h:ST base w fb vb D ak c U Z)(f:Frm [] w w')(hr:D[r]?=some y):RZ base w fb vb D ak c U Z y r w' :=
 ⟨vb,[],by simpa using h.keep f,by simpa using hr,FQ.keepR (FQ.refl _ _ _) f⟩
theorem RQ.rz{base:Nat}{w w':World}{fb vb:Nat}{D:List NF}{ak c:Nat}{U:List NF}{Z:List Nat}{y:NF}{e:Ending}(h:RQ base w fb vb D ak c U Z y e w'):∃ r:Nat,e=.returned (.int .i64 (r:Nat))∧RZ base w fb vb D ak c U Z y r w':=by
 obtain ⟨vb',R,r,h1,h2,h3,h4⟩:=h;exact ⟨r,h1,vb',R,h2,h3,h4⟩
theorem RZ.rq{base:Nat}{w w':World}{fb vb:Nat}{D:List NF}{ak c:Nat}{U:List NF}{Z:List Nat}{y:NF}{r:Nat}(h:RZ base w fb vb D ak c U Z y r w'):RQ base w fb vb D ak c U Z y (.returned (.int .i64 (r:Nat))) w':=by
 obtain ⟨vb',R,h2,h3,h4⟩:=h;exact ⟨vb',R,r,rfl,h2,h3,h4⟩
theorem RZ.keep{base:Nat}{w w1 w2:World}{fb vb:Nat}{D:List NF}{ak c:Nat}{U:List NF}{Z:List Nat}{y:NF}{r:Nat}(h:RZ base w fb vb D ak c U Z y r w1)(f:Frm [] w1 w2):RZ base w fb vb D ak c U Z y r w2:=by
 obtain ⟨vb',R,h2,h3,h4⟩:=h;exact ⟨vb',R,h2.keep f,h3,FQ.keepR h4 f⟩
theorem RZ.call{base:Nat}{w w1:World}{fb vb:Nat}{D:List NF}{ak c:Nat}{U:List NF}{Z:List Nat}{y y':NF}{r:Nat}{fn:Nat}{args:Array Value}(h:RZ base w fb vb D ak c U Z y r w1)
 (hc:∀ (vb':Nat) (D':List NF),ST base w1 fb vb' D' ak c U Z→D'[r]?=some y→(∀ (i:Nat) (d:NF),D[i]?=some d→D'[i]?=some d)→Calls Tryz.prog fn args w1 (RQ base w1 fb vb' D' ak c U Z y')):Calls Tryz.prog fn args w1 (RQ base w fb vb D ak c U Z y'):=by
 obtain ⟨vb',R,h2,h3,h4⟩:=h;exact (hc vb' (D++R) h2 h3 (fun i d hd=>get_app hd)).mono fun e w' hr=>RQ.later h4 hr
theorem normalRepeated_any(base:Nat)(w:World)(fb vb:Nat)(D:List NF)(ak c:Nat)(U:List NF)(Z:List Nat)(a:NF)(i lo:Nat)(hi:Option Nat)(h:ST base w fb vb D ak c U Z)(ha:D[i]?=some a)(hR:RepOK U a lo hi)(hlo:lo≤9)(hhi:∀ n,hi=some n→lo≤n∧n≤9) :
 Calls Tryz.prog 128 #[.pointer (some ⟨fb,0,none⟩), .int .i64 i, .int .i64 lo, .int .i64 (hiZ hi)] w (RQ base w fb vb D ak c U Z (repN a lo hi)):=by
 have HA:=hide ha;have HS:=hide h;have HR:=hide hR;have HD1:=hide h.tbl.2.1;rw[repN_tail];have TH:Hid (∀ (w1:World) (k r:Nat) (t:NF),RZ base w fb vb D ak c U Z t r w1→(∀ f∈crT a t,f∈U)→Calls Tryz.prog 143 #[.pointer (some ⟨fb,0,none⟩), .int .i64 i, .int .i64 r] w1 (RQ base w fb vb D ak c U Z (thenN a t))):=by
  intro w1 k r t h1 hcr;exact h1.call fun vb' D' hst hr hD=>then_any a base w1 fb vb' D' ak c U Z t i r hst (hD _ _ HA.out) hr hcr
 clear h ha hR;cases hi with
 | none =>
   have SA:=hide (star_any base w fb vb D ak c U Z a i HS.out HA.out (HR.out.1 rfl));have e1:hiZ none=-1:=rfl;rw[e1];clear e1;go_enter Tryz.func128,Tryz.ntmps128
   go_wp2_with fail
   refine (SA.out).mono ?_;rintro e w1 hrq;obtain ⟨r1,rfl,hz1⟩:=hrq.rz;have R1:Hid (RZ base w fb vb D ak c U Z (preN a 0 (tailR a lo none)) r1 w1):=hz1;clear hrq hz1 SA;go_wp2_with fail
   go_loopg [9,10] 0 (fun k v9 v10 wr=>v9=.int .i64 r1∧v10=.int .i64 lo∧wr=w1)
   case atStart=>exact ⟨rfl,rfl,rfl⟩
   case round =>
    obtain ⟨rfl,rfl,hw⟩:=hrel;subst hw;have hnl:¬ ((lo:Int) < -1):=by omega
    go_wp2_with fail
    go_loopg [9,12] lo (fun k v9 v12 wr=>∃ (j r:Nat),j+k=lo∧v12=.int .i64 j∧v9=.int .i64 r∧RZ base w fb vb D ak c U Z (preN a j (tailR a lo none)) r wr)
    case atStart=>exact ⟨0,r1,by omega,rfl,rfl,R1.out⟩
    case round =>
     clear R1;obtain ⟨j,r,hj,rfl,rfl,hz⟩:=hrel;have RR:=hide hz;clear hz
     by_cases hlt:j<lo
     ·have C:=hide (TH.out wr 0 r _ RR.out (HR.out.2.2 j hlt))
      have HP:Hid (preN a (j+1) (tailR a lo none)=thenN a (preN a j (tailR a lo none))):=preN_succ _ _ _;clear RR;go_wp2_with fail
      refine (C.out).mono ?_;rintro e w2 hrq;obtain ⟨r2,rfl,hz2⟩:=hrq.rz;have R2:=hide hz2;clear hrq hz2 C;go_wp2;go_roundg (gk-1)
      case measure=>omega
      case rel=>exact ⟨j+1,r2,by omega,by go_num,rfl,by rw[HP.out];exact R2.out⟩
     ·have hje:j=lo:=by omega
      subst hje;go_wp2;go_ret;exact RR.out.rq
 | some n =>
   obtain ⟨hln,hn9⟩:=hhi n rfl;have e1:hiZ (some n)=(n:Int):=rfl;rw[e1];clear e1;have hne:((n:Int) == -1)=false:=by rw[beq_eq_false_iff_ne];omega
   go_enter Tryz.func128,Tryz.ntmps128
   go_wp2_with fail
   go_loopg [9,10] (n-lo) (fun k v9 v10 wr=>∃ (j r:Nat),j+k=n-lo∧v10=.int .i64 (lo+j:Nat)∧v9=.int .i64 r∧RZ base w fb vb D ak c U Z (optN a j .one) r wr)
   case atStart=>exact ⟨0,1,by omega,by simp,rfl,RZ.here HS.out (Frm.refl _ _) HD1.out⟩
   case round =>
    obtain ⟨j,r,hj,rfl,rfl,hz⟩:=hrel;have RR:=hide hz;clear hz
    by_cases hlt:j<n-lo
    ·have hok:=HR.out.2.1 n rfl j hlt
     have C:=hide (TH.out wr 0 r _ RR.out hok.1);have HP:Hid (optN a (j+1) .one=orN (thenN a (optN a j .one)) .one):=optN_succ _ _ _;have OK:=hide hok.2;have hl2:((lo+j:Nat):Int)<n:=by omega
     clear RR hok;go_wp2_with fail
     refine (C.out).mono ?_;rintro e w2 hrq;obtain ⟨r2,rfl,hz2⟩:=hrq.rz;have R2:=hide hz2;have OC:Hid (∀ o,o=Obj.cells #[.int .i64 r2, .int .i64 1] 3→Calls Tryz.prog 141 #[.pointer (some ⟨fb,0,none⟩), .slice (some ⟨w2.heap.size,0,none⟩) 2 2] (w2.alloc o) (RQ base w fb vb D ak c U Z (orN (thenN a (optN a j .one)) .one))):=by
      rintro o rfl;have hz3:=R2.out.keep ((Frm.refl [] w2).alloc (Obj.cells #[.int .i64 r2, .int .i64 1] 3));refine hz3.call fun vb' D' hst hr hD=>?_
      have hil:IL w2.heap.size (w2.alloc (Obj.cells #[.int .i64 r2, .int .i64 1] 3)) (.slice (some ⟨w2.heap.size,0,none⟩) 2 2) [r2,1]:=World.ownsRow_lit _ #[.int .i64 r2, .int .i64 1] 2 (Nat.le_refl _) (by unfold maxLen;omega) (by simp);refine or_any base _ fb vb' D' ak c U Z (.slice (some ⟨w2.heap.size,0,none⟩) 2 2) [r2,1] [thenN a (optN a j .one), .one] hst (row_nl hil) ?_ ?_ OK.out
      ·intro q hq
       simp at hq;rcases hq with rfl|rfl
       ·exact (List.getElem?_eq_some_iff.1 hr).1
       ·exact (List.getElem?_eq_some_iff.1 hst.tbl.2.1).1
      ·simp only[List.map_cons,List.map_nil,getD_of hr,getD_of hst.tbl.2.1]
     clear hrq hz2 C;go_wp2_with fail
     refine (OC.out _ rfl).mono ?_;rintro e w3 hrq;obtain ⟨r3,rfl,hz3⟩:=hrq.rz;have R3:=hide hz3;clear hrq hz3 OC R2;go_wp2;go_roundg (gk-1)
     case measure=>omega
     case rel=>exact ⟨j+1,r3,by omega,by go_num,rfl,by rw[HP.out];exact R3.out⟩
    ·have hje:j=n-lo:=by omega
     have R1:Hid (RZ base w fb vb D ak c U Z (preN a 0 (tailR a lo (some n))) r wr):=by have:=RR.out;rw[hje]at this;exact this
     have hl2:¬ ((lo+j:Nat):Int)<n:=by omega
     clear RR hje;go_wp2_with fail
     go_loopg [9,12] lo (fun k v9 v12 wr=>∃ (j r:Nat),j+k=lo∧v12=.int .i64 j∧v9=.int .i64 r∧RZ base w fb vb D ak c U Z (preN a j (tailR a lo (some n))) r wr)
     case atStart=>exact ⟨0,r,by omega,rfl,rfl,R1.out⟩
     case round =>
      clear R1;obtain ⟨j,r,hj,rfl,rfl,hz⟩:=hrel;have RR:=hide hz;clear hz
      by_cases hlt:j<lo
      ·have C:=hide (TH.out wr 0 r _ RR.out (HR.out.2.2 j hlt))
       have HP:Hid (preN a (j+1) (tailR a lo (some n))=thenN a (preN a j (tailR a lo (some n)))):=preN_succ _ _ _;clear RR;go_wp2_with fail
       refine (C.out).mono ?_;rintro e w2 hrq;obtain ⟨r2,rfl,hz2⟩:=hrq.rz;have R2:=hide hz2;clear hrq hz2 C;go_wp2;go_roundg (gk-1)
       case measure=>omega
       case rel=>exact ⟨j+1,r2,by omega,by go_num,rfl,by rw[HP.out];exact R2.out⟩
      ·have hje:j=lo:=by omega
       subst hje;go_wp2;go_ret;exact RR.out.rq
theorem ST.keepX{A:Nat→Prop}{base:Nat}{w w':World}{fb vb vb':Nat}{D:List NF}{ak c:Nat}{U:List NF}{Z:List Nat}(h:ST base w fb vb D ak c U Z)(q:FQ fb vb vb' w w'):KeepX A w w':=by
 obtain ⟨E,B,h1,_⟩:=h;obtain ⟨cap,ht,_⟩:=h1.row;obtain ⟨_,_,cur,hv⟩:=h1.vbs;intro k _ ⟨cu,fz,hk⟩;have hlt:k<w.heap.size:=by rcases hk with e|e<;>exact (Array.getElem?_eq_some_iff.1 e).1
 refine q.block hlt ?_ ?_
 ·rintro rfl;rw[ht.1]at hk;rcases hk with e|e<;>simp at e
 ·rintro rfl;rw[hv]at hk;rcases hk with e|e<;>simp at e
def NmC(x:RX):Prop:=∀ (A:Nat→Prop) (base:Nat) (w:World) (fb vb:Nat) (D:List NF) (ak c:Nat) (U:List NF) (Z:List Nat) (p:Nat),ST base w fb vb D ak c U Z→XR A w p x→NeedX U x→digx x→okx x →
 Calls Tryz.prog 115 #[.pointer (some ⟨fb,0,none⟩), .pointer (some ⟨p,0,none⟩)] w (RQ base w fb vb D ak c U Z (nrm x))
theorem normalSequence_any(A:Nat→Prop)(base:Nat)(w:World)(fb vb:Nat)(D:List NF)(ak c:Nat)(U:List NF)(Z:List Nat)(v:Value)(ps:List Nat)(l:List RX)(h:ST base w fb vb D ak c U Z)(hv:XV A w v ps)(hr:XRs A w ps l)(hN:NeedXL U l)(hS:SeqOK U l)(hd:digL l)(ho:okxL l)(ih:∀ y∈l,NmC y) :
 Calls Tryz.prog 129 #[.pointer (some ⟨fb,0,none⟩),v] w (RQ base w fb vb D ak c U Z (nrmS l)):=by
 obtain ⟨a,cap,rfl⟩:=own_shape hv.1;have hlen:=hr.len;have HV:=hide hv;have HR:=hide hr;have HN:=hide hN;have HSO:=hide hS;have HD:=hide hd;have HO:=hide ho;have HI:=hide ih;have HS:=hide h;have HD1:=hide h.tbl.2.1;have hps:=hv.2.2;have Hlen:=hide hlen;clear hv hr hN hS hd ho ih h hlen;go_enter Tryz.func129,Tryz.ntmps129
 go_wp2_with fail
 go_loopg [5,6] ps.length (fun k v5 v6 wr=>∃ r:Nat,k≤ps.length∧v6=.int .i64 ((k:Int)-1)∧v5=.int .i64 r∧RZ base w fb vb D ak c U Z (nrmS (l.drop k)) r wr)
 case atStart=>exact ⟨1,by omega,by go_num,rfl,RZ.here HS.out (Frm.refl _ _) (by rw[Hlen.out,List.drop_length];exact HD1.out)⟩
 case round =>
  obtain ⟨r,hk,rfl,rfl,hz⟩:=hrel;have RR:=hide hz;clear hz;cases gk with
  | zero =>
    have R0:Hid (RZ base w fb vb D ak c U Z (nrmS l) r wr):=RR.out;clear RR;go_wp2;go_ret;exact R0.out.rq
  | succ m =>
    have hml:m<l.length:=by have:=Hlen.out;omega
    obtain ⟨g,rfl⟩:∃ g,a=some ⟨g,0,none⟩:=by
     rcases HV.out.1.2 with ⟨e,h⟩|⟨g,c,cur,e,_⟩
     ·simp at e;omega
     ·simp at e;exact ⟨g,e.1⟩
    obtain ⟨vb1,R,hst,hrr,hq⟩:=RR.out;have KX:KeepX A w wr:=HS.out.keepX hq;obtain ⟨p,hp,hx⟩:=(HR.out.keep KX).get m hml;have hc:=(HV.out.keep KX).cell hp;have hm:=List.getElem_mem hml;have C:=hide (HI.out _ hm A base wr fb vb1 (D++R) ak c U Z p hst hx (needXL_mem.1 HN.out _ hm) (digL_mem HD.out hm) (okxL_mem HO.out hm));have HT:Hid (nrmS (l.drop m)=thenN (nrm l[m]) (nrmS (l.drop (m+1)))):=by show _=_;rw[List.drop_eq_getElem_cons hml];rfl
    have CR:=hide (HSO.out.get m hml);have HRR:=hide hrr;have HQ:=hide hq;have hmi:((m+1:Nat):Int)-1=m:=by omega
    rw[hmi];clear hmi KX hx hm hp hst hrr hq RR;generalize nrm l[m]=y at *;generalize nrmS (l.drop (m+1))=t at *;have hmp:(m:Int)<ps.length:=by omega
    go_wp2_with fail
    refine (C.out).mono ?_;rintro e w2 ⟨vb2,R2,r2,rfl,hst2,hr2,hq2⟩;have T:=hide (then_any y base w2 fb vb2 (D++R++R2) ak c U Z t r2 r hst2 hr2 (get_app HRR.out) CR.out);have Q2:=hide (HQ.out.trans hq2);clear hst2 hr2 hq2 C hc;go_wp2_with fail
    refine (T.out).mono ?_;rintro e w3 hrq;have hrq2:RQ base w fb vb D ak c U Z (thenN y t) e w3:=RQ.later (R:=R++R2) Q2.out (by simpa using hrq);obtain ⟨r3,rfl,hz3⟩:=hrq2.rz;have R3:=hide hz3;clear hrq hrq2 hz3 T;go_wp2;go_roundg m
    case measure=>omega
    case rel=>exact ⟨r3,by omega,by go_num,rfl,by rw[HT.out];exact R3.out⟩
theorem ST.rowNe{base b2:Nat}{w:World}{fb vb:Nat}{D:List NF}{ak c:Nat}{U:List NF}{Z:List Nat}(h:ST base w fb vb D ak c U Z){v:Value}{I:List Nat}(hi:IL b2 w v I):fb∉v.ownBlock.toList∧vb∉v.ownBlock.toList:=by
 obtain ⟨E,B,h1,_⟩:=h;obtain ⟨cap,ht,_⟩:=h1.row;obtain ⟨_,_,cur,hv⟩:=h1.vbs;have key:∀ k,v.ownBlock=some k→∃ cur,w.heap[k]?=some (.cells cur 3 (0,0)):=by
  intro k hk;rcases hi.2 with ⟨e,_⟩|⟨g,cp,cur,e,_,hg,_⟩
  ·rw[e]at hk;simp[Value.ownBlock]at hk
  ·rw[e]at hk;simp[Value.ownBlock]at hk;subst hk;exact ⟨cur,hg⟩
 constructor
 ·intro hm
  rw[Option.mem_toList]at hm;obtain ⟨cu,hc⟩:=key _ hm;rw[ht.1]at hc;simp at hc
 ·intro hm
  rw[Option.mem_toList]at hm;obtain ⟨cu,hc⟩:=key _ hm;rw[hv]at hc;simp at hc
structure GQ(base:Nat)(w wr:World)(fb vb:Nat)(D:List NF)(ak c:Nat)(U:List NF)(Z:List Nat)(v5:Value)(I:List Nat)(X:List NF)(vb':Nat)(R:List NF):Prop where
 il:IL w.heap.size wr v5 I
 st:ST base wr fb vb' (D++R) ak c U (v5.ownBlock.toList++Z)
 lt:∀ q∈I,q<(D++R).length
 mp:X=I.map fun j=>(D++R).getD j .zero
 fq:FQ fb vb vb' w wr
theorem GQ.start{base:Nat}{w:World}{fb vb:Nat}{D:List NF}{ak c:Nat}{U:List NF}{Z:List Nat}(h:ST base w fb vb D ak c U Z):GQ base w (w.alloc (Obj.cells #[] 3)) fb vb D ak c U Z (.slice (some ⟨w.heap.size,0,none⟩) 0 0) [] [] vb []:=by
 have F:=(Frm.refl [] w).alloc (Obj.cells #[] 3);refine ⟨World.ownsRow_lit _ #[] 0 (Nat.le_refl _) (by unfold maxLen;omega) (by simp),?_,by simp,by simp,FQ.keepR (FQ.refl _ _ _) F⟩;rw[List.append_nil];exact h.more F (fun k hk=>by simp[Value.ownBlock]at hk;subst hk;simp)
theorem GQ.turn{base:Nat}{w wr w2:World}{fb vb vb' vb2:Nat}{D:List NF}{ak c:Nat}{U:List NF}{Z:List Nat}{v5:Value}{I:List Nat}{X R R2:List NF}(h:GQ base w wr fb vb D ak c U Z v5 I X vb' R)(hst:ST base w2 fb vb2 (D++R++R2) ak c U (v5.ownBlock.toList++Z))(hq:FQ fb vb' vb2 wr w2):GQ base w w2 fb vb D ak c U Z v5 I X vb2 (R++R2):=by
 have hne:=h.st.rowNe h.il;refine ⟨row_frm h.il hq.fr (fun k hk=>?_),by rw[← List.append_assoc];exact hst,?_,?_,h.fq.trans hq⟩
 ·simp only[List.mem_cons,List.not_mem_nil,or_false,not_or]
  exact ⟨fun e=>hne.1 (by rw[Option.mem_toList,← e];exact hk),fun e=>hne.2 (by rw[Option.mem_toList,← e];exact hk)⟩
 ·intro q hqq;have:=h.lt q hqq;simp at this ⊢;omega
 ·rw[← List.append_assoc,map_app h.lt];exact h.mp
theorem GQ.keep{base:Nat}{w wr w2:World}{fb vb vb':Nat}{D:List NF}{ak c:Nat}{U:List NF}{Z:List Nat}{v5:Value}{I:List Nat}{X R:List NF}(h:GQ base w wr fb vb D ak c U Z v5 I X vb' R)(f:Frm [] wr w2):GQ base w w2 fb vb D ak c U Z v5 I X vb' R :=
 ⟨own_frm h.il f (by simp),h.st.keep f,h.lt,h.mp,FQ.keepR h.fq f⟩
theorem GQ.add{base:Nat}{w wr w5:World}{fb vb vb' g cap q:Nat}{D:List NF}{ak c:Nat}{U:List NF}{Z:List Nat}{v5:Value}{I:List Nat}{X R:List NF}{y:NF}{o:Obj}(h:GQ base w wr fb vb D ak c U Z v5 I X vb' R)(hq:(D++R)[q]?=some y)
 (hil:IL w.heap.size w5 (.slice (some ⟨g,0,none⟩) (I.length+1) cap) (I++[q])) (hg:(wr.alloc o).grownBy w5 v5.ownBlock) (hat:v5.ownBlock=some g∨g=(wr.alloc o).heap.size) (hgl:g<w5.heap.size):GQ base w w5 fb vb D ak c U Z (.slice (some ⟨g,0,none⟩) (I.length+1) cap) (I++[q]) (X++[y]) vb' R:=by
 have hne:=h.st.rowNe h.il;refine ⟨hil,h.st.growZ hg hat hgl hne.1 hne.2,?_,?_,⟨(h.fq.fr.alloc o).grown hg (fun k hk=>.inr (h.il.lt k hk).1),h.fq.mv⟩⟩
 ·intro j hj
  rcases List.mem_append.1 hj with e|e
  ·exact h.lt j e
  ·simp at e;subst e;exact (List.getElem?_eq_some_iff.1 hq).1
 ·rw[List.map_append,← h.mp];simp only[List.map_cons,List.map_nil,getD_of hq]
theorem GQ.or{base:Nat}{w wr:World}{fb vb vb':Nat}{D:List NF}{ak c:Nat}{U:List NF}{Z:List Nat}{v5:Value}{I:List Nat}{X R:List NF}(h:GQ base w wr fb vb D ak c U Z v5 I X vb' R)(hU:OrOK U X) :
 Calls Tryz.prog 141 #[.pointer (some ⟨fb,0,none⟩),v5] wr (RQ base w fb vb D ak c U Z (orL X)) :=
 (or_any base wr fb vb' (D++R) ak c U Z v5 I X h.st.less (row_nl h.il) h.lt h.mp hU).mono fun e w' hr=>RQ.later h.fq hr
theorem normalChoice_any(A:Nat→Prop)(base:Nat)(w:World)(fb vb:Nat)(D:List NF)(ak c:Nat)(U:List NF)(Z:List Nat)(v:Value)(ps:List Nat)(l:List RX)(h:ST base w fb vb D ak c U Z)(hv:XV A w v ps)(hr:XRs A w ps l)(hN:NeedXL U l)(hS:OrOK U (nrmA l))(hd:digL l)(ho:okxL l)(ih:∀ y∈l,NmC y) :
 Calls Tryz.prog 127 #[.pointer (some ⟨fb,0,none⟩),v] w (RQ base w fb vb D ak c U Z (orL (nrmA l))):=by
 obtain ⟨a,cap,rfl⟩:=own_shape hv.1;have hlen:=hr.len;have HV:=hide hv;have HR:=hide hr;have HN:=hide hN;have HSO:=hide hS;have HD:=hide hd;have HO:=hide ho;have HI:=hide ih;have HS:=hide h;have hps:=hv.2.2;have Hlen:=hide hlen;clear hv hr hN hS hd ho ih h hlen;go_enter Tryz.func127,Tryz.ntmps127
 go_wp2_with fail
 go_loopg [5,12] ps.length (fun k v5 v12 wr=>∃ (j:Nat) (I:List Nat) (vb':Nat) (R:List NF),j+k=ps.length∧v12=.int .i64 j∧I.length≤j∧GQ base w wr fb vb D ak c U Z v5 I ((nrmA l).take j) vb' R)
 case atStart=>exact ⟨0,[],vb,[],by omega,rfl,by simp,GQ.start HS.out⟩
 case round =>
  obtain ⟨j,I,vb1,R,hj,rfl,hIl,hg⟩:=hrel;obtain ⟨a5,c5,rfl⟩:=own_shape hg.il;have G:=hide hg;have zr:=hg.fq.fr.size;clear hg
  by_cases hlt:j<ps.length
  ·have hml:j<l.length:=by have:=Hlen.out;omega
   obtain ⟨g,rfl⟩:∃ g,a=some ⟨g,0,none⟩:=by
    rcases HV.out.1.2 with ⟨e,h⟩|⟨g,c,cur,e,_⟩
    ·simp at e;omega
    ·simp at e;exact ⟨g,e.1⟩
   have KX:KeepX A w wr:=HS.out.keepX G.out.fq;obtain ⟨p,hp,hx⟩:=(HR.out.keep KX).get j hml;have hc:=(HV.out.keep KX).cell hp;have hm:=List.getElem_mem hml;have C:=hide (HI.out _ hm A base wr fb vb1 (D++R) ak c U ((Value.ownBlock (.slice a5 I.length c5)).toList++Z) p G.out.st hx (needXL_mem.1 HN.out _ hm) (digL_mem HD.out hm) (okxL_mem HO.out hm));have HT:Hid ((nrmA l).take (j+1)=(nrmA l).take j++[nrm l[j]]):=by show _=_;rw[nrmA_map,List.take_add_one];simp[hml]
   clear KX hx hm hp;generalize nrm l[j]=y at *;go_wp2_with fail
   refine (C.out).mono ?_;rintro e w2 ⟨vb2,R2,r2,rfl,hst2,hr2,hq2⟩;have G2:=hide (G.out.turn hst2 hq2);have z2:=hq2.fr.size;have HR2:Hid ((D++(R++R2))[r2]?=some y):=by show _=_;rw[← List.append_assoc];exact hr2
   clear hst2 hr2 hq2 C hc G;go_wp2_with (first | (at_builtin;refine wp_appI _ rfl _ _ rfl w.heap.size (.slice a5 I.length c5) I r2 w2.heap.size rfl (G2.out.il.alloc _) rfl (cell_newX _ _ _ _ rfl) (by omega) (by simp;omega) ?_;intro gg cap2 w5 hown hgrow hat hgl;have G5:=hide (G2.out.add HR2.out hown hgrow hat hgl);clear hown hgrow hat))
   go_roundg (gk-1)
   case measure=>omega
   case rel=>exact ⟨j+1,I++[r2],vb2,R++R2,by omega,by go_num,by simp only[List.length_append,List.length_cons,List.length_nil];omega,by rw[HT.out];simpa using G5.out⟩
  ·have G2:Hid (GQ base w wr fb vb D ak c U Z (.slice a5 I.length c5) I (nrmA l) vb1 R):=by
    have:=G.out;rw[List.take_of_length_le (by rw[nrmA_map,List.length_map];have:=Hlen.out;omega)]at this;exact this
   have C:=hide (G2.out.or HSO.out);clear G G2;go_wp2_with fail
   refine (C.out).mono ?_;rintro e w3 hrq;have R3:=hide hrq;obtain ⟨_,_,r3,rfl,_⟩:=hrq;go_wp2;go_ret;exact R3.out
theorem XB.get{w:World}{eb s:Nat}(h:XB w eb s):w.cell? ⟨eb,0,none⟩=some (.int .i64 0)∧w.cell? ⟨eb,1,none⟩=some (.int .u64 (wd s 0))∧w.cell? ⟨eb,2,none⟩=some (.int .u64 (wd s 1))∧w.cell? ⟨eb,3,none⟩=some (.int .u64 (wd s 2))∧w.cell? ⟨eb,4,none⟩=some (.int .u64 (wd s 3)):=by
 unfold XB at h;simp only[World.cell?,h];exact ⟨rfl,rfl,rfl,rfl,rfl⟩
theorem normal_one(s:Nat):NmC (.one s):=by
 intro A base w fb vb D ak c U Z p h hx hn hd ho;simp only[XR]at hx;obtain ⟨c0,c1,c2,c3,c4⟩:=hx.2.get;have SA:=hide (set_any base w fb vb D ak c U Z s h ho hn);simp only[bv]at SA;have e:nrm (.one s)=setN s:=rfl;rw[e];clear hx h hn;go_enter Tryz.func115,Tryz.ntmps115
 go_wp2_with fail
 refine (SA.out).mono ?_;rintro e w3 hrq;have R3:=hide hrq;obtain ⟨_,_,r3,rfl,_⟩:=hrq;go_wp2;go_ret;exact R3.out
theorem normal_alt(l:List RX)(ih:∀ y∈l,NmC y):NmC (.alt l):=by
 intro A base w fb vb D ak c U Z p h hx hn hd ho;simp only[XR]at hx;obtain ⟨_,v,ps,h1,h2,h3⟩:=hx;have c0:=h1.c0;have c5:=h1.c5;have CA:=hide (normalChoice_any A base w fb vb D ak c U Z v ps l h h2 h3 hn.1 hn.2 hd ho.1 ih);have e:nrm (.alt l)=orL (nrmA l):=rfl;rw[e];obtain ⟨a,cap,rfl⟩:=own_shape h2.1;clear h1 h2 h3 h hn;go_enter Tryz.func115,Tryz.ntmps115
 go_wp2_with fail
 refine (CA.out).mono ?_;rintro e w3 hrq;have R3:=hide hrq;obtain ⟨_,_,r3,rfl,_⟩:=hrq;go_wp2;go_ret;exact R3.out
theorem normal_seq(l:List RX)(ih:∀ y∈l,NmC y):NmC (.seq l):=by
 intro A base w fb vb D ak c U Z p h hx hn hd ho;simp only[XR]at hx;obtain ⟨_,v,ps,h1,h2,h3⟩:=hx;have c0:=h1.c0;have c5:=h1.c5;have CA:=hide (normalSequence_any A base w fb vb D ak c U Z v ps l h h2 h3 hn.1 hn.2 hd ho ih);have e:nrm (.seq l)=nrmS l:=rfl;rw[e];obtain ⟨a,cap,rfl⟩:=own_shape h2.1;clear h1 h2 h3 h hn;go_enter Tryz.func115,Tryz.ntmps115
 go_wp2_with fail
 refine (CA.out).mono ?_;rintro e w3 hrq;have R3:=hide hrq;obtain ⟨_,_,r3,rfl,_⟩:=hrq;go_wp2;go_ret;exact R3.out
theorem normal_rep(x:RX)(lo:Nat)(hi:Option Nat)(ih:NmC x):NmC (.rep x lo hi):=by
 intro A base w fb vb D ak c U Z p h hx hn hd ho;simp only[XR]at hx;obtain ⟨_,q,h1,h2⟩:=hx;have c0:=h1.c0;have c6:=h1.c6;have HS:=hide h;have C:=hide (ih A base w fb vb D ak c U Z q h h2 hn.1 hd.1 ho.1);have e:nrm (.rep x lo hi)=repN (nrm x) lo hi:=rfl;rw[e];have HN:=hide hn.2;have hd2:=hd.2;have ho2:=ho.2;have H1:=hide h1;have hpb:∃ cu fz,w.heap[p]?=some (.cells cu 198 fz):=⟨_,_,h1⟩;clear h1 h2 h hn hd ho e;go_enter Tryz.func115,Tryz.ntmps115
 go_wp2_with fail
 refine (C.out).mono ?_;rintro e w3 hrq;obtain ⟨vb',R,r,rfl,hst,hr,hq⟩:=hrq;have KX:KeepX (fun _=>True) w w3:=HS.out.keepX hq;have X3:XW w3 p q lo (hiZ hi):=by
  obtain ⟨cu,fz,hc⟩:=hpb;have:=KX p trivial ⟨cu,fz, .inl hc⟩;exact this.trans H1.out
 have c7:=X3.c7;have c8:=X3.c8;have N2:Hid (Calls Tryz.prog 128 #[.pointer (some ⟨fb,0,none⟩), .int .i64 r, .int .i64 lo, .int .i64 (hiZ hi)] w3.drew (RQ base w fb vb D ak c U Z (repN (nrm x) lo hi))) :=
  (normalRepeated_any base w3.drew fb vb' (D++R) ak c U Z (nrm x) r lo hi (hst.keep ((Frm.refl _ _).drew)) hr HN.out hd2.1 (fun n hn=>⟨ho2 n hn,hd2.2 n hn⟩)).mono fun e w' h=>RQ.later (FQ.keepR hq ((Frm.refl _ _).drew)) h
 clear KX X3 hst hr hq C hpb;generalize hiZ hi=hz at *;go_wp2_with fail
 go_region_with (go_at_call 128;refine (N2.out).mono ?_;rintro e w4 hrq;have R4:=hide hrq;obtain ⟨_,_,r4,rfl,_⟩:=hrq)
 all_goals
  go_wp2;go_ret;exact R4.out
mutual
theorem normal_any:∀ (x:RX),NmC x
 | .one s=>normal_one s
 | .seq l=>normal_seq l (normalL_any l)
 | .alt l=>normal_alt l (normalL_any l)
 | .rep x lo hi=>normal_rep x lo hi (normal_any x)
theorem normalL_any:∀ (l:List RX),∀ y∈l,NmC y
 | [],y,hy=>by simp at hy
 | x::r,y,hy=>by
   rcases List.mem_cons.1 hy with h|h
   ·rw[h];exact normal_any x
   ·exact normalL_any r y h
end
def LfC(d:NF):Prop:=∀ (base:Nat) (w:World) (fb vb:Nat) (D:List NF) (ak c:Nat) (U:List NF) (Z:List Nat) (i:Nat),ST base w fb vb D ak c U Z→D[i]?=some d→Need c U d→c<256→1≤ak →
 Calls Tryz.prog 130 #[.pointer (some ⟨fb,0,none⟩), .int .i64 i, .int .u8 c] w (RQ base w fb vb D ak c U Z (left c d))
theorem leftOfPair_any(a b:NF)(iha:LfC a)(ihb:LfC b)(base:Nat)(w:World)(fb vb:Nat)(D:List NF)(ak c:Nat)(U:List NF)(Z:List Nat)(fi se:Nat)(kd s0 s1 s2 s3 lk ak' lf:Int)(te:Bool)(av:Option Addr)(nv cv:Nat)
 (h:ST base w fb vb D ak c U Z) (h1:D[fi]?=some a) (h2:D[se]?=some b) (hn:Need c U (.pair a b)) (hc:c<256) (ha:1≤ak) :
 Calls Tryz.prog 157 #[.pointer (some ⟨fb,0,none⟩), .agg #[.int .i64 kd, .int .u64 s0, .int .u64 s1, .int .u64 s2, .int .u64 s3, .int .i64 fi, .int .i64 se, .slice av nv cv, .bool te, .int .i64 lk, .int .i64 ak', .int .i64 lf], .int .u8 c] w (RQ base w fb vb D ak c U Z (left c (.pair a b))):=by
 have HS:=hide h;have H1:=hide h1;have H2:=hide h2;have HN:=hide hn;have hvb:=h.tbl.2.2.2.2.2;have F0:Frm [] w (w.alloc (Obj.cells #[.int .i64 kd, .int .u64 s0, .int .u64 s1, .int .u64 s2, .int .u64 s3, .int .i64 fi, .int .i64 se, .slice av nv cv, .bool te, .int .i64 lk, .int .i64 ak', .int .i64 lf] 206)):=(Frm.refl _ _).alloc _;have hb0:=heap1 w (Obj.cells #[.int .i64 kd, .int .u64 s0, .int .u64 s1, .int .u64 s2, .int .u64 s3, .int .i64 fi, .int .i64 se, .slice av nv cv, .bool te, .int .i64 lk, .int .i64 ak', .int .i64 lf] 206);have z0:(w.alloc (Obj.cells #[.int .i64 kd, .int .u64 s0, .int .u64 s1, .int .u64 s2, .int .u64 s3, .int .i64 fi, .int .i64 se, .slice av nv cv, .bool te, .int .i64 lk, .int .i64 ak', .int .i64 lf] 206)).heap.size=w.heap.size+1:=by simp
 clear h h1 h2 hn;go_enter Tryz.func157,Tryz.ntmps157
 go_wp2_with fail
 generalize w.alloc (Obj.cells #[.int .i64 kd, .int .u64 s0, .int .u64 s1, .int .u64 s2, .int .u64 s3, .int .i64 fi, .int .i64 se, .slice av nv cv, .bool te, .int .i64 lk, .int .i64 ak', .int .i64 lf] 206)=w0 at F0 hb0 z0 ⊢;have A1:=hide (iha base w0 fb vb D ak c U Z fi (HS.out.keep F0) H1.out HN.out.1 hc ha);have HF0:=hide F0;have HB0:=hide hb0;clear F0 hb0;refine (A1.out).mono ?_;rintro e w1 hrq;obtain ⟨vb1,R1,r1,rfl,hst1,hr1,hq1⟩:=hrq;have hq1':=FQ.keepL HF0.out hq1;have hbl1:w1.heap[w.heap.size]?=w0.heap[w.heap.size]?:=hq1.block (by omega) (by omega) (by omega);rw[HB0.out]at hbl1;have p5:w1.cell? ⟨w.heap.size,5,none⟩=some (.int .i64 fi):=by simp[World.cell?,hbl1]
 have p6:w1.cell? ⟨w.heap.size,6,none⟩=some (.int .i64 se):=by simp[World.cell?,hbl1]
 have T:=hide (then_any (left c a) base w1 fb vb1 (D++R1) ak c U Z b r1 se hst1 hr1 (get_app H2.out) HN.out.2.1);have S1:=hide hst1;have Q1:=hide hq1';have HBL1:=hide hbl1;have zq1:=hq1.fr.size;have hmv1:=hq1.mv;clear hst1 hr1 hq1 hq1' hbl1 A1;go_wp2_with fail
 refine (T.out).mono ?_;rintro e w2 hrq;obtain ⟨vb2,R2,r2,rfl,hst2,hr2,hq2⟩:=hrq;have hbl2:w2.heap[w.heap.size]?=w1.heap[w.heap.size]?:=hq2.block (by omega) (by omega) (by omega);rw[HBL1.out]at hbl2;have u5:w2.cell? ⟨w.heap.size,5,none⟩=some (.int .i64 fi):=by simp[World.cell?,hbl2]
 have u6:w2.cell? ⟨w.heap.size,6,none⟩=some (.int .i64 se):=by simp[World.cell?,hbl2]
 have hD2:(D++R1++R2)[fi]?=some a:=get_app (get_app H1.out);obtain ⟨f,L,cap,K⟩:=hst2.look hD2;have t0:=K.tab;have k8:=K.get.2.2.2.2.2.2.2.2.1;have hlt:=K.lt;rw[K.te]at k8;have S2:=hide hst2;have Q2:=hide (FQ.trans Q1.out hq2);have HR2:=hide hr2;have zq2:=hq2.fr.size;have hlt2:(fi:Int)<(D++R1++R2).length:=by omega
 clear K hst2 hr2 hq2 hbl2 T p5 p6 hD2;obtain ⟨nD,hnD⟩:∃ n,n=(D++R1++R2).length:=⟨_,rfl⟩;rw[← hnD]at t0 hlt hlt2;clear hnD;cases hna:nul a with
 | false =>
   rw[hna]at k8;have HL:Hid (left c (.pair a b)=thenN (left c a) b):=by show _=_;simp only[left,hna];simp
   have R3:Hid (∀ nq,RQ base w fb vb D ak c U Z (thenN (left c a) b) (.returned (.int .i64 (r2:Nat))) (w2.drewN nq)):=fun nq=>⟨vb2,R1++R2,r2,rfl,by rw[← List.append_assoc];exact S2.out.keep ((Frm.refl _ _).drewN _),by rw[← List.append_assoc];exact HR2.out,FQ.keepR Q2.out ((Frm.refl _ _).drewN _)⟩
   go_wp2_with fail
   go_quiet (fail)
   go_wp2;go_ret;rw[HL.out];exact R3.out _
 | true =>
   rw[hna]at k8;have HL:Hid (left c (.pair a b)=orL [thenN (left c a) b,left c b]):=by show _=_;simp only[left,hna];simp;rfl
   have hnb:=HN.out.2.2 hna;have B1:=hide (fun nq=>ihb base (w2.drewN nq) fb vb2 (D++R1++R2) ak c U Z se (S2.out.keep ((Frm.refl _ _).drewN _)) (get_app (get_app H2.out)) hnb.1 hc ha);have OK:=hide hnb.2;clear hnb hna;go_wp2_with fail
   go_quiet (fail)
   go_wp2_with fail
   refine (B1.out _).mono ?_;rintro e w3 hrq;obtain ⟨vb3,R3,r3,rfl,hst3,hr3,hq3⟩:=hrq;have OC:Hid (∀ o,o=Obj.cells #[.int .i64 r2, .int .i64 r3] 3→Calls Tryz.prog 141 #[.pointer (some ⟨fb,0,none⟩), .slice (some ⟨w3.heap.size,0,none⟩) 2 2] (w3.alloc o) (RQ base w fb vb D ak c U Z (orL [thenN (left c a) b,left c b]))):=by
    rintro o rfl;have F3:=(Frm.refl [] w3).alloc (Obj.cells #[.int .i64 r2, .int .i64 r3] 3);have hst4:=hst3.keep F3;have hil:IL w3.heap.size (w3.alloc (Obj.cells #[.int .i64 r2, .int .i64 r3] 3)) (.slice (some ⟨w3.heap.size,0,none⟩) 2 2) [r2,r3]:=World.ownsRow_lit _ #[.int .i64 r2, .int .i64 r3] 2 (Nat.le_refl _) (by unfold maxLen;omega) (by simp);have hr2:(D++R1++R2++R3)[r2]?=some (thenN (left c a) b):=get_app HR2.out;have Q4:FQ fb vb vb3 w (w3.alloc (Obj.cells #[.int .i64 r2, .int .i64 r3] 3)):=FQ.keepR (FQ.trans (FQ.keepR Q2.out ((Frm.refl _ _).drewN _)) hq3) F3;refine (or_any base _ fb vb3 (D++R1++R2++R3) ak c U Z (.slice (some ⟨w3.heap.size,0,none⟩) 2 2) [r2,r3] [thenN (left c a) b,left c b] hst4 (row_nl hil) ?_ ?_ OK.out).mono fun e w' h=>RQ.later (R:=R1++R2++R3) Q4 (by simpa[List.append_assoc] using h)
    ·intro q hq
     simp only[List.mem_cons,List.not_mem_nil,or_false]at hq;rcases hq with rfl|rfl
     ·exact (List.getElem?_eq_some_iff.1 hr2).1
     ·exact (List.getElem?_eq_some_iff.1 hr3).1
    ·simp only[List.map_cons,List.map_nil,getD_of hr2,getD_of hr3]
   clear hst3 hr3 hq3 B1;go_wp2_with fail
   refine (OC.out _ rfl).mono ?_;rintro e w4 hrq;have R4:=hide hrq;obtain ⟨_,_,r4,rfl,_⟩:=hrq;go_wp2;go_ret;rw[HL.out];exact R4.out
end Go.Proofs.YtpcbbbilmpobaaaGreatDoor
