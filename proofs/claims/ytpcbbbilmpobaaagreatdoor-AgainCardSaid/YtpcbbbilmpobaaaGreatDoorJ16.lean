import Derived.Test.YtpcbbbilmpobaaaGreatDoorJ15
set_option linter.unusedVariables false
set_option linter.unusedSimpArgs false
set_option linter.unnecessarySimpa false
set_option maxRecDepth 100000
set_option maxHeartbeats 4000000
namespace Go.Proofs.YtpcbbbilmpobaaaGreatDoor
open Go.RowKit
theorem find_any(w:World)(v:Value)(A:List Nat)(L:List (List UInt8))(x:List UInt8)(h:RW A 1 w v (sc L))(hL:L.length≤1048576) :
 Calls Tryz.prog 71 #[v, .string (bs x)] w fun e w'=>e=.returned (.int .i64 (fdx L x:Nat))∧w=w':=by
 obtain ⟨a,c,rfl,r⟩:=h.str;have R:=hide r;have hl:=bs_toList;clear h r;go_enter Tryz.func71,Tryz.ntmps71
 go_wp2_with fail
 go_loopg [9] L.length (fun k v9 wr=>∃ j:Nat,j+k=L.length∧v9=.int .i64 j∧wr=w∧Hid (∀ i (hi:i<j) (hl:i<L.length),(L[i]==x)=false))
 case atStart=>exact ⟨0,by omega,rfl,rfl,fun i hi=>by omega⟩
 case round =>
  obtain ⟨j,hjk,rfl,hw,HF⟩:=hrel;subst hw
  by_cases hlt:j<L.length
  ·have hd1:decide ((j:Int)<(L.length:Int))=true:=decide_eq_true (by omega)
   obtain ⟨g,off,rfl,hg,k1⟩:=R.out j hlt;cases he:(L[j]==x)
   ·have HF2:Hid (∀ i (hi:i<j+1) (hl:i<L.length),(L[i]==x)=false):=fun i hi hil=>by
     by_cases e:i=j
     ·subst e;exact he
     ·exact HF.out i (by omega) hil
    generalize L[j]=s at *;clear HF;go_wp2;go_roundg (gk-1)
    case measure=>omega
    case rel=>exact ⟨j+1,by omega,by go_num,rfl,HF2⟩
   ·have HV:Hid (fdx L x=j):=fdx_at hlt (fun i hi=>HF.out i hi (by omega)) he
    generalize L[j]=s at *;clear HF;go_wp2;go_ret;rw[HV.out];exact ⟨rfl,rfl⟩
  ·have hd1:decide ((j:Int)<(L.length:Int))=false:=decide_eq_false (by omega)
   have HV:Hid (fdx L x=L.length):=fdx_none (fun i hi=>HF.out i (by omega) hi);clear HF;go_wp2;go_ret;rw[HV.out];exact ⟨rfl,rfl⟩
def rcl(c:CR)(vby vif:Value):Array Value:=#[.int .i64 (c.d:Nat), .string (bs c.rc), .bool c.tb,vby, .int .i64 c.wt, .int .i64 c.ev, .int .i64 c.rp,vif, .bool c.co]
def mtc(L:List CM):List (List Value):=L.map mcells
def rtI:Inn CR where
 rel A w cs c:=∃ vby vif,cs=rcl c vby vif∧RW A 1 w vby (sc c.bys)∧RW A 3 w vif (mtc c.ifs)
 frm:=by
  rintro A S w w' cs x ⟨v1,v2,h1,h2,h3⟩ f hS;exact ⟨v1,v2,h1,h2.frm f hS,h3.frm f hS⟩
 avoid:=by
  rintro A B w cs x ⟨v1,v2,h1,h2,h3⟩ hB;exact ⟨v1,v2,h1,h2.avoid hB,h3.avoid hB⟩
def RTS(A:List Nat)(w:World)(v:Value)(C:List CR):Prop:=∃ css,RW A 9 w v (lst css)∧RowI rtI A w css C
theorem RTS.frm{A S:List Nat}{w w':World}{v:Value}{C:List CR}(h:RTS A w v C)(f:Frm S w w')(hS:∀ g∈S,g∈A):RTS A w' v C:=by
 obtain ⟨css,h1,h2⟩:=h;exact ⟨css,h1.frm f hS,h2.frm f hS⟩
def parI(C:List CR)(i:Nat):Int:=match par C i with | some p=>(p:Int)|none=>-1
theorem parentOf_any(w:World)(v:Value)(A:List Nat)(C:List CR)(h:RTS A w v C)(hC:C.length≤1048576)(hd:∀ c∈C,c.d≤1048576)(i:Nat)(hi:i<C.length) :
 Calls Tryz.prog 48 #[v, .int .i64 i] w fun e w'=>e=.returned (.int .i64 (parI C i))∧∃ q,w'=w.drewN q:=by
 obtain ⟨css,h1,h2⟩:=h;obtain ⟨a,cp,rfl,r⟩:=row_at h1 h2;obtain ⟨g,off,cs,rfl,hg,_,⟨vby,vif,rfl,_⟩,k1⟩:=r i hi;have p0:w.cell? ⟨g,off+i*9,none⟩=some (.int .i64 (C[i].d:Nat)):=k1 0 _ rfl;have HP:Hid (parI C i=match parGo C C[i].d i with | some p=>(p:Int)|none=>-1):=by
  show _=_;unfold parI par;rw[List.getElem?_eq_getElem hi]
 have hdi:=hd C[i] (List.getElem_mem hi);have R:=hide r;have HD:=hide hd;have hd0:decide ((i:Int)<0)=false:=decide_eq_false (by omega);have hd0':decide ((C.length:Int)≤(i:Int))=false:=decide_eq_false (by omega);generalize hdd:C[i].d=dd at *;clear h1 h2 r k1 hdd hd;go_enter Tryz.func48,Tryz.ntmps48
 go_wp2_with fail
 go_loopg [5] i (fun k v5 wr=>∃ (j q:Nat) (x:Int),j≤i∧k=j∧v5=.int .i64 x∧x=(j:Int)-1∧wr=w.drewN q∧Hid (parGo C dd j=parGo C dd i))
 case atStart=>exact ⟨i,0,_,by omega,rfl,rfl,by omega,rfl,by show _=_;rfl⟩
 case round =>
  obtain ⟨j,q,x,hji,rfl,rfl,hx,hw,HF⟩:=hrel;subst hw;rcases gk with _|n
  ·obtain rfl:x=-1:=by omega
   clear hx;have HV:Hid (parI C i=-1):=by show _=_;rw[HP.out,← HF.out];rfl
   clear HF HP;go_wp2;go_ret;rw[HV.out];exact ⟨rfl,q,rfl⟩
  ·obtain rfl:x=(n:Int):=by omega
   clear hx;obtain ⟨g',off',cs,e,_,_,⟨vby,vif,rfl,_⟩,k1⟩:=R.out n (by omega);simp only[Option.some.injEq,Addr.mk.injEq,and_true]at e;obtain ⟨rfl,rfl⟩:=e;have q0:w.cell? ⟨g,off+n*9,none⟩=some (.int .i64 (C[n].d:Nat)):=k1 0 _ rfl;have hdn:=HD.out C[n] (List.getElem_mem _);have hgo:parGo C dd (n+1)=if C[n].d+1=dd then some n else parGo C dd n:=by
    rw[parGo,List.getElem?_eq_getElem (by omega)];simp
   generalize C[n].d=dn at *
   by_cases he:dn+1=dd
   ·have HV:Hid (parI C i=(n:Int)):=by
     show _=_;rw[HP.out,← HF.out,hgo,if_pos he]
    have hb:((dn:Int)==(dd:Int)-1)=true:=by simp;omega
    have hb':decide ((dn:Int)=(dd:Int)-1)=true:=decide_eq_true (by omega);clear HF HP hgo k1;go_wp2_with fail
    go_quiet (fail)
    go_wp2;go_ret;rw[HV.out];exact ⟨rfl,_,drewN_two _ _ _⟩
   ·have HF2:Hid (parGo C dd n=parGo C dd i):=by
     show _=_;rw[← HF.out,hgo,if_neg he]
    have hb:((dn:Int)==(dd:Int)-1)=false:=by simp;omega
    have hb':decide ((dn:Int)=(dd:Int)-1)=false:=decide_eq_false (by omega);clear HF hgo k1;go_wp2_with fail
    go_quiet (fail)
    go_wp2;go_roundg n
    case measure=>omega
    case rel=>exact ⟨n,_,_,by omega,rfl,rfl,by omega,rfl,HF2⟩
theorem toldOr_any(w:World)(x:Int)(y:Nat)(hx:-1≤x) :
 Calls Tryz.prog 73 #[.int .i64 x, .int .i64 y] w fun e w'=>e=.returned (.int .i64 (tld x y:Nat))∧w=w':=by
 by_cases h:x=-1
 ·subst h
  go_enter Tryz.func73,Tryz.ntmps73
  go_wp2;go_ret;exact ⟨rfl,rfl⟩
 ·have HV:Hid (((tld x y:Nat):Int)=x):=by show _=_;unfold tld;rw[if_neg h];omega
  have hb:(x == -1)=false:=by simp[h]
  go_enter Tryz.func73,Tryz.ntmps73
  go_wp2;go_ret;rw[HV.out];exact ⟨rfl,rfl⟩
theorem KS.own{Z:List Nat}{w0:World}{kb:Nat}{w:World}{V:V6}{U:V4}{s:CS}(h:KS Z w0 kb w V U s)(i:Nat){r:RD}(hi:∀ ca cq,(krs V U s ca cq)[i]?=some r):OW r.ty r.k w0.heap.size w r.v r.vs:=by
 obtain ⟨ca,cq,g⟩:=h.g;exact g.rw.o i r (hi ca cq)
theorem KS.lo{Z:List Nat}{w0:World}{kb:Nat}{w:World}{V:V6}{U:V4}{s:CS}(h:KS Z w0 kb w V U s):kb<w0.heap.size∧w0.heap.size≤w.heap.size:=by
 obtain ⟨ca,cq,g⟩:=h.g;exact ⟨g.lo,g.fr.size⟩
theorem KS.put{Z:List Nat}{w0:World}{kb gg:Nat}{w w1 w4:World}{V V':V6}{U U':V4}{s s':CS}(h:KS Z w0 kb w V U s)(f:Frm [] w w1)(i:Nat)(r r':RD)(hi:∀ ca cq,(krs V U s ca cq)[i]?=some r)(hs:∀ ca cq,(krs V U s ca cq).set i r'=krs V' U' s' ca cq)(hsa:s'.a=s.a)(hsq:s'.q=s.q)
 (hg:w1.grownBy w4 r.v.ownBlock) (ho:OW r'.ty r'.k w0.heap.size w4 r'.v r'.vs) (hb:r'.v.ownBlock=some gg) (ha:r.v.ownBlock=some gg∨gg=w1.heap.size) (o:Nat) (v:Value) (hk:(kcell V U).setIfInBounds o v=kcell V' U'):KS Z w0 kb (w4.setCell ⟨kb,o,none⟩ v) V' U' s':=by
 have hown:=h.own i hi;obtain ⟨ca,cq,g⟩:=h.g;have hlo:=g.lo;have g1:=g.frm f (by simp);have g2:=g1.grow i (hi ca cq) hg ho hb ha;rw[hs]at g2;have g3:=g2.frm (S:=[kb]) ((Frm.refl [kb] _).setCell (p:=⟨kb,o,none⟩) (.inl (by simp)) v) (by simp);refine ⟨((h.row.frm f (by simp)).grown hg (fun r hr=>by have:=(hown.lt hr).1;omega)).set o v hk,ca,cq,?_⟩;rw[hsa,hsq];exact g3
def kown(V:V6)(U:V4):List Nat:=[V.n,V.c,U.x,V.a,V.t,U.q].flatMap fun v=>v.ownBlock.toList
theorem owns_krs(V:V6)(U:V4)(s:CS)(ca cq:List (Array Value)):owns (krs V U s ca cq)=kown V U:=rfl
structure KF(kb:Nat)(w:World)(V:V6)(U:V4)(w':World)(V':V6)(U':V4):Prop where
 f:Frm (kb::kown V U) w w'
 o:∀ g∈kown V' U',g∈kown V U∨w.heap.size≤g
theorem KF.refl(kb:Nat)(w:World)(V:V6)(U:V4):KF kb w V U w V U:=⟨Frm.refl _ _,fun g h=>.inl h⟩
theorem KF.trans{kb:Nat}{w w1 w2:World}{V V1 V2:V6}{U U1 U2:V4}(h:KF kb w V U w1 V1 U1)(k:KF kb w1 V1 U1 w2 V2 U2):KF kb w V U w2 V2 U2:=by
 refine ⟨h.f.over k.f ?_,fun g hg=>?_⟩
 ·intro x hx
  rcases List.mem_cons.1 hx with rfl|hx
  ·exact .inr (by simp)
  ·rcases h.o x hx with h1|h1
   ·exact .inr (by simp[h1])
   ·exact .inl h1
 ·rcases k.o g hg with h1|h1
  ·exact h.o g h1
  ·exact .inr (Nat.le_trans h.f.size h1)
theorem KF.of{kb:Nat}{w w1:World}{V:V6}{U:V4}(h:Frm [] w w1):KF kb w V U w1 V U:=⟨(Frm.refl _ _).over h (by simp),fun g hg=>.inl hg⟩
theorem KF.put{kb gg:Nat}{w w1 w4:World}{V V':V6}{U U':V4}{s s':CS}{ca cq ca' cq':List (Array Value)}(f:Frm [] w w1)(i:Nat){r r':RD}(hi:(krs V U s ca cq)[i]?=some r)(hs:(krs V U s ca cq).set i r'=krs V' U' s' ca' cq')(hg:w1.grownBy w4 r.v.ownBlock)(hb:r'.v.ownBlock=some gg)(ha:r.v.ownBlock=some gg∨gg=w1.heap.size)(o:Nat)(v:Value):KF kb w V U (w4.setCell ⟨kb,o,none⟩ v) V' U':=by
 have hil:i<(krs V U s ca cq).length:=(List.getElem?_eq_some_iff.1 hi).1;refine ⟨((((Frm.refl _ w).over f (by simp))).grown hg (fun g hr=>.inl ?_)).setCell (p:=⟨kb,o,none⟩) (.inl (by simp)) v,fun g hm=>?_⟩
 ·rw[← owns_krs V U s ca cq]
  exact List.mem_cons.2 (.inr (mem_owns.2 ⟨i,r,hi,hr⟩))
 ·rw[← owns_krs V' U' s' ca' cq',← hs]at hm
  obtain ⟨j,t,hj,ht⟩:=mem_owns.1 hm
  by_cases e:j=i
  ·subst e
   rw[List.getElem?_set_self hil]at hj;cases hj
   rw[hb]at ht;cases ht
   rcases ha with ha|ha
   ·exact .inl (by rw[← owns_krs V U s ca cq];exact mem_owns.2 ⟨j,r,hi,ha⟩)
   ·exact .inr (by rw[ha];exact f.size)
  ·rw[List.getElem?_set_ne (fun h=>e h.symm)]at hj
   exact .inl (by rw[← owns_krs V U s ca cq];exact mem_owns.2 ⟨j,t,hj,ht⟩)
theorem KS.off{Z:List Nat}{w0:World}{kb:Nat}{S:List Nat}{w w':World}{V:V6}{U:V4}{s:CS}(h:KS Z w0 kb w V U s)(f:Frm S w w')(hZ:∀ g∈S,g∈Z)(h0:∀ g∈S,w0.heap.size≤g)(ho:∀ g∈S,g∉kown V U):KS Z w0 kb w' V U s:=by
 have hlo:=h.lo.1;obtain ⟨ca,cq,g⟩:=h.g;exact ⟨h.row.frm f (fun hm=>by have:=h0 kb hm;omega),ca,cq,g.off f hZ h0 ho⟩
theorem tEq_def(a b:TstM):tEq a b=(a.n==b.n&&(a.k==b.k&&a.x==b.x)):=rfl
theorem RW.tst{A:List Nat}{w:World}{v:Value}{L:List TstM}(h:RW A 3 w v (tc L)):∃ a cap,v=.slice a L.length cap∧∀ (j:Nat) (hj:j<L.length),∃ g off,a=some ⟨g,off,none⟩∧g<w.heap.size∧w.cell? ⟨g,off+j*3,none⟩=some (.int .i64 (L[j].n:Nat))∧w.cell? ⟨g,off+j*3+1,none⟩=some (.int .i64 (L[j].k:Nat))∧w.cell? ⟨g,off+j*3+2,none⟩=some (.int .i64 (L[j].x:Nat)):=by
 obtain ⟨a,cap,e,h1,h2⟩:=h;rw[tc_len]at e;refine ⟨a,cap,e,fun j hj=>?_⟩;obtain ⟨g,off,e2,h3,h4,h5⟩:=h2 j (by rw[tc_len];exact hj);exact ⟨g,off,e2,h4,h5 0 _ (by simp[tc,tcell]),h5 1 _ (by simp[tc,tcell]),h5 2 _ (by simp[tc,tcell])⟩
theorem numberOfTest_any(Z:List Nat)(w0:World)(kb:Nat)(w:World)(V:V6)(U:V4)(s:CS)(h:KS Z w0 kb w V U s)(x:TstM)(hst:s.t.length≤1000) :
 Calls Tryz.prog 47 #[.pointer (some ⟨kb,0,none⟩), .agg (tcell x)] w fun e w'=>e=.returned (.int .i64 (fdt s.t x:Nat))∧∃ V',KS Z w0 kb w' V' U { s with t:=addt s.t x }∧(V'.r=V.r∧V'.i=V.i)∧KF kb w V U w' V' U:=by
 obtain ⟨vn,vc,va,vt,vr,vi⟩:=V;have hO:OW 97 3 w0.heap.size w vt (tc s.t):=h.own 4 (r:=⟨97,3,vt,tc s.t⟩) (fun ca cq=>rfl);obtain ⟨a,cap,rfl,r⟩:=(hO.rw (A:=[]) (by simp)).tst;have c3:=h.row.c 3;simp at c3;have R:=hide r;have O:=hide hO;have HK:=hide h;have hlo:=h.lo;have hkw:=h.row.lt;clear r hO h;obtain ⟨xn,xk,xx⟩:=x;simp only[tcell];go_enter Tryz.func47,Tryz.ntmps47
 go_wp2_with fail
 go_loopg [13] s.t.length (fun k v13 wr=>∃ j:Nat,j+k=s.t.length∧v13=.int .i64 j∧Frm [] w wr∧Hid (wr.heap[w.heap.size]?=some (Obj.cells #[.int .i64 (xn:Nat), .int .i64 (xk:Nat), .int .i64 (xx:Nat)] 97))∧Hid (∀ i (hi:i<j) (hl:i<s.t.length),tEq s.t[i] ⟨xn,xk,xx⟩=false))
 case atStart=>exact ⟨0,by omega,rfl,(Frm.refl _ _).alloc _,heap1 _ _,fun i hi=>by omega⟩
 case round =>
  obtain ⟨j,hjk,rfl,hF,HB,HF⟩:=hrel;have F:=hide hF;have hzz:=hF.size;have hB:=HB.out;have b0:wr.cell? ⟨w.heap.size,0,none⟩=some (.int .i64 (xn:Nat)):=by simp[World.cell?,hB]
  have b1:wr.cell? ⟨w.heap.size,1,none⟩=some (.int .i64 (xk:Nat)):=by simp[World.cell?,hB]
  have b2:wr.cell? ⟨w.heap.size,2,none⟩=some (.int .i64 (xx:Nat)):=by simp[World.cell?,hB]
  have hbl:w.heap.size<wr.heap.size:=(Array.getElem?_eq_some_iff.1 hB).1;have d3:=hF.at (p:=⟨kb,3,none⟩) hkw c3;clear hB
  by_cases hlt:j<s.t.length
  ·have hd1:decide ((j:Int)<(s.t.length:Int))=true:=decide_eq_true (by omega)
   obtain ⟨g,off,rfl,hg,q0,q1,q2⟩:=R.out j hlt;have t0:=hF.at (p:=⟨g,off+j*3,none⟩) hg q0;have t1:=hF.at (p:=⟨g,off+j*3+1,none⟩) hg q1;have t2:=hF.at (p:=⟨g,off+j*3+2,none⟩) hg q2;have hgr:g<wr.heap.size:=by omega
   have hte:=tEq_def s.t[j] ⟨xn,xk,xx⟩;have HFA:Hid (tEq s.t[j] ⟨xn,xk,xx⟩=true→fdt s.t ⟨xn,xk,xx⟩=j):=fun he=>fdt_at hlt (fun i hi=>HF.out i hi (by omega)) he
   have HFB:Hid (tEq s.t[j] ⟨xn,xk,xx⟩=false→∀ i (hi:i<j+1) (hl:i<s.t.length),tEq s.t[i] ⟨xn,xk,xx⟩=false):=fun he i hi hil=>by
    by_cases e:i=j
    ·subst e;exact he
    ·exact HF.out i (by omega) hil
   clear q0 q1 q2 hF;generalize htj:s.t[j]=tj at *;obtain ⟨an,ak,ax⟩:=tj;clear htj;simp only at t0 t1 t2 hte
   by_cases e1:an=xn
   ·subst e1
    by_cases e2:ak=xk
    ·subst e2
     by_cases e3:ax=xx
     ·subst e3
      have HV:Hid (fdt s.t ⟨an,ak,ax⟩=j):=HFA.out (by rw[hte];simp);have HA:Hid (addt s.t ⟨an,ak,ax⟩=s.t):=by show _=_;unfold addt;rw[if_neg];rw[HV.out];omega
      clear HFA HFB HF hte;go_wp2;go_ret;rw[HV.out,HA.out];exact ⟨rfl,_,HK.out.frm (F.out.alloc _),⟨rfl,rfl⟩,KF.of (F.out.alloc _)⟩
     ·have HF2:Hid (∀ i (hi:i<j+1) (hl:i<s.t.length),tEq s.t[i] ⟨an,ak,xx⟩=false):=HFB.out (by rw[hte];simp[e3])
      clear HFA HFB HF hte;go_wp2;go_roundg (gk-1)
      case measure=>omega
      case rel=>exact ⟨j+1,by omega,by go_num,F.out.alloc _,((Frm.refl [] _).alloc _ |>.block w.heap.size hbl (by simp)).trans HB.out,HF2⟩
    ·have HF2:Hid (∀ i (hi:i<j+1) (hl:i<s.t.length),tEq s.t[i] ⟨an,xk,xx⟩=false):=HFB.out (by rw[hte];simp[e2])
     clear HFA HFB HF hte;go_wp2;go_roundg (gk-1)
     case measure=>omega
     case rel=>exact ⟨j+1,by omega,by go_num,F.out.alloc _,((Frm.refl [] _).alloc _ |>.block w.heap.size hbl (by simp)).trans HB.out,HF2⟩
   ·have HF2:Hid (∀ i (hi:i<j+1) (hl:i<s.t.length),tEq s.t[i] ⟨xn,xk,xx⟩=false):=HFB.out (by rw[hte];simp[e1])
    clear HFA HFB HF hte;go_wp2;go_roundg (gk-1)
    case measure=>omega
    case rel=>exact ⟨j+1,by omega,by go_num,F.out.alloc _,((Frm.refl [] _).alloc _ |>.block w.heap.size hbl (by simp)).trans HB.out,HF2⟩
  ·have hd1:decide ((j:Int)<(s.t.length:Int))=false:=decide_eq_false (by omega)
   have HV:Hid (fdt s.t ⟨xn,xk,xx⟩=s.t.length):=fdt_none (fun i hi=>HF.out i (by omega) hi);have HA:Hid (addt s.t ⟨xn,xk,xx⟩=s.t++[⟨xn,xk,xx⟩]):=by show _=_;unfold addt;rw[if_pos HV.out]
   have HTC:Hid ((tc s.t).length=s.t.length):=tc_len s.t;have HNB:Hid (∀ r,Value.ownBlock (.slice a s.t.length cap)=some r→r≠kb):=fun r hr=>by have:=(O.out.lt hr).1;omega
   have OR:=hide (O.out.frm hF (by simp));have KSR:=hide (HK.out.frm hF);have z3:=KSR.out.row.fz 3;have hz0:=hlo.2;have hkr:kb<wr.heap.size:=by omega
   clear HF hF;go_wp2_with fail
   go_region_law ((refine step_appG _ (by rfl) _ _ 54 97 _ 3 24 infoTest Tryz.underlying54 (by rfl) (by omega) (by rfl) w0.heap.size (.slice a s.t.length cap) (tc s.t) wr.heap.size (tcell ⟨xn,xk,xx⟩) (0,0) (by rfl) (OR.out.frm (S:=[]) (((Frm.refl [] _).alloc _).drew) (by simp)) (by rfl) (by rfl) (by exact heap1 _ _) (tcell_one _) (by rw[HTC.out];omega) (by rw[HTC.out];omega) (by simp;omega) (wr.heap.size+1) (by simp) ?_;intro gg cap2 w4 hown4 hgrow hat hlt4;rw[HTC.out]at hown4 ⊢;have R4:=hide ((KSR.out.row.frm (S:=[]) (((Frm.refl [] _).alloc _).drew) (by simp)).grown hgrow HNB.out);have k3:=R4.out.c 3;have y3:=R4.out.fz 3;simp at k3))
   all_goals
    rw[tc_snoc]at hown4;have K5:=hide (KSR.out.put (((Frm.refl [] _).alloc _).drew) 4 ⟨97,3, .slice a s.t.length cap,tc s.t⟩ ⟨97,3, .slice (some ⟨gg,0,none⟩) (s.t.length+1) cap2,tc (s.t++[⟨xn,xk,xx⟩])⟩ (V':=⟨vn,vc,va, .slice (some ⟨gg,0,none⟩) (s.t.length+1) cap2,vr,vi⟩) (U':=U) (s':={ s with t:=s.t++[⟨xn,xk,xx⟩] }) (fun ca cq=>rfl) (fun ca cq=>rfl) rfl rfl hgrow hown4 rfl (by simpa using hat) 3 (.slice (some ⟨gg,0,none⟩) (s.t.length+1) cap2) rfl);have KF5:Hid (KF kb w ⟨vn,vc,va, .slice a s.t.length cap,vr,vi⟩ U (w4.setCell ⟨kb,3,none⟩ (.slice (some ⟨gg,0,none⟩) (s.t.length+1) cap2)) ⟨vn,vc,va, .slice (some ⟨gg,0,none⟩) (s.t.length+1) cap2,vr,vi⟩ U):=KF.put (s:=s) (s':={ s with t:=s.t++[⟨xn,xk,xx⟩] }) (ca:=[]) (cq:=[]) (ca':=[]) (cq':=[]) ((F.out.alloc _).drew) 4 (r:=⟨97,3, .slice a s.t.length cap,tc s.t⟩) (r':=⟨97,3, .slice (some ⟨gg,0,none⟩) (s.t.length+1) cap2,tc (s.t++[⟨xn,xk,xx⟩])⟩) rfl rfl hgrow rfl (by simpa using hat) 3 _;have m3:=K5.out.row.c 3;simp at m3;clear hgrow hown4 hat k3 y3 R4;go_wp2;go_ret;rw[HV.out,HA.out];exact ⟨congrArg Ending.returned (by go_num),_,K5.out,⟨rfl,rfl⟩,KF5.out⟩
end Go.Proofs.YtpcbbbilmpobaaaGreatDoor
