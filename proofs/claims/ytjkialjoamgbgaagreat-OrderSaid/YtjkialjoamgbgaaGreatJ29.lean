import Derived.Test.YtjkialjoamgbgaaGreatJ28
import Derived.Deep.DeepCutAuto
import Derived.Deep.CutBlock
import Derived.Test.YtjkialjoamgbgaaGreatJ3
set_option linter.unusedVariables false
set_option linter.unusedSimpArgs false
set_option linter.unnecessarySimpa false
set_option maxRecDepth 100000
set_option maxHeartbeats 8000000
namespace Go.Proofs.YtjkialjoamgbgaaGreat
open Go.RowKit
def PRunQ(A:List Nat)(m:Mach)(l:List Nat)(w:World)(e:Ending)(w':World):Prop :=
 ∃ v css,e=.returned v∧Frm [] w w'∧OW 70 5 w.heap.size w' v (lst css)∧RowI hitT A w' css (hitsM m l)
theorem pRun_any(A:List Nat)(w:World)(hA:∀ g∈A,g<w.heap.size)(pb:Nat)(V:V6)(m:Mach)(h:PR [] w pb V m)(ok:MOK m)(vl:Value)(L:List LBL)(hL:LR w vl L)(hval:∀ n,(lblV L n).length≤1048576) :
 Calls Tryz.prog 21 #[.pointer (some ⟨pb,0,none⟩),vl] w (PRunQ A m (runM m (lblV L) m.code.length 0) w):=by
 have H:=hide h
 have OK:=hide ok
 have HL:=hide hL
 have HVAL:=hide hval
 have hN:=ok.code.2.1
 have hN1:=ok.code.1
 have hpb:=h.lt
 have HA:=hide hA
 clear h ok hL hval hA
 go_enter Tryz.func21,Tryz.ntmps21
 go_wp2_with fail
 go_loopg [5,6] m.code.length (fun k v5 v6 wr=>∃ (i:Nat) (l:List Nat) (css:List (Array Value)),v6=.int .i64 i∧i<m.code.length∧m.code.length≤i+k∧css.length≤i∧Frm [] w wr∧OW 70 5 w.heap.size wr v5 (lst css)∧Hid (RowI hitT (A++v5.ownBlock.toList) wr css (hitsM m l))∧Hid (l++runM m (lblV L) k i=runM m (lblV L) m.code.length 0))
 case atStart=>exact ⟨0,[],[],rfl,by omega,by omega,by simp,(Frm.refl _ _).alloc _,OW.empty _ _ _ _ (Nat.le_refl _),RowI.nil _ _ _,rfl⟩
 case round =>
  obtain ⟨i,l,css,rfl,hi,hik,hci,hF,hO,HI,HR⟩:=hrel
  obtain ⟨ao,co,he⟩:=hO.shape
  rw[lst_len]at he
  subst he
  have F:=hide hF
  have O:=hide hO
  have hzz:=hF.size
  obtain ⟨n,hn⟩:∃ n,gk=n+1:=⟨gk-1,by omega⟩
  subst hn
  obtain ⟨ai,ci,hVi,_,hrow⟩:=H.out.pg.i
  have hil:(icl m.code).length=m.code.length:=by simp[icl]
  obtain ⟨gi,oi,rfl,_,hgi,hcell⟩:=hrow i (by rw[hil];exact hi)
  have p5:=hF.at (p:=⟨pb,5,none⟩) hpb H.out.c5
  rw[hVi,hil]at p5
  have y0:wr.cell? ⟨gi,oi+i*4,none⟩=some (.int .i64 (m.code[i].op:Nat)):=hF.at (p:=⟨gi,oi+i*4+0,none⟩) hgi (hcell 0 _ (by simp[icl,icell]))
  have y1:wr.cell? ⟨gi,oi+i*4+1,none⟩=some (.int .i64 (m.code[i].x:Nat)):=hF.at (p:=⟨gi,oi+i*4+1,none⟩) hgi (hcell 1 _ (by simp[icl,icell]))
  have y2:wr.cell? ⟨gi,oi+i*4+2,none⟩=some (.int .i64 (m.code[i].a:Nat)):=hF.at (p:=⟨gi,oi+i*4+2,none⟩) hgi (hcell 2 _ (by simp[icl,icell]))
  have y3:wr.cell? ⟨gi,oi+i*4+3,none⟩=some (.int .i64 (m.code[i].b:Nat)):=hF.at (p:=⟨gi,oi+i*4+3,none⟩) hgi (hcell 3 _ (by simp[icl,icell]))
  have hcase:=ins_cases OK.out (lblV L) hi n
  have hib2:=(OK.out.code.2.2 i hi).x
  have HTC:Hid ((lst css).length=css.length):=lst_len css
  have hd1:decide ((i:Int)<(m.code.length:Int))=true:=decide_eq_true (by omega)
  have hd1':decide (i<m.code.length)=true:=decide_eq_true hi
  clear hrow hcell hil hVi hF hO
  generalize m.code[i]=c at *
  obtain ⟨op,x,a,b⟩:=c
  simp only at y0 y1 y2 y3 hcase hib2
  rcases hcase with ⟨rfl,hrun⟩|⟨rfl,hxr,hia,han,hrun⟩|⟨rfl,hia,han,hib,hbn,hxt,htok,hrun⟩
  ·have HE:Hid (runM m (lblV L) m.code.length 0=l):=by
    show _=_;rw[← HR.out,hrun,List.append_nil]
   clear HR hrun
   go_wp2
   go_ret
   rw[HE.out]
   exact ⟨_,css,rfl,F.out.alloc _,O.out.frm (S:=[]) ((Frm.refl [] _).alloc _) (by simp),(HI.out.frm (S:=[]) ((Frm.refl [] _).alloc _) (by simp)).avoid (fun y hy=>.inl (List.mem_append_left _ hy))⟩
  ·have HR2:Hid ((l++[x])++runM m (lblV L) n a=runM m (lblV L) m.code.length 0):=by
    show _=_;rw[← HR.out,hrun];simp
   obtain ⟨cssr,r1,r2⟩:=H.out.pg.r
   obtain ⟨ar,cr,hVr,hrr⟩:=row_at r1 r2
   obtain ⟨gr,orr,csr,rfl,hgr,_,hrel,hcell⟩:=hrr x hxr
   have HS:Hid (hitsM m (l++[x])=hitsM m l++[m.routes[x]]):=hitsM_snoc m l x hxr
   have hbl:=(OK.out.routes.2 m.routes[x] (List.getElem_mem hxr)).b1
   have hr17:=OK.out.routes.1
   generalize m.routes[x]=hx at *
   obtain ⟨vb,rfl,hvb⟩:=hrel
   obtain ⟨ab,cb,rfl,_⟩:=hvb.str
   have p4:=F.out.at (p:=⟨pb,4,none⟩) hpb H.out.c4
   rw[hVr]at p4
   have q0:wr.cell? ⟨gr,orr+x*5,none⟩=some (.string (bs hx.rc)):=F.out.at (p:=⟨gr,orr+x*5+0,none⟩) hgr (hcell 0 _ rfl)
   have q1:wr.cell? ⟨gr,orr+x*5+1,none⟩=some (.slice ab hx.bl.length cb):=F.out.at (p:=⟨gr,orr+x*5+1,none⟩) hgr (hcell 1 _ rfl)
   have q2:wr.cell? ⟨gr,orr+x*5+2,none⟩=some (.int .i64 (hx.wt:Nat)):=F.out.at (p:=⟨gr,orr+x*5+2,none⟩) hgr (hcell 2 _ rfl)
   have q3:wr.cell? ⟨gr,orr+x*5+3,none⟩=some (.int .i64 (hx.ev:Nat)):=F.out.at (p:=⟨gr,orr+x*5+3,none⟩) hgr (hcell 3 _ rfl)
   have q4:wr.cell? ⟨gr,orr+x*5+4,none⟩=some (.int .i64 (hx.rp:Nat)):=F.out.at (p:=⟨gr,orr+x*5+4,none⟩) hgr (hcell 4 _ rfl)
   have FR:Hid (∀ W,Frm [] w W→Calls Tryz.prog 33 #[.agg #[.string (bs hx.rc), .slice ab hx.bl.length cb, .int .i64 (hx.wt:Nat), .int .i64 (hx.ev:Nat), .int .i64 (hx.rp:Nat)]] W fun e w'=>∃ g,e=.returned (.agg #[.string (bs hx.rc), .slice (some ⟨g,0,none⟩) hx.bl.length hx.bl.length, .int .i64 (hx.wt:Nat), .int .i64 (hx.ev:Nat), .int .i64 (hx.rp:Nat)])∧Frm [] W w'∧W.heap.size≤g∧g<w'.heap.size∧RW [] 1 w' (.slice (some ⟨g,0,none⟩) hx.bl.length hx.bl.length) (sc hx.bl)):=fun W f =>
    (pfresh_any hx ab cb W ((hvb.frm f (by simp)).avoid (by simp)) hbl).mono (fun e w' h=>h)
   obtain ⟨h1,h2,h3,h4,h5⟩:=hx
   simp only at q0 q1 q2 q3 q4 FR hbl
   have hd2:decide ((x:Int)<(m.routes.length:Int))=true:=decide_eq_true (by omega)
   have hd2':decide (x<m.routes.length)=true:=decide_eq_true hxr
   have hx0:0≤x:=Nat.zero_le _
   have hpb2:pb<wr.heap.size:=by omega
   have hgr2:gr<wr.heap.size:=by omega
   have hd3:decide ((0:Int)≤(x:Int))=true:=decide_eq_true (by omega)
   clear HR hrun hcell hrr r1 r2 hVr hvb
   go_wp2_with fail
   go_quiet (fail)
   go_upto_region 10 with fail
   go_cut [9] (fun v9 wc=>True∧∃ (g bh:Nat),v9=.pointer (some ⟨bh,0,none⟩)∧bh<wc.heap.size∧wc.heap[bh]?=some (Obj.cells #[.string (bs h1), .slice (some ⟨g,0,none⟩) h2.length h2.length, .int .i64 (h3:Nat), .int .i64 (h4:Nat), .int .i64 (h5:Nat)] 70 (0,0))∧Frm [] w wc∧OW 70 5 w.heap.size wc (.slice ao css.length co) (lst css)∧RowI hitT (A++(Value.ownBlock (.slice ao css.length co)).toList) wc css (hitsM m l)∧RW (A++(Value.ownBlock (.slice ao css.length co)).toList) 1 wc (.slice (some ⟨g,0,none⟩) h2.length h2.length) (sc h2))
   case first =>
    have FN1:Hid (Frm [] w ((wr.alloc (Obj.cells #[.int .i64 1, .int .i64 (x:Nat), .int .i64 (a:Nat), .int .i64 (b:Nat)] 91)).drewN (nq+1))):=(F.out.alloc _).drewN _
    have FN2:Hid (Frm [] w (((wr.alloc (Obj.cells #[.int .i64 1, .int .i64 (x:Nat), .int .i64 (a:Nat), .int .i64 (b:Nat)] 91)).drewN (nq+1)).alloc (Obj.cells #[.string { data:=#[] }, .slice none 0 0, .int .i64 0, .int .i64 0, .int .i64 0] 70))):=((F.out.alloc _).drewN _).alloc _
    go_region_with (first | (go_at_call 33;(with_reducible refine (FR.out _ FN1.out).mono ?_);rintro e w2 ⟨g,rfl,hF2,hg,hg2,hR⟩)|(go_at_call 33;(with_reducible refine (FR.out _ FN2.out).mono ?_);rintro e w2 ⟨g,rfl,hF2,hg,hg2,hR⟩;have B2:w2.heap[wr.heap.size+1]?=some (Obj.cells hz 70):=(hF2.block (wr.heap.size+1) (by simp) (by simp)).trans (heap_bd _ _ _ _);have b0:w2.cell? ⟨wr.heap.size+1,0,none⟩=some (.string ByteArray.empty):=(by simp[World.cell?,B2]);have b1:w2.cell? ⟨wr.heap.size+1,1,none⟩=some (.slice none 0 0):=(by simp[World.cell?,B2]);have b2:w2.cell? ⟨wr.heap.size+1,2,none⟩=some (.int .i64 0):=(by simp[World.cell?,B2]);have b3:w2.cell? ⟨wr.heap.size+1,3,none⟩=some (.int .i64 0):=(by simp[World.cell?,B2]);have b4:w2.cell? ⟨wr.heap.size+1,4,none⟩=some (.int .i64 0):=(by simp[World.cell?,B2]);have bz:∀ o,w2.frozen? ⟨wr.heap.size+1,o,none⟩=false:=(fun o=>by simp[World.frozen?,B2]);have B2H:=hide B2;clear B2))
    all_goals
     have hob:∀ r,Value.ownBlock (.slice ao css.length co)=some r→r<wr.heap.size:=fun r hr=>(O.out.lt hr).2
     have hg3:wr.heap.size≤g:=by simp at hg;omega
     have F2:=(F.out.alloc (Obj.cells #[.int .i64 1, .int .i64 (x:Nat), .int .i64 (a:Nat), .int .i64 (b:Nat)] 91)).drewN (nq+1)
     have hR2:RW (A++(Value.ownBlock (.slice ao css.length co)).toList) 1 w2 (.slice (some ⟨g,0,none⟩) h2.length h2.length) (sc h2):=hR.notin (fun hm=>by
      rcases List.mem_append.1 hm with hm|hm
      ·have:=HA.out g hm;omega
      ·simp at hm;have:=hob g hm;omega)
     first
     | (have FA:Frm [] wr (w2.alloc (Obj.cells #[.string (bs h1), .slice (some ⟨g,0,none⟩) h2.length h2.length, .int .i64 (h3:Nat), .int .i64 (h4:Nat), .int .i64 (h5:Nat)] 70)):=((((Frm.refl [] wr).alloc _).drewN _).trans hF2).alloc _
        go_wp2
        go_meet
        exact ⟨trivial,g,w2.heap.size,rfl,by simp,heap1 _ _,F.out.trans FA,O.out.frm FA (by simp),HI.out.frm FA (by simp),hR2.frm ((Frm.refl [] _).alloc _) (by simp)⟩)
     | (have FA:Frm [] wr w2:=((((Frm.refl [] wr).alloc _).drewN _).alloc _).trans hF2
        have B3:=B2H.out
        have hne:Value.ownBlock (.slice ao css.length co)≠some (wr.heap.size+1):=fun e=>by have:=hob _ e;omega
        have hgn:g≠wr.heap.size+1:=by simp at hg;omega
        go_wp2
        go_meet
        refine ⟨trivial,g,wr.heap.size+1,rfl,?_,set5_row _ _ _ _ _ B3,?_,?_,?_,?_⟩
        ·exact Nat.lt_of_lt_of_le (Array.getElem?_eq_some_iff.1 B3).1 (set5_frm _ _ _ _ _ _ _).size
        ·exact (F.out.trans FA).over (set5_frm _ _ _ _ _ _ _) (by intro y hy;simp at hy;left;omega)
        ·exact (O.out.frm FA (by simp)).far (set5_frm _ _ _ _ _ _ _) hne
        ·exact ((((HI.out.avoid (B:=(wr.heap.size+1)::(A++(Value.ownBlock (.slice ao css.length co)).toList)) (by intro y hy;rcases List.mem_cons.1 hy with hy|hy;right;omega;left;exact hy)).frm FA (by simp)).frm (set5_frm _ _ _ _ _ _ _) (by simp)).avoid (by intro y hy;left;exact List.mem_cons_of_mem _ hy))
        ·exact ((hR.notin (B:=(wr.heap.size+1)::(A++(Value.ownBlock (.slice ao css.length co)).toList)) (by intro hm;rcases List.mem_cons.1 hm with hm|hm;exact hgn hm;rcases List.mem_append.1 hm with hm|hm;have:=HA.out g hm;omega;simp at hm;have:=hob g hm;omega)).frm (set5_frm _ _ _ _ _ _ _) (by simp)).avoid (by intro y hy;left;exact List.mem_cons_of_mem _ hy))
   case rest =>
    obtain ⟨_,g,bh,rfl,hbh,hB,hFc,hOc,hIc,hRc⟩:=hcut
    have F9:=hide hFc
    have O9:=hide hOc
    have I9:=hide hIc
    have R9:=hide hRc
    have z0:wc.cell? ⟨bh,0,none⟩=some (.string (bs h1)):=by simp[World.cell?,hB]
    have z1:wc.cell? ⟨bh,1,none⟩=some (.slice (some ⟨g,0,none⟩) h2.length h2.length):=by simp[World.cell?,hB]
    have z2:wc.cell? ⟨bh,2,none⟩=some (.int .i64 (h3:Nat)):=by simp[World.cell?,hB]
    have z3:wc.cell? ⟨bh,3,none⟩=some (.int .i64 (h4:Nat)):=by simp[World.cell?,hB]
    have z4:wc.cell? ⟨bh,4,none⟩=some (.int .i64 (h5:Nat)):=by simp[World.cell?,hB]
    have hzc:=hFc.size
    have HCX:Hid (∀ j u,(hcell ⟨h1,h2,h3,h4,h5⟩ (.slice (some ⟨g,0,none⟩) h2.length h2.length)).toList[j]?=some u→(wc.alloc (Obj.cells #[.string (bs h1), .slice (some ⟨g,0,none⟩) h2.length h2.length, .int .i64 (h3:Nat), .int .i64 (h4:Nat), .int .i64 (h5:Nat)] 70)).cell? ⟨wc.heap.size,j,none⟩=some u):=by
     intro j u hu
     have:=heap1 wc (Obj.cells #[.string (bs h1), .slice (some ⟨g,0,none⟩) h2.length h2.length, .int .i64 (h3:Nat), .int .i64 (h4:Nat), .int .i64 (h5:Nat)] 70)
     simp only[World.cell?,this]
     simpa[hcell] using hu
    clear hB hFc hOc hIc hRc FR p4 q0 q1 q2 q3 q4 p5 y0 y1 y2 y3 HI O F
    go_wp2_with (at_builtin;refine wp_appG _ rfl _ _ 43 70 _ 5 64 infoHit Tryz.underlying43 rfl (by omega) rfl w.heap.size (.slice ao css.length co) (lst css) wc.heap.size (hcell ⟨h1,h2,h3,h4,h5⟩ (.slice (some ⟨g,0,none⟩) h2.length h2.length)).toList rfl (O9.out.frm (S:=[]) ((Frm.refl [] _).alloc _) (by simp)) rfl rfl HCX.out (by intro u hu;simp[hcell]at hu;rcases hu with rfl|rfl|rfl|rfl|rfl<;>rfl) (by rw[HTC.out];omega) (by rw[HTC.out];omega) (by simp;omega) ?_;intro gg cap2 w4 hown4 hgrow hat hlt4;rw[HTC.out]at hown4 ⊢)
    have F4:Hid (Frm [] w w4):=(F9.out.alloc _).grown hgrow (fun r hr=>.inr (O9.out.lt hr).1)
    have O4:=hide hown4
    have I4:Hid (RowI hitT (A++[gg]) w4 (css++[hcell ⟨h1,h2,h3,h4,h5⟩ (.slice (some ⟨g,0,none⟩) h2.length h2.length)]) (hitsM m l++[⟨h1,h2,h3,h4,h5⟩])) :=
     ((I9.out.frm (S:=[]) ((Frm.refl [] _).alloc _) (by simp)).snoc ⟨g,rfl,R9.out.frm (S:=[]) ((Frm.refl [] _).alloc _) (by simp)⟩).app hgrow hat
    clear hgrow hown4 hat I9 R9 HCX z0 z1 z2 z3 z4
    go_roundg n
    case measure=>omega
    case rel =>
     have O5:=O4.out
     rw[lst_snoc]at O5
     refine ⟨a,l++[x],css++[hcell ⟨h1,h2,h3,h4,h5⟩ (.slice (some ⟨g,0,none⟩) h2.length h2.length)],rfl,han,by omega,by simp;omega,F4.out,O5,?_,HR2⟩
     show RowI _ _ _ _ _
     rw[HS.out];exact I4.out
  ·have HD:Hid (∀ W,Frm [] w W→Calls Tryz.prog 34 #[.pointer (some ⟨pb,0,none⟩), .int .i64 x,vl] W fun e w'=>e=.returned (.bool (tstM m (lblV L (m.names.getD m.tests[x].n [])) m.tests[x]))∧Frm [] W w'):=fun W f =>
    pholds_any W pb V m (H.out.frm f (by simp)) OK.out x hxt vl L (HL.out.frm f (by simp)) HVAL.out
   have HRUN:=hide hrun
   have FN:Hid (Frm [] w (wr.alloc (Obj.cells #[.int .i64 2, .int .i64 (x:Nat), .int .i64 (a:Nat), .int .i64 (b:Nat)] 91))):=F.out.alloc _
   have ON:=hide (O.out.frm (S:=[]) ((Frm.refl [] _).alloc (Obj.cells #[.int .i64 2, .int .i64 (x:Nat), .int .i64 (a:Nat), .int .i64 (b:Nat)] 91)) (by simp))
   have IN:=hide (HI.out.frm (S:=[]) ((Frm.refl [] _).alloc (Obj.cells #[.int .i64 2, .int .i64 (x:Nat), .int .i64 (a:Nat), .int .i64 (b:Nat)] 91)) (by simp))
   clear hrun htok
   generalize hbt:tstM m (lblV L (m.names.getD m.tests[x].n [])) m.tests[x]=bt at *
   clear hbt
   have N1:=hide (HD.out _ FN.out)
   go_wp2_with fail
   refine (N1.out).mono ?_
   rintro e w2 ⟨rfl,hF2⟩
   have B2:w2.heap[wr.heap.size]?=some (Obj.cells #[.int .i64 2, .int .i64 (x:Nat), .int .i64 (a:Nat), .int .i64 (b:Nat)] 91):=(hF2.block wr.heap.size (by simp) (by simp)).trans (heap1 _ _)
   have d3:w2.cell? ⟨wr.heap.size,3,none⟩=some (.int .i64 (b:Nat)):=by simp[World.cell?,B2]
   have F2:=hide (FN.out.trans hF2)
   have O2:=hide (ON.out.frm hF2 (by simp))
   have I2:=hide (IN.out.frm hF2 (by simp))
   clear N1 hF2 B2 FN ON IN O HI HD
   cases bt
   ·have HR2:Hid (l++runM m (lblV L) n b=runM m (lblV L) m.code.length 0):=by
     show _=_;rw[← HR.out,HRUN.out];rfl
    clear HR HRUN
    go_wp2
    go_roundg n
    case measure=>omega
    case rel=>exact ⟨b,l,css,rfl,hbn,by omega,by omega,F2.out,O2.out,I2,HR2⟩
   ·have HR2:Hid (l++runM m (lblV L) n a=runM m (lblV L) m.code.length 0):=by
     show _=_;rw[← HR.out,HRUN.out];rfl
    clear HR HRUN
    go_wp2
    go_roundg n
    case measure=>omega
    case rel=>exact ⟨a,l,css,rfl,han,by omega,by omega,F2.out,O2.out,I2,HR2⟩
open Go.RowKit
theorem areLabels_any(v:Value)(L:List LBL)(w:World)(h:LR w v L)(hn:∀ x∈L,x.1.length≤1048576∧x.2.length≤1048576)(hcap:∀ a n c,v=.slice a n c→L.length≤c) :
 Calls Tryz.prog 20 #[v] w fun e w'=>e=.returned (.bool (labsOK L))∧Frm [] w w':=by
 have HLR:=hide h
 obtain ⟨a,cap,rfl,h0,h1⟩:=h
 have hc:=hcap a _ cap rfl
 have H1:=hide h1
 have HN:=hide hn
 have hl:=bs_toList
 have hsz:=bs_size
 clear h1 hn hcap
 by_cases hL:12<L.length
 ·have HV:Hid (labsOK L=false):=by show _=_;unfold labsOK;rw[decide_eq_false (by omega)];rfl
  have hd:decide ((12:Int)<(L.length:Int))=true:=decide_eq_true (by omega)
  have hd':decide (12<L.length)=true:=decide_eq_true hL
  go_enter Tryz.func20,Tryz.ntmps20
  go_wp2
  go_ret
  rw[HV.out]
  exact ⟨rfl,Frm.refl _ _⟩
 ·have HO:Hid (labsOK L=labsB [] L):=by show _=_;unfold labsOK;rw[decide_eq_true (by omega)];rfl
  have hd:decide ((12:Int)<(L.length:Int))=false:=decide_eq_false (by omega)
  have hd':decide (12<L.length)=false:=decide_eq_false hL
  go_enter Tryz.func20,Tryz.ntmps20
  go_wp2_with fail
  go_loopg [10] L.length (fun k v10 wr=>∃ j:Nat,j+k=L.length∧v10=.int .i64 j∧Frm [] w wr∧Hid (labsB (L.take j) (L.drop j)=labsOK L))
  case atStart=>exact ⟨0,by omega,rfl,Frm.refl _ _,by show _=_;rw[HO.out];simp⟩
  case round =>
   obtain ⟨j,hjk,rfl,hfr,HF⟩:=hrel
   have F:=hide hfr
   have hzr:=hfr.size
   clear hfr
   by_cases hlt:j<L.length
   ·have hd1:decide ((j:Int)<(L.length:Int))=true:=decide_eq_true (by omega)
    obtain ⟨g,off,rfl,hg,hc1,hc2⟩:=H1.out j hlt
    have hx:=HN.out L[j] (List.getElem_mem hlt)
    have q1:=(F.out.cell (p:=⟨g,off+j*2,none⟩) hg (by simp)).trans hc1
    have q2:=(F.out.cell (p:=⟨g,off+j*2+1,none⟩) hg (by simp)).trans hc2
    have HA:Hid (labsOK L=(isNameL L[j].1&&decide (L[j].2.length≤40)&&!((L.take j).any fun y=>y.1==L[j].1)&&labsB (L.take (j+1)) (L.drop (j+1)))):=by
     show _=_;rw[← HF.out];exact labsB_at L j hlt
    clear HF hc1 hc2
    generalize hLj:L[j]=x at *
    clear hLj
    obtain ⟨nm,vl⟩:=x
    simp only at q1 q2 hx HA
    by_cases hvl:40<vl.length
    ·have hd2:decide ((40:Int)<(vl.length:Int))=true:=decide_eq_true (by omega)
     have hd2':decide (40<vl.length)=true:=decide_eq_true hvl
     have HV:Hid (labsOK L=false):=by show _=_;rw[HA.out,decide_eq_false (by omega)];simp
     go_wp2_with fail
     go_quiet (fail)
     go_wp2
     go_ret
     rw[HV.out]
     exact ⟨rfl,(F.out.alloc _).drewN _⟩
    ·have hd2:decide ((40:Int)<(vl.length:Int))=false:=decide_eq_false (by omega)
     have hd2':decide (40<vl.length)=false:=decide_eq_false hvl
     cases hin:isNameL nm
     ·have HV:Hid (labsOK L=false):=by show _=_;rw[HA.out,hin];rfl
      have NA:Hid (∀ W,Calls Tryz.prog 31 #[.string (bs nm)] W fun e w'=>e=.returned (.bool false)∧w'=W):=fun W=>by have:=IsName_any nm W hx.1;rw[hin]at this;exact this.mono (fun e w' h=>⟨h.1,h.2.symm⟩)
      go_wp2_with fail
      go_quiet ((go_at_call 31;exact Calls.quiet_of_same (NA.out _)))
      go_wp2
      go_ret
      rw[HV.out]
      exact ⟨rfl,(F.out.alloc _).drewN _⟩
     ·have NA:Hid (∀ W,Calls Tryz.prog 31 #[.string (bs nm)] W fun e w'=>e=.returned (.bool true)∧W=w'):=fun W=>by have:=IsName_any nm W hx.1;rw[hin]at this;exact this
      have HA2:Hid (labsOK L=(!((L.take j).any fun y=>y.1==nm)&&labsB (L.take (j+1)) (L.drop (j+1)))):=by
       show _=_;rw[HA.out,hin,decide_eq_true (by omega)];rfl
      have LT:Hid (∀ W,Frm [] w W→Calls Tryz.prog 32 #[.slice (some ⟨g,off,none⟩) j cap, .string (bs nm)] W fun e w'=>e=.returned (.bool ((L.take j).any fun x=>x.1==nm))∧Frm [] W w'):=fun W hW=>isNamed_any _ (L.take j) nm W ((HLR.out.frm hW (by simp)).take j (by omega))
      have hjc:j≤cap:=by omega
      clear HA
      have FN:Hid (Frm [] w (wr.alloc (Obj.cells #[.string (bs nm), .string (bs vl)] 28)).drew):=(F.out.alloc _).drew
      cases han:((L.take j).any fun x=>x.1==nm)
      ·rw[han]at LT
       have HF2:Hid (labsB (L.take (j+1)) (L.drop (j+1))=labsOK L):=by show _=_;rw[HA2.out,han];rfl
       go_wp2_with fail
       go_region_with (first | (go_at_call 31;refine (NA.out _).mono ?_;rintro e w' ⟨rfl,rfl⟩)|(go_at_call 32;refine (LT.out _ FN.out).mono ?_;rintro e w' ⟨rfl,hF'⟩))
       all_goals
        have F2:=hide (FN.out.trans hF')
        clear hF'
        go_wp2
        go_roundg (gk-1)
        case measure=>omega
        case rel=>exact ⟨j+1,by omega,by go_num,F2.out,HF2⟩
      ·rw[han]at LT
       have HV:Hid (labsOK L=false):=by show _=_;rw[HA2.out,han];rfl
       go_wp2_with fail
       go_region_with (first | (go_at_call 31;refine (NA.out _).mono ?_;rintro e w' ⟨rfl,rfl⟩)|(go_at_call 32;refine (LT.out _ FN.out).mono ?_;rintro e w' ⟨rfl,hF'⟩))
       all_goals
        have F2:=hide (FN.out.trans hF')
        clear hF'
        go_wp2
        go_ret
        rw[HV.out]
        exact ⟨rfl,F2.out⟩
   ·have hd1:decide ((j:Int)<(L.length:Int))=false:=decide_eq_false (by omega)
    have HV:Hid (labsOK L=true):=by
     show _=_
     rw[← HF.out,List.drop_eq_nil_of_le (by omega)];rfl
    clear HF
    go_wp2
    go_ret
    rw[HV.out]
    exact ⟨rfl,F.out⟩
open Go.RowKit
def LV(L:List LBL):Prop:=∀ x∈L,x.1.length≤1048576∧x.2.length≤1048576
theorem LV.val{L:List LBL}(h:LV L)(n:List UInt8):(lblV L n).length≤1048576:=by
 unfold lblV
 cases hf:L.find? fun x=>x.1==n with
 | none=>simp
 | some x=>exact (h x (List.mem_of_find?_eq_some hf)).2
def RouteQ(A:List Nat)(m:Mach)(L:List LBL)(w:World)(e:Ending)(w':World):Prop :=
 ∃ v css,Frm [] w w'∧((labsOK L=false∧e=.returned (.tuple #[.slice none 0 0, .int .i64 8]))∨(labsOK L=true∧e=.returned (.tuple #[v, .int .i64 0])∧OW 70 5 w.heap.size w' v (lst css)∧RowI hitT A w' css (hitsM m (runM m (lblV L) m.code.length 0))))
theorem aRouteA_any(A:List Nat)(w:World)(hA:∀ g∈A,g<w.heap.size)(pb:Nat)(V:V6)(m:Mach)(h:PR [] w pb V m)(ok:MOK m)(a:Option Addr)(k cap:Nat)(L:List LBL)(hL:LR w (.slice a k cap) L)(hv:LV L)(hcap:L.length≤cap) :
 Calls Tryz.prog 13 #[.pointer (some ⟨pb,0,none⟩), .slice a k cap] w (RouteQ A m L w):=by
 have N1:=hide (areLabels_any (.slice a k cap) L w hL hv (fun a' n' c' e=>by cases e;exact hcap))
 have H:=hide h
 have HA:=hide hA
 have OK:=hide ok
 have HL:=hide hL
 have HV:=hide hv
 clear h ok hL hv hcap hA
 go_enter Tryz.func13,Tryz.ntmps13
 go_wp2_with fail
 refine (N1.out).mono ?_
 clear N1
 rintro e w1 ⟨rfl,hF1⟩
 have F1:=hide hF1
 have N2:=hide (pRun_any A w1 (fun g hg=>Nat.lt_of_lt_of_le (HA.out g hg) hF1.size) pb V m (H.out.frm hF1 (by simp)) OK.out (.slice a k cap) L (HL.out.frm hF1 (by simp)) HV.out.val)
 have hz1:=hF1.size
 clear hF1
 cases hl:labsOK L
 ·have HLB:=hide hl
  clear hl
  go_wp2
  go_ret2
  exact ⟨.slice none 0 0,[],F1.out, .inl ⟨HLB.out,rfl⟩⟩
 ·have HLB:=hide hl
  clear hl
  go_wp2_with fail
  refine (N2.out).mono ?_
  clear N2
  rintro e w2 ⟨v,css,rfl,hF2,hO,hI⟩
  obtain ⟨ao,co,he⟩:=hO.shape
  rw[lst_len]at he
  subst he
  have F2:=hide (F1.out.trans hF2)
  have O:=hide hO
  have I:=hide hI
  clear hF2 hO hI
  go_wp2
  go_ret2
  exact ⟨_,css,F2.out, .inr ⟨HLB.out,rfl,⟨⟨O.out.1.1,O.out.1.2.imp id (fun ⟨g,c,cu,h1,h2,h3⟩=>⟨g,c,cu,h1,by omega,h3⟩)⟩,O.out.2⟩,I.out⟩⟩
theorem aRoute_any(w:World)(pb:Nat)(V:V6)(m:Mach)(h:PR [] w pb V m)(ok:MOK m)(a:Option Addr)(k cap:Nat)(L:List LBL)(hL:LR w (.slice a k cap) L)(hv:LV L)(hcap:L.length≤cap) :
 Calls Tryz.prog 13 #[.pointer (some ⟨pb,0,none⟩), .slice a k cap] w (RouteQ [] m L w):=aRouteA_any [] w (by simp) pb V m h ok a k cap L hL hv hcap
open Go.RowKit
structure HR(w:World)(g o:Nat)(x:HitM)(vb:Value):Prop where
 lt:g<w.heap.size
 c0:w.cell? ⟨g,o,none⟩=some (.string (bs x.rc))
 c1:w.cell? ⟨g,o+1,none⟩=some vb
 c2:w.cell? ⟨g,o+2,none⟩=some (.int .i64 (x.wt:Nat))
 c3:w.cell? ⟨g,o+3,none⟩=some (.int .i64 (x.ev:Nat))
 c4:w.cell? ⟨g,o+4,none⟩=some (.int .i64 (x.rp:Nat))
 r:RW [] 1 w vb (sc x.bl)
theorem HR.drewN{w:World}{g o:Nat}{x:HitM}{vb:Value}(h:HR w g o x vb)(n:Nat):HR (w.drewN n) g o x vb:=⟨h.lt,h.c0,h.c1,h.c2,h.c3,h.c4,h.r.frm (S:=[]) ((Frm.refl [] w).drewN n) (by simp)⟩
theorem HR.frm{w w':World}{g o:Nat}{x:HitM}{vb:Value}(h:HR w g o x vb)(f:Frm [] w w'):HR w' g o x vb :=
 ⟨Nat.lt_of_lt_of_le h.lt f.size,f.at (p:=⟨g,o,none⟩) h.lt h.c0,f.at (p:=⟨g,o+1,none⟩) h.lt h.c1,f.at (p:=⟨g,o+2,none⟩) h.lt h.c2,f.at (p:=⟨g,o+3,none⟩) h.lt h.c3,f.at (p:=⟨g,o+4,none⟩) h.lt h.c4,h.r.frm f (by simp)⟩
def HRS(w:World)(v:Value)(hs:List HitM):Prop :=
 ∃ a cap,v=.slice a hs.length cap∧hs.length≤cap∧∀ j (h:j<hs.length),∃ g o vb,a=some ⟨g,o,none⟩∧HR w g (o+j*5) hs[j] vb
theorem HRS.frm{w w':World}{v:Value}{hs:List HitM}(h:HRS w v hs)(f:Frm [] w w'):HRS w' v hs:=by
 obtain ⟨a,cap,e,hc,h⟩:=h
 refine ⟨a,cap,e,hc,fun j hj=>?_⟩
 obtain ⟨g,o,vb,e1,h1⟩:=h j hj
 exact ⟨g,o,vb,e1,h1.frm f⟩
theorem HRS.nil(w:World):HRS w (.slice none 0 0) []:=⟨none,0,rfl,Nat.le_refl _,fun j h=>absurd h (by simp)⟩
theorem hrs_of{base:Nat}{w:World}{v:Value}{css:List (Array Value)}{hs:List HitM}(hO:OW 70 5 base w v (lst css))(hI:RowI hitT [] w css hs):HRS w v hs:=by
 have hl:=hI.1
 have hR:=hO.rw (A:=[]) (by simp)
 have hR2:=hR
 obtain ⟨a2,cap2,e2,hc2,_⟩:=hR2
 obtain ⟨a,cap,e,h⟩:=row_at hR hI
 rw[e2]at e
 simp only[Value.slice.injEq]at e
 obtain ⟨rfl,_,rfl⟩:=e
 refine ⟨a2,cap2,by rw[e2,lst_len,hl],by rw[lst_len,hl]at hc2;exact hc2,fun j hj=>?_⟩
 obtain ⟨g,o,cs,rfl,hg,_,⟨gb,rfl,hb⟩,hcell⟩:=h j hj
 exact ⟨g,o,_,rfl,hg,hcell 0 _ rfl,hcell 1 _ rfl,hcell 2 _ rfl,hcell 3 _ rfl,hcell 4 _ rfl,hb⟩
open Go.RowKit
def hitsA(m:Mach)(L:List LBL):List HitM:=hitsM m (runM m (lblV L) m.code.length 0)
def ROQ(m:Mach)(L:List LBL)(w:World)(e:Ending)(w':World):Prop :=
 Frm [] w w'∧((labsOK L=false∧e=.returned (.tuple #[.slice none 0 0, .int .i64 8]))∨(labsOK L=true∧∃ v,e=.returned (.tuple #[v, .int .i64 0])∧HRS w' v (hitsA m L)))
theorem route_any(w:World)(pb:Nat)(V:V6)(m:Mach)(h:PR [] w pb V m)(ok:MOK m)(a:Option Addr)(k cap:Nat)(L:List LBL)(hL:LR w (.slice a k cap) L)(hv:LV L)(hcap:L.length≤cap) :
 Calls Tryz.prog 13 #[.pointer (some ⟨pb,0,none⟩), .slice a k cap] w (ROQ m L w):=by
 refine (aRoute_any w pb V m h ok a k cap L hL hv hcap).mono ?_
 rintro e w' ⟨v,css,hF,⟨h1,rfl⟩|⟨h1,rfl,hO,hI⟩⟩
 ·exact ⟨hF, .inl ⟨h1,rfl⟩⟩
 ·exact ⟨hF, .inr ⟨h1,v,rfl,hrs_of hO hI⟩⟩
end Go.Proofs.YtjkialjoamgbgaaGreat
