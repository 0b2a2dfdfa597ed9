import Derived.Test.YtpcbbbilmpobaaaGreatDoorJ46
import Derived.Test.YtpcbbbilmpobaaaGreatDoorJ11
import Derived.Test.YtpcbbbilmpobaaaGreatDoorJ10
import Derived.Test.YtpcbbbilmpobaaaGreatDoorJ44
import Derived.Test.YtpcbbbilmpobaaaGreatDoorJ45
set_option linter.unusedVariables false
set_option linter.unusedSimpArgs false
set_option linter.unnecessarySimpa false
set_option maxRecDepth 100000
set_option maxHeartbeats 8000000
namespace Go.Proofs.YtpcbbbilmpobaaaGreatDoor
open Go.RowKit
theorem matT_len(m:CM)(h:GoodM m):(matT m).length≤172:=by
 have h1:=isNameL_len h.name;have h2:=kindT_len m.2.1;have h3:=quoteV_len m.2.2;have h4:=h.val;unfold matT;simp only[List.length_append];omega
theorem ifsT_len:∀ (M:List CM),(∀ m∈M,GoodM m)→(ifsT M).length≤176*M.length
 | [],_=>by simp[ifsT]
 | m::M,h=>by
   have h1:=ifsT_len M (fun x hx=>h x (by simp[hx]));have h2:=matT_len m (h m (by simp));have h3:kIf.length=4:=rfl;unfold ifsT at h1 ⊢;simp only[List.flatMap_cons,List.length_append,List.length_cons]at h1 ⊢;omega
theorem timeT_len(wd:List UInt8)(n:Int)(hw:wd.length≤10)(h0:-1≤n)(h1:n≤99999):(timeT wd n).length≤15:=by
 unfold timeT;split
 ·simp
 ·have:=itoa_len n (by omega) h1;simp;omega
theorem ML.cell{base:Nat}{w:World}{M:List CM}{g n cap:Nat}(h:ML base w (.slice (some ⟨g,0,none⟩) n cap) M){j:Nat}{m:CM}(hj:M[j]?=some m)(k:Nat)(hk:k<3):w.cell? ⟨g,j*3+k,none⟩=(mcells m)[k]?:=by
 have h1:=flat_get mcells 3 (fun a=>rfl) M j k m hj hk;have h3:=World.ownsRow.cells h (g:=g) rfl (j*3+k);have hlt:k<(mcells m).length:=hk;rw[List.getElem?_eq_getElem hlt]at h1 ⊢;have:=h3 _ h1;rw[add0]at this;exact this
theorem printRoute_any(base:Nat)(rv:RV)(c:CR)(w:World)(ht:Tab w)(hr:CRep base w rv c)(hg:GoodCR c) :
 Calls Tryz.prog 39 #[.agg rv.cells] w fun e w'=>e=.returned (.string (bs (rtT c)))∧Frm [] w w':=by
 obtain ⟨d,rc,tb,vby,wt,ev,rp,vif,co⟩:=rv;obtain ⟨r1,r2,r3,r4,r5,r6,r7,r8,r9⟩:=hr;simp only at r1 r2 r3 r4 r5 r6 r7 r8 r9;subst r1 r2 r3 r5 r6 r7 r9;obtain ⟨ab,cb,rfl⟩:=r4.shape;obtain ⟨ai,ci,rfl⟩:=own_shape r8;have HT:Hid (Tab w):=ht;have HS:Hid (RS 0 w (.slice ab c.bys.length cb) c.bys):=(r4.rs (by have:=hg.byl;omega)).base (Nat.zero_le _);have HM:Hid (ML base w (.slice ai c.ifs.length ci) c.ifs):=r8;have HG:Hid (GoodCR c):=hg;have hd:=hg.d;have hrl:c.rc.length≤8:=by
  rcases hg.rc with h|h
  ·rw[h];simp
  ·exact isNameL_len h
 have hil:=hg.ifl;have Hx:Hid (rtT c=List.replicate c.d 32++(kRoute++c.rc)++byT c++timeT kWait c.wt++timeT kEvery c.ev++timeT kRepeat c.rp++ifsT c.ifs++(if c.co then kCont else [])):=rfl;clear r4 r8 hg ht;have hsz:=bs_size;have hap:=bs_append;have hnew:=heap1 w (Obj.cells #[.int .i64 c.d, .string (bs c.rc), .bool c.tb, .slice ab c.bys.length cb, .int .i64 c.wt, .int .i64 c.ev, .int .i64 c.rp, .slice ai c.ifs.length ci, .bool c.co] 78);have HN:Hid (RT (w.alloc (Obj.cells #[.int .i64 c.d, .string (bs c.rc), .bool c.tb, .slice ab c.bys.length cb, .int .i64 c.wt, .int .i64 c.ev, .int .i64 c.rp, .slice ai c.ifs.length ci, .bool c.co] 78)) w.heap.size ⟨c.d,c.rc,c.tb, .slice ab c.bys.length cb,c.wt,c.ev,c.rp, .slice ai c.ifs.length ci,c.co⟩):=hnew;clear hnew;show Calls Tryz.prog 39 #[.agg #[.int .i64 c.d, .string (bs c.rc), .bool c.tb, .slice ab c.bys.length cb, .int .i64 c.wt, .int .i64 c.ev, .int .i64 c.rp, .slice ai c.ifs.length ci, .bool c.co]] w _;have k32:({ data:=#[32] }:ByteArray)=bs [32]:=rfl;go_enter Tryz.func39,Tryz.ntmps39
 go_wp2_with fail
 go_loopg [3,4] c.d (fun k vt vi wr=>∃ j,j+k=c.d∧vi=.int .i64 j∧vt=.string (bs (List.replicate j 32))∧wr=w.alloc (Obj.cells #[.int .i64 c.d, .string (bs c.rc), .bool c.tb, .slice ab c.bys.length cb, .int .i64 c.wt, .int .i64 c.ev, .int .i64 c.rp, .slice ai c.ifs.length ci, .bool c.co] 78))
 case atStart=>exact ⟨0,by omega,rfl,rfl,rfl⟩
 case round =>
 obtain ⟨j,hj,rfl,rfl,rfl⟩:=hrel;have hrl2:(List.replicate j (32:UInt8)).length=j:=by simp
 by_cases hlt:j<c.d
 ·have Hs:Hid (List.replicate (j+1) (32:UInt8)=List.replicate j 32++[32]):=List.replicate_succ'
  generalize List.replicate j (32:UInt8)=tx at *;have hlx:tx.length≤1048576:=by omega
  clear hrl2;go_wp2;go_roundg (gk-1)
  case measure=>omega
  case rel =>
   refine ⟨j+1,by omega,by go_num,?_,rfl⟩;rw[Hs.out]
 ·have hjd:j=c.d:=by omega
  subst hjd;clear hj hlt;generalize hw0:w.alloc (Obj.cells #[.int .i64 c.d, .string (bs c.rc), .bool c.tb, .slice ab c.bys.length cb, .int .i64 c.wt, .int .i64 c.ev, .int .i64 c.rp, .slice ai c.ifs.length ci, .bool c.co] 78)=w0 at *;have F0:Hid (Frm [] w w0):=by rw[← hw0];exact (Frm.refl _ _).alloc _
  clear hw0;have q0:w0.cell? ⟨w.heap.size,0,none⟩=some (.int .i64 c.d):=HN.out.cell 0;have q1:w0.cell? ⟨w.heap.size,1,none⟩=some (.string (bs c.rc)):=HN.out.cell 1;have q2:w0.cell? ⟨w.heap.size,2,none⟩=some (.bool c.tb):=HN.out.cell 2;have q3:w0.cell? ⟨w.heap.size,3,none⟩=some (.slice ab c.bys.length cb):=HN.out.cell 3;have q4:w0.cell? ⟨w.heap.size,4,none⟩=some (.int .i64 c.wt):=HN.out.cell 4;have q5:w0.cell? ⟨w.heap.size,5,none⟩=some (.int .i64 c.ev):=HN.out.cell 5;have q6:w0.cell? ⟨w.heap.size,6,none⟩=some (.int .i64 c.rp):=HN.out.cell 6;have q7:w0.cell? ⟨w.heap.size,7,none⟩=some (.slice ai c.ifs.length ci):=HN.out.cell 7;have q8:w0.cell? ⟨w.heap.size,8,none⟩=some (.bool c.co):=HN.out.cell 8;have kr:({ data:=#[114,111,117,116,101,32] }:ByteArray)=bs kRoute:=rfl;have kb:({ data:=#[32,98,121,32] }:ByteArray)=bs kBy:=rfl;have krl:kRoute.length=6:=rfl;have kbl:kBy.length=4:=rfl;have Hbl:Hid (byT c=if c.tb then kBy++labT c.bys else []):=rfl;have hby:(labT c.bys).length≤36:=by
   unfold labT;split
   ·simp
   ·have:=labJ_len c.bys (fun x hx=>isNameL_len (HG.out.bys x hx));have:=HG.out.byl;omega
  generalize hx0:List.replicate c.d (32:UInt8)=x0 at *;have hl0:x0.length≤1048576:=by omega
  clear hx0 hrl2;generalize kRoute=KR at *;generalize kBy=KB at *;have mid:∃ x1:List UInt8,x1=x0++(KR++c.rc)++byT c:=⟨_,rfl⟩;obtain ⟨x1,hx1⟩:=mid;have HX1:=hide hx1;have hl1:x1.length≤1048576+60:=by
   rw[hx1,Hbl.out];split<;>simp<;>omega
  clear hx1;have hcut:c.tb=true∨c.tb=false:=by cases c.tb<;>simp
  have N0:=HN;clear HN;rcases hcut with htb|htb
  ·have Hn:Hid (x0++(KR++(c.rc++(KB++labT c.bys)))=x1):=by
    show _=_;rw[HX1.out,Hbl.out,htb];simp
   go_wp2_with fail
   refine (printLabels_any _ c.bys w0 (HS.out.frm F0.out (by simp)) HG.out.byl (fun x hx=>isNameL_len (HG.out.bys x hx))).mono ?_;rintro e w' ⟨rfl,rfl⟩;generalize labT c.bys=lb at *;go_wp2_with fail
   rw[Hn.out];clear q0 q1 q2 q3 htb kb kr;refine (printTime_any kWait c.wt w0 (HT.out.frm F0.out (by simp)) HG.out.wt.1 HG.out.wt.2 (by decide)).mono ?_;rintro e w1 ⟨rfl,hf⟩;have F1:Hid (Frm [] w w1):=F0.out.trans hf;have N1:Hid (RT w1 w.heap.size ⟨c.d,c.rc,c.tb, .slice ab c.bys.length cb,c.wt,c.ev,c.rp, .slice ai c.ifs.length ci,c.co⟩):=N0.out.frm hf (by simp);clear hf q4 q5 q6 q7 q8;have q5:w1.cell? ⟨w.heap.size,5,none⟩=some (.int .i64 c.ev):=N1.out.cell 5;have q6:w1.cell? ⟨w.heap.size,6,none⟩=some (.int .i64 c.rp):=N1.out.cell 6;have q7:w1.cell? ⟨w.heap.size,7,none⟩=some (.slice ai c.ifs.length ci):=N1.out.cell 7;have q8:w1.cell? ⟨w.heap.size,8,none⟩=some (.bool c.co):=N1.out.cell 8;have tlwt:=timeT_len kWait c.wt (by decide) HG.out.wt.1 HG.out.wt.2;have HTwt:Hid (∃ t,t=timeT kWait c.wt):=⟨_,rfl⟩;generalize htwt:timeT kWait c.wt=twt at *;have KTwt:=hide htwt;clear htwt;obtain ⟨x2,hx2⟩:∃ y,y=x1++twt:=⟨_,rfl⟩;have HX2:=hide hx2;have hl2:x2.length≤1048576+75:=by rw[hx2];simp;omega
   have x2r:=hx2.symm;clear hx2;go_wp2_with fail
   refine (printTime_any kEvery c.ev w1 (HT.out.frm F1.out (by simp)) HG.out.ev.1 HG.out.ev.2 (by decide)).mono ?_;rintro e w2 ⟨rfl,hf⟩;have F2:Hid (Frm [] w w2):=F1.out.trans hf;have N2:Hid (RT w2 w.heap.size ⟨c.d,c.rc,c.tb, .slice ab c.bys.length cb,c.wt,c.ev,c.rp, .slice ai c.ifs.length ci,c.co⟩):=N1.out.frm hf (by simp);clear hf x2r q5 q6 q7 q8;have q5:w2.cell? ⟨w.heap.size,5,none⟩=some (.int .i64 c.ev):=N2.out.cell 5;have q6:w2.cell? ⟨w.heap.size,6,none⟩=some (.int .i64 c.rp):=N2.out.cell 6;have q7:w2.cell? ⟨w.heap.size,7,none⟩=some (.slice ai c.ifs.length ci):=N2.out.cell 7;have q8:w2.cell? ⟨w.heap.size,8,none⟩=some (.bool c.co):=N2.out.cell 8;have tlev:=timeT_len kEvery c.ev (by decide) HG.out.ev.1 HG.out.ev.2;have HTev:Hid (∃ t,t=timeT kEvery c.ev):=⟨_,rfl⟩;generalize htev:timeT kEvery c.ev=tev at *;have KTev:=hide htev;clear htev;obtain ⟨x3,hx3⟩:∃ y,y=x2++tev:=⟨_,rfl⟩;have HX3:=hide hx3;have hl3:x3.length≤1048576+90:=by rw[hx3];simp;omega
   have x3r:=hx3.symm;clear hx3;go_wp2_with fail
   refine (printTime_any kRepeat c.rp w2 (HT.out.frm F2.out (by simp)) HG.out.rp.1 HG.out.rp.2 (by decide)).mono ?_;rintro e w3 ⟨rfl,hf⟩;have F3:Hid (Frm [] w w3):=F2.out.trans hf;have N3:Hid (RT w3 w.heap.size ⟨c.d,c.rc,c.tb, .slice ab c.bys.length cb,c.wt,c.ev,c.rp, .slice ai c.ifs.length ci,c.co⟩):=N2.out.frm hf (by simp);clear hf x3r q5 q6 q7 q8;have q5:w3.cell? ⟨w.heap.size,5,none⟩=some (.int .i64 c.ev):=N3.out.cell 5;have q6:w3.cell? ⟨w.heap.size,6,none⟩=some (.int .i64 c.rp):=N3.out.cell 6;have q7:w3.cell? ⟨w.heap.size,7,none⟩=some (.slice ai c.ifs.length ci):=N3.out.cell 7;have q8:w3.cell? ⟨w.heap.size,8,none⟩=some (.bool c.co):=N3.out.cell 8;have tlrp:=timeT_len kRepeat c.rp (by decide) HG.out.rp.1 HG.out.rp.2;have HTrp:Hid (∃ t,t=timeT kRepeat c.rp):=⟨_,rfl⟩;generalize htrp:timeT kRepeat c.rp=trp at *;have KTrp:=hide htrp;clear htrp;obtain ⟨x4,hx4⟩:∃ y,y=x3++trp:=⟨_,rfl⟩;have HX4:=hide hx4;have hl4:x4.length≤1048576+105:=by rw[hx4];simp;omega
   have x4r:=hx4.symm;clear hx4;have HM3:Hid (ML base w3 (.slice ai c.ifs.length ci) c.ifs):=HM.out.frm F3.out (by simp);clear q5 q6;go_wp2_with fail
   go_loopg [3,46] c.ifs.length (fun k vt vi wr=>∃ (j:Nat),j+k=c.ifs.length∧vi=.int .i64 j∧vt=.string (bs (x4++ifsT (c.ifs.take j)))∧Frm [] w3 wr)
   case atStart=>exact ⟨0,by omega,rfl,by simp[ifsT],Frm.refl _ _⟩
   case round =>
   clear x4r q7 q8;obtain ⟨j,hj,rfl,rfl,hfr⟩:=hrel;have KF:=hide hfr;clear hfr
   by_cases hlt:j<c.ifs.length
   ·have hjM:c.ifs[j]?=some c.ifs[j]:=List.getElem?_eq_getElem hlt
    have hgm:=HG.out.ifs _ (List.getElem_mem hlt);have Ht:Hid (c.ifs.take (j+1)=c.ifs.take j++[c.ifs[j]]):=List.take_succ_eq_append_getElem hlt;have hm1:ML base wr (.slice ai c.ifs.length ci) c.ifs:=HM3.out.frm KF.out (by simp);obtain ⟨g,hga⟩:∃ g,ai=some ⟨g,0,none⟩:=by
     rcases hm1.2 with ⟨e,h⟩|⟨g,c,cur,e,_⟩
     ·omega
     ·simp at e;exact ⟨g,e.1⟩
    subst hga;have hcell:=fun k hk=>hm1.cell hjM k hk
    have hxl:(ifsT (c.ifs.take j)).length≤176*4:=by
     have:=ifsT_len (c.ifs.take j) (fun m hm=>HG.out.ifs m (List.mem_of_mem_take hm));simp at this;omega
    have Hi:Hid (ifsT (c.ifs.take (j+1))=ifsT (c.ifs.take j)++(kIf++matT c.ifs[j])):=by
     show _=_;unfold ifsT;rw[Ht.out,List.flatMap_append];simp only[List.flatMap_cons,List.flatMap_nil,List.append_nil]
    have hml:=matT_len _ hgm;generalize c.ifs[j]=m at *;obtain ⟨mn,mk,mv'⟩:=m;have p0:wr.cell? ⟨g,j*3,none⟩=some (.string (bs mn)):=hcell 0 (by omega);have p1:wr.cell? ⟨g,j*3+1,none⟩=some (.int .i64 mk):=hcell 1 (by omega);have p2:wr.cell? ⟨g,j*3+2,none⟩=some (.string (bs mv')):=hcell 2 (by omega);clear hcell hm1 hjM;generalize ifsT (c.ifs.take j)=it at *;have ki:({ data:=#[32,105,102,32] }:ByteArray)=bs kIf:=rfl;have kil:kIf.length=4:=rfl;generalize kIf=KI at *;go_wp2_with fail
    refine (printMatcher_any (mn,mk,mv') _ hgm).mono ?_;rintro e w4 ⟨rfl,hf⟩;have KF4:Hid (Frm [] w3 w4):=(KF.out.alloc _).trans hf;clear hf;generalize matT (mn,mk,mv')=mt at *;obtain ⟨y,hy⟩:∃ y,y=x4++it:=⟨_,rfl⟩;go_wp2;go_roundg (gk-1)
    case measure=>omega
    case rel =>
     refine ⟨j+1,by omega,by go_num,?_,KF4.out⟩;rw[Hi.out]
   ·have Ht:Hid (c.ifs.take j=c.ifs):=List.take_of_length_le (by omega)
    rw[Ht.out];have hr3:=N3.out.frm KF.out (by simp);have q8:wr.cell? ⟨w.heap.size,8,none⟩=some (.bool c.co):=hr3.cell 8;clear hr3;have hxl:(ifsT c.ifs).length≤176*4:=by
     have:=ifsT_len c.ifs HG.out.ifs;omega
    have kc:({ data:=#[32,99,111,110,116,105,110,117,101] }:ByteArray)=bs kCont:=rfl;have kcl:kCont.length=9:=rfl;have Hfin:Hid (∀ z,rtT c=z++(if c.co then kCont else [])∨True):=fun _=>Or.inr trivial
    have HF:Hid (rtT c=x4++(ifsT c.ifs++(if c.co then kCont else []))):=by
     show _=_;rw[Hx.out,HX4.out,HX3.out,HX2.out,HX1.out];simp only[List.append_assoc]
    generalize ifsT c.ifs=it at *;generalize kCont=KC at *;cases hco:c.co
    ·rw[hco]at HF
     go_wp2;go_ret;rw[HF.out];exact ⟨ret_str (by simp),F3.out.trans KF.out⟩
    ·rw[hco]at HF
     go_wp2;go_ret;rw[HF.out];exact ⟨ret_str (by simp),F3.out.trans KF.out⟩
  ·have Hn:Hid (x0++(KR++c.rc)=x1):=by
    show _=_;rw[HX1.out,Hbl.out,htb];simp
   go_wp2_with fail
   rw[Hn.out];clear q0 q1 q2 q3 htb kb kr;refine (printTime_any kWait c.wt w0 (HT.out.frm F0.out (by simp)) HG.out.wt.1 HG.out.wt.2 (by decide)).mono ?_;rintro e w1 ⟨rfl,hf⟩;have F1:Hid (Frm [] w w1):=F0.out.trans hf;have N1:Hid (RT w1 w.heap.size ⟨c.d,c.rc,c.tb, .slice ab c.bys.length cb,c.wt,c.ev,c.rp, .slice ai c.ifs.length ci,c.co⟩):=N0.out.frm hf (by simp);clear hf q4 q5 q6 q7 q8;have q5:w1.cell? ⟨w.heap.size,5,none⟩=some (.int .i64 c.ev):=N1.out.cell 5;have q6:w1.cell? ⟨w.heap.size,6,none⟩=some (.int .i64 c.rp):=N1.out.cell 6;have q7:w1.cell? ⟨w.heap.size,7,none⟩=some (.slice ai c.ifs.length ci):=N1.out.cell 7;have q8:w1.cell? ⟨w.heap.size,8,none⟩=some (.bool c.co):=N1.out.cell 8;have tlwt:=timeT_len kWait c.wt (by decide) HG.out.wt.1 HG.out.wt.2;have HTwt:Hid (∃ t,t=timeT kWait c.wt):=⟨_,rfl⟩;generalize htwt:timeT kWait c.wt=twt at *;have KTwt:=hide htwt;clear htwt;obtain ⟨x2,hx2⟩:∃ y,y=x1++twt:=⟨_,rfl⟩;have HX2:=hide hx2;have hl2:x2.length≤1048576+75:=by rw[hx2];simp;omega
   have x2r:=hx2.symm;clear hx2;go_wp2_with fail
   refine (printTime_any kEvery c.ev w1 (HT.out.frm F1.out (by simp)) HG.out.ev.1 HG.out.ev.2 (by decide)).mono ?_;rintro e w2 ⟨rfl,hf⟩;have F2:Hid (Frm [] w w2):=F1.out.trans hf;have N2:Hid (RT w2 w.heap.size ⟨c.d,c.rc,c.tb, .slice ab c.bys.length cb,c.wt,c.ev,c.rp, .slice ai c.ifs.length ci,c.co⟩):=N1.out.frm hf (by simp);clear hf x2r q5 q6 q7 q8;have q5:w2.cell? ⟨w.heap.size,5,none⟩=some (.int .i64 c.ev):=N2.out.cell 5;have q6:w2.cell? ⟨w.heap.size,6,none⟩=some (.int .i64 c.rp):=N2.out.cell 6;have q7:w2.cell? ⟨w.heap.size,7,none⟩=some (.slice ai c.ifs.length ci):=N2.out.cell 7;have q8:w2.cell? ⟨w.heap.size,8,none⟩=some (.bool c.co):=N2.out.cell 8;have tlev:=timeT_len kEvery c.ev (by decide) HG.out.ev.1 HG.out.ev.2;have HTev:Hid (∃ t,t=timeT kEvery c.ev):=⟨_,rfl⟩;generalize htev:timeT kEvery c.ev=tev at *;have KTev:=hide htev;clear htev;obtain ⟨x3,hx3⟩:∃ y,y=x2++tev:=⟨_,rfl⟩;have HX3:=hide hx3;have hl3:x3.length≤1048576+90:=by rw[hx3];simp;omega
   have x3r:=hx3.symm;clear hx3;go_wp2_with fail
   refine (printTime_any kRepeat c.rp w2 (HT.out.frm F2.out (by simp)) HG.out.rp.1 HG.out.rp.2 (by decide)).mono ?_;rintro e w3 ⟨rfl,hf⟩;have F3:Hid (Frm [] w w3):=F2.out.trans hf;have N3:Hid (RT w3 w.heap.size ⟨c.d,c.rc,c.tb, .slice ab c.bys.length cb,c.wt,c.ev,c.rp, .slice ai c.ifs.length ci,c.co⟩):=N2.out.frm hf (by simp);clear hf x3r q5 q6 q7 q8;have q5:w3.cell? ⟨w.heap.size,5,none⟩=some (.int .i64 c.ev):=N3.out.cell 5;have q6:w3.cell? ⟨w.heap.size,6,none⟩=some (.int .i64 c.rp):=N3.out.cell 6;have q7:w3.cell? ⟨w.heap.size,7,none⟩=some (.slice ai c.ifs.length ci):=N3.out.cell 7;have q8:w3.cell? ⟨w.heap.size,8,none⟩=some (.bool c.co):=N3.out.cell 8;have tlrp:=timeT_len kRepeat c.rp (by decide) HG.out.rp.1 HG.out.rp.2;have HTrp:Hid (∃ t,t=timeT kRepeat c.rp):=⟨_,rfl⟩;generalize htrp:timeT kRepeat c.rp=trp at *;have KTrp:=hide htrp;clear htrp;obtain ⟨x4,hx4⟩:∃ y,y=x3++trp:=⟨_,rfl⟩;have HX4:=hide hx4;have hl4:x4.length≤1048576+105:=by rw[hx4];simp;omega
   have x4r:=hx4.symm;clear hx4;have HM3:Hid (ML base w3 (.slice ai c.ifs.length ci) c.ifs):=HM.out.frm F3.out (by simp);clear q5 q6;go_wp2_with fail
   go_loopg [3,46] c.ifs.length (fun k vt vi wr=>∃ (j:Nat),j+k=c.ifs.length∧vi=.int .i64 j∧vt=.string (bs (x4++ifsT (c.ifs.take j)))∧Frm [] w3 wr)
   case atStart=>exact ⟨0,by omega,rfl,by simp[ifsT],Frm.refl _ _⟩
   case round =>
   clear x4r q7 q8;obtain ⟨j,hj,rfl,rfl,hfr⟩:=hrel;have KF:=hide hfr;clear hfr
   by_cases hlt:j<c.ifs.length
   ·have hjM:c.ifs[j]?=some c.ifs[j]:=List.getElem?_eq_getElem hlt
    have hgm:=HG.out.ifs _ (List.getElem_mem hlt);have Ht:Hid (c.ifs.take (j+1)=c.ifs.take j++[c.ifs[j]]):=List.take_succ_eq_append_getElem hlt;have hm1:ML base wr (.slice ai c.ifs.length ci) c.ifs:=HM3.out.frm KF.out (by simp);obtain ⟨g,hga⟩:∃ g,ai=some ⟨g,0,none⟩:=by
     rcases hm1.2 with ⟨e,h⟩|⟨g,c,cur,e,_⟩
     ·omega
     ·simp at e;exact ⟨g,e.1⟩
    subst hga;have hcell:=fun k hk=>hm1.cell hjM k hk
    have hxl:(ifsT (c.ifs.take j)).length≤176*4:=by
     have:=ifsT_len (c.ifs.take j) (fun m hm=>HG.out.ifs m (List.mem_of_mem_take hm));simp at this;omega
    have Hi:Hid (ifsT (c.ifs.take (j+1))=ifsT (c.ifs.take j)++(kIf++matT c.ifs[j])):=by
     show _=_;unfold ifsT;rw[Ht.out,List.flatMap_append];simp only[List.flatMap_cons,List.flatMap_nil,List.append_nil]
    have hml:=matT_len _ hgm;generalize c.ifs[j]=m at *;obtain ⟨mn,mk,mv'⟩:=m;have p0:wr.cell? ⟨g,j*3,none⟩=some (.string (bs mn)):=hcell 0 (by omega);have p1:wr.cell? ⟨g,j*3+1,none⟩=some (.int .i64 mk):=hcell 1 (by omega);have p2:wr.cell? ⟨g,j*3+2,none⟩=some (.string (bs mv')):=hcell 2 (by omega);clear hcell hm1 hjM;generalize ifsT (c.ifs.take j)=it at *;have ki:({ data:=#[32,105,102,32] }:ByteArray)=bs kIf:=rfl;have kil:kIf.length=4:=rfl;generalize kIf=KI at *;go_wp2_with fail
    refine (printMatcher_any (mn,mk,mv') _ hgm).mono ?_;rintro e w4 ⟨rfl,hf⟩;have KF4:Hid (Frm [] w3 w4):=(KF.out.alloc _).trans hf;clear hf;generalize matT (mn,mk,mv')=mt at *;obtain ⟨y,hy⟩:∃ y,y=x4++it:=⟨_,rfl⟩;go_wp2;go_roundg (gk-1)
    case measure=>omega
    case rel =>
     refine ⟨j+1,by omega,by go_num,?_,KF4.out⟩;rw[Hi.out]
   ·have Ht:Hid (c.ifs.take j=c.ifs):=List.take_of_length_le (by omega)
    rw[Ht.out];have hr3:=N3.out.frm KF.out (by simp);have q8:wr.cell? ⟨w.heap.size,8,none⟩=some (.bool c.co):=hr3.cell 8;clear hr3;have hxl:(ifsT c.ifs).length≤176*4:=by
     have:=ifsT_len c.ifs HG.out.ifs;omega
    have kc:({ data:=#[32,99,111,110,116,105,110,117,101] }:ByteArray)=bs kCont:=rfl;have kcl:kCont.length=9:=rfl;have Hfin:Hid (∀ z,rtT c=z++(if c.co then kCont else [])∨True):=fun _=>Or.inr trivial
    have HF:Hid (rtT c=x4++(ifsT c.ifs++(if c.co then kCont else []))):=by
     show _=_;rw[Hx.out,HX4.out,HX3.out,HX2.out,HX1.out];simp only[List.append_assoc]
    generalize ifsT c.ifs=it at *;generalize kCont=KC at *;cases hco:c.co
    ·rw[hco]at HF
     go_wp2;go_ret;rw[HF.out];exact ⟨ret_str (by simp),F3.out.trans KF.out⟩
    ·rw[hco]at HF
     go_wp2;go_ret;rw[HF.out];exact ⟨ret_str (by simp),F3.out.trans KF.out⟩
theorem recT_len:∀ (L:List (List UInt8)),(∀ n∈L,isNameL n=true)→(recT L).length≤9*L.length
 | [],_=>by simp[recT]
 | n::L,h=>by
   have h1:=recT_len L (fun x hx=>h x (by simp[hx]));have h2:=isNameL_len (h n (by simp));unfold recT at h1 ⊢;simp only[List.flatMap_cons,List.length_append,List.length_cons]at h1 ⊢;omega
theorem rtT_len0(c:CR)(h:GoodCR c):(rtT c).length≤c.d+1200:=by
 have h2:c.rc.length≤8:=by
  rcases h.rc with e|e
  ·rw[e];simp
  ·exact isNameL_len e
 have h3:(byT c).length≤50:=by
  unfold byT;split
  ·have hb:(labT c.bys).length≤36:=by
    unfold labT;split
    ·simp
    ·have:=labJ_len c.bys (fun x hx=>isNameL_len (h.bys x hx));have:=h.byl;omega
   have:kBy.length=4:=rfl;simp;omega
  ·simp
 have h4:=timeT_len kWait c.wt (by decide) h.wt.1 h.wt.2;have h5:=timeT_len kEvery c.ev (by decide) h.ev.1 h.ev.2;have h6:=timeT_len kRepeat c.rp (by decide) h.rp.1 h.rp.2;have h7:=ifsT_len c.ifs h.ifs;have h8:=h.ifl;have h9:kRoute.length=6:=rfl;have h10:(if c.co then kCont else []).length≤9:=by split<;>simp[kCont]
 unfold rtT;simp only[List.length_append,List.length_replicate];omega
theorem rtT_len(c:CR)(h:GoodCR c):(rtT c).length≤1049900:=by have:=rtT_len0 c h;have:=h.d;omega
theorem rtsT_len:∀ (C:List CR),(∀ c∈C,GoodCR c)→(rtsT C).length≤1050000*C.length
 | [],_=>by simp[rtsT]
 | c::C,h=>by
   have h1:=rtsT_len C (fun x hx=>h x (by simp[hx]));have h2:=rtT_len c (h c (by simp));unfold rtsT at h1 ⊢;simp only[List.flatMap_cons,List.length_append,List.length_cons,List.length_nil]at h1 ⊢;omega
theorem cfgPrint_any(base:Nat)(vr vt:Value)(L:List (List UInt8))(R:List RV)(C:List CR)(w:World)(ht:Tab w)(hs:SL base w vr L)(hr:RL base w vt R)(hp:Reps base w R C)(hR:R.length≤1048576)
 (hg:(∀ m∈L,isNameL m=true)∧L.length≤8∧(∀ c∈C,GoodCR c)) :
 Calls Tryz.prog 18 #[.agg #[vr,vt]] w fun e w'=>e=.returned (.string (bs (cfgT L C)))∧Frm [] w w':=by
 obtain ⟨a,cap,rfl⟩:=own_shape hr;obtain ⟨a0,cap0,rfl⟩:=hs.shape;have HT:Hid (Tab w):=ht;have HCL:Hid (R.length=C.length):=hp.1;have HR:Hid (RL base w (.slice a R.length cap) R):=hr;have HS:Hid (RS 0 w (.slice a0 L.length cap0) L):=(hs.rs (by omega)).base (Nat.zero_le _);have HP:Hid (Reps base w R C):=hp;have HG:Hid ((∀ m∈L,isNameL m=true)∧L.length≤8∧(∀ c∈C,GoodCR c)):=hg;have hl8:=hg.2.1;clear hr hp hs ht hg;have hsz:=bs_size;have hap:=bs_append;have k32:({ data:=#[32] }:ByteArray)=bs [32]:=rfl;have k10:({ data:=#[10] }:ByteArray)=bs [10]:=rfl;have kr:({ data:=#[114,101,99,101,105,118,101,114,115] }:ByteArray)=bs kRecv:=rfl;have krl:kRecv.length=9:=rfl;have Hx:Hid (cfgT L C=kRecv++recT L++[10]++rtsT C):=rfl;have hb0:=heap1 w (Obj.cells #[.slice a0 L.length cap0, .slice a R.length cap] 50);have HB0:Hid (CB (w.alloc (Obj.cells #[.slice a0 L.length cap0, .slice a R.length cap] 50)) w.heap.size (.slice a0 L.length cap0) (.slice a R.length cap)):=hb0;clear hb0;generalize kRecv=KR at *;go_enter Tryz.func18,Tryz.ntmps18
 go_wp2_with fail
 go_loopg [3,11] L.length (fun k vt vi wr=>∃ (j:Nat),j+k=L.length∧vi=.int .i64 j∧vt=.string (bs (KR++recT (L.take j)))∧CB wr w.heap.size (.slice a0 L.length cap0) (.slice a R.length cap)∧Frm [] w wr)
 case atStart=>exact ⟨0,by omega,rfl,by simp[recT,kr],HB0.out,(Frm.refl _ _).alloc _⟩
 case round =>
  obtain ⟨j,hj,rfl,rfl,hcb,hfr⟩:=hrel;have KC:Hid (CB wr w.heap.size (.slice a0 L.length cap0) (.slice a R.length cap)):=hcb;have KF:Hid (Frm [] w wr):=hfr;have d0:=hcb.c0;have d1:=hcb.c1;clear hcb hfr
  by_cases hlt:j<L.length
  ·have hrs:RS 0 wr (.slice a0 L.length cap0) L:=HS.out.frm KF.out (by simp)
   obtain ⟨a',cap',e,h1,h2,h3⟩:=hrs;simp at e;obtain ⟨e1,e2⟩:=e;subst e1 e2;obtain ⟨g,off,h4,h5,h6⟩:=h3 j hlt;subst h4;clear h3;have hxl:(recT (L.take j)).length≤9*8:=by
    have:=recT_len (L.take j) (fun x hx=>HG.out.1 x (List.mem_of_mem_take hx));simp at this;omega
   have hx8:=isNameL_len (HG.out.1 _ (List.getElem_mem hlt));have Hi:Hid (recT (L.take (j+1))=recT (L.take j)++(32::L[j])):=by
    show _=_;unfold recT;rw[List.take_succ_eq_append_getElem hlt,List.flatMap_append];simp only[List.flatMap_cons,List.flatMap_nil,List.append_nil]
   generalize L[j]=x at *;generalize recT (L.take j)=tx at *;go_wp2;go_roundg (gk-1)
   case measure=>omega
   case rel=>exact ⟨j+1,by omega,by go_num,by rw[Hi.out],KC.out,KF.out⟩
  ·have Ht:Hid (L.take j=L):=List.take_of_length_le (by omega)
   rw[Ht.out];have hxl:(recT L).length≤9*8:=by
    have:=recT_len L HG.out.1;omega
   obtain ⟨x0,hx0⟩:∃ y,y=KR++(recT L++[10]):=⟨_,rfl⟩;have HX0:=hide hx0;have hl0:x0.length≤100:=by rw[hx0];simp;omega
   clear hx0;generalize recT L=tx at *;go_wp2_with fail
   rw[← HX0.out];go_loopg [3,25] R.length (fun k vt vi wr=>∃ (j:Nat),j+k=R.length∧vi=.int .i64 j∧vt=.string (bs (x0++rtsT (C.take j)))∧CB wr w.heap.size (.slice a0 L.length cap0) (.slice a R.length cap)∧Frm [] w wr)
   case atStart=>exact ⟨0,by omega,rfl,by simp[rtsT],KC.out,KF.out⟩
   case round =>
    clear d0 d1 KC KF hlt hj;obtain ⟨j,hj,rfl,rfl,hcb,hfr⟩:=hrel;have KC:Hid (CB wr w.heap.size (.slice a0 L.length cap0) (.slice a R.length cap)):=hcb;have KF:Hid (Frm [] w wr):=hfr;clear hcb hfr
    by_cases hlt:j<R.length
    ·have hcl:=HCL.out
     have hjR:R[j]?=some R[j]:=List.getElem?_eq_getElem hlt;have hjC:C[j]?=some (C[j]'(by omega)):=List.getElem?_eq_getElem (by omega);have hrep:=(HP.out.2 j _ _ hjR hjC).frm KF.out (by intro k hk;simp at hk);have hgc:=HG.out.2.2 _ (List.getElem_mem (l:=C) (n:=j) (by omega));have Hi:Hid (rtsT (C.take (j+1))=rtsT (C.take j)++(rtT (C[j]'(by omega))++[10])):=by
      show _=_;unfold rtsT;rw[List.take_succ_eq_append_getElem (by omega),List.flatMap_append];simp only[List.flatMap_cons,List.flatMap_nil,List.append_nil]
     have hxl:(rtsT (C.take j)).length≤1050000*1048576:=by
      have:=rtsT_len (C.take j) (fun x hx=>HG.out.2.2 x (List.mem_of_mem_take hx));have h2:(C.take j).length≤1048576:=by rw[List.length_take];omega
      omega
     generalize (C[j]'(by omega))=c at *;have hrl:=rtT_len c hgc;have hr1:RL base wr (.slice a R.length cap) R:=own_frm HR.out KF.out (by simp);obtain ⟨g,hg⟩:∃ g,a=some ⟨g,0,none⟩:=by
      rcases hr1.2 with ⟨e,h⟩|⟨g,c,cur,e,_⟩
      ·omega
      ·simp at e;exact ⟨g,e.1⟩
     subst hg;have hcell:=fun k hk=>hr1.cell hjR k hk
     generalize R[j]=rv at *;have Hrep:Hid (CRep base wr rv c):=hrep;have Hgc:=hide hgc;obtain ⟨d,rc,tb,vby,wt,ev,rp,vif,co⟩:=rv;have q0:wr.cell? ⟨g,j*9,none⟩=some (.int .i64 d):=hcell 0 (by omega);have q1:wr.cell? ⟨g,j*9+1,none⟩=some (.string (bs rc)):=hcell 1 (by omega);have q2:wr.cell? ⟨g,j*9+2,none⟩=some (.bool tb):=hcell 2 (by omega);have q3:wr.cell? ⟨g,j*9+3,none⟩=some vby:=hcell 3 (by omega);have q4:wr.cell? ⟨g,j*9+4,none⟩=some (.int .i64 wt):=hcell 4 (by omega);have q5:wr.cell? ⟨g,j*9+5,none⟩=some (.int .i64 ev):=hcell 5 (by omega);have q6:wr.cell? ⟨g,j*9+6,none⟩=some (.int .i64 rp):=hcell 6 (by omega);have q7:wr.cell? ⟨g,j*9+7,none⟩=some vif:=hcell 7 (by omega);have q8:wr.cell? ⟨g,j*9+8,none⟩=some (.bool co):=hcell 8 (by omega);obtain ⟨ab,cb,eb⟩:=hrep.by_.shape;obtain ⟨ai,ci,ei⟩:=own_shape hrep.ifs;simp only at eb ei;subst eb ei;clear hcell hr1 hrep hgc hjR hjC hcl;generalize rtsT (C.take j)=tx2 at *;have pr:=fun o=>printRoute_any base ⟨d,rc,tb, .slice ab c.bys.length cb,wt,ev,rp, .slice ai c.ifs.length ci,co⟩ c (wr.alloc o) (HT.out.frm (KF.out.alloc o) (by simp)) (Hrep.out.frm (S:=[]) ((Frm.refl _ _).alloc _) (by intro k hk;simp at hk)) Hgc.out
     have PR:Hid (∀ o,Calls Tryz.prog 39 #[.agg #[.int .i64 d, .string (bs rc), .bool tb, .slice ab c.bys.length cb, .int .i64 wt, .int .i64 ev, .int .i64 rp, .slice ai c.ifs.length ci, .bool co]] (wr.alloc o) fun e w'=>e=.returned (.string (bs (rtT c)))∧Frm [] (wr.alloc o) w'):=pr;clear pr;go_wp2_with fail
     refine (PR.out _).mono ?_;rintro e w4 ⟨rfl,hf⟩;have F4:Frm [] wr w4:=((Frm.refl _ _).alloc _).trans hf;have KC4:Hid (CB w4 w.heap.size (.slice a0 L.length cap0) (.slice (some ⟨g,0,none⟩) R.length cap)):=KC.out.frm F4 (by simp);have KF4:Hid (Frm [] w w4):=KF.out.trans F4;clear hf F4;generalize rtT c=rt at *;go_wp2;go_roundg (gk-1)
     case measure=>omega
     case rel=>exact ⟨j+1,by omega,by go_num,by rw[Hi.out],KC4.out,KF4.out⟩
    ·have Ht2:Hid (C.take j=C):=List.take_of_length_le (by have:=HCL.out;omega)
     rw[Ht2.out];go_wp2;go_ret;rw[Hx.out,HX0.out];exact ⟨ret_str (by simp),KF.out⟩
def pRes(t:List UInt8):List UInt8 × Nat × Nat :=
 match cRead t with
 | .error (n,l)=>([],n,l)
 | .ok (L,C)=>(cfgT L C,0,0)
theorem cRead_ok(t:List UInt8)(L:List (List UInt8))(C:List CR)(h:cRead t=.ok (L,C)):cRead1 t=.ok (L,C):=by
 unfold cRead at h
 split at h
 ·cases h
 ·split at h
  ·cases h
  ·split at h
   ·cases h
   ·split at h
    ·cases h
    ·rename_i L' C' h1 _ _;simp only[Except.ok.injEq,Prod.mk.injEq]at h;rw[h1,h.1,h.2]
theorem aPrint_any(t:List UInt8)(w:World)(hT:Tab w)(ht:t.length≤1048576) :
 Calls Tryz.prog 12 #[.string (bs t)] w fun e w'=>e=.returned (.tuple #[.string (bs (pRes t).1), .int .i64 (pRes t).2.1, .int .i64 (pRes t).2.2])∧Frm [] w w':=by
 have HT:Hid (Tab w):=hT;clear hT;go_enter Tryz.func12,Tryz.ntmps12
 go_wp2_with fail
 refine (cfgRead_any t w ht).mono ?_;rintro e w1 ⟨hf1,vr,vt,er,ln,rfl,hrep⟩;have KF:=hide hf1;clear hf1;cases hr:cRead t with
 | error nl =>
   obtain ⟨n,l⟩:=nl;have Hx:Hid (pRes t=([],n,l)):=by show _=_;unfold pRes;rw[hr]
   rw[hr]at hrep;obtain ⟨rfl,rfl,rfl,rfl,hn⟩:=hrep;have hne:((n:Int) != 0)=true:=by rw[bne_iff_ne];omega
   go_wp2;go_ret3
   rw[Hx.out];exact ⟨rfl,KF.out.alloc _⟩
 | ok LC =>
   obtain ⟨L,C⟩:=LC;have Hx:Hid (pRes t=(cfgT L C,0,0)):=by show _=_;unfold pRes;rw[hr]
   have hgood:=cRead1_good t L C ht (cRead_ok t L C hr);rw[hr]at hrep;obtain ⟨rfl,rfl,hs,rvs,hrl,hrp,hrn⟩:=hrep;obtain ⟨a0,n0,rfl⟩:=hs.shape;obtain ⟨a1,n1,rfl⟩:=own_shape hrl;have pr:=fun o=>cfgPrint_any w.heap.size (.slice a0 L.length n0) (.slice a1 rvs.length n1) L rvs C (w1.alloc o) (HT.out.frm (KF.out.alloc o) (by simp)) (hs.frm (S:=[]) ((Frm.refl _ _).alloc _) (by simp)) (hrl.frm (S:=[]) ((Frm.refl _ _).alloc _) (by simp)) (hrp.frm (S:=[]) ((Frm.refl _ _).alloc _) (by intro k hk;simp at hk)) hrn hgood
   have PR:=hide pr;clear pr hs hrl hrp hrn hgood hr;go_wp2_with fail
   refine (PR.out _).mono ?_;rintro e w2 ⟨rfl,hf⟩;have KF2:=hide ((KF.out.alloc _).trans hf);clear hf;go_wp2;go_ret3
   rw[Hx.out];exact ⟨rfl,KF2.out⟩
theorem rtsT_few:∀ (C:List CR),(∀ c∈C,GoodCR c∧c.d≤5)→(rtsT C).length≤1206*C.length
 | [],_=>by simp[rtsT]
 | c::C,h=>by
   have h1:=rtsT_few C (fun x hx=>h x (by simp[hx]));have h2:=rtT_len0 c (h c (by simp)).1;have h3:=(h c (by simp)).2;unfold rtsT at h1 ⊢;simp only[List.flatMap_cons,List.length_append,List.length_cons,List.length_nil]at h1 ⊢;omega
theorem cfgT_few{t:List UInt8}{L:List (List UInt8)}{C:List CR}(ht:t.length≤1048576)(h:cRead t=.ok (L,C)):(cfgT L C).length≤100000:=by
 obtain ⟨c1,c2,c3,c4⟩:=cRead_tree h;obtain ⟨g1,g2,g3⟩:=cRead1_good t L C ht c1;have h1:=rtsT_few C (fun c hc=>⟨g3 c hc,c4 c hc⟩);have h2:=recT_len L g1;have h3:kRecv.length=9:=rfl;unfold cfgT;simp only[List.length_append,List.length_cons,List.length_nil];omega
theorem pRes_ok{t:List UInt8}{L:List (List UInt8)}{C:List CR}(h:cRead t=.ok (L,C)):pRes t=(cfgT L C,0,0):=by unfold pRes;rw[h]
theorem kagain_any{w0 w:World}{db:Nat}{t:List UInt8}{a:Option Addr}{cap:Nat}{L:List LBL}{Ln:List (List UInt8)}{C:List CR}{s:CS}{V:V6}{pb:Nat}(h:DK w0 w db t a cap L Ln C s V pb)(hT:Tab w) :
 Calls Tryz.prog 6 #[.pointer (some ⟨db,0,none⟩)] w fun e w'=>e=.returned (.bool true)∧Frm [] w w':=by
 have r0:w.cell? ⟨db,0,none⟩=some (.string (bs t)):=by simp[World.cell?,h.row]
 have r1:w.cell? ⟨db,1,none⟩=some (.pointer (some ⟨pb,0,none⟩)):=by simp[World.cell?,h.row]
 have r2:w.cell? ⟨db,2,none⟩=some (.slice a L.length cap):=by simp[World.cell?,h.row]
 have hdb:db<w.heap.size:=(Array.getElem?_eq_some_iff.1 h.row).1;have htl:=h.tl;have R0:=hide r0;have R1:=hide r1;have R2:=hide r2;have HT:=hide hT;have LVL:Hid (LV L):=fun x hx=>by have:=h.ls x hx;exact ⟨by omega,by omega⟩
 have LRW:Hid (∀ W,Frm [] w W→LR W (.slice a L.length cap) L):=fun W f=>(h.lr.frm f).lr cap (by have:=h.ll;omega)
 have hcap:=h.cap;have HOK:=hide h.ok;have HPG:Hid (∀ W,Frm [] w W→PR [] W pb V (compM C s)):=fun W f=>h.pg.frm f (by simp)
 have HLE:=hide (compM_le (by omega) h.rd h.pr);have HAC:=hide (hitsA_comp (A:=L) (by omega) h.rd h.pr);have HG:=hide (hitsC_good (by omega) h.rd (lblV L));have c3:=(cRead_tree h.rd).2.2.1;have NS:Hid (∀ (W:World) (p:Nat) (V':V6),PR [] W p V' (compM C s)→Calls Tryz.prog 10 #[.pointer (some ⟨p,0,none⟩)] W fun e w'=>e=.returned (.string (bs (eM (compM C s))))∧Frm [] W w'):=fun W p V' hp=>aSave_any [] p V' _ W hp HOK.out (by have:=HLE.out;omega)
 have NL:Hid (∀ W,Calls Tryz.prog 11 #[.string (bs (eM (compM C s)))] W (fun e w'=>Frm [] W w'∧∃ V2 pb2,e=.returned (.tuple #[.pointer (some ⟨pb2,0,none⟩), .int .i64 0])∧PR [] w' pb2 V2 (compM C s))):=by
  intro W;have hr:=comp_ris (s:=s) h.rd;refine (aLoad_any [] _ W HLE.out (by simp)).mono ?_;rintro e w1 ⟨hF,⟨h1,_⟩|⟨m2,V2,pb2,h1,rfl,hP,_⟩⟩
  ·rw[ld_of HOK.out hr]at h1;cases h1
  ·rw[ld_of HOK.out hr]at h1;cases h1;exact ⟨hF,V2,pb2,rfl,hP⟩
 have NP1:Hid (∀ W,Frm [] w W→Calls Tryz.prog 12 #[.string (bs t)] W fun e w'=>e=.returned (.tuple #[.string (bs (cfgT Ln C)), .int .i64 0, .int .i64 0])∧Frm [] W w'):=fun W f=>by
  refine (aPrint_any t W (HT.out.frm f (by simp)) (by omega)).mono ?_;rintro e w1 ⟨rfl,hF⟩;rw[pRes_ok h.rd];exact ⟨rfl,hF⟩
 have hfew:=cfgT_few (by omega) h.rd;have NP2:Hid (∀ W,Frm [] w W→Calls Tryz.prog 12 #[.string (bs (cfgT Ln C))] W fun e w'=>e=.returned (.tuple #[.string (bs (pRes (cfgT Ln C)).1), .int .i64 (pRes (cfgT Ln C)).2.1, .int .i64 (pRes (cfgT Ln C)).2.2])∧Frm [] W w'):=fun W f=>aPrint_any _ W (HT.out.frm f (by simp)) (by omega)
 have HRD:Hid ((cfgT Ln C).length≤1200→cRead (cfgT Ln C)=.ok (Ln,C)):=fun hl=>cRead_print (by omega) h.rd hl
 have hx0:xF reC C 0=(0,0):=(cRes_some h.rd reC).symm.trans h.res;have NC:Hid ((cfgT Ln C).length≤1200→∀ W,Calls Tryz.prog 7 #[.string (bs (cfgT Ln C))] W fun e w'=>Frm [] W w'∧∃ V3 pb3,e=.returned (.tuple #[.pointer (some ⟨pb3,0,none⟩), .int .i64 0, .int .i64 0])∧PR [] w' pb3 V3 (compM C s)):=by
  intro hl W;have h1:=HRD.out hl;refine (compile_any _ W (by omega)).mono ?_;rintro e w1 ⟨hF,⟨h2,_⟩|⟨L3,C3,s3,V3,pb3,_,h4,h5,rfl,h6,_⟩⟩
  ·exact absurd (by rw[cRes_some h1,hx0]) h2
  ·rw[h1]at h4
   cases h4
   rw[h.pr]at h5;cases h5
   exact ⟨hF,V3,pb3,rfl,h6⟩
 have hl:=bs_toList;have hsz:=bs_size;clear h hT hx0;go_enter Tryz.func6,Tryz.ntmps6
 have N1:=hide (NS.out w pb V (HPG.out w (Frm.refl [] w)));go_wp2_with fail
 refine (N1.out).mono ?_;clear N1 r0 r1 r2;rintro e w1 ⟨rfl,hF1⟩;have F1:=hide hF1;have N2:=hide (NL.out w1);clear hF1;go_wp2_with fail
 refine (N2.out).mono ?_;clear N2;rintro e w2 ⟨hF2,V2,pb2,rfl,hP2⟩;have F2:=hide (F1.out.trans hF2);have P2:=hide hP2;have N3:=hide (NS.out w2 pb2 V2 hP2);clear hF2 hP2 F1;go_wp2_with fail
 refine (N3.out).mono ?_;clear N3;rintro e w3 ⟨rfl,hF3⟩;have F3:=hide (F2.out.trans hF3);have P3:=hide (P2.out.frm hF3 (by simp));have N4:=hide (NP1.out w3 F3.out);have q0:=F3.out.at (p:=⟨db,0,none⟩) hdb R0.out;clear hF3 F2 P2;go_wp2_with fail
 refine (N4.out).mono ?_;clear N4 q0;rintro e w4 ⟨rfl,hF4⟩;have F4:=hide (F3.out.trans hF4);have P4:=hide (P3.out.frm hF4 (by simp));have N5:=hide (NP2.out w4 F4.out);clear hF4 F3 P3;go_wp2_with fail
 refine (N5.out).mono ?_;clear N5 NP1 NP2;rintro e w5 ⟨rfl,hF5⟩;have F5:=hide (F4.out.trans hF5);have P5:=hide (P4.out.frm hF5 (by simp));clear hF5 F4 P4
 by_cases hbig:1200<(cfgT Ln C).length
 ·have hd1:decide ((1200:Int)<((cfgT Ln C).length:Int))=true:=decide_eq_true (by omega)
  have hd1':decide (1200<(cfgT Ln C).length)=true:=decide_eq_true hbig;generalize (pRes (cfgT Ln C)).1=u1 at *;generalize (pRes (cfgT Ln C)).2.1=u2 at *;generalize (pRes (cfgT Ln C)).2.2=u3 at *;clear HRD NC;generalize eM (compM C s)=bb at *;generalize cfgT Ln C=ct at *;go_wp2;go_ret;exact ⟨rfl,F5.out⟩
 ·have hd1:decide ((1200:Int)<((cfgT Ln C).length:Int))=false:=decide_eq_false (by omega)
  have hd1':decide (1200<(cfgT Ln C).length)=false:=decide_eq_false hbig;have N6:=hide (NC.out (by omega) w5);have HPR:=pRes_ok (HRD.out (by omega));rw[HPR];clear HPR HRD NC;simp only;generalize cfgT Ln C=ct at *;go_wp2_with fail
  refine (N6.out).mono ?_;clear N6;rintro e w6 ⟨hF6,V3,pb3,rfl,hP6⟩;have F6:=hide (F5.out.trans hF6);have P6:=hide (P5.out.frm hF6 (by simp));have N7:=hide (NS.out w6 pb3 V3 hP6);clear hF6 hP6 F5 P5;go_wp2_with fail
  refine (N7.out).mono ?_;clear N7;rintro e w7 ⟨rfl,hF7⟩;have F7:=hide (F6.out.trans hF7);have P7:=hide (P6.out.frm hF7 (by simp));have FN7:Hid (Frm [] w7 w7.drew):=(Frm.refl [] w7).drew;have F7d:=hide (F7.out.trans FN7.out);have N8:=hide (ksame_eq w7.drew pb pb2 V V2 _ _ (HPG.out _ F7d.out) (P7.out.frm FN7.out (by simp)) HOK.out HOK.out a L.length cap L (LRW.out _ F7d.out) LVL.out hcap rfl (by rw[HAC.out];have:=HG.out.2.1;omega) (fun x hx=>by rw[HAC.out]at hx;have:=(HG.out.2.2 x hx).2.b1;omega));have q1:=F7.out.at (p:=⟨db,1,none⟩) hdb R1.out;have q2:=F7.out.at (p:=⟨db,2,none⟩) hdb R2.out;clear hF7 F6 P6 HG HAC HLE NS NL;generalize eM (compM C s)=bb at *;go_upto_region 14 with fail
  go_region_with (go_at_call 13;refine (N8.out).mono ?_;rintro e w8 ⟨rfl,hF8⟩)
  all_goals
   have F8:=hide (F7d.out.trans hF8);clear hF8;go_wp2;go_ret;exact ⟨rfl,F8.out⟩
end Go.Proofs.YtpcbbbilmpobaaaGreatDoor
