import Derived.Test.YtpcbbbilmpobaaaGreatDoorJ45
import Derived.Test.YtpcbbbilmpobaaaGreatDoorJ23
import Derived.Lib.ItoaNum
import Derived.Test.YtpcbbbilmpobaaaGreatDoorJ24
import Derived.Shelf.Strconv.Itoa0
import Derived.Shelf.Strconv.Itoa1
import Derived.Shelf.LaysM
import Derived.Shelf.Strconv.Itoa2
import Derived.Shelf.Strconv.Itoa3
import Derived.Test.YtpcbbbilmpobaaaGreatDoorProg
set_option linter.unusedVariables false
set_option linter.unusedSimpArgs false
set_option linter.unnecessarySimpa false
set_option maxRecDepth 100000
set_option maxHeartbeats 4000000
namespace Go.Proofs.YtpcbbbilmpobaaaGreatDoor
open Go.RowKit
def timeT(wd:List UInt8)(n:Int):List UInt8:=if n=-1 then [] else wd++Lib.itoa n
def matT(m:CM):List UInt8:=m.1++kindT m.2.1++quoteV m.2.2
def labJ:List (List UInt8)→List UInt8
 | []=>[]
 | [x]=>x
 | x::y::r=>x++[44]++labJ (y::r)
def labT(L:List (List UInt8)):List UInt8:=if L.isEmpty then [45] else labJ L
def kBy:List UInt8:=[32,98,121,32]
def byT(c:CR):List UInt8:=if c.tb then kBy++labT c.bys else []
def ifsT(M:List CM):List UInt8:=M.flatMap fun m=>kIf++matT m
def rtT(c:CR):List UInt8:=List.replicate c.d 32++(kRoute++c.rc)++byT c++timeT kWait c.wt++timeT kEvery c.ev++timeT kRepeat c.rp++ifsT c.ifs++(if c.co then kCont else [])
def recT(L:List (List UInt8)):List UInt8:=L.flatMap fun n=>32::n
def rtsT(C:List CR):List UInt8:=C.flatMap fun c=>rtT c++[10]
def cfgT(L:List (List UInt8))(C:List CR):List UInt8:=kRecv++recT L++[10]++rtsT C
open Go.RowKit
theorem dig_byte{d:Nat}(h:d<10):dgB (UInt8.ofNat (48+d))=true∧(UInt8.ofNat (48+d)).toNat=48+d∧(UInt8.ofNat (48+d)=48↔d=0):=by
 have:∀ d,d<10→dgB (UInt8.ofNat (48+d))=true∧(UInt8.ofNat (48+d)).toNat=48+d∧(UInt8.ofNat (48+d)=48↔d=0):=by decide +kernel
 exact this d h
theorem num_read:∀ (n:Nat),n≤99999→∀ r,numL (Lib.decDigits n++r) 0=numL r n:=by
 intro n
 induction n using Nat.strongRecOn with
 | ind n ih =>
   intro hn r
   by_cases h:n<10
   ·rw[Lib.decDigits,dif_pos h]
    obtain ⟨a,b,_⟩:=dig_byte h;show numL (UInt8.ofNat (48+n)::r) 0=_;rw[numL,if_pos a,b,if_neg (by omega)]
    congr 1
    omega
   ·rw[Lib.decDigits,dif_neg h,List.append_assoc,ih (n / 10) (by omega) (by omega)]
    obtain ⟨a,b,_⟩:=dig_byte (d:=n % 10) (by omega);show numL (UInt8.ofNat (48+n % 10)::r) (n / 10)=_;rw[numL,if_pos a,b,if_neg (by omega)]
    congr 1
    omega
theorem dec_head:∀ (n:Nat),∃ c t,Lib.decDigits n=c::t∧dgB c=true∧(1≤n→c≠48):=by
 intro n
 induction n using Nat.strongRecOn with
 | ind n ih =>
   by_cases h:n<10
   ·obtain ⟨a,b,c⟩:=dig_byte h
    refine ⟨_,[],by rw[Lib.decDigits,dif_pos h],a,fun h1 e=>?_⟩;have:=c.1 e;omega
   ·obtain ⟨c,t,e,h1,h2⟩:=ih (n / 10) (by omega)
    exact ⟨c,t++[UInt8.ofNat (48+n % 10)],by rw[Lib.decDigits,dif_neg h,e];rfl,h1,fun _=>h2 (by omega)⟩
theorem numL_stop{r:List UInt8}(hr:∀ c q,r=c::q→dgB c=false)(n:Nat):numL r n=(n,true,r):=by
 cases r with
 | nil=>rfl
 | cons c q=>rw[numL,if_neg (by rw[hr c q rfl];simp)]
theorem sNum_read{n:Nat}(hn:n≤99999){r:List UInt8}(hr:∀ c q,r=c::q→dgB c=false):sNum (Lib.decDigits n++r)=(n,true,r):=by
 unfold sNum
 by_cases h0:n=0
 ·subst h0
  have e:Lib.decDigits 0=[48]:=by rw[Lib.decDigits,dif_pos (by omega)];rfl
  rw[e]
  rfl
 ·obtain ⟨c,t,e,h1,h2⟩:=dec_head n
  have h3:sTake [48] (Lib.decDigits n++r)=false:=by
   rw[e];simp only[sTake,List.cons_append,List.isPrefixOf,Bool.and_true];rw[beq_eq_false_iff_ne];exact fun h=>h2 (by omega) h.symm
  have h4:digB (hd (Lib.decDigits n++r))=true:=by rw[e];exact h1
  rw[h3,h4];simp only[Bool.false_eq_true,if_false,Bool.not_true];rw[num_read n hn,numL_stop hr]
theorem take_app(wd r:List UInt8):sTake wd (wd++r)=true∧sRest wd (wd++r)=r:=by
 have h:wd.isPrefixOf (wd++r)=true:=List.isPrefixOf_iff_prefix.2 (List.prefix_append _ _);exact ⟨h,by unfold sRest;rw[if_pos h];simp⟩
def Bl(r:List UInt8):Prop:=∀ c q,r=c::q→c=32
theorem Bl.dig{r:List UInt8}(h:Bl r):∀ c q,r=c::q→dgB c=false:=fun c q e=>by rw[h c q e];decide
theorem sTime_read{wd:List UInt8}{n:Int}(hn:-1≤n∧n≤99999){r:List UInt8}(hr:Bl r)(hw:sTake wd r=false):sTime wd (timeT wd n++r)=(n,true,r):=by
 unfold sTime timeT
 by_cases h:n=-1
 ·rw[if_pos h,List.nil_append,hw,h]
  rfl
 ·rw[if_neg h,List.append_assoc,(take_app wd _).1,if_pos rfl,(take_app wd _).2]
  have e:Lib.itoa n=Lib.decDigits n.toNat:=by unfold Lib.itoa;rw[if_neg (by omega)]
  rw[e,sNum_read (by omega) hr.dig];simp only
  congr 1
  omega
theorem timeT_bl{wd:List UInt8}(hw:∃ q,wd=32::q)(n:Int){r:List UInt8}(hr:Bl r):Bl (timeT wd n++r):=by
 obtain ⟨q,rfl⟩:=hw;intro c p e;unfold timeT at e
 split at e
 ·exact hr c p e
 ·simp at e;exact e.1.symm
open Go.RowKit
def NS2(x:UInt8)(r:List UInt8):Prop:=∀ c d q,r=c::d::q→d≠x
theorem NS2.take{x:UInt8}{r:List UInt8}(h:NS2 x r)(w:List UInt8):sTake (32::x::w) r=false:=by
 unfold sTake
 match r,h with
 | [],_=>rfl
 | [c],_=>simp[List.isPrefixOf]
 | c::d::q,h =>
   have:=h c d q rfl;simp only[List.isPrefixOf];have e:(x==d)=false:=by rw[beq_eq_false_iff_ne];exact fun e=>this e.symm
   rw[e];simp
theorem nb_time{x y:UInt8}(hxy:y≠x){w:List UInt8}(n:Int){r:List UInt8}(hr:NS2 x r):NS2 x (timeT (32::y::w) n++r):=by
 intro c d q e;unfold timeT at e
 split at e
 ·exact hr c d q e
 ·simp at e;rw[← e.2.1];exact hxy
theorem nb_ifs{x:UInt8}(hx:(105:UInt8)≠x)(M:List CM){r:List UInt8}(hr:NS2 x r):NS2 x (ifsT M++r):=by
 cases M with
 | nil=>exact hr
 | cons m M =>
   intro c d q e;simp[ifsT,kIf]at e;rw[← e.2.1];exact hx
theorem nb_co{x:UInt8}(hx:(99:UInt8)≠x)(co:Bool):NS2 x (if co then kCont else []):=by
 intro c d q e;cases co
 ·simp at e
 ·simp[kCont]at e;rw[← e.2.1];exact hx
theorem bl_ifs(M:List CM){r:List UInt8}(hr:Bl r):Bl (ifsT M++r):=by
 cases M with
 | nil=>exact hr
 | cons m M=>intro c q e;simp[ifsT,kIf]at e;exact e.1.symm
theorem bl_co(co:Bool):Bl (if co then kCont else []):=by
 intro c q e;cases co
 ·simp at e
 ·simp[kCont]at e;exact e.1.symm
theorem rise_keep:∀ (L acc:List (List UInt8)),Asc (acc++L)→L.foldl rise1 acc=acc++L
 | [],acc,_=>by simp
 | n::L,acc,h=>by
   have h1:=List.pairwise_append.1 h;have hlt:∀ x∈acc,x<n:=fun x hx=>h1.2.2 x hx n (by simp)
   have hc:acc.contains n=false:=by
    rw[← Bool.not_eq_true,List.contains_iff_mem];exact fun hm=>List.lt_irrefl _ (hlt n hm)
   simp only[List.foldl_cons];have e:rise1 acc n=acc++[n]:=by
    unfold rise1;rw[hc,if_neg (by simp),withN_ins,ins_last n acc (fun x hx h2=>List.lt_irrefl _ (List.lt_trans h2 (hlt x hx)))]
   rw[e,rise_keep L (acc++[n]) (by simpa using h)];simp
theorem labJ_flat:∀ (b:List UInt8) (B:List (List UInt8)),labJ (b::B)=b++B.flatMap fun n=>44::n
 | b,[]=>by simp[labJ]
 | b,c::B=>by
   show b++[44]++labJ (c::B)=_;rw[labJ_flat c B];simp
theorem sBy_print{c:CR}(hg:∀ n∈c.bys,isNameL n=true)(hl:c.bys.length≤4)(ha:Asc c.bys)(ht:c.tb=false→c.bys=[]){r:List UInt8}(hr:Bl r)(hb:NS2 98 r):sBy (byT c++r)=⟨c.tb,c.bys,true,r⟩:=by
 unfold byT sBy;cases htb:c.tb
 ·simp only[Bool.false_eq_true,if_false,List.nil_append]
  rw[hb.take [121,32],ht htb]
  rfl
 ·simp only[if_true]
  rw[List.append_assoc,show ([32,98,121,32]:List UInt8)=kBy from rfl,(take_app kBy _).1,if_pos rfl,(take_app kBy _).2];cases hbs:c.bys with
  | nil =>
    show (if sTake [45] ([45]++r) then _ else _)=_;rw[(take_app [45] r).1,if_pos rfl];rw[show labT []++r=[45]++r from rfl,(take_app [45] r).2]
  | cons b B =>
    rw[hbs]at hg hl ha;have e:labT (b::B)++r=b++((B.flatMap fun n=>44::n)++r):=by
     show labJ (b::B)++r=_;rw[labJ_flat];simp
    have h45:sTake [45] (b++((B.flatMap fun n=>44::n)++r))=false:=by
     have hb:=hg b (by simp);cases b with
     | nil=>simp[isNameL]at hb
     | cons c' q =>
       have:=name_all hb;rw[List.all_cons,Bool.and_eq_true]at this;unfold sTake;simp only[List.cons_append,List.isPrefixOf];have hc:(45==c')=false:=by
        rw[beq_eq_false_iff_ne];rintro rfl;have:=this.1
        revert this
        decide
       rw[hc];rfl
    rw[e,h45];simp only[Bool.false_eq_true,if_false];rw[labs_print hg (by simp at hl;omega) (fun c' q e'=>by rw[hr c' q e'];decide)];simp only;have:=rise_keep (b::B) [] (by simpa using ha);unfold rise;rw[this];simp
theorem sTimes_print{a b d:Int}(ha:-1≤a∧a≤99999)(hb:-1≤b∧b≤99999)(hd:-1≤d∧d≤99999){r:List UInt8}(hr:Bl r)(h1:NS2 119 r)(h2:NS2 101 r)(h3:NS2 114 r):sTimes (timeT kWait a++(timeT kEvery b++(timeT kRepeat d++r)))=⟨a,b,d,true,r⟩:=by
 have b3:Bl (timeT kRepeat d++r):=timeT_bl ⟨_,rfl⟩ d hr;have b2:Bl (timeT kEvery b++(timeT kRepeat d++r)):=timeT_bl ⟨_,rfl⟩ b b3;have e1:sTime kWait (timeT kWait a++(timeT kEvery b++(timeT kRepeat d++r)))=(a,true,timeT kEvery b++(timeT kRepeat d++r)):=sTime_read ha b2 (NS2.take (nb_time (by decide) b (nb_time (by decide) d h1)) _);have e2:sTime kEvery (timeT kEvery b++(timeT kRepeat d++r))=(b,true,timeT kRepeat d++r):=sTime_read hb b3 (NS2.take (nb_time (by decide) d h2) _);have e3:sTime kRepeat (timeT kRepeat d++r)=(d,true,r):=sTime_read hd hr (NS2.take h3 _);unfold sTimes;rw[e1];dsimp only;rw[e2];dsimp only;rw[e3]
 rfl
theorem sDepth_rp(b:List UInt8)(hb:∀ c r,b=c::r→c≠32)(h0:b≠[]):∀ d,sDepth (List.replicate d 32++b)=(d,b)
 | 0=>by
   cases b with
   | nil=>exact absurd rfl h0
   | cons c r =>
     have:=hb c r rfl;simp[sDepth,this]
 | d+1=>by
   rw[List.replicate_succ,List.cons_append,sDepth,sDepth_rp b hb h0 d];simp
theorem sRoute_print{c:CR}(hg:GoodCR c)(ha:Asc c.bys)(ht:c.tb=false→c.bys=[]):sRoute (rtT c)=some c:=by
 have e:rtT c=List.replicate c.d 32++(kRoute++(c.rc++(byT c++(timeT kWait c.wt++(timeT kEvery c.ev++(timeT kRepeat c.rp++(ifsT c.ifs++(if c.co then kCont else [])))))))):=by
  unfold rtT;simp only[List.append_assoc]
 have hd:sDepth (rtT c)=(c.d,kRoute++(c.rc++(byT c++(timeT kWait c.wt++(timeT kEvery c.ev++(timeT kRepeat c.rp++(ifsT c.ifs++(if c.co then kCont else [])))))))):=by
  rw[e];exact sDepth_rp _ (fun x r h=>by simp[kRoute]at h;rw[← h.1];decide) (by simp[kRoute]) c.d
 have hbl5:Bl (ifsT c.ifs++(if c.co then kCont else [])):=bl_ifs _ (bl_co _);have hnb:∀ x:UInt8,(105:UInt8)≠x→(99:UInt8)≠x→NS2 x (ifsT c.ifs++(if c.co then kCont else [])):=fun x h1 h2=>nb_ifs h1 _ (nb_co h2 _)
 have hbl2:Bl (timeT kWait c.wt++(timeT kEvery c.ev++(timeT kRepeat c.rp++(ifsT c.ifs++(if c.co then kCont else []))))):=timeT_bl ⟨_,rfl⟩ _ (timeT_bl ⟨_,rfl⟩ _ (timeT_bl ⟨_,rfl⟩ _ hbl5));have hnb2:NS2 98 (timeT kWait c.wt++(timeT kEvery c.ev++(timeT kRepeat c.rp++(ifsT c.ifs++(if c.co then kCont else []))))):=nb_time (by decide) _ (nb_time (by decide) _ (nb_time (by decide) _ (hnb 98 (by decide) (by decide))));have hbl1:Bl (byT c++(timeT kWait c.wt++(timeT kEvery c.ev++(timeT kRepeat c.rp++(ifsT c.ifs++(if c.co then kCont else [])))))):=by
  unfold byT
  split
  ·intro x q h;simp[kBy]at h;exact h.1.symm
  ·exact hbl2
 have hA:srA (rtT c)=(c.rc,true,byT c++(timeT kWait c.wt++(timeT kEvery c.ev++(timeT kRepeat c.rp++(ifsT c.ifs++(if c.co then kCont else [])))))):=by
  unfold srA;rw[hd];dsimp only;rw[(take_app kRoute _).2];rcases hg.rc with h|h
  ·rw[h]
   unfold sRecv;rw[(take_app [45] _).1,if_pos rfl,(take_app [45] _).2]
  ·exact sRecv_name h (fun x q e'=>by rw[hbl1 x q e'];decide)
 have hB:srB (rtT c)=⟨c.tb,c.bys,true,timeT kWait c.wt++(timeT kEvery c.ev++(timeT kRepeat c.rp++(ifsT c.ifs++(if c.co then kCont else []))))⟩:=by
  unfold srB;rw[hA];exact sBy_print hg.bys hg.byl ha ht hbl2 hnb2
 have hC:srC (rtT c)=⟨c.wt,c.ev,c.rp,true,ifsT c.ifs++(if c.co then kCont else [])⟩:=by
  unfold srC;rw[hB];exact sTimes_print hg.wt hg.ev hg.rp hbl5 (hnb _ (by decide) (by decide)) (hnb _ (by decide) (by decide)) (hnb _ (by decide) (by decide))
 have hM:srM (rtT c)=(c.ifs,true,if c.co then kCont else []):=by
  unfold srM;rw[hC];dsimp only;have:=mats_print c.ifs [] 6 (if c.co then kCont else []) (fun m hm=>⟨(hg.ifs m hm).name,(hg.ifs m hm).kind,(hg.ifs m hm).val⟩) (by simpa using hg.ifl) (by have:=hg.ifl;omega) (by cases c.co<;>rfl);rw[List.nil_append]at this;unfold sMats;rw[← this]
  congr 2
  unfold ifsT matT;simp only[List.append_assoc]
 have hk:sTake kRoute (sDepth (rtT c)).2=true:=by rw[hd];exact (take_app kRoute _).1
 rw[sRoute_eq,hk,hA,hB,hC,hM,hd];obtain ⟨d,rc,tb,bys,wt,ev,rp,ifs,co⟩:=c;cases co<;>rfl
open Go.RowKit
/-! A printed configuration is that configuration. -/
theorem recL_print:∀ (L acc:List (List UInt8)) (k:Nat),(∀ n∈L,isNameL n=true)→acc.length+L.length≤8→L.length<k→0<acc.length+L.length→recL k acc (L.flatMap fun n=>32::n)=some (acc++L)
 | [],acc,k,_,_,hk,h0=>by
   obtain ⟨j,rfl⟩:∃ j,k=j+1:=⟨k-1,by simp at hk;omega⟩;have:sTake [32] ([]:List UInt8)=false:=rfl;have h1:0<acc.length:=by simpa using h0
   simp[recL,this,h1]
 | n::L,acc,k,hL,hl,hk,h0=>by
   rw[List.length_cons]at hl hk;obtain ⟨j,rfl⟩:∃ j,k=j+1:=⟨k-1,by omega⟩;have hn:=hL n (by simp);have e:((n::L).flatMap fun n=>32::n)=[32]++(n++L.flatMap fun n=>32::n):=by simp
   have h4:=tw_app (p:=nmB) n (L.flatMap fun n=>32::n) (name_all hn) (fun c r h=>by
    cases L with
    | nil=>simp at h
    | cons b B=>simp at h;rw[← h.1];decide)
   rw[e,recL,(take_app [32] _).1,(take_app [32] _).2,if_pos rfl];dsimp only;rw[h4.1,h4.2,hn];simp only[Bool.not_true,Bool.false_or];rw[if_neg (by simp;omega),recL_print L (acc++[n]) j (fun x hx=>hL x (by simp[hx])) (by simp;omega) (by omega) (by simp;omega)];simp
theorem sRecvs_print{L:List (List UInt8)}(hL:∀ n∈L,isNameL n=true)(hl:L.length≤8)(h0:L≠[]):sRecvs (kRecv++recT L)=some L:=by
 unfold sRecvs recT;rw[(take_app kRecv _).1,(take_app kRecv _).2,if_pos rfl,recL_print L [] 10 hL (by simpa using hl) (by omega) (by have:=List.length_pos_iff.2 h0;simp;omega)]
 rfl
theorem name_no{n:List UInt8}(h:isNameL n=true):(10:UInt8)∉n:=by
 intro hm;have:=List.all_eq_true.1 (name_all h) 10 hm
 revert this;decide
theorem dec_no(n:Nat):(10:UInt8)∉Lib.decDigits n:=by
 induction n using Nat.strongRecOn with
 | ind n ih =>
   have hd:∀ d,d<10→(10:UInt8)≠UInt8.ofNat (48+d):=by decide +kernel
   rw[Lib.decDigits]
   split
   ·rename_i h
    intro hm;exact hd n h (List.mem_singleton.1 hm)
   ·intro hm
    rcases List.mem_append.1 hm with h|h
    ·exact ih (n / 10) (by omega) h
    ·exact hd (n % 10) (by omega) (List.mem_singleton.1 h)
theorem time_no{wd:List UInt8}(hw:(10:UInt8)∉wd){n:Int}(hn:-1≤n):(10:UInt8)∉timeT wd n:=by
 unfold timeT
 split
 ·simp
 ·have e:Lib.itoa n=Lib.decDigits n.toNat:=by unfold Lib.itoa;rw[if_neg (by omega)]
  rw[e];intro hm;rcases List.mem_append.1 hm with h|h
  ·exact hw h
  ·exact dec_no _ h
theorem kind_no(k:Nat):(10:UInt8)∉kindT k:=by
 unfold kindT
 split
 ·decide
 ·split
  ·decide
  ·split<;>decide
theorem rtT_no{c:CR}(hg:GoodCR c):(10:UInt8)∉rtT c:=by
 have hrc:(10:UInt8)∉c.rc:=by
  rcases hg.rc with h|h
  ·rw[h];decide
  ·exact name_no h
 have hby:(10:UInt8)∉byT c:=by
  unfold byT
  split
  ·intro hm
   rcases List.mem_append.1 hm with h|h
   ·revert h;decide
   ·unfold labT at h
    split at h
    ·revert h;decide
    ·have key:∀ B:List (List UInt8),(∀ n∈B,isNameL n=true)→(10:UInt8)∉labJ B:=by
      intro B;cases B with
      | nil=>intro _;simp[labJ]
      | cons b B =>
        intro hB;rw[labJ_flat];simp only[List.mem_append,List.mem_flatMap,List.mem_cons,not_or,not_exists,not_and];exact ⟨name_no (hB b (by simp)),fun n hn=>⟨by decide,name_no (hB n (by simp[hn]))⟩⟩
     exact key _ hg.bys h
  ·simp
 have hif:(10:UInt8)∉ifsT c.ifs:=by
  unfold ifsT matT;simp only[List.mem_flatMap,List.mem_append,not_exists,not_and,not_or];intro m hm;exact ⟨by decide,⟨name_no (hg.ifs m hm).name,kind_no _⟩,quoteV_no _⟩
 unfold rtT;simp only[List.mem_append,not_or];refine ⟨⟨⟨⟨⟨⟨⟨?_,by decide,hrc⟩,hby⟩,time_no (by decide) hg.wt.1⟩,time_no (by decide) hg.ev.1⟩,time_no (by decide) hg.rp.1⟩,hif⟩,?_⟩
 ·intro hm
  have:=List.eq_of_mem_replicate hm
  revert this;decide
 ·cases c.co
  ·simp
  ·decide
theorem rtL_tell{l:List UInt8}{c:CR}(h:rtL l=some c):c.tb=false→c.bys=[]:=by
 obtain ⟨_,_,_,_,_,_,rfl⟩:=sRoute_some _ _ h;intro ht;show (srB _).names=[];have ht':(srB l.dropLast).tells=false:=ht;unfold srB sBy at ht' ⊢
 split at ht'
 ·dsimp only at ht'
  split at ht'<;>cases ht'
 ·rename_i h1;rw[if_neg h1]
theorem mapM_print{C:List CR}(h:∀ c∈C,sRoute (rtT c)=some c):(C.map fun c=>rtT c++[10]).mapM rtL=some C:=by
 induction C with
 | nil=>rfl
 | cons c r ih =>
   rw[List.map_cons,mapM_cons'];have:rtL (rtT c++[10])=some c:=by unfold rtL;rw[List.dropLast_concat];exact h c (by simp)
   rw[this,ih (fun x hx=>h x (by simp[hx]))]
theorem recL_ne':∀ (k:Nat) (acc:List (List UInt8)) (l:List UInt8) (L:List (List UInt8)),recL k acc l=some L→L≠[]
 | 0,acc,l,L,h=>by simp[recL]at h
 | k+1,acc,l,L,h=>by
   unfold recL at h
   split at h
   ·dsimp only at h
    split at h
    ·cases h
    ·exact recL_ne' k _ _ L h
   ·split at h
    ·rename_i h2
     cases h
     simp at h2;exact List.length_pos_iff.1 h2.1
    ·cases h
theorem cRead_print{t:List UInt8}{L:List (List UInt8)}{C:List CR}(ht:t.length≤1048576)(h:cRead t=.ok (L,C))(hl:(cfgT L C).length≤1200):cRead (cfgT L C)=.ok (L,C):=by
 obtain ⟨c1,c2,c3,c4⟩:=cRead_tree h;obtain ⟨g1,g2,g3⟩:=cRead1_good t L C ht c1;obtain ⟨_,l0,ls,e1,e2,e3⟩:=(cRead1_lines t L C).1 c1;have hC:∀ c∈C,sRoute (rtT c)=some c:=fun c hc=>by
  obtain ⟨l,_,hl⟩:=mapM_mem rtL ls C e3 c hc;exact sRoute_print (g3 c hc) (rtL_asc hl) (rtL_tell hl)
 have hne:L≠[]:=by
  unfold sRecvs at e2
  split at e2
  ·exact recL_ne' _ _ _ _ e2
  ·cases e2
 have hfl:cfgT L C=((kRecv++recT L++[10])::C.map fun c=>rtT c++[10]).flatten:=by
  unfold cfgT rtsT;rw[List.flatten_cons,List.flatMap_def]
 have hrc:(10:UInt8)∉kRecv++recT L:=by
  unfold recT;simp only[List.mem_append,List.mem_flatMap,List.mem_cons,not_or,not_exists,not_and];exact ⟨by decide,fun n hn=>⟨by decide,name_no (g1 n hn)⟩⟩
 have hlk:lnsK (cfgT L C)=(kRecv++recT L++[10])::C.map fun c=>rtT c++[10]:=by
  rw[hfl];refine lns_flat _ (fun l hm=>?_);rcases List.mem_cons.1 hm with rfl|hm
  ·exact ⟨_,rfl,hrc⟩
  ·obtain ⟨c,hc,rfl⟩:=List.mem_map.1 hm
   exact ⟨_,rfl,rtT_no (g3 c hc)⟩
 have hr1:cRead1 (cfgT L C)=.ok (L,C) :=
  (cRead1_lines _ _ _).2 ⟨by rw[hlk,← hfl],_,_,hlk,by rw[List.dropLast_concat];exact sRecvs_print g1 g2 hne,mapM_print hC⟩
 unfold cRead at h ⊢;rw[c1]at h;rw[if_neg (by omega),hr1]
 split at h
 ·cases h
 ·exact h
open Go.RowKit
theorem hexDigit_any(n:Int)(w:World)(h0:0≤n)(h1:n≤15) :
 Calls Tryz.prog 96 #[.int .u8 n] w fun e w'=>e=.returned (.int .u8 (hexD n.toNat).toNat)∧w=w':=by
 by_cases h:n<10
 ·have hx:Hid ((hexD n.toNat).toNat=(48+n).toNat):=by
   show _=_;unfold hexD;rw[if_pos (by omega)];simp;omega
  go_enter Tryz.func96,Tryz.ntmps96
  go_wp2;go_ret;exact ⟨ret_int (by rw[hx.out];omega),rfl⟩
 ·have hx:Hid ((hexD n.toNat).toNat=(87+n).toNat):=by
   show _=_;unfold hexD;rw[if_neg (by omega)];simp;omega
  go_enter Tryz.func96,Tryz.ntmps96
  go_wp2;go_ret;exact ⟨ret_int (by rw[hx.out];omega),rfl⟩
theorem printKind_any(k:Nat)(w:World)(hk:k≤3) :
 Calls Tryz.prog 80 #[.int .i64 k] w fun e w'=>e=.returned (.string (bs (kindT k)))∧w=w':=by
 rcases (show k=0∨k=1∨k=2∨k=3 by omega) with rfl|rfl|rfl|rfl
 all_goals
  go_enter Tryz.func80,Tryz.ntmps80
  go_wp2;go_ret;exact ⟨rfl,rfl⟩
theorem wp_appB{ops:Array Oper}{rest:List Oper}{o:Oper}{a:Act}{Q:Exit→Act→World→Prop}(w:World)(hgd:o.guard=none)(s x:Operand)
 (ho:o.op=.call { callee:=.builtin .append,args:=#[s,x],argTypes:=#[84,84] })
 (base:Nat) (v:Value) (L:List UInt8) (m:List UInt8) (b1:Nat) (hs:a.eval s=v) (hown:w.ownsRow base 5 1 v L.length (byt L)) (hx:a.eval x=.slice (some ⟨b1,0,none⟩) m.length m.length)
 (hc:w.heap[b1]?=some (.cells (byt m).toArray 5 (0,0))) (hm:0<m.length) (hlen:L.length+m.length≤1048576) (hbase:base≤w.heap.size)
 (h:∀ g cap w',w'.ownsRow base 5 1 (.slice (some ⟨g,0,none⟩) (L.length+m.length) cap) (L.length+m.length) (byt (L++m))→w.grownBy w' v.ownBlock→base≤g→wpList Tryz.prog ops Q rest (a.put o.dst (.slice (some ⟨g,0,none⟩) (L.length+m.length) cap)) w') :
 wpList Tryz.prog ops Q (o::rest) a w:=by
 obtain ⟨i0,hi,hz0,hz1,hz2⟩:=info_parts infoU8;refine wpList_append_own w hgd s x 84 ho base 5 i0 (.int .u8 0) 1 1 Tryz.underlying84 hi hz0 hz1 hz2 rfl (by decide) v L.length (byt L) hs hown ⟨b1,0,none⟩ m.length m.length (byt m) hx (by simp[byt]) ?_ (fun x hx=>by simp[byt]at hx;obtain ⟨c,_,rfl⟩:=hx;rfl) (by unfold maxLen;omega) (by omega) hbase ?_
 ·intro j u hj
  rw[add0];simp[World.cell?,hc,hj]
 ·intro v' w' h1 h2 h3
  obtain ⟨g,cap,rfl⟩:=own_some h1 (fun e=>by have:=(h3.1 e).2;omega);exact h g cap w' (by simpa[byt] using h1) h2 (h1.lt g rfl).1
theorem printValue_any(v:List UInt8)(w:World)(hv:v.length≤40) :
 Calls Tryz.prog 81 #[.string (bs v)] w fun e w'=>e=.returned (.string (bs (quoteV v)))∧Frm [] w w':=by
 have hsz:=bs_size v;go_enter Tryz.func81,Tryz.ntmps81
 go_wp2_with fail
 go_loopg [3,4] v.length (fun k vt vi wr=>∃ (j:Nat) (g cap:Nat) (acc:List UInt8),j+k=v.length∧vi=.int .i64 j∧acc=[34]++(v.take j).flatMap quoteB∧vt=.slice (some ⟨g,0,none⟩) acc.length cap∧wr.ownsRow w.heap.size 5 1 vt acc.length (byt acc)∧Frm [] w wr)
 case atStart=>exact ⟨0,w.heap.size,1,[34],by omega,rfl,by simp,rfl,World.ownsRow_lit w #[.int .u8 34] 1 (Nat.le_refl _) (by unfold maxLen;omega) (by simp),(Frm.refl _ _).alloc _⟩
 case round =>
  obtain ⟨j,g,cap,acc,hj,rfl,hacc,rfl,hown,hfr⟩:=hrel;have Ha:Hid (acc=[34]++(v.take j).flatMap quoteB):=hacc;have Ho:Hid (wr.ownsRow w.heap.size 5 1 (.slice (some ⟨g,0,none⟩) acc.length cap) acc.length (byt acc)):=hown;have Hf:Hid (Frm [] w wr):=hfr;have hz:=hfr.size;have hal:acc.length≤1+4*40:=by
   rw[hacc];have:=quoteL_len (v.take j);simp at this ⊢;omega
  have hgb:=(hown.lt g rfl).1;clear hacc hown hfr
  by_cases hlt:j<v.length
  ·have hbg2:(bs v)[j]'(by rw[hsz];omega)=v[j]:=rfl
   have Ht:Hid (v.take (j+1)=v.take j++[v[j]]):=List.take_succ_eq_append_getElem hlt;generalize v[j]=c at *;have hu:=u8i c;have Ha2:Hid (∀ m,quoteB c=m→acc++m=[34]++(v.take (j+1)).flatMap quoteB):=by
    intro m hm;rw[Ht.out,Ha.out,← hm];simp
   clear Ha Ht;cases hp:plainB c.toNat
   ·have hq:Hid (quoteB c=[92,120,hexD (c.toNat / 16),hexD (c.toNat % 16)]):=by
     show _=_;unfold quoteB;rw[hp];rfl
    go_wp2_with fail
    refine (isPlain_any _ _).mono ?_;rintro e w' ⟨rfl,rfl⟩;go_wp2_with fail
    refine (hexDigit_any _ _ (by omega) (by omega)).mono ?_;rintro e w' ⟨rfl,rfl⟩;rw[show ((c.toNat:Int) / 16).toNat=c.toNat / 16 by omega];go_wp2_with fail
    refine (hexDigit_any _ _ (by omega) (by omega)).mono ?_;rintro e w' ⟨rfl,rfl⟩;rw[show ((c.toNat:Int) % 16).toNat=c.toNat % 16 by omega];generalize hexD (c.toNat / 16)=x1 at *;generalize hexD (c.toNat % 16)=x2 at *;go_wp2_with (first | (at_builtin;refine wp_appB _ rfl _ _ rfl w.heap.size (.slice (some ⟨g,0,none⟩) (acc).length cap) (acc) [92,120,x1,x2] wr.heap.size rfl (by exact own_frm (S:=[]) Ho.out ((Frm.refl _ _).alloc _) (by simp)) rfl (by exact heap1 _ _) (by simp) (by simp;omega) (by simp;omega) ?_;intro g2 cap2 w2 hs2 hg2 hb2))
    go_roundg (gk-1)
    case measure=>omega
    case rel =>
     refine ⟨j+1,g2,cap2,acc++[92,120,x1,x2],by omega,by go_num,Ha2.out _ hq.out,by simp,by simpa using hs2,?_⟩;exact (Hf.out.alloc _).grown1 (base:=0) hg2 (fun k hk=>by simp[Value.ownBlock]at hk;omega)
   ·by_cases hqb:(c==34||c==92)=true
    ·have hq:Hid (quoteB c=[92,c]):=by
      show _=_;unfold quoteB;rw[hp];simp only[Bool.not_true,Bool.false_eq_true,if_false,hqb,if_true]
     have hor:((c.toNat:Int)==34)=true∨(((c.toNat:Int)==34)=false∧((c.toNat:Int)==92)=true):=by
      rw[Bool.or_eq_true,beq_iff_eq,beq_iff_eq]at hqb;rcases hqb with rfl|rfl
      ·exact Or.inl rfl
      ·exact Or.inr ⟨rfl,rfl⟩
     clear hqb;rcases hor with h34|⟨h34,h92⟩
     all_goals
      go_wp2_with (first | (go_at_call 95;refine (isPlain_any _ _).mono ?_;rintro e w' ⟨rfl,rfl⟩)|(at_builtin;refine wp_appB _ rfl _ _ rfl w.heap.size (.slice (some ⟨g2,0,none⟩) (acc.length+1) cap2) (acc++[92]) [c] w2.heap.size rfl (by exact own_frm (S:=[]) (w:=w2) (by simpa using hs2) ((Frm.refl _ _).alloc _) (by simp)) rfl (by exact heap1 _ _) (by simp) (by simp;omega) (by simp;omega) ?_;intro g2b cap2b w2b hs2b hg2b hb2b)|(at_builtin;refine wp_appB _ rfl _ _ rfl w.heap.size (.slice (some ⟨g,0,none⟩) (acc).length cap) (acc) [92] wr.heap.size rfl (by exact own_frm (S:=[]) Ho.out ((Frm.refl _ _).alloc _) (by simp)) rfl (by exact heap1 _ _) (by simp) (by simp;omega) (by simp;omega) ?_;intro g2 cap2 w2 hs2 hg2 hb2);have hz2:=hg2.size;simp at hz2)
      go_roundg (gk-1)
      case measure=>omega
      case rel =>
       refine ⟨j+1,g2b,cap2b,acc++[92,c],by omega,by go_num,Ha2.out _ hq.out,by simp,by simpa using hs2b,?_⟩;exact (((Hf.out.alloc _).grown1 (base:=0) hg2 (fun k hk=>by simp[Value.ownBlock]at hk;omega)).alloc _).grown1 (base:=0) hg2b (fun k hk=>by simp[Value.ownBlock]at hk;omega)
    ·have hq:Hid (quoteB c=[c]):=by
      show _=_;unfold quoteB;rw[hp];simp only[Bool.not_true,Bool.false_eq_true,if_false,hqb]
     have h34:((c.toNat:Int)==34)=false:=by
      rw[beq_eq_false_iff_ne];intro h;have:c=34:=UInt8.toNat_inj.1 (by simpa using (Int.ofNat_inj.1 h));subst this;simp at hqb
     have h92:((c.toNat:Int)==92)=false:=by
      rw[beq_eq_false_iff_ne];intro h;have:c=92:=UInt8.toNat_inj.1 (by simpa using (Int.ofNat_inj.1 h));subst this;simp at hqb
     clear hqb;go_wp2_with (first | (go_at_call 95;refine (isPlain_any _ _).mono ?_;rintro e w' ⟨rfl,rfl⟩)|(at_builtin;refine wp_appB _ rfl _ _ rfl w.heap.size (.slice (some ⟨g,0,none⟩) (acc).length cap) (acc) [c] wr.heap.size rfl (by exact own_frm (S:=[]) Ho.out ((Frm.refl _ _).alloc _) (by simp)) rfl (by exact heap1 _ _) (by simp) (by simp;omega) (by simp;omega) ?_;intro g2 cap2 w2 hs2 hg2 hb2))
     go_roundg (gk-1)
     case measure=>omega
     case rel =>
      refine ⟨j+1,g2,cap2,acc++[c],by omega,by go_num,Ha2.out _ hq.out,by simp,by simpa using hs2,?_⟩;exact (Hf.out.alloc _).grown1 (base:=0) hg2 (fun k hk=>by simp[Value.ownBlock]at hk;omega)
  ·have hq:Hid (quoteV v=acc++[34]):=by
    show _=_;rw[Ha.out,List.take_of_length_le (by omega)];rfl
   have hcv:∀ g2 cap2 w2,w2.ownsRow w.heap.size 5 1 (.slice (some ⟨g2,0,none⟩) (acc.length+1) cap2) (acc.length+1) (byt (acc++[34]))→(convert 84 9 (.slice (some ⟨g2,0,none⟩) (acc.length+1) cap2)).run Tryz.prog w2=.ok (.string (bs (acc++[34]))) w2:=by
    intro g2 cap2 w2 hs2;have:=run_convert_bytes_back (P:=Tryz.prog) w2 84 9 5 ⟨g2,0,none⟩ cap2 (acc++[34]) Tryz.underlying84 Tryz.underlying5 Tryz.underlying9 (fun j hj=>by
     refine hs2.cells rfl j _ ?_;unfold byt;rw[List.getElem?_map,List.getElem?_eq_getElem hj];rfl)
    have hle:(acc++[34]).length=acc.length+1:=by simp
    rw[hle]at this;exact this
   go_wp2_with (first | (at_builtin;refine wp_appB _ rfl _ _ rfl w.heap.size (.slice (some ⟨g,0,none⟩) (acc).length cap) (acc) [34] wr.heap.size rfl (by exact own_frm (S:=[]) Ho.out ((Frm.refl _ _).alloc _) (by simp)) rfl (by exact heap1 _ _) (by simp) (by simp;omega) (by simp;omega) ?_;intro g2 cap2 w2 hs2 hg2 hb2);have hcv2:=hcv _ _ _ (by simpa using hs2))
   go_ret;rw[hq.out];exact ⟨rfl,(Hf.out.alloc _).grown1 (base:=0) hg2 (fun k hk=>by simp[Value.ownBlock]at hk;omega)⟩
end Go.Proofs.YtpcbbbilmpobaaaGreatDoor
namespace Go.Proofs
open Go.Shelf
def Tryz.laysM171_ren:Go.Shelf.Ren:=⟨fun|171=>79|243=>94|246=>106|283=>118|284=>119|285=>120|286=>121|129=>132|317=>131|318=>133|319=>134|320=>135|337=>145|338=>146|n=>n,fun|3=>3|9=>9|2=>2|4=>4|171=>211|0=>0|53=>193|37=>84|5=>5|173=>214|212=>222|51=>223|20=>20|213=>224|46=>225|232=>237|233=>238|n=>n,fun|17=>0|18=>1|19=>2|n=>n⟩
theorem Tryz.laysM171:Go.Proofs.LaysM.n171 Tryz.prog Tryz.laysM171_ren:={
 mixed:=by kernel_rfl
 f129:=Tryz.func132.trans (congrArg some (by kernel_rfl))
 f171:=Tryz.func79.trans (congrArg some (by kernel_rfl))
 f243:=Tryz.func94.trans (congrArg some (by kernel_rfl))
 f246:=Tryz.func106.trans (congrArg some (by kernel_rfl))
 f283:=Tryz.func118.trans (congrArg some (by kernel_rfl))
 f284:=Tryz.func119.trans (congrArg some (by kernel_rfl))
 f285:=Tryz.func120.trans (congrArg some (by kernel_rfl))
 f286:=Tryz.func121.trans (congrArg some (by kernel_rfl))
 f317:=Tryz.func131.trans (congrArg some (by kernel_rfl))
 f318:=Tryz.func133.trans (congrArg some (by kernel_rfl))
 f319:=Tryz.func134.trans (congrArg some (by kernel_rfl))
 f320:=Tryz.func135.trans (congrArg some (by kernel_rfl))
 f337:=Tryz.func145.trans (congrArg some (by kernel_rfl))
 f338:=Tryz.func146.trans (congrArg some (by kernel_rfl))
 t0:=Tryz.underlying0
 a0:=Tryz.isAgg0
 z0:=Tryz.sizeOf0
 v0:=Tryz.zeroValue0
 t2:=Tryz.underlying2
 a2:=Tryz.isAgg2
 z2:=Tryz.sizeOf2
 v2:=Tryz.zeroValue2
 t3:=Tryz.underlying3
 a3:=Tryz.isAgg3
 z3:=Tryz.sizeOf3
 v3:=Tryz.zeroValue3
 t4:=Tryz.underlying4
 a4:=Tryz.isAgg4
 z4:=Tryz.sizeOf4
 v4:=Tryz.zeroValue4
 t5:=Tryz.underlying5
 a5:=Tryz.isAgg5
 z5:=Tryz.sizeOf5
 v5:=Tryz.zeroValue5
 t9:=Tryz.underlying9
 a9:=Tryz.isAgg9
 z9:=Tryz.sizeOf9
 v9:=Tryz.zeroValue9
 t20:=Tryz.underlying20
 a20:=Tryz.isAgg20
 z20:=Tryz.sizeOf20
 v20:=Tryz.zeroValue20
 t37:=Tryz.underlying84
 a37:=Tryz.isAgg84
 z37:=Tryz.sizeOf84
 v37:=Tryz.zeroValue84
 t46:=Tryz.underlying225
 a46:=Tryz.isAgg225
 z46:=Tryz.sizeOf225
 v46:=Tryz.zeroValue225
 t51:=Tryz.underlying223
 a51:=Tryz.isAgg223
 z51:=Tryz.sizeOf223
 v51:=Tryz.zeroValue223
 t53:=Tryz.underlying193
 a53:=Tryz.isAgg193
 z53:=Tryz.sizeOf193
 v53:=Tryz.zeroValue193
 t171:=Tryz.underlying211
 a171:=Tryz.isAgg211
 z171:=Tryz.sizeOf211
 v171:=Tryz.zeroValue211
 t173:=Tryz.underlying214
 a173:=Tryz.isAgg214
 z173:=Tryz.sizeOf214
 v173:=Tryz.zeroValue214
 t212:=Tryz.underlying222
 a212:=Tryz.isAgg222
 z212:=Tryz.sizeOf222
 v212:=Tryz.zeroValue222
 t213:=Tryz.underlying224
 a213:=Tryz.isAgg224
 z213:=Tryz.sizeOf224
 t232:=Tryz.underlying237
 a232:=Tryz.isAgg237
 z232:=Tryz.sizeOf237
 v232:=Tryz.zeroValue237
 t233:=Tryz.underlying238
 a233:=Tryz.isAgg238
 z233:=Tryz.sizeOf238
 v233:=Tryz.zeroValue238
 g17:=by kernel_rfl
 g18:=by kernel_rfl
 g19:=by kernel_rfl
 i0:=by kernel_rfl
 i2:=by kernel_rfl
 i3:=by kernel_rfl
 i4:=by kernel_rfl
 i5:=by kernel_rfl
 i9:=by kernel_rfl
 i20:=by kernel_rfl
 i37:=by kernel_rfl
 i46:=by kernel_rfl
 i51:=by kernel_rfl
 i53:=by kernel_rfl
 i171:=by kernel_rfl
 i173:=by kernel_rfl
 i212:=by kernel_rfl
 i232:=by kernel_rfl
 i233:=by kernel_rfl
 m17:=by kernel_rfl
 m18:=by kernel_rfl
 m19:=by kernel_rfl }
open Go.RowKit Go.Sort Go.Lib in
theorem Tryz.strconv_Itoa (n : Int) (h0 : -9223372036854775808 ≤ n) (h1 : n ≤ 9223372036854775807) (w : World) (htab : Lib.TabIs Tryz.prog w "internal/strconv.uint64pow10" .u64 Lib.pow10Tab) :
 Calls Tryz.prog 79 #[.int .i64 n] w fun e w'=>e=.returned (.string ⟨(Lib.itoa n).toArray⟩)∧∃ k os,w'=grow (w.drewN k) os:=Any.strconv_Itoa Tryz.laysM171 n h0 h1 w htab
end Go.Proofs
namespace Go.Proofs.YtpcbbbilmpobaaaGreatDoor
open Go.RowKit
def Tab (w : World) : Prop := Lib.TabIs Tryz.prog w "internal/strconv.uint64pow10" .u64 Lib.pow10Tab
theorem gPow : Tryz.prog.globalNamed "internal/strconv.uint64pow10" = some 0 := by kernel_rfl
theorem Tab.frm{S:List Nat}{w w':World}(h:Tab w)(f:Frm S w w')(hS:0∉S):Tab w':=by
 have hlt:0<w.heap.size:=World.block_lt_of_cell? w _ (h.cell gPow 0 (by decide));unfold Tab Lib.TabIs at *;rw[← h];simp only[World.var?,gPow,Option.bind_some,f.block 0 hlt hS]
theorem Frm.of_grow'{w:World}(k:Nat)(os:Array Obj):Frm [] w (Sort.grow (w.drewN k) os) :=
 ⟨rfl,rfl,rfl,by rw[Sort.size_grow];show w.heap.size≤w.heap.size+os.size;omega,fun i hi _=>Sort.heap_grow_old (w.drewN k) os hi⟩
theorem dec_len:∀ (k n:Nat),n<10 ^ (k+1)→(Lib.decDigits n).length≤k+1
 | 0,n,h=>by rw[Lib.decDigits,dif_pos (by simpa using h)];simp
 | k+1,n,h=>by
   rw[Lib.decDigits]
   split
   ·simp
   ·have:=dec_len k (n / 10) (by rw[Nat.pow_succ]at h;omega)
    simp;omega
theorem itoa_len(n:Int)(h0:0≤n)(h1:n≤99999):(Lib.itoa n).length≤5:=by
 unfold Lib.itoa;rw[if_neg (by omega)];exact dec_len 4 _ (by omega)
theorem printTime_any(wd:List UInt8)(n:Int)(w:World)(ht:Tab w)(h0:-1≤n)(h1:n≤99999)(hw:wd.length≤10) :
 Calls Tryz.prog 63 #[.string (bs wd), .int .i64 n] w fun e w'=>e=.returned (.string (bs (timeT wd n)))∧Frm [] w w':=by
 have HT:Hid (Tab w):=ht;clear ht;cases hn:(n == -1)
 ·have hne:n≠-1:=by simpa using hn
  have Hx:Hid (timeT wd n=wd++Lib.itoa n):=by show _=_;unfold timeT;rw[if_neg hne]
  have hl:=itoa_len n (by omega) h1;have hsz:=bs_size;have hap:=bs_append;go_enter Tryz.func63,Tryz.ntmps63
  go_wp2_with fail
  refine (Tryz.strconv_Itoa n (by omega) (by omega) _ HT.out).mono ?_;rintro e w' ⟨rfl,k,os,rfl⟩;have hbs:(⟨(Lib.itoa n).toArray⟩:ByteArray)=bs (Lib.itoa n):=rfl;rw[hbs];generalize Lib.itoa n=it at *;clear hbs;go_wp2;go_ret;rw[Hx.out];exact ⟨rfl,Frm.of_grow' k os⟩
 ·have hne:n=-1:=by simpa using hn
  have Hx:Hid (timeT wd n=[]):=by show _=_;unfold timeT;rw[if_pos hne]
  go_enter Tryz.func63,Tryz.ntmps63
  go_wp2;go_ret;rw[Hx.out];exact ⟨rfl,Frm.refl _ _⟩
theorem kindT_len(k:Nat):(kindT k).length≤2:=by
 unfold kindT
 split
 ·simp
 split
 ·simp
 split<;>simp
theorem quoteV_len(v:List UInt8):(quoteV v).length≤4*v.length+2:=by
 unfold quoteV;have:=quoteL_len v;simp at this ⊢;omega
theorem printMatcher_any(m:CM)(w:World)(hg:GoodM m) :
 Calls Tryz.prog 64 #[.agg #[.string (bs m.1), .int .i64 m.2.1, .string (bs m.2.2)]] w fun e w'=>e=.returned (.string (bs (matT m)))∧Frm [] w w':=by
 obtain ⟨n,k,v⟩:=m;have h1:=isNameL_len hg.name;have h2:=hg.kind;have h3:=hg.val;have h4:=kindT_len k;have h5:=quoteV_len v;simp only at h1 h2 h3;clear hg;have hsz:=bs_size;have hap:=bs_append;have Hx:Hid (matT (n,k,v)=n++kindT k++quoteV v):=rfl;go_enter Tryz.func64,Tryz.ntmps64
 go_wp2_with fail
 refine (printKind_any k _ h2).mono ?_;rintro e w' ⟨rfl,rfl⟩;generalize kindT k=kt at *;generalize hq:quoteV v=qt at *;have Hq:Hid (quoteV v=qt):=hq;clear hq;have n1:¬ (9223372036854775807<n.length+kt.length):=by omega
 have n2:¬ (9223372036854775807<n.length+kt.length+qt.length):=by omega
 go_wp2_with fail
 go_region_with (go_at_call 81;refine (printValue_any v _ h3).mono ?_;rintro e w' ⟨rfl,hf⟩;rw[Hq.out];have q0:=hf.cell (p:=⟨w.heap.size,0,none⟩) (by simp) (by simp);have Hf:=hide hf;clear hf)
 all_goals
  go_wp2;go_ret;rw[Hx.out];exact ⟨ret_str (by simp),((((Frm.refl _ _).alloc _).drew).trans Hf.out)⟩
open Go.RowKit
theorem labJ_snoc:∀ (L:List (List UInt8)) (x:List UInt8),L≠[]→labJ (L++[x])=labJ L++[44]++x
 | [],x,h=>absurd rfl h
 | [y],x,_=>rfl
 | y::z::r,x,_=>by
   have:=labJ_snoc (z::r) x (by simp);show y++[44]++labJ ((z::r)++[x])=y++[44]++labJ (z::r)++[44]++x;rw[this];simp
theorem labJ_len:∀ (L:List (List UInt8)),(∀ x∈L,x.length≤8)→(labJ L).length≤9*L.length
 | [],_=>by simp[labJ]
 | [y],h=>by have:=h y (by simp);simp[labJ];omega
 | y::z::r,h=>by
   have h1:=labJ_len (z::r) (fun x hx=>h x (by simp[hx]));have h2:=h y (by simp);simp only[labJ,List.length_append,List.length_cons,List.length_nil]at h1 ⊢;omega
theorem printLabels_any(v:Value)(L:List (List UInt8))(w:World)(h:RS 0 w v L)(hL:L.length≤4)(hn:∀ x∈L,x.length≤8) :
 Calls Tryz.prog 62 #[v] w fun e w'=>e=.returned (.string (bs (labT L)))∧w=w':=by
 obtain ⟨a,cap,rfl,h1,h2,h3⟩:=h;have H3:Hid (∀ j (h:j<L.length),∃ g off,a=some ⟨g,off,none⟩∧0≤g∧w.cell? ⟨g,off+j,none⟩=some (.string (bs L[j]))):=h3;have HN:Hid (∀ x∈L,x.length≤8):=hn;clear h3 hn;have hsz:=bs_size;have hap:=bs_append;have h44:({ data:=#[44] }:ByteArray)=bs [44]:=rfl
 by_cases h0:L.length=0
 ·have hb:((L.length:Int)==0)=true:=by simp[h0]
  have Hx:Hid (labT L=[45]):=by show _=_;rw[List.eq_nil_of_length_eq_zero h0];rfl
  go_enter Tryz.func62,Tryz.ntmps62
  go_wp2;go_ret;rw[Hx.out];exact ⟨rfl,rfl⟩
 have hb:((L.length:Int)==0)=false:=beq_eq_false_iff_ne.2 (by omega);have Hx:Hid (labT L=labJ L):=by
  show _=_;unfold labT;cases L with
  | nil=>simp at h0
  | cons=>rfl
 go_enter Tryz.func62,Tryz.ntmps62
 go_wp2_with fail
 go_loopg [3,11] L.length (fun k vt i wr=>∃ j,j+k=L.length∧i=.int .i64 j∧vt=.string (bs (labJ (L.take j)))∧wr=w)
 case atStart=>exact ⟨0,by omega,rfl,rfl,rfl⟩
 case round =>
  obtain ⟨j,hj,rfl,rfl,hw⟩:=hrel;subst hw
  by_cases hlt:j<L.length
  ·obtain ⟨g,off,rfl,_,hc⟩:=H3.out j hlt
   have hx8:=HN.out _ (List.getElem_mem hlt);have htl:(labJ (L.take j)).length≤9*4:=by
    have:=labJ_len (L.take j) (fun x hx=>HN.out x (List.mem_of_mem_take hx));simp at this;omega
   have Ht:Hid (L.take (j+1)=L.take j++[L[j]]):=List.take_succ_eq_append_getElem hlt;have Hj0:Hid (j=0→L.take j=[]):=by intro e;subst e;rfl
   have Hj1:Hid (0<j→L.take j≠[]):=by
    intro e h;have:=congrArg List.length h;simp at this;rcases this with h|h
    ·omega
    ·subst h;simp at hlt
   generalize L[j]=x at *;generalize L.take j=T at *
   by_cases hj0:0<j
   ·have hd:decide ((0:Int)<(j:Int))=true:=decide_eq_true (by omega)
    have Hy:Hid (labJ (L.take (j+1))=labJ T++[44]++x):=by show _=_;rw[Ht.out,labJ_snoc T x (Hj1.out hj0)]
    generalize labJ T=tx at *;go_wp2;go_roundg (gk-1)
    case measure=>omega
    case rel =>
     refine ⟨j+1,by omega,by go_num,?_,rfl⟩;rw[Hy.out];simp
   ·have hd:decide ((0:Int)<(j:Int))=false:=decide_eq_false (by omega)
    have hT:T=[]:=Hj0.out (by omega);have Hy:Hid (labJ (L.take (j+1))=labJ T++x):=by show _=_;rw[Ht.out,hT];rfl
    clear hT;generalize labJ T=tx at *;go_wp2;go_roundg (gk-1)
    case measure=>omega
    case rel =>
     refine ⟨j+1,by omega,by go_num,?_,rfl⟩;rw[Hy.out]
  ·have Ht:Hid (L.take j=L):=List.take_of_length_le (by omega)
   rw[Ht.out];go_wp2;go_ret;rw[Hx.out];exact ⟨rfl,rfl⟩
end Go.Proofs.YtpcbbbilmpobaaaGreatDoor
