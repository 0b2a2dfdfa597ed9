import Derived.Test.YtgbdcmpmmkfbhaaGreatJ5
import Derived.Deep.RegionLaw
import Derived.Test.YtgbdcmpmmkfbhaaGreatJ1
set_option linter.unusedVariables false
set_option linter.unusedSimpArgs false
set_option linter.unnecessarySimpa false
set_option maxRecDepth 100000
set_option maxHeartbeats 4000000
namespace Go.Proofs.YtgbdcmpmmkfbhaaGreat
variable {a w w':World} {base' cb rb:Nat} {S:LN} {v vr vt:Value}
open Go.RowKit
def gQ(l:LB):Nat × Bool × LB :=
 if aL [61,126] l then (2,true,aJ [61,126] l)
 else if aL [33,126] l then (3,true,aJ [33,126] l)
 else if aL [33,61] l then (1,true,aJ [33,61] l)
 else (0,aL [61] l,aJ [61] l)
theorem Yh(b:Nat)(t l:LB)(w:World)(h:At w b t l) :
 Calls Tryz.prog 94 #[.pointer (some ⟨b,0,none⟩)] w λe w'=>e=.returned (.tuple #[.int .i64 (gQ l).1,.bool (gQ l).2.1])/\At w' b t (gQ l).2.2/\aA [b] w w':=by
 have H:Z_ (At w b t l):=h;clear h;go_enter Tryz.func94,Tryz.ntmps94
 go_wp2_with fail
 refine(fV b t l [61,126] _ H.o (by simp)).mono ?_;rintro e w1 ⟨rfl,h1,aZ⟩;cases gM:aL [61,126] l
 case true =>
  have Hx:Z_ (gQ l=(2,true,aJ [61,126] l)):=by
   show gQ l=_;unfold gQ;rw[gM];rfl
  have H1:Z_ (At w1 b t (aJ [61,126] l)/\aA [b] w w1):=⟨h1,aZ⟩;clear h1 aZ;go_wp2;go_ret2;rw[Hx.o];exact⟨rfl,H1.o.1,H1.o.2⟩
 case false =>
 rw[jc gM]at h1;have H1:Z_ (At w1 b t l):=h1;have qy:Z_ (aA [b] w w1):=aZ;have T1:Z_ (aL [61,126] l=false):=gM;clear h1 aZ;go_wp2_with fail
 refine(fV b t l [33,126] _ H1.o (by simp)).mono ?_;rintro e w2 ⟨rfl,h2,aS⟩;have xY:Z_ (aA [b] w w2):=qy.o.trans aS;clear aS gM;cases DN:aL [33,126] l
 case true =>
  have Hx:Z_ (gQ l=(3,true,aJ [33,126] l)):=by
   show gQ l=_;unfold gQ;rw[T1.o,DN];rfl
  have H2:Z_ (At w2 b t (aJ [33,126] l)):=h2;clear h2;go_wp2;go_ret2;rw[Hx.o];exact⟨rfl,H2,xY⟩
 case false =>
 rw[jc DN]at h2;have H2:Z_ (At w2 b t l):=h2;have T2:Z_ (aL [33,126] l=false):=DN;clear h2;go_wp2_with fail
 refine(fV b t l [33,61] _ H2.o (by simp)).mono ?_;rintro e w3 ⟨rfl,h3,bZ⟩;have UZ:Z_ (aA [b] w w3):=xY.o.trans bZ;clear bZ DN;cases iJ:aL [33,61] l
 case true =>
  have Hx:Z_ (gQ l=(1,true,aJ [33,61] l)):=by
   show gQ l=_;unfold gQ;rw[T1.o,T2.o,iJ];rfl
  have H3:Z_ (At w3 b t (aJ [33,61] l)):=h3;clear h3;go_wp2;go_ret2;rw[Hx.o];exact⟨rfl,H3,UZ⟩
 case false =>
 rw[jc iJ]at h3;have T3:Z_ (aL [33,61] l=false):=iJ;have H3:Z_ (At w3 b t l):=h3;clear h3 iJ;go_wp2_with fail
 refine(fV b t l [61] _ H3.o (by simp)).mono ?_;rintro e w4 ⟨rfl,h4,nR⟩;have HF4:Z_ (aA [b] w w4):=UZ.o.trans nR;have Hx:Z_ (gQ l=(0,aL [61] l,aJ [61] l)):=by
  show gQ l=_;unfold gQ;rw[T1.o,T2.o,T3.o];rfl
 have H4:Z_ (At w4 b t (aJ [61] l)):=h4;clear h4 nR;go_wp2;go_ret2;rw[Hx.o];exact⟨rfl,H4,HF4⟩
def bP(wd l:LB):Int × Bool × LB :=
 if aL wd l then (((jU (aJ wd l)).1:Int),(jU (aJ wd l)).2.1,(jU (aJ wd l)).2.2) else (-1,true,l)
theorem Bo(b:Nat)(t l wd:LB)(w:World)(h:At w b t l)(hw:wd.length<=1048576) :
 Calls Tryz.prog 81 #[.pointer (some ⟨b,0,none⟩),.string (bs wd)] w λe w'=>e=.returned (.tuple #[.int .i64 (bP wd l).1,.bool (bP wd l).2.1])/\At w' b t (bP wd l).2.2/\aA [b] w w':=by
 have H:Z_ (At w b t l):=h;clear h;go_enter Tryz.func81,Tryz.ntmps81
 go_wp2_with fail
 refine(fV b t l wd _ H.o hw).mono ?_;rintro e w1 ⟨rfl,h1,aZ⟩;cases gM:aL wd l
 case false =>
  have Hx:Z_ (bP wd l=(-1,true,l)):=by
   show bP wd l=_;unfold bP;rw[gM];rfl
  rw[jc gM]at h1;have H1:Z_ (At w1 b t l/\aA [b] w w1):=⟨h1,aZ⟩;clear h1 aZ;go_wp2;go_ret2;rw[Hx.o];exact⟨rfl,H1.o.1,H1.o.2⟩
 case true =>
 have Hx:Z_ (bP wd l=(((jU (aJ wd l)).1:Int),(jU (aJ wd l)).2.1,(jU (aJ wd l)).2.2)):=by
  show bP wd l=_;unfold bP;rw[gM];rfl
 have H1:Z_ (At w1 b t (aJ wd l)/\aA [b] w w1):=⟨h1,aZ⟩;clear h1 aZ;go_wp2_with fail
 refine(Sq b t _ _ H1.o.1).mono ?_;rintro e w2 ⟨rfl,h2,aS⟩;have H2:Z_ (At w2 b t (jU (aJ wd l)).2.2/\aA [b] w w2):=⟨h2,H1.o.2.trans aS⟩;clear h2 aS;go_wp2;go_ret2;rw[Hx.o];exact⟨rfl,H2.o.1,H2.o.2⟩
abbrev CM:=LB × Nat × LB
def jB(l:LB):CM × Bool × LB :=
 let n:=l.takeWhile bA
 let l1:=l.dropWhile bA
 let k:=gQ l1
 let v:=nS k.2.2
 ((n,k.1,v.1),aI n&&k.2.1&&v.2.1,v.2.2)
def Zh(m:CM):Value:=.agg #[.string (bs m.1),.int .i64 m.2.1,.string (bs m.2.2)]
theorem Pe(b:Nat)(t l:LB)(w:World)(h:At w b t l) :
 Calls Tryz.prog 82 #[.pointer (some ⟨b,0,none⟩)] w λe w'=>e=.returned (.tuple #[Zh (jB l).1,.bool (jB l).2.1])/\At w' b t (jB l).2.2/\aA [b] w w':=by
 have hb:=h.lt;have H:Z_ (At w b t l):=h;clear h;go_enter Tryz.func82,Tryz.ntmps82
 go_wp2_with fail
 refine(sJ b t l _ (H.o.aB (S:=[]) ((aA.refl _ _).alloc _) (by simp))).mono ?_;rintro e w1 ⟨rfl,h1,aZ⟩;have H1:Z_ (At w1 b t (l.dropWhile bA)):=h1;clear h1;go_wp2_with fail
 refine(Yh b t _ _ H1).mono ?_;rintro e w2 ⟨rfl,h2,aS⟩;have acv:=aZ.trans aS;clear aZ aS;go_wp2_with fail
 refine(U7 b t _ _ h2).mono ?_;rintro e w3 ⟨rfl,h3,bZ⟩;have hf:=acv.trans bZ;clear acv bZ h2;have hO:=(hf.block w.heap.size (by simp) (by simp;omega)).trans (heap_alloc_new w _);have hz:=hf.size;have HF:Z_ (aA [b] w w3):=((aA.refl [b] w).alloc _).trans hf;have H3:Z_ (At w3 b t (jB l).2.2):=h3;clear hf h3;have ca:w3.cell? ⟨w.heap.size,0,none⟩=some (.string ⟨#[]⟩):=by simp[World.cell?,hO]
 have cb:w3.cell? ⟨w.heap.size,1,none⟩=some (.int .i64 0):=by simp[World.cell?,hO]
 have cc:w3.cell? ⟨w.heap.size,2,none⟩=some (.string ⟨#[]⟩):=by simp[World.cell?,hO]
 have q0:∀o,w3.frozen? ⟨w.heap.size,o,none⟩=false:=by intro o;simp[World.frozen?,hO]
 have hz':w.heap.size<w3.heap.size:=by simp at hz;omega
 have Hm:Z_ (jB l=((l.takeWhile bA,(gQ (l.dropWhile bA)).1,(nS (gQ (l.dropWhile bA)).2.2).1),aI (l.takeWhile bA)&&(gQ (l.dropWhile bA)).2.1&&(nS (gQ (l.dropWhile bA)).2.2).2.1,(nS (gQ (l.dropWhile bA)).2.2).2.2)):=rfl;clear hO hz;generalize nS (gQ (l.dropWhile bA)).2.2=sv at *;generalize gQ (l.dropWhile bA)=sk at *;generalize l.takeWhile bA=nm at *;obtain⟨v1,v2,v3⟩:=sv;obtain⟨k1,k2,k3⟩:=sk;cases hn:aI nm<;>cases k2
 all_goals
  go_wp2;refine bodyPost_ret (v:=.tuple #[Zh (nm,k1,v1),.bool _]) (by simp[results,Tryz.results82,go_sem,Zh,ca,cb,cc,hz']<;>rfl) rfl ?_;rw[Hm.o];refine⟨by simp[hn],?_,?_⟩
  ·rw[Hm.o]at H3
   exact H3.o.aB (S:=[w.heap.size]) (((((aA.refl _ _).setCell (by simp) _).setCell (by simp) _).setCell (by simp) _).alloc _) (by simp;omega)
  exact(((HF.o.setCell (by simp) _).setCell (by simp) _).setCell (by simp) _).alloc _
theorem Vb(v:Value)(L:List LB)(n:LB)(w:World)(h:RS 0 w v L) :
 Calls Tryz.prog 26 #[v,.string (bs n)] w λe w'=>e=.returned (.bool (L.contains n))/\w=w':=by
 obtain⟨a,cap,rfl,h1,h2,h3⟩:=h;have H3:Z_ (∀j (h:j<L.length),∃g off,a=some ⟨g,off,none⟩/\0<=g/\w.cell? ⟨g,off+j,none⟩=some (.string (bs L[j]))):=h3;clear h3;have hl:=bg;go_enter Tryz.func26,Tryz.ntmps26
 go_wp2;go_loopg [9] L.length (λk i wr=>∃j,j+k=L.length/\i=.int .i64 j/\wr=w/\(L.take j).contains n=false)
 case atStart=>exact⟨0,by omega,rfl,rfl,by simp⟩
 case round =>
  obtain⟨j,hj,rfl,hw,ja⟩:=hrel;subst hw;have mi:Z_ ((L.take j).contains n=false):=ja;clear ja
  by_cases aO:j<L.length
  ·obtain⟨g,off,rfl,_,hc⟩:=H3.o j aO
   cases he:(L[j]==n)
   ·have xz:Z_ ((L.take (j+1)).contains n=false):=by
     show(L.take (j+1)).contains n=false;have ja:=mi.o;rw[a0I aO];simp only[a2F,a1i,a0b,a0y]at ja |-;intro h;rcases h with h|h
     ·exact ja h
     rw[h]at he;simp at he
    go_wp2;go_roundg (gk-1)
    case measure=>omega
    case rel=>exact⟨j+1,by omega,by go_num,rfl,xz⟩
   have hg:Z_ (L.contains n=true):=by
    show L.contains n=true;rw[a2F,a1E,<-a0X.1 he];exact a0z _
   go_wp2;go_ret;exact⟨bT hg.o.symm,rfl⟩
  have hg:Z_ (L.contains n=false):=by
   have:=mi.o;rw[a0D (by omega)]at this;exact this
  go_wp2;go_ret;exact⟨bT hg.o.symm,rfl⟩
def jV(n:LB):List LB->List LB × Bool->List LB × Bool
 | [],s=>s
 | x::r,s=>jV n r (if !s.2&&Op.bytesLess n x then (s.1++[n]++[x],true) else (s.1++[x],s.2))
def qO(L:List LB)(n:LB):List LB :=
 if (jV n L ([],false)).2 then (jV n L ([],false)).1 else (jV n L ([],false)).1++[n]
theorem Yi(v:Value)(L:List LB)(n:LB)(w:World)(h:RS 0 w v L)(hL:L.length<=1000) :
 Calls Tryz.prog 92 #[v,.string (bs n)] w λe w'=>∃v',e=.returned v'/\SL w.heap.size w' v' (qO L n)/\aA [] w w':=by
 obtain⟨a,cap,rfl,h1,h2,h3⟩:=h;have H3:Z_ (∀j (h:j<L.length),∃g off,a=some ⟨g,off,none⟩/\0<=g/\w.cell? ⟨g,off+j,none⟩=some (.string (bs L[j]))):=h3;clear h3;have hl:=bg;go_enter Tryz.func92,Tryz.ntmps92
 go_wp2;go_loopg [5,6,12] L.length (λk v p i wr=>∃(j:Nat) (acc:List LB) (pb:Bool) (g cap:Nat),j+k=L.length/\i=.int .i64 j/\p=.bool pb/\v=.slice (some ⟨g,0,none⟩) acc.length cap/\SL w.heap.size wr v acc/\w.heap.size<=g/\acc.length<=j+pb.toNat/\jV n (L.drop j) (acc,pb)=jV n L ([],false)/\aA [] w wr)
 case atStart=>exact⟨0,[],false,_,_,by omega,rfl,rfl,rfl,World.ownsRow_lit _ #[] 0 (a0a _) (by unfold maxLen;omega) (by simp),a0a _,by simp,by simp,(aA.refl _ _).alloc _⟩
 case round =>
  obtain⟨j,acc,pb,g,xJ,hj,rfl,rfl,rfl,pF,hg,U9,hwn,bU⟩:=hrel;have hz:=bU.size;have hpn:pb.toNat<=1:=Bool.toNat_le pb;have Hs:Z_ (SL w.heap.size wr (.slice (some ⟨g,0,none⟩) acc.length xJ) acc):=pF;have Hw:Z_ (jV n (L.drop j) (acc,pb)=jV n L ([],false)):=hwn;have Hf:Z_ (aA [] w wr):=bU;clear pF hwn bU
  by_cases aO:j<L.length
  ·obtain⟨g0,off,rfl,_,Kz⟩:=H3.o j aO
   have hc:wr.cell? ⟨g0,off+j,none⟩=some (.string (bs L[j])):=by
    rw[Hf.o.cell (World.block_lt_of_cell? w _ Kz) (by simp)];exact Kz
   clear Kz;have Hd:Z_ (L.drop j=L[j]::L.drop (j+1)):=(a0q aO);generalize L[j]=x at *;cases jO:(!pb&&Op.bytesLess n x)
   ·have KE:Z_ (jV n (L.drop (j+1)) (acc++[x],pb)=jV n L ([],false)):=by
     show jV n (L.drop (j+1)) (acc++[x],pb)=_;rw[<-Hw.o,Hd.o];conv=>rhs;unfold jV
     simp only[jO];rfl
    clear Hw Hd;have Vd:pb=true\/(pb=false/\Op.bytesLess n x=false):=by
     cases pb<;>simp_all
    clear jO;rcases Vd with rfl|⟨rfl,jO⟩
    all_goals
     go_wp2_with (first | (at_builtin;refine o9 _ rfl _ _ rfl w.heap.size (.slice (some ⟨g,0,none⟩) acc.length xJ) acc x wr.heap.size rfl (Hs.o.aB (S:=[]) ((aA.refl _ _).alloc _) (by simp)) rfl (by simp) (by omega) (by simp;omega) ?_;intro g2 aP w2 nQ kg rD))
     go_roundg (gk-1)
     case measure=>omega
     case rel =>
      refine⟨j+1,acc++[x],_,g2,aP,by omega,by go_num,rfl,by simp,by simpa using nQ,rD,by simp at U9 |-;omega,KE,?_⟩;exact(Hf.o.alloc _).Tq (base:=0) kg (λk hk=>by simp[Value.ownBlock]at hk;omega)
   have Fz:pb=false:=by cases pb<;>simp_all
   have FU:Op.bytesLess n x=true:=by cases pb<;>simp_all
   subst Fz;have KE:Z_ (jV n (L.drop (j+1)) (acc++[n]++[x],true)=jV n L ([],false)):=by
    show jV n (L.drop (j+1)) (acc++[n]++[x],true)=_;rw[<-Hw.o,Hd.o];conv=>rhs;unfold jV
    simp only[jO];rfl
   clear Hw Hd jO;go_wp2_with (first | (at_builtin;refine o9 _ rfl _ _ rfl w.heap.size (.slice (some ⟨g2,0,none⟩) (acc.length+1) aP) (acc++[n]) x w2.heap.size rfl (nQ.aB (S:=[]) ((aA.refl _ _).alloc _) (by simp)) rfl (by simp) (by simp;omega) (by simp;omega) ?_;intro g3 Zi w3 MM hg3 hb3)|(at_builtin;refine o9 _ rfl _ _ rfl w.heap.size (.slice (some ⟨g,0,none⟩) acc.length xJ) acc n wr.heap.size rfl (Hs.o.aB (S:=[]) ((aA.refl _ _).alloc _) (by simp)) rfl (by simp) (by omega) (by simp;omega) ?_;intro g2 aP w2 nQ kg rD;have gF:=kg.size;simp at gF))
   go_roundg (gk-1)
   case measure=>omega
   case rel =>
    refine⟨j+1,acc++[n]++[x],_,g3,Zi,by omega,by go_num,rfl,by simp,by simpa using MM,hb3,by simp at U9 |-;omega,KE,?_⟩;exact(((Hf.o.alloc _).Tq (base:=0) kg (λk hk=>by simp[Value.ownBlock]at hk;omega)).alloc _).Tq (base:=0) hg3 (λk hk=>by simp[Value.ownBlock]at hk;omega)
  have KE:Z_ (jV n L ([],false)=(acc,pb)):=by
   show jV n L ([],false)=_;rw[<-Hw.o,a0p (by omega)];rfl
  clear Hw;cases pb
  ·have Hx:Z_ (qO L n=acc++[n]):=by
    show qO L n=_;unfold qO;rw[KE.o];rfl
   go_wp2_with (first | (at_builtin;refine o9 _ rfl _ _ rfl w.heap.size (.slice (some ⟨g,0,none⟩) acc.length xJ) acc n wr.heap.size rfl (Hs.o.aB (S:=[]) ((aA.refl _ _).alloc _) (by simp)) rfl (by simp) (by omega) (by simp;omega) ?_;intro g2 aP w2 nQ kg rD;have gF:=kg.size;simp at gF))
   go_ret;rw[Hx.o];exact⟨_,rfl,nQ,(Hf.o.alloc _).Tq (base:=0) kg (λk hk=>by simp[Value.ownBlock]at hk;omega)⟩
  have Hx:Z_ (qO L n=acc):=by
   show qO L n=_;unfold qO;rw[KE.o];rfl
  go_wp2;go_ret;rw[Hx.o];exact⟨_,rfl,Hs,Hf⟩
theorem Pf(n:LB):∀(L:List LB) (s:List LB × Bool),(jV n L s).1.length+s.2.toNat=s.1.length+L.length+(jV n L s).2.toNat
 | [],s=>by simp[jV]
 | x::r,(acc,p)=>by
   unfold jV
   by_cases h:(!p&&Op.bytesLess n x)=true
   ·simp only[h,a0C]
    have:=Pf n r (acc++[n]++[x],true);simp at this h |-;rw[h.1];simp;omega
   simp only[h];have:=Pf n r (acc++[x],p);simp at this |-;omega
theorem Ve(L:List LB)(n:LB):(qO L n).length=L.length+1:=by
 unfold qO;have:=Pf n L ([],false);cases h:(jV n L ([],false)).2<;>simp[h]at this |-<;>omega
def l9(acc:List LB)(n:LB):List LB:=if acc.contains n then acc else qO acc n
def Ap(L:List LB):List LB:=L.foldl l9 []
theorem aeC(acc:List LB)(n:LB):(l9 acc n).length<=acc.length+1:=by
 unfold l9;split<;>simp[Ve]
theorem Sr(v:Value)(L:List LB)(w:World)(h:RS 0 w v L)(hL:L.length<=1000) :
 Calls Tryz.prog 80 #[v] w λe w'=>∃v',e=.returned v'/\SL w.heap.size w' v' (Ap L)/\aA [] w w':=by
 obtain⟨a,cap,rfl,h1,h2,h3⟩:=h;have H3:Z_ (∀j (h:j<L.length),∃g off,a=some ⟨g,off,none⟩/\0<=g/\w.cell? ⟨g,off+j,none⟩=some (.string (bs L[j]))):=h3;clear h3;go_enter Tryz.func80,Tryz.ntmps80
 go_wp2;go_loopg [3,9] L.length (λk v i wr=>∃(j:Nat) (acc:List LB),j+k=L.length/\i=.int .i64 j/\SL w.heap.size wr v acc/\acc.length<=j/\(L.drop j).foldl l9 acc=Ap L/\aA [] w wr)
 case atStart=>exact⟨0,[],by omega,rfl,World.ownsRow_lit _ #[] 0 (a0a _) (by unfold maxLen;omega) (by simp),by simp,by simp[Ap],(aA.refl _ _).alloc _⟩
 case round =>
  obtain⟨j,acc,hj,rfl,pF,U9,hwn,bU⟩:=hrel;have hz:=bU.size;have Hs:Z_ (SL w.heap.size wr u3 acc):=pF;have Hw:Z_ ((L.drop j).foldl l9 acc=Ap L):=hwn;have Hf:Z_ (aA [] w wr):=bU;clear pF hwn bU
  by_cases aO:j<L.length
  ·obtain⟨g0,off,rfl,_,Kz⟩:=H3.o j aO
   have hc:wr.cell? ⟨g0,off+j,none⟩=some (.string (bs L[j])):=by
    rw[Hf.o.cell (World.block_lt_of_cell? w _ Kz) (by simp)];exact Kz
   clear Kz;have Hd:Z_ (L.drop j=L[j]::L.drop (j+1)):=(a0q aO);generalize L[j]=x at *;have KE:Z_ ((L.drop (j+1)).foldl l9 (l9 acc x)=Ap L):=by
    show _=_;rw[<-Hw.o,Hd.o];rfl
   clear Hw Hd;go_wp2_with fail
   refine(Vb u3 acc x wr ((Hs.o.rs (by omega)).base (a1C _))).mono ?_;rintro e w' ⟨rfl,rfl⟩;cases Pg:acc.contains x
   ·have Hr:Z_ (l9 acc x=qO acc x):=by
     show l9 acc x=_;unfold l9;rw[Pg];rfl
    go_wp2_with fail
    refine(Yi u3 acc x wr ((Hs.o.rs (by omega)).base (a1C _)) (by omega)).mono ?_;rintro e w2 ⟨v',rfl,nQ,aS⟩;have pG:Z_ (SL w.heap.size w2 v' (qO acc x)):=nQ.base hz;have l8:Z_ (aA [] w w2):=Hf.o.trans aS;clear nQ aS;go_wp2;go_roundg (gk-1)
    case measure=>omega
    case rel =>
     rw[Hr.o]at KE;exact⟨j+1,qO acc x,by omega,by go_num,pG,by rw[Ve];omega,KE,l8⟩
   have Hr:Z_ (l9 acc x=acc):=by
    show l9 acc x=_;unfold l9;rw[Pg];rfl
   go_wp2;go_roundg (gk-1)
   case measure=>omega
   case rel =>
    rw[Hr.o]at KE;exact⟨j+1,acc,by omega,by go_num,Hs,by omega,KE,Hf⟩
  have Hx:Z_ (Ap L=acc):=by
   show Ap L=acc;rw[<-Hw.o,a0p (by omega)];rfl
  go_wp2;go_ret;rw[Hx.o];exact⟨_,rfl,Hs,Hf⟩
def rP:Nat->List LB->LB->List LB × Bool × LB
 | 0,_,l=>([],false,l)
 | k+1,acc,l =>
   if !(acc.isEmpty)&&!(aL [44] l) then (acc,true,l)
   else
    let l1:=if acc.isEmpty then l else aJ [44] l
    let nm:=l1.takeWhile bA
    if !(aI nm)||decide (4<=acc.length) then ([],false,l1.dropWhile bA)
    else rP k (acc++[nm]) (l1.dropWhile bA)
def fG(l:LB):List LB × Bool × LB:=rP 6 [] l
theorem Ss(b:Nat)(t l:LB)(w:World)(h:At w b t l) :
 Calls Tryz.prog 79 #[.pointer (some ⟨b,0,none⟩)] w λe w'=>∃v',e=.returned (.tuple #[v',.bool (fG l).2.1])/\SL w.heap.size w' v' (fG l).1/\(fG l).1.length<=4/\At w' b t (fG l).2.2/\aA [b] w w':=by
 have hb:=h.lt;have H:Z_ (At w b t l):=h;clear h;go_enter Tryz.func79,Tryz.ntmps79
 go_wp2_with fail
 go_loopg [4] 6 (λk v wr=>∃(acc:List LB) (l':LB) (g cap:Nat),acc.length+k=6/\acc.length<=4/\v=.slice (some ⟨g,0,none⟩) acc.length cap/\w.heap.size<=g/\SL w.heap.size wr v acc/\rP k acc l'=fG l/\At wr b t l'/\aA [b] w wr)
 case atStart=>exact⟨[],l,_,_,by simp,by simp,rfl,a0a _,World.ownsRow_lit _ #[] 0 (a0a _) (by unfold maxLen;omega) (by simp),rfl,H.o.aB (S:=[]) ((aA.refl _ _).alloc _) (by simp),(aA.refl _ _).alloc _⟩
 case round =>
  obtain⟨acc,l',g,cap,hk,U9,rfl,hg,pF,hlb,aX,bU⟩:=hrel;have hz:=bU.size;have Hs:Z_ (SL w.heap.size wr (.slice (some ⟨g,0,none⟩) acc.length cap) acc):=pF;have Hl:Z_ (rP gk acc l'=fG l):=hlb;have Ha:Z_ (At wr b t l'):=aX;have Hf:Z_ (aA [b] w wr):=bU;clear pF hlb aX bU;obtain⟨m,rfl⟩:∃m,gk=m+1:=⟨gk-1,by omega⟩;have step:∀(l1:LB) (w1:World),l1=(if acc.isEmpty then l' else aJ [44] l')->(acc.isEmpty=true\/aL [44] l'=true)->fG l=(if !(aI (l1.takeWhile bA))||decide (4<=acc.length) then ([],false,l1.dropWhile bA) else rP m (acc++[l1.takeWhile bA]) (l1.dropWhile bA)):=by
   intro l1 w1 e h;rw[<-Hl.o];conv=>lhs;unfold rP
   rw[a0g (by rcases h with h|h<;>simp[h]),<-e]
  have bN:Z_ (∀(l1:LB) (w1:World),l1=(if acc.isEmpty then l' else aJ [44] l')->(acc.isEmpty=true\/aL [44] l'=true)->fG l=(if !(aI (l1.takeWhile bA))||decide (4<=acc.length) then ([],false,l1.dropWhile bA) else rP m (acc++[l1.takeWhile bA]) (l1.dropWhile bA))):=step;clear step
  by_cases aiR:acc=[]
  ·subst aiR
   have acw:=bN.o l' wr rfl (Or.inl rfl);have oF:Z_ (fG l=(if !(aI (l'.takeWhile bA))||decide (4<=([]:List LB).length) then ([],false,l'.dropWhile bA) else rP m ([]++[l'.takeWhile bA]) (l'.dropWhile bA))):=acw;clear bN acw;simp only[a1f]at *;go_wp2_with fail
   refine(sJ b t l' _ Ha).mono ?_;rintro e w2 ⟨rfl,h2,aS⟩;have H2:Z_ (At w2 b t (l'.dropWhile bA)):=h2;have l8:Z_ (aA [b] w w2):=Hf.o.trans aS;have pG:Z_ (SL w.heap.size w2 (.slice (some ⟨g,0,none⟩) 0 cap) []):=Hs.o.aB aS (by simp;omega);have gF:=l8.o.size;clear h2 aS Hs Ha Hf;cases hn:aI (l'.takeWhile bA)
   ·have Hx:Z_ (fG l=([],false,l'.dropWhile bA)):=by
     show _=_;rw[oF.o,hn];rfl
    go_wp2;go_ret2;rw[Hx.o];exact⟨_,rfl,SL.nil _ _,by simp,H2,l8⟩
   have Hx:Z_ (rP m [l'.takeWhile bA] (l'.dropWhile bA)=fG l):=by
    show _=_;rw[oF.o,hn];rfl
   go_wp2_with (first | (at_builtin;refine o9 _ rfl _ _ rfl w.heap.size (.slice (some ⟨g,0,none⟩) 0 cap) [] (l'.takeWhile bA) w2.heap.size rfl (pG.o.aB (S:=[]) ((aA.refl _ _).alloc _) (by simp)) rfl (by simp) (by simp) (by simp;omega) ?_;intro g2 aP w3 nQ kg rD))
   go_roundg m
   case measure=>omega
   case rel =>
    refine⟨[l'.takeWhile bA],_,g2,aP,by simp;omega,by simp,by simp,rD,by simpa using nQ,Hx,?_,?_⟩
    ·refine At.aB (S:=[g]) (H2.o.aB (S:=[]) ((aA.refl _ _).alloc _) (by simp)) (aA.yR kg) (by simp;omega)
    exact(l8.o.alloc _).grown kg (λk hk=>by simp[Value.ownBlock]at hk;omega)
  have bL:((acc.length:Int)==0)=false:=a0k.2 (by have:=a1P.2 aiR;omega);have hee:acc.isEmpty=false:=by simpa using aiR
  go_wp2_with fail
  refine(fV b t l' [44] _ Ha.o (by simp)).mono ?_;rintro e w1 ⟨rfl,h1,aZ⟩;have lK:=Hs.o.aB aZ (by simp;omega);have Vf:Z_ (aA [b] w w1):=Hf.o.trans aZ;have Hs1:Z_ (SL w.heap.size w1 (.slice (some ⟨g,0,none⟩) acc.length cap) acc):=lK;have H1:Z_ (At w1 b t (aJ [44] l')):=h1;clear h1 aZ lK Hf Hs Ha;cases ht:aL [44] l'
  ·have Hx:Z_ (fG l=(acc,true,l')):=by
    show _=_;rw[<-Hl.o];unfold rP;simp[hee,ht]
   rw[jc ht]at H1;go_wp2;go_ret2;rw[Hx.o];exact⟨_,rfl,Hs1,U9,H1,Vf⟩
  have acw:=bN.o (aJ [44] l') wr (by rw[hee];rfl) (Or.inr ht);have oF:Z_ (fG l=(if !(aI ((aJ [44] l').takeWhile bA))||decide (4<=acc.length) then ([],false,(aJ [44] l').dropWhile bA) else rP m (acc++[(aJ [44] l').takeWhile bA]) ((aJ [44] l').dropWhile bA))):=acw;clear bN acw;go_wp2_with fail
  refine(sJ b t _ _ H1).mono ?_;rintro e w2 ⟨rfl,h2,aS⟩;generalize aJ [44] l'=l1 at *;have H2:Z_ (At w2 b t (l1.dropWhile bA)):=h2;have l8:Z_ (aA [b] w w2):=Vf.o.trans aS;have pG:Z_ (SL w.heap.size w2 (.slice (some ⟨g,0,none⟩) acc.length cap) acc):=Hs1.o.aB aS (by simp;omega);have gF:=l8.o.size;clear h2 aS Hs1 Vf;cases hn:aI (l1.takeWhile bA)
  ·have Hx:Z_ (fG l=([],false,l1.dropWhile bA)):=by
    show _=_;rw[oF.o,hn];rfl
   go_wp2;go_ret2;rw[Hx.o];exact⟨_,rfl,SL.nil _ _,by simp,H2,l8⟩
  by_cases h4:4<=acc.length
  ·have Hx:Z_ (fG l=([],false,l1.dropWhile bA)):=by
    show _=_;rw[oF.o,hn];simp[h4]
   go_wp2;go_ret2;rw[Hx.o];exact⟨_,rfl,SL.nil _ _,by simp,H2,l8⟩
  have Hx:Z_ (rP m (acc++[l1.takeWhile bA]) (l1.dropWhile bA)=fG l):=by
   show _=_;rw[oF.o,hn];simp[h4]
  go_wp2_with (first | (at_builtin;refine o9 _ rfl _ _ rfl w.heap.size (.slice (some ⟨g,0,none⟩) acc.length cap) acc (l1.takeWhile bA) w2.heap.size rfl (pG.o.aB (S:=[]) ((aA.refl _ _).alloc _) (by simp)) rfl (by simp) (by omega) (by simp;omega) ?_;intro g2 aP w3 nQ kg rD))
  go_roundg m
  case measure=>omega
  case rel =>
   refine⟨acc++[l1.takeWhile bA],_,g2,aP,by simp;omega,by simp;omega,by simp,rD,by simpa using nQ,Hx,?_,?_⟩
   ·refine At.aB (S:=[g]) (H2.o.aB (S:=[]) ((aA.refl _ _).alloc _) (by simp)) (aA.yR kg) (by simp;omega)
   exact(l8.o.alloc _).grown kg (λk hk=>by simp[Value.ownBlock]at hk;omega)
structure RV where
 d:Int
 rc:LB
 tb:Bool
 dP:Value
 wt:Int
 ev:Int
 rp:Int
 iB:Value
 co:Bool
def RV.cells(r:RV):Array Value:=#[.int .i64 r.d,.string (bs r.rc),.bool r.tb,r.dP,.int .i64 r.wt,.int .i64 r.ev,.int .i64 r.rp,r.iB,.bool r.co]
def RT(w:World)(rb:Nat)(r:RV):Prop:=w.heap[rb]?=some (.cells r.cells 62 (0,0))
theorem RT.lt {r:RV}(h:RT w rb r):rb<w.heap.size:=(a0d.1 h).1
theorem RT.cell {r:RV}(h:RT w rb r)(o:Nat):w.cell? ⟨rb,o,none⟩=r.cells[o]?:=by
 unfold RT at h;simp[World.cell?,h]
theorem RT.fz {r:RV}(h:RT w rb r)(o:Nat):w.frozen? ⟨rb,o,none⟩=false:=by
 unfold RT at h;simp[World.frozen?,h]
theorem RT.aB {r:RV}(h:RT w rb r)(f:aA S w w')(hS:rb∉S):RT w' rb r :=
 (f.block rb h.lt hS).trans h
theorem RT.set {r:RV}(h:RT w rb r)(o:Nat)(v:Value)(r':RV)(e:r'.cells=r.cells.setIfInBounds o v):RT (w.setCell ⟨rb,o,none⟩ v) rb r':=by
 unfold RT at *;simp[World.setCell,a0t,h,e]
theorem RT.drewN {r:RV}(h:RT w rb r)(n:Nat):RT (w.drewN n) rb r:=h
def dR(l:LB):LB × Bool × LB :=
 if aL [45] l then ([45],true,aJ [45] l) else (l.takeWhile bA,aI (l.takeWhile bA),l.dropWhile bA)
theorem MO(b rb:Nat)(t l:LB)(r:RV)(w:World)(h:At w b t l)(hr:RT w rb r)(bL:b≠rb) :
 Calls Tryz.prog 60 #[.pointer (some ⟨b,0,none⟩),.pointer (some ⟨rb,0,none⟩)] w λe w'=>e=.returned (.bool (dR l).2.1)/\At w' b t (dR l).2.2/\RT w' rb { r with rc:=(dR l).1 }/\aA [b,rb] w w':=by
 have hb:=h.lt;have ko:=hr.lt;have H:Z_ (At w b t l):=h;have HR:Z_ (RT w rb r):=hr;clear h hr;go_enter Tryz.func60,Tryz.ntmps60
 go_wp2_with fail
 refine(fV b t l [45] _ H.o (by simp)).mono ?_;rintro e w1 ⟨rfl,h1,aZ⟩;have lG:=HR.o.aB aZ (by simp;omega);cases gM:aL [45] l
 case true =>
  have Hx:Z_ (dR l=([45],true,aJ [45] l)):=by
   show dR l=_;unfold dR;rw[gM];rfl
  have c1:w1.cell? ⟨rb,1,none⟩=some (.string (bs r.rc)):=lG.cell 1;have f1:=lG.fz 1;have H1:Z_ (At w1 b t (aJ [45] l)/\aA [b,rb] w w1):=⟨h1,aZ.mono (by simp;omega)⟩;have Jp:Z_ (RT w1 rb r):=lG;clear h1 aZ lG;go_wp2;go_ret;rw[Hx.o];exact⟨rfl,H1.o.1.aB (S:=[rb]) ((aA.refl _ _).setCell (by simp) _) (by simp;omega),Jp.o.set 1 _ _ rfl,H1.o.2.setCell (by simp) _⟩
 case false =>
 have Hx:Z_ (dR l=(l.takeWhile bA,aI (l.takeWhile bA),l.dropWhile bA)):=by
  show dR l=_;unfold dR;rw[gM];rfl
 rw[jc gM]at h1;have H1:Z_ (At w1 b t l):=h1;clear h1;go_wp2_with fail
 refine(sJ b t l _ H1).mono ?_;rintro e w2 ⟨rfl,h2,aS⟩;have pX:=lG.aB aS (by simp;omega);have c1:w2.cell? ⟨rb,1,none⟩=some (.string (bs r.rc)):=pX.cell 1;have f1:=pX.fz 1;have H2:Z_ (At w2 b t (l.dropWhile bA)/\aA [b,rb] w w2):=⟨h2,(aZ.trans aS).mono (by simp;omega)⟩;have nO:Z_ (RT w2 rb r):=pX;clear h2 aS aZ pX lG gM;go_wp2;go_ret;rw[Hx.o];exact⟨rfl,H2.o.1.aB (S:=[rb]) ((aA.refl _ _).setCell (by simp) _) (by simp;omega),nO.o.set 1 _ _ rfl,H2.o.2.setCell (by simp) _⟩
structure ByR where
 tells:Bool
 names:List LB
 ok:Bool
 rest:LB
def jW(l:LB):ByR :=
 if aL [32,98,121,32] l then
  let l1:=aJ [32,98,121,32] l
  if aL [45] l1 then ⟨true,[],true,aJ [45] l1⟩
  else ⟨true,Ap (fG l1).1,(fG l1).2.1,(fG l1).2.2⟩
 else ⟨false,[],true,l⟩
theorem acx(b rb:Nat)(t l:LB)(r:RV)(w:World)(h:At w b t l)(hr:RT w rb r)(bL:b≠rb)(Bf:r.tb=false)(DT:r.dP=.slice none 0 0) :
 Calls Tryz.prog 61 #[.pointer (some ⟨b,0,none⟩),.pointer (some ⟨rb,0,none⟩)] w λe w'=>e=.returned (.bool (jW l).ok)/\At w' b t (jW l).rest/\(∃v,RT w' rb { r with tb:=(jW l).tells,dP:=v }/\SL w.heap.size w' v (jW l).names)/\aA [b,rb] w w':=by
 obtain⟨d,rc,tb,dP,wt,ev,rp,iB,co⟩:=r;simp only at Bf DT;subst Bf DT;have hb:=h.lt;have ko:=hr.lt;have H:Z_ (At w b t l):=h;have HR:Z_ (RT w rb ⟨d,rc,false,.slice none 0 0,wt,ev,rp,iB,co⟩):=hr;clear h hr;go_enter Tryz.func61,Tryz.ntmps61
 go_wp2_with fail
 refine(fV b t l [32,98,121,32] _ H.o (by simp)).mono ?_;rintro e w1 ⟨rfl,h1,aZ⟩;have lG:=HR.o.aB aZ (by simp;omega);cases gM:aL [32,98,121,32] l
 case false =>
  have Hx:Z_ (jW l=⟨false,[],true,l⟩):=by
   show jW l=_;unfold jW;rw[gM];rfl
  rw[jc gM]at h1;have H1:Z_ (At w1 b t l/\aA [b,rb] w w1):=⟨h1,aZ.mono (by simp;omega)⟩;have Jp:Z_ (RT w1 rb ⟨d,rc,false,.slice none 0 0,wt,ev,rp,iB,co⟩):=lG;clear h1 aZ lG;go_wp2;go_ret;rw[Hx.o];exact⟨rfl,H1.o.1,⟨_,Jp,SL.nil _ _⟩,H1.o.2⟩
 case true =>
 have c2:w1.cell? ⟨rb,2,none⟩=some (.bool false):=lG.cell 2;have f2:=lG.fz 2;generalize sH:aJ [32,98,121,32] l=l1 at *;have H1:Z_ (At w1 b t l1):=h1;have qy:Z_ (aA [b,rb] w w1):=aZ.mono (by simp;omega);have Jp:Z_ (RT w1 rb ⟨d,rc,false,.slice none 0 0,wt,ev,rp,iB,co⟩):=lG;have Hl1:Z_ (aJ [32,98,121,32] l=l1/\aL [32,98,121,32] l=true):=⟨sH,gM⟩;clear h1 aZ lG sH gM;go_wp2_with fail
 have lG:=Jp.o.set 2 (.bool true) ⟨d,rc,true,.slice none 0 0,wt,ev,rp,iB,co⟩ rfl;have h1:=H1.o.aB (S:=[rb]) ((aA.refl _ _).setCell (p:=⟨rb,2,none⟩) (by simp) (.bool true)) (by simp;omega);have aZ:=qy.o.setCell (p:=⟨rb,2,none⟩) (by simp) (.bool true);refine(fV b t l1 [45] _ h1 (by simp)).mono ?_;rintro e w2 ⟨rfl,h2,aS⟩;have pX:=lG.aB aS (by simp;omega);have acv:=aZ.trans (aS.mono (S':=[b,rb]) (by simp;omega));have xY:Z_ (aA [b,rb] w w2):=acv;have nO:Z_ (RT w2 rb ⟨d,rc,true,.slice none 0 0,wt,ev,rp,iB,co⟩):=pX;clear h1 lG aZ aS pX acv c2 f2 H1 qy Jp;cases DN:aL [45] l1
 case true =>
  have Hx:Z_ (jW l=⟨true,[],true,aJ [45] l1⟩):=by
   show jW l=_;unfold jW;rw[Hl1.o.1,Hl1.o.2];simp[DN]
  have H2:Z_ (At w2 b t (aJ [45] l1)):=h2;clear h2;go_wp2;go_ret;rw[Hx.o];exact⟨rfl,H2,⟨_,nO,SL.nil _ _⟩,xY⟩
 case false =>
 have Hx:Z_ (jW l=⟨true,Ap (fG l1).1,(fG l1).2.1,(fG l1).2.2⟩):=by
  show jW l=_;unfold jW;rw[Hl1.o.1,Hl1.o.2];simp[DN]
 rw[jc DN]at h2;have H2:Z_ (At w2 b t l1):=h2;clear h2 DN;go_wp2_with fail
 refine(Ss b t l1 _ H2).mono ?_;rintro e w3 ⟨v',rfl,MM,hl3,h3,bZ⟩;have Bj:=nO.o.aB bZ (by simp;omega);have UZ:Z_ (aA [b,rb] w w3):=xY.o.trans (bZ.mono (S':=[b,rb]) (by simp;omega));have HS3:Z_ (SL w2.heap.size w3 v' (fG l1).1):=MM;have H3:Z_ (At w3 b t (fG l1).2.2):=h3;have Su:Z_ (RT w3 rb ⟨d,rc,true,.slice none 0 0,wt,ev,rp,iB,co⟩):=Bj;clear MM h3 bZ Bj H2 nO;go_wp2_with fail
 refine(Sr v' _ _ ((HS3.o.rs (by omega)).base (a1C _)) (by omega)).mono ?_;rintro e w4 ⟨v4,rfl,Vg,nR⟩;have MP:=Su.o.aB nR (by simp);have c3:w4.cell? ⟨rb,3,none⟩=some (.slice none 0 0):=MP.cell 3;have f3:=MP.fz 3;have HF4:Z_ (aA [b,rb] w w4):=UZ.o.trans nR.nil;have HS4:Z_ (SL w.heap.size w4 v4 (Ap (fG l1).1)):=Vg.base UZ.o.size;have H4:Z_ (At w4 b t (fG l1).2.2):=H3.o.aB nR (by simp);have HR4:Z_ (RT w4 rb ⟨d,rc,true,.slice none 0 0,wt,ev,rp,iB,co⟩):=MP;clear Vg nR MP;obtain⟨a4,FY,rfl⟩:=HS4.o.shape;go_wp2;go_ret;rw[Hx.o];refine⟨rfl,H4.o.aB (S:=[rb]) ((aA.refl _ _).setCell (by simp) _) (by simp;omega),⟨.slice a4 (Ap (fG l1).1).length FY,HR4.o.set 3 _ _ rfl,?_⟩,HF4.o.setCell (by simp) _⟩;exact HS4.o.aB (S:=[rb]) ((aA.refl _ _).setCell (by simp) _) (by simp;omega)
structure TmR where
 wt:Int
 ev:Int
 rp:Int
 ok:Bool
 rest:LB
def nT:LB:=[32,119,97,105,116,32]
def nE:LB:=[32,101,118,101,114,121,32]
def pI:LB:=[32,114,101,112,101,97,116,32]
def dB(l:LB):TmR :=
 let a:=bP nT l
 let b:=bP nE a.2.2
 let c:=bP pI b.2.2
 ⟨a.1,b.1,c.1,a.2.1&&b.2.1&&c.2.1,c.2.2⟩
theorem Vh(b rb:Nat)(t l:LB)(r:RV)(w:World)(h:At w b t l)(hr:RT w rb r)(bL:b≠rb) :
 Calls Tryz.prog 62 #[.pointer (some ⟨b,0,none⟩),.pointer (some ⟨rb,0,none⟩)] w λe w'=>e=.returned (.bool (dB l).ok)/\At w' b t (dB l).rest/\RT w' rb { r with wt:=(dB l).wt,ev:=(dB l).ev,rp:=(dB l).rp }/\aA [b,rb] w w':=by
 have hb:=h.lt;have ko:=hr.lt;have H:Z_ (At w b t l):=h;have HR:Z_ (RT w rb r):=hr;clear h hr;go_enter Tryz.func62,Tryz.ntmps62
 go_wp2_with fail
 refine(Bo b t l nT _ H.o (by simp[nT])).mono ?_;rintro e w1 ⟨rfl,h1,aZ⟩;have H1:Z_ (At w1 b t (bP nT l).2.2/\aA [b] w w1):=⟨h1,aZ⟩;clear h1 aZ;go_wp2_with fail
 refine(Bo b t _ nE _ H1.o.1 (by simp[nE])).mono ?_;rintro e w2 ⟨rfl,h2,aS⟩;have H2:Z_ (At w2 b t (bP nE (bP nT l).2.2).2.2/\aA [b] w w2):=⟨h2,H1.o.2.trans aS⟩;clear h2 aS;go_wp2_with fail
 refine(Bo b t _ pI _ H2.o.1 (by simp[pI])).mono ?_;rintro e w3 ⟨rfl,h3,bZ⟩;have hf:=H2.o.2.trans bZ;have Bj:=HR.o.aB hf (by simp;omega);have HF:Z_ (aA [b,rb] w w3):=hf.mono (by simp;omega);have Hx:Z_ (dB l=⟨(bP nT l).1,(bP nE (bP nT l).2.2).1,(bP pI (bP nE (bP nT l).2.2).2.2).1,(bP nT l).2.1&&(bP nE (bP nT l).2.2).2.1&&(bP pI (bP nE (bP nT l).2.2).2.2).2.1,(bP pI (bP nE (bP nT l).2.2).2.2).2.2⟩):=rfl;have H3:Z_ (At w3 b t (bP pI (bP nE (bP nT l).2.2).2.2).2.2):=h3;clear h3 bZ hf H1 H2;generalize bP pI (bP nE (bP nT l).2.2).2.2=z at *;generalize bP nE (bP nT l).2.2=y at *;generalize bP nT l=x at *;obtain⟨x1,x2,x3⟩:=x;obtain⟨y1,y2,y3⟩:=y;obtain⟨z1,z2,z3⟩:=z;obtain⟨d,rc,tb,dP,wt,ev,rp,iB,co⟩:=r;have c4:w3.cell? ⟨rb,4,none⟩=some (.int .i64 wt):=Bj.cell 4;have c5:w3.cell? ⟨rb,5,none⟩=some (.int .i64 ev):=Bj.cell 5;have c6:w3.cell? ⟨rb,6,none⟩=some (.int .i64 rp):=Bj.cell 6;have f4:=Bj.fz 4;have f5:=Bj.fz 5;have f6:=Bj.fz 6;have Su:Z_ (RT w3 rb ⟨d,rc,tb,dP,wt,ev,rp,iB,co⟩):=Bj;clear Bj HR;cases x2<;>cases y2
 all_goals
  go_wp2;go_ret;rw[Hx.o];refine⟨by simp,?_,?_,?_⟩
  ·exact H3.o.aB (S:=[rb]) ((((aA.refl _ _).setCell (by simp) _).setCell (by simp) _).setCell (by simp) _) (by simp;omega)
  ·exact((Su.o.set 4 _ ⟨d,rc,tb,dP,x1,ev,rp,iB,co⟩ rfl).set 5 _ ⟨d,rc,tb,dP,x1,y1,rp,iB,co⟩ rfl).set 6 _ _ rfl
  exact((HF.o.setCell (by simp) _).setCell (by simp) _).setCell (by simp) _
def yF(m:CM):List Value:=[.string (bs m.1),.int .i64 m.2.1,.string (bs m.2.2)]
def mv(M:List CM):List Value:=M.flatMap yF
def ML(base:Nat)(w:World)(v:Value)(M:List CM):Prop:=w.ownsRow base 92 3 v M.length (mv M)
theorem ML.aB {base:Nat} {L:List CM}(h:ML base w v L)(f:aA S w w')(hS:∀k,k∈S->k<base):ML base w' v L:=ek h f hS
theorem ML.nil(base:Nat)(w:World):ML base w (.slice none 0 0) []:=World.ownsRow_nil w base _ 3
theorem aiS:(Tryz.prog.info? 92).map (λi=>(i.zero,i.size,i.bytes))=some (some (.agg #[.string ByteArray.empty,.int .i64 0,.string ByteArray.empty]),3,40):=by kernel_rfl
theorem DU(w:World)(a b:Obj):((w.alloc a).alloc b).drew.heap[w.heap.size+1]?=some b:=by
 have:=heap_alloc_new (w.alloc a) b;rw[<-this];simp;rfl
theorem aA.dS {row:Option Nat}(h:w.grownBy w' row):aA row.toList w w' :=
 ⟨h.os,h.tape,h.output,h.size,λk hk hS=>h.block k hk (λe=>hS (by rw[<-e];simp))⟩
def qz:LB:=[32,105,102,32]
def uE:Nat->List CM->LB->List CM × Bool × LB
 | 0,acc,l=>(acc,false,l)
 | k+1,acc,l =>
   if aL qz l then
    let x:=jB (aJ qz l)
    if !x.2.1||decide (4<=acc.length) then (acc,false,x.2.2) else uE k (acc++[x.1]) x.2.2
   else (acc,true,l)
def kL(l:LB):List CM × Bool × LB:=uE 6 [] l
theorem MS(b rb:Nat)(t l:LB)(r:RV)(w:World)(h:At w b t l)(hr:RT w rb r)(bL:b≠rb)(Ph:r.iB=.slice none 0 0) :
 Calls Tryz.prog 63 #[.pointer (some ⟨b,0,none⟩),.pointer (some ⟨rb,0,none⟩)] w λe w'=>e=.returned (.bool (kL l).2.1)/\At w' b t (kL l).2.2/\(∃v,RT w' rb { r with iB:=v }/\ML w.heap.size w' v (kL l).1)/\(kL l).1.length<=4/\aA [b,rb] w w':=by
 obtain⟨d,rc,tb,dP,wt,ev,rp,iB,co⟩:=r;simp only at Ph;subst Ph;have hb:=h.lt;have ko:=hr.lt;have H:Z_ (At w b t l):=h;have HR:Z_ (RT w rb ⟨d,rc,tb,dP,wt,ev,rp,.slice none 0 0,co⟩):=hr;clear h hr;obtain⟨i0,hi,KH,Sv,EK⟩:=info_parts aiS;go_enter Tryz.func63,Tryz.ntmps63
 go_wp2_with fail
 go_loopg [] 6 (λk wr=>∃(acc:List CM) (l':LB) (v:Value),acc.length+k=6/\acc.length<=4/\RT wr rb ⟨d,rc,tb,dP,wt,ev,rp,v,co⟩/\ML w.heap.size wr v acc/\uE k acc l'=kL l/\At wr b t l'/\aA [b,rb] w wr)
 case atStart=>exact⟨[],l,_,by simp,by simp,HR,ML.nil _ _,rfl,H,aA.refl _ _⟩
 case round =>
  obtain⟨acc,l',v,hk,U9,Cr,Bp,hlb,aX,bU⟩:=hrel;have hz:=bU.size;have Hr:Z_ (RT wr rb ⟨d,rc,tb,dP,wt,ev,rp,v,co⟩):=Cr;have Hm:Z_ (ML w.heap.size wr v acc):=Bp;have Hl:Z_ (uE gk acc l'=kL l):=hlb;have Ha:Z_ (At wr b t l'):=aX;have Hf:Z_ (aA [b,rb] w wr):=bU;clear Cr Bp hlb aX bU;obtain⟨m,rfl⟩:∃m,gk=m+1:=⟨gk-1,by omega⟩;go_wp2_with fail
  refine(fV b t l' qz _ Ha.o (by simp[qz])).mono ?_;rintro e w1 ⟨rfl,h1,aZ⟩;have lG:=Hr.o.aB aZ (by simp;omega);have hm1:=Hm.o.aB aZ (by simp;omega);have Vf:Z_ (aA [b,rb] w w1):=Hf.o.trans (aZ.mono (by simp;omega));cases ht:aL qz l'
  case false =>
   have Hx:Z_ (kL l=(acc,true,l')):=by
    show _=_;rw[<-Hl.o];unfold uE;simp[ht]
   rw[jc ht]at h1;have H1:Z_ (At w1 b t l'/\RT w1 rb ⟨d,rc,tb,dP,wt,ev,rp,v,co⟩/\ML w.heap.size w1 v acc):=⟨h1,lG,hm1⟩;clear h1 lG hm1 aZ;go_wp2;go_ret;rw[Hx.o];exact⟨rfl,H1.o.1,⟨_,H1.o.2.1,H1.o.2.2⟩,U9,Vf⟩
  case true =>
  have bN:Z_ (kL l=if !(jB (aJ qz l')).2.1||decide (4<=acc.length) then (acc,false,(jB (aJ qz l')).2.2) else uE m (acc++[(jB (aJ qz l')).1]) (jB (aJ qz l')).2.2):=by
   show _=_;rw[<-Hl.o];conv=>lhs;unfold uE
   rw[a0j ht]
  have H1:Z_ (At w1 b t (aJ qz l')):=h1;have Hr1:Z_ (RT w1 rb ⟨d,rc,tb,dP,wt,ev,rp,v,co⟩):=lG;have Hm1:Z_ (ML w.heap.size w1 v acc):=hm1;clear h1 lG hm1 aZ Hl ht;go_wp2_with fail
  refine(Pe b t _ _ H1).mono ?_;rintro e w2 ⟨rfl,h2,aS⟩;generalize jB (aJ qz l')=x at *;obtain⟨x1,x2,x3⟩:=x;simp only at h2 bN;have pX:=Hr1.o.aB aS (by simp;omega);have Jq:=Hm1.o.aB aS (by simp;omega);have l8:Z_ (aA [b,rb] w w2):=Vf.o.trans (aS.mono (by simp;omega));obtain⟨a,cap,rfl⟩:=aT Jq;have c7:w2.cell? ⟨rb,7,none⟩=some (.slice a acc.length cap):=pX.cell 7;have f7:=pX.fz 7;have H2:Z_ (At w2 b t x3):=h2;have MU:Z_ (RT w2 rb ⟨d,rc,tb,dP,wt,ev,rp,.slice a acc.length cap,co⟩):=pX;have MV:Z_ (ML w.heap.size w2 (.slice a acc.length cap) acc):=Jq;have gF:=l8.o.size;have Zk:=MU.o.lt;clear h2 aS pX Jq H1 Hr1 Hm1 Vf;cases x2
  case false =>
   have Hx:Z_ (kL l=(acc,false,x3)):=by
    show _=_;rw[bN.o];rfl
   unfold Zh;go_wp2;go_ret;rw[Hx.o];refine⟨rfl,H2.o.aB (S:=[]) ?_ (by simp),⟨_,MU.o.aB (S:=[]) ?_ (by simp),MV.o.aB (S:=[]) ?_ (by simp)⟩,U9,l8.o.alloc _⟩
   all_goals exact(aA.refl _ _).alloc _
  case true =>
  by_cases h4:4<=acc.length
  ·have Hx:Z_ (kL l=(acc,false,x3)):=by
    show _=_;rw[bN.o];simp[h4]
   unfold Zh;go_wp2;go_ret;rw[Hx.o];refine⟨rfl,H2.o.aB (S:=[]) ?_ (by simp),⟨_,MU.o.aB (S:=[]) ?_ (by simp),MV.o.aB (S:=[]) ?_ (by simp)⟩,U9,l8.o.alloc _⟩
   all_goals exact(aA.refl _ _).alloc _
  have Hx:Z_ (uE m (acc++[x1]) x3=kL l):=by
   show _=_;rw[bN.o];simp[h4]
  have ag:Value.ownBlock (.slice a acc.length cap)≠some rb:=λe=>by have:=MV.o.lt _ e;omega
  have ab:Value.ownBlock (.slice a acc.length cap)≠some b:=λe=>by have:=MV.o.lt _ e;omega
  have am:Value.ownBlock (.slice a acc.length cap)≠some w2.heap.size:=λe=>by have:=MV.o.lt _ e;omega
  have g1:∀o:Obj,(w2.alloc o).drew.frozen? ⟨rb,7,none⟩=false:=λo=>((((aA.refl [] w2).alloc o).drew).frozen Zk (by simp)).trans f7
  have g2:∀o o':Obj,((w2.alloc o).alloc o').drew.frozen? ⟨rb,7,none⟩=false:=λo o'=>(((((aA.refl [] w2).alloc o).alloc o').drew).frozen Zk (by simp)).trans f7
  unfold Zh;obtain⟨y1,y2,y3⟩:=x1;go_wp2_with fail
  go_region_law ((refine step_append_lies _ (by rfl) _ _ _ (by rfl) w.heap.size 92 i0 _ 3 40 Tryz.underlying60 hi KH Sv EK rfl (by omega) (.slice a acc.length cap) acc.length (mv acc) (by rfl) (by exact(MV.o.alloc _).alloc _) ⟨w2.heap.size+1,0,none⟩ 1 1 (yF (y1,y2,y3)) (by rfl) (by rfl) (World.news_of_block (cs:=(yF (y1,y2,y3)).toArray) (t:=92) (fr:=(0,0)) (by exact DU _ _ _)) (by simp[Value.oneCell',yF]) (by omega) (by unfold maxLen;omega) (by omega) (by simp;omega) (w2.heap.size+2) (by simp) ?_;intro gg aP w4 bF aG aX aO;have c4:=(aG.cell_far ⟨rb,7,none⟩ (by simp;omega) (Ne.symm ag));have f4:=(aG.frozen_far ⟨rb,7,none⟩ (by simp;omega) (Ne.symm ag));have f5:=f4.trans (g2 _ _)))
  all_goals
   have HO:Z_ (World.grownBy _ w4 (Value.ownBlock (.slice a acc.length cap))):=aG;have HO4:Z_ (w4.ownsRow w.heap.size 92 3 (.slice (some ⟨gg,0,none⟩) (acc.length+1) aP) (acc.length+1) (mv acc++yF (y1,y2,y3))):=bF;clear aG bF;go_wp2;go_roundg m
   case measure=>omega
   case rel =>
    have F4:=aA.dS HO;have A4:At w4 b t x3:=(H2.o.aB (S:=[]) ((((aA.refl _ _).alloc _).alloc _).drew) (by simp)).aB F4 (by simpa[a0H] using λe=>ab e);have R4:RT w4 rb ⟨d,rc,tb,dP,wt,ev,rp,.slice a acc.length cap,co⟩:=(MU.o.aB (S:=[]) ((((aA.refl _ _).alloc _).alloc _).drew) (by simp)).aB F4 (by simpa[a0H] using λe=>ag e);refine⟨acc++[(y1,y2,y3)],x3,.slice (some ⟨gg,0,none⟩) (acc.length+1) aP,by simp;omega,by simp;omega,R4.set 7 _ _ rfl,?_,Hx,?_,?_⟩
    ·have:=ownsRow_setCell_below HO4.o (a:=⟨rb,7,none⟩) ko (.slice (some ⟨gg,0,none⟩) (acc.length+1) aP)
     simpa[ML,mv] using this
    ·exact A4.aB (S:=[rb]) ((aA.refl _ _).setCell (by simp) _) (by simp;omega)
    exact((((l8.o.alloc _).alloc _).drew).grown HO.o (λk hk=>Or.inr (MV.o.lt _ hk).1)).setCell (by simp) _
theorem aA.new(h:aA [] a w)(k:aA S w w')(hS:∀x,x∈S->a.heap.size<=x):aA [] a w' :=
 ⟨k.os.trans h.os,k.tape.trans h.tape,k.output.trans h.output,a0e h.size k.size,λi hi _=>(k.block i (a0x hi h.size) (λhm=>by have:=hS i hm;omega)).trans (h.block i hi (by simp))⟩
theorem ML.base{base:Nat} {L:List CM}(h:ML base w v L)(hb:base'<=base):ML base' w v L:=by
 refine⟨h.1,?_⟩;rcases h.2 with hn|⟨g,cap,cur,rfl,hg,rest⟩
 ·exact .inl hn
 exact .inr ⟨g,cap,cur,rfl,by omega,rest⟩
def aR:RV:=⟨0,[],false,.slice none 0 0,0,0,0,.slice none 0 0,false⟩
def jP:LB:=[114,111,117,116,101,32]
def gB:LB:=[32,99,111,110,116,105,110,117,101]
structure CR where
 d:Nat
 rc:LB
 tb:Bool
 nU:List LB
 wt:Int
 ev:Int
 rp:Int
 ifs:List CM
 co:Bool
structure Ew(base:Nat)(w:World)(v:RV)(c:CR):Prop where
 d:v.d=c.d
 rc:v.rc=c.rc
 tb:v.tb=c.tb
 KI:SL base w v.dP c.nU
 wt:v.wt=c.wt
 ev:v.ev=c.ev
 rp:v.rp=c.rp
 ifs:ML base w v.iB c.ifs
 co:v.co=c.co
def bD:LB->Nat × LB
 | []=>(0,[])
 | c::r=>if c==32 then ((bD r).1+1,(bD r).2) else (0,c::r)
def fI(t:LB):Option CR :=
 let l0:=(bD t).2
 if aL jP l0 then
  let a:=dR (aJ jP l0)
  if a.2.1 then
   let b:=jW a.2.2
   if b.ok then
    let c:=dB b.rest
    if c.ok then
     let m:=kL c.rest
     if m.2.1 then
      if (aJ gB m.2.2).isEmpty then some ⟨(bD t).1,a.1,b.tells,b.names,c.wt,c.ev,c.rp,m.1,aL gB m.2.2⟩ else none
     else none
    else none
   else none
  else none
 else none
theorem afN(l:LB):aL [32] l=(match l with | c::_=>c==32 | []=>false):=by
 unfold aL;cases l with
 | nil=>rfl
 | cons c r=>simp[List.isPrefixOf];rw[a0P];simp;exact eq_comm
theorem QU(c:UInt8)(r:LB)(h:(c==32)=true):bD (c::r)=((bD r).1+1,(bD r).2):=by
 conv=>lhs;unfold bD
 rw[h];rfl
theorem Vi(c:UInt8)(r:LB)(h:(c==32)=false):bD (c::r)=(0,c::r):=by
 conv=>lhs;unfold bD
 rw[h];rfl
theorem aiT(w:World)(a b c:Obj):(((w.alloc a).alloc b).alloc c).heap[w.heap.size+1+1]?=some c:=by
 have:=heap_alloc_new ((w.alloc a).alloc b) c;rw[<-this];simp
theorem aiU(w:World)(a b c:Obj):(((w.alloc a).alloc b).alloc c).heap[w.heap.size+1]?=some b:=by
 rw[Below.heap_alloc _ _ _ (by simp)];have:=heap_alloc_new (w.alloc a) b;rw[<-this];simp
theorem aiV(w:World)(a b c:Obj):(((w.alloc a).alloc b).alloc c).heap[w.heap.size]?=some a:=by
 rw[Below.heap_alloc _ _ _ (by simp;omega),Below.heap_alloc _ _ _ (by simp)];exact heap_alloc_new w a
theorem RT.aiW {r:RV}(h:RT w rb r)(d:Int)(rc:LB)(tb:Bool)(dP:Value)(wt ev rp:Int)(iB:Value)(co:Bool) :
 RT (((((((((w.setCell ⟨rb,0,none⟩ (.int .i64 d)).setCell ⟨rb,1,none⟩ (.string (bs rc))).setCell ⟨rb,2,none⟩ (.bool tb)).setCell ⟨rb,3,none⟩ dP).setCell ⟨rb,4,none⟩ (.int .i64 wt)).setCell ⟨rb,5,none⟩ (.int .i64 ev)).setCell ⟨rb,6,none⟩ (.int .i64 rp)).setCell ⟨rb,7,none⟩ iB).setCell ⟨rb,8,none⟩ (.bool co)) rb ⟨d,rc,tb,dP,wt,ev,rp,iB,co⟩ :=
 ((((((((h.set 0 _ { r with d:=d } rfl).set 1 _ { r with d:=d,rc:=rc } rfl).set 2 _ { r with d:=d,rc:=rc,tb:=tb } rfl).set 3 _ { r with d:=d,rc:=rc,tb:=tb,dP:=dP } rfl).set 4 _ { r with d:=d,rc:=rc,tb:=tb,dP:=dP,wt:=wt } rfl).set 5 _ { r with d:=d,rc:=rc,tb:=tb,dP:=dP,wt:=wt,ev:=ev } rfl).set 6 _ { r with d:=d,rc:=rc,tb:=tb,dP:=dP,wt:=wt,ev:=ev,rp:=rp } rfl).set 7 _ { r with d:=d,rc:=rc,tb:=tb,dP:=dP,wt:=wt,ev:=ev,rp:=rp,iB:=iB } rfl).set 8 _ _ rfl
theorem aA.aiW(h:aA S a w)(hb:a.heap.size<=rb)(v0 v1 v2 v3 v4 v5 v6 v7 v8:Value):aA S a (((((((((w.setCell ⟨rb,0,none⟩ v0).setCell ⟨rb,1,none⟩ v1).setCell ⟨rb,2,none⟩ v2).setCell ⟨rb,3,none⟩ v3).setCell ⟨rb,4,none⟩ v4).setCell ⟨rb,5,none⟩ v5).setCell ⟨rb,6,none⟩ v6).setCell ⟨rb,7,none⟩ v7).setCell ⟨rb,8,none⟩ v8) :=
 ((((((((h.setCell (Or.inr hb) _).setCell (Or.inr hb) _).setCell (Or.inr hb) _).setCell (Or.inr hb) _).setCell (Or.inr hb) _).setCell (Or.inr hb) _).setCell (Or.inr hb) _).setCell (Or.inr hb) _).setCell (Or.inr hb) _
theorem aA.aiX(h:aA [rb] a w)(n:Nat)(v0 v1 v2 v3 v4 v5 v6 v7 v8:Value):aA [rb] a ((((((((((w.drewN n).setCell ⟨rb,0,none⟩ v0).setCell ⟨rb,1,none⟩ v1).setCell ⟨rb,2,none⟩ v2).setCell ⟨rb,3,none⟩ v3).setCell ⟨rb,4,none⟩ v4).setCell ⟨rb,5,none⟩ v5).setCell ⟨rb,6,none⟩ v6).setCell ⟨rb,7,none⟩ v7).setCell ⟨rb,8,none⟩ v8) :=
 (((((((((h.drewN n).setCell (by simp) _).setCell (by simp) _).setCell (by simp) _).setCell (by simp) _).setCell (by simp) _).setCell (by simp) _).setCell (by simp) _).setCell (by simp) _).setCell (by simp) _
theorem acy {rv:RV}(h:RT w rb rv):(loadVar 62 ⟨rb,0,none⟩).run Tryz.prog w=.ok (.agg rv.cells) w:=by
 obtain⟨d,rc,tb,dP,wt,ev,rp,iB,co⟩:=rv;have iA:w.cell? ⟨rb,0,none⟩=some (.int .i64 d):=h.cell 0;have fT:w.cell? ⟨rb,1,none⟩=some (.string (bs rc)):=h.cell 1;have gF:w.cell? ⟨rb,2,none⟩=some (.bool tb):=h.cell 2;have uP:w.cell? ⟨rb,3,none⟩=some dP:=h.cell 3;have Vk:w.cell? ⟨rb,4,none⟩=some (.int .i64 wt):=h.cell 4;have yA:w.cell? ⟨rb,5,none⟩=some (.int .i64 ev):=h.cell 5;have Jl:w.cell? ⟨rb,6,none⟩=some (.int .i64 rp):=h.cell 6;have Jj:w.cell? ⟨rb,7,none⟩=some iB:=h.cell 7;have hz8:w.cell? ⟨rb,8,none⟩=some (.bool co):=h.cell 8;simp[go_sem,RV.cells,iA,fT,gF,uP,Vk,yA,Jl,Jj,hz8]
theorem nV {rv:RV} {ok:Bool} {tmps:Array Value}(h:RT w rb rv)(h2:tmps.getD 2 undef=.pointer (some ⟨rb,0,none⟩))(h3:tmps.getD 3 undef=.bool ok) :
 (results Tryz.f43 tmps).run Tryz.prog w=.ok (.tuple #[.agg rv.cells,.bool ok]) w:=by
 rw[results_cell_tmp Tryz.results43,h2,h3];simp[asAddr,acy h]
theorem Vl(t:LB)(w:World)(ht:t.length<=1048576) :
 Calls Tryz.prog 43 #[.string (bs t)] w λe w'=>aA [] w w'/\∃rv,(∃a n c,rv.dP=.slice a n c)/\(∃a n c,rv.iB=.slice a n c) /\
  e=.returned (.tuple #[.agg rv.cells,.bool (fI t).isSome])/\∀c,fI t=some c->Ew w.heap.size w' rv c:=by
 have T9:At (((w.alloc (Obj.cells aR.cells 62)).alloc (Obj.cells #[Value.string (bs t),Value.int IntKind.i64 0] 148)).alloc (Obj.cells aR.cells 62)) (w.heap.size+1) t t :=
  ⟨0,⟨aiU _ _ _ _,a1C _,ht⟩,rfl⟩
 have hr0:RT (((w.alloc (Obj.cells aR.cells 62)).alloc (Obj.cells #[Value.string (bs t),Value.int IntKind.i64 0] 148)).alloc (Obj.cells aR.cells 62)) (w.heap.size+1+1) aR:=aiT _ _ _ _;have zW:RT (((w.alloc (Obj.cells aR.cells 62)).alloc (Obj.cells #[Value.string (bs t),Value.int IntKind.i64 0] 148)).alloc (Obj.cells aR.cells 62)) w.heap.size aR:=aiV _ _ _ _;have Fu:aA [] w (((w.alloc (Obj.cells aR.cells 62)).alloc (Obj.cells #[Value.string (bs t),Value.int IntKind.i64 0] 148)).alloc (Obj.cells aR.cells 62)):=(((aA.refl _ _).alloc _).alloc _).alloc _;have A0:Z_ (_/\_/\_/\_):=⟨T9,hr0,zW,Fu⟩;clear T9 hr0 zW Fu;go_enter Tryz.func43,Tryz.ntmps43
 go_wp2_with fail
 go_loopg [] t.length (λk wr=>∃(l:LB) (d:Nat),l.length<=k/\d+l.length<=t.length/\(bD l).1+d=(bD t).1/\(bD l).2=(bD t).2/\At wr (w.heap.size+1) t l/\RT wr (w.heap.size+1+1) { aR with d:=d }/\RT wr w.heap.size aR/\aA [] w wr)
 case atStart=>exact⟨t,0,a0a _,by omega,by omega,rfl,A0.o.1,A0.o.2.1,A0.o.2.2.1,A0.o.2.2.2⟩
 case round =>
 clear A0;obtain⟨l,d,Kv,DJ,iH,kY,aX,Cr,hr0,bU⟩:=hrel;have Hd:Z_ ((bD l).1+d=(bD t).1/\(bD l).2=(bD t).2):=⟨iH,kY⟩;have HA:Z_ (At wr (w.heap.size+1) t l):=aX;have HR:Z_ (RT wr (w.heap.size+1+1) { aR with d:=d }):=Cr;have H0:Z_ (RT wr w.heap.size aR):=hr0;have Vm:Z_ (aA [] w wr):=bU;clear iH kY aX Cr hr0 bU;go_wp2_with fail
 refine(fV (w.heap.size+1) t l [32] _ HA.o (by simp)).mono ?_;rintro e w1 ⟨rfl,h1,aZ⟩;have H1:Z_ (At w1 (w.heap.size+1) t (aJ [32] l)):=h1;have R1:Z_ (RT w1 (w.heap.size+1+1) { aR with d:=d }):=HR.o.aB aZ (by simp);have R01:Z_ (RT w1 w.heap.size aR):=H0.o.aB aZ (by simp);have qy:Z_ (aA [] w w1):=Vm.o.new aZ (by simp);clear h1 aZ HA HR H0 Vm;cases gM:aL [32] l
 case true =>
  obtain⟨c,r,rfl⟩:∃c r,l=c::r:=by
   cases l with
   | nil=>cases gM
   | cons c r=>exact⟨c,r,rfl⟩
  have hc:(c==32)=true:=by rw[afN]at gM;exact gM
  have Hr:Z_ (aJ [32] (c::r)=r):=by
   show aJ [32] (c::r)=r;unfold aL at gM;unfold aJ;rw[a0j gM];rfl
  rw[Hr.o]at H1;simp only[a0o]at Kv DJ;have c0:w1.cell? ⟨w.heap.size+1+1,0,none⟩=some (.int .i64 d):=R1.o.cell 0;have f0:=R1.o.fz 0;have xZ:Z_ ((bD r).1+(d+1)=(bD t).1/\(bD r).2=(bD t).2):=by
   have:=Hd.o;rw[QU c r hc]at this;exact⟨by have:=this.1;simp only at this;omega,this.2⟩
  clear Hd gM;go_wp2;go_roundg (gk-1)
  case measure=>omega
  case rel =>
   refine⟨r,d+1,by omega,by omega,xZ.o.1,xZ.o.2,?_,?_,?_,?_⟩
   ·exact H1.o.aB (S:=[w.heap.size+1+1]) ((aA.refl _ _).setCell (by simp) _) (by simp)
   ·exact R1.o.set 0 _ _ rfl
   ·exact R01.o.aB (S:=[w.heap.size+1+1]) ((aA.refl _ _).setCell (by simp) _) (by simp;omega)
   exact qy.o.setCell (Or.inr (by simp;omega)) _
 case false =>
 rw[jc gM]at H1;have xZ:Z_ (d=(bD t).1/\l=(bD t).2):=by
  have:=Hd.o;cases l with
  | nil=>exact⟨by have:=this.1;simp[bD]at this;exact this,this.2⟩
  | cons c r =>
    rw[afN]at gM;rw[Vi c r gM]at this;exact⟨by simpa using this.1,by simpa using this.2⟩
 clear Hd gM;go_wp2_with fail
 refine(fV (w.heap.size+1) t l jP _ H1.o (by simp[jP])).mono ?_;rintro e w2 ⟨rfl,h2,aS⟩;have HA:Z_ (At w2 (w.heap.size+1) t (aJ jP l)):=h2;have R1':Z_ (RT w2 (w.heap.size+1+1) { aR with d:=d }):=R1.o.aB aS (by simp);have R0:Z_ (RT w2 w.heap.size aR):=R01.o.aB aS (by simp);have HF:Z_ (aA [] w w2):=qy.o.new aS (by simp);clear h2 aS H1 R1 R01 qy;cases gM:aL jP l
 case false =>
  have Hx:Z_ (fI t=none):=by
   show fI t=none;unfold fI;rw[<-xZ.o.2];simp[gM]
  have iA:w2.cell? ⟨w.heap.size,0,none⟩=some (.int .i64 0):=R0.o.cell 0;have fT:w2.cell? ⟨w.heap.size,1,none⟩=some (.string (bs [])):=R0.o.cell 1;have gF:w2.cell? ⟨w.heap.size,2,none⟩=some (.bool false):=R0.o.cell 2;have uP:w2.cell? ⟨w.heap.size,3,none⟩=some (.slice none 0 0):=R0.o.cell 3;have Vk:w2.cell? ⟨w.heap.size,4,none⟩=some (.int .i64 0):=R0.o.cell 4;have yA:w2.cell? ⟨w.heap.size,5,none⟩=some (.int .i64 0):=R0.o.cell 5;have Jl:w2.cell? ⟨w.heap.size,6,none⟩=some (.int .i64 0):=R0.o.cell 6;have Jj:w2.cell? ⟨w.heap.size,7,none⟩=some (.slice none 0 0):=R0.o.cell 7;have hz8:w2.cell? ⟨w.heap.size,8,none⟩=some (.bool false):=R0.o.cell 8;have MW:=R0.o.fz;go_wp2;refine bodyPost_ret (nV (rv:=aR) (ok:=false) (rb:=w.heap.size) ?_ (by rfl) (by rfl)) rfl ?_
  ·exact((((((((R0.o.set 0 _ aR rfl).set 1 _ aR rfl).set 2 _ aR rfl).set 3 _ aR rfl).set 4 _ aR rfl).set 5 _ aR rfl).set 6 _ aR rfl).set 7 _ aR rfl).set 8 _ aR rfl
  rw[Hx.o];refine⟨?_,aR,⟨_,_,_,rfl⟩,⟨_,_,_,rfl⟩,rfl,λc h=>by cases h⟩;exact((((((((HF.o.setCell (by simp) _).setCell (by simp) _).setCell (by simp) _).setCell (by simp) _).setCell (by simp) _).setCell (by simp) _).setCell (by simp) _).setCell (by simp) _).setCell (by simp) _
 case true =>
 have T1:Z_ (aL jP l=true):=gM;clear gM;generalize sH:aJ jP l=l1 at *;have L1:Z_ (aJ jP l=l1):=sH;clear sH;go_wp2_with fail
 refine(MO (w.heap.size+1) (w.heap.size+1+1) t l1 _ _ HA.o R1'.o (by omega)).mono ?_;rintro e w3 ⟨rfl,h3,Bj,bZ⟩;have HA3:Z_ (At w3 (w.heap.size+1) t (dR l1).2.2):=h3;have R3:Z_ (RT w3 (w.heap.size+1+1) { aR with d:=d,rc:=(dR l1).1 }):=Bj;have MX:Z_ (RT w3 w.heap.size aR):=R0.o.aB bZ (by simp;omega);have MY:Z_ (aA [] w w3):=HF.o.new bZ (by simp;omega);clear h3 Bj bZ HA R1' R0 HF;have R0:=MX;have HF:=MY;clear MX MY;cases gM:(dR l1).2.1
 case false =>
  have Hx:Z_ (fI t=none):=by
   show fI t=none;unfold fI;rw[<-xZ.o.2];simp[T1.o,L1.o,gM]
  have iA:w3.cell? ⟨w.heap.size,0,none⟩=some (.int .i64 0):=R0.o.cell 0;have fT:w3.cell? ⟨w.heap.size,1,none⟩=some (.string (bs [])):=R0.o.cell 1;have gF:w3.cell? ⟨w.heap.size,2,none⟩=some (.bool false):=R0.o.cell 2;have uP:w3.cell? ⟨w.heap.size,3,none⟩=some (.slice none 0 0):=R0.o.cell 3;have Vk:w3.cell? ⟨w.heap.size,4,none⟩=some (.int .i64 0):=R0.o.cell 4;have yA:w3.cell? ⟨w.heap.size,5,none⟩=some (.int .i64 0):=R0.o.cell 5;have Jl:w3.cell? ⟨w.heap.size,6,none⟩=some (.int .i64 0):=R0.o.cell 6;have Jj:w3.cell? ⟨w.heap.size,7,none⟩=some (.slice none 0 0):=R0.o.cell 7;have hz8:w3.cell? ⟨w.heap.size,8,none⟩=some (.bool false):=R0.o.cell 8;have MW:=R0.o.fz;go_wp2;refine bodyPost_ret (nV (rv:=aR) (ok:=false) (rb:=w.heap.size) ?_ (by rfl) (by rfl)) rfl ?_
  ·exact((((((((R0.o.set 0 _ aR rfl).set 1 _ aR rfl).set 2 _ aR rfl).set 3 _ aR rfl).set 4 _ aR rfl).set 5 _ aR rfl).set 6 _ aR rfl).set 7 _ aR rfl).set 8 _ aR rfl
  rw[Hx.o];refine⟨?_,aR,⟨_,_,_,rfl⟩,⟨_,_,_,rfl⟩,rfl,λc h=>by cases h⟩;exact((((((((HF.o.setCell (by simp) _).setCell (by simp) _).setCell (by simp) _).setCell (by simp) _).setCell (by simp) _).setCell (by simp) _).setCell (by simp) _).setCell (by simp) _).setCell (by simp) _
 case true =>
 have T2:Z_ ((dR l1).2.1=true):=gM;clear gM;generalize Ji:(dR l1).2.2=l2 at *;have L2:Z_ ((dR l1).2.2=l2):=Ji;clear Ji;go_wp2_with fail
 refine(acx (w.heap.size+1) (w.heap.size+1+1) t l2 _ _ HA3.o R3.o (by omega) rfl rfl).mono ?_;rintro e w4 ⟨rfl,h4,⟨v4,MP,Vg⟩,nR⟩;have HA4:Z_ (At w4 (w.heap.size+1) t (jW l2).rest):=h4;have R4:Z_ (RT w4 (w.heap.size+1+1) { aR with d:=d,rc:=(dR l1).1,tb:=(jW l2).tells,dP:=v4 }):=MP;have S4:Z_ (SL (w.heap.size+1+1+1) w4 v4 (jW l2).names):=Vg.base (by have:=R3.o.lt;omega);have MX:Z_ (RT w4 w.heap.size aR):=R0.o.aB nR (by simp;omega);have MY:Z_ (aA [] w w4):=HF.o.new nR (by simp;omega);clear h4 MP Vg nR HA3 R3 R0 HF;have R0:=MX;have HF:=MY;clear MX MY;cases gM:(jW l2).ok
 case false =>
  have Hx:Z_ (fI t=none):=by
   show fI t=none;unfold fI;rw[<-xZ.o.2];simp[T1.o,L1.o,T2.o,L2.o,gM]
  have iA:w4.cell? ⟨w.heap.size,0,none⟩=some (.int .i64 0):=R0.o.cell 0;have fT:w4.cell? ⟨w.heap.size,1,none⟩=some (.string (bs [])):=R0.o.cell 1;have gF:w4.cell? ⟨w.heap.size,2,none⟩=some (.bool false):=R0.o.cell 2;have uP:w4.cell? ⟨w.heap.size,3,none⟩=some (.slice none 0 0):=R0.o.cell 3;have Vk:w4.cell? ⟨w.heap.size,4,none⟩=some (.int .i64 0):=R0.o.cell 4;have yA:w4.cell? ⟨w.heap.size,5,none⟩=some (.int .i64 0):=R0.o.cell 5;have Jl:w4.cell? ⟨w.heap.size,6,none⟩=some (.int .i64 0):=R0.o.cell 6;have Jj:w4.cell? ⟨w.heap.size,7,none⟩=some (.slice none 0 0):=R0.o.cell 7;have hz8:w4.cell? ⟨w.heap.size,8,none⟩=some (.bool false):=R0.o.cell 8;have MW:=R0.o.fz;go_wp2;refine bodyPost_ret (nV (rv:=aR) (ok:=false) (rb:=w.heap.size) ?_ (by rfl) (by rfl)) rfl ?_
  ·exact((((((((R0.o.set 0 _ aR rfl).set 1 _ aR rfl).set 2 _ aR rfl).set 3 _ aR rfl).set 4 _ aR rfl).set 5 _ aR rfl).set 6 _ aR rfl).set 7 _ aR rfl).set 8 _ aR rfl
  rw[Hx.o];refine⟨?_,aR,⟨_,_,_,rfl⟩,⟨_,_,_,rfl⟩,rfl,λc h=>by cases h⟩;exact((((((((HF.o.setCell (by simp) _).setCell (by simp) _).setCell (by simp) _).setCell (by simp) _).setCell (by simp) _).setCell (by simp) _).setCell (by simp) _).setCell (by simp) _).setCell (by simp) _
 case true =>
 have T3:Z_ ((jW l2).ok=true):=gM;clear gM;generalize hl3:(jW l2).rest=l3 at *;have L3:Z_ ((jW l2).rest=l3):=hl3;clear hl3;go_wp2_with fail
 refine(Vh (w.heap.size+1) (w.heap.size+1+1) t l3 _ _ HA4.o R4.o (by omega)).mono ?_;rintro e w5 ⟨rfl,h5,hr5,wN⟩;have HA5:Z_ (At w5 (w.heap.size+1) t (dB l3).rest):=h5;have R5:Z_ (RT w5 (w.heap.size+1+1) { aR with d:=d,rc:=(dR l1).1,tb:=(jW l2).tells,dP:=v4,wt:=(dB l3).wt,ev:=(dB l3).ev,rp:=(dB l3).rp }):=hr5;have S5:Z_ (SL (w.heap.size+1+1+1) w5 v4 (jW l2).names):=S4.o.aB wN (by simp);have MX:Z_ (RT w5 w.heap.size aR):=R0.o.aB wN (by simp;omega);have MY:Z_ (aA [] w w5):=HF.o.new wN (by simp;omega);clear h5 hr5 wN HA4 R4 R0 HF S4;have R0:=MX;have HF:=MY;clear MX MY;cases gM:(dB l3).ok
 case false =>
  have Hx:Z_ (fI t=none):=by
   show fI t=none;unfold fI;rw[<-xZ.o.2];simp[T1.o,L1.o,T2.o,L2.o,T3.o,L3.o,gM]
  have iA:w5.cell? ⟨w.heap.size,0,none⟩=some (.int .i64 0):=R0.o.cell 0;have fT:w5.cell? ⟨w.heap.size,1,none⟩=some (.string (bs [])):=R0.o.cell 1;have gF:w5.cell? ⟨w.heap.size,2,none⟩=some (.bool false):=R0.o.cell 2;have uP:w5.cell? ⟨w.heap.size,3,none⟩=some (.slice none 0 0):=R0.o.cell 3;have Vk:w5.cell? ⟨w.heap.size,4,none⟩=some (.int .i64 0):=R0.o.cell 4;have yA:w5.cell? ⟨w.heap.size,5,none⟩=some (.int .i64 0):=R0.o.cell 5;have Jl:w5.cell? ⟨w.heap.size,6,none⟩=some (.int .i64 0):=R0.o.cell 6;have Jj:w5.cell? ⟨w.heap.size,7,none⟩=some (.slice none 0 0):=R0.o.cell 7;have hz8:w5.cell? ⟨w.heap.size,8,none⟩=some (.bool false):=R0.o.cell 8;have MW:=R0.o.fz;go_wp2;refine bodyPost_ret (nV (rv:=aR) (ok:=false) (rb:=w.heap.size) ?_ (by rfl) (by rfl)) rfl ?_
  ·exact((((((((R0.o.set 0 _ aR rfl).set 1 _ aR rfl).set 2 _ aR rfl).set 3 _ aR rfl).set 4 _ aR rfl).set 5 _ aR rfl).set 6 _ aR rfl).set 7 _ aR rfl).set 8 _ aR rfl
  rw[Hx.o];refine⟨?_,aR,⟨_,_,_,rfl⟩,⟨_,_,_,rfl⟩,rfl,λc h=>by cases h⟩;exact((((((((HF.o.setCell (by simp) _).setCell (by simp) _).setCell (by simp) _).setCell (by simp) _).setCell (by simp) _).setCell (by simp) _).setCell (by simp) _).setCell (by simp) _).setCell (by simp) _
 case true =>
 have T4:Z_ ((dB l3).ok=true):=gM;clear gM;generalize hl4:(dB l3).rest=l4 at *;have L4:Z_ ((dB l3).rest=l4):=hl4;clear hl4;go_wp2_with fail
 refine(MS (w.heap.size+1) (w.heap.size+1+1) t l4 _ _ HA5.o R5.o (by omega) rfl).mono ?_;rintro e w6 ⟨rfl,h6,⟨v6,Ye,hm6⟩,_,Bi⟩;have HA6:Z_ (At w6 (w.heap.size+1) t (kL l4).2.2):=h6;have R6:Z_ (RT w6 (w.heap.size+1+1) { aR with d:=d,rc:=(dR l1).1,tb:=(jW l2).tells,dP:=v4,wt:=(dB l3).wt,ev:=(dB l3).ev,rp:=(dB l3).rp,iB:=v6 }):=Ye;have S6:Z_ (SL (w.heap.size+1+1+1) w6 v4 (jW l2).names):=S5.o.aB Bi (by simp);have M6:Z_ (ML (w.heap.size+1+1+1) w6 v6 (kL l4).1):=hm6.base (by have:=R5.o.lt;omega);have MX:Z_ (RT w6 w.heap.size aR):=R0.o.aB Bi (by simp;omega);have MY:Z_ (aA [] w w6):=HF.o.new Bi (by simp;omega);clear h6 Ye hm6 Bi HA5 R5 R0 HF S5;have R0:=MX;have HF:=MY;clear MX MY;cases gM:(kL l4).2.1
 case false =>
  have Hx:Z_ (fI t=none):=by
   show fI t=none;unfold fI;rw[<-xZ.o.2];simp[T1.o,L1.o,T2.o,L2.o,T3.o,L3.o,T4.o,L4.o,gM]
  have iA:w6.cell? ⟨w.heap.size,0,none⟩=some (.int .i64 0):=R0.o.cell 0;have fT:w6.cell? ⟨w.heap.size,1,none⟩=some (.string (bs [])):=R0.o.cell 1;have gF:w6.cell? ⟨w.heap.size,2,none⟩=some (.bool false):=R0.o.cell 2;have uP:w6.cell? ⟨w.heap.size,3,none⟩=some (.slice none 0 0):=R0.o.cell 3;have Vk:w6.cell? ⟨w.heap.size,4,none⟩=some (.int .i64 0):=R0.o.cell 4;have yA:w6.cell? ⟨w.heap.size,5,none⟩=some (.int .i64 0):=R0.o.cell 5;have Jl:w6.cell? ⟨w.heap.size,6,none⟩=some (.int .i64 0):=R0.o.cell 6;have Jj:w6.cell? ⟨w.heap.size,7,none⟩=some (.slice none 0 0):=R0.o.cell 7;have hz8:w6.cell? ⟨w.heap.size,8,none⟩=some (.bool false):=R0.o.cell 8;have MW:=R0.o.fz;go_wp2;refine bodyPost_ret (nV (rv:=aR) (ok:=false) (rb:=w.heap.size) ?_ (by rfl) (by rfl)) rfl ?_
  ·exact((((((((R0.o.set 0 _ aR rfl).set 1 _ aR rfl).set 2 _ aR rfl).set 3 _ aR rfl).set 4 _ aR rfl).set 5 _ aR rfl).set 6 _ aR rfl).set 7 _ aR rfl).set 8 _ aR rfl
  rw[Hx.o];refine⟨?_,aR,⟨_,_,_,rfl⟩,⟨_,_,_,rfl⟩,rfl,λc h=>by cases h⟩;exact((((((((HF.o.setCell (by simp) _).setCell (by simp) _).setCell (by simp) _).setCell (by simp) _).setCell (by simp) _).setCell (by simp) _).setCell (by simp) _).setCell (by simp) _).setCell (by simp) _
 case true =>
 have T5:Z_ ((kL l4).2.1=true):=gM;clear gM;generalize hl5:(kL l4).2.2=l5 at *;have L5:Z_ ((kL l4).2.2=l5):=hl5;clear hl5;go_wp2_with fail
 refine(fV (w.heap.size+1) t l5 gB _ HA6.o (by simp[gB])).mono ?_;rintro e w7 ⟨rfl,h7,xV⟩;have HA7:Z_ (At w7 (w.heap.size+1) t (aJ gB l5)):=h7;have R7:Z_ (RT w7 (w.heap.size+1+1) { aR with d:=d,rc:=(dR l1).1,tb:=(jW l2).tells,dP:=v4,wt:=(dB l3).wt,ev:=(dB l3).ev,rp:=(dB l3).rp,iB:=v6 }):=R6.o.aB xV (by simp);have S7:Z_ (SL (w.heap.size+1+1+1) w7 v4 (jW l2).names):=S6.o.aB xV (by simp);have M7:Z_ (ML (w.heap.size+1+1+1) w7 v6 (kL l4).1):=M6.o.aB xV (by simp);have MX:Z_ (RT w7 w.heap.size aR):=R0.o.aB xV (by simp);have MY:Z_ (aA [] w w7):=HF.o.new xV (by simp);clear h7 xV HA6 R6 R0 HF S6 M6;have R0:=MX;have HF:=MY;clear MX MY;have c8:w7.cell? ⟨w.heap.size+1+1,8,none⟩=some (.bool false):=R7.o.cell 8;have f8:=R7.o.fz 8;go_wp2_with fail
 have R8:Z_ (RT (w7.setCell ⟨w.heap.size+1+1,8,none⟩ (.bool (aL gB l5))) (w.heap.size+1+1) ⟨d,(dR l1).1,(jW l2).tells,v4,(dB l3).wt,(dB l3).ev,(dB l3).rp,v6,aL gB l5⟩):=R7.o.set 8 _ _ rfl;have F8:aA [w.heap.size+1+1] w7 (w7.setCell ⟨w.heap.size+1+1,8,none⟩ (.bool (aL gB l5))):=(aA.refl _ _).setCell (by simp) _;have HA8:Z_ (At (w7.setCell ⟨w.heap.size+1+1,8,none⟩ (.bool (aL gB l5))) (w.heap.size+1) t (aJ gB l5)):=HA7.o.aB F8 (by simp);have S8:Z_ (SL (w.heap.size+1+1+1) (w7.setCell ⟨w.heap.size+1+1,8,none⟩ (.bool (aL gB l5))) v4 (jW l2).names):=S7.o.aB F8 (by simp);have M8:Z_ (ML (w.heap.size+1+1+1) (w7.setCell ⟨w.heap.size+1+1,8,none⟩ (.bool (aL gB l5))) v6 (kL l4).1):=M7.o.aB F8 (by simp);have R08:Z_ (RT (w7.setCell ⟨w.heap.size+1+1,8,none⟩ (.bool (aL gB l5))) w.heap.size aR):=R0.o.aB F8 (by simp;omega);have HF8:Z_ (aA [] w (w7.setCell ⟨w.heap.size+1+1,8,none⟩ (.bool (aL gB l5)))):=HF.o.new F8 (by simp;omega);clear F8 R0 HF c8 f8 HA7 R7 S7 M7;have R0:=R08;have HF:=HF8;clear R08 HF8;generalize w7.setCell ⟨w.heap.size+1+1,8,none⟩ (.bool (aL gB l5))=w8 at *;obtain⟨a4,FY,rfl⟩:=S8.o.shape;obtain⟨a6,aiY,rfl⟩:=aT M8;have hr0:w8.cell? ⟨w.heap.size+1+1,0,none⟩=some (.int .i64 d):=R8.o.cell 0;have lG:w8.cell? ⟨w.heap.size+1+1,1,none⟩=some (.string (bs (dR l1).1)):=R8.o.cell 1;have pX:w8.cell? ⟨w.heap.size+1+1,2,none⟩=some (.bool (jW l2).tells):=R8.o.cell 2;have Bj:w8.cell? ⟨w.heap.size+1+1,3,none⟩=some (.slice a4 (jW l2).names.length FY):=R8.o.cell 3;have MP:w8.cell? ⟨w.heap.size+1+1,4,none⟩=some (.int .i64 (dB l3).wt):=R8.o.cell 4;have hr5:w8.cell? ⟨w.heap.size+1+1,5,none⟩=some (.int .i64 (dB l3).ev):=R8.o.cell 5;have Ye:w8.cell? ⟨w.heap.size+1+1,6,none⟩=some (.int .i64 (dB l3).rp):=R8.o.cell 6;have hr7:w8.cell? ⟨w.heap.size+1+1,7,none⟩=some (.slice a6 (kL l4).1.length aiY):=R8.o.cell 7;have hr8:w8.cell? ⟨w.heap.size+1+1,8,none⟩=some (.bool (aL gB l5)):=R8.o.cell 8;have iA:w8.cell? ⟨w.heap.size,0,none⟩=some (.int .i64 0):=R0.o.cell 0;have fT:w8.cell? ⟨w.heap.size,1,none⟩=some (.string (bs [])):=R0.o.cell 1;have gF:w8.cell? ⟨w.heap.size,2,none⟩=some (.bool false):=R0.o.cell 2;have uP:w8.cell? ⟨w.heap.size,3,none⟩=some (.slice none 0 0):=R0.o.cell 3;have Vk:w8.cell? ⟨w.heap.size,4,none⟩=some (.int .i64 0):=R0.o.cell 4;have yA:w8.cell? ⟨w.heap.size,5,none⟩=some (.int .i64 0):=R0.o.cell 5;have Jl:w8.cell? ⟨w.heap.size,6,none⟩=some (.int .i64 0):=R0.o.cell 6;have Jj:w8.cell? ⟨w.heap.size,7,none⟩=some (.slice none 0 0):=R0.o.cell 7;have hz8:w8.cell? ⟨w.heap.size,8,none⟩=some (.bool false):=R0.o.cell 8;have MW:=R0.o.fz;go_region_with (go_at_call 59;refine(UY (w.heap.size+1) t (aJ gB l5) _ (by exact HA8)).mono ?_;rintro e w' ⟨rfl,n,rfl⟩)
 all_goals
  go_wp2;refine bodyPost_ret (nV (rv:=⟨d,(dR l1).1,(jW l2).tells,.slice a4 (jW l2).names.length FY,(dB l3).wt,(dB l3).ev,(dB l3).rp,.slice a6 (kL l4).1.length aiY,aL gB l5⟩) (ok:=(aJ gB l5).isEmpty) (rb:=w.heap.size) ?_ (by rfl) (by rfl)) rfl ?_
  ·exact RT.aiW (R0.o.drewN _) _ _ _ _ _ _ _ _ _
  have hso:(fI t)=if (aJ gB l5).isEmpty then some ⟨(bD t).1,(dR l1).1,(jW l2).tells,(jW l2).names,(dB l3).wt,(dB l3).ev,(dB l3).rp,(kL l4).1,aL gB l5⟩ else none:=by
   unfold fI;rw[<-xZ.o.2];simp[T1.o,L1.o,T2.o,L2.o,T3.o,L3.o,T4.o,L4.o,T5.o,L5.o]
  refine⟨aA.aiW (HF.o.drewN _) (a0a _) _ _ _ _ _ _ _ _ _,⟨d,(dR l1).1,(jW l2).tells,.slice a4 (jW l2).names.length FY,(dB l3).wt,(dB l3).ev,(dB l3).rp,.slice a6 (kL l4).1.length aiY,aL gB l5⟩,⟨_,_,_,rfl⟩,⟨_,_,_,rfl⟩,?_,?_⟩
  ·rw[hso];cases (aJ gB l5).isEmpty<;>rfl
  intro c hc;rw[hso]at hc;cases he:(aJ gB l5).isEmpty
  ·rw[he]at hc;cases hc
  rw[he]at hc;simp only[a0C,Option.some.injEq]at hc;subst hc;refine⟨by simp[xZ.o.1],rfl,rfl,?_,rfl,rfl,rfl,?_,rfl⟩
  ·exact SL.base ((S8.o.aB (S:=[w.heap.size]) (aA.aiX (aA.refl _ _) _ _ _ _ _ _ _ _ _ _) (by simp;omega))) (by omega)
  exact ML.base ((M8.o.aB (S:=[w.heap.size]) (aA.aiX (aA.refl _ _) _ _ _ _ _ _ _ _ _ _) (by simp;omega))) (by omega)
def nW:LB:=[114,101,99,101,105,118,101,114,115]
def Aq:Nat->List LB->LB->Option (List LB)
 | 0,_,_=>none
 | k+1,acc,l =>
   if aL [32] l then
    let nm:=(aJ [32] l).takeWhile bA
    if !(aI nm)||decide (8<=acc.length) then none else Aq k (acc++[nm]) ((aJ [32] l).dropWhile bA)
   else if decide (0<acc.length)&&l.isEmpty then some acc else none
def iy(t:LB):Option (List LB):=if aL nW t then Aq 10 [] (aJ nW t) else none
theorem KO(t:LB)(w:World)(ht:t.length<=1048576) :
 Calls Tryz.prog 42 #[.string (bs t)] w λe w'=>aA [] w w'/\∃v' L,e=.returned (.tuple #[v',.bool (iy t).isSome])/\SL w.heap.size w' v' L/\∀L',iy t=some L'->L=L':=by
 have T9:At (w.alloc (Obj.cells #[Value.string (bs t),Value.int IntKind.i64 0] 148)) w.heap.size t t :=
  ⟨0,⟨bK _ _,a1C _,ht⟩,rfl⟩
 have A0:Z_ (At (w.alloc (Obj.cells #[Value.string (bs t),Value.int IntKind.i64 0] 148)) w.heap.size t t):=T9;clear T9;go_enter Tryz.func42,Tryz.ntmps42
 go_wp2_with fail
 refine(fV w.heap.size t t nW _ A0.o (by simp[nW])).mono ?_;rintro e w1 ⟨rfl,h1,aZ⟩;have qy:Z_ (aA [] w w1):=((aA.refl [] w).alloc _).new aZ (by simp);have fT:w.heap.size+1<=w1.heap.size:=by have:=aZ.size;simpa using this
 cases gM:aL nW t
 case false =>
  have Hx:Z_ (iy t=none):=by
   show iy t=none;unfold iy;rw[gM];rfl
  clear h1 aZ;go_wp2;go_ret2;rw[Hx.o];exact⟨qy,_,[],rfl,SL.nil _ _,λL' h=>by cases h⟩
 case true =>
 have Hx:Z_ (iy t=Aq 10 [] (aJ nW t)):=by
  show iy t=_;unfold iy;rw[gM];rfl
 have H1:Z_ (At w1 w.heap.size t (aJ nW t)):=h1;clear h1 aZ gM;go_wp2_with fail
 go_loopg [5] 10 (λk v wr=>∃(acc:List LB) (l':LB) (g cap:Nat),acc.length+k=10/\acc.length<=8/\v=.slice (some ⟨g,0,none⟩) acc.length cap/\w.heap.size+1<=g/\SL (w.heap.size+1) wr v acc/\Aq k acc l'=iy t/\At wr w.heap.size t l'/\aA [] w wr/\w.heap.size+1<=wr.heap.size)
 case atStart=>exact⟨[],aJ nW t,_,_,by simp,by simp,rfl,fT,World.ownsRow_lit _ #[] 0 fT (by unfold maxLen;omega) (by simp),Hx.o.symm,H1.o.aB (S:=[]) ((aA.refl _ _).alloc _) (by simp),qy.o.alloc _,by simp;omega⟩
 case round =>
  obtain⟨acc,l',g,cap,hk,U9,rfl,hg,pF,hlb,aX,bU,hz⟩:=hrel;have Hs:Z_ (SL (w.heap.size+1) wr (.slice (some ⟨g,0,none⟩) acc.length cap) acc):=pF;have Hl:Z_ (Aq gk acc l'=iy t):=hlb;have Ha:Z_ (At wr w.heap.size t l'):=aX;have Hf:Z_ (aA [] w wr):=bU;clear pF hlb aX bU H1 qy Hx;obtain⟨m,rfl⟩:∃m,gk=m+1:=⟨gk-1,by omega⟩;go_wp2_with fail
  refine(fV w.heap.size t l' [32] _ Ha.o (by simp)).mono ?_;rintro e w2 ⟨rfl,h2,aS⟩;have pG:Z_ (SL (w.heap.size+1) w2 (.slice (some ⟨g,0,none⟩) acc.length cap) acc):=Hs.o.aB aS (by simp);have l8:Z_ (aA [] w w2):=Hf.o.new aS (by simp);have gF:w.heap.size+1<=w2.heap.size:=by have:=aS.size;omega
  have H2:Z_ (At w2 w.heap.size t (aJ [32] l')):=h2;clear h2 aS Hs Hf Ha;cases ht:aL [32] l'
  case false =>
   rw[jc ht]at H2;have Hx:Z_ (iy t=if decide (0<acc.length)&&l'.isEmpty then some acc else none):=by
    show _=_;rw[<-Hl.o];conv=>lhs;unfold Aq
    rw[ht];rfl
   by_cases h0:0<acc.length
   ·have h0':decide ((0:Int)<(acc.length:Int))=true:=a0h (by omega)
    go_wp2_with (go_at_call 59;refine(UY w.heap.size t l' _ (by exact H2)).mono ?_;rintro e w' ⟨rfl,n,rfl⟩)
    go_ret2;refine⟨l8.o.drewN _,_,acc,?_,(pG.o.aB (S:=[]) ((aA.refl _ _).drewN _) (by simp)).base (by omega),?_⟩
    ·rw[Hx.o];cases l'<;>simp[h0]<;>rfl
    intro L' h;rw[Hx.o]at h;cases l'<;>simp_all
   have h0':decide ((0:Int)<(acc.length:Int))=false:=a0f (by omega);have gI:Z_ (iy t=none):=by show _=_;rw[Hx.o];simp[h0]
   go_wp2;go_ret2;refine⟨l8,_,acc,?_,pG.o.base (by omega),?_⟩
   ·rw[gI.o];rfl
   intro L' h;rw[gI.o]at h;cases h
  case true =>
  generalize sH:aJ [32] l'=l1 at *;have oF:Z_ (iy t=(if !(aI (l1.takeWhile bA))||decide (8<=acc.length) then none else Aq m (acc++[l1.takeWhile bA]) (l1.dropWhile bA))):=by
   show _=_;rw[<-Hl.o];conv=>lhs;unfold Aq
   rw[a0j ht,sH]
  clear sH Hl ht;go_wp2_with fail
  refine(sJ w.heap.size t l1 _ H2).mono ?_;rintro e w3 ⟨rfl,h3,bZ⟩;have H3:Z_ (At w3 w.heap.size t (l1.dropWhile bA)):=h3;have Kw:Z_ (aA [] w w3):=l8.o.new bZ (by simp);have Hs3:Z_ (SL (w.heap.size+1) w3 (.slice (some ⟨g,0,none⟩) acc.length cap) acc):=pG.o.aB bZ (by simp);have uP:w.heap.size+1<=w3.heap.size:=by have:=bZ.size;omega
  clear h3 bZ pG l8 H2;cases hn:aI (l1.takeWhile bA)
  ·have Hx:Z_ (iy t=none):=by
    show _=_;rw[oF.o,hn];rfl
   go_wp2;go_ret2;refine⟨Kw,_,[],?_,SL.nil _ _,?_⟩
   ·rw[Hx.o];rfl
   intro L' h;rw[Hx.o]at h;cases h
  by_cases h4:8<=acc.length
  ·have Hx:Z_ (iy t=none):=by
    show _=_;rw[oF.o,hn];simp[h4]
   go_wp2;go_ret2;refine⟨Kw,_,[],?_,SL.nil _ _,?_⟩
   ·rw[Hx.o];rfl
   intro L' h;rw[Hx.o]at h;cases h
  have Hx:Z_ (Aq m (acc++[l1.takeWhile bA]) (l1.dropWhile bA)=iy t):=by
   show _=_;rw[oF.o,hn];simp[h4]
  go_wp2_with (first | (at_builtin;refine o9 _ rfl _ _ rfl (w.heap.size+1) (.slice (some ⟨g,0,none⟩) acc.length cap) acc (l1.takeWhile bA) w3.heap.size rfl (Hs3.o.aB (S:=[]) ((aA.refl _ _).alloc _) (by simp)) rfl (by simp) (by omega) (by simp;omega) ?_;intro g2 aP w4 nQ kg rD))
  go_roundg m
  case measure=>omega
  case rel =>
   refine⟨acc++[l1.takeWhile bA],_,g2,aP,by simp;omega,by simp;omega,by simp,rD,by simpa using nQ,Hx,?_,?_,?_⟩
   ·refine At.aB (S:=[g]) (H3.o.aB (S:=[]) ((aA.refl _ _).alloc _) (by simp)) (aA.yR kg) (by simp;omega)
   ·exact(Kw.o.alloc _).grown kg (λk hk=>by simp[Value.ownBlock]at hk;omega)
   have:=kg.size;simp at this;omega
def Apart(w:World)(base:Nat)(S:LN):Prop:=∀k,k∈S->k<base\/∃cur e' fz,w.heap[k]?=some (.cells cur e' fz)/\e'≠9/\e'≠92
theorem Ew.aB {base:Nat} {v:RV} {c:CR}(h:Ew base w v c)(f:aA S w w')(hS:Apart w base S):Ew base w' v c :=
 ⟨h.d,h.rc,h.tb,jb h.KI f (λk hk=>(hS k hk).imp id (λ⟨a,b,c,d,e⟩=>⟨a,b,c,d,e.1⟩)),h.wt,h.ev,h.rp,jb h.ifs f (λk hk=>(hS k hk).imp id (λ⟨a,b,c,d,e⟩=>⟨a,b,c,d,e.2⟩)),h.co⟩
theorem Ew.base{base:Nat} {v:RV} {c:CR}(h:Ew base w v c)(hb:base'<=base):Ew base' w v c :=
 ⟨h.d,h.rc,h.tb,h.KI.base hb,h.wt,h.ev,h.rp,h.ifs.base hb,h.co⟩
def CB(w:World)(cb:Nat)(vr vt:Value):Prop:=w.heap[cb]?=some (.cells #[vr,vt] 38 (0,0))
theorem CB.c0(h:CB w cb vr vt):w.cell? ⟨cb,0,none⟩=some vr:=by
 unfold CB at h;simp[World.cell?,h]
theorem CB.c1(h:CB w cb vr vt):w.cell? ⟨cb,1,none⟩=some vt:=by
 unfold CB at h;simp[World.cell?,h]
theorem CB.fz(h:CB w cb vr vt)(o:Nat):w.frozen? ⟨cb,o,none⟩=false:=by
 unfold CB at h;simp[World.frozen?,h]
theorem CB.lt(h:CB w cb vr vt):cb<w.heap.size:=(a0d.1 h).1
theorem CB.aB(h:CB w cb vr vt)(f:aA S w w')(hS:cb∉S):CB w' cb vr vt:=(f.block cb h.lt hS).trans h
theorem CB.set0(h:CB w cb vr vt)(v:Value):CB (w.setCell ⟨cb,0,none⟩ v) cb v vt:=by
 unfold CB at *;simp[World.setCell,a0t,h]
theorem CB.set1(h:CB w cb vr vt)(v:Value):CB (w.setCell ⟨cb,1,none⟩ v) cb vr v:=by
 unfold CB at *;simp[World.setCell,a0t,h]
def Ar(rv:RV):List Value:=rv.cells.toList
def rvl(R:List RV):List Value:=R.flatMap Ar
def RL(base:Nat)(w:World)(v:Value)(R:List RV):Prop:=w.ownsRow base 62 9 v R.length (rvl R)
theorem RL.nil(base:Nat)(w:World):RL base w (.slice none 0 0) []:=World.ownsRow_nil w base _ 9
theorem aeD:(Tryz.prog.info? 62).map (λi=>(i.zero,i.size,i.bytes))=some (some (.agg #[.int .i64 0,.string ByteArray.empty,.bool false,.slice none 0 0,.int .i64 0,.int .i64 0,.int .i64 0,.slice none 0 0,.bool false]),9,112):=by kernel_rfl
theorem Yj(cb:Nat)(t:LB)(vr vt:Value)(w:World)(ht:t.length<=1048576)(hc:CB w cb vr vt) :
 Calls Tryz.prog 23 #[.pointer (some ⟨cb,0,none⟩),.int .i64 1,.string (bs t)] w λe w'=>aA [cb] w w'/\e=.returned (.bool (iy t).isSome)/\∃vr' L,CB w' cb vr' vt/\SL w.heap.size w' vr' L/\∀L',iy t=some L'->L=L':=by
 have HC:Z_ (CB w cb vr vt):=hc;clear hc;go_enter Tryz.func23,Tryz.ntmps23
 go_wp2_with fail
 refine(KO t w ht).mono ?_;rintro e w1 ⟨aZ,v1,L,rfl,lK,hL⟩;have nL:=HC.o.aB aZ (by simp);have c0:=nL.c0;have f0:=nL.fz 0;have aO:=HC.o.lt;have Yk:Z_ (CB w1 cb vr vt):=nL;have qy:Z_ (aA [] w w1):=aZ;have HS1:Z_ (SL w.heap.size w1 v1 L):=lK;have HL:Z_ (∀L',iy t=some L'->L=L'):=hL;obtain⟨a1,aiZ,rfl⟩:=HS1.o.shape;clear nL aZ lK hL HC;go_wp2;go_ret;refine⟨qy.o.nil.setCell (by simp) _,rfl,_,L,Yk.o.set0 _,?_,HL⟩;exact HS1.o.aB (S:=[cb]) ((aA.refl _ _).setCell (by simp) _) (by simp;omega)
theorem Yl(cb base:Nat)(line:Int)(t:LB)(vr vt:Value)(R:List RV)(w:World)(ht:t.length<=1048576)(hc:CB w cb vr vt)(hr:RL base w vt R)(hR:R.length<=1048576)(jX:cb<base)(hb:base<=w.heap.size)(hl:(line==1)=false) :
 Calls Tryz.prog 23 #[.pointer (some ⟨cb,0,none⟩),.int .i64 line,.string (bs t)] w λe w'=>aA (cb::vt.ownBlock.toList) w w'/\e=.returned (.bool (fI t).isSome)/\∃vt' rv,CB w' cb vr vt'/\RL base w' vt' (R++[rv])/\∀c,fI t=some c->Ew w.heap.size w' rv c:=by
 have HC:Z_ (CB w cb vr vt):=hc;have HR:Z_ (RL base w vt R):=hr;clear hc hr;obtain⟨i0,hi,KH,Sv,EK⟩:=info_parts aeD;go_enter Tryz.func23,Tryz.ntmps23
 go_wp2_with fail
 refine(Vl t w ht).mono ?_;rintro e w1 ⟨aZ,⟨d,rc,tb,dP,wt,ev,rp,iB,co⟩,⟨ab,nb,Ex,Cu⟩,⟨ai,ni,Vn,DV⟩,rfl,kz⟩;simp only at Cu DV;subst Cu DV;have aO:=HC.o.lt;have fT:=aZ.size;obtain⟨a,cap,rfl⟩:=aT HR;have Yk:Z_ (CB w1 cb vr (.slice a R.length cap)):=HC.o.aB aZ (by simp);have qy:Z_ (aA [] w w1):=aZ;have Jp:Z_ (RL base w1 (.slice a R.length cap) R):=ek HR.o aZ (by simp);have HP:Z_ (∀c,fI t=some c->Ew w.heap.size w1 ⟨d,rc,tb,.slice ab nb Ex,wt,ev,rp,.slice ai ni Vn,co⟩ c):=kz;clear aZ kz HC;have c1:=Yk.o.c1;have f1:=Yk.o.fz 1;have Vo:=Yk.o.lt;have ag:Value.ownBlock (.slice a R.length cap)≠some cb:=λe=>by have:=Jp.o.lt _ e;omega
 have am:Value.ownBlock (.slice a R.length cap)≠some w1.heap.size:=λe=>by have:=Jp.o.lt _ e;omega
 have g2:∀o o':Obj,((w1.alloc o).alloc o').drew.frozen? ⟨cb,1,none⟩=false:=λo o'=>(((((aA.refl [] w1).alloc o).alloc o').drew).frozen Vo (by simp)).trans f1
 have Va:RV.cells ⟨d,rc,tb,.slice ab nb Ex,wt,ev,rp,.slice ai ni Vn,co⟩=#[.int .i64 d,.string (bs rc),.bool tb,.slice ab nb Ex,.int .i64 wt,.int .i64 ev,.int .i64 rp,.slice ai ni Vn,.bool co]:=rfl;rw[Va];go_wp2_with fail
 go_region_law ((refine step_append_lies _ (by rfl) _ _ _ (by rfl) base 62 i0 _ 9 112 Tryz.underlying36 hi KH Sv EK rfl (by omega) (.slice a R.length cap) R.length (rvl R) (by rfl) (by exact(Jp.o.alloc _).alloc _) ⟨w1.heap.size+1,0,none⟩ 1 1 (Ar ⟨d,rc,tb,.slice ab nb Ex,wt,ev,rp,.slice ai ni Vn,co⟩) (by rfl) (by rfl) (World.news_of_block (cs:=RV.cells ⟨d,rc,tb,.slice ab nb Ex,wt,ev,rp,.slice ai ni Vn,co⟩) (t:=62) (fr:=(0,0)) (by exact DU _ _ _)) (by simp[Value.oneCell',Ar,RV.cells]) (by omega) (by unfold maxLen;omega) (by omega) (by simp;omega) (w1.heap.size+2) (by simp) ?_;intro gg aP w4 bF aG aX zx;have c4:=(aG.cell_far ⟨cb,1,none⟩ (by simp;omega) (Ne.symm ag));have f4:=(aG.frozen_far ⟨cb,1,none⟩ (by simp;omega) (Ne.symm ag));have f5:=f4.trans (g2 _ _)))
 all_goals
  have HO:Z_ (World.grownBy _ w4 (Value.ownBlock (.slice a R.length cap))):=aG;have HO4:Z_ (w4.ownsRow base 62 9 (.slice (some ⟨gg,0,none⟩) (R.length+1) aP) (R.length+1) (rvl R++Ar ⟨d,rc,tb,.slice ab nb Ex,wt,ev,rp,.slice ai ni Vn,co⟩)):=bF;clear aG bF;go_wp2;go_ret;have F4:=aA.dS HO;have C4:CB w4 cb vr (.slice a R.length cap):=(Yk.o.aB (S:=[]) ((((aA.refl _ _).alloc _).alloc _).drew) (by simp)).aB F4 (by simpa[a0H] using λe=>ag e);refine⟨?_,rfl,.slice (some ⟨gg,0,none⟩) (R.length+1) aP,⟨d,rc,tb,.slice ab nb Ex,wt,ev,rp,.slice ai ni Vn,co⟩,C4.set1 _,?_,?_⟩
  ·refine aA.setCell ?_ (by simp) _
   refine aA.trans (b:=w1) qy.o.nil ?_;exact((((aA.refl _ _).alloc _).alloc _).drew).grown HO.o (λk hk=>Or.inl (by simp[hk]))
  ·have:=ownsRow_setCell_below HO4.o (a:=⟨cb,1,none⟩) jX (.slice (some ⟨gg,0,none⟩) (R.length+1) aP)
   simpa[RL,rvl] using this
  intro c hc;refine(Ew.aB (S:=Value.ownBlock (.slice a R.length cap) |>.toList) (((HP.o c hc).aB (S:=[]) ((((aA.refl _ _).alloc _).alloc _).drew) (by intro k hk;simp at hk))) F4 ?_).aB (S:=[cb]) ((aA.refl _ _).setCell (by simp) _) (by intro k hk;simp at hk;exact Or.inl (by omega));intro k hk;rw[a0H]at hk;refine Or.inl ?_;have h1:=xh HR.o k hk;exact h1
end Go.Proofs.YtgbdcmpmmkfbhaaGreat
