import Derived.Test.YtjkialjoamgbgaaGreatJ32
import Derived.Test.YtjkialjoamgbgaaGreatJ27
import Derived.Deep.WholeRow
import Derived.Laws.Bits64
import Derived.Laws.Bits64b
import Derived.RegionTactic
import Derived.BigRegion
set_option linter.unusedVariables false
set_option linter.unusedSimpArgs false
set_option linter.unnecessarySimpa false
set_option maxRecDepth 100000
set_option maxHeartbeats 2000000
namespace Go.Proofs.YtjkialjoamgbgaaGreat
set_option linter.unusedVariables false
set_option linter.unusedSimpArgs false
theorem orN_one_one:orN .one .one=.one:=by simp[orN,orL,parts,coreL,isS,joinB,bits,srt,put,mkS,name,blt]
theorem optN_one:∀ k,optN .one k .one=.one
 | 0=>rfl
 | k+1=>by
   show optN .one k (orN (thenN .one .one) .one)=.one
   rw[show thenN .one .one=.one from rfl,orN_one_one];exact optN_one k
theorem preN_one:∀ k t,preN .one k t=t
 | 0,t=>rfl
 | k+1,t=>preN_one k t
theorem repN_one(lo:Nat)(hi:Option Nat):repN .one lo hi=.one:=by
 cases hi with
 | none=>simp only[repN,preN_one];rfl
 | some n=>simp only[repN,preN_one,optN_one]
theorem opLen_pos(lo:Nat)(hi:Option Nat):1≤opLen lo hi:=by
 cases hi<;>simp only[opLen]<;>split<;>omega
mutual
theorem tlx_pos:∀ {e:RX},1≤plc e→1≤tlx e
 | .one _,_=>Nat.le_refl _
 | .seq l,h=>tlxL_pos (show 1≤plcL l from h)
 | .alt l,h=>by have:=tlxL_pos (show 1≤plcL l from h);simp only[tlx];omega
 | .rep x lo hi,h=>by have:=opLen_pos lo hi;simp only[tlx];omega
theorem tlxL_pos:∀ {l:List RX},1≤plcL l→1≤tlxL l
 | [],h=>by simp[plcL]at h
 | x::r,h=>by
   simp only[plcL]at h
   simp only[tlxL]
   by_cases hx:1≤plc x
   ·have:=tlx_pos hx;omega
   ·have:=tlxL_pos (l:=r) (by omega);omega
end
def BdE(x:NF)(p t:Nat):Prop:=WC x∧(p=0→x=.one)∧(1≤p→Bd x p (2*p*(t+1)) (2*p+2*t))
theorem bd_seq{a b:NF}{p t q u:Nat}(ha:BdE a p t)(hb:BdE b q u)(ht:1≤p→1≤t)(hu:1≤q→1≤u):BdE (thenN a b) (p+q) (t+u):=by
 refine ⟨ha.1.then hb.1,?_,?_⟩
 ·intro h
  rw[ha.2.1 (by omega),hb.2.1 (by omega)];rfl
 ·intro h
  have mono:∀ (x:NF) (p' t':Nat),1≤p'→p'≤p+q→t'≤t+u→Bd x p' (2*p'*(t'+1)) (2*p'+2*t')→Bd x (p+q) (2*(p+q)*(t+u+1)) (2*(p+q)+2*(t+u)):=by
   intro x p' t' h1 h2 h3 hb
   exact hb.mono h2 (Nat.mul_le_mul (by omega) (by omega)) (by omega)
  by_cases hp:p=0
  ·rw[ha.2.1 hp]
   exact mono b q u (by omega) (by omega) (by omega) (hb.2.2 (by omega))
  ·by_cases hq:q=0
   ·rw[hb.2.1 hq,thenN_one]
    exact mono a p t (by omega) (by omega) (by omega) (ha.2.2 (by omega))
   ·have h1:=(ha.2.2 (by omega)).then (hb.2.2 (by omega)) (by omega) (by omega)
    have h2:=ht (by omega)
    have h3:=hu (by omega)
    refine h1.mono (Nat.le_refl _) ?_ (by omega)
    have e:2*(p+q)*(t+u+1)=2*p*(t+1)+2*q*(u+1)+2*(p*u)+2*(q*t):=by
     simp only[Nat.mul_add,Nat.add_mul,Nat.mul_one,Nat.mul_assoc];omega
    have h4:1≤p*u:=Nat.mul_pos (by omega) h3
    omega
theorem bd_rep{a:NF}{p t:Nat}(ha:BdE a p t)(ht:1≤p→1≤t)(lo:Nat)(hi:Option Nat)(hh:∀ n,hi=some n→lo≤n):BdE (repN a lo hi) (p*times lo hi) (t+opLen lo hi):=by
 have hwc:=repN_WC ha.1 lo hi
 refine ⟨hwc,?_,?_⟩
 ·intro h
  rcases Nat.mul_eq_zero.1 h with h|h
  ·rw[ha.2.1 h];exact repN_one lo hi
  ·cases hi with
   | none=>simp[times]at h
   | some n =>
     simp only[times]at h
     subst h
     have:lo=0:=by have:=hh 0 rfl;omega
     subst this;rfl
 ·intro h
  have hp:1≤p:=by
   rcases Nat.eq_zero_or_pos p with e|e
   ·subst e;simp at h
   ·exact e
  have hb:=ha.2.2 hp
  cases hi with
  | none =>
    have hst:Bd (starN a) p (2*p*(t+1)+1) (2*p+2*t+1):=by
     refine ⟨ha.1.star,?_,?_,?_⟩
     ·intro q hq
      cases a<;>simp[starN,parts]at hq<;>subst hq<;>exact hp
     ·have:=hb.sz;cases a<;>simp only[starN,NF.size]at this ⊢<;>omega
     ·have:=hb.ht;cases a<;>simp only[starN,hgt]at this ⊢<;>omega
    have h1:=preN_Bd hb hp lo hst hp (by omega)
    have ho:1≤opLen lo none:=opLen_pos lo none
    refine h1.mono ?_ ?_ ?_
    ·simp only[times];rw[Nat.mul_add,Nat.mul_comm p lo];omega
    ·simp only[times]
     have e1:2*(p*(lo+1))*(t+opLen lo none+1)=2*p*(t+1)*(lo+1)+2*p*opLen lo none*(lo+1):=by
      rw[show t+opLen lo none+1=(t+1)+opLen lo none by omega,Nat.mul_add]
      congr 1
      ·rw[← Nat.mul_assoc 2 p,Nat.mul_assoc (2*p),Nat.mul_comm (lo+1),← Nat.mul_assoc]
      ·rw[← Nat.mul_assoc 2 p,Nat.mul_assoc (2*p),Nat.mul_comm (lo+1),← Nat.mul_assoc]
     have e2:lo+1≤2*p*opLen lo none*(lo+1):=Nat.le_mul_of_pos_left _ (Nat.mul_pos (by omega) (by omega))
     have e3:lo*(2*p*(t+1)+1)+(2*p*(t+1)+1)=2*p*(t+1)*(lo+1)+(lo+1):=by
      generalize 2*p*(t+1)=z
      rw[Nat.mul_add,Nat.mul_one,Nat.mul_add,Nat.mul_one,Nat.mul_comm lo z];omega
     omega
    ·simp only[times]
     have:p*(lo+1)=lo*p+p:=by rw[Nat.mul_add,Nat.mul_one,Nat.mul_comm]
     omega
  | some n =>
    simp only[times]at h ⊢
    have hn:1≤n:=by
     rcases Nat.eq_zero_or_pos n with e|e
     ·subst e;simp at h
     ·exact e
    have hlo:=hh n rfl
    by_cases h01:lo=0∧n=1
    ·obtain ⟨rfl,rfl⟩:=h01
     have e:repN a 0 (some 1)=orN a .one:=by
      show orN (thenN a .one) .one=_;rw[thenN_one]
     rw[e]
     refine (hb.or1 hp).mono (by omega) ?_ ?_
     ·simp only[opLen,and_self,if_true,Nat.mul_one]
      rw[show t+1+1=(t+1)+1 by omega,Nat.mul_add (2*p) (t+1) 1];omega
     ·simp only[opLen,and_self,if_true];omega
    ·have ho:opLen lo (some n)=3:=by simp only[opLen];rw[if_neg h01]
     rw[ho]
     -- the first copy stands alone
     have e6:2*(p*n)*(t+3+1)=n*(2*p*(t+1))+6*(p*n):=by
      rw[show t+3+1=(t+1)+3 by omega,Nat.mul_add]
      congr 1
      ·rw[← Nat.mul_assoc 2 p,Nat.mul_assoc (2*p),Nat.mul_comm n (t+1),← Nat.mul_assoc,Nat.mul_comm]
      ·omega
     have e7:n≤p*n:=Nat.le_mul_of_pos_left _ (by omega)
     by_cases hlt:lo<n
     ·
      have e0:optN a (n-lo) .one=optN a (n-lo-1) (orN a .one):=by
       obtain ⟨m,hm⟩:∃ m,n-lo=m+1:=⟨n-lo-1,by omega⟩
       rw[hm];show optN a m (orN (thenN a .one) .one)=_;rw[thenN_one];rfl
      have h1:=optN_Bd hb hp (n-lo-1) (hb.or1 hp) hp (Nat.le_refl _)
      rw[← e0]at h1
      have h2:=preN_Bd hb hp lo h1 (by omega) (by omega)
      obtain ⟨m,hm⟩:∃ m,n=lo+m+1:=⟨n-lo-1,by omega⟩
      subst hm
      rw[show lo+m+1-lo-1=m by omega]at h2
      refine h2.mono ?_ ?_ ?_
      ·have:p*(lo+m+1)=lo*p+m*p+p:=by rw[Nat.mul_add,Nat.mul_add,Nat.mul_one,Nat.mul_comm p lo,Nat.mul_comm p m]
       omega
      ·rw[e6]
       generalize 2*p*(t+1)=z at *
       have a1:lo*(z+1)=lo*z+lo:=by rw[Nat.mul_add,Nat.mul_one]
       have a2:m*(z+3)=m*z+m*3:=Nat.mul_add _ _ _
       have a3:(lo+m+1)*z=lo*z+m*z+z:=by rw[Nat.add_mul,Nat.add_mul,Nat.one_mul]
       omega
      ·have b1:p*(lo+m+1)=lo*p+m*p+p:=by rw[Nat.mul_add,Nat.mul_add,Nat.mul_one,Nat.mul_comm p lo,Nat.mul_comm p m]
       have b2:m*(p+1)=m*p+m:=by rw[Nat.mul_add,Nat.mul_one]
       have b3:m≤m*p:=Nat.le_mul_of_pos_right _ (by omega)
       omega
     ·have hnl:lo=n:=by omega
      subst hnl
      obtain ⟨m,hm⟩:∃ m,lo=m+1:=⟨lo-1,by omega⟩
      subst hm
      have e0:repN a (m+1) (some (m+1))=preN a m a:=by
       simp only[repN,Nat.sub_self,optN]
       show preN a m (thenN a .one)=_;rw[thenN_one]
      rw[e0]
      have h2:=preN_Bd hb hp m (hb.mono (Nat.le_refl _) (Nat.le_refl _) (Nat.le_succ _)) hp (Nat.le_refl _)
      refine h2.mono ?_ ?_ ?_
      ·have:p*(m+1)=m*p+p:=by rw[Nat.mul_add,Nat.mul_one,Nat.mul_comm]
       omega
      ·rw[e6]
       generalize 2*p*(t+1)=z at *
       have a1:m*(z+1)=m*z+m:=by rw[Nat.mul_add,Nat.mul_one]
       have a3:(m+1)*z=m*z+z:=by rw[Nat.add_mul,Nat.one_mul]
       omega
      ·have b1:p*(m+1)=m*p+p:=by rw[Nat.mul_add,Nat.mul_one,Nat.mul_comm]
       omega
theorem or_ones{ls:List NF}(h:∀ x∈ls,x=.one)(hne:ls≠[]):orL ls=.one:=by
 have h1:orL ls=orL [.one]:=by
  refine orL_congr (fun x hx=>by rw[h x hx];trivial) (by simp;trivial) ?_
  intro p
  constructor
  ·intro hp
   obtain ⟨x,hx,hp⟩:=List.mem_flatMap.1 hp
   rw[h x hx]at hp;simpa using hp
  ·intro hp
   obtain ⟨x,r,rfl⟩:∃ x r,ls=x::r:=by cases ls with | nil=>contradiction|cons x r=>exact ⟨x,r,rfl⟩
   rw[h x (by simp)];simp at hp ⊢;exact .inl hp
 rw[h1];exact canT_non trivial (by simp)
def zc:List RX→Nat
 | []=>0
 | x::r=>(if plc x=0 then 1 else 0)+zc r
theorem zc_le:∀ (l:List RX),zc l≤l.length∧(plcL l≠0→zc l+1≤l.length)
 | []=>⟨by simp[zc],fun h=>by simp[plcL]at h⟩
 | x::r=>by
   have h:=zc_le r
   have e1:plcL (x::r)=plc x+plcL r:=rfl
   have e2:zc (x::r)=(if plc x=0 then 1 else 0)+zc r:=rfl
   rw[e1,e2,List.length_cons]
   by_cases h1:plc x=0
   ·rw[if_pos h1]
    exact ⟨by omega,fun h2=>by have:=h.2 (by omega);omega⟩
   ·rw[if_neg h1]
    exact ⟨by omega,fun h2=>by omega⟩
theorem alt_size:∀ {l:List RX},(∀ e∈l,BdE (nrm e) (plc e) (tlx e))→sizeL (nrmA l)≤2*plcL l*(tlxL l+1)+zc l
 | [],_=>by simp[nrmA,sizeL]
 | x::r,h=>by
   have h1:=alt_size (l:=r) (fun e he=>h e (by simp[he]))
   have h2:=h x (by simp)
   simp only[nrmA,sizeL,plcL,tlxL,zc]
   by_cases hx:plc x=0
   ·rw[if_pos hx,h2.2.1 hx,hx]
    simp only[NF.size,Nat.zero_add]
    have:2*plcL r*(tlxL r+1)≤2*plcL r*(tlx x+tlxL r+1):=Nat.mul_le_mul_left _ (by omega)
    omega
   ·rw[if_neg hx]
    have h3:=(h2.2.2 (by omega)).sz
    have e:2*(plc x+plcL r)*(tlx x+tlxL r+1)=2*plc x*(tlx x+1)+2*plcL r*(tlxL r+1)+2*(plc x*tlxL r)+2*(plcL r*tlx x):=by
     simp only[Nat.mul_add,Nat.add_mul,Nat.mul_one,Nat.mul_assoc];omega
    omega
theorem plcL_mem:∀ {l:List RX} {e:RX},e∈l→plc e≤plcL l∧tlx e≤tlxL l
 | x::r,e,h=>by
   simp only[plcL,tlxL]
   rcases List.mem_cons.1 h with h|h
   ·subst h;omega
   ·have:=plcL_mem h;omega
theorem bd_alt{l:List RX}(h:∀ e∈l,BdE (nrm e) (plc e) (tlx e))(hne:l≠[]):BdE (orL (nrmA l)) (plcL l) (tlxL l+(l.length-1)):=by
 have hmem:∀ x∈nrmA l,∃ e∈l,nrm e=x:=by
  intro x hx;rw[nrmA_map]at hx;obtain ⟨e,he,rfl⟩:=List.mem_map.1 hx;exact ⟨e,he,rfl⟩
 have hwc:∀ x∈nrmA l,WC x:=by intro x hx;obtain ⟨e,he,rfl⟩:=hmem x hx;exact (h e he).1
 have hw:∀ x∈nrmA l,wf x:=fun x hx=>(hwc x hx).1
 match l,hne,h with
 | [x],_,h =>
   have hx:=h x (by simp)
   have e:orL (nrmA [x])=nrm x:=can_T hx.1.1 hx.1.2
   rw[e]
   simp only[plcL,tlxL,Nat.add_zero,List.length_singleton,Nat.sub_self]
   exact hx
 | x::y::r,_,h =>
   generalize hl:x::y::r=l at *
   have hk:2≤l.length:=by rw[← hl];simp
   refine ⟨WC.orL hwc,?_,?_⟩
   ·intro h0
    refine or_ones ?_ (by rw[← hl];simp[nrmA])
    intro z hz
    obtain ⟨e,he,rfl⟩:=hmem z hz
    have:=plcL_mem he
    exact (h e he).2.1 (by omega)
   ·intro h1
    have hz:=(zc_le l).2 (by omega)
    refine ⟨WC.orL hwc,CLP.orL hw h1 ?_,?_,?_⟩
    ·intro z hz
     obtain ⟨e,he,rfl⟩:=hmem z hz
     have hm:=plcL_mem he
     by_cases h0:plc e=0
     ·rw[(h e he).2.1 h0];intro p hp;simp[parts]at hp;subst hp;exact h1
     ·exact ((h e he).2.2 (by omega)).cp.mono hm.1
    ·have a1:=or_size (nrmA l)
     have a2:=alt_size h
     have e1:2*plcL l*(tlxL l+(l.length-1)+1)=2*plcL l*(tlxL l+1)+2*plcL l*(l.length-1):=by
      rw[← Nat.mul_add];congr 1;omega
     have e2:2*(l.length-1)≤2*plcL l*(l.length-1):=Nat.mul_le_mul_right _ (by omega)
     omega
    ·have h2:=or_hgt hw (n:=2*plcL l+2*tlxL l) (by omega) (by
      intro z hz
      obtain ⟨e,he,rfl⟩:=hmem z hz
      have hm:=plcL_mem he
      by_cases h0:plc e=0
      ·rw[(h e he).2.1 h0];simp only[hgt];omega
      ·have:=((h e he).2.2 (by omega)).ht;omega)
     omega
mutual
theorem nrm_BdE:∀ {e:RX},okx e→BdE (nrm e) (plc e) (tlx e)
 | .one s,h=>by
   refine ⟨nrm_WC h,fun h=>by simp[plc]at h,fun _=>⟨nrm_WC h,?_,?_,?_⟩⟩
   ·simp only[nrm];split<;>(intro p hp;simp[parts]at hp)
    subst hp;exact Nat.le_refl _
   ·simp only[nrm];split<;>simp[NF.size,plc,tlx]
   ·simp only[nrm];split<;>simp[hgt,plc,tlx]
 | .seq l,h=>nrmS_BdE (show okxL l from h)
 | .alt l,h=>bd_alt (nrmL_BdE (show okxL l from h.1)) h.2
 | .rep x lo hi,h=>bd_rep (nrm_BdE (show okx x from h.1)) tlx_pos lo hi h.2
theorem nrmS_BdE:∀ {l:List RX},okxL l→BdE (nrmS l) (plcL l) (tlxL l)
 | [],_=>⟨.one,fun _=>rfl,fun h=>by simp[plcL]at h⟩
 | x::r,h=>bd_seq (nrm_BdE h.1) (nrmS_BdE h.2) tlx_pos tlxL_pos
theorem nrmL_BdE:∀ {l:List RX},okxL l→∀ e∈l,BdE (nrm e) (plc e) (tlx e)
 | [],_,e,he=>by simp at he
 | x::r,h,e,he=>by
   rcases List.mem_cons.1 he with h1|h1
   ·rw[h1];exact nrm_BdE h.1
   ·exact nrmL_BdE h.2 e h1
end
theorem nrm_bound{e:RX}(h:okx e)(hp:plc e≤40)(ht:tlx e≤40):(nrm e).size*hgt (nrm e)≤524800:=by
 have hb:=nrm_BdE h
 by_cases h0:plc e=0
 ·rw[hb.2.1 h0];decide
 ·have h1:=hb.2.2 (by omega)
  have h2:2*plc e*(tlx e+1)≤80*41:=Nat.mul_le_mul (by omega) (by omega)
  have h3:(nrm e).size≤3280:=Nat.le_trans h1.sz h2
  have h4:hgt (nrm e)≤160:=Nat.le_trans h1.ht (by omega)
  exact Nat.le_trans (Nat.mul_le_mul h3 h4) (by decide)
open Go.RowKit
def wd(s i:Nat):Nat:=s / 2 ^ (64*i) % 2 ^ 64
theorem wd_lt(s i:Nat):wd s i<18446744073709551616:=Nat.mod_lt _ (by decide)
theorem wd_bit(s q r:Nat)(hr:r<64):(wd s q).testBit r=s.testBit (64*q+r):=by
 unfold wd
 rw[Nat.testBit_mod_two_pow,Nat.testBit_div_two_pow]
 simp[hr,Nat.add_comm]
def bv(s:Nat):Value:=.agg #[.int .u64 (wd s 0), .int .u64 (wd s 1), .int .u64 (wd s 2), .int .u64 (wd s 3)]
theorem bit_val(w r:Nat)(hw:w<18446744073709551616):(Go.bits BinOp.and IntKind.u64 ((w:Int) / 2 ^ r) 1==1)=w.testBit r:=by
 have h1:((w:Int) / 2 ^ r)=((w / 2 ^ r:Nat):Int):=by simp
 have h2:w / 2 ^ r<18446744073709551616:=Nat.lt_of_le_of_lt (Nat.div_le_self _ _) hw
 rw[h1,show (1:Int)=((1:Nat):Int) from rfl,bits_and_u64_nat _ _ h2 (by decide),Nat.testBit_eq_decide_div_mod_eq,Nat.and_one_is_mod]
 rw[Bool.eq_iff_iff]
 simp
 omega
theorem xhas_words(w0 w1 w2 w3:Nat)(q r:Nat)(w:World)(hq:q<4)(hr:r<64)(h0:w0<18446744073709551616)(h1:w1<18446744073709551616)(h2:w2<18446744073709551616)(h3:w3<18446744073709551616) :
 Calls Tryz.prog 131 #[.agg #[.int .u64 w0, .int .u64 w1, .int .u64 w2, .int .u64 w3], .int .u8 (64*q+r:Nat)] w fun e w'=>e=.returned (.bool ((if q=0 then w0 else if q=1 then w1 else if q=2 then w2 else w3).testBit r))∧Frm [] w w':=by
 have hd:((64*q+r:Nat):Int).tdiv 64=q:=by rw[Int.tdiv_eq_ediv_of_nonneg (by omega)];omega
 have hm:((64*q+r:Nat):Int).tmod 64=r:=by rw[Int.tmod_eq_emod_of_nonneg (by omega)];omega
 have hlt:64*q+r<256:=by omega
 generalize 64*q+r=c at *
 rcases (by omega:q=0∨q=1∨q=2∨q=3) with rfl|rfl|rfl|rfl
 ·go_enter Tryz.func131,Tryz.ntmps131
  go_wp2
  go_ret
  exact ⟨by rw[← bit_val _ _ h0];rfl,(Frm.refl _ _).alloc _⟩
 ·go_enter Tryz.func131,Tryz.ntmps131
  go_wp2
  go_ret
  exact ⟨by rw[← bit_val _ _ h1];rfl,(Frm.refl _ _).alloc _⟩
 ·go_enter Tryz.func131,Tryz.ntmps131
  go_wp2
  go_ret
  exact ⟨by rw[← bit_val _ _ h2];rfl,(Frm.refl _ _).alloc _⟩
 ·go_enter Tryz.func131,Tryz.ntmps131
  go_wp2
  go_ret
  exact ⟨by rw[← bit_val _ _ h3];rfl,(Frm.refl _ _).alloc _⟩
theorem xhas_any(s:Nat)(c:Nat)(w:World)(hc:c<256) :
 Calls Tryz.prog 131 #[bv s, .int .u8 c] w fun e w'=>e=.returned (.bool (s.testBit c))∧Frm [] w w':=by
 have h:=xhas_words (wd s 0) (wd s 1) (wd s 2) (wd s 3) (c / 64) (c % 64) w (by omega) (Nat.mod_lt _ (by decide)) (wd_lt _ _) (wd_lt _ _) (wd_lt _ _) (wd_lt _ _)
 rw[show 64*(c / 64)+c % 64=c by omega]at h
 have e:(if c / 64=0 then wd s 0 else if c / 64=1 then wd s 1 else if c / 64=2 then wd s 2 else wd s 3).testBit (c % 64)=s.testBit c:=by
  have h1:c / 64<4:=by omega
  have key:(wd s (c / 64)).testBit (c % 64)=s.testBit c:=by
   rw[wd_bit _ _ _ (Nat.mod_lt _ (by decide)),show 64*(c / 64)+c % 64=c by omega]
  rw[← key]
  rcases (by omega:c / 64=0∨c / 64=1∨c / 64=2∨c / 64=3) with h|h|h|h<;>simp[h]
 rw[e]at h
 exact h
open Go.RowKit
def SB(w:World)(b:Nat)(w0 w1 w2 w3:Int):Prop:=w.heap[b]?=some (.cells #[.int .u64 w0, .int .u64 w1, .int .u64 w2, .int .u64 w3] 187 (0,0))
theorem SB.new{w:World}{b:Nat}{w0 w1 w2 w3:Int}(hb:b=w.heap.size):SB (w.alloc (Obj.cells #[.int .u64 w0, .int .u64 w1, .int .u64 w2, .int .u64 w3] 187)) b w0 w1 w2 w3:=by
 subst hb;exact heap1 w _
theorem SB.cells{w:World}{b:Nat}{w0 w1 w2 w3:Int}(h:SB w b w0 w1 w2 w3) :
 w.cell? ⟨b,0,none⟩=some (.int .u64 w0)∧w.cell? ⟨b,1,none⟩=some (.int .u64 w1)∧w.cell? ⟨b,2,none⟩=some (.int .u64 w2)∧w.cell? ⟨b,3,none⟩=some (.int .u64 w3):=by
 unfold SB at h
 refine ⟨?_,?_,?_,?_⟩<;>simp[World.cell?,h]
theorem SB.fz{w:World}{b:Nat}{w0 w1 w2 w3:Int}(h:SB w b w0 w1 w2 w3)(o:Nat):w.frozen? ⟨b,o,none⟩=false:=by
 unfold SB at h;simp[World.frozen?,h]
theorem SB.lt{w:World}{b:Nat}{w0 w1 w2 w3:Int}(h:SB w b w0 w1 w2 w3):b<w.heap.size:=(Array.getElem?_eq_some_iff.1 h).1
theorem SB.frm{S:List Nat}{w w':World}{b:Nat}{w0 w1 w2 w3:Int}(h:SB w b w0 w1 w2 w3)(f:Frm S w w')(hS:b∉S):SB w' b w0 w1 w2 w3:=(f.block b h.lt hS).trans h
theorem SB.drew{w:World}{b:Nat}{w0 w1 w2 w3:Int}(h:SB w b w0 w1 w2 w3):SB w.drew b w0 w1 w2 w3:=h
theorem SB.set0{w:World}{b:Nat}{w0 w1 w2 w3:Int}(h:SB w b w0 w1 w2 w3)(v:Int):SB (w.setCell ⟨b,0,none⟩ (.int .u64 v)) b v w1 w2 w3:=by
 unfold SB at h ⊢;simp[World.setCell,h,Array.getElem?_modify]
theorem SB.set1{w:World}{b:Nat}{w0 w1 w2 w3:Int}(h:SB w b w0 w1 w2 w3)(v:Int):SB (w.setCell ⟨b,1,none⟩ (.int .u64 v)) b w0 v w2 w3:=by
 unfold SB at h ⊢;simp[World.setCell,h,Array.getElem?_modify]
theorem SB.set2{w:World}{b:Nat}{w0 w1 w2 w3:Int}(h:SB w b w0 w1 w2 w3)(v:Int):SB (w.setCell ⟨b,2,none⟩ (.int .u64 v)) b w0 w1 v w3:=by
 unfold SB at h ⊢;simp[World.setCell,h,Array.getElem?_modify]
theorem SB.set3{w:World}{b:Nat}{w0 w1 w2 w3:Int}(h:SB w b w0 w1 w2 w3)(v:Int):SB (w.setCell ⟨b,3,none⟩ (.int .u64 v)) b w0 w1 w2 v:=by
 unfold SB at h ⊢;simp[World.setCell,h,Array.getElem?_modify]
theorem SB.far{w:World}{b b' o:Nat}{w0 w1 w2 w3:Int}(h:SB w b w0 w1 w2 w3)(v:Value)(hb:b≠b'):SB (w.setCell ⟨b',o,none⟩ v) b w0 w1 w2 w3:=by
 unfold SB at h ⊢;rw[Below.heap_setCell _ _ _ _ hb];exact h
theorem SB.load{w:World}{b:Nat}{w0 w1 w2 w3:Int}(h:SB w b w0 w1 w2 w3):(loadVar 187 ⟨b,0,none⟩).run Tryz.prog w=.ok (.agg #[.int .u64 w0, .int .u64 w1, .int .u64 w2, .int .u64 w3]) w:=by
 obtain ⟨h0,h1,h2,h3⟩:=h.cells
 simp[go_sem,h0,h1,h2,h3]
theorem results_joined{w:World}{b:Nat}{w0 w1 w2 w3:Int}{tmps:Array Value}(h:SB w b w0 w1 w2 w3)(h4:tmps.getD 4 undef=.pointer (some ⟨b,0,none⟩)) :
 (results Tryz.f135 tmps).run Tryz.prog w=.ok (.agg #[.int .u64 w0, .int .u64 w1, .int .u64 w2, .int .u64 w3]) w:=by
 have h4':tmps[4]?.getD undef=.pointer (some ⟨b,0,none⟩):=by simpa using h4
 simp only[results,Tryz.results135]
 simp[Sem.run_bind,Result.andThen,h4',asAddr,h.load]
theorem wd_or(s t i:Nat):wd (s ||| t) i=wd s i ||| wd t i:=by
 apply Nat.eq_of_testBit_eq
 intro k
 by_cases hk:k<64
 ·rw[Nat.testBit_or,wd_bit _ _ _ hk,wd_bit _ _ _ hk,wd_bit _ _ _ hk,Nat.testBit_or]
 ·have hl:∀ x,(wd x i).testBit k=false:=fun x=>Nat.testBit_lt_two_pow (Nat.lt_of_lt_of_le (wd_lt x i) (by rw[show (18446744073709551616:Nat)=2 ^ 64 by decide];exact Nat.pow_le_pow_right (by omega) (by omega)))
  rw[Nat.testBit_or,hl,hl,hl];rfl
def jz(k i a b:Nat):Int:=if i<k then ((a ||| b:Nat):Int) else (a:Int)
theorem joined_any(s t:Nat)(w:World)(hs:s<2 ^ 256)(ht:t<2 ^ 256) :
 Calls Tryz.prog 135 #[bv s,bv t] w fun e w'=>e=.returned (bv (s ||| t))∧Frm [] w w':=by
 unfold bv
 have E0:=hide (wd_or s t 0)
 have E1:=hide (wd_or s t 1)
 have E2:=hide (wd_or s t 2)
 have E3:=hide (wd_or s t 3)
 have l0:=wd_lt s 0
 have l1:=wd_lt s 1
 have l2:=wd_lt s 2
 have l3:=wd_lt s 3
 have m0:=wd_lt t 0
 have m1:=wd_lt t 1
 have m2:=wd_lt t 2
 have m3:=wd_lt t 3
 generalize wd s 0=s0 at *
 generalize wd s 1=s1 at *
 generalize wd s 2=s2 at *
 generalize wd s 3=s3 at *
 generalize wd t 0=t0 at *
 generalize wd t 1=t1 at *
 generalize wd t 2=t2 at *
 generalize wd t 3=t3 at *
 go_enter Tryz.func135,Tryz.ntmps135
 go_wp2_with fail
 go_loopg [6] 4 (fun k vi wr=>∃ (j:Nat),j+k=4∧vi=.int .i64 j∧SB wr w.heap.size (jz j 0 s0 t0) (jz j 1 s1 t1) (jz j 2 s2 t2) (jz j 3 s3 t3)∧SB wr (w.heap.size+1) t0 t1 t2 t3∧SB wr (w.heap.size+1+1) 0 0 0 0∧Frm [] w wr)
 case atStart=>exact ⟨0,by omega,rfl,(SB.new (b:=w.heap.size) rfl).frm (S:=[]) (((Frm.refl _ _).alloc _).alloc _) (by simp),(SB.new (by simp)).frm (S:=[]) ((Frm.refl _ _).alloc _) (by simp),SB.new (by simp),(((Frm.refl _ _).alloc _).alloc _).alloc _⟩
 case round =>
  obtain ⟨j,hj,rfl,h0,h1,h2,hf⟩:=hrel
  have F:=hide hf
  clear hf
  rcases (by omega:j=0∨j=1∨j=2∨j=3∨j=4) with rfl|rfl|rfl|rfl|rfl
  ·simp only[jz,Nat.lt_irrefl,Nat.reduceLT,if_true,if_false]at h0
   obtain ⟨c0,c1,c2,c3⟩:=h0.cells
   obtain ⟨d0,d1,d2,d3⟩:=h1.cells
   have z:=h0.fz
   have H0:=hide h0
   have H1:=hide h1
   have H2:=hide h2
   clear h0 h1 h2
   go_wp2_with fail
   go_region
   go_wp2
   go_roundg 3
   case measure=>omega
   case rel =>
    refine ⟨1,by omega,by go_num,?_,(H1.out.far _ (by omega)).drew,(H2.out.far _ (by omega)).drew,(F.out.setCell (.inr (Nat.le_refl _)) _).drew⟩
    have:=(H0.out.set0 (Go.bits BinOp.or IntKind.u64 s0 t0)).drew
    rw[bits_or_u64_nat _ _ l0 m0]at this ⊢
    simpa only[jz,Nat.lt_irrefl,Nat.reduceLT,if_true,if_false] using this
  ·simp only[jz,Nat.lt_irrefl,Nat.reduceLT,if_true,if_false]at h0
   obtain ⟨c0,c1,c2,c3⟩:=h0.cells
   obtain ⟨d0,d1,d2,d3⟩:=h1.cells
   have z:=h0.fz
   have H0:=hide h0
   have H1:=hide h1
   have H2:=hide h2
   clear h0 h1 h2
   go_wp2_with fail
   go_region
   go_wp2
   go_roundg 2
   case measure=>omega
   case rel =>
    refine ⟨2,by omega,by go_num,?_,(H1.out.far _ (by omega)).drew,(H2.out.far _ (by omega)).drew,(F.out.setCell (.inr (Nat.le_refl _)) _).drew⟩
    have:=(H0.out.set1 (Go.bits BinOp.or IntKind.u64 s1 t1)).drew
    rw[bits_or_u64_nat _ _ l1 m1]at this ⊢
    simpa only[jz,Nat.lt_irrefl,Nat.reduceLT,if_true,if_false] using this
  ·simp only[jz,Nat.lt_irrefl,Nat.reduceLT,if_true,if_false]at h0
   obtain ⟨c0,c1,c2,c3⟩:=h0.cells
   obtain ⟨d0,d1,d2,d3⟩:=h1.cells
   have z:=h0.fz
   have H0:=hide h0
   have H1:=hide h1
   have H2:=hide h2
   clear h0 h1 h2
   go_wp2_with fail
   go_region
   go_wp2
   go_roundg 1
   case measure=>omega
   case rel =>
    refine ⟨3,by omega,by go_num,?_,(H1.out.far _ (by omega)).drew,(H2.out.far _ (by omega)).drew,(F.out.setCell (.inr (Nat.le_refl _)) _).drew⟩
    have:=(H0.out.set2 (Go.bits BinOp.or IntKind.u64 s2 t2)).drew
    rw[bits_or_u64_nat _ _ l2 m2]at this ⊢
    simpa only[jz,Nat.lt_irrefl,Nat.reduceLT,if_true,if_false] using this
  ·simp only[jz,Nat.lt_irrefl,Nat.reduceLT,if_true,if_false]at h0
   obtain ⟨c0,c1,c2,c3⟩:=h0.cells
   obtain ⟨d0,d1,d2,d3⟩:=h1.cells
   have z:=h0.fz
   have H0:=hide h0
   have H1:=hide h1
   have H2:=hide h2
   clear h0 h1 h2
   go_wp2_with fail
   go_region
   go_wp2
   go_roundg 0
   case measure=>omega
   case rel =>
    refine ⟨4,by omega,by go_num,?_,(H1.out.far _ (by omega)).drew,(H2.out.far _ (by omega)).drew,(F.out.setCell (.inr (Nat.le_refl _)) _).drew⟩
    have:=(H0.out.set3 (Go.bits BinOp.or IntKind.u64 s3 t3)).drew
    rw[bits_or_u64_nat _ _ l3 m3]at this ⊢
    simpa only[jz,Nat.lt_irrefl,Nat.reduceLT,if_true,if_false] using this
  ·simp only[jz,Nat.lt_irrefl,Nat.reduceLT,if_true,if_false]at h0
   obtain ⟨c0,c1,c2,c3⟩:=h0.cells
   obtain ⟨y0,y1,y2,y3⟩:=h2.cells
   have y4:=h2.fz
   have H2:=hide h2
   clear h0 h1 h2
   go_wp2
   refine bodyPost_ret (results_joined (b:=w.heap.size+1+1) ((((H2.out.set0 _).set1 _).set2 _).set3 _) (by rfl)) rfl ?_
   refine ⟨by rw[E0.out,E1.out,E2.out,E3.out],?_⟩
   exact (((F.out.setCell (.inr (by simp;omega)) _).setCell (.inr (by simp;omega)) _).setCell (.inr (by simp;omega)) _).setCell (.inr (by simp;omega)) _
end Go.Proofs.YtjkialjoamgbgaaGreat
