import Derived.Test.YtpcbbbilmpobaaaGreatDoorJ47
import Derived.Test.YtpcbbbilmpobaaaGreatDoorRows
import Derived.Test.YtpcbbbilmpobaaaGreatDoorJ45
import Derived.ProofKit
import Derived.OpenShut
import Derived.DataShut
import Derived.SizedLaws
import Derived.Carry
import Derived.Deep.SlicePairs
import Derived.Test.YtpcbbbilmpobaaaGreatDoorCards
import Derived.Test.YtpcbbbilmpobaaaGreatDoorTie
import Derived.Deep.DeepHandedRow
import Derived.Lib.LaidTab
import Derived.Stop.LaidErr
set_option linter.unusedVariables false
set_option linter.unusedSimpArgs false
set_option linter.unnecessarySimpa false
set_option maxRecDepth 100000
set_option maxHeartbeats 4000000
namespace Go.Proofs.YtpcbbbilmpobaaaGreatDoor
open Go.RowKit
theorem againLaw_any(w:World)(a:Option Addr)(cap:Nat)(L:List LBL)(h:LQ w a L)(hN:L.length≤4398046511104)(hs:∀ x∈L,x.1.length≤140737488355328∧x.2.length≤140737488355328)(hcap:L.length≤cap)(r:List UInt8)(hr:r.length≤140737488355328)(hT:Tab w) :
 Calls Tryz.prog 3 #[.string (bs r), .slice a L.length cap] w fun e w'=>e=.returned (.bool true)∧Frm [] w w':=by
 have N1:=hide (kat_any w a cap L h hN hs hcap r hr);have N2:Hid (∀ W:World,Calls Tryz.prog 5 #[.int .i64 (r.length:Nat)] W fun e w'=>e=.returned (.bool true)∧Frm [] W w'):=fun W=>stands_any _ W (by omega) (by omega)
 have hsz:=bs_size;have HT:=hide hT;clear h hs hT;go_enter Tryz.func3,Tryz.ntmps3
 go_wp2_with fail
 refine (N1.out).mono ?_;clear N1;rintro e w1 ⟨hF,rfl|⟨db,Ln,C,s,V,pb,rfl,hD⟩⟩
 ·have F:=hide hF
  clear hF;go_wp2_with fail
  refine (N2.out _).mono ?_;clear N2;rintro e w2 ⟨rfl,hF2⟩;have F2:=hide (F.out.trans hF2);clear hF2;go_wp2;go_ret;exact ⟨rfl,F2.out⟩
 ·have F:=hide hF
  have N3:=hide (kagain_any hD (HT.out.frm hF (by simp)));clear hF N2 hD;go_wp2_with fail
  refine (N3.out).mono ?_;clear N3;rintro e w2 ⟨rfl,hF2⟩;have F2:=hide (F.out.trans hF2);clear hF2;go_wp2;go_ret;exact ⟨rfl,F2.out⟩
open Go.ChangeShapes Go.WideShapes Go.ChangeAt Go.RowKit
open Go.ChangeMaps (open_string shut_string)
def strL:Value→List UInt8
 | .string s=>s.data.toList
 | _=>[]
theorem weightsAll_mem{H:Type}{P:Program}{e:TypeId}{d:DataW H}{n:Nat}:∀ {l:List (DataW H)},d∈l→n∈d.weights P e→n∈DataW.weightsAll P e l
 | [],hd,_=>by simp at hd
 | x::r,hd,hn=>by
   simp only[DataW.weightsAll,List.mem_append];rcases List.mem_cons.1 hd with rfl|hd
   ·exact .inl hn
   ·exact .inr (weightsAll_mem hd hn)
theorem cellsLab:Tryz.prog.cellsOf 29=2:=by kernel_rfl
theorem cellsStr:Tryz.prog.cellsOf 9=1:=by kernel_rfl
theorem bytesLab:Tryz.prog.bytesOf 29=32:=by kernel_rfl
theorem labels_open{H:Type}{enc:TypeId × Value→H}{W:World}{a:Option Addr}{len cap:Nat}{d:DataW H}{ps:List MemPlace}(h:DataW.Trod enc Tryz.prog W 0 (fun _=>true) true 22 (.slice a len cap) d ps)
 (hw:∀ n∈d.weights Tryz.prog 22,n≤reachBytes) :
 ∃ L:List LBL,L.length=len∧LQ W a L∧L.length≤4398046511104∧∀ x∈L,x.1.length≤140737488355328∧x.2.length≤140737488355328:=by
 obtain ⟨fuel,h⟩:=h;have hcs:(Value.slice a len cap).cells.toList=[.slice a len cap]:=rfl;rw[hcs]at h;rcases Deep.open_slice_pairs Tryz.underlying22 Tryz.underlying29 cellsLab rfl rfl cellsStr cellsStr h with ⟨hc,_⟩|⟨ad,len',cap',m,n,V0,V1,D0,D1,P0,P1,hc,_,hl,hm,hmm,hx,hall⟩
 ·simp only[List.cons.injEq,and_true,Value.slice.injEq]at hc
  obtain ⟨rfl,rfl,rfl⟩:=hc;exact ⟨[],rfl,fun j hj=>absurd hj (by simp),by simp,by simp⟩
 ·simp only[List.cons.injEq,and_true,Value.slice.injEq]at hc
  obtain ⟨rfl,rfl,rfl⟩:=hc;simp only[if_true]at hmm;subst hmm;simp only[Prod.mk.injEq]at hx;obtain ⟨rfl,rfl⟩:=hx;have hrb:reachBytes≤140737488355328:=Nat.le_of_lt reachBytes_lt;have hS:∀ i,i<m→∃ s0 s1:ByteArray,V0 i=.string s0∧V1 i=.string s1∧D0 i=.lit (.string s0.data.toList)∧D1 i=.lit (.string s1.data.toList):=by
   intro i hi;obtain ⟨_,_,h1,h2⟩:=hall i hi;obtain ⟨s0,e0,f0,_⟩:=DataW.trod_string Tryz.underlying9 h1;obtain ⟨s1,e1,f1,_⟩:=DataW.trod_string Tryz.underlying9 h2;simp only[List.cons.injEq,and_true]at e0 e1;simp only[Prod.mk.injEq]at f0 f1;exact ⟨s0,s1,e0,e1,f0.1,f1.1⟩
  have hlen:len*32≤reachBytes:=by
   have:=hw ((len+(m-len))*32) (by simp[DataW.weights,Tryz.underlying22,bytesLab]);omega
  refine ⟨(List.range len).map fun i=>(strL (V0 i),strL (V1 i)),by simp,?_,by simp;omega,?_⟩
  ·intro j hj
   simp only[List.length_map,List.length_range]at hj;obtain ⟨b,off,spot⟩:=ad;obtain ⟨c0,c1,_,_⟩:=hall j (by omega);obtain ⟨s0,s1,e0,e1,_,_⟩:=hS j (by omega);have hspot:spot=none:=by
    have:=World.cell?_spot (hall 0 (by omega)).1;simpa[Addr.add] using this
   subst hspot;rw[add_plain]at c0 c1;refine ⟨b,off,rfl,World.block_lt_of_cell? W _ c0,?_,?_⟩
   ·rw[c0,e0];simp[strL,e0,bs_of]
   ·rw[← Nat.add_assoc]at c1
    rw[c1,e1];simp[strL,e1,bs_of]
  ·intro x hx
   obtain ⟨i,hi,rfl⟩:=List.mem_map.1 hx;rw[List.mem_range]at hi;obtain ⟨s0,s1,e0,e1,f0,f1⟩:=hS i (by omega);have hwt:∀ k,k=s0.data.toList.length∨k=s1.data.toList.length→k≤reachBytes:=by
    intro k hk;apply hw;have hmem:k∈DataW.weightsAll Tryz.prog 29 ((List.range len).map fun i=>DataW.agg [D0 i,D1 i]):=by
     refine weightsAll_mem (d:=.agg [D0 i,D1 i]) (List.mem_map.2 ⟨i,List.mem_range.2 hi,rfl⟩) ?_;rw[f0,f1];simp only[DataW.weights,Tryz.underlying29];rcases hk with rfl|rfl<;>simp[DataW.weightsEach,DataW.weights]
    simp only[DataW.weights,Tryz.underlying22,List.mem_cons,List.mem_append];exact .inr (.inl hmem)
   have h1:=hwt _ (.inl rfl);have h2:=hwt _ (.inr rfl);simp only[e0,e1,strL];omega
open Go.ChangeShapes Go.WideShapes Go.ChangeAt Go.RowKit
theorem labels_cap{H:Type}{enc:TypeId × Value→H}{W:World}{a:Option Addr}{len cap:Nat}{d:DataW H}{ps:List MemPlace}(h:DataW.Trod enc Tryz.prog W 0 (fun _=>true) true 22 (.slice a len cap) d ps):len≤cap:=by
 obtain ⟨fuel,h⟩:=h;have hcs:(Value.slice a len cap).cells.toList=[.slice a len cap]:=rfl;rw[hcs]at h;rcases Deep.open_slice_pairs Tryz.underlying22 Tryz.underlying29 cellsLab rfl rfl cellsStr cellsStr h with ⟨hc,_⟩|⟨ad,len',cap',m,n,V0,V1,D0,D1,P0,P1,hc,_,hl,hm,hmm,hx,hall⟩
 ·simp only[List.cons.injEq,and_true,Value.slice.injEq]at hc
  omega
 ·simp only[List.cons.injEq,and_true,Value.slice.injEq]at hc
  obtain ⟨rfl,rfl,rfl⟩:=hc;exact hl
end Go.Proofs.YtpcbbbilmpobaaaGreatDoor
namespace Go.Proofs.YtpcbbbilmpobaaaGreatDoor.fnAgain
open Go.ChangeShapes Go.WideShapes Go.ChangeAt Go.RowKit
open Go.ChangeMaps (open_string shut_string)
theorem own:ownKnob Tryz.prog.godebug=none:=by kernel_rfl
theorem gTab : Tryz.prog.globalNamed "internal/strconv.uint64pow10" = some 0 := by kernel_rfl
theorem gTabType:(Tryz.prog.globals[0]?).map (·.type)=some 222:=by kernel_rfl
theorem cellsT:Tryz.prog.cellsOf 222=20:=by kernel_rfl
theorem cellsE:Tryz.prog.cellsOf 193=1:=by kernel_rfl
theorem datum:(Rows.laid_internal_strconv_uint64pow10:DataW Unit)=Lib.tabData .u64 Lib.pow10Tab:=by rfl
theorem table{W:World}(h:laidMetH Tryz.prog Rows.againRow.laid W):Tab W:=by
 have h1:laidMet Tryz.prog Rows.againRow.laid W:=h;have h2 : laidMet Tryz.prog [("internal/strconv.uint64pow10", Rows.laid_internal_strconv_uint64pow10)] W := laidMet.tail (laidMet.tail h1)
 rw[datum]at h2;exact Lib.tabIs_of_head (rest:=[]) gTab gTabType Tryz.underlying222 Tryz.underlying193 cellsE cellsT h2
theorem laidOut:laidOutB Tryz.prog=true:=by kernel_rfl
theorem contract(H:Type)(enc:TypeId × Value→H)(W:World)(base:Nat)(args:Array Value)(ds gs:List (DataW H))(before:List MemPlace)
 (hval0:∀ (j:Nat) t v,Tryz.f3.params[j]?=some t→args[j]?=some v→Value.okWide Tryz.prog W .any base t v)
 (hW:DataW.Whole enc Tryz.prog Tryz.f3.params.toList Rows.againSpec.vars false W args.toList ds gs before)
 (hsz0:(DataW.weightsEach Tryz.prog (Tryz.f3.params.toList++Rows.againSpec.plain.varTypes Tryz.prog) (ds++gs)).all (·≤reachBytes)=true) (hL:laidMetH Tryz.prog Rows.againRow.laid W) :
 Calls Tryz.prog 3 args W fun e W'=>∃ v,e=.returned v∧Rows.againSpec.post enc Tryz.prog Tryz.f3 false true false false W args v W':=by
 have hval:∀ (j:Nat) t v,Tryz.f3.params[j]?=some t→args[j]?=some v→Value.okWide Tryz.prog W .any base t v:=hval0;have hW':=hW;obtain ⟨p,q,hA0,hV,rfl,hfz,hnd⟩:=hW;have hA:DataW.TrodAll enc Tryz.prog W 0 (fun _=>true) true Tryz.f3.params.toList args.toList ds p:=hA0;have hsz:(DataW.weightsEach Tryz.prog (Tryz.f3.params.toList++Rows.againSpec.plain.varTypes Tryz.prog) (ds++gs)).all (·≤reachBytes)=true:=hsz0;rw[Tryz.params3]at hA hval hsz;obtain ⟨v0,v1,d0,d1,p0,p1,rfl,rfl,rfl,h0,h1⟩:=trodAll_two hA;obtain ⟨rfl,rfl⟩:=trodVars_none hV;obtain ⟨s,rfl,rfl,rfl,hs⟩:=open_string Tryz.underlying9 (hval 0 9 v0 rfl rfl) h0;obtain ⟨a1,len1,cap1,rfl⟩:=okWide_slice Tryz.underlying22 (hval 1 22 v1 rfl rfl);clear hA0 hval0 hsz0;simp only[List.append_nil]at hW';have hlt:∀ x∈([]:List MemPlace)++p1,x.block<W.heap.size:=fun x hx=>by simpa using hW'.lt x hx
 have hsl:s.data.toList.length≤140737488355328:=Nat.le_trans (sized_string (j:=0) hsz rfl rfl) (Nat.le_of_lt reachBytes_lt);obtain ⟨L,rfl,hQ,hN,hLs⟩:=labels_open h1 (fun n hn=>by
  have:=List.all_eq_true.1 hsz _ (DataW.weights_mem_each (j:=1) (t:=22) (d:=d1) rfl rfl n hn);simpa using this)
 have hb:Value.string s=.string (bs s.data.toList):=by rw[bs_of]
 rw[hb];refine (againLaw_any W a1 cap1 L hQ hN hLs (labels_cap h1) s.data.toList hsl (table hL)).mono fun e W' ⟨he,hf⟩=>?_
 rw[← hb];subst he;refine ⟨_,rfl,[.lit (.string s.data.toList),d1],[],_,[],[]++p1,[],hW',trodAll_cons_mk (shut_bool Tryz.underlying4 _) trodAll_mk0,trodAll_mk2 (shut_string Tryz.underlying9 hs) (Below.trod laidOut (by kernel_rfl) (of_decide_eq_true (by kernel_rfl)) h1 hf.below (fun x hx=>hlt x (by simpa using hx))),rfl,hf.below.frame _,fun h=>by cases h⟩
def putCells(cs:Array Value):Obj→Obj
 | .cells _ t frozen=>.cells cs t frozen
 | o=>o
theorem laid_met(os:Os):laidMet Tryz.prog Rows.againRow.laid (({ World.holding Tryz.prog os ⟨#[],#[],[]⟩ with heap:=(((World.holding Tryz.prog os ⟨#[],#[],[]⟩).heap.modify 0 (putCells #[.int .u64 1, .int .u64 10, .int .u64 100, .int .u64 1000, .int .u64 10000, .int .u64 100000, .int .u64 1000000, .int .u64 10000000, .int .u64 100000000, .int .u64 1000000000, .int .u64 10000000000, .int .u64 100000000000, .int .u64 1000000000000, .int .u64 10000000000000, .int .u64 100000000000000, .int .u64 1000000000000000, .int .u64 10000000000000000, .int .u64 100000000000000000, .int .u64 1000000000000000000, .int .u64 10000000000000000000])).modify 1 (putCells #[.int .u8 0, .int .u8 1, .int .u8 28, .int .u8 2, .int .u8 29, .int .u8 14, .int .u8 24, .int .u8 3, .int .u8 30, .int .u8 22, .int .u8 20, .int .u8 15, .int .u8 25, .int .u8 17, .int .u8 4, .int .u8 8, .int .u8 31, .int .u8 27, .int .u8 13, .int .u8 23, .int .u8 21, .int .u8 19, .int .u8 16, .int .u8 7, .int .u8 26, .int .u8 12, .int .u8 18, .int .u8 6, .int .u8 11, .int .u8 5, .int .u8 10, .int .u8 9])).modify 2 (putCells #[.int .u8 0, .int .u8 1, .int .u8 56, .int .u8 2, .int .u8 57, .int .u8 49, .int .u8 28, .int .u8 3, .int .u8 61, .int .u8 58, .int .u8 42, .int .u8 50, .int .u8 38, .int .u8 29, .int .u8 17, .int .u8 4, .int .u8 62, .int .u8 47, .int .u8 59, .int .u8 36, .int .u8 45, .int .u8 43, .int .u8 51, .int .u8 22, .int .u8 53, .int .u8 39, .int .u8 33, .int .u8 30, .int .u8 24, .int .u8 18, .int .u8 12, .int .u8 5, .int .u8 63, .int .u8 55, .int .u8 48, .int .u8 27, .int .u8 60, .int .u8 41, .int .u8 37, .int .u8 16, .int .u8 46, .int .u8 35, .int .u8 44, .int .u8 21, .int .u8 52, .int .u8 32, .int .u8 23, .int .u8 11, .int .u8 54, .int .u8 26, .int .u8 40, .int .u8 15, .int .u8 34, .int .u8 20, .int .u8 31, .int .u8 10, .int .u8 25, .int .u8 14, .int .u8 19, .int .u8 9, .int .u8 13, .int .u8 8, .int .u8 7, .int .u8 6]) }:World).forCall (fun _ _=>0) ⟨#[],#[.string ByteArray.empty, .slice none 0 0],[]⟩).memory :=
 laidMet_of_run' 80 (by kernel_rfl) (by kernel_rfl)
theorem reads(os:Os){H:Type}(enc:TypeId × Value→H):∃ places,DataW.whole enc Tryz.prog (({ World.holding Tryz.prog os ⟨#[],#[],[]⟩ with heap:=(((World.holding Tryz.prog os ⟨#[],#[],[]⟩).heap.modify 0 (putCells #[.int .u64 1, .int .u64 10, .int .u64 100, .int .u64 1000, .int .u64 10000, .int .u64 100000, .int .u64 1000000, .int .u64 10000000, .int .u64 100000000, .int .u64 1000000000, .int .u64 10000000000, .int .u64 100000000000, .int .u64 1000000000000, .int .u64 10000000000000, .int .u64 100000000000000, .int .u64 1000000000000000, .int .u64 10000000000000000, .int .u64 100000000000000000, .int .u64 1000000000000000000, .int .u64 10000000000000000000])).modify 1 (putCells #[.int .u8 0, .int .u8 1, .int .u8 28, .int .u8 2, .int .u8 29, .int .u8 14, .int .u8 24, .int .u8 3, .int .u8 30, .int .u8 22, .int .u8 20, .int .u8 15, .int .u8 25, .int .u8 17, .int .u8 4, .int .u8 8, .int .u8 31, .int .u8 27, .int .u8 13, .int .u8 23, .int .u8 21, .int .u8 19, .int .u8 16, .int .u8 7, .int .u8 26, .int .u8 12, .int .u8 18, .int .u8 6, .int .u8 11, .int .u8 5, .int .u8 10, .int .u8 9])).modify 2 (putCells #[.int .u8 0, .int .u8 1, .int .u8 56, .int .u8 2, .int .u8 57, .int .u8 49, .int .u8 28, .int .u8 3, .int .u8 61, .int .u8 58, .int .u8 42, .int .u8 50, .int .u8 38, .int .u8 29, .int .u8 17, .int .u8 4, .int .u8 62, .int .u8 47, .int .u8 59, .int .u8 36, .int .u8 45, .int .u8 43, .int .u8 51, .int .u8 22, .int .u8 53, .int .u8 39, .int .u8 33, .int .u8 30, .int .u8 24, .int .u8 18, .int .u8 12, .int .u8 5, .int .u8 63, .int .u8 55, .int .u8 48, .int .u8 27, .int .u8 60, .int .u8 41, .int .u8 37, .int .u8 16, .int .u8 46, .int .u8 35, .int .u8 44, .int .u8 21, .int .u8 52, .int .u8 32, .int .u8 23, .int .u8 11, .int .u8 54, .int .u8 26, .int .u8 40, .int .u8 15, .int .u8 34, .int .u8 20, .int .u8 31, .int .u8 10, .int .u8 25, .int .u8 14, .int .u8 19, .int .u8 9, .int .u8 13, .int .u8 8, .int .u8 7, .int .u8 6]) }:World).forCall (fun _ _=>0) ⟨#[],#[.string ByteArray.empty, .slice none 0 0],[]⟩).memory Tryz.f3.params.toList Rows.againSpec.vars false #[Value.string ByteArray.empty,Value.slice none 0 0].toList 8=some ([.lit (.string []), .nil],[],places) :=
 ⟨[],by kernel_rfl⟩
theorem lifted(os:Os)(started:os.Started)(H:Type)(enc:TypeId × Value→H)(F:Stop.Interp) :
 ReturnsInHanded {} Tryz.checked os 3 .any ((OpenSpec.ofChange Rows.againSpec).preRow enc Tryz.prog Tryz.f3 Rows.againRow.domain false Rows.againRow.laid) (((OpenSpec.ofChange Rows.againSpec).at F).post enc Tryz.prog Tryz.f3 false true false false):=by
 obtain ⟨places,hx⟩:=reads os enc;refine returnsInHanded_of_row (C:=Tryz.checked) (s:=OpenSpec.ofChange Rows.againSpec) own started (by kernel_rfl) Tryz.func3
  (witness_row_at (enc:=enc) (C:=Tryz.checked) false ({ World.holding Tryz.prog os ⟨#[],#[],[]⟩ with heap:=(((World.holding Tryz.prog os ⟨#[],#[],[]⟩).heap.modify 0 (putCells #[.int .u64 1, .int .u64 10, .int .u64 100, .int .u64 1000, .int .u64 10000, .int .u64 100000, .int .u64 1000000, .int .u64 10000000, .int .u64 100000000, .int .u64 1000000000, .int .u64 10000000000, .int .u64 100000000000, .int .u64 1000000000000, .int .u64 10000000000000, .int .u64 100000000000000, .int .u64 1000000000000000, .int .u64 10000000000000000, .int .u64 100000000000000000, .int .u64 1000000000000000000, .int .u64 10000000000000000000])).modify 1 (putCells #[.int .u8 0, .int .u8 1, .int .u8 28, .int .u8 2, .int .u8 29, .int .u8 14, .int .u8 24, .int .u8 3, .int .u8 30, .int .u8 22, .int .u8 20, .int .u8 15, .int .u8 25, .int .u8 17, .int .u8 4, .int .u8 8, .int .u8 31, .int .u8 27, .int .u8 13, .int .u8 23, .int .u8 21, .int .u8 19, .int .u8 16, .int .u8 7, .int .u8 26, .int .u8 12, .int .u8 18, .int .u8 6, .int .u8 11, .int .u8 5, .int .u8 10, .int .u8 9])).modify 2 (putCells #[.int .u8 0, .int .u8 1, .int .u8 56, .int .u8 2, .int .u8 57, .int .u8 49, .int .u8 28, .int .u8 3, .int .u8 61, .int .u8 58, .int .u8 42, .int .u8 50, .int .u8 38, .int .u8 29, .int .u8 17, .int .u8 4, .int .u8 62, .int .u8 47, .int .u8 59, .int .u8 36, .int .u8 45, .int .u8 43, .int .u8 51, .int .u8 22, .int .u8 53, .int .u8 39, .int .u8 33, .int .u8 30, .int .u8 24, .int .u8 18, .int .u8 12, .int .u8 5, .int .u8 63, .int .u8 55, .int .u8 48, .int .u8 27, .int .u8 60, .int .u8 41, .int .u8 37, .int .u8 16, .int .u8 46, .int .u8 35, .int .u8 44, .int .u8 21, .int .u8 52, .int .u8 32, .int .u8 23, .int .u8 11, .int .u8 54, .int .u8 26, .int .u8 40, .int .u8 15, .int .u8 34, .int .u8 20, .int .u8 31, .int .u8 10, .int .u8 25, .int .u8 14, .int .u8 19, .int .u8 9, .int .u8 13, .int .u8 8, .int .u8 7, .int .u8 6]) }:World) #[.string ByteArray.empty, .slice none 0 0] rfl (by kernel_rfl) (by kernel_rfl) (by kernel_rfl)
    (OpenSpec.preRow_of_cond 8 hx (by kernel_rfl) (fun k hk=>by cases hk) (by kernel_rfl) (laid_met os))) ?_
 intro W base args ds gs before hval hW _ _ hsz hL _ _;exact contract H enc W base args ds gs before hval hW hsz hL
theorem said:Rows.AgainSaid :=
 OpenClaim.holds_of_cond 3 Tryz.f3 rfl rfl rfl rfl rfl rfl rfl ⟨rfl,rfl,rfl,rfl,rfl⟩ rfl rfl rfl rfl rfl (by kernel_rfl) Tryz.func3 (by kernel_rfl)
  (of_decide_eq_true (by kernel_rfl)) (by unfold Func.isWrapper;first | (rw[if_pos (by decide +kernel)];kernel_rfl)|(rw[if_neg (by decide +kernel)];exact ⟨rfl,rfl⟩))
  (fun os started H enc _ F=>by rw[OpenClaim.pre_eq_preRow];exact lifted os started H enc F)
theorem plain (f : FuncId) (fn : Func) (hf : Tryz.pinned.checked.prog.funcNamed "alerts/alertskeep.Again" = some f) (hfn : Tryz.pinned.checked.prog.funcs[f]? = some fn) :
 false=Tryz.pinned.checked.prog.looks []∧∀ (j:Nat) t,fn.params[j]?=some t→Tryz.pinned.checked.prog.wantsStandIn t=false:=by
 obtain rfl : f = 3 := Option.some.inj ((show Tryz.prog.funcNamed "alerts/alertskeep.Again" = some 3 by kernel_rfl).symm.trans hf) |>.symm
 obtain rfl:fn=Tryz.f3:=(Option.some.inj (Tryz.func3.symm.trans hfn)).symm;refine ⟨by kernel_rfl,fun j t ht=>?_⟩;rw[Tryz.params3]at ht;have ht2:t=9∨t=22:=by simpa using Array.mem_of_getElem? ht
 rcases ht2 with rfl|rfl
 ·exact (show Tryz.prog.wantsStandIn 9=false by kernel_rfl)
 ·exact (show Tryz.prog.wantsStandIn 22=false by kernel_rfl)
theorem card:Rows.AgainCardSaid :=
 Claim7.holds_tied_plain_at .later [] _ _ _ _ said (fun _ h=>by cases h) (by kernel_rfl) (fun _ h=>by cases h) again_row_tie rfl ⟨rfl,rfl⟩ (by kernel_rfl) rfl plain (by kernel_rfl)
end Go.Proofs.YtpcbbbilmpobaaaGreatDoor.fnAgain
namespace Go.Proofs.YtpcbbbilmpobaaaGreatDoor
theorem again_card:Rows.AgainCardSaid:=fnAgain.card
end Go.Proofs.YtpcbbbilmpobaaaGreatDoor
