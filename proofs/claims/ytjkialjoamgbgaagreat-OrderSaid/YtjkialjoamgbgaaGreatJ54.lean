import Derived.Test.YtjkialjoamgbgaaGreatJ53
set_option linter.unusedVariables false
set_option linter.unusedSimpArgs false
set_option linter.unnecessarySimpa false
set_option maxRecDepth 100000
set_option maxHeartbeats 200000
namespace Go.Proofs.YtjkialjoamgbgaaGreat.fnOrder
open Go.ChangeShapes Go.WideShapes Go.ChangeAt Go.RowKit
open Go.ChangeMaps (open_string shut_string)
theorem own:ownKnob Tryz.prog.godebug=none:=by kernel_rfl
theorem laidOut:laidOutB Tryz.prog=true:=by kernel_rfl
theorem lifted(os:Os)(started:os.Started)(H:Type)(enc:TypeId × Value→H) :
 ReturnsInHanded {} Tryz.checked os 3 .any (Rows.orderSpec.pre6 enc Tryz.prog Tryz.f3 Rows.orderRow.domain false) (Rows.orderSpec.post enc Tryz.prog Tryz.f3 false true false false):=by
 refine returnsInHanded_of_change_sized (C:=Tryz.checked) own started (by kernel_rfl) Tryz.func3
  (ChangeSpec.witness6 (enc:=enc) (C:=Tryz.checked) false ⟨#[],#[.string ByteArray.empty, .slice none 0 0, .int .i64 0],[]⟩ 8 (by kernel_rfl) (by kernel_rfl) (by kernel_rfl) (by kernel_rfl)) ?_
 intro W base args ds gs before hval0 hW hcnd hsz0 _
 have hval:∀ (j:Nat) t v,Tryz.f3.params[j]?=some t→args[j]?=some v→Value.okWide Tryz.prog W .any base t v:=hval0
 have hW':=hW
 obtain ⟨p,q,hA0,hV,rfl,hfz,hnd⟩:=hW
 have hA:DataW.TrodAll enc Tryz.prog W 0 (fun _=>true) true Tryz.f3.params.toList args.toList ds p:=hA0
 have hsz:(DataW.weightsEach Tryz.prog (Tryz.f3.params.toList++Rows.orderSpec.plain.varTypes Tryz.prog) (ds++gs)).all (·≤reachBytes)=true:=hsz0
 rw[Tryz.params3]at hA hval hsz
 obtain ⟨v0,v1,v2,d0,d1,d2,p0,p1,p2,rfl,rfl,rfl,h0,h1,h2⟩:=trodAll_three hA
 obtain ⟨rfl,rfl⟩:=trodVars_none hV
 obtain ⟨s,rfl,rfl,rfl,hs⟩:=open_string Tryz.underlying9 (hval 0 9 v0 rfl rfl) h0
 obtain ⟨z,rfl,rfl,rfl,wz⟩:=open_int Tryz.underlying3 (hval 2 3 v2 rfl rfl) h2
 have hz:-9223372036854775808≤z∧z≤9223372036854775807:=by
  have h:=(Lit.wf_int_iff _ _).1 wz
  have h1:IntKind.i64.min=-9223372036854775808:=by decide
  have h2:IntKind.i64.max=9223372036854775807:=by decide
  omega
 obtain ⟨a1,len1,cap1,rfl⟩:=okWide_slice Tryz.underlying22 (hval 1 22 v1 rfl rfl)
 clear hA0 hval0 hsz0
 simp only[List.append_nil]at hW'
 have hlt:∀ x∈([]:List MemPlace)++p1,x.block<W.heap.size:=fun x hx=>by simpa using hW'.lt x (by simpa using hx)
 have hsl:s.data.toList.length≤140737488355328:=Nat.le_trans (sized_string (j:=0) hsz rfl rfl) (Nat.le_of_lt reachBytes_lt)
 obtain ⟨L,rfl,hQ,hN,hLs⟩:=labels_open h1 (fun n hn=>by
  have:=List.all_eq_true.1 hsz _ (DataW.weights_mem_each (j:=1) (t:=22) (d:=d1) rfl rfl n hn)
  simpa using this)
 have hb:Value.string s=.string (bs s.data.toList):=by rw[bs_of]
 rw[hb]
 refine (orderLaw_any W a1 cap1 L hQ hN hLs (labels_cap h1) s.data.toList hsl z hz.1 hz.2).mono fun e W' ⟨he,hf⟩=>?_
 rw[← hb]
 subst he
 refine ⟨_,rfl,[.lit (.string s.data.toList),d1, .lit (.int .i64 z)],[],_,[],[]++(p1++[]),[],by simpa using hW',trodAll_cons_mk (shut_bool Tryz.underlying4 _) trodAll_mk0,trodAll_mk3 (shut_string Tryz.underlying9 hs) (Below.trod laidOut (by kernel_rfl) (of_decide_eq_true (by kernel_rfl)) h1 hf.below (fun x hx=>hlt x (by simpa using hx))) (shut_int Tryz.underlying3 wz),rfl,hf.below.frame _,fun h=>by cases h⟩
theorem over:Rows.orderRow.holds Tryz.pinned (OpenSpec.ofChange Rows.orderSpec) :=
 OpenClaim.holds_of_wide 3 Tryz.f3 rfl rfl rfl rfl rfl rfl rfl ⟨rfl,rfl,rfl,rfl,rfl⟩ rfl rfl rfl rfl rfl (by kernel_rfl) Tryz.func3 (by kernel_rfl)
  (of_decide_eq_true (by kernel_rfl)) (by unfold Func.isWrapper;first | (rw[if_pos (by decide +kernel)];kernel_rfl)|(rw[if_neg (by decide +kernel)];exact ⟨rfl,rfl⟩))
  (fun os started H enc _=>lifted os started H enc)
end Go.Proofs.YtjkialjoamgbgaaGreat.fnOrder
namespace Go.Proofs.YtjkialjoamgbgaaGreat
theorem order_said:Rows.OrderSaid:=fnOrder.over
end Go.Proofs.YtjkialjoamgbgaaGreat
