import Derived.Test.YtjkialjoamgbgaaGreatJ1
set_option linter.unusedVariables false
set_option linter.unusedSimpArgs false
set_option linter.unnecessarySimpa false
set_option maxRecDepth 100000
set_option maxHeartbeats 200000
namespace Go.Proofs.YtjkialjoamgbgaaGreat
open Go.RowKit
def RW(A:List Nat)(k:Nat)(w:World)(v:Value)(vs:List (List Value)):Prop :=
 ∃ a cap,v=.slice a vs.length cap∧vs.length≤cap∧∀ (j:Nat) (h:j<vs.length),∃ g off,a=some ⟨g,off,none⟩∧g∉A∧g<w.heap.size∧∀ c x,vs[j][c]?=some x→w.cell? ⟨g,off+j*k+c,none⟩=some x
theorem RW.frm{A S:List Nat}{k:Nat}{w w':World}{v:Value}{vs:List (List Value)}(h:RW A k w v vs)(f:Frm S w w')(hS:∀ g∈S,g∈A):RW A k w' v vs:=by
 obtain ⟨a,cap,rfl,h1,h2⟩:=h
 refine ⟨a,cap,rfl,h1,fun j hj=>?_⟩
 obtain ⟨g,off,rfl,h3,h4,h5⟩:=h2 j hj
 exact ⟨g,off,rfl,h3,Nat.lt_of_lt_of_le h4 f.size,fun c x hx=>(f.cell (p:=⟨g,off+j*k+c,none⟩) h4 (fun hm=>h3 (hS g hm))).trans (h5 c x hx)⟩
theorem RW.grown{A:List Nat}{k:Nat}{w w':World}{v:Value}{vs:List (List Value)}{row:Option Nat}(h:RW A k w v vs)(hg:w.grownBy w' row)(hr:∀ r,row=some r→r∈A):RW A k w' v vs :=
 h.frm (S:=A) ((Frm.refl A w).grown hg (fun r e=>.inl (hr r e))) (fun _ h=>h)
theorem RW.avoid{A B:List Nat}{k:Nat}{w:World}{v:Value}{vs:List (List Value)}(h:RW A k w v vs)(hB:∀ g∈B,g∈A∨w.heap.size≤g):RW B k w v vs:=by
 obtain ⟨a,cap,rfl,h1,h2⟩:=h
 refine ⟨a,cap,rfl,h1,fun j hj=>?_⟩
 obtain ⟨g,off,rfl,h3,h4,h5⟩:=h2 j hj
 refine ⟨g,off,rfl,fun hm=>?_,h4,h5⟩
 rcases hB g hm with h|h
 ·exact h3 h
 ·omega
theorem RW.nil(A:List Nat)(k:Nat)(w:World):RW A k w (.slice none 0 0) []:=⟨none,0,rfl,Nat.le_refl _,fun j hj=>absurd hj (by simp)⟩
def OW(e:TypeId)(k base:Nat)(w:World)(v:Value)(vs:List (List Value)):Prop:=w.ownsRow base e k v vs.length vs.flatten∧∀ x∈vs,x.length=k
theorem OW.nil(e:TypeId)(k base:Nat)(w:World):OW e k base w (.slice none 0 0) []:=⟨World.ownsRow_nil w base e k,by simp⟩
theorem OW.frm{e:TypeId}{k base:Nat}{S:List Nat}{w w':World}{v:Value}{vs:List (List Value)}(h:OW e k base w v vs)(f:Frm S w w')(hS:∀ g∈S,g<base):OW e k base w' v vs:=⟨own_frm h.1 f hS,h.2⟩
theorem OW.shape{e:TypeId}{k base:Nat}{w:World}{v:Value}{vs:List (List Value)}(h:OW e k base w v vs):∃ a cap,v=.slice a vs.length cap:=by
 rcases h.1.2 with ⟨e,h0⟩|⟨g,cap,cur,e,_⟩
 ·exact ⟨none,0,by rw[e,h0]⟩
 ·exact ⟨_,_,e⟩
theorem OW.lt{e:TypeId}{k base:Nat}{w:World}{v:Value}{vs:List (List Value)}(h:OW e k base w v vs){g:Nat}(hg:v.ownBlock=some g):base≤g∧g<w.heap.size:=h.1.lt g hg
theorem OW.empty(e:TypeId)(k base:Nat)(w:World)(hb:base≤w.heap.size):OW e k base (w.alloc (.cells #[] e)) (.slice (some ⟨w.heap.size,0,none⟩) 0 0) []:=by
 refine ⟨⟨by simp, .inr ⟨w.heap.size,0,#[],rfl,hb,?_,Nat.le_refl _,by unfold maxLen;omega,by simp,by simp⟩⟩,by simp⟩
 show (w.heap.push (.cells #[] e))[w.heap.size]?=_
 simp
theorem vflat_get{k:Nat}:∀ (vs:List (List Value)),(∀ x∈vs,x.length=k)→∀ (j:Nat) (h:j<vs.length) (c:Nat) (x:Value),vs[j][c]?=some x→vs.flatten[j*k+c]?=some x
 | [],_,j,h,_,_,_=>absurd h (by simp)
 | y::vs,hk,0,_,c,x,hx=>by
   have hx':y[c]?=some x:=hx
   have hc:c<y.length:=(List.getElem?_eq_some_iff.1 hx').1
   rw[List.flatten_cons,Nat.zero_mul,Nat.zero_add,List.getElem?_append_left hc];exact hx'
 | y::vs,hk,j+1,h,c,x,hx=>by
   have hy:=hk y (by simp)
   have hm:(j+1)*k=j*k+k:=Nat.succ_mul j k
   rw[List.flatten_cons,List.getElem?_append_right (by omega),show (j+1)*k+c-y.length=j*k+c by omega]
   exact vflat_get vs (fun z hz=>hk z (by simp[hz])) j (by simpa using h) c x (by simpa using hx)
theorem OW.rw{e:TypeId}{k base:Nat}{w:World}{v:Value}{vs:List (List Value)}(h:OW e k base w v vs){A:List Nat}(hA:∀ g,v.ownBlock=some g→g∉A):RW A k w v vs:=by
 rcases h.1.2 with ⟨rfl,h0⟩|⟨g,cap,cur,rfl,hb,hg,hn,hc,hcs,ht⟩
 ·rw[List.length_eq_zero_iff.1 h0];exact RW.nil _ _ _
 ·refine ⟨_,cap,rfl,hn,fun j hj=>⟨g,0,rfl,hA g rfl,(Array.getElem?_eq_some_iff.1 hg).1,fun c x hx=>?_⟩⟩
  have:=World.ownsRow.cells h.1 (g:=g) rfl (j*k+c) x (vflat_get vs h.2 j hj c x hx)
  rwa [add0,show j*k+c=0+j*k+c by omega]at this
theorem info_parts2{e:TypeId}{z:Value}{k b:Nat}(h:(Tryz.prog.info? e).map (fun i=>(i.zero,i.size,i.bytes))=some (some z,k,b)):∃ i,Tryz.prog.info? e=some i∧i.zero=some z∧i.size=k∧i.bytes=b:=by
 cases hi:Tryz.prog.info? e with
 | none=>rw[hi]at h;cases h
 | some i =>
   rw[hi]at h
   simp only[Option.map_some,Option.some.injEq,Prod.mk.injEq]at h
   exact ⟨i,rfl,h.1,h.2.1,h.2.2⟩
theorem wp_appG{ops:Array Oper}{rest:List Oper}{o:Oper}{a:Act}{Q:Exit→Act→World→Prop}(w:World)(hgd:o.guard=none)(s x:Operand)(t e:TypeId)(z:Value)(k by1:Nat)
 (hinfo:(Tryz.prog.info? e).map (fun i=>(i.zero,i.size,i.bytes))=some (some z,k,by1)) (ht:Tryz.prog.underlying t=some (.slice e)) (hzs:z.cells.size=k) (hsz:0<k)
 (ho:o.op=.call { callee:=.builtin .append,args:=#[s,x],argTypes:=#[t,t] })
 (base:Nat) (v:Value) (vs:List (List Value)) (b1:Nat) (cs:List Value) (hs:a.eval s=v) (hown:OW e k base w v vs) (hx:a.eval x=.slice (some ⟨b1,0,none⟩) 1 1)
 (hcl:cs.length=k) (hc:∀ j u,cs[j]?=some u→w.cell? ⟨b1,j,none⟩=some u) (hv:∀ u∈cs,u.oneCell'=true) (hlen:(vs.length+1)*by1≤140737488355328) (hlen2:vs.length≤140737488355328) (hbase:base≤w.heap.size)
 (h:∀ g cap w',OW e k base w' (.slice (some ⟨g,0,none⟩) (vs.length+1) cap) (vs++[cs])→w.grownBy w' v.ownBlock→(v.ownBlock=some g∨g=w.heap.size)→g<w'.heap.size→wpList Tryz.prog ops Q rest (a.put o.dst (.slice (some ⟨g,0,none⟩) (vs.length+1) cap)) w') :
 wpList Tryz.prog ops Q (o::rest) a w:=by
 obtain ⟨i0,hi,hz0,hz1,hz2⟩:=info_parts2 hinfo
 refine wpList_append_lies w hgd s x t ho base e i0 z k by1 ht hi hz0 hz1 hz2 hzs hsz v vs.length vs.flatten hs hown.1 ⟨b1,0,none⟩ 1 1 cs hx (by rw[hcl];omega) ?_ hv (by decide) (by unfold maxLen;omega) hlen hbase w.heap.size rfl ?_
 ·intro j u hj
  rw[add0];exact hc j u hj
 ·intro g cap w' h1 h2 h3 h4
  refine h g cap w' ⟨?_,?_⟩ h2 h3 h4
  ·rw[List.flatten_append,List.flatten_singleton,List.length_append];exact h1
  ·intro y hy
   rw[List.mem_append,List.mem_singleton]at hy
   rcases hy with hy|rfl
   ·exact hown.2 y hy
   ·exact hcl
open Go.RowKit
def nv(k:IntKind)(L:List Nat):List Value:=L.map fun (n:Nat)=>.int k n
theorem infoInt:(Tryz.prog.info? 3).map (fun i=>(i.zero,i.size,i.bytes))=some (some (.int .i64 0),1,8):=by kernel_rfl
theorem heap1(w:World)(a:Obj):(w.alloc a).heap[w.heap.size]?=some a:=heap_alloc_new w a
def AB(w:World)(ab:Nat)(n:Int)(cl:List Nat)(va vn:Value):Prop :=
 w.heap[ab]?=some (.cells (.int .i64 n::(nv .u8 cl++[va,vn])).toArray 124 (0,0))∧cl.length=256
theorem AB.lt{w:World}{ab:Nat}{n:Int}{cl:List Nat}{va vn:Value}(h:AB w ab n cl va vn):ab<w.heap.size:=(Array.getElem?_eq_some_iff.1 h.1).1
theorem AB.fz{w:World}{ab:Nat}{n:Int}{cl:List Nat}{va vn:Value}(h:AB w ab n cl va vn)(o:Nat):w.frozen? ⟨ab,o,none⟩=false:=by simp[World.frozen?,h.1]
theorem AB.frm{S:List Nat}{w w':World}{ab:Nat}{n:Int}{cl:List Nat}{va vn:Value}(h:AB w ab n cl va vn)(f:Frm S w w')(hS:ab∉S):AB w' ab n cl va vn:=⟨(f.block ab h.lt hS).trans h.1,h.2⟩
theorem AB.c0{w:World}{ab:Nat}{n:Int}{cl:List Nat}{va vn:Value}(h:AB w ab n cl va vn):w.cell? ⟨ab,0,none⟩=some (.int .i64 n):=by
 simp[World.cell?,h.1]
theorem AB.cell{w:World}{ab:Nat}{n:Int}{cl:List Nat}{va vn:Value}(h:AB w ab n cl va vn)(c:Nat)(hc:c<256):w.cell? ⟨ab,1+c,none⟩=some (.int .u8 (cl.getD c 0)):=by
 have hl:c<cl.length:=by rw[h.2];exact hc
 have e:(.int .i64 n::(nv .u8 cl++[va,vn]))[1+c]?=some (.int .u8 (cl.getD c 0)):=by
  rw[Nat.add_comm,List.getElem?_cons_succ,List.getElem?_append_left (by simp[nv];exact hl)]
  simp[nv,hl]
 simp[World.cell?,h.1]
 simpa using e
theorem AB.set{w:World}{ab:Nat}{n:Int}{cl:List Nat}{va vn:Value}(h:AB w ab n cl va vn)(c m:Nat)(hc:c<256):AB (w.setCell ⟨ab,1+c,none⟩ (.int .u8 m)) ab n (cl.set c m) va vn:=by
 refine ⟨?_,by rw[List.length_set];exact h.2⟩
 have hl:c<cl.length:=by rw[h.2];exact hc
 have e:(.int .i64 n::(nv .u8 cl++[va,vn])).set (1+c) (.int .u8 m)=.int .i64 n::(nv .u8 (cl.set c m)++[va,vn]):=by
  rw[Nat.add_comm,List.set_cons_succ,List.set_append_left _ _ (by simp[nv];exact hl)]
  simp[nv,List.map_set]
 have h1:=h.1
 simp only[World.setCell,Array.getElem?_modify,h1,if_true,Option.map_some]
 rw[← e]
 simp
theorem AB.set0{w:World}{ab:Nat}{n:Int}{cl:List Nat}{va vn:Value}(h:AB w ab n cl va vn)(m:Int):AB (w.setCell ⟨ab,0,none⟩ (.int .i64 m)) ab m cl va vn:=by
 refine ⟨?_,h.2⟩
 have h1:=h.1
 simp only[World.setCell,Array.getElem?_modify,h1,if_true,Option.map_some]
 simp
theorem AB.setN{w:World}{ab:Nat}{n:Int}{cl:List Nat}{va vn:Value}(h:AB w ab n cl va vn)(v:Value):AB (w.setCell ⟨ab,258,none⟩ v) ab n cl va v:=by
 refine ⟨?_,h.2⟩
 have e:(.int .i64 n::(nv .u8 cl++[va,vn])).set 258 v=.int .i64 n::(nv .u8 cl++[va,v]):=by
  rw[List.set_cons_succ,List.set_append_right _ _ (by simp[nv,h.2])]
  simp[nv,h.2]
 have h1:=h.1
 simp only[World.setCell,Array.getElem?_modify,h1,if_true,Option.map_some]
 rw[← e]
 simp
theorem AB.setA{w:World}{ab:Nat}{n:Int}{cl:List Nat}{va vn:Value}(h:AB w ab n cl va vn)(v:Value):AB (w.setCell ⟨ab,257,none⟩ v) ab n cl v vn:=by
 refine ⟨?_,h.2⟩
 have e:(.int .i64 n::(nv .u8 cl++[va,vn])).set 257 v=.int .i64 n::(nv .u8 cl++[v,vn]):=by
  rw[List.set_cons_succ,List.set_append_right _ _ (by simp[nv,h.2])]
  simp[nv,h.2]
 have h1:=h.1
 simp only[World.setCell,Array.getElem?_modify,h1,if_true,Option.map_some]
 rw[← e]
 simp
theorem AB.cN{w:World}{ab:Nat}{n:Int}{cl:List Nat}{va vn:Value}(h:AB w ab n cl va vn):w.cell? ⟨ab,257,none⟩=some va∧w.cell? ⟨ab,258,none⟩=some vn:=by
 have e1:(.int .i64 n::(nv .u8 cl++[va,vn]))[257]?=some va:=by
  rw[List.getElem?_cons_succ,List.getElem?_append_right (by simp[nv,h.2])];simp[nv,h.2]
 have e2:(.int .i64 n::(nv .u8 cl++[va,vn]))[258]?=some vn:=by
  rw[List.getElem?_cons_succ,List.getElem?_append_right (by simp[nv,h.2])];simp[nv,h.2]
 simp only[World.cell?,h.1]
 exact ⟨by simpa using e1,by simpa using e2⟩
theorem autoInfoX:(Tryz.prog.info? 124).map (·.size)=some 259:=by kernel_rfl
theorem autoZeroX:Tryz.zeroCells124=(Value.int .i64 0::(nv .u8 (List.replicate 256 0)++[.slice none 0 0, .slice none 0 0])).toArray:=by kernel_rfl
theorem autoZero9:Tryz.zeroCells124.size=259:=by kernel_rfl
theorem autoAll:Tryz.zeroCells124.all (·.oneCell')=true:=by kernel_rfl
theorem AB.new(w:World):AB (w.alloc (Obj.cells Tryz.zeroCells124 124)) w.heap.size 0 (List.replicate 256 0) (.slice none 0 0) (.slice none 0 0):=by
 refine ⟨?_,List.length_replicate⟩
 rw[autoZeroX]
 exact heap1 _ _
theorem results_cell_tmpA{fn:Func}{p u:Tmp}{ty:TypeId}(h:fn.results=#[.cell p ty, .tmp u])(tmps:Array Value)(w:World)(g:Nat)(cs:Array Value)
 (hp:tmps.getD p undef=.pointer (some ⟨g,0,none⟩)) (hl:(loadVar ty ⟨g,0,none⟩).run Tryz.prog w=.ok (.agg cs) w) :
 (results fn tmps).run Tryz.prog w=.ok (.tuple #[.agg cs,tmps.getD u undef]) w:=by
 have hp':tmps[p]?.getD undef=.pointer (some ⟨g,0,none⟩):=by simpa using hp
 simp[results,h,hp',asAddr,hl]
theorem autoLoad{w:World}{g:Nat}{t:TypeId}{cs:Array Value}{fr:Nat × Nat}(hg:w.heap[g]?=some (.cells cs t fr))(hs:cs.size=259):(loadVar 124 ⟨g,0,none⟩).run Tryz.prog w=.ok (.agg cs) w :=
 run_loadVar_row w g t 124 cs fr _ hg Tryz.underlying124 rfl (by rw[hs];exact autoInfoX)
theorem Frm.setRow(w:World)(g:Nat)(cs:Array Value):Frm [g] w (w.setRow g cs):=by
 refine ⟨rfl,rfl,rfl,by simp[World.setRow],fun k hk hS=>?_⟩
 simp at hS
 simp only[World.setRow,Array.getElem?_modify]
 rw[if_neg (fun e=>hS e.symm)]
theorem setRow_at{w:World}{g:Nat}{old cs:Array Value}{t:TypeId}(h:w.heap[g]?=some (.cells old t (0,0))):(w.setRow g cs).heap[g]?=some (.cells cs t (0,0)):=by
 simp only[World.setRow,Array.getElem?_modify,h,if_true,Option.map_some]
theorem store_row{w:World}{g:Nat}{old cs:Array Value}{t:TypeId}(h:w.heap[g]?=some (.cells old t (0,0)))(hs:cs.size=old.size)(h1:cs.all (·.oneCell')=true):(storeCells ⟨g,0,none⟩ cs.toList).run Tryz.prog w=.ok () (w.setRow g cs):=by
 have:=run_storeCells_from (P:=Tryz.prog) g t cs.toList 0 old w h (by simp;omega) (fun v hv=>(Array.all_eq_true_iff_forall_mem.1 h1) v (by simpa using hv))
 simpa using this
theorem infoBool:(Tryz.prog.info? 4).map (fun i=>(i.zero,i.size,i.bytes))=some (some (.bool false),1,1):=by kernel_rfl
theorem wp_autoLoad{o:Oper}{a:Act}{w:World}{K:Act→World→Prop}{Q:Exit→Act→World→Prop}(x:Operand)(ho:o.op=.load 124 x)(g:Nat)(hx:a.eval x=.pointer (some ⟨g,0,none⟩))(cs:Array Value)(hl:(loadVar 124 ⟨g,0,none⟩).run Tryz.prog w=.ok (.agg cs) w)(h:K (a.put o.dst (.agg cs)) w):o.wp Tryz.prog a w K Q:=by
 unfold Oper.wp execOp
 simp only[ho,hx,Instr.loadAt,Instr.sureAddr,Sem.run_bind,Sem.run_pure,Result.andThen_ok,hl]
 exact h
end Go.Proofs.YtjkialjoamgbgaaGreat
