import Derived.Test.YtpcbbbilmpobaaaGreatDoorJ3
import Derived.Deep.WholeRow
import Derived.Great.BuildSlice
import Derived.Laws.CopyOwn
set_option linter.unusedVariables false
set_option linter.unusedSimpArgs false
set_option linter.unnecessarySimpa false
set_option maxRecDepth 100000
set_option maxHeartbeats 200000
namespace Go.Proofs.YtpcbbbilmpobaaaGreatDoor
open Go.RowKit
def nv(k:IntKind)(L:List Nat):List Value:=L.map fun (n:Nat)=>.int k n
theorem infoInt:(Tryz.prog.info? 3).map (fun i=>(i.zero,i.size,i.bytes))=some (some (.int .i64 0),1,8):=by kernel_rfl
theorem heap1(w:World)(a:Obj):(w.alloc a).heap[w.heap.size]?=some a:=heap_alloc_new w a
def AB(w:World)(ab:Nat)(n:Int)(cl:List Nat)(va vn:Value):Prop :=
 w.heap[ab]?=some (.cells (.int .i64 n::(nv .u8 cl++[va,vn])).toArray 95 (0,0))∧cl.length=256
theorem AB.lt{w:World}{ab:Nat}{n:Int}{cl:List Nat}{va vn:Value}(h:AB w ab n cl va vn):ab<w.heap.size:=(Array.getElem?_eq_some_iff.1 h.1).1
theorem AB.fz{w:World}{ab:Nat}{n:Int}{cl:List Nat}{va vn:Value}(h:AB w ab n cl va vn)(o:Nat):w.frozen? ⟨ab,o,none⟩=false:=by simp[World.frozen?,h.1]
theorem AB.frm{S:List Nat}{w w':World}{ab:Nat}{n:Int}{cl:List Nat}{va vn:Value}(h:AB w ab n cl va vn)(f:Frm S w w')(hS:ab∉S):AB w' ab n cl va vn:=⟨(f.block ab h.lt hS).trans h.1,h.2⟩
theorem AB.c0{w:World}{ab:Nat}{n:Int}{cl:List Nat}{va vn:Value}(h:AB w ab n cl va vn):w.cell? ⟨ab,0,none⟩=some (.int .i64 n):=by
 simp[World.cell?,h.1]
theorem AB.cell{w:World}{ab:Nat}{n:Int}{cl:List Nat}{va vn:Value}(h:AB w ab n cl va vn)(c:Nat)(hc:c<256):w.cell? ⟨ab,1+c,none⟩=some (.int .u8 (cl.getD c 0)):=by
 have hl:c<cl.length:=by rw[h.2];exact hc
 have e:(.int .i64 n::(nv .u8 cl++[va,vn]))[1+c]?=some (.int .u8 (cl.getD c 0)):=by
  rw[Nat.add_comm,List.getElem?_cons_succ,List.getElem?_append_left (by simp[nv];exact hl)];simp[nv,hl]
 simp[World.cell?,h.1];simpa using e
theorem AB.set{w:World}{ab:Nat}{n:Int}{cl:List Nat}{va vn:Value}(h:AB w ab n cl va vn)(c m:Nat)(hc:c<256):AB (w.setCell ⟨ab,1+c,none⟩ (.int .u8 m)) ab n (cl.set c m) va vn:=by
 refine ⟨?_,by rw[List.length_set];exact h.2⟩;have hl:c<cl.length:=by rw[h.2];exact hc
 have e:(.int .i64 n::(nv .u8 cl++[va,vn])).set (1+c) (.int .u8 m)=.int .i64 n::(nv .u8 (cl.set c m)++[va,vn]):=by
  rw[Nat.add_comm,List.set_cons_succ,List.set_append_left _ _ (by simp[nv];exact hl)];simp[nv,List.map_set]
 have h1:=h.1;simp only[World.setCell,Array.getElem?_modify,h1,if_true,Option.map_some];rw[← e];simp
theorem AB.set0{w:World}{ab:Nat}{n:Int}{cl:List Nat}{va vn:Value}(h:AB w ab n cl va vn)(m:Int):AB (w.setCell ⟨ab,0,none⟩ (.int .i64 m)) ab m cl va vn:=by
 refine ⟨?_,h.2⟩;have h1:=h.1;simp only[World.setCell,Array.getElem?_modify,h1,if_true,Option.map_some];simp
theorem AB.setN{w:World}{ab:Nat}{n:Int}{cl:List Nat}{va vn:Value}(h:AB w ab n cl va vn)(v:Value):AB (w.setCell ⟨ab,258,none⟩ v) ab n cl va v:=by
 refine ⟨?_,h.2⟩;have e:(.int .i64 n::(nv .u8 cl++[va,vn])).set 258 v=.int .i64 n::(nv .u8 cl++[va,v]):=by
  rw[List.set_cons_succ,List.set_append_right _ _ (by simp[nv,h.2])];simp[nv,h.2]
 have h1:=h.1;simp only[World.setCell,Array.getElem?_modify,h1,if_true,Option.map_some];rw[← e];simp
theorem AB.setA{w:World}{ab:Nat}{n:Int}{cl:List Nat}{va vn:Value}(h:AB w ab n cl va vn)(v:Value):AB (w.setCell ⟨ab,257,none⟩ v) ab n cl v vn:=by
 refine ⟨?_,h.2⟩;have e:(.int .i64 n::(nv .u8 cl++[va,vn])).set 257 v=.int .i64 n::(nv .u8 cl++[v,vn]):=by
  rw[List.set_cons_succ,List.set_append_right _ _ (by simp[nv,h.2])];simp[nv,h.2]
 have h1:=h.1;simp only[World.setCell,Array.getElem?_modify,h1,if_true,Option.map_some];rw[← e];simp
theorem AB.cN{w:World}{ab:Nat}{n:Int}{cl:List Nat}{va vn:Value}(h:AB w ab n cl va vn):w.cell? ⟨ab,257,none⟩=some va∧w.cell? ⟨ab,258,none⟩=some vn:=by
 have e1:(.int .i64 n::(nv .u8 cl++[va,vn]))[257]?=some va:=by
  rw[List.getElem?_cons_succ,List.getElem?_append_right (by simp[nv,h.2])];simp[nv,h.2]
 have e2:(.int .i64 n::(nv .u8 cl++[va,vn]))[258]?=some vn:=by
  rw[List.getElem?_cons_succ,List.getElem?_append_right (by simp[nv,h.2])];simp[nv,h.2]
 simp only[World.cell?,h.1];exact ⟨by simpa using e1,by simpa using e2⟩
theorem autoInfoX:(Tryz.prog.info? 95).map (·.size)=some 259:=by kernel_rfl
theorem autoZeroX:Tryz.zeroCells95=(Value.int .i64 0::(nv .u8 (List.replicate 256 0)++[.slice none 0 0, .slice none 0 0])).toArray:=by kernel_rfl
theorem autoZero9:Tryz.zeroCells95.size=259:=by kernel_rfl
theorem autoAll:Tryz.zeroCells95.all (·.oneCell')=true:=by kernel_rfl
theorem AB.new(w:World):AB (w.alloc (Obj.cells Tryz.zeroCells95 95)) w.heap.size 0 (List.replicate 256 0) (.slice none 0 0) (.slice none 0 0):=by
 refine ⟨?_,List.length_replicate⟩;rw[autoZeroX];exact heap1 _ _
theorem results_cell_tmpA{fn:Func}{p u:Tmp}{ty:TypeId}(h:fn.results=#[.cell p ty, .tmp u])(tmps:Array Value)(w:World)(g:Nat)(cs:Array Value)
 (hp:tmps.getD p undef=.pointer (some ⟨g,0,none⟩)) (hl:(loadVar ty ⟨g,0,none⟩).run Tryz.prog w=.ok (.agg cs) w) :
 (results fn tmps).run Tryz.prog w=.ok (.tuple #[.agg cs,tmps.getD u undef]) w:=by
 have hp':tmps[p]?.getD undef=.pointer (some ⟨g,0,none⟩):=by simpa using hp
 simp[results,h,hp',asAddr,hl]
theorem autoLoad{w:World}{g:Nat}{t:TypeId}{cs:Array Value}{fr:Nat × Nat}(hg:w.heap[g]?=some (.cells cs t fr))(hs:cs.size=259):(loadVar 95 ⟨g,0,none⟩).run Tryz.prog w=.ok (.agg cs) w :=
 run_loadVar_row w g t 95 cs fr _ hg Tryz.underlying95 rfl (by rw[hs];exact autoInfoX)
theorem Frm.setRow(w:World)(g:Nat)(cs:Array Value):Frm [g] w (w.setRow g cs):=by
 refine ⟨rfl,rfl,rfl,by simp[World.setRow],fun k hk hS=>?_⟩;simp at hS;simp only[World.setRow,Array.getElem?_modify];rw[if_neg (fun e=>hS e.symm)]
theorem setRow_at{w:World}{g:Nat}{old cs:Array Value}{t:TypeId}(h:w.heap[g]?=some (.cells old t (0,0))):(w.setRow g cs).heap[g]?=some (.cells cs t (0,0)):=by
 simp only[World.setRow,Array.getElem?_modify,h,if_true,Option.map_some]
theorem store_row{w:World}{g:Nat}{old cs:Array Value}{t:TypeId}(h:w.heap[g]?=some (.cells old t (0,0)))(hs:cs.size=old.size)(h1:cs.all (·.oneCell')=true):(storeCells ⟨g,0,none⟩ cs.toList).run Tryz.prog w=.ok () (w.setRow g cs):=by
 have:=run_storeCells_from (P:=Tryz.prog) g t cs.toList 0 old w h (by simp;omega) (fun v hv=>(Array.all_eq_true_iff_forall_mem.1 h1) v (by simpa using hv));simpa using this
theorem infoBool:(Tryz.prog.info? 4).map (fun i=>(i.zero,i.size,i.bytes))=some (some (.bool false),1,1):=by kernel_rfl
theorem wp_autoLoad{o:Oper}{a:Act}{w:World}{K:Act→World→Prop}{Q:Exit→Act→World→Prop}(x:Operand)(ho:o.op=.load 95 x)(g:Nat)(hx:a.eval x=.pointer (some ⟨g,0,none⟩))(cs:Array Value)(hl:(loadVar 95 ⟨g,0,none⟩).run Tryz.prog w=.ok (.agg cs) w)(h:K (a.put o.dst (.agg cs)) w):o.wp Tryz.prog a w K Q:=by
 unfold Oper.wp execOp;simp only[ho,hx,Instr.loadAt,Instr.sureAddr,Sem.run_bind,Sem.run_pure,Result.andThen_ok,hl];exact h
structure V6 where
 n:Value
 c:Value
 a:Value
 t:Value
 r:Value
 i:Value
def sc(L:List (List UInt8)):List (List Value):=L.map fun s=>[.string (bs s)]
theorem sc_snoc(L:List (List UInt8))(s:List UInt8):sc L++[[.string (bs s)]]=sc (L++[s]):=by simp[sc]
theorem sc_len(L:List (List UInt8)):(sc L).length=L.length:=by simp[sc]
theorem wp_appSc{ops:Array Oper}{rest:List Oper}{o:Oper}{a:Act}{Q:Exit→Act→World→Prop}(w:World)(hgd:o.guard=none)(s x:Operand)
 (ho:o.op=.call { callee:=.builtin .append,args:=#[s,x],argTypes:=#[47,47] })
 (base:Nat) (v:Value) (acc:List (List UInt8)) (b1:Nat) (y:List UInt8) (hs:a.eval s=v) (hown:OW 9 1 base w v (sc acc)) (hx:a.eval x=.slice (some ⟨b1,0,none⟩) 1 1)
 (hc:w.cell? ⟨b1,0,none⟩=some (.string (bs y))) (hlen:acc.length≤1000000) (hbase:base≤w.heap.size)
 (h:∀ g cap w',OW 9 1 base w' (.slice (some ⟨g,0,none⟩) (acc.length+1) cap) (sc (acc++[y]))→w.grownBy w' v.ownBlock→(v.ownBlock=some g∨g=w.heap.size)→g<w'.heap.size→wpList Tryz.prog ops Q rest (a.put o.dst (.slice (some ⟨g,0,none⟩) (acc.length+1) cap)) w') :
 wpList Tryz.prog ops Q (o::rest) a w:=by
 have hl:=sc_len acc;refine wp_appG w hgd s x 47 9 (.string ByteArray.empty) 1 16 infoStr Tryz.underlying47 rfl (by decide) ho base v (sc acc) b1 [.string (bs y)] hs hown hx rfl ?_ ?_ (by omega) (by omega) hbase ?_
 ·intro j u hj
  cases j with
  | zero=>simp at hj;rw[← hj];exact hc
  | succ j=>simp at hj
 ·intro u hu
  simp at hu;subst hu;rfl
 ·rw[hl,sc_snoc];exact h
theorem Frm.over{S T:List Nat}{a b c:World}(h:Frm T a b)(k:Frm S b c)(hS:∀ x∈S,a.heap.size≤x∨x∈T):Frm T a c :=
 ⟨k.os.trans h.os,k.tape.trans h.tape,k.output.trans h.output,Nat.le_trans h.size k.size,fun i hi hT=>by
   rw[k.block i (Nat.lt_of_lt_of_le hi h.size) (fun hm=>by rcases hS i hm with h1|h1;exact absurd h1 (by omega);exact hT h1)];exact h.block i hi hT⟩
def bc(L:List Nat):List (List Value):=L.map fun a=>[.bool (a==1)]
def ic(L:List Nat):List (List Value):=L.map fun (n:Nat)=>[.int .i64 n]
theorem bc_snoc(L:List Nat)(s:Nat):bc L++[[.bool (s==1)]]=bc (L++[s]):=by simp[bc]
theorem ic_snoc(L:List Nat)(s:Nat):ic L++[[.int .i64 (s:Nat)]]=ic (L++[s]):=by simp[ic]
theorem bc_len(L:List Nat):(bc L).length=L.length:=by simp[bc]
theorem ic_len(L:List Nat):(ic L).length=L.length:=by simp[ic]
theorem wp_appBc{ops:Array Oper}{rest:List Oper}{o:Oper}{a:Act}{Q:Exit→Act→World→Prop}(w:World)(hgd:o.guard=none)(s x:Operand)
 (ho:o.op=.call { callee:=.builtin .append,args:=#[s,x],argTypes:=#[92,92] })
 (base:Nat) (v:Value) (acc:List Nat) (b1:Nat) (y:Nat) (hs:a.eval s=v) (hown:OW 4 1 base w v (bc acc)) (hx:a.eval x=.slice (some ⟨b1,0,none⟩) 1 1)
 (hc:w.cell? ⟨b1,0,none⟩=some (.bool (y==1))) (hlen:acc.length≤1000000) (hbase:base≤w.heap.size)
 (h:∀ g cap w',OW 4 1 base w' (.slice (some ⟨g,0,none⟩) (acc.length+1) cap) (bc (acc++[y]))→w.grownBy w' v.ownBlock→(v.ownBlock=some g∨g=w.heap.size)→g<w'.heap.size→wpList Tryz.prog ops Q rest (a.put o.dst (.slice (some ⟨g,0,none⟩) (acc.length+1) cap)) w') :
 wpList Tryz.prog ops Q (o::rest) a w:=by
 have hl:=bc_len acc;refine wp_appG w hgd s x 92 4 (.bool false) 1 1 infoBool Tryz.underlying92 rfl (by decide) ho base v (bc acc) b1 [.bool (y==1)] hs hown hx rfl ?_ ?_ (by omega) (by omega) hbase ?_
 ·intro j u hj
  cases j with
  | zero=>simp only[List.getElem?_cons_zero,Option.some.injEq]at hj;rw[← hj];exact hc
  | succ j=>simp at hj
 ·intro u hu
  simp only[List.mem_singleton]at hu;subst hu;rfl
 ·rw[hl,bc_snoc];exact h
theorem wp_appIc{ops:Array Oper}{rest:List Oper}{o:Oper}{a:Act}{Q:Exit→Act→World→Prop}(w:World)(hgd:o.guard=none)(s x:Operand)
 (ho:o.op=.call { callee:=.builtin .append,args:=#[s,x],argTypes:=#[93,93] })
 (base:Nat) (v:Value) (acc:List Nat) (b1:Nat) (y:Nat) (hs:a.eval s=v) (hown:OW 3 1 base w v (ic acc)) (hx:a.eval x=.slice (some ⟨b1,0,none⟩) 1 1)
 (hc:w.cell? ⟨b1,0,none⟩=some (.int .i64 (y:Nat))) (hlen:acc.length≤1000000) (hbase:base≤w.heap.size)
 (h:∀ g cap w',OW 3 1 base w' (.slice (some ⟨g,0,none⟩) (acc.length+1) cap) (ic (acc++[y]))→w.grownBy w' v.ownBlock→(v.ownBlock=some g∨g=w.heap.size)→g<w'.heap.size→wpList Tryz.prog ops Q rest (a.put o.dst (.slice (some ⟨g,0,none⟩) (acc.length+1) cap)) w') :
 wpList Tryz.prog ops Q (o::rest) a w:=by
 have hl:=ic_len acc;refine wp_appG w hgd s x 93 3 (.int .i64 0) 1 8 infoInt Tryz.underlying93 rfl (by decide) ho base v (ic acc) b1 [.int .i64 (y:Nat)] hs hown hx rfl ?_ ?_ (by omega) (by omega) hbase ?_
 ·intro j u hj
  cases j with
  | zero=>simp only[List.getElem?_cons_zero,Option.some.injEq]at hj;rw[← hj];exact hc
  | succ j=>simp at hj
 ·intro u hu
  simp only[List.mem_singleton]at hu;subst hu;rfl
 ·rw[hl,ic_snoc];exact h
theorem OW.grown{e:TypeId}{k base:Nat}{w w':World}{v:Value}{vs:List (List Value)}{row:Option Nat}(h:OW e k base w v vs)(hg:w.grownBy w' row)(hr:∀ r,v.ownBlock=some r→row≠some r):OW e k base w' v vs:=by
 refine ⟨⟨h.1.1,?_⟩,h.2⟩;rcases h.1.2 with hn|⟨g,cap,cur,rfl,hb,hgg,rest⟩
 ·exact .inl hn
 ·exact .inr ⟨g,cap,cur,rfl,hb,(hg.block g (Array.getElem?_eq_some_iff.1 hgg).1 (fun e=>hr g rfl e.symm)).trans hgg,rest⟩
theorem OW.keep{e:TypeId}{k base:Nat}{S:List Nat}{w w':World}{v:Value}{vs:List (List Value)}(h:OW e k base w v vs)(f:Frm S w w')(hS:∀ r,v.ownBlock=some r→r∉S):OW e k base w' v vs:=by
 refine ⟨⟨h.1.1,?_⟩,h.2⟩;rcases h.1.2 with hn|⟨g,cap,cur,rfl,hb,hgg,rest⟩
 ·exact .inl hn
 ·exact .inr ⟨g,cap,cur,rfl,hb,(f.block g (Array.getElem?_eq_some_iff.1 hgg).1 (hS g rfl)).trans hgg,rest⟩
theorem OW.base{e:TypeId}{k base b2:Nat}{w:World}{v:Value}{vs:List (List Value)}(h:OW e k base w v vs)(hb:b2≤base):OW e k b2 w v vs:=by
 refine ⟨⟨h.1.1,?_⟩,h.2⟩;rcases h.1.2 with hn|⟨g,cap,cur,rfl,hg,rest⟩
 ·exact .inl hn
 ·exact .inr ⟨g,cap,cur,rfl,by omega,rest⟩
theorem step_appG{ops:Array Oper}{o:Oper}{a:Act}{K:Act→World→Prop}{Q:Exit→Act→World→Prop}{E:Prop}(w:World)(hgd:o.guard=none)(s x:Operand)(t e:TypeId)(z:Value)(k by1:Nat)
 (hinfo:(Tryz.prog.info? e).map (fun i=>(i.zero,i.size,i.bytes))=some (some z,k,by1)) (ht:Tryz.prog.underlying t=some (.slice e)) (hzs:z.cells.size=k) (hsz:0<k)
 (ho:o.op=.call { callee:=.builtin .append,args:=#[s,x],argTypes:=#[t,t] })
 (base:Nat) (v:Value) (vs:List (List Value)) (b1:Nat) (cs:Array Value) (fr:Nat × Nat) (hs:a.eval s=v) (hown:OW e k base w v vs) (hx:a.eval x=.slice (some ⟨b1,0,none⟩) 1 1)
 (hcl:cs.size=k) (hb:w.heap[b1]?=some (.cells cs e fr)) (hv:cs.all (·.oneCell')=true) (hlen:(vs.length+1)*by1≤140737488355328) (hlen2:vs.length≤140737488355328) (hbase:base≤w.heap.size) (H:Nat) (hH:w.heap.size=H)
 (h:∀ g cap w',OW e k base w' (.slice (some ⟨g,0,none⟩) (vs.length+1) cap) (vs++[cs.toList])→w.grownBy w' v.ownBlock→(v.ownBlock=some g∨g=H)→g<w'.heap.size→K (a.put o.dst (.slice (some ⟨g,0,none⟩) (vs.length+1) cap)) w') :
 if Region.wanted o (yielded ops a.tmps)=true then Oper.wp Tryz.prog o a w K Q else E:=by
 obtain ⟨i0,hi,hz0,hz1,hz2⟩:=info_parts2 hinfo;refine step_append_lies w hgd s x t ho base e i0 z k by1 ht hi hz0 hz1 hz2 hzs hsz v vs.length vs.flatten hs hown.1 ⟨b1,0,none⟩ 1 1 cs.toList hx (by rw[Array.length_toList,hcl];omega) (World.news_of_block hb) ?_ (by decide) (by unfold maxLen;omega) hlen hbase H hH ?_
 ·intro u hu
  exact (Array.all_eq_true_iff_forall_mem.1 hv) u (by simpa using hu)
 ·intro g cap w' h1 h2 h3 h4
  refine h g cap w' ⟨?_,?_⟩ h2 h3 h4
  ·rw[List.flatten_append,List.flatten_singleton,List.length_append];exact h1
  ·intro y hy
   rw[List.mem_append,List.mem_singleton]at hy;rcases hy with hy|rfl
   ·exact hown.2 y hy
   ·rw[Array.length_toList];exact hcl
def tcell(x:TstM):Array Value:=#[.int .i64 (x.n:Nat), .int .i64 (x.k:Nat), .int .i64 (x.x:Nat)]
def tc(L:List TstM):List (List Value):=L.map fun x=>(tcell x).toList
theorem tcell_one(x:TstM):(tcell x).all (·.oneCell')=true:=by simp[tcell,Value.oneCell']
theorem tc_len(L:List TstM):(tc L).length=L.length:=by simp[tc]
theorem tc_snoc(L:List TstM)(x:TstM):tc L++[(tcell x).toList]=tc (L++[x]):=by simp[tc]
theorem testSize:(Tryz.prog.info? 97).map (·.size)=some 3:=by kernel_rfl
theorem infoTest:(Tryz.prog.info? 97).map (fun i=>(i.zero,i.size,i.bytes))=some (some (.agg #[.int .i64 0, .int .i64 0, .int .i64 0]),3,24):=by kernel_rfl
structure Inn(α:Type) where
 rel:List Nat→World→Array Value→α→Prop
 frm:∀ {A S:List Nat} {w w':World} {cs:Array Value} {x:α},rel A w cs x→Frm S w w'→(∀ g∈S,g∈A)→rel A w' cs x
 avoid:∀ {A B:List Nat} {w:World} {cs:Array Value} {x:α},rel A w cs x→(∀ g∈B,g∈A∨w.heap.size≤g)→rel B w cs x
def RowI{α:Type}(I:Inn α)(A:List Nat)(w:World)(css:List (Array Value))(xs:List α):Prop:=css.length=xs.length∧∀ (n:Nat) cs x,css[n]?=some cs→xs[n]?=some x→I.rel A w cs x
theorem RowI.nil{α:Type}(I:Inn α)(A:List Nat)(w:World):RowI I A w [] []:=⟨rfl,fun n cs x h=>by simp at h⟩
theorem RowI.frm{α:Type}{I:Inn α}{A S:List Nat}{w w':World}{css:List (Array Value)}{xs:List α}(h:RowI I A w css xs)(f:Frm S w w')(hS:∀ g∈S,g∈A):RowI I A w' css xs:=⟨h.1,fun n cs x h1 h2=>I.frm (h.2 n cs x h1 h2) f hS⟩
theorem RowI.avoid{α:Type}{I:Inn α}{A B:List Nat}{w:World}{css:List (Array Value)}{xs:List α}(h:RowI I A w css xs)(hB:∀ g∈B,g∈A∨w.heap.size≤g):RowI I B w css xs:=⟨h.1,fun n cs x h1 h2=>I.avoid (h.2 n cs x h1 h2) hB⟩
theorem RowI.snoc{α:Type}{I:Inn α}{A:List Nat}{w:World}{css:List (Array Value)}{xs:List α}{cs:Array Value}{x:α}(h:RowI I A w css xs)(hx:I.rel A w cs x):RowI I A w (css++[cs]) (xs++[x]):=by
 refine ⟨by simp[h.1],fun n c y h1 h2=>?_⟩;rcases Nat.lt_trichotomy n css.length with hn|hn|hn
 ·rw[List.getElem?_append_left hn]at h1
  rw[List.getElem?_append_left (by rw[← h.1];exact hn)]at h2;exact h.2 n c y h1 h2
 ·subst hn
  rw[List.getElem?_append_right (Nat.le_refl _)]at h1;rw[List.getElem?_append_right (by rw[h.1];exact Nat.le_refl _),h.1]at h2;simp at h1 h2;subst h1 h2;exact hx
 ·rw[List.getElem?_eq_none (by simp;omega)]at h1;cases h1
theorem RowI.app{α:Type}{I:Inn α}{A:List Nat}{g:Nat}{w w':World}{row:Option Nat}{css:List (Array Value)}{xs:List α}(h:RowI I (A++row.toList) w css xs)(hg:w.grownBy w' row)(ha:row=some g∨g=w.heap.size):RowI I (A++[g]) w' css xs:=by
 have h1:RowI I (A++(g::row.toList)) w css xs:=h.avoid (by
  intro x hx;simp at hx;rcases hx with hx|rfl|hx
  ·left;simp[hx]
  ·rcases ha with ha|ha
   ·left;simp[ha]
   ·right;omega
  ·left;simp[hx])
 have h2:RowI I (A++(g::row.toList)) w' css xs:=h1.frm (S:=row.toList) ((Frm.refl row.toList w).grown hg (fun r e=>.inl (by simp[e]))) (by intro x hx;simp at hx;simp[hx]);exact h2.avoid (by intro x hx;left;simp at hx ⊢;rcases hx with hx|hx<;>simp[hx])
def lst(css:List (Array Value)):List (List Value):=css.map (·.toList)
theorem lst_len(css:List (Array Value)):(lst css).length=css.length:=by simp[lst]
theorem lst_snoc(css:List (Array Value))(c:Array Value):lst css++[c.toList]=lst (css++[c]):=by simp[lst]
def acell(x:AutM)(va vn:Value):Array Value:=(Value.int .i64 x.k::(nv .u8 x.cl++[va,vn])).toArray
def autI:Inn AutM where
 rel A w cs x:=∃ va vn,cs=acell x va vn∧RW A 1 w va (bc x.acc)∧RW A 1 w vn (ic x.nx)
 frm:=by
  rintro A S w w' cs x ⟨va,vn,h1,h2,h3⟩ f hS;exact ⟨va,vn,h1,h2.frm f hS,h3.frm f hS⟩
 avoid:=by
  rintro A B w cs x ⟨va,vn,h1,h2,h3⟩ hB;exact ⟨va,vn,h1,h2.avoid hB,h3.avoid hB⟩
theorem infoAut:(Tryz.prog.info? 95).map (fun i=>(i.zero,i.size,i.bytes))=some (some (.agg Tryz.zeroCells95),259,312):=by kernel_rfl
theorem step_autoLoad{ops:Array Oper}{o:Oper}{a:Act}{K:Act→World→Prop}{Q:Exit→Act→World→Prop}{E:Prop}(w:World)(hgd:o.guard=none)(x:Operand)(ho:o.op=.load 95 x)(g:Nat)(hx:a.eval x=.pointer (some ⟨g,0,none⟩))(cs:Array Value)(hl:(loadVar 95 ⟨g,0,none⟩).run Tryz.prog w=.ok (.agg cs) w)(h:K (a.put o.dst (.agg cs)) w) :
 if Region.wanted o (yielded ops a.tmps)=true then Oper.wp Tryz.prog o a w K Q else E:=by
 have hw:Region.wanted o (yielded ops a.tmps)=true:=by simp[Region.wanted,hgd]
 rw[if_pos hw];exact wp_autoLoad x ho g hx cs hl h
theorem step_autoBuild{ops:Array Oper}{o:Oper}{a:Act}{K:Act→World→Prop}{Q:Exit→Act→World→Prop}{E:Prop}(w:World)(hgd:o.guard=none)(x:Operand)(ho:o.op=.buildSlice 53 1 #[(0,x)])(cs:Array Value)(hx:a.eval x=.agg cs)(hs:cs.size=259)(h:K (a.put o.dst (.slice (some ⟨w.heap.size,0,none⟩) 1 1)) (w.alloc (.cells cs 95))) :
 if Region.wanted o (yielded ops a.tmps)=true then Oper.wp Tryz.prog o a w K Q else E:=by
 have hw:Region.wanted o (yielded ops a.tmps)=true:=by simp[Region.wanted,hgd]
 rw[if_pos hw];obtain ⟨i0,hi,hz0,hz1,hz2⟩:=info_parts2 infoAut;refine wp_buildSlice 53 95 1 _ ho cs i0 _ Tryz.underlying53 hi hz0 (by rw[hz1];decide) (by rw[hz1];decide) ?_ h;have e:((#[(0,x)]:Array (Nat × Operand)).map fun (y:Nat × Operand)=>(y.1,a.eval y.2)).toList=(([Value.agg cs]:List Value).zipIdx 0).map fun y=>(y.2,y.1):=by
  simp[hx]
 have e2:=Great.fill_whole (s:=259) (by omega) [Value.agg cs] ((Array.range (1*259)).map ((Value.agg Tryz.zeroCells95).cells[· % (Value.agg Tryz.zeroCells95).cells.size]!)) (by intro v hv;simp at hv;subst hv;exact hs) (by simp);rw[hz1];refine Eq.trans (congrArg _ e) (e2.trans ?_);simp[Value.cells]
theorem RW.str{A:List Nat}{w:World}{v:Value}{L:List (List UInt8)}(h:RW A 1 w v (sc L)):∃ a cap,v=.slice a L.length cap∧∀ (j:Nat) (hj:j<L.length),∃ g off,a=some ⟨g,off,none⟩∧g<w.heap.size∧w.cell? ⟨g,off+j,none⟩=some (.string (bs L[j])):=by
 obtain ⟨a,cap,rfl,h1,h2⟩:=h;refine ⟨a,cap,by rw[sc_len],fun j hj=>?_⟩;obtain ⟨g,off,e,_,h4,h5⟩:=h2 j (by rw[sc_len];exact hj);refine ⟨g,off,e,h4,?_⟩;have:=h5 0 (.string (bs L[j])) (by simp[sc])
 rwa [Nat.mul_one,Nat.add_zero]at this
def hcell(x:HitM)(vb:Value):Array Value:=#[.string (bs x.rc),vb, .int .i64 (x.wt:Nat), .int .i64 (x.ev:Nat), .int .i64 (x.rp:Nat)]
def hitI:Inn HitM where
 rel A w cs x:=∃ vb,cs=hcell x vb∧RW A 1 w vb (sc x.bl)
 frm:=by
  rintro A S w w' cs x ⟨vb,h1,h2⟩ f hS;exact ⟨vb,h1,h2.frm f hS⟩
 avoid:=by
  rintro A B w cs x ⟨vb,h1,h2⟩ hB;exact ⟨vb,h1,h2.avoid hB⟩
abbrev hz:Array Value:=#[.string ByteArray.empty, .slice none 0 0, .int .i64 0, .int .i64 0, .int .i64 0]
theorem hitSize:(Tryz.prog.info? 99).map (·.size)=some 5:=by kernel_rfl
theorem set5_row{w:World}{g:Nat}{t:TypeId}{o0 o1 o2 o3 o4:Value}(v0 v1 v2 v3 v4:Value)(h:w.heap[g]?=some (.cells #[o0,o1,o2,o3,o4] t (0,0))):(((((w.setCell ⟨g,0,none⟩ v0).setCell ⟨g,1,none⟩ v1).setCell ⟨g,2,none⟩ v2).setCell ⟨g,3,none⟩ v3).setCell ⟨g,4,none⟩ v4).heap[g]?=some (.cells #[v0,v1,v2,v3,v4] t (0,0)):=by
 simp[World.setCell,Array.getElem?_modify,h]
theorem set5_frm(w:World)(g:Nat)(v0 v1 v2 v3 v4:Value):Frm [g] w (((((w.setCell ⟨g,0,none⟩ v0).setCell ⟨g,1,none⟩ v1).setCell ⟨g,2,none⟩ v2).setCell ⟨g,3,none⟩ v3).setCell ⟨g,4,none⟩ v4) :=
 (((((Frm.refl [g] w).setCell (p:=⟨g,0,none⟩) (.inl (by simp)) v0).setCell (p:=⟨g,1,none⟩) (.inl (by simp)) v1).setCell (p:=⟨g,2,none⟩) (.inl (by simp)) v2).setCell (p:=⟨g,3,none⟩) (.inl (by simp)) v3).setCell (p:=⟨g,4,none⟩) (.inl (by simp)) v4
theorem loadHit{w:World}{g:Nat}{cs:Array Value}(h:w.heap[g]?=some (.cells cs 99 (0,0)))(hs:cs.size=5):(loadVar 99 ⟨g,0,none⟩).run Tryz.prog w=.ok (.agg cs) w :=
 run_loadVar_row w g 99 99 cs (0,0) _ h Tryz.underlying99 rfl (by rw[hs];exact hitSize)
theorem infoHit:(Tryz.prog.info? 99).map (fun i=>(i.zero,i.size,i.bytes))=some (some (.agg hz),5,64):=by kernel_rfl
theorem hcell_one(x:HitM)(a:Option Addr)(n c:Nat):(hcell x (.slice a n c)).all (·.oneCell')=true:=by simp[hcell,Value.oneCell']
def icell(x:InM):Array Value:=#[.int .i64 (x.op:Nat), .int .i64 (x.x:Nat), .int .i64 (x.a:Nat), .int .i64 (x.b:Nat)]
theorem icell_one(x:InM):(icell x).all (·.oneCell')=true:=by simp[icell,Value.oneCell']
def icl(L:List InM):List (List Value):=L.map fun x=>(icell x).toList
theorem icl_len(L:List InM):(icl L).length=L.length:=by simp[icl]
theorem icl_snoc(L:List InM)(x:InM):icl L++[(icell x).toList]=icl (L++[x]):=by simp[icl]
theorem insSize:(Tryz.prog.info? 102).map (·.size)=some 4:=by kernel_rfl
theorem infoIns:(Tryz.prog.info? 102).map (fun i=>(i.zero,i.size,i.bytes))=some (some (.agg #[.int .i64 0, .int .i64 0, .int .i64 0, .int .i64 0]),4,32):=by kernel_rfl
theorem set4_row{w:World}{g:Nat}{t:TypeId}{o0 o1 o2 o3:Value}(v0 v1 v2 v3:Value)(h:w.heap[g]?=some (.cells #[o0,o1,o2,o3] t (0,0))):((((w.setCell ⟨g,0,none⟩ v0).setCell ⟨g,1,none⟩ v1).setCell ⟨g,2,none⟩ v2).setCell ⟨g,3,none⟩ v3).heap[g]?=some (.cells #[v0,v1,v2,v3] t (0,0)):=by
 simp[World.setCell,Array.getElem?_modify,h]
theorem set4_frm(w:World)(g:Nat)(v0 v1 v2 v3:Value):Frm [g] w ((((w.setCell ⟨g,0,none⟩ v0).setCell ⟨g,1,none⟩ v1).setCell ⟨g,2,none⟩ v2).setCell ⟨g,3,none⟩ v3) :=
 ((((Frm.refl [g] w).setCell (p:=⟨g,0,none⟩) (.inl (by simp)) v0).setCell (p:=⟨g,1,none⟩) (.inl (by simp)) v1).setCell (p:=⟨g,2,none⟩) (.inl (by simp)) v2).setCell (p:=⟨g,3,none⟩) (.inl (by simp)) v3
theorem loadIns{w:World}{g:Nat}{cs:Array Value}(h:w.heap[g]?=some (.cells cs 102 (0,0)))(hs:cs.size=4):(loadVar 102 ⟨g,0,none⟩).run Tryz.prog w=.ok (.agg cs) w :=
 run_loadVar_row w g 102 102 cs (0,0) _ h Tryz.underlying102 rfl (by rw[hs];exact insSize)
structure PG(A:List Nat)(w:World)(V:V6)(m:Mach):Prop where
 n:RW A 1 w V.n (sc m.names)
 c:RW A 1 w V.c (sc m.consts)
 a:∃ css,RW A 259 w V.a (lst css)∧RowI autI A w css m.autos
 t:RW A 3 w V.t (tc m.tests)
 r:∃ css,RW A 5 w V.r (lst css)∧RowI hitI A w css m.routes
 i:RW A 4 w V.i (icl m.code)
theorem PG.frm{A S:List Nat}{w w':World}{V:V6}{m:Mach}(h:PG A w V m)(f:Frm S w w')(hS:∀ g∈S,g∈A):PG A w' V m:=by
 obtain ⟨css,h1,h2⟩:=h.a;obtain ⟨dss,h3,h4⟩:=h.r;exact ⟨h.n.frm f hS,h.c.frm f hS,⟨css,h1.frm f hS,h2.frm f hS⟩,h.t.frm f hS,⟨dss,h3.frm f hS,h4.frm f hS⟩,h.i.frm f hS⟩
theorem PG.avoid{A B:List Nat}{w:World}{V:V6}{m:Mach}(h:PG A w V m)(hB:∀ g∈B,g∈A∨w.heap.size≤g):PG B w V m:=by
 obtain ⟨css,h1,h2⟩:=h.a;obtain ⟨dss,h3,h4⟩:=h.r;exact ⟨h.n.avoid hB,h.c.avoid hB,⟨css,h1.avoid hB,h2.avoid hB⟩,h.t.avoid hB,⟨dss,h3.avoid hB,h4.avoid hB⟩,h.i.avoid hB⟩
def V6.z:V6:=⟨.slice none 0 0, .slice none 0 0, .slice none 0 0, .slice none 0 0, .slice none 0 0, .slice none 0 0⟩
def V6.cells(V:V6):Array Value:=#[V.n,V.c,V.a,V.t,V.r,V.i]
theorem progSize:(Tryz.prog.info? 58).map (·.size)=some 6:=by kernel_rfl
theorem loadProg{w:World}{g:Nat}{cs:Array Value}(h:w.heap[g]?=some (.cells cs 58 (0,0)))(hs:cs.size=6):(loadVar 58 ⟨g,0,none⟩).run Tryz.prog w=.ok (.agg cs) w :=
 run_loadVar_row w g 58 58 cs (0,0) _ h Tryz.underlying58 rfl (by rw[hs];exact progSize)
theorem set6_row{w:World}{g:Nat}{t:TypeId}{o0 o1 o2 o3 o4 o5:Value}(v0 v1 v2 v3 v4 v5:Value)(h:w.heap[g]?=some (.cells #[o0,o1,o2,o3,o4,o5] t (0,0))):((((((w.setCell ⟨g,0,none⟩ v0).setCell ⟨g,1,none⟩ v1).setCell ⟨g,2,none⟩ v2).setCell ⟨g,3,none⟩ v3).setCell ⟨g,4,none⟩ v4).setCell ⟨g,5,none⟩ v5).heap[g]?=some (.cells #[v0,v1,v2,v3,v4,v5] t (0,0)):=by
 simp[World.setCell,Array.getElem?_modify,h]
theorem set6_frm(w:World)(g:Nat)(v0 v1 v2 v3 v4 v5:Value):Frm [g] w ((((((w.setCell ⟨g,0,none⟩ v0).setCell ⟨g,1,none⟩ v1).setCell ⟨g,2,none⟩ v2).setCell ⟨g,3,none⟩ v3).setCell ⟨g,4,none⟩ v4).setCell ⟨g,5,none⟩ v5) :=
 (((((((Frm.refl [g] w).setCell (p:=⟨g,0,none⟩) (.inl (by simp)) v0).setCell (p:=⟨g,1,none⟩) (.inl (by simp)) v1).setCell (p:=⟨g,2,none⟩) (.inl (by simp)) v2).setCell (p:=⟨g,3,none⟩) (.inl (by simp)) v3).setCell (p:=⟨g,4,none⟩) (.inl (by simp)) v4)).setCell (p:=⟨g,5,none⟩) (.inl (by simp)) v5
theorem RW.shape{A:List Nat}{k:Nat}{w:World}{v:Value}{vs:List (List Value)}(h:RW A k w v vs):∃ a c,v=.slice a vs.length c:=by
 obtain ⟨a,c,e,_⟩:=h;exact ⟨a,c,e⟩
theorem RW.num{A:List Nat}{w:World}{v:Value}{L:List Nat}(h:RW A 1 w v (ic L)):∃ a cap,v=.slice a L.length cap∧∀ (j:Nat) (hj:j<L.length),∃ g off,a=some ⟨g,off,none⟩∧g<w.heap.size∧w.cell? ⟨g,off+j,none⟩=some (.int .i64 (L[j]:Nat)):=by
 obtain ⟨a,cap,rfl,h1,h2⟩:=h;refine ⟨a,cap,by rw[ic_len],fun j hj=>?_⟩;obtain ⟨g,off,e,_,h4,h5⟩:=h2 j (by rw[ic_len];exact hj);refine ⟨g,off,e,h4,?_⟩;have:=h5 0 (.int .i64 (L[j]:Nat)) (by simp[ic])
 rwa [Nat.mul_one,Nat.add_zero]at this
theorem RW.bool{A:List Nat}{w:World}{v:Value}{L:List Nat}(h:RW A 1 w v (bc L)):∃ a cap,v=.slice a L.length cap∧∀ (j:Nat) (hj:j<L.length),∃ g off,a=some ⟨g,off,none⟩∧g<w.heap.size∧w.cell? ⟨g,off+j,none⟩=some (.bool (L[j]==1)):=by
 obtain ⟨a,cap,rfl,h1,h2⟩:=h;refine ⟨a,cap,by rw[bc_len],fun j hj=>?_⟩;obtain ⟨g,off,e,_,h4,h5⟩:=h2 j (by rw[bc_len];exact hj);refine ⟨g,off,e,h4,?_⟩;have:=h5 0 (.bool (L[j]==1)) (by simp[bc])
 rwa [Nat.mul_one,Nat.add_zero]at this
theorem row_at{α:Type}{I:Inn α}{A:List Nat}{k:Nat}{w:World}{v:Value}{css:List (Array Value)}{xs:List α}(h:RW A k w v (lst css))(hi:RowI I A w css xs) :
 ∃ a cap,v=.slice a xs.length cap∧∀ (j:Nat) (hj:j<xs.length),∃ g off cs,a=some ⟨g,off,none⟩∧g<w.heap.size∧g∉A∧I.rel A w cs xs[j]∧∀ c x,cs[c]?=some x→w.cell? ⟨g,off+j*k+c,none⟩=some x:=by
 obtain ⟨a,cap,rfl,h1,h2⟩:=h;refine ⟨a,cap,by rw[lst_len,hi.1],fun j hj=>?_⟩;have hjc:j<css.length:=by rw[hi.1];exact hj
 obtain ⟨g,off,e,h3,h4,h5⟩:=h2 j (by rw[lst_len];exact hjc);refine ⟨g,off,css[j],e,h4,h3,hi.2 j _ _ (List.getElem?_eq_getElem hjc) (List.getElem?_eq_getElem hj),fun c x hx=>h5 c x ?_⟩;simp[lst,hx]
theorem Frm.at{w W:World}{p:Addr}{v:Value}(f:Frm [] w W)(hp:p.block<w.heap.size)(h:w.cell? p=some v):W.cell? p=some v:=(f.cell hp (by simp)).trans h
def hitT:Inn HitM where
 rel A w cs x:=∃ g,cs=hcell x (.slice (some ⟨g,0,none⟩) x.bl.length x.bl.length)∧RW A 1 w (.slice (some ⟨g,0,none⟩) x.bl.length x.bl.length) (sc x.bl)
 frm:=by
  rintro A S w w' cs x ⟨g,h1,h2⟩ f hS;exact ⟨g,h1,h2.frm f hS⟩
 avoid:=by
  rintro A B w cs x ⟨g,h1,h2⟩ hB;exact ⟨g,h1,h2.avoid hB⟩
theorem RW.notin{A B:List Nat}{k:Nat}{w:World}{g n c:Nat}{vs:List (List Value)}(h:RW A k w (.slice (some ⟨g,0,none⟩) n c) vs)(hg:g∉B):RW B k w (.slice (some ⟨g,0,none⟩) n c) vs:=by
 obtain ⟨a,cap,e,h1,h2⟩:=h;refine ⟨a,cap,e,h1,fun j hj=>?_⟩;obtain ⟨g',off,e',h3,h4,h5⟩:=h2 j hj;refine ⟨g',off,e',?_,h4,h5⟩;simp only[Value.slice.injEq]at e;rw[← e.1]at e';simp only[Option.some.injEq,Addr.mk.injEq,and_true]at e';rw[← e'.1];exact hg
theorem heap_b(w:World)(o o':Obj):((w.alloc o).alloc o').heap[w.heap.size+1]?=some o':=by
 have:=heap1 (w.alloc o) o'
 rwa [show (w.alloc o).heap.size=w.heap.size+1 by simp]at this
theorem heap_bd(w:World)(k:Nat)(o o':Obj):(((w.alloc o).drewN k).alloc o').heap[w.heap.size+1]?=some o':=by
 have:=heap1 ((w.alloc o).drewN k) o'
 rwa [show ((w.alloc o).drewN k).heap.size=w.heap.size+1 by simp]at this
theorem OW.far{e:TypeId}{k base b:Nat}{w w':World}{v:Value}{vs:List (List Value)}(h:OW e k base w v vs)(f:Frm [b] w w')(hb:v.ownBlock≠some b):OW e k base w' v vs:=by
 refine ⟨⟨h.1.1,?_⟩,h.2⟩;rcases h.1.2 with hn|⟨g,cap,cur,rfl,hbg,hgg,rest⟩
 ·exact .inl hn
 ·refine .inr ⟨g,cap,cur,rfl,hbg,?_,rest⟩
  rw[f.block g (Array.getElem?_eq_some_iff.1 hgg).1 (fun hm=>by simp at hm;subst hm;exact hb rfl)];exact hgg
theorem results_cell1{fn:Func}{p:Tmp}{ty:TypeId}(h:fn.results=#[.cell p ty])(tmps:Array Value)(w:World)(g:Nat)(cs:Array Value)
 (hp:tmps.getD p undef=.pointer (some ⟨g,0,none⟩)) (hl:(loadVar ty ⟨g,0,none⟩).run Tryz.prog w=.ok (.agg cs) w) :
 (results fn tmps).run Tryz.prog w=.ok (.agg cs) w:=by
 have hp':tmps[p]?.getD undef=.pointer (some ⟨g,0,none⟩):=by simpa using hp
 simp[results,h,hp',asAddr,hl]
structure AUm(w:World)(g q:Nat)(x:AutM)(va vn:Value):Prop where
 lt:g<w.heap.size
 c0:w.cell? ⟨g,q,none⟩=some (.int .i64 (x.k:Nat))
 cc:∀ c,c<256→w.cell? ⟨g,q+1+c,none⟩=some (.int .u8 (x.cl.getD c 0:Nat))
 ca:w.cell? ⟨g,q+257,none⟩=some va
 cn:w.cell? ⟨g,q+258,none⟩=some vn
theorem AUm.frm{w w':World}{g q:Nat}{x:AutM}{va vn:Value}(h:AUm w g q x va vn)(f:Frm [] w w'):AUm w' g q x va vn :=
 ⟨Nat.lt_of_lt_of_le h.lt f.size,(f.cell (p:=⟨g,q,none⟩) h.lt (by simp)).trans h.c0,fun c hc=>(f.cell (p:=⟨g,q+1+c,none⟩) h.lt (by simp)).trans (h.cc c hc),(f.cell (p:=⟨g,q+257,none⟩) h.lt (by simp)).trans h.ca,(f.cell (p:=⟨g,q+258,none⟩) h.lt (by simp)).trans h.cn⟩
structure PR(A:List Nat)(w:World)(pb:Nat)(V:V6)(m:Mach):Prop where
 row:w.heap[pb]?=some (.cells V.cells 62 (0,0))
 pg:PG (pb::A) w V m
 av:pb∉A
theorem PR.frm{A S:List Nat}{w w':World}{pb:Nat}{V:V6}{m:Mach}(h:PR A w pb V m)(f:Frm S w w')(hS:∀ g∈S,g∈A):PR A w' pb V m :=
 ⟨(f.block pb (Array.getElem?_eq_some_iff.1 h.row).1 (fun hm=>h.av (hS _ hm))).trans h.row,h.pg.frm f (fun g hg=>by simp[hS g hg]),h.av⟩
theorem PR.avoid{A B:List Nat}{w:World}{pb:Nat}{V:V6}{m:Mach}(h:PR A w pb V m)(hB:∀ g∈B,g∈A):PR B w pb V m:=⟨h.row,h.pg.avoid (fun g hg=>by left;simp at hg ⊢;rcases hg with h1|h1;exact .inl h1;exact .inr (hB g h1)),fun hm=>h.av (hB _ hm)⟩
theorem Frm.below_trans{S:List Nat}{B:Nat}{w W w':World}(f:Frm S w W)(b:Below B W w')(hB:w.heap.size≤B):Frm S w w' :=
 ⟨b.os.trans f.os,b.tape.trans f.tape,b.output.trans f.output,Nat.le_trans f.size b.size,fun k hk hS=>(b.block k (by omega)).trans (f.block k hk hS)⟩
theorem infoStr1:(Tryz.prog.info? 9).map (·.size)=some 1:=by kernel_rfl
end Go.Proofs.YtpcbbbilmpobaaaGreatDoor
