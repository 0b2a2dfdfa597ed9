import Derived.Test.YtimjjlgpbkljoaaGreatB0
namespace Go.Proofs.YtimjjlgpbkljoaaGreat
open Go.RowKit
set_option linter.unusedVariables false
set_option linter.unusedSimpArgs false
set_option linter.unnecessarySimpa false

def nv (k : IntKind) (L : List Nat) : List Value := L.map fun (n : Nat) => .int k n

theorem infoInt : (Tryz.prog.info? 3).map (fun i => (i.zero, i.size, i.bytes)) = some (some (.int .i64 0), 1, 8) := by kernel_rfl

theorem heap1 (w : World) (a : Obj) : (w.alloc a).heap[w.heap.size]? = some a := heap_alloc_new w a

/-- An automaton in memory. -/
def AB (w : World) (ab : Nat) (n : Int) (cl : List Nat) (va vn : Value) : Prop :=
  w.heap[ab]? = some (.cells (.int .i64 n :: (nv .u8 cl ++ [va, vn])).toArray 105 (0, 0)) ∧ cl.length = 256

theorem AB.lt {w : World} {ab : Nat} {n : Int} {cl : List Nat} {va vn : Value} (h : AB w ab n cl va vn) : ab < w.heap.size := (Array.getElem?_eq_some_iff.1 h.1).1

theorem AB.fz {w : World} {ab : Nat} {n : Int} {cl : List Nat} {va vn : Value} (h : AB w ab n cl va vn) (o : Nat) : w.frozen? ⟨ab, o, none⟩ = false := by simp [World.frozen?, h.1]

theorem AB.frm {S : List Nat} {w w' : World} {ab : Nat} {n : Int} {cl : List Nat} {va vn : Value} (h : AB w ab n cl va vn) (f : Frm S w w') (hS : ab ∉ S) : AB w' ab n cl va vn := ⟨(f.block ab h.lt hS).trans h.1, h.2⟩

theorem AB.c0 {w : World} {ab : Nat} {n : Int} {cl : List Nat} {va vn : Value} (h : AB w ab n cl va vn) : w.cell? ⟨ab, 0, none⟩ = some (.int .i64 n) := by
  simp [World.cell?, h.1]

theorem AB.cell {w : World} {ab : Nat} {n : Int} {cl : List Nat} {va vn : Value} (h : AB w ab n cl va vn) (c : Nat) (hc : c < 256) : w.cell? ⟨ab, 1 + c, none⟩ = some (.int .u8 (cl.getD c 0)) := by
  have hl : c < cl.length := by rw [h.2]; exact hc
  have e : (.int .i64 n :: (nv .u8 cl ++ [va, vn]))[1 + c]? = some (.int .u8 (cl.getD c 0)) := by
    rw [Nat.add_comm, List.getElem?_cons_succ, List.getElem?_append_left (by simp [nv]; exact hl)]
    simp [nv, hl]
  simp [World.cell?, h.1]
  simpa using e

theorem AB.set {w : World} {ab : Nat} {n : Int} {cl : List Nat} {va vn : Value} (h : AB w ab n cl va vn) (c m : Nat) (hc : c < 256) : AB (w.setCell ⟨ab, 1 + c, none⟩ (.int .u8 m)) ab n (cl.set c m) va vn := by
  refine ⟨?_, by rw [List.length_set]; exact h.2⟩
  have hl : c < cl.length := by rw [h.2]; exact hc
  have e : (.int .i64 n :: (nv .u8 cl ++ [va, vn])).set (1 + c) (.int .u8 m) = .int .i64 n :: (nv .u8 (cl.set c m) ++ [va, vn]) := by
    rw [Nat.add_comm, List.set_cons_succ, List.set_append_left _ _ (by simp [nv]; exact hl)]
    simp [nv, List.map_set]
  have h1 := h.1
  simp only [World.setCell, Array.getElem?_modify, h1, if_true, Option.map_some]
  rw [← e]
  simp

theorem AB.set0 {w : World} {ab : Nat} {n : Int} {cl : List Nat} {va vn : Value} (h : AB w ab n cl va vn) (m : Int) : AB (w.setCell ⟨ab, 0, none⟩ (.int .i64 m)) ab m cl va vn := by
  refine ⟨?_, h.2⟩
  have h1 := h.1
  simp only [World.setCell, Array.getElem?_modify, h1, if_true, Option.map_some]
  simp

theorem AB.setN {w : World} {ab : Nat} {n : Int} {cl : List Nat} {va vn : Value} (h : AB w ab n cl va vn) (v : Value) : AB (w.setCell ⟨ab, 258, none⟩ v) ab n cl va v := by
  refine ⟨?_, h.2⟩
  have e : (.int .i64 n :: (nv .u8 cl ++ [va, vn])).set 258 v = .int .i64 n :: (nv .u8 cl ++ [va, v]) := by
    rw [List.set_cons_succ, List.set_append_right _ _ (by simp [nv, h.2])]
    simp [nv, h.2]
  have h1 := h.1
  simp only [World.setCell, Array.getElem?_modify, h1, if_true, Option.map_some]
  rw [← e]
  simp

theorem AB.setA {w : World} {ab : Nat} {n : Int} {cl : List Nat} {va vn : Value} (h : AB w ab n cl va vn) (v : Value) : AB (w.setCell ⟨ab, 257, none⟩ v) ab n cl v vn := by
  refine ⟨?_, h.2⟩
  have e : (.int .i64 n :: (nv .u8 cl ++ [va, vn])).set 257 v = .int .i64 n :: (nv .u8 cl ++ [v, vn]) := by
    rw [List.set_cons_succ, List.set_append_right _ _ (by simp [nv, h.2])]
    simp [nv, h.2]
  have h1 := h.1
  simp only [World.setCell, Array.getElem?_modify, h1, if_true, Option.map_some]
  rw [← e]
  simp

theorem AB.cN {w : World} {ab : Nat} {n : Int} {cl : List Nat} {va vn : Value} (h : AB w ab n cl va vn) : w.cell? ⟨ab, 257, none⟩ = some va ∧ w.cell? ⟨ab, 258, none⟩ = some vn := by
  have e1 : (.int .i64 n :: (nv .u8 cl ++ [va, vn]))[257]? = some va := by
    rw [List.getElem?_cons_succ, List.getElem?_append_right (by simp [nv, h.2])]; simp [nv, h.2]
  have e2 : (.int .i64 n :: (nv .u8 cl ++ [va, vn]))[258]? = some vn := by
    rw [List.getElem?_cons_succ, List.getElem?_append_right (by simp [nv, h.2])]; simp [nv, h.2]
  simp only [World.cell?, h.1]
  exact ⟨by simpa using e1, by simpa using e2⟩

theorem autoInfoX : (Tryz.prog.info? 105).map (·.size) = some 259 := by kernel_rfl

theorem autoZeroX : Tryz.zeroCells105 = (Value.int .i64 0 :: (nv .u8 (List.replicate 256 0) ++ [.slice none 0 0, .slice none 0 0])).toArray := by kernel_rfl

theorem autoZero9 : Tryz.zeroCells105.size = 259 := by kernel_rfl

theorem autoAll : Tryz.zeroCells105.all (·.oneCell') = true := by kernel_rfl

theorem AB.new (w : World) : AB (w.alloc (Obj.cells Tryz.zeroCells105 105)) w.heap.size 0 (List.replicate 256 0) (.slice none 0 0) (.slice none 0 0) := by
  refine ⟨?_, List.length_replicate⟩
  rw [autoZeroX]
  exact heap1 _ _

theorem results_cell_tmpA {fn : Func} {p u : Tmp} {ty : TypeId} (h : fn.results = #[.cell p ty, .tmp u]) (tmps : Array Value) (w : World) (g : Nat) (cs : Array Value)
    (hp : tmps.getD p undef = .pointer (some ⟨g, 0, none⟩)) (hl : (loadVar ty ⟨g, 0, none⟩).run Tryz.prog w = .ok (.agg cs) w) :
    (results fn tmps).run Tryz.prog w = .ok (.tuple #[.agg cs, tmps.getD u undef]) w := by
  have hp' : tmps[p]?.getD undef = .pointer (some ⟨g, 0, none⟩) := by simpa using hp
  simp [results, h, hp', asAddr, hl]

theorem autoLoad {w : World} {g : Nat} {t : TypeId} {cs : Array Value} {fr : Nat × Nat} (hg : w.heap[g]? = some (.cells cs t fr)) (hs : cs.size = 259) : (loadVar 105 ⟨g, 0, none⟩).run Tryz.prog w = .ok (.agg cs) w :=
  run_loadVar_row w g t 105 cs fr _ hg Tryz.underlying105 rfl (by rw [hs]; exact autoInfoX)

theorem Frm.setRow (w : World) (g : Nat) (cs : Array Value) : Frm [g] w (w.setRow g cs) := by
  refine ⟨rfl, rfl, rfl, by simp [World.setRow], fun k hk hS => ?_⟩
  simp at hS
  simp only [World.setRow, Array.getElem?_modify]
  rw [if_neg (fun e => hS e.symm)]

theorem setRow_at {w : World} {g : Nat} {old cs : Array Value} {t : TypeId} (h : w.heap[g]? = some (.cells old t (0, 0))) : (w.setRow g cs).heap[g]? = some (.cells cs t (0, 0)) := by
  simp only [World.setRow, Array.getElem?_modify, h, if_true, Option.map_some]

theorem store_row {w : World} {g : Nat} {old cs : Array Value} {t : TypeId} (h : w.heap[g]? = some (.cells old t (0, 0))) (hs : cs.size = old.size) (h1 : cs.all (·.oneCell') = true) : (storeCells ⟨g, 0, none⟩ cs.toList).run Tryz.prog w = .ok () (w.setRow g cs) := by
  have := run_storeCells_from (P := Tryz.prog) g t cs.toList 0 old w h (by simp; omega) (fun v hv => (Array.all_eq_true_iff_forall_mem.1 h1) v (by simpa using hv))
  simpa using this

theorem infoBool : (Tryz.prog.info? 4).map (fun i => (i.zero, i.size, i.bytes)) = some (some (.bool false), 1, 1) := by kernel_rfl

theorem autoLoads {w : World} {g : Nat} {t : TypeId} {cs : Array Value} {fr : Nat × Nat} (hg : w.heap[g]? = some (.cells cs t fr)) (hs : cs.size = 259) : (loadCellsFrom ⟨g, 0, none⟩ 0 259 #[]).run Tryz.prog w = .ok cs w := by
  have := run_loadCells_list (P := Tryz.prog) w ⟨g, 0, none⟩ cs.toList (fun j v hv => by
    rw [add0, cell_of_row w g j cs t fr hg]
    simpa using hv)
  rw [Array.length_toList, hs] at this
  simpa [loadCells] using this

theorem autoLoadAt {w : World} {g : Nat} {t : TypeId} {cs : Array Value} {fr : Nat × Nat} (hg : w.heap[g]? = some (.cells cs t fr)) (hs : cs.size = 259) : (Instr.loadAt 105 (.pointer (some ⟨g, 0, none⟩))).run Tryz.prog w = .ok (.agg cs) w := by
  simp only [Instr.loadAt, Instr.sureAddr, Sem.run_bind, Sem.run_pure, Result.andThen_ok, autoLoad hg hs]

theorem autoStoreAt {w : World} {g : Nat} {t : TypeId} {cs : Array Value} (hg : w.heap[g]? = some (.cells Tryz.zeroCells105 t (0, 0))) (hs : cs.size = 259) (h1 : cs.all (·.oneCell') = true) : (Instr.storeAt 105 (.pointer (some ⟨g, 0, none⟩)) (.agg cs)).run Tryz.prog w = .ok () (w.setRow g cs) := by
  simp only [Instr.storeAt, Instr.sureAddr, Sem.run_bind, Sem.run_pure, Result.andThen_ok, run_storeVar_row w g t 105 Tryz.zeroCells105 cs hg (by rw [hs]; exact autoInfoX) (by rw [hs, autoZero9]) h1]

theorem wp_autoLoad {o : Oper} {a : Act} {w : World} {K : Act → World → Prop} {Q : Exit → Act → World → Prop} (x : Operand) (ho : o.op = .load 105 x) (g : Nat) (hx : a.eval x = .pointer (some ⟨g, 0, none⟩)) (cs : Array Value) (hl : (loadVar 105 ⟨g, 0, none⟩).run Tryz.prog w = .ok (.agg cs) w) (h : K (a.put o.dst (.agg cs)) w) : o.wp Tryz.prog a w K Q := by
  unfold Oper.wp execOp
  simp only [ho, hx, Instr.loadAt, Instr.sureAddr, Sem.run_bind, Sem.run_pure, Result.andThen_ok, hl]
  exact h

end Go.Proofs.YtimjjlgpbkljoaaGreat
