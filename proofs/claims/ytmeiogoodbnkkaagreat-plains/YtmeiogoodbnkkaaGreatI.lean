/- The table of what each order does, and what catches a trap. -/
import Derived.Test.YtmeiogoodbnkkaaGreatH
import Derived.Laws.EntriesVeiled
import Derived.Laws.Tables
import Derived.Laws.Rows
import Derived.Defers
import Derived.Recover
namespace Go.Proofs.YtmeiogoodbnkkaaGreat
open Go.RowKit

abbrev tableVal : Value := .agg #[.func (.func 88) #[] #[], .int .i64 (-1), .bool false, .bool false, .bool false, .func (.func 89) #[] #[], .int .i64 0, .bool false, .bool false, .bool true, .func (.func 90) #[] #[], .int .i64 0, .bool true, .bool true, .bool true, .func (.func 91) #[] #[], .int .i64 0, .bool true, .bool true, .bool true, .func (.func 92) #[] #[], .int .i64 1, .bool true, .bool true, .bool true, .func (.func 93) #[] #[], .int .i64 2, .bool true, .bool true, .bool true, .func (.func 94) #[] #[], .int .i64 3, .bool true, .bool false, .bool true, .func (.func 95) #[] #[], .int .i64 3, .bool true, .bool true, .bool false, .func (.func 96) #[] #[], .int .i64 (-1), .bool true, .bool false, .bool false]

theorem Tryz.sizeTable : (Tryz.prog.info? 128).map (·.size) = some 45 := by kernel_rfl
abbrev tableCells : Array Value := #[.func (.func 88) #[] #[], .int .i64 (-1), .bool false, .bool false, .bool false, .func (.func 89) #[] #[], .int .i64 0, .bool false, .bool false, .bool true, .func (.func 90) #[] #[], .int .i64 0, .bool true, .bool true, .bool true, .func (.func 91) #[] #[], .int .i64 0, .bool true, .bool true, .bool true, .func (.func 92) #[] #[], .int .i64 1, .bool true, .bool true, .bool true, .func (.func 93) #[] #[], .int .i64 2, .bool true, .bool true, .bool true, .func (.func 94) #[] #[], .int .i64 3, .bool true, .bool false, .bool true, .func (.func 95) #[] #[], .int .i64 3, .bool true, .bool true, .bool false, .func (.func 96) #[] #[], .int .i64 (-1), .bool true, .bool false, .bool false]

theorem wpList_built {P : Program} {ops : Array Oper} {rest : List Oper} {o : Oper} {a : Act} {w : World} {Q : Exit → Act → World → Prop} (hg : o.guard = none) (t : TypeId) (parts : Array (Nat × Operand)) (ho : o.op = .build t parts) (l : List (Nat × Value)) (cells : Array Value)
    (hl : (parts.map fun (i, x) => (i, a.eval x)).toList = l) (hf : P.built t l = some cells) (h : wpList P ops Q rest (a.put o.dst (.agg cells)) w) : wpList P ops Q (o :: rest) a w :=
  wpList_build hg t parts ho (by rw [hl, hf]; rfl) (by rw [hl, hf]; exact h)

theorem bRow_halt : Tryz.prog.built 127 [(0, .func (.func 88) #[] #[]), (1, .int .i64 (-1))] = some #[.func (.func 88) #[] #[], .int .i64 (-1), .bool false, .bool false, .bool false] := by kernel_rfl
theorem bRow_set : Tryz.prog.built 127 [(0, .func (.func 89) #[] #[]), (1, .int .i64 0), (4, .bool true)] = some #[.func (.func 89) #[] #[], .int .i64 0, .bool false, .bool false, .bool true] := by kernel_rfl
theorem bRow_add : Tryz.prog.built 127 [(0, .func (.func 90) #[] #[]), (1, .int .i64 0), (2, .bool true), (3, .bool true), (4, .bool true)] = some #[.func (.func 90) #[] #[], .int .i64 0, .bool true, .bool true, .bool true] := by kernel_rfl
theorem bRow_sub : Tryz.prog.built 127 [(0, .func (.func 91) #[] #[]), (1, .int .i64 0), (2, .bool true), (3, .bool true), (4, .bool true)] = some #[.func (.func 91) #[] #[], .int .i64 0, .bool true, .bool true, .bool true] := by kernel_rfl
theorem bRow_mul : Tryz.prog.built 127 [(0, .func (.func 92) #[] #[]), (1, .int .i64 1), (2, .bool true), (3, .bool true), (4, .bool true)] = some #[.func (.func 92) #[] #[], .int .i64 1, .bool true, .bool true, .bool true] := by kernel_rfl
theorem bRow_div : Tryz.prog.built 127 [(0, .func (.func 93) #[] #[]), (1, .int .i64 2), (2, .bool true), (3, .bool true), (4, .bool true)] = some #[.func (.func 93) #[] #[], .int .i64 2, .bool true, .bool true, .bool true] := by kernel_rfl
theorem bRow_load : Tryz.prog.built 127 [(0, .func (.func 94) #[] #[]), (1, .int .i64 3), (2, .bool true), (4, .bool true)] = some #[.func (.func 94) #[] #[], .int .i64 3, .bool true, .bool false, .bool true] := by kernel_rfl
theorem bRow_store : Tryz.prog.built 127 [(0, .func (.func 95) #[] #[]), (1, .int .i64 3), (2, .bool true), (3, .bool true)] = some #[.func (.func 95) #[] #[], .int .i64 3, .bool true, .bool true, .bool false] := by kernel_rfl
theorem bRow_jump : Tryz.prog.built 127 [(0, .func (.func 96) #[] #[]), (1, .int .i64 (-1)), (2, .bool true)] = some #[.func (.func 96) #[] #[], .int .i64 (-1), .bool true, .bool false, .bool false] := by kernel_rfl
theorem bTable : Tryz.prog.built 128 [(0, .agg #[.func (.func 88) #[] #[], .int .i64 (-1), .bool false, .bool false, .bool false]), (1, .agg #[.func (.func 89) #[] #[], .int .i64 0, .bool false, .bool false, .bool true]), (2, .agg #[.func (.func 90) #[] #[], .int .i64 0, .bool true, .bool true, .bool true]), (3, .agg #[.func (.func 91) #[] #[], .int .i64 0, .bool true, .bool true, .bool true]), (4, .agg #[.func (.func 92) #[] #[], .int .i64 1, .bool true, .bool true, .bool true]), (5, .agg #[.func (.func 93) #[] #[], .int .i64 2, .bool true, .bool true, .bool true]), (6, .agg #[.func (.func 94) #[] #[], .int .i64 3, .bool true, .bool false, .bool true]), (7, .agg #[.func (.func 95) #[] #[], .int .i64 3, .bool true, .bool true, .bool false]), (8, .agg #[.func (.func 96) #[] #[], .int .i64 (-1), .bool true, .bool false, .bool false])] = some tableCells := by kernel_rfl

set_option maxRecDepth 100000 in
set_option maxHeartbeats 4000000 in
theorem table_any (w : World) : Calls Tryz.prog 78 #[] w fun e w' => e = .returned tableVal ∧ Below w.heap.size w w' := by
  go_enter Tryz.func78, Tryz.ntmps78
  go_wp2_with (first | (refine wpList_built rfl 127 #[(0, .func 88), (1, .const (.int .i64 (-1)))] rfl [(0, .func (.func 88) #[] #[]), (1, .int .i64 (-1))] _ (by simp [Act.eval]) bRow_halt ?_) | (refine wpList_built rfl 127 #[(0, .func 89), (1, .const (.int .i64 0)), (4, .const (.bool true))] rfl [(0, .func (.func 89) #[] #[]), (1, .int .i64 0), (4, .bool true)] _ (by simp [Act.eval]) bRow_set ?_) | (refine wpList_built rfl 127 #[(0, .func 90), (1, .const (.int .i64 0)), (2, .const (.bool true)), (3, .const (.bool true)), (4, .const (.bool true))] rfl [(0, .func (.func 90) #[] #[]), (1, .int .i64 0), (2, .bool true), (3, .bool true), (4, .bool true)] _ (by simp [Act.eval]) bRow_add ?_) | (refine wpList_built rfl 127 #[(0, .func 91), (1, .const (.int .i64 0)), (2, .const (.bool true)), (3, .const (.bool true)), (4, .const (.bool true))] rfl [(0, .func (.func 91) #[] #[]), (1, .int .i64 0), (2, .bool true), (3, .bool true), (4, .bool true)] _ (by simp [Act.eval]) bRow_sub ?_) | (refine wpList_built rfl 127 #[(0, .func 92), (1, .const (.int .i64 1)), (2, .const (.bool true)), (3, .const (.bool true)), (4, .const (.bool true))] rfl [(0, .func (.func 92) #[] #[]), (1, .int .i64 1), (2, .bool true), (3, .bool true), (4, .bool true)] _ (by simp [Act.eval]) bRow_mul ?_) | (refine wpList_built rfl 127 #[(0, .func 93), (1, .const (.int .i64 2)), (2, .const (.bool true)), (3, .const (.bool true)), (4, .const (.bool true))] rfl [(0, .func (.func 93) #[] #[]), (1, .int .i64 2), (2, .bool true), (3, .bool true), (4, .bool true)] _ (by simp [Act.eval]) bRow_div ?_) | (refine wpList_built rfl 127 #[(0, .func 94), (1, .const (.int .i64 3)), (2, .const (.bool true)), (4, .const (.bool true))] rfl [(0, .func (.func 94) #[] #[]), (1, .int .i64 3), (2, .bool true), (4, .bool true)] _ (by simp [Act.eval]) bRow_load ?_) | (refine wpList_built rfl 127 #[(0, .func 95), (1, .const (.int .i64 3)), (2, .const (.bool true)), (3, .const (.bool true))] rfl [(0, .func (.func 95) #[] #[]), (1, .int .i64 3), (2, .bool true), (3, .bool true)] _ (by simp [Act.eval]) bRow_store ?_) | (refine wpList_built rfl 127 #[(0, .func 96), (1, .const (.int .i64 (-1))), (2, .const (.bool true))] rfl [(0, .func (.func 96) #[] #[]), (1, .int .i64 (-1)), (2, .bool true)] _ (by simp [Act.eval]) bRow_jump ?_) | (refine wpList_built rfl 128 #[(0, .tmp 1), (1, .tmp 2), (2, .tmp 3), (3, .tmp 4), (4, .tmp 5), (5, .tmp 6), (6, .tmp 7), (7, .tmp 8), (8, .tmp 9)] rfl [(0, .agg #[.func (.func 88) #[] #[], .int .i64 (-1), .bool false, .bool false, .bool false]), (1, .agg #[.func (.func 89) #[] #[], .int .i64 0, .bool false, .bool false, .bool true]), (2, .agg #[.func (.func 90) #[] #[], .int .i64 0, .bool true, .bool true, .bool true]), (3, .agg #[.func (.func 91) #[] #[], .int .i64 0, .bool true, .bool true, .bool true]), (4, .agg #[.func (.func 92) #[] #[], .int .i64 1, .bool true, .bool true, .bool true]), (5, .agg #[.func (.func 93) #[] #[], .int .i64 2, .bool true, .bool true, .bool true]), (6, .agg #[.func (.func 94) #[] #[], .int .i64 3, .bool true, .bool false, .bool true]), (7, .agg #[.func (.func 95) #[] #[], .int .i64 3, .bool true, .bool true, .bool false]), (8, .agg #[.func (.func 96) #[] #[], .int .i64 (-1), .bool true, .bool false, .bool false])] _ (by simp [Act.eval, Act.put]) bTable ?_) | (refine wpList_store_row rfl 128 (.tmp 0) (.tmp 10) rfl w.heap.size tableCells (by simp [Act.eval, Act.put]) (by simp [Act.eval, Act.put]) 128 _ (heap_alloc_new _ _) Tryz.sizeTable (by simp) (by simp [Value.oneCell']) ?_) | fail)
  refine bodyPost_ret (v := tableVal) (results_cell_row (h := Tryz.results78) _ _ w.heap.size 128 tableCells (0, 0) _ (by simp [Act.put]) (setRow_heap _ _ _ _ _ _ (heap_alloc_new _ _)) Tryz.underlying128 rfl Tryz.sizeTable) rfl ⟨rfl, ?_⟩
  exact ((Below.refl _ _).alloc (Nat.le_refl _) _).grown (row := some w.heap.size) ⟨rfl, rfl, rfl, by simp [World.setRow], fun k _ hk => setRow_other _ _ k _ (fun e => hk (by rw [e]))⟩ (by simp) (fun k e => by cases e; exact Nat.le_refl _)

set_option maxHeartbeats 1000000 in
theorem catch_idle (p : Addr) (w : World) :
    CallsD Tryz.prog 77 #[.pointer (some p)] .returning w fun e u' w' => e = .returned (.tuple #[]) ∧ u' = .returning ∧ w' = w := by
  refine callsD_of_wpS Tryz.func77 rfl fun c₀ cs hu => ?_
  apply wpS_seq
  apply wpS_region
  simp [wpOpsS, go_sem, recoverD, hu, Tryz.ntmps77, Exit.thenS]
  refine wpS_of_wp ?_
  go_wp2
  cases c₀
  simp_all [bodyPostS, results, Tryz.results77]

theorem run_typeAssert_trap (t : Int) (w : World) : (Instr.typeAssert (.iface 124 (.int .i64 t)) 20 124 true).run Tryz.prog w = .ok (.tuple #[.int .i64 t, .bool true]) w := by
  simp [Instr.typeAssert, run_underlying Tryz.underlying124, go_sem, Result.andThen]

set_option maxRecDepth 100000 in
set_option maxHeartbeats 1000000 in
theorem catch_trap (p : Addr) (x t : Int) (older : List PanicEntry) (w : World) (hc : w.cell? p = some (.int .i64 x)) (hz : w.frozen? p = false) :
    CallsD Tryz.prog 77 #[.pointer (some p)] (.panicking ({ v := .iface 124 (.int .i64 t), recovered := false } :: older)) w fun e u' w' =>
      e = .returned (.tuple #[]) ∧ u' = .panicking ({ v := .iface 124 (.int .i64 t), recovered := true } :: older) ∧ w' = w.setCell p (.int .i64 t) := by
  refine callsD_of_wpS Tryz.func77 rfl fun c₀ cs hu => ?_
  apply wpS_seq
  apply wpS_region
  simp [wpOpsS, go_sem, recoverD, hu, Tryz.ntmps77, Exit.thenS]
  refine wpS_of_wp ?_
  have hta := run_typeAssert_trap t
  change Code.wp _ _ _ ⟨#[.pointer (some p), undef, undef, undef, .iface 124 (.int .i64 t), undef, undef, undef, undef, undef, undef], []⟩ w
  go_wp2
  cases c₀
  simp_all [bodyPostS, results, Tryz.results77]

end Go.Proofs.YtmeiogoodbnkkaaGreat
