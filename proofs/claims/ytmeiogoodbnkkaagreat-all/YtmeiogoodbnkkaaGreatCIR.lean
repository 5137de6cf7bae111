/- Several texts in one: I, J, J1, J2, J3, J4, N, R. -/
import Derived.Test.YtmeiogoodbnkkaaGreatCP1Q
import Derived.Laws.EntriesVeiled
import Derived.Laws.Tables
import Derived.Laws.Rows
import Derived.Defers
import Derived.Recover
import Derived.Test.YtmeiogoodbnkkaaGreatCLPM
/- The table of what each order does, and what catches a trap. -/
namespace Go.Proofs.YtmeiogoodbnkkaaGreat
open Go.RowKit

abbrev tableVal : Value := .agg #[.func (.func 88) #[] #[], .int .i64 (-1), .bool false, .bool false, .bool false, .func (.func 89) #[] #[], .int .i64 0, .bool false, .bool false, .bool true, .func (.func 90) #[] #[], .int .i64 0, .bool true, .bool true, .bool true, .func (.func 91) #[] #[], .int .i64 0, .bool true, .bool true, .bool true, .func (.func 92) #[] #[], .int .i64 1, .bool true, .bool true, .bool true, .func (.func 93) #[] #[], .int .i64 2, .bool true, .bool true, .bool true, .func (.func 94) #[] #[], .int .i64 3, .bool true, .bool false, .bool true, .func (.func 95) #[] #[], .int .i64 3, .bool true, .bool true, .bool false, .func (.func 96) #[] #[], .int .i64 (-1), .bool true, .bool false, .bool false]

theorem Tryz.sizeTable : (Tryz.prog.info? 128).map (·.size) = some 45 := by kernel_rfl
abbrev tableCells : Array Value := #[.func (.func 88) #[] #[], .int .i64 (-1), .bool false, .bool false, .bool false, .func (.func 89) #[] #[], .int .i64 0, .bool false, .bool false, .bool true, .func (.func 90) #[] #[], .int .i64 0, .bool true, .bool true, .bool true, .func (.func 91) #[] #[], .int .i64 0, .bool true, .bool true, .bool true, .func (.func 92) #[] #[], .int .i64 1, .bool true, .bool true, .bool true, .func (.func 93) #[] #[], .int .i64 2, .bool true, .bool true, .bool true, .func (.func 94) #[] #[], .int .i64 3, .bool true, .bool false, .bool true, .func (.func 95) #[] #[], .int .i64 3, .bool true, .bool true, .bool false, .func (.func 96) #[] #[], .int .i64 (-1), .bool true, .bool false, .bool false]

theorem wpList_built {P : Program} {ops : Array Oper} {rest : List Oper} {o : Oper} {a : Act} {w : World} {Q : Exit → Act → World → Prop} (hg : o.guard = none) (t : TypeId) (parts : Array (Nat × Operand)) (ho : o.op = .build t parts) (l : List (Nat × Value)) (cells : Array Value)
    (hl : (parts.map fun (i, x) => (i, a.eval x)).toList = l) (hf : P.built t l = some cells) (h : wpList P ops Q rest (a.put o.dst (.agg cells)) w) : wpList P ops Q (o :: rest) a w :=
  wpList_build hg t parts ho (by rw [hl, hf]; rfl) (by rw [hl, hf]; exact h)

theorem bRow_halt : Tryz.prog.built 127 [(0, .func (.func 88) #[] #[]), (1, .int .i64 (-1))] = some #[.func (.func 88) #[] #[], .int .i64 (-1), .bool false, .bool false, .bool false] := by kernel_rfl
theorem bRow_set : Tryz.prog.built 127 [(0, .func (.func 89) #[] #[]), (1, .int .i64 0), (4, .bool true)] = some #[.func (.func 89) #[] #[], .int .i64 0, .bool false, .bool false, .bool true] := by kernel_rfl
theorem bRow_add : Tryz.prog.built 127 [(0, .func (.func 90) #[] #[]), (1, .int .i64 0), (2, .bool true), (3, .bool true), (4, .bool true)] = some #[.func (.func 90) #[] #[], .int .i64 0, .bool true, .bool true, .bool true] := by kernel_rfl
theorem bRow_sub : Tryz.prog.built 127 [(0, .func (.func 91) #[] #[]), (1, .int .i64 0), (2, .bool true), (3, .bool true), (4, .bool true)] = some #[.func (.func 91) #[] #[], .int .i64 0, .bool true, .bool true, .bool true] := by kernel_rfl
theorem bRow_mul : Tryz.prog.built 127 [(0, .func (.func 92) #[] #[]), (1, .int .i64 1), (2, .bool true), (3, .bool true), (4, .bool true)] = some #[.func (.func 92) #[] #[], .int .i64 1, .bool true, .bool true, .bool true] := by kernel_rfl
theorem bRow_div : Tryz.prog.built 127 [(0, .func (.func 93) #[] #[]), (1, .int .i64 2), (2, .bool true), (3, .bool true), (4, .bool true)] = some #[.func (.func 93) #[] #[], .int .i64 2, .bool true, .bool true, .bool true] := by kernel_rfl
theorem bRow_load : Tryz.prog.built 127 [(0, .func (.func 94) #[] #[]), (1, .int .i64 3), (2, .bool true), (4, .bool true)] = some #[.func (.func 94) #[] #[], .int .i64 3, .bool true, .bool false, .bool true] := by kernel_rfl
theorem bRow_store : Tryz.prog.built 127 [(0, .func (.func 95) #[] #[]), (1, .int .i64 3), (2, .bool true), (3, .bool true)] = some #[.func (.func 95) #[] #[], .int .i64 3, .bool true, .bool true, .bool false] := by kernel_rfl
theorem bRow_jump : Tryz.prog.built 127 [(0, .func (.func 96) #[] #[]), (1, .int .i64 (-1)), (2, .bool true)] = some #[.func (.func 96) #[] #[], .int .i64 (-1), .bool true, .bool false, .bool false] := by kernel_rfl
theorem bTable : Tryz.prog.built 128 [(0, .agg #[.func (.func 88) #[] #[], .int .i64 (-1), .bool false, .bool false, .bool false]), (1, .agg #[.func (.func 89) #[] #[], .int .i64 0, .bool false, .bool false, .bool true]), (2, .agg #[.func (.func 90) #[] #[], .int .i64 0, .bool true, .bool true, .bool true]), (3, .agg #[.func (.func 91) #[] #[], .int .i64 0, .bool true, .bool true, .bool true]), (4, .agg #[.func (.func 92) #[] #[], .int .i64 1, .bool true, .bool true, .bool true]), (5, .agg #[.func (.func 93) #[] #[], .int .i64 2, .bool true, .bool true, .bool true]), (6, .agg #[.func (.func 94) #[] #[], .int .i64 3, .bool true, .bool false, .bool true]), (7, .agg #[.func (.func 95) #[] #[], .int .i64 3, .bool true, .bool true, .bool false]), (8, .agg #[.func (.func 96) #[] #[], .int .i64 (-1), .bool true, .bool false, .bool false])] = some tableCells := by kernel_rfl

set_option maxRecDepth 100000 in
set_option maxHeartbeats 4000000 in
theorem table_any (w : World) : Calls Tryz.prog 78 #[] w fun e w' => e = .returned tableVal ∧ Below w.heap.size w w' := by
  go_enter Tryz.func78, Tryz.ntmps78
  go_wp2_with (first | (refine wpList_built rfl 127 #[(0, .func 88), (1, .const (.int .i64 (-1)))] rfl [(0, .func (.func 88) #[] #[]), (1, .int .i64 (-1))] _ (by simp [Act.eval]) bRow_halt ?_) | (refine wpList_built rfl 127 #[(0, .func 89), (1, .const (.int .i64 0)), (4, .const (.bool true))] rfl [(0, .func (.func 89) #[] #[]), (1, .int .i64 0), (4, .bool true)] _ (by simp [Act.eval]) bRow_set ?_) | (refine wpList_built rfl 127 #[(0, .func 90), (1, .const (.int .i64 0)), (2, .const (.bool true)), (3, .const (.bool true)), (4, .const (.bool true))] rfl [(0, .func (.func 90) #[] #[]), (1, .int .i64 0), (2, .bool true), (3, .bool true), (4, .bool true)] _ (by simp [Act.eval]) bRow_add ?_) | (refine wpList_built rfl 127 #[(0, .func 91), (1, .const (.int .i64 0)), (2, .const (.bool true)), (3, .const (.bool true)), (4, .const (.bool true))] rfl [(0, .func (.func 91) #[] #[]), (1, .int .i64 0), (2, .bool true), (3, .bool true), (4, .bool true)] _ (by simp [Act.eval]) bRow_sub ?_) | (refine wpList_built rfl 127 #[(0, .func 92), (1, .const (.int .i64 1)), (2, .const (.bool true)), (3, .const (.bool true)), (4, .const (.bool true))] rfl [(0, .func (.func 92) #[] #[]), (1, .int .i64 1), (2, .bool true), (3, .bool true), (4, .bool true)] _ (by simp [Act.eval]) bRow_mul ?_) | (refine wpList_built rfl 127 #[(0, .func 93), (1, .const (.int .i64 2)), (2, .const (.bool true)), (3, .const (.bool true)), (4, .const (.bool true))] rfl [(0, .func (.func 93) #[] #[]), (1, .int .i64 2), (2, .bool true), (3, .bool true), (4, .bool true)] _ (by simp [Act.eval]) bRow_div ?_) | (refine wpList_built rfl 127 #[(0, .func 94), (1, .const (.int .i64 3)), (2, .const (.bool true)), (4, .const (.bool true))] rfl [(0, .func (.func 94) #[] #[]), (1, .int .i64 3), (2, .bool true), (4, .bool true)] _ (by simp [Act.eval]) bRow_load ?_) | (refine wpList_built rfl 127 #[(0, .func 95), (1, .const (.int .i64 3)), (2, .const (.bool true)), (3, .const (.bool true))] rfl [(0, .func (.func 95) #[] #[]), (1, .int .i64 3), (2, .bool true), (3, .bool true)] _ (by simp [Act.eval]) bRow_store ?_) | (refine wpList_built rfl 127 #[(0, .func 96), (1, .const (.int .i64 (-1))), (2, .const (.bool true))] rfl [(0, .func (.func 96) #[] #[]), (1, .int .i64 (-1)), (2, .bool true)] _ (by simp [Act.eval]) bRow_jump ?_) | (refine wpList_built rfl 128 #[(0, .tmp 1), (1, .tmp 2), (2, .tmp 3), (3, .tmp 4), (4, .tmp 5), (5, .tmp 6), (6, .tmp 7), (7, .tmp 8), (8, .tmp 9)] rfl [(0, .agg #[.func (.func 88) #[] #[], .int .i64 (-1), .bool false, .bool false, .bool false]), (1, .agg #[.func (.func 89) #[] #[], .int .i64 0, .bool false, .bool false, .bool true]), (2, .agg #[.func (.func 90) #[] #[], .int .i64 0, .bool true, .bool true, .bool true]), (3, .agg #[.func (.func 91) #[] #[], .int .i64 0, .bool true, .bool true, .bool true]), (4, .agg #[.func (.func 92) #[] #[], .int .i64 1, .bool true, .bool true, .bool true]), (5, .agg #[.func (.func 93) #[] #[], .int .i64 2, .bool true, .bool true, .bool true]), (6, .agg #[.func (.func 94) #[] #[], .int .i64 3, .bool true, .bool false, .bool true]), (7, .agg #[.func (.func 95) #[] #[], .int .i64 3, .bool true, .bool true, .bool false]), (8, .agg #[.func (.func 96) #[] #[], .int .i64 (-1), .bool true, .bool false, .bool false])] _ (by simp [Act.eval, Act.put]) bTable ?_) | (refine wpList_store_row rfl 128 (.tmp 0) (.tmp 10) rfl w.heap.size tableCells (by simp [Act.eval, Act.put]) (by simp [Act.eval, Act.put]) 128 _ (heap_alloc_new _ _) Tryz.sizeTable (by simp) (by simp [Value.oneCell']) ?_) | fail)
  refine bodyPost_ret (v := tableVal) (results_cell_row (h := Tryz.results78) _ _ w.heap.size 128 tableCells (0, 0) _ (by simp [Act.put]) (setRow_heap _ _ _ _ _ _ (heap_alloc_new _ _)) Tryz.underlying128 rfl Tryz.sizeTable) rfl ⟨rfl, ?_⟩
  exact ((Below.refl _ _).alloc (Nat.le_refl _) _).grown (row := some w.heap.size) ⟨rfl, rfl, rfl, by simp [World.setRow], fun k _ hk => setRow_other _ _ k _ (fun e => hk (by rw [e]))⟩ (by simp) (fun k e => by cases e; exact Nat.le_refl _)

set_option maxHeartbeats 1000000 in
theorem catch_idle (p : Addr) (w : World) :
    CallsD Tryz.prog 77 #[.pointer (some p)] .returning w fun e u' w' => e = .returned (.tuple #[]) ∧ u' = .returning ∧ w' = w := by
  refine callsD_of_wpS Tryz.func77 rfl fun c₀ cs hu => ?_
  apply wpS_seq
  apply wpS_region
  simp [wpOpsS, go_sem, recoverD, hu, Tryz.ntmps77, Exit.thenS]
  refine wpS_of_wp ?_
  go_wp2
  cases c₀
  simp_all [bodyPostS, results, Tryz.results77]

theorem run_typeAssert_trap (t : Int) (w : World) : (Instr.typeAssert (.iface 124 (.int .i64 t)) 20 124 true).run Tryz.prog w = .ok (.tuple #[.int .i64 t, .bool true]) w := by
  simp [Instr.typeAssert, run_underlying Tryz.underlying124, go_sem, Result.andThen]

set_option maxRecDepth 100000 in
set_option maxHeartbeats 1000000 in
theorem catch_trap (p : Addr) (x t : Int) (older : List PanicEntry) (w : World) (hc : w.cell? p = some (.int .i64 x)) (hz : w.frozen? p = false) :
    CallsD Tryz.prog 77 #[.pointer (some p)] (.panicking ({ v := .iface 124 (.int .i64 t), recovered := false } :: older)) w fun e u' w' =>
      e = .returned (.tuple #[]) ∧ u' = .panicking ({ v := .iface 124 (.int .i64 t), recovered := true } :: older) ∧ w' = w.setCell p (.int .i64 t) := by
  refine callsD_of_wpS Tryz.func77 rfl fun c₀ cs hu => ?_
  apply wpS_seq
  apply wpS_region
  simp [wpOpsS, go_sem, recoverD, hu, Tryz.ntmps77, Exit.thenS]
  refine wpS_of_wp ?_
  have hta := run_typeAssert_trap t
  change Code.wp _ _ _ ⟨#[.pointer (some p), undef, undef, undef, .iface 124 (.int .i64 t), undef, undef, undef, undef, undef, undef], []⟩ w
  go_wp2
  cases c₀
  simp_all [bodyPostS, results, Tryz.results77]

end Go.Proofs.YtmeiogoodbnkkaaGreat

/- The work of an order, its trap caught. -/
namespace Go.Proofs.YtmeiogoodbnkkaaGreat
open Go.RowKit

theorem idx0 (w : World) : (Instr.index 128 tableVal (.int .i64 0)).run Tryz.prog w = .ok (.agg #[.func (.func 88) #[] #[], .int .i64 (-1), .bool false, .bool false, .bool false]) w := by
  simp [Instr.index, tableVal, asIntOf, run_underlying Tryz.underlying128, go_sem, Result.andThen, part]
theorem idx1 (w : World) : (Instr.index 128 tableVal (.int .i64 1)).run Tryz.prog w = .ok (.agg #[.func (.func 89) #[] #[], .int .i64 0, .bool false, .bool false, .bool true]) w := by
  simp [Instr.index, tableVal, asIntOf, run_underlying Tryz.underlying128, go_sem, Result.andThen, part]
theorem idx2 (w : World) : (Instr.index 128 tableVal (.int .i64 2)).run Tryz.prog w = .ok (.agg #[.func (.func 90) #[] #[], .int .i64 0, .bool true, .bool true, .bool true]) w := by
  simp [Instr.index, tableVal, asIntOf, run_underlying Tryz.underlying128, go_sem, Result.andThen, part]
theorem idx3 (w : World) : (Instr.index 128 tableVal (.int .i64 3)).run Tryz.prog w = .ok (.agg #[.func (.func 91) #[] #[], .int .i64 0, .bool true, .bool true, .bool true]) w := by
  simp [Instr.index, tableVal, asIntOf, run_underlying Tryz.underlying128, go_sem, Result.andThen, part]
theorem idx4 (w : World) : (Instr.index 128 tableVal (.int .i64 4)).run Tryz.prog w = .ok (.agg #[.func (.func 92) #[] #[], .int .i64 1, .bool true, .bool true, .bool true]) w := by
  simp [Instr.index, tableVal, asIntOf, run_underlying Tryz.underlying128, go_sem, Result.andThen, part]
theorem idx5 (w : World) : (Instr.index 128 tableVal (.int .i64 5)).run Tryz.prog w = .ok (.agg #[.func (.func 93) #[] #[], .int .i64 2, .bool true, .bool true, .bool true]) w := by
  simp [Instr.index, tableVal, asIntOf, run_underlying Tryz.underlying128, go_sem, Result.andThen, part]
theorem idx6 (w : World) : (Instr.index 128 tableVal (.int .i64 6)).run Tryz.prog w = .ok (.agg #[.func (.func 94) #[] #[], .int .i64 3, .bool true, .bool false, .bool true]) w := by
  simp [Instr.index, tableVal, asIntOf, run_underlying Tryz.underlying128, go_sem, Result.andThen, part]
theorem idx7 (w : World) : (Instr.index 128 tableVal (.int .i64 7)).run Tryz.prog w = .ok (.agg #[.func (.func 95) #[] #[], .int .i64 3, .bool true, .bool true, .bool false]) w := by
  simp [Instr.index, tableVal, asIntOf, run_underlying Tryz.underlying128, go_sem, Result.andThen, part]
theorem idx8 (w : World) : (Instr.index 128 tableVal (.int .i64 8)).run Tryz.prog w = .ok (.agg #[.func (.func 96) #[] #[], .int .i64 (-1), .bool true, .bool false, .bool false]) w := by
  simp [Instr.index, tableVal, asIntOf, run_underlying Tryz.underlying128, go_sem, Result.andThen, part]
theorem fld (f : Nat) (x0 x1 x2 x3 : Value) (w : World) : (Instr.field 127 (.agg #[.func (.func f) #[] #[], x0, x1, x2, x3]) 0).run Tryz.prog w = .ok (.func (.func f) #[] #[]) w := by
  simp [Instr.field, run_underlying Tryz.underlying127, go_sem, Result.andThen, part, asAgg]

set_option maxRecDepth 100000 in
set_option maxHeartbeats 2000000 in
theorem work_set (o : Ord) (n a b : Int) (p : Option Addr) (m c : Nat) (w : World) (hop : o.op = 1) (t pl v : Int)
    (hm : ∀ w', Below w.heap.size w w' → Calls Tryz.prog 89 #[inp o n a b p m c] w' fun e w'' => e = .returned (.agg #[.int .i64 t, .int .i64 pl, .int .i64 v]) ∧ Below w'.heap.size w' w'') :
    Calls Tryz.prog 62 #[inp o n a b p m c] w fun e w' => e = .returned (.tuple #[.agg #[.int .i64 t, .int .i64 pl, .int .i64 v], .int .i64 0]) ∧ Below w.heap.size w w' := by
  obtain ⟨op, d, ra, rb, k⟩ := o
  simp only at hop
  subst hop
  have HM := hide hm
  clear hm
  obtain ⟨W1, hW1⟩ : ∃ W1, W1 = w.alloc (.cells #[.int .i64 1, .int .i64 d, .int .i64 ra, .int .i64 rb, .int .i64 k, .int .i64 n, .int .i64 a, .int .i64 b, .slice p m c] 109) := ⟨_, rfl⟩
  have hbox := box_cells ⟨1, d, ra, rb, k⟩ n a b p m c hW1
  have r0 : ∀ w', Below (w.heap.size + 1) W1 w' → w'.cell? ⟨w.heap.size, 0, none⟩ = some (.int .i64 1) := fun w' h => (hbox w' h).1
  have r1 := fun w' h => (hbox w' h).2.1
  have r2 := fun w' h => (hbox w' h).2.2.1
  have r3 := fun w' h => (hbox w' h).2.2.2.1
  have r4 := fun w' h => (hbox w' h).2.2.2.2.1
  have r5 := fun w' h => (hbox w' h).2.2.2.2.2.1
  have r6 := fun w' h => (hbox w' h).2.2.2.2.2.2.1
  have r7 := fun w' h => (hbox w' h).2.2.2.2.2.2.2.1
  have r8 := fun w' h => (hbox w' h).2.2.2.2.2.2.2.2
  have hstart : ∀ x y, Below (w.heap.size + 1) W1 (((w.alloc (.cells #[.int .i64 1, .int .i64 d, .int .i64 ra, .int .i64 rb, .int .i64 k, .int .i64 n, .int .i64 a, .int .i64 b, .slice p m c] 109)).alloc x).alloc y).drew := fun x y => by
    rw [hW1]; exact (((Below.refl _ _).alloc (by simp) _).alloc (by simp) _).drew
  have hw1 : ∀ w', Below (w.heap.size + 1) W1 w' → Below w.heap.size w w' := fun w' h => by
    rw [hW1] at h; exact ((Below.refl _ _).alloc (Nat.le_refl _) _).trans (h.mono (by omega))
  clear hbox
  simp only at r1 r2 r3 r4
  have HS := hide hstart
  clear hstart
  have HW1 := hide hW1
  clear hW1
  have HB := hide hw1
  clear hw1
  have hmf : ∀ (fn : Fn) (first cap : Array Value) (w : World), (Instr.makeFunc fn first cap).run Tryz.prog w = .ok (.func fn first cap) w := fun _ _ _ _ => rfl
  have hix := idx1
  have hfd := fld
  go_enter_defers Tryz.func62, Tryz.ntmps62
  go_wp2
  go_region_held3 (fun w' => Below (w.heap.size + 1) W1 w') (first | assumption | exact HS.out _ _ | (refine Below.trans (by assumption) (hb2.mono ?_); omega) | (refine Below.trans (by assumption) (hb1.mono ?_); simp <;> omega) | (refine Below.setCell (Below.setCell (Below.setCell (by assumption) ?_ _) ?_ _) ?_ _ <;> simp) | (refine Below.setCell (by assumption) ?_ _ <;> simp)) (first | (go_at_call 78; refine (table_any _).mono ?_; rintro e w1 ⟨rfl, hb1⟩; have hz1 : w.heap.size + 1 + 1 < w1.heap.size := (by have := hb1.size; simp at this; omega); have hz2 : w.heap.size + 1 < w1.heap.size := (by omega)) | (go_at_call 89; refine (HM.out _ (HB.out _ (by assumption))).mono ?_; rintro e w2 ⟨rfl, hb2⟩; obtain ⟨hc1, hf1⟩ := bcell hb1; obtain ⟨hc2, hf2⟩ := bcell hb2))
  go_wp2
  have hbel := HB.out _ (by assumption)
  refine leaves_cons (f := 77) (args := #[.pointer (some ⟨w.heap.size + 1 + 1, 0, none⟩)]) (by simp) (by simp [go_sem]) ?_
  refine (catch_idle ⟨w.heap.size + 1 + 1, 0, none⟩ _).mono ?_
  rintro e u' w'' ⟨rfl, rfl, rfl⟩
  simp [Leaves, settle, results, Tryz.results62, go_sem, hc1, hc2, hz1, hz2]
  exact hbel

end Go.Proofs.YtmeiogoodbnkkaaGreat

/- The work of an order, its trap caught: the sums. -/
namespace Go.Proofs.YtmeiogoodbnkkaaGreat
open Go.RowKit

set_option maxRecDepth 100000 in
set_option maxHeartbeats 2000000 in
theorem work_add (o : Ord) (n a b : Int) (p : Option Addr) (m c : Nat) (w : World) (hop : o.op = 2) (t pl v : Int)
    (hm : ∀ w', Below w.heap.size w w' → Calls Tryz.prog 90 #[inp o n a b p m c] w' fun e w'' => e = .returned (.agg #[.int .i64 t, .int .i64 pl, .int .i64 v]) ∧ Below w'.heap.size w' w'') :
    Calls Tryz.prog 62 #[inp o n a b p m c] w fun e w' => e = .returned (.tuple #[.agg #[.int .i64 t, .int .i64 pl, .int .i64 v], .int .i64 0]) ∧ Below w.heap.size w w' := by
  obtain ⟨op, d, ra, rb, k⟩ := o
  simp only at hop
  subst hop
  have HM := hide hm
  clear hm
  obtain ⟨W1, hW1⟩ : ∃ W1, W1 = w.alloc (.cells #[.int .i64 2, .int .i64 d, .int .i64 ra, .int .i64 rb, .int .i64 k, .int .i64 n, .int .i64 a, .int .i64 b, .slice p m c] 109) := ⟨_, rfl⟩
  have hbox := box_cells ⟨2, d, ra, rb, k⟩ n a b p m c hW1
  have r0 : ∀ w', Below (w.heap.size + 1) W1 w' → w'.cell? ⟨w.heap.size, 0, none⟩ = some (.int .i64 2) := fun w' h => (hbox w' h).1
  have r1 := fun w' h => (hbox w' h).2.1
  have r2 := fun w' h => (hbox w' h).2.2.1
  have r3 := fun w' h => (hbox w' h).2.2.2.1
  have r4 := fun w' h => (hbox w' h).2.2.2.2.1
  have r5 := fun w' h => (hbox w' h).2.2.2.2.2.1
  have r6 := fun w' h => (hbox w' h).2.2.2.2.2.2.1
  have r7 := fun w' h => (hbox w' h).2.2.2.2.2.2.2.1
  have r8 := fun w' h => (hbox w' h).2.2.2.2.2.2.2.2
  have hstart : ∀ x y, Below (w.heap.size + 1) W1 (((w.alloc (.cells #[.int .i64 2, .int .i64 d, .int .i64 ra, .int .i64 rb, .int .i64 k, .int .i64 n, .int .i64 a, .int .i64 b, .slice p m c] 109)).alloc x).alloc y).drew := fun x y => by
    rw [hW1]; exact (((Below.refl _ _).alloc (by simp) _).alloc (by simp) _).drew
  have hw1 : ∀ w', Below (w.heap.size + 1) W1 w' → Below w.heap.size w w' := fun w' h => by
    rw [hW1] at h; exact ((Below.refl _ _).alloc (Nat.le_refl _) _).trans (h.mono (by omega))
  clear hbox
  simp only at r1 r2 r3 r4
  have HS := hide hstart
  clear hstart
  have HW1 := hide hW1
  clear hW1
  have HB := hide hw1
  clear hw1
  have hmf : ∀ (fn : Fn) (first cap : Array Value) (w : World), (Instr.makeFunc fn first cap).run Tryz.prog w = .ok (.func fn first cap) w := fun _ _ _ _ => rfl
  have hix := idx2
  have hfd := fld
  go_enter_defers Tryz.func62, Tryz.ntmps62
  go_wp2
  go_region_held3 (fun w' => Below (w.heap.size + 1) W1 w') (first | assumption | exact HS.out _ _ | (refine Below.trans (by assumption) (hb2.mono ?_); omega) | (refine Below.trans (by assumption) (hb1.mono ?_); simp <;> omega) | (refine Below.setCell (Below.setCell (Below.setCell (by assumption) ?_ _) ?_ _) ?_ _ <;> simp) | (refine Below.setCell (by assumption) ?_ _ <;> simp)) (first | (go_at_call 78; refine (table_any _).mono ?_; rintro e w1 ⟨rfl, hb1⟩; have hz1 : w.heap.size + 1 + 1 < w1.heap.size := (by have := hb1.size; simp at this; omega); have hz2 : w.heap.size + 1 < w1.heap.size := (by omega)) | (go_at_call 90; refine (HM.out _ (HB.out _ (by assumption))).mono ?_; rintro e w2 ⟨rfl, hb2⟩; obtain ⟨hc1, hf1⟩ := bcell hb1; obtain ⟨hc2, hf2⟩ := bcell hb2))
  go_wp2
  have hbel := HB.out _ (by assumption)
  refine leaves_cons (f := 77) (args := #[.pointer (some ⟨w.heap.size + 1 + 1, 0, none⟩)]) (by simp) (by simp [go_sem]) ?_
  refine (catch_idle ⟨w.heap.size + 1 + 1, 0, none⟩ _).mono ?_
  rintro e u' w'' ⟨rfl, rfl, rfl⟩
  simp [Leaves, settle, results, Tryz.results62, go_sem, hc1, hc2, hz1, hz2]
  exact hbel

set_option maxRecDepth 100000 in
set_option maxHeartbeats 2000000 in
theorem work_sub (o : Ord) (n a b : Int) (p : Option Addr) (m c : Nat) (w : World) (hop : o.op = 3) (t pl v : Int)
    (hm : ∀ w', Below w.heap.size w w' → Calls Tryz.prog 91 #[inp o n a b p m c] w' fun e w'' => e = .returned (.agg #[.int .i64 t, .int .i64 pl, .int .i64 v]) ∧ Below w'.heap.size w' w'') :
    Calls Tryz.prog 62 #[inp o n a b p m c] w fun e w' => e = .returned (.tuple #[.agg #[.int .i64 t, .int .i64 pl, .int .i64 v], .int .i64 0]) ∧ Below w.heap.size w w' := by
  obtain ⟨op, d, ra, rb, k⟩ := o
  simp only at hop
  subst hop
  have HM := hide hm
  clear hm
  obtain ⟨W1, hW1⟩ : ∃ W1, W1 = w.alloc (.cells #[.int .i64 3, .int .i64 d, .int .i64 ra, .int .i64 rb, .int .i64 k, .int .i64 n, .int .i64 a, .int .i64 b, .slice p m c] 109) := ⟨_, rfl⟩
  have hbox := box_cells ⟨3, d, ra, rb, k⟩ n a b p m c hW1
  have r0 : ∀ w', Below (w.heap.size + 1) W1 w' → w'.cell? ⟨w.heap.size, 0, none⟩ = some (.int .i64 3) := fun w' h => (hbox w' h).1
  have r1 := fun w' h => (hbox w' h).2.1
  have r2 := fun w' h => (hbox w' h).2.2.1
  have r3 := fun w' h => (hbox w' h).2.2.2.1
  have r4 := fun w' h => (hbox w' h).2.2.2.2.1
  have r5 := fun w' h => (hbox w' h).2.2.2.2.2.1
  have r6 := fun w' h => (hbox w' h).2.2.2.2.2.2.1
  have r7 := fun w' h => (hbox w' h).2.2.2.2.2.2.2.1
  have r8 := fun w' h => (hbox w' h).2.2.2.2.2.2.2.2
  have hstart : ∀ x y, Below (w.heap.size + 1) W1 (((w.alloc (.cells #[.int .i64 3, .int .i64 d, .int .i64 ra, .int .i64 rb, .int .i64 k, .int .i64 n, .int .i64 a, .int .i64 b, .slice p m c] 109)).alloc x).alloc y).drew := fun x y => by
    rw [hW1]; exact (((Below.refl _ _).alloc (by simp) _).alloc (by simp) _).drew
  have hw1 : ∀ w', Below (w.heap.size + 1) W1 w' → Below w.heap.size w w' := fun w' h => by
    rw [hW1] at h; exact ((Below.refl _ _).alloc (Nat.le_refl _) _).trans (h.mono (by omega))
  clear hbox
  simp only at r1 r2 r3 r4
  have HS := hide hstart
  clear hstart
  have HW1 := hide hW1
  clear hW1
  have HB := hide hw1
  clear hw1
  have hmf : ∀ (fn : Fn) (first cap : Array Value) (w : World), (Instr.makeFunc fn first cap).run Tryz.prog w = .ok (.func fn first cap) w := fun _ _ _ _ => rfl
  have hix := idx3
  have hfd := fld
  go_enter_defers Tryz.func62, Tryz.ntmps62
  go_wp2
  go_region_held3 (fun w' => Below (w.heap.size + 1) W1 w') (first | assumption | exact HS.out _ _ | (refine Below.trans (by assumption) (hb2.mono ?_); omega) | (refine Below.trans (by assumption) (hb1.mono ?_); simp <;> omega) | (refine Below.setCell (Below.setCell (Below.setCell (by assumption) ?_ _) ?_ _) ?_ _ <;> simp) | (refine Below.setCell (by assumption) ?_ _ <;> simp)) (first | (go_at_call 78; refine (table_any _).mono ?_; rintro e w1 ⟨rfl, hb1⟩; have hz1 : w.heap.size + 1 + 1 < w1.heap.size := (by have := hb1.size; simp at this; omega); have hz2 : w.heap.size + 1 < w1.heap.size := (by omega)) | (go_at_call 91; refine (HM.out _ (HB.out _ (by assumption))).mono ?_; rintro e w2 ⟨rfl, hb2⟩; obtain ⟨hc1, hf1⟩ := bcell hb1; obtain ⟨hc2, hf2⟩ := bcell hb2))
  go_wp2
  have hbel := HB.out _ (by assumption)
  refine leaves_cons (f := 77) (args := #[.pointer (some ⟨w.heap.size + 1 + 1, 0, none⟩)]) (by simp) (by simp [go_sem]) ?_
  refine (catch_idle ⟨w.heap.size + 1 + 1, 0, none⟩ _).mono ?_
  rintro e u' w'' ⟨rfl, rfl, rfl⟩
  simp [Leaves, settle, results, Tryz.results62, go_sem, hc1, hc2, hz1, hz2]
  exact hbel

set_option maxRecDepth 100000 in
set_option maxHeartbeats 2000000 in
theorem work_mul (o : Ord) (n a b : Int) (p : Option Addr) (m c : Nat) (w : World) (hop : o.op = 4) (t pl v : Int)
    (hm : ∀ w', Below w.heap.size w w' → Calls Tryz.prog 92 #[inp o n a b p m c] w' fun e w'' => e = .returned (.agg #[.int .i64 t, .int .i64 pl, .int .i64 v]) ∧ Below w'.heap.size w' w'') :
    Calls Tryz.prog 62 #[inp o n a b p m c] w fun e w' => e = .returned (.tuple #[.agg #[.int .i64 t, .int .i64 pl, .int .i64 v], .int .i64 0]) ∧ Below w.heap.size w w' := by
  obtain ⟨op, d, ra, rb, k⟩ := o
  simp only at hop
  subst hop
  have HM := hide hm
  clear hm
  obtain ⟨W1, hW1⟩ : ∃ W1, W1 = w.alloc (.cells #[.int .i64 4, .int .i64 d, .int .i64 ra, .int .i64 rb, .int .i64 k, .int .i64 n, .int .i64 a, .int .i64 b, .slice p m c] 109) := ⟨_, rfl⟩
  have hbox := box_cells ⟨4, d, ra, rb, k⟩ n a b p m c hW1
  have r0 : ∀ w', Below (w.heap.size + 1) W1 w' → w'.cell? ⟨w.heap.size, 0, none⟩ = some (.int .i64 4) := fun w' h => (hbox w' h).1
  have r1 := fun w' h => (hbox w' h).2.1
  have r2 := fun w' h => (hbox w' h).2.2.1
  have r3 := fun w' h => (hbox w' h).2.2.2.1
  have r4 := fun w' h => (hbox w' h).2.2.2.2.1
  have r5 := fun w' h => (hbox w' h).2.2.2.2.2.1
  have r6 := fun w' h => (hbox w' h).2.2.2.2.2.2.1
  have r7 := fun w' h => (hbox w' h).2.2.2.2.2.2.2.1
  have r8 := fun w' h => (hbox w' h).2.2.2.2.2.2.2.2
  have hstart : ∀ x y, Below (w.heap.size + 1) W1 (((w.alloc (.cells #[.int .i64 4, .int .i64 d, .int .i64 ra, .int .i64 rb, .int .i64 k, .int .i64 n, .int .i64 a, .int .i64 b, .slice p m c] 109)).alloc x).alloc y).drew := fun x y => by
    rw [hW1]; exact (((Below.refl _ _).alloc (by simp) _).alloc (by simp) _).drew
  have hw1 : ∀ w', Below (w.heap.size + 1) W1 w' → Below w.heap.size w w' := fun w' h => by
    rw [hW1] at h; exact ((Below.refl _ _).alloc (Nat.le_refl _) _).trans (h.mono (by omega))
  clear hbox
  simp only at r1 r2 r3 r4
  have HS := hide hstart
  clear hstart
  have HW1 := hide hW1
  clear hW1
  have HB := hide hw1
  clear hw1
  have hmf : ∀ (fn : Fn) (first cap : Array Value) (w : World), (Instr.makeFunc fn first cap).run Tryz.prog w = .ok (.func fn first cap) w := fun _ _ _ _ => rfl
  have hix := idx4
  have hfd := fld
  go_enter_defers Tryz.func62, Tryz.ntmps62
  go_wp2
  go_region_held3 (fun w' => Below (w.heap.size + 1) W1 w') (first | assumption | exact HS.out _ _ | (refine Below.trans (by assumption) (hb2.mono ?_); omega) | (refine Below.trans (by assumption) (hb1.mono ?_); simp <;> omega) | (refine Below.setCell (Below.setCell (Below.setCell (by assumption) ?_ _) ?_ _) ?_ _ <;> simp) | (refine Below.setCell (by assumption) ?_ _ <;> simp)) (first | (go_at_call 78; refine (table_any _).mono ?_; rintro e w1 ⟨rfl, hb1⟩; have hz1 : w.heap.size + 1 + 1 < w1.heap.size := (by have := hb1.size; simp at this; omega); have hz2 : w.heap.size + 1 < w1.heap.size := (by omega)) | (go_at_call 92; refine (HM.out _ (HB.out _ (by assumption))).mono ?_; rintro e w2 ⟨rfl, hb2⟩; obtain ⟨hc1, hf1⟩ := bcell hb1; obtain ⟨hc2, hf2⟩ := bcell hb2))
  go_wp2
  have hbel := HB.out _ (by assumption)
  refine leaves_cons (f := 77) (args := #[.pointer (some ⟨w.heap.size + 1 + 1, 0, none⟩)]) (by simp) (by simp [go_sem]) ?_
  refine (catch_idle ⟨w.heap.size + 1 + 1, 0, none⟩ _).mono ?_
  rintro e u' w'' ⟨rfl, rfl, rfl⟩
  simp [Leaves, settle, results, Tryz.results62, go_sem, hc1, hc2, hz1, hz2]
  exact hbel

end Go.Proofs.YtmeiogoodbnkkaaGreat

/- The work of an order, its trap caught: the others. -/
namespace Go.Proofs.YtmeiogoodbnkkaaGreat
open Go.RowKit

set_option maxRecDepth 100000 in
set_option maxHeartbeats 2000000 in
theorem work_div (o : Ord) (n a b : Int) (p : Option Addr) (m c : Nat) (w : World) (hop : o.op = 5) (t pl v : Int)
    (hm : ∀ w', Below w.heap.size w w' → Calls Tryz.prog 93 #[inp o n a b p m c] w' fun e w'' => e = .returned (.agg #[.int .i64 t, .int .i64 pl, .int .i64 v]) ∧ Below w'.heap.size w' w'') :
    Calls Tryz.prog 62 #[inp o n a b p m c] w fun e w' => e = .returned (.tuple #[.agg #[.int .i64 t, .int .i64 pl, .int .i64 v], .int .i64 0]) ∧ Below w.heap.size w w' := by
  obtain ⟨op, d, ra, rb, k⟩ := o
  simp only at hop
  subst hop
  have HM := hide hm
  clear hm
  obtain ⟨W1, hW1⟩ : ∃ W1, W1 = w.alloc (.cells #[.int .i64 5, .int .i64 d, .int .i64 ra, .int .i64 rb, .int .i64 k, .int .i64 n, .int .i64 a, .int .i64 b, .slice p m c] 109) := ⟨_, rfl⟩
  have hbox := box_cells ⟨5, d, ra, rb, k⟩ n a b p m c hW1
  have r0 : ∀ w', Below (w.heap.size + 1) W1 w' → w'.cell? ⟨w.heap.size, 0, none⟩ = some (.int .i64 5) := fun w' h => (hbox w' h).1
  have r1 := fun w' h => (hbox w' h).2.1
  have r2 := fun w' h => (hbox w' h).2.2.1
  have r3 := fun w' h => (hbox w' h).2.2.2.1
  have r4 := fun w' h => (hbox w' h).2.2.2.2.1
  have r5 := fun w' h => (hbox w' h).2.2.2.2.2.1
  have r6 := fun w' h => (hbox w' h).2.2.2.2.2.2.1
  have r7 := fun w' h => (hbox w' h).2.2.2.2.2.2.2.1
  have r8 := fun w' h => (hbox w' h).2.2.2.2.2.2.2.2
  have hstart : ∀ x y, Below (w.heap.size + 1) W1 (((w.alloc (.cells #[.int .i64 5, .int .i64 d, .int .i64 ra, .int .i64 rb, .int .i64 k, .int .i64 n, .int .i64 a, .int .i64 b, .slice p m c] 109)).alloc x).alloc y).drew := fun x y => by
    rw [hW1]; exact (((Below.refl _ _).alloc (by simp) _).alloc (by simp) _).drew
  have hw1 : ∀ w', Below (w.heap.size + 1) W1 w' → Below w.heap.size w w' := fun w' h => by
    rw [hW1] at h; exact ((Below.refl _ _).alloc (Nat.le_refl _) _).trans (h.mono (by omega))
  clear hbox
  simp only at r1 r2 r3 r4
  have HS := hide hstart
  clear hstart
  have HW1 := hide hW1
  clear hW1
  have HB := hide hw1
  clear hw1
  have hmf : ∀ (fn : Fn) (first cap : Array Value) (w : World), (Instr.makeFunc fn first cap).run Tryz.prog w = .ok (.func fn first cap) w := fun _ _ _ _ => rfl
  have hix := idx5
  have hfd := fld
  go_enter_defers Tryz.func62, Tryz.ntmps62
  go_wp2
  go_region_held3 (fun w' => Below (w.heap.size + 1) W1 w') (first | assumption | exact HS.out _ _ | (refine Below.trans (by assumption) (hb2.mono ?_); omega) | (refine Below.trans (by assumption) (hb1.mono ?_); simp <;> omega) | (refine Below.setCell (Below.setCell (Below.setCell (by assumption) ?_ _) ?_ _) ?_ _ <;> simp) | (refine Below.setCell (by assumption) ?_ _ <;> simp)) (first | (go_at_call 78; refine (table_any _).mono ?_; rintro e w1 ⟨rfl, hb1⟩; have hz1 : w.heap.size + 1 + 1 < w1.heap.size := (by have := hb1.size; simp at this; omega); have hz2 : w.heap.size + 1 < w1.heap.size := (by omega)) | (go_at_call 93; refine (HM.out _ (HB.out _ (by assumption))).mono ?_; rintro e w2 ⟨rfl, hb2⟩; obtain ⟨hc1, hf1⟩ := bcell hb1; obtain ⟨hc2, hf2⟩ := bcell hb2))
  go_wp2
  have hbel := HB.out _ (by assumption)
  refine leaves_cons (f := 77) (args := #[.pointer (some ⟨w.heap.size + 1 + 1, 0, none⟩)]) (by simp) (by simp [go_sem]) ?_
  refine (catch_idle ⟨w.heap.size + 1 + 1, 0, none⟩ _).mono ?_
  rintro e u' w'' ⟨rfl, rfl, rfl⟩
  simp [Leaves, settle, results, Tryz.results62, go_sem, hc1, hc2, hz1, hz2]
  exact hbel

set_option maxRecDepth 100000 in
set_option maxHeartbeats 2000000 in
theorem work_load (o : Ord) (n a b : Int) (p : Option Addr) (m c : Nat) (w : World) (hop : o.op = 6) (t pl v : Int)
    (hm : ∀ w', Below w.heap.size w w' → Calls Tryz.prog 94 #[inp o n a b p m c] w' fun e w'' => e = .returned (.agg #[.int .i64 t, .int .i64 pl, .int .i64 v]) ∧ Below w'.heap.size w' w'') :
    Calls Tryz.prog 62 #[inp o n a b p m c] w fun e w' => e = .returned (.tuple #[.agg #[.int .i64 t, .int .i64 pl, .int .i64 v], .int .i64 0]) ∧ Below w.heap.size w w' := by
  obtain ⟨op, d, ra, rb, k⟩ := o
  simp only at hop
  subst hop
  have HM := hide hm
  clear hm
  obtain ⟨W1, hW1⟩ : ∃ W1, W1 = w.alloc (.cells #[.int .i64 6, .int .i64 d, .int .i64 ra, .int .i64 rb, .int .i64 k, .int .i64 n, .int .i64 a, .int .i64 b, .slice p m c] 109) := ⟨_, rfl⟩
  have hbox := box_cells ⟨6, d, ra, rb, k⟩ n a b p m c hW1
  have r0 : ∀ w', Below (w.heap.size + 1) W1 w' → w'.cell? ⟨w.heap.size, 0, none⟩ = some (.int .i64 6) := fun w' h => (hbox w' h).1
  have r1 := fun w' h => (hbox w' h).2.1
  have r2 := fun w' h => (hbox w' h).2.2.1
  have r3 := fun w' h => (hbox w' h).2.2.2.1
  have r4 := fun w' h => (hbox w' h).2.2.2.2.1
  have r5 := fun w' h => (hbox w' h).2.2.2.2.2.1
  have r6 := fun w' h => (hbox w' h).2.2.2.2.2.2.1
  have r7 := fun w' h => (hbox w' h).2.2.2.2.2.2.2.1
  have r8 := fun w' h => (hbox w' h).2.2.2.2.2.2.2.2
  have hstart : ∀ x y, Below (w.heap.size + 1) W1 (((w.alloc (.cells #[.int .i64 6, .int .i64 d, .int .i64 ra, .int .i64 rb, .int .i64 k, .int .i64 n, .int .i64 a, .int .i64 b, .slice p m c] 109)).alloc x).alloc y).drew := fun x y => by
    rw [hW1]; exact (((Below.refl _ _).alloc (by simp) _).alloc (by simp) _).drew
  have hw1 : ∀ w', Below (w.heap.size + 1) W1 w' → Below w.heap.size w w' := fun w' h => by
    rw [hW1] at h; exact ((Below.refl _ _).alloc (Nat.le_refl _) _).trans (h.mono (by omega))
  clear hbox
  simp only at r1 r2 r3 r4
  have HS := hide hstart
  clear hstart
  have HW1 := hide hW1
  clear hW1
  have HB := hide hw1
  clear hw1
  have hmf : ∀ (fn : Fn) (first cap : Array Value) (w : World), (Instr.makeFunc fn first cap).run Tryz.prog w = .ok (.func fn first cap) w := fun _ _ _ _ => rfl
  have hix := idx6
  have hfd := fld
  go_enter_defers Tryz.func62, Tryz.ntmps62
  go_wp2
  go_region_held3 (fun w' => Below (w.heap.size + 1) W1 w') (first | assumption | exact HS.out _ _ | (refine Below.trans (by assumption) (hb2.mono ?_); omega) | (refine Below.trans (by assumption) (hb1.mono ?_); simp <;> omega) | (refine Below.setCell (Below.setCell (Below.setCell (by assumption) ?_ _) ?_ _) ?_ _ <;> simp) | (refine Below.setCell (by assumption) ?_ _ <;> simp)) (first | (go_at_call 78; refine (table_any _).mono ?_; rintro e w1 ⟨rfl, hb1⟩; have hz1 : w.heap.size + 1 + 1 < w1.heap.size := (by have := hb1.size; simp at this; omega); have hz2 : w.heap.size + 1 < w1.heap.size := (by omega)) | (go_at_call 94; refine (HM.out _ (HB.out _ (by assumption))).mono ?_; rintro e w2 ⟨rfl, hb2⟩; obtain ⟨hc1, hf1⟩ := bcell hb1; obtain ⟨hc2, hf2⟩ := bcell hb2))
  go_wp2
  have hbel := HB.out _ (by assumption)
  refine leaves_cons (f := 77) (args := #[.pointer (some ⟨w.heap.size + 1 + 1, 0, none⟩)]) (by simp) (by simp [go_sem]) ?_
  refine (catch_idle ⟨w.heap.size + 1 + 1, 0, none⟩ _).mono ?_
  rintro e u' w'' ⟨rfl, rfl, rfl⟩
  simp [Leaves, settle, results, Tryz.results62, go_sem, hc1, hc2, hz1, hz2]
  exact hbel

end Go.Proofs.YtmeiogoodbnkkaaGreat

/- The work of an order, its trap caught: a store, a jump. -/
namespace Go.Proofs.YtmeiogoodbnkkaaGreat
open Go.RowKit

set_option maxRecDepth 100000 in
set_option maxHeartbeats 2000000 in
theorem work_store (o : Ord) (n a b : Int) (p : Option Addr) (m c : Nat) (w : World) (hop : o.op = 7) (t pl v : Int)
    (hm : ∀ w', Below w.heap.size w w' → Calls Tryz.prog 95 #[inp o n a b p m c] w' fun e w'' => e = .returned (.agg #[.int .i64 t, .int .i64 pl, .int .i64 v]) ∧ Below w'.heap.size w' w'') :
    Calls Tryz.prog 62 #[inp o n a b p m c] w fun e w' => e = .returned (.tuple #[.agg #[.int .i64 t, .int .i64 pl, .int .i64 v], .int .i64 0]) ∧ Below w.heap.size w w' := by
  obtain ⟨op, d, ra, rb, k⟩ := o
  simp only at hop
  subst hop
  have HM := hide hm
  clear hm
  obtain ⟨W1, hW1⟩ : ∃ W1, W1 = w.alloc (.cells #[.int .i64 7, .int .i64 d, .int .i64 ra, .int .i64 rb, .int .i64 k, .int .i64 n, .int .i64 a, .int .i64 b, .slice p m c] 109) := ⟨_, rfl⟩
  have hbox := box_cells ⟨7, d, ra, rb, k⟩ n a b p m c hW1
  have r0 : ∀ w', Below (w.heap.size + 1) W1 w' → w'.cell? ⟨w.heap.size, 0, none⟩ = some (.int .i64 7) := fun w' h => (hbox w' h).1
  have r1 := fun w' h => (hbox w' h).2.1
  have r2 := fun w' h => (hbox w' h).2.2.1
  have r3 := fun w' h => (hbox w' h).2.2.2.1
  have r4 := fun w' h => (hbox w' h).2.2.2.2.1
  have r5 := fun w' h => (hbox w' h).2.2.2.2.2.1
  have r6 := fun w' h => (hbox w' h).2.2.2.2.2.2.1
  have r7 := fun w' h => (hbox w' h).2.2.2.2.2.2.2.1
  have r8 := fun w' h => (hbox w' h).2.2.2.2.2.2.2.2
  have hstart : ∀ x y, Below (w.heap.size + 1) W1 (((w.alloc (.cells #[.int .i64 7, .int .i64 d, .int .i64 ra, .int .i64 rb, .int .i64 k, .int .i64 n, .int .i64 a, .int .i64 b, .slice p m c] 109)).alloc x).alloc y).drew := fun x y => by
    rw [hW1]; exact (((Below.refl _ _).alloc (by simp) _).alloc (by simp) _).drew
  have hw1 : ∀ w', Below (w.heap.size + 1) W1 w' → Below w.heap.size w w' := fun w' h => by
    rw [hW1] at h; exact ((Below.refl _ _).alloc (Nat.le_refl _) _).trans (h.mono (by omega))
  clear hbox
  simp only at r1 r2 r3 r4
  have HS := hide hstart
  clear hstart
  have HW1 := hide hW1
  clear hW1
  have HB := hide hw1
  clear hw1
  have hmf : ∀ (fn : Fn) (first cap : Array Value) (w : World), (Instr.makeFunc fn first cap).run Tryz.prog w = .ok (.func fn first cap) w := fun _ _ _ _ => rfl
  have hix := idx7
  have hfd := fld
  go_enter_defers Tryz.func62, Tryz.ntmps62
  go_wp2
  go_region_held3 (fun w' => Below (w.heap.size + 1) W1 w') (first | assumption | exact HS.out _ _ | (refine Below.trans (by assumption) (hb2.mono ?_); omega) | (refine Below.trans (by assumption) (hb1.mono ?_); simp <;> omega) | (refine Below.setCell (Below.setCell (Below.setCell (by assumption) ?_ _) ?_ _) ?_ _ <;> simp) | (refine Below.setCell (by assumption) ?_ _ <;> simp)) (first | (go_at_call 78; refine (table_any _).mono ?_; rintro e w1 ⟨rfl, hb1⟩; have hz1 : w.heap.size + 1 + 1 < w1.heap.size := (by have := hb1.size; simp at this; omega); have hz2 : w.heap.size + 1 < w1.heap.size := (by omega)) | (go_at_call 95; refine (HM.out _ (HB.out _ (by assumption))).mono ?_; rintro e w2 ⟨rfl, hb2⟩; obtain ⟨hc1, hf1⟩ := bcell hb1; obtain ⟨hc2, hf2⟩ := bcell hb2))
  go_wp2
  have hbel := HB.out _ (by assumption)
  refine leaves_cons (f := 77) (args := #[.pointer (some ⟨w.heap.size + 1 + 1, 0, none⟩)]) (by simp) (by simp [go_sem]) ?_
  refine (catch_idle ⟨w.heap.size + 1 + 1, 0, none⟩ _).mono ?_
  rintro e u' w'' ⟨rfl, rfl, rfl⟩
  simp [Leaves, settle, results, Tryz.results62, go_sem, hc1, hc2, hz1, hz2]
  exact hbel

set_option maxRecDepth 100000 in
set_option maxHeartbeats 2000000 in
theorem work_jump (o : Ord) (n a b : Int) (p : Option Addr) (m c : Nat) (w : World) (hop : o.op = 8) (t pl v : Int)
    (hm : ∀ w', Below w.heap.size w w' → Calls Tryz.prog 96 #[inp o n a b p m c] w' fun e w'' => e = .returned (.agg #[.int .i64 t, .int .i64 pl, .int .i64 v]) ∧ Below w'.heap.size w' w'') :
    Calls Tryz.prog 62 #[inp o n a b p m c] w fun e w' => e = .returned (.tuple #[.agg #[.int .i64 t, .int .i64 pl, .int .i64 v], .int .i64 0]) ∧ Below w.heap.size w w' := by
  obtain ⟨op, d, ra, rb, k⟩ := o
  simp only at hop
  subst hop
  have HM := hide hm
  clear hm
  obtain ⟨W1, hW1⟩ : ∃ W1, W1 = w.alloc (.cells #[.int .i64 8, .int .i64 d, .int .i64 ra, .int .i64 rb, .int .i64 k, .int .i64 n, .int .i64 a, .int .i64 b, .slice p m c] 109) := ⟨_, rfl⟩
  have hbox := box_cells ⟨8, d, ra, rb, k⟩ n a b p m c hW1
  have r0 : ∀ w', Below (w.heap.size + 1) W1 w' → w'.cell? ⟨w.heap.size, 0, none⟩ = some (.int .i64 8) := fun w' h => (hbox w' h).1
  have r1 := fun w' h => (hbox w' h).2.1
  have r2 := fun w' h => (hbox w' h).2.2.1
  have r3 := fun w' h => (hbox w' h).2.2.2.1
  have r4 := fun w' h => (hbox w' h).2.2.2.2.1
  have r5 := fun w' h => (hbox w' h).2.2.2.2.2.1
  have r6 := fun w' h => (hbox w' h).2.2.2.2.2.2.1
  have r7 := fun w' h => (hbox w' h).2.2.2.2.2.2.2.1
  have r8 := fun w' h => (hbox w' h).2.2.2.2.2.2.2.2
  have hstart : ∀ x y, Below (w.heap.size + 1) W1 (((w.alloc (.cells #[.int .i64 8, .int .i64 d, .int .i64 ra, .int .i64 rb, .int .i64 k, .int .i64 n, .int .i64 a, .int .i64 b, .slice p m c] 109)).alloc x).alloc y).drew := fun x y => by
    rw [hW1]; exact (((Below.refl _ _).alloc (by simp) _).alloc (by simp) _).drew
  have hw1 : ∀ w', Below (w.heap.size + 1) W1 w' → Below w.heap.size w w' := fun w' h => by
    rw [hW1] at h; exact ((Below.refl _ _).alloc (Nat.le_refl _) _).trans (h.mono (by omega))
  clear hbox
  simp only at r1 r2 r3 r4
  have HS := hide hstart
  clear hstart
  have HW1 := hide hW1
  clear hW1
  have HB := hide hw1
  clear hw1
  have hmf : ∀ (fn : Fn) (first cap : Array Value) (w : World), (Instr.makeFunc fn first cap).run Tryz.prog w = .ok (.func fn first cap) w := fun _ _ _ _ => rfl
  have hix := idx8
  have hfd := fld
  go_enter_defers Tryz.func62, Tryz.ntmps62
  go_wp2
  go_region_held3 (fun w' => Below (w.heap.size + 1) W1 w') (first | assumption | exact HS.out _ _ | (refine Below.trans (by assumption) (hb2.mono ?_); omega) | (refine Below.trans (by assumption) (hb1.mono ?_); simp <;> omega) | (refine Below.setCell (Below.setCell (Below.setCell (by assumption) ?_ _) ?_ _) ?_ _ <;> simp) | (refine Below.setCell (by assumption) ?_ _ <;> simp)) (first | (go_at_call 78; refine (table_any _).mono ?_; rintro e w1 ⟨rfl, hb1⟩; have hz1 : w.heap.size + 1 + 1 < w1.heap.size := (by have := hb1.size; simp at this; omega); have hz2 : w.heap.size + 1 < w1.heap.size := (by omega)) | (go_at_call 96; refine (HM.out _ (HB.out _ (by assumption))).mono ?_; rintro e w2 ⟨rfl, hb2⟩; obtain ⟨hc1, hf1⟩ := bcell hb1; obtain ⟨hc2, hf2⟩ := bcell hb2))
  go_wp2
  have hbel := HB.out _ (by assumption)
  refine leaves_cons (f := 77) (args := #[.pointer (some ⟨w.heap.size + 1 + 1, 0, none⟩)]) (by simp) (by simp [go_sem]) ?_
  refine (catch_idle ⟨w.heap.size + 1 + 1, 0, none⟩ _).mono ?_
  rintro e u' w'' ⟨rfl, rfl, rfl⟩
  simp [Leaves, settle, results, Tryz.results62, go_sem, hc1, hc2, hz1, hz2]
  exact hbel

end Go.Proofs.YtmeiogoodbnkkaaGreat

/- The work of an order that traps. -/
namespace Go.Proofs.YtmeiogoodbnkkaaGreat
open Go.RowKit

/-- How the body of Work is left where the order traps. -/
def Qp (w : World) (t : Int) : Exit → Act → World → Prop := fun ex a w' =>
  ex = .panic [{ v := .iface 124 (.int .i64 t), recovered := false }] ∧ a.defers = [{ target := .fn (.func 77) #[.pointer (some ⟨w.heap.size + 1 + 1, 0, none⟩)], args := #[] }] ∧
  a.tmps.getD 2 undef = .pointer (some ⟨w.heap.size + 1, 0, none⟩) ∧ a.tmps.getD 3 undef = .pointer (some ⟨w.heap.size + 1 + 1, 0, none⟩) ∧ Below w.heap.size w w' ∧
  w'.cell? ⟨w.heap.size + 1, 0, none⟩ = some (.int .i64 0) ∧ w'.cell? ⟨w.heap.size + 1, 1, none⟩ = some (.int .i64 0) ∧ w'.cell? ⟨w.heap.size + 1, 2, none⟩ = some (.int .i64 0) ∧
  w'.cell? ⟨w.heap.size + 1 + 1, 0, none⟩ = some (.int .i64 0) ∧ w'.frozen? ⟨w.heap.size + 1 + 1, 0, none⟩ = false

theorem qp_put {w : World} {t : Int} {e : Exit} {a : Act} {d : Nat} {v : Value} {w' : World} (h2 : d ≠ 2) (h3 : d ≠ 3) (h : Qp w t e (a.put (some d) v) w') : Qp w t e a w' := by
  obtain ⟨g1, g2, g3, g4, g5⟩ := h
  refine ⟨g1, g2, ?_, ?_, g5⟩
  · rw [← g3]; simp [Act.put, Array.getElem?_setIfInBounds_ne h2]
  · rw [← g4]; simp [Act.put, Array.getElem?_setIfInBounds_ne h3]

set_option maxHeartbeats 1000000 in
theorem qp_leaves {w : World} {t : Int} (e : Exit) (a : Act) (w' : World) (h : Qp w t e a w') :
    bodyPostD Tryz.prog Tryz.f62 (fun e w' => e = .returned (.tuple #[.agg #[.int .i64 0, .int .i64 0, .int .i64 0], .int .i64 t]) ∧ Below w.heap.size w w') e a w' := by
  obtain ⟨rfl, hd, h2, h3, hb, c0, c1, c2, c3, hf⟩ := h
  show Leaves _ _ a.tmps _ a.defers (.panicking _) w'
  rw [hd]
  refine leaves_cons (f := 77) (args := #[.pointer (some ⟨w.heap.size + 1 + 1, 0, none⟩)]) (by simp) (by simp [go_sem]) ?_
  refine (catch_trap ⟨w.heap.size + 1 + 1, 0, none⟩ 0 t [] w' c3 hf).mono ?_
  rintro e u' w'' ⟨rfl, rfl, rfl⟩
  have hne : w.heap.size + 1 ≠ w.heap.size + 1 + 1 := by omega
  have hs := World.cell?_setCell_same w' ⟨w.heap.size + 1 + 1, 0, none⟩ (.int .i64 t) c3
  simp only [Array.getD_eq_getD_getElem?] at h2 h3
  simp [Leaves, settle, results, Tryz.results62, go_sem, h2, h3, c0, c1, c2, hs, cell_far hne]
  exact hb.setCell (by simp; omega) _

set_option maxRecDepth 100000 in
set_option maxHeartbeats 2000000 in
theorem trap_div (o : Ord) (n a b : Int) (p : Option Addr) (m c : Nat) (w : World) (hop : o.op = 5) (t : Int)
    (hm : ∀ w', Below w.heap.size w w' → Calls Tryz.prog 93 #[inp o n a b p m c] w' fun e w'' => e = .panicked [{ v := .iface 124 (.int .i64 t), recovered := false }] ∧ Below w'.heap.size w' w'') :
    Calls Tryz.prog 62 #[inp o n a b p m c] w fun e w' => e = .returned (.tuple #[.agg #[.int .i64 0, .int .i64 0, .int .i64 0], .int .i64 t]) ∧ Below w.heap.size w w' := by
  obtain ⟨op, d, ra, rb, k⟩ := o
  simp only at hop
  subst hop
  have HM := hide hm
  clear hm
  obtain ⟨W1, hW1⟩ : ∃ W1, W1 = w.alloc (.cells #[.int .i64 5, .int .i64 d, .int .i64 ra, .int .i64 rb, .int .i64 k, .int .i64 n, .int .i64 a, .int .i64 b, .slice p m c] 109) := ⟨_, rfl⟩
  have hbox := box_cells ⟨5, d, ra, rb, k⟩ n a b p m c hW1
  have r0 : ∀ w', Below (w.heap.size + 1) W1 w' → w'.cell? ⟨w.heap.size, 0, none⟩ = some (.int .i64 5) := fun w' h => (hbox w' h).1
  have r1 := fun w' h => (hbox w' h).2.1
  have r2 := fun w' h => (hbox w' h).2.2.1
  have r3 := fun w' h => (hbox w' h).2.2.2.1
  have r4 := fun w' h => (hbox w' h).2.2.2.2.1
  have r5 := fun w' h => (hbox w' h).2.2.2.2.2.1
  have r6 := fun w' h => (hbox w' h).2.2.2.2.2.2.1
  have r7 := fun w' h => (hbox w' h).2.2.2.2.2.2.2.1
  have r8 := fun w' h => (hbox w' h).2.2.2.2.2.2.2.2
  have hstart : ∀ x y, Below (w.heap.size + 1) W1 (((w.alloc (.cells #[.int .i64 5, .int .i64 d, .int .i64 ra, .int .i64 rb, .int .i64 k, .int .i64 n, .int .i64 a, .int .i64 b, .slice p m c] 109)).alloc x).alloc y).drew := fun x y => by
    rw [hW1]; exact (((Below.refl _ _).alloc (by simp) _).alloc (by simp) _).drew
  have hw1 : ∀ w', Below (w.heap.size + 1) W1 w' → Below w.heap.size w w' := fun w' h => by
    rw [hW1] at h; exact ((Below.refl _ _).alloc (Nat.le_refl _) _).trans (h.mono (by omega))
  clear hbox
  simp only at r1 r2 r3 r4
  have HS := hide hstart
  clear hstart
  have HW1 := hide hW1
  clear hW1
  have HB := hide hw1
  clear hw1
  have hmf : ∀ (fn : Fn) (first cap : Array Value) (w : World), (Instr.makeFunc fn first cap).run Tryz.prog w = .ok (.func fn first cap) w := fun _ _ _ _ => rfl
  have hix := idx5
  have hfd := fld
  go_enter_defers Tryz.func62, Tryz.ntmps62
  go_wp2
  refine Code.wp_mono (Q := Qp w t) (fun e a w' h => by obtain ⟨rfl, hrest⟩ := h; exact qp_leaves _ a w' ⟨rfl, hrest⟩) ?_
  refine wp_region_held_drew (S := fun w' => Below (w.heap.size + 1) W1 w') (by kernel_rfl) (HS.out _ _) (fun hHeld => ?_)
  refine wpAnyH_take (i := 1) (v := ?_) rfl (by kernel_rfl) (by kernel_rfl) (by kernel_rfl) (fun _ _ _ h => qp_put (by decide) (by decide) h) (Or.inl ⟨by rfl, ?_⟩) hHeld ?_
  rotate_left
  · intro w' hSw
    go_simp
    try with_reducible rfl
  simp only [Act.put]
  refine wpAnyH_take (i := 2) (v := ?_) rfl (by kernel_rfl) (by kernel_rfl) (by kernel_rfl) (fun _ _ _ h => qp_put (by decide) (by decide) h) (Or.inl ⟨by rfl, ?_⟩) hHeld ?_
  rotate_left
  · intro w' hSw
    go_simp
    try with_reducible rfl
  simp only [Act.put]
  refine wpAnyH_take (i := 3) (v := ?_) rfl (by kernel_rfl) (by kernel_rfl) (by kernel_rfl) (fun _ _ _ h => qp_put (by decide) (by decide) h) (Or.inl ⟨by rfl, ?_⟩) hHeld ?_
  rotate_left
  · intro w' hSw
    go_simp
    try with_reducible rfl
  simp only [Act.put]
  refine wpAnyH_take (i := 6) (v := ?_) rfl (by kernel_rfl) (by kernel_rfl) (by kernel_rfl) (fun _ _ _ h => qp_put (by decide) (by decide) h) (Or.inl ⟨by rfl, ?_⟩) hHeld ?_
  rotate_left
  · intro w' hSw
    go_simp
    try with_reducible rfl
  simp only [Act.put]
  refine wpAnyH_ready (rs := [0]) (by kernel_rfl) (by simp) ?_
  refine AllReadyH.cons rfl (fun K hK => ?_) AllReadyH.nil
  go_simp
  refine (table_any _).mono ?_
  rintro e w1 ⟨rfl, hb1⟩
  have hz1 : w.heap.size + 1 + 1 < w1.heap.size := by have := hb1.size; simp at this; omega
  have hS1 : Below (w.heap.size + 1) W1 w1 := hHeld.trans (hb1.mono (by simp))
  refine hK.out _ _ hS1 (fun hHeld => ?_)
  clear hK
  refine wpAnyH_take (i := 4) (v := ?_) rfl (by kernel_rfl) (by kernel_rfl) (by kernel_rfl) (fun _ _ _ h => qp_put (by decide) (by decide) h) (Or.inl ⟨by rfl, ?_⟩) hHeld ?_
  rotate_left
  · intro w' hSw
    go_simp
    try with_reducible rfl
  simp only [Act.put]
  refine wpAnyH_take (i := 5) (v := ?_) rfl (by kernel_rfl) (by kernel_rfl) (by kernel_rfl) (fun _ _ _ h => qp_put (by decide) (by decide) h) (Or.inl ⟨by rfl, ?_⟩) hHeld ?_
  rotate_left
  · intro w' hSw
    go_simp
    try with_reducible rfl
  simp only [Act.put]
  refine wpAnyH_ready (rs := [7]) (by kernel_rfl) (by simp) ?_
  refine AllReadyH.cons rfl (fun K hK => ?_) AllReadyH.nil
  go_simp
  clear hK
  refine (HM.out _ (HB.out _ hHeld)).mono ?_
  rintro e w2 ⟨rfl, hb2⟩
  obtain ⟨hc1, hf1⟩ := bcell hb1
  obtain ⟨hc2, hf2⟩ := bcell hb2
  have hz2 : w.heap.size + 1 < w1.heap.size := by omega
  refine ⟨rfl, rfl, rfl, rfl, (HB.out _ hHeld).trans (hb2.mono (by omega)), ?_, ?_, ?_, ?_, ?_⟩
  · rw [hc2 _ _ hz2, hc1 _ _ (by simp)]; simp [go_sem]
  · rw [hc2 _ _ hz2, hc1 _ _ (by simp)]; simp [go_sem]
  · rw [hc2 _ _ hz2, hc1 _ _ (by simp)]; simp [go_sem]
  · rw [hc2 _ _ hz1, hc1 _ _ (by simp)]; simp [go_sem]
  · rw [hf2 _ _ hz1, hf1 _ _ (by simp)]; simp [go_sem]

set_option maxRecDepth 100000 in
set_option maxHeartbeats 2000000 in
theorem trap_load (o : Ord) (n a b : Int) (p : Option Addr) (m c : Nat) (w : World) (hop : o.op = 6) (t : Int)
    (hm : ∀ w', Below w.heap.size w w' → Calls Tryz.prog 94 #[inp o n a b p m c] w' fun e w'' => e = .panicked [{ v := .iface 124 (.int .i64 t), recovered := false }] ∧ Below w'.heap.size w' w'') :
    Calls Tryz.prog 62 #[inp o n a b p m c] w fun e w' => e = .returned (.tuple #[.agg #[.int .i64 0, .int .i64 0, .int .i64 0], .int .i64 t]) ∧ Below w.heap.size w w' := by
  obtain ⟨op, d, ra, rb, k⟩ := o
  simp only at hop
  subst hop
  have HM := hide hm
  clear hm
  obtain ⟨W1, hW1⟩ : ∃ W1, W1 = w.alloc (.cells #[.int .i64 6, .int .i64 d, .int .i64 ra, .int .i64 rb, .int .i64 k, .int .i64 n, .int .i64 a, .int .i64 b, .slice p m c] 109) := ⟨_, rfl⟩
  have hbox := box_cells ⟨6, d, ra, rb, k⟩ n a b p m c hW1
  have r0 : ∀ w', Below (w.heap.size + 1) W1 w' → w'.cell? ⟨w.heap.size, 0, none⟩ = some (.int .i64 6) := fun w' h => (hbox w' h).1
  have r1 := fun w' h => (hbox w' h).2.1
  have r2 := fun w' h => (hbox w' h).2.2.1
  have r3 := fun w' h => (hbox w' h).2.2.2.1
  have r4 := fun w' h => (hbox w' h).2.2.2.2.1
  have r5 := fun w' h => (hbox w' h).2.2.2.2.2.1
  have r6 := fun w' h => (hbox w' h).2.2.2.2.2.2.1
  have r7 := fun w' h => (hbox w' h).2.2.2.2.2.2.2.1
  have r8 := fun w' h => (hbox w' h).2.2.2.2.2.2.2.2
  have hstart : ∀ x y, Below (w.heap.size + 1) W1 (((w.alloc (.cells #[.int .i64 6, .int .i64 d, .int .i64 ra, .int .i64 rb, .int .i64 k, .int .i64 n, .int .i64 a, .int .i64 b, .slice p m c] 109)).alloc x).alloc y).drew := fun x y => by
    rw [hW1]; exact (((Below.refl _ _).alloc (by simp) _).alloc (by simp) _).drew
  have hw1 : ∀ w', Below (w.heap.size + 1) W1 w' → Below w.heap.size w w' := fun w' h => by
    rw [hW1] at h; exact ((Below.refl _ _).alloc (Nat.le_refl _) _).trans (h.mono (by omega))
  clear hbox
  simp only at r1 r2 r3 r4
  have HS := hide hstart
  clear hstart
  have HW1 := hide hW1
  clear hW1
  have HB := hide hw1
  clear hw1
  have hmf : ∀ (fn : Fn) (first cap : Array Value) (w : World), (Instr.makeFunc fn first cap).run Tryz.prog w = .ok (.func fn first cap) w := fun _ _ _ _ => rfl
  have hix := idx6
  have hfd := fld
  go_enter_defers Tryz.func62, Tryz.ntmps62
  go_wp2
  refine Code.wp_mono (Q := Qp w t) (fun e a w' h => by obtain ⟨rfl, hrest⟩ := h; exact qp_leaves _ a w' ⟨rfl, hrest⟩) ?_
  refine wp_region_held_drew (S := fun w' => Below (w.heap.size + 1) W1 w') (by kernel_rfl) (HS.out _ _) (fun hHeld => ?_)
  refine wpAnyH_take (i := 1) (v := ?_) rfl (by kernel_rfl) (by kernel_rfl) (by kernel_rfl) (fun _ _ _ h => qp_put (by decide) (by decide) h) (Or.inl ⟨by rfl, ?_⟩) hHeld ?_
  rotate_left
  · intro w' hSw
    go_simp
    try with_reducible rfl
  simp only [Act.put]
  refine wpAnyH_take (i := 2) (v := ?_) rfl (by kernel_rfl) (by kernel_rfl) (by kernel_rfl) (fun _ _ _ h => qp_put (by decide) (by decide) h) (Or.inl ⟨by rfl, ?_⟩) hHeld ?_
  rotate_left
  · intro w' hSw
    go_simp
    try with_reducible rfl
  simp only [Act.put]
  refine wpAnyH_take (i := 3) (v := ?_) rfl (by kernel_rfl) (by kernel_rfl) (by kernel_rfl) (fun _ _ _ h => qp_put (by decide) (by decide) h) (Or.inl ⟨by rfl, ?_⟩) hHeld ?_
  rotate_left
  · intro w' hSw
    go_simp
    try with_reducible rfl
  simp only [Act.put]
  refine wpAnyH_take (i := 6) (v := ?_) rfl (by kernel_rfl) (by kernel_rfl) (by kernel_rfl) (fun _ _ _ h => qp_put (by decide) (by decide) h) (Or.inl ⟨by rfl, ?_⟩) hHeld ?_
  rotate_left
  · intro w' hSw
    go_simp
    try with_reducible rfl
  simp only [Act.put]
  refine wpAnyH_ready (rs := [0]) (by kernel_rfl) (by simp) ?_
  refine AllReadyH.cons rfl (fun K hK => ?_) AllReadyH.nil
  go_simp
  refine (table_any _).mono ?_
  rintro e w1 ⟨rfl, hb1⟩
  have hz1 : w.heap.size + 1 + 1 < w1.heap.size := by have := hb1.size; simp at this; omega
  have hS1 : Below (w.heap.size + 1) W1 w1 := hHeld.trans (hb1.mono (by simp))
  refine hK.out _ _ hS1 (fun hHeld => ?_)
  clear hK
  refine wpAnyH_take (i := 4) (v := ?_) rfl (by kernel_rfl) (by kernel_rfl) (by kernel_rfl) (fun _ _ _ h => qp_put (by decide) (by decide) h) (Or.inl ⟨by rfl, ?_⟩) hHeld ?_
  rotate_left
  · intro w' hSw
    go_simp
    try with_reducible rfl
  simp only [Act.put]
  refine wpAnyH_take (i := 5) (v := ?_) rfl (by kernel_rfl) (by kernel_rfl) (by kernel_rfl) (fun _ _ _ h => qp_put (by decide) (by decide) h) (Or.inl ⟨by rfl, ?_⟩) hHeld ?_
  rotate_left
  · intro w' hSw
    go_simp
    try with_reducible rfl
  simp only [Act.put]
  refine wpAnyH_ready (rs := [7]) (by kernel_rfl) (by simp) ?_
  refine AllReadyH.cons rfl (fun K hK => ?_) AllReadyH.nil
  go_simp
  clear hK
  refine (HM.out _ (HB.out _ hHeld)).mono ?_
  rintro e w2 ⟨rfl, hb2⟩
  obtain ⟨hc1, hf1⟩ := bcell hb1
  obtain ⟨hc2, hf2⟩ := bcell hb2
  have hz2 : w.heap.size + 1 < w1.heap.size := by omega
  refine ⟨rfl, rfl, rfl, rfl, (HB.out _ hHeld).trans (hb2.mono (by omega)), ?_, ?_, ?_, ?_, ?_⟩
  · rw [hc2 _ _ hz2, hc1 _ _ (by simp)]; simp [go_sem]
  · rw [hc2 _ _ hz2, hc1 _ _ (by simp)]; simp [go_sem]
  · rw [hc2 _ _ hz2, hc1 _ _ (by simp)]; simp [go_sem]
  · rw [hc2 _ _ hz1, hc1 _ _ (by simp)]; simp [go_sem]
  · rw [hf2 _ _ hz1, hf1 _ _ (by simp)]; simp [go_sem]

set_option maxRecDepth 100000 in
set_option maxHeartbeats 2000000 in
theorem trap_store (o : Ord) (n a b : Int) (p : Option Addr) (m c : Nat) (w : World) (hop : o.op = 7) (t : Int)
    (hm : ∀ w', Below w.heap.size w w' → Calls Tryz.prog 95 #[inp o n a b p m c] w' fun e w'' => e = .panicked [{ v := .iface 124 (.int .i64 t), recovered := false }] ∧ Below w'.heap.size w' w'') :
    Calls Tryz.prog 62 #[inp o n a b p m c] w fun e w' => e = .returned (.tuple #[.agg #[.int .i64 0, .int .i64 0, .int .i64 0], .int .i64 t]) ∧ Below w.heap.size w w' := by
  obtain ⟨op, d, ra, rb, k⟩ := o
  simp only at hop
  subst hop
  have HM := hide hm
  clear hm
  obtain ⟨W1, hW1⟩ : ∃ W1, W1 = w.alloc (.cells #[.int .i64 7, .int .i64 d, .int .i64 ra, .int .i64 rb, .int .i64 k, .int .i64 n, .int .i64 a, .int .i64 b, .slice p m c] 109) := ⟨_, rfl⟩
  have hbox := box_cells ⟨7, d, ra, rb, k⟩ n a b p m c hW1
  have r0 : ∀ w', Below (w.heap.size + 1) W1 w' → w'.cell? ⟨w.heap.size, 0, none⟩ = some (.int .i64 7) := fun w' h => (hbox w' h).1
  have r1 := fun w' h => (hbox w' h).2.1
  have r2 := fun w' h => (hbox w' h).2.2.1
  have r3 := fun w' h => (hbox w' h).2.2.2.1
  have r4 := fun w' h => (hbox w' h).2.2.2.2.1
  have r5 := fun w' h => (hbox w' h).2.2.2.2.2.1
  have r6 := fun w' h => (hbox w' h).2.2.2.2.2.2.1
  have r7 := fun w' h => (hbox w' h).2.2.2.2.2.2.2.1
  have r8 := fun w' h => (hbox w' h).2.2.2.2.2.2.2.2
  have hstart : ∀ x y, Below (w.heap.size + 1) W1 (((w.alloc (.cells #[.int .i64 7, .int .i64 d, .int .i64 ra, .int .i64 rb, .int .i64 k, .int .i64 n, .int .i64 a, .int .i64 b, .slice p m c] 109)).alloc x).alloc y).drew := fun x y => by
    rw [hW1]; exact (((Below.refl _ _).alloc (by simp) _).alloc (by simp) _).drew
  have hw1 : ∀ w', Below (w.heap.size + 1) W1 w' → Below w.heap.size w w' := fun w' h => by
    rw [hW1] at h; exact ((Below.refl _ _).alloc (Nat.le_refl _) _).trans (h.mono (by omega))
  clear hbox
  simp only at r1 r2 r3 r4
  have HS := hide hstart
  clear hstart
  have HW1 := hide hW1
  clear hW1
  have HB := hide hw1
  clear hw1
  have hmf : ∀ (fn : Fn) (first cap : Array Value) (w : World), (Instr.makeFunc fn first cap).run Tryz.prog w = .ok (.func fn first cap) w := fun _ _ _ _ => rfl
  have hix := idx7
  have hfd := fld
  go_enter_defers Tryz.func62, Tryz.ntmps62
  go_wp2
  refine Code.wp_mono (Q := Qp w t) (fun e a w' h => by obtain ⟨rfl, hrest⟩ := h; exact qp_leaves _ a w' ⟨rfl, hrest⟩) ?_
  refine wp_region_held_drew (S := fun w' => Below (w.heap.size + 1) W1 w') (by kernel_rfl) (HS.out _ _) (fun hHeld => ?_)
  refine wpAnyH_take (i := 1) (v := ?_) rfl (by kernel_rfl) (by kernel_rfl) (by kernel_rfl) (fun _ _ _ h => qp_put (by decide) (by decide) h) (Or.inl ⟨by rfl, ?_⟩) hHeld ?_
  rotate_left
  · intro w' hSw
    go_simp
    try with_reducible rfl
  simp only [Act.put]
  refine wpAnyH_take (i := 2) (v := ?_) rfl (by kernel_rfl) (by kernel_rfl) (by kernel_rfl) (fun _ _ _ h => qp_put (by decide) (by decide) h) (Or.inl ⟨by rfl, ?_⟩) hHeld ?_
  rotate_left
  · intro w' hSw
    go_simp
    try with_reducible rfl
  simp only [Act.put]
  refine wpAnyH_take (i := 3) (v := ?_) rfl (by kernel_rfl) (by kernel_rfl) (by kernel_rfl) (fun _ _ _ h => qp_put (by decide) (by decide) h) (Or.inl ⟨by rfl, ?_⟩) hHeld ?_
  rotate_left
  · intro w' hSw
    go_simp
    try with_reducible rfl
  simp only [Act.put]
  refine wpAnyH_take (i := 6) (v := ?_) rfl (by kernel_rfl) (by kernel_rfl) (by kernel_rfl) (fun _ _ _ h => qp_put (by decide) (by decide) h) (Or.inl ⟨by rfl, ?_⟩) hHeld ?_
  rotate_left
  · intro w' hSw
    go_simp
    try with_reducible rfl
  simp only [Act.put]
  refine wpAnyH_ready (rs := [0]) (by kernel_rfl) (by simp) ?_
  refine AllReadyH.cons rfl (fun K hK => ?_) AllReadyH.nil
  go_simp
  refine (table_any _).mono ?_
  rintro e w1 ⟨rfl, hb1⟩
  have hz1 : w.heap.size + 1 + 1 < w1.heap.size := by have := hb1.size; simp at this; omega
  have hS1 : Below (w.heap.size + 1) W1 w1 := hHeld.trans (hb1.mono (by simp))
  refine hK.out _ _ hS1 (fun hHeld => ?_)
  clear hK
  refine wpAnyH_take (i := 4) (v := ?_) rfl (by kernel_rfl) (by kernel_rfl) (by kernel_rfl) (fun _ _ _ h => qp_put (by decide) (by decide) h) (Or.inl ⟨by rfl, ?_⟩) hHeld ?_
  rotate_left
  · intro w' hSw
    go_simp
    try with_reducible rfl
  simp only [Act.put]
  refine wpAnyH_take (i := 5) (v := ?_) rfl (by kernel_rfl) (by kernel_rfl) (by kernel_rfl) (fun _ _ _ h => qp_put (by decide) (by decide) h) (Or.inl ⟨by rfl, ?_⟩) hHeld ?_
  rotate_left
  · intro w' hSw
    go_simp
    try with_reducible rfl
  simp only [Act.put]
  refine wpAnyH_ready (rs := [7]) (by kernel_rfl) (by simp) ?_
  refine AllReadyH.cons rfl (fun K hK => ?_) AllReadyH.nil
  go_simp
  clear hK
  refine (HM.out _ (HB.out _ hHeld)).mono ?_
  rintro e w2 ⟨rfl, hb2⟩
  obtain ⟨hc1, hf1⟩ := bcell hb1
  obtain ⟨hc2, hf2⟩ := bcell hb2
  have hz2 : w.heap.size + 1 < w1.heap.size := by omega
  refine ⟨rfl, rfl, rfl, rfl, (HB.out _ hHeld).trans (hb2.mono (by omega)), ?_, ?_, ?_, ?_, ?_⟩
  · rw [hc2 _ _ hz2, hc1 _ _ (by simp)]; simp [go_sem]
  · rw [hc2 _ _ hz2, hc1 _ _ (by simp)]; simp [go_sem]
  · rw [hc2 _ _ hz2, hc1 _ _ (by simp)]; simp [go_sem]
  · rw [hc2 _ _ hz1, hc1 _ _ (by simp)]; simp [go_sem]
  · rw [hf2 _ _ hz1, hf1 _ _ (by simp)]; simp [go_sem]

end Go.Proofs.YtmeiogoodbnkkaaGreat

/- The work of any order. -/
namespace Go.Proofs.YtmeiogoodbnkkaaGreat
open Go.RowKit

set_option maxHeartbeats 1000000 in
theorem work_any (o : Ord) (n a b : Int) (p : Option Addr) (c : Nat) (mem : List Int) (w : World) (hrd : Rd w p mem) (h1 : 1 ≤ o.op) (h8 : o.op ≤ 8) (hn0 : 0 ≤ n) (hn : n ≤ 1000) :
    Calls Tryz.prog 62 #[inp o n a b p mem.length c] w fun e w' => e = .returned (.tuple #[.agg #[.int .i64 (wk o n a b mem).1, .int .i64 (wk o n a b mem).2.1, .int .i64 (wk o n a b mem).2.2.1], .int .i64 (wk o n a b mem).2.2.2]) ∧ Below w.heap.size w w' := by
  have hc : o.op = 1 ∨ o.op = 2 ∨ o.op = 3 ∨ o.op = 4 ∨ o.op = 5 ∨ o.op = 6 ∨ o.op = 7 ∨ o.op = 8 := by omega
  rcases hc with h | h | h | h | h | h | h | h
  · have e : wk o n a b mem = (1, o.d, o.k, 0) := by simp [wk, eff, h]
    rw [e]
    exact work_set o n a b p _ c w h 1 o.d o.k fun w' _ => set_any _ _ _ _ _ _ _ _
  · have e : wk o n a b mem = (1, o.d, wrap64 (a + b), 0) := by simp [wk, eff, h]
    rw [e]
    exact work_add o n a b p _ c w h 1 o.d _ fun w' _ => add_any _ _ _ _ _ _ _ _
  · have e : wk o n a b mem = (1, o.d, wrap64 (a - b), 0) := by simp [wk, eff, h]
    rw [e]
    exact work_sub o n a b p _ c w h 1 o.d _ fun w' _ => sub_any _ _ _ _ _ _ _ _
  · have e : wk o n a b mem = (1, o.d, wrap64 (a * b), 0) := by simp [wk, eff, h]
    rw [e]
    exact work_mul o n a b p _ c w h 1 o.d _ fun w' _ => mul_any _ _ _ _ _ _ _ _
  · by_cases hb : b = 0
    · have e : wk o n a b mem = (0, 0, 0, 1) := by simp [wk, eff, h, hb]
      rw [e]
      subst hb
      exact trap_div o n a 0 p _ c w h 1 fun w' _ => div_zero _ _ _ _ _ _ _
    · have e : wk o n a b mem = (1, o.d, wrap64 (a.tdiv b), 0) := by simp [wk, eff, h, hb]
      rw [e]
      exact work_div o n a b p _ c w h 1 o.d _ fun w' _ => div_some _ _ _ _ _ _ _ _ (by simpa using hb) hb
  · by_cases hat : wrap64 (a + o.k) < 0 ∨ (mem.length : Int) ≤ wrap64 (a + o.k)
    · have e : wk o n a b mem = (0, 0, 0, 2) := by simp [wk, eff, h, hat]
      rw [e]
      exact trap_load o n a b p _ c w h 2 fun w' _ => load_out _ _ _ _ _ _ _ _ _ rfl hat
    · have e : wk o n a b mem = (1, o.d, mem.getD (wrap64 (a + o.k)).toNat 0, 0) := by simp [wk, eff, h, hat]
      rw [e]
      have hj : (wrap64 (a + o.k)).toNat < mem.length := by omega
      obtain ⟨mb, off, rfl, hmb, hcell⟩ := hrd.at hj
      refine work_load o n a b _ _ c w h 1 o.d _ fun w' hb' => load_in o n a b mb off _ c w' (wrap64 (a + o.k)).toNat _ (by omega) hj (Nat.lt_of_lt_of_le hmb hb'.size) ?_
      rw [hb'.cell (show mb < w.heap.size from hmb)]
      exact hcell _ hj
  · by_cases hat : wrap64 (a + o.k) < 0 ∨ (mem.length : Int) ≤ wrap64 (a + o.k)
    · have e : wk o n a b mem = (0, 0, 0, 2) := by simp [wk, eff, h, hat]
      rw [e]
      exact trap_store o n a b p _ c w h 2 fun w' _ => store_out _ _ _ _ _ _ _ _ _ rfl hat
    · have e : wk o n a b mem = (2, wrap64 (a + o.k), b, 0) := by simp [wk, eff, h, hat]
      rw [e]
      exact work_store o n a b p _ c w h 2 (wrap64 (a + o.k)) b fun w' _ => store_in o n a b p _ c w' _ rfl (by omega) (by omega)
  · by_cases ha : a = 0
    · have e : wk o n a b mem = (3, 0, o.k, 0) := by simp [wk, h, ha]
      rw [e]
      subst ha
      exact work_jump o n 0 b p _ c w h 3 0 o.k fun w' _ => jump_zero _ _ _ _ _ _ _
    · have e : wk o n a b mem = (3, 0, n + 1, 0) := by simp [wk, h, ha]
      rw [e]
      exact work_jump o n a b p _ c w h 3 0 _ fun w' _ => jump_on _ _ _ _ _ _ _ _ (by simpa using ha) hn0 hn

end Go.Proofs.YtmeiogoodbnkkaaGreat

/- One order done by the code is one order done. -/
namespace Go.Proofs.YtmeiogoodbnkkaaGreat
open Go.RowKit

set_option maxHeartbeats 1000000 in
theorem step_any (B sb : Nat) (o : Ord) (s : St) (mv : Value) (stop tr0 n : Int) (w : World) (hst : StAt w sb s.regs mv s.next stop tr0 s.steps) (hown : Own w B mv s.mem) (hB : B ≤ sb) (hBw : B ≤ w.heap.size) (hne : mv.ownBlock ≠ some sb)
    (ho : isOrd o n = true) (hop : o.op ≠ 0) (hnx : s.next ≤ 1000) (hsp : s.steps ≤ 1000) :
    Calls Tryz.prog 43 #[.pointer (some ⟨sb, 0, none⟩), .agg #[.int .i64 o.op, .int .i64 o.d, .int .i64 o.a, .int .i64 o.b, .int .i64 o.k]] w fun e w' =>
      e = .returned (.int .i64 (doOne o s).1) ∧ Below B w w' ∧ StAt w' sb (doOne o s).2.regs mv (doOne o s).2.next stop tr0 (doOne o s).2.steps ∧ Own w' B mv (doOne o s).2.mem := by
  obtain ⟨o0, o8, d0, d7, a0, a7, b0, b7, hk⟩ := isOrd_spec ho
  obtain ⟨op, d, a, b, k⟩ := o
  simp only at o0 o8 d0 d7 a0 a7 b0 b7 hk hop
  obtain ⟨rd, rfl⟩ := Int.eq_ofNat_of_zero_le d0
  obtain ⟨ra, rfl⟩ := Int.eq_ofNat_of_zero_le a0
  obtain ⟨rb, rfl⟩ := Int.eq_ofNat_of_zero_le b0
  obtain ⟨p, c, rfl, hrd⟩ := hown.slice
  have hwb : ∀ g, (Value.slice p s.mem.length c).ownBlock = some g → g < w.heap.size := fun g hg => (hown.lt g hg).2
  have hwork := fun W (hW : Below w.heap.size w W) => work_any ⟨op, rd, ra, rb, k⟩ s.next (s.regs.getD ra 0) (s.regs.getD rb 0) p c s.mem W (hrd.below (Nat.le_refl _) hW) (by simp only; omega) o8 (by omega) (by omega)
  have hst2 := (hst.setNext (s.next + 1)).setSteps (s.steps + 1)
  have hown2 : Own ((w.setCell ⟨sb, 9, none⟩ (.int .i64 (s.next + 1))).setCell ⟨sb, 12, none⟩ (.int .i64 (s.steps + 1))) B (.slice p s.mem.length c) s.mem := (hown.far hne).far hne
  have hb2 : Below B w ((w.setCell ⟨sb, 9, none⟩ (.int .i64 (s.next + 1))).setCell ⟨sb, 12, none⟩ (.int .i64 (s.steps + 1))) := ((Below.refl _ _).setCell hB _).setCell hB _
  have hsz2 : ((w.setCell ⟨sb, 9, none⟩ (.int .i64 (s.next + 1))).setCell ⟨sb, 12, none⟩ (.int .i64 (s.steps + 1))).heap.size = w.heap.size := by simp [World.setCell]
  generalize hw2 : (w.setCell ⟨sb, 9, none⟩ (.int .i64 (s.next + 1))).setCell ⟨sb, 12, none⟩ (.int .i64 (s.steps + 1)) = w2 at *
  have hsb := hst.lt
  by_cases h8 : op = 8
  · subst h8
    have e1 : wk ⟨8, rd, ra, rb, k⟩ s.next (s.regs.getD ra 0) (s.regs.getD rb 0) s.mem = (3, 0, if s.regs.getD ra 0 = 0 then k else s.next + 1, 0) := by simp [wk]
    rw [e1] at hwork
    have e2 : doOne ⟨8, rd, ra, rb, k⟩ s = (0, ⟨s.regs, s.mem, if s.regs.getD ra 0 = 0 then k.toNat else s.next + 1, s.steps + 1⟩) := by simp [doOne]
    rw [e2]
    have hv : (if s.regs.getD ra 0 = 0 then k else (s.next : Int) + 1) = ((if s.regs.getD ra 0 = 0 then k.toNat else s.next + 1 : Nat) : Int) := by
      have := hk rfl
      split <;> omega
    rw [hv] at hwork
    refine (step_go sb ra rb 8 rd k w s.regs p _ c s.next stop tr0 s.steps hst (by omega) (by omega) 3 0 _ (by omega) (by omega) (by omega) (by omega) ⟨sb, 9, none⟩ (.int .i64 ((if s.regs.getD ra 0 = 0 then k.toNat else s.next + 1 : Nat) : Int)) hwork ?_).mono ?_
    · intro W hW
      rw [hw2] at hW
      have h1 := hst2.below hW (by omega)
      exact put_next sb 0 _ _ W (by have := hW.size; omega) h1.cNext (h1.frozen 9)
    · rintro e w' ⟨rfl, hb⟩
      rw [hw2] at hb
      refine ⟨rfl, (hb2.setCell hB _).trans (hb.mono (by omega)), (hst2.setNext _).below hb (by omega), (hown2.far hne).below hb hwb⟩
  · by_cases he : (eff ⟨op, rd, ra, rb, k⟩ (s.regs.getD ra 0) (s.regs.getD rb 0) s.mem).1 = 0
    · by_cases h7 : op = 7
      · subst h7
        have hin := eff7_in he
        have e0 := eff7 (rd := rd) (ra := ra) (rb := rb) (b := s.regs.getD rb 0) hin
        have e1 : wk ⟨7, rd, ra, rb, k⟩ s.next (s.regs.getD ra 0) (s.regs.getD rb 0) s.mem = (2, wrap64 (s.regs.getD ra 0 + k), s.regs.getD rb 0, 0) := wk7 e0
        have e2 : doOne ⟨7, rd, ra, rb, k⟩ s = (0, ⟨s.regs, s.mem.set (wrap64 (s.regs.getD ra 0 + k)).toNat (s.regs.getD rb 0), s.next + 1, s.steps + 1⟩) := doOne7 e0
        rw [e1] at hwork
        rw [e2]
        obtain ⟨j, hj⟩ : ∃ j : Nat, wrap64 (s.regs.getD ra 0 + k) = j := ⟨(wrap64 (s.regs.getD ra 0 + k)).toNat, by omega⟩
        rw [hj] at hwork hin ⊢
        have hjl : j < s.mem.length := by omega
        obtain ⟨mb, off, hp, hmb, hcell⟩ := hrd.at hjl
        rcases hown.form with ⟨hn1, hn2⟩ | ⟨g, cap, cur, hn1, hn2, hn3, hn4, hn5, hn6, hn7, hn8⟩
        · rw [hn2] at hjl; simp at hjl
        simp only [Value.slice.injEq] at hn1
        obtain ⟨rfl, -, rfl⟩ := hn1
        have hgsb : g ≠ sb := fun e => hne (by simp [Value.ownBlock, e])
        refine (step_go sb ra rb 7 rd k w s.regs (some ⟨g, 0, none⟩) _ c s.next stop tr0 s.steps hst (by omega) (by omega) 2 _ _ (by omega) (by omega) (by omega) (by omega) ⟨g, j, none⟩ (.int .i64 (s.regs.getD rb 0)) hwork ?_).mono ?_
        · intro W hW
          rw [hw2] at hW
          have h1 := hst2.below hW (by omega)
          have h2 := hown2.below hW hwb
          obtain ⟨_, _, h3, h4⟩ := h2.slice
          simp only [Value.slice.injEq] at h3
          obtain ⟨rfl, -, rfl⟩ := h3
          obtain ⟨_, _, h5, _, h6⟩ := h4.at hjl
          simp only [Option.some.injEq, Addr.mk.injEq, and_true] at h5
          obtain ⟨rfl, rfl⟩ := h5
          have h7 := h6 j hjl
          rw [Nat.zero_add] at h7
          exact put_word sb g j _ c _ _ W hjl (by have := hW.size; omega) (by have := hW.size; omega) h1.cMv h7 (World.ownsRow.frozenAt h2 j)
        · rintro e w' ⟨rfl, hb⟩
          rw [hw2] at hb
          have h9 := (hown2.setWord j (s.regs.getD rb 0)).below hb hwb
          refine ⟨rfl, (hb2.setCell hn2 _).trans (hb.mono (by omega)), (hst2.far (Ne.symm hgsb)).below hb (by omega), ?_⟩
          simpa using h9
      · have e1 : wk ⟨op, rd, ra, rb, k⟩ s.next (s.regs.getD ra 0) (s.regs.getD rb 0) s.mem = (1, (rd : Int), (eff ⟨op, rd, ra, rb, k⟩ (s.regs.getD ra 0) (s.regs.getD rb 0) s.mem).2.1, 0) := wk_reg h8 h7 he
        have e2 : doOne ⟨op, rd, ra, rb, k⟩ s = (0, ⟨s.regs.set rd (eff ⟨op, rd, ra, rb, k⟩ (s.regs.getD ra 0) (s.regs.getD rb 0) s.mem).2.1, s.mem, s.next + 1, s.steps + 1⟩) := doOne_reg h8 h7 he
        rw [e1] at hwork
        rw [e2]
        refine (step_go sb ra rb op rd k w s.regs p _ c s.next stop tr0 s.steps hst (by omega) (by omega) 1 _ _ (by omega) (by omega) (by omega) (by omega) ⟨sb, rd, none⟩ (.int .i64 (eff ⟨op, rd, ra, rb, k⟩ (s.regs.getD ra 0) (s.regs.getD rb 0) s.mem).2.1) hwork ?_).mono ?_
        · intro W hW
          rw [hw2] at hW
          have h1 := hst2.below hW (by omega)
          exact put_reg sb rd _ _ W (by omega) (by have := hW.size; omega) (h1.reg (by omega)) (h1.frozen rd)
        · rintro e w' ⟨rfl, hb⟩
          rw [hw2] at hb
          exact ⟨rfl, (hb2.setCell hB _).trans (hb.mono (by omega)), (hst2.setReg (by omega) _).below hb (by omega), (hown2.far hne).below hb hwb⟩
    · have e1 : wk ⟨op, rd, ra, rb, k⟩ s.next (s.regs.getD ra 0) (s.regs.getD rb 0) s.mem = (0, 0, 0, (eff ⟨op, rd, ra, rb, k⟩ (s.regs.getD ra 0) (s.regs.getD rb 0) s.mem).1) := wk_trap h8 he
      have e2 : doOne ⟨op, rd, ra, rb, k⟩ s = ((eff ⟨op, rd, ra, rb, k⟩ (s.regs.getD ra 0) (s.regs.getD rb 0) s.mem).1, s) := doOne_trap h8 he
      rw [e1] at hwork
      rw [e2]
      refine (step_trap sb ra rb op rd k w s.regs p _ c s.next stop tr0 s.steps hst (by omega) (by omega) 0 0 0 _ (by simpa using he) hwork).mono ?_
      rintro e w' ⟨rfl, hb⟩
      exact ⟨rfl, hb.mono hBw, hst.below hb hsb, hown.below hb hwb⟩

end Go.Proofs.YtmeiogoodbnkkaaGreat
