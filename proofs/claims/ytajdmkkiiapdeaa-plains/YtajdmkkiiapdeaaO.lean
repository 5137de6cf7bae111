/- What an order has done is put into the state. -/
import Derived.Test.YtajdmkkiiapdeaaRows
import Derived.Test.YtajdmkkiiapdeaaM
import Derived.WalkLawsBesides
import Derived.Deep.QuietTactic
import Derived.BigQuiet
import Derived.Deep.RegionHeld3
namespace Go.Proofs.Ytajdmkkiiapdeaa
open Go.RowKit

set_option maxHeartbeats 1000000 in
theorem put_next (sb : Nat) (pl v : Int) (x : Value) (w : World) (hsb : sb < w.heap.size) (hc : w.cell? ⟨sb, 9, none⟩ = some x) (hf : w.frozen? ⟨sb, 9, none⟩ = false) :
    Calls Try.prog 54 #[.pointer (some ⟨sb, 0, none⟩), .agg #[.int .i64 3, .int .i64 pl, .int .i64 v]] w fun e w' => e = .returned (.tuple #[]) ∧ Below w.heap.size (w.setCell ⟨sb, 9, none⟩ (.int .i64 v)) w' := by
  have hne : ¬ w.heap.size = sb := by omega
  go_enter Try.func54, Try.ntmps54
  go_wp2
  go_end0
  exact ⟨rfl, (Below.refl _ _).alloc (by simp) _⟩

set_option maxHeartbeats 1000000 in
theorem put_reg (sb j : Nat) (v : Int) (x : Value) (w : World) (hj : j < 8) (hsb : sb < w.heap.size) (hc : w.cell? ⟨sb, j, none⟩ = some x) (hf : w.frozen? ⟨sb, j, none⟩ = false) :
    Calls Try.prog 54 #[.pointer (some ⟨sb, 0, none⟩), .agg #[.int .i64 1, .int .i64 j, .int .i64 v]] w fun e w' => e = .returned (.tuple #[]) ∧ Below w.heap.size (w.setCell ⟨sb, j, none⟩ (.int .i64 v)) w' := by
  have hne : ¬ w.heap.size = sb := by omega
  have hj0 : (0 : Int) ≤ (j : Int) := by omega
  have hj1 : (j : Int) < 8 := by omega
  go_enter Try.func54, Try.ntmps54
  go_wp2
  go_region
  go_wp2
  go_end0
  exact ⟨rfl, ((Below.refl _ _).alloc (by simp) _).drew⟩

set_option maxHeartbeats 1000000 in
theorem put_word (sb mb j n cap : Nat) (v : Int) (x : Value) (w : World) (hj : j < n) (hsb : sb < w.heap.size) (hmb : mb < w.heap.size) (hm : w.cell? ⟨sb, 8, none⟩ = some (.slice (some ⟨mb, 0, none⟩) n cap))
    (hc : w.cell? ⟨mb, j, none⟩ = some x) (hf : w.frozen? ⟨mb, j, none⟩ = false) :
    Calls Try.prog 54 #[.pointer (some ⟨sb, 0, none⟩), .agg #[.int .i64 2, .int .i64 j, .int .i64 v]] w fun e w' => e = .returned (.tuple #[]) ∧ Below w.heap.size (w.setCell ⟨mb, j, none⟩ (.int .i64 v)) w' := by
  have hne : ¬ w.heap.size = sb := by omega
  have hne' : ¬ w.heap.size = mb := by omega
  have hj0 : (0 : Int) ≤ (j : Int) := by omega
  have hj1 : (j : Int) < n := by omega
  go_enter Try.func54, Try.ntmps54
  go_wp2
  go_region
  go_wp2
  go_end0
  exact ⟨rfl, ((Below.refl _ _).alloc (by simp) _).drew⟩

end Go.Proofs.Ytajdmkkiiapdeaa
