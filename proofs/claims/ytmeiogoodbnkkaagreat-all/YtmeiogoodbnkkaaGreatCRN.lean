/- What undoes an effect. -/
import Derived.Test.YtmeiogoodbnkkaaGreatCP1Q
import Derived.BigRegion
namespace Go.Proofs.YtmeiogoodbnkkaaGreat
open Go.RowKit

set_option maxRecDepth 10000 in
set_option maxHeartbeats 2000000 in
theorem reverse_reg (sb off j : Nat) (v x : Int) (w : World) (hj : j < 8) (hsb : sb < w.heap.size) (hc : w.cell? ⟨sb, off + j, none⟩ = some (.int .i64 x)) :
    Calls Tryz.prog 99 #[.agg #[.int .i64 1, .int .i64 j, .int .i64 v], .pointer (some ⟨sb, off, none⟩)] w fun e w' => e = .returned (.agg #[.int .i64 1, .int .i64 j, .int .i64 x]) ∧ Below w.heap.size w w' := by
  have hne : ¬ w.heap.size = sb := by omega
  have hne1 : ¬ w.heap.size + 1 = sb := by omega
  have hj0 : (0 : Int) ≤ (j : Int) := by omega
  have hj1 : (j : Int) < 8 := by omega
  go_enter Tryz.func99, Tryz.ntmps99
  go_wp2
  go_region
  go_wp2
  refine bodyPost_ret (v := .agg #[.int .i64 1, .int .i64 j, .int .i64 x]) (by simp [results, Tryz.results99, go_sem]) rfl ⟨rfl, ?_⟩
  repeat (first | refine Below.setCell ?_ (by simp) _ | refine Below.drew ?_)
  exact ((Below.refl _ _).alloc (Nat.le_refl _) _).alloc (by simp) _

set_option maxRecDepth 10000 in
set_option maxHeartbeats 2000000 in
theorem reverse_word (sb off mb j n cap : Nat) (v x : Int) (w : World) (hj : j < n) (hsb : sb < w.heap.size) (hmb : mb < w.heap.size) (hm : w.cell? ⟨sb, off + 8, none⟩ = some (.slice (some ⟨mb, 0, none⟩) n cap)) (hc : w.cell? ⟨mb, j, none⟩ = some (.int .i64 x)) :
    Calls Tryz.prog 99 #[.agg #[.int .i64 2, .int .i64 j, .int .i64 v], .pointer (some ⟨sb, off, none⟩)] w fun e w' => e = .returned (.agg #[.int .i64 2, .int .i64 j, .int .i64 x]) ∧ Below w.heap.size w w' := by
  have hne : ¬ w.heap.size = sb := by omega
  have hne1 : ¬ w.heap.size + 1 = sb := by omega
  have hne2 : ¬ w.heap.size = mb := by omega
  have hne3 : ¬ w.heap.size + 1 = mb := by omega
  have hj0 : (0 : Int) ≤ (j : Int) := by omega
  have hj1 : (j : Int) < n := by omega
  go_enter Tryz.func99, Tryz.ntmps99
  go_wp2
  go_region
  go_wp2
  refine bodyPost_ret (v := .agg #[.int .i64 2, .int .i64 j, .int .i64 x]) (by simp [results, Tryz.results99, go_sem]) rfl ⟨rfl, ?_⟩
  repeat (first | refine Below.setCell ?_ (by simp) _ | refine Below.drew ?_)
  exact ((Below.refl _ _).alloc (Nat.le_refl _) _).alloc (by simp) _

end Go.Proofs.YtmeiogoodbnkkaaGreat
