/- The table of what each order does, and what catches a trap. -/
import Derived.Test.YtajdmkkiiapdeaaH
import Derived.Laws.EntriesVeiled
import Derived.Defers
import Derived.Recover
namespace Go.Proofs.Ytajdmkkiiapdeaa
open Go.RowKit

abbrev tableVal : Value := .agg #[.func (.func 60) #[] #[], .func (.func 61) #[] #[], .func (.func 62) #[] #[], .func (.func 63) #[] #[], .func (.func 64) #[] #[], .func (.func 65) #[] #[], .func (.func 66) #[] #[], .func (.func 67) #[] #[], .func (.func 68) #[] #[]]

set_option maxHeartbeats 1000000 in
theorem table_any (w : World) : Calls Try.prog 59 #[] w fun e w' => e = .returned tableVal ∧ Below w.heap.size w w' := by
  go_enter Try.func59, Try.ntmps59
  go_wp2
  exact bodyPost_ret (v := tableVal) (by simp [results, Try.results59, go_sem]) rfl ⟨rfl, ((Below.refl _ _).alloc (Nat.le_refl _) _)⟩

set_option maxHeartbeats 1000000 in
theorem catch_idle (p : Addr) (w : World) :
    CallsD Try.prog 58 #[.pointer (some p)] .returning w fun e u' w' => e = .returned (.tuple #[]) ∧ u' = .returning ∧ w' = w := by
  refine callsD_of_wpS Try.func58 rfl fun c₀ cs hu => ?_
  apply wpS_seq
  apply wpS_region
  simp [wpOpsS, go_sem, recoverD, hu, Try.ntmps58, Exit.thenS]
  refine wpS_of_wp ?_
  go_wp2
  cases c₀
  simp_all [bodyPostS, results, Try.results58]

theorem run_typeAssert_trap (t : Int) (w : World) : (Instr.typeAssert (.iface 96 (.int .i64 t)) 20 96 true).run Try.prog w = .ok (.tuple #[.int .i64 t, .bool true]) w := by
  simp [Instr.typeAssert, run_underlying Try.underlying96, go_sem, Result.andThen]

set_option maxRecDepth 100000 in
set_option maxHeartbeats 1000000 in
theorem catch_trap (p : Addr) (x t : Int) (older : List PanicEntry) (w : World) (hc : w.cell? p = some (.int .i64 x)) (hz : w.frozen? p = false) :
    CallsD Try.prog 58 #[.pointer (some p)] (.panicking ({ v := .iface 96 (.int .i64 t), recovered := false } :: older)) w fun e u' w' =>
      e = .returned (.tuple #[]) ∧ u' = .panicking ({ v := .iface 96 (.int .i64 t), recovered := true } :: older) ∧ w' = w.setCell p (.int .i64 t) := by
  refine callsD_of_wpS Try.func58 rfl fun c₀ cs hu => ?_
  apply wpS_seq
  apply wpS_region
  simp [wpOpsS, go_sem, recoverD, hu, Try.ntmps58, Exit.thenS]
  refine wpS_of_wp ?_
  have hta := run_typeAssert_trap t
  change Code.wp _ _ _ ⟨#[.pointer (some p), undef, undef, undef, .iface 96 (.int .i64 t), undef, undef, undef, undef, undef, undef], []⟩ w
  go_wp2
  cases c₀
  simp_all [bodyPostS, results, Try.results58]

end Go.Proofs.Ytajdmkkiiapdeaa
