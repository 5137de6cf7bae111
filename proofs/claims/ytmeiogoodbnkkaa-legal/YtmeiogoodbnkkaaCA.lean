/- The leaves: small functions that compute alone. -/
import Derived.Test.YtmeiogoodbnkkaaRows
import Derived.Test.YtmeiogoodbnkkaaCLPM
import Derived.WalkKit
import Derived.WalkSpells
import Derived.WalkLawsBesides
namespace Go.Proofs.Ytmeiogoodbnkkaa
open Go.RowKit


set_option maxHeartbeats 400000 in
theorem isRegister_any (a : Int) (w : World) :
    Calls Try.prog 53 #[.int .i64 a] w fun e w' => e = .returned (.bool (isReg a)) ∧ w' = w := by
  by_cases h0 : 0 ≤ a
  · by_cases h1 : a < 8
    · go_enter Try.func53, Try.ntmps53
      go_wp2
      go_ret
      exact ⟨ret_bool (isReg_yes h0 (by omega)).symm, rfl⟩
    · go_enter Try.func53, Try.ntmps53
      go_wp2
      go_ret
      exact ⟨ret_bool (isReg_high (by omega)).symm, rfl⟩
  · go_enter Try.func53, Try.ntmps53
    go_wp2
    go_ret
    exact ⟨ret_bool (isReg_low (by omega)).symm, rfl⟩

end Go.Proofs.Ytmeiogoodbnkkaa
