/- The work of any order. -/
import Derived.Test.YtmeiogoodbnkkaaGreatJ1
import Derived.Test.YtmeiogoodbnkkaaGreatJ2
import Derived.Test.YtmeiogoodbnkkaaGreatJ3
import Derived.Test.YtmeiogoodbnkkaaGreatJ4
import Derived.Test.YtmeiogoodbnkkaaGreatM
namespace Go.Proofs.YtmeiogoodbnkkaaGreat
open Go.RowKit

set_option maxHeartbeats 1000000 in
theorem work_any (o : Ord) (n a b : Int) (p : Option Addr) (c : Nat) (mem : List Int) (w : World) (hrd : Rd w p mem) (h1 : 1 ≤ o.op) (h8 : o.op ≤ 8) (hn0 : 0 ≤ n) (hn : n ≤ 1000) :
    Calls Tryz.prog 62 #[inp o n a b p mem.length c] w fun e w' => e = .returned (.tuple #[.agg #[.int .i64 (wk o n a b mem).1, .int .i64 (wk o n a b mem).2.1, .int .i64 (wk o n a b mem).2.2.1], .int .i64 (wk o n a b mem).2.2.2]) ∧ Below w.heap.size w w' := by
  have hc : o.op = 1 ∨ o.op = 2 ∨ o.op = 3 ∨ o.op = 4 ∨ o.op = 5 ∨ o.op = 6 ∨ o.op = 7 ∨ o.op = 8 := by omega
  rcases hc with h | h | h | h | h | h | h | h
  · have e : wk o n a b mem = (1, o.d, o.k, 0) := by simp [wk, eff, h]
    rw [e]
    exact work_set o n a b p _ c w h 1 o.d o.k fun w' _ => set_any _ _ _ _ _ _ _ _
  · have e : wk o n a b mem = (1, o.d, wrap64 (a + b), 0) := by simp [wk, eff, h]
    rw [e]
    exact work_add o n a b p _ c w h 1 o.d _ fun w' _ => add_any _ _ _ _ _ _ _ _
  · have e : wk o n a b mem = (1, o.d, wrap64 (a - b), 0) := by simp [wk, eff, h]
    rw [e]
    exact work_sub o n a b p _ c w h 1 o.d _ fun w' _ => sub_any _ _ _ _ _ _ _ _
  · have e : wk o n a b mem = (1, o.d, wrap64 (a * b), 0) := by simp [wk, eff, h]
    rw [e]
    exact work_mul o n a b p _ c w h 1 o.d _ fun w' _ => mul_any _ _ _ _ _ _ _ _
  · by_cases hb : b = 0
    · have e : wk o n a b mem = (0, 0, 0, 1) := by simp [wk, eff, h, hb]
      rw [e]
      subst hb
      exact trap_div o n a 0 p _ c w h 1 fun w' _ => div_zero _ _ _ _ _ _ _
    · have e : wk o n a b mem = (1, o.d, wrap64 (a.tdiv b), 0) := by simp [wk, eff, h, hb]
      rw [e]
      exact work_div o n a b p _ c w h 1 o.d _ fun w' _ => div_some _ _ _ _ _ _ _ _ (by simpa using hb) hb
  · by_cases hat : wrap64 (a + o.k) < 0 ∨ (mem.length : Int) ≤ wrap64 (a + o.k)
    · have e : wk o n a b mem = (0, 0, 0, 2) := by simp [wk, eff, h, hat]
      rw [e]
      exact trap_load o n a b p _ c w h 2 fun w' _ => load_out _ _ _ _ _ _ _ _ _ rfl hat
    · have e : wk o n a b mem = (1, o.d, mem.getD (wrap64 (a + o.k)).toNat 0, 0) := by simp [wk, eff, h, hat]
      rw [e]
      have hj : (wrap64 (a + o.k)).toNat < mem.length := by omega
      obtain ⟨mb, off, rfl, hmb, hcell⟩ := hrd.at hj
      refine work_load o n a b _ _ c w h 1 o.d _ fun w' hb' => load_in o n a b mb off _ c w' (wrap64 (a + o.k)).toNat _ (by omega) hj (Nat.lt_of_lt_of_le hmb hb'.size) ?_
      rw [hb'.cell (show mb < w.heap.size from hmb)]
      exact hcell _ hj
  · by_cases hat : wrap64 (a + o.k) < 0 ∨ (mem.length : Int) ≤ wrap64 (a + o.k)
    · have e : wk o n a b mem = (0, 0, 0, 2) := by simp [wk, eff, h, hat]
      rw [e]
      exact trap_store o n a b p _ c w h 2 fun w' _ => store_out _ _ _ _ _ _ _ _ _ rfl hat
    · have e : wk o n a b mem = (2, wrap64 (a + o.k), b, 0) := by simp [wk, eff, h, hat]
      rw [e]
      exact work_store o n a b p _ c w h 2 (wrap64 (a + o.k)) b fun w' _ => store_in o n a b p _ c w' _ rfl (by omega) (by omega)
  · by_cases ha : a = 0
    · have e : wk o n a b mem = (3, 0, o.k, 0) := by simp [wk, h, ha]
      rw [e]
      subst ha
      exact work_jump o n 0 b p _ c w h 3 0 o.k fun w' _ => jump_zero _ _ _ _ _ _ _
    · have e : wk o n a b mem = (3, 0, n + 1, 0) := by simp [wk, h, ha]
      rw [e]
      exact work_jump o n a b p _ c w h 3 0 _ fun w' _ => jump_on _ _ _ _ _ _ _ _ (by simpa using ha) hn0 hn

end Go.Proofs.YtmeiogoodbnkkaaGreat
