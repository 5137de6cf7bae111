/- The row of the orders that were given out: its calls, and a range over what lies ahead of a place. -/
import Derived.Test.YtmeiogoodbnkkaaGreatRows
import Derived.Test.YtmeiogoodbnkkaaGreatCRA
import Derived.Test.YtmeiogoodbnkkaaGreatCLPM
import Derived.RangeFuncNested
import Derived.RangeFuncBound
import Derived.RangeFuncCalls
import Derived.RangeFuncLeaves
import Derived.Shelf.Abstract
import Derived.WalkKit
import Derived.OwnWalkIn
import Derived.TacticsInMore
import Derived.LoopNIn
import Derived.LoopIn
namespace Go.Proofs.YtmeiogoodbnkkaaGreat
open Go.RowKit

set_option maxHeartbeats 1000000 in
theorem tLen_any (rb ro n c : Nat) (p : Option Addr) (w : World) (hc : w.cell? ⟨rb, ro, none⟩ = some (.slice p n c)) :
    Calls Tryz.prog 72 #[.pointer (some ⟨rb, ro, none⟩)] w fun e w' => e = .returned (.int .i64 n) ∧ w' = w := by
  go_enter Tryz.func72, Tryz.ntmps72
  go_wp2
  go_ret
  exact ⟨rfl, rfl⟩

set_option maxHeartbeats 1000000 in
theorem tAt_any (rb ro g n c i : Nat) (w : World) (hc : w.cell? ⟨rb, ro, none⟩ = some (.slice (some ⟨g, 0, none⟩) n c)) (hi : i < n) :
    Calls Tryz.prog 71 #[.pointer (some ⟨rb, ro, none⟩), .int .i64 i] w fun e w' => e = .returned (.pointer (some ⟨g, i * 17, none⟩)) ∧ w' = w := by
  have h0 : (0 : Int) ≤ (i : Int) := by omega
  have h1 : (i : Int) < (n : Int) := by omega
  go_enter Tryz.func71, Tryz.ntmps71
  go_wp2
  go_ret
  exact ⟨rfl, rfl⟩

set_option maxHeartbeats 1000000 in
theorem tAhead_any (r : Option Addr) (k : Int) (w : World) :
    Calls Tryz.prog 73 #[.pointer r, .int .i64 k] w fun e w' => e = .returned (.func (.func 87) #[] #[.pointer (some ⟨w.heap.size + 1, 0, none⟩), .pointer (some ⟨w.heap.size, 0, none⟩)]) ∧
      w' = (w.alloc (.cells #[.pointer r] 141)).alloc (.cells #[.int .i64 k] 3) := by
  go_enter Tryz.func73, Tryz.ntmps73
  go_wp2
  go_ret
  exact ⟨rfl, rfl⟩

/-- The first k of N. -/
def uptoN (N : Nat) : (k : Nat) → k ≤ N → List (Fin N)
  | 0, _ => []
  | k + 1, h => uptoN N k (Nat.le_of_lt h) ++ [⟨k, h⟩]

theorem uptoN_length {N : Nat} : ∀ (k : Nat) (h : k ≤ N), (uptoN N k h).length = k
  | 0, _ => rfl
  | k + 1, h => by simp [uptoN, uptoN_length k]

theorem uptoN_map {N : Nat} : ∀ (k : Nat) (h : k ≤ N), (uptoN N k h).map (fun x => x.1) = List.range k
  | 0, _ => rfl
  | k + 1, h => by simp [uptoN, uptoN_map k, List.range_succ]

/-- What a round must leave: the two boxes of the range, the row's head. -/
def KpA (bP bR rb ro : Nat) (W W' : World) : Prop :=
  W'.cell? ⟨bP, 0, none⟩ = W.cell? ⟨bP, 0, none⟩ ∧ W'.cell? ⟨bR, 0, none⟩ = W.cell? ⟨bR, 0, none⟩ ∧ W'.cell? ⟨rb, ro, none⟩ = W.cell? ⟨rb, ro, none⟩

theorem KpA.refl {bP bR rb ro : Nat} (W : World) : KpA bP bR rb ro W W := ⟨rfl, rfl, rfl⟩
theorem KpA.trans {bP bR rb ro : Nat} {A B C : World} (h : KpA bP bR rb ro A B) (k : KpA bP bR rb ro B C) : KpA bP bR rb ro A C := ⟨k.1.trans h.1, k.2.1.trans h.2.1, k.2.2.trans h.2.2⟩

set_option maxHeartbeats 4000000 in
theorem ahead1_in (m l bP bR rb ro G len cap N : Nat) (p : Option Addr) (J Jx : List (Fin N) → World → Prop)
    (hY : ∀ pre x W, J pre W → pre.length < N → YieldAt Fence.wide m Tryz.prog l #[.int .i64 ((x : Fin N).1 : Nat), .pointer (some ⟨G, x.1 * 17, none⟩)] W fun e W' =>
      (e = .returned (.bool true) ∧ J (pre ++ [x]) W' ∧ KpA bP bR rb ro W W') ∨ (e = .returned (.bool false) ∧ Jx (pre ++ [x]) W'))
    (W : World) (hP : W.cell? ⟨bP, 0, none⟩ = some (.int .i64 N)) (hR : W.cell? ⟨bR, 0, none⟩ = some (.pointer (some ⟨rb, ro, none⟩))) (hH : W.cell? ⟨rb, ro, none⟩ = some (.slice p len cap))
    (hN : N ≤ len) (hp : 0 < N → p = some ⟨G, 0, none⟩) (hsm : len ≤ 1000000) (h0 : J [] W) :
    CallsIn Fence.wide (m + 1) Tryz.prog 87 #[.func (.yield l) #[] #[], .pointer (some ⟨bP, 0, none⟩), .pointer (some ⟨bR, 0, none⟩)] W fun e W' => (∃ v, e = .returned v) ∧
      ((∃ xs, xs.map (fun x => x.1) = List.range N ∧ J xs W') ∨ (∃ pre, (∃ k, k < N ∧ pre.map (fun x => x.1) = List.range (k + 1)) ∧ Jx pre W')) := by
  refine callsIn_of_wp Tryz.func87 rfl trivial ?_ rfl
  simp only [Tryz.ntmps87, List.size_toArray, List.length_cons, List.length_nil, Nat.reduceAdd, Nat.reduceSub, Array.replicate_succ, Array.replicate_zero, List.push_toArray, List.append_toArray, List.nil_append, List.cons_append]
  gi_wp2
  gi_loopw [6] (fun i wr => ∃ (k : Nat) (hk : k ≤ N), i = .int .i64 k ∧ J (uptoN N k hk) wr ∧ KpA bP bR rb ro W wr) (fun i _ => N - (intOf i).toNat)
  case atStart => exact ⟨0, Nat.zero_le _, rfl, h0, KpA.refl _⟩
  case round =>
    obtain ⟨k, hk, rfl, hJ, hkp⟩ := hrel
    by_cases hlt : k < N
    · have hJ1 := hide hJ
      have hp' := hp (by omega)
      subst hp'
      have c1 := hkp.2.1.trans hR
      have c2 := hkp.2.2.trans hH
      have t1 : ((k : Int) < (N : Int)) := by omega
      obtain ⟨fn, tmps, assign, body, hy, hRd⟩ := hY _ ⟨k, hlt⟩ wr hJ1.out (by rw [uptoN_length]; exact hlt)
      dsimp only at hy
      gi_wp2_with (refine ⟨trivial, ?_⟩; gi_at_call 71; refine (callsIn_wide.2 (tAt_any rb ro G len cap k _ c2 (by omega))).mono ?_; rintro e w' ⟨rfl, rfl⟩)
      refine hRd.mono ?_
      rintro e W3 (⟨rfl, hJ3, hk3⟩ | ⟨rfl, hJx3⟩)
      · gi_wp2
        go_roundw
        case rel => exact ⟨k + 1, hlt, by go_num, hJ3, hkp.trans hk3⟩
        case measure => simp [intOf]; omega
      · gi_wp2
        refine bodyPost_ret (results_none rfl _ _ _) rfl ?_
        exact ⟨⟨_, rfl⟩, .inr ⟨_, ⟨k, hlt, by simp [uptoN_map, List.range_succ]⟩, hJx3⟩⟩
    · have t1 : ¬ ((k : Int) < (N : Int)) := by omega
      gi_wp2
      go_end0
      exact ⟨⟨_, rfl⟩, .inl ⟨_, by rw [uptoN_map]; congr 1; omega, hJ⟩⟩

end Go.Proofs.YtmeiogoodbnkkaaGreat
