/- What each order does: the methods. -/
import Derived.Test.YtmeiogoodbnkkaaGreatRows
import Derived.Test.YtmeiogoodbnkkaaGreatL
import Derived.WalkLawsBesides
import Derived.Deep.QuietTactic
import Derived.BigQuiet
import Derived.Deep.RegionHeld3
namespace Go.Proofs.YtmeiogoodbnkkaaGreat
open Go.RowKit

/-- What goes in to an order's work. -/
abbrev inp (o : Ord) (n a b : Int) (p : Option Addr) (m c : Nat) : Value :=
  .agg #[.int .i64 o.op, .int .i64 o.d, .int .i64 o.a, .int .i64 o.b, .int .i64 o.k, .int .i64 n, .int .i64 a, .int .i64 b, .slice p m c]

set_option maxHeartbeats 400000 in
theorem intoD_any (o : Ord) (n a b v : Int) (p : Option Addr) (m c : Nat) (w : World) :
    Calls Tryz.prog 108 #[inp o n a b p m c, .int .i64 v] w fun e w' => e = .returned (.agg #[.int .i64 1, .int .i64 o.d, .int .i64 v]) ∧ Below w.heap.size w w' := by
  go_enter Tryz.func108, Tryz.ntmps108
  go_wp2
  exact bodyPost_ret (v := .agg #[.int .i64 1, .int .i64 o.d, .int .i64 v]) (by simp [results, Tryz.results108, go_sem]) rfl ⟨rfl, (((Below.refl _ _).alloc (Nat.le_refl _) _).alloc (by simp) _)⟩

set_option maxHeartbeats 400000 in
theorem set_any (o : Ord) (n a b : Int) (p : Option Addr) (m c : Nat) (w : World) :
    Calls Tryz.prog 89 #[inp o n a b p m c] w fun e w' => e = .returned (.agg #[.int .i64 1, .int .i64 o.d, .int .i64 o.k]) ∧ Below w.heap.size w w' := by
  go_enter Tryz.func89, Tryz.ntmps89
  go_wp2_with (go_at_call 108; refine (intoD_any _ _ _ _ _ _ _ _ _).mono ?_; rintro e w1 ⟨rfl, hb1⟩; obtain ⟨hc1, hf1⟩ := bcell hb1)
  have hz := hb1.size
  simp at hz
  refine bodyPost_ret (v := .agg #[.int .i64 1, .int .i64 o.d, .int .i64 o.k]) (by simp [results, Tryz.results89, go_sem, hc1]) rfl ⟨rfl, ?_⟩
  exact ((((((Below.refl _ _).alloc (Nat.le_refl _) _).alloc (by simp) _).trans (hb1.mono (by simp; omega))).setCell (by simp) _).setCell (by simp) _).setCell (by simp) _

set_option maxHeartbeats 400000 in
theorem add_any (o : Ord) (n a b : Int) (p : Option Addr) (m c : Nat) (w : World) :
    Calls Tryz.prog 90 #[inp o n a b p m c] w fun e w' => e = .returned (.agg #[.int .i64 1, .int .i64 o.d, .int .i64 (wrap64 (a + b))]) ∧ Below w.heap.size w w' := by
  go_enter Tryz.func90, Tryz.ntmps90
  go_wp2_with (go_at_call 108; refine (intoD_any _ _ _ _ _ _ _ _ _).mono ?_; rintro e w1 ⟨rfl, hb1⟩; obtain ⟨hc1, hf1⟩ := bcell hb1)
  have hz := hb1.size
  simp at hz
  refine bodyPost_ret (v := .agg #[.int .i64 1, .int .i64 o.d, .int .i64 (wrap64 (a + b))]) (by simp [results, Tryz.results90, go_sem, hc1]) rfl ⟨rfl, ?_⟩
  exact ((((((Below.refl _ _).alloc (Nat.le_refl _) _).alloc (by simp) _).trans (hb1.mono (by simp; omega))).setCell (by simp) _).setCell (by simp) _).setCell (by simp) _

set_option maxHeartbeats 400000 in
theorem sub_any (o : Ord) (n a b : Int) (p : Option Addr) (m c : Nat) (w : World) :
    Calls Tryz.prog 91 #[inp o n a b p m c] w fun e w' => e = .returned (.agg #[.int .i64 1, .int .i64 o.d, .int .i64 (wrap64 (a - b))]) ∧ Below w.heap.size w w' := by
  go_enter Tryz.func91, Tryz.ntmps91
  go_wp2_with (go_at_call 108; refine (intoD_any _ _ _ _ _ _ _ _ _).mono ?_; rintro e w1 ⟨rfl, hb1⟩; obtain ⟨hc1, hf1⟩ := bcell hb1)
  have hz := hb1.size
  simp at hz
  refine bodyPost_ret (v := .agg #[.int .i64 1, .int .i64 o.d, .int .i64 (wrap64 (a - b))]) (by simp [results, Tryz.results91, go_sem, hc1]) rfl ⟨rfl, ?_⟩
  exact ((((((Below.refl _ _).alloc (Nat.le_refl _) _).alloc (by simp) _).trans (hb1.mono (by simp; omega))).setCell (by simp) _).setCell (by simp) _).setCell (by simp) _

set_option maxHeartbeats 400000 in
theorem mul_any (o : Ord) (n a b : Int) (p : Option Addr) (m c : Nat) (w : World) :
    Calls Tryz.prog 92 #[inp o n a b p m c] w fun e w' => e = .returned (.agg #[.int .i64 1, .int .i64 o.d, .int .i64 (wrap64 (a * b))]) ∧ Below w.heap.size w w' := by
  go_enter Tryz.func92, Tryz.ntmps92
  go_wp2_with (go_at_call 108; refine (intoD_any _ _ _ _ _ _ _ _ _).mono ?_; rintro e w1 ⟨rfl, hb1⟩; obtain ⟨hc1, hf1⟩ := bcell hb1)
  have hz := hb1.size
  simp at hz
  refine bodyPost_ret (v := .agg #[.int .i64 1, .int .i64 o.d, .int .i64 (wrap64 (a * b))]) (by simp [results, Tryz.results92, go_sem, hc1]) rfl ⟨rfl, ?_⟩
  exact ((((((Below.refl _ _).alloc (Nat.le_refl _) _).alloc (by simp) _).trans (hb1.mono (by simp; omega))).setCell (by simp) _).setCell (by simp) _).setCell (by simp) _

set_option maxHeartbeats 400000 in
theorem jump_zero (o : Ord) (n b : Int) (p : Option Addr) (m c : Nat) (w : World) :
    Calls Tryz.prog 96 #[inp o n 0 b p m c] w fun e w' => e = .returned (.agg #[.int .i64 3, .int .i64 0, .int .i64 o.k]) ∧ Below w.heap.size w w' := by
  go_enter Tryz.func96, Tryz.ntmps96
  go_wp2
  exact bodyPost_ret (v := .agg #[.int .i64 3, .int .i64 0, .int .i64 o.k]) (by simp [results, Tryz.results96, go_sem]) rfl ⟨rfl, (((Below.refl _ _).alloc (Nat.le_refl _) _).alloc (by simp) _)⟩

set_option maxHeartbeats 400000 in
theorem jump_on (o : Ord) (n a b : Int) (p : Option Addr) (m c : Nat) (w : World) (ha : (a == 0) = false) (hn0 : 0 ≤ n) (hn : n ≤ 1000) :
    Calls Tryz.prog 96 #[inp o n a b p m c] w fun e w' => e = .returned (.agg #[.int .i64 3, .int .i64 0, .int .i64 (n + 1)]) ∧ Below w.heap.size w w' := by
  go_enter Tryz.func96, Tryz.ntmps96
  go_wp2
  exact bodyPost_ret (v := .agg #[.int .i64 3, .int .i64 0, .int .i64 (n + 1)]) (by simp [results, Tryz.results96, go_sem]) rfl ⟨rfl, (((Below.refl _ _).alloc (Nat.le_refl _) _).alloc (by simp) _)⟩

set_option maxHeartbeats 400000 in
theorem place_in (o : Ord) (n a b : Int) (p : Option Addr) (m c : Nat) (w : World) (at' : Int) (hat : wrap64 (a + o.k) = at') (h0 : 0 ≤ at') (h1 : at' < m) :
    Calls Tryz.prog 109 #[inp o n a b p m c] w fun e w' => e = .returned (.int .i64 at') ∧ Below w.heap.size w w' := by
  go_enter Tryz.func109, Tryz.ntmps109
  go_wp2
  go_ret
  exact ⟨rfl, (Below.refl _ _).alloc (Nat.le_refl _) _⟩

set_option maxHeartbeats 400000 in
theorem place_out (o : Ord) (n a b : Int) (p : Option Addr) (m c : Nat) (w : World) (at' : Int) (hat : wrap64 (a + o.k) = at') (h0 : at' < 0 ∨ (m : Int) ≤ at') :
    Calls Tryz.prog 109 #[inp o n a b p m c] w fun e w' => e = .panicked [{ v := .iface 124 (.int .i64 2), recovered := false }] ∧ Below w.heap.size w w' := by
  rcases h0 with h0 | h0
  · go_enter Tryz.func109, Tryz.ntmps109
    go_wp2
    exact ⟨rfl, rfl, (Below.refl _ _).alloc (Nat.le_refl _) _⟩
  · have h1 : ¬ at' < 0 := by omega
    go_enter Tryz.func109, Tryz.ntmps109
    go_wp2
    exact ⟨rfl, rfl, (Below.refl _ _).alloc (Nat.le_refl _) _⟩

set_option maxHeartbeats 400000 in
theorem div_zero (o : Ord) (n a : Int) (p : Option Addr) (m c : Nat) (w : World) :
    Calls Tryz.prog 93 #[inp o n a 0 p m c] w fun e w' => e = .panicked [{ v := .iface 124 (.int .i64 1), recovered := false }] ∧ Below w.heap.size w w' := by
  go_enter Tryz.func93, Tryz.ntmps93
  go_wp2
  exact ⟨rfl, rfl, ((Below.refl _ _).alloc (Nat.le_refl _) _).alloc (by simp) _⟩

end Go.Proofs.YtmeiogoodbnkkaaGreat
