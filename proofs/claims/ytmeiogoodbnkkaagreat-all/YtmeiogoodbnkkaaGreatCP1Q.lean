/- Several texts in one: P1, F, G, H, Q. -/
import Derived.Test.YtmeiogoodbnkkaaGreatRows
import Derived.Test.YtmeiogoodbnkkaaGreatCLPM
import Derived.WalkLawsBesides
import Derived.Deep.QuietTactic
import Derived.BigQuiet
import Derived.Deep.RegionHeld3
/- What an order takes out of the state, and what it puts into it, wherever the state lies. -/
namespace Go.Proofs.YtmeiogoodbnkkaaGreat
open Go.RowKit

set_option maxRecDepth 100000 in
set_option maxHeartbeats 4000000 in
theorem take_any (sb off ra rb : Nat) (op d k number xa xb : Int) (p : Option Addr) (m c : Nat) (w : World) (hra : ra < 8) (hrb : rb < 8) (hsb : sb < w.heap.size) (ha : w.cell? ⟨sb, off + ra, none⟩ = some (.int .i64 xa)) (hb : w.cell? ⟨sb, off + rb, none⟩ = some (.int .i64 xb))
    (hm : w.cell? ⟨sb, off + 8, none⟩ = some (.slice p m c)) :
    Calls Tryz.prog 63 #[.pointer (some ⟨sb, off, none⟩), .agg #[.int .i64 op, .int .i64 d, .int .i64 ra, .int .i64 rb, .int .i64 k], .int .i64 number] w fun e w' =>
      e = .returned (.agg #[.int .i64 op, .int .i64 d, .int .i64 ra, .int .i64 rb, .int .i64 k, .int .i64 number, .int .i64 xa, .int .i64 xb, .slice p m c]) ∧ Below w.heap.size w w' := by
  have ra0 : (0 : Int) ≤ (ra : Int) := by omega
  have ra1 : (ra : Int) < 8 := by omega
  have rb0 : (0 : Int) ≤ (rb : Int) := by omega
  have rb1 : (rb : Int) < 8 := by omega
  obtain ⟨W1, hW1⟩ : ∃ W1, W1 = w.alloc (.cells #[.int .i64 op, .int .i64 d, .int .i64 ra, .int .i64 rb, .int .i64 k] 40) := ⟨_, rfl⟩
  have hbox : ∀ w', Below (w.heap.size + 1) W1 w' → w'.cell? ⟨w.heap.size, 0, none⟩ = some (.int .i64 op) ∧ w'.cell? ⟨w.heap.size, 1, none⟩ = some (.int .i64 d) ∧ w'.cell? ⟨w.heap.size, 2, none⟩ = some (.int .i64 ra) ∧ w'.cell? ⟨w.heap.size, 3, none⟩ = some (.int .i64 rb) ∧ w'.cell? ⟨w.heap.size, 4, none⟩ = some (.int .i64 k) := by
    intro w' h
    have hc : ∀ j, w'.cell? ⟨w.heap.size, j, none⟩ = W1.cell? ⟨w.heap.size, j, none⟩ := fun j => h.cell (p := ⟨w.heap.size, j, none⟩) (Nat.lt_succ_self _)
    subst hW1
    simp [hc, go_sem]
  have r0 := fun w' h => (hbox w' h).1
  have r1 := fun w' h => (hbox w' h).2.1
  have r2 := fun w' h => (hbox w' h).2.2.1
  have r3 := fun w' h => (hbox w' h).2.2.2.1
  have r4 := fun w' h => (hbox w' h).2.2.2.2
  have hw1 : ∀ w', Below (w.heap.size + 1) W1 w' → Below w.heap.size w w' := fun w' h => by
    rw [hW1] at h; exact ((Below.refl _ _).alloc (Nat.le_refl _) _).trans (h.mono (by omega))
  have q0 : ∀ w', Below (w.heap.size + 1) W1 w' → w'.cell? ⟨sb, off + ra, none⟩ = some (.int .i64 xa) := fun w' h => ((hw1 w' h).cell (p := ⟨sb, off + ra, none⟩) hsb).trans ha
  have q1 : ∀ w', Below (w.heap.size + 1) W1 w' → w'.cell? ⟨sb, off + rb, none⟩ = some (.int .i64 xb) := fun w' h => ((hw1 w' h).cell (p := ⟨sb, off + rb, none⟩) hsb).trans hb
  have q2 : ∀ w', Below (w.heap.size + 1) W1 w' → w'.cell? ⟨sb, off + 8, none⟩ = some (.slice p m c) := fun w' h => ((hw1 w' h).cell (p := ⟨sb, off + 8, none⟩) hsb).trans hm
  have hstart : ∀ x, Below (w.heap.size + 1) W1 ((w.alloc (.cells #[.int .i64 op, .int .i64 d, .int .i64 ra, .int .i64 rb, .int .i64 k] 40)).alloc x).drew := fun x => by
    rw [hW1]; exact ((Below.refl _ _).alloc (by simp) _).drew
  clear hbox ha hb hm
  have HS := hide hstart
  clear hstart
  have HB := hide hw1
  clear hw1
  have HW1 := hide hW1
  clear hW1
  go_enter Tryz.func63, Tryz.ntmps63
  go_wp2
  go_region_held3 (fun w' => Below (w.heap.size + 1) W1 w') (first | assumption | exact HS.out _ | fail) (fail)
  all_goals go_wp2
  all_goals
    exact bodyPost_ret (v := .agg #[.int .i64 op, .int .i64 d, .int .i64 ra, .int .i64 rb, .int .i64 k, .int .i64 number, .int .i64 xa, .int .i64 xb, .slice p m c]) (by simp [results, Tryz.results63, go_sem]) rfl ⟨rfl, HB.out _ (by assumption)⟩

set_option maxRecDepth 10000 in
set_option maxHeartbeats 1000000 in
theorem put_next_at (sb off : Nat) (pl v : Int) (x : Value) (w : World) (hsb : sb < w.heap.size) (hc : w.cell? ⟨sb, off + 9, none⟩ = some x) (hf : w.frozen? ⟨sb, off + 9, none⟩ = false) :
    Calls Tryz.prog 64 #[.agg #[.int .i64 3, .int .i64 pl, .int .i64 v], .pointer (some ⟨sb, off, none⟩)] w fun e w' => e = .returned (.tuple #[]) ∧ Below w.heap.size (w.setCell ⟨sb, off + 9, none⟩ (.int .i64 v)) w' := by
  have hne : ¬ w.heap.size = sb := by omega
  go_enter Tryz.func64, Tryz.ntmps64
  go_wp2
  go_end0
  exact ⟨rfl, (Below.refl _ _).alloc (by simp) _⟩

set_option maxRecDepth 10000 in
set_option maxHeartbeats 1000000 in
theorem put_reg_at (sb off j : Nat) (v : Int) (x : Value) (w : World) (hj : j < 8) (hsb : sb < w.heap.size) (hc : w.cell? ⟨sb, off + j, none⟩ = some x) (hf : w.frozen? ⟨sb, off + j, none⟩ = false) :
    Calls Tryz.prog 64 #[.agg #[.int .i64 1, .int .i64 j, .int .i64 v], .pointer (some ⟨sb, off, none⟩)] w fun e w' => e = .returned (.tuple #[]) ∧ Below w.heap.size (w.setCell ⟨sb, off + j, none⟩ (.int .i64 v)) w' := by
  have hne : ¬ w.heap.size = sb := by omega
  have hj0 : (0 : Int) ≤ (j : Int) := by omega
  have hj1 : (j : Int) < 8 := by omega
  go_enter Tryz.func64, Tryz.ntmps64
  go_wp2
  go_region
  go_wp2
  go_end0
  exact ⟨rfl, ((Below.refl _ _).alloc (by simp) _).drew⟩

set_option maxRecDepth 10000 in
set_option maxHeartbeats 1000000 in
theorem put_word_at (sb off mb j n cap : Nat) (v : Int) (x : Value) (w : World) (hj : j < n) (hsb : sb < w.heap.size) (hmb : mb < w.heap.size) (hm : w.cell? ⟨sb, off + 8, none⟩ = some (.slice (some ⟨mb, 0, none⟩) n cap))
    (hc : w.cell? ⟨mb, j, none⟩ = some x) (hf : w.frozen? ⟨mb, j, none⟩ = false) :
    Calls Tryz.prog 64 #[.agg #[.int .i64 2, .int .i64 j, .int .i64 v], .pointer (some ⟨sb, off, none⟩)] w fun e w' => e = .returned (.tuple #[]) ∧ Below w.heap.size (w.setCell ⟨mb, j, none⟩ (.int .i64 v)) w' := by
  have hne : ¬ w.heap.size = sb := by omega
  have hne' : ¬ w.heap.size = mb := by omega
  have hj0 : (0 : Int) ≤ (j : Int) := by omega
  have hj1 : (j : Int) < n := by omega
  go_enter Tryz.func64, Tryz.ntmps64
  go_wp2
  go_region
  go_wp2
  go_end0
  exact ⟨rfl, ((Below.refl _ _).alloc (by simp) _).drew⟩

theorem put_next (sb : Nat) (pl v : Int) (x : Value) (w : World) (hsb : sb < w.heap.size) (hc : w.cell? ⟨sb, 9, none⟩ = some x) (hf : w.frozen? ⟨sb, 9, none⟩ = false) :
    Calls Tryz.prog 64 #[.agg #[.int .i64 3, .int .i64 pl, .int .i64 v], .pointer (some ⟨sb, 0, none⟩)] w fun e w' => e = .returned (.tuple #[]) ∧ Below w.heap.size (w.setCell ⟨sb, 9, none⟩ (.int .i64 v)) w' := by
  have := put_next_at sb 0 pl v x w hsb (by simpa using hc) (by simpa using hf)
  simpa using this

theorem put_reg (sb j : Nat) (v : Int) (x : Value) (w : World) (hj : j < 8) (hsb : sb < w.heap.size) (hc : w.cell? ⟨sb, j, none⟩ = some x) (hf : w.frozen? ⟨sb, j, none⟩ = false) :
    Calls Tryz.prog 64 #[.agg #[.int .i64 1, .int .i64 j, .int .i64 v], .pointer (some ⟨sb, 0, none⟩)] w fun e w' => e = .returned (.tuple #[]) ∧ Below w.heap.size (w.setCell ⟨sb, j, none⟩ (.int .i64 v)) w' := by
  have := put_reg_at sb 0 j v x w hj hsb (by simpa using hc) (by simpa using hf)
  simpa using this

theorem put_word (sb mb j n cap : Nat) (v : Int) (x : Value) (w : World) (hj : j < n) (hsb : sb < w.heap.size) (hmb : mb < w.heap.size) (hm : w.cell? ⟨sb, 8, none⟩ = some (.slice (some ⟨mb, 0, none⟩) n cap))
    (hc : w.cell? ⟨mb, j, none⟩ = some x) (hf : w.frozen? ⟨mb, j, none⟩ = false) :
    Calls Tryz.prog 64 #[.agg #[.int .i64 2, .int .i64 j, .int .i64 v], .pointer (some ⟨sb, 0, none⟩)] w fun e w' => e = .returned (.tuple #[]) ∧ Below w.heap.size (w.setCell ⟨mb, j, none⟩ (.int .i64 v)) w' :=
  put_word_at sb 0 mb j n cap v x w hj hsb hmb (by simpa using hm) hc hf

end Go.Proofs.YtmeiogoodbnkkaaGreat

/- What each order does: the methods. -/
namespace Go.Proofs.YtmeiogoodbnkkaaGreat
open Go.RowKit

/-- What goes in to an order's work. -/
abbrev inp (o : Ord) (n a b : Int) (p : Option Addr) (m c : Nat) : Value :=
  .agg #[.int .i64 o.op, .int .i64 o.d, .int .i64 o.a, .int .i64 o.b, .int .i64 o.k, .int .i64 n, .int .i64 a, .int .i64 b, .slice p m c]

set_option maxHeartbeats 400000 in
theorem intoD_any (o : Ord) (n a b v : Int) (p : Option Addr) (m c : Nat) (w : World) :
    Calls Tryz.prog 108 #[inp o n a b p m c, .int .i64 v] w fun e w' => e = .returned (.agg #[.int .i64 1, .int .i64 o.d, .int .i64 v]) ∧ Below w.heap.size w w' := by
  go_enter Tryz.func108, Tryz.ntmps108
  go_wp2
  exact bodyPost_ret (v := .agg #[.int .i64 1, .int .i64 o.d, .int .i64 v]) (by simp [results, Tryz.results108, go_sem]) rfl ⟨rfl, (((Below.refl _ _).alloc (Nat.le_refl _) _).alloc (by simp) _)⟩

set_option maxHeartbeats 400000 in
theorem set_any (o : Ord) (n a b : Int) (p : Option Addr) (m c : Nat) (w : World) :
    Calls Tryz.prog 89 #[inp o n a b p m c] w fun e w' => e = .returned (.agg #[.int .i64 1, .int .i64 o.d, .int .i64 o.k]) ∧ Below w.heap.size w w' := by
  go_enter Tryz.func89, Tryz.ntmps89
  go_wp2_with (go_at_call 108; refine (intoD_any _ _ _ _ _ _ _ _ _).mono ?_; rintro e w1 ⟨rfl, hb1⟩; obtain ⟨hc1, hf1⟩ := bcell hb1)
  have hz := hb1.size
  simp at hz
  refine bodyPost_ret (v := .agg #[.int .i64 1, .int .i64 o.d, .int .i64 o.k]) (by simp [results, Tryz.results89, go_sem, hc1]) rfl ⟨rfl, ?_⟩
  exact ((((((Below.refl _ _).alloc (Nat.le_refl _) _).alloc (by simp) _).trans (hb1.mono (by simp; omega))).setCell (by simp) _).setCell (by simp) _).setCell (by simp) _

set_option maxHeartbeats 400000 in
theorem add_any (o : Ord) (n a b : Int) (p : Option Addr) (m c : Nat) (w : World) :
    Calls Tryz.prog 90 #[inp o n a b p m c] w fun e w' => e = .returned (.agg #[.int .i64 1, .int .i64 o.d, .int .i64 (wrap64 (a + b))]) ∧ Below w.heap.size w w' := by
  go_enter Tryz.func90, Tryz.ntmps90
  go_wp2_with (go_at_call 108; refine (intoD_any _ _ _ _ _ _ _ _ _).mono ?_; rintro e w1 ⟨rfl, hb1⟩; obtain ⟨hc1, hf1⟩ := bcell hb1)
  have hz := hb1.size
  simp at hz
  refine bodyPost_ret (v := .agg #[.int .i64 1, .int .i64 o.d, .int .i64 (wrap64 (a + b))]) (by simp [results, Tryz.results90, go_sem, hc1]) rfl ⟨rfl, ?_⟩
  exact ((((((Below.refl _ _).alloc (Nat.le_refl _) _).alloc (by simp) _).trans (hb1.mono (by simp; omega))).setCell (by simp) _).setCell (by simp) _).setCell (by simp) _

set_option maxHeartbeats 400000 in
theorem sub_any (o : Ord) (n a b : Int) (p : Option Addr) (m c : Nat) (w : World) :
    Calls Tryz.prog 91 #[inp o n a b p m c] w fun e w' => e = .returned (.agg #[.int .i64 1, .int .i64 o.d, .int .i64 (wrap64 (a - b))]) ∧ Below w.heap.size w w' := by
  go_enter Tryz.func91, Tryz.ntmps91
  go_wp2_with (go_at_call 108; refine (intoD_any _ _ _ _ _ _ _ _ _).mono ?_; rintro e w1 ⟨rfl, hb1⟩; obtain ⟨hc1, hf1⟩ := bcell hb1)
  have hz := hb1.size
  simp at hz
  refine bodyPost_ret (v := .agg #[.int .i64 1, .int .i64 o.d, .int .i64 (wrap64 (a - b))]) (by simp [results, Tryz.results91, go_sem, hc1]) rfl ⟨rfl, ?_⟩
  exact ((((((Below.refl _ _).alloc (Nat.le_refl _) _).alloc (by simp) _).trans (hb1.mono (by simp; omega))).setCell (by simp) _).setCell (by simp) _).setCell (by simp) _

set_option maxHeartbeats 400000 in
theorem mul_any (o : Ord) (n a b : Int) (p : Option Addr) (m c : Nat) (w : World) :
    Calls Tryz.prog 92 #[inp o n a b p m c] w fun e w' => e = .returned (.agg #[.int .i64 1, .int .i64 o.d, .int .i64 (wrap64 (a * b))]) ∧ Below w.heap.size w w' := by
  go_enter Tryz.func92, Tryz.ntmps92
  go_wp2_with (go_at_call 108; refine (intoD_any _ _ _ _ _ _ _ _ _).mono ?_; rintro e w1 ⟨rfl, hb1⟩; obtain ⟨hc1, hf1⟩ := bcell hb1)
  have hz := hb1.size
  simp at hz
  refine bodyPost_ret (v := .agg #[.int .i64 1, .int .i64 o.d, .int .i64 (wrap64 (a * b))]) (by simp [results, Tryz.results92, go_sem, hc1]) rfl ⟨rfl, ?_⟩
  exact ((((((Below.refl _ _).alloc (Nat.le_refl _) _).alloc (by simp) _).trans (hb1.mono (by simp; omega))).setCell (by simp) _).setCell (by simp) _).setCell (by simp) _

set_option maxHeartbeats 400000 in
theorem jump_zero (o : Ord) (n b : Int) (p : Option Addr) (m c : Nat) (w : World) :
    Calls Tryz.prog 96 #[inp o n 0 b p m c] w fun e w' => e = .returned (.agg #[.int .i64 3, .int .i64 0, .int .i64 o.k]) ∧ Below w.heap.size w w' := by
  go_enter Tryz.func96, Tryz.ntmps96
  go_wp2
  exact bodyPost_ret (v := .agg #[.int .i64 3, .int .i64 0, .int .i64 o.k]) (by simp [results, Tryz.results96, go_sem]) rfl ⟨rfl, (((Below.refl _ _).alloc (Nat.le_refl _) _).alloc (by simp) _)⟩

set_option maxHeartbeats 400000 in
theorem jump_on (o : Ord) (n a b : Int) (p : Option Addr) (m c : Nat) (w : World) (ha : (a == 0) = false) (hn0 : 0 ≤ n) (hn : n ≤ 1000) :
    Calls Tryz.prog 96 #[inp o n a b p m c] w fun e w' => e = .returned (.agg #[.int .i64 3, .int .i64 0, .int .i64 (n + 1)]) ∧ Below w.heap.size w w' := by
  go_enter Tryz.func96, Tryz.ntmps96
  go_wp2
  exact bodyPost_ret (v := .agg #[.int .i64 3, .int .i64 0, .int .i64 (n + 1)]) (by simp [results, Tryz.results96, go_sem]) rfl ⟨rfl, (((Below.refl _ _).alloc (Nat.le_refl _) _).alloc (by simp) _)⟩

set_option maxHeartbeats 400000 in
theorem place_in (o : Ord) (n a b : Int) (p : Option Addr) (m c : Nat) (w : World) (at' : Int) (hat : wrap64 (a + o.k) = at') (h0 : 0 ≤ at') (h1 : at' < m) :
    Calls Tryz.prog 109 #[inp o n a b p m c] w fun e w' => e = .returned (.int .i64 at') ∧ Below w.heap.size w w' := by
  go_enter Tryz.func109, Tryz.ntmps109
  go_wp2
  go_ret
  exact ⟨rfl, (Below.refl _ _).alloc (Nat.le_refl _) _⟩

set_option maxHeartbeats 400000 in
theorem place_out (o : Ord) (n a b : Int) (p : Option Addr) (m c : Nat) (w : World) (at' : Int) (hat : wrap64 (a + o.k) = at') (h0 : at' < 0 ∨ (m : Int) ≤ at') :
    Calls Tryz.prog 109 #[inp o n a b p m c] w fun e w' => e = .panicked [{ v := .iface 124 (.int .i64 2), recovered := false }] ∧ Below w.heap.size w w' := by
  rcases h0 with h0 | h0
  · go_enter Tryz.func109, Tryz.ntmps109
    go_wp2
    exact ⟨rfl, rfl, (Below.refl _ _).alloc (Nat.le_refl _) _⟩
  · have h1 : ¬ at' < 0 := by omega
    go_enter Tryz.func109, Tryz.ntmps109
    go_wp2
    exact ⟨rfl, rfl, (Below.refl _ _).alloc (Nat.le_refl _) _⟩

set_option maxHeartbeats 400000 in
theorem div_zero (o : Ord) (n a : Int) (p : Option Addr) (m c : Nat) (w : World) :
    Calls Tryz.prog 93 #[inp o n a 0 p m c] w fun e w' => e = .panicked [{ v := .iface 124 (.int .i64 1), recovered := false }] ∧ Below w.heap.size w w' := by
  go_enter Tryz.func93, Tryz.ntmps93
  go_wp2
  exact ⟨rfl, rfl, ((Below.refl _ _).alloc (Nat.le_refl _) _).alloc (by simp) _⟩

end Go.Proofs.YtmeiogoodbnkkaaGreat

/- What each order does: the methods whose statement leaves its order open. -/
namespace Go.Proofs.YtmeiogoodbnkkaaGreat
open Go.RowKit

/-- The box of what goes in, in whatever world. -/
abbrev boxed (N : Nat) (o : Ord) (n a b : Int) (p : Option Addr) (m c : Nat) (w : World) : Prop :=
  w.cell? ⟨N, 0, none⟩ = some (.int .i64 o.op) ∧ w.cell? ⟨N, 1, none⟩ = some (.int .i64 o.d) ∧ w.cell? ⟨N, 2, none⟩ = some (.int .i64 o.a) ∧ w.cell? ⟨N, 3, none⟩ = some (.int .i64 o.b) ∧ w.cell? ⟨N, 4, none⟩ = some (.int .i64 o.k) ∧
  w.cell? ⟨N, 5, none⟩ = some (.int .i64 n) ∧ w.cell? ⟨N, 6, none⟩ = some (.int .i64 a) ∧ w.cell? ⟨N, 7, none⟩ = some (.int .i64 b) ∧ w.cell? ⟨N, 8, none⟩ = some (.slice p m c)

set_option maxHeartbeats 1000000 in
theorem div_some (o : Ord) (n a b : Int) (p : Option Addr) (m c : Nat) (w : World) (hb : (b == 0) = false) (hb' : ¬ b = 0) :
    Calls Tryz.prog 93 #[inp o n a b p m c] w fun e w' => e = .returned (.agg #[.int .i64 1, .int .i64 o.d, .int .i64 (wrap64 (a.tdiv b))]) ∧ Below w.heap.size w w' := by
  go_enter Tryz.func93, Tryz.ntmps93
  go_wp2
  go_region_held3 (fun w' => w'.cell? ⟨w.heap.size, 0, none⟩ = some (.int .i64 o.op) ∧ w'.cell? ⟨w.heap.size, 1, none⟩ = some (.int .i64 o.d) ∧ w'.cell? ⟨w.heap.size, 2, none⟩ = some (.int .i64 o.a) ∧ w'.cell? ⟨w.heap.size, 3, none⟩ = some (.int .i64 o.b) ∧ w'.cell? ⟨w.heap.size, 4, none⟩ = some (.int .i64 o.k) ∧
  w'.cell? ⟨w.heap.size, 5, none⟩ = some (.int .i64 n) ∧ w'.cell? ⟨w.heap.size, 6, none⟩ = some (.int .i64 a) ∧ w'.cell? ⟨w.heap.size, 7, none⟩ = some (.int .i64 b) ∧ w'.cell? ⟨w.heap.size, 8, none⟩ = some (.slice p m c)) (first | go_keep | go_simp) ((go_at_call 108; refine (intoD_any _ _ _ _ _ _ _ _ _).mono ?_; rintro e w1 ⟨rfl, hb1⟩; obtain ⟨hc1, hf1⟩ := bcell hb1))
  go_wp2
  have hz := hb1.size
  simp at hz
  rw [IntWalk.i64_left]
  refine bodyPost_ret (v := .agg #[.int .i64 1, .int .i64 o.d, .int .i64 (wrap64 (a.tdiv b))]) (by simp [results, Tryz.results93, go_sem, hc1]) rfl ⟨rfl, ?_⟩
  exact (((((((Below.refl _ _).alloc (Nat.le_refl _) _).alloc (by simp) _).drew).trans (hb1.mono (by simp; omega))).setCell (by simp) _).setCell (by simp) _).setCell (by simp) _

set_option maxHeartbeats 1000000 in
theorem store_in (o : Ord) (n a b : Int) (p : Option Addr) (m c : Nat) (w : World) (at' : Int) (hat : wrap64 (a + o.k) = at') (h0 : 0 ≤ at') (h1 : at' < m) :
    Calls Tryz.prog 95 #[inp o n a b p m c] w fun e w' => e = .returned (.agg #[.int .i64 2, .int .i64 at', .int .i64 b]) ∧ Below w.heap.size w w' := by
  have HAT := hide hat
  clear hat
  go_enter Tryz.func95, Tryz.ntmps95
  go_wp2
  go_region_held3 (fun w' => w'.cell? ⟨w.heap.size, 0, none⟩ = some (.int .i64 o.op) ∧ w'.cell? ⟨w.heap.size, 1, none⟩ = some (.int .i64 o.d) ∧ w'.cell? ⟨w.heap.size, 2, none⟩ = some (.int .i64 o.a) ∧ w'.cell? ⟨w.heap.size, 3, none⟩ = some (.int .i64 o.b) ∧ w'.cell? ⟨w.heap.size, 4, none⟩ = some (.int .i64 o.k) ∧
    w'.cell? ⟨w.heap.size, 5, none⟩ = some (.int .i64 n) ∧ w'.cell? ⟨w.heap.size, 6, none⟩ = some (.int .i64 a) ∧ w'.cell? ⟨w.heap.size, 7, none⟩ = some (.int .i64 b) ∧ w'.cell? ⟨w.heap.size, 8, none⟩ = some (.slice p m c)) (first | go_keep | go_simp) ((go_at_call 109; refine (place_in _ _ _ _ _ _ _ _ at' HAT.out h0 h1).mono ?_; rintro e w1 ⟨rfl, hb1⟩; obtain ⟨hc1, hf1⟩ := bcell hb1))
  go_wp2
  have hz := hb1.size
  simp at hz
  refine bodyPost_ret (v := .agg #[.int .i64 2, .int .i64 at', .int .i64 b]) (by simp [results, Tryz.results95, go_sem, hc1]) rfl ⟨rfl, ?_⟩
  exact (((((((Below.refl _ _).alloc (Nat.le_refl _) _).alloc (by simp) _).drew).trans (hb1.mono (by simp; omega))).setCell (by simp) _).setCell (by simp) _).setCell (by simp) _

/-- The cells of the box, in whatever world lies above it. -/
theorem box_cells {w W1 : World} (o : Ord) (n a b : Int) (p : Option Addr) (m c : Nat)
    (hW : W1 = w.alloc (.cells #[.int .i64 o.op, .int .i64 o.d, .int .i64 o.a, .int .i64 o.b, .int .i64 o.k, .int .i64 n, .int .i64 a, .int .i64 b, .slice p m c] 109)) :
    ∀ w', Below (w.heap.size + 1) W1 w' →
      w'.cell? ⟨w.heap.size, 0, none⟩ = some (.int .i64 o.op) ∧ w'.cell? ⟨w.heap.size, 1, none⟩ = some (.int .i64 o.d) ∧ w'.cell? ⟨w.heap.size, 2, none⟩ = some (.int .i64 o.a) ∧ w'.cell? ⟨w.heap.size, 3, none⟩ = some (.int .i64 o.b) ∧ w'.cell? ⟨w.heap.size, 4, none⟩ = some (.int .i64 o.k) ∧
      w'.cell? ⟨w.heap.size, 5, none⟩ = some (.int .i64 n) ∧ w'.cell? ⟨w.heap.size, 6, none⟩ = some (.int .i64 a) ∧ w'.cell? ⟨w.heap.size, 7, none⟩ = some (.int .i64 b) ∧ w'.cell? ⟨w.heap.size, 8, none⟩ = some (.slice p m c) := by
  intro w' h
  subst hW
  have hc : ∀ j, w'.cell? ⟨w.heap.size, j, none⟩ = (w.alloc (.cells #[.int .i64 o.op, .int .i64 o.d, .int .i64 o.a, .int .i64 o.b, .int .i64 o.k, .int .i64 n, .int .i64 a, .int .i64 b, .slice p m c] 109)).cell? ⟨w.heap.size, j, none⟩ :=
    fun j => h.cell (p := ⟨w.heap.size, j, none⟩) (Nat.lt_succ_self _)
  simp [hc, go_sem]

set_option maxHeartbeats 1000000 in
theorem load_in (o : Ord) (n a b : Int) (mb off m c : Nat) (w : World) (j : Nat) (v : Int) (hat : wrap64 (a + o.k) = j) (h1 : j < m) (hmb : mb < w.heap.size) (hcell : w.cell? ⟨mb, off + j, none⟩ = some (.int .i64 v)) :
    Calls Tryz.prog 94 #[inp o n a b (some ⟨mb, off, none⟩) m c] w fun e w' => e = .returned (.agg #[.int .i64 1, .int .i64 o.d, .int .i64 v]) ∧ Below w.heap.size w w' := by
  have HAT := hide hat
  clear hat
  have hj0 : (0 : Int) ≤ (j : Int) := by omega
  have hj1 : (j : Int) < (m : Int) := by omega
  obtain ⟨W1, hW1⟩ : ∃ W1, W1 = w.alloc (.cells #[.int .i64 o.op, .int .i64 o.d, .int .i64 o.a, .int .i64 o.b, .int .i64 o.k, .int .i64 n, .int .i64 a, .int .i64 b, .slice (some ⟨mb, off, none⟩) m c] 109) := ⟨_, rfl⟩
  have hbox := box_cells o n a b (some ⟨mb, off, none⟩) m c hW1
  have r0 := fun w' h => (hbox w' h).1
  have r1 := fun w' h => (hbox w' h).2.1
  have r2 := fun w' h => (hbox w' h).2.2.1
  have r3 := fun w' h => (hbox w' h).2.2.2.1
  have r4 := fun w' h => (hbox w' h).2.2.2.2.1
  have r5 := fun w' h => (hbox w' h).2.2.2.2.2.1
  have r6 := fun w' h => (hbox w' h).2.2.2.2.2.2.1
  have r7 := fun w' h => (hbox w' h).2.2.2.2.2.2.2.1
  have r8 := fun w' h => (hbox w' h).2.2.2.2.2.2.2.2
  have r9 : ∀ w', Below (w.heap.size + 1) W1 w' → w'.cell? ⟨mb, off + j, none⟩ = some (.int .i64 v) := fun w' h => by
    rw [h.cell (p := ⟨mb, off + j, none⟩) (by simp; omega), hW1, ← hcell]
    exact World.cell?_of_block (Below.heap_alloc w _ mb hmb)
  have hstart : ∀ x, Below (w.heap.size + 1) W1 ((w.alloc (.cells #[.int .i64 o.op, .int .i64 o.d, .int .i64 o.a, .int .i64 o.b, .int .i64 o.k, .int .i64 n, .int .i64 a, .int .i64 b, .slice (some ⟨mb, off, none⟩) m c] 109)).alloc x).drew := fun x => by
    rw [hW1]; exact ((Below.refl _ _).alloc (by simp) _).drew
  clear hbox hcell
  have HW1 := hide hW1
  clear hW1
  have HS := hide hstart
  clear hstart
  go_enter Tryz.func94, Tryz.ntmps94
  go_wp2
  go_region_held3 (fun w' => Below (w.heap.size + 1) W1 w') (first | exact HS.out _ | (refine Below.trans (by assumption) (hb2.mono ?_); omega) | (refine Below.trans (by assumption) (hb1.mono ?_); simp) | (refine Below.setCell (Below.setCell (Below.setCell (by assumption) ?_ _) ?_ _) ?_ _ <;> simp)) (first | (go_at_call 109; refine (place_in _ _ _ _ _ _ _ _ (j : Int) HAT.out hj0 hj1).mono ?_; rintro e w1 ⟨rfl, hb1⟩; have hz1 : w.heap.size + 1 < w1.heap.size := (by have := hb1.size; simp at this; omega)) | (go_at_call 108; refine (intoD_any _ _ _ _ _ _ _ _ _).mono ?_; rintro e w2 ⟨rfl, hb2⟩; obtain ⟨hc1, hf1⟩ := bcell hb1; obtain ⟨hc2, hf2⟩ := bcell hb2))
  go_wp2
  have hz2 := hb2.size
  refine bodyPost_ret (v := .agg #[.int .i64 1, .int .i64 o.d, .int .i64 v]) (by simp [results, Tryz.results94, go_sem, hc1, hc2, hz1]) rfl ⟨rfl, ?_⟩
  exact (((((((Below.refl _ _).alloc (Nat.le_refl _) _).alloc (by simp) _).drew).trans (hb1.mono (by simp; omega))).trans (hb2.mono (by omega))).setCell (by simp) _).setCell (by simp) _ |>.setCell (by simp) _

end Go.Proofs.YtmeiogoodbnkkaaGreat

/- The orders that trap at their place. -/
namespace Go.Proofs.YtmeiogoodbnkkaaGreat
open Go.RowKit

set_option maxHeartbeats 1000000 in
theorem load_out (o : Ord) (n a b : Int) (p : Option Addr) (m c : Nat) (w : World) (at' : Int) (hat : wrap64 (a + o.k) = at') (h0 : at' < 0 ∨ (m : Int) ≤ at') :
    Calls Tryz.prog 94 #[inp o n a b p m c] w fun e w' => e = .panicked [{ v := .iface 124 (.int .i64 2), recovered := false }] ∧ Below w.heap.size w w' := by
  have HAT := hide hat
  clear hat
  obtain ⟨W1, hW1⟩ : ∃ W1, W1 = w.alloc (.cells #[.int .i64 o.op, .int .i64 o.d, .int .i64 o.a, .int .i64 o.b, .int .i64 o.k, .int .i64 n, .int .i64 a, .int .i64 b, .slice p m c] 109) := ⟨_, rfl⟩
  have hbox := box_cells o n a b p m c hW1
  have r0 := fun w' h => (hbox w' h).1
  have r1 := fun w' h => (hbox w' h).2.1
  have r2 := fun w' h => (hbox w' h).2.2.1
  have r3 := fun w' h => (hbox w' h).2.2.2.1
  have r4 := fun w' h => (hbox w' h).2.2.2.2.1
  have r5 := fun w' h => (hbox w' h).2.2.2.2.2.1
  have r6 := fun w' h => (hbox w' h).2.2.2.2.2.2.1
  have r7 := fun w' h => (hbox w' h).2.2.2.2.2.2.2.1
  have r8 := fun w' h => (hbox w' h).2.2.2.2.2.2.2.2
  have hstart : ∀ x, Below (w.heap.size + 1) W1 ((w.alloc (.cells #[.int .i64 o.op, .int .i64 o.d, .int .i64 o.a, .int .i64 o.b, .int .i64 o.k, .int .i64 n, .int .i64 a, .int .i64 b, .slice p m c] 109)).alloc x).drew := fun x => by
    rw [hW1]; exact ((Below.refl _ _).alloc (by simp) _).drew
  clear hbox
  have HS := hide hstart
  clear hstart
  have HW1 := hide hW1
  clear hW1
  have H0 := hide h0
  clear h0
  go_enter Tryz.func94, Tryz.ntmps94
  go_wp2
  refine wp_region_held_drew (S := fun w' => Below (w.heap.size + 1) W1 w') (by kernel_rfl) (HS.out _) (fun hHeld => ?_)
  refine wpAnyH_take (i := 0) (v := ?_) rfl (by kernel_rfl) (by kernel_rfl) (by kernel_rfl) (fun _ _ _ h => h) (Or.inl ⟨by rfl, ?_⟩) hHeld ?_
  rotate_left
  · intro w' hSw
    go_simp
    try with_reducible rfl
  simp only [Act.put]
  refine wpAnyH_take (i := 1) (v := ?_) rfl (by kernel_rfl) (by kernel_rfl) (by kernel_rfl) (fun _ _ _ h => h) (Or.inl ⟨by rfl, ?_⟩) hHeld ?_
  rotate_left
  · intro w' hSw
    go_simp
    try with_reducible rfl
  simp only [Act.put]
  refine wpAnyH_take (i := 2) (v := ?_) rfl (by kernel_rfl) (by kernel_rfl) (by kernel_rfl) (fun _ _ _ h => h) (Or.inl ⟨by rfl, ?_⟩) hHeld ?_
  rotate_left
  · intro w' hSw
    go_simp
    try with_reducible rfl
  simp only [Act.put]
  refine wpAnyH_take (i := 3) (v := ?_) rfl (by kernel_rfl) (by kernel_rfl) (by kernel_rfl) (fun _ _ _ h => h) (Or.inl ⟨by rfl, ?_⟩) hHeld ?_
  rotate_left
  · intro w' hSw
    go_simp
    try with_reducible rfl
  simp only [Act.put]
  refine wpAnyH_ready (rs := [4]) (by kernel_rfl) (by simp) ?_
  refine AllReadyH.cons rfl (fun K hK => ?_) AllReadyH.nil
  go_simp
  clear hK
  refine (place_out _ _ _ _ _ _ _ _ at' HAT.out H0.out).mono ?_
  rintro e w1 ⟨rfl, hb1⟩
  exact ⟨rfl, rfl, (((Below.refl _ _).alloc (Nat.le_refl _) _).alloc (by simp) _).drew.trans (hb1.mono (by simp; omega))⟩

set_option maxHeartbeats 1000000 in
theorem store_out (o : Ord) (n a b : Int) (p : Option Addr) (m c : Nat) (w : World) (at' : Int) (hat : wrap64 (a + o.k) = at') (h0 : at' < 0 ∨ (m : Int) ≤ at') :
    Calls Tryz.prog 95 #[inp o n a b p m c] w fun e w' => e = .panicked [{ v := .iface 124 (.int .i64 2), recovered := false }] ∧ Below w.heap.size w w' := by
  have HAT := hide hat
  clear hat
  obtain ⟨W1, hW1⟩ : ∃ W1, W1 = w.alloc (.cells #[.int .i64 o.op, .int .i64 o.d, .int .i64 o.a, .int .i64 o.b, .int .i64 o.k, .int .i64 n, .int .i64 a, .int .i64 b, .slice p m c] 109) := ⟨_, rfl⟩
  have hbox := box_cells o n a b p m c hW1
  have r0 := fun w' h => (hbox w' h).1
  have r1 := fun w' h => (hbox w' h).2.1
  have r2 := fun w' h => (hbox w' h).2.2.1
  have r3 := fun w' h => (hbox w' h).2.2.2.1
  have r4 := fun w' h => (hbox w' h).2.2.2.2.1
  have r5 := fun w' h => (hbox w' h).2.2.2.2.2.1
  have r6 := fun w' h => (hbox w' h).2.2.2.2.2.2.1
  have r7 := fun w' h => (hbox w' h).2.2.2.2.2.2.2.1
  have r8 := fun w' h => (hbox w' h).2.2.2.2.2.2.2.2
  have hstart : ∀ x, Below (w.heap.size + 1) W1 ((w.alloc (.cells #[.int .i64 o.op, .int .i64 o.d, .int .i64 o.a, .int .i64 o.b, .int .i64 o.k, .int .i64 n, .int .i64 a, .int .i64 b, .slice p m c] 109)).alloc x).drew := fun x => by
    rw [hW1]; exact ((Below.refl _ _).alloc (by simp) _).drew
  clear hbox
  have HS := hide hstart
  clear hstart
  have HW1 := hide hW1
  clear hW1
  have H0 := hide h0
  clear h0
  go_enter Tryz.func95, Tryz.ntmps95
  go_wp2
  refine wp_region_held_drew (S := fun w' => Below (w.heap.size + 1) W1 w') (by kernel_rfl) (HS.out _) (fun hHeld => ?_)
  refine wpAnyH_take (i := 0) (v := ?_) rfl (by kernel_rfl) (by kernel_rfl) (by kernel_rfl) (fun _ _ _ h => h) (Or.inl ⟨by rfl, ?_⟩) hHeld ?_
  rotate_left
  · intro w' hSw
    go_simp
    try with_reducible rfl
  simp only [Act.put]
  refine wpAnyH_take (i := 2) (v := ?_) rfl (by kernel_rfl) (by kernel_rfl) (by kernel_rfl) (fun _ _ _ h => h) (Or.inl ⟨by rfl, ?_⟩) hHeld ?_
  rotate_left
  · intro w' hSw
    go_simp
    try with_reducible rfl
  simp only [Act.put]
  refine wpAnyH_take (i := 3) (v := ?_) rfl (by kernel_rfl) (by kernel_rfl) (by kernel_rfl) (fun _ _ _ h => h) (Or.inl ⟨by rfl, ?_⟩) hHeld ?_
  rotate_left
  · intro w' hSw
    go_simp
    try with_reducible rfl
  simp only [Act.put]
  refine wpAnyH_ready (rs := [1]) (by kernel_rfl) (by simp) ?_
  refine AllReadyH.cons rfl (fun K hK => ?_) AllReadyH.nil
  go_simp
  clear hK
  refine (place_out _ _ _ _ _ _ _ _ at' HAT.out H0.out).mono ?_
  rintro e w1 ⟨rfl, hb1⟩
  exact ⟨rfl, rfl, (((Below.refl _ _).alloc (Nat.le_refl _) _).alloc (by simp) _).drew.trans (hb1.mono (by simp; omega))⟩

end Go.Proofs.YtmeiogoodbnkkaaGreat

/- One order done: the code's step. -/
namespace Go.Proofs.YtmeiogoodbnkkaaGreat
open Go.RowKit

set_option maxRecDepth 100000 in
set_option maxHeartbeats 2000000 in
theorem step_trap (sb ra rb : Nat) (op d k : Int) (w : World) (regs : List Int) (p : Option Addr) (m c : Nat) (next stop tr0 steps : Int) (hst : StAt w sb regs (.slice p m c) next stop tr0 steps) (hra : ra < 8) (hrb : rb < 8) (t pl v tr : Int) (htr : (tr != 0) = true)
    (hwork : ∀ W, Below w.heap.size w W → Calls Tryz.prog 62 #[.agg #[.int .i64 op, .int .i64 d, .int .i64 ra, .int .i64 rb, .int .i64 k, .int .i64 next, .int .i64 (regs.getD ra 0), .int .i64 (regs.getD rb 0), .slice p m c]] W fun e w' =>
      e = .returned (.tuple #[.agg #[.int .i64 t, .int .i64 pl, .int .i64 v], .int .i64 tr]) ∧ Below W.heap.size W w') :
    Calls Tryz.prog 43 #[.pointer (some ⟨sb, 0, none⟩), .agg #[.int .i64 op, .int .i64 d, .int .i64 ra, .int .i64 rb, .int .i64 k]] w fun e w' => e = .returned (.int .i64 tr) ∧ Below w.heap.size w w' := by
  have HWK := hide hwork
  clear hwork
  have HTK : Hid (∀ W, Below w.heap.size w W → Calls Tryz.prog 63 #[.pointer (some ⟨sb, 0, none⟩), .agg #[.int .i64 op, .int .i64 d, .int .i64 ra, .int .i64 rb, .int .i64 k], .int .i64 next] W fun e w' =>
      e = .returned (.agg #[.int .i64 op, .int .i64 d, .int .i64 ra, .int .i64 rb, .int .i64 k, .int .i64 next, .int .i64 (regs.getD ra 0), .int .i64 (regs.getD rb 0), .slice p m c]) ∧ Below W.heap.size W w') := fun W hW => by
    have hs := hst.below hW hst.lt
    exact take_any sb 0 ra rb op d k next _ _ p m c W hra hrb hs.lt (by simpa using hs.reg hra) (by simpa using hs.reg hrb) (by simpa using hs.cMv)
  have ra0 : (0 : Int) ≤ (ra : Int) := by omega
  have ra1 : (ra : Int) < 8 := by omega
  have rb0 : (0 : Int) ≤ (rb : Int) := by omega
  have rb1 : (rb : Int) < 8 := by omega
  have hsb := hst.lt
  obtain ⟨W1, hW1⟩ : ∃ W1, W1 = w.alloc (.cells #[.int .i64 op, .int .i64 d, .int .i64 ra, .int .i64 rb, .int .i64 k] 40) := ⟨_, rfl⟩
  have hbox : ∀ w', Below (w.heap.size + 1) W1 w' → w'.cell? ⟨w.heap.size, 0, none⟩ = some (.int .i64 op) ∧ w'.cell? ⟨w.heap.size, 1, none⟩ = some (.int .i64 d) ∧ w'.cell? ⟨w.heap.size, 2, none⟩ = some (.int .i64 ra) ∧ w'.cell? ⟨w.heap.size, 3, none⟩ = some (.int .i64 rb) ∧ w'.cell? ⟨w.heap.size, 4, none⟩ = some (.int .i64 k) := by
    intro w' h
    have hc : ∀ j, w'.cell? ⟨w.heap.size, j, none⟩ = W1.cell? ⟨w.heap.size, j, none⟩ := fun j => h.cell (p := ⟨w.heap.size, j, none⟩) (Nat.lt_succ_self _)
    subst hW1
    simp [hc, go_sem]
  have r0 := fun w' h => (hbox w' h).1
  have r1 := fun w' h => (hbox w' h).2.1
  have r2 := fun w' h => (hbox w' h).2.2.1
  have r3 := fun w' h => (hbox w' h).2.2.2.1
  have r4 := fun w' h => (hbox w' h).2.2.2.2
  have hw1 : ∀ w', Below (w.heap.size + 1) W1 w' → Below w.heap.size w w' := fun w' h => by
    rw [hW1] at h; exact ((Below.refl _ _).alloc (Nat.le_refl _) _).trans (h.mono (by omega))
  have q0 : ∀ w', Below (w.heap.size + 1) W1 w' → w'.cell? ⟨sb, ra, none⟩ = some (.int .i64 (regs.getD ra 0)) := fun w' h => (hst.below (hw1 w' h) hsb).reg hra
  have q1 : ∀ w', Below (w.heap.size + 1) W1 w' → w'.cell? ⟨sb, rb, none⟩ = some (.int .i64 (regs.getD rb 0)) := fun w' h => (hst.below (hw1 w' h) hsb).reg hrb
  have q2 : ∀ w', Below (w.heap.size + 1) W1 w' → w'.cell? ⟨sb, 8, none⟩ = some (.slice p m c) := fun w' h => (hst.below (hw1 w' h) hsb).cMv
  have q3 : ∀ w', Below (w.heap.size + 1) W1 w' → w'.cell? ⟨sb, 9, none⟩ = some (.int .i64 next) := fun w' h => (hst.below (hw1 w' h) hsb).cNext
  have hstart : Below (w.heap.size + 1) W1 (w.alloc (.cells #[.int .i64 op, .int .i64 d, .int .i64 ra, .int .i64 rb, .int .i64 k] 40)).drew := by
    rw [hW1]; exact (Below.refl _ _).drew
  have hstart2 : ∀ x, Below (w.heap.size + 1) W1 ((w.alloc (.cells #[.int .i64 op, .int .i64 d, .int .i64 ra, .int .i64 rb, .int .i64 k] 40)).alloc x).drew := fun x => by
    rw [hW1]; exact ((Below.refl _ _).alloc (by simp) _).drew
  have HS2 := hide hstart2
  clear hstart2
  obtain ⟨xa, hxa⟩ : ∃ x, x = regs.getD ra 0 := ⟨_, rfl⟩
  obtain ⟨xb, hxb⟩ : ∃ x, x = regs.getD rb 0 := ⟨_, rfl⟩
  rw [← hxa] at q0 HWK HTK
  rw [← hxb] at q1 HWK HTK
  clear hbox hxa hxb
  have HS := hide hstart
  clear hstart
  have HB := hide hw1
  clear hw1
  have HW1 := hide hW1
  clear hW1
  have HST := hide hst
  clear hst
  go_enter Tryz.func43, Tryz.ntmps43
  go_wp2
  go_region_held3 (fun w' => Below (w.heap.size + 1) W1 w') (first | assumption | exact HS.out | exact HS2.out _ | exact HS1.out | exact HS0.out | exact HS0.out.alloc hz0 _ | exact HS1.out.alloc hz1 _ | (refine Below.setCell (Below.setCell (Below.setCell HS1.out ?_ _) ?_ _) ?_ _ <;> simp <;> omega) | fail) (first | (go_at_call 63; refine (HTK.out _ (HB.out _ (by assumption))).mono ?_; rintro e w0 ⟨rfl, hb0⟩; have HS0 : Hid (Below (w.heap.size + 1) W1 w0) := (Below.trans (by assumption) (hb0.mono (by first | omega | (simp; omega) | simp))); have hz0 : w.heap.size + 1 ≤ w0.heap.size := (by have := hb0.size; simp at this; omega); obtain ⟨hc0, hf0⟩ := bcell hb0; have hy0 := hb0.size; simp at hy0; have hx0 : w.heap.size < w0.heap.size := (by omega); try (have hv0 : w.heap.size + 1 < w0.heap.size := (by omega))) | (go_at_call 62; refine (HWK.out _ (HB.out _ (by first | assumption | exact HS0.out))).mono ?_; rintro e w1 ⟨rfl, hb1⟩; obtain ⟨hc1, hf1⟩ := bcell hb1; have HS1 : Hid (Below (w.heap.size + 1) W1 w1) := (Below.trans (by first | assumption | exact HS0.out) (hb1.mono (by first | omega | (simp; omega) | simp))); have hz1 : w.heap.size + 1 ≤ w1.heap.size := (by have := hb1.size; first | omega | (simp at this; omega))))
  all_goals go_wp2
  all_goals
    go_ret
    exact ⟨rfl, HB.out _ (by assumption)⟩

set_option maxRecDepth 100000 in
set_option maxHeartbeats 2000000 in
theorem step_go (sb ra rb : Nat) (op d k : Int) (w : World) (regs : List Int) (p : Option Addr) (m c : Nat) (next stop tr0 steps : Int) (hst : StAt w sb regs (.slice p m c) next stop tr0 steps) (hra : ra < 8) (hrb : rb < 8) (t pl v : Int) (hnx0 : 0 ≤ next) (hnx1 : next ≤ 1000) (hsp0 : 0 ≤ steps) (hsp1 : steps ≤ 1000) (tgt : Addr) (val : Value)
    (hwork : ∀ W, Below w.heap.size w W → Calls Tryz.prog 62 #[.agg #[.int .i64 op, .int .i64 d, .int .i64 ra, .int .i64 rb, .int .i64 k, .int .i64 next, .int .i64 (regs.getD ra 0), .int .i64 (regs.getD rb 0), .slice p m c]] W fun e w' =>
      e = .returned (.tuple #[.agg #[.int .i64 t, .int .i64 pl, .int .i64 v], .int .i64 0]) ∧ Below W.heap.size W w')
    (hput : ∀ W, Below w.heap.size ((w.setCell ⟨sb, 9, none⟩ (.int .i64 (next + 1))).setCell ⟨sb, 12, none⟩ (.int .i64 (steps + 1))) W → Calls Tryz.prog 64 #[.agg #[.int .i64 t, .int .i64 pl, .int .i64 v], .pointer (some ⟨sb, 0, none⟩)] W fun e w' =>
      e = .returned (.tuple #[]) ∧ Below W.heap.size (W.setCell tgt val) w') :
    Calls Tryz.prog 43 #[.pointer (some ⟨sb, 0, none⟩), .agg #[.int .i64 op, .int .i64 d, .int .i64 ra, .int .i64 rb, .int .i64 k]] w fun e w' => e = .returned (.int .i64 0) ∧ Below w.heap.size (((w.setCell ⟨sb, 9, none⟩ (.int .i64 (next + 1))).setCell ⟨sb, 12, none⟩ (.int .i64 (steps + 1))).setCell tgt val) w' := by
  have HPUT := hide hput
  clear hput
  have HWK := hide hwork
  clear hwork
  have HTK : Hid (∀ W, Below w.heap.size w W → Calls Tryz.prog 63 #[.pointer (some ⟨sb, 0, none⟩), .agg #[.int .i64 op, .int .i64 d, .int .i64 ra, .int .i64 rb, .int .i64 k], .int .i64 next] W fun e w' =>
      e = .returned (.agg #[.int .i64 op, .int .i64 d, .int .i64 ra, .int .i64 rb, .int .i64 k, .int .i64 next, .int .i64 (regs.getD ra 0), .int .i64 (regs.getD rb 0), .slice p m c]) ∧ Below W.heap.size W w') := fun W hW => by
    have hs := hst.below hW hst.lt
    exact take_any sb 0 ra rb op d k next _ _ p m c W hra hrb hs.lt (by simpa using hs.reg hra) (by simpa using hs.reg hrb) (by simpa using hs.cMv)
  have ra0 : (0 : Int) ≤ (ra : Int) := by omega
  have ra1 : (ra : Int) < 8 := by omega
  have rb0 : (0 : Int) ≤ (rb : Int) := by omega
  have rb1 : (rb : Int) < 8 := by omega
  have hsb := hst.lt
  obtain ⟨W1, hW1⟩ : ∃ W1, W1 = w.alloc (.cells #[.int .i64 op, .int .i64 d, .int .i64 ra, .int .i64 rb, .int .i64 k] 40) := ⟨_, rfl⟩
  have hbox : ∀ w', Below (w.heap.size + 1) W1 w' → w'.cell? ⟨w.heap.size, 0, none⟩ = some (.int .i64 op) ∧ w'.cell? ⟨w.heap.size, 1, none⟩ = some (.int .i64 d) ∧ w'.cell? ⟨w.heap.size, 2, none⟩ = some (.int .i64 ra) ∧ w'.cell? ⟨w.heap.size, 3, none⟩ = some (.int .i64 rb) ∧ w'.cell? ⟨w.heap.size, 4, none⟩ = some (.int .i64 k) := by
    intro w' h
    have hc : ∀ j, w'.cell? ⟨w.heap.size, j, none⟩ = W1.cell? ⟨w.heap.size, j, none⟩ := fun j => h.cell (p := ⟨w.heap.size, j, none⟩) (Nat.lt_succ_self _)
    subst hW1
    simp [hc, go_sem]
  have r0 := fun w' h => (hbox w' h).1
  have r1 := fun w' h => (hbox w' h).2.1
  have r2 := fun w' h => (hbox w' h).2.2.1
  have r3 := fun w' h => (hbox w' h).2.2.2.1
  have r4 := fun w' h => (hbox w' h).2.2.2.2
  have hw1 : ∀ w', Below (w.heap.size + 1) W1 w' → Below w.heap.size w w' := fun w' h => by
    rw [hW1] at h; exact ((Below.refl _ _).alloc (Nat.le_refl _) _).trans (h.mono (by omega))
  have q0 : ∀ w', Below (w.heap.size + 1) W1 w' → w'.cell? ⟨sb, ra, none⟩ = some (.int .i64 (regs.getD ra 0)) := fun w' h => (hst.below (hw1 w' h) hsb).reg hra
  have q1 : ∀ w', Below (w.heap.size + 1) W1 w' → w'.cell? ⟨sb, rb, none⟩ = some (.int .i64 (regs.getD rb 0)) := fun w' h => (hst.below (hw1 w' h) hsb).reg hrb
  have q2 : ∀ w', Below (w.heap.size + 1) W1 w' → w'.cell? ⟨sb, 8, none⟩ = some (.slice p m c) := fun w' h => (hst.below (hw1 w' h) hsb).cMv
  have q3 : ∀ w', Below (w.heap.size + 1) W1 w' → w'.cell? ⟨sb, 9, none⟩ = some (.int .i64 next) := fun w' h => (hst.below (hw1 w' h) hsb).cNext
  have q4 : ∀ w', Below (w.heap.size + 1) W1 w' → w'.cell? ⟨sb, 12, none⟩ = some (.int .i64 steps) := fun w' h => (hst.below (hw1 w' h) hsb).cSteps
  have f0 : ∀ w', Below (w.heap.size + 1) W1 w' → w'.frozen? ⟨sb, 9, none⟩ = false := fun w' h => (hst.below (hw1 w' h) hsb).frozen 9
  have f1 : ∀ w', Below (w.heap.size + 1) W1 w' → w'.frozen? ⟨sb, 12, none⟩ = false := fun w' h => (hst.below (hw1 w' h) hsb).frozen 12
  have hne : ¬ w.heap.size + 1 = sb := by omega
  have k0 := hst.cNext
  have k1 := hst.cSteps
  have k2 := hst.frozen 9
  have k3 := hst.frozen 12
  have hstart : Below (w.heap.size + 1) W1 (w.alloc (.cells #[.int .i64 op, .int .i64 d, .int .i64 ra, .int .i64 rb, .int .i64 k] 40)).drew := by
    rw [hW1]; exact (Below.refl _ _).drew
  have hstart2 : ∀ x, Below (w.heap.size + 1) W1 ((w.alloc (.cells #[.int .i64 op, .int .i64 d, .int .i64 ra, .int .i64 rb, .int .i64 k] 40)).alloc x).drew := fun x => by
    rw [hW1]; exact ((Below.refl _ _).alloc (by simp) _).drew
  have HS2 := hide hstart2
  clear hstart2
  obtain ⟨xa, hxa⟩ : ∃ x, x = regs.getD ra 0 := ⟨_, rfl⟩
  obtain ⟨xb, hxb⟩ : ∃ x, x = regs.getD rb 0 := ⟨_, rfl⟩
  rw [← hxa] at q0 HWK HTK
  rw [← hxb] at q1 HWK HTK
  clear hbox hxa hxb
  have HS := hide hstart
  clear hstart
  have HB := hide hw1
  clear hw1
  have HW1 := hide hW1
  clear hW1
  have HST := hide hst
  clear hst
  go_enter Tryz.func43, Tryz.ntmps43
  go_wp2
  go_region_held3 (fun w' => Below (w.heap.size + 1) W1 w') (first | assumption | exact HS.out | exact HS2.out _ | exact HS1.out | exact HS0.out | exact HS0.out.alloc hz0 _ | exact HS1.out.alloc hz1 _ | (refine Below.setCell (Below.setCell (Below.setCell HS1.out ?_ _) ?_ _) ?_ _ <;> simp <;> omega) | fail) (first | (go_at_call 63; refine (HTK.out _ (HB.out _ (by assumption))).mono ?_; rintro e w0 ⟨rfl, hb0⟩; have HS0 : Hid (Below (w.heap.size + 1) W1 w0) := (Below.trans (by assumption) (hb0.mono (by first | omega | (simp; omega) | simp))); have hz0 : w.heap.size + 1 ≤ w0.heap.size := (by have := hb0.size; simp at this; omega); obtain ⟨hc0, hf0⟩ := bcell hb0; have hy0 := hb0.size; simp at hy0; have hx0 : w.heap.size < w0.heap.size := (by omega); try (have hv0 : w.heap.size + 1 < w0.heap.size := (by omega))) | (go_at_call 62; refine (HWK.out _ (HB.out _ (by first | assumption | exact HS0.out))).mono ?_; rintro e w1 ⟨rfl, hb1⟩; obtain ⟨hc1, hf1⟩ := bcell hb1; have HS1 : Hid (Below (w.heap.size + 1) W1 w1) := (Below.trans (by first | assumption | exact HS0.out) (hb1.mono (by first | omega | (simp; omega) | simp))); have hz1 : w.heap.size + 1 ≤ w1.heap.size := (by have := hb1.size; first | omega | (simp at this; omega))))
  all_goals
    have hne1 : ¬ w1.heap.size = sb := by omega
    have hsb1 : sb < w1.heap.size := by omega
    have m0 := q3 _ HS1.out
    have m1 := q4 _ HS1.out
    have m2 := f0 _ HS1.out
    have m3 := f1 _ HS1.out
    go_wp2_with (go_at_call 64; refine (HPUT.out _ (by first | exact below_set (below_set (HB.out _ (by assumption)) _ _) _ _ | exact (below_set (below_set (HB.out _ HS1.out) _ _) _ _).alloc (by simp <;> omega) _ | fail)).mono ?_; rintro e w2 ⟨rfl, hb2⟩)
  all_goals
    go_ret
    refine ⟨rfl, ?_⟩
    refine Below.trans (below_set ?hw _ _) (hb2.mono ?hz)
    case hw => first | exact below_set (below_set (HB.out _ (by assumption)) _ _) _ _ | exact (below_set (below_set (HB.out _ HS1.out) _ _) _ _).alloc (by simp <;> omega) _ | fail
    case hz => have := hb2.size; simp <;> omega

end Go.Proofs.YtmeiogoodbnkkaaGreat
