/- What an order takes out of the state, and what it puts into it, wherever the state lies. -/
import Derived.Test.YtmeiogoodbnkkaaGreatRows
import Derived.Test.YtmeiogoodbnkkaaGreatM
import Derived.WalkLawsBesides
import Derived.Deep.QuietTactic
import Derived.BigQuiet
import Derived.Deep.RegionHeld3
namespace Go.Proofs.YtmeiogoodbnkkaaGreat
open Go.RowKit

set_option maxRecDepth 100000 in
set_option maxHeartbeats 4000000 in
theorem take_any (sb off ra rb : Nat) (op d k number xa xb : Int) (p : Option Addr) (m c : Nat) (w : World) (hra : ra < 8) (hrb : rb < 8) (hsb : sb < w.heap.size) (ha : w.cell? ⟨sb, off + ra, none⟩ = some (.int .i64 xa)) (hb : w.cell? ⟨sb, off + rb, none⟩ = some (.int .i64 xb))
    (hm : w.cell? ⟨sb, off + 8, none⟩ = some (.slice p m c)) :
    Calls Tryz.prog 63 #[.pointer (some ⟨sb, off, none⟩), .agg #[.int .i64 op, .int .i64 d, .int .i64 ra, .int .i64 rb, .int .i64 k], .int .i64 number] w fun e w' =>
      e = .returned (.agg #[.int .i64 op, .int .i64 d, .int .i64 ra, .int .i64 rb, .int .i64 k, .int .i64 number, .int .i64 xa, .int .i64 xb, .slice p m c]) ∧ Below w.heap.size w w' := by
  have ra0 : (0 : Int) ≤ (ra : Int) := by omega
  have ra1 : (ra : Int) < 8 := by omega
  have rb0 : (0 : Int) ≤ (rb : Int) := by omega
  have rb1 : (rb : Int) < 8 := by omega
  obtain ⟨W1, hW1⟩ : ∃ W1, W1 = w.alloc (.cells #[.int .i64 op, .int .i64 d, .int .i64 ra, .int .i64 rb, .int .i64 k] 40) := ⟨_, rfl⟩
  have hbox : ∀ w', Below (w.heap.size + 1) W1 w' → w'.cell? ⟨w.heap.size, 0, none⟩ = some (.int .i64 op) ∧ w'.cell? ⟨w.heap.size, 1, none⟩ = some (.int .i64 d) ∧ w'.cell? ⟨w.heap.size, 2, none⟩ = some (.int .i64 ra) ∧ w'.cell? ⟨w.heap.size, 3, none⟩ = some (.int .i64 rb) ∧ w'.cell? ⟨w.heap.size, 4, none⟩ = some (.int .i64 k) := by
    intro w' h
    have hc : ∀ j, w'.cell? ⟨w.heap.size, j, none⟩ = W1.cell? ⟨w.heap.size, j, none⟩ := fun j => h.cell (p := ⟨w.heap.size, j, none⟩) (Nat.lt_succ_self _)
    subst hW1
    simp [hc, go_sem]
  have r0 := fun w' h => (hbox w' h).1
  have r1 := fun w' h => (hbox w' h).2.1
  have r2 := fun w' h => (hbox w' h).2.2.1
  have r3 := fun w' h => (hbox w' h).2.2.2.1
  have r4 := fun w' h => (hbox w' h).2.2.2.2
  have hw1 : ∀ w', Below (w.heap.size + 1) W1 w' → Below w.heap.size w w' := fun w' h => by
    rw [hW1] at h; exact ((Below.refl _ _).alloc (Nat.le_refl _) _).trans (h.mono (by omega))
  have q0 : ∀ w', Below (w.heap.size + 1) W1 w' → w'.cell? ⟨sb, off + ra, none⟩ = some (.int .i64 xa) := fun w' h => ((hw1 w' h).cell (p := ⟨sb, off + ra, none⟩) hsb).trans ha
  have q1 : ∀ w', Below (w.heap.size + 1) W1 w' → w'.cell? ⟨sb, off + rb, none⟩ = some (.int .i64 xb) := fun w' h => ((hw1 w' h).cell (p := ⟨sb, off + rb, none⟩) hsb).trans hb
  have q2 : ∀ w', Below (w.heap.size + 1) W1 w' → w'.cell? ⟨sb, off + 8, none⟩ = some (.slice p m c) := fun w' h => ((hw1 w' h).cell (p := ⟨sb, off + 8, none⟩) hsb).trans hm
  have hstart : ∀ x, Below (w.heap.size + 1) W1 ((w.alloc (.cells #[.int .i64 op, .int .i64 d, .int .i64 ra, .int .i64 rb, .int .i64 k] 40)).alloc x).drew := fun x => by
    rw [hW1]; exact ((Below.refl _ _).alloc (by simp) _).drew
  clear hbox ha hb hm
  have HS := hide hstart
  clear hstart
  have HB := hide hw1
  clear hw1
  have HW1 := hide hW1
  clear hW1
  go_enter Tryz.func63, Tryz.ntmps63
  go_wp2
  go_region_held3 (fun w' => Below (w.heap.size + 1) W1 w') (first | assumption | exact HS.out _ | fail) (fail)
  all_goals go_wp2
  all_goals
    exact bodyPost_ret (v := .agg #[.int .i64 op, .int .i64 d, .int .i64 ra, .int .i64 rb, .int .i64 k, .int .i64 number, .int .i64 xa, .int .i64 xb, .slice p m c]) (by simp [results, Tryz.results63, go_sem]) rfl ⟨rfl, HB.out _ (by assumption)⟩

set_option maxRecDepth 10000 in
set_option maxHeartbeats 1000000 in
theorem put_next_at (sb off : Nat) (pl v : Int) (x : Value) (w : World) (hsb : sb < w.heap.size) (hc : w.cell? ⟨sb, off + 9, none⟩ = some x) (hf : w.frozen? ⟨sb, off + 9, none⟩ = false) :
    Calls Tryz.prog 64 #[.agg #[.int .i64 3, .int .i64 pl, .int .i64 v], .pointer (some ⟨sb, off, none⟩)] w fun e w' => e = .returned (.tuple #[]) ∧ Below w.heap.size (w.setCell ⟨sb, off + 9, none⟩ (.int .i64 v)) w' := by
  have hne : ¬ w.heap.size = sb := by omega
  go_enter Tryz.func64, Tryz.ntmps64
  go_wp2
  go_end0
  exact ⟨rfl, (Below.refl _ _).alloc (by simp) _⟩

set_option maxRecDepth 10000 in
set_option maxHeartbeats 1000000 in
theorem put_reg_at (sb off j : Nat) (v : Int) (x : Value) (w : World) (hj : j < 8) (hsb : sb < w.heap.size) (hc : w.cell? ⟨sb, off + j, none⟩ = some x) (hf : w.frozen? ⟨sb, off + j, none⟩ = false) :
    Calls Tryz.prog 64 #[.agg #[.int .i64 1, .int .i64 j, .int .i64 v], .pointer (some ⟨sb, off, none⟩)] w fun e w' => e = .returned (.tuple #[]) ∧ Below w.heap.size (w.setCell ⟨sb, off + j, none⟩ (.int .i64 v)) w' := by
  have hne : ¬ w.heap.size = sb := by omega
  have hj0 : (0 : Int) ≤ (j : Int) := by omega
  have hj1 : (j : Int) < 8 := by omega
  go_enter Tryz.func64, Tryz.ntmps64
  go_wp2
  go_region
  go_wp2
  go_end0
  exact ⟨rfl, ((Below.refl _ _).alloc (by simp) _).drew⟩

set_option maxRecDepth 10000 in
set_option maxHeartbeats 1000000 in
theorem put_word_at (sb off mb j n cap : Nat) (v : Int) (x : Value) (w : World) (hj : j < n) (hsb : sb < w.heap.size) (hmb : mb < w.heap.size) (hm : w.cell? ⟨sb, off + 8, none⟩ = some (.slice (some ⟨mb, 0, none⟩) n cap))
    (hc : w.cell? ⟨mb, j, none⟩ = some x) (hf : w.frozen? ⟨mb, j, none⟩ = false) :
    Calls Tryz.prog 64 #[.agg #[.int .i64 2, .int .i64 j, .int .i64 v], .pointer (some ⟨sb, off, none⟩)] w fun e w' => e = .returned (.tuple #[]) ∧ Below w.heap.size (w.setCell ⟨mb, j, none⟩ (.int .i64 v)) w' := by
  have hne : ¬ w.heap.size = sb := by omega
  have hne' : ¬ w.heap.size = mb := by omega
  have hj0 : (0 : Int) ≤ (j : Int) := by omega
  have hj1 : (j : Int) < n := by omega
  go_enter Tryz.func64, Tryz.ntmps64
  go_wp2
  go_region
  go_wp2
  go_end0
  exact ⟨rfl, ((Below.refl _ _).alloc (by simp) _).drew⟩

theorem put_next (sb : Nat) (pl v : Int) (x : Value) (w : World) (hsb : sb < w.heap.size) (hc : w.cell? ⟨sb, 9, none⟩ = some x) (hf : w.frozen? ⟨sb, 9, none⟩ = false) :
    Calls Tryz.prog 64 #[.agg #[.int .i64 3, .int .i64 pl, .int .i64 v], .pointer (some ⟨sb, 0, none⟩)] w fun e w' => e = .returned (.tuple #[]) ∧ Below w.heap.size (w.setCell ⟨sb, 9, none⟩ (.int .i64 v)) w' := by
  have := put_next_at sb 0 pl v x w hsb (by simpa using hc) (by simpa using hf)
  simpa using this

theorem put_reg (sb j : Nat) (v : Int) (x : Value) (w : World) (hj : j < 8) (hsb : sb < w.heap.size) (hc : w.cell? ⟨sb, j, none⟩ = some x) (hf : w.frozen? ⟨sb, j, none⟩ = false) :
    Calls Tryz.prog 64 #[.agg #[.int .i64 1, .int .i64 j, .int .i64 v], .pointer (some ⟨sb, 0, none⟩)] w fun e w' => e = .returned (.tuple #[]) ∧ Below w.heap.size (w.setCell ⟨sb, j, none⟩ (.int .i64 v)) w' := by
  have := put_reg_at sb 0 j v x w hj hsb (by simpa using hc) (by simpa using hf)
  simpa using this

theorem put_word (sb mb j n cap : Nat) (v : Int) (x : Value) (w : World) (hj : j < n) (hsb : sb < w.heap.size) (hmb : mb < w.heap.size) (hm : w.cell? ⟨sb, 8, none⟩ = some (.slice (some ⟨mb, 0, none⟩) n cap))
    (hc : w.cell? ⟨mb, j, none⟩ = some x) (hf : w.frozen? ⟨mb, j, none⟩ = false) :
    Calls Tryz.prog 64 #[.agg #[.int .i64 2, .int .i64 j, .int .i64 v], .pointer (some ⟨sb, 0, none⟩)] w fun e w' => e = .returned (.tuple #[]) ∧ Below w.heap.size (w.setCell ⟨mb, j, none⟩ (.int .i64 v)) w' :=
  put_word_at sb 0 mb j n cap v x w hj hsb hmb (by simpa using hm) hc hf

end Go.Proofs.YtmeiogoodbnkkaaGreat
