/- What each order does: the methods whose statement leaves its order open. -/
import Derived.Test.YtmeiogoodbnkkaaGreatF
namespace Go.Proofs.YtmeiogoodbnkkaaGreat
open Go.RowKit

/-- The box of what goes in, in whatever world. -/
abbrev boxed (N : Nat) (o : Ord) (n a b : Int) (p : Option Addr) (m c : Nat) (w : World) : Prop :=
  w.cell? ⟨N, 0, none⟩ = some (.int .i64 o.op) ∧ w.cell? ⟨N, 1, none⟩ = some (.int .i64 o.d) ∧ w.cell? ⟨N, 2, none⟩ = some (.int .i64 o.a) ∧ w.cell? ⟨N, 3, none⟩ = some (.int .i64 o.b) ∧ w.cell? ⟨N, 4, none⟩ = some (.int .i64 o.k) ∧
  w.cell? ⟨N, 5, none⟩ = some (.int .i64 n) ∧ w.cell? ⟨N, 6, none⟩ = some (.int .i64 a) ∧ w.cell? ⟨N, 7, none⟩ = some (.int .i64 b) ∧ w.cell? ⟨N, 8, none⟩ = some (.slice p m c)

set_option maxHeartbeats 1000000 in
theorem div_some (o : Ord) (n a b : Int) (p : Option Addr) (m c : Nat) (w : World) (hb : (b == 0) = false) (hb' : ¬ b = 0) :
    Calls Tryz.prog 93 #[inp o n a b p m c] w fun e w' => e = .returned (.agg #[.int .i64 1, .int .i64 o.d, .int .i64 (wrap64 (a.tdiv b))]) ∧ Below w.heap.size w w' := by
  go_enter Tryz.func93, Tryz.ntmps93
  go_wp2
  go_region_held3 (fun w' => w'.cell? ⟨w.heap.size, 0, none⟩ = some (.int .i64 o.op) ∧ w'.cell? ⟨w.heap.size, 1, none⟩ = some (.int .i64 o.d) ∧ w'.cell? ⟨w.heap.size, 2, none⟩ = some (.int .i64 o.a) ∧ w'.cell? ⟨w.heap.size, 3, none⟩ = some (.int .i64 o.b) ∧ w'.cell? ⟨w.heap.size, 4, none⟩ = some (.int .i64 o.k) ∧
  w'.cell? ⟨w.heap.size, 5, none⟩ = some (.int .i64 n) ∧ w'.cell? ⟨w.heap.size, 6, none⟩ = some (.int .i64 a) ∧ w'.cell? ⟨w.heap.size, 7, none⟩ = some (.int .i64 b) ∧ w'.cell? ⟨w.heap.size, 8, none⟩ = some (.slice p m c)) (first | go_keep | go_simp) ((go_at_call 108; refine (intoD_any _ _ _ _ _ _ _ _ _).mono ?_; rintro e w1 ⟨rfl, hb1⟩; obtain ⟨hc1, hf1⟩ := bcell hb1))
  go_wp2
  have hz := hb1.size
  simp at hz
  rw [IntWalk.i64_left]
  refine bodyPost_ret (v := .agg #[.int .i64 1, .int .i64 o.d, .int .i64 (wrap64 (a.tdiv b))]) (by simp [results, Tryz.results93, go_sem, hc1]) rfl ⟨rfl, ?_⟩
  exact (((((((Below.refl _ _).alloc (Nat.le_refl _) _).alloc (by simp) _).drew).trans (hb1.mono (by simp; omega))).setCell (by simp) _).setCell (by simp) _).setCell (by simp) _

set_option maxHeartbeats 1000000 in
theorem store_in (o : Ord) (n a b : Int) (p : Option Addr) (m c : Nat) (w : World) (at' : Int) (hat : wrap64 (a + o.k) = at') (h0 : 0 ≤ at') (h1 : at' < m) :
    Calls Tryz.prog 95 #[inp o n a b p m c] w fun e w' => e = .returned (.agg #[.int .i64 2, .int .i64 at', .int .i64 b]) ∧ Below w.heap.size w w' := by
  have HAT := hide hat
  clear hat
  go_enter Tryz.func95, Tryz.ntmps95
  go_wp2
  go_region_held3 (fun w' => w'.cell? ⟨w.heap.size, 0, none⟩ = some (.int .i64 o.op) ∧ w'.cell? ⟨w.heap.size, 1, none⟩ = some (.int .i64 o.d) ∧ w'.cell? ⟨w.heap.size, 2, none⟩ = some (.int .i64 o.a) ∧ w'.cell? ⟨w.heap.size, 3, none⟩ = some (.int .i64 o.b) ∧ w'.cell? ⟨w.heap.size, 4, none⟩ = some (.int .i64 o.k) ∧
    w'.cell? ⟨w.heap.size, 5, none⟩ = some (.int .i64 n) ∧ w'.cell? ⟨w.heap.size, 6, none⟩ = some (.int .i64 a) ∧ w'.cell? ⟨w.heap.size, 7, none⟩ = some (.int .i64 b) ∧ w'.cell? ⟨w.heap.size, 8, none⟩ = some (.slice p m c)) (first | go_keep | go_simp) ((go_at_call 109; refine (place_in _ _ _ _ _ _ _ _ at' HAT.out h0 h1).mono ?_; rintro e w1 ⟨rfl, hb1⟩; obtain ⟨hc1, hf1⟩ := bcell hb1))
  go_wp2
  have hz := hb1.size
  simp at hz
  refine bodyPost_ret (v := .agg #[.int .i64 2, .int .i64 at', .int .i64 b]) (by simp [results, Tryz.results95, go_sem, hc1]) rfl ⟨rfl, ?_⟩
  exact (((((((Below.refl _ _).alloc (Nat.le_refl _) _).alloc (by simp) _).drew).trans (hb1.mono (by simp; omega))).setCell (by simp) _).setCell (by simp) _).setCell (by simp) _

/-- The cells of the box, in whatever world lies above it. -/
theorem box_cells {w W1 : World} (o : Ord) (n a b : Int) (p : Option Addr) (m c : Nat)
    (hW : W1 = w.alloc (.cells #[.int .i64 o.op, .int .i64 o.d, .int .i64 o.a, .int .i64 o.b, .int .i64 o.k, .int .i64 n, .int .i64 a, .int .i64 b, .slice p m c] 109)) :
    ∀ w', Below (w.heap.size + 1) W1 w' →
      w'.cell? ⟨w.heap.size, 0, none⟩ = some (.int .i64 o.op) ∧ w'.cell? ⟨w.heap.size, 1, none⟩ = some (.int .i64 o.d) ∧ w'.cell? ⟨w.heap.size, 2, none⟩ = some (.int .i64 o.a) ∧ w'.cell? ⟨w.heap.size, 3, none⟩ = some (.int .i64 o.b) ∧ w'.cell? ⟨w.heap.size, 4, none⟩ = some (.int .i64 o.k) ∧
      w'.cell? ⟨w.heap.size, 5, none⟩ = some (.int .i64 n) ∧ w'.cell? ⟨w.heap.size, 6, none⟩ = some (.int .i64 a) ∧ w'.cell? ⟨w.heap.size, 7, none⟩ = some (.int .i64 b) ∧ w'.cell? ⟨w.heap.size, 8, none⟩ = some (.slice p m c) := by
  intro w' h
  subst hW
  have hc : ∀ j, w'.cell? ⟨w.heap.size, j, none⟩ = (w.alloc (.cells #[.int .i64 o.op, .int .i64 o.d, .int .i64 o.a, .int .i64 o.b, .int .i64 o.k, .int .i64 n, .int .i64 a, .int .i64 b, .slice p m c] 109)).cell? ⟨w.heap.size, j, none⟩ :=
    fun j => h.cell (p := ⟨w.heap.size, j, none⟩) (Nat.lt_succ_self _)
  simp [hc, go_sem]

set_option maxHeartbeats 1000000 in
theorem load_in (o : Ord) (n a b : Int) (mb off m c : Nat) (w : World) (j : Nat) (v : Int) (hat : wrap64 (a + o.k) = j) (h1 : j < m) (hmb : mb < w.heap.size) (hcell : w.cell? ⟨mb, off + j, none⟩ = some (.int .i64 v)) :
    Calls Tryz.prog 94 #[inp o n a b (some ⟨mb, off, none⟩) m c] w fun e w' => e = .returned (.agg #[.int .i64 1, .int .i64 o.d, .int .i64 v]) ∧ Below w.heap.size w w' := by
  have HAT := hide hat
  clear hat
  have hj0 : (0 : Int) ≤ (j : Int) := by omega
  have hj1 : (j : Int) < (m : Int) := by omega
  obtain ⟨W1, hW1⟩ : ∃ W1, W1 = w.alloc (.cells #[.int .i64 o.op, .int .i64 o.d, .int .i64 o.a, .int .i64 o.b, .int .i64 o.k, .int .i64 n, .int .i64 a, .int .i64 b, .slice (some ⟨mb, off, none⟩) m c] 109) := ⟨_, rfl⟩
  have hbox := box_cells o n a b (some ⟨mb, off, none⟩) m c hW1
  have r0 := fun w' h => (hbox w' h).1
  have r1 := fun w' h => (hbox w' h).2.1
  have r2 := fun w' h => (hbox w' h).2.2.1
  have r3 := fun w' h => (hbox w' h).2.2.2.1
  have r4 := fun w' h => (hbox w' h).2.2.2.2.1
  have r5 := fun w' h => (hbox w' h).2.2.2.2.2.1
  have r6 := fun w' h => (hbox w' h).2.2.2.2.2.2.1
  have r7 := fun w' h => (hbox w' h).2.2.2.2.2.2.2.1
  have r8 := fun w' h => (hbox w' h).2.2.2.2.2.2.2.2
  have r9 : ∀ w', Below (w.heap.size + 1) W1 w' → w'.cell? ⟨mb, off + j, none⟩ = some (.int .i64 v) := fun w' h => by
    rw [h.cell (p := ⟨mb, off + j, none⟩) (by simp; omega), hW1, ← hcell]
    exact World.cell?_of_block (Below.heap_alloc w _ mb hmb)
  have hstart : ∀ x, Below (w.heap.size + 1) W1 ((w.alloc (.cells #[.int .i64 o.op, .int .i64 o.d, .int .i64 o.a, .int .i64 o.b, .int .i64 o.k, .int .i64 n, .int .i64 a, .int .i64 b, .slice (some ⟨mb, off, none⟩) m c] 109)).alloc x).drew := fun x => by
    rw [hW1]; exact ((Below.refl _ _).alloc (by simp) _).drew
  clear hbox hcell
  have HW1 := hide hW1
  clear hW1
  have HS := hide hstart
  clear hstart
  go_enter Tryz.func94, Tryz.ntmps94
  go_wp2
  go_region_held3 (fun w' => Below (w.heap.size + 1) W1 w') (first | exact HS.out _ | (refine Below.trans (by assumption) (hb2.mono ?_); omega) | (refine Below.trans (by assumption) (hb1.mono ?_); simp) | (refine Below.setCell (Below.setCell (Below.setCell (by assumption) ?_ _) ?_ _) ?_ _ <;> simp)) (first | (go_at_call 109; refine (place_in _ _ _ _ _ _ _ _ (j : Int) HAT.out hj0 hj1).mono ?_; rintro e w1 ⟨rfl, hb1⟩; have hz1 : w.heap.size + 1 < w1.heap.size := (by have := hb1.size; simp at this; omega)) | (go_at_call 108; refine (intoD_any _ _ _ _ _ _ _ _ _).mono ?_; rintro e w2 ⟨rfl, hb2⟩; obtain ⟨hc1, hf1⟩ := bcell hb1; obtain ⟨hc2, hf2⟩ := bcell hb2))
  go_wp2
  have hz2 := hb2.size
  refine bodyPost_ret (v := .agg #[.int .i64 1, .int .i64 o.d, .int .i64 v]) (by simp [results, Tryz.results94, go_sem, hc1, hc2, hz1]) rfl ⟨rfl, ?_⟩
  exact (((((((Below.refl _ _).alloc (Nat.le_refl _) _).alloc (by simp) _).drew).trans (hb1.mono (by simp; omega))).trans (hb2.mono (by omega))).setCell (by simp) _).setCell (by simp) _ |>.setCell (by simp) _

end Go.Proofs.YtmeiogoodbnkkaaGreat
