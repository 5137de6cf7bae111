/- The orders that trap at their place. -/
import Derived.Test.YtmeiogoodbnkkaaGreatG
namespace Go.Proofs.YtmeiogoodbnkkaaGreat
open Go.RowKit

set_option maxHeartbeats 1000000 in
theorem load_out (o : Ord) (n a b : Int) (p : Option Addr) (m c : Nat) (w : World) (at' : Int) (hat : wrap64 (a + o.k) = at') (h0 : at' < 0 ∨ (m : Int) ≤ at') :
    Calls Tryz.prog 94 #[inp o n a b p m c] w fun e w' => e = .panicked [{ v := .iface 124 (.int .i64 2), recovered := false }] ∧ Below w.heap.size w w' := by
  have HAT := hide hat
  clear hat
  obtain ⟨W1, hW1⟩ : ∃ W1, W1 = w.alloc (.cells #[.int .i64 o.op, .int .i64 o.d, .int .i64 o.a, .int .i64 o.b, .int .i64 o.k, .int .i64 n, .int .i64 a, .int .i64 b, .slice p m c] 109) := ⟨_, rfl⟩
  have hbox := box_cells o n a b p m c hW1
  have r0 := fun w' h => (hbox w' h).1
  have r1 := fun w' h => (hbox w' h).2.1
  have r2 := fun w' h => (hbox w' h).2.2.1
  have r3 := fun w' h => (hbox w' h).2.2.2.1
  have r4 := fun w' h => (hbox w' h).2.2.2.2.1
  have r5 := fun w' h => (hbox w' h).2.2.2.2.2.1
  have r6 := fun w' h => (hbox w' h).2.2.2.2.2.2.1
  have r7 := fun w' h => (hbox w' h).2.2.2.2.2.2.2.1
  have r8 := fun w' h => (hbox w' h).2.2.2.2.2.2.2.2
  have hstart : ∀ x, Below (w.heap.size + 1) W1 ((w.alloc (.cells #[.int .i64 o.op, .int .i64 o.d, .int .i64 o.a, .int .i64 o.b, .int .i64 o.k, .int .i64 n, .int .i64 a, .int .i64 b, .slice p m c] 109)).alloc x).drew := fun x => by
    rw [hW1]; exact ((Below.refl _ _).alloc (by simp) _).drew
  clear hbox
  have HS := hide hstart
  clear hstart
  have HW1 := hide hW1
  clear hW1
  have H0 := hide h0
  clear h0
  go_enter Tryz.func94, Tryz.ntmps94
  go_wp2
  refine wp_region_held_drew (S := fun w' => Below (w.heap.size + 1) W1 w') (by kernel_rfl) (HS.out _) (fun hHeld => ?_)
  refine wpAnyH_take (i := 0) (v := ?_) rfl (by kernel_rfl) (by kernel_rfl) (by kernel_rfl) (fun _ _ _ h => h) (Or.inl ⟨by rfl, ?_⟩) hHeld ?_
  rotate_left
  · intro w' hSw
    go_simp
    try with_reducible rfl
  simp only [Act.put]
  refine wpAnyH_take (i := 1) (v := ?_) rfl (by kernel_rfl) (by kernel_rfl) (by kernel_rfl) (fun _ _ _ h => h) (Or.inl ⟨by rfl, ?_⟩) hHeld ?_
  rotate_left
  · intro w' hSw
    go_simp
    try with_reducible rfl
  simp only [Act.put]
  refine wpAnyH_take (i := 2) (v := ?_) rfl (by kernel_rfl) (by kernel_rfl) (by kernel_rfl) (fun _ _ _ h => h) (Or.inl ⟨by rfl, ?_⟩) hHeld ?_
  rotate_left
  · intro w' hSw
    go_simp
    try with_reducible rfl
  simp only [Act.put]
  refine wpAnyH_take (i := 3) (v := ?_) rfl (by kernel_rfl) (by kernel_rfl) (by kernel_rfl) (fun _ _ _ h => h) (Or.inl ⟨by rfl, ?_⟩) hHeld ?_
  rotate_left
  · intro w' hSw
    go_simp
    try with_reducible rfl
  simp only [Act.put]
  refine wpAnyH_ready (rs := [4]) (by kernel_rfl) (by simp) ?_
  refine AllReadyH.cons rfl (fun K hK => ?_) AllReadyH.nil
  go_simp
  clear hK
  refine (place_out _ _ _ _ _ _ _ _ at' HAT.out H0.out).mono ?_
  rintro e w1 ⟨rfl, hb1⟩
  exact ⟨rfl, rfl, (((Below.refl _ _).alloc (Nat.le_refl _) _).alloc (by simp) _).drew.trans (hb1.mono (by simp; omega))⟩

set_option maxHeartbeats 1000000 in
theorem store_out (o : Ord) (n a b : Int) (p : Option Addr) (m c : Nat) (w : World) (at' : Int) (hat : wrap64 (a + o.k) = at') (h0 : at' < 0 ∨ (m : Int) ≤ at') :
    Calls Tryz.prog 95 #[inp o n a b p m c] w fun e w' => e = .panicked [{ v := .iface 124 (.int .i64 2), recovered := false }] ∧ Below w.heap.size w w' := by
  have HAT := hide hat
  clear hat
  obtain ⟨W1, hW1⟩ : ∃ W1, W1 = w.alloc (.cells #[.int .i64 o.op, .int .i64 o.d, .int .i64 o.a, .int .i64 o.b, .int .i64 o.k, .int .i64 n, .int .i64 a, .int .i64 b, .slice p m c] 109) := ⟨_, rfl⟩
  have hbox := box_cells o n a b p m c hW1
  have r0 := fun w' h => (hbox w' h).1
  have r1 := fun w' h => (hbox w' h).2.1
  have r2 := fun w' h => (hbox w' h).2.2.1
  have r3 := fun w' h => (hbox w' h).2.2.2.1
  have r4 := fun w' h => (hbox w' h).2.2.2.2.1
  have r5 := fun w' h => (hbox w' h).2.2.2.2.2.1
  have r6 := fun w' h => (hbox w' h).2.2.2.2.2.2.1
  have r7 := fun w' h => (hbox w' h).2.2.2.2.2.2.2.1
  have r8 := fun w' h => (hbox w' h).2.2.2.2.2.2.2.2
  have hstart : ∀ x, Below (w.heap.size + 1) W1 ((w.alloc (.cells #[.int .i64 o.op, .int .i64 o.d, .int .i64 o.a, .int .i64 o.b, .int .i64 o.k, .int .i64 n, .int .i64 a, .int .i64 b, .slice p m c] 109)).alloc x).drew := fun x => by
    rw [hW1]; exact ((Below.refl _ _).alloc (by simp) _).drew
  clear hbox
  have HS := hide hstart
  clear hstart
  have HW1 := hide hW1
  clear hW1
  have H0 := hide h0
  clear h0
  go_enter Tryz.func95, Tryz.ntmps95
  go_wp2
  refine wp_region_held_drew (S := fun w' => Below (w.heap.size + 1) W1 w') (by kernel_rfl) (HS.out _) (fun hHeld => ?_)
  refine wpAnyH_take (i := 0) (v := ?_) rfl (by kernel_rfl) (by kernel_rfl) (by kernel_rfl) (fun _ _ _ h => h) (Or.inl ⟨by rfl, ?_⟩) hHeld ?_
  rotate_left
  · intro w' hSw
    go_simp
    try with_reducible rfl
  simp only [Act.put]
  refine wpAnyH_take (i := 2) (v := ?_) rfl (by kernel_rfl) (by kernel_rfl) (by kernel_rfl) (fun _ _ _ h => h) (Or.inl ⟨by rfl, ?_⟩) hHeld ?_
  rotate_left
  · intro w' hSw
    go_simp
    try with_reducible rfl
  simp only [Act.put]
  refine wpAnyH_take (i := 3) (v := ?_) rfl (by kernel_rfl) (by kernel_rfl) (by kernel_rfl) (fun _ _ _ h => h) (Or.inl ⟨by rfl, ?_⟩) hHeld ?_
  rotate_left
  · intro w' hSw
    go_simp
    try with_reducible rfl
  simp only [Act.put]
  refine wpAnyH_ready (rs := [1]) (by kernel_rfl) (by simp) ?_
  refine AllReadyH.cons rfl (fun K hK => ?_) AllReadyH.nil
  go_simp
  clear hK
  refine (place_out _ _ _ _ _ _ _ _ at' HAT.out H0.out).mono ?_
  rintro e w1 ⟨rfl, hb1⟩
  exact ⟨rfl, rfl, (((Below.refl _ _).alloc (Nat.le_refl _) _).alloc (by simp) _).drew.trans (hb1.mono (by simp; omega))⟩

end Go.Proofs.YtmeiogoodbnkkaaGreat
