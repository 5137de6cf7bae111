/- The work of an order, its trap caught: a store, a jump. -/
import Derived.Test.YtmeiogoodbnkkaaGreatJ
namespace Go.Proofs.YtmeiogoodbnkkaaGreat
open Go.RowKit

set_option maxRecDepth 100000 in
set_option maxHeartbeats 2000000 in
theorem work_store (o : Ord) (n a b : Int) (p : Option Addr) (m c : Nat) (w : World) (hop : o.op = 7) (t pl v : Int)
    (hm : ∀ w', Below w.heap.size w w' → Calls Tryz.prog 95 #[inp o n a b p m c] w' fun e w'' => e = .returned (.agg #[.int .i64 t, .int .i64 pl, .int .i64 v]) ∧ Below w'.heap.size w' w'') :
    Calls Tryz.prog 62 #[inp o n a b p m c] w fun e w' => e = .returned (.tuple #[.agg #[.int .i64 t, .int .i64 pl, .int .i64 v], .int .i64 0]) ∧ Below w.heap.size w w' := by
  obtain ⟨op, d, ra, rb, k⟩ := o
  simp only at hop
  subst hop
  have HM := hide hm
  clear hm
  obtain ⟨W1, hW1⟩ : ∃ W1, W1 = w.alloc (.cells #[.int .i64 7, .int .i64 d, .int .i64 ra, .int .i64 rb, .int .i64 k, .int .i64 n, .int .i64 a, .int .i64 b, .slice p m c] 109) := ⟨_, rfl⟩
  have hbox := box_cells ⟨7, d, ra, rb, k⟩ n a b p m c hW1
  have r0 : ∀ w', Below (w.heap.size + 1) W1 w' → w'.cell? ⟨w.heap.size, 0, none⟩ = some (.int .i64 7) := fun w' h => (hbox w' h).1
  have r1 := fun w' h => (hbox w' h).2.1
  have r2 := fun w' h => (hbox w' h).2.2.1
  have r3 := fun w' h => (hbox w' h).2.2.2.1
  have r4 := fun w' h => (hbox w' h).2.2.2.2.1
  have r5 := fun w' h => (hbox w' h).2.2.2.2.2.1
  have r6 := fun w' h => (hbox w' h).2.2.2.2.2.2.1
  have r7 := fun w' h => (hbox w' h).2.2.2.2.2.2.2.1
  have r8 := fun w' h => (hbox w' h).2.2.2.2.2.2.2.2
  have hstart : ∀ x y, Below (w.heap.size + 1) W1 (((w.alloc (.cells #[.int .i64 7, .int .i64 d, .int .i64 ra, .int .i64 rb, .int .i64 k, .int .i64 n, .int .i64 a, .int .i64 b, .slice p m c] 109)).alloc x).alloc y).drew := fun x y => by
    rw [hW1]; exact (((Below.refl _ _).alloc (by simp) _).alloc (by simp) _).drew
  have hw1 : ∀ w', Below (w.heap.size + 1) W1 w' → Below w.heap.size w w' := fun w' h => by
    rw [hW1] at h; exact ((Below.refl _ _).alloc (Nat.le_refl _) _).trans (h.mono (by omega))
  clear hbox
  simp only at r1 r2 r3 r4
  have HS := hide hstart
  clear hstart
  have HW1 := hide hW1
  clear hW1
  have HB := hide hw1
  clear hw1
  have hmf : ∀ (fn : Fn) (first cap : Array Value) (w : World), (Instr.makeFunc fn first cap).run Tryz.prog w = .ok (.func fn first cap) w := fun _ _ _ _ => rfl
  have hix := idx7
  have hfd := fld
  go_enter_defers Tryz.func62, Tryz.ntmps62
  go_wp2
  go_region_held3 (fun w' => Below (w.heap.size + 1) W1 w') (first | assumption | exact HS.out _ _ | (refine Below.trans (by assumption) (hb2.mono ?_); omega) | (refine Below.trans (by assumption) (hb1.mono ?_); simp <;> omega) | (refine Below.setCell (Below.setCell (Below.setCell (by assumption) ?_ _) ?_ _) ?_ _ <;> simp) | (refine Below.setCell (by assumption) ?_ _ <;> simp)) (first | (go_at_call 78; refine (table_any _).mono ?_; rintro e w1 ⟨rfl, hb1⟩; have hz1 : w.heap.size + 1 + 1 < w1.heap.size := (by have := hb1.size; simp at this; omega); have hz2 : w.heap.size + 1 < w1.heap.size := (by omega)) | (go_at_call 95; refine (HM.out _ (HB.out _ (by assumption))).mono ?_; rintro e w2 ⟨rfl, hb2⟩; obtain ⟨hc1, hf1⟩ := bcell hb1; obtain ⟨hc2, hf2⟩ := bcell hb2))
  go_wp2
  have hbel := HB.out _ (by assumption)
  refine leaves_cons (f := 77) (args := #[.pointer (some ⟨w.heap.size + 1 + 1, 0, none⟩)]) (by simp) (by simp [go_sem]) ?_
  refine (catch_idle ⟨w.heap.size + 1 + 1, 0, none⟩ _).mono ?_
  rintro e u' w'' ⟨rfl, rfl, rfl⟩
  simp [Leaves, settle, results, Tryz.results62, go_sem, hc1, hc2, hz1, hz2]
  exact hbel

set_option maxRecDepth 100000 in
set_option maxHeartbeats 2000000 in
theorem work_jump (o : Ord) (n a b : Int) (p : Option Addr) (m c : Nat) (w : World) (hop : o.op = 8) (t pl v : Int)
    (hm : ∀ w', Below w.heap.size w w' → Calls Tryz.prog 96 #[inp o n a b p m c] w' fun e w'' => e = .returned (.agg #[.int .i64 t, .int .i64 pl, .int .i64 v]) ∧ Below w'.heap.size w' w'') :
    Calls Tryz.prog 62 #[inp o n a b p m c] w fun e w' => e = .returned (.tuple #[.agg #[.int .i64 t, .int .i64 pl, .int .i64 v], .int .i64 0]) ∧ Below w.heap.size w w' := by
  obtain ⟨op, d, ra, rb, k⟩ := o
  simp only at hop
  subst hop
  have HM := hide hm
  clear hm
  obtain ⟨W1, hW1⟩ : ∃ W1, W1 = w.alloc (.cells #[.int .i64 8, .int .i64 d, .int .i64 ra, .int .i64 rb, .int .i64 k, .int .i64 n, .int .i64 a, .int .i64 b, .slice p m c] 109) := ⟨_, rfl⟩
  have hbox := box_cells ⟨8, d, ra, rb, k⟩ n a b p m c hW1
  have r0 : ∀ w', Below (w.heap.size + 1) W1 w' → w'.cell? ⟨w.heap.size, 0, none⟩ = some (.int .i64 8) := fun w' h => (hbox w' h).1
  have r1 := fun w' h => (hbox w' h).2.1
  have r2 := fun w' h => (hbox w' h).2.2.1
  have r3 := fun w' h => (hbox w' h).2.2.2.1
  have r4 := fun w' h => (hbox w' h).2.2.2.2.1
  have r5 := fun w' h => (hbox w' h).2.2.2.2.2.1
  have r6 := fun w' h => (hbox w' h).2.2.2.2.2.2.1
  have r7 := fun w' h => (hbox w' h).2.2.2.2.2.2.2.1
  have r8 := fun w' h => (hbox w' h).2.2.2.2.2.2.2.2
  have hstart : ∀ x y, Below (w.heap.size + 1) W1 (((w.alloc (.cells #[.int .i64 8, .int .i64 d, .int .i64 ra, .int .i64 rb, .int .i64 k, .int .i64 n, .int .i64 a, .int .i64 b, .slice p m c] 109)).alloc x).alloc y).drew := fun x y => by
    rw [hW1]; exact (((Below.refl _ _).alloc (by simp) _).alloc (by simp) _).drew
  have hw1 : ∀ w', Below (w.heap.size + 1) W1 w' → Below w.heap.size w w' := fun w' h => by
    rw [hW1] at h; exact ((Below.refl _ _).alloc (Nat.le_refl _) _).trans (h.mono (by omega))
  clear hbox
  simp only at r1 r2 r3 r4
  have HS := hide hstart
  clear hstart
  have HW1 := hide hW1
  clear hW1
  have HB := hide hw1
  clear hw1
  have hmf : ∀ (fn : Fn) (first cap : Array Value) (w : World), (Instr.makeFunc fn first cap).run Tryz.prog w = .ok (.func fn first cap) w := fun _ _ _ _ => rfl
  have hix := idx8
  have hfd := fld
  go_enter_defers Tryz.func62, Tryz.ntmps62
  go_wp2
  go_region_held3 (fun w' => Below (w.heap.size + 1) W1 w') (first | assumption | exact HS.out _ _ | (refine Below.trans (by assumption) (hb2.mono ?_); omega) | (refine Below.trans (by assumption) (hb1.mono ?_); simp <;> omega) | (refine Below.setCell (Below.setCell (Below.setCell (by assumption) ?_ _) ?_ _) ?_ _ <;> simp) | (refine Below.setCell (by assumption) ?_ _ <;> simp)) (first | (go_at_call 78; refine (table_any _).mono ?_; rintro e w1 ⟨rfl, hb1⟩; have hz1 : w.heap.size + 1 + 1 < w1.heap.size := (by have := hb1.size; simp at this; omega); have hz2 : w.heap.size + 1 < w1.heap.size := (by omega)) | (go_at_call 96; refine (HM.out _ (HB.out _ (by assumption))).mono ?_; rintro e w2 ⟨rfl, hb2⟩; obtain ⟨hc1, hf1⟩ := bcell hb1; obtain ⟨hc2, hf2⟩ := bcell hb2))
  go_wp2
  have hbel := HB.out _ (by assumption)
  refine leaves_cons (f := 77) (args := #[.pointer (some ⟨w.heap.size + 1 + 1, 0, none⟩)]) (by simp) (by simp [go_sem]) ?_
  refine (catch_idle ⟨w.heap.size + 1 + 1, 0, none⟩ _).mono ?_
  rintro e u' w'' ⟨rfl, rfl, rfl⟩
  simp [Leaves, settle, results, Tryz.results62, go_sem, hc1, hc2, hz1, hz2]
  exact hbel

end Go.Proofs.YtmeiogoodbnkkaaGreat
