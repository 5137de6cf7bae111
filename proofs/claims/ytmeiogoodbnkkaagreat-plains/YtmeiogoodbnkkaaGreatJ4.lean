/- The work of an order that traps. -/
import Derived.Test.YtmeiogoodbnkkaaGreatJ
namespace Go.Proofs.YtmeiogoodbnkkaaGreat
open Go.RowKit

/-- How the body of Work is left where the order traps. -/
def Qp (w : World) (t : Int) : Exit → Act → World → Prop := fun ex a w' =>
  ex = .panic [{ v := .iface 124 (.int .i64 t), recovered := false }] ∧ a.defers = [{ target := .fn (.func 77) #[.pointer (some ⟨w.heap.size + 1 + 1, 0, none⟩)], args := #[] }] ∧
  a.tmps.getD 2 undef = .pointer (some ⟨w.heap.size + 1, 0, none⟩) ∧ a.tmps.getD 3 undef = .pointer (some ⟨w.heap.size + 1 + 1, 0, none⟩) ∧ Below w.heap.size w w' ∧
  w'.cell? ⟨w.heap.size + 1, 0, none⟩ = some (.int .i64 0) ∧ w'.cell? ⟨w.heap.size + 1, 1, none⟩ = some (.int .i64 0) ∧ w'.cell? ⟨w.heap.size + 1, 2, none⟩ = some (.int .i64 0) ∧
  w'.cell? ⟨w.heap.size + 1 + 1, 0, none⟩ = some (.int .i64 0) ∧ w'.frozen? ⟨w.heap.size + 1 + 1, 0, none⟩ = false

theorem qp_put {w : World} {t : Int} {e : Exit} {a : Act} {d : Nat} {v : Value} {w' : World} (h2 : d ≠ 2) (h3 : d ≠ 3) (h : Qp w t e (a.put (some d) v) w') : Qp w t e a w' := by
  obtain ⟨g1, g2, g3, g4, g5⟩ := h
  refine ⟨g1, g2, ?_, ?_, g5⟩
  · rw [← g3]; simp [Act.put, Array.getElem?_setIfInBounds_ne h2]
  · rw [← g4]; simp [Act.put, Array.getElem?_setIfInBounds_ne h3]

set_option maxHeartbeats 1000000 in
theorem qp_leaves {w : World} {t : Int} (e : Exit) (a : Act) (w' : World) (h : Qp w t e a w') :
    bodyPostD Tryz.prog Tryz.f62 (fun e w' => e = .returned (.tuple #[.agg #[.int .i64 0, .int .i64 0, .int .i64 0], .int .i64 t]) ∧ Below w.heap.size w w') e a w' := by
  obtain ⟨rfl, hd, h2, h3, hb, c0, c1, c2, c3, hf⟩ := h
  show Leaves _ _ a.tmps _ a.defers (.panicking _) w'
  rw [hd]
  refine leaves_cons (f := 77) (args := #[.pointer (some ⟨w.heap.size + 1 + 1, 0, none⟩)]) (by simp) (by simp [go_sem]) ?_
  refine (catch_trap ⟨w.heap.size + 1 + 1, 0, none⟩ 0 t [] w' c3 hf).mono ?_
  rintro e u' w'' ⟨rfl, rfl, rfl⟩
  have hne : w.heap.size + 1 ≠ w.heap.size + 1 + 1 := by omega
  have hs := World.cell?_setCell_same w' ⟨w.heap.size + 1 + 1, 0, none⟩ (.int .i64 t) c3
  simp only [Array.getD_eq_getD_getElem?] at h2 h3
  simp [Leaves, settle, results, Tryz.results62, go_sem, h2, h3, c0, c1, c2, hs, cell_far hne]
  exact hb.setCell (by simp; omega) _

set_option maxRecDepth 100000 in
set_option maxHeartbeats 2000000 in
theorem trap_div (o : Ord) (n a b : Int) (p : Option Addr) (m c : Nat) (w : World) (hop : o.op = 5) (t : Int)
    (hm : ∀ w', Below w.heap.size w w' → Calls Tryz.prog 93 #[inp o n a b p m c] w' fun e w'' => e = .panicked [{ v := .iface 124 (.int .i64 t), recovered := false }] ∧ Below w'.heap.size w' w'') :
    Calls Tryz.prog 62 #[inp o n a b p m c] w fun e w' => e = .returned (.tuple #[.agg #[.int .i64 0, .int .i64 0, .int .i64 0], .int .i64 t]) ∧ Below w.heap.size w w' := by
  obtain ⟨op, d, ra, rb, k⟩ := o
  simp only at hop
  subst hop
  have HM := hide hm
  clear hm
  obtain ⟨W1, hW1⟩ : ∃ W1, W1 = w.alloc (.cells #[.int .i64 5, .int .i64 d, .int .i64 ra, .int .i64 rb, .int .i64 k, .int .i64 n, .int .i64 a, .int .i64 b, .slice p m c] 109) := ⟨_, rfl⟩
  have hbox := box_cells ⟨5, d, ra, rb, k⟩ n a b p m c hW1
  have r0 : ∀ w', Below (w.heap.size + 1) W1 w' → w'.cell? ⟨w.heap.size, 0, none⟩ = some (.int .i64 5) := fun w' h => (hbox w' h).1
  have r1 := fun w' h => (hbox w' h).2.1
  have r2 := fun w' h => (hbox w' h).2.2.1
  have r3 := fun w' h => (hbox w' h).2.2.2.1
  have r4 := fun w' h => (hbox w' h).2.2.2.2.1
  have r5 := fun w' h => (hbox w' h).2.2.2.2.2.1
  have r6 := fun w' h => (hbox w' h).2.2.2.2.2.2.1
  have r7 := fun w' h => (hbox w' h).2.2.2.2.2.2.2.1
  have r8 := fun w' h => (hbox w' h).2.2.2.2.2.2.2.2
  have hstart : ∀ x y, Below (w.heap.size + 1) W1 (((w.alloc (.cells #[.int .i64 5, .int .i64 d, .int .i64 ra, .int .i64 rb, .int .i64 k, .int .i64 n, .int .i64 a, .int .i64 b, .slice p m c] 109)).alloc x).alloc y).drew := fun x y => by
    rw [hW1]; exact (((Below.refl _ _).alloc (by simp) _).alloc (by simp) _).drew
  have hw1 : ∀ w', Below (w.heap.size + 1) W1 w' → Below w.heap.size w w' := fun w' h => by
    rw [hW1] at h; exact ((Below.refl _ _).alloc (Nat.le_refl _) _).trans (h.mono (by omega))
  clear hbox
  simp only at r1 r2 r3 r4
  have HS := hide hstart
  clear hstart
  have HW1 := hide hW1
  clear hW1
  have HB := hide hw1
  clear hw1
  have hmf : ∀ (fn : Fn) (first cap : Array Value) (w : World), (Instr.makeFunc fn first cap).run Tryz.prog w = .ok (.func fn first cap) w := fun _ _ _ _ => rfl
  have hix := idx5
  have hfd := fld
  go_enter_defers Tryz.func62, Tryz.ntmps62
  go_wp2
  refine Code.wp_mono (Q := Qp w t) (fun e a w' h => by obtain ⟨rfl, hrest⟩ := h; exact qp_leaves _ a w' ⟨rfl, hrest⟩) ?_
  refine wp_region_held_drew (S := fun w' => Below (w.heap.size + 1) W1 w') (by kernel_rfl) (HS.out _ _) (fun hHeld => ?_)
  refine wpAnyH_take (i := 1) (v := ?_) rfl (by kernel_rfl) (by kernel_rfl) (by kernel_rfl) (fun _ _ _ h => qp_put (by decide) (by decide) h) (Or.inl ⟨by rfl, ?_⟩) hHeld ?_
  rotate_left
  · intro w' hSw
    go_simp
    try with_reducible rfl
  simp only [Act.put]
  refine wpAnyH_take (i := 2) (v := ?_) rfl (by kernel_rfl) (by kernel_rfl) (by kernel_rfl) (fun _ _ _ h => qp_put (by decide) (by decide) h) (Or.inl ⟨by rfl, ?_⟩) hHeld ?_
  rotate_left
  · intro w' hSw
    go_simp
    try with_reducible rfl
  simp only [Act.put]
  refine wpAnyH_take (i := 3) (v := ?_) rfl (by kernel_rfl) (by kernel_rfl) (by kernel_rfl) (fun _ _ _ h => qp_put (by decide) (by decide) h) (Or.inl ⟨by rfl, ?_⟩) hHeld ?_
  rotate_left
  · intro w' hSw
    go_simp
    try with_reducible rfl
  simp only [Act.put]
  refine wpAnyH_take (i := 6) (v := ?_) rfl (by kernel_rfl) (by kernel_rfl) (by kernel_rfl) (fun _ _ _ h => qp_put (by decide) (by decide) h) (Or.inl ⟨by rfl, ?_⟩) hHeld ?_
  rotate_left
  · intro w' hSw
    go_simp
    try with_reducible rfl
  simp only [Act.put]
  refine wpAnyH_ready (rs := [0]) (by kernel_rfl) (by simp) ?_
  refine AllReadyH.cons rfl (fun K hK => ?_) AllReadyH.nil
  go_simp
  refine (table_any _).mono ?_
  rintro e w1 ⟨rfl, hb1⟩
  have hz1 : w.heap.size + 1 + 1 < w1.heap.size := by have := hb1.size; simp at this; omega
  have hS1 : Below (w.heap.size + 1) W1 w1 := hHeld.trans (hb1.mono (by simp))
  refine hK.out _ _ hS1 (fun hHeld => ?_)
  clear hK
  refine wpAnyH_take (i := 4) (v := ?_) rfl (by kernel_rfl) (by kernel_rfl) (by kernel_rfl) (fun _ _ _ h => qp_put (by decide) (by decide) h) (Or.inl ⟨by rfl, ?_⟩) hHeld ?_
  rotate_left
  · intro w' hSw
    go_simp
    try with_reducible rfl
  simp only [Act.put]
  refine wpAnyH_take (i := 5) (v := ?_) rfl (by kernel_rfl) (by kernel_rfl) (by kernel_rfl) (fun _ _ _ h => qp_put (by decide) (by decide) h) (Or.inl ⟨by rfl, ?_⟩) hHeld ?_
  rotate_left
  · intro w' hSw
    go_simp
    try with_reducible rfl
  simp only [Act.put]
  refine wpAnyH_ready (rs := [7]) (by kernel_rfl) (by simp) ?_
  refine AllReadyH.cons rfl (fun K hK => ?_) AllReadyH.nil
  go_simp
  clear hK
  refine (HM.out _ (HB.out _ hHeld)).mono ?_
  rintro e w2 ⟨rfl, hb2⟩
  obtain ⟨hc1, hf1⟩ := bcell hb1
  obtain ⟨hc2, hf2⟩ := bcell hb2
  have hz2 : w.heap.size + 1 < w1.heap.size := by omega
  refine ⟨rfl, rfl, rfl, rfl, (HB.out _ hHeld).trans (hb2.mono (by omega)), ?_, ?_, ?_, ?_, ?_⟩
  · rw [hc2 _ _ hz2, hc1 _ _ (by simp)]; simp [go_sem]
  · rw [hc2 _ _ hz2, hc1 _ _ (by simp)]; simp [go_sem]
  · rw [hc2 _ _ hz2, hc1 _ _ (by simp)]; simp [go_sem]
  · rw [hc2 _ _ hz1, hc1 _ _ (by simp)]; simp [go_sem]
  · rw [hf2 _ _ hz1, hf1 _ _ (by simp)]; simp [go_sem]

set_option maxRecDepth 100000 in
set_option maxHeartbeats 2000000 in
theorem trap_load (o : Ord) (n a b : Int) (p : Option Addr) (m c : Nat) (w : World) (hop : o.op = 6) (t : Int)
    (hm : ∀ w', Below w.heap.size w w' → Calls Tryz.prog 94 #[inp o n a b p m c] w' fun e w'' => e = .panicked [{ v := .iface 124 (.int .i64 t), recovered := false }] ∧ Below w'.heap.size w' w'') :
    Calls Tryz.prog 62 #[inp o n a b p m c] w fun e w' => e = .returned (.tuple #[.agg #[.int .i64 0, .int .i64 0, .int .i64 0], .int .i64 t]) ∧ Below w.heap.size w w' := by
  obtain ⟨op, d, ra, rb, k⟩ := o
  simp only at hop
  subst hop
  have HM := hide hm
  clear hm
  obtain ⟨W1, hW1⟩ : ∃ W1, W1 = w.alloc (.cells #[.int .i64 6, .int .i64 d, .int .i64 ra, .int .i64 rb, .int .i64 k, .int .i64 n, .int .i64 a, .int .i64 b, .slice p m c] 109) := ⟨_, rfl⟩
  have hbox := box_cells ⟨6, d, ra, rb, k⟩ n a b p m c hW1
  have r0 : ∀ w', Below (w.heap.size + 1) W1 w' → w'.cell? ⟨w.heap.size, 0, none⟩ = some (.int .i64 6) := fun w' h => (hbox w' h).1
  have r1 := fun w' h => (hbox w' h).2.1
  have r2 := fun w' h => (hbox w' h).2.2.1
  have r3 := fun w' h => (hbox w' h).2.2.2.1
  have r4 := fun w' h => (hbox w' h).2.2.2.2.1
  have r5 := fun w' h => (hbox w' h).2.2.2.2.2.1
  have r6 := fun w' h => (hbox w' h).2.2.2.2.2.2.1
  have r7 := fun w' h => (hbox w' h).2.2.2.2.2.2.2.1
  have r8 := fun w' h => (hbox w' h).2.2.2.2.2.2.2.2
  have hstart : ∀ x y, Below (w.heap.size + 1) W1 (((w.alloc (.cells #[.int .i64 6, .int .i64 d, .int .i64 ra, .int .i64 rb, .int .i64 k, .int .i64 n, .int .i64 a, .int .i64 b, .slice p m c] 109)).alloc x).alloc y).drew := fun x y => by
    rw [hW1]; exact (((Below.refl _ _).alloc (by simp) _).alloc (by simp) _).drew
  have hw1 : ∀ w', Below (w.heap.size + 1) W1 w' → Below w.heap.size w w' := fun w' h => by
    rw [hW1] at h; exact ((Below.refl _ _).alloc (Nat.le_refl _) _).trans (h.mono (by omega))
  clear hbox
  simp only at r1 r2 r3 r4
  have HS := hide hstart
  clear hstart
  have HW1 := hide hW1
  clear hW1
  have HB := hide hw1
  clear hw1
  have hmf : ∀ (fn : Fn) (first cap : Array Value) (w : World), (Instr.makeFunc fn first cap).run Tryz.prog w = .ok (.func fn first cap) w := fun _ _ _ _ => rfl
  have hix := idx6
  have hfd := fld
  go_enter_defers Tryz.func62, Tryz.ntmps62
  go_wp2
  refine Code.wp_mono (Q := Qp w t) (fun e a w' h => by obtain ⟨rfl, hrest⟩ := h; exact qp_leaves _ a w' ⟨rfl, hrest⟩) ?_
  refine wp_region_held_drew (S := fun w' => Below (w.heap.size + 1) W1 w') (by kernel_rfl) (HS.out _ _) (fun hHeld => ?_)
  refine wpAnyH_take (i := 1) (v := ?_) rfl (by kernel_rfl) (by kernel_rfl) (by kernel_rfl) (fun _ _ _ h => qp_put (by decide) (by decide) h) (Or.inl ⟨by rfl, ?_⟩) hHeld ?_
  rotate_left
  · intro w' hSw
    go_simp
    try with_reducible rfl
  simp only [Act.put]
  refine wpAnyH_take (i := 2) (v := ?_) rfl (by kernel_rfl) (by kernel_rfl) (by kernel_rfl) (fun _ _ _ h => qp_put (by decide) (by decide) h) (Or.inl ⟨by rfl, ?_⟩) hHeld ?_
  rotate_left
  · intro w' hSw
    go_simp
    try with_reducible rfl
  simp only [Act.put]
  refine wpAnyH_take (i := 3) (v := ?_) rfl (by kernel_rfl) (by kernel_rfl) (by kernel_rfl) (fun _ _ _ h => qp_put (by decide) (by decide) h) (Or.inl ⟨by rfl, ?_⟩) hHeld ?_
  rotate_left
  · intro w' hSw
    go_simp
    try with_reducible rfl
  simp only [Act.put]
  refine wpAnyH_take (i := 6) (v := ?_) rfl (by kernel_rfl) (by kernel_rfl) (by kernel_rfl) (fun _ _ _ h => qp_put (by decide) (by decide) h) (Or.inl ⟨by rfl, ?_⟩) hHeld ?_
  rotate_left
  · intro w' hSw
    go_simp
    try with_reducible rfl
  simp only [Act.put]
  refine wpAnyH_ready (rs := [0]) (by kernel_rfl) (by simp) ?_
  refine AllReadyH.cons rfl (fun K hK => ?_) AllReadyH.nil
  go_simp
  refine (table_any _).mono ?_
  rintro e w1 ⟨rfl, hb1⟩
  have hz1 : w.heap.size + 1 + 1 < w1.heap.size := by have := hb1.size; simp at this; omega
  have hS1 : Below (w.heap.size + 1) W1 w1 := hHeld.trans (hb1.mono (by simp))
  refine hK.out _ _ hS1 (fun hHeld => ?_)
  clear hK
  refine wpAnyH_take (i := 4) (v := ?_) rfl (by kernel_rfl) (by kernel_rfl) (by kernel_rfl) (fun _ _ _ h => qp_put (by decide) (by decide) h) (Or.inl ⟨by rfl, ?_⟩) hHeld ?_
  rotate_left
  · intro w' hSw
    go_simp
    try with_reducible rfl
  simp only [Act.put]
  refine wpAnyH_take (i := 5) (v := ?_) rfl (by kernel_rfl) (by kernel_rfl) (by kernel_rfl) (fun _ _ _ h => qp_put (by decide) (by decide) h) (Or.inl ⟨by rfl, ?_⟩) hHeld ?_
  rotate_left
  · intro w' hSw
    go_simp
    try with_reducible rfl
  simp only [Act.put]
  refine wpAnyH_ready (rs := [7]) (by kernel_rfl) (by simp) ?_
  refine AllReadyH.cons rfl (fun K hK => ?_) AllReadyH.nil
  go_simp
  clear hK
  refine (HM.out _ (HB.out _ hHeld)).mono ?_
  rintro e w2 ⟨rfl, hb2⟩
  obtain ⟨hc1, hf1⟩ := bcell hb1
  obtain ⟨hc2, hf2⟩ := bcell hb2
  have hz2 : w.heap.size + 1 < w1.heap.size := by omega
  refine ⟨rfl, rfl, rfl, rfl, (HB.out _ hHeld).trans (hb2.mono (by omega)), ?_, ?_, ?_, ?_, ?_⟩
  · rw [hc2 _ _ hz2, hc1 _ _ (by simp)]; simp [go_sem]
  · rw [hc2 _ _ hz2, hc1 _ _ (by simp)]; simp [go_sem]
  · rw [hc2 _ _ hz2, hc1 _ _ (by simp)]; simp [go_sem]
  · rw [hc2 _ _ hz1, hc1 _ _ (by simp)]; simp [go_sem]
  · rw [hf2 _ _ hz1, hf1 _ _ (by simp)]; simp [go_sem]

set_option maxRecDepth 100000 in
set_option maxHeartbeats 2000000 in
theorem trap_store (o : Ord) (n a b : Int) (p : Option Addr) (m c : Nat) (w : World) (hop : o.op = 7) (t : Int)
    (hm : ∀ w', Below w.heap.size w w' → Calls Tryz.prog 95 #[inp o n a b p m c] w' fun e w'' => e = .panicked [{ v := .iface 124 (.int .i64 t), recovered := false }] ∧ Below w'.heap.size w' w'') :
    Calls Tryz.prog 62 #[inp o n a b p m c] w fun e w' => e = .returned (.tuple #[.agg #[.int .i64 0, .int .i64 0, .int .i64 0], .int .i64 t]) ∧ Below w.heap.size w w' := by
  obtain ⟨op, d, ra, rb, k⟩ := o
  simp only at hop
  subst hop
  have HM := hide hm
  clear hm
  obtain ⟨W1, hW1⟩ : ∃ W1, W1 = w.alloc (.cells #[.int .i64 7, .int .i64 d, .int .i64 ra, .int .i64 rb, .int .i64 k, .int .i64 n, .int .i64 a, .int .i64 b, .slice p m c] 109) := ⟨_, rfl⟩
  have hbox := box_cells ⟨7, d, ra, rb, k⟩ n a b p m c hW1
  have r0 : ∀ w', Below (w.heap.size + 1) W1 w' → w'.cell? ⟨w.heap.size, 0, none⟩ = some (.int .i64 7) := fun w' h => (hbox w' h).1
  have r1 := fun w' h => (hbox w' h).2.1
  have r2 := fun w' h => (hbox w' h).2.2.1
  have r3 := fun w' h => (hbox w' h).2.2.2.1
  have r4 := fun w' h => (hbox w' h).2.2.2.2.1
  have r5 := fun w' h => (hbox w' h).2.2.2.2.2.1
  have r6 := fun w' h => (hbox w' h).2.2.2.2.2.2.1
  have r7 := fun w' h => (hbox w' h).2.2.2.2.2.2.2.1
  have r8 := fun w' h => (hbox w' h).2.2.2.2.2.2.2.2
  have hstart : ∀ x y, Below (w.heap.size + 1) W1 (((w.alloc (.cells #[.int .i64 7, .int .i64 d, .int .i64 ra, .int .i64 rb, .int .i64 k, .int .i64 n, .int .i64 a, .int .i64 b, .slice p m c] 109)).alloc x).alloc y).drew := fun x y => by
    rw [hW1]; exact (((Below.refl _ _).alloc (by simp) _).alloc (by simp) _).drew
  have hw1 : ∀ w', Below (w.heap.size + 1) W1 w' → Below w.heap.size w w' := fun w' h => by
    rw [hW1] at h; exact ((Below.refl _ _).alloc (Nat.le_refl _) _).trans (h.mono (by omega))
  clear hbox
  simp only at r1 r2 r3 r4
  have HS := hide hstart
  clear hstart
  have HW1 := hide hW1
  clear hW1
  have HB := hide hw1
  clear hw1
  have hmf : ∀ (fn : Fn) (first cap : Array Value) (w : World), (Instr.makeFunc fn first cap).run Tryz.prog w = .ok (.func fn first cap) w := fun _ _ _ _ => rfl
  have hix := idx7
  have hfd := fld
  go_enter_defers Tryz.func62, Tryz.ntmps62
  go_wp2
  refine Code.wp_mono (Q := Qp w t) (fun e a w' h => by obtain ⟨rfl, hrest⟩ := h; exact qp_leaves _ a w' ⟨rfl, hrest⟩) ?_
  refine wp_region_held_drew (S := fun w' => Below (w.heap.size + 1) W1 w') (by kernel_rfl) (HS.out _ _) (fun hHeld => ?_)
  refine wpAnyH_take (i := 1) (v := ?_) rfl (by kernel_rfl) (by kernel_rfl) (by kernel_rfl) (fun _ _ _ h => qp_put (by decide) (by decide) h) (Or.inl ⟨by rfl, ?_⟩) hHeld ?_
  rotate_left
  · intro w' hSw
    go_simp
    try with_reducible rfl
  simp only [Act.put]
  refine wpAnyH_take (i := 2) (v := ?_) rfl (by kernel_rfl) (by kernel_rfl) (by kernel_rfl) (fun _ _ _ h => qp_put (by decide) (by decide) h) (Or.inl ⟨by rfl, ?_⟩) hHeld ?_
  rotate_left
  · intro w' hSw
    go_simp
    try with_reducible rfl
  simp only [Act.put]
  refine wpAnyH_take (i := 3) (v := ?_) rfl (by kernel_rfl) (by kernel_rfl) (by kernel_rfl) (fun _ _ _ h => qp_put (by decide) (by decide) h) (Or.inl ⟨by rfl, ?_⟩) hHeld ?_
  rotate_left
  · intro w' hSw
    go_simp
    try with_reducible rfl
  simp only [Act.put]
  refine wpAnyH_take (i := 6) (v := ?_) rfl (by kernel_rfl) (by kernel_rfl) (by kernel_rfl) (fun _ _ _ h => qp_put (by decide) (by decide) h) (Or.inl ⟨by rfl, ?_⟩) hHeld ?_
  rotate_left
  · intro w' hSw
    go_simp
    try with_reducible rfl
  simp only [Act.put]
  refine wpAnyH_ready (rs := [0]) (by kernel_rfl) (by simp) ?_
  refine AllReadyH.cons rfl (fun K hK => ?_) AllReadyH.nil
  go_simp
  refine (table_any _).mono ?_
  rintro e w1 ⟨rfl, hb1⟩
  have hz1 : w.heap.size + 1 + 1 < w1.heap.size := by have := hb1.size; simp at this; omega
  have hS1 : Below (w.heap.size + 1) W1 w1 := hHeld.trans (hb1.mono (by simp))
  refine hK.out _ _ hS1 (fun hHeld => ?_)
  clear hK
  refine wpAnyH_take (i := 4) (v := ?_) rfl (by kernel_rfl) (by kernel_rfl) (by kernel_rfl) (fun _ _ _ h => qp_put (by decide) (by decide) h) (Or.inl ⟨by rfl, ?_⟩) hHeld ?_
  rotate_left
  · intro w' hSw
    go_simp
    try with_reducible rfl
  simp only [Act.put]
  refine wpAnyH_take (i := 5) (v := ?_) rfl (by kernel_rfl) (by kernel_rfl) (by kernel_rfl) (fun _ _ _ h => qp_put (by decide) (by decide) h) (Or.inl ⟨by rfl, ?_⟩) hHeld ?_
  rotate_left
  · intro w' hSw
    go_simp
    try with_reducible rfl
  simp only [Act.put]
  refine wpAnyH_ready (rs := [7]) (by kernel_rfl) (by simp) ?_
  refine AllReadyH.cons rfl (fun K hK => ?_) AllReadyH.nil
  go_simp
  clear hK
  refine (HM.out _ (HB.out _ hHeld)).mono ?_
  rintro e w2 ⟨rfl, hb2⟩
  obtain ⟨hc1, hf1⟩ := bcell hb1
  obtain ⟨hc2, hf2⟩ := bcell hb2
  have hz2 : w.heap.size + 1 < w1.heap.size := by omega
  refine ⟨rfl, rfl, rfl, rfl, (HB.out _ hHeld).trans (hb2.mono (by omega)), ?_, ?_, ?_, ?_, ?_⟩
  · rw [hc2 _ _ hz2, hc1 _ _ (by simp)]; simp [go_sem]
  · rw [hc2 _ _ hz2, hc1 _ _ (by simp)]; simp [go_sem]
  · rw [hc2 _ _ hz2, hc1 _ _ (by simp)]; simp [go_sem]
  · rw [hc2 _ _ hz1, hc1 _ _ (by simp)]; simp [go_sem]
  · rw [hf2 _ _ hz1, hf1 _ _ (by simp)]; simp [go_sem]

end Go.Proofs.YtmeiogoodbnkkaaGreat
