/- Several texts in one: RV, RW, SA. -/
import Derived.Test.YtmeiogoodbnkkaaGreatCRQRT
import Derived.Deep.CutRange
import Derived.Test.YtmeiogoodbnkkaaGreatCRI
import Derived.Test.YtmeiogoodbnkkaaGreatCRKRL
import Derived.StillTailTactics
/- What an order needs. -/
namespace Go.Proofs.YtmeiogoodbnkkaaGreat
open Go.RowKit

theorem below_set3 {w X : World} (h : Below w.heap.size w X) (x y z : Value) : Below w.heap.size w (((X.setCell ⟨w.heap.size + 1, 0, none⟩ x).setCell ⟨w.heap.size + 1, 1, none⟩ y).setCell ⟨w.heap.size + 1, 2, none⟩ z) :=
  ((h.setCell (by simp) _).setCell (by simp) _).setCell (by simp) _

theorem set3_cells {X : World} {b : Nat} {u0 u1 u2 : Value} (h0 : X.cell? ⟨b, 0, none⟩ = some u0) (h1 : X.cell? ⟨b, 1, none⟩ = some u1) (h2 : X.cell? ⟨b, 2, none⟩ = some u2) (x y z : Value) :
    (X.setCell ⟨b, 0, none⟩ x).cell? ⟨b, 0, none⟩ = some x ∧ ((X.setCell ⟨b, 0, none⟩ x).setCell ⟨b, 1, none⟩ y).cell? ⟨b, 1, none⟩ = some y ∧ (((X.setCell ⟨b, 0, none⟩ x).setCell ⟨b, 1, none⟩ y).setCell ⟨b, 2, none⟩ z).cell? ⟨b, 2, none⟩ = some z := by
  refine ⟨World.cell?_setCell_same _ _ _ h0, World.cell?_setCell_same _ _ _ (u := u1) ?_, World.cell?_setCell_same _ _ _ (u := u2) ?_⟩
  · rw [World.cell?_setCell_other _ _ _ _ (off_ne (by omega))]; exact h1
  · rw [World.cell?_setCell_other _ _ _ _ (off_ne (by omega)), World.cell?_setCell_other _ _ _ _ (off_ne (by omega))]; exact h2

/-- What lies in memory while the needs are put together. -/
structure Nd (b N K : Nat) (W1 : World) (bA bB bD : Bool) (kd x y : Int) (w : World) : Prop where
  k2 : w.cell? ⟨K, 2, none⟩ = some (.bool bA)
  k3 : w.cell? ⟨K, 3, none⟩ = some (.bool bB)
  k4 : w.cell? ⟨K, 4, none⟩ = some (.bool bD)
  blk : w.heap[N]? = some (.cells #[.int .i64 kd, .int .u8 x, .int .u8 y] 117 (0, 0))
  bl : Below (b + 1 + 1) W1 w

section
variable {b N K : Nat} {W1 : World} {bA bB bD : Bool} {kd x y : Int} {w : World}
theorem Nd.set1 (h : Nd b N K W1 bA bB bD kd x y w) (hN : b + 1 + 1 ≤ N) (hK : K ≠ N) (z : Int) : Nd b N K W1 bA bB bD kd z y (w.setCell ⟨N, 1, none⟩ (.int .u8 z)) :=
  ⟨(cell_far hK).trans h.k2, (cell_far hK).trans h.k3, (cell_far hK).trans h.k4, by rw [heap_setCell_same _ _ _ _ _ _ h.blk]; rfl, h.bl.setCell hN _⟩
theorem Nd.set2 (h : Nd b N K W1 bA bB bD kd x y w) (hN : b + 1 + 1 ≤ N) (hK : K ≠ N) (z : Int) : Nd b N K W1 bA bB bD kd x z (w.setCell ⟨N, 2, none⟩ (.int .u8 z)) :=
  ⟨(cell_far hK).trans h.k2, (cell_far hK).trans h.k3, (cell_far hK).trans h.k4, by rw [heap_setCell_same _ _ _ _ _ _ h.blk]; rfl, h.bl.setCell hN _⟩
theorem Nd.drew (h : Nd b N K W1 bA bB bD kd x y w) : Nd b N K W1 bA bB bD kd x y w.drew := ⟨h.k2, h.k3, h.k4, h.blk, h.bl.drew⟩
theorem Nd.d0 (h : Nd b N K W1 bA bB bD kd x y w) : w.cell? ⟨N, 0, none⟩ = some (.int .i64 kd) := by rw [cell_of_row _ _ _ _ _ _ h.blk]; rfl
theorem Nd.d1 (h : Nd b N K W1 bA bB bD kd x y w) : w.cell? ⟨N, 1, none⟩ = some (.int .u8 x) := by rw [cell_of_row _ _ _ _ _ _ h.blk]; rfl
theorem Nd.d2 (h : Nd b N K W1 bA bB bD kd x y w) : w.cell? ⟨N, 2, none⟩ = some (.int .u8 y) := by rw [cell_of_row _ _ _ _ _ _ h.blk]; rfl
theorem Nd.df (h : Nd b N K W1 bA bB bD kd x y w) (j : Nat) : w.frozen? ⟨N, j, none⟩ = false := by rw [frozen_of_row _ _ _ _ _ h.blk]
end

set_option maxRecDepth 100000 in
set_option maxHeartbeats 4000000 in
theorem needs_row (op k kd : Int) (rd ra rb f xa xb yw : Nat) (bA bB bD : Bool) (w : World) (hra : ra < 8) (hrb : rb < 8) (hrd : rd < 8) (hxa : Hid (xa = if bA then bitOf ra else 0)) (hxb : Hid (xb = (xa ||| if bB then bitOf rb else 0))) (hyw : Hid (yw = if bD then bitOf rd else 0))
    (hix : ∀ w, (Instr.index 128 tableVal (.int .i64 op)).run Tryz.prog w = .ok (.agg #[.func (.func f) #[] #[], .int .i64 kd, .bool bA, .bool bB, .bool bD]) w) :
    Calls Tryz.prog 102 #[.agg #[.int .i64 op, .int .i64 rd, .int .i64 ra, .int .i64 rb, .int .i64 k]] w fun e w' =>
      e = .returned (.agg #[.int .i64 kd, .int .u8 xb, .int .u8 yw]) ∧ Below w.heap.size w w' := by
  obtain ⟨W1, hW1⟩ : ∃ W1, (w.alloc (.cells #[.int .i64 op, .int .i64 rd, .int .i64 ra, .int .i64 rb, .int .i64 k] 40)).alloc (.cells #[.int .i64 0, .int .u8 0, .int .u8 0] 117) = W1 := ⟨_, rfl⟩
  have hz : W1.heap.size = w.heap.size + 1 + 1 := by rw [← hW1]; simp
  have hbox : ∀ w', Below (w.heap.size + 1 + 1) W1 w' → ∀ j, w'.cell? ⟨w.heap.size, j, none⟩ = [.int .i64 op, .int .i64 rd, .int .i64 ra, .int .i64 rb, .int .i64 k][j]? := by
    intro w' h j
    rw [h.cell (p := ⟨w.heap.size, j, none⟩) (show w.heap.size < w.heap.size + 1 + 1 by omega), ← hW1, cell_of_row _ w.heap.size j #[.int .i64 op, .int .i64 rd, .int .i64 ra, .int .i64 rb, .int .i64 k] 40 (0, 0) (by exact heap_alloc2_old _ _ _)]
    simp
  have r0 : ∀ w', Below (w.heap.size + 1 + 1) W1 w' → w'.cell? ⟨w.heap.size, 0, none⟩ = some (.int .i64 op) := fun w' h => hbox w' h 0
  have r1 : ∀ w', Below (w.heap.size + 1 + 1) W1 w' → w'.cell? ⟨w.heap.size, 1, none⟩ = some (.int .i64 rd) := fun w' h => hbox w' h 1
  have r2 : ∀ w', Below (w.heap.size + 1 + 1) W1 w' → w'.cell? ⟨w.heap.size, 2, none⟩ = some (.int .i64 ra) := fun w' h => hbox w' h 2
  have r3 : ∀ w', Below (w.heap.size + 1 + 1) W1 w' → w'.cell? ⟨w.heap.size, 3, none⟩ = some (.int .i64 rb) := fun w' h => hbox w' h 3
  have hB1 : Below w.heap.size w W1 := by rw [← hW1]; exact ((Below.refl _ _).alloc (Nat.le_refl _) _).alloc (by simp) _
  have hN : ∀ w', Below (w.heap.size + 1 + 1) W1 w' → w'.heap[w.heap.size + 1]? = some (.cells #[.int .i64 0, .int .u8 0, .int .u8 0] 117 (0, 0)) := fun w' h => by
    rw [h.block _ (by omega), ← hW1]; have := heap_alloc_new (w.alloc (.cells #[.int .i64 op, .int .i64 rd, .int .i64 ra, .int .i64 rb, .int .i64 k] 40)) (.cells #[.int .i64 0, .int .u8 0, .int .u8 0] 117); simpa using this
  have HN := hide hN
  have HS : Hid (Below (w.heap.size + 1 + 1) W1 ((w.alloc (.cells #[.int .i64 op, .int .i64 rd, .int .i64 ra, .int .i64 rb, .int .i64 k] 40)).alloc (.cells #[.int .i64 0, .int .u8 0, .int .u8 0] 117)).drew) := by rw [hW1]; exact (Below.refl _ _).drew
  have HS2 : Hid (∀ x, Below (w.heap.size + 1 + 1) W1 (((w.alloc (.cells #[.int .i64 op, .int .i64 rd, .int .i64 ra, .int .i64 rb, .int .i64 k] 40)).alloc (.cells #[.int .i64 0, .int .u8 0, .int .u8 0] 117)).alloc x).drew) := fun x => by rw [hW1]; exact ((Below.refl _ _).alloc (by omega) _).drew
  clear hbox hN
  have HW1 := hide hW1
  have HB1 := hide hB1
  clear hW1 hB1
  go_enter Tryz.func102, Tryz.ntmps102
  go_upto_region 1 with fail
  go_cut [3] from 5 to 36 (fun s3 wx => ∃ K, s3 = .pointer (some ⟨K, 0, none⟩) ∧ w.heap.size + 1 + 1 ≤ K ∧ K < wx.heap.size ∧ Below (w.heap.size + 1 + 1) W1 wx ∧ wx.cell? ⟨K, 1, none⟩ = some (.int .i64 kd) ∧ wx.cell? ⟨K, 2, none⟩ = some (.bool bA) ∧ wx.cell? ⟨K, 3, none⟩ = some (.bool bB) ∧ wx.cell? ⟨K, 4, none⟩ = some (.bool bD))
  case first =>
    go_region_held3 (fun w' => Below (w.heap.size + 1 + 1) W1 w') (first | assumption | exact HS.out | exact HS2.out _ | exact HS1.out | exact HS1.out.alloc hz1 _ | (refine Below.setCell (Below.setCell (Below.setCell (Below.setCell (Below.setCell HS1.out ?_ _) ?_ _) ?_ _) ?_ _) ?_ _ <;> simp <;> omega) | fail) (first | (go_at_call 78; refine (table_any _).mono ?_; rintro e w1 ⟨rfl, hb1⟩; have HS1 : Hid (Below (w.heap.size + 1 + 1) W1 w1) := (Below.trans (by assumption) (hb1.mono (by first | omega | (simp; omega) | simp))); have hz1 : w.heap.size + 1 + 1 ≤ w1.heap.size := (by have := hb1.size; simp at this; omega); obtain ⟨hc1, hf1⟩ := bcell hb1; have hy1 := hb1.size; simp at hy1) | fail)
    all_goals (go_wp2_with fail; go_meet)
    all_goals (refine ⟨_, rfl, (by omega), (by simp <;> omega), (by assumption), ?_, ?_, ?_, ?_⟩ <;> go_simp)
  case rest =>
    obtain ⟨K, rfl, hK1, hK2, hBx, k1, k2, k3, k4⟩ := hcut
    have hwz : w.heap.size + 1 + 1 ≤ wc.heap.size := by rw [← hz]; exact hBx.size
    have hKN : K ≠ wc.heap.size := by omega
    go_upto_region 3 with fail
    have hcell : ∀ j, (wc.alloc (.cells #[.int .i64 kd, .int .u8 0, .int .u8 0] 117)).cell? ⟨K, j, none⟩ = wc.cell? ⟨K, j, none⟩ := fun j => World.cell?_of_block (Below.heap_alloc _ _ _ hK2)
    have hnd : Nd w.heap.size wc.heap.size K W1 bA bB bD kd 0 0 (wc.alloc (.cells #[.int .i64 kd, .int .u8 0, .int .u8 0] 117)) := ⟨(hcell 2).trans k2, (hcell 3).trans k3, (hcell 4).trans k4, heap_alloc_new _ _, hBx.alloc hwz _⟩
    generalize wc.alloc (.cells #[.int .i64 kd, .int .u8 0, .int .u8 0] 117) = V at hnd ⊢
    generalize hNN : wc.heap.size = N at hnd hKN hwz ⊢
    have HO1 : Hid (∀ w', Calls Tryz.prog 110 #[.int .i64 ra] w' fun e w'' => e = .returned (.int .u8 (bitOf ra)) ∧ w'' = w') := fun w' => only_any ra w' hra
    have HO2 : Hid (∀ w', Calls Tryz.prog 110 #[.int .i64 rb] w' fun e w'' => e = .returned (.int .u8 (bitOf rb)) ∧ w'' = w') := fun w' => only_any rb w' hrb
    have HO3 : Hid (∀ w', Calls Tryz.prog 110 #[.int .i64 rd] w' fun e w'' => e = .returned (.int .u8 (bitOf rd)) ∧ w'' = w') := fun w' => only_any rd w' hrd
    have x1 : bits .or .u8 0 (bitOf ra : Int) = (bitOf ra : Int) := by have := or_u8 (x := 0) (y := bitOf ra) (by omega) (bit_lt (by omega)); simpa using this
    have HR1 := hide r1
    have HR2 := hide r2
    have HR3 := hide r3
    clear hcell hBx k1 k2 k3 k4 r0 r1 r2 r3 HS HS2 hK1 hK2 hNN hz hix
    have e1 := hnd.k2
    go_upto_if 13 with fail
    clear e1
    go_cut [] from 12 to 36 (fun wx => Nd w.heap.size N K W1 bA bB bD kd xa 0 wx)
    case first =>
      have e2 : V.drew.cell? ⟨w.heap.size, 2, none⟩ = some (.int .i64 ra) := HR2.out _ hnd.bl.drew
      have e3 : V.drew.cell? ⟨N, 1, none⟩ = some (.int .u8 0) := hnd.d1
      have e4 : V.drew.frozen? ⟨N, 1, none⟩ = false := hnd.df 1
      have HND := hide hnd
      clear hnd
      cases bA
      · go_wp2
        go_meet
        have h0 : xa = 0 := by have := hxa.out; simpa using this
        rw [h0]
        exact HND.out
      · go_wp2
        refine wp_region_still_tail 7 (by kernel_rfl) (by kernel_rfl) ?_
        simp only [List.take_succ_cons, List.take_zero, List.drop_succ_cons, List.drop_zero]
        repeat still_step
        still_call (HO1.out _)
        repeat still_step
        refine wpStill_nil ?_
        go_wp2
        go_meet
        have h0 : xa = bitOf ra := by have := hxa.out; simpa using this
        rw [h0]
        have := (HND.out.set1 hwz hKN (bitOf ra)).drew
        exact this
    case rest =>
    clear hnd V x1
    have x2 : bits .or .u8 (xa : Int) (bitOf rb : Int) = ((xa ||| bitOf rb : Nat) : Int) := or_u8 (by rw [hxa.out]; split <;> first | exact bit_lt (by omega) | decide) (bit_lt (by omega))
    rename World => V
    have hnd := hcut
    clear hcut
    have e1 := hnd.k3
    go_upto_if 22 with fail
    clear e1
    go_cut [] from 12 to 36 (fun wx => Nd w.heap.size N K W1 bA bB bD kd xb 0 wx)
    case first =>
      have e2 : V.drew.cell? ⟨w.heap.size, 3, none⟩ = some (.int .i64 rb) := HR3.out _ hnd.bl.drew
      have e3 : V.drew.cell? ⟨N, 1, none⟩ = some (.int .u8 xa) := hnd.d1
      have e4 : V.drew.frozen? ⟨N, 1, none⟩ = false := hnd.df 1
      have HND := hide hnd
      clear hnd
      cases bB
      · go_wp2
        go_meet
        have h0 : xb = xa := by have := hxb.out; simpa using this
        rw [h0]
        exact HND.out
      · go_wp2
        refine wp_region_still_tail 7 (by kernel_rfl) (by kernel_rfl) ?_
        simp only [List.take_succ_cons, List.take_zero, List.drop_succ_cons, List.drop_zero]
        repeat still_step
        still_call (HO2.out _)
        repeat still_step
        refine wpStill_nil ?_
        go_wp2
        go_meet
        have h0 : xb = (xa ||| bitOf rb) := by have := hxb.out; simpa using this
        rw [h0]
        have := (HND.out.set1 hwz hKN (xa ||| bitOf rb : Nat)).drew
        exact this
    case rest =>
    clear hnd V x2
    rename World => V
    have hnd := hcut
    clear hcut
    have e1 := hnd.k4
    have e2 : V.cell? ⟨w.heap.size, 1, none⟩ = some (.int .i64 rd) := HR1.out _ hnd.bl
    have e3 := hnd.d0
    have e4 := hnd.d1
    have e5 := hnd.d2
    have e6 := hnd.df
    have n0 : V.cell? ⟨w.heap.size + 1, 0, none⟩ = some (.int .i64 0) := by rw [cell_of_row _ _ _ _ _ _ (HN.out _ hnd.bl)]; rfl
    have n1 : V.cell? ⟨w.heap.size + 1, 1, none⟩ = some (.int .u8 0) := by rw [cell_of_row _ _ _ _ _ _ (HN.out _ hnd.bl)]; rfl
    have n2 : V.cell? ⟨w.heap.size + 1, 2, none⟩ = some (.int .u8 0) := by rw [cell_of_row _ _ _ _ _ _ (HN.out _ hnd.bl)]; rfl
    have nf : ∀ j, V.frozen? ⟨w.heap.size + 1, j, none⟩ = false := fun j => by rw [frozen_of_row _ _ _ _ _ (HN.out _ hnd.bl)]
    have nne : ¬ w.heap.size + 1 = N := by omega
    have nne' : ¬ N = w.heap.size + 1 := by omega
    have nn2 : ¬ w.heap.size = N := by omega
    have HND := hide hnd
    clear hnd
    have HFB : Hid (∀ X, Below (w.heap.size + 1 + 1) W1 X → Below w.heap.size w X) := fun X hX => HB1.out.trans (hX.mono (by omega))
    cases bD
    all_goals go_wp2_with (go_at_call 110; refine (HO3.out _).mono ?_; rintro e w' ⟨rfl, rfl⟩)
    · have h0 : yw = 0 := by have := hyw.out; simpa using this
      obtain ⟨z0, z1, z2⟩ := set3_cells n0 n1 n2 (.int .i64 kd) (.int .u8 xb) (.int .u8 0)
      refine bodyPost_ret (v := .agg #[.int .i64 kd, .int .u8 xb, .int .u8 0]) (by simp [results, Tryz.results102, go_sem, z0, z1, z2]) rfl ⟨by rw [h0]; rfl, ?_⟩
      exact below_set3 (HFB.out _ HND.out.bl) _ _ _
    · have h0 : yw = bitOf rd := by have := hyw.out; simpa using this
      have f0 : ∀ j, (w'.setCell ⟨N, 2, none⟩ (.int .u8 (bitOf rd))).cell? ⟨w.heap.size + 1, j, none⟩ = w'.cell? ⟨w.heap.size + 1, j, none⟩ := fun j => cell_far nne
      obtain ⟨z0, z1, z2⟩ := set3_cells ((f0 0).trans n0) ((f0 1).trans n1) ((f0 2).trans n2) (.int .i64 kd) (.int .u8 xb) (.int .u8 (bitOf rd))
      refine bodyPost_ret (v := .agg #[.int .i64 kd, .int .u8 xb, .int .u8 (bitOf rd)]) (by simp [results, Tryz.results102, go_sem, z0, z1, z2]) rfl ⟨by rw [h0], ?_⟩
      exact below_set3 (HFB.out _ (HND.out.bl.setCell (by simp; omega) _)) _ _ _

/-- The needs of an order of a program. -/
theorem needs_any (o : Ord) (n : Int) (ho : isOrd o n = true) (w : World) :
    Calls Tryz.prog 102 #[.agg #[.int .i64 o.op, .int .i64 o.d, .int .i64 o.a, .int .i64 o.b, .int .i64 o.k]] w fun e w' =>
      e = .returned (.agg #[.int .i64 (kindOf o.op), .int .u8 (rMask o), .int .u8 (wMask o)]) ∧ Below w.heap.size w w' := by
  obtain ⟨op, d, a, b, k⟩ := o
  obtain ⟨o0, o8, dd0, dd7, a0, a7, b0, b7, _⟩ := isOrd_spec ho
  simp only at o0 o8 dd0 dd7 a0 a7 b0 b7
  obtain ⟨rd, rfl⟩ := Int.eq_ofNat_of_zero_le dd0
  obtain ⟨ra, rfl⟩ := Int.eq_ofNat_of_zero_le a0
  obtain ⟨rb, rfl⟩ := Int.eq_ofNat_of_zero_le b0
  have key : ∀ (f : Nat) (bA bB bD : Bool) (kd : Int), (∀ w, (Instr.index 128 tableVal (.int .i64 op)).run Tryz.prog w = .ok (.agg #[.func (.func f) #[] #[], .int .i64 kd, .bool bA, .bool bB, .bool bD]) w) → kindOf op = kd → rdA op = bA → rdB op = bB → wrD op = bD →
      Calls Tryz.prog 102 #[.agg #[.int .i64 op, .int .i64 rd, .int .i64 ra, .int .i64 rb, .int .i64 k]] w fun e w' => e = .returned (.agg #[.int .i64 (kindOf op), .int .u8 (rMask ⟨op, rd, ra, rb, k⟩), .int .u8 (wMask ⟨op, rd, ra, rb, k⟩)]) ∧ Below w.heap.size w w' := by
    intro f bA bB bD kd hix h1 h2 h3 h4
    have := needs_row op k kd rd ra rb f (if bA then bitOf ra else 0) ((if bA then bitOf ra else 0) ||| (if bB then bitOf rb else 0)) (if bD then bitOf rd else 0) bA bB bD w (by omega) (by omega) (by omega) rfl rfl rfl hix
    rw [h1]
    unfold rMask wMask
    simp only [h2, h3, h4]
    exact this
  have h9 : op = 0 ∨ op = 1 ∨ op = 2 ∨ op = 3 ∨ op = 4 ∨ op = 5 ∨ op = 6 ∨ op = 7 ∨ op = 8 := by omega
  rcases h9 with rfl | rfl | rfl | rfl | rfl | rfl | rfl | rfl | rfl
  · exact key _ _ _ _ _ idx0 (by decide) (by decide) (by decide) (by decide)
  · exact key _ _ _ _ _ idx1 (by decide) (by decide) (by decide) (by decide)
  · exact key _ _ _ _ _ idx2 (by decide) (by decide) (by decide) (by decide)
  · exact key _ _ _ _ _ idx3 (by decide) (by decide) (by decide) (by decide)
  · exact key _ _ _ _ _ idx4 (by decide) (by decide) (by decide) (by decide)
  · exact key _ _ _ _ _ idx5 (by decide) (by decide) (by decide) (by decide)
  · exact key _ _ _ _ _ idx6 (by decide) (by decide) (by decide) (by decide)
  · exact key _ _ _ _ _ idx7 (by decide) (by decide) (by decide) (by decide)
  · exact key _ _ _ _ _ idx8 (by decide) (by decide) (by decide) (by decide)

end Go.Proofs.YtmeiogoodbnkkaaGreat

/- An order is given out to a unit. -/
namespace Go.Proofs.YtmeiogoodbnkkaaGreat
open Go.RowKit Go.Sort

def unitM (o : Ord) (m : Mc) : Mc :=
  if freeU m (kindOf o.op) = false ∨ toWrite m.given m.cycle m.given.length (wMask o) = true then m
  else { m with given := m.given ++ [⟨o, m.next, m.cycle, 0, 0, 0, 0, 0, 0, 0⟩], next := m.next + 1 }

/-- The order in its box, its needs in theirs. -/
structure Bo (b N : Nat) (o : Ord) (kd : Int) (w : World) : Prop where
  ord : w.heap[b]? = some (.cells #[.int .i64 o.op, .int .i64 o.d, .int .i64 o.a, .int .i64 o.b, .int .i64 o.k] 40 (0, 0))
  nd : w.heap[N]? = some (.cells #[.int .i64 kd, .int .u8 (rMask o), .int .u8 (wMask o)] 117 (0, 0))

section
variable {b N : Nat} {o : Ord} {kd : Int} {w w' : World}
theorem Bo.below (h : Bo b N o kd w) (hb : Below w.heap.size w w') : Bo b N o kd w' :=
  ⟨by rw [hb.block _ (Array.getElem?_eq_some_iff.1 h.ord).1]; exact h.ord, by rw [hb.block _ (Array.getElem?_eq_some_iff.1 h.nd).1]; exact h.nd⟩
theorem Bo.drew (h : Bo b N o kd w) : Bo b N o kd w.drew := ⟨h.ord, h.nd⟩
theorem Bo.kq {B : Nat} (h : Bo b N o kd w) (hk : Kq B w w') : Bo b N o kd w' := ⟨hk.block _ _ h.ord (.inr (by simp [hot])), hk.block _ _ h.nd (.inr (by simp [hot]))⟩
theorem Bo.co (h : Bo b N o kd w) (j : Nat) : w.cell? ⟨b, j, none⟩ = [.int .i64 o.op, .int .i64 o.d, .int .i64 o.a, .int .i64 o.b, .int .i64 o.k][j]? := by rw [cell_of_row _ _ _ _ _ _ h.ord]; simp
theorem Bo.cn (h : Bo b N o kd w) (j : Nat) : w.cell? ⟨N, j, none⟩ = [.int .i64 kd, .int .u8 (rMask o), .int .u8 (wMask o)][j]? := by rw [cell_of_row _ _ _ _ _ _ h.nd]; simp
end

set_option maxRecDepth 10000 in
set_option maxHeartbeats 8000000 in
theorem issueToUnit_any (W : World) (B : Nat) (L : Lo) (m : Mc) (o : Ord) (n : Int) (hm : MAt W B L m) (ho : isOrd o n = true) (h0 : o.op ≠ 0) (h8 : o.op ≠ 8) (hords : Ords n m.given) (hsm : m.given.length ≤ 100000) (hu : ∀ i, i < 4 → 0 ≤ m.units.getD i 0 ∧ m.units.getD i 0 ≤ 1000) (hnx : m.next ≤ 1000) (hB : B ≤ W.heap.size) :
    Calls Tryz.prog 85 #[.pointer (some ⟨L.M, 0, none⟩), .agg #[.int .i64 o.op, .int .i64 o.d, .int .i64 o.a, .int .i64 o.b, .int .i64 o.k], .int .i64 m.next] W fun e w' => e = .returned (.tuple #[]) ∧
      ∃ gv', MAt w' B { L with gv := gv' } (unitM o m) ∧ Kq B W w' := by
  have HM := hide hm
  have HO := hide ho
  have HOR := hide hords
  have HU := hide hu
  obtain ⟨kd0, kd4⟩ := kind_range ho h0 h8
  obtain ⟨kd, hkd⟩ := Int.eq_ofNat_of_zero_le kd0
  rw [hkd] at kd4
  have hkd4 : kd < 4 := by omega
  have HUM : Hid (unitM o m = if freeU m kd = false ∨ toWrite m.given m.cycle m.given.length (wMask o) = true then m else { m with given := m.given ++ [⟨o, m.next, m.cycle, 0, 0, 0, 0, 0, 0, 0⟩], next := m.next + 1 }) := by
    show unitM o m = _
    unfold unitM; rw [hkd]
  have HNE : Hid (∀ w, Calls Tryz.prog 102 #[.agg #[.int .i64 o.op, .int .i64 o.d, .int .i64 o.a, .int .i64 o.b, .int .i64 o.k]] w fun e w' => e = .returned (.agg #[.int .i64 kd, .int .u8 (rMask o), .int .u8 (wMask o)]) ∧ Below w.heap.size w w') := fun w => by
    have := needs_any o n HO.out w
    rw [hkd] at this
    exact this
  have hmk : wMask o < 256 := wMask_lt ho
  obtain ⟨V, hV⟩ : ∃ V, W.alloc (.cells #[.int .i64 o.op, .int .i64 o.d, .int .i64 o.a, .int .i64 o.b, .int .i64 o.k] 40) = V := ⟨_, rfl⟩
  have hzV : V.heap.size = W.heap.size + 1 := by rw [← hV]; simp
  have hBV : Below W.heap.size W V := by rw [← hV]; exact (Below.refl _ _).alloc (Nat.le_refl _) _
  have hVo : V.heap[W.heap.size]? = some (.cells #[.int .i64 o.op, .int .i64 o.d, .int .i64 o.a, .int .i64 o.b, .int .i64 o.k] 40 (0, 0)) := by rw [← hV]; exact heap_alloc_new _ _
  have HV := hide hV
  clear hV
  have HKD := hide hkd
  have HK0 := hide kd0
  clear hm ho hords hu h0 h8 hkd kd0 kd4
  go_enter Tryz.func85, Tryz.ntmps85
  go_wp2_with (go_at_call 102; refine (HNE.out _).mono ?_; rintro e w1 ⟨rfl, hb1⟩)
  rw [HV.out] at hb1
  obtain ⟨V3, hV3⟩ : ∃ V3, w1.alloc (.cells #[.int .i64 kd, .int .u8 (rMask o), .int .u8 (wMask o)] 117) = V3 := ⟨_, rfl⟩
  rw [hV3]
  have hb13 : Below w1.heap.size w1 V3 := by rw [← hV3]; exact (Below.refl _ _).alloc (Nat.le_refl _) _
  have hB3 : Below W.heap.size W V3 := (hBV.trans (hb1.mono (by omega))).trans (hb13.mono (by have := hb1.size; omega))
  have hbo : Bo W.heap.size w1.heap.size o kd V3 := ⟨by rw [hb13.block _ (by have := hb1.size; omega), hb1.block _ (by omega)]; exact hVo, by rw [← hV3]; exact heap_alloc_new _ _⟩
  generalize w1.heap.size = N at hbo
  clear hVo hBV hb1 hV3 hb13 hzV
  have HB3 := hide hB3
  have hm3 := HM.out.below hB3
  obtain ⟨p, cap, G, hgv, hG⟩ := hm3.ahead (Nat.le_refl _)
  have f1 : ∀ d os, (grow (redrawn V3 d) os).cell? ⟨N, 0, none⟩ = some (.int .i64 kd) := fun d os => cell_regrown (hbo.cn 0) d os
  have f2 : ∀ d os, (grow (redrawn V3 d) os).cell? ⟨N, 2, none⟩ = some (.int .u8 (wMask o)) := fun d os => cell_regrown (hbo.cn 2) d os
  have HFU : Hid (∀ d os, Calls Tryz.prog 104 #[.pointer (some ⟨L.M, 0, none⟩), .int .i64 kd] (grow (redrawn V3 d) os) fun e w' => e = .returned (.bool (freeU m kd)) ∧ ∃ p : Regrown, w' = grow (redrawn V3 p.d) p.os) := fun d os =>
    Calls.regrown_of (hasFreeUnit_any (grow (redrawn V3 d) os) B L m kd (hm3.below (below_regrown V3 d os)) hkd4 (by omega) HU.out)
  have HLN : Hid (∀ d os, Calls Tryz.prog 72 #[.pointer (some ⟨L.M, 24, none⟩)] (grow (redrawn V3 d) os) fun e w' => e = .returned (.int .i64 m.given.length) ∧ ∃ p : Regrown, w' = grow (redrawn V3 p.d) p.os) := fun d os =>
    (tLen_any L.M 24 m.given.length cap p _ (cell_regrown (by rw [← hgv]; exact hm3.cGv) d os)).mono fun e w' h => ⟨h.1, ⟨⟨d, os⟩, h.2⟩⟩
  have HTW : Hid (∀ d os, Calls Tryz.prog 82 #[.pointer (some ⟨L.M, 0, none⟩), .int .i64 m.given.length, .int .u8 (wMask o)] (grow (redrawn V3 d) os) fun e w' => e = .returned (.bool (toWrite m.given m.cycle m.given.length (wMask o))) ∧ ∃ p : Regrown, w' = grow (redrawn V3 p.d) p.os) := fun d os =>
    Calls.regrown_of (isToBeWritten_any (grow (redrawn V3 d) os) B L m m.given.length (wMask o) n (hm3.below (below_regrown V3 d os)) (Nat.le_refl _) (by omega) hmk HOR.out)
  have HBO := hide hbo
  have HM3 := hide hm3
  have HGV := hide hgv
  clear hm3 hgv hbo hB3
  have HSK : Hid (unitM o m = m → ∀ w', Below V3.heap.size V3 w' → ∃ gv', MAt w' B { L with gv := gv' } (unitM o m) ∧ Kq B W w') := fun he w' hb => by
    rw [he]
    exact ⟨L.gv, HM3.out.below hb, .of_below (HB3.out.trans (hb.mono HB3.out.size))⟩
  cases hfu : freeU m kd with
  | false =>
    have HE : Hid (unitM o m = m) := by rw [HUM.out, if_pos (.inl hfu)]; rfl
    rw [hfu] at HFU
    have HH := hide hfu
    clear hfu HUM
    generalize wMask o = wm at *
    refine wp_region_quiet_below (by kernel_rfl) (by kernel_rfl) ?_
    repeat (go_big_quiet_step ((first | (exact HFU.out _ _) | (exact HLN.out _ _) | (exact HTW.out _ _) | fail)))
    refine wpQuiet_nil ?_
    rintro w4 ⟨q, rfl⟩
    have hb4 := below_regrown V3 q.d q.os
    generalize grow (redrawn V3 q.d) q.os = w4 at hb4
    go_wp2
    refine bodyPost_ret (results_none rfl _ _ _) rfl ?_
    exact ⟨rfl, HSK.out HE.out _ hb4⟩
  | true =>
    cases htw : toWrite m.given m.cycle m.given.length (wMask o) with
    | true =>
      have HE : Hid (unitM o m = m) := by rw [HUM.out, if_pos (.inr htw)]; rfl
      rw [hfu] at HFU
      rw [htw] at HTW
      have HH := hide hfu
      have HH2 := hide htw
      clear hfu htw HUM
      generalize wMask o = wm at *
      refine wp_region_quiet_below (by kernel_rfl) (by kernel_rfl) ?_
      repeat (go_big_quiet_step ((first | (exact HFU.out _ _) | (exact HLN.out _ _) | (exact HTW.out _ _) | fail)))
      refine wpQuiet_nil ?_
      rintro w4 ⟨q, rfl⟩
      have hb4 := below_regrown V3 q.d q.os
      generalize grow (redrawn V3 q.d) q.os = w4 at hb4
      go_wp2
      refine bodyPost_ret (results_none rfl _ _ _) rfl ?_
      exact ⟨rfl, HSK.out HE.out _ hb4⟩
    | false =>
      have HE : Hid (unitM o m = { m with given := m.given ++ [⟨o, m.next, m.cycle, 0, 0, 0, 0, 0, 0, 0⟩], next := m.next + 1 }) := by
        rw [HUM.out, if_neg (fun h => by rw [hfu, htw] at h; rcases h with h | h <;> cases h)]; rfl
      rw [hfu] at HFU
      rw [htw] at HTW
      have HH := hide hfu
      have HH2 := hide htw
      clear hfu htw HUM HSK
      refine wp_region_quiet_below (by kernel_rfl) (by kernel_rfl) ?_
      repeat (go_big_quiet_step ((first | (exact HFU.out _ _) | (exact HLN.out _ _) | (exact HTW.out _ _) | fail)))
      refine wpQuiet_nil ?_
      rintro w4 ⟨q, rfl⟩
      have hb4 := below_regrown V3 q.d q.os
      generalize grow (redrawn V3 q.d) q.os = w4 at hb4
      have hm4 := HM3.out.below hb4
      have hbo4 := (HBO.out.below hb4).drew
      have e0 : w4.drew.cell? ⟨W.heap.size, 0, none⟩ = some (.int .i64 o.op) := hbo4.co 0
      have e1 : w4.drew.cell? ⟨W.heap.size, 1, none⟩ = some (.int .i64 o.d) := hbo4.co 1
      have e2 : w4.drew.cell? ⟨W.heap.size, 2, none⟩ = some (.int .i64 o.a) := hbo4.co 2
      have e3 : w4.drew.cell? ⟨W.heap.size, 3, none⟩ = some (.int .i64 o.b) := hbo4.co 3
      have e4 : w4.drew.cell? ⟨W.heap.size, 4, none⟩ = some (.int .i64 o.k) := hbo4.co 4
      have e5 : w4.drew.cell? ⟨N, 0, none⟩ = some (.int .i64 kd) := hbo4.cn 0
      have e6 : w4.drew.cell? ⟨N, 1, none⟩ = some (.int .u8 (rMask o)) := hbo4.cn 1
      have e7 : w4.drew.cell? ⟨N, 2, none⟩ = some (.int .u8 (wMask o)) := hbo4.cn 2
      have e8 : w4.drew.cell? ⟨L.M, 23, none⟩ = some (.int .i64 m.cycle) := hm4.cCycle
      have HM4 : Hid (MAt w4.drew B L m) := hm4.ck (fun _ _ _ _ h => h)
      have HB4 : Hid (Below W.heap.size W w4.drew) := (HB3.out.trans (hb4.mono HB3.out.size)).drew
      have HADD : Hid (Calls Tryz.prog 103 #[.pointer (some ⟨L.M, 24, none⟩), .agg #[.int .i64 o.op, .int .i64 o.d, .int .i64 o.a, .int .i64 o.b, .int .i64 o.k, .int .i64 kd, .int .u8 (rMask o), .int .u8 (wMask o), .int .i64 m.next, .int .i64 m.cycle, .int .i64 0, .int .i64 0, .int .i64 0, .int .i64 0, .int .i64 0, .int .i64 0, .int .i64 0]] w4.drew fun e w' => e = .returned (.tuple #[]) ∧
          ∃ gv', MAt w' B { L with gv := gv' } { m with given := m.given ++ [⟨o, m.next, m.cycle, 0, 0, 0, 0, 0, 0, 0⟩] } ∧ Kq B w4.drew w') := by
        have := tAdd_any w4.drew B L.M 24 m.given.length L.gv (m.given.flatMap tkCells) ⟨o, m.next, m.cycle, 0, 0, 0, 0, 0, 0, 0⟩ HM4.out.giv HM4.out.cGv (HM4.out.frozen _) (row_ne HM4.out.giv HM4.out.blk (by decide)) (by omega) (Nat.le_trans hB HB4.out.size)
        have e : (tkCells ⟨o, m.next, m.cycle, 0, 0, 0, 0, 0, 0, 0⟩).toArray = #[.int .i64 o.op, .int .i64 o.d, .int .i64 o.a, .int .i64 o.b, .int .i64 o.k, .int .i64 kd, .int .u8 (rMask o), .int .u8 (wMask o), .int .i64 m.next, .int .i64 m.cycle, .int .i64 0, .int .i64 0, .int .i64 0, .int .i64 0, .int .i64 0, .int .i64 0, .int .i64 0] := by
          unfold tkCells; rw [HKD.out]; rfl
        rw [e] at this
        refine this.mono ?_
        rintro e w' ⟨rfl, gv', w1, hg, ho, hcb, rfl⟩
        obtain ⟨z1, z2⟩ := HM4.out.addTk ⟨o, m.next, m.cycle, 0, 0, 0, 0, 0, 0, 0⟩ hg ho
        exact ⟨rfl, gv', z1, z2⟩
      clear hm4 hbo4 hb4 f1 f2 HFU HLN HTW
      go_wp2
      refine wp_region_still_tail 12 (by kernel_rfl) (by kernel_rfl) ?_
      simp only [List.take_succ_cons, List.take_zero, List.drop_succ_cons, List.drop_zero]
      repeat still_step
      refine wpStill_nil ?_
      have hx0 : (0 : Int) ≤ (m.next : Int) := by omega
      have hx1 : (m.next : Int) ≤ 1000 := by omega
      go_wp2_with (go_at_call 103; refine HADD.out.mono ?_; rintro e w5 ⟨rfl, gv', hm5, hk5⟩; have n1 : w5.cell? ⟨L.M, 19, none⟩ = some (.int .i64 m.next) := hm5.cNext; have n2 : w5.frozen? ⟨L.M, 19, none⟩ = false := hm5.frozen 19; have HM5 := hide hm5; have HK5 := hide hk5; clear hm5 hk5)
      go_end0
      refine ⟨rfl, gv', ?_, ?_⟩
      · rw [HE.out]
        have := HM5.out.setNext (m.next + 1)
        simpa using this
      · exact ((Kq.of_below HB4.out).trans HK5.out).trans (HM5.out.kqM _ _)

end Go.Proofs.YtmeiogoodbnkkaaGreat

/- A Jump is given out and done. -/
namespace Go.Proofs.YtmeiogoodbnkkaaGreat
open Go.RowKit Go.Sort

def jumpM (o : Ord) (m : Mc) : Mc :=
  if toWrite m.given m.cycle m.given.length (rMask o) then m
  else { m with given := m.given ++ [⟨o, m.next, m.cycle, m.cycle, m.cycle, m.cycle, 0, 0, 0, 0⟩], next := if m.regs.getD o.a.toNat 0 = 0 then o.k.toNat else m.next + 1 }

set_option maxRecDepth 100000 in
set_option maxHeartbeats 8000000 in
theorem issueJump_any (W : World) (B : Nat) (L : Lo) (m : Mc) (o : Ord) (n : Int) (hm : MAt W B L m) (ho : isOrd o n = true) (h8 : o.op = 8) (hords : Ords n m.given) (hsm : m.given.length ≤ 100000) (hnx : m.next ≤ 1000) (hB : B ≤ W.heap.size) :
    Calls Tryz.prog 84 #[.pointer (some ⟨L.M, 0, none⟩), .agg #[.int .i64 o.op, .int .i64 o.d, .int .i64 o.a, .int .i64 o.b, .int .i64 o.k], .int .i64 m.next] W fun e w' => e = .returned (.tuple #[]) ∧
      ∃ gv', MAt w' B { L with gv := gv' } (jumpM o m) ∧ Kq B W w' := by
  have HM := hide hm
  have HO := hide ho
  have HOR := hide hords
  have H8 := hide h8
  obtain ⟨kd, hkd⟩ : ∃ kd, kindOf o.op = kd := ⟨_, rfl⟩
  have HUM : Hid (jumpM o m = if toWrite m.given m.cycle m.given.length (rMask o) then m else { m with given := m.given ++ [⟨o, m.next, m.cycle, m.cycle, m.cycle, m.cycle, 0, 0, 0, 0⟩], next := if m.regs.getD o.a.toNat 0 = 0 then o.k.toNat else m.next + 1 }) := rfl
  have HNE : Hid (∀ w, Calls Tryz.prog 102 #[.agg #[.int .i64 o.op, .int .i64 o.d, .int .i64 o.a, .int .i64 o.b, .int .i64 o.k]] w fun e w' => e = .returned (.agg #[.int .i64 kd, .int .u8 (rMask o), .int .u8 (wMask o)]) ∧ Below w.heap.size w w') := fun w => by
    have := needs_any o n HO.out w
    rw [hkd] at this
    exact this
  have hmk : rMask o < 256 := rMask_lt ho
  obtain ⟨V, hV⟩ : ∃ V, W.alloc (.cells #[.int .i64 o.op, .int .i64 o.d, .int .i64 o.a, .int .i64 o.b, .int .i64 o.k] 40) = V := ⟨_, rfl⟩
  have hzV : V.heap.size = W.heap.size + 1 := by rw [← hV]; simp
  have hBV : Below W.heap.size W V := by rw [← hV]; exact (Below.refl _ _).alloc (Nat.le_refl _) _
  have hVo : V.heap[W.heap.size]? = some (.cells #[.int .i64 o.op, .int .i64 o.d, .int .i64 o.a, .int .i64 o.b, .int .i64 o.k] 40 (0, 0)) := by rw [← hV]; exact heap_alloc_new _ _
  have HV := hide hV
  clear hV
  have HKD := hide hkd
  clear hm ho hords h8 hkd
  go_enter Tryz.func84, Tryz.ntmps84
  go_wp2_with (go_at_call 102; refine (HNE.out _).mono ?_; rintro e w1 ⟨rfl, hb1⟩)
  rw [HV.out] at hb1
  obtain ⟨V3, hV3⟩ : ∃ V3, w1.alloc (.cells #[.int .i64 kd, .int .u8 (rMask o), .int .u8 (wMask o)] 117) = V3 := ⟨_, rfl⟩
  rw [hV3]
  have hb13 : Below w1.heap.size w1 V3 := by rw [← hV3]; exact (Below.refl _ _).alloc (Nat.le_refl _) _
  have hB3 : Below W.heap.size W V3 := (hBV.trans (hb1.mono (by omega))).trans (hb13.mono (by have := hb1.size; omega))
  have hbo : Bo W.heap.size w1.heap.size o kd V3 := ⟨by rw [hb13.block _ (by have := hb1.size; omega), hb1.block _ (by omega)]; exact hVo, by rw [← hV3]; exact heap_alloc_new _ _⟩
  generalize w1.heap.size = N at hbo
  clear hVo hBV hb1 hV3 hb13 hzV
  have HB3 := hide hB3
  have hm3 := HM.out.below hB3
  obtain ⟨p, cap, G, hgv, hG⟩ := hm3.ahead (Nat.le_refl _)
  have f2 : ∀ d os, (grow (redrawn V3 d) os).cell? ⟨N, 1, none⟩ = some (.int .u8 (rMask o)) := fun d os => cell_regrown (hbo.cn 1) d os
  have HLN : Hid (∀ d os, Calls Tryz.prog 72 #[.pointer (some ⟨L.M, 24, none⟩)] (grow (redrawn V3 d) os) fun e w' => e = .returned (.int .i64 m.given.length) ∧ ∃ p : Regrown, w' = grow (redrawn V3 p.d) p.os) := fun d os =>
    (tLen_any L.M 24 m.given.length cap p _ (cell_regrown (by rw [← hgv]; exact hm3.cGv) d os)).mono fun e w' h => ⟨h.1, ⟨⟨d, os⟩, h.2⟩⟩
  have HTW : Hid (∀ d os, Calls Tryz.prog 82 #[.pointer (some ⟨L.M, 0, none⟩), .int .i64 m.given.length, .int .u8 (rMask o)] (grow (redrawn V3 d) os) fun e w' => e = .returned (.bool (toWrite m.given m.cycle m.given.length (rMask o))) ∧ ∃ p : Regrown, w' = grow (redrawn V3 p.d) p.os) := fun d os =>
    Calls.regrown_of (isToBeWritten_any (grow (redrawn V3 d) os) B L m m.given.length (rMask o) n (hm3.below (below_regrown V3 d os)) (Nat.le_refl _) (by omega) hmk HOR.out)
  have HBO := hide hbo
  have HM3 := hide hm3
  have HGV := hide hgv
  clear hm3 hgv hbo hB3
  cases htw : toWrite m.given m.cycle m.given.length (rMask o) with
  | true =>
    have HE : Hid (jumpM o m = m) := by rw [HUM.out, if_pos htw]; rfl
    rw [htw] at HTW
    have HH2 := hide htw
    clear htw HUM
    generalize rMask o = wm at *
    refine wp_region_quiet_below (by kernel_rfl) (by kernel_rfl) ?_
    repeat (go_big_quiet_step ((first | (exact HLN.out _ _) | (exact HTW.out _ _) | fail)))
    refine wpQuiet_nil ?_
    rintro w4 ⟨q, rfl⟩
    have hb4 := below_regrown V3 q.d q.os
    generalize grow (redrawn V3 q.d) q.os = w4 at hb4
    go_wp2
    refine bodyPost_ret (results_none rfl _ _ _) rfl ?_
    refine ⟨rfl, L.gv, ?_, .of_below (HB3.out.trans (hb4.mono HB3.out.size))⟩
    rw [HE.out]
    exact HM3.out.below hb4
  | false =>
    have HE : Hid (jumpM o m = { m with given := m.given ++ [⟨o, m.next, m.cycle, m.cycle, m.cycle, m.cycle, 0, 0, 0, 0⟩], next := if m.regs.getD o.a.toNat 0 = 0 then o.k.toNat else m.next + 1 }) := by
      rw [HUM.out, if_neg (fun h => by rw [htw] at h; cases h)]; rfl
    rw [htw] at HTW
    have HH2 := hide htw
    clear htw HUM
    refine wp_region_quiet_below (by kernel_rfl) (by kernel_rfl) ?_
    repeat (go_big_quiet_step ((first | (exact HLN.out _ _) | (exact HTW.out _ _) | fail)))
    refine wpQuiet_nil ?_
    rintro w4 ⟨q, rfl⟩
    have hb4 := below_regrown V3 q.d q.os
    generalize grow (redrawn V3 q.d) q.os = w4 at hb4
    have hm4 := HM3.out.below hb4
    have hbo4 := (HBO.out.below hb4).drew
    have e0 : w4.drew.cell? ⟨W.heap.size, 0, none⟩ = some (.int .i64 o.op) := hbo4.co 0
    have e1 : w4.drew.cell? ⟨W.heap.size, 1, none⟩ = some (.int .i64 o.d) := hbo4.co 1
    have e2 : w4.drew.cell? ⟨W.heap.size, 2, none⟩ = some (.int .i64 o.a) := hbo4.co 2
    have e3 : w4.drew.cell? ⟨W.heap.size, 3, none⟩ = some (.int .i64 o.b) := hbo4.co 3
    have e4 : w4.drew.cell? ⟨W.heap.size, 4, none⟩ = some (.int .i64 o.k) := hbo4.co 4
    have e5 : w4.drew.cell? ⟨N, 0, none⟩ = some (.int .i64 kd) := hbo4.cn 0
    have e6 : w4.drew.cell? ⟨N, 1, none⟩ = some (.int .u8 (rMask o)) := hbo4.cn 1
    have e7 : w4.drew.cell? ⟨N, 2, none⟩ = some (.int .u8 (wMask o)) := hbo4.cn 2
    have e8 : w4.cell? ⟨L.M, 23, none⟩ = some (.int .i64 m.cycle) := hm4.cCycle
    have HM4 : Hid (MAt w4.drew B L m) := hm4.ck (fun _ _ _ _ h => h)
    have HB4 : Hid (Below W.heap.size W w4.drew) := (HB3.out.trans (hb4.mono HB3.out.size)).drew
    have HBO4 := hide hbo4
    have HADD : Hid (Calls Tryz.prog 103 #[.pointer (some ⟨L.M, 24, none⟩), .agg #[.int .i64 o.op, .int .i64 o.d, .int .i64 o.a, .int .i64 o.b, .int .i64 o.k, .int .i64 kd, .int .u8 (rMask o), .int .u8 (wMask o), .int .i64 m.next, .int .i64 m.cycle, .int .i64 m.cycle, .int .i64 m.cycle, .int .i64 m.cycle, .int .i64 0, .int .i64 0, .int .i64 0, .int .i64 0]] w4.drew fun e w' => e = .returned (.tuple #[]) ∧
        ∃ gv', MAt w' B { L with gv := gv' } { m with given := m.given ++ [⟨o, m.next, m.cycle, m.cycle, m.cycle, m.cycle, 0, 0, 0, 0⟩] } ∧ Kq B w4.drew w') := by
      have := tAdd_any w4.drew B L.M 24 m.given.length L.gv (m.given.flatMap tkCells) ⟨o, m.next, m.cycle, m.cycle, m.cycle, m.cycle, 0, 0, 0, 0⟩ HM4.out.giv HM4.out.cGv (HM4.out.frozen _) (row_ne HM4.out.giv HM4.out.blk (by decide)) (by omega) (Nat.le_trans hB HB4.out.size)
      have e : (tkCells ⟨o, m.next, m.cycle, m.cycle, m.cycle, m.cycle, 0, 0, 0, 0⟩).toArray = #[.int .i64 o.op, .int .i64 o.d, .int .i64 o.a, .int .i64 o.b, .int .i64 o.k, .int .i64 kd, .int .u8 (rMask o), .int .u8 (wMask o), .int .i64 m.next, .int .i64 m.cycle, .int .i64 m.cycle, .int .i64 m.cycle, .int .i64 m.cycle, .int .i64 0, .int .i64 0, .int .i64 0, .int .i64 0] := by
        unfold tkCells; rw [HKD.out]
      rw [e] at this
      refine this.mono ?_
      rintro e w' ⟨rfl, gv', w1, hg, ho, hcb, rfl⟩
      obtain ⟨z1, z2⟩ := HM4.out.addTk ⟨o, m.next, m.cycle, m.cycle, m.cycle, m.cycle, 0, 0, 0, 0⟩ hg ho
      exact ⟨rfl, gv', z1, z2⟩
    clear hm4 hbo4 hb4 f2 HLN HTW
    go_wp2
    refine wp_region_still_tail 12 (by kernel_rfl) (by kernel_rfl) ?_
    simp only [List.take_succ_cons, List.take_zero, List.drop_succ_cons, List.drop_zero]
    repeat still_step
    refine wpStill_nil ?_
    go_wp2_with (go_at_call 103; refine HADD.out.mono ?_; rintro e w5 ⟨rfl, gv', hm5, hk5⟩; have HM5 := hide hm5; have HK5 := hide hk5; clear hm5 hk5)
    have HBO5 : Hid (Bo W.heap.size N o kd w5) := HBO4.out.kq HK5.out
    clear e0 e1 e2 e3 e4 e5 e6 e7 e8
    obtain ⟨o0, o8, dd0, dd7, a0, a7, b0, b7, hk8⟩ := isOrd_spec HO.out
    obtain ⟨ra, hra⟩ := Int.eq_ofNat_of_zero_le a0
    obtain ⟨rb, hrb⟩ := Int.eq_ofNat_of_zero_le b0
    have ra8 : ra < 8 := by omega
    have rb8 : rb < 8 := by omega
    obtain ⟨pm, c, hmv, hrd⟩ := HM5.out.mem.slice
    simp only at hmv hrd
    obtain ⟨xa, hxa⟩ : ∃ x, x = m.regs.getD ra 0 := ⟨_, rfl⟩
    obtain ⟨xb, hxb⟩ : ∃ x, x = m.regs.getD rb 0 := ⟨_, rfl⟩
    obtain ⟨v, hv⟩ : ∃ v, v = (if xa = 0 then o.k else (m.next : Int) + 1) := ⟨_, rfl⟩
    have HTK : Hid (∀ w', Below w5.heap.size w5 w' → Calls Tryz.prog 63 #[.pointer (some ⟨L.M, 10, none⟩), .agg #[.int .i64 o.op, .int .i64 o.d, .int .i64 ra, .int .i64 rb, .int .i64 o.k], .int .i64 m.next] w' fun e w'' =>
        e = .returned (.agg #[.int .i64 o.op, .int .i64 o.d, .int .i64 ra, .int .i64 rb, .int .i64 o.k, .int .i64 m.next, .int .i64 xa, .int .i64 xb, .slice pm m.mem.length c]) ∧ Below w'.heap.size w' w'') := fun w' hw => by
      have h := HM5.out.below hw
      rw [hxa, hxb]
      exact take_any L.M 10 ra rb o.op o.d o.k m.next _ _ pm m.mem.length c w' ra8 rb8 h.lt (h.reg ra8) (h.reg rb8) (by have := h.cMv; rw [hmv] at this; exact this)
    have HWK : Hid (∀ w', Below w5.heap.size w5 w' → Calls Tryz.prog 62 #[.agg #[.int .i64 o.op, .int .i64 o.d, .int .i64 ra, .int .i64 rb, .int .i64 o.k, .int .i64 m.next, .int .i64 xa, .int .i64 xb, .slice pm m.mem.length c]] w' fun e w'' =>
        e = .returned (.tuple #[.agg #[.int .i64 3, .int .i64 0, .int .i64 v], .int .i64 0]) ∧ Below w'.heap.size w' w'') := fun w' hw => by
      have := work_any o m.next xa xb pm c m.mem w' (hrd.below (Nat.le_refl _) hw) (by rw [H8.out]; omega) o8 (by omega) (by omega)
      have ew : wk o m.next xa xb m.mem = (3, 0, v, 0) := by unfold wk; rw [if_pos H8.out, hv]
      rw [ew] at this
      simp only [inp] at this
      rw [hra, hrb] at this
      exact this
    obtain ⟨nx, hnxv⟩ : ∃ nx : Nat, nx = (if m.regs.getD o.a.toNat 0 = 0 then o.k.toNat else m.next + 1) := ⟨_, rfl⟩
    have HV2 : Hid (v = (nx : Int)) := by
      show v = (nx : Int)
      rw [hv, hxa, hnxv, hra, Int.toNat_natCast]
      have := hk8 H8.out
      split <;> omega
    have HNX := hide hnxv
    rw [hnxv.symm] at HE
    have HRA := hide hra
    have HRB := hide hrb
    clear hxa hxb hrd hmv a0 a7 b0 b7 hv hnxv hk8 dd0 dd7 o0 o8
    have r0 : ∀ w', Below w5.heap.size w5 w' → w'.cell? ⟨W.heap.size, 0, none⟩ = some (.int .i64 o.op) := fun _ h => (HBO5.out.below h).co 0
    have r1 : ∀ w', Below w5.heap.size w5 w' → w'.cell? ⟨W.heap.size, 1, none⟩ = some (.int .i64 o.d) := fun _ h => (HBO5.out.below h).co 1
    have r2 : ∀ w', Below w5.heap.size w5 w' → w'.cell? ⟨W.heap.size, 2, none⟩ = some (.int .i64 ra) := fun _ h => by rw [← HRA.out]; exact (HBO5.out.below h).co 2
    have r3 : ∀ w', Below w5.heap.size w5 w' → w'.cell? ⟨W.heap.size, 3, none⟩ = some (.int .i64 rb) := fun _ h => by rw [← HRB.out]; exact (HBO5.out.below h).co 3
    have r4 : ∀ w', Below w5.heap.size w5 w' → w'.cell? ⟨W.heap.size, 4, none⟩ = some (.int .i64 o.k) := fun _ h => (HBO5.out.below h).co 4
    have HS : Hid (Below w5.heap.size w5 w5.drew) := (Below.refl _ _).drew
    have HS2 : Hid (∀ x, Below w5.heap.size w5 (w5.alloc x).drew) := fun x => ((Below.refl _ _).alloc (Nat.le_refl _) _).drew
    clear hra hrb
    go_cut [8, 9] from 37 to 51 (fun s8 s9 wx => ∃ K, s8 = .pointer (some ⟨K, 0, none⟩) ∧ s9 = .int .i64 0 ∧ w5.heap.size ≤ K ∧ K < wx.heap.size ∧ Below w5.heap.size w5 wx ∧ wx.cell? ⟨K, 0, none⟩ = some (.int .i64 3) ∧ wx.cell? ⟨K, 1, none⟩ = some (.int .i64 0) ∧ wx.cell? ⟨K, 2, none⟩ = some (.int .i64 v))
    case first =>
      go_region_held3 (fun w' => Below w5.heap.size w5 w') (first | assumption | exact HS.out | exact HS2.out _ | exact HS1.out | exact HS0.out | exact HS0.out.alloc hz0 _ | exact HS1.out.alloc hz1 _ | (refine Below.setCell (Below.setCell (Below.setCell HS1.out ?_ _) ?_ _) ?_ _ <;> simp <;> omega) | fail) (first | (go_at_call 63; refine (HTK.out _ (by assumption)).mono ?_; rintro e w0 ⟨rfl, hb0⟩; have HS0 : Hid (Below w5.heap.size w5 w0) := (Below.trans (by assumption) (hb0.mono (by first | omega | (simp; omega) | simp))); have hz0 : w5.heap.size ≤ w0.heap.size := (by have := hb0.size; simp at this; omega); obtain ⟨hc0, hf0⟩ := bcell hb0; have hy0 := hb0.size; try simp at hy0; try (have hx0 : w5.heap.size < w0.heap.size := (by omega))) | (go_at_call 62; refine (HWK.out _ (by first | assumption | exact HS0.out)).mono ?_; rintro e w1 ⟨rfl, hb1⟩; obtain ⟨hc1, hf1⟩ := bcell hb1; have HS1 : Hid (Below w5.heap.size w5 w1) := (Below.trans (by first | assumption | exact HS0.out) (hb1.mono (by first | omega | (simp; omega) | simp))); have hz1 : w5.heap.size ≤ w1.heap.size := (by have := hb1.size; first | omega | (simp at this; omega)); have hy1 := hb1.size; try simp at hy1; try (have hx1 : w5.heap.size < w1.heap.size := (by omega))))
      all_goals (go_wp2_with fail; go_meet)
      all_goals (refine ⟨_, rfl, rfl, (by omega), (by simp <;> omega), (by assumption), ?_, ?_, ?_⟩ <;> go_simp)
    case rest =>
    obtain ⟨K, rfl, rfl, hK1, hK2, hBx, k0, k1, k2⟩ := hcut
    have hmx := HM5.out.below hBx
    have HPUT : Hid (Calls Tryz.prog 64 #[.agg #[.int .i64 3, .int .i64 0, .int .i64 v], .pointer (some ⟨L.M, 10, none⟩)] wc.drew fun e w' => e = .returned (.tuple #[]) ∧ Below wc.heap.size (wc.setCell ⟨L.M, 10 + 9, none⟩ (.int .i64 v)) w') :=
      (put_next_at L.M 10 0 v _ wc.drew hmx.lt hmx.cNext (hmx.frozen _)).mono fun e w' h => ⟨h.1, h.2.os, h.2.tape, h.2.output, h.2.size, h.2.block⟩
    have k0' : wc.drew.cell? ⟨K, 0, none⟩ = some (.int .i64 3) := k0
    have k1' : wc.drew.cell? ⟨K, 1, none⟩ = some (.int .i64 0) := k1
    have k2' : wc.drew.cell? ⟨K, 2, none⟩ = some (.int .i64 v) := k2
    have HMX := hide hmx
    have HBX := hide hBx
    clear hmx hBx k0 k1 k2 r0 r1 r2 r3 r4
    go_wp2
    refine wp_region_still_tail 4 (by kernel_rfl) (by kernel_rfl) ?_
    simp only [List.take_succ_cons, List.take_zero, List.drop_succ_cons, List.drop_zero]
    repeat still_step
    refine wpStill_nil ?_
    go_wp2_with (go_at_call 64; refine HPUT.out.mono ?_; rintro e w6 ⟨rfl, hb6⟩)
    go_end0
    refine ⟨rfl, gv', ?_, ?_⟩
    · rw [HE.out]
      rw [HV2.out] at hb6
      have h7 := HMX.out.setNext nx
      have := h7.below (W' := w6) (by simpa using hb6)
      exact this
    · refine ((Kq.of_below HB4.out).trans HK5.out).trans ((Kq.of_below HBX.out).trans ((HMX.out.kqM (10 + 9) (.int .i64 v)).trans (.of_below (by simpa using hb6))))

end Go.Proofs.YtmeiogoodbnkkaaGreat
