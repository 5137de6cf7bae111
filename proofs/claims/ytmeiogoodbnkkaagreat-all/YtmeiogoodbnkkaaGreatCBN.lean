/- Is it a configuration? The document's answer. -/
import Derived.Test.YtmeiogoodbnkkaaGreatCSHSI
namespace Go.Proofs.YtmeiogoodbnkkaaGreat
open Go.RowKit

theorem refuseC_bad2 {u l : List Int} {b : Int} {k : Nat} (hk : k < 4) (h : okK u l k = false) : refuseC u l b = 4 := by
  unfold refuseC
  have : k = 0 ∨ k = 1 ∨ k = 2 ∨ k = 3 := by omega
  rcases this with rfl | rfl | rfl | rfl <;> rw [h] <;> simp

set_option maxRecDepth 100000 in
set_option maxHeartbeats 8000000 in
theorem sound_any (a0 a1 a2 a3 n0 n1 n2 n3 b : Int) (w : World) :
    Calls Tryz.prog 34 #[.agg #[.int .i64 a0, .int .i64 a1, .int .i64 a2, .int .i64 a3, .int .i64 n0, .int .i64 n1, .int .i64 n2, .int .i64 n3, .int .i64 b]] w fun e w' => e = .returned (.int .i64 (refuseC [a0, a1, a2, a3] [n0, n1, n2, n3] b)) ∧ Below w.heap.size w w' := by
  obtain ⟨W0, hW0⟩ : ∃ W0, w.alloc (.cells #[.int .i64 a0, .int .i64 a1, .int .i64 a2, .int .i64 a3, .int .i64 n0, .int .i64 n1, .int .i64 n2, .int .i64 n3, .int .i64 b] 32) = W0 := ⟨_, rfl⟩
  have hb0 : Below w.heap.size w W0 := by rw [← hW0]; exact (Below.refl _ _).alloc (Nat.le_refl _) _
  have g0 : W0.heap[w.heap.size]? = some (.cells #[.int .i64 a0, .int .i64 a1, .int .i64 a2, .int .i64 a3, .int .i64 n0, .int .i64 n1, .int .i64 n2, .int .i64 n3, .int .i64 b] 32 (0, 0)) := by rw [← hW0]; exact heap_alloc_new _ _
  have hl0 : w.heap.size < W0.heap.size := (Array.getElem?_eq_some_iff.1 g0).1
  have c0 : W0.cell? ⟨w.heap.size, 0, none⟩ = some (.int .i64 a0) := by rw [cell_of_row _ _ _ _ _ _ g0]; rfl
  have c1 : W0.cell? ⟨w.heap.size, 1, none⟩ = some (.int .i64 a1) := by rw [cell_of_row _ _ _ _ _ _ g0]; rfl
  have c2 : W0.cell? ⟨w.heap.size, 2, none⟩ = some (.int .i64 a2) := by rw [cell_of_row _ _ _ _ _ _ g0]; rfl
  have c3 : W0.cell? ⟨w.heap.size, 3, none⟩ = some (.int .i64 a3) := by rw [cell_of_row _ _ _ _ _ _ g0]; rfl
  have c4 : W0.cell? ⟨w.heap.size, 4, none⟩ = some (.int .i64 n0) := by rw [cell_of_row _ _ _ _ _ _ g0]; rfl
  have c5 : W0.cell? ⟨w.heap.size, 5, none⟩ = some (.int .i64 n1) := by rw [cell_of_row _ _ _ _ _ _ g0]; rfl
  have c6 : W0.cell? ⟨w.heap.size, 6, none⟩ = some (.int .i64 n2) := by rw [cell_of_row _ _ _ _ _ _ g0]; rfl
  have c7 : W0.cell? ⟨w.heap.size, 7, none⟩ = some (.int .i64 n3) := by rw [cell_of_row _ _ _ _ _ _ g0]; rfl
  have c8 : W0.cell? ⟨w.heap.size, 8, none⟩ = some (.int .i64 b) := by rw [cell_of_row _ _ _ _ _ _ g0]; rfl
  have HB0 := hide hb0
  clear hb0 g0
  go_enter Tryz.func34, Tryz.ntmps34
  go_upto_region 1 with fail
  clear hW0
  go_wp2_with fail
  go_loopg [3] 4 (fun gq s3 wr => ∃ k : Nat, k ≤ 4 ∧ gq = 4 - k ∧ s3 = .int .i64 k ∧ (∀ j, j < k → okK [a0, a1, a2, a3] [n0, n1, n2, n3] j = true) ∧ wr = W0)
  case atStart => exact ⟨0, Nat.zero_le _, rfl, rfl, fun j hj => absurd hj (by omega), rfl⟩
  case round =>
    obtain ⟨k, hk4, hgk, rfl, hok, hwr⟩ := hrel
    subst hwr
    have HOK := hide hok
    have HGK := hide hgk
    clear hok hgk
    have hk : k = 0 ∨ k = 1 ∨ k = 2 ∨ k = 3 ∨ k = 4 := by omega
    rcases hk with rfl | rfl | rfl | rfl | rfl
    · by_cases h1 : a0 < 1
      · have HE : Hid (refuseC [a0, a1, a2, a3] [n0, n1, n2, n3] b = 4) := refuseC_bad2 (k := 0) (by omega) (by unfold okK okN mostK; simp; omega)
        go_wp2_with fail
        go_ret
        exact ⟨by rw [HE.out]; rfl, HB0.out⟩
      by_cases h2 : 3 < a0
      · have HE : Hid (refuseC [a0, a1, a2, a3] [n0, n1, n2, n3] b = 4) := refuseC_bad2 (k := 0) (by omega) (by unfold okK okN mostK; simp; omega)
        go_wp2_with fail
        go_ret
        exact ⟨by rw [HE.out]; rfl, HB0.out⟩
      by_cases h3 : n0 < 1
      · have HE : Hid (refuseC [a0, a1, a2, a3] [n0, n1, n2, n3] b = 4) := refuseC_bad2 (k := 0) (by omega) (by unfold okK okN mostK; simp; omega)
        go_wp2_with fail
        go_ret
        exact ⟨by rw [HE.out]; rfl, HB0.out⟩
      by_cases h4 : 12 < n0
      · have HE : Hid (refuseC [a0, a1, a2, a3] [n0, n1, n2, n3] b = 4) := refuseC_bad2 (k := 0) (by omega) (by unfold okK okN mostK; simp; omega)
        go_wp2_with fail
        go_ret
        exact ⟨by rw [HE.out]; rfl, HB0.out⟩
      have HN : Hid (∀ j, j < 1 → okK [a0, a1, a2, a3] [n0, n1, n2, n3] j = true) := fun j hj => by
        rcases Nat.lt_or_ge j 0 with h | h
        · exact HOK.out j h
        · have : j = 0 := by omega
          subst this
          unfold okK okN mostK
          skip
          simp
          omega
      go_wp2_with fail
      have hgk := HGK.out
      go_roundg (4 - 1)
      case measure => omega
      case rel => exact ⟨1, by omega, rfl, rfl, HN.out, rfl⟩
    · by_cases h1 : a1 < 1
      · have HE : Hid (refuseC [a0, a1, a2, a3] [n0, n1, n2, n3] b = 4) := refuseC_bad2 (k := 1) (by omega) (by unfold okK okN mostK; simp; omega)
        go_wp2_with fail
        go_ret
        exact ⟨by rw [HE.out]; rfl, HB0.out⟩
      by_cases h2 : 3 < a1
      · have HE : Hid (refuseC [a0, a1, a2, a3] [n0, n1, n2, n3] b = 4) := refuseC_bad2 (k := 1) (by omega) (by unfold okK okN mostK; simp; omega)
        go_wp2_with fail
        go_ret
        exact ⟨by rw [HE.out]; rfl, HB0.out⟩
      by_cases h3 : n1 < 1
      · have HE : Hid (refuseC [a0, a1, a2, a3] [n0, n1, n2, n3] b = 4) := refuseC_bad2 (k := 1) (by omega) (by unfold okK okN mostK; simp; omega)
        go_wp2_with fail
        go_ret
        exact ⟨by rw [HE.out]; rfl, HB0.out⟩
      by_cases h4 : 12 < n1
      · have HE : Hid (refuseC [a0, a1, a2, a3] [n0, n1, n2, n3] b = 4) := refuseC_bad2 (k := 1) (by omega) (by unfold okK okN mostK; simp; omega)
        go_wp2_with fail
        go_ret
        exact ⟨by rw [HE.out]; rfl, HB0.out⟩
      have HN : Hid (∀ j, j < 2 → okK [a0, a1, a2, a3] [n0, n1, n2, n3] j = true) := fun j hj => by
        rcases Nat.lt_or_ge j 1 with h | h
        · exact HOK.out j h
        · have : j = 1 := by omega
          subst this
          unfold okK okN mostK
          skip
          simp
          omega
      go_wp2_with fail
      have hgk := HGK.out
      go_roundg (4 - 2)
      case measure => omega
      case rel => exact ⟨2, by omega, rfl, rfl, HN.out, rfl⟩
    · by_cases h1 : a2 < 1
      · have HE : Hid (refuseC [a0, a1, a2, a3] [n0, n1, n2, n3] b = 4) := refuseC_bad2 (k := 2) (by omega) (by unfold okK okN mostK; simp; omega)
        go_wp2_with fail
        go_ret
        exact ⟨by rw [HE.out]; rfl, HB0.out⟩
      by_cases h2 : 3 < a2
      · have HE : Hid (refuseC [a0, a1, a2, a3] [n0, n1, n2, n3] b = 4) := refuseC_bad2 (k := 2) (by omega) (by unfold okK okN mostK; simp; omega)
        go_wp2_with fail
        go_ret
        exact ⟨by rw [HE.out]; rfl, HB0.out⟩
      by_cases h3 : n2 < 1
      · have HE : Hid (refuseC [a0, a1, a2, a3] [n0, n1, n2, n3] b = 4) := refuseC_bad2 (k := 2) (by omega) (by unfold okK okN mostK; simp; omega)
        go_wp2_with fail
        go_ret
        exact ⟨by rw [HE.out]; rfl, HB0.out⟩
      by_cases h4 : 12 < n2
      · have HE : Hid (refuseC [a0, a1, a2, a3] [n0, n1, n2, n3] b = 4) := refuseC_bad2 (k := 2) (by omega) (by unfold okK okN mostK; simp; omega)
        go_wp2_with fail
        go_ret
        exact ⟨by rw [HE.out]; rfl, HB0.out⟩
      have HN : Hid (∀ j, j < 3 → okK [a0, a1, a2, a3] [n0, n1, n2, n3] j = true) := fun j hj => by
        rcases Nat.lt_or_ge j 2 with h | h
        · exact HOK.out j h
        · have : j = 2 := by omega
          subst this
          unfold okK okN mostK
          skip
          simp
          omega
      go_wp2_with fail
      have hgk := HGK.out
      go_roundg (4 - 3)
      case measure => omega
      case rel => exact ⟨3, by omega, rfl, rfl, HN.out, rfl⟩
    · by_cases h1 : a3 < 1
      · have HE : Hid (refuseC [a0, a1, a2, a3] [n0, n1, n2, n3] b = 4) := refuseC_bad2 (k := 3) (by omega) (by unfold okK okN mostK; simp; omega)
        go_wp2_with fail
        go_ret
        exact ⟨by rw [HE.out]; rfl, HB0.out⟩
      by_cases h2 : 3 < a3
      · have HE : Hid (refuseC [a0, a1, a2, a3] [n0, n1, n2, n3] b = 4) := refuseC_bad2 (k := 3) (by omega) (by unfold okK okN mostK; simp; omega)
        go_wp2_with fail
        go_ret
        exact ⟨by rw [HE.out]; rfl, HB0.out⟩
      by_cases h5 : a3 = 1
      case neg =>
        have h5' : (a3 != 1) = true := by simp [h5]
        have HE : Hid (refuseC [a0, a1, a2, a3] [n0, n1, n2, n3] b = 4) := refuseC_bad2 (k := 3) (by omega) (by unfold okK okN mostK; simp; omega)
        go_wp2_with fail
        go_ret
        exact ⟨by rw [HE.out]; rfl, HB0.out⟩
      have h5' : (a3 != 1) = false := by simp [h5]
      have H5 := hide h5
      clear h5
      by_cases h3 : n3 < 1
      · have HE : Hid (refuseC [a0, a1, a2, a3] [n0, n1, n2, n3] b = 4) := refuseC_bad2 (k := 3) (by omega) (by unfold okK okN mostK; simp; omega)
        go_wp2_with fail
        go_ret
        exact ⟨by rw [HE.out]; rfl, HB0.out⟩
      by_cases h4 : 12 < n3
      · have HE : Hid (refuseC [a0, a1, a2, a3] [n0, n1, n2, n3] b = 4) := refuseC_bad2 (k := 3) (by omega) (by unfold okK okN mostK; simp; omega)
        go_wp2_with fail
        go_ret
        exact ⟨by rw [HE.out]; rfl, HB0.out⟩
      have HN : Hid (∀ j, j < 4 → okK [a0, a1, a2, a3] [n0, n1, n2, n3] j = true) := fun j hj => by
        rcases Nat.lt_or_ge j 3 with h | h
        · exact HOK.out j h
        · have : j = 3 := by omega
          subst this
          unfold okK okN mostK
          have := H5.out
          simp
          omega
      go_wp2_with fail
      have hgk := HGK.out
      go_roundg (4 - 4)
      case measure => omega
      case rel => exact ⟨4, by omega, rfl, rfl, HN.out, rfl⟩
    · have HE : Hid (refuseC [a0, a1, a2, a3] [n0, n1, n2, n3] b = if okN 3 b then 0 else 5) := hide (by
        unfold refuseC
        rw [HOK.out 0 (by omega), HOK.out 1 (by omega), HOK.out 2 (by omega), HOK.out 3 (by omega)]
        rfl)
      by_cases h1 : b < 1
      · have HE2 : Hid (refuseC [a0, a1, a2, a3] [n0, n1, n2, n3] b = 5) := hide (by rw [HE.out]; unfold okN; rw [if_neg (by simp; omega)])
        go_wp2_with fail
        go_ret
        exact ⟨by rw [HE2.out]; rfl, HB0.out⟩
      by_cases h2 : 3 < b
      · have HE2 : Hid (refuseC [a0, a1, a2, a3] [n0, n1, n2, n3] b = 5) := hide (by rw [HE.out]; unfold okN; rw [if_neg (by simp; omega)])
        go_wp2_with fail
        go_ret
        exact ⟨by rw [HE2.out]; rfl, HB0.out⟩
      have HE2 : Hid (refuseC [a0, a1, a2, a3] [n0, n1, n2, n3] b = 0) := hide (by rw [HE.out]; unfold okN; rw [if_pos (by simp; omega)])
      go_wp2_with fail
      go_ret
      exact ⟨by rw [HE2.out]; rfl, HB0.out⟩

end Go.Proofs.YtmeiogoodbnkkaaGreat
