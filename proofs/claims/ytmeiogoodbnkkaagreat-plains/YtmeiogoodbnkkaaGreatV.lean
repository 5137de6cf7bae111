/- The document's answer: what an order does. -/
import Derived.Test.YtmeiogoodbnkkaaGreatU
namespace Go.Proofs.YtmeiogoodbnkkaaGreat
open Go.RowKit

theorem ret_three {a b c a' b' c' : Int} (h : (a, b, c) = (a', b', c')) : Ending.returned (.tuple #[.int .i64 a, .int .i64 b, .int .i64 c]) = .returned (.tuple #[.int .i64 a', .int .i64 b', .int .i64 c']) := by
  simp only [Prod.mk.injEq] at h
  obtain ⟨rfl, rfl, rfl⟩ := h
  rfl

set_option maxHeartbeats 4000000 in
theorem effect_any (op d ra rb k a b : Int) (p : Option Addr) (c : Nat) (mem : List Int) (w : World) (hrd : Rd w p mem) (h1 : 1 ≤ op) (h7 : op ≤ 7) :
    Calls Tryz.prog 30 #[.agg #[.int .i64 op, .int .i64 d, .int .i64 ra, .int .i64 rb, .int .i64 k], .int .i64 a, .int .i64 b, .slice p mem.length c] w fun e w' =>
      e = .returned (.tuple #[.int .i64 (eff ⟨op, d, ra, rb, k⟩ a b mem).1, .int .i64 (eff ⟨op, d, ra, rb, k⟩ a b mem).2.1, .int .i64 (eff ⟨op, d, ra, rb, k⟩ a b mem).2.2]) ∧ Below w.heap.size w w' := by
  have HRD := hide hrd
  clear hrd
  have hc : op = 1 ∨ op = 2 ∨ op = 3 ∨ op = 4 ∨ op = 5 ∨ op = 6 ∨ op = 7 := by omega
  rcases hc with rfl | rfl | rfl | rfl | rfl | rfl | rfl
  · have HE : Hid ((0, k, 0) = eff ⟨1, d, ra, rb, k⟩ a b mem) := by show _ = _; simp [eff]
    go_enter Tryz.func30, Tryz.ntmps30
    go_wp2
    go_quiet (fail)
    go_wp2
    go_ret3
    exact ⟨ret_three HE.out, below_drewN ((Below.refl _ _).alloc (Nat.le_refl _) _) _⟩
  · have HE : Hid ((0, wrap64 (a + b), 0) = eff ⟨2, d, ra, rb, k⟩ a b mem) := by show _ = _; simp [eff]
    go_enter Tryz.func30, Tryz.ntmps30
    go_wp2
    go_ret3
    exact ⟨ret_three HE.out, (Below.refl _ _).alloc (Nat.le_refl _) _⟩
  · have HE : Hid ((0, wrap64 (a - b), 0) = eff ⟨3, d, ra, rb, k⟩ a b mem) := by show _ = _; simp [eff]
    go_enter Tryz.func30, Tryz.ntmps30
    go_wp2
    go_ret3
    exact ⟨ret_three HE.out, (Below.refl _ _).alloc (Nat.le_refl _) _⟩
  · have HE : Hid ((0, wrap64 (a * b), 0) = eff ⟨4, d, ra, rb, k⟩ a b mem) := by show _ = _; simp [eff]
    go_enter Tryz.func30, Tryz.ntmps30
    go_wp2
    go_ret3
    exact ⟨ret_three HE.out, (Below.refl _ _).alloc (Nat.le_refl _) _⟩
  · by_cases hb : b = 0
    · subst hb
      have HE : Hid ((1, 0, 0) = eff ⟨5, d, ra, rb, k⟩ a 0 mem) := by show _ = _; simp [eff]
      go_enter Tryz.func30, Tryz.ntmps30
      go_wp2
      go_ret3
      exact ⟨ret_three HE.out, (Below.refl _ _).alloc (Nat.le_refl _) _⟩
    · have HE : Hid ((0, wrap64 (a.tdiv b), 0) = eff ⟨5, d, ra, rb, k⟩ a b mem) := by show _ = _; simp [eff, hb]
      have hb' : (b == 0) = false := by simpa using hb
      have HBN := hide hb
      clear hb
      go_enter Tryz.func30, Tryz.ntmps30
      go_wp2_with (go_at_call 45; refine (quotient_any _ _ _ HBN.out).mono ?_; rintro e w' ⟨rfl, rfl⟩)
      go_ret3
      exact ⟨ret_three HE.out, (Below.refl _ _).alloc (Nat.le_refl _) _⟩
  · obtain ⟨at', hat⟩ : ∃ x, x = wrap64 (a + k) := ⟨_, rfl⟩
    by_cases h0 : at' < 0
    · have HE : Hid ((2, 0, 0) = eff ⟨6, d, ra, rb, k⟩ a b mem) := by show _ = _; simp [eff, ← hat, h0]
      have hat2 := hat.symm
      clear hat
      go_enter Tryz.func30, Tryz.ntmps30
      go_wp2
      go_ret3
      exact ⟨ret_three HE.out, (Below.refl _ _).alloc (Nat.le_refl _) _⟩
    · by_cases h2 : (mem.length : Int) ≤ at'
      · have HE : Hid ((2, 0, 0) = eff ⟨6, d, ra, rb, k⟩ a b mem) := by show _ = _; simp [eff, ← hat, h2]
        have hat2 := hat.symm
        clear hat
        go_enter Tryz.func30, Tryz.ntmps30
        go_wp2
        go_ret3
        exact ⟨ret_three HE.out, (Below.refl _ _).alloc (Nat.le_refl _) _⟩
      · have HE : Hid ((0, mem.getD at'.toNat 0, at') = eff ⟨6, d, ra, rb, k⟩ a b mem) := by show _ = _; simp [eff, ← hat, h0, h2]
        obtain ⟨j, rfl⟩ := Int.eq_ofNat_of_zero_le (show 0 ≤ at' by omega)
        simp only [Int.toNat_natCast] at HE
        have hat2 := hat.symm
        clear hat
        have hj : j < mem.length := by omega
        obtain ⟨mb, off, rfl, hmb, hcell⟩ := HRD.out.at hj
        obtain ⟨x, hx⟩ : ∃ x, x = mem.getD j 0 := ⟨_, rfl⟩
        have hcj := hcell j hj
        rw [← hx] at HE hcj
        clear hcell hx
        have hne : ¬ w.heap.size = mb := by omega
        go_enter Tryz.func30, Tryz.ntmps30
        go_wp2
        go_quiet (fail)
        go_wp2
        go_ret3
        exact ⟨ret_three HE.out, below_drewN ((Below.refl _ _).alloc (Nat.le_refl _) _) _⟩
  · obtain ⟨at', hat⟩ : ∃ x, x = wrap64 (a + k) := ⟨_, rfl⟩
    by_cases h0 : at' < 0
    · have HE : Hid ((2, 0, 0) = eff ⟨7, d, ra, rb, k⟩ a b mem) := by show _ = _; simp [eff, ← hat, h0]
      have hat2 := hat.symm
      clear hat
      go_enter Tryz.func30, Tryz.ntmps30
      go_wp2
      go_ret3
      exact ⟨ret_three HE.out, (Below.refl _ _).alloc (Nat.le_refl _) _⟩
    · by_cases h2 : (mem.length : Int) ≤ at'
      · have HE : Hid ((2, 0, 0) = eff ⟨7, d, ra, rb, k⟩ a b mem) := by show _ = _; simp [eff, ← hat, h2]
        have hat2 := hat.symm
        clear hat
        go_enter Tryz.func30, Tryz.ntmps30
        go_wp2
        go_ret3
        exact ⟨ret_three HE.out, (Below.refl _ _).alloc (Nat.le_refl _) _⟩
      · have HE : Hid ((0, b, at') = eff ⟨7, d, ra, rb, k⟩ a b mem) := by show _ = _; simp [eff, ← hat, h0, h2]
        have hat2 := hat.symm
        clear hat
        go_enter Tryz.func30, Tryz.ntmps30
        go_wp2
        go_ret3
        exact ⟨ret_three HE.out, (Below.refl _ _).alloc (Nat.le_refl _) _⟩

end Go.Proofs.YtmeiogoodbnkkaaGreat
