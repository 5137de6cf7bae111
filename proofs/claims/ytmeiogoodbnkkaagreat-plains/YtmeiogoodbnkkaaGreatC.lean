/- What is a program: the code's answer and the document's. -/
import Derived.Test.YtmeiogoodbnkkaaGreatA
import Derived.Test.YtmeiogoodbnkkaaGreatL
import Derived.Deep.QuietTactic
import Derived.BigQuiet
namespace Go.Proofs.YtmeiogoodbnkkaaGreat
open Go.RowKit

set_option maxHeartbeats 2000000 in
theorem isOrder_any (op d a b k n : Int) (w : World) :
    Calls Tryz.prog 61 #[.agg #[.int .i64 op, .int .i64 d, .int .i64 a, .int .i64 b, .int .i64 k], .int .i64 n] w fun e w' => e = .returned (.bool (isOrd ⟨op, d, a, b, k⟩ n)) ∧ Below w.heap.size w w' := by
  rcases ord_ways ⟨op, d, a, b, k⟩ n with h | h | h | h | h | h | h | h | h | h | h | h
  · obtain ⟨h1, h2⟩ := h
    have H2 := hide h2
    clear h2
    simp only at *
    go_enter Tryz.func61, Tryz.ntmps61
    go_wp2_with (go_at_call 76; refine (isRegister_any _ _).mono ?_; rintro e w' ⟨rfl, rfl⟩)
    go_ret
    exact ⟨ret_bool H2.out.symm, (Below.refl _ _).alloc (Nat.le_refl _) _⟩
  · obtain ⟨h1, h3, h2⟩ := h
    have H2 := hide h2
    clear h2
    simp only at *
    go_enter Tryz.func61, Tryz.ntmps61
    go_wp2_with (go_at_call 76; refine (isRegister_any _ _).mono ?_; rintro e w' ⟨rfl, rfl⟩)
    go_ret
    exact ⟨ret_bool H2.out.symm, (Below.refl _ _).alloc (Nat.le_refl _) _⟩
  · obtain ⟨h1, h3, h4, h2⟩ := h
    have H2 := hide h2
    clear h2
    simp only at *
    have r1 := isReg_low h4
    go_enter Tryz.func61, Tryz.ntmps61
    go_wp2_with (go_at_call 76; refine (isRegister_any _ _).mono ?_; rintro e w' ⟨rfl, rfl⟩)
    go_ret
    exact ⟨ret_bool H2.out.symm, (Below.refl _ _).alloc (Nat.le_refl _) _⟩
  · obtain ⟨h1, h3, h4, h5, h2⟩ := h
    have H2 := hide h2
    clear h2
    simp only at *
    have r1 := isReg_high h5
    go_enter Tryz.func61, Tryz.ntmps61
    go_wp2_with (go_at_call 76; refine (isRegister_any _ _).mono ?_; rintro e w' ⟨rfl, rfl⟩)
    go_ret
    exact ⟨ret_bool H2.out.symm, (Below.refl _ _).alloc (Nat.le_refl _) _⟩
  · obtain ⟨h1, h3, h4, h5, h6, h2⟩ := h
    have H2 := hide h2
    clear h2
    simp only at *
    have r1 := isReg_yes h4 h5
    have r2 := isReg_low h6
    go_enter Tryz.func61, Tryz.ntmps61
    go_wp2_with (go_at_call 76; refine (isRegister_any _ _).mono ?_; rintro e w' ⟨rfl, rfl⟩)
    go_ret
    exact ⟨ret_bool H2.out.symm, (Below.refl _ _).alloc (Nat.le_refl _) _⟩
  · obtain ⟨h1, h3, h4, h5, h6, h7, h2⟩ := h
    have H2 := hide h2
    clear h2
    simp only at *
    have r1 := isReg_yes h4 h5
    have r2 := isReg_high h7
    go_enter Tryz.func61, Tryz.ntmps61
    go_wp2_with (go_at_call 76; refine (isRegister_any _ _).mono ?_; rintro e w' ⟨rfl, rfl⟩)
    go_ret
    exact ⟨ret_bool H2.out.symm, (Below.refl _ _).alloc (Nat.le_refl _) _⟩
  · obtain ⟨h1, h3, h4, h5, h6, h7, h8, h2⟩ := h
    have H2 := hide h2
    clear h2
    simp only at *
    have r1 := isReg_yes h4 h5
    have r2 := isReg_yes h6 h7
    have r3 := isReg_low h8
    go_enter Tryz.func61, Tryz.ntmps61
    go_wp2_with (go_at_call 76; refine (isRegister_any _ _).mono ?_; rintro e w' ⟨rfl, rfl⟩)
    go_ret
    exact ⟨ret_bool H2.out.symm, (Below.refl _ _).alloc (Nat.le_refl _) _⟩
  · obtain ⟨h1, h3, h4, h5, h6, h7, h8, h9, h2⟩ := h
    have H2 := hide h2
    clear h2
    simp only at *
    have r1 := isReg_yes h4 h5
    have r2 := isReg_yes h6 h7
    have r3 := isReg_high h9
    go_enter Tryz.func61, Tryz.ntmps61
    go_wp2_with (go_at_call 76; refine (isRegister_any _ _).mono ?_; rintro e w' ⟨rfl, rfl⟩)
    go_ret
    exact ⟨ret_bool H2.out.symm, (Below.refl _ _).alloc (Nat.le_refl _) _⟩
  · obtain ⟨h1, h3, h4, h5, h6, h7, h8, h9, h2⟩ := h
    have H2 := hide h2
    clear h2
    simp only at *
    have r1 := isReg_yes h4 h5
    have r2 := isReg_yes h6 h7
    have r3 := isReg_yes h8 h9
    have t8 : (op != 8) = true := by simp; omega
    go_enter Tryz.func61, Tryz.ntmps61
    go_wp2_with (go_at_call 76; refine (isRegister_any _ _).mono ?_; rintro e w' ⟨rfl, rfl⟩)
    go_ret
    exact ⟨ret_bool H2.out.symm, (Below.refl _ _).alloc (Nat.le_refl _) _⟩
  · obtain ⟨h1, h4, h5, h6, h7, h8, h9, h3, h2⟩ := h
    have H2 := hide h2
    clear h2
    simp only at *
    have r1 := isReg_yes h4 h5
    have r2 := isReg_yes h6 h7
    have r3 := isReg_yes h8 h9
    subst h1
    go_enter Tryz.func61, Tryz.ntmps61
    go_wp2_with (go_at_call 76; refine (isRegister_any _ _).mono ?_; rintro e w' ⟨rfl, rfl⟩)
    go_ret
    exact ⟨ret_bool H2.out.symm, (Below.refl _ _).alloc (Nat.le_refl _) _⟩
  · obtain ⟨h1, h4, h5, h6, h7, h8, h9, h3, h10, h2⟩ := h
    have H2 := hide h2
    clear h2
    simp only at *
    have r1 := isReg_yes h4 h5
    have r2 := isReg_yes h6 h7
    have r3 := isReg_yes h8 h9
    subst h1
    have tk : decide (k < n) = false := decide_eq_false (by omega)
    go_enter Tryz.func61, Tryz.ntmps61
    go_wp2_with (go_at_call 76; refine (isRegister_any _ _).mono ?_; rintro e w' ⟨rfl, rfl⟩)
    go_ret
    exact ⟨ret_bool H2.out.symm, (Below.refl _ _).alloc (Nat.le_refl _) _⟩
  · obtain ⟨h1, h4, h5, h6, h7, h8, h9, h3, h10, h2⟩ := h
    have H2 := hide h2
    clear h2
    simp only at *
    have r1 := isReg_yes h4 h5
    have r2 := isReg_yes h6 h7
    have r3 := isReg_yes h8 h9
    subst h1
    go_enter Tryz.func61, Tryz.ntmps61
    go_wp2_with (go_at_call 76; refine (isRegister_any _ _).mono ?_; rintro e w' ⟨rfl, rfl⟩)
    go_ret
    exact ⟨ret_bool H2.out.symm, (Below.refl _ _).alloc (Nat.le_refl _) _⟩

end Go.Proofs.YtmeiogoodbnkkaaGreat
