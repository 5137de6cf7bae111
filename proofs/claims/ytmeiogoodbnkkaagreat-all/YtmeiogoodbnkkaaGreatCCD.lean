/- Several texts in one: C, D. -/
import Derived.Test.YtmeiogoodbnkkaaGreatCA
import Derived.Test.YtmeiogoodbnkkaaGreatCLPM
import Derived.Deep.QuietTactic
import Derived.BigQuiet
/- What is a program: the code's answer and the document's. -/
namespace Go.Proofs.YtmeiogoodbnkkaaGreat
open Go.RowKit

set_option maxHeartbeats 2000000 in
theorem isOrder_any (op d a b k n : Int) (w : World) :
    Calls Tryz.prog 61 #[.agg #[.int .i64 op, .int .i64 d, .int .i64 a, .int .i64 b, .int .i64 k], .int .i64 n] w fun e w' => e = .returned (.bool (isOrd ⟨op, d, a, b, k⟩ n)) ∧ Below w.heap.size w w' := by
  rcases ord_ways ⟨op, d, a, b, k⟩ n with h | h | h | h | h | h | h | h | h | h | h | h
  · obtain ⟨h1, h2⟩ := h
    have H2 := hide h2
    clear h2
    simp only at *
    go_enter Tryz.func61, Tryz.ntmps61
    go_wp2_with (go_at_call 76; refine (isRegister_any _ _).mono ?_; rintro e w' ⟨rfl, rfl⟩)
    go_ret
    exact ⟨ret_bool H2.out.symm, (Below.refl _ _).alloc (Nat.le_refl _) _⟩
  · obtain ⟨h1, h3, h2⟩ := h
    have H2 := hide h2
    clear h2
    simp only at *
    go_enter Tryz.func61, Tryz.ntmps61
    go_wp2_with (go_at_call 76; refine (isRegister_any _ _).mono ?_; rintro e w' ⟨rfl, rfl⟩)
    go_ret
    exact ⟨ret_bool H2.out.symm, (Below.refl _ _).alloc (Nat.le_refl _) _⟩
  · obtain ⟨h1, h3, h4, h2⟩ := h
    have H2 := hide h2
    clear h2
    simp only at *
    have r1 := isReg_low h4
    go_enter Tryz.func61, Tryz.ntmps61
    go_wp2_with (go_at_call 76; refine (isRegister_any _ _).mono ?_; rintro e w' ⟨rfl, rfl⟩)
    go_ret
    exact ⟨ret_bool H2.out.symm, (Below.refl _ _).alloc (Nat.le_refl _) _⟩
  · obtain ⟨h1, h3, h4, h5, h2⟩ := h
    have H2 := hide h2
    clear h2
    simp only at *
    have r1 := isReg_high h5
    go_enter Tryz.func61, Tryz.ntmps61
    go_wp2_with (go_at_call 76; refine (isRegister_any _ _).mono ?_; rintro e w' ⟨rfl, rfl⟩)
    go_ret
    exact ⟨ret_bool H2.out.symm, (Below.refl _ _).alloc (Nat.le_refl _) _⟩
  · obtain ⟨h1, h3, h4, h5, h6, h2⟩ := h
    have H2 := hide h2
    clear h2
    simp only at *
    have r1 := isReg_yes h4 h5
    have r2 := isReg_low h6
    go_enter Tryz.func61, Tryz.ntmps61
    go_wp2_with (go_at_call 76; refine (isRegister_any _ _).mono ?_; rintro e w' ⟨rfl, rfl⟩)
    go_ret
    exact ⟨ret_bool H2.out.symm, (Below.refl _ _).alloc (Nat.le_refl _) _⟩
  · obtain ⟨h1, h3, h4, h5, h6, h7, h2⟩ := h
    have H2 := hide h2
    clear h2
    simp only at *
    have r1 := isReg_yes h4 h5
    have r2 := isReg_high h7
    go_enter Tryz.func61, Tryz.ntmps61
    go_wp2_with (go_at_call 76; refine (isRegister_any _ _).mono ?_; rintro e w' ⟨rfl, rfl⟩)
    go_ret
    exact ⟨ret_bool H2.out.symm, (Below.refl _ _).alloc (Nat.le_refl _) _⟩
  · obtain ⟨h1, h3, h4, h5, h6, h7, h8, h2⟩ := h
    have H2 := hide h2
    clear h2
    simp only at *
    have r1 := isReg_yes h4 h5
    have r2 := isReg_yes h6 h7
    have r3 := isReg_low h8
    go_enter Tryz.func61, Tryz.ntmps61
    go_wp2_with (go_at_call 76; refine (isRegister_any _ _).mono ?_; rintro e w' ⟨rfl, rfl⟩)
    go_ret
    exact ⟨ret_bool H2.out.symm, (Below.refl _ _).alloc (Nat.le_refl _) _⟩
  · obtain ⟨h1, h3, h4, h5, h6, h7, h8, h9, h2⟩ := h
    have H2 := hide h2
    clear h2
    simp only at *
    have r1 := isReg_yes h4 h5
    have r2 := isReg_yes h6 h7
    have r3 := isReg_high h9
    go_enter Tryz.func61, Tryz.ntmps61
    go_wp2_with (go_at_call 76; refine (isRegister_any _ _).mono ?_; rintro e w' ⟨rfl, rfl⟩)
    go_ret
    exact ⟨ret_bool H2.out.symm, (Below.refl _ _).alloc (Nat.le_refl _) _⟩
  · obtain ⟨h1, h3, h4, h5, h6, h7, h8, h9, h2⟩ := h
    have H2 := hide h2
    clear h2
    simp only at *
    have r1 := isReg_yes h4 h5
    have r2 := isReg_yes h6 h7
    have r3 := isReg_yes h8 h9
    have t8 : (op != 8) = true := by simp; omega
    go_enter Tryz.func61, Tryz.ntmps61
    go_wp2_with (go_at_call 76; refine (isRegister_any _ _).mono ?_; rintro e w' ⟨rfl, rfl⟩)
    go_ret
    exact ⟨ret_bool H2.out.symm, (Below.refl _ _).alloc (Nat.le_refl _) _⟩
  · obtain ⟨h1, h4, h5, h6, h7, h8, h9, h3, h2⟩ := h
    have H2 := hide h2
    clear h2
    simp only at *
    have r1 := isReg_yes h4 h5
    have r2 := isReg_yes h6 h7
    have r3 := isReg_yes h8 h9
    subst h1
    go_enter Tryz.func61, Tryz.ntmps61
    go_wp2_with (go_at_call 76; refine (isRegister_any _ _).mono ?_; rintro e w' ⟨rfl, rfl⟩)
    go_ret
    exact ⟨ret_bool H2.out.symm, (Below.refl _ _).alloc (Nat.le_refl _) _⟩
  · obtain ⟨h1, h4, h5, h6, h7, h8, h9, h3, h10, h2⟩ := h
    have H2 := hide h2
    clear h2
    simp only at *
    have r1 := isReg_yes h4 h5
    have r2 := isReg_yes h6 h7
    have r3 := isReg_yes h8 h9
    subst h1
    have tk : decide (k < n) = false := decide_eq_false (by omega)
    go_enter Tryz.func61, Tryz.ntmps61
    go_wp2_with (go_at_call 76; refine (isRegister_any _ _).mono ?_; rintro e w' ⟨rfl, rfl⟩)
    go_ret
    exact ⟨ret_bool H2.out.symm, (Below.refl _ _).alloc (Nat.le_refl _) _⟩
  · obtain ⟨h1, h4, h5, h6, h7, h8, h9, h3, h10, h2⟩ := h
    have H2 := hide h2
    clear h2
    simp only at *
    have r1 := isReg_yes h4 h5
    have r2 := isReg_yes h6 h7
    have r3 := isReg_yes h8 h9
    subst h1
    go_enter Tryz.func61, Tryz.ntmps61
    go_wp2_with (go_at_call 76; refine (isRegister_any _ _).mono ?_; rintro e w' ⟨rfl, rfl⟩)
    go_ret
    exact ⟨ret_bool H2.out.symm, (Below.refl _ _).alloc (Nat.le_refl _) _⟩

end Go.Proofs.YtmeiogoodbnkkaaGreat

/- What is a program: the code's loop. -/
namespace Go.Proofs.YtmeiogoodbnkkaaGreat
open Go.RowKit

set_option maxHeartbeats 1000000 in
theorem codeProg_any (p : Option Addr) (c : Nat) (l : List Ord) (w : World) (hp : RdO w p l) (hlen : (l.length : Int) ≤ 1000000000000000) :
    Calls Tryz.prog 41 #[.slice p l.length c] w fun e w' => e = .returned (.bool (isProg l)) ∧ Below w.heap.size w w' := by
  have HP := hide hp
  clear hp
  by_cases h1 : l.length < 1
  · have t1 : ((l.length : Int) < 1) := by omega
    go_enter Tryz.func41, Tryz.ntmps41
    go_wp2
    go_ret
    exact ⟨ret_bool (isProg_size (by omega)).symm, Below.refl _ _⟩
  · by_cases h2 : 40 < l.length
    · have t1 : ¬ ((l.length : Int) < 1) := by omega
      have t2 : ((40 : Int) < (l.length : Int)) := by omega
      go_enter Tryz.func41, Tryz.ntmps41
      go_wp2
      go_ret
      exact ⟨ret_bool (isProg_size (by omega)).symm, Below.refl _ _⟩
    · have t1 : ¬ ((l.length : Int) < 1) := by omega
      have t2 : ¬ ((40 : Int) < (l.length : Int)) := by omega
      go_enter Tryz.func41, Tryz.ntmps41
      go_wp2
      go_loopw [15] (fun i wr => ∃ k : Nat, k ≤ l.length ∧ i = .int .i64 k ∧ Hid (∀ j, j < k → isOrd (l.getD j Ord.none) l.length = true) ∧ Below w.heap.size w wr) (fun i _ => l.length - (intOf i).toNat)
      case atStart => exact ⟨0, Nat.zero_le _, rfl, fun j hj => absurd hj (Nat.not_lt_zero j), Below.refl _ _⟩
      case round =>
        obtain ⟨k, hk, rfl, hs, hbel⟩ := hrel
        by_cases hkl : k < l.length
        · obtain ⟨b, off, rfl, hbw, c0, c1, c2, c3, c4⟩ := HP.out.at hkl
          have d0 := (hbel.cell (p := ⟨b, off + k * 5, none⟩) hbw).trans c0
          have d1 := (hbel.cell (p := ⟨b, off + k * 5 + 1, none⟩) hbw).trans c1
          have d2 := (hbel.cell (p := ⟨b, off + k * 5 + 2, none⟩) hbw).trans c2
          have d3 := (hbel.cell (p := ⟨b, off + k * 5 + 3, none⟩) hbw).trans c3
          have d4 := (hbel.cell (p := ⟨b, off + k * 5 + 4, none⟩) hbw).trans c4
          clear c0 c1 c2 c3 c4
          have hsz := hbel.size
          obtain ⟨o, ho⟩ : ∃ o, o = l.getD k Ord.none := ⟨_, rfl⟩
          rw [← ho] at d0 d1 d2 d3 d4
          have HO := hide ho
          clear ho
          cases hio : isOrd o l.length with
          | false =>
            have hio' : isOrd ⟨o.op, o.d, o.a, o.b, o.k⟩ l.length = false := hio
            have HIO := hide hio
            clear hio
            go_wp2_with (go_at_call 61; refine (isOrder_any _ _ _ _ _ _ _).mono ?_; rintro e w1 ⟨rfl, hb1⟩)
            go_ret
            refine ⟨ret_bool (isProg_no hkl (by rw [← HO.out]; exact HIO.out)).symm, ?_⟩
            exact ((hbel.alloc hsz _).trans (hb1.mono (by simp; omega)))
          | true =>
            have hio' : isOrd ⟨o.op, o.d, o.a, o.b, o.k⟩ l.length = true := hio
            have HIO := hide hio
            clear hio
            go_wp2_with (go_at_call 61; refine (isOrder_any _ _ _ _ _ _ _).mono ?_; rintro e w1 ⟨rfl, hb1⟩)
            go_roundw
            case rel =>
              refine ⟨k + 1, by omega, by go_num, fun j hj => ?_, ((hbel.alloc hsz _).trans (hb1.mono (by simp; omega)))⟩
              by_cases e : j = k
              · subst e; rw [← HO.out]; exact HIO.out
              · exact hs.out j (by omega)
            case measure => simp [intOf]; omega
        · go_wp2
          go_ret
          exact ⟨ret_bool (isProg_yes (by omega) fun j hj => hs.out j (by omega)).symm, hbel⟩

end Go.Proofs.YtmeiogoodbnkkaaGreat
