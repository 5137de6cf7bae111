/- Several texts in one: E, B. -/
import Derived.Test.YtmeiogoodbnkkaaGreatCCD
import Derived.Test.YtmeiogoodbnkkaaGreatRows
import Derived.Test.YtmeiogoodbnkkaaGreatCLPM
import Derived.WalkKit
import Derived.WalkSpells
import Derived.WalkLawsBesides
import Derived.Deep.QuietTactic
import Derived.BigQuiet
/- What is a program: the document's loop. -/
namespace Go.Proofs.YtmeiogoodbnkkaaGreat
open Go.RowKit

set_option maxHeartbeats 4000000 in
theorem refProg_any (p : Option Addr) (c : Nat) (l : List Ord) (w : World) (hp : RdO w p l) (hlen : (l.length : Int) ≤ 1000000000000000) :
    Calls Tryz.prog 44 #[.slice p l.length c] w fun e w' => e = .returned (.bool (isProg l)) ∧ Below w.heap.size w w' := by
  have HP := hide hp
  clear hp
  by_cases h1 : l.length < 1
  · have t1 : ((l.length : Int) < 1) := by omega
    go_enter Tryz.func44, Tryz.ntmps44
    go_wp2
    go_ret
    exact ⟨ret_bool (isProg_size (by omega)).symm, Below.refl _ _⟩
  · by_cases h2 : 40 < l.length
    · have t1 : ¬ ((l.length : Int) < 1) := by omega
      have t2 : ((40 : Int) < (l.length : Int)) := by omega
      go_enter Tryz.func44, Tryz.ntmps44
      go_wp2
      go_ret
      exact ⟨ret_bool (isProg_size (by omega)).symm, Below.refl _ _⟩
    · have t1 : ¬ ((l.length : Int) < 1) := by omega
      have t2 : ¬ ((40 : Int) < (l.length : Int)) := by omega
      go_enter Tryz.func44, Tryz.ntmps44
      go_wp2
      go_loopw [3] (fun i wr => ∃ k : Nat, k ≤ l.length ∧ i = .int .i64 k ∧ Hid (∀ j, j < k → isOrd (l.getD j Ord.none) l.length = true) ∧ Below w.heap.size w wr) (fun i _ => l.length - (intOf i).toNat)
      case atStart => exact ⟨0, Nat.zero_le _, rfl, fun j hj => absurd hj (Nat.not_lt_zero j), Below.refl _ _⟩
      case round =>
        obtain ⟨k, hk, rfl, hs, hbel⟩ := hrel
        by_cases hkl : k < l.length
        · obtain ⟨b, off, rfl, hbw, c0, c1, c2, c3, c4⟩ := HP.out.at hkl
          have d0 := (hbel.cell (p := ⟨b, off + k * 5, none⟩) hbw).trans c0
          have d1 := (hbel.cell (p := ⟨b, off + k * 5 + 1, none⟩) hbw).trans c1
          have d2 := (hbel.cell (p := ⟨b, off + k * 5 + 2, none⟩) hbw).trans c2
          have d3 := (hbel.cell (p := ⟨b, off + k * 5 + 3, none⟩) hbw).trans c3
          have d4 := (hbel.cell (p := ⟨b, off + k * 5 + 4, none⟩) hbw).trans c4
          clear c0 c1 c2 c3 c4
          have hsz := hbel.size
          obtain ⟨o, ho⟩ : ∃ o, o = l.getD k Ord.none := ⟨_, rfl⟩
          rw [← ho] at d0 d1 d2 d3 d4
          have HO := hide ho
          clear ho
          obtain ⟨op, d, a, b', ko⟩ := o
          rcases ord_ways ⟨op, d, a, b', ko⟩ l.length with h | h | h | h | h | h | h | h | h | h | h | h
          · obtain ⟨h1, h2⟩ := h
            have H2 := hide h2
            clear h2
            simp only at h1 d0 d1 d2 d3 d4
            go_wp2
            go_ret
            exact ⟨ret_bool (isProg_no hkl (by rw [← HO.out]; exact H2.out)).symm, hbel.alloc hsz _⟩
          · obtain ⟨h1, h3, h2⟩ := h
            have H2 := hide h2
            clear h2
            simp only at h1 d0 d1 d2 d3 d4 h3
            go_wp2
            go_ret
            exact ⟨ret_bool (isProg_no hkl (by rw [← HO.out]; exact H2.out)).symm, hbel.alloc hsz _⟩
          · obtain ⟨h1, h3, h4, h2⟩ := h
            have H2 := hide h2
            clear h2
            simp only at h1 d0 d1 d2 d3 d4 h3 h4
            go_wp2
            go_ret
            exact ⟨ret_bool (isProg_no hkl (by rw [← HO.out]; exact H2.out)).symm, hbel.alloc hsz _⟩
          · obtain ⟨h1, h3, h4, h5, h2⟩ := h
            have H2 := hide h2
            clear h2
            simp only at h1 d0 d1 d2 d3 d4 h3 h4 h5
            go_wp2
            go_ret
            exact ⟨ret_bool (isProg_no hkl (by rw [← HO.out]; exact H2.out)).symm, hbel.alloc hsz _⟩
          · obtain ⟨h1, h3, h4, h5, h6, h2⟩ := h
            have H2 := hide h2
            clear h2
            simp only at h1 d0 d1 d2 d3 d4 h3 h4 h5 h6
            go_wp2
            go_ret
            exact ⟨ret_bool (isProg_no hkl (by rw [← HO.out]; exact H2.out)).symm, hbel.alloc hsz _⟩
          · obtain ⟨h1, h3, h4, h5, h6, h7, h2⟩ := h
            have H2 := hide h2
            clear h2
            simp only at h1 d0 d1 d2 d3 d4 h3 h4 h5 h6 h7
            go_wp2
            go_ret
            exact ⟨ret_bool (isProg_no hkl (by rw [← HO.out]; exact H2.out)).symm, hbel.alloc hsz _⟩
          · obtain ⟨h1, h3, h4, h5, h6, h7, h8, h2⟩ := h
            have H2 := hide h2
            clear h2
            simp only at h1 d0 d1 d2 d3 d4 h3 h4 h5 h6 h7 h8
            go_wp2
            go_ret
            exact ⟨ret_bool (isProg_no hkl (by rw [← HO.out]; exact H2.out)).symm, hbel.alloc hsz _⟩
          · obtain ⟨h1, h3, h4, h5, h6, h7, h8, h9, h2⟩ := h
            have H2 := hide h2
            clear h2
            simp only at h1 d0 d1 d2 d3 d4 h3 h4 h5 h6 h7 h8 h9
            go_wp2
            go_ret
            exact ⟨ret_bool (isProg_no hkl (by rw [← HO.out]; exact H2.out)).symm, hbel.alloc hsz _⟩
          · obtain ⟨h1, h3, h4, h5, h6, h7, h8, h9, h2⟩ := h
            have H2 := hide h2
            clear h2
            simp only at h1 d0 d1 d2 d3 d4 h3 h4 h5 h6 h7 h8 h9
            have t8 : (op == 8) = false := by simp; omega
            go_wp2
            go_roundw
            case rel =>
              refine ⟨k + 1, by omega, by go_num, fun j hj => ?_, hbel.alloc hsz _⟩
              by_cases e : j = k
              · rw [e, ← HO.out]; exact H2.out
              · exact hs.out j (by omega)
            case measure => simp [intOf]; omega
          · obtain ⟨h1, h4, h5, h6, h7, h8, h9, h3, h2⟩ := h
            have H2 := hide h2
            clear h2
            simp only at h1 d0 d1 d2 d3 d4 h3 h4 h5 h6 h7 h8 h9
            subst h1
            go_wp2
            go_ret
            exact ⟨ret_bool (isProg_no hkl (by rw [← HO.out]; exact H2.out)).symm, hbel.alloc hsz _⟩
          · obtain ⟨h1, h4, h5, h6, h7, h8, h9, h3, h10, h2⟩ := h
            have H2 := hide h2
            clear h2
            simp only at h1 d0 d1 d2 d3 d4 h3 h4 h5 h6 h7 h8 h9 h10
            subst h1
            go_wp2
            go_ret
            exact ⟨ret_bool (isProg_no hkl (by rw [← HO.out]; exact H2.out)).symm, hbel.alloc hsz _⟩
          · obtain ⟨h1, h4, h5, h6, h7, h8, h9, h3, h10, h2⟩ := h
            have H2 := hide h2
            clear h2
            simp only at h1 d0 d1 d2 d3 d4 h3 h4 h5 h6 h7 h8 h9 h10
            subst h1
            go_wp2
            go_roundw
            case rel =>
              refine ⟨k + 1, by omega, by go_num, fun j hj => ?_, hbel.alloc hsz _⟩
              by_cases e : j = k
              · rw [e, ← HO.out]; exact H2.out
              · exact hs.out j (by omega)
            case measure => simp [intOf]; omega
        · go_wp2
          go_ret
          exact ⟨ret_bool (isProg_yes (by omega) fun j hj => hs.out j (by omega)).symm, hbel⟩

end Go.Proofs.YtmeiogoodbnkkaaGreat

/- Lists held against each other. -/
namespace Go.Proofs.YtmeiogoodbnkkaaGreat
open Go.RowKit

set_option maxHeartbeats 400000 in
theorem sameWords_any (pa pb : Option Addr) (ca cb : Nat) (la lb : List Int) (w : World) (ha : Rd w pa la) (hb : Rd w pb lb) (hla : la.length ≤ 1000000) (hlb : lb.length ≤ 1000000) :
    Calls Tryz.prog 31 #[.slice pa la.length ca, .slice pb lb.length cb] w fun e w' => e = .returned (.bool (decide (la = lb))) ∧ ∃ n, w' = w.drewN n := by
  by_cases hl : la.length = lb.length
  · have HA : Hid (Rd w pa la) := ha
    have HB : Hid (Rd w pb lb) := hb
    clear ha hb
    have hlt : ((la.length : Int) != (lb.length : Int)) = false := by simp [hl]
    have HL : Hid (la.length = lb.length) := hl
    clear hl
    go_enter Tryz.func31, Tryz.ntmps31
    go_wp2
    go_loopw [5] (fun i wr => ∃ k : Nat, k ≤ la.length ∧ i = .int .i64 k ∧ (∀ j, j < k → la.getD j 0 = lb.getD j 0) ∧ ∃ n, wr = w.drewN n) (fun i _ => la.length - (intOf i).toNat)
    case atStart => exact ⟨0, Nat.zero_le _, rfl, by omega, 0, rfl⟩
    case round =>
      obtain ⟨k, hk, rfl, hs, n, rfl⟩ := hrel
      have HS := hide hs
      clear hs
      by_cases hkl : k < la.length
      · obtain ⟨b, off, rfl, hbw, hc⟩ := HA.out.at hkl
        obtain ⟨b', off', rfl, hbw', hc'⟩ := HB.out.at (i := k) (by rw [← HL.out]; exact hkl)
        have h1 := hc k hkl
        have hkl2 : k < lb.length := by rw [← HL.out]; exact hkl
        have h2 := hc' k hkl2
        clear hc hc'
        go_wp2
        go_quiet (fail)
        go_wp2
        · have hne : (la[k] != lb[k]) = true := by assumption
          go_ret
          refine ⟨ret_bool ?_, n + nq, by simp⟩
          symm
          apply decide_eq_false
          rintro rfl
          simp at hne
        · have hne : (la[k] != lb[k]) = false := by assumption
          go_roundw
          case rel =>
            refine ⟨k + 1, by omega, by go_num, ?_, n + nq, rfl⟩
            intro j hj
            by_cases e : j = k
            · subst e
              simp [List.getD_eq_getElem?_getD, hkl, hkl2]
              simpa using hne
            · exact HS.out j (by omega)
          case measure => simp [intOf]; omega
      · go_wp2
        go_ret
        refine ⟨ret_bool ?_, n, rfl⟩
        symm
        exact decide_eq_true (list_ext_getD HL.out fun j hj => HS.out j (by omega))
  · have hlt : ((la.length : Int) != (lb.length : Int)) = true := by simp; omega
    have HL := hide hl
    clear hl
    go_enter Tryz.func31, Tryz.ntmps31
    go_wp2
    go_ret
    refine ⟨ret_bool ?_, 0, rfl⟩
    symm
    apply decide_eq_false
    rintro rfl
    exact HL.out rfl

end Go.Proofs.YtmeiogoodbnkkaaGreat
