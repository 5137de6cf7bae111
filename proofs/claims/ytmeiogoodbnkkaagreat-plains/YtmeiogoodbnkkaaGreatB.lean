/- Lists held against each other. -/
import Derived.Test.YtmeiogoodbnkkaaGreatRows
import Derived.Test.YtmeiogoodbnkkaaGreatL
import Derived.WalkKit
import Derived.WalkSpells
import Derived.WalkLawsBesides
import Derived.Deep.QuietTactic
import Derived.BigQuiet
namespace Go.Proofs.YtmeiogoodbnkkaaGreat
open Go.RowKit

set_option maxHeartbeats 400000 in
theorem sameWords_any (pa pb : Option Addr) (ca cb : Nat) (la lb : List Int) (w : World) (ha : Rd w pa la) (hb : Rd w pb lb) (hla : la.length ≤ 1000000) (hlb : lb.length ≤ 1000000) :
    Calls Tryz.prog 31 #[.slice pa la.length ca, .slice pb lb.length cb] w fun e w' => e = .returned (.bool (decide (la = lb))) ∧ ∃ n, w' = w.drewN n := by
  by_cases hl : la.length = lb.length
  · have HA : Hid (Rd w pa la) := ha
    have HB : Hid (Rd w pb lb) := hb
    clear ha hb
    have hlt : ((la.length : Int) != (lb.length : Int)) = false := by simp [hl]
    have HL : Hid (la.length = lb.length) := hl
    clear hl
    go_enter Tryz.func31, Tryz.ntmps31
    go_wp2
    go_loopw [5] (fun i wr => ∃ k : Nat, k ≤ la.length ∧ i = .int .i64 k ∧ (∀ j, j < k → la.getD j 0 = lb.getD j 0) ∧ ∃ n, wr = w.drewN n) (fun i _ => la.length - (intOf i).toNat)
    case atStart => exact ⟨0, Nat.zero_le _, rfl, by omega, 0, rfl⟩
    case round =>
      obtain ⟨k, hk, rfl, hs, n, rfl⟩ := hrel
      have HS := hide hs
      clear hs
      by_cases hkl : k < la.length
      · obtain ⟨b, off, rfl, hbw, hc⟩ := HA.out.at hkl
        obtain ⟨b', off', rfl, hbw', hc'⟩ := HB.out.at (i := k) (by rw [← HL.out]; exact hkl)
        have h1 := hc k hkl
        have hkl2 : k < lb.length := by rw [← HL.out]; exact hkl
        have h2 := hc' k hkl2
        clear hc hc'
        go_wp2
        go_quiet (fail)
        go_wp2
        · have hne : (la[k] != lb[k]) = true := by assumption
          go_ret
          refine ⟨ret_bool ?_, n + nq, by simp⟩
          symm
          apply decide_eq_false
          rintro rfl
          simp at hne
        · have hne : (la[k] != lb[k]) = false := by assumption
          go_roundw
          case rel =>
            refine ⟨k + 1, by omega, by go_num, ?_, n + nq, rfl⟩
            intro j hj
            by_cases e : j = k
            · subst e
              simp [List.getD_eq_getElem?_getD, hkl, hkl2]
              simpa using hne
            · exact HS.out j (by omega)
          case measure => simp [intOf]; omega
      · go_wp2
        go_ret
        refine ⟨ret_bool ?_, n, rfl⟩
        symm
        exact decide_eq_true (list_ext_getD HL.out fun j hj => HS.out j (by omega))
  · have hlt : ((la.length : Int) != (lb.length : Int)) = true := by simp; omega
    have HL := hide hl
    clear hl
    go_enter Tryz.func31, Tryz.ntmps31
    go_wp2
    go_ret
    refine ⟨ret_bool ?_, 0, rfl⟩
    symm
    apply decide_eq_false
    rintro rfl
    exact HL.out rfl

end Go.Proofs.YtmeiogoodbnkkaaGreat
