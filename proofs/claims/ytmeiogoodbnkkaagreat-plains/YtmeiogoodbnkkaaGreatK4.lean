/- The book is looked at: those that were marked read as their owner wrote them. -/
import Derived.Test.YtmeiogoodbnkkaaGreatK3
import Derived.Test.YtmeiogoodbnkkaaGreatA
namespace Go.Proofs.YtmeiogoodbnkkaaGreat
open Go.RowKit

set_option maxRecDepth 100000 in
set_option maxHeartbeats 4000000 in
theorem reads_any (B bb : Nat) (wv aw ew : Value) (ms : List (Value × Nat)) (av es : List Value) (ys : List (Value × Value × List Int)) (w : World)
    (hb : Bk w B bb wv aw ew ms av es ys) (hl : ms.length ≤ 1000) :
    Calls Tryz.prog 25 #[.pointer (some ⟨bb, 0, none⟩)] w fun e w' => e = .returned (.bool true) ∧ ∃ n, w' = w.drewN n := by
  obtain ⟨c0, c1, c2, c3, c4, c5, cf⟩ := bk_cells hb rfl
  obtain ⟨pa, ca, ha, hpa⟩ := row_at hb.words
  subst ha
  have HPA := hide hpa
  have HB := hide hb
  clear hb hpa c2 c3 c4 c5 cf
  go_enter Tryz.func25, Tryz.ntmps25
  go_wp2
  go_loopw [3, 4] (fun ok i wr => ∃ k : Nat, k ≤ ms.length ∧ ok = .bool true ∧ i = .int .i64 k ∧ ∃ n, wr = w.drewN n) (fun _ i _ => ms.length - (intOf i).toNat)
  case atStart => exact ⟨0, Nat.zero_le _, rfl, rfl, 0, rfl⟩
  case round =>
    obtain ⟨k, hk, rfl, rfl, n, hwr⟩ := hrel
    rename World => wo
    have hcw : ∀ a, wo.cell? a = w.cell? a := fun a => by rw [hwr]; rfl
    have b0 : wo.cell? ⟨bb, 0, none⟩ = some (.slice pa ms.length ca) := (hcw _).trans c0
    have b1 : wo.cell? ⟨bb, 1, none⟩ = some (.slice none 0 0) := (hcw _).trans c1
    by_cases hlt : k < ms.length
    · obtain ⟨ga, hga, d1⟩ := HPA.out k hlt
      subst hga
      have hmk := HB.out.marks k ms[k].1 ms[k].2 (by simp [hlt])
      have hsz := HB.out.sizes ms[k] (List.getElem_mem hlt)
      obtain ⟨p1, cc1, h1, r1⟩ := hmk.slice
      have d1' : wo.cell? ⟨ga, k, none⟩ = some (.slice p1 ms[k].2 cc1) := by rw [hcw, d1]; simp [hlt, h1]
      have r1 : Rd wo p1 (List.replicate ms[k].2 (-1000003 - ((k / 4 : Nat) : Int))) := by rw [hwr]; exact r1.drewN n
      have hk4 : ((k / 4 : Nat) : Int) = (k : Int) / 4 := by omega
      rw [hk4] at r1
      obtain ⟨m, hm⟩ : ∃ m, m = ms[k].2 := ⟨_, rfl⟩
      rw [← hm] at d1' r1 hsz
      have R1 := hide r1
      have t1 : (k : Int) < (ms.length : Int) := by omega
      have HWR := hide hwr
      clear d1 h1 r1 hmk hwr hcw hm hk4
      go_wp2
      go_loopw [3, 5] (fun ok i wr => ∃ j : Nat, j ≤ m ∧ ok = .bool true ∧ i = .int .i64 j ∧ ∃ n', wr = wo.drewN n') (fun _ i _ => m - (intOf i).toNat)
      case atStart => exact ⟨0, Nat.zero_le _, rfl, rfl, 0, rfl⟩
      case round =>
        obtain ⟨j, hj, rfl, rfl, n', hwq⟩ := hrel
        have hcq : ∀ a, wr.cell? a = wo.cell? a := fun a => by rw [hwq]; rfl
        have f0 : wr.cell? ⟨bb, 0, none⟩ = some (.slice (some ⟨ga, 0, none⟩) ms.length ca) := (hcq _).trans b0
        have f1 : wr.cell? ⟨ga, k, none⟩ = some (.slice p1 m cc1) := (hcq _).trans d1'
        by_cases hjl : j < m
        · obtain ⟨gb, off, hp, _, hc⟩ := R1.out.at (i := j) (by simp; omega)
          subst hp
          have f2 : wr.cell? ⟨gb, off + j, none⟩ = some (.int .i64 (-1000003 - (k : Int) / 4)) := by
            rw [hcq, hc j (by simp; omega)]
            simp [List.getD_eq_getElem?_getD, hjl]
          have t2 : (j : Int) < (m : Int) := by omega
          have t3 : ((-1000003 - (k : Int) / 4) == (-1000003 - (k : Int) / 4)) = true := by simp
          have HWQ := hide hwq
          clear hcq hwq hc
          go_wp2
          go_quiet ((go_at_call 40; exact Calls.quiet_of_same (word_any _ _ (by omega) (by omega))))
          go_wp2
          go_roundw
          case rel => exact ⟨j + 1, by omega, rfl, by go_num, n' + nq, by rw [HWQ.out]; simp⟩
          case measure => simp [intOf]; omega
        · have t2 : ¬ (j : Int) < (m : Int) := by omega
          have HWQ := hide hwq
          clear hcq hwq
          go_wp2
          go_roundw
          case rel => exact ⟨k + 1, by omega, rfl, by go_num, n + n', by rw [HWQ.out, HWR.out]; simp⟩
          case measure => simp [intOf]; omega
    · have t1 : ¬ (k : Int) < (ms.length : Int) := by omega
      subst hwr
      clear hcw
      go_wp2
      go_loopw [3, 6] (fun ok i wr => ok = .bool true ∧ i = .int .i64 0 ∧ ∃ n, wr = w.drewN n) (fun _ _ _ => 0)
      case atStart => exact ⟨rfl, rfl, n, rfl⟩
      case round =>
        obtain ⟨rfl, rfl, n', rfl⟩ := hrel
        go_wp2
        go_ret
        exact ⟨rfl, n', rfl⟩

end Go.Proofs.YtmeiogoodbnkkaaGreat
