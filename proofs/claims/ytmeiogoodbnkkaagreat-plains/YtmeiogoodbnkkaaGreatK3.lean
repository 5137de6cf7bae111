/- The book is looked at: those that wait read the same. -/
import Derived.Test.YtmeiogoodbnkkaaGreatK2
import Derived.Test.YtmeiogoodbnkkaaGreatB
namespace Go.Proofs.YtmeiogoodbnkkaaGreat
open Go.RowKit

theorem row_at {w : World} {B : Nat} {e : TypeId} {v : Value} {n : Nat} {xs : List Value} (h : w.ownsRow B e 1 v n xs) : ∃ p c, v = .slice p n c ∧ ∀ k, k < n → ∃ g, p = some ⟨g, 0, none⟩ ∧ w.cell? ⟨g, k, none⟩ = xs[k]? := by
  have hlen : xs.length = n := by simpa using h.1
  rcases h.2 with ⟨rfl, rfl⟩ | ⟨g, cap, cur, rfl, _, hh, hc, _, hs, ht⟩
  · exact ⟨none, 0, rfl, fun k hk => by omega⟩
  · refine ⟨_, cap, rfl, fun k hk => ⟨g, rfl, ?_⟩⟩
    rw [cell_of_row w g k _ _ _ hh, ← ht, Nat.mul_one, List.getElem?_take_of_lt hk]
    simp

theorem same_self (pa pb : Option Addr) (ca cb : Nat) (l : List Int) (w : World) (ha : Rd w pa l) (hb : Rd w pb l) (hl : l.length ≤ 1000000) :
    Calls Tryz.prog 31 #[.slice pa l.length ca, .slice pb l.length cb] w fun e w' => e = .returned (.bool true) ∧ ∃ n, w' = w.drewN n := by
  have := sameWords_any pa pb ca cb l l w ha hb hl hl
  simpa using this

theorem Rd.drewN {w : World} {p : Option Addr} {l : List Int} (h : Rd w p l) (n : Nat) : Rd (w.drewN n) p l := h.below (Nat.le_refl _) (below_drewN (Below.refl _ _) n)

set_option maxRecDepth 100000 in
set_option maxHeartbeats 4000000 in
theorem waits_any (B bb : Nat) (wv aw ew : Value) (ms : List (Value × Nat)) (ys : List (Value × Value × List Int)) (w : World)
    (hb : Bk w B bb wv aw ew ms (ys.map (·.1)) (ys.map (·.2.1)) ys) (hl : ys.length ≤ 1000) :
    Calls Tryz.prog 22 #[.pointer (some ⟨bb, 0, none⟩)] w fun e w' => e = .returned (.bool true) ∧ ∃ n, w' = w.drewN n := by
  obtain ⟨c0, c1, c2, c3, c4, c5, cf⟩ := bk_cells hb rfl
  obtain ⟨pa, ca, ha, hpa⟩ := row_at hb.wait
  obtain ⟨pe, ce, he, hpe⟩ := row_at hb.were
  subst ha
  subst he
  simp only [List.length_map] at hpa hpe c2 c3
  have HPA := hide hpa
  have HPE := hide hpe
  have HB := hide hb
  clear hb hpa hpe c0 c1 c5 cf
  go_enter Tryz.func22, Tryz.ntmps22
  go_wp2
  go_loopw [3, 4] (fun ok i wr => ∃ k : Nat, k ≤ ys.length ∧ ok = .bool true ∧ i = .int .i64 k ∧ ∃ n, wr = w.drewN n) (fun _ i _ => ys.length - (intOf i).toNat)
  case atStart => exact ⟨0, Nat.zero_le _, rfl, rfl, 0, rfl⟩
  case round =>
    obtain ⟨k, hk, rfl, rfl, n, hwr⟩ := hrel
    have hcw : ∀ a, wr.cell? a = w.cell? a := fun a => by rw [hwr]; rfl
    have b2 : wr.cell? ⟨bb, 2, none⟩ = some (.slice pa ys.length ca) := (hcw _).trans c2
    have b3 : wr.cell? ⟨bb, 3, none⟩ = some (.slice pe ys.length ce) := (hcw _).trans c3
    have b4 : wr.cell? ⟨bb, 4, none⟩ = some (.slice none 0 0) := (hcw _).trans c4
    by_cases hlt : k < ys.length
    · obtain ⟨ga, hga, d1⟩ := HPA.out k hlt
      obtain ⟨ge, hge, d2⟩ := HPE.out k hlt
      subst hga
      subst hge
      obtain ⟨e1, e2, e3⟩ := HB.out.each ys[k] (List.getElem_mem hlt)
      obtain ⟨p1, c1, h1, r1⟩ := e1.slice
      obtain ⟨p2, c2', h2, r2⟩ := e2.slice
      have d1' : wr.cell? ⟨ga, k, none⟩ = some (.slice p1 ys[k].2.2.length c1) := by rw [hcw, d1]; simp [hlt, h1]
      have d2' : wr.cell? ⟨ge, k, none⟩ = some (.slice p2 ys[k].2.2.length c2') := by rw [hcw, d2]; simp [hlt, h2]
      have r1 : Rd wr p1 ys[k].2.2 := by rw [hwr]; exact r1.drewN n
      have r2 : Rd wr p2 ys[k].2.2 := by rw [hwr]; exact r2.drewN n
      have HWR := hide hwr
      clear hwr hcw
      obtain ⟨l, hll⟩ : ∃ l, l = ys[k].2.2 := ⟨_, rfl⟩
      rw [← hll] at d1' d2' r1 r2 e3
      have R1 := hide r1
      have R2 := hide r2
      have t1 : (k : Int) < (ys.length : Int) := by omega
      clear d1 d2 h1 h2 r1 r2 e1 e2 hll
      go_wp2
      go_quiet ((go_at_call 31; refine Calls.quiet_of (same_self _ _ _ _ _ _ (R1.out.drewN _) (R2.out.drewN _) (by omega))))
      go_wp2
      go_roundw
      case rel => exact ⟨k + 1, by omega, rfl, by go_num, n + nq, by rw [HWR.out]; simp⟩
      case measure => simp [intOf]; omega
    · have t1 : ¬ (k : Int) < (ys.length : Int) := by omega
      subst hwr
      clear hcw
      go_wp2
      go_loopw [3, 6] (fun ok i wr => ok = .bool true ∧ i = .int .i64 0 ∧ ∃ n, wr = w.drewN n) (fun _ _ _ => 0)
      case atStart => exact ⟨rfl, rfl, n, rfl⟩
      case round =>
        obtain ⟨rfl, rfl, n', rfl⟩ := hrel
        go_wp2
        go_ret
        exact ⟨rfl, n', rfl⟩

end Go.Proofs.YtmeiogoodbnkkaaGreat
