/- Orders handed in, looked at afterwards. -/
import Derived.Test.YtmeiogoodbnkkaaGreatCUH3
import Derived.Deep.QuietTactic
import Derived.BigQuiet
namespace Go.Proofs.YtmeiogoodbnkkaaGreat
open Go.RowKit

theorem grown_alloc {w w' : World} {r : Option Nat} (h : w.grownBy w' r) (o : Obj) : w.grownBy (w'.alloc o) r :=
  ⟨h.os, h.tape, h.output, by simp; have := h.size; omega, fun k hk hne => by rw [Below.heap_alloc _ _ _ (Nat.lt_of_lt_of_le hk h.size)]; exact h.block k hk hne⟩

theorem grown_drewN {w w' : World} {r : Option Nat} (h : w.grownBy w' r) (n : Nat) : w.grownBy (w'.drewN n) r := ⟨h.os, h.tape, h.output, h.size, h.block⟩

set_option maxRecDepth 100000 in
set_option maxHeartbeats 4000000 in
theorem untouchedOrders_any (g : Nat) (p : Option Addr) (c : Nat) (l : List Ord) (w : World) (h : RdO w p l) (hh : HandO w g l) (hne : l ≠ [] → NotIn p g) (hl : l.length * 40 ≤ 140737488351232) :
    Calls Tryz.prog 19 #[.slice (some ⟨g, 0, none⟩) l.length (l.length + 8), .slice p l.length c] w fun e w' => e = .returned (.bool true) ∧ w.grownBy w' (some g) := by
  have H := hide h
  have HH := hide hh
  have HNE := hide hne
  clear h hh hne
  go_enter Tryz.func19, Tryz.ntmps19
  go_wp2
  go_loopw [7, 8] (fun ok i wr => ∃ k : Nat, k ≤ l.length + 8 ∧ ok = .bool true ∧ i = .int .i64 k ∧ Hid (∃ cur : Array Value, wr.heap[g]? = some (.cells cur 40 (0, 0)) ∧ cur.size = (l.length + 8) * 5 ∧ (∀ i r, k ≤ i → i < l.length → r < 5 → cur[i * 5 + r]? = (ordCells (l.getD i Ord.none))[r]?) ∧
      (∀ i r, l.length ≤ i → k ≤ i → i < l.length + 8 → r < 5 → cur[i * 5 + r]? = (ordCells ⟨-5, 0, 0, 0, 0⟩)[r]?)) ∧ Hid (w.grownBy wr (some g)))
    (fun _ i _ => l.length + 8 - (intOf i).toNat)
  case atStart =>
    obtain ⟨cur, g1, g2, g3, g4⟩ := HH.out
    exact ⟨0, by omega, rfl, rfl, ⟨cur, g1, g2, fun i r _ hi hr => g3 i r hi hr, fun i r h1 _ h2 hr => g4 i r h1 h2 hr⟩, grown_refl _ _⟩
  case round =>
    obtain ⟨k, hk, rfl, rfl, hcur, hgr⟩ := hrel
    obtain ⟨cur, g1, g2, g3, g4⟩ := hcur.out
    clear hcur
    have hfro : ∀ j, wr.frozen? ⟨g, j, none⟩ = false := fun j => by simp [World.frozen?, g1]
    have hcell : ∀ j, wr.cell? ⟨g, j, none⟩ = cur[j]? := fun j => cell_of_row wr _ j _ _ _ g1
    have hgz : g < wr.heap.size := (Array.getElem?_eq_some_iff.1 g1).1
    have hng : ¬ wr.heap.size = g := by omega
    by_cases hlt : k < l.length
    · obtain ⟨b, off, rfl, hbw, c0, c1, c2, c3, c4⟩ := H.out.at hlt
      have hbg : b ≠ g := HNE.out (fun e => by rw [e] at hlt; exact absurd hlt (Nat.not_lt_zero _)) _ rfl
      have hbz : b < wr.heap.size := Nat.lt_of_lt_of_le hbw hgr.out.size
      have hnb : ¬ wr.heap.size = b := by omega
      rw [← grown_cell hgr.out hbw hbg] at c0 c1 c2 c3 c4
      have e0 := (hcell (k * 5 + 0)).trans (g3 k 0 (Nat.le_refl _) hlt (by omega))
      have e1 := (hcell (k * 5 + 1)).trans (g3 k 1 (Nat.le_refl _) hlt (by omega))
      have e2 := (hcell (k * 5 + 2)).trans (g3 k 2 (Nat.le_refl _) hlt (by omega))
      have e3 := (hcell (k * 5 + 3)).trans (g3 k 3 (Nat.le_refl _) hlt (by omega))
      have e4 := (hcell (k * 5 + 4)).trans (g3 k 4 (Nat.le_refl _) hlt (by omega))
      rw [Nat.add_zero] at e0
      obtain ⟨o, ho⟩ : ∃ o, o = l.getD k Ord.none := ⟨_, rfl⟩
      rw [← ho] at c0 c1 c2 c3 c4 e0 e1 e2 e3 e4
      obtain ⟨op, d, a, b', ko⟩ := o
      simp only [ordCells, List.getElem?_cons_zero, List.getElem?_cons_succ] at c0 c1 c2 c3 c4 e0 e1 e2 e3 e4
      have t1 : (k : Int) < (l.length : Int) + 8 := by omega
      have t2 : (k : Int) < (l.length : Int) := by omega
      have G1 := hide g1
      have G3 := hide g3
      have G4 := hide g4
      clear g1 g3 g4 ho hcell
      go_wp2
      go_quiet (fail)
      go_wp2
      go_roundw
      case rel =>
        have hX : ((wr.alloc (.cells #[.int .i64 op, .int .i64 d, .int .i64 a, .int .i64 b', .int .i64 ko] 40)).drewN nq).heap[g]? = some (.cells cur 40 (0, 0)) := (Below.heap_alloc _ _ _ hgz).trans G1.out
        obtain ⟨cur', s1, s2, s3, s4⟩ := set5 (.int .i64 1) (.int .i64 0) (.int .i64 0) (.int .i64 0) (.int .i64 99) hX (show k * 5 + 5 ≤ cur.size by omega)
        refine ⟨k + 1, by omega, rfl, by go_num, ⟨cur', s1, by omega, fun i r h1 h2 hr => ?_, fun i r h1 h2 h3 hr => ?_⟩, ?_⟩
        · rw [s3 _ (by omega)]; exact G3.out i r (by omega) h2 hr
        · rw [s3 _ (by omega)]; exact G4.out i r h1 (by omega) h3 hr
        · exact grown_set (grown_set (grown_set (grown_set (grown_set (grown_drewN (grown_alloc hgr.out _) _) _ _) _ _) _ _) _ _) _ _
      case measure => simp [intOf]; omega
    · by_cases hlt2 : k < l.length + 8
      · have e0 := (hcell (k * 5 + 0)).trans (g4 k 0 (by omega) (Nat.le_refl _) hlt2 (by omega))
        have e1 := (hcell (k * 5 + 1)).trans (g4 k 1 (by omega) (Nat.le_refl _) hlt2 (by omega))
        have e2 := (hcell (k * 5 + 2)).trans (g4 k 2 (by omega) (Nat.le_refl _) hlt2 (by omega))
        have e3 := (hcell (k * 5 + 3)).trans (g4 k 3 (by omega) (Nat.le_refl _) hlt2 (by omega))
        have e4 := (hcell (k * 5 + 4)).trans (g4 k 4 (by omega) (Nat.le_refl _) hlt2 (by omega))
        rw [Nat.add_zero] at e0
        simp only [ordCells, List.getElem?_cons_zero, List.getElem?_cons_succ] at e0 e1 e2 e3 e4
        have t1 : (k : Int) < (l.length : Int) + 8 := by omega
        have t2 : ¬ (k : Int) < (l.length : Int) := by omega
        have G1 := hide g1
        have G3 := hide g3
        have G4 := hide g4
        clear g1 g3 g4 hcell
        go_wp2
        go_quiet (fail)
        go_wp2
        go_roundw
        case rel =>
          have hX : ((wr.alloc (.cells #[.int .i64 (-5), .int .i64 0, .int .i64 0, .int .i64 0, .int .i64 0] 40)).drewN nq).heap[g]? = some (.cells cur 40 (0, 0)) := (Below.heap_alloc _ _ _ hgz).trans G1.out
          obtain ⟨cur', s1, s2, s3, s4⟩ := set5 (.int .i64 1) (.int .i64 0) (.int .i64 0) (.int .i64 0) (.int .i64 99) hX (show k * 5 + 5 ≤ cur.size by omega)
          refine ⟨k + 1, by omega, rfl, by go_num, ⟨cur', s1, by omega, fun i r h1 h2 hr => ?_, fun i r h1 h2 h3 hr => ?_⟩, ?_⟩
          · omega
          · rw [s3 _ (by omega)]; exact G4.out i r h1 (by omega) h3 hr
          · exact grown_set (grown_set (grown_set (grown_set (grown_set (grown_drewN (grown_alloc hgr.out _) _) _ _) _ _) _ _) _ _) _ _
        case measure => simp [intOf]; omega
      · have t1 : ¬ (k : Int) < (l.length : Int) + 8 := by omega
        clear hcell g1 g3 g4
        go_wp2
        go_ret
        exact ⟨rfl, hgr⟩

end Go.Proofs.YtmeiogoodbnkkaaGreat
