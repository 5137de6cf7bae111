/- Words handed in, looked at afterwards. -/
import Derived.Test.YtmeiogoodbnkkaaGreatH1
namespace Go.Proofs.YtmeiogoodbnkkaaGreat
open Go.RowKit

theorem grown_cell {w w' : World} {g b o : Nat} (h : w.grownBy w' (some g)) (hb : b < w.heap.size) (hne : b ≠ g) : w'.cell? ⟨b, o, none⟩ = w.cell? ⟨b, o, none⟩ :=
  World.cell?_of_block (h.block b hb (by simpa using hne))

theorem grown_set {w w' : World} {g : Nat} (h : w.grownBy w' (some g)) (o : Nat) (v : Value) : w.grownBy (w'.setCell ⟨g, o, none⟩ v) (some g) :=
  ⟨h.os, h.tape, h.output, by simpa [World.setCell] using h.size, fun k hk hne => by rw [Below.heap_setCell _ _ _ _ (by simpa using hne)]; exact h.block k hk hne⟩

theorem grown_refl (w : World) (r : Option Nat) : w.grownBy w r := ⟨rfl, rfl, rfl, Nat.le_refl _, fun _ _ _ => rfl⟩

/-- A list does not begin in this block. -/
def NotIn (p : Option Addr) (g : Nat) : Prop := ∀ a, p = some a → a.block ≠ g

set_option maxRecDepth 100000 in
set_option maxHeartbeats 2000000 in
theorem untouchedWords_any (g : Nat) (p : Option Addr) (c : Nat) (l : List Int) (w : World) (h : Rd w p l) (hh : HandW w g l) (hne : NotIn p g) (hl : l.length * 8 ≤ 140737488351232) :
    Calls Tryz.prog 20 #[.slice (some ⟨g, 0, none⟩) l.length (l.length + 8), .slice p l.length c] w fun e w' => e = .returned (.bool true) ∧ w.grownBy w' (some g) := by
  have H := hide h
  have HH := hide hh
  have HNE := hide hne
  clear h hh hne
  go_enter Tryz.func20, Tryz.ntmps20
  go_wp2
  go_loopw [7, 8] (fun ok i wr => ∃ k : Nat, k ≤ l.length + 8 ∧ ok = .bool true ∧ i = .int .i64 k ∧ Hid (∃ cur : Array Value, wr.heap[g]? = some (.cells cur 2 (0, 0)) ∧ cur.size = l.length + 8 ∧ (∀ i, k ≤ i → i < l.length → cur[i]? = some (.int .i64 (l.getD i 0))) ∧ (∀ i, l.length ≤ i → k ≤ i → i < l.length + 8 → cur[i]? = some (.int .i64 (-5)))) ∧ Hid (w.grownBy wr (some g)))
    (fun _ i _ => l.length + 8 - (intOf i).toNat)
  case atStart =>
    obtain ⟨cur, g1, g2, g3, g4⟩ := HH.out
    exact ⟨0, by omega, rfl, rfl, ⟨cur, g1, g2, fun i _ hi => g3 i hi, fun i h1 _ h2 => g4 i h1 h2⟩, grown_refl _ _⟩
  case round =>
    obtain ⟨k, hk, rfl, rfl, hcur, hgr⟩ := hrel
    obtain ⟨cur, g1, g2, g3, g4⟩ := hcur.out
    clear hcur
    have hfro : wr.frozen? ⟨g, k, none⟩ = false := by simp [World.frozen?, g1]
    have hcell : wr.cell? ⟨g, k, none⟩ = cur[k]? := cell_of_row wr _ k _ _ _ g1
    by_cases hlt : k < l.length
    · obtain ⟨b, off, rfl, hbw, hc⟩ := H.out.at hlt
      have hbg : b ≠ g := HNE.out _ rfl
      have hsrc : wr.cell? ⟨b, off + k, none⟩ = some (.int .i64 (l.getD k 0)) := by rw [grown_cell hgr.out hbw hbg]; exact hc k hlt
      rw [g3 k (Nat.le_refl _) hlt] at hcell
      obtain ⟨y, hy⟩ : ∃ y, y = l.getD k 0 := ⟨_, rfl⟩
      rw [← hy] at hcell hsrc
      have t1 : (k : Int) < (l.length : Int) + 8 := by omega
      have t2 : (k : Int) < (l.length : Int) := by omega
      have t3 : (y == y) = true := by simp
      have G1 := hide g1
      have G3 := hide g3
      have G4 := hide g4
      have HBG := hide hbg
      clear g1 g3 g4 hy hc hbg
      go_wp2
      go_roundw
      case rel =>
        refine ⟨k + 1, by omega, rfl, by go_num, ⟨cur.setIfInBounds k (.int .i64 99), heap_setCell_same _ _ _ _ _ _ G1.out, by simpa using g2, fun i h1 h2 => ?_, fun i h1 h2 h3 => ?_⟩, grown_set hgr.out _ _⟩
        · rw [Array.getElem?_setIfInBounds_ne (by omega)]; exact G3.out i (by omega) h2
        · rw [Array.getElem?_setIfInBounds_ne (by omega)]; exact G4.out i h1 (by omega) h3
      case measure => simp [intOf]; omega
    · by_cases hlt2 : k < l.length + 8
      · rw [g4 k (by omega) (Nat.le_refl _) hlt2] at hcell
        have t1 : (k : Int) < (l.length : Int) + 8 := by omega
        have t2 : ¬ (k : Int) < (l.length : Int) := by omega
        have G1 := hide g1
        have G3 := hide g3
        have G4 := hide g4
        clear g1 g3 g4
        go_wp2
        go_roundw
        case rel =>
          refine ⟨k + 1, by omega, rfl, by go_num, ⟨cur.setIfInBounds k (.int .i64 99), heap_setCell_same _ _ _ _ _ _ G1.out, by simpa using g2, fun i h1 h2 => ?_, fun i h1 h2 h3 => ?_⟩, grown_set hgr.out _ _⟩
          · omega
          · rw [Array.getElem?_setIfInBounds_ne (by omega)]; exact G4.out i h1 (by omega) h3
        case measure => simp [intOf]; omega
      · have t1 : ¬ (k : Int) < (l.length : Int) + 8 := by omega
        clear hcell g1 g3 g4
        go_wp2
        go_ret
        exact ⟨rfl, hgr⟩

end Go.Proofs.YtmeiogoodbnkkaaGreat
