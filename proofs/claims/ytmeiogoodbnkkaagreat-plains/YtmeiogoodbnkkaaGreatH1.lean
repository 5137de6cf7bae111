/- Words handed in with spare room, and looked at afterwards. -/
import Derived.Test.YtmeiogoodbnkkaaGreatU
namespace Go.Proofs.YtmeiogoodbnkkaaGreat
open Go.RowKit

/-- A list of words that was handed in: eight marked places behind it. -/
def HandW (w : World) (g : Nat) (l : List Int) : Prop :=
  ∃ cur : Array Value, w.heap[g]? = some (.cells cur 2 (0, 0)) ∧ cur.size = l.length + 8 ∧ (∀ i, i < l.length → cur[i]? = some (.int .i64 (l.getD i 0))) ∧ (∀ i, l.length ≤ i → i < l.length + 8 → cur[i]? = some (.int .i64 (-5)))

set_option maxRecDepth 100000 in
set_option maxHeartbeats 2000000 in
theorem handedWords_any (p : Option Addr) (c : Nat) (l : List Int) (w : World) (h : Rd w p l) (hl : l.length * 8 ≤ 140737488351232) :
    Calls Tryz.prog 9 #[.slice p l.length c] w fun e w' => e = .returned (.slice (some ⟨w.heap.size, 0, none⟩) l.length (l.length + 8)) ∧ Below w.heap.size w w' ∧ HandW w' w.heap.size l := by
  have hmk := run_make_row' (P := Tryz.prog) 23 2 (.int .i64 0) 8 Tryz.underlying23 Tryz.info2 rfl .i64 .i64 (l.length + 8) (by omega) (by omega)
  have ec : ((l.length + 8 : Nat) : Int) = (l.length : Int) + 8 := by omega
  rw [ec] at hmk
  obtain ⟨i0, hi0, hz0, hz1, hz2⟩ := info_parts Tryz.info2
  have H := hide h
  clear h ec
  go_enter Tryz.func9, Tryz.ntmps9
  go_wp2_with (refine wpList_copy_rows rfl (.tmp 11) (.tmp 12) 23 23 rfl 2 i0 1 w.heap.size (l.length + 8) (l.length + 8) p l.length c (madeCells #[.int .i64 0] (l.length + 8)) 2 (l.map (Value.int .i64)) Tryz.underlying23 hi0 hz1 (by rfl) (by rfl) ?c1 ?c2 ?c3 ?c4 ?c5 ?_)
  case c1 => exact heap_alloc_new _ _
  case c2 => simp
  case c3 => exact rd_news (H.out.below (Nat.le_refl _) ((Below.refl _ _).alloc (Nat.le_refl _) _))
  case c4 => simp [madeCells]
  case c5 => exact ints_one l
  intro w1 HG hgr
  have HB1 : Hid (Below w.heap.size w w1) := ((Below.refl _ _).alloc (Nat.le_refl _) _).grown hgr (by simp) (by intro k hk; simp at hk; omega)
  clear hgr hmk
  go_wp2
  go_loopw [5] (fun i wr => ∃ k : Nat, l.length ≤ k ∧ k ≤ l.length + 8 ∧ i = .int .i64 k ∧ Hid (∃ cur : Array Value, wr.heap[w.heap.size]? = some (.cells cur 2 (0, 0)) ∧ cur.size = l.length + 8 ∧ (∀ i, i < l.length → cur[i]? = some (.int .i64 (l.getD i 0))) ∧ (∀ i, l.length ≤ i → i < k → cur[i]? = some (.int .i64 (-5)))) ∧ Hid (Below w.heap.size w wr))
    (fun i _ => l.length + 8 - (intOf i).toNat)
  case atStart =>
    refine ⟨l.length, Nat.le_refl _, by omega, rfl, ⟨_, HG.out, by simp [madeCells], fun i hi => ?_, fun i h1 h2 => by omega⟩, HB1⟩
    simp [List.getD_eq_getElem?_getD, hi, List.getElem?_append_left]
  case round =>
    obtain ⟨k, hk1, hk2, rfl, hcur, hbel⟩ := hrel
    obtain ⟨cur, g1, g2, g3, g4⟩ := hcur.out
    clear hcur
    by_cases hlt : k < l.length + 8
    · have hcell : wr.cell? ⟨w.heap.size, k, none⟩ = some (cur[k]'(by omega)) := by rw [cell_of_row wr _ k _ _ _ g1]; simp [g2, hlt]
      have hfro : wr.frozen? ⟨w.heap.size, k, none⟩ = false := by simp [World.frozen?, g1]
      obtain ⟨y, hy⟩ : ∃ y, y = cur[k]'(by omega) := ⟨_, rfl⟩
      rw [← hy] at hcell
      have hlt' : (k : Int) < (l.length : Int) + 8 := by omega
      have G1 := hide g1
      have G3 := hide g3
      have G4 := hide g4
      clear g1 g3 g4 hy
      go_wp2
      go_roundw
      case rel =>
        refine ⟨k + 1, by omega, by omega, by go_num, ⟨cur.setIfInBounds k (.int .i64 (-5)), heap_setCell_same _ _ _ _ _ _ G1.out, by simpa using g2, fun i hi => ?_, fun i h1 h2 => ?_⟩, hbel.out.setCell (Nat.le_refl _) _⟩
        · rw [Array.getElem?_setIfInBounds_ne (by omega)]; exact G3.out i hi
        · by_cases e : i = k
          · rw [e, Array.getElem?_setIfInBounds_self_of_lt (by omega)]
          · rw [Array.getElem?_setIfInBounds_ne (by omega)]; exact G4.out i h1 (by omega)
      case measure => simp [intOf]; omega
    · have hlt' : ¬ (k : Int) < (l.length : Int) + 8 := by omega
      have G1 := hide g1
      have G3 := hide g3
      have G4 := hide g4
      clear g1 g3 g4
      go_wp2
      go_ret
      exact ⟨rfl, hbel, cur, G1.out, g2, G3.out, fun i h1 h2 => G4.out i h1 (by omega)⟩

end Go.Proofs.YtmeiogoodbnkkaaGreat
