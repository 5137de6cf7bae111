/- Orders handed in with spare room. -/
import Derived.Test.YtmeiogoodbnkkaaGreatH2
namespace Go.Proofs.YtmeiogoodbnkkaaGreat
open Go.RowKit

theorem Tryz.info40 : (Tryz.prog.info? 40).map (fun i => (i.zero, i.size, i.bytes)) = some (some (.agg #[.int .i64 0, .int .i64 0, .int .i64 0, .int .i64 0, .int .i64 0]), 5, 40) := by kernel_rfl

def ordCells (o : Ord) : List Value := [.int .i64 o.op, .int .i64 o.d, .int .i64 o.a, .int .i64 o.b, .int .i64 o.k]

theorem flat_get : ∀ (l : List Ord) (i r : Nat), i < l.length → r < 5 → (l.flatMap ordCells)[i * 5 + r]? = (ordCells (l.getD i Ord.none))[r]?
  | o :: l, 0, r, _, hr => by
    rw [List.flatMap_cons, List.getElem?_append_left (by simp [ordCells]; omega)]
    simp
  | o :: l, i + 1, r, hi, hr => by
    rw [List.flatMap_cons, List.getElem?_append_right (by simp [ordCells]; omega)]
    have e : (i + 1) * 5 + r - (ordCells o).length = i * 5 + r := by simp [ordCells]; omega
    rw [e, flat_get l i r (by simpa using hi) hr]
    simp

theorem flat_len (l : List Ord) : (l.flatMap ordCells).length = l.length * 5 := by
  induction l with
  | nil => rfl
  | cons o l ih => simp only [List.flatMap_cons, List.length_append, ih, List.length_cons]; simp [ordCells]; omega

theorem flat_one (l : List Ord) : ∀ u ∈ l.flatMap ordCells, u.oneCell' = true := by
  intro u hu
  obtain ⟨o, _, ho⟩ := List.mem_flatMap.1 hu
  simp [ordCells] at ho
  rcases ho with rfl | rfl | rfl | rfl | rfl <;> rfl

theorem rdo_news {w : World} {p : Option Addr} {l : List Ord} (h : RdO w p l) : l.flatMap ordCells = [] ∨ ∃ b, p = some b ∧ ∀ j u, (l.flatMap ordCells)[j]? = some u → w.cell? (b.add j) = some u := by
  rcases h with rfl | ⟨b, off, rfl, hb, hc⟩
  · exact .inl rfl
  · refine .inr ⟨_, rfl, fun j u hu => ?_⟩
    have hj : j < l.length * 5 := by
      rcases Nat.lt_or_ge j (l.length * 5) with h' | h'
      · exact h'
      · rw [List.getElem?_eq_none (by rw [flat_len]; exact h')] at hu; cases hu
    have e : j = j / 5 * 5 + j % 5 := by omega
    have hr : j % 5 < 5 := by omega
    have hi : j / 5 < l.length := by omega
    obtain ⟨c0, c1, c2, c3, c4⟩ := hc (j / 5) hi
    rw [e, flat_get l _ _ hi hr] at hu
    rw [add_none]
    generalize j % 5 = r at *
    generalize j / 5 = i at *
    subst e
    have hr' : r = 0 ∨ r = 1 ∨ r = 2 ∨ r = 3 ∨ r = 4 := by omega
    rcases hr' with rfl | rfl | rfl | rfl | rfl <;> simp [ordCells] at hu <;> subst hu <;> simpa [Nat.add_assoc] using (by assumption)

/-- Five cells laid into a row. -/
theorem set5 {w : World} {g x : Nat} {cur : Array Value} {t : TypeId} (v0 v1 v2 v3 v4 : Value) (h : w.heap[g]? = some (.cells cur t (0, 0))) (hx : x + 5 ≤ cur.size) :
    ∃ cur' : Array Value, (((((w.setCell ⟨g, x, none⟩ v0).setCell ⟨g, x + 1, none⟩ v1).setCell ⟨g, x + 2, none⟩ v2).setCell ⟨g, x + 3, none⟩ v3).setCell ⟨g, x + 4, none⟩ v4).heap[g]? = some (.cells cur' t (0, 0)) ∧ cur'.size = cur.size ∧
      (∀ y, y < x ∨ x + 5 ≤ y → cur'[y]? = cur[y]?) ∧ (∀ r, r < 5 → cur'[x + r]? = [v0, v1, v2, v3, v4][r]?) := by
  have h1 := heap_setCell_same _ _ x _ _ v0 h
  have h2 := heap_setCell_same _ _ (x + 1) _ _ v1 h1
  have h3 := heap_setCell_same _ _ (x + 2) _ _ v2 h2
  have h4 := heap_setCell_same _ _ (x + 3) _ _ v3 h3
  have h5 := heap_setCell_same _ _ (x + 4) _ _ v4 h4
  refine ⟨_, h5, by simp, fun y hy => ?_, fun r hr => ?_⟩
  · rw [Array.getElem?_setIfInBounds_ne (by omega), Array.getElem?_setIfInBounds_ne (by omega), Array.getElem?_setIfInBounds_ne (by omega), Array.getElem?_setIfInBounds_ne (by omega), Array.getElem?_setIfInBounds_ne (by omega)]
  · have hr' : r = 0 ∨ r = 1 ∨ r = 2 ∨ r = 3 ∨ r = 4 := by omega
    rcases hr' with rfl | rfl | rfl | rfl | rfl
    · rw [Array.getElem?_setIfInBounds_ne (by omega), Array.getElem?_setIfInBounds_ne (by omega), Array.getElem?_setIfInBounds_ne (by omega), Array.getElem?_setIfInBounds_ne (by omega), Nat.add_zero, Array.getElem?_setIfInBounds_self_of_lt (by omega)]; rfl
    · rw [Array.getElem?_setIfInBounds_ne (by omega), Array.getElem?_setIfInBounds_ne (by omega), Array.getElem?_setIfInBounds_ne (by omega), Array.getElem?_setIfInBounds_self_of_lt (by simp; omega)]; rfl
    · rw [Array.getElem?_setIfInBounds_ne (by omega), Array.getElem?_setIfInBounds_ne (by omega), Array.getElem?_setIfInBounds_self_of_lt (by simp; omega)]; rfl
    · rw [Array.getElem?_setIfInBounds_ne (by omega), Array.getElem?_setIfInBounds_self_of_lt (by simp; omega)]; rfl
    · rw [Array.getElem?_setIfInBounds_self_of_lt (by simp; omega)]; rfl

/-- A list of orders that was handed in: eight marked places behind it. -/
def HandO (w : World) (g : Nat) (l : List Ord) : Prop :=
  ∃ cur : Array Value, w.heap[g]? = some (.cells cur 40 (0, 0)) ∧ cur.size = (l.length + 8) * 5 ∧ (∀ i r, i < l.length → r < 5 → cur[i * 5 + r]? = (ordCells (l.getD i Ord.none))[r]?) ∧
    (∀ i r, l.length ≤ i → i < l.length + 8 → r < 5 → cur[i * 5 + r]? = (ordCells ⟨-5, 0, 0, 0, 0⟩)[r]?)

set_option maxRecDepth 100000 in
set_option maxHeartbeats 2000000 in
theorem handedOrders_any (p : Option Addr) (c : Nat) (l : List Ord) (w : World) (h : RdO w p l) (hl : l.length * 40 ≤ 140737488351232) :
    Calls Tryz.prog 8 #[.slice p l.length c] w fun e w' => e = .returned (.slice (some ⟨w.heap.size, 0, none⟩) l.length (l.length + 8)) ∧ Below w.heap.size w w' ∧ HandO w' w.heap.size l := by
  obtain ⟨i0, hi0, hz0, hz1, hz2⟩ := info_parts Tryz.info40
  have hmk : ∀ w : World, (Instr.makeSlice 22 (.int .i64 ((l.length : Int) + 8)) (.int .i64 ((l.length : Int) + 8))).run Tryz.prog w = .ok (.slice (some ⟨w.heap.size, 0, none⟩) (l.length + 8) (l.length + 8)) (w.alloc (.cells (madeCells #[.int .i64 0, .int .i64 0, .int .i64 0, .int .i64 0, .int .i64 0] ((l.length + 8) * 5)) 40)) := by
    intro w
    have := run_make (P := Tryz.prog) w 22 40 i0 _ Tryz.underlying22 hi0 hz0 .i64 .i64 ((l.length : Int) + 8) ((l.length : Int) + 8) (by omega) (Int.le_refl _) (by rw [hz2]; omega) (by omega)
    rw [this, hz1]
    rfl
  have H := hide h
  clear h
  go_enter Tryz.func8, Tryz.ntmps8
  go_wp2_with (refine wpList_copy_rows rfl (.tmp 11) (.tmp 12) 22 22 rfl 40 i0 5 w.heap.size (l.length + 8) (l.length + 8) p l.length c (madeCells #[.int .i64 0, .int .i64 0, .int .i64 0, .int .i64 0, .int .i64 0] ((l.length + 8) * 5)) 40 (l.flatMap ordCells) Tryz.underlying22 hi0 hz1 (by rfl) (by rfl) ?c1 ?c2 ?c3 ?c4 ?c5 ?_)
  case c1 => exact heap_alloc_new _ _
  case c2 => rw [flat_len]; simp
  case c3 => exact rdo_news (H.out.below (Nat.le_refl _) ((Below.refl _ _).alloc (Nat.le_refl _) _))
  case c4 => rw [flat_len, size_madeCells]; omega
  case c5 => exact flat_one l
  intro w1 HG hgr
  have HB1 : Hid (Below w.heap.size w w1) := ((Below.refl _ _).alloc (Nat.le_refl _) _).grown hgr (by simp) (by intro k hk; simp at hk; omega)
  clear hgr hmk
  have HGG : Hid (∃ cur : Array Value, w1.heap[w.heap.size]? = some (.cells cur 40 (0, 0)) ∧ cur.size = (l.length + 8) * 5 ∧ (∀ i r, i < l.length → r < 5 → cur[i * 5 + r]? = (ordCells (l.getD i Ord.none))[r]?)) := by
    refine ⟨_, HG.out, ?_, fun i r hi hr => ?_⟩
    · simp only [List.size_toArray, List.length_append, List.length_drop, Array.length_toList, size_madeCells, flat_len]
      have hsum := flat_len l
      rw [List.length_flatMap] at hsum
      omega
    · rw [List.getElem?_toArray, List.getElem?_append_left (by rw [flat_len]; omega), flat_get l i r hi hr]
  clear HG
  go_wp2
  go_loopw [5] (fun i wr => ∃ k : Nat, l.length ≤ k ∧ k ≤ l.length + 8 ∧ i = .int .i64 k ∧ Hid (∃ cur : Array Value, wr.heap[w.heap.size]? = some (.cells cur 40 (0, 0)) ∧ cur.size = (l.length + 8) * 5 ∧ (∀ i r, i < l.length → r < 5 → cur[i * 5 + r]? = (ordCells (l.getD i Ord.none))[r]?) ∧
      (∀ i r, l.length ≤ i → i < k → r < 5 → cur[i * 5 + r]? = (ordCells ⟨-5, 0, 0, 0, 0⟩)[r]?)) ∧ Hid (Below w.heap.size w wr))
    (fun i _ => l.length + 8 - (intOf i).toNat)
  case atStart =>
    obtain ⟨cur, g1, g2, g3⟩ := HGG.out
    exact ⟨l.length, Nat.le_refl _, by omega, rfl, ⟨cur, g1, g2, g3, fun i r h1 h2 => by omega⟩, HB1⟩
  case round =>
    obtain ⟨k, hk1, hk2, rfl, hcur, hbel⟩ := hrel
    obtain ⟨cur, g1, g2, g3, g4⟩ := hcur.out
    clear hcur
    by_cases hlt : k < l.length + 8
    · have hex : ∀ r, r < 5 → ∃ y, wr.cell? ⟨w.heap.size, k * 5 + r, none⟩ = some y := fun r hr => ⟨cur[k * 5 + r]'(by omega), by rw [cell_of_row wr _ _ _ _ _ g1]; simp [show k * 5 + r < cur.size by omega]⟩
      obtain ⟨y0, c0⟩ := hex 0 (by omega)
      obtain ⟨y1, c1⟩ := hex 1 (by omega)
      obtain ⟨y2, c2⟩ := hex 2 (by omega)
      obtain ⟨y3, c3⟩ := hex 3 (by omega)
      obtain ⟨y4, c4⟩ := hex 4 (by omega)
      rw [Nat.add_zero] at c0
      have hfro : ∀ j, wr.frozen? ⟨w.heap.size, j, none⟩ = false := fun j => by simp [World.frozen?, g1]
      have hlt' : (k : Int) < (l.length : Int) + 8 := by omega
      have G1 := hide g1
      have G3 := hide g3
      have G4 := hide g4
      clear g1 g3 g4 hex
      go_wp2
      go_roundw
      case rel =>
        obtain ⟨cur', s1, s2, s3, s4⟩ := set5 (.int .i64 (-5)) (.int .i64 0) (.int .i64 0) (.int .i64 0) (.int .i64 0) G1.out (show k * 5 + 5 ≤ cur.size by omega)
        refine ⟨k + 1, by omega, by omega, by go_num, ⟨cur', s1, by omega, fun i r hi hr => ?_, fun i r h1 h2 hr => ?_⟩, ?_⟩
        · rw [s3 _ (by omega)]; exact G3.out i r hi hr
        · by_cases e : i = k
          · rw [e, s4 r hr]; rfl
          · rw [s3 _ (by omega)]; exact G4.out i r h1 (by omega) hr
        · exact ((((hbel.out.setCell (Nat.le_refl _) _).setCell (Nat.le_refl _) _).setCell (Nat.le_refl _) _).setCell (Nat.le_refl _) _).setCell (Nat.le_refl _) _
      case measure => simp [intOf]; omega
    · have hlt' : ¬ (k : Int) < (l.length : Int) + 8 := by omega
      have G1 := hide g1
      have G3 := hide g3
      have G4 := hide g4
      clear g1 g3 g4
      go_wp2
      go_ret
      exact ⟨rfl, hbel, cur, G1.out, g2, G3.out, fun i r h1 h2 h3 => G4.out i r h1 (by omega) h3⟩

end Go.Proofs.YtmeiogoodbnkkaaGreat
