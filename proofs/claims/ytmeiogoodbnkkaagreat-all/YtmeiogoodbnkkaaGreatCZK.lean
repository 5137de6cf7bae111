/- What a row tells of its arguments: orders, words, a configuration, a number. -/
import Derived.Test.YtmeiogoodbnkkaaGreatRows
import Derived.Test.YtmeiogoodbnkkaaGreatCSHSI
import Derived.WalkKit
import Derived.ProofKit
import Derived.OpenShut
import Derived.ChangeOld
import Derived.Below
import Derived.SizedLaws
import Derived.Deep.Slices
namespace Go.Proofs.YtmeiogoodbnkkaaGreat
open Go.ChangeShapes Go.WideShapes Go.ChangeAt Go.RowKit

def In64 (c : Int) : Prop := -9223372036854775808 ≤ c ∧ c ≤ 9223372036854775807
def In64O (o : Ord) : Prop := In64 o.op ∧ In64 o.d ∧ In64 o.a ∧ In64 o.b ∧ In64 o.k

theorem own_knob : ownKnob Tryz.prog.godebug = none := by kernel_rfl
theorem laid_out : laidOutB Tryz.prog = true := by kernel_rfl
theorem cells_order : Tryz.prog.cellsOf 40 = 5 := by kernel_rfl
theorem cells_int : Tryz.prog.cellsOf 3 = 1 := by kernel_rfl
theorem cells_word : Tryz.prog.cellsOf 2 = 1 := by kernel_rfl
theorem bytes_order : Tryz.prog.bytesOf 40 = 40 := by kernel_rfl
theorem bytes_word : Tryz.prog.bytesOf 2 = 8 := by kernel_rfl

/-- A slice that fits its type and is not nil: its address is plain, its block is there. -/
theorem slice_place {P : Program} {w : World} {base : Nat} {t e : TypeId} {a : Addr} {len cap : Nat} (ht : P.underlying t = some (.slice e)) (h : Value.okWide P w .any base t (.slice (some a) len cap)) :
    a.spot = none ∧ a.block < w.heap.size := by
  simp only [Value.okWide, ht, Cell.okWide, Cell.ok, World.has] at h
  obtain ⟨_, _, _, hs, row, cells, hw, _⟩ := h
  refine ⟨hs, ?_⟩
  unfold World.shape? at hw
  by_cases hb : a.block < w.heap.size
  · exact hb
  · rw [Array.getElem?_eq_none (by omega)] at hw
    simp at hw

theorem five {α : Type} {l : List α} (h : l.length = 5) : ∃ a b c d e, l = [a, b, c, d, e] := by
  match l, h with
  | [a, b, c, d, e], _ => exact ⟨a, b, c, d, e, rfl⟩

set_option maxRecDepth 100000 in
/-- The cells of one order are five words. -/
theorem order_cells {H : Type} {enc : TypeId × Value → H} {w : World} {base : Nat} {sp : Nat → Bool} {held : Bool} {fuel : Nat} {cs : List Value} {x : DataW H × List MemPlace} (h : DataW.trod enc Tryz.prog w base sp held fuel 40 cs = some x) :
    ∃ o : Ord, cs = [.int .i64 o.op, .int .i64 o.d, .int .i64 o.a, .int .i64 o.b, .int .i64 o.k] ∧ In64O o := by
  obtain ⟨xs, n, _, _, hl, hlen, hf⟩ := DataW.trod_struct Tryz.underlying40 h
  rw [cells_order] at hl
  have one : ∀ i f, i < 5 → (Tryz.prog.underlying f = some (.int .i64)) → Tryz.prog.cellsOf f = 1 → (∃ y, DataW.trod enc Tryz.prog w base sp held n f ((cs.drop i).take (Tryz.prog.cellsOf f)) = some y) → ∃ z, cs[i]? = some (Value.int .i64 z) ∧ In64 z := by
    intro i f hi hu hc ⟨y, hy⟩
    obtain ⟨z, hz, _, hwf⟩ := DataW.trod_int hu hy
    rw [hc] at hz
    refine ⟨z, ?_, bounds_i64 hwf⟩
    have : ((cs.drop i).take 1)[0]? = some (Value.int .i64 z) := by rw [hz]; rfl
    simpa using this
  have xs_at : ∀ i, i < 5 → ∃ y, xs[i]? = some y := fun i hi => by
    have : i < xs.length := by rw [hlen]; exact hi
    exact ⟨_, List.getElem?_eq_getElem this⟩
  obtain ⟨z0, e0, g0⟩ := one 0 3 (by decide) Tryz.underlying3 cells_int (by obtain ⟨y, hy⟩ := xs_at 0 (by decide); exact ⟨y, by rw [← hy]; exact hf 0 _ rfl⟩)
  obtain ⟨z1, e1, g1⟩ := one 1 3 (by decide) Tryz.underlying3 cells_int (by obtain ⟨y, hy⟩ := xs_at 1 (by decide); exact ⟨y, by rw [← hy]; exact hf 1 _ rfl⟩)
  obtain ⟨z2, e2, g2⟩ := one 2 3 (by decide) Tryz.underlying3 cells_int (by obtain ⟨y, hy⟩ := xs_at 2 (by decide); exact ⟨y, by rw [← hy]; exact hf 2 _ rfl⟩)
  obtain ⟨z3, e3, g3⟩ := one 3 3 (by decide) Tryz.underlying3 cells_int (by obtain ⟨y, hy⟩ := xs_at 3 (by decide); exact ⟨y, by rw [← hy]; exact hf 3 _ rfl⟩)
  obtain ⟨z4, e4, g4⟩ := one 4 2 (by decide) Tryz.underlying2 cells_word (by obtain ⟨y, hy⟩ := xs_at 4 (by decide); exact ⟨y, by rw [← hy]; exact hf 4 _ rfl⟩)
  refine ⟨⟨z0, z1, z2, z3, z4⟩, ?_, g0, g1, g2, g3, g4⟩
  obtain ⟨c0, c1, c2, c3, c4, rfl⟩ := five hl
  simp only [List.getElem?_cons_zero, List.getElem?_cons_succ, Option.some.injEq] at e0 e1 e2 e3 e4
  subst e0; subst e1; subst e2; subst e3; subst e4
  rfl

set_option maxRecDepth 100000 in
/-- What the row tells of the list of orders. -/
theorem open_orders {H : Type} {enc : TypeId × Value → H} {w : World} {base fuel : Nat} {a0 : Option Addr} {len cap : Nat} {d : DataW H} {ps : List MemPlace}
    (hv : Value.okWide Tryz.prog w .any base 22 (.slice a0 len cap)) (h : DataW.trod enc Tryz.prog w 0 (fun _ => true) true fuel 22 (Value.slice a0 len cap).cells.toList = some (d, ps))
    (hs : ∀ elems spare : List (DataW H), d = .slice elems spare → (elems.length + spare.length) * 40 ≤ 140737488351232) :
    ∃ l : List Ord, l.length = len ∧ RdO w a0 l ∧ (∀ j, j < l.length → In64O (l.getD j Ord.none)) ∧ len * 40 ≤ 140737488351232 := by
  rcases Go.Deep.open_slice Tryz.underlying22 h with ⟨hcs, _⟩ | ⟨a, l', c', m, n, D, Pl, hcs, _, hl, _, hm, hx, hel⟩
  · simp [Value.cells] at hcs
    obtain ⟨rfl, rfl, rfl⟩ := hcs
    exact ⟨[], rfl, .inl rfl, fun j hj => absurd hj (Nat.not_lt_zero _), by omega⟩
  · simp [Value.cells] at hcs
    obtain ⟨rfl, rfl, rfl⟩ := hcs
    simp only [Prod.mk.injEq] at hx
    have hsz := hs _ _ hx.1
    simp only [List.length_map, List.length_range] at hsz
    obtain ⟨hsp, hblk⟩ := slice_place Tryz.underlying22 hv
    simp only [if_true] at hm
    have hO : ∀ i, i < m → ∃ o : Ord, w.cells? 0 (a.add (i * 5)) 5 = some [.int .i64 o.op, .int .i64 o.d, .int .i64 o.a, .int .i64 o.b, .int .i64 o.k] ∧ In64O o := by
      intro i hi
      obtain ⟨cs', h1, h2⟩ := hel i hi
      rw [cells_order] at h1
      obtain ⟨o, rfl, ho⟩ := order_cells h2
      exact ⟨o, h1, ho⟩
    have hO' : ∃ O : Nat → Ord, ∀ i, i < m → w.cells? 0 (a.add (i * 5)) 5 = some [.int .i64 (O i).op, .int .i64 (O i).d, .int .i64 (O i).a, .int .i64 (O i).b, .int .i64 (O i).k] ∧ In64O (O i) := by
      classical
      exact ⟨fun i => if hi : i < m then Classical.choose (hO i hi) else Ord.none, fun i hi => by
        simp only [dif_pos hi]; exact Classical.choose_spec (hO i hi)⟩
    obtain ⟨O, hO⟩ := hO'
    refine ⟨(List.range len).map O, by simp, .inr ?_, ?_, by omega⟩
    · obtain ⟨b, off, spot⟩ := a
      simp only at hsp hblk
      subst hsp
      refine ⟨b, off, rfl, hblk, fun i hi => ?_⟩
      have hi' : i < len := by simpa using hi
      obtain ⟨_, _, hc⟩ := World.cells?_some (hO i (by omega)).1
      have hg : ((List.range len).map O).getD i Ord.none = O i := by simp [List.getD, hi']
      rw [hg]
      have key : ∀ j, (Addr.add (Addr.add ⟨b, off, none⟩ (i * 5)) j) = ⟨b, off + i * 5 + j, none⟩ := by
        intro j
        unfold Addr.add
        by_cases h1 : i * 5 = 0 <;> by_cases h2 : j = 0 <;> simp [h1, h2]
      have c0 := hc 0 (by decide)
      have c1 := hc 1 (by decide)
      have c2 := hc 2 (by decide)
      have c3 := hc 3 (by decide)
      have c4 := hc 4 (by decide)
      rw [key] at c0 c1 c2 c3 c4
      exact ⟨by simpa using c0, by simpa using c1, by simpa using c2, by simpa using c3, by simpa using c4⟩
    · intro j hj
      have hj' : j < len := by simpa using hj
      have hg : ((List.range len).map O).getD j Ord.none = O j := by simp [List.getD, hj']
      rw [hg]
      exact (hO j (by omega)).2

set_option maxRecDepth 100000 in
/-- .. and of the memory. -/
theorem open_words {H : Type} {enc : TypeId × Value → H} {w : World} {base fuel : Nat} {a0 : Option Addr} {len cap : Nat} {d : DataW H} {ps : List MemPlace}
    (hv : Value.okWide Tryz.prog w .any base 23 (.slice a0 len cap)) (h : DataW.trod enc Tryz.prog w 0 (fun _ => true) true fuel 23 (Value.slice a0 len cap).cells.toList = some (d, ps))
    (hs : ∀ elems spare : List (DataW H), d = .slice elems spare → (elems.length + spare.length) * 8 ≤ 140737488351232) :
    ∃ l : List Int, l.length = len ∧ Rd w a0 l ∧ len ≤ cap ∧ len * 8 ≤ 140737488351232 := by
  rcases open_ints Tryz.underlying23 Tryz.underlying2 cells_word h with ⟨hcs, _⟩ | ⟨a, l', c', zs, hcs, _, hl, _, hz, hx, hcell, _⟩
  · simp [Value.cells] at hcs
    obtain ⟨rfl, rfl, rfl⟩ := hcs
    exact ⟨[], rfl, .inl rfl, Nat.le_refl _, by omega⟩
  · simp [Value.cells] at hcs
    obtain ⟨rfl, rfl, rfl⟩ := hcs
    simp only [Prod.mk.injEq] at hx
    have hsz := hs _ _ hx.1
    simp only [lits, List.length_map, List.length_take, List.length_drop] at hsz
    obtain ⟨hsp, hblk⟩ := slice_place Tryz.underlying23 hv
    simp only [if_true] at hz
    refine ⟨zs.take len, by simp; omega, .inr ?_, by omega, by omega⟩
    · obtain ⟨b, off, spot⟩ := a
      simp only at hsp hblk
      subst hsp
      refine ⟨b, off, rfl, hblk, fun i hi => ?_⟩
      have hi' : i < len := by simp at hi; omega
      have c0 := hcell i (by omega)
      have hg : (zs.take len).getD i 0 = zs.getD i 0 := by simp [List.getD, hi']
      rw [hg, ← c0]
      congr 1
      unfold Addr.add
      by_cases h1 : i = 0 <;> simp [h1]

set_option maxRecDepth 100000 in
/-- What the row tells of a configuration. -/
theorem open_config {H : Type} {enc : TypeId × Value → H} {w : World} {base fuel : Nat} {v : Value} {d : DataW H} {ps : List MemPlace}
    (hv : Value.okWide Tryz.prog w .any base 32 v) (h : DataW.trod enc Tryz.prog w 0 (fun _ => true) true fuel 32 v.cells.toList = some (d, ps)) :
    ∃ u0 u1 u2 u3 l0 l1 l2 l3 b, v = .agg #[.int .i64 u0, .int .i64 u1, .int .i64 u2, .int .i64 u3, .int .i64 l0, .int .i64 l1, .int .i64 l2, .int .i64 l3, .int .i64 b] ∧ In64 u0 ∧ In64 u1 ∧ In64 u2 ∧ In64 u3 ∧ In64 l0 ∧ In64 l1 ∧ In64 l2 ∧ In64 l3 ∧ In64 b := by
  obtain ⟨cs, rfl, hsz⟩ := okWide_struct Tryz.underlying32 hv
  rw [show Tryz.prog.cellsOf 32 = 9 from by kernel_rfl] at hsz
  have h' : DataW.trod enc Tryz.prog w 0 (fun _ => true) true fuel 32 cs.toList = some (d, ps) := h
  obtain ⟨xs, n, _, _, hl, hlen, hf⟩ := DataW.trod_struct Tryz.underlying32 h'
  have xs_at : ∀ i, i < 3 → ∃ y, xs[i]? = some y := fun i hi => by
    have : i < xs.length := by rw [hlen]; exact hi
    exact ⟨_, List.getElem?_eq_getElem this⟩
  have arr : ∀ o, (∃ y, DataW.trod enc Tryz.prog w 0 (fun _ => true) true n 30 ((cs.toList.drop o).take (Tryz.prog.cellsOf 30)) = some y) → ∀ i, i < 4 → ∃ z, cs.toList[o + i]? = some (Value.int .i64 z) ∧ In64 z := fun o ⟨y, hy⟩ i hi => by
    obtain ⟨ys, m, _, _, hl4, hn4, he⟩ := DataW.trod_array Tryz.underlying30 hy
    obtain ⟨y', hy'⟩ : ∃ y', ys[i]? = some y' := ⟨_, List.getElem?_eq_getElem (by omega)⟩
    have h1 := he i hi
    rw [hy', show Tryz.prog.cellsOf 30 = 4 from by kernel_rfl, cells_int] at h1
    obtain ⟨z, hz, _, hwf⟩ := DataW.trod_int Tryz.underlying3 h1
    refine ⟨z, ?_, bounds_i64 hwf⟩
    have h2 : (((cs.toList.drop o).take 4).drop (i * 1))[0]? = some (Value.int .i64 z) := by
      have : ((((cs.toList.drop o).take 4).drop (i * 1)).take 1)[0]? = some (Value.int .i64 z) := by rw [hz]; rfl
      simpa using this
    rw [List.getElem?_drop, Nat.mul_one, Nat.add_zero, List.getElem?_take_of_lt hi, List.getElem?_drop] at h2
    exact h2
  have A0 := arr 0 (by obtain ⟨y, hy⟩ := xs_at 0 (by decide); exact ⟨y, by rw [← hy]; exact hf 0 _ rfl⟩)
  have A1 := arr 4 (by obtain ⟨y, hy⟩ := xs_at 1 (by decide); exact ⟨y, by rw [← hy]; exact hf 1 _ rfl⟩)
  have B0 : ∃ z, cs.toList[8]? = some (Value.int .i64 z) ∧ In64 z := by
    obtain ⟨y, hy⟩ := xs_at 2 (by decide)
    have h1 : DataW.trod enc Tryz.prog w 0 (fun _ => true) true n 3 ((cs.toList.drop 8).take (Tryz.prog.cellsOf 3)) = some y := by rw [← hy]; exact hf 2 _ rfl
    rw [cells_int] at h1
    obtain ⟨z, hz, _, hwf⟩ := DataW.trod_int Tryz.underlying3 h1
    refine ⟨z, ?_, bounds_i64 hwf⟩
    have : ((cs.toList.drop 8).take 1)[0]? = some (Value.int .i64 z) := by rw [hz]; rfl
    simpa using this
  obtain ⟨u0, a0, g0⟩ := A0 0 (by decide)
  obtain ⟨u1, a1, g1⟩ := A0 1 (by decide)
  obtain ⟨u2, a2, g2⟩ := A0 2 (by decide)
  obtain ⟨u3, a3, g3⟩ := A0 3 (by decide)
  obtain ⟨l0, a4, g4⟩ := A1 0 (by decide)
  obtain ⟨l1, a5, g5⟩ := A1 1 (by decide)
  obtain ⟨l2, a6, g6⟩ := A1 2 (by decide)
  obtain ⟨l3, a7, g7⟩ := A1 3 (by decide)
  obtain ⟨b, a8, g8⟩ := B0
  refine ⟨u0, u1, u2, u3, l0, l1, l2, l3, b, ?_, g0, g1, g2, g3, g4, g5, g6, g7, g8⟩
  congr 1
  apply Array.ext'
  have hl9 : cs.toList.length = 9 := by simpa using hsz
  generalize cs.toList = L at *
  match L, hl9 with
  | [c0, c1, c2, c3, c4, c5, c6, c7, c8], _ =>
    simp at a0 a1 a2 a3 a4 a5 a6 a7 a8
    subst a0 a1 a2 a3 a4 a5 a6 a7 a8
    rfl

end Go.Proofs.YtmeiogoodbnkkaaGreat
