/- What the row tells of a list of calls. -/
import Derived.Test.YtmeiogoodbnkkaaGreatCZK
import Derived.Test.YtmeiogoodbnkkaaGreatCDJDK
namespace Go.Proofs.YtmeiogoodbnkkaaGreat
open Go.ChangeShapes Go.WideShapes Go.ChangeAt Go.RowKit

theorem cells_call : Tryz.prog.cellsOf 34 = 13 := by kernel_rfl
theorem bytes_call : Tryz.prog.bytesOf 34 = 136 := by kernel_rfl
theorem cells_config : Tryz.prog.cellsOf 32 = 9 := by kernel_rfl
theorem cells_arr : Tryz.prog.cellsOf 30 = 4 := by kernel_rfl
theorem cells_sOrder : Tryz.prog.cellsOf 22 = 1 := by kernel_rfl
theorem cells_sWord : Tryz.prog.cellsOf 23 = 1 := by kernel_rfl

theorem cell_place {w : World} {a : Addr} {v : Value} (h : w.cell? a = some v) : a.spot = none ∧ a.block < w.heap.size := by
  unfold World.cell? at h
  split at h
  · rename_i c _ _ hb
    split at h
    · cases h
    · rename_i hs
      refine ⟨by simpa using hs, (Array.getElem?_eq_some_iff.1 hb).1⟩
  · cases h

theorem weights_all {H : Type} {P : Program} {e : TypeId} : ∀ {l : List (DataW H)} {d : DataW H}, d ∈ l → ∀ n ∈ d.weights P e, n ∈ DataW.weightsAll P e l
  | d0 :: l, d, h, n, hn => by
    simp only [DataW.weightsAll, List.mem_append]
    rcases List.mem_cons.1 h with rfl | h
    · exact .inl hn
    · exact .inr (weights_all h n hn)

section
variable {H : Type} {enc : TypeId × Value → H} {w : World} {fuel : Nat} {cs : List Value} {d : DataW H} {ps : List MemPlace}

set_option maxRecDepth 100000 in
/-- A list of orders that lies in another list. -/
theorem nest_orders (h : DataW.trod enc Tryz.prog w 0 (fun _ => true) true fuel 22 cs = some (d, ps)) (hs : ∀ n ∈ d.weights Tryz.prog 22, n ≤ 140737488351232) :
    ∃ (a : Option Addr) (c : Nat) (l : List Ord), cs = [.slice a l.length c] ∧ RdO w a l ∧ (l ≠ [] → Under a w.heap.size) ∧ l.length * 40 ≤ 140737488351232 := by
  rcases Go.Deep.open_slice Tryz.underlying22 h with ⟨rfl, _⟩ | ⟨a, len, cap, m, n, D, Pl, rfl, _, hl, _, hm, hx, hel⟩
  · exact ⟨none, 0, [], rfl, .inl rfl, (fun h => absurd rfl h), by simp⟩
  · simp only [if_true] at hm
    subst hm
    simp only [Prod.mk.injEq] at hx
    have hsz : (len + (m - len)) * 40 ≤ 140737488351232 := by
      refine hs _ ?_
      rw [hx.1]
      simp [DataW.weights, Tryz.underlying22, bytes_order]
    have hO : ∀ i, i < m → ∃ o : Ord, w.cells? 0 (a.add (i * 5)) 5 = some [.int .i64 o.op, .int .i64 o.d, .int .i64 o.a, .int .i64 o.b, .int .i64 o.k] := by
      intro i hi
      obtain ⟨cs', h1, h2⟩ := hel i hi
      rw [cells_order] at h1
      obtain ⟨o, rfl, _⟩ := order_cells h2
      exact ⟨o, h1⟩
    obtain ⟨O, hO⟩ : ∃ O : Nat → Ord, ∀ i, i < m → w.cells? 0 (a.add (i * 5)) 5 = some [.int .i64 (O i).op, .int .i64 (O i).d, .int .i64 (O i).a, .int .i64 (O i).b, .int .i64 (O i).k] := by
      classical
      exact ⟨fun i => if hi : i < m then Classical.choose (hO i hi) else Ord.none, fun i hi => by
        simp only [dif_pos hi]; exact Classical.choose_spec (hO i hi)⟩
    rcases Nat.eq_zero_or_pos len with h0 | h0
    · subst h0
      exact ⟨some a, m, [], rfl, .inl rfl, (fun h => absurd rfl h), by simp⟩
    · have hpl : a.spot = none ∧ a.block < w.heap.size := by
        obtain ⟨_, _, hc⟩ := World.cells?_some (hO 0 (by omega))
        have c0 := hc 0 (by decide)
        exact cell_place (a := a) (by simpa [Addr.add] using c0)
      obtain ⟨b, off, spot⟩ := a
      simp only at hpl
      obtain ⟨rfl, hblk⟩ := hpl
      refine ⟨some ⟨b, off, none⟩, m, (List.range len).map O, by simp, .inr ⟨b, off, rfl, hblk, fun i hi => ?_⟩, (fun _ x hx => by cases hx; exact hblk), by simp; omega⟩
      have hi' : i < len := by simpa using hi
      obtain ⟨_, _, hc⟩ := World.cells?_some (hO i (by omega))
      have hg : ((List.range len).map O).getD i Ord.none = O i := by simp [List.getD, hi']
      rw [hg]
      have key : ∀ j, (Addr.add (Addr.add ⟨b, off, none⟩ (i * 5)) j) = ⟨b, off + i * 5 + j, none⟩ := by
        intro j
        unfold Addr.add
        by_cases h1 : i * 5 = 0 <;> by_cases h2 : j = 0 <;> simp [h1, h2]
      have c0 := hc 0 (by decide)
      have c1 := hc 1 (by decide)
      have c2 := hc 2 (by decide)
      have c3 := hc 3 (by decide)
      have c4 := hc 4 (by decide)
      rw [key] at c0 c1 c2 c3 c4
      exact ⟨by simpa using c0, by simpa using c1, by simpa using c2, by simpa using c3, by simpa using c4⟩

set_option maxRecDepth 100000 in
/-- .. a memory. -/
theorem nest_words (h : DataW.trod enc Tryz.prog w 0 (fun _ => true) true fuel 23 cs = some (d, ps)) (hs : ∀ n ∈ d.weights Tryz.prog 23, n ≤ 140737488351232) :
    ∃ (a : Option Addr) (c : Nat) (l : List Int), cs = [.slice a l.length c] ∧ Rd w a l ∧ (l ≠ [] → Under a w.heap.size) ∧ l.length * 8 ≤ 140737488351232 := by
  rcases open_ints Tryz.underlying23 Tryz.underlying2 cells_word h with ⟨rfl, _⟩ | ⟨a, len, cap, zs, rfl, _, hl, _, hz, hx, hcell, _⟩
  · exact ⟨none, 0, [], rfl, .inl rfl, (fun h => absurd rfl h), by simp⟩
  · simp only [if_true] at hz
    simp only [Prod.mk.injEq] at hx
    have hsz : (len + (cap - len)) * 8 ≤ 140737488351232 := by
      refine hs _ ?_
      rw [hx.1]
      simp only [DataW.weights, Tryz.underlying23, bytes_word, lits, List.length_map, List.length_take, List.length_drop, hz, Nat.min_eq_left hl]
      exact List.mem_cons_self ..
    rcases Nat.eq_zero_or_pos len with h0 | h0
    · subst h0
      exact ⟨some a, cap, [], rfl, .inl rfl, (fun h => absurd rfl h), by simp⟩
    · have hpl : a.spot = none ∧ a.block < w.heap.size := by
        have c0 := hcell 0 (by omega)
        exact cell_place (a := a) (by simpa [Addr.add] using c0)
      obtain ⟨b, off, spot⟩ := a
      simp only at hpl
      obtain ⟨rfl, hblk⟩ := hpl
      have hlen : (zs.take len).length = len := by simp; omega
      refine ⟨some ⟨b, off, none⟩, cap, zs.take len, by rw [hlen], .inr ⟨b, off, rfl, hblk, fun i hi => ?_⟩, (fun _ x hx => by cases hx; exact hblk), by rw [hlen]; omega⟩
      have hi' : i < len := by rw [hlen] at hi; exact hi
      have c0 := hcell i (by omega)
      have hg : (zs.take len).getD i 0 = zs.getD i 0 := by simp [List.getD, hi']
      rw [hg, ← c0]
      congr 1
      unfold Addr.add
      by_cases h1 : i = 0 <;> simp [h1]

set_option maxRecDepth 100000 in
/-- The cells of a configuration. -/
theorem config_cells (h : DataW.trod enc Tryz.prog w 0 (fun _ => true) true fuel 32 cs = some (d, ps)) :
    ∃ u0 u1 u2 u3 l0 l1 l2 l3 b : Int, cs = [.int .i64 u0, .int .i64 u1, .int .i64 u2, .int .i64 u3, .int .i64 l0, .int .i64 l1, .int .i64 l2, .int .i64 l3, .int .i64 b] := by
  obtain ⟨xs, n, _, _, hl, hlen, hf⟩ := DataW.trod_struct Tryz.underlying32 h
  rw [cells_config] at hl
  have xs_at : ∀ i, i < 3 → ∃ y, xs[i]? = some y := fun i hi => by
    have : i < xs.length := by rw [hlen]; exact hi
    exact ⟨_, List.getElem?_eq_getElem this⟩
  have arr : ∀ o, (∃ y, DataW.trod enc Tryz.prog w 0 (fun _ => true) true n 30 ((cs.drop o).take (Tryz.prog.cellsOf 30)) = some y) → ∀ i, i < 4 → ∃ z, cs[o + i]? = some (Value.int .i64 z) := fun o ⟨y, hy⟩ i hi => by
    obtain ⟨ys, m, _, _, hl4, hn4, he⟩ := DataW.trod_array Tryz.underlying30 hy
    obtain ⟨y', hy'⟩ : ∃ y', ys[i]? = some y' := ⟨_, List.getElem?_eq_getElem (by omega)⟩
    have h1 := he i hi
    rw [hy', cells_arr, cells_int] at h1
    obtain ⟨z, hz, _⟩ := DataW.trod_int Tryz.underlying3 h1
    refine ⟨z, ?_⟩
    have h2 : (((cs.drop o).take 4).drop (i * 1))[0]? = some (Value.int .i64 z) := by
      have : ((((cs.drop o).take 4).drop (i * 1)).take 1)[0]? = some (Value.int .i64 z) := by rw [hz]; rfl
      simpa using this
    rw [List.getElem?_drop, Nat.mul_one, Nat.add_zero, List.getElem?_take_of_lt hi, List.getElem?_drop] at h2
    exact h2
  have A0 := arr 0 (by obtain ⟨y, hy⟩ := xs_at 0 (by decide); exact ⟨y, by rw [← hy]; exact hf 0 _ rfl⟩)
  have A1 := arr 4 (by obtain ⟨y, hy⟩ := xs_at 1 (by decide); exact ⟨y, by rw [← hy]; exact hf 1 _ rfl⟩)
  have B0 : ∃ z, cs[8]? = some (Value.int .i64 z) := by
    obtain ⟨y, hy⟩ := xs_at 2 (by decide)
    have h1 : DataW.trod enc Tryz.prog w 0 (fun _ => true) true n 3 ((cs.drop 8).take (Tryz.prog.cellsOf 3)) = some y := by rw [← hy]; exact hf 2 _ rfl
    rw [cells_int] at h1
    obtain ⟨z, hz, _⟩ := DataW.trod_int Tryz.underlying3 h1
    refine ⟨z, ?_⟩
    have : ((cs.drop 8).take 1)[0]? = some (Value.int .i64 z) := by rw [hz]; rfl
    simpa using this
  obtain ⟨u0, a0⟩ := A0 0 (by decide)
  obtain ⟨u1, a1⟩ := A0 1 (by decide)
  obtain ⟨u2, a2⟩ := A0 2 (by decide)
  obtain ⟨u3, a3⟩ := A0 3 (by decide)
  obtain ⟨l0, a4⟩ := A1 0 (by decide)
  obtain ⟨l1, a5⟩ := A1 1 (by decide)
  obtain ⟨l2, a6⟩ := A1 2 (by decide)
  obtain ⟨l3, a7⟩ := A1 3 (by decide)
  obtain ⟨b, a8⟩ := B0
  refine ⟨u0, u1, u2, u3, l0, l1, l2, l3, b, ?_⟩
  match cs, hl with
  | [c0, c1, c2, c3, c4, c5, c6, c7, c8], _ =>
    simp at a0 a1 a2 a3 a4 a5 a6 a7 a8
    subst a0 a1 a2 a3 a4 a5 a6 a7 a8
    rfl

set_option maxRecDepth 100000 in
/-- The cells of a call. -/
theorem call_cells (h : DataW.trod enc Tryz.prog w 0 (fun _ => true) true fuel 34 cs = some (d, ps)) (hs : ∀ n ∈ d.weights Tryz.prog 34, n ≤ 140737488351232) : ∃ x : Cll, cs = clC x ∧ OkC w x := by
  obtain ⟨xs, n, _, hx, hl, hlen, hf⟩ := DataW.trod_struct Tryz.underlying34 h
  rw [cells_call] at hl
  simp only [Prod.mk.injEq] at hx
  obtain ⟨rfl, _⟩ := hx
  have hlen5 : xs.length = 5 := hlen
  obtain ⟨x0, x1, x2, x3, x4, rfl⟩ := five hlen5
  have f0 : DataW.trod enc Tryz.prog w 0 (fun _ => true) true n 3 ((cs.drop 0).take (Tryz.prog.cellsOf 3)) = some x0 := hf 0 _ rfl
  have f1 : DataW.trod enc Tryz.prog w 0 (fun _ => true) true n 32 ((cs.drop 1).take (Tryz.prog.cellsOf 32)) = some x1 := hf 1 _ rfl
  have f2 : DataW.trod enc Tryz.prog w 0 (fun _ => true) true n 22 ((cs.drop 10).take (Tryz.prog.cellsOf 22)) = some x2 := hf 2 _ rfl
  have f3 : DataW.trod enc Tryz.prog w 0 (fun _ => true) true n 23 ((cs.drop 11).take (Tryz.prog.cellsOf 23)) = some x3 := hf 3 _ rfl
  have f4 : DataW.trod enc Tryz.prog w 0 (fun _ => true) true n 3 ((cs.drop 12).take (Tryz.prog.cellsOf 3)) = some x4 := hf 4 _ rfl
  rw [cells_int] at f0 f4
  rw [cells_config] at f1
  rw [cells_sOrder] at f2
  rw [cells_sWord] at f3
  have hwt : ∀ {j : Nat} {t : TypeId} {y : DataW H}, [(3 : TypeId), 32, 22, 23, 3][j]? = some t → [x0.1, x1.1, x2.1, x3.1, x4.1][j]? = some y → ∀ k ∈ y.weights Tryz.prog t, k ≤ 140737488351232 := fun ht hd k hk => by
    refine hs k ?_
    have h9 := DataW.weights_mem_each (P := Tryz.prog) ht hd k hk
    simp only [DataW.weights, Tryz.underlying34]
    exact h9
  obtain ⟨kd, e0, _⟩ := DataW.trod_int Tryz.underlying3 f0
  obtain ⟨st, e4, _⟩ := DataW.trod_int Tryz.underlying3 f4
  obtain ⟨u0, u1, u2, u3, l0, l1, l2, l3, b, e1⟩ := config_cells f1
  obtain ⟨p, c, prog, e2, rp, up, lp⟩ := nest_orders f2 (hwt (j := 2) rfl rfl)
  obtain ⟨pm, cm, mem, e3, rm, um, lm⟩ := nest_words f3 (hwt (j := 3) rfl rfl)
  refine ⟨⟨kd, u0, u1, u2, u3, l0, l1, l2, l3, b, p, c, prog, pm, cm, mem, st⟩, ?_, ⟨rp, rm, up, um, lp, lm⟩⟩
  match cs, hl with
  | [c0, c1, c2, c3, c4, c5, c6, c7, c8, c9, c10, c11, c12], _ =>
    simp at e0 e1 e2 e3 e4
    obtain ⟨q0, q1, q2, q3, q4, q5, q6, q7, q8⟩ := e1
    subst e0 e2 e3 e4 q0 q1 q2 q3 q4 q5 q6 q7 q8
    rfl

set_option maxRecDepth 100000 in
/-- A list of calls. -/
theorem open_calls {a0 : Option Addr} {len cap : Nat} (h : DataW.trod enc Tryz.prog w 0 (fun _ => true) true fuel 38 (Value.slice a0 len cap).cells.toList = some (d, ps)) (hs : ∀ n ∈ d.weights Tryz.prog 38, n ≤ 140737488351232) :
    ∃ l : List Cll, l.length = len ∧ RdC w a0 l ∧ (∀ x ∈ l, OkC w x) ∧ len * 136 ≤ 140737488351232 := by
  rcases Go.Deep.open_slice Tryz.underlying38 h with ⟨hcs, _⟩ | ⟨a, l', c', m, n, D, Pl, hcs, _, hl, _, hm, hx, hel⟩
  · simp [Value.cells] at hcs
    obtain ⟨rfl, rfl, rfl⟩ := hcs
    exact ⟨[], rfl, .inl rfl, (fun x hx => by cases hx), by omega⟩
  · simp [Value.cells] at hcs
    obtain ⟨rfl, rfl, rfl⟩ := hcs
    simp only [if_true] at hm
    subst hm
    simp only [Prod.mk.injEq] at hx
    have hwd : d.weights Tryz.prog 38 = (len + (m - len)) * 136 :: (DataW.weightsAll Tryz.prog 34 ((List.range len).map D) ++ DataW.weightsAll Tryz.prog 34 ((List.range (m - len)).map fun j => D (len + j))) := by
      rw [hx.1]
      simp [DataW.weights, Tryz.underlying38, bytes_call]
    rw [hwd] at hs
    have hsz : (len + (m - len)) * 136 ≤ 140737488351232 := hs _ (List.mem_cons_self ..)
    have hC : ∀ i, i < len → ∃ x : Cll, w.cells? 0 (a.add (i * 13)) 13 = some (clC x) ∧ OkC w x := by
      intro i hi
      obtain ⟨cs', h1, h2⟩ := hel i (by omega)
      rw [cells_call] at h1
      obtain ⟨x, rfl, ho⟩ := call_cells h2 (fun k hk => hs k (List.mem_cons_of_mem _ (List.mem_append.2 (.inl (weights_all (List.mem_map.2 ⟨i, List.mem_range.2 hi, rfl⟩) k hk)))))
      exact ⟨x, h1, ho⟩
    obtain ⟨X, hX⟩ : ∃ X : Nat → Cll, ∀ i, i < len → w.cells? 0 (a.add (i * 13)) 13 = some (clC (X i)) ∧ OkC w (X i) := by
      classical
      exact ⟨fun i => if hi : i < len then Classical.choose (hC i hi) else ⟨0, 0, 0, 0, 0, 0, 0, 0, 0, 0, none, 0, [], none, 0, [], 0⟩, fun i hi => by
        simp only [dif_pos hi]; exact Classical.choose_spec (hC i hi)⟩
    rcases Nat.eq_zero_or_pos len with h0 | h0
    · subst h0
      exact ⟨[], rfl, .inl rfl, (fun x hx => by cases hx), by omega⟩
    · have hpl : a.spot = none ∧ a.block < w.heap.size := by
        obtain ⟨_, _, hc⟩ := World.cells?_some (hX 0 h0).1
        have c0 := hc 0 (by decide)
        exact cell_place (a := a) (v := .int .i64 (X 0).kd) (by simpa [Addr.add, clC] using c0)
      obtain ⟨b, off, spot⟩ := a
      simp only at hpl
      obtain ⟨rfl, hblk⟩ := hpl
      refine ⟨(List.range len).map X, by simp, .inr ⟨b, off, rfl, hblk, fun i x hi j hj => ?_⟩, ?_, by omega⟩
      · have hi' : i < len := by have := (List.getElem?_eq_some_iff.1 hi).1; simpa using this
        have hxi : x = X i := by
          rw [List.getElem?_map, List.getElem?_range hi'] at hi
          simpa using hi.symm
        subst hxi
        obtain ⟨_, _, hc⟩ := World.cells?_some (hX i hi').1
        have key : (Addr.add (Addr.add ⟨b, off, none⟩ (i * 13)) j) = ⟨b, off + i * 13 + j, none⟩ := by
          unfold Addr.add
          by_cases h1 : i * 13 = 0 <;> by_cases h2 : j = 0 <;> simp [h1, h2]
        rw [← key]
        exact hc j hj
      · intro x hx
        obtain ⟨i, hi, rfl⟩ := List.mem_map.1 hx
        exact (hX i (List.mem_range.1 hi)).2
end

end Go.Proofs.YtmeiogoodbnkkaaGreat
