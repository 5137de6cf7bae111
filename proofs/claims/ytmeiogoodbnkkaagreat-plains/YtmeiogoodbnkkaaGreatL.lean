/- Plain words on memory: a list of numbers read behind a slice's first cell. -/
import Derived.WalkKit
import Derived.WalkSpells
import Derived.WalkSmall
namespace Go.Proofs.YtmeiogoodbnkkaaGreat
open Go.RowKit

/-- The words that stand behind p in w are l (of nothing p may be anything). -/
def Rd (w : World) (p : Option Addr) (l : List Int) : Prop :=
  l = [] ∨ ∃ b off, p = some ⟨b, off, none⟩ ∧ b < w.heap.size ∧ ∀ i, i < l.length → w.cell? ⟨b, off + i, none⟩ = some (.int .i64 (l.getD i 0))

theorem hide {p : Prop} (h : p) : Hid p := h

theorem Rd.at {w : World} {p : Option Addr} {l : List Int} (h : Rd w p l) {i : Nat} (hi : i < l.length) :
    ∃ b off, p = some ⟨b, off, none⟩ ∧ b < w.heap.size ∧ ∀ i, i < l.length → w.cell? ⟨b, off + i, none⟩ = some (.int .i64 (l.getD i 0)) := by
  rcases h with rfl | h
  · simp at hi
  · exact h

/-- An order, as numbers. -/
structure Ord where
  op : Int
  d : Int
  a : Int
  b : Int
  k : Int

def Ord.none : Ord := ⟨0, 0, 0, 0, 0⟩

/-- The orders that stand behind p in w are l (of nothing p may be anything). -/
def RdO (w : World) (p : Option Addr) (l : List Ord) : Prop :=
  l = [] ∨ ∃ b off, p = some ⟨b, off, none⟩ ∧ b < w.heap.size ∧ ∀ i, i < l.length →
    w.cell? ⟨b, off + i * 5, none⟩ = some (.int .i64 (l.getD i Ord.none).op) ∧ w.cell? ⟨b, off + i * 5 + 1, none⟩ = some (.int .i64 (l.getD i Ord.none).d) ∧
    w.cell? ⟨b, off + i * 5 + 2, none⟩ = some (.int .i64 (l.getD i Ord.none).a) ∧ w.cell? ⟨b, off + i * 5 + 3, none⟩ = some (.int .i64 (l.getD i Ord.none).b) ∧
    w.cell? ⟨b, off + i * 5 + 4, none⟩ = some (.int .i64 (l.getD i Ord.none).k)

theorem RdO.at {w : World} {p : Option Addr} {l : List Ord} (h : RdO w p l) {i : Nat} (hi : i < l.length) :
    ∃ b off, p = some ⟨b, off, none⟩ ∧ b < w.heap.size ∧
    w.cell? ⟨b, off + i * 5, none⟩ = some (.int .i64 (l.getD i Ord.none).op) ∧ w.cell? ⟨b, off + i * 5 + 1, none⟩ = some (.int .i64 (l.getD i Ord.none).d) ∧
    w.cell? ⟨b, off + i * 5 + 2, none⟩ = some (.int .i64 (l.getD i Ord.none).a) ∧ w.cell? ⟨b, off + i * 5 + 3, none⟩ = some (.int .i64 (l.getD i Ord.none).b) ∧
    w.cell? ⟨b, off + i * 5 + 4, none⟩ = some (.int .i64 (l.getD i Ord.none).k) := by
  rcases h with rfl | ⟨b, off, rfl, hb, h⟩
  · simp at hi
  · exact ⟨b, off, rfl, hb, h i hi⟩

theorem Rd.below {w w' : World} {p : Option Addr} {l : List Int} {B : Nat} (h : Rd w p l) (hB : w.heap.size ≤ B) (hb : Below B w w') : Rd w' p l := by
  rcases h with h | ⟨b, off, rfl, hlt, h⟩
  · exact .inl h
  · exact .inr ⟨b, off, rfl, Nat.lt_of_lt_of_le hlt hb.size, fun i hi => by rw [hb.cell (show b < B by omega)]; exact h i hi⟩

theorem RdO.below {w w' : World} {p : Option Addr} {l : List Ord} {B : Nat} (h : RdO w p l) (hB : w.heap.size ≤ B) (hb : Below B w w') : RdO w' p l := by
  rcases h with h | ⟨b, off, rfl, hlt, h⟩
  · exact .inl h
  · refine .inr ⟨b, off, rfl, Nat.lt_of_lt_of_le hlt hb.size, fun i hi => ?_⟩
    rw [hb.cell (show b < B by omega), hb.cell (show b < B by omega), hb.cell (show b < B by omega), hb.cell (show b < B by omega), hb.cell (show b < B by omega)]
    exact h i hi

/-- Is it a register's number? -/
def isReg (a : Int) : Bool := decide (0 ≤ a ∧ a < 8)
theorem isReg_yes {a : Int} (h : 0 ≤ a) (h' : a ≤ 7) : isReg a = true := decide_eq_true ⟨h, by omega⟩
theorem isReg_low {a : Int} (h : a < 0) : isReg a = false := decide_eq_false (by omega)
theorem isReg_high {a : Int} (h : 7 < a) : isReg a = false := decide_eq_false (by omega)

/-- Is it an order of a program of n? -/
def isOrd (o : Ord) (n : Int) : Bool :=
  decide (0 ≤ o.op ∧ o.op ≤ 8 ∧ 0 ≤ o.d ∧ o.d ≤ 7 ∧ 0 ≤ o.a ∧ o.a ≤ 7 ∧ 0 ≤ o.b ∧ o.b ≤ 7 ∧ (o.op = 8 → 0 ≤ o.k ∧ o.k < n))

/-- Is it a program? -/
def isProg (l : List Ord) : Bool := decide (1 ≤ l.length ∧ l.length ≤ 40) && l.all fun o => isOrd o l.length

/-- Every way through the tests on an order. -/
theorem ord_ways (o : Ord) (n : Int) :
    (o.op < 0 ∧ isOrd o n = false) ∨ (0 ≤ o.op ∧ 8 < o.op ∧ isOrd o n = false) ∨ (0 ≤ o.op ∧ o.op ≤ 8 ∧ o.d < 0 ∧ isOrd o n = false) ∨ (0 ≤ o.op ∧ o.op ≤ 8 ∧ 0 ≤ o.d ∧ 7 < o.d ∧ isOrd o n = false) ∨
    (0 ≤ o.op ∧ o.op ≤ 8 ∧ 0 ≤ o.d ∧ o.d ≤ 7 ∧ o.a < 0 ∧ isOrd o n = false) ∨ (0 ≤ o.op ∧ o.op ≤ 8 ∧ 0 ≤ o.d ∧ o.d ≤ 7 ∧ 0 ≤ o.a ∧ 7 < o.a ∧ isOrd o n = false) ∨
    (0 ≤ o.op ∧ o.op ≤ 8 ∧ 0 ≤ o.d ∧ o.d ≤ 7 ∧ 0 ≤ o.a ∧ o.a ≤ 7 ∧ o.b < 0 ∧ isOrd o n = false) ∨ (0 ≤ o.op ∧ o.op ≤ 8 ∧ 0 ≤ o.d ∧ o.d ≤ 7 ∧ 0 ≤ o.a ∧ o.a ≤ 7 ∧ 0 ≤ o.b ∧ 7 < o.b ∧ isOrd o n = false) ∨
    (0 ≤ o.op ∧ o.op < 8 ∧ 0 ≤ o.d ∧ o.d ≤ 7 ∧ 0 ≤ o.a ∧ o.a ≤ 7 ∧ 0 ≤ o.b ∧ o.b ≤ 7 ∧ isOrd o n = true) ∨
    (o.op = 8 ∧ 0 ≤ o.d ∧ o.d ≤ 7 ∧ 0 ≤ o.a ∧ o.a ≤ 7 ∧ 0 ≤ o.b ∧ o.b ≤ 7 ∧ o.k < 0 ∧ isOrd o n = false) ∨
    (o.op = 8 ∧ 0 ≤ o.d ∧ o.d ≤ 7 ∧ 0 ≤ o.a ∧ o.a ≤ 7 ∧ 0 ≤ o.b ∧ o.b ≤ 7 ∧ 0 ≤ o.k ∧ n ≤ o.k ∧ isOrd o n = false) ∨
    (o.op = 8 ∧ 0 ≤ o.d ∧ o.d ≤ 7 ∧ 0 ≤ o.a ∧ o.a ≤ 7 ∧ 0 ≤ o.b ∧ o.b ≤ 7 ∧ 0 ≤ o.k ∧ o.k < n ∧ isOrd o n = true) := by
  by_cases h1 : o.op < 0
  · exact .inl ⟨h1, decide_eq_false fun h => absurd h.1 (by omega)⟩
  refine .inr ?_
  by_cases h2 : 8 < o.op
  · exact .inl ⟨by omega, h2, decide_eq_false fun h => absurd h.2.1 (by omega)⟩
  refine .inr ?_
  by_cases h3 : o.d < 0
  · exact .inl ⟨by omega, by omega, h3, decide_eq_false fun h => absurd h.2.2.1 (by omega)⟩
  refine .inr ?_
  by_cases h4 : 7 < o.d
  · exact .inl ⟨by omega, by omega, by omega, h4, decide_eq_false fun h => absurd h.2.2.2.1 (by omega)⟩
  refine .inr ?_
  by_cases h5 : o.a < 0
  · exact .inl ⟨by omega, by omega, by omega, by omega, h5, decide_eq_false fun h => absurd h.2.2.2.2.1 (by omega)⟩
  refine .inr ?_
  by_cases h6 : 7 < o.a
  · exact .inl ⟨by omega, by omega, by omega, by omega, by omega, h6, decide_eq_false fun h => absurd h.2.2.2.2.2.1 (by omega)⟩
  refine .inr ?_
  by_cases h7 : o.b < 0
  · exact .inl ⟨by omega, by omega, by omega, by omega, by omega, by omega, h7, decide_eq_false fun h => absurd h.2.2.2.2.2.2.1 (by omega)⟩
  refine .inr ?_
  by_cases h8 : 7 < o.b
  · exact .inl ⟨by omega, by omega, by omega, by omega, by omega, by omega, by omega, h8, decide_eq_false fun h => absurd h.2.2.2.2.2.2.2.1 (by omega)⟩
  refine .inr ?_
  by_cases h9 : o.op < 8
  · exact .inl ⟨by omega, h9, by omega, by omega, by omega, by omega, by omega, by omega, decide_eq_true ⟨by omega, by omega, by omega, by omega, by omega, by omega, by omega, by omega, fun h => absurd h (by omega)⟩⟩
  have e : o.op = 8 := by omega
  refine .inr ?_
  by_cases h10 : o.k < 0
  · exact .inl ⟨e, by omega, by omega, by omega, by omega, by omega, by omega, h10, decide_eq_false fun h => absurd (h.2.2.2.2.2.2.2.2 e).1 (by omega)⟩
  refine .inr ?_
  by_cases h11 : n ≤ o.k
  · exact .inl ⟨e, by omega, by omega, by omega, by omega, by omega, by omega, by omega, h11, decide_eq_false fun h => absurd (h.2.2.2.2.2.2.2.2 e).2 (by omega)⟩
  exact .inr ⟨e, by omega, by omega, by omega, by omega, by omega, by omega, by omega, by omega, decide_eq_true ⟨by omega, by omega, by omega, by omega, by omega, by omega, by omega, by omega, fun _ => ⟨by omega, by omega⟩⟩⟩

theorem isProg_no {l : List Ord} {k : Nat} (hk : k < l.length) (h : isOrd (l.getD k Ord.none) l.length = false) : isProg l = false := by
  unfold isProg
  have : l.all (fun o => isOrd o l.length) = false := by
    rw [List.all_eq_false]
    refine ⟨l[k], List.getElem_mem hk, ?_⟩
    simp only [List.getD_eq_getElem?_getD, List.getElem?_eq_getElem hk, Option.getD_some] at h
    simp [h]
  rw [this, Bool.and_false]

theorem isProg_size {l : List Ord} (h : ¬ (1 ≤ l.length ∧ l.length ≤ 40)) : isProg l = false := by
  unfold isProg
  rw [decide_eq_false h, Bool.false_and]

theorem isProg_yes {l : List Ord} (h : 1 ≤ l.length ∧ l.length ≤ 40) (ha : ∀ j, j < l.length → isOrd (l.getD j Ord.none) l.length = true) : isProg l = true := by
  unfold isProg
  rw [decide_eq_true h, Bool.true_and, List.all_eq_true]
  intro o ho
  obtain ⟨j, hj, rfl⟩ := List.getElem_of_mem ho
  have := ha j hj
  simpa [List.getD_eq_getElem?_getD, List.getElem?_eq_getElem hj] using this

theorem isProg_spec {l : List Ord} (h : isProg l = true) : (1 ≤ l.length ∧ l.length ≤ 40) ∧ ∀ j, j < l.length → isOrd (l.getD j Ord.none) l.length = true := by
  unfold isProg at h
  rw [Bool.and_eq_true, List.all_eq_true] at h
  refine ⟨of_decide_eq_true h.1, fun j hj => ?_⟩
  have := h.2 l[j] (List.getElem_mem hj)
  simpa [List.getD_eq_getElem?_getD, List.getElem?_eq_getElem hj] using this

theorem bcell {W w1 : World} (hb : Below W.heap.size W w1) : (∀ b o, b < W.heap.size → w1.cell? ⟨b, o, none⟩ = W.cell? ⟨b, o, none⟩) ∧ (∀ b o, b < W.heap.size → w1.frozen? ⟨b, o, none⟩ = W.frozen? ⟨b, o, none⟩) :=
  ⟨fun b o h => hb.cell (p := ⟨b, o, none⟩) h, fun b o h => hb.frozen (p := ⟨b, o, none⟩) h⟩

theorem cell_far {w : World} {B o b o' : Nat} {v : Value} (h : b ≠ B) : (w.setCell ⟨B, o, none⟩ v).cell? ⟨b, o', none⟩ = w.cell? ⟨b, o', none⟩ :=
  World.cell?_of_block (Below.heap_setCell w ⟨B, o, none⟩ v b h)
theorem frozen_far {w : World} {B o b o' : Nat} {v : Value} (h : b ≠ B) : (w.setCell ⟨B, o, none⟩ v).frozen? ⟨b, o', none⟩ = w.frozen? ⟨b, o', none⟩ :=
  World.frozen?_of_block (Below.heap_setCell w ⟨B, o, none⟩ v b h)

theorem list_ext_getD {la lb : List Int} (h : la.length = lb.length) (hs : ∀ j, j < la.length → la.getD j 0 = lb.getD j 0) : la = lb := by
  apply List.ext_getElem h
  intro i h1 h2
  have := hs i h1
  simpa [List.getD_eq_getElem?_getD, h1, h2] using this

theorem ret_bool {a b : Bool} (h : a = b) : Ending.returned (.bool a) = .returned (.bool b) := by rw [h]
theorem ret_int {k : IntKind} {a b : Int} (h : a = b) : Ending.returned (.int k a) = .returned (.int k b) := by rw [h]

end Go.Proofs.YtmeiogoodbnkkaaGreat
