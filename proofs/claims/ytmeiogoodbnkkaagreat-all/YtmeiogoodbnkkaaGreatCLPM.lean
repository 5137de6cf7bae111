/- Several texts in one: L, M, PM. -/
import Derived.WalkKit
import Derived.WalkSpells
import Derived.WalkSmall
/- Plain words on memory: a list of numbers read behind a slice's first cell. -/
namespace Go.Proofs.YtmeiogoodbnkkaaGreat
open Go.RowKit

/-- The words that stand behind p in w are l (of nothing p may be anything). -/
def Rd (w : World) (p : Option Addr) (l : List Int) : Prop :=
  l = [] ∨ ∃ b off, p = some ⟨b, off, none⟩ ∧ b < w.heap.size ∧ ∀ i, i < l.length → w.cell? ⟨b, off + i, none⟩ = some (.int .i64 (l.getD i 0))

theorem hide {p : Prop} (h : p) : Hid p := h

theorem Rd.at {w : World} {p : Option Addr} {l : List Int} (h : Rd w p l) {i : Nat} (hi : i < l.length) :
    ∃ b off, p = some ⟨b, off, none⟩ ∧ b < w.heap.size ∧ ∀ i, i < l.length → w.cell? ⟨b, off + i, none⟩ = some (.int .i64 (l.getD i 0)) := by
  rcases h with rfl | h
  · simp at hi
  · exact h

/-- An order, as numbers. -/
structure Ord where
  op : Int
  d : Int
  a : Int
  b : Int
  k : Int

def Ord.none : Ord := ⟨0, 0, 0, 0, 0⟩

/-- The orders that stand behind p in w are l (of nothing p may be anything). -/
def RdO (w : World) (p : Option Addr) (l : List Ord) : Prop :=
  l = [] ∨ ∃ b off, p = some ⟨b, off, none⟩ ∧ b < w.heap.size ∧ ∀ i, i < l.length →
    w.cell? ⟨b, off + i * 5, none⟩ = some (.int .i64 (l.getD i Ord.none).op) ∧ w.cell? ⟨b, off + i * 5 + 1, none⟩ = some (.int .i64 (l.getD i Ord.none).d) ∧
    w.cell? ⟨b, off + i * 5 + 2, none⟩ = some (.int .i64 (l.getD i Ord.none).a) ∧ w.cell? ⟨b, off + i * 5 + 3, none⟩ = some (.int .i64 (l.getD i Ord.none).b) ∧
    w.cell? ⟨b, off + i * 5 + 4, none⟩ = some (.int .i64 (l.getD i Ord.none).k)

theorem RdO.at {w : World} {p : Option Addr} {l : List Ord} (h : RdO w p l) {i : Nat} (hi : i < l.length) :
    ∃ b off, p = some ⟨b, off, none⟩ ∧ b < w.heap.size ∧
    w.cell? ⟨b, off + i * 5, none⟩ = some (.int .i64 (l.getD i Ord.none).op) ∧ w.cell? ⟨b, off + i * 5 + 1, none⟩ = some (.int .i64 (l.getD i Ord.none).d) ∧
    w.cell? ⟨b, off + i * 5 + 2, none⟩ = some (.int .i64 (l.getD i Ord.none).a) ∧ w.cell? ⟨b, off + i * 5 + 3, none⟩ = some (.int .i64 (l.getD i Ord.none).b) ∧
    w.cell? ⟨b, off + i * 5 + 4, none⟩ = some (.int .i64 (l.getD i Ord.none).k) := by
  rcases h with rfl | ⟨b, off, rfl, hb, h⟩
  · simp at hi
  · exact ⟨b, off, rfl, hb, h i hi⟩

theorem Rd.below {w w' : World} {p : Option Addr} {l : List Int} {B : Nat} (h : Rd w p l) (hB : w.heap.size ≤ B) (hb : Below B w w') : Rd w' p l := by
  rcases h with h | ⟨b, off, rfl, hlt, h⟩
  · exact .inl h
  · exact .inr ⟨b, off, rfl, Nat.lt_of_lt_of_le hlt hb.size, fun i hi => by rw [hb.cell (show b < B by omega)]; exact h i hi⟩

theorem RdO.below {w w' : World} {p : Option Addr} {l : List Ord} {B : Nat} (h : RdO w p l) (hB : w.heap.size ≤ B) (hb : Below B w w') : RdO w' p l := by
  rcases h with h | ⟨b, off, rfl, hlt, h⟩
  · exact .inl h
  · refine .inr ⟨b, off, rfl, Nat.lt_of_lt_of_le hlt hb.size, fun i hi => ?_⟩
    rw [hb.cell (show b < B by omega), hb.cell (show b < B by omega), hb.cell (show b < B by omega), hb.cell (show b < B by omega), hb.cell (show b < B by omega)]
    exact h i hi

/-- Is it a register's number? -/
def isReg (a : Int) : Bool := decide (0 ≤ a ∧ a < 8)
theorem isReg_yes {a : Int} (h : 0 ≤ a) (h' : a ≤ 7) : isReg a = true := decide_eq_true ⟨h, by omega⟩
theorem isReg_low {a : Int} (h : a < 0) : isReg a = false := decide_eq_false (by omega)
theorem isReg_high {a : Int} (h : 7 < a) : isReg a = false := decide_eq_false (by omega)

/-- Is it an order of a program of n? -/
def isOrd (o : Ord) (n : Int) : Bool :=
  decide (0 ≤ o.op ∧ o.op ≤ 8 ∧ 0 ≤ o.d ∧ o.d ≤ 7 ∧ 0 ≤ o.a ∧ o.a ≤ 7 ∧ 0 ≤ o.b ∧ o.b ≤ 7 ∧ (o.op = 8 → 0 ≤ o.k ∧ o.k < n))

/-- Is it a program? -/
def isProg (l : List Ord) : Bool := decide (1 ≤ l.length ∧ l.length ≤ 40) && l.all fun o => isOrd o l.length

/-- Every way through the tests on an order. -/
theorem ord_ways (o : Ord) (n : Int) :
    (o.op < 0 ∧ isOrd o n = false) ∨ (0 ≤ o.op ∧ 8 < o.op ∧ isOrd o n = false) ∨ (0 ≤ o.op ∧ o.op ≤ 8 ∧ o.d < 0 ∧ isOrd o n = false) ∨ (0 ≤ o.op ∧ o.op ≤ 8 ∧ 0 ≤ o.d ∧ 7 < o.d ∧ isOrd o n = false) ∨
    (0 ≤ o.op ∧ o.op ≤ 8 ∧ 0 ≤ o.d ∧ o.d ≤ 7 ∧ o.a < 0 ∧ isOrd o n = false) ∨ (0 ≤ o.op ∧ o.op ≤ 8 ∧ 0 ≤ o.d ∧ o.d ≤ 7 ∧ 0 ≤ o.a ∧ 7 < o.a ∧ isOrd o n = false) ∨
    (0 ≤ o.op ∧ o.op ≤ 8 ∧ 0 ≤ o.d ∧ o.d ≤ 7 ∧ 0 ≤ o.a ∧ o.a ≤ 7 ∧ o.b < 0 ∧ isOrd o n = false) ∨ (0 ≤ o.op ∧ o.op ≤ 8 ∧ 0 ≤ o.d ∧ o.d ≤ 7 ∧ 0 ≤ o.a ∧ o.a ≤ 7 ∧ 0 ≤ o.b ∧ 7 < o.b ∧ isOrd o n = false) ∨
    (0 ≤ o.op ∧ o.op < 8 ∧ 0 ≤ o.d ∧ o.d ≤ 7 ∧ 0 ≤ o.a ∧ o.a ≤ 7 ∧ 0 ≤ o.b ∧ o.b ≤ 7 ∧ isOrd o n = true) ∨
    (o.op = 8 ∧ 0 ≤ o.d ∧ o.d ≤ 7 ∧ 0 ≤ o.a ∧ o.a ≤ 7 ∧ 0 ≤ o.b ∧ o.b ≤ 7 ∧ o.k < 0 ∧ isOrd o n = false) ∨
    (o.op = 8 ∧ 0 ≤ o.d ∧ o.d ≤ 7 ∧ 0 ≤ o.a ∧ o.a ≤ 7 ∧ 0 ≤ o.b ∧ o.b ≤ 7 ∧ 0 ≤ o.k ∧ n ≤ o.k ∧ isOrd o n = false) ∨
    (o.op = 8 ∧ 0 ≤ o.d ∧ o.d ≤ 7 ∧ 0 ≤ o.a ∧ o.a ≤ 7 ∧ 0 ≤ o.b ∧ o.b ≤ 7 ∧ 0 ≤ o.k ∧ o.k < n ∧ isOrd o n = true) := by
  by_cases h1 : o.op < 0
  · exact .inl ⟨h1, decide_eq_false fun h => absurd h.1 (by omega)⟩
  refine .inr ?_
  by_cases h2 : 8 < o.op
  · exact .inl ⟨by omega, h2, decide_eq_false fun h => absurd h.2.1 (by omega)⟩
  refine .inr ?_
  by_cases h3 : o.d < 0
  · exact .inl ⟨by omega, by omega, h3, decide_eq_false fun h => absurd h.2.2.1 (by omega)⟩
  refine .inr ?_
  by_cases h4 : 7 < o.d
  · exact .inl ⟨by omega, by omega, by omega, h4, decide_eq_false fun h => absurd h.2.2.2.1 (by omega)⟩
  refine .inr ?_
  by_cases h5 : o.a < 0
  · exact .inl ⟨by omega, by omega, by omega, by omega, h5, decide_eq_false fun h => absurd h.2.2.2.2.1 (by omega)⟩
  refine .inr ?_
  by_cases h6 : 7 < o.a
  · exact .inl ⟨by omega, by omega, by omega, by omega, by omega, h6, decide_eq_false fun h => absurd h.2.2.2.2.2.1 (by omega)⟩
  refine .inr ?_
  by_cases h7 : o.b < 0
  · exact .inl ⟨by omega, by omega, by omega, by omega, by omega, by omega, h7, decide_eq_false fun h => absurd h.2.2.2.2.2.2.1 (by omega)⟩
  refine .inr ?_
  by_cases h8 : 7 < o.b
  · exact .inl ⟨by omega, by omega, by omega, by omega, by omega, by omega, by omega, h8, decide_eq_false fun h => absurd h.2.2.2.2.2.2.2.1 (by omega)⟩
  refine .inr ?_
  by_cases h9 : o.op < 8
  · exact .inl ⟨by omega, h9, by omega, by omega, by omega, by omega, by omega, by omega, decide_eq_true ⟨by omega, by omega, by omega, by omega, by omega, by omega, by omega, by omega, fun h => absurd h (by omega)⟩⟩
  have e : o.op = 8 := by omega
  refine .inr ?_
  by_cases h10 : o.k < 0
  · exact .inl ⟨e, by omega, by omega, by omega, by omega, by omega, by omega, h10, decide_eq_false fun h => absurd (h.2.2.2.2.2.2.2.2 e).1 (by omega)⟩
  refine .inr ?_
  by_cases h11 : n ≤ o.k
  · exact .inl ⟨e, by omega, by omega, by omega, by omega, by omega, by omega, by omega, h11, decide_eq_false fun h => absurd (h.2.2.2.2.2.2.2.2 e).2 (by omega)⟩
  exact .inr ⟨e, by omega, by omega, by omega, by omega, by omega, by omega, by omega, by omega, decide_eq_true ⟨by omega, by omega, by omega, by omega, by omega, by omega, by omega, by omega, fun _ => ⟨by omega, by omega⟩⟩⟩

theorem isProg_no {l : List Ord} {k : Nat} (hk : k < l.length) (h : isOrd (l.getD k Ord.none) l.length = false) : isProg l = false := by
  unfold isProg
  have : l.all (fun o => isOrd o l.length) = false := by
    rw [List.all_eq_false]
    refine ⟨l[k], List.getElem_mem hk, ?_⟩
    simp only [List.getD_eq_getElem?_getD, List.getElem?_eq_getElem hk, Option.getD_some] at h
    simp [h]
  rw [this, Bool.and_false]

theorem isProg_size {l : List Ord} (h : ¬ (1 ≤ l.length ∧ l.length ≤ 40)) : isProg l = false := by
  unfold isProg
  rw [decide_eq_false h, Bool.false_and]

theorem isProg_yes {l : List Ord} (h : 1 ≤ l.length ∧ l.length ≤ 40) (ha : ∀ j, j < l.length → isOrd (l.getD j Ord.none) l.length = true) : isProg l = true := by
  unfold isProg
  rw [decide_eq_true h, Bool.true_and, List.all_eq_true]
  intro o ho
  obtain ⟨j, hj, rfl⟩ := List.getElem_of_mem ho
  have := ha j hj
  simpa [List.getD_eq_getElem?_getD, List.getElem?_eq_getElem hj] using this

theorem isProg_spec {l : List Ord} (h : isProg l = true) : (1 ≤ l.length ∧ l.length ≤ 40) ∧ ∀ j, j < l.length → isOrd (l.getD j Ord.none) l.length = true := by
  unfold isProg at h
  rw [Bool.and_eq_true, List.all_eq_true] at h
  refine ⟨of_decide_eq_true h.1, fun j hj => ?_⟩
  have := h.2 l[j] (List.getElem_mem hj)
  simpa [List.getD_eq_getElem?_getD, List.getElem?_eq_getElem hj] using this

theorem bcell {W w1 : World} (hb : Below W.heap.size W w1) : (∀ b o, b < W.heap.size → w1.cell? ⟨b, o, none⟩ = W.cell? ⟨b, o, none⟩) ∧ (∀ b o, b < W.heap.size → w1.frozen? ⟨b, o, none⟩ = W.frozen? ⟨b, o, none⟩) :=
  ⟨fun b o h => hb.cell (p := ⟨b, o, none⟩) h, fun b o h => hb.frozen (p := ⟨b, o, none⟩) h⟩

theorem cell_far {w : World} {B o b o' : Nat} {v : Value} (h : b ≠ B) : (w.setCell ⟨B, o, none⟩ v).cell? ⟨b, o', none⟩ = w.cell? ⟨b, o', none⟩ :=
  World.cell?_of_block (Below.heap_setCell w ⟨B, o, none⟩ v b h)
theorem frozen_far {w : World} {B o b o' : Nat} {v : Value} (h : b ≠ B) : (w.setCell ⟨B, o, none⟩ v).frozen? ⟨b, o', none⟩ = w.frozen? ⟨b, o', none⟩ :=
  World.frozen?_of_block (Below.heap_setCell w ⟨B, o, none⟩ v b h)

theorem list_ext_getD {la lb : List Int} (h : la.length = lb.length) (hs : ∀ j, j < la.length → la.getD j 0 = lb.getD j 0) : la = lb := by
  apply List.ext_getElem h
  intro i h1 h2
  have := hs i h1
  simpa [List.getD_eq_getElem?_getD, h1, h2] using this

theorem ret_bool {a b : Bool} (h : a = b) : Ending.returned (.bool a) = .returned (.bool b) := by rw [h]
theorem ret_int {k : IntKind} {a b : Int} (h : a = b) : Ending.returned (.int k a) = .returned (.int k b) := by rw [h]

end Go.Proofs.YtmeiogoodbnkkaaGreat

/- The document's answer as plain functions of numbers; a state in memory. -/
namespace Go.Proofs.YtmeiogoodbnkkaaGreat
open Go.RowKit

/-- Of an order whose A and B have these values, over a memory: the trap, the value, the word's number. -/
def eff (o : Ord) (a b : Int) (mem : List Int) : Int × Int × Int :=
  if o.op = 1 then (0, o.k, 0)
  else if o.op = 2 then (0, wrap64 (a + b), 0)
  else if o.op = 3 then (0, wrap64 (a - b), 0)
  else if o.op = 4 then (0, wrap64 (a * b), 0)
  else if o.op = 5 then (if b = 0 then (1, 0, 0) else (0, wrap64 (a.tdiv b), 0))
  else if wrap64 (a + o.k) < 0 ∨ (mem.length : Int) ≤ wrap64 (a + o.k) then (2, 0, 0)
  else if o.op = 6 then (0, mem.getD (wrap64 (a + o.k)).toNat 0, wrap64 (a + o.k))
  else (0, b, wrap64 (a + o.k))

/-- What the code's work of an order answers: the target, the place, the value, the trap. -/
def wk (o : Ord) (n a b : Int) (mem : List Int) : Int × Int × Int × Int :=
  if o.op = 8 then (3, 0, if a = 0 then o.k else n + 1, 0)
  else if (eff o a b mem).1 = 0 then (if o.op = 7 then (2, (eff o a b mem).2.2, (eff o a b mem).2.1, 0) else (1, o.d, (eff o a b mem).2.1, 0))
  else (0, 0, 0, (eff o a b mem).1)

/-- A state behind some orders. -/
structure St where
  regs : List Int
  mem : List Int
  next : Nat
  steps : Nat

/-- One order done, or its trap and the state as it was. -/
def doOne (o : Ord) (s : St) : Int × St :=
  let a := s.regs.getD o.a.toNat 0
  let b := s.regs.getD o.b.toNat 0
  if o.op = 8 then (0, ⟨s.regs, s.mem, if a = 0 then o.k.toNat else s.next + 1, s.steps + 1⟩)
  else if (eff o a b s.mem).1 = 0 then
    (0, ⟨if o.op = 7 then s.regs else s.regs.set o.d.toNat (eff o a b s.mem).2.1, if o.op = 7 then s.mem.set (eff o a b s.mem).2.2.toNat (eff o a b s.mem).2.1 else s.mem, s.next + 1, s.steps + 1⟩)
  else ((eff o a b s.mem).1, s)

theorem eff7_in {rd ra rb k a b : Int} {mem : List Int} (h : (eff ⟨7, rd, ra, rb, k⟩ a b mem).1 = 0) : ¬ (wrap64 (a + k) < 0 ∨ (mem.length : Int) ≤ wrap64 (a + k)) := by
  intro h'; simp [eff, h'] at h
theorem eff7 {rd ra rb k a b : Int} {mem : List Int} (h : ¬ (wrap64 (a + k) < 0 ∨ (mem.length : Int) ≤ wrap64 (a + k))) : eff ⟨7, rd, ra, rb, k⟩ a b mem = (0, b, wrap64 (a + k)) := by
  simp [eff, h]
theorem wk7 {rd ra rb k n a b v p : Int} {mem : List Int} (h : eff ⟨7, rd, ra, rb, k⟩ a b mem = (0, v, p)) : wk ⟨7, rd, ra, rb, k⟩ n a b mem = (2, p, v, 0) := by
  simp [wk, h]
theorem wk_reg {op rd ra rb k n a b : Int} {mem : List Int} (h8 : op ≠ 8) (h7 : op ≠ 7) (h : (eff ⟨op, rd, ra, rb, k⟩ a b mem).1 = 0) : wk ⟨op, rd, ra, rb, k⟩ n a b mem = (1, rd, (eff ⟨op, rd, ra, rb, k⟩ a b mem).2.1, 0) := by
  simp [wk, h, h8, h7]
theorem wk_trap {op rd ra rb k n a b : Int} {mem : List Int} (h8 : op ≠ 8) (h : (eff ⟨op, rd, ra, rb, k⟩ a b mem).1 ≠ 0) : wk ⟨op, rd, ra, rb, k⟩ n a b mem = (0, 0, 0, (eff ⟨op, rd, ra, rb, k⟩ a b mem).1) := by
  simp [wk, h, h8]
theorem doOne7 {rd ra rb : Nat} {k v p : Int} {s : St} (h : eff ⟨7, rd, ra, rb, k⟩ (s.regs.getD ra 0) (s.regs.getD rb 0) s.mem = (0, v, p)) :
    doOne ⟨7, rd, ra, rb, k⟩ s = (0, ⟨s.regs, s.mem.set p.toNat v, s.next + 1, s.steps + 1⟩) := by
  unfold doOne
  simp only [Int.toNat_natCast]
  rw [h]
  simp
theorem doOne_reg {rd ra rb : Nat} {op k : Int} {s : St} (h8 : op ≠ 8) (h7 : op ≠ 7) (h : (eff ⟨op, rd, ra, rb, k⟩ (s.regs.getD ra 0) (s.regs.getD rb 0) s.mem).1 = 0) :
    doOne ⟨op, rd, ra, rb, k⟩ s = (0, ⟨s.regs.set rd (eff ⟨op, rd, ra, rb, k⟩ (s.regs.getD ra 0) (s.regs.getD rb 0) s.mem).2.1, s.mem, s.next + 1, s.steps + 1⟩) := by
  unfold doOne
  simp only [Int.toNat_natCast]
  rw [if_neg h8, if_pos h, if_neg h7, if_neg h7]
theorem doOne_trap {rd ra rb : Nat} {op k : Int} {s : St} (h8 : op ≠ 8) (h : (eff ⟨op, rd, ra, rb, k⟩ (s.regs.getD ra 0) (s.regs.getD rb 0) s.mem).1 ≠ 0) :
    doOne ⟨op, rd, ra, rb, k⟩ s = ((eff ⟨op, rd, ra, rb, k⟩ (s.regs.getD ra 0) (s.regs.getD rb 0) s.mem).1, s) := by
  unfold doOne
  simp only [Int.toNat_natCast]
  rw [if_neg h8, if_neg h]

/-- The orders one by one: the state, why it stopped, the trap. -/
def goOn (prog : List Ord) (steps : Nat) : Nat → St → St × Int × Int
  | 0, s => (s, 2, 0)
  | f + 1, s =>
    if (prog.getD s.next Ord.none).op = 0 then (s, 0, 0)
    else if s.steps = steps then (s, 2, 0)
    else if (doOne (prog.getD s.next Ord.none) s).1 = 0 then goOn prog steps f (doOne (prog.getD s.next Ord.none) s).2
    else (s, 1, (doOne (prog.getD s.next Ord.none) s).1)

/-- The error that the document asks for. -/
def refuse (prog : List Ord) (n : Nat) (steps : Int) : Int :=
  if isProg prog = false then 1 else if 16 < n then 2 else if steps < 1 ∨ 400 < steps then 3 else 0

def start (mem : List Int) : St := ⟨[0, 0, 0, 0, 0, 0, 0, 0], mem, 0, 0⟩

/-- The answer of Plain where nothing is refused. -/
def plainSt (prog : List Ord) (mem : List Int) (steps : Nat) : St × Int × Int := goOn prog steps (steps + 1) (start mem)

/-- What holds of a state on its way. -/
structure Fine (prog : List Ord) (n steps : Nat) (s : St) : Prop where
  regs : s.regs.length = 8
  mem : s.mem.length = n
  next : s.next ≤ prog.length
  steps : s.steps ≤ steps

theorem isOrd_spec {o : Ord} {n : Int} (h : isOrd o n = true) : 0 ≤ o.op ∧ o.op ≤ 8 ∧ 0 ≤ o.d ∧ o.d ≤ 7 ∧ 0 ≤ o.a ∧ o.a ≤ 7 ∧ 0 ≤ o.b ∧ o.b ≤ 7 ∧ (o.op = 8 → 0 ≤ o.k ∧ o.k < n) := of_decide_eq_true h

theorem Fine.one {prog : List Ord} {n steps : Nat} {s : St} (h : Fine prog n steps s) (hp : isProg prog = true) (hn : (prog.getD s.next Ord.none).op ≠ 0) (hs : s.steps ≠ steps) :
    Fine prog n steps (doOne (prog.getD s.next Ord.none) s).2 := by
  obtain ⟨_, hall⟩ := isProg_spec hp
  have hlt : s.next < prog.length := by
    rcases Nat.lt_or_ge s.next prog.length with h' | h'
    · exact h'
    · exact absurd (by simp [List.getD_eq_getElem?_getD, List.getElem?_eq_none h', Ord.none]) hn
  have ho := isOrd_spec (hall s.next hlt)
  generalize prog.getD s.next Ord.none = o at *
  obtain ⟨h1, h2, h3, h4⟩ := h
  unfold doOne
  simp only
  split
  · refine ⟨h1, h2, ?_, by simp only; omega⟩
    simp only
    split
    · rename_i h8 _; have := ho.2.2.2.2.2.2.2.2 h8; omega
    · omega
  · split
    · refine ⟨?_, ?_, by simp only; omega, by simp only; omega⟩
      · simp only; split <;> simp [h1]
      · simp only; split <;> simp [h2]
    · exact ⟨h1, h2, h3, h4⟩

/-- The cells of a state. -/
def stCells (regs : List Int) (mv : Value) (next stop trap steps : Int) : List Value := regs.map (Value.int .i64) ++ [mv, .int .i64 next, .int .i64 stop, .int .i64 trap, .int .i64 steps]

def StAt (w : World) (sb : Nat) (regs : List Int) (mv : Value) (next stop trap steps : Int) : Prop :=
  regs.length = 8 ∧ w.heap[sb]? = some (.cells (stCells regs mv next stop trap steps).toArray 46 (0, 0))

section
variable {w w' : World} {sb : Nat} {regs : List Int} {mv : Value} {next stop trap steps : Int}

theorem StAt.lt (h : StAt w sb regs mv next stop trap steps) : sb < w.heap.size := (Array.getElem?_eq_some_iff.1 h.2).1

theorem StAt.reg (h : StAt w sb regs mv next stop trap steps) {i : Nat} (hi : i < 8) : w.cell? ⟨sb, i, none⟩ = some (.int .i64 (regs.getD i 0)) := by
  rw [cell_of_row w sb i _ _ _ h.2]
  have : i < (regs.map (Value.int .i64)).length := by simp [h.1, hi]
  simp [stCells, List.getElem?_append_left this, List.getD_eq_getElem?_getD, show i < regs.length by rw [h.1]; exact hi]

theorem StAt.more (h : StAt w sb regs mv next stop trap steps) (j : Nat) : w.cell? ⟨sb, 8 + j, none⟩ = [mv, .int .i64 next, .int .i64 stop, .int .i64 trap, .int .i64 steps][j]? := by
  rw [cell_of_row w sb _ _ _ _ h.2]
  simp only [stCells, List.getElem?_toArray]
  rw [List.getElem?_append_right (by simp [h.1])]
  simp [h.1]

theorem StAt.cMv (h : StAt w sb regs mv next stop trap steps) : w.cell? ⟨sb, 8, none⟩ = some mv := h.more 0
theorem StAt.cNext (h : StAt w sb regs mv next stop trap steps) : w.cell? ⟨sb, 9, none⟩ = some (.int .i64 next) := h.more 1
theorem StAt.cStop (h : StAt w sb regs mv next stop trap steps) : w.cell? ⟨sb, 10, none⟩ = some (.int .i64 stop) := h.more 2
theorem StAt.cTrap (h : StAt w sb regs mv next stop trap steps) : w.cell? ⟨sb, 11, none⟩ = some (.int .i64 trap) := h.more 3
theorem StAt.cSteps (h : StAt w sb regs mv next stop trap steps) : w.cell? ⟨sb, 12, none⟩ = some (.int .i64 steps) := h.more 4

theorem StAt.frozen (h : StAt w sb regs mv next stop trap steps) (j : Nat) : w.frozen? ⟨sb, j, none⟩ = false := by
  simp [World.frozen?, h.2]

theorem StAt.below {B : Nat} (h : StAt w sb regs mv next stop trap steps) (hb : Below B w w') (hB : sb < B) : StAt w' sb regs mv next stop trap steps :=
  ⟨h.1, by rw [hb.block sb hB]; exact h.2⟩

theorem StAt.far (h : StAt w sb regs mv next stop trap steps) {a : Addr} {v : Value} (ha : sb ≠ a.block) : StAt (w.setCell a v) sb regs mv next stop trap steps :=
  ⟨h.1, by rw [Below.heap_setCell _ _ _ _ ha]; exact h.2⟩

theorem StAt.setReg (h : StAt w sb regs mv next stop trap steps) {j : Nat} (hj : j < 8) (v : Int) : StAt (w.setCell ⟨sb, j, none⟩ (.int .i64 v)) sb (regs.set j v) mv next stop trap steps := by
  refine ⟨by simp [h.1], ?_⟩
  rw [heap_setCell_same w sb j _ _ _ h.2]
  have : j < (regs.map (Value.int .i64)).length := by simp [h.1, hj]
  simp only [stCells, List.setIfInBounds_toArray, List.set_append_left _ _ this, List.map_set]

theorem StAt.setMore (h : StAt w sb regs mv next stop trap steps) (j : Nat) (v : Value) :
    (w.setCell ⟨sb, 8 + j, none⟩ v).heap[sb]? = some (.cells (regs.map (Value.int .i64) ++ [mv, .int .i64 next, .int .i64 stop, .int .i64 trap, .int .i64 steps].set j v).toArray 46 (0, 0)) := by
  rw [heap_setCell_same w sb _ _ _ _ h.2]
  simp only [stCells, List.setIfInBounds_toArray]
  rw [List.set_append_right _ _ (by simp [h.1])]
  simp [h.1]

theorem StAt.setNext (h : StAt w sb regs mv next stop trap steps) (v : Int) : StAt (w.setCell ⟨sb, 9, none⟩ (.int .i64 v)) sb regs mv v stop trap steps := ⟨h.1, h.setMore 1 _⟩
theorem StAt.setStop (h : StAt w sb regs mv next stop trap steps) (v : Int) : StAt (w.setCell ⟨sb, 10, none⟩ (.int .i64 v)) sb regs mv next v trap steps := ⟨h.1, h.setMore 2 _⟩
theorem StAt.setTrap (h : StAt w sb regs mv next stop trap steps) (v : Int) : StAt (w.setCell ⟨sb, 11, none⟩ (.int .i64 v)) sb regs mv next stop v steps := ⟨h.1, h.setMore 3 _⟩
theorem StAt.setSteps (h : StAt w sb regs mv next stop trap steps) (v : Int) : StAt (w.setCell ⟨sb, 12, none⟩ (.int .i64 v)) sb regs mv next stop trap v := ⟨h.1, h.setMore 4 _⟩
end

theorem below_set {B : Nat} {w w' : World} (h : Below B w w') (a : Addr) (v : Value) : Below B (w.setCell a v) (w'.setCell a v) :=
  ⟨h.os, h.tape, h.output, by simpa [World.setCell] using h.size, fun k hk => by simp only [World.setCell, Array.getElem?_modify, h.block k hk]⟩

/-- The words that a slice value owns. -/
def Own (w : World) (B : Nat) (mv : Value) (mem : List Int) : Prop := w.ownsRow B 2 1 mv mem.length (mem.map (Value.int .i64))

theorem Own.form {w : World} {B : Nat} {mv : Value} {mem : List Int} (h : Own w B mv mem) :
    (mv = .slice none 0 0 ∧ mem = []) ∨ ∃ g cap cur, mv = .slice (some ⟨g, 0, none⟩) mem.length cap ∧ B ≤ g ∧ g < w.heap.size ∧ w.heap[g]? = some (.cells cur 2 (0, 0)) ∧ mem.length ≤ cap ∧ cap ≤ maxLen ∧ cur.size = cap ∧ cur.toList.take mem.length = mem.map (Value.int .i64) := by
  rcases h.2 with ⟨h1, h2⟩ | ⟨g, cap, cur, h1, h2, h3, h4, h5, h6, h7⟩
  · exact .inl ⟨h1, List.length_eq_zero_iff.1 h2⟩
  · exact .inr ⟨g, cap, cur, h1, h2, (Array.getElem?_eq_some_iff.1 h3).1, h3, h4, h5, by simpa using h6, by simpa using h7⟩

theorem Own.below {w w' : World} {B B' : Nat} {mv : Value} {mem : List Int} (h : Own w B mv mem) (hb : Below B' w w') (hB : ∀ g, mv.ownBlock = some g → g < B') : Own w' B mv mem := by
  refine ⟨h.1, ?_⟩
  rcases h.2 with h2 | ⟨g, cap, cur, rfl, h2, h3, rest⟩
  · exact .inl h2
  · exact .inr ⟨g, cap, cur, rfl, h2, by rw [hb.block g (hB g rfl)]; exact h3, rest⟩

theorem Own.far {w : World} {B : Nat} {mv : Value} {mem : List Int} (h : Own w B mv mem) {a : Addr} {v : Value} (ha : mv.ownBlock ≠ some a.block) : Own (w.setCell a v) B mv mem := by
  refine ⟨h.1, ?_⟩
  rcases h.2 with h2 | ⟨g, cap, cur, rfl, h2, h3, rest⟩
  · exact .inl h2
  · refine .inr ⟨g, cap, cur, rfl, h2, ?_, rest⟩
    rw [Below.heap_setCell _ _ _ _ (fun e => ha (by simp [Value.ownBlock, e]))]
    exact h3

theorem Own.lt {w : World} {B : Nat} {mv : Value} {mem : List Int} (h : Own w B mv mem) : ∀ g, mv.ownBlock = some g → B ≤ g ∧ g < w.heap.size := World.ownsRow.lt h

theorem Own.slice {w : World} {B : Nat} {mv : Value} {mem : List Int} (h : Own w B mv mem) : ∃ p c, mv = .slice p mem.length c ∧ Rd w p mem := by
  rcases h.form with ⟨rfl, rfl⟩ | ⟨g, cap, cur, rfl, hB, hg, hh, hc, hm, hs, ht⟩
  · exact ⟨none, 0, rfl, .inl rfl⟩
  · refine ⟨_, cap, rfl, .inr ⟨g, 0, rfl, hg, fun i hi => ?_⟩⟩
    rw [Nat.zero_add, cell_of_row w g i _ _ _ hh]
    have e : cur[i]? = (cur.toList.take mem.length)[i]? := by rw [List.getElem?_take_of_lt hi]; simp
    rw [e, ht]
    simp [List.getD_eq_getElem?_getD, hi]

theorem Own.setWord {w : World} {B g cap : Nat} {mem : List Int} (h : Own w B (.slice (some ⟨g, 0, none⟩) mem.length cap) mem) (j : Nat) (v : Int) :
    Own (w.setCell ⟨g, j, none⟩ (.int .i64 v)) B (.slice (some ⟨g, 0, none⟩) mem.length cap) (mem.set j v) := by
  rcases h.form with ⟨h1, _⟩ | ⟨g', cap', cur, h1, hB, hg, hh, hc, hm, hs, ht⟩
  · cases h1
  · simp only [Value.slice.injEq, Option.some.injEq, Addr.mk.injEq, and_true, true_and] at h1
    obtain ⟨rfl, rfl⟩ := h1
    refine ⟨by simp, .inr ⟨g, cap, cur.setIfInBounds j (.int .i64 v), by simp, hB, heap_setCell_same w g j cur _ _ hh, by simpa using hc, hm, by simpa using hs, ?_⟩⟩
    simp only [List.length_set, Nat.mul_one, Array.toList_setIfInBounds, List.take_set, ht, List.map_set]

end Go.Proofs.YtmeiogoodbnkkaaGreat

/- The orders side by side, in plain words: what the machine holds and what a cycle makes of it. -/
namespace Go.Proofs.YtmeiogoodbnkkaaGreat
open Go.RowKit

/-- The kind of unit that an order needs (-1: none). -/
def kindOf (op : Int) : Int := if op = 1 ∨ op = 2 ∨ op = 3 then 0 else if op = 4 then 1 else if op = 5 then 2 else if op = 6 ∨ op = 7 then 3 else -1
def rdA (op : Int) : Bool := decide (2 ≤ op)
def rdB (op : Int) : Bool := decide ((2 ≤ op ∧ op ≤ 5) ∨ op = 7)
def wrD (op : Int) : Bool := decide (1 ≤ op ∧ op ≤ 6)
/-- The register's bit. -/
def bitOf (r : Int) : Nat := 2 ^ r.toNat
def rMask (o : Ord) : Nat := (if rdA o.op then bitOf o.a else 0) ||| (if rdB o.op then bitOf o.b else 0)
def wMask (o : Ord) : Nat := if wrD o.op then bitOf o.d else 0
def meets (x y : Nat) : Bool := (x &&& y) != 0

/-- An order that was given out. -/
structure Tk where
  o : Ord
  number : Nat
  issue : Nat
  read : Nat
  done : Nat
  write : Nat
  tgt : Int
  pl : Int
  val : Int
  trap : Int

/-- What was overwritten. -/
structure Ch where
  place : Nat
  tgt : Int
  pl : Int
  val : Int

/-- The machine. -/
structure Mc where
  units : List Int
  lat : List Int
  buses : Int
  regs : List Int
  mem : List Int
  next : Nat
  stop : Int
  trap : Int
  steps : Int
  cycle : Nat
  given : List Tk
  changes : List Ch
  ended : Bool
  shown : Bool
  counts : Nat

def opensT (cyc : Nat) (t : Tk) : Bool := decide (t.write = 0 ∨ t.write = cyc)

/-- Has one ahead of the place still to read? -/
def toRead (g : List Tk) (place mask : Nat) : Bool := (g.take place).any fun t => decide (t.read = 0) && meets (rMask t.o) mask
/-- Is one ahead of the place still to write? -/
def toWrite (g : List Tk) (cyc place mask : Nat) : Bool := (g.take place).any fun t => opensT cyc t && meets (wMask t.o) mask

def mayW (g : List Tk) (cyc place : Nat) (t : Tk) : Bool := decide (t.done ≠ 0 ∧ t.done < cyc) && decide (t.trap = 0) && decide (t.write = 0) && !toRead g place (wMask t.o)

/-- An effect put into registers, memory and next. -/
def putR (tgt pl val : Int) (regs : List Int) : List Int := if tgt = 1 then regs.set pl.toNat val else regs
def putM (tgt pl val : Int) (mem : List Int) : List Int := if tgt = 2 then mem.set pl.toNat val else mem
def putN (tgt val : Int) (next : Nat) : Nat := if tgt = 3 then val.toNat else next
/-- What undoes it. -/
def oldV (tgt pl val : Int) (regs mem : List Int) (next : Nat) : Int := if tgt = 1 then regs.getD pl.toNat 0 else if tgt = 2 then mem.getD pl.toNat 0 else if tgt = 3 then (next : Int) else val

def writeT (i : Nat) (t : Tk) (m : Mc) : Mc :=
  { m with changes := m.changes ++ [⟨i, t.tgt, t.pl, oldV t.tgt t.pl t.val m.regs m.mem m.next⟩], regs := putR t.tgt t.pl t.val m.regs, mem := putM t.tgt t.pl t.val m.mem, next := putN t.tgt t.val m.next, given := m.given.set i { t with write := m.cycle } }

/-- One order in the turn of the writes: the buses that are left, the machine. -/
def writesOne (s : Int × Mc) (i : Nat) : Int × Mc :=
  match s.2.given[i]? with
  | none => s
  | some t => if mayW s.2.given s.2.cycle i t then (if wMask t.o = 0 then (s.1, writeT i t s.2) else if s.1 = 0 then s else (s.1 - 1, writeT i t s.2)) else s

def writesM (m : Mc) : Mc := ((List.range m.given.length).foldl writesOne (m.buses, m)).2

def readT (i : Nat) (t : Tk) (m : Mc) : Mc :=
  let e := wk t.o t.number (m.regs.getD t.o.a.toNat 0) (m.regs.getD t.o.b.toNat 0) m.mem
  { m with given := m.given.set i { t with read := m.cycle, done := m.cycle + (m.lat.getD (kindOf t.o.op).toNat 0).toNat, tgt := e.1, pl := e.2.1, val := e.2.2.1, trap := e.2.2.2 } }

def readsOne (m : Mc) (i : Nat) : Mc :=
  match m.given[i]? with
  | none => m
  | some t => if t.read = 0 ∧ toWrite m.given m.cycle i (rMask t.o) = false then readT i t m else m

def readsM (m : Mc) : Mc := (List.range m.given.length).foldl readsOne m

def freeU (m : Mc) (kind : Int) : Bool := decide (0 < m.units.getD kind.toNat 0 - ((m.given.filter fun t => decide (kindOf t.o.op = kind) && opensT m.cycle t).length : Int))

def issueM (prog : List Ord) (m : Mc) : Mc :=
  if m.ended || m.shown then m else
  let o := prog.getD m.next Ord.none
  if o.op = 0 then { m with ended := true } else
  if o.op = 8 then
    if toWrite m.given m.cycle m.given.length (rMask o) then m
    else { m with given := m.given ++ [⟨o, m.next, m.cycle, m.cycle, m.cycle, m.cycle, 0, 0, 0, 0⟩], next := if m.regs.getD o.a.toNat 0 = 0 then o.k.toNat else m.next + 1 }
  else if freeU m (kindOf o.op) = false ∨ toWrite m.given m.cycle m.given.length (wMask o) = true then m
  else { m with given := m.given ++ [⟨o, m.next, m.cycle, 0, 0, 0, 0, 0, 0, 0⟩], next := m.next + 1 }

/-- The first whose trap has shown. -/
def firstShown (g : List Tk) (cyc : Nat) : Option Nat := (List.range g.length).find? fun i => match g[i]? with | none => false | some t => decide (t.trap ≠ 0 ∧ t.done ≤ cyc)

def showM (m : Mc) : Mc := match firstShown m.given m.cycle with | none => m | some i => { m with shown := true, counts := i }

def cycleM (prog : List Ord) (m : Mc) : Mc := showM (issueM prog (readsM (writesM { m with cycle := m.cycle + 1 })))

def allWr (g : List Tk) (place : Nat) : Bool := (g.take place).all fun t => decide (t.write ≠ 0)

/-- What was written behind a place is undone, the latest first. -/
def undoOne (place : Nat) (s : List Int × List Int × Nat) (c : Ch) : List Int × List Int × Nat :=
  if place < c.place then (putR c.tgt c.pl c.val s.1, putM c.tgt c.pl c.val s.2.1, putN c.tgt c.val s.2.2) else s
def undoM (place : Nat) (m : Mc) : Mc :=
  let s := m.changes.reverse.foldl (undoOne place) (m.regs, m.mem, m.next)
  { m with regs := s.1, mem := s.2.1, next := s.2.2 }

/-- Does it stop at the end of this cycle, and how? -/
def stopM (steps : Nat) (m : Mc) : Bool × Mc :=
  if m.shown && allWr m.given m.counts then
    (true, { undoM m.counts m with stop := 1, trap := (m.given.getD m.counts ⟨Ord.none, 0, 0, 0, 0, 0, 0, 0, 0, 0⟩).trap, next := (m.given.getD m.counts ⟨Ord.none, 0, 0, 0, 0, 0, 0, 0, 0, 0⟩).number })
  else if m.ended && allWr m.given m.given.length then (true, { m with stop := 0 })
  else if m.cycle = steps then (true, { m with stop := 2 })
  else (false, m)

def goM (prog : List Ord) (steps : Nat) : Nat → Mc → Mc
  | 0, m => m
  | f + 1, m => let r := stopM steps (cycleM prog m); if r.1 then r.2 else goM prog steps f r.2

def startM (units lat : List Int) (buses : Int) (mem : List Int) : Mc := ⟨units, lat, buses, [0, 0, 0, 0, 0, 0, 0, 0], mem, 0, 0, 0, 0, 0, [], [], false, false, 0⟩

/-- What Run ends with. -/
def runM (units lat : List Int) (buses : Int) (prog : List Ord) (mem : List Int) (steps : Nat) : Mc :=
  let m := goM prog steps steps (startM units lat buses mem)
  { m with steps := m.cycle }

end Go.Proofs.YtmeiogoodbnkkaaGreat
