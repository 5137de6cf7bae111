/- The document's answer as plain functions of numbers; a state in memory. -/
import Derived.Test.YtmeiogoodbnkkaaGreatL
namespace Go.Proofs.YtmeiogoodbnkkaaGreat
open Go.RowKit

/-- Of an order whose A and B have these values, over a memory: the trap, the value, the word's number. -/
def eff (o : Ord) (a b : Int) (mem : List Int) : Int × Int × Int :=
  if o.op = 1 then (0, o.k, 0)
  else if o.op = 2 then (0, wrap64 (a + b), 0)
  else if o.op = 3 then (0, wrap64 (a - b), 0)
  else if o.op = 4 then (0, wrap64 (a * b), 0)
  else if o.op = 5 then (if b = 0 then (1, 0, 0) else (0, wrap64 (a.tdiv b), 0))
  else if wrap64 (a + o.k) < 0 ∨ (mem.length : Int) ≤ wrap64 (a + o.k) then (2, 0, 0)
  else if o.op = 6 then (0, mem.getD (wrap64 (a + o.k)).toNat 0, wrap64 (a + o.k))
  else (0, b, wrap64 (a + o.k))

/-- What the code's work of an order answers: the target, the place, the value, the trap. -/
def wk (o : Ord) (n a b : Int) (mem : List Int) : Int × Int × Int × Int :=
  if o.op = 8 then (3, 0, if a = 0 then o.k else n + 1, 0)
  else if (eff o a b mem).1 = 0 then (if o.op = 7 then (2, (eff o a b mem).2.2, (eff o a b mem).2.1, 0) else (1, o.d, (eff o a b mem).2.1, 0))
  else (0, 0, 0, (eff o a b mem).1)

/-- A state behind some orders. -/
structure St where
  regs : List Int
  mem : List Int
  next : Nat
  steps : Nat

/-- One order done, or its trap and the state as it was. -/
def doOne (o : Ord) (s : St) : Int × St :=
  let a := s.regs.getD o.a.toNat 0
  let b := s.regs.getD o.b.toNat 0
  if o.op = 8 then (0, ⟨s.regs, s.mem, if a = 0 then o.k.toNat else s.next + 1, s.steps + 1⟩)
  else if (eff o a b s.mem).1 = 0 then
    (0, ⟨if o.op = 7 then s.regs else s.regs.set o.d.toNat (eff o a b s.mem).2.1, if o.op = 7 then s.mem.set (eff o a b s.mem).2.2.toNat (eff o a b s.mem).2.1 else s.mem, s.next + 1, s.steps + 1⟩)
  else ((eff o a b s.mem).1, s)

theorem eff7_in {rd ra rb k a b : Int} {mem : List Int} (h : (eff ⟨7, rd, ra, rb, k⟩ a b mem).1 = 0) : ¬ (wrap64 (a + k) < 0 ∨ (mem.length : Int) ≤ wrap64 (a + k)) := by
  intro h'; simp [eff, h'] at h
theorem eff7 {rd ra rb k a b : Int} {mem : List Int} (h : ¬ (wrap64 (a + k) < 0 ∨ (mem.length : Int) ≤ wrap64 (a + k))) : eff ⟨7, rd, ra, rb, k⟩ a b mem = (0, b, wrap64 (a + k)) := by
  simp [eff, h]
theorem wk7 {rd ra rb k n a b v p : Int} {mem : List Int} (h : eff ⟨7, rd, ra, rb, k⟩ a b mem = (0, v, p)) : wk ⟨7, rd, ra, rb, k⟩ n a b mem = (2, p, v, 0) := by
  simp [wk, h]
theorem wk_reg {op rd ra rb k n a b : Int} {mem : List Int} (h8 : op ≠ 8) (h7 : op ≠ 7) (h : (eff ⟨op, rd, ra, rb, k⟩ a b mem).1 = 0) : wk ⟨op, rd, ra, rb, k⟩ n a b mem = (1, rd, (eff ⟨op, rd, ra, rb, k⟩ a b mem).2.1, 0) := by
  simp [wk, h, h8, h7]
theorem wk_trap {op rd ra rb k n a b : Int} {mem : List Int} (h8 : op ≠ 8) (h : (eff ⟨op, rd, ra, rb, k⟩ a b mem).1 ≠ 0) : wk ⟨op, rd, ra, rb, k⟩ n a b mem = (0, 0, 0, (eff ⟨op, rd, ra, rb, k⟩ a b mem).1) := by
  simp [wk, h, h8]
theorem doOne7 {rd ra rb : Nat} {k v p : Int} {s : St} (h : eff ⟨7, rd, ra, rb, k⟩ (s.regs.getD ra 0) (s.regs.getD rb 0) s.mem = (0, v, p)) :
    doOne ⟨7, rd, ra, rb, k⟩ s = (0, ⟨s.regs, s.mem.set p.toNat v, s.next + 1, s.steps + 1⟩) := by
  unfold doOne
  simp only [Int.toNat_natCast]
  rw [h]
  simp
theorem doOne_reg {rd ra rb : Nat} {op k : Int} {s : St} (h8 : op ≠ 8) (h7 : op ≠ 7) (h : (eff ⟨op, rd, ra, rb, k⟩ (s.regs.getD ra 0) (s.regs.getD rb 0) s.mem).1 = 0) :
    doOne ⟨op, rd, ra, rb, k⟩ s = (0, ⟨s.regs.set rd (eff ⟨op, rd, ra, rb, k⟩ (s.regs.getD ra 0) (s.regs.getD rb 0) s.mem).2.1, s.mem, s.next + 1, s.steps + 1⟩) := by
  unfold doOne
  simp only [Int.toNat_natCast]
  rw [if_neg h8, if_pos h, if_neg h7, if_neg h7]
theorem doOne_trap {rd ra rb : Nat} {op k : Int} {s : St} (h8 : op ≠ 8) (h : (eff ⟨op, rd, ra, rb, k⟩ (s.regs.getD ra 0) (s.regs.getD rb 0) s.mem).1 ≠ 0) :
    doOne ⟨op, rd, ra, rb, k⟩ s = ((eff ⟨op, rd, ra, rb, k⟩ (s.regs.getD ra 0) (s.regs.getD rb 0) s.mem).1, s) := by
  unfold doOne
  simp only [Int.toNat_natCast]
  rw [if_neg h8, if_neg h]

/-- The orders one by one: the state, why it stopped, the trap. -/
def goOn (prog : List Ord) (steps : Nat) : Nat → St → St × Int × Int
  | 0, s => (s, 2, 0)
  | f + 1, s =>
    if (prog.getD s.next Ord.none).op = 0 then (s, 0, 0)
    else if s.steps = steps then (s, 2, 0)
    else if (doOne (prog.getD s.next Ord.none) s).1 = 0 then goOn prog steps f (doOne (prog.getD s.next Ord.none) s).2
    else (s, 1, (doOne (prog.getD s.next Ord.none) s).1)

/-- The error that the document asks for. -/
def refuse (prog : List Ord) (n : Nat) (steps : Int) : Int :=
  if isProg prog = false then 1 else if 16 < n then 2 else if steps < 1 ∨ 400 < steps then 3 else 0

def start (mem : List Int) : St := ⟨[0, 0, 0, 0, 0, 0, 0, 0], mem, 0, 0⟩

/-- The answer of Plain where nothing is refused. -/
def plainSt (prog : List Ord) (mem : List Int) (steps : Nat) : St × Int × Int := goOn prog steps (steps + 1) (start mem)

/-- What holds of a state on its way. -/
structure Fine (prog : List Ord) (n steps : Nat) (s : St) : Prop where
  regs : s.regs.length = 8
  mem : s.mem.length = n
  next : s.next ≤ prog.length
  steps : s.steps ≤ steps

theorem isOrd_spec {o : Ord} {n : Int} (h : isOrd o n = true) : 0 ≤ o.op ∧ o.op ≤ 8 ∧ 0 ≤ o.d ∧ o.d ≤ 7 ∧ 0 ≤ o.a ∧ o.a ≤ 7 ∧ 0 ≤ o.b ∧ o.b ≤ 7 ∧ (o.op = 8 → 0 ≤ o.k ∧ o.k < n) := of_decide_eq_true h

theorem Fine.one {prog : List Ord} {n steps : Nat} {s : St} (h : Fine prog n steps s) (hp : isProg prog = true) (hn : (prog.getD s.next Ord.none).op ≠ 0) (hs : s.steps ≠ steps) :
    Fine prog n steps (doOne (prog.getD s.next Ord.none) s).2 := by
  obtain ⟨_, hall⟩ := isProg_spec hp
  have hlt : s.next < prog.length := by
    rcases Nat.lt_or_ge s.next prog.length with h' | h'
    · exact h'
    · exact absurd (by simp [List.getD_eq_getElem?_getD, List.getElem?_eq_none h', Ord.none]) hn
  have ho := isOrd_spec (hall s.next hlt)
  generalize prog.getD s.next Ord.none = o at *
  obtain ⟨h1, h2, h3, h4⟩ := h
  unfold doOne
  simp only
  split
  · refine ⟨h1, h2, ?_, by simp only; omega⟩
    simp only
    split
    · rename_i h8 _; have := ho.2.2.2.2.2.2.2.2 h8; omega
    · omega
  · split
    · refine ⟨?_, ?_, by simp only; omega, by simp only; omega⟩
      · simp only; split <;> simp [h1]
      · simp only; split <;> simp [h2]
    · exact ⟨h1, h2, h3, h4⟩

/-- The cells of a state. -/
def stCells (regs : List Int) (mv : Value) (next stop trap steps : Int) : List Value := regs.map (Value.int .i64) ++ [mv, .int .i64 next, .int .i64 stop, .int .i64 trap, .int .i64 steps]

def StAt (w : World) (sb : Nat) (regs : List Int) (mv : Value) (next stop trap steps : Int) : Prop :=
  regs.length = 8 ∧ w.heap[sb]? = some (.cells (stCells regs mv next stop trap steps).toArray 46 (0, 0))

section
variable {w w' : World} {sb : Nat} {regs : List Int} {mv : Value} {next stop trap steps : Int}

theorem StAt.lt (h : StAt w sb regs mv next stop trap steps) : sb < w.heap.size := (Array.getElem?_eq_some_iff.1 h.2).1

theorem StAt.reg (h : StAt w sb regs mv next stop trap steps) {i : Nat} (hi : i < 8) : w.cell? ⟨sb, i, none⟩ = some (.int .i64 (regs.getD i 0)) := by
  rw [cell_of_row w sb i _ _ _ h.2]
  have : i < (regs.map (Value.int .i64)).length := by simp [h.1, hi]
  simp [stCells, List.getElem?_append_left this, List.getD_eq_getElem?_getD, show i < regs.length by rw [h.1]; exact hi]

theorem StAt.more (h : StAt w sb regs mv next stop trap steps) (j : Nat) : w.cell? ⟨sb, 8 + j, none⟩ = [mv, .int .i64 next, .int .i64 stop, .int .i64 trap, .int .i64 steps][j]? := by
  rw [cell_of_row w sb _ _ _ _ h.2]
  simp only [stCells, List.getElem?_toArray]
  rw [List.getElem?_append_right (by simp [h.1])]
  simp [h.1]

theorem StAt.cMv (h : StAt w sb regs mv next stop trap steps) : w.cell? ⟨sb, 8, none⟩ = some mv := h.more 0
theorem StAt.cNext (h : StAt w sb regs mv next stop trap steps) : w.cell? ⟨sb, 9, none⟩ = some (.int .i64 next) := h.more 1
theorem StAt.cStop (h : StAt w sb regs mv next stop trap steps) : w.cell? ⟨sb, 10, none⟩ = some (.int .i64 stop) := h.more 2
theorem StAt.cTrap (h : StAt w sb regs mv next stop trap steps) : w.cell? ⟨sb, 11, none⟩ = some (.int .i64 trap) := h.more 3
theorem StAt.cSteps (h : StAt w sb regs mv next stop trap steps) : w.cell? ⟨sb, 12, none⟩ = some (.int .i64 steps) := h.more 4

theorem StAt.frozen (h : StAt w sb regs mv next stop trap steps) (j : Nat) : w.frozen? ⟨sb, j, none⟩ = false := by
  simp [World.frozen?, h.2]

theorem StAt.below {B : Nat} (h : StAt w sb regs mv next stop trap steps) (hb : Below B w w') (hB : sb < B) : StAt w' sb regs mv next stop trap steps :=
  ⟨h.1, by rw [hb.block sb hB]; exact h.2⟩

theorem StAt.far (h : StAt w sb regs mv next stop trap steps) {a : Addr} {v : Value} (ha : sb ≠ a.block) : StAt (w.setCell a v) sb regs mv next stop trap steps :=
  ⟨h.1, by rw [Below.heap_setCell _ _ _ _ ha]; exact h.2⟩

theorem StAt.setReg (h : StAt w sb regs mv next stop trap steps) {j : Nat} (hj : j < 8) (v : Int) : StAt (w.setCell ⟨sb, j, none⟩ (.int .i64 v)) sb (regs.set j v) mv next stop trap steps := by
  refine ⟨by simp [h.1], ?_⟩
  rw [heap_setCell_same w sb j _ _ _ h.2]
  have : j < (regs.map (Value.int .i64)).length := by simp [h.1, hj]
  simp only [stCells, List.setIfInBounds_toArray, List.set_append_left _ _ this, List.map_set]

theorem StAt.setMore (h : StAt w sb regs mv next stop trap steps) (j : Nat) (v : Value) :
    (w.setCell ⟨sb, 8 + j, none⟩ v).heap[sb]? = some (.cells (regs.map (Value.int .i64) ++ [mv, .int .i64 next, .int .i64 stop, .int .i64 trap, .int .i64 steps].set j v).toArray 46 (0, 0)) := by
  rw [heap_setCell_same w sb _ _ _ _ h.2]
  simp only [stCells, List.setIfInBounds_toArray]
  rw [List.set_append_right _ _ (by simp [h.1])]
  simp [h.1]

theorem StAt.setNext (h : StAt w sb regs mv next stop trap steps) (v : Int) : StAt (w.setCell ⟨sb, 9, none⟩ (.int .i64 v)) sb regs mv v stop trap steps := ⟨h.1, h.setMore 1 _⟩
theorem StAt.setStop (h : StAt w sb regs mv next stop trap steps) (v : Int) : StAt (w.setCell ⟨sb, 10, none⟩ (.int .i64 v)) sb regs mv next v trap steps := ⟨h.1, h.setMore 2 _⟩
theorem StAt.setTrap (h : StAt w sb regs mv next stop trap steps) (v : Int) : StAt (w.setCell ⟨sb, 11, none⟩ (.int .i64 v)) sb regs mv next stop v steps := ⟨h.1, h.setMore 3 _⟩
theorem StAt.setSteps (h : StAt w sb regs mv next stop trap steps) (v : Int) : StAt (w.setCell ⟨sb, 12, none⟩ (.int .i64 v)) sb regs mv next stop trap v := ⟨h.1, h.setMore 4 _⟩
end

theorem below_set {B : Nat} {w w' : World} (h : Below B w w') (a : Addr) (v : Value) : Below B (w.setCell a v) (w'.setCell a v) :=
  ⟨h.os, h.tape, h.output, by simpa [World.setCell] using h.size, fun k hk => by simp only [World.setCell, Array.getElem?_modify, h.block k hk]⟩

/-- The words that a slice value owns. -/
def Own (w : World) (B : Nat) (mv : Value) (mem : List Int) : Prop := w.ownsRow B 2 1 mv mem.length (mem.map (Value.int .i64))

theorem Own.form {w : World} {B : Nat} {mv : Value} {mem : List Int} (h : Own w B mv mem) :
    (mv = .slice none 0 0 ∧ mem = []) ∨ ∃ g cap cur, mv = .slice (some ⟨g, 0, none⟩) mem.length cap ∧ B ≤ g ∧ g < w.heap.size ∧ w.heap[g]? = some (.cells cur 2 (0, 0)) ∧ mem.length ≤ cap ∧ cap ≤ maxLen ∧ cur.size = cap ∧ cur.toList.take mem.length = mem.map (Value.int .i64) := by
  rcases h.2 with ⟨h1, h2⟩ | ⟨g, cap, cur, h1, h2, h3, h4, h5, h6, h7⟩
  · exact .inl ⟨h1, List.length_eq_zero_iff.1 h2⟩
  · exact .inr ⟨g, cap, cur, h1, h2, (Array.getElem?_eq_some_iff.1 h3).1, h3, h4, h5, by simpa using h6, by simpa using h7⟩

theorem Own.below {w w' : World} {B B' : Nat} {mv : Value} {mem : List Int} (h : Own w B mv mem) (hb : Below B' w w') (hB : ∀ g, mv.ownBlock = some g → g < B') : Own w' B mv mem := by
  refine ⟨h.1, ?_⟩
  rcases h.2 with h2 | ⟨g, cap, cur, rfl, h2, h3, rest⟩
  · exact .inl h2
  · exact .inr ⟨g, cap, cur, rfl, h2, by rw [hb.block g (hB g rfl)]; exact h3, rest⟩

theorem Own.far {w : World} {B : Nat} {mv : Value} {mem : List Int} (h : Own w B mv mem) {a : Addr} {v : Value} (ha : mv.ownBlock ≠ some a.block) : Own (w.setCell a v) B mv mem := by
  refine ⟨h.1, ?_⟩
  rcases h.2 with h2 | ⟨g, cap, cur, rfl, h2, h3, rest⟩
  · exact .inl h2
  · refine .inr ⟨g, cap, cur, rfl, h2, ?_, rest⟩
    rw [Below.heap_setCell _ _ _ _ (fun e => ha (by simp [Value.ownBlock, e]))]
    exact h3

theorem Own.lt {w : World} {B : Nat} {mv : Value} {mem : List Int} (h : Own w B mv mem) : ∀ g, mv.ownBlock = some g → B ≤ g ∧ g < w.heap.size := World.ownsRow.lt h

theorem Own.slice {w : World} {B : Nat} {mv : Value} {mem : List Int} (h : Own w B mv mem) : ∃ p c, mv = .slice p mem.length c ∧ Rd w p mem := by
  rcases h.form with ⟨rfl, rfl⟩ | ⟨g, cap, cur, rfl, hB, hg, hh, hc, hm, hs, ht⟩
  · exact ⟨none, 0, rfl, .inl rfl⟩
  · refine ⟨_, cap, rfl, .inr ⟨g, 0, rfl, hg, fun i hi => ?_⟩⟩
    rw [Nat.zero_add, cell_of_row w g i _ _ _ hh]
    have e : cur[i]? = (cur.toList.take mem.length)[i]? := by rw [List.getElem?_take_of_lt hi]; simp
    rw [e, ht]
    simp [List.getD_eq_getElem?_getD, hi]

theorem Own.setWord {w : World} {B g cap : Nat} {mem : List Int} (h : Own w B (.slice (some ⟨g, 0, none⟩) mem.length cap) mem) (j : Nat) (v : Int) :
    Own (w.setCell ⟨g, j, none⟩ (.int .i64 v)) B (.slice (some ⟨g, 0, none⟩) mem.length cap) (mem.set j v) := by
  rcases h.form with ⟨h1, _⟩ | ⟨g', cap', cur, h1, hB, hg, hh, hc, hm, hs, ht⟩
  · cases h1
  · simp only [Value.slice.injEq, Option.some.injEq, Addr.mk.injEq, and_true, true_and] at h1
    obtain ⟨rfl, rfl⟩ := h1
    refine ⟨by simp, .inr ⟨g, cap, cur.setIfInBounds j (.int .i64 v), by simp, hB, heap_setCell_same w g j cur _ _ hh, by simpa using hc, hm, by simpa using hs, ?_⟩⟩
    simp only [List.length_set, Nat.mul_one, Array.toList_setIfInBounds, List.take_set, ht, List.map_set]

end Go.Proofs.YtmeiogoodbnkkaaGreat
