/- The document's board in memory: its block, the row of orders that were given out, the memory's words. -/
import Derived.Test.YtmeiogoodbnkkaaGreatCSESF
namespace Go.Proofs.YtmeiogoodbnkkaaGreat
open Go.RowKit

/-- What the document's board holds of an order beside its own: what it will write, and where; what was there; how many had written. -/
structure Xt where
  value : Int
  loc : Int
  old : Int
  turn : Nat

def gvC (y : Tk × Xt) : List Value := [.int .i64 y.1.o.op, .int .i64 y.1.o.d, .int .i64 y.1.o.a, .int .i64 y.1.o.b, .int .i64 y.1.o.k, .int .i64 y.1.number, .int .i64 y.1.issue, .int .i64 y.1.read, .int .i64 y.1.done, .int .i64 y.1.write,
  .int .i64 y.2.value, .int .i64 y.2.loc, .int .i64 y.1.trap, .int .i64 y.2.old, .int .i64 y.2.turn]
theorem gv_len (y : Tk × Xt) : (gvC y).length = 15 := rfl

/-- The order whose trap counts; -1: none. -/
def shI (m : Mc) : Int := if m.shown then (m.counts : Int) else -1

/-- Where the board lies. -/
structure Lb where
  D : Nat
  pv : Value
  lv : Value
  mv : Value
  sp : Int

def bdTail (m : Mc) (lv : Value) : List Value := [.int .i64 m.cycle, lv, .bool m.ended, .int .i64 (shI m), .int .i64 m.changes.length]
def bdCells (m : Mc) (L : Lb) : List Value := mcHead m L.pv ++ (stCells m.regs L.mv m.next L.sp m.trap m.steps ++ bdTail m L.lv)

structure RAt (W : World) (B : Nat) (L : Lb) (m : Mc) (g : List (Tk × Xt)) : Prop where
  units : m.units.length = 4
  lat : m.lat.length = 4
  regs : m.regs.length = 8
  fst : g.map Prod.fst = m.given
  base : B ≤ L.D
  blk : W.heap[L.D]? = some (.cells (bdCells m L).toArray 76 (0, 0))
  giv : W.ownsRow B 81 15 L.lv g.length (g.flatMap gvC)
  mem : Own W B L.mv m.mem

def hotB : Obj → Bool
  | .cells _ t _ => t == 76 || t == 81 || t == 2
  | _ => false

/-- Of what was there nothing has turned but the board's own blocks, from B on. -/
structure Kb (B : Nat) (W W' : World) : Prop where
  os : W'.os = W.os
  tape : W'.tape = W.tape
  output : W'.output = W.output
  size : W.heap.size ≤ W'.heap.size
  block : ∀ k o, W.heap[k]? = some o → (k < B ∨ hotB o = false) → W'.heap[k]? = some o

theorem Kb.refl (B : Nat) (W : World) : Kb B W W := ⟨rfl, rfl, rfl, Nat.le_refl _, fun _ _ h _ => h⟩
theorem Kb.trans {B : Nat} {X Y Z : World} (h : Kb B X Y) (k : Kb B Y Z) : Kb B X Z :=
  ⟨k.os.trans h.os, k.tape.trans h.tape, k.output.trans h.output, Nat.le_trans h.size k.size, fun i o hi ho => k.block i o (h.block i o hi ho) ho⟩
theorem Kb.of_below {B : Nat} {W W' : World} (h : Below W.heap.size W W') : Kb B W W' :=
  ⟨h.os, h.tape, h.output, h.size, fun k o hk _ => by rw [h.block k (Array.getElem?_eq_some_iff.1 hk).1]; exact hk⟩
theorem Kb.below {B : Nat} {W W' : World} (h : Kb B W W') (hB : B ≤ W.heap.size) : Below B W W' :=
  ⟨h.os, h.tape, h.output, h.size, fun k hk => by
    have hk' : k < W.heap.size := by omega
    rw [Array.getElem?_eq_getElem hk']
    exact h.block k _ (Array.getElem?_eq_getElem hk') (.inl hk)⟩
theorem Kb.alloc {B : Nat} {W W' : World} (h : Kb B W W') (o : Obj) : Kb B W (W'.alloc o) := h.trans (.of_below ((Below.refl _ _).alloc (Nat.le_refl _) _))
theorem Kb.drew {B : Nat} {W W' : World} (h : Kb B W W') : Kb B W W'.drew := h.trans (.of_below (Below.refl _ _).drew)
theorem Kb.set {B : Nat} {W W' : World} (h : Kb B W W') {k j : Nat} {cs : Array Value} {t : TypeId} {fr : Nat × Nat} (hk : W'.heap[k]? = some (.cells cs t fr)) (ht : hotB (.cells cs t fr) = true) (hB : B ≤ k) (v : Value) : Kb B W (W'.setCell ⟨k, j, none⟩ v) :=
  h.trans ⟨rfl, rfl, rfl, by simp, fun i o hi ho => by
    rw [heap_setCell_other _ _ _ _ (fun e => by
      have e' : i = k := e
      rw [e', hk] at hi
      cases hi
      rcases ho with ho | ho
      · omega
      · rw [ht] at ho; cases ho)]
    exact hi⟩
/-- A cell of a block that was not there yet. -/
theorem Kb.setNew {B : Nat} {W W' : World} (h : Kb B W W') {k j : Nat} (hk : W.heap.size ≤ k) (v : Value) : Kb B W (W'.setCell ⟨k, j, none⟩ v) :=
  ⟨h.os, h.tape, h.output, by simpa using h.size, fun i o hi ho => by
    rw [heap_setCell_other _ _ _ _ (fun e => by
      have e' : i = k := e
      have := (Array.getElem?_eq_some_iff.1 hi).1
      omega)]
    exact h.block i o hi ho⟩
theorem Kb.grown {B : Nat} {W W' W'' : World} (h : Kb B W W') {row : Option Nat} (hg : W'.grownBy W'' row) (hr : ∀ k, row = some k → B ≤ k ∧ ∃ o, W'.heap[k]? = some o ∧ hotB o = true) : Kb B W W'' :=
  h.trans ⟨hg.os, hg.tape, hg.output, hg.size, fun i o hi ho => by
    rw [hg.block i (Array.getElem?_eq_some_iff.1 hi).1 (fun e => by
      obtain ⟨h1, o', h2, h3⟩ := hr i e.symm
      rw [hi] at h2; cases h2
      rcases ho with ho | ho
      · omega
      · rw [h3] at ho; cases ho)]
    exact hi⟩

/-- None of the board's blocks is this one. -/
structure Lb.Far (L : Lb) (X : Nat) : Prop where
  d : L.D ≠ X
  l : L.lv.ownBlock ≠ some X
  m : L.mv.ownBlock ≠ some X

section
variable {W W' : World} {B : Nat} {L : Lb} {m : Mc} {g : List (Tk × Xt)}

theorem RAt.ck (h : RAt W B L m g) (hk : CK W W') : RAt W' B L m g :=
  ⟨h.units, h.lat, h.regs, h.fst, h.base, hk _ _ _ _ h.blk, row_ck h.giv hk, row_ck h.mem hk⟩
theorem RAt.below (h : RAt W B L m g) (hb : Below W.heap.size W W') : RAt W' B L m g := h.ck (.of_below hb)
theorem RAt.alloc (h : RAt W B L m g) (o : Obj) : RAt (W.alloc o) B L m g := h.below ((Below.refl _ _).alloc (Nat.le_refl _) _)
theorem RAt.drew (h : RAt W B L m g) : RAt W.drew B L m g := h.below (Below.refl _ _).drew
theorem RAt.lt (h : RAt W B L m g) : L.D < W.heap.size := (Array.getElem?_eq_some_iff.1 h.blk).1
theorem RAt.frozen (h : RAt W B L m g) (j : Nat) : W.frozen? ⟨L.D, j, none⟩ = false := by simp [World.frozen?, h.blk]
theorem RAt.len (h : RAt W B L m g) : g.length = m.given.length := by rw [← h.fst]; simp
theorem RAt.get (h : RAt W B L m g) {i : Nat} {t : Tk} {x : Xt} (hi : g[i]? = some (t, x)) : m.given[i]? = some t := by rw [← h.fst]; simp [hi]
theorem RAt.gets (h : RAt W B L m g) {i : Nat} {t : Tk} (hi : m.given[i]? = some t) : ∃ x, g[i]? = some (t, x) := by
  rw [← h.fst] at hi
  simp at hi
  exact hi
theorem RAt.far (h : RAt W B L m g) {X : Nat} (hX : W.heap.size ≤ X) : L.Far X :=
  ⟨fun e => by have := h.lt; omega, fun e => by have := (World.ownsRow.lt h.giv X e).2; omega, fun e => by have := (World.ownsRow.lt h.mem X e).2; omega⟩
theorem RAt.other (h : RAt W B L m g) {X j : Nat} (hX : L.Far X) (v : Value) : RAt (W.setCell ⟨X, j, none⟩ v) B L m g :=
  ⟨h.units, h.lat, h.regs, h.fst, h.base, by rw [heap_setCell_other _ _ _ _ hX.d]; exact h.blk, row_far h.giv _ hX.l, row_far h.mem _ hX.m⟩

theorem RAt.tail (h : RAt W B L m g) (j : Nat) : W.cell? ⟨L.D, 23 + j, none⟩ = (bdTail m L.lv)[j]? := by
  rw [cell_of_row W L.D _ _ _ _ h.blk, List.getElem?_toArray, bdCells, List.getElem?_append_right (by rw [mcHead_len h.units h.lat]; omega), mcHead_len h.units h.lat, List.getElem?_append_right (by simp [stCells, h.regs]; omega)]
  simp only [stCells, List.length_append, List.length_map, h.regs, List.length_cons, List.length_nil]
  congr 1; omega
theorem RAt.mid (h : RAt W B L m g) {j : Nat} (hj : j < 13) : W.cell? ⟨L.D, 10 + j, none⟩ = (stCells m.regs L.mv m.next L.sp m.trap m.steps)[j]? := by
  rw [cell_of_row W L.D _ _ _ _ h.blk, List.getElem?_toArray, bdCells, List.getElem?_append_right (by rw [mcHead_len h.units h.lat]; omega), mcHead_len h.units h.lat, List.getElem?_append_left (by simp [stCells, h.regs]; omega)]
  congr 1; omega
theorem RAt.head (h : RAt W B L m g) {j : Nat} (hj : j < 10) : W.cell? ⟨L.D, j, none⟩ = (mcHead m L.pv)[j]? := by
  rw [cell_of_row W L.D _ _ _ _ h.blk, List.getElem?_toArray, bdCells, List.getElem?_append_left (by rw [mcHead_len h.units h.lat]; omega)]
theorem RAt.cCycle (h : RAt W B L m g) : W.cell? ⟨L.D, 23, none⟩ = some (.int .i64 m.cycle) := h.tail 0
theorem RAt.cLv (h : RAt W B L m g) : W.cell? ⟨L.D, 24, none⟩ = some L.lv := h.tail 1
theorem RAt.cEnded (h : RAt W B L m g) : W.cell? ⟨L.D, 25, none⟩ = some (.bool m.ended) := h.tail 2
theorem RAt.cShown (h : RAt W B L m g) : W.cell? ⟨L.D, 26, none⟩ = some (.int .i64 (shI m)) := h.tail 3
theorem RAt.cTurns (h : RAt W B L m g) : W.cell? ⟨L.D, 27, none⟩ = some (.int .i64 m.changes.length) := h.tail 4
theorem RAt.reg (h : RAt W B L m g) {i : Nat} (hi : i < 8) : W.cell? ⟨L.D, 10 + i, none⟩ = some (.int .i64 (m.regs.getD i 0)) := by
  rw [h.mid (by omega)]
  have : i < (m.regs.map (Value.int .i64)).length := by simp [h.regs, hi]
  simp [stCells, List.getElem?_append_left this, List.getD_eq_getElem?_getD, show i < m.regs.length by rw [h.regs]; exact hi]
theorem RAt.st (h : RAt W B L m g) {j : Nat} (hj : j < 5) : W.cell? ⟨L.D, 18 + j, none⟩ = [L.mv, .int .i64 m.next, .int .i64 L.sp, .int .i64 m.trap, .int .i64 m.steps][j]? := by
  have := h.mid (j := 8 + j) (by omega)
  rw [show 10 + (8 + j) = 18 + j by omega] at this
  rw [this, stCells, List.getElem?_append_right (by simp [h.regs])]
  simp [h.regs]
theorem RAt.cMv (h : RAt W B L m g) : W.cell? ⟨L.D, 18, none⟩ = some L.mv := h.st (j := 0) (by omega)
theorem RAt.cNext (h : RAt W B L m g) : W.cell? ⟨L.D, 19, none⟩ = some (.int .i64 m.next) := h.st (j := 1) (by omega)
theorem RAt.cStop (h : RAt W B L m g) : W.cell? ⟨L.D, 20, none⟩ = some (.int .i64 L.sp) := h.st (j := 2) (by omega)
theorem RAt.cTrap (h : RAt W B L m g) : W.cell? ⟨L.D, 21, none⟩ = some (.int .i64 m.trap) := h.st (j := 3) (by omega)
theorem RAt.cSteps (h : RAt W B L m g) : W.cell? ⟨L.D, 22, none⟩ = some (.int .i64 m.steps) := h.st (j := 4) (by omega)
theorem RAt.cUnit (h : RAt W B L m g) {i : Nat} (hi : i < 4) : W.cell? ⟨L.D, i, none⟩ = some (.int .i64 (m.units.getD i 0)) := by
  rw [h.head (by omega), mcHead, List.getElem?_append_left (by simp [h.units]; exact hi)]
  simp [List.getD_eq_getElem?_getD, show i < m.units.length by rw [h.units]; exact hi]
theorem RAt.cLat (h : RAt W B L m g) {i : Nat} (hi : i < 4) : W.cell? ⟨L.D, 4 + i, none⟩ = some (.int .i64 (m.lat.getD i 0)) := by
  rw [h.head (by omega), mcHead, List.getElem?_append_right (by simp [h.units]), List.getElem?_append_left (by simp [h.units, h.lat]; exact hi)]
  simp [h.units, List.getD_eq_getElem?_getD, show i < m.lat.length by rw [h.lat]; exact hi]
theorem RAt.cBuses (h : RAt W B L m g) : W.cell? ⟨L.D, 8, none⟩ = some (.int .i64 m.buses) := by
  rw [h.head (by omega), mcHead, List.getElem?_append_right (by simp [h.units]), List.getElem?_append_right (by simp [h.units, h.lat])]
  simp [h.units, h.lat]
theorem RAt.cPv (h : RAt W B L m g) : W.cell? ⟨L.D, 9, none⟩ = some L.pv := by
  rw [h.head (by omega), mcHead, List.getElem?_append_right (by simp [h.units]), List.getElem?_append_right (by simp [h.units, h.lat])]
  simp [h.units, h.lat]

theorem RAt.row (h : RAt W B L m g) {i : Nat} (hi : i < g.length) : ∃ G cap, L.lv = .slice (some ⟨G, 0, none⟩) g.length cap ∧ B ≤ G ∧ G < W.heap.size := by
  rcases h.giv.2 with ⟨_, h2⟩ | ⟨g, cap, cur, h1, h2, h3, _⟩
  · omega
  · exact ⟨g, cap, h1, h2, (Array.getElem?_eq_some_iff.1 h3).1⟩
theorem RAt.sl (h : RAt W B L m g) : ∃ p cap, L.lv = .slice p g.length cap := by
  rcases h.giv.2 with ⟨h1, h2⟩ | ⟨g, cap, cur, h1, _⟩
  · exact ⟨none, 0, by rw [h1, h2]⟩
  · exact ⟨_, _, h1⟩
theorem RAt.gv (h : RAt W B L m g) {G cap i : Nat} {y : Tk × Xt} (hg : L.lv = .slice (some ⟨G, 0, none⟩) g.length cap) (hy : g[i]? = some y) {j : Nat} (hj : j < 15) : W.cell? ⟨G, i * 15 + j, none⟩ = (gvC y)[j]? := by
  have h1 := h.giv
  rw [hg] at h1
  have hi : i < g.length := (List.getElem?_eq_some_iff.1 hy).1
  rw [h1.cellAt (i * 15 + j) (by omega), gflat_get gv_len _ _ _ _ hy hj]
theorem RAt.gvFrozen (h : RAt W B L m g) {G cap : Nat} (hg : L.lv = .slice (some ⟨G, 0, none⟩) g.length cap) (j : Nat) : W.frozen? ⟨G, j, none⟩ = false := by
  have h1 := h.giv
  rw [hg] at h1
  exact h1.frozenAt j

theorem RAt.hotD (_h : RAt W B L m g) : hotB (.cells (bdCells m L).toArray 76 (0, 0)) = true := by simp [hotB]

/-- A cell of the board's own block set. -/
theorem RAt.setD (h : RAt W B L m g) {j : Nat} {v : Value} {m' : Mc} {L' : Lb} (hc : (bdCells m L).set j v = bdCells m' L') (hD : L'.D = L.D) (hlv : L'.lv = L.lv) (hmv : L'.mv = L.mv) (hu : m'.units.length = 4) (hl : m'.lat.length = 4) (hr : m'.regs.length = 8)
    (hg : m'.given = m.given) (hm : m'.mem = m.mem) : RAt (W.setCell ⟨L.D, j, none⟩ v) B L' m' g := by
  refine ⟨hu, hl, hr, by rw [hg]; exact h.fst, by rw [hD]; exact h.base, ?_, ?_, ?_⟩
  · rw [hD, heap_setCell_same W L.D j _ _ v h.blk, List.setIfInBounds_toArray, hc]
  · rw [hlv]; exact row_far h.giv _ (row_ne h.giv h.blk (by decide))
  · rw [hm, hmv]; exact row_far h.mem _ (row_ne h.mem h.blk (by decide))
theorem RAt.kbD (h : RAt W B L m g) (j : Nat) (v : Value) : Kb B W (W.setCell ⟨L.D, j, none⟩ v) := (Kb.refl B W).set h.blk h.hotD h.base v

theorem bd_tail_set (hu : m.units.length = 4) (hl : m.lat.length = 4) (hr : m.regs.length = 8) (L : Lb) (j : Nat) (v : Value) :
    (bdCells m L).set (23 + j) v = mcHead m L.pv ++ (stCells m.regs L.mv m.next L.sp m.trap m.steps ++ (bdTail m L.lv).set j v) := by
  have hs : (stCells m.regs L.mv m.next L.sp m.trap m.steps).length = 13 := by simp [stCells, hr]
  rw [bdCells, List.set_append_right _ _ (by rw [mcHead_len hu hl]; omega), mcHead_len hu hl, List.set_append_right _ _ (by rw [hs]; omega), hs]
  congr 3; omega
theorem bd_st_set (hu : m.units.length = 4) (hl : m.lat.length = 4) (hr : m.regs.length = 8) (L : Lb) {j : Nat} (hj : j < 5) (v : Value) :
    (bdCells m L).set (18 + j) v = mcHead m L.pv ++ ((m.regs.map (Value.int .i64) ++ [L.mv, .int .i64 m.next, .int .i64 L.sp, .int .i64 m.trap, .int .i64 m.steps].set j v) ++ bdTail m L.lv) := by
  have hs : (stCells m.regs L.mv m.next L.sp m.trap m.steps).length = 13 := by simp [stCells, hr]
  rw [bdCells, List.set_append_right _ _ (by rw [mcHead_len hu hl]; omega), mcHead_len hu hl, List.set_append_left _ _ (by rw [hs]; omega), stCells, List.set_append_right _ _ (by simp [hr]; omega)]
  congr 4; simp [hr]; omega
theorem bd_reg_set (hu : m.units.length = 4) (hl : m.lat.length = 4) (hr : m.regs.length = 8) (L : Lb) {j : Nat} (hj : j < 8) (v : Int) :
    (bdCells m L).set (10 + j) (.int .i64 v) = bdCells { m with regs := m.regs.set j v } L := by
  have hs : (stCells m.regs L.mv m.next L.sp m.trap m.steps).length = 13 := by simp [stCells, hr]
  rw [bdCells, List.set_append_right _ _ (by rw [mcHead_len hu hl]; omega), mcHead_len hu hl, List.set_append_left _ _ (by rw [hs]; omega), stCells, List.set_append_left _ _ (by simp [hr]; omega)]
  simp only [bdCells, mcHead, stCells, bdTail, List.map_set, shI]
  congr 3
  congr 1
  congr 1
  omega

theorem RAt.setCycle (h : RAt W B L m g) (c : Nat) : RAt (W.setCell ⟨L.D, 23, none⟩ (.int .i64 c)) B L { m with cycle := c } g :=
  h.setD (m' := { m with cycle := c }) (bd_tail_set h.units h.lat h.regs _ 0 _) rfl rfl rfl h.units h.lat h.regs rfl rfl
theorem RAt.setEnded (h : RAt W B L m g) (b : Bool) : RAt (W.setCell ⟨L.D, 25, none⟩ (.bool b)) B L { m with ended := b } g :=
  h.setD (m' := { m with ended := b }) (bd_tail_set h.units h.lat h.regs _ 2 _) rfl rfl rfl h.units h.lat h.regs rfl rfl
theorem RAt.setShown (h : RAt W B L m g) (c : Nat) : RAt (W.setCell ⟨L.D, 26, none⟩ (.int .i64 c)) B L { m with shown := true, counts := c } g :=
  h.setD (m' := { m with shown := true, counts := c }) (bd_tail_set h.units h.lat h.regs _ 3 _) rfl rfl rfl h.units h.lat h.regs rfl rfl
theorem RAt.setTurns (h : RAt W B L m g) (c : Ch) : RAt (W.setCell ⟨L.D, 27, none⟩ (.int .i64 (m.changes.length + 1 : Nat))) B L { m with changes := m.changes ++ [c] } g :=
  h.setD (m' := { m with changes := m.changes ++ [c] }) (by
    have := bd_tail_set h.units h.lat h.regs L 4 (.int .i64 (m.changes.length + 1 : Nat))
    rw [this]; simp only [bdCells, bdTail, List.length_append, List.length_cons, List.length_nil]; rfl) rfl rfl rfl h.units h.lat h.regs rfl rfl
theorem RAt.setNext (h : RAt W B L m g) (c : Nat) : RAt (W.setCell ⟨L.D, 19, none⟩ (.int .i64 c)) B L { m with next := c } g :=
  h.setD (m' := { m with next := c }) (bd_st_set h.units h.lat h.regs _ (j := 1) (by omega) _) rfl rfl rfl h.units h.lat h.regs rfl rfl
theorem RAt.setStop (h : RAt W B L m g) (c : Int) : RAt (W.setCell ⟨L.D, 20, none⟩ (.int .i64 c)) B { L with sp := c } m g :=
  h.setD (m' := m) (L' := { L with sp := c }) (bd_st_set h.units h.lat h.regs _ (j := 2) (by omega) _) rfl rfl rfl h.units h.lat h.regs rfl rfl
theorem RAt.setTrap (h : RAt W B L m g) (c : Int) : RAt (W.setCell ⟨L.D, 21, none⟩ (.int .i64 c)) B L { m with trap := c } g :=
  h.setD (m' := { m with trap := c }) (bd_st_set h.units h.lat h.regs _ (j := 3) (by omega) _) rfl rfl rfl h.units h.lat h.regs rfl rfl
theorem RAt.setSteps (h : RAt W B L m g) (c : Int) : RAt (W.setCell ⟨L.D, 22, none⟩ (.int .i64 c)) B L { m with steps := c } g :=
  h.setD (m' := { m with steps := c }) (bd_st_set h.units h.lat h.regs _ (j := 4) (by omega) _) rfl rfl rfl h.units h.lat h.regs rfl rfl
theorem RAt.setReg (h : RAt W B L m g) {j : Nat} (hj : j < 8) (v : Int) : RAt (W.setCell ⟨L.D, 10 + j, none⟩ (.int .i64 v)) B L { m with regs := m.regs.set j v } g :=
  h.setD (m' := { m with regs := m.regs.set j v }) (bd_reg_set h.units h.lat h.regs _ hj _) rfl rfl rfl h.units h.lat (by simp [h.regs]) rfl rfl

/-- A word of the memory set. -/
theorem RAt.setWord (h : RAt W B L m g) {G cap j : Nat} (hg : L.mv = .slice (some ⟨G, 0, none⟩) m.mem.length cap) (v : Int) : RAt (W.setCell ⟨G, j, none⟩ (.int .i64 v)) B L { m with mem := m.mem.set j v } g ∧ Kb B W (W.setCell ⟨G, j, none⟩ (.int .i64 v)) := by
  have hmem := h.mem
  rw [hg] at hmem
  have hmm : L.D ≠ G := fun e => row_ne h.mem h.blk (by decide) (by rw [hg, e]; rfl)
  have hgo : L.mv.ownBlock = some G := by rw [hg]; rfl
  have hform : ∃ cur, W.heap[G]? = some (.cells cur 2 (0, 0)) ∧ B ≤ G := by
    rcases hmem.2 with ⟨h1, _⟩ | ⟨g', cap', cur, h1, h2, h3, _⟩
    · cases h1
    · simp only [Value.slice.injEq, Option.some.injEq, Addr.mk.injEq, and_true, true_and] at h1
      obtain ⟨rfl, _⟩ := h1
      exact ⟨cur, h3, h2⟩
  obtain ⟨cur, hcur, hBg⟩ := hform
  refine ⟨⟨h.units, h.lat, h.regs, h.fst, h.base, ?_, row_far h.giv _ (row_apart h.giv h.mem (by decide) G hgo), ?_⟩, (Kb.refl B W).set hcur (by simp [hotB]) hBg _⟩
  · rw [heap_setCell_other _ _ _ _ hmm]; exact h.blk
  · have hme := h.mem
    rw [hg] at hme ⊢
    have := Own.setWord (mem := m.mem) hme j v
    simpa using this
end

/-- Cells set one behind the other. -/
def setsFrom (W : World) (G o : Nat) : List Value → World
  | [] => W
  | v :: vs => setsFrom (W.setCell ⟨G, o, none⟩ v) G (o + 1) vs
def setL (xs : List Value) (o : Nat) : List Value → List Value
  | [] => xs
  | v :: vs => setL (xs.set o v) (o + 1) vs

theorem setL_eq : ∀ (vs xs : List Value) (o : Nat), o + vs.length ≤ xs.length → setL xs o vs = xs.take o ++ vs ++ xs.drop (o + vs.length)
  | [], xs, o, _ => by simp [setL]
  | v :: vs, xs, o, h => by
    simp only [List.length_cons] at h
    rw [setL, setL_eq vs _ _ (by simp; omega)]
    rw [List.take_add_one, List.take_set_of_le (Nat.le_refl _), List.getElem?_set_self (by omega), List.drop_set_of_lt (by omega)]
    simp
    congr 1
    omega

theorem setL_flat {α : Type} {f : α → List Value} {k : Nat} (hk : ∀ x, (f x).length = k) {g : List α} {i : Nat} {y y' : α} (hy : g[i]? = some y) : setL (g.flatMap f) (i * k) (f y') = (g.set i y').flatMap f := by
  have hi : i < g.length := (List.getElem?_eq_some_iff.1 hy).1
  have hl := gflat_len hk g
  have h1 : i * k + k ≤ g.length * k := by rw [← Nat.succ_mul]; exact Nat.mul_le_mul_right _ hi
  rw [setL_eq _ _ _ (by rw [hk, hl]; exact h1), hk]
  have e : g = g.take i ++ y :: g.drop (i + 1) := by
    have := List.getElem_cons_drop hi
    rw [(List.getElem?_eq_some_iff.1 hy).2] at this
    rw [this, List.take_append_drop]
  have e2 : g.set i y' = g.take i ++ y' :: g.drop (i + 1) := List.set_eq_take_append_cons_drop ▸ by rw [if_pos hi]
  have hlt : ((g.take i).flatMap f).length = i * k := by rw [gflat_len hk, List.length_take, Nat.min_eq_left (by omega)]
  have e3 : g.flatMap f = (g.take i).flatMap f ++ (f y ++ (g.drop (i + 1)).flatMap f) := by
    conv => lhs; rw [e]
    rw [List.flatMap_append, List.flatMap_cons]
  have e4 : ((g.take i).flatMap f ++ (f y ++ (g.drop (i + 1)).flatMap f)).take (i * k) = (g.take i).flatMap f := by rw [← hlt]; exact List.take_left ..
  have e5 : ((g.take i).flatMap f ++ (f y ++ (g.drop (i + 1)).flatMap f)).drop (i * k + k) = (g.drop (i + 1)).flatMap f := by
    rw [← List.append_assoc]
    have : ((g.take i).flatMap f ++ f y).length = i * k + k := by rw [List.length_append, hlt, hk]
    rw [← this]; exact List.drop_left ..
  rw [e2, List.flatMap_append, List.flatMap_cons, e3, e4, e5, List.append_assoc]

theorem setsFrom_heap (W : World) (G : Nat) : ∀ (vs : List Value) (o k : Nat), k ≠ G → (setsFrom W G o vs).heap[k]? = W.heap[k]? := by
  intro vs
  induction vs generalizing W with
  | nil => intro o k _; rfl
  | cons v vs ih =>
    intro o k hk
    rw [setsFrom, ih _ (o + 1) k hk, heap_setCell_other _ _ _ _ hk]

theorem owns_sets {B : Nat} {e : TypeId} {size G cap n : Nat} : ∀ (vs : List Value) (W : World) (o : Nat) (xs : List Value), W.ownsRow B e size (.slice (some ⟨G, 0, none⟩) n cap) n xs → (setsFrom W G o vs).ownsRow B e size (.slice (some ⟨G, 0, none⟩) n cap) n (setL xs o vs) ∧ W.grownBy (setsFrom W G o vs) (some G)
  | [], W, o, xs, h => ⟨h, ⟨rfl, rfl, rfl, Nat.le_refl _, fun _ _ _ => rfl⟩⟩
  | v :: vs, W, o, xs, h => by
    obtain ⟨h1, h2⟩ := h.stored o v
    obtain ⟨h3, h4⟩ := owns_sets vs (W.setCell ⟨G, o, none⟩ v) (o + 1) _ h1
    refine ⟨h3, ⟨h4.os.trans h2.os, h4.tape.trans h2.tape, h4.output.trans h2.output, Nat.le_trans h2.size h4.size, fun k hk hne => ?_⟩⟩
    exact (h4.block k (Nat.lt_of_lt_of_le hk h2.size) hne).trans (h2.block k hk hne)

section
variable {W W' : World} {B : Nat} {L : Lb} {m : Mc} {g : List (Tk × Xt)}

/-- The row of one order set anew. -/
theorem RAt.putGv (h : RAt W B L m g) {G cap i : Nat} {y y' : Tk × Xt} (hg : L.lv = .slice (some ⟨G, 0, none⟩) g.length cap) (hy : g[i]? = some y) :
    RAt (setsFrom W G (i * 15) (gvC y')) B L { m with given := m.given.set i y'.1 } (g.set i y') ∧ Kb B W (setsFrom W G (i * 15) (gvC y')) := by
  have hgi := h.giv
  rw [hg] at hgi
  have hmm : L.D ≠ G := fun e => row_ne h.giv h.blk (by decide) (by rw [hg, e]; rfl)
  have hgo : L.lv.ownBlock = some G := by rw [hg]; rfl
  have hform : ∃ cur, W.heap[G]? = some (.cells cur 81 (0, 0)) ∧ B ≤ G := by
    rcases hgi.2 with ⟨h1, _⟩ | ⟨g', cap', cur, h1, h2, h3, _⟩
    · cases h1
    · simp only [Value.slice.injEq, Option.some.injEq, Addr.mk.injEq, and_true, true_and] at h1
      obtain ⟨rfl, _⟩ := h1
      exact ⟨cur, h3, h2⟩
  obtain ⟨cur, hcur, hBg⟩ := hform
  obtain ⟨h1, h2⟩ := owns_sets (gvC y') W (i * 15) _ hgi
  refine ⟨⟨h.units, h.lat, h.regs, ?_, h.base, ?_, ?_, ?_⟩, (Kb.refl B W).grown h2 (fun k hk => by cases hk; exact ⟨hBg, _, hcur, by simp [hotB]⟩)⟩
  · rw [List.map_set, h.fst]
  · rw [setsFrom_heap _ _ _ _ _ hmm]; exact h.blk
  · rw [hg, List.length_set]
    rw [setL_flat gv_len hy] at h1
    exact h1
  · exact row_kept h.mem h2 (fun k hk => by cases hk; exact row_apart h.mem h.giv (by decide) _ hgo)

/-- One more order. -/
theorem RAt.addGv {W1 : World} (h : RAt W B L m g) (y : Tk × Xt) {lv' : Value} (hg : W.grownBy W1 L.lv.ownBlock) (ho : W1.ownsRow B 81 15 lv' (g.length + 1) (g.flatMap gvC ++ gvC y)) :
    RAt (W1.setCell ⟨L.D, 24, none⟩ lv') B { L with lv := lv' } { m with given := m.given ++ [y.1] } (g ++ [y]) ∧ Kb B W (W1.setCell ⟨L.D, 24, none⟩ lv') := by
  have hne := row_ne h.giv h.blk (by decide)
  have hb1 : W1.heap[L.D]? = some (.cells (bdCells m L).toArray 76 (0, 0)) := by rw [hg.block L.D h.lt (fun e => hne e.symm)]; exact h.blk
  have hk : Kb B W W1 := (Kb.refl B W).grown hg (fun k hk => by
    rcases h.giv.2 with ⟨h1, _⟩ | ⟨g, cap, cur, h1, h2, h3, _⟩
    · rw [h1] at hk; cases hk
    · rw [h1] at hk; simp [Value.ownBlock] at hk; subst hk; exact ⟨h2, _, h3, by simp [hotB]⟩)
  refine ⟨⟨h.units, h.lat, h.regs, ?_, h.base, ?_, ?_, ?_⟩, hk.set hb1 h.hotD h.base _⟩
  · rw [List.map_append, h.fst]; rfl
  · rw [heap_setCell_same W1 L.D 24 _ _ _ hb1, List.setIfInBounds_toArray, bd_tail_set h.units h.lat h.regs _ 1 _]
    rfl
  · have := row_far ho (j := 24) lv' (row_ne ho hb1 (by decide))
    simpa using this
  · exact row_far (row_kept h.mem hg (row_apart h.mem h.giv (by decide))) _ (row_ne (row_kept h.mem hg (row_apart h.mem h.giv (by decide))) hb1 (by decide))
end

end Go.Proofs.YtmeiogoodbnkkaaGreat
