/- The machine in memory: its block, the row of orders that were given out, the row of changes, the memory's words; what may turn and what may not. -/
import Derived.Test.YtmeiogoodbnkkaaGreatCLPM
import Derived.Test.YtmeiogoodbnkkaaGreatCRA
import Derived.Laws.OwnMore
import Derived.RangeFuncBox
namespace Go.Proofs.YtmeiogoodbnkkaaGreat
open Go.RowKit

theorem gflat_len {α β : Type} {f : α → List β} {k : Nat} (hk : ∀ x, (f x).length = k) : ∀ l : List α, (l.flatMap f).length = l.length * k
  | [] => by simp
  | x :: l => by simp only [List.flatMap_cons, List.length_append, gflat_len hk l, List.length_cons, hk]; rw [Nat.succ_mul]; omega

theorem gflat_get {α β : Type} {f : α → List β} {k : Nat} (hk : ∀ x, (f x).length = k) : ∀ (l : List α) (i j : Nat) (x : α), l[i]? = some x → j < k → (l.flatMap f)[i * k + j]? = (f x)[j]?
  | [], i, j, x, h, _ => by simp at h
  | y :: l, 0, j, x, h, hj => by
    simp at h; subst h
    rw [List.flatMap_cons, List.getElem?_append_left (by rw [hk]; omega)]
    simp
  | y :: l, i + 1, j, x, h, hj => by
    have e : (i + 1) * k + j = k + (i * k + j) := by rw [Nat.succ_mul]; omega
    rw [List.flatMap_cons, e, List.getElem?_append_right (by rw [hk]; omega), hk]
    have := gflat_get hk l i j x (by simpa using h) hj
    simpa using this

theorem gflat_set {α β : Type} {f : α → List β} {k : Nat} (hk : ∀ x, (f x).length = k) : ∀ (l : List α) (i j : Nat) (x x' : α) (v : β), l[i]? = some x → j < k → f x' = (f x).set j v → (l.flatMap f).set (i * k + j) v = (l.set i x').flatMap f
  | [], i, j, x, _, _, h, _, _ => by simp at h
  | y :: l, 0, j, x, x', v, h, hj, hf => by
    simp at h; subst h
    rw [List.flatMap_cons, List.set_append_left _ _ (by rw [hk]; omega), List.set_cons_zero, List.flatMap_cons, hf]
    simp
  | y :: l, i + 1, j, x, x', v, h, hj, hf => by
    have e : (i + 1) * k + j = k + (i * k + j) := by rw [Nat.succ_mul]; omega
    rw [List.flatMap_cons, e, List.set_append_right _ _ (by rw [hk]; omega), hk, List.set_cons_succ, List.flatMap_cons, ← gflat_set hk l i j x x' v (by simpa using h) hj hf]
    simp

def tkCells (t : Tk) : List Value := [.int .i64 t.o.op, .int .i64 t.o.d, .int .i64 t.o.a, .int .i64 t.o.b, .int .i64 t.o.k, .int .i64 (kindOf t.o.op), .int .u8 (rMask t.o), .int .u8 (wMask t.o),
  .int .i64 t.number, .int .i64 t.issue, .int .i64 t.read, .int .i64 t.done, .int .i64 t.write, .int .i64 t.tgt, .int .i64 t.pl, .int .i64 t.val, .int .i64 t.trap]
def chCells (c : Ch) : List Value := [.int .i64 c.place, .int .i64 c.tgt, .int .i64 c.pl, .int .i64 c.val]
def mcTail (m : Mc) (gv cv : Value) : List Value := [.int .i64 m.cycle, gv, cv, .bool m.ended, .bool m.shown, .int .i64 m.counts]
def mcHead (m : Mc) (pv : Value) : List Value := m.units.map (Value.int .i64) ++ (m.lat.map (Value.int .i64) ++ [.int .i64 m.buses, pv])
def mcCells (m : Mc) (pv gv cv mv : Value) : List Value := mcHead m pv ++ (stCells m.regs mv m.next m.stop m.trap m.steps ++ mcTail m gv cv)

theorem tk_len (t : Tk) : (tkCells t).length = 17 := rfl
theorem ch_len (c : Ch) : (chCells c).length = 4 := rfl

/-- Where the machine lies. -/
structure Lo where
  M : Nat
  pv : Value
  gv : Value
  cv : Value
  mv : Value

structure MAt (W : World) (B : Nat) (L : Lo) (m : Mc) : Prop where
  units : m.units.length = 4
  lat : m.lat.length = 4
  regs : m.regs.length = 8
  base : B ≤ L.M
  blk : W.heap[L.M]? = some (.cells (mcCells m L.pv L.gv L.cv L.mv).toArray 97 (0, 0))
  giv : W.ownsRow B 119 17 L.gv m.given.length (m.given.flatMap tkCells)
  chg : W.ownsRow B 139 4 L.cv m.changes.length (m.changes.flatMap chCells)
  mem : Own W B L.mv m.mem

/-- May this block turn? -/
def hot : Obj → Bool
  | .cells _ t _ => t == 97 || t == 119 || t == 139 || t == 2
  | _ => false

/-- Of what was there nothing has turned but the machine's own blocks, from B on. -/
structure Kq (B : Nat) (W W' : World) : Prop where
  os : W'.os = W.os
  tape : W'.tape = W.tape
  output : W'.output = W.output
  size : W.heap.size ≤ W'.heap.size
  block : ∀ k o, W.heap[k]? = some o → (k < B ∨ hot o = false) → W'.heap[k]? = some o

theorem Kq.refl (B : Nat) (W : World) : Kq B W W := ⟨rfl, rfl, rfl, Nat.le_refl _, fun _ _ h _ => h⟩
theorem Kq.trans {B : Nat} {X Y Z : World} (h : Kq B X Y) (k : Kq B Y Z) : Kq B X Z :=
  ⟨k.os.trans h.os, k.tape.trans h.tape, k.output.trans h.output, Nat.le_trans h.size k.size, fun i o hi ho => k.block i o (h.block i o hi ho) ho⟩
theorem Kq.of_below {B : Nat} {W W' : World} (h : Below W.heap.size W W') : Kq B W W' :=
  ⟨h.os, h.tape, h.output, h.size, fun k o hk _ => by rw [h.block k (Array.getElem?_eq_some_iff.1 hk).1]; exact hk⟩
theorem Kq.below {B : Nat} {W W' : World} (h : Kq B W W') (hB : B ≤ W.heap.size) : Below B W W' :=
  ⟨h.os, h.tape, h.output, h.size, fun k hk => by
    have hk' : k < W.heap.size := by omega
    rw [Array.getElem?_eq_getElem hk']
    exact h.block k _ (Array.getElem?_eq_getElem hk') (.inl hk)⟩
theorem Kq.alloc {B : Nat} {W W' : World} (h : Kq B W W') (o : Obj) : Kq B W (W'.alloc o) := h.trans (.of_below ((Below.refl _ _).alloc (Nat.le_refl _) _))
theorem Kq.drew {B : Nat} {W W' : World} (h : Kq B W W') : Kq B W W'.drew := h.trans (.of_below (Below.refl _ _).drew)
theorem Kq.set {B : Nat} {W W' : World} (h : Kq B W W') {k j : Nat} {cs : Array Value} {t : TypeId} {fr : Nat × Nat} (hk : W'.heap[k]? = some (.cells cs t fr)) (ht : hot (.cells cs t fr) = true) (hB : B ≤ k) (v : Value) : Kq B W (W'.setCell ⟨k, j, none⟩ v) :=
  h.trans ⟨rfl, rfl, rfl, by simp, fun i o hi ho => by
    rw [heap_setCell_other _ _ _ _ (fun e => by
      have e' : i = k := e
      rw [e', hk] at hi
      cases hi
      rcases ho with ho | ho
      · omega
      · rw [ht] at ho; cases ho)]
    exact hi⟩
theorem Kq.grown {B : Nat} {W W' W'' : World} (h : Kq B W W') {row : Option Nat} (hg : W'.grownBy W'' row) (hr : ∀ k, row = some k → B ≤ k ∧ ∃ o, W'.heap[k]? = some o ∧ hot o = true) : Kq B W W'' :=
  h.trans ⟨hg.os, hg.tape, hg.output, hg.size, fun i o hi ho => by
    rw [hg.block i (Array.getElem?_eq_some_iff.1 hi).1 (fun e => by
      obtain ⟨h1, o', h2, h3⟩ := hr i e.symm
      rw [hi] at h2; cases h2
      rcases ho with ho | ho
      · omega
      · rw [h3] at ho; cases ho)]
    exact hi⟩
theorem Kq.from {B B' : Nat} {W W' : World} (h : Kq B W W') : KeepsFrom B' W W' :=
  ⟨h.size, fun k o _ hk ho => h.block k o hk (.inr (by cases o <;> simp_all [hot, Obj.isCells]))⟩

theorem ownFrom_kq {α : Type} {B : Nat} {w : World} : OwnFrom w.heap.size (fun (_ : α) W => Kq B w W) := fun _ W W' row hs hg hr =>
  ⟨hg.os.trans hs.os, hg.tape.trans hs.tape, hg.output.trans hs.output, Nat.le_trans hs.size hg.size, fun i o hi ho => by
    have h1 := hs.block i o hi ho
    rw [hg.block i (Array.getElem?_eq_some_iff.1 h1).1 (fun e => by have := (hr i e.symm).1; have := (Array.getElem?_eq_some_iff.1 hi).1; omega)]
    exact h1⟩

/-- Blocks of cells lie as they lay. -/
def CK (W W' : World) : Prop := ∀ (k : Nat) (cs : Array Value) (t : TypeId) (fr : Nat × Nat), W.heap[k]? = some (Obj.cells cs t fr) → W'.heap[k]? = some (Obj.cells cs t fr)

theorem ck_grown {B : Nat} {W W' : World} {row : Option Nat} (hg : W.grownBy W' row) (hr : ∀ r, row = some r → B ≤ r ∧ ∃ o : Obj, W.heap[r]? = some o ∧ o.isCells = false) : CK W W' := fun k cs t fr hk => by
  rw [hg.block k (Array.getElem?_eq_some_iff.1 hk).1 (fun e => by obtain ⟨_, o, h1, h2⟩ := hr k e.symm; rw [hk] at h1; cases h1; simp [Obj.isCells] at h2)]
  exact hk

theorem ownFrom_ck {α : Type} {B : Nat} {I : α → World → Prop} (h : ∀ s W W', I s W → CK W W' → I s W') : OwnFrom B I := fun s W W' _ hs hg hr => h s W W' hs (ck_grown hg hr)

theorem CK.of_below {W W' : World} (h : Below W.heap.size W W') : CK W W' := fun k cs t fr hk => by rw [h.block k (Array.getElem?_eq_some_iff.1 hk).1]; exact hk

theorem row_ck {W W' : World} {B size n : Nat} {e : TypeId} {v : Value} {xs : List Value} (h : W.ownsRow B e size v n xs) (hk : CK W W') : W'.ownsRow B e size v n xs := by
  refine ⟨h.1, ?_⟩
  rcases h.2 with hn | ⟨g, cap, cur, rfl, hb, hg, rest⟩
  · exact .inl hn
  · exact .inr ⟨g, cap, cur, rfl, hb, hk _ _ _ _ hg, rest⟩

/-- A variable in a box. -/
def Bx (W : World) (b : Nat) (t : TypeId) (v : Value) : Prop := W.heap[b]? = some (.cells #[v] t (0, 0))

theorem Bx.cell {W : World} {b : Nat} {t : TypeId} {v : Value} (h : Bx W b t v) : W.cell? ⟨b, 0, none⟩ = some v := by rw [cell_of_row W b 0 _ _ _ h]; rfl
theorem Bx.frozen {W : World} {b : Nat} {t : TypeId} {v : Value} (h : Bx W b t v) : W.frozen? ⟨b, 0, none⟩ = false := by unfold Bx at h; simp [World.frozen?, h]
theorem Bx.lt {W : World} {b : Nat} {t : TypeId} {v : Value} (h : Bx W b t v) : b < W.heap.size := (Array.getElem?_eq_some_iff.1 h).1
theorem Bx.ck {W W' : World} {b : Nat} {t : TypeId} {v : Value} (h : Bx W b t v) (hk : CK W W') : Bx W' b t v := hk _ _ _ _ h
theorem Bx.kq {B : Nat} {W W' : World} {b : Nat} {t : TypeId} {v : Value} (h : Bx W b t v) (hk : Kq B W W') (ht : hot (.cells #[] t (0, 0)) = false) : Bx W' b t v := hk.block _ _ h (.inr (by simpa [hot] using ht))
theorem Bx.set {W : World} {b : Nat} {t : TypeId} {v : Value} (h : Bx W b t v) (u : Value) : Bx (W.setCell ⟨b, 0, none⟩ u) b t u := by
  unfold Bx; rw [heap_setCell_same W b 0 _ _ u h]; rfl
theorem Bx.other {W : World} {b : Nat} {t : TypeId} {v : Value} (h : Bx W b t v) {b' j : Nat} (u : Value) (hne : b ≠ b') : Bx (W.setCell ⟨b', j, none⟩ u) b t v := by
  unfold Bx; rw [heap_setCell_other _ _ _ _ hne]; exact h
theorem Bx.alloc {W : World} {b : Nat} {t : TypeId} {v : Value} (h : Bx W b t v) (o : Obj) : Bx (W.alloc o) b t v := by
  unfold Bx; rw [Below.heap_alloc _ _ _ h.lt]; exact h
theorem Bx.new (W : World) (t : TypeId) (v : Value) : Bx (W.alloc (.cells #[v] t)) W.heap.size t v := heap_alloc_new W _
theorem Bx.below {B : Nat} {W W' : World} {b : Nat} {t : TypeId} {v : Value} (h : Bx W b t v) (hb : Below B W W') (hB : b < B) : Bx W' b t v := by unfold Bx; rw [hb.block _ hB]; exact h

section
variable {W W' : World} {B : Nat} {L : Lo} {m : Mc}

theorem MAt.ck (h : MAt W B L m) (hk : CK W W') : MAt W' B L m :=
  ⟨h.units, h.lat, h.regs, h.base, hk _ _ _ _ h.blk, row_ck h.giv hk, row_ck h.chg hk, row_ck h.mem hk⟩
theorem MAt.below (h : MAt W B L m) (hb : Below W.heap.size W W') : MAt W' B L m := h.ck (.of_below hb)
theorem MAt.lt (h : MAt W B L m) : L.M < W.heap.size := (Array.getElem?_eq_some_iff.1 h.blk).1
theorem MAt.frozen (h : MAt W B L m) (j : Nat) : W.frozen? ⟨L.M, j, none⟩ = false := by simp [World.frozen?, h.blk]

theorem mcHead_len (hu : m.units.length = 4) (hl : m.lat.length = 4) (pv : Value) : (mcHead m pv).length = 10 := by simp [mcHead, hu, hl]
theorem st_len (hr : m.regs.length = 8) (mv : Value) : (stCells m.regs mv m.next m.stop m.trap m.steps).length = 13 := by simp [stCells, hr]

theorem MAt.tail (h : MAt W B L m) (j : Nat) : W.cell? ⟨L.M, 23 + j, none⟩ = (mcTail m L.gv L.cv)[j]? := by
  rw [cell_of_row W L.M _ _ _ _ h.blk, List.getElem?_toArray, mcCells, List.getElem?_append_right (by rw [mcHead_len h.units h.lat]; omega), mcHead_len h.units h.lat, List.getElem?_append_right (by rw [st_len h.regs]; omega), st_len h.regs]
  congr 1; omega
theorem MAt.mid (h : MAt W B L m) {j : Nat} (hj : j < 13) : W.cell? ⟨L.M, 10 + j, none⟩ = (stCells m.regs L.mv m.next m.stop m.trap m.steps)[j]? := by
  rw [cell_of_row W L.M _ _ _ _ h.blk, List.getElem?_toArray, mcCells, List.getElem?_append_right (by rw [mcHead_len h.units h.lat]; omega), mcHead_len h.units h.lat, List.getElem?_append_left (by rw [st_len h.regs]; omega)]
  congr 1; omega
theorem MAt.head (h : MAt W B L m) {j : Nat} (hj : j < 10) : W.cell? ⟨L.M, j, none⟩ = (mcHead m L.pv)[j]? := by
  rw [cell_of_row W L.M _ _ _ _ h.blk, List.getElem?_toArray, mcCells, List.getElem?_append_left (by rw [mcHead_len h.units h.lat]; omega)]

theorem MAt.cCycle (h : MAt W B L m) : W.cell? ⟨L.M, 23, none⟩ = some (.int .i64 m.cycle) := h.tail 0
theorem MAt.cGv (h : MAt W B L m) : W.cell? ⟨L.M, 24, none⟩ = some L.gv := h.tail 1
theorem MAt.cCv (h : MAt W B L m) : W.cell? ⟨L.M, 25, none⟩ = some L.cv := h.tail 2
theorem MAt.cEnded (h : MAt W B L m) : W.cell? ⟨L.M, 26, none⟩ = some (.bool m.ended) := h.tail 3
theorem MAt.cShown (h : MAt W B L m) : W.cell? ⟨L.M, 27, none⟩ = some (.bool m.shown) := h.tail 4
theorem MAt.cCounts (h : MAt W B L m) : W.cell? ⟨L.M, 28, none⟩ = some (.int .i64 m.counts) := h.tail 5
theorem MAt.reg (h : MAt W B L m) {i : Nat} (hi : i < 8) : W.cell? ⟨L.M, 10 + i, none⟩ = some (.int .i64 (m.regs.getD i 0)) := by
  rw [h.mid (by omega)]
  have : i < (m.regs.map (Value.int .i64)).length := by simp [h.regs, hi]
  simp [stCells, List.getElem?_append_left this, List.getD_eq_getElem?_getD, show i < m.regs.length by rw [h.regs]; exact hi]
theorem MAt.st (h : MAt W B L m) {j : Nat} (hj : j < 5) : W.cell? ⟨L.M, 18 + j, none⟩ = [L.mv, .int .i64 m.next, .int .i64 m.stop, .int .i64 m.trap, .int .i64 m.steps][j]? := by
  have := h.mid (j := 8 + j) (by omega)
  rw [show 10 + (8 + j) = 18 + j by omega] at this
  rw [this, stCells, List.getElem?_append_right (by simp [h.regs])]
  simp [h.regs]
theorem MAt.cMv (h : MAt W B L m) : W.cell? ⟨L.M, 18, none⟩ = some L.mv := h.st (j := 0) (by omega)
theorem MAt.cNext (h : MAt W B L m) : W.cell? ⟨L.M, 19, none⟩ = some (.int .i64 m.next) := h.st (j := 1) (by omega)
theorem MAt.cStop (h : MAt W B L m) : W.cell? ⟨L.M, 20, none⟩ = some (.int .i64 m.stop) := h.st (j := 2) (by omega)
theorem MAt.cTrap (h : MAt W B L m) : W.cell? ⟨L.M, 21, none⟩ = some (.int .i64 m.trap) := h.st (j := 3) (by omega)
theorem MAt.cSteps (h : MAt W B L m) : W.cell? ⟨L.M, 22, none⟩ = some (.int .i64 m.steps) := h.st (j := 4) (by omega)
theorem MAt.cUnit (h : MAt W B L m) {i : Nat} (hi : i < 4) : W.cell? ⟨L.M, i, none⟩ = some (.int .i64 (m.units.getD i 0)) := by
  rw [h.head (by omega), mcHead, List.getElem?_append_left (by simp [h.units]; exact hi)]
  simp [List.getD_eq_getElem?_getD, show i < m.units.length by rw [h.units]; exact hi]
theorem MAt.cLat (h : MAt W B L m) {i : Nat} (hi : i < 4) : W.cell? ⟨L.M, 4 + i, none⟩ = some (.int .i64 (m.lat.getD i 0)) := by
  rw [h.head (by omega), mcHead, List.getElem?_append_right (by simp [h.units]), List.getElem?_append_left (by simp [h.units, h.lat]; exact hi)]
  simp [h.units, List.getD_eq_getElem?_getD, show i < m.lat.length by rw [h.lat]; exact hi]
theorem MAt.cBuses (h : MAt W B L m) : W.cell? ⟨L.M, 8, none⟩ = some (.int .i64 m.buses) := by
  rw [h.head (by omega), mcHead, List.getElem?_append_right (by simp [h.units]), List.getElem?_append_right (by simp [h.units, h.lat])]
  simp [h.units, h.lat]
theorem MAt.cPv (h : MAt W B L m) : W.cell? ⟨L.M, 9, none⟩ = some L.pv := by
  rw [h.head (by omega), mcHead, List.getElem?_append_right (by simp [h.units]), List.getElem?_append_right (by simp [h.units, h.lat])]
  simp [h.units, h.lat]

/-- The row of the orders given out, where there is one. -/
theorem MAt.row (h : MAt W B L m) {i : Nat} (hi : i < m.given.length) : ∃ G cap, L.gv = .slice (some ⟨G, 0, none⟩) m.given.length cap ∧ B ≤ G ∧ G < W.heap.size := by
  rcases h.giv.2 with ⟨_, h2⟩ | ⟨g, cap, cur, h1, h2, h3, _⟩
  · omega
  · exact ⟨g, cap, h1, h2, (Array.getElem?_eq_some_iff.1 h3).1⟩
theorem MAt.sl (h : MAt W B L m) : ∃ p cap, L.gv = .slice p m.given.length cap := by
  rcases h.giv.2 with ⟨h1, h2⟩ | ⟨g, cap, cur, h1, _⟩
  · exact ⟨none, 0, by rw [h1, h2]⟩
  · exact ⟨_, _, h1⟩
theorem MAt.tk (h : MAt W B L m) {G cap i : Nat} {t : Tk} (hg : L.gv = .slice (some ⟨G, 0, none⟩) m.given.length cap) (ht : m.given[i]? = some t) {j : Nat} (hj : j < 17) : W.cell? ⟨G, i * 17 + j, none⟩ = (tkCells t)[j]? := by
  have h1 := h.giv
  rw [hg] at h1
  have hi : i < m.given.length := (List.getElem?_eq_some_iff.1 ht).1
  rw [h1.cellAt (i * 17 + j) (by omega), gflat_get tk_len _ _ _ _ ht hj]
theorem MAt.tkFrozen (h : MAt W B L m) {G cap : Nat} (hg : L.gv = .slice (some ⟨G, 0, none⟩) m.given.length cap) (j : Nat) : W.frozen? ⟨G, j, none⟩ = false := by
  have h1 := h.giv
  rw [hg] at h1
  exact h1.frozenAt j
end

end Go.Proofs.YtmeiogoodbnkkaaGreat
