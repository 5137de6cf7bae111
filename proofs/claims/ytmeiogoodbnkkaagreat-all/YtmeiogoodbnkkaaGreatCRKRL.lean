/- Several texts in one: RK, RL. -/
import Derived.Test.YtmeiogoodbnkkaaGreatCRI
import Derived.Maps.AppendAt
import Derived.Deep.AppendLies
import Derived.Deep.RegionHeld3
import Derived.Deep.RegionLaw
/- A thing is remembered. -/
namespace Go.Proofs.YtmeiogoodbnkkaaGreat
open Go.RowKit

theorem Tryz.infoTk : (Tryz.prog.info? 119).map (fun i => (i.zero, i.size, i.bytes)) = some (some (.agg #[.int .i64 0, .int .i64 0, .int .i64 0, .int .i64 0, .int .i64 0, .int .i64 0, .int .u8 0, .int .u8 0, .int .i64 0, .int .i64 0, .int .i64 0, .int .i64 0, .int .i64 0, .int .i64 0, .int .i64 0, .int .i64 0, .int .i64 0]), 17, 128) := by kernel_rfl
theorem Tryz.infoCh : (Tryz.prog.info? 139).map (fun i => (i.zero, i.size, i.bytes)) = some (some (.agg #[.int .i64 0, .int .i64 0, .int .i64 0, .int .i64 0]), 4, 32) := by kernel_rfl

theorem addr_add (b off j : Nat) : (⟨b, off, none⟩ : Addr).add j = ⟨b, off + j, none⟩ := by unfold Addr.add; split <;> simp_all

theorem tk_one (t : Tk) : ∀ u ∈ tkCells t, u.oneCell' = true := by
  intro u hu
  simp [tkCells] at hu
  rcases hu with h | h | h | h | h | h | h | h | h | h | h | h | h | h | h | h | h <;> subst h <;> rfl
theorem ch_one (c : Ch) : ∀ u ∈ chCells c, u.oneCell' = true := by
  intro u hu
  simp [chCells] at hu
  rcases hu with h | h | h | h <;> subst h <;> rfl

/-- The row's head, and the thing in its box. -/
def Sadd (rb ro b : Nat) (gv : Value) (cs : Array Value) (ty : TypeId) (w : World) : Prop := w.cell? ⟨rb, ro, none⟩ = some gv ∧ w.frozen? ⟨rb, ro, none⟩ = false ∧ w.heap[b]? = some (.cells cs ty (0, 0))

theorem Sadd.alloc {rb ro b : Nat} {gv : Value} {cs : Array Value} {ty : TypeId} {w : World} (h : Sadd rb ro b gv cs ty w) (o : Obj) : Sadd rb ro b gv cs ty (w.alloc o) := by
  have hlt : rb < w.heap.size := World.block_lt_of_cell? w ⟨rb, ro, none⟩ h.1
  refine ⟨?_, ?_, ?_⟩
  · rw [World.cell?_of_block (Below.heap_alloc w o rb hlt)]; exact h.1
  · rw [World.frozen?_of_block (Below.heap_alloc w o rb hlt)]; exact h.2.1
  · rw [Below.heap_alloc _ _ _ (Array.getElem?_eq_some_iff.1 h.2.2).1]; exact h.2.2
theorem Sadd.drew {rb ro b : Nat} {gv : Value} {cs : Array Value} {ty : TypeId} {w : World} (h : Sadd rb ro b gv cs ty w) : Sadd rb ro b gv cs ty w.drew := h
theorem Sadd.grown {rb ro b : Nat} {gv : Value} {cs : Array Value} {ty : TypeId} {w w' : World} (h : Sadd rb ro b gv cs ty w) {row : Option Nat} (hg : w.grownBy w' row) (h1 : some rb ≠ row) (h2 : some b ≠ row) : Sadd rb ro b gv cs ty w' := by
  have hlt : rb < w.heap.size := World.block_lt_of_cell? w ⟨rb, ro, none⟩ h.1
  refine ⟨?_, ?_, ?_⟩
  · rw [World.cell?_of_block (hg.block rb hlt h1)]; exact h.1
  · rw [World.frozen?_of_block (hg.block rb hlt h1)]; exact h.2.1
  · rw [hg.block _ (Array.getElem?_eq_some_iff.1 h.2.2).1 h2]; exact h.2.2
theorem Sadd.box {rb ro b : Nat} {gv : Value} {cs : Array Value} {ty : TypeId} {w : World} (h : Sadd rb ro b gv cs ty w) (j : Nat) : w.cell? ⟨b, j, none⟩ = cs[j]? := cell_of_row _ _ _ _ _ _ h.2.2

theorem newsAt (W : World) (A : Obj) (l : List Value) (ty : TypeId) : ∀ j u, l[j]? = some u → ((W.alloc A).alloc (.cells l.toArray ty)).drew.cell? ((⟨W.heap.size + 1, 0, none⟩ : Addr).add j) = some u := fun j u hu => by
  rw [addr_add, Nat.zero_add]
  show ((W.alloc A).alloc (.cells l.toArray ty)).cell? _ = _
  have hb : ((W.alloc A).alloc (.cells l.toArray ty)).heap[W.heap.size + 1]? = some (.cells l.toArray ty (0, 0)) := by
    have := heap_alloc_new (W.alloc A) (.cells l.toArray ty)
    rw [World.size_alloc] at this
    exact this
  rw [cell_of_row _ _ _ _ _ _ hb]
  simpa using hu
theorem grown_two {W w1 : World} (A B : Obj) {row : Option Nat} (h : ((W.alloc A).alloc B).drew.grownBy w1 row) : W.grownBy w1 row :=
  ⟨h.os, h.tape, h.output, Nat.le_trans (by simp [World.drew]; omega) h.size, fun k hk hne => (h.block k (by simp [World.drew]; omega) hne).trans ((Below.heap_alloc _ _ _ (by simp; omega)).trans (Below.heap_alloc _ _ _ hk))⟩

set_option maxRecDepth 100000 in
set_option maxHeartbeats 8000000 in
theorem tAdd_any (W : World) (B rb ro n : Nat) (gv : Value) (xs : List Value) (t : Tk) (hown : W.ownsRow B 119 17 gv n xs) (hc : W.cell? ⟨rb, ro, none⟩ = some gv) (hf : W.frozen? ⟨rb, ro, none⟩ = false) (hne : gv.ownBlock ≠ some rb) (hn : n ≤ 1000000) (hB : B ≤ W.heap.size) :
    Calls Tryz.prog 103 #[.pointer (some ⟨rb, ro, none⟩), .agg (tkCells t).toArray] W fun e w' => e = .returned (.tuple #[]) ∧
      ∃ gv' w1, W.grownBy w1 gv.ownBlock ∧ w1.ownsRow B 119 17 gv' (n + 1) (xs ++ tkCells t) ∧ (gv'.ownBlock = gv.ownBlock ∨ ∃ k, gv'.ownBlock = some k ∧ W.heap.size ≤ k) ∧ w' = w1.setCell ⟨rb, ro, none⟩ gv' := by
  obtain ⟨i0, hi, hz0, hz1, hz2⟩ := info_parts Tryz.infoTk
  have hlt : rb < W.heap.size := World.block_lt_of_cell? W ⟨rb, ro, none⟩ hc
  have HTO := hide (tk_one t)
  have hgl : ∀ k, gv.ownBlock = some k → k < W.heap.size := fun k hk => (World.ownsRow.lt hown k hk).2
  have HGL := hide hgl
  have HOWN := hide hown
  have HNE := hide hne
  clear hown hne hgl
  have hcs : (tkCells t).toArray = #[.int .i64 t.o.op, .int .i64 t.o.d, .int .i64 t.o.a, .int .i64 t.o.b, .int .i64 t.o.k, .int .i64 (kindOf t.o.op), .int .u8 (rMask t.o), .int .u8 (wMask t.o), .int .i64 t.number, .int .i64 t.issue, .int .i64 t.read, .int .i64 t.done, .int .i64 t.write, .int .i64 t.tgt, .int .i64 t.pl, .int .i64 t.val, .int .i64 t.trap] := rfl
  have HS0 : Hid (Sadd rb ro W.heap.size gv (tkCells t).toArray 119 (W.alloc (.cells (tkCells t).toArray 119))) :=
    ⟨(World.cell?_of_block (Below.heap_alloc W _ rb hlt)).trans hc, (World.frozen?_of_block (Below.heap_alloc W _ rb hlt)).trans hf, heap_alloc_new W _⟩
  have r0 : ∀ w', Sadd rb ro W.heap.size gv (tkCells t).toArray 119 w' → w'.cell? ⟨rb, ro, none⟩ = some gv := fun w' h => h.1
  have r1 : ∀ w' j, Sadd rb ro W.heap.size gv (tkCells t).toArray 119 w' → w'.cell? ⟨W.heap.size, j, none⟩ = (tkCells t).toArray[j]? := fun w' j h => h.box j
  have r2 : ∀ w', Sadd rb ro W.heap.size gv (tkCells t).toArray 119 w' → w'.frozen? ⟨rb, ro, none⟩ = false := fun w' h => h.2.1
  rw [hcs] at HS0 r0 r1 r2 ⊢
  go_enter Tryz.func103, Tryz.ntmps103
  go_wp2
  go_region_law ((refine step_append_lies _ (by rfl) (.tmp 8) (.tmp 10) 90 (by rfl) B 119 i0 _ 17 128 Tryz.underlying90 hi hz0 hz1 hz2 (by rfl) (by omega) gv n xs (by rfl) (World.ownsRow.alloc (World.ownsRow.alloc HOWN.out _) _) ⟨W.heap.size + 1, 0, none⟩ 1 1 (tkCells t) (by rfl) (by rfl) (newsAt W _ (tkCells t) 119) HTO.out (by omega) (by unfold maxLen; omega) (by omega) (by simp; omega) (W.heap.size + 2) (by simp) ?_; intro g cap w1 hown1 hgrow hat hlt1; have HS1 : Hid (Sadd rb ro W.heap.size gv (tkCells t).toArray 119 w1) := Sadd.grown (Sadd.drew (Sadd.alloc HS0.out _)) hgrow (fun e => HNE.out e.symm) (fun e => Nat.lt_irrefl _ (HGL.out _ e.symm)); have r3 := HS1.out.1; have r4 := HS1.out.2.1))
  all_goals go_wp2
  all_goals
    go_end0
    exact ⟨rfl, _, w1, grown_two _ _ hgrow, hown1, hat.elim (fun h => .inl (by rw [h]; rfl)) (fun h => .inr ⟨g, rfl, by omega⟩), rfl⟩

end Go.Proofs.YtmeiogoodbnkkaaGreat

/- A change is remembered. -/
namespace Go.Proofs.YtmeiogoodbnkkaaGreat
open Go.RowKit

set_option maxRecDepth 100000 in
set_option maxHeartbeats 8000000 in
theorem cAdd_any (W : World) (B rb ro n : Nat) (gv : Value) (xs : List Value) (c : Ch) (hown : W.ownsRow B 139 4 gv n xs) (hc : W.cell? ⟨rb, ro, none⟩ = some gv) (hf : W.frozen? ⟨rb, ro, none⟩ = false) (hne : gv.ownBlock ≠ some rb) (hn : n ≤ 1000000) (hB : B ≤ W.heap.size) :
    Calls Tryz.prog 98 #[.pointer (some ⟨rb, ro, none⟩), .agg (chCells c).toArray] W fun e w' => e = .returned (.tuple #[]) ∧
      ∃ gv' w1, W.grownBy w1 gv.ownBlock ∧ w1.ownsRow B 139 4 gv' (n + 1) (xs ++ chCells c) ∧ (gv'.ownBlock = gv.ownBlock ∨ ∃ k, gv'.ownBlock = some k ∧ W.heap.size ≤ k) ∧ w' = w1.setCell ⟨rb, ro, none⟩ gv' := by
  obtain ⟨i0, hi, hz0, hz1, hz2⟩ := info_parts Tryz.infoCh
  have hlt : rb < W.heap.size := World.block_lt_of_cell? W ⟨rb, ro, none⟩ hc
  have HTO := hide (ch_one c)
  have hgl : ∀ k, gv.ownBlock = some k → k < W.heap.size := fun k hk => (World.ownsRow.lt hown k hk).2
  have HGL := hide hgl
  have HOWN := hide hown
  have HNE := hide hne
  clear hown hne hgl
  have hcs : (chCells c).toArray = #[.int .i64 c.place, .int .i64 c.tgt, .int .i64 c.pl, .int .i64 c.val] := rfl
  have HS0 : Hid (Sadd rb ro W.heap.size gv (chCells c).toArray 139 (W.alloc (.cells (chCells c).toArray 139))) :=
    ⟨(World.cell?_of_block (Below.heap_alloc W _ rb hlt)).trans hc, (World.frozen?_of_block (Below.heap_alloc W _ rb hlt)).trans hf, heap_alloc_new W _⟩
  have r0 : ∀ w', Sadd rb ro W.heap.size gv (chCells c).toArray 139 w' → w'.cell? ⟨rb, ro, none⟩ = some gv := fun w' h => h.1
  have r1 : ∀ w' j, Sadd rb ro W.heap.size gv (chCells c).toArray 139 w' → w'.cell? ⟨W.heap.size, j, none⟩ = (chCells c).toArray[j]? := fun w' j h => h.box j
  have r2 : ∀ w', Sadd rb ro W.heap.size gv (chCells c).toArray 139 w' → w'.frozen? ⟨rb, ro, none⟩ = false := fun w' h => h.2.1
  rw [hcs] at HS0 r0 r1 r2 ⊢
  go_enter Tryz.func98, Tryz.ntmps98
  go_wp2
  go_region_law ((refine step_append_lies _ (by rfl) (.tmp 8) (.tmp 10) 93 (by rfl) B 139 i0 _ 4 32 Tryz.underlying93 hi hz0 hz1 hz2 (by rfl) (by omega) gv n xs (by rfl) (World.ownsRow.alloc (World.ownsRow.alloc HOWN.out _) _) ⟨W.heap.size + 1, 0, none⟩ 1 1 (chCells c) (by rfl) (by rfl) (newsAt W _ (chCells c) 139) HTO.out (by omega) (by unfold maxLen; omega) (by omega) (by simp; omega) (W.heap.size + 2) (by simp) ?_; intro g cap w1 hown1 hgrow hat hlt1; have HS1 : Hid (Sadd rb ro W.heap.size gv (chCells c).toArray 139 w1) := Sadd.grown (Sadd.drew (Sadd.alloc HS0.out _)) hgrow (fun e => HNE.out e.symm) (fun e => Nat.lt_irrefl _ (HGL.out _ e.symm)); have r3 := HS1.out.1; have r4 := HS1.out.2.1))
  all_goals go_wp2
  all_goals
    go_end0
    exact ⟨rfl, _, w1, grown_two _ _ hgrow, hown1, hat.elim (fun h => .inl (by rw [h]; rfl)) (fun h => .inr ⟨g, rfl, by omega⟩), rfl⟩

end Go.Proofs.YtmeiogoodbnkkaaGreat
