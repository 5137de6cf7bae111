/- The machine in memory, a cell set. -/
import Derived.Test.YtmeiogoodbnkkaaGreatCRC
import Derived.Deep.AppendLies
namespace Go.Proofs.YtmeiogoodbnkkaaGreat
open Go.RowKit

section
variable {W W' : World} {B : Nat} {L : Lo} {m : Mc}

/-- A block of another kind is another block. -/
theorem row_ne {e e' : TypeId} {size n : Nat} {v : Value} {xs : List Value} {k : Nat} {cs : Array Value} {fr : Nat × Nat} (h : W.ownsRow B e size v n xs) (hk : W.heap[k]? = some (.cells cs e' fr)) (hne : e ≠ e') : v.ownBlock ≠ some k := by
  intro hv
  rcases h.2 with ⟨rfl, _⟩ | ⟨g, cap, cur, rfl, _, hg, _⟩
  · cases hv
  · simp [Value.ownBlock] at hv
    subst hv
    rw [hk] at hg
    cases hg
    exact hne rfl
theorem row_apart {e e' : TypeId} {size n size' n' : Nat} {v v' : Value} {xs xs' : List Value} (h : W.ownsRow B e size v n xs) (h' : W.ownsRow B e' size' v' n' xs') (hne : e ≠ e') : ∀ g, v'.ownBlock = some g → v.ownBlock ≠ some g := by
  intro g hv
  rcases h'.2 with ⟨rfl, _⟩ | ⟨g', cap, cur, rfl, _, hg, _⟩
  · cases hv
  · simp [Value.ownBlock] at hv
    subst hv
    exact row_ne h hg hne
theorem row_far {e : TypeId} {size n : Nat} {v : Value} {xs : List Value} (h : W.ownsRow B e size v n xs) {k j : Nat} (u : Value) (hne : v.ownBlock ≠ some k) : (W.setCell ⟨k, j, none⟩ u).ownsRow B e size v n xs := by
  refine ⟨h.1, ?_⟩
  rcases h.2 with hn | ⟨g, cap, cur, rfl, hb, hg, rest⟩
  · exact .inl hn
  · exact .inr ⟨g, cap, cur, rfl, hb, by rw [heap_setCell_other _ _ _ _ (fun e => hne (by simp [Value.ownBlock]; exact e))]; exact hg, rest⟩
theorem row_len {e : TypeId} {size n : Nat} {v : Value} {xs : List Value} (h : W.ownsRow B e size v n xs) : v.ownBlock = none ∨ ∃ g cap, v = .slice (some ⟨g, 0, none⟩) n cap := by
  rcases h.2 with ⟨rfl, _⟩ | ⟨g, cap, cur, rfl, _⟩
  · exact .inl rfl
  · exact .inr ⟨g, cap, rfl⟩

theorem MAt.hotM (_h : MAt W B L m) : hot (.cells (mcCells m L.pv L.gv L.cv L.mv).toArray 97 (0, 0)) = true := by simp [hot]

/-- A cell of the machine's own block set: what the block then is says what the machine is. -/
theorem MAt.setM (h : MAt W B L m) {j : Nat} {v : Value} {m' : Mc} (hc : (mcCells m L.pv L.gv L.cv L.mv).set j v = mcCells m' L.pv L.gv L.cv L.mv) (hu : m'.units.length = 4) (hl : m'.lat.length = 4) (hr : m'.regs.length = 8)
    (hg : m'.given = m.given) (hch : m'.changes = m.changes) (hm : m'.mem = m.mem) : MAt (W.setCell ⟨L.M, j, none⟩ v) B L m' := by
  refine ⟨hu, hl, hr, h.base, ?_, ?_, ?_, ?_⟩
  · rw [heap_setCell_same W L.M j _ _ v h.blk, List.setIfInBounds_toArray, hc]
  · rw [hg]; exact row_far h.giv _ (row_ne h.giv h.blk (by decide))
  · rw [hch]; exact row_far h.chg _ (row_ne h.chg h.blk (by decide))
  · rw [hm]; exact row_far h.mem _ (row_ne h.mem h.blk (by decide))
theorem MAt.kqM (h : MAt W B L m) (j : Nat) (v : Value) : Kq B W (W.setCell ⟨L.M, j, none⟩ v) := (Kq.refl B W).set h.blk h.hotM h.base v

theorem mc_tail_set (hu : m.units.length = 4) (hl : m.lat.length = 4) (hr : m.regs.length = 8) (pv gv cv mv : Value) (j : Nat) (v : Value) :
    (mcCells m pv gv cv mv).set (23 + j) v = mcHead m pv ++ (stCells m.regs mv m.next m.stop m.trap m.steps ++ (mcTail m gv cv).set j v) := by
  rw [mcCells, List.set_append_right _ _ (by rw [mcHead_len hu hl]; omega), mcHead_len hu hl, List.set_append_right _ _ (by rw [st_len hr]; omega), st_len hr]
  congr 3; omega
theorem mc_st_set (hu : m.units.length = 4) (hl : m.lat.length = 4) (hr : m.regs.length = 8) (pv gv cv mv : Value) {j : Nat} (hj : j < 5) (v : Value) :
    (mcCells m pv gv cv mv).set (18 + j) v = mcHead m pv ++ ((m.regs.map (Value.int .i64) ++ [mv, .int .i64 m.next, .int .i64 m.stop, .int .i64 m.trap, .int .i64 m.steps].set j v) ++ mcTail m gv cv) := by
  rw [mcCells, List.set_append_right _ _ (by rw [mcHead_len hu hl]; omega), mcHead_len hu hl, List.set_append_left _ _ (by rw [st_len hr]; omega), stCells, List.set_append_right _ _ (by simp [hr]; omega)]
  congr 4; simp [hr]; omega
theorem mc_reg_set (hu : m.units.length = 4) (hl : m.lat.length = 4) (hr : m.regs.length = 8) (pv gv cv mv : Value) {j : Nat} (hj : j < 8) (v : Int) :
    (mcCells m pv gv cv mv).set (10 + j) (.int .i64 v) = mcCells { m with regs := m.regs.set j v } pv gv cv mv := by
  rw [mcCells, List.set_append_right _ _ (by rw [mcHead_len hu hl]; omega), mcHead_len hu hl, List.set_append_left _ _ (by rw [st_len hr]; omega), stCells, List.set_append_left _ _ (by simp [hr]; omega)]
  simp only [mcCells, mcHead, stCells, mcTail, List.map_set]
  congr 3
  congr 1
  congr 1
  omega

theorem MAt.setCycle (h : MAt W B L m) (c : Nat) : MAt (W.setCell ⟨L.M, 23, none⟩ (.int .i64 c)) B L { m with cycle := c } :=
  h.setM (m' := { m with cycle := c }) (mc_tail_set h.units h.lat h.regs _ _ _ _ 0 _) h.units h.lat h.regs rfl rfl rfl
theorem MAt.setEnded (h : MAt W B L m) (b : Bool) : MAt (W.setCell ⟨L.M, 26, none⟩ (.bool b)) B L { m with ended := b } :=
  h.setM (m' := { m with ended := b }) (mc_tail_set h.units h.lat h.regs _ _ _ _ 3 _) h.units h.lat h.regs rfl rfl rfl
theorem MAt.setShown (h : MAt W B L m) (b : Bool) : MAt (W.setCell ⟨L.M, 27, none⟩ (.bool b)) B L { m with shown := b } :=
  h.setM (m' := { m with shown := b }) (mc_tail_set h.units h.lat h.regs _ _ _ _ 4 _) h.units h.lat h.regs rfl rfl rfl
theorem MAt.setCounts (h : MAt W B L m) (c : Nat) : MAt (W.setCell ⟨L.M, 28, none⟩ (.int .i64 c)) B L { m with counts := c } :=
  h.setM (m' := { m with counts := c }) (mc_tail_set h.units h.lat h.regs _ _ _ _ 5 _) h.units h.lat h.regs rfl rfl rfl
theorem MAt.setNext (h : MAt W B L m) (c : Nat) : MAt (W.setCell ⟨L.M, 19, none⟩ (.int .i64 c)) B L { m with next := c } :=
  h.setM (m' := { m with next := c }) (mc_st_set h.units h.lat h.regs _ _ _ _ (j := 1) (by omega) _) h.units h.lat h.regs rfl rfl rfl
theorem MAt.setStop (h : MAt W B L m) (c : Int) : MAt (W.setCell ⟨L.M, 20, none⟩ (.int .i64 c)) B L { m with stop := c } :=
  h.setM (m' := { m with stop := c }) (mc_st_set h.units h.lat h.regs _ _ _ _ (j := 2) (by omega) _) h.units h.lat h.regs rfl rfl rfl
theorem MAt.setTrap (h : MAt W B L m) (c : Int) : MAt (W.setCell ⟨L.M, 21, none⟩ (.int .i64 c)) B L { m with trap := c } :=
  h.setM (m' := { m with trap := c }) (mc_st_set h.units h.lat h.regs _ _ _ _ (j := 3) (by omega) _) h.units h.lat h.regs rfl rfl rfl
theorem MAt.setSteps (h : MAt W B L m) (c : Int) : MAt (W.setCell ⟨L.M, 22, none⟩ (.int .i64 c)) B L { m with steps := c } :=
  h.setM (m' := { m with steps := c }) (mc_st_set h.units h.lat h.regs _ _ _ _ (j := 4) (by omega) _) h.units h.lat h.regs rfl rfl rfl
theorem MAt.setReg (h : MAt W B L m) {j : Nat} (hj : j < 8) (v : Int) : MAt (W.setCell ⟨L.M, 10 + j, none⟩ (.int .i64 v)) B L { m with regs := m.regs.set j v } :=
  h.setM (m' := { m with regs := m.regs.set j v }) (mc_reg_set h.units h.lat h.regs _ _ _ _ hj _) h.units h.lat (by simp [h.regs]) rfl rfl rfl

/-- A word of the memory set. -/
theorem MAt.setWord (h : MAt W B L m) {g cap j : Nat} (hg : L.mv = .slice (some ⟨g, 0, none⟩) m.mem.length cap) (v : Int) : MAt (W.setCell ⟨g, j, none⟩ (.int .i64 v)) B L { m with mem := m.mem.set j v } ∧ Kq B W (W.setCell ⟨g, j, none⟩ (.int .i64 v)) := by
  have hmem := h.mem
  rw [hg] at hmem
  have hmm : L.M ≠ g := fun e => row_ne h.mem h.blk (by decide) (by rw [hg, e]; rfl)
  have hgo : L.mv.ownBlock = some g := by rw [hg]; rfl
  have hform : ∃ cur, W.heap[g]? = some (.cells cur 2 (0, 0)) ∧ B ≤ g := by
    rcases hmem.2 with ⟨h1, _⟩ | ⟨g', cap', cur, h1, h2, h3, _⟩
    · cases h1
    · simp only [Value.slice.injEq, Option.some.injEq, Addr.mk.injEq, and_true, true_and] at h1
      obtain ⟨rfl, _⟩ := h1
      exact ⟨cur, h3, h2⟩
  obtain ⟨cur, hcur, hBg⟩ := hform
  refine ⟨⟨h.units, h.lat, h.regs, h.base, ?_, row_far h.giv _ (row_apart h.giv h.mem (by decide) g hgo), row_far h.chg _ (row_apart h.chg h.mem (by decide) g hgo), ?_⟩, (Kq.refl B W).set hcur (by simp [hot]) hBg _⟩
  · rw [heap_setCell_other _ _ _ _ hmm]; exact h.blk
  · have hme := h.mem
    rw [hg] at hme ⊢
    have := Own.setWord (mem := m.mem) hme j v
    simpa using this

/-- A field of an order that was given out set. -/
theorem MAt.setTk (h : MAt W B L m) {G cap i j : Nat} {t t' : Tk} {v : Value} (hg : L.gv = .slice (some ⟨G, 0, none⟩) m.given.length cap) (ht : m.given[i]? = some t) (hj : j < 17) (hc : tkCells t' = (tkCells t).set j v) :
    MAt (W.setCell ⟨G, i * 17 + j, none⟩ v) B L { m with given := m.given.set i t' } ∧ Kq B W (W.setCell ⟨G, i * 17 + j, none⟩ v) := by
  have hgi := h.giv
  rw [hg] at hgi
  have hmm : L.M ≠ G := fun e => row_ne h.giv h.blk (by decide) (by rw [hg, e]; rfl)
  have hgo : L.gv.ownBlock = some G := by rw [hg]; rfl
  have hform : ∃ cur, W.heap[G]? = some (.cells cur 119 (0, 0)) ∧ B ≤ G := by
    rcases hgi.2 with ⟨h1, _⟩ | ⟨g', cap', cur, h1, h2, h3, _⟩
    · cases h1
    · simp only [Value.slice.injEq, Option.some.injEq, Addr.mk.injEq, and_true, true_and] at h1
      obtain ⟨rfl, _⟩ := h1
      exact ⟨cur, h3, h2⟩
  obtain ⟨cur, hcur, hBg⟩ := hform
  refine ⟨⟨h.units, h.lat, h.regs, h.base, ?_, ?_, row_far h.chg _ (row_apart h.chg h.giv (by decide) G hgo), row_far h.mem _ (row_apart h.mem h.giv (by decide) G hgo)⟩, (Kq.refl B W).set hcur (by simp [hot]) hBg _⟩
  · rw [heap_setCell_other _ _ _ _ hmm]; exact h.blk
  · have := (hgi.stored (i * 17 + j) v).1
    rw [gflat_set tk_len m.given i j t t' v ht hj hc] at this
    rw [hg]
    simpa using this
end

end Go.Proofs.YtmeiogoodbnkkaaGreat
