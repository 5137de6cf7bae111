/- What holds of the document's board from cycle to cycle. -/
import Derived.Test.YtmeiogoodbnkkaaGreatCBIBK
import Derived.Test.YtmeiogoodbnkkaaGreatCBL
import Derived.Test.YtmeiogoodbnkkaaGreatCPFPI
namespace Go.Proofs.YtmeiogoodbnkkaaGreat
open Go.RowKit

def ShI (m : Mc) : Prop := m.shown = true → ∃ t, m.given[m.counts]? = some t ∧ t.trap ≠ 0 ∧ t.done ≤ m.cycle ∧ t.read ≠ 0

theorem writes_trap {m : Mc} {j : Nat} {t : Tk} (h : m.given[j]? = some t) (ht : t.trap ≠ 0) : (writesM m).given[j]? = some t := by
  have key : ∀ (l : List Nat) (s : Int × Mc), s.2.given[j]? = some t → (l.foldl writesOne s).2.given[j]? = some t := by
    intro l
    induction l with
    | nil => exact fun s h => h
    | cons i l ih =>
      intro s hs
      refine ih _ ?_
      unfold writesOne
      split
      · exact hs
      · rename_i x hx
        split
        · rename_i hw
          have hne : i ≠ j := fun e => by
            subst e
            rw [hs] at hx
            cases hx
            exact ht (mayW_spec hw).2.1
          have hk : (writeT i x s.2).given[j]? = some t := by
            show (s.2.given.set i _)[j]? = some t
            rw [List.getElem?_set_ne hne]; exact hs
          split
          · exact hk
          · split
            · exact hs
            · exact hk
        · exact hs
  exact key _ _ h

theorem reads_read {m : Mc} {j : Nat} {t : Tk} (h : m.given[j]? = some t) (ht : t.read ≠ 0) : (readsM m).given[j]? = some t := by
  have key : ∀ (l : List Nat) (s : Mc), s.given[j]? = some t → (l.foldl readsOne s).given[j]? = some t := by
    intro l
    induction l with
    | nil => exact fun s h => h
    | cons i l ih =>
      intro s hs
      refine ih _ ?_
      unfold readsOne
      split
      · exact hs
      · rename_i x hx
        split
        · rename_i hw
          have hne : i ≠ j := fun e => by
            subst e
            rw [hs] at hx
            cases hx
            exact ht hw.1
          show (s.given.set i _)[j]? = some t
          rw [List.getElem?_set_ne hne]; exact hs
        · exact hs
  exact key _ _ h

theorem issue_shown (prog : List Ord) (m : Mc) : (issueM prog m).shown = m.shown := by
  unfold issueM
  split
  · rfl
  · simp only
    split
    · rfl
    · split
      · split <;> rfl
      · split <;> rfl

/-- What holds of the machine between two cycles. -/
structure Rn (prog : List Ord) (u l : List Int) (b : Int) (mem0 : List Int) (m : Mc) : Prop where
  gd : Gd prog u l b mem0.length m
  jv : Jv prog u l b mem0 m
  sh : ShI m

section
variable {prog : List Ord} {u l : List Int} {b : Int} {mem0 : List Int} {m : Mc}

theorem Rn.sh4 (h : Rn prog u l b mem0 m) (hp : isProg prog = true) (hb : 0 ≤ b) (hu : u.getD 3 0 = 1) :
    ShI (issueM prog (readsM (writesM { m with cycle := m.cycle + 1 }))) := by
  have _ := hp
  have _ := hu
  intro hs
  rw [issue_shown] at hs
  have hw := Wx.fold h.gd.wf (by rw [show ({ m with cycle := m.cycle + 1 } : Mc).buses = m.buses from rfl, h.gd.buses]; exact hb) h.gd.effc
  obtain ⟨g, hg⟩ := reads_given (writesM { m with cycle := m.cycle + 1 })
  have hs3 : (writesM { m with cycle := m.cycle + 1 }).shown = true := by rw [hg] at hs; exact hs
  have hs0 : m.shown = true := by rw [hw.shown] at hs3; exact hs3
  obtain ⟨t, ht, h1, h2, h3⟩ := h.sh hs0
  have e : issueM prog (readsM (writesM { m with cycle := m.cycle + 1 })) = readsM (writesM { m with cycle := m.cycle + 1 }) := issueM_stop (by rw [hs]; simp)
  rw [e]
  have hc : (readsM (writesM { m with cycle := m.cycle + 1 })).counts = m.counts := by rw [hg]; exact hw.counts
  have hcy : (readsM (writesM { m with cycle := m.cycle + 1 })).cycle = m.cycle + 1 := by rw [readsM_cyc, writesM_cyc]
  refine ⟨t, ?_, h1, by rw [hcy]; omega, h3⟩
  rw [hc]
  exact reads_read (writes_trap (m := { m with cycle := m.cycle + 1 }) ht h1) h3

theorem ShI.cond (h : ShI m) : m.shown = true → condI m m.counts = true ∧ m.counts < m.given.length := fun hs => by
  obtain ⟨t, ht, h1, h2, _⟩ := h hs
  refine ⟨?_, (List.getElem?_eq_some_iff.1 ht).1⟩
  unfold condI
  rw [ht]
  exact decide_eq_true ⟨h1, h2⟩

theorem Rn.cycle (h : Rn prog u l b mem0 m) (hp : isProg prog = true) (hb : 0 ≤ b) (hu : u.getD 3 0 = 1) : Rn prog u l b mem0 (cycleM prog m) := by
  have hj := h.jv.cycle hp hu
  refine ⟨h.gd.cycle hb hp, hj, ?_⟩
  have h4 := h.sh4 hp hb hu
  have j4 : Jv prog u l b mem0 (issueM prog (readsM (writesM { m with cycle := m.cycle + 1 }))) := ((h.jv.tick.writes hp).reads hp).issue hp hu
  unfold cycleM
  generalize issueM prog (readsM (writesM { m with cycle := m.cycle + 1 })) = m4 at *
  unfold showM
  cases hf : firstShown m4.given m4.cycle with
  | none => exact h4
  | some i =>
    intro _
    obtain ⟨t, ht, h1, h2⟩ := firstShown_spec hf
    exact ⟨t, ht, h1, h2, fun h0 => h1 (j4.iv.unr i t ht h0).2.2.2⟩

theorem Rn.start (prog : List Ord) (u l : List Int) (b : Int) (mem0 : List Int) : Rn prog u l b mem0 (startM u l b mem0) :=
  ⟨Gd.start _ _ _ _ _, Jv.start _ _ _ _ _, fun h => by simp [startM] at h⟩

theorem Rn.over (h : Rn prog u l b mem0 m) {g : List (Tk × Xt)} (hg : g.length = m.given.length) : m.shown = true → m.counts < g.length ∧ allWr m.given m.given.length = false := fun hs => by
  obtain ⟨t, ht, h1, _, _⟩ := h.sh hs
  have hlt := (List.getElem?_eq_some_iff.1 ht).1
  refine ⟨by omega, allWrB_false hlt ht ?_⟩
  by_cases hw : t.write = 0
  · exact hw
  · exact absurd (h.jv.iv.wrote ht hw).2 h1

theorem Gh.start (u l : List Int) (b : Int) (mem0 : List Int) : Gh (startM u l b mem0) [] :=
  ⟨fun i t x h => by simp at h, fun i t x h => by simp at h, fun k c h => by simp [startM] at h, fun i t x h => by simp at h, fun i t x h => by simp at h⟩
end

end Go.Proofs.YtmeiogoodbnkkaaGreat
