/- Several texts in one: PF, PG, PH, PI. -/
import Derived.Test.YtmeiogoodbnkkaaGreatCPAPE
/- What a run ends with is what the orders one by one end with. -/
namespace Go.Proofs.YtmeiogoodbnkkaaGreat
open Go.RowKit

/-- Some cycles. -/
def cyc (prog : List Ord) : Nat → Mc → Mc
  | 0, m => m
  | n + 1, m => cycleM prog (cyc prog n m)

theorem cyc_front (prog : List Ord) : ∀ (n : Nat) (m : Mc), cyc prog n (cycleM prog m) = cyc prog (n + 1) m
  | 0, _ => rfl
  | n + 1, m => by
    show cycleM prog (cyc prog n (cycleM prog m)) = cycleM prog (cyc prog (n + 1) m)
    rw [cyc_front prog n m]

/-- Does it end by itself? What it ends with. -/
def endsM (m : Mc) : Bool := (m.shown && allWr m.given m.counts) || (m.ended && allWr m.given m.given.length)
def finM (m : Mc) : Mc :=
  if m.shown && allWr m.given m.counts then
    { undoM m.counts m with stop := 1, trap := (m.given.getD m.counts ⟨Ord.none, 0, 0, 0, 0, 0, 0, 0, 0, 0⟩).trap, next := (m.given.getD m.counts ⟨Ord.none, 0, 0, 0, 0, 0, 0, 0, 0, 0⟩).number }
  else if m.ended && allWr m.given m.given.length then { m with stop := 0 } else { m with stop := 2 }

theorem stopM_fin (steps : Nat) (m : Mc) (h : endsM m = true ∨ m.cycle = steps) : stopM steps m = (true, finM m) := by
  unfold stopM finM
  unfold endsM at h
  cases h1 : (m.shown && allWr m.given m.counts) with
  | true => simp
  | false =>
    cases h2 : (m.ended && allWr m.given m.given.length) with
    | true => simp
    | false =>
      rw [h1, h2] at h
      have : m.cycle = steps := by simpa using h
      simp [this]

theorem stopM_go (steps : Nat) (m : Mc) (h : endsM m = false) (hs : m.cycle ≠ steps) : stopM steps m = (false, m) := by
  unfold endsM at h
  rw [Bool.or_eq_false_iff] at h
  unfold stopM
  rw [h.1, h.2]
  simp [hs]

theorem writesOne_cyc (s : Int × Mc) (i : Nat) : (writesOne s i).2.cycle = s.2.cycle := by
  unfold writesOne
  split
  · rfl
  · split
    · split
      · rfl
      · split <;> rfl
    · rfl

theorem writesM_cyc (m : Mc) : (writesM m).cycle = m.cycle := by
  have key : ∀ (L : List Nat) (s : Int × Mc), (L.foldl writesOne s).2.cycle = s.2.cycle := by
    intro L
    induction L with
    | nil => exact fun _ => rfl
    | cons i L ih => exact fun s => (ih _).trans (writesOne_cyc s i)
  exact key _ _

theorem readsM_cyc (m : Mc) : (readsM m).cycle = m.cycle := by
  have key : ∀ (L : List Nat) (s : Mc), (L.foldl readsOne s).cycle = s.cycle := by
    intro L
    induction L with
    | nil => exact fun _ => rfl
    | cons i L ih =>
      refine fun s => (ih _).trans ?_
      unfold readsOne
      split
      · rfl
      · split <;> rfl
  exact key _ _

theorem issueM_cyc (prog : List Ord) (m : Mc) : (issueM prog m).cycle = m.cycle := by
  unfold issueM
  dsimp only
  repeat' split
  all_goals rfl

theorem showM_cyc (m : Mc) : (showM m).cycle = m.cycle := by
  unfold showM
  split <;> rfl

theorem cycleM_cyc (prog : List Ord) (m : Mc) : (cycleM prog m).cycle = m.cycle + 1 := by
  unfold cycleM
  rw [showM_cyc, issueM_cyc, readsM_cyc, writesM_cyc]

theorem cyc_cyc (prog : List Ord) (m : Mc) : ∀ n, (cyc prog n m).cycle = m.cycle + n
  | 0 => rfl
  | n + 1 => by
    show (cycleM prog (cyc prog n m)).cycle = _
    rw [cycleM_cyc, cyc_cyc prog m n]
    omega

theorem finM_cyc (m : Mc) : (finM m).cycle = m.cycle := by
  unfold finM
  repeat' split
  all_goals rfl

theorem goM_spec (prog : List Ord) (steps : Nat) : ∀ (f : Nat) (m : Mc), m.cycle + f = steps → 1 ≤ f → ∃ n, 1 ≤ n ∧ n ≤ f ∧ goM prog steps f m = finM (cyc prog n m) ∧ (∀ k, 1 ≤ k → k < n → endsM (cyc prog k m) = false) ∧ (endsM (cyc prog n m) = true ∨ n = f)
  | 0, _, _, h => by omega
  | f + 1, m, hm, _ => by
    rw [goM]
    have hc := cycleM_cyc prog m
    by_cases hs : endsM (cycleM prog m) = true ∨ (cycleM prog m).cycle = steps
    · rw [stopM_fin _ _ hs]
      refine ⟨1, Nat.le_refl _, by omega, rfl, fun k _ _ => by omega, ?_⟩
      rcases hs with h | h
      · exact .inl h
      · exact .inr (by omega)
    · have h1 : endsM (cycleM prog m) = false := by
        cases e : endsM (cycleM prog m) with
        | false => rfl
        | true => exact absurd (.inl e) hs
      have h2 : (cycleM prog m).cycle ≠ steps := fun e => hs (.inr e)
      rw [stopM_go _ _ h1 h2]
      obtain ⟨n, n1, n2, n3, n4, n5⟩ := goM_spec prog steps f (cycleM prog m) (by omega) (by omega)
      refine ⟨n + 1, by omega, by omega, ?_, fun k k1 k2 => ?_, ?_⟩
      · rw [← cyc_front]; exact n3
      · rcases Nat.lt_or_ge 1 k with h3 | h3
        · obtain ⟨q, rfl⟩ : ∃ q, k = q + 1 := ⟨k - 1, by omega⟩
          rw [← cyc_front]
          exact n4 q (by omega) (by omega)
        · have : k = 1 := by omega
          subst this
          exact h1
      · rw [← cyc_front]
        rcases n5 with h | h
        · exact .inl h
        · exact .inr (by omega)

theorem run_spec (u l : List Int) (b : Int) (prog : List Ord) (mem : List Int) (steps : Nat) (hs : 1 ≤ steps) : ∃ n, 1 ≤ n ∧ n ≤ steps ∧ runM u l b prog mem steps = { finM (cyc prog n (startM u l b mem)) with steps := (n : Int) } ∧
    (∀ k, 1 ≤ k → k < n → endsM (cyc prog k (startM u l b mem)) = false) ∧ (endsM (cyc prog n (startM u l b mem)) = true ∨ n = steps) := by
  obtain ⟨n, n1, n2, n3, n4, n5⟩ := goM_spec prog steps steps (startM u l b mem) (by show 0 + steps = steps; omega) hs
  refine ⟨n, n1, n2, ?_, n4, n5⟩
  unfold runM
  dsimp only
  rw [n3]
  have e : (finM (cyc prog n (startM u l b mem))).cycle = n := by
    rw [finM_cyc, cyc_cyc]
    exact Nat.zero_add n
  rw [e]

/-- Up to a place no order of the program halts or traps. -/
def Good (prog : List Ord) (mem : List Int) (k : Nat) : Prop := ∀ i, i < k → (prog.getD (seqS prog mem i).next Ord.none).op ≠ 0 ∧ (doOne (prog.getD (seqS prog mem i).next Ord.none) (seqS prog mem i)).1 = 0

theorem seq_steps (prog : List Ord) (mem : List Int) : ∀ n, (seqS prog mem n).steps = n
  | 0 => rfl
  | n + 1 => by
    have ih := seq_steps prog mem n
    show (stepT _ (seqS prog mem n)).steps = n + 1
    unfold stepT doOne
    dsimp only
    repeat' split
    all_goals first | (simp only [ih]; done) | contradiction

theorem goOn_seq {prog : List Ord} {mem : List Int} {steps : Nat} : ∀ (k f : Nat), Good prog mem k → k ≤ steps → goOn prog steps (k + f) (start mem) = goOn prog steps f (seqS prog mem k)
  | 0, f, _, _ => by rw [Nat.zero_add]; rfl
  | k + 1, f, hg, hk => by
    have e : k + 1 + f = k + (f + 1) := by omega
    rw [e, goOn_seq k (f + 1) (fun i hi => hg i (by omega)) (by omega), goOn]
    have h1 := hg k (by omega)
    rw [if_neg h1.1, if_neg (by rw [seq_steps]; omega), if_pos h1.2]
    show goOn prog steps f _ = goOn prog steps f (stepT (prog.getD (seqS prog mem k).next Ord.none) (seqS prog mem k))
    unfold stepT
    rw [if_pos h1.2]

theorem plain_halt {prog : List Ord} {mem : List Int} {steps k : Nat} (hg : Good prog mem k) (hk : k ≤ steps) (h0 : (prog.getD (seqS prog mem k).next Ord.none).op = 0) : plainSt prog mem steps = (seqS prog mem k, 0, 0) := by
  unfold plainSt
  have e : steps + 1 = k + ((steps - k) + 1) := by omega
  rw [e, goOn_seq k _ hg hk, goOn, if_pos h0]

theorem plain_trap {prog : List Ord} {mem : List Int} {steps k : Nat} (hg : Good prog mem k) (hk : k < steps) (h0 : (prog.getD (seqS prog mem k).next Ord.none).op ≠ 0) (h1 : (doOne (prog.getD (seqS prog mem k).next Ord.none) (seqS prog mem k)).1 ≠ 0) :
    plainSt prog mem steps = (seqS prog mem k, 1, (doOne (prog.getD (seqS prog mem k).next Ord.none) (seqS prog mem k)).1) := by
  unfold plainSt
  have e : steps + 1 = k + ((steps - k) + 1) := by omega
  rw [e, goOn_seq k _ hg (by omega), goOn, if_neg h0, if_neg (by rw [seq_steps]; omega), if_neg h1]

/-- How the orders one by one end. -/
theorem plain_spec (prog : List Ord) (mem : List Int) (steps : Nat) : ∃ k, k ≤ steps ∧ Good prog mem k ∧
    (((prog.getD (seqS prog mem k).next Ord.none).op = 0 ∧ plainSt prog mem steps = (seqS prog mem k, 0, 0)) ∨
     (k < steps ∧ (prog.getD (seqS prog mem k).next Ord.none).op ≠ 0 ∧ (doOne (prog.getD (seqS prog mem k).next Ord.none) (seqS prog mem k)).1 ≠ 0 ∧ plainSt prog mem steps = (seqS prog mem k, 1, (doOne (prog.getD (seqS prog mem k).next Ord.none) (seqS prog mem k)).1)) ∨
     (k = steps ∧ (prog.getD (seqS prog mem k).next Ord.none).op ≠ 0 ∧ plainSt prog mem steps = (seqS prog mem k, 2, 0))) := by
  have key : ∀ (f k : Nat), k + f = steps → Good prog mem k → ∃ k, k ≤ steps ∧ Good prog mem k ∧
    (((prog.getD (seqS prog mem k).next Ord.none).op = 0 ∧ plainSt prog mem steps = (seqS prog mem k, 0, 0)) ∨
     (k < steps ∧ (prog.getD (seqS prog mem k).next Ord.none).op ≠ 0 ∧ (doOne (prog.getD (seqS prog mem k).next Ord.none) (seqS prog mem k)).1 ≠ 0 ∧ plainSt prog mem steps = (seqS prog mem k, 1, (doOne (prog.getD (seqS prog mem k).next Ord.none) (seqS prog mem k)).1)) ∨
     (k = steps ∧ (prog.getD (seqS prog mem k).next Ord.none).op ≠ 0 ∧ plainSt prog mem steps = (seqS prog mem k, 2, 0))) := by
    intro f
    induction f with
    | zero =>
      intro k hk hg
      refine ⟨k, by omega, hg, ?_⟩
      by_cases h0 : (prog.getD (seqS prog mem k).next Ord.none).op = 0
      · exact .inl ⟨h0, plain_halt hg (by omega) h0⟩
      · refine .inr (.inr ⟨by omega, h0, ?_⟩)
        unfold plainSt
        have e : steps + 1 = k + (0 + 1) := by omega
        rw [e, goOn_seq k _ hg (by omega), goOn, if_neg h0, if_pos (by rw [seq_steps]; omega)]
    | succ f ih =>
      intro k hk hg
      by_cases h0 : (prog.getD (seqS prog mem k).next Ord.none).op = 0
      · exact ⟨k, by omega, hg, .inl ⟨h0, plain_halt hg (by omega) h0⟩⟩
      · by_cases h1 : (doOne (prog.getD (seqS prog mem k).next Ord.none) (seqS prog mem k)).1 = 0
        · refine ih (k + 1) (by omega) fun i hi => ?_
          rcases Nat.lt_or_ge i k with h2 | h2
          · exact hg i h2
          · have : i = k := by omega
            subst this
            exact ⟨h0, h1⟩
        · exact ⟨k, by omega, hg, .inr (.inl ⟨by omega, h0, h1, plain_trap hg (by omega) h0 h1⟩)⟩
  exact key steps 0 (by omega) (fun i hi => absurd hi (Nat.not_lt_zero _))

section
variable {prog : List Ord} {u l : List Int} {b : Int} {mem0 : List Int} {m : Mc}

theorem doOne_one {o : Ord} {s : St} (h8 : o.op ≠ 8) : (doOne o s).1 = (eff o (s.regs.getD o.a.toNat 0) (s.regs.getD o.b.toNat 0) s.mem).1 := by
  unfold doOne
  dsimp only
  rw [if_neg h8]
  split
  · rename_i h; exact h.symm
  · rfl

/-- The trap of an order that has read is its trap one by one. -/
theorem Iv.trapOf (h : Iv prog l mem0 m) {i : Nat} {t : Tk} (ht : m.given[i]? = some t) (hr : t.read ≠ 0) : (doOne (prog.getD (seqS prog mem0 i).next Ord.none) (seqS prog mem0 i)).1 = t.trap := by
  obtain ⟨p1, p2, p3⟩ := h.path i t ht
  rw [← p2]
  by_cases h8 : t.o.op = 8
  · rw [(h.jmp i t ht h8).2.2.2.2]
    unfold doOne
    dsimp only
    rw [if_pos h8]
  · rw [doOne_one h8]
    have he := h.eff i t ht h8 hr
    rcases wk_ways (n := t.number) (a := (seqS prog mem0 i).regs.getD t.o.a.toNat 0) (b := (seqS prog mem0 i).regs.getD t.o.b.toNat 0) (mem := (seqS prog mem0 i).mem) h8 with ⟨h1, h7, hq⟩ | ⟨h1, h7, hq⟩ | ⟨h1, hq⟩
    · rw [hq] at he
      injection he with e1 e2
      injection e2 with e2 e3
      injection e3 with e3 e4
      rw [h1, e4]
    · rw [hq] at he
      injection he with e1 e2
      injection e2 with e2 e3
      injection e3 with e3 e4
      rw [h1, e4]
    · rw [hq] at he
      injection he with e1 e2
      injection e2 with e2 e3
      injection e3 with e3 e4
      exact e4.symm

theorem Iv.wrote (h : Iv prog l mem0 m) {i : Nat} {t : Tk} (ht : m.given[i]? = some t) (hw : t.write ≠ 0) : t.read ≠ 0 ∧ t.trap = 0 := by
  by_cases h8 : t.o.op = 8
  · have := h.jmp i t ht h8
    have := h.iss i t ht
    omega
  · have := h.wri i t ht h8 hw
    exact ⟨this.1, this.2.1⟩

theorem Iv.good (h : Iv prog l mem0 m) {k : Nat} (hk : k ≤ m.given.length) (hw : allWr m.given k = true) : Good prog mem0 k := by
  intro i hi
  obtain ⟨t, ht⟩ : ∃ t, m.given[i]? = some t := ⟨_, List.getElem?_eq_getElem (by omega)⟩
  have h1 := h.wrote ht ((allWr_iff _ _).1 hw i t hi ht)
  obtain ⟨p1, p2, p3⟩ := h.path i t ht
  refine ⟨by rw [← p2]; exact p3, ?_⟩
  rw [h.trapOf ht h1.1]
  exact h1.2

theorem undo_reg (k r : Nat) : ∀ (cs : List Ch) (s : List Int × List Int × Nat), r < s.1.length → (cs.foldl (undoOne k) s).1.getD r 0 = undoV 1 r k cs (s.1.getD r 0) ∧ (cs.foldl (undoOne k) s).1.length = s.1.length
  | [], _, _ => ⟨rfl, rfl⟩
  | c :: cs, s, hr => by
    have e1 : (undoOne k s c).1.length = s.1.length := by
      unfold undoOne
      split
      · show (putR c.tgt c.pl c.val s.1).length = _
        unfold putR; split <;> simp
      · rfl
    have ih := undo_reg k r cs (undoOne k s c) (by omega)
    rw [List.foldl_cons, undoV_cons]
    refine ⟨?_, ih.2.trans e1⟩
    rw [ih.1]
    congr 1
    unfold undoOne
    by_cases h1 : k < c.place
    · rw [if_pos h1]
      show (putR c.tgt c.pl c.val s.1).getD r 0 = _
      unfold putR
      by_cases h2 : c.tgt = 1
      · rw [if_pos h2]
        by_cases h3 : c.pl.toNat = r
        · rw [if_pos ⟨h1, h2, h3⟩, h3]; exact getD_set_self hr
        · rw [if_neg (fun h => h3 h.2.2)]; exact getD_set_ne h3
      · rw [if_neg h2, if_neg (fun h => h2 h.2.1)]
    · rw [if_neg h1, if_neg (fun h => h1 h.1)]

theorem undo_mem (k r : Nat) : ∀ (cs : List Ch) (s : List Int × List Int × Nat), r < s.2.1.length → (cs.foldl (undoOne k) s).2.1.getD r 0 = undoV 2 r k cs (s.2.1.getD r 0)
  | [], _, _ => rfl
  | c :: cs, s, hr => by
    have e1 : (undoOne k s c).2.1.length = s.2.1.length := by
      unfold undoOne
      split
      · show (putM c.tgt c.pl c.val s.2.1).length = _
        unfold putM; split <;> simp
      · rfl
    rw [List.foldl_cons, undoV_cons, undo_mem k r cs (undoOne k s c) (by omega)]
    congr 1
    unfold undoOne
    by_cases h1 : k < c.place
    · rw [if_pos h1]
      show (putM c.tgt c.pl c.val s.2.1).getD r 0 = _
      unfold putM
      by_cases h2 : c.tgt = 2
      · rw [if_pos h2]
        by_cases h3 : c.pl.toNat = r
        · rw [if_pos ⟨h1, h2, h3⟩, h3]; exact getD_set_self hr
        · rw [if_neg (fun h => h3 h.2.2)]; exact getD_set_ne h3
      · rw [if_neg h2, if_neg (fun h => h2 h.2.1)]
    · rw [if_neg h1, if_neg (fun h => h1 h.1)]

theorem undo_lenM (k : Nat) : ∀ (cs : List Ch) (s : List Int × List Int × Nat), (cs.foldl (undoOne k) s).2.1.length = s.2.1.length
  | [], _ => rfl
  | c :: cs, s => by
    rw [List.foldl_cons, undo_lenM k cs]
    unfold undoOne
    split
    · show (putM c.tgt c.pl c.val s.2.1).length = _
      unfold putM; split <;> simp
    · rfl

/-- It ends with a trap. -/
theorem Jv.trapped (h : Jv prog u l b mem0 m) (hp : isProg prog = true) (hs : (m.shown && allWr m.given m.counts) = true) :
    m.counts < m.given.length ∧ Good prog mem0 m.counts ∧ (prog.getD (seqS prog mem0 m.counts).next Ord.none).op ≠ 0 ∧ (doOne (prog.getD (seqS prog mem0 m.counts).next Ord.none) (seqS prog mem0 m.counts)).1 ≠ 0 ∧
    finM m = { m with regs := (seqS prog mem0 m.counts).regs, mem := (seqS prog mem0 m.counts).mem, next := (seqS prog mem0 m.counts).next, stop := 1, trap := (doOne (prog.getD (seqS prog mem0 m.counts).next Ord.none) (seqS prog mem0 m.counts)).1 } := by
  have hs' := hs
  rw [Bool.and_eq_true] at hs'
  obtain ⟨s1, s2⟩ := hs'
  obtain ⟨t, ht, h0⟩ := h.shn s1
  have hlt : m.counts < m.given.length := (List.getElem?_eq_some_iff.1 ht).1
  have hr : t.read ≠ 0 := fun e => h0 (h.iv.unr _ t ht e).2.2.2
  have hw : t.write = 0 := by
    cases e : t.write with
    | zero => rfl
    | succ n => exact absurd (h.iv.wrote ht (by omega)).2 h0
  have htr := h.iv.trapOf ht hr
  obtain ⟨p1, p2, p3⟩ := h.iv.path _ t ht
  have hnext : ∀ T r, lastV (hit T r) (ini T r mem0) (m.given.take (m.counts + 1)) = lastV (hit T r) (ini T r mem0) (m.given.take m.counts) := fun T r => by
    rw [List.take_add_one, ht]
    show lastV _ _ (m.given.take m.counts ++ [t]) = _
    rw [lastV_append]
    have : hit T r t = false := decide_eq_false (fun e => e.1 hw)
    rw [this]
    rfl
  have hall : ∀ (i : Nat) (t : Tk), i < m.counts → m.given[i]? = some t → t.write ≠ 0 := (allWr_iff _ _).1 s2
  have hsame : ∀ {T : Int} {r : Nat}, (T = 1 ∧ r < 8) ∨ T = 2 → undoV T r m.counts m.changes.reverse (cur T r m) = sqv T r (seqS prog mem0 m.counts) := fun hT => by
    rw [h.iv.und _ _ _ hT, hnext, ← h.iv.same hp hT m.counts (by omega) (fun i t hi ht => ⟨fun _ _ => hall i t hi ht, fun _ _ => hall i t hi ht⟩)]
  have hlen := seqS_len prog mem0 m.counts
  refine ⟨hlt, h.iv.good (by omega) s2, by rw [← p2]; exact p3, by rw [htr]; exact h0, ?_⟩
  have e1 : (undoM m.counts m).regs = (seqS prog mem0 m.counts).regs := by
    refine list_ext_getD ?_ fun r hr => ?_
    · have := (undo_reg m.counts 0 m.changes.reverse (m.regs, m.mem, m.next) (by show 0 < m.regs.length; rw [h.iv.regsL]; omega)).2
      show (m.changes.reverse.foldl (undoOne m.counts) (m.regs, m.mem, m.next)).1.length = _
      rw [this, hlen.1]
      exact h.iv.regsL
    · have hr8 : r < 8 := by
        have := (undo_reg m.counts 0 m.changes.reverse (m.regs, m.mem, m.next) (by show 0 < m.regs.length; rw [h.iv.regsL]; omega)).2
        have h2 : r < (m.changes.reverse.foldl (undoOne m.counts) (m.regs, m.mem, m.next)).1.length := hr
        rw [this] at h2
        have h3 : r < m.regs.length := h2
        rw [h.iv.regsL] at h3
        exact h3
      show (m.changes.reverse.foldl (undoOne m.counts) (m.regs, m.mem, m.next)).1.getD r 0 = _
      rw [(undo_reg m.counts r m.changes.reverse (m.regs, m.mem, m.next) (by show r < m.regs.length; rw [h.iv.regsL]; omega)).1]
      exact hsame (T := 1) (.inl ⟨rfl, hr8⟩)
  have e2 : (undoM m.counts m).mem = (seqS prog mem0 m.counts).mem := by
    have hl : (undoM m.counts m).mem.length = m.mem.length := undo_lenM m.counts m.changes.reverse (m.regs, m.mem, m.next)
    refine list_ext_getD ?_ fun r hr => ?_
    · rw [hl, hlen.2, h.iv.memL]
    · show (m.changes.reverse.foldl (undoOne m.counts) (m.regs, m.mem, m.next)).2.1.getD r 0 = _
      rw [undo_mem m.counts r m.changes.reverse (m.regs, m.mem, m.next) (by rw [hl] at hr; exact hr)]
      exact hsame (T := 2) (.inr rfl)
  have e3 : m.given.getD m.counts ⟨Ord.none, 0, 0, 0, 0, 0, 0, 0, 0, 0⟩ = t := by rw [List.getD_eq_getElem?_getD, ht]; rfl
  unfold finM
  rw [if_pos hs, e3, htr, ← p1, ← e1, ← e2]
  rfl

/-- It ends because the program does. -/
theorem Jv.halted (h : Jv prog u l b mem0 m) (hp : isProg prog = true) (hs : (m.shown && allWr m.given m.counts) = false) (he : (m.ended && allWr m.given m.given.length) = true) :
    Good prog mem0 m.given.length ∧ (prog.getD (seqS prog mem0 m.given.length).next Ord.none).op = 0 ∧
    finM m = { m with regs := (seqS prog mem0 m.given.length).regs, mem := (seqS prog mem0 m.given.length).mem, next := (seqS prog mem0 m.given.length).next, stop := 0 } := by
  have he' := he
  rw [Bool.and_eq_true] at he'
  obtain ⟨s1, s2⟩ := he'
  have hall : ∀ (i : Nat) (t : Tk), i < m.given.length → m.given[i]? = some t → t.write ≠ 0 := (allWr_iff _ _).1 s2
  have hno : ∀ {j : Nat} {s : Tk}, m.given.length ≤ j → m.given[j]? = some s → False := fun hj hs => by
    have := (List.getElem?_eq_some_iff.1 hs).1
    omega
  refine ⟨h.iv.good (Nat.le_refl _) s2, by rw [← h.iv.next]; exact h.iv.ended s1, ?_⟩
  have e1 : m.regs = (seqS prog mem0 m.given.length).regs := by
    refine list_ext_getD (by rw [h.iv.regsL, (seqS_len _ _ _).1]) fun r hr => ?_
    rw [h.iv.regsL] at hr
    exact h.iv.finds hp (Nat.le_refl _) hr (fun i t hi ht _ => hall i t hi ht) (fun j s hj hs _ => (hno hj hs).elim)
  have e2 : m.mem = (seqS prog mem0 m.given.length).mem := h.iv.findsM hp (Nat.le_refl _) (fun i t hi ht _ => hall i t hi ht) (fun j s hj hs _ => (hno hj hs).elim)
  unfold finM
  rw [if_neg (by rw [hs]; simp), if_pos he, ← e1, ← e2, ← h.iv.next]

theorem Jv.cyc (hp : isProg prog = true) (hu : u.getD 3 0 = 1) : ∀ n, Jv prog u l b mem0 (cyc prog n (startM u l b mem0))
  | 0 => Jv.start ..
  | n + 1 => (Jv.cyc hp hu n).cycle hp hu

theorem Iv.len (h : Iv prog l mem0 m) : ∀ (i : Nat) (t : Tk), m.given[i]? = some t → i + 1 ≤ t.issue
  | 0, t, ht => (h.iss 0 t ht).1
  | i + 1, t, ht => by
    have hl := (List.getElem?_eq_some_iff.1 ht).1
    have ih := Iv.len h i _ (List.getElem?_eq_getElem (by omega))
    have := h.inc i (i + 1) _ t (by omega) (List.getElem?_eq_getElem (by omega)) ht
    omega

theorem Iv.lenLe (h : Iv prog l mem0 m) : m.given.length ≤ m.cycle := by
  cases hl : m.given.length with
  | zero => omega
  | succ n =>
    have ht : m.given[n]? = some _ := List.getElem?_eq_getElem (by omega)
    have := h.len n _ ht
    have := (h.iss n _ ht).2
    omega
end

end Go.Proofs.YtmeiogoodbnkkaaGreat

/- From cycle to cycle nothing that was written down turns. -/
namespace Go.Proofs.YtmeiogoodbnkkaaGreat
open Go.RowKit

/-- What stood at cycle c stands later. -/
structure Gr (c : Nat) (g g' : List Tk) : Prop where
  len : g.length ≤ g'.length
  old : ∀ (j : Nat) (t : Tk), g[j]? = some t → ∃ t', g'[j]? = some t' ∧ t'.o = t.o ∧ t'.number = t.number ∧ t'.issue = t.issue ∧ (t.read ≠ 0 → t'.read = t.read ∧ t'.done = t.done ∧ t'.trap = t.trap) ∧ (t.write ≠ 0 → t'.write = t.write) ∧ (t.read = 0 → t'.read = 0 ∨ c < t'.read) ∧ (t.write = 0 → t'.write = 0 ∨ c < t'.write)
  new : ∀ (j : Nat) (t' : Tk), g.length ≤ j → g'[j]? = some t' → c < t'.issue

theorem Gr.refl (c : Nat) (g : List Tk) : Gr c g g :=
  ⟨Nat.le_refl _, fun _ t h => ⟨t, h, rfl, rfl, rfl, fun _ => ⟨rfl, rfl, rfl⟩, fun _ => rfl, fun h => .inl h, fun h => .inl h⟩, fun j t hj ht => by
    have := (List.getElem?_eq_some_iff.1 ht).1
    omega⟩

theorem Gr.trans {c c' : Nat} {g g' g'' : List Tk} (h : Gr c g g') (h' : Gr c' g' g'') (hc : c ≤ c') : Gr c g g'' := by
  refine ⟨Nat.le_trans h.len h'.len, fun j t ht => ?_, fun j t'' hj ht'' => ?_⟩
  · obtain ⟨t', a1, a2, a3, a4, a5, a6, a7, a8⟩ := h.old j t ht
    obtain ⟨t'', b1, b2, b3, b4, b5, b6, b7, b8⟩ := h'.old j t' a1
    refine ⟨t'', b1, b2.trans a2, b3.trans a3, b4.trans a4, fun hr => ?_, fun hw => ?_, fun hr => ?_, fun hw => ?_⟩
    · obtain ⟨x1, x2, x3⟩ := a5 hr
      obtain ⟨y1, y2, y3⟩ := b5 (by omega)
      exact ⟨y1.trans x1, y2.trans x2, y3.trans x3⟩
    · exact (b6 (by rw [a6 hw]; exact hw)).trans (a6 hw)
    · rcases a7 hr with e | e
      · rcases b7 e with e' | e'
        · exact .inl e'
        · exact .inr (by omega)
      · have := (b5 (by omega)).1
        exact .inr (by omega)
    · rcases a8 hw with e | e
      · rcases b8 e with e' | e'
        · exact .inl e'
        · exact .inr (by omega)
      · have := b6 (by omega)
        exact .inr (by omega)
  · rcases Nat.lt_or_ge j g'.length with hl | hl
    · obtain ⟨t', ht'⟩ : ∃ t', g'[j]? = some t' := ⟨_, List.getElem?_eq_getElem hl⟩
      obtain ⟨s, b1, b2, b3, b4, _⟩ := h'.old j t' ht'
      rw [ht''] at b1
      injection b1 with b1
      subst b1
      have := h.new j t' hj ht'
      omega
    · have := h'.new j t'' hl ht''
      omega

/-- One that is set anew. -/
theorem Gr.set {c : Nat} {g : List Tk} {i : Nat} {t t' : Tk} (ht : g[i]? = some t) (h1 : t'.o = t.o) (h2 : t'.number = t.number) (h3 : t'.issue = t.issue) (h4 : t.read ≠ 0 → t'.read = t.read ∧ t'.done = t.done ∧ t'.trap = t.trap) (h5 : t.write ≠ 0 → t'.write = t.write) (h6 : t.read = 0 → t'.read = 0 ∨ c < t'.read) (h7 : t.write = 0 → t'.write = 0 ∨ c < t'.write) : Gr c g (g.set i t') := by
  have hl := (List.getElem?_eq_some_iff.1 ht).1
  refine ⟨by simp, fun j s hs => ?_, fun j s hj hs => ?_⟩
  · by_cases e : j = i
    · subst e
      rw [ht] at hs
      injection hs with hs
      subst hs
      exact ⟨t', by rw [List.getElem?_set_self hl], h1, h2, h3, h4, h5, h6, h7⟩
    · exact ⟨s, by rw [List.getElem?_set_ne (Ne.symm e)]; exact hs, rfl, rfl, rfl, fun _ => ⟨rfl, rfl, rfl⟩, fun _ => rfl, fun h => .inl h, fun h => .inl h⟩
  · have := (List.getElem?_eq_some_iff.1 hs).1
    simp at this
    omega

theorem Gr.add {c : Nat} {g : List Tk} {t : Tk} (ht : c < t.issue) : Gr c g (g ++ [t]) := by
  refine ⟨by simp, fun j s hs => ?_, fun j s hj hs => ?_⟩
  · have hl := (List.getElem?_eq_some_iff.1 hs).1
    exact ⟨s, by rw [List.getElem?_append_left hl]; exact hs, rfl, rfl, rfl, fun _ => ⟨rfl, rfl, rfl⟩, fun _ => rfl, fun h => .inl h, fun h => .inl h⟩
  · rw [List.getElem?_append_right hj] at hs
    have hl := (List.getElem?_eq_some_iff.1 hs).1
    simp at hl
    have e : j - g.length = 0 := by omega
    rw [e] at hs
    simp at hs
    subst hs
    exact ht

/-- What a cycle's turns leave alone. -/
def Stay (m m' : Mc) : Prop := m'.cycle = m.cycle ∧ m'.ended = m.ended ∧ m'.shown = m.shown ∧ m'.counts = m.counts ∧ m'.trap = m.trap ∧ m'.units = m.units ∧ m'.buses = m.buses ∧ m'.lat = m.lat

theorem Stay.refl (m : Mc) : Stay m m := ⟨rfl, rfl, rfl, rfl, rfl, rfl, rfl, rfl⟩
theorem Stay.trans {m m' m'' : Mc} (h : Stay m m') (h' : Stay m' m'') : Stay m m'' :=
  ⟨h'.1.trans h.1, h'.2.1.trans h.2.1, h'.2.2.1.trans h.2.2.1, h'.2.2.2.1.trans h.2.2.2.1, h'.2.2.2.2.1.trans h.2.2.2.2.1, h'.2.2.2.2.2.1.trans h.2.2.2.2.2.1, h'.2.2.2.2.2.2.1.trans h.2.2.2.2.2.2.1, h'.2.2.2.2.2.2.2.trans h.2.2.2.2.2.2.2⟩

theorem writesOne_gr (s : Int × Mc) (i : Nat) {c : Nat} (hc : c < s.2.cycle) : Gr c s.2.given (writesOne s i).2.given ∧ Stay s.2 (writesOne s i).2 := by
  have one : ∀ (t : Tk), s.2.given[i]? = some t → mayW s.2.given s.2.cycle i t = true → Gr c s.2.given (writeT i t s.2).given := fun t ht hw => by
    obtain ⟨w1, w2, w3, w4, w5⟩ := mayW_all hw
    exact Gr.set ht rfl rfl rfl (fun _ => ⟨rfl, rfl, rfl⟩) (fun h => absurd w4 h) (fun h => .inl h) (fun _ => .inr hc)
  unfold writesOne
  split
  · exact ⟨Gr.refl _ _, Stay.refl _⟩
  · rename_i t ht
    split
    · rename_i hw
      split
      · exact ⟨one t ht hw, Stay.refl _⟩
      · split
        · exact ⟨Gr.refl _ _, Stay.refl _⟩
        · exact ⟨one t ht hw, Stay.refl _⟩
    · exact ⟨Gr.refl _ _, Stay.refl _⟩

theorem writesL_gr {c : Nat} : ∀ (L : List Nat) (s : Int × Mc), c < s.2.cycle → Gr c s.2.given (L.foldl writesOne s).2.given ∧ Stay s.2 (L.foldl writesOne s).2
  | [], s, _ => ⟨Gr.refl _ _, Stay.refl _⟩
  | i :: L, s, hc => by
    have h1 := writesOne_gr s i hc
    have h2 := writesL_gr L (writesOne s i) (by rw [h1.2.1]; exact hc)
    exact ⟨h1.1.trans h2.1 (Nat.le_refl _), h1.2.trans h2.2⟩

theorem writesM_gr (m : Mc) {c : Nat} (hc : c < m.cycle) : Gr c m.given (writesM m).given ∧ Stay m (writesM m) := writesL_gr _ (m.buses, m) hc

theorem readsOne_gr (m : Mc) (i : Nat) {c : Nat} (hc : c < m.cycle) : Gr c m.given (readsOne m i).given ∧ Stay m (readsOne m i) := by
  unfold readsOne
  split
  · exact ⟨Gr.refl _ _, Stay.refl _⟩
  · rename_i t ht
    split
    · rename_i hw
      exact ⟨Gr.set ht rfl rfl rfl (fun h => absurd hw.1 h) (fun _ => rfl) (fun _ => .inr hc) (fun h => .inl h), Stay.refl _⟩
    · exact ⟨Gr.refl _ _, Stay.refl _⟩

theorem readsL_gr {c : Nat} : ∀ (L : List Nat) (m : Mc), c < m.cycle → Gr c m.given (L.foldl readsOne m).given ∧ Stay m (L.foldl readsOne m)
  | [], m, _ => ⟨Gr.refl _ _, Stay.refl _⟩
  | i :: L, m, hc => by
    have h1 := readsOne_gr m i hc
    have h2 := readsL_gr L (readsOne m i) (by rw [h1.2.1]; exact hc)
    exact ⟨h1.1.trans h2.1 (Nat.le_refl _), h1.2.trans h2.2⟩

theorem readsM_gr (m : Mc) {c : Nat} (hc : c < m.cycle) : Gr c m.given (readsM m).given ∧ Stay m (readsM m) := readsL_gr _ m hc

theorem issueM_gr (prog : List Ord) (m : Mc) {c : Nat} (hc : c < m.cycle) : Gr c m.given (issueM prog m).given := by
  unfold issueM
  dsimp only
  repeat' split
  all_goals first | exact Gr.refl _ _ | exact Gr.add hc

theorem issueM_same (prog : List Ord) (m : Mc) : (issueM prog m).shown = m.shown ∧ (issueM prog m).counts = m.counts ∧ (issueM prog m).trap = m.trap := by
  unfold issueM
  dsimp only
  repeat' split
  all_goals exact ⟨rfl, rfl, rfl⟩

theorem showM_same (m : Mc) : (showM m).given = m.given ∧ (showM m).trap = m.trap ∧ (showM m).ended = m.ended := by
  unfold showM
  split <;> exact ⟨rfl, rfl, rfl⟩

/-- The machine ahead of the giving out. -/
def midM (m : Mc) : Mc := readsM (writesM { m with cycle := m.cycle + 1 })

theorem midM_gr (m : Mc) : Gr m.cycle m.given (midM m).given ∧ Stay { m with cycle := m.cycle + 1 } (midM m) := by
  have h1 := writesM_gr { m with cycle := m.cycle + 1 } (c := m.cycle) (Nat.lt_succ_self _)
  have h2 := readsM_gr (writesM { m with cycle := m.cycle + 1 }) (c := m.cycle) (by rw [h1.2.1]; exact Nat.lt_succ_self _)
  exact ⟨h1.1.trans h2.1 (Nat.le_refl _), h1.2.trans h2.2⟩

theorem cycleM_gr (prog : List Ord) (m : Mc) : Gr m.cycle m.given (cycleM prog m).given := by
  have h := midM_gr m
  have h3 := issueM_gr prog (midM m) (c := m.cycle) (by rw [h.2.1]; exact Nat.lt_succ_self _)
  show Gr m.cycle m.given (showM (issueM prog (midM m))).given
  rw [(showM_same _).1]
  exact h.1.trans h3 (Nat.le_refl _)

theorem cyc_gr (prog : List Ord) (m : Mc) : ∀ n, Gr m.cycle m.given (cyc prog n m).given
  | 0 => Gr.refl _ _
  | n + 1 => (cyc_gr prog m n).trans (cycleM_gr prog (cyc prog n m)) (by rw [cyc_cyc]; omega)

theorem cycleM_trap (prog : List Ord) (m : Mc) : (cycleM prog m).trap = m.trap := by
  show (showM (issueM prog (midM m))).trap = m.trap
  rw [(showM_same _).2.1, (issueM_same _ _).2.2, (midM_gr m).2.2.2.2.2.1]

theorem cyc_trap (prog : List Ord) (m : Mc) : ∀ n, (cyc prog n m).trap = m.trap
  | 0 => rfl
  | n + 1 => (cycleM_trap prog _).trans (cyc_trap prog m n)

theorem cyc_add (prog : List Ord) (m : Mc) (a : Nat) : ∀ n, cyc prog (a + n) m = cyc prog n (cyc prog a m)
  | 0 => rfl
  | n + 1 => by
    show cycleM prog (cyc prog (a + n) m) = cycleM prog (cyc prog n (cyc prog a m))
    rw [cyc_add prog m a n]

end Go.Proofs.YtmeiogoodbnkkaaGreat

/- What has ended one by one ends side by side, in some cycles for each order. -/
namespace Go.Proofs.YtmeiogoodbnkkaaGreat
open Go.RowKit

theorem writesOne_len (s : Int × Mc) (i : Nat) : (writesOne s i).2.given.length = s.2.given.length := by
  unfold writesOne
  repeat' split
  all_goals first | rfl | (show (s.2.given.set i _).length = _; simp)

theorem writesL_len : ∀ (L : List Nat) (s : Int × Mc), (L.foldl writesOne s).2.given.length = s.2.given.length
  | [], _ => rfl
  | i :: L, s => (writesL_len L _).trans (writesOne_len s i)

theorem readsOne_len (m : Mc) (i : Nat) : (readsOne m i).given.length = m.given.length := by
  unfold readsOne
  repeat' split
  all_goals first | rfl | (show (m.given.set i _).length = _; simp)

theorem readsL_len : ∀ (L : List Nat) (m : Mc), (L.foldl readsOne m).given.length = m.given.length
  | [], _ => rfl
  | i :: L, m => (readsL_len L _).trans (readsOne_len m i)

theorem midM_len (m : Mc) : (midM m).given.length = m.given.length := (readsL_len _ _).trans (writesL_len _ _)

theorem kind_in {op : Int} (h1 : 1 ≤ op) (h2 : op ≤ 7) : 0 ≤ kindOf op ∧ (kindOf op).toNat < 4 := by
  unfold kindOf
  repeat' split
  all_goals omega

section
variable {prog : List Ord} {u l : List Int} {b : Int} {mem0 : List Int} {m : Mc}

theorem Jv.mid (h : Jv prog u l b mem0 m) (hp : isProg prog = true) : Kv prog u l b mem0 (midM m) := Kv.reads (Kv.writes h.tick hp) hp

/-- The next one is given out where all have written. -/
theorem Jv.gives (h : Jv prog u l b mem0 m) (hp : isProg prog = true) (hu : ∀ k, k < 4 → 1 ≤ u.getD k 0) (hend : m.ended = false) (hsh : m.shown = false)
    (hop : (prog.getD (seqS prog mem0 m.given.length).next Ord.none).op ≠ 0) (hall : ∀ (j : Nat) (t : Tk), m.given[j]? = some t → t.write ≠ 0) : (cycleM prog m).given.length = m.given.length + 1 := by
  have hk := h.mid hp
  obtain ⟨hg, hs⟩ := midM_gr m
  have hl := midM_len m
  have hw : ∀ (j : Nat) (t' : Tk), (midM m).given[j]? = some t' → t'.write ≠ 0 ∧ t'.write ≠ (midM m).cycle := fun j t' ht' => by
    have hlt := (List.getElem?_eq_some_iff.1 ht').1
    obtain ⟨t, ht⟩ : ∃ t, m.given[j]? = some t := ⟨_, List.getElem?_eq_getElem (by omega)⟩
    obtain ⟨s, s1, _, _, _, _, s6, _⟩ := hg.old j t ht
    rw [ht'] at s1
    injection s1 with s1
    subst s1
    have h0 := hall j t ht
    have h1 := s6 h0
    have h2 := h.iv.wrLe ht
    have h3 : (midM m).cycle = m.cycle + 1 := hs.1
    omega
  have hn : (midM m).next = (seqS prog mem0 m.given.length).next := by rw [hk.jv.iv.next, hl]
  show (showM (issueM prog (midM m))).given.length = _
  rw [(showM_same _).1]
  have ho := prog_ord hp hop
  have hsp := isOrd_spec ho.2
  have ew : ∀ mask, toWrite (midM m).given (midM m).cycle (midM m).given.length mask = false := fun mask => toWrite_yes fun j t _ ht => hw j t ht
  have hes : ((midM m).ended || (midM m).shown) = false := by rw [hs.2.1, hs.2.2.1]; show (m.ended || m.shown) = false; rw [hend, hsh]; rfl
  unfold issueM
  dsimp only
  rw [hes, hn, if_neg (by simp), if_neg hop]
  by_cases h8 : (prog.getD (seqS prog mem0 m.given.length).next Ord.none).op = 8
  · rw [if_pos h8, ew, if_neg (by simp)]
    show ((midM m).given ++ [_]).length = _
    simp [hl]
  · have hf : freeU (midM m) (kindOf (prog.getD (seqS prog mem0 m.given.length).next Ord.none).op) = true := by
      have hki := kind_in (op := (prog.getD (seqS prog mem0 m.given.length).next Ord.none).op) (by omega) (by omega)
      have hun : (midM m).units = u := hk.jv.units
      have h1 := hu _ hki.2
      unfold freeU
      refine decide_eq_true ?_
      have e : ((midM m).given.filter fun t => decide (kindOf t.o.op = kindOf (prog.getD (seqS prog mem0 m.given.length).next Ord.none).op) && opensT (midM m).cycle t) = [] := by
        refine List.filter_eq_nil_iff.2 fun t ht => ?_
        obtain ⟨j, hj, e⟩ := List.getElem_of_mem ht
        have h2 := hw j t (by rw [List.getElem?_eq_getElem hj, e])
        have h3 : opensT (midM m).cycle t = false := decide_eq_false (by omega)
        rw [h3]
        simp
      rw [e, hun]
      simp only [List.length_nil]
      omega
    rw [if_neg h8, hf, ew, if_neg (by simp)]
    show ((midM m).given ++ [_]).length = _
    simp [hl]

theorem readsL_at {i : Nat} : ∀ (L : List Nat) (s : Mc), i ∈ L → 0 < s.cycle → i < s.given.length → (∀ (j : Nat) (x : Tk), j < i → s.given[j]? = some x → x.write ≠ 0 ∧ x.write ≠ s.cycle) → ∃ t', (L.foldl readsOne s).given[i]? = some t' ∧ t'.read ≠ 0
  | [], _, h, _, _, _ => absurd h (by simp)
  | k :: L, s, hi, hc, hlt, hall => by
    have hg := readsOne_gr s k (c := s.cycle - 1) (by omega)
    by_cases e : k = i
    · subst e
      have h1 : ∃ t', (readsOne s k).given[k]? = some t' ∧ t'.read ≠ 0 := by
        obtain ⟨t, ht⟩ : ∃ t, s.given[k]? = some t := ⟨_, List.getElem?_eq_getElem hlt⟩
        by_cases hr : t.read = 0
        · have e1 : readsOne s k = readT k t s := by
            unfold readsOne
            rw [ht]
            dsimp only
            rw [if_pos ⟨hr, toWrite_yes hall⟩]
          rw [e1]
          refine ⟨_, List.getElem?_set_self hlt, ?_⟩
          show s.cycle ≠ 0
          omega
        · obtain ⟨t', a1, _, _, _, a5, _⟩ := hg.1.old k t ht
          exact ⟨t', a1, by rw [(a5 hr).1]; exact hr⟩
      obtain ⟨t', ht', hr'⟩ := h1
      have hg2 := readsL_gr L (readsOne s k) (c := s.cycle - 1) (by rw [hg.2.1]; omega)
      obtain ⟨t'', a1, _, _, _, a5, _⟩ := hg2.1.old k t' ht'
      exact ⟨t'', a1, by rw [(a5 hr').1]; exact hr'⟩
    · refine readsL_at L (readsOne s k) (by rcases List.mem_cons.1 hi with h | h; exact absurd h.symm e; exact h) (by rw [hg.2.1]; exact hc) (by rw [readsOne_len]; exact hlt) fun j x hj hx => ?_
      have hjl := (List.getElem?_eq_some_iff.1 hx).1
      rw [readsOne_len] at hjl
      obtain ⟨y, hy⟩ : ∃ y, s.given[j]? = some y := ⟨_, List.getElem?_eq_getElem hjl⟩
      obtain ⟨z, a1, _, _, _, _, a6, _⟩ := hg.1.old j y hy
      rw [hx] at a1
      injection a1 with a1
      subst a1
      have h1 := hall j y hj hy
      rw [a6 h1.1, hg.2.1]
      exact h1

/-- It reads where all ahead of it have written. -/
theorem Jv.readsIt (h : Jv prog u l b mem0 m) {i : Nat} (hi : i < m.given.length) (hall : ∀ (j : Nat) (t : Tk), j < i → m.given[j]? = some t → t.write ≠ 0) :
    ∃ t', (cycleM prog m).given[i]? = some t' ∧ t'.read ≠ 0 := by
  have h1 := writesM_gr { m with cycle := m.cycle + 1 } (c := m.cycle) (Nat.lt_succ_self _)
  have hc : (writesM { m with cycle := m.cycle + 1 }).cycle = m.cycle + 1 := h1.2.1
  have hl : (writesM { m with cycle := m.cycle + 1 }).given.length = m.given.length := writesL_len _ _
  obtain ⟨t', ht', hr'⟩ := readsL_at (i := i) (List.range (writesM { m with cycle := m.cycle + 1 }).given.length) (writesM { m with cycle := m.cycle + 1 }) (by rw [hl]; exact List.mem_range.2 hi) (by omega) (by omega) fun j x hj hx => by
    obtain ⟨y, hy⟩ : ∃ y, m.given[j]? = some y := ⟨_, List.getElem?_eq_getElem (by omega)⟩
    obtain ⟨z, a1, _, _, _, _, a6, _⟩ := h1.1.old j y hy
    rw [hx] at a1
    injection a1 with a1
    subst a1
    have h2 := hall j y hj hy
    have h3 := a6 h2
    have h4 := h.iv.wrLe hy
    omega
  have ht2 : (midM m).given[i]? = some t' := ht'
  have h3 := issueM_gr prog (midM m) (c := m.cycle) (by rw [(midM_gr m).2.1]; exact Nat.lt_succ_self _)
  obtain ⟨t'', a1, _, _, _, a5, _⟩ := h3.old i t' ht2
  refine ⟨t'', ?_, by rw [(a5 hr').1]; exact hr'⟩
  show (showM (issueM prog (midM m))).given[i]? = _
  rw [(showM_same _).1]
  exact a1

theorem writesL_idle : ∀ (L : List Nat) (s : Int × Mc), (∀ (j : Nat) (t : Tk), j ∈ L → s.2.given[j]? = some t → t.write ≠ 0) → L.foldl writesOne s = s
  | [], _, _ => rfl
  | k :: L, s, h => by
    have e : writesOne s k = s := by
      unfold writesOne
      split
      · rfl
      · rename_i t ht
        have h0 := h k t (by simp) ht
        have : mayW s.2.given s.2.cycle k t = false := by
          cases e : mayW s.2.given s.2.cycle k t with
          | false => rfl
          | true => exact absurd (mayW_all e).2.2.2.1 h0
        rw [this]
        rfl
    rw [List.foldl_cons, e]
    exact writesL_idle L s fun j t hj ht => h j t (by simp [hj]) ht

theorem range_at {i n : Nat} (h : i < n) : ∃ L, List.range n = List.range i ++ i :: L := by
  obtain ⟨k, rfl⟩ : ∃ k, n = i + (k + 1) := ⟨n - i - 1, by omega⟩
  rw [List.range_add, List.range_succ_eq_map, List.map_cons]
  exact ⟨_, rfl⟩

/-- It writes where all ahead of it have written. -/
theorem Jv.writesIt (h : Jv prog u l b mem0 m) (hb : 1 ≤ b) {i : Nat} {t : Tk} (ht : m.given[i]? = some t) (hr : t.read ≠ 0) (hd : t.done ≤ m.cycle) (h0 : t.trap = 0) (hall : ∀ (j : Nat) (t : Tk), j < i → m.given[j]? = some t → t.write ≠ 0) :
    ∃ t', (cycleM prog m).given[i]? = some t' ∧ t'.write ≠ 0 := by
  have hgc := cycleM_gr prog m
  by_cases hw : t.write = 0
  · have h8 : t.o.op ≠ 8 := fun e => by
      have := h.iv.jmp i t ht e
      have := h.iv.iss i t ht
      omega
    have hrd := h.iv.rdn i t ht h8 hr
    have hlt := (List.getElem?_eq_some_iff.1 ht).1
    obtain ⟨L, hL⟩ := range_at hlt
    have e1 : writesM { m with cycle := m.cycle + 1 } = (L.foldl writesOne (writesOne (m.buses, { m with cycle := m.cycle + 1 }) i)).2 := by
      show ((List.range m.given.length).foldl writesOne (m.buses, { m with cycle := m.cycle + 1 })).2 = _
      rw [hL, List.foldl_append, writesL_idle (List.range i) _ (fun j s hj hs => hall j s (List.mem_range.1 hj) hs), List.foldl_cons]
    have hmay : mayW m.given (m.cycle + 1) i t = true := by
      unfold mayW
      have g1 : toRead m.given i (wMask t.o) = false := toRead_yes fun j s hj hs => (h.iv.wrote hs (hall j s hj hs)).1
      rw [g1, decide_eq_true h0, decide_eq_true hw, decide_eq_true (show t.done ≠ 0 ∧ t.done < m.cycle + 1 by omega)]
      rfl
    have e2 : ∃ t', (writesOne (m.buses, { m with cycle := m.cycle + 1 }) i).2.given[i]? = some t' ∧ t'.write ≠ 0 := by
      have hbus : m.buses ≠ 0 := by rw [h.buses]; omega
      have hset : ((writeT i t { m with cycle := m.cycle + 1 }).given)[i]? = some { t with write := m.cycle + 1 } := List.getElem?_set_self hlt
      unfold writesOne
      dsimp only
      rw [ht]
      dsimp only
      rw [if_pos hmay]
      by_cases hm0 : wMask t.o = 0
      · rw [if_pos hm0]
        exact ⟨_, hset, Nat.succ_ne_zero _⟩
      · rw [if_neg hm0, if_neg hbus]
        exact ⟨_, hset, Nat.succ_ne_zero _⟩
    obtain ⟨t', ht', hw'⟩ := e2
    have hs1 := writesOne_gr (m.buses, { m with cycle := m.cycle + 1 }) i (c := m.cycle) (Nat.lt_succ_self _)
    have hg2 := writesL_gr L (writesOne (m.buses, { m with cycle := m.cycle + 1 }) i) (c := m.cycle) (by rw [hs1.2.1]; exact Nat.lt_succ_self _)
    obtain ⟨t2, a1, _, _, _, _, a6, _⟩ := hg2.1.old i t' ht'
    have hw2 : t2.write ≠ 0 := by rw [a6 hw']; exact hw'
    rw [← e1] at a1
    have hc : (writesM { m with cycle := m.cycle + 1 }).cycle = m.cycle + 1 := writesM_cyc _
    have hg3 := readsM_gr (writesM { m with cycle := m.cycle + 1 }) (c := m.cycle) (by omega)
    obtain ⟨t3, b1, _, _, _, _, b6, _⟩ := hg3.1.old i t2 a1
    have hw3 : t3.write ≠ 0 := by rw [b6 hw2]; exact hw2
    have hg4 := issueM_gr prog (midM m) (c := m.cycle) (by rw [(midM_gr m).2.1]; exact Nat.lt_succ_self _)
    obtain ⟨t4, c1, _, _, _, _, c6, _⟩ := hg4.old i t3 b1
    refine ⟨t4, ?_, by rw [c6 hw3]; exact hw3⟩
    show (showM (issueM prog (midM m))).given[i]? = _
    rw [(showM_same _).1]
    exact c1
  · obtain ⟨t', a1, _, _, _, _, a6, _⟩ := hgc.old i t ht
    exact ⟨t', a1, by rw [a6 hw]; exact hw⟩

theorem Gr.allWr {c k : Nat} {g g' : List Tk} (h : Gr c g g') (hk : k ≤ g.length) (ha : allWr g k = true) : Go.Proofs.YtmeiogoodbnkkaaGreat.allWr g' k = true := by
  refine (allWr_iff _ _).2 fun j t' hj ht' => ?_
  obtain ⟨t, ht⟩ : ∃ t, g[j]? = some t := ⟨_, List.getElem?_eq_getElem (by omega)⟩
  obtain ⟨s, s1, _, _, _, _, s6, _⟩ := h.old j t ht
  rw [ht'] at s1
  injection s1 with s1
  subst s1
  have h0 := (allWr_iff _ _).1 ha j t hj ht
  rw [s6 h0]
  exact h0

/-- Given out and read, two cycles later. -/
theorem Jv.upto (h : Jv prog u l b mem0 m) (hp : isProg prog = true) (hu3 : u.getD 3 0 = 1) (hu : ∀ k, k < 4 → 1 ≤ u.getD k 0) (hl : ∀ k, k < 4 → l.getD k 0 ≤ 12) {k : Nat} (hk : k ≤ m.given.length) (ha : allWr m.given k = true)
    (hop : (prog.getD (seqS prog mem0 k).next Ord.none).op ≠ 0) : ∃ t, (Go.Proofs.YtmeiogoodbnkkaaGreat.cyc prog 14 m).given[k]? = some t ∧ t.read ≠ 0 ∧ t.done ≤ m.cycle + 14 ∧ allWr (Go.Proofs.YtmeiogoodbnkkaaGreat.cyc prog 14 m).given k = true := by
  have h1 : Jv prog u l b mem0 (cycleM prog m) := h.cycle hp hu3
  have h2 : Jv prog u l b mem0 (cycleM prog (cycleM prog m)) := h1.cycle hp hu3
  have hlen : k + 1 ≤ (cycleM prog m).given.length := by
    rcases Nat.lt_or_ge k m.given.length with hlt | hge
    · have := (cycleM_gr prog m).len
      omega
    · have e : k = m.given.length := by omega
      have hw : ∀ (j : Nat) (t : Tk), m.given[j]? = some t → t.write ≠ 0 := fun j t ht => (allWr_iff _ _).1 ha j t (by have := (List.getElem?_eq_some_iff.1 ht).1; omega) ht
      have hend : m.ended = false := by
        cases e2 : m.ended with
        | false => rfl
        | true => exact absurd (h.iv.ended e2) (by rw [h.iv.next, ← e]; exact hop)
      have hsh : m.shown = false := by
        cases e2 : m.shown with
        | false => rfl
        | true =>
          obtain ⟨t, ht, h0⟩ := h.shn e2
          exact absurd (h.iv.wrote ht (hw _ t ht)).2 h0
      have := h.gives hp hu hend hsh (by rw [← e]; exact hop) hw
      omega
  have a1 : allWr (cycleM prog m).given k = true := (cycleM_gr prog m).allWr hk ha
  obtain ⟨t, ht, hr⟩ := h1.readsIt (i := k) (by omega) (fun j s hj hs => (allWr_iff _ _).1 a1 j s hj hs)
  have hd : t.done ≤ m.cycle + 14 := by
    have hcy : (cycleM prog (cycleM prog m)).cycle = m.cycle + 2 := by rw [cycleM_cyc, cycleM_cyc]
    by_cases h8 : t.o.op = 8
    · have q1 := h2.iv.jmp k t ht h8
      have q2 := h2.iv.iss k t ht
      omega
    · have q1 := h2.iv.rdn k t ht h8 hr
      have q3 := h2.iv.ord hp ht
      have q4 := hl _ (kind_in (op := t.o.op) (by omega) (by omega)).2
      omega
  have e14 : Go.Proofs.YtmeiogoodbnkkaaGreat.cyc prog 14 m = Go.Proofs.YtmeiogoodbnkkaaGreat.cyc prog 12 (cycleM prog (cycleM prog m)) := by
    have := cyc_add prog m 2 12
    exact this
  have hg := cyc_gr prog (cycleM prog (cycleM prog m)) 12
  obtain ⟨t', b1, _, _, _, b5, _⟩ := hg.old k t ht
  obtain ⟨b51, b52, b53⟩ := b5 hr
  rw [e14]
  refine ⟨t', b1, by rw [b51]; exact hr, by rw [b52]; exact hd, hg.allWr ?_ ((cycleM_gr prog (cycleM prog m)).allWr (by omega) a1)⟩
  have := (cycleM_gr prog (cycleM prog m)).len
  omega

/-- Fifteen cycles for each order. -/
theorem live (hp : isProg prog = true) (hu3 : u.getD 3 0 = 1) (hu : ∀ k, k < 4 → 1 ≤ u.getD k 0) (hl : ∀ k, k < 4 → l.getD k 0 ≤ 12) (hb : 1 ≤ b) : ∀ k, Good prog mem0 k →
    k ≤ (cyc prog (15 * k) (startM u l b mem0)).given.length ∧ allWr (cyc prog (15 * k) (startM u l b mem0)).given k = true
  | 0, _ => ⟨Nat.zero_le _, (allWr_iff _ _).2 fun j t hj _ => absurd hj (Nat.not_lt_zero _)⟩
  | k + 1, hg => by
    obtain ⟨i1, i2⟩ := live hp hu3 hu hl hb k fun i hi => hg i (by omega)
    obtain ⟨g1, g2⟩ := hg k (by omega)
    have hJ : Jv prog u l b mem0 (cyc prog (15 * k) (startM u l b mem0)) := Jv.cyc hp hu3 _
    have hJ14 : Jv prog u l b mem0 (cyc prog 14 (cyc prog (15 * k) (startM u l b mem0))) := by rw [← cyc_add]; exact Jv.cyc hp hu3 _
    obtain ⟨t, ht, hr, hd, ha⟩ := hJ.upto hp hu3 hu hl i1 i2 g1
    have htr := hJ14.iv.trapOf ht hr
    rw [g2] at htr
    obtain ⟨t', ht', hw'⟩ := hJ14.writesIt hb ht hr (by rw [cyc_cyc]; exact hd) htr.symm (fun j s hj hs => (allWr_iff _ _).1 ha j s hj hs)
    have e15 : cyc prog (15 * (k + 1)) (startM u l b mem0) = cycleM prog (cyc prog 14 (cyc prog (15 * k) (startM u l b mem0))) := by
      show _ = cyc prog 15 (cyc prog (15 * k) (startM u l b mem0))
      rw [← cyc_add]
      rfl
    rw [e15]
    have hlt := (List.getElem?_eq_some_iff.1 ht').1
    have hlt0 := (List.getElem?_eq_some_iff.1 ht).1
    refine ⟨by omega, (allWr_iff _ _).2 fun j s hj hs => ?_⟩
    rcases Nat.lt_or_ge j k with h1 | h1
    · exact (allWr_iff _ _).1 ((cycleM_gr prog _).allWr (by omega) ha) j s h1 hs
    · have : j = k := by omega
      subst this
      rw [ht'] at hs
      injection hs with hs
      subst hs
      exact hw'

theorem find_le {g : List Tk} {c k : Nat} {t : Tk} (ht : g[k]? = some t) (h0 : t.trap ≠ 0) (hd : t.done ≤ c) : ∃ i, firstShown g c = some i ∧ i ≤ k := by
  have hlt := (List.getElem?_eq_some_iff.1 ht).1
  unfold firstShown
  obtain ⟨L, hL⟩ := range_at hlt
  rw [hL, List.find?_append]
  cases e : (List.range k).find? fun i => match g[i]? with | none => false | some t => decide (t.trap ≠ 0 ∧ t.done ≤ c) with
  | some i =>
    have := List.mem_range.1 (List.mem_of_find?_eq_some e)
    exact ⟨i, rfl, by omega⟩
  | none =>
    refine ⟨k, ?_, Nat.le_refl _⟩
    rw [List.find?_cons]
    simp only [ht, decide_eq_true (⟨h0, hd⟩ : t.trap ≠ 0 ∧ t.done ≤ c)]
    rfl

/-- So it ends. -/
theorem live_end (hp : isProg prog = true) (hu3 : u.getD 3 0 = 1) (hu : ∀ k, k < 4 → 1 ≤ u.getD k 0) (hl : ∀ k, k < 4 → l.getD k 0 ≤ 12) (hb : 1 ≤ b) {k : Nat} (hg : Good prog mem0 k)
    (he : (prog.getD (seqS prog mem0 k).next Ord.none).op = 0 ∨ (doOne (prog.getD (seqS prog mem0 k).next Ord.none) (seqS prog mem0 k)).1 ≠ 0) : ∃ n, 1 ≤ n ∧ n ≤ 15 * k + 15 ∧ endsM (cyc prog n (startM u l b mem0)) = true := by
  obtain ⟨i1, i2⟩ := live hp hu3 hu hl hb k hg
  have hJ : Jv prog u l b mem0 (cyc prog (15 * k) (startM u l b mem0)) := Jv.cyc hp hu3 _
  by_cases hop : (prog.getD (seqS prog mem0 k).next Ord.none).op = 0
  · refine ⟨15 * k + 1, by omega, by omega, ?_⟩
    have hJ1 : Jv prog u l b mem0 (cyc prog (15 * k + 1) (startM u l b mem0)) := Jv.cyc hp hu3 _
    have hle : ∀ {m : Mc}, Jv prog u l b mem0 m → k ≤ m.given.length → m.given.length = k := fun {m} hj hk => by
      rcases Nat.lt_or_ge k m.given.length with h1 | h1
      · obtain ⟨t, ht⟩ : ∃ t, m.given[k]? = some t := ⟨_, List.getElem?_eq_getElem h1⟩
        have h2 := hj.iv.path k t ht
        rw [h2.2.1] at h2
        exact absurd hop h2.2.2
      · omega
    have hl0 := hle hJ i1
    have hgr := cycleM_gr prog (cyc prog (15 * k) (startM u l b mem0))
    have hl1 : (cyc prog (15 * k + 1) (startM u l b mem0)).given.length = k := hle hJ1 (Nat.le_trans i1 hgr.len)
    have ha1 : allWr (cyc prog (15 * k + 1) (startM u l b mem0)).given k = true := hgr.allWr i1 i2
    have hend : (cyc prog (15 * k + 1) (startM u l b mem0)).ended = true := by
      have hk2 := hJ.mid hp
      have hs := (midM_gr (cyc prog (15 * k) (startM u l b mem0))).2
      have hn := hk2.jv.iv.next
      rw [midM_len, hl0] at hn
      show (showM (issueM prog (midM (cyc prog (15 * k) (startM u l b mem0))))).ended = true
      rw [(showM_same _).2.2]
      have hsh : (midM (cyc prog (15 * k) (startM u l b mem0))).shown = false := by
        cases e2 : (midM (cyc prog (15 * k) (startM u l b mem0))).shown with
        | false => rfl
        | true =>
          obtain ⟨t, ht, h0⟩ := hk2.jv.shn e2
          have hlt := (List.getElem?_eq_some_iff.1 ht).1
          rw [midM_len, hl0] at hlt
          have ha2 := (midM_gr (cyc prog (15 * k) (startM u l b mem0))).1.allWr i1 i2
          exact absurd (hk2.jv.iv.wrote ht ((allWr_iff _ _).1 ha2 _ t hlt ht)).2 h0
      unfold issueM
      dsimp only
      cases e3 : (midM (cyc prog (15 * k) (startM u l b mem0))).ended with
      | true => rw [Bool.true_or, if_pos rfl]; exact e3
      | false => rw [hsh, Bool.or_false, if_neg (by simp), hn, if_pos hop]
    unfold endsM
    rw [hend, hl1, ha1]
    simp
  · have htr : (doOne (prog.getD (seqS prog mem0 k).next Ord.none) (seqS prog mem0 k)).1 ≠ 0 := by
      rcases he with h | h
      · exact absurd h hop
      · exact h
    obtain ⟨t, ht, hr, hd, ha⟩ := hJ.upto hp hu3 hu hl i1 i2 hop
    rw [← cyc_add] at ht ha
    have hJ14 : Jv prog u l b mem0 (cyc prog (15 * k + 14) (startM u l b mem0)) := Jv.cyc hp hu3 _
    have h0 : t.trap ≠ 0 := by rw [← hJ14.iv.trapOf ht hr]; exact htr
    have hcy : (cyc prog (15 * k) (startM u l b mem0)).cycle = 15 * k := by rw [cyc_cyc]; exact Nat.zero_add _
    refine ⟨15 * k + 14, by omega, by omega, ?_⟩
    have hlast : ∀ n, ∃ x, cyc prog (n + 1) (startM u l b mem0) = showM x := fun n => ⟨_, rfl⟩
    obtain ⟨x, hx⟩ : ∃ x, cyc prog (15 * k + 14) (startM u l b mem0) = showM x := hlast (15 * k + 13)
    have hxc : x.cycle = 15 * k + 14 := by
      have h1 : (cyc prog (15 * k + 14) (startM u l b mem0)).cycle = 15 * k + 14 := by rw [cyc_cyc]; exact Nat.zero_add _
      rw [hx, showM_cyc] at h1
      exact h1
    have hxg : (cyc prog (15 * k + 14) (startM u l b mem0)).given = x.given := by rw [hx]; exact (showM_same x).1
    rw [hxg] at ht ha
    obtain ⟨i, hi, hik⟩ := find_le (c := x.cycle) ht h0 (by omega)
    have e : showM x = { x with shown := true, counts := i } := by
      unfold showM
      rw [hi]
    rw [hx, e]
    unfold endsM
    have : allWr x.given i = true := (allWr_iff _ _).2 fun j s hj hs => (allWr_iff _ _).1 ha j s (by omega) hs
    simp [this]
end

end Go.Proofs.YtmeiogoodbnkkaaGreat

/- What a run ends with, beside the orders one by one: in the statements' words. -/
namespace Go.Proofs.YtmeiogoodbnkkaaGreat
open Go.RowKit

/-- A configuration that may be. -/
structure Cfg (u l : List Int) (b : Int) : Prop where
  u3 : u.getD 3 0 = 1
  un : ∀ k, k < 4 → 1 ≤ u.getD k 0
  la : ∀ k, k < 4 → 1 ≤ l.getD k 0 ∧ l.getD k 0 ≤ 12
  bu : 1 ≤ b

/-- How a run ends. -/
inductive Out (prog : List Ord) (mem : List Int) (steps : Nat) (n : Nat) (m r : Mc) : Prop where
  | trapped (k : Nat) (hk : k < m.given.length) (hg : Good prog mem k) (h0 : (prog.getD (seqS prog mem k).next Ord.none).op ≠ 0) (ht : (doOne (prog.getD (seqS prog mem k).next Ord.none) (seqS prog mem k)).1 ≠ 0) (e : endsM m = true)
      (r1 : r.regs = (seqS prog mem k).regs) (r2 : r.mem = (seqS prog mem k).mem) (r3 : r.next = (seqS prog mem k).next) (r4 : r.stop = 1) (r5 : r.trap = (doOne (prog.getD (seqS prog mem k).next Ord.none) (seqS prog mem k)).1)
  | halted (hg : Good prog mem m.given.length) (h0 : (prog.getD (seqS prog mem m.given.length).next Ord.none).op = 0) (e : endsM m = true)
      (r1 : r.regs = (seqS prog mem m.given.length).regs) (r2 : r.mem = (seqS prog mem m.given.length).mem) (r3 : r.next = (seqS prog mem m.given.length).next) (r4 : r.stop = 0) (r5 : r.trap = 0)
  | out (e : endsM m = false) (hn : n = steps) (r4 : r.stop = 2)

theorem run_out {u l : List Int} {b : Int} (hc : Cfg u l b) {prog : List Ord} (hp : isProg prog = true) (mem : List Int) (steps : Nat) (hs : 1 ≤ steps) :
    ∃ n m, 1 ≤ n ∧ n ≤ steps ∧ m = cyc prog n (startM u l b mem) ∧ Jv prog u l b mem m ∧ (runM u l b prog mem steps).given = m.given ∧ (runM u l b prog mem steps).steps = (n : Int) ∧ m.cycle = n ∧ m.given.length ≤ n ∧
      (∀ k, 1 ≤ k → k < n → endsM (cyc prog k (startM u l b mem)) = false) ∧ (runM u l b prog mem steps) = { finM m with steps := (n : Int) } ∧ Out prog mem steps n m (runM u l b prog mem steps) := by
  obtain ⟨n, n1, n2, n3, n4, n5⟩ := run_spec u l b prog mem steps hs
  have hJ : Jv prog u l b mem (cyc prog n (startM u l b mem)) := Jv.cyc hp hc.u3 n
  have hcy : (cyc prog n (startM u l b mem)).cycle = n := by rw [cyc_cyc]; exact Nat.zero_add n
  have htr : (cyc prog n (startM u l b mem)).trap = 0 := cyc_trap prog _ n
  have hle := hJ.iv.lenLe
  rw [hcy] at hle
  refine ⟨n, _, n1, n2, rfl, hJ, ?_, by rw [n3], hcy, hle, n4, n3, ?_⟩
  · rw [n3]
    show (finM _).given = _
    unfold finM
    split
    · rfl
    · split <;> rfl
  · rw [n3]
    generalize cyc prog n (startM u l b mem) = m at *
    cases h1 : (m.shown && allWr m.given m.counts) with
    | true =>
      obtain ⟨q1, q2, q3, q4, q5⟩ := hJ.trapped hp h1
      rw [q5]
      exact .trapped m.counts q1 q2 q3 q4 (by unfold endsM; rw [h1]; rfl) rfl rfl rfl rfl rfl
    | false =>
      cases h2 : (m.ended && allWr m.given m.given.length) with
      | true =>
        obtain ⟨q1, q2, q3⟩ := hJ.halted hp h1 h2
        rw [q3]
        exact .halted q1 q2 (by unfold endsM; rw [h2]; simp) rfl rfl rfl rfl htr
      | false =>
        have e : endsM m = false := by unfold endsM; rw [h1, h2]; rfl
        have hf : finM m = { m with stop := 2 } := by unfold finM; rw [h1, h2]; rfl
        rw [hf]
        refine .out e ?_ rfl
        rcases n5 with h | h
        · rw [e] at h; cases h
        · exact h

/-- One by one: how it ends. -/
theorem plain_halt' {prog : List Ord} {mem : List Int} {steps k : Nat} (hg : Good prog mem k) (hk : k ≤ steps) (h0 : (prog.getD (seqS prog mem k).next Ord.none).op = 0) : plainSt prog mem steps = (seqS prog mem k, 0, 0) := plain_halt hg hk h0

/-- P5. -/
theorem precise_pure {u l : List Int} {b : Int} (hc : Cfg u l b) {prog : List Ord} (hp : isProg prog = true) (mem : List Int) (steps : Nat) (hs : 1 ≤ steps) :
    ((runM u l b prog mem steps).stop = 2 ∨ (plainSt prog mem steps).2.1 = 2 → (runM u l b prog mem steps).stop = 2 ∧ ((plainSt prog mem steps).2.1 = 2 ∨ steps < 20 * ((plainSt prog mem steps).1.steps + 1))) ∧
    ((runM u l b prog mem steps).stop ≠ 2 → (runM u l b prog mem steps).regs = (plainSt prog mem steps).1.regs ∧ (runM u l b prog mem steps).mem = (plainSt prog mem steps).1.mem ∧ (runM u l b prog mem steps).next = (plainSt prog mem steps).1.next ∧
      (runM u l b prog mem steps).stop = (plainSt prog mem steps).2.1 ∧ (runM u l b prog mem steps).trap = (plainSt prog mem steps).2.2 ∧ (plainSt prog mem steps).1.steps ≤ (runM u l b prog mem steps).given.length) := by
  obtain ⟨n, m, n1, n2, hm, hJ, hgv, hst, hcy, hle, hno, _, ho⟩ := run_out hc hp mem steps hs
  cases ho with
  | trapped k hk hg h0 ht e r1 r2 r3 r4 r5 =>
    have hpl := plain_trap (steps := steps) hg (by omega) h0 ht
    rw [hpl]
    refine ⟨fun h => ?_, fun _ => ⟨r1, r2, r3, r4, r5, ?_⟩⟩
    · rcases h with h | h
      · rw [r4] at h; cases h
      · cases h
    · rw [hgv]
      show (seqS prog mem k).steps ≤ _
      rw [seq_steps]
      omega
  | halted hg h0 e r1 r2 r3 r4 r5 =>
    have hpl := plain_halt (steps := steps) hg (by omega) h0
    rw [hpl]
    refine ⟨fun h => ?_, fun _ => ⟨r1, r2, r3, r4, r5, ?_⟩⟩
    · rcases h with h | h
      · rw [r4] at h; cases h
      · cases h
    · rw [hgv]
      show (seqS prog mem m.given.length).steps ≤ _
      rw [seq_steps]
      exact Nat.le_refl _
  | out e hn r4 =>
    refine ⟨fun _ => ⟨r4, ?_⟩, fun h => absurd r4 h⟩
    have noend : ∀ k, Good prog mem k → ((prog.getD (seqS prog mem k).next Ord.none).op = 0 ∨ (doOne (prog.getD (seqS prog mem k).next Ord.none) (seqS prog mem k)).1 ≠ 0) → steps < 20 * (k + 1) := fun k hg he => by
      obtain ⟨q, q1, q2, q3⟩ := live_end hp hc.u3 hc.un (fun k hk => (hc.la k hk).2) hc.bu hg he
      rcases Nat.lt_or_ge q n with h | h
      · rw [hno q q1 h] at q3; cases q3
      · rcases Nat.lt_or_ge n q with h' | h'
        · omega
        · have : q = n := by omega
          subst this
          rw [← hm, e] at q3
          cases q3
    obtain ⟨k, k1, k2, k3⟩ := plain_spec prog mem steps
    rcases k3 with ⟨h0, hpl⟩ | ⟨hk, h0, ht, hpl⟩ | ⟨hk, h0, hpl⟩
    · refine .inr ?_
      rw [hpl]
      show steps < 20 * ((seqS prog mem k).steps + 1)
      rw [seq_steps]
      exact noend k k2 (.inl h0)
    · refine .inr ?_
      rw [hpl]
      show steps < 20 * ((seqS prog mem k).steps + 1)
      rw [seq_steps]
      exact noend k k2 (.inr ht)
    · exact .inl (by rw [hpl])

/-- Two configurations. -/
theorem anyhow_pure {u l u' l' : List Int} {b b' : Int} (hc : Cfg u l b) (hc' : Cfg u' l' b') {prog : List Ord} (hp : isProg prog = true) (mem : List Int) (steps : Nat) (hs : 1 ≤ steps) :
    ((runM u l b prog mem steps).regs = (runM u' l' b' prog mem steps).regs ∧ (runM u l b prog mem steps).mem = (runM u' l' b' prog mem steps).mem ∧ (runM u l b prog mem steps).next = (runM u' l' b' prog mem steps).next ∧
      (runM u l b prog mem steps).stop = (runM u' l' b' prog mem steps).stop ∧ (runM u l b prog mem steps).trap = (runM u' l' b' prog mem steps).trap) ∨ (runM u l b prog mem steps).stop = 2 ∨ (runM u' l' b' prog mem steps).stop = 2 := by
  by_cases h1 : (runM u l b prog mem steps).stop = 2
  · exact .inr (.inl h1)
  · by_cases h2 : (runM u' l' b' prog mem steps).stop = 2
    · exact .inr (.inr h2)
    · obtain ⟨a1, a2, a3, a4, a5, _⟩ := (precise_pure hc hp mem steps hs).2 h1
      obtain ⟨b1, b2, b3, b4, b5, _⟩ := (precise_pure hc' hp mem steps hs).2 h2
      exact .inl ⟨a1.trans b1.symm, a2.trans b2.symm, a3.trans b3.symm, a4.trans b4.symm, a5.trans b5.symm⟩

/-- More cycles: what had ended ends the same; what had not has the same past. -/
theorem onward_run {u l : List Int} {b : Int} (hc : Cfg u l b) {prog : List Ord} (hp : isProg prog = true) (mem : List Int) (n k : Nat) (hn : 1 ≤ n) (hnk : n ≤ k) :
    Gr n (runM u l b prog mem n).given (runM u l b prog mem k).given ∧ ((runM u l b prog mem n).stop ≠ 2 → runM u l b prog mem n = runM u l b prog mem k) ∧ ((runM u l b prog mem n).stop = 2 → (runM u l b prog mem n).steps = n) ∧ (runM u l b prog mem n).steps ≤ n := by
  obtain ⟨a, m, a1, a2, hm, hJ, hgv, hst, hcy, hle, hno, hr, ho⟩ := run_out hc hp mem n hn
  obtain ⟨a', m', a1', a2', hm', hJ', hgv', hst', hcy', hle', hno', hr', ho'⟩ := run_out hc hp mem k (by omega)
  have same : endsM m = true → a' = a := fun e => by
    have h1 : ¬ a < a' := fun h => by rw [hm, hno' a a1 h] at e; cases e
    have h2 : ¬ a' < a := fun h => by
      have e' : endsM m' = false := by rw [hm']; exact hno a' a1' h
      cases ho' with
      | trapped _ _ _ _ _ e2 => rw [e'] at e2; cases e2
      | halted _ _ e2 => rw [e'] at e2; cases e2
      | out _ hn' => omega
    omega
  have both : endsM m = true → runM u l b prog mem n = runM u l b prog mem k := fun e => by
    have e1 := same e
    have e2 : m' = m := by rw [hm, hm', e1]
    rw [hr, hr', e2, e1]
  have stops : (runM u l b prog mem n).stop ≠ 2 → endsM m = true := fun h => by
    cases ho with
    | trapped _ _ _ _ _ e2 => exact e2
    | halted _ _ e2 => exact e2
    | out _ _ r4 => exact absurd r4 h
  refine ⟨?_, fun h => both (stops h), fun h => ?_, by rw [hst]; omega⟩
  · cases e : endsM m with
    | true => rw [← both e]; exact Gr.refl _ _
    | false =>
      have hna : a = n := by
        cases ho with
        | trapped _ _ _ _ _ e2 => rw [e] at e2; cases e2
        | halted _ _ e2 => rw [e] at e2; cases e2
        | out _ hn' => exact hn'
      have hle2 : a ≤ a' := by
        rcases Nat.lt_or_ge a' a with h | h
        · have e' : endsM m' = false := by rw [hm']; exact hno a' a1' h
          cases ho' with
          | trapped _ _ _ _ _ e2 => rw [e'] at e2; cases e2
          | halted _ _ e2 => rw [e'] at e2; cases e2
          | out _ hn' => omega
        · exact h
      obtain ⟨d, rfl⟩ : ∃ d, a' = a + d := ⟨a' - a, by omega⟩
      rw [hgv, hgv', hm', cyc_add, ← hm]
      have := cyc_gr prog m d
      rw [hcy, hna] at this
      exact this
  · cases ho with
    | trapped _ _ _ _ _ _ _ _ _ r4 => rw [r4] at h; cases h
    | halted _ _ _ _ _ _ r4 => rw [r4] at h; cases h
    | out _ hn' => rw [hst, hn']

theorem onward_plain (prog : List Ord) (mem : List Int) (n k : Nat) (hnk : n ≤ k) :
    ((plainSt prog mem n).2.1 ≠ 2 → plainSt prog mem n = plainSt prog mem k) ∧ ((plainSt prog mem n).2.1 = 2 → (plainSt prog mem n).1.steps = n) ∧ (plainSt prog mem n).1.steps ≤ n := by
  obtain ⟨q, q1, q2, q3⟩ := plain_spec prog mem n
  rcases q3 with ⟨h0, hpl⟩ | ⟨hk, h0, ht, hpl⟩ | ⟨hk, h0, hpl⟩
  · rw [hpl, plain_halt (steps := k) q2 (by omega) h0]
    refine ⟨fun _ => rfl, fun h => (by cases h), ?_⟩
    show (seqS prog mem q).steps ≤ n
    rw [seq_steps]; exact q1
  · rw [hpl, plain_trap (steps := k) q2 (by omega) h0 ht]
    refine ⟨fun _ => rfl, fun h => (by cases h), ?_⟩
    show (seqS prog mem q).steps ≤ n
    rw [seq_steps]; exact q1
  · rw [hpl]
    refine ⟨fun h => absurd rfl h, fun _ => ?_, ?_⟩
    · show (seqS prog mem q).steps = n
      rw [seq_steps]; exact hk
    · show (seqS prog mem q).steps ≤ n
      rw [seq_steps]; exact q1

end Go.Proofs.YtmeiogoodbnkkaaGreat
