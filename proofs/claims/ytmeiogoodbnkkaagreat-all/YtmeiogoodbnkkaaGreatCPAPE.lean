/- Several texts in one: PA, PB, PC, PD, PE. -/
import Derived.Test.YtmeiogoodbnkkaaGreatCLPM
/- Small facts of lists and register sets; the orders one by one as a row of states. -/
namespace Go.Proofs.YtmeiogoodbnkkaaGreat
open Go.RowKit

/-- Does the order write / read the register? -/
def wrR (o : Ord) (r : Nat) : Prop := wrD o.op = true ∧ o.d.toNat = r
def rdR (o : Ord) (r : Nat) : Prop := (rdA o.op = true ∧ o.a.toNat = r) ∨ (rdB o.op = true ∧ o.b.toNat = r)

theorem meets_iff (x y : Nat) : meets x y = true ↔ ∃ i, x.testBit i = true ∧ y.testBit i = true := by
  unfold meets
  constructor
  · intro h
    have h' : (x &&& y) ≠ 0 := by simpa using h
    obtain ⟨i, hi⟩ := Nat.exists_testBit_of_ne_zero h'
    rw [Nat.testBit_and, Bool.and_eq_true] at hi
    exact ⟨i, hi⟩
  · rintro ⟨i, h1, h2⟩
    have : (x &&& y).testBit i = true := by rw [Nat.testBit_and, h1, h2]; rfl
    cases hz : (x &&& y) with
    | zero => rw [hz] at this; simp at this
    | succ n => rfl

theorem wMask_bit (o : Ord) (r : Nat) : (wMask o).testBit r = true ↔ wrR o r := by
  unfold wMask wrR bitOf
  split
  · rename_i h
    rw [Nat.testBit_two_pow]
    simp [h]
  · rename_i h
    simp [h]

theorem rMask_bit (o : Ord) (r : Nat) : (rMask o).testBit r = true ↔ rdR o r := by
  unfold rMask rdR bitOf
  rw [Nat.testBit_or, Bool.or_eq_true]
  refine or_congr ?_ ?_
  · split
    · rename_i h
      rw [Nat.testBit_two_pow]
      simp [h]
    · rename_i h
      simp [h]
  · split
    · rename_i h
      rw [Nat.testBit_two_pow]
      simp [h]
    · rename_i h
      simp [h]

theorem any_take {α : Type} (p : α → Bool) (g : List α) (n : Nat) : (g.take n).any p = false ↔ ∀ j t, j < n → g[j]? = some t → p t = false := by
  rw [List.any_eq_false]
  constructor
  · intro h j t hj ht
    have : t ∈ g.take n := List.mem_of_getElem? (i := j) (by rw [List.getElem?_take_of_lt hj]; exact ht)
    simpa using h t this
  · intro h t ht
    obtain ⟨j, hj⟩ := List.getElem?_of_mem ht
    have hjn : j < n := by
      rcases Nat.lt_or_ge j n with h1 | h1
      · exact h1
      · rw [List.getElem?_take_eq_none h1] at hj
        exact absurd hj (by simp)
    rw [List.getElem?_take_of_lt hjn] at hj
    simp [h j t hjn hj]

theorem toWrite_no {g : List Tk} {cyc place : Nat} {mask : Nat} (h : toWrite g cyc place mask = false) {j : Nat} {t : Tk} (hj : j < place) (ht : g[j]? = some t) {r : Nat} (hr : wrR t.o r) (hm : mask.testBit r = true) : t.write ≠ 0 ∧ t.write ≠ cyc := by
  have := (any_take _ _ _).1 h j t hj ht
  have hme : meets (wMask t.o) mask = true := (meets_iff _ _).2 ⟨r, (wMask_bit _ _).2 hr, hm⟩
  rw [hme, Bool.and_true] at this
  unfold opensT at this
  have := of_decide_eq_false this
  omega

theorem toWrite_yes {g : List Tk} {cyc place : Nat} {mask : Nat} (h : ∀ j t, j < place → g[j]? = some t → t.write ≠ 0 ∧ t.write ≠ cyc) : toWrite g cyc place mask = false := by
  refine (any_take _ _ _).2 fun j t hj ht => ?_
  have := h j t hj ht
  have : opensT cyc t = false := decide_eq_false (by omega)
  rw [this]
  rfl

theorem toRead_no {g : List Tk} {place : Nat} {mask : Nat} (h : toRead g place mask = false) {j : Nat} {t : Tk} (hj : j < place) (ht : g[j]? = some t) {r : Nat} (hr : rdR t.o r) (hm : mask.testBit r = true) : t.read ≠ 0 := by
  have := (any_take _ _ _).1 h j t hj ht
  have hme : meets (rMask t.o) mask = true := (meets_iff _ _).2 ⟨r, (rMask_bit _ _).2 hr, hm⟩
  rw [hme, Bool.and_true] at this
  exact of_decide_eq_false this

theorem toRead_yes {g : List Tk} {place : Nat} {mask : Nat} (h : ∀ j t, j < place → g[j]? = some t → t.read ≠ 0) : toRead g place mask = false := by
  refine (any_take _ _ _).2 fun j t hj ht => ?_
  have := h j t hj ht
  rw [decide_eq_false this]
  rfl

theorem allWr_iff (g : List Tk) (n : Nat) : allWr g n = true ↔ ∀ j t, j < n → g[j]? = some t → t.write ≠ 0 := by
  have h := any_take (fun t : Tk => !decide (t.write ≠ 0)) g n
  have e : allWr g n = !((g.take n).any fun t => !decide (t.write ≠ 0)) := by
    unfold allWr
    rw [List.all_eq_not_any_not]
  rw [e]
  constructor
  · intro h1 j t hj ht
    have h2 : ((g.take n).any fun t => !decide (t.write ≠ 0)) = false := by simpa using h1
    have := h.1 h2 j t hj ht
    simpa using this
  · intro h1
    have h2 : ((g.take n).any fun t => !decide (t.write ≠ 0)) = false := h.2 fun j t hj ht => by simp [h1 j t hj ht]
    rw [h2]
    rfl

/-- What one set in a row leaves. -/
theorem set_at {α : Type} {g : List α} {i j : Nat} {x y : α} (h : (g.set i x)[j]? = some y) : (j = i ∧ y = x ∧ i < g.length) ∨ (j ≠ i ∧ g[j]? = some y) := by
  rw [List.getElem?_set] at h
  by_cases e : i = j
  · subst e
    rw [if_pos rfl] at h
    split at h
    · exact .inl ⟨rfl, (Option.some.inj h).symm, by assumption⟩
    · exact absurd h (by simp)
  · rw [if_neg e] at h
    exact .inr ⟨fun h => e h.symm, h⟩

/-- The last value that a row's chosen orders bear. -/
def lastV (p : Tk → Bool) (z : Int) (g : List Tk) : Int := g.foldl (fun a t => if p t then t.val else a) z

theorem lastV_none {p : Tk → Bool} : ∀ {g : List Tk} {z : Int}, (∀ (j : Nat) (t : Tk), g[j]? = some t → p t = false) → lastV p z g = z
  | [], _, _ => rfl
  | t :: g, z, h => by
    show lastV p (if p t then t.val else z) g = z
    rw [h 0 t rfl]
    exact lastV_none (z := z) fun j t' hj => h (j + 1) t' (by simpa using hj)

theorem lastV_at {p : Tk → Bool} : ∀ {g : List Tk} {z : Int} {i : Nat} {t : Tk}, g[i]? = some t → p t = true → (∀ j t', i < j → g[j]? = some t' → p t' = false) → lastV p z g = t.val
  | [], _, _, _, h, _, _ => absurd h (by simp)
  | x :: g, z, 0, t, h, hp, hn => by
    have e : x = t := by simpa using h
    subst e
    show lastV p (if p x then x.val else z) g = x.val
    rw [hp]
    exact lastV_none fun j t' hj => hn (j + 1) t' (by omega) (by simpa using hj)
  | x :: g, z, i + 1, t, h, hp, hn => by
    show lastV p (if p x then x.val else z) g = t.val
    exact lastV_at (i := i) (by simpa using h) hp fun j t' hj ht => hn (j + 1) t' (by omega) (by simpa using ht)

theorem lastV_append (p : Tk → Bool) (z : Int) (g : List Tk) (t : Tk) : lastV p z (g ++ [t]) = if p t then t.val else lastV p z g := by
  unfold lastV
  rw [List.foldl_append]
  rfl

theorem lastV_set {p : Tk → Bool} : ∀ {g : List Tk} {z : Int} {i : Nat} {t t' : Tk}, g[i]? = some t → p t' = p t → (p t = true → t'.val = t.val) → lastV p z (g.set i t') = lastV p z g
  | [], _, _, _, _, h, _, _ => absurd h (by simp)
  | x :: g, z, 0, t, t', h, hp, hv => by
    have e : x = t := by simpa using h
    subst e
    show lastV p (if p t' then t'.val else z) g = lastV p (if p x then x.val else z) g
    rw [hp]
    cases hx : p x with
    | false => rfl
    | true => simp [hv hx]
  | x :: g, z, i + 1, t, t', h, hp, hv => by
    show lastV p (if p x then x.val else z) (g.set i t') = lastV p (if p x then x.val else z) g
    exact lastV_set (by simpa using h) hp hv

theorem lastV_take {p : Tk → Bool} : ∀ {g : List Tk} {z : Int} {n : Nat}, (∀ j t', n ≤ j → g[j]? = some t' → p t' = false) → lastV p z g = lastV p z (g.take n)
  | [], _, _, _ => by simp
  | x :: g, z, 0, h => by
    rw [List.take_zero]
    exact lastV_none fun j t' hj => h j t' (by omega) hj
  | x :: g, z, n + 1, h => by
    show lastV p (if p x then x.val else z) g = lastV p (if p x then x.val else z) (g.take n)
    exact lastV_take fun j t' hj ht => h (j + 1) t' (by omega) (by simpa using ht)

theorem take_set_lt {α : Type} {g : List α} {i n : Nat} {x : α} (h : n ≤ i) : (g.set i x).take n = g.take n := by
  rw [List.take_set]
  exact List.set_eq_of_length_le (by simp; omega)

/-- The orders one by one: one that traps turns nothing but the number of what comes next. -/
def stepT (o : Ord) (s : St) : St := if (doOne o s).1 = 0 then (doOne o s).2 else ⟨s.regs, s.mem, s.next + 1, s.steps + 1⟩
def seqS (prog : List Ord) (mem : List Int) : Nat → St
  | 0 => start mem
  | n + 1 => stepT (prog.getD (seqS prog mem n).next Ord.none) (seqS prog mem n)

end Go.Proofs.YtmeiogoodbnkkaaGreat

/- What holds of the machine's orders and values, beside the orders one by one. -/
namespace Go.Proofs.YtmeiogoodbnkkaaGreat
open Go.RowKit

/-- A register (1) or a word (2): what stands there, what stood there at first. -/
def cur (T : Int) (r : Nat) (m : Mc) : Int := if T = 1 then m.regs.getD r 0 else m.mem.getD r 0
def ini (T : Int) (r : Nat) (mem : List Int) : Int := if T = 1 then 0 else mem.getD r 0
def sqv (T : Int) (r : Nat) (s : St) : Int := if T = 1 then s.regs.getD r 0 else s.mem.getD r 0
def hit (T : Int) (r : Nat) (t : Tk) : Bool := decide (t.write ≠ 0 ∧ t.tgt = T ∧ t.pl.toNat = r)
def undoV (T : Int) (r k : Nat) (cs : List Ch) (z : Int) : Int := cs.foldl (fun a c => if k < c.place ∧ c.tgt = T ∧ c.pl.toNat = r then c.val else a) z

structure Iv (prog : List Ord) (l : List Int) (mem0 : List Int) (m : Mc) : Prop where
  lat : m.lat = l
  regsL : m.regs.length = 8
  memL : m.mem.length = mem0.length
  path : ∀ (i : Nat) (t : Tk), m.given[i]? = some t → t.number = (seqS prog mem0 i).next ∧ t.o = prog.getD (seqS prog mem0 i).next Ord.none ∧ t.o.op ≠ 0
  next : m.next = (seqS prog mem0 m.given.length).next
  ended : m.ended = true → (prog.getD m.next Ord.none).op = 0
  iss : ∀ (i : Nat) (t : Tk), m.given[i]? = some t → 1 ≤ t.issue ∧ t.issue ≤ m.cycle
  inc : ∀ (i j : Nat) (t s : Tk), i < j → m.given[i]? = some t → m.given[j]? = some s → t.issue < s.issue
  jmp : ∀ (i : Nat) (t : Tk), m.given[i]? = some t → t.o.op = 8 → t.read = t.issue ∧ t.done = t.issue ∧ t.write = t.issue ∧ t.tgt = 0 ∧ t.trap = 0
  unr : ∀ (i : Nat) (t : Tk), m.given[i]? = some t → t.read = 0 → t.done = 0 ∧ t.write = 0 ∧ t.tgt = 0 ∧ t.trap = 0
  rdn : ∀ (i : Nat) (t : Tk), m.given[i]? = some t → t.o.op ≠ 8 → t.read ≠ 0 → t.issue < t.read ∧ t.read ≤ m.cycle ∧ t.done = t.read + (l.getD (kindOf t.o.op).toNat 0).toNat
  eff : ∀ (i : Nat) (t : Tk), m.given[i]? = some t → t.o.op ≠ 8 → t.read ≠ 0 → (t.tgt, t.pl, t.val, t.trap) = wk t.o t.number ((seqS prog mem0 i).regs.getD t.o.a.toNat 0) ((seqS prog mem0 i).regs.getD t.o.b.toNat 0) (seqS prog mem0 i).mem
  wri : ∀ (i : Nat) (t : Tk), m.given[i]? = some t → t.o.op ≠ 8 → t.write ≠ 0 → t.read ≠ 0 ∧ t.trap = 0 ∧ t.done < t.write ∧ t.write ≤ m.cycle
  raw : ∀ (i j : Nat) (t s : Tk) (r : Nat), i < j → m.given[i]? = some t → m.given[j]? = some s → wrR t.o r → rdR s.o r → s.read ≠ 0 → t.write ≠ 0 ∧ t.write < s.read
  war : ∀ (i j : Nat) (t s : Tk) (r : Nat), i < j → m.given[i]? = some t → m.given[j]? = some s → rdR t.o r → wrR s.o r → s.write ≠ 0 → t.read ≠ 0 ∧ t.read ≤ s.write
  waw : ∀ (i j : Nat) (t s : Tk) (r : Nat), i < j → m.given[i]? = some t → m.given[j]? = some s → wrR t.o r → wrR s.o r → t.write ≠ 0 ∧ t.write < s.issue
  mem : ∀ (i j : Nat) (t s : Tk), i < j → m.given[i]? = some t → m.given[j]? = some s → kindOf t.o.op = 3 → kindOf s.o.op = 3 → t.write ≠ 0 ∧ t.write < s.issue
  chg : ∀ c, c ∈ m.changes → ∃ t, m.given[c.place]? = some t ∧ t.write ≠ 0 ∧ t.tgt = c.tgt ∧ t.pl = c.pl
  und : ∀ (T : Int) (r k : Nat), (T = 1 ∧ r < 8) ∨ T = 2 → undoV T r k m.changes.reverse (cur T r m) = lastV (hit T r) (ini T r mem0) (m.given.take (k + 1))

theorem prog_ord {prog : List Ord} (hp : isProg prog = true) {n : Nat} (h : (prog.getD n Ord.none).op ≠ 0) : n < prog.length ∧ isOrd (prog.getD n Ord.none) prog.length = true := by
  rcases Nat.lt_or_ge n prog.length with h1 | h1
  · exact ⟨h1, (isProg_spec hp).2 n h1⟩
  · rw [List.getD_eq_getElem?_getD, List.getElem?_eq_none h1] at h
    exact absurd rfl h

/-- What an order's work answers that does not trap. -/
theorem wk_ways {o : Ord} {n a b : Int} {mem : List Int} (h8 : o.op ≠ 8) :
    ((eff o a b mem).1 = 0 ∧ o.op ≠ 7 ∧ wk o n a b mem = (1, o.d, (eff o a b mem).2.1, 0)) ∨ ((eff o a b mem).1 = 0 ∧ o.op = 7 ∧ wk o n a b mem = (2, (eff o a b mem).2.2, (eff o a b mem).2.1, 0)) ∨
    ((eff o a b mem).1 ≠ 0 ∧ wk o n a b mem = (0, 0, 0, (eff o a b mem).1)) := by
  unfold wk
  rw [if_neg h8]
  by_cases h : (Go.Proofs.YtmeiogoodbnkkaaGreat.eff o a b mem).1 = 0
  · rw [if_pos h]
    by_cases h7 : o.op = 7
    · rw [if_pos h7]; exact .inr (.inl ⟨h, h7, rfl⟩)
    · rw [if_neg h7]; exact .inl ⟨h, h7, rfl⟩
  · rw [if_neg h]; exact .inr (.inr ⟨h, rfl⟩)

theorem eff_place {o : Ord} {a b : Int} {mem : List Int} (h7 : o.op = 7) (h : (eff o a b mem).1 = 0) : 0 ≤ (eff o a b mem).2.2 ∧ (eff o a b mem).2.2 < mem.length := by
  unfold eff at h ⊢
  simp only [h7, if_false, show ¬ (7 : Int) = 1 by omega, show ¬ (7 : Int) = 2 by omega, show ¬ (7 : Int) = 3 by omega, show ¬ (7 : Int) = 4 by omega, show ¬ (7 : Int) = 5 by omega, show ¬ (7 : Int) = 6 by omega] at h ⊢
  split at h
  · exact absurd h (by decide)
  · rename_i hn
    rw [if_neg hn]
    simp only []
    omega

theorem wk_congr {o : Ord} {n a a' b b' : Int} {mem mem' : List Int} (h1 : 1 ≤ o.op) (h8 : o.op ≤ 8) (ha : rdA o.op = true → a = a') (hb : rdB o.op = true → b = b') (hm : kindOf o.op = 3 → mem = mem') : wk o n a b mem = wk o n a' b' mem' := by
  obtain ⟨op, d, ra, rb, k⟩ := o
  simp only at h1 h8 ha hb hm
  have hop : op = 1 ∨ op = 2 ∨ op = 3 ∨ op = 4 ∨ op = 5 ∨ op = 6 ∨ op = 7 ∨ op = 8 := by omega
  rcases hop with rfl | rfl | rfl | rfl | rfl | rfl | rfl | rfl
  · simp [wk, eff]
  · rw [ha (by decide), hb (by decide)]; simp [wk, eff]
  · rw [ha (by decide), hb (by decide)]; simp [wk, eff]
  · rw [ha (by decide), hb (by decide)]; simp [wk, eff]
  · rw [ha (by decide), hb (by decide)]; simp [wk, eff]
  · rw [ha (by decide), hm (by decide)]; simp [wk, eff]
  · rw [ha (by decide), hb (by decide), hm (by decide)]
  · rw [ha (by decide)]; simp [wk]

section
variable {prog : List Ord} {l : List Int} {mem0 : List Int} {m : Mc}

theorem Iv.ord (h : Iv prog l mem0 m) (hp : isProg prog = true) {i : Nat} {t : Tk} (ht : m.given[i]? = some t) : 1 ≤ t.o.op ∧ t.o.op ≤ 8 ∧ 0 ≤ t.o.d ∧ t.o.d ≤ 7 ∧ 0 ≤ t.o.a ∧ t.o.a ≤ 7 ∧ 0 ≤ t.o.b ∧ t.o.b ≤ 7 := by
  obtain ⟨h1, h2, h3⟩ := h.path i t ht
  rw [h2] at h3 ⊢
  obtain ⟨_, h4⟩ := prog_ord hp h3
  have h5 := isOrd_spec h4
  omega

theorem wrD_iff (op : Int) : wrD op = true ↔ 1 ≤ op ∧ op ≤ 6 := by unfold wrD; simp
theorem kind3_iff (op : Int) : kindOf op = 3 ↔ op = 6 ∨ op = 7 := by
  unfold kindOf
  constructor
  · intro h
    repeat' split at h
    all_goals omega
  · intro h
    repeat' split
    all_goals omega

/-- The target of an order that has read and not trapped. -/
theorem Iv.target (h : Iv prog l mem0 m) (hp : isProg prog = true) {i : Nat} {t : Tk} (ht : m.given[i]? = some t) (h8 : t.o.op ≠ 8) (hr : t.read ≠ 0) (h0 : t.trap = 0) :
    (t.tgt = 1 ∧ t.o.op ≠ 7 ∧ t.pl = t.o.d ∧ t.pl.toNat < 8 ∧ wrR t.o t.pl.toNat) ∨ (t.tgt = 2 ∧ t.o.op = 7 ∧ t.pl.toNat < (seqS prog mem0 i).mem.length) := by
  have he := h.eff i t ht h8 hr
  have ho := h.ord hp ht
  rcases wk_ways (n := t.number) (a := (seqS prog mem0 i).regs.getD t.o.a.toNat 0) (b := (seqS prog mem0 i).regs.getD t.o.b.toNat 0) (mem := (seqS prog mem0 i).mem) h8 with ⟨h1, h7, hw⟩ | ⟨h1, h7, hw⟩ | ⟨h1, hw⟩
  · rw [hw] at he
    injection he with e1 e2
    injection e2 with e2 e3
    refine .inl ⟨e1, h7, e2, by omega, ?_, by rw [e2]⟩
    rw [wrD_iff]; omega
  · rw [hw] at he
    injection he with e1 e2
    injection e2 with e2 e3
    have := eff_place h7 h1
    refine .inr ⟨e1, h7, ?_⟩
    rw [e2]
    omega
  · rw [hw] at he
    injection he with e1 e2
    injection e2 with e2 e3
    injection e3 with e3 e4
    rw [h0] at e4
    exact absurd e4.symm h1

/-- An order that hit a register or word. -/
theorem Iv.hits (h : Iv prog l mem0 m) {i : Nat} {t : Tk} (ht : m.given[i]? = some t) {T : Int} {r : Nat} (hT : T = 1 ∨ T = 2) (hh : hit T r t = true) : t.write ≠ 0 ∧ t.o.op ≠ 8 ∧ t.read ≠ 0 ∧ t.trap = 0 ∧ t.tgt = T ∧ t.pl.toNat = r := by
  have h1 := of_decide_eq_true hh
  have h8 : t.o.op ≠ 8 := by
    intro e
    have := h.jmp i t ht e
    omega
  have := h.wri i t ht h8 h1.1
  exact ⟨h1.1, h8, this.1, this.2.1, h1.2.1, h1.2.2⟩

/-- Of two that hit the same place the first has written. -/
theorem Iv.clash (h : Iv prog l mem0 m) (hp : isProg prog = true) {i j : Nat} {t s : Tk} (hij : i < j) (ht : m.given[i]? = some t) (hs : m.given[j]? = some s) {T : Int} {r : Nat} (hT : T = 1 ∨ T = 2)
    (h8 : t.o.op ≠ 8) (hr : t.read ≠ 0) (h0 : t.trap = 0) (h1 : t.tgt = T) (h2 : t.pl.toNat = r) (hh : hit T r s = true) : t.write ≠ 0 := by
  obtain ⟨k1, k2, k3, k4, k5, k6⟩ := h.hits hs hT hh
  rcases h.target hp ht h8 hr h0 with ⟨a1, a2, a3, a4, a5⟩ | ⟨a1, a2, a3⟩
  · rcases h.target hp hs k2 k3 k4 with ⟨b1, b2, b3, b4, b5⟩ | ⟨b1, b2, b3⟩
    · rw [h2] at a5
      rw [k6] at b5
      exact (h.waw i j t s r hij ht hs a5 b5).1
    · omega
  · rcases h.target hp hs k2 k3 k4 with ⟨b1, b2, b3, b4, b5⟩ | ⟨b1, b2, b3⟩
    · omega
    · exact (h.mem i j t s hij ht hs ((kind3_iff _).2 (.inr a2)) ((kind3_iff _).2 (.inr b2))).1

theorem undoV_cons (T : Int) (r k : Nat) (c : Ch) (cs : List Ch) (z : Int) : undoV T r k (c :: cs) z = undoV T r k cs (if k < c.place ∧ c.tgt = T ∧ c.pl.toNat = r then c.val else z) := rfl

theorem undoV_none {T : Int} {r k : Nat} : ∀ {cs : List Ch} {z : Int}, (∀ c, c ∈ cs → ¬ (k < c.place ∧ c.tgt = T ∧ c.pl.toNat = r)) → undoV T r k cs z = z
  | [], _, _ => rfl
  | c :: cs, z, h => by
    rw [undoV_cons, if_neg (h c (by simp))]
    exact undoV_none fun c' hc => h c' (by simp [hc])

/-- What stands now is what the orders that wrote bear, the last of them. -/
theorem Iv.now (h : Iv prog l mem0 m) {T : Int} {r : Nat} (hT : (T = 1 ∧ r < 8) ∨ T = 2) : cur T r m = lastV (hit T r) (ini T r mem0) m.given := by
  have h1 := h.und T r m.given.length hT
  rw [List.take_of_length_le (by omega), undoV_none] at h1
  · exact h1
  · intro c hc h2
    obtain ⟨t, ht, _⟩ := h.chg c (List.mem_reverse.1 hc)
    have := (List.getElem?_eq_some_iff.1 ht).1
    omega

theorem seqS_len (prog : List Ord) (mem : List Int) : ∀ n, (seqS prog mem n).regs.length = 8 ∧ (seqS prog mem n).mem.length = mem.length
  | 0 => ⟨rfl, rfl⟩
  | n + 1 => by
    have ih := seqS_len prog mem n
    show (stepT _ (seqS prog mem n)).regs.length = 8 ∧ (stepT _ (seqS prog mem n)).mem.length = mem.length
    unfold stepT doOne
    dsimp only
    repeat' split
    all_goals first | exact ih | (simp only [List.length_set]; exact ih)

/-- The order does nothing to the place. -/
theorem step_same {o : Ord} {s : St} {T : Int} {r : Nat} (hT : T = 1 ∨ T = 2) (h1 : T = 1 → 1 ≤ o.op ∧ o.op ≤ 8 ∧ ¬ wrR o r) (h2 : T = 2 → o.op ≠ 7) : sqv T r (stepT o s) = sqv T r s := by
  unfold stepT doOne sqv
  dsimp only
  by_cases h8 : o.op = 8
  · rw [if_pos h8]; rfl
  · rw [if_neg h8]
    by_cases he : (Go.Proofs.YtmeiogoodbnkkaaGreat.eff o (s.regs.getD o.a.toNat 0) (s.regs.getD o.b.toNat 0) s.mem).1 = 0
    · rw [if_pos he]
      simp only [if_true]
      rcases hT with rfl | rfl
      · simp only [if_true]
        by_cases h7 : o.op = 7
        · rw [if_pos h7]
        · rw [if_neg h7]
          obtain ⟨g1, g2, g3⟩ := h1 rfl
          have : o.d.toNat ≠ r := fun e => g3 ⟨(wrD_iff _).2 (by omega), e⟩
          rw [List.getD_eq_getElem?_getD, List.getElem?_set_ne this, ← List.getD_eq_getElem?_getD]
      · have h7 := h2 rfl
        simp [h7]
    · rw [if_neg he, if_neg he]

/-- Where all that write the place have written, it stands as one by one. -/
theorem Iv.same (h : Iv prog l mem0 m) (hp : isProg prog = true) {T : Int} {r : Nat} (hT : (T = 1 ∧ r < 8) ∨ T = 2) : ∀ (n : Nat), n ≤ m.given.length →
    (∀ (i : Nat) (t : Tk), i < n → m.given[i]? = some t → (T = 1 → wrR t.o r → t.write ≠ 0) ∧ (T = 2 → t.o.op = 7 → t.write ≠ 0)) → sqv T r (seqS prog mem0 n) = lastV (hit T r) (ini T r mem0) (m.given.take n)
  | 0, _, _ => by
    rw [List.take_zero]
    rcases hT with ⟨rfl, hr⟩ | rfl
    · show (start mem0).regs.getD r 0 = 0
      have h8 : r = 0 ∨ r = 1 ∨ r = 2 ∨ r = 3 ∨ r = 4 ∨ r = 5 ∨ r = 6 ∨ r = 7 := by omega
      rcases h8 with rfl | rfl | rfl | rfl | rfl | rfl | rfl | rfl <;> rfl
    · rfl
  | n + 1, hn, hw => by
    have ih := Iv.same h hp hT n (by omega) (fun i t hi ht => hw i t (by omega) ht)
    obtain ⟨t, ht⟩ : ∃ t, m.given[n]? = some t := ⟨_, List.getElem?_eq_getElem (by omega)⟩
    have hT' : T = 1 ∨ T = 2 := by omega
    have e : m.given.take (n + 1) = m.given.take n ++ [t] := by rw [List.take_add_one, ht]; rfl
    rw [e, lastV_append]
    obtain ⟨p1, p2, p3⟩ := h.path n t ht
    have ho := h.ord hp ht
    show sqv T r (stepT (prog.getD (seqS prog mem0 n).next Ord.none) (seqS prog mem0 n)) = _
    rw [← p2]
    cases hh : hit T r t with
    | true =>
      obtain ⟨k1, k2, k3, k4, k5, k6⟩ := h.hits ht hT' hh
      have he := h.eff n t ht k2 k3
      have hlen := seqS_len prog mem0 n
      simp only [if_true]
      rcases wk_ways (n := t.number) (a := (seqS prog mem0 n).regs.getD t.o.a.toNat 0) (b := (seqS prog mem0 n).regs.getD t.o.b.toNat 0) (mem := (seqS prog mem0 n).mem) k2 with ⟨h1, h7, hq⟩ | ⟨h1, h7, hq⟩ | ⟨h1, hq⟩
      · rw [hq] at he
        injection he with e1 e2
        injection e2 with e2 e3
        injection e3 with e3 e4
        have : T = 1 := by omega
        subst this
        unfold stepT doOne sqv
        dsimp only
        rw [if_neg k2, if_pos h1]
        simp only [if_true]
        rw [if_neg h7, ← e3, ← e2, k6, List.getD_eq_getElem?_getD, List.getElem?_set_self (by omega)]
        rfl
      · rw [hq] at he
        injection he with e1 e2
        injection e2 with e2 e3
        injection e3 with e3 e4
        have : T = 2 := by omega
        subst this
        have hpl := eff_place h7 h1
        unfold stepT doOne sqv
        dsimp only
        rw [if_neg k2, if_pos h1]
        simp only [if_true]
        rw [if_neg (by omega), if_pos h7, ← e3, ← e2, k6, List.getD_eq_getElem?_getD, List.getElem?_set_self (by omega)]
        rfl
      · rw [hq] at he
        injection he with e1 e2
        injection e2 with e2 e3
        injection e3 with e3 e4
        omega
    | false =>
      simp only [Bool.false_eq_true, if_false]
      rw [← ih]
      have hno := of_decide_eq_false hh
      by_cases h27 : T = 2 ∧ t.o.op = 7
      · obtain ⟨rfl, h7⟩ := h27
        have hwn := (hw n t (by omega) ht).2 rfl h7
        have h8 : t.o.op ≠ 8 := by omega
        obtain ⟨q1, q2, q3, q4⟩ := h.wri n t ht h8 hwn
        have he := h.eff n t ht h8 q1
        rcases wk_ways (n := t.number) (a := (seqS prog mem0 n).regs.getD t.o.a.toNat 0) (b := (seqS prog mem0 n).regs.getD t.o.b.toNat 0) (mem := (seqS prog mem0 n).mem) h8 with ⟨h1, h7', hq⟩ | ⟨h1, h7', hq⟩ | ⟨h1, hq⟩
        · exact absurd h7 h7'
        · rw [hq] at he
          injection he with e1 e2
          injection e2 with e2 e3
          have hne : t.pl.toNat ≠ r := fun e => hno ⟨hwn, e1, e⟩
          unfold stepT doOne sqv
          dsimp only
          rw [if_neg h8, if_pos h1]
          simp only [if_true]
          simp only [show ¬ (2 : Int) = 1 by omega, if_false]
          rw [if_pos h7, ← e2, List.getD_eq_getElem?_getD, List.getElem?_set_ne hne, ← List.getD_eq_getElem?_getD]
        · rw [hq] at he
          injection he with e1 e2
          injection e2 with e2 e3
          injection e3 with e3 e4
          omega
      · refine step_same hT' (fun e1 => ⟨by omega, by omega, fun hwr => ?_⟩) (fun e2 h7 => h27 ⟨e2, h7⟩)
        have hwn := (hw n t (by omega) ht).1 e1 hwr
        have h8 : t.o.op ≠ 8 := by
          have := (wrD_iff _).1 hwr.1
          omega
        obtain ⟨q1, q2, q3, q4⟩ := h.wri n t ht h8 hwn
        rcases h.target hp ht h8 q1 q2 with ⟨a1, a2, a3, a4, a5⟩ | ⟨a1, a2, a3⟩
        · exact hno ⟨hwn, by omega, by rw [a3]; exact hwr.2⟩
        · have := (wrD_iff _).1 hwr.1
          omega
end

end Go.Proofs.YtmeiogoodbnkkaaGreat

/- What holds, holds behind a write and behind a read. -/
namespace Go.Proofs.YtmeiogoodbnkkaaGreat
open Go.RowKit

theorem mayW_all {g : List Tk} {cyc i : Nat} {t : Tk} (h : mayW g cyc i t = true) : t.done ≠ 0 ∧ t.done < cyc ∧ t.trap = 0 ∧ t.write = 0 ∧ toRead g i (wMask t.o) = false := by
  unfold mayW at h
  simp only [Bool.and_eq_true, decide_eq_true_eq, Bool.not_eq_true'] at h
  exact ⟨h.1.1.1.1, h.1.1.1.2, h.1.1.2, h.1.2, h.2⟩

section
variable {prog : List Ord} {l : List Int} {mem0 : List Int} {m : Mc}

theorem Iv.tick (h : Iv prog l mem0 m) : Iv prog l mem0 { m with cycle := m.cycle + 1 } where
  lat := h.lat
  regsL := h.regsL
  memL := h.memL
  path := h.path
  next := h.next
  ended := h.ended
  iss := fun i t ht => by have := h.iss i t ht; exact ⟨this.1, Nat.le_succ_of_le this.2⟩
  inc := h.inc
  jmp := h.jmp
  unr := h.unr
  rdn := fun i t ht h1 h2 => by have := h.rdn i t ht h1 h2; exact ⟨this.1, Nat.le_succ_of_le this.2.1, this.2.2⟩
  eff := h.eff
  wri := fun i t ht h1 h2 => by have := h.wri i t ht h1 h2; exact ⟨this.1, this.2.1, this.2.2.1, Nat.le_succ_of_le this.2.2.2⟩
  raw := h.raw
  war := h.war
  waw := h.waw
  mem := h.mem
  chg := h.chg
  und := h.und

theorem getD_set_self {l : List Int} {r : Nat} {v : Int} (h : r < l.length) : (l.set r v).getD r 0 = v := by
  rw [List.getD_eq_getElem?_getD, List.getElem?_set_self h]; rfl
theorem getD_set_ne {l : List Int} {r k : Nat} {v : Int} (h : k ≠ r) : (l.set k v).getD r 0 = l.getD r 0 := by
  rw [List.getD_eq_getElem?_getD, List.getElem?_set_ne h, ← List.getD_eq_getElem?_getD]

theorem Iv.write (h : Iv prog l mem0 m) (hp : isProg prog = true) {i : Nat} {t : Tk} (ht : m.given[i]? = some t) (hw : mayW m.given m.cycle i t = true) : Iv prog l mem0 (writeT i t m) := by
  obtain ⟨w1, w2, w3, w4, w5⟩ := mayW_all hw
  have h8 : t.o.op ≠ 8 := by
    intro e
    have := h.jmp i t ht e
    have := h.iss i t ht
    omega
  have hr : t.read ≠ 0 := fun e => w1 (h.unr i t ht e).1
  have htg := h.target hp ht h8 hr w3
  have hml : (seqS prog mem0 i).mem.length = mem0.length := (seqS_len prog mem0 i).2
  have hcyc : m.cycle ≠ 0 := by have := h.iss i t ht; omega
  have hil : i < m.given.length := (List.getElem?_eq_some_iff.1 ht).1
  -- an order of the new row is an order of the old one
  have old : ∀ {j : Nat} {s : Tk}, (m.given.set i { t with write := m.cycle })[j]? = some s → (j = i ∧ s = { t with write := m.cycle }) ∨ (j ≠ i ∧ m.given[j]? = some s) := fun hs => by
    rcases set_at hs with ⟨h1, h2, _⟩ | h1
    · exact .inl ⟨h1, h2⟩
    · exact .inr h1
  refine { lat := h.lat, regsL := ?_, memL := ?_, path := ?_, next := ?_, ended := ?_, iss := ?_, inc := ?_, jmp := ?_, unr := ?_, rdn := ?_, eff := ?_, wri := ?_, raw := ?_, war := ?_, waw := ?_, mem := ?_, chg := ?_, und := ?_ }
  · show (putR t.tgt t.pl t.val m.regs).length = 8
    unfold putR; split <;> simp [h.regsL]
  · show (putM t.tgt t.pl t.val m.mem).length = mem0.length
    unfold putM; split <;> simp [h.memL]
  · intro j s hs
    rcases old hs with ⟨rfl, rfl⟩ | ⟨_, hs'⟩
    · exact h.path j t ht
    · exact h.path j s hs'
  · show putN t.tgt t.val m.next = (seqS prog mem0 (m.given.set i { t with write := m.cycle }).length).next
    rw [List.length_set]
    have : t.tgt ≠ 3 := by omega
    unfold putN
    rw [if_neg this]
    exact h.next
  · show m.ended = true → (prog.getD (putN t.tgt t.val m.next) Ord.none).op = 0
    have : t.tgt ≠ 3 := by omega
    unfold putN
    rw [if_neg this]
    exact h.ended
  · intro j s hs
    rcases old hs with ⟨rfl, rfl⟩ | ⟨_, hs'⟩
    · exact h.iss j t ht
    · exact h.iss j s hs'
  · intro j k s u hjk hs hu
    rcases old hs with ⟨rfl, rfl⟩ | ⟨_, hs'⟩
    · rcases old hu with ⟨rfl, rfl⟩ | ⟨_, hu'⟩
      · omega
      · exact h.inc j k t u hjk ht hu'
    · rcases old hu with ⟨rfl, rfl⟩ | ⟨_, hu'⟩
      · exact h.inc j k s t hjk hs' ht
      · exact h.inc j k s u hjk hs' hu'
  · intro j s hs e
    rcases old hs with ⟨rfl, rfl⟩ | ⟨_, hs'⟩
    · exact absurd e h8
    · exact h.jmp j s hs' e
  · intro j s hs e
    rcases old hs with ⟨rfl, rfl⟩ | ⟨_, hs'⟩
    · exact absurd e hr
    · exact h.unr j s hs' e
  · intro j s hs
    rcases old hs with ⟨rfl, rfl⟩ | ⟨_, hs'⟩
    · exact h.rdn j t ht
    · exact h.rdn j s hs'
  · intro j s hs
    rcases old hs with ⟨rfl, rfl⟩ | ⟨_, hs'⟩
    · exact h.eff j t ht
    · exact h.eff j s hs'
  · intro j s hs e1 e2
    rcases old hs with ⟨rfl, rfl⟩ | ⟨_, hs'⟩
    · exact ⟨hr, w3, w2, Nat.le_refl _⟩
    · exact h.wri j s hs' e1 e2
  · intro j k s u r hjk hs hu h1 h2 h3
    rcases old hs with ⟨rfl, rfl⟩ | ⟨_, hs'⟩
    · rcases old hu with ⟨rfl, rfl⟩ | ⟨_, hu'⟩
      · omega
      · exact absurd w4 (h.raw j k t u r hjk ht hu' h1 h2 h3).1
    · rcases old hu with ⟨rfl, rfl⟩ | ⟨_, hu'⟩
      · exact h.raw j k s t r hjk hs' ht h1 h2 h3
      · exact h.raw j k s u r hjk hs' hu' h1 h2 h3
  · intro j k s u r hjk hs hu h1 h2 h3
    rcases old hs with ⟨rfl, rfl⟩ | ⟨_, hs'⟩
    · rcases old hu with ⟨rfl, rfl⟩ | ⟨_, hu'⟩
      · omega
      · exact h.war j k t u r hjk ht hu' h1 h2 h3
    · rcases old hu with ⟨rfl, rfl⟩ | ⟨_, hu'⟩
      · have hs0 : s.read ≠ 0 := toRead_no w5 hjk hs' h1 ((wMask_bit _ _).2 h2)
        refine ⟨hs0, ?_⟩
        show s.read ≤ m.cycle
        by_cases e8 : s.o.op = 8
        · have := h.jmp j s hs' e8
          have := h.iss j s hs'
          omega
        · exact (h.rdn j s hs' e8 hs0).2.1
      · exact h.war j k s u r hjk hs' hu' h1 h2 h3
  · intro j k s u r hjk hs hu h1 h2
    rcases old hs with ⟨rfl, rfl⟩ | ⟨_, hs'⟩
    · rcases old hu with ⟨rfl, rfl⟩ | ⟨_, hu'⟩
      · omega
      · exact absurd w4 (h.waw j k t u r hjk ht hu' h1 h2).1
    · rcases old hu with ⟨rfl, rfl⟩ | ⟨_, hu'⟩
      · exact h.waw j k s t r hjk hs' ht h1 h2
      · exact h.waw j k s u r hjk hs' hu' h1 h2
  · intro j k s u hjk hs hu h1 h2
    rcases old hs with ⟨rfl, rfl⟩ | ⟨_, hs'⟩
    · rcases old hu with ⟨rfl, rfl⟩ | ⟨_, hu'⟩
      · omega
      · exact absurd w4 (h.mem j k t u hjk ht hu' h1 h2).1
    · rcases old hu with ⟨rfl, rfl⟩ | ⟨_, hu'⟩
      · exact h.mem j k s t hjk hs' ht h1 h2
      · exact h.mem j k s u hjk hs' hu' h1 h2
  · intro c hc
    have hc' : c ∈ m.changes ++ [⟨i, t.tgt, t.pl, oldV t.tgt t.pl t.val m.regs m.mem m.next⟩] := hc
    rw [List.mem_append] at hc'
    rcases hc' with hc' | hc'
    · obtain ⟨s, hs, h1, h2, h3⟩ := h.chg c hc'
      have hne : i ≠ c.place := fun e => by
        rw [← e, ht] at hs
        injection hs with hs
        rw [← hs] at h1
        exact h1 w4
      refine ⟨s, ?_, h1, h2, h3⟩
      show (m.given.set i { t with write := m.cycle })[c.place]? = some s
      rw [List.getElem?_set_ne hne]
      exact hs
    · have : c = ⟨i, t.tgt, t.pl, oldV t.tgt t.pl t.val m.regs m.mem m.next⟩ := by simpa using hc'
      subst this
      exact ⟨{ t with write := m.cycle }, List.getElem?_set_self hil, hcyc, rfl, rfl⟩
  · intro T r k hT
    have hT' : T = 1 ∨ T = 2 := by omega
    have e1 : (writeT i t m).changes.reverse = ⟨i, t.tgt, t.pl, oldV t.tgt t.pl t.val m.regs m.mem m.next⟩ :: m.changes.reverse := by
      show (m.changes ++ [_]).reverse = _
      rw [List.reverse_append]
      rfl
    rw [e1, undoV_cons]
    by_cases hh : t.tgt = T ∧ t.pl.toNat = r
    · obtain ⟨hh1, hh2⟩ := hh
      have hcur : cur T r (writeT i t m) = t.val := by
        unfold cur
        rcases htg with ⟨a1, a2, a3, a4, a5⟩ | ⟨a1, a2, a3⟩
        · rw [if_pos (by omega)]
          show (putR t.tgt t.pl t.val m.regs).getD r 0 = t.val
          unfold putR
          rw [if_pos a1, ← hh2]
          exact getD_set_self (by rw [h.regsL]; omega)
        · rw [if_neg (by omega)]
          show (putM t.tgt t.pl t.val m.mem).getD r 0 = t.val
          unfold putM
          rw [if_pos a1, ← hh2]
          exact getD_set_self (by rw [h.memL]; omega)
      have hold : oldV t.tgt t.pl t.val m.regs m.mem m.next = cur T r m := by
        unfold cur oldV
        rcases htg with ⟨a1, a2, a3, a4, a5⟩ | ⟨a1, a2, a3⟩
        · rw [if_pos a1, if_pos (show T = 1 by omega), hh2]
        · rw [if_neg (show ¬ t.tgt = 1 by omega), if_pos a1, if_neg (show ¬ T = 1 by omega), hh2]
      by_cases hk : k < i
      · rw [if_pos ⟨hk, hh1, hh2⟩]
        show undoV T r k m.changes.reverse (oldV t.tgt t.pl t.val m.regs m.mem m.next) = lastV (hit T r) (ini T r mem0) ((m.given.set i { t with write := m.cycle }).take (k + 1))
        rw [hold, take_set_lt (by omega)]
        exact h.und T r k hT
      · rw [if_neg (by intro h1; exact hk h1.1), hcur, undoV_none]
        · show t.val = lastV (hit T r) (ini T r mem0) ((m.given.set i { t with write := m.cycle }).take (k + 1))
          refine (lastV_at (i := i) (t := { t with write := m.cycle }) ?_ ?_ ?_).symm
          · rw [List.getElem?_take_of_lt (by omega), List.getElem?_set_self hil]
          · exact decide_eq_true ⟨hcyc, hh1, hh2⟩
          · intro j s hj hs
            rcases Nat.lt_or_ge j (k + 1) with h1 | h1
            · rw [List.getElem?_take_of_lt h1] at hs
              rcases old hs with ⟨rfl, rfl⟩ | ⟨_, hs'⟩
              · omega
              · cases hhs : hit T r s with
                | false => rfl
                | true => exact absurd w4 (h.clash hp hj ht hs' hT' h8 hr w3 hh1 hh2 hhs)
            · rw [List.getElem?_take_eq_none h1] at hs
              exact absurd hs (by simp)
        · intro c hc hcc
          obtain ⟨s, hs, g1, g2, g3⟩ := h.chg c (List.mem_reverse.1 hc)
          have hhs : hit T r s = true := decide_eq_true ⟨g1, by rw [g2]; exact hcc.2.1, by rw [g3]; exact hcc.2.2⟩
          exact absurd w4 (h.clash hp (by omega) ht hs hT' h8 hr w3 hh1 hh2 hhs)
    · rw [if_neg (fun h1 => hh h1.2)]
      have hcur : cur T r (writeT i t m) = cur T r m := by
        unfold cur
        rcases hT' with rfl | rfl
        · rw [if_pos rfl, if_pos rfl]
          show (putR t.tgt t.pl t.val m.regs).getD r 0 = m.regs.getD r 0
          unfold putR
          split
          · rename_i h1
            exact getD_set_ne (fun e => hh ⟨h1, e⟩)
          · rfl
        · rw [if_neg (by omega), if_neg (by omega)]
          show (putM t.tgt t.pl t.val m.mem).getD r 0 = m.mem.getD r 0
          unfold putM
          split
          · rename_i h1
            exact getD_set_ne (fun e => hh ⟨h1, e⟩)
          · rfl
      rw [hcur, h.und T r k hT]
      show _ = lastV (hit T r) (ini T r mem0) ((m.given.set i { t with write := m.cycle }).take (k + 1))
      have n1 : hit T r t = false := decide_eq_false (fun h1 => hh h1.2)
      have n2 : hit T r { t with write := m.cycle } = false := decide_eq_false (fun h1 => hh h1.2)
      rcases Nat.lt_or_ge i (k + 1) with h1 | h1
      · rw [List.take_set]
        refine (lastV_set (t := t) ?_ ?_ ?_).symm
        · rw [List.getElem?_take_of_lt h1]; exact ht
        · rw [n1, n2]
        · exact fun e => absurd (n1.symm.trans e) (by simp)
      · rw [take_set_lt h1]

/-- What an order that may read finds is what it finds one by one. -/
theorem Iv.finds (h : Iv prog l mem0 m) (hp : isProg prog = true) {n : Nat} (hn : n ≤ m.given.length) {r : Nat} (hr : r < 8) (h1 : ∀ (i : Nat) (t : Tk), i < n → m.given[i]? = some t → wrR t.o r → t.write ≠ 0)
    (h2 : ∀ (j : Nat) (s : Tk), n ≤ j → m.given[j]? = some s → wrR s.o r → s.write = 0) : m.regs.getD r 0 = (seqS prog mem0 n).regs.getD r 0 := by
  have hT : ((1 : Int) = 1 ∧ r < 8) ∨ (1 : Int) = 2 := .inl ⟨rfl, hr⟩
  have e1 := h.now hT
  have e2 := h.same hp hT n hn (fun i t hi ht => ⟨fun _ hw => h1 i t hi ht hw, fun e => absurd e (by decide)⟩)
  have e3 : lastV (hit 1 r) (ini 1 r mem0) m.given = lastV (hit 1 r) (ini 1 r mem0) (m.given.take n) := lastV_take fun j s hj hs => by
    cases hh : hit 1 r s with
    | false => rfl
    | true =>
      obtain ⟨k1, k2, k3, k4, k5, k6⟩ := h.hits hs (.inl rfl) hh
      rcases h.target hp hs k2 k3 k4 with ⟨b1, b2, b3, b4, b5⟩ | ⟨b1, b2, b3⟩
      · rw [k6] at b5
        exact absurd (h2 j s hj hs b5) k1
      · omega
  rw [← e2, ← e1] at e3 
  exact e3

theorem Iv.findsM (h : Iv prog l mem0 m) (hp : isProg prog = true) {n : Nat} (hn : n ≤ m.given.length) (h1 : ∀ (i : Nat) (t : Tk), i < n → m.given[i]? = some t → t.o.op = 7 → t.write ≠ 0)
    (h2 : ∀ (j : Nat) (s : Tk), n ≤ j → m.given[j]? = some s → s.o.op = 7 → s.write = 0) : m.mem = (seqS prog mem0 n).mem := by
  refine list_ext_getD (by rw [h.memL, (seqS_len prog mem0 n).2]) fun r _ => ?_
  have hT : ((2 : Int) = 1 ∧ r < 8) ∨ (2 : Int) = 2 := .inr rfl
  have e1 := h.now hT
  have e2 := h.same hp hT n hn (fun i t hi ht => ⟨fun e => absurd e (by decide), fun _ hw => h1 i t hi ht hw⟩)
  have e3 : lastV (hit 2 r) (ini 2 r mem0) m.given = lastV (hit 2 r) (ini 2 r mem0) (m.given.take n) := lastV_take fun j s hj hs => by
    cases hh : hit 2 r s with
    | false => rfl
    | true =>
      obtain ⟨k1, k2, k3, k4, k5, k6⟩ := h.hits hs (.inr rfl) hh
      rcases h.target hp hs k2 k3 k4 with ⟨b1, b2, b3, b4, b5⟩ | ⟨b1, b2, b3⟩
      · omega
      · exact absurd (h2 j s hj hs b2) k1
  rw [← e2, ← e1] at e3
  exact e3
end

end Go.Proofs.YtmeiogoodbnkkaaGreat

/- What holds, holds behind a read, behind a giving out, behind a cycle. -/
namespace Go.Proofs.YtmeiogoodbnkkaaGreat
open Go.RowKit

section
variable {prog : List Ord} {l : List Int} {mem0 : List Int} {m : Mc}

theorem Iv.wrLe (h : Iv prog l mem0 m) {i : Nat} {t : Tk} (ht : m.given[i]? = some t) : t.write ≤ m.cycle := by
  by_cases h0 : t.write = 0
  · omega
  · by_cases h8 : t.o.op = 8
    · have := h.jmp i t ht h8
      have := h.iss i t ht
      omega
    · exact (h.wri i t ht h8 h0).2.2.2

theorem Iv.read (h : Iv prog l mem0 m) (hp : isProg prog = true) (hlt : ∀ (i : Nat) (t : Tk), m.given[i]? = some t → t.issue < m.cycle) {i : Nat} {t : Tk} (ht : m.given[i]? = some t) (hr : t.read = 0) (hw : toWrite m.given m.cycle i (rMask t.o) = false) : Iv prog l mem0 (readT i t m) := by
  have h8 : t.o.op ≠ 8 := by
    intro e
    have := h.jmp i t ht e
    have := h.iss i t ht
    omega
  obtain ⟨u1, u2, u3, u4⟩ := h.unr i t ht hr
  have hil : i < m.given.length := (List.getElem?_eq_some_iff.1 ht).1
  have ho := h.ord hp ht
  have hcyc : m.cycle ≠ 0 := by have := h.iss i t ht; omega
  -- what it finds
  have hfr : ∀ r, r < 8 → rdR t.o r → m.regs.getD r 0 = (seqS prog mem0 i).regs.getD r 0 := fun r hr8 hrd =>
    h.finds hp (by omega) hr8 (fun j s hj hs hwr => (toWrite_no hw hj hs hwr ((rMask_bit _ _).2 hrd)).1) (fun j s hj hs hwr => by
      rcases Nat.lt_or_ge i j with h1 | h1
      · cases h0 : s.write with
        | zero => rfl
        | succ n => exact absurd hr (h.war i j t s r h1 ht hs hrd hwr (by omega)).1
      · have : j = i := by omega
        subst this
        rw [ht] at hs
        injection hs with hs
        rw [← hs]
        exact u2)
  have hfm : kindOf t.o.op = 3 → m.mem = (seqS prog mem0 i).mem := fun hk =>
    h.findsM hp (by omega) (fun j s hj hs h7 => (h.mem j i s t hj hs ht ((kind3_iff _).2 (.inr h7)) hk).1) (fun j s hj hs h7 => by
      rcases Nat.lt_or_ge i j with h1 | h1
      · exact absurd u2 (h.mem i j t s h1 ht hs hk ((kind3_iff _).2 (.inr h7))).1
      · have : j = i := by omega
        subst this
        rw [ht] at hs
        injection hs with hs
        rw [← hs]
        exact u2)
  have hwk : wk t.o t.number (m.regs.getD t.o.a.toNat 0) (m.regs.getD t.o.b.toNat 0) m.mem = wk t.o t.number ((seqS prog mem0 i).regs.getD t.o.a.toNat 0) ((seqS prog mem0 i).regs.getD t.o.b.toNat 0) (seqS prog mem0 i).mem :=
    wk_congr (by omega) (by omega) (fun ha => hfr _ (by omega) (.inl ⟨ha, rfl⟩)) (fun hb => hfr _ (by omega) (.inr ⟨hb, rfl⟩)) hfm
  obtain ⟨t', ht'⟩ : ∃ t' : Tk, t' = { t with read := m.cycle, done := m.cycle + (m.lat.getD (kindOf t.o.op).toNat 0).toNat, tgt := (wk t.o t.number (m.regs.getD t.o.a.toNat 0) (m.regs.getD t.o.b.toNat 0) m.mem).1, pl := (wk t.o t.number (m.regs.getD t.o.a.toNat 0) (m.regs.getD t.o.b.toNat 0) m.mem).2.1, val := (wk t.o t.number (m.regs.getD t.o.a.toNat 0) (m.regs.getD t.o.b.toNat 0) m.mem).2.2.1, trap := (wk t.o t.number (m.regs.getD t.o.a.toNat 0) (m.regs.getD t.o.b.toNat 0) m.mem).2.2.2 } := ⟨_, rfl⟩
  have eT : readT i t m = { m with given := m.given.set i t' } := by rw [ht']; rfl
  have q1 : t'.o = t.o := by rw [ht']
  have q2 : t'.number = t.number := by rw [ht']
  have q3 : t'.issue = t.issue := by rw [ht']
  have q4 : t'.write = 0 := by rw [ht']; exact u2
  have q5 : t'.read = m.cycle := by rw [ht']
  have q6 : t'.done = m.cycle + (l.getD (kindOf t.o.op).toNat 0).toNat := by rw [ht', ← h.lat]
  have q7 : (t'.tgt, t'.pl, t'.val, t'.trap) = wk t.o t.number ((seqS prog mem0 i).regs.getD t.o.a.toNat 0) ((seqS prog mem0 i).regs.getD t.o.b.toNat 0) (seqS prog mem0 i).mem := by rw [ht', ← hwk]
  clear ht'
  rw [eT]
  have old : ∀ {j : Nat} {s : Tk}, (m.given.set i t')[j]? = some s → (j = i ∧ s = t') ∨ (j ≠ i ∧ m.given[j]? = some s) := fun hs => by
    rcases set_at hs with ⟨h1, h2, _⟩ | h1
    · exact .inl ⟨h1, h2⟩
    · exact .inr h1
  refine { lat := h.lat, regsL := h.regsL, memL := h.memL, path := ?_, next := ?_, ended := h.ended, iss := ?_, inc := ?_, jmp := ?_, unr := ?_, rdn := ?_, eff := ?_, wri := ?_, raw := ?_, war := ?_, waw := ?_, mem := ?_, chg := ?_, und := ?_ }
  · intro j s hs
    rcases old hs with ⟨rfl, rfl⟩ | ⟨_, hs'⟩
    · rw [q1, q2]; exact h.path j t ht
    · exact h.path j s hs'
  · show m.next = (seqS prog mem0 (m.given.set i t').length).next
    rw [List.length_set]
    exact h.next
  · intro j s hs
    rcases old hs with ⟨rfl, rfl⟩ | ⟨_, hs'⟩
    · rw [q3]; exact h.iss j t ht
    · exact h.iss j s hs'
  · intro j k s u hjk hs hu
    rcases old hs with ⟨rfl, rfl⟩ | ⟨_, hs'⟩
    · rcases old hu with ⟨rfl, rfl⟩ | ⟨_, hu'⟩
      · omega
      · rw [q3]; exact h.inc j k t u hjk ht hu'
    · rcases old hu with ⟨rfl, rfl⟩ | ⟨_, hu'⟩
      · rw [q3]; exact h.inc j k s t hjk hs' ht
      · exact h.inc j k s u hjk hs' hu'
  · intro j s hs e
    rcases old hs with ⟨rfl, rfl⟩ | ⟨_, hs'⟩
    · rw [q1] at e; exact absurd e h8
    · exact h.jmp j s hs' e
  · intro j s hs e
    rcases old hs with ⟨rfl, rfl⟩ | ⟨_, hs'⟩
    · rw [q5] at e; exact absurd e hcyc
    · exact h.unr j s hs' e
  · intro j s hs e1 e2
    rcases old hs with ⟨rfl, rfl⟩ | ⟨_, hs'⟩
    · rw [q3, q5, q6, q1]; exact ⟨hlt j t ht, Nat.le_refl _, rfl⟩
    · exact h.rdn j s hs' e1 e2
  · intro j s hs e1 e2
    rcases old hs with ⟨rfl, rfl⟩ | ⟨_, hs'⟩
    · rw [q7, q1, q2]
    · exact h.eff j s hs' e1 e2
  · intro j s hs e1 e2
    rcases old hs with ⟨rfl, rfl⟩ | ⟨_, hs'⟩
    · exact absurd q4 e2
    · exact h.wri j s hs' e1 e2
  · intro j k s u r hjk hs hu h1 h2 h3
    rcases old hs with ⟨rfl, rfl⟩ | ⟨_, hs'⟩
    · rcases old hu with ⟨rfl, rfl⟩ | ⟨_, hu'⟩
      · omega
      · rw [q1] at h1
        have := h.raw j k t u r hjk ht hu' h1 h2 h3
        omega
    · rcases old hu with ⟨rfl, rfl⟩ | ⟨_, hu'⟩
      · rw [q1] at h2
        have := toWrite_no hw hjk hs' h1 ((rMask_bit _ _).2 h2)
        have := h.wrLe hs'
        rw [q5]
        omega
      · exact h.raw j k s u r hjk hs' hu' h1 h2 h3
  · intro j k s u r hjk hs hu h1 h2 h3
    rcases old hs with ⟨rfl, rfl⟩ | ⟨_, hs'⟩
    · rcases old hu with ⟨rfl, rfl⟩ | ⟨_, hu'⟩
      · omega
      · rw [q1] at h1
        exact absurd hr (h.war j k t u r hjk ht hu' h1 h2 h3).1
    · rcases old hu with ⟨rfl, rfl⟩ | ⟨_, hu'⟩
      · exact absurd q4 h3
      · exact h.war j k s u r hjk hs' hu' h1 h2 h3
  · intro j k s u r hjk hs hu h1 h2
    rcases old hs with ⟨rfl, rfl⟩ | ⟨_, hs'⟩
    · rcases old hu with ⟨rfl, rfl⟩ | ⟨_, hu'⟩
      · omega
      · rw [q1] at h1
        have := h.waw j k t u r hjk ht hu' h1 h2
        omega
    · rcases old hu with ⟨rfl, rfl⟩ | ⟨_, hu'⟩
      · rw [q1] at h2
        rw [q3]
        exact h.waw j k s t r hjk hs' ht h1 h2
      · exact h.waw j k s u r hjk hs' hu' h1 h2
  · intro j k s u hjk hs hu h1 h2
    rcases old hs with ⟨rfl, rfl⟩ | ⟨_, hs'⟩
    · rcases old hu with ⟨rfl, rfl⟩ | ⟨_, hu'⟩
      · omega
      · rw [q1] at h1
        have := h.mem j k t u hjk ht hu' h1 h2
        omega
    · rcases old hu with ⟨rfl, rfl⟩ | ⟨_, hu'⟩
      · rw [q1] at h2
        rw [q3]
        exact h.mem j k s t hjk hs' ht h1 h2
      · exact h.mem j k s u hjk hs' hu' h1 h2
  · intro c hc
    obtain ⟨s, hs, h1, h2, h3⟩ := h.chg c hc
    have hne : i ≠ c.place := fun e => by
      rw [← e, ht] at hs
      injection hs with hs
      rw [← hs] at h1
      exact h1 u2
    exact ⟨s, by show (m.given.set i t')[c.place]? = some s; rw [List.getElem?_set_ne hne]; exact hs, h1, h2, h3⟩
  · intro T r k hT
    show undoV T r k m.changes.reverse (cur T r m) = lastV (hit T r) (ini T r mem0) ((m.given.set i t').take (k + 1))
    rw [h.und T r k hT]
    have n1 : hit T r t = false := decide_eq_false (fun h1 => h1.1 u2)
    have n2 : hit T r t' = false := decide_eq_false (fun h1 => h1.1 q4)
    rcases Nat.lt_or_ge i (k + 1) with h1 | h1
    · rw [List.take_set]
      refine (lastV_set (t := t) ?_ ?_ ?_).symm
      · rw [List.getElem?_take_of_lt h1]; exact ht
      · rw [n1, n2]
      · exact fun e => absurd (n1.symm.trans e) (by simp)
    · rw [take_set_lt h1]

/-- An order is given out. -/
theorem Iv.give (h : Iv prog l mem0 m) (hlt : ∀ (i : Nat) (t : Tk), m.given[i]? = some t → t.issue < m.cycle) (hend : m.ended = false) {x : Tk} {n' : Nat}
    (h1 : x.o = prog.getD m.next Ord.none) (h2 : x.number = m.next) (h3 : x.o.op ≠ 0) (h4 : x.issue = m.cycle) (hc : 1 ≤ m.cycle) (hn : n' = (seqS prog mem0 (m.given.length + 1)).next)
    (hw : x.tgt = 0 ∧ x.trap = 0) (h8 : x.o.op = 8 → x.read = m.cycle ∧ x.done = m.cycle ∧ x.write = m.cycle) (h0 : x.o.op ≠ 8 → x.read = 0 ∧ x.done = 0 ∧ x.write = 0)
    (hraw : x.o.op = 8 → ∀ (i : Nat) (t : Tk) (r : Nat), m.given[i]? = some t → wrR t.o r → rdR x.o r → t.write ≠ 0 ∧ t.write < m.cycle)
    (hwaw : x.o.op ≠ 8 → ∀ (i : Nat) (t : Tk) (r : Nat), m.given[i]? = some t → wrR t.o r → wrR x.o r → t.write ≠ 0 ∧ t.write < m.cycle)
    (hmem : x.o.op ≠ 8 → ∀ (i : Nat) (t : Tk), m.given[i]? = some t → kindOf t.o.op = 3 → kindOf x.o.op = 3 → t.write ≠ 0 ∧ t.write < m.cycle) :
    Iv prog l mem0 { m with given := m.given ++ [x], next := n' } := by
  have old : ∀ {j : Nat} {s : Tk}, (m.given ++ [x])[j]? = some s → (j = m.given.length ∧ s = x) ∨ (j < m.given.length ∧ m.given[j]? = some s) := fun {j s} hs => by
    rcases Nat.lt_or_ge j m.given.length with h1 | h1
    · rw [List.getElem?_append_left h1] at hs; exact .inr ⟨h1, hs⟩
    · rw [List.getElem?_append_right h1] at hs
      have hq : j - m.given.length = 0 := by
        cases hq : j - m.given.length with
        | zero => rfl
        | succ q => rw [hq] at hs; simp at hs
      rw [hq] at hs
      exact .inl ⟨by omega, by simpa using hs.symm⟩
  have hw8 : x.o.op = 8 → wrD x.o.op = false := fun e => by rw [e]; rfl
  refine { lat := h.lat, regsL := h.regsL, memL := h.memL, path := ?_, next := ?_, ended := ?_, iss := ?_, inc := ?_, jmp := ?_, unr := ?_, rdn := ?_, eff := ?_, wri := ?_, raw := ?_, war := ?_, waw := ?_, mem := ?_, chg := ?_, und := ?_ }
  · intro j s hs
    rcases old hs with ⟨rfl, rfl⟩ | ⟨_, hs'⟩
    · rw [← h.next]; exact ⟨h2, h1, h3⟩
    · exact h.path j s hs'
  · show n' = (seqS prog mem0 (m.given ++ [x]).length).next
    rw [List.length_append]
    exact hn
  · intro e
    rw [show m.ended = true from e] at hend
    exact absurd hend (by simp)
  · intro j s hs
    rcases old hs with ⟨rfl, rfl⟩ | ⟨_, hs'⟩
    · rw [h4]; exact ⟨hc, Nat.le_refl _⟩
    · exact h.iss j s hs'
  · intro j k s u hjk hs hu
    rcases old hs with ⟨e1, rfl⟩ | ⟨l1, hs'⟩
    · rcases old hu with ⟨e2, rfl⟩ | ⟨l2, hu'⟩
      · omega
      · omega
    · rcases old hu with ⟨e2, rfl⟩ | ⟨l2, hu'⟩
      · rw [h4]; exact hlt j s hs'
      · exact h.inc j k s u hjk hs' hu'
  · intro j s hs e
    rcases old hs with ⟨e1, rfl⟩ | ⟨_, hs'⟩
    · have := h8 e
      rw [h4]
      exact ⟨this.1, this.2.1, this.2.2, hw⟩
    · exact h.jmp j s hs' e
  · intro j s hs e
    rcases old hs with ⟨e1, rfl⟩ | ⟨_, hs'⟩
    · by_cases e8 : s.o.op = 8
      · have := h8 e8
        omega
      · have := h0 e8
        exact ⟨this.2.1, this.2.2, hw⟩
    · exact h.unr j s hs' e
  · intro j s hs e1 e2
    rcases old hs with ⟨_, rfl⟩ | ⟨_, hs'⟩
    · exact absurd (h0 e1).1 e2
    · exact h.rdn j s hs' e1 e2
  · intro j s hs e1 e2
    rcases old hs with ⟨_, rfl⟩ | ⟨_, hs'⟩
    · exact absurd (h0 e1).1 e2
    · exact h.eff j s hs' e1 e2
  · intro j s hs e1 e2
    rcases old hs with ⟨_, rfl⟩ | ⟨_, hs'⟩
    · exact absurd (h0 e1).2.2 e2
    · exact h.wri j s hs' e1 e2
  · intro j k s u r hjk hs hu g1 g2 g3
    rcases old hs with ⟨e1, rfl⟩ | ⟨l1, hs'⟩
    · rcases old hu with ⟨e2, rfl⟩ | ⟨l2, hu'⟩
      · omega
      · omega
    · rcases old hu with ⟨e2, rfl⟩ | ⟨l2, hu'⟩
      · by_cases e8 : u.o.op = 8
        · rw [(h8 e8).1]; exact hraw e8 j s r hs' g1 g2
        · exact absurd (h0 e8).1 g3
      · exact h.raw j k s u r hjk hs' hu' g1 g2 g3
  · intro j k s u r hjk hs hu g1 g2 g3
    rcases old hs with ⟨e1, rfl⟩ | ⟨l1, hs'⟩
    · rcases old hu with ⟨e2, rfl⟩ | ⟨l2, hu'⟩
      · omega
      · omega
    · rcases old hu with ⟨e2, rfl⟩ | ⟨l2, hu'⟩
      · by_cases e8 : u.o.op = 8
        · exact absurd (g2.1.symm.trans (hw8 e8)) (by simp)
        · exact absurd (h0 e8).2.2 g3
      · exact h.war j k s u r hjk hs' hu' g1 g2 g3
  · intro j k s u r hjk hs hu g1 g2
    rcases old hs with ⟨e1, rfl⟩ | ⟨l1, hs'⟩
    · rcases old hu with ⟨e2, rfl⟩ | ⟨l2, hu'⟩
      · omega
      · omega
    · rcases old hu with ⟨e2, rfl⟩ | ⟨l2, hu'⟩
      · by_cases e8 : u.o.op = 8
        · exact absurd (g2.1.symm.trans (hw8 e8)) (by simp)
        · rw [h4]; exact hwaw e8 j s r hs' g1 g2
      · exact h.waw j k s u r hjk hs' hu' g1 g2
  · intro j k s u hjk hs hu g1 g2
    rcases old hs with ⟨e1, rfl⟩ | ⟨l1, hs'⟩
    · rcases old hu with ⟨e2, rfl⟩ | ⟨l2, hu'⟩
      · omega
      · omega
    · rcases old hu with ⟨e2, rfl⟩ | ⟨l2, hu'⟩
      · by_cases e8 : u.o.op = 8
        · rw [kind3_iff] at g2
          omega
        · rw [h4]; exact hmem e8 j s hs' g1 g2
      · exact h.mem j k s u hjk hs' hu' g1 g2
  · intro c hc
    obtain ⟨s, hs, g⟩ := h.chg c hc
    exact ⟨s, by show (m.given ++ [x])[c.place]? = some s; rw [List.getElem?_append_left (List.getElem?_eq_some_iff.1 hs).1]; exact hs, g⟩
  · intro T r k hT
    show undoV T r k m.changes.reverse (cur T r m) = lastV (hit T r) (ini T r mem0) ((m.given ++ [x]).take (k + 1))
    rw [h.und T r k hT]
    rcases Nat.lt_or_ge m.given.length (k + 1) with g1 | g1
    · rw [List.take_of_length_le (by omega), List.take_of_length_le (by simp; omega), lastV_append]
      have : hit T r x = false := decide_eq_false (fun e => by omega)
      rw [this]
      rfl
    · rw [List.take_append_of_le_length g1]
end

end Go.Proofs.YtmeiogoodbnkkaaGreat

/- What holds, from cycle to cycle. -/
namespace Go.Proofs.YtmeiogoodbnkkaaGreat
open Go.RowKit

structure Jv (prog : List Ord) (u l : List Int) (b : Int) (mem0 : List Int) (m : Mc) : Prop where
  iv : Iv prog l mem0 m
  units : m.units = u
  buses : m.buses = b
  shn : m.shown = true → ∃ t, m.given[m.counts]? = some t ∧ t.trap ≠ 0

/-- Within a cycle, ahead of the giving out. -/
structure Kv (prog : List Ord) (u l : List Int) (b : Int) (mem0 : List Int) (m : Mc) : Prop where
  jv : Jv prog u l b mem0 m
  lt : ∀ (i : Nat) (t : Tk), m.given[i]? = some t → t.issue < m.cycle
  pos : 1 ≤ m.cycle

section
variable {prog : List Ord} {u l : List Int} {b : Int} {mem0 : List Int} {m : Mc}

theorem Jv.tick (h : Jv prog u l b mem0 m) : Kv prog u l b mem0 { m with cycle := m.cycle + 1 } :=
  ⟨⟨h.iv.tick, h.units, h.buses, h.shn⟩, fun i t ht => Nat.lt_succ_of_le (h.iv.iss i t ht).2, Nat.succ_le_succ (Nat.zero_le _)⟩

theorem Kv.writeT (h : Kv prog u l b mem0 m) (hp : isProg prog = true) {i : Nat} {t : Tk} (ht : m.given[i]? = some t) (hw : mayW m.given m.cycle i t = true) : Kv prog u l b mem0 (writeT i t m) := by
  obtain ⟨w1, w2, w3, w4, w5⟩ := mayW_all hw
  refine ⟨⟨h.jv.iv.write hp ht hw, h.jv.units, h.jv.buses, fun hs => ?_⟩, fun j s hs => ?_, h.pos⟩
  · obtain ⟨s, hs, hs0⟩ := h.jv.shn hs
    have hne : i ≠ m.counts := fun e => by
      rw [← e, ht] at hs
      injection hs with hs
      rw [← hs] at hs0
      exact hs0 w3
    exact ⟨s, by show (m.given.set i _)[m.counts]? = some s; rw [List.getElem?_set_ne hne]; exact hs, hs0⟩
  · rcases set_at hs with ⟨rfl, rfl, _⟩ | ⟨_, hs'⟩
    · exact h.lt j t ht
    · exact h.lt j s hs'

theorem Kv.readT (h : Kv prog u l b mem0 m) (hp : isProg prog = true) {i : Nat} {t : Tk} (ht : m.given[i]? = some t) (hr : t.read = 0) (hw : toWrite m.given m.cycle i (rMask t.o) = false) : Kv prog u l b mem0 (readT i t m) := by
  refine ⟨⟨h.jv.iv.read hp h.lt ht hr hw, h.jv.units, h.jv.buses, fun hs => ?_⟩, fun j s hs => ?_, h.pos⟩
  · obtain ⟨s, hs, hs0⟩ := h.jv.shn hs
    have hne : i ≠ m.counts := fun e => by
      rw [← e, ht] at hs
      injection hs with hs
      rw [← hs] at hs0
      exact hs0 (h.jv.iv.unr i t ht hr).2.2.2
    exact ⟨s, by show (m.given.set i _)[m.counts]? = some s; rw [List.getElem?_set_ne hne]; exact hs, hs0⟩
  · rcases set_at hs with ⟨rfl, rfl, _⟩ | ⟨_, hs'⟩
    · exact h.lt j t ht
    · exact h.lt j s hs'

theorem Kv.writesOne {n : Int} (h : Kv prog u l b mem0 m) (hp : isProg prog = true) (i : Nat) : Kv prog u l b mem0 (writesOne (n, m) i).2 := by
  unfold Go.Proofs.YtmeiogoodbnkkaaGreat.writesOne
  split
  · exact h
  · rename_i t ht
    split
    · rename_i hw
      split
      · exact h.writeT hp ht hw
      · split
        · exact h
        · exact h.writeT hp ht hw
    · exact h

theorem Kv.writes (h : Kv prog u l b mem0 m) (hp : isProg prog = true) : Kv prog u l b mem0 (writesM m) := by
  have key : ∀ (L : List Nat) (s : Int × Mc), Kv prog u l b mem0 s.2 → Kv prog u l b mem0 (L.foldl Go.Proofs.YtmeiogoodbnkkaaGreat.writesOne s).2 := by
    intro L
    induction L with
    | nil => exact fun _ h => h
    | cons i L ih => exact fun s h => ih _ (h.writesOne hp i)
  exact key _ (m.buses, m) h

theorem Kv.readsOne (h : Kv prog u l b mem0 m) (hp : isProg prog = true) (i : Nat) : Kv prog u l b mem0 (readsOne m i) := by
  unfold Go.Proofs.YtmeiogoodbnkkaaGreat.readsOne
  split
  · exact h
  · rename_i t ht
    split
    · rename_i hw
      exact h.readT hp ht hw.1 hw.2
    · exact h

theorem Kv.reads (h : Kv prog u l b mem0 m) (hp : isProg prog = true) : Kv prog u l b mem0 (readsM m) := by
  have key : ∀ (L : List Nat) (s : Mc), Kv prog u l b mem0 s → Kv prog u l b mem0 (L.foldl Go.Proofs.YtmeiogoodbnkkaaGreat.readsOne s) := by
    intro L
    induction L with
    | nil => exact fun _ h => h
    | cons i L ih => exact fun s h => ih _ (h.readsOne hp i)
  exact key _ m h

theorem step_next (o : Ord) (s : St) (h : o.op ≠ 8) : (stepT o s).next = s.next + 1 := by
  unfold stepT doOne
  dsimp only
  rw [if_neg h]
  repeat' split
  all_goals first | rfl | contradiction

theorem step_jump (o : Ord) (s : St) (h : o.op = 8) : (stepT o s).next = if s.regs.getD o.a.toNat 0 = 0 then o.k.toNat else s.next + 1 := by
  unfold stepT doOne
  dsimp only
  rw [if_pos h]
  rfl

theorem freeU_all {kind : Int} (h : freeU m kind = true) (hu : m.units.getD kind.toNat 0 = 1) {i : Nat} {t : Tk} (ht : m.given[i]? = some t) (hk : kindOf t.o.op = kind) : t.write ≠ 0 ∧ t.write ≠ m.cycle := by
  have h1 := of_decide_eq_true h
  rw [hu] at h1
  have h2 : (m.given.filter fun t => decide (kindOf t.o.op = kind) && opensT m.cycle t).length = 0 := by omega
  have h3 := List.filter_eq_nil_iff.1 (List.length_eq_zero_iff.1 h2) t (List.mem_of_getElem? ht)
  rw [decide_eq_true hk, Bool.true_and] at h3
  unfold opensT at h3
  have := of_decide_eq_false (by simpa using h3 : decide (t.write = 0 ∨ t.write = m.cycle) = false)
  omega

theorem Kv.issue (h : Kv prog u l b mem0 m) (hp : isProg prog = true) (hu : u.getD 3 0 = 1) : Jv prog u l b mem0 (issueM prog m) := by
  unfold issueM
  dsimp only
  split
  · exact h.jv
  · rename_i hes
    have hend : m.ended = false := by
      cases e : m.ended with
      | false => rfl
      | true => rw [e] at hes; simp at hes
    have hsh : m.shown = false := by
      cases e : m.shown with
      | false => rfl
      | true => rw [e] at hes; simp at hes
    split
    · rename_i h0
      refine ⟨?_, h.jv.units, h.jv.buses, h.jv.shn⟩
      have g := h.jv.iv
      exact ⟨g.lat, g.regsL, g.memL, g.path, g.next, fun _ => h0, g.iss, g.inc, g.jmp, g.unr, g.rdn, g.eff, g.wri, g.raw, g.war, g.waw, g.mem, g.chg, g.und⟩
    · rename_i h0
      have hord := prog_ord hp h0
      have hsp := isOrd_spec hord.2
      split
      · rename_i h8
        split
        · exact h.jv
        · rename_i hw
          have hw' : toWrite m.given m.cycle m.given.length (rMask (prog.getD m.next Ord.none)) = false := by simpa using hw
          have hcl : 1 ≤ m.cycle := h.pos
          refine ⟨?_, h.jv.units, h.jv.buses, fun e => absurd (hsh.symm.trans e) (by simp)⟩
          refine h.jv.iv.give h.lt hend rfl rfl h0 rfl hcl ?_ ⟨rfl, rfl⟩ (fun _ => ⟨rfl, rfl, rfl⟩) (fun e => absurd h8 e) (fun _ i t r ht hwr hrd => ?_) (fun e => absurd h8 e) (fun e => absurd h8 e)
          · show _ = (stepT (prog.getD (seqS prog mem0 m.given.length).next Ord.none) (seqS prog mem0 m.given.length)).next
            rw [← h.jv.iv.next, step_jump _ _ h8, ← h.jv.iv.next]
            have hfi := h.jv.iv.finds hp (Nat.le_refl _) (r := (prog.getD m.next Ord.none).a.toNat) (by omega) (fun i t hi ht hwr => (toWrite_no hw' hi ht hwr ((rMask_bit _ _).2 (.inl ⟨by rw [h8]; rfl, rfl⟩))).1) (fun j s hj hs _ => by
              have := (List.getElem?_eq_some_iff.1 hs).1
              omega)
            rw [hfi]
          · have := toWrite_no hw' (List.getElem?_eq_some_iff.1 ht).1 ht hwr ((rMask_bit _ _).2 hrd)
            have := h.jv.iv.wrLe ht
            omega
      · rename_i h8
        split
        · exact h.jv
        · rename_i hw
          have hw1 : freeU m (kindOf (prog.getD m.next Ord.none).op) = true := by
            cases e : freeU m (kindOf (prog.getD m.next Ord.none).op) with
            | true => rfl
            | false => exact absurd (.inl e) hw
          have hw' : toWrite m.given m.cycle m.given.length (wMask (prog.getD m.next Ord.none)) = false := by
            cases e : toWrite m.given m.cycle m.given.length (wMask (prog.getD m.next Ord.none)) with
            | false => rfl
            | true => exact absurd (.inr e) hw
          have hcl : 1 ≤ m.cycle := h.pos
          refine ⟨?_, h.jv.units, h.jv.buses, fun e => absurd (hsh.symm.trans e) (by simp)⟩
          refine h.jv.iv.give h.lt hend rfl rfl h0 rfl hcl ?_ ⟨rfl, rfl⟩ (fun e => absurd e h8) (fun _ => ⟨rfl, rfl, rfl⟩) (fun e => absurd e h8) (fun _ i t r ht hwr hrd => ?_) (fun _ i t ht hk1 hk2 => ?_)
          · show m.next + 1 = (stepT (prog.getD (seqS prog mem0 m.given.length).next Ord.none) (seqS prog mem0 m.given.length)).next
            rw [← h.jv.iv.next, step_next _ _ h8, ← h.jv.iv.next]
          · have := toWrite_no hw' (List.getElem?_eq_some_iff.1 ht).1 ht hwr ((wMask_bit _ _).2 hrd)
            have := h.jv.iv.wrLe ht
            omega
          · have hk2' : kindOf (prog.getD m.next Ord.none).op = 3 := hk2
            have := freeU_all hw1 (by rw [hk2', h.jv.units]; exact hu) ht (by rw [hk1, hk2'])
            have := h.jv.iv.wrLe ht
            omega

theorem firstShown_spec {g : List Tk} {cyc i : Nat} (h : firstShown g cyc = some i) : ∃ t, g[i]? = some t ∧ t.trap ≠ 0 ∧ t.done ≤ cyc := by
  unfold firstShown at h
  have h1 := List.find?_some h
  revert h1
  cases e : g[i]? with
  | none => intro h1; simp at h1
  | some t => intro h1; exact ⟨t, rfl, of_decide_eq_true h1⟩

theorem Jv.show (h : Jv prog u l b mem0 m) : Jv prog u l b mem0 (showM m) := by
  unfold showM
  split
  · exact h
  · rename_i i hi
    obtain ⟨t, h1, h2, h3⟩ := firstShown_spec hi
    have g := h.iv
    exact ⟨⟨g.lat, g.regsL, g.memL, g.path, g.next, g.ended, g.iss, g.inc, g.jmp, g.unr, g.rdn, g.eff, g.wri, g.raw, g.war, g.waw, g.mem, g.chg, g.und⟩, h.units, h.buses, fun _ => ⟨t, h1, h2⟩⟩

theorem Jv.cycle (h : Jv prog u l b mem0 m) (hp : isProg prog = true) (hu : u.getD 3 0 = 1) : Jv prog u l b mem0 (cycleM prog m) :=
  Jv.show (Kv.issue (Kv.reads (Kv.writes h.tick hp) hp) hp hu)

theorem Jv.start (prog : List Ord) (u l : List Int) (b : Int) (mem0 : List Int) : Jv prog u l b mem0 (startM u l b mem0) := by
  refine ⟨?_, rfl, rfl, fun e => absurd e (by simp [startM])⟩
  refine { lat := rfl, regsL := rfl, memL := rfl, path := ?_, next := rfl, ended := ?_, iss := ?_, inc := ?_, jmp := ?_, unr := ?_, rdn := ?_, eff := ?_, wri := ?_, raw := ?_, war := ?_, waw := ?_, mem := ?_, chg := ?_, und := ?_ }
  · intro i t ht; simp [startM] at ht
  · intro e; simp [startM] at e
  · intro i t ht; simp [startM] at ht
  · intro i j t s _ ht; simp [startM] at ht
  · intro i t ht; simp [startM] at ht
  · intro i t ht; simp [startM] at ht
  · intro i t ht; simp [startM] at ht
  · intro i t ht; simp [startM] at ht
  · intro i t ht; simp [startM] at ht
  · intro i j t s r _ ht; simp [startM] at ht
  · intro i j t s r _ ht; simp [startM] at ht
  · intro i j t s r _ ht; simp [startM] at ht
  · intro i j t s _ ht; simp [startM] at ht
  · intro c hc; simp [startM] at hc
  · intro T r k hT
    rcases hT with ⟨rfl, hr⟩ | rfl
    · have h8 : r = 0 ∨ r = 1 ∨ r = 2 ∨ r = 3 ∨ r = 4 ∨ r = 5 ∨ r = 6 ∨ r = 7 := by omega
      rcases h8 with rfl | rfl | rfl | rfl | rfl | rfl | rfl | rfl <;> rfl
    · rfl
end

end Go.Proofs.YtmeiogoodbnkkaaGreat
