/- Several texts in one: BQ, BG, BH. -/
import Derived.Test.YtmeiogoodbnkkaaGreatCBPBF
import Derived.Maps.AppendAt
import Derived.Deep.AppendLies
import Derived.Test.YtmeiogoodbnkkaaGreatCUH3
/- The document's turn of the writes: first who may, then the writing. -/
namespace Go.Proofs.YtmeiogoodbnkkaaGreat
open Go.RowKit

def keyW (t : Tk) : Ord × Nat := (t.o, t.read)

theorem toRead_key {g g' : List Tk} (h : g.map keyW = g'.map keyW) (i mask : Nat) : toRead g i mask = toRead g' i mask := by
  have e : ∀ l : List Tk, toRead l i mask = ((l.map keyW).take i).any fun k => decide (k.2 = 0) && meets (rMask k.1) mask := fun l => by
    unfold toRead
    rw [← List.map_take, List.any_map]
    rfl
  rw [e, e, h]

theorem key_set {g : List Tk} {i : Nat} {t t' : Tk} (ht : g[i]? = some t) (hk : keyW t' = keyW t) : (g.set i t').map keyW = g.map keyW := by
  rw [List.map_set, hk]
  refine List.ext_getElem? fun j => ?_
  by_cases e : i = j
  · subst e
    have hi : i < (g.map keyW).length := by have := (List.getElem?_eq_some_iff.1 ht).1; simpa using this
    rw [List.getElem?_set_self hi]
    simp [ht]
  · rw [List.getElem?_set_ne e]

/-- May the order at the place? -/
def mayAt (m : Mc) (i : Nat) : Bool := match m.given[i]? with | some t => mayW m.given m.cycle i t | none => false
/-- Those of the first n that may. -/
def selN (m : Mc) (n : Nat) : List Nat := (List.range n).filter (mayAt m)

def writesSel (s : Int × Mc) (i : Nat) : Int × Mc :=
  match s.2.given[i]? with
  | none => s
  | some t => if t.o.op = 7 then (s.1, writeT i t s.2) else if 0 < s.1 then (s.1 - 1, writeT i t s.2) else s

theorem selN_succ (m : Mc) (n : Nat) : selN m (n + 1) = selN m n ++ (if mayAt m n = true then [n] else []) := by
  unfold selN
  rw [List.range_succ, List.filter_append, List.filter_cons]
  split <;> simp

theorem sel_mem {m : Mc} {n i : Nat} (h : i ∈ selN m n) : i < n ∧ mayAt m i = true := by
  unfold selN at h
  rw [List.mem_filter, List.mem_range] at h
  exact h

theorem sel_at : ∀ (n : Nat) {m : Mc} {j i : Nat}, (selN m n)[j]? = some i → ∀ q ∈ (selN m n).take j, q < i
  | 0, m, j, i, h, q, hq => by simp [selN] at h
  | n + 1, m, j, i, h, q, hq => by
    rw [selN_succ] at h hq
    rcases Nat.lt_or_ge j (selN m n).length with hj | hj
    · rw [List.getElem?_append_left hj] at h
      rw [List.take_append_of_le_length (by omega)] at hq
      exact sel_at n h q hq
    · rw [List.getElem?_append_right hj] at h
      by_cases hm : mayAt m n = true
      · rw [if_pos hm] at h hq
        have hj0 : j = (selN m n).length := by
          rcases Nat.eq_zero_or_pos (j - (selN m n).length) with h0 | h0
          · omega
          · rw [List.getElem?_eq_none (by simp; omega)] at h; cases h
        subst hj0
        have hi : i = n := by simpa using h.symm
        rw [List.take_left'  rfl] at hq
        rw [hi]
        exact (sel_mem hq).1
      · rw [if_neg hm] at h; simp at h

/-- What the writing keeps. -/
structure Sv (m : Mc) (s : Int × Mc) : Prop where
  key : s.2.given.map keyW = m.given.map keyW
  cyc : s.2.cycle = m.cycle
  lo : 0 ≤ s.1

theorem Sv.len {m : Mc} {s : Int × Mc} (h : Sv m s) : s.2.given.length = m.given.length := by
  have := congrArg List.length h.key
  simpa using this

theorem Sv.sel {m : Mc} {s : Int × Mc} (h : Sv m s) (i : Nat) : Sv m (writesSel s i) := by
  unfold writesSel
  split
  · exact h
  · rename_i t ht
    have hk : (writeT i t s.2).given.map keyW = m.given.map keyW := (key_set (t' := { t with write := s.2.cycle }) ht rfl).trans h.key
    split
    · exact ⟨hk, h.cyc, h.lo⟩
    · split
      · exact ⟨hk, h.cyc, by have := h.lo; simp only; omega⟩
      · exact h

theorem Sv.fold {m : Mc} : ∀ (l : List Nat) {s : Int × Mc}, Sv m s → Sv m (l.foldl writesSel s)
  | [], _, h => h
  | i :: l, _, h => Sv.fold l (h.sel i)

theorem sel_keeps {s : Int × Mc} {i j : Nat} (hne : i ≠ j) : (writesSel s i).2.given[j]? = s.2.given[j]? := by
  unfold writesSel
  split
  · rfl
  · split
    · exact List.getElem?_set_ne hne
    · split
      · exact List.getElem?_set_ne hne
      · rfl

theorem fold_keeps {j : Nat} : ∀ (l : List Nat) {s : Int × Mc}, (∀ q ∈ l, q ≠ j) → (l.foldl writesSel s).2.given[j]? = s.2.given[j]?
  | [], _, _ => rfl
  | i :: l, s, h => by
    rw [List.foldl_cons, fold_keeps l (fun q hq => h q (List.mem_cons_of_mem _ hq)), sel_keeps (h i List.mem_cons_self)]

theorem writes_fold {m : Mc} (hb : 0 ≤ m.buses) (h7 : ∀ (i : Nat) (t : Tk), m.given[i]? = some t → mayW m.given m.cycle i t = true → (wMask t.o = 0 ↔ t.o.op = 7)) :
    ∀ n, (List.range n).foldl writesOne (m.buses, m) = (selN m n).foldl writesSel (m.buses, m)
  | 0 => rfl
  | n + 1 => by
    rw [List.range_succ, List.foldl_append, writes_fold hb h7 n, selN_succ, List.foldl_append]
    have hS : Sv m ((selN m n).foldl writesSel (m.buses, m)) := Sv.fold _ ⟨rfl, rfl, hb⟩
    have hG : ((selN m n).foldl writesSel (m.buses, m)).2.given[n]? = m.given[n]? := fold_keeps _ (fun q hq => by have := (sel_mem hq).1; omega)
    generalize (selN m n).foldl writesSel (m.buses, m) = s at *
    simp only [List.foldl_cons, List.foldl_nil]
    unfold mayAt
    cases ht : m.given[n]? with
    | none =>
      rw [ht] at hG
      unfold writesOne
      simp [hG]
    | some t =>
      rw [ht] at hG
      have hmw : mayW s.2.given s.2.cycle n t = mayW m.given m.cycle n t := by
        unfold mayW
        rw [toRead_key hS.key, hS.cyc]
      unfold writesOne
      simp only [hG, hmw]
      by_cases hm : mayW m.given m.cycle n t = true
      case neg => rw [if_neg hm, if_neg hm]; rfl
      case pos =>
        rw [if_pos hm, if_pos hm]
        simp only [List.foldl_cons, List.foldl_nil]
        unfold writesSel
        simp only [hG]
        have := h7 n t ht hm
        by_cases hop : t.o.op = 7
        · rw [if_pos (this.2 hop), if_pos hop]
        · rw [if_neg (fun h => hop (this.1 h)), if_neg hop]
          have := hS.lo
          by_cases h0 : s.1 = 0
          · rw [if_pos h0, if_neg (by omega)]
          · rw [if_neg h0, if_pos (by omega)]

/-- What the board's rows have to do with what was overwritten. -/
structure Gh (m : Mc) (g : List (Tk × Xt)) : Prop where
  rdy : ∀ (i : Nat) (t : Tk) (x : Xt), g[i]? = some (t, x) → t.done ≠ 0 → t.trap = 0 → t.write = 0 → t.o.op ≠ 8 ∧ RdyB m.mem.length t x
  trn : ∀ (i : Nat) (t : Tk) (x : Xt), g[i]? = some (t, x) → (x.turn = 0 ∧ ∀ c ∈ m.changes, c.place ≠ i) ∨
    (∃ c, m.changes[x.turn - 1]? = some c ∧ 1 ≤ x.turn ∧ c.place = i ∧ c.val = x.old ∧ ((t.o.op = 7 ∧ c.tgt = 2 ∧ c.pl = x.loc ∧ 0 ≤ x.loc ∧ x.loc < m.mem.length) ∨ (t.o.op ≠ 7 ∧ c.tgt = 1 ∧ c.pl = t.o.d ∧ 0 ≤ t.o.d ∧ t.o.d < 8)))
  one : ∀ (k : Nat) (c : Ch), m.changes[k]? = some c → ∃ t x, g[c.place]? = some (t, x) ∧ x.turn = k + 1
  trw : ∀ (i : Nat) (t : Tk) (x : Xt), g[i]? = some (t, x) → t.write = 0 → x.turn = 0
  unr : ∀ (i : Nat) (t : Tk) (x : Xt), g[i]? = some (t, x) → t.read = 0 → t.done = 0 ∧ t.write = 0

theorem pair_set {g : List (Tk × Xt)} {i j : Nat} {y t : Tk × Xt} (h : (g.set i y)[j]? = some t) : (j = i ∧ t = y) ∨ (j ≠ i ∧ g[j]? = some t) := by
  by_cases e : i = j
  · subst e
    have hlt : i < g.length := by have := (List.getElem?_eq_some_iff.1 h).1; simpa using this
    rw [List.getElem?_set_self hlt] at h
    cases h
    exact .inl ⟨rfl, rfl⟩
  · rw [List.getElem?_set_ne e] at h
    exact .inr ⟨fun h' => e h'.symm, h⟩

theorem Gh.write {m : Mc} {g : List (Tk × Xt)} (h : Gh m g) (hc : m.cycle ≠ 0) {i : Nat} {t : Tk} {x : Xt} (hi : g[i]? = some (t, x)) (hd : t.done ≠ 0) (hw : t.write = 0) (hr : RdyB m.mem.length t x) : Gh (writeT i t m) (g.set i (wroteX m t x)) := by
  have hml : (writeT i t m).mem.length = m.mem.length := by simp [writeT, putM_len]
  have hit : i < g.length := (List.getElem?_eq_some_iff.1 hi).1
  have hno : ∀ c ∈ m.changes, c.place ≠ i := by
    rcases h.trn i t x hi with ⟨_, h2⟩ | ⟨c, h1, h2, _⟩
    · exact h2
    · have := h.trw i t x hi hw; omega
  refine ⟨fun j s y hy h1 h2 h3 => ?_, fun j s y hy => ?_, fun k c hk => ?_, fun j s y hy h1 => ?_, fun j s y hy h1 => ?_⟩
  · rcases pair_set hy with ⟨_, e⟩ | ⟨_, hy⟩
    · have : s.write = m.cycle := by have := congrArg (fun p => p.1.write) e; exact this
      omega
    · rw [hml]; exact h.rdy j s y hy h1 h2 h3
  · rw [hml]
    rcases pair_set hy with ⟨rfl, e⟩ | ⟨hne, hy⟩
    · right
      refine ⟨⟨j, t.tgt, t.pl, oldV t.tgt t.pl t.val m.regs m.mem m.next⟩, ?_⟩
      have e1 : y = { x with old := oldV t.tgt t.pl t.val m.regs m.mem m.next, turn := m.changes.length + 1 } := congrArg Prod.snd e
      have e2 : s = { t with write := m.cycle } := congrArg Prod.fst e
      subst e1
      subst e2
      refine ⟨?_, by simp, rfl, rfl, ?_⟩
      · show (m.changes ++ [_])[m.changes.length + 1 - 1]? = _
        rw [Nat.add_sub_cancel, List.getElem?_append_right (Nat.le_refl _)]
        simp
      · rcases hr with ⟨a1, a2, a3, a4, a5, a6⟩ | ⟨a1, a2, a3, a4, a5, a6⟩
        · exact .inl ⟨a1, a4, a5, a2, a3⟩
        · exact .inr ⟨a1, a4, a5, a2, a3⟩
    · rcases h.trn j s y hy with ⟨h1, h2⟩ | ⟨c, h1, h2, h3⟩
      · left
        refine ⟨h1, fun c hc' => ?_⟩
        have hc2 : c ∈ m.changes ++ [⟨i, t.tgt, t.pl, oldV t.tgt t.pl t.val m.regs m.mem m.next⟩] := hc'
        rw [List.mem_append] at hc2
        rcases hc2 with hc2 | hc2
        · exact h2 c hc2
        · simp at hc2
          rw [hc2]
          exact fun e => hne e.symm
      · right
        refine ⟨c, ?_, h2, h3⟩
        show (m.changes ++ [_])[y.turn - 1]? = some c
        rw [List.getElem?_append_left (List.getElem?_eq_some_iff.1 h1).1]
        exact h1
  · have hk2 : (m.changes ++ [⟨i, t.tgt, t.pl, oldV t.tgt t.pl t.val m.regs m.mem m.next⟩])[k]? = some c := hk
    rcases append_one hk2 with ⟨hk3, hk4⟩ | ⟨hk3, hk4⟩
    · obtain ⟨s, y, hs, ht⟩ := h.one k c hk4
      have hne : i ≠ c.place := fun e => hno c (List.mem_of_getElem? hk4) e.symm
      exact ⟨s, y, by rw [List.getElem?_set_ne hne]; exact hs, ht⟩
    · subst hk4
      exact ⟨_, _, List.getElem?_set_self hit, by simp only; omega⟩
  · rcases pair_set hy with ⟨_, e⟩ | ⟨_, hy⟩
    · have : s.write = m.cycle := by have := congrArg (fun p => p.1.write) e; exact this
      omega
    · exact h.trw j s y hy h1
  · rcases pair_set hy with ⟨_, e⟩ | ⟨_, hy⟩
    · have : s.read = t.read := by have := congrArg (fun p => p.1.read) e; exact this
      exact absurd (h.unr i t x hi (by omega)).1 hd
    · exact h.unr j s y hy h1

theorem Gh.read {m : Mc} {g : List (Tk × Xt)} (h : Gh m g) (hc : m.cycle ≠ 0) {i : Nat} {t : Tk} {x : Xt} {n : Int} (hi : g[i]? = some (t, x)) (hr : t.read = 0) (ho : isOrd t.o n = true) (h0 : t.o.op ≠ 0) (h8 : t.o.op ≠ 8) {a b : Int} (t' : Tk) (ht' : t'.o = t.o ∧ t'.read = m.cycle ∧ t'.write = t.write ∧ (t'.tgt, t'.pl, t'.val, t'.trap) = wk t.o t.number a b m.mem) {m' : Mc} (hm' : m'.mem = m.mem ∧ m'.changes = m.changes) :
    Gh m' (g.set i (t', { x with value := (eff t.o a b m.mem).2.1, loc := (eff t.o a b m.mem).2.2 })) := by
  obtain ⟨e1, e2, e3, e4⟩ := ht'
  obtain ⟨f1, f2⟩ := hm'
  have hit : i < g.length := (List.getElem?_eq_some_iff.1 hi).1
  have hw0 := (h.unr i t x hi hr).2
  have ht0 := h.trw i t x hi hw0
  have hs := isOrd_spec ho
  refine ⟨fun j s y hy h1 h2 h3 => ?_, fun j s y hy => ?_, fun k c hk => ?_, fun j s y hy h1 => ?_, fun j s y hy h1 => ?_⟩
  · rcases pair_set hy with ⟨_, e⟩ | ⟨_, hy⟩
    · obtain ⟨rfl, rfl⟩ := Prod.mk.inj e
      rw [e1]
      refine ⟨h8, ?_⟩
      rw [f1]
      unfold wk at e4
      rw [if_neg h8] at e4
      by_cases hE : (eff t.o a b m.mem).1 = 0
      · rw [if_pos hE] at e4
        by_cases h7 : t.o.op = 7
        · rw [if_pos h7] at e4
          simp only [Prod.mk.injEq] at e4
          obtain ⟨p1, p2, p3, _⟩ := e4
          have hpl : 0 ≤ (eff t.o a b m.mem).2.2 ∧ (eff t.o a b m.mem).2.2 < m.mem.length := by
            unfold eff at hE ⊢
            simp only [h7] at hE ⊢
            simp at hE ⊢
            split at hE
            · simp at hE
            · rename_i hq
              rw [if_neg hq]
              simp only
              omega
          exact .inl ⟨by rw [e1]; exact h7, hpl.1, hpl.2, p1, p2, p3⟩
        · rw [if_neg h7] at e4
          simp only [Prod.mk.injEq] at e4
          obtain ⟨p1, p2, p3, _⟩ := e4
          exact .inr ⟨by rw [e1]; exact h7, by rw [e1]; omega, by rw [e1]; omega, p1, by rw [e1]; exact p2, p3⟩
      · rw [if_neg hE] at e4
        simp only [Prod.mk.injEq] at e4
        obtain ⟨_, _, _, p4⟩ := e4
        rw [h2] at p4
        exact absurd p4.symm hE
    · rw [f1]; exact h.rdy j s y hy h1 h2 h3
  · rw [f1, f2]
    rcases pair_set hy with ⟨rfl, e⟩ | ⟨_, hy⟩
    · obtain ⟨rfl, rfl⟩ := Prod.mk.inj e
      rcases h.trn j t x hi with h1 | ⟨c, _, h2, _⟩
      · exact .inl h1
      · omega
    · exact h.trn j s y hy
  · rw [f2] at hk
    obtain ⟨s, y, hs', hy⟩ := h.one k c hk
    by_cases e : i = c.place
    · rw [← e] at hs'
      rw [hi] at hs'
      obtain ⟨rfl, rfl⟩ := Prod.mk.inj (Option.some.inj hs')
      omega
    · exact ⟨s, y, by rw [List.getElem?_set_ne e]; exact hs', hy⟩
  · rcases pair_set hy with ⟨_, e⟩ | ⟨_, hy⟩
    · obtain ⟨rfl, rfl⟩ := Prod.mk.inj e
      exact ht0
    · exact h.trw j s y hy h1
  · rcases pair_set hy with ⟨_, e⟩ | ⟨_, hy⟩
    · obtain ⟨rfl, rfl⟩ := Prod.mk.inj e
      omega
    · exact h.unr j s y hy h1

theorem rfold_keeps {j : Nat} : ∀ (l : List Nat) {s : Mc}, (∀ q ∈ l, q ≠ j) → (l.foldl readsOne s).given[j]? = s.given[j]?
  | [], _, _ => rfl
  | i :: l, s, h => by
    rw [List.foldl_cons, rfold_keeps l (fun q hq => h q (List.mem_cons_of_mem _ hq))]
    have hne := h i List.mem_cons_self
    unfold readsOne
    split
    · rfl
    · split
      · exact List.getElem?_set_ne hne
      · rfl

end Go.Proofs.YtmeiogoodbnkkaaGreat

/- The document's turn of the writes: the walk. -/
namespace Go.Proofs.YtmeiogoodbnkkaaGreat
open Go.RowKit

theorem Tryz.infoInt : (Tryz.prog.info? 3).map (fun i => (i.zero, i.size, i.bytes)) = some (some (.int .i64 0), 1, 8) := by kernel_rfl

theorem row_kb {W W' : World} {B b size n : Nat} {v : Value} {xs : List Value} (h : W.ownsRow b 3 size v n xs) (hk : Kb B W W') : W'.ownsRow b 3 size v n xs := by
  refine ⟨h.1, ?_⟩
  rcases h.2 with hn | ⟨g, cap, cur, rfl, hb, hg, rest⟩
  · exact .inl hn
  · exact .inr ⟨g, cap, cur, rfl, hb, hk.block _ _ hg (.inr (by simp [hotB])), rest⟩

def natV (i : Nat) : Value := .int .i64 i

set_option maxRecDepth 100000 in
set_option maxHeartbeats 8000000 in
theorem writesAll_any (W : World) (B : Nat) (L : Lb) (m : Mc) (g : List (Tk × Xt)) (n : Int) (h : RAt W B L m g) (hgh : Gh m g) (hw : Wf n m) (hb0 : 0 ≤ m.buses) (hb1 : m.buses ≤ 1000) (hsm : g.length ≤ 1000) (hcs : m.changes.length ≤ 900000) :
    Calls Tryz.prog 35 #[.pointer (some ⟨L.D, 0, none⟩)] W fun e w' => e = .returned (.tuple #[]) ∧ ∃ g', RAt w' B L (writesM m) g' ∧ Gh (writesM m) g' ∧ Kb B W w' := by
  obtain ⟨i0, hi0, hz0, hz1, hz2⟩ := info_parts Tryz.infoInt
  have HR := hide h
  have HGH := hide hgh
  have HWF := hide hw
  obtain ⟨lp, lc, hlv0⟩ := h.sl
  have HL : Hid (g.length = m.given.length) := h.len
  have H7 : Hid (∀ (i : Nat) (t : Tk), m.given[i]? = some t → mayW m.given m.cycle i t = true → (wMask t.o = 0 ↔ t.o.op = 7)) := by
    intro i t ht hm
    obtain ⟨x, hx⟩ := h.gets ht
    obtain ⟨m1, m2, m3⟩ := mayW_spec hm
    obtain ⟨h8, _⟩ := hgh.rdy i t x hx m1 m2 m3
    have h0 := hw.ops i t ht
    have hs := isOrd_spec (hw.ords i t ht)
    rw [wMask_zero]
    unfold wrD
    rw [decide_eq_false_iff_not]
    omega
  have HFIN : Hid (writesM m = ((selN m g.length).foldl writesSel (m.buses, m)).2) := by
    show writesM m = _
    unfold writesM
    rw [writes_fold hb0 H7.out, HL.out]
  clear h hgh hw
  go_enter Tryz.func35, Tryz.ntmps35
  go_wp2_with fail
  go_loopg [2, 3, 4] g.length (fun gq s2 s3 _ wr => ∃ (k : Nat) (u2 : Value), k ≤ g.length ∧ gq = g.length - k ∧ s3 = .int .i64 k ∧ s2 = u2 ∧ wr.ownsRow W.heap.size 3 1 u2 (selN m k).length ((selN m k).map natV) ∧ Below W.heap.size W wr)
  case atStart => exact ⟨0, _, Nat.zero_le _, rfl, rfl, rfl, ⟨rfl, .inl ⟨rfl, rfl⟩⟩, Below.refl _ _⟩
  case round =>
    obtain ⟨k, uu, hk1, hgk, rfl, hs2, hown, hbr⟩ := hrel
    subst hs2
    rename World => V
    have hR := HR.out.below hbr
    have c24' : V.cell? ⟨L.D, 24, none⟩ = some (.slice lp g.length lc) := by rw [hR.cLv, hlv0]
    have hD := hR.lt
    rcases Nat.lt_or_ge k g.length with hki | hki
    · obtain ⟨⟨t, x⟩, hy⟩ : ∃ y, g[k]? = some y := ⟨_, List.getElem?_eq_getElem (by omega)⟩
      have ht : m.given[k]? = some t := hR.get hy
      have KM : Hid (∀ w', Below V.heap.size V w' → Calls Tryz.prog 51 #[.pointer (some ⟨L.D, 0, none⟩), .int .i64 k] w' fun e w'' => e = .returned (.bool (mayW m.given m.cycle k t)) ∧ Below w'.heap.size w' w'') := fun w' h => rMayWrite_any w' B L m g k t x n (hR.below h) hy (by omega) HWF.out.ords
      have HMA : Hid (mayAt m k = mayW m.given m.cycle k t) := by
        show mayAt m k = _
        unfold mayAt
        rw [ht]
      have hkG : (k : Int) < (g.length : Int) := by omega
      have hrv : Below V.heap.size V V := Below.refl _ _
      have HOWN := hide hown
      have HBR := hide hbr
      have HGK := hide hgk
      clear hown hgk hR ht hy
      generalize mayW m.given m.cycle k t = q at *
      go_upto_region 5 with (go_at_call 51; with_reducible refine (KM.out _ (by with_reducible assumption)).mono ?_; rintro e va ⟨rfl, hbva⟩)
      have HBA : Hid (Below W.heap.size W va) := bThen HBR.out hbva
      have HOA : Hid (va.ownsRow W.heap.size 3 1 u2 (selN m k).length ((selN m k).map natV)) := row_ck HOWN.out (.of_below hbva)
      cases q with
      | false =>
        have HSE : Hid (selN m (k + 1) = selN m k) := by
          show selN m (k + 1) = selN m k
          rw [selN_succ, HMA.out]; simp
        go_wp2_with fail
        have hgk := HGK.out
        go_roundg (g.length - (k + 1))
        case measure => omega
        case rel => exact ⟨k + 1, _, by omega, rfl, by go_num, rfl, by rw [HSE.out]; exact HOA.out, HBA.out⟩
      | true =>
        have HSE : Hid (selN m (k + 1) = selN m k ++ [k]) := by
          show selN m (k + 1) = _
          rw [selN_succ, HMA.out]; simp
        have hsl : (selN m k).length ≤ 1000 := by
          have : (selN m k).length ≤ k := by
            unfold selN
            exact Nat.le_trans (List.length_filter_le _ _) (by simp)
          omega
        have HBW : Hid (W.heap.size ≤ va.heap.size) := HBA.out.size
        go_wp2_with (at_builtin; refine wpList_append_own_at _ rfl (.tmp 20) (.tmp 22) 99 rfl W.heap.size 3 i0 _ 1 8 Tryz.underlying99 hi0 hz0 hz1 hz2 rfl (by omega) u2 (selN m k).length ((selN m k).map natV) rfl (World.ownsRow.alloc HOA.out _) ⟨va.heap.size, 0, none⟩ 1 1 [natV k] rfl rfl (World.news_of_block (heap_alloc_new _ _)) (by intro u hu; simp at hu; subst hu; rfl) (by unfold maxLen; omega) (by omega) (by have := HBW.out; simp; omega) ?_; intro v' w1 hown1 hgrow1 _ _)
        have hgk := HGK.out
        go_roundg (g.length - (k + 1))
        case measure => omega
        case rel =>
          refine ⟨k + 1, _, by omega, rfl, by go_num, rfl, ?_, ?_⟩
          · rw [HSE.out, List.length_append, List.map_append]
            exact hown1
          · have h1 : Below W.heap.size W (va.alloc (.cells #[natV k] 3)) := bSt HBA.out _
            exact h1.grown hgrow1 (by have := HBW.out; simp; omega) (fun q hq => (World.ownsRow.lt HOA.out q hq).1)
    · have hke : k = g.length := by omega
      subst hke
      obtain ⟨S, hS⟩ : ∃ S, selN m g.length = S := ⟨_, rfl⟩
      rw [hS] at hown HFIN
      have c8 : V.cell? ⟨L.D, 8, none⟩ = some (.int .i64 m.buses) := hR.cBuses
      have HOWN := hide hown
      have HBR := hide hbr
      have HRV := hide hR
      have HSS := hide hS
      clear hown hki hgk hR hS
      obtain ⟨up, uc, rfl, hup⟩ : ∃ up uc, u2 = .slice up S.length uc ∧ (∀ (j i : Nat), S[j]? = some i → ∃ U, up = some ⟨U, 0, none⟩ ∧ U < V.heap.size ∧ ∀ W', Kb B V W' → W'.cell? ⟨U, j, none⟩ = some (.int .i64 i)) := by
        rcases HOWN.out.2 with ⟨h1, h2⟩ | ⟨q, cap, cur, h1, h2, h3, h4⟩
        · refine ⟨none, 0, by rw [h1, h2], fun j i hj => ?_⟩
          have := (List.getElem?_eq_some_iff.1 hj).1
          omega
        · refine ⟨some ⟨q, 0, none⟩, cap, h1, fun j i hj => ⟨q, rfl, (Array.getElem?_eq_some_iff.1 h3).1, fun W' hk => ?_⟩⟩
          have ho := row_kb HOWN.out hk
          rw [h1] at ho
          have hjl := (List.getElem?_eq_some_iff.1 hj).1
          rw [World.ownsRow.cellAt ho j (by omega)]
          simp [hj, natV]
      have HUP := hide hup
      clear hup
      obtain ⟨fs, hfs⟩ : ∃ fs : Nat → Int × Mc, fs = fun j => (S.take j).foldl writesSel (m.buses, m) := ⟨_, rfl⟩
      have HF0 : Hid (fs 0 = (m.buses, m)) := by rw [hfs]; rfl
      have HFL : Hid (fs S.length = S.foldl writesSel (m.buses, m)) := by
        show fs S.length = _
        rw [hfs]; simp
      have HFS : Hid (∀ (j i : Nat), S[j]? = some i → fs (j + 1) = writesSel (fs j) i) := fun j i hj => by
        rw [hfs]
        show (S.take (j + 1)).foldl writesSel (m.buses, m) = _
        rw [List.take_add_one, hj, List.foldl_append]
        rfl
      have HFG : Hid (∀ (j i : Nat), S[j]? = some i → ∃ t, m.given[i]? = some t ∧ (fs j).2.given[i]? = some t ∧ mayW m.given m.cycle i t = true) := fun j i hj => by
        have h1 : ∀ q ∈ S.take j, q ≠ i := fun q hq => by
          have := sel_at g.length (m := m) (j := j) (i := i) (by rw [HSS.out]; exact hj) q (by rw [HSS.out]; exact hq)
          omega
        have h2 := sel_mem (m := m) (n := g.length) (i := i) (by rw [HSS.out]; exact List.mem_of_getElem? hj)
        have h3 := h2.2
        unfold mayAt at h3
        cases ht : m.given[i]? with
        | none => rw [ht] at h3; cases h3
        | some t =>
          rw [ht] at h3
          refine ⟨t, rfl, ?_, h3⟩
          rw [hfs]
          show ((S.take j).foldl writesSel (m.buses, m)).2.given[i]? = some t
          rw [fold_keeps _ h1]
          exact ht
      have HFV : Hid (∀ j, Sv m (fs j)) := fun j => by rw [hfs]; exact Sv.fold _ ⟨rfl, rfl, hb0⟩
      have hSl : S.length ≤ 1000 := by
        have : S.length ≤ g.length := by
          rw [← HSS.out]
          unfold selN
          exact Nat.le_trans (List.length_filter_le _ _) (by simp)
        omega
      clear hfs
      go_wp2_with fail
      go_loopg [5, 6] S.length (fun gq s5 s6 wr => ∃ (j : Nat) (gg : List (Tk × Xt)), j ≤ S.length ∧ gq = S.length - j ∧ s6 = .int .i64 j ∧ s5 = .int .i64 (fs j).1 ∧ RAt wr B L (fs j).2 gg ∧ Gh (fs j).2 gg ∧ Kb B V wr ∧ (fs j).1 ≤ 1000 ∧ (fs j).2.changes.length ≤ 900000 + j)
      case atStart =>
        refine ⟨0, g, Nat.zero_le _, rfl, rfl, ?_, ?_, ?_, Kb.refl _ _, ?_, ?_⟩
        · rw [HF0.out]
        · rw [HF0.out]; exact HRV.out
        · rw [HF0.out]; exact HGH.out
        · rw [HF0.out]; exact hb1
        · rw [HF0.out]; exact hcs
      case round =>
        clear c8 c24' hD
        obtain ⟨j, gg, hj1, hgj, rfl, rfl, hRA, hGG, hKB, hbu, hch⟩ := hrel
        rename World => V1
        rcases Nat.lt_or_ge j S.length with hjl | hjl
        · obtain ⟨i, hi⟩ : ∃ i, S[j]? = some i := ⟨_, List.getElem?_eq_getElem hjl⟩
          obtain ⟨t, ht0, ht, hmw⟩ := HFG.out j i hi
          obtain ⟨m1, m2, m3⟩ := mayW_spec hmw
          obtain ⟨x, hx⟩ := hRA.gets ht
          obtain ⟨h8, hrdy⟩ := hGG.rdy i t x hx m1 m2 m3
          obtain ⟨U, rfl, hU, hUc⟩ := HUP.out j i hi
          have huj : V1.cell? ⟨U, j, none⟩ = some (.int .i64 i) := hUc V1 hKB
          have hUk : ∀ w', Kb B V1 w' → w'.cell? ⟨U, j, none⟩ = some (.int .i64 i) := fun w' h => hUc w' (hKB.trans h)
          have hil : i < gg.length := (List.getElem?_eq_some_iff.1 hx).1
          obtain ⟨G, cap, hlv, _, hG⟩ := hRA.row hil
          have c24 : V1.cell? ⟨L.D, 24, none⟩ = some (.slice (some ⟨G, 0, none⟩) gg.length cap) := by rw [hRA.cLv, hlv]
          have c0 : V1.cell? ⟨G, i * 15, none⟩ = some (.int .i64 t.o.op) := hRA.gv hlv hx (j := 0) (by omega)
          have hD := hRA.lt
          have hjI : (j : Int) < (S.length : Int) := by omega
          have hiI : (i : Int) < (gg.length : Int) := by omega
          have hlo := (HFV.out j).lo
          have hcy : (fs j).2.cycle ≠ 0 := by rw [(HFV.out j).cyc]; exact HWF.out.cyc
          have HWR : Hid (∀ w', Below V1.heap.size V1 w' → Calls Tryz.prog 52 #[.pointer (some ⟨L.D, 0, none⟩), .int .i64 i] w' fun e w'' => e = .returned (.tuple #[]) ∧ RAt w'' B L (writeT i t (fs j).2) (gg.set i (wroteX (fs j).2 t x)) ∧ Kb B w' w'') := fun w' h => rWrite_any w' B L (fs j).2 gg i t x (hRA.below h) hx (by omega) hrdy
          have HGN : Hid (Gh (writeT i t (fs j).2) (gg.set i (wroteX (fs j).2 t x))) := hGG.write hcy hx m1 m3 hrdy
          have HSJ : Hid (fs (j + 1) = if t.o.op = 7 then ((fs j).1, writeT i t (fs j).2) else if 0 < (fs j).1 then ((fs j).1 - 1, writeT i t (fs j).2) else fs j) := by
            show fs (j + 1) = _
            rw [HFS.out j i hi]
            unfold writesSel
            rw [ht]
          have HCH : Hid ((writeT i t (fs j).2).changes.length ≤ 900000 + (j + 1)) := by
            show (writeT i t (fs j).2).changes.length ≤ _
            simp [writeT]; omega
          have HRA := hide hRA
          have HGG := hide hGG
          have HKB := hide hKB
          have HGJ := hide hgj
          have HBU := hide hbu
          have HCHO := hide hch
          clear hRA hGG hKB hgj ht ht0 hmw hx h8 hrdy hUc m1 m2 m3 hcy hi
          go_upto_region 11 with fail
          go_quiet (fail)
          rename_i nq
          obtain ⟨V2, hV2⟩ : ∃ V2, V1.drewN nq = V2 := ⟨_, rfl⟩
          have hb2 : Below V1.heap.size V1 V2 := by rw [← hV2]; exact below_drewN (Below.refl _ _) _
          have u2' : V2.cell? ⟨U, j, none⟩ = some (.int .i64 i) := hUk V2 (.of_below hb2)
          have hU2 : U < V2.heap.size := Nat.lt_of_lt_of_le hU (Nat.le_trans HKB.out.size hb2.size)
          rw [hV2]
          clear hV2 huj c24 c0 hUk
          by_cases h7 : t.o.op = 7
          · have e7 : (t.o.op == 7) = true := by simp [h7]
            have HE : Hid (fs (j + 1) = ((fs j).1, writeT i t (fs j).2)) := hide (by rw [HSJ.out, if_pos h7])
            clear h7
            go_wp2_with (go_at_call 52; with_reducible refine (HWR.out _ (by with_reducible assumption)).mono ?_; rintro e V3 ⟨rfl, hR3, hK3⟩)
            have hgj := HGJ.out
            go_roundg (S.length - (j + 1))
            case measure => omega
            case rel =>
              refine ⟨j + 1, _, by omega, rfl, by go_num, by rw [HE.out], by rw [HE.out]; exact hR3, by rw [HE.out]; exact HGN.out, HKB.out.trans ((Kb.of_below hb2).trans hK3), by rw [HE.out]; exact HBU.out, by rw [HE.out]; exact HCH.out⟩
          · have e7 : (t.o.op == 7) = false := by simp [h7]
            by_cases h0 : 0 < (fs j).1
            · have HE : Hid (fs (j + 1) = ((fs j).1 - 1, writeT i t (fs j).2)) := hide (by rw [HSJ.out, if_neg h7, if_pos h0])
              clear h7
              go_wp2_with (go_at_call 52; with_reducible refine (HWR.out _ (by with_reducible assumption)).mono ?_; rintro e V3 ⟨rfl, hR3, hK3⟩)
              have hgj := HGJ.out
              go_roundg (S.length - (j + 1))
              case measure => omega
              case rel =>
                refine ⟨j + 1, _, by omega, rfl, by go_num, by rw [HE.out], by rw [HE.out]; exact hR3, by rw [HE.out]; exact HGN.out, HKB.out.trans ((Kb.of_below hb2).trans hK3), by rw [HE.out]; have := HBU.out; simp only; omega, by rw [HE.out]; exact HCH.out⟩
            · have HE : Hid (fs (j + 1) = fs j) := hide (by rw [HSJ.out, if_neg h7, if_neg h0])
              clear h7
              go_wp2_with fail
              have hgj := HGJ.out
              go_roundg (S.length - (j + 1))
              case measure => omega
              case rel =>
                refine ⟨j + 1, _, by omega, rfl, by go_num, by rw [HE.out], by rw [HE.out]; exact HRA.out.below hb2, by rw [HE.out]; exact HGG.out, HKB.out.trans (Kb.of_below hb2), by rw [HE.out]; exact HBU.out, by rw [HE.out]; have := HCHO.out; omega⟩
        · have hje : j = S.length := by omega
          subst hje
          clear hjl hgj
          go_wp2_with fail
          go_end0
          have e : writesM m = (fs S.length).2 := by rw [HFIN.out, HFL.out]
          rw [e]
          exact ⟨rfl, gg, hRA, hGG, (Kb.of_below HBR.out).trans hKB⟩

end Go.Proofs.YtmeiogoodbnkkaaGreat

/- The document's turn of the reads: the walk. -/
namespace Go.Proofs.YtmeiogoodbnkkaaGreat
open Go.RowKit

/-- The board, and an order in a box. -/
structure Sbx (B : Nat) (L : Lb) (m : Mc) (gg : List (Tk × Xt)) (X : Nat) (t : Tk) (w : World) : Prop where
  ra : RAt w B L m gg
  far : L.Far X
  c0 : w.cell? ⟨X, 0, none⟩ = some (.int .i64 t.o.op)
  c1 : w.cell? ⟨X, 1, none⟩ = some (.int .i64 t.o.d)
  c2 : w.cell? ⟨X, 2, none⟩ = some (.int .i64 t.o.a)
  c3 : w.cell? ⟨X, 3, none⟩ = some (.int .i64 t.o.b)
  c4 : w.cell? ⟨X, 4, none⟩ = some (.int .i64 t.o.k)

theorem Sbx.set {B : Nat} {L : Lb} {m : Mc} {gg : List (Tk × Xt)} {X : Nat} {t : Tk} {w : World} (h : Sbx B L m gg X t w) {k : Nat} (hk : 5 ≤ k) (v : Value) : Sbx B L m gg X t (w.setCell ⟨X, k, none⟩ v) :=
  ⟨h.ra.other h.far v, h.far, (World.cell?_setCell_other _ _ _ _ (off_ne (by omega))).trans h.c0, (World.cell?_setCell_other _ _ _ _ (off_ne (by omega))).trans h.c1, (World.cell?_setCell_other _ _ _ _ (off_ne (by omega))).trans h.c2,
   (World.cell?_setCell_other _ _ _ _ (off_ne (by omega))).trans h.c3, (World.cell?_setCell_other _ _ _ _ (off_ne (by omega))).trans h.c4⟩
theorem Sbx.below {B : Nat} {L : Lb} {m : Mc} {gg : List (Tk × Xt)} {X : Nat} {t : Tk} {w w' : World} (h : Sbx B L m gg X t w) (hb : Below w.heap.size w w') (hX : X < w.heap.size) : Sbx B L m gg X t w' :=
  ⟨h.ra.below hb, h.far, (hb.cell (p := ⟨X, 0, none⟩) hX).trans h.c0, (hb.cell (p := ⟨X, 1, none⟩) hX).trans h.c1, (hb.cell (p := ⟨X, 2, none⟩) hX).trans h.c2, (hb.cell (p := ⟨X, 3, none⟩) hX).trans h.c3, (hb.cell (p := ⟨X, 4, none⟩) hX).trans h.c4⟩

set_option maxRecDepth 100000 in
set_option maxHeartbeats 8000000 in
theorem readsAll_any (W : World) (B : Nat) (L : Lb) (m : Mc) (g : List (Tk × Xt)) (n : Int) (h : RAt W B L m g) (hgh : Gh m g) (hw : Wf n m) (hsm : g.length ≤ 1000) (hiss : ∀ (i : Nat) (t : Tk), m.given[i]? = some t → t.issue ≠ m.cycle) (hl : ∀ j, j < 4 → 0 ≤ m.lat.getD j 0 ∧ m.lat.getD j 0 ≤ 1000) (hcy : m.cycle ≤ 100000) (hB : B ≤ W.heap.size) :
    Calls Tryz.prog 36 #[.pointer (some ⟨L.D, 0, none⟩)] W fun e w' => e = .returned (.tuple #[]) ∧ ∃ g', RAt w' B L (readsM m) g' ∧ Gh (readsM m) g' ∧ Kb B W w' := by
  have HISS := hide hiss
  have HLA := hide hl
  obtain ⟨fs, hfs⟩ : ∃ fs : Nat → Mc, fs = fun j => (List.range j).foldl readsOne m := ⟨_, rfl⟩
  have HF0 : Hid (fs 0 = m) := by rw [hfs]; rfl
  have HLEN : Hid (g.length = m.given.length) := h.len
  have HFIN : Hid (readsM m = fs g.length) := by
    show readsM m = _
    rw [hfs, HLEN.out]; rfl
  have HFS : Hid (∀ j, fs (j + 1) = readsOne (fs j) j) := fun j => by rw [hfs]; show (List.range (j + 1)).foldl readsOne m = _; rw [List.range_succ, rfold_snoc]
  have HFK : Hid (∀ j, (fs j).given[j]? = m.given[j]?) := fun j => by rw [hfs]; exact rfold_keeps _ (fun q hq => by have := List.mem_range.1 hq; omega)
  have HFV : Hid (∀ j, Rk n m (fs j)) := fun j => by rw [hfs]; exact Rk.fold hw _
  have HR := hide h
  have HGH := hide hgh
  clear h hgh hw hfs hiss hl
  go_enter Tryz.func36, Tryz.ntmps36
  go_wp2_with fail
  go_loopg [2] g.length (fun gq s2 wr => ∃ (i : Nat) (gg : List (Tk × Xt)), i ≤ g.length ∧ gq = g.length - i ∧ s2 = .int .i64 i ∧ gg.length = g.length ∧ RAt wr B L (fs i) gg ∧ Gh (fs i) gg ∧ Kb B W wr)
  case atStart =>
    refine ⟨0, g, Nat.zero_le _, rfl, rfl, rfl, ?_, ?_, Kb.refl _ _⟩
    · rw [HF0.out]; exact HR.out
    · rw [HF0.out]; exact HGH.out
  case round =>
    obtain ⟨i, gg, hi1, hgi, rfl, hgl, hRA, hGG, hKB⟩ := hrel
    rename World => V0
    obtain ⟨lp, lc, hlv0⟩ := hRA.sl
    have c24' : V0.cell? ⟨L.D, 24, none⟩ = some (.slice lp gg.length lc) := by rw [hRA.cLv, hlv0]
    have hD := hRA.lt
    rcases Nat.lt_or_ge i g.length with hil | hil
    · obtain ⟨⟨t, x⟩, hx⟩ : ∃ y, gg[i]? = some y := ⟨_, List.getElem?_eq_getElem (by omega)⟩
      have ht : (fs i).given[i]? = some t := hRA.get hx
      have ht0 : m.given[i]? = some t := by rw [← HFK.out i]; exact ht
      obtain ⟨G, cap, hlv, _, hG⟩ := hRA.row (i := i) (by omega)
      rw [hlv0] at hlv
      injection hlv with ea eb ec
      subst ea
      subst ec
      have k0 : V0.cell? ⟨G, i * 15, none⟩ = some (.int .i64 t.o.op) := hRA.gv hlv0 hx (j := 0) (by omega)
      have k1 : V0.cell? ⟨G, i * 15 + 1, none⟩ = some (.int .i64 t.o.d) := hRA.gv hlv0 hx (j := 1) (by omega)
      have k2 : V0.cell? ⟨G, i * 15 + 2, none⟩ = some (.int .i64 t.o.a) := hRA.gv hlv0 hx (j := 2) (by omega)
      have k3 : V0.cell? ⟨G, i * 15 + 3, none⟩ = some (.int .i64 t.o.b) := hRA.gv hlv0 hx (j := 3) (by omega)
      have k4 : V0.cell? ⟨G, i * 15 + 4, none⟩ = some (.int .i64 t.o.k) := hRA.gv hlv0 hx (j := 4) (by omega)
      have k5 : V0.cell? ⟨G, i * 15 + 5, none⟩ = some (.int .i64 t.number) := hRA.gv hlv0 hx (j := 5) (by omega)
      have k6 : V0.cell? ⟨G, i * 15 + 6, none⟩ = some (.int .i64 t.issue) := hRA.gv hlv0 hx (j := 6) (by omega)
      have k7 : V0.cell? ⟨G, i * 15 + 7, none⟩ = some (.int .i64 t.read) := hRA.gv hlv0 hx (j := 7) (by omega)
      have k8 : V0.cell? ⟨G, i * 15 + 8, none⟩ = some (.int .i64 t.done) := hRA.gv hlv0 hx (j := 8) (by omega)
      have k9 : V0.cell? ⟨G, i * 15 + 9, none⟩ = some (.int .i64 t.write) := hRA.gv hlv0 hx (j := 9) (by omega)
      have k10 : V0.cell? ⟨G, i * 15 + 10, none⟩ = some (.int .i64 x.value) := hRA.gv hlv0 hx (j := 10) (by omega)
      have k11 : V0.cell? ⟨G, i * 15 + 11, none⟩ = some (.int .i64 x.loc) := hRA.gv hlv0 hx (j := 11) (by omega)
      have k12 : V0.cell? ⟨G, i * 15 + 12, none⟩ = some (.int .i64 t.trap) := hRA.gv hlv0 hx (j := 12) (by omega)
      have k13 : V0.cell? ⟨G, i * 15 + 13, none⟩ = some (.int .i64 x.old) := hRA.gv hlv0 hx (j := 13) (by omega)
      have k14 : V0.cell? ⟨G, i * 15 + 14, none⟩ = some (.int .i64 x.turn) := hRA.gv hlv0 hx (j := 14) (by omega)
      have hiI : (i : Int) < (gg.length : Int) := by omega
      have HSJ : Hid (fs (i + 1) = if t.read = 0 ∧ toWrite (fs i).given (fs i).cycle i (rMask t.o) = false then readT i t (fs i) else fs i) := hide (by rw [HFS.out i]; unfold readsOne; rw [ht])
      have hwf := (HFV.out i).wf
      have HWF := hide hwf
      have HRA := hide hRA
      have HGG := hide hGG
      have HKB := hide hKB
      have HGI := hide hgi
      have HX := hide hx
      have HT := hide ht
      have HT0 := hide ht0
      have HLV := hide hlv0
      have HGL := hide hgl
      clear hRA hGG hKB hgi hx ht ht0 hlv0 hwf
      go_upto_region 4 with fail
      clear c24' k0 k1 k2 k3 k4 k5 k6 k7 k8 k9 k10 k11 k12 k13 k14
      obtain ⟨V1, hV1⟩ : ∃ V1, V0.alloc (.cells #[.int .i64 t.o.op, .int .i64 t.o.d, .int .i64 t.o.a, .int .i64 t.o.b, .int .i64 t.o.k, .int .i64 t.number, .int .i64 t.issue, .int .i64 t.read, .int .i64 t.done, .int .i64 t.write, .int .i64 x.value, .int .i64 x.loc, .int .i64 t.trap, .int .i64 x.old, .int .i64 x.turn] 81) = V1 := ⟨_, rfl⟩
      rw [hV1]
      have hb1 : Below V0.heap.size V0 V1 := by rw [← hV1]; exact bSt (Below.refl _ _) _
      have gX : V1.heap[V0.heap.size]? = some (.cells #[.int .i64 t.o.op, .int .i64 t.o.d, .int .i64 t.o.a, .int .i64 t.o.b, .int .i64 t.o.k, .int .i64 t.number, .int .i64 t.issue, .int .i64 t.read, .int .i64 t.done, .int .i64 t.write, .int .i64 x.value, .int .i64 x.loc, .int .i64 t.trap, .int .i64 x.old, .int .i64 x.turn] 81 (0, 0)) := by rw [← hV1]; exact heap_alloc_new _ _
      have hlX : V0.heap.size < V1.heap.size := (Array.getElem?_eq_some_iff.1 gX).1
      clear hV1
      have hR1 := HRA.out.below hb1
      have HR1 := hide hR1
      have HB1 := hide hb1
      have HFAR : Hid (L.Far V0.heap.size) := HRA.out.far (Nat.le_refl _)
      have hD1 := hR1.lt
      have hG1 : G < V1.heap.size := Nat.lt_of_lt_of_le hG hb1.size
      have c23 : V1.cell? ⟨L.D, 23, none⟩ = some (.int .i64 (fs i).cycle) := hR1.cCycle
      have GX := hide gX
      have z6 : V1.cell? ⟨V0.heap.size, 6, none⟩ = some (.int .i64 t.issue) := by rw [cell_of_row _ _ _ _ _ _ gX]; rfl
      have z7 : V1.cell? ⟨V0.heap.size, 7, none⟩ = some (.int .i64 t.read) := by rw [cell_of_row _ _ _ _ _ _ gX]; rfl
      clear gX hR1 hb1
      cases e1 : ((t.read : Int) == 0) with
      | false =>
        have e1' : ((t.read : Int) != 0) = true := by rw [bne, e1]; rfl
        have HE : Hid (fs (i + 1) = fs i) := hide (by rw [HSJ.out, if_neg (fun h => by have := h.1; rw [this] at e1; simp at e1)])
        clear e1
        go_quiet (fail)
        go_wp2_with fail
        have hgi := HGI.out
        go_roundg (g.length - (i + 1))
        case measure => omega
        case rel => exact ⟨i + 1, gg, by omega, rfl, by go_num, HGL.out, by rw [HE.out]; exact HR1.out.below (below_drewN (Below.refl _ _) _), by rw [HE.out]; exact HGG.out, HKB.out.trans ((Kb.of_below HB1.out).trans (Kb.of_below (below_drewN (Below.refl _ _) _)))⟩
      | true =>
        have e1' : ((t.read : Int) != 0) = false := by rw [bne, e1]; rfl
        have e2 : ((t.issue : Int) == ((fs i).cycle : Int)) = false := by
          have h1 := HISS.out i t HT0.out
          rw [← (HFV.out i).cyc] at h1
          simp; omega
        have HR0 : Hid (t.read = 0) := by have := e1; simp at this; exact this
        have h8 : t.o.op ≠ 8 := HWF.out.jmp i t HT.out HR0.out
        have h0 : t.o.op ≠ 0 := HWF.out.ops i t HT.out
        have hord := HWF.out.ords i t HT.out
        have HTW : Hid (toWrite (fs i).given (fs i).cycle i (rMask t.o) = ((rdA t.o.op && awB (fs i).given (fs i).cycle i t.o.a) || (rdB t.o.op && awB (fs i).given (fs i).cycle i t.o.b))) := toWrite_r HWF.out.ords _ _ hord
        have KA : Hid (∀ W, Calls Tryz.prog 53 #[.agg #[.int .i64 t.o.op, .int .i64 t.o.d, .int .i64 t.o.a, .int .i64 t.o.b, .int .i64 t.o.k]] W fun e w' => e = .returned (.bool (rdA t.o.op)) ∧ Below W.heap.size W w') := fun W => readsA_any _ _ _ _ _ W
        have KB : Hid (∀ W, Calls Tryz.prog 55 #[.agg #[.int .i64 t.o.op, .int .i64 t.o.d, .int .i64 t.o.a, .int .i64 t.o.b, .int .i64 t.o.k]] W fun e w' => e = .returned (.bool (rdB t.o.op)) ∧ Below W.heap.size W w') := fun W => readsB_any _ _ _ _ _ W
        have AW : Hid (∀ w' r, Below V1.heap.size V1 w' → Calls Tryz.prog 54 #[.pointer (some ⟨L.D, 0, none⟩), .int .i64 i, .int .i64 r] w' fun e w'' => e = .returned (.bool (awB (fs i).given (fs i).cycle i r)) ∧ Below w'.heap.size w' w'') := fun w' r h => awaited_any w' B L (fs i) gg i r (HR1.out.below h) (by have := HGL.out; omega) (by have := HGL.out; omega)
        have HH8 := hide h8
        have HH0 := hide h0
        have HORD := hide hord
        clear h8 h0 hord
        go_quiet (fail)
        rename_i nq
        obtain ⟨V2, hV2⟩ : ∃ V2, V1.drewN nq = V2 := ⟨_, rfl⟩
        have hb2 : Below V1.heap.size V1 V2 := by rw [← hV2]; exact below_drewN (Below.refl _ _) _
        rw [hV2]
        clear hV2 z6 z7 c23 e1 e1' e2
        have x0 : ∀ w', Below V1.heap.size V1 w' → w'.cell? ⟨V0.heap.size, 0, none⟩ = some (.int .i64 t.o.op) := fun w' h => by rw [h.cell (p := ⟨V0.heap.size, 0, none⟩) hlX, cell_of_row _ _ _ _ _ _ GX.out]; rfl
        have x1 : ∀ w', Below V1.heap.size V1 w' → w'.cell? ⟨V0.heap.size, 1, none⟩ = some (.int .i64 t.o.d) := fun w' h => by rw [h.cell (p := ⟨V0.heap.size, 1, none⟩) hlX, cell_of_row _ _ _ _ _ _ GX.out]; rfl
        have x2 : ∀ w', Below V1.heap.size V1 w' → w'.cell? ⟨V0.heap.size, 2, none⟩ = some (.int .i64 t.o.a) := fun w' h => by rw [h.cell (p := ⟨V0.heap.size, 2, none⟩) hlX, cell_of_row _ _ _ _ _ _ GX.out]; rfl
        have x3 : ∀ w', Below V1.heap.size V1 w' → w'.cell? ⟨V0.heap.size, 3, none⟩ = some (.int .i64 t.o.b) := fun w' h => by rw [h.cell (p := ⟨V0.heap.size, 3, none⟩) hlX, cell_of_row _ _ _ _ _ _ GX.out]; rfl
        have x4 : ∀ w', Below V1.heap.size V1 w' → w'.cell? ⟨V0.heap.size, 4, none⟩ = some (.int .i64 t.o.k) := fun w' h => by rw [h.cell (p := ⟨V0.heap.size, 4, none⟩) hlX, cell_of_row _ _ _ _ _ _ GX.out]; rfl
        generalize ha : rdA t.o.op = qa at *
        generalize hwa : awB (fs i).given (fs i).cycle i t.o.a = awa at *
        have AWa : Hid (∀ w', Below V1.heap.size V1 w' → Calls Tryz.prog 54 #[.pointer (some ⟨L.D, 0, none⟩), .int .i64 i, .int .i64 t.o.a] w' fun e w'' => e = .returned (.bool awa) ∧ Below w'.heap.size w' w'') := fun w' h => by rw [← hwa]; exact AW.out w' _ h
        go_upto_region 5 with fail
        go_cut [4] from 6 to 124 (fun sx wx => sx = .bool (qa && awa) ∧ Below V1.heap.size V1 wx)
        case first =>
          have hXa : V0.heap.size < V2.heap.size := Nat.lt_of_lt_of_le hlX hb2.size
          cases qa with
          | false =>
            go_wp2_with (go_at_call 53; with_reducible refine (KA.out _).mono ?_; rintro e va ⟨rfl, hbva⟩; have hBva : Below V1.heap.size V1 va := (bThen hb2 hbva); have hXva : V0.heap.size < va.heap.size := (Nat.lt_of_lt_of_le hlX hBva.size))
            go_meet
            exact ⟨by simp, hBva⟩
          | true =>
            go_wp2_with (first | (go_at_call 53; with_reducible refine (KA.out _).mono ?_; rintro e va ⟨rfl, hbva⟩; have hBva : Below V1.heap.size V1 va := (bThen hb2 hbva); have hXva : V0.heap.size < va.heap.size := (Nat.lt_of_lt_of_le hlX hBva.size)) | (go_at_call 54; with_reducible refine (AWa.out _ (by with_reducible assumption)).mono ?_; rintro e vb ⟨rfl, hbvb⟩; have hBvb : Below V1.heap.size V1 vb := (bThen hBva hbvb)))
            go_meet
            exact ⟨by simp, hBvb⟩
        case rest =>
        obtain ⟨rfl, hb3⟩ := hcut
        rename World => V3
        generalize hb : rdB t.o.op = qb at *
        generalize hwb : awB (fs i).given (fs i).cycle i t.o.b = awb at *
        have AWb : Hid (∀ w', Below V1.heap.size V1 w' → Calls Tryz.prog 54 #[.pointer (some ⟨L.D, 0, none⟩), .int .i64 i, .int .i64 t.o.b] w' fun e w'' => e = .returned (.bool awb) ∧ Below w'.heap.size w' w'') := fun w' h => by rw [← hwb]; exact AW.out w' _ h
        go_upto_region 6 with fail
        go_cut [5] from 6 to 124 (fun sx wx => sx = .bool (qb && awb) ∧ Below V1.heap.size V1 wx)
        case first =>
          have hXb : V0.heap.size < V3.heap.size := Nat.lt_of_lt_of_le hlX hb3.size
          cases qb with
          | false =>
            go_wp2_with (go_at_call 55; with_reducible refine (KB.out _).mono ?_; rintro e va ⟨rfl, hbva⟩; have hBva : Below V1.heap.size V1 va := (bThen hb3 hbva); have hXva : V0.heap.size < va.heap.size := (Nat.lt_of_lt_of_le hlX hBva.size))
            go_meet
            exact ⟨by simp, hBva⟩
          | true =>
            go_wp2_with (first | (go_at_call 55; with_reducible refine (KB.out _).mono ?_; rintro e va ⟨rfl, hbva⟩; have hBva : Below V1.heap.size V1 va := (bThen hb3 hbva); have hXva : V0.heap.size < va.heap.size := (Nat.lt_of_lt_of_le hlX hBva.size)) | (go_at_call 54; with_reducible refine (AWb.out _ (by with_reducible assumption)).mono ?_; rintro e vb ⟨rfl, hbvb⟩; have hBvb : Below V1.heap.size V1 vb := (bThen hBva hbvb)))
            go_meet
            exact ⟨by simp, hBvb⟩
        case rest =>
        obtain ⟨rfl, hb4⟩ := hcut
        rename World => V4
        generalize hza : (qa && awa) = za at *
        generalize hzb : (qb && awb) = zb at *
        cases za with
        | true =>
          have HE : Hid (fs (i + 1) = fs i) := hide (by rw [HSJ.out, if_neg (fun h => by have := h.2; rw [HTW.out] at this; simp at this)])
          go_wp2_with fail
          have hgi := HGI.out
          go_roundg (g.length - (i + 1))
          case measure => omega
          case rel => exact ⟨i + 1, gg, by omega, rfl, by go_num, HGL.out, by rw [HE.out]; exact HR1.out.below hb4, by rw [HE.out]; exact HGG.out, HKB.out.trans ((Kb.of_below HB1.out).trans (Kb.of_below hb4))⟩
        | false =>
        cases zb with
        | true =>
          have HE : Hid (fs (i + 1) = fs i) := hide (by rw [HSJ.out, if_neg (fun h => by have := h.2; rw [HTW.out] at this; simp at this)])
          go_wp2_with fail
          have hgi := HGI.out
          go_roundg (g.length - (i + 1))
          case measure => omega
          case rel => exact ⟨i + 1, gg, by omega, rfl, by go_num, HGL.out, by rw [HE.out]; exact HR1.out.below hb4, by rw [HE.out]; exact HGG.out, HKB.out.trans ((Kb.of_below HB1.out).trans (Kb.of_below hb4))⟩
        | false =>
        have HE : Hid (fs (i + 1) = readT i t (fs i)) := hide (by rw [HSJ.out, if_pos ⟨HR0.out, by rw [HTW.out]; rfl⟩])
        clear HSJ HTW AW AWa AWb KA KB x0 x1 x2 x3 x4
        obtain ⟨k0, k4⟩ := kind_range HORD.out HH0.out HH8.out
        obtain ⟨kn, hkn⟩ := Int.eq_ofNat_of_zero_le k0
        have hkn4 : kn < 4 := by omega
        obtain ⟨la, hla⟩ : ∃ la, la = (fs i).lat.getD kn 0 := ⟨_, rfl⟩
        have hlb : 0 ≤ la ∧ la ≤ 1000 := by rw [hla, (HFV.out i).lat]; exact HLA.out kn hkn4
        obtain ⟨cy, hcyy⟩ : ∃ cy, cy = (fs i).cycle := ⟨_, rfl⟩
        have hcy2 : cy ≤ 100000 := by rw [hcyy, (HFV.out i).cyc]; exact hcy
        obtain ⟨l0, l1⟩ := hlb
        have hR4 := HR1.out.below hb4
        have g4 : V4.heap[V0.heap.size]? = some (.cells #[.int .i64 t.o.op, .int .i64 t.o.d, .int .i64 t.o.a, .int .i64 t.o.b, .int .i64 t.o.k, .int .i64 t.number, .int .i64 t.issue, .int .i64 t.read, .int .i64 t.done, .int .i64 t.write, .int .i64 x.value, .int .i64 x.loc, .int .i64 t.trap, .int .i64 x.old, .int .i64 x.turn] 81 (0, 0)) := by rw [hb4.block _ hlX]; exact GX.out
        have HK4 : Hid (Kb B W V4) := HKB.out.trans ((Kb.of_below HB1.out).trans (Kb.of_below hb4))
        have c23 : V4.cell? ⟨L.D, 23, none⟩ = some (.int .i64 cy) := by rw [hcyy]; exact hR4.cCycle
        have x7 : V4.cell? ⟨V0.heap.size, 7, none⟩ = some (.int .i64 t.read) := by rw [cell_of_row _ _ _ _ _ _ g4]; rfl
        have f7 : ∀ j, V4.frozen? ⟨V0.heap.size, j, none⟩ = false := fun j => frozen_of_row _ _ _ _ _ g4
        have hD4 := hR4.lt
        have hX4 : V0.heap.size < V4.heap.size := (Array.getElem?_eq_some_iff.1 g4).1
        have HR4 := hide hR4
        have G4 := hide g4
        have HLA2 := hide hla
        have HCY := hide hcyy
        have HKN := hide hkn
        clear hR4 g4 hla hcyy hkn k0 k4
        go_upto_region 9 with fail
        obtain ⟨V5, hV5⟩ : ∃ V5, V4.setCell ⟨V0.heap.size, 7, none⟩ (.int .i64 cy) = V5 := ⟨_, rfl⟩
        rw [hV5]
        have hR5 : RAt V5 B L (fs i) gg := by rw [← hV5]; exact HR4.out.other HFAR.out _
        have g5 : V5.heap[V0.heap.size]? = some (.cells #[.int .i64 t.o.op, .int .i64 t.o.d, .int .i64 t.o.a, .int .i64 t.o.b, .int .i64 t.o.k, .int .i64 t.number, .int .i64 t.issue, .int .i64 cy, .int .i64 t.done, .int .i64 t.write, .int .i64 x.value, .int .i64 x.loc, .int .i64 t.trap, .int .i64 x.old, .int .i64 x.turn] 81 (0, 0)) := by rw [← hV5]; exact (heap_setCell_same _ _ 7 _ _ (.int .i64 cy) G4.out).trans rfl
        have hBX : B ≤ V0.heap.size := Nat.le_trans hB HKB.out.size
        have HK5 : Hid (Kb B W V5) := by rw [← hV5]; exact HK4.out.set G4.out (by simp [hotB]) hBX _
        clear hV5 c23 x7 f7
        have hD5 := hR5.lt
        have hX5 : V0.heap.size < V5.heap.size := (Array.getElem?_eq_some_iff.1 g5).1
        have c23 : V5.cell? ⟨L.D, 23, none⟩ = some (.int .i64 cy) := by rw [HCY.out]; exact hR5.cCycle
        have cl : V5.cell? ⟨L.D, 4 + kn, none⟩ = some (.int .i64 la) := by rw [HLA2.out]; exact hR5.cLat hkn4
        have f8 : ∀ j, V5.frozen? ⟨V0.heap.size, j, none⟩ = false := fun j => frozen_of_row _ _ _ _ _ g5
        have x0 : V5.cell? ⟨V0.heap.size, 0, none⟩ = some (.int .i64 t.o.op) := by rw [cell_of_row _ _ _ _ _ _ g5]; rfl
        have x8 : V5.cell? ⟨V0.heap.size, 8, none⟩ = some (.int .i64 t.done) := by rw [cell_of_row _ _ _ _ _ _ g5]; rfl
        have KI : Hid (∀ w', Calls Tryz.prog 56 #[.int .i64 t.o.op] w' fun e w'' => e = .returned (.int .i64 kn) ∧ w'' = w') := fun w' => by rw [← HKN.out]; exact Kind_any _ w'
        have hk4I : (kn : Int) < 4 := by omega
        have HR5 := hide hR5
        have G5 := hide g5
        clear hR5 g5
        refine wp_region_still_tail 17 (by kernel_rfl) (by kernel_rfl) ?_
        simp only [List.take_succ_cons, List.take_zero, List.drop_succ_cons, List.drop_zero]
        repeat still_step
        still_call (KI.out _)
        repeat still_step
        refine wpStill_nil ?_
        go_upto_region 10 with fail
        obtain ⟨V6, hV6⟩ : ∃ V6, (V5.setCell ⟨V0.heap.size, 8, none⟩ (.int .i64 ((cy : Int) + la))).drew = V6 := ⟨_, rfl⟩
        rw [hV6]
        have hR6 : RAt V6 B L (fs i) gg := by rw [← hV6]; exact (HR5.out.other HFAR.out _).drew
        have g6 : V6.heap[V0.heap.size]? = some (.cells #[.int .i64 t.o.op, .int .i64 t.o.d, .int .i64 t.o.a, .int .i64 t.o.b, .int .i64 t.o.k, .int .i64 t.number, .int .i64 t.issue, .int .i64 cy, .int .i64 ((cy : Int) + la), .int .i64 t.write, .int .i64 x.value, .int .i64 x.loc, .int .i64 t.trap, .int .i64 x.old, .int .i64 x.turn] 81 (0, 0)) := by rw [← hV6]; exact (heap_setCell_same _ _ 8 _ _ (.int .i64 ((cy : Int) + la)) G5.out).trans rfl
        have HK6 : Hid (Kb B W V6) := by rw [← hV6]; exact (HK5.out.set G5.out (by simp [hotB]) hBX _).drew
        clear hV6 c23 cl f8 x0 x8 KI
        have hX6 : V0.heap.size < V6.heap.size := (Array.getElem?_eq_some_iff.1 g6).1
        obtain ⟨o0, o8, dd0, dd7, a0, a7, b0, b7, _⟩ := isOrd_spec HORD.out
        obtain ⟨ra, hra⟩ := Int.eq_ofNat_of_zero_le a0
        obtain ⟨rb, hrb⟩ := Int.eq_ofNat_of_zero_le b0
        have ra8 : ra < 8 := by omega
        have rb8 : rb < 8 := by omega
        have raI : (ra : Int) < 8 := by omega
        have rbI : (rb : Int) < 8 := by omega
        obtain ⟨p, c, hmv, hrd⟩ := hR6.mem.slice
        obtain ⟨xa, hxa⟩ : ∃ x, x = (fs i).regs.getD ra 0 := ⟨_, rfl⟩
        obtain ⟨xb, hxb⟩ : ∃ x, x = (fs i).regs.getD rb 0 := ⟨_, rfl⟩
        obtain ⟨q, hq⟩ : ∃ q, q = eff t.o xa xb (fs i).mem := ⟨_, rfl⟩
        have HEF : Hid (∀ w', Below V6.heap.size V6 w' → Calls Tryz.prog 30 #[.agg #[.int .i64 t.o.op, .int .i64 t.o.d, .int .i64 ra, .int .i64 rb, .int .i64 t.o.k], .int .i64 xa, .int .i64 xb, .slice p (fs i).mem.length c] w' fun e w'' => e = .returned (.tuple #[.int .i64 q.1, .int .i64 q.2.1, .int .i64 q.2.2]) ∧ Below w'.heap.size w' w'') := fun w' hw => by
          have h1 := effect_any t.o.op t.o.d t.o.a t.o.b t.o.k xa xb p c (fs i).mem w' (hrd.below (Nat.le_refl _) hw) (by have := HH0.out; omega) (by have := HH8.out; omega)
          have h2 : (⟨t.o.op, t.o.d, t.o.a, t.o.b, t.o.k⟩ : Ord) = t.o := rfl
          rw [h2, ← hq, hra, hrb] at h1
          exact h1
        have hS6 : Sbx B L (fs i) gg V0.heap.size t V6 := ⟨hR6, HFAR.out, by rw [cell_of_row _ _ _ _ _ _ g6]; rfl, by rw [cell_of_row _ _ _ _ _ _ g6]; rfl, by rw [cell_of_row _ _ _ _ _ _ g6]; rfl, by rw [cell_of_row _ _ _ _ _ _ g6]; rfl, by rw [cell_of_row _ _ _ _ _ _ g6]; rfl⟩
        have HS6 : Hid (Sbx B L (fs i) gg V0.heap.size t V6.drew) := hS6.below (Below.refl _ _).drew hX6
        have HSB : Hid (∀ w', Below V6.heap.size V6 w' → Sbx B L (fs i) gg V0.heap.size t w') := fun w' h => hS6.below h hX6
        have r0 : ∀ w', Sbx B L (fs i) gg V0.heap.size t w' → w'.cell? ⟨V0.heap.size, 0, none⟩ = some (.int .i64 t.o.op) := fun _ h => h.c0
        have r1 : ∀ w', Sbx B L (fs i) gg V0.heap.size t w' → w'.cell? ⟨V0.heap.size, 1, none⟩ = some (.int .i64 t.o.d) := fun _ h => h.c1
        have r2 : ∀ w', Sbx B L (fs i) gg V0.heap.size t w' → w'.cell? ⟨V0.heap.size, 2, none⟩ = some (.int .i64 ra) := fun _ h => by rw [← hra]; exact h.c2
        have r3 : ∀ w', Sbx B L (fs i) gg V0.heap.size t w' → w'.cell? ⟨V0.heap.size, 3, none⟩ = some (.int .i64 rb) := fun _ h => by rw [← hrb]; exact h.c3
        have r4 : ∀ w', Sbx B L (fs i) gg V0.heap.size t w' → w'.cell? ⟨V0.heap.size, 4, none⟩ = some (.int .i64 t.o.k) := fun _ h => h.c4
        have ga : ∀ w', Sbx B L (fs i) gg V0.heap.size t w' → w'.cell? ⟨L.D, 10 + ra, none⟩ = some (.int .i64 xa) := fun _ h => by rw [hxa]; exact h.ra.reg ra8
        have gb : ∀ w', Sbx B L (fs i) gg V0.heap.size t w' → w'.cell? ⟨L.D, 10 + rb, none⟩ = some (.int .i64 xb) := fun _ h => by rw [hxb]; exact h.ra.reg rb8
        have gm : ∀ w', Sbx B L (fs i) gg V0.heap.size t w' → w'.cell? ⟨L.D, 18, none⟩ = some (.slice p (fs i).mem.length c) := fun _ h => by rw [h.ra.cMv, hmv]
        have HBD : Hid (Below V6.heap.size V6 V6.drew) := (Below.refl _ _).drew
        have HQ := hide hq
        have HXA := hide hxa
        have HXB := hide hxb
        have HRA' := hide hra
        have HRB' := hide hrb
        have G6 := hide g6
        have HR6 := hide hR6
        have HB46 : Hid (∀ w4, Below V6.heap.size V6 w4 → w4.heap[V0.heap.size]? = some (.cells #[.int .i64 t.o.op, .int .i64 t.o.d, .int .i64 t.o.a, .int .i64 t.o.b, .int .i64 t.o.k, .int .i64 t.number, .int .i64 t.issue, .int .i64 cy, .int .i64 ((cy : Int) + la), .int .i64 t.write, .int .i64 x.value, .int .i64 x.loc, .int .i64 t.trap, .int .i64 x.old, .int .i64 x.turn] 81 (0, 0))) := fun w4 h => by rw [h.block _ hX6]; exact g6
        clear hq hxa hxb hra hrb g6 hR6 hS6 hrd hmv a0 a7 b0 b7 dd0 dd7 o0 o8
        go_cut [] from 6 to 124 (fun wx => ∃ w4, Below V6.heap.size V6 w4 ∧ wx = ((w4.setCell ⟨V0.heap.size, 12, none⟩ (.int .i64 q.1)).setCell ⟨V0.heap.size, 10, none⟩ (.int .i64 q.2.1)).setCell ⟨V0.heap.size, 11, none⟩ (.int .i64 q.2.2))
        case first =>
          go_region_held3 (fun w' => Sbx B L (fs i) gg V0.heap.size t w') (first | with_reducible assumption | exact HS6.out | exact HS4.out | exact Sbx.set HS4.out (by omega) _ | exact Sbx.set (Sbx.set HS4.out (by omega) _) (by omega) _ | exact Sbx.set (Sbx.set (Sbx.set HS4.out (by omega) _) (by omega) _) (by omega) _ | fail) (first | (go_at_call 30; (with_reducible refine (HEF.out _ HBD.out).mono ?_); rintro e w4 ⟨rfl, hb4'⟩; have HB4 : Hid (Below V6.heap.size V6 w4) := (hide (bThen HBD.out hb4')); have HS4 : Hid (Sbx B L (fs i) gg V0.heap.size t w4) := (HSB.out w4 HB4.out); have e10 : w4.cell? ⟨V0.heap.size, 10, none⟩ = some (.int .i64 x.value) := (by rw [cell_of_row _ _ _ _ _ _ (HB46.out w4 HB4.out)]; rfl); have e11 : w4.cell? ⟨V0.heap.size, 11, none⟩ = some (.int .i64 x.loc) := (by rw [cell_of_row _ _ _ _ _ _ (HB46.out w4 HB4.out)]; rfl); have e12 : w4.cell? ⟨V0.heap.size, 12, none⟩ = some (.int .i64 t.trap) := (by rw [cell_of_row _ _ _ _ _ _ (HB46.out w4 HB4.out)]; rfl); have ef : ∀ j, w4.frozen? ⟨V0.heap.size, j, none⟩ = false := (fun j => frozen_of_row _ _ _ _ _ (HB46.out w4 HB4.out)); clear hb4'))
          all_goals go_wp2
          all_goals go_meet
          all_goals exact ⟨w4, HB4.out, rfl⟩
        case rest =>
        rename World => V7
        obtain ⟨w4, hb46, hwx⟩ := hcut
        have hR7 : RAt V7 B L (fs i) gg := by rw [hwx]; exact (((HR6.out.below hb46).other HFAR.out _).other HFAR.out _).other HFAR.out _
        have e12 := heap_setCell_same _ _ 12 _ _ (.int .i64 q.1) (HB46.out w4 hb46)
        have e10 := heap_setCell_same _ _ 10 _ _ (.int .i64 q.2.1) e12
        have g7 : V7.heap[V0.heap.size]? = some (.cells #[.int .i64 t.o.op, .int .i64 t.o.d, .int .i64 t.o.a, .int .i64 t.o.b, .int .i64 t.o.k, .int .i64 t.number, .int .i64 t.issue, .int .i64 cy, .int .i64 ((cy : Int) + la), .int .i64 t.write, .int .i64 q.2.1, .int .i64 q.2.2, .int .i64 q.1, .int .i64 x.old, .int .i64 x.turn] 81 (0, 0)) := by rw [hwx]; exact (heap_setCell_same _ _ 11 _ _ (.int .i64 q.2.2) e10).trans rfl
        have HK7 : Hid (Kb B W V7) := by
          rw [hwx]
          have k1 : Kb B W w4 := HK6.out.trans (Kb.of_below hb46)
          exact ((k1.set (HB46.out w4 hb46) (by simp [hotB]) hBX _).set e12 (by simp [hotB]) hBX _).set e10 (by simp [hotB]) hBX _
        clear e12 e10 hwx r0 r1 r2 r3 r4 ga gb gm
        have hD7 := hR7.lt
        have hX7 : V0.heap.size < V7.heap.size := (Array.getElem?_eq_some_iff.1 g7).1
        have c24 : V7.cell? ⟨L.D, 24, none⟩ = some (.slice (some ⟨G, 0, none⟩) gg.length lc) := by rw [hR7.cLv, HLV.out]
        have fG : ∀ j, V7.frozen? ⟨G, j, none⟩ = false := fun j => hR7.gvFrozen HLV.out j
        have n2 : ¬ G = V0.heap.size := fun e => HFAR.out.l (by rw [HLV.out, e]; rfl)
        have n2' : ¬ V0.heap.size = G := fun e => n2 e.symm
        have hgo : (L.lv).ownBlock = some G := by rw [HLV.out]; rfl
        have hG7 : G < V7.heap.size := (World.ownsRow.lt hR7.giv G hgo).2
        have x0 : V7.cell? ⟨V0.heap.size, 0, none⟩ = some (.int .i64 t.o.op) := by rw [cell_of_row _ _ _ _ _ _ g7]; rfl
        have x1 : V7.cell? ⟨V0.heap.size, 1, none⟩ = some (.int .i64 t.o.d) := by rw [cell_of_row _ _ _ _ _ _ g7]; rfl
        have x2 : V7.cell? ⟨V0.heap.size, 2, none⟩ = some (.int .i64 t.o.a) := by rw [cell_of_row _ _ _ _ _ _ g7]; rfl
        have x3 : V7.cell? ⟨V0.heap.size, 3, none⟩ = some (.int .i64 t.o.b) := by rw [cell_of_row _ _ _ _ _ _ g7]; rfl
        have x4 : V7.cell? ⟨V0.heap.size, 4, none⟩ = some (.int .i64 t.o.k) := by rw [cell_of_row _ _ _ _ _ _ g7]; rfl
        have x5 : V7.cell? ⟨V0.heap.size, 5, none⟩ = some (.int .i64 t.number) := by rw [cell_of_row _ _ _ _ _ _ g7]; rfl
        have x6 : V7.cell? ⟨V0.heap.size, 6, none⟩ = some (.int .i64 t.issue) := by rw [cell_of_row _ _ _ _ _ _ g7]; rfl
        have x7 : V7.cell? ⟨V0.heap.size, 7, none⟩ = some (.int .i64 cy) := by rw [cell_of_row _ _ _ _ _ _ g7]; rfl
        have x8 : V7.cell? ⟨V0.heap.size, 8, none⟩ = some (.int .i64 ((cy : Int) + la)) := by rw [cell_of_row _ _ _ _ _ _ g7]; rfl
        have x9 : V7.cell? ⟨V0.heap.size, 9, none⟩ = some (.int .i64 t.write) := by rw [cell_of_row _ _ _ _ _ _ g7]; rfl
        have x10 : V7.cell? ⟨V0.heap.size, 10, none⟩ = some (.int .i64 q.2.1) := by rw [cell_of_row _ _ _ _ _ _ g7]; rfl
        have x11 : V7.cell? ⟨V0.heap.size, 11, none⟩ = some (.int .i64 q.2.2) := by rw [cell_of_row _ _ _ _ _ _ g7]; rfl
        have x12 : V7.cell? ⟨V0.heap.size, 12, none⟩ = some (.int .i64 q.1) := by rw [cell_of_row _ _ _ _ _ _ g7]; rfl
        have x13 : V7.cell? ⟨V0.heap.size, 13, none⟩ = some (.int .i64 x.old) := by rw [cell_of_row _ _ _ _ _ _ g7]; rfl
        have x14 : V7.cell? ⟨V0.heap.size, 14, none⟩ = some (.int .i64 x.turn) := by rw [cell_of_row _ _ _ _ _ _ g7]; rfl
        have y0 : V7.cell? ⟨G, i * 15, none⟩ = some (.int .i64 t.o.op) := hR7.gv HLV.out HX.out (j := 0) (by omega)
        have y1 : V7.cell? ⟨G, i * 15 + 1, none⟩ = some (.int .i64 t.o.d) := hR7.gv HLV.out HX.out (j := 1) (by omega)
        have y2 : V7.cell? ⟨G, i * 15 + 2, none⟩ = some (.int .i64 t.o.a) := hR7.gv HLV.out HX.out (j := 2) (by omega)
        have y3 : V7.cell? ⟨G, i * 15 + 3, none⟩ = some (.int .i64 t.o.b) := hR7.gv HLV.out HX.out (j := 3) (by omega)
        have y4 : V7.cell? ⟨G, i * 15 + 4, none⟩ = some (.int .i64 t.o.k) := hR7.gv HLV.out HX.out (j := 4) (by omega)
        have y5 : V7.cell? ⟨G, i * 15 + 5, none⟩ = some (.int .i64 t.number) := hR7.gv HLV.out HX.out (j := 5) (by omega)
        have y6 : V7.cell? ⟨G, i * 15 + 6, none⟩ = some (.int .i64 t.issue) := hR7.gv HLV.out HX.out (j := 6) (by omega)
        have y7 : V7.cell? ⟨G, i * 15 + 7, none⟩ = some (.int .i64 t.read) := hR7.gv HLV.out HX.out (j := 7) (by omega)
        have y8 : V7.cell? ⟨G, i * 15 + 8, none⟩ = some (.int .i64 t.done) := hR7.gv HLV.out HX.out (j := 8) (by omega)
        have y9 : V7.cell? ⟨G, i * 15 + 9, none⟩ = some (.int .i64 t.write) := hR7.gv HLV.out HX.out (j := 9) (by omega)
        have y10 : V7.cell? ⟨G, i * 15 + 10, none⟩ = some (.int .i64 x.value) := hR7.gv HLV.out HX.out (j := 10) (by omega)
        have y11 : V7.cell? ⟨G, i * 15 + 11, none⟩ = some (.int .i64 x.loc) := hR7.gv HLV.out HX.out (j := 11) (by omega)
        have y12 : V7.cell? ⟨G, i * 15 + 12, none⟩ = some (.int .i64 t.trap) := hR7.gv HLV.out HX.out (j := 12) (by omega)
        have y13 : V7.cell? ⟨G, i * 15 + 13, none⟩ = some (.int .i64 x.old) := hR7.gv HLV.out HX.out (j := 13) (by omega)
        have y14 : V7.cell? ⟨G, i * 15 + 14, none⟩ = some (.int .i64 x.turn) := hR7.gv HLV.out HX.out (j := 14) (by omega)
        have HR7 := hide hR7
        clear hR7 g7 hgo
        go_upto_region 11 with fail
        refine wp_region_still_tail 7 (by kernel_rfl) (by kernel_rfl) ?_
        simp only [List.take_succ_cons, List.take_zero, List.drop_succ_cons, List.drop_zero]
        repeat still_step
        refine wpStill_nil ?_
        go_wp2_with fail
        obtain ⟨t', ht'⟩ : ∃ t' : Tk, t' = { t with read := cy, done := cy + la.toNat, tgt := (wk t.o t.number xa xb (fs i).mem).1, pl := (wk t.o t.number xa xb (fs i).mem).2.1, val := (wk t.o t.number xa xb (fs i).mem).2.2.1, trap := (wk t.o t.number xa xb (fs i).mem).2.2.2 } := ⟨_, rfl⟩
        have hE2 : fs (i + 1) = { fs i with given := (fs i).given.set i t' } := by
          rw [HE.out, ht']
          unfold readT
          rw [HKN.out, HRA'.out, HRB'.out, Int.toNat_natCast, Int.toNat_natCast, Int.toNat_natCast, ← HXA.out, ← HXB.out, ← HLA2.out, HCY.out]
        have hwk : (wk t.o t.number xa xb (fs i).mem).2.2.2 = q.1 := by
          rw [HQ.out]
          unfold wk
          rw [if_neg HH8.out]
          by_cases hz : (eff t.o xa xb (fs i).mem).1 = 0
          · rw [if_pos hz, hz]
            split <;> rfl
          · rw [if_neg hz]
        have hdn : ((cy + la.toNat : Nat) : Int) = (cy : Int) + la := by omega
        have hC : gvC (t', { x with value := q.2.1, loc := q.2.2 }) = [.int .i64 t.o.op, .int .i64 t.o.d, .int .i64 t.o.a, .int .i64 t.o.b, .int .i64 t.o.k, .int .i64 t.number, .int .i64 t.issue, .int .i64 cy, .int .i64 ((cy : Int) + la), .int .i64 t.write, .int .i64 q.2.1, .int .i64 q.2.2, .int .i64 q.1, .int .i64 x.old, .int .i64 x.turn] := by
          rw [ht']
          unfold gvC
          simp only [hwk, hdn]
        obtain ⟨hA, hK⟩ := HR7.out.putGv (y' := (t', { x with value := q.2.1, loc := q.2.2 })) HLV.out HX.out
        rw [hC] at hA hK
        have hGN : Gh (fs (i + 1)) (gg.set i (t', { x with value := q.2.1, loc := q.2.2 })) := by
          rw [HQ.out]
          refine HGG.out.read HWF.out.cyc HX.out HR0.out HORD.out HH0.out HH8.out (a := xa) (b := xb) t' ?_ ?_
          · rw [ht']; exact ⟨rfl, HCY.out, rfl, rfl⟩
          · rw [hE2]; exact ⟨rfl, rfl⟩
        have hgi := HGI.out
        go_roundg (g.length - (i + 1))
        case measure => omega
        case rel => exact ⟨i + 1, _, by omega, rfl, by go_num, by rw [List.length_set]; exact HGL.out, by rw [hE2]; exact hA.drew, hGN, (HK7.out.trans hK).drew⟩
    · have hie : i = g.length := by omega
      subst hie
      have hnl : ¬ ((g.length : Int) < (gg.length : Int)) := by omega
      clear hil hgi
      go_wp2_with fail
      go_end0
      rw [HFIN.out]
      exact ⟨rfl, gg, hRA, hGG, hKB⟩

end Go.Proofs.YtmeiogoodbnkkaaGreat
