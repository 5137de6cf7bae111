/- Append onto what the call owns: the old list still reads the same. And the book of the lists that came out. -/
import Derived.Test.YtmeiogoodbnkkaaGreatCLPM
import Derived.Maps.AppendAt
namespace Go.Proofs.YtmeiogoodbnkkaaGreat
open Go.RowKit

theorem run_append_keeps {P : Program} (w : World) (base : Nat) (t ty e : TypeId) (i : TypeInfo) (z : Value) (bytes : Nat) (ht : P.underlying t = some (.slice e)) (hi : P.info? e = some i) (hz : i.zero = some z)
    (hsize : i.size = 1) (hby : i.bytes = bytes) (hzs : z.cells.size = 1)
    (v : Value) (n : Nat) (xs : List Value) (hown : w.ownsRow base e 1 v n xs)
    (a : Addr) (m c : Nat) (news : List Value) (hl : news.length = m * 1) (hnews : ∀ j u, news[j]? = some u → w.cell? (a.add j) = some u) (h1 : ∀ u ∈ news, u.oneCell' = true)
    (h63 : n + m ≤ maxLen) (hbytes : (n + m) * bytes ≤ 140737488355328) (hbase : base ≤ w.heap.size) :
    ∃ v' w', (Builtin.append_ #[t, t] ty #[v, .slice (some a) m c]).run P w = .ok v' w' ∧ w'.ownsRow base e 1 v' (n + m) (xs ++ news) ∧ w'.ownsRow base e 1 v n xs ∧ w.grownBy w' v.ownBlock ∧ (v'.ownBlock = v.ownBlock ∨ v'.ownBlock = some w.heap.size) := by
  obtain ⟨v', w', hr, h2, h3, _, h5⟩ := run_append_own_at (P := P) w base t ty e i z 1 bytes ht hi hz hsize hby hzs (by omega) v n xs hown a m c news hl hnews h1 h63 hbytes hbase
  refine ⟨v', w', hr, h2, ?_, h3, h5⟩
  rcases hown.2 with ⟨rfl, rfl⟩ | ⟨g, cap, cur, rfl, hbg, hg, hnc, hcm, hcs, htake⟩
  · exact ⟨hown.1, .inl ⟨rfl, rfl⟩⟩
  · by_cases hroom : n + m ≤ cap
    · have hfit : n * i.size + news.length ≤ cur.size := by rw [hsize, hl, hcs]; omega
      have hr2 := run_append_room (P := P) w t ty e i ht hi g n cap cur hg a m c news (by rw [hsize]; exact hl) hnews h1 hroom hfit
      rw [hr2] at hr
      simp only [Result.ok.injEq] at hr
      obtain ⟨_, rfl⟩ := hr
      refine ⟨hown.1, .inr ⟨g, cap, _, rfl, hbg, setRow_heap w g cur _ e _ hg, hnc, hcm, ?_, ?_⟩⟩
      · simp only [List.size_toArray, List.length_append, List.length_take, List.length_drop, Array.length_toList]
        omega
      · rw [hsize, htake, List.append_assoc, List.take_append_of_le_length (Nat.le_of_eq hown.1.symm), List.take_of_length_le (Nat.le_of_eq hown.1)]
    · have holds : ∀ j u, xs[j]? = some u → w.cell? ((⟨g, 0, none⟩ : Addr).add j) = some u := hown.cells (g := g) rfl
      have hr2 := run_append_grow (P := P) w t ty e i z ht hi hz ⟨g, 0, none⟩ n cap xs (by rw [hsize]; exact hown.1) holds a m c news (by rw [hsize]; exact hl) hnews (by omega) (by simp only [maxLen] at h63; omega) (growslice_fits (by omega) (by rw [hby]; exact hbytes))
      rw [hr2] at hr
      simp only [Result.ok.injEq] at hr
      obtain ⟨_, rfl⟩ := hr
      exact World.ownsRow.alloc (World.ownsRow.drew hown) _

theorem wpList_append_keeps {P : Program} (w : World) {ops : Array Oper} {rest : List Oper} {o : Oper} {a : Act} {Q : Exit → Act → World → Prop} (hgd : o.guard = none) (s x : Operand) (t : TypeId)
    (ho : o.op = .call { callee := .builtin .append, args := #[s, x], argTypes := #[t, t] })
    (base : Nat) (e : TypeId) (i : TypeInfo) (z : Value) (bytes : Nat) (ht : P.underlying t = some (.slice e)) (hi : P.info? e = some i) (hz : i.zero = some z)
    (hsize : i.size = 1) (hby : i.bytes = bytes) (hzs : z.cells.size = 1)
    (v : Value) (n : Nat) (xs : List Value) (hs : a.eval s = v) (hown : w.ownsRow base e 1 v n xs)
    (ad : Addr) (m c : Nat) (news : List Value) (hx : a.eval x = .slice (some ad) m c) (hl : news.length = m * 1) (hnews : ∀ j u, news[j]? = some u → w.cell? (ad.add j) = some u) (h1 : ∀ u ∈ news, u.oneCell' = true)
    (h63 : n + m ≤ maxLen) (hbytes : (n + m) * bytes ≤ 140737488355328) (hbase : base ≤ w.heap.size)
    (h : ∀ v' w', w'.ownsRow base e 1 v' (n + m) (xs ++ news) → w'.ownsRow base e 1 v n xs → w.grownBy w' v.ownBlock → (v'.ownBlock = v.ownBlock ∨ v'.ownBlock = some w.heap.size) → wpList P ops Q rest (a.put o.dst v') w') :
    wpList P ops Q (o :: rest) a w := by
  refine wpList_plain hgd fun K hK => ?_
  obtain ⟨v', w', hr, h2, h3, h4, h5⟩ := run_append_keeps (P := P) w base t o.type e i z bytes ht hi hz hsize hby hzs v n xs hown ad m c news hl hnews h1 h63 hbytes hbase
  unfold Oper.wp execOp
  simp only [ho, resolve, invoke, builtin, Sem.run_bind, Sem.run_pure, Result.andThen_ok, List.map_toArray, List.map_cons, List.map_nil, hs, hx, hr]
  exact hK _ _ (h v' w' h2 h3 h4 h5)

/-- Two lists lie in different rows. -/
def Apart (a b : Value) : Prop := ∀ g, a.ownBlock = some g → b.ownBlock ≠ some g
theorem Apart.symm {a b : Value} (h : Apart a b) : Apart b a := fun g h1 h2 => h g h2 h1

/-- The row of a list that is owned. -/
theorem row_of {w : World} {B : Nat} {e : TypeId} {v : Value} {n : Nat} {xs : List Value} (h : w.ownsRow B e 1 v n xs) {g : Nat} (hg : v.ownBlock = some g) : ∃ cur, w.heap[g]? = some (.cells cur e (0, 0)) := by
  rcases h.2 with ⟨rfl, _⟩ | ⟨g', cap, cur, rfl, _, hh, _⟩
  · cases hg
  · simp [Value.ownBlock] at hg; subst hg; exact ⟨cur, hh⟩

/-- Rows of different kinds are different rows. -/
theorem apart_kind {w : World} {B B' : Nat} {e e' : TypeId} {v v' : Value} {n n' : Nat} {xs xs' : List Value} (h : w.ownsRow B e 1 v n xs) (h' : w.ownsRow B' e' 1 v' n' xs') (hne : e ≠ e') : Apart v v' := by
  intro g h1 h2
  obtain ⟨c, hc⟩ := row_of h h1
  obtain ⟨c', hc'⟩ := row_of h' h2
  rw [hc] at hc'
  simp only [Option.some.injEq, Obj.cells.injEq] at hc'
  exact hne hc'.2.1

theorem kept_apart {w w' : World} {B : Nat} {e : TypeId} {v r : Value} {n : Nat} {xs : List Value} (h : w.ownsRow B e 1 v n xs) (hg : w.grownBy w' r.ownBlock) (ha : Apart v r) : w'.ownsRow B e 1 v n xs := by
  refine h.kept hg ?_
  cases hv : v.ownBlock with
  | none => exact .inl rfl
  | some g => exact .inr (fun e => ha g hv e.symm)

/-- The book: its block, its three rows, the lists that were marked, those that wait. -/
structure Bk (w : World) (B bb : Nat) (wv aw ew : Value) (ms : List (Value × Nat)) (av es : List Value) (ys : List (Value × Value × List Int)) : Prop where
  blk : w.heap[bb]? = some (.cells #[wv, .slice none 0 0, aw, ew, .slice none 0 0, .slice none 0 0] 28 (0, 0))
  base : B ≤ bb
  small : B ≤ w.heap.size
  words : w.ownsRow B 23 1 wv ms.length (ms.map (·.1))
  wait : w.ownsRow B 23 1 aw av.length av
  were : w.ownsRow B 23 1 ew es.length es
  marks : ∀ k v n, ms[k]? = some (v, n) → Own w B v (List.replicate n (-1000003 - ((k / 4 : Nat) : Int)))
  each : ∀ y ∈ ys, Own w B y.1 y.2.2 ∧ Own w B y.2.1 y.2.2 ∧ y.2.2.length ≤ 16
  r1 : Apart wv aw
  r2 : Apart wv ew
  r3 : Apart aw ew
  q1 : ys.Pairwise fun x y => Apart x.1 y.1 ∧ Apart x.1 y.2.1 ∧ Apart y.1 x.2.1
  q2 : ∀ y ∈ ys, Apart y.1 y.2.1
  q3 : ∀ m ∈ ms, ∀ y ∈ ys, Apart y.1 m.1
  sizes : ∀ m ∈ ms, m.2 ≤ 19

/-- What turns no row of the book leaves the book alone. -/
theorem Bk.kept {w w' : World} {B bb : Nat} {wv aw ew : Value} {ms : List (Value × Nat)} {av es : List Value} {ys : List (Value × Value × List Int)} (h : Bk w B bb wv aw ew ms av es ys) {row : Option Nat} (hg : w.grownBy w' row)
    (hbb : row ≠ some bb) (h1 : ∀ g, row = some g → wv.ownBlock ≠ some g ∧ aw.ownBlock ≠ some g ∧ ew.ownBlock ≠ some g ∧ (∀ y ∈ ys, y.1.ownBlock ≠ some g ∧ y.2.1.ownBlock ≠ some g) ∧ ∀ m ∈ ms, m.1.ownBlock ≠ some g) : Bk w' B bb wv aw ew ms av es ys := by
  have hk : ∀ {e : TypeId} {v : Value} {n : Nat} {xs : List Value}, w.ownsRow B e 1 v n xs → (∀ g, row = some g → v.ownBlock ≠ some g) → w'.ownsRow B e 1 v n xs := by
    intro e v n xs hv hr
    refine hv.kept hg ?_
    cases row with
    | none => cases hb : v.ownBlock with
      | none => exact .inl rfl
      | some g => exact .inr (by simp)
    | some g => exact .inr (hr g rfl)
  refine ⟨?_, h.base, Nat.le_trans h.small hg.size, hk h.words fun g e => (h1 g e).1, hk h.wait fun g e => (h1 g e).2.1, hk h.were fun g e => (h1 g e).2.2.1, ?_, ?_, h.r1, h.r2, h.r3, h.q1, h.q2, h.q3, h.sizes⟩
  · rw [hg.block bb (Array.getElem?_eq_some_iff.1 h.blk).1 (fun e => hbb e.symm)]; exact h.blk
  · intro k v n hk'
    exact hk (h.marks k v n hk') fun g e => (h1 g e).2.2.2.2 (v, n) (List.mem_of_getElem? hk')
  · intro y hy
    obtain ⟨a1, a2, a3⟩ := h.each y hy
    exact ⟨hk a1 fun g e => ((h1 g e).2.2.2.1 y hy).1, hk a2 fun g e => ((h1 g e).2.2.2.1 y hy).2, a3⟩

theorem Bk.grow {w w' : World} {B bb : Nat} {wv aw ew : Value} {ms : List (Value × Nat)} {av es : List Value} {ys : List (Value × Value × List Int)} (h : Bk w B bb wv aw ew ms av es ys) (hg : w.grownBy w' none) : Bk w' B bb wv aw ew ms av es ys :=
  h.kept hg (by simp) (fun g e => by cases e)

/-- A row that is not the book's own block, behind a store into that block. -/
theorem own_set_bb {w : World} {B bb : Nat} {e : TypeId} {v : Value} {n : Nat} {xs : List Value} {cs : Array Value} (h : w.ownsRow B e 1 v n xs) (hb : w.heap[bb]? = some (.cells cs 28 (0, 0))) (he : e ≠ 28) (j : Nat) (u : Value) :
    (w.setCell ⟨bb, j, none⟩ u).ownsRow B e 1 v n xs := by
  refine ⟨h.1, ?_⟩
  rcases h.2 with h2 | ⟨g, cap, cur, rfl, hB, hh, rest⟩
  · exact .inl h2
  · refine .inr ⟨g, cap, cur, rfl, hB, ?_, rest⟩
    have hne : g ≠ bb := by
      rintro rfl
      rw [hb] at hh
      simp only [Option.some.injEq, Obj.cells.injEq] at hh
      exact he hh.2.1.symm
    rw [Below.heap_setCell _ _ _ _ hne]
    exact hh

theorem bb_ne_row {w : World} {B bb : Nat} {e : TypeId} {v : Value} {n : Nat} {xs : List Value} {cs : Array Value} (h : w.ownsRow B e 1 v n xs) (hb : w.heap[bb]? = some (.cells cs 28 (0, 0))) (he : e ≠ 28) : some bb ≠ v.ownBlock := by
  intro hv
  obtain ⟨cur, hh⟩ := row_of h hv.symm
  rw [hb] at hh
  simp only [Option.some.injEq, Obj.cells.injEq] at hh
  exact he hh.2.1.symm

theorem apart_new {w : World} {B : Nat} {e : TypeId} {v x y : Value} {n : Nat} {xs : List Value} (h : w.ownsRow B e 1 v n xs) (ha : Apart v x) (hy : y.ownBlock = x.ownBlock ∨ y.ownBlock = some w.heap.size) : Apart v y := by
  intro g h1 h2
  rcases hy with e1 | e1
  · rw [e1] at h2; exact ha g h1 h2
  · rw [e1] at h2
    have := (World.ownsRow.lt h g h1).2
    simp only [Option.some.injEq] at h2
    omega

section
variable {w w2 : World} {B bb : Nat} {wv aw ew x' : Value} {ms : List (Value × Nat)} {av es : List Value} {ys : List (Value × Value × List Int)}

theorem Bk.setAw {av' : List Value} (h : Bk w B bb wv aw ew ms av es ys) (hn : w2.ownsRow B 23 1 x' av'.length av') (hg : w.grownBy w2 aw.ownBlock) (hat : x'.ownBlock = aw.ownBlock ∨ x'.ownBlock = some w.heap.size) :
    Bk (w2.setCell ⟨bb, 2, none⟩ x') B bb wv x' ew ms av' es ys := by
  have hbk : w2.heap[bb]? = some (.cells #[wv, .slice none 0 0, aw, ew, .slice none 0 0, .slice none 0 0] 28 (0, 0)) := by
    rw [hg.block bb (Array.getElem?_eq_some_iff.1 h.blk).1 (bb_ne_row h.wait h.blk (by decide))]; exact h.blk
  refine ⟨heap_setCell_same _ _ 2 _ _ _ hbk, h.base, Nat.le_trans h.small (by simpa [World.setCell] using hg.size), own_set_bb (kept_apart h.words hg h.r1) hbk (by decide) _ _, own_set_bb hn hbk (by decide) _ _, own_set_bb (kept_apart h.were hg h.r3.symm) hbk (by decide) _ _, ?_, ?_, apart_new h.words h.r1 hat, h.r2, (apart_new h.were h.r3.symm hat).symm, h.q1, h.q2, h.q3, h.sizes⟩
  · intro k v n hk
    exact own_set_bb (kept_apart (h.marks k v n hk) hg (apart_kind (h.marks k v n hk) h.wait (by decide))) hbk (by decide) _ _
  · intro y hy
    obtain ⟨a1, a2, a3⟩ := h.each y hy
    exact ⟨own_set_bb (kept_apart a1 hg (apart_kind a1 h.wait (by decide))) hbk (by decide) _ _, own_set_bb (kept_apart a2 hg (apart_kind a2 h.wait (by decide))) hbk (by decide) _ _, a3⟩

theorem Bk.setEw {es' : List Value} (h : Bk w B bb wv aw ew ms av es ys) (hn : w2.ownsRow B 23 1 x' es'.length es') (hg : w.grownBy w2 ew.ownBlock) (hat : x'.ownBlock = ew.ownBlock ∨ x'.ownBlock = some w.heap.size) :
    Bk (w2.setCell ⟨bb, 3, none⟩ x') B bb wv aw x' ms av es' ys := by
  have hbk : w2.heap[bb]? = some (.cells #[wv, .slice none 0 0, aw, ew, .slice none 0 0, .slice none 0 0] 28 (0, 0)) := by
    rw [hg.block bb (Array.getElem?_eq_some_iff.1 h.blk).1 (bb_ne_row h.were h.blk (by decide))]; exact h.blk
  refine ⟨heap_setCell_same _ _ 3 _ _ _ hbk, h.base, Nat.le_trans h.small (by simpa [World.setCell] using hg.size), own_set_bb (kept_apart h.words hg h.r2) hbk (by decide) _ _, own_set_bb (kept_apart h.wait hg h.r3) hbk (by decide) _ _, own_set_bb hn hbk (by decide) _ _, ?_, ?_, h.r1, apart_new h.words h.r2 hat, apart_new h.wait h.r3 hat, h.q1, h.q2, h.q3, h.sizes⟩
  · intro k v n hk
    exact own_set_bb (kept_apart (h.marks k v n hk) hg (apart_kind (h.marks k v n hk) h.were (by decide))) hbk (by decide) _ _
  · intro y hy
    obtain ⟨a1, a2, a3⟩ := h.each y hy
    exact ⟨own_set_bb (kept_apart a1 hg (apart_kind a1 h.were (by decide))) hbk (by decide) _ _, own_set_bb (kept_apart a2 hg (apart_kind a2 h.were (by decide))) hbk (by decide) _ _, a3⟩
end

/-- Every block that is neither the book's nor a row of lists is as it was. -/
structure Kp (bb : Nat) (w w' : World) : Prop where
  size : w.heap.size ≤ w'.heap.size
  block : ∀ k, k < w.heap.size → k ≠ bb → (∀ cur fr, w.heap[k]? ≠ some (.cells cur 23 fr)) → w'.heap[k]? = w.heap[k]?

theorem Kp.refl (bb : Nat) (w : World) : Kp bb w w := ⟨Nat.le_refl _, fun _ _ _ _ => rfl⟩
theorem Kp.trans {bb : Nat} {a b c : World} (h : Kp bb a b) (h' : Kp bb b c) : Kp bb a c :=
  ⟨Nat.le_trans h.size h'.size, fun k hk hne ht => by rw [h'.block k (Nat.lt_of_lt_of_le hk h.size) hne (by rw [h.block k hk hne ht]; exact ht), h.block k hk hne ht]⟩
theorem Kp.grow {bb : Nat} {w w' : World} (h : w.grownBy w' none) : Kp bb w w' := ⟨h.size, fun k hk _ _ => h.block k hk (by simp)⟩
theorem Kp.row {bb B : Nat} {w w' : World} {r : Value} {n : Nat} {xs : List Value} (hr : w.ownsRow B 23 1 r n xs) (h : w.grownBy w' r.ownBlock) : Kp bb w w' :=
  ⟨h.size, fun k hk _ ht => h.block k hk (fun e => by obtain ⟨cur, hc⟩ := row_of hr e.symm; exact ht _ _ hc)⟩
theorem Kp.setBb {bb : Nat} (w : World) (j : Nat) (u : Value) : Kp bb w (w.setCell ⟨bb, j, none⟩ u) :=
  ⟨by simp [World.setCell], fun k _ hne _ => Below.heap_setCell _ _ _ _ hne⟩

theorem grown_of_below {w w' : World} (h : Below w.heap.size w w') : w.grownBy w' none := ⟨h.os, h.tape, h.output, h.size, fun k hk _ => h.block k hk⟩

end Go.Proofs.YtmeiogoodbnkkaaGreat
