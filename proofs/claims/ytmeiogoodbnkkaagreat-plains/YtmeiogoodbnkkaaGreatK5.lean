/- The book is looked at behind a call; a list is marked by its owner: plain lemmas. -/
import Derived.Test.YtmeiogoodbnkkaaGreatK4
namespace Go.Proofs.YtmeiogoodbnkkaaGreat
open Go.RowKit

theorem grown_draws (w : World) (n : Nat) : w.grownBy (w.drewN n) none := ⟨rfl, rfl, rfl, Nat.le_refl _, fun _ _ _ => rfl⟩

set_option maxRecDepth 100000 in
set_option maxHeartbeats 4000000 in
theorem looks_any (B bb : Nat) (wv aw ew : Value) (ms : List (Value × Nat)) (ys : List (Value × Value × List Int)) (w : World)
    (hb : Bk w B bb wv aw ew ms (ys.map (·.1)) (ys.map (·.2.1)) ys) (hl : ys.length ≤ 5) (hml : ms.length ≤ 1000) :
    Calls Tryz.prog 21 #[.pointer (some ⟨bb, 0, none⟩)] w fun e w' => e = .returned (.bool true) ∧ ∃ n, w' = w.drewN n := by
  obtain ⟨c0, c1, c2, c3, c4, c5, cf⟩ := bk_cells hb rfl
  obtain ⟨pa, ca, ha, hpa⟩ := row_at hb.wait
  subst ha
  simp only [List.length_map] at c2
  have HB := hide hb
  clear hb hpa c0 c1 c3 c5 cf
  go_enter Tryz.func21, Tryz.ntmps21
  go_wp2
  go_quiet (fail)
  go_wp2_with (first | (go_at_call 22; refine (waits_any B bb _ _ _ _ _ _ (HB.out.grow (grown_draws _ _)) (by omega)).mono ?_; rintro e w1 ⟨rfl, n1, rfl⟩) | (go_at_call 25; refine (reads_any B bb _ _ _ _ _ _ _ _ (HB.out.grow (grown_draws _ _)) hml).mono ?_; rintro e w2 ⟨rfl, n2, rfl⟩))
  go_ret
  exact ⟨rfl, _, rfl⟩

/-- Append onto a list without spare room makes a new row. -/
theorem run_append_fresh {P : Program} (w : World) (base : Nat) (t ty e : TypeId) (i : TypeInfo) (z : Value) (bytes : Nat) (ht : P.underlying t = some (.slice e)) (hi : P.info? e = some i) (hz : i.zero = some z)
    (hsize : i.size = 1) (hby : i.bytes = bytes) (hzs : z.cells.size = 1)
    (v : Value) (n : Nat) (xs : List Value) (hown : w.ownsRow base e 1 v n xs) (htg : Tight v)
    (a : Addr) (m c : Nat) (news : List Value) (hl : news.length = m * 1) (hnews : ∀ j u, news[j]? = some u → w.cell? (a.add j) = some u) (h1 : ∀ u ∈ news, u.oneCell' = true) (hm : 0 < m)
    (h63 : n + m ≤ maxLen) (hbytes : (n + m) * bytes ≤ 140737488355328) (hbase : base ≤ w.heap.size) :
    ∃ v' w', (Builtin.append_ #[t, t] ty #[v, .slice (some a) m c]).run P w = .ok v' w' ∧ w'.ownsRow base e 1 v' (n + m) (xs ++ news) ∧ w.grownBy w' none ∧ v'.ownBlock = some w.heap.size := by
  obtain ⟨v', w', hr, h2, h3, _, h5⟩ := run_append_own_at (P := P) w base t ty e i z 1 bytes ht hi hz hsize hby hzs (by omega) v n xs hown a m c news hl hnews h1 h63 hbytes hbase
  refine ⟨v', w', hr, h2, ?_⟩
  rcases hown.2 with ⟨rfl, rfl⟩ | ⟨g, cap, cur, rfl, hbg, hg, hnc, hcm, hcs, htake⟩
  · refine ⟨h3, ?_⟩
    rcases h5 with h5 | h5
    · obtain ⟨g, cap, rfl, _, _⟩ := h2.form (by omega)
      cases h5
    · exact h5
  · have hcn : cap = n := by
      rcases htg with h | ⟨g', n', h⟩
      · cases h
      · simp only [Value.slice.injEq] at h; omega
    subst hcn
    have holds : ∀ j u, xs[j]? = some u → w.cell? ((⟨g, 0, none⟩ : Addr).add j) = some u := hown.cells (g := g) rfl
    have hr2 := run_append_grow (P := P) w t ty e i z ht hi hz ⟨g, 0, none⟩ cap cap xs (by rw [hsize]; exact hown.1) holds a m c news (by rw [hsize]; exact hl) hnews (by omega) (by simp only [maxLen] at h63; omega) (growslice_fits (by omega) (by rw [hby]; exact hbytes))
    rw [hr2] at hr
    simp only [Result.ok.injEq] at hr
    obtain ⟨rfl, rfl⟩ := hr
    exact ⟨⟨rfl, rfl, rfl, by simp, fun k hk _ => Below.heap_alloc w.drew _ k hk⟩, rfl⟩

theorem wpList_append_fresh {P : Program} (w : World) {ops : Array Oper} {rest : List Oper} {o : Oper} {a : Act} {Q : Exit → Act → World → Prop} (hgd : o.guard = none) (s x : Operand) (t : TypeId)
    (ho : o.op = .call { callee := .builtin .append, args := #[s, x], argTypes := #[t, t] })
    (base : Nat) (e : TypeId) (i : TypeInfo) (z : Value) (bytes : Nat) (ht : P.underlying t = some (.slice e)) (hi : P.info? e = some i) (hz : i.zero = some z)
    (hsize : i.size = 1) (hby : i.bytes = bytes) (hzs : z.cells.size = 1)
    (v : Value) (n : Nat) (xs : List Value) (hs : a.eval s = v) (hown : w.ownsRow base e 1 v n xs) (htg : Tight v)
    (ad : Addr) (m c : Nat) (news : List Value) (hx : a.eval x = .slice (some ad) m c) (hl : news.length = m * 1) (hnews : ∀ j u, news[j]? = some u → w.cell? (ad.add j) = some u) (h1 : ∀ u ∈ news, u.oneCell' = true) (hm : 0 < m)
    (h63 : n + m ≤ maxLen) (hbytes : (n + m) * bytes ≤ 140737488355328) (hbase : base ≤ w.heap.size)
    (h : ∀ v' w', w'.ownsRow base e 1 v' (n + m) (xs ++ news) → w.grownBy w' none → v'.ownBlock = some w.heap.size → wpList P ops Q rest (a.put o.dst v') w') :
    wpList P ops Q (o :: rest) a w := by
  refine wpList_plain hgd fun K hK => ?_
  obtain ⟨v', w', hr, h2, h3, h4⟩ := run_append_fresh (P := P) w base t o.type e i z bytes ht hi hz hsize hby hzs v n xs hown htg ad m c news hl hnews h1 hm h63 hbytes hbase
  unfold Oper.wp execOp
  simp only [ho, resolve, invoke, builtin, Sem.run_bind, Sem.run_pure, Result.andThen_ok, List.map_toArray, List.map_cons, List.map_nil, hs, hx, hr]
  exact hK _ _ (h v' w' h2 h3 h4)

section
variable {w w2 : World} {B bb : Nat} {wv aw ew x' : Value} {ms ms' : List (Value × Nat)} {av es : List Value} {ys : List (Value × Value × List Int)}

/-- The first that waits is written into: the others stay. -/
theorem Bk.dropHead {v x : Value} {l : List Int} (h : Bk w B bb wv aw ew ms av es ((v, x, l) :: ys)) (hg : w.grownBy w2 v.ownBlock) : Bk w2 B bb wv aw ew ms av es ys := by
  have hv := (h.each _ (List.mem_cons_self ..)).1
  have hq := List.pairwise_cons.1 h.q1
  have h0 : Bk w B bb wv aw ew ms av es ys := ⟨h.blk, h.base, h.small, h.words, h.wait, h.were, h.marks, fun y hy => h.each y (List.mem_cons_of_mem _ hy), h.r1, h.r2, h.r3, hq.2, fun y hy => h.q2 y (List.mem_cons_of_mem _ hy), fun m hm y hy => h.q3 m hm y (List.mem_cons_of_mem _ hy), h.sizes⟩
  refine h0.kept hg (fun e => bb_ne_row hv h.blk (by decide) e.symm) (fun g e => ⟨fun e' => apart_kind hv h.words (by decide) g e e', fun e' => apart_kind hv h.wait (by decide) g e e', fun e' => apart_kind hv h.were (by decide) g e e', fun y hy => ⟨fun e' => (hq.1 y hy).1 g e e', fun e' => (hq.1 y hy).2.1 g e e'⟩, fun m hm e' => h.q3 m hm _ (List.mem_cons_self ..) g e e'⟩)

theorem Bk.setWv (h : Bk w B bb wv aw ew ms av es ys) (hn : w2.ownsRow B 23 1 x' ms'.length (ms'.map (·.1))) (hg : w.grownBy w2 wv.ownBlock) (hat : x'.ownBlock = wv.ownBlock ∨ x'.ownBlock = some w.heap.size)
    (hmk : ∀ k v n, ms'[k]? = some (v, n) → Own w B v (List.replicate n (-1000003 - ((k / 4 : Nat) : Int)))) (hq : ∀ m ∈ ms', ∀ y ∈ ys, Apart y.1 m.1) (hsz : ∀ m ∈ ms', m.2 ≤ 19) :
    Bk (w2.setCell ⟨bb, 0, none⟩ x') B bb x' aw ew ms' av es ys := by
  have hbk : w2.heap[bb]? = some (.cells #[wv, .slice none 0 0, aw, ew, .slice none 0 0, .slice none 0 0] 28 (0, 0)) := by
    rw [hg.block bb (Array.getElem?_eq_some_iff.1 h.blk).1 (bb_ne_row h.words h.blk (by decide))]; exact h.blk
  refine ⟨heap_setCell_same _ _ 0 _ _ _ hbk, h.base, Nat.le_trans h.small (by simpa [World.setCell] using hg.size), own_set_bb hn hbk (by decide) _ _, own_set_bb (kept_apart h.wait hg h.r1.symm) hbk (by decide) _ _, own_set_bb (kept_apart h.were hg h.r2.symm) hbk (by decide) _ _, ?_, ?_, (apart_new h.wait h.r1.symm hat).symm, (apart_new h.were h.r2.symm hat).symm, h.r3, h.q1, h.q2, hq, hsz⟩
  · intro k v n hk
    exact own_set_bb (kept_apart (hmk k v n hk) hg (apart_kind (hmk k v n hk) h.words (by decide))) hbk (by decide) _ _
  · intro y hy
    obtain ⟨a1, a2, a3⟩ := h.each y hy
    exact ⟨own_set_bb (kept_apart a1 hg (apart_kind a1 h.words (by decide))) hbk (by decide) _ _, own_set_bb (kept_apart a2 hg (apart_kind a2 h.words (by decide))) hbk (by decide) _ _, a3⟩
end

theorem Own.grow {w w' : World} {B : Nat} {v : Value} {l : List Int} (h : Own w B v l) (hg : w.grownBy w' none) : Own w' B v l :=
  World.ownsRow.kept h hg (by cases v.ownBlock <;> simp)

theorem mark_step (l : List Int) (m : Int) (k : Nat) (h : k < l.length) : (List.replicate k m ++ l.drop k).set k m = List.replicate (k + 1) m ++ l.drop (k + 1) := by
  rw [List.set_append_right _ _ (by simp)]
  simp only [List.length_replicate, Nat.sub_self]
  rw [List.drop_eq_getElem_cons h, List.set_cons_zero, List.replicate_succ', List.append_assoc]
  rfl

theorem mark_len (l : List Int) (m : Int) (k : Nat) (h : k ≤ l.length) : (List.replicate k m ++ l.drop k).length = l.length := by simp; omega

theorem newsN {W : World} {cs : Array Value} {N : Nat} {e : TypeId} (hN : W.heap.size = N) : ∀ j u, cs.toList[j]? = some u → (W.alloc (.cells cs e)).cell? ((⟨N, 0, none⟩ : Addr).add j) = some u := by
  subst hN
  exact World.news_of_block (heap_alloc_new _ _)

end Go.Proofs.YtmeiogoodbnkkaaGreat
