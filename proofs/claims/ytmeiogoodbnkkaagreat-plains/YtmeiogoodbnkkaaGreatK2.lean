/- A list that came out goes into the book. -/
import Derived.Test.YtmeiogoodbnkkaaGreatK1
import Derived.Test.YtmeiogoodbnkkaaGreatU
import Derived.Deep.AppendLies
namespace Go.Proofs.YtmeiogoodbnkkaaGreat
open Go.RowKit

theorem Tryz.info23 : (Tryz.prog.info? 23).map (fun i => (i.zero, i.size, i.bytes)) = some (some (.slice none 0 0), 1, 24) := by kernel_rfl

theorem own_of {w : World} {B : Nat} {v : Value} {l : List Int} (h : w.ownsRow B 2 1 v (0 + l.length) ([] ++ l.map (Value.int .i64))) : Own w B v l := by simpa [Own] using h
theorem row_snoc {w : World} {B : Nat} {v x : Value} {l : List Value} (h : w.ownsRow B 23 1 v (l.length + 1) (l ++ [x])) : w.ownsRow B 23 1 v (l ++ [x]).length (l ++ [x]) := by simpa using h

theorem news1 {W : World} {x : Value} {N : Nat} {e : TypeId} (hN : W.heap.size = N) : ∀ j u, [x][j]? = some u → (W.alloc (.cells #[x] e)).cell? ((⟨N, 0, none⟩ : Addr).add j) = some u := by
  subst hN
  exact World.news_of_block (cs := #[x]) (heap_alloc_new _ _)

theorem Kp.own {bb B : Nat} {w w' : World} {cs : Array Value} {v : Value} {l : List Int} (h : Kp bb w w') (hb : w.heap[bb]? = some (.cells cs 28 (0, 0))) (hv : Own w B v l) : Own w' B v l := by
  refine ⟨hv.1, ?_⟩
  rcases hv.2 with h2 | ⟨g, cap, cur, rfl, hB, hh, rest⟩
  · exact .inl h2
  · refine .inr ⟨g, cap, cur, rfl, hB, ?_, rest⟩
    rw [h.block g (Array.getElem?_eq_some_iff.1 hh).1 ?_ ?_]
    · exact hh
    · rintro rfl
      rw [hb] at hh
      simp at hh
    · intro c f e
      rw [hh] at e
      simp at e

theorem bk_cells {w : World} {B bb : Nat} {wv aw ew : Value} {ms : List (Value × Nat)} {av es : List Value} {ys : List (Value × Value × List Int)} (h : Bk w B bb wv aw ew ms av es ys) {w2 : World} (hb : w2.heap[bb]? = w.heap[bb]?) :
    w2.cell? ⟨bb, 0, none⟩ = some wv ∧ w2.cell? ⟨bb, 1, none⟩ = some (.slice none 0 0) ∧ w2.cell? ⟨bb, 2, none⟩ = some aw ∧ w2.cell? ⟨bb, 3, none⟩ = some ew ∧ w2.cell? ⟨bb, 4, none⟩ = some (.slice none 0 0) ∧ w2.cell? ⟨bb, 5, none⟩ = some (.slice none 0 0) ∧ ∀ j, w2.frozen? ⟨bb, j, none⟩ = false := by
  rw [h.blk] at hb
  exact ⟨cell_of_row w2 bb 0 _ _ _ hb, cell_of_row w2 bb 1 _ _ _ hb, cell_of_row w2 bb 2 _ _ _ hb, cell_of_row w2 bb 3 _ _ _ hb, cell_of_row w2 bb 4 _ _ _ hb, cell_of_row w2 bb 5 _ _ _ hb, fun j => by simp [World.frozen?, hb]⟩

theorem Bk.addY {w : World} {B bb : Nat} {wv aw ew : Value} {ms : List (Value × Nat)} {av es : List Value} {ys : List (Value × Value × List Int)} (h : Bk w B bb wv aw ew ms av es ys) {v x : Value} {l : List Int} (hv : Own w B v l) (hx : Own w B x l) (hl : l.length ≤ 16)
    (hy : ∀ y ∈ ys, Apart y.1 v ∧ Apart y.1 x ∧ Apart v y.2.1) (hvx : Apart v x) (hm : ∀ m ∈ ms, Apart v m.1) : Bk w B bb wv aw ew ms av es (ys ++ [(v, x, l)]) := by
  refine ⟨h.blk, h.base, h.small, h.words, h.wait, h.were, h.marks, ?_, h.r1, h.r2, h.r3, ?_, ?_, ?_, h.sizes⟩
  · intro y hy'
    rcases List.mem_append.1 hy' with h' | h'
    · exact h.each y h'
    · simp at h'; subst h'; exact ⟨hv, hx, hl⟩
  · rw [List.pairwise_append]
    refine ⟨h.q1, by simp, fun a ha b hb => ?_⟩
    simp at hb; subst hb
    exact hy a ha
  · intro y hy'
    rcases List.mem_append.1 hy' with h' | h'
    · exact h.q2 y h'
    · simp at h'; subst h'; exact hvx
  · intro m hm' y hy'
    rcases List.mem_append.1 hy' with h' | h'
    · exact h.q3 m hm' y h'
    · simp at h'; subst h'; exact hm m hm'

set_option maxRecDepth 100000 in
set_option maxHeartbeats 4000000 in
theorem keepWords_any (B bb : Nat) (wv aw ew : Value) (ms : List (Value × Nat)) (av es : List Value) (ys : List (Value × Value × List Int)) (v : Value) (l : List Int) (w : World)
    (hb : Bk w B bb wv aw ew ms av es ys) (hv : Own w B v l) (hl : l.length ≤ 16) (ha : av.length ≤ 1000) (he : es.length ≤ 1000)
    (hy : ∀ y ∈ ys, Apart y.1 v ∧ Apart v y.2.1) (hm : ∀ m ∈ ms, Apart v m.1) :
    Calls Tryz.prog 13 #[.pointer (some ⟨bb, 0, none⟩), v] w fun e w' => e = .returned (.tuple #[]) ∧ Kp bb w w' ∧ Below B w w' ∧
      ∃ aw' ew' x, Bk w' B bb wv aw' ew' ms (av ++ [v]) (es ++ [x]) (ys ++ [(v, x, l)]) ∧ ∀ g, x.ownBlock = some g → w.heap.size ≤ g := by
  obtain ⟨i0, hi0, hz0, hz1, hz2⟩ := info_parts Tryz.info2
  obtain ⟨j0, hj0, hy0, hy1, hy2⟩ := info_parts Tryz.info23
  obtain ⟨p, c, rfl, hrd⟩ := hv.slice
  have HRD := hide hrd
  have HB := hide hb
  have HV := hide hv
  have hbz := (Array.getElem?_eq_some_iff.1 hb.blk).1
  have c2 : w.cell? ⟨bb, 2, none⟩ = some aw := by rw [cell_of_row w bb 2 _ _ _ hb.blk]; rfl
  have c3 : w.cell? ⟨bb, 3, none⟩ = some ew := by rw [cell_of_row w bb 3 _ _ _ hb.blk]; rfl
  have f0 : ∀ j, w.frozen? ⟨bb, j, none⟩ = false := fun j => by simp [World.frozen?, hb.blk]
  clear hrd hb hv
  go_enter Tryz.func13, Tryz.ntmps13
  go_wp2_with (first
    | (refine wpList_append_any _ rfl (.tmp 5) (.tmp 6) 23 rfl B 2 i0 (.int .i64 0) 8 Tryz.underlying23 hi0 hz0 hz1 hz2 rfl (.slice none 0 0) 0 [] (by rfl) (World.ownsRow_nil _ _ _ _) p l.length c (l.map (Value.int .i64)) (by rfl) (by simp) (rd_news HRD.out) (ints_one l) (by unfold maxLen; omega) (by omega) HB.out.small ?_; intro x w1 hown1 hgr1 hat1; have HG1 : Hid (w.grownBy w1 none) := hgr1; have HX := hide (own_of hown1); obtain ⟨px, cx, hpx, _⟩ := HX.out.slice; subst hpx; obtain ⟨d0, d1, d2, d3, d4, d5, df⟩ := bk_cells HB.out (HG1.out.block bb hbz (by simp)); have HBW := hide (HB.out.grow HG1.out); have HAT1 := hide hat1; clear hown1 hgr1 hat1 d0 d1 d3 d4 d5)
    | (refine wpList_append_keeps _ rfl (.tmp 12) (.tmp 14) 25 rfl B 23 j0 (.slice none 0 0) 24 Tryz.underlying25 hj0 hy0 hy1 hy2 rfl aw av.length av (by rfl) (World.ownsRow.alloc HBW.out.wait _) ⟨w1.heap.size, 0, none⟩ 1 1 [.slice p l.length c] (by rfl) (by simp) (World.news_of_block (heap_alloc_new _ _)) (by intro u hu; simp at hu; subst hu; rfl) (by unfold maxLen; omega) (by omega) (by have := HBW.out.small; simp; omega) ?_; intro aw' w2 hown2 hold2 hgr2 hat2; obtain ⟨ga, ca, hga, _, _⟩ := World.ownsRow.form hown2 (by omega); subst hga; have HB1 := hide (HBW.out.grow (World.grownBy_alloc w1 (.cells #[.slice p l.length c] 23) none)); have HG2 := hide hgr2; obtain ⟨e0, e1, e2, e3, e4, e5, ef⟩ := bk_cells HB1.out (hgr2.block bb (by have := HG1.out.size; simp; omega) (bb_ne_row HB1.out.wait HB1.out.blk (by decide))); have HB2 := hide (HB1.out.setAw (row_snoc hown2) hgr2 hat2); clear hown2 hold2 hgr2 hat2 e0 e1 e4 e5)
    | (refine wpList_append_keeps _ rfl (.tmp 22) (.tmp 24) 25 rfl B 23 j0 (.slice none 0 0) 24 Tryz.underlying25 hj0 hy0 hy1 hy2 rfl ew es.length es (by rfl) (World.ownsRow.alloc HB2.out.were _) ⟨w2.heap.size, 0, none⟩ 1 1 [.slice px l.length cx] (by rfl) (by simp) (news1 (by simp [World.setCell])) (by intro u hu; simp at hu; subst hu; rfl) (by unfold maxLen; omega) (by omega) (by have := HB2.out.small; simp; omega) ?_; intro ew' w3 hown3 hold3 hgr3 hat3; obtain ⟨ge, ce, hge, _, _⟩ := World.ownsRow.form hown3 (by omega); subst hge; have HB3 := hide (HB2.out.grow (World.grownBy_alloc _ (.cells #[.slice px l.length cx] 23) none)); have HG3 := hide hgr3; obtain ⟨h0, h1, h2, h3, h4, h5, hff⟩ := bk_cells HB3.out (hgr3.block bb (by have := HG1.out.size; have := HG2.out.size; simp [World.setCell] at *; omega) (bb_ne_row HB3.out.were HB3.out.blk (by decide))); have HB4 := hide (HB3.out.setEw (row_snoc hown3) hgr3 hat3); clear hown3 hold3 hgr3 hat3 h0 h1 h2 h4 h5))
  have k1 : Kp bb w w1 := Kp.grow HG1.out
  have k2 := Kp.grow (bb := bb) (World.grownBy_alloc w1 (.cells #[.slice p l.length c] 23) none)
  have k3 := Kp.row (bb := bb) HB1.out.wait HG2.out
  have k4 := Kp.setBb (bb := bb) w2 2 (Value.slice (some ⟨ga, 0, none⟩) (av.length + 1) ca)
  have k5 := Kp.grow (bb := bb) (World.grownBy_alloc (w2.setCell ⟨bb, 2, none⟩ (Value.slice (some ⟨ga, 0, none⟩) (av.length + 1) ca)) (.cells #[.slice px l.length cx] 23) none)
  have k6 := Kp.row (bb := bb) HB3.out.were HG3.out
  have k7 := Kp.setBb (bb := bb) w3 3 (Value.slice (some ⟨ge, 0, none⟩) (es.length + 1) ce)
  have kx := ((((k2.trans k3).trans k4).trans k5).trans k6).trans k7
  have kw := k1.trans kx
  have hsm := HB.out.small
  have b1 : Below B w w1 := (Below.refl _ _).grown HG1.out hsm (by intro k hk; cases hk)
  have b2 := b1.alloc (by have := HG1.out.size; omega) (.cells #[.slice p l.length c] 23)
  have b3 := b2.grown HG2.out HB1.out.small (fun k hk => (World.ownsRow.lt HB1.out.wait k hk).1)
  have b4 := b3.setCell (p := ⟨bb, 2, none⟩) HB.out.base (Value.slice (some ⟨ga, 0, none⟩) (av.length + 1) ca)
  have b5 := b4.alloc HB2.out.small (.cells #[.slice px l.length cx] 23)
  have b6 := b5.grown HG3.out HB3.out.small (fun k hk => (World.ownsRow.lt HB3.out.were k hk).1)
  have b7 := b6.setCell (p := ⟨bb, 3, none⟩) HB.out.base (Value.slice (some ⟨ge, 0, none⟩) (es.length + 1) ce)
  have hxl : ∀ {v' : Value} {l' : List Int}, Own w B v' l' → Apart v' (Value.slice px l.length cx) := fun h => apart_new h (fun g _ h2 => by cases h2) HAT1.out
  go_end0
  refine ⟨rfl, kw, b7, _, _, _, HB4.out.addY (kw.own HB.out.blk HV.out) (kx.own HBW.out.blk HX.out) hl (fun y hy' => ⟨(hy y hy').1, hxl (HB.out.each y hy').1, (hy y hy').2⟩) (hxl HV.out) hm, fun g hg => ?_⟩
  rcases HAT1.out with h | h
  · rw [h] at hg; cases hg
  · rw [h] at hg; simp only [Option.some.injEq] at hg; omega

end Go.Proofs.YtmeiogoodbnkkaaGreat
