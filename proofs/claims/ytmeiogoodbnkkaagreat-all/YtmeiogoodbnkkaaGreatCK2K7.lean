/- Several texts in one: K2, K3, K4, K5, K6, K7. -/
import Derived.Test.YtmeiogoodbnkkaaGreatCK1
import Derived.Test.YtmeiogoodbnkkaaGreatCUH3
import Derived.Deep.AppendLies
import Derived.Test.YtmeiogoodbnkkaaGreatCEB
import Derived.Test.YtmeiogoodbnkkaaGreatCA
/- A list that came out goes into the book. -/
namespace Go.Proofs.YtmeiogoodbnkkaaGreat
open Go.RowKit

theorem Tryz.info23 : (Tryz.prog.info? 23).map (fun i => (i.zero, i.size, i.bytes)) = some (some (.slice none 0 0), 1, 24) := by kernel_rfl

theorem own_of {w : World} {B : Nat} {v : Value} {l : List Int} (h : w.ownsRow B 2 1 v (0 + l.length) ([] ++ l.map (Value.int .i64))) : Own w B v l := by simpa [Own] using h
theorem row_snoc {w : World} {B : Nat} {v x : Value} {l : List Value} (h : w.ownsRow B 23 1 v (l.length + 1) (l ++ [x])) : w.ownsRow B 23 1 v (l ++ [x]).length (l ++ [x]) := by simpa using h

theorem news1 {W : World} {x : Value} {N : Nat} {e : TypeId} (hN : W.heap.size = N) : ∀ j u, [x][j]? = some u → (W.alloc (.cells #[x] e)).cell? ((⟨N, 0, none⟩ : Addr).add j) = some u := by
  subst hN
  exact World.news_of_block (cs := #[x]) (heap_alloc_new _ _)

theorem Kp.own {bb B : Nat} {w w' : World} {cs : Array Value} {v : Value} {l : List Int} (h : Kp bb w w') (hb : w.heap[bb]? = some (.cells cs 28 (0, 0))) (hv : Own w B v l) : Own w' B v l := by
  refine ⟨hv.1, ?_⟩
  rcases hv.2 with h2 | ⟨g, cap, cur, rfl, hB, hh, rest⟩
  · exact .inl h2
  · refine .inr ⟨g, cap, cur, rfl, hB, ?_, rest⟩
    rw [h.block g (Array.getElem?_eq_some_iff.1 hh).1 ?_ ?_]
    · exact hh
    · rintro rfl
      rw [hb] at hh
      simp at hh
    · intro c f e
      rw [hh] at e
      simp at e

theorem bk_cells {w : World} {B bb : Nat} {wv aw ew : Value} {ms : List (Value × Nat)} {av es : List Value} {ys : List (Value × Value × List Int)} (h : Bk w B bb wv aw ew ms av es ys) {w2 : World} (hb : w2.heap[bb]? = w.heap[bb]?) :
    w2.cell? ⟨bb, 0, none⟩ = some wv ∧ w2.cell? ⟨bb, 1, none⟩ = some (.slice none 0 0) ∧ w2.cell? ⟨bb, 2, none⟩ = some aw ∧ w2.cell? ⟨bb, 3, none⟩ = some ew ∧ w2.cell? ⟨bb, 4, none⟩ = some (.slice none 0 0) ∧ w2.cell? ⟨bb, 5, none⟩ = some (.slice none 0 0) ∧ ∀ j, w2.frozen? ⟨bb, j, none⟩ = false := by
  rw [h.blk] at hb
  exact ⟨cell_of_row w2 bb 0 _ _ _ hb, cell_of_row w2 bb 1 _ _ _ hb, cell_of_row w2 bb 2 _ _ _ hb, cell_of_row w2 bb 3 _ _ _ hb, cell_of_row w2 bb 4 _ _ _ hb, cell_of_row w2 bb 5 _ _ _ hb, fun j => by simp [World.frozen?, hb]⟩

theorem Bk.addY {w : World} {B bb : Nat} {wv aw ew : Value} {ms : List (Value × Nat)} {av es : List Value} {ys : List (Value × Value × List Int)} (h : Bk w B bb wv aw ew ms av es ys) {v x : Value} {l : List Int} (hv : Own w B v l) (hx : Own w B x l) (hl : l.length ≤ 16)
    (hy : ∀ y ∈ ys, Apart y.1 v ∧ Apart y.1 x ∧ Apart v y.2.1) (hvx : Apart v x) (hm : ∀ m ∈ ms, Apart v m.1) : Bk w B bb wv aw ew ms av es (ys ++ [(v, x, l)]) := by
  refine ⟨h.blk, h.base, h.small, h.words, h.wait, h.were, h.marks, ?_, h.r1, h.r2, h.r3, ?_, ?_, ?_, h.sizes⟩
  · intro y hy'
    rcases List.mem_append.1 hy' with h' | h'
    · exact h.each y h'
    · simp at h'; subst h'; exact ⟨hv, hx, hl⟩
  · rw [List.pairwise_append]
    refine ⟨h.q1, by simp, fun a ha b hb => ?_⟩
    simp at hb; subst hb
    exact hy a ha
  · intro y hy'
    rcases List.mem_append.1 hy' with h' | h'
    · exact h.q2 y h'
    · simp at h'; subst h'; exact hvx
  · intro m hm' y hy'
    rcases List.mem_append.1 hy' with h' | h'
    · exact h.q3 m hm' y h'
    · simp at h'; subst h'; exact hm m hm'

set_option maxRecDepth 100000 in
set_option maxHeartbeats 4000000 in
theorem keepWords_any (B bb : Nat) (wv aw ew : Value) (ms : List (Value × Nat)) (av es : List Value) (ys : List (Value × Value × List Int)) (v : Value) (l : List Int) (w : World)
    (hb : Bk w B bb wv aw ew ms av es ys) (hv : Own w B v l) (hl : l.length ≤ 16) (ha : av.length ≤ 1000) (he : es.length ≤ 1000)
    (hy : ∀ y ∈ ys, Apart y.1 v ∧ Apart v y.2.1) (hm : ∀ m ∈ ms, Apart v m.1) :
    Calls Tryz.prog 13 #[.pointer (some ⟨bb, 0, none⟩), v] w fun e w' => e = .returned (.tuple #[]) ∧ Kp bb w w' ∧ Below B w w' ∧
      ∃ aw' ew' x, Bk w' B bb wv aw' ew' ms (av ++ [v]) (es ++ [x]) (ys ++ [(v, x, l)]) ∧ ∀ g, x.ownBlock = some g → w.heap.size ≤ g := by
  obtain ⟨i0, hi0, hz0, hz1, hz2⟩ := info_parts Tryz.info2
  obtain ⟨j0, hj0, hy0, hy1, hy2⟩ := info_parts Tryz.info23
  obtain ⟨p, c, rfl, hrd⟩ := hv.slice
  have HRD := hide hrd
  have HB := hide hb
  have HV := hide hv
  have hbz := (Array.getElem?_eq_some_iff.1 hb.blk).1
  have c2 : w.cell? ⟨bb, 2, none⟩ = some aw := by rw [cell_of_row w bb 2 _ _ _ hb.blk]; rfl
  have c3 : w.cell? ⟨bb, 3, none⟩ = some ew := by rw [cell_of_row w bb 3 _ _ _ hb.blk]; rfl
  have f0 : ∀ j, w.frozen? ⟨bb, j, none⟩ = false := fun j => by simp [World.frozen?, hb.blk]
  clear hrd hb hv
  go_enter Tryz.func13, Tryz.ntmps13
  go_wp2_with (first
    | (refine wpList_append_any _ rfl (.tmp 5) (.tmp 6) 23 rfl B 2 i0 (.int .i64 0) 8 Tryz.underlying23 hi0 hz0 hz1 hz2 rfl (.slice none 0 0) 0 [] (by rfl) (World.ownsRow_nil _ _ _ _) p l.length c (l.map (Value.int .i64)) (by rfl) (by simp) (rd_news HRD.out) (ints_one l) (by unfold maxLen; omega) (by omega) HB.out.small ?_; intro x w1 hown1 hgr1 hat1; have HG1 : Hid (w.grownBy w1 none) := hgr1; have HX := hide (own_of hown1); obtain ⟨px, cx, hpx, _⟩ := HX.out.slice; subst hpx; obtain ⟨d0, d1, d2, d3, d4, d5, df⟩ := bk_cells HB.out (HG1.out.block bb hbz (by simp)); have HBW := hide (HB.out.grow HG1.out); have HAT1 := hide hat1; clear hown1 hgr1 hat1 d0 d1 d3 d4 d5)
    | (refine wpList_append_keeps _ rfl (.tmp 12) (.tmp 14) 25 rfl B 23 j0 (.slice none 0 0) 24 Tryz.underlying25 hj0 hy0 hy1 hy2 rfl aw av.length av (by rfl) (World.ownsRow.alloc HBW.out.wait _) ⟨w1.heap.size, 0, none⟩ 1 1 [.slice p l.length c] (by rfl) (by simp) (World.news_of_block (heap_alloc_new _ _)) (by intro u hu; simp at hu; subst hu; rfl) (by unfold maxLen; omega) (by omega) (by have := HBW.out.small; simp; omega) ?_; intro aw' w2 hown2 hold2 hgr2 hat2; obtain ⟨ga, ca, hga, _, _⟩ := World.ownsRow.form hown2 (by omega); subst hga; have HB1 := hide (HBW.out.grow (World.grownBy_alloc w1 (.cells #[.slice p l.length c] 23) none)); have HG2 := hide hgr2; obtain ⟨e0, e1, e2, e3, e4, e5, ef⟩ := bk_cells HB1.out (hgr2.block bb (by have := HG1.out.size; simp; omega) (bb_ne_row HB1.out.wait HB1.out.blk (by decide))); have HB2 := hide (HB1.out.setAw (row_snoc hown2) hgr2 hat2); clear hown2 hold2 hgr2 hat2 e0 e1 e4 e5)
    | (refine wpList_append_keeps _ rfl (.tmp 22) (.tmp 24) 25 rfl B 23 j0 (.slice none 0 0) 24 Tryz.underlying25 hj0 hy0 hy1 hy2 rfl ew es.length es (by rfl) (World.ownsRow.alloc HB2.out.were _) ⟨w2.heap.size, 0, none⟩ 1 1 [.slice px l.length cx] (by rfl) (by simp) (news1 (by simp [World.setCell])) (by intro u hu; simp at hu; subst hu; rfl) (by unfold maxLen; omega) (by omega) (by have := HB2.out.small; simp; omega) ?_; intro ew' w3 hown3 hold3 hgr3 hat3; obtain ⟨ge, ce, hge, _, _⟩ := World.ownsRow.form hown3 (by omega); subst hge; have HB3 := hide (HB2.out.grow (World.grownBy_alloc _ (.cells #[.slice px l.length cx] 23) none)); have HG3 := hide hgr3; obtain ⟨h0, h1, h2, h3, h4, h5, hff⟩ := bk_cells HB3.out (hgr3.block bb (by have := HG1.out.size; have := HG2.out.size; simp [World.setCell] at *; omega) (bb_ne_row HB3.out.were HB3.out.blk (by decide))); have HB4 := hide (HB3.out.setEw (row_snoc hown3) hgr3 hat3); clear hown3 hold3 hgr3 hat3 h0 h1 h2 h4 h5))
  have k1 : Kp bb w w1 := Kp.grow HG1.out
  have k2 := Kp.grow (bb := bb) (World.grownBy_alloc w1 (.cells #[.slice p l.length c] 23) none)
  have k3 := Kp.row (bb := bb) HB1.out.wait HG2.out
  have k4 := Kp.setBb (bb := bb) w2 2 (Value.slice (some ⟨ga, 0, none⟩) (av.length + 1) ca)
  have k5 := Kp.grow (bb := bb) (World.grownBy_alloc (w2.setCell ⟨bb, 2, none⟩ (Value.slice (some ⟨ga, 0, none⟩) (av.length + 1) ca)) (.cells #[.slice px l.length cx] 23) none)
  have k6 := Kp.row (bb := bb) HB3.out.were HG3.out
  have k7 := Kp.setBb (bb := bb) w3 3 (Value.slice (some ⟨ge, 0, none⟩) (es.length + 1) ce)
  have kx := ((((k2.trans k3).trans k4).trans k5).trans k6).trans k7
  have kw := k1.trans kx
  have hsm := HB.out.small
  have b1 : Below B w w1 := (Below.refl _ _).grown HG1.out hsm (by intro k hk; cases hk)
  have b2 := b1.alloc (by have := HG1.out.size; omega) (.cells #[.slice p l.length c] 23)
  have b3 := b2.grown HG2.out HB1.out.small (fun k hk => (World.ownsRow.lt HB1.out.wait k hk).1)
  have b4 := b3.setCell (p := ⟨bb, 2, none⟩) HB.out.base (Value.slice (some ⟨ga, 0, none⟩) (av.length + 1) ca)
  have b5 := b4.alloc HB2.out.small (.cells #[.slice px l.length cx] 23)
  have b6 := b5.grown HG3.out HB3.out.small (fun k hk => (World.ownsRow.lt HB3.out.were k hk).1)
  have b7 := b6.setCell (p := ⟨bb, 3, none⟩) HB.out.base (Value.slice (some ⟨ge, 0, none⟩) (es.length + 1) ce)
  have hxl : ∀ {v' : Value} {l' : List Int}, Own w B v' l' → Apart v' (Value.slice px l.length cx) := fun h => apart_new h (fun g _ h2 => by cases h2) HAT1.out
  go_end0
  refine ⟨rfl, kw, b7, _, _, _, HB4.out.addY (kw.own HB.out.blk HV.out) (kx.own HBW.out.blk HX.out) hl (fun y hy' => ⟨(hy y hy').1, hxl (HB.out.each y hy').1, (hy y hy').2⟩) (hxl HV.out) hm, fun g hg => ?_⟩
  rcases HAT1.out with h | h
  · rw [h] at hg; cases hg
  · rw [h] at hg; simp only [Option.some.injEq] at hg; omega

end Go.Proofs.YtmeiogoodbnkkaaGreat

/- The book is looked at: those that wait read the same. -/
namespace Go.Proofs.YtmeiogoodbnkkaaGreat
open Go.RowKit

theorem row_at {w : World} {B : Nat} {e : TypeId} {v : Value} {n : Nat} {xs : List Value} (h : w.ownsRow B e 1 v n xs) : ∃ p c, v = .slice p n c ∧ ∀ k, k < n → ∃ g, p = some ⟨g, 0, none⟩ ∧ w.cell? ⟨g, k, none⟩ = xs[k]? := by
  have hlen : xs.length = n := by simpa using h.1
  rcases h.2 with ⟨rfl, rfl⟩ | ⟨g, cap, cur, rfl, _, hh, hc, _, hs, ht⟩
  · exact ⟨none, 0, rfl, fun k hk => by omega⟩
  · refine ⟨_, cap, rfl, fun k hk => ⟨g, rfl, ?_⟩⟩
    rw [cell_of_row w g k _ _ _ hh, ← ht, Nat.mul_one, List.getElem?_take_of_lt hk]
    simp

theorem same_self (pa pb : Option Addr) (ca cb : Nat) (l : List Int) (w : World) (ha : Rd w pa l) (hb : Rd w pb l) (hl : l.length ≤ 1000000) :
    Calls Tryz.prog 31 #[.slice pa l.length ca, .slice pb l.length cb] w fun e w' => e = .returned (.bool true) ∧ ∃ n, w' = w.drewN n := by
  have := sameWords_any pa pb ca cb l l w ha hb hl hl
  simpa using this

theorem Rd.drewN {w : World} {p : Option Addr} {l : List Int} (h : Rd w p l) (n : Nat) : Rd (w.drewN n) p l := h.below (Nat.le_refl _) (below_drewN (Below.refl _ _) n)

set_option maxRecDepth 100000 in
set_option maxHeartbeats 4000000 in
theorem waits_any (B bb : Nat) (wv aw ew : Value) (ms : List (Value × Nat)) (ys : List (Value × Value × List Int)) (w : World)
    (hb : Bk w B bb wv aw ew ms (ys.map (·.1)) (ys.map (·.2.1)) ys) (hl : ys.length ≤ 1000) :
    Calls Tryz.prog 22 #[.pointer (some ⟨bb, 0, none⟩)] w fun e w' => e = .returned (.bool true) ∧ ∃ n, w' = w.drewN n := by
  obtain ⟨c0, c1, c2, c3, c4, c5, cf⟩ := bk_cells hb rfl
  obtain ⟨pa, ca, ha, hpa⟩ := row_at hb.wait
  obtain ⟨pe, ce, he, hpe⟩ := row_at hb.were
  subst ha
  subst he
  simp only [List.length_map] at hpa hpe c2 c3
  have HPA := hide hpa
  have HPE := hide hpe
  have HB := hide hb
  clear hb hpa hpe c0 c1 c5 cf
  go_enter Tryz.func22, Tryz.ntmps22
  go_wp2
  go_loopw [3, 4] (fun ok i wr => ∃ k : Nat, k ≤ ys.length ∧ ok = .bool true ∧ i = .int .i64 k ∧ ∃ n, wr = w.drewN n) (fun _ i _ => ys.length - (intOf i).toNat)
  case atStart => exact ⟨0, Nat.zero_le _, rfl, rfl, 0, rfl⟩
  case round =>
    obtain ⟨k, hk, rfl, rfl, n, hwr⟩ := hrel
    have hcw : ∀ a, wr.cell? a = w.cell? a := fun a => by rw [hwr]; rfl
    have b2 : wr.cell? ⟨bb, 2, none⟩ = some (.slice pa ys.length ca) := (hcw _).trans c2
    have b3 : wr.cell? ⟨bb, 3, none⟩ = some (.slice pe ys.length ce) := (hcw _).trans c3
    have b4 : wr.cell? ⟨bb, 4, none⟩ = some (.slice none 0 0) := (hcw _).trans c4
    by_cases hlt : k < ys.length
    · obtain ⟨ga, hga, d1⟩ := HPA.out k hlt
      obtain ⟨ge, hge, d2⟩ := HPE.out k hlt
      subst hga
      subst hge
      obtain ⟨e1, e2, e3⟩ := HB.out.each ys[k] (List.getElem_mem hlt)
      obtain ⟨p1, c1, h1, r1⟩ := e1.slice
      obtain ⟨p2, c2', h2, r2⟩ := e2.slice
      have d1' : wr.cell? ⟨ga, k, none⟩ = some (.slice p1 ys[k].2.2.length c1) := by rw [hcw, d1]; simp [hlt, h1]
      have d2' : wr.cell? ⟨ge, k, none⟩ = some (.slice p2 ys[k].2.2.length c2') := by rw [hcw, d2]; simp [hlt, h2]
      have r1 : Rd wr p1 ys[k].2.2 := by rw [hwr]; exact r1.drewN n
      have r2 : Rd wr p2 ys[k].2.2 := by rw [hwr]; exact r2.drewN n
      have HWR := hide hwr
      clear hwr hcw
      obtain ⟨l, hll⟩ : ∃ l, l = ys[k].2.2 := ⟨_, rfl⟩
      rw [← hll] at d1' d2' r1 r2 e3
      have R1 := hide r1
      have R2 := hide r2
      have t1 : (k : Int) < (ys.length : Int) := by omega
      clear d1 d2 h1 h2 r1 r2 e1 e2 hll
      go_wp2
      go_quiet ((go_at_call 31; refine Calls.quiet_of (same_self _ _ _ _ _ _ (R1.out.drewN _) (R2.out.drewN _) (by omega))))
      go_wp2
      go_roundw
      case rel => exact ⟨k + 1, by omega, rfl, by go_num, n + nq, by rw [HWR.out]; simp⟩
      case measure => simp [intOf]; omega
    · have t1 : ¬ (k : Int) < (ys.length : Int) := by omega
      subst hwr
      clear hcw
      go_wp2
      go_loopw [3, 6] (fun ok i wr => ok = .bool true ∧ i = .int .i64 0 ∧ ∃ n, wr = w.drewN n) (fun _ _ _ => 0)
      case atStart => exact ⟨rfl, rfl, n, rfl⟩
      case round =>
        obtain ⟨rfl, rfl, n', rfl⟩ := hrel
        go_wp2
        go_ret
        exact ⟨rfl, n', rfl⟩

end Go.Proofs.YtmeiogoodbnkkaaGreat

/- The book is looked at: those that were marked read as their owner wrote them. -/
namespace Go.Proofs.YtmeiogoodbnkkaaGreat
open Go.RowKit

set_option maxRecDepth 100000 in
set_option maxHeartbeats 4000000 in
theorem bookReads_any (B bb : Nat) (wv aw ew : Value) (ms : List (Value × Nat)) (av es : List Value) (ys : List (Value × Value × List Int)) (w : World)
    (hb : Bk w B bb wv aw ew ms av es ys) (hl : ms.length ≤ 1000) :
    Calls Tryz.prog 25 #[.pointer (some ⟨bb, 0, none⟩)] w fun e w' => e = .returned (.bool true) ∧ ∃ n, w' = w.drewN n := by
  obtain ⟨c0, c1, c2, c3, c4, c5, cf⟩ := bk_cells hb rfl
  obtain ⟨pa, ca, ha, hpa⟩ := row_at hb.words
  subst ha
  have HPA := hide hpa
  have HB := hide hb
  clear hb hpa c2 c3 c4 c5 cf
  go_enter Tryz.func25, Tryz.ntmps25
  go_wp2
  go_loopw [3, 4] (fun ok i wr => ∃ k : Nat, k ≤ ms.length ∧ ok = .bool true ∧ i = .int .i64 k ∧ ∃ n, wr = w.drewN n) (fun _ i _ => ms.length - (intOf i).toNat)
  case atStart => exact ⟨0, Nat.zero_le _, rfl, rfl, 0, rfl⟩
  case round =>
    obtain ⟨k, hk, rfl, rfl, n, hwr⟩ := hrel
    rename World => wo
    have hcw : ∀ a, wo.cell? a = w.cell? a := fun a => by rw [hwr]; rfl
    have b0 : wo.cell? ⟨bb, 0, none⟩ = some (.slice pa ms.length ca) := (hcw _).trans c0
    have b1 : wo.cell? ⟨bb, 1, none⟩ = some (.slice none 0 0) := (hcw _).trans c1
    by_cases hlt : k < ms.length
    · obtain ⟨ga, hga, d1⟩ := HPA.out k hlt
      subst hga
      have hmk := HB.out.marks k ms[k].1 ms[k].2 (by simp [hlt])
      have hsz := HB.out.sizes ms[k] (List.getElem_mem hlt)
      obtain ⟨p1, cc1, h1, r1⟩ := hmk.slice
      have d1' : wo.cell? ⟨ga, k, none⟩ = some (.slice p1 ms[k].2 cc1) := by rw [hcw, d1]; simp [hlt, h1]
      have r1 : Rd wo p1 (List.replicate ms[k].2 (-1000003 - ((k / 4 : Nat) : Int))) := by rw [hwr]; exact r1.drewN n
      have hk4 : ((k / 4 : Nat) : Int) = (k : Int) / 4 := by omega
      rw [hk4] at r1
      obtain ⟨m, hm⟩ : ∃ m, m = ms[k].2 := ⟨_, rfl⟩
      rw [← hm] at d1' r1 hsz
      have R1 := hide r1
      have t1 : (k : Int) < (ms.length : Int) := by omega
      have HWR := hide hwr
      clear d1 h1 r1 hmk hwr hcw hm hk4
      go_wp2
      go_loopw [3, 5] (fun ok i wr => ∃ j : Nat, j ≤ m ∧ ok = .bool true ∧ i = .int .i64 j ∧ ∃ n', wr = wo.drewN n') (fun _ i _ => m - (intOf i).toNat)
      case atStart => exact ⟨0, Nat.zero_le _, rfl, rfl, 0, rfl⟩
      case round =>
        obtain ⟨j, hj, rfl, rfl, n', hwq⟩ := hrel
        have hcq : ∀ a, wr.cell? a = wo.cell? a := fun a => by rw [hwq]; rfl
        have f0 : wr.cell? ⟨bb, 0, none⟩ = some (.slice (some ⟨ga, 0, none⟩) ms.length ca) := (hcq _).trans b0
        have f1 : wr.cell? ⟨ga, k, none⟩ = some (.slice p1 m cc1) := (hcq _).trans d1'
        by_cases hjl : j < m
        · obtain ⟨gb, off, hp, _, hc⟩ := R1.out.at (i := j) (by simp; omega)
          subst hp
          have f2 : wr.cell? ⟨gb, off + j, none⟩ = some (.int .i64 (-1000003 - (k : Int) / 4)) := by
            rw [hcq, hc j (by simp; omega)]
            simp [List.getD_eq_getElem?_getD, hjl]
          have t2 : (j : Int) < (m : Int) := by omega
          have t3 : ((-1000003 - (k : Int) / 4) == (-1000003 - (k : Int) / 4)) = true := by simp
          have HWQ := hide hwq
          clear hcq hwq hc
          go_wp2
          go_quiet ((go_at_call 40; exact Calls.quiet_of_same (word_any _ _ (by omega) (by omega))))
          go_wp2
          go_roundw
          case rel => exact ⟨j + 1, by omega, rfl, by go_num, n' + nq, by rw [HWQ.out]; simp⟩
          case measure => simp [intOf]; omega
        · have t2 : ¬ (j : Int) < (m : Int) := by omega
          have HWQ := hide hwq
          clear hcq hwq
          go_wp2
          go_roundw
          case rel => exact ⟨k + 1, by omega, rfl, by go_num, n + n', by rw [HWQ.out, HWR.out]; simp⟩
          case measure => simp [intOf]; omega
    · have t1 : ¬ (k : Int) < (ms.length : Int) := by omega
      subst hwr
      clear hcw
      go_wp2
      go_loopw [3, 6] (fun ok i wr => ok = .bool true ∧ i = .int .i64 0 ∧ ∃ n, wr = w.drewN n) (fun _ _ _ => 0)
      case atStart => exact ⟨rfl, rfl, n, rfl⟩
      case round =>
        obtain ⟨rfl, rfl, n', rfl⟩ := hrel
        go_wp2
        go_ret
        exact ⟨rfl, n', rfl⟩

end Go.Proofs.YtmeiogoodbnkkaaGreat

/- The book is looked at behind a call; a list is marked by its owner: plain lemmas. -/
namespace Go.Proofs.YtmeiogoodbnkkaaGreat
open Go.RowKit

theorem grown_draws (w : World) (n : Nat) : w.grownBy (w.drewN n) none := ⟨rfl, rfl, rfl, Nat.le_refl _, fun _ _ _ => rfl⟩

set_option maxRecDepth 100000 in
set_option maxHeartbeats 4000000 in
theorem looks_any (B bb : Nat) (wv aw ew : Value) (ms : List (Value × Nat)) (ys : List (Value × Value × List Int)) (w : World)
    (hb : Bk w B bb wv aw ew ms (ys.map (·.1)) (ys.map (·.2.1)) ys) (hl : ys.length ≤ 5) (hml : ms.length ≤ 1000) :
    Calls Tryz.prog 21 #[.pointer (some ⟨bb, 0, none⟩)] w fun e w' => e = .returned (.bool true) ∧ ∃ n, w' = w.drewN n := by
  obtain ⟨c0, c1, c2, c3, c4, c5, cf⟩ := bk_cells hb rfl
  obtain ⟨pa, ca, ha, hpa⟩ := row_at hb.wait
  subst ha
  simp only [List.length_map] at c2
  have HB := hide hb
  clear hb hpa c0 c1 c3 c5 cf
  go_enter Tryz.func21, Tryz.ntmps21
  go_wp2
  go_quiet (fail)
  go_wp2_with (first | (go_at_call 22; refine (waits_any B bb _ _ _ _ _ _ (HB.out.grow (grown_draws _ _)) (by omega)).mono ?_; rintro e w1 ⟨rfl, n1, rfl⟩) | (go_at_call 25; refine (bookReads_any B bb _ _ _ _ _ _ _ _ (HB.out.grow (grown_draws _ _)) hml).mono ?_; rintro e w2 ⟨rfl, n2, rfl⟩))
  go_ret
  exact ⟨rfl, _, rfl⟩

/-- Append onto a list without spare room makes a new row. -/
theorem run_append_fresh {P : Program} (w : World) (base : Nat) (t ty e : TypeId) (i : TypeInfo) (z : Value) (bytes : Nat) (ht : P.underlying t = some (.slice e)) (hi : P.info? e = some i) (hz : i.zero = some z)
    (hsize : i.size = 1) (hby : i.bytes = bytes) (hzs : z.cells.size = 1)
    (v : Value) (n : Nat) (xs : List Value) (hown : w.ownsRow base e 1 v n xs) (htg : Tight v)
    (a : Addr) (m c : Nat) (news : List Value) (hl : news.length = m * 1) (hnews : ∀ j u, news[j]? = some u → w.cell? (a.add j) = some u) (h1 : ∀ u ∈ news, u.oneCell' = true) (hm : 0 < m)
    (h63 : n + m ≤ maxLen) (hbytes : (n + m) * bytes ≤ 140737488355328) (hbase : base ≤ w.heap.size) :
    ∃ v' w', (Builtin.append_ #[t, t] ty #[v, .slice (some a) m c]).run P w = .ok v' w' ∧ w'.ownsRow base e 1 v' (n + m) (xs ++ news) ∧ w.grownBy w' none ∧ v'.ownBlock = some w.heap.size := by
  obtain ⟨v', w', hr, h2, h3, _, h5⟩ := run_append_own_at (P := P) w base t ty e i z 1 bytes ht hi hz hsize hby hzs (by omega) v n xs hown a m c news hl hnews h1 h63 hbytes hbase
  refine ⟨v', w', hr, h2, ?_⟩
  rcases hown.2 with ⟨rfl, rfl⟩ | ⟨g, cap, cur, rfl, hbg, hg, hnc, hcm, hcs, htake⟩
  · refine ⟨h3, ?_⟩
    rcases h5 with h5 | h5
    · obtain ⟨g, cap, rfl, _, _⟩ := h2.form (by omega)
      cases h5
    · exact h5
  · have hcn : cap = n := by
      rcases htg with h | ⟨g', n', h⟩
      · cases h
      · simp only [Value.slice.injEq] at h; omega
    subst hcn
    have holds : ∀ j u, xs[j]? = some u → w.cell? ((⟨g, 0, none⟩ : Addr).add j) = some u := hown.cells (g := g) rfl
    have hr2 := run_append_grow (P := P) w t ty e i z ht hi hz ⟨g, 0, none⟩ cap cap xs (by rw [hsize]; exact hown.1) holds a m c news (by rw [hsize]; exact hl) hnews (by omega) (by simp only [maxLen] at h63; omega) (growslice_fits (by omega) (by rw [hby]; exact hbytes))
    rw [hr2] at hr
    simp only [Result.ok.injEq] at hr
    obtain ⟨rfl, rfl⟩ := hr
    exact ⟨⟨rfl, rfl, rfl, by simp, fun k hk _ => Below.heap_alloc w.drew _ k hk⟩, rfl⟩

theorem wpList_append_fresh {P : Program} (w : World) {ops : Array Oper} {rest : List Oper} {o : Oper} {a : Act} {Q : Exit → Act → World → Prop} (hgd : o.guard = none) (s x : Operand) (t : TypeId)
    (ho : o.op = .call { callee := .builtin .append, args := #[s, x], argTypes := #[t, t] })
    (base : Nat) (e : TypeId) (i : TypeInfo) (z : Value) (bytes : Nat) (ht : P.underlying t = some (.slice e)) (hi : P.info? e = some i) (hz : i.zero = some z)
    (hsize : i.size = 1) (hby : i.bytes = bytes) (hzs : z.cells.size = 1)
    (v : Value) (n : Nat) (xs : List Value) (hs : a.eval s = v) (hown : w.ownsRow base e 1 v n xs) (htg : Tight v)
    (ad : Addr) (m c : Nat) (news : List Value) (hx : a.eval x = .slice (some ad) m c) (hl : news.length = m * 1) (hnews : ∀ j u, news[j]? = some u → w.cell? (ad.add j) = some u) (h1 : ∀ u ∈ news, u.oneCell' = true) (hm : 0 < m)
    (h63 : n + m ≤ maxLen) (hbytes : (n + m) * bytes ≤ 140737488355328) (hbase : base ≤ w.heap.size)
    (h : ∀ v' w', w'.ownsRow base e 1 v' (n + m) (xs ++ news) → w.grownBy w' none → v'.ownBlock = some w.heap.size → wpList P ops Q rest (a.put o.dst v') w') :
    wpList P ops Q (o :: rest) a w := by
  refine wpList_plain hgd fun K hK => ?_
  obtain ⟨v', w', hr, h2, h3, h4⟩ := run_append_fresh (P := P) w base t o.type e i z bytes ht hi hz hsize hby hzs v n xs hown htg ad m c news hl hnews h1 hm h63 hbytes hbase
  unfold Oper.wp execOp
  simp only [ho, resolve, invoke, builtin, Sem.run_bind, Sem.run_pure, Result.andThen_ok, List.map_toArray, List.map_cons, List.map_nil, hs, hx, hr]
  exact hK _ _ (h v' w' h2 h3 h4)

section
variable {w w2 : World} {B bb : Nat} {wv aw ew x' : Value} {ms ms' : List (Value × Nat)} {av es : List Value} {ys : List (Value × Value × List Int)}

/-- The first that waits is written into: the others stay. -/
theorem Bk.dropHead {v x : Value} {l : List Int} (h : Bk w B bb wv aw ew ms av es ((v, x, l) :: ys)) (hg : w.grownBy w2 v.ownBlock) : Bk w2 B bb wv aw ew ms av es ys := by
  have hv := (h.each _ (List.mem_cons_self ..)).1
  have hq := List.pairwise_cons.1 h.q1
  have h0 : Bk w B bb wv aw ew ms av es ys := ⟨h.blk, h.base, h.small, h.words, h.wait, h.were, h.marks, fun y hy => h.each y (List.mem_cons_of_mem _ hy), h.r1, h.r2, h.r3, hq.2, fun y hy => h.q2 y (List.mem_cons_of_mem _ hy), fun m hm y hy => h.q3 m hm y (List.mem_cons_of_mem _ hy), h.sizes⟩
  refine h0.kept hg (fun e => bb_ne_row hv h.blk (by decide) e.symm) (fun g e => ⟨fun e' => apart_kind hv h.words (by decide) g e e', fun e' => apart_kind hv h.wait (by decide) g e e', fun e' => apart_kind hv h.were (by decide) g e e', fun y hy => ⟨fun e' => (hq.1 y hy).1 g e e', fun e' => (hq.1 y hy).2.1 g e e'⟩, fun m hm e' => h.q3 m hm _ (List.mem_cons_self ..) g e e'⟩)

theorem Bk.setWv (h : Bk w B bb wv aw ew ms av es ys) (hn : w2.ownsRow B 23 1 x' ms'.length (ms'.map (·.1))) (hg : w.grownBy w2 wv.ownBlock) (hat : x'.ownBlock = wv.ownBlock ∨ x'.ownBlock = some w.heap.size)
    (hmk : ∀ k v n, ms'[k]? = some (v, n) → Own w B v (List.replicate n (-1000003 - ((k / 4 : Nat) : Int)))) (hq : ∀ m ∈ ms', ∀ y ∈ ys, Apart y.1 m.1) (hsz : ∀ m ∈ ms', m.2 ≤ 19) :
    Bk (w2.setCell ⟨bb, 0, none⟩ x') B bb x' aw ew ms' av es ys := by
  have hbk : w2.heap[bb]? = some (.cells #[wv, .slice none 0 0, aw, ew, .slice none 0 0, .slice none 0 0] 28 (0, 0)) := by
    rw [hg.block bb (Array.getElem?_eq_some_iff.1 h.blk).1 (bb_ne_row h.words h.blk (by decide))]; exact h.blk
  refine ⟨heap_setCell_same _ _ 0 _ _ _ hbk, h.base, Nat.le_trans h.small (by simpa [World.setCell] using hg.size), own_set_bb hn hbk (by decide) _ _, own_set_bb (kept_apart h.wait hg h.r1.symm) hbk (by decide) _ _, own_set_bb (kept_apart h.were hg h.r2.symm) hbk (by decide) _ _, ?_, ?_, (apart_new h.wait h.r1.symm hat).symm, (apart_new h.were h.r2.symm hat).symm, h.r3, h.q1, h.q2, hq, hsz⟩
  · intro k v n hk
    exact own_set_bb (kept_apart (hmk k v n hk) hg (apart_kind (hmk k v n hk) h.words (by decide))) hbk (by decide) _ _
  · intro y hy
    obtain ⟨a1, a2, a3⟩ := h.each y hy
    exact ⟨own_set_bb (kept_apart a1 hg (apart_kind a1 h.words (by decide))) hbk (by decide) _ _, own_set_bb (kept_apart a2 hg (apart_kind a2 h.words (by decide))) hbk (by decide) _ _, a3⟩
end

theorem Own.grow {w w' : World} {B : Nat} {v : Value} {l : List Int} (h : Own w B v l) (hg : w.grownBy w' none) : Own w' B v l :=
  World.ownsRow.kept h hg (by cases v.ownBlock <;> simp)

theorem mark_step (l : List Int) (m : Int) (k : Nat) (h : k < l.length) : (List.replicate k m ++ l.drop k).set k m = List.replicate (k + 1) m ++ l.drop (k + 1) := by
  rw [List.set_append_right _ _ (by simp)]
  simp only [List.length_replicate, Nat.sub_self]
  rw [List.drop_eq_getElem_cons h, List.set_cons_zero, List.replicate_succ', List.append_assoc]
  rfl

theorem mark_len (l : List Int) (m : Int) (k : Nat) (h : k ≤ l.length) : (List.replicate k m ++ l.drop k).length = l.length := by simp; omega

theorem newsN {W : World} {cs : Array Value} {N : Nat} {e : TypeId} (hN : W.heap.size = N) : ∀ j u, cs.toList[j]? = some u → (W.alloc (.cells cs e)).cell? ((⟨N, 0, none⟩ : Addr).add j) = some u := by
  subst hN
  exact World.news_of_block (heap_alloc_new _ _)

end Go.Proofs.YtmeiogoodbnkkaaGreat

/- A list is marked by its owner. -/
namespace Go.Proofs.YtmeiogoodbnkkaaGreat
open Go.RowKit

theorem own_rep {w : World} {B n : Nat} {v : Value} {m : Int} (h : Own w B v (List.replicate n m)) : w.ownsRow B 2 1 v n (List.replicate n (Value.int .i64 m)) := by simpa [Own] using h
theorem own_rep' {w : World} {B n j : Nat} {v : Value} {m : Int} {xs : List Value} (h : w.ownsRow B 2 1 v (n + j) (List.replicate n (Value.int .i64 m) ++ xs)) (hx : xs = List.replicate j (Value.int .i64 m) := by rfl) : Own w B v (List.replicate (n + j) m) := by
  subst hx
  simpa [Own, List.replicate_append_replicate] using h
theorem grown_trans {a b c : World} (h : a.grownBy b none) (h' : b.grownBy c none) : a.grownBy c none :=
  ⟨h'.os.trans h.os, h'.tape.trans h.tape, h'.output.trans h.output, Nat.le_trans h.size h'.size, fun k hk _ => (h'.block k (Nat.lt_of_lt_of_le hk h.size) (by simp)).trans (h.block k hk (by simp))⟩

set_option maxRecDepth 100000 in
set_option maxHeartbeats 4000000 in
theorem markWords_any (B bb q : Nat) (wv aw ew : Value) (ms : List (Value × Nat)) (av es : List Value) (v x : Value) (l : List Int) (ys : List (Value × Value × List Int)) (w : World)
    (hq : ms.length = 4 * q) (hb : Bk w B bb wv aw ew ms av es ((v, x, l) :: ys)) (ht : Tight v) (hml : ms.length ≤ 1000) :
    Calls Tryz.prog 23 #[.pointer (some ⟨bb, 0, none⟩), v] w fun e w' => e = .returned (.tuple #[]) ∧ Below B w w' ∧ ∃ wv' ms', ms'.length = 4 * (q + 1) ∧ Bk w' B bb wv' aw ew ms' av es ys := by
  obtain ⟨i0, hi0, hz0, hz1, hz2⟩ := info_parts Tryz.info2
  obtain ⟨j0, hj0, hy0, hy1, hy2⟩ := info_parts Tryz.info23
  obtain ⟨hv, hx, hl16⟩ := hb.each _ (List.mem_cons_self ..)
  simp only at hv hx hl16
  obtain ⟨p, c, rfl, hrd⟩ := hv.slice
  obtain ⟨c0, c1, c2, c3, c4, c5, cf⟩ := bk_cells hb rfl
  obtain ⟨pw, cw, hw, hpw⟩ := row_at hb.words
  subst hw
  have hq4 : (ms.length : Int) / 4 = (q : Int) := by omega
  have hq0 : (q : Int) ≤ 1000000 := by omega
  have HQ := hide hq
  have HB := hide hb
  have HV := hide hv
  have HT := hide ht
  have hbz := (Array.getElem?_eq_some_iff.1 hb.blk).1
  clear hb hv ht hrd hx c1 c2 c3 c4 c5 hpw hq
  go_enter Tryz.func23, Tryz.ntmps23
  go_wp2_with (go_at_call 40; refine (word_any _ _ (by omega) (by omega)).mono ?_; rintro e w0 ⟨rfl, rfl⟩)
  go_loopw [5] (fun i wr => ∃ k : Nat, k ≤ l.length ∧ i = .int .i64 k ∧ Hid (Own wr B (.slice p l.length c) (List.replicate k (-1000003 - (q : Int)) ++ l.drop k) ∧ w0.grownBy wr (Value.slice p l.length c).ownBlock)) (fun i _ => l.length - (intOf i).toNat)
  case atStart => exact ⟨0, Nat.zero_le _, rfl, by simpa using HV.out, ⟨rfl, rfl, rfl, Nat.le_refl _, fun _ _ _ => rfl⟩⟩
  case round =>
    obtain ⟨k, hk, rfl, hr⟩ := hrel
    obtain ⟨ho, hg⟩ := hr.out
    clear hr
    have hml2 := mark_len l (-1000003 - (q : Int)) k hk
    by_cases hlt : k < l.length
    · rcases ho.form with ⟨_, hn2⟩ | ⟨g, cap, cur, hn1, hn2, hn3, hn4, hn5, hn6, hn7, hn8⟩
      · rw [hn2] at hml2; simp at hml2; omega
      rw [hml2] at hn1
      simp only [Value.slice.injEq] at hn1
      obtain ⟨rfl, -, rfl⟩ := hn1
      obtain ⟨p', c', hp', hrd'⟩ := ho.slice
      rw [hml2] at hp'
      simp only [Value.slice.injEq] at hp'
      obtain ⟨rfl, -, rfl⟩ := hp'
      obtain ⟨_, _, h5, _, h6⟩ := hrd'.at (i := k) (by omega)
      simp only [Option.some.injEq, Addr.mk.injEq, and_true] at h5
      obtain ⟨rfl, rfl⟩ := h5
      have hcj := h6 k (by omega)
      rw [Nat.zero_add] at hcj
      have ho2 := ho
      rw [← hml2] at ho2
      have hfj := World.ownsRow.frozenAt ho2 k
      obtain ⟨y, hy⟩ : ∃ y, y = (List.replicate k (-1000003 - (q : Int)) ++ l.drop k).getD k 0 := ⟨_, rfl⟩
      rw [← hy] at hcj
      have t1 : (k : Int) < (l.length : Int) := by omega
      have HO2 := hide ho2
      have HG := hide hg
      clear ho ho2 hg h6 hrd' hn4 hn7 hn8 hy hml2
      go_wp2
      go_roundw
      case rel =>
        refine ⟨k + 1, by omega, by go_num, ?_, ?_⟩
        · have h9 := HO2.out.setWord k (-1000003 - (q : Int))
          rw [mark_step l _ k hlt, mark_len l _ k hk] at h9
          exact h9
        · have h9 := HG.out
          exact ⟨h9.os, h9.tape, h9.output, by simpa [World.setCell] using h9.size, fun j hj hne => by rw [Below.heap_setCell _ _ _ _ (fun e => hne (by simp [Value.ownBlock, e]))]; exact h9.block j hj hne⟩
      case measure => simp [intOf]; omega
    · have hkl : k = l.length := by omega
      subst hkl
      have ho1 : Own wr B (.slice p l.length c) (List.replicate l.length (-1000003 - (q : Int))) := by simpa using ho
      have HO1 := hide ho1
      have HBk1 := hide (HB.out.dropHead hg)
      have HG := hide hg
      have hbz1 : bb < wr.heap.size := Nat.lt_of_lt_of_le hbz hg.size
      clear ho ho1 hg c0 cf
      go_wp2_with (first
        | (refine wpList_append_fresh _ rfl (.tmp 26) (.tmp 28) 23 rfl B 2 i0 (.int .i64 0) 8 Tryz.underlying23 hi0 hz0 hz1 hz2 rfl (.slice p l.length c) l.length (List.replicate l.length (.int .i64 (-1000003 - (q : Int)))) (by rfl) (own_rep (HO1.out.grow (World.grownBy_alloc _ _ none))) HT.out ⟨wr.heap.size, 0, none⟩ 1 1 [.int .i64 (-1000003 - (q : Int))] (by rfl) (by simp) (newsN (cs := #[.int .i64 (-1000003 - (q : Int))]) rfl) (by intro u hu; simp at hu; subst hu; rfl) (by omega) (by unfold maxLen; omega) (by omega) (by have := HBk1.out.small; simp; omega) ?_; intro v1 w1 hown1 hgr1 hat1; have HV1 := hide (own_rep' hown1); have HG1 := hide (grown_trans (World.grownBy_alloc wr (.cells #[.int .i64 (-1000003 - (q : Int))] 2) none) hgr1); have HA1 := hide hat1; have HO2 := hide (HO1.out.grow HG1.out); have HBk2 := hide (HBk1.out.grow HG1.out); clear hown1 hgr1 hat1)
        | (refine wpList_append_fresh _ rfl (.tmp 30) (.tmp 33) 23 rfl B 2 i0 (.int .i64 0) 8 Tryz.underlying23 hi0 hz0 hz1 hz2 rfl (.slice p l.length c) l.length (List.replicate l.length (.int .i64 (-1000003 - (q : Int)))) (by rfl) (own_rep (HO2.out.grow (World.grownBy_alloc _ _ none))) HT.out ⟨w1.heap.size, 0, none⟩ 2 2 [.int .i64 (-1000003 - (q : Int)), .int .i64 (-1000003 - (q : Int))] (by rfl) (by simp) (newsN (cs := #[.int .i64 (-1000003 - (q : Int)), .int .i64 (-1000003 - (q : Int))]) rfl) (by intro u hu; simp at hu; subst hu; rfl) (by omega) (by unfold maxLen; omega) (by omega) (by have := HBk2.out.small; simp; omega) ?_; intro v2 w2 hown2 hgr2 hat2; have HV2 := hide (own_rep' hown2); have HG2 := hide (grown_trans (World.grownBy_alloc w1 (.cells #[.int .i64 (-1000003 - (q : Int)), .int .i64 (-1000003 - (q : Int))] 2) none) hgr2); have HA2 := hide hat2; have HO3 := hide (HO2.out.grow HG2.out); have HBk3 := hide (HBk2.out.grow HG2.out); clear hown2 hgr2 hat2)
        | (refine wpList_append_fresh _ rfl (.tmp 35) (.tmp 39) 23 rfl B 2 i0 (.int .i64 0) 8 Tryz.underlying23 hi0 hz0 hz1 hz2 rfl (.slice p l.length c) l.length (List.replicate l.length (.int .i64 (-1000003 - (q : Int)))) (by rfl) (own_rep (HO3.out.grow (World.grownBy_alloc _ _ none))) HT.out ⟨w2.heap.size, 0, none⟩ 3 3 [.int .i64 (-1000003 - (q : Int)), .int .i64 (-1000003 - (q : Int)), .int .i64 (-1000003 - (q : Int))] (by rfl) (by simp) (newsN (cs := #[.int .i64 (-1000003 - (q : Int)), .int .i64 (-1000003 - (q : Int)), .int .i64 (-1000003 - (q : Int))]) rfl) (by intro u hu; simp at hu; subst hu; rfl) (by omega) (by unfold maxLen; omega) (by omega) (by have := HBk3.out.small; simp; omega) ?_; intro v3 w3 hown3 hgr3 hat3; have HV3 := hide (own_rep' hown3); have HG3 := hide (grown_trans (World.grownBy_alloc w2 (.cells #[.int .i64 (-1000003 - (q : Int)), .int .i64 (-1000003 - (q : Int)), .int .i64 (-1000003 - (q : Int))] 2) none) hgr3); have HA3 := hide hat3; have HO4 := hide (HO3.out.grow HG3.out); have HBk4 := hide (HBk3.out.grow HG3.out); obtain ⟨g1, k1, e1, _, _⟩ := World.ownsRow.form HV1.out (by simp); obtain ⟨g2, k2, e2, _, _⟩ := World.ownsRow.form HV2.out (by simp); obtain ⟨g3, k3, e3, _, _⟩ := World.ownsRow.form HV3.out (by simp); simp only [List.length_replicate] at e1 e2 e3; subst e1; subst e2; subst e3; obtain ⟨c0, _, _, _, _, _, cf⟩ := bk_cells HBk4.out rfl; clear hown3 hgr3 hat3)
        | (refine wpList_append_keeps _ rfl (.tmp 45) (.tmp 50) 25 rfl B 23 j0 (.slice none 0 0) 24 Tryz.underlying25 hj0 hy0 hy1 hy2 rfl (.slice pw ms.length cw) ms.length (ms.map (·.1)) (by rfl) (World.ownsRow.alloc HBk4.out.words _) ⟨w3.heap.size, 0, none⟩ 4 4 [.slice p l.length c, .slice (some ⟨g1, 0, none⟩) (l.length + 1) k1, .slice (some ⟨g2, 0, none⟩) (l.length + 2) k2, .slice (some ⟨g3, 0, none⟩) (l.length + 3) k3] (by rfl) (by simp) (newsN (cs := #[.slice p l.length c, .slice (some ⟨g1, 0, none⟩) (l.length + 1) k1, .slice (some ⟨g2, 0, none⟩) (l.length + 2) k2, .slice (some ⟨g3, 0, none⟩) (l.length + 3) k3]) rfl) (by intro u hu; simp at hu; rcases hu with rfl | rfl | rfl | rfl <;> rfl) (by unfold maxLen; omega) (by omega) (by have := HBk4.out.small; simp; omega) ?_; intro wv' w4 hown4 hold4 hgr4 hat4; obtain ⟨gw, kw, ew', _, _⟩ := World.ownsRow.form hown4 (by omega); subst ew'; have HBk5 := hide (HBk4.out.grow (World.grownBy_alloc w3 (.cells #[.slice p l.length c, .slice (some ⟨g1, 0, none⟩) (l.length + 1) k1, .slice (some ⟨g2, 0, none⟩) (l.length + 2) k2, .slice (some ⟨g3, 0, none⟩) (l.length + 3) k3] 23) none)); have HW4 := hide hown4; have HG4 := hide hgr4; have HA4 := hide hat4; have hbb4 := hgr4.block bb (Array.getElem?_eq_some_iff.1 HBk5.out.blk).1 (bb_ne_row HBk5.out.words HBk5.out.blk (by decide)); obtain ⟨z0, _, _, _, _, _, zf⟩ := bk_cells HBk5.out hbb4; clear hown4 hold4 hgr4 hat4 hbb4))
      have hga := World.grownBy_alloc w3 (.cells #[.slice p l.length c, .slice (some ⟨g1, 0, none⟩) (l.length + 1) k1, .slice (some ⟨g2, 0, none⟩) (l.length + 2) k2, .slice (some ⟨g3, 0, none⟩) (l.length + 3) k3] 23) none
      have o0 := HO4.out.grow hga
      have o1 := ((HV1.out.grow HG2.out).grow HG3.out).grow hga
      have o2 := (HV2.out.grow HG3.out).grow hga
      have o3 := HV3.out.grow hga
      have hq1 := (List.pairwise_cons.1 HB.out.q1).1
      have hnil : ∀ y : Value, Apart y (.slice none 0 0) := fun y g _ h2 => by cases h2
      have p1 : ∀ y ∈ ys, Apart y.1 (.slice (some ⟨g1, 0, none⟩) (l.length + 1) k1) := fun y hy => apart_new (((HBk1.out.each y hy).1).grow (World.grownBy_alloc wr (.cells #[.int .i64 (-1000003 - (q : Int))] 2) none)) (hnil _) (.inr HA1.out)
      have p2 : ∀ y ∈ ys, Apart y.1 (.slice (some ⟨g2, 0, none⟩) (l.length + 2) k2) := fun y hy => apart_new (((HBk2.out.each y hy).1).grow (World.grownBy_alloc w1 (.cells #[.int .i64 (-1000003 - (q : Int)), .int .i64 (-1000003 - (q : Int))] 2) none)) (hnil _) (.inr HA2.out)
      have p3 : ∀ y ∈ ys, Apart y.1 (.slice (some ⟨g3, 0, none⟩) (l.length + 3) k3) := fun y hy => apart_new (((HBk3.out.each y hy).1).grow (World.grownBy_alloc w2 (.cells #[.int .i64 (-1000003 - (q : Int)), .int .i64 (-1000003 - (q : Int)), .int .i64 (-1000003 - (q : Int))] 2) none)) (hnil _) (.inr HA3.out)
      have hq' : ms.length = 4 * q := HQ.out
      go_end0
      refine ⟨rfl, ?_, _, ms ++ [(.slice p l.length c, l.length), (.slice (some ⟨g1, 0, none⟩) (l.length + 1) k1, l.length + 1), (.slice (some ⟨g2, 0, none⟩) (l.length + 2) k2, l.length + 2), (.slice (some ⟨g3, 0, none⟩) (l.length + 3) k3, l.length + 3)], by simp; omega, HBk5.out.setWv (by simpa using HW4.out) HG4.out HA4.out ?_ ?_ ?_⟩
      · have hsm := HB.out.small
        have b1 : Below B w0 wr := (Below.refl _ _).grown HG.out hsm (fun k hk => (HV.out.lt k hk).1)
        have b2 := b1.grown HG1.out HBk1.out.small (by intro k hk; cases hk)
        have b3 := b2.grown HG2.out HBk2.out.small (by intro k hk; cases hk)
        have b4 := b3.grown HG3.out HBk3.out.small (by intro k hk; cases hk)
        have b5 := b4.grown hga HBk4.out.small (by intro k hk; cases hk)
        have b6 := b5.grown HG4.out HBk5.out.small (fun k hk => (World.ownsRow.lt HBk5.out.words k hk).1)
        exact b6.setCell (p := ⟨bb, 0, none⟩) HB.out.base _
      · intro k v n hk
        rcases Nat.lt_or_ge k ms.length with h' | h'
        · rw [List.getElem?_append_left h'] at hk
          exact HBk5.out.marks k v n hk
        · rw [List.getElem?_append_right h'] at hk
          have hj : k - ms.length = 0 ∨ k - ms.length = 1 ∨ k - ms.length = 2 ∨ k - ms.length = 3 ∨ 4 ≤ k - ms.length := by omega
          rcases hj with hj | hj | hj | hj | hj
          · have e4 : k / 4 = q := by omega
            rw [hj] at hk; simp at hk; obtain ⟨rfl, rfl⟩ := hk; rw [e4]; exact o0
          · have e4 : k / 4 = q := by omega
            rw [hj] at hk; simp at hk; obtain ⟨rfl, rfl⟩ := hk; rw [e4]; exact o1
          · have e4 : k / 4 = q := by omega
            rw [hj] at hk; simp at hk; obtain ⟨rfl, rfl⟩ := hk; rw [e4]; exact o2
          · have e4 : k / 4 = q := by omega
            rw [hj] at hk; simp at hk; obtain ⟨rfl, rfl⟩ := hk; rw [e4]; exact o3
          · rw [List.getElem?_eq_none (by simp; omega)] at hk; cases hk
      · intro m hm y hy
        rcases List.mem_append.1 hm with h' | h'
        · exact HBk5.out.q3 m h' y hy
        · simp at h'
          rcases h' with rfl | rfl | rfl | rfl
          · exact (hq1 y hy).1.symm
          · exact p1 y hy
          · exact p2 y hy
          · exact p3 y hy
      · intro m hm
        rcases List.mem_append.1 hm with h' | h'
        · exact HBk5.out.sizes m h'
        · simp at h'
          rcases h' with rfl | rfl | rfl | rfl <;> simp only <;> omega

end Go.Proofs.YtmeiogoodbnkkaaGreat

/- The book is settled. -/
namespace Go.Proofs.YtmeiogoodbnkkaaGreat
open Go.RowKit

theorem Bk.clear {w : World} {B bb : Nat} {wv aw ew : Value} {ms : List (Value × Nat)} {av es : List Value} {ys : List (Value × Value × List Int)} (h : Bk w B bb wv aw ew ms av es ys) :
    Bk ((((w.setCell ⟨bb, 2, none⟩ (.slice none 0 0)).setCell ⟨bb, 3, none⟩ (.slice none 0 0)).setCell ⟨bb, 4, none⟩ (.slice none 0 0)).setCell ⟨bb, 5, none⟩ (.slice none 0 0)) B bb wv (.slice none 0 0) (.slice none 0 0) ms [] [] [] := by
  have h1 := heap_setCell_same _ _ 2 _ _ (.slice none 0 0) h.blk
  have h2 := heap_setCell_same _ _ 3 _ _ (.slice none 0 0) h1
  have h3 := heap_setCell_same _ _ 4 _ _ (.slice none 0 0) h2
  have h4 := heap_setCell_same _ _ 5 _ _ (.slice none 0 0) h3
  have hk : ∀ {e : TypeId} {v : Value} {n : Nat} {xs : List Value}, w.ownsRow B e 1 v n xs → e ≠ 28 → ((((w.setCell ⟨bb, 2, none⟩ (.slice none 0 0)).setCell ⟨bb, 3, none⟩ (.slice none 0 0)).setCell ⟨bb, 4, none⟩ (.slice none 0 0)).setCell ⟨bb, 5, none⟩ (.slice none 0 0)).ownsRow B e 1 v n xs :=
    fun hv he => own_set_bb (own_set_bb (own_set_bb (own_set_bb hv h.blk he _ _) h1 he _ _) h2 he _ _) h3 he _ _
  have hnil : ∀ y : Value, Apart y (.slice none 0 0) := fun y g _ h2 => by cases h2
  exact ⟨h4, h.base, by simpa [World.setCell] using h.small, hk h.words (by decide), World.ownsRow_nil _ _ _ _, World.ownsRow_nil _ _ _ _, fun k v n e => hk (h.marks k v n e) (by decide), fun y hy => (by cases hy), hnil _, hnil _, hnil _, List.Pairwise.nil, fun y hy => (by cases hy), fun m _ y hy => (by cases hy), h.sizes⟩

set_option maxRecDepth 100000 in
set_option maxHeartbeats 4000000 in
theorem settles_any (B bb q : Nat) (wv aw ew : Value) (ms : List (Value × Nat)) (ys : List (Value × Value × List Int)) (w : World) (hq : ms.length = 4 * q)
    (hb : Bk w B bb wv aw ew ms (ys.map (·.1)) (ys.map (·.2.1)) ys) (ht : ∀ y ∈ ys, Tight y.1) (hl : ms.length + 4 * ys.length ≤ 1000) :
    Calls Tryz.prog 7 #[.pointer (some ⟨bb, 0, none⟩)] w fun e w' => e = .returned (.bool true) ∧ Below B w w' := by
  have HB := hide hb
  have HT := hide ht
  have HQ := hide hq
  clear hb ht hq
  go_enter Tryz.func7, Tryz.ntmps7
  go_wp2_with (go_at_call 22; refine (waits_any B bb _ _ _ _ _ _ HB.out (by omega)).mono ?_; rintro e w1 ⟨rfl, n1, rfl⟩)
  go_loopw [4] (fun i wr => ∃ k : Nat, k ≤ ys.length ∧ i = .int .i64 k ∧ Hid (∃ wv' ms', ms'.length = 4 * (q + k) ∧ Bk wr B bb wv' aw ew ms' (ys.map (·.1)) (ys.map (·.2.1)) (ys.drop k) ∧ Below B w wr)) (fun i _ => ys.length - (intOf i).toNat)
  case atStart => exact ⟨0, Nat.zero_le _, rfl, wv, ms, HQ.out, HB.out.grow (grown_draws _ _), below_drewN (Below.refl _ _) _⟩
  case round =>
    obtain ⟨k, hk, rfl, hr⟩ := hrel
    obtain ⟨wv', ms', hms, hb, hbel⟩ := hr.out
    clear hr
    have hq := HQ.out
    obtain ⟨c0, c1, c2, c3, c4, c5, cf⟩ := bk_cells hb rfl
    obtain ⟨pa, ca, ha, hpa⟩ := row_at hb.wait
    subst ha
    simp only [List.length_map] at hpa c2
    by_cases hlt : k < ys.length
    · obtain ⟨ga, hga, d1⟩ := hpa k hlt
      subst hga
      have hy := HT.out ys[k] (List.getElem_mem hlt)
      have hd : ys.drop k = ys[k] :: ys.drop (k + 1) := List.drop_eq_getElem_cons hlt
      rw [hd] at hb
      obtain ⟨v, x, l, hv⟩ : ∃ v x l, ys[k] = (v, x, l) := ⟨_, _, _, rfl⟩
      rw [hv] at hb hy
      have d2 : wr.cell? ⟨ga, k, none⟩ = some v := by rw [d1]; simp [hlt, hv]
      obtain ⟨p1, cc1, hp1, _⟩ := (hb.each _ (List.mem_cons_self ..)).1.slice
      simp only at hp1
      subst hp1
      have t1 : (k : Int) < (ys.length : Int) := by omega
      have HBB := hide hb
      have HY := hide hy
      have HBEL := hide hbel
      have HMS := hide hms
      clear hb hy hbel d1 hd hv c0 c1 c3 c4 c5 cf hpa hms hq
      go_wp2_with (go_at_call 23; refine (markWords_any B bb (q + k) _ _ _ _ _ _ _ _ _ _ _ HMS.out HBB.out HY.out (by have := HMS.out; have := HQ.out; omega)).mono ?_; rintro e w2 ⟨rfl, hb2, wv2, ms2, hms2, hbk2⟩)
      go_roundw
      case rel => exact ⟨k + 1, by omega, by go_num, wv2, ms2, by omega, hbk2, HBEL.out.trans hb2⟩
      case measure => simp [intOf]; omega
    · have t1 : ¬ (k : Int) < (ys.length : Int) := by omega
      have HBB := hide hb
      have HBEL := hide hbel
      have hmsl : ms'.length ≤ 1000 := by omega
      clear hb hbel hpa c0 c1 hms hq
      go_wp2
      go_loopw [5] (fun i wq => i = .int .i64 0 ∧ Hid (wq = wr)) (fun _ _ => 0)
      case atStart => exact ⟨rfl, rfl⟩
      case round =>
        obtain ⟨rfl, hq2⟩ := hrel
        have hq3 := hq2.out
        subst hq3
        clear hq2
        go_wp2_with (go_at_call 25; refine (bookReads_any B bb _ _ _ _ _ _ _ _ HBB.out.clear hmsl).mono ?_; rintro e w2 ⟨rfl, n2, rfl⟩)
        go_ret
        exact ⟨rfl, below_drewN ((((HBEL.out.setCell HBB.out.base _).setCell HBB.out.base _).setCell HBB.out.base _).setCell HBB.out.base _) _⟩

end Go.Proofs.YtmeiogoodbnkkaaGreat
