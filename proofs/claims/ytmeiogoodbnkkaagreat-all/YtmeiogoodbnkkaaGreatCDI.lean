/- One call of the statement, whatever its kind. -/
import Derived.Test.YtmeiogoodbnkkaaGreatCDH
namespace Go.Proofs.YtmeiogoodbnkkaaGreat
open Go.RowKit

theorem rdW {w : World} {B : Nat} {p : Option Addr} {c : Nat} {l : List Int} (h : Rw shW w B (.slice p l.length c) l) : Rd w p l := by
  obtain ⟨p', c', e, hr⟩ := (Rw.own.1 h).slice
  simp only [Value.slice.injEq] at e
  obtain ⟨rfl, _, rfl⟩ := e
  exact hr
theorem rdT {w : World} {B : Nat} {p : Option Addr} {c : Nat} {l : List Tm} (h : Rw shT w B (.slice p l.length c) l) : RdT w p l := by
  obtain ⟨p', c', e, hr⟩ := RdT.of h
  simp only [Value.slice.injEq] at e
  obtain ⟨rfl, _, rfl⟩ := e
  exact hr

/-- What lies here is nothing that the book writes into. -/
def Safe (w : World) (B bb : Nat) (p : Option Addr) : Prop :=
  ∀ a, p = some a → a.block < w.heap.size ∧ (a.block < B ∨ (a.block ≠ bb ∧ (∀ cur fr, w.heap[a.block]? ≠ some (.cells cur 23 fr)) ∧ ∀ cur fr, w.heap[a.block]? ≠ some (.cells cur 55 fr)))
theorem same_grow {α : Type} {l : List α} {w W : World} {B bb : Nat} {p : Option Addr} (hs : l ≠ [] → Safe w B bb p) (hg : w.grownBy W none) : l ≠ [] → ∀ a, p = some a → W.heap[a.block]? = w.heap[a.block]? :=
  fun hn a ha => hg.block _ (hs hn a ha).1 (by simp)
theorem same_kr {α : Type} {l : List α} {w W W' : World} {B bb : Nat} {p : Option Addr} (hs : l ≠ [] → Safe w B bb p) (h : l ≠ [] → ∀ a, p = some a → W.heap[a.block]? = w.heap[a.block]?) (hk : Kr bb W W') (hb : Below B W W') (hz : w.heap.size ≤ W.heap.size) :
    l ≠ [] → ∀ a, p = some a → W'.heap[a.block]? = w.heap[a.block]? := fun hn a ha => by
  obtain ⟨h1, h2 | ⟨h3, h4, h5⟩⟩ := hs hn a ha
  · exact (hb.block _ h2).trans (h hn a ha)
  · exact (hk.block _ (by omega) h3 (by rw [h hn a ha]; exact h4) (by rw [h hn a ha]; exact h5)).trans (h hn a ha)
theorem RdO.same {w w' : World} {p : Option Addr} {l : List Ord} (h : RdO w p l) (hb : l ≠ [] → ∀ a, p = some a → w'.heap[a.block]? = w.heap[a.block]?) (hz : w.heap.size ≤ w'.heap.size) : RdO w' p l := by
  rcases h with h | ⟨b, off, rfl, hlt, h⟩
  · exact .inl h
  · cases l with
    | nil => exact .inl rfl
    | cons x l =>
      have e := hb (by simp) _ rfl
      simp only at e
      have key : ∀ o, w'.cell? ⟨b, o, none⟩ = w.cell? ⟨b, o, none⟩ := fun o => World.cell?_of_block e
      refine .inr ⟨b, off, rfl, by omega, fun i hi => ?_⟩
      rw [key, key, key, key, key]
      exact h i hi
theorem Rd.same {w w' : World} {p : Option Addr} {l : List Int} (h : Rd w p l) (hb : l ≠ [] → ∀ a, p = some a → w'.heap[a.block]? = w.heap[a.block]?) (hz : w.heap.size ≤ w'.heap.size) : Rd w' p l := by
  rcases h with h | ⟨b, off, rfl, hlt, h⟩
  · exact .inl h
  · cases l with
    | nil => exact .inl rfl
    | cons x l =>
      have e := hb (by simp) _ rfl
      simp only at e
      exact .inr ⟨b, off, rfl, by omega, fun i hi => by rw [World.cell?_of_block (a := ⟨b, off + i, none⟩) e]; exact h i hi⟩

set_option maxRecDepth 100000 in
set_option maxHeartbeats 8000000 in
theorem oneQ2 (B bb n : Nat) (u0 u1 u2 u3 l0 l1 l2 l3 b : Int) (p pm : Option Addr) (c cm : Nat) (prog : List Ord) (mem : List Int) (steps : Int) (w : World)
    (hb : Bkk w B bb n) (hn : n + 1 ≤ 1100000000000) (hp : RdO w p prog) (hm : Rd w pm mem) (hpB : prog ≠ [] → Safe w B bb p) (hmB : mem ≠ [] → Safe w B bb pm) (hl1 : prog.length * 40 ≤ 140737488351232) (hl2 : mem.length * 8 ≤ 140737488351232) :
    Calls Tryz.prog 6 #[.pointer (some ⟨bb, 0, none⟩), .agg #[.int .i64 2, .int .i64 u0, .int .i64 u1, .int .i64 u2, .int .i64 u3, .int .i64 l0, .int .i64 l1, .int .i64 l2, .int .i64 l3, .int .i64 b, .slice p prog.length c, .slice pm mem.length cm, .int .i64 steps]] w fun e w' => e = .returned (.bool true) ∧ Below B w w' ∧ Bkk w' B bb (n + 1) := by
  obtain ⟨hreg, hl16, hl400⟩ := answerR_fine [u0, u1, u2, u3] [l0, l1, l2, l3] b prog mem steps
  obtain ⟨A, hA⟩ : ∃ A, answerR [u0, u1, u2, u3] [l0, l1, l2, l3] b prog mem steps = A := ⟨_, rfl⟩
  rw [hA] at hreg hl16 hl400
  obtain ⟨x0, x1, x2, x3, x4, x5, x6, x7, hx⟩ := list8 hreg
  obtain ⟨nx, hnx⟩ : ∃ x, (A.1.next : Int) = x := ⟨_, rfl⟩
  obtain ⟨st, hst⟩ : ∃ x, A.1.stop = x := ⟨_, rfl⟩
  obtain ⟨tr, htr⟩ : ∃ x, A.1.trap = x := ⟨_, rfl⟩
  obtain ⟨sp, hsp⟩ : ∃ x, (A.1.steps : Int) = x := ⟨_, rfl⟩
  obtain ⟨er, her⟩ : ∃ x, A.2 = x := ⟨_, rfl⟩
  obtain ⟨l, hl⟩ : ∃ x, A.1.mem = x := ⟨_, rfl⟩
  obtain ⟨tl, htl⟩ : ∃ x, tmL A.1.given = x := ⟨_, rfl⟩
  rw [hl] at hl16
  have htl4 : tl.length ≤ 400 := by rw [← htl, tmL_len]; exact hl400
  have hpl : (prog.length : Int) ≤ 1000000000000000 := by omega
  have hmm : (mem.length : Int) ≤ 1000000000000000 := by omega
  have RU := hide (fun p pm c cm W h1 h2 => runQ p pm c cm prog mem steps W h1 h2 hpl hmm u0 u1 u2 u3 l0 l1 l2 l3 b hA hx hnx hst htr hsp her hl htl)
  have RR := hide (fun p pm c cm W h1 h2 => refRunQ p pm c cm prog mem steps W h1 h2 hpl hmm u0 u1 u2 u3 l0 l1 l2 l3 b hA hx hnx hst htr hsp her hl htl)
  clear hreg hl400 hA hx hnx hst htr hsp her hl htl hpl hmm A
  obtain ⟨q, r, wv, aw, ew, ms, ys, tv, at', et, ts, zs, hq, hr, hb, hty, htz, h5, hqn, hrn⟩ := hb
  have HQ := hide hq
  have HR := hide hr
  have HTY := hide hty
  have HTZ := hide htz
  have HQN := hide hqn
  have HRN := hide hrn
  have HP := hide hp
  have HM := hide hm
  have HPB := hide hpB
  have HMB := hide hmB
  have hBw := hb.small
  have hbbz := lt_of_blk hb.blk
  have hBb := hb.base
  have OW := hide hb.hw.old
  have OT := hide hb.ht.old
  have HB0 := hide hb
  clear hq hr hb hty htz hp hm hpB hmB hqn hrn
  go_enter Tryz.func6, Tryz.ntmps6
  go_wp2_with fail
  refine (handedOrders_any _ _ _ _ (HP.out.below (Nat.le_refl _) ((Below.refl _ _).alloc (Nat.le_refl _) _)) hl1).mono ?_
  rintro e w1 ⟨rfl, hb1, hO1⟩
  have hN1 := below_same hb1 (heap_alloc_new w (.cells #[.int .i64 2, .int .i64 u0, .int .i64 u1, .int .i64 u2, .int .i64 u3, .int .i64 l0, .int .i64 l1, .int .i64 l2, .int .i64 l3, .int .i64 b, .slice p prog.length c, .slice pm mem.length cm, .int .i64 steps] 34))
  have hg1 : w.grownBy w1 none := grown_trans (World.grownBy_alloc w (.cells #[.int .i64 2, .int .i64 u0, .int .i64 u1, .int .i64 u2, .int .i64 u3, .int .i64 l0, .int .i64 l1, .int .i64 l2, .int .i64 l3, .int .i64 b, .slice p prog.length c, .slice pm mem.length cm, .int .i64 steps] 34) none) (grown_of_below hb1)
  have hO1' : HandO w1 (w.heap.size + 1) prog := by simpa using hO1
  have HN1 := hide hN1
  have HO1 := hide hO1'
  have HG1 := hide hg1
  have hz1 : w.heap.size + 1 < w1.heap.size := lt_of_blk hO1'.choose_spec.1
  clear hb1 hO1 hO1' hg1
  have a11 : w1.cell? ⟨w.heap.size, 11, none⟩ = some (.slice pm mem.length cm) := cell_of_row w1 _ 11 _ _ _ hN1
  clear hN1
  go_wp2_with fail
  clear a11
  refine (handedWords_any _ _ _ _ (HM.out.below (Nat.le_refl _) ((Below.refl _ _).grown HG1.out (Nat.le_refl _) (by intro k hk; cases hk))) hl2).mono ?_
  rintro e w2 ⟨rfl, hb2, hW2⟩
  have hg2 := grown_of_below hb2
  have hz2 : w1.heap.size < w2.heap.size := lt_of_blk hW2.choose_spec.1
  have MD_1 : Hid (Md w2 w.heap.size (w.heap.size + 1) w1.heap.size #[.int .i64 2, .int .i64 u0, .int .i64 u1, .int .i64 u2, .int .i64 u3, .int .i64 l0, .int .i64 l1, .int .i64 l2, .int .i64 l3, .int .i64 b, .slice p prog.length c, .slice pm mem.length cm, .int .i64 steps] prog mem) := ⟨grow_same hg2 HN1.out, HO1.out.keep (hb2.block _ (lt_of_blk HO1.out.choose_spec.1)), hW2⟩
  have G_2 : Hid (w.grownBy w2 none) := grown_trans HG1.out hg2
  have BQ_3 := hide (HB0.out.grow G_2.out)
  clear hb2 hW2 hg2 HN1 HO1 HG1
  have a0 : w2.cell? ⟨w.heap.size, 0, none⟩ = some (.int .i64 2) := MD_1.out.cell 0
  have a1 : w2.cell? ⟨w.heap.size, 1, none⟩ = some (.int .i64 u0) := MD_1.out.cell 1
  have a2 : w2.cell? ⟨w.heap.size, 2, none⟩ = some (.int .i64 u1) := MD_1.out.cell 2
  have a3 : w2.cell? ⟨w.heap.size, 3, none⟩ = some (.int .i64 u2) := MD_1.out.cell 3
  have a4 : w2.cell? ⟨w.heap.size, 4, none⟩ = some (.int .i64 u3) := MD_1.out.cell 4
  have a5 : w2.cell? ⟨w.heap.size, 5, none⟩ = some (.int .i64 l0) := MD_1.out.cell 5
  have a6 : w2.cell? ⟨w.heap.size, 6, none⟩ = some (.int .i64 l1) := MD_1.out.cell 6
  have a7 : w2.cell? ⟨w.heap.size, 7, none⟩ = some (.int .i64 l2) := MD_1.out.cell 7
  have a8 : w2.cell? ⟨w.heap.size, 8, none⟩ = some (.int .i64 l3) := MD_1.out.cell 8
  have a9 : w2.cell? ⟨w.heap.size, 9, none⟩ = some (.int .i64 b) := MD_1.out.cell 9
  have a12 : w2.cell? ⟨w.heap.size, 12, none⟩ = some (.int .i64 steps) := MD_1.out.cell 12
  go_wp2_with fail
  clear a0 a1 a2 a3 a4 a5 a6 a7 a8 a9 a12
  refine (RU.out _ _ _ _ _ MD_1.out.ord.rd MD_1.out.wds.rd).mono ?_
  rintro e v1 ⟨p1, c1, pt1, ct1, rfl, hb3, ho3, ht3, hot3, htt3⟩
  have HX1 := hide hb3
  have HX2 := hide ho3
  have HX3 := hide hot3
  have TI1 := hide ht3
  have TT1 := hide htt3
  clear hb3 ho3 hot3 ht3 htt3
  go_upto_region 16 with fail
  obtain ⟨W1, hW⟩ : ∃ W, v1.alloc (.cells #[.int .i64 x0, .int .i64 x1, .int .i64 x2, .int .i64 x3, .int .i64 x4, .int .i64 x5, .int .i64 x6, .int .i64 x7, .slice p1 l.length c1, .int .i64 nx, .int .i64 st, .int .i64 tr, .int .i64 sp] 46) = W := ⟨_, rfl⟩
  rw [hW]
  have hg : w2.grownBy W1 none := by rw [← hW]; exact grown_trans (grown_of_below HX1.out) (World.grownBy_alloc _ _ none)
  have hgv : v1.grownBy W1 none := by rw [← hW]; exact World.grownBy_alloc _ _ none
  have hzz1 : w2.heap.size ≤ v1.heap.size := HX1.out.size
  have hzw1 : v1.heap.size < W1.heap.size := by rw [← hW]; simp
  have LO1 := hide HX2.out.lo
  have HI1 := hide HX2.out.hi
  have LT1 := hide HX3.out.lo
  have HT1 := hide HX3.out.hi
  have MD_4 := hide (MD_1.out.grow hg)
  have G_5 := hide (grown_trans G_2.out hg)
  have BQ_6 := hide (BQ_3.out.grow hg)
  clear MD_1 G_2 BQ_3
  have S1_7 : Hid (W1.heap[v1.heap.size]? = some (.cells #[.int .i64 x0, .int .i64 x1, .int .i64 x2, .int .i64 x3, .int .i64 x4, .int .i64 x5, .int .i64 x6, .int .i64 x7, .slice p1 l.length c1, .int .i64 nx, .int .i64 st, .int .i64 tr, .int .i64 sp] 46 (0, 0))) := by rw [← hW]; exact heap_alloc_new _ _
  have V1_8 : Hid (Rw shW W1 B (.slice p1 l.length c1) l) := (HX2.out.grow hgv).base (by omega)
  have T1_9 : Hid (Rw shT W1 B (.slice pt1 tl.length ct1) tl) := (HX3.out.grow hgv).base (by omega)
  clear hW hg hgv HX1 HX2 HX3
  have a0 : W1.cell? ⟨w.heap.size, 0, none⟩ = some (.int .i64 2) := MD_4.out.cell 0
  have a1 : W1.cell? ⟨w.heap.size, 1, none⟩ = some (.int .i64 u0) := MD_4.out.cell 1
  have a2 : W1.cell? ⟨w.heap.size, 2, none⟩ = some (.int .i64 u1) := MD_4.out.cell 2
  have a3 : W1.cell? ⟨w.heap.size, 3, none⟩ = some (.int .i64 u2) := MD_4.out.cell 3
  have a4 : W1.cell? ⟨w.heap.size, 4, none⟩ = some (.int .i64 u3) := MD_4.out.cell 4
  have a5 : W1.cell? ⟨w.heap.size, 5, none⟩ = some (.int .i64 l0) := MD_4.out.cell 5
  have a6 : W1.cell? ⟨w.heap.size, 6, none⟩ = some (.int .i64 l1) := MD_4.out.cell 6
  have a7 : W1.cell? ⟨w.heap.size, 7, none⟩ = some (.int .i64 l2) := MD_4.out.cell 7
  have a8 : W1.cell? ⟨w.heap.size, 8, none⟩ = some (.int .i64 l3) := MD_4.out.cell 8
  have a9 : W1.cell? ⟨w.heap.size, 9, none⟩ = some (.int .i64 b) := MD_4.out.cell 9
  have a12 : W1.cell? ⟨w.heap.size, 12, none⟩ = some (.int .i64 steps) := MD_4.out.cell 12
  go_wp2_with fail
  clear a0 a1 a2 a3 a4 a5 a6 a7 a8 a9 a12
  refine (RU.out _ _ _ _ _ MD_4.out.ord.rd MD_4.out.wds.rd).mono ?_
  rintro e v2 ⟨p2, c2, pt2, ct2, rfl, hb3, ho3, ht3, hot3, htt3⟩
  have HX1 := hide hb3
  have HX2 := hide ho3
  have HX3 := hide hot3
  have TI2 := hide ht3
  have TT2 := hide htt3
  clear hb3 ho3 hot3 ht3 htt3
  go_upto_region 17 with fail
  obtain ⟨W2, hW⟩ : ∃ W, v2.alloc (.cells #[.int .i64 x0, .int .i64 x1, .int .i64 x2, .int .i64 x3, .int .i64 x4, .int .i64 x5, .int .i64 x6, .int .i64 x7, .slice p2 l.length c2, .int .i64 nx, .int .i64 st, .int .i64 tr, .int .i64 sp] 46) = W := ⟨_, rfl⟩
  rw [hW]
  have hg : W1.grownBy W2 none := by rw [← hW]; exact grown_trans (grown_of_below HX1.out) (World.grownBy_alloc _ _ none)
  have hgv : v2.grownBy W2 none := by rw [← hW]; exact World.grownBy_alloc _ _ none
  have hzz2 : W1.heap.size ≤ v2.heap.size := HX1.out.size
  have hzw2 : v2.heap.size < W2.heap.size := by rw [← hW]; simp
  have LO2 := hide HX2.out.lo
  have HI2 := hide HX2.out.hi
  have LT2 := hide HX3.out.lo
  have HT2 := hide HX3.out.hi
  have MD_10 := hide (MD_4.out.grow hg)
  have G_11 := hide (grown_trans G_5.out hg)
  have BQ_12 := hide (BQ_6.out.grow hg)
  have S1_13 := hide (grow_same hg S1_7.out)
  have V1_14 := hide (Rw.grow V1_8.out hg)
  have T1_15 := hide (Rw.grow T1_9.out hg)
  clear MD_4 G_5 BQ_6 S1_7 V1_8 T1_9
  have S2_16 : Hid (W2.heap[v2.heap.size]? = some (.cells #[.int .i64 x0, .int .i64 x1, .int .i64 x2, .int .i64 x3, .int .i64 x4, .int .i64 x5, .int .i64 x6, .int .i64 x7, .slice p2 l.length c2, .int .i64 nx, .int .i64 st, .int .i64 tr, .int .i64 sp] 46 (0, 0))) := by rw [← hW]; exact heap_alloc_new _ _
  have V2_17 : Hid (Rw shW W2 B (.slice p2 l.length c2) l) := (HX2.out.grow hgv).base (by omega)
  have T2_18 : Hid (Rw shT W2 B (.slice pt2 tl.length ct2) tl) := (HX3.out.grow hgv).base (by omega)
  clear hW hg hgv HX1 HX2 HX3
  have a0 : W2.cell? ⟨w.heap.size, 0, none⟩ = some (.int .i64 2) := MD_10.out.cell 0
  have a1 : W2.cell? ⟨w.heap.size, 1, none⟩ = some (.int .i64 u0) := MD_10.out.cell 1
  have a2 : W2.cell? ⟨w.heap.size, 2, none⟩ = some (.int .i64 u1) := MD_10.out.cell 2
  have a3 : W2.cell? ⟨w.heap.size, 3, none⟩ = some (.int .i64 u2) := MD_10.out.cell 3
  have a4 : W2.cell? ⟨w.heap.size, 4, none⟩ = some (.int .i64 u3) := MD_10.out.cell 4
  have a5 : W2.cell? ⟨w.heap.size, 5, none⟩ = some (.int .i64 l0) := MD_10.out.cell 5
  have a6 : W2.cell? ⟨w.heap.size, 6, none⟩ = some (.int .i64 l1) := MD_10.out.cell 6
  have a7 : W2.cell? ⟨w.heap.size, 7, none⟩ = some (.int .i64 l2) := MD_10.out.cell 7
  have a8 : W2.cell? ⟨w.heap.size, 8, none⟩ = some (.int .i64 l3) := MD_10.out.cell 8
  have a9 : W2.cell? ⟨w.heap.size, 9, none⟩ = some (.int .i64 b) := MD_10.out.cell 9
  have a10 : W2.cell? ⟨w.heap.size, 10, none⟩ = some (.slice p prog.length c) := MD_10.out.cell 10
  have a11 : W2.cell? ⟨w.heap.size, 11, none⟩ = some (.slice pm mem.length cm) := MD_10.out.cell 11
  have a12 : W2.cell? ⟨w.heap.size, 12, none⟩ = some (.int .i64 steps) := MD_10.out.cell 12
  go_wp2_with fail
  clear a0 a1 a2 a3 a4 a5 a6 a7 a8 a9 a10 a11 a12
  refine (RR.out _ _ _ _ _ (HP.out.below (Nat.le_refl _) ((Below.refl _ _).grown G_11.out (Nat.le_refl _) (by intro k hk; cases hk))) (HM.out.below (Nat.le_refl _) ((Below.refl _ _).grown G_11.out (Nat.le_refl _) (by intro k hk; cases hk)))).mono ?_
  rintro e v3 ⟨p3, c3, pt3, ct3, rfl, hb3, ho3, hot3⟩
  have HX1 := hide hb3
  have HX2 := hide ho3
  have HX3 := hide hot3
  clear hb3 ho3 hot3
  go_upto_region 18 with fail
  obtain ⟨W3, hW⟩ : ∃ W, v3.alloc (.cells #[.int .i64 x0, .int .i64 x1, .int .i64 x2, .int .i64 x3, .int .i64 x4, .int .i64 x5, .int .i64 x6, .int .i64 x7, .slice p3 l.length c3, .int .i64 nx, .int .i64 st, .int .i64 tr, .int .i64 sp] 46) = W := ⟨_, rfl⟩
  rw [hW]
  have hg : W2.grownBy W3 none := by rw [← hW]; exact grown_trans (grown_of_below HX1.out) (World.grownBy_alloc _ _ none)
  have hgv : v3.grownBy W3 none := by rw [← hW]; exact World.grownBy_alloc _ _ none
  have hzz3 : W2.heap.size ≤ v3.heap.size := HX1.out.size
  have hzw3 : v3.heap.size < W3.heap.size := by rw [← hW]; simp
  have MD_19 := hide (MD_10.out.grow hg)
  have G_20 := hide (grown_trans G_11.out hg)
  have BQ_21 := hide (BQ_12.out.grow hg)
  have S1_22 := hide (grow_same hg S1_13.out)
  have V1_23 := hide (Rw.grow V1_14.out hg)
  have T1_24 := hide (Rw.grow T1_15.out hg)
  have S2_25 := hide (grow_same hg S2_16.out)
  have V2_26 := hide (Rw.grow V2_17.out hg)
  have T2_27 := hide (Rw.grow T2_18.out hg)
  clear MD_10 G_11 BQ_12 S1_13 V1_14 T1_15 S2_16 V2_17 T2_18
  have S3_28 : Hid (W3.heap[v3.heap.size]? = some (.cells #[.int .i64 x0, .int .i64 x1, .int .i64 x2, .int .i64 x3, .int .i64 x4, .int .i64 x5, .int .i64 x6, .int .i64 x7, .slice p3 l.length c3, .int .i64 nx, .int .i64 st, .int .i64 tr, .int .i64 sp] 46 (0, 0))) := by rw [← hW]; exact heap_alloc_new _ _
  have V3_29 : Hid (Rw shW W3 B (.slice p3 l.length c3) l) := (HX2.out.grow hgv).base (by omega)
  have T3_30 : Hid (Rw shT W3 B (.slice pt3 tl.length ct3) tl) := (HX3.out.grow hgv).base (by omega)
  clear hW hg hgv HX1 HX2 HX3
  have s0 : W3.cell? ⟨v1.heap.size, 0, none⟩ = some (.int .i64 x0) := cell_of_row W3 _ 0 _ _ _ S1_22.out
  have s1 : W3.cell? ⟨v1.heap.size, 1, none⟩ = some (.int .i64 x1) := cell_of_row W3 _ 1 _ _ _ S1_22.out
  have s2 : W3.cell? ⟨v1.heap.size, 2, none⟩ = some (.int .i64 x2) := cell_of_row W3 _ 2 _ _ _ S1_22.out
  have s3 : W3.cell? ⟨v1.heap.size, 3, none⟩ = some (.int .i64 x3) := cell_of_row W3 _ 3 _ _ _ S1_22.out
  have s4 : W3.cell? ⟨v1.heap.size, 4, none⟩ = some (.int .i64 x4) := cell_of_row W3 _ 4 _ _ _ S1_22.out
  have s5 : W3.cell? ⟨v1.heap.size, 5, none⟩ = some (.int .i64 x5) := cell_of_row W3 _ 5 _ _ _ S1_22.out
  have s6 : W3.cell? ⟨v1.heap.size, 6, none⟩ = some (.int .i64 x6) := cell_of_row W3 _ 6 _ _ _ S1_22.out
  have s7 : W3.cell? ⟨v1.heap.size, 7, none⟩ = some (.int .i64 x7) := cell_of_row W3 _ 7 _ _ _ S1_22.out
  have s8 : W3.cell? ⟨v1.heap.size, 8, none⟩ = some (.slice p1 l.length c1) := cell_of_row W3 _ 8 _ _ _ S1_22.out
  have s9 : W3.cell? ⟨v1.heap.size, 9, none⟩ = some (.int .i64 nx) := cell_of_row W3 _ 9 _ _ _ S1_22.out
  have s10 : W3.cell? ⟨v1.heap.size, 10, none⟩ = some (.int .i64 st) := cell_of_row W3 _ 10 _ _ _ S1_22.out
  have s11 : W3.cell? ⟨v1.heap.size, 11, none⟩ = some (.int .i64 tr) := cell_of_row W3 _ 11 _ _ _ S1_22.out
  have s12 : W3.cell? ⟨v1.heap.size, 12, none⟩ = some (.int .i64 sp) := cell_of_row W3 _ 12 _ _ _ S1_22.out
  have t0 : W3.cell? ⟨v3.heap.size, 0, none⟩ = some (.int .i64 x0) := cell_of_row W3 _ 0 _ _ _ S3_28.out
  have t1 : W3.cell? ⟨v3.heap.size, 1, none⟩ = some (.int .i64 x1) := cell_of_row W3 _ 1 _ _ _ S3_28.out
  have t2 : W3.cell? ⟨v3.heap.size, 2, none⟩ = some (.int .i64 x2) := cell_of_row W3 _ 2 _ _ _ S3_28.out
  have t3 : W3.cell? ⟨v3.heap.size, 3, none⟩ = some (.int .i64 x3) := cell_of_row W3 _ 3 _ _ _ S3_28.out
  have t4 : W3.cell? ⟨v3.heap.size, 4, none⟩ = some (.int .i64 x4) := cell_of_row W3 _ 4 _ _ _ S3_28.out
  have t5 : W3.cell? ⟨v3.heap.size, 5, none⟩ = some (.int .i64 x5) := cell_of_row W3 _ 5 _ _ _ S3_28.out
  have t6 : W3.cell? ⟨v3.heap.size, 6, none⟩ = some (.int .i64 x6) := cell_of_row W3 _ 6 _ _ _ S3_28.out
  have t7 : W3.cell? ⟨v3.heap.size, 7, none⟩ = some (.int .i64 x7) := cell_of_row W3 _ 7 _ _ _ S3_28.out
  have t8 : W3.cell? ⟨v3.heap.size, 8, none⟩ = some (.slice p3 l.length c3) := cell_of_row W3 _ 8 _ _ _ S3_28.out
  have t9 : W3.cell? ⟨v3.heap.size, 9, none⟩ = some (.int .i64 nx) := cell_of_row W3 _ 9 _ _ _ S3_28.out
  have t10 : W3.cell? ⟨v3.heap.size, 10, none⟩ = some (.int .i64 st) := cell_of_row W3 _ 10 _ _ _ S3_28.out
  have t11 : W3.cell? ⟨v3.heap.size, 11, none⟩ = some (.int .i64 tr) := cell_of_row W3 _ 11 _ _ _ S3_28.out
  have t12 : W3.cell? ⟨v3.heap.size, 12, none⟩ = some (.int .i64 sp) := cell_of_row W3 _ 12 _ _ _ S3_28.out
  go_wp2_with fail
  clear s0 s1 s2 s3 s4 s5 s6 s7 s8 s9 s10 s11 s12
  clear t0 t1 t2 t3 t4 t5 t6 t7 t8 t9 t10 t11 t12
  refine (sameState_any _ _ _ _ _ _ _ _ _ _ _ _ _ _ _ _ _ _ (rdW V1_23.out) (rdW V3_29.out) (by omega)).mono ?_
  rintro e W4 ⟨rfl, hb6⟩
  have hg := grown_of_below hb6
  have hzw4 : W3.heap.size ≤ W4.heap.size := hg.size
  have MD_31 := hide (MD_19.out.grow hg)
  have G_32 := hide (grown_trans G_20.out hg)
  have BQ_33 := hide (BQ_21.out.grow hg)
  have S1_34 := hide (grow_same hg S1_22.out)
  have V1_35 := hide (Rw.grow V1_23.out hg)
  have T1_36 := hide (Rw.grow T1_24.out hg)
  have S2_37 := hide (grow_same hg S2_25.out)
  have V2_38 := hide (Rw.grow V2_26.out hg)
  have T2_39 := hide (Rw.grow T2_27.out hg)
  have S3_40 := hide (grow_same hg S3_28.out)
  have V3_41 := hide (Rw.grow V3_29.out hg)
  have T3_42 := hide (Rw.grow T3_30.out hg)
  clear MD_19 G_20 BQ_21 S1_22 V1_23 T1_24 S2_25 V2_26 T2_27 S3_28 V3_29 T3_30
  clear hb6 hg
  go_upto_region 19 with fail
  have s0 : W4.cell? ⟨v2.heap.size, 0, none⟩ = some (.int .i64 x0) := cell_of_row W4 _ 0 _ _ _ S2_37.out
  have s1 : W4.cell? ⟨v2.heap.size, 1, none⟩ = some (.int .i64 x1) := cell_of_row W4 _ 1 _ _ _ S2_37.out
  have s2 : W4.cell? ⟨v2.heap.size, 2, none⟩ = some (.int .i64 x2) := cell_of_row W4 _ 2 _ _ _ S2_37.out
  have s3 : W4.cell? ⟨v2.heap.size, 3, none⟩ = some (.int .i64 x3) := cell_of_row W4 _ 3 _ _ _ S2_37.out
  have s4 : W4.cell? ⟨v2.heap.size, 4, none⟩ = some (.int .i64 x4) := cell_of_row W4 _ 4 _ _ _ S2_37.out
  have s5 : W4.cell? ⟨v2.heap.size, 5, none⟩ = some (.int .i64 x5) := cell_of_row W4 _ 5 _ _ _ S2_37.out
  have s6 : W4.cell? ⟨v2.heap.size, 6, none⟩ = some (.int .i64 x6) := cell_of_row W4 _ 6 _ _ _ S2_37.out
  have s7 : W4.cell? ⟨v2.heap.size, 7, none⟩ = some (.int .i64 x7) := cell_of_row W4 _ 7 _ _ _ S2_37.out
  have s8 : W4.cell? ⟨v2.heap.size, 8, none⟩ = some (.slice p2 l.length c2) := cell_of_row W4 _ 8 _ _ _ S2_37.out
  have s9 : W4.cell? ⟨v2.heap.size, 9, none⟩ = some (.int .i64 nx) := cell_of_row W4 _ 9 _ _ _ S2_37.out
  have s10 : W4.cell? ⟨v2.heap.size, 10, none⟩ = some (.int .i64 st) := cell_of_row W4 _ 10 _ _ _ S2_37.out
  have s11 : W4.cell? ⟨v2.heap.size, 11, none⟩ = some (.int .i64 tr) := cell_of_row W4 _ 11 _ _ _ S2_37.out
  have s12 : W4.cell? ⟨v2.heap.size, 12, none⟩ = some (.int .i64 sp) := cell_of_row W4 _ 12 _ _ _ S2_37.out
  have t0 : W4.cell? ⟨v3.heap.size, 0, none⟩ = some (.int .i64 x0) := cell_of_row W4 _ 0 _ _ _ S3_40.out
  have t1 : W4.cell? ⟨v3.heap.size, 1, none⟩ = some (.int .i64 x1) := cell_of_row W4 _ 1 _ _ _ S3_40.out
  have t2 : W4.cell? ⟨v3.heap.size, 2, none⟩ = some (.int .i64 x2) := cell_of_row W4 _ 2 _ _ _ S3_40.out
  have t3 : W4.cell? ⟨v3.heap.size, 3, none⟩ = some (.int .i64 x3) := cell_of_row W4 _ 3 _ _ _ S3_40.out
  have t4 : W4.cell? ⟨v3.heap.size, 4, none⟩ = some (.int .i64 x4) := cell_of_row W4 _ 4 _ _ _ S3_40.out
  have t5 : W4.cell? ⟨v3.heap.size, 5, none⟩ = some (.int .i64 x5) := cell_of_row W4 _ 5 _ _ _ S3_40.out
  have t6 : W4.cell? ⟨v3.heap.size, 6, none⟩ = some (.int .i64 x6) := cell_of_row W4 _ 6 _ _ _ S3_40.out
  have t7 : W4.cell? ⟨v3.heap.size, 7, none⟩ = some (.int .i64 x7) := cell_of_row W4 _ 7 _ _ _ S3_40.out
  have t8 : W4.cell? ⟨v3.heap.size, 8, none⟩ = some (.slice p3 l.length c3) := cell_of_row W4 _ 8 _ _ _ S3_40.out
  have t9 : W4.cell? ⟨v3.heap.size, 9, none⟩ = some (.int .i64 nx) := cell_of_row W4 _ 9 _ _ _ S3_40.out
  have t10 : W4.cell? ⟨v3.heap.size, 10, none⟩ = some (.int .i64 st) := cell_of_row W4 _ 10 _ _ _ S3_40.out
  have t11 : W4.cell? ⟨v3.heap.size, 11, none⟩ = some (.int .i64 tr) := cell_of_row W4 _ 11 _ _ _ S3_40.out
  have t12 : W4.cell? ⟨v3.heap.size, 12, none⟩ = some (.int .i64 sp) := cell_of_row W4 _ 12 _ _ _ S3_40.out
  go_wp2_with fail
  clear s0 s1 s2 s3 s4 s5 s6 s7 s8 s9 s10 s11 s12
  clear t0 t1 t2 t3 t4 t5 t6 t7 t8 t9 t10 t11 t12
  refine (sameState_any _ _ _ _ _ _ _ _ _ _ _ _ _ _ _ _ _ _ (rdW V2_38.out) (rdW V3_41.out) (by omega)).mono ?_
  rintro e W5 ⟨rfl, hb6⟩
  have hg := grown_of_below hb6
  have hzw5 : W4.heap.size ≤ W5.heap.size := hg.size
  have MD_43 := hide (MD_31.out.grow hg)
  have G_44 := hide (grown_trans G_32.out hg)
  have BQ_45 := hide (BQ_33.out.grow hg)
  have S1_46 := hide (grow_same hg S1_34.out)
  have V1_47 := hide (Rw.grow V1_35.out hg)
  have T1_48 := hide (Rw.grow T1_36.out hg)
  have S2_49 := hide (grow_same hg S2_37.out)
  have V2_50 := hide (Rw.grow V2_38.out hg)
  have T2_51 := hide (Rw.grow T2_39.out hg)
  have S3_52 := hide (grow_same hg S3_40.out)
  have V3_53 := hide (Rw.grow V3_41.out hg)
  have T3_54 := hide (Rw.grow T3_42.out hg)
  clear MD_31 G_32 BQ_33 S1_34 V1_35 T1_36 S2_37 V2_38 T2_39 S3_40 V3_41 T3_42
  clear hb6 hg
  go_upto_region 20 with fail
  go_wp2_with fail
  refine (sameTimes_any _ _ _ _ _ _ (rdT T1_48.out) (rdT T3_54.out) (by omega)).mono ?_
  rintro e W6 ⟨rfl, n6, hw6⟩
  have hg : W5.grownBy W6 none := by rw [hw6]; exact grown_draws _ _
  have hzw6 : W5.heap.size ≤ W6.heap.size := hg.size
  have MD_55 := hide (MD_43.out.grow hg)
  have G_56 := hide (grown_trans G_44.out hg)
  have BQ_57 := hide (BQ_45.out.grow hg)
  have S1_58 := hide (grow_same hg S1_46.out)
  have V1_59 := hide (Rw.grow V1_47.out hg)
  have T1_60 := hide (Rw.grow T1_48.out hg)
  have S2_61 := hide (grow_same hg S2_49.out)
  have V2_62 := hide (Rw.grow V2_50.out hg)
  have T2_63 := hide (Rw.grow T2_51.out hg)
  have S3_64 := hide (grow_same hg S3_52.out)
  have V3_65 := hide (Rw.grow V3_53.out hg)
  have T3_66 := hide (Rw.grow T3_54.out hg)
  clear MD_43 G_44 BQ_45 S1_46 V1_47 T1_48 S2_49 V2_50 T2_51 S3_52 V3_53 T3_54
  clear hw6 hg n6
  go_upto_region 21 with fail
  go_wp2_with fail
  refine (sameTimes_any _ _ _ _ _ _ (rdT T2_63.out) (rdT T3_66.out) (by omega)).mono ?_
  rintro e W7 ⟨rfl, n6, hw6⟩
  have hg : W6.grownBy W7 none := by rw [hw6]; exact grown_draws _ _
  have hzw7 : W6.heap.size ≤ W7.heap.size := hg.size
  have MD_67 := hide (MD_55.out.grow hg)
  have G_68 := hide (grown_trans G_56.out hg)
  have BQ_69 := hide (BQ_57.out.grow hg)
  have S1_70 := hide (grow_same hg S1_58.out)
  have V1_71 := hide (Rw.grow V1_59.out hg)
  have T1_72 := hide (Rw.grow T1_60.out hg)
  have S2_73 := hide (grow_same hg S2_61.out)
  have V2_74 := hide (Rw.grow V2_62.out hg)
  have T2_75 := hide (Rw.grow T2_63.out hg)
  have S3_76 := hide (grow_same hg S3_64.out)
  have V3_77 := hide (Rw.grow V3_65.out hg)
  have T3_78 := hide (Rw.grow T3_66.out hg)
  clear MD_55 G_56 BQ_57 S1_58 V1_59 T1_60 S2_61 V2_62 T2_63 S3_64 V3_65 T3_66
  clear hw6 hg n6
  go_upto_region 22 with fail
  have L_79 : Hid (Below B w W7) := (Below.refl B w).grown G_68.out hBw (by intro k hk; cases hk)
  have PO_80 : Hid (prog ≠ [] → ∀ a, p = some a → W7.heap[a.block]? = w.heap[a.block]?) := same_grow HPB.out G_68.out
  have PW_81 : Hid (mem ≠ [] → ∀ a, pm = some a → W7.heap[a.block]? = w.heap[a.block]?) := same_grow HMB.out G_68.out
  have hzL0 : w.heap.size ≤ W7.heap.size := G_68.out.size
  clear G_68
  clear S3_76
  clear V3_77
  clear T3_78
  have FW0 : Hid (FreeH shW ms ys w1.heap.size) := OW.out.free (by omega)
  have s8 : W7.cell? ⟨v1.heap.size, 8, none⟩ = some (.slice p1 l.length c1) := cell_of_row W7 _ 8 _ _ _ S1_70.out
  go_wp2_with fail
  clear s8
  refine (keepWordsQ B bb _ _ _ _ _ _ _ _ _ _ _ _ _ _ _ _ _ BQ_69.out V1_71.out hl16 (by simp; omega) (by simp; omega) (fun y hy => ⟨lohi (OW.out.ys y hy).1 HI1.out (by omega), hilo HI1.out (OW.out.ys y hy).2 (by omega)⟩) (fun m hm => hilo HI1.out (OW.out.ms m hm) (by omega))).mono ?_
  rintro e W8 ⟨rfl, hk, hbB, aw1, ew1, xW1, hbk, hx⟩
  have X1 : Hid (HiB xW1 W7.heap.size) := hx
  have hzk1 : W7.heap.size ≤ W8.heap.size := hk.size
  clear V1_71
  clear S1_70
  have MD_82 := hide (MD_67.out.kr hk (by omega) (by omega) (by omega))
  have T1_83 := hide (Kr.row hk BQ_69.out.blk T1_72.out (by decide) (by decide) (by decide))
  have S2_84 := hide (hk.same S2_73.out (by decide) (by decide) (by omega))
  have V2_85 := hide (Kr.row hk BQ_69.out.blk V2_74.out (by decide) (by decide) (by decide))
  have T2_86 := hide (Kr.row hk BQ_69.out.blk T2_75.out (by decide) (by decide) (by decide))
  have L_87 := hide (L_79.out.trans hbB)
  have PO_88 := hide (same_kr HPB.out PO_80.out hk hbB (by omega))
  have PW_89 := hide (same_kr HMB.out PW_81.out hk hbB (by omega))
  have BQ_90 := hide (hbk)
  clear MD_67 T1_72 S2_73 V2_74 T2_75 L_79 PO_80 PW_81 BQ_69
  have FW1 := hide (FW0.out.snoc (l := l) HI1.out X1.out (by omega) (by omega))
  clear FW0
  clear hk hbB hbk hx
  go_upto_region 23 with fail
  have s8 : W8.cell? ⟨v2.heap.size, 8, none⟩ = some (.slice p2 l.length c2) := cell_of_row W8 _ 8 _ _ _ S2_84.out
  go_wp2_with fail
  clear s8
  have HY2 : Hid (∀ y ∈ ys ++ [((Value.slice p1 l.length c1), xW1, l)], Apart y.1 (Value.slice p2 l.length c2) ∧ Apart (Value.slice p2 l.length c2) y.2.1) := by
    intro y hy
    rcases List.mem_append.1 hy with h' | h'
    · exact ⟨lohi (OW.out.ys y h').1 HI2.out (by omega), hilo HI2.out (OW.out.ys y h').2 (by omega)⟩
    · simp at h'
      subst h'
      exact ⟨lohi LO1.out HI2.out (by omega), lohi LO2.out X1.out (by omega)⟩
  refine (keepWordsQ B bb _ _ _ _ _ _ _ _ _ _ _ _ _ _ _ _ _ BQ_90.out V2_85.out hl16 (by simp; omega) (by simp; omega) HY2.out (fun m hm => hilo HI2.out (OW.out.ms m hm) (by omega))).mono ?_
  rintro e W9 ⟨rfl, hk, hbB, aw2, ew2, xW2, hbk, hx⟩
  have X2 : Hid (HiB xW2 W8.heap.size) := hx
  have hzk2 : W8.heap.size ≤ W9.heap.size := hk.size
  clear V2_85
  clear S2_84
  have MD_91 := hide (MD_82.out.kr hk (by omega) (by omega) (by omega))
  have T1_92 := hide (Kr.row hk BQ_90.out.blk T1_83.out (by decide) (by decide) (by decide))
  have T2_93 := hide (Kr.row hk BQ_90.out.blk T2_86.out (by decide) (by decide) (by decide))
  have L_94 := hide (L_87.out.trans hbB)
  have PO_95 := hide (same_kr HPB.out PO_88.out hk hbB (by omega))
  have PW_96 := hide (same_kr HMB.out PW_89.out hk hbB (by omega))
  have BQ_97 := hide (hbk)
  clear MD_82 T1_83 T2_86 L_87 PO_88 PW_89 BQ_90
  have FW2 := hide (FW1.out.snoc (l := l) HI2.out X2.out (by omega) (by omega))
  clear FW1
  clear hk hbB hbk hx HY2
  go_upto_region 24 with fail
  go_wp2_with fail
  refine (keepTimesQ B bb _ _ _ _ _ _ _ _ _ _ _ _ _ _ _ _ _ BQ_97.out T1_92.out htl4 (by simp; omega) (by simp; omega) (fun y hy => ⟨lohi (OT.out.ys y hy).1 HT1.out (by omega), hilo HT1.out (OT.out.ys y hy).2 (by omega)⟩) (fun m hm => hilo HT1.out (OT.out.ms m hm) (by omega))).mono ?_
  rintro e W10 ⟨rfl, hk, hbB, aw3, ew3, xT1, hbk, hx⟩
  have Y1 : Hid (HiB xT1 W9.heap.size) := hx
  have hzk3 : W9.heap.size ≤ W10.heap.size := hk.size
  clear T1_92
  have MD_98 := hide (MD_91.out.kr hk (by omega) (by omega) (by omega))
  have T2_99 := hide (Kr.row hk BQ_97.out.blk T2_93.out (by decide) (by decide) (by decide))
  have L_100 := hide (L_94.out.trans hbB)
  have PO_101 := hide (same_kr HPB.out PO_95.out hk hbB (by omega))
  have PW_102 := hide (same_kr HMB.out PW_96.out hk hbB (by omega))
  have BQ_103 := hide (hbk)
  clear MD_91 T2_93 L_94 PO_95 PW_96 BQ_97
  clear hk hbB hbk hx
  go_upto_region 25 with fail
  go_wp2_with fail
  have HY2 : Hid (∀ y ∈ zs ++ [((Value.slice pt1 tl.length ct1), xT1, tl)], Apart y.1 (Value.slice pt2 tl.length ct2) ∧ Apart (Value.slice pt2 tl.length ct2) y.2.1) := by
    intro y hy
    rcases List.mem_append.1 hy with h' | h'
    · exact ⟨lohi (OT.out.ys y h').1 HT2.out (by omega), hilo HT2.out (OT.out.ys y h').2 (by omega)⟩
    · simp at h'
      subst h'
      exact ⟨lohi LT1.out HT2.out (by omega), lohi LT2.out Y1.out (by omega)⟩
  refine (keepTimesQ B bb _ _ _ _ _ _ _ _ _ _ _ _ _ _ _ _ _ BQ_103.out T2_99.out htl4 (by simp; omega) (by simp; omega) HY2.out (fun m hm => hilo HT2.out (OT.out.ms m hm) (by omega))).mono ?_
  rintro e W11 ⟨rfl, hk, hbB, aw4, ew4, xT2, hbk, hx⟩
  have Y2 : Hid (HiB xT2 W10.heap.size) := hx
  have hzk4 : W10.heap.size ≤ W11.heap.size := hk.size
  clear T2_99
  have MD_104 := hide (MD_98.out.kr hk (by omega) (by omega) (by omega))
  have L_105 := hide (L_100.out.trans hbB)
  have PO_106 := hide (same_kr HPB.out PO_101.out hk hbB (by omega))
  have PW_107 := hide (same_kr HMB.out PW_102.out hk hbB (by omega))
  have BQ_108 := hide (hbk)
  clear MD_98 L_100 PO_101 PW_102 BQ_103
  clear hk hbB hbk hx HY2
  go_upto_region 26 with fail
  have t9 : (er == er) = true := by simp
  go_upto_region 27 with (go_at_call 14; refine (num_any _ _).mono ?_; rintro e w' ⟨rfl, hw'⟩; obtain rfl : W11 = w' := hw'.symm)
  obtain ⟨curO, o1, o2⟩ := MD_104.out.ord
  have PO := hide o1
  have hPz := lt_of_blk o1
  clear o1 o2
  have a10 : W11.cell? ⟨w.heap.size, 10, none⟩ = some (.slice p prog.length c) := MD_104.out.cell 10
  go_wp2_with fail
  clear a10
  refine (untouchedOrders_any (w.heap.size + 1) _ _ _ _ (HP.out.same PO_106.out L_105.out.size) MD_104.out.ord (fun hne a ha => by have := (HPB.out hne a ha).1; omega) hl1).mono ?_
  rintro e Wy ⟨rfl, hg⟩
  have hzL : w.heap.size ≤ W11.heap.size := L_105.out.size
  have LY : Hid (Below B w Wy) := L_105.out.grown hg (by omega) (by intro k hk; simp at hk; omega)
  have hbox := (hg.block _ (lt_of_blk MD_104.out.box) (by simp)).trans MD_104.out.box
  have hwds : HandW Wy w1.heap.size mem := MD_104.out.wds.keep (hg.block _ (lt_of_blk MD_104.out.wds.choose_spec.1) (by simp; omega))
  have BY := hide (show Bq Wy B bb wv aw2 ew2 ms _ _ _ tv aw4 ew4 ts _ _ _ from ⟨(hg.block bb (lt_of_blk BQ_108.out.blk) (by simp; omega)).trans BQ_108.out.blk, hBb, Nat.le_trans BQ_108.out.small hg.size, BQ_108.out.hw.block PO.out hg (.inl (by decide)) (by decide), BQ_108.out.ht.block PO.out hg (.inl (by decide)) (by decide)⟩)
  have PY : Hid (mem ≠ [] → ∀ a, pm = some a → Wy.heap[a.block]? = w.heap[a.block]?) := fun hne a ha => (hg.block _ (by have := (HMB.out hne a ha).1; omega) (by have := (HMB.out hne a ha).1; simp; omega)).trans (PW_107.out hne a ha)
  have HWD := hide hwds
  have hzY := hg.size
  clear MD_104
  clear BQ_108
  clear L_105
  clear PO_106
  clear PW_107
  have a11 : Wy.cell? ⟨w.heap.size, 11, none⟩ = some (.slice pm mem.length cm) := cell_of_row Wy _ 11 _ _ _ hbox
  clear hg hbox hwds PO
  go_upto_region 28 with fail
  go_wp2_with fail
  clear a11
  obtain ⟨curW, q1, q2⟩ := HWD.out
  refine (untouchedWords_any w1.heap.size _ _ _ _ (HM.out.same PY.out LY.out.size) HWD.out (fun hne a ha => by have := (HMB.out hne a ha).1; omega) hl2).mono ?_
  rintro e Wz ⟨rfl, hg⟩
  have LZ : Hid (Below B w Wz) := LY.out.grown hg (by omega) (by intro k hk; simp at hk; omega)
  have hbz : Bq Wz B bb wv aw2 ew2 ms _ _ _ tv aw4 ew4 ts _ _ _ := ⟨(hg.block bb (lt_of_blk BY.out.blk) (by simp; omega)).trans BY.out.blk, hBb, Nat.le_trans BY.out.small hg.size, BY.out.hw.block q1 hg (.inr FW2.out) (by decide), BY.out.ht.block q1 hg (.inl (by decide)) (by decide)⟩
  have BZ : Hid (Bq Wz B bb wv aw2 ew2 ms ((ys ++ [(Value.slice p1 l.length c1, xW1, l)] ++ [(Value.slice p2 l.length c2, xW2, l)]).map (·.1)) ((ys ++ [(Value.slice p1 l.length c1, xW1, l)] ++ [(Value.slice p2 l.length c2, xW2, l)]).map (·.2.1)) (ys ++ [(Value.slice p1 l.length c1, xW1, l)] ++ [(Value.slice p2 l.length c2, xW2, l)]) tv aw4 ew4 ts ((zs ++ [(Value.slice pt1 tl.length ct1, xT1, tl)] ++ [(Value.slice pt2 tl.length ct2, xT2, tl)]).map (·.1)) ((zs ++ [(Value.slice pt1 tl.length ct1, xT1, tl)] ++ [(Value.slice pt2 tl.length ct2, xT2, tl)]).map (·.2.1)) (zs ++ [(Value.slice pt1 tl.length ct1, xT1, tl)] ++ [(Value.slice pt2 tl.length ct2, xT2, tl)])) := hide (by simpa using hbz)
  clear hg hbz q1 q2 BY HWD LY
  go_upto_region 29 with fail
  go_wp2_with fail
  refine (looksK B bb (n + 1) q r _ _ _ _ _ _ _ _ _ _ _ HQ.out HR.out BZ.out (by intro y hy; simp at hy; rcases hy with h | rfl | rfl; exact HTY.out y h; exact TI1.out; exact TI2.out) (by intro y hy; simp at hy; rcases hy with h | rfl | rfl; exact HTZ.out y h; exact TT1.out; exact TT2.out) (by first | omega | (simp; omega)) (by first | omega | (simp; omega)) (by have := HQN.out; simp; omega) (by have := HRN.out; simp; omega) hn).mono ?_
  rintro e We ⟨rfl, hbe, hke⟩
  go_wp2
  go_ret
  exact ⟨rfl, LZ.out.trans hbe, hke⟩

set_option maxRecDepth 100000 in
set_option maxHeartbeats 8000000 in
theorem oneQ1 (B bb n : Nat) (u0 u1 u2 u3 l0 l1 l2 l3 b : Int) (p pm : Option Addr) (c cm : Nat) (prog : List Ord) (mem : List Int) (steps : Int) (w : World)
    (hb : Bkk w B bb n) (hn : n + 1 ≤ 1100000000000) (hp : RdO w p prog) (hm : Rd w pm mem) (hpB : prog ≠ [] → Safe w B bb p) (hmB : mem ≠ [] → Safe w B bb pm) (hl1 : prog.length * 40 ≤ 140737488351232) (hl2 : mem.length * 8 ≤ 140737488351232) :
    Calls Tryz.prog 6 #[.pointer (some ⟨bb, 0, none⟩), .agg #[.int .i64 1, .int .i64 u0, .int .i64 u1, .int .i64 u2, .int .i64 u3, .int .i64 l0, .int .i64 l1, .int .i64 l2, .int .i64 l3, .int .i64 b, .slice p prog.length c, .slice pm mem.length cm, .int .i64 steps]] w fun e w' => e = .returned (.bool true) ∧ Below B w w' ∧ Bkk w' B bb (n + 1) := by
  obtain ⟨hreg, hl16⟩ := answer_fine prog mem steps
  obtain ⟨x0, x1, x2, x3, x4, x5, x6, x7, hx⟩ := list8 hreg
  obtain ⟨nx, hnx⟩ : ∃ x, ((answer prog mem steps).1.next : Int) = x := ⟨_, rfl⟩
  obtain ⟨st, hst⟩ : ∃ x, (answer prog mem steps).2.1 = x := ⟨_, rfl⟩
  obtain ⟨tr, htr⟩ : ∃ x, (answer prog mem steps).2.2.1 = x := ⟨_, rfl⟩
  obtain ⟨sp, hsp⟩ : ∃ x, ((answer prog mem steps).1.steps : Int) = x := ⟨_, rfl⟩
  obtain ⟨er, her⟩ : ∃ x, (answer prog mem steps).2.2.2 = x := ⟨_, rfl⟩
  obtain ⟨l, hl⟩ : ∃ x, (answer prog mem steps).1.mem = x := ⟨_, rfl⟩
  rw [hl] at hl16
  have hpl : (prog.length : Int) ≤ 1000000000000000 := by omega
  have hmm : (mem.length : Int) ≤ 1000000000000000 := by omega
  have RU := hide (fun p pm c cm W h1 h2 => plain_lit p pm c cm prog mem steps W h1 h2 hpl hmm hx hnx hst htr hsp her hl)
  have RR := hide (fun p pm c cm W h1 h2 => ref_lit p pm c cm prog mem steps W h1 h2 hpl hmm hx hnx hst htr hsp her hl)
  clear hreg hx hnx hst htr hsp her hl hpl hmm
  obtain ⟨q, r, wv, aw, ew, ms, ys, tv, at', et, ts, zs, hq, hr, hb, hty, htz, h5, hqn, hrn⟩ := hb
  have HQ := hide hq
  have HR := hide hr
  have HTY := hide hty
  have HTZ := hide htz
  have HQN := hide hqn
  have HRN := hide hrn
  have HP := hide hp
  have HM := hide hm
  have HPB := hide hpB
  have HMB := hide hmB
  have hBw := hb.small
  have hbbz := lt_of_blk hb.blk
  have hBb := hb.base
  have OW := hide hb.hw.old
  have OT := hide hb.ht.old
  have HB0 := hide hb
  clear hq hr hb hty htz hp hm hpB hmB hqn hrn
  go_enter Tryz.func6, Tryz.ntmps6
  go_wp2_with fail
  refine (handedOrders_any _ _ _ _ (HP.out.below (Nat.le_refl _) ((Below.refl _ _).alloc (Nat.le_refl _) _)) hl1).mono ?_
  rintro e w1 ⟨rfl, hb1, hO1⟩
  have hN1 := below_same hb1 (heap_alloc_new w (.cells #[.int .i64 1, .int .i64 u0, .int .i64 u1, .int .i64 u2, .int .i64 u3, .int .i64 l0, .int .i64 l1, .int .i64 l2, .int .i64 l3, .int .i64 b, .slice p prog.length c, .slice pm mem.length cm, .int .i64 steps] 34))
  have hg1 : w.grownBy w1 none := grown_trans (World.grownBy_alloc w (.cells #[.int .i64 1, .int .i64 u0, .int .i64 u1, .int .i64 u2, .int .i64 u3, .int .i64 l0, .int .i64 l1, .int .i64 l2, .int .i64 l3, .int .i64 b, .slice p prog.length c, .slice pm mem.length cm, .int .i64 steps] 34) none) (grown_of_below hb1)
  have hO1' : HandO w1 (w.heap.size + 1) prog := by simpa using hO1
  have HN1 := hide hN1
  have HO1 := hide hO1'
  have HG1 := hide hg1
  have hz1 : w.heap.size + 1 < w1.heap.size := lt_of_blk hO1'.choose_spec.1
  clear hb1 hO1 hO1' hg1
  have a11 : w1.cell? ⟨w.heap.size, 11, none⟩ = some (.slice pm mem.length cm) := cell_of_row w1 _ 11 _ _ _ hN1
  clear hN1
  go_wp2_with fail
  clear a11
  refine (handedWords_any _ _ _ _ (HM.out.below (Nat.le_refl _) ((Below.refl _ _).grown HG1.out (Nat.le_refl _) (by intro k hk; cases hk))) hl2).mono ?_
  rintro e w2 ⟨rfl, hb2, hW2⟩
  have hg2 := grown_of_below hb2
  have hz2 : w1.heap.size < w2.heap.size := lt_of_blk hW2.choose_spec.1
  have MD_1 : Hid (Md w2 w.heap.size (w.heap.size + 1) w1.heap.size #[.int .i64 1, .int .i64 u0, .int .i64 u1, .int .i64 u2, .int .i64 u3, .int .i64 l0, .int .i64 l1, .int .i64 l2, .int .i64 l3, .int .i64 b, .slice p prog.length c, .slice pm mem.length cm, .int .i64 steps] prog mem) := ⟨grow_same hg2 HN1.out, HO1.out.keep (hb2.block _ (lt_of_blk HO1.out.choose_spec.1)), hW2⟩
  have G_2 : Hid (w.grownBy w2 none) := grown_trans HG1.out hg2
  have BQ_3 := hide (HB0.out.grow G_2.out)
  clear hb2 hW2 hg2 HN1 HO1 HG1
  have a0 : w2.cell? ⟨w.heap.size, 0, none⟩ = some (.int .i64 1) := MD_1.out.cell 0
  have a12 : w2.cell? ⟨w.heap.size, 12, none⟩ = some (.int .i64 steps) := MD_1.out.cell 12
  go_wp2_with fail
  clear a0 a12
  refine (RU.out _ _ _ _ _ MD_1.out.ord.rd MD_1.out.wds.rd).mono ?_
  rintro e v1 ⟨p1, c1, rfl, hb3, ho3', ht3⟩
  have ho3 := Rw.own.2 ho3'
  clear ho3'
  have HX1 := hide hb3
  have HX2 := hide ho3
  have TI1 := hide ht3
  clear hb3 ho3 ht3
  go_upto_region 7 with fail
  obtain ⟨W1, hW⟩ : ∃ W, v1.alloc (.cells #[.int .i64 x0, .int .i64 x1, .int .i64 x2, .int .i64 x3, .int .i64 x4, .int .i64 x5, .int .i64 x6, .int .i64 x7, .slice p1 l.length c1, .int .i64 nx, .int .i64 st, .int .i64 tr, .int .i64 sp] 46) = W := ⟨_, rfl⟩
  rw [hW]
  have hg : w2.grownBy W1 none := by rw [← hW]; exact grown_trans (grown_of_below HX1.out) (World.grownBy_alloc _ _ none)
  have hgv : v1.grownBy W1 none := by rw [← hW]; exact World.grownBy_alloc _ _ none
  have hzz1 : w2.heap.size ≤ v1.heap.size := HX1.out.size
  have hzw1 : v1.heap.size < W1.heap.size := by rw [← hW]; simp
  have LO1 := hide HX2.out.lo
  have HI1 := hide HX2.out.hi
  have MD_4 := hide (MD_1.out.grow hg)
  have G_5 := hide (grown_trans G_2.out hg)
  have BQ_6 := hide (BQ_3.out.grow hg)
  clear MD_1 G_2 BQ_3
  have S1_7 : Hid (W1.heap[v1.heap.size]? = some (.cells #[.int .i64 x0, .int .i64 x1, .int .i64 x2, .int .i64 x3, .int .i64 x4, .int .i64 x5, .int .i64 x6, .int .i64 x7, .slice p1 l.length c1, .int .i64 nx, .int .i64 st, .int .i64 tr, .int .i64 sp] 46 (0, 0))) := by rw [← hW]; exact heap_alloc_new _ _
  have V1_8 : Hid (Rw shW W1 B (.slice p1 l.length c1) l) := (HX2.out.grow hgv).base (by omega)
  clear hW hg hgv HX1 HX2
  have a0 : W1.cell? ⟨w.heap.size, 0, none⟩ = some (.int .i64 1) := MD_4.out.cell 0
  have a12 : W1.cell? ⟨w.heap.size, 12, none⟩ = some (.int .i64 steps) := MD_4.out.cell 12
  go_wp2_with fail
  clear a0 a12
  refine (RU.out _ _ _ _ _ MD_4.out.ord.rd MD_4.out.wds.rd).mono ?_
  rintro e v2 ⟨p2, c2, rfl, hb3, ho3', ht3⟩
  have ho3 := Rw.own.2 ho3'
  clear ho3'
  have HX1 := hide hb3
  have HX2 := hide ho3
  have TI2 := hide ht3
  clear hb3 ho3 ht3
  go_upto_region 8 with fail
  obtain ⟨W2, hW⟩ : ∃ W, v2.alloc (.cells #[.int .i64 x0, .int .i64 x1, .int .i64 x2, .int .i64 x3, .int .i64 x4, .int .i64 x5, .int .i64 x6, .int .i64 x7, .slice p2 l.length c2, .int .i64 nx, .int .i64 st, .int .i64 tr, .int .i64 sp] 46) = W := ⟨_, rfl⟩
  rw [hW]
  have hg : W1.grownBy W2 none := by rw [← hW]; exact grown_trans (grown_of_below HX1.out) (World.grownBy_alloc _ _ none)
  have hgv : v2.grownBy W2 none := by rw [← hW]; exact World.grownBy_alloc _ _ none
  have hzz2 : W1.heap.size ≤ v2.heap.size := HX1.out.size
  have hzw2 : v2.heap.size < W2.heap.size := by rw [← hW]; simp
  have LO2 := hide HX2.out.lo
  have HI2 := hide HX2.out.hi
  have MD_9 := hide (MD_4.out.grow hg)
  have G_10 := hide (grown_trans G_5.out hg)
  have BQ_11 := hide (BQ_6.out.grow hg)
  have S1_12 := hide (grow_same hg S1_7.out)
  have V1_13 := hide (Rw.grow V1_8.out hg)
  clear MD_4 G_5 BQ_6 S1_7 V1_8
  have S2_14 : Hid (W2.heap[v2.heap.size]? = some (.cells #[.int .i64 x0, .int .i64 x1, .int .i64 x2, .int .i64 x3, .int .i64 x4, .int .i64 x5, .int .i64 x6, .int .i64 x7, .slice p2 l.length c2, .int .i64 nx, .int .i64 st, .int .i64 tr, .int .i64 sp] 46 (0, 0))) := by rw [← hW]; exact heap_alloc_new _ _
  have V2_15 : Hid (Rw shW W2 B (.slice p2 l.length c2) l) := (HX2.out.grow hgv).base (by omega)
  clear hW hg hgv HX1 HX2
  have a0 : W2.cell? ⟨w.heap.size, 0, none⟩ = some (.int .i64 1) := MD_9.out.cell 0
  have a10 : W2.cell? ⟨w.heap.size, 10, none⟩ = some (.slice p prog.length c) := MD_9.out.cell 10
  have a11 : W2.cell? ⟨w.heap.size, 11, none⟩ = some (.slice pm mem.length cm) := MD_9.out.cell 11
  have a12 : W2.cell? ⟨w.heap.size, 12, none⟩ = some (.int .i64 steps) := MD_9.out.cell 12
  go_wp2_with fail
  clear a0 a10 a11 a12
  refine (RR.out _ _ _ _ _ (HP.out.below (Nat.le_refl _) ((Below.refl _ _).grown G_10.out (Nat.le_refl _) (by intro k hk; cases hk))) (HM.out.below (Nat.le_refl _) ((Below.refl _ _).grown G_10.out (Nat.le_refl _) (by intro k hk; cases hk)))).mono ?_
  rintro e v3 ⟨p3, c3, rfl, hb3, ho3'⟩
  have ho3 := Rw.own.2 ho3'
  clear ho3'
  have HX1 := hide hb3
  have HX2 := hide ho3
  clear hb3 ho3
  go_upto_region 9 with fail
  obtain ⟨W3, hW⟩ : ∃ W, v3.alloc (.cells #[.int .i64 x0, .int .i64 x1, .int .i64 x2, .int .i64 x3, .int .i64 x4, .int .i64 x5, .int .i64 x6, .int .i64 x7, .slice p3 l.length c3, .int .i64 nx, .int .i64 st, .int .i64 tr, .int .i64 sp] 46) = W := ⟨_, rfl⟩
  rw [hW]
  have hg : W2.grownBy W3 none := by rw [← hW]; exact grown_trans (grown_of_below HX1.out) (World.grownBy_alloc _ _ none)
  have hgv : v3.grownBy W3 none := by rw [← hW]; exact World.grownBy_alloc _ _ none
  have hzz3 : W2.heap.size ≤ v3.heap.size := HX1.out.size
  have hzw3 : v3.heap.size < W3.heap.size := by rw [← hW]; simp
  have MD_16 := hide (MD_9.out.grow hg)
  have G_17 := hide (grown_trans G_10.out hg)
  have BQ_18 := hide (BQ_11.out.grow hg)
  have S1_19 := hide (grow_same hg S1_12.out)
  have V1_20 := hide (Rw.grow V1_13.out hg)
  have S2_21 := hide (grow_same hg S2_14.out)
  have V2_22 := hide (Rw.grow V2_15.out hg)
  clear MD_9 G_10 BQ_11 S1_12 V1_13 S2_14 V2_15
  have S3_23 : Hid (W3.heap[v3.heap.size]? = some (.cells #[.int .i64 x0, .int .i64 x1, .int .i64 x2, .int .i64 x3, .int .i64 x4, .int .i64 x5, .int .i64 x6, .int .i64 x7, .slice p3 l.length c3, .int .i64 nx, .int .i64 st, .int .i64 tr, .int .i64 sp] 46 (0, 0))) := by rw [← hW]; exact heap_alloc_new _ _
  have V3_24 : Hid (Rw shW W3 B (.slice p3 l.length c3) l) := (HX2.out.grow hgv).base (by omega)
  clear hW hg hgv HX1 HX2
  have s0 : W3.cell? ⟨v1.heap.size, 0, none⟩ = some (.int .i64 x0) := cell_of_row W3 _ 0 _ _ _ S1_19.out
  have s1 : W3.cell? ⟨v1.heap.size, 1, none⟩ = some (.int .i64 x1) := cell_of_row W3 _ 1 _ _ _ S1_19.out
  have s2 : W3.cell? ⟨v1.heap.size, 2, none⟩ = some (.int .i64 x2) := cell_of_row W3 _ 2 _ _ _ S1_19.out
  have s3 : W3.cell? ⟨v1.heap.size, 3, none⟩ = some (.int .i64 x3) := cell_of_row W3 _ 3 _ _ _ S1_19.out
  have s4 : W3.cell? ⟨v1.heap.size, 4, none⟩ = some (.int .i64 x4) := cell_of_row W3 _ 4 _ _ _ S1_19.out
  have s5 : W3.cell? ⟨v1.heap.size, 5, none⟩ = some (.int .i64 x5) := cell_of_row W3 _ 5 _ _ _ S1_19.out
  have s6 : W3.cell? ⟨v1.heap.size, 6, none⟩ = some (.int .i64 x6) := cell_of_row W3 _ 6 _ _ _ S1_19.out
  have s7 : W3.cell? ⟨v1.heap.size, 7, none⟩ = some (.int .i64 x7) := cell_of_row W3 _ 7 _ _ _ S1_19.out
  have s8 : W3.cell? ⟨v1.heap.size, 8, none⟩ = some (.slice p1 l.length c1) := cell_of_row W3 _ 8 _ _ _ S1_19.out
  have s9 : W3.cell? ⟨v1.heap.size, 9, none⟩ = some (.int .i64 nx) := cell_of_row W3 _ 9 _ _ _ S1_19.out
  have s10 : W3.cell? ⟨v1.heap.size, 10, none⟩ = some (.int .i64 st) := cell_of_row W3 _ 10 _ _ _ S1_19.out
  have s11 : W3.cell? ⟨v1.heap.size, 11, none⟩ = some (.int .i64 tr) := cell_of_row W3 _ 11 _ _ _ S1_19.out
  have s12 : W3.cell? ⟨v1.heap.size, 12, none⟩ = some (.int .i64 sp) := cell_of_row W3 _ 12 _ _ _ S1_19.out
  have t0 : W3.cell? ⟨v3.heap.size, 0, none⟩ = some (.int .i64 x0) := cell_of_row W3 _ 0 _ _ _ S3_23.out
  have t1 : W3.cell? ⟨v3.heap.size, 1, none⟩ = some (.int .i64 x1) := cell_of_row W3 _ 1 _ _ _ S3_23.out
  have t2 : W3.cell? ⟨v3.heap.size, 2, none⟩ = some (.int .i64 x2) := cell_of_row W3 _ 2 _ _ _ S3_23.out
  have t3 : W3.cell? ⟨v3.heap.size, 3, none⟩ = some (.int .i64 x3) := cell_of_row W3 _ 3 _ _ _ S3_23.out
  have t4 : W3.cell? ⟨v3.heap.size, 4, none⟩ = some (.int .i64 x4) := cell_of_row W3 _ 4 _ _ _ S3_23.out
  have t5 : W3.cell? ⟨v3.heap.size, 5, none⟩ = some (.int .i64 x5) := cell_of_row W3 _ 5 _ _ _ S3_23.out
  have t6 : W3.cell? ⟨v3.heap.size, 6, none⟩ = some (.int .i64 x6) := cell_of_row W3 _ 6 _ _ _ S3_23.out
  have t7 : W3.cell? ⟨v3.heap.size, 7, none⟩ = some (.int .i64 x7) := cell_of_row W3 _ 7 _ _ _ S3_23.out
  have t8 : W3.cell? ⟨v3.heap.size, 8, none⟩ = some (.slice p3 l.length c3) := cell_of_row W3 _ 8 _ _ _ S3_23.out
  have t9 : W3.cell? ⟨v3.heap.size, 9, none⟩ = some (.int .i64 nx) := cell_of_row W3 _ 9 _ _ _ S3_23.out
  have t10 : W3.cell? ⟨v3.heap.size, 10, none⟩ = some (.int .i64 st) := cell_of_row W3 _ 10 _ _ _ S3_23.out
  have t11 : W3.cell? ⟨v3.heap.size, 11, none⟩ = some (.int .i64 tr) := cell_of_row W3 _ 11 _ _ _ S3_23.out
  have t12 : W3.cell? ⟨v3.heap.size, 12, none⟩ = some (.int .i64 sp) := cell_of_row W3 _ 12 _ _ _ S3_23.out
  go_wp2_with fail
  clear s0 s1 s2 s3 s4 s5 s6 s7 s8 s9 s10 s11 s12
  clear t0 t1 t2 t3 t4 t5 t6 t7 t8 t9 t10 t11 t12
  refine (sameState_any _ _ _ _ _ _ _ _ _ _ _ _ _ _ _ _ _ _ (rdW V1_20.out) (rdW V3_24.out) (by omega)).mono ?_
  rintro e W4 ⟨rfl, hb6⟩
  have hg := grown_of_below hb6
  have hzw4 : W3.heap.size ≤ W4.heap.size := hg.size
  have MD_25 := hide (MD_16.out.grow hg)
  have G_26 := hide (grown_trans G_17.out hg)
  have BQ_27 := hide (BQ_18.out.grow hg)
  have S1_28 := hide (grow_same hg S1_19.out)
  have V1_29 := hide (Rw.grow V1_20.out hg)
  have S2_30 := hide (grow_same hg S2_21.out)
  have V2_31 := hide (Rw.grow V2_22.out hg)
  have S3_32 := hide (grow_same hg S3_23.out)
  have V3_33 := hide (Rw.grow V3_24.out hg)
  clear MD_16 G_17 BQ_18 S1_19 V1_20 S2_21 V2_22 S3_23 V3_24
  clear hb6 hg
  go_upto_region 10 with fail
  have s0 : W4.cell? ⟨v2.heap.size, 0, none⟩ = some (.int .i64 x0) := cell_of_row W4 _ 0 _ _ _ S2_30.out
  have s1 : W4.cell? ⟨v2.heap.size, 1, none⟩ = some (.int .i64 x1) := cell_of_row W4 _ 1 _ _ _ S2_30.out
  have s2 : W4.cell? ⟨v2.heap.size, 2, none⟩ = some (.int .i64 x2) := cell_of_row W4 _ 2 _ _ _ S2_30.out
  have s3 : W4.cell? ⟨v2.heap.size, 3, none⟩ = some (.int .i64 x3) := cell_of_row W4 _ 3 _ _ _ S2_30.out
  have s4 : W4.cell? ⟨v2.heap.size, 4, none⟩ = some (.int .i64 x4) := cell_of_row W4 _ 4 _ _ _ S2_30.out
  have s5 : W4.cell? ⟨v2.heap.size, 5, none⟩ = some (.int .i64 x5) := cell_of_row W4 _ 5 _ _ _ S2_30.out
  have s6 : W4.cell? ⟨v2.heap.size, 6, none⟩ = some (.int .i64 x6) := cell_of_row W4 _ 6 _ _ _ S2_30.out
  have s7 : W4.cell? ⟨v2.heap.size, 7, none⟩ = some (.int .i64 x7) := cell_of_row W4 _ 7 _ _ _ S2_30.out
  have s8 : W4.cell? ⟨v2.heap.size, 8, none⟩ = some (.slice p2 l.length c2) := cell_of_row W4 _ 8 _ _ _ S2_30.out
  have s9 : W4.cell? ⟨v2.heap.size, 9, none⟩ = some (.int .i64 nx) := cell_of_row W4 _ 9 _ _ _ S2_30.out
  have s10 : W4.cell? ⟨v2.heap.size, 10, none⟩ = some (.int .i64 st) := cell_of_row W4 _ 10 _ _ _ S2_30.out
  have s11 : W4.cell? ⟨v2.heap.size, 11, none⟩ = some (.int .i64 tr) := cell_of_row W4 _ 11 _ _ _ S2_30.out
  have s12 : W4.cell? ⟨v2.heap.size, 12, none⟩ = some (.int .i64 sp) := cell_of_row W4 _ 12 _ _ _ S2_30.out
  have t0 : W4.cell? ⟨v3.heap.size, 0, none⟩ = some (.int .i64 x0) := cell_of_row W4 _ 0 _ _ _ S3_32.out
  have t1 : W4.cell? ⟨v3.heap.size, 1, none⟩ = some (.int .i64 x1) := cell_of_row W4 _ 1 _ _ _ S3_32.out
  have t2 : W4.cell? ⟨v3.heap.size, 2, none⟩ = some (.int .i64 x2) := cell_of_row W4 _ 2 _ _ _ S3_32.out
  have t3 : W4.cell? ⟨v3.heap.size, 3, none⟩ = some (.int .i64 x3) := cell_of_row W4 _ 3 _ _ _ S3_32.out
  have t4 : W4.cell? ⟨v3.heap.size, 4, none⟩ = some (.int .i64 x4) := cell_of_row W4 _ 4 _ _ _ S3_32.out
  have t5 : W4.cell? ⟨v3.heap.size, 5, none⟩ = some (.int .i64 x5) := cell_of_row W4 _ 5 _ _ _ S3_32.out
  have t6 : W4.cell? ⟨v3.heap.size, 6, none⟩ = some (.int .i64 x6) := cell_of_row W4 _ 6 _ _ _ S3_32.out
  have t7 : W4.cell? ⟨v3.heap.size, 7, none⟩ = some (.int .i64 x7) := cell_of_row W4 _ 7 _ _ _ S3_32.out
  have t8 : W4.cell? ⟨v3.heap.size, 8, none⟩ = some (.slice p3 l.length c3) := cell_of_row W4 _ 8 _ _ _ S3_32.out
  have t9 : W4.cell? ⟨v3.heap.size, 9, none⟩ = some (.int .i64 nx) := cell_of_row W4 _ 9 _ _ _ S3_32.out
  have t10 : W4.cell? ⟨v3.heap.size, 10, none⟩ = some (.int .i64 st) := cell_of_row W4 _ 10 _ _ _ S3_32.out
  have t11 : W4.cell? ⟨v3.heap.size, 11, none⟩ = some (.int .i64 tr) := cell_of_row W4 _ 11 _ _ _ S3_32.out
  have t12 : W4.cell? ⟨v3.heap.size, 12, none⟩ = some (.int .i64 sp) := cell_of_row W4 _ 12 _ _ _ S3_32.out
  go_wp2_with fail
  clear s0 s1 s2 s3 s4 s5 s6 s7 s8 s9 s10 s11 s12
  clear t0 t1 t2 t3 t4 t5 t6 t7 t8 t9 t10 t11 t12
  refine (sameState_any _ _ _ _ _ _ _ _ _ _ _ _ _ _ _ _ _ _ (rdW V2_31.out) (rdW V3_33.out) (by omega)).mono ?_
  rintro e W5 ⟨rfl, hb6⟩
  have hg := grown_of_below hb6
  have hzw5 : W4.heap.size ≤ W5.heap.size := hg.size
  have MD_34 := hide (MD_25.out.grow hg)
  have G_35 := hide (grown_trans G_26.out hg)
  have BQ_36 := hide (BQ_27.out.grow hg)
  have S1_37 := hide (grow_same hg S1_28.out)
  have V1_38 := hide (Rw.grow V1_29.out hg)
  have S2_39 := hide (grow_same hg S2_30.out)
  have V2_40 := hide (Rw.grow V2_31.out hg)
  have S3_41 := hide (grow_same hg S3_32.out)
  have V3_42 := hide (Rw.grow V3_33.out hg)
  clear MD_25 G_26 BQ_27 S1_28 V1_29 S2_30 V2_31 S3_32 V3_33
  clear hb6 hg
  go_upto_region 11 with fail
  have L_43 : Hid (Below B w W5) := (Below.refl B w).grown G_35.out hBw (by intro k hk; cases hk)
  have PO_44 : Hid (prog ≠ [] → ∀ a, p = some a → W5.heap[a.block]? = w.heap[a.block]?) := same_grow HPB.out G_35.out
  have PW_45 : Hid (mem ≠ [] → ∀ a, pm = some a → W5.heap[a.block]? = w.heap[a.block]?) := same_grow HMB.out G_35.out
  have hzL0 : w.heap.size ≤ W5.heap.size := G_35.out.size
  clear G_35
  clear S3_41
  clear V3_42
  have FW0 : Hid (FreeH shW ms ys w1.heap.size) := OW.out.free (by omega)
  have s8 : W5.cell? ⟨v1.heap.size, 8, none⟩ = some (.slice p1 l.length c1) := cell_of_row W5 _ 8 _ _ _ S1_37.out
  go_wp2_with fail
  clear s8
  refine (keepWordsQ B bb _ _ _ _ _ _ _ _ _ _ _ _ _ _ _ _ _ BQ_36.out V1_38.out hl16 (by simp; omega) (by simp; omega) (fun y hy => ⟨lohi (OW.out.ys y hy).1 HI1.out (by omega), hilo HI1.out (OW.out.ys y hy).2 (by omega)⟩) (fun m hm => hilo HI1.out (OW.out.ms m hm) (by omega))).mono ?_
  rintro e W8 ⟨rfl, hk, hbB, aw1, ew1, xW1, hbk, hx⟩
  have X1 : Hid (HiB xW1 W5.heap.size) := hx
  have hzk1 : W5.heap.size ≤ W8.heap.size := hk.size
  clear V1_38
  clear S1_37
  have MD_46 := hide (MD_34.out.kr hk (by omega) (by omega) (by omega))
  have S2_47 := hide (hk.same S2_39.out (by decide) (by decide) (by omega))
  have V2_48 := hide (Kr.row hk BQ_36.out.blk V2_40.out (by decide) (by decide) (by decide))
  have L_49 := hide (L_43.out.trans hbB)
  have PO_50 := hide (same_kr HPB.out PO_44.out hk hbB (by omega))
  have PW_51 := hide (same_kr HMB.out PW_45.out hk hbB (by omega))
  have BQ_52 := hide (hbk)
  clear MD_34 S2_39 V2_40 L_43 PO_44 PW_45 BQ_36
  have FW1 := hide (FW0.out.snoc (l := l) HI1.out X1.out (by omega) (by omega))
  clear FW0
  clear hk hbB hbk hx
  go_upto_region 12 with fail
  have s8 : W8.cell? ⟨v2.heap.size, 8, none⟩ = some (.slice p2 l.length c2) := cell_of_row W8 _ 8 _ _ _ S2_47.out
  go_wp2_with fail
  clear s8
  have HY2 : Hid (∀ y ∈ ys ++ [((Value.slice p1 l.length c1), xW1, l)], Apart y.1 (Value.slice p2 l.length c2) ∧ Apart (Value.slice p2 l.length c2) y.2.1) := by
    intro y hy
    rcases List.mem_append.1 hy with h' | h'
    · exact ⟨lohi (OW.out.ys y h').1 HI2.out (by omega), hilo HI2.out (OW.out.ys y h').2 (by omega)⟩
    · simp at h'
      subst h'
      exact ⟨lohi LO1.out HI2.out (by omega), lohi LO2.out X1.out (by omega)⟩
  refine (keepWordsQ B bb _ _ _ _ _ _ _ _ _ _ _ _ _ _ _ _ _ BQ_52.out V2_48.out hl16 (by simp; omega) (by simp; omega) HY2.out (fun m hm => hilo HI2.out (OW.out.ms m hm) (by omega))).mono ?_
  rintro e W9 ⟨rfl, hk, hbB, aw2, ew2, xW2, hbk, hx⟩
  have X2 : Hid (HiB xW2 W8.heap.size) := hx
  have hzk2 : W8.heap.size ≤ W9.heap.size := hk.size
  clear V2_48
  clear S2_47
  have MD_53 := hide (MD_46.out.kr hk (by omega) (by omega) (by omega))
  have L_54 := hide (L_49.out.trans hbB)
  have PO_55 := hide (same_kr HPB.out PO_50.out hk hbB (by omega))
  have PW_56 := hide (same_kr HMB.out PW_51.out hk hbB (by omega))
  have BQ_57 := hide (hbk)
  clear MD_46 L_49 PO_50 PW_51 BQ_52
  have FW2 := hide (FW1.out.snoc (l := l) HI2.out X2.out (by omega) (by omega))
  clear FW1
  clear hk hbB hbk hx HY2
  go_upto_region 13 with fail
  have t9 : (er == er) = true := by simp
  go_upto_region 27 with (go_at_call 14; refine (num_any _ _).mono ?_; rintro e w' ⟨rfl, hw'⟩; obtain rfl : W9 = w' := hw'.symm)
  obtain ⟨curO, o1, o2⟩ := MD_53.out.ord
  have PO := hide o1
  have hPz := lt_of_blk o1
  clear o1 o2
  have a10 : W9.cell? ⟨w.heap.size, 10, none⟩ = some (.slice p prog.length c) := MD_53.out.cell 10
  go_wp2_with fail
  clear a10
  refine (untouchedOrders_any (w.heap.size + 1) _ _ _ _ (HP.out.same PO_55.out L_54.out.size) MD_53.out.ord (fun hne a ha => by have := (HPB.out hne a ha).1; omega) hl1).mono ?_
  rintro e Wy ⟨rfl, hg⟩
  have hzL : w.heap.size ≤ W9.heap.size := L_54.out.size
  have LY : Hid (Below B w Wy) := L_54.out.grown hg (by omega) (by intro k hk; simp at hk; omega)
  have hbox := (hg.block _ (lt_of_blk MD_53.out.box) (by simp)).trans MD_53.out.box
  have hwds : HandW Wy w1.heap.size mem := MD_53.out.wds.keep (hg.block _ (lt_of_blk MD_53.out.wds.choose_spec.1) (by simp; omega))
  have BY := hide (show Bq Wy B bb wv aw2 ew2 ms _ _ _ tv at' et ts _ _ _ from ⟨(hg.block bb (lt_of_blk BQ_57.out.blk) (by simp; omega)).trans BQ_57.out.blk, hBb, Nat.le_trans BQ_57.out.small hg.size, BQ_57.out.hw.block PO.out hg (.inl (by decide)) (by decide), BQ_57.out.ht.block PO.out hg (.inl (by decide)) (by decide)⟩)
  have PY : Hid (mem ≠ [] → ∀ a, pm = some a → Wy.heap[a.block]? = w.heap[a.block]?) := fun hne a ha => (hg.block _ (by have := (HMB.out hne a ha).1; omega) (by have := (HMB.out hne a ha).1; simp; omega)).trans (PW_56.out hne a ha)
  have HWD := hide hwds
  have hzY := hg.size
  clear MD_53
  clear BQ_57
  clear L_54
  clear PO_55
  clear PW_56
  have a11 : Wy.cell? ⟨w.heap.size, 11, none⟩ = some (.slice pm mem.length cm) := cell_of_row Wy _ 11 _ _ _ hbox
  clear hg hbox hwds PO
  go_upto_region 28 with fail
  go_wp2_with fail
  clear a11
  obtain ⟨curW, q1, q2⟩ := HWD.out
  refine (untouchedWords_any w1.heap.size _ _ _ _ (HM.out.same PY.out LY.out.size) HWD.out (fun hne a ha => by have := (HMB.out hne a ha).1; omega) hl2).mono ?_
  rintro e Wz ⟨rfl, hg⟩
  have LZ : Hid (Below B w Wz) := LY.out.grown hg (by omega) (by intro k hk; simp at hk; omega)
  have hbz : Bq Wz B bb wv aw2 ew2 ms _ _ _ tv at' et ts _ _ _ := ⟨(hg.block bb (lt_of_blk BY.out.blk) (by simp; omega)).trans BY.out.blk, hBb, Nat.le_trans BY.out.small hg.size, BY.out.hw.block q1 hg (.inr FW2.out) (by decide), BY.out.ht.block q1 hg (.inl (by decide)) (by decide)⟩
  have BZ : Hid (Bq Wz B bb wv aw2 ew2 ms ((ys ++ [(Value.slice p1 l.length c1, xW1, l)] ++ [(Value.slice p2 l.length c2, xW2, l)]).map (·.1)) ((ys ++ [(Value.slice p1 l.length c1, xW1, l)] ++ [(Value.slice p2 l.length c2, xW2, l)]).map (·.2.1)) (ys ++ [(Value.slice p1 l.length c1, xW1, l)] ++ [(Value.slice p2 l.length c2, xW2, l)]) tv at' et ts ((zs).map (·.1)) ((zs).map (·.2.1)) (zs)) := hide (by simpa using hbz)
  clear hg hbz q1 q2 BY HWD LY
  go_upto_region 29 with fail
  go_wp2_with fail
  refine (looksK B bb (n + 1) q r _ _ _ _ _ _ _ _ _ _ _ HQ.out HR.out BZ.out (by intro y hy; simp at hy; rcases hy with h | rfl | rfl; exact HTY.out y h; exact TI1.out; exact TI2.out) HTZ.out (by first | omega | (simp; omega)) (by first | omega | (simp; omega)) (by have := HQN.out; simp; omega) (by have := HRN.out; omega) hn).mono ?_
  rintro e We ⟨rfl, hbe, hke⟩
  go_wp2
  go_ret
  exact ⟨rfl, LZ.out.trans hbe, hke⟩

set_option maxRecDepth 100000 in
set_option maxHeartbeats 8000000 in
theorem oneQ0 (B bb n : Nat) (kd : Int) (hk1 : kd ≠ 1) (hk2 : kd ≠ 2) (u0 u1 u2 u3 l0 l1 l2 l3 b : Int) (p pm : Option Addr) (c cm : Nat) (prog : List Ord) (mem : List Int) (steps : Int) (w : World)
    (hb : Bkk w B bb n) (hn : n + 1 ≤ 1100000000000) (hp : RdO w p prog) (hm : Rd w pm mem) (hpB : prog ≠ [] → Safe w B bb p) (hmB : mem ≠ [] → Safe w B bb pm) (hl1 : prog.length * 40 ≤ 140737488351232) (hl2 : mem.length * 8 ≤ 140737488351232) :
    Calls Tryz.prog 6 #[.pointer (some ⟨bb, 0, none⟩), .agg #[.int .i64 kd, .int .i64 u0, .int .i64 u1, .int .i64 u2, .int .i64 u3, .int .i64 l0, .int .i64 l1, .int .i64 l2, .int .i64 l3, .int .i64 b, .slice p prog.length c, .slice pm mem.length cm, .int .i64 steps]] w fun e w' => e = .returned (.bool true) ∧ Below B w w' ∧ Bkk w' B bb (n + 1) := by
  obtain ⟨q, r, wv, aw, ew, ms, ys, tv, at', et, ts, zs, hq, hr, hb, hty, htz, h5, hqn, hrn⟩ := hb
  have HQ := hide hq
  have HR := hide hr
  have HTY := hide hty
  have HTZ := hide htz
  have HQN := hide hqn
  have HRN := hide hrn
  have HP := hide hp
  have HM := hide hm
  have HPB := hide hpB
  have HMB := hide hmB
  have hBw := hb.small
  have hbbz := lt_of_blk hb.blk
  have hBb := hb.base
  have OW := hide hb.hw.old
  have OT := hide hb.ht.old
  have HB0 := hide hb
  clear hq hr hb hty htz hp hm hpB hmB hqn hrn
  have tk1 : (kd == 1) = false := by simp [hk1]
  have tk2 : (kd == 2) = false := by simp [hk2]
  go_enter Tryz.func6, Tryz.ntmps6
  go_wp2_with fail
  refine (handedOrders_any _ _ _ _ (HP.out.below (Nat.le_refl _) ((Below.refl _ _).alloc (Nat.le_refl _) _)) hl1).mono ?_
  rintro e w1 ⟨rfl, hb1, hO1⟩
  have hN1 := below_same hb1 (heap_alloc_new w (.cells #[.int .i64 kd, .int .i64 u0, .int .i64 u1, .int .i64 u2, .int .i64 u3, .int .i64 l0, .int .i64 l1, .int .i64 l2, .int .i64 l3, .int .i64 b, .slice p prog.length c, .slice pm mem.length cm, .int .i64 steps] 34))
  have hg1 : w.grownBy w1 none := grown_trans (World.grownBy_alloc w (.cells #[.int .i64 kd, .int .i64 u0, .int .i64 u1, .int .i64 u2, .int .i64 u3, .int .i64 l0, .int .i64 l1, .int .i64 l2, .int .i64 l3, .int .i64 b, .slice p prog.length c, .slice pm mem.length cm, .int .i64 steps] 34) none) (grown_of_below hb1)
  have hO1' : HandO w1 (w.heap.size + 1) prog := by simpa using hO1
  have HN1 := hide hN1
  have HO1 := hide hO1'
  have HG1 := hide hg1
  have hz1 : w.heap.size + 1 < w1.heap.size := lt_of_blk hO1'.choose_spec.1
  clear hb1 hO1 hO1' hg1
  have a11 : w1.cell? ⟨w.heap.size, 11, none⟩ = some (.slice pm mem.length cm) := cell_of_row w1 _ 11 _ _ _ hN1
  clear hN1
  go_wp2_with fail
  clear a11
  refine (handedWords_any _ _ _ _ (HM.out.below (Nat.le_refl _) ((Below.refl _ _).grown HG1.out (Nat.le_refl _) (by intro k hk; cases hk))) hl2).mono ?_
  rintro e w2 ⟨rfl, hb2, hW2⟩
  have hg2 := grown_of_below hb2
  have hz2 : w1.heap.size < w2.heap.size := lt_of_blk hW2.choose_spec.1
  have MD_1 : Hid (Md w2 w.heap.size (w.heap.size + 1) w1.heap.size #[.int .i64 kd, .int .i64 u0, .int .i64 u1, .int .i64 u2, .int .i64 u3, .int .i64 l0, .int .i64 l1, .int .i64 l2, .int .i64 l3, .int .i64 b, .slice p prog.length c, .slice pm mem.length cm, .int .i64 steps] prog mem) := ⟨grow_same hg2 HN1.out, HO1.out.keep (hb2.block _ (lt_of_blk HO1.out.choose_spec.1)), hW2⟩
  have G_2 : Hid (w.grownBy w2 none) := grown_trans HG1.out hg2
  have BQ_3 := hide (HB0.out.grow G_2.out)
  clear hb2 hW2 hg2 HN1 HO1 HG1
  have L_4 : Hid (Below B w w2) := (Below.refl B w).grown G_2.out hBw (by intro k hk; cases hk)
  have PO_5 : Hid (prog ≠ [] → ∀ a, p = some a → w2.heap[a.block]? = w.heap[a.block]?) := same_grow HPB.out G_2.out
  have PW_6 : Hid (mem ≠ [] → ∀ a, pm = some a → w2.heap[a.block]? = w.heap[a.block]?) := same_grow HMB.out G_2.out
  have hzL0 : w.heap.size ≤ w2.heap.size := G_2.out.size
  clear G_2
  have FW2 : Hid (FreeH shW ms ys w1.heap.size) := OW.out.free (by omega)
  have a0 : w2.cell? ⟨w.heap.size, 0, none⟩ = some (.int .i64 kd) := MD_1.out.cell 0
  go_upto_region 27 with fail
  clear a0
  obtain ⟨curO, o1, o2⟩ := MD_1.out.ord
  have PO := hide o1
  have hPz := lt_of_blk o1
  clear o1 o2
  have a10 : w2.cell? ⟨w.heap.size, 10, none⟩ = some (.slice p prog.length c) := MD_1.out.cell 10
  go_wp2_with fail
  clear a10
  refine (untouchedOrders_any (w.heap.size + 1) _ _ _ _ (HP.out.same PO_5.out L_4.out.size) MD_1.out.ord (fun hne a ha => by have := (HPB.out hne a ha).1; omega) hl1).mono ?_
  rintro e Wy ⟨rfl, hg⟩
  have hzL : w.heap.size ≤ w2.heap.size := L_4.out.size
  have LY : Hid (Below B w Wy) := L_4.out.grown hg (by omega) (by intro k hk; simp at hk; omega)
  have hbox := (hg.block _ (lt_of_blk MD_1.out.box) (by simp)).trans MD_1.out.box
  have hwds : HandW Wy w1.heap.size mem := MD_1.out.wds.keep (hg.block _ (lt_of_blk MD_1.out.wds.choose_spec.1) (by simp; omega))
  have BY := hide (show Bq Wy B bb wv aw ew ms _ _ _ tv at' et ts _ _ _ from ⟨(hg.block bb (lt_of_blk BQ_3.out.blk) (by simp; omega)).trans BQ_3.out.blk, hBb, Nat.le_trans BQ_3.out.small hg.size, BQ_3.out.hw.block PO.out hg (.inl (by decide)) (by decide), BQ_3.out.ht.block PO.out hg (.inl (by decide)) (by decide)⟩)
  have PY : Hid (mem ≠ [] → ∀ a, pm = some a → Wy.heap[a.block]? = w.heap[a.block]?) := fun hne a ha => (hg.block _ (by have := (HMB.out hne a ha).1; omega) (by have := (HMB.out hne a ha).1; simp; omega)).trans (PW_6.out hne a ha)
  have HWD := hide hwds
  have hzY := hg.size
  clear MD_1
  clear BQ_3
  clear L_4
  clear PO_5
  clear PW_6
  have a11 : Wy.cell? ⟨w.heap.size, 11, none⟩ = some (.slice pm mem.length cm) := cell_of_row Wy _ 11 _ _ _ hbox
  clear hg hbox hwds PO
  go_upto_region 28 with fail
  go_wp2_with fail
  clear a11
  obtain ⟨curW, q1, q2⟩ := HWD.out
  refine (untouchedWords_any w1.heap.size _ _ _ _ (HM.out.same PY.out LY.out.size) HWD.out (fun hne a ha => by have := (HMB.out hne a ha).1; omega) hl2).mono ?_
  rintro e Wz ⟨rfl, hg⟩
  have LZ : Hid (Below B w Wz) := LY.out.grown hg (by omega) (by intro k hk; simp at hk; omega)
  have hbz : Bq Wz B bb wv aw ew ms _ _ _ tv at' et ts _ _ _ := ⟨(hg.block bb (lt_of_blk BY.out.blk) (by simp; omega)).trans BY.out.blk, hBb, Nat.le_trans BY.out.small hg.size, BY.out.hw.block q1 hg (.inr FW2.out) (by decide), BY.out.ht.block q1 hg (.inl (by decide)) (by decide)⟩
  have BZ : Hid (Bq Wz B bb wv aw ew ms ((ys).map (·.1)) ((ys).map (·.2.1)) (ys) tv at' et ts ((zs).map (·.1)) ((zs).map (·.2.1)) (zs)) := hide hbz
  clear hg hbz q1 q2 BY HWD LY
  go_upto_region 29 with fail
  go_wp2_with fail
  refine (looksK B bb (n + 1) q r _ _ _ _ _ _ _ _ _ _ _ HQ.out HR.out BZ.out HTY.out HTZ.out (by first | omega | (simp; omega)) (by first | omega | (simp; omega)) (by have := HQN.out; omega) (by have := HRN.out; omega) hn).mono ?_
  rintro e We ⟨rfl, hbe, hke⟩
  go_wp2
  go_ret
  exact ⟨rfl, LZ.out.trans hbe, hke⟩

theorem oneQ (B bb n : Nat) (kd u0 u1 u2 u3 l0 l1 l2 l3 b : Int) (p pm : Option Addr) (c cm : Nat) (prog : List Ord) (mem : List Int) (steps : Int) (w : World)
    (hb : Bkk w B bb n) (hn : n + 1 ≤ 1100000000000) (hp : RdO w p prog) (hm : Rd w pm mem) (hpB : prog ≠ [] → Safe w B bb p) (hmB : mem ≠ [] → Safe w B bb pm) (hl1 : prog.length * 40 ≤ 140737488351232) (hl2 : mem.length * 8 ≤ 140737488351232) :
    Calls Tryz.prog 6 #[.pointer (some ⟨bb, 0, none⟩), .agg #[.int .i64 kd, .int .i64 u0, .int .i64 u1, .int .i64 u2, .int .i64 u3, .int .i64 l0, .int .i64 l1, .int .i64 l2, .int .i64 l3, .int .i64 b, .slice p prog.length c, .slice pm mem.length cm, .int .i64 steps]] w fun e w' => e = .returned (.bool true) ∧ Below B w w' ∧ Bkk w' B bb (n + 1) := by
  by_cases h1 : kd = 1
  · subst h1; exact oneQ1 B bb n u0 u1 u2 u3 l0 l1 l2 l3 b p pm c cm prog mem steps w hb hn hp hm hpB hmB hl1 hl2
  · by_cases h2 : kd = 2
    · subst h2; exact oneQ2 B bb n u0 u1 u2 u3 l0 l1 l2 l3 b p pm c cm prog mem steps w hb hn hp hm hpB hmB hl1 hl2
    · exact oneQ0 B bb n kd h1 h2 u0 u1 u2 u3 l0 l1 l2 l3 b p pm c cm prog mem steps w hb hn hp hm hpB hmB hl1 hl2

end Go.Proofs.YtmeiogoodbnkkaaGreat
