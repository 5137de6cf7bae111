/- Several texts in one: DF, DG. -/
import Derived.Test.YtmeiogoodbnkkaaGreatCDDDE
import Derived.Deep.DeepAppendWide
/- Lists are marked by their owner. -/
namespace Go.Proofs.YtmeiogoodbnkkaaGreat
open Go.RowKit

theorem markStep {α : Type} (l : List α) (m : α) (k : Nat) (h : k < l.length) : (List.replicate k m ++ l.drop k).set k m = List.replicate (k + 1) m ++ l.drop (k + 1) := by
  rw [List.set_append_right _ _ (by simp)]
  simp only [List.length_replicate, Nat.sub_self]
  rw [List.drop_eq_getElem_cons h, List.set_cons_zero, List.replicate_succ', List.append_assoc]
  rfl
theorem markAt {α : Type} (l : List α) (m : α) (k : Nat) (h : k < l.length) : ∃ y, (List.replicate k m ++ l.drop k)[k]? = some y := by
  have : k < (List.replicate k m ++ l.drop k).length := by simp; omega
  exact ⟨_, List.getElem?_eq_getElem this⟩

theorem rep_more {α : Type} (n j : Nat) (m : α) (f : α → List Value) : (List.replicate n m).flatMap f ++ (List.replicate j m).flatMap f = (List.replicate (n + j) m).flatMap f := by
  rw [← List.flatMap_append, List.replicate_append_replicate]
theorem grow_row {a b c : World} {r : Option Nat} (h : a.grownBy b r) (h' : b.grownBy c r) : a.grownBy c r :=
  ⟨h'.os.trans h.os, h'.tape.trans h.tape, h'.output.trans h.output, Nat.le_trans h.size h'.size, fun k hk hne => (h'.block k (Nat.lt_of_lt_of_le hk h.size) hne).trans (h.block k hk hne)⟩

/-- Append onto an owned row, to growslice's own bound. -/
theorem run_append_wide {P : Program} (w : World) (base : Nat) (t ty e : TypeId) (i : TypeInfo) (z : Value) (bytes : Nat) (ht : P.underlying t = some (.slice e)) (hi : P.info? e = some i) (hz : i.zero = some z)
    (hsize : i.size = 1) (hby : i.bytes = bytes) (hzs : z.cells.size = 1)
    (v : Value) (n : Nat) (xs : List Value) (hown : w.ownsRow base e 1 v n xs)
    (a : Addr) (m c : Nat) (news : List Value) (hl : news.length = m * 1) (hnews : ∀ j u, news[j]? = some u → w.cell? (a.add j) = some u) (h1 : ∀ u ∈ news, u.oneCell' = true) (hm : 0 < m)
    (h63 : n + m ≤ maxLen) (hbytes : ((n + m) + (n + m) / 4 + 192) * bytes ≤ 281474976710656) (hbase : base ≤ w.heap.size) :
    ∃ v' w', (Builtin.append_ #[t, t] ty #[v, .slice (some a) m c]).run P w = .ok v' w' ∧ w'.ownsRow base e 1 v' (n + m) (xs ++ news) ∧ w.grownBy w' v.ownBlock ∧ (v'.ownBlock = v.ownBlock ∨ v'.ownBlock = some w.heap.size) := by
  obtain ⟨v', w', hr, h2, h3, _⟩ := run_append_own_wide (P := P) w base t ty e i z 1 bytes ht hi hz hsize hby hzs (by omega) v n xs hown a m c news hl hnews h1 h63 hbytes hbase
  refine ⟨v', w', hr, h2, h3, ?_⟩
  rcases hown.2 with ⟨rfl, rfl⟩ | ⟨g, cap, cur, rfl, hbg, hg, hnc, hcm, hcs, htake⟩
  · have hr2 := run_append_nil (P := P) w t ty e i z ht hi hz a m c news (by rw [hsize]; exact hl) hnews (by omega) (by simp only [maxLen] at h63; omega) (by rw [hby]; have hb := hbytes; simp only [Nat.zero_add] at hb; exact Nat.le_trans (Nat.mul_le_mul_right _ (by omega)) hb)
    rw [hr2] at hr
    simp only [Result.ok.injEq] at hr
    obtain ⟨rfl, _⟩ := hr
    exact .inr rfl
  · by_cases hroom : n + m ≤ cap
    · have hfit : n * i.size + news.length ≤ cur.size := by rw [hsize, hl, hcs]; omega
      have hr2 := run_append_room (P := P) w t ty e i ht hi g n cap cur hg a m c news (by rw [hsize]; exact hl) hnews h1 hroom hfit
      rw [hr2] at hr
      simp only [Result.ok.injEq] at hr
      obtain ⟨rfl, _⟩ := hr
      exact .inl rfl
    · have holds : ∀ j u, xs[j]? = some u → w.cell? ((⟨g, 0, none⟩ : Addr).add j) = some u := hown.cells (g := g) rfl
      have hr2 := run_append_grow (P := P) w t ty e i z ht hi hz ⟨g, 0, none⟩ n cap xs (by rw [hsize]; exact hown.1) holds a m c news (by rw [hsize]; exact hl) hnews (by omega) (by simp only [maxLen] at h63; omega) (growslice_fits_wide (by omega) (by rw [hby]; exact hbytes))
      rw [hr2] at hr
      simp only [Result.ok.injEq] at hr
      obtain ⟨rfl, _⟩ := hr
      exact .inr rfl

theorem wpList_append_wide {P : Program} (w : World) {ops : Array Oper} {rest : List Oper} {o : Oper} {a : Act} {Q : Exit → Act → World → Prop} (hgd : o.guard = none) (s x : Operand) (t : TypeId)
    (ho : o.op = .call { callee := .builtin .append, args := #[s, x], argTypes := #[t, t] })
    (base : Nat) (e : TypeId) (i : TypeInfo) (z : Value) (bytes : Nat) (ht : P.underlying t = some (.slice e)) (hi : P.info? e = some i) (hz : i.zero = some z)
    (hsize : i.size = 1) (hby : i.bytes = bytes) (hzs : z.cells.size = 1)
    (v : Value) (n : Nat) (xs : List Value) (hs : a.eval s = v) (hown : w.ownsRow base e 1 v n xs)
    (ad : Addr) (m c : Nat) (news : List Value) (hx : a.eval x = .slice (some ad) m c) (hl : news.length = m * 1) (hnews : ∀ j u, news[j]? = some u → w.cell? (ad.add j) = some u) (h1 : ∀ u ∈ news, u.oneCell' = true) (hm : 0 < m)
    (h63 : n + m ≤ maxLen) (hbytes : ((n + m) + (n + m) / 4 + 192) * bytes ≤ 281474976710656) (hbase : base ≤ w.heap.size)
    (h : ∀ v' w', w'.ownsRow base e 1 v' (n + m) (xs ++ news) → w.grownBy w' v.ownBlock → (v'.ownBlock = v.ownBlock ∨ v'.ownBlock = some w.heap.size) → wpList P ops Q rest (a.put o.dst v') w') :
    wpList P ops Q (o :: rest) a w := by
  refine wpList_plain hgd fun K hK => ?_
  obtain ⟨v', w', hr, h2, h3, h4⟩ := run_append_wide (P := P) w base t o.type e i z bytes ht hi hz hsize hby hzs v n xs hown ad m c news hl hnews h1 hm h63 hbytes hbase
  unfold Oper.wp execOp
  simp only [ho, resolve, invoke, builtin, Sem.run_bind, Sem.run_pure, Result.andThen_ok, List.map_toArray, List.map_cons, List.map_nil, hs, hx, hr]
  exact hK _ _ (h v' w' h2 h3 h4)

set_option maxRecDepth 100000 in
set_option maxHeartbeats 4000000 in
theorem markWordsQ (B bb q : Nat) (wv aw ew : Value) (ms : List (Value × Nat)) (av es : List Value) (tv at' et : Value) (ts : List (Value × Nat)) (bv fs : List Value) (v x : Value) (l : List Int) (ys : List (Value × Value × List Int)) (zs : List (Value × Value × List Tm)) (w : World)
    (hq : ms.length = 4 * q) (hb : Bq w B bb wv aw ew ms av es ((v, x, l) :: ys) tv at' et ts bv fs zs) (ht : Tight v) (hml : (ms.length : Int) ≤ 9000000000000) :
    Calls Tryz.prog 23 #[.pointer (some ⟨bb, 0, none⟩), v] w fun e w' => e = .returned (.tuple #[]) ∧ Below B w w' ∧ ∃ wv' ms', ms'.length = 4 * (q + 1) ∧ Bq w' B bb wv' aw ew ms' av es ys tv at' et ts bv fs zs := by
  obtain ⟨i0, hi0, hz0, hz1, hz2⟩ := info_parts Tryz.info2
  obtain ⟨j0, hj0, hy0, hy1, hy2⟩ := info_parts Tryz.info23
  obtain ⟨hv, _, hltop⟩ := hb.hw.each _ (List.mem_cons_self ..)
  simp only at hv hltop
  have hl4 : l.length ≤ 400 := Nat.le_trans hltop (by decide)
  obtain ⟨p, c, rfl, _⟩ := hv.slice
  obtain ⟨pw, cw, hw, _⟩ := row_at hb.hw.words
  subst hw
  obtain ⟨c0, c1, _, _, _, _, cf⟩ := hb.cells rfl
  have hq4 : (ms.length : Int) / 4 = (q : Int) := by omega
  have hq0 : (q : Int) ≤ 9000000000000 := by omega
  have HQ := hide hq
  have HB := hide hb
  have HV := hide hv
  have HT := hide ht
  have hbz := (Array.getElem?_eq_some_iff.1 hb.blk).1
  have HTOP := hide hltop
  clear hb hv ht hq hltop
  go_enter Tryz.func23, Tryz.ntmps23
  go_upto_region 1 with (go_at_call 40; refine (word_big _ _ (by omega) (by omega)).mono ?_; rintro e w0 ⟨rfl, hw0⟩; have hw0' := hw0.symm; clear hw0; subst hw0')
  have HB0 := HB
  have HV0 := HV
  have HBW0 : Hid (Below B w w) := Below.refl _ _
  clear c0 c1 cf
  go_wp2_with fail
  go_loopg [5] l.length (fun gq s5 wr => ∃ k : Nat, k ≤ l.length ∧ gq = l.length - k ∧ s5 = .int .i64 k ∧ wr.ownsRow B shW.e shW.size (.slice p l.length c) l.length ((List.replicate k (shW.mark q) ++ l.drop k).flatMap shW.enc) ∧ w.grownBy wr (Value.slice p l.length c).ownBlock)
  case atStart => exact ⟨0, Nat.zero_le _, rfl, rfl, by simpa [Rw] using HV0.out, ⟨rfl, rfl, rfl, Nat.le_refl _, fun _ _ _ => rfl⟩⟩
  case round =>
    obtain ⟨k, hk, hgk, rfl, ho, hg⟩ := hrel
    rename World => Vr
    rcases Nat.lt_or_ge k l.length with hlt | hge
    · obtain ⟨g, cap, e1, hBg, _⟩ := World.ownsRow.form ho (by omega)
      simp only [Value.slice.injEq] at e1
      obtain ⟨rfl, -, rfl⟩ := e1
      obtain ⟨y, hy⟩ := markAt l (shW.mark q) k hlt
      have hkI : (k : Int) < (l.length : Int) := by omega
      have hnm : k < (List.replicate k (shW.mark q) ++ l.drop k).length := by simp; omega
      have y0 : Vr.cell? ⟨g, k, none⟩ = some (.int .i64 y) := by
        rw [ho.cellAt k (by simp; omega)]
        have h9 := gflat_get (f := shW.enc) (k := 1) (fun _ => rfl) _ k 0 _ hy (by omega)
        simpa using h9
      have hff : ∀ j, Vr.frozen? ⟨g, j, none⟩ = false := World.ownsRow.frozenAt ho
      have HO := hide ho
      have HG := hide hg
      have HGK := hide hgk
      have HY := hide hy
      clear ho hg hgk hy hBg
      go_wp2_with fail
      have hgk := HGK.out
      go_roundg (l.length - (k + 1))
      case measure => omega
      case rel =>
        obtain ⟨h1, h2⟩ := owns_sets (shW.enc (shW.mark q)) Vr (k * 1) _ HO.out
        rw [setL_flat (f := shW.enc) (k := 1) (fun _ => rfl) HY.out, markStep l _ k hlt] at h1
        have hgg := grow_row HG.out h2
        refine ⟨k + 1, by omega, rfl, by go_num, by simpa [setsFrom] using h1, by simpa [setsFrom] using hgg⟩
    · have hkl : k = l.length := by omega
      subst hkl
      have hend : ¬ (l.length : Int) < (l.length : Int) := by omega
      have ho1 : Vr.ownsRow B shW.e shW.size (.slice p l.length c) l.length ((List.replicate l.length (shW.mark q)).flatMap shW.enc) := by simpa using ho
      have hblk : Vr.heap[bb]? = w.heap[bb]? := hg.block bb (Array.getElem?_eq_some_iff.1 HB0.out.blk).1 (bbG HV0.out HB0.out.blk okW.eb)
      have hBq : Bq Vr B bb (.slice pw ms.length cw) aw ew ms av es ys tv at' et ts bv fs zs := ⟨hblk.trans HB0.out.blk, HB0.out.base, Nat.le_trans HB0.out.small hg.size, HB0.out.hw.dropHead okW hg, HB0.out.ht.other HV0.out hg (by decide) (by decide)⟩
      have HO1 := hide ho1
      have HB1 := hide hBq
      have HL1 : Hid (Below B w Vr) := hide (HBW0.out.grown hg HB0.out.small (fun k hk => (Rw.lt HV0.out k hk).1))
      have HQ1 := hide (List.pairwise_cons.1 HB.out.hw.q1).1

      clear ho ho1 hblk hBq hg hgk hk hge
      go_upto_region 5 with fail
      go_cut [6] from 9 to 53 (fun s wx => wx.ownsRow B shW.e shW.size s (l.length + 1) ((List.replicate (l.length + 1) (shW.mark q)).flatMap shW.enc) ∧ Vr.grownBy wx none ∧ ∃ g, s.ownBlock = some g ∧ Vr.heap.size ≤ g)
      case first =>
        go_wp2_with (refine wpList_append_freshS _ rfl (.tmp 26) (.tmp 28) 23 rfl B 2 i0 (.int .i64 0) 1 8 Tryz.underlying23 hi0 hz0 hz1 hz2 rfl (by omega) (.slice p l.length c) l.length ((List.replicate l.length (shW.mark q)).flatMap shW.enc) (by rfl) (growG HO1.out (World.grownBy_alloc _ _ none)) HT.out ⟨Vr.heap.size, 0, none⟩ 1 1 [.int .i64 (-1000003 - (q : Int))] (by rfl) (by simp) (newsN (cs := #[.int .i64 (-1000003 - (q : Int))]) rfl) (Rw.ones okW (List.replicate 1 (shW.mark q))) (by omega) (by unfold maxLen; omega) (by omega) (by have := HB1.out.small; simp; omega) ?_; intro v1 w1 hown1 hgr1 hat1; have HN1 : Hid (w1.ownsRow B shW.e shW.size v1 (l.length + 1) ((List.replicate (l.length + 1) (shW.mark q)).flatMap shW.enc)) := hide (by rw [← rep_more]; exact hown1); have HGn := hide (grown_trans (World.grownBy_alloc Vr (.cells #[.int .i64 (-1000003 - (q : Int))] 2) none) hgr1); have HAn := hide hat1; clear hown1 hgr1 hat1)
        go_meet
        exact ⟨HN1.out, HGn.out, _, HAn.out, by simp⟩
      case rest =>
      rename World => V1
      obtain ⟨hn, hg, ha⟩ := hcut
      have HN1 := hide hn
      have HG1 := hide hg
      have HA1 := hide ha
      have HO2 := hide (growG HO1.out hg)
      have HB2 := hide (HB1.out.grow hg)
      have HL2 := hide (HL1.out.grown hg HB1.out.small (by intro k hk; cases hk))
      clear hn hg ha
      go_upto_region 6 with fail
      go_cut [7] from 9 to 53 (fun s wx => wx.ownsRow B shW.e shW.size s (l.length + 2) ((List.replicate (l.length + 2) (shW.mark q)).flatMap shW.enc) ∧ V1.grownBy wx none ∧ ∃ g, s.ownBlock = some g ∧ V1.heap.size ≤ g)
      case first =>
        go_wp2_with (refine wpList_append_freshS _ rfl (.tmp 30) (.tmp 33) 23 rfl B 2 i0 (.int .i64 0) 1 8 Tryz.underlying23 hi0 hz0 hz1 hz2 rfl (by omega) (.slice p l.length c) l.length ((List.replicate l.length (shW.mark q)).flatMap shW.enc) (by rfl) (growG HO2.out (World.grownBy_alloc _ _ none)) HT.out ⟨V1.heap.size, 0, none⟩ 2 2 [.int .i64 (-1000003 - (q : Int)), .int .i64 (-1000003 - (q : Int))] (by rfl) (by simp) (newsN (cs := #[.int .i64 (-1000003 - (q : Int)), .int .i64 (-1000003 - (q : Int))]) rfl) (Rw.ones okW (List.replicate 2 (shW.mark q))) (by omega) (by unfold maxLen; omega) (by omega) (by have := HB2.out.small; simp; omega) ?_; intro v1 w1 hown1 hgr1 hat1; have HN1 : Hid (w1.ownsRow B shW.e shW.size v1 (l.length + 2) ((List.replicate (l.length + 2) (shW.mark q)).flatMap shW.enc)) := hide (by rw [← rep_more]; exact hown1); have HGn := hide (grown_trans (World.grownBy_alloc V1 (.cells #[.int .i64 (-1000003 - (q : Int)), .int .i64 (-1000003 - (q : Int))] 2) none) hgr1); have HAn := hide hat1; clear hown1 hgr1 hat1)
        go_meet
        exact ⟨HN1.out, HGn.out, _, HAn.out, by simp⟩
      case rest =>
      rename World => V2
      obtain ⟨hn, hg, ha⟩ := hcut
      have HN2 := hide hn
      have HG2 := hide hg
      have HA2 := hide ha
      have HO3 := hide (growG HO2.out hg)
      have HB3 := hide (HB2.out.grow hg)
      have HL3 := hide (HL2.out.grown hg HB2.out.small (by intro k hk; cases hk))
      clear hn hg ha
      go_upto_region 7 with fail
      go_cut [8] from 9 to 53 (fun s wx => wx.ownsRow B shW.e shW.size s (l.length + 3) ((List.replicate (l.length + 3) (shW.mark q)).flatMap shW.enc) ∧ V2.grownBy wx none ∧ ∃ g, s.ownBlock = some g ∧ V2.heap.size ≤ g)
      case first =>
        go_wp2_with (refine wpList_append_freshS _ rfl (.tmp 35) (.tmp 39) 23 rfl B 2 i0 (.int .i64 0) 1 8 Tryz.underlying23 hi0 hz0 hz1 hz2 rfl (by omega) (.slice p l.length c) l.length ((List.replicate l.length (shW.mark q)).flatMap shW.enc) (by rfl) (growG HO3.out (World.grownBy_alloc _ _ none)) HT.out ⟨V2.heap.size, 0, none⟩ 3 3 [.int .i64 (-1000003 - (q : Int)), .int .i64 (-1000003 - (q : Int)), .int .i64 (-1000003 - (q : Int))] (by rfl) (by simp) (newsN (cs := #[.int .i64 (-1000003 - (q : Int)), .int .i64 (-1000003 - (q : Int)), .int .i64 (-1000003 - (q : Int))]) rfl) (Rw.ones okW (List.replicate 3 (shW.mark q))) (by omega) (by unfold maxLen; omega) (by omega) (by have := HB3.out.small; simp; omega) ?_; intro v1 w1 hown1 hgr1 hat1; have HN1 : Hid (w1.ownsRow B shW.e shW.size v1 (l.length + 3) ((List.replicate (l.length + 3) (shW.mark q)).flatMap shW.enc)) := hide (by rw [← rep_more]; exact hown1); have HGn := hide (grown_trans (World.grownBy_alloc V2 (.cells #[.int .i64 (-1000003 - (q : Int)), .int .i64 (-1000003 - (q : Int)), .int .i64 (-1000003 - (q : Int))] 2) none) hgr1); have HAn := hide hat1; clear hown1 hgr1 hat1)
        go_meet
        exact ⟨HN1.out, HGn.out, _, HAn.out, by simp⟩
      case rest =>
      rename World => V3
      obtain ⟨hn, hg, ha⟩ := hcut
      have HN3 := hide hn
      have HG3 := hide hg
      have HA3 := hide ha
      have HO4 := hide (growG HO3.out hg)
      have HB4 := hide (HB3.out.grow hg)
      have HL4 := hide (HL3.out.grown hg HB3.out.small (by intro k hk; cases hk))
      clear hn hg ha
      obtain ⟨g1, k1, e1, _, hl1⟩ := World.ownsRow.form HN1.out (by omega)
      obtain ⟨g2, k2, e2, _, hl2⟩ := World.ownsRow.form HN2.out (by omega)
      obtain ⟨g3, k3, e3, _, hl3⟩ := World.ownsRow.form HN3.out (by omega)
      subst e1
      subst e2
      subst e3
      obtain ⟨c0, c1, _, _, _, _, cf⟩ := HB4.out.cells rfl
      have hl43 : l.length ≤ 400 := hl4
      go_wp2_with (refine wpList_append_wide _ rfl (.tmp 45) (.tmp 50) 25 rfl B 23 j0 (.slice none 0 0) 24 Tryz.underlying25 hj0 hy0 hy1 hy2 rfl (.slice pw ms.length cw) ms.length (ms.map (·.1)) (by rfl) (World.ownsRow.alloc HB4.out.hw.words _) ⟨V3.heap.size, 0, none⟩ 4 4 [.slice p l.length c, .slice (some ⟨g1, 0, none⟩) (l.length + 1) k1, .slice (some ⟨g2, 0, none⟩) (l.length + 2) k2, .slice (some ⟨g3, 0, none⟩) (l.length + 3) k3] (by rfl) (by simp) (newsN (cs := #[.slice p l.length c, .slice (some ⟨g1, 0, none⟩) (l.length + 1) k1, .slice (some ⟨g2, 0, none⟩) (l.length + 2) k2, .slice (some ⟨g3, 0, none⟩) (l.length + 3) k3]) rfl) (by intro u hu; simp at hu; rcases hu with rfl | rfl | rfl | rfl <;> rfl) (by omega) (by unfold maxLen; omega) (by omega) (by have := HB4.out.small; simp; omega) ?_; intro wv' w4 hown4 hgr4 hat4; obtain ⟨gw, kw, ew', _, _⟩ := World.ownsRow.form hown4 (by omega); subst ew'; have HB5 := hide (HB4.out.grow (World.grownBy_alloc V3 (.cells #[.slice p l.length c, .slice (some ⟨g1, 0, none⟩) (l.length + 1) k1, .slice (some ⟨g2, 0, none⟩) (l.length + 2) k2, .slice (some ⟨g3, 0, none⟩) (l.length + 3) k3] 23) none)); have HW4 := hide hown4; have HG4 := hide hgr4; have HA4 := hide hat4; have hbb4 := hgr4.block bb (Array.getElem?_eq_some_iff.1 HB5.out.blk).1 (bbG HB5.out.hw.words HB5.out.blk okW.sb); obtain ⟨z0, z1, _, _, _, _, zf⟩ := HB5.out.cells hbb4; have HBB4 := hide hbb4; clear hown4 hgr4 hat4 hbb4)
      have hga := World.grownBy_alloc V3 (.cells #[.slice p l.length c, .slice (some ⟨g1, 0, none⟩) (l.length + 1) k1, .slice (some ⟨g2, 0, none⟩) (l.length + 2) k2, .slice (some ⟨g3, 0, none⟩) (l.length + 3) k3] 23) none
      have o0 := growG HO4.out hga
      have o1 := growG (growG (growG HN1.out HG2.out) HG3.out) hga
      have o2 := growG (growG HN2.out HG3.out) hga
      have o3 := growG HN3.out hga
      have far : ∀ (V : World) (j n : Nat) (k : Nat) (y : Value × Value × List shW.α), Rw shW V B y.1 y.2.2 → V.heap.size ≤ j → Apart y.1 (.slice (some ⟨j, 0, none⟩) n k) := fun V j n k y hy hj g h1 h2 => by
        have h3 := (Rw.lt hy g h1).2
        simp [Value.ownBlock] at h2
        omega
      have p1 : ∀ y ∈ ys, Apart y.1 (.slice (some ⟨g1, 0, none⟩) (l.length + 1) k1) := fun y hy => far Vr g1 _ _ y (HB1.out.hw.each y hy).1 (by obtain ⟨g, hg, hge⟩ := HA1.out; simp [Value.ownBlock] at hg; omega)
      have p2 : ∀ y ∈ ys, Apart y.1 (.slice (some ⟨g2, 0, none⟩) (l.length + 2) k2) := fun y hy => far V1 g2 _ _ y (HB2.out.hw.each y hy).1 (by obtain ⟨g, hg, hge⟩ := HA2.out; simp [Value.ownBlock] at hg; omega)
      have p3 : ∀ y ∈ ys, Apart y.1 (.slice (some ⟨g3, 0, none⟩) (l.length + 3) k3) := fun y hy => far V2 g3 _ _ y (HB3.out.hw.each y hy).1 (by obtain ⟨g, hg, hge⟩ := HA3.out; simp [Value.ownBlock] at hg; omega)
      have hq' : ms.length = 4 * q := HQ.out
      have htop : l.length ≤ 16 := HTOP.out
      have hmk : ∀ (k : Nat) v n, (ms ++ [((Value.slice p l.length c), l.length), ((Value.slice (some ⟨g1, 0, none⟩) (l.length + 1) k1), l.length + 1), ((Value.slice (some ⟨g2, 0, none⟩) (l.length + 2) k2), l.length + 2), ((Value.slice (some ⟨g3, 0, none⟩) (l.length + 3) k3), l.length + 3)])[k]? = some (v, n) → (V3.alloc (.cells #[.slice p l.length c, .slice (some ⟨g1, 0, none⟩) (l.length + 1) k1, .slice (some ⟨g2, 0, none⟩) (l.length + 2) k2, .slice (some ⟨g3, 0, none⟩) (l.length + 3) k3] 23)).ownsRow B shW.e shW.size v n ((List.replicate n (shW.mark (k / 4))).flatMap shW.enc) := by
        intro k v n hk
        rcases Nat.lt_or_ge k ms.length with h' | h'
        · rw [List.getElem?_append_left h'] at hk
          exact HB5.out.hw.marks k v n hk
        · rw [List.getElem?_append_right h'] at hk
          have hj : k - ms.length = 0 ∨ k - ms.length = 1 ∨ k - ms.length = 2 ∨ k - ms.length = 3 ∨ 4 ≤ k - ms.length := by omega
          rcases hj with hj | hj | hj | hj | hj
          · have e4 : k / 4 = q := by omega
            rw [hj] at hk; simp at hk; obtain ⟨rfl, rfl⟩ := hk; rw [e4]; exact o0
          · have e4 : k / 4 = q := by omega
            rw [hj] at hk; simp at hk; obtain ⟨rfl, rfl⟩ := hk; rw [e4]; exact o1
          · have e4 : k / 4 = q := by omega
            rw [hj] at hk; simp at hk; obtain ⟨rfl, rfl⟩ := hk; rw [e4]; exact o2
          · have e4 : k / 4 = q := by omega
            rw [hj] at hk; simp at hk; obtain ⟨rfl, rfl⟩ := hk; rw [e4]; exact o3
          · rw [List.getElem?_eq_none (by simp; omega)] at hk; cases hk
      have hq3 : ∀ m ∈ ms ++ [((Value.slice p l.length c), l.length), ((Value.slice (some ⟨g1, 0, none⟩) (l.length + 1) k1), l.length + 1), ((Value.slice (some ⟨g2, 0, none⟩) (l.length + 2) k2), l.length + 2), ((Value.slice (some ⟨g3, 0, none⟩) (l.length + 3) k3), l.length + 3)], ∀ y ∈ ys, Apart y.1 m.1 := by
        intro m hm y hy
        rcases List.mem_append.1 hm with h' | h'
        · exact HB5.out.hw.q3 m h' y hy
        · simp at h'
          rcases h' with rfl | rfl | rfl | rfl
          · exact (HQ1.out y hy).1.symm
          · exact p1 y hy
          · exact p2 y hy
          · exact p3 y hy
      have hsz : ∀ m ∈ ms ++ [((Value.slice p l.length c), l.length), ((Value.slice (some ⟨g1, 0, none⟩) (l.length + 1) k1), l.length + 1), ((Value.slice (some ⟨g2, 0, none⟩) (l.length + 2) k2), l.length + 2), ((Value.slice (some ⟨g3, 0, none⟩) (l.length + 3) k3), l.length + 3)], m.2 ≤ shW.top + 3 := by
        intro m hm
        rcases List.mem_append.1 hm with h' | h'
        · exact HB5.out.hw.sizes m h'
        · simp at h'
          rcases h' with rfl | rfl | rfl | rfl <;> (show _ ≤ 16 + 3) <;> simp only <;> omega
      have b5 := HL4.out.grown hga HB4.out.small (by intro k hk; cases hk)
      have b6 := b5.grown HG4.out HB5.out.small (fun k hk => (World.ownsRow.lt HB5.out.hw.words k hk).1)
      have b7 := b6.setCell (p := ⟨bb, 0, none⟩) HB.out.base (.slice (some ⟨gw, 0, none⟩) (ms.length + 4) kw)
      have hown : w4.ownsRow B shW.sl 1 (.slice (some ⟨gw, 0, none⟩) (ms.length + 4) kw) (ms ++ [((Value.slice p l.length c), l.length), ((Value.slice (some ⟨g1, 0, none⟩) (l.length + 1) k1), l.length + 1), ((Value.slice (some ⟨g2, 0, none⟩) (l.length + 2) k2), l.length + 2), ((Value.slice (some ⟨g3, 0, none⟩) (l.length + 3) k3), l.length + 3)]).length ((ms ++ [((Value.slice p l.length c), l.length), ((Value.slice (some ⟨g1, 0, none⟩) (l.length + 1) k1), l.length + 1), ((Value.slice (some ⟨g2, 0, none⟩) (l.length + 2) k2), l.length + 2), ((Value.slice (some ⟨g3, 0, none⟩) (l.length + 3) k3), l.length + 3)]).map (·.1)) := by simpa using HW4.out
      have hH := HB5.out.hw.newWv okW hown HG4.out HA4.out hmk hq3 hsz
      have hO := HB5.out.ht.other HB5.out.hw.words HG4.out (by decide) (by decide)
      have hsm := Nat.le_trans HB5.out.small HG4.out.size
      have hfin := Bq.put (j := 0) (u := .slice (some ⟨gw, 0, none⟩) (ms.length + 4) kw) (HBB4.out.trans HB5.out.blk) rfl HB5.out.base hsm hH hO
      go_end0
      exact ⟨rfl, b7, _, _, by simp; omega, hfin⟩

set_option maxRecDepth 100000 in
set_option maxHeartbeats 4000000 in
theorem markTimesQ (B bb q : Nat) (wv aw ew : Value) (ms : List (Value × Nat)) (av es : List Value) (tv at' et : Value) (ts : List (Value × Nat)) (bv fs : List Value) (v x : Value) (l : List Tm) (ys : List (Value × Value × List Int)) (zs : List (Value × Value × List Tm)) (w : World)
    (hq : ts.length = 4 * q) (hb : Bq w B bb wv aw ew ms av es ys tv at' et ts bv fs ((v, x, l) :: zs)) (ht : Tight v) (hml : (ts.length : Int) ≤ 9000000000000) :
    Calls Tryz.prog 24 #[.pointer (some ⟨bb, 0, none⟩), v] w fun e w' => e = .returned (.tuple #[]) ∧ Below B w w' ∧ ∃ wv' ms', ms'.length = 4 * (q + 1) ∧ Bq w' B bb wv aw ew ms av es ys wv' at' et ms' bv fs zs := by
  obtain ⟨i0, hi0, hz0, hz1, hz2⟩ := info_parts Tryz.infoTmB
  obtain ⟨j0, hj0, hy0, hy1, hy2⟩ := info_parts Tryz.info55
  obtain ⟨hv, _, hltop⟩ := hb.ht.each _ (List.mem_cons_self ..)
  simp only at hv hltop
  have hl4 : l.length ≤ 400 := Nat.le_trans hltop (by decide)
  obtain ⟨p, c, rfl, _⟩ := hv.slice
  obtain ⟨pw, cw, hw, _⟩ := row_at hb.ht.words
  subst hw
  obtain ⟨c0, c1, _, _, _, _, cf⟩ := hb.cells rfl
  have hq4 : (ts.length : Int) / 4 = (q : Int) := by omega
  have hq0 : (q : Int) ≤ 9000000000000 := by omega
  have HQ := hide hq
  have HB := hide hb
  have HV := hide hv
  have HT := hide ht
  have hbz := (Array.getElem?_eq_some_iff.1 hb.blk).1
  have HTOP := hide hltop
  clear hb hv ht hq hltop
  go_enter Tryz.func24, Tryz.ntmps24
  go_upto_region 1 with fail
  obtain ⟨w0, hw0⟩ : ∃ w0, w.alloc (.cells #[.int .i64 (-1 - (q : Int)), .int .i64 0, .int .i64 0, .int .i64 0, .int .i64 0] 79) = w0 := ⟨_, rfl⟩
  rw [hw0]
  have hg0 : w.grownBy w0 none := by rw [← hw0]; exact World.grownBy_alloc w (.cells #[.int .i64 (-1 - (q : Int)), .int .i64 0, .int .i64 0, .int .i64 0, .int .i64 0] 79) none
  have gX : w0.heap[w.heap.size]? = some (.cells #[.int .i64 (-1 - (q : Int)), .int .i64 0, .int .i64 0, .int .i64 0, .int .i64 0] 79 (0, 0)) := by rw [← hw0]; exact heap_alloc_new _ _
  have HB0 := hide (HB.out.grow hg0)
  have HV0 : Hid (Rw shT w0 B (.slice p l.length c) l) := HV.out.grow hg0
  have HBW0 : Hid (Below B w w0) := hide ((Below.refl B w).grown hg0 HB.out.small (by intro k hk; cases hk))
  have hnX : (Value.slice p l.length c).ownBlock ≠ some w.heap.size := fun e => by have := (Rw.lt HV.out _ e).2; omega
  have HNX := hide hnX
  have GX := hide gX
  clear hw0 hg0 gX hnX
  clear c0 c1 cf
  go_wp2_with fail
  go_loopg [5] l.length (fun gq s5 wr => ∃ k : Nat, k ≤ l.length ∧ gq = l.length - k ∧ s5 = .int .i64 k ∧ wr.ownsRow B shT.e shT.size (.slice p l.length c) l.length ((List.replicate k (shT.mark q) ++ l.drop k).flatMap shT.enc) ∧ w0.grownBy wr (Value.slice p l.length c).ownBlock ∧ wr.heap[w.heap.size]? = some (.cells #[.int .i64 (-1 - (q : Int)), .int .i64 0, .int .i64 0, .int .i64 0, .int .i64 0] 79 (0, 0)))
  case atStart => exact ⟨0, Nat.zero_le _, rfl, rfl, by simpa [Rw] using HV0.out, ⟨rfl, rfl, rfl, Nat.le_refl _, fun _ _ _ => rfl⟩, GX.out⟩
  case round =>
    obtain ⟨k, hk, hgk, rfl, ho, hg, hgX⟩ := hrel
    rename World => Vr
    rcases Nat.lt_or_ge k l.length with hlt | hge
    · obtain ⟨g, cap, e1, hBg, _⟩ := World.ownsRow.form ho (by omega)
      simp only [Value.slice.injEq] at e1
      obtain ⟨rfl, -, rfl⟩ := e1
      obtain ⟨y, hy⟩ := markAt l (shT.mark q) k hlt
      have hkI : (k : Int) < (l.length : Int) := by omega
      have hnm : k < (List.replicate k (shT.mark q) ++ l.drop k).length := by simp; omega
      have y0 : Vr.cell? ⟨g, k * 5, none⟩ = some (.int .i64 y.number) := by
        rw [ho.cellAt (k * 5) (by show _ < l.length * 5; omega)]
        exact gflat_get (f := tmC) (k := 5) (fun _ => rfl) _ k 0 _ hy (by omega)
      have y1 : Vr.cell? ⟨g, k * 5 + 1, none⟩ = some (.int .i64 y.issue) := by
        rw [ho.cellAt (k * 5 + 1) (by show _ < l.length * 5; omega)]
        exact gflat_get (f := tmC) (k := 5) (fun _ => rfl) _ k 1 _ hy (by omega)
      have y2 : Vr.cell? ⟨g, k * 5 + 2, none⟩ = some (.int .i64 y.read) := by
        rw [ho.cellAt (k * 5 + 2) (by show _ < l.length * 5; omega)]
        exact gflat_get (f := tmC) (k := 5) (fun _ => rfl) _ k 2 _ hy (by omega)
      have y3 : Vr.cell? ⟨g, k * 5 + 3, none⟩ = some (.int .i64 y.done) := by
        rw [ho.cellAt (k * 5 + 3) (by show _ < l.length * 5; omega)]
        exact gflat_get (f := tmC) (k := 5) (fun _ => rfl) _ k 3 _ hy (by omega)
      have y4 : Vr.cell? ⟨g, k * 5 + 4, none⟩ = some (.int .i64 y.write) := by
        rw [ho.cellAt (k * 5 + 4) (by show _ < l.length * 5; omega)]
        exact gflat_get (f := tmC) (k := 5) (fun _ => rfl) _ k 4 _ hy (by omega)
      have x0 : Vr.cell? ⟨w.heap.size, 0, none⟩ = some (.int .i64 (-1 - (q : Int))) := by rw [cell_of_row _ _ _ _ _ _ hgX]; rfl
      have x1 : Vr.cell? ⟨w.heap.size, 1, none⟩ = some (.int .i64 0) := by rw [cell_of_row _ _ _ _ _ _ hgX]; rfl
      have x2 : Vr.cell? ⟨w.heap.size, 2, none⟩ = some (.int .i64 0) := by rw [cell_of_row _ _ _ _ _ _ hgX]; rfl
      have x3 : Vr.cell? ⟨w.heap.size, 3, none⟩ = some (.int .i64 0) := by rw [cell_of_row _ _ _ _ _ _ hgX]; rfl
      have x4 : Vr.cell? ⟨w.heap.size, 4, none⟩ = some (.int .i64 0) := by rw [cell_of_row _ _ _ _ _ _ hgX]; rfl
      have hff : ∀ j, Vr.frozen? ⟨g, j, none⟩ = false := World.ownsRow.frozenAt ho
      have HO := hide ho
      have HG := hide hg
      have HGK := hide hgk
      have HY := hide hy
      have HX := hide hgX
      clear ho hg hgk hy hBg hgX
      go_wp2_with fail
      have hgk := HGK.out
      go_roundg (l.length - (k + 1))
      case measure => omega
      case rel =>
        obtain ⟨h1, h2⟩ := owns_sets (shT.enc (shT.mark q)) Vr (k * 5) _ HO.out
        rw [setL_flat (f := shT.enc) (k := 5) (fun _ => rfl) HY.out, markStep l _ k hlt] at h1
        have hgg := grow_row HG.out h2
        refine ⟨k + 1, by omega, rfl, by go_num, h1, hgg, ?_⟩
        have hne : w.heap.size ≠ g := fun e => HNX.out (by rw [e]; rfl)
        exact (h2.block w.heap.size (Array.getElem?_eq_some_iff.1 HX.out).1 (fun e => hne (Option.some.inj e))).trans HX.out
    · have hkl : k = l.length := by omega
      subst hkl
      have hend : ¬ (l.length : Int) < (l.length : Int) := by omega
      have ho1 : Vr.ownsRow B shT.e shT.size (.slice p l.length c) l.length ((List.replicate l.length (shT.mark q)).flatMap shT.enc) := by simpa using ho
      have hblk : Vr.heap[bb]? = w0.heap[bb]? := hg.block bb (Array.getElem?_eq_some_iff.1 HB0.out.blk).1 (bbG HV0.out HB0.out.blk okT.eb)
      have hBq : Bq Vr B bb wv aw ew ms av es ys (.slice pw ts.length cw) at' et ts bv fs zs := ⟨hblk.trans HB0.out.blk, HB0.out.base, Nat.le_trans HB0.out.small hg.size, HB0.out.hw.other HV0.out hg (by decide) (by decide), HB0.out.ht.dropHead okT hg⟩
      have HO1 := hide ho1
      have HB1 := hide hBq
      have HL1 : Hid (Below B w Vr) := hide (HBW0.out.grown hg HB0.out.small (fun k hk => (Rw.lt HV0.out k hk).1))
      have HQ1 := hide (List.pairwise_cons.1 HB.out.ht.q1).1
      have HX1 := hide hgX
      have x0 : Vr.cell? ⟨w.heap.size, 0, none⟩ = some (.int .i64 (-1 - (q : Int))) := by rw [cell_of_row _ _ _ _ _ _ hgX]; rfl
      have x1 : Vr.cell? ⟨w.heap.size, 1, none⟩ = some (.int .i64 0) := by rw [cell_of_row _ _ _ _ _ _ hgX]; rfl
      have x2 : Vr.cell? ⟨w.heap.size, 2, none⟩ = some (.int .i64 0) := by rw [cell_of_row _ _ _ _ _ _ hgX]; rfl
      have x3 : Vr.cell? ⟨w.heap.size, 3, none⟩ = some (.int .i64 0) := by rw [cell_of_row _ _ _ _ _ _ hgX]; rfl
      have x4 : Vr.cell? ⟨w.heap.size, 4, none⟩ = some (.int .i64 0) := by rw [cell_of_row _ _ _ _ _ _ hgX]; rfl
      clear ho ho1 hblk hBq hg hgk hk hge hgX
      go_upto_region 5 with fail
      go_cut [6] from 9 to 54 (fun s wx => wx.ownsRow B shT.e shT.size s (l.length + 1) ((List.replicate (l.length + 1) (shT.mark q)).flatMap shT.enc) ∧ Vr.grownBy wx none ∧ ∃ g, s.ownBlock = some g ∧ Vr.heap.size ≤ g)
      case first =>
        go_wp2_with (refine wpList_append_freshS _ rfl (.tmp 27) (.tmp 29) 55 rfl B 79 i0 (.agg #[.int .i64 0, .int .i64 0, .int .i64 0, .int .i64 0, .int .i64 0]) 5 40 Tryz.underlying55 hi0 hz0 hz1 hz2 rfl (by omega) (.slice p l.length c) l.length ((List.replicate l.length (shT.mark q)).flatMap shT.enc) (by rfl) (growG HO1.out (World.grownBy_alloc _ _ none)) HT.out ⟨Vr.heap.size, 0, none⟩ 1 1 [.int .i64 (-1 - (q : Int)), .int .i64 0, .int .i64 0, .int .i64 0, .int .i64 0] (by rfl) (by simp) (newsN (cs := #[.int .i64 (-1 - (q : Int)), .int .i64 0, .int .i64 0, .int .i64 0, .int .i64 0]) rfl) (Rw.ones okT (List.replicate 1 (shT.mark q))) (by omega) (by unfold maxLen; omega) (by omega) (by have := HB1.out.small; simp; omega) ?_; intro v1 w1 hown1 hgr1 hat1; have HN1 : Hid (w1.ownsRow B shT.e shT.size v1 (l.length + 1) ((List.replicate (l.length + 1) (shT.mark q)).flatMap shT.enc)) := hide (by rw [← rep_more]; exact hown1); have HGn := hide (grown_trans (World.grownBy_alloc Vr (.cells #[.int .i64 (-1 - (q : Int)), .int .i64 0, .int .i64 0, .int .i64 0, .int .i64 0] 79) none) hgr1); have HAn := hide hat1; clear hown1 hgr1 hat1)
        go_meet
        exact ⟨HN1.out, HGn.out, _, HAn.out, by simp⟩
      case rest =>
      rename World => V1
      obtain ⟨hn, hg, ha⟩ := hcut
      have HN1 := hide hn
      have HG1 := hide hg
      have HA1 := hide ha
      have HO2 := hide (growG HO1.out hg)
      have HB2 := hide (HB1.out.grow hg)
      have HL2 := hide (HL1.out.grown hg HB1.out.small (by intro k hk; cases hk))
      have hX := (hg.block w.heap.size (Array.getElem?_eq_some_iff.1 HX1.out).1 (by simp)).trans HX1.out
      have HX2 := hide hX
      clear x0 x1 x2 x3 x4
      have x0 : V1.cell? ⟨w.heap.size, 0, none⟩ = some (.int .i64 (-1 - (q : Int))) := by rw [cell_of_row _ _ _ _ _ _ hX]; rfl
      have x1 : V1.cell? ⟨w.heap.size, 1, none⟩ = some (.int .i64 0) := by rw [cell_of_row _ _ _ _ _ _ hX]; rfl
      have x2 : V1.cell? ⟨w.heap.size, 2, none⟩ = some (.int .i64 0) := by rw [cell_of_row _ _ _ _ _ _ hX]; rfl
      have x3 : V1.cell? ⟨w.heap.size, 3, none⟩ = some (.int .i64 0) := by rw [cell_of_row _ _ _ _ _ _ hX]; rfl
      have x4 : V1.cell? ⟨w.heap.size, 4, none⟩ = some (.int .i64 0) := by rw [cell_of_row _ _ _ _ _ _ hX]; rfl
      clear hX
      clear hn hg ha
      go_upto_region 6 with fail
      go_cut [7] from 9 to 54 (fun s wx => wx.ownsRow B shT.e shT.size s (l.length + 2) ((List.replicate (l.length + 2) (shT.mark q)).flatMap shT.enc) ∧ V1.grownBy wx none ∧ ∃ g, s.ownBlock = some g ∧ V1.heap.size ≤ g)
      case first =>
        go_wp2_with (refine wpList_append_freshS _ rfl (.tmp 31) (.tmp 34) 55 rfl B 79 i0 (.agg #[.int .i64 0, .int .i64 0, .int .i64 0, .int .i64 0, .int .i64 0]) 5 40 Tryz.underlying55 hi0 hz0 hz1 hz2 rfl (by omega) (.slice p l.length c) l.length ((List.replicate l.length (shT.mark q)).flatMap shT.enc) (by rfl) (growG HO2.out (World.grownBy_alloc _ _ none)) HT.out ⟨V1.heap.size, 0, none⟩ 2 2 [.int .i64 (-1 - (q : Int)), .int .i64 0, .int .i64 0, .int .i64 0, .int .i64 0, .int .i64 (-1 - (q : Int)), .int .i64 0, .int .i64 0, .int .i64 0, .int .i64 0] (by rfl) (by simp) (newsN (cs := #[.int .i64 (-1 - (q : Int)), .int .i64 0, .int .i64 0, .int .i64 0, .int .i64 0, .int .i64 (-1 - (q : Int)), .int .i64 0, .int .i64 0, .int .i64 0, .int .i64 0]) rfl) (Rw.ones okT (List.replicate 2 (shT.mark q))) (by omega) (by unfold maxLen; omega) (by omega) (by have := HB2.out.small; simp; omega) ?_; intro v1 w1 hown1 hgr1 hat1; have HN1 : Hid (w1.ownsRow B shT.e shT.size v1 (l.length + 2) ((List.replicate (l.length + 2) (shT.mark q)).flatMap shT.enc)) := hide (by rw [← rep_more]; exact hown1); have HGn := hide (grown_trans (World.grownBy_alloc V1 (.cells #[.int .i64 (-1 - (q : Int)), .int .i64 0, .int .i64 0, .int .i64 0, .int .i64 0, .int .i64 (-1 - (q : Int)), .int .i64 0, .int .i64 0, .int .i64 0, .int .i64 0] 79) none) hgr1); have HAn := hide hat1; clear hown1 hgr1 hat1)
        go_meet
        exact ⟨HN1.out, HGn.out, _, HAn.out, by simp⟩
      case rest =>
      rename World => V2
      obtain ⟨hn, hg, ha⟩ := hcut
      have HN2 := hide hn
      have HG2 := hide hg
      have HA2 := hide ha
      have HO3 := hide (growG HO2.out hg)
      have HB3 := hide (HB2.out.grow hg)
      have HL3 := hide (HL2.out.grown hg HB2.out.small (by intro k hk; cases hk))
      have hX := (hg.block w.heap.size (Array.getElem?_eq_some_iff.1 HX2.out).1 (by simp)).trans HX2.out
      have HX3 := hide hX
      clear x0 x1 x2 x3 x4
      have x0 : V2.cell? ⟨w.heap.size, 0, none⟩ = some (.int .i64 (-1 - (q : Int))) := by rw [cell_of_row _ _ _ _ _ _ hX]; rfl
      have x1 : V2.cell? ⟨w.heap.size, 1, none⟩ = some (.int .i64 0) := by rw [cell_of_row _ _ _ _ _ _ hX]; rfl
      have x2 : V2.cell? ⟨w.heap.size, 2, none⟩ = some (.int .i64 0) := by rw [cell_of_row _ _ _ _ _ _ hX]; rfl
      have x3 : V2.cell? ⟨w.heap.size, 3, none⟩ = some (.int .i64 0) := by rw [cell_of_row _ _ _ _ _ _ hX]; rfl
      have x4 : V2.cell? ⟨w.heap.size, 4, none⟩ = some (.int .i64 0) := by rw [cell_of_row _ _ _ _ _ _ hX]; rfl
      clear hX
      clear hn hg ha
      go_upto_region 7 with fail
      go_cut [8] from 9 to 54 (fun s wx => wx.ownsRow B shT.e shT.size s (l.length + 3) ((List.replicate (l.length + 3) (shT.mark q)).flatMap shT.enc) ∧ V2.grownBy wx none ∧ ∃ g, s.ownBlock = some g ∧ V2.heap.size ≤ g)
      case first =>
        go_wp2_with (refine wpList_append_freshS _ rfl (.tmp 36) (.tmp 40) 55 rfl B 79 i0 (.agg #[.int .i64 0, .int .i64 0, .int .i64 0, .int .i64 0, .int .i64 0]) 5 40 Tryz.underlying55 hi0 hz0 hz1 hz2 rfl (by omega) (.slice p l.length c) l.length ((List.replicate l.length (shT.mark q)).flatMap shT.enc) (by rfl) (growG HO3.out (World.grownBy_alloc _ _ none)) HT.out ⟨V2.heap.size, 0, none⟩ 3 3 [.int .i64 (-1 - (q : Int)), .int .i64 0, .int .i64 0, .int .i64 0, .int .i64 0, .int .i64 (-1 - (q : Int)), .int .i64 0, .int .i64 0, .int .i64 0, .int .i64 0, .int .i64 (-1 - (q : Int)), .int .i64 0, .int .i64 0, .int .i64 0, .int .i64 0] (by rfl) (by simp) (newsN (cs := #[.int .i64 (-1 - (q : Int)), .int .i64 0, .int .i64 0, .int .i64 0, .int .i64 0, .int .i64 (-1 - (q : Int)), .int .i64 0, .int .i64 0, .int .i64 0, .int .i64 0, .int .i64 (-1 - (q : Int)), .int .i64 0, .int .i64 0, .int .i64 0, .int .i64 0]) rfl) (Rw.ones okT (List.replicate 3 (shT.mark q))) (by omega) (by unfold maxLen; omega) (by omega) (by have := HB3.out.small; simp; omega) ?_; intro v1 w1 hown1 hgr1 hat1; have HN1 : Hid (w1.ownsRow B shT.e shT.size v1 (l.length + 3) ((List.replicate (l.length + 3) (shT.mark q)).flatMap shT.enc)) := hide (by rw [← rep_more]; exact hown1); have HGn := hide (grown_trans (World.grownBy_alloc V2 (.cells #[.int .i64 (-1 - (q : Int)), .int .i64 0, .int .i64 0, .int .i64 0, .int .i64 0, .int .i64 (-1 - (q : Int)), .int .i64 0, .int .i64 0, .int .i64 0, .int .i64 0, .int .i64 (-1 - (q : Int)), .int .i64 0, .int .i64 0, .int .i64 0, .int .i64 0] 79) none) hgr1); have HAn := hide hat1; clear hown1 hgr1 hat1)
        go_meet
        exact ⟨HN1.out, HGn.out, _, HAn.out, by simp⟩
      case rest =>
      rename World => V3
      obtain ⟨hn, hg, ha⟩ := hcut
      have HN3 := hide hn
      have HG3 := hide hg
      have HA3 := hide ha
      have HO4 := hide (growG HO3.out hg)
      have HB4 := hide (HB3.out.grow hg)
      have HL4 := hide (HL3.out.grown hg HB3.out.small (by intro k hk; cases hk))
      have hX := (hg.block w.heap.size (Array.getElem?_eq_some_iff.1 HX3.out).1 (by simp)).trans HX3.out
      have HX4 := hide hX
      clear x0 x1 x2 x3 x4
      have x0 : V3.cell? ⟨w.heap.size, 0, none⟩ = some (.int .i64 (-1 - (q : Int))) := by rw [cell_of_row _ _ _ _ _ _ hX]; rfl
      have x1 : V3.cell? ⟨w.heap.size, 1, none⟩ = some (.int .i64 0) := by rw [cell_of_row _ _ _ _ _ _ hX]; rfl
      have x2 : V3.cell? ⟨w.heap.size, 2, none⟩ = some (.int .i64 0) := by rw [cell_of_row _ _ _ _ _ _ hX]; rfl
      have x3 : V3.cell? ⟨w.heap.size, 3, none⟩ = some (.int .i64 0) := by rw [cell_of_row _ _ _ _ _ _ hX]; rfl
      have x4 : V3.cell? ⟨w.heap.size, 4, none⟩ = some (.int .i64 0) := by rw [cell_of_row _ _ _ _ _ _ hX]; rfl
      clear hX
      clear hn hg ha
      obtain ⟨g1, k1, e1, _, hl1⟩ := World.ownsRow.form HN1.out (by omega)
      obtain ⟨g2, k2, e2, _, hl2⟩ := World.ownsRow.form HN2.out (by omega)
      obtain ⟨g3, k3, e3, _, hl3⟩ := World.ownsRow.form HN3.out (by omega)
      subst e1
      subst e2
      subst e3
      obtain ⟨c0, c1, _, _, _, _, cf⟩ := HB4.out.cells rfl
      have hl43 : l.length ≤ 400 := hl4
      go_wp2_with (refine wpList_append_wide _ rfl (.tmp 46) (.tmp 51) 26 rfl B 55 j0 (.slice none 0 0) 24 Tryz.underlying26 hj0 hy0 hy1 hy2 rfl (.slice pw ts.length cw) ts.length (ts.map (·.1)) (by rfl) (World.ownsRow.alloc HB4.out.ht.words _) ⟨V3.heap.size, 0, none⟩ 4 4 [.slice p l.length c, .slice (some ⟨g1, 0, none⟩) (l.length + 1) k1, .slice (some ⟨g2, 0, none⟩) (l.length + 2) k2, .slice (some ⟨g3, 0, none⟩) (l.length + 3) k3] (by rfl) (by simp) (newsN (cs := #[.slice p l.length c, .slice (some ⟨g1, 0, none⟩) (l.length + 1) k1, .slice (some ⟨g2, 0, none⟩) (l.length + 2) k2, .slice (some ⟨g3, 0, none⟩) (l.length + 3) k3]) rfl) (by intro u hu; simp at hu; rcases hu with rfl | rfl | rfl | rfl <;> rfl) (by omega) (by unfold maxLen; omega) (by omega) (by have := HB4.out.small; simp; omega) ?_; intro wv' w4 hown4 hgr4 hat4; obtain ⟨gw, kw, ew', _, _⟩ := World.ownsRow.form hown4 (by omega); subst ew'; have HB5 := hide (HB4.out.grow (World.grownBy_alloc V3 (.cells #[.slice p l.length c, .slice (some ⟨g1, 0, none⟩) (l.length + 1) k1, .slice (some ⟨g2, 0, none⟩) (l.length + 2) k2, .slice (some ⟨g3, 0, none⟩) (l.length + 3) k3] 55) none)); have HW4 := hide hown4; have HG4 := hide hgr4; have HA4 := hide hat4; have hbb4 := hgr4.block bb (Array.getElem?_eq_some_iff.1 HB5.out.blk).1 (bbG HB5.out.ht.words HB5.out.blk okT.sb); obtain ⟨z0, z1, _, _, _, _, zf⟩ := HB5.out.cells hbb4; have HBB4 := hide hbb4; clear hown4 hgr4 hat4 hbb4)
      have hga := World.grownBy_alloc V3 (.cells #[.slice p l.length c, .slice (some ⟨g1, 0, none⟩) (l.length + 1) k1, .slice (some ⟨g2, 0, none⟩) (l.length + 2) k2, .slice (some ⟨g3, 0, none⟩) (l.length + 3) k3] 55) none
      have o0 := growG HO4.out hga
      have o1 := growG (growG (growG HN1.out HG2.out) HG3.out) hga
      have o2 := growG (growG HN2.out HG3.out) hga
      have o3 := growG HN3.out hga
      have far : ∀ (V : World) (j n : Nat) (k : Nat) (y : Value × Value × List shT.α), Rw shT V B y.1 y.2.2 → V.heap.size ≤ j → Apart y.1 (.slice (some ⟨j, 0, none⟩) n k) := fun V j n k y hy hj g h1 h2 => by
        have h3 := (Rw.lt hy g h1).2
        simp [Value.ownBlock] at h2
        omega
      have p1 : ∀ y ∈ zs, Apart y.1 (.slice (some ⟨g1, 0, none⟩) (l.length + 1) k1) := fun y hy => far Vr g1 _ _ y (HB1.out.ht.each y hy).1 (by obtain ⟨g, hg, hge⟩ := HA1.out; simp [Value.ownBlock] at hg; omega)
      have p2 : ∀ y ∈ zs, Apart y.1 (.slice (some ⟨g2, 0, none⟩) (l.length + 2) k2) := fun y hy => far V1 g2 _ _ y (HB2.out.ht.each y hy).1 (by obtain ⟨g, hg, hge⟩ := HA2.out; simp [Value.ownBlock] at hg; omega)
      have p3 : ∀ y ∈ zs, Apart y.1 (.slice (some ⟨g3, 0, none⟩) (l.length + 3) k3) := fun y hy => far V2 g3 _ _ y (HB3.out.ht.each y hy).1 (by obtain ⟨g, hg, hge⟩ := HA3.out; simp [Value.ownBlock] at hg; omega)
      have hq' : ts.length = 4 * q := HQ.out
      have htop : l.length ≤ 400 := HTOP.out
      have hmk : ∀ (k : Nat) v n, (ts ++ [((Value.slice p l.length c), l.length), ((Value.slice (some ⟨g1, 0, none⟩) (l.length + 1) k1), l.length + 1), ((Value.slice (some ⟨g2, 0, none⟩) (l.length + 2) k2), l.length + 2), ((Value.slice (some ⟨g3, 0, none⟩) (l.length + 3) k3), l.length + 3)])[k]? = some (v, n) → (V3.alloc (.cells #[.slice p l.length c, .slice (some ⟨g1, 0, none⟩) (l.length + 1) k1, .slice (some ⟨g2, 0, none⟩) (l.length + 2) k2, .slice (some ⟨g3, 0, none⟩) (l.length + 3) k3] 55)).ownsRow B shT.e shT.size v n ((List.replicate n (shT.mark (k / 4))).flatMap shT.enc) := by
        intro k v n hk
        rcases Nat.lt_or_ge k ts.length with h' | h'
        · rw [List.getElem?_append_left h'] at hk
          exact HB5.out.ht.marks k v n hk
        · rw [List.getElem?_append_right h'] at hk
          have hj : k - ts.length = 0 ∨ k - ts.length = 1 ∨ k - ts.length = 2 ∨ k - ts.length = 3 ∨ 4 ≤ k - ts.length := by omega
          rcases hj with hj | hj | hj | hj | hj
          · have e4 : k / 4 = q := by omega
            rw [hj] at hk; simp at hk; obtain ⟨rfl, rfl⟩ := hk; rw [e4]; exact o0
          · have e4 : k / 4 = q := by omega
            rw [hj] at hk; simp at hk; obtain ⟨rfl, rfl⟩ := hk; rw [e4]; exact o1
          · have e4 : k / 4 = q := by omega
            rw [hj] at hk; simp at hk; obtain ⟨rfl, rfl⟩ := hk; rw [e4]; exact o2
          · have e4 : k / 4 = q := by omega
            rw [hj] at hk; simp at hk; obtain ⟨rfl, rfl⟩ := hk; rw [e4]; exact o3
          · rw [List.getElem?_eq_none (by simp; omega)] at hk; cases hk
      have hq3 : ∀ m ∈ ts ++ [((Value.slice p l.length c), l.length), ((Value.slice (some ⟨g1, 0, none⟩) (l.length + 1) k1), l.length + 1), ((Value.slice (some ⟨g2, 0, none⟩) (l.length + 2) k2), l.length + 2), ((Value.slice (some ⟨g3, 0, none⟩) (l.length + 3) k3), l.length + 3)], ∀ y ∈ zs, Apart y.1 m.1 := by
        intro m hm y hy
        rcases List.mem_append.1 hm with h' | h'
        · exact HB5.out.ht.q3 m h' y hy
        · simp at h'
          rcases h' with rfl | rfl | rfl | rfl
          · exact (HQ1.out y hy).1.symm
          · exact p1 y hy
          · exact p2 y hy
          · exact p3 y hy
      have hsz : ∀ m ∈ ts ++ [((Value.slice p l.length c), l.length), ((Value.slice (some ⟨g1, 0, none⟩) (l.length + 1) k1), l.length + 1), ((Value.slice (some ⟨g2, 0, none⟩) (l.length + 2) k2), l.length + 2), ((Value.slice (some ⟨g3, 0, none⟩) (l.length + 3) k3), l.length + 3)], m.2 ≤ shT.top + 3 := by
        intro m hm
        rcases List.mem_append.1 hm with h' | h'
        · exact HB5.out.ht.sizes m h'
        · simp at h'
          rcases h' with rfl | rfl | rfl | rfl <;> (show _ ≤ 400 + 3) <;> simp only <;> omega
      have b5 := HL4.out.grown hga HB4.out.small (by intro k hk; cases hk)
      have b6 := b5.grown HG4.out HB5.out.small (fun k hk => (World.ownsRow.lt HB5.out.ht.words k hk).1)
      have b7 := b6.setCell (p := ⟨bb, 1, none⟩) HB.out.base (.slice (some ⟨gw, 0, none⟩) (ts.length + 4) kw)
      have hown : w4.ownsRow B shT.sl 1 (.slice (some ⟨gw, 0, none⟩) (ts.length + 4) kw) (ts ++ [((Value.slice p l.length c), l.length), ((Value.slice (some ⟨g1, 0, none⟩) (l.length + 1) k1), l.length + 1), ((Value.slice (some ⟨g2, 0, none⟩) (l.length + 2) k2), l.length + 2), ((Value.slice (some ⟨g3, 0, none⟩) (l.length + 3) k3), l.length + 3)]).length ((ts ++ [((Value.slice p l.length c), l.length), ((Value.slice (some ⟨g1, 0, none⟩) (l.length + 1) k1), l.length + 1), ((Value.slice (some ⟨g2, 0, none⟩) (l.length + 2) k2), l.length + 2), ((Value.slice (some ⟨g3, 0, none⟩) (l.length + 3) k3), l.length + 3)]).map (·.1)) := by simpa using HW4.out
      have hH := HB5.out.ht.newWv okT hown HG4.out HA4.out hmk hq3 hsz
      have hO := HB5.out.hw.other HB5.out.ht.words HG4.out (by decide) (by decide)
      have hsm := Nat.le_trans HB5.out.small HG4.out.size
      have hfin := Bq.put (j := 1) (u := .slice (some ⟨gw, 0, none⟩) (ts.length + 4) kw) (HBB4.out.trans HB5.out.blk) rfl HB5.out.base hsm hO hH
      go_end0
      exact ⟨rfl, b7, _, _, by simp; omega, hfin⟩

end Go.Proofs.YtmeiogoodbnkkaaGreat

/- The book is settled, or looked at. -/
namespace Go.Proofs.YtmeiogoodbnkkaaGreat
open Go.RowKit

theorem Bq.clear {w : World} {B bb : Nat} {wv aw ew tv at' et : Value} {ms ts : List (Value × Nat)} {av es bv fs : List Value} {ys : List (Value × Value × List Int)} {zs : List (Value × Value × List Tm)} (h : Bq w B bb wv aw ew ms av es ys tv at' et ts bv fs zs) :
    Bq ((((w.setCell ⟨bb, 2, none⟩ (.slice none 0 0)).setCell ⟨bb, 3, none⟩ (.slice none 0 0)).setCell ⟨bb, 4, none⟩ (.slice none 0 0)).setCell ⟨bb, 5, none⟩ (.slice none 0 0)) B bb wv (.slice none 0 0) (.slice none 0 0) ms [] [] [] tv (.slice none 0 0) (.slice none 0 0) ts [] [] [] := by
  have h1 := heap_setCell_same _ _ 2 _ _ (.slice none 0 0) h.blk
  have h2 := heap_setCell_same _ _ 3 _ _ (.slice none 0 0) h1
  have h3 := heap_setCell_same _ _ 4 _ _ (.slice none 0 0) h2
  have h4 := heap_setCell_same _ _ 5 _ _ (.slice none 0 0) h3
  exact ⟨h4, h.base, by simpa [World.setCell] using h.small, (((h.hw.clear.setB okW h.blk 2 _).setB okW h1 3 _).setB okW h2 4 _).setB okW h3 5 _, (((h.ht.clear.setB okT h.blk 2 _).setB okT h1 3 _).setB okT h2 4 _).setB okT h3 5 _⟩

set_option maxRecDepth 100000 in
set_option maxHeartbeats 4000000 in
theorem settlesQ (B bb q r : Nat) (wv aw ew : Value) (ms : List (Value × Nat)) (ys : List (Value × Value × List Int)) (tv at' et : Value) (ts : List (Value × Nat)) (zs : List (Value × Value × List Tm)) (w : World)
    (hq : ms.length = 4 * q) (hr : ts.length = 4 * r)
    (hb : Bq w B bb wv aw ew ms (ys.map (·.1)) (ys.map (·.2.1)) ys tv at' et ts (zs.map (·.1)) (zs.map (·.2.1)) zs) (hty : ∀ y ∈ ys, Tight y.1) (htz : ∀ y ∈ zs, Tight y.1)
    (hyl : ys.length ≤ 1000) (hzl : zs.length ≤ 1000) (hql : q + ys.length ≤ 2200000000000) (hrl : r + zs.length ≤ 2200000000000) :
    Calls Tryz.prog 7 #[.pointer (some ⟨bb, 0, none⟩)] w fun e w' => e = .returned (.bool true) ∧ Below B w w' ∧ ∃ wv' ms' tv' ts', ms'.length = 4 * (q + ys.length) ∧ ts'.length = 4 * (r + zs.length) ∧ Bq w' B bb wv' (.slice none 0 0) (.slice none 0 0) ms' [] [] [] tv' (.slice none 0 0) (.slice none 0 0) ts' [] [] [] := by
  have HB := hide hb
  have HTY := hide hty
  have HTZ := hide htz
  have HQ := hide hq
  have HR := hide hr
  clear hb hty htz hq hr
  go_enter Tryz.func7, Tryz.ntmps7
  go_upto_region 2 with (go_at_call 22; (with_reducible refine (waitsQ B bb _ _ _ _ _ _ _ _ _ _ _ HB.out hyl hzl).mono ?_); rintro e w1 ⟨rfl, n1, hw1⟩)
  clear hw1
  go_wp2_with fail
  go_loopg [4] ys.length (fun gq s4 wr => ∃ k : Nat, k ≤ ys.length ∧ gq = ys.length - k ∧ s4 = .int .i64 k ∧ Below B w wr ∧ ∃ wv' ms', ms'.length = 4 * (q + k) ∧ Bq wr B bb wv' aw ew ms' (ys.map (·.1)) (ys.map (·.2.1)) (ys.drop k) tv at' et ts (zs.map (·.1)) (zs.map (·.2.1)) zs)
  case atStart => exact ⟨0, Nat.zero_le _, rfl, rfl, below_drewN (Below.refl _ _) _, wv, ms, HQ.out, HB.out.grow (grown_draws _ _)⟩
  case round =>
    obtain ⟨k, hk, hgk, rfl, hbel, wv', ms', hms, hb⟩ := hrel
    rename World => wr
    obtain ⟨c0, c1, c2, c3, c4, c5, cf⟩ := hb.cells rfl
    obtain ⟨pa, ca, ha, hpa⟩ := row_at hb.hw.wait
    subst ha
    simp only [List.length_map] at hpa c2
    rcases Nat.lt_or_ge k ys.length with hlt | hge
    · obtain ⟨ga, hga, d1⟩ := hpa k hlt
      subst hga
      have hy := HTY.out ys[k] (List.getElem_mem hlt)
      have hd : ys.drop k = ys[k] :: ys.drop (k + 1) := List.drop_eq_getElem_cons hlt
      rw [hd] at hb
      obtain ⟨v, x, l, hv⟩ : ∃ v x l, ys[k] = (v, x, l) := ⟨_, _, _, rfl⟩
      rw [hv] at hb hy
      have d2 : wr.cell? ⟨ga, k, none⟩ = some v := by rw [d1]; simp [hlt, hv]
      obtain ⟨p1, cc1, hp1, _⟩ := (hb.hw.each _ (List.mem_cons_self ..)).1.slice
      simp only at hp1
      subst hp1
      have t1 : (k : Int) < (ys.length : Int) := by omega
      have HBB := hide hb
      have HY := hide hy
      have HBEL := hide hbel
      have HMS := hide hms
      have HGK := hide hgk
      clear hb hy hbel d1 hd hv c0 c1 c3 c4 c5 cf hpa hms hgk
      go_wp2_with (go_at_call 23; (with_reducible refine (markWordsQ B bb (q + k) _ _ _ _ _ _ _ _ _ _ _ _ _ _ _ _ _ _ HMS.out HBB.out HY.out (by have := HMS.out; omega)).mono ?_); rintro e w2 ⟨rfl, hb2, wv2, ms2, hms2, hbk2⟩)
      have hgk := HGK.out
      go_roundg (ys.length - (k + 1))
      case measure => omega
      case rel => exact ⟨k + 1, by omega, rfl, by go_num, HBEL.out.trans hb2, wv2, ms2, by omega, hbk2⟩
    · have hke : k = ys.length := by omega
      subst hke
      have hnil : ys.drop ys.length = [] := List.drop_length
      rw [hnil] at hb
      have hend : ¬ (ys.length : Int) < (ys.length : Int) := by omega
      have HBB := hide hb
      have HBEL := hide hbel
      have HMS := hide hms
      clear hb hbel hms hpa c0 c1 c3 c4 c5 cf hgk hge hnil hk
      go_wp2_with fail
      go_loopg [5] zs.length (fun gq s5 wq => ∃ k : Nat, k ≤ zs.length ∧ gq = zs.length - k ∧ s5 = .int .i64 k ∧ Below B w wq ∧ ∃ tv' ts', ts'.length = 4 * (r + k) ∧ Bq wq B bb wv' (.slice pa ys.length ca) ew ms' (ys.map (·.1)) (ys.map (·.2.1)) [] tv' at' et ts' (zs.map (·.1)) (zs.map (·.2.1)) (zs.drop k))
      case atStart => exact ⟨0, Nat.zero_le _, rfl, rfl, HBEL.out, tv, ts, HR.out, by simpa using HBB.out⟩
      case round =>
        clear c2
        obtain ⟨k, hk, hgk, rfl, hbel, tv', ts', hts, hb⟩ := hrel
        rename World => wq
        obtain ⟨c0, c1, c2, c3, c4, c5, cf⟩ := hb.cells rfl
        obtain ⟨pb, cb, ha, hpb⟩ := row_at hb.ht.wait
        subst ha
        simp only [List.length_map] at hpb c4
        rcases Nat.lt_or_ge k zs.length with hlt | hge
        · obtain ⟨gb, hgb, d1⟩ := hpb k hlt
          subst hgb
          have hy := HTZ.out zs[k] (List.getElem_mem hlt)
          have hd : zs.drop k = zs[k] :: zs.drop (k + 1) := List.drop_eq_getElem_cons hlt
          rw [hd] at hb
          obtain ⟨v, x, l, hv⟩ : ∃ v x l, zs[k] = (v, x, l) := ⟨_, _, _, rfl⟩
          rw [hv] at hb hy
          have d2 : wq.cell? ⟨gb, k, none⟩ = some v := by rw [d1]; simp [hlt, hv]
          obtain ⟨p1, cc1, hp1, _⟩ := (hb.ht.each _ (List.mem_cons_self ..)).1.slice
          simp only at hp1
          subst hp1
          have t1 : (k : Int) < (zs.length : Int) := by omega
          have HBB2 := hide hb
          have HY := hide hy
          have HBEL2 := hide hbel
          have HTS := hide hts
          have HGK := hide hgk
          clear hb hy hbel d1 hd hv c0 c1 c2 c3 c5 cf hpb hts hgk
          go_wp2_with (go_at_call 24; (with_reducible refine (markTimesQ B bb (r + k) _ _ _ _ _ _ _ _ _ _ _ _ _ _ _ _ _ _ HTS.out HBB2.out HY.out (by have := HTS.out; omega)).mono ?_); rintro e w2 ⟨rfl, hb2, tv2, ts2, hts2, hbk2⟩)
          have hgk := HGK.out
          go_roundg (zs.length - (k + 1))
          case measure => omega
          case rel => exact ⟨k + 1, by omega, rfl, by go_num, HBEL2.out.trans hb2, tv2, ts2, by omega, hbk2⟩
        · have hke : k = zs.length := by omega
          subst hke
          have hendz : ¬ (zs.length : Int) < (zs.length : Int) := by omega
          have HBC := hide hb.clear
          have HBEL2 := hide hbel
          have HTS := hide hts
          have hbs := hb.base
          clear hb hbel hts hpb hgk hge hk c0 c1
          go_wp2_with (go_at_call 25; (with_reducible refine (readsQ B bb _ _ _ _ _ _ _ _ _ _ _ _ _ _ _ HBC.out (by have := HMS.out; omega) (by have := HTS.out; omega)).mono ?_); rintro e w2 ⟨rfl, n2, rfl⟩)
          go_ret
          refine ⟨rfl, below_drewN ((((HBEL2.out.setCell hbs _).setCell hbs _).setCell hbs _).setCell hbs _) _, _, _, _, _, HMS.out, HTS.out, HBC.out.grow (grown_draws _ _)⟩

set_option maxRecDepth 100000 in
set_option maxHeartbeats 4000000 in
theorem looksQ (B bb q r : Nat) (wv aw ew : Value) (ms : List (Value × Nat)) (ys : List (Value × Value × List Int)) (tv at' et : Value) (ts : List (Value × Nat)) (zs : List (Value × Value × List Tm)) (w : World)
    (hq : ms.length = 4 * q) (hr : ts.length = 4 * r)
    (hb : Bq w B bb wv aw ew ms (ys.map (·.1)) (ys.map (·.2.1)) ys tv at' et ts (zs.map (·.1)) (zs.map (·.2.1)) zs) (hty : ∀ y ∈ ys, Tight y.1) (htz : ∀ y ∈ zs, Tight y.1)
    (hyl : ys.length ≤ 1000) (hzl : zs.length ≤ 1000) (hql : q + ys.length ≤ 2200000000000) (hrl : r + zs.length ≤ 2200000000000) :
    Calls Tryz.prog 21 #[.pointer (some ⟨bb, 0, none⟩)] w fun e w' => e = .returned (.bool true) ∧ Below B w w' ∧
      ((5 < ys.length + zs.length ∧ ∃ wv' ms' tv' ts', ms'.length = 4 * (q + ys.length) ∧ ts'.length = 4 * (r + zs.length) ∧ Bq w' B bb wv' (.slice none 0 0) (.slice none 0 0) ms' [] [] [] tv' (.slice none 0 0) (.slice none 0 0) ts' [] [] []) ∨
       (ys.length + zs.length ≤ 5 ∧ ∃ n, w' = w.drewN n)) := by
  obtain ⟨c0, c1, c2, c3, c4, c5, cf⟩ := hb.cells rfl
  obtain ⟨pa, ca, ha, _⟩ := row_at hb.hw.wait
  obtain ⟨pb, cb, hbb, _⟩ := row_at hb.ht.wait
  subst ha
  subst hbb
  simp only [List.length_map] at c2 c4
  have HB := hide hb
  have HTY := hide hty
  have HTZ := hide htz
  have HQ := hide hq
  have HR := hide hr
  clear hb hty htz hq hr c0 c1 c3 c5 cf
  rcases Nat.lt_or_ge 5 (ys.length + zs.length) with h5 | h5
  · have t1 : (5 : Int) < (ys.length : Int) + (zs.length : Int) := by omega
    have t2 : (ys.length : Int) + (zs.length : Int) > 5 := t1
    go_enter Tryz.func21, Tryz.ntmps21
    go_upto_region 1 with fail
    go_quiet (fail)
    have HBq : Hid (Bq (w.drewN nq) B bb wv _ ew ms (ys.map (·.1)) (ys.map (·.2.1)) ys tv _ et ts (zs.map (·.1)) (zs.map (·.2.1)) zs) := HB.out.grow (grown_draws _ _)
    go_wp2_with (go_at_call 7; (with_reducible refine (settlesQ B bb q r _ _ _ _ _ _ _ _ _ _ _ HQ.out HR.out HBq.out HTY.out HTZ.out hyl hzl hql hrl).mono ?_); rintro e w2 ⟨rfl, hb2, hx2⟩)
    go_ret
    exact ⟨rfl, (below_drewN (Below.refl _ _) _).trans hb2, .inl ⟨h5, hx2⟩⟩
  · have t1 : ¬ (5 : Int) < (ys.length : Int) + (zs.length : Int) := by omega
    have t2 : ¬ (ys.length : Int) + (zs.length : Int) > 5 := t1
    go_enter Tryz.func21, Tryz.ntmps21
    go_upto_region 1 with fail
    go_quiet (fail)
    have HBq : Hid (Bq (w.drewN nq) B bb wv _ ew ms (ys.map (·.1)) (ys.map (·.2.1)) ys tv _ et ts (zs.map (·.1)) (zs.map (·.2.1)) zs) := HB.out.grow (grown_draws _ _)
    go_wp2_with (first
      | (go_at_call 22; (with_reducible refine (waitsQ B bb _ _ _ _ _ _ _ _ _ _ _ HBq.out hyl hzl).mono ?_); rintro e w1 ⟨rfl, n1, hw1⟩; have hb1 := hide (HBq.out.grow (grown_draws (w.drewN nq) n1)); have HW1 := hide hw1; clear hw1)
      | (go_at_call 25; (with_reducible refine (readsQ B bb _ _ _ _ _ _ _ _ _ _ _ _ _ _ _ (HW1.out ▸ hb1.out) (by have := HQ.out; omega) (by have := HR.out; omega)).mono ?_); rintro e w2 ⟨rfl, n2, hw2⟩; have HW2 := hide hw2; clear hw2))
    go_ret
    refine ⟨rfl, ?_, .inr ⟨h5, nq + n1 + n2, ?_⟩⟩
    · rw [HW2.out, HW1.out]; exact below_drewN (below_drewN (below_drewN (Below.refl _ _) _) _) _
    · rw [HW2.out, HW1.out]; simp

end Go.Proofs.YtmeiogoodbnkkaaGreat
