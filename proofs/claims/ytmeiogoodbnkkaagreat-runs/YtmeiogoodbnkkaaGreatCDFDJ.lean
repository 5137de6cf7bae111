/- Several texts in one: DF, DG, DH, DI, DJ. -/
import Derived.Test.YtmeiogoodbnkkaaGreatCBMDE
import Derived.Deep.DeepAppendWide
import Derived.Test.YtmeiogoodbnkkaaGreatCK2Y1
import Derived.Test.YtmeiogoodbnkkaaGreatCPAPI
/- Lists are marked by their owner. -/
namespace Go.Proofs.YtmeiogoodbnkkaaGreat
open Go.RowKit

theorem markStep {α : Type} (l : List α) (m : α) (k : Nat) (h : k < l.length) : (List.replicate k m ++ l.drop k).set k m = List.replicate (k + 1) m ++ l.drop (k + 1) := by
  rw [List.set_append_right _ _ (by simp)]
  simp only [List.length_replicate, Nat.sub_self]
  rw [List.drop_eq_getElem_cons h, List.set_cons_zero, List.replicate_succ', List.append_assoc]
  rfl
theorem markAt {α : Type} (l : List α) (m : α) (k : Nat) (h : k < l.length) : ∃ y, (List.replicate k m ++ l.drop k)[k]? = some y := by
  have : k < (List.replicate k m ++ l.drop k).length := by simp; omega
  exact ⟨_, List.getElem?_eq_getElem this⟩

theorem rep_more {α : Type} (n j : Nat) (m : α) (f : α → List Value) : (List.replicate n m).flatMap f ++ (List.replicate j m).flatMap f = (List.replicate (n + j) m).flatMap f := by
  rw [← List.flatMap_append, List.replicate_append_replicate]
theorem grow_row {a b c : World} {r : Option Nat} (h : a.grownBy b r) (h' : b.grownBy c r) : a.grownBy c r :=
  ⟨h'.os.trans h.os, h'.tape.trans h.tape, h'.output.trans h.output, Nat.le_trans h.size h'.size, fun k hk hne => (h'.block k (Nat.lt_of_lt_of_le hk h.size) hne).trans (h.block k hk hne)⟩

/-- Append onto an owned row, to growslice's own bound. -/
theorem run_append_wide {P : Program} (w : World) (base : Nat) (t ty e : TypeId) (i : TypeInfo) (z : Value) (bytes : Nat) (ht : P.underlying t = some (.slice e)) (hi : P.info? e = some i) (hz : i.zero = some z)
    (hsize : i.size = 1) (hby : i.bytes = bytes) (hzs : z.cells.size = 1)
    (v : Value) (n : Nat) (xs : List Value) (hown : w.ownsRow base e 1 v n xs)
    (a : Addr) (m c : Nat) (news : List Value) (hl : news.length = m * 1) (hnews : ∀ j u, news[j]? = some u → w.cell? (a.add j) = some u) (h1 : ∀ u ∈ news, u.oneCell' = true) (hm : 0 < m)
    (h63 : n + m ≤ maxLen) (hbytes : ((n + m) + (n + m) / 4 + 192) * bytes ≤ 281474976710656) (hbase : base ≤ w.heap.size) :
    ∃ v' w', (Builtin.append_ #[t, t] ty #[v, .slice (some a) m c]).run P w = .ok v' w' ∧ w'.ownsRow base e 1 v' (n + m) (xs ++ news) ∧ w.grownBy w' v.ownBlock ∧ (v'.ownBlock = v.ownBlock ∨ v'.ownBlock = some w.heap.size) := by
  obtain ⟨v', w', hr, h2, h3, _⟩ := run_append_own_wide (P := P) w base t ty e i z 1 bytes ht hi hz hsize hby hzs (by omega) v n xs hown a m c news hl hnews h1 h63 hbytes hbase
  refine ⟨v', w', hr, h2, h3, ?_⟩
  rcases hown.2 with ⟨rfl, rfl⟩ | ⟨g, cap, cur, rfl, hbg, hg, hnc, hcm, hcs, htake⟩
  · have hr2 := run_append_nil (P := P) w t ty e i z ht hi hz a m c news (by rw [hsize]; exact hl) hnews (by omega) (by simp only [maxLen] at h63; omega) (by rw [hby]; have hb := hbytes; simp only [Nat.zero_add] at hb; exact Nat.le_trans (Nat.mul_le_mul_right _ (by omega)) hb)
    rw [hr2] at hr
    simp only [Result.ok.injEq] at hr
    obtain ⟨rfl, _⟩ := hr
    exact .inr rfl
  · by_cases hroom : n + m ≤ cap
    · have hfit : n * i.size + news.length ≤ cur.size := by rw [hsize, hl, hcs]; omega
      have hr2 := run_append_room (P := P) w t ty e i ht hi g n cap cur hg a m c news (by rw [hsize]; exact hl) hnews h1 hroom hfit
      rw [hr2] at hr
      simp only [Result.ok.injEq] at hr
      obtain ⟨rfl, _⟩ := hr
      exact .inl rfl
    · have holds : ∀ j u, xs[j]? = some u → w.cell? ((⟨g, 0, none⟩ : Addr).add j) = some u := hown.cells (g := g) rfl
      have hr2 := run_append_grow (P := P) w t ty e i z ht hi hz ⟨g, 0, none⟩ n cap xs (by rw [hsize]; exact hown.1) holds a m c news (by rw [hsize]; exact hl) hnews (by omega) (by simp only [maxLen] at h63; omega) (growslice_fits_wide (by omega) (by rw [hby]; exact hbytes))
      rw [hr2] at hr
      simp only [Result.ok.injEq] at hr
      obtain ⟨rfl, _⟩ := hr
      exact .inr rfl

theorem wpList_append_wide {P : Program} (w : World) {ops : Array Oper} {rest : List Oper} {o : Oper} {a : Act} {Q : Exit → Act → World → Prop} (hgd : o.guard = none) (s x : Operand) (t : TypeId)
    (ho : o.op = .call { callee := .builtin .append, args := #[s, x], argTypes := #[t, t] })
    (base : Nat) (e : TypeId) (i : TypeInfo) (z : Value) (bytes : Nat) (ht : P.underlying t = some (.slice e)) (hi : P.info? e = some i) (hz : i.zero = some z)
    (hsize : i.size = 1) (hby : i.bytes = bytes) (hzs : z.cells.size = 1)
    (v : Value) (n : Nat) (xs : List Value) (hs : a.eval s = v) (hown : w.ownsRow base e 1 v n xs)
    (ad : Addr) (m c : Nat) (news : List Value) (hx : a.eval x = .slice (some ad) m c) (hl : news.length = m * 1) (hnews : ∀ j u, news[j]? = some u → w.cell? (ad.add j) = some u) (h1 : ∀ u ∈ news, u.oneCell' = true) (hm : 0 < m)
    (h63 : n + m ≤ maxLen) (hbytes : ((n + m) + (n + m) / 4 + 192) * bytes ≤ 281474976710656) (hbase : base ≤ w.heap.size)
    (h : ∀ v' w', w'.ownsRow base e 1 v' (n + m) (xs ++ news) → w.grownBy w' v.ownBlock → (v'.ownBlock = v.ownBlock ∨ v'.ownBlock = some w.heap.size) → wpList P ops Q rest (a.put o.dst v') w') :
    wpList P ops Q (o :: rest) a w := by
  refine wpList_plain hgd fun K hK => ?_
  obtain ⟨v', w', hr, h2, h3, h4⟩ := run_append_wide (P := P) w base t o.type e i z bytes ht hi hz hsize hby hzs v n xs hown ad m c news hl hnews h1 hm h63 hbytes hbase
  unfold Oper.wp execOp
  simp only [ho, resolve, invoke, builtin, Sem.run_bind, Sem.run_pure, Result.andThen_ok, List.map_toArray, List.map_cons, List.map_nil, hs, hx, hr]
  exact hK _ _ (h v' w' h2 h3 h4)

set_option maxRecDepth 100000 in
set_option maxHeartbeats 4000000 in
theorem markWordsQ (B bb q : Nat) (wv aw ew : Value) (ms : List (Value × Nat)) (av es : List Value) (tv at' et : Value) (ts : List (Value × Nat)) (bv fs : List Value) (v x : Value) (l : List Int) (ys : List (Value × Value × List Int)) (zs : List (Value × Value × List Tm)) (w : World)
    (hq : ms.length = 4 * q) (hb : Bq w B bb wv aw ew ms av es ((v, x, l) :: ys) tv at' et ts bv fs zs) (ht : Tight v) (hml : (ms.length : Int) ≤ 9000000000000) :
    Calls Tryz.prog 23 #[.pointer (some ⟨bb, 0, none⟩), v] w fun e w' => e = .returned (.tuple #[]) ∧ Below B w w' ∧ ∃ wv' ms', ms'.length = 4 * (q + 1) ∧ Bq w' B bb wv' aw ew ms' av es ys tv at' et ts bv fs zs := by
  obtain ⟨i0, hi0, hz0, hz1, hz2⟩ := info_parts Tryz.info2
  obtain ⟨j0, hj0, hy0, hy1, hy2⟩ := info_parts Tryz.info23
  obtain ⟨hv, _, hltop⟩ := hb.hw.each _ (List.mem_cons_self ..)
  simp only at hv hltop
  have hl4 : l.length ≤ 400 := Nat.le_trans hltop (by decide)
  obtain ⟨p, c, rfl, _⟩ := hv.slice
  obtain ⟨pw, cw, hw, _⟩ := row_at hb.hw.words
  subst hw
  obtain ⟨c0, c1, _, _, _, _, cf⟩ := hb.cells rfl
  have hq4 : (ms.length : Int) / 4 = (q : Int) := by omega
  have hq0 : (q : Int) ≤ 9000000000000 := by omega
  have HQ := hide hq
  have HB := hide hb
  have HV := hide hv
  have HT := hide ht
  have hbz := (Array.getElem?_eq_some_iff.1 hb.blk).1
  have HTOP := hide hltop
  clear hb hv ht hq hltop
  go_enter Tryz.func23, Tryz.ntmps23
  go_upto_region 1 with (go_at_call 40; refine (word_big _ _ (by omega) (by omega)).mono ?_; rintro e w0 ⟨rfl, hw0⟩; have hw0' := hw0.symm; clear hw0; subst hw0')
  have HB0 := HB
  have HV0 := HV
  have HBW0 : Hid (Below B w w) := Below.refl _ _
  clear c0 c1 cf
  go_wp2_with fail
  go_loopg [5] l.length (fun gq s5 wr => ∃ k : Nat, k ≤ l.length ∧ gq = l.length - k ∧ s5 = .int .i64 k ∧ wr.ownsRow B shW.e shW.size (.slice p l.length c) l.length ((List.replicate k (shW.mark q) ++ l.drop k).flatMap shW.enc) ∧ w.grownBy wr (Value.slice p l.length c).ownBlock)
  case atStart => exact ⟨0, Nat.zero_le _, rfl, rfl, by simpa [Rw] using HV0.out, ⟨rfl, rfl, rfl, Nat.le_refl _, fun _ _ _ => rfl⟩⟩
  case round =>
    obtain ⟨k, hk, hgk, rfl, ho, hg⟩ := hrel
    rename World => Vr
    rcases Nat.lt_or_ge k l.length with hlt | hge
    · obtain ⟨g, cap, e1, hBg, _⟩ := World.ownsRow.form ho (by omega)
      simp only [Value.slice.injEq] at e1
      obtain ⟨rfl, -, rfl⟩ := e1
      obtain ⟨y, hy⟩ := markAt l (shW.mark q) k hlt
      have hkI : (k : Int) < (l.length : Int) := by omega
      have hnm : k < (List.replicate k (shW.mark q) ++ l.drop k).length := by simp; omega
      have y0 : Vr.cell? ⟨g, k, none⟩ = some (.int .i64 y) := by
        rw [ho.cellAt k (by simp; omega)]
        have h9 := gflat_get (f := shW.enc) (k := 1) (fun _ => rfl) _ k 0 _ hy (by omega)
        simpa using h9
      have hff : ∀ j, Vr.frozen? ⟨g, j, none⟩ = false := World.ownsRow.frozenAt ho
      have HO := hide ho
      have HG := hide hg
      have HGK := hide hgk
      have HY := hide hy
      clear ho hg hgk hy hBg
      go_wp2_with fail
      have hgk := HGK.out
      go_roundg (l.length - (k + 1))
      case measure => omega
      case rel =>
        obtain ⟨h1, h2⟩ := owns_sets (shW.enc (shW.mark q)) Vr (k * 1) _ HO.out
        rw [setL_flat (f := shW.enc) (k := 1) (fun _ => rfl) HY.out, markStep l _ k hlt] at h1
        have hgg := grow_row HG.out h2
        refine ⟨k + 1, by omega, rfl, by go_num, by simpa [setsFrom] using h1, by simpa [setsFrom] using hgg⟩
    · have hkl : k = l.length := by omega
      subst hkl
      have hend : ¬ (l.length : Int) < (l.length : Int) := by omega
      have ho1 : Vr.ownsRow B shW.e shW.size (.slice p l.length c) l.length ((List.replicate l.length (shW.mark q)).flatMap shW.enc) := by simpa using ho
      have hblk : Vr.heap[bb]? = w.heap[bb]? := hg.block bb (Array.getElem?_eq_some_iff.1 HB0.out.blk).1 (bbG HV0.out HB0.out.blk okW.eb)
      have hBq : Bq Vr B bb (.slice pw ms.length cw) aw ew ms av es ys tv at' et ts bv fs zs := ⟨hblk.trans HB0.out.blk, HB0.out.base, Nat.le_trans HB0.out.small hg.size, HB0.out.hw.dropHead okW hg, HB0.out.ht.other HV0.out hg (by decide) (by decide)⟩
      have HO1 := hide ho1
      have HB1 := hide hBq
      have HL1 : Hid (Below B w Vr) := hide (HBW0.out.grown hg HB0.out.small (fun k hk => (Rw.lt HV0.out k hk).1))
      have HQ1 := hide (List.pairwise_cons.1 HB.out.hw.q1).1

      clear ho ho1 hblk hBq hg hgk hk hge
      go_upto_region 5 with fail
      go_cut [6] from 9 to 53 (fun s wx => wx.ownsRow B shW.e shW.size s (l.length + 1) ((List.replicate (l.length + 1) (shW.mark q)).flatMap shW.enc) ∧ Vr.grownBy wx none ∧ ∃ g, s.ownBlock = some g ∧ Vr.heap.size ≤ g)
      case first =>
        go_wp2_with (refine wpList_append_freshS _ rfl (.tmp 26) (.tmp 28) 23 rfl B 2 i0 (.int .i64 0) 1 8 Tryz.underlying23 hi0 hz0 hz1 hz2 rfl (by omega) (.slice p l.length c) l.length ((List.replicate l.length (shW.mark q)).flatMap shW.enc) (by rfl) (growG HO1.out (World.grownBy_alloc _ _ none)) HT.out ⟨Vr.heap.size, 0, none⟩ 1 1 [.int .i64 (-1000003 - (q : Int))] (by rfl) (by simp) (newsN (cs := #[.int .i64 (-1000003 - (q : Int))]) rfl) (Rw.ones okW (List.replicate 1 (shW.mark q))) (by omega) (by unfold maxLen; omega) (by omega) (by have := HB1.out.small; simp; omega) ?_; intro v1 w1 hown1 hgr1 hat1; have HN1 : Hid (w1.ownsRow B shW.e shW.size v1 (l.length + 1) ((List.replicate (l.length + 1) (shW.mark q)).flatMap shW.enc)) := hide (by rw [← rep_more]; exact hown1); have HGn := hide (grown_trans (World.grownBy_alloc Vr (.cells #[.int .i64 (-1000003 - (q : Int))] 2) none) hgr1); have HAn := hide hat1; clear hown1 hgr1 hat1)
        go_meet
        exact ⟨HN1.out, HGn.out, _, HAn.out, by simp⟩
      case rest =>
      rename World => V1
      obtain ⟨hn, hg, ha⟩ := hcut
      have HN1 := hide hn
      have HG1 := hide hg
      have HA1 := hide ha
      have HO2 := hide (growG HO1.out hg)
      have HB2 := hide (HB1.out.grow hg)
      have HL2 := hide (HL1.out.grown hg HB1.out.small (by intro k hk; cases hk))
      clear hn hg ha
      go_upto_region 6 with fail
      go_cut [7] from 9 to 53 (fun s wx => wx.ownsRow B shW.e shW.size s (l.length + 2) ((List.replicate (l.length + 2) (shW.mark q)).flatMap shW.enc) ∧ V1.grownBy wx none ∧ ∃ g, s.ownBlock = some g ∧ V1.heap.size ≤ g)
      case first =>
        go_wp2_with (refine wpList_append_freshS _ rfl (.tmp 30) (.tmp 33) 23 rfl B 2 i0 (.int .i64 0) 1 8 Tryz.underlying23 hi0 hz0 hz1 hz2 rfl (by omega) (.slice p l.length c) l.length ((List.replicate l.length (shW.mark q)).flatMap shW.enc) (by rfl) (growG HO2.out (World.grownBy_alloc _ _ none)) HT.out ⟨V1.heap.size, 0, none⟩ 2 2 [.int .i64 (-1000003 - (q : Int)), .int .i64 (-1000003 - (q : Int))] (by rfl) (by simp) (newsN (cs := #[.int .i64 (-1000003 - (q : Int)), .int .i64 (-1000003 - (q : Int))]) rfl) (Rw.ones okW (List.replicate 2 (shW.mark q))) (by omega) (by unfold maxLen; omega) (by omega) (by have := HB2.out.small; simp; omega) ?_; intro v1 w1 hown1 hgr1 hat1; have HN1 : Hid (w1.ownsRow B shW.e shW.size v1 (l.length + 2) ((List.replicate (l.length + 2) (shW.mark q)).flatMap shW.enc)) := hide (by rw [← rep_more]; exact hown1); have HGn := hide (grown_trans (World.grownBy_alloc V1 (.cells #[.int .i64 (-1000003 - (q : Int)), .int .i64 (-1000003 - (q : Int))] 2) none) hgr1); have HAn := hide hat1; clear hown1 hgr1 hat1)
        go_meet
        exact ⟨HN1.out, HGn.out, _, HAn.out, by simp⟩
      case rest =>
      rename World => V2
      obtain ⟨hn, hg, ha⟩ := hcut
      have HN2 := hide hn
      have HG2 := hide hg
      have HA2 := hide ha
      have HO3 := hide (growG HO2.out hg)
      have HB3 := hide (HB2.out.grow hg)
      have HL3 := hide (HL2.out.grown hg HB2.out.small (by intro k hk; cases hk))
      clear hn hg ha
      go_upto_region 7 with fail
      go_cut [8] from 9 to 53 (fun s wx => wx.ownsRow B shW.e shW.size s (l.length + 3) ((List.replicate (l.length + 3) (shW.mark q)).flatMap shW.enc) ∧ V2.grownBy wx none ∧ ∃ g, s.ownBlock = some g ∧ V2.heap.size ≤ g)
      case first =>
        go_wp2_with (refine wpList_append_freshS _ rfl (.tmp 35) (.tmp 39) 23 rfl B 2 i0 (.int .i64 0) 1 8 Tryz.underlying23 hi0 hz0 hz1 hz2 rfl (by omega) (.slice p l.length c) l.length ((List.replicate l.length (shW.mark q)).flatMap shW.enc) (by rfl) (growG HO3.out (World.grownBy_alloc _ _ none)) HT.out ⟨V2.heap.size, 0, none⟩ 3 3 [.int .i64 (-1000003 - (q : Int)), .int .i64 (-1000003 - (q : Int)), .int .i64 (-1000003 - (q : Int))] (by rfl) (by simp) (newsN (cs := #[.int .i64 (-1000003 - (q : Int)), .int .i64 (-1000003 - (q : Int)), .int .i64 (-1000003 - (q : Int))]) rfl) (Rw.ones okW (List.replicate 3 (shW.mark q))) (by omega) (by unfold maxLen; omega) (by omega) (by have := HB3.out.small; simp; omega) ?_; intro v1 w1 hown1 hgr1 hat1; have HN1 : Hid (w1.ownsRow B shW.e shW.size v1 (l.length + 3) ((List.replicate (l.length + 3) (shW.mark q)).flatMap shW.enc)) := hide (by rw [← rep_more]; exact hown1); have HGn := hide (grown_trans (World.grownBy_alloc V2 (.cells #[.int .i64 (-1000003 - (q : Int)), .int .i64 (-1000003 - (q : Int)), .int .i64 (-1000003 - (q : Int))] 2) none) hgr1); have HAn := hide hat1; clear hown1 hgr1 hat1)
        go_meet
        exact ⟨HN1.out, HGn.out, _, HAn.out, by simp⟩
      case rest =>
      rename World => V3
      obtain ⟨hn, hg, ha⟩ := hcut
      have HN3 := hide hn
      have HG3 := hide hg
      have HA3 := hide ha
      have HO4 := hide (growG HO3.out hg)
      have HB4 := hide (HB3.out.grow hg)
      have HL4 := hide (HL3.out.grown hg HB3.out.small (by intro k hk; cases hk))
      clear hn hg ha
      obtain ⟨g1, k1, e1, _, hl1⟩ := World.ownsRow.form HN1.out (by omega)
      obtain ⟨g2, k2, e2, _, hl2⟩ := World.ownsRow.form HN2.out (by omega)
      obtain ⟨g3, k3, e3, _, hl3⟩ := World.ownsRow.form HN3.out (by omega)
      subst e1
      subst e2
      subst e3
      obtain ⟨c0, c1, _, _, _, _, cf⟩ := HB4.out.cells rfl
      have hl43 : l.length ≤ 400 := hl4
      go_wp2_with (refine wpList_append_wide _ rfl (.tmp 45) (.tmp 50) 25 rfl B 23 j0 (.slice none 0 0) 24 Tryz.underlying25 hj0 hy0 hy1 hy2 rfl (.slice pw ms.length cw) ms.length (ms.map (·.1)) (by rfl) (World.ownsRow.alloc HB4.out.hw.words _) ⟨V3.heap.size, 0, none⟩ 4 4 [.slice p l.length c, .slice (some ⟨g1, 0, none⟩) (l.length + 1) k1, .slice (some ⟨g2, 0, none⟩) (l.length + 2) k2, .slice (some ⟨g3, 0, none⟩) (l.length + 3) k3] (by rfl) (by simp) (newsN (cs := #[.slice p l.length c, .slice (some ⟨g1, 0, none⟩) (l.length + 1) k1, .slice (some ⟨g2, 0, none⟩) (l.length + 2) k2, .slice (some ⟨g3, 0, none⟩) (l.length + 3) k3]) rfl) (by intro u hu; simp at hu; rcases hu with rfl | rfl | rfl | rfl <;> rfl) (by omega) (by unfold maxLen; omega) (by omega) (by have := HB4.out.small; simp; omega) ?_; intro wv' w4 hown4 hgr4 hat4; obtain ⟨gw, kw, ew', _, _⟩ := World.ownsRow.form hown4 (by omega); subst ew'; have HB5 := hide (HB4.out.grow (World.grownBy_alloc V3 (.cells #[.slice p l.length c, .slice (some ⟨g1, 0, none⟩) (l.length + 1) k1, .slice (some ⟨g2, 0, none⟩) (l.length + 2) k2, .slice (some ⟨g3, 0, none⟩) (l.length + 3) k3] 23) none)); have HW4 := hide hown4; have HG4 := hide hgr4; have HA4 := hide hat4; have hbb4 := hgr4.block bb (Array.getElem?_eq_some_iff.1 HB5.out.blk).1 (bbG HB5.out.hw.words HB5.out.blk okW.sb); obtain ⟨z0, z1, _, _, _, _, zf⟩ := HB5.out.cells hbb4; have HBB4 := hide hbb4; clear hown4 hgr4 hat4 hbb4)
      have hga := World.grownBy_alloc V3 (.cells #[.slice p l.length c, .slice (some ⟨g1, 0, none⟩) (l.length + 1) k1, .slice (some ⟨g2, 0, none⟩) (l.length + 2) k2, .slice (some ⟨g3, 0, none⟩) (l.length + 3) k3] 23) none
      have o0 := growG HO4.out hga
      have o1 := growG (growG (growG HN1.out HG2.out) HG3.out) hga
      have o2 := growG (growG HN2.out HG3.out) hga
      have o3 := growG HN3.out hga
      have far : ∀ (V : World) (j n : Nat) (k : Nat) (y : Value × Value × List shW.α), Rw shW V B y.1 y.2.2 → V.heap.size ≤ j → Apart y.1 (.slice (some ⟨j, 0, none⟩) n k) := fun V j n k y hy hj g h1 h2 => by
        have h3 := (Rw.lt hy g h1).2
        simp [Value.ownBlock] at h2
        omega
      have p1 : ∀ y ∈ ys, Apart y.1 (.slice (some ⟨g1, 0, none⟩) (l.length + 1) k1) := fun y hy => far Vr g1 _ _ y (HB1.out.hw.each y hy).1 (by obtain ⟨g, hg, hge⟩ := HA1.out; simp [Value.ownBlock] at hg; omega)
      have p2 : ∀ y ∈ ys, Apart y.1 (.slice (some ⟨g2, 0, none⟩) (l.length + 2) k2) := fun y hy => far V1 g2 _ _ y (HB2.out.hw.each y hy).1 (by obtain ⟨g, hg, hge⟩ := HA2.out; simp [Value.ownBlock] at hg; omega)
      have p3 : ∀ y ∈ ys, Apart y.1 (.slice (some ⟨g3, 0, none⟩) (l.length + 3) k3) := fun y hy => far V2 g3 _ _ y (HB3.out.hw.each y hy).1 (by obtain ⟨g, hg, hge⟩ := HA3.out; simp [Value.ownBlock] at hg; omega)
      have hq' : ms.length = 4 * q := HQ.out
      have htop : l.length ≤ 16 := HTOP.out
      have hmk : ∀ (k : Nat) v n, (ms ++ [((Value.slice p l.length c), l.length), ((Value.slice (some ⟨g1, 0, none⟩) (l.length + 1) k1), l.length + 1), ((Value.slice (some ⟨g2, 0, none⟩) (l.length + 2) k2), l.length + 2), ((Value.slice (some ⟨g3, 0, none⟩) (l.length + 3) k3), l.length + 3)])[k]? = some (v, n) → (V3.alloc (.cells #[.slice p l.length c, .slice (some ⟨g1, 0, none⟩) (l.length + 1) k1, .slice (some ⟨g2, 0, none⟩) (l.length + 2) k2, .slice (some ⟨g3, 0, none⟩) (l.length + 3) k3] 23)).ownsRow B shW.e shW.size v n ((List.replicate n (shW.mark (k / 4))).flatMap shW.enc) := by
        intro k v n hk
        rcases Nat.lt_or_ge k ms.length with h' | h'
        · rw [List.getElem?_append_left h'] at hk
          exact HB5.out.hw.marks k v n hk
        · rw [List.getElem?_append_right h'] at hk
          have hj : k - ms.length = 0 ∨ k - ms.length = 1 ∨ k - ms.length = 2 ∨ k - ms.length = 3 ∨ 4 ≤ k - ms.length := by omega
          rcases hj with hj | hj | hj | hj | hj
          · have e4 : k / 4 = q := by omega
            rw [hj] at hk; simp at hk; obtain ⟨rfl, rfl⟩ := hk; rw [e4]; exact o0
          · have e4 : k / 4 = q := by omega
            rw [hj] at hk; simp at hk; obtain ⟨rfl, rfl⟩ := hk; rw [e4]; exact o1
          · have e4 : k / 4 = q := by omega
            rw [hj] at hk; simp at hk; obtain ⟨rfl, rfl⟩ := hk; rw [e4]; exact o2
          · have e4 : k / 4 = q := by omega
            rw [hj] at hk; simp at hk; obtain ⟨rfl, rfl⟩ := hk; rw [e4]; exact o3
          · rw [List.getElem?_eq_none (by simp; omega)] at hk; cases hk
      have hq3 : ∀ m ∈ ms ++ [((Value.slice p l.length c), l.length), ((Value.slice (some ⟨g1, 0, none⟩) (l.length + 1) k1), l.length + 1), ((Value.slice (some ⟨g2, 0, none⟩) (l.length + 2) k2), l.length + 2), ((Value.slice (some ⟨g3, 0, none⟩) (l.length + 3) k3), l.length + 3)], ∀ y ∈ ys, Apart y.1 m.1 := by
        intro m hm y hy
        rcases List.mem_append.1 hm with h' | h'
        · exact HB5.out.hw.q3 m h' y hy
        · simp at h'
          rcases h' with rfl | rfl | rfl | rfl
          · exact (HQ1.out y hy).1.symm
          · exact p1 y hy
          · exact p2 y hy
          · exact p3 y hy
      have hsz : ∀ m ∈ ms ++ [((Value.slice p l.length c), l.length), ((Value.slice (some ⟨g1, 0, none⟩) (l.length + 1) k1), l.length + 1), ((Value.slice (some ⟨g2, 0, none⟩) (l.length + 2) k2), l.length + 2), ((Value.slice (some ⟨g3, 0, none⟩) (l.length + 3) k3), l.length + 3)], m.2 ≤ shW.top + 3 := by
        intro m hm
        rcases List.mem_append.1 hm with h' | h'
        · exact HB5.out.hw.sizes m h'
        · simp at h'
          rcases h' with rfl | rfl | rfl | rfl <;> (show _ ≤ 16 + 3) <;> simp only <;> omega
      have b5 := HL4.out.grown hga HB4.out.small (by intro k hk; cases hk)
      have b6 := b5.grown HG4.out HB5.out.small (fun k hk => (World.ownsRow.lt HB5.out.hw.words k hk).1)
      have b7 := b6.setCell (p := ⟨bb, 0, none⟩) HB.out.base (.slice (some ⟨gw, 0, none⟩) (ms.length + 4) kw)
      have hown : w4.ownsRow B shW.sl 1 (.slice (some ⟨gw, 0, none⟩) (ms.length + 4) kw) (ms ++ [((Value.slice p l.length c), l.length), ((Value.slice (some ⟨g1, 0, none⟩) (l.length + 1) k1), l.length + 1), ((Value.slice (some ⟨g2, 0, none⟩) (l.length + 2) k2), l.length + 2), ((Value.slice (some ⟨g3, 0, none⟩) (l.length + 3) k3), l.length + 3)]).length ((ms ++ [((Value.slice p l.length c), l.length), ((Value.slice (some ⟨g1, 0, none⟩) (l.length + 1) k1), l.length + 1), ((Value.slice (some ⟨g2, 0, none⟩) (l.length + 2) k2), l.length + 2), ((Value.slice (some ⟨g3, 0, none⟩) (l.length + 3) k3), l.length + 3)]).map (·.1)) := by simpa using HW4.out
      have hH := HB5.out.hw.newWv okW hown HG4.out HA4.out hmk hq3 hsz
      have hO := HB5.out.ht.other HB5.out.hw.words HG4.out (by decide) (by decide)
      have hsm := Nat.le_trans HB5.out.small HG4.out.size
      have hfin := Bq.put (j := 0) (u := .slice (some ⟨gw, 0, none⟩) (ms.length + 4) kw) (HBB4.out.trans HB5.out.blk) rfl HB5.out.base hsm hH hO
      go_end0
      exact ⟨rfl, b7, _, _, by simp; omega, hfin⟩

set_option maxRecDepth 100000 in
set_option maxHeartbeats 4000000 in
theorem markTimesQ (B bb q : Nat) (wv aw ew : Value) (ms : List (Value × Nat)) (av es : List Value) (tv at' et : Value) (ts : List (Value × Nat)) (bv fs : List Value) (v x : Value) (l : List Tm) (ys : List (Value × Value × List Int)) (zs : List (Value × Value × List Tm)) (w : World)
    (hq : ts.length = 4 * q) (hb : Bq w B bb wv aw ew ms av es ys tv at' et ts bv fs ((v, x, l) :: zs)) (ht : Tight v) (hml : (ts.length : Int) ≤ 9000000000000) :
    Calls Tryz.prog 24 #[.pointer (some ⟨bb, 0, none⟩), v] w fun e w' => e = .returned (.tuple #[]) ∧ Below B w w' ∧ ∃ wv' ms', ms'.length = 4 * (q + 1) ∧ Bq w' B bb wv aw ew ms av es ys wv' at' et ms' bv fs zs := by
  obtain ⟨i0, hi0, hz0, hz1, hz2⟩ := info_parts Tryz.infoTmB
  obtain ⟨j0, hj0, hy0, hy1, hy2⟩ := info_parts Tryz.info55
  obtain ⟨hv, _, hltop⟩ := hb.ht.each _ (List.mem_cons_self ..)
  simp only at hv hltop
  have hl4 : l.length ≤ 400 := Nat.le_trans hltop (by decide)
  obtain ⟨p, c, rfl, _⟩ := hv.slice
  obtain ⟨pw, cw, hw, _⟩ := row_at hb.ht.words
  subst hw
  obtain ⟨c0, c1, _, _, _, _, cf⟩ := hb.cells rfl
  have hq4 : (ts.length : Int) / 4 = (q : Int) := by omega
  have hq0 : (q : Int) ≤ 9000000000000 := by omega
  have HQ := hide hq
  have HB := hide hb
  have HV := hide hv
  have HT := hide ht
  have hbz := (Array.getElem?_eq_some_iff.1 hb.blk).1
  have HTOP := hide hltop
  clear hb hv ht hq hltop
  go_enter Tryz.func24, Tryz.ntmps24
  go_upto_region 1 with fail
  obtain ⟨w0, hw0⟩ : ∃ w0, w.alloc (.cells #[.int .i64 (-1 - (q : Int)), .int .i64 0, .int .i64 0, .int .i64 0, .int .i64 0] 79) = w0 := ⟨_, rfl⟩
  rw [hw0]
  have hg0 : w.grownBy w0 none := by rw [← hw0]; exact World.grownBy_alloc w (.cells #[.int .i64 (-1 - (q : Int)), .int .i64 0, .int .i64 0, .int .i64 0, .int .i64 0] 79) none
  have gX : w0.heap[w.heap.size]? = some (.cells #[.int .i64 (-1 - (q : Int)), .int .i64 0, .int .i64 0, .int .i64 0, .int .i64 0] 79 (0, 0)) := by rw [← hw0]; exact heap_alloc_new _ _
  have HB0 := hide (HB.out.grow hg0)
  have HV0 : Hid (Rw shT w0 B (.slice p l.length c) l) := HV.out.grow hg0
  have HBW0 : Hid (Below B w w0) := hide ((Below.refl B w).grown hg0 HB.out.small (by intro k hk; cases hk))
  have hnX : (Value.slice p l.length c).ownBlock ≠ some w.heap.size := fun e => by have := (Rw.lt HV.out _ e).2; omega
  have HNX := hide hnX
  have GX := hide gX
  clear hw0 hg0 gX hnX
  clear c0 c1 cf
  go_wp2_with fail
  go_loopg [5] l.length (fun gq s5 wr => ∃ k : Nat, k ≤ l.length ∧ gq = l.length - k ∧ s5 = .int .i64 k ∧ wr.ownsRow B shT.e shT.size (.slice p l.length c) l.length ((List.replicate k (shT.mark q) ++ l.drop k).flatMap shT.enc) ∧ w0.grownBy wr (Value.slice p l.length c).ownBlock ∧ wr.heap[w.heap.size]? = some (.cells #[.int .i64 (-1 - (q : Int)), .int .i64 0, .int .i64 0, .int .i64 0, .int .i64 0] 79 (0, 0)))
  case atStart => exact ⟨0, Nat.zero_le _, rfl, rfl, by simpa [Rw] using HV0.out, ⟨rfl, rfl, rfl, Nat.le_refl _, fun _ _ _ => rfl⟩, GX.out⟩
  case round =>
    obtain ⟨k, hk, hgk, rfl, ho, hg, hgX⟩ := hrel
    rename World => Vr
    rcases Nat.lt_or_ge k l.length with hlt | hge
    · obtain ⟨g, cap, e1, hBg, _⟩ := World.ownsRow.form ho (by omega)
      simp only [Value.slice.injEq] at e1
      obtain ⟨rfl, -, rfl⟩ := e1
      obtain ⟨y, hy⟩ := markAt l (shT.mark q) k hlt
      have hkI : (k : Int) < (l.length : Int) := by omega
      have hnm : k < (List.replicate k (shT.mark q) ++ l.drop k).length := by simp; omega
      have y0 : Vr.cell? ⟨g, k * 5, none⟩ = some (.int .i64 y.number) := by
        rw [ho.cellAt (k * 5) (by show _ < l.length * 5; omega)]
        exact gflat_get (f := tmC) (k := 5) (fun _ => rfl) _ k 0 _ hy (by omega)
      have y1 : Vr.cell? ⟨g, k * 5 + 1, none⟩ = some (.int .i64 y.issue) := by
        rw [ho.cellAt (k * 5 + 1) (by show _ < l.length * 5; omega)]
        exact gflat_get (f := tmC) (k := 5) (fun _ => rfl) _ k 1 _ hy (by omega)
      have y2 : Vr.cell? ⟨g, k * 5 + 2, none⟩ = some (.int .i64 y.read) := by
        rw [ho.cellAt (k * 5 + 2) (by show _ < l.length * 5; omega)]
        exact gflat_get (f := tmC) (k := 5) (fun _ => rfl) _ k 2 _ hy (by omega)
      have y3 : Vr.cell? ⟨g, k * 5 + 3, none⟩ = some (.int .i64 y.done) := by
        rw [ho.cellAt (k * 5 + 3) (by show _ < l.length * 5; omega)]
        exact gflat_get (f := tmC) (k := 5) (fun _ => rfl) _ k 3 _ hy (by omega)
      have y4 : Vr.cell? ⟨g, k * 5 + 4, none⟩ = some (.int .i64 y.write) := by
        rw [ho.cellAt (k * 5 + 4) (by show _ < l.length * 5; omega)]
        exact gflat_get (f := tmC) (k := 5) (fun _ => rfl) _ k 4 _ hy (by omega)
      have x0 : Vr.cell? ⟨w.heap.size, 0, none⟩ = some (.int .i64 (-1 - (q : Int))) := by rw [cell_of_row _ _ _ _ _ _ hgX]; rfl
      have x1 : Vr.cell? ⟨w.heap.size, 1, none⟩ = some (.int .i64 0) := by rw [cell_of_row _ _ _ _ _ _ hgX]; rfl
      have x2 : Vr.cell? ⟨w.heap.size, 2, none⟩ = some (.int .i64 0) := by rw [cell_of_row _ _ _ _ _ _ hgX]; rfl
      have x3 : Vr.cell? ⟨w.heap.size, 3, none⟩ = some (.int .i64 0) := by rw [cell_of_row _ _ _ _ _ _ hgX]; rfl
      have x4 : Vr.cell? ⟨w.heap.size, 4, none⟩ = some (.int .i64 0) := by rw [cell_of_row _ _ _ _ _ _ hgX]; rfl
      have hff : ∀ j, Vr.frozen? ⟨g, j, none⟩ = false := World.ownsRow.frozenAt ho
      have HO := hide ho
      have HG := hide hg
      have HGK := hide hgk
      have HY := hide hy
      have HX := hide hgX
      clear ho hg hgk hy hBg hgX
      go_wp2_with fail
      have hgk := HGK.out
      go_roundg (l.length - (k + 1))
      case measure => omega
      case rel =>
        obtain ⟨h1, h2⟩ := owns_sets (shT.enc (shT.mark q)) Vr (k * 5) _ HO.out
        rw [setL_flat (f := shT.enc) (k := 5) (fun _ => rfl) HY.out, markStep l _ k hlt] at h1
        have hgg := grow_row HG.out h2
        refine ⟨k + 1, by omega, rfl, by go_num, h1, hgg, ?_⟩
        have hne : w.heap.size ≠ g := fun e => HNX.out (by rw [e]; rfl)
        exact (h2.block w.heap.size (Array.getElem?_eq_some_iff.1 HX.out).1 (fun e => hne (Option.some.inj e))).trans HX.out
    · have hkl : k = l.length := by omega
      subst hkl
      have hend : ¬ (l.length : Int) < (l.length : Int) := by omega
      have ho1 : Vr.ownsRow B shT.e shT.size (.slice p l.length c) l.length ((List.replicate l.length (shT.mark q)).flatMap shT.enc) := by simpa using ho
      have hblk : Vr.heap[bb]? = w0.heap[bb]? := hg.block bb (Array.getElem?_eq_some_iff.1 HB0.out.blk).1 (bbG HV0.out HB0.out.blk okT.eb)
      have hBq : Bq Vr B bb wv aw ew ms av es ys (.slice pw ts.length cw) at' et ts bv fs zs := ⟨hblk.trans HB0.out.blk, HB0.out.base, Nat.le_trans HB0.out.small hg.size, HB0.out.hw.other HV0.out hg (by decide) (by decide), HB0.out.ht.dropHead okT hg⟩
      have HO1 := hide ho1
      have HB1 := hide hBq
      have HL1 : Hid (Below B w Vr) := hide (HBW0.out.grown hg HB0.out.small (fun k hk => (Rw.lt HV0.out k hk).1))
      have HQ1 := hide (List.pairwise_cons.1 HB.out.ht.q1).1
      have HX1 := hide hgX
      have x0 : Vr.cell? ⟨w.heap.size, 0, none⟩ = some (.int .i64 (-1 - (q : Int))) := by rw [cell_of_row _ _ _ _ _ _ hgX]; rfl
      have x1 : Vr.cell? ⟨w.heap.size, 1, none⟩ = some (.int .i64 0) := by rw [cell_of_row _ _ _ _ _ _ hgX]; rfl
      have x2 : Vr.cell? ⟨w.heap.size, 2, none⟩ = some (.int .i64 0) := by rw [cell_of_row _ _ _ _ _ _ hgX]; rfl
      have x3 : Vr.cell? ⟨w.heap.size, 3, none⟩ = some (.int .i64 0) := by rw [cell_of_row _ _ _ _ _ _ hgX]; rfl
      have x4 : Vr.cell? ⟨w.heap.size, 4, none⟩ = some (.int .i64 0) := by rw [cell_of_row _ _ _ _ _ _ hgX]; rfl
      clear ho ho1 hblk hBq hg hgk hk hge hgX
      go_upto_region 5 with fail
      go_cut [6] from 9 to 54 (fun s wx => wx.ownsRow B shT.e shT.size s (l.length + 1) ((List.replicate (l.length + 1) (shT.mark q)).flatMap shT.enc) ∧ Vr.grownBy wx none ∧ ∃ g, s.ownBlock = some g ∧ Vr.heap.size ≤ g)
      case first =>
        go_wp2_with (refine wpList_append_freshS _ rfl (.tmp 27) (.tmp 29) 55 rfl B 79 i0 (.agg #[.int .i64 0, .int .i64 0, .int .i64 0, .int .i64 0, .int .i64 0]) 5 40 Tryz.underlying55 hi0 hz0 hz1 hz2 rfl (by omega) (.slice p l.length c) l.length ((List.replicate l.length (shT.mark q)).flatMap shT.enc) (by rfl) (growG HO1.out (World.grownBy_alloc _ _ none)) HT.out ⟨Vr.heap.size, 0, none⟩ 1 1 [.int .i64 (-1 - (q : Int)), .int .i64 0, .int .i64 0, .int .i64 0, .int .i64 0] (by rfl) (by simp) (newsN (cs := #[.int .i64 (-1 - (q : Int)), .int .i64 0, .int .i64 0, .int .i64 0, .int .i64 0]) rfl) (Rw.ones okT (List.replicate 1 (shT.mark q))) (by omega) (by unfold maxLen; omega) (by omega) (by have := HB1.out.small; simp; omega) ?_; intro v1 w1 hown1 hgr1 hat1; have HN1 : Hid (w1.ownsRow B shT.e shT.size v1 (l.length + 1) ((List.replicate (l.length + 1) (shT.mark q)).flatMap shT.enc)) := hide (by rw [← rep_more]; exact hown1); have HGn := hide (grown_trans (World.grownBy_alloc Vr (.cells #[.int .i64 (-1 - (q : Int)), .int .i64 0, .int .i64 0, .int .i64 0, .int .i64 0] 79) none) hgr1); have HAn := hide hat1; clear hown1 hgr1 hat1)
        go_meet
        exact ⟨HN1.out, HGn.out, _, HAn.out, by simp⟩
      case rest =>
      rename World => V1
      obtain ⟨hn, hg, ha⟩ := hcut
      have HN1 := hide hn
      have HG1 := hide hg
      have HA1 := hide ha
      have HO2 := hide (growG HO1.out hg)
      have HB2 := hide (HB1.out.grow hg)
      have HL2 := hide (HL1.out.grown hg HB1.out.small (by intro k hk; cases hk))
      have hX := (hg.block w.heap.size (Array.getElem?_eq_some_iff.1 HX1.out).1 (by simp)).trans HX1.out
      have HX2 := hide hX
      clear x0 x1 x2 x3 x4
      have x0 : V1.cell? ⟨w.heap.size, 0, none⟩ = some (.int .i64 (-1 - (q : Int))) := by rw [cell_of_row _ _ _ _ _ _ hX]; rfl
      have x1 : V1.cell? ⟨w.heap.size, 1, none⟩ = some (.int .i64 0) := by rw [cell_of_row _ _ _ _ _ _ hX]; rfl
      have x2 : V1.cell? ⟨w.heap.size, 2, none⟩ = some (.int .i64 0) := by rw [cell_of_row _ _ _ _ _ _ hX]; rfl
      have x3 : V1.cell? ⟨w.heap.size, 3, none⟩ = some (.int .i64 0) := by rw [cell_of_row _ _ _ _ _ _ hX]; rfl
      have x4 : V1.cell? ⟨w.heap.size, 4, none⟩ = some (.int .i64 0) := by rw [cell_of_row _ _ _ _ _ _ hX]; rfl
      clear hX
      clear hn hg ha
      go_upto_region 6 with fail
      go_cut [7] from 9 to 54 (fun s wx => wx.ownsRow B shT.e shT.size s (l.length + 2) ((List.replicate (l.length + 2) (shT.mark q)).flatMap shT.enc) ∧ V1.grownBy wx none ∧ ∃ g, s.ownBlock = some g ∧ V1.heap.size ≤ g)
      case first =>
        go_wp2_with (refine wpList_append_freshS _ rfl (.tmp 31) (.tmp 34) 55 rfl B 79 i0 (.agg #[.int .i64 0, .int .i64 0, .int .i64 0, .int .i64 0, .int .i64 0]) 5 40 Tryz.underlying55 hi0 hz0 hz1 hz2 rfl (by omega) (.slice p l.length c) l.length ((List.replicate l.length (shT.mark q)).flatMap shT.enc) (by rfl) (growG HO2.out (World.grownBy_alloc _ _ none)) HT.out ⟨V1.heap.size, 0, none⟩ 2 2 [.int .i64 (-1 - (q : Int)), .int .i64 0, .int .i64 0, .int .i64 0, .int .i64 0, .int .i64 (-1 - (q : Int)), .int .i64 0, .int .i64 0, .int .i64 0, .int .i64 0] (by rfl) (by simp) (newsN (cs := #[.int .i64 (-1 - (q : Int)), .int .i64 0, .int .i64 0, .int .i64 0, .int .i64 0, .int .i64 (-1 - (q : Int)), .int .i64 0, .int .i64 0, .int .i64 0, .int .i64 0]) rfl) (Rw.ones okT (List.replicate 2 (shT.mark q))) (by omega) (by unfold maxLen; omega) (by omega) (by have := HB2.out.small; simp; omega) ?_; intro v1 w1 hown1 hgr1 hat1; have HN1 : Hid (w1.ownsRow B shT.e shT.size v1 (l.length + 2) ((List.replicate (l.length + 2) (shT.mark q)).flatMap shT.enc)) := hide (by rw [← rep_more]; exact hown1); have HGn := hide (grown_trans (World.grownBy_alloc V1 (.cells #[.int .i64 (-1 - (q : Int)), .int .i64 0, .int .i64 0, .int .i64 0, .int .i64 0, .int .i64 (-1 - (q : Int)), .int .i64 0, .int .i64 0, .int .i64 0, .int .i64 0] 79) none) hgr1); have HAn := hide hat1; clear hown1 hgr1 hat1)
        go_meet
        exact ⟨HN1.out, HGn.out, _, HAn.out, by simp⟩
      case rest =>
      rename World => V2
      obtain ⟨hn, hg, ha⟩ := hcut
      have HN2 := hide hn
      have HG2 := hide hg
      have HA2 := hide ha
      have HO3 := hide (growG HO2.out hg)
      have HB3 := hide (HB2.out.grow hg)
      have HL3 := hide (HL2.out.grown hg HB2.out.small (by intro k hk; cases hk))
      have hX := (hg.block w.heap.size (Array.getElem?_eq_some_iff.1 HX2.out).1 (by simp)).trans HX2.out
      have HX3 := hide hX
      clear x0 x1 x2 x3 x4
      have x0 : V2.cell? ⟨w.heap.size, 0, none⟩ = some (.int .i64 (-1 - (q : Int))) := by rw [cell_of_row _ _ _ _ _ _ hX]; rfl
      have x1 : V2.cell? ⟨w.heap.size, 1, none⟩ = some (.int .i64 0) := by rw [cell_of_row _ _ _ _ _ _ hX]; rfl
      have x2 : V2.cell? ⟨w.heap.size, 2, none⟩ = some (.int .i64 0) := by rw [cell_of_row _ _ _ _ _ _ hX]; rfl
      have x3 : V2.cell? ⟨w.heap.size, 3, none⟩ = some (.int .i64 0) := by rw [cell_of_row _ _ _ _ _ _ hX]; rfl
      have x4 : V2.cell? ⟨w.heap.size, 4, none⟩ = some (.int .i64 0) := by rw [cell_of_row _ _ _ _ _ _ hX]; rfl
      clear hX
      clear hn hg ha
      go_upto_region 7 with fail
      go_cut [8] from 9 to 54 (fun s wx => wx.ownsRow B shT.e shT.size s (l.length + 3) ((List.replicate (l.length + 3) (shT.mark q)).flatMap shT.enc) ∧ V2.grownBy wx none ∧ ∃ g, s.ownBlock = some g ∧ V2.heap.size ≤ g)
      case first =>
        go_wp2_with (refine wpList_append_freshS _ rfl (.tmp 36) (.tmp 40) 55 rfl B 79 i0 (.agg #[.int .i64 0, .int .i64 0, .int .i64 0, .int .i64 0, .int .i64 0]) 5 40 Tryz.underlying55 hi0 hz0 hz1 hz2 rfl (by omega) (.slice p l.length c) l.length ((List.replicate l.length (shT.mark q)).flatMap shT.enc) (by rfl) (growG HO3.out (World.grownBy_alloc _ _ none)) HT.out ⟨V2.heap.size, 0, none⟩ 3 3 [.int .i64 (-1 - (q : Int)), .int .i64 0, .int .i64 0, .int .i64 0, .int .i64 0, .int .i64 (-1 - (q : Int)), .int .i64 0, .int .i64 0, .int .i64 0, .int .i64 0, .int .i64 (-1 - (q : Int)), .int .i64 0, .int .i64 0, .int .i64 0, .int .i64 0] (by rfl) (by simp) (newsN (cs := #[.int .i64 (-1 - (q : Int)), .int .i64 0, .int .i64 0, .int .i64 0, .int .i64 0, .int .i64 (-1 - (q : Int)), .int .i64 0, .int .i64 0, .int .i64 0, .int .i64 0, .int .i64 (-1 - (q : Int)), .int .i64 0, .int .i64 0, .int .i64 0, .int .i64 0]) rfl) (Rw.ones okT (List.replicate 3 (shT.mark q))) (by omega) (by unfold maxLen; omega) (by omega) (by have := HB3.out.small; simp; omega) ?_; intro v1 w1 hown1 hgr1 hat1; have HN1 : Hid (w1.ownsRow B shT.e shT.size v1 (l.length + 3) ((List.replicate (l.length + 3) (shT.mark q)).flatMap shT.enc)) := hide (by rw [← rep_more]; exact hown1); have HGn := hide (grown_trans (World.grownBy_alloc V2 (.cells #[.int .i64 (-1 - (q : Int)), .int .i64 0, .int .i64 0, .int .i64 0, .int .i64 0, .int .i64 (-1 - (q : Int)), .int .i64 0, .int .i64 0, .int .i64 0, .int .i64 0, .int .i64 (-1 - (q : Int)), .int .i64 0, .int .i64 0, .int .i64 0, .int .i64 0] 79) none) hgr1); have HAn := hide hat1; clear hown1 hgr1 hat1)
        go_meet
        exact ⟨HN1.out, HGn.out, _, HAn.out, by simp⟩
      case rest =>
      rename World => V3
      obtain ⟨hn, hg, ha⟩ := hcut
      have HN3 := hide hn
      have HG3 := hide hg
      have HA3 := hide ha
      have HO4 := hide (growG HO3.out hg)
      have HB4 := hide (HB3.out.grow hg)
      have HL4 := hide (HL3.out.grown hg HB3.out.small (by intro k hk; cases hk))
      have hX := (hg.block w.heap.size (Array.getElem?_eq_some_iff.1 HX3.out).1 (by simp)).trans HX3.out
      have HX4 := hide hX
      clear x0 x1 x2 x3 x4
      have x0 : V3.cell? ⟨w.heap.size, 0, none⟩ = some (.int .i64 (-1 - (q : Int))) := by rw [cell_of_row _ _ _ _ _ _ hX]; rfl
      have x1 : V3.cell? ⟨w.heap.size, 1, none⟩ = some (.int .i64 0) := by rw [cell_of_row _ _ _ _ _ _ hX]; rfl
      have x2 : V3.cell? ⟨w.heap.size, 2, none⟩ = some (.int .i64 0) := by rw [cell_of_row _ _ _ _ _ _ hX]; rfl
      have x3 : V3.cell? ⟨w.heap.size, 3, none⟩ = some (.int .i64 0) := by rw [cell_of_row _ _ _ _ _ _ hX]; rfl
      have x4 : V3.cell? ⟨w.heap.size, 4, none⟩ = some (.int .i64 0) := by rw [cell_of_row _ _ _ _ _ _ hX]; rfl
      clear hX
      clear hn hg ha
      obtain ⟨g1, k1, e1, _, hl1⟩ := World.ownsRow.form HN1.out (by omega)
      obtain ⟨g2, k2, e2, _, hl2⟩ := World.ownsRow.form HN2.out (by omega)
      obtain ⟨g3, k3, e3, _, hl3⟩ := World.ownsRow.form HN3.out (by omega)
      subst e1
      subst e2
      subst e3
      obtain ⟨c0, c1, _, _, _, _, cf⟩ := HB4.out.cells rfl
      have hl43 : l.length ≤ 400 := hl4
      go_wp2_with (refine wpList_append_wide _ rfl (.tmp 46) (.tmp 51) 26 rfl B 55 j0 (.slice none 0 0) 24 Tryz.underlying26 hj0 hy0 hy1 hy2 rfl (.slice pw ts.length cw) ts.length (ts.map (·.1)) (by rfl) (World.ownsRow.alloc HB4.out.ht.words _) ⟨V3.heap.size, 0, none⟩ 4 4 [.slice p l.length c, .slice (some ⟨g1, 0, none⟩) (l.length + 1) k1, .slice (some ⟨g2, 0, none⟩) (l.length + 2) k2, .slice (some ⟨g3, 0, none⟩) (l.length + 3) k3] (by rfl) (by simp) (newsN (cs := #[.slice p l.length c, .slice (some ⟨g1, 0, none⟩) (l.length + 1) k1, .slice (some ⟨g2, 0, none⟩) (l.length + 2) k2, .slice (some ⟨g3, 0, none⟩) (l.length + 3) k3]) rfl) (by intro u hu; simp at hu; rcases hu with rfl | rfl | rfl | rfl <;> rfl) (by omega) (by unfold maxLen; omega) (by omega) (by have := HB4.out.small; simp; omega) ?_; intro wv' w4 hown4 hgr4 hat4; obtain ⟨gw, kw, ew', _, _⟩ := World.ownsRow.form hown4 (by omega); subst ew'; have HB5 := hide (HB4.out.grow (World.grownBy_alloc V3 (.cells #[.slice p l.length c, .slice (some ⟨g1, 0, none⟩) (l.length + 1) k1, .slice (some ⟨g2, 0, none⟩) (l.length + 2) k2, .slice (some ⟨g3, 0, none⟩) (l.length + 3) k3] 55) none)); have HW4 := hide hown4; have HG4 := hide hgr4; have HA4 := hide hat4; have hbb4 := hgr4.block bb (Array.getElem?_eq_some_iff.1 HB5.out.blk).1 (bbG HB5.out.ht.words HB5.out.blk okT.sb); obtain ⟨z0, z1, _, _, _, _, zf⟩ := HB5.out.cells hbb4; have HBB4 := hide hbb4; clear hown4 hgr4 hat4 hbb4)
      have hga := World.grownBy_alloc V3 (.cells #[.slice p l.length c, .slice (some ⟨g1, 0, none⟩) (l.length + 1) k1, .slice (some ⟨g2, 0, none⟩) (l.length + 2) k2, .slice (some ⟨g3, 0, none⟩) (l.length + 3) k3] 55) none
      have o0 := growG HO4.out hga
      have o1 := growG (growG (growG HN1.out HG2.out) HG3.out) hga
      have o2 := growG (growG HN2.out HG3.out) hga
      have o3 := growG HN3.out hga
      have far : ∀ (V : World) (j n : Nat) (k : Nat) (y : Value × Value × List shT.α), Rw shT V B y.1 y.2.2 → V.heap.size ≤ j → Apart y.1 (.slice (some ⟨j, 0, none⟩) n k) := fun V j n k y hy hj g h1 h2 => by
        have h3 := (Rw.lt hy g h1).2
        simp [Value.ownBlock] at h2
        omega
      have p1 : ∀ y ∈ zs, Apart y.1 (.slice (some ⟨g1, 0, none⟩) (l.length + 1) k1) := fun y hy => far Vr g1 _ _ y (HB1.out.ht.each y hy).1 (by obtain ⟨g, hg, hge⟩ := HA1.out; simp [Value.ownBlock] at hg; omega)
      have p2 : ∀ y ∈ zs, Apart y.1 (.slice (some ⟨g2, 0, none⟩) (l.length + 2) k2) := fun y hy => far V1 g2 _ _ y (HB2.out.ht.each y hy).1 (by obtain ⟨g, hg, hge⟩ := HA2.out; simp [Value.ownBlock] at hg; omega)
      have p3 : ∀ y ∈ zs, Apart y.1 (.slice (some ⟨g3, 0, none⟩) (l.length + 3) k3) := fun y hy => far V2 g3 _ _ y (HB3.out.ht.each y hy).1 (by obtain ⟨g, hg, hge⟩ := HA3.out; simp [Value.ownBlock] at hg; omega)
      have hq' : ts.length = 4 * q := HQ.out
      have htop : l.length ≤ 400 := HTOP.out
      have hmk : ∀ (k : Nat) v n, (ts ++ [((Value.slice p l.length c), l.length), ((Value.slice (some ⟨g1, 0, none⟩) (l.length + 1) k1), l.length + 1), ((Value.slice (some ⟨g2, 0, none⟩) (l.length + 2) k2), l.length + 2), ((Value.slice (some ⟨g3, 0, none⟩) (l.length + 3) k3), l.length + 3)])[k]? = some (v, n) → (V3.alloc (.cells #[.slice p l.length c, .slice (some ⟨g1, 0, none⟩) (l.length + 1) k1, .slice (some ⟨g2, 0, none⟩) (l.length + 2) k2, .slice (some ⟨g3, 0, none⟩) (l.length + 3) k3] 55)).ownsRow B shT.e shT.size v n ((List.replicate n (shT.mark (k / 4))).flatMap shT.enc) := by
        intro k v n hk
        rcases Nat.lt_or_ge k ts.length with h' | h'
        · rw [List.getElem?_append_left h'] at hk
          exact HB5.out.ht.marks k v n hk
        · rw [List.getElem?_append_right h'] at hk
          have hj : k - ts.length = 0 ∨ k - ts.length = 1 ∨ k - ts.length = 2 ∨ k - ts.length = 3 ∨ 4 ≤ k - ts.length := by omega
          rcases hj with hj | hj | hj | hj | hj
          · have e4 : k / 4 = q := by omega
            rw [hj] at hk; simp at hk; obtain ⟨rfl, rfl⟩ := hk; rw [e4]; exact o0
          · have e4 : k / 4 = q := by omega
            rw [hj] at hk; simp at hk; obtain ⟨rfl, rfl⟩ := hk; rw [e4]; exact o1
          · have e4 : k / 4 = q := by omega
            rw [hj] at hk; simp at hk; obtain ⟨rfl, rfl⟩ := hk; rw [e4]; exact o2
          · have e4 : k / 4 = q := by omega
            rw [hj] at hk; simp at hk; obtain ⟨rfl, rfl⟩ := hk; rw [e4]; exact o3
          · rw [List.getElem?_eq_none (by simp; omega)] at hk; cases hk
      have hq3 : ∀ m ∈ ts ++ [((Value.slice p l.length c), l.length), ((Value.slice (some ⟨g1, 0, none⟩) (l.length + 1) k1), l.length + 1), ((Value.slice (some ⟨g2, 0, none⟩) (l.length + 2) k2), l.length + 2), ((Value.slice (some ⟨g3, 0, none⟩) (l.length + 3) k3), l.length + 3)], ∀ y ∈ zs, Apart y.1 m.1 := by
        intro m hm y hy
        rcases List.mem_append.1 hm with h' | h'
        · exact HB5.out.ht.q3 m h' y hy
        · simp at h'
          rcases h' with rfl | rfl | rfl | rfl
          · exact (HQ1.out y hy).1.symm
          · exact p1 y hy
          · exact p2 y hy
          · exact p3 y hy
      have hsz : ∀ m ∈ ts ++ [((Value.slice p l.length c), l.length), ((Value.slice (some ⟨g1, 0, none⟩) (l.length + 1) k1), l.length + 1), ((Value.slice (some ⟨g2, 0, none⟩) (l.length + 2) k2), l.length + 2), ((Value.slice (some ⟨g3, 0, none⟩) (l.length + 3) k3), l.length + 3)], m.2 ≤ shT.top + 3 := by
        intro m hm
        rcases List.mem_append.1 hm with h' | h'
        · exact HB5.out.ht.sizes m h'
        · simp at h'
          rcases h' with rfl | rfl | rfl | rfl <;> (show _ ≤ 400 + 3) <;> simp only <;> omega
      have b5 := HL4.out.grown hga HB4.out.small (by intro k hk; cases hk)
      have b6 := b5.grown HG4.out HB5.out.small (fun k hk => (World.ownsRow.lt HB5.out.ht.words k hk).1)
      have b7 := b6.setCell (p := ⟨bb, 1, none⟩) HB.out.base (.slice (some ⟨gw, 0, none⟩) (ts.length + 4) kw)
      have hown : w4.ownsRow B shT.sl 1 (.slice (some ⟨gw, 0, none⟩) (ts.length + 4) kw) (ts ++ [((Value.slice p l.length c), l.length), ((Value.slice (some ⟨g1, 0, none⟩) (l.length + 1) k1), l.length + 1), ((Value.slice (some ⟨g2, 0, none⟩) (l.length + 2) k2), l.length + 2), ((Value.slice (some ⟨g3, 0, none⟩) (l.length + 3) k3), l.length + 3)]).length ((ts ++ [((Value.slice p l.length c), l.length), ((Value.slice (some ⟨g1, 0, none⟩) (l.length + 1) k1), l.length + 1), ((Value.slice (some ⟨g2, 0, none⟩) (l.length + 2) k2), l.length + 2), ((Value.slice (some ⟨g3, 0, none⟩) (l.length + 3) k3), l.length + 3)]).map (·.1)) := by simpa using HW4.out
      have hH := HB5.out.ht.newWv okT hown HG4.out HA4.out hmk hq3 hsz
      have hO := HB5.out.hw.other HB5.out.ht.words HG4.out (by decide) (by decide)
      have hsm := Nat.le_trans HB5.out.small HG4.out.size
      have hfin := Bq.put (j := 1) (u := .slice (some ⟨gw, 0, none⟩) (ts.length + 4) kw) (HBB4.out.trans HB5.out.blk) rfl HB5.out.base hsm hO hH
      go_end0
      exact ⟨rfl, b7, _, _, by simp; omega, hfin⟩

end Go.Proofs.YtmeiogoodbnkkaaGreat

/- The book is settled, or looked at. -/
namespace Go.Proofs.YtmeiogoodbnkkaaGreat
open Go.RowKit

theorem Bq.clear {w : World} {B bb : Nat} {wv aw ew tv at' et : Value} {ms ts : List (Value × Nat)} {av es bv fs : List Value} {ys : List (Value × Value × List Int)} {zs : List (Value × Value × List Tm)} (h : Bq w B bb wv aw ew ms av es ys tv at' et ts bv fs zs) :
    Bq ((((w.setCell ⟨bb, 2, none⟩ (.slice none 0 0)).setCell ⟨bb, 3, none⟩ (.slice none 0 0)).setCell ⟨bb, 4, none⟩ (.slice none 0 0)).setCell ⟨bb, 5, none⟩ (.slice none 0 0)) B bb wv (.slice none 0 0) (.slice none 0 0) ms [] [] [] tv (.slice none 0 0) (.slice none 0 0) ts [] [] [] := by
  have h1 := heap_setCell_same _ _ 2 _ _ (.slice none 0 0) h.blk
  have h2 := heap_setCell_same _ _ 3 _ _ (.slice none 0 0) h1
  have h3 := heap_setCell_same _ _ 4 _ _ (.slice none 0 0) h2
  have h4 := heap_setCell_same _ _ 5 _ _ (.slice none 0 0) h3
  exact ⟨h4, h.base, by simpa [World.setCell] using h.small, (((h.hw.clear.setB okW h.blk 2 _).setB okW h1 3 _).setB okW h2 4 _).setB okW h3 5 _, (((h.ht.clear.setB okT h.blk 2 _).setB okT h1 3 _).setB okT h2 4 _).setB okT h3 5 _⟩

set_option maxRecDepth 100000 in
set_option maxHeartbeats 4000000 in
theorem settlesQ (B bb q r : Nat) (wv aw ew : Value) (ms : List (Value × Nat)) (ys : List (Value × Value × List Int)) (tv at' et : Value) (ts : List (Value × Nat)) (zs : List (Value × Value × List Tm)) (w : World)
    (hq : ms.length = 4 * q) (hr : ts.length = 4 * r)
    (hb : Bq w B bb wv aw ew ms (ys.map (·.1)) (ys.map (·.2.1)) ys tv at' et ts (zs.map (·.1)) (zs.map (·.2.1)) zs) (hty : ∀ y ∈ ys, Tight y.1) (htz : ∀ y ∈ zs, Tight y.1)
    (hyl : ys.length ≤ 1000) (hzl : zs.length ≤ 1000) (hql : q + ys.length ≤ 2200000000000) (hrl : r + zs.length ≤ 2200000000000) :
    Calls Tryz.prog 7 #[.pointer (some ⟨bb, 0, none⟩)] w fun e w' => e = .returned (.bool true) ∧ Below B w w' ∧ ∃ wv' ms' tv' ts', ms'.length = 4 * (q + ys.length) ∧ ts'.length = 4 * (r + zs.length) ∧ Bq w' B bb wv' (.slice none 0 0) (.slice none 0 0) ms' [] [] [] tv' (.slice none 0 0) (.slice none 0 0) ts' [] [] [] := by
  have HB := hide hb
  have HTY := hide hty
  have HTZ := hide htz
  have HQ := hide hq
  have HR := hide hr
  clear hb hty htz hq hr
  go_enter Tryz.func7, Tryz.ntmps7
  go_upto_region 2 with (go_at_call 22; (with_reducible refine (waitsQ B bb _ _ _ _ _ _ _ _ _ _ _ HB.out hyl hzl).mono ?_); rintro e w1 ⟨rfl, n1, hw1⟩)
  clear hw1
  go_wp2_with fail
  go_loopg [4] ys.length (fun gq s4 wr => ∃ k : Nat, k ≤ ys.length ∧ gq = ys.length - k ∧ s4 = .int .i64 k ∧ Below B w wr ∧ ∃ wv' ms', ms'.length = 4 * (q + k) ∧ Bq wr B bb wv' aw ew ms' (ys.map (·.1)) (ys.map (·.2.1)) (ys.drop k) tv at' et ts (zs.map (·.1)) (zs.map (·.2.1)) zs)
  case atStart => exact ⟨0, Nat.zero_le _, rfl, rfl, below_drewN (Below.refl _ _) _, wv, ms, HQ.out, HB.out.grow (grown_draws _ _)⟩
  case round =>
    obtain ⟨k, hk, hgk, rfl, hbel, wv', ms', hms, hb⟩ := hrel
    rename World => wr
    obtain ⟨c0, c1, c2, c3, c4, c5, cf⟩ := hb.cells rfl
    obtain ⟨pa, ca, ha, hpa⟩ := row_at hb.hw.wait
    subst ha
    simp only [List.length_map] at hpa c2
    rcases Nat.lt_or_ge k ys.length with hlt | hge
    · obtain ⟨ga, hga, d1⟩ := hpa k hlt
      subst hga
      have hy := HTY.out ys[k] (List.getElem_mem hlt)
      have hd : ys.drop k = ys[k] :: ys.drop (k + 1) := List.drop_eq_getElem_cons hlt
      rw [hd] at hb
      obtain ⟨v, x, l, hv⟩ : ∃ v x l, ys[k] = (v, x, l) := ⟨_, _, _, rfl⟩
      rw [hv] at hb hy
      have d2 : wr.cell? ⟨ga, k, none⟩ = some v := by rw [d1]; simp [hlt, hv]
      obtain ⟨p1, cc1, hp1, _⟩ := (hb.hw.each _ (List.mem_cons_self ..)).1.slice
      simp only at hp1
      subst hp1
      have t1 : (k : Int) < (ys.length : Int) := by omega
      have HBB := hide hb
      have HY := hide hy
      have HBEL := hide hbel
      have HMS := hide hms
      have HGK := hide hgk
      clear hb hy hbel d1 hd hv c0 c1 c3 c4 c5 cf hpa hms hgk
      go_wp2_with (go_at_call 23; (with_reducible refine (markWordsQ B bb (q + k) _ _ _ _ _ _ _ _ _ _ _ _ _ _ _ _ _ _ HMS.out HBB.out HY.out (by have := HMS.out; omega)).mono ?_); rintro e w2 ⟨rfl, hb2, wv2, ms2, hms2, hbk2⟩)
      have hgk := HGK.out
      go_roundg (ys.length - (k + 1))
      case measure => omega
      case rel => exact ⟨k + 1, by omega, rfl, by go_num, HBEL.out.trans hb2, wv2, ms2, by omega, hbk2⟩
    · have hke : k = ys.length := by omega
      subst hke
      have hnil : ys.drop ys.length = [] := List.drop_length
      rw [hnil] at hb
      have hend : ¬ (ys.length : Int) < (ys.length : Int) := by omega
      have HBB := hide hb
      have HBEL := hide hbel
      have HMS := hide hms
      clear hb hbel hms hpa c0 c1 c3 c4 c5 cf hgk hge hnil hk
      go_wp2_with fail
      go_loopg [5] zs.length (fun gq s5 wq => ∃ k : Nat, k ≤ zs.length ∧ gq = zs.length - k ∧ s5 = .int .i64 k ∧ Below B w wq ∧ ∃ tv' ts', ts'.length = 4 * (r + k) ∧ Bq wq B bb wv' (.slice pa ys.length ca) ew ms' (ys.map (·.1)) (ys.map (·.2.1)) [] tv' at' et ts' (zs.map (·.1)) (zs.map (·.2.1)) (zs.drop k))
      case atStart => exact ⟨0, Nat.zero_le _, rfl, rfl, HBEL.out, tv, ts, HR.out, by simpa using HBB.out⟩
      case round =>
        clear c2
        obtain ⟨k, hk, hgk, rfl, hbel, tv', ts', hts, hb⟩ := hrel
        rename World => wq
        obtain ⟨c0, c1, c2, c3, c4, c5, cf⟩ := hb.cells rfl
        obtain ⟨pb, cb, ha, hpb⟩ := row_at hb.ht.wait
        subst ha
        simp only [List.length_map] at hpb c4
        rcases Nat.lt_or_ge k zs.length with hlt | hge
        · obtain ⟨gb, hgb, d1⟩ := hpb k hlt
          subst hgb
          have hy := HTZ.out zs[k] (List.getElem_mem hlt)
          have hd : zs.drop k = zs[k] :: zs.drop (k + 1) := List.drop_eq_getElem_cons hlt
          rw [hd] at hb
          obtain ⟨v, x, l, hv⟩ : ∃ v x l, zs[k] = (v, x, l) := ⟨_, _, _, rfl⟩
          rw [hv] at hb hy
          have d2 : wq.cell? ⟨gb, k, none⟩ = some v := by rw [d1]; simp [hlt, hv]
          obtain ⟨p1, cc1, hp1, _⟩ := (hb.ht.each _ (List.mem_cons_self ..)).1.slice
          simp only at hp1
          subst hp1
          have t1 : (k : Int) < (zs.length : Int) := by omega
          have HBB2 := hide hb
          have HY := hide hy
          have HBEL2 := hide hbel
          have HTS := hide hts
          have HGK := hide hgk
          clear hb hy hbel d1 hd hv c0 c1 c2 c3 c5 cf hpb hts hgk
          go_wp2_with (go_at_call 24; (with_reducible refine (markTimesQ B bb (r + k) _ _ _ _ _ _ _ _ _ _ _ _ _ _ _ _ _ _ HTS.out HBB2.out HY.out (by have := HTS.out; omega)).mono ?_); rintro e w2 ⟨rfl, hb2, tv2, ts2, hts2, hbk2⟩)
          have hgk := HGK.out
          go_roundg (zs.length - (k + 1))
          case measure => omega
          case rel => exact ⟨k + 1, by omega, rfl, by go_num, HBEL2.out.trans hb2, tv2, ts2, by omega, hbk2⟩
        · have hke : k = zs.length := by omega
          subst hke
          have hendz : ¬ (zs.length : Int) < (zs.length : Int) := by omega
          have HBC := hide hb.clear
          have HBEL2 := hide hbel
          have HTS := hide hts
          have hbs := hb.base
          clear hb hbel hts hpb hgk hge hk c0 c1
          go_wp2_with (go_at_call 25; (with_reducible refine (readsQ B bb _ _ _ _ _ _ _ _ _ _ _ _ _ _ _ HBC.out (by have := HMS.out; omega) (by have := HTS.out; omega)).mono ?_); rintro e w2 ⟨rfl, n2, rfl⟩)
          go_ret
          refine ⟨rfl, below_drewN ((((HBEL2.out.setCell hbs _).setCell hbs _).setCell hbs _).setCell hbs _) _, _, _, _, _, HMS.out, HTS.out, HBC.out.grow (grown_draws _ _)⟩

set_option maxRecDepth 100000 in
set_option maxHeartbeats 4000000 in
theorem looksQ (B bb q r : Nat) (wv aw ew : Value) (ms : List (Value × Nat)) (ys : List (Value × Value × List Int)) (tv at' et : Value) (ts : List (Value × Nat)) (zs : List (Value × Value × List Tm)) (w : World)
    (hq : ms.length = 4 * q) (hr : ts.length = 4 * r)
    (hb : Bq w B bb wv aw ew ms (ys.map (·.1)) (ys.map (·.2.1)) ys tv at' et ts (zs.map (·.1)) (zs.map (·.2.1)) zs) (hty : ∀ y ∈ ys, Tight y.1) (htz : ∀ y ∈ zs, Tight y.1)
    (hyl : ys.length ≤ 1000) (hzl : zs.length ≤ 1000) (hql : q + ys.length ≤ 2200000000000) (hrl : r + zs.length ≤ 2200000000000) :
    Calls Tryz.prog 21 #[.pointer (some ⟨bb, 0, none⟩)] w fun e w' => e = .returned (.bool true) ∧ Below B w w' ∧
      ((5 < ys.length + zs.length ∧ ∃ wv' ms' tv' ts', ms'.length = 4 * (q + ys.length) ∧ ts'.length = 4 * (r + zs.length) ∧ Bq w' B bb wv' (.slice none 0 0) (.slice none 0 0) ms' [] [] [] tv' (.slice none 0 0) (.slice none 0 0) ts' [] [] []) ∨
       (ys.length + zs.length ≤ 5 ∧ ∃ n, w' = w.drewN n)) := by
  obtain ⟨c0, c1, c2, c3, c4, c5, cf⟩ := hb.cells rfl
  obtain ⟨pa, ca, ha, _⟩ := row_at hb.hw.wait
  obtain ⟨pb, cb, hbb, _⟩ := row_at hb.ht.wait
  subst ha
  subst hbb
  simp only [List.length_map] at c2 c4
  have HB := hide hb
  have HTY := hide hty
  have HTZ := hide htz
  have HQ := hide hq
  have HR := hide hr
  clear hb hty htz hq hr c0 c1 c3 c5 cf
  rcases Nat.lt_or_ge 5 (ys.length + zs.length) with h5 | h5
  · have t1 : (5 : Int) < (ys.length : Int) + (zs.length : Int) := by omega
    have t2 : (ys.length : Int) + (zs.length : Int) > 5 := t1
    go_enter Tryz.func21, Tryz.ntmps21
    go_upto_region 1 with fail
    go_quiet (fail)
    have HBq : Hid (Bq (w.drewN nq) B bb wv _ ew ms (ys.map (·.1)) (ys.map (·.2.1)) ys tv _ et ts (zs.map (·.1)) (zs.map (·.2.1)) zs) := HB.out.grow (grown_draws _ _)
    go_wp2_with (go_at_call 7; (with_reducible refine (settlesQ B bb q r _ _ _ _ _ _ _ _ _ _ _ HQ.out HR.out HBq.out HTY.out HTZ.out hyl hzl hql hrl).mono ?_); rintro e w2 ⟨rfl, hb2, hx2⟩)
    go_ret
    exact ⟨rfl, (below_drewN (Below.refl _ _) _).trans hb2, .inl ⟨h5, hx2⟩⟩
  · have t1 : ¬ (5 : Int) < (ys.length : Int) + (zs.length : Int) := by omega
    have t2 : ¬ (ys.length : Int) + (zs.length : Int) > 5 := t1
    go_enter Tryz.func21, Tryz.ntmps21
    go_upto_region 1 with fail
    go_quiet (fail)
    have HBq : Hid (Bq (w.drewN nq) B bb wv _ ew ms (ys.map (·.1)) (ys.map (·.2.1)) ys tv _ et ts (zs.map (·.1)) (zs.map (·.2.1)) zs) := HB.out.grow (grown_draws _ _)
    go_wp2_with (first
      | (go_at_call 22; (with_reducible refine (waitsQ B bb _ _ _ _ _ _ _ _ _ _ _ HBq.out hyl hzl).mono ?_); rintro e w1 ⟨rfl, n1, hw1⟩; have hb1 := hide (HBq.out.grow (grown_draws (w.drewN nq) n1)); have HW1 := hide hw1; clear hw1)
      | (go_at_call 25; (with_reducible refine (readsQ B bb _ _ _ _ _ _ _ _ _ _ _ _ _ _ _ (HW1.out ▸ hb1.out) (by have := HQ.out; omega) (by have := HR.out; omega)).mono ?_); rintro e w2 ⟨rfl, n2, hw2⟩; have HW2 := hide hw2; clear hw2))
    go_ret
    refine ⟨rfl, ?_, .inr ⟨h5, nq + n1 + n2, ?_⟩⟩
    · rw [HW2.out, HW1.out]; exact below_drewN (below_drewN (below_drewN (Below.refl _ _) _) _) _
    · rw [HW2.out, HW1.out]; simp

end Go.Proofs.YtmeiogoodbnkkaaGreat

/- What one call of the statement needs, with times. -/
namespace Go.Proofs.YtmeiogoodbnkkaaGreat
open Go.RowKit

theorem run_memLen {u l : List Int} {b : Int} (hc : Cfg u l b) {prog : List Ord} (hp : isProg prog = true) (mem : List Int) (steps : Nat) (hs : 1 ≤ steps) : (runM u l b prog mem steps).mem.length = mem.length ∧ (runM u l b prog mem steps).given.length ≤ steps := by
  obtain ⟨n, m, _, h2, _, hJ, hg, _, _, hle, _, hr, ho⟩ := run_out hc hp mem steps hs
  refine ⟨?_, by rw [hg]; omega⟩
  rcases ho with ⟨k, _, _, _, _, _, _, r2, _, _, _⟩ | ⟨_, _, _, _, r2, _, _, _⟩ | ⟨e, _, _⟩
  · rw [r2]; exact (seqS_len prog mem k).2
  · rw [r2]; exact (seqS_len prog mem _).2
  · have hf : finM m = { m with stop := 2 } := by
      unfold endsM at e
      unfold finM
      cases h1 : (m.shown && allWr m.given m.counts) with
      | true => rw [h1] at e; simp at e
      | false =>
        rw [h1] at e
        cases h2 : (m.ended && allWr m.given m.given.length) with
        | true => rw [h2] at e; simp at e
        | false => rfl
    rw [hr, hf]
    exact hJ.iv.memL

theorem cfg_of {u l : List Int} {b : Int} (h : refuseC u l b = 0) : Cfg u l b := by
  obtain ⟨h1, h2, h3, h4⟩ := refuseC_ok h
  refine ⟨?_, fun k hk => (h1 k hk).1, h2, h3⟩
  have := h1 3 (by omega)
  have e : mostK 3 = 1 := rfl
  rw [e] at this
  omega

theorem answerR_fine (u l : List Int) (b : Int) (prog : List Ord) (mem : List Int) (steps : Int) : (answerR u l b prog mem steps).1.regs.length = 8 ∧ (answerR u l b prog mem steps).1.mem.length ≤ 16 ∧ (answerR u l b prog mem steps).1.given.length ≤ 400 := by
  unfold answerR
  split
  · rename_i h0
    obtain ⟨g1, g2, g3, g4⟩ := refuse_ok h0
    split
    · rename_i hc
      obtain ⟨e1, e2⟩ := run_memLen (cfg_of hc) g1 mem steps.toNat (by omega)
      exact ⟨runM_regs .., by rw [e1]; exact g2, Nat.le_trans e2 (by omega)⟩
    · exact ⟨rfl, by simp [startM], by simp [startM]⟩
  · exact ⟨rfl, by simp [startM], by simp [startM]⟩

/-- The times of the orders given out. -/
def tmL (g : List Tk) : List Tm := g.map fun t => ⟨t.number, t.issue, t.read, t.done, t.write⟩
theorem tmL_flat (g : List Tk) : (tmL g).flatMap tmC = g.flatMap tmCells := by
  unfold tmL
  rw [List.flatMap_map]
  rfl
theorem tmL_len (g : List Tk) : (tmL g).length = g.length := by simp [tmL]
theorem tmL_row {w : World} {B : Nat} {v : Value} {g : List Tk} (h : w.ownsRow B 79 5 v g.length (g.flatMap tmCells)) : Rw shT w B v (tmL g) := by
  show w.ownsRow B 79 5 v (tmL g).length ((tmL g).flatMap tmC)
  rw [tmL_len, tmL_flat]; exact h

section
variable (p pm : Option Addr) (c cm : Nat) (prog : List Ord) (mem : List Int) (steps : Int) (w : World) (hp : RdO w p prog) (hm : Rd w pm mem) (hlen : (prog.length : Int) ≤ 1000000000000000) (hlm : (mem.length : Int) ≤ 1000000000000000)
include hp hm hlen hlm

theorem runQ (u0 u1 u2 u3 l0 l1 l2 l3 b : Int) {x0 x1 x2 x3 x4 x5 x6 x7 nx st tr sp er : Int} {l : List Int} {tl : List Tm} {A : Mc × Int} (hA : answerR [u0, u1, u2, u3] [l0, l1, l2, l3] b prog mem steps = A)
    (hx : A.1.regs = [x0, x1, x2, x3, x4, x5, x6, x7]) (h1 : (A.1.next : Int) = nx) (h2 : A.1.stop = st) (h3 : A.1.trap = tr) (h4 : (A.1.steps : Int) = sp) (h5 : A.2 = er) (h6 : A.1.mem = l) (h7 : tmL A.1.given = tl) :
    Calls Tryz.prog 15 #[.agg #[.int .i64 u0, .int .i64 u1, .int .i64 u2, .int .i64 u3, .int .i64 l0, .int .i64 l1, .int .i64 l2, .int .i64 l3, .int .i64 b], .slice p prog.length c, .slice pm mem.length cm, .int .i64 steps] w fun e w' =>
      ∃ pp cc pt ct, e = .returned (.tuple #[.agg #[.int .i64 x0, .int .i64 x1, .int .i64 x2, .int .i64 x3, .int .i64 x4, .int .i64 x5, .int .i64 x6, .int .i64 x7, .slice pp l.length cc, .int .i64 nx, .int .i64 st, .int .i64 tr, .int .i64 sp], .slice pt tl.length ct, .int .i64 er]) ∧
        Below w.heap.size w w' ∧ Rw shW w' w.heap.size (.slice pp l.length cc) l ∧ Tight (.slice pp l.length cc) ∧ Rw shT w' w.heap.size (.slice pt tl.length ct) tl ∧ Tight (.slice pt tl.length ct) := by
  subst h1 h2 h3 h4 h5 h6 h7
  refine (run_any u0 u1 u2 u3 l0 l1 l2 l3 b p pm c cm prog mem steps w hp hm hlen hlm A.1 A.2 hA.symm).mono ?_
  rintro e w' ⟨mv, tv, rfl, hb, ho, ht, hot, htt⟩
  have ho' := Rw.own.2 ho
  have hot' := tmL_row hot
  obtain ⟨pp, cc, rfl, _⟩ := ho'.slice
  obtain ⟨pt, ct, rfl, _⟩ := hot'.slice
  exact ⟨pp, cc, pt, ct, by rw [hx]; rfl, hb, ho', ht, hot', htt⟩

theorem refRunQ (u0 u1 u2 u3 l0 l1 l2 l3 b : Int) {x0 x1 x2 x3 x4 x5 x6 x7 nx st tr sp er : Int} {l : List Int} {tl : List Tm} {A : Mc × Int} (hA : answerR [u0, u1, u2, u3] [l0, l1, l2, l3] b prog mem steps = A)
    (hx : A.1.regs = [x0, x1, x2, x3, x4, x5, x6, x7]) (h1 : (A.1.next : Int) = nx) (h2 : A.1.stop = st) (h3 : A.1.trap = tr) (h4 : (A.1.steps : Int) = sp) (h5 : A.2 = er) (h6 : A.1.mem = l) (h7 : tmL A.1.given = tl) :
    Calls Tryz.prog 16 #[.agg #[.int .i64 u0, .int .i64 u1, .int .i64 u2, .int .i64 u3, .int .i64 l0, .int .i64 l1, .int .i64 l2, .int .i64 l3, .int .i64 b], .slice p prog.length c, .slice pm mem.length cm, .int .i64 steps] w fun e w' =>
      ∃ pp cc pt ct, e = .returned (.tuple #[.agg #[.int .i64 x0, .int .i64 x1, .int .i64 x2, .int .i64 x3, .int .i64 x4, .int .i64 x5, .int .i64 x6, .int .i64 x7, .slice pp l.length cc, .int .i64 nx, .int .i64 st, .int .i64 tr, .int .i64 sp], .slice pt tl.length ct, .int .i64 er]) ∧
        Below w.heap.size w w' ∧ Rw shW w' w.heap.size (.slice pp l.length cc) l ∧ Rw shT w' w.heap.size (.slice pt tl.length ct) tl := by
  subst h1 h2 h3 h4 h5 h6 h7
  refine (refRun_any u0 u1 u2 u3 l0 l1 l2 l3 b p pm c cm prog mem steps w hp hm hlen hlm A.1 A.2 hA.symm).mono ?_
  rintro e w' ⟨mv, tv, rfl, hb, ho, hot⟩
  have ho' := Rw.own.2 ho
  have hot' := tmL_row hot
  obtain ⟨pp, cc, rfl, _⟩ := ho'.slice
  obtain ⟨pt, ct, rfl, _⟩ := hot'.slice
  exact ⟨pp, cc, pt, ct, by rw [hx]; rfl, hb, ho', hot'⟩
end

theorem Kr.same {bb : Nat} {w w' : World} (h : Kr bb w w') {k : Nat} {cs : Array Value} {e : TypeId} (hk : w.heap[k]? = some (.cells cs e (0, 0))) (h1 : e ≠ 23) (h2 : e ≠ 55) (hne : k ≠ bb) : w'.heap[k]? = some (.cells cs e (0, 0)) := by
  rw [h.block k (Array.getElem?_eq_some_iff.1 hk).1 hne ?_ ?_]
  · exact hk
  · intro c f e'
    rw [hk] at e'
    simp only [Option.some.injEq, Obj.cells.injEq] at e'
    exact h1 e'.2.1
  · intro c f e'
    rw [hk] at e'
    simp only [Option.some.injEq, Obj.cells.injEq] at e'
    exact h2 e'.2.1

/-- The call's own box and what it handed in. -/
structure Md (W : World) (N gP gM : Nat) (cs : Array Value) (prog : List Ord) (mem : List Int) : Prop where
  box : W.heap[N]? = some (.cells cs 34 (0, 0))
  ord : HandO W gP prog
  wds : HandW W gM mem

section
variable {W W' : World} {N gP gM bb : Nat} {cs : Array Value} {prog : List Ord} {mem : List Int}
theorem grow_same (hg : W.grownBy W' none) {k : Nat} {o : Obj} (hk : W.heap[k]? = some o) : W'.heap[k]? = some o := (hg.block k (Array.getElem?_eq_some_iff.1 hk).1 (by simp)).trans hk
theorem Md.grow (h : Md W N gP gM cs prog mem) (hg : W.grownBy W' none) : Md W' N gP gM cs prog mem :=
  ⟨grow_same hg h.box, h.ord.keep (hg.block _ (lt_of_blk h.ord.choose_spec.1) (by simp)), h.wds.keep (hg.block _ (lt_of_blk h.wds.choose_spec.1) (by simp))⟩
theorem Md.kr (h : Md W N gP gM cs prog mem) (hk : Kr bb W W') (h1 : N ≠ bb) (h2 : gP ≠ bb) (h3 : gM ≠ bb) : Md W' N gP gM cs prog mem := by
  refine ⟨hk.same h.box (by decide) (by decide) h1, ?_, ?_⟩
  · obtain ⟨cur, g1, rest⟩ := h.ord
    exact ⟨cur, hk.same g1 (by decide) (by decide) h2, rest⟩
  · obtain ⟨cur, g1, rest⟩ := h.wds
    exact ⟨cur, hk.same g1 (by decide) (by decide) h3, rest⟩
theorem Md.cell (h : Md W N gP gM cs prog mem) (j : Nat) : W.cell? ⟨N, j, none⟩ = cs[j]? := cell_of_row W N j _ _ _ h.box
theorem Md.lt (h : Md W N gP gM cs prog mem) : N < W.heap.size ∧ gP < W.heap.size ∧ gM < W.heap.size := ⟨lt_of_blk h.box, lt_of_blk h.ord.choose_spec.1, lt_of_blk h.wds.choose_spec.1⟩
end

/-- A list's row lies below; from here on. -/
def LoB (v : Value) (n : Nat) : Prop := ∀ g, v.ownBlock = some g → g < n
def HiB (v : Value) (n : Nat) : Prop := ∀ g, v.ownBlock = some g → n ≤ g
theorem lohi {v x : Value} {n m : Nat} (h : LoB v n) (h' : HiB x m) (hn : n ≤ m) : Apart v x := fun g h1 h2 => by have := h g h1; have := h' g h2; omega
theorem hilo {v x : Value} {n m : Nat} (h : HiB v m) (h' : LoB x n) (hn : n ≤ m) : Apart v x := (lohi h' h hn).symm
theorem Rw.lo {S : Sh} {w : World} {B : Nat} {v : Value} {l : List S.α} (h : Rw S w B v l) : LoB v w.heap.size := fun g hg => (Rw.lt h g hg).2
theorem Rw.hi {S : Sh} {w : World} {B : Nat} {v : Value} {l : List S.α} (h : Rw S w B v l) : HiB v B := fun g hg => (Rw.lt h g hg).1
theorem Rw.base {S : Sh} {w : World} {B B' : Nat} {v : Value} {l : List S.α} (h : Rw S w B v l) (hB : B' ≤ B) : Rw S w B' v l := by
  refine ⟨h.1, ?_⟩
  rcases h.2 with h2 | ⟨g, cap, cur, h1, hb, rest⟩
  · exact .inl h2
  · exact .inr ⟨g, cap, cur, h1, Nat.le_trans hB hb, rest⟩

/-- Lists of the book lie below. -/
structure OldH (S : Sh) (ms : List (Value × Nat)) (ys : List (Value × Value × List S.α)) (n : Nat) : Prop where
  ms : ∀ m ∈ ms, LoB m.1 n
  ys : ∀ y ∈ ys, LoB y.1 n ∧ LoB y.2.1 n
theorem Hb.old {S : Sh} {w : World} {B : Nat} {wv aw ew : Value} {ms : List (Value × Nat)} {av es : List Value} {ys : List (Value × Value × List S.α)} (h : Hb S w B wv aw ew ms av es ys) : OldH S ms ys w.heap.size :=
  ⟨fun m hm => by obtain ⟨k, hk⟩ := List.getElem?_of_mem hm; exact fun g hg => (World.ownsRow.lt (h.marks k m.1 m.2 hk) g hg).2, fun y hy => ⟨(h.each y hy).1.lo, (h.each y hy).2.1.lo⟩⟩

/-- Lists of the book lie elsewhere than this block. -/
structure FreeH (S : Sh) (ms : List (Value × Nat)) (ys : List (Value × Value × List S.α)) (k : Nat) : Prop where
  ms : ∀ m ∈ ms, m.1.ownBlock ≠ some k
  ys : ∀ y ∈ ys, y.1.ownBlock ≠ some k ∧ y.2.1.ownBlock ≠ some k
theorem OldH.free {S : Sh} {ms : List (Value × Nat)} {ys : List (Value × Value × List S.α)} {n k : Nat} (h : OldH S ms ys n) (hk : n ≤ k) : FreeH S ms ys k :=
  ⟨fun m hm e => by have := h.ms m hm k e; omega, fun y hy => ⟨fun e => by have := (h.ys y hy).1 k e; omega, fun e => by have := (h.ys y hy).2 k e; omega⟩⟩
theorem FreeH.snoc {S : Sh} {ms : List (Value × Nat)} {ys : List (Value × Value × List S.α)} {k n n' : Nat} {v x : Value} {l : List S.α} (h : FreeH S ms ys k) (hv : HiB v n) (hx : HiB x n') (h1 : k < n) (h2 : k < n') : FreeH S ms (ys ++ [(v, x, l)]) k := by
  refine ⟨h.ms, fun y hy => ?_⟩
  rcases List.mem_append.1 hy with h' | h'
  · exact h.ys y h'
  · simp at h'; subst h'
    exact ⟨fun e => by have := hv k e; omega, fun e => by have := hx k e; omega⟩

theorem Hb.block {S : Sh} {w w2 : World} {B : Nat} {wv aw ew : Value} {ms : List (Value × Nat)} {av es : List Value} {ys : List (Value × Value × List S.α)} {k : Nat} {cs : Array Value} {e' : TypeId} (h : Hb S w B wv aw ew ms av es ys)
    (hk : w.heap[k]? = some (.cells cs e' (0, 0))) (hg : w.grownBy w2 (some k)) (n1 : S.e ≠ e' ∨ FreeH S ms ys k) (n2 : S.sl ≠ e') : Hb S w2 B wv aw ew ms av es ys := by
  have far : ∀ {e : TypeId} {size n : Nat} {v : Value} {xs : List Value}, w.ownsRow B e size v n xs → v.ownBlock ≠ some k → w2.ownsRow B e size v n xs := fun hv hne => by
    refine World.ownsRow.kept hv hg ?_
    cases hv' : Value.ownBlock _ with
    | none => exact .inl rfl
    | some g => exact .inr (fun e => hne (by rw [hv', e]))
  have kind : ∀ {e : TypeId} {size n : Nat} {v : Value} {xs : List Value}, w.ownsRow B e size v n xs → e ≠ e' → v.ownBlock ≠ some k := fun hv hne hb => by
    obtain ⟨cur, hc⟩ := rowG hv hb
    rw [hk] at hc
    simp only [Option.some.injEq, Obj.cells.injEq] at hc
    exact hne hc.2.1.symm
  refine h.keeps (fun hv _ => far hv (kind hv n2)) (fun hv hw => far hv ?_)
  rcases n1 with n1 | n1
  · exact kind hv n1
  · rcases hw with ⟨m, hm, rfl⟩ | ⟨y, hy, rfl | rfl⟩
    · exact n1.ms m hm
    · exact (n1.ys y hy).1
    · exact (n1.ys y hy).2

/-- The book, as it is between calls: n is so many calls. -/
def Bkk (w : World) (B bb n : Nat) : Prop :=
  ∃ q r wv aw ew ms ys tv at' et ts zs, ms.length = 4 * q ∧ ts.length = 4 * r ∧ Bq w B bb wv aw ew ms (ys.map (·.1)) (ys.map (·.2.1)) ys tv at' et ts (zs.map (·.1)) (zs.map (·.2.1)) zs ∧
    (∀ y ∈ ys, Tight y.1) ∧ (∀ y ∈ zs, Tight y.1) ∧ ys.length + zs.length ≤ 5 ∧ q + ys.length ≤ 2 * n ∧ r + zs.length ≤ 2 * n

theorem Bkk.new (w : World) : Bkk (w.alloc (.cells #[.slice none 0 0, .slice none 0 0, .slice none 0 0, .slice none 0 0, .slice none 0 0, .slice none 0 0] 28)) w.heap.size w.heap.size 0 :=
  ⟨0, 0, _, _, _, [], [], _, _, _, [], [], rfl, rfl, ⟨heap_alloc_new _ _, Nat.le_refl _, by simp, Hb.nil _ _ _, Hb.nil _ _ _⟩, fun y hy => (by cases hy), fun y hy => (by cases hy), by simp, by simp, by simp⟩

theorem settlesK (B bb n : Nat) (w : World) (h : Bkk w B bb n) (hn : n ≤ 1100000000000) : Calls Tryz.prog 7 #[.pointer (some ⟨bb, 0, none⟩)] w fun e w' => e = .returned (.bool true) ∧ Below B w w' := by
  obtain ⟨q, r, wv, aw, ew, ms, ys, tv, at', et, ts, zs, hq, hr, hb, hty, htz, h5, hqn, hrn⟩ := h
  exact (settlesQ B bb q r wv aw ew ms ys tv at' et ts zs w hq hr hb hty htz (by omega) (by omega) (by omega) (by omega)).mono (fun e w' ⟨h1, h2, _⟩ => ⟨h1, h2⟩)

theorem looksK (B bb n q r : Nat) (wv aw ew : Value) (ms : List (Value × Nat)) (ys : List (Value × Value × List Int)) (tv at' et : Value) (ts : List (Value × Nat)) (zs : List (Value × Value × List Tm)) (w : World)
    (hq : ms.length = 4 * q) (hr : ts.length = 4 * r)
    (hb : Bq w B bb wv aw ew ms (ys.map (·.1)) (ys.map (·.2.1)) ys tv at' et ts (zs.map (·.1)) (zs.map (·.2.1)) zs) (hty : ∀ y ∈ ys, Tight y.1) (htz : ∀ y ∈ zs, Tight y.1)
    (hyl : ys.length ≤ 1000) (hzl : zs.length ≤ 1000) (hql : q + ys.length ≤ 2 * n) (hrl : r + zs.length ≤ 2 * n) (hn : n ≤ 1100000000000) :
    Calls Tryz.prog 21 #[.pointer (some ⟨bb, 0, none⟩)] w fun e w' => e = .returned (.bool true) ∧ Below B w w' ∧ Bkk w' B bb n := by
  refine (looksQ B bb q r wv aw ew ms ys tv at' et ts zs w hq hr hb hty htz hyl hzl (by omega) (by omega)).mono ?_
  rintro e w' ⟨h1, h2, ⟨_, wv', ms', tv', ts', e1, e2, hb'⟩ | ⟨h5, k, rfl⟩⟩
  · exact ⟨h1, h2, _, _, wv', _, _, ms', [], tv', _, _, ts', [], e1, e2, hb', fun y hy => (by cases hy), fun y hy => (by cases hy), by simp, by simp; omega, by simp; omega⟩
  · exact ⟨h1, h2, q, r, wv, aw, ew, ms, ys, tv, at', et, ts, zs, hq, hr, hb.grow (grown_draws _ _), hty, htz, h5, hql, hrl⟩

end Go.Proofs.YtmeiogoodbnkkaaGreat

/- One call of the statement, whatever its kind. -/
namespace Go.Proofs.YtmeiogoodbnkkaaGreat
open Go.RowKit

theorem rdW {w : World} {B : Nat} {p : Option Addr} {c : Nat} {l : List Int} (h : Rw shW w B (.slice p l.length c) l) : Rd w p l := by
  obtain ⟨p', c', e, hr⟩ := (Rw.own.1 h).slice
  simp only [Value.slice.injEq] at e
  obtain ⟨rfl, _, rfl⟩ := e
  exact hr
theorem rdT {w : World} {B : Nat} {p : Option Addr} {c : Nat} {l : List Tm} (h : Rw shT w B (.slice p l.length c) l) : RdT w p l := by
  obtain ⟨p', c', e, hr⟩ := RdT.of h
  simp only [Value.slice.injEq] at e
  obtain ⟨rfl, _, rfl⟩ := e
  exact hr

set_option maxRecDepth 100000 in
set_option maxHeartbeats 8000000 in
theorem oneQ2 (B bb n : Nat) (u0 u1 u2 u3 l0 l1 l2 l3 b : Int) (p pm : Option Addr) (c cm : Nat) (prog : List Ord) (mem : List Int) (steps : Int) (w : World)
    (hb : Bkk w B bb n) (hn : n + 1 ≤ 1100000000000) (hp : RdO w p prog) (hm : Rd w pm mem) (hpB : Under p B) (hmB : Under pm B) (hl1 : prog.length * 40 ≤ 140737488351232) (hl2 : mem.length * 8 ≤ 140737488351232) :
    Calls Tryz.prog 6 #[.pointer (some ⟨bb, 0, none⟩), .agg #[.int .i64 2, .int .i64 u0, .int .i64 u1, .int .i64 u2, .int .i64 u3, .int .i64 l0, .int .i64 l1, .int .i64 l2, .int .i64 l3, .int .i64 b, .slice p prog.length c, .slice pm mem.length cm, .int .i64 steps]] w fun e w' => e = .returned (.bool true) ∧ Below B w w' ∧ Bkk w' B bb (n + 1) := by
  obtain ⟨hreg, hl16, hl400⟩ := answerR_fine [u0, u1, u2, u3] [l0, l1, l2, l3] b prog mem steps
  obtain ⟨A, hA⟩ : ∃ A, answerR [u0, u1, u2, u3] [l0, l1, l2, l3] b prog mem steps = A := ⟨_, rfl⟩
  rw [hA] at hreg hl16 hl400
  obtain ⟨x0, x1, x2, x3, x4, x5, x6, x7, hx⟩ := list8 hreg
  obtain ⟨nx, hnx⟩ : ∃ x, (A.1.next : Int) = x := ⟨_, rfl⟩
  obtain ⟨st, hst⟩ : ∃ x, A.1.stop = x := ⟨_, rfl⟩
  obtain ⟨tr, htr⟩ : ∃ x, A.1.trap = x := ⟨_, rfl⟩
  obtain ⟨sp, hsp⟩ : ∃ x, (A.1.steps : Int) = x := ⟨_, rfl⟩
  obtain ⟨er, her⟩ : ∃ x, A.2 = x := ⟨_, rfl⟩
  obtain ⟨l, hl⟩ : ∃ x, A.1.mem = x := ⟨_, rfl⟩
  obtain ⟨tl, htl⟩ : ∃ x, tmL A.1.given = x := ⟨_, rfl⟩
  rw [hl] at hl16
  have htl4 : tl.length ≤ 400 := by rw [← htl, tmL_len]; exact hl400
  have hpl : (prog.length : Int) ≤ 1000000000000000 := by omega
  have hmm : (mem.length : Int) ≤ 1000000000000000 := by omega
  have RU := hide (fun p pm c cm W h1 h2 => runQ p pm c cm prog mem steps W h1 h2 hpl hmm u0 u1 u2 u3 l0 l1 l2 l3 b hA hx hnx hst htr hsp her hl htl)
  have RR := hide (fun p pm c cm W h1 h2 => refRunQ p pm c cm prog mem steps W h1 h2 hpl hmm u0 u1 u2 u3 l0 l1 l2 l3 b hA hx hnx hst htr hsp her hl htl)
  clear hreg hl400 hA hx hnx hst htr hsp her hl htl hpl hmm A
  obtain ⟨q, r, wv, aw, ew, ms, ys, tv, at', et, ts, zs, hq, hr, hb, hty, htz, h5, hqn, hrn⟩ := hb
  have HQ := hide hq
  have HR := hide hr
  have HTY := hide hty
  have HTZ := hide htz
  have HQN := hide hqn
  have HRN := hide hrn
  have HP := hide hp
  have HM := hide hm
  have HPB := hide hpB
  have HMB := hide hmB
  have hBw := hb.small
  have hbbz := lt_of_blk hb.blk
  have hBb := hb.base
  have OW := hide hb.hw.old
  have OT := hide hb.ht.old
  have HB0 := hide hb
  clear hq hr hb hty htz hp hm hpB hmB hqn hrn
  go_enter Tryz.func6, Tryz.ntmps6
  go_wp2_with fail
  refine (handedOrders_any _ _ _ _ (HP.out.below (Nat.le_refl _) ((Below.refl _ _).alloc (Nat.le_refl _) _)) hl1).mono ?_
  rintro e w1 ⟨rfl, hb1, hO1⟩
  have hN1 := below_same hb1 (heap_alloc_new w (.cells #[.int .i64 2, .int .i64 u0, .int .i64 u1, .int .i64 u2, .int .i64 u3, .int .i64 l0, .int .i64 l1, .int .i64 l2, .int .i64 l3, .int .i64 b, .slice p prog.length c, .slice pm mem.length cm, .int .i64 steps] 34))
  have hg1 : w.grownBy w1 none := grown_trans (World.grownBy_alloc w (.cells #[.int .i64 2, .int .i64 u0, .int .i64 u1, .int .i64 u2, .int .i64 u3, .int .i64 l0, .int .i64 l1, .int .i64 l2, .int .i64 l3, .int .i64 b, .slice p prog.length c, .slice pm mem.length cm, .int .i64 steps] 34) none) (grown_of_below hb1)
  have hO1' : HandO w1 (w.heap.size + 1) prog := by simpa using hO1
  have HN1 := hide hN1
  have HO1 := hide hO1'
  have HG1 := hide hg1
  have hz1 : w.heap.size + 1 < w1.heap.size := lt_of_blk hO1'.choose_spec.1
  clear hb1 hO1 hO1' hg1
  have a11 : w1.cell? ⟨w.heap.size, 11, none⟩ = some (.slice pm mem.length cm) := cell_of_row w1 _ 11 _ _ _ hN1
  clear hN1
  go_wp2_with fail
  clear a11
  refine (handedWords_any _ _ _ _ (HM.out.below (Nat.le_refl _) ((Below.refl _ _).grown HG1.out (Nat.le_refl _) (by intro k hk; cases hk))) hl2).mono ?_
  rintro e w2 ⟨rfl, hb2, hW2⟩
  have hg2 := grown_of_below hb2
  have hz2 : w1.heap.size < w2.heap.size := lt_of_blk hW2.choose_spec.1
  have MD_1 : Hid (Md w2 w.heap.size (w.heap.size + 1) w1.heap.size #[.int .i64 2, .int .i64 u0, .int .i64 u1, .int .i64 u2, .int .i64 u3, .int .i64 l0, .int .i64 l1, .int .i64 l2, .int .i64 l3, .int .i64 b, .slice p prog.length c, .slice pm mem.length cm, .int .i64 steps] prog mem) := ⟨grow_same hg2 HN1.out, HO1.out.keep (hb2.block _ (lt_of_blk HO1.out.choose_spec.1)), hW2⟩
  have G_2 : Hid (w.grownBy w2 none) := grown_trans HG1.out hg2
  have BQ_3 := hide (HB0.out.grow G_2.out)
  clear hb2 hW2 hg2 HN1 HO1 HG1
  have a0 : w2.cell? ⟨w.heap.size, 0, none⟩ = some (.int .i64 2) := MD_1.out.cell 0
  have a1 : w2.cell? ⟨w.heap.size, 1, none⟩ = some (.int .i64 u0) := MD_1.out.cell 1
  have a2 : w2.cell? ⟨w.heap.size, 2, none⟩ = some (.int .i64 u1) := MD_1.out.cell 2
  have a3 : w2.cell? ⟨w.heap.size, 3, none⟩ = some (.int .i64 u2) := MD_1.out.cell 3
  have a4 : w2.cell? ⟨w.heap.size, 4, none⟩ = some (.int .i64 u3) := MD_1.out.cell 4
  have a5 : w2.cell? ⟨w.heap.size, 5, none⟩ = some (.int .i64 l0) := MD_1.out.cell 5
  have a6 : w2.cell? ⟨w.heap.size, 6, none⟩ = some (.int .i64 l1) := MD_1.out.cell 6
  have a7 : w2.cell? ⟨w.heap.size, 7, none⟩ = some (.int .i64 l2) := MD_1.out.cell 7
  have a8 : w2.cell? ⟨w.heap.size, 8, none⟩ = some (.int .i64 l3) := MD_1.out.cell 8
  have a9 : w2.cell? ⟨w.heap.size, 9, none⟩ = some (.int .i64 b) := MD_1.out.cell 9
  have a12 : w2.cell? ⟨w.heap.size, 12, none⟩ = some (.int .i64 steps) := MD_1.out.cell 12
  go_wp2_with fail
  clear a0 a1 a2 a3 a4 a5 a6 a7 a8 a9 a12
  refine (RU.out _ _ _ _ _ MD_1.out.ord.rd MD_1.out.wds.rd).mono ?_
  rintro e v1 ⟨p1, c1, pt1, ct1, rfl, hb3, ho3, ht3, hot3, htt3⟩
  have HX1 := hide hb3
  have HX2 := hide ho3
  have HX3 := hide hot3
  have TI1 := hide ht3
  have TT1 := hide htt3
  clear hb3 ho3 hot3 ht3 htt3
  go_upto_region 16 with fail
  obtain ⟨W1, hW⟩ : ∃ W, v1.alloc (.cells #[.int .i64 x0, .int .i64 x1, .int .i64 x2, .int .i64 x3, .int .i64 x4, .int .i64 x5, .int .i64 x6, .int .i64 x7, .slice p1 l.length c1, .int .i64 nx, .int .i64 st, .int .i64 tr, .int .i64 sp] 46) = W := ⟨_, rfl⟩
  rw [hW]
  have hg : w2.grownBy W1 none := by rw [← hW]; exact grown_trans (grown_of_below HX1.out) (World.grownBy_alloc _ _ none)
  have hgv : v1.grownBy W1 none := by rw [← hW]; exact World.grownBy_alloc _ _ none
  have hzz1 : w2.heap.size ≤ v1.heap.size := HX1.out.size
  have hzw1 : v1.heap.size < W1.heap.size := by rw [← hW]; simp
  have LO1 := hide HX2.out.lo
  have HI1 := hide HX2.out.hi
  have LT1 := hide HX3.out.lo
  have HT1 := hide HX3.out.hi
  have MD_4 := hide (MD_1.out.grow hg)
  have G_5 := hide (grown_trans G_2.out hg)
  have BQ_6 := hide (BQ_3.out.grow hg)
  clear MD_1 G_2 BQ_3
  have S1_7 : Hid (W1.heap[v1.heap.size]? = some (.cells #[.int .i64 x0, .int .i64 x1, .int .i64 x2, .int .i64 x3, .int .i64 x4, .int .i64 x5, .int .i64 x6, .int .i64 x7, .slice p1 l.length c1, .int .i64 nx, .int .i64 st, .int .i64 tr, .int .i64 sp] 46 (0, 0))) := by rw [← hW]; exact heap_alloc_new _ _
  have V1_8 : Hid (Rw shW W1 B (.slice p1 l.length c1) l) := (HX2.out.grow hgv).base (by omega)
  have T1_9 : Hid (Rw shT W1 B (.slice pt1 tl.length ct1) tl) := (HX3.out.grow hgv).base (by omega)
  clear hW hg hgv HX1 HX2 HX3
  have a0 : W1.cell? ⟨w.heap.size, 0, none⟩ = some (.int .i64 2) := MD_4.out.cell 0
  have a1 : W1.cell? ⟨w.heap.size, 1, none⟩ = some (.int .i64 u0) := MD_4.out.cell 1
  have a2 : W1.cell? ⟨w.heap.size, 2, none⟩ = some (.int .i64 u1) := MD_4.out.cell 2
  have a3 : W1.cell? ⟨w.heap.size, 3, none⟩ = some (.int .i64 u2) := MD_4.out.cell 3
  have a4 : W1.cell? ⟨w.heap.size, 4, none⟩ = some (.int .i64 u3) := MD_4.out.cell 4
  have a5 : W1.cell? ⟨w.heap.size, 5, none⟩ = some (.int .i64 l0) := MD_4.out.cell 5
  have a6 : W1.cell? ⟨w.heap.size, 6, none⟩ = some (.int .i64 l1) := MD_4.out.cell 6
  have a7 : W1.cell? ⟨w.heap.size, 7, none⟩ = some (.int .i64 l2) := MD_4.out.cell 7
  have a8 : W1.cell? ⟨w.heap.size, 8, none⟩ = some (.int .i64 l3) := MD_4.out.cell 8
  have a9 : W1.cell? ⟨w.heap.size, 9, none⟩ = some (.int .i64 b) := MD_4.out.cell 9
  have a12 : W1.cell? ⟨w.heap.size, 12, none⟩ = some (.int .i64 steps) := MD_4.out.cell 12
  go_wp2_with fail
  clear a0 a1 a2 a3 a4 a5 a6 a7 a8 a9 a12
  refine (RU.out _ _ _ _ _ MD_4.out.ord.rd MD_4.out.wds.rd).mono ?_
  rintro e v2 ⟨p2, c2, pt2, ct2, rfl, hb3, ho3, ht3, hot3, htt3⟩
  have HX1 := hide hb3
  have HX2 := hide ho3
  have HX3 := hide hot3
  have TI2 := hide ht3
  have TT2 := hide htt3
  clear hb3 ho3 hot3 ht3 htt3
  go_upto_region 17 with fail
  obtain ⟨W2, hW⟩ : ∃ W, v2.alloc (.cells #[.int .i64 x0, .int .i64 x1, .int .i64 x2, .int .i64 x3, .int .i64 x4, .int .i64 x5, .int .i64 x6, .int .i64 x7, .slice p2 l.length c2, .int .i64 nx, .int .i64 st, .int .i64 tr, .int .i64 sp] 46) = W := ⟨_, rfl⟩
  rw [hW]
  have hg : W1.grownBy W2 none := by rw [← hW]; exact grown_trans (grown_of_below HX1.out) (World.grownBy_alloc _ _ none)
  have hgv : v2.grownBy W2 none := by rw [← hW]; exact World.grownBy_alloc _ _ none
  have hzz2 : W1.heap.size ≤ v2.heap.size := HX1.out.size
  have hzw2 : v2.heap.size < W2.heap.size := by rw [← hW]; simp
  have LO2 := hide HX2.out.lo
  have HI2 := hide HX2.out.hi
  have LT2 := hide HX3.out.lo
  have HT2 := hide HX3.out.hi
  have MD_10 := hide (MD_4.out.grow hg)
  have G_11 := hide (grown_trans G_5.out hg)
  have BQ_12 := hide (BQ_6.out.grow hg)
  have S1_13 := hide (grow_same hg S1_7.out)
  have V1_14 := hide (Rw.grow V1_8.out hg)
  have T1_15 := hide (Rw.grow T1_9.out hg)
  clear MD_4 G_5 BQ_6 S1_7 V1_8 T1_9
  have S2_16 : Hid (W2.heap[v2.heap.size]? = some (.cells #[.int .i64 x0, .int .i64 x1, .int .i64 x2, .int .i64 x3, .int .i64 x4, .int .i64 x5, .int .i64 x6, .int .i64 x7, .slice p2 l.length c2, .int .i64 nx, .int .i64 st, .int .i64 tr, .int .i64 sp] 46 (0, 0))) := by rw [← hW]; exact heap_alloc_new _ _
  have V2_17 : Hid (Rw shW W2 B (.slice p2 l.length c2) l) := (HX2.out.grow hgv).base (by omega)
  have T2_18 : Hid (Rw shT W2 B (.slice pt2 tl.length ct2) tl) := (HX3.out.grow hgv).base (by omega)
  clear hW hg hgv HX1 HX2 HX3
  have a0 : W2.cell? ⟨w.heap.size, 0, none⟩ = some (.int .i64 2) := MD_10.out.cell 0
  have a1 : W2.cell? ⟨w.heap.size, 1, none⟩ = some (.int .i64 u0) := MD_10.out.cell 1
  have a2 : W2.cell? ⟨w.heap.size, 2, none⟩ = some (.int .i64 u1) := MD_10.out.cell 2
  have a3 : W2.cell? ⟨w.heap.size, 3, none⟩ = some (.int .i64 u2) := MD_10.out.cell 3
  have a4 : W2.cell? ⟨w.heap.size, 4, none⟩ = some (.int .i64 u3) := MD_10.out.cell 4
  have a5 : W2.cell? ⟨w.heap.size, 5, none⟩ = some (.int .i64 l0) := MD_10.out.cell 5
  have a6 : W2.cell? ⟨w.heap.size, 6, none⟩ = some (.int .i64 l1) := MD_10.out.cell 6
  have a7 : W2.cell? ⟨w.heap.size, 7, none⟩ = some (.int .i64 l2) := MD_10.out.cell 7
  have a8 : W2.cell? ⟨w.heap.size, 8, none⟩ = some (.int .i64 l3) := MD_10.out.cell 8
  have a9 : W2.cell? ⟨w.heap.size, 9, none⟩ = some (.int .i64 b) := MD_10.out.cell 9
  have a10 : W2.cell? ⟨w.heap.size, 10, none⟩ = some (.slice p prog.length c) := MD_10.out.cell 10
  have a11 : W2.cell? ⟨w.heap.size, 11, none⟩ = some (.slice pm mem.length cm) := MD_10.out.cell 11
  have a12 : W2.cell? ⟨w.heap.size, 12, none⟩ = some (.int .i64 steps) := MD_10.out.cell 12
  go_wp2_with fail
  clear a0 a1 a2 a3 a4 a5 a6 a7 a8 a9 a10 a11 a12
  refine (RR.out _ _ _ _ _ (HP.out.below (Nat.le_refl _) ((Below.refl _ _).grown G_11.out (Nat.le_refl _) (by intro k hk; cases hk))) (HM.out.below (Nat.le_refl _) ((Below.refl _ _).grown G_11.out (Nat.le_refl _) (by intro k hk; cases hk)))).mono ?_
  rintro e v3 ⟨p3, c3, pt3, ct3, rfl, hb3, ho3, hot3⟩
  have HX1 := hide hb3
  have HX2 := hide ho3
  have HX3 := hide hot3
  clear hb3 ho3 hot3
  go_upto_region 18 with fail
  obtain ⟨W3, hW⟩ : ∃ W, v3.alloc (.cells #[.int .i64 x0, .int .i64 x1, .int .i64 x2, .int .i64 x3, .int .i64 x4, .int .i64 x5, .int .i64 x6, .int .i64 x7, .slice p3 l.length c3, .int .i64 nx, .int .i64 st, .int .i64 tr, .int .i64 sp] 46) = W := ⟨_, rfl⟩
  rw [hW]
  have hg : W2.grownBy W3 none := by rw [← hW]; exact grown_trans (grown_of_below HX1.out) (World.grownBy_alloc _ _ none)
  have hgv : v3.grownBy W3 none := by rw [← hW]; exact World.grownBy_alloc _ _ none
  have hzz3 : W2.heap.size ≤ v3.heap.size := HX1.out.size
  have hzw3 : v3.heap.size < W3.heap.size := by rw [← hW]; simp
  have MD_19 := hide (MD_10.out.grow hg)
  have G_20 := hide (grown_trans G_11.out hg)
  have BQ_21 := hide (BQ_12.out.grow hg)
  have S1_22 := hide (grow_same hg S1_13.out)
  have V1_23 := hide (Rw.grow V1_14.out hg)
  have T1_24 := hide (Rw.grow T1_15.out hg)
  have S2_25 := hide (grow_same hg S2_16.out)
  have V2_26 := hide (Rw.grow V2_17.out hg)
  have T2_27 := hide (Rw.grow T2_18.out hg)
  clear MD_10 G_11 BQ_12 S1_13 V1_14 T1_15 S2_16 V2_17 T2_18
  have S3_28 : Hid (W3.heap[v3.heap.size]? = some (.cells #[.int .i64 x0, .int .i64 x1, .int .i64 x2, .int .i64 x3, .int .i64 x4, .int .i64 x5, .int .i64 x6, .int .i64 x7, .slice p3 l.length c3, .int .i64 nx, .int .i64 st, .int .i64 tr, .int .i64 sp] 46 (0, 0))) := by rw [← hW]; exact heap_alloc_new _ _
  have V3_29 : Hid (Rw shW W3 B (.slice p3 l.length c3) l) := (HX2.out.grow hgv).base (by omega)
  have T3_30 : Hid (Rw shT W3 B (.slice pt3 tl.length ct3) tl) := (HX3.out.grow hgv).base (by omega)
  clear hW hg hgv HX1 HX2 HX3
  have s0 : W3.cell? ⟨v1.heap.size, 0, none⟩ = some (.int .i64 x0) := cell_of_row W3 _ 0 _ _ _ S1_22.out
  have s1 : W3.cell? ⟨v1.heap.size, 1, none⟩ = some (.int .i64 x1) := cell_of_row W3 _ 1 _ _ _ S1_22.out
  have s2 : W3.cell? ⟨v1.heap.size, 2, none⟩ = some (.int .i64 x2) := cell_of_row W3 _ 2 _ _ _ S1_22.out
  have s3 : W3.cell? ⟨v1.heap.size, 3, none⟩ = some (.int .i64 x3) := cell_of_row W3 _ 3 _ _ _ S1_22.out
  have s4 : W3.cell? ⟨v1.heap.size, 4, none⟩ = some (.int .i64 x4) := cell_of_row W3 _ 4 _ _ _ S1_22.out
  have s5 : W3.cell? ⟨v1.heap.size, 5, none⟩ = some (.int .i64 x5) := cell_of_row W3 _ 5 _ _ _ S1_22.out
  have s6 : W3.cell? ⟨v1.heap.size, 6, none⟩ = some (.int .i64 x6) := cell_of_row W3 _ 6 _ _ _ S1_22.out
  have s7 : W3.cell? ⟨v1.heap.size, 7, none⟩ = some (.int .i64 x7) := cell_of_row W3 _ 7 _ _ _ S1_22.out
  have s8 : W3.cell? ⟨v1.heap.size, 8, none⟩ = some (.slice p1 l.length c1) := cell_of_row W3 _ 8 _ _ _ S1_22.out
  have s9 : W3.cell? ⟨v1.heap.size, 9, none⟩ = some (.int .i64 nx) := cell_of_row W3 _ 9 _ _ _ S1_22.out
  have s10 : W3.cell? ⟨v1.heap.size, 10, none⟩ = some (.int .i64 st) := cell_of_row W3 _ 10 _ _ _ S1_22.out
  have s11 : W3.cell? ⟨v1.heap.size, 11, none⟩ = some (.int .i64 tr) := cell_of_row W3 _ 11 _ _ _ S1_22.out
  have s12 : W3.cell? ⟨v1.heap.size, 12, none⟩ = some (.int .i64 sp) := cell_of_row W3 _ 12 _ _ _ S1_22.out
  have t0 : W3.cell? ⟨v3.heap.size, 0, none⟩ = some (.int .i64 x0) := cell_of_row W3 _ 0 _ _ _ S3_28.out
  have t1 : W3.cell? ⟨v3.heap.size, 1, none⟩ = some (.int .i64 x1) := cell_of_row W3 _ 1 _ _ _ S3_28.out
  have t2 : W3.cell? ⟨v3.heap.size, 2, none⟩ = some (.int .i64 x2) := cell_of_row W3 _ 2 _ _ _ S3_28.out
  have t3 : W3.cell? ⟨v3.heap.size, 3, none⟩ = some (.int .i64 x3) := cell_of_row W3 _ 3 _ _ _ S3_28.out
  have t4 : W3.cell? ⟨v3.heap.size, 4, none⟩ = some (.int .i64 x4) := cell_of_row W3 _ 4 _ _ _ S3_28.out
  have t5 : W3.cell? ⟨v3.heap.size, 5, none⟩ = some (.int .i64 x5) := cell_of_row W3 _ 5 _ _ _ S3_28.out
  have t6 : W3.cell? ⟨v3.heap.size, 6, none⟩ = some (.int .i64 x6) := cell_of_row W3 _ 6 _ _ _ S3_28.out
  have t7 : W3.cell? ⟨v3.heap.size, 7, none⟩ = some (.int .i64 x7) := cell_of_row W3 _ 7 _ _ _ S3_28.out
  have t8 : W3.cell? ⟨v3.heap.size, 8, none⟩ = some (.slice p3 l.length c3) := cell_of_row W3 _ 8 _ _ _ S3_28.out
  have t9 : W3.cell? ⟨v3.heap.size, 9, none⟩ = some (.int .i64 nx) := cell_of_row W3 _ 9 _ _ _ S3_28.out
  have t10 : W3.cell? ⟨v3.heap.size, 10, none⟩ = some (.int .i64 st) := cell_of_row W3 _ 10 _ _ _ S3_28.out
  have t11 : W3.cell? ⟨v3.heap.size, 11, none⟩ = some (.int .i64 tr) := cell_of_row W3 _ 11 _ _ _ S3_28.out
  have t12 : W3.cell? ⟨v3.heap.size, 12, none⟩ = some (.int .i64 sp) := cell_of_row W3 _ 12 _ _ _ S3_28.out
  go_wp2_with fail
  clear s0 s1 s2 s3 s4 s5 s6 s7 s8 s9 s10 s11 s12
  clear t0 t1 t2 t3 t4 t5 t6 t7 t8 t9 t10 t11 t12
  refine (sameState_any _ _ _ _ _ _ _ _ _ _ _ _ _ _ _ _ _ _ (rdW V1_23.out) (rdW V3_29.out) (by omega)).mono ?_
  rintro e W4 ⟨rfl, hb6⟩
  have hg := grown_of_below hb6
  have hzw4 : W3.heap.size ≤ W4.heap.size := hg.size
  have MD_31 := hide (MD_19.out.grow hg)
  have G_32 := hide (grown_trans G_20.out hg)
  have BQ_33 := hide (BQ_21.out.grow hg)
  have S1_34 := hide (grow_same hg S1_22.out)
  have V1_35 := hide (Rw.grow V1_23.out hg)
  have T1_36 := hide (Rw.grow T1_24.out hg)
  have S2_37 := hide (grow_same hg S2_25.out)
  have V2_38 := hide (Rw.grow V2_26.out hg)
  have T2_39 := hide (Rw.grow T2_27.out hg)
  have S3_40 := hide (grow_same hg S3_28.out)
  have V3_41 := hide (Rw.grow V3_29.out hg)
  have T3_42 := hide (Rw.grow T3_30.out hg)
  clear MD_19 G_20 BQ_21 S1_22 V1_23 T1_24 S2_25 V2_26 T2_27 S3_28 V3_29 T3_30
  clear hb6 hg
  go_upto_region 19 with fail
  have s0 : W4.cell? ⟨v2.heap.size, 0, none⟩ = some (.int .i64 x0) := cell_of_row W4 _ 0 _ _ _ S2_37.out
  have s1 : W4.cell? ⟨v2.heap.size, 1, none⟩ = some (.int .i64 x1) := cell_of_row W4 _ 1 _ _ _ S2_37.out
  have s2 : W4.cell? ⟨v2.heap.size, 2, none⟩ = some (.int .i64 x2) := cell_of_row W4 _ 2 _ _ _ S2_37.out
  have s3 : W4.cell? ⟨v2.heap.size, 3, none⟩ = some (.int .i64 x3) := cell_of_row W4 _ 3 _ _ _ S2_37.out
  have s4 : W4.cell? ⟨v2.heap.size, 4, none⟩ = some (.int .i64 x4) := cell_of_row W4 _ 4 _ _ _ S2_37.out
  have s5 : W4.cell? ⟨v2.heap.size, 5, none⟩ = some (.int .i64 x5) := cell_of_row W4 _ 5 _ _ _ S2_37.out
  have s6 : W4.cell? ⟨v2.heap.size, 6, none⟩ = some (.int .i64 x6) := cell_of_row W4 _ 6 _ _ _ S2_37.out
  have s7 : W4.cell? ⟨v2.heap.size, 7, none⟩ = some (.int .i64 x7) := cell_of_row W4 _ 7 _ _ _ S2_37.out
  have s8 : W4.cell? ⟨v2.heap.size, 8, none⟩ = some (.slice p2 l.length c2) := cell_of_row W4 _ 8 _ _ _ S2_37.out
  have s9 : W4.cell? ⟨v2.heap.size, 9, none⟩ = some (.int .i64 nx) := cell_of_row W4 _ 9 _ _ _ S2_37.out
  have s10 : W4.cell? ⟨v2.heap.size, 10, none⟩ = some (.int .i64 st) := cell_of_row W4 _ 10 _ _ _ S2_37.out
  have s11 : W4.cell? ⟨v2.heap.size, 11, none⟩ = some (.int .i64 tr) := cell_of_row W4 _ 11 _ _ _ S2_37.out
  have s12 : W4.cell? ⟨v2.heap.size, 12, none⟩ = some (.int .i64 sp) := cell_of_row W4 _ 12 _ _ _ S2_37.out
  have t0 : W4.cell? ⟨v3.heap.size, 0, none⟩ = some (.int .i64 x0) := cell_of_row W4 _ 0 _ _ _ S3_40.out
  have t1 : W4.cell? ⟨v3.heap.size, 1, none⟩ = some (.int .i64 x1) := cell_of_row W4 _ 1 _ _ _ S3_40.out
  have t2 : W4.cell? ⟨v3.heap.size, 2, none⟩ = some (.int .i64 x2) := cell_of_row W4 _ 2 _ _ _ S3_40.out
  have t3 : W4.cell? ⟨v3.heap.size, 3, none⟩ = some (.int .i64 x3) := cell_of_row W4 _ 3 _ _ _ S3_40.out
  have t4 : W4.cell? ⟨v3.heap.size, 4, none⟩ = some (.int .i64 x4) := cell_of_row W4 _ 4 _ _ _ S3_40.out
  have t5 : W4.cell? ⟨v3.heap.size, 5, none⟩ = some (.int .i64 x5) := cell_of_row W4 _ 5 _ _ _ S3_40.out
  have t6 : W4.cell? ⟨v3.heap.size, 6, none⟩ = some (.int .i64 x6) := cell_of_row W4 _ 6 _ _ _ S3_40.out
  have t7 : W4.cell? ⟨v3.heap.size, 7, none⟩ = some (.int .i64 x7) := cell_of_row W4 _ 7 _ _ _ S3_40.out
  have t8 : W4.cell? ⟨v3.heap.size, 8, none⟩ = some (.slice p3 l.length c3) := cell_of_row W4 _ 8 _ _ _ S3_40.out
  have t9 : W4.cell? ⟨v3.heap.size, 9, none⟩ = some (.int .i64 nx) := cell_of_row W4 _ 9 _ _ _ S3_40.out
  have t10 : W4.cell? ⟨v3.heap.size, 10, none⟩ = some (.int .i64 st) := cell_of_row W4 _ 10 _ _ _ S3_40.out
  have t11 : W4.cell? ⟨v3.heap.size, 11, none⟩ = some (.int .i64 tr) := cell_of_row W4 _ 11 _ _ _ S3_40.out
  have t12 : W4.cell? ⟨v3.heap.size, 12, none⟩ = some (.int .i64 sp) := cell_of_row W4 _ 12 _ _ _ S3_40.out
  go_wp2_with fail
  clear s0 s1 s2 s3 s4 s5 s6 s7 s8 s9 s10 s11 s12
  clear t0 t1 t2 t3 t4 t5 t6 t7 t8 t9 t10 t11 t12
  refine (sameState_any _ _ _ _ _ _ _ _ _ _ _ _ _ _ _ _ _ _ (rdW V2_38.out) (rdW V3_41.out) (by omega)).mono ?_
  rintro e W5 ⟨rfl, hb6⟩
  have hg := grown_of_below hb6
  have hzw5 : W4.heap.size ≤ W5.heap.size := hg.size
  have MD_43 := hide (MD_31.out.grow hg)
  have G_44 := hide (grown_trans G_32.out hg)
  have BQ_45 := hide (BQ_33.out.grow hg)
  have S1_46 := hide (grow_same hg S1_34.out)
  have V1_47 := hide (Rw.grow V1_35.out hg)
  have T1_48 := hide (Rw.grow T1_36.out hg)
  have S2_49 := hide (grow_same hg S2_37.out)
  have V2_50 := hide (Rw.grow V2_38.out hg)
  have T2_51 := hide (Rw.grow T2_39.out hg)
  have S3_52 := hide (grow_same hg S3_40.out)
  have V3_53 := hide (Rw.grow V3_41.out hg)
  have T3_54 := hide (Rw.grow T3_42.out hg)
  clear MD_31 G_32 BQ_33 S1_34 V1_35 T1_36 S2_37 V2_38 T2_39 S3_40 V3_41 T3_42
  clear hb6 hg
  go_upto_region 20 with fail
  go_wp2_with fail
  refine (sameTimes_any _ _ _ _ _ _ (rdT T1_48.out) (rdT T3_54.out) (by omega)).mono ?_
  rintro e W6 ⟨rfl, n6, hw6⟩
  have hg : W5.grownBy W6 none := by rw [hw6]; exact grown_draws _ _
  have hzw6 : W5.heap.size ≤ W6.heap.size := hg.size
  have MD_55 := hide (MD_43.out.grow hg)
  have G_56 := hide (grown_trans G_44.out hg)
  have BQ_57 := hide (BQ_45.out.grow hg)
  have S1_58 := hide (grow_same hg S1_46.out)
  have V1_59 := hide (Rw.grow V1_47.out hg)
  have T1_60 := hide (Rw.grow T1_48.out hg)
  have S2_61 := hide (grow_same hg S2_49.out)
  have V2_62 := hide (Rw.grow V2_50.out hg)
  have T2_63 := hide (Rw.grow T2_51.out hg)
  have S3_64 := hide (grow_same hg S3_52.out)
  have V3_65 := hide (Rw.grow V3_53.out hg)
  have T3_66 := hide (Rw.grow T3_54.out hg)
  clear MD_43 G_44 BQ_45 S1_46 V1_47 T1_48 S2_49 V2_50 T2_51 S3_52 V3_53 T3_54
  clear hw6 hg n6
  go_upto_region 21 with fail
  go_wp2_with fail
  refine (sameTimes_any _ _ _ _ _ _ (rdT T2_63.out) (rdT T3_66.out) (by omega)).mono ?_
  rintro e W7 ⟨rfl, n6, hw6⟩
  have hg : W6.grownBy W7 none := by rw [hw6]; exact grown_draws _ _
  have hzw7 : W6.heap.size ≤ W7.heap.size := hg.size
  have MD_67 := hide (MD_55.out.grow hg)
  have G_68 := hide (grown_trans G_56.out hg)
  have BQ_69 := hide (BQ_57.out.grow hg)
  have S1_70 := hide (grow_same hg S1_58.out)
  have V1_71 := hide (Rw.grow V1_59.out hg)
  have T1_72 := hide (Rw.grow T1_60.out hg)
  have S2_73 := hide (grow_same hg S2_61.out)
  have V2_74 := hide (Rw.grow V2_62.out hg)
  have T2_75 := hide (Rw.grow T2_63.out hg)
  have S3_76 := hide (grow_same hg S3_64.out)
  have V3_77 := hide (Rw.grow V3_65.out hg)
  have T3_78 := hide (Rw.grow T3_66.out hg)
  clear MD_55 G_56 BQ_57 S1_58 V1_59 T1_60 S2_61 V2_62 T2_63 S3_64 V3_65 T3_66
  clear hw6 hg n6
  go_upto_region 22 with fail
  have L_79 : Hid (Below B w W7) := (Below.refl B w).grown G_68.out hBw (by intro k hk; cases hk)
  clear G_68
  clear S3_76
  clear V3_77
  clear T3_78
  have FW0 : Hid (FreeH shW ms ys w1.heap.size) := OW.out.free (by omega)
  have s8 : W7.cell? ⟨v1.heap.size, 8, none⟩ = some (.slice p1 l.length c1) := cell_of_row W7 _ 8 _ _ _ S1_70.out
  go_wp2_with fail
  clear s8
  refine (keepWordsQ B bb _ _ _ _ _ _ _ _ _ _ _ _ _ _ _ _ _ BQ_69.out V1_71.out hl16 (by simp; omega) (by simp; omega) (fun y hy => ⟨lohi (OW.out.ys y hy).1 HI1.out (by omega), hilo HI1.out (OW.out.ys y hy).2 (by omega)⟩) (fun m hm => hilo HI1.out (OW.out.ms m hm) (by omega))).mono ?_
  rintro e W8 ⟨rfl, hk, hbB, aw1, ew1, xW1, hbk, hx⟩
  have X1 : Hid (HiB xW1 W7.heap.size) := hx
  have hzk1 : W7.heap.size ≤ W8.heap.size := hk.size
  clear V1_71
  clear S1_70
  have MD_80 := hide (MD_67.out.kr hk (by omega) (by omega) (by omega))
  have T1_81 := hide (Kr.row hk BQ_69.out.blk T1_72.out (by decide) (by decide) (by decide))
  have S2_82 := hide (hk.same S2_73.out (by decide) (by decide) (by omega))
  have V2_83 := hide (Kr.row hk BQ_69.out.blk V2_74.out (by decide) (by decide) (by decide))
  have T2_84 := hide (Kr.row hk BQ_69.out.blk T2_75.out (by decide) (by decide) (by decide))
  have L_85 := hide (L_79.out.trans hbB)
  have BQ_86 := hide (hbk)
  clear MD_67 T1_72 S2_73 V2_74 T2_75 L_79 BQ_69
  have FW1 := hide (FW0.out.snoc (l := l) HI1.out X1.out (by omega) (by omega))
  clear FW0
  clear hk hbB hbk hx
  go_upto_region 23 with fail
  have s8 : W8.cell? ⟨v2.heap.size, 8, none⟩ = some (.slice p2 l.length c2) := cell_of_row W8 _ 8 _ _ _ S2_82.out
  go_wp2_with fail
  clear s8
  have HY2 : Hid (∀ y ∈ ys ++ [((Value.slice p1 l.length c1), xW1, l)], Apart y.1 (Value.slice p2 l.length c2) ∧ Apart (Value.slice p2 l.length c2) y.2.1) := by
    intro y hy
    rcases List.mem_append.1 hy with h' | h'
    · exact ⟨lohi (OW.out.ys y h').1 HI2.out (by omega), hilo HI2.out (OW.out.ys y h').2 (by omega)⟩
    · simp at h'
      subst h'
      exact ⟨lohi LO1.out HI2.out (by omega), lohi LO2.out X1.out (by omega)⟩
  refine (keepWordsQ B bb _ _ _ _ _ _ _ _ _ _ _ _ _ _ _ _ _ BQ_86.out V2_83.out hl16 (by simp; omega) (by simp; omega) HY2.out (fun m hm => hilo HI2.out (OW.out.ms m hm) (by omega))).mono ?_
  rintro e W9 ⟨rfl, hk, hbB, aw2, ew2, xW2, hbk, hx⟩
  have X2 : Hid (HiB xW2 W8.heap.size) := hx
  have hzk2 : W8.heap.size ≤ W9.heap.size := hk.size
  clear V2_83
  clear S2_82
  have MD_87 := hide (MD_80.out.kr hk (by omega) (by omega) (by omega))
  have T1_88 := hide (Kr.row hk BQ_86.out.blk T1_81.out (by decide) (by decide) (by decide))
  have T2_89 := hide (Kr.row hk BQ_86.out.blk T2_84.out (by decide) (by decide) (by decide))
  have L_90 := hide (L_85.out.trans hbB)
  have BQ_91 := hide (hbk)
  clear MD_80 T1_81 T2_84 L_85 BQ_86
  have FW2 := hide (FW1.out.snoc (l := l) HI2.out X2.out (by omega) (by omega))
  clear FW1
  clear hk hbB hbk hx HY2
  go_upto_region 24 with fail
  go_wp2_with fail
  refine (keepTimesQ B bb _ _ _ _ _ _ _ _ _ _ _ _ _ _ _ _ _ BQ_91.out T1_88.out htl4 (by simp; omega) (by simp; omega) (fun y hy => ⟨lohi (OT.out.ys y hy).1 HT1.out (by omega), hilo HT1.out (OT.out.ys y hy).2 (by omega)⟩) (fun m hm => hilo HT1.out (OT.out.ms m hm) (by omega))).mono ?_
  rintro e W10 ⟨rfl, hk, hbB, aw3, ew3, xT1, hbk, hx⟩
  have Y1 : Hid (HiB xT1 W9.heap.size) := hx
  have hzk3 : W9.heap.size ≤ W10.heap.size := hk.size
  clear T1_88
  have MD_92 := hide (MD_87.out.kr hk (by omega) (by omega) (by omega))
  have T2_93 := hide (Kr.row hk BQ_91.out.blk T2_89.out (by decide) (by decide) (by decide))
  have L_94 := hide (L_90.out.trans hbB)
  have BQ_95 := hide (hbk)
  clear MD_87 T2_89 L_90 BQ_91
  clear hk hbB hbk hx
  go_upto_region 25 with fail
  go_wp2_with fail
  have HY2 : Hid (∀ y ∈ zs ++ [((Value.slice pt1 tl.length ct1), xT1, tl)], Apart y.1 (Value.slice pt2 tl.length ct2) ∧ Apart (Value.slice pt2 tl.length ct2) y.2.1) := by
    intro y hy
    rcases List.mem_append.1 hy with h' | h'
    · exact ⟨lohi (OT.out.ys y h').1 HT2.out (by omega), hilo HT2.out (OT.out.ys y h').2 (by omega)⟩
    · simp at h'
      subst h'
      exact ⟨lohi LT1.out HT2.out (by omega), lohi LT2.out Y1.out (by omega)⟩
  refine (keepTimesQ B bb _ _ _ _ _ _ _ _ _ _ _ _ _ _ _ _ _ BQ_95.out T2_93.out htl4 (by simp; omega) (by simp; omega) HY2.out (fun m hm => hilo HT2.out (OT.out.ms m hm) (by omega))).mono ?_
  rintro e W11 ⟨rfl, hk, hbB, aw4, ew4, xT2, hbk, hx⟩
  have Y2 : Hid (HiB xT2 W10.heap.size) := hx
  have hzk4 : W10.heap.size ≤ W11.heap.size := hk.size
  clear T2_93
  have MD_96 := hide (MD_92.out.kr hk (by omega) (by omega) (by omega))
  have L_97 := hide (L_94.out.trans hbB)
  have BQ_98 := hide (hbk)
  clear MD_92 L_94 BQ_95
  clear hk hbB hbk hx HY2
  go_upto_region 26 with fail
  have t9 : (er == er) = true := by simp
  go_upto_region 27 with (go_at_call 14; refine (num_any _ _).mono ?_; rintro e w' ⟨rfl, hw'⟩; obtain rfl : W11 = w' := hw'.symm)
  obtain ⟨curO, o1, o2⟩ := MD_96.out.ord
  have PO := hide o1
  have hPz := lt_of_blk o1
  clear o1 o2
  have a10 : W11.cell? ⟨w.heap.size, 10, none⟩ = some (.slice p prog.length c) := MD_96.out.cell 10
  go_wp2_with fail
  clear a10
  refine (untouchedOrders_any (w.heap.size + 1) _ _ _ _ (HP.out.keep L_97.out HPB.out) MD_96.out.ord (fun a ha => by have := HPB.out a ha; omega) hl1).mono ?_
  rintro e Wy ⟨rfl, hg⟩
  have hzL : w.heap.size ≤ W11.heap.size := L_97.out.size
  have LY : Hid (Below B w Wy) := L_97.out.grown hg (by omega) (by intro k hk; simp at hk; omega)
  have hbox := (hg.block _ (lt_of_blk MD_96.out.box) (by simp)).trans MD_96.out.box
  have hwds : HandW Wy w1.heap.size mem := MD_96.out.wds.keep (hg.block _ (lt_of_blk MD_96.out.wds.choose_spec.1) (by simp; omega))
  have BY := hide (show Bq Wy B bb wv aw2 ew2 ms _ _ _ tv aw4 ew4 ts _ _ _ from ⟨(hg.block bb (lt_of_blk BQ_98.out.blk) (by simp; omega)).trans BQ_98.out.blk, hBb, Nat.le_trans BQ_98.out.small hg.size, BQ_98.out.hw.block PO.out hg (.inl (by decide)) (by decide), BQ_98.out.ht.block PO.out hg (.inl (by decide)) (by decide)⟩)
  have HWD := hide hwds
  have hzY := hg.size
  clear MD_96
  clear BQ_98
  clear L_97
  have a11 : Wy.cell? ⟨w.heap.size, 11, none⟩ = some (.slice pm mem.length cm) := cell_of_row Wy _ 11 _ _ _ hbox
  clear hg hbox hwds PO
  go_upto_region 28 with fail
  go_wp2_with fail
  clear a11
  obtain ⟨curW, q1, q2⟩ := HWD.out
  refine (untouchedWords_any w1.heap.size _ _ _ _ (HM.out.keep LY.out HMB.out) HWD.out (fun a ha => by have := HMB.out a ha; omega) hl2).mono ?_
  rintro e Wz ⟨rfl, hg⟩
  have LZ : Hid (Below B w Wz) := LY.out.grown hg (by omega) (by intro k hk; simp at hk; omega)
  have hbz : Bq Wz B bb wv aw2 ew2 ms _ _ _ tv aw4 ew4 ts _ _ _ := ⟨(hg.block bb (lt_of_blk BY.out.blk) (by simp; omega)).trans BY.out.blk, hBb, Nat.le_trans BY.out.small hg.size, BY.out.hw.block q1 hg (.inr FW2.out) (by decide), BY.out.ht.block q1 hg (.inl (by decide)) (by decide)⟩
  have BZ : Hid (Bq Wz B bb wv aw2 ew2 ms ((ys ++ [(Value.slice p1 l.length c1, xW1, l)] ++ [(Value.slice p2 l.length c2, xW2, l)]).map (·.1)) ((ys ++ [(Value.slice p1 l.length c1, xW1, l)] ++ [(Value.slice p2 l.length c2, xW2, l)]).map (·.2.1)) (ys ++ [(Value.slice p1 l.length c1, xW1, l)] ++ [(Value.slice p2 l.length c2, xW2, l)]) tv aw4 ew4 ts ((zs ++ [(Value.slice pt1 tl.length ct1, xT1, tl)] ++ [(Value.slice pt2 tl.length ct2, xT2, tl)]).map (·.1)) ((zs ++ [(Value.slice pt1 tl.length ct1, xT1, tl)] ++ [(Value.slice pt2 tl.length ct2, xT2, tl)]).map (·.2.1)) (zs ++ [(Value.slice pt1 tl.length ct1, xT1, tl)] ++ [(Value.slice pt2 tl.length ct2, xT2, tl)])) := hide (by simpa using hbz)
  clear hg hbz q1 q2 BY HWD LY
  go_upto_region 29 with fail
  go_wp2_with fail
  refine (looksK B bb (n + 1) q r _ _ _ _ _ _ _ _ _ _ _ HQ.out HR.out BZ.out (by intro y hy; simp at hy; rcases hy with h | rfl | rfl; exact HTY.out y h; exact TI1.out; exact TI2.out) (by intro y hy; simp at hy; rcases hy with h | rfl | rfl; exact HTZ.out y h; exact TT1.out; exact TT2.out) (by first | omega | (simp; omega)) (by first | omega | (simp; omega)) (by have := HQN.out; simp; omega) (by have := HRN.out; simp; omega) hn).mono ?_
  rintro e We ⟨rfl, hbe, hke⟩
  go_wp2
  go_ret
  exact ⟨rfl, LZ.out.trans hbe, hke⟩

set_option maxRecDepth 100000 in
set_option maxHeartbeats 8000000 in
theorem oneQ1 (B bb n : Nat) (u0 u1 u2 u3 l0 l1 l2 l3 b : Int) (p pm : Option Addr) (c cm : Nat) (prog : List Ord) (mem : List Int) (steps : Int) (w : World)
    (hb : Bkk w B bb n) (hn : n + 1 ≤ 1100000000000) (hp : RdO w p prog) (hm : Rd w pm mem) (hpB : Under p B) (hmB : Under pm B) (hl1 : prog.length * 40 ≤ 140737488351232) (hl2 : mem.length * 8 ≤ 140737488351232) :
    Calls Tryz.prog 6 #[.pointer (some ⟨bb, 0, none⟩), .agg #[.int .i64 1, .int .i64 u0, .int .i64 u1, .int .i64 u2, .int .i64 u3, .int .i64 l0, .int .i64 l1, .int .i64 l2, .int .i64 l3, .int .i64 b, .slice p prog.length c, .slice pm mem.length cm, .int .i64 steps]] w fun e w' => e = .returned (.bool true) ∧ Below B w w' ∧ Bkk w' B bb (n + 1) := by
  obtain ⟨hreg, hl16⟩ := answer_fine prog mem steps
  obtain ⟨x0, x1, x2, x3, x4, x5, x6, x7, hx⟩ := list8 hreg
  obtain ⟨nx, hnx⟩ : ∃ x, ((answer prog mem steps).1.next : Int) = x := ⟨_, rfl⟩
  obtain ⟨st, hst⟩ : ∃ x, (answer prog mem steps).2.1 = x := ⟨_, rfl⟩
  obtain ⟨tr, htr⟩ : ∃ x, (answer prog mem steps).2.2.1 = x := ⟨_, rfl⟩
  obtain ⟨sp, hsp⟩ : ∃ x, ((answer prog mem steps).1.steps : Int) = x := ⟨_, rfl⟩
  obtain ⟨er, her⟩ : ∃ x, (answer prog mem steps).2.2.2 = x := ⟨_, rfl⟩
  obtain ⟨l, hl⟩ : ∃ x, (answer prog mem steps).1.mem = x := ⟨_, rfl⟩
  rw [hl] at hl16
  have hpl : (prog.length : Int) ≤ 1000000000000000 := by omega
  have hmm : (mem.length : Int) ≤ 1000000000000000 := by omega
  have RU := hide (fun p pm c cm W h1 h2 => plain_lit p pm c cm prog mem steps W h1 h2 hpl hmm hx hnx hst htr hsp her hl)
  have RR := hide (fun p pm c cm W h1 h2 => ref_lit p pm c cm prog mem steps W h1 h2 hpl hmm hx hnx hst htr hsp her hl)
  clear hreg hx hnx hst htr hsp her hl hpl hmm
  obtain ⟨q, r, wv, aw, ew, ms, ys, tv, at', et, ts, zs, hq, hr, hb, hty, htz, h5, hqn, hrn⟩ := hb
  have HQ := hide hq
  have HR := hide hr
  have HTY := hide hty
  have HTZ := hide htz
  have HQN := hide hqn
  have HRN := hide hrn
  have HP := hide hp
  have HM := hide hm
  have HPB := hide hpB
  have HMB := hide hmB
  have hBw := hb.small
  have hbbz := lt_of_blk hb.blk
  have hBb := hb.base
  have OW := hide hb.hw.old
  have OT := hide hb.ht.old
  have HB0 := hide hb
  clear hq hr hb hty htz hp hm hpB hmB hqn hrn
  go_enter Tryz.func6, Tryz.ntmps6
  go_wp2_with fail
  refine (handedOrders_any _ _ _ _ (HP.out.below (Nat.le_refl _) ((Below.refl _ _).alloc (Nat.le_refl _) _)) hl1).mono ?_
  rintro e w1 ⟨rfl, hb1, hO1⟩
  have hN1 := below_same hb1 (heap_alloc_new w (.cells #[.int .i64 1, .int .i64 u0, .int .i64 u1, .int .i64 u2, .int .i64 u3, .int .i64 l0, .int .i64 l1, .int .i64 l2, .int .i64 l3, .int .i64 b, .slice p prog.length c, .slice pm mem.length cm, .int .i64 steps] 34))
  have hg1 : w.grownBy w1 none := grown_trans (World.grownBy_alloc w (.cells #[.int .i64 1, .int .i64 u0, .int .i64 u1, .int .i64 u2, .int .i64 u3, .int .i64 l0, .int .i64 l1, .int .i64 l2, .int .i64 l3, .int .i64 b, .slice p prog.length c, .slice pm mem.length cm, .int .i64 steps] 34) none) (grown_of_below hb1)
  have hO1' : HandO w1 (w.heap.size + 1) prog := by simpa using hO1
  have HN1 := hide hN1
  have HO1 := hide hO1'
  have HG1 := hide hg1
  have hz1 : w.heap.size + 1 < w1.heap.size := lt_of_blk hO1'.choose_spec.1
  clear hb1 hO1 hO1' hg1
  have a11 : w1.cell? ⟨w.heap.size, 11, none⟩ = some (.slice pm mem.length cm) := cell_of_row w1 _ 11 _ _ _ hN1
  clear hN1
  go_wp2_with fail
  clear a11
  refine (handedWords_any _ _ _ _ (HM.out.below (Nat.le_refl _) ((Below.refl _ _).grown HG1.out (Nat.le_refl _) (by intro k hk; cases hk))) hl2).mono ?_
  rintro e w2 ⟨rfl, hb2, hW2⟩
  have hg2 := grown_of_below hb2
  have hz2 : w1.heap.size < w2.heap.size := lt_of_blk hW2.choose_spec.1
  have MD_1 : Hid (Md w2 w.heap.size (w.heap.size + 1) w1.heap.size #[.int .i64 1, .int .i64 u0, .int .i64 u1, .int .i64 u2, .int .i64 u3, .int .i64 l0, .int .i64 l1, .int .i64 l2, .int .i64 l3, .int .i64 b, .slice p prog.length c, .slice pm mem.length cm, .int .i64 steps] prog mem) := ⟨grow_same hg2 HN1.out, HO1.out.keep (hb2.block _ (lt_of_blk HO1.out.choose_spec.1)), hW2⟩
  have G_2 : Hid (w.grownBy w2 none) := grown_trans HG1.out hg2
  have BQ_3 := hide (HB0.out.grow G_2.out)
  clear hb2 hW2 hg2 HN1 HO1 HG1
  have a0 : w2.cell? ⟨w.heap.size, 0, none⟩ = some (.int .i64 1) := MD_1.out.cell 0
  have a12 : w2.cell? ⟨w.heap.size, 12, none⟩ = some (.int .i64 steps) := MD_1.out.cell 12
  go_wp2_with fail
  clear a0 a12
  refine (RU.out _ _ _ _ _ MD_1.out.ord.rd MD_1.out.wds.rd).mono ?_
  rintro e v1 ⟨p1, c1, rfl, hb3, ho3', ht3⟩
  have ho3 := Rw.own.2 ho3'
  clear ho3'
  have HX1 := hide hb3
  have HX2 := hide ho3
  have TI1 := hide ht3
  clear hb3 ho3 ht3
  go_upto_region 7 with fail
  obtain ⟨W1, hW⟩ : ∃ W, v1.alloc (.cells #[.int .i64 x0, .int .i64 x1, .int .i64 x2, .int .i64 x3, .int .i64 x4, .int .i64 x5, .int .i64 x6, .int .i64 x7, .slice p1 l.length c1, .int .i64 nx, .int .i64 st, .int .i64 tr, .int .i64 sp] 46) = W := ⟨_, rfl⟩
  rw [hW]
  have hg : w2.grownBy W1 none := by rw [← hW]; exact grown_trans (grown_of_below HX1.out) (World.grownBy_alloc _ _ none)
  have hgv : v1.grownBy W1 none := by rw [← hW]; exact World.grownBy_alloc _ _ none
  have hzz1 : w2.heap.size ≤ v1.heap.size := HX1.out.size
  have hzw1 : v1.heap.size < W1.heap.size := by rw [← hW]; simp
  have LO1 := hide HX2.out.lo
  have HI1 := hide HX2.out.hi
  have MD_4 := hide (MD_1.out.grow hg)
  have G_5 := hide (grown_trans G_2.out hg)
  have BQ_6 := hide (BQ_3.out.grow hg)
  clear MD_1 G_2 BQ_3
  have S1_7 : Hid (W1.heap[v1.heap.size]? = some (.cells #[.int .i64 x0, .int .i64 x1, .int .i64 x2, .int .i64 x3, .int .i64 x4, .int .i64 x5, .int .i64 x6, .int .i64 x7, .slice p1 l.length c1, .int .i64 nx, .int .i64 st, .int .i64 tr, .int .i64 sp] 46 (0, 0))) := by rw [← hW]; exact heap_alloc_new _ _
  have V1_8 : Hid (Rw shW W1 B (.slice p1 l.length c1) l) := (HX2.out.grow hgv).base (by omega)
  clear hW hg hgv HX1 HX2
  have a0 : W1.cell? ⟨w.heap.size, 0, none⟩ = some (.int .i64 1) := MD_4.out.cell 0
  have a12 : W1.cell? ⟨w.heap.size, 12, none⟩ = some (.int .i64 steps) := MD_4.out.cell 12
  go_wp2_with fail
  clear a0 a12
  refine (RU.out _ _ _ _ _ MD_4.out.ord.rd MD_4.out.wds.rd).mono ?_
  rintro e v2 ⟨p2, c2, rfl, hb3, ho3', ht3⟩
  have ho3 := Rw.own.2 ho3'
  clear ho3'
  have HX1 := hide hb3
  have HX2 := hide ho3
  have TI2 := hide ht3
  clear hb3 ho3 ht3
  go_upto_region 8 with fail
  obtain ⟨W2, hW⟩ : ∃ W, v2.alloc (.cells #[.int .i64 x0, .int .i64 x1, .int .i64 x2, .int .i64 x3, .int .i64 x4, .int .i64 x5, .int .i64 x6, .int .i64 x7, .slice p2 l.length c2, .int .i64 nx, .int .i64 st, .int .i64 tr, .int .i64 sp] 46) = W := ⟨_, rfl⟩
  rw [hW]
  have hg : W1.grownBy W2 none := by rw [← hW]; exact grown_trans (grown_of_below HX1.out) (World.grownBy_alloc _ _ none)
  have hgv : v2.grownBy W2 none := by rw [← hW]; exact World.grownBy_alloc _ _ none
  have hzz2 : W1.heap.size ≤ v2.heap.size := HX1.out.size
  have hzw2 : v2.heap.size < W2.heap.size := by rw [← hW]; simp
  have LO2 := hide HX2.out.lo
  have HI2 := hide HX2.out.hi
  have MD_9 := hide (MD_4.out.grow hg)
  have G_10 := hide (grown_trans G_5.out hg)
  have BQ_11 := hide (BQ_6.out.grow hg)
  have S1_12 := hide (grow_same hg S1_7.out)
  have V1_13 := hide (Rw.grow V1_8.out hg)
  clear MD_4 G_5 BQ_6 S1_7 V1_8
  have S2_14 : Hid (W2.heap[v2.heap.size]? = some (.cells #[.int .i64 x0, .int .i64 x1, .int .i64 x2, .int .i64 x3, .int .i64 x4, .int .i64 x5, .int .i64 x6, .int .i64 x7, .slice p2 l.length c2, .int .i64 nx, .int .i64 st, .int .i64 tr, .int .i64 sp] 46 (0, 0))) := by rw [← hW]; exact heap_alloc_new _ _
  have V2_15 : Hid (Rw shW W2 B (.slice p2 l.length c2) l) := (HX2.out.grow hgv).base (by omega)
  clear hW hg hgv HX1 HX2
  have a0 : W2.cell? ⟨w.heap.size, 0, none⟩ = some (.int .i64 1) := MD_9.out.cell 0
  have a10 : W2.cell? ⟨w.heap.size, 10, none⟩ = some (.slice p prog.length c) := MD_9.out.cell 10
  have a11 : W2.cell? ⟨w.heap.size, 11, none⟩ = some (.slice pm mem.length cm) := MD_9.out.cell 11
  have a12 : W2.cell? ⟨w.heap.size, 12, none⟩ = some (.int .i64 steps) := MD_9.out.cell 12
  go_wp2_with fail
  clear a0 a10 a11 a12
  refine (RR.out _ _ _ _ _ (HP.out.below (Nat.le_refl _) ((Below.refl _ _).grown G_10.out (Nat.le_refl _) (by intro k hk; cases hk))) (HM.out.below (Nat.le_refl _) ((Below.refl _ _).grown G_10.out (Nat.le_refl _) (by intro k hk; cases hk)))).mono ?_
  rintro e v3 ⟨p3, c3, rfl, hb3, ho3'⟩
  have ho3 := Rw.own.2 ho3'
  clear ho3'
  have HX1 := hide hb3
  have HX2 := hide ho3
  clear hb3 ho3
  go_upto_region 9 with fail
  obtain ⟨W3, hW⟩ : ∃ W, v3.alloc (.cells #[.int .i64 x0, .int .i64 x1, .int .i64 x2, .int .i64 x3, .int .i64 x4, .int .i64 x5, .int .i64 x6, .int .i64 x7, .slice p3 l.length c3, .int .i64 nx, .int .i64 st, .int .i64 tr, .int .i64 sp] 46) = W := ⟨_, rfl⟩
  rw [hW]
  have hg : W2.grownBy W3 none := by rw [← hW]; exact grown_trans (grown_of_below HX1.out) (World.grownBy_alloc _ _ none)
  have hgv : v3.grownBy W3 none := by rw [← hW]; exact World.grownBy_alloc _ _ none
  have hzz3 : W2.heap.size ≤ v3.heap.size := HX1.out.size
  have hzw3 : v3.heap.size < W3.heap.size := by rw [← hW]; simp
  have MD_16 := hide (MD_9.out.grow hg)
  have G_17 := hide (grown_trans G_10.out hg)
  have BQ_18 := hide (BQ_11.out.grow hg)
  have S1_19 := hide (grow_same hg S1_12.out)
  have V1_20 := hide (Rw.grow V1_13.out hg)
  have S2_21 := hide (grow_same hg S2_14.out)
  have V2_22 := hide (Rw.grow V2_15.out hg)
  clear MD_9 G_10 BQ_11 S1_12 V1_13 S2_14 V2_15
  have S3_23 : Hid (W3.heap[v3.heap.size]? = some (.cells #[.int .i64 x0, .int .i64 x1, .int .i64 x2, .int .i64 x3, .int .i64 x4, .int .i64 x5, .int .i64 x6, .int .i64 x7, .slice p3 l.length c3, .int .i64 nx, .int .i64 st, .int .i64 tr, .int .i64 sp] 46 (0, 0))) := by rw [← hW]; exact heap_alloc_new _ _
  have V3_24 : Hid (Rw shW W3 B (.slice p3 l.length c3) l) := (HX2.out.grow hgv).base (by omega)
  clear hW hg hgv HX1 HX2
  have s0 : W3.cell? ⟨v1.heap.size, 0, none⟩ = some (.int .i64 x0) := cell_of_row W3 _ 0 _ _ _ S1_19.out
  have s1 : W3.cell? ⟨v1.heap.size, 1, none⟩ = some (.int .i64 x1) := cell_of_row W3 _ 1 _ _ _ S1_19.out
  have s2 : W3.cell? ⟨v1.heap.size, 2, none⟩ = some (.int .i64 x2) := cell_of_row W3 _ 2 _ _ _ S1_19.out
  have s3 : W3.cell? ⟨v1.heap.size, 3, none⟩ = some (.int .i64 x3) := cell_of_row W3 _ 3 _ _ _ S1_19.out
  have s4 : W3.cell? ⟨v1.heap.size, 4, none⟩ = some (.int .i64 x4) := cell_of_row W3 _ 4 _ _ _ S1_19.out
  have s5 : W3.cell? ⟨v1.heap.size, 5, none⟩ = some (.int .i64 x5) := cell_of_row W3 _ 5 _ _ _ S1_19.out
  have s6 : W3.cell? ⟨v1.heap.size, 6, none⟩ = some (.int .i64 x6) := cell_of_row W3 _ 6 _ _ _ S1_19.out
  have s7 : W3.cell? ⟨v1.heap.size, 7, none⟩ = some (.int .i64 x7) := cell_of_row W3 _ 7 _ _ _ S1_19.out
  have s8 : W3.cell? ⟨v1.heap.size, 8, none⟩ = some (.slice p1 l.length c1) := cell_of_row W3 _ 8 _ _ _ S1_19.out
  have s9 : W3.cell? ⟨v1.heap.size, 9, none⟩ = some (.int .i64 nx) := cell_of_row W3 _ 9 _ _ _ S1_19.out
  have s10 : W3.cell? ⟨v1.heap.size, 10, none⟩ = some (.int .i64 st) := cell_of_row W3 _ 10 _ _ _ S1_19.out
  have s11 : W3.cell? ⟨v1.heap.size, 11, none⟩ = some (.int .i64 tr) := cell_of_row W3 _ 11 _ _ _ S1_19.out
  have s12 : W3.cell? ⟨v1.heap.size, 12, none⟩ = some (.int .i64 sp) := cell_of_row W3 _ 12 _ _ _ S1_19.out
  have t0 : W3.cell? ⟨v3.heap.size, 0, none⟩ = some (.int .i64 x0) := cell_of_row W3 _ 0 _ _ _ S3_23.out
  have t1 : W3.cell? ⟨v3.heap.size, 1, none⟩ = some (.int .i64 x1) := cell_of_row W3 _ 1 _ _ _ S3_23.out
  have t2 : W3.cell? ⟨v3.heap.size, 2, none⟩ = some (.int .i64 x2) := cell_of_row W3 _ 2 _ _ _ S3_23.out
  have t3 : W3.cell? ⟨v3.heap.size, 3, none⟩ = some (.int .i64 x3) := cell_of_row W3 _ 3 _ _ _ S3_23.out
  have t4 : W3.cell? ⟨v3.heap.size, 4, none⟩ = some (.int .i64 x4) := cell_of_row W3 _ 4 _ _ _ S3_23.out
  have t5 : W3.cell? ⟨v3.heap.size, 5, none⟩ = some (.int .i64 x5) := cell_of_row W3 _ 5 _ _ _ S3_23.out
  have t6 : W3.cell? ⟨v3.heap.size, 6, none⟩ = some (.int .i64 x6) := cell_of_row W3 _ 6 _ _ _ S3_23.out
  have t7 : W3.cell? ⟨v3.heap.size, 7, none⟩ = some (.int .i64 x7) := cell_of_row W3 _ 7 _ _ _ S3_23.out
  have t8 : W3.cell? ⟨v3.heap.size, 8, none⟩ = some (.slice p3 l.length c3) := cell_of_row W3 _ 8 _ _ _ S3_23.out
  have t9 : W3.cell? ⟨v3.heap.size, 9, none⟩ = some (.int .i64 nx) := cell_of_row W3 _ 9 _ _ _ S3_23.out
  have t10 : W3.cell? ⟨v3.heap.size, 10, none⟩ = some (.int .i64 st) := cell_of_row W3 _ 10 _ _ _ S3_23.out
  have t11 : W3.cell? ⟨v3.heap.size, 11, none⟩ = some (.int .i64 tr) := cell_of_row W3 _ 11 _ _ _ S3_23.out
  have t12 : W3.cell? ⟨v3.heap.size, 12, none⟩ = some (.int .i64 sp) := cell_of_row W3 _ 12 _ _ _ S3_23.out
  go_wp2_with fail
  clear s0 s1 s2 s3 s4 s5 s6 s7 s8 s9 s10 s11 s12
  clear t0 t1 t2 t3 t4 t5 t6 t7 t8 t9 t10 t11 t12
  refine (sameState_any _ _ _ _ _ _ _ _ _ _ _ _ _ _ _ _ _ _ (rdW V1_20.out) (rdW V3_24.out) (by omega)).mono ?_
  rintro e W4 ⟨rfl, hb6⟩
  have hg := grown_of_below hb6
  have hzw4 : W3.heap.size ≤ W4.heap.size := hg.size
  have MD_25 := hide (MD_16.out.grow hg)
  have G_26 := hide (grown_trans G_17.out hg)
  have BQ_27 := hide (BQ_18.out.grow hg)
  have S1_28 := hide (grow_same hg S1_19.out)
  have V1_29 := hide (Rw.grow V1_20.out hg)
  have S2_30 := hide (grow_same hg S2_21.out)
  have V2_31 := hide (Rw.grow V2_22.out hg)
  have S3_32 := hide (grow_same hg S3_23.out)
  have V3_33 := hide (Rw.grow V3_24.out hg)
  clear MD_16 G_17 BQ_18 S1_19 V1_20 S2_21 V2_22 S3_23 V3_24
  clear hb6 hg
  go_upto_region 10 with fail
  have s0 : W4.cell? ⟨v2.heap.size, 0, none⟩ = some (.int .i64 x0) := cell_of_row W4 _ 0 _ _ _ S2_30.out
  have s1 : W4.cell? ⟨v2.heap.size, 1, none⟩ = some (.int .i64 x1) := cell_of_row W4 _ 1 _ _ _ S2_30.out
  have s2 : W4.cell? ⟨v2.heap.size, 2, none⟩ = some (.int .i64 x2) := cell_of_row W4 _ 2 _ _ _ S2_30.out
  have s3 : W4.cell? ⟨v2.heap.size, 3, none⟩ = some (.int .i64 x3) := cell_of_row W4 _ 3 _ _ _ S2_30.out
  have s4 : W4.cell? ⟨v2.heap.size, 4, none⟩ = some (.int .i64 x4) := cell_of_row W4 _ 4 _ _ _ S2_30.out
  have s5 : W4.cell? ⟨v2.heap.size, 5, none⟩ = some (.int .i64 x5) := cell_of_row W4 _ 5 _ _ _ S2_30.out
  have s6 : W4.cell? ⟨v2.heap.size, 6, none⟩ = some (.int .i64 x6) := cell_of_row W4 _ 6 _ _ _ S2_30.out
  have s7 : W4.cell? ⟨v2.heap.size, 7, none⟩ = some (.int .i64 x7) := cell_of_row W4 _ 7 _ _ _ S2_30.out
  have s8 : W4.cell? ⟨v2.heap.size, 8, none⟩ = some (.slice p2 l.length c2) := cell_of_row W4 _ 8 _ _ _ S2_30.out
  have s9 : W4.cell? ⟨v2.heap.size, 9, none⟩ = some (.int .i64 nx) := cell_of_row W4 _ 9 _ _ _ S2_30.out
  have s10 : W4.cell? ⟨v2.heap.size, 10, none⟩ = some (.int .i64 st) := cell_of_row W4 _ 10 _ _ _ S2_30.out
  have s11 : W4.cell? ⟨v2.heap.size, 11, none⟩ = some (.int .i64 tr) := cell_of_row W4 _ 11 _ _ _ S2_30.out
  have s12 : W4.cell? ⟨v2.heap.size, 12, none⟩ = some (.int .i64 sp) := cell_of_row W4 _ 12 _ _ _ S2_30.out
  have t0 : W4.cell? ⟨v3.heap.size, 0, none⟩ = some (.int .i64 x0) := cell_of_row W4 _ 0 _ _ _ S3_32.out
  have t1 : W4.cell? ⟨v3.heap.size, 1, none⟩ = some (.int .i64 x1) := cell_of_row W4 _ 1 _ _ _ S3_32.out
  have t2 : W4.cell? ⟨v3.heap.size, 2, none⟩ = some (.int .i64 x2) := cell_of_row W4 _ 2 _ _ _ S3_32.out
  have t3 : W4.cell? ⟨v3.heap.size, 3, none⟩ = some (.int .i64 x3) := cell_of_row W4 _ 3 _ _ _ S3_32.out
  have t4 : W4.cell? ⟨v3.heap.size, 4, none⟩ = some (.int .i64 x4) := cell_of_row W4 _ 4 _ _ _ S3_32.out
  have t5 : W4.cell? ⟨v3.heap.size, 5, none⟩ = some (.int .i64 x5) := cell_of_row W4 _ 5 _ _ _ S3_32.out
  have t6 : W4.cell? ⟨v3.heap.size, 6, none⟩ = some (.int .i64 x6) := cell_of_row W4 _ 6 _ _ _ S3_32.out
  have t7 : W4.cell? ⟨v3.heap.size, 7, none⟩ = some (.int .i64 x7) := cell_of_row W4 _ 7 _ _ _ S3_32.out
  have t8 : W4.cell? ⟨v3.heap.size, 8, none⟩ = some (.slice p3 l.length c3) := cell_of_row W4 _ 8 _ _ _ S3_32.out
  have t9 : W4.cell? ⟨v3.heap.size, 9, none⟩ = some (.int .i64 nx) := cell_of_row W4 _ 9 _ _ _ S3_32.out
  have t10 : W4.cell? ⟨v3.heap.size, 10, none⟩ = some (.int .i64 st) := cell_of_row W4 _ 10 _ _ _ S3_32.out
  have t11 : W4.cell? ⟨v3.heap.size, 11, none⟩ = some (.int .i64 tr) := cell_of_row W4 _ 11 _ _ _ S3_32.out
  have t12 : W4.cell? ⟨v3.heap.size, 12, none⟩ = some (.int .i64 sp) := cell_of_row W4 _ 12 _ _ _ S3_32.out
  go_wp2_with fail
  clear s0 s1 s2 s3 s4 s5 s6 s7 s8 s9 s10 s11 s12
  clear t0 t1 t2 t3 t4 t5 t6 t7 t8 t9 t10 t11 t12
  refine (sameState_any _ _ _ _ _ _ _ _ _ _ _ _ _ _ _ _ _ _ (rdW V2_31.out) (rdW V3_33.out) (by omega)).mono ?_
  rintro e W5 ⟨rfl, hb6⟩
  have hg := grown_of_below hb6
  have hzw5 : W4.heap.size ≤ W5.heap.size := hg.size
  have MD_34 := hide (MD_25.out.grow hg)
  have G_35 := hide (grown_trans G_26.out hg)
  have BQ_36 := hide (BQ_27.out.grow hg)
  have S1_37 := hide (grow_same hg S1_28.out)
  have V1_38 := hide (Rw.grow V1_29.out hg)
  have S2_39 := hide (grow_same hg S2_30.out)
  have V2_40 := hide (Rw.grow V2_31.out hg)
  have S3_41 := hide (grow_same hg S3_32.out)
  have V3_42 := hide (Rw.grow V3_33.out hg)
  clear MD_25 G_26 BQ_27 S1_28 V1_29 S2_30 V2_31 S3_32 V3_33
  clear hb6 hg
  go_upto_region 11 with fail
  have L_43 : Hid (Below B w W5) := (Below.refl B w).grown G_35.out hBw (by intro k hk; cases hk)
  clear G_35
  clear S3_41
  clear V3_42
  have FW0 : Hid (FreeH shW ms ys w1.heap.size) := OW.out.free (by omega)
  have s8 : W5.cell? ⟨v1.heap.size, 8, none⟩ = some (.slice p1 l.length c1) := cell_of_row W5 _ 8 _ _ _ S1_37.out
  go_wp2_with fail
  clear s8
  refine (keepWordsQ B bb _ _ _ _ _ _ _ _ _ _ _ _ _ _ _ _ _ BQ_36.out V1_38.out hl16 (by simp; omega) (by simp; omega) (fun y hy => ⟨lohi (OW.out.ys y hy).1 HI1.out (by omega), hilo HI1.out (OW.out.ys y hy).2 (by omega)⟩) (fun m hm => hilo HI1.out (OW.out.ms m hm) (by omega))).mono ?_
  rintro e W8 ⟨rfl, hk, hbB, aw1, ew1, xW1, hbk, hx⟩
  have X1 : Hid (HiB xW1 W5.heap.size) := hx
  have hzk1 : W5.heap.size ≤ W8.heap.size := hk.size
  clear V1_38
  clear S1_37
  have MD_44 := hide (MD_34.out.kr hk (by omega) (by omega) (by omega))
  have S2_45 := hide (hk.same S2_39.out (by decide) (by decide) (by omega))
  have V2_46 := hide (Kr.row hk BQ_36.out.blk V2_40.out (by decide) (by decide) (by decide))
  have L_47 := hide (L_43.out.trans hbB)
  have BQ_48 := hide (hbk)
  clear MD_34 S2_39 V2_40 L_43 BQ_36
  have FW1 := hide (FW0.out.snoc (l := l) HI1.out X1.out (by omega) (by omega))
  clear FW0
  clear hk hbB hbk hx
  go_upto_region 12 with fail
  have s8 : W8.cell? ⟨v2.heap.size, 8, none⟩ = some (.slice p2 l.length c2) := cell_of_row W8 _ 8 _ _ _ S2_45.out
  go_wp2_with fail
  clear s8
  have HY2 : Hid (∀ y ∈ ys ++ [((Value.slice p1 l.length c1), xW1, l)], Apart y.1 (Value.slice p2 l.length c2) ∧ Apart (Value.slice p2 l.length c2) y.2.1) := by
    intro y hy
    rcases List.mem_append.1 hy with h' | h'
    · exact ⟨lohi (OW.out.ys y h').1 HI2.out (by omega), hilo HI2.out (OW.out.ys y h').2 (by omega)⟩
    · simp at h'
      subst h'
      exact ⟨lohi LO1.out HI2.out (by omega), lohi LO2.out X1.out (by omega)⟩
  refine (keepWordsQ B bb _ _ _ _ _ _ _ _ _ _ _ _ _ _ _ _ _ BQ_48.out V2_46.out hl16 (by simp; omega) (by simp; omega) HY2.out (fun m hm => hilo HI2.out (OW.out.ms m hm) (by omega))).mono ?_
  rintro e W9 ⟨rfl, hk, hbB, aw2, ew2, xW2, hbk, hx⟩
  have X2 : Hid (HiB xW2 W8.heap.size) := hx
  have hzk2 : W8.heap.size ≤ W9.heap.size := hk.size
  clear V2_46
  clear S2_45
  have MD_49 := hide (MD_44.out.kr hk (by omega) (by omega) (by omega))
  have L_50 := hide (L_47.out.trans hbB)
  have BQ_51 := hide (hbk)
  clear MD_44 L_47 BQ_48
  have FW2 := hide (FW1.out.snoc (l := l) HI2.out X2.out (by omega) (by omega))
  clear FW1
  clear hk hbB hbk hx HY2
  go_upto_region 13 with fail
  have t9 : (er == er) = true := by simp
  go_upto_region 27 with (go_at_call 14; refine (num_any _ _).mono ?_; rintro e w' ⟨rfl, hw'⟩; obtain rfl : W9 = w' := hw'.symm)
  obtain ⟨curO, o1, o2⟩ := MD_49.out.ord
  have PO := hide o1
  have hPz := lt_of_blk o1
  clear o1 o2
  have a10 : W9.cell? ⟨w.heap.size, 10, none⟩ = some (.slice p prog.length c) := MD_49.out.cell 10
  go_wp2_with fail
  clear a10
  refine (untouchedOrders_any (w.heap.size + 1) _ _ _ _ (HP.out.keep L_50.out HPB.out) MD_49.out.ord (fun a ha => by have := HPB.out a ha; omega) hl1).mono ?_
  rintro e Wy ⟨rfl, hg⟩
  have hzL : w.heap.size ≤ W9.heap.size := L_50.out.size
  have LY : Hid (Below B w Wy) := L_50.out.grown hg (by omega) (by intro k hk; simp at hk; omega)
  have hbox := (hg.block _ (lt_of_blk MD_49.out.box) (by simp)).trans MD_49.out.box
  have hwds : HandW Wy w1.heap.size mem := MD_49.out.wds.keep (hg.block _ (lt_of_blk MD_49.out.wds.choose_spec.1) (by simp; omega))
  have BY := hide (show Bq Wy B bb wv aw2 ew2 ms _ _ _ tv at' et ts _ _ _ from ⟨(hg.block bb (lt_of_blk BQ_51.out.blk) (by simp; omega)).trans BQ_51.out.blk, hBb, Nat.le_trans BQ_51.out.small hg.size, BQ_51.out.hw.block PO.out hg (.inl (by decide)) (by decide), BQ_51.out.ht.block PO.out hg (.inl (by decide)) (by decide)⟩)
  have HWD := hide hwds
  have hzY := hg.size
  clear MD_49
  clear BQ_51
  clear L_50
  have a11 : Wy.cell? ⟨w.heap.size, 11, none⟩ = some (.slice pm mem.length cm) := cell_of_row Wy _ 11 _ _ _ hbox
  clear hg hbox hwds PO
  go_upto_region 28 with fail
  go_wp2_with fail
  clear a11
  obtain ⟨curW, q1, q2⟩ := HWD.out
  refine (untouchedWords_any w1.heap.size _ _ _ _ (HM.out.keep LY.out HMB.out) HWD.out (fun a ha => by have := HMB.out a ha; omega) hl2).mono ?_
  rintro e Wz ⟨rfl, hg⟩
  have LZ : Hid (Below B w Wz) := LY.out.grown hg (by omega) (by intro k hk; simp at hk; omega)
  have hbz : Bq Wz B bb wv aw2 ew2 ms _ _ _ tv at' et ts _ _ _ := ⟨(hg.block bb (lt_of_blk BY.out.blk) (by simp; omega)).trans BY.out.blk, hBb, Nat.le_trans BY.out.small hg.size, BY.out.hw.block q1 hg (.inr FW2.out) (by decide), BY.out.ht.block q1 hg (.inl (by decide)) (by decide)⟩
  have BZ : Hid (Bq Wz B bb wv aw2 ew2 ms ((ys ++ [(Value.slice p1 l.length c1, xW1, l)] ++ [(Value.slice p2 l.length c2, xW2, l)]).map (·.1)) ((ys ++ [(Value.slice p1 l.length c1, xW1, l)] ++ [(Value.slice p2 l.length c2, xW2, l)]).map (·.2.1)) (ys ++ [(Value.slice p1 l.length c1, xW1, l)] ++ [(Value.slice p2 l.length c2, xW2, l)]) tv at' et ts ((zs).map (·.1)) ((zs).map (·.2.1)) (zs)) := hide (by simpa using hbz)
  clear hg hbz q1 q2 BY HWD LY
  go_upto_region 29 with fail
  go_wp2_with fail
  refine (looksK B bb (n + 1) q r _ _ _ _ _ _ _ _ _ _ _ HQ.out HR.out BZ.out (by intro y hy; simp at hy; rcases hy with h | rfl | rfl; exact HTY.out y h; exact TI1.out; exact TI2.out) HTZ.out (by first | omega | (simp; omega)) (by first | omega | (simp; omega)) (by have := HQN.out; simp; omega) (by have := HRN.out; omega) hn).mono ?_
  rintro e We ⟨rfl, hbe, hke⟩
  go_wp2
  go_ret
  exact ⟨rfl, LZ.out.trans hbe, hke⟩

set_option maxRecDepth 100000 in
set_option maxHeartbeats 8000000 in
theorem oneQ0 (B bb n : Nat) (kd : Int) (hk1 : kd ≠ 1) (hk2 : kd ≠ 2) (u0 u1 u2 u3 l0 l1 l2 l3 b : Int) (p pm : Option Addr) (c cm : Nat) (prog : List Ord) (mem : List Int) (steps : Int) (w : World)
    (hb : Bkk w B bb n) (hn : n + 1 ≤ 1100000000000) (hp : RdO w p prog) (hm : Rd w pm mem) (hpB : Under p B) (hmB : Under pm B) (hl1 : prog.length * 40 ≤ 140737488351232) (hl2 : mem.length * 8 ≤ 140737488351232) :
    Calls Tryz.prog 6 #[.pointer (some ⟨bb, 0, none⟩), .agg #[.int .i64 kd, .int .i64 u0, .int .i64 u1, .int .i64 u2, .int .i64 u3, .int .i64 l0, .int .i64 l1, .int .i64 l2, .int .i64 l3, .int .i64 b, .slice p prog.length c, .slice pm mem.length cm, .int .i64 steps]] w fun e w' => e = .returned (.bool true) ∧ Below B w w' ∧ Bkk w' B bb (n + 1) := by
  obtain ⟨q, r, wv, aw, ew, ms, ys, tv, at', et, ts, zs, hq, hr, hb, hty, htz, h5, hqn, hrn⟩ := hb
  have HQ := hide hq
  have HR := hide hr
  have HTY := hide hty
  have HTZ := hide htz
  have HQN := hide hqn
  have HRN := hide hrn
  have HP := hide hp
  have HM := hide hm
  have HPB := hide hpB
  have HMB := hide hmB
  have hBw := hb.small
  have hbbz := lt_of_blk hb.blk
  have hBb := hb.base
  have OW := hide hb.hw.old
  have OT := hide hb.ht.old
  have HB0 := hide hb
  clear hq hr hb hty htz hp hm hpB hmB hqn hrn
  have tk1 : (kd == 1) = false := by simp [hk1]
  have tk2 : (kd == 2) = false := by simp [hk2]
  go_enter Tryz.func6, Tryz.ntmps6
  go_wp2_with fail
  refine (handedOrders_any _ _ _ _ (HP.out.below (Nat.le_refl _) ((Below.refl _ _).alloc (Nat.le_refl _) _)) hl1).mono ?_
  rintro e w1 ⟨rfl, hb1, hO1⟩
  have hN1 := below_same hb1 (heap_alloc_new w (.cells #[.int .i64 kd, .int .i64 u0, .int .i64 u1, .int .i64 u2, .int .i64 u3, .int .i64 l0, .int .i64 l1, .int .i64 l2, .int .i64 l3, .int .i64 b, .slice p prog.length c, .slice pm mem.length cm, .int .i64 steps] 34))
  have hg1 : w.grownBy w1 none := grown_trans (World.grownBy_alloc w (.cells #[.int .i64 kd, .int .i64 u0, .int .i64 u1, .int .i64 u2, .int .i64 u3, .int .i64 l0, .int .i64 l1, .int .i64 l2, .int .i64 l3, .int .i64 b, .slice p prog.length c, .slice pm mem.length cm, .int .i64 steps] 34) none) (grown_of_below hb1)
  have hO1' : HandO w1 (w.heap.size + 1) prog := by simpa using hO1
  have HN1 := hide hN1
  have HO1 := hide hO1'
  have HG1 := hide hg1
  have hz1 : w.heap.size + 1 < w1.heap.size := lt_of_blk hO1'.choose_spec.1
  clear hb1 hO1 hO1' hg1
  have a11 : w1.cell? ⟨w.heap.size, 11, none⟩ = some (.slice pm mem.length cm) := cell_of_row w1 _ 11 _ _ _ hN1
  clear hN1
  go_wp2_with fail
  clear a11
  refine (handedWords_any _ _ _ _ (HM.out.below (Nat.le_refl _) ((Below.refl _ _).grown HG1.out (Nat.le_refl _) (by intro k hk; cases hk))) hl2).mono ?_
  rintro e w2 ⟨rfl, hb2, hW2⟩
  have hg2 := grown_of_below hb2
  have hz2 : w1.heap.size < w2.heap.size := lt_of_blk hW2.choose_spec.1
  have MD_1 : Hid (Md w2 w.heap.size (w.heap.size + 1) w1.heap.size #[.int .i64 kd, .int .i64 u0, .int .i64 u1, .int .i64 u2, .int .i64 u3, .int .i64 l0, .int .i64 l1, .int .i64 l2, .int .i64 l3, .int .i64 b, .slice p prog.length c, .slice pm mem.length cm, .int .i64 steps] prog mem) := ⟨grow_same hg2 HN1.out, HO1.out.keep (hb2.block _ (lt_of_blk HO1.out.choose_spec.1)), hW2⟩
  have G_2 : Hid (w.grownBy w2 none) := grown_trans HG1.out hg2
  have BQ_3 := hide (HB0.out.grow G_2.out)
  clear hb2 hW2 hg2 HN1 HO1 HG1
  have L_4 : Hid (Below B w w2) := (Below.refl B w).grown G_2.out hBw (by intro k hk; cases hk)
  clear G_2
  have FW2 : Hid (FreeH shW ms ys w1.heap.size) := OW.out.free (by omega)
  have a0 : w2.cell? ⟨w.heap.size, 0, none⟩ = some (.int .i64 kd) := MD_1.out.cell 0
  go_upto_region 27 with fail
  clear a0
  obtain ⟨curO, o1, o2⟩ := MD_1.out.ord
  have PO := hide o1
  have hPz := lt_of_blk o1
  clear o1 o2
  have a10 : w2.cell? ⟨w.heap.size, 10, none⟩ = some (.slice p prog.length c) := MD_1.out.cell 10
  go_wp2_with fail
  clear a10
  refine (untouchedOrders_any (w.heap.size + 1) _ _ _ _ (HP.out.keep L_4.out HPB.out) MD_1.out.ord (fun a ha => by have := HPB.out a ha; omega) hl1).mono ?_
  rintro e Wy ⟨rfl, hg⟩
  have hzL : w.heap.size ≤ w2.heap.size := L_4.out.size
  have LY : Hid (Below B w Wy) := L_4.out.grown hg (by omega) (by intro k hk; simp at hk; omega)
  have hbox := (hg.block _ (lt_of_blk MD_1.out.box) (by simp)).trans MD_1.out.box
  have hwds : HandW Wy w1.heap.size mem := MD_1.out.wds.keep (hg.block _ (lt_of_blk MD_1.out.wds.choose_spec.1) (by simp; omega))
  have BY := hide (show Bq Wy B bb wv aw ew ms _ _ _ tv at' et ts _ _ _ from ⟨(hg.block bb (lt_of_blk BQ_3.out.blk) (by simp; omega)).trans BQ_3.out.blk, hBb, Nat.le_trans BQ_3.out.small hg.size, BQ_3.out.hw.block PO.out hg (.inl (by decide)) (by decide), BQ_3.out.ht.block PO.out hg (.inl (by decide)) (by decide)⟩)
  have HWD := hide hwds
  have hzY := hg.size
  clear MD_1
  clear BQ_3
  clear L_4
  have a11 : Wy.cell? ⟨w.heap.size, 11, none⟩ = some (.slice pm mem.length cm) := cell_of_row Wy _ 11 _ _ _ hbox
  clear hg hbox hwds PO
  go_upto_region 28 with fail
  go_wp2_with fail
  clear a11
  obtain ⟨curW, q1, q2⟩ := HWD.out
  refine (untouchedWords_any w1.heap.size _ _ _ _ (HM.out.keep LY.out HMB.out) HWD.out (fun a ha => by have := HMB.out a ha; omega) hl2).mono ?_
  rintro e Wz ⟨rfl, hg⟩
  have LZ : Hid (Below B w Wz) := LY.out.grown hg (by omega) (by intro k hk; simp at hk; omega)
  have hbz : Bq Wz B bb wv aw ew ms _ _ _ tv at' et ts _ _ _ := ⟨(hg.block bb (lt_of_blk BY.out.blk) (by simp; omega)).trans BY.out.blk, hBb, Nat.le_trans BY.out.small hg.size, BY.out.hw.block q1 hg (.inr FW2.out) (by decide), BY.out.ht.block q1 hg (.inl (by decide)) (by decide)⟩
  have BZ : Hid (Bq Wz B bb wv aw ew ms ((ys).map (·.1)) ((ys).map (·.2.1)) (ys) tv at' et ts ((zs).map (·.1)) ((zs).map (·.2.1)) (zs)) := hide hbz
  clear hg hbz q1 q2 BY HWD LY
  go_upto_region 29 with fail
  go_wp2_with fail
  refine (looksK B bb (n + 1) q r _ _ _ _ _ _ _ _ _ _ _ HQ.out HR.out BZ.out HTY.out HTZ.out (by first | omega | (simp; omega)) (by first | omega | (simp; omega)) (by have := HQN.out; omega) (by have := HRN.out; omega) hn).mono ?_
  rintro e We ⟨rfl, hbe, hke⟩
  go_wp2
  go_ret
  exact ⟨rfl, LZ.out.trans hbe, hke⟩

end Go.Proofs.YtmeiogoodbnkkaaGreat

/- The statement's own walk: Runs. -/
namespace Go.Proofs.YtmeiogoodbnkkaaGreat
open Go.RowKit

theorem Under.mono {p : Option Addr} {B B' : Nat} (h : Under p B) (hB : B ≤ B') : Under p B' := fun a ha => Nat.lt_of_lt_of_le (h a ha) hB

set_option maxRecDepth 100000 in
set_option maxHeartbeats 4000000 in
theorem runs_law (u0 u1 u2 u3 l0 l1 l2 l3 b : Int) (p pm : Option Addr) (c cm : Nat) (prog : List Ord) (mem : List Int) (steps : Int) (w : World) (hp : RdO w p prog) (hm : Rd w pm mem) (hpB : Under p w.heap.size) (hmB : Under pm w.heap.size) (hl1 : prog.length * 40 ≤ 140737488351232) (hl2 : mem.length * 8 ≤ 140737488351232) :
    Calls Tryz.prog 4 #[.agg #[.int .i64 u0, .int .i64 u1, .int .i64 u2, .int .i64 u3, .int .i64 l0, .int .i64 l1, .int .i64 l2, .int .i64 l3, .int .i64 b], .slice p prog.length c, .slice pm mem.length cm, .int .i64 steps] w fun e w' => e = .returned (.bool true) ∧ Below w.heap.size w w' := by
  have HP := hide hp
  have HM := hide hm
  have HPB := hide (hpB.mono (Nat.le_succ _))
  have HMB := hide (hmB.mono (Nat.le_succ _))
  clear hp hm hpB hmB
  have hnew : Bkk ((w.alloc (.cells #[.int .i64 u0, .int .i64 u1, .int .i64 u2, .int .i64 u3, .int .i64 l0, .int .i64 l1, .int .i64 l2, .int .i64 l3, .int .i64 b] 32)).alloc (.cells #[.slice none 0 0, .slice none 0 0, .slice none 0 0, .slice none 0 0, .slice none 0 0, .slice none 0 0] 28)) (w.heap.size + 1) (w.heap.size + 1) 0 := by
    simpa using Bkk.new (w.alloc (.cells #[.int .i64 u0, .int .i64 u1, .int .i64 u2, .int .i64 u3, .int .i64 l0, .int .i64 l1, .int .i64 l2, .int .i64 l3, .int .i64 b] 32))
  have HN := hide hnew
  have hbel : Below w.heap.size w ((w.alloc (.cells #[.int .i64 u0, .int .i64 u1, .int .i64 u2, .int .i64 u3, .int .i64 l0, .int .i64 l1, .int .i64 l2, .int .i64 l3, .int .i64 b] 32)).alloc (.cells #[.slice none 0 0, .slice none 0 0, .slice none 0 0, .slice none 0 0, .slice none 0 0, .slice none 0 0] 28)) := ((Below.refl _ _).alloc (Nat.le_refl _) _).alloc (by simp) _
  have HL := hide hbel
  clear hnew hbel
  go_enter Tryz.func4, Tryz.ntmps4
  go_wp2_with fail
  refine (oneQ2 (w.heap.size + 1) (w.heap.size + 1) 0 _ _ _ _ _ _ _ _ _ _ _ _ _ _ _ _ _ HN.out (by omega) (HP.out.below (Nat.le_refl _) HL.out) (HM.out.below (Nat.le_refl _) HL.out) HPB.out HMB.out hl1 hl2).mono ?_
  rintro e w1 ⟨rfl, hb1, hk1⟩
  have B1 : Hid (Below w.heap.size w w1) := HL.out.trans (hb1.mono (by omega))
  have BK := hide hk1
  clear hb1 hk1
  go_wp2_with fail
  refine (settlesK (w.heap.size + 1) (w.heap.size + 1) 1 _ BK.out (by omega)).mono ?_
  rintro e w2 ⟨rfl, hb2⟩
  go_wp2
  go_ret
  exact ⟨rfl, B1.out.trans (hb2.mono (by omega))⟩

end Go.Proofs.YtmeiogoodbnkkaaGreat
