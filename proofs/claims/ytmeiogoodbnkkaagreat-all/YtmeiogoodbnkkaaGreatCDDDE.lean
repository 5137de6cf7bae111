/- Several texts in one: DD, DE. -/
import Derived.Test.YtmeiogoodbnkkaaGreatCBMDC
/- Lists that came out go into the book. -/
namespace Go.Proofs.YtmeiogoodbnkkaaGreat
open Go.RowKit

set_option maxRecDepth 100000 in
set_option maxHeartbeats 4000000 in
theorem keepWordsQ (B bb : Nat) (wv aw ew : Value) (ms : List (Value × Nat)) (av es : List Value) (ys : List (Value × Value × List Int)) (tv at' et : Value) (ts : List (Value × Nat)) (bv fs : List Value) (zs : List (Value × Value × List Tm)) (v : Value) (l : List Int) (w : World)
    (hb : Bq w B bb wv aw ew ms av es ys tv at' et ts bv fs zs) (hv : Rw shW w B v l) (hl : l.length ≤ shW.top) (ha : av.length ≤ 1000) (he : es.length ≤ 1000)
    (hy : ∀ y ∈ ys, Apart y.1 v ∧ Apart v y.2.1) (hm : ∀ m ∈ ms, Apart v m.1) :
    Calls Tryz.prog 13 #[.pointer (some ⟨bb, 0, none⟩), v] w fun e w' => e = .returned (.tuple #[]) ∧ Kr bb w w' ∧ Below B w w' ∧
      ∃ aw' ew' x, Bq w' B bb wv aw' ew' ms (av ++ [v]) (es ++ [x]) (ys ++ [(v, x, l)]) tv at' et ts bv fs zs ∧ ∀ g, x.ownBlock = some g → w.heap.size ≤ g := by
  obtain ⟨i0, hi0, hz0, hz1, hz2⟩ := info_parts Tryz.info2
  obtain ⟨j0, hj0, hy0, hy1, hy2⟩ := info_parts Tryz.info23
  have hl' : l.length ≤ 400 := Nat.le_trans hl (by decide)
  obtain ⟨p, c, rfl, hnw⟩ := hv.slice
  have HNW := hide hnw
  have HB := hide hb
  have HV := hide hv
  have hbz := (Array.getElem?_eq_some_iff.1 hb.blk).1
  obtain ⟨_, _, b2, b3, b4, b5, f0⟩ := hb.cells rfl
  have HONE : Hid (∀ u ∈ l.flatMap shW.enc, u.oneCell' = true) := Rw.ones okW l
  have HLEN : Hid ((l.flatMap shW.enc).length = l.length * shW.size) := Rw.lens okW l
  clear hnw hb hv
  go_enter Tryz.func13, Tryz.ntmps13
  go_wp2_with (first
    | (refine wpList_append_anyS _ rfl (.tmp 5) (.tmp 6) 23 rfl B 2 i0 (.int .i64 0) 1 8 Tryz.underlying23 hi0 hz0 hz1 hz2 rfl (by omega) (.slice none 0 0) 0 [] (by rfl) (World.ownsRow_nil _ _ _ _) p l.length c (l.flatMap shW.enc) (by rfl) HLEN.out HNW.out HONE.out (by unfold maxLen; omega) (by omega) HB.out.small ?_; intro x w1 hown1 hgr1 hat1; have HG1 : Hid (w.grownBy w1 none) := hgr1; have HX : Hid (Rw shW w1 B x l) := (by have h9 := hown1; rw [Nat.zero_add, List.nil_append] at h9; exact h9); obtain ⟨px, cx, hpx, _⟩ := HX.out.slice; subst hpx; obtain ⟨d0, d1, d2, d3, d4, d5, df⟩ := HB.out.cells (HG1.out.block bb hbz (by simp)); have HBW := hide (HB.out.grow HG1.out); have HAT1 := hide hat1; clear hown1 hgr1 hat1)
    | (refine wpList_append_keeps _ rfl (.tmp 12) (.tmp 14) 25 rfl B 23 j0 (.slice none 0 0) 24 Tryz.underlying25 hj0 hy0 hy1 hy2 rfl aw av.length av (by rfl) (World.ownsRow.alloc HBW.out.hw.wait _) ⟨w1.heap.size, 0, none⟩ 1 1 [.slice p l.length c] (by rfl) (by simp) (World.news_of_block (heap_alloc_new _ _)) (by intro u hu; simp at hu; subst hu; rfl) (by unfold maxLen; omega) (by omega) (by have := HBW.out.small; simp; omega) ?_; intro aw' w2 hown2 hold2 hgr2 hat2; obtain ⟨ga, ca, hga, _, _⟩ := World.ownsRow.form hown2 (by omega); subst hga; have HB1 := hide (HBW.out.grow (World.grownBy_alloc w1 (.cells #[.slice p l.length c] 23) none)); have HG2 := hide hgr2; have hbb2 := hgr2.block bb (by have := HG1.out.size; simp; omega) (bbG HB1.out.hw.wait HB1.out.blk (by decide)); obtain ⟨e0, e1, e2, e3, e4, e5, ef⟩ := HB1.out.cells hbb2; have HB2 : Hid (Bq (w2.setCell ⟨bb, 2, none⟩ (.slice (some ⟨ga, 0, none⟩) (av.length + 1) ca)) B bb wv (.slice (some ⟨ga, 0, none⟩) (av.length + 1) ca) ew ms (av ++ [.slice p l.length c]) es ys tv at' et ts bv fs zs) := (Bq.put (hbb2.trans HB1.out.blk) rfl HB1.out.base (Nat.le_trans HB1.out.small hgr2.size) (HB1.out.hw.newAw okW (row_snocG hown2) hgr2 hat2) (HB1.out.ht.other HB1.out.hw.wait hgr2 (by decide) (by decide))); clear hown2 hold2 hgr2 hat2 hbb2)
    | (refine wpList_append_keeps _ rfl (.tmp 22) (.tmp 24) 25 rfl B 23 j0 (.slice none 0 0) 24 Tryz.underlying25 hj0 hy0 hy1 hy2 rfl ew es.length es (by rfl) (World.ownsRow.alloc HB2.out.hw.were _) ⟨w2.heap.size, 0, none⟩ 1 1 [.slice px l.length cx] (by rfl) (by simp) (news1 (by simp [World.setCell])) (by intro u hu; simp at hu; subst hu; rfl) (by unfold maxLen; omega) (by omega) (by have := HB2.out.small; simp; omega) ?_; intro ew' w3 hown3 hold3 hgr3 hat3; obtain ⟨ge, ce, hge, _, _⟩ := World.ownsRow.form hown3 (by omega); subst hge; have HB3 := hide (HB2.out.grow (World.grownBy_alloc _ (.cells #[.slice px l.length cx] 23) none)); have HG3 := hide hgr3; have hbb3 := hgr3.block bb (by have := HG1.out.size; have := HG2.out.size; simp [World.setCell] at *; omega) (bbG HB3.out.hw.were HB3.out.blk (by decide)); obtain ⟨h0, h1, h2, h3, h4, h5, hff⟩ := HB3.out.cells hbb3; have HB4 : Hid (Bq (w3.setCell ⟨bb, 3, none⟩ (.slice (some ⟨ge, 0, none⟩) (es.length + 1) ce)) B bb wv (.slice (some ⟨ga, 0, none⟩) (av.length + 1) ca) (.slice (some ⟨ge, 0, none⟩) (es.length + 1) ce) ms (av ++ [.slice p l.length c]) (es ++ [.slice px l.length cx]) ys tv at' et ts bv fs zs) := (Bq.put (hbb3.trans HB3.out.blk) rfl HB3.out.base (Nat.le_trans HB3.out.small hgr3.size) (HB3.out.hw.newEw okW (row_snocG hown3) hgr3 hat3) (HB3.out.ht.other HB3.out.hw.were hgr3 (by decide) (by decide))); clear hown3 hold3 hgr3 hat3 hbb3))
  have k1 : Kr bb w w1 := Kr.grow HG1.out
  have k2 := Kr.grow (bb := bb) (World.grownBy_alloc w1 (.cells #[.slice p l.length c] 23) none)
  have k3 := Kr.rowW (bb := bb) HB1.out.hw.wait HG2.out
  have k4 := Kr.setB (bb := bb) w2 2 (Value.slice (some ⟨ga, 0, none⟩) (av.length + 1) ca)
  have k5 := Kr.grow (bb := bb) (World.grownBy_alloc (w2.setCell ⟨bb, 2, none⟩ (Value.slice (some ⟨ga, 0, none⟩) (av.length + 1) ca)) (.cells #[.slice px l.length cx] 23) none)
  have k6 := Kr.rowW (bb := bb) HB3.out.hw.were HG3.out
  have k7 := Kr.setB (bb := bb) w3 3 (Value.slice (some ⟨ge, 0, none⟩) (es.length + 1) ce)
  have kx := ((((k2.trans k3).trans k4).trans k5).trans k6).trans k7
  have kw := k1.trans kx
  have hsm := HB.out.small
  have b1 : Below B w w1 := (Below.refl _ _).grown HG1.out hsm (by intro k hk; cases hk)
  have b2' := b1.alloc (by have := HG1.out.size; omega) (.cells #[.slice p l.length c] 23)
  have b3' := b2'.grown HG2.out HB1.out.small (fun k hk => (World.ownsRow.lt HB1.out.hw.wait k hk).1)
  have b4' := b3'.setCell (p := ⟨bb, 2, none⟩) HB.out.base (Value.slice (some ⟨ga, 0, none⟩) (av.length + 1) ca)
  have b5' := b4'.alloc HB2.out.small (.cells #[.slice px l.length cx] 23)
  have b6' := b5'.grown HG3.out HB3.out.small (fun k hk => (World.ownsRow.lt HB3.out.hw.were k hk).1)
  have b7' := b6'.setCell (p := ⟨bb, 3, none⟩) HB.out.base (Value.slice (some ⟨ge, 0, none⟩) (es.length + 1) ce)
  have hxl : ∀ {v' : Value} {l' : List Int}, Rw shW w B v' l' → Apart v' (Value.slice px l.length cx) := fun h => newG h (nilA _) HAT1.out
  have hvx := kw.row HB.out.blk HV.out (by decide) (by decide) (by decide)
  have hxx := kx.row HBW.out.blk HX.out (by decide) (by decide) (by decide)
  have hfin := HB4.out
  go_end0
  refine ⟨rfl, kw, b7', _, _, _, ⟨hfin.blk, hfin.base, hfin.small, hfin.hw.addY hvx hxx hl (fun y hy' => ⟨(hy y hy').1, hxl (HB.out.hw.each y hy').1, (hy y hy').2⟩) (hxl HV.out) hm, hfin.ht⟩, fun g hg => ?_⟩
  rcases HAT1.out with h | h
  · rw [h] at hg; cases hg
  · rw [h] at hg; simp only [Option.some.injEq] at hg; omega

set_option maxRecDepth 100000 in
set_option maxHeartbeats 4000000 in
theorem keepTimesQ (B bb : Nat) (wv aw ew : Value) (ms : List (Value × Nat)) (av es : List Value) (ys : List (Value × Value × List Int)) (tv at' et : Value) (ts : List (Value × Nat)) (bv fs : List Value) (zs : List (Value × Value × List Tm)) (v : Value) (l : List Tm) (w : World)
    (hb : Bq w B bb wv aw ew ms av es ys tv at' et ts bv fs zs) (hv : Rw shT w B v l) (hl : l.length ≤ shT.top) (ha : bv.length ≤ 1000) (he : fs.length ≤ 1000)
    (hy : ∀ y ∈ zs, Apart y.1 v ∧ Apart v y.2.1) (hm : ∀ m ∈ ts, Apart v m.1) :
    Calls Tryz.prog 18 #[.pointer (some ⟨bb, 0, none⟩), v] w fun e w' => e = .returned (.tuple #[]) ∧ Kr bb w w' ∧ Below B w w' ∧
      ∃ aw' ew' x, Bq w' B bb wv aw ew ms av es ys tv aw' ew' ts (bv ++ [v]) (fs ++ [x]) (zs ++ [(v, x, l)]) ∧ ∀ g, x.ownBlock = some g → w.heap.size ≤ g := by
  obtain ⟨i0, hi0, hz0, hz1, hz2⟩ := info_parts Tryz.infoTmB
  obtain ⟨j0, hj0, hy0, hy1, hy2⟩ := info_parts Tryz.info55
  have hl' : l.length ≤ 400 := Nat.le_trans hl (by decide)
  obtain ⟨p, c, rfl, hnw⟩ := hv.slice
  have HNW := hide hnw
  have HB := hide hb
  have HV := hide hv
  have hbz := (Array.getElem?_eq_some_iff.1 hb.blk).1
  obtain ⟨_, _, b2, b3, b4, b5, f0⟩ := hb.cells rfl
  have HONE : Hid (∀ u ∈ l.flatMap shT.enc, u.oneCell' = true) := Rw.ones okT l
  have HLEN : Hid ((l.flatMap shT.enc).length = l.length * shT.size) := Rw.lens okT l
  clear hnw hb hv
  go_enter Tryz.func18, Tryz.ntmps18
  go_wp2_with (first
    | (refine wpList_append_anyS _ rfl (.tmp 5) (.tmp 6) 55 rfl B 79 i0 _ 5 40 Tryz.underlying55 hi0 hz0 hz1 hz2 rfl (by omega) (.slice none 0 0) 0 [] (by rfl) (World.ownsRow_nil _ _ _ _) p l.length c (l.flatMap shT.enc) (by rfl) HLEN.out HNW.out HONE.out (by unfold maxLen; omega) (by omega) HB.out.small ?_; intro x w1 hown1 hgr1 hat1; have HG1 : Hid (w.grownBy w1 none) := hgr1; have HX : Hid (Rw shT w1 B x l) := (by have h9 := hown1; rw [Nat.zero_add, List.nil_append] at h9; exact h9); obtain ⟨px, cx, hpx, _⟩ := HX.out.slice; subst hpx; obtain ⟨d0, d1, d2, d3, d4, d5, df⟩ := HB.out.cells (HG1.out.block bb hbz (by simp)); have HBW := hide (HB.out.grow HG1.out); have HAT1 := hide hat1; clear hown1 hgr1 hat1)
    | (refine wpList_append_keeps _ rfl (.tmp 12) (.tmp 14) 26 rfl B 55 j0 (.slice none 0 0) 24 Tryz.underlying26 hj0 hy0 hy1 hy2 rfl at' bv.length bv (by rfl) (World.ownsRow.alloc HBW.out.ht.wait _) ⟨w1.heap.size, 0, none⟩ 1 1 [.slice p l.length c] (by rfl) (by simp) (World.news_of_block (heap_alloc_new _ _)) (by intro u hu; simp at hu; subst hu; rfl) (by unfold maxLen; omega) (by omega) (by have := HBW.out.small; simp; omega) ?_; intro aw' w2 hown2 hold2 hgr2 hat2; obtain ⟨ga, ca, hga, _, _⟩ := World.ownsRow.form hown2 (by omega); subst hga; have HB1 := hide (HBW.out.grow (World.grownBy_alloc w1 (.cells #[.slice p l.length c] 55) none)); have HG2 := hide hgr2; have hbb2 := hgr2.block bb (by have := HG1.out.size; simp; omega) (bbG HB1.out.ht.wait HB1.out.blk (by decide)); obtain ⟨e0, e1, e2, e3, e4, e5, ef⟩ := HB1.out.cells hbb2; have HB2 : Hid (Bq (w2.setCell ⟨bb, 4, none⟩ (.slice (some ⟨ga, 0, none⟩) (bv.length + 1) ca)) B bb wv aw ew ms av es ys tv (.slice (some ⟨ga, 0, none⟩) (bv.length + 1) ca) et ts (bv ++ [.slice p l.length c]) fs zs) := (Bq.put (hbb2.trans HB1.out.blk) rfl HB1.out.base (Nat.le_trans HB1.out.small hgr2.size) (HB1.out.hw.other HB1.out.ht.wait hgr2 (by decide) (by decide)) (HB1.out.ht.newAw okT (row_snocG hown2) hgr2 hat2)); clear hown2 hold2 hgr2 hat2 hbb2)
    | (refine wpList_append_keeps _ rfl (.tmp 22) (.tmp 24) 26 rfl B 55 j0 (.slice none 0 0) 24 Tryz.underlying26 hj0 hy0 hy1 hy2 rfl et fs.length fs (by rfl) (World.ownsRow.alloc HB2.out.ht.were _) ⟨w2.heap.size, 0, none⟩ 1 1 [.slice px l.length cx] (by rfl) (by simp) (news1 (by simp [World.setCell])) (by intro u hu; simp at hu; subst hu; rfl) (by unfold maxLen; omega) (by omega) (by have := HB2.out.small; simp; omega) ?_; intro ew' w3 hown3 hold3 hgr3 hat3; obtain ⟨ge, ce, hge, _, _⟩ := World.ownsRow.form hown3 (by omega); subst hge; have HB3 := hide (HB2.out.grow (World.grownBy_alloc _ (.cells #[.slice px l.length cx] 55) none)); have HG3 := hide hgr3; have hbb3 := hgr3.block bb (by have := HG1.out.size; have := HG2.out.size; simp [World.setCell] at *; omega) (bbG HB3.out.ht.were HB3.out.blk (by decide)); obtain ⟨h0, h1, h2, h3, h4, h5, hff⟩ := HB3.out.cells hbb3; have HB4 : Hid (Bq (w3.setCell ⟨bb, 5, none⟩ (.slice (some ⟨ge, 0, none⟩) (fs.length + 1) ce)) B bb wv aw ew ms av es ys tv (.slice (some ⟨ga, 0, none⟩) (bv.length + 1) ca) (.slice (some ⟨ge, 0, none⟩) (fs.length + 1) ce) ts (bv ++ [.slice p l.length c]) (fs ++ [.slice px l.length cx]) zs) := (Bq.put (hbb3.trans HB3.out.blk) rfl HB3.out.base (Nat.le_trans HB3.out.small hgr3.size) (HB3.out.hw.other HB3.out.ht.were hgr3 (by decide) (by decide)) (HB3.out.ht.newEw okT (row_snocG hown3) hgr3 hat3)); clear hown3 hold3 hgr3 hat3 hbb3))
  have k1 : Kr bb w w1 := Kr.grow HG1.out
  have k2 := Kr.grow (bb := bb) (World.grownBy_alloc w1 (.cells #[.slice p l.length c] 55) none)
  have k3 := Kr.rowT (bb := bb) HB1.out.ht.wait HG2.out
  have k4 := Kr.setB (bb := bb) w2 4 (Value.slice (some ⟨ga, 0, none⟩) (bv.length + 1) ca)
  have k5 := Kr.grow (bb := bb) (World.grownBy_alloc (w2.setCell ⟨bb, 4, none⟩ (Value.slice (some ⟨ga, 0, none⟩) (bv.length + 1) ca)) (.cells #[.slice px l.length cx] 55) none)
  have k6 := Kr.rowT (bb := bb) HB3.out.ht.were HG3.out
  have k7 := Kr.setB (bb := bb) w3 5 (Value.slice (some ⟨ge, 0, none⟩) (fs.length + 1) ce)
  have kx := ((((k2.trans k3).trans k4).trans k5).trans k6).trans k7
  have kw := k1.trans kx
  have hsm := HB.out.small
  have b1 : Below B w w1 := (Below.refl _ _).grown HG1.out hsm (by intro k hk; cases hk)
  have b2' := b1.alloc (by have := HG1.out.size; omega) (.cells #[.slice p l.length c] 55)
  have b3' := b2'.grown HG2.out HB1.out.small (fun k hk => (World.ownsRow.lt HB1.out.ht.wait k hk).1)
  have b4' := b3'.setCell (p := ⟨bb, 4, none⟩) HB.out.base (Value.slice (some ⟨ga, 0, none⟩) (bv.length + 1) ca)
  have b5' := b4'.alloc HB2.out.small (.cells #[.slice px l.length cx] 55)
  have b6' := b5'.grown HG3.out HB3.out.small (fun k hk => (World.ownsRow.lt HB3.out.ht.were k hk).1)
  have b7' := b6'.setCell (p := ⟨bb, 5, none⟩) HB.out.base (Value.slice (some ⟨ge, 0, none⟩) (fs.length + 1) ce)
  have hxl : ∀ {v' : Value} {l' : List Tm}, Rw shT w B v' l' → Apart v' (Value.slice px l.length cx) := fun h => newG h (nilA _) HAT1.out
  have hvx := kw.row HB.out.blk HV.out (by decide) (by decide) (by decide)
  have hxx := kx.row HBW.out.blk HX.out (by decide) (by decide) (by decide)
  have hfin := HB4.out
  go_end0
  refine ⟨rfl, kw, b7', _, _, _, ⟨hfin.blk, hfin.base, hfin.small, hfin.hw, hfin.ht.addY hvx hxx hl (fun y hy' => ⟨(hy y hy').1, hxl (HB.out.ht.each y hy').1, (hy y hy').2⟩) (hxl HV.out) hm⟩, fun g hg => ?_⟩
  rcases HAT1.out with h | h
  · rw [h] at hg; cases hg
  · rw [h] at hg; simp only [Option.some.injEq] at hg; omega

end Go.Proofs.YtmeiogoodbnkkaaGreat

/- The book is looked at. -/
namespace Go.Proofs.YtmeiogoodbnkkaaGreat
open Go.RowKit

theorem RdT.drewN {w : World} {p : Option Addr} {l : List Tm} (h : RdT w p l) (n : Nat) : RdT (w.drewN n) p l := h.keep (below_drewN (Below.refl _ _) n)

set_option maxRecDepth 100000 in
set_option maxHeartbeats 4000000 in
theorem waitsQ (B bb : Nat) (wv aw ew : Value) (ms : List (Value × Nat)) (ys : List (Value × Value × List Int)) (tv at' et : Value) (ts : List (Value × Nat)) (zs : List (Value × Value × List Tm)) (w : World)
    (hb : Bq w B bb wv aw ew ms (ys.map (·.1)) (ys.map (·.2.1)) ys tv at' et ts (zs.map (·.1)) (zs.map (·.2.1)) zs) (hl : ys.length ≤ 1000) (hlz : zs.length ≤ 1000) :
    Calls Tryz.prog 22 #[.pointer (some ⟨bb, 0, none⟩)] w fun e w' => e = .returned (.bool true) ∧ ∃ n, w' = w.drewN n := by
  obtain ⟨c0, c1, c2, c3, c4, c5, cf⟩ := hb.cells rfl
  obtain ⟨pa, ca, ha, hpa⟩ := row_at hb.hw.wait
  obtain ⟨pe, ce, he, hpe⟩ := row_at hb.hw.were
  obtain ⟨pb, cb, hbb, hpb⟩ := row_at hb.ht.wait
  obtain ⟨pf, cf', hf, hpf⟩ := row_at hb.ht.were
  subst ha
  subst he
  subst hbb
  subst hf
  simp only [List.length_map] at hpa hpe hpb hpf c2 c3 c4 c5
  have HPA := hide hpa
  have HPE := hide hpe
  have HPB := hide hpb
  have HPF := hide hpf
  have HB := hide hb
  clear hb hpa hpe hpb hpf c0 c1 cf
  go_enter Tryz.func22, Tryz.ntmps22
  go_wp2
  go_loopw [3, 4] (fun ok i wr => ∃ k : Nat, k ≤ ys.length ∧ ok = .bool true ∧ i = .int .i64 k ∧ ∃ n, wr = w.drewN n) (fun _ i _ => ys.length - (intOf i).toNat)
  case atStart => exact ⟨0, Nat.zero_le _, rfl, rfl, 0, rfl⟩
  case round =>
    obtain ⟨k, hk, rfl, rfl, n, hwr⟩ := hrel
    have hcw : ∀ a, wr.cell? a = w.cell? a := fun a => by rw [hwr]; rfl
    have b2 : wr.cell? ⟨bb, 2, none⟩ = some (.slice pa ys.length ca) := (hcw _).trans c2
    have b3 : wr.cell? ⟨bb, 3, none⟩ = some (.slice pe ys.length ce) := (hcw _).trans c3
    have b4 : wr.cell? ⟨bb, 4, none⟩ = some (.slice pb zs.length cb) := (hcw _).trans c4
    by_cases hlt : k < ys.length
    · obtain ⟨ga, hga, d1⟩ := HPA.out k hlt
      obtain ⟨ge, hge, d2⟩ := HPE.out k hlt
      subst hga
      subst hge
      obtain ⟨e1', e2', e3⟩ := HB.out.hw.each ys[k] (List.getElem_mem hlt)
      have e1 := Rw.own.1 e1'
      have e2 := Rw.own.1 e2'
      obtain ⟨p1, c1, h1, r1⟩ := e1.slice
      obtain ⟨p2, c2', h2, r2⟩ := e2.slice
      have d1' : wr.cell? ⟨ga, k, none⟩ = some (.slice p1 ys[k].2.2.length c1) := by rw [hcw, d1]; simp [hlt, h1]
      have d2' : wr.cell? ⟨ge, k, none⟩ = some (.slice p2 ys[k].2.2.length c2') := by rw [hcw, d2]; simp [hlt, h2]
      have r1 : Rd wr p1 ys[k].2.2 := by rw [hwr]; exact r1.drewN n
      have r2 : Rd wr p2 ys[k].2.2 := by rw [hwr]; exact r2.drewN n
      have HWR := hide hwr
      obtain ⟨l, hll⟩ : ∃ l, l = ys[k].2.2 := ⟨_, rfl⟩
      rw [← hll] at d1' d2' r1 r2 e3
      have e3' : l.length ≤ 16 := e3
      have R1 := hide r1
      have R2 := hide r2
      have t1 : (k : Int) < (ys.length : Int) := by omega
      clear d1 d2 h1 h2 r1 r2 e1 e2 e1' e2' hll hwr hcw e3
      go_wp2
      go_quiet ((go_at_call 31; refine Calls.quiet_of (same_self _ _ _ _ _ _ (R1.out.drewN _) (R2.out.drewN _) (by omega))))
      go_wp2
      go_roundw
      case rel => exact ⟨k + 1, by omega, rfl, by go_num, n + nq, by rw [HWR.out]; simp⟩
      case measure => simp [intOf]; omega
    · have t1 : ¬ (k : Int) < (ys.length : Int) := by omega
      subst hwr
      clear hcw
      go_wp2
      go_loopw [3, 6] (fun ok i wr => ∃ k : Nat, k ≤ zs.length ∧ ok = .bool true ∧ i = .int .i64 k ∧ ∃ n, wr = w.drewN n) (fun _ i _ => zs.length - (intOf i).toNat)
      case atStart => exact ⟨0, Nat.zero_le _, rfl, rfl, n, rfl⟩
      case round =>
        clear b2 b3 b4
        obtain ⟨j, hj, rfl, rfl, n', hwr⟩ := hrel
        have hcw : ∀ a, wr.cell? a = w.cell? a := fun a => by rw [hwr]; rfl
        have b4 : wr.cell? ⟨bb, 4, none⟩ = some (.slice pb zs.length cb) := (hcw _).trans c4
        have b5 : wr.cell? ⟨bb, 5, none⟩ = some (.slice pf zs.length cf') := (hcw _).trans c5
        by_cases hjl : j < zs.length
        · obtain ⟨ga, hga, d1⟩ := HPB.out j hjl
          obtain ⟨ge, hge, d2⟩ := HPF.out j hjl
          subst hga
          subst hge
          obtain ⟨e1, e2, e3⟩ := HB.out.ht.each zs[j] (List.getElem_mem hjl)
          obtain ⟨p1, c1, h1, r1⟩ := RdT.of e1
          obtain ⟨p2, c2', h2, r2⟩ := RdT.of e2
          have d1' : wr.cell? ⟨ga, j, none⟩ = some (.slice p1 zs[j].2.2.length c1) := by rw [hcw, d1]; simp [hjl, h1]
          have d2' : wr.cell? ⟨ge, j, none⟩ = some (.slice p2 zs[j].2.2.length c2') := by rw [hcw, d2]; simp [hjl, h2]
          have r1 : RdT wr p1 zs[j].2.2 := by rw [hwr]; exact r1.drewN n'
          have r2 : RdT wr p2 zs[j].2.2 := by rw [hwr]; exact r2.drewN n'
          have HWR := hide hwr
          obtain ⟨l, hll⟩ : ∃ l, l = zs[j].2.2 := ⟨_, rfl⟩
          rw [← hll] at d1' d2' r1 r2 e3
          have e3' : l.length ≤ 400 := e3
          have R1 := hide r1
          have R2 := hide r2
          have t2 : (j : Int) < (zs.length : Int) := by omega
          clear d1 d2 h1 h2 r1 r2 e1 e2 hll hwr hcw e3
          go_wp2
          go_quiet ((go_at_call 17; refine Calls.quiet_of (sameTimes_any _ _ _ _ _ _ (R1.out.drewN _) (R2.out.drewN _) (by omega))))
          go_wp2
          go_roundw
          case rel => exact ⟨j + 1, by omega, rfl, by go_num, n' + nq, by rw [HWR.out]; simp⟩
          case measure => simp [intOf]; omega
        · have t2 : ¬ (j : Int) < (zs.length : Int) := by omega
          subst hwr
          clear hcw
          go_wp2
          go_ret
          exact ⟨rfl, n', rfl⟩

theorem word_big (a : Int) (w : World) (h0 : 0 ≤ a) (h1 : a ≤ 100000000000000) :
    Calls Tryz.prog 40 #[.int .i64 a] w fun e w' => e = .returned (.int .i64 (-1000003 - a)) ∧ w' = w := by
  go_enter Tryz.func40, Tryz.ntmps40
  go_wp2
  go_ret
  exact ⟨rfl, rfl⟩

/-- What was marked, of times. -/
theorem marksT {w : World} {B : Nat} {v : Value} {n q : Nat} (h : w.ownsRow B shT.e shT.size v n ((List.replicate n (shT.mark q)).flatMap shT.enc)) : Rw shT w B v (List.replicate n (⟨-1 - (q : Int), 0, 0, 0, 0⟩ : Tm)) := by
  unfold Rw
  rw [List.length_replicate]
  exact h
theorem marksW {w : World} {B : Nat} {v : Value} {n q : Nat} (h : w.ownsRow B shW.e shW.size v n ((List.replicate n (shW.mark q)).flatMap shW.enc)) : Own w B v (List.replicate n (-1000003 - (q : Int))) := by
  refine Rw.own.1 ?_
  unfold Rw
  rw [List.length_replicate]
  exact h

set_option maxRecDepth 100000 in
set_option maxHeartbeats 4000000 in
theorem readsQ (B bb : Nat) (wv aw ew : Value) (ms : List (Value × Nat)) (av es : List Value) (ys : List (Value × Value × List Int)) (tv at' et : Value) (ts : List (Value × Nat)) (bv fs : List Value) (zs : List (Value × Value × List Tm)) (w : World)
    (hb : Bq w B bb wv aw ew ms av es ys tv at' et ts bv fs zs) (hl : (ms.length : Int) ≤ 100000000000000) (hlz : (ts.length : Int) ≤ 100000000000000) :
    Calls Tryz.prog 25 #[.pointer (some ⟨bb, 0, none⟩)] w fun e w' => e = .returned (.bool true) ∧ ∃ n, w' = w.drewN n := by
  obtain ⟨c0, c1, c2, c3, c4, c5, cf⟩ := hb.cells rfl
  obtain ⟨pa, ca, ha, hpa⟩ := row_at hb.hw.words
  obtain ⟨pb, cb, hbb, hpb⟩ := row_at hb.ht.words
  subst ha
  subst hbb
  have HPA := hide hpa
  have HPB := hide hpb
  have HB := hide hb
  clear hb hpa hpb c2 c3 c4 c5 cf
  go_enter Tryz.func25, Tryz.ntmps25
  go_wp2
  go_loopw [3, 4] (fun ok i wr => ∃ k : Nat, k ≤ ms.length ∧ ok = .bool true ∧ i = .int .i64 k ∧ ∃ n, wr = w.drewN n) (fun _ i _ => ms.length - (intOf i).toNat)
  case atStart => exact ⟨0, Nat.zero_le _, rfl, rfl, 0, rfl⟩
  case round =>
    obtain ⟨k, hk, rfl, rfl, n, hwr⟩ := hrel
    rename World => wo
    have hcw : ∀ a, wo.cell? a = w.cell? a := fun a => by rw [hwr]; rfl
    have b0 : wo.cell? ⟨bb, 0, none⟩ = some (.slice pa ms.length ca) := (hcw _).trans c0
    have b1 : wo.cell? ⟨bb, 1, none⟩ = some (.slice pb ts.length cb) := (hcw _).trans c1
    by_cases hlt : k < ms.length
    · obtain ⟨ga, hga, d1⟩ := HPA.out k hlt
      subst hga
      have hmk := marksW (HB.out.hw.marks k ms[k].1 ms[k].2 (by simp [hlt]))
      have hsz : ms[k].2 ≤ 19 := HB.out.hw.sizes ms[k] (List.getElem_mem hlt)
      obtain ⟨p1, cc1, h1, r1⟩ := hmk.slice
      have d1' : wo.cell? ⟨ga, k, none⟩ = some (.slice p1 ms[k].2 cc1) := by rw [hcw, d1]; simp [hlt, h1]
      have r1 : Rd wo p1 (List.replicate ms[k].2 (-1000003 - ((k / 4 : Nat) : Int))) := by rw [hwr]; exact r1.drewN n
      have hk4 : ((k / 4 : Nat) : Int) = (k : Int) / 4 := by omega
      rw [hk4] at r1
      obtain ⟨m, hm⟩ : ∃ m, m = ms[k].2 := ⟨_, rfl⟩
      rw [← hm] at d1' r1 hsz
      have R1 := hide r1
      have t1 : (k : Int) < (ms.length : Int) := by omega
      have HWR := hide hwr
      clear d1 h1 r1 hmk hwr hcw hm hk4
      go_wp2
      go_loopw [3, 5] (fun ok i wr => ∃ j : Nat, j ≤ m ∧ ok = .bool true ∧ i = .int .i64 j ∧ ∃ n', wr = wo.drewN n') (fun _ i _ => m - (intOf i).toNat)
      case atStart => exact ⟨0, Nat.zero_le _, rfl, rfl, 0, rfl⟩
      case round =>
        obtain ⟨j, hj, rfl, rfl, n', hwq⟩ := hrel
        have hcq : ∀ a, wr.cell? a = wo.cell? a := fun a => by rw [hwq]; rfl
        have f0 : wr.cell? ⟨bb, 0, none⟩ = some (.slice (some ⟨ga, 0, none⟩) ms.length ca) := (hcq _).trans b0
        have f1 : wr.cell? ⟨ga, k, none⟩ = some (.slice p1 m cc1) := (hcq _).trans d1'
        by_cases hjl : j < m
        · obtain ⟨gb, off, hp, _, hc⟩ := R1.out.at (i := j) (by simp; omega)
          subst hp
          have f2 : wr.cell? ⟨gb, off + j, none⟩ = some (.int .i64 (-1000003 - (k : Int) / 4)) := by
            rw [hcq, hc j (by simp; omega)]
            simp [List.getD_eq_getElem?_getD, hjl]
          have t2 : (j : Int) < (m : Int) := by omega
          have t3 : ((-1000003 - (k : Int) / 4) == (-1000003 - (k : Int) / 4)) = true := by simp
          have HWQ := hide hwq
          clear hcq hwq hc
          go_wp2
          go_quiet ((go_at_call 40; exact Calls.quiet_of_same (word_big _ _ (by omega) (by omega))))
          go_wp2
          go_roundw
          case rel => exact ⟨j + 1, by omega, rfl, by go_num, n' + nq, by rw [HWQ.out]; simp⟩
          case measure => simp [intOf]; omega
        · have t2 : ¬ (j : Int) < (m : Int) := by omega
          have HWQ := hide hwq
          clear hcq hwq
          go_wp2
          go_roundw
          case rel => exact ⟨k + 1, by omega, rfl, by go_num, n + n', by rw [HWQ.out, HWR.out]; simp⟩
          case measure => simp [intOf]; omega
    · have t1 : ¬ (k : Int) < (ms.length : Int) := by omega
      subst hwr
      clear hcw
      go_wp2
      go_loopw [3, 6] (fun ok i wr => ∃ k : Nat, k ≤ ts.length ∧ ok = .bool true ∧ i = .int .i64 k ∧ ∃ n, wr = w.drewN n) (fun _ i _ => ts.length - (intOf i).toNat)
      case atStart => exact ⟨0, Nat.zero_le _, rfl, rfl, n, rfl⟩
      case round =>
        clear b0 b1
        obtain ⟨q, hq, rfl, rfl, n', hwr⟩ := hrel
        rename World => wo
        have hcw : ∀ a, wo.cell? a = w.cell? a := fun a => by rw [hwr]; rfl
        have b1 : wo.cell? ⟨bb, 1, none⟩ = some (.slice pb ts.length cb) := (hcw _).trans c1
        by_cases hql : q < ts.length
        · obtain ⟨ga, hga, d1⟩ := HPB.out q hql
          subst hga
          have hmk := marksT (HB.out.ht.marks q ts[q].1 ts[q].2 (by simp [hql]))
          have hsz : ts[q].2 ≤ 403 := HB.out.ht.sizes ts[q] (List.getElem_mem hql)
          obtain ⟨p1, cc1, h1, r1⟩ := RdT.of hmk
          have d1' : wo.cell? ⟨ga, q, none⟩ = some (.slice p1 ts[q].2 cc1) := by rw [hcw, d1]; simp [hql, h1]
          have r1 : RdT wo p1 (List.replicate ts[q].2 (⟨-1 - ((q / 4 : Nat) : Int), 0, 0, 0, 0⟩ : Tm)) := by rw [hwr]; exact r1.drewN n'
          have hk4 : ((q / 4 : Nat) : Int) = (q : Int) / 4 := by omega
          rw [hk4] at r1
          obtain ⟨m, hm⟩ : ∃ m, m = ts[q].2 := ⟨_, rfl⟩
          rw [← hm] at d1' r1 hsz
          have R1 := hide r1
          have t2 : (q : Int) < (ts.length : Int) := by omega
          have HWR := hide hwr
          clear d1 h1 r1 hmk hwr hcw hm hk4
          go_wp2
          go_loopw [3, 7] (fun ok i wr => ∃ j : Nat, j ≤ m ∧ ok = .bool true ∧ i = .int .i64 j ∧ wr = wo) (fun _ i _ => m - (intOf i).toNat)
          case atStart => exact ⟨0, Nat.zero_le _, rfl, rfl, rfl⟩
          case round =>
            obtain ⟨j, hj, rfl, rfl, hwq⟩ := hrel
            subst hwq
            by_cases hjl : j < m
            · rcases R1.out with h | ⟨gb, off, rfl, _, hc⟩
              · rw [List.replicate_eq_nil_iff] at h; omega
              have hgt : (List.replicate m (⟨-1 - (q : Int) / 4, 0, 0, 0, 0⟩ : Tm))[j]? = some ⟨-1 - (q : Int) / 4, 0, 0, 0, 0⟩ := by simp [hjl]
              have f0 : wr.cell? ⟨gb, off + j * 5, none⟩ = some (.int .i64 (-1 - (q : Int) / 4)) := hc j _ hgt 0 (by omega)
              have f1 : wr.cell? ⟨gb, off + j * 5 + 1, none⟩ = some (.int .i64 0) := hc j _ hgt 1 (by omega)
              have f2 : wr.cell? ⟨gb, off + j * 5 + 2, none⟩ = some (.int .i64 0) := hc j _ hgt 2 (by omega)
              have f3 : wr.cell? ⟨gb, off + j * 5 + 3, none⟩ = some (.int .i64 0) := hc j _ hgt 3 (by omega)
              have f4 : wr.cell? ⟨gb, off + j * 5 + 4, none⟩ = some (.int .i64 0) := hc j _ hgt 4 (by omega)
              have t3 : (j : Int) < (m : Int) := by omega
              have t4 : ((-1 - (q : Int) / 4) == (-1 - (q : Int) / 4)) = true := by simp
              clear hc hgt
              go_wp2
              go_roundw
              case rel => exact ⟨j + 1, by omega, rfl, by go_num, by first | trivial | rfl⟩
              case measure => simp [intOf]; omega
            · have t3 : ¬ (j : Int) < (m : Int) := by omega
              go_wp2
              go_roundw
              case rel => exact ⟨q + 1, by omega, rfl, by go_num, n', HWR.out⟩
              case measure => simp [intOf]; omega
        · have t2 : ¬ (q : Int) < (ts.length : Int) := by omega
          subst hwr
          clear hcw
          go_wp2
          go_ret
          exact ⟨rfl, n', rfl⟩

end Go.Proofs.YtmeiogoodbnkkaaGreat
