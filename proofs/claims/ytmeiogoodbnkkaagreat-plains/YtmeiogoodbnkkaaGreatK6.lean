/- A list is marked by its owner. -/
import Derived.Test.YtmeiogoodbnkkaaGreatK5
namespace Go.Proofs.YtmeiogoodbnkkaaGreat
open Go.RowKit

theorem own_rep {w : World} {B n : Nat} {v : Value} {m : Int} (h : Own w B v (List.replicate n m)) : w.ownsRow B 2 1 v n (List.replicate n (Value.int .i64 m)) := by simpa [Own] using h
theorem own_rep' {w : World} {B n j : Nat} {v : Value} {m : Int} {xs : List Value} (h : w.ownsRow B 2 1 v (n + j) (List.replicate n (Value.int .i64 m) ++ xs)) (hx : xs = List.replicate j (Value.int .i64 m) := by rfl) : Own w B v (List.replicate (n + j) m) := by
  subst hx
  simpa [Own, List.replicate_append_replicate] using h
theorem grown_trans {a b c : World} (h : a.grownBy b none) (h' : b.grownBy c none) : a.grownBy c none :=
  ⟨h'.os.trans h.os, h'.tape.trans h.tape, h'.output.trans h.output, Nat.le_trans h.size h'.size, fun k hk _ => (h'.block k (Nat.lt_of_lt_of_le hk h.size) (by simp)).trans (h.block k hk (by simp))⟩

set_option maxRecDepth 100000 in
set_option maxHeartbeats 4000000 in
theorem markWords_any (B bb q : Nat) (wv aw ew : Value) (ms : List (Value × Nat)) (av es : List Value) (v x : Value) (l : List Int) (ys : List (Value × Value × List Int)) (w : World)
    (hq : ms.length = 4 * q) (hb : Bk w B bb wv aw ew ms av es ((v, x, l) :: ys)) (ht : Tight v) (hml : ms.length ≤ 1000) :
    Calls Tryz.prog 23 #[.pointer (some ⟨bb, 0, none⟩), v] w fun e w' => e = .returned (.tuple #[]) ∧ Below B w w' ∧ ∃ wv' ms', ms'.length = 4 * (q + 1) ∧ Bk w' B bb wv' aw ew ms' av es ys := by
  obtain ⟨i0, hi0, hz0, hz1, hz2⟩ := info_parts Tryz.info2
  obtain ⟨j0, hj0, hy0, hy1, hy2⟩ := info_parts Tryz.info23
  obtain ⟨hv, hx, hl16⟩ := hb.each _ (List.mem_cons_self ..)
  simp only at hv hx hl16
  obtain ⟨p, c, rfl, hrd⟩ := hv.slice
  obtain ⟨c0, c1, c2, c3, c4, c5, cf⟩ := bk_cells hb rfl
  obtain ⟨pw, cw, hw, hpw⟩ := row_at hb.words
  subst hw
  have hq4 : (ms.length : Int) / 4 = (q : Int) := by omega
  have hq0 : (q : Int) ≤ 1000000 := by omega
  have HQ := hide hq
  have HB := hide hb
  have HV := hide hv
  have HT := hide ht
  have hbz := (Array.getElem?_eq_some_iff.1 hb.blk).1
  clear hb hv ht hrd hx c1 c2 c3 c4 c5 hpw hq
  go_enter Tryz.func23, Tryz.ntmps23
  go_wp2_with (go_at_call 40; refine (word_any _ _ (by omega) (by omega)).mono ?_; rintro e w0 ⟨rfl, rfl⟩)
  go_loopw [5] (fun i wr => ∃ k : Nat, k ≤ l.length ∧ i = .int .i64 k ∧ Hid (Own wr B (.slice p l.length c) (List.replicate k (-1000003 - (q : Int)) ++ l.drop k) ∧ w0.grownBy wr (Value.slice p l.length c).ownBlock)) (fun i _ => l.length - (intOf i).toNat)
  case atStart => exact ⟨0, Nat.zero_le _, rfl, by simpa using HV.out, ⟨rfl, rfl, rfl, Nat.le_refl _, fun _ _ _ => rfl⟩⟩
  case round =>
    obtain ⟨k, hk, rfl, hr⟩ := hrel
    obtain ⟨ho, hg⟩ := hr.out
    clear hr
    have hml2 := mark_len l (-1000003 - (q : Int)) k hk
    by_cases hlt : k < l.length
    · rcases ho.form with ⟨_, hn2⟩ | ⟨g, cap, cur, hn1, hn2, hn3, hn4, hn5, hn6, hn7, hn8⟩
      · rw [hn2] at hml2; simp at hml2; omega
      rw [hml2] at hn1
      simp only [Value.slice.injEq] at hn1
      obtain ⟨rfl, -, rfl⟩ := hn1
      obtain ⟨p', c', hp', hrd'⟩ := ho.slice
      rw [hml2] at hp'
      simp only [Value.slice.injEq] at hp'
      obtain ⟨rfl, -, rfl⟩ := hp'
      obtain ⟨_, _, h5, _, h6⟩ := hrd'.at (i := k) (by omega)
      simp only [Option.some.injEq, Addr.mk.injEq, and_true] at h5
      obtain ⟨rfl, rfl⟩ := h5
      have hcj := h6 k (by omega)
      rw [Nat.zero_add] at hcj
      have ho2 := ho
      rw [← hml2] at ho2
      have hfj := World.ownsRow.frozenAt ho2 k
      obtain ⟨y, hy⟩ : ∃ y, y = (List.replicate k (-1000003 - (q : Int)) ++ l.drop k).getD k 0 := ⟨_, rfl⟩
      rw [← hy] at hcj
      have t1 : (k : Int) < (l.length : Int) := by omega
      have HO2 := hide ho2
      have HG := hide hg
      clear ho ho2 hg h6 hrd' hn4 hn7 hn8 hy hml2
      go_wp2
      go_roundw
      case rel =>
        refine ⟨k + 1, by omega, by go_num, ?_, ?_⟩
        · have h9 := HO2.out.setWord k (-1000003 - (q : Int))
          rw [mark_step l _ k hlt, mark_len l _ k hk] at h9
          exact h9
        · have h9 := HG.out
          exact ⟨h9.os, h9.tape, h9.output, by simpa [World.setCell] using h9.size, fun j hj hne => by rw [Below.heap_setCell _ _ _ _ (fun e => hne (by simp [Value.ownBlock, e]))]; exact h9.block j hj hne⟩
      case measure => simp [intOf]; omega
    · have hkl : k = l.length := by omega
      subst hkl
      have ho1 : Own wr B (.slice p l.length c) (List.replicate l.length (-1000003 - (q : Int))) := by simpa using ho
      have HO1 := hide ho1
      have HBk1 := hide (HB.out.dropHead hg)
      have HG := hide hg
      have hbz1 : bb < wr.heap.size := Nat.lt_of_lt_of_le hbz hg.size
      clear ho ho1 hg c0 cf
      go_wp2_with (first
        | (refine wpList_append_fresh _ rfl (.tmp 26) (.tmp 28) 23 rfl B 2 i0 (.int .i64 0) 8 Tryz.underlying23 hi0 hz0 hz1 hz2 rfl (.slice p l.length c) l.length (List.replicate l.length (.int .i64 (-1000003 - (q : Int)))) (by rfl) (own_rep (HO1.out.grow (World.grownBy_alloc _ _ none))) HT.out ⟨wr.heap.size, 0, none⟩ 1 1 [.int .i64 (-1000003 - (q : Int))] (by rfl) (by simp) (newsN (cs := #[.int .i64 (-1000003 - (q : Int))]) rfl) (by intro u hu; simp at hu; subst hu; rfl) (by omega) (by unfold maxLen; omega) (by omega) (by have := HBk1.out.small; simp; omega) ?_; intro v1 w1 hown1 hgr1 hat1; have HV1 := hide (own_rep' hown1); have HG1 := hide (grown_trans (World.grownBy_alloc wr (.cells #[.int .i64 (-1000003 - (q : Int))] 2) none) hgr1); have HA1 := hide hat1; have HO2 := hide (HO1.out.grow HG1.out); have HBk2 := hide (HBk1.out.grow HG1.out); clear hown1 hgr1 hat1)
        | (refine wpList_append_fresh _ rfl (.tmp 30) (.tmp 33) 23 rfl B 2 i0 (.int .i64 0) 8 Tryz.underlying23 hi0 hz0 hz1 hz2 rfl (.slice p l.length c) l.length (List.replicate l.length (.int .i64 (-1000003 - (q : Int)))) (by rfl) (own_rep (HO2.out.grow (World.grownBy_alloc _ _ none))) HT.out ⟨w1.heap.size, 0, none⟩ 2 2 [.int .i64 (-1000003 - (q : Int)), .int .i64 (-1000003 - (q : Int))] (by rfl) (by simp) (newsN (cs := #[.int .i64 (-1000003 - (q : Int)), .int .i64 (-1000003 - (q : Int))]) rfl) (by intro u hu; simp at hu; subst hu; rfl) (by omega) (by unfold maxLen; omega) (by omega) (by have := HBk2.out.small; simp; omega) ?_; intro v2 w2 hown2 hgr2 hat2; have HV2 := hide (own_rep' hown2); have HG2 := hide (grown_trans (World.grownBy_alloc w1 (.cells #[.int .i64 (-1000003 - (q : Int)), .int .i64 (-1000003 - (q : Int))] 2) none) hgr2); have HA2 := hide hat2; have HO3 := hide (HO2.out.grow HG2.out); have HBk3 := hide (HBk2.out.grow HG2.out); clear hown2 hgr2 hat2)
        | (refine wpList_append_fresh _ rfl (.tmp 35) (.tmp 39) 23 rfl B 2 i0 (.int .i64 0) 8 Tryz.underlying23 hi0 hz0 hz1 hz2 rfl (.slice p l.length c) l.length (List.replicate l.length (.int .i64 (-1000003 - (q : Int)))) (by rfl) (own_rep (HO3.out.grow (World.grownBy_alloc _ _ none))) HT.out ⟨w2.heap.size, 0, none⟩ 3 3 [.int .i64 (-1000003 - (q : Int)), .int .i64 (-1000003 - (q : Int)), .int .i64 (-1000003 - (q : Int))] (by rfl) (by simp) (newsN (cs := #[.int .i64 (-1000003 - (q : Int)), .int .i64 (-1000003 - (q : Int)), .int .i64 (-1000003 - (q : Int))]) rfl) (by intro u hu; simp at hu; subst hu; rfl) (by omega) (by unfold maxLen; omega) (by omega) (by have := HBk3.out.small; simp; omega) ?_; intro v3 w3 hown3 hgr3 hat3; have HV3 := hide (own_rep' hown3); have HG3 := hide (grown_trans (World.grownBy_alloc w2 (.cells #[.int .i64 (-1000003 - (q : Int)), .int .i64 (-1000003 - (q : Int)), .int .i64 (-1000003 - (q : Int))] 2) none) hgr3); have HA3 := hide hat3; have HO4 := hide (HO3.out.grow HG3.out); have HBk4 := hide (HBk3.out.grow HG3.out); obtain ⟨g1, k1, e1, _, _⟩ := World.ownsRow.form HV1.out (by simp); obtain ⟨g2, k2, e2, _, _⟩ := World.ownsRow.form HV2.out (by simp); obtain ⟨g3, k3, e3, _, _⟩ := World.ownsRow.form HV3.out (by simp); simp only [List.length_replicate] at e1 e2 e3; subst e1; subst e2; subst e3; obtain ⟨c0, _, _, _, _, _, cf⟩ := bk_cells HBk4.out rfl; clear hown3 hgr3 hat3)
        | (refine wpList_append_keeps _ rfl (.tmp 45) (.tmp 50) 25 rfl B 23 j0 (.slice none 0 0) 24 Tryz.underlying25 hj0 hy0 hy1 hy2 rfl (.slice pw ms.length cw) ms.length (ms.map (·.1)) (by rfl) (World.ownsRow.alloc HBk4.out.words _) ⟨w3.heap.size, 0, none⟩ 4 4 [.slice p l.length c, .slice (some ⟨g1, 0, none⟩) (l.length + 1) k1, .slice (some ⟨g2, 0, none⟩) (l.length + 2) k2, .slice (some ⟨g3, 0, none⟩) (l.length + 3) k3] (by rfl) (by simp) (newsN (cs := #[.slice p l.length c, .slice (some ⟨g1, 0, none⟩) (l.length + 1) k1, .slice (some ⟨g2, 0, none⟩) (l.length + 2) k2, .slice (some ⟨g3, 0, none⟩) (l.length + 3) k3]) rfl) (by intro u hu; simp at hu; rcases hu with rfl | rfl | rfl | rfl <;> rfl) (by unfold maxLen; omega) (by omega) (by have := HBk4.out.small; simp; omega) ?_; intro wv' w4 hown4 hold4 hgr4 hat4; obtain ⟨gw, kw, ew', _, _⟩ := World.ownsRow.form hown4 (by omega); subst ew'; have HBk5 := hide (HBk4.out.grow (World.grownBy_alloc w3 (.cells #[.slice p l.length c, .slice (some ⟨g1, 0, none⟩) (l.length + 1) k1, .slice (some ⟨g2, 0, none⟩) (l.length + 2) k2, .slice (some ⟨g3, 0, none⟩) (l.length + 3) k3] 23) none)); have HW4 := hide hown4; have HG4 := hide hgr4; have HA4 := hide hat4; have hbb4 := hgr4.block bb (Array.getElem?_eq_some_iff.1 HBk5.out.blk).1 (bb_ne_row HBk5.out.words HBk5.out.blk (by decide)); obtain ⟨z0, _, _, _, _, _, zf⟩ := bk_cells HBk5.out hbb4; clear hown4 hold4 hgr4 hat4 hbb4))
      have hga := World.grownBy_alloc w3 (.cells #[.slice p l.length c, .slice (some ⟨g1, 0, none⟩) (l.length + 1) k1, .slice (some ⟨g2, 0, none⟩) (l.length + 2) k2, .slice (some ⟨g3, 0, none⟩) (l.length + 3) k3] 23) none
      have o0 := HO4.out.grow hga
      have o1 := ((HV1.out.grow HG2.out).grow HG3.out).grow hga
      have o2 := (HV2.out.grow HG3.out).grow hga
      have o3 := HV3.out.grow hga
      have hq1 := (List.pairwise_cons.1 HB.out.q1).1
      have hnil : ∀ y : Value, Apart y (.slice none 0 0) := fun y g _ h2 => by cases h2
      have p1 : ∀ y ∈ ys, Apart y.1 (.slice (some ⟨g1, 0, none⟩) (l.length + 1) k1) := fun y hy => apart_new (((HBk1.out.each y hy).1).grow (World.grownBy_alloc wr (.cells #[.int .i64 (-1000003 - (q : Int))] 2) none)) (hnil _) (.inr HA1.out)
      have p2 : ∀ y ∈ ys, Apart y.1 (.slice (some ⟨g2, 0, none⟩) (l.length + 2) k2) := fun y hy => apart_new (((HBk2.out.each y hy).1).grow (World.grownBy_alloc w1 (.cells #[.int .i64 (-1000003 - (q : Int)), .int .i64 (-1000003 - (q : Int))] 2) none)) (hnil _) (.inr HA2.out)
      have p3 : ∀ y ∈ ys, Apart y.1 (.slice (some ⟨g3, 0, none⟩) (l.length + 3) k3) := fun y hy => apart_new (((HBk3.out.each y hy).1).grow (World.grownBy_alloc w2 (.cells #[.int .i64 (-1000003 - (q : Int)), .int .i64 (-1000003 - (q : Int)), .int .i64 (-1000003 - (q : Int))] 2) none)) (hnil _) (.inr HA3.out)
      have hq' : ms.length = 4 * q := HQ.out
      go_end0
      refine ⟨rfl, ?_, _, ms ++ [(.slice p l.length c, l.length), (.slice (some ⟨g1, 0, none⟩) (l.length + 1) k1, l.length + 1), (.slice (some ⟨g2, 0, none⟩) (l.length + 2) k2, l.length + 2), (.slice (some ⟨g3, 0, none⟩) (l.length + 3) k3, l.length + 3)], by simp; omega, HBk5.out.setWv (by simpa using HW4.out) HG4.out HA4.out ?_ ?_ ?_⟩
      · have hsm := HB.out.small
        have b1 : Below B w0 wr := (Below.refl _ _).grown HG.out hsm (fun k hk => (HV.out.lt k hk).1)
        have b2 := b1.grown HG1.out HBk1.out.small (by intro k hk; cases hk)
        have b3 := b2.grown HG2.out HBk2.out.small (by intro k hk; cases hk)
        have b4 := b3.grown HG3.out HBk3.out.small (by intro k hk; cases hk)
        have b5 := b4.grown hga HBk4.out.small (by intro k hk; cases hk)
        have b6 := b5.grown HG4.out HBk5.out.small (fun k hk => (World.ownsRow.lt HBk5.out.words k hk).1)
        exact b6.setCell (p := ⟨bb, 0, none⟩) HB.out.base _
      · intro k v n hk
        rcases Nat.lt_or_ge k ms.length with h' | h'
        · rw [List.getElem?_append_left h'] at hk
          exact HBk5.out.marks k v n hk
        · rw [List.getElem?_append_right h'] at hk
          have hj : k - ms.length = 0 ∨ k - ms.length = 1 ∨ k - ms.length = 2 ∨ k - ms.length = 3 ∨ 4 ≤ k - ms.length := by omega
          rcases hj with hj | hj | hj | hj | hj
          · have e4 : k / 4 = q := by omega
            rw [hj] at hk; simp at hk; obtain ⟨rfl, rfl⟩ := hk; rw [e4]; exact o0
          · have e4 : k / 4 = q := by omega
            rw [hj] at hk; simp at hk; obtain ⟨rfl, rfl⟩ := hk; rw [e4]; exact o1
          · have e4 : k / 4 = q := by omega
            rw [hj] at hk; simp at hk; obtain ⟨rfl, rfl⟩ := hk; rw [e4]; exact o2
          · have e4 : k / 4 = q := by omega
            rw [hj] at hk; simp at hk; obtain ⟨rfl, rfl⟩ := hk; rw [e4]; exact o3
          · rw [List.getElem?_eq_none (by simp; omega)] at hk; cases hk
      · intro m hm y hy
        rcases List.mem_append.1 hm with h' | h'
        · exact HBk5.out.q3 m h' y hy
        · simp at h'
          rcases h' with rfl | rfl | rfl | rfl
          · exact (hq1 y hy).1.symm
          · exact p1 y hy
          · exact p2 y hy
          · exact p3 y hy
      · intro m hm
        rcases List.mem_append.1 hm with h' | h'
        · exact HBk5.out.sizes m h'
        · simp at h'
          rcases h' with rfl | rfl | rfl | rfl <;> simp only <;> omega

end Go.Proofs.YtmeiogoodbnkkaaGreat
