/- The book is settled. -/
import Derived.Test.YtmeiogoodbnkkaaGreatK6
namespace Go.Proofs.YtmeiogoodbnkkaaGreat
open Go.RowKit

theorem Bk.clear {w : World} {B bb : Nat} {wv aw ew : Value} {ms : List (Value × Nat)} {av es : List Value} {ys : List (Value × Value × List Int)} (h : Bk w B bb wv aw ew ms av es ys) :
    Bk ((((w.setCell ⟨bb, 2, none⟩ (.slice none 0 0)).setCell ⟨bb, 3, none⟩ (.slice none 0 0)).setCell ⟨bb, 4, none⟩ (.slice none 0 0)).setCell ⟨bb, 5, none⟩ (.slice none 0 0)) B bb wv (.slice none 0 0) (.slice none 0 0) ms [] [] [] := by
  have h1 := heap_setCell_same _ _ 2 _ _ (.slice none 0 0) h.blk
  have h2 := heap_setCell_same _ _ 3 _ _ (.slice none 0 0) h1
  have h3 := heap_setCell_same _ _ 4 _ _ (.slice none 0 0) h2
  have h4 := heap_setCell_same _ _ 5 _ _ (.slice none 0 0) h3
  have hk : ∀ {e : TypeId} {v : Value} {n : Nat} {xs : List Value}, w.ownsRow B e 1 v n xs → e ≠ 28 → ((((w.setCell ⟨bb, 2, none⟩ (.slice none 0 0)).setCell ⟨bb, 3, none⟩ (.slice none 0 0)).setCell ⟨bb, 4, none⟩ (.slice none 0 0)).setCell ⟨bb, 5, none⟩ (.slice none 0 0)).ownsRow B e 1 v n xs :=
    fun hv he => own_set_bb (own_set_bb (own_set_bb (own_set_bb hv h.blk he _ _) h1 he _ _) h2 he _ _) h3 he _ _
  have hnil : ∀ y : Value, Apart y (.slice none 0 0) := fun y g _ h2 => by cases h2
  exact ⟨h4, h.base, by simpa [World.setCell] using h.small, hk h.words (by decide), World.ownsRow_nil _ _ _ _, World.ownsRow_nil _ _ _ _, fun k v n e => hk (h.marks k v n e) (by decide), fun y hy => (by cases hy), hnil _, hnil _, hnil _, List.Pairwise.nil, fun y hy => (by cases hy), fun m _ y hy => (by cases hy), h.sizes⟩

set_option maxRecDepth 100000 in
set_option maxHeartbeats 4000000 in
theorem settles_any (B bb q : Nat) (wv aw ew : Value) (ms : List (Value × Nat)) (ys : List (Value × Value × List Int)) (w : World) (hq : ms.length = 4 * q)
    (hb : Bk w B bb wv aw ew ms (ys.map (·.1)) (ys.map (·.2.1)) ys) (ht : ∀ y ∈ ys, Tight y.1) (hl : ms.length + 4 * ys.length ≤ 1000) :
    Calls Tryz.prog 7 #[.pointer (some ⟨bb, 0, none⟩)] w fun e w' => e = .returned (.bool true) ∧ Below B w w' := by
  have HB := hide hb
  have HT := hide ht
  have HQ := hide hq
  clear hb ht hq
  go_enter Tryz.func7, Tryz.ntmps7
  go_wp2_with (go_at_call 22; refine (waits_any B bb _ _ _ _ _ _ HB.out (by omega)).mono ?_; rintro e w1 ⟨rfl, n1, rfl⟩)
  go_loopw [4] (fun i wr => ∃ k : Nat, k ≤ ys.length ∧ i = .int .i64 k ∧ Hid (∃ wv' ms', ms'.length = 4 * (q + k) ∧ Bk wr B bb wv' aw ew ms' (ys.map (·.1)) (ys.map (·.2.1)) (ys.drop k) ∧ Below B w wr)) (fun i _ => ys.length - (intOf i).toNat)
  case atStart => exact ⟨0, Nat.zero_le _, rfl, wv, ms, HQ.out, HB.out.grow (grown_draws _ _), below_drewN (Below.refl _ _) _⟩
  case round =>
    obtain ⟨k, hk, rfl, hr⟩ := hrel
    obtain ⟨wv', ms', hms, hb, hbel⟩ := hr.out
    clear hr
    have hq := HQ.out
    obtain ⟨c0, c1, c2, c3, c4, c5, cf⟩ := bk_cells hb rfl
    obtain ⟨pa, ca, ha, hpa⟩ := row_at hb.wait
    subst ha
    simp only [List.length_map] at hpa c2
    by_cases hlt : k < ys.length
    · obtain ⟨ga, hga, d1⟩ := hpa k hlt
      subst hga
      have hy := HT.out ys[k] (List.getElem_mem hlt)
      have hd : ys.drop k = ys[k] :: ys.drop (k + 1) := List.drop_eq_getElem_cons hlt
      rw [hd] at hb
      obtain ⟨v, x, l, hv⟩ : ∃ v x l, ys[k] = (v, x, l) := ⟨_, _, _, rfl⟩
      rw [hv] at hb hy
      have d2 : wr.cell? ⟨ga, k, none⟩ = some v := by rw [d1]; simp [hlt, hv]
      obtain ⟨p1, cc1, hp1, _⟩ := (hb.each _ (List.mem_cons_self ..)).1.slice
      simp only at hp1
      subst hp1
      have t1 : (k : Int) < (ys.length : Int) := by omega
      have HBB := hide hb
      have HY := hide hy
      have HBEL := hide hbel
      have HMS := hide hms
      clear hb hy hbel d1 hd hv c0 c1 c3 c4 c5 cf hpa hms hq
      go_wp2_with (go_at_call 23; refine (markWords_any B bb (q + k) _ _ _ _ _ _ _ _ _ _ _ HMS.out HBB.out HY.out (by have := HMS.out; have := HQ.out; omega)).mono ?_; rintro e w2 ⟨rfl, hb2, wv2, ms2, hms2, hbk2⟩)
      go_roundw
      case rel => exact ⟨k + 1, by omega, by go_num, wv2, ms2, by omega, hbk2, HBEL.out.trans hb2⟩
      case measure => simp [intOf]; omega
    · have t1 : ¬ (k : Int) < (ys.length : Int) := by omega
      have HBB := hide hb
      have HBEL := hide hbel
      have hmsl : ms'.length ≤ 1000 := by omega
      clear hb hbel hpa c0 c1 hms hq
      go_wp2
      go_loopw [5] (fun i wq => i = .int .i64 0 ∧ Hid (wq = wr)) (fun _ _ => 0)
      case atStart => exact ⟨rfl, rfl⟩
      case round =>
        obtain ⟨rfl, hq2⟩ := hrel
        have hq3 := hq2.out
        subst hq3
        clear hq2
        go_wp2_with (go_at_call 25; refine (reads_any B bb _ _ _ _ _ _ _ _ HBB.out.clear hmsl).mono ?_; rintro e w2 ⟨rfl, n2, rfl⟩)
        go_ret
        exact ⟨rfl, below_drewN ((((HBEL.out.setCell HBB.out.base _).setCell HBB.out.base _).setCell HBB.out.base _).setCell HBB.out.base _) _⟩

end Go.Proofs.YtmeiogoodbnkkaaGreat
