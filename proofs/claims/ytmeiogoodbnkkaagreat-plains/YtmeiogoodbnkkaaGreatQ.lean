/- One order done: the code's step. -/
import Derived.Test.YtmeiogoodbnkkaaGreatRows
import Derived.Test.YtmeiogoodbnkkaaGreatP1
import Derived.WalkLawsBesides
import Derived.Deep.QuietTactic
import Derived.BigQuiet
import Derived.Deep.RegionHeld3
namespace Go.Proofs.YtmeiogoodbnkkaaGreat
open Go.RowKit

set_option maxRecDepth 100000 in
set_option maxHeartbeats 2000000 in
theorem step_trap (sb ra rb : Nat) (op d k : Int) (w : World) (regs : List Int) (p : Option Addr) (m c : Nat) (next stop tr0 steps : Int) (hst : StAt w sb regs (.slice p m c) next stop tr0 steps) (hra : ra < 8) (hrb : rb < 8) (t pl v tr : Int) (htr : (tr != 0) = true)
    (hwork : ∀ W, Below w.heap.size w W → Calls Tryz.prog 62 #[.agg #[.int .i64 op, .int .i64 d, .int .i64 ra, .int .i64 rb, .int .i64 k, .int .i64 next, .int .i64 (regs.getD ra 0), .int .i64 (regs.getD rb 0), .slice p m c]] W fun e w' =>
      e = .returned (.tuple #[.agg #[.int .i64 t, .int .i64 pl, .int .i64 v], .int .i64 tr]) ∧ Below W.heap.size W w') :
    Calls Tryz.prog 43 #[.pointer (some ⟨sb, 0, none⟩), .agg #[.int .i64 op, .int .i64 d, .int .i64 ra, .int .i64 rb, .int .i64 k]] w fun e w' => e = .returned (.int .i64 tr) ∧ Below w.heap.size w w' := by
  have HWK := hide hwork
  clear hwork
  have HTK : Hid (∀ W, Below w.heap.size w W → Calls Tryz.prog 63 #[.pointer (some ⟨sb, 0, none⟩), .agg #[.int .i64 op, .int .i64 d, .int .i64 ra, .int .i64 rb, .int .i64 k], .int .i64 next] W fun e w' =>
      e = .returned (.agg #[.int .i64 op, .int .i64 d, .int .i64 ra, .int .i64 rb, .int .i64 k, .int .i64 next, .int .i64 (regs.getD ra 0), .int .i64 (regs.getD rb 0), .slice p m c]) ∧ Below W.heap.size W w') := fun W hW => by
    have hs := hst.below hW hst.lt
    exact take_any sb 0 ra rb op d k next _ _ p m c W hra hrb hs.lt (by simpa using hs.reg hra) (by simpa using hs.reg hrb) (by simpa using hs.cMv)
  have ra0 : (0 : Int) ≤ (ra : Int) := by omega
  have ra1 : (ra : Int) < 8 := by omega
  have rb0 : (0 : Int) ≤ (rb : Int) := by omega
  have rb1 : (rb : Int) < 8 := by omega
  have hsb := hst.lt
  obtain ⟨W1, hW1⟩ : ∃ W1, W1 = w.alloc (.cells #[.int .i64 op, .int .i64 d, .int .i64 ra, .int .i64 rb, .int .i64 k] 40) := ⟨_, rfl⟩
  have hbox : ∀ w', Below (w.heap.size + 1) W1 w' → w'.cell? ⟨w.heap.size, 0, none⟩ = some (.int .i64 op) ∧ w'.cell? ⟨w.heap.size, 1, none⟩ = some (.int .i64 d) ∧ w'.cell? ⟨w.heap.size, 2, none⟩ = some (.int .i64 ra) ∧ w'.cell? ⟨w.heap.size, 3, none⟩ = some (.int .i64 rb) ∧ w'.cell? ⟨w.heap.size, 4, none⟩ = some (.int .i64 k) := by
    intro w' h
    have hc : ∀ j, w'.cell? ⟨w.heap.size, j, none⟩ = W1.cell? ⟨w.heap.size, j, none⟩ := fun j => h.cell (p := ⟨w.heap.size, j, none⟩) (Nat.lt_succ_self _)
    subst hW1
    simp [hc, go_sem]
  have r0 := fun w' h => (hbox w' h).1
  have r1 := fun w' h => (hbox w' h).2.1
  have r2 := fun w' h => (hbox w' h).2.2.1
  have r3 := fun w' h => (hbox w' h).2.2.2.1
  have r4 := fun w' h => (hbox w' h).2.2.2.2
  have hw1 : ∀ w', Below (w.heap.size + 1) W1 w' → Below w.heap.size w w' := fun w' h => by
    rw [hW1] at h; exact ((Below.refl _ _).alloc (Nat.le_refl _) _).trans (h.mono (by omega))
  have q0 : ∀ w', Below (w.heap.size + 1) W1 w' → w'.cell? ⟨sb, ra, none⟩ = some (.int .i64 (regs.getD ra 0)) := fun w' h => (hst.below (hw1 w' h) hsb).reg hra
  have q1 : ∀ w', Below (w.heap.size + 1) W1 w' → w'.cell? ⟨sb, rb, none⟩ = some (.int .i64 (regs.getD rb 0)) := fun w' h => (hst.below (hw1 w' h) hsb).reg hrb
  have q2 : ∀ w', Below (w.heap.size + 1) W1 w' → w'.cell? ⟨sb, 8, none⟩ = some (.slice p m c) := fun w' h => (hst.below (hw1 w' h) hsb).cMv
  have q3 : ∀ w', Below (w.heap.size + 1) W1 w' → w'.cell? ⟨sb, 9, none⟩ = some (.int .i64 next) := fun w' h => (hst.below (hw1 w' h) hsb).cNext
  have hstart : Below (w.heap.size + 1) W1 (w.alloc (.cells #[.int .i64 op, .int .i64 d, .int .i64 ra, .int .i64 rb, .int .i64 k] 40)).drew := by
    rw [hW1]; exact (Below.refl _ _).drew
  have hstart2 : ∀ x, Below (w.heap.size + 1) W1 ((w.alloc (.cells #[.int .i64 op, .int .i64 d, .int .i64 ra, .int .i64 rb, .int .i64 k] 40)).alloc x).drew := fun x => by
    rw [hW1]; exact ((Below.refl _ _).alloc (by simp) _).drew
  have HS2 := hide hstart2
  clear hstart2
  obtain ⟨xa, hxa⟩ : ∃ x, x = regs.getD ra 0 := ⟨_, rfl⟩
  obtain ⟨xb, hxb⟩ : ∃ x, x = regs.getD rb 0 := ⟨_, rfl⟩
  rw [← hxa] at q0 HWK HTK
  rw [← hxb] at q1 HWK HTK
  clear hbox hxa hxb
  have HS := hide hstart
  clear hstart
  have HB := hide hw1
  clear hw1
  have HW1 := hide hW1
  clear hW1
  have HST := hide hst
  clear hst
  go_enter Tryz.func43, Tryz.ntmps43
  go_wp2
  go_region_held3 (fun w' => Below (w.heap.size + 1) W1 w') (first | assumption | exact HS.out | exact HS2.out _ | exact HS1.out | exact HS0.out | exact HS0.out.alloc hz0 _ | exact HS1.out.alloc hz1 _ | (refine Below.setCell (Below.setCell (Below.setCell HS1.out ?_ _) ?_ _) ?_ _ <;> simp <;> omega) | fail) (first | (go_at_call 63; refine (HTK.out _ (HB.out _ (by assumption))).mono ?_; rintro e w0 ⟨rfl, hb0⟩; have HS0 : Hid (Below (w.heap.size + 1) W1 w0) := (Below.trans (by assumption) (hb0.mono (by first | omega | (simp; omega) | simp))); have hz0 : w.heap.size + 1 ≤ w0.heap.size := (by have := hb0.size; simp at this; omega); obtain ⟨hc0, hf0⟩ := bcell hb0; have hy0 := hb0.size; simp at hy0; have hx0 : w.heap.size < w0.heap.size := (by omega); try (have hv0 : w.heap.size + 1 < w0.heap.size := (by omega))) | (go_at_call 62; refine (HWK.out _ (HB.out _ (by first | assumption | exact HS0.out))).mono ?_; rintro e w1 ⟨rfl, hb1⟩; obtain ⟨hc1, hf1⟩ := bcell hb1; have HS1 : Hid (Below (w.heap.size + 1) W1 w1) := (Below.trans (by first | assumption | exact HS0.out) (hb1.mono (by first | omega | (simp; omega) | simp))); have hz1 : w.heap.size + 1 ≤ w1.heap.size := (by have := hb1.size; first | omega | (simp at this; omega))))
  all_goals go_wp2
  all_goals
    go_ret
    exact ⟨rfl, HB.out _ (by assumption)⟩

set_option maxRecDepth 100000 in
set_option maxHeartbeats 2000000 in
theorem step_go (sb ra rb : Nat) (op d k : Int) (w : World) (regs : List Int) (p : Option Addr) (m c : Nat) (next stop tr0 steps : Int) (hst : StAt w sb regs (.slice p m c) next stop tr0 steps) (hra : ra < 8) (hrb : rb < 8) (t pl v : Int) (hnx0 : 0 ≤ next) (hnx1 : next ≤ 1000) (hsp0 : 0 ≤ steps) (hsp1 : steps ≤ 1000) (tgt : Addr) (val : Value)
    (hwork : ∀ W, Below w.heap.size w W → Calls Tryz.prog 62 #[.agg #[.int .i64 op, .int .i64 d, .int .i64 ra, .int .i64 rb, .int .i64 k, .int .i64 next, .int .i64 (regs.getD ra 0), .int .i64 (regs.getD rb 0), .slice p m c]] W fun e w' =>
      e = .returned (.tuple #[.agg #[.int .i64 t, .int .i64 pl, .int .i64 v], .int .i64 0]) ∧ Below W.heap.size W w')
    (hput : ∀ W, Below w.heap.size ((w.setCell ⟨sb, 9, none⟩ (.int .i64 (next + 1))).setCell ⟨sb, 12, none⟩ (.int .i64 (steps + 1))) W → Calls Tryz.prog 64 #[.agg #[.int .i64 t, .int .i64 pl, .int .i64 v], .pointer (some ⟨sb, 0, none⟩)] W fun e w' =>
      e = .returned (.tuple #[]) ∧ Below W.heap.size (W.setCell tgt val) w') :
    Calls Tryz.prog 43 #[.pointer (some ⟨sb, 0, none⟩), .agg #[.int .i64 op, .int .i64 d, .int .i64 ra, .int .i64 rb, .int .i64 k]] w fun e w' => e = .returned (.int .i64 0) ∧ Below w.heap.size (((w.setCell ⟨sb, 9, none⟩ (.int .i64 (next + 1))).setCell ⟨sb, 12, none⟩ (.int .i64 (steps + 1))).setCell tgt val) w' := by
  have HPUT := hide hput
  clear hput
  have HWK := hide hwork
  clear hwork
  have HTK : Hid (∀ W, Below w.heap.size w W → Calls Tryz.prog 63 #[.pointer (some ⟨sb, 0, none⟩), .agg #[.int .i64 op, .int .i64 d, .int .i64 ra, .int .i64 rb, .int .i64 k], .int .i64 next] W fun e w' =>
      e = .returned (.agg #[.int .i64 op, .int .i64 d, .int .i64 ra, .int .i64 rb, .int .i64 k, .int .i64 next, .int .i64 (regs.getD ra 0), .int .i64 (regs.getD rb 0), .slice p m c]) ∧ Below W.heap.size W w') := fun W hW => by
    have hs := hst.below hW hst.lt
    exact take_any sb 0 ra rb op d k next _ _ p m c W hra hrb hs.lt (by simpa using hs.reg hra) (by simpa using hs.reg hrb) (by simpa using hs.cMv)
  have ra0 : (0 : Int) ≤ (ra : Int) := by omega
  have ra1 : (ra : Int) < 8 := by omega
  have rb0 : (0 : Int) ≤ (rb : Int) := by omega
  have rb1 : (rb : Int) < 8 := by omega
  have hsb := hst.lt
  obtain ⟨W1, hW1⟩ : ∃ W1, W1 = w.alloc (.cells #[.int .i64 op, .int .i64 d, .int .i64 ra, .int .i64 rb, .int .i64 k] 40) := ⟨_, rfl⟩
  have hbox : ∀ w', Below (w.heap.size + 1) W1 w' → w'.cell? ⟨w.heap.size, 0, none⟩ = some (.int .i64 op) ∧ w'.cell? ⟨w.heap.size, 1, none⟩ = some (.int .i64 d) ∧ w'.cell? ⟨w.heap.size, 2, none⟩ = some (.int .i64 ra) ∧ w'.cell? ⟨w.heap.size, 3, none⟩ = some (.int .i64 rb) ∧ w'.cell? ⟨w.heap.size, 4, none⟩ = some (.int .i64 k) := by
    intro w' h
    have hc : ∀ j, w'.cell? ⟨w.heap.size, j, none⟩ = W1.cell? ⟨w.heap.size, j, none⟩ := fun j => h.cell (p := ⟨w.heap.size, j, none⟩) (Nat.lt_succ_self _)
    subst hW1
    simp [hc, go_sem]
  have r0 := fun w' h => (hbox w' h).1
  have r1 := fun w' h => (hbox w' h).2.1
  have r2 := fun w' h => (hbox w' h).2.2.1
  have r3 := fun w' h => (hbox w' h).2.2.2.1
  have r4 := fun w' h => (hbox w' h).2.2.2.2
  have hw1 : ∀ w', Below (w.heap.size + 1) W1 w' → Below w.heap.size w w' := fun w' h => by
    rw [hW1] at h; exact ((Below.refl _ _).alloc (Nat.le_refl _) _).trans (h.mono (by omega))
  have q0 : ∀ w', Below (w.heap.size + 1) W1 w' → w'.cell? ⟨sb, ra, none⟩ = some (.int .i64 (regs.getD ra 0)) := fun w' h => (hst.below (hw1 w' h) hsb).reg hra
  have q1 : ∀ w', Below (w.heap.size + 1) W1 w' → w'.cell? ⟨sb, rb, none⟩ = some (.int .i64 (regs.getD rb 0)) := fun w' h => (hst.below (hw1 w' h) hsb).reg hrb
  have q2 : ∀ w', Below (w.heap.size + 1) W1 w' → w'.cell? ⟨sb, 8, none⟩ = some (.slice p m c) := fun w' h => (hst.below (hw1 w' h) hsb).cMv
  have q3 : ∀ w', Below (w.heap.size + 1) W1 w' → w'.cell? ⟨sb, 9, none⟩ = some (.int .i64 next) := fun w' h => (hst.below (hw1 w' h) hsb).cNext
  have q4 : ∀ w', Below (w.heap.size + 1) W1 w' → w'.cell? ⟨sb, 12, none⟩ = some (.int .i64 steps) := fun w' h => (hst.below (hw1 w' h) hsb).cSteps
  have f0 : ∀ w', Below (w.heap.size + 1) W1 w' → w'.frozen? ⟨sb, 9, none⟩ = false := fun w' h => (hst.below (hw1 w' h) hsb).frozen 9
  have f1 : ∀ w', Below (w.heap.size + 1) W1 w' → w'.frozen? ⟨sb, 12, none⟩ = false := fun w' h => (hst.below (hw1 w' h) hsb).frozen 12
  have hne : ¬ w.heap.size + 1 = sb := by omega
  have k0 := hst.cNext
  have k1 := hst.cSteps
  have k2 := hst.frozen 9
  have k3 := hst.frozen 12
  have hstart : Below (w.heap.size + 1) W1 (w.alloc (.cells #[.int .i64 op, .int .i64 d, .int .i64 ra, .int .i64 rb, .int .i64 k] 40)).drew := by
    rw [hW1]; exact (Below.refl _ _).drew
  have hstart2 : ∀ x, Below (w.heap.size + 1) W1 ((w.alloc (.cells #[.int .i64 op, .int .i64 d, .int .i64 ra, .int .i64 rb, .int .i64 k] 40)).alloc x).drew := fun x => by
    rw [hW1]; exact ((Below.refl _ _).alloc (by simp) _).drew
  have HS2 := hide hstart2
  clear hstart2
  obtain ⟨xa, hxa⟩ : ∃ x, x = regs.getD ra 0 := ⟨_, rfl⟩
  obtain ⟨xb, hxb⟩ : ∃ x, x = regs.getD rb 0 := ⟨_, rfl⟩
  rw [← hxa] at q0 HWK HTK
  rw [← hxb] at q1 HWK HTK
  clear hbox hxa hxb
  have HS := hide hstart
  clear hstart
  have HB := hide hw1
  clear hw1
  have HW1 := hide hW1
  clear hW1
  have HST := hide hst
  clear hst
  go_enter Tryz.func43, Tryz.ntmps43
  go_wp2
  go_region_held3 (fun w' => Below (w.heap.size + 1) W1 w') (first | assumption | exact HS.out | exact HS2.out _ | exact HS1.out | exact HS0.out | exact HS0.out.alloc hz0 _ | exact HS1.out.alloc hz1 _ | (refine Below.setCell (Below.setCell (Below.setCell HS1.out ?_ _) ?_ _) ?_ _ <;> simp <;> omega) | fail) (first | (go_at_call 63; refine (HTK.out _ (HB.out _ (by assumption))).mono ?_; rintro e w0 ⟨rfl, hb0⟩; have HS0 : Hid (Below (w.heap.size + 1) W1 w0) := (Below.trans (by assumption) (hb0.mono (by first | omega | (simp; omega) | simp))); have hz0 : w.heap.size + 1 ≤ w0.heap.size := (by have := hb0.size; simp at this; omega); obtain ⟨hc0, hf0⟩ := bcell hb0; have hy0 := hb0.size; simp at hy0; have hx0 : w.heap.size < w0.heap.size := (by omega); try (have hv0 : w.heap.size + 1 < w0.heap.size := (by omega))) | (go_at_call 62; refine (HWK.out _ (HB.out _ (by first | assumption | exact HS0.out))).mono ?_; rintro e w1 ⟨rfl, hb1⟩; obtain ⟨hc1, hf1⟩ := bcell hb1; have HS1 : Hid (Below (w.heap.size + 1) W1 w1) := (Below.trans (by first | assumption | exact HS0.out) (hb1.mono (by first | omega | (simp; omega) | simp))); have hz1 : w.heap.size + 1 ≤ w1.heap.size := (by have := hb1.size; first | omega | (simp at this; omega))))
  all_goals
    have hne1 : ¬ w1.heap.size = sb := by omega
    have hsb1 : sb < w1.heap.size := by omega
    have m0 := q3 _ HS1.out
    have m1 := q4 _ HS1.out
    have m2 := f0 _ HS1.out
    have m3 := f1 _ HS1.out
    go_wp2_with (go_at_call 64; refine (HPUT.out _ (by first | exact below_set (below_set (HB.out _ (by assumption)) _ _) _ _ | exact (below_set (below_set (HB.out _ HS1.out) _ _) _ _).alloc (by simp <;> omega) _ | fail)).mono ?_; rintro e w2 ⟨rfl, hb2⟩)
  all_goals
    go_ret
    refine ⟨rfl, ?_⟩
    refine Below.trans (below_set ?hw _ _) (hb2.mono ?hz)
    case hw => first | exact below_set (below_set (HB.out _ (by assumption)) _ _) _ _ | exact (below_set (below_set (HB.out _ HS1.out) _ _) _ _).alloc (by simp <;> omega) _ | fail
    case hz => have := hb2.size; simp <;> omega

end Go.Proofs.YtmeiogoodbnkkaaGreat
