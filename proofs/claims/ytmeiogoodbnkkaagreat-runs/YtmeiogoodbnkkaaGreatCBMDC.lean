/- Several texts in one: BM, DA, DB, DC. -/
import Derived.Test.YtmeiogoodbnkkaaGreatCBO
import Derived.Test.YtmeiogoodbnkkaaGreatCBN
import Derived.Test.YtmeiogoodbnkkaaGreatCUH3
import Derived.Test.YtmeiogoodbnkkaaGreatCSHSI
import Derived.Test.YtmeiogoodbnkkaaGreatCK2K7
/- The document's Run. -/
namespace Go.Proofs.YtmeiogoodbnkkaaGreat
open Go.RowKit

abbrev board0 (a0 a1 a2 a3 n0 n1 n2 n3 b : Int) (pv mv : Value) : Array Value := #[.int .i64 a0, .int .i64 a1, .int .i64 a2, .int .i64 a3, .int .i64 n0, .int .i64 n1, .int .i64 n2, .int .i64 n3, .int .i64 b, pv,
  .int .i64 0, .int .i64 0, .int .i64 0, .int .i64 0, .int .i64 0, .int .i64 0, .int .i64 0, .int .i64 0, mv, .int .i64 0, .int .i64 0, .int .i64 0, .int .i64 0, .int .i64 0, .slice none 0 0, .bool false, .int .i64 (-1), .int .i64 0]

theorem bBoard (a0 a1 a2 a3 n0 n1 n2 n3 b : Int) (p : Option Addr) (n c : Nat) : Tryz.prog.built 76 [(0, .agg #[.int .i64 a0, .int .i64 a1, .int .i64 a2, .int .i64 a3, .int .i64 n0, .int .i64 n1, .int .i64 n2, .int .i64 n3, .int .i64 b]), (1, .slice p n c), (6, .int .i64 (-1))] = some (board0 a0 a1 a2 a3 n0 n1 n2 n3 b (.slice p n c) (.slice none 0 0)) := by kernel_rfl

theorem board0_eq (a0 a1 a2 a3 n0 n1 n2 n3 b : Int) (D : Nat) (pv mv : Value) (mem : List Int) : board0 a0 a1 a2 a3 n0 n1 n2 n3 b pv mv = (bdCells (startM [a0, a1, a2, a3] [n0, n1, n2, n3] b mem) ⟨D, pv, .slice none 0 0, mv, 0⟩).toArray := rfl

theorem tm_one' (t : Tk) : ∀ u ∈ tmCells t, u.oneCell' = true := by
  intro u hu
  simp [tmCells] at hu
  rcases hu with h | h | h | h | h <;> subst h <;> rfl

theorem Tryz.infoTmB : (Tryz.prog.info? 79).map (fun i => (i.zero, i.size, i.bytes)) = some (some (.agg #[.int .i64 0, .int .i64 0, .int .i64 0, .int .i64 0, .int .i64 0]), 5, 40) := by kernel_rfl

theorem refuseC_three {u l : List Int} {b : Int} (h : refuseC u l b = 0) : u.getD 3 0 = 1 ∧ 0 ≤ b ∧ b ≤ 3 ∧ (∀ k, k < 4 → 0 ≤ u.getD k 0 ∧ u.getD k 0 ≤ 1000) ∧ ∀ k, k < 4 → 0 ≤ l.getD k 0 ∧ l.getD k 0 ≤ 1000 := by
  unfold refuseC at h
  split at h
  · rename_i hk
    simp only [Bool.and_eq_true] at hk
    obtain ⟨⟨⟨k0, k1⟩, k2⟩, k3⟩ := hk
    split at h
    · rename_i hb
      have hall : ∀ k, k < 4 → okK u l k = true := fun k hk4 => by
        have : k = 0 ∨ k = 1 ∨ k = 2 ∨ k = 3 := by omega
        rcases this with rfl | rfl | rfl | rfl <;> assumption
      unfold okN at hb
      have hb' := of_decide_eq_true hb
      have h3 := hall 3 (by omega)
      unfold okK okN mostK at h3
      simp at h3
      refine ⟨by simp [List.getD_eq_getElem?_getD]; omega, by omega, by omega, fun k hk4 => ?_, fun k hk4 => ?_⟩
      · have := hall k hk4
        unfold okK okN mostK at this
        rw [Bool.and_eq_true] at this
        have h1 := of_decide_eq_true this.1
        split at h1 <;> omega
      · have := hall k hk4
        unfold okK okN at this
        rw [Bool.and_eq_true] at this
        have h1 := of_decide_eq_true this.2
        omega
    · simp at h
  · simp at h

set_option maxRecDepth 100000 in
set_option maxHeartbeats 8000000 in
theorem refRun_any (a0 a1 a2 a3 n0 n1 n2 n3 b : Int) (p pm : Option Addr) (c cm : Nat) (prog : List Ord) (mem : List Int) (steps : Int) (w : World) (hp : RdO w p prog) (hm : Rd w pm mem) (hlen : (prog.length : Int) ≤ 1000000000000000) (hlm : (mem.length : Int) ≤ 1000000000000000)
    (r : Mc) (err : Int) (hr : (r, err) = answerR [a0, a1, a2, a3] [n0, n1, n2, n3] b prog mem steps) :
    Calls Tryz.prog 16 #[.agg #[.int .i64 a0, .int .i64 a1, .int .i64 a2, .int .i64 a3, .int .i64 n0, .int .i64 n1, .int .i64 n2, .int .i64 n3, .int .i64 b], .slice p prog.length c, .slice pm mem.length cm, .int .i64 steps] w fun e w' =>
      ∃ mv tv, e = .returned (.tuple #[.agg (stCells r.regs mv r.next r.stop r.trap r.steps).toArray, tv, .int .i64 err]) ∧
        Below w.heap.size w w' ∧ Own w' w.heap.size mv r.mem ∧ w'.ownsRow w.heap.size 79 5 tv r.given.length (r.given.flatMap tmCells) := by
  have HP := hide hp
  have HM := hide hm
  clear hp hm
  unfold answerR at hr
  split at hr
  case isFalse =>
    rename_i h0
    injection hr with hr1 hr2
    have ht : (refuse prog mem.length steps != 0) = true := by simpa using h0
    have ht2 : (refuse prog mem.length steps == 0) = false := by simpa using h0
    subst hr1
    subst hr2
    clear h0
    go_enter Tryz.func16, Tryz.ntmps16
    go_wp2_with (go_at_call 28; refine (wrong_any _ _ _ _ _ _ _ _ (HP.out.below (Nat.le_refl _) (((Below.refl _ _).alloc (Nat.le_refl _) _).alloc (by simp) _)) hlen hlm).mono ?_; rintro e w1 ⟨rfl, hb1⟩; obtain ⟨hc1, hf1⟩ := bcell hb1; have hz1 : w.heap.size + 1 < w1.heap.size := (by have := hb1.size; simp at this; omega); have hz0 : w.heap.size < w1.heap.size := (by omega); have HB1 : Hid (Below w.heap.size w w1) := ((((Below.refl _ _).alloc (Nat.le_refl _) _).alloc (by simp) _).trans (hb1.mono (by simp; omega))))
    refine bodyPost_ret (v := .tuple #[.agg #[.int .i64 0, .int .i64 0, .int .i64 0, .int .i64 0, .int .i64 0, .int .i64 0, .int .i64 0, .int .i64 0, .slice none 0 0, .int .i64 0, .int .i64 0, .int .i64 0, .int .i64 0], .slice none 0 0, .int .i64 (refuse prog mem.length steps)]) (by simp [results, Tryz.results16, go_sem, hc1]) rfl ⟨.slice none 0 0, .slice none 0 0, rfl, ?_, ?_, ?_⟩
    · repeat (refine Below.setCell ?_ (by simp) _)
      exact (((Below.refl _ _).alloc (Nat.le_refl _) _).alloc (by simp) _).trans (hb1.mono (by simp; omega))
    · exact World.ownsRow_nil _ _ _ _
    · exact World.ownsRow_nil _ _ _ _
  case isTrue =>
  rename_i h0
  obtain ⟨g1, g2, g3, g4⟩ := refuse_ok h0
  have ht : (refuse prog mem.length steps != 0) = false := by simp [h0]
  have ht2 : (refuse prog mem.length steps == 0) = true := by simp [h0]
  split at hr
  case isFalse =>
    rename_i hC
    injection hr with hr1 hr2
    have htC : (refuseC [a0, a1, a2, a3] [n0, n1, n2, n3] b != 0) = true := by simpa using hC
    have HR1 := hide hr1
    have HR2 := hide hr2
    clear hr1 hr2 hC
    have HC := hide (sound_any a0 a1 a2 a3 n0 n1 n2 n3 b)
    generalize refuseC [a0, a1, a2, a3] [n0, n1, n2, n3] b = rc at *
    go_enter Tryz.func16, Tryz.ntmps16
    go_wp2_with (first | (go_at_call 28; refine (wrong_any _ _ _ _ _ _ _ _ (HP.out.below (Nat.le_refl _) (((Below.refl _ _).alloc (Nat.le_refl _) _).alloc (by simp) _)) hlen hlm).mono ?_; rintro e w1 ⟨rfl, hb1⟩; obtain ⟨hc1, hf1⟩ := bcell hb1; have hz1 : w.heap.size + 1 < w1.heap.size := (by have := hb1.size; simp at this; omega); have hz0 : w.heap.size < w1.heap.size := (by omega); have HB1 : Hid (Below w.heap.size w w1) := ((((Below.refl _ _).alloc (Nat.le_refl _) _).alloc (by simp) _).trans (hb1.mono (by simp; omega)))) | (go_at_call 34; refine (HC.out _).mono ?_; rintro e w2 ⟨rfl, hb2⟩; obtain ⟨hc2, hf2⟩ := bcell hb2; have hz2 : w1.heap.size ≤ w2.heap.size := hb2.size; have hy2 : w.heap.size + 1 < w2.heap.size := (by omega); have hx2 : w.heap.size < w2.heap.size := (by omega); have HB2 : Hid (Below w.heap.size w w2) := (HB1.out.trans (hb2.mono (by omega)))))
    refine bodyPost_ret (v := .tuple #[.agg #[.int .i64 0, .int .i64 0, .int .i64 0, .int .i64 0, .int .i64 0, .int .i64 0, .int .i64 0, .int .i64 0, .slice none 0 0, .int .i64 0, .int .i64 0, .int .i64 0, .int .i64 0], .slice none 0 0, .int .i64 rc]) (by simp [results, Tryz.results16, go_sem, hc1, hc2, hz1]) rfl ⟨.slice none 0 0, .slice none 0 0, by rw [HR1.out, HR2.out]; rfl, ?_, ?_, ?_⟩
    · repeat (refine Below.setCell ?_ (by simp) _)
      exact HB2.out
    · rw [HR1.out]; exact World.ownsRow_nil _ _ _ _
    · rw [HR1.out]; exact World.ownsRow_nil _ _ _ _
  case isTrue =>
  rename_i hC
  injection hr with hr1 hr2
  subst hr2
  obtain ⟨ns, rfl⟩ := Int.eq_ofNat_of_zero_le (show 0 ≤ steps by omega)
  simp only [Int.toNat_natCast] at hr1
  obtain ⟨q1, q2, q3, q4, q5⟩ := refuseC_three hC
  have htC : (refuseC [a0, a1, a2, a3] [n0, n1, n2, n3] b != 0) = false := by simp [hC]
  have HQ := hide (And.intro q1 (And.intro q2 (And.intro q3 (And.intro q4 q5))))
  have HR1 := hide hr1
  clear hr1 hC q1 q2 q3 q4 q5
  have HC := hide (sound_any a0 a1 a2 a3 n0 n1 n2 n3 b)
  generalize refuseC [a0, a1, a2, a3] [n0, n1, n2, n3] b = rc at *
  go_enter Tryz.func16, Tryz.ntmps16
  go_upto_region 6 with (first | (go_at_call 28; refine (wrong_any _ _ _ _ _ _ _ _ (HP.out.below (Nat.le_refl _) (((Below.refl _ _).alloc (Nat.le_refl _) _).alloc (by simp) _)) hlen hlm).mono ?_; rintro e w1 ⟨rfl, hb1⟩; obtain ⟨hc1, hf1⟩ := bcell hb1; have hz1 : w.heap.size + 1 < w1.heap.size := (by have := hb1.size; simp at this; omega); have hz0 : w.heap.size < w1.heap.size := (by omega); have HB1 : Hid (Below w.heap.size w w1) := ((((Below.refl _ _).alloc (Nat.le_refl _) _).alloc (by simp) _).trans (hb1.mono (by simp; omega)))) | (go_at_call 34; refine (HC.out _).mono ?_; rintro e w2 ⟨rfl, hb2⟩; obtain ⟨hc2, hf2⟩ := bcell hb2; have hz2 : w1.heap.size ≤ w2.heap.size := hb2.size; have hy2 : w.heap.size + 1 < w2.heap.size := (by omega); have hx2 : w.heap.size < w2.heap.size := (by omega); have HB2 : Hid (Below w.heap.size w w2) := (HB1.out.trans (hb2.mono (by omega)))))
  have gC : w2.heap[w.heap.size]? = some (.cells #[.int .i64 a0, .int .i64 a1, .int .i64 a2, .int .i64 a3, .int .i64 n0, .int .i64 n1, .int .i64 n2, .int .i64 n3, .int .i64 b] 32 (0, 0)) := by
    rw [hb2.block _ hz0, hb1.block _ (by simp; omega), Below.heap_alloc _ _ _ (by simp)]
    exact heap_alloc_new _ _
  have gS : w2.heap[w.heap.size + 1]? = some (.cells #[.int .i64 0, .int .i64 0, .int .i64 0, .int .i64 0, .int .i64 0, .int .i64 0, .int .i64 0, .int .i64 0, .slice none 0 0, .int .i64 0, .int .i64 0, .int .i64 0, .int .i64 0] 46 (0, 0)) := by
    rw [hb2.block _ hz1, hb1.block _ (by simp)]
    have := heap_alloc_new (w.alloc (.cells #[.int .i64 a0, .int .i64 a1, .int .i64 a2, .int .i64 a3, .int .i64 n0, .int .i64 n1, .int .i64 n2, .int .i64 n3, .int .i64 b] 32)) (.cells #[.int .i64 0, .int .i64 0, .int .i64 0, .int .i64 0, .int .i64 0, .int .i64 0, .int .i64 0, .int .i64 0, .slice none 0 0, .int .i64 0, .int .i64 0, .int .i64 0, .int .i64 0] 46)
    simpa using this
  have k0 : w2.cell? ⟨w.heap.size, 0, none⟩ = some (.int .i64 a0) := by rw [cell_of_row _ _ _ _ _ _ gC]; rfl
  have k1 : w2.cell? ⟨w.heap.size, 1, none⟩ = some (.int .i64 a1) := by rw [cell_of_row _ _ _ _ _ _ gC]; rfl
  have k2 : w2.cell? ⟨w.heap.size, 2, none⟩ = some (.int .i64 a2) := by rw [cell_of_row _ _ _ _ _ _ gC]; rfl
  have k3 : w2.cell? ⟨w.heap.size, 3, none⟩ = some (.int .i64 a3) := by rw [cell_of_row _ _ _ _ _ _ gC]; rfl
  have k4 : w2.cell? ⟨w.heap.size, 4, none⟩ = some (.int .i64 n0) := by rw [cell_of_row _ _ _ _ _ _ gC]; rfl
  have k5 : w2.cell? ⟨w.heap.size, 5, none⟩ = some (.int .i64 n1) := by rw [cell_of_row _ _ _ _ _ _ gC]; rfl
  have k6 : w2.cell? ⟨w.heap.size, 6, none⟩ = some (.int .i64 n2) := by rw [cell_of_row _ _ _ _ _ _ gC]; rfl
  have k7 : w2.cell? ⟨w.heap.size, 7, none⟩ = some (.int .i64 n3) := by rw [cell_of_row _ _ _ _ _ _ gC]; rfl
  have k8 : w2.cell? ⟨w.heap.size, 8, none⟩ = some (.int .i64 b) := by rw [cell_of_row _ _ _ _ _ _ gC]; rfl
  have HB12 := hide hb1
  have HB22 := hide hb2
  have GS := hide gS
  clear hb1 hb2 gC gS hc1 hf1 hc2 hf2
  go_cut [12] from 16 to 37 (fun s12 wx => s12 = .pointer (some ⟨w2.heap.size, 0, none⟩) ∧ wx = w2.alloc (.cells (board0 a0 a1 a2 a3 n0 n1 n2 n3 b (.slice p prog.length c) (.slice none 0 0)) 76))
  case first =>
    go_wp2_with (refine wpList_built rfl 76 #[(0, .tmp 28), (1, .tmp 29), (6, .const (.int .i64 (-1)))] rfl [(0, .agg #[.int .i64 a0, .int .i64 a1, .int .i64 a2, .int .i64 a3, .int .i64 n0, .int .i64 n1, .int .i64 n2, .int .i64 n3, .int .i64 b]), (1, .slice p prog.length c), (6, .int .i64 (-1))] _ (by simp [Act.eval, Act.put]) (bBoard a0 a1 a2 a3 n0 n1 n2 n3 b p prog.length c) ?_)
    go_meet
    exact ⟨rfl, rfl⟩
  case rest =>
  obtain ⟨rfl, hwc⟩ := hcut
  rename World => V0
  have gD0 : V0.heap[w2.heap.size]? = some (.cells (board0 a0 a1 a2 a3 n0 n1 n2 n3 b (.slice p prog.length c) (.slice none 0 0)) 76 (0, 0)) := by rw [hwc]; exact heap_alloc_new _ _
  have hb0 : Below w2.heap.size w2 V0 := by rw [hwc]; exact bSt (Below.refl _ _) _
  have gS0 : V0.heap[w.heap.size + 1]? = some (.cells #[.int .i64 0, .int .i64 0, .int .i64 0, .int .i64 0, .int .i64 0, .int .i64 0, .int .i64 0, .int .i64 0, .slice none 0 0, .int .i64 0, .int .i64 0, .int .i64 0, .int .i64 0] 46 (0, 0)) := by rw [hb0.block _ hy2]; exact GS.out
  have HBw0 : Hid (Below w.heap.size w V0) := bThen HB2.out hb0
  have hDlt : w2.heap.size < V0.heap.size := (Array.getElem?_eq_some_iff.1 gD0).1
  have KWO : Hid (Calls Tryz.prog 29 #[.slice pm mem.length cm] V0 fun e w' => ∃ mv, e = .returned mv ∧ Below V0.heap.size V0 w' ∧ Own w' V0.heap.size mv mem) := words_any pm cm mem V0 (HM.out.below (Nat.le_refl _) HBw0.out) (by omega)
  have HB0 := hide hb0
  have GD0 := hide gD0
  have GS0 := hide gS0
  clear hwc gD0 hb0 gS0 k0 k1 k2 k3 k4 k5 k6 k7 k8
  go_upto_region 7 with fail
  go_cut [] from 16 to 37 (fun wx => ∃ mv pp cc, mv = .slice pp mem.length cc ∧ Below w.heap.size w wx ∧ wx.heap[w.heap.size + 1]? = some (.cells #[.int .i64 0, .int .i64 0, .int .i64 0, .int .i64 0, .int .i64 0, .int .i64 0, .int .i64 0, .int .i64 0, .slice none 0 0, .int .i64 0, .int .i64 0, .int .i64 0, .int .i64 0] 46 (0, 0)) ∧ RAt wx (w.heap.size + 1 + 1) ⟨w2.heap.size, .slice p prog.length c, .slice none 0 0, mv, 0⟩ (startM [a0, a1, a2, a3] [n0, n1, n2, n3] b mem) [])
  case first =>
    have HFIN : Hid (∀ (V1 : World) (mv : Value), Below V0.heap.size V0 V1 → Own V1 V0.heap.size mv mem → (∃ pp cc, mv = .slice pp mem.length cc) → ∃ mv' pp cc, mv' = .slice pp mem.length cc ∧ Below w.heap.size w (V1.setCell ⟨w2.heap.size, 18, none⟩ mv) ∧ (V1.setCell ⟨w2.heap.size, 18, none⟩ mv).heap[w.heap.size + 1]? = some (.cells #[.int .i64 0, .int .i64 0, .int .i64 0, .int .i64 0, .int .i64 0, .int .i64 0, .int .i64 0, .int .i64 0, .slice none 0 0, .int .i64 0, .int .i64 0, .int .i64 0, .int .i64 0] 46 (0, 0)) ∧ RAt (V1.setCell ⟨w2.heap.size, 18, none⟩ mv) (w.heap.size + 1 + 1) ⟨w2.heap.size, .slice p prog.length c, .slice none 0 0, mv', 0⟩ (startM [a0, a1, a2, a3] [n0, n1, n2, n3] b mem) []) := fun V1 mv hb1 hown hsl => by
      obtain ⟨pp, cc, hmv⟩ := hsl
      have gD1 : V1.heap[w2.heap.size]? = some (.cells (board0 a0 a1 a2 a3 n0 n1 n2 n3 b (.slice p prog.length c) (.slice none 0 0)) 76 (0, 0)) := by rw [hb1.block _ hDlt]; exact GD0.out
      have gS1 : V1.heap[w.heap.size + 1]? = some (.cells #[.int .i64 0, .int .i64 0, .int .i64 0, .int .i64 0, .int .i64 0, .int .i64 0, .int .i64 0, .int .i64 0, .slice none 0 0, .int .i64 0, .int .i64 0, .int .i64 0, .int .i64 0] 46 (0, 0)) := by rw [hb1.block _ (by omega)]; exact GS0.out
      refine ⟨mv, pp, cc, hmv, (bThen HBw0.out hb1).setCell (by show w.heap.size ≤ w2.heap.size; omega) _, ?_, ?_⟩
      · rw [heap_setCell_other _ _ _ _ (by show w.heap.size + 1 ≠ w2.heap.size; omega)]; exact gS1
      · refine ⟨rfl, rfl, rfl, rfl, by show w.heap.size + 1 + 1 ≤ w2.heap.size; omega, ?_, ⟨rfl, .inl ⟨rfl, rfl⟩⟩, ?_⟩
        · have e := heap_setCell_same _ _ 18 _ _ mv gD1
          rw [e, ← board0_eq]
          rfl
        · have hne : mv.ownBlock ≠ some w2.heap.size := fun e => by have := (hown.lt _ e).1; omega
          exact row_far (hown.base (by omega)) _ hne
    have f18 : ∀ V1, Below V0.heap.size V0 V1 → V1.frozen? ⟨w2.heap.size, 18, none⟩ = false := fun V1 h => frozen_of_row _ _ _ _ _ (show V1.heap[w2.heap.size]? = _ by rw [h.block _ hDlt]; exact GD0.out)
    have c18 : ∀ V1, Below V0.heap.size V0 V1 → V1.cell? ⟨w2.heap.size, 18, none⟩ = some (.slice none 0 0) := fun V1 h => by rw [cell_of_row _ _ _ _ _ _ (show V1.heap[w2.heap.size]? = _ by rw [h.block _ hDlt]; exact GD0.out)]; rfl
    go_wp2_with (go_at_call 29; (with_reducible refine KWO.out.mono ?_); rintro e V1 ⟨mv, rfl, hbm, hown⟩; obtain ⟨pp, cc, rfl, _⟩ := hown.slice; have hD1 : w2.heap.size < V1.heap.size := (Nat.lt_of_lt_of_le hDlt hbm.size))
    go_meet
    exact HFIN.out V1 _ hbm hown ⟨pp, cc, rfl⟩
  case rest =>
  rename World => V1
  obtain ⟨mv, pp, cc, rfl, hbw1, gS1, hRA1⟩ := hcut
  have HBw1 := hide hbw1
  have GS1 := hide gS1
  have HRA1 := hide hRA1
  clear hbw1 gS1 hRA1
  obtain ⟨rr0, hrr0⟩ : ∃ rr0, rr0 = goM prog ns ns (startM [a0, a1, a2, a3] [n0, n1, n2, n3] b mem) := ⟨_, rfl⟩
  have HRR0 := hide hrr0
  clear hrr0
  obtain ⟨D, hDe⟩ : ∃ D, D = w2.heap.size := ⟨_, rfl⟩
  rw [← hDe] at HRA1
  rw [← hDe]
  have HDE := hide hDe
  have hDB : w.heap.size + 1 + 1 ≤ D := by omega
  clear hDe
  go_wp2_with fail
  go_loopg [13] ns (fun gq _ wr => ∃ (f : Nat) (m : Mc) (gg : List (Tk × Xt)) (lv : Value) (sp : Int), gq = f ∧ 1 ≤ f ∧ m.cycle + f = ns ∧ rr0 = goM prog ns f m ∧ Rn prog [a0, a1, a2, a3] [n0, n1, n2, n3] b mem m ∧ Gh m gg ∧ RAt wr (w.heap.size + 1 + 1) ⟨D, .slice p prog.length c, lv, .slice pp mem.length cc, sp⟩ m gg ∧ Kb (w.heap.size + 1 + 1) V1 wr)
  case atStart => exact ⟨ns, _, [], _, _, rfl, by omega, by simp [startM], HRR0.out, Rn.start _ _ _ _ _, Gh.start _ _ _ _, HRA1.out, Kb.refl _ _⟩
  case round =>
    obtain ⟨f, m, gg, lv, sp, hgf, hf1, hfc, hgo, hRn, hGh, hR, hK⟩ := hrel
    rename World => Va
    obtain ⟨f', rfl⟩ : ∃ f', f = f' + 1 := ⟨f - 1, by omega⟩
    obtain ⟨q1, q2, q3, q4, q5⟩ := HQ.out
    have hml : m.given.length ≤ 400 := by have := hRn.gd.len; omega
    have hggl : gg.length = m.given.length := hR.len
    have hchl : m.changes.length ≤ 100000 := by
      have h1 := hRn.gd.chg
      have h2 : m.cycle ≤ 400 := by omega
      have h3 : m.cycle * m.cycle ≤ 400 * 400 := Nat.mul_le_mul h2 h2
      omega
    have c23 : Va.cell? ⟨D, 23, none⟩ = some (.int .i64 m.cycle) := hR.cCycle
    have f23 : Va.frozen? ⟨D, 23, none⟩ = false := hR.frozen 23
    have hDa : D < Va.heap.size := hR.lt
    have hcyI : (m.cycle : Int) ≤ 1000 := by omega
    have HKa := hide hK
    have HRa := hide hR
    have HGa := hide hGh
    have HRN := hide hRn
    have HGO := hide hgo
    have HGF := hide hgf
    clear hK hR hGh hRn hgo hgf
    go_upto_region 9 with fail
    obtain ⟨V2, hV2⟩ : ∃ V2, Va.setCell ⟨D, 23, none⟩ (.int .i64 ((m.cycle : Int) + 1)) = V2 := ⟨_, rfl⟩
    rw [hV2]
    have hR2 : RAt V2 (w.heap.size + 1 + 1) ⟨D, .slice p prog.length c, lv, .slice pp mem.length cc, sp⟩ { m with cycle := m.cycle + 1 } gg := by
      rw [← hV2]
      have := HRa.out.setCycle (m.cycle + 1)
      simpa using this
    have hK2 : Kb (w.heap.size + 1 + 1) V1 V2 := by rw [← hV2]; exact HKa.out.trans (HRa.out.kbD _ _)
    clear hV2 c23 f23
    have CW : Hid (Calls Tryz.prog 35 #[.pointer (some ⟨D, 0, none⟩)] V2 fun e w' => e = .returned (.tuple #[]) ∧ ∃ g', RAt w' (w.heap.size + 1 + 1) ⟨D, .slice p prog.length c, lv, .slice pp mem.length cc, sp⟩ (writesM { m with cycle := m.cycle + 1 }) g' ∧ Gh (writesM { m with cycle := m.cycle + 1 }) g' ∧ Kb (w.heap.size + 1 + 1) V2 w') :=
      writesAll_any V2 _ ⟨D, .slice p prog.length c, lv, .slice pp mem.length cc, sp⟩ _ gg prog.length hR2 (HGa.out.turn rfl rfl) HRN.out.gd.wf (by show 0 ≤ m.buses; rw [HRN.out.gd.buses]; exact q2) (by show m.buses ≤ 1000; rw [HRN.out.gd.buses]; omega) (by omega) (by show m.changes.length ≤ 900000; omega)
    have hgw := HRN.out.gd.writes q2
    have hkv := HRN.out.jv.tick.writes g1
    have HGW := hide hgw
    have HKV := hide hkv
    have HK2 := hide hK2
    clear hR2 hK2 hgw hkv
    have HSH4 := hide (HRN.out.sh4 g1 q2 q1)
    have HRN5 := hide (HRN.out.cycle g1 q2 q1)
    have HM2 : Hid ((writesM { m with cycle := m.cycle + 1 }).given.length = m.given.length) := hide (by have := (Wk.fold HRN.out.gd.wf (by show 0 ≤ m.buses; rw [HRN.out.gd.buses]; exact q2) (List.range m.given.length)).len; exact this)
    obtain ⟨m2, hm2⟩ : ∃ m2, writesM { m with cycle := m.cycle + 1 } = m2 := ⟨_, rfl⟩
    have HC5 : Hid (cycleM prog m = showM (issueM prog (readsM m2))) := hide (by rw [← hm2]; rfl)
    rw [hm2] at CW HGW HKV HSH4 HM2
    clear hm2
    go_upto_region 10 with (go_at_call 35; (with_reducible refine CW.out.mono ?_); rintro e V3 ⟨rfl, g3, hR3, hG3, hK3⟩)
    have hg3 : g3.length = m2.given.length := hR3.len
    have CR : Hid (Calls Tryz.prog 36 #[.pointer (some ⟨D, 0, none⟩)] V3 fun e w' => e = .returned (.tuple #[]) ∧ ∃ g', RAt w' (w.heap.size + 1 + 1) ⟨D, .slice p prog.length c, lv, .slice pp mem.length cc, sp⟩ (readsM m2) g' ∧ Gh (readsM m2) g' ∧ Kb (w.heap.size + 1 + 1) V3 w') :=
      readsAll_any V3 _ ⟨D, .slice p prog.length c, lv, .slice pp mem.length cc, sp⟩ m2 g3 prog.length hR3 hG3 HGW.out.wf (by have := HM2.out; omega) (fun i t ht => by have := HKV.out.lt i t ht; omega) (by rw [HGW.out.lat]; exact q5) (by rw [HGW.out.cyc]; omega) (by have := hR3.lt; exact Nat.le_trans hDB (Nat.le_of_lt this))
    have HK3 : Hid (Kb (w.heap.size + 1 + 1) V1 V3) := HK2.out.trans hK3
    have hgr := HGW.out.reads
    have HGR := hide hgr
    have HM3 : Hid ((readsM m2).given.length = m2.given.length) := hide ((Rk.fold HGW.out.wf (List.range m2.given.length)).len)
    clear CW hR3 hG3 hK3 hgr
    obtain ⟨m3, hm3⟩ : ∃ m3, readsM m2 = m3 := ⟨_, rfl⟩
    rw [hm3] at CR HGR HSH4 HC5 HM3
    clear hm3
    go_upto_region 11 with (go_at_call 36; (with_reducible refine CR.out.mono ?_); rintro e V4 ⟨rfl, g4, hR4, hG4, hK4⟩)
    have hg4 : g4.length = m3.given.length := hR4.len
    have HK4 : Hid (Kb (w.heap.size + 1 + 1) V1 V4) := HK3.out.trans hK4
    have hBV1 : w.heap.size + 1 + 1 ≤ V1.heap.size := Nat.le_trans hDB (Nat.le_of_lt HRA1.out.lt)
    have CI : Hid (Calls Tryz.prog 37 #[.pointer (some ⟨D, 0, none⟩)] V4 fun e w' => e = .returned (.tuple #[]) ∧ ∃ lv' g', RAt w' (w.heap.size + 1 + 1) ⟨D, .slice p prog.length c, lv', .slice pp mem.length cc, sp⟩ (issueM prog m3) g' ∧ Gh (issueM prog m3) g' ∧ Kb (w.heap.size + 1 + 1) V4 w') :=
      rIssue_any V4 _ ⟨D, .slice p prog.length c, lv, .slice pp mem.length cc, sp⟩ m3 g4 prog p c hR4 hG4 rfl (HP.out.below (Nat.le_refl _) (HBw1.out.trans ((HK4.out.below hBV1).mono (by omega)))) g1 HGR.out.wf.ords (by have := HM2.out; have := HM3.out; omega) HGR.out.wf.cyc (by have := HGR.out.next; have := (isProg_spec g1).1.2; omega) (Nat.le_trans hDB (Nat.le_of_lt hR4.lt))
    have HM4 : Hid ((issueM prog m3).given.length ≤ 401) := hide (by
      have h1 := (HGR.out.issue g1).len
      have h2 : (issueM prog m3).cycle = m3.cycle := issue_cycle prog m3
      have h3 := HGR.out.cyc
      omega)
    have HCH4 : Hid ((issueM prog m3).changes.length ≤ 100000) := hide (by
      have h1 := (HGR.out.issue g1).chg
      have h2 : (issueM prog m3).cycle = m3.cycle := issue_cycle prog m3
      have h3 := HGR.out.cyc
      rw [h2, h3] at h1
      have h4 : (m.cycle + 1) * (m.cycle + 1) ≤ 400 * 400 := Nat.mul_le_mul (by omega) (by omega)
      omega)
    clear CR hR4 hG4 hK4
    obtain ⟨m4, hm4⟩ : ∃ m4, issueM prog m3 = m4 := ⟨_, rfl⟩
    rw [hm4] at CI HSH4 HC5 HM4 HCH4
    clear hm4
    go_upto_region 12 with (go_at_call 37; (with_reducible refine CI.out.mono ?_); rintro e V5 ⟨rfl, lv', g5, hR5, hG5, hK5⟩)
    have hg5 : g5.length = m4.given.length := hR5.len
    have HK5 : Hid (Kb (w.heap.size + 1 + 1) V1 V5) := HK4.out.trans hK5
    have CS : Hid (Calls Tryz.prog 38 #[.pointer (some ⟨D, 0, none⟩)] V5 fun e w' => e = .returned (.tuple #[]) ∧ RAt w' (w.heap.size + 1 + 1) ⟨D, .slice p prog.length c, lv', .slice pp mem.length cc, sp⟩ (showM m4) g5 ∧ Kb (w.heap.size + 1 + 1) V5 w') :=
      shows_any V5 _ ⟨D, .slice p prog.length c, lv', .slice pp mem.length cc, sp⟩ m4 g5 hR5 (by have := HM4.out; omega) HSH4.out.cond
    have HG6 : Hid (Gh (showM m4) g5) := hide (hG5.turn (by unfold showM; split <;> rfl) (by unfold showM; split <;> rfl))
    have hche : (showM m4).changes = m4.changes := by unfold showM; split <;> rfl
    have HCH5 : Hid ((showM m4).changes.length ≤ 100000) := hide (by rw [hche]; exact HCH4.out)
    clear hche
    clear CI hR5 hG5 hK5
    obtain ⟨m5, hm5⟩ : ∃ m5, showM m4 = m5 := ⟨_, rfl⟩
    rw [hm5] at CS HC5 HG6 HCH5
    clear hm5
    rw [HC5.out] at HRN5
    go_upto_region 13 with (go_at_call 38; (with_reducible refine CS.out.mono ?_); rintro e V6 ⟨rfl, hR6, hK6⟩)
    have HK6 : Hid (Kb (w.heap.size + 1 + 1) V1 V6) := HK5.out.trans hK6
    have CO : Hid (Calls Tryz.prog 39 #[.pointer (some ⟨D, 0, none⟩), .int .i64 ns] V6 fun e w' => e = .returned (.bool (stopM ns m5).1) ∧ RAt w' (w.heap.size + 1 + 1) ⟨D, .slice p prog.length c, lv', .slice pp mem.length cc, spOf ns m5⟩ (stopM ns m5).2 g5 ∧ Kb (w.heap.size + 1 + 1) V6 w') :=
      over_any V6 _ ⟨D, .slice p prog.length c, lv', .slice pp mem.length cc, sp⟩ m5 g5 ns hR6 HG6.out (by have := HM4.out; omega) (by have := HCH5.out; omega) (HRN5.out.over hR6.len)
    have HCY5 : Hid (m5.cycle = m.cycle + 1) := hide (by rw [← HC5.out]; exact cycleM_cyc prog m)
    have HG5L : Hid (g5.length ≤ 401) := hide (by have := HM4.out; omega)
    clear CS hR6 hK6
    go_upto_region 14 with (go_at_call 39; (with_reducible refine CO.out.mono ?_); rintro e V7 ⟨rfl, hR7, hK7⟩)
    have HK7 : Hid (Kb (w.heap.size + 1 + 1) V1 V7) := HK6.out.trans hK7
    have HR7 := hide hR7
    clear CO hR7 hK7
    have HGOM : Hid (rr0 = if (stopM ns m5).1 = true then (stopM ns m5).2 else goM prog ns f' (stopM ns m5).2) := hide (by rw [HGO.out, goM, HC5.out])
    cases hst : (stopM ns m5).1 with
    | false =>
      have hsame := stop_same hst
      have HSAME := hide hsame
      have HSF : Hid (m5.cycle ≠ ns) := hide (fun e => by rw [stop_at e] at hst; cases hst)
      have HGO2 : Hid (rr0 = goM prog ns f' m5) := hide (by rw [HGOM.out, hst, hsame]; rfl)
      clear hst hsame
      go_wp2_with fail
      have hgf := HGF.out
      have h1 := HCY5.out
      have h2 := HSF.out
      go_roundg f'
      case measure => omega
      case rel => exact ⟨f', m5, g5, lv', _, rfl, by omega, by omega, HGO2.out, HRN5.out, HG6.out, by have := HR7.out; rw [HSAME.out] at this; exact this, HK7.out⟩
    | true =>
      have HE : Hid (rr0 = (stopM ns m5).2) := hide (by rw [HGOM.out, hst]; rfl)
      have HSP : Hid (spOf ns m5 = rr0.stop) := hide (by unfold spOf; rw [hst, HE.out]; rfl)
      have HR8 : Hid (RAt V7 (w.heap.size + 1 + 1) ⟨D, .slice p prog.length c, lv', .slice pp mem.length cc, rr0.stop⟩ rr0 g5) := hide (by have := HR7.out; rw [HSP.out, ← HE.out] at this; exact this)
      clear hst
      have HRE : Hid (r = { rr0 with steps := rr0.cycle }) := hide (by rw [HR1.out, HRR0.out]; rfl)
      have c23 : V7.cell? ⟨D, 23, none⟩ = some (.int .i64 rr0.cycle) := HR8.out.cCycle
      have c22 : V7.cell? ⟨D, 22, none⟩ = some (.int .i64 rr0.steps) := HR8.out.cSteps
      have f22 : V7.frozen? ⟨D, 22, none⟩ = false := HR8.out.frozen 22
      have hD7 : D < V7.heap.size := HR8.out.lt
      go_upto_region 15 with fail
      go_upto_region 16 with fail
      obtain ⟨V8, hV8⟩ : ∃ V8, V7.setCell ⟨D, 22, none⟩ (.int .i64 rr0.cycle) = V8 := ⟨_, rfl⟩
      rw [hV8]
      have hR9 : RAt V8 (w.heap.size + 1 + 1) ⟨D, .slice p prog.length c, lv', .slice pp mem.length cc, r.stop⟩ r g5 := by
        rw [← hV8, HRE.out]
        have := HR8.out.setSteps rr0.cycle
        exact ⟨this.units, this.lat, this.regs, this.fst, this.base, this.blk, this.giv, this.mem⟩
      have HK8 : Hid (Kb (w.heap.size + 1 + 1) V1 V8) := by rw [← hV8]; exact HK7.out.trans (HR8.out.kbD _ _)
      clear hV8 c23 c22 f22
      have hBV1 : w.heap.size + 1 + 1 ≤ V1.heap.size := Nat.le_trans hDB (Nat.le_of_lt HRA1.out.lt)
      have gS8 : V8.heap[w.heap.size + 1]? = some (.cells #[.int .i64 0, .int .i64 0, .int .i64 0, .int .i64 0, .int .i64 0, .int .i64 0, .int .i64 0, .int .i64 0, .slice none 0 0, .int .i64 0, .int .i64 0, .int .i64 0, .int .i64 0] 46 (0, 0)) := HK8.out.block _ _ GS1.out (.inl (by omega))
      have HBw8 : Hid (Below w.heap.size w V8) := HBw1.out.trans ((HK8.out.below hBV1).mono (by omega))
      obtain ⟨lp, lc, hlv0⟩ := hR9.sl
      have hg5l : g5.length ≤ 401 := HG5L.out
      have hlen5 : g5.length = r.given.length := hR9.len
      obtain ⟨i0, hi0, hz0', hz1', hz2'⟩ := info_parts Tryz.infoTmB
      have HR9 := hide hR9
      have GS8 := hide gS8
      have HLV := hide hlv0
      clear hR9 gS8 hlv0
      go_wp2_with fail
      go_loopg [14, 15] g5.length (fun gq s14 s15 wz => ∃ (k : Nat) (uu : Value), k ≤ g5.length ∧ gq = g5.length - k ∧ s15 = .int .i64 k ∧ s14 = uu ∧ wz.ownsRow V8.heap.size 79 5 uu k ((r.given.take k).flatMap tmCells) ∧ Below V8.heap.size V8 wz)
      case atStart => exact ⟨0, _, Nat.zero_le _, rfl, rfl, rfl, ⟨rfl, .inl ⟨rfl, rfl⟩⟩, Below.refl _ _⟩
      case round =>
        obtain ⟨k, uu, hk1, hgk, rfl, hs14, hown, hbz⟩ := hrel
        subst hs14
        rename World => Vz
        have hRz := HR9.out.below hbz
        have c24 : Vz.cell? ⟨D, 24, none⟩ = some (.slice lp g5.length lc) := by
          have := hRz.cLv
          rw [HLV.out] at this
          exact this
        have hDz : D < Vz.heap.size := hRz.lt
        rcases Nat.lt_or_ge k g5.length with hki | hki
        · obtain ⟨⟨t, x⟩, hx⟩ : ∃ y, g5[k]? = some y := ⟨_, List.getElem?_eq_getElem hki⟩
          have ht : r.given[k]? = some t := hRz.get hx
          obtain ⟨G, cap, hlv, _, hG⟩ := hRz.row (i := k) hki
          have y5 : Vz.cell? ⟨G, k * 15 + 5, none⟩ = some (.int .i64 t.number) := hRz.gv hlv hx (j := 5) (by omega)
          have y6 : Vz.cell? ⟨G, k * 15 + 6, none⟩ = some (.int .i64 t.issue) := hRz.gv hlv hx (j := 6) (by omega)
          have y7 : Vz.cell? ⟨G, k * 15 + 7, none⟩ = some (.int .i64 t.read) := hRz.gv hlv hx (j := 7) (by omega)
          have y8 : Vz.cell? ⟨G, k * 15 + 8, none⟩ = some (.int .i64 t.done) := hRz.gv hlv hx (j := 8) (by omega)
          have y9 : Vz.cell? ⟨G, k * 15 + 9, none⟩ = some (.int .i64 t.write) := hRz.gv hlv hx (j := 9) (by omega)
          rw [HLV.out] at hlv
          injection hlv with ea eb ec
          rw [ea, ec] at c24
          have hkI : (k : Int) < (g5.length : Int) := by omega
          have HTS : Hid ((r.given.take (k + 1)).flatMap tmCells = (r.given.take k).flatMap tmCells ++ tmCells t) := hide (by rw [List.take_add_one, ht, List.flatMap_append]; simp)
          have HOWN := hide hown
          have HBZ := hide hbz
          have HGK := hide hgk
          clear hown hgk hRz ht hx hbz
          go_wp2_with (at_builtin; refine wpList_append_own_at _ rfl (.tmp 74) (.tmp 83) 55 rfl V8.heap.size 79 i0 _ 5 40 Tryz.underlying55 hi0 hz0' hz1' hz2' rfl (by omega) u14 k ((r.given.take k).flatMap tmCells) rfl (World.ownsRow.alloc HOWN.out _) ⟨Vz.heap.size, 0, none⟩ 1 1 (tmCells t) rfl rfl (World.news_of_block (heap_alloc_new _ _)) (tm_one' t) (by unfold maxLen; omega) (by omega) (by have := HBZ.out.size; simp; omega) ?_; intro v' w9 hown9 hgrow9 _ _)
          have hgk := HGK.out
          go_roundg (g5.length - (k + 1))
          case measure => omega
          case rel =>
            refine ⟨k + 1, _, by omega, rfl, by go_num, rfl, ?_, ?_⟩
            · rw [HTS.out]
              exact hown9
            · have h1 : Below V8.heap.size V8 (Vz.alloc (.cells #[.int .i64 t.number, .int .i64 t.issue, .int .i64 t.read, .int .i64 t.done, .int .i64 t.write] 79)) := bSt HBZ.out _
              exact h1.grown hgrow9 (by have := HBZ.out.size; simp; omega) (fun q hq => (World.ownsRow.lt HOWN.out q hq).1)
        · have hke : k = g5.length := by omega
          have hnk : ¬ ((k : Int) < (g5.length : Int)) := by omega
          obtain ⟨x0, x1, x2, x3, x4, x5, x6, x7, hx⟩ := list8 hRz.regs
          have a0' : Vz.cell? ⟨D, 10, none⟩ = some (.int .i64 x0) := by have := hRz.reg (i := 0) (by omega); rw [hx] at this; exact this
          have a1' : Vz.cell? ⟨D, 11, none⟩ = some (.int .i64 x1) := by have := hRz.reg (i := 1) (by omega); rw [hx] at this; exact this
          have a2' : Vz.cell? ⟨D, 12, none⟩ = some (.int .i64 x2) := by have := hRz.reg (i := 2) (by omega); rw [hx] at this; exact this
          have a3' : Vz.cell? ⟨D, 13, none⟩ = some (.int .i64 x3) := by have := hRz.reg (i := 3) (by omega); rw [hx] at this; exact this
          have a4' : Vz.cell? ⟨D, 14, none⟩ = some (.int .i64 x4) := by have := hRz.reg (i := 4) (by omega); rw [hx] at this; exact this
          have a5' : Vz.cell? ⟨D, 15, none⟩ = some (.int .i64 x5) := by have := hRz.reg (i := 5) (by omega); rw [hx] at this; exact this
          have a6' : Vz.cell? ⟨D, 16, none⟩ = some (.int .i64 x6) := by have := hRz.reg (i := 6) (by omega); rw [hx] at this; exact this
          have a7' : Vz.cell? ⟨D, 17, none⟩ = some (.int .i64 x7) := by have := hRz.reg (i := 7) (by omega); rw [hx] at this; exact this
          have a8' : Vz.cell? ⟨D, 18, none⟩ = some (.slice pp mem.length cc) := hRz.cMv
          have a9' : Vz.cell? ⟨D, 19, none⟩ = some (.int .i64 r.next) := hRz.cNext
          have a10' : Vz.cell? ⟨D, 20, none⟩ = some (.int .i64 r.stop) := hRz.cStop
          have a11' : Vz.cell? ⟨D, 21, none⟩ = some (.int .i64 r.trap) := hRz.cTrap
          have a12' : Vz.cell? ⟨D, 22, none⟩ = some (.int .i64 r.steps) := hRz.cSteps
          have hS8 : w.heap.size + 1 < V8.heap.size := (Array.getElem?_eq_some_iff.1 GS8.out).1
          have gSz : Vz.heap[w.heap.size + 1]? = some (.cells #[.int .i64 0, .int .i64 0, .int .i64 0, .int .i64 0, .int .i64 0, .int .i64 0, .int .i64 0, .int .i64 0, .slice none 0 0, .int .i64 0, .int .i64 0, .int .i64 0, .int .i64 0] 46 (0, 0)) := by rw [hbz.block _ hS8]; exact GS8.out
          have hN : w.heap.size + 1 < Vz.heap.size := (Array.getElem?_eq_some_iff.1 gSz).1
          have fS : ∀ j, Vz.frozen? ⟨w.heap.size + 1, j, none⟩ = false := fun j => frozen_of_row _ _ _ _ _ gSz
          have s0' : Vz.cell? ⟨w.heap.size + 1, 0, none⟩ = some (.int .i64 0) := by rw [cell_of_row _ _ _ _ _ _ gSz]; rfl
          have s1' : Vz.cell? ⟨w.heap.size + 1, 1, none⟩ = some (.int .i64 0) := by rw [cell_of_row _ _ _ _ _ _ gSz]; rfl
          have s2' : Vz.cell? ⟨w.heap.size + 1, 2, none⟩ = some (.int .i64 0) := by rw [cell_of_row _ _ _ _ _ _ gSz]; rfl
          have s3' : Vz.cell? ⟨w.heap.size + 1, 3, none⟩ = some (.int .i64 0) := by rw [cell_of_row _ _ _ _ _ _ gSz]; rfl
          have s4' : Vz.cell? ⟨w.heap.size + 1, 4, none⟩ = some (.int .i64 0) := by rw [cell_of_row _ _ _ _ _ _ gSz]; rfl
          have s5' : Vz.cell? ⟨w.heap.size + 1, 5, none⟩ = some (.int .i64 0) := by rw [cell_of_row _ _ _ _ _ _ gSz]; rfl
          have s6' : Vz.cell? ⟨w.heap.size + 1, 6, none⟩ = some (.int .i64 0) := by rw [cell_of_row _ _ _ _ _ _ gSz]; rfl
          have s7' : Vz.cell? ⟨w.heap.size + 1, 7, none⟩ = some (.int .i64 0) := by rw [cell_of_row _ _ _ _ _ _ gSz]; rfl
          have s8' : Vz.cell? ⟨w.heap.size + 1, 8, none⟩ = some (.slice none 0 0) := by rw [cell_of_row _ _ _ _ _ _ gSz]; rfl
          have s9' : Vz.cell? ⟨w.heap.size + 1, 9, none⟩ = some (.int .i64 0) := by rw [cell_of_row _ _ _ _ _ _ gSz]; rfl
          have s10' : Vz.cell? ⟨w.heap.size + 1, 10, none⟩ = some (.int .i64 0) := by rw [cell_of_row _ _ _ _ _ _ gSz]; rfl
          have s11' : Vz.cell? ⟨w.heap.size + 1, 11, none⟩ = some (.int .i64 0) := by rw [cell_of_row _ _ _ _ _ _ gSz]; rfl
          have s12' : Vz.cell? ⟨w.heap.size + 1, 12, none⟩ = some (.int .i64 0) := by rw [cell_of_row _ _ _ _ _ _ gSz]; rfl
          have nDS : ¬ D = w.heap.size + 1 := by omega
          have nDS' : ¬ w.heap.size + 1 = D := by omega
          have HX := hide hx
          have HRz := hide hRz
          have HBZ := hide hbz
          have HKE := hide hke
          have HOWN := hide hown
          clear hx hRz hbz hke hown hki hgk gSz
          go_wp2_with fail
          refine bodyPost_ret (v := .tuple #[.agg #[.int .i64 x0, .int .i64 x1, .int .i64 x2, .int .i64 x3, .int .i64 x4, .int .i64 x5, .int .i64 x6, .int .i64 x7, .slice pp mem.length cc, .int .i64 r.next, .int .i64 r.stop, .int .i64 r.trap, .int .i64 r.steps], u14, .int .i64 0]) (by simp [results, Tryz.results16, go_sem, s0', s1', s2', s3', s4', s5', s6', s7', s8', s9', s10', s11', s12']) rfl ⟨.slice pp mem.length cc, u14, by rw [HX.out]; rfl, ?_, ?_, ?_⟩
          · repeat (refine Below.setCell ?_ (by simp) _)
            exact bThen HBw8.out HBZ.out
          · have hme := HRz.out.mem
            have hlt := Own.lt hme
            repeat (refine Own.far ?_ (fun e => by have := hlt _ e; simp at this; omega))
            exact hme.base (by omega)
          · have hlt := World.ownsRow.lt HOWN.out
            have hle := HBw8.out.size
            have hrow : Vz.ownsRow w.heap.size 79 5 u14 r.given.length (r.given.flatMap tmCells) := by
              have h1 := row_base HOWN.out hle
              rw [HKE.out, hlen5, List.take_length] at h1
              exact h1
            repeat (refine rowFar ?_ (fun e => by have := hlt _ e; simp at this; omega))
            exact hrow

end Go.Proofs.YtmeiogoodbnkkaaGreat

/- The book of the lists that came out: words and times alike. -/
namespace Go.Proofs.YtmeiogoodbnkkaaGreat
open Go.RowKit

/-- A kind of list that the book keeps. -/
structure Sh where
  α : Type
  e : TypeId
  sl : TypeId
  size : Nat
  top : Nat
  enc : α → List Value
  mark : Nat → α

structure Sh.Ok (S : Sh) : Prop where
  len : ∀ x, (S.enc x).length = S.size
  one : ∀ x, ∀ u ∈ S.enc x, u.oneCell' = true
  eb : S.e ≠ 28
  sb : S.sl ≠ 28
  es : S.e ≠ S.sl

/-- A list of the kind, owned. -/
def Rw (S : Sh) (w : World) (B : Nat) (v : Value) (l : List S.α) : Prop := w.ownsRow B S.e S.size v l.length (l.flatMap S.enc)

section
variable {w w' w2 : World} {B B' bb : Nat} {e e' : TypeId} {size size' n n' : Nat} {v v' r x' y : Value} {xs xs' : List Value} {cs : Array Value}

theorem rowG (h : w.ownsRow B e size v n xs) {g : Nat} (hg : v.ownBlock = some g) : ∃ cur, w.heap[g]? = some (.cells cur e (0, 0)) := by
  rcases h.2 with ⟨rfl, _⟩ | ⟨g', cap, cur, rfl, _, hh, _⟩
  · cases hg
  · simp [Value.ownBlock] at hg; subst hg; exact ⟨cur, hh⟩
theorem apartG (h : w.ownsRow B e size v n xs) (h' : w.ownsRow B' e' size' v' n' xs') (hne : e ≠ e') : Apart v v' := fun g h1 h2 => by
  obtain ⟨c1, e1⟩ := rowG h h1
  obtain ⟨c2, e2⟩ := rowG h' h2
  rw [e1] at e2
  simp only [Option.some.injEq, Obj.cells.injEq] at e2
  exact hne e2.2.1
theorem keptG (h : w.ownsRow B e size v n xs) (hg : w.grownBy w' r.ownBlock) (ha : Apart v r) : w'.ownsRow B e size v n xs := by
  refine h.kept hg ?_
  cases hv : v.ownBlock with
  | none => exact .inl rfl
  | some g => exact .inr (fun e => ha g hv e.symm)
theorem growG (h : w.ownsRow B e size v n xs) (hg : w.grownBy w' none) : w'.ownsRow B e size v n xs := h.kept hg (by cases v.ownBlock <;> simp)
theorem setG (h : w.ownsRow B e size v n xs) (hb : w.heap[bb]? = some (.cells cs 28 (0, 0))) (he : e ≠ 28) (j : Nat) (u : Value) : (w.setCell ⟨bb, j, none⟩ u).ownsRow B e size v n xs := by
  refine ⟨h.1, ?_⟩
  rcases h.2 with h2 | ⟨g, cap, cur, rfl, hB, hh, rest⟩
  · exact .inl h2
  · refine .inr ⟨g, cap, cur, rfl, hB, ?_, rest⟩
    have hne : g ≠ bb := by
      rintro rfl
      rw [hb] at hh
      simp only [Option.some.injEq, Obj.cells.injEq] at hh
      exact he hh.2.1.symm
    rw [Below.heap_setCell _ _ _ _ hne]
    exact hh
theorem bbG (h : w.ownsRow B e size v n xs) (hb : w.heap[bb]? = some (.cells cs 28 (0, 0))) (he : e ≠ 28) : some bb ≠ v.ownBlock := by
  intro hv
  obtain ⟨cur, hh⟩ := rowG h hv.symm
  rw [hb] at hh
  simp only [Option.some.injEq, Obj.cells.injEq] at hh
  exact he hh.2.1.symm
theorem newG (h : w.ownsRow B e size v n xs) (ha : Apart v r) (hy : y.ownBlock = r.ownBlock ∨ y.ownBlock = some w.heap.size) : Apart v y := by
  intro g h1 h2
  rcases hy with e1 | e1
  · rw [e1] at h2; exact ha g h1 h2
  · rw [e1] at h2
    have := (World.ownsRow.lt h g h1).2
    simp only [Option.some.injEq] at h2
    omega
theorem nilA (y : Value) : Apart y (.slice none 0 0) := fun g _ h2 => by cases h2
end

/-- Half of the book: the lists that were marked, those that wait, what they were. -/
structure Hb (S : Sh) (w : World) (B : Nat) (wv aw ew : Value) (ms : List (Value × Nat)) (av es : List Value) (ys : List (Value × Value × List S.α)) : Prop where
  words : w.ownsRow B S.sl 1 wv ms.length (ms.map (·.1))
  wait : w.ownsRow B S.sl 1 aw av.length av
  were : w.ownsRow B S.sl 1 ew es.length es
  marks : ∀ (k : Nat) v n, ms[k]? = some (v, n) → w.ownsRow B S.e S.size v n ((List.replicate n (S.mark (k / 4))).flatMap S.enc)
  each : ∀ y ∈ ys, Rw S w B y.1 y.2.2 ∧ Rw S w B y.2.1 y.2.2 ∧ y.2.2.length ≤ S.top
  r1 : Apart wv aw
  r2 : Apart wv ew
  r3 : Apart aw ew
  q1 : ys.Pairwise fun x y => Apart x.1 y.1 ∧ Apart x.1 y.2.1 ∧ Apart y.1 x.2.1
  q2 : ∀ y ∈ ys, Apart y.1 y.2.1
  q3 : ∀ m ∈ ms, ∀ y ∈ ys, Apart y.1 m.1
  sizes : ∀ m ∈ ms, m.2 ≤ S.top + 3

section
variable {S : Sh} {w w2 : World} {B bb : Nat} {wv aw ew x' : Value} {ms ms' : List (Value × Nat)} {av av' es es' : List Value} {ys : List (Value × Value × List S.α)} {cs : Array Value}

theorem Hb.keeps (h : Hb S w B wv aw ew ms av es ys) (k1 : ∀ {v : Value} {n : Nat} {xs : List Value}, w.ownsRow B S.sl 1 v n xs → (v = wv ∨ v = aw ∨ v = ew) → w2.ownsRow B S.sl 1 v n xs) (k2 : ∀ {v : Value} {n : Nat} {xs : List Value}, w.ownsRow B S.e S.size v n xs → ((∃ m ∈ ms, v = m.1) ∨ ∃ y ∈ ys, v = y.1 ∨ v = y.2.1) → w2.ownsRow B S.e S.size v n xs) : Hb S w2 B wv aw ew ms av es ys :=
  ⟨k1 h.words (.inl rfl), k1 h.wait (.inr (.inl rfl)), k1 h.were (.inr (.inr rfl)), fun k v n hk => k2 (h.marks k v n hk) (.inl ⟨(v, n), List.mem_of_getElem? hk, rfl⟩),
   fun y hy => ⟨k2 (h.each y hy).1 (.inr ⟨y, hy, .inl rfl⟩), k2 (h.each y hy).2.1 (.inr ⟨y, hy, .inr rfl⟩), (h.each y hy).2.2⟩, h.r1, h.r2, h.r3, h.q1, h.q2, h.q3, h.sizes⟩

theorem Hb.grow (h : Hb S w B wv aw ew ms av es ys) (hg : w.grownBy w2 none) : Hb S w2 B wv aw ew ms av es ys := h.keeps (fun hv _ => growG hv hg) (fun hv _ => growG hv hg)
theorem Hb.setB (ok : S.Ok) (h : Hb S w B wv aw ew ms av es ys) (hb : w.heap[bb]? = some (.cells cs 28 (0, 0))) (j : Nat) (u : Value) : Hb S (w.setCell ⟨bb, j, none⟩ u) B wv aw ew ms av es ys :=
  h.keeps (fun hv _ => setG hv hb ok.sb j u) (fun hv _ => setG hv hb ok.eb j u)
/-- A row of another kind has turned. -/
theorem Hb.other (h : Hb S w B wv aw ew ms av es ys) {e' : TypeId} {size' n' : Nat} {r : Value} {xs' : List Value} (hr : w.ownsRow B e' size' r n' xs') (hg : w.grownBy w2 r.ownBlock) (n1 : S.e ≠ e') (n2 : S.sl ≠ e') : Hb S w2 B wv aw ew ms av es ys :=
  h.keeps (fun hv _ => keptG hv hg (apartG hv hr n2)) (fun hv _ => keptG hv hg (apartG hv hr n1))

theorem Hb.newAw (ok : S.Ok) (h : Hb S w B wv aw ew ms av es ys) (hn : w2.ownsRow B S.sl 1 x' av'.length av') (hg : w.grownBy w2 aw.ownBlock) (hat : x'.ownBlock = aw.ownBlock ∨ x'.ownBlock = some w.heap.size) : Hb S w2 B wv x' ew ms av' es ys :=
  ⟨keptG h.words hg h.r1, hn, keptG h.were hg h.r3.symm, fun k v n hk => keptG (h.marks k v n hk) hg (apartG (h.marks k v n hk) h.wait ok.es),
   fun y hy => ⟨keptG (h.each y hy).1 hg (apartG (h.each y hy).1 h.wait ok.es), keptG (h.each y hy).2.1 hg (apartG (h.each y hy).2.1 h.wait ok.es), (h.each y hy).2.2⟩,
   newG h.words h.r1 hat, h.r2, (newG h.were h.r3.symm hat).symm, h.q1, h.q2, h.q3, h.sizes⟩
theorem Hb.newEw (ok : S.Ok) (h : Hb S w B wv aw ew ms av es ys) (hn : w2.ownsRow B S.sl 1 x' es'.length es') (hg : w.grownBy w2 ew.ownBlock) (hat : x'.ownBlock = ew.ownBlock ∨ x'.ownBlock = some w.heap.size) : Hb S w2 B wv aw x' ms av es' ys :=
  ⟨keptG h.words hg h.r2, keptG h.wait hg h.r3, hn, fun k v n hk => keptG (h.marks k v n hk) hg (apartG (h.marks k v n hk) h.were ok.es),
   fun y hy => ⟨keptG (h.each y hy).1 hg (apartG (h.each y hy).1 h.were ok.es), keptG (h.each y hy).2.1 hg (apartG (h.each y hy).2.1 h.were ok.es), (h.each y hy).2.2⟩,
   h.r1, newG h.words h.r2 hat, newG h.wait h.r3 hat, h.q1, h.q2, h.q3, h.sizes⟩
theorem Hb.newWv (ok : S.Ok) (h : Hb S w B wv aw ew ms av es ys) (hn : w2.ownsRow B S.sl 1 x' ms'.length (ms'.map (·.1))) (hg : w.grownBy w2 wv.ownBlock) (hat : x'.ownBlock = wv.ownBlock ∨ x'.ownBlock = some w.heap.size)
    (hmk : ∀ (k : Nat) v n, ms'[k]? = some (v, n) → w.ownsRow B S.e S.size v n ((List.replicate n (S.mark (k / 4))).flatMap S.enc)) (hq : ∀ m ∈ ms', ∀ y ∈ ys, Apart y.1 m.1) (hsz : ∀ m ∈ ms', m.2 ≤ S.top + 3) : Hb S w2 B x' aw ew ms' av es ys :=
  ⟨hn, keptG h.wait hg h.r1.symm, keptG h.were hg h.r2.symm, fun k v n hk => keptG (hmk k v n hk) hg (apartG (hmk k v n hk) h.words ok.es),
   fun y hy => ⟨keptG (h.each y hy).1 hg (apartG (h.each y hy).1 h.words ok.es), keptG (h.each y hy).2.1 hg (apartG (h.each y hy).2.1 h.words ok.es), (h.each y hy).2.2⟩,
   (newG h.wait h.r1.symm hat).symm, (newG h.were h.r2.symm hat).symm, h.r3, h.q1, h.q2, hq, hsz⟩
theorem Hb.addY (h : Hb S w B wv aw ew ms av es ys) {v x : Value} {l : List S.α} (hv : Rw S w B v l) (hx : Rw S w B x l) (hl : l.length ≤ S.top)
    (hy : ∀ y ∈ ys, Apart y.1 v ∧ Apart y.1 x ∧ Apart v y.2.1) (hvx : Apart v x) (hm : ∀ m ∈ ms, Apart v m.1) : Hb S w B wv aw ew ms av es (ys ++ [(v, x, l)]) := by
  refine ⟨h.words, h.wait, h.were, h.marks, ?_, h.r1, h.r2, h.r3, ?_, ?_, ?_, h.sizes⟩
  · intro y hy'
    rcases List.mem_append.1 hy' with h' | h'
    · exact h.each y h'
    · simp at h'; subst h'; exact ⟨hv, hx, hl⟩
  · rw [List.pairwise_append]
    refine ⟨h.q1, by simp, fun a ha b hb => ?_⟩
    simp at hb; subst hb
    exact hy a ha
  · intro y hy'
    rcases List.mem_append.1 hy' with h' | h'
    · exact h.q2 y h'
    · simp at h'; subst h'; exact hvx
  · intro m hm' y hy'
    rcases List.mem_append.1 hy' with h' | h'
    · exact h.q3 m hm' y h'
    · simp at h'; subst h'; exact hm m hm'
/-- The first that waits is written into: the others stay. -/
theorem Hb.dropHead (ok : S.Ok) {v x : Value} {l : List S.α} (h : Hb S w B wv aw ew ms av es ((v, x, l) :: ys)) (hg : w.grownBy w2 v.ownBlock) : Hb S w2 B wv aw ew ms av es ys := by
  have hv := (h.each _ (List.mem_cons_self ..)).1
  have hq := List.pairwise_cons.1 h.q1
  have h0 : Hb S w B wv aw ew ms av es ys := ⟨h.words, h.wait, h.were, h.marks, fun y hy => h.each y (List.mem_cons_of_mem _ hy), h.r1, h.r2, h.r3, hq.2, fun y hy => h.q2 y (List.mem_cons_of_mem _ hy), fun m hm y hy => h.q3 m hm y (List.mem_cons_of_mem _ hy), h.sizes⟩
  refine h0.keeps (fun hr _ => keptG hr hg (apartG hr hv (fun e => ok.es e.symm))) (fun hr hw => keptG hr hg ?_)
  rcases hw with ⟨m, hm, rfl⟩ | ⟨y, hy, rfl | rfl⟩
  · exact (h.q3 m hm _ (List.mem_cons_self ..)).symm
  · exact (hq.1 y hy).1.symm
  · exact (hq.1 y hy).2.1.symm
theorem Hb.clear (h : Hb S w B wv aw ew ms av es ys) : Hb S w B wv (.slice none 0 0) (.slice none 0 0) ms [] [] [] :=
  ⟨h.words, World.ownsRow_nil _ _ _ _, World.ownsRow_nil _ _ _ _, h.marks, fun y hy => (by cases hy), nilA _, nilA _, nilA _, List.Pairwise.nil, fun y hy => (by cases hy), fun m _ y hy => (by cases hy), h.sizes⟩
theorem Hb.nil (S : Sh) (w : World) (B : Nat) : Hb S w B (.slice none 0 0) (.slice none 0 0) (.slice none 0 0) [] [] [] [] :=
  ⟨World.ownsRow_nil _ _ _ _, World.ownsRow_nil _ _ _ _, World.ownsRow_nil _ _ _ _, fun k v n h => by simp at h, fun y hy => (by cases hy), nilA _, nilA _, nilA _, List.Pairwise.nil, fun y hy => (by cases hy), fun m hm => (by cases hm), fun m hm => (by cases hm)⟩
end

/-- Words. -/
abbrev shW : Sh := ⟨Int, 2, 23, 1, 16, fun x => [.int .i64 x], fun q => -1000003 - (q : Int)⟩
/-- An order's times. -/
structure Tm where
  number : Int
  issue : Int
  read : Int
  done : Int
  write : Int
def tmC (t : Tm) : List Value := [.int .i64 t.number, .int .i64 t.issue, .int .i64 t.read, .int .i64 t.done, .int .i64 t.write]
abbrev shT : Sh := ⟨Tm, 79, 55, 5, 400, tmC, fun q => ⟨-1 - (q : Int), 0, 0, 0, 0⟩⟩
theorem okW : shW.Ok := ⟨fun _ => rfl, fun x u hu => by simp at hu; subst hu; rfl, by decide, by decide, by decide⟩
theorem okT : shT.Ok := ⟨fun _ => rfl, fun x u hu => by simp [tmC] at hu; rcases hu with h | h | h | h | h <;> subst h <;> rfl, by decide, by decide, by decide⟩

/-- The book: its block, its two halves. -/
structure Bq (w : World) (B bb : Nat) (wv aw ew : Value) (ms : List (Value × Nat)) (av es : List Value) (ys : List (Value × Value × List Int)) (tv at' et : Value) (ts : List (Value × Nat)) (bv fs : List Value) (zs : List (Value × Value × List Tm)) : Prop where
  blk : w.heap[bb]? = some (.cells #[wv, tv, aw, ew, at', et] 28 (0, 0))
  base : B ≤ bb
  small : B ≤ w.heap.size
  hw : Hb shW w B wv aw ew ms av es ys
  ht : Hb shT w B tv at' et ts bv fs zs

theorem Rw.own {w : World} {B : Nat} {v : Value} {l : List Int} : Rw shW w B v l ↔ Own w B v l := by
  have e : ∀ l : List Int, (l.flatMap fun x => [Value.int .i64 x]) = l.map (Value.int .i64) := fun l => by
    induction l with
    | nil => rfl
    | cons x l ih => rw [List.flatMap_cons, ih]; rfl
  show w.ownsRow B 2 1 v l.length (l.flatMap fun x => [Value.int .i64 x]) ↔ _
  rw [e]; exact Iff.rfl

section
variable {w w2 : World} {B bb : Nat} {wv aw ew tv at' et x' : Value} {ms ts : List (Value × Nat)} {av es bv fs : List Value} {ys : List (Value × Value × List Int)} {zs : List (Value × Value × List Tm)}

theorem Bq.grow (h : Bq w B bb wv aw ew ms av es ys tv at' et ts bv fs zs) (hg : w.grownBy w2 none) : Bq w2 B bb wv aw ew ms av es ys tv at' et ts bv fs zs :=
  ⟨by rw [hg.block bb (Array.getElem?_eq_some_iff.1 h.blk).1 (by simp)]; exact h.blk, h.base, Nat.le_trans h.small hg.size, h.hw.grow hg, h.ht.grow hg⟩
theorem Bq.cells (h : Bq w B bb wv aw ew ms av es ys tv at' et ts bv fs zs) (hb : w2.heap[bb]? = w.heap[bb]?) :
    w2.cell? ⟨bb, 0, none⟩ = some wv ∧ w2.cell? ⟨bb, 1, none⟩ = some tv ∧ w2.cell? ⟨bb, 2, none⟩ = some aw ∧ w2.cell? ⟨bb, 3, none⟩ = some ew ∧ w2.cell? ⟨bb, 4, none⟩ = some at' ∧ w2.cell? ⟨bb, 5, none⟩ = some et ∧ ∀ j, w2.frozen? ⟨bb, j, none⟩ = false := by
  rw [h.blk] at hb
  exact ⟨cell_of_row w2 bb 0 _ _ _ hb, cell_of_row w2 bb 1 _ _ _ hb, cell_of_row w2 bb 2 _ _ _ hb, cell_of_row w2 bb 3 _ _ _ hb, cell_of_row w2 bb 4 _ _ _ hb, cell_of_row w2 bb 5 _ _ _ hb, fun j => by simp [World.frozen?, hb]⟩

/-- A cell of the book's block set. -/
theorem Bq.put {wv' aw' ew' tv' at'' et' u : Value} {ms' ts' : List (Value × Nat)} {av' es' bv' fs' : List Value} {ys' : List (Value × Value × List Int)} {zs' : List (Value × Value × List Tm)} {j : Nat} (hb : w2.heap[bb]? = some (.cells #[wv, tv, aw, ew, at', et] 28 (0, 0))) (hs : #[wv, tv, aw, ew, at', et].setIfInBounds j u = #[wv', tv', aw', ew', at'', et']) (hB : B ≤ bb) (hsm : B ≤ w2.heap.size)
    (h1 : Hb shW w2 B wv' aw' ew' ms' av' es' ys') (h2 : Hb shT w2 B tv' at'' et' ts' bv' fs' zs') : Bq (w2.setCell ⟨bb, j, none⟩ u) B bb wv' aw' ew' ms' av' es' ys' tv' at'' et' ts' bv' fs' zs' :=
  ⟨by rw [heap_setCell_same _ _ j _ _ u hb, hs], hB, by simpa [World.setCell] using hsm, h1.setB okW hb j u, h2.setB okT hb j u⟩
end

/-- Every block that is neither the book's nor a row of lists is as it was. -/
structure Kr (bb : Nat) (w w' : World) : Prop where
  size : w.heap.size ≤ w'.heap.size
  block : ∀ k, k < w.heap.size → k ≠ bb → (∀ cur fr, w.heap[k]? ≠ some (.cells cur 23 fr)) → (∀ cur fr, w.heap[k]? ≠ some (.cells cur 55 fr)) → w'.heap[k]? = w.heap[k]?

theorem Kr.refl (bb : Nat) (w : World) : Kr bb w w := ⟨Nat.le_refl _, fun _ _ _ _ _ => rfl⟩
theorem Kr.trans {bb : Nat} {a b c : World} (h : Kr bb a b) (h' : Kr bb b c) : Kr bb a c :=
  ⟨Nat.le_trans h.size h'.size, fun k hk hne ht hs => by rw [h'.block k (Nat.lt_of_lt_of_le hk h.size) hne (by rw [h.block k hk hne ht hs]; exact ht) (by rw [h.block k hk hne ht hs]; exact hs), h.block k hk hne ht hs]⟩
theorem Kr.grow {bb : Nat} {w w' : World} (h : w.grownBy w' none) : Kr bb w w' := ⟨h.size, fun k hk _ _ _ => h.block k hk (by simp)⟩
theorem Kr.rowW {bb B : Nat} {w w' : World} {r : Value} {n : Nat} {xs : List Value} (hr : w.ownsRow B 23 1 r n xs) (h : w.grownBy w' r.ownBlock) : Kr bb w w' :=
  ⟨h.size, fun k hk _ ht _ => h.block k hk (fun e => by obtain ⟨cur, hc⟩ := rowG hr e.symm; exact ht _ _ hc)⟩
theorem Kr.rowT {bb B : Nat} {w w' : World} {r : Value} {n : Nat} {xs : List Value} (hr : w.ownsRow B 55 1 r n xs) (h : w.grownBy w' r.ownBlock) : Kr bb w w' :=
  ⟨h.size, fun k hk _ _ hs => h.block k hk (fun e => by obtain ⟨cur, hc⟩ := rowG hr e.symm; exact hs _ _ hc)⟩
theorem Kr.setB {bb : Nat} (w : World) (j : Nat) (u : Value) : Kr bb w (w.setCell ⟨bb, j, none⟩ u) :=
  ⟨by simp [World.setCell], fun k _ hne _ _ => Below.heap_setCell _ _ _ _ hne⟩
theorem Kr.row {bb B : Nat} {w w' : World} {cs : Array Value} {e : TypeId} {size n : Nat} {v : Value} {xs : List Value} (h : Kr bb w w') (hb : w.heap[bb]? = some (.cells cs 28 (0, 0))) (hv : w.ownsRow B e size v n xs) (h1 : e ≠ 28) (h2 : e ≠ 23) (h3 : e ≠ 55) : w'.ownsRow B e size v n xs := by
  refine ⟨hv.1, ?_⟩
  rcases hv.2 with h4 | ⟨g, cap, cur, rfl, hB, hh, rest⟩
  · exact .inl h4
  · refine .inr ⟨g, cap, cur, rfl, hB, ?_, rest⟩
    rw [h.block g (Array.getElem?_eq_some_iff.1 hh).1 ?_ ?_ ?_]
    · exact hh
    · rintro rfl
      rw [hb] at hh
      simp only [Option.some.injEq, Obj.cells.injEq] at hh
      exact h1 hh.2.1.symm
    · intro c f e'
      rw [hh] at e'
      simp only [Option.some.injEq, Obj.cells.injEq] at e'
      exact h2 e'.2.1
    · intro c f e'
      rw [hh] at e'
      simp only [Option.some.injEq, Obj.cells.injEq] at e'
      exact h3 e'.2.1

end Go.Proofs.YtmeiogoodbnkkaaGreat

/- Lists of times that read the same. -/
namespace Go.Proofs.YtmeiogoodbnkkaaGreat
open Go.RowKit

/-- A list of times reads so. -/
def RdT (w : World) (p : Option Addr) (l : List Tm) : Prop := l = [] ∨ ∃ b off, p = some ⟨b, off, none⟩ ∧ b < w.heap.size ∧ ∀ (i : Nat) (t : Tm), l[i]? = some t → ∀ j, j < 5 → w.cell? ⟨b, off + i * 5 + j, none⟩ = (tmC t)[j]?

theorem RdT.of {w : World} {B : Nat} {v : Value} {l : List Tm} (h : Rw shT w B v l) : ∃ p c, v = .slice p l.length c ∧ RdT w p l := by
  have h' : w.ownsRow B 79 5 v l.length (l.flatMap tmC) := h
  rcases h'.2 with ⟨h1, h2⟩ | ⟨g, cap, cur, h1, h2, h3, _⟩
  · exact ⟨none, 0, by rw [h1, h2], .inl (List.length_eq_zero_iff.1 h2)⟩
  · refine ⟨some ⟨g, 0, none⟩, cap, h1, .inr ⟨g, 0, rfl, (Array.getElem?_eq_some_iff.1 h3).1, fun i t ht j hj => ?_⟩⟩
    rw [h1] at h'
    have hi := (List.getElem?_eq_some_iff.1 ht).1
    rw [Nat.zero_add, h'.cellAt (i * 5 + j) (by omega), gflat_get (f := tmC) (k := 5) (fun _ => rfl) _ _ _ _ ht hj]

theorem RdT.keep {w w' : World} {p : Option Addr} {l : List Tm} (h : RdT w p l) (hb : Below w.heap.size w w') : RdT w' p l := by
  rcases h with h | ⟨b, off, h1, h2, h3⟩
  · exact .inl h
  · exact .inr ⟨b, off, h1, Nat.lt_of_lt_of_le h2 hb.size, fun i t ht j hj => by rw [hb.cell (p := ⟨b, off + i * 5 + j, none⟩) h2]; exact h3 i t ht j hj⟩

set_option maxRecDepth 100000 in
set_option maxHeartbeats 4000000 in
theorem sameTimes_any (pa pb : Option Addr) (ca cb : Nat) (l : List Tm) (w : World) (ha : RdT w pa l) (hb : RdT w pb l) (hl : l.length ≤ 1000000) :
    Calls Tryz.prog 17 #[.slice pa l.length ca, .slice pb l.length cb] w fun e w' => e = .returned (.bool true) ∧ ∃ n, w' = w.drewN n := by
  have HA := hide ha
  have HB := hide hb
  clear ha hb
  go_enter Tryz.func17, Tryz.ntmps17
  go_wp2_with fail
  go_loopg [5] l.length (fun gq s5 wr => ∃ k n : Nat, k ≤ l.length ∧ gq = l.length - k ∧ s5 = .int .i64 k ∧ wr = w.drewN n)
  case atStart => exact ⟨0, 0, Nat.zero_le _, rfl, rfl, rfl⟩
  case round =>
    obtain ⟨k, n, hk, hgk, rfl, hwr⟩ := hrel
    rcases Nat.lt_or_ge k l.length with hki | hki
    · obtain ⟨t, ht⟩ : ∃ t, l[k]? = some t := ⟨_, List.getElem?_eq_getElem hki⟩
      have hcw : ∀ a, wr.cell? a = w.cell? a := fun a => by rw [hwr]; rfl
      rcases HA.out with h | ⟨b1, o1, rfl, h1, r1⟩
      · rw [h] at hki; simp at hki
      rcases HB.out with h | ⟨b2, o2, rfl, h2, r2⟩
      · rw [h] at hki; simp at hki
      have x0 : wr.cell? ⟨b1, o1 + k * 5, none⟩ = some (.int .i64 t.number) := (hcw _).trans (r1 k t ht 0 (by omega))
      have x1 : wr.cell? ⟨b1, o1 + k * 5 + 1, none⟩ = some (.int .i64 t.issue) := (hcw _).trans (r1 k t ht 1 (by omega))
      have x2 : wr.cell? ⟨b1, o1 + k * 5 + 2, none⟩ = some (.int .i64 t.read) := (hcw _).trans (r1 k t ht 2 (by omega))
      have x3 : wr.cell? ⟨b1, o1 + k * 5 + 3, none⟩ = some (.int .i64 t.done) := (hcw _).trans (r1 k t ht 3 (by omega))
      have x4 : wr.cell? ⟨b1, o1 + k * 5 + 4, none⟩ = some (.int .i64 t.write) := (hcw _).trans (r1 k t ht 4 (by omega))
      have y0 : wr.cell? ⟨b2, o2 + k * 5, none⟩ = some (.int .i64 t.number) := (hcw _).trans (r2 k t ht 0 (by omega))
      have y1 : wr.cell? ⟨b2, o2 + k * 5 + 1, none⟩ = some (.int .i64 t.issue) := (hcw _).trans (r2 k t ht 1 (by omega))
      have y2 : wr.cell? ⟨b2, o2 + k * 5 + 2, none⟩ = some (.int .i64 t.read) := (hcw _).trans (r2 k t ht 2 (by omega))
      have y3 : wr.cell? ⟨b2, o2 + k * 5 + 3, none⟩ = some (.int .i64 t.done) := (hcw _).trans (r2 k t ht 3 (by omega))
      have y4 : wr.cell? ⟨b2, o2 + k * 5 + 4, none⟩ = some (.int .i64 t.write) := (hcw _).trans (r2 k t ht 4 (by omega))
      have hkI : (k : Int) < (l.length : Int) := by omega
      have HGK := hide hgk
      have HWR := hide hwr
      clear hwr hcw hgk r1 r2 ht
      go_upto_region 6 with fail
      go_quiet (fail)
      go_wp2_with fail
      have hgk := HGK.out
      go_roundg (l.length - (k + 1))
      case measure => omega
      case rel => exact ⟨k + 1, n + nq, by omega, rfl, by go_num, by rw [HWR.out]; simp⟩
    · have hke : ¬ ((k : Int) < (l.length : Int)) := by omega
      subst hwr
      clear hki hgk
      go_wp2_with fail
      go_ret
      exact ⟨rfl, n, rfl⟩

end Go.Proofs.YtmeiogoodbnkkaaGreat

/- Append onto owned lists, whatever the element's size. -/
namespace Go.Proofs.YtmeiogoodbnkkaaGreat
open Go.RowKit

theorem wpList_append_anyS {P : Program} (w : World) {ops : Array Oper} {rest : List Oper} {o : Oper} {a : Act} {Q : Exit → Act → World → Prop} (hgd : o.guard = none) (s x : Operand) (t : TypeId)
    (ho : o.op = .call { callee := .builtin .append, args := #[s, x], argTypes := #[t, t] })
    (base : Nat) (e : TypeId) (i : TypeInfo) (z : Value) (size bytes : Nat) (ht : P.underlying t = some (.slice e)) (hi : P.info? e = some i) (hz : i.zero = some z)
    (hsize : i.size = size) (hby : i.bytes = bytes) (hzs : z.cells.size = size) (hsz : 0 < size)
    (v : Value) (n : Nat) (xs : List Value) (hs : a.eval s = v) (hown : w.ownsRow base e size v n xs)
    (ad : Option Addr) (m c : Nat) (news : List Value) (hx : a.eval x = .slice ad m c) (hl : news.length = m * size) (hnews : (news = [] ∧ m = 0) ∨ ∃ b, ad = some b ∧ ∀ j u, news[j]? = some u → w.cell? (b.add j) = some u) (h1 : ∀ u ∈ news, u.oneCell' = true)
    (h63 : n + m ≤ maxLen) (hbytes : (n + m) * bytes ≤ 140737488355328) (hbase : base ≤ w.heap.size)
    (h : ∀ v' w', w'.ownsRow base e size v' (n + m) (xs ++ news) → w.grownBy w' v.ownBlock → (v'.ownBlock = v.ownBlock ∨ v'.ownBlock = some w.heap.size) → wpList P ops Q rest (a.put o.dst v') w') :
    wpList P ops Q (o :: rest) a w := by
  cases ad with
  | some b =>
    refine wpList_append_own_at w hgd s x t ho base e i z size bytes ht hi hz hsize hby hzs hsz v n xs hs hown b m c news hx hl ?_ h1 h63 hbytes hbase (fun v' w' h2 h3 _ h5 => h v' w' h2 h3 h5)
    rcases hnews with ⟨rfl, _⟩ | ⟨b', hb', hn⟩
    · intro j u hu; simp at hu
    · cases hb'; exact hn
  | none =>
    obtain ⟨rfl, rfl⟩ : news = [] ∧ m = 0 := by
      rcases hnews with h | ⟨b, hb, _⟩
      · exact h
      · cases hb
    refine wpList_plain hgd fun K hK => ?_
    have hrun : (Builtin.append_ #[t, t] o.type #[v, .slice none 0 c]).run P w = .ok v w := by
      rcases hown.2 with ⟨rfl, rfl⟩ | ⟨g, cap, cur, rfl, hb, hg, hc, hm, hcs, htk⟩
      · simp [Builtin.append_, run_underlying ht, sizeOf, typeInfo, hi, Builtin.lenOf, Builtin.firstCells]
      · simp [Builtin.append_, run_underlying ht, sizeOf, typeInfo, hi, Builtin.lenOf, Builtin.firstCells, hc, storeCells]
    unfold Oper.wp execOp
    simp only [ho, resolve, invoke, builtin, Sem.run_bind, Sem.run_pure, Result.andThen_ok, List.map_toArray, List.map_cons, List.map_nil, hs, hx, hrun]
    exact hK _ _ (h v w (by simpa using hown) ⟨rfl, rfl, rfl, Nat.le_refl _, fun _ _ _ => rfl⟩ (.inl rfl))

/-- Append onto a list without spare room makes a new row. -/
theorem run_append_freshS {P : Program} (w : World) (base : Nat) (t ty e : TypeId) (i : TypeInfo) (z : Value) (size bytes : Nat) (ht : P.underlying t = some (.slice e)) (hi : P.info? e = some i) (hz : i.zero = some z)
    (hsize : i.size = size) (hby : i.bytes = bytes) (hzs : z.cells.size = size) (hsz : 0 < size)
    (v : Value) (n : Nat) (xs : List Value) (hown : w.ownsRow base e size v n xs) (htg : Tight v)
    (a : Addr) (m c : Nat) (news : List Value) (hl : news.length = m * size) (hnews : ∀ j u, news[j]? = some u → w.cell? (a.add j) = some u) (h1 : ∀ u ∈ news, u.oneCell' = true) (hm : 0 < m)
    (h63 : n + m ≤ maxLen) (hbytes : (n + m) * bytes ≤ 140737488355328) (hbase : base ≤ w.heap.size) :
    ∃ v' w', (Builtin.append_ #[t, t] ty #[v, .slice (some a) m c]).run P w = .ok v' w' ∧ w'.ownsRow base e size v' (n + m) (xs ++ news) ∧ w.grownBy w' none ∧ v'.ownBlock = some w.heap.size := by
  obtain ⟨v', w', hr, h2, h3, _, h5⟩ := run_append_own_at (P := P) w base t ty e i z size bytes ht hi hz hsize hby hzs hsz v n xs hown a m c news hl hnews h1 h63 hbytes hbase
  refine ⟨v', w', hr, h2, ?_⟩
  rcases hown.2 with ⟨rfl, rfl⟩ | ⟨g, cap, cur, rfl, hbg, hg, hnc, hcm, hcs, htake⟩
  · refine ⟨h3, ?_⟩
    rcases h5 with h5 | h5
    · obtain ⟨g, cap, rfl, _, _⟩ := h2.form (by omega)
      cases h5
    · exact h5
  · have hcn : cap = n := by
      rcases htg with h | ⟨g', n', h⟩
      · cases h
      · simp only [Value.slice.injEq] at h; omega
    subst hcn
    have holds : ∀ j u, xs[j]? = some u → w.cell? ((⟨g, 0, none⟩ : Addr).add j) = some u := hown.cells (g := g) rfl
    have hr2 := run_append_grow (P := P) w t ty e i z ht hi hz ⟨g, 0, none⟩ cap cap xs (by rw [hsize]; exact hown.1) holds a m c news (by rw [hsize]; exact hl) hnews (by omega) (by simp only [maxLen] at h63; omega) (growslice_fits (by omega) (by rw [hby]; exact hbytes))
    rw [hr2] at hr
    simp only [Result.ok.injEq] at hr
    obtain ⟨rfl, rfl⟩ := hr
    exact ⟨⟨rfl, rfl, rfl, by simp, fun k hk _ => Below.heap_alloc w.drew _ k hk⟩, rfl⟩

theorem wpList_append_freshS {P : Program} (w : World) {ops : Array Oper} {rest : List Oper} {o : Oper} {a : Act} {Q : Exit → Act → World → Prop} (hgd : o.guard = none) (s x : Operand) (t : TypeId)
    (ho : o.op = .call { callee := .builtin .append, args := #[s, x], argTypes := #[t, t] })
    (base : Nat) (e : TypeId) (i : TypeInfo) (z : Value) (size bytes : Nat) (ht : P.underlying t = some (.slice e)) (hi : P.info? e = some i) (hz : i.zero = some z)
    (hsize : i.size = size) (hby : i.bytes = bytes) (hzs : z.cells.size = size) (hsz : 0 < size)
    (v : Value) (n : Nat) (xs : List Value) (hs : a.eval s = v) (hown : w.ownsRow base e size v n xs) (htg : Tight v)
    (ad : Addr) (m c : Nat) (news : List Value) (hx : a.eval x = .slice (some ad) m c) (hl : news.length = m * size) (hnews : ∀ j u, news[j]? = some u → w.cell? (ad.add j) = some u) (h1 : ∀ u ∈ news, u.oneCell' = true) (hm : 0 < m)
    (h63 : n + m ≤ maxLen) (hbytes : (n + m) * bytes ≤ 140737488355328) (hbase : base ≤ w.heap.size)
    (h : ∀ v' w', w'.ownsRow base e size v' (n + m) (xs ++ news) → w.grownBy w' none → v'.ownBlock = some w.heap.size → wpList P ops Q rest (a.put o.dst v') w') :
    wpList P ops Q (o :: rest) a w := by
  refine wpList_plain hgd fun K hK => ?_
  obtain ⟨v', w', hr, h2, h3, h4⟩ := run_append_freshS (P := P) w base t o.type e i z size bytes ht hi hz hsize hby hzs hsz v n xs hown htg ad m c news hl hnews h1 hm h63 hbytes hbase
  unfold Oper.wp execOp
  simp only [ho, resolve, invoke, builtin, Sem.run_bind, Sem.run_pure, Result.andThen_ok, List.map_toArray, List.map_cons, List.map_nil, hs, hx, hr]
  exact hK _ _ (h v' w' h2 h3 h4)

section
variable {S : Sh} {w w' : World} {B : Nat} {v : Value} {l : List S.α}

theorem Rw.slice (h : Rw S w B v l) : ∃ p c, v = .slice p l.length c ∧ ((l.flatMap S.enc = [] ∧ l.length = 0) ∨ ∃ b, p = some b ∧ ∀ j u, (l.flatMap S.enc)[j]? = some u → w.cell? (b.add j) = some u) := by
  rcases h.2 with ⟨h1, h2⟩ | ⟨g, cap, cur, h1, h2, h3, _⟩
  · have : l = [] := List.length_eq_zero_iff.1 h2
    exact ⟨none, 0, by rw [h1, h2], .inl ⟨by rw [this]; rfl, h2⟩⟩
  · refine ⟨_, cap, h1, .inr ⟨_, rfl, ?_⟩⟩
    exact World.ownsRow.cells h (g := g) (by rw [h1]; rfl)
theorem Rw.ones (ok : S.Ok) (l : List S.α) : ∀ u ∈ l.flatMap S.enc, u.oneCell' = true := fun u hu => by
  rw [List.mem_flatMap] at hu
  obtain ⟨x, _, hx⟩ := hu
  exact ok.one x u hx
theorem Rw.lens (ok : S.Ok) (l : List S.α) : (l.flatMap S.enc).length = l.length * S.size := gflat_len ok.len l
theorem Rw.lt (h : Rw S w B v l) : ∀ g, v.ownBlock = some g → B ≤ g ∧ g < w.heap.size := World.ownsRow.lt h
theorem Rw.grow (h : Rw S w B v l) (hg : w.grownBy w' none) : Rw S w' B v l := growG h hg
end

theorem Tryz.info55 : (Tryz.prog.info? 55).map (fun i => (i.zero, i.size, i.bytes)) = some (some (.slice none 0 0), 1, 24) := by kernel_rfl
theorem row_snocG {w : World} {B : Nat} {e : TypeId} {v x : Value} {l : List Value} (h : w.ownsRow B e 1 v (l.length + 1) (l ++ [x])) : w.ownsRow B e 1 v (l ++ [x]).length (l ++ [x]) := by simpa using h

end Go.Proofs.YtmeiogoodbnkkaaGreat
