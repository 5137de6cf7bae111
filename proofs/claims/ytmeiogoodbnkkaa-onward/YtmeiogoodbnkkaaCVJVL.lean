/- Several texts in one: VJ, VO, VL. -/
import Derived.Test.YtmeiogoodbnkkaaCVH
import Derived.Test.YtmeiogoodbnkkaaCVI
import Derived.Deep.CutBlock
/- boardkeep.Anyhow. -/
namespace Go.Proofs.Ytmeiogoodbnkkaa
open Go.RowKit

/-- The cells of a configuration that was boxed. -/
theorem cfg_rules {W0 : World} {N : Nat} {u0 u1 u2 u3 l0 l1 l2 l3 b : Int} (h : W0.heap[N]? = some (.cells #[.int .i64 u0, .int .i64 u1, .int .i64 u2, .int .i64 u3, .int .i64 l0, .int .i64 l1, .int .i64 l2, .int .i64 l3, .int .i64 b] 24 (0, 0))) :
    ∀ w', Below W0.heap.size W0 w' → w'.heap[N]? = some (.cells #[.int .i64 u0, .int .i64 u1, .int .i64 u2, .int .i64 u3, .int .i64 l0, .int .i64 l1, .int .i64 l2, .int .i64 l3, .int .i64 b] 24 (0, 0)) := fun w' hb => by
  rw [hb.block _ (Array.getElem?_eq_some_iff.1 h).1]; exact h

theorem row9 {w : World} {U : Nat} {v0 v1 v2 v3 v4 v5 v6 v7 v8 : Value} (h : w.heap[U]? = some (.cells #[v0, v1, v2, v3, v4, v5, v6, v7, v8] 24 (0, 0))) :
    w.cell? ⟨U, 0, none⟩ = some v0 ∧ w.cell? ⟨U, 1, none⟩ = some v1 ∧ w.cell? ⟨U, 2, none⟩ = some v2 ∧ w.cell? ⟨U, 3, none⟩ = some v3 ∧ w.cell? ⟨U, 4, none⟩ = some v4 ∧ w.cell? ⟨U, 5, none⟩ = some v5 ∧ w.cell? ⟨U, 6, none⟩ = some v6 ∧ w.cell? ⟨U, 7, none⟩ = some v7 ∧ w.cell? ⟨U, 8, none⟩ = some v8 := by
  have g : ∀ j, w.cell? ⟨U, j, none⟩ = #[v0, v1, v2, v3, v4, v5, v6, v7, v8][j]? := fun j => cell_of_row _ _ _ _ _ _ h
  exact ⟨g 0, g 1, g 2, g 3, g 4, g 5, g 6, g 7, g 8⟩

theorem hNew {w : World} {cs : Array Value} {e : TypeId} {N : Nat} (h : w.heap.size = N) : (w.alloc (.cells cs e)).heap[N]? = some (.cells cs e (0, 0)) := by
  subst h
  exact heap_alloc_new _ _
theorem hOld {w : World} {x o : Obj} {N : Nat} (h : w.heap[N]? = some o) : (w.alloc x).heap[N]? = some o :=
  (Below.heap_alloc w x N (Array.getElem?_eq_some_iff.1 h).1).trans h

set_option maxRecDepth 100000 in
set_option maxHeartbeats 4000000 in
theorem anyhow_law (u0 u1 u2 u3 l0 l1 l2 l3 b u0' u1' u2' u3' l0' l1' l2' l3' b' : Int) (hu : In64 u0 ∧ In64 u1 ∧ In64 u2 ∧ In64 u3 ∧ In64 l0 ∧ In64 l1 ∧ In64 l2 ∧ In64 l3 ∧ In64 b) (hu' : In64 u0' ∧ In64 u1' ∧ In64 u2' ∧ In64 u3' ∧ In64 l0' ∧ In64 l1' ∧ In64 l2' ∧ In64 l3' ∧ In64 b')
    (p pm : Option Addr) (c cm : Nat) (raw : List Ord) (mem : List Int) (w : World) (hp : RdO w p raw) (hin : ∀ j, j < raw.length → In64O (raw.getD j Ord.none)) (hlen : (raw.length : Int) ≤ 1000000000000000) (hm : Rd w pm mem) (hlm : (mem.length : Int) ≤ 1000000000000000) (hcm : mem.length ≤ cm) :
    Calls Try.prog 4 #[.agg #[.int .i64 u0, .int .i64 u1, .int .i64 u2, .int .i64 u3, .int .i64 l0, .int .i64 l1, .int .i64 l2, .int .i64 l3, .int .i64 b], .agg #[.int .i64 u0', .int .i64 u1', .int .i64 u2', .int .i64 u3', .int .i64 l0', .int .i64 l1', .int .i64 l2', .int .i64 l3', .int .i64 b'], .slice p raw.length c, .slice pm mem.length cm] w fun e w' => e = .returned (.bool true) ∧ Below w.heap.size w w' := by
  have HP := hide hp
  have HIN := hide hin
  have HM := hide hm
  have HLEN := hide hlen
  have HLM := hide hlm
  have HCM := hide hcm
  have HC1 := hide (fun W => config_any u0 u1 u2 u3 l0 l1 l2 l3 b hu.1 hu.2.1 hu.2.2.1 hu.2.2.2.1 hu.2.2.2.2.1 hu.2.2.2.2.2.1 hu.2.2.2.2.2.2.1 hu.2.2.2.2.2.2.2.1 hu.2.2.2.2.2.2.2.2 W)
  have HC2 := hide (fun W => config_any u0' u1' u2' u3' l0' l1' l2' l3' b' hu'.1 hu'.2.1 hu'.2.2.1 hu'.2.2.2.1 hu'.2.2.2.2.1 hu'.2.2.2.2.2.1 hu'.2.2.2.2.2.2.1 hu'.2.2.2.2.2.2.2.1 hu'.2.2.2.2.2.2.2.2 W)
  have hG1 := cfg_ok u0 u1 u2 l0 l1 l2 l3 b
  have hF1 := cfg_fit u0 u1 u2 l0 l1 l2 l3 b
  have hG2 := cfg_ok u0' u1' u2' l0' l1' l2' l3' b'
  have hF2 := cfg_fit u0' u1' u2' l0' l1' l2' l3' b'
  clear hp hin hm hlen hlm hcm hu hu'
  generalize 1 + pk u0 3 = y0 at *
  generalize 1 + pk u1 3 = y1 at *
  generalize 1 + pk u2 3 = y2 at *
  generalize 1 + pk l0 12 = y4 at *
  generalize 1 + pk l1 12 = y5 at *
  generalize 1 + pk l2 12 = y6 at *
  generalize 1 + pk l3 12 = y7 at *
  generalize 1 + pk b 3 = y8 at *
  generalize 1 + pk u0' 3 = z0 at *
  generalize 1 + pk u1' 3 = z1 at *
  generalize 1 + pk u2' 3 = z2 at *
  generalize 1 + pk l0' 12 = z4 at *
  generalize 1 + pk l1' 12 = z5 at *
  generalize 1 + pk l2' 12 = z6 at *
  generalize 1 + pk l3' 12 = z7 at *
  generalize 1 + pk b' 3 = z8 at *
  have HG1 := hide hG1
  have HF1 := hide hF1
  have HG2 := hide hG2
  have HF2 := hide hF2
  clear hG1 hF1 hG2 hF2
  obtain ⟨mt, hmt⟩ : ∃ mt, mt = mem.take 16 := ⟨_, rfl⟩
  have hmt16 : mt.length ≤ 16 := by rw [hmt]; simp; omega
  have HMT := hide hmt
  clear hmt
  obtain ⟨W0, hW0⟩ : ∃ W0, (w.alloc (.cells #[.int .i64 u0, .int .i64 u1, .int .i64 u2, .int .i64 u3, .int .i64 l0, .int .i64 l1, .int .i64 l2, .int .i64 l3, .int .i64 b] 24)).alloc (.cells #[.int .i64 u0', .int .i64 u1', .int .i64 u2', .int .i64 u3', .int .i64 l0', .int .i64 l1', .int .i64 l2', .int .i64 l3', .int .i64 b'] 24) = W0 := ⟨_, rfl⟩
  have hb0 : Below w.heap.size w W0 := by rw [← hW0]; exact bAl (bAl (Below.refl _ _) _) _
  have hz0 : W0.heap.size = w.heap.size + 1 + 1 := by rw [← hW0]; simp
  have hr1 := cfg_rules (show W0.heap[w.heap.size]? = _ by rw [← hW0]; exact hOld (hNew rfl))
  have hr2 := cfg_rules (show W0.heap[w.heap.size + 1]? = _ by rw [← hW0]; exact hNew (by simp))
  have HB0 := hide hb0
  have HR1 := hide hr1
  have HR2 := hide hr2
  have k0 : ∀ w', Below W0.heap.size W0 w' → w'.cell? ⟨w.heap.size, 0, none⟩ = some (.int .i64 u0) := fun w' h => by rw [cell_of_row _ _ _ _ _ _ (HR1.out w' h)]; rfl
  have k1 : ∀ w', Below W0.heap.size W0 w' → w'.cell? ⟨w.heap.size, 1, none⟩ = some (.int .i64 u1) := fun w' h => by rw [cell_of_row _ _ _ _ _ _ (HR1.out w' h)]; rfl
  have k2 : ∀ w', Below W0.heap.size W0 w' → w'.cell? ⟨w.heap.size, 2, none⟩ = some (.int .i64 u2) := fun w' h => by rw [cell_of_row _ _ _ _ _ _ (HR1.out w' h)]; rfl
  have k3 : ∀ w', Below W0.heap.size W0 w' → w'.cell? ⟨w.heap.size, 3, none⟩ = some (.int .i64 u3) := fun w' h => by rw [cell_of_row _ _ _ _ _ _ (HR1.out w' h)]; rfl
  have k4 : ∀ w', Below W0.heap.size W0 w' → w'.cell? ⟨w.heap.size, 4, none⟩ = some (.int .i64 l0) := fun w' h => by rw [cell_of_row _ _ _ _ _ _ (HR1.out w' h)]; rfl
  have k5 : ∀ w', Below W0.heap.size W0 w' → w'.cell? ⟨w.heap.size, 5, none⟩ = some (.int .i64 l1) := fun w' h => by rw [cell_of_row _ _ _ _ _ _ (HR1.out w' h)]; rfl
  have k6 : ∀ w', Below W0.heap.size W0 w' → w'.cell? ⟨w.heap.size, 6, none⟩ = some (.int .i64 l2) := fun w' h => by rw [cell_of_row _ _ _ _ _ _ (HR1.out w' h)]; rfl
  have k7 : ∀ w', Below W0.heap.size W0 w' → w'.cell? ⟨w.heap.size, 7, none⟩ = some (.int .i64 l3) := fun w' h => by rw [cell_of_row _ _ _ _ _ _ (HR1.out w' h)]; rfl
  have k8 : ∀ w', Below W0.heap.size W0 w' → w'.cell? ⟨w.heap.size, 8, none⟩ = some (.int .i64 b) := fun w' h => by rw [cell_of_row _ _ _ _ _ _ (HR1.out w' h)]; rfl
  have j0 : ∀ w', Below W0.heap.size W0 w' → w'.cell? ⟨w.heap.size + 1, 0, none⟩ = some (.int .i64 u0') := fun w' h => by rw [cell_of_row _ _ _ _ _ _ (HR2.out w' h)]; rfl
  have j1 : ∀ w', Below W0.heap.size W0 w' → w'.cell? ⟨w.heap.size + 1, 1, none⟩ = some (.int .i64 u1') := fun w' h => by rw [cell_of_row _ _ _ _ _ _ (HR2.out w' h)]; rfl
  have j2 : ∀ w', Below W0.heap.size W0 w' → w'.cell? ⟨w.heap.size + 1, 2, none⟩ = some (.int .i64 u2') := fun w' h => by rw [cell_of_row _ _ _ _ _ _ (HR2.out w' h)]; rfl
  have j3 : ∀ w', Below W0.heap.size W0 w' → w'.cell? ⟨w.heap.size + 1, 3, none⟩ = some (.int .i64 u3') := fun w' h => by rw [cell_of_row _ _ _ _ _ _ (HR2.out w' h)]; rfl
  have j4 : ∀ w', Below W0.heap.size W0 w' → w'.cell? ⟨w.heap.size + 1, 4, none⟩ = some (.int .i64 l0') := fun w' h => by rw [cell_of_row _ _ _ _ _ _ (HR2.out w' h)]; rfl
  have j5 : ∀ w', Below W0.heap.size W0 w' → w'.cell? ⟨w.heap.size + 1, 5, none⟩ = some (.int .i64 l1') := fun w' h => by rw [cell_of_row _ _ _ _ _ _ (HR2.out w' h)]; rfl
  have j6 : ∀ w', Below W0.heap.size W0 w' → w'.cell? ⟨w.heap.size + 1, 6, none⟩ = some (.int .i64 l2') := fun w' h => by rw [cell_of_row _ _ _ _ _ _ (HR2.out w' h)]; rfl
  have j7 : ∀ w', Below W0.heap.size W0 w' → w'.cell? ⟨w.heap.size + 1, 7, none⟩ = some (.int .i64 l3') := fun w' h => by rw [cell_of_row _ _ _ _ _ _ (HR2.out w' h)]; rfl
  have j8 : ∀ w', Below W0.heap.size W0 w' → w'.cell? ⟨w.heap.size + 1, 8, none⟩ = some (.int .i64 b') := fun w' h => by rw [cell_of_row _ _ _ _ _ _ (HR2.out w' h)]; rfl
  have HPR : Hid (∀ W, Below w.heap.size w W → Calls Try.prog 11 #[.slice p raw.length c] W fun e w' => ∃ g n cap prog, e = .returned (.slice (some ⟨g, 0, none⟩) n cap) ∧ prog.length = n ∧ isProg prog = true ∧ RdO w' (some ⟨g, 0, none⟩) prog ∧ W.heap.size ≤ g ∧ Below W.heap.size W w') := fun W h => program_any p c raw W (HP.out.below (Nat.le_refl _) h) HIN.out HLEN.out
  have HME : Hid (∀ W, Calls Try.prog 12 #[.slice pm mem.length cm] W fun e w' => e = .returned (.slice pm mt.length cm) ∧ w' = W) := fun W => memory_any pm cm mem W HLM.out HCM.out mt HMT.out
  have HZ0 := hide hz0
  clear hb0 hr1 hr2 hz0
  go_enter Try.func4, Try.ntmps4
  go_upto_region 1 with fail
  clear hW0
  go_upto_region 3 with (first | (go_at_call 9; refine (ran_any _).mono ?_; rintro e wa ⟨rfl, hba⟩) | (go_at_call 11; refine (HPR.out _ (bCall HB0.out hba)).mono ?_; rintro e wb ⟨g, n, cap, prog, rfl, hpl, hprog, hrd, hgg, hbb⟩))
  subst hpl
  have hBb : Below W0.heap.size W0 wb := bCall hba hbb
  have HBb := hide hBb
  have hls : w.heap.size < wb.heap.size := by have := hBb.size; have := HZ0.out; omega
  have hls1 : w.heap.size + 1 < wb.heap.size := by have := hBb.size; have := HZ0.out; omega
  have HRM : Hid (∀ W, Below wb.heap.size wb W → Rd W pm mt) := fun W h => by rw [HMT.out]; exact (HM.out.below (Nat.le_refl _) (bCall HB0.out (bCall HBb.out h))).cut 16
  have HRP : Hid (∀ W, Below wb.heap.size wb W → RdO W (some ⟨g, 0, none⟩) prog) := fun W h => hrd.below (Nat.le_refl _) h
  obtain ⟨r1, hr1⟩ : ∃ r, r = runM [y0, y1, y2, 1] [y4, y5, y6, y7] y8 prog mt 400 := ⟨_, rfl⟩
  obtain ⟨r2, hr2⟩ : ∃ r, r = runM [z0, z1, z2, 1] [z4, z5, z6, z7] z8 prog mt 400 := ⟨_, rfl⟩
  have HX1 : Hid (∀ W, Below wb.heap.size wb W → Calls Try.prog 13 #[.agg #[.int .i64 y0, .int .i64 y1, .int .i64 y2, .int .i64 1, .int .i64 y4, .int .i64 y5, .int .i64 y6, .int .i64 y7, .int .i64 y8], .slice (some ⟨g, 0, none⟩) prog.length cap, .slice pm mt.length cm, .int .i64 400] W fun e w' =>
      ∃ x0 x1 x2 x3 x4 x5 x6 x7 pp cc pt ct, e = .returned (.tuple #[.agg #[.int .i64 x0, .int .i64 x1, .int .i64 x2, .int .i64 x3, .int .i64 x4, .int .i64 x5, .int .i64 x6, .int .i64 x7, .slice pp r1.mem.length cc, .int .i64 r1.next, .int .i64 r1.stop, .int .i64 r1.trap, .int .i64 r1.steps], .slice pt r1.given.length ct, .int .i64 0]) ∧
        r1.regs = [x0, x1, x2, x3, x4, x5, x6, x7] ∧ Below W.heap.size W w' ∧ Rd w' pp r1.mem ∧ TmR w' W.heap.size pt r1.given) := fun W h =>
    run_good y0 y1 y2 1 y4 y5 y6 y7 y8 _ pm cap cm prog mt 400 W (HRP.out W h) (HRM.out W h) hprog hmt16 (by omega) (by omega) HF1.out r1 hr1
  have HX2 : Hid (∀ W, Below wb.heap.size wb W → Calls Try.prog 13 #[.agg #[.int .i64 z0, .int .i64 z1, .int .i64 z2, .int .i64 1, .int .i64 z4, .int .i64 z5, .int .i64 z6, .int .i64 z7, .int .i64 z8], .slice (some ⟨g, 0, none⟩) prog.length cap, .slice pm mt.length cm, .int .i64 400] W fun e w' =>
      ∃ x0 x1 x2 x3 x4 x5 x6 x7 pp cc pt ct, e = .returned (.tuple #[.agg #[.int .i64 x0, .int .i64 x1, .int .i64 x2, .int .i64 x3, .int .i64 x4, .int .i64 x5, .int .i64 x6, .int .i64 x7, .slice pp r2.mem.length cc, .int .i64 r2.next, .int .i64 r2.stop, .int .i64 r2.trap, .int .i64 r2.steps], .slice pt r2.given.length ct, .int .i64 0]) ∧
        r2.regs = [x0, x1, x2, x3, x4, x5, x6, x7] ∧ Below W.heap.size W w' ∧ Rd w' pp r2.mem ∧ TmR w' W.heap.size pt r2.given) := fun W h =>
    run_good z0 z1 z2 1 z4 z5 z6 z7 z8 _ pm cap cm prog mt 400 W (HRP.out W h) (HRM.out W h) hprog hmt16 (by omega) (by omega) HF2.out r2 hr2
  have HAN := anyhow_pure HG1.out HG2.out hprog mt 400 (by omega)
  rw [← hr1, ← hr2] at HAN
  have HAN := hide HAN
  have L1 : r1.mem.length ≤ 16 := by rw [hr1, run_mem_len HG1.out hprog mt 400 (by omega)]; exact hmt16
  have L2 : r2.mem.length ≤ 16 := by rw [hr2, run_mem_len HG2.out hprog mt 400 (by omega)]; exact hmt16
  have HL1 := hide L1
  have HL2 := hide L2
  clear hr1 hr2 L1 L2 hprog hrd hgg hba hbb hmt16 HRP HRM HPR HM HP HIN HLEN HLM HMT HCM HF1 HF2 HG1 HG2
  have hk : ∀ w', Below wb.heap.size wb w' → Below W0.heap.size W0 w' := fun w' h => bCall HBb.out h
  have k0' : ∀ w', Below wb.heap.size wb w' → w'.cell? ⟨w.heap.size, 0, none⟩ = some (.int .i64 u0) := fun w' h => k0 w' (hk w' h)
  have j0' : ∀ w', Below wb.heap.size wb w' → w'.cell? ⟨w.heap.size + 1, 0, none⟩ = some (.int .i64 u0') := fun w' h => j0 w' (hk w' h)
  have k1' : ∀ w', Below wb.heap.size wb w' → w'.cell? ⟨w.heap.size, 1, none⟩ = some (.int .i64 u1) := fun w' h => k1 w' (hk w' h)
  have j1' : ∀ w', Below wb.heap.size wb w' → w'.cell? ⟨w.heap.size + 1, 1, none⟩ = some (.int .i64 u1') := fun w' h => j1 w' (hk w' h)
  have k2' : ∀ w', Below wb.heap.size wb w' → w'.cell? ⟨w.heap.size, 2, none⟩ = some (.int .i64 u2) := fun w' h => k2 w' (hk w' h)
  have j2' : ∀ w', Below wb.heap.size wb w' → w'.cell? ⟨w.heap.size + 1, 2, none⟩ = some (.int .i64 u2') := fun w' h => j2 w' (hk w' h)
  have k3' : ∀ w', Below wb.heap.size wb w' → w'.cell? ⟨w.heap.size, 3, none⟩ = some (.int .i64 u3) := fun w' h => k3 w' (hk w' h)
  have j3' : ∀ w', Below wb.heap.size wb w' → w'.cell? ⟨w.heap.size + 1, 3, none⟩ = some (.int .i64 u3') := fun w' h => j3 w' (hk w' h)
  have k4' : ∀ w', Below wb.heap.size wb w' → w'.cell? ⟨w.heap.size, 4, none⟩ = some (.int .i64 l0) := fun w' h => k4 w' (hk w' h)
  have j4' : ∀ w', Below wb.heap.size wb w' → w'.cell? ⟨w.heap.size + 1, 4, none⟩ = some (.int .i64 l0') := fun w' h => j4 w' (hk w' h)
  have k5' : ∀ w', Below wb.heap.size wb w' → w'.cell? ⟨w.heap.size, 5, none⟩ = some (.int .i64 l1) := fun w' h => k5 w' (hk w' h)
  have j5' : ∀ w', Below wb.heap.size wb w' → w'.cell? ⟨w.heap.size + 1, 5, none⟩ = some (.int .i64 l1') := fun w' h => j5 w' (hk w' h)
  have k6' : ∀ w', Below wb.heap.size wb w' → w'.cell? ⟨w.heap.size, 6, none⟩ = some (.int .i64 l2) := fun w' h => k6 w' (hk w' h)
  have j6' : ∀ w', Below wb.heap.size wb w' → w'.cell? ⟨w.heap.size + 1, 6, none⟩ = some (.int .i64 l2') := fun w' h => j6 w' (hk w' h)
  have k7' : ∀ w', Below wb.heap.size wb w' → w'.cell? ⟨w.heap.size, 7, none⟩ = some (.int .i64 l3) := fun w' h => k7 w' (hk w' h)
  have j7' : ∀ w', Below wb.heap.size wb w' → w'.cell? ⟨w.heap.size + 1, 7, none⟩ = some (.int .i64 l3') := fun w' h => j7 w' (hk w' h)
  have k8' : ∀ w', Below wb.heap.size wb w' → w'.cell? ⟨w.heap.size, 8, none⟩ = some (.int .i64 b) := fun w' h => k8 w' (hk w' h)
  have j8' : ∀ w', Below wb.heap.size wb w' → w'.cell? ⟨w.heap.size + 1, 8, none⟩ = some (.int .i64 b') := fun w' h => j8 w' (hk w' h)
  have hW : Below w.heap.size w wb := bCall HB0.out hBb
  have HW := hide hW
  clear hk hBb hW k0 j0 k1 j1 k2 j2 k3 j3 k4 j4 k5 j5 k6 j6 k7 j7 k8 j8
  have hrb : Below wb.heap.size wb wb := Below.refl _ _
  go_upto_region 5 with (first | (go_at_call 12; refine (HME.out _).mono ?_; rintro e W' ⟨rfl, hW'⟩; have hW'' := hW'.symm; clear hW'; subst hW'') | (go_at_call 10; refine (HC1.out _).mono ?_; rintro e wc ⟨rfl, hbc⟩; have hBc : Below wb.heap.size wb wc := (bCall (by (repeat (first | with_reducible assumption | with_reducible exact Below.refl _ _ | with_reducible refine bAl ?_ _))) hbc)) | (go_at_call 13; refine (HX1.out _ (by (repeat (first | with_reducible assumption | with_reducible exact Below.refl _ _ | with_reducible refine bAl ?_ _)))).mono ?_; rintro e wd ⟨x0, x1, x2, x3, x4, x5, x6, x7, pp, cc, pt, ct, rfl, hx, hbd, hrd1, _⟩; have hBd : Below wb.heap.size wb wd := (bCall (by (repeat (first | with_reducible assumption | with_reducible exact Below.refl _ _ | with_reducible refine bAl ?_ _))) hbd)))
  obtain ⟨W1, hW1⟩ : ∃ W1, wd.alloc (.cells #[.int .i64 x0, .int .i64 x1, .int .i64 x2, .int .i64 x3, .int .i64 x4, .int .i64 x5, .int .i64 x6, .int .i64 x7, .slice pp r1.mem.length cc, .int .i64 r1.next, .int .i64 r1.stop, .int .i64 r1.trap, .int .i64 r1.steps] 33) = W1 := ⟨_, rfl⟩
  have hB1 : Below wb.heap.size wb W1 := by rw [← hW1]; exact bAl hBd _
  have hz1 : W1.heap.size = wd.heap.size + 1 := by rw [← hW1]; simp
  have hS : W1.heap[wd.heap.size]? = some (.cells #[.int .i64 x0, .int .i64 x1, .int .i64 x2, .int .i64 x3, .int .i64 x4, .int .i64 x5, .int .i64 x6, .int .i64 x7, .slice pp r1.mem.length cc, .int .i64 r1.next, .int .i64 r1.stop, .int .i64 r1.trap, .int .i64 r1.steps] 33 (0, 0)) := by rw [← hW1]; exact heap_alloc_new _ _
  have HRD1 : Hid (∀ W, Below W1.heap.size W1 W → Rd W pp r1.mem) := fun W h => hrd1.below (Nat.le_refl _) ((show Below wd.heap.size wd W1 by rw [← hW1]; exact bAl (Below.refl _ _) _).trans (h.mono (by omega)))
  rw [hW1]
  have s0 : ∀ w', Below W1.heap.size W1 w' → w'.cell? ⟨wd.heap.size, 0, none⟩ = some (.int .i64 x0) := fun w' h => by rw [h.cell (p := ⟨wd.heap.size, 0, none⟩) (show wd.heap.size < W1.heap.size by omega), cell_of_row _ _ _ _ _ _ hS]; rfl
  have s1 : ∀ w', Below W1.heap.size W1 w' → w'.cell? ⟨wd.heap.size, 1, none⟩ = some (.int .i64 x1) := fun w' h => by rw [h.cell (p := ⟨wd.heap.size, 1, none⟩) (show wd.heap.size < W1.heap.size by omega), cell_of_row _ _ _ _ _ _ hS]; rfl
  have s2 : ∀ w', Below W1.heap.size W1 w' → w'.cell? ⟨wd.heap.size, 2, none⟩ = some (.int .i64 x2) := fun w' h => by rw [h.cell (p := ⟨wd.heap.size, 2, none⟩) (show wd.heap.size < W1.heap.size by omega), cell_of_row _ _ _ _ _ _ hS]; rfl
  have s3 : ∀ w', Below W1.heap.size W1 w' → w'.cell? ⟨wd.heap.size, 3, none⟩ = some (.int .i64 x3) := fun w' h => by rw [h.cell (p := ⟨wd.heap.size, 3, none⟩) (show wd.heap.size < W1.heap.size by omega), cell_of_row _ _ _ _ _ _ hS]; rfl
  have s4 : ∀ w', Below W1.heap.size W1 w' → w'.cell? ⟨wd.heap.size, 4, none⟩ = some (.int .i64 x4) := fun w' h => by rw [h.cell (p := ⟨wd.heap.size, 4, none⟩) (show wd.heap.size < W1.heap.size by omega), cell_of_row _ _ _ _ _ _ hS]; rfl
  have s5 : ∀ w', Below W1.heap.size W1 w' → w'.cell? ⟨wd.heap.size, 5, none⟩ = some (.int .i64 x5) := fun w' h => by rw [h.cell (p := ⟨wd.heap.size, 5, none⟩) (show wd.heap.size < W1.heap.size by omega), cell_of_row _ _ _ _ _ _ hS]; rfl
  have s6 : ∀ w', Below W1.heap.size W1 w' → w'.cell? ⟨wd.heap.size, 6, none⟩ = some (.int .i64 x6) := fun w' h => by rw [h.cell (p := ⟨wd.heap.size, 6, none⟩) (show wd.heap.size < W1.heap.size by omega), cell_of_row _ _ _ _ _ _ hS]; rfl
  have s7 : ∀ w', Below W1.heap.size W1 w' → w'.cell? ⟨wd.heap.size, 7, none⟩ = some (.int .i64 x7) := fun w' h => by rw [h.cell (p := ⟨wd.heap.size, 7, none⟩) (show wd.heap.size < W1.heap.size by omega), cell_of_row _ _ _ _ _ _ hS]; rfl
  have s8 : ∀ w', Below W1.heap.size W1 w' → w'.cell? ⟨wd.heap.size, 8, none⟩ = some (.slice pp r1.mem.length cc) := fun w' h => by rw [h.cell (p := ⟨wd.heap.size, 8, none⟩) (show wd.heap.size < W1.heap.size by omega), cell_of_row _ _ _ _ _ _ hS]; rfl
  have s9 : ∀ w', Below W1.heap.size W1 w' → w'.cell? ⟨wd.heap.size, 9, none⟩ = some (.int .i64 r1.next) := fun w' h => by rw [h.cell (p := ⟨wd.heap.size, 9, none⟩) (show wd.heap.size < W1.heap.size by omega), cell_of_row _ _ _ _ _ _ hS]; rfl
  have s10 : ∀ w', Below W1.heap.size W1 w' → w'.cell? ⟨wd.heap.size, 10, none⟩ = some (.int .i64 r1.stop) := fun w' h => by rw [h.cell (p := ⟨wd.heap.size, 10, none⟩) (show wd.heap.size < W1.heap.size by omega), cell_of_row _ _ _ _ _ _ hS]; rfl
  have s11 : ∀ w', Below W1.heap.size W1 w' → w'.cell? ⟨wd.heap.size, 11, none⟩ = some (.int .i64 r1.trap) := fun w' h => by rw [h.cell (p := ⟨wd.heap.size, 11, none⟩) (show wd.heap.size < W1.heap.size by omega), cell_of_row _ _ _ _ _ _ hS]; rfl
  have s12 : ∀ w', Below W1.heap.size W1 w' → w'.cell? ⟨wd.heap.size, 12, none⟩ = some (.int .i64 r1.steps) := fun w' h => by rw [h.cell (p := ⟨wd.heap.size, 12, none⟩) (show wd.heap.size < W1.heap.size by omega), cell_of_row _ _ _ _ _ _ hS]; rfl
  have HAL : Hid (∀ W a0 a1 a2 a3 a4 a5 a6 a7 pq cq, Below W1.heap.size W1 W → Rd W pq r2.mem → Calls Try.prog 15 #[.agg #[.int .i64 x0, .int .i64 x1, .int .i64 x2, .int .i64 x3, .int .i64 x4, .int .i64 x5, .int .i64 x6, .int .i64 x7, .slice pp r1.mem.length cc, .int .i64 r1.next, .int .i64 r1.stop, .int .i64 r1.trap, .int .i64 r1.steps], .agg #[.int .i64 a0, .int .i64 a1, .int .i64 a2, .int .i64 a3, .int .i64 a4, .int .i64 a5, .int .i64 a6, .int .i64 a7, .slice pq r2.mem.length cq, .int .i64 r2.next, .int .i64 r2.stop, .int .i64 r2.trap, .int .i64 r2.steps]] W fun e w' => ∃ q : Bool, e = .returned (.bool q) ∧ ((r1.mem = r2.mem ∧ [x0, x1, x2, x3, x4, x5, x6, x7] = [a0, a1, a2, a3, a4, a5, a6, a7] ∧ (r1.next : Int) = r2.next ∧ r1.stop = r2.stop ∧ r1.trap = r2.trap) → q = true) ∧ Below W.heap.size W w') := fun W a0 a1 a2 a3 a4 a5 a6 a7 pq cq h h' =>
    alike_any x0 x1 x2 x3 x4 x5 x6 x7 r1.next r1.stop r1.trap r1.steps a0 a1 a2 a3 a4 a5 a6 a7 r2.next r2.stop r2.trap r2.steps pp pq cc cq r1.mem r2.mem W (HRD1.out W h) h' (by have := HL1.out; omega) (by have := HL2.out; omega)
  have HX := hide hx
  have hls' : wd.heap.size < W1.heap.size := by omega
  have hls2 : w.heap.size + 1 < W1.heap.size := Nat.lt_of_lt_of_le hls1 hB1.size
  have hrW : Below W1.heap.size W1 W1 := Below.refl _ _
  have HB1 := hide hB1
  have jj : ∀ w', Below W1.heap.size W1 w' → Below wb.heap.size wb w' := fun w' h => bCall HB1.out h
  have HJJ := hide jj
  have i0 : ∀ w', Below W1.heap.size W1 w' → w'.cell? ⟨w.heap.size + 1, 0, none⟩ = some (.int .i64 u0') := fun w' h => j0' w' (jj w' h)
  have i1 : ∀ w', Below W1.heap.size W1 w' → w'.cell? ⟨w.heap.size + 1, 1, none⟩ = some (.int .i64 u1') := fun w' h => j1' w' (jj w' h)
  have i2 : ∀ w', Below W1.heap.size W1 w' → w'.cell? ⟨w.heap.size + 1, 2, none⟩ = some (.int .i64 u2') := fun w' h => j2' w' (jj w' h)
  have i3 : ∀ w', Below W1.heap.size W1 w' → w'.cell? ⟨w.heap.size + 1, 3, none⟩ = some (.int .i64 u3') := fun w' h => j3' w' (jj w' h)
  have i4 : ∀ w', Below W1.heap.size W1 w' → w'.cell? ⟨w.heap.size + 1, 4, none⟩ = some (.int .i64 l0') := fun w' h => j4' w' (jj w' h)
  have i5 : ∀ w', Below W1.heap.size W1 w' → w'.cell? ⟨w.heap.size + 1, 5, none⟩ = some (.int .i64 l1') := fun w' h => j5' w' (jj w' h)
  have i6 : ∀ w', Below W1.heap.size W1 w' → w'.cell? ⟨w.heap.size + 1, 6, none⟩ = some (.int .i64 l2') := fun w' h => j6' w' (jj w' h)
  have i7 : ∀ w', Below W1.heap.size W1 w' → w'.cell? ⟨w.heap.size + 1, 7, none⟩ = some (.int .i64 l3') := fun w' h => j7' w' (jj w' h)
  have i8 : ∀ w', Below W1.heap.size W1 w' → w'.cell? ⟨w.heap.size + 1, 8, none⟩ = some (.int .i64 b') := fun w' h => j8' w' (jj w' h)
  clear jj hx hrd1 hbd hbc hBc hBd hB1 hW1 hS hz1 hrb HX1 HC1 k0' j0' k1' j1' k2' j2' k3' j3' k4' j4' k5' j5' k6' j6' k7' j7' k8' j8'
  go_upto_region 9 with (first | (go_at_call 10; refine (HC2.out _).mono ?_; rintro e wc ⟨rfl, hbc⟩; have hBc : Below W1.heap.size W1 wc := (bCall (by (repeat (first | with_reducible assumption | with_reducible exact Below.refl _ _ | with_reducible refine bAl ?_ _))) hbc)) | (go_at_call 13; refine (HX2.out _ (HJJ.out _ (by (repeat (first | with_reducible assumption | with_reducible exact Below.refl _ _ | with_reducible refine bAl ?_ _))))).mono ?_; rintro e we ⟨a0, a1, a2, a3, a4, a5, a6, a7, pq, cq, pu, cu, rfl, ha, hbe, hrd2, _⟩; have hBe : Below W1.heap.size W1 we := (bCall (by (repeat (first | with_reducible assumption | with_reducible exact Below.refl _ _ | with_reducible refine bAl ?_ _))) hbe); have hle : wd.heap.size < we.heap.size := (Nat.lt_of_lt_of_le hls' hBe.size); have HA := hide ha; clear ha) | (go_at_call 15; refine (HAL.out _ _ _ _ _ _ _ _ _ _ _ (by (repeat (first | with_reducible assumption | with_reducible exact Below.refl _ _ | with_reducible refine bAl ?_ _))) (hrd2.below (Nat.le_refl _) (bAl (Below.refl _ _) _))).mono ?_; rintro e wf ⟨q, rfl, hq, hbf⟩; have HQ := hide hq; clear hq; have hBf : Below W1.heap.size W1 wf := (bCall (by (repeat (first | with_reducible assumption | with_reducible exact Below.refl _ _ | with_reducible refine bAl ?_ _))) hbf); have hlf : wd.heap.size < wf.heap.size := (Nat.lt_of_lt_of_le hls' hBf.size); obtain ⟨hcf, hff⟩ := bcell hbf; have hlg : we.heap.size < wf.heap.size := (by have := hbf.size; simp at this; omega)))
  cases q with
  | true =>
    go_wp2
    go_ret
    exact ⟨rfl, bCall HW.out (HJJ.out _ hBf)⟩
  | false =>
    have hst : r1.stop = 2 ∨ r2.stop = 2 := by
      rcases HAN.out with ⟨e1, e2, e3, e4, e5⟩ | h
      · have := HQ.out ⟨e2, by rw [← HX.out, ← HA.out]; exact e1, by rw [e3], e4, e5⟩
        cases this
      · exact h
    by_cases h1 : r1.stop = 2
    · have h1b : (r1.stop == 2) = true := by simp [h1]
      clear hst h1
      go_wp2
      go_ret
      exact ⟨rfl, bCall HW.out (HJJ.out _ hBf)⟩
    · have h1b : (r1.stop == 2) = false := by simp [h1]
      have h2b : (r2.stop == 2) = true := by
        rcases hst with h | h
        · exact absurd h h1
        · simp [h]
      clear hst h1
      go_wp2
      go_ret
      exact ⟨rfl, bCall HW.out (HJJ.out _ hBf)⟩

end Go.Proofs.Ytmeiogoodbnkkaa

/- boardkeep.Onward. -/
namespace Go.Proofs.Ytmeiogoodbnkkaa
open Go.RowKit

/-- What boardkeep.longer answers where what stood stands. -/
def LongerSays : Prop := ∀ (pa pb : Option Addr) (ca cb B1 B2 : Nat) (ga gb : List Tk) (n : Nat) (w : World), TmR w B1 pa ga → TmR w B2 pb gb → Gr n ga gb → ga.length ≤ 100000 → gb.length ≤ 100000 → n ≤ 100000 →
    Calls Try.prog 17 #[.slice pa ga.length ca, .slice pb gb.length cb, .int .i64 n] w fun e w' => e = .returned (.bool true) ∧ Below w.heap.size w w'

set_option maxRecDepth 100000 in
set_option maxHeartbeats 8000000 in
theorem onward_core (HLO : LongerSays) (u0 u1 u2 u3 l0 l1 l2 l3 b : Int) (hu : In64 u0 ∧ In64 u1 ∧ In64 u2 ∧ In64 u3 ∧ In64 l0 ∧ In64 l1 ∧ In64 l2 ∧ In64 l3 ∧ In64 b)
    (p pm : Option Addr) (c cm : Nat) (raw : List Ord) (mem : List Int) (few more : Int) (hfew : In64 few) (hmore : In64 more) (w : World) (hp : RdO w p raw) (hin : ∀ j, j < raw.length → In64O (raw.getD j Ord.none)) (hlen : (raw.length : Int) ≤ 1000000000000000) (hm : Rd w pm mem) (hlm : (mem.length : Int) ≤ 1000000000000000) (hcm : mem.length ≤ cm) :
    Calls Try.prog 5 #[.agg #[.int .i64 u0, .int .i64 u1, .int .i64 u2, .int .i64 u3, .int .i64 l0, .int .i64 l1, .int .i64 l2, .int .i64 l3, .int .i64 b], .slice p raw.length c, .slice pm mem.length cm, .int .i64 few, .int .i64 more] w fun e w' => e = .returned (.bool true) ∧ Below w.heap.size w w' := by
  have HLO' := hide HLO
  clear HLO
  obtain ⟨n, hn⟩ : ∃ n : Nat, 1 + pk few 400 = n := ⟨(1 + pk few 400).toNat, by have := pk_in (c := few) (n := 400) (by omega); omega⟩
  have hn1 : 1 ≤ n ∧ n ≤ 400 := by have := pk_in (c := few) (n := 400) (by omega); omega
  obtain ⟨m, hm'⟩ : ∃ m : Nat, (n : Int) + pk more (401 - n) = m := ⟨((n : Int) + pk more (401 - n)).toNat, by have := pk_in (c := more) (n := 401 - (n : Int)) (by omega); omega⟩
  have hm1 : n ≤ m ∧ m ≤ 400 := by have := pk_in (c := more) (n := 401 - (n : Int)) (by omega); omega
  have HPK1 : Hid (∀ W, Calls Try.prog 16 #[.int .i64 few, .int .i64 400] W fun e w' => e = .returned (.int .i64 (n - 1)) ∧ w' = W) := fun W => (pick_any few 400 hfew (by omega) (by omega) W).mono fun e w' h => ⟨by rw [h.1]; congr 2; omega, h.2⟩
  have HPK2 : Hid (∀ W, Calls Try.prog 16 #[.int .i64 more, .int .i64 (401 - n)] W fun e w' => e = .returned (.int .i64 (m - n)) ∧ w' = W) := fun W => (pick_any more (401 - n) hmore (by omega) (by omega) W).mono fun e w' h => ⟨by rw [h.1]; congr 2; omega, h.2⟩
  clear hn hm' hfew hmore
  have HP := hide hp
  have HIN := hide hin
  have HM := hide hm
  have HLEN := hide hlen
  have HLM := hide hlm
  have HCM := hide hcm
  have HC1 := hide (fun W => config_any u0 u1 u2 u3 l0 l1 l2 l3 b hu.1 hu.2.1 hu.2.2.1 hu.2.2.2.1 hu.2.2.2.2.1 hu.2.2.2.2.2.1 hu.2.2.2.2.2.2.1 hu.2.2.2.2.2.2.2.1 hu.2.2.2.2.2.2.2.2 W)
  have hG1 := cfg_ok u0 u1 u2 l0 l1 l2 l3 b
  have hF1 := cfg_fit u0 u1 u2 l0 l1 l2 l3 b
  clear hp hin hm hlen hlm hcm hu
  generalize 1 + pk u0 3 = y0 at *
  generalize 1 + pk u1 3 = y1 at *
  generalize 1 + pk u2 3 = y2 at *
  generalize 1 + pk l0 12 = y4 at *
  generalize 1 + pk l1 12 = y5 at *
  generalize 1 + pk l2 12 = y6 at *
  generalize 1 + pk l3 12 = y7 at *
  generalize 1 + pk b 3 = y8 at *
  have HG1 := hide hG1
  have HF1 := hide hF1
  clear hG1 hF1
  obtain ⟨mt, hmt⟩ : ∃ mt, mt = mem.take 16 := ⟨_, rfl⟩
  have hmt16 : mt.length ≤ 16 := by rw [hmt]; simp; omega
  have HMT := hide hmt
  have HMT16 := hide hmt16
  clear hmt hmt16
  obtain ⟨W0, hW0⟩ : ∃ W0, w.alloc (.cells #[.int .i64 u0, .int .i64 u1, .int .i64 u2, .int .i64 u3, .int .i64 l0, .int .i64 l1, .int .i64 l2, .int .i64 l3, .int .i64 b] 24) = W0 := ⟨_, rfl⟩
  have hb0 : Below w.heap.size w W0 := by rw [← hW0]; exact bAl (Below.refl _ _) _
  have hz0 : W0.heap.size = w.heap.size + 1 := by rw [← hW0]; simp
  have hr1 := cfg_rules (show W0.heap[w.heap.size]? = _ by rw [← hW0]; exact hNew rfl)
  have HB0 := hide hb0
  have HR1 := hide hr1
  have k0 : ∀ w', Below W0.heap.size W0 w' → w'.cell? ⟨w.heap.size, 0, none⟩ = some (.int .i64 u0) := fun w' h => by rw [cell_of_row _ _ _ _ _ _ (HR1.out w' h)]; rfl
  have k1 : ∀ w', Below W0.heap.size W0 w' → w'.cell? ⟨w.heap.size, 1, none⟩ = some (.int .i64 u1) := fun w' h => by rw [cell_of_row _ _ _ _ _ _ (HR1.out w' h)]; rfl
  have k2 : ∀ w', Below W0.heap.size W0 w' → w'.cell? ⟨w.heap.size, 2, none⟩ = some (.int .i64 u2) := fun w' h => by rw [cell_of_row _ _ _ _ _ _ (HR1.out w' h)]; rfl
  have k3 : ∀ w', Below W0.heap.size W0 w' → w'.cell? ⟨w.heap.size, 3, none⟩ = some (.int .i64 u3) := fun w' h => by rw [cell_of_row _ _ _ _ _ _ (HR1.out w' h)]; rfl
  have k4 : ∀ w', Below W0.heap.size W0 w' → w'.cell? ⟨w.heap.size, 4, none⟩ = some (.int .i64 l0) := fun w' h => by rw [cell_of_row _ _ _ _ _ _ (HR1.out w' h)]; rfl
  have k5 : ∀ w', Below W0.heap.size W0 w' → w'.cell? ⟨w.heap.size, 5, none⟩ = some (.int .i64 l1) := fun w' h => by rw [cell_of_row _ _ _ _ _ _ (HR1.out w' h)]; rfl
  have k6 : ∀ w', Below W0.heap.size W0 w' → w'.cell? ⟨w.heap.size, 6, none⟩ = some (.int .i64 l2) := fun w' h => by rw [cell_of_row _ _ _ _ _ _ (HR1.out w' h)]; rfl
  have k7 : ∀ w', Below W0.heap.size W0 w' → w'.cell? ⟨w.heap.size, 7, none⟩ = some (.int .i64 l3) := fun w' h => by rw [cell_of_row _ _ _ _ _ _ (HR1.out w' h)]; rfl
  have k8 : ∀ w', Below W0.heap.size W0 w' → w'.cell? ⟨w.heap.size, 8, none⟩ = some (.int .i64 b) := fun w' h => by rw [cell_of_row _ _ _ _ _ _ (HR1.out w' h)]; rfl
  have HPR : Hid (∀ W, Below w.heap.size w W → Calls Try.prog 11 #[.slice p raw.length c] W fun e w' => ∃ g n cap prog, e = .returned (.slice (some ⟨g, 0, none⟩) n cap) ∧ prog.length = n ∧ isProg prog = true ∧ RdO w' (some ⟨g, 0, none⟩) prog ∧ W.heap.size ≤ g ∧ Below W.heap.size W w') := fun W h => program_any p c raw W (HP.out.below (Nat.le_refl _) h) HIN.out HLEN.out
  have HME : Hid (∀ W, Calls Try.prog 12 #[.slice pm mem.length cm] W fun e w' => e = .returned (.slice pm mt.length cm) ∧ w' = W) := fun W => memory_any pm cm mem W HLM.out HCM.out mt HMT.out
  have HZ0 := hide hz0
  clear hb0 hr1 hz0
  go_enter Try.func5, Try.ntmps5
  go_upto_region 1 with fail
  clear hW0
  have hrb : Below W0.heap.size W0 W0 := Below.refl _ _
  go_upto_region 4 with (first | (go_at_call 9; refine (ran_any _).mono ?_; rintro e wa ⟨rfl, hba⟩; have hBa : Below W0.heap.size W0 wa := hba) | (go_at_call 10; refine (HC1.out _).mono ?_; rintro e wc ⟨rfl, hbc⟩; have hBc : Below W0.heap.size W0 wc := (bCall (by (repeat (first | with_reducible assumption | with_reducible exact Below.refl _ _ | with_reducible refine bAl ?_ _))) hbc)) | (go_at_call 11; refine (HPR.out _ (bCall HB0.out (by (repeat (first | with_reducible assumption | with_reducible exact Below.refl _ _ | with_reducible refine bAl ?_ _))))).mono ?_; rintro e wb ⟨g, n, cap, prog, rfl, hpl, hprog, hrd, hgg, hbb⟩))
  subst hpl
  have hcz : (wc.alloc (.cells #[.int .i64 y0, .int .i64 y1, .int .i64 y2, .int .i64 1, .int .i64 y4, .int .i64 y5, .int .i64 y6, .int .i64 y7, .int .i64 y8] 24)).heap[wc.heap.size]? = some (.cells #[.int .i64 y0, .int .i64 y1, .int .i64 y2, .int .i64 1, .int .i64 y4, .int .i64 y5, .int .i64 y6, .int .i64 y7, .int .i64 y8] 24 (0, 0)) := heap_alloc_new _ _
  have hBb : Below W0.heap.size W0 wb := bCall (bAl hBc _) hbb
  have HBb := hide hBb
  have hC : wb.heap[wc.heap.size]? = some (.cells #[.int .i64 y0, .int .i64 y1, .int .i64 y2, .int .i64 1, .int .i64 y4, .int .i64 y5, .int .i64 y6, .int .i64 y7, .int .i64 y8] 24 (0, 0)) := by rw [hbb.block _ (by simp)]; exact hcz
  have hlC : wc.heap.size < wb.heap.size := (Array.getElem?_eq_some_iff.1 hC).1
  generalize wc.heap.size = C at *
  have HRM : Hid (∀ W, Below wb.heap.size wb W → Rd W pm mt) := fun W h => by rw [HMT.out]; exact (HM.out.below (Nat.le_refl _) (bCall HB0.out (bCall HBb.out h))).cut 16
  have HRP : Hid (∀ W, Below wb.heap.size wb W → RdO W (some ⟨g, 0, none⟩) prog) := fun W h => hrd.below (Nat.le_refl _) h
  have q0 : ∀ w', Below wb.heap.size wb w' → w'.cell? ⟨C, 0, none⟩ = some (.int .i64 y0) := fun w' h => by rw [h.cell (p := ⟨C, 0, none⟩) hlC, cell_of_row _ _ _ _ _ _ hC]; rfl
  have q1 : ∀ w', Below wb.heap.size wb w' → w'.cell? ⟨C, 1, none⟩ = some (.int .i64 y1) := fun w' h => by rw [h.cell (p := ⟨C, 1, none⟩) hlC, cell_of_row _ _ _ _ _ _ hC]; rfl
  have q2 : ∀ w', Below wb.heap.size wb w' → w'.cell? ⟨C, 2, none⟩ = some (.int .i64 y2) := fun w' h => by rw [h.cell (p := ⟨C, 2, none⟩) hlC, cell_of_row _ _ _ _ _ _ hC]; rfl
  have q3 : ∀ w', Below wb.heap.size wb w' → w'.cell? ⟨C, 3, none⟩ = some (.int .i64 1) := fun w' h => by rw [h.cell (p := ⟨C, 3, none⟩) hlC, cell_of_row _ _ _ _ _ _ hC]; rfl
  have q4 : ∀ w', Below wb.heap.size wb w' → w'.cell? ⟨C, 4, none⟩ = some (.int .i64 y4) := fun w' h => by rw [h.cell (p := ⟨C, 4, none⟩) hlC, cell_of_row _ _ _ _ _ _ hC]; rfl
  have q5 : ∀ w', Below wb.heap.size wb w' → w'.cell? ⟨C, 5, none⟩ = some (.int .i64 y5) := fun w' h => by rw [h.cell (p := ⟨C, 5, none⟩) hlC, cell_of_row _ _ _ _ _ _ hC]; rfl
  have q6 : ∀ w', Below wb.heap.size wb w' → w'.cell? ⟨C, 6, none⟩ = some (.int .i64 y6) := fun w' h => by rw [h.cell (p := ⟨C, 6, none⟩) hlC, cell_of_row _ _ _ _ _ _ hC]; rfl
  have q7 : ∀ w', Below wb.heap.size wb w' → w'.cell? ⟨C, 7, none⟩ = some (.int .i64 y7) := fun w' h => by rw [h.cell (p := ⟨C, 7, none⟩) hlC, cell_of_row _ _ _ _ _ _ hC]; rfl
  have q8 : ∀ w', Below wb.heap.size wb w' → w'.cell? ⟨C, 8, none⟩ = some (.int .i64 y8) := fun w' h => by rw [h.cell (p := ⟨C, 8, none⟩) hlC, cell_of_row _ _ _ _ _ _ hC]; rfl
  have hW : Below w.heap.size w wb := bCall HB0.out hBb
  have HW := hide hW
  have HPG := hide hprog
  clear hBb hW hcz hC hbb hBc hbc hBa hba hrd hgg hrb hprog HC1 HPR HM HP HIN HLEN HLM HMT HCM k0 k1 k2 k3 k4 k5 k6 k7 k8
  have hrb : Below wb.heap.size wb wb := Below.refl _ _
  obtain ⟨r, hr⟩ : ∃ r, r = runM [y0, y1, y2, 1] [y4, y5, y6, y7] y8 prog mt n := ⟨_, rfl⟩
  obtain ⟨r', hr'⟩ : ∃ r, r = runM [y0, y1, y2, 1] [y4, y5, y6, y7] y8 prog mt m := ⟨_, rfl⟩
  obtain ⟨s, st, tr, hs⟩ : ∃ s st tr, (s, st, tr) = plainSt prog mt n := ⟨_, _, _, rfl⟩
  obtain ⟨s', st', tr', hs'⟩ : ∃ s st tr, (s, st, tr) = plainSt prog mt m := ⟨_, _, _, rfl⟩
  have HX1 : Hid (∀ W, Below wb.heap.size wb W → Calls Try.prog 13 #[.agg #[.int .i64 y0, .int .i64 y1, .int .i64 y2, .int .i64 1, .int .i64 y4, .int .i64 y5, .int .i64 y6, .int .i64 y7, .int .i64 y8], .slice (some ⟨g, 0, none⟩) prog.length cap, .slice pm mt.length cm, .int .i64 n] W fun e w' => ∃ x0 x1 x2 x3 x4 x5 x6 x7 pp cc pt ct, e = .returned (.tuple #[.agg #[.int .i64 x0, .int .i64 x1, .int .i64 x2, .int .i64 x3, .int .i64 x4, .int .i64 x5, .int .i64 x6, .int .i64 x7, .slice pp r.mem.length cc, .int .i64 r.next, .int .i64 r.stop, .int .i64 r.trap, .int .i64 r.steps], .slice pt r.given.length ct, .int .i64 0]) ∧ r.regs = [x0, x1, x2, x3, x4, x5, x6, x7] ∧ Below W.heap.size W w' ∧ Rd w' pp r.mem ∧ TmR w' W.heap.size pt r.given) := fun W h =>
    run_good y0 y1 y2 1 y4 y5 y6 y7 y8 _ pm cap cm prog mt n W (HRP.out W h) (HRM.out W h) HPG.out HMT16.out hn1.1 hn1.2 HF1.out r hr
  have HX1' : Hid (∀ W, Below wb.heap.size wb W → Calls Try.prog 13 #[.agg #[.int .i64 y0, .int .i64 y1, .int .i64 y2, .int .i64 1, .int .i64 y4, .int .i64 y5, .int .i64 y6, .int .i64 y7, .int .i64 y8], .slice (some ⟨g, 0, none⟩) prog.length cap, .slice pm mt.length cm, .int .i64 m] W fun e w' => ∃ x0 x1 x2 x3 x4 x5 x6 x7 pp cc pt ct, e = .returned (.tuple #[.agg #[.int .i64 x0, .int .i64 x1, .int .i64 x2, .int .i64 x3, .int .i64 x4, .int .i64 x5, .int .i64 x6, .int .i64 x7, .slice pp r'.mem.length cc, .int .i64 r'.next, .int .i64 r'.stop, .int .i64 r'.trap, .int .i64 r'.steps], .slice pt r'.given.length ct, .int .i64 0]) ∧ r'.regs = [x0, x1, x2, x3, x4, x5, x6, x7] ∧ Below W.heap.size W w' ∧ Rd w' pp r'.mem ∧ TmR w' W.heap.size pt r'.given) := fun W h =>
    run_good y0 y1 y2 1 y4 y5 y6 y7 y8 _ pm cap cm prog mt m W (HRP.out W h) (HRM.out W h) HPG.out HMT16.out (by omega) hm1.2 HF1.out r' hr'
  have HX2 : Hid (∀ W, Below wb.heap.size wb W → Calls Try.prog 14 #[.slice (some ⟨g, 0, none⟩) prog.length cap, .slice pm mt.length cm, .int .i64 n] W fun e w' => ∃ x0 x1 x2 x3 x4 x5 x6 x7 pp cc, e = .returned (.tuple #[.agg #[.int .i64 x0, .int .i64 x1, .int .i64 x2, .int .i64 x3, .int .i64 x4, .int .i64 x5, .int .i64 x6, .int .i64 x7, .slice pp s.mem.length cc, .int .i64 s.next, .int .i64 st, .int .i64 tr, .int .i64 s.steps], .int .i64 0]) ∧ s.regs = [x0, x1, x2, x3, x4, x5, x6, x7] ∧ Below W.heap.size W w' ∧ Rd w' pp s.mem) := fun W h =>
    plain_good _ pm cap cm prog mt n W (HRP.out W h) (HRM.out W h) HPG.out HMT16.out hn1.1 hn1.2 s st tr hs
  have HX2' : Hid (∀ W, Below wb.heap.size wb W → Calls Try.prog 14 #[.slice (some ⟨g, 0, none⟩) prog.length cap, .slice pm mt.length cm, .int .i64 m] W fun e w' => ∃ x0 x1 x2 x3 x4 x5 x6 x7 pp cc, e = .returned (.tuple #[.agg #[.int .i64 x0, .int .i64 x1, .int .i64 x2, .int .i64 x3, .int .i64 x4, .int .i64 x5, .int .i64 x6, .int .i64 x7, .slice pp s'.mem.length cc, .int .i64 s'.next, .int .i64 st', .int .i64 tr', .int .i64 s'.steps], .int .i64 0]) ∧ s'.regs = [x0, x1, x2, x3, x4, x5, x6, x7] ∧ Below W.heap.size W w' ∧ Rd w' pp s'.mem) := fun W h =>
    plain_good _ pm cap cm prog mt m W (HRP.out W h) (HRM.out W h) HPG.out HMT16.out (by omega) hm1.2 s' st' tr' hs'
  have HON := onward_run HG1.out HPG.out mt n m hn1.1 hm1.1
  rw [← hr, ← hr'] at HON
  have HOP := onward_plain prog mt n m hm1.1
  rw [← hs, ← hs'] at HOP
  have HON := hide HON
  have HOP := hide HOP
  have L1 : r.mem.length ≤ 16 := by rw [hr, run_mem_len HG1.out HPG.out mt n (by omega)]; exact HMT16.out
  have L1' : r'.mem.length ≤ 16 := by rw [hr', run_mem_len HG1.out HPG.out mt m (by omega)]; exact HMT16.out
  have L2 : s.mem.length ≤ 16 := by have e : s = (plainSt prog mt n).1 := (by rw [← hs]); rw [e, plain_mem_len]; exact HMT16.out
  have L2' : s'.mem.length ≤ 16 := by have e : s' = (plainSt prog mt m).1 := (by rw [← hs']); rw [e, plain_mem_len]; exact HMT16.out
  have G1 : r.given.length ≤ 400 := by
    obtain ⟨a, _, _, ha, _, _, hgv, _, _, hle, _⟩ := run_out HG1.out HPG.out mt n hn1.1
    rw [hr, hgv]; omega
  have G1' : r'.given.length ≤ 400 := by
    obtain ⟨a, _, _, ha, _, _, hgv, _, _, hle, _⟩ := run_out HG1.out HPG.out mt m (by omega)
    rw [hr', hgv]; omega
  have HL1 := hide L1
  have HL1' := hide L1'
  have HL2 := hide L2
  have HL2' := hide L2'
  have HGL := hide G1
  have HGL' := hide G1'
  have HN1 := hide hn1
  have HM1 := hide hm1
  clear hr hr' hs hs' L1 L1' L2 L2' G1 G1' HRP HRM HF1 HG1 HPG
  have hn1a : (1 : Int) ≤ n := by omega
  have hn1b : (n : Int) ≤ 400 := by omega
  have hm1a : (n : Int) ≤ m := by omega
  have hm1b : (m : Int) ≤ 400 := by omega
  have ee1 : (1 : Int) + ((n : Int) - 1) = n := by omega
  have ee2 : (n : Int) + ((m : Int) - n) = m := by omega
  clear hn1 hm1
  go_upto_region 8 with (first | (go_at_call 12; refine (HME.out _).mono ?_; rintro e W' ⟨rfl, hW'⟩; have hW'' := hW'.symm; clear hW'; subst hW'') | (go_at_call 16; first | (with_reducible refine (HPK1.out _).mono ?_; rintro e W' ⟨rfl, hW'⟩; have hW'' := hW'.symm; clear hW'; subst hW'') | (with_reducible refine (HPK2.out _).mono ?_; rintro e W' ⟨rfl, hW'⟩; have hW'' := hW'.symm; clear hW'; subst hW'')) | (go_at_call 13; refine (HX1.out _ (by (repeat (first | with_reducible assumption | with_reducible exact Below.refl _ _ | with_reducible refine bAl ?_ _)))).mono ?_; rintro e wd ⟨x0, x1, x2, x3, x4, x5, x6, x7, pp, cc, pt, ct, rfl, hx, hbd, hrd1, htm1⟩; have hBwd : Below wb.heap.size wb wd := (bCall (by (repeat (first | with_reducible assumption | with_reducible exact Below.refl _ _ | with_reducible refine bAl ?_ _))) hbd)))
  obtain ⟨W1, hW1⟩ : ∃ W1, wd.alloc (.cells #[.int .i64 x0, .int .i64 x1, .int .i64 x2, .int .i64 x3, .int .i64 x4, .int .i64 x5, .int .i64 x6, .int .i64 x7, .slice pp r.mem.length cc, .int .i64 r.next, .int .i64 r.stop, .int .i64 r.trap, .int .i64 r.steps] 33) = W1 := ⟨_, rfl⟩
  have hBW1 : Below wb.heap.size wb W1 := by rw [← hW1]; exact bAl hBwd _
  have hzW1 : W1.heap.size = wd.heap.size + 1 := by rw [← hW1]; simp
  have hSW1 : W1.heap[wd.heap.size]? = some (.cells #[.int .i64 x0, .int .i64 x1, .int .i64 x2, .int .i64 x3, .int .i64 x4, .int .i64 x5, .int .i64 x6, .int .i64 x7, .slice pp r.mem.length cc, .int .i64 r.next, .int .i64 r.stop, .int .i64 r.trap, .int .i64 r.steps] 33 (0, 0)) := by rw [← hW1]; exact heap_alloc_new _ _
  have HUW1 : Hid (Below wd.heap.size wd W1) := by rw [← hW1]; exact bAl (Below.refl _ _) _
  rw [hW1]
  clear hW1
  generalize hgW1 : wd.heap.size = S1 at *
  have HSW1 : Hid (∀ w', Below W1.heap.size W1 w' → w'.heap[S1]? = some (.cells #[.int .i64 x0, .int .i64 x1, .int .i64 x2, .int .i64 x3, .int .i64 x4, .int .i64 x5, .int .i64 x6, .int .i64 x7, .slice pp r.mem.length cc, .int .i64 r.next, .int .i64 r.stop, .int .i64 r.trap, .int .i64 r.steps] 33 (0, 0))) := fun w' h => by rw [h.block _ (by omega)]; exact hSW1
  have hlW1 : S1 < W1.heap.size := by omega
  have HBW1 := hide hBW1
  have hrW1 : Below W1.heap.size W1 W1 := Below.refl _ _
  have HGW1 := hide hgW1
  clear hBW1 hzW1 hSW1 hgW1
  have HRD1 : Hid (∀ W, Below W1.heap.size W1 W → Rd W pp r.mem) := fun W h => hrd1.below (by rw [HGW1.out]; exact Nat.le_refl _) (HUW1.out.trans (h.mono (by omega)))
  have HTM1 : Hid (∀ W, Below W1.heap.size W1 W → TmR W wb.heap.size pt r.given) := fun W h => htm1.below (bCall (by rw [HGW1.out]; exact HUW1.out) h)
  have HJ1 : Hid (∀ w', Below W1.heap.size W1 w' → Below wb.heap.size wb w') := fun w' h => bCall HBW1.out h
  have q0' : ∀ w', Below W1.heap.size W1 w' → w'.cell? ⟨C, 0, none⟩ = some (.int .i64 y0) := fun w' h => q0 w' (HJ1.out w' h)
  have q1' : ∀ w', Below W1.heap.size W1 w' → w'.cell? ⟨C, 1, none⟩ = some (.int .i64 y1) := fun w' h => q1 w' (HJ1.out w' h)
  have q2' : ∀ w', Below W1.heap.size W1 w' → w'.cell? ⟨C, 2, none⟩ = some (.int .i64 y2) := fun w' h => q2 w' (HJ1.out w' h)
  have q3' : ∀ w', Below W1.heap.size W1 w' → w'.cell? ⟨C, 3, none⟩ = some (.int .i64 1) := fun w' h => q3 w' (HJ1.out w' h)
  have q4' : ∀ w', Below W1.heap.size W1 w' → w'.cell? ⟨C, 4, none⟩ = some (.int .i64 y4) := fun w' h => q4 w' (HJ1.out w' h)
  have q5' : ∀ w', Below W1.heap.size W1 w' → w'.cell? ⟨C, 5, none⟩ = some (.int .i64 y5) := fun w' h => q5 w' (HJ1.out w' h)
  have q6' : ∀ w', Below W1.heap.size W1 w' → w'.cell? ⟨C, 6, none⟩ = some (.int .i64 y6) := fun w' h => q6 w' (HJ1.out w' h)
  have q7' : ∀ w', Below W1.heap.size W1 w' → w'.cell? ⟨C, 7, none⟩ = some (.int .i64 y7) := fun w' h => q7 w' (HJ1.out w' h)
  have q8' : ∀ w', Below W1.heap.size W1 w' → w'.cell? ⟨C, 8, none⟩ = some (.int .i64 y8) := fun w' h => q8 w' (HJ1.out w' h)
  have HXX := hide hx
  have hlC1 : C < W1.heap.size := Nat.lt_of_lt_of_le hlC HBW1.out.size
  clear hbd hBwd hrd1 htm1 q0 q1 q2 q3 q4 q5 q6 q7 q8 hrb HX1 hx
  go_upto_region 9 with (first | (go_at_call 13; refine (HX1'.out _ (HJ1.out _ (by (repeat (first | with_reducible assumption | with_reducible exact Below.refl _ _ | with_reducible refine bAl ?_ _))))).mono ?_; rintro e we ⟨a0, a1, a2, a3, a4, a5, a6, a7, pq, cq, pu, cu, rfl, ha, hbe, hrd2, htm2⟩; have hBwe : Below W1.heap.size W1 we := (bCall (by (repeat (first | with_reducible assumption | with_reducible exact Below.refl _ _ | with_reducible refine bAl ?_ _))) hbe)))
  obtain ⟨W2, hW2⟩ : ∃ W2, we.alloc (.cells #[.int .i64 a0, .int .i64 a1, .int .i64 a2, .int .i64 a3, .int .i64 a4, .int .i64 a5, .int .i64 a6, .int .i64 a7, .slice pq r'.mem.length cq, .int .i64 r'.next, .int .i64 r'.stop, .int .i64 r'.trap, .int .i64 r'.steps] 33) = W2 := ⟨_, rfl⟩
  have hBW2 : Below W1.heap.size W1 W2 := by rw [← hW2]; exact bAl hBwe _
  have hzW2 : W2.heap.size = we.heap.size + 1 := by rw [← hW2]; simp
  have hSW2 : W2.heap[we.heap.size]? = some (.cells #[.int .i64 a0, .int .i64 a1, .int .i64 a2, .int .i64 a3, .int .i64 a4, .int .i64 a5, .int .i64 a6, .int .i64 a7, .slice pq r'.mem.length cq, .int .i64 r'.next, .int .i64 r'.stop, .int .i64 r'.trap, .int .i64 r'.steps] 33 (0, 0)) := by rw [← hW2]; exact heap_alloc_new _ _
  have HUW2 : Hid (Below we.heap.size we W2) := by rw [← hW2]; exact bAl (Below.refl _ _) _
  rw [hW2]
  clear hW2
  generalize hgW2 : we.heap.size = S2 at *
  have HSW2 : Hid (∀ w', Below W2.heap.size W2 w' → w'.heap[S2]? = some (.cells #[.int .i64 a0, .int .i64 a1, .int .i64 a2, .int .i64 a3, .int .i64 a4, .int .i64 a5, .int .i64 a6, .int .i64 a7, .slice pq r'.mem.length cq, .int .i64 r'.next, .int .i64 r'.stop, .int .i64 r'.trap, .int .i64 r'.steps] 33 (0, 0))) := fun w' h => by rw [h.block _ (by omega)]; exact hSW2
  have hlW2 : S2 < W2.heap.size := by omega
  have HBW2 := hide hBW2
  have hrW2 : Below W2.heap.size W2 W2 := Below.refl _ _
  have HGW2 := hide hgW2
  clear hBW2 hzW2 hSW2 hgW2
  have HRD2 : Hid (∀ W, Below W2.heap.size W2 W → Rd W pq r'.mem) := fun W h => hrd2.below (by rw [HGW2.out]; exact Nat.le_refl _) (HUW2.out.trans (h.mono (by omega)))
  have HTM2 : Hid (∀ W, Below W2.heap.size W2 W → TmR W W1.heap.size pu r'.given) := fun W h => htm2.below (bCall (by rw [HGW2.out]; exact HUW2.out) h)
  have HJ2 : Hid (∀ w', Below W2.heap.size W2 w' → Below W1.heap.size W1 w') := fun w' h => bCall HBW2.out h
  have HAA := hide ha
  clear hbe hBwe hrd2 htm2 hrW1 HX1' ha q0' q1' q2' q3' q4' q5' q6' q7' q8' hlW1 hlC1 hlC
  go_upto_region 10 with (first | (go_at_call 14; refine (HX2.out _ (HJ1.out _ (HJ2.out _ (by (repeat (first | with_reducible assumption | with_reducible exact Below.refl _ _ | with_reducible refine bAl ?_ _)))))).mono ?_; rintro e wf ⟨b0, b1, b2, b3, b4, b5, b6, b7, pv, cv, rfl, hb, hbf, hrd3⟩; have hBwf : Below W2.heap.size W2 wf := (bCall (by (repeat (first | with_reducible assumption | with_reducible exact Below.refl _ _ | with_reducible refine bAl ?_ _))) hbf)))
  obtain ⟨W3, hW3⟩ : ∃ W3, wf.alloc (.cells #[.int .i64 b0, .int .i64 b1, .int .i64 b2, .int .i64 b3, .int .i64 b4, .int .i64 b5, .int .i64 b6, .int .i64 b7, .slice pv s.mem.length cv, .int .i64 s.next, .int .i64 st, .int .i64 tr, .int .i64 s.steps] 33) = W3 := ⟨_, rfl⟩
  have hBW3 : Below W2.heap.size W2 W3 := by rw [← hW3]; exact bAl hBwf _
  have hzW3 : W3.heap.size = wf.heap.size + 1 := by rw [← hW3]; simp
  have hSW3 : W3.heap[wf.heap.size]? = some (.cells #[.int .i64 b0, .int .i64 b1, .int .i64 b2, .int .i64 b3, .int .i64 b4, .int .i64 b5, .int .i64 b6, .int .i64 b7, .slice pv s.mem.length cv, .int .i64 s.next, .int .i64 st, .int .i64 tr, .int .i64 s.steps] 33 (0, 0)) := by rw [← hW3]; exact heap_alloc_new _ _
  have HUW3 : Hid (Below wf.heap.size wf W3) := by rw [← hW3]; exact bAl (Below.refl _ _) _
  rw [hW3]
  clear hW3
  generalize hgW3 : wf.heap.size = S3 at *
  have HSW3 : Hid (∀ w', Below W3.heap.size W3 w' → w'.heap[S3]? = some (.cells #[.int .i64 b0, .int .i64 b1, .int .i64 b2, .int .i64 b3, .int .i64 b4, .int .i64 b5, .int .i64 b6, .int .i64 b7, .slice pv s.mem.length cv, .int .i64 s.next, .int .i64 st, .int .i64 tr, .int .i64 s.steps] 33 (0, 0))) := fun w' h => by rw [h.block _ (by omega)]; exact hSW3
  have hlW3 : S3 < W3.heap.size := by omega
  have HBW3 := hide hBW3
  have hrW3 : Below W3.heap.size W3 W3 := Below.refl _ _
  have HGW3 := hide hgW3
  clear hBW3 hzW3 hSW3 hgW3
  have HRD3 : Hid (∀ W, Below W3.heap.size W3 W → Rd W pv s.mem) := fun W h => hrd3.below (by rw [HGW3.out]; exact Nat.le_refl _) (HUW3.out.trans (h.mono (by omega)))
  have HJ3 : Hid (∀ w', Below W3.heap.size W3 w' → Below W2.heap.size W2 w') := fun w' h => bCall HBW3.out h
  have HBB := hide hb
  clear hbf hBwf hrd3 hrW2 HX2 hb hlW2
  go_upto_region 11 with (first | (go_at_call 14; refine (HX2'.out _ (HJ1.out _ (HJ2.out _ (HJ3.out _ (by (repeat (first | with_reducible assumption | with_reducible exact Below.refl _ _ | with_reducible refine bAl ?_ _))))))).mono ?_; rintro e wg ⟨d0, d1, d2, d3, d4, d5, d6, d7, pw, cw, rfl, hd, hbg, hrd4⟩; have hBwg : Below W3.heap.size W3 wg := (bCall (by (repeat (first | with_reducible assumption | with_reducible exact Below.refl _ _ | with_reducible refine bAl ?_ _))) hbg)))
  obtain ⟨W4, hW4⟩ : ∃ W4, wg.alloc (.cells #[.int .i64 d0, .int .i64 d1, .int .i64 d2, .int .i64 d3, .int .i64 d4, .int .i64 d5, .int .i64 d6, .int .i64 d7, .slice pw s'.mem.length cw, .int .i64 s'.next, .int .i64 st', .int .i64 tr', .int .i64 s'.steps] 33) = W4 := ⟨_, rfl⟩
  have hBW4 : Below W3.heap.size W3 W4 := by rw [← hW4]; exact bAl hBwg _
  have hzW4 : W4.heap.size = wg.heap.size + 1 := by rw [← hW4]; simp
  have hSW4 : W4.heap[wg.heap.size]? = some (.cells #[.int .i64 d0, .int .i64 d1, .int .i64 d2, .int .i64 d3, .int .i64 d4, .int .i64 d5, .int .i64 d6, .int .i64 d7, .slice pw s'.mem.length cw, .int .i64 s'.next, .int .i64 st', .int .i64 tr', .int .i64 s'.steps] 33 (0, 0)) := by rw [← hW4]; exact heap_alloc_new _ _
  have HUW4 : Hid (Below wg.heap.size wg W4) := by rw [← hW4]; exact bAl (Below.refl _ _) _
  rw [hW4]
  clear hW4
  generalize hgW4 : wg.heap.size = S4 at *
  have HSW4 : Hid (∀ w', Below W4.heap.size W4 w' → w'.heap[S4]? = some (.cells #[.int .i64 d0, .int .i64 d1, .int .i64 d2, .int .i64 d3, .int .i64 d4, .int .i64 d5, .int .i64 d6, .int .i64 d7, .slice pw s'.mem.length cw, .int .i64 s'.next, .int .i64 st', .int .i64 tr', .int .i64 s'.steps] 33 (0, 0))) := fun w' h => by rw [h.block _ (by omega)]; exact hSW4
  have hlW4 : S4 < W4.heap.size := by omega
  have HBW4 := hide hBW4
  have hrW4 : Below W4.heap.size W4 W4 := Below.refl _ _
  have HGW4 := hide hgW4
  clear hBW4 hzW4 hSW4 hgW4
  have HRD4 : Hid (∀ W, Below W4.heap.size W4 W → Rd W pw s'.mem) := fun W h => hrd4.below (by rw [HGW4.out]; exact Nat.le_refl _) (HUW4.out.trans (h.mono (by omega)))
  have HJ4 : Hid (∀ w', Below W4.heap.size W4 w' → Below W3.heap.size W3 w') := fun w' h => bCall HBW4.out h
  have HDD := hide hd
  clear hbg hBwg hrd4 hrW3 HX2' hd hlW3
  have k0 : ∀ w', Below W4.heap.size W4 w' → w'.cell? ⟨S1, 0, none⟩ = some (.int .i64 x0) := fun w' h => by rw [cell_of_row _ _ _ _ _ _ ((fun w' h => HSW1.out w' (HJ2.out w' (HJ3.out w' (HJ4.out w' h)))) w' h)]; rfl
  have k1 : ∀ w', Below W4.heap.size W4 w' → w'.cell? ⟨S1, 1, none⟩ = some (.int .i64 x1) := fun w' h => by rw [cell_of_row _ _ _ _ _ _ ((fun w' h => HSW1.out w' (HJ2.out w' (HJ3.out w' (HJ4.out w' h)))) w' h)]; rfl
  have k2 : ∀ w', Below W4.heap.size W4 w' → w'.cell? ⟨S1, 2, none⟩ = some (.int .i64 x2) := fun w' h => by rw [cell_of_row _ _ _ _ _ _ ((fun w' h => HSW1.out w' (HJ2.out w' (HJ3.out w' (HJ4.out w' h)))) w' h)]; rfl
  have k3 : ∀ w', Below W4.heap.size W4 w' → w'.cell? ⟨S1, 3, none⟩ = some (.int .i64 x3) := fun w' h => by rw [cell_of_row _ _ _ _ _ _ ((fun w' h => HSW1.out w' (HJ2.out w' (HJ3.out w' (HJ4.out w' h)))) w' h)]; rfl
  have k4 : ∀ w', Below W4.heap.size W4 w' → w'.cell? ⟨S1, 4, none⟩ = some (.int .i64 x4) := fun w' h => by rw [cell_of_row _ _ _ _ _ _ ((fun w' h => HSW1.out w' (HJ2.out w' (HJ3.out w' (HJ4.out w' h)))) w' h)]; rfl
  have k5 : ∀ w', Below W4.heap.size W4 w' → w'.cell? ⟨S1, 5, none⟩ = some (.int .i64 x5) := fun w' h => by rw [cell_of_row _ _ _ _ _ _ ((fun w' h => HSW1.out w' (HJ2.out w' (HJ3.out w' (HJ4.out w' h)))) w' h)]; rfl
  have k6 : ∀ w', Below W4.heap.size W4 w' → w'.cell? ⟨S1, 6, none⟩ = some (.int .i64 x6) := fun w' h => by rw [cell_of_row _ _ _ _ _ _ ((fun w' h => HSW1.out w' (HJ2.out w' (HJ3.out w' (HJ4.out w' h)))) w' h)]; rfl
  have k7 : ∀ w', Below W4.heap.size W4 w' → w'.cell? ⟨S1, 7, none⟩ = some (.int .i64 x7) := fun w' h => by rw [cell_of_row _ _ _ _ _ _ ((fun w' h => HSW1.out w' (HJ2.out w' (HJ3.out w' (HJ4.out w' h)))) w' h)]; rfl
  have k8 : ∀ w', Below W4.heap.size W4 w' → w'.cell? ⟨S1, 8, none⟩ = some (.slice pp r.mem.length cc) := fun w' h => by rw [cell_of_row _ _ _ _ _ _ ((fun w' h => HSW1.out w' (HJ2.out w' (HJ3.out w' (HJ4.out w' h)))) w' h)]; rfl
  have k9 : ∀ w', Below W4.heap.size W4 w' → w'.cell? ⟨S1, 9, none⟩ = some (.int .i64 r.next) := fun w' h => by rw [cell_of_row _ _ _ _ _ _ ((fun w' h => HSW1.out w' (HJ2.out w' (HJ3.out w' (HJ4.out w' h)))) w' h)]; rfl
  have k10 : ∀ w', Below W4.heap.size W4 w' → w'.cell? ⟨S1, 10, none⟩ = some (.int .i64 r.stop) := fun w' h => by rw [cell_of_row _ _ _ _ _ _ ((fun w' h => HSW1.out w' (HJ2.out w' (HJ3.out w' (HJ4.out w' h)))) w' h)]; rfl
  have k11 : ∀ w', Below W4.heap.size W4 w' → w'.cell? ⟨S1, 11, none⟩ = some (.int .i64 r.trap) := fun w' h => by rw [cell_of_row _ _ _ _ _ _ ((fun w' h => HSW1.out w' (HJ2.out w' (HJ3.out w' (HJ4.out w' h)))) w' h)]; rfl
  have k12 : ∀ w', Below W4.heap.size W4 w' → w'.cell? ⟨S1, 12, none⟩ = some (.int .i64 r.steps) := fun w' h => by rw [cell_of_row _ _ _ _ _ _ ((fun w' h => HSW1.out w' (HJ2.out w' (HJ3.out w' (HJ4.out w' h)))) w' h)]; rfl
  have l0 : ∀ w', Below W4.heap.size W4 w' → w'.cell? ⟨S2, 0, none⟩ = some (.int .i64 a0) := fun w' h => by rw [cell_of_row _ _ _ _ _ _ ((fun w' h => HSW2.out w' (HJ3.out w' (HJ4.out w' h))) w' h)]; rfl
  have l1 : ∀ w', Below W4.heap.size W4 w' → w'.cell? ⟨S2, 1, none⟩ = some (.int .i64 a1) := fun w' h => by rw [cell_of_row _ _ _ _ _ _ ((fun w' h => HSW2.out w' (HJ3.out w' (HJ4.out w' h))) w' h)]; rfl
  have l2 : ∀ w', Below W4.heap.size W4 w' → w'.cell? ⟨S2, 2, none⟩ = some (.int .i64 a2) := fun w' h => by rw [cell_of_row _ _ _ _ _ _ ((fun w' h => HSW2.out w' (HJ3.out w' (HJ4.out w' h))) w' h)]; rfl
  have l3 : ∀ w', Below W4.heap.size W4 w' → w'.cell? ⟨S2, 3, none⟩ = some (.int .i64 a3) := fun w' h => by rw [cell_of_row _ _ _ _ _ _ ((fun w' h => HSW2.out w' (HJ3.out w' (HJ4.out w' h))) w' h)]; rfl
  have l4 : ∀ w', Below W4.heap.size W4 w' → w'.cell? ⟨S2, 4, none⟩ = some (.int .i64 a4) := fun w' h => by rw [cell_of_row _ _ _ _ _ _ ((fun w' h => HSW2.out w' (HJ3.out w' (HJ4.out w' h))) w' h)]; rfl
  have l5 : ∀ w', Below W4.heap.size W4 w' → w'.cell? ⟨S2, 5, none⟩ = some (.int .i64 a5) := fun w' h => by rw [cell_of_row _ _ _ _ _ _ ((fun w' h => HSW2.out w' (HJ3.out w' (HJ4.out w' h))) w' h)]; rfl
  have l6 : ∀ w', Below W4.heap.size W4 w' → w'.cell? ⟨S2, 6, none⟩ = some (.int .i64 a6) := fun w' h => by rw [cell_of_row _ _ _ _ _ _ ((fun w' h => HSW2.out w' (HJ3.out w' (HJ4.out w' h))) w' h)]; rfl
  have l7 : ∀ w', Below W4.heap.size W4 w' → w'.cell? ⟨S2, 7, none⟩ = some (.int .i64 a7) := fun w' h => by rw [cell_of_row _ _ _ _ _ _ ((fun w' h => HSW2.out w' (HJ3.out w' (HJ4.out w' h))) w' h)]; rfl
  have l8 : ∀ w', Below W4.heap.size W4 w' → w'.cell? ⟨S2, 8, none⟩ = some (.slice pq r'.mem.length cq) := fun w' h => by rw [cell_of_row _ _ _ _ _ _ ((fun w' h => HSW2.out w' (HJ3.out w' (HJ4.out w' h))) w' h)]; rfl
  have l9 : ∀ w', Below W4.heap.size W4 w' → w'.cell? ⟨S2, 9, none⟩ = some (.int .i64 r'.next) := fun w' h => by rw [cell_of_row _ _ _ _ _ _ ((fun w' h => HSW2.out w' (HJ3.out w' (HJ4.out w' h))) w' h)]; rfl
  have l10 : ∀ w', Below W4.heap.size W4 w' → w'.cell? ⟨S2, 10, none⟩ = some (.int .i64 r'.stop) := fun w' h => by rw [cell_of_row _ _ _ _ _ _ ((fun w' h => HSW2.out w' (HJ3.out w' (HJ4.out w' h))) w' h)]; rfl
  have l11 : ∀ w', Below W4.heap.size W4 w' → w'.cell? ⟨S2, 11, none⟩ = some (.int .i64 r'.trap) := fun w' h => by rw [cell_of_row _ _ _ _ _ _ ((fun w' h => HSW2.out w' (HJ3.out w' (HJ4.out w' h))) w' h)]; rfl
  have l12 : ∀ w', Below W4.heap.size W4 w' → w'.cell? ⟨S2, 12, none⟩ = some (.int .i64 r'.steps) := fun w' h => by rw [cell_of_row _ _ _ _ _ _ ((fun w' h => HSW2.out w' (HJ3.out w' (HJ4.out w' h))) w' h)]; rfl
  have m0 : ∀ w', Below W4.heap.size W4 w' → w'.cell? ⟨S3, 0, none⟩ = some (.int .i64 b0) := fun w' h => by rw [cell_of_row _ _ _ _ _ _ ((fun w' h => HSW3.out w' (HJ4.out w' h)) w' h)]; rfl
  have m1 : ∀ w', Below W4.heap.size W4 w' → w'.cell? ⟨S3, 1, none⟩ = some (.int .i64 b1) := fun w' h => by rw [cell_of_row _ _ _ _ _ _ ((fun w' h => HSW3.out w' (HJ4.out w' h)) w' h)]; rfl
  have m2 : ∀ w', Below W4.heap.size W4 w' → w'.cell? ⟨S3, 2, none⟩ = some (.int .i64 b2) := fun w' h => by rw [cell_of_row _ _ _ _ _ _ ((fun w' h => HSW3.out w' (HJ4.out w' h)) w' h)]; rfl
  have m3 : ∀ w', Below W4.heap.size W4 w' → w'.cell? ⟨S3, 3, none⟩ = some (.int .i64 b3) := fun w' h => by rw [cell_of_row _ _ _ _ _ _ ((fun w' h => HSW3.out w' (HJ4.out w' h)) w' h)]; rfl
  have m4 : ∀ w', Below W4.heap.size W4 w' → w'.cell? ⟨S3, 4, none⟩ = some (.int .i64 b4) := fun w' h => by rw [cell_of_row _ _ _ _ _ _ ((fun w' h => HSW3.out w' (HJ4.out w' h)) w' h)]; rfl
  have m5 : ∀ w', Below W4.heap.size W4 w' → w'.cell? ⟨S3, 5, none⟩ = some (.int .i64 b5) := fun w' h => by rw [cell_of_row _ _ _ _ _ _ ((fun w' h => HSW3.out w' (HJ4.out w' h)) w' h)]; rfl
  have m6 : ∀ w', Below W4.heap.size W4 w' → w'.cell? ⟨S3, 6, none⟩ = some (.int .i64 b6) := fun w' h => by rw [cell_of_row _ _ _ _ _ _ ((fun w' h => HSW3.out w' (HJ4.out w' h)) w' h)]; rfl
  have m7 : ∀ w', Below W4.heap.size W4 w' → w'.cell? ⟨S3, 7, none⟩ = some (.int .i64 b7) := fun w' h => by rw [cell_of_row _ _ _ _ _ _ ((fun w' h => HSW3.out w' (HJ4.out w' h)) w' h)]; rfl
  have m8 : ∀ w', Below W4.heap.size W4 w' → w'.cell? ⟨S3, 8, none⟩ = some (.slice pv s.mem.length cv) := fun w' h => by rw [cell_of_row _ _ _ _ _ _ ((fun w' h => HSW3.out w' (HJ4.out w' h)) w' h)]; rfl
  have m9 : ∀ w', Below W4.heap.size W4 w' → w'.cell? ⟨S3, 9, none⟩ = some (.int .i64 s.next) := fun w' h => by rw [cell_of_row _ _ _ _ _ _ ((fun w' h => HSW3.out w' (HJ4.out w' h)) w' h)]; rfl
  have m10 : ∀ w', Below W4.heap.size W4 w' → w'.cell? ⟨S3, 10, none⟩ = some (.int .i64 st) := fun w' h => by rw [cell_of_row _ _ _ _ _ _ ((fun w' h => HSW3.out w' (HJ4.out w' h)) w' h)]; rfl
  have m11 : ∀ w', Below W4.heap.size W4 w' → w'.cell? ⟨S3, 11, none⟩ = some (.int .i64 tr) := fun w' h => by rw [cell_of_row _ _ _ _ _ _ ((fun w' h => HSW3.out w' (HJ4.out w' h)) w' h)]; rfl
  have m12 : ∀ w', Below W4.heap.size W4 w' → w'.cell? ⟨S3, 12, none⟩ = some (.int .i64 s.steps) := fun w' h => by rw [cell_of_row _ _ _ _ _ _ ((fun w' h => HSW3.out w' (HJ4.out w' h)) w' h)]; rfl
  have o0 : ∀ w', Below W4.heap.size W4 w' → w'.cell? ⟨S4, 0, none⟩ = some (.int .i64 d0) := fun w' h => by rw [cell_of_row _ _ _ _ _ _ (HSW4.out w' h)]; rfl
  have o1 : ∀ w', Below W4.heap.size W4 w' → w'.cell? ⟨S4, 1, none⟩ = some (.int .i64 d1) := fun w' h => by rw [cell_of_row _ _ _ _ _ _ (HSW4.out w' h)]; rfl
  have o2 : ∀ w', Below W4.heap.size W4 w' → w'.cell? ⟨S4, 2, none⟩ = some (.int .i64 d2) := fun w' h => by rw [cell_of_row _ _ _ _ _ _ (HSW4.out w' h)]; rfl
  have o3 : ∀ w', Below W4.heap.size W4 w' → w'.cell? ⟨S4, 3, none⟩ = some (.int .i64 d3) := fun w' h => by rw [cell_of_row _ _ _ _ _ _ (HSW4.out w' h)]; rfl
  have o4 : ∀ w', Below W4.heap.size W4 w' → w'.cell? ⟨S4, 4, none⟩ = some (.int .i64 d4) := fun w' h => by rw [cell_of_row _ _ _ _ _ _ (HSW4.out w' h)]; rfl
  have o5 : ∀ w', Below W4.heap.size W4 w' → w'.cell? ⟨S4, 5, none⟩ = some (.int .i64 d5) := fun w' h => by rw [cell_of_row _ _ _ _ _ _ (HSW4.out w' h)]; rfl
  have o6 : ∀ w', Below W4.heap.size W4 w' → w'.cell? ⟨S4, 6, none⟩ = some (.int .i64 d6) := fun w' h => by rw [cell_of_row _ _ _ _ _ _ (HSW4.out w' h)]; rfl
  have o7 : ∀ w', Below W4.heap.size W4 w' → w'.cell? ⟨S4, 7, none⟩ = some (.int .i64 d7) := fun w' h => by rw [cell_of_row _ _ _ _ _ _ (HSW4.out w' h)]; rfl
  have o8 : ∀ w', Below W4.heap.size W4 w' → w'.cell? ⟨S4, 8, none⟩ = some (.slice pw s'.mem.length cw) := fun w' h => by rw [cell_of_row _ _ _ _ _ _ (HSW4.out w' h)]; rfl
  have o9 : ∀ w', Below W4.heap.size W4 w' → w'.cell? ⟨S4, 9, none⟩ = some (.int .i64 s'.next) := fun w' h => by rw [cell_of_row _ _ _ _ _ _ (HSW4.out w' h)]; rfl
  have o10 : ∀ w', Below W4.heap.size W4 w' → w'.cell? ⟨S4, 10, none⟩ = some (.int .i64 st') := fun w' h => by rw [cell_of_row _ _ _ _ _ _ (HSW4.out w' h)]; rfl
  have o11 : ∀ w', Below W4.heap.size W4 w' → w'.cell? ⟨S4, 11, none⟩ = some (.int .i64 tr') := fun w' h => by rw [cell_of_row _ _ _ _ _ _ (HSW4.out w' h)]; rfl
  have o12 : ∀ w', Below W4.heap.size W4 w' → w'.cell? ⟨S4, 12, none⟩ = some (.int .i64 s'.steps) := fun w' h => by rw [cell_of_row _ _ _ _ _ _ (HSW4.out w' h)]; rfl
  have hn4 : S1 < W4.heap.size := (Array.getElem?_eq_some_iff.1 (HSW1.out W4 (HJ2.out _ (HJ3.out _ (HJ4.out _ hrW4))))).1
  have hn3 : S2 < W4.heap.size := (Array.getElem?_eq_some_iff.1 (HSW2.out W4 (HJ3.out _ (HJ4.out _ hrW4)))).1
  have hn2 : S3 < W4.heap.size := (Array.getElem?_eq_some_iff.1 (HSW3.out W4 (HJ4.out _ hrW4))).1
  have HFIN : Hid (∀ w', Below W4.heap.size W4 w' → Below w.heap.size w w') := fun w' h => bCall HW.out (HJ1.out _ (HJ2.out _ (HJ3.out _ (HJ4.out _ h))))
  have HLG : Hid (∀ W, Below W4.heap.size W4 W → Calls Try.prog 17 #[.slice pt r.given.length ct, .slice pu r'.given.length cu, .int .i64 n] W fun e w' => e = .returned (.bool true) ∧ Below W.heap.size W w') := fun W h =>
    HLO'.out pt pu ct cu _ _ r.given r'.given n W (HTM1.out W (HJ2.out _ (HJ3.out _ (HJ4.out _ h)))) (HTM2.out W (HJ3.out _ (HJ4.out _ h))) HON.out.1 (by have := HGL.out; omega) (by have := HGL'.out; omega) (by have := HN1.out; omega)
  have HA1 : Hid (∀ W, Below W4.heap.size W4 W → Calls Try.prog 15 #[.agg #[.int .i64 x0, .int .i64 x1, .int .i64 x2, .int .i64 x3, .int .i64 x4, .int .i64 x5, .int .i64 x6, .int .i64 x7, .slice pp r.mem.length cc, .int .i64 r.next, .int .i64 r.stop, .int .i64 r.trap, .int .i64 r.steps], .agg #[.int .i64 a0, .int .i64 a1, .int .i64 a2, .int .i64 a3, .int .i64 a4, .int .i64 a5, .int .i64 a6, .int .i64 a7, .slice pq r'.mem.length cq, .int .i64 r'.next, .int .i64 r'.stop, .int .i64 r'.trap, .int .i64 r'.steps]] W fun e w' => ∃ q : Bool, e = .returned (.bool q) ∧ ((r.mem = r'.mem ∧ [x0, x1, x2, x3, x4, x5, x6, x7] = [a0, a1, a2, a3, a4, a5, a6, a7] ∧ (r.next : Int) = r'.next ∧ r.stop = r'.stop ∧ r.trap = r'.trap) → q = true) ∧ Below W.heap.size W w') := fun W h =>
    alike_any x0 x1 x2 x3 x4 x5 x6 x7 r.next r.stop r.trap r.steps a0 a1 a2 a3 a4 a5 a6 a7 r'.next r'.stop r'.trap r'.steps pp pq cc cq r.mem r'.mem W (HRD1.out W (HJ2.out _ (HJ3.out _ (HJ4.out _ h)))) (HRD2.out W (HJ3.out _ (HJ4.out _ h))) (by have := HL1.out; omega) (by have := HL1'.out; omega)
  have HA2 : Hid (∀ W, Below W4.heap.size W4 W → Calls Try.prog 15 #[.agg #[.int .i64 b0, .int .i64 b1, .int .i64 b2, .int .i64 b3, .int .i64 b4, .int .i64 b5, .int .i64 b6, .int .i64 b7, .slice pv s.mem.length cv, .int .i64 s.next, .int .i64 st, .int .i64 tr, .int .i64 s.steps], .agg #[.int .i64 d0, .int .i64 d1, .int .i64 d2, .int .i64 d3, .int .i64 d4, .int .i64 d5, .int .i64 d6, .int .i64 d7, .slice pw s'.mem.length cw, .int .i64 s'.next, .int .i64 st', .int .i64 tr', .int .i64 s'.steps]] W fun e w' => ∃ q : Bool, e = .returned (.bool q) ∧ ((s.mem = s'.mem ∧ [b0, b1, b2, b3, b4, b5, b6, b7] = [d0, d1, d2, d3, d4, d5, d6, d7] ∧ (s.next : Int) = s'.next ∧ st = st' ∧ tr = tr') → q = true) ∧ Below W.heap.size W w') := fun W h =>
    alike_any b0 b1 b2 b3 b4 b5 b6 b7 s.next st tr s.steps d0 d1 d2 d3 d4 d5 d6 d7 s'.next st' tr' s'.steps pv pw cv cw s.mem s'.mem W (HRD3.out W (HJ4.out _ h)) (HRD4.out W h) (by have := HL2.out; omega) (by have := HL2'.out; omega)
  have b1 : ¬ ((n : Int) < r.steps) := by have := HON.out.2.2.2; omega
  have b2 : ¬ ((n : Int) < (s.steps : Int)) := by have h : s.steps ≤ n := HOP.out.2.2; omega
  have hlS : ∀ w', Below W4.heap.size W4 w' → S1 < w'.heap.size ∧ S2 < w'.heap.size ∧ S3 < w'.heap.size ∧ S4 < w'.heap.size := fun w' h => by have := h.size; omega
  have HLS := hide hlS
  clear hlS
  go_upto_region 16 with (first | (go_at_call 17; refine (HLG.out _ (by (repeat (first | with_reducible assumption | with_reducible exact Below.refl _ _ | with_reducible refine bAl ?_ _)))).mono ?_; rintro e wh ⟨rfl, hbh⟩; have hBh : Below W4.heap.size W4 wh := (bCall (by (repeat (first | with_reducible assumption | with_reducible exact Below.refl _ _ | with_reducible refine bAl ?_ _))) hbh); obtain ⟨z1, z2, z3, z4⟩ := HLS.out _ hBh) | (go_at_call 15; first | (with_reducible refine (HA1.out _ ?_).mono ?_; (repeat (first | with_reducible assumption | with_reducible exact Below.refl _ _ | with_reducible refine bAl ?_ _)); rintro e wi ⟨qa, rfl, hqa, hbi⟩; have hBi : Below W4.heap.size W4 wi := (bCall (by (repeat (first | with_reducible assumption | with_reducible exact Below.refl _ _ | with_reducible refine bAl ?_ _))) hbi); have HQA := hide hqa; clear hqa; obtain ⟨z1', z2', z3', z4'⟩ := HLS.out _ hBi) | (with_reducible refine (HA2.out _ ?_).mono ?_; (repeat (first | with_reducible assumption | with_reducible exact Below.refl _ _ | with_reducible refine bAl ?_ _)); rintro e wj ⟨qb, rfl, hqb, hbj⟩; have hBj : Below W4.heap.size W4 wj := (bCall (by (repeat (first | with_reducible assumption | with_reducible exact Below.refl _ _ | with_reducible refine bAl ?_ _))) hbj); have HQB := hide hqb; clear hqb; obtain ⟨y1', y2', y3', y4'⟩ := HLS.out _ hBj)))
  have hR : ((r.stop != 2) = true ∧ qa = true ∧ (r.steps != r'.steps) = false) ∨ ((r.stop != 2) = false ∧ (r.steps == (n : Int)) = true) := by
    by_cases h : r.stop = 2
    · exact .inr ⟨by simp [h], by rw [HON.out.2.2.1 h]; simp⟩
    · have e := HON.out.2.1 h
      refine .inl ⟨by simp [h], HQA.out ⟨by rw [e], by rw [← HXX.out, ← HAA.out, e], by rw [e], by rw [e], by rw [e]⟩, by rw [e]; simp⟩
  have hS : ((st != 2) = true ∧ qb = true ∧ ((s.steps : Int) != (s'.steps : Int)) = false) ∨ ((st != 2) = false ∧ ((s.steps : Int) == (n : Int)) = true) := by
    by_cases h : st = 2
    · have h2 : s.steps = n := HOP.out.2.1 h
      exact .inr ⟨by simp [h], by rw [h2]; simp⟩
    · have e := HOP.out.1 h
      injection e with e1 e2
      injection e2 with e2 e3
      refine .inl ⟨by simp [h], HQB.out ⟨by rw [e1], by rw [← HBB.out, ← HDD.out, e1], by rw [e1], e2, e3⟩, by rw [e1]; simp⟩
  clear HQA HQB HON HOP HXX HAA HBB HDD HLG HA1 HA2 HRD1 HRD2 HRD3 HRD4 HTM1 HTM2 HSW1 HSW2 HSW3 HSW4 hBh hBi ee1 ee2
  rcases hR with ⟨f1, rfl, f2⟩ | ⟨f1, f2⟩
  all_goals rcases hS with ⟨g1, rfl, g2⟩ | ⟨g1, g2⟩
  · go_wp2
    go_ret
    exact ⟨rfl, HFIN.out _ hBj⟩
  · go_wp2
    go_ret
    exact ⟨rfl, HFIN.out _ hBj⟩
  · go_wp2
    go_ret
    exact ⟨rfl, HFIN.out _ hBj⟩
  · go_wp2
    go_ret
    exact ⟨rfl, HFIN.out _ hBj⟩

end Go.Proofs.Ytmeiogoodbnkkaa

/- boardkeep.longer: what stood stands. -/
namespace Go.Proofs.Ytmeiogoodbnkkaa
open Go.RowKit

theorem TmR.cells {w : World} {B : Nat} {pt : Option Addr} {g : List Tk} (h : TmR w B pt g) {i : Nat} {t : Tk} (ht : g[i]? = some t) :
    ∃ b, pt = some ⟨b, 0, none⟩ ∧ b < w.heap.size ∧ w.cell? ⟨b, i * 5, none⟩ = some (.int .i64 t.number) ∧ w.cell? ⟨b, i * 5 + 1, none⟩ = some (.int .i64 t.issue) ∧ w.cell? ⟨b, i * 5 + 2, none⟩ = some (.int .i64 t.read) ∧ w.cell? ⟨b, i * 5 + 3, none⟩ = some (.int .i64 t.done) ∧ w.cell? ⟨b, i * 5 + 4, none⟩ = some (.int .i64 t.write) := by
  have hi := (List.getElem?_eq_some_iff.1 ht).1
  have e : g.getD i tkD = t := by rw [List.getD_eq_getElem?_getD, ht]; rfl
  rcases h with rfl | ⟨b, rfl, _, hlt, h⟩
  · simp at ht
  · have h' := h i hi
    rw [e] at h'
    exact ⟨b, rfl, hlt, h' 0 (by omega), h' 1 (by omega), h' 2 (by omega), h' 3 (by omega), h' 4 (by omega)⟩

set_option maxRecDepth 100000 in
set_option maxHeartbeats 8000000 in
theorem longer_any (pa pb : Option Addr) (ca cb B1 B2 : Nat) (ga gb : List Tk) (n : Nat) (w : World) (ha : TmR w B1 pa ga) (hb : TmR w B2 pb gb) (hg : Gr n ga gb) (hla : ga.length ≤ 100000) (hlb : gb.length ≤ 100000) (_hn : n ≤ 100000) :
    Calls Try.prog 17 #[.slice pa ga.length ca, .slice pb gb.length cb, .int .i64 n] w fun e w' => e = .returned (.bool true) ∧ Below w.heap.size w w' := by
  have HA := hide ha
  have HB := hide hb
  have HG := hide hg
  have hle := hg.len
  clear ha hb hg
  generalize hNa : ga.length = na at *
  generalize hNb : gb.length = nb at *
  have hdec : decide (nb < na) = false := decide_eq_false (by omega)
  have HNA := hide hNa
  have HNB := hide hNb
  clear hNa hNb
  go_enter Try.func17, Try.ntmps17
  go_wp2
  go_loopg [7] na (fun gq i wr => ∃ k : Nat, k ≤ na ∧ gq = na - k ∧ i = .int .i64 k ∧ Below w.heap.size w wr)
  case atStart => exact ⟨0, Nat.zero_le _, rfl, rfl, Below.refl _ _⟩
  case round =>
    obtain ⟨k, hk, hgk, rfl, hbel⟩ := hrel
    have HGK := hide hgk
    clear hgk
    rcases Nat.lt_or_ge k na with hkn | hkn
    · obtain ⟨t, ht⟩ : ∃ t, ga[k]? = some t := ⟨_, List.getElem?_eq_getElem (by rw [HNA.out]; exact hkn)⟩
      obtain ⟨t', ht', o1, o2, o3, o4, o5, o6, o7⟩ := HG.out.old k t ht
      obtain ⟨ba, rfl, hba, a0, a1, a2, a3, a4⟩ := HA.out.cells ht
      obtain ⟨bb, rfl, hbb, b0, b1, b2, b3, b4⟩ := HB.out.cells ht'
      have z := hbel.size
      rw [← hbel.cell (p := ⟨ba, k * 5, none⟩) hba] at a0
      rw [← hbel.cell (p := ⟨ba, k * 5 + 1, none⟩) hba] at a1
      rw [← hbel.cell (p := ⟨ba, k * 5 + 2, none⟩) hba] at a2
      rw [← hbel.cell (p := ⟨ba, k * 5 + 3, none⟩) hba] at a3
      rw [← hbel.cell (p := ⟨ba, k * 5 + 4, none⟩) hba] at a4
      rw [← hbel.cell (p := ⟨bb, k * 5, none⟩) hbb] at b0
      rw [← hbel.cell (p := ⟨bb, k * 5 + 1, none⟩) hbb] at b1
      rw [← hbel.cell (p := ⟨bb, k * 5 + 2, none⟩) hbb] at b2
      rw [← hbel.cell (p := ⟨bb, k * 5 + 3, none⟩) hbb] at b3
      rw [← hbel.cell (p := ⟨bb, k * 5 + 4, none⟩) hbb] at b4
      rw [o2] at b0
      rw [o3] at b1
      have hba' : ba < wr.heap.size := by omega
      have hbb' : bb < wr.heap.size := by omega
      have hbb2 : bb < wr.heap.size + 1 := by omega
      have HBL := hide hbel
      have hkI : (k : Int) < (na : Int) := by omega
      have hkJ : (k : Int) < (nb : Int) := by omega
      have hR : (((t.read : Int) != 0) = true ∧ ((t.read : Int) == 0) = false ∧ (t'.read : Int) = t.read ∧ (t'.done : Int) = t.done) ∨ ((t.read : Int) = 0 ∧ (t'.read : Int) = 0) ∨ ((t.read : Int) = 0 ∧ ((t'.read : Int) != 0) = true ∧ decide ((t'.read : Int) ≤ n) = false) := by
        by_cases h : t.read = 0
        · rcases o6 h with h' | h'
          · exact .inr (.inl ⟨by simp [h], by simp [h']⟩)
          · exact .inr (.inr ⟨by simp [h], by simp; omega, decide_eq_false (by omega)⟩)
        · obtain ⟨q1, q2, _⟩ := o4 h
          exact .inl ⟨by simp [h], by simp [h], by rw [q1], by rw [q2]⟩
      have hQ : (((t.write : Int) != 0) = true ∧ ((t.write : Int) == 0) = false ∧ (t'.write : Int) = t.write) ∨ ((t.write : Int) = 0 ∧ (t'.write : Int) = 0) ∨ ((t.write : Int) = 0 ∧ ((t'.write : Int) != 0) = true ∧ decide ((t'.write : Int) ≤ n) = false) := by
        by_cases h : t.write = 0
        · rcases o7 h with h' | h'
          · exact .inr (.inl ⟨by simp [h], by simp [h']⟩)
          · exact .inr (.inr ⟨by simp [h], by simp; omega, decide_eq_false (by omega)⟩)
        · exact .inl ⟨by simp [h], by simp [h], by rw [o5 h]⟩
      generalize (t.number : Int) = x0 at *
      generalize (t.issue : Int) = x1 at *
      generalize (t.read : Int) = x2 at *
      generalize (t.done : Int) = x3 at *
      generalize (t.write : Int) = x4 at *
      generalize (t'.read : Int) = y2 at *
      generalize (t'.done : Int) = y3 at *
      generalize (t'.write : Int) = y4 at *
      clear o1 o2 o3 o4 o5 o6 o7 ht ht' hbel hba hbb
      have HR := hide hR
      have HQ := hide hQ
      clear hR hQ
      go_upto_region 8 with fail
      obtain ⟨W8, hW8⟩ : ∃ W8, (wr.alloc (.cells #[.int .i64 x0, .int .i64 x1, .int .i64 x2, .int .i64 x3, .int .i64 x4] 47)).alloc (.cells #[.int .i64 x0, .int .i64 x1, .int .i64 y2, .int .i64 y3, .int .i64 y4] 47) = W8 := ⟨_, rfl⟩
      rw [hW8]
      have HB8 : Hid (Below w.heap.size w W8) := by rw [← hW8]; exact bAl (bAl HBL.out _) _
      have g1 : W8.heap[wr.heap.size]? = some (.cells #[.int .i64 x0, .int .i64 x1, .int .i64 x2, .int .i64 x3, .int .i64 x4] 47 (0, 0)) := by rw [← hW8]; exact hOld (hNew rfl)
      have g2 : W8.heap[wr.heap.size + 1]? = some (.cells #[.int .i64 x0, .int .i64 x1, .int .i64 y2, .int .i64 y3, .int .i64 y4] 47 (0, 0)) := by rw [← hW8]; exact hNew (by simp)
      have e0 : W8.cell? ⟨wr.heap.size, 0, none⟩ = some (.int .i64 x0) := by rw [cell_of_row _ _ _ _ _ _ g1]; rfl
      have e1 : W8.cell? ⟨wr.heap.size, 1, none⟩ = some (.int .i64 x1) := by rw [cell_of_row _ _ _ _ _ _ g1]; rfl
      have e2 : W8.cell? ⟨wr.heap.size, 2, none⟩ = some (.int .i64 x2) := by rw [cell_of_row _ _ _ _ _ _ g1]; rfl
      have e3 : W8.cell? ⟨wr.heap.size, 3, none⟩ = some (.int .i64 x3) := by rw [cell_of_row _ _ _ _ _ _ g1]; rfl
      have e4 : W8.cell? ⟨wr.heap.size, 4, none⟩ = some (.int .i64 x4) := by rw [cell_of_row _ _ _ _ _ _ g1]; rfl
      have f0 : W8.cell? ⟨wr.heap.size + 1, 0, none⟩ = some (.int .i64 x0) := by rw [cell_of_row _ _ _ _ _ _ g2]; rfl
      have f1 : W8.cell? ⟨wr.heap.size + 1, 1, none⟩ = some (.int .i64 x1) := by rw [cell_of_row _ _ _ _ _ _ g2]; rfl
      have f2 : W8.cell? ⟨wr.heap.size + 1, 2, none⟩ = some (.int .i64 y2) := by rw [cell_of_row _ _ _ _ _ _ g2]; rfl
      have f3 : W8.cell? ⟨wr.heap.size + 1, 3, none⟩ = some (.int .i64 y3) := by rw [cell_of_row _ _ _ _ _ _ g2]; rfl
      have f4 : W8.cell? ⟨wr.heap.size + 1, 4, none⟩ = some (.int .i64 y4) := by rw [cell_of_row _ _ _ _ _ _ g2]; rfl
      have HAR : Hid (k < na ∧ na ≤ nb ∧ nb ≤ 100000) := ⟨hkn, hle, hlb⟩
      clear hk hkn hkI hkJ hla hlb _hn hle
      clear hW8 g1 g2 a0 a1 a2 a3 a4 b0 b1 b2 b3 b4 HBL hba' hbb' hbb2 z
      go_cut [104] from 16 to 104 (fun s wx => s = .bool false ∧ wx = W8)
      case first =>
        clear HB8 HGK HG HA HB HNA HNB HAR
        simp only [List.append_eq, List.cons_append, List.nil_append]
        rcases HR.out with ⟨r1, r2, rfl, rfl⟩ | ⟨rfl, rfl⟩ | ⟨rfl, r3, r4⟩
        all_goals clear HR
        all_goals rcases HQ.out with ⟨q1, q2, rfl⟩ | ⟨rfl, rfl⟩ | ⟨rfl, q3, q4⟩
        all_goals clear HQ
        all_goals go_wp2
        all_goals go_meet
        all_goals exact ⟨rfl, rfl⟩
      case rest =>
        obtain ⟨rfl, hwc⟩ := hcut
        have har := HAR.out
        have hgk := HGK.out
        have HGK2 := hide hgk
        clear hgk
        go_wp2
        have hgk := HGK2.out
        go_roundg (na - (k + 1))
        case measure => omega
        case rel => exact ⟨k + 1, by omega, rfl, by go_num, by first | exact HB8.out | (rw [hwc]; exact HB8.out)⟩
    · have hke : k = na := by omega
      subst hke
      have HBL := hide hbel
      clear hbel
      go_wp2
      go_loopw [10] (fun i wq => ∃ j : Nat, k ≤ j ∧ j ≤ nb ∧ i = .int .i64 j ∧ Below w.heap.size w wq) (fun i _ => nb - (intOf i).toNat)
      case atStart => exact ⟨k, Nat.le_refl _, hle, rfl, HBL.out⟩
      case round =>
        obtain ⟨j, hj1, hj2, rfl, hbel⟩ := hrel
        rcases Nat.lt_or_ge j nb with hjn | hjn
        · obtain ⟨t', ht'⟩ : ∃ t', gb[j]? = some t' := ⟨_, List.getElem?_eq_getElem (by rw [HNB.out]; exact hjn)⟩
          have hiss := HG.out.new j t' (by rw [HNA.out]; exact hj1) ht'
          obtain ⟨bb, rfl, hbb, b0, b1, b2, b3, b4⟩ := HB.out.cells ht'
          rw [← hbel.cell (p := ⟨bb, j * 5 + 1, none⟩) hbb] at b1
          have hjI : (j : Int) < (nb : Int) := by omega
          have hiI : ¬ ((t'.issue : Int) ≤ n) := by omega
          have HBQ := hide hbel
          clear b0 b2 b3 b4 hbel ht'
          go_wp2
          go_roundw
          case rel => exact ⟨j + 1, by omega, by omega, by simp, HBQ.out⟩
          case measure => simp [intOf]; omega
        · have hje : j = nb := by omega
          subst hje
          go_wp2
          go_ret
          exact ⟨rfl, hbel⟩

end Go.Proofs.Ytmeiogoodbnkkaa
