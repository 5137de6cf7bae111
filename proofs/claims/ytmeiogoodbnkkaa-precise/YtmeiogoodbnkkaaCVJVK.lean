/- Several texts in one: VJ, VK. -/
import Derived.Test.YtmeiogoodbnkkaaCVH
import Derived.Test.YtmeiogoodbnkkaaCVI
import Derived.Deep.CutBlock
/- boardkeep.Anyhow. -/
namespace Go.Proofs.Ytmeiogoodbnkkaa
open Go.RowKit

/-- The cells of a configuration that was boxed. -/
theorem cfg_rules {W0 : World} {N : Nat} {u0 u1 u2 u3 l0 l1 l2 l3 b : Int} (h : W0.heap[N]? = some (.cells #[.int .i64 u0, .int .i64 u1, .int .i64 u2, .int .i64 u3, .int .i64 l0, .int .i64 l1, .int .i64 l2, .int .i64 l3, .int .i64 b] 24 (0, 0))) :
    ∀ w', Below W0.heap.size W0 w' → w'.heap[N]? = some (.cells #[.int .i64 u0, .int .i64 u1, .int .i64 u2, .int .i64 u3, .int .i64 l0, .int .i64 l1, .int .i64 l2, .int .i64 l3, .int .i64 b] 24 (0, 0)) := fun w' hb => by
  rw [hb.block _ (Array.getElem?_eq_some_iff.1 h).1]; exact h

theorem row9 {w : World} {U : Nat} {v0 v1 v2 v3 v4 v5 v6 v7 v8 : Value} (h : w.heap[U]? = some (.cells #[v0, v1, v2, v3, v4, v5, v6, v7, v8] 24 (0, 0))) :
    w.cell? ⟨U, 0, none⟩ = some v0 ∧ w.cell? ⟨U, 1, none⟩ = some v1 ∧ w.cell? ⟨U, 2, none⟩ = some v2 ∧ w.cell? ⟨U, 3, none⟩ = some v3 ∧ w.cell? ⟨U, 4, none⟩ = some v4 ∧ w.cell? ⟨U, 5, none⟩ = some v5 ∧ w.cell? ⟨U, 6, none⟩ = some v6 ∧ w.cell? ⟨U, 7, none⟩ = some v7 ∧ w.cell? ⟨U, 8, none⟩ = some v8 := by
  have g : ∀ j, w.cell? ⟨U, j, none⟩ = #[v0, v1, v2, v3, v4, v5, v6, v7, v8][j]? := fun j => cell_of_row _ _ _ _ _ _ h
  exact ⟨g 0, g 1, g 2, g 3, g 4, g 5, g 6, g 7, g 8⟩

theorem hNew {w : World} {cs : Array Value} {e : TypeId} {N : Nat} (h : w.heap.size = N) : (w.alloc (.cells cs e)).heap[N]? = some (.cells cs e (0, 0)) := by
  subst h
  exact heap_alloc_new _ _
theorem hOld {w : World} {x o : Obj} {N : Nat} (h : w.heap[N]? = some o) : (w.alloc x).heap[N]? = some o :=
  (Below.heap_alloc w x N (Array.getElem?_eq_some_iff.1 h).1).trans h

set_option maxRecDepth 100000 in
set_option maxHeartbeats 4000000 in
theorem anyhow_law (u0 u1 u2 u3 l0 l1 l2 l3 b u0' u1' u2' u3' l0' l1' l2' l3' b' : Int) (hu : In64 u0 ∧ In64 u1 ∧ In64 u2 ∧ In64 u3 ∧ In64 l0 ∧ In64 l1 ∧ In64 l2 ∧ In64 l3 ∧ In64 b) (hu' : In64 u0' ∧ In64 u1' ∧ In64 u2' ∧ In64 u3' ∧ In64 l0' ∧ In64 l1' ∧ In64 l2' ∧ In64 l3' ∧ In64 b')
    (p pm : Option Addr) (c cm : Nat) (raw : List Ord) (mem : List Int) (w : World) (hp : RdO w p raw) (hin : ∀ j, j < raw.length → In64O (raw.getD j Ord.none)) (hlen : (raw.length : Int) ≤ 1000000000000000) (hm : Rd w pm mem) (hlm : (mem.length : Int) ≤ 1000000000000000) (hcm : mem.length ≤ cm) :
    Calls Try.prog 4 #[.agg #[.int .i64 u0, .int .i64 u1, .int .i64 u2, .int .i64 u3, .int .i64 l0, .int .i64 l1, .int .i64 l2, .int .i64 l3, .int .i64 b], .agg #[.int .i64 u0', .int .i64 u1', .int .i64 u2', .int .i64 u3', .int .i64 l0', .int .i64 l1', .int .i64 l2', .int .i64 l3', .int .i64 b'], .slice p raw.length c, .slice pm mem.length cm] w fun e w' => e = .returned (.bool true) ∧ Below w.heap.size w w' := by
  have HP := hide hp
  have HIN := hide hin
  have HM := hide hm
  have HLEN := hide hlen
  have HLM := hide hlm
  have HCM := hide hcm
  have HC1 := hide (fun W => config_any u0 u1 u2 u3 l0 l1 l2 l3 b hu.1 hu.2.1 hu.2.2.1 hu.2.2.2.1 hu.2.2.2.2.1 hu.2.2.2.2.2.1 hu.2.2.2.2.2.2.1 hu.2.2.2.2.2.2.2.1 hu.2.2.2.2.2.2.2.2 W)
  have HC2 := hide (fun W => config_any u0' u1' u2' u3' l0' l1' l2' l3' b' hu'.1 hu'.2.1 hu'.2.2.1 hu'.2.2.2.1 hu'.2.2.2.2.1 hu'.2.2.2.2.2.1 hu'.2.2.2.2.2.2.1 hu'.2.2.2.2.2.2.2.1 hu'.2.2.2.2.2.2.2.2 W)
  have hG1 := cfg_ok u0 u1 u2 l0 l1 l2 l3 b
  have hF1 := cfg_fit u0 u1 u2 l0 l1 l2 l3 b
  have hG2 := cfg_ok u0' u1' u2' l0' l1' l2' l3' b'
  have hF2 := cfg_fit u0' u1' u2' l0' l1' l2' l3' b'
  clear hp hin hm hlen hlm hcm hu hu'
  generalize 1 + pk u0 3 = y0 at *
  generalize 1 + pk u1 3 = y1 at *
  generalize 1 + pk u2 3 = y2 at *
  generalize 1 + pk l0 12 = y4 at *
  generalize 1 + pk l1 12 = y5 at *
  generalize 1 + pk l2 12 = y6 at *
  generalize 1 + pk l3 12 = y7 at *
  generalize 1 + pk b 3 = y8 at *
  generalize 1 + pk u0' 3 = z0 at *
  generalize 1 + pk u1' 3 = z1 at *
  generalize 1 + pk u2' 3 = z2 at *
  generalize 1 + pk l0' 12 = z4 at *
  generalize 1 + pk l1' 12 = z5 at *
  generalize 1 + pk l2' 12 = z6 at *
  generalize 1 + pk l3' 12 = z7 at *
  generalize 1 + pk b' 3 = z8 at *
  have HG1 := hide hG1
  have HF1 := hide hF1
  have HG2 := hide hG2
  have HF2 := hide hF2
  clear hG1 hF1 hG2 hF2
  obtain ⟨mt, hmt⟩ : ∃ mt, mt = mem.take 16 := ⟨_, rfl⟩
  have hmt16 : mt.length ≤ 16 := by rw [hmt]; simp; omega
  have HMT := hide hmt
  clear hmt
  obtain ⟨W0, hW0⟩ : ∃ W0, (w.alloc (.cells #[.int .i64 u0, .int .i64 u1, .int .i64 u2, .int .i64 u3, .int .i64 l0, .int .i64 l1, .int .i64 l2, .int .i64 l3, .int .i64 b] 24)).alloc (.cells #[.int .i64 u0', .int .i64 u1', .int .i64 u2', .int .i64 u3', .int .i64 l0', .int .i64 l1', .int .i64 l2', .int .i64 l3', .int .i64 b'] 24) = W0 := ⟨_, rfl⟩
  have hb0 : Below w.heap.size w W0 := by rw [← hW0]; exact bAl (bAl (Below.refl _ _) _) _
  have hz0 : W0.heap.size = w.heap.size + 1 + 1 := by rw [← hW0]; simp
  have hr1 := cfg_rules (show W0.heap[w.heap.size]? = _ by rw [← hW0]; exact hOld (hNew rfl))
  have hr2 := cfg_rules (show W0.heap[w.heap.size + 1]? = _ by rw [← hW0]; exact hNew (by simp))
  have HB0 := hide hb0
  have HR1 := hide hr1
  have HR2 := hide hr2
  have k0 : ∀ w', Below W0.heap.size W0 w' → w'.cell? ⟨w.heap.size, 0, none⟩ = some (.int .i64 u0) := fun w' h => by rw [cell_of_row _ _ _ _ _ _ (HR1.out w' h)]; rfl
  have k1 : ∀ w', Below W0.heap.size W0 w' → w'.cell? ⟨w.heap.size, 1, none⟩ = some (.int .i64 u1) := fun w' h => by rw [cell_of_row _ _ _ _ _ _ (HR1.out w' h)]; rfl
  have k2 : ∀ w', Below W0.heap.size W0 w' → w'.cell? ⟨w.heap.size, 2, none⟩ = some (.int .i64 u2) := fun w' h => by rw [cell_of_row _ _ _ _ _ _ (HR1.out w' h)]; rfl
  have k3 : ∀ w', Below W0.heap.size W0 w' → w'.cell? ⟨w.heap.size, 3, none⟩ = some (.int .i64 u3) := fun w' h => by rw [cell_of_row _ _ _ _ _ _ (HR1.out w' h)]; rfl
  have k4 : ∀ w', Below W0.heap.size W0 w' → w'.cell? ⟨w.heap.size, 4, none⟩ = some (.int .i64 l0) := fun w' h => by rw [cell_of_row _ _ _ _ _ _ (HR1.out w' h)]; rfl
  have k5 : ∀ w', Below W0.heap.size W0 w' → w'.cell? ⟨w.heap.size, 5, none⟩ = some (.int .i64 l1) := fun w' h => by rw [cell_of_row _ _ _ _ _ _ (HR1.out w' h)]; rfl
  have k6 : ∀ w', Below W0.heap.size W0 w' → w'.cell? ⟨w.heap.size, 6, none⟩ = some (.int .i64 l2) := fun w' h => by rw [cell_of_row _ _ _ _ _ _ (HR1.out w' h)]; rfl
  have k7 : ∀ w', Below W0.heap.size W0 w' → w'.cell? ⟨w.heap.size, 7, none⟩ = some (.int .i64 l3) := fun w' h => by rw [cell_of_row _ _ _ _ _ _ (HR1.out w' h)]; rfl
  have k8 : ∀ w', Below W0.heap.size W0 w' → w'.cell? ⟨w.heap.size, 8, none⟩ = some (.int .i64 b) := fun w' h => by rw [cell_of_row _ _ _ _ _ _ (HR1.out w' h)]; rfl
  have j0 : ∀ w', Below W0.heap.size W0 w' → w'.cell? ⟨w.heap.size + 1, 0, none⟩ = some (.int .i64 u0') := fun w' h => by rw [cell_of_row _ _ _ _ _ _ (HR2.out w' h)]; rfl
  have j1 : ∀ w', Below W0.heap.size W0 w' → w'.cell? ⟨w.heap.size + 1, 1, none⟩ = some (.int .i64 u1') := fun w' h => by rw [cell_of_row _ _ _ _ _ _ (HR2.out w' h)]; rfl
  have j2 : ∀ w', Below W0.heap.size W0 w' → w'.cell? ⟨w.heap.size + 1, 2, none⟩ = some (.int .i64 u2') := fun w' h => by rw [cell_of_row _ _ _ _ _ _ (HR2.out w' h)]; rfl
  have j3 : ∀ w', Below W0.heap.size W0 w' → w'.cell? ⟨w.heap.size + 1, 3, none⟩ = some (.int .i64 u3') := fun w' h => by rw [cell_of_row _ _ _ _ _ _ (HR2.out w' h)]; rfl
  have j4 : ∀ w', Below W0.heap.size W0 w' → w'.cell? ⟨w.heap.size + 1, 4, none⟩ = some (.int .i64 l0') := fun w' h => by rw [cell_of_row _ _ _ _ _ _ (HR2.out w' h)]; rfl
  have j5 : ∀ w', Below W0.heap.size W0 w' → w'.cell? ⟨w.heap.size + 1, 5, none⟩ = some (.int .i64 l1') := fun w' h => by rw [cell_of_row _ _ _ _ _ _ (HR2.out w' h)]; rfl
  have j6 : ∀ w', Below W0.heap.size W0 w' → w'.cell? ⟨w.heap.size + 1, 6, none⟩ = some (.int .i64 l2') := fun w' h => by rw [cell_of_row _ _ _ _ _ _ (HR2.out w' h)]; rfl
  have j7 : ∀ w', Below W0.heap.size W0 w' → w'.cell? ⟨w.heap.size + 1, 7, none⟩ = some (.int .i64 l3') := fun w' h => by rw [cell_of_row _ _ _ _ _ _ (HR2.out w' h)]; rfl
  have j8 : ∀ w', Below W0.heap.size W0 w' → w'.cell? ⟨w.heap.size + 1, 8, none⟩ = some (.int .i64 b') := fun w' h => by rw [cell_of_row _ _ _ _ _ _ (HR2.out w' h)]; rfl
  have HPR : Hid (∀ W, Below w.heap.size w W → Calls Try.prog 11 #[.slice p raw.length c] W fun e w' => ∃ g n cap prog, e = .returned (.slice (some ⟨g, 0, none⟩) n cap) ∧ prog.length = n ∧ isProg prog = true ∧ RdO w' (some ⟨g, 0, none⟩) prog ∧ W.heap.size ≤ g ∧ Below W.heap.size W w') := fun W h => program_any p c raw W (HP.out.below (Nat.le_refl _) h) HIN.out HLEN.out
  have HME : Hid (∀ W, Calls Try.prog 12 #[.slice pm mem.length cm] W fun e w' => e = .returned (.slice pm mt.length cm) ∧ w' = W) := fun W => memory_any pm cm mem W HLM.out HCM.out mt HMT.out
  have HZ0 := hide hz0
  clear hb0 hr1 hr2 hz0
  go_enter Try.func4, Try.ntmps4
  go_upto_region 1 with fail
  clear hW0
  go_upto_region 3 with (first | (go_at_call 9; refine (ran_any _).mono ?_; rintro e wa ⟨rfl, hba⟩) | (go_at_call 11; refine (HPR.out _ (bCall HB0.out hba)).mono ?_; rintro e wb ⟨g, n, cap, prog, rfl, hpl, hprog, hrd, hgg, hbb⟩))
  subst hpl
  have hBb : Below W0.heap.size W0 wb := bCall hba hbb
  have HBb := hide hBb
  have hls : w.heap.size < wb.heap.size := by have := hBb.size; have := HZ0.out; omega
  have hls1 : w.heap.size + 1 < wb.heap.size := by have := hBb.size; have := HZ0.out; omega
  have HRM : Hid (∀ W, Below wb.heap.size wb W → Rd W pm mt) := fun W h => by rw [HMT.out]; exact (HM.out.below (Nat.le_refl _) (bCall HB0.out (bCall HBb.out h))).cut 16
  have HRP : Hid (∀ W, Below wb.heap.size wb W → RdO W (some ⟨g, 0, none⟩) prog) := fun W h => hrd.below (Nat.le_refl _) h
  obtain ⟨r1, hr1⟩ : ∃ r, r = runM [y0, y1, y2, 1] [y4, y5, y6, y7] y8 prog mt 400 := ⟨_, rfl⟩
  obtain ⟨r2, hr2⟩ : ∃ r, r = runM [z0, z1, z2, 1] [z4, z5, z6, z7] z8 prog mt 400 := ⟨_, rfl⟩
  have HX1 : Hid (∀ W, Below wb.heap.size wb W → Calls Try.prog 13 #[.agg #[.int .i64 y0, .int .i64 y1, .int .i64 y2, .int .i64 1, .int .i64 y4, .int .i64 y5, .int .i64 y6, .int .i64 y7, .int .i64 y8], .slice (some ⟨g, 0, none⟩) prog.length cap, .slice pm mt.length cm, .int .i64 400] W fun e w' =>
      ∃ x0 x1 x2 x3 x4 x5 x6 x7 pp cc pt ct, e = .returned (.tuple #[.agg #[.int .i64 x0, .int .i64 x1, .int .i64 x2, .int .i64 x3, .int .i64 x4, .int .i64 x5, .int .i64 x6, .int .i64 x7, .slice pp r1.mem.length cc, .int .i64 r1.next, .int .i64 r1.stop, .int .i64 r1.trap, .int .i64 r1.steps], .slice pt r1.given.length ct, .int .i64 0]) ∧
        r1.regs = [x0, x1, x2, x3, x4, x5, x6, x7] ∧ Below W.heap.size W w' ∧ Rd w' pp r1.mem ∧ TmR w' W.heap.size pt r1.given) := fun W h =>
    run_good y0 y1 y2 1 y4 y5 y6 y7 y8 _ pm cap cm prog mt 400 W (HRP.out W h) (HRM.out W h) hprog hmt16 (by omega) (by omega) HF1.out r1 hr1
  have HX2 : Hid (∀ W, Below wb.heap.size wb W → Calls Try.prog 13 #[.agg #[.int .i64 z0, .int .i64 z1, .int .i64 z2, .int .i64 1, .int .i64 z4, .int .i64 z5, .int .i64 z6, .int .i64 z7, .int .i64 z8], .slice (some ⟨g, 0, none⟩) prog.length cap, .slice pm mt.length cm, .int .i64 400] W fun e w' =>
      ∃ x0 x1 x2 x3 x4 x5 x6 x7 pp cc pt ct, e = .returned (.tuple #[.agg #[.int .i64 x0, .int .i64 x1, .int .i64 x2, .int .i64 x3, .int .i64 x4, .int .i64 x5, .int .i64 x6, .int .i64 x7, .slice pp r2.mem.length cc, .int .i64 r2.next, .int .i64 r2.stop, .int .i64 r2.trap, .int .i64 r2.steps], .slice pt r2.given.length ct, .int .i64 0]) ∧
        r2.regs = [x0, x1, x2, x3, x4, x5, x6, x7] ∧ Below W.heap.size W w' ∧ Rd w' pp r2.mem ∧ TmR w' W.heap.size pt r2.given) := fun W h =>
    run_good z0 z1 z2 1 z4 z5 z6 z7 z8 _ pm cap cm prog mt 400 W (HRP.out W h) (HRM.out W h) hprog hmt16 (by omega) (by omega) HF2.out r2 hr2
  have HAN := anyhow_pure HG1.out HG2.out hprog mt 400 (by omega)
  rw [← hr1, ← hr2] at HAN
  have HAN := hide HAN
  have L1 : r1.mem.length ≤ 16 := by rw [hr1, run_mem_len HG1.out hprog mt 400 (by omega)]; exact hmt16
  have L2 : r2.mem.length ≤ 16 := by rw [hr2, run_mem_len HG2.out hprog mt 400 (by omega)]; exact hmt16
  have HL1 := hide L1
  have HL2 := hide L2
  clear hr1 hr2 L1 L2 hprog hrd hgg hba hbb hmt16 HRP HRM HPR HM HP HIN HLEN HLM HMT HCM HF1 HF2 HG1 HG2
  have hk : ∀ w', Below wb.heap.size wb w' → Below W0.heap.size W0 w' := fun w' h => bCall HBb.out h
  have k0' : ∀ w', Below wb.heap.size wb w' → w'.cell? ⟨w.heap.size, 0, none⟩ = some (.int .i64 u0) := fun w' h => k0 w' (hk w' h)
  have j0' : ∀ w', Below wb.heap.size wb w' → w'.cell? ⟨w.heap.size + 1, 0, none⟩ = some (.int .i64 u0') := fun w' h => j0 w' (hk w' h)
  have k1' : ∀ w', Below wb.heap.size wb w' → w'.cell? ⟨w.heap.size, 1, none⟩ = some (.int .i64 u1) := fun w' h => k1 w' (hk w' h)
  have j1' : ∀ w', Below wb.heap.size wb w' → w'.cell? ⟨w.heap.size + 1, 1, none⟩ = some (.int .i64 u1') := fun w' h => j1 w' (hk w' h)
  have k2' : ∀ w', Below wb.heap.size wb w' → w'.cell? ⟨w.heap.size, 2, none⟩ = some (.int .i64 u2) := fun w' h => k2 w' (hk w' h)
  have j2' : ∀ w', Below wb.heap.size wb w' → w'.cell? ⟨w.heap.size + 1, 2, none⟩ = some (.int .i64 u2') := fun w' h => j2 w' (hk w' h)
  have k3' : ∀ w', Below wb.heap.size wb w' → w'.cell? ⟨w.heap.size, 3, none⟩ = some (.int .i64 u3) := fun w' h => k3 w' (hk w' h)
  have j3' : ∀ w', Below wb.heap.size wb w' → w'.cell? ⟨w.heap.size + 1, 3, none⟩ = some (.int .i64 u3') := fun w' h => j3 w' (hk w' h)
  have k4' : ∀ w', Below wb.heap.size wb w' → w'.cell? ⟨w.heap.size, 4, none⟩ = some (.int .i64 l0) := fun w' h => k4 w' (hk w' h)
  have j4' : ∀ w', Below wb.heap.size wb w' → w'.cell? ⟨w.heap.size + 1, 4, none⟩ = some (.int .i64 l0') := fun w' h => j4 w' (hk w' h)
  have k5' : ∀ w', Below wb.heap.size wb w' → w'.cell? ⟨w.heap.size, 5, none⟩ = some (.int .i64 l1) := fun w' h => k5 w' (hk w' h)
  have j5' : ∀ w', Below wb.heap.size wb w' → w'.cell? ⟨w.heap.size + 1, 5, none⟩ = some (.int .i64 l1') := fun w' h => j5 w' (hk w' h)
  have k6' : ∀ w', Below wb.heap.size wb w' → w'.cell? ⟨w.heap.size, 6, none⟩ = some (.int .i64 l2) := fun w' h => k6 w' (hk w' h)
  have j6' : ∀ w', Below wb.heap.size wb w' → w'.cell? ⟨w.heap.size + 1, 6, none⟩ = some (.int .i64 l2') := fun w' h => j6 w' (hk w' h)
  have k7' : ∀ w', Below wb.heap.size wb w' → w'.cell? ⟨w.heap.size, 7, none⟩ = some (.int .i64 l3) := fun w' h => k7 w' (hk w' h)
  have j7' : ∀ w', Below wb.heap.size wb w' → w'.cell? ⟨w.heap.size + 1, 7, none⟩ = some (.int .i64 l3') := fun w' h => j7 w' (hk w' h)
  have k8' : ∀ w', Below wb.heap.size wb w' → w'.cell? ⟨w.heap.size, 8, none⟩ = some (.int .i64 b) := fun w' h => k8 w' (hk w' h)
  have j8' : ∀ w', Below wb.heap.size wb w' → w'.cell? ⟨w.heap.size + 1, 8, none⟩ = some (.int .i64 b') := fun w' h => j8 w' (hk w' h)
  have hW : Below w.heap.size w wb := bCall HB0.out hBb
  have HW := hide hW
  clear hk hBb hW k0 j0 k1 j1 k2 j2 k3 j3 k4 j4 k5 j5 k6 j6 k7 j7 k8 j8
  have hrb : Below wb.heap.size wb wb := Below.refl _ _
  go_upto_region 5 with (first | (go_at_call 12; refine (HME.out _).mono ?_; rintro e W' ⟨rfl, hW'⟩; have hW'' := hW'.symm; clear hW'; subst hW'') | (go_at_call 10; refine (HC1.out _).mono ?_; rintro e wc ⟨rfl, hbc⟩; have hBc : Below wb.heap.size wb wc := (bCall (by (repeat (first | with_reducible assumption | with_reducible exact Below.refl _ _ | with_reducible refine bAl ?_ _))) hbc)) | (go_at_call 13; refine (HX1.out _ (by (repeat (first | with_reducible assumption | with_reducible exact Below.refl _ _ | with_reducible refine bAl ?_ _)))).mono ?_; rintro e wd ⟨x0, x1, x2, x3, x4, x5, x6, x7, pp, cc, pt, ct, rfl, hx, hbd, hrd1, _⟩; have hBd : Below wb.heap.size wb wd := (bCall (by (repeat (first | with_reducible assumption | with_reducible exact Below.refl _ _ | with_reducible refine bAl ?_ _))) hbd)))
  obtain ⟨W1, hW1⟩ : ∃ W1, wd.alloc (.cells #[.int .i64 x0, .int .i64 x1, .int .i64 x2, .int .i64 x3, .int .i64 x4, .int .i64 x5, .int .i64 x6, .int .i64 x7, .slice pp r1.mem.length cc, .int .i64 r1.next, .int .i64 r1.stop, .int .i64 r1.trap, .int .i64 r1.steps] 33) = W1 := ⟨_, rfl⟩
  have hB1 : Below wb.heap.size wb W1 := by rw [← hW1]; exact bAl hBd _
  have hz1 : W1.heap.size = wd.heap.size + 1 := by rw [← hW1]; simp
  have hS : W1.heap[wd.heap.size]? = some (.cells #[.int .i64 x0, .int .i64 x1, .int .i64 x2, .int .i64 x3, .int .i64 x4, .int .i64 x5, .int .i64 x6, .int .i64 x7, .slice pp r1.mem.length cc, .int .i64 r1.next, .int .i64 r1.stop, .int .i64 r1.trap, .int .i64 r1.steps] 33 (0, 0)) := by rw [← hW1]; exact heap_alloc_new _ _
  have HRD1 : Hid (∀ W, Below W1.heap.size W1 W → Rd W pp r1.mem) := fun W h => hrd1.below (Nat.le_refl _) ((show Below wd.heap.size wd W1 by rw [← hW1]; exact bAl (Below.refl _ _) _).trans (h.mono (by omega)))
  rw [hW1]
  have s0 : ∀ w', Below W1.heap.size W1 w' → w'.cell? ⟨wd.heap.size, 0, none⟩ = some (.int .i64 x0) := fun w' h => by rw [h.cell (p := ⟨wd.heap.size, 0, none⟩) (show wd.heap.size < W1.heap.size by omega), cell_of_row _ _ _ _ _ _ hS]; rfl
  have s1 : ∀ w', Below W1.heap.size W1 w' → w'.cell? ⟨wd.heap.size, 1, none⟩ = some (.int .i64 x1) := fun w' h => by rw [h.cell (p := ⟨wd.heap.size, 1, none⟩) (show wd.heap.size < W1.heap.size by omega), cell_of_row _ _ _ _ _ _ hS]; rfl
  have s2 : ∀ w', Below W1.heap.size W1 w' → w'.cell? ⟨wd.heap.size, 2, none⟩ = some (.int .i64 x2) := fun w' h => by rw [h.cell (p := ⟨wd.heap.size, 2, none⟩) (show wd.heap.size < W1.heap.size by omega), cell_of_row _ _ _ _ _ _ hS]; rfl
  have s3 : ∀ w', Below W1.heap.size W1 w' → w'.cell? ⟨wd.heap.size, 3, none⟩ = some (.int .i64 x3) := fun w' h => by rw [h.cell (p := ⟨wd.heap.size, 3, none⟩) (show wd.heap.size < W1.heap.size by omega), cell_of_row _ _ _ _ _ _ hS]; rfl
  have s4 : ∀ w', Below W1.heap.size W1 w' → w'.cell? ⟨wd.heap.size, 4, none⟩ = some (.int .i64 x4) := fun w' h => by rw [h.cell (p := ⟨wd.heap.size, 4, none⟩) (show wd.heap.size < W1.heap.size by omega), cell_of_row _ _ _ _ _ _ hS]; rfl
  have s5 : ∀ w', Below W1.heap.size W1 w' → w'.cell? ⟨wd.heap.size, 5, none⟩ = some (.int .i64 x5) := fun w' h => by rw [h.cell (p := ⟨wd.heap.size, 5, none⟩) (show wd.heap.size < W1.heap.size by omega), cell_of_row _ _ _ _ _ _ hS]; rfl
  have s6 : ∀ w', Below W1.heap.size W1 w' → w'.cell? ⟨wd.heap.size, 6, none⟩ = some (.int .i64 x6) := fun w' h => by rw [h.cell (p := ⟨wd.heap.size, 6, none⟩) (show wd.heap.size < W1.heap.size by omega), cell_of_row _ _ _ _ _ _ hS]; rfl
  have s7 : ∀ w', Below W1.heap.size W1 w' → w'.cell? ⟨wd.heap.size, 7, none⟩ = some (.int .i64 x7) := fun w' h => by rw [h.cell (p := ⟨wd.heap.size, 7, none⟩) (show wd.heap.size < W1.heap.size by omega), cell_of_row _ _ _ _ _ _ hS]; rfl
  have s8 : ∀ w', Below W1.heap.size W1 w' → w'.cell? ⟨wd.heap.size, 8, none⟩ = some (.slice pp r1.mem.length cc) := fun w' h => by rw [h.cell (p := ⟨wd.heap.size, 8, none⟩) (show wd.heap.size < W1.heap.size by omega), cell_of_row _ _ _ _ _ _ hS]; rfl
  have s9 : ∀ w', Below W1.heap.size W1 w' → w'.cell? ⟨wd.heap.size, 9, none⟩ = some (.int .i64 r1.next) := fun w' h => by rw [h.cell (p := ⟨wd.heap.size, 9, none⟩) (show wd.heap.size < W1.heap.size by omega), cell_of_row _ _ _ _ _ _ hS]; rfl
  have s10 : ∀ w', Below W1.heap.size W1 w' → w'.cell? ⟨wd.heap.size, 10, none⟩ = some (.int .i64 r1.stop) := fun w' h => by rw [h.cell (p := ⟨wd.heap.size, 10, none⟩) (show wd.heap.size < W1.heap.size by omega), cell_of_row _ _ _ _ _ _ hS]; rfl
  have s11 : ∀ w', Below W1.heap.size W1 w' → w'.cell? ⟨wd.heap.size, 11, none⟩ = some (.int .i64 r1.trap) := fun w' h => by rw [h.cell (p := ⟨wd.heap.size, 11, none⟩) (show wd.heap.size < W1.heap.size by omega), cell_of_row _ _ _ _ _ _ hS]; rfl
  have s12 : ∀ w', Below W1.heap.size W1 w' → w'.cell? ⟨wd.heap.size, 12, none⟩ = some (.int .i64 r1.steps) := fun w' h => by rw [h.cell (p := ⟨wd.heap.size, 12, none⟩) (show wd.heap.size < W1.heap.size by omega), cell_of_row _ _ _ _ _ _ hS]; rfl
  have HAL : Hid (∀ W a0 a1 a2 a3 a4 a5 a6 a7 pq cq, Below W1.heap.size W1 W → Rd W pq r2.mem → Calls Try.prog 15 #[.agg #[.int .i64 x0, .int .i64 x1, .int .i64 x2, .int .i64 x3, .int .i64 x4, .int .i64 x5, .int .i64 x6, .int .i64 x7, .slice pp r1.mem.length cc, .int .i64 r1.next, .int .i64 r1.stop, .int .i64 r1.trap, .int .i64 r1.steps], .agg #[.int .i64 a0, .int .i64 a1, .int .i64 a2, .int .i64 a3, .int .i64 a4, .int .i64 a5, .int .i64 a6, .int .i64 a7, .slice pq r2.mem.length cq, .int .i64 r2.next, .int .i64 r2.stop, .int .i64 r2.trap, .int .i64 r2.steps]] W fun e w' => ∃ q : Bool, e = .returned (.bool q) ∧ ((r1.mem = r2.mem ∧ [x0, x1, x2, x3, x4, x5, x6, x7] = [a0, a1, a2, a3, a4, a5, a6, a7] ∧ (r1.next : Int) = r2.next ∧ r1.stop = r2.stop ∧ r1.trap = r2.trap) → q = true) ∧ Below W.heap.size W w') := fun W a0 a1 a2 a3 a4 a5 a6 a7 pq cq h h' =>
    alike_any x0 x1 x2 x3 x4 x5 x6 x7 r1.next r1.stop r1.trap r1.steps a0 a1 a2 a3 a4 a5 a6 a7 r2.next r2.stop r2.trap r2.steps pp pq cc cq r1.mem r2.mem W (HRD1.out W h) h' (by have := HL1.out; omega) (by have := HL2.out; omega)
  have HX := hide hx
  have hls' : wd.heap.size < W1.heap.size := by omega
  have hls2 : w.heap.size + 1 < W1.heap.size := Nat.lt_of_lt_of_le hls1 hB1.size
  have hrW : Below W1.heap.size W1 W1 := Below.refl _ _
  have HB1 := hide hB1
  have jj : ∀ w', Below W1.heap.size W1 w' → Below wb.heap.size wb w' := fun w' h => bCall HB1.out h
  have HJJ := hide jj
  have i0 : ∀ w', Below W1.heap.size W1 w' → w'.cell? ⟨w.heap.size + 1, 0, none⟩ = some (.int .i64 u0') := fun w' h => j0' w' (jj w' h)
  have i1 : ∀ w', Below W1.heap.size W1 w' → w'.cell? ⟨w.heap.size + 1, 1, none⟩ = some (.int .i64 u1') := fun w' h => j1' w' (jj w' h)
  have i2 : ∀ w', Below W1.heap.size W1 w' → w'.cell? ⟨w.heap.size + 1, 2, none⟩ = some (.int .i64 u2') := fun w' h => j2' w' (jj w' h)
  have i3 : ∀ w', Below W1.heap.size W1 w' → w'.cell? ⟨w.heap.size + 1, 3, none⟩ = some (.int .i64 u3') := fun w' h => j3' w' (jj w' h)
  have i4 : ∀ w', Below W1.heap.size W1 w' → w'.cell? ⟨w.heap.size + 1, 4, none⟩ = some (.int .i64 l0') := fun w' h => j4' w' (jj w' h)
  have i5 : ∀ w', Below W1.heap.size W1 w' → w'.cell? ⟨w.heap.size + 1, 5, none⟩ = some (.int .i64 l1') := fun w' h => j5' w' (jj w' h)
  have i6 : ∀ w', Below W1.heap.size W1 w' → w'.cell? ⟨w.heap.size + 1, 6, none⟩ = some (.int .i64 l2') := fun w' h => j6' w' (jj w' h)
  have i7 : ∀ w', Below W1.heap.size W1 w' → w'.cell? ⟨w.heap.size + 1, 7, none⟩ = some (.int .i64 l3') := fun w' h => j7' w' (jj w' h)
  have i8 : ∀ w', Below W1.heap.size W1 w' → w'.cell? ⟨w.heap.size + 1, 8, none⟩ = some (.int .i64 b') := fun w' h => j8' w' (jj w' h)
  clear jj hx hrd1 hbd hbc hBc hBd hB1 hW1 hS hz1 hrb HX1 HC1 k0' j0' k1' j1' k2' j2' k3' j3' k4' j4' k5' j5' k6' j6' k7' j7' k8' j8'
  go_upto_region 9 with (first | (go_at_call 10; refine (HC2.out _).mono ?_; rintro e wc ⟨rfl, hbc⟩; have hBc : Below W1.heap.size W1 wc := (bCall (by (repeat (first | with_reducible assumption | with_reducible exact Below.refl _ _ | with_reducible refine bAl ?_ _))) hbc)) | (go_at_call 13; refine (HX2.out _ (HJJ.out _ (by (repeat (first | with_reducible assumption | with_reducible exact Below.refl _ _ | with_reducible refine bAl ?_ _))))).mono ?_; rintro e we ⟨a0, a1, a2, a3, a4, a5, a6, a7, pq, cq, pu, cu, rfl, ha, hbe, hrd2, _⟩; have hBe : Below W1.heap.size W1 we := (bCall (by (repeat (first | with_reducible assumption | with_reducible exact Below.refl _ _ | with_reducible refine bAl ?_ _))) hbe); have hle : wd.heap.size < we.heap.size := (Nat.lt_of_lt_of_le hls' hBe.size); have HA := hide ha; clear ha) | (go_at_call 15; refine (HAL.out _ _ _ _ _ _ _ _ _ _ _ (by (repeat (first | with_reducible assumption | with_reducible exact Below.refl _ _ | with_reducible refine bAl ?_ _))) (hrd2.below (Nat.le_refl _) (bAl (Below.refl _ _) _))).mono ?_; rintro e wf ⟨q, rfl, hq, hbf⟩; have HQ := hide hq; clear hq; have hBf : Below W1.heap.size W1 wf := (bCall (by (repeat (first | with_reducible assumption | with_reducible exact Below.refl _ _ | with_reducible refine bAl ?_ _))) hbf); have hlf : wd.heap.size < wf.heap.size := (Nat.lt_of_lt_of_le hls' hBf.size); obtain ⟨hcf, hff⟩ := bcell hbf; have hlg : we.heap.size < wf.heap.size := (by have := hbf.size; simp at this; omega)))
  cases q with
  | true =>
    go_wp2
    go_ret
    exact ⟨rfl, bCall HW.out (HJJ.out _ hBf)⟩
  | false =>
    have hst : r1.stop = 2 ∨ r2.stop = 2 := by
      rcases HAN.out with ⟨e1, e2, e3, e4, e5⟩ | h
      · have := HQ.out ⟨e2, by rw [← HX.out, ← HA.out]; exact e1, by rw [e3], e4, e5⟩
        cases this
      · exact h
    by_cases h1 : r1.stop = 2
    · have h1b : (r1.stop == 2) = true := by simp [h1]
      clear hst h1
      go_wp2
      go_ret
      exact ⟨rfl, bCall HW.out (HJJ.out _ hBf)⟩
    · have h1b : (r1.stop == 2) = false := by simp [h1]
      have h2b : (r2.stop == 2) = true := by
        rcases hst with h | h
        · exact absurd h h1
        · simp [h]
      clear hst h1
      go_wp2
      go_ret
      exact ⟨rfl, bCall HW.out (HJJ.out _ hBf)⟩

end Go.Proofs.Ytmeiogoodbnkkaa

/- boardkeep.Precise. -/
namespace Go.Proofs.Ytmeiogoodbnkkaa
open Go.RowKit

set_option maxRecDepth 100000 in
set_option maxHeartbeats 8000000 in
theorem precise_law (u0 u1 u2 u3 l0 l1 l2 l3 b : Int) (hu : In64 u0 ∧ In64 u1 ∧ In64 u2 ∧ In64 u3 ∧ In64 l0 ∧ In64 l1 ∧ In64 l2 ∧ In64 l3 ∧ In64 b)
    (p pm : Option Addr) (c cm : Nat) (raw : List Ord) (mem : List Int) (w : World) (hp : RdO w p raw) (hin : ∀ j, j < raw.length → In64O (raw.getD j Ord.none)) (hlen : (raw.length : Int) ≤ 1000000000000000) (hm : Rd w pm mem) (hlm : (mem.length : Int) ≤ 1000000000000000) (hcm : mem.length ≤ cm) :
    Calls Try.prog 3 #[.agg #[.int .i64 u0, .int .i64 u1, .int .i64 u2, .int .i64 u3, .int .i64 l0, .int .i64 l1, .int .i64 l2, .int .i64 l3, .int .i64 b], .slice p raw.length c, .slice pm mem.length cm] w fun e w' => e = .returned (.bool true) ∧ Below w.heap.size w w' := by
  have HP := hide hp
  have HIN := hide hin
  have HM := hide hm
  have HLEN := hide hlen
  have HLM := hide hlm
  have HCM := hide hcm
  have HC1 := hide (fun W => config_any u0 u1 u2 u3 l0 l1 l2 l3 b hu.1 hu.2.1 hu.2.2.1 hu.2.2.2.1 hu.2.2.2.2.1 hu.2.2.2.2.2.1 hu.2.2.2.2.2.2.1 hu.2.2.2.2.2.2.2.1 hu.2.2.2.2.2.2.2.2 W)
  have hG1 := cfg_ok u0 u1 u2 l0 l1 l2 l3 b
  have hF1 := cfg_fit u0 u1 u2 l0 l1 l2 l3 b
  clear hp hin hm hlen hlm hcm hu
  generalize 1 + pk u0 3 = y0 at *
  generalize 1 + pk u1 3 = y1 at *
  generalize 1 + pk u2 3 = y2 at *
  generalize 1 + pk l0 12 = y4 at *
  generalize 1 + pk l1 12 = y5 at *
  generalize 1 + pk l2 12 = y6 at *
  generalize 1 + pk l3 12 = y7 at *
  generalize 1 + pk b 3 = y8 at *
  have HG1 := hide hG1
  have HF1 := hide hF1
  clear hG1 hF1
  obtain ⟨mt, hmt⟩ : ∃ mt, mt = mem.take 16 := ⟨_, rfl⟩
  have hmt16 : mt.length ≤ 16 := by rw [hmt]; simp; omega
  have HMT := hide hmt
  have HMT16 := hide hmt16
  clear hmt hmt16
  obtain ⟨W0, hW0⟩ : ∃ W0, w.alloc (.cells #[.int .i64 u0, .int .i64 u1, .int .i64 u2, .int .i64 u3, .int .i64 l0, .int .i64 l1, .int .i64 l2, .int .i64 l3, .int .i64 b] 24) = W0 := ⟨_, rfl⟩
  have hb0 : Below w.heap.size w W0 := by rw [← hW0]; exact bAl (Below.refl _ _) _
  have hz0 : W0.heap.size = w.heap.size + 1 := by rw [← hW0]; simp
  have hr1 := cfg_rules (show W0.heap[w.heap.size]? = _ by rw [← hW0]; exact hNew rfl)
  have HB0 := hide hb0
  have HR1 := hide hr1
  have k0 : ∀ w', Below W0.heap.size W0 w' → w'.cell? ⟨w.heap.size, 0, none⟩ = some (.int .i64 u0) := fun w' h => by rw [cell_of_row _ _ _ _ _ _ (HR1.out w' h)]; rfl
  have k1 : ∀ w', Below W0.heap.size W0 w' → w'.cell? ⟨w.heap.size, 1, none⟩ = some (.int .i64 u1) := fun w' h => by rw [cell_of_row _ _ _ _ _ _ (HR1.out w' h)]; rfl
  have k2 : ∀ w', Below W0.heap.size W0 w' → w'.cell? ⟨w.heap.size, 2, none⟩ = some (.int .i64 u2) := fun w' h => by rw [cell_of_row _ _ _ _ _ _ (HR1.out w' h)]; rfl
  have k3 : ∀ w', Below W0.heap.size W0 w' → w'.cell? ⟨w.heap.size, 3, none⟩ = some (.int .i64 u3) := fun w' h => by rw [cell_of_row _ _ _ _ _ _ (HR1.out w' h)]; rfl
  have k4 : ∀ w', Below W0.heap.size W0 w' → w'.cell? ⟨w.heap.size, 4, none⟩ = some (.int .i64 l0) := fun w' h => by rw [cell_of_row _ _ _ _ _ _ (HR1.out w' h)]; rfl
  have k5 : ∀ w', Below W0.heap.size W0 w' → w'.cell? ⟨w.heap.size, 5, none⟩ = some (.int .i64 l1) := fun w' h => by rw [cell_of_row _ _ _ _ _ _ (HR1.out w' h)]; rfl
  have k6 : ∀ w', Below W0.heap.size W0 w' → w'.cell? ⟨w.heap.size, 6, none⟩ = some (.int .i64 l2) := fun w' h => by rw [cell_of_row _ _ _ _ _ _ (HR1.out w' h)]; rfl
  have k7 : ∀ w', Below W0.heap.size W0 w' → w'.cell? ⟨w.heap.size, 7, none⟩ = some (.int .i64 l3) := fun w' h => by rw [cell_of_row _ _ _ _ _ _ (HR1.out w' h)]; rfl
  have k8 : ∀ w', Below W0.heap.size W0 w' → w'.cell? ⟨w.heap.size, 8, none⟩ = some (.int .i64 b) := fun w' h => by rw [cell_of_row _ _ _ _ _ _ (HR1.out w' h)]; rfl
  have HPR : Hid (∀ W, Below w.heap.size w W → Calls Try.prog 11 #[.slice p raw.length c] W fun e w' => ∃ g n cap prog, e = .returned (.slice (some ⟨g, 0, none⟩) n cap) ∧ prog.length = n ∧ isProg prog = true ∧ RdO w' (some ⟨g, 0, none⟩) prog ∧ W.heap.size ≤ g ∧ Below W.heap.size W w') := fun W h => program_any p c raw W (HP.out.below (Nat.le_refl _) h) HIN.out HLEN.out
  have HME : Hid (∀ W, Calls Try.prog 12 #[.slice pm mem.length cm] W fun e w' => e = .returned (.slice pm mt.length cm) ∧ w' = W) := fun W => memory_any pm cm mem W HLM.out HCM.out mt HMT.out
  have HZ0 := hide hz0
  clear hb0 hr1 hz0
  go_enter Try.func3, Try.ntmps3
  go_upto_region 1 with fail
  clear hW0
  have hrb : Below W0.heap.size W0 W0 := Below.refl _ _
  go_upto_region 4 with (first | (go_at_call 9; refine (ran_any _).mono ?_; rintro e wa ⟨rfl, hba⟩; have hBa : Below W0.heap.size W0 wa := hba) | (go_at_call 10; refine (HC1.out _).mono ?_; rintro e wc ⟨rfl, hbc⟩; have hBc : Below W0.heap.size W0 wc := (bCall (by (repeat (first | with_reducible assumption | with_reducible exact Below.refl _ _ | with_reducible refine bAl ?_ _))) hbc)) | (go_at_call 11; refine (HPR.out _ (bCall HB0.out (by (repeat (first | with_reducible assumption | with_reducible exact Below.refl _ _ | with_reducible refine bAl ?_ _))))).mono ?_; rintro e wb ⟨g, n, cap, prog, rfl, hpl, hprog, hrd, hgg, hbb⟩))
  subst hpl
  have hcz : (wc.alloc (.cells #[.int .i64 y0, .int .i64 y1, .int .i64 y2, .int .i64 1, .int .i64 y4, .int .i64 y5, .int .i64 y6, .int .i64 y7, .int .i64 y8] 24)).heap[wc.heap.size]? = some (.cells #[.int .i64 y0, .int .i64 y1, .int .i64 y2, .int .i64 1, .int .i64 y4, .int .i64 y5, .int .i64 y6, .int .i64 y7, .int .i64 y8] 24 (0, 0)) := heap_alloc_new _ _
  have hBb : Below W0.heap.size W0 wb := bCall (bAl hBc _) hbb
  have HBb := hide hBb
  have hC : wb.heap[wc.heap.size]? = some (.cells #[.int .i64 y0, .int .i64 y1, .int .i64 y2, .int .i64 1, .int .i64 y4, .int .i64 y5, .int .i64 y6, .int .i64 y7, .int .i64 y8] 24 (0, 0)) := by rw [hbb.block _ (by simp)]; exact hcz
  have hlC : wc.heap.size < wb.heap.size := (Array.getElem?_eq_some_iff.1 hC).1
  generalize wc.heap.size = C at *
  have HRM : Hid (∀ W, Below wb.heap.size wb W → Rd W pm mt) := fun W h => by rw [HMT.out]; exact (HM.out.below (Nat.le_refl _) (bCall HB0.out (bCall HBb.out h))).cut 16
  have HRP : Hid (∀ W, Below wb.heap.size wb W → RdO W (some ⟨g, 0, none⟩) prog) := fun W h => hrd.below (Nat.le_refl _) h
  have q0 : ∀ w', Below wb.heap.size wb w' → w'.cell? ⟨C, 0, none⟩ = some (.int .i64 y0) := fun w' h => by rw [h.cell (p := ⟨C, 0, none⟩) hlC, cell_of_row _ _ _ _ _ _ hC]; rfl
  have q1 : ∀ w', Below wb.heap.size wb w' → w'.cell? ⟨C, 1, none⟩ = some (.int .i64 y1) := fun w' h => by rw [h.cell (p := ⟨C, 1, none⟩) hlC, cell_of_row _ _ _ _ _ _ hC]; rfl
  have q2 : ∀ w', Below wb.heap.size wb w' → w'.cell? ⟨C, 2, none⟩ = some (.int .i64 y2) := fun w' h => by rw [h.cell (p := ⟨C, 2, none⟩) hlC, cell_of_row _ _ _ _ _ _ hC]; rfl
  have q3 : ∀ w', Below wb.heap.size wb w' → w'.cell? ⟨C, 3, none⟩ = some (.int .i64 1) := fun w' h => by rw [h.cell (p := ⟨C, 3, none⟩) hlC, cell_of_row _ _ _ _ _ _ hC]; rfl
  have q4 : ∀ w', Below wb.heap.size wb w' → w'.cell? ⟨C, 4, none⟩ = some (.int .i64 y4) := fun w' h => by rw [h.cell (p := ⟨C, 4, none⟩) hlC, cell_of_row _ _ _ _ _ _ hC]; rfl
  have q5 : ∀ w', Below wb.heap.size wb w' → w'.cell? ⟨C, 5, none⟩ = some (.int .i64 y5) := fun w' h => by rw [h.cell (p := ⟨C, 5, none⟩) hlC, cell_of_row _ _ _ _ _ _ hC]; rfl
  have q6 : ∀ w', Below wb.heap.size wb w' → w'.cell? ⟨C, 6, none⟩ = some (.int .i64 y6) := fun w' h => by rw [h.cell (p := ⟨C, 6, none⟩) hlC, cell_of_row _ _ _ _ _ _ hC]; rfl
  have q7 : ∀ w', Below wb.heap.size wb w' → w'.cell? ⟨C, 7, none⟩ = some (.int .i64 y7) := fun w' h => by rw [h.cell (p := ⟨C, 7, none⟩) hlC, cell_of_row _ _ _ _ _ _ hC]; rfl
  have q8 : ∀ w', Below wb.heap.size wb w' → w'.cell? ⟨C, 8, none⟩ = some (.int .i64 y8) := fun w' h => by rw [h.cell (p := ⟨C, 8, none⟩) hlC, cell_of_row _ _ _ _ _ _ hC]; rfl
  have hW : Below w.heap.size w wb := bCall HB0.out hBb
  have HW := hide hW
  have HPG := hide hprog
  clear hBb hW hcz hC hbb hBc hbc hBa hba hrd hgg hrb hprog HC1 HPR HM HP HIN HLEN HLM HMT HCM k0 k1 k2 k3 k4 k5 k6 k7 k8
  have hrb : Below wb.heap.size wb wb := Below.refl _ _
  obtain ⟨r, hr⟩ : ∃ r, r = runM [y0, y1, y2, 1] [y4, y5, y6, y7] y8 prog mt 400 := ⟨_, rfl⟩
  obtain ⟨s, st, tr, hs⟩ : ∃ s st tr, (s, st, tr) = plainSt prog mt 400 := ⟨_, _, _, rfl⟩
  have HX1 : Hid (∀ W, Below wb.heap.size wb W → Calls Try.prog 13 #[.agg #[.int .i64 y0, .int .i64 y1, .int .i64 y2, .int .i64 1, .int .i64 y4, .int .i64 y5, .int .i64 y6, .int .i64 y7, .int .i64 y8], .slice (some ⟨g, 0, none⟩) prog.length cap, .slice pm mt.length cm, .int .i64 400] W fun e w' => ∃ x0 x1 x2 x3 x4 x5 x6 x7 pp cc pt ct, e = .returned (.tuple #[.agg #[.int .i64 x0, .int .i64 x1, .int .i64 x2, .int .i64 x3, .int .i64 x4, .int .i64 x5, .int .i64 x6, .int .i64 x7, .slice pp r.mem.length cc, .int .i64 r.next, .int .i64 r.stop, .int .i64 r.trap, .int .i64 r.steps], .slice pt r.given.length ct, .int .i64 0]) ∧ r.regs = [x0, x1, x2, x3, x4, x5, x6, x7] ∧ Below W.heap.size W w' ∧ Rd w' pp r.mem ∧ TmR w' W.heap.size pt r.given) := fun W h =>
    run_good y0 y1 y2 1 y4 y5 y6 y7 y8 _ pm cap cm prog mt 400 W (HRP.out W h) (HRM.out W h) HPG.out HMT16.out (by omega) (by omega) HF1.out r hr
  have HX2 : Hid (∀ W, Below wb.heap.size wb W → Calls Try.prog 14 #[.slice (some ⟨g, 0, none⟩) prog.length cap, .slice pm mt.length cm, .int .i64 400] W fun e w' => ∃ x0 x1 x2 x3 x4 x5 x6 x7 pp cc, e = .returned (.tuple #[.agg #[.int .i64 x0, .int .i64 x1, .int .i64 x2, .int .i64 x3, .int .i64 x4, .int .i64 x5, .int .i64 x6, .int .i64 x7, .slice pp s.mem.length cc, .int .i64 s.next, .int .i64 st, .int .i64 tr, .int .i64 s.steps], .int .i64 0]) ∧ s.regs = [x0, x1, x2, x3, x4, x5, x6, x7] ∧ Below W.heap.size W w' ∧ Rd w' pp s.mem) := fun W h =>
    plain_good _ pm cap cm prog mt 400 W (HRP.out W h) (HRM.out W h) HPG.out HMT16.out (by omega) (by omega) s st tr hs
  have HPP := precise_pure HG1.out HPG.out mt 400 (by omega)
  rw [← hr, ← hs] at HPP
  have HPP := hide HPP
  have L1 : r.mem.length ≤ 16 := by rw [hr, run_mem_len HG1.out HPG.out mt 400 (by omega)]; exact HMT16.out
  have L2 : s.mem.length ≤ 16 := by have e : s = (plainSt prog mt 400).1 := (by rw [← hs]); rw [e, plain_mem_len]; exact HMT16.out
  have L3 : s.steps ≤ 400 := by have e : s = (plainSt prog mt 400).1 := (by rw [← hs]); rw [e]; exact (onward_plain prog mt 400 400 (Nat.le_refl _)).2.2
  have HL1 := hide L1
  have HL2 := hide L2
  clear hr hs L1 L2 HRP HRM HF1 HG1 HPG
  go_upto_region 6 with (first | (go_at_call 12; refine (HME.out _).mono ?_; rintro e W' ⟨rfl, hW'⟩; have hW'' := hW'.symm; clear hW'; subst hW'') | (go_at_call 13; refine (HX1.out _ (by (repeat (first | with_reducible assumption | with_reducible exact Below.refl _ _ | with_reducible refine bAl ?_ _)))).mono ?_; rintro e wd ⟨x0, x1, x2, x3, x4, x5, x6, x7, pp, cc, pt, ct, rfl, hx, hbd, hrd1, _⟩; have hBwd : Below wb.heap.size wb wd := (bCall (by (repeat (first | with_reducible assumption | with_reducible exact Below.refl _ _ | with_reducible refine bAl ?_ _))) hbd)))
  obtain ⟨W1, hW1⟩ : ∃ W1, wd.alloc (.cells #[.int .i64 x0, .int .i64 x1, .int .i64 x2, .int .i64 x3, .int .i64 x4, .int .i64 x5, .int .i64 x6, .int .i64 x7, .slice pp r.mem.length cc, .int .i64 r.next, .int .i64 r.stop, .int .i64 r.trap, .int .i64 r.steps] 33) = W1 := ⟨_, rfl⟩
  have hBW1 : Below wb.heap.size wb W1 := by rw [← hW1]; exact bAl hBwd _
  have hzW1 : W1.heap.size = wd.heap.size + 1 := by rw [← hW1]; simp
  have hSW1 : W1.heap[wd.heap.size]? = some (.cells #[.int .i64 x0, .int .i64 x1, .int .i64 x2, .int .i64 x3, .int .i64 x4, .int .i64 x5, .int .i64 x6, .int .i64 x7, .slice pp r.mem.length cc, .int .i64 r.next, .int .i64 r.stop, .int .i64 r.trap, .int .i64 r.steps] 33 (0, 0)) := by rw [← hW1]; exact heap_alloc_new _ _
  have HUW1 : Hid (Below wd.heap.size wd W1) := by rw [← hW1]; exact bAl (Below.refl _ _) _
  rw [hW1]
  clear hW1
  generalize hgW1 : wd.heap.size = S1 at *
  have s0 : ∀ w', Below W1.heap.size W1 w' → w'.cell? ⟨S1, 0, none⟩ = some (.int .i64 x0) := fun w' h => by rw [h.cell (p := ⟨S1, 0, none⟩) (show S1 < W1.heap.size by omega), cell_of_row _ _ _ _ _ _ hSW1]; rfl
  have s1 : ∀ w', Below W1.heap.size W1 w' → w'.cell? ⟨S1, 1, none⟩ = some (.int .i64 x1) := fun w' h => by rw [h.cell (p := ⟨S1, 1, none⟩) (show S1 < W1.heap.size by omega), cell_of_row _ _ _ _ _ _ hSW1]; rfl
  have s2 : ∀ w', Below W1.heap.size W1 w' → w'.cell? ⟨S1, 2, none⟩ = some (.int .i64 x2) := fun w' h => by rw [h.cell (p := ⟨S1, 2, none⟩) (show S1 < W1.heap.size by omega), cell_of_row _ _ _ _ _ _ hSW1]; rfl
  have s3 : ∀ w', Below W1.heap.size W1 w' → w'.cell? ⟨S1, 3, none⟩ = some (.int .i64 x3) := fun w' h => by rw [h.cell (p := ⟨S1, 3, none⟩) (show S1 < W1.heap.size by omega), cell_of_row _ _ _ _ _ _ hSW1]; rfl
  have s4 : ∀ w', Below W1.heap.size W1 w' → w'.cell? ⟨S1, 4, none⟩ = some (.int .i64 x4) := fun w' h => by rw [h.cell (p := ⟨S1, 4, none⟩) (show S1 < W1.heap.size by omega), cell_of_row _ _ _ _ _ _ hSW1]; rfl
  have s5 : ∀ w', Below W1.heap.size W1 w' → w'.cell? ⟨S1, 5, none⟩ = some (.int .i64 x5) := fun w' h => by rw [h.cell (p := ⟨S1, 5, none⟩) (show S1 < W1.heap.size by omega), cell_of_row _ _ _ _ _ _ hSW1]; rfl
  have s6 : ∀ w', Below W1.heap.size W1 w' → w'.cell? ⟨S1, 6, none⟩ = some (.int .i64 x6) := fun w' h => by rw [h.cell (p := ⟨S1, 6, none⟩) (show S1 < W1.heap.size by omega), cell_of_row _ _ _ _ _ _ hSW1]; rfl
  have s7 : ∀ w', Below W1.heap.size W1 w' → w'.cell? ⟨S1, 7, none⟩ = some (.int .i64 x7) := fun w' h => by rw [h.cell (p := ⟨S1, 7, none⟩) (show S1 < W1.heap.size by omega), cell_of_row _ _ _ _ _ _ hSW1]; rfl
  have s8 : ∀ w', Below W1.heap.size W1 w' → w'.cell? ⟨S1, 8, none⟩ = some (.slice pp r.mem.length cc) := fun w' h => by rw [h.cell (p := ⟨S1, 8, none⟩) (show S1 < W1.heap.size by omega), cell_of_row _ _ _ _ _ _ hSW1]; rfl
  have s9 : ∀ w', Below W1.heap.size W1 w' → w'.cell? ⟨S1, 9, none⟩ = some (.int .i64 r.next) := fun w' h => by rw [h.cell (p := ⟨S1, 9, none⟩) (show S1 < W1.heap.size by omega), cell_of_row _ _ _ _ _ _ hSW1]; rfl
  have s10 : ∀ w', Below W1.heap.size W1 w' → w'.cell? ⟨S1, 10, none⟩ = some (.int .i64 r.stop) := fun w' h => by rw [h.cell (p := ⟨S1, 10, none⟩) (show S1 < W1.heap.size by omega), cell_of_row _ _ _ _ _ _ hSW1]; rfl
  have s11 : ∀ w', Below W1.heap.size W1 w' → w'.cell? ⟨S1, 11, none⟩ = some (.int .i64 r.trap) := fun w' h => by rw [h.cell (p := ⟨S1, 11, none⟩) (show S1 < W1.heap.size by omega), cell_of_row _ _ _ _ _ _ hSW1]; rfl
  have s12 : ∀ w', Below W1.heap.size W1 w' → w'.cell? ⟨S1, 12, none⟩ = some (.int .i64 r.steps) := fun w' h => by rw [h.cell (p := ⟨S1, 12, none⟩) (show S1 < W1.heap.size by omega), cell_of_row _ _ _ _ _ _ hSW1]; rfl
  have hlW1 : S1 < W1.heap.size := by omega
  have HBW1 := hide hBW1
  have hrW1 : Below W1.heap.size W1 W1 := Below.refl _ _
  have HGW1 := hide hgW1
  clear hBW1 hzW1 hSW1 hgW1
  have HRD1 : Hid (∀ W, Below W1.heap.size W1 W → Rd W pp r.mem) := fun W h => hrd1.below (by rw [HGW1.out]; exact Nat.le_refl _) (HUW1.out.trans (h.mono (by omega)))
  have HJ1 : Hid (∀ w', Below W1.heap.size W1 w' → Below wb.heap.size wb w') := fun w' h => bCall HBW1.out h
  clear hbd hBwd hrd1 q0 q1 q2 q3 q4 q5 q6 q7 q8 hrb
  go_upto_region 7 with (first | (go_at_call 14; refine (HX2.out _ (HJ1.out _ (by (repeat (first | with_reducible assumption | with_reducible exact Below.refl _ _ | with_reducible refine bAl ?_ _))))).mono ?_; rintro e we ⟨a0, a1, a2, a3, a4, a5, a6, a7, pq, cq, rfl, ha, hbe, hrd2⟩; have hBwe : Below W1.heap.size W1 we := (bCall (by (repeat (first | with_reducible assumption | with_reducible exact Below.refl _ _ | with_reducible refine bAl ?_ _))) hbe)))
  obtain ⟨W2, hW2⟩ : ∃ W2, we.alloc (.cells #[.int .i64 a0, .int .i64 a1, .int .i64 a2, .int .i64 a3, .int .i64 a4, .int .i64 a5, .int .i64 a6, .int .i64 a7, .slice pq s.mem.length cq, .int .i64 s.next, .int .i64 st, .int .i64 tr, .int .i64 s.steps] 33) = W2 := ⟨_, rfl⟩
  have hBW2 : Below W1.heap.size W1 W2 := by rw [← hW2]; exact bAl hBwe _
  have hzW2 : W2.heap.size = we.heap.size + 1 := by rw [← hW2]; simp
  have hSW2 : W2.heap[we.heap.size]? = some (.cells #[.int .i64 a0, .int .i64 a1, .int .i64 a2, .int .i64 a3, .int .i64 a4, .int .i64 a5, .int .i64 a6, .int .i64 a7, .slice pq s.mem.length cq, .int .i64 s.next, .int .i64 st, .int .i64 tr, .int .i64 s.steps] 33 (0, 0)) := by rw [← hW2]; exact heap_alloc_new _ _
  have HUW2 : Hid (Below we.heap.size we W2) := by rw [← hW2]; exact bAl (Below.refl _ _) _
  rw [hW2]
  clear hW2
  generalize hgW2 : we.heap.size = S2 at *
  have t0 : ∀ w', Below W2.heap.size W2 w' → w'.cell? ⟨S2, 0, none⟩ = some (.int .i64 a0) := fun w' h => by rw [h.cell (p := ⟨S2, 0, none⟩) (show S2 < W2.heap.size by omega), cell_of_row _ _ _ _ _ _ hSW2]; rfl
  have t1 : ∀ w', Below W2.heap.size W2 w' → w'.cell? ⟨S2, 1, none⟩ = some (.int .i64 a1) := fun w' h => by rw [h.cell (p := ⟨S2, 1, none⟩) (show S2 < W2.heap.size by omega), cell_of_row _ _ _ _ _ _ hSW2]; rfl
  have t2 : ∀ w', Below W2.heap.size W2 w' → w'.cell? ⟨S2, 2, none⟩ = some (.int .i64 a2) := fun w' h => by rw [h.cell (p := ⟨S2, 2, none⟩) (show S2 < W2.heap.size by omega), cell_of_row _ _ _ _ _ _ hSW2]; rfl
  have t3 : ∀ w', Below W2.heap.size W2 w' → w'.cell? ⟨S2, 3, none⟩ = some (.int .i64 a3) := fun w' h => by rw [h.cell (p := ⟨S2, 3, none⟩) (show S2 < W2.heap.size by omega), cell_of_row _ _ _ _ _ _ hSW2]; rfl
  have t4 : ∀ w', Below W2.heap.size W2 w' → w'.cell? ⟨S2, 4, none⟩ = some (.int .i64 a4) := fun w' h => by rw [h.cell (p := ⟨S2, 4, none⟩) (show S2 < W2.heap.size by omega), cell_of_row _ _ _ _ _ _ hSW2]; rfl
  have t5 : ∀ w', Below W2.heap.size W2 w' → w'.cell? ⟨S2, 5, none⟩ = some (.int .i64 a5) := fun w' h => by rw [h.cell (p := ⟨S2, 5, none⟩) (show S2 < W2.heap.size by omega), cell_of_row _ _ _ _ _ _ hSW2]; rfl
  have t6 : ∀ w', Below W2.heap.size W2 w' → w'.cell? ⟨S2, 6, none⟩ = some (.int .i64 a6) := fun w' h => by rw [h.cell (p := ⟨S2, 6, none⟩) (show S2 < W2.heap.size by omega), cell_of_row _ _ _ _ _ _ hSW2]; rfl
  have t7 : ∀ w', Below W2.heap.size W2 w' → w'.cell? ⟨S2, 7, none⟩ = some (.int .i64 a7) := fun w' h => by rw [h.cell (p := ⟨S2, 7, none⟩) (show S2 < W2.heap.size by omega), cell_of_row _ _ _ _ _ _ hSW2]; rfl
  have t8 : ∀ w', Below W2.heap.size W2 w' → w'.cell? ⟨S2, 8, none⟩ = some (.slice pq s.mem.length cq) := fun w' h => by rw [h.cell (p := ⟨S2, 8, none⟩) (show S2 < W2.heap.size by omega), cell_of_row _ _ _ _ _ _ hSW2]; rfl
  have t9 : ∀ w', Below W2.heap.size W2 w' → w'.cell? ⟨S2, 9, none⟩ = some (.int .i64 s.next) := fun w' h => by rw [h.cell (p := ⟨S2, 9, none⟩) (show S2 < W2.heap.size by omega), cell_of_row _ _ _ _ _ _ hSW2]; rfl
  have t10 : ∀ w', Below W2.heap.size W2 w' → w'.cell? ⟨S2, 10, none⟩ = some (.int .i64 st) := fun w' h => by rw [h.cell (p := ⟨S2, 10, none⟩) (show S2 < W2.heap.size by omega), cell_of_row _ _ _ _ _ _ hSW2]; rfl
  have t11 : ∀ w', Below W2.heap.size W2 w' → w'.cell? ⟨S2, 11, none⟩ = some (.int .i64 tr) := fun w' h => by rw [h.cell (p := ⟨S2, 11, none⟩) (show S2 < W2.heap.size by omega), cell_of_row _ _ _ _ _ _ hSW2]; rfl
  have t12 : ∀ w', Below W2.heap.size W2 w' → w'.cell? ⟨S2, 12, none⟩ = some (.int .i64 s.steps) := fun w' h => by rw [h.cell (p := ⟨S2, 12, none⟩) (show S2 < W2.heap.size by omega), cell_of_row _ _ _ _ _ _ hSW2]; rfl
  have hlW2 : S2 < W2.heap.size := by omega
  have HBW2 := hide hBW2
  have hrW2 : Below W2.heap.size W2 W2 := Below.refl _ _
  have HGW2 := hide hgW2
  clear hBW2 hzW2 hSW2 hgW2
  have s0' : ∀ w', Below W2.heap.size W2 w' → w'.cell? ⟨S1, 0, none⟩ = some (.int .i64 x0) := fun w' h => s0 w' (bCall HBW2.out h)
  have s1' : ∀ w', Below W2.heap.size W2 w' → w'.cell? ⟨S1, 1, none⟩ = some (.int .i64 x1) := fun w' h => s1 w' (bCall HBW2.out h)
  have s2' : ∀ w', Below W2.heap.size W2 w' → w'.cell? ⟨S1, 2, none⟩ = some (.int .i64 x2) := fun w' h => s2 w' (bCall HBW2.out h)
  have s3' : ∀ w', Below W2.heap.size W2 w' → w'.cell? ⟨S1, 3, none⟩ = some (.int .i64 x3) := fun w' h => s3 w' (bCall HBW2.out h)
  have s4' : ∀ w', Below W2.heap.size W2 w' → w'.cell? ⟨S1, 4, none⟩ = some (.int .i64 x4) := fun w' h => s4 w' (bCall HBW2.out h)
  have s5' : ∀ w', Below W2.heap.size W2 w' → w'.cell? ⟨S1, 5, none⟩ = some (.int .i64 x5) := fun w' h => s5 w' (bCall HBW2.out h)
  have s6' : ∀ w', Below W2.heap.size W2 w' → w'.cell? ⟨S1, 6, none⟩ = some (.int .i64 x6) := fun w' h => s6 w' (bCall HBW2.out h)
  have s7' : ∀ w', Below W2.heap.size W2 w' → w'.cell? ⟨S1, 7, none⟩ = some (.int .i64 x7) := fun w' h => s7 w' (bCall HBW2.out h)
  have s8' : ∀ w', Below W2.heap.size W2 w' → w'.cell? ⟨S1, 8, none⟩ = some (.slice pp r.mem.length cc) := fun w' h => s8 w' (bCall HBW2.out h)
  have s9' : ∀ w', Below W2.heap.size W2 w' → w'.cell? ⟨S1, 9, none⟩ = some (.int .i64 r.next) := fun w' h => s9 w' (bCall HBW2.out h)
  have s10' : ∀ w', Below W2.heap.size W2 w' → w'.cell? ⟨S1, 10, none⟩ = some (.int .i64 r.stop) := fun w' h => s10 w' (bCall HBW2.out h)
  have s11' : ∀ w', Below W2.heap.size W2 w' → w'.cell? ⟨S1, 11, none⟩ = some (.int .i64 r.trap) := fun w' h => s11 w' (bCall HBW2.out h)
  have s12' : ∀ w', Below W2.heap.size W2 w' → w'.cell? ⟨S1, 12, none⟩ = some (.int .i64 r.steps) := fun w' h => s12 w' (bCall HBW2.out h)
  have hlS1 : S1 < W2.heap.size := Nat.lt_of_lt_of_le hlW1 HBW2.out.size
  have HRD2 : Rd W2 pq s.mem := hrd2.below (by rw [HGW2.out]; exact Nat.le_refl _) (HUW2.out.mono (by omega))
  have HRD1' : Rd W2 pp r.mem := HRD1.out W2 HBW2.out
  have HX := hide hx
  have HA := hide ha
  have HFIN : Hid (Below w.heap.size w W2) := bCall HW.out (HJ1.out _ HBW2.out)
  clear hbe hBwe hrd2 hx ha hrW1 hlW1 s0 s1 s2 s3 s4 s5 s6 s7 s8 s9 s10 s11 s12
  by_cases hA : r.stop = 2 ∨ st = 2
  · obtain ⟨g1, g2⟩ := HPP.out.1 hA
    have g1b : (r.stop == 2) = true := by simp [g1]
    by_cases hs2 : st = 2
    · have g2b : (st == 2) = true := by simp [hs2]
      clear g1 g2 hA hs2
      go_wp2
      go_ret
      exact ⟨rfl, HFIN.out⟩
    · have g2b : (st == 2) = false := by simp [hs2]
      have g3 : 400 < 20 * (s.steps + 1) := by
        rcases g2 with h | h
        · exact absurd h hs2
        · exact h
      have g4 : (400 : Int) < 20 * ((s.steps : Int) + 1) := by omega
      clear g1 g2 hA hs2 g3
      go_wp2
      go_ret
      exact ⟨rfl, HFIN.out⟩
  · have hn1 : ¬ r.stop = 2 := fun h => hA (.inl h)
    have hn2 : ¬ st = 2 := fun h => hA (.inr h)
    have g1b : (r.stop == 2) = false := by simp [hn1]
    have g2b : (st == 2) = false := by simp [hn2]
    obtain ⟨e1, e2, e3, e4, e5, e6⟩ := HPP.out.2 hn1
    have HAL : Hid (Calls Try.prog 15 #[.agg #[.int .i64 x0, .int .i64 x1, .int .i64 x2, .int .i64 x3, .int .i64 x4, .int .i64 x5, .int .i64 x6, .int .i64 x7, .slice pp r.mem.length cc, .int .i64 r.next, .int .i64 r.stop, .int .i64 r.trap, .int .i64 r.steps], .agg #[.int .i64 a0, .int .i64 a1, .int .i64 a2, .int .i64 a3, .int .i64 a4, .int .i64 a5, .int .i64 a6, .int .i64 a7, .slice pq s.mem.length cq, .int .i64 s.next, .int .i64 st, .int .i64 tr, .int .i64 s.steps]] W2 fun e w' => e = .returned (.bool true) ∧ Below W2.heap.size W2 w') := by
      refine (alike_any x0 x1 x2 x3 x4 x5 x6 x7 r.next r.stop r.trap r.steps a0 a1 a2 a3 a4 a5 a6 a7 s.next st tr s.steps pp pq cc cq r.mem s.mem W2 HRD1' HRD2 (by have := HL1.out; omega) (by have := HL2.out; omega)).mono ?_
      rintro e w' ⟨q, rfl, hq, hb⟩
      refine ⟨?_, hb⟩
      rw [hq ⟨e2, by rw [← HX.out, ← HA.out]; exact e1, by rw [e3], e4, e5⟩]
    have e6' : (s.steps : Int) ≤ r.given.length := by
      have : s.steps ≤ r.given.length := e6
      omega
    clear hA hn1 hn2 e1 e2 e3 e4 e5 e6 HRD1' HRD2
    go_wp2_with (go_at_call 15; refine HAL.out.mono ?_; rintro e wf ⟨rfl, hbf⟩; have hlf : S1 < wf.heap.size := (Nat.lt_of_lt_of_le hlS1 hbf.size); have hlg : S2 < wf.heap.size := (Nat.lt_of_lt_of_le hlW2 hbf.size))
    go_ret
    exact ⟨rfl, bCall HFIN.out hbf⟩

end Go.Proofs.Ytmeiogoodbnkkaa
