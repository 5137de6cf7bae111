/- Several texts in one: VJ, VS. -/
import Derived.Test.YtmeiogoodbnkkaaCVH
import Derived.Test.YtmeiogoodbnkkaaCVI
import Derived.Deep.CutBlock
import Derived.Test.YtmeiogoodbnkkaaCPAPS
import Derived.Deep.QuietTactic
import Derived.BigQuiet
/- boardkeep.Anyhow. -/
namespace Go.Proofs.Ytmeiogoodbnkkaa
open Go.RowKit

/-- The cells of a configuration that was boxed. -/
theorem cfg_rules {W0 : World} {N : Nat} {u0 u1 u2 u3 l0 l1 l2 l3 b : Int} (h : W0.heap[N]? = some (.cells #[.int .i64 u0, .int .i64 u1, .int .i64 u2, .int .i64 u3, .int .i64 l0, .int .i64 l1, .int .i64 l2, .int .i64 l3, .int .i64 b] 24 (0, 0))) :
    ∀ w', Below W0.heap.size W0 w' → w'.heap[N]? = some (.cells #[.int .i64 u0, .int .i64 u1, .int .i64 u2, .int .i64 u3, .int .i64 l0, .int .i64 l1, .int .i64 l2, .int .i64 l3, .int .i64 b] 24 (0, 0)) := fun w' hb => by
  rw [hb.block _ (Array.getElem?_eq_some_iff.1 h).1]; exact h

theorem row9 {w : World} {U : Nat} {v0 v1 v2 v3 v4 v5 v6 v7 v8 : Value} (h : w.heap[U]? = some (.cells #[v0, v1, v2, v3, v4, v5, v6, v7, v8] 24 (0, 0))) :
    w.cell? ⟨U, 0, none⟩ = some v0 ∧ w.cell? ⟨U, 1, none⟩ = some v1 ∧ w.cell? ⟨U, 2, none⟩ = some v2 ∧ w.cell? ⟨U, 3, none⟩ = some v3 ∧ w.cell? ⟨U, 4, none⟩ = some v4 ∧ w.cell? ⟨U, 5, none⟩ = some v5 ∧ w.cell? ⟨U, 6, none⟩ = some v6 ∧ w.cell? ⟨U, 7, none⟩ = some v7 ∧ w.cell? ⟨U, 8, none⟩ = some v8 := by
  have g : ∀ j, w.cell? ⟨U, j, none⟩ = #[v0, v1, v2, v3, v4, v5, v6, v7, v8][j]? := fun j => cell_of_row _ _ _ _ _ _ h
  exact ⟨g 0, g 1, g 2, g 3, g 4, g 5, g 6, g 7, g 8⟩

theorem hNew {w : World} {cs : Array Value} {e : TypeId} {N : Nat} (h : w.heap.size = N) : (w.alloc (.cells cs e)).heap[N]? = some (.cells cs e (0, 0)) := by
  subst h
  exact heap_alloc_new _ _
theorem hOld {w : World} {x o : Obj} {N : Nat} (h : w.heap[N]? = some o) : (w.alloc x).heap[N]? = some o :=
  (Below.heap_alloc w x N (Array.getElem?_eq_some_iff.1 h).1).trans h

set_option maxRecDepth 100000 in
set_option maxHeartbeats 4000000 in
theorem anyhow_law (u0 u1 u2 u3 l0 l1 l2 l3 b u0' u1' u2' u3' l0' l1' l2' l3' b' : Int) (hu : In64 u0 ∧ In64 u1 ∧ In64 u2 ∧ In64 u3 ∧ In64 l0 ∧ In64 l1 ∧ In64 l2 ∧ In64 l3 ∧ In64 b) (hu' : In64 u0' ∧ In64 u1' ∧ In64 u2' ∧ In64 u3' ∧ In64 l0' ∧ In64 l1' ∧ In64 l2' ∧ In64 l3' ∧ In64 b')
    (p pm : Option Addr) (c cm : Nat) (raw : List Ord) (mem : List Int) (w : World) (hp : RdO w p raw) (hin : ∀ j, j < raw.length → In64O (raw.getD j Ord.none)) (hlen : (raw.length : Int) ≤ 1000000000000000) (hm : Rd w pm mem) (hlm : (mem.length : Int) ≤ 1000000000000000) (hcm : mem.length ≤ cm) :
    Calls Try.prog 4 #[.agg #[.int .i64 u0, .int .i64 u1, .int .i64 u2, .int .i64 u3, .int .i64 l0, .int .i64 l1, .int .i64 l2, .int .i64 l3, .int .i64 b], .agg #[.int .i64 u0', .int .i64 u1', .int .i64 u2', .int .i64 u3', .int .i64 l0', .int .i64 l1', .int .i64 l2', .int .i64 l3', .int .i64 b'], .slice p raw.length c, .slice pm mem.length cm] w fun e w' => e = .returned (.bool true) ∧ Below w.heap.size w w' := by
  have HP := hide hp
  have HIN := hide hin
  have HM := hide hm
  have HLEN := hide hlen
  have HLM := hide hlm
  have HCM := hide hcm
  have HC1 := hide (fun W => config_any u0 u1 u2 u3 l0 l1 l2 l3 b hu.1 hu.2.1 hu.2.2.1 hu.2.2.2.1 hu.2.2.2.2.1 hu.2.2.2.2.2.1 hu.2.2.2.2.2.2.1 hu.2.2.2.2.2.2.2.1 hu.2.2.2.2.2.2.2.2 W)
  have HC2 := hide (fun W => config_any u0' u1' u2' u3' l0' l1' l2' l3' b' hu'.1 hu'.2.1 hu'.2.2.1 hu'.2.2.2.1 hu'.2.2.2.2.1 hu'.2.2.2.2.2.1 hu'.2.2.2.2.2.2.1 hu'.2.2.2.2.2.2.2.1 hu'.2.2.2.2.2.2.2.2 W)
  have hG1 := cfg_ok u0 u1 u2 l0 l1 l2 l3 b
  have hF1 := cfg_fit u0 u1 u2 l0 l1 l2 l3 b
  have hG2 := cfg_ok u0' u1' u2' l0' l1' l2' l3' b'
  have hF2 := cfg_fit u0' u1' u2' l0' l1' l2' l3' b'
  clear hp hin hm hlen hlm hcm hu hu'
  generalize 1 + pk u0 3 = y0 at *
  generalize 1 + pk u1 3 = y1 at *
  generalize 1 + pk u2 3 = y2 at *
  generalize 1 + pk l0 12 = y4 at *
  generalize 1 + pk l1 12 = y5 at *
  generalize 1 + pk l2 12 = y6 at *
  generalize 1 + pk l3 12 = y7 at *
  generalize 1 + pk b 3 = y8 at *
  generalize 1 + pk u0' 3 = z0 at *
  generalize 1 + pk u1' 3 = z1 at *
  generalize 1 + pk u2' 3 = z2 at *
  generalize 1 + pk l0' 12 = z4 at *
  generalize 1 + pk l1' 12 = z5 at *
  generalize 1 + pk l2' 12 = z6 at *
  generalize 1 + pk l3' 12 = z7 at *
  generalize 1 + pk b' 3 = z8 at *
  have HG1 := hide hG1
  have HF1 := hide hF1
  have HG2 := hide hG2
  have HF2 := hide hF2
  clear hG1 hF1 hG2 hF2
  obtain ⟨mt, hmt⟩ : ∃ mt, mt = mem.take 16 := ⟨_, rfl⟩
  have hmt16 : mt.length ≤ 16 := by rw [hmt]; simp; omega
  have HMT := hide hmt
  clear hmt
  obtain ⟨W0, hW0⟩ : ∃ W0, (w.alloc (.cells #[.int .i64 u0, .int .i64 u1, .int .i64 u2, .int .i64 u3, .int .i64 l0, .int .i64 l1, .int .i64 l2, .int .i64 l3, .int .i64 b] 24)).alloc (.cells #[.int .i64 u0', .int .i64 u1', .int .i64 u2', .int .i64 u3', .int .i64 l0', .int .i64 l1', .int .i64 l2', .int .i64 l3', .int .i64 b'] 24) = W0 := ⟨_, rfl⟩
  have hb0 : Below w.heap.size w W0 := by rw [← hW0]; exact bAl (bAl (Below.refl _ _) _) _
  have hz0 : W0.heap.size = w.heap.size + 1 + 1 := by rw [← hW0]; simp
  have hr1 := cfg_rules (show W0.heap[w.heap.size]? = _ by rw [← hW0]; exact hOld (hNew rfl))
  have hr2 := cfg_rules (show W0.heap[w.heap.size + 1]? = _ by rw [← hW0]; exact hNew (by simp))
  have HB0 := hide hb0
  have HR1 := hide hr1
  have HR2 := hide hr2
  have k0 : ∀ w', Below W0.heap.size W0 w' → w'.cell? ⟨w.heap.size, 0, none⟩ = some (.int .i64 u0) := fun w' h => by rw [cell_of_row _ _ _ _ _ _ (HR1.out w' h)]; rfl
  have k1 : ∀ w', Below W0.heap.size W0 w' → w'.cell? ⟨w.heap.size, 1, none⟩ = some (.int .i64 u1) := fun w' h => by rw [cell_of_row _ _ _ _ _ _ (HR1.out w' h)]; rfl
  have k2 : ∀ w', Below W0.heap.size W0 w' → w'.cell? ⟨w.heap.size, 2, none⟩ = some (.int .i64 u2) := fun w' h => by rw [cell_of_row _ _ _ _ _ _ (HR1.out w' h)]; rfl
  have k3 : ∀ w', Below W0.heap.size W0 w' → w'.cell? ⟨w.heap.size, 3, none⟩ = some (.int .i64 u3) := fun w' h => by rw [cell_of_row _ _ _ _ _ _ (HR1.out w' h)]; rfl
  have k4 : ∀ w', Below W0.heap.size W0 w' → w'.cell? ⟨w.heap.size, 4, none⟩ = some (.int .i64 l0) := fun w' h => by rw [cell_of_row _ _ _ _ _ _ (HR1.out w' h)]; rfl
  have k5 : ∀ w', Below W0.heap.size W0 w' → w'.cell? ⟨w.heap.size, 5, none⟩ = some (.int .i64 l1) := fun w' h => by rw [cell_of_row _ _ _ _ _ _ (HR1.out w' h)]; rfl
  have k6 : ∀ w', Below W0.heap.size W0 w' → w'.cell? ⟨w.heap.size, 6, none⟩ = some (.int .i64 l2) := fun w' h => by rw [cell_of_row _ _ _ _ _ _ (HR1.out w' h)]; rfl
  have k7 : ∀ w', Below W0.heap.size W0 w' → w'.cell? ⟨w.heap.size, 7, none⟩ = some (.int .i64 l3) := fun w' h => by rw [cell_of_row _ _ _ _ _ _ (HR1.out w' h)]; rfl
  have k8 : ∀ w', Below W0.heap.size W0 w' → w'.cell? ⟨w.heap.size, 8, none⟩ = some (.int .i64 b) := fun w' h => by rw [cell_of_row _ _ _ _ _ _ (HR1.out w' h)]; rfl
  have j0 : ∀ w', Below W0.heap.size W0 w' → w'.cell? ⟨w.heap.size + 1, 0, none⟩ = some (.int .i64 u0') := fun w' h => by rw [cell_of_row _ _ _ _ _ _ (HR2.out w' h)]; rfl
  have j1 : ∀ w', Below W0.heap.size W0 w' → w'.cell? ⟨w.heap.size + 1, 1, none⟩ = some (.int .i64 u1') := fun w' h => by rw [cell_of_row _ _ _ _ _ _ (HR2.out w' h)]; rfl
  have j2 : ∀ w', Below W0.heap.size W0 w' → w'.cell? ⟨w.heap.size + 1, 2, none⟩ = some (.int .i64 u2') := fun w' h => by rw [cell_of_row _ _ _ _ _ _ (HR2.out w' h)]; rfl
  have j3 : ∀ w', Below W0.heap.size W0 w' → w'.cell? ⟨w.heap.size + 1, 3, none⟩ = some (.int .i64 u3') := fun w' h => by rw [cell_of_row _ _ _ _ _ _ (HR2.out w' h)]; rfl
  have j4 : ∀ w', Below W0.heap.size W0 w' → w'.cell? ⟨w.heap.size + 1, 4, none⟩ = some (.int .i64 l0') := fun w' h => by rw [cell_of_row _ _ _ _ _ _ (HR2.out w' h)]; rfl
  have j5 : ∀ w', Below W0.heap.size W0 w' → w'.cell? ⟨w.heap.size + 1, 5, none⟩ = some (.int .i64 l1') := fun w' h => by rw [cell_of_row _ _ _ _ _ _ (HR2.out w' h)]; rfl
  have j6 : ∀ w', Below W0.heap.size W0 w' → w'.cell? ⟨w.heap.size + 1, 6, none⟩ = some (.int .i64 l2') := fun w' h => by rw [cell_of_row _ _ _ _ _ _ (HR2.out w' h)]; rfl
  have j7 : ∀ w', Below W0.heap.size W0 w' → w'.cell? ⟨w.heap.size + 1, 7, none⟩ = some (.int .i64 l3') := fun w' h => by rw [cell_of_row _ _ _ _ _ _ (HR2.out w' h)]; rfl
  have j8 : ∀ w', Below W0.heap.size W0 w' → w'.cell? ⟨w.heap.size + 1, 8, none⟩ = some (.int .i64 b') := fun w' h => by rw [cell_of_row _ _ _ _ _ _ (HR2.out w' h)]; rfl
  have HPR : Hid (∀ W, Below w.heap.size w W → Calls Try.prog 11 #[.slice p raw.length c] W fun e w' => ∃ g n cap prog, e = .returned (.slice (some ⟨g, 0, none⟩) n cap) ∧ prog.length = n ∧ isProg prog = true ∧ RdO w' (some ⟨g, 0, none⟩) prog ∧ W.heap.size ≤ g ∧ Below W.heap.size W w') := fun W h => program_any p c raw W (HP.out.below (Nat.le_refl _) h) HIN.out HLEN.out
  have HME : Hid (∀ W, Calls Try.prog 12 #[.slice pm mem.length cm] W fun e w' => e = .returned (.slice pm mt.length cm) ∧ w' = W) := fun W => memory_any pm cm mem W HLM.out HCM.out mt HMT.out
  have HZ0 := hide hz0
  clear hb0 hr1 hr2 hz0
  go_enter Try.func4, Try.ntmps4
  go_upto_region 1 with fail
  clear hW0
  go_upto_region 3 with (first | (go_at_call 9; refine (ran_any _).mono ?_; rintro e wa ⟨rfl, hba⟩) | (go_at_call 11; refine (HPR.out _ (bCall HB0.out hba)).mono ?_; rintro e wb ⟨g, n, cap, prog, rfl, hpl, hprog, hrd, hgg, hbb⟩))
  subst hpl
  have hBb : Below W0.heap.size W0 wb := bCall hba hbb
  have HBb := hide hBb
  have hls : w.heap.size < wb.heap.size := by have := hBb.size; have := HZ0.out; omega
  have hls1 : w.heap.size + 1 < wb.heap.size := by have := hBb.size; have := HZ0.out; omega
  have HRM : Hid (∀ W, Below wb.heap.size wb W → Rd W pm mt) := fun W h => by rw [HMT.out]; exact (HM.out.below (Nat.le_refl _) (bCall HB0.out (bCall HBb.out h))).cut 16
  have HRP : Hid (∀ W, Below wb.heap.size wb W → RdO W (some ⟨g, 0, none⟩) prog) := fun W h => hrd.below (Nat.le_refl _) h
  obtain ⟨r1, hr1⟩ : ∃ r, r = runM [y0, y1, y2, 1] [y4, y5, y6, y7] y8 prog mt 400 := ⟨_, rfl⟩
  obtain ⟨r2, hr2⟩ : ∃ r, r = runM [z0, z1, z2, 1] [z4, z5, z6, z7] z8 prog mt 400 := ⟨_, rfl⟩
  have HX1 : Hid (∀ W, Below wb.heap.size wb W → Calls Try.prog 13 #[.agg #[.int .i64 y0, .int .i64 y1, .int .i64 y2, .int .i64 1, .int .i64 y4, .int .i64 y5, .int .i64 y6, .int .i64 y7, .int .i64 y8], .slice (some ⟨g, 0, none⟩) prog.length cap, .slice pm mt.length cm, .int .i64 400] W fun e w' =>
      ∃ x0 x1 x2 x3 x4 x5 x6 x7 pp cc pt ct, e = .returned (.tuple #[.agg #[.int .i64 x0, .int .i64 x1, .int .i64 x2, .int .i64 x3, .int .i64 x4, .int .i64 x5, .int .i64 x6, .int .i64 x7, .slice pp r1.mem.length cc, .int .i64 r1.next, .int .i64 r1.stop, .int .i64 r1.trap, .int .i64 r1.steps], .slice pt r1.given.length ct, .int .i64 0]) ∧
        r1.regs = [x0, x1, x2, x3, x4, x5, x6, x7] ∧ Below W.heap.size W w' ∧ Rd w' pp r1.mem ∧ TmR w' W.heap.size pt r1.given) := fun W h =>
    run_good y0 y1 y2 1 y4 y5 y6 y7 y8 _ pm cap cm prog mt 400 W (HRP.out W h) (HRM.out W h) hprog hmt16 (by omega) (by omega) HF1.out r1 hr1
  have HX2 : Hid (∀ W, Below wb.heap.size wb W → Calls Try.prog 13 #[.agg #[.int .i64 z0, .int .i64 z1, .int .i64 z2, .int .i64 1, .int .i64 z4, .int .i64 z5, .int .i64 z6, .int .i64 z7, .int .i64 z8], .slice (some ⟨g, 0, none⟩) prog.length cap, .slice pm mt.length cm, .int .i64 400] W fun e w' =>
      ∃ x0 x1 x2 x3 x4 x5 x6 x7 pp cc pt ct, e = .returned (.tuple #[.agg #[.int .i64 x0, .int .i64 x1, .int .i64 x2, .int .i64 x3, .int .i64 x4, .int .i64 x5, .int .i64 x6, .int .i64 x7, .slice pp r2.mem.length cc, .int .i64 r2.next, .int .i64 r2.stop, .int .i64 r2.trap, .int .i64 r2.steps], .slice pt r2.given.length ct, .int .i64 0]) ∧
        r2.regs = [x0, x1, x2, x3, x4, x5, x6, x7] ∧ Below W.heap.size W w' ∧ Rd w' pp r2.mem ∧ TmR w' W.heap.size pt r2.given) := fun W h =>
    run_good z0 z1 z2 1 z4 z5 z6 z7 z8 _ pm cap cm prog mt 400 W (HRP.out W h) (HRM.out W h) hprog hmt16 (by omega) (by omega) HF2.out r2 hr2
  have HAN := anyhow_pure HG1.out HG2.out hprog mt 400 (by omega)
  rw [← hr1, ← hr2] at HAN
  have HAN := hide HAN
  have L1 : r1.mem.length ≤ 16 := by rw [hr1, run_mem_len HG1.out hprog mt 400 (by omega)]; exact hmt16
  have L2 : r2.mem.length ≤ 16 := by rw [hr2, run_mem_len HG2.out hprog mt 400 (by omega)]; exact hmt16
  have HL1 := hide L1
  have HL2 := hide L2
  clear hr1 hr2 L1 L2 hprog hrd hgg hba hbb hmt16 HRP HRM HPR HM HP HIN HLEN HLM HMT HCM HF1 HF2 HG1 HG2
  have hk : ∀ w', Below wb.heap.size wb w' → Below W0.heap.size W0 w' := fun w' h => bCall HBb.out h
  have k0' : ∀ w', Below wb.heap.size wb w' → w'.cell? ⟨w.heap.size, 0, none⟩ = some (.int .i64 u0) := fun w' h => k0 w' (hk w' h)
  have j0' : ∀ w', Below wb.heap.size wb w' → w'.cell? ⟨w.heap.size + 1, 0, none⟩ = some (.int .i64 u0') := fun w' h => j0 w' (hk w' h)
  have k1' : ∀ w', Below wb.heap.size wb w' → w'.cell? ⟨w.heap.size, 1, none⟩ = some (.int .i64 u1) := fun w' h => k1 w' (hk w' h)
  have j1' : ∀ w', Below wb.heap.size wb w' → w'.cell? ⟨w.heap.size + 1, 1, none⟩ = some (.int .i64 u1') := fun w' h => j1 w' (hk w' h)
  have k2' : ∀ w', Below wb.heap.size wb w' → w'.cell? ⟨w.heap.size, 2, none⟩ = some (.int .i64 u2) := fun w' h => k2 w' (hk w' h)
  have j2' : ∀ w', Below wb.heap.size wb w' → w'.cell? ⟨w.heap.size + 1, 2, none⟩ = some (.int .i64 u2') := fun w' h => j2 w' (hk w' h)
  have k3' : ∀ w', Below wb.heap.size wb w' → w'.cell? ⟨w.heap.size, 3, none⟩ = some (.int .i64 u3) := fun w' h => k3 w' (hk w' h)
  have j3' : ∀ w', Below wb.heap.size wb w' → w'.cell? ⟨w.heap.size + 1, 3, none⟩ = some (.int .i64 u3') := fun w' h => j3 w' (hk w' h)
  have k4' : ∀ w', Below wb.heap.size wb w' → w'.cell? ⟨w.heap.size, 4, none⟩ = some (.int .i64 l0) := fun w' h => k4 w' (hk w' h)
  have j4' : ∀ w', Below wb.heap.size wb w' → w'.cell? ⟨w.heap.size + 1, 4, none⟩ = some (.int .i64 l0') := fun w' h => j4 w' (hk w' h)
  have k5' : ∀ w', Below wb.heap.size wb w' → w'.cell? ⟨w.heap.size, 5, none⟩ = some (.int .i64 l1) := fun w' h => k5 w' (hk w' h)
  have j5' : ∀ w', Below wb.heap.size wb w' → w'.cell? ⟨w.heap.size + 1, 5, none⟩ = some (.int .i64 l1') := fun w' h => j5 w' (hk w' h)
  have k6' : ∀ w', Below wb.heap.size wb w' → w'.cell? ⟨w.heap.size, 6, none⟩ = some (.int .i64 l2) := fun w' h => k6 w' (hk w' h)
  have j6' : ∀ w', Below wb.heap.size wb w' → w'.cell? ⟨w.heap.size + 1, 6, none⟩ = some (.int .i64 l2') := fun w' h => j6 w' (hk w' h)
  have k7' : ∀ w', Below wb.heap.size wb w' → w'.cell? ⟨w.heap.size, 7, none⟩ = some (.int .i64 l3) := fun w' h => k7 w' (hk w' h)
  have j7' : ∀ w', Below wb.heap.size wb w' → w'.cell? ⟨w.heap.size + 1, 7, none⟩ = some (.int .i64 l3') := fun w' h => j7 w' (hk w' h)
  have k8' : ∀ w', Below wb.heap.size wb w' → w'.cell? ⟨w.heap.size, 8, none⟩ = some (.int .i64 b) := fun w' h => k8 w' (hk w' h)
  have j8' : ∀ w', Below wb.heap.size wb w' → w'.cell? ⟨w.heap.size + 1, 8, none⟩ = some (.int .i64 b') := fun w' h => j8 w' (hk w' h)
  have hW : Below w.heap.size w wb := bCall HB0.out hBb
  have HW := hide hW
  clear hk hBb hW k0 j0 k1 j1 k2 j2 k3 j3 k4 j4 k5 j5 k6 j6 k7 j7 k8 j8
  have hrb : Below wb.heap.size wb wb := Below.refl _ _
  go_upto_region 5 with (first | (go_at_call 12; refine (HME.out _).mono ?_; rintro e W' ⟨rfl, hW'⟩; have hW'' := hW'.symm; clear hW'; subst hW'') | (go_at_call 10; refine (HC1.out _).mono ?_; rintro e wc ⟨rfl, hbc⟩; have hBc : Below wb.heap.size wb wc := (bCall (by (repeat (first | with_reducible assumption | with_reducible exact Below.refl _ _ | with_reducible refine bAl ?_ _))) hbc)) | (go_at_call 13; refine (HX1.out _ (by (repeat (first | with_reducible assumption | with_reducible exact Below.refl _ _ | with_reducible refine bAl ?_ _)))).mono ?_; rintro e wd ⟨x0, x1, x2, x3, x4, x5, x6, x7, pp, cc, pt, ct, rfl, hx, hbd, hrd1, _⟩; have hBd : Below wb.heap.size wb wd := (bCall (by (repeat (first | with_reducible assumption | with_reducible exact Below.refl _ _ | with_reducible refine bAl ?_ _))) hbd)))
  obtain ⟨W1, hW1⟩ : ∃ W1, wd.alloc (.cells #[.int .i64 x0, .int .i64 x1, .int .i64 x2, .int .i64 x3, .int .i64 x4, .int .i64 x5, .int .i64 x6, .int .i64 x7, .slice pp r1.mem.length cc, .int .i64 r1.next, .int .i64 r1.stop, .int .i64 r1.trap, .int .i64 r1.steps] 33) = W1 := ⟨_, rfl⟩
  have hB1 : Below wb.heap.size wb W1 := by rw [← hW1]; exact bAl hBd _
  have hz1 : W1.heap.size = wd.heap.size + 1 := by rw [← hW1]; simp
  have hS : W1.heap[wd.heap.size]? = some (.cells #[.int .i64 x0, .int .i64 x1, .int .i64 x2, .int .i64 x3, .int .i64 x4, .int .i64 x5, .int .i64 x6, .int .i64 x7, .slice pp r1.mem.length cc, .int .i64 r1.next, .int .i64 r1.stop, .int .i64 r1.trap, .int .i64 r1.steps] 33 (0, 0)) := by rw [← hW1]; exact heap_alloc_new _ _
  have HRD1 : Hid (∀ W, Below W1.heap.size W1 W → Rd W pp r1.mem) := fun W h => hrd1.below (Nat.le_refl _) ((show Below wd.heap.size wd W1 by rw [← hW1]; exact bAl (Below.refl _ _) _).trans (h.mono (by omega)))
  rw [hW1]
  have s0 : ∀ w', Below W1.heap.size W1 w' → w'.cell? ⟨wd.heap.size, 0, none⟩ = some (.int .i64 x0) := fun w' h => by rw [h.cell (p := ⟨wd.heap.size, 0, none⟩) (show wd.heap.size < W1.heap.size by omega), cell_of_row _ _ _ _ _ _ hS]; rfl
  have s1 : ∀ w', Below W1.heap.size W1 w' → w'.cell? ⟨wd.heap.size, 1, none⟩ = some (.int .i64 x1) := fun w' h => by rw [h.cell (p := ⟨wd.heap.size, 1, none⟩) (show wd.heap.size < W1.heap.size by omega), cell_of_row _ _ _ _ _ _ hS]; rfl
  have s2 : ∀ w', Below W1.heap.size W1 w' → w'.cell? ⟨wd.heap.size, 2, none⟩ = some (.int .i64 x2) := fun w' h => by rw [h.cell (p := ⟨wd.heap.size, 2, none⟩) (show wd.heap.size < W1.heap.size by omega), cell_of_row _ _ _ _ _ _ hS]; rfl
  have s3 : ∀ w', Below W1.heap.size W1 w' → w'.cell? ⟨wd.heap.size, 3, none⟩ = some (.int .i64 x3) := fun w' h => by rw [h.cell (p := ⟨wd.heap.size, 3, none⟩) (show wd.heap.size < W1.heap.size by omega), cell_of_row _ _ _ _ _ _ hS]; rfl
  have s4 : ∀ w', Below W1.heap.size W1 w' → w'.cell? ⟨wd.heap.size, 4, none⟩ = some (.int .i64 x4) := fun w' h => by rw [h.cell (p := ⟨wd.heap.size, 4, none⟩) (show wd.heap.size < W1.heap.size by omega), cell_of_row _ _ _ _ _ _ hS]; rfl
  have s5 : ∀ w', Below W1.heap.size W1 w' → w'.cell? ⟨wd.heap.size, 5, none⟩ = some (.int .i64 x5) := fun w' h => by rw [h.cell (p := ⟨wd.heap.size, 5, none⟩) (show wd.heap.size < W1.heap.size by omega), cell_of_row _ _ _ _ _ _ hS]; rfl
  have s6 : ∀ w', Below W1.heap.size W1 w' → w'.cell? ⟨wd.heap.size, 6, none⟩ = some (.int .i64 x6) := fun w' h => by rw [h.cell (p := ⟨wd.heap.size, 6, none⟩) (show wd.heap.size < W1.heap.size by omega), cell_of_row _ _ _ _ _ _ hS]; rfl
  have s7 : ∀ w', Below W1.heap.size W1 w' → w'.cell? ⟨wd.heap.size, 7, none⟩ = some (.int .i64 x7) := fun w' h => by rw [h.cell (p := ⟨wd.heap.size, 7, none⟩) (show wd.heap.size < W1.heap.size by omega), cell_of_row _ _ _ _ _ _ hS]; rfl
  have s8 : ∀ w', Below W1.heap.size W1 w' → w'.cell? ⟨wd.heap.size, 8, none⟩ = some (.slice pp r1.mem.length cc) := fun w' h => by rw [h.cell (p := ⟨wd.heap.size, 8, none⟩) (show wd.heap.size < W1.heap.size by omega), cell_of_row _ _ _ _ _ _ hS]; rfl
  have s9 : ∀ w', Below W1.heap.size W1 w' → w'.cell? ⟨wd.heap.size, 9, none⟩ = some (.int .i64 r1.next) := fun w' h => by rw [h.cell (p := ⟨wd.heap.size, 9, none⟩) (show wd.heap.size < W1.heap.size by omega), cell_of_row _ _ _ _ _ _ hS]; rfl
  have s10 : ∀ w', Below W1.heap.size W1 w' → w'.cell? ⟨wd.heap.size, 10, none⟩ = some (.int .i64 r1.stop) := fun w' h => by rw [h.cell (p := ⟨wd.heap.size, 10, none⟩) (show wd.heap.size < W1.heap.size by omega), cell_of_row _ _ _ _ _ _ hS]; rfl
  have s11 : ∀ w', Below W1.heap.size W1 w' → w'.cell? ⟨wd.heap.size, 11, none⟩ = some (.int .i64 r1.trap) := fun w' h => by rw [h.cell (p := ⟨wd.heap.size, 11, none⟩) (show wd.heap.size < W1.heap.size by omega), cell_of_row _ _ _ _ _ _ hS]; rfl
  have s12 : ∀ w', Below W1.heap.size W1 w' → w'.cell? ⟨wd.heap.size, 12, none⟩ = some (.int .i64 r1.steps) := fun w' h => by rw [h.cell (p := ⟨wd.heap.size, 12, none⟩) (show wd.heap.size < W1.heap.size by omega), cell_of_row _ _ _ _ _ _ hS]; rfl
  have HAL : Hid (∀ W a0 a1 a2 a3 a4 a5 a6 a7 pq cq, Below W1.heap.size W1 W → Rd W pq r2.mem → Calls Try.prog 15 #[.agg #[.int .i64 x0, .int .i64 x1, .int .i64 x2, .int .i64 x3, .int .i64 x4, .int .i64 x5, .int .i64 x6, .int .i64 x7, .slice pp r1.mem.length cc, .int .i64 r1.next, .int .i64 r1.stop, .int .i64 r1.trap, .int .i64 r1.steps], .agg #[.int .i64 a0, .int .i64 a1, .int .i64 a2, .int .i64 a3, .int .i64 a4, .int .i64 a5, .int .i64 a6, .int .i64 a7, .slice pq r2.mem.length cq, .int .i64 r2.next, .int .i64 r2.stop, .int .i64 r2.trap, .int .i64 r2.steps]] W fun e w' => ∃ q : Bool, e = .returned (.bool q) ∧ ((r1.mem = r2.mem ∧ [x0, x1, x2, x3, x4, x5, x6, x7] = [a0, a1, a2, a3, a4, a5, a6, a7] ∧ (r1.next : Int) = r2.next ∧ r1.stop = r2.stop ∧ r1.trap = r2.trap) → q = true) ∧ Below W.heap.size W w') := fun W a0 a1 a2 a3 a4 a5 a6 a7 pq cq h h' =>
    alike_any x0 x1 x2 x3 x4 x5 x6 x7 r1.next r1.stop r1.trap r1.steps a0 a1 a2 a3 a4 a5 a6 a7 r2.next r2.stop r2.trap r2.steps pp pq cc cq r1.mem r2.mem W (HRD1.out W h) h' (by have := HL1.out; omega) (by have := HL2.out; omega)
  have HX := hide hx
  have hls' : wd.heap.size < W1.heap.size := by omega
  have hls2 : w.heap.size + 1 < W1.heap.size := Nat.lt_of_lt_of_le hls1 hB1.size
  have hrW : Below W1.heap.size W1 W1 := Below.refl _ _
  have HB1 := hide hB1
  have jj : ∀ w', Below W1.heap.size W1 w' → Below wb.heap.size wb w' := fun w' h => bCall HB1.out h
  have HJJ := hide jj
  have i0 : ∀ w', Below W1.heap.size W1 w' → w'.cell? ⟨w.heap.size + 1, 0, none⟩ = some (.int .i64 u0') := fun w' h => j0' w' (jj w' h)
  have i1 : ∀ w', Below W1.heap.size W1 w' → w'.cell? ⟨w.heap.size + 1, 1, none⟩ = some (.int .i64 u1') := fun w' h => j1' w' (jj w' h)
  have i2 : ∀ w', Below W1.heap.size W1 w' → w'.cell? ⟨w.heap.size + 1, 2, none⟩ = some (.int .i64 u2') := fun w' h => j2' w' (jj w' h)
  have i3 : ∀ w', Below W1.heap.size W1 w' → w'.cell? ⟨w.heap.size + 1, 3, none⟩ = some (.int .i64 u3') := fun w' h => j3' w' (jj w' h)
  have i4 : ∀ w', Below W1.heap.size W1 w' → w'.cell? ⟨w.heap.size + 1, 4, none⟩ = some (.int .i64 l0') := fun w' h => j4' w' (jj w' h)
  have i5 : ∀ w', Below W1.heap.size W1 w' → w'.cell? ⟨w.heap.size + 1, 5, none⟩ = some (.int .i64 l1') := fun w' h => j5' w' (jj w' h)
  have i6 : ∀ w', Below W1.heap.size W1 w' → w'.cell? ⟨w.heap.size + 1, 6, none⟩ = some (.int .i64 l2') := fun w' h => j6' w' (jj w' h)
  have i7 : ∀ w', Below W1.heap.size W1 w' → w'.cell? ⟨w.heap.size + 1, 7, none⟩ = some (.int .i64 l3') := fun w' h => j7' w' (jj w' h)
  have i8 : ∀ w', Below W1.heap.size W1 w' → w'.cell? ⟨w.heap.size + 1, 8, none⟩ = some (.int .i64 b') := fun w' h => j8' w' (jj w' h)
  clear jj hx hrd1 hbd hbc hBc hBd hB1 hW1 hS hz1 hrb HX1 HC1 k0' j0' k1' j1' k2' j2' k3' j3' k4' j4' k5' j5' k6' j6' k7' j7' k8' j8'
  go_upto_region 9 with (first | (go_at_call 10; refine (HC2.out _).mono ?_; rintro e wc ⟨rfl, hbc⟩; have hBc : Below W1.heap.size W1 wc := (bCall (by (repeat (first | with_reducible assumption | with_reducible exact Below.refl _ _ | with_reducible refine bAl ?_ _))) hbc)) | (go_at_call 13; refine (HX2.out _ (HJJ.out _ (by (repeat (first | with_reducible assumption | with_reducible exact Below.refl _ _ | with_reducible refine bAl ?_ _))))).mono ?_; rintro e we ⟨a0, a1, a2, a3, a4, a5, a6, a7, pq, cq, pu, cu, rfl, ha, hbe, hrd2, _⟩; have hBe : Below W1.heap.size W1 we := (bCall (by (repeat (first | with_reducible assumption | with_reducible exact Below.refl _ _ | with_reducible refine bAl ?_ _))) hbe); have hle : wd.heap.size < we.heap.size := (Nat.lt_of_lt_of_le hls' hBe.size); have HA := hide ha; clear ha) | (go_at_call 15; refine (HAL.out _ _ _ _ _ _ _ _ _ _ _ (by (repeat (first | with_reducible assumption | with_reducible exact Below.refl _ _ | with_reducible refine bAl ?_ _))) (hrd2.below (Nat.le_refl _) (bAl (Below.refl _ _) _))).mono ?_; rintro e wf ⟨q, rfl, hq, hbf⟩; have HQ := hide hq; clear hq; have hBf : Below W1.heap.size W1 wf := (bCall (by (repeat (first | with_reducible assumption | with_reducible exact Below.refl _ _ | with_reducible refine bAl ?_ _))) hbf); have hlf : wd.heap.size < wf.heap.size := (Nat.lt_of_lt_of_le hls' hBf.size); obtain ⟨hcf, hff⟩ := bcell hbf; have hlg : we.heap.size < wf.heap.size := (by have := hbf.size; simp at this; omega)))
  cases q with
  | true =>
    go_wp2
    go_ret
    exact ⟨rfl, bCall HW.out (HJJ.out _ hBf)⟩
  | false =>
    have hst : r1.stop = 2 ∨ r2.stop = 2 := by
      rcases HAN.out with ⟨e1, e2, e3, e4, e5⟩ | h
      · have := HQ.out ⟨e2, by rw [← HX.out, ← HA.out]; exact e1, by rw [e3], e4, e5⟩
        cases this
      · exact h
    by_cases h1 : r1.stop = 2
    · have h1b : (r1.stop == 2) = true := by simp [h1]
      clear hst h1
      go_wp2
      go_ret
      exact ⟨rfl, bCall HW.out (HJJ.out _ hBf)⟩
    · have h1b : (r1.stop == 2) = false := by simp [h1]
      have h2b : (r2.stop == 2) = true := by
        rcases hst with h | h
        · exact absurd h h1
        · simp [h]
      clear hst h1
      go_wp2
      go_ret
      exact ⟨rfl, bCall HW.out (HJJ.out _ hBf)⟩

end Go.Proofs.Ytmeiogoodbnkkaa

/- boardkeep.Sums. -/
namespace Go.Proofs.Ytmeiogoodbnkkaa
open Go.RowKit

theorem sums_pack {u l : List Int} {b : Int} (hc : Cfg u l b) (x y : Int) (k : Nat) (m : List Int) (hk : k < m.length) (h16 : m.length ≤ 16) : ∃ (sp : List Ord) (r : Mc) (s : St) (st tr : Int), isProg sp = true ∧ sp.length = 9 ∧ sp.flatMap oCells = [.int .i64 1, .int .i64 1, .int .i64 0, .int .i64 0, .int .i64 x, .int .i64 1, .int .i64 2, .int .i64 0, .int .i64 0, .int .i64 y, .int .i64 2, .int .i64 3, .int .i64 1, .int .i64 2, .int .i64 0, .int .i64 3, .int .i64 4, .int .i64 1, .int .i64 2, .int .i64 0, .int .i64 4, .int .i64 5, .int .i64 1, .int .i64 2, .int .i64 0, .int .i64 6, .int .i64 6, .int .i64 0, .int .i64 0, .int .i64 k, .int .i64 7, .int .i64 0, .int .i64 0, .int .i64 3, .int .i64 k, .int .i64 6, .int .i64 0, .int .i64 0, .int .i64 0, .int .i64 k, .int .i64 5, .int .i64 7, .int .i64 1, .int .i64 2, .int .i64 0] ∧ r = runM u l b sp m 400 ∧ (s, st, tr) = plainSt sp m 20 ∧
    (s.regs = r.regs ∧ s.mem = r.mem ∧ s.next = r.next ∧ st = r.stop ∧ tr = r.trap) ∧ s.mem.length = m.length ∧ r.mem.length ≤ 16 ∧ ((y = 0 ∧ s = ⟨[wrap64 (x + y), x, y, wrap64 (x + y), wrap64 (x - y), wrap64 (x * y), m.getD k 0, 0], m.set k (wrap64 (x + y)), 8, 8⟩ ∧ st = 1 ∧ tr = 1) ∨ (y ≠ 0 ∧ s = ⟨[wrap64 (x + y), x, y, wrap64 (x + y), wrap64 (x - y), wrap64 (x * y), m.getD k 0, wrap64 (x.tdiv y)], m.set k (wrap64 (x + y)), 9, 9⟩ ∧ st = 0 ∧ tr = 0)) := by
  have h1 := sums_pure hc x y k m hk h16
  have h2 := plain_mem_len (sP x y k) m 20
  have h3 : (runM u l b (sP x y k) m 400).mem.length ≤ 16 := by rw [run_mem_len hc (sP_is x y k) m 400 (by omega)]; exact h16
  have h4 : (y = 0 ∧ (plainSt (sP x y k) m 20).1 = ⟨[wrap64 (x + y), x, y, wrap64 (x + y), wrap64 (x - y), wrap64 (x * y), m.getD k 0, 0], m.set k (wrap64 (x + y)), 8, 8⟩ ∧ (plainSt (sP x y k) m 20).2.1 = 1 ∧ (plainSt (sP x y k) m 20).2.2 = 1) ∨ (y ≠ 0 ∧ (plainSt (sP x y k) m 20).1 = ⟨[wrap64 (x + y), x, y, wrap64 (x + y), wrap64 (x - y), wrap64 (x * y), m.getD k 0, wrap64 (x.tdiv y)], m.set k (wrap64 (x + y)), 9, 9⟩ ∧ (plainSt (sP x y k) m 20).2.1 = 0 ∧ (plainSt (sP x y k) m 20).2.2 = 0) := by
    by_cases hy : y = 0
    · rw [sums_zero x y k m hk h16 20 (by omega) hy]
      exact .inl ⟨hy, rfl, rfl, rfl⟩
    · rw [sums_some x y k m hk h16 20 (by omega) hy]
      exact .inr ⟨hy, rfl, rfl, rfl⟩
  generalize hP : plainSt (sP x y k) m 20 = P at *
  generalize hR : runM u l b (sP x y k) m 400 = R at *
  obtain ⟨s, st, tr⟩ := P
  exact ⟨sP x y k, R, s, st, tr, sP_is x y k, rfl, rfl, hR.symm, hP.symm, h1, h2, h3, h4⟩

set_option maxRecDepth 100000 in
set_option maxHeartbeats 8000000 in
theorem sums_law (u0 u1 u2 u3 l0 l1 l2 l3 b : Int) (hu : In64 u0 ∧ In64 u1 ∧ In64 u2 ∧ In64 u3 ∧ In64 l0 ∧ In64 l1 ∧ In64 l2 ∧ In64 l3 ∧ In64 b) (pm : Option Addr) (cm : Nat) (mem : List Int) (x y at' : Int) (hx64 : In64 x) (hy64 : In64 y) (hat : In64 at') (w : World) (hm : Rd w pm mem) (hlm : (mem.length : Int) ≤ 1000000000000000) (hcm : mem.length ≤ cm) :
    Calls Try.prog 7 #[.agg #[.int .i64 u0, .int .i64 u1, .int .i64 u2, .int .i64 u3, .int .i64 l0, .int .i64 l1, .int .i64 l2, .int .i64 l3, .int .i64 b], .int .i64 x, .int .i64 y, .slice pm mem.length cm, .int .i64 at'] w fun e w' => e = .returned (.bool true) ∧ Below w.heap.size w w' := by
  have HM := hide hm
  have HLM := hide hlm
  have HCM := hide hcm
  have HAT := hide hat
  have HX64 := hide hx64
  have HY64 := hide hy64
  have HC1 := hide (fun W => config_any u0 u1 u2 u3 l0 l1 l2 l3 b hu.1 hu.2.1 hu.2.2.1 hu.2.2.2.1 hu.2.2.2.2.1 hu.2.2.2.2.2.1 hu.2.2.2.2.2.2.1 hu.2.2.2.2.2.2.2.1 hu.2.2.2.2.2.2.2.2 W)
  have hG1 := cfg_ok u0 u1 u2 l0 l1 l2 l3 b
  have hF1 := cfg_fit u0 u1 u2 l0 l1 l2 l3 b
  clear hm hlm hcm hu hat hx64 hy64
  generalize 1 + pk u0 3 = y0 at *
  generalize 1 + pk u1 3 = y1 at *
  generalize 1 + pk u2 3 = y2 at *
  generalize 1 + pk l0 12 = y4 at *
  generalize 1 + pk l1 12 = y5 at *
  generalize 1 + pk l2 12 = y6 at *
  generalize 1 + pk l3 12 = y7 at *
  generalize 1 + pk b 3 = y8 at *
  have HG1 := hide hG1
  have HF1 := hide hF1
  clear hG1 hF1
  obtain ⟨mt, hmt⟩ : ∃ mt, mt = mem.take 16 := ⟨_, rfl⟩
  have hmt16 : mt.length ≤ 16 := by rw [hmt]; simp; omega
  have HMT := hide hmt
  have HMT16 := hide hmt16
  clear hmt
  obtain ⟨W0, hW0⟩ : ∃ W0, w.alloc (.cells #[.int .i64 u0, .int .i64 u1, .int .i64 u2, .int .i64 u3, .int .i64 l0, .int .i64 l1, .int .i64 l2, .int .i64 l3, .int .i64 b] 24) = W0 := ⟨_, rfl⟩
  have hb0 : Below w.heap.size w W0 := by rw [← hW0]; exact bAl (Below.refl _ _) _
  have hz0 : W0.heap.size = w.heap.size + 1 := by rw [← hW0]; simp
  have hr1 := cfg_rules (show W0.heap[w.heap.size]? = _ by rw [← hW0]; exact hNew rfl)
  have HB0 := hide hb0
  have HR1 := hide hr1
  have HME : Hid (∀ W, Calls Try.prog 12 #[.slice pm mem.length cm] W fun e w' => e = .returned (.slice pm mt.length cm) ∧ w' = W) := fun W => memory_any pm cm mem W HLM.out HCM.out mt HMT.out
  have HZ0 := hide hz0
  clear hb0 hr1 hz0
  go_enter Try.func7, Try.ntmps7
  go_upto_region 1 with fail
  clear hW0
  have hmI : (0 : Int) ≤ mt.length := by omega
  go_upto_if 27 with (first | (go_at_call 9; refine (ran_any _).mono ?_; rintro e wa ⟨rfl, hba⟩; have hBa : Below W0.heap.size W0 wa := hba) | (go_at_call 12; refine (HME.out _).mono ?_; rintro e W' ⟨rfl, hW'⟩; have hW'' := hW'.symm; clear hW'; subst hW''))
  go_cut [12] from 22 to 28 (fun s12 wx => ∃ (pn : Option Addr) (cn : Nat) (mm : List Int), s12 = .slice pn mm.length cn ∧ 1 ≤ mm.length ∧ mm.length ≤ 16 ∧ Rd wx pn mm ∧ Below W0.heap.size W0 wx)
  case first =>
    by_cases hz : mt.length = 0
    · have hzb : ((mt.length : Int) == 0) = true := by simp [hz]
      have HZ := hide hz
      clear hz
      go_wp2
      go_meet
      exact ⟨_, _, [8], rfl, by simp, by simp, .inr ⟨wa.heap.size, 0, rfl, by simp, fun i hi => by have : i = 0 := (by simpa using hi); subst this; simp [go_sem]⟩, bAl hBa _⟩
    · have hzb : ((mt.length : Int) == 0) = false := beq_eq_false_iff_ne.2 (by omega)
      have HZ := hide hz
      clear hz
      go_wp2
      go_meet
      exact ⟨pm, cm, mt, rfl, by have := HZ.out; omega, HMT16.out, by rw [HMT.out]; exact (HM.out.below (Nat.le_refl _) (bCall HB0.out hBa)).cut 16, hBa⟩
  case rest =>
  obtain ⟨pn, cn, m, rfl, hm1, hm16, hrdm, hBx⟩ := hcut
  rename World => W1
  have hk0 := pk_in (c := at') (n := (m.length : Int)) (by omega)
  obtain ⟨k, hk⟩ : ∃ k : Nat, pk at' m.length = k := ⟨(pk at' m.length).toNat, by omega⟩
  have hkm : k < m.length := by omega
  have HPK : Hid (∀ W, Calls Try.prog 16 #[.int .i64 at', .int .i64 m.length] W fun e w' => e = .returned (.int .i64 k) ∧ w' = W) := fun W => (pick_any at' m.length HAT.out (by omega) (by omega) W).mono fun e w' h => ⟨by rw [h.1, hk], h.2⟩
  clear hk hk0 hba hBa hmI hmt16 HME
  obtain ⟨sp, r, s, st, tr, hsp, hsl, hfl, hr, hs, hpu0, L2, L1, hsu0⟩ := sums_pack HG1.out x y k m hkm hm16
  have HPU := hide hpu0
  have HSU := hide hsu0
  clear hpu0 hsu0
  have HX1 : Hid (∀ W p c pm' cm', RdO W p sp → Rd W pm' m → Calls Try.prog 13 #[.agg #[.int .i64 y0, .int .i64 y1, .int .i64 y2, .int .i64 1, .int .i64 y4, .int .i64 y5, .int .i64 y6, .int .i64 y7, .int .i64 y8], .slice p 9 c, .slice pm' m.length cm', .int .i64 400] W fun e w' => ∃ x0 x1 x2 x3 x4 x5 x6 x7 pp cc pt ct, e = .returned (.tuple #[.agg #[.int .i64 x0, .int .i64 x1, .int .i64 x2, .int .i64 x3, .int .i64 x4, .int .i64 x5, .int .i64 x6, .int .i64 x7, .slice pp r.mem.length cc, .int .i64 r.next, .int .i64 r.stop, .int .i64 r.trap, .int .i64 r.steps], .slice pt r.given.length ct, .int .i64 0]) ∧ r.regs = [x0, x1, x2, x3, x4, x5, x6, x7] ∧ Below W.heap.size W w' ∧ Rd w' pp r.mem ∧ TmR w' W.heap.size pt r.given) := fun W p c pm' cm' h h' => by
    have := run_good y0 y1 y2 1 y4 y5 y6 y7 y8 p pm' c cm' sp m 400 W h h' hsp hm16 (by omega) (by omega) HF1.out r hr
    rw [hsl] at this
    exact this
  have HX2 : Hid (∀ W p c pm' cm', RdO W p sp → Rd W pm' m → Calls Try.prog 14 #[.slice p 9 c, .slice pm' m.length cm', .int .i64 20] W fun e w' => ∃ x0 x1 x2 x3 x4 x5 x6 x7 pp cc, e = .returned (.tuple #[.agg #[.int .i64 x0, .int .i64 x1, .int .i64 x2, .int .i64 x3, .int .i64 x4, .int .i64 x5, .int .i64 x6, .int .i64 x7, .slice pp s.mem.length cc, .int .i64 s.next, .int .i64 st, .int .i64 tr, .int .i64 s.steps], .int .i64 0]) ∧ s.regs = [x0, x1, x2, x3, x4, x5, x6, x7] ∧ Below W.heap.size W w' ∧ Rd w' pp s.mem) := fun W p c pm' cm' h h' => by
    have := plain_good p pm' c cm' sp m 20 W h h' hsp hm16 (by omega) (by omega) s st tr hs
    rw [hsl] at this
    exact this
  have HRW : Hid (∀ W B, W.heap[B]? = some (.cells #[.int .i64 1, .int .i64 1, .int .i64 0, .int .i64 0, .int .i64 x, .int .i64 1, .int .i64 2, .int .i64 0, .int .i64 0, .int .i64 y, .int .i64 2, .int .i64 3, .int .i64 1, .int .i64 2, .int .i64 0, .int .i64 3, .int .i64 4, .int .i64 1, .int .i64 2, .int .i64 0, .int .i64 4, .int .i64 5, .int .i64 1, .int .i64 2, .int .i64 0, .int .i64 6, .int .i64 6, .int .i64 0, .int .i64 0, .int .i64 k, .int .i64 7, .int .i64 0, .int .i64 0, .int .i64 3, .int .i64 k, .int .i64 6, .int .i64 0, .int .i64 0, .int .i64 0, .int .i64 k, .int .i64 5, .int .i64 7, .int .i64 1, .int .i64 2, .int .i64 0] 49 (0, 0)) → RdO W (some ⟨B, 0, none⟩) sp) := fun W B h => rdo_row h (by rw [hfl])
  have HL1 := hide L1
  have HL2 := hide L2
  have HRDM := hide hrdm
  have HBX := hide hBx
  have hkI : (k : Int) < (m.length : Int) := by omega
  clear hr hs L1 L2 hrdm hBx hsp hsl hfl
  go_upto_region 7 with (go_at_call 16; refine (HPK.out _).mono ?_; rintro e W' ⟨rfl, hW'⟩; have hW'' := hW'.symm; clear hW'; subst hW'')
  obtain ⟨W2, hW2⟩ : ∃ W2, W1.alloc (.cells #[.int .i64 1, .int .i64 1, .int .i64 0, .int .i64 0, .int .i64 x, .int .i64 1, .int .i64 2, .int .i64 0, .int .i64 0, .int .i64 y, .int .i64 2, .int .i64 3, .int .i64 1, .int .i64 2, .int .i64 0, .int .i64 3, .int .i64 4, .int .i64 1, .int .i64 2, .int .i64 0, .int .i64 4, .int .i64 5, .int .i64 1, .int .i64 2, .int .i64 0, .int .i64 6, .int .i64 6, .int .i64 0, .int .i64 0, .int .i64 k, .int .i64 7, .int .i64 0, .int .i64 0, .int .i64 3, .int .i64 k, .int .i64 6, .int .i64 0, .int .i64 0, .int .i64 0, .int .i64 k, .int .i64 5, .int .i64 7, .int .i64 1, .int .i64 2, .int .i64 0] 49) = W2 := ⟨_, rfl⟩
  rw [hW2]
  have HB2 : Hid (Below W1.heap.size W1 W2) := by rw [← hW2]; exact bAl (Below.refl _ _) _
  have HRP : Hid (∀ W, Below W2.heap.size W2 W → RdO W (some ⟨W1.heap.size, 0, none⟩) sp) := fun W h => (HRW.out W2 W1.heap.size (by rw [← hW2]; exact hNew rfl)).below (Nat.le_refl _) h
  clear hW2
  have HRM : Hid (∀ W, Below W2.heap.size W2 W → Rd W pn m) := fun W h => HRDM.out.below (Nat.le_refl _) (bCall HB2.out h)
  have HJ2 : Hid (∀ w', Below W2.heap.size W2 w' → Below W0.heap.size W0 w') := fun w' h => bCall HBX.out (bCall HB2.out h)
  have hrb : Below W2.heap.size W2 W2 := Below.refl _ _
  go_upto_region 8 with (first | (go_at_call 14; refine (HX2.out _ _ _ _ _ (HRP.out _ (by (repeat (first | with_reducible assumption | with_reducible exact Below.refl _ _ | with_reducible refine bAl ?_ _)))) (HRM.out _ (by (repeat (first | with_reducible assumption | with_reducible exact Below.refl _ _ | with_reducible refine bAl ?_ _))))).mono ?_; rintro e wd ⟨x0, x1, x2, x3, x4, x5, x6, x7, pp, cc, rfl, hx, hbd, hrd1⟩; have hBwd : Below W2.heap.size W2 wd := (bCall (by (repeat (first | with_reducible assumption | with_reducible exact Below.refl _ _ | with_reducible refine bAl ?_ _))) hbd)))
  obtain ⟨W3, hW3⟩ : ∃ W3, wd.alloc (.cells #[.int .i64 x0, .int .i64 x1, .int .i64 x2, .int .i64 x3, .int .i64 x4, .int .i64 x5, .int .i64 x6, .int .i64 x7, .slice pp s.mem.length cc, .int .i64 s.next, .int .i64 st, .int .i64 tr, .int .i64 s.steps] 33) = W3 := ⟨_, rfl⟩
  have hBW3 : Below W2.heap.size W2 W3 := by rw [← hW3]; exact bAl hBwd _
  have hzW3 : W3.heap.size = wd.heap.size + 1 := by rw [← hW3]; simp
  have hSW3 : W3.heap[wd.heap.size]? = some (.cells #[.int .i64 x0, .int .i64 x1, .int .i64 x2, .int .i64 x3, .int .i64 x4, .int .i64 x5, .int .i64 x6, .int .i64 x7, .slice pp s.mem.length cc, .int .i64 s.next, .int .i64 st, .int .i64 tr, .int .i64 s.steps] 33 (0, 0)) := by rw [← hW3]; exact heap_alloc_new _ _
  have HUW3 : Hid (Below wd.heap.size wd W3) := by rw [← hW3]; exact bAl (Below.refl _ _) _
  rw [hW3]
  clear hW3
  generalize hgW3 : wd.heap.size = S1 at *
  have HSW3 : Hid (∀ w', Below W3.heap.size W3 w' → w'.heap[S1]? = some (.cells #[.int .i64 x0, .int .i64 x1, .int .i64 x2, .int .i64 x3, .int .i64 x4, .int .i64 x5, .int .i64 x6, .int .i64 x7, .slice pp s.mem.length cc, .int .i64 s.next, .int .i64 st, .int .i64 tr, .int .i64 s.steps] 33 (0, 0))) := fun w' h => by rw [h.block _ (by omega)]; exact hSW3
  have hlW3 : S1 < W3.heap.size := by omega
  have HBW3 := hide hBW3
  have hrW3 : Below W3.heap.size W3 W3 := Below.refl _ _
  have HGW3 := hide hgW3
  clear hBW3 hzW3 hSW3 hgW3
  have HRD1 : Hid (∀ W, Below W3.heap.size W3 W → Rd W pp s.mem) := fun W h => hrd1.below (by rw [HGW3.out]; exact Nat.le_refl _) (HUW3.out.trans (h.mono (by omega)))
  have HJ3 : Hid (∀ w', Below W3.heap.size W3 w' → Below W2.heap.size W2 w') := fun w' h => bCall HBW3.out h
  have k0 : ∀ w', Below W3.heap.size W3 w' → w'.cell? ⟨w.heap.size, 0, none⟩ = some (.int .i64 u0) := fun w' h => by rw [cell_of_row _ _ _ _ _ _ (HR1.out w' (HJ2.out w' (HJ3.out w' h)))]; rfl
  have k1 : ∀ w', Below W3.heap.size W3 w' → w'.cell? ⟨w.heap.size, 1, none⟩ = some (.int .i64 u1) := fun w' h => by rw [cell_of_row _ _ _ _ _ _ (HR1.out w' (HJ2.out w' (HJ3.out w' h)))]; rfl
  have k2 : ∀ w', Below W3.heap.size W3 w' → w'.cell? ⟨w.heap.size, 2, none⟩ = some (.int .i64 u2) := fun w' h => by rw [cell_of_row _ _ _ _ _ _ (HR1.out w' (HJ2.out w' (HJ3.out w' h)))]; rfl
  have k3 : ∀ w', Below W3.heap.size W3 w' → w'.cell? ⟨w.heap.size, 3, none⟩ = some (.int .i64 u3) := fun w' h => by rw [cell_of_row _ _ _ _ _ _ (HR1.out w' (HJ2.out w' (HJ3.out w' h)))]; rfl
  have k4 : ∀ w', Below W3.heap.size W3 w' → w'.cell? ⟨w.heap.size, 4, none⟩ = some (.int .i64 l0) := fun w' h => by rw [cell_of_row _ _ _ _ _ _ (HR1.out w' (HJ2.out w' (HJ3.out w' h)))]; rfl
  have k5 : ∀ w', Below W3.heap.size W3 w' → w'.cell? ⟨w.heap.size, 5, none⟩ = some (.int .i64 l1) := fun w' h => by rw [cell_of_row _ _ _ _ _ _ (HR1.out w' (HJ2.out w' (HJ3.out w' h)))]; rfl
  have k6 : ∀ w', Below W3.heap.size W3 w' → w'.cell? ⟨w.heap.size, 6, none⟩ = some (.int .i64 l2) := fun w' h => by rw [cell_of_row _ _ _ _ _ _ (HR1.out w' (HJ2.out w' (HJ3.out w' h)))]; rfl
  have k7 : ∀ w', Below W3.heap.size W3 w' → w'.cell? ⟨w.heap.size, 7, none⟩ = some (.int .i64 l3) := fun w' h => by rw [cell_of_row _ _ _ _ _ _ (HR1.out w' (HJ2.out w' (HJ3.out w' h)))]; rfl
  have k8 : ∀ w', Below W3.heap.size W3 w' → w'.cell? ⟨w.heap.size, 8, none⟩ = some (.int .i64 b) := fun w' h => by rw [cell_of_row _ _ _ _ _ _ (HR1.out w' (HJ2.out w' (HJ3.out w' h)))]; rfl
  have hlw : w.heap.size < W3.heap.size := by have h1 := (HJ2.out _ (HJ3.out _ hrW3)).size; have h2 := HZ0.out; omega
  have HX := hide hx
  clear hbd hBwd hrd1 hrb hx HX2
  go_upto_region 9 with (first | (go_at_call 10; refine (HC1.out _).mono ?_; rintro e wc ⟨rfl, hbc⟩; have hBc : Below W3.heap.size W3 wc := (bCall (by (repeat (first | with_reducible assumption | with_reducible exact Below.refl _ _ | with_reducible refine bAl ?_ _))) hbc)) | (go_at_call 13; refine (HX1.out _ _ _ _ _ (HRP.out _ (HJ3.out _ (by (repeat (first | with_reducible assumption | with_reducible exact Below.refl _ _ | with_reducible refine bAl ?_ _))))) (HRM.out _ (HJ3.out _ (by (repeat (first | with_reducible assumption | with_reducible exact Below.refl _ _ | with_reducible refine bAl ?_ _)))))).mono ?_; rintro e we ⟨a0, a1, a2, a3, a4, a5, a6, a7, pq, cq, pu, cu, rfl, ha, hbe, hrd2, _⟩; have hBwe : Below W3.heap.size W3 we := (bCall (by (repeat (first | with_reducible assumption | with_reducible exact Below.refl _ _ | with_reducible refine bAl ?_ _))) hbe)))
  obtain ⟨W4, hW4⟩ : ∃ W4, we.alloc (.cells #[.int .i64 a0, .int .i64 a1, .int .i64 a2, .int .i64 a3, .int .i64 a4, .int .i64 a5, .int .i64 a6, .int .i64 a7, .slice pq r.mem.length cq, .int .i64 r.next, .int .i64 r.stop, .int .i64 r.trap, .int .i64 r.steps] 33) = W4 := ⟨_, rfl⟩
  have hBW4 : Below W3.heap.size W3 W4 := by rw [← hW4]; exact bAl hBwe _
  have hzW4 : W4.heap.size = we.heap.size + 1 := by rw [← hW4]; simp
  have hSW4 : W4.heap[we.heap.size]? = some (.cells #[.int .i64 a0, .int .i64 a1, .int .i64 a2, .int .i64 a3, .int .i64 a4, .int .i64 a5, .int .i64 a6, .int .i64 a7, .slice pq r.mem.length cq, .int .i64 r.next, .int .i64 r.stop, .int .i64 r.trap, .int .i64 r.steps] 33 (0, 0)) := by rw [← hW4]; exact heap_alloc_new _ _
  have HUW4 : Hid (Below we.heap.size we W4) := by rw [← hW4]; exact bAl (Below.refl _ _) _
  rw [hW4]
  clear hW4
  generalize hgW4 : we.heap.size = S2 at *
  have HSW4 : Hid (∀ w', Below W4.heap.size W4 w' → w'.heap[S2]? = some (.cells #[.int .i64 a0, .int .i64 a1, .int .i64 a2, .int .i64 a3, .int .i64 a4, .int .i64 a5, .int .i64 a6, .int .i64 a7, .slice pq r.mem.length cq, .int .i64 r.next, .int .i64 r.stop, .int .i64 r.trap, .int .i64 r.steps] 33 (0, 0))) := fun w' h => by rw [h.block _ (by omega)]; exact hSW4
  have hlW4 : S2 < W4.heap.size := by omega
  have HBW4 := hide hBW4
  have hrW4 : Below W4.heap.size W4 W4 := Below.refl _ _
  have HGW4 := hide hgW4
  clear hBW4 hzW4 hSW4 hgW4
  have HRD2 : Rd W4 pq r.mem := hrd2.below (by rw [HGW4.out]; exact Nat.le_refl _) (HUW4.out.mono (by omega))
  have HAA := hide ha
  have HFIN : Hid (∀ w', Below W4.heap.size W4 w' → Below w.heap.size w w') := fun w' h => bCall HB0.out (HJ2.out _ (HJ3.out _ (bCall HBW4.out h)))
  have HAL : Hid (Calls Try.prog 15 #[.agg #[.int .i64 x0, .int .i64 x1, .int .i64 x2, .int .i64 x3, .int .i64 x4, .int .i64 x5, .int .i64 x6, .int .i64 x7, .slice pp s.mem.length cc, .int .i64 s.next, .int .i64 st, .int .i64 tr, .int .i64 s.steps], .agg #[.int .i64 a0, .int .i64 a1, .int .i64 a2, .int .i64 a3, .int .i64 a4, .int .i64 a5, .int .i64 a6, .int .i64 a7, .slice pq r.mem.length cq, .int .i64 r.next, .int .i64 r.stop, .int .i64 r.trap, .int .i64 r.steps]] W4 fun e w' => e = .returned (.bool true) ∧ Below W4.heap.size W4 w') := by
    refine (alike_any x0 x1 x2 x3 x4 x5 x6 x7 s.next st tr s.steps a0 a1 a2 a3 a4 a5 a6 a7 r.next r.stop r.trap r.steps pp pq cc cq s.mem r.mem W4 (HRD1.out W4 HBW4.out) HRD2 (by have := HL2.out; omega) (by have := HL1.out; omega)).mono ?_
    rintro e w' ⟨q, rfl, hq, hb⟩
    refine ⟨?_, hb⟩
    obtain ⟨e1, e2, e3, e4, e5⟩ := HPU.out
    rw [hq ⟨e2, by rw [← HX.out, ← HAA.out]; exact e1, by rw [e3], e4, e5⟩]
  have m0 : ∀ w', Below W4.heap.size W4 w' → w'.cell? ⟨S1, 0, none⟩ = some (.int .i64 x0) := fun w' h => by rw [cell_of_row _ _ _ _ _ _ ((fun w' h => HSW3.out w' (bCall HBW4.out h)) w' h)]; rfl
  have m1 : ∀ w', Below W4.heap.size W4 w' → w'.cell? ⟨S1, 1, none⟩ = some (.int .i64 x1) := fun w' h => by rw [cell_of_row _ _ _ _ _ _ ((fun w' h => HSW3.out w' (bCall HBW4.out h)) w' h)]; rfl
  have m2 : ∀ w', Below W4.heap.size W4 w' → w'.cell? ⟨S1, 2, none⟩ = some (.int .i64 x2) := fun w' h => by rw [cell_of_row _ _ _ _ _ _ ((fun w' h => HSW3.out w' (bCall HBW4.out h)) w' h)]; rfl
  have m3 : ∀ w', Below W4.heap.size W4 w' → w'.cell? ⟨S1, 3, none⟩ = some (.int .i64 x3) := fun w' h => by rw [cell_of_row _ _ _ _ _ _ ((fun w' h => HSW3.out w' (bCall HBW4.out h)) w' h)]; rfl
  have m4 : ∀ w', Below W4.heap.size W4 w' → w'.cell? ⟨S1, 4, none⟩ = some (.int .i64 x4) := fun w' h => by rw [cell_of_row _ _ _ _ _ _ ((fun w' h => HSW3.out w' (bCall HBW4.out h)) w' h)]; rfl
  have m5 : ∀ w', Below W4.heap.size W4 w' → w'.cell? ⟨S1, 5, none⟩ = some (.int .i64 x5) := fun w' h => by rw [cell_of_row _ _ _ _ _ _ ((fun w' h => HSW3.out w' (bCall HBW4.out h)) w' h)]; rfl
  have m6 : ∀ w', Below W4.heap.size W4 w' → w'.cell? ⟨S1, 6, none⟩ = some (.int .i64 x6) := fun w' h => by rw [cell_of_row _ _ _ _ _ _ ((fun w' h => HSW3.out w' (bCall HBW4.out h)) w' h)]; rfl
  have m7 : ∀ w', Below W4.heap.size W4 w' → w'.cell? ⟨S1, 7, none⟩ = some (.int .i64 x7) := fun w' h => by rw [cell_of_row _ _ _ _ _ _ ((fun w' h => HSW3.out w' (bCall HBW4.out h)) w' h)]; rfl
  have m8 : ∀ w', Below W4.heap.size W4 w' → w'.cell? ⟨S1, 8, none⟩ = some (.slice pp s.mem.length cc) := fun w' h => by rw [cell_of_row _ _ _ _ _ _ ((fun w' h => HSW3.out w' (bCall HBW4.out h)) w' h)]; rfl
  have m9 : ∀ w', Below W4.heap.size W4 w' → w'.cell? ⟨S1, 9, none⟩ = some (.int .i64 s.next) := fun w' h => by rw [cell_of_row _ _ _ _ _ _ ((fun w' h => HSW3.out w' (bCall HBW4.out h)) w' h)]; rfl
  have m10 : ∀ w', Below W4.heap.size W4 w' → w'.cell? ⟨S1, 10, none⟩ = some (.int .i64 st) := fun w' h => by rw [cell_of_row _ _ _ _ _ _ ((fun w' h => HSW3.out w' (bCall HBW4.out h)) w' h)]; rfl
  have m11 : ∀ w', Below W4.heap.size W4 w' → w'.cell? ⟨S1, 11, none⟩ = some (.int .i64 tr) := fun w' h => by rw [cell_of_row _ _ _ _ _ _ ((fun w' h => HSW3.out w' (bCall HBW4.out h)) w' h)]; rfl
  have m12 : ∀ w', Below W4.heap.size W4 w' → w'.cell? ⟨S1, 12, none⟩ = some (.int .i64 s.steps) := fun w' h => by rw [cell_of_row _ _ _ _ _ _ ((fun w' h => HSW3.out w' (bCall HBW4.out h)) w' h)]; rfl
  have o0 : ∀ w', Below W4.heap.size W4 w' → w'.cell? ⟨S2, 0, none⟩ = some (.int .i64 a0) := fun w' h => by rw [cell_of_row _ _ _ _ _ _ (HSW4.out w' h)]; rfl
  have o1 : ∀ w', Below W4.heap.size W4 w' → w'.cell? ⟨S2, 1, none⟩ = some (.int .i64 a1) := fun w' h => by rw [cell_of_row _ _ _ _ _ _ (HSW4.out w' h)]; rfl
  have o2 : ∀ w', Below W4.heap.size W4 w' → w'.cell? ⟨S2, 2, none⟩ = some (.int .i64 a2) := fun w' h => by rw [cell_of_row _ _ _ _ _ _ (HSW4.out w' h)]; rfl
  have o3 : ∀ w', Below W4.heap.size W4 w' → w'.cell? ⟨S2, 3, none⟩ = some (.int .i64 a3) := fun w' h => by rw [cell_of_row _ _ _ _ _ _ (HSW4.out w' h)]; rfl
  have o4 : ∀ w', Below W4.heap.size W4 w' → w'.cell? ⟨S2, 4, none⟩ = some (.int .i64 a4) := fun w' h => by rw [cell_of_row _ _ _ _ _ _ (HSW4.out w' h)]; rfl
  have o5 : ∀ w', Below W4.heap.size W4 w' → w'.cell? ⟨S2, 5, none⟩ = some (.int .i64 a5) := fun w' h => by rw [cell_of_row _ _ _ _ _ _ (HSW4.out w' h)]; rfl
  have o6 : ∀ w', Below W4.heap.size W4 w' → w'.cell? ⟨S2, 6, none⟩ = some (.int .i64 a6) := fun w' h => by rw [cell_of_row _ _ _ _ _ _ (HSW4.out w' h)]; rfl
  have o7 : ∀ w', Below W4.heap.size W4 w' → w'.cell? ⟨S2, 7, none⟩ = some (.int .i64 a7) := fun w' h => by rw [cell_of_row _ _ _ _ _ _ (HSW4.out w' h)]; rfl
  have o8 : ∀ w', Below W4.heap.size W4 w' → w'.cell? ⟨S2, 8, none⟩ = some (.slice pq r.mem.length cq) := fun w' h => by rw [cell_of_row _ _ _ _ _ _ (HSW4.out w' h)]; rfl
  have o9 : ∀ w', Below W4.heap.size W4 w' → w'.cell? ⟨S2, 9, none⟩ = some (.int .i64 r.next) := fun w' h => by rw [cell_of_row _ _ _ _ _ _ (HSW4.out w' h)]; rfl
  have o10 : ∀ w', Below W4.heap.size W4 w' → w'.cell? ⟨S2, 10, none⟩ = some (.int .i64 r.stop) := fun w' h => by rw [cell_of_row _ _ _ _ _ _ (HSW4.out w' h)]; rfl
  have o11 : ∀ w', Below W4.heap.size W4 w' → w'.cell? ⟨S2, 11, none⟩ = some (.int .i64 r.trap) := fun w' h => by rw [cell_of_row _ _ _ _ _ _ (HSW4.out w' h)]; rfl
  have o12 : ∀ w', Below W4.heap.size W4 w' → w'.cell? ⟨S2, 12, none⟩ = some (.int .i64 r.steps) := fun w' h => by rw [cell_of_row _ _ _ _ _ _ (HSW4.out w' h)]; rfl
  have hlS1 : S1 < W4.heap.size := Nat.lt_of_lt_of_le hlW3 HBW4.out.size
  clear hbe hBwe hrd2 ha hrW3 hlW3 hBc hbc hlw HX1 HC1 HRD2 k0 k1 k2 k3 k4 k5 k6 k7 k8
  go_upto_region 10 with (go_at_call 15; refine HAL.out.mono ?_; rintro e wf ⟨rfl, hbf⟩; have hlf : S1 < wf.heap.size := (Nat.lt_of_lt_of_le hlS1 hbf.size))
  clear o0 o1 o2 o3 o4 o5 o6 o7 o8 o9 o10 o11 o12 HAL HPU
  obtain ⟨bm, om, rfl, hbm, hcm'⟩ := (HRM.out wf (HJ3.out _ (bCall HBW4.out hbf))).at hkm
  obtain ⟨bp, op, rfl, hbp, hcp⟩ := (HRD1.out wf (bCall HBW4.out hbf)).at (show k < s.mem.length by rw [HL2.out]; exact hkm)
  have v1 := hcm' k hkm
  have v2 := hcp k (by rw [HL2.out]; exact hkm)
  have hlq : ((s.mem.length : Int) != (m.length : Int)) = false := by rw [HL2.out]; simp
  have hkS : (k : Int) < (s.mem.length : Int) := by rw [HL2.out]; exact hkI
  clear hcm' hcp
  go_upto_region 11 with fail
  obtain ⟨W6, hW6⟩ : ∃ W6, wf.alloc (.cells #[.int .i64 x0, .int .i64 x1, .int .i64 x2, .int .i64 x3, .int .i64 x4, .int .i64 x5, .int .i64 x6, .int .i64 x7] 31) = W6 := ⟨_, rfl⟩
  rw [hW6]
  have hb6 : Below W4.heap.size W4 W6 := by rw [← hW6]; exact bAl hbf _
  have hR : W6.heap[wf.heap.size]? = some (.cells #[.int .i64 x0, .int .i64 x1, .int .i64 x2, .int .i64 x3, .int .i64 x4, .int .i64 x5, .int .i64 x6, .int .i64 x7] 31 (0, 0)) := by rw [← hW6]; exact heap_alloc_new _ _
  have w1 : W6.cell? ⟨bm, om + k, none⟩ = some (.int .i64 (m.getD k 0)) := by rw [← hW6, (bAl (Below.refl wf.heap.size wf) _).cell (p := ⟨bm, om + k, none⟩) hbm]; exact v1
  have w2 : W6.cell? ⟨bp, op + k, none⟩ = some (.int .i64 (s.mem.getD k 0)) := by rw [← hW6, (bAl (Below.refl wf.heap.size wf) _).cell (p := ⟨bp, op + k, none⟩) hbp]; exact v2
  have p0 : W6.cell? ⟨wf.heap.size, 0, none⟩ = some (.int .i64 x0) := by rw [cell_of_row _ _ _ _ _ _ hR]; rfl
  have p1 : W6.cell? ⟨wf.heap.size, 1, none⟩ = some (.int .i64 x1) := by rw [cell_of_row _ _ _ _ _ _ hR]; rfl
  have p2 : W6.cell? ⟨wf.heap.size, 2, none⟩ = some (.int .i64 x2) := by rw [cell_of_row _ _ _ _ _ _ hR]; rfl
  have p3 : W6.cell? ⟨wf.heap.size, 3, none⟩ = some (.int .i64 x3) := by rw [cell_of_row _ _ _ _ _ _ hR]; rfl
  have p4 : W6.cell? ⟨wf.heap.size, 4, none⟩ = some (.int .i64 x4) := by rw [cell_of_row _ _ _ _ _ _ hR]; rfl
  have p5 : W6.cell? ⟨wf.heap.size, 5, none⟩ = some (.int .i64 x5) := by rw [cell_of_row _ _ _ _ _ _ hR]; rfl
  have p6 : W6.cell? ⟨wf.heap.size, 6, none⟩ = some (.int .i64 x6) := by rw [cell_of_row _ _ _ _ _ _ hR]; rfl
  have p7 : W6.cell? ⟨wf.heap.size, 7, none⟩ = some (.int .i64 x7) := by rw [cell_of_row _ _ _ _ _ _ hR]; rfl
  have n8 : W6.cell? ⟨S1, 8, none⟩ = some (.slice (some ⟨bp, op, none⟩) s.mem.length cc) := m8 W6 hb6
  have n9 : W6.cell? ⟨S1, 9, none⟩ = some (.int .i64 s.next) := m9 W6 hb6
  have n10 : W6.cell? ⟨S1, 10, none⟩ = some (.int .i64 st) := m10 W6 hb6
  have n11 : W6.cell? ⟨S1, 11, none⟩ = some (.int .i64 tr) := m11 W6 hb6
  have HB6 := hide hb6
  clear hW6 hR v1 v2 hbf hb6 m0 m1 m2 m3 m4 m5 m6 m7 m8 m9 m10 m11 m12 hlf hlS1 hrW4 hlW4
  generalize wf.heap.size = R at *
  obtain ⟨mk, hmk⟩ : ∃ mk, mk = m.getD k 0 := ⟨_, rfl⟩
  rw [← hmk] at w1
  have hx' := HX.out
  have hsm : ∀ A : Int, s.mem = m.set k A → s.mem.getD k 0 = A := fun A h => by rw [h]; exact getD_set_self hkm
  have HSM := hide hsm
  clear hsm
  rcases HSU.out with ⟨hy, hs, rfl, rfl⟩ | ⟨hy, hs, rfl, rfl⟩
  · have e2 : s.mem.getD k 0 = wrap64 (x + y) := HSM.out _ (by rw [hs])
    have en : (s.next : Int) = 8 := by rw [hs]; rfl
    rw [e2] at w2
    rw [en] at n9
    rw [hs, ← hmk] at hx'
    simp only [List.cons.injEq, and_true] at hx'
    obtain ⟨rfl, rfl, rfl, rfl, rfl, rfl, rfl, rfl⟩ := hx'
    have hyb : (y == 0) = true := by simp [hy]
    generalize s.mem.length = sl at *
    clear hs hy en e2 HSU HX hmk HSM HPK HRM HRD1 HL1 HL2
    simp only [List.append_eq, List.cons_append, List.nil_append]
    go_quiet (fail)
    go_wp2
    go_ret
    exact ⟨rfl, HFIN.out _ (below_drewN HB6.out _)⟩
  · have e2 : s.mem.getD k 0 = wrap64 (x + y) := HSM.out _ (by rw [hs])
    have en : (s.next : Int) = 9 := by rw [hs]; rfl
    rw [e2] at w2
    rw [en] at n9
    rw [hs, ← hmk] at hx'
    simp only [List.cons.injEq, and_true] at hx'
    obtain ⟨rfl, rfl, rfl, rfl, rfl, rfl, rfl, rfl⟩ := hx'
    have hyb : (y == 0) = false := by simp [hy]
    generalize s.mem.length = sl at *
    by_cases hy1 : y = -1
    · have hy1b : (y == -1) = true := by simp [hy1]
      have hq : (wrap64 (x.tdiv y) == wrap64 (0 - x)) = true := by rw [hy1]; simp
      have hq' : (wrap64 (x.tdiv y) == wrap64 (-x)) = true := by rw [hy1]; simp
      clear hs hy en e2 HSU HX hmk HSM hy1 HPK HRM HRD1 HL1 HL2
      generalize wrap64 (x.tdiv y) = q at *
      simp only [List.append_eq, List.cons_append, List.nil_append]
      go_quiet (fail)
      go_wp2
      go_ret
      exact ⟨rfl, HFIN.out _ (below_drewN HB6.out _)⟩
    · have hy1b : (y == -1) = false := by simp [hy1]
      clear hs en e2 HSU HX hmk HSM hy1 HPK HRM HRD1 HL1 HL2
      simp only [List.append_eq, List.cons_append, List.nil_append]
      go_quiet (fail)
      go_wp2
      go_quiet (fail)
      go_wp2
      go_ret
      exact ⟨rfl, HFIN.out _ (below_drewN (below_drewN HB6.out _) _)⟩

end Go.Proofs.Ytmeiogoodbnkkaa
