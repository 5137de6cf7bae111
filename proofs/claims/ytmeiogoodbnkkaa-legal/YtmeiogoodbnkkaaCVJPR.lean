/- Several texts in one: VJ, VM, VN, VL, PO, VQ, PR. -/
import Derived.Test.YtmeiogoodbnkkaaCVH
import Derived.Test.YtmeiogoodbnkkaaCVI
import Derived.Deep.CutBlock
import Derived.Test.YtmeiogoodbnkkaaCPAPN
/- boardkeep.Anyhow. -/
namespace Go.Proofs.Ytmeiogoodbnkkaa
open Go.RowKit

/-- The cells of a configuration that was boxed. -/
theorem cfg_rules {W0 : World} {N : Nat} {u0 u1 u2 u3 l0 l1 l2 l3 b : Int} (h : W0.heap[N]? = some (.cells #[.int .i64 u0, .int .i64 u1, .int .i64 u2, .int .i64 u3, .int .i64 l0, .int .i64 l1, .int .i64 l2, .int .i64 l3, .int .i64 b] 24 (0, 0))) :
    ∀ w', Below W0.heap.size W0 w' → w'.heap[N]? = some (.cells #[.int .i64 u0, .int .i64 u1, .int .i64 u2, .int .i64 u3, .int .i64 l0, .int .i64 l1, .int .i64 l2, .int .i64 l3, .int .i64 b] 24 (0, 0)) := fun w' hb => by
  rw [hb.block _ (Array.getElem?_eq_some_iff.1 h).1]; exact h

theorem row9 {w : World} {U : Nat} {v0 v1 v2 v3 v4 v5 v6 v7 v8 : Value} (h : w.heap[U]? = some (.cells #[v0, v1, v2, v3, v4, v5, v6, v7, v8] 24 (0, 0))) :
    w.cell? ⟨U, 0, none⟩ = some v0 ∧ w.cell? ⟨U, 1, none⟩ = some v1 ∧ w.cell? ⟨U, 2, none⟩ = some v2 ∧ w.cell? ⟨U, 3, none⟩ = some v3 ∧ w.cell? ⟨U, 4, none⟩ = some v4 ∧ w.cell? ⟨U, 5, none⟩ = some v5 ∧ w.cell? ⟨U, 6, none⟩ = some v6 ∧ w.cell? ⟨U, 7, none⟩ = some v7 ∧ w.cell? ⟨U, 8, none⟩ = some v8 := by
  have g : ∀ j, w.cell? ⟨U, j, none⟩ = #[v0, v1, v2, v3, v4, v5, v6, v7, v8][j]? := fun j => cell_of_row _ _ _ _ _ _ h
  exact ⟨g 0, g 1, g 2, g 3, g 4, g 5, g 6, g 7, g 8⟩

theorem hNew {w : World} {cs : Array Value} {e : TypeId} {N : Nat} (h : w.heap.size = N) : (w.alloc (.cells cs e)).heap[N]? = some (.cells cs e (0, 0)) := by
  subst h
  exact heap_alloc_new _ _
theorem hOld {w : World} {x o : Obj} {N : Nat} (h : w.heap[N]? = some o) : (w.alloc x).heap[N]? = some o :=
  (Below.heap_alloc w x N (Array.getElem?_eq_some_iff.1 h).1).trans h

set_option maxRecDepth 100000 in
set_option maxHeartbeats 4000000 in
theorem anyhow_law (u0 u1 u2 u3 l0 l1 l2 l3 b u0' u1' u2' u3' l0' l1' l2' l3' b' : Int) (hu : In64 u0 ∧ In64 u1 ∧ In64 u2 ∧ In64 u3 ∧ In64 l0 ∧ In64 l1 ∧ In64 l2 ∧ In64 l3 ∧ In64 b) (hu' : In64 u0' ∧ In64 u1' ∧ In64 u2' ∧ In64 u3' ∧ In64 l0' ∧ In64 l1' ∧ In64 l2' ∧ In64 l3' ∧ In64 b')
    (p pm : Option Addr) (c cm : Nat) (raw : List Ord) (mem : List Int) (w : World) (hp : RdO w p raw) (hin : ∀ j, j < raw.length → In64O (raw.getD j Ord.none)) (hlen : (raw.length : Int) ≤ 1000000000000000) (hm : Rd w pm mem) (hlm : (mem.length : Int) ≤ 1000000000000000) (hcm : mem.length ≤ cm) :
    Calls Try.prog 4 #[.agg #[.int .i64 u0, .int .i64 u1, .int .i64 u2, .int .i64 u3, .int .i64 l0, .int .i64 l1, .int .i64 l2, .int .i64 l3, .int .i64 b], .agg #[.int .i64 u0', .int .i64 u1', .int .i64 u2', .int .i64 u3', .int .i64 l0', .int .i64 l1', .int .i64 l2', .int .i64 l3', .int .i64 b'], .slice p raw.length c, .slice pm mem.length cm] w fun e w' => e = .returned (.bool true) ∧ Below w.heap.size w w' := by
  have HP := hide hp
  have HIN := hide hin
  have HM := hide hm
  have HLEN := hide hlen
  have HLM := hide hlm
  have HCM := hide hcm
  have HC1 := hide (fun W => config_any u0 u1 u2 u3 l0 l1 l2 l3 b hu.1 hu.2.1 hu.2.2.1 hu.2.2.2.1 hu.2.2.2.2.1 hu.2.2.2.2.2.1 hu.2.2.2.2.2.2.1 hu.2.2.2.2.2.2.2.1 hu.2.2.2.2.2.2.2.2 W)
  have HC2 := hide (fun W => config_any u0' u1' u2' u3' l0' l1' l2' l3' b' hu'.1 hu'.2.1 hu'.2.2.1 hu'.2.2.2.1 hu'.2.2.2.2.1 hu'.2.2.2.2.2.1 hu'.2.2.2.2.2.2.1 hu'.2.2.2.2.2.2.2.1 hu'.2.2.2.2.2.2.2.2 W)
  have hG1 := cfg_ok u0 u1 u2 l0 l1 l2 l3 b
  have hF1 := cfg_fit u0 u1 u2 l0 l1 l2 l3 b
  have hG2 := cfg_ok u0' u1' u2' l0' l1' l2' l3' b'
  have hF2 := cfg_fit u0' u1' u2' l0' l1' l2' l3' b'
  clear hp hin hm hlen hlm hcm hu hu'
  generalize 1 + pk u0 3 = y0 at *
  generalize 1 + pk u1 3 = y1 at *
  generalize 1 + pk u2 3 = y2 at *
  generalize 1 + pk l0 12 = y4 at *
  generalize 1 + pk l1 12 = y5 at *
  generalize 1 + pk l2 12 = y6 at *
  generalize 1 + pk l3 12 = y7 at *
  generalize 1 + pk b 3 = y8 at *
  generalize 1 + pk u0' 3 = z0 at *
  generalize 1 + pk u1' 3 = z1 at *
  generalize 1 + pk u2' 3 = z2 at *
  generalize 1 + pk l0' 12 = z4 at *
  generalize 1 + pk l1' 12 = z5 at *
  generalize 1 + pk l2' 12 = z6 at *
  generalize 1 + pk l3' 12 = z7 at *
  generalize 1 + pk b' 3 = z8 at *
  have HG1 := hide hG1
  have HF1 := hide hF1
  have HG2 := hide hG2
  have HF2 := hide hF2
  clear hG1 hF1 hG2 hF2
  obtain ⟨mt, hmt⟩ : ∃ mt, mt = mem.take 16 := ⟨_, rfl⟩
  have hmt16 : mt.length ≤ 16 := by rw [hmt]; simp; omega
  have HMT := hide hmt
  clear hmt
  obtain ⟨W0, hW0⟩ : ∃ W0, (w.alloc (.cells #[.int .i64 u0, .int .i64 u1, .int .i64 u2, .int .i64 u3, .int .i64 l0, .int .i64 l1, .int .i64 l2, .int .i64 l3, .int .i64 b] 24)).alloc (.cells #[.int .i64 u0', .int .i64 u1', .int .i64 u2', .int .i64 u3', .int .i64 l0', .int .i64 l1', .int .i64 l2', .int .i64 l3', .int .i64 b'] 24) = W0 := ⟨_, rfl⟩
  have hb0 : Below w.heap.size w W0 := by rw [← hW0]; exact bAl (bAl (Below.refl _ _) _) _
  have hz0 : W0.heap.size = w.heap.size + 1 + 1 := by rw [← hW0]; simp
  have hr1 := cfg_rules (show W0.heap[w.heap.size]? = _ by rw [← hW0]; exact hOld (hNew rfl))
  have hr2 := cfg_rules (show W0.heap[w.heap.size + 1]? = _ by rw [← hW0]; exact hNew (by simp))
  have HB0 := hide hb0
  have HR1 := hide hr1
  have HR2 := hide hr2
  have k0 : ∀ w', Below W0.heap.size W0 w' → w'.cell? ⟨w.heap.size, 0, none⟩ = some (.int .i64 u0) := fun w' h => by rw [cell_of_row _ _ _ _ _ _ (HR1.out w' h)]; rfl
  have k1 : ∀ w', Below W0.heap.size W0 w' → w'.cell? ⟨w.heap.size, 1, none⟩ = some (.int .i64 u1) := fun w' h => by rw [cell_of_row _ _ _ _ _ _ (HR1.out w' h)]; rfl
  have k2 : ∀ w', Below W0.heap.size W0 w' → w'.cell? ⟨w.heap.size, 2, none⟩ = some (.int .i64 u2) := fun w' h => by rw [cell_of_row _ _ _ _ _ _ (HR1.out w' h)]; rfl
  have k3 : ∀ w', Below W0.heap.size W0 w' → w'.cell? ⟨w.heap.size, 3, none⟩ = some (.int .i64 u3) := fun w' h => by rw [cell_of_row _ _ _ _ _ _ (HR1.out w' h)]; rfl
  have k4 : ∀ w', Below W0.heap.size W0 w' → w'.cell? ⟨w.heap.size, 4, none⟩ = some (.int .i64 l0) := fun w' h => by rw [cell_of_row _ _ _ _ _ _ (HR1.out w' h)]; rfl
  have k5 : ∀ w', Below W0.heap.size W0 w' → w'.cell? ⟨w.heap.size, 5, none⟩ = some (.int .i64 l1) := fun w' h => by rw [cell_of_row _ _ _ _ _ _ (HR1.out w' h)]; rfl
  have k6 : ∀ w', Below W0.heap.size W0 w' → w'.cell? ⟨w.heap.size, 6, none⟩ = some (.int .i64 l2) := fun w' h => by rw [cell_of_row _ _ _ _ _ _ (HR1.out w' h)]; rfl
  have k7 : ∀ w', Below W0.heap.size W0 w' → w'.cell? ⟨w.heap.size, 7, none⟩ = some (.int .i64 l3) := fun w' h => by rw [cell_of_row _ _ _ _ _ _ (HR1.out w' h)]; rfl
  have k8 : ∀ w', Below W0.heap.size W0 w' → w'.cell? ⟨w.heap.size, 8, none⟩ = some (.int .i64 b) := fun w' h => by rw [cell_of_row _ _ _ _ _ _ (HR1.out w' h)]; rfl
  have j0 : ∀ w', Below W0.heap.size W0 w' → w'.cell? ⟨w.heap.size + 1, 0, none⟩ = some (.int .i64 u0') := fun w' h => by rw [cell_of_row _ _ _ _ _ _ (HR2.out w' h)]; rfl
  have j1 : ∀ w', Below W0.heap.size W0 w' → w'.cell? ⟨w.heap.size + 1, 1, none⟩ = some (.int .i64 u1') := fun w' h => by rw [cell_of_row _ _ _ _ _ _ (HR2.out w' h)]; rfl
  have j2 : ∀ w', Below W0.heap.size W0 w' → w'.cell? ⟨w.heap.size + 1, 2, none⟩ = some (.int .i64 u2') := fun w' h => by rw [cell_of_row _ _ _ _ _ _ (HR2.out w' h)]; rfl
  have j3 : ∀ w', Below W0.heap.size W0 w' → w'.cell? ⟨w.heap.size + 1, 3, none⟩ = some (.int .i64 u3') := fun w' h => by rw [cell_of_row _ _ _ _ _ _ (HR2.out w' h)]; rfl
  have j4 : ∀ w', Below W0.heap.size W0 w' → w'.cell? ⟨w.heap.size + 1, 4, none⟩ = some (.int .i64 l0') := fun w' h => by rw [cell_of_row _ _ _ _ _ _ (HR2.out w' h)]; rfl
  have j5 : ∀ w', Below W0.heap.size W0 w' → w'.cell? ⟨w.heap.size + 1, 5, none⟩ = some (.int .i64 l1') := fun w' h => by rw [cell_of_row _ _ _ _ _ _ (HR2.out w' h)]; rfl
  have j6 : ∀ w', Below W0.heap.size W0 w' → w'.cell? ⟨w.heap.size + 1, 6, none⟩ = some (.int .i64 l2') := fun w' h => by rw [cell_of_row _ _ _ _ _ _ (HR2.out w' h)]; rfl
  have j7 : ∀ w', Below W0.heap.size W0 w' → w'.cell? ⟨w.heap.size + 1, 7, none⟩ = some (.int .i64 l3') := fun w' h => by rw [cell_of_row _ _ _ _ _ _ (HR2.out w' h)]; rfl
  have j8 : ∀ w', Below W0.heap.size W0 w' → w'.cell? ⟨w.heap.size + 1, 8, none⟩ = some (.int .i64 b') := fun w' h => by rw [cell_of_row _ _ _ _ _ _ (HR2.out w' h)]; rfl
  have HPR : Hid (∀ W, Below w.heap.size w W → Calls Try.prog 11 #[.slice p raw.length c] W fun e w' => ∃ g n cap prog, e = .returned (.slice (some ⟨g, 0, none⟩) n cap) ∧ prog.length = n ∧ isProg prog = true ∧ RdO w' (some ⟨g, 0, none⟩) prog ∧ W.heap.size ≤ g ∧ Below W.heap.size W w') := fun W h => program_any p c raw W (HP.out.below (Nat.le_refl _) h) HIN.out HLEN.out
  have HME : Hid (∀ W, Calls Try.prog 12 #[.slice pm mem.length cm] W fun e w' => e = .returned (.slice pm mt.length cm) ∧ w' = W) := fun W => memory_any pm cm mem W HLM.out HCM.out mt HMT.out
  have HZ0 := hide hz0
  clear hb0 hr1 hr2 hz0
  go_enter Try.func4, Try.ntmps4
  go_upto_region 1 with fail
  clear hW0
  go_upto_region 3 with (first | (go_at_call 9; refine (ran_any _).mono ?_; rintro e wa ⟨rfl, hba⟩) | (go_at_call 11; refine (HPR.out _ (bCall HB0.out hba)).mono ?_; rintro e wb ⟨g, n, cap, prog, rfl, hpl, hprog, hrd, hgg, hbb⟩))
  subst hpl
  have hBb : Below W0.heap.size W0 wb := bCall hba hbb
  have HBb := hide hBb
  have hls : w.heap.size < wb.heap.size := by have := hBb.size; have := HZ0.out; omega
  have hls1 : w.heap.size + 1 < wb.heap.size := by have := hBb.size; have := HZ0.out; omega
  have HRM : Hid (∀ W, Below wb.heap.size wb W → Rd W pm mt) := fun W h => by rw [HMT.out]; exact (HM.out.below (Nat.le_refl _) (bCall HB0.out (bCall HBb.out h))).cut 16
  have HRP : Hid (∀ W, Below wb.heap.size wb W → RdO W (some ⟨g, 0, none⟩) prog) := fun W h => hrd.below (Nat.le_refl _) h
  obtain ⟨r1, hr1⟩ : ∃ r, r = runM [y0, y1, y2, 1] [y4, y5, y6, y7] y8 prog mt 400 := ⟨_, rfl⟩
  obtain ⟨r2, hr2⟩ : ∃ r, r = runM [z0, z1, z2, 1] [z4, z5, z6, z7] z8 prog mt 400 := ⟨_, rfl⟩
  have HX1 : Hid (∀ W, Below wb.heap.size wb W → Calls Try.prog 13 #[.agg #[.int .i64 y0, .int .i64 y1, .int .i64 y2, .int .i64 1, .int .i64 y4, .int .i64 y5, .int .i64 y6, .int .i64 y7, .int .i64 y8], .slice (some ⟨g, 0, none⟩) prog.length cap, .slice pm mt.length cm, .int .i64 400] W fun e w' =>
      ∃ x0 x1 x2 x3 x4 x5 x6 x7 pp cc pt ct, e = .returned (.tuple #[.agg #[.int .i64 x0, .int .i64 x1, .int .i64 x2, .int .i64 x3, .int .i64 x4, .int .i64 x5, .int .i64 x6, .int .i64 x7, .slice pp r1.mem.length cc, .int .i64 r1.next, .int .i64 r1.stop, .int .i64 r1.trap, .int .i64 r1.steps], .slice pt r1.given.length ct, .int .i64 0]) ∧
        r1.regs = [x0, x1, x2, x3, x4, x5, x6, x7] ∧ Below W.heap.size W w' ∧ Rd w' pp r1.mem ∧ TmR w' W.heap.size pt r1.given) := fun W h =>
    run_good y0 y1 y2 1 y4 y5 y6 y7 y8 _ pm cap cm prog mt 400 W (HRP.out W h) (HRM.out W h) hprog hmt16 (by omega) (by omega) HF1.out r1 hr1
  have HX2 : Hid (∀ W, Below wb.heap.size wb W → Calls Try.prog 13 #[.agg #[.int .i64 z0, .int .i64 z1, .int .i64 z2, .int .i64 1, .int .i64 z4, .int .i64 z5, .int .i64 z6, .int .i64 z7, .int .i64 z8], .slice (some ⟨g, 0, none⟩) prog.length cap, .slice pm mt.length cm, .int .i64 400] W fun e w' =>
      ∃ x0 x1 x2 x3 x4 x5 x6 x7 pp cc pt ct, e = .returned (.tuple #[.agg #[.int .i64 x0, .int .i64 x1, .int .i64 x2, .int .i64 x3, .int .i64 x4, .int .i64 x5, .int .i64 x6, .int .i64 x7, .slice pp r2.mem.length cc, .int .i64 r2.next, .int .i64 r2.stop, .int .i64 r2.trap, .int .i64 r2.steps], .slice pt r2.given.length ct, .int .i64 0]) ∧
        r2.regs = [x0, x1, x2, x3, x4, x5, x6, x7] ∧ Below W.heap.size W w' ∧ Rd w' pp r2.mem ∧ TmR w' W.heap.size pt r2.given) := fun W h =>
    run_good z0 z1 z2 1 z4 z5 z6 z7 z8 _ pm cap cm prog mt 400 W (HRP.out W h) (HRM.out W h) hprog hmt16 (by omega) (by omega) HF2.out r2 hr2
  have HAN := anyhow_pure HG1.out HG2.out hprog mt 400 (by omega)
  rw [← hr1, ← hr2] at HAN
  have HAN := hide HAN
  have L1 : r1.mem.length ≤ 16 := by rw [hr1, run_mem_len HG1.out hprog mt 400 (by omega)]; exact hmt16
  have L2 : r2.mem.length ≤ 16 := by rw [hr2, run_mem_len HG2.out hprog mt 400 (by omega)]; exact hmt16
  have HL1 := hide L1
  have HL2 := hide L2
  clear hr1 hr2 L1 L2 hprog hrd hgg hba hbb hmt16 HRP HRM HPR HM HP HIN HLEN HLM HMT HCM HF1 HF2 HG1 HG2
  have hk : ∀ w', Below wb.heap.size wb w' → Below W0.heap.size W0 w' := fun w' h => bCall HBb.out h
  have k0' : ∀ w', Below wb.heap.size wb w' → w'.cell? ⟨w.heap.size, 0, none⟩ = some (.int .i64 u0) := fun w' h => k0 w' (hk w' h)
  have j0' : ∀ w', Below wb.heap.size wb w' → w'.cell? ⟨w.heap.size + 1, 0, none⟩ = some (.int .i64 u0') := fun w' h => j0 w' (hk w' h)
  have k1' : ∀ w', Below wb.heap.size wb w' → w'.cell? ⟨w.heap.size, 1, none⟩ = some (.int .i64 u1) := fun w' h => k1 w' (hk w' h)
  have j1' : ∀ w', Below wb.heap.size wb w' → w'.cell? ⟨w.heap.size + 1, 1, none⟩ = some (.int .i64 u1') := fun w' h => j1 w' (hk w' h)
  have k2' : ∀ w', Below wb.heap.size wb w' → w'.cell? ⟨w.heap.size, 2, none⟩ = some (.int .i64 u2) := fun w' h => k2 w' (hk w' h)
  have j2' : ∀ w', Below wb.heap.size wb w' → w'.cell? ⟨w.heap.size + 1, 2, none⟩ = some (.int .i64 u2') := fun w' h => j2 w' (hk w' h)
  have k3' : ∀ w', Below wb.heap.size wb w' → w'.cell? ⟨w.heap.size, 3, none⟩ = some (.int .i64 u3) := fun w' h => k3 w' (hk w' h)
  have j3' : ∀ w', Below wb.heap.size wb w' → w'.cell? ⟨w.heap.size + 1, 3, none⟩ = some (.int .i64 u3') := fun w' h => j3 w' (hk w' h)
  have k4' : ∀ w', Below wb.heap.size wb w' → w'.cell? ⟨w.heap.size, 4, none⟩ = some (.int .i64 l0) := fun w' h => k4 w' (hk w' h)
  have j4' : ∀ w', Below wb.heap.size wb w' → w'.cell? ⟨w.heap.size + 1, 4, none⟩ = some (.int .i64 l0') := fun w' h => j4 w' (hk w' h)
  have k5' : ∀ w', Below wb.heap.size wb w' → w'.cell? ⟨w.heap.size, 5, none⟩ = some (.int .i64 l1) := fun w' h => k5 w' (hk w' h)
  have j5' : ∀ w', Below wb.heap.size wb w' → w'.cell? ⟨w.heap.size + 1, 5, none⟩ = some (.int .i64 l1') := fun w' h => j5 w' (hk w' h)
  have k6' : ∀ w', Below wb.heap.size wb w' → w'.cell? ⟨w.heap.size, 6, none⟩ = some (.int .i64 l2) := fun w' h => k6 w' (hk w' h)
  have j6' : ∀ w', Below wb.heap.size wb w' → w'.cell? ⟨w.heap.size + 1, 6, none⟩ = some (.int .i64 l2') := fun w' h => j6 w' (hk w' h)
  have k7' : ∀ w', Below wb.heap.size wb w' → w'.cell? ⟨w.heap.size, 7, none⟩ = some (.int .i64 l3) := fun w' h => k7 w' (hk w' h)
  have j7' : ∀ w', Below wb.heap.size wb w' → w'.cell? ⟨w.heap.size + 1, 7, none⟩ = some (.int .i64 l3') := fun w' h => j7 w' (hk w' h)
  have k8' : ∀ w', Below wb.heap.size wb w' → w'.cell? ⟨w.heap.size, 8, none⟩ = some (.int .i64 b) := fun w' h => k8 w' (hk w' h)
  have j8' : ∀ w', Below wb.heap.size wb w' → w'.cell? ⟨w.heap.size + 1, 8, none⟩ = some (.int .i64 b') := fun w' h => j8 w' (hk w' h)
  have hW : Below w.heap.size w wb := bCall HB0.out hBb
  have HW := hide hW
  clear hk hBb hW k0 j0 k1 j1 k2 j2 k3 j3 k4 j4 k5 j5 k6 j6 k7 j7 k8 j8
  have hrb : Below wb.heap.size wb wb := Below.refl _ _
  go_upto_region 5 with (first | (go_at_call 12; refine (HME.out _).mono ?_; rintro e W' ⟨rfl, hW'⟩; have hW'' := hW'.symm; clear hW'; subst hW'') | (go_at_call 10; refine (HC1.out _).mono ?_; rintro e wc ⟨rfl, hbc⟩; have hBc : Below wb.heap.size wb wc := (bCall (by (repeat (first | with_reducible assumption | with_reducible exact Below.refl _ _ | with_reducible refine bAl ?_ _))) hbc)) | (go_at_call 13; refine (HX1.out _ (by (repeat (first | with_reducible assumption | with_reducible exact Below.refl _ _ | with_reducible refine bAl ?_ _)))).mono ?_; rintro e wd ⟨x0, x1, x2, x3, x4, x5, x6, x7, pp, cc, pt, ct, rfl, hx, hbd, hrd1, _⟩; have hBd : Below wb.heap.size wb wd := (bCall (by (repeat (first | with_reducible assumption | with_reducible exact Below.refl _ _ | with_reducible refine bAl ?_ _))) hbd)))
  obtain ⟨W1, hW1⟩ : ∃ W1, wd.alloc (.cells #[.int .i64 x0, .int .i64 x1, .int .i64 x2, .int .i64 x3, .int .i64 x4, .int .i64 x5, .int .i64 x6, .int .i64 x7, .slice pp r1.mem.length cc, .int .i64 r1.next, .int .i64 r1.stop, .int .i64 r1.trap, .int .i64 r1.steps] 33) = W1 := ⟨_, rfl⟩
  have hB1 : Below wb.heap.size wb W1 := by rw [← hW1]; exact bAl hBd _
  have hz1 : W1.heap.size = wd.heap.size + 1 := by rw [← hW1]; simp
  have hS : W1.heap[wd.heap.size]? = some (.cells #[.int .i64 x0, .int .i64 x1, .int .i64 x2, .int .i64 x3, .int .i64 x4, .int .i64 x5, .int .i64 x6, .int .i64 x7, .slice pp r1.mem.length cc, .int .i64 r1.next, .int .i64 r1.stop, .int .i64 r1.trap, .int .i64 r1.steps] 33 (0, 0)) := by rw [← hW1]; exact heap_alloc_new _ _
  have HRD1 : Hid (∀ W, Below W1.heap.size W1 W → Rd W pp r1.mem) := fun W h => hrd1.below (Nat.le_refl _) ((show Below wd.heap.size wd W1 by rw [← hW1]; exact bAl (Below.refl _ _) _).trans (h.mono (by omega)))
  rw [hW1]
  have s0 : ∀ w', Below W1.heap.size W1 w' → w'.cell? ⟨wd.heap.size, 0, none⟩ = some (.int .i64 x0) := fun w' h => by rw [h.cell (p := ⟨wd.heap.size, 0, none⟩) (show wd.heap.size < W1.heap.size by omega), cell_of_row _ _ _ _ _ _ hS]; rfl
  have s1 : ∀ w', Below W1.heap.size W1 w' → w'.cell? ⟨wd.heap.size, 1, none⟩ = some (.int .i64 x1) := fun w' h => by rw [h.cell (p := ⟨wd.heap.size, 1, none⟩) (show wd.heap.size < W1.heap.size by omega), cell_of_row _ _ _ _ _ _ hS]; rfl
  have s2 : ∀ w', Below W1.heap.size W1 w' → w'.cell? ⟨wd.heap.size, 2, none⟩ = some (.int .i64 x2) := fun w' h => by rw [h.cell (p := ⟨wd.heap.size, 2, none⟩) (show wd.heap.size < W1.heap.size by omega), cell_of_row _ _ _ _ _ _ hS]; rfl
  have s3 : ∀ w', Below W1.heap.size W1 w' → w'.cell? ⟨wd.heap.size, 3, none⟩ = some (.int .i64 x3) := fun w' h => by rw [h.cell (p := ⟨wd.heap.size, 3, none⟩) (show wd.heap.size < W1.heap.size by omega), cell_of_row _ _ _ _ _ _ hS]; rfl
  have s4 : ∀ w', Below W1.heap.size W1 w' → w'.cell? ⟨wd.heap.size, 4, none⟩ = some (.int .i64 x4) := fun w' h => by rw [h.cell (p := ⟨wd.heap.size, 4, none⟩) (show wd.heap.size < W1.heap.size by omega), cell_of_row _ _ _ _ _ _ hS]; rfl
  have s5 : ∀ w', Below W1.heap.size W1 w' → w'.cell? ⟨wd.heap.size, 5, none⟩ = some (.int .i64 x5) := fun w' h => by rw [h.cell (p := ⟨wd.heap.size, 5, none⟩) (show wd.heap.size < W1.heap.size by omega), cell_of_row _ _ _ _ _ _ hS]; rfl
  have s6 : ∀ w', Below W1.heap.size W1 w' → w'.cell? ⟨wd.heap.size, 6, none⟩ = some (.int .i64 x6) := fun w' h => by rw [h.cell (p := ⟨wd.heap.size, 6, none⟩) (show wd.heap.size < W1.heap.size by omega), cell_of_row _ _ _ _ _ _ hS]; rfl
  have s7 : ∀ w', Below W1.heap.size W1 w' → w'.cell? ⟨wd.heap.size, 7, none⟩ = some (.int .i64 x7) := fun w' h => by rw [h.cell (p := ⟨wd.heap.size, 7, none⟩) (show wd.heap.size < W1.heap.size by omega), cell_of_row _ _ _ _ _ _ hS]; rfl
  have s8 : ∀ w', Below W1.heap.size W1 w' → w'.cell? ⟨wd.heap.size, 8, none⟩ = some (.slice pp r1.mem.length cc) := fun w' h => by rw [h.cell (p := ⟨wd.heap.size, 8, none⟩) (show wd.heap.size < W1.heap.size by omega), cell_of_row _ _ _ _ _ _ hS]; rfl
  have s9 : ∀ w', Below W1.heap.size W1 w' → w'.cell? ⟨wd.heap.size, 9, none⟩ = some (.int .i64 r1.next) := fun w' h => by rw [h.cell (p := ⟨wd.heap.size, 9, none⟩) (show wd.heap.size < W1.heap.size by omega), cell_of_row _ _ _ _ _ _ hS]; rfl
  have s10 : ∀ w', Below W1.heap.size W1 w' → w'.cell? ⟨wd.heap.size, 10, none⟩ = some (.int .i64 r1.stop) := fun w' h => by rw [h.cell (p := ⟨wd.heap.size, 10, none⟩) (show wd.heap.size < W1.heap.size by omega), cell_of_row _ _ _ _ _ _ hS]; rfl
  have s11 : ∀ w', Below W1.heap.size W1 w' → w'.cell? ⟨wd.heap.size, 11, none⟩ = some (.int .i64 r1.trap) := fun w' h => by rw [h.cell (p := ⟨wd.heap.size, 11, none⟩) (show wd.heap.size < W1.heap.size by omega), cell_of_row _ _ _ _ _ _ hS]; rfl
  have s12 : ∀ w', Below W1.heap.size W1 w' → w'.cell? ⟨wd.heap.size, 12, none⟩ = some (.int .i64 r1.steps) := fun w' h => by rw [h.cell (p := ⟨wd.heap.size, 12, none⟩) (show wd.heap.size < W1.heap.size by omega), cell_of_row _ _ _ _ _ _ hS]; rfl
  have HAL : Hid (∀ W a0 a1 a2 a3 a4 a5 a6 a7 pq cq, Below W1.heap.size W1 W → Rd W pq r2.mem → Calls Try.prog 15 #[.agg #[.int .i64 x0, .int .i64 x1, .int .i64 x2, .int .i64 x3, .int .i64 x4, .int .i64 x5, .int .i64 x6, .int .i64 x7, .slice pp r1.mem.length cc, .int .i64 r1.next, .int .i64 r1.stop, .int .i64 r1.trap, .int .i64 r1.steps], .agg #[.int .i64 a0, .int .i64 a1, .int .i64 a2, .int .i64 a3, .int .i64 a4, .int .i64 a5, .int .i64 a6, .int .i64 a7, .slice pq r2.mem.length cq, .int .i64 r2.next, .int .i64 r2.stop, .int .i64 r2.trap, .int .i64 r2.steps]] W fun e w' => ∃ q : Bool, e = .returned (.bool q) ∧ ((r1.mem = r2.mem ∧ [x0, x1, x2, x3, x4, x5, x6, x7] = [a0, a1, a2, a3, a4, a5, a6, a7] ∧ (r1.next : Int) = r2.next ∧ r1.stop = r2.stop ∧ r1.trap = r2.trap) → q = true) ∧ Below W.heap.size W w') := fun W a0 a1 a2 a3 a4 a5 a6 a7 pq cq h h' =>
    alike_any x0 x1 x2 x3 x4 x5 x6 x7 r1.next r1.stop r1.trap r1.steps a0 a1 a2 a3 a4 a5 a6 a7 r2.next r2.stop r2.trap r2.steps pp pq cc cq r1.mem r2.mem W (HRD1.out W h) h' (by have := HL1.out; omega) (by have := HL2.out; omega)
  have HX := hide hx
  have hls' : wd.heap.size < W1.heap.size := by omega
  have hls2 : w.heap.size + 1 < W1.heap.size := Nat.lt_of_lt_of_le hls1 hB1.size
  have hrW : Below W1.heap.size W1 W1 := Below.refl _ _
  have HB1 := hide hB1
  have jj : ∀ w', Below W1.heap.size W1 w' → Below wb.heap.size wb w' := fun w' h => bCall HB1.out h
  have HJJ := hide jj
  have i0 : ∀ w', Below W1.heap.size W1 w' → w'.cell? ⟨w.heap.size + 1, 0, none⟩ = some (.int .i64 u0') := fun w' h => j0' w' (jj w' h)
  have i1 : ∀ w', Below W1.heap.size W1 w' → w'.cell? ⟨w.heap.size + 1, 1, none⟩ = some (.int .i64 u1') := fun w' h => j1' w' (jj w' h)
  have i2 : ∀ w', Below W1.heap.size W1 w' → w'.cell? ⟨w.heap.size + 1, 2, none⟩ = some (.int .i64 u2') := fun w' h => j2' w' (jj w' h)
  have i3 : ∀ w', Below W1.heap.size W1 w' → w'.cell? ⟨w.heap.size + 1, 3, none⟩ = some (.int .i64 u3') := fun w' h => j3' w' (jj w' h)
  have i4 : ∀ w', Below W1.heap.size W1 w' → w'.cell? ⟨w.heap.size + 1, 4, none⟩ = some (.int .i64 l0') := fun w' h => j4' w' (jj w' h)
  have i5 : ∀ w', Below W1.heap.size W1 w' → w'.cell? ⟨w.heap.size + 1, 5, none⟩ = some (.int .i64 l1') := fun w' h => j5' w' (jj w' h)
  have i6 : ∀ w', Below W1.heap.size W1 w' → w'.cell? ⟨w.heap.size + 1, 6, none⟩ = some (.int .i64 l2') := fun w' h => j6' w' (jj w' h)
  have i7 : ∀ w', Below W1.heap.size W1 w' → w'.cell? ⟨w.heap.size + 1, 7, none⟩ = some (.int .i64 l3') := fun w' h => j7' w' (jj w' h)
  have i8 : ∀ w', Below W1.heap.size W1 w' → w'.cell? ⟨w.heap.size + 1, 8, none⟩ = some (.int .i64 b') := fun w' h => j8' w' (jj w' h)
  clear jj hx hrd1 hbd hbc hBc hBd hB1 hW1 hS hz1 hrb HX1 HC1 k0' j0' k1' j1' k2' j2' k3' j3' k4' j4' k5' j5' k6' j6' k7' j7' k8' j8'
  go_upto_region 9 with (first | (go_at_call 10; refine (HC2.out _).mono ?_; rintro e wc ⟨rfl, hbc⟩; have hBc : Below W1.heap.size W1 wc := (bCall (by (repeat (first | with_reducible assumption | with_reducible exact Below.refl _ _ | with_reducible refine bAl ?_ _))) hbc)) | (go_at_call 13; refine (HX2.out _ (HJJ.out _ (by (repeat (first | with_reducible assumption | with_reducible exact Below.refl _ _ | with_reducible refine bAl ?_ _))))).mono ?_; rintro e we ⟨a0, a1, a2, a3, a4, a5, a6, a7, pq, cq, pu, cu, rfl, ha, hbe, hrd2, _⟩; have hBe : Below W1.heap.size W1 we := (bCall (by (repeat (first | with_reducible assumption | with_reducible exact Below.refl _ _ | with_reducible refine bAl ?_ _))) hbe); have hle : wd.heap.size < we.heap.size := (Nat.lt_of_lt_of_le hls' hBe.size); have HA := hide ha; clear ha) | (go_at_call 15; refine (HAL.out _ _ _ _ _ _ _ _ _ _ _ (by (repeat (first | with_reducible assumption | with_reducible exact Below.refl _ _ | with_reducible refine bAl ?_ _))) (hrd2.below (Nat.le_refl _) (bAl (Below.refl _ _) _))).mono ?_; rintro e wf ⟨q, rfl, hq, hbf⟩; have HQ := hide hq; clear hq; have hBf : Below W1.heap.size W1 wf := (bCall (by (repeat (first | with_reducible assumption | with_reducible exact Below.refl _ _ | with_reducible refine bAl ?_ _))) hbf); have hlf : wd.heap.size < wf.heap.size := (Nat.lt_of_lt_of_le hls' hBf.size); obtain ⟨hcf, hff⟩ := bcell hbf; have hlg : we.heap.size < wf.heap.size := (by have := hbf.size; simp at this; omega)))
  cases q with
  | true =>
    go_wp2
    go_ret
    exact ⟨rfl, bCall HW.out (HJJ.out _ hBf)⟩
  | false =>
    have hst : r1.stop = 2 ∨ r2.stop = 2 := by
      rcases HAN.out with ⟨e1, e2, e3, e4, e5⟩ | h
      · have := HQ.out ⟨e2, by rw [← HX.out, ← HA.out]; exact e1, by rw [e3], e4, e5⟩
        cases this
      · exact h
    by_cases h1 : r1.stop = 2
    · have h1b : (r1.stop == 2) = true := by simp [h1]
      clear hst h1
      go_wp2
      go_ret
      exact ⟨rfl, bCall HW.out (HJJ.out _ hBf)⟩
    · have h1b : (r1.stop == 2) = false := by simp [h1]
      have h2b : (r2.stop == 2) = true := by
        rcases hst with h | h
        · exact absurd h h1
        · simp [h]
      clear hst h1
      go_wp2
      go_ret
      exact ⟨rfl, bCall HW.out (HJJ.out _ hBf)⟩

end Go.Proofs.Ytmeiogoodbnkkaa

/- boardkeep's small questions on an order. -/
namespace Go.Proofs.Ytmeiogoodbnkkaa
open Go.RowKit

set_option maxHeartbeats 2000000 in
theorem kind_any (op d a b k : Int) (w : World) : Calls Try.prog 19 #[.agg #[.int .i64 op, .int .i64 d, .int .i64 a, .int .i64 b, .int .i64 k]] w fun e w' => e = .returned (.int .i64 (kindOf op)) ∧ Below w.heap.size w w' := by
  have hb : Below w.heap.size w (w.alloc (.cells #[.int .i64 op, .int .i64 d, .int .i64 a, .int .i64 b, .int .i64 k] 49)) := (Below.refl _ _).alloc (Nat.le_refl _) _
  by_cases h : op = 1 ∨ op = 2 ∨ op = 3 ∨ op = 4 ∨ op = 5 ∨ op = 6 ∨ op = 7
  · have HB := hide hb
    clear hb
    rcases h with rfl | rfl | rfl | rfl | rfl | rfl | rfl
    all_goals go_enter Try.func19, Try.ntmps19
    all_goals go_wp2
    all_goals go_ret
    all_goals exact ⟨ret_int (by simp [kindOf]), HB.out⟩
  · have h1 : (op == 1) = false := by simp; omega
    have h2 : (op == 2) = false := by simp; omega
    have h3 : (op == 3) = false := by simp; omega
    have h4 : (op == 4) = false := by simp; omega
    have h5 : (op == 5) = false := by simp; omega
    have h6 : (op == 6) = false := by simp; omega
    have h7 : (op == 7) = false := by simp; omega
    have hk : kindOf op = -1 := by unfold kindOf; rw [if_neg (by omega), if_neg (by omega), if_neg (by omega), if_neg (by omega)]
    rw [hk]
    have HB := hide hb
    clear hb h hk
    go_enter Try.func19, Try.ntmps19
    go_wp2
    go_ret
    exact ⟨rfl, HB.out⟩

set_option maxHeartbeats 2000000 in
theorem kWrites_any (op d a b k : Int) (w : World) : Calls Try.prog 29 #[.agg #[.int .i64 op, .int .i64 d, .int .i64 a, .int .i64 b, .int .i64 k]] w fun e w' => e = .returned (.bool (wrD op)) ∧ Below w.heap.size w w' := by
  have hb : Below w.heap.size w (w.alloc (.cells #[.int .i64 op, .int .i64 d, .int .i64 a, .int .i64 b, .int .i64 k] 49)) := (Below.refl _ _).alloc (Nat.le_refl _) _
  have HB := hide hb
  clear hb
  by_cases h1 : 1 ≤ op
  · by_cases h2 : op ≤ 6
    · have e : wrD op = true := decide_eq_true ⟨h1, h2⟩
      rw [e]
      clear e
      go_enter Try.func29, Try.ntmps29
      go_wp2
      go_ret
      exact ⟨ret_bool (by simp), HB.out⟩
    · have e : wrD op = false := decide_eq_false (by omega)
      rw [e]
      clear e
      go_enter Try.func29, Try.ntmps29
      go_wp2
      go_ret
      exact ⟨ret_bool (by simp), HB.out⟩
  · have e : wrD op = false := decide_eq_false (by omega)
    rw [e]
    clear e
    have h1' : decide ((1 : Int) ≤ op) = false := decide_eq_false h1
    go_enter Try.func29, Try.ntmps29
    go_wp2
    go_ret
    exact ⟨ret_bool (by simp), HB.out⟩

/-- Does something come to pass, and only behind this cycle? -/
def behB (x c : Int) : Bool := decide (x = 0 ∨ (c ≠ 0 ∧ c < x))
set_option maxHeartbeats 2000000 in
theorem behind_any (x c : Int) (w : World) : Calls Try.prog 31 #[.int .i64 x, .int .i64 c] w fun e w' => e = .returned (.bool (behB x c)) ∧ w' = w := by
  by_cases h0 : x = 0
  · have e : behB x c = true := decide_eq_true (.inl h0)
    rw [e]
    have h0b : (x == 0) = true := by simp [h0]
    clear e h0
    go_enter Try.func31, Try.ntmps31
    go_wp2
    go_ret
    exact ⟨rfl, rfl⟩
  · have h0b : (x == 0) = false := by simp [h0]
    by_cases hc : c = 0
    · have e : behB x c = false := decide_eq_false (by omega)
      rw [e]
      have hcb : (c != 0) = false := by simp [hc]
      clear e h0 hc
      go_enter Try.func31, Try.ntmps31
      go_wp2
      go_ret
      exact ⟨rfl, rfl⟩
    · have hcb : (c != 0) = true := by simp [hc]
      have e : behB x c = decide (c < x) := by
        unfold behB
        by_cases h : c < x
        · rw [decide_eq_true h]; exact decide_eq_true (.inr ⟨hc, h⟩)
        · rw [decide_eq_false h]; exact decide_eq_false (by omega)
      rw [e]
      clear e h0 hc
      go_enter Try.func31, Try.ntmps31
      go_wp2
      go_ret
      exact ⟨ret_bool (by simp), rfl⟩

/-- Has an order to do with a register so? -/
def rdRb (op a b r : Int) : Bool := decide ((2 ≤ op ∧ a = r) ∨ (((2 ≤ op ∧ op ≤ 5) ∨ op = 7) ∧ b = r))

set_option maxHeartbeats 4000000 in
theorem kReads_any (op d a b k r : Int) (w : World) : Calls Try.prog 30 #[.agg #[.int .i64 op, .int .i64 d, .int .i64 a, .int .i64 b, .int .i64 k], .int .i64 r] w fun e w' => e = .returned (.bool (rdRb op a b r)) ∧ Below w.heap.size w w' := by
  have hb : Below w.heap.size w (w.alloc (.cells #[.int .i64 op, .int .i64 d, .int .i64 a, .int .i64 b, .int .i64 k] 49)) := (Below.refl _ _).alloc (Nat.le_refl _) _
  have HB := hide hb
  clear hb
  by_cases h2 : 2 ≤ op
  · have h2b : decide ((2 : Int) ≤ op) = true := decide_eq_true h2
    by_cases ha : a = r
    · have e : rdRb op a b r = true := decide_eq_true (.inl ⟨h2, ha⟩)
      rw [e]
      have hab : (a == r) = true := by simp [ha]
      by_cases h5 : op ≤ 5
      · have h5b : decide (op ≤ 5) = true := decide_eq_true h5
        clear e ha h2 h5
        go_enter Try.func30, Try.ntmps30
        go_wp2
        go_ret
        exact ⟨rfl, HB.out⟩
      · have h5b : decide (op ≤ 5) = false := decide_eq_false h5
        clear e ha h2 h5
        go_enter Try.func30, Try.ntmps30
        go_wp2
        go_ret
        exact ⟨rfl, HB.out⟩
    · have hab : (a == r) = false := by simp [ha]
      by_cases h5 : op ≤ 5
      · have h5b : decide (op ≤ 5) = true := decide_eq_true h5
        have e : rdRb op a b r = (b == r) := by
          unfold rdRb
          by_cases h : b = r
          · rw [decide_eq_true (.inr ⟨.inl ⟨h2, h5⟩, h⟩)]; simp [h]
          · rw [decide_eq_false (by rintro (⟨_, h'⟩ | ⟨_, h'⟩); exact ha h'; exact h h')]; simp [h]
        rw [e]
        clear e ha h2 h5
        go_enter Try.func30, Try.ntmps30
        go_wp2
        go_ret
        exact ⟨rfl, HB.out⟩
      · have h5b : decide (op ≤ 5) = false := decide_eq_false h5
        by_cases h7 : op = 7
        · have h7b : (op == 7) = true := by simp [h7]
          have e : rdRb op a b r = (b == r) := by
            unfold rdRb
            by_cases h : b = r
            · rw [decide_eq_true (.inr ⟨.inr h7, h⟩)]; simp [h]
            · rw [decide_eq_false (by rintro (⟨_, h'⟩ | ⟨_, h'⟩); exact ha h'; exact h h')]; simp [h]
          rw [e]
          clear e ha h2 h5 h7
          go_enter Try.func30, Try.ntmps30
          go_wp2
          go_ret
          exact ⟨rfl, HB.out⟩
        · have h7b : (op == 7) = false := by simp [h7]
          have e : rdRb op a b r = false := decide_eq_false (by rintro (⟨_, h'⟩ | ⟨h', _⟩); exact ha h'; omega)
          rw [e]
          clear e ha h2 h5 h7
          go_enter Try.func30, Try.ntmps30
          go_wp2
          go_ret
          exact ⟨rfl, HB.out⟩
  · have h2b : decide ((2 : Int) ≤ op) = false := decide_eq_false h2
    have h7b : (op == 7) = false := by simp; omega
    have e : rdRb op a b r = false := decide_eq_false (by omega)
    rw [e]
    clear e h2
    go_enter Try.func30, Try.ntmps30
    go_wp2
    go_ret
    exact ⟨rfl, HB.out⟩


set_option maxHeartbeats 4000000 in
theorem rises_any (n i r d q l : Int) (w : World) (hl : -1000000 ≤ l ∧ l ≤ 1000000) (hr : -1000000 ≤ r ∧ r ≤ 1000000) (h : (r = 0 ∧ d = 0 ∧ q = 0) ∨ (r ≠ 0 ∧ i < r ∧ d = r + l ∧ (q = 0 ∨ d < q))) : Calls Try.prog 18 #[.agg #[.int .i64 n, .int .i64 i, .int .i64 r, .int .i64 d, .int .i64 q], .int .i64 l] w fun e w' => e = .returned (.bool true) ∧ Below w.heap.size w w' := by
  have hb : Below w.heap.size w (w.alloc (.cells #[.int .i64 n, .int .i64 i, .int .i64 r, .int .i64 d, .int .i64 q] 47)) := (Below.refl _ _).alloc (Nat.le_refl _) _
  have HB := hide hb
  clear hb
  rcases h with ⟨rfl, rfl, rfl⟩ | ⟨h0, h1, h2, h3⟩
  · go_enter Try.func18, Try.ntmps18
    go_wp2
    go_ret
    exact ⟨rfl, HB.out⟩
  · have h0b : (r == 0) = false := by simp [h0]
    have hd : (d == r + l) = true := by simp [h2]
    rcases h3 with h3 | h3
    · have hq : (q == 0) = true := by simp [h3]
      clear h0 h2 h3
      go_enter Try.func18, Try.ntmps18
      go_wp2
      go_ret
      exact ⟨rfl, HB.out⟩
    · by_cases hq0 : q = 0
      · have hq : (q == 0) = true := by simp [hq0]
        clear h0 h2 h3 hq0
        go_enter Try.func18, Try.ntmps18
        go_wp2
        go_ret
        exact ⟨rfl, HB.out⟩
      · have hq : (q == 0) = false := by simp [hq0]
        clear h0 h2 hq0
        go_enter Try.func18, Try.ntmps18
        go_wp2
        go_ret
        exact ⟨rfl, HB.out⟩

end Go.Proofs.Ytmeiogoodbnkkaa

/- boardkeep.pair: of an order and one given out behind it. -/
namespace Go.Proofs.Ytmeiogoodbnkkaa
open Go.RowKit

set_option maxRecDepth 100000 in
set_option maxHeartbeats 8000000 in
theorem pair_any (o1 d1 a1 b1 k1 n1 i1 r1 e1 w1 o2 d2 a2 b2 k2 n2 i2 r2 e2 w2 : Int) (w : World) (hI : i1 < i2)
    (h1 : wrD o1 = true → rdRb o2 a2 b2 d1 = true → behB r2 w1 = true) (h2 : wrD o2 = true → rdRb o1 a1 b1 d2 = true → w2 = 0 ∨ (r1 ≠ 0 ∧ r1 ≤ w2)) (h3 : (wrD o1 = true ∧ wrD o2 = true ∧ d1 = d2) ∨ (kindOf o1 = 3 ∧ kindOf o2 = 3) → behB i2 w1 = true) :
    Calls Try.prog 20 #[.agg #[.int .i64 o1, .int .i64 d1, .int .i64 a1, .int .i64 b1, .int .i64 k1], .agg #[.int .i64 n1, .int .i64 i1, .int .i64 r1, .int .i64 e1, .int .i64 w1], .agg #[.int .i64 o2, .int .i64 d2, .int .i64 a2, .int .i64 b2, .int .i64 k2], .agg #[.int .i64 n2, .int .i64 i2, .int .i64 r2, .int .i64 e2, .int .i64 w2]] w fun e w' => e = .returned (.bool true) ∧ Below w.heap.size w w' := by
  have H1 := hide h1
  have H2 := hide h2
  have H3 := hide h3
  clear h1 h2 h3
  obtain ⟨W0, hW0⟩ : ∃ W0, (((w.alloc (.cells #[.int .i64 o1, .int .i64 d1, .int .i64 a1, .int .i64 b1, .int .i64 k1] 49)).alloc (.cells #[.int .i64 n1, .int .i64 i1, .int .i64 r1, .int .i64 e1, .int .i64 w1] 47)).alloc (.cells #[.int .i64 o2, .int .i64 d2, .int .i64 a2, .int .i64 b2, .int .i64 k2] 49)).alloc (.cells #[.int .i64 n2, .int .i64 i2, .int .i64 r2, .int .i64 e2, .int .i64 w2] 47) = W0 := ⟨_, rfl⟩
  have hb0 : Below w.heap.size w W0 := by rw [← hW0]; exact bAl (bAl (bAl (bAl (Below.refl _ _) _) _) _) _
  have hz0 : W0.heap.size = w.heap.size + 1 + 1 + 1 + 1 := by rw [← hW0]; simp
  have g1 : W0.heap[w.heap.size]? = some (.cells #[.int .i64 o1, .int .i64 d1, .int .i64 a1, .int .i64 b1, .int .i64 k1] 49 (0, 0)) := by rw [← hW0]; exact hOld (hOld (hOld (hNew rfl)))
  have g2 : W0.heap[w.heap.size + 1]? = some (.cells #[.int .i64 n1, .int .i64 i1, .int .i64 r1, .int .i64 e1, .int .i64 w1] 47 (0, 0)) := by rw [← hW0]; exact hOld (hOld (hNew (by simp)))
  have g3 : W0.heap[w.heap.size + 1 + 1]? = some (.cells #[.int .i64 o2, .int .i64 d2, .int .i64 a2, .int .i64 b2, .int .i64 k2] 49 (0, 0)) := by rw [← hW0]; exact hOld (hNew (by simp))
  have g4 : W0.heap[w.heap.size + 1 + 1 + 1]? = some (.cells #[.int .i64 n2, .int .i64 i2, .int .i64 r2, .int .i64 e2, .int .i64 w2] 47 (0, 0)) := by rw [← hW0]; exact hNew (by simp)
  have HB0 := hide hb0
  have p0 : ∀ w', Below W0.heap.size W0 w' → w'.cell? ⟨w.heap.size, 0, none⟩ = some (.int .i64 o1) := fun w' h => by rw [h.cell (p := ⟨w.heap.size, 0, none⟩) (show w.heap.size < W0.heap.size by omega), cell_of_row _ _ _ _ _ _ g1]; rfl
  have p1 : ∀ w', Below W0.heap.size W0 w' → w'.cell? ⟨w.heap.size, 1, none⟩ = some (.int .i64 d1) := fun w' h => by rw [h.cell (p := ⟨w.heap.size, 1, none⟩) (show w.heap.size < W0.heap.size by omega), cell_of_row _ _ _ _ _ _ g1]; rfl
  have p2 : ∀ w', Below W0.heap.size W0 w' → w'.cell? ⟨w.heap.size, 2, none⟩ = some (.int .i64 a1) := fun w' h => by rw [h.cell (p := ⟨w.heap.size, 2, none⟩) (show w.heap.size < W0.heap.size by omega), cell_of_row _ _ _ _ _ _ g1]; rfl
  have p3 : ∀ w', Below W0.heap.size W0 w' → w'.cell? ⟨w.heap.size, 3, none⟩ = some (.int .i64 b1) := fun w' h => by rw [h.cell (p := ⟨w.heap.size, 3, none⟩) (show w.heap.size < W0.heap.size by omega), cell_of_row _ _ _ _ _ _ g1]; rfl
  have p4 : ∀ w', Below W0.heap.size W0 w' → w'.cell? ⟨w.heap.size, 4, none⟩ = some (.int .i64 k1) := fun w' h => by rw [h.cell (p := ⟨w.heap.size, 4, none⟩) (show w.heap.size < W0.heap.size by omega), cell_of_row _ _ _ _ _ _ g1]; rfl
  have q0 : ∀ w', Below W0.heap.size W0 w' → w'.cell? ⟨w.heap.size + 1, 0, none⟩ = some (.int .i64 n1) := fun w' h => by rw [h.cell (p := ⟨w.heap.size + 1, 0, none⟩) (show w.heap.size + 1 < W0.heap.size by omega), cell_of_row _ _ _ _ _ _ g2]; rfl
  have q1 : ∀ w', Below W0.heap.size W0 w' → w'.cell? ⟨w.heap.size + 1, 1, none⟩ = some (.int .i64 i1) := fun w' h => by rw [h.cell (p := ⟨w.heap.size + 1, 1, none⟩) (show w.heap.size + 1 < W0.heap.size by omega), cell_of_row _ _ _ _ _ _ g2]; rfl
  have q2 : ∀ w', Below W0.heap.size W0 w' → w'.cell? ⟨w.heap.size + 1, 2, none⟩ = some (.int .i64 r1) := fun w' h => by rw [h.cell (p := ⟨w.heap.size + 1, 2, none⟩) (show w.heap.size + 1 < W0.heap.size by omega), cell_of_row _ _ _ _ _ _ g2]; rfl
  have q3 : ∀ w', Below W0.heap.size W0 w' → w'.cell? ⟨w.heap.size + 1, 3, none⟩ = some (.int .i64 e1) := fun w' h => by rw [h.cell (p := ⟨w.heap.size + 1, 3, none⟩) (show w.heap.size + 1 < W0.heap.size by omega), cell_of_row _ _ _ _ _ _ g2]; rfl
  have q4 : ∀ w', Below W0.heap.size W0 w' → w'.cell? ⟨w.heap.size + 1, 4, none⟩ = some (.int .i64 w1) := fun w' h => by rw [h.cell (p := ⟨w.heap.size + 1, 4, none⟩) (show w.heap.size + 1 < W0.heap.size by omega), cell_of_row _ _ _ _ _ _ g2]; rfl
  have s0 : ∀ w', Below W0.heap.size W0 w' → w'.cell? ⟨w.heap.size + 1 + 1, 0, none⟩ = some (.int .i64 o2) := fun w' h => by rw [h.cell (p := ⟨w.heap.size + 1 + 1, 0, none⟩) (show w.heap.size + 1 + 1 < W0.heap.size by omega), cell_of_row _ _ _ _ _ _ g3]; rfl
  have s1 : ∀ w', Below W0.heap.size W0 w' → w'.cell? ⟨w.heap.size + 1 + 1, 1, none⟩ = some (.int .i64 d2) := fun w' h => by rw [h.cell (p := ⟨w.heap.size + 1 + 1, 1, none⟩) (show w.heap.size + 1 + 1 < W0.heap.size by omega), cell_of_row _ _ _ _ _ _ g3]; rfl
  have s2 : ∀ w', Below W0.heap.size W0 w' → w'.cell? ⟨w.heap.size + 1 + 1, 2, none⟩ = some (.int .i64 a2) := fun w' h => by rw [h.cell (p := ⟨w.heap.size + 1 + 1, 2, none⟩) (show w.heap.size + 1 + 1 < W0.heap.size by omega), cell_of_row _ _ _ _ _ _ g3]; rfl
  have s3 : ∀ w', Below W0.heap.size W0 w' → w'.cell? ⟨w.heap.size + 1 + 1, 3, none⟩ = some (.int .i64 b2) := fun w' h => by rw [h.cell (p := ⟨w.heap.size + 1 + 1, 3, none⟩) (show w.heap.size + 1 + 1 < W0.heap.size by omega), cell_of_row _ _ _ _ _ _ g3]; rfl
  have s4 : ∀ w', Below W0.heap.size W0 w' → w'.cell? ⟨w.heap.size + 1 + 1, 4, none⟩ = some (.int .i64 k2) := fun w' h => by rw [h.cell (p := ⟨w.heap.size + 1 + 1, 4, none⟩) (show w.heap.size + 1 + 1 < W0.heap.size by omega), cell_of_row _ _ _ _ _ _ g3]; rfl
  have t0 : ∀ w', Below W0.heap.size W0 w' → w'.cell? ⟨w.heap.size + 1 + 1 + 1, 0, none⟩ = some (.int .i64 n2) := fun w' h => by rw [h.cell (p := ⟨w.heap.size + 1 + 1 + 1, 0, none⟩) (show w.heap.size + 1 + 1 + 1 < W0.heap.size by omega), cell_of_row _ _ _ _ _ _ g4]; rfl
  have t1 : ∀ w', Below W0.heap.size W0 w' → w'.cell? ⟨w.heap.size + 1 + 1 + 1, 1, none⟩ = some (.int .i64 i2) := fun w' h => by rw [h.cell (p := ⟨w.heap.size + 1 + 1 + 1, 1, none⟩) (show w.heap.size + 1 + 1 + 1 < W0.heap.size by omega), cell_of_row _ _ _ _ _ _ g4]; rfl
  have t2 : ∀ w', Below W0.heap.size W0 w' → w'.cell? ⟨w.heap.size + 1 + 1 + 1, 2, none⟩ = some (.int .i64 r2) := fun w' h => by rw [h.cell (p := ⟨w.heap.size + 1 + 1 + 1, 2, none⟩) (show w.heap.size + 1 + 1 + 1 < W0.heap.size by omega), cell_of_row _ _ _ _ _ _ g4]; rfl
  have t3 : ∀ w', Below W0.heap.size W0 w' → w'.cell? ⟨w.heap.size + 1 + 1 + 1, 3, none⟩ = some (.int .i64 e2) := fun w' h => by rw [h.cell (p := ⟨w.heap.size + 1 + 1 + 1, 3, none⟩) (show w.heap.size + 1 + 1 + 1 < W0.heap.size by omega), cell_of_row _ _ _ _ _ _ g4]; rfl
  have t4 : ∀ w', Below W0.heap.size W0 w' → w'.cell? ⟨w.heap.size + 1 + 1 + 1, 4, none⟩ = some (.int .i64 w2) := fun w' h => by rw [h.cell (p := ⟨w.heap.size + 1 + 1 + 1, 4, none⟩) (show w.heap.size + 1 + 1 + 1 < W0.heap.size by omega), cell_of_row _ _ _ _ _ _ g4]; rfl
  have KW1 : Hid (∀ W, Calls Try.prog 29 #[.agg #[.int .i64 o1, .int .i64 d1, .int .i64 a1, .int .i64 b1, .int .i64 k1]] W fun e w' => e = .returned (.bool (wrD o1)) ∧ Below W.heap.size W w') := fun W => kWrites_any _ _ _ _ _ W
  have KW2 : Hid (∀ W, Calls Try.prog 29 #[.agg #[.int .i64 o2, .int .i64 d2, .int .i64 a2, .int .i64 b2, .int .i64 k2]] W fun e w' => e = .returned (.bool (wrD o2)) ∧ Below W.heap.size W w') := fun W => kWrites_any _ _ _ _ _ W
  have KR1 : Hid (∀ W, Calls Try.prog 30 #[.agg #[.int .i64 o2, .int .i64 d2, .int .i64 a2, .int .i64 b2, .int .i64 k2], .int .i64 d1] W fun e w' => e = .returned (.bool (rdRb o2 a2 b2 d1)) ∧ Below W.heap.size W w') := fun W => kReads_any _ _ _ _ _ _ W
  have KR2 : Hid (∀ W, Calls Try.prog 30 #[.agg #[.int .i64 o1, .int .i64 d1, .int .i64 a1, .int .i64 b1, .int .i64 k1], .int .i64 d2] W fun e w' => e = .returned (.bool (rdRb o1 a1 b1 d2)) ∧ Below W.heap.size W w') := fun W => kReads_any _ _ _ _ _ _ W
  have KK1 : Hid (∀ W, Calls Try.prog 19 #[.agg #[.int .i64 o1, .int .i64 d1, .int .i64 a1, .int .i64 b1, .int .i64 k1]] W fun e w' => e = .returned (.int .i64 (kindOf o1)) ∧ Below W.heap.size W w') := fun W => kind_any _ _ _ _ _ W
  have KK2 : Hid (∀ W, Calls Try.prog 19 #[.agg #[.int .i64 o2, .int .i64 d2, .int .i64 a2, .int .i64 b2, .int .i64 k2]] W fun e w' => e = .returned (.int .i64 (kindOf o2)) ∧ Below W.heap.size W w') := fun W => kind_any _ _ _ _ _ W
  have BH1 : Hid (∀ W, Calls Try.prog 31 #[.int .i64 r2, .int .i64 w1] W fun e w' => e = .returned (.bool (behB r2 w1)) ∧ w' = W) := fun W => behind_any _ _ W
  have BH2 : Hid (∀ W, Calls Try.prog 31 #[.int .i64 i2, .int .i64 w1] W fun e w' => e = .returned (.bool (behB i2 w1)) ∧ w' = W) := fun W => behind_any _ _ W
  generalize hwr1 : wrD o1 = wr1 at *
  generalize hwr2 : wrD o2 = wr2 at *
  generalize hrr1 : rdRb o2 a2 b2 d1 = rr1 at *
  generalize hrr2 : rdRb o1 a1 b1 d2 = rr2 at *
  generalize hkk1 : kindOf o1 = kk1 at *
  generalize hkk2 : kindOf o2 = kk2 at *
  generalize hbx : behB r2 w1 = bx at *
  generalize hbz : behB i2 w1 = bz at *
  clear hwr1 hwr2 hrr1 hrr2 hkk1 hkk2 hbx hbz g1 g2 g3 g4
  have hl1 : w.heap.size < W0.heap.size := by omega
  have hl2 : w.heap.size + 1 < W0.heap.size := by omega
  have hl3 : w.heap.size + 1 + 1 < W0.heap.size := by omega
  have hl4 : w.heap.size + 1 + 1 + 1 < W0.heap.size := by omega
  go_enter Try.func20, Try.ntmps20
  go_upto_region 1 with fail
  clear hW0 hb0 hz0
  have hrb : Below W0.heap.size W0 W0 := Below.refl _ _
  go_upto_region 3 with fail
  go_upto_region 3 with fail
  go_cut [9] from 21 to 28 (fun s wx => s = .bool (wr1 && rr1) ∧ Below W0.heap.size W0 wx)
  case first =>
    cases wr1 with
    | false =>
      go_wp2_with (first | (go_at_call 29; first | (with_reducible refine (KW1.out _).mono ?_; rintro e va ⟨rfl, hbva⟩; have hBva : Below W0.heap.size W0 va := (bCall (by (repeat (first | with_reducible assumption | with_reducible exact Below.refl _ _ | with_reducible refine bAl ?_ _))) hbva)) | (with_reducible refine (KW2.out _).mono ?_; rintro e va ⟨rfl, hbva⟩; have hBva : Below W0.heap.size W0 va := (bCall (by (repeat (first | with_reducible assumption | with_reducible exact Below.refl _ _ | with_reducible refine bAl ?_ _))) hbva))) | (go_at_call 30; first | (with_reducible refine (KR1.out _).mono ?_; rintro e vb ⟨rfl, hbvb⟩; have hBvb : Below W0.heap.size W0 vb := (bCall (by (repeat (first | with_reducible assumption | with_reducible exact Below.refl _ _ | with_reducible refine bAl ?_ _))) hbvb)) | (with_reducible refine (KR2.out _).mono ?_; rintro e vb ⟨rfl, hbvb⟩; have hBvb : Below W0.heap.size W0 vb := (bCall (by (repeat (first | with_reducible assumption | with_reducible exact Below.refl _ _ | with_reducible refine bAl ?_ _))) hbvb))))
      go_meet
      exact ⟨rfl, by assumption⟩
    | true =>
      go_wp2_with (first | (go_at_call 29; first | (with_reducible refine (KW1.out _).mono ?_; rintro e va ⟨rfl, hbva⟩; have hBva : Below W0.heap.size W0 va := (bCall (by (repeat (first | with_reducible assumption | with_reducible exact Below.refl _ _ | with_reducible refine bAl ?_ _))) hbva)) | (with_reducible refine (KW2.out _).mono ?_; rintro e va ⟨rfl, hbva⟩; have hBva : Below W0.heap.size W0 va := (bCall (by (repeat (first | with_reducible assumption | with_reducible exact Below.refl _ _ | with_reducible refine bAl ?_ _))) hbva))) | (go_at_call 30; first | (with_reducible refine (KR1.out _).mono ?_; rintro e vb ⟨rfl, hbvb⟩; have hBvb : Below W0.heap.size W0 vb := (bCall (by (repeat (first | with_reducible assumption | with_reducible exact Below.refl _ _ | with_reducible refine bAl ?_ _))) hbvb)) | (with_reducible refine (KR2.out _).mono ?_; rintro e vb ⟨rfl, hbvb⟩; have hBvb : Below W0.heap.size W0 vb := (bCall (by (repeat (first | with_reducible assumption | with_reducible exact Below.refl _ _ | with_reducible refine bAl ?_ _))) hbvb))))
      go_meet
      exact ⟨by simp, by assumption⟩
  case rest =>
  obtain ⟨rfl, hbW⟩ := hcut
  have hbW1 := hbW
  clear hbW
  go_upto_region 4 with fail
  go_cut [10] from 29 to 36 (fun s wx => s = .bool (wr2 && rr2) ∧ Below W0.heap.size W0 wx)
  case first =>
    cases wr2 with
    | false =>
      go_wp2_with (first | (go_at_call 29; first | (with_reducible refine (KW1.out _).mono ?_; rintro e va ⟨rfl, hbva⟩; have hBva : Below W0.heap.size W0 va := (bCall (by (repeat (first | with_reducible assumption | with_reducible exact Below.refl _ _ | with_reducible refine bAl ?_ _))) hbva)) | (with_reducible refine (KW2.out _).mono ?_; rintro e va ⟨rfl, hbva⟩; have hBva : Below W0.heap.size W0 va := (bCall (by (repeat (first | with_reducible assumption | with_reducible exact Below.refl _ _ | with_reducible refine bAl ?_ _))) hbva))) | (go_at_call 30; first | (with_reducible refine (KR1.out _).mono ?_; rintro e vb ⟨rfl, hbvb⟩; have hBvb : Below W0.heap.size W0 vb := (bCall (by (repeat (first | with_reducible assumption | with_reducible exact Below.refl _ _ | with_reducible refine bAl ?_ _))) hbvb)) | (with_reducible refine (KR2.out _).mono ?_; rintro e vb ⟨rfl, hbvb⟩; have hBvb : Below W0.heap.size W0 vb := (bCall (by (repeat (first | with_reducible assumption | with_reducible exact Below.refl _ _ | with_reducible refine bAl ?_ _))) hbvb))))
      go_meet
      exact ⟨rfl, by assumption⟩
    | true =>
      go_wp2_with (first | (go_at_call 29; first | (with_reducible refine (KW1.out _).mono ?_; rintro e va ⟨rfl, hbva⟩; have hBva : Below W0.heap.size W0 va := (bCall (by (repeat (first | with_reducible assumption | with_reducible exact Below.refl _ _ | with_reducible refine bAl ?_ _))) hbva)) | (with_reducible refine (KW2.out _).mono ?_; rintro e va ⟨rfl, hbva⟩; have hBva : Below W0.heap.size W0 va := (bCall (by (repeat (first | with_reducible assumption | with_reducible exact Below.refl _ _ | with_reducible refine bAl ?_ _))) hbva))) | (go_at_call 30; first | (with_reducible refine (KR1.out _).mono ?_; rintro e vb ⟨rfl, hbvb⟩; have hBvb : Below W0.heap.size W0 vb := (bCall (by (repeat (first | with_reducible assumption | with_reducible exact Below.refl _ _ | with_reducible refine bAl ?_ _))) hbvb)) | (with_reducible refine (KR2.out _).mono ?_; rintro e vb ⟨rfl, hbvb⟩; have hBvb : Below W0.heap.size W0 vb := (bCall (by (repeat (first | with_reducible assumption | with_reducible exact Below.refl _ _ | with_reducible refine bAl ?_ _))) hbvb))))
      go_meet
      exact ⟨by simp, by assumption⟩
  case rest =>
  obtain ⟨rfl, hbW⟩ := hcut
  have hbW2 := hbW
  clear hbW
  go_upto_region 5 with fail
  go_cut [11] from 37 to 49 (fun s wx => s = .bool (wr1 && wr2 && (d1 == d2)) ∧ Below W0.heap.size W0 wx)
  case first =>
    cases wr1 with
    | false =>
      go_wp2_with (first | (go_at_call 29; first | (with_reducible refine (KW1.out _).mono ?_; rintro e va ⟨rfl, hbva⟩; have hBva : Below W0.heap.size W0 va := (bCall (by (repeat (first | with_reducible assumption | with_reducible exact Below.refl _ _ | with_reducible refine bAl ?_ _))) hbva)) | (with_reducible refine (KW2.out _).mono ?_; rintro e vb ⟨rfl, hbvb⟩; have hBvb : Below W0.heap.size W0 vb := (bCall (by (repeat (first | with_reducible assumption | with_reducible exact Below.refl _ _ | with_reducible refine bAl ?_ _))) hbvb))))
      go_meet
      exact ⟨by simp, by assumption⟩
    | true =>
      cases wr2 with
      | false =>
        go_wp2_with (first | (go_at_call 29; first | (with_reducible refine (KW1.out _).mono ?_; rintro e va ⟨rfl, hbva⟩; have hBva : Below W0.heap.size W0 va := (bCall (by (repeat (first | with_reducible assumption | with_reducible exact Below.refl _ _ | with_reducible refine bAl ?_ _))) hbva)) | (with_reducible refine (KW2.out _).mono ?_; rintro e vb ⟨rfl, hbvb⟩; have hBvb : Below W0.heap.size W0 vb := (bCall (by (repeat (first | with_reducible assumption | with_reducible exact Below.refl _ _ | with_reducible refine bAl ?_ _))) hbvb))))
        go_meet
        exact ⟨by simp, by assumption⟩
      | true =>
        go_wp2_with (first | (go_at_call 29; first | (with_reducible refine (KW1.out _).mono ?_; rintro e va ⟨rfl, hbva⟩; have hBva : Below W0.heap.size W0 va := (bCall (by (repeat (first | with_reducible assumption | with_reducible exact Below.refl _ _ | with_reducible refine bAl ?_ _))) hbva)) | (with_reducible refine (KW2.out _).mono ?_; rintro e vb ⟨rfl, hbvb⟩; have hBvb : Below W0.heap.size W0 vb := (bCall (by (repeat (first | with_reducible assumption | with_reducible exact Below.refl _ _ | with_reducible refine bAl ?_ _))) hbvb))))
        go_meet
        exact ⟨by simp, by assumption⟩
  case rest =>
  obtain ⟨rfl, hbW⟩ := hcut
  have hbW3 := hbW
  clear hbW
  go_upto_region 6 with fail
  go_cut [12] from 50 to 57 (fun s wx => s = .bool ((kk1 == 3) && (kk2 == 3)) ∧ Below W0.heap.size W0 wx)
  case first =>
    cases hk : (kk1 == 3) with
    | false =>
      go_wp2_with (first | (go_at_call 19; first | (with_reducible refine (KK1.out _).mono ?_; rintro e va ⟨rfl, hbva⟩; have hBva : Below W0.heap.size W0 va := (bCall (by (repeat (first | with_reducible assumption | with_reducible exact Below.refl _ _ | with_reducible refine bAl ?_ _))) hbva)) | (with_reducible refine (KK2.out _).mono ?_; rintro e vb ⟨rfl, hbvb⟩; have hBvb : Below W0.heap.size W0 vb := (bCall (by (repeat (first | with_reducible assumption | with_reducible exact Below.refl _ _ | with_reducible refine bAl ?_ _))) hbvb))))
      go_meet
      exact ⟨by rw [hk]; simp, by assumption⟩
    | true =>
      go_wp2_with (first | (go_at_call 19; first | (with_reducible refine (KK1.out _).mono ?_; rintro e va ⟨rfl, hbva⟩; have hBva : Below W0.heap.size W0 va := (bCall (by (repeat (first | with_reducible assumption | with_reducible exact Below.refl _ _ | with_reducible refine bAl ?_ _))) hbva)) | (with_reducible refine (KK2.out _).mono ?_; rintro e vb ⟨rfl, hbvb⟩; have hBvb : Below W0.heap.size W0 vb := (bCall (by (repeat (first | with_reducible assumption | with_reducible exact Below.refl _ _ | with_reducible refine bAl ?_ _))) hbvb))))
      go_meet
      exact ⟨by rw [hk]; simp, by assumption⟩
  case rest =>
  obtain ⟨rfl, hbW⟩ := hcut
  have hbW4 := hbW
  clear hbW
  go_upto_region 7 with fail
  go_cut [13] from 58 to 62 (fun s wx => s = .bool (bx) ∧ Below W0.heap.size W0 wx)
  case first =>
    go_wp2_with (go_at_call 31; first | (with_reducible refine (BH1.out _).mono ?_; rintro e W' ⟨rfl, hW'⟩; have hW'' := hW'.symm; clear hW'; subst hW'') | (with_reducible refine (BH2.out _).mono ?_; rintro e W' ⟨rfl, hW'⟩; have hW'' := hW'.symm; clear hW'; subst hW''))
    go_meet
    exact ⟨rfl, by assumption⟩
  case rest =>
  obtain ⟨rfl, hbW⟩ := hcut
  have hbW5 := hbW
  clear hbW
  go_upto_region 8 with fail
  go_cut [14] from 63 to 77 (fun s wx => s = .bool (decide (w2 = 0 ∨ (r1 ≠ 0 ∧ r1 ≤ w2))) ∧ Below W0.heap.size W0 wx)
  case first =>
    by_cases hw : w2 = 0
    · have hwb : (w2 == 0) = true := by simp [hw]
      have ed : decide (w2 = 0 ∨ (r1 ≠ 0 ∧ r1 ≤ w2)) = true := decide_eq_true (.inl hw)
      have ED := hide ed
      clear hw ed
      go_wp2
      go_meet
      exact ⟨by rw [ED.out], by assumption⟩
    · have hwb : (w2 == 0) = false := by simp [hw]
      by_cases hr : r1 = 0
      · have hrb : (r1 != 0) = false := by simp [hr]
        have ed : decide (w2 = 0 ∨ (r1 ≠ 0 ∧ r1 ≤ w2)) = false := decide_eq_false (by omega)
        have ED := hide ed
        clear hw hr ed
        go_wp2
        go_meet
        exact ⟨by rw [ED.out], by assumption⟩
      · have hrb : (r1 != 0) = true := by simp [hr]
        have ed : decide (w2 = 0 ∨ (r1 ≠ 0 ∧ r1 ≤ w2)) = decide (r1 ≤ w2) := by
          by_cases h : r1 ≤ w2
          · rw [decide_eq_true h]; exact decide_eq_true (.inr ⟨hr, h⟩)
          · rw [decide_eq_false h]; exact decide_eq_false (by omega)
        have ED := hide ed
        clear hw hr ed
        go_wp2
        go_meet
        exact ⟨by rw [ED.out], by assumption⟩
  case rest =>
  obtain ⟨rfl, hbW⟩ := hcut
  have hbW6 := hbW
  clear hbW
  generalize hc5 : decide (w2 = 0 ∨ (r1 ≠ 0 ∧ r1 ≤ w2)) = c5 at *
  have HC5 := hide hc5
  clear hc5
  go_upto_region 9 with fail
  go_cut [15] from 78 to 82 (fun s wx => s = .bool (bz) ∧ Below W0.heap.size W0 wx)
  case first =>
    go_wp2_with (go_at_call 31; first | (with_reducible refine (BH1.out _).mono ?_; rintro e W' ⟨rfl, hW'⟩; have hW'' := hW'.symm; clear hW'; subst hW'') | (with_reducible refine (BH2.out _).mono ?_; rintro e W' ⟨rfl, hW'⟩; have hW'' := hW'.symm; clear hW'; subst hW''))
    go_meet
    exact ⟨rfl, by assumption⟩
  case rest =>
  obtain ⟨rfl, hbW⟩ := hcut
  have hA : (wr1 && rr1) = false ∨ bx = true := by
    cases h : (wr1 && rr1) with
    | false => exact .inl rfl
    | true => rw [Bool.and_eq_true] at h; exact .inr (H1.out h.1 h.2)
  have hB : (wr2 && rr2) = false ∨ c5 = true := by
    cases h : (wr2 && rr2) with
    | false => exact .inl rfl
    | true => rw [Bool.and_eq_true] at h; exact .inr (by rw [← HC5.out]; exact decide_eq_true (H2.out h.1 h.2))
  have hC : ((wr1 && wr2 && (d1 == d2)) = false ∧ ((kk1 == 3) && (kk2 == 3)) = false) ∨ bz = true := by
    cases h : (wr1 && wr2 && (d1 == d2)) with
    | true =>
      rw [Bool.and_eq_true, Bool.and_eq_true] at h
      exact .inr (H3.out (.inl ⟨h.1.1, h.1.2, by simpa using h.2⟩))
    | false =>
      cases h' : ((kk1 == 3) && (kk2 == 3)) with
      | false => exact .inl ⟨rfl, rfl⟩
      | true =>
        rw [Bool.and_eq_true] at h'
        exact .inr (H3.out (.inr ⟨by simpa using h'.1, by simpa using h'.2⟩))
  generalize (wr1 && rr1) = c1 at *
  generalize (wr2 && rr2) = c2 at *
  generalize (wr1 && wr2 && (d1 == d2)) = c3 at *
  generalize ((kk1 == 3) && (kk2 == 3)) = c4 at *
  clear H1 H2 H3 HC5
  cases c1 <;> cases bx <;> cases c2 <;> cases c5 <;> cases c3 <;> cases c4 <;> cases bz
  all_goals first | (exfalso; revert hA; decide) | (exfalso; revert hB; decide) | (exfalso; revert hC; decide) | skip
  all_goals clear hA hB hC
  all_goals go_wp2
  all_goals go_ret
  all_goals exact ⟨rfl, bCall HB0.out hbW⟩

end Go.Proofs.Ytmeiogoodbnkkaa

/- boardkeep.longer: what stood stands. -/
namespace Go.Proofs.Ytmeiogoodbnkkaa
open Go.RowKit

theorem TmR.cells {w : World} {B : Nat} {pt : Option Addr} {g : List Tk} (h : TmR w B pt g) {i : Nat} {t : Tk} (ht : g[i]? = some t) :
    ∃ b, pt = some ⟨b, 0, none⟩ ∧ b < w.heap.size ∧ w.cell? ⟨b, i * 5, none⟩ = some (.int .i64 t.number) ∧ w.cell? ⟨b, i * 5 + 1, none⟩ = some (.int .i64 t.issue) ∧ w.cell? ⟨b, i * 5 + 2, none⟩ = some (.int .i64 t.read) ∧ w.cell? ⟨b, i * 5 + 3, none⟩ = some (.int .i64 t.done) ∧ w.cell? ⟨b, i * 5 + 4, none⟩ = some (.int .i64 t.write) := by
  have hi := (List.getElem?_eq_some_iff.1 ht).1
  have e : g.getD i tkD = t := by rw [List.getD_eq_getElem?_getD, ht]; rfl
  rcases h with rfl | ⟨b, rfl, _, hlt, h⟩
  · simp at ht
  · have h' := h i hi
    rw [e] at h'
    exact ⟨b, rfl, hlt, h' 0 (by omega), h' 1 (by omega), h' 2 (by omega), h' 3 (by omega), h' 4 (by omega)⟩

set_option maxRecDepth 100000 in
set_option maxHeartbeats 8000000 in
theorem longer_any (pa pb : Option Addr) (ca cb B1 B2 : Nat) (ga gb : List Tk) (n : Nat) (w : World) (ha : TmR w B1 pa ga) (hb : TmR w B2 pb gb) (hg : Gr n ga gb) (hla : ga.length ≤ 100000) (hlb : gb.length ≤ 100000) (_hn : n ≤ 100000) :
    Calls Try.prog 17 #[.slice pa ga.length ca, .slice pb gb.length cb, .int .i64 n] w fun e w' => e = .returned (.bool true) ∧ Below w.heap.size w w' := by
  have HA := hide ha
  have HB := hide hb
  have HG := hide hg
  have hle := hg.len
  clear ha hb hg
  generalize hNa : ga.length = na at *
  generalize hNb : gb.length = nb at *
  have hdec : decide (nb < na) = false := decide_eq_false (by omega)
  have HNA := hide hNa
  have HNB := hide hNb
  clear hNa hNb
  go_enter Try.func17, Try.ntmps17
  go_wp2
  go_loopg [7] na (fun gq i wr => ∃ k : Nat, k ≤ na ∧ gq = na - k ∧ i = .int .i64 k ∧ Below w.heap.size w wr)
  case atStart => exact ⟨0, Nat.zero_le _, rfl, rfl, Below.refl _ _⟩
  case round =>
    obtain ⟨k, hk, hgk, rfl, hbel⟩ := hrel
    have HGK := hide hgk
    clear hgk
    rcases Nat.lt_or_ge k na with hkn | hkn
    · obtain ⟨t, ht⟩ : ∃ t, ga[k]? = some t := ⟨_, List.getElem?_eq_getElem (by rw [HNA.out]; exact hkn)⟩
      obtain ⟨t', ht', o1, o2, o3, o4, o5, o6, o7⟩ := HG.out.old k t ht
      obtain ⟨ba, rfl, hba, a0, a1, a2, a3, a4⟩ := HA.out.cells ht
      obtain ⟨bb, rfl, hbb, b0, b1, b2, b3, b4⟩ := HB.out.cells ht'
      have z := hbel.size
      rw [← hbel.cell (p := ⟨ba, k * 5, none⟩) hba] at a0
      rw [← hbel.cell (p := ⟨ba, k * 5 + 1, none⟩) hba] at a1
      rw [← hbel.cell (p := ⟨ba, k * 5 + 2, none⟩) hba] at a2
      rw [← hbel.cell (p := ⟨ba, k * 5 + 3, none⟩) hba] at a3
      rw [← hbel.cell (p := ⟨ba, k * 5 + 4, none⟩) hba] at a4
      rw [← hbel.cell (p := ⟨bb, k * 5, none⟩) hbb] at b0
      rw [← hbel.cell (p := ⟨bb, k * 5 + 1, none⟩) hbb] at b1
      rw [← hbel.cell (p := ⟨bb, k * 5 + 2, none⟩) hbb] at b2
      rw [← hbel.cell (p := ⟨bb, k * 5 + 3, none⟩) hbb] at b3
      rw [← hbel.cell (p := ⟨bb, k * 5 + 4, none⟩) hbb] at b4
      rw [o2] at b0
      rw [o3] at b1
      have hba' : ba < wr.heap.size := by omega
      have hbb' : bb < wr.heap.size := by omega
      have hbb2 : bb < wr.heap.size + 1 := by omega
      have HBL := hide hbel
      have hkI : (k : Int) < (na : Int) := by omega
      have hkJ : (k : Int) < (nb : Int) := by omega
      have hR : (((t.read : Int) != 0) = true ∧ ((t.read : Int) == 0) = false ∧ (t'.read : Int) = t.read ∧ (t'.done : Int) = t.done) ∨ ((t.read : Int) = 0 ∧ (t'.read : Int) = 0) ∨ ((t.read : Int) = 0 ∧ ((t'.read : Int) != 0) = true ∧ decide ((t'.read : Int) ≤ n) = false) := by
        by_cases h : t.read = 0
        · rcases o6 h with h' | h'
          · exact .inr (.inl ⟨by simp [h], by simp [h']⟩)
          · exact .inr (.inr ⟨by simp [h], by simp; omega, decide_eq_false (by omega)⟩)
        · obtain ⟨q1, q2, _⟩ := o4 h
          exact .inl ⟨by simp [h], by simp [h], by rw [q1], by rw [q2]⟩
      have hQ : (((t.write : Int) != 0) = true ∧ ((t.write : Int) == 0) = false ∧ (t'.write : Int) = t.write) ∨ ((t.write : Int) = 0 ∧ (t'.write : Int) = 0) ∨ ((t.write : Int) = 0 ∧ ((t'.write : Int) != 0) = true ∧ decide ((t'.write : Int) ≤ n) = false) := by
        by_cases h : t.write = 0
        · rcases o7 h with h' | h'
          · exact .inr (.inl ⟨by simp [h], by simp [h']⟩)
          · exact .inr (.inr ⟨by simp [h], by simp; omega, decide_eq_false (by omega)⟩)
        · exact .inl ⟨by simp [h], by simp [h], by rw [o5 h]⟩
      generalize (t.number : Int) = x0 at *
      generalize (t.issue : Int) = x1 at *
      generalize (t.read : Int) = x2 at *
      generalize (t.done : Int) = x3 at *
      generalize (t.write : Int) = x4 at *
      generalize (t'.read : Int) = y2 at *
      generalize (t'.done : Int) = y3 at *
      generalize (t'.write : Int) = y4 at *
      clear o1 o2 o3 o4 o5 o6 o7 ht ht' hbel hba hbb
      have HR := hide hR
      have HQ := hide hQ
      clear hR hQ
      go_upto_region 8 with fail
      obtain ⟨W8, hW8⟩ : ∃ W8, (wr.alloc (.cells #[.int .i64 x0, .int .i64 x1, .int .i64 x2, .int .i64 x3, .int .i64 x4] 47)).alloc (.cells #[.int .i64 x0, .int .i64 x1, .int .i64 y2, .int .i64 y3, .int .i64 y4] 47) = W8 := ⟨_, rfl⟩
      rw [hW8]
      have HB8 : Hid (Below w.heap.size w W8) := by rw [← hW8]; exact bAl (bAl HBL.out _) _
      have g1 : W8.heap[wr.heap.size]? = some (.cells #[.int .i64 x0, .int .i64 x1, .int .i64 x2, .int .i64 x3, .int .i64 x4] 47 (0, 0)) := by rw [← hW8]; exact hOld (hNew rfl)
      have g2 : W8.heap[wr.heap.size + 1]? = some (.cells #[.int .i64 x0, .int .i64 x1, .int .i64 y2, .int .i64 y3, .int .i64 y4] 47 (0, 0)) := by rw [← hW8]; exact hNew (by simp)
      have e0 : W8.cell? ⟨wr.heap.size, 0, none⟩ = some (.int .i64 x0) := by rw [cell_of_row _ _ _ _ _ _ g1]; rfl
      have e1 : W8.cell? ⟨wr.heap.size, 1, none⟩ = some (.int .i64 x1) := by rw [cell_of_row _ _ _ _ _ _ g1]; rfl
      have e2 : W8.cell? ⟨wr.heap.size, 2, none⟩ = some (.int .i64 x2) := by rw [cell_of_row _ _ _ _ _ _ g1]; rfl
      have e3 : W8.cell? ⟨wr.heap.size, 3, none⟩ = some (.int .i64 x3) := by rw [cell_of_row _ _ _ _ _ _ g1]; rfl
      have e4 : W8.cell? ⟨wr.heap.size, 4, none⟩ = some (.int .i64 x4) := by rw [cell_of_row _ _ _ _ _ _ g1]; rfl
      have f0 : W8.cell? ⟨wr.heap.size + 1, 0, none⟩ = some (.int .i64 x0) := by rw [cell_of_row _ _ _ _ _ _ g2]; rfl
      have f1 : W8.cell? ⟨wr.heap.size + 1, 1, none⟩ = some (.int .i64 x1) := by rw [cell_of_row _ _ _ _ _ _ g2]; rfl
      have f2 : W8.cell? ⟨wr.heap.size + 1, 2, none⟩ = some (.int .i64 y2) := by rw [cell_of_row _ _ _ _ _ _ g2]; rfl
      have f3 : W8.cell? ⟨wr.heap.size + 1, 3, none⟩ = some (.int .i64 y3) := by rw [cell_of_row _ _ _ _ _ _ g2]; rfl
      have f4 : W8.cell? ⟨wr.heap.size + 1, 4, none⟩ = some (.int .i64 y4) := by rw [cell_of_row _ _ _ _ _ _ g2]; rfl
      have HAR : Hid (k < na ∧ na ≤ nb ∧ nb ≤ 100000) := ⟨hkn, hle, hlb⟩
      clear hk hkn hkI hkJ hla hlb _hn hle
      clear hW8 g1 g2 a0 a1 a2 a3 a4 b0 b1 b2 b3 b4 HBL hba' hbb' hbb2 z
      go_cut [104] from 16 to 104 (fun s wx => s = .bool false ∧ wx = W8)
      case first =>
        clear HB8 HGK HG HA HB HNA HNB HAR
        simp only [List.append_eq, List.cons_append, List.nil_append]
        rcases HR.out with ⟨r1, r2, rfl, rfl⟩ | ⟨rfl, rfl⟩ | ⟨rfl, r3, r4⟩
        all_goals clear HR
        all_goals rcases HQ.out with ⟨q1, q2, rfl⟩ | ⟨rfl, rfl⟩ | ⟨rfl, q3, q4⟩
        all_goals clear HQ
        all_goals go_wp2
        all_goals go_meet
        all_goals exact ⟨rfl, rfl⟩
      case rest =>
        obtain ⟨rfl, hwc⟩ := hcut
        have har := HAR.out
        have hgk := HGK.out
        have HGK2 := hide hgk
        clear hgk
        go_wp2
        have hgk := HGK2.out
        go_roundg (na - (k + 1))
        case measure => omega
        case rel => exact ⟨k + 1, by omega, rfl, by go_num, by first | exact HB8.out | (rw [hwc]; exact HB8.out)⟩
    · have hke : k = na := by omega
      subst hke
      have HBL := hide hbel
      clear hbel
      go_wp2
      go_loopw [10] (fun i wq => ∃ j : Nat, k ≤ j ∧ j ≤ nb ∧ i = .int .i64 j ∧ Below w.heap.size w wq) (fun i _ => nb - (intOf i).toNat)
      case atStart => exact ⟨k, Nat.le_refl _, hle, rfl, HBL.out⟩
      case round =>
        obtain ⟨j, hj1, hj2, rfl, hbel⟩ := hrel
        rcases Nat.lt_or_ge j nb with hjn | hjn
        · obtain ⟨t', ht'⟩ : ∃ t', gb[j]? = some t' := ⟨_, List.getElem?_eq_getElem (by rw [HNB.out]; exact hjn)⟩
          have hiss := HG.out.new j t' (by rw [HNA.out]; exact hj1) ht'
          obtain ⟨bb, rfl, hbb, b0, b1, b2, b3, b4⟩ := HB.out.cells ht'
          rw [← hbel.cell (p := ⟨bb, j * 5 + 1, none⟩) hbb] at b1
          have hjI : (j : Int) < (nb : Int) := by omega
          have hiI : ¬ ((t'.issue : Int) ≤ n) := by omega
          have HBQ := hide hbel
          clear b0 b2 b3 b4 hbel ht'
          go_wp2
          go_roundw
          case rel => exact ⟨j + 1, by omega, by omega, by simp, HBQ.out⟩
          case measure => simp [intOf]; omega
        · have hje : j = nb := by omega
          subst hje
          go_wp2
          go_ret
          exact ⟨rfl, hbel⟩

end Go.Proofs.Ytmeiogoodbnkkaa

/- Legal's pair in the invariant's words. -/
namespace Go.Proofs.Ytmeiogoodbnkkaa
open Go.RowKit

section
variable {prog : List Ord} {u l : List Int} {b : Int} {mem0 : List Int} {m : Mc}

theorem rd_of {o : Ord} {r : Int} (h : rdRb o.op o.a o.b r = true) : rdR o r.toNat := by
  have := of_decide_eq_true h
  rcases this with ⟨h2, h3⟩ | ⟨h2, h3⟩
  · exact .inl ⟨by unfold rdA; exact decide_eq_true h2, by rw [h3]⟩
  · exact .inr ⟨by unfold rdB; exact decide_eq_true h2, by rw [h3]⟩

theorem pair_said (h : Jv prog u l b mem0 m) {i j : Nat} {t s : Tk} (hij : i < j) (ht : m.given[i]? = some t) (hs : m.given[j]? = some s) :
    (t.issue : Int) < s.issue ∧ (wrD t.o.op = true → rdRb s.o.op s.o.a s.o.b t.o.d = true → behB s.read t.write = true) ∧ (wrD s.o.op = true → rdRb t.o.op t.o.a t.o.b s.o.d = true → (s.write : Int) = 0 ∨ ((t.read : Int) ≠ 0 ∧ (t.read : Int) ≤ s.write)) ∧
    ((wrD t.o.op = true ∧ wrD s.o.op = true ∧ t.o.d = s.o.d) ∨ (kindOf t.o.op = 3 ∧ kindOf s.o.op = 3) → behB s.issue t.write = true) := by
  refine ⟨by have := h.iv.inc i j t s hij ht hs; omega, fun h1 h2 => ?_, fun h1 h2 => ?_, fun h1 => ?_⟩
  · have hr := rd_of h2
    by_cases e : s.read = 0
    · exact decide_eq_true (.inl (by omega))
    · have := h.iv.raw i j t s t.o.d.toNat hij ht hs ⟨h1, rfl⟩ hr e
      exact decide_eq_true (.inr ⟨by omega, by omega⟩)
  · have hr := rd_of h2
    by_cases e : s.write = 0
    · exact .inl (by omega)
    · have := h.iv.war i j t s s.o.d.toNat hij ht hs hr ⟨h1, rfl⟩ e
      exact .inr ⟨by omega, by omega⟩
  · have : t.write ≠ 0 ∧ t.write < s.issue := by
      rcases h1 with ⟨g1, g2, g3⟩ | ⟨g1, g2⟩
      · exact h.iv.waw i j t s t.o.d.toNat hij ht hs ⟨g1, rfl⟩ ⟨g2, by rw [g3]⟩
      · exact h.iv.mem i j t s hij ht hs g1 g2
    exact decide_eq_true (.inr ⟨by omega, by omega⟩)
end

end Go.Proofs.Ytmeiogoodbnkkaa

/- boardkeep.crowd: no more at work than units, no more that write than buses. -/
namespace Go.Proofs.Ytmeiogoodbnkkaa
open Go.RowKit

theorem kind_ways (op : Int) : kindOf op = -1 ∨ kindOf op = 0 ∨ kindOf op = 1 ∨ kindOf op = 2 ∨ kindOf op = 3 := by
  unfold kindOf
  split
  · simp
  · split
    · simp
    · split
      · simp
      · split <;> simp

set_option maxRecDepth 100000 in
set_option maxHeartbeats 8000000 in
theorem crowd_any (u0 u1 u2 u3 l0 l1 l2 l3 b : Int) (p pt : Option Addr) (c ct B steps : Nat) (prog : List Ord) (g : List Tk) (w : World) (hp : RdO w p prog) (ht : TmR w B pt g) (hgl : g.length ≤ 400) (hst : steps ≤ 400)
    (hnum : ∀ (i : Nat) (t : Tk), g[i]? = some t → t.number < prog.length ∧ t.o = prog.getD t.number Ord.none)
    (h0 : ∀ k, (crowdAt g 0 k : Int) ≤ u0) (h1 : ∀ k, (crowdAt g 1 k : Int) ≤ u1) (h2 : ∀ k, (crowdAt g 2 k : Int) ≤ u2) (h3 : ∀ k, (crowdAt g 3 k : Int) ≤ u3) (hb : ∀ k, 1 ≤ k → (wroteAt g k : Int) ≤ b) :
    Calls Try.prog 21 #[.agg #[.int .i64 u0, .int .i64 u1, .int .i64 u2, .int .i64 u3, .int .i64 l0, .int .i64 l1, .int .i64 l2, .int .i64 l3, .int .i64 b], .slice p prog.length c, .slice pt g.length ct, .int .i64 steps] w fun e w' => e = .returned (.bool true) ∧ Below w.heap.size w w' := by
  have HP := hide hp
  have HT := hide ht
  have HNUM := hide hnum
  have HC0 := hide h0
  have HC1 := hide h1
  have HC2 := hide h2
  have HC3 := hide h3
  have HBU := hide hb
  clear hp ht hnum h0 h1 h2 h3 hb
  obtain ⟨W0, hW0⟩ : ∃ W0, w.alloc (.cells #[.int .i64 u0, .int .i64 u1, .int .i64 u2, .int .i64 u3, .int .i64 l0, .int .i64 l1, .int .i64 l2, .int .i64 l3, .int .i64 b] 24) = W0 := ⟨_, rfl⟩
  have hb0 : Below w.heap.size w W0 := by rw [← hW0]; exact bAl (Below.refl _ _) _
  have hz0 : W0.heap.size = w.heap.size + 1 := by rw [← hW0]; simp
  have HR1 := hide (cfg_rules (show W0.heap[w.heap.size]? = _ by rw [← hW0]; exact hNew rfl))
  have HB0 := hide hb0
  have HZ0 := hide hz0
  clear hb0 hz0
  go_enter Try.func21, Try.ntmps21
  go_upto_region 1 with fail
  clear hW0
  go_wp2_with fail
  go_loopg [9] steps (fun gq at' wr => ∃ k : Nat, 1 ≤ k ∧ k ≤ steps + 1 ∧ gq = steps + 1 - k ∧ at' = .int .i64 k ∧ Below W0.heap.size W0 wr)
  case atStart => exact ⟨1, Nat.le_refl _, by omega, by omega, rfl, Below.refl _ _⟩
  case round =>
    obtain ⟨k, hk1, hk2, hgk, rfl, hbel⟩ := hrel
    rcases Nat.lt_or_ge k (steps + 1) with hks | hks
    · have hkI : (k : Int) ≤ steps := by omega
      go_upto_block 2 with fail
      go_cut [11, 12] from 22 to 84 (fun s11 _ wx => s11 = .int .i64 (wroteAt g k) ∧ wx.heap[wr.heap.size]? = some (.cells #[.int .i64 (crowdAt g 0 k), .int .i64 (crowdAt g 1 k), .int .i64 (crowdAt g 2 k), .int .i64 (crowdAt g 3 k)] 22 (0, 0)) ∧ Below W0.heap.size W0 wx)
      case first =>
        go_wp2_with fail
        go_loopg [11, 12] g.length (fun gq s11 s12 wq => ∃ i : Nat, i ≤ g.length ∧ gq = g.length - i ∧ s12 = .int .i64 i ∧ s11 = .int .i64 (wroteAt (g.take i) k) ∧ wq.heap[wr.heap.size]? = some (.cells #[.int .i64 (crowdAt (g.take i) 0 k), .int .i64 (crowdAt (g.take i) 1 k), .int .i64 (crowdAt (g.take i) 2 k), .int .i64 (crowdAt (g.take i) 3 k)] 22 (0, 0)) ∧ Below W0.heap.size W0 wq)
        case atStart => exact ⟨0, Nat.zero_le _, rfl, rfl, rfl, hNew rfl, bAl hbel _⟩
        case round =>
          obtain ⟨i, hi1, hgi, rfl, rfl, hbz, hbq⟩ := hrel
          rename World => wq
          rcases Nat.lt_or_ge i g.length with hil | hil
          · obtain ⟨t, ht⟩ : ∃ t, g[i]? = some t := ⟨_, List.getElem?_eq_getElem hil⟩
            obtain ⟨bt, rfl, hbt, c0, c1, _, _, c4⟩ := HT.out.cells ht
            obtain ⟨hn1, hn2⟩ := HNUM.out i t ht
            obtain ⟨bp, off, rfl, hbp, p0, p1, p2, p3, p4⟩ := HP.out.at hn1
            rw [← hn2] at p0 p1 p2 p3 p4
            have hww : Below w.heap.size w wq := bCall HB0.out hbq
            have d0 : wq.cell? ⟨bt, i * 5, none⟩ = some (.int .i64 t.number) := by rw [hww.cell (p := ⟨bt, i * 5, none⟩) hbt]; exact c0
            have e0 : wq.cell? ⟨bp, off + t.number * 5, none⟩ = some (.int .i64 t.o.op) := by rw [hww.cell (p := ⟨bp, off + t.number * 5, none⟩) hbp]; exact p0
            have e1 : wq.cell? ⟨bp, off + t.number * 5 + 1, none⟩ = some (.int .i64 t.o.d) := by rw [hww.cell (p := ⟨bp, off + t.number * 5 + 1, none⟩) hbp]; exact p1
            have e2 : wq.cell? ⟨bp, off + t.number * 5 + 2, none⟩ = some (.int .i64 t.o.a) := by rw [hww.cell (p := ⟨bp, off + t.number * 5 + 2, none⟩) hbp]; exact p2
            have e3 : wq.cell? ⟨bp, off + t.number * 5 + 3, none⟩ = some (.int .i64 t.o.b) := by rw [hww.cell (p := ⟨bp, off + t.number * 5 + 3, none⟩) hbp]; exact p3
            have e4 : wq.cell? ⟨bp, off + t.number * 5 + 4, none⟩ = some (.int .i64 t.o.k) := by rw [hww.cell (p := ⟨bp, off + t.number * 5 + 4, none⟩) hbp]; exact p4
            have hiI : (i : Int) < (g.length : Int) := by omega
            have hnI : (t.number : Int) < (prog.length : Int) := by omega
            have hbt2 : bt < wq.heap.size := Nat.lt_of_lt_of_le hbt hww.size
            have HWW := hide hww
            have HBZ := hide hbz
            have HBQ := hide hbq
            have HGI := hide hgi
            have C1 := hide c1
            have C4 := hide c4
            clear c0 c1 c4 p0 p1 p2 p3 p4 hww hbz hbq hgi hn2
            go_upto_region 10 with fail
            obtain ⟨W5, hW5⟩ : ∃ W5, wq.alloc (.cells #[.int .i64 t.o.op, .int .i64 t.o.d, .int .i64 t.o.a, .int .i64 t.o.b, .int .i64 t.o.k] 49) = W5 := ⟨_, rfl⟩
            rw [hW5]
            have hb5 : Below wq.heap.size wq W5 := by rw [← hW5]; exact bAl (Below.refl _ _) _
            have g5 : W5.heap[wq.heap.size]? = some (.cells #[.int .i64 t.o.op, .int .i64 t.o.d, .int .i64 t.o.a, .int .i64 t.o.b, .int .i64 t.o.k] 49 (0, 0)) := by rw [← hW5]; exact heap_alloc_new _ _
            have hl5 : wq.heap.size < W5.heap.size := (Array.getElem?_eq_some_iff.1 g5).1
            clear hW5 d0 e0 e1 e2 e3 e4
            have r0 : ∀ w', Below W5.heap.size W5 w' → w'.cell? ⟨wq.heap.size, 0, none⟩ = some (.int .i64 t.o.op) := fun w' h => by rw [h.cell (p := ⟨wq.heap.size, 0, none⟩) hl5, cell_of_row _ _ _ _ _ _ g5]; rfl
            have r1 : ∀ w', Below W5.heap.size W5 w' → w'.cell? ⟨wq.heap.size, 1, none⟩ = some (.int .i64 t.o.d) := fun w' h => by rw [h.cell (p := ⟨wq.heap.size, 1, none⟩) hl5, cell_of_row _ _ _ _ _ _ g5]; rfl
            have r2 : ∀ w', Below W5.heap.size W5 w' → w'.cell? ⟨wq.heap.size, 2, none⟩ = some (.int .i64 t.o.a) := fun w' h => by rw [h.cell (p := ⟨wq.heap.size, 2, none⟩) hl5, cell_of_row _ _ _ _ _ _ g5]; rfl
            have r3 : ∀ w', Below W5.heap.size W5 w' → w'.cell? ⟨wq.heap.size, 3, none⟩ = some (.int .i64 t.o.b) := fun w' h => by rw [h.cell (p := ⟨wq.heap.size, 3, none⟩) hl5, cell_of_row _ _ _ _ _ _ g5]; rfl
            have r4 : ∀ w', Below W5.heap.size W5 w' → w'.cell? ⟨wq.heap.size, 4, none⟩ = some (.int .i64 t.o.k) := fun w' h => by rw [h.cell (p := ⟨wq.heap.size, 4, none⟩) hl5, cell_of_row _ _ _ _ _ _ g5]; rfl
            have hw5 : Below w.heap.size w W5 := bCall HWW.out hb5
            have x1 : ∀ w', Below W5.heap.size W5 w' → w'.cell? ⟨bt, i * 5 + 1, none⟩ = some (.int .i64 t.issue) := fun w' h => by rw [(bCall hw5 h).cell (p := ⟨bt, i * 5 + 1, none⟩) hbt]; exact C1.out
            have x4 : ∀ w', Below W5.heap.size W5 w' → w'.cell? ⟨bt, i * 5 + 4, none⟩ = some (.int .i64 t.write) := fun w' h => by rw [(bCall hw5 h).cell (p := ⟨bt, i * 5 + 4, none⟩) hbt]; exact C4.out
            have hbt5 : bt < W5.heap.size := Nat.lt_of_lt_of_le hbt hw5.size
            have hbz5 : W5.heap[wr.heap.size]? = some (.cells #[.int .i64 (crowdAt (g.take i) 0 k), .int .i64 (crowdAt (g.take i) 1 k), .int .i64 (crowdAt (g.take i) 2 k), .int .i64 (crowdAt (g.take i) 3 k)] 22 (0, 0)) := by rw [hb5.block _ (Array.getElem?_eq_some_iff.1 HBZ.out).1]; exact HBZ.out
            have hbq5 : Below W0.heap.size W0 W5 := bCall HBQ.out hb5
            have HW5 := hide hw5
            have HBZ5 := hide hbz5
            have HBQ5 := hide hbq5
            have G5 := hide g5
            have hwr0 : W0.heap.size ≤ wr.heap.size := hbel.size
            have HC : Hid (∀ W : World, Below w.heap.size w W → W.cell? ⟨bt, i * 5 + 4, none⟩ = some (.int .i64 t.write)) := fun W h => by rw [h.cell (p := ⟨bt, i * 5 + 4, none⟩) hbt]; exact C4.out
            clear hw5 hbz5 hbq5 g5 HBZ HBQ HWW
            have KK : Hid (∀ W, Calls Try.prog 19 #[.agg #[.int .i64 t.o.op, .int .i64 t.o.d, .int .i64 t.o.a, .int .i64 t.o.b, .int .i64 t.o.k]] W fun e w' => e = .returned (.int .i64 (kindOf t.o.op)) ∧ Below W.heap.size W w') := fun W => kind_any _ _ _ _ _ W
            have KW : Hid (∀ W, Calls Try.prog 29 #[.agg #[.int .i64 t.o.op, .int .i64 t.o.d, .int .i64 t.o.a, .int .i64 t.o.b, .int .i64 t.o.k]] W fun e w' => e = .returned (.bool (wrD t.o.op)) ∧ Below W.heap.size W w') := fun W => kWrites_any _ _ _ _ _ W
            have hS0 : Hid (crowdAt (g.take (i + 1)) 0 k = crowdAt (g.take i) 0 k + (if atWork t 0 k = true then 1 else 0)) := crowd_succ ht 0 k
            have hS1 : Hid (crowdAt (g.take (i + 1)) 1 k = crowdAt (g.take i) 1 k + (if atWork t 1 k = true then 1 else 0)) := crowd_succ ht 1 k
            have hS2 : Hid (crowdAt (g.take (i + 1)) 2 k = crowdAt (g.take i) 2 k + (if atWork t 2 k = true then 1 else 0)) := crowd_succ ht 2 k
            have hS3 : Hid (crowdAt (g.take (i + 1)) 3 k = crowdAt (g.take i) 3 k + (if atWork t 3 k = true then 1 else 0)) := crowd_succ ht 3 k
            have hSw : Hid (wroteAt (g.take (i + 1)) k = wroteAt (g.take i) k + (if writesAt t k = true then 1 else 0)) := wrote_succ ht k
            have HAW : Hid (∀ j : Int, 0 ≤ j → atWork t j k = (decide (kindOf t.o.op = j) && (decide (0 ≤ kindOf t.o.op) && decide ((t.issue : Int) ≤ k) && (((t.write : Int) == 0) || decide ((k : Int) ≤ t.write))))) := fun j hj => by
              unfold atWork
              by_cases e : kindOf t.o.op = j
              · rw [e]; simp [hj]; congr 1; rw [Bool.eq_iff_iff]; simp
              · simp [e]
            have HWA : Hid (writesAt t k = (wrD t.o.op && ((t.write : Int) == k))) := by
              unfold writesAt; congr 1; rw [Bool.eq_iff_iff]; simp; omega
            have HKD : Hid (kindOf t.o.op = -1 ∨ kindOf t.o.op = 0 ∨ kindOf t.o.op = 1 ∨ kindOf t.o.op = 2 ∨ kindOf t.o.op = 3) := by
              exact kind_ways _
            generalize hkk : kindOf t.o.op = kk at *
            generalize hwd : wrD t.o.op = wd at *
            generalize hti : (t.issue : Int) = ti at *
            generalize htw : (t.write : Int) = tw at *
            clear hkk hwd hti htw
            have hrb : Below W5.heap.size W5 W5 := Below.refl _ _
            go_upto_region 11 with (go_at_call 19; with_reducible refine (KK.out _).mono ?_; rintro e va ⟨rfl, hbva⟩)
            go_cut [65] from 22 to 64 (fun s wx => s = .bool (decide (0 ≤ kk) && decide (ti ≤ k) && ((tw == 0) || decide ((k : Int) ≤ tw))) ∧ Below W5.heap.size W5 wx)
            case first =>
              by_cases z1 : 0 ≤ kk
              · by_cases z2 : ti ≤ k
                · cases z3 : (tw == 0) with
                  | true =>
                    go_wp2_with fail
                    go_meet
                    exact ⟨by rw [decide_eq_true z1, decide_eq_true z2, z3]; rfl, hbva⟩
                  | false =>
                    go_wp2_with fail
                    go_meet
                    exact ⟨by rw [decide_eq_true z1, decide_eq_true z2, z3]; rfl, hbva⟩
                · go_wp2_with fail
                  go_meet
                  exact ⟨by rw [decide_eq_true z1, decide_eq_false (Int.not_le.2 z2)]; rfl, hbva⟩
              · go_wp2_with fail
                go_meet
                exact ⟨by rw [decide_eq_false (Int.not_le.2 z1)]; rfl, hbva⟩
            case rest =>
            obtain ⟨rfl, hbx⟩ := hcut
            rename World => W6
            obtain ⟨q, hq⟩ : ∃ q : Bool, (decide (0 ≤ kk) && decide (ti ≤ k) && ((tw == 0) || decide ((k : Int) ≤ tw))) = q := ⟨_, rfl⟩
            rw [hq]
            have HAQ : Hid (∀ j : Int, 0 ≤ j → atWork t j k = (decide (kk = j) && q)) := fun j hj => by rw [HAW.out j hj, hq]
            have HQ0 : Hid (q = true → 0 ≤ kk) := by
              intro h
              rw [h] at hq
              simp at hq
              exact hq.1.1
            clear hq HAW
            have hzx : W6.heap[wr.heap.size]? = some (.cells #[.int .i64 (crowdAt (g.take i) 0 k), .int .i64 (crowdAt (g.take i) 1 k), .int .i64 (crowdAt (g.take i) 2 k), .int .i64 (crowdAt (g.take i) 3 k)] 22 (0, 0)) := by rw [hbx.block _ (Array.getElem?_eq_some_iff.1 HBZ5.out).1]; exact HBZ5.out
            have hox : W6.heap[wq.heap.size]? = some (.cells #[.int .i64 t.o.op, .int .i64 t.o.d, .int .i64 t.o.a, .int .i64 t.o.b, .int .i64 t.o.k] 49 (0, 0)) := by rw [hbx.block _ hl5]; exact G5.out
            have hqx : Below W0.heap.size W0 W6 := bCall HBQ5.out hbx
            have f0 : W6.cell? ⟨wr.heap.size, 0, none⟩ = some (.int .i64 (crowdAt (g.take i) 0 k)) := by rw [cell_of_row _ _ _ _ _ _ hzx]; rfl
            have f1 : W6.cell? ⟨wr.heap.size, 1, none⟩ = some (.int .i64 (crowdAt (g.take i) 1 k)) := by rw [cell_of_row _ _ _ _ _ _ hzx]; rfl
            have f2 : W6.cell? ⟨wr.heap.size, 2, none⟩ = some (.int .i64 (crowdAt (g.take i) 2 k)) := by rw [cell_of_row _ _ _ _ _ _ hzx]; rfl
            have f3 : W6.cell? ⟨wr.heap.size, 3, none⟩ = some (.int .i64 (crowdAt (g.take i) 3 k)) := by rw [cell_of_row _ _ _ _ _ _ hzx]; rfl
            have c0 : (crowdAt (g.take i) 0 k : Int) ≤ 400 := by have := crowd_le (g := g) i 0 k; omega
            have c1 : (crowdAt (g.take i) 1 k : Int) ≤ 400 := by have := crowd_le (g := g) i 1 k; omega
            have c2 : (crowdAt (g.take i) 2 k : Int) ≤ 400 := by have := crowd_le (g := g) i 2 k; omega
            have c3 : (crowdAt (g.take i) 3 k : Int) ≤ 400 := by have := crowd_le (g := g) i 3 k; omega
            have z0 : W6.frozen? ⟨wr.heap.size, 0, none⟩ = false := frozen_of_row _ _ _ _ _ hzx
            have z1 : W6.frozen? ⟨wr.heap.size, 1, none⟩ = false := frozen_of_row _ _ _ _ _ hzx
            have z2 : W6.frozen? ⟨wr.heap.size, 2, none⟩ = false := frozen_of_row _ _ _ _ _ hzx
            have z3 : W6.frozen? ⟨wr.heap.size, 3, none⟩ = false := frozen_of_row _ _ _ _ _ hzx
            have hne : wq.heap.size ≠ wr.heap.size := fun e => by rw [e, hzx] at hox; injection hox with hox; injection hox with h1 h2; exact absurd h2 (by decide)
            have HZX := hide hzx
            have HOX := hide hox
            have HQX := hide hqx
            have hlz : wr.heap.size < W6.heap.size := (Array.getElem?_eq_some_iff.1 hzx).1
            clear hzx hox hqx
            clear r0 r1 r2 r3 r4 x1 x4
            go_upto_if 65 with fail
            go_cut [] from 22 to 81 (fun wx => wx.heap[wr.heap.size]? = some (.cells #[.int .i64 (crowdAt (g.take (i + 1)) 0 k), .int .i64 (crowdAt (g.take (i + 1)) 1 k), .int .i64 (crowdAt (g.take (i + 1)) 2 k), .int .i64 (crowdAt (g.take (i + 1)) 3 k)] 22 (0, 0)) ∧ wx.heap[wq.heap.size]? = some (.cells #[.int .i64 t.o.op, .int .i64 t.o.d, .int .i64 t.o.a, .int .i64 t.o.b, .int .i64 t.o.k] 49 (0, 0)) ∧ Below W0.heap.size W0 wx)
            case first =>
              cases q with
              | false =>
                have e0 : crowdAt (g.take (i + 1)) 0 k = crowdAt (g.take i) 0 k := by rw [hS0.out, HAQ.out 0 (by omega)]; simp
                have e1 : crowdAt (g.take (i + 1)) 1 k = crowdAt (g.take i) 1 k := by rw [hS1.out, HAQ.out 1 (by omega)]; simp
                have e2 : crowdAt (g.take (i + 1)) 2 k = crowdAt (g.take i) 2 k := by rw [hS2.out, HAQ.out 2 (by omega)]; simp
                have e3 : crowdAt (g.take (i + 1)) 3 k = crowdAt (g.take i) 3 k := by rw [hS3.out, HAQ.out 3 (by omega)]; simp
                have E := hide (And.intro e0 (And.intro e1 (And.intro e2 e3)))
                clear e0 e1 e2 e3
                go_wp2
                go_meet
                obtain ⟨e0, e1, e2, e3⟩ := E.out
                rw [e0, e1, e2, e3]
                exact ⟨HZX.out, HOX.out, HQX.out⟩
              | true =>
                have hk := HQ0.out rfl
                have hkd : kk = 0 ∨ kk = 1 ∨ kk = 2 ∨ kk = 3 := by have := HKD.out; omega
                clear hk
                rcases hkd with rfl | rfl | rfl | rfl
                · have e0 : (crowdAt (g.take (i + 1)) 0 k : Int) = crowdAt (g.take i) 0 k + 1 := by rw [hS0.out, HAQ.out 0 (by omega)]; simp
                  have e1 : (crowdAt (g.take (i + 1)) 1 k : Int) = crowdAt (g.take i) 1 k := by rw [hS1.out, HAQ.out 1 (by omega)]; simp
                  have e2 : (crowdAt (g.take (i + 1)) 2 k : Int) = crowdAt (g.take i) 2 k := by rw [hS2.out, HAQ.out 2 (by omega)]; simp
                  have e3 : (crowdAt (g.take (i + 1)) 3 k : Int) = crowdAt (g.take i) 3 k := by rw [hS3.out, HAQ.out 3 (by omega)]; simp
                  have E := hide (And.intro e0 (And.intro e1 (And.intro e2 e3)))
                  clear e0 e1 e2 e3
                  go_wp2
                  go_meet
                  obtain ⟨e0, e1, e2, e3⟩ := E.out
                  rw [e0, e1, e2, e3]
                  exact ⟨(heap_setCell_same _ _ _ _ _ _ HZX.out).trans rfl, (Below.heap_setCell _ _ _ _ hne).trans HOX.out, HQX.out.setCell hwr0 _⟩
                · have e0 : (crowdAt (g.take (i + 1)) 0 k : Int) = crowdAt (g.take i) 0 k := by rw [hS0.out, HAQ.out 0 (by omega)]; simp
                  have e1 : (crowdAt (g.take (i + 1)) 1 k : Int) = crowdAt (g.take i) 1 k + 1 := by rw [hS1.out, HAQ.out 1 (by omega)]; simp
                  have e2 : (crowdAt (g.take (i + 1)) 2 k : Int) = crowdAt (g.take i) 2 k := by rw [hS2.out, HAQ.out 2 (by omega)]; simp
                  have e3 : (crowdAt (g.take (i + 1)) 3 k : Int) = crowdAt (g.take i) 3 k := by rw [hS3.out, HAQ.out 3 (by omega)]; simp
                  have E := hide (And.intro e0 (And.intro e1 (And.intro e2 e3)))
                  clear e0 e1 e2 e3
                  go_wp2
                  go_meet
                  obtain ⟨e0, e1, e2, e3⟩ := E.out
                  rw [e0, e1, e2, e3]
                  exact ⟨(heap_setCell_same _ _ _ _ _ _ HZX.out).trans rfl, (Below.heap_setCell _ _ _ _ hne).trans HOX.out, HQX.out.setCell hwr0 _⟩
                · have e0 : (crowdAt (g.take (i + 1)) 0 k : Int) = crowdAt (g.take i) 0 k := by rw [hS0.out, HAQ.out 0 (by omega)]; simp
                  have e1 : (crowdAt (g.take (i + 1)) 1 k : Int) = crowdAt (g.take i) 1 k := by rw [hS1.out, HAQ.out 1 (by omega)]; simp
                  have e2 : (crowdAt (g.take (i + 1)) 2 k : Int) = crowdAt (g.take i) 2 k + 1 := by rw [hS2.out, HAQ.out 2 (by omega)]; simp
                  have e3 : (crowdAt (g.take (i + 1)) 3 k : Int) = crowdAt (g.take i) 3 k := by rw [hS3.out, HAQ.out 3 (by omega)]; simp
                  have E := hide (And.intro e0 (And.intro e1 (And.intro e2 e3)))
                  clear e0 e1 e2 e3
                  go_wp2
                  go_meet
                  obtain ⟨e0, e1, e2, e3⟩ := E.out
                  rw [e0, e1, e2, e3]
                  exact ⟨(heap_setCell_same _ _ _ _ _ _ HZX.out).trans rfl, (Below.heap_setCell _ _ _ _ hne).trans HOX.out, HQX.out.setCell hwr0 _⟩
                · have e0 : (crowdAt (g.take (i + 1)) 0 k : Int) = crowdAt (g.take i) 0 k := by rw [hS0.out, HAQ.out 0 (by omega)]; simp
                  have e1 : (crowdAt (g.take (i + 1)) 1 k : Int) = crowdAt (g.take i) 1 k := by rw [hS1.out, HAQ.out 1 (by omega)]; simp
                  have e2 : (crowdAt (g.take (i + 1)) 2 k : Int) = crowdAt (g.take i) 2 k := by rw [hS2.out, HAQ.out 2 (by omega)]; simp
                  have e3 : (crowdAt (g.take (i + 1)) 3 k : Int) = crowdAt (g.take i) 3 k + 1 := by rw [hS3.out, HAQ.out 3 (by omega)]; simp
                  have E := hide (And.intro e0 (And.intro e1 (And.intro e2 e3)))
                  clear e0 e1 e2 e3
                  go_wp2
                  go_meet
                  obtain ⟨e0, e1, e2, e3⟩ := E.out
                  rw [e0, e1, e2, e3]
                  exact ⟨(heap_setCell_same _ _ _ _ _ _ HZX.out).trans rfl, (Below.heap_setCell _ _ _ _ hne).trans HOX.out, HQX.out.setCell hwr0 _⟩
            case rest =>
            obtain ⟨hz7, ho7, hq7⟩ := hcut
            clear f0 f1 f2 f3 z0 z1 z2 z3 hS0 hS1 hS2 hS3 c0 c1 c2 c3
            rename World => W7
            have hl7 : wq.heap.size < W7.heap.size := (Array.getElem?_eq_some_iff.1 ho7).1
            have hw7 : Below w.heap.size w W7 := bCall HB0.out hq7
            have hbt7 : bt < W7.heap.size := Nat.lt_of_lt_of_le hbt hw7.size
            have r0 : ∀ w', Below W7.heap.size W7 w' → w'.cell? ⟨wq.heap.size, 0, none⟩ = some (.int .i64 t.o.op) := fun w' h => by rw [h.cell (p := ⟨wq.heap.size, 0, none⟩) hl7, cell_of_row _ _ _ _ _ _ ho7]; rfl
            have r1 : ∀ w', Below W7.heap.size W7 w' → w'.cell? ⟨wq.heap.size, 1, none⟩ = some (.int .i64 t.o.d) := fun w' h => by rw [h.cell (p := ⟨wq.heap.size, 1, none⟩) hl7, cell_of_row _ _ _ _ _ _ ho7]; rfl
            have r2 : ∀ w', Below W7.heap.size W7 w' → w'.cell? ⟨wq.heap.size, 2, none⟩ = some (.int .i64 t.o.a) := fun w' h => by rw [h.cell (p := ⟨wq.heap.size, 2, none⟩) hl7, cell_of_row _ _ _ _ _ _ ho7]; rfl
            have r3 : ∀ w', Below W7.heap.size W7 w' → w'.cell? ⟨wq.heap.size, 3, none⟩ = some (.int .i64 t.o.b) := fun w' h => by rw [h.cell (p := ⟨wq.heap.size, 3, none⟩) hl7, cell_of_row _ _ _ _ _ _ ho7]; rfl
            have r4 : ∀ w', Below W7.heap.size W7 w' → w'.cell? ⟨wq.heap.size, 4, none⟩ = some (.int .i64 t.o.k) := fun w' h => by rw [h.cell (p := ⟨wq.heap.size, 4, none⟩) hl7, cell_of_row _ _ _ _ _ _ ho7]; rfl
            have x4 : ∀ w', Below W7.heap.size W7 w' → w'.cell? ⟨bt, i * 5 + 4, none⟩ = some (.int .i64 tw) := fun w' h => HC.out w' (bCall hw7 h)
            have HZ7 := hide hz7
            have HQ7 := hide hq7
            clear hz7 ho7 hq7 hw7
            have hrb7 : Below W7.heap.size W7 W7 := Below.refl _ _
            go_upto_region 14 with (go_at_call 29; with_reducible refine (KW.out _).mono ?_; rintro e vb ⟨rfl, hbvb⟩)
            go_cut [82] from 22 to 81 (fun s wx => s = .bool (wd && (tw == (k : Int))) ∧ Below W7.heap.size W7 wx)
            case first =>
              cases wd with
              | false =>
                go_wp2_with fail
                go_meet
                exact ⟨by simp, hbvb⟩
              | true =>
                go_wp2_with fail
                go_meet
                exact ⟨by simp, hbvb⟩
            case rest =>
            obtain ⟨rfl, hb8⟩ := hcut
            rename World => W8
            obtain ⟨q2, hq2⟩ : ∃ q : Bool, (wd && (tw == (k : Int))) = q := ⟨_, rfl⟩
            rw [hq2]
            have HSW : Hid (wroteAt (g.take (i + 1)) k = wroteAt (g.take i) k + (if q2 = true then 1 else 0)) := by rw [hSw.out, HWA.out, hq2]; exact rfl
            have hgi := HGI.out
            have cw : (wroteAt (g.take i) k : Int) ≤ 400 := by have := wrote_le (g := g) i k; omega
            have hz8 : W8.heap[wr.heap.size]? = some (.cells #[.int .i64 (crowdAt (g.take (i + 1)) 0 k), .int .i64 (crowdAt (g.take (i + 1)) 1 k), .int .i64 (crowdAt (g.take (i + 1)) 2 k), .int .i64 (crowdAt (g.take (i + 1)) 3 k)] 22 (0, 0)) := by rw [hb8.block _ (Array.getElem?_eq_some_iff.1 HZ7.out).1]; exact HZ7.out
            have hq8 : Below W0.heap.size W0 W8 := bCall HQ7.out hb8
            have HZ8 := hide hz8
            have HQ8 := hide hq8
            clear hq2 HWA hSw hz8 hq8 r0 r1 r2 r3 r4 x4
            cases q2 with
            | false =>
              have e1 : (wroteAt (g.take (i + 1)) k : Int) = wroteAt (g.take i) k := by rw [HSW.out]; simp
              have E1 := hide e1
              clear e1
              go_wp2
              go_roundg (g.length - (i + 1))
              case measure => omega
              case rel => exact ⟨i + 1, by omega, rfl, by go_num, by rw [E1.out], HZ8.out, HQ8.out⟩
            | true =>
              have e1 : (wroteAt (g.take (i + 1)) k : Int) = wroteAt (g.take i) k + 1 := by rw [HSW.out]; simp
              have E1 := hide e1
              clear e1
              go_wp2
              go_roundg (g.length - (i + 1))
              case measure => omega
              case rel => exact ⟨i + 1, by omega, rfl, by go_num, by rw [E1.out], HZ8.out, HQ8.out⟩
          · have hie : i = g.length := by omega
            subst hie
            rw [List.take_length] at hbz ⊢
            go_wp2
            go_meet
            exact ⟨rfl, hbz, hbq⟩
      case rest =>
        obtain ⟨rfl, hbz, hbx⟩ := hcut
        rename World => W2
        have hlw : w.heap.size < W2.heap.size := by have := hbx.size; have := HZ0.out; omega
        have kb : W2.cell? ⟨w.heap.size, 8, none⟩ = some (.int .i64 b) := by rw [cell_of_row _ _ _ _ _ _ (HR1.out W2 hbx)]; rfl
        have nb : ¬ (b < (wroteAt g k : Int)) := by have := HBU.out k hk1; omega
        have HGK := hide hgk
        have HHB := hide hbel
        clear hgk hbel
        go_wp2_with fail
        go_loopg [16] 4 (fun gq s16 wq => ∃ j : Nat, j ≤ 4 ∧ gq = 4 - j ∧ s16 = .int .i64 j ∧ wq.heap[wr.heap.size]? = some (.cells #[.int .i64 (crowdAt g 0 k), .int .i64 (crowdAt g 1 k), .int .i64 (crowdAt g 2 k), .int .i64 (crowdAt g 3 k)] 22 (0, 0)) ∧ Below W0.heap.size W0 wq)
        case atStart => exact ⟨0, Nat.zero_le _, rfl, rfl, hbz, hbx⟩
        case round =>
          clear kb hlw
          obtain ⟨j, hj4, hgj, rfl, hbj, hbq⟩ := hrel
          have HGJ := hide hgj
          have HBJ := hide hbj
          have HBQ := hide hbq
          rename World => W3
          have f0 : W3.cell? ⟨wr.heap.size, 0, none⟩ = some (.int .i64 (crowdAt g 0 k)) := by rw [cell_of_row _ _ _ _ _ _ hbj]; rfl
          have f1 : W3.cell? ⟨wr.heap.size, 1, none⟩ = some (.int .i64 (crowdAt g 1 k)) := by rw [cell_of_row _ _ _ _ _ _ hbj]; rfl
          have f2 : W3.cell? ⟨wr.heap.size, 2, none⟩ = some (.int .i64 (crowdAt g 2 k)) := by rw [cell_of_row _ _ _ _ _ _ hbj]; rfl
          have f3 : W3.cell? ⟨wr.heap.size, 3, none⟩ = some (.int .i64 (crowdAt g 3 k)) := by rw [cell_of_row _ _ _ _ _ _ hbj]; rfl
          have k0 : W3.cell? ⟨w.heap.size, 0, none⟩ = some (.int .i64 u0) := by rw [cell_of_row _ _ _ _ _ _ (HR1.out W3 hbq)]; rfl
          have k1 : W3.cell? ⟨w.heap.size, 1, none⟩ = some (.int .i64 u1) := by rw [cell_of_row _ _ _ _ _ _ (HR1.out W3 hbq)]; rfl
          have k2 : W3.cell? ⟨w.heap.size, 2, none⟩ = some (.int .i64 u2) := by rw [cell_of_row _ _ _ _ _ _ (HR1.out W3 hbq)]; rfl
          have k3 : W3.cell? ⟨w.heap.size, 3, none⟩ = some (.int .i64 u3) := by rw [cell_of_row _ _ _ _ _ _ (HR1.out W3 hbq)]; rfl
          have n0 : ¬ (u0 < (crowdAt g 0 k : Int)) := by have := HC0.out k; omega
          have n1 : ¬ (u1 < (crowdAt g 1 k : Int)) := by have := HC1.out k; omega
          have n2 : ¬ (u2 < (crowdAt g 2 k : Int)) := by have := HC2.out k; omega
          have n3 : ¬ (u3 < (crowdAt g 3 k : Int)) := by have := HC3.out k; omega
          generalize (crowdAt g 0 k : Int) = q0 at *
          generalize (crowdAt g 1 k : Int) = q1 at *
          generalize (crowdAt g 2 k : Int) = q2 at *
          generalize (crowdAt g 3 k : Int) = q3 at *
          clear hgj hbj hbq
          have hj : j = 0 ∨ j = 1 ∨ j = 2 ∨ j = 3 ∨ j = 4 := by omega
          rcases hj with rfl | rfl | rfl | rfl | rfl
          · go_wp2
            go_quiet (fail)
            go_wp2
            have hgj := HGJ.out
            go_roundg (4 - 1)
            case measure => omega
            case rel => exact ⟨1, by omega, rfl, rfl, HBJ.out, below_drewN HBQ.out _⟩
          · go_wp2
            go_quiet (fail)
            go_wp2
            have hgj := HGJ.out
            go_roundg (4 - 2)
            case measure => omega
            case rel => exact ⟨2, by omega, rfl, rfl, HBJ.out, below_drewN HBQ.out _⟩
          · go_wp2
            go_quiet (fail)
            go_wp2
            have hgj := HGJ.out
            go_roundg (4 - 3)
            case measure => omega
            case rel => exact ⟨3, by omega, rfl, rfl, HBJ.out, below_drewN HBQ.out _⟩
          · go_wp2
            go_quiet (fail)
            go_wp2
            have hgj := HGJ.out
            go_roundg (4 - 4)
            case measure => omega
            case rel => exact ⟨4, by omega, rfl, rfl, HBJ.out, below_drewN HBQ.out _⟩
          · go_wp2
            have hgk := HGK.out
            go_roundg (steps + 1 - (k + 1))
            case measure => omega
            case rel => exact ⟨k + 1, by omega, by omega, rfl, by go_num, HBQ.out⟩
    · have hke : ¬ ((k : Int) ≤ steps) := by omega
      clear hgk
      go_wp2
      go_ret
      exact ⟨rfl, bCall HB0.out hbel⟩

end Go.Proofs.Ytmeiogoodbnkkaa

/- What Legal asks of each order's row. -/
namespace Go.Proofs.Ytmeiogoodbnkkaa
open Go.RowKit

/-- What Legal asks of the row of one order. -/
structure LRow (prog : List Ord) (l : List Int) (n i : Nat) (t : Tk) : Prop where
  num : t.number < prog.length
  ord : t.o = prog.getD t.number Ord.none
  op0 : t.o.op ≠ 0
  is1 : 1 ≤ t.issue
  is2 : t.issue ≤ n
  rd2 : t.read ≤ n
  wr2 : t.write ≤ n
  jmp : t.o.op = 8 → t.read = t.issue ∧ t.done = t.issue ∧ t.write = t.issue
  kin : t.o.op ≠ 8 → kindOf t.o.op = 0 ∨ kindOf t.o.op = 1 ∨ kindOf t.o.op = 2 ∨ kindOf t.o.op = 3
  ris : ∀ (k : Nat), t.o.op ≠ 8 → kindOf t.o.op = k → k < 4 → ((t.read : Int) = 0 ∧ (t.done : Int) = 0 ∧ (t.write : Int) = 0) ∨ ((t.read : Int) ≠ 0 ∧ (t.issue : Int) < t.read ∧ (t.done : Int) = t.read + l.getD k 0 ∧ ((t.write : Int) = 0 ∨ (t.done : Int) < t.write))
  fst : i = 0 → t.number = 0

theorem LRow.of {prog : List Ord} {u l : List Int} {b : Int} {mem0 : List Int} {m : Mc} (h : Jv prog u l b mem0 m) (hp : isProg prog = true) (hc : Cfg u l b) {i : Nat} {t : Tk} (ht : m.given[i]? = some t) : LRow prog l m.cycle i t := by
  obtain ⟨p1, p2, p3⟩ := h.iv.path i t ht
  have hn : t.o = prog.getD t.number Ord.none := by rw [p1]; exact p2
  obtain ⟨q1, q2⟩ := prog_ord (n := t.number) hp (by rw [← hn]; exact p3)
  obtain ⟨i1, i2⟩ := h.iv.iss i t ht
  rw [← hn] at q2
  have q3 := isOrd_spec q2
  refine ⟨q1, hn, p3, i1, i2, ?_, ?_, fun h8 => ?_, fun h8 => ?_, fun k h8 hk hk4 => ?_, fun h0 => ?_⟩
  · by_cases h8 : t.o.op = 8
    · rw [(h.iv.jmp i t ht h8).1]; exact i2
    · by_cases h0 : t.read = 0
      · omega
      · exact (h.iv.rdn i t ht h8 h0).2.1
  · by_cases h8 : t.o.op = 8
    · rw [(h.iv.jmp i t ht h8).2.2.1]; exact i2
    · by_cases h0 : t.write = 0
      · omega
      · exact (h.iv.wri i t ht h8 h0).2.2.2
  · obtain ⟨a, b, c, _⟩ := h.iv.jmp i t ht h8
    exact ⟨a, b, c⟩
  · have : kindOf t.o.op ≠ -1 := by
      unfold kindOf
      split
      · decide
      · split
        · decide
        · split
          · decide
          · split
            · decide
            · omega
    unfold kindOf at this ⊢
    split
    · simp
    · split
      · simp
      · split
        · simp
        · split
          · simp
          · omega
  · by_cases h0 : t.read = 0
    · obtain ⟨a, b, _⟩ := h.iv.unr i t ht h0
      exact .inl ⟨by omega, by omega, by omega⟩
    · obtain ⟨a, b, c⟩ := h.iv.rdn i t ht h8 h0
      rw [hk, Int.toNat_natCast] at c
      have := (hc.la k hk4).1
      refine .inr ⟨by omega, by omega, by omega, ?_⟩
      by_cases h1 : t.write = 0
      · exact .inl (by omega)
      · exact .inr (by have := (h.iv.wri i t ht h8 h1).2.2.1; omega)
  · subst h0
    rw [p1]; rfl

/-- What comes next, in numbers. -/
theorem next_num {prog : List Ord} {u l : List Int} {b : Int} {mem0 : List Int} {m : Mc} (h : Jv prog u l b mem0 m) (hp : isProg prog = true) {i : Nat} {t s : Tk} (ht : m.given[i]? = some t) (hs : m.given[i + 1]? = some s) : (s.number : Int) = (t.number : Int) + 1 ∨ (t.o.op = 8 ∧ (s.number : Int) = t.o.k) := by
  rcases next_said h ht hs with e | ⟨e1, e2⟩
  · exact .inl (by omega)
  · obtain ⟨p1, p2, p3⟩ := h.iv.path i t ht
    obtain ⟨q1, q2⟩ := prog_ord hp (by rw [← p2]; exact p3)
    rw [← p2] at q2
    have := (isOrd_spec q2).2.2.2.2.2.2.2.2 e1
    exact .inr ⟨e1, by omega⟩

end Go.Proofs.Ytmeiogoodbnkkaa
