/- boardkeep.Legal. -/
import Derived.Test.YtmeiogoodbnkkaaCVJPR
import Derived.Test.YtmeiogoodbnkkaaCVG
import Derived.IntWalk
namespace Go.Proofs.Ytmeiogoodbnkkaa
open Go.RowKit

theorem ord_cells {w : World} {g : Nat} {prog : List Ord} (h : RdO w (some ⟨g, 0, none⟩) prog) {n : Nat} (hn : n < prog.length) : g < w.heap.size ∧
    w.cell? ⟨g, n * 5, none⟩ = some (.int .i64 (prog.getD n Ord.none).op) ∧ w.cell? ⟨g, n * 5 + 1, none⟩ = some (.int .i64 (prog.getD n Ord.none).d) ∧ w.cell? ⟨g, n * 5 + 2, none⟩ = some (.int .i64 (prog.getD n Ord.none).a) ∧ w.cell? ⟨g, n * 5 + 3, none⟩ = some (.int .i64 (prog.getD n Ord.none).b) ∧ w.cell? ⟨g, n * 5 + 4, none⟩ = some (.int .i64 (prog.getD n Ord.none).k) := by
  obtain ⟨bp, off, e, h0, h1, h2, h3, h4, h5⟩ := h.at hn
  injection e with e
  injection e with e1 e2 _
  subst e1
  subst e2
  rw [Nat.zero_add] at h1 h2 h3 h4 h5
  exact ⟨h0, h1, h2, h3, h4, h5⟩

theorem TmR.alloc {w : World} {B : Nat} {pt : Option Addr} {g : List Tk} (h : TmR w B pt g) (x : Obj) : TmR (w.alloc x) B pt g := h.below (bAl (Below.refl _ _) _)

theorem TmR.zero {w : World} {B : Nat} {pt : Option Addr} {g : List Tk} (h : TmR w B pt g) : TmR w 0 pt g := by
  rcases h with h | ⟨b, rfl, _, hlt, h⟩
  · exact .inl h
  · exact .inr ⟨b, rfl, Nat.zero_le _, hlt, h⟩

theorem TmR.set {w : World} {B N j : Nat} {pt : Option Addr} {g : List Tk} (h : TmR w B pt g) (v : Value) (hN : N < B ∨ ∀ b, pt = some ⟨b, 0, none⟩ → b ≠ N) : TmR (w.setCell ⟨N, j, none⟩ v) B pt g := by
  rcases h with h | ⟨b, rfl, hB, hlt, h⟩
  · exact .inl h
  · have hne : N ≠ b := by
      rcases hN with hN | hN
      · omega
      · exact fun e => hN b rfl e.symm
    refine .inr ⟨b, rfl, hB, by simpa using hlt, fun i hi j' hj => ?_⟩
    rw [← h i hi j' hj]
    exact World.cell?_of_block (Below.heap_setCell _ _ _ _ (fun e => hne e.symm))

set_option maxRecDepth 100000 in
set_option maxHeartbeats 8000000 in
theorem legal_law (u0 u1 u2 u3 l0 l1 l2 l3 b : Int) (hu : In64 u0 ∧ In64 u1 ∧ In64 u2 ∧ In64 u3 ∧ In64 l0 ∧ In64 l1 ∧ In64 l2 ∧ In64 l3 ∧ In64 b)
    (p pm : Option Addr) (c cm : Nat) (raw : List Ord) (mem : List Int) (few : Int) (hfew : In64 few) (w : World) (hp : RdO w p raw) (hin : ∀ j, j < raw.length → In64O (raw.getD j Ord.none)) (hlen : (raw.length : Int) ≤ 1000000000000000) (hm : Rd w pm mem) (hlm : (mem.length : Int) ≤ 1000000000000000) (hcm : mem.length ≤ cm) :
    Calls Try.prog 6 #[.agg #[.int .i64 u0, .int .i64 u1, .int .i64 u2, .int .i64 u3, .int .i64 l0, .int .i64 l1, .int .i64 l2, .int .i64 l3, .int .i64 b], .slice p raw.length c, .slice pm mem.length cm, .int .i64 few] w fun e w' => e = .returned (.bool true) ∧ Below w.heap.size w w' := by
  obtain ⟨n, hn⟩ : ∃ n : Nat, 1 + pk few 400 = n := ⟨(1 + pk few 400).toNat, by have := pk_in (c := few) (n := 400) (by omega); omega⟩
  have hn1 : 1 ≤ n ∧ n ≤ 400 := by have := pk_in (c := few) (n := 400) (by omega); omega
  have HPK1 : Hid (∀ W, Calls Try.prog 16 #[.int .i64 few, .int .i64 400] W fun e w' => e = .returned (.int .i64 (n - 1)) ∧ w' = W) := fun W => (pick_any few 400 hfew (by omega) (by omega) W).mono fun e w' h => ⟨by rw [h.1]; congr 2; omega, h.2⟩
  clear hn hfew
  have HP := hide hp
  have HIN := hide hin
  have HM := hide hm
  have HLEN := hide hlen
  have HLM := hide hlm
  have HCM := hide hcm
  have HC1 := hide (fun W => config_any u0 u1 u2 u3 l0 l1 l2 l3 b hu.1 hu.2.1 hu.2.2.1 hu.2.2.2.1 hu.2.2.2.2.1 hu.2.2.2.2.2.1 hu.2.2.2.2.2.2.1 hu.2.2.2.2.2.2.2.1 hu.2.2.2.2.2.2.2.2 W)
  have hG1 := cfg_ok u0 u1 u2 l0 l1 l2 l3 b
  have hF1 := cfg_fit u0 u1 u2 l0 l1 l2 l3 b
  clear hp hin hm hlen hlm hcm hu
  generalize 1 + pk u0 3 = y0 at *
  generalize 1 + pk u1 3 = y1 at *
  generalize 1 + pk u2 3 = y2 at *
  generalize 1 + pk l0 12 = y4 at *
  generalize 1 + pk l1 12 = y5 at *
  generalize 1 + pk l2 12 = y6 at *
  generalize 1 + pk l3 12 = y7 at *
  generalize 1 + pk b 3 = y8 at *
  have HG1 := hide hG1
  have HF1 := hide hF1
  clear hG1 hF1
  obtain ⟨mt, hmt⟩ : ∃ mt, mt = mem.take 16 := ⟨_, rfl⟩
  have hmt16 : mt.length ≤ 16 := by rw [hmt]; simp; omega
  have HMT := hide hmt
  have HMT16 := hide hmt16
  clear hmt hmt16
  obtain ⟨W0, hW0⟩ : ∃ W0, w.alloc (.cells #[.int .i64 u0, .int .i64 u1, .int .i64 u2, .int .i64 u3, .int .i64 l0, .int .i64 l1, .int .i64 l2, .int .i64 l3, .int .i64 b] 24) = W0 := ⟨_, rfl⟩
  have hb0 : Below w.heap.size w W0 := by rw [← hW0]; exact bAl (Below.refl _ _) _
  have hz0 : W0.heap.size = w.heap.size + 1 := by rw [← hW0]; simp
  have hr1 := cfg_rules (show W0.heap[w.heap.size]? = _ by rw [← hW0]; exact hNew rfl)
  have HB0 := hide hb0
  have HR1 := hide hr1
  have k0 : ∀ w', Below W0.heap.size W0 w' → w'.cell? ⟨w.heap.size, 0, none⟩ = some (.int .i64 u0) := fun w' h => by rw [cell_of_row _ _ _ _ _ _ (HR1.out w' h)]; rfl
  have k1 : ∀ w', Below W0.heap.size W0 w' → w'.cell? ⟨w.heap.size, 1, none⟩ = some (.int .i64 u1) := fun w' h => by rw [cell_of_row _ _ _ _ _ _ (HR1.out w' h)]; rfl
  have k2 : ∀ w', Below W0.heap.size W0 w' → w'.cell? ⟨w.heap.size, 2, none⟩ = some (.int .i64 u2) := fun w' h => by rw [cell_of_row _ _ _ _ _ _ (HR1.out w' h)]; rfl
  have k3 : ∀ w', Below W0.heap.size W0 w' → w'.cell? ⟨w.heap.size, 3, none⟩ = some (.int .i64 u3) := fun w' h => by rw [cell_of_row _ _ _ _ _ _ (HR1.out w' h)]; rfl
  have k4 : ∀ w', Below W0.heap.size W0 w' → w'.cell? ⟨w.heap.size, 4, none⟩ = some (.int .i64 l0) := fun w' h => by rw [cell_of_row _ _ _ _ _ _ (HR1.out w' h)]; rfl
  have k5 : ∀ w', Below W0.heap.size W0 w' → w'.cell? ⟨w.heap.size, 5, none⟩ = some (.int .i64 l1) := fun w' h => by rw [cell_of_row _ _ _ _ _ _ (HR1.out w' h)]; rfl
  have k6 : ∀ w', Below W0.heap.size W0 w' → w'.cell? ⟨w.heap.size, 6, none⟩ = some (.int .i64 l2) := fun w' h => by rw [cell_of_row _ _ _ _ _ _ (HR1.out w' h)]; rfl
  have k7 : ∀ w', Below W0.heap.size W0 w' → w'.cell? ⟨w.heap.size, 7, none⟩ = some (.int .i64 l3) := fun w' h => by rw [cell_of_row _ _ _ _ _ _ (HR1.out w' h)]; rfl
  have k8 : ∀ w', Below W0.heap.size W0 w' → w'.cell? ⟨w.heap.size, 8, none⟩ = some (.int .i64 b) := fun w' h => by rw [cell_of_row _ _ _ _ _ _ (HR1.out w' h)]; rfl
  have HPR : Hid (∀ W, Below w.heap.size w W → Calls Try.prog 11 #[.slice p raw.length c] W fun e w' => ∃ g n cap prog, e = .returned (.slice (some ⟨g, 0, none⟩) n cap) ∧ prog.length = n ∧ isProg prog = true ∧ RdO w' (some ⟨g, 0, none⟩) prog ∧ W.heap.size ≤ g ∧ Below W.heap.size W w') := fun W h => program_any p c raw W (HP.out.below (Nat.le_refl _) h) HIN.out HLEN.out
  have HME : Hid (∀ W, Calls Try.prog 12 #[.slice pm mem.length cm] W fun e w' => e = .returned (.slice pm mt.length cm) ∧ w' = W) := fun W => memory_any pm cm mem W HLM.out HCM.out mt HMT.out
  have HZ0 := hide hz0
  clear hb0 hr1 hz0
  go_enter Try.func6, Try.ntmps6
  go_upto_region 1 with fail
  clear hW0
  have hrb : Below W0.heap.size W0 W0 := Below.refl _ _
  go_upto_region 4 with (first | (go_at_call 9; refine (ran_any _).mono ?_; rintro e wa ⟨rfl, hba⟩; have hBa : Below W0.heap.size W0 wa := hba) | (go_at_call 10; refine (HC1.out _).mono ?_; rintro e wc ⟨rfl, hbc⟩; have hBc : Below W0.heap.size W0 wc := (bCall (by (repeat (first | with_reducible assumption | with_reducible exact Below.refl _ _ | with_reducible refine bAl ?_ _))) hbc)) | (go_at_call 11; refine (HPR.out _ (bCall HB0.out (by (repeat (first | with_reducible assumption | with_reducible exact Below.refl _ _ | with_reducible refine bAl ?_ _))))).mono ?_; rintro e wb ⟨g, n, cap, prog, rfl, hpl, hprog, hrd, hgg, hbb⟩))
  subst hpl
  have hcz : (wc.alloc (.cells #[.int .i64 y0, .int .i64 y1, .int .i64 y2, .int .i64 1, .int .i64 y4, .int .i64 y5, .int .i64 y6, .int .i64 y7, .int .i64 y8] 24)).heap[wc.heap.size]? = some (.cells #[.int .i64 y0, .int .i64 y1, .int .i64 y2, .int .i64 1, .int .i64 y4, .int .i64 y5, .int .i64 y6, .int .i64 y7, .int .i64 y8] 24 (0, 0)) := heap_alloc_new _ _
  have hBb : Below W0.heap.size W0 wb := bCall (bAl hBc _) hbb
  have HBb := hide hBb
  have hC : wb.heap[wc.heap.size]? = some (.cells #[.int .i64 y0, .int .i64 y1, .int .i64 y2, .int .i64 1, .int .i64 y4, .int .i64 y5, .int .i64 y6, .int .i64 y7, .int .i64 y8] 24 (0, 0)) := by rw [hbb.block _ (by simp)]; exact hcz
  have hlC : wc.heap.size < wb.heap.size := (Array.getElem?_eq_some_iff.1 hC).1
  generalize wc.heap.size = C at *
  have HRM : Hid (∀ W, Below wb.heap.size wb W → Rd W pm mt) := fun W h => by rw [HMT.out]; exact (HM.out.below (Nat.le_refl _) (bCall HB0.out (bCall HBb.out h))).cut 16
  have HRP : Hid (∀ W, Below wb.heap.size wb W → RdO W (some ⟨g, 0, none⟩) prog) := fun W h => hrd.below (Nat.le_refl _) h
  have q0 : ∀ w', Below wb.heap.size wb w' → w'.cell? ⟨C, 0, none⟩ = some (.int .i64 y0) := fun w' h => by rw [h.cell (p := ⟨C, 0, none⟩) hlC, cell_of_row _ _ _ _ _ _ hC]; rfl
  have q1 : ∀ w', Below wb.heap.size wb w' → w'.cell? ⟨C, 1, none⟩ = some (.int .i64 y1) := fun w' h => by rw [h.cell (p := ⟨C, 1, none⟩) hlC, cell_of_row _ _ _ _ _ _ hC]; rfl
  have q2 : ∀ w', Below wb.heap.size wb w' → w'.cell? ⟨C, 2, none⟩ = some (.int .i64 y2) := fun w' h => by rw [h.cell (p := ⟨C, 2, none⟩) hlC, cell_of_row _ _ _ _ _ _ hC]; rfl
  have q3 : ∀ w', Below wb.heap.size wb w' → w'.cell? ⟨C, 3, none⟩ = some (.int .i64 1) := fun w' h => by rw [h.cell (p := ⟨C, 3, none⟩) hlC, cell_of_row _ _ _ _ _ _ hC]; rfl
  have q4 : ∀ w', Below wb.heap.size wb w' → w'.cell? ⟨C, 4, none⟩ = some (.int .i64 y4) := fun w' h => by rw [h.cell (p := ⟨C, 4, none⟩) hlC, cell_of_row _ _ _ _ _ _ hC]; rfl
  have q5 : ∀ w', Below wb.heap.size wb w' → w'.cell? ⟨C, 5, none⟩ = some (.int .i64 y5) := fun w' h => by rw [h.cell (p := ⟨C, 5, none⟩) hlC, cell_of_row _ _ _ _ _ _ hC]; rfl
  have q6 : ∀ w', Below wb.heap.size wb w' → w'.cell? ⟨C, 6, none⟩ = some (.int .i64 y6) := fun w' h => by rw [h.cell (p := ⟨C, 6, none⟩) hlC, cell_of_row _ _ _ _ _ _ hC]; rfl
  have q7 : ∀ w', Below wb.heap.size wb w' → w'.cell? ⟨C, 7, none⟩ = some (.int .i64 y7) := fun w' h => by rw [h.cell (p := ⟨C, 7, none⟩) hlC, cell_of_row _ _ _ _ _ _ hC]; rfl
  have q8 : ∀ w', Below wb.heap.size wb w' → w'.cell? ⟨C, 8, none⟩ = some (.int .i64 y8) := fun w' h => by rw [h.cell (p := ⟨C, 8, none⟩) hlC, cell_of_row _ _ _ _ _ _ hC]; rfl
  have hW : Below w.heap.size w wb := bCall HB0.out hBb
  have HW := hide hW
  have HPG := hide hprog
  clear hBb hW hcz hC hbb hBc hbc hBa hba hrd hgg hrb hprog HC1 HPR HM HP HIN HLEN HLM HMT HCM k0 k1 k2 k3 k4 k5 k6 k7 k8
  have hrb : Below wb.heap.size wb wb := Below.refl _ _
  obtain ⟨r, hr⟩ : ∃ r, r = runM [y0, y1, y2, 1] [y4, y5, y6, y7] y8 prog mt n := ⟨_, rfl⟩
  have HX1 : Hid (∀ W, Below wb.heap.size wb W → Calls Try.prog 13 #[.agg #[.int .i64 y0, .int .i64 y1, .int .i64 y2, .int .i64 1, .int .i64 y4, .int .i64 y5, .int .i64 y6, .int .i64 y7, .int .i64 y8], .slice (some ⟨g, 0, none⟩) prog.length cap, .slice pm mt.length cm, .int .i64 n] W fun e w' => ∃ x0 x1 x2 x3 x4 x5 x6 x7 pp cc pt ct, e = .returned (.tuple #[.agg #[.int .i64 x0, .int .i64 x1, .int .i64 x2, .int .i64 x3, .int .i64 x4, .int .i64 x5, .int .i64 x6, .int .i64 x7, .slice pp r.mem.length cc, .int .i64 r.next, .int .i64 r.stop, .int .i64 r.trap, .int .i64 r.steps], .slice pt r.given.length ct, .int .i64 0]) ∧ r.regs = [x0, x1, x2, x3, x4, x5, x6, x7] ∧ Below W.heap.size W w' ∧ Rd w' pp r.mem ∧ TmR w' W.heap.size pt r.given) := fun W h =>
    run_good y0 y1 y2 1 y4 y5 y6 y7 y8 _ pm cap cm prog mt n W (HRP.out W h) (HRM.out W h) HPG.out HMT16.out hn1.1 hn1.2 HF1.out r hr
  obtain ⟨N, m, hJ, hU, hcyc, hgv, hst, hle, hNn⟩ := legal_pure HG1.out HPG.out mt n hn1.1
  rw [← hr] at hgv hst
  have HLR : Hid (∀ (i : Nat) (t : Tk), m.given[i]? = some t → LRow prog [y4, y5, y6, y7] N i t) := fun i t ht => by rw [← hcyc]; exact LRow.of hJ HPG.out HG1.out ht
  have HPS : Hid (∀ (i j : Nat) (t s : Tk), i < j → m.given[i]? = some t → m.given[j]? = some s → _) := fun i j t s hij ht hs => pair_said hJ hij ht hs
  have HNX : Hid (∀ (i : Nat) (t s : Tk), m.given[i]? = some t → m.given[i + 1]? = some s → _) := fun i t s ht hs => next_num hJ HPG.out ht hs
  have HCR : Hid ((∀ k, (crowdAt m.given 0 k : Int) ≤ y0) ∧ (∀ k, (crowdAt m.given 1 k : Int) ≤ y1) ∧ (∀ k, (crowdAt m.given 2 k : Int) ≤ y2) ∧ (∀ k, (crowdAt m.given 3 k : Int) ≤ 1) ∧ ∀ k, 1 ≤ k → (wroteAt m.given k : Int) ≤ y8) := by
    have hun := HG1.out.un
    refine ⟨fun k => ?_, fun k => ?_, fun k => ?_, fun k => ?_, hU.bu⟩
    · exact crowd_ok hU hJ (kind := 0) (by omega) (by have := hun 0 (by omega); exact Int.le_trans (by omega) this) k
    · exact crowd_ok hU hJ (kind := 1) (by omega) (by have := hun 1 (by omega); exact Int.le_trans (by omega) this) k
    · exact crowd_ok hU hJ (kind := 2) (by omega) (by have := hun 2 (by omega); exact Int.le_trans (by omega) this) k
    · exact crowd_ok hU hJ (kind := 3) (by omega) (by have := hun 3 (by omega); exact Int.le_trans (by omega) this) k
  have HLA : Hid (y4 ≤ 12 ∧ y5 ≤ 12 ∧ y6 ≤ 12 ∧ y7 ≤ 12 ∧ 1 ≤ y4 ∧ 1 ≤ y5 ∧ 1 ≤ y6 ∧ 1 ≤ y7) := ⟨(HG1.out.la 0 (by omega)).2, (HG1.out.la 1 (by omega)).2, (HG1.out.la 2 (by omega)).2, (HG1.out.la 3 (by omega)).2, (HG1.out.la 0 (by omega)).1, (HG1.out.la 1 (by omega)).1, (HG1.out.la 2 (by omega)).1, (HG1.out.la 3 (by omega)).1⟩
  have HPL : Hid (prog.length ≤ 40) := (isProg_spec HPG.out).1.2
  rw [← hgv] at HLR HPS HNX HCR hle
  have HST := hide hst
  clear hr hJ hU hcyc hgv hst HRM HF1 HG1 HPG
  generalize r.given = G at *
  have hn1a : (1 : Int) ≤ n := by omega
  have hn1b : (n : Int) ≤ 400 := by omega
  have hN : N ≤ 400 := by omega
  have hleI : (G.length : Int) ≤ N := by omega
  have ee1 : (1 : Int) + ((n : Int) - 1) = n := by omega
  clear hn1 hNn
  rw [HST.out] at HX1
  go_upto_region 4 with fail
  have HWN : Hid (IntKind.i64.wrap (n : Int) = n) := IntWalk.i64_in _ (by omega)
  have HS0 : Hid (Below wb.heap.size wb wb.drew) := (Below.refl _ _).drew
  go_cut [12, 13, 14] from 27 to 38 (fun s12 s13 s14 wx => s14 = .int .i64 0 ∧ ∃ S1 pt ct, s12 = .pointer (some ⟨S1, 0, none⟩) ∧ s13 = .slice pt G.length ct ∧ S1 < wx.heap.size ∧ wx.cell? ⟨S1, 12, none⟩ = some (.int .i64 N) ∧ TmR wx 0 pt G ∧ Below wb.heap.size wb wx)
  case first =>
    go_region_held3 (fun w' => Below wb.heap.size wb w') (first | with_reducible assumption | with_reducible exact HS0.out | with_reducible exact HS1.out | (with_reducible refine Below.drew ?_; (repeat (with_reducible refine bAl ?_ _)); exact Below.refl _ _) | (with_reducible refine bAl ?_ _; with_reducible exact HS1.out) | ((repeat' (with_reducible refine bSet ?_ ?_ _)) <;> (first | with_reducible exact HS1.out | omega)) | fail) (first | (go_at_call 12; with_reducible refine (HME.out _).mono ?_; rintro e W' ⟨rfl, hW'⟩; have hW'' := hW'.symm; clear hW'; subst hW'') | (go_at_call 16; with_reducible refine (HPK1.out _).mono ?_; rintro e W' ⟨rfl, hW'⟩; have hW'' := hW'.symm; clear hW'; subst hW'') | (go_at_call 13; rw [HWN.out]; with_reducible refine (HX1.out _ (by (repeat (first | with_reducible assumption | with_reducible exact Below.refl _ _ | with_reducible refine bAl ?_ _ | with_reducible refine Below.drew ?_)))).mono ?_; rintro e w1 ⟨x0, x1, x2, x3, x4, x5, x6, x7, pp, cc, pt, ct, rfl, hx, hb1, hrd1, htm1⟩; obtain ⟨hc1, hf1⟩ := bcell hb1; have hz1 := hb1.size; simp at hz1; have HS1 : Hid (Below wb.heap.size wb w1) := (hide (bCall (w := wb) (by (repeat (first | with_reducible assumption | with_reducible exact Below.refl _ _ | with_reducible refine bAl ?_ _ | with_reducible refine Below.drew ?_))) hb1))))
    all_goals go_wp2
    all_goals go_meet
    all_goals refine ⟨rfl, _, pt, ct, rfl, rfl, ?_, ?_, ?_, ?_⟩
    · simp
    · rw [cell_of_row _ _ _ _ _ _ (hNew rfl)]; rfl
    · exact (htm1.alloc _).zero
    · exact bAl HS1.out _
    · simp; omega
    · simp [go_sem, hc1]
    · have h2 : TmR w1 (wb.heap.size + 1) pt G := by simpa using htm1
      refine TmR.zero (B := wb.heap.size + 1) ?_
      (repeat (with_reducible refine TmR.set ?_ _ (.inl (by omega))))
      exact h2
    · with_reducible assumption
    · simp; omega
    · simp [go_sem, hc1]
    · have h2 : TmR w1 (wb.heap.size + 1) pt G := by simpa using htm1
      refine TmR.zero (B := wb.heap.size + 1) ?_
      (repeat (with_reducible refine TmR.set ?_ _ (.inl (by omega))))
      exact h2
    · with_reducible assumption
    · simp; omega
    · simp [go_sem, hc1]
    · have h2 : TmR w1 (wb.heap.size + 1) pt G := by simpa using htm1
      refine TmR.zero (B := wb.heap.size + 1) ?_
      (repeat (with_reducible refine TmR.set ?_ _ (.inl (by omega))))
      exact h2
    · with_reducible assumption
  case rest =>
  obtain ⟨rfl, S1, pt, ct, rfl, rfl, hs1, hc12, htm, hbx⟩ := hcut
  rename World => W1
  have HTM := hide htm
  have HBX := hide hbx
  have HFIN : Hid (Below w.heap.size w W1) := bCall HW.out hbx
  have sN : ∀ w', Below W1.heap.size W1 w' → w'.cell? ⟨S1, 12, none⟩ = some (.int .i64 N) := fun w' h => by rw [h.cell (p := ⟨S1, 12, none⟩) hs1]; exact hc12
  have c0 : ∀ w', Below W1.heap.size W1 w' → w'.cell? ⟨C, 0, none⟩ = some (.int .i64 y0) := fun w' h => q0 w' (bCall HBX.out h)
  have c1 : ∀ w', Below W1.heap.size W1 w' → w'.cell? ⟨C, 1, none⟩ = some (.int .i64 y1) := fun w' h => q1 w' (bCall HBX.out h)
  have c2 : ∀ w', Below W1.heap.size W1 w' → w'.cell? ⟨C, 2, none⟩ = some (.int .i64 y2) := fun w' h => q2 w' (bCall HBX.out h)
  have c3 : ∀ w', Below W1.heap.size W1 w' → w'.cell? ⟨C, 3, none⟩ = some (.int .i64 1) := fun w' h => q3 w' (bCall HBX.out h)
  have c4 : ∀ w', Below W1.heap.size W1 w' → w'.cell? ⟨C, 4, none⟩ = some (.int .i64 y4) := fun w' h => q4 w' (bCall HBX.out h)
  have c5 : ∀ w', Below W1.heap.size W1 w' → w'.cell? ⟨C, 5, none⟩ = some (.int .i64 y5) := fun w' h => q5 w' (bCall HBX.out h)
  have c6 : ∀ w', Below W1.heap.size W1 w' → w'.cell? ⟨C, 6, none⟩ = some (.int .i64 y6) := fun w' h => q6 w' (bCall HBX.out h)
  have c7 : ∀ w', Below W1.heap.size W1 w' → w'.cell? ⟨C, 7, none⟩ = some (.int .i64 y7) := fun w' h => q7 w' (bCall HBX.out h)
  have c8 : ∀ w', Below W1.heap.size W1 w' → w'.cell? ⟨C, 8, none⟩ = some (.int .i64 y8) := fun w' h => q8 w' (bCall HBX.out h)
  have HRQ : Hid (∀ W, Below W1.heap.size W1 W → RdO W (some ⟨g, 0, none⟩) prog) := fun W h => HRP.out W (bCall HBX.out h)
  have hlC1 : C < W1.heap.size := Nat.lt_of_lt_of_le hlC hbx.size
  have hrb1 : Below W1.heap.size W1 W1 := Below.refl _ _
  clear htm hbx hc12 q0 q1 q2 q3 q4 q5 q6 q7 q8 hrb hlC HRP HX1 HWN HS0 HPK1 HME ee1 HST HBb
  have hdl : decide (N < G.length) = false := decide_eq_false (by omega)
  go_upto_region 7 with fail
  clear hdl
  go_wp2_with fail
  go_loopg [15] G.length (fun gq s15 wx => ∃ i : Nat, i ≤ G.length ∧ gq = G.length - i ∧ s15 = .int .i64 i ∧ Below W1.heap.size W1 wx)
  case atStart => exact ⟨0, Nat.zero_le _, rfl, rfl, Below.refl _ _⟩
  case round =>
    obtain ⟨i, hi1, hgi, rfl, hbr⟩ := hrel
    rename World => V0
    rcases Nat.lt_or_ge i G.length with hil | hil
    · obtain ⟨t, ht⟩ : ∃ t, G[i]? = some t := ⟨_, List.getElem?_eq_getElem hil⟩
      have HL := hide (HLR.out i t ht)
      obtain ⟨bt, rfl, hbt, k0, k1, k2, k3, k4⟩ := HTM.out.cells ht
      obtain ⟨hbp, p0, p1, p2, p3, p4⟩ := ord_cells (HRQ.out W1 hrb1) HL.out.num
      rw [← HL.out.ord] at p0 p1 p2 p3 p4
      have o0 : ∀ w', Below W1.heap.size W1 w' → w'.cell? ⟨g, t.number * 5, none⟩ = some (.int .i64 t.o.op) := fun w' h => by rw [h.cell (p := ⟨g, t.number * 5, none⟩) hbp]; exact p0
      have o1 : ∀ w', Below W1.heap.size W1 w' → w'.cell? ⟨g, t.number * 5 + 1, none⟩ = some (.int .i64 t.o.d) := fun w' h => by rw [h.cell (p := ⟨g, t.number * 5 + 1, none⟩) hbp]; exact p1
      have o2 : ∀ w', Below W1.heap.size W1 w' → w'.cell? ⟨g, t.number * 5 + 2, none⟩ = some (.int .i64 t.o.a) := fun w' h => by rw [h.cell (p := ⟨g, t.number * 5 + 2, none⟩) hbp]; exact p2
      have o3 : ∀ w', Below W1.heap.size W1 w' → w'.cell? ⟨g, t.number * 5 + 3, none⟩ = some (.int .i64 t.o.b) := fun w' h => by rw [h.cell (p := ⟨g, t.number * 5 + 3, none⟩) hbp]; exact p3
      have o4 : ∀ w', Below W1.heap.size W1 w' → w'.cell? ⟨g, t.number * 5 + 4, none⟩ = some (.int .i64 t.o.k) := fun w' h => by rw [h.cell (p := ⟨g, t.number * 5 + 4, none⟩) hbp]; exact p4
      have m0 : V0.cell? ⟨bt, i * 5, none⟩ = some (.int .i64 t.number) := by rw [hbr.cell (p := ⟨bt, i * 5, none⟩) hbt]; exact k0
      have m1 : V0.cell? ⟨bt, i * 5 + 1, none⟩ = some (.int .i64 t.issue) := by rw [hbr.cell (p := ⟨bt, i * 5 + 1, none⟩) hbt]; exact k1
      have m2 : V0.cell? ⟨bt, i * 5 + 2, none⟩ = some (.int .i64 t.read) := by rw [hbr.cell (p := ⟨bt, i * 5 + 2, none⟩) hbt]; exact k2
      have m3 : V0.cell? ⟨bt, i * 5 + 3, none⟩ = some (.int .i64 t.done) := by rw [hbr.cell (p := ⟨bt, i * 5 + 3, none⟩) hbt]; exact k3
      have m4 : V0.cell? ⟨bt, i * 5 + 4, none⟩ = some (.int .i64 t.write) := by rw [hbr.cell (p := ⟨bt, i * 5 + 4, none⟩) hbt]; exact k4
      have hiI : (i : Int) < (G.length : Int) := by omega
      have hnI : (t.number : Int) < (prog.length : Int) := by have := HL.out.num; omega
      have hbt0 : bt < V0.heap.size := Nat.lt_of_lt_of_le hbt hbr.size
      have HGI := hide hgi
      have HT := hide ht
      clear hgi ht k0 k1 k2 k3 k4 p0 p1 p2 p3 p4
      go_upto_region 11 with fail
      clear m0 m1 m2 m3 m4
      obtain ⟨V1, hV1⟩ : ∃ V1, V0.alloc (.cells #[.int .i64 t.number, .int .i64 t.issue, .int .i64 t.read, .int .i64 t.done, .int .i64 t.write] 47) = V1 := ⟨_, rfl⟩
      rw [hV1]
      have g1 : V1.heap[V0.heap.size]? = some (.cells #[.int .i64 t.number, .int .i64 t.issue, .int .i64 t.read, .int .i64 t.done, .int .i64 t.write] 47 (0, 0)) := by rw [← hV1]; exact heap_alloc_new _ _
      have hW1 : Below W1.heap.size W1 V1 := by rw [← hV1]; exact bAl hbr _
      have hl1 : V0.heap.size < V1.heap.size := (Array.getElem?_eq_some_iff.1 g1).1
      generalize V0.heap.size = T at *
      clear hV1 hbt0 hbr
      have hsV1 : S1 < V1.heap.size := Nat.lt_of_lt_of_le hs1 hW1.size
      have hpV1 : g < V1.heap.size := Nat.lt_of_lt_of_le hbp hW1.size
      have m0 : ∀ w', Below V1.heap.size V1 w' → w'.cell? ⟨T, 0, none⟩ = some (.int .i64 t.number) := fun w' h => by rw [h.cell (p := ⟨T, 0, none⟩) hl1, cell_of_row _ _ _ _ _ _ g1]; rfl
      have m1 : ∀ w', Below V1.heap.size V1 w' → w'.cell? ⟨T, 1, none⟩ = some (.int .i64 t.issue) := fun w' h => by rw [h.cell (p := ⟨T, 1, none⟩) hl1, cell_of_row _ _ _ _ _ _ g1]; rfl
      have m2 : ∀ w', Below V1.heap.size V1 w' → w'.cell? ⟨T, 2, none⟩ = some (.int .i64 t.read) := fun w' h => by rw [h.cell (p := ⟨T, 2, none⟩) hl1, cell_of_row _ _ _ _ _ _ g1]; rfl
      have m3 : ∀ w', Below V1.heap.size V1 w' → w'.cell? ⟨T, 3, none⟩ = some (.int .i64 t.done) := fun w' h => by rw [h.cell (p := ⟨T, 3, none⟩) hl1, cell_of_row _ _ _ _ _ _ g1]; rfl
      have m4 : ∀ w', Below V1.heap.size V1 w' → w'.cell? ⟨T, 4, none⟩ = some (.int .i64 t.write) := fun w' h => by rw [h.cell (p := ⟨T, 4, none⟩) hl1, cell_of_row _ _ _ _ _ _ g1]; rfl
      have hrv1 : Below V1.heap.size V1 V1 := Below.refl _ _
      have a2 : ¬ ((prog.length : Int) ≤ t.number) := by omega
      have a3 : ¬ ((t.issue : Int) < 1) := by have := HL.out.is1; omega
      have a4 : ¬ ((N : Int) < t.issue) := by have := HL.out.is2; omega
      have a5 : ¬ ((N : Int) < t.read) := by have := HL.out.rd2; omega
      have a6 : ¬ ((N : Int) < t.write) := by have := HL.out.wr2; omega
      have b0 : (t.o.op == 0) = false := by have := HL.out.op0; simp [this]
      go_upto_region 13 with fail
      go_upto_region 14 with fail
      obtain ⟨V2, hV2⟩ : ∃ V2, V1.alloc (.cells #[.int .i64 t.o.op, .int .i64 t.o.d, .int .i64 t.o.a, .int .i64 t.o.b, .int .i64 t.o.k] 49) = V2 := ⟨_, rfl⟩
      rw [hV2]
      have g2 : V2.heap[V1.heap.size]? = some (.cells #[.int .i64 t.o.op, .int .i64 t.o.d, .int .i64 t.o.a, .int .i64 t.o.b, .int .i64 t.o.k] 49 (0, 0)) := by rw [← hV2]; exact heap_alloc_new _ _
      have hV12 : Below V1.heap.size V1 V2 := by rw [← hV2]; exact bAl (Below.refl _ _) _
      have hl2 : V1.heap.size < V2.heap.size := (Array.getElem?_eq_some_iff.1 g2).1
      have hW2 : Below W1.heap.size W1 V2 := bCall hW1 hV12
      have HW12 : Hid (∀ w', Below V2.heap.size V2 w' → Below W1.heap.size W1 w') := fun w' h => bCall hW2 h
      have n0 : ∀ w', Below V2.heap.size V2 w' → w'.cell? ⟨T, 0, none⟩ = some (.int .i64 t.number) := fun w' h => m0 w' (bCall hV12 h)
      have n1 : ∀ w', Below V2.heap.size V2 w' → w'.cell? ⟨T, 1, none⟩ = some (.int .i64 t.issue) := fun w' h => m1 w' (bCall hV12 h)
      have n2 : ∀ w', Below V2.heap.size V2 w' → w'.cell? ⟨T, 2, none⟩ = some (.int .i64 t.read) := fun w' h => m2 w' (bCall hV12 h)
      have n3 : ∀ w', Below V2.heap.size V2 w' → w'.cell? ⟨T, 3, none⟩ = some (.int .i64 t.done) := fun w' h => m3 w' (bCall hV12 h)
      have n4 : ∀ w', Below V2.heap.size V2 w' → w'.cell? ⟨T, 4, none⟩ = some (.int .i64 t.write) := fun w' h => m4 w' (bCall hV12 h)
      have r0 : ∀ w', Below V2.heap.size V2 w' → w'.cell? ⟨V1.heap.size, 0, none⟩ = some (.int .i64 t.o.op) := fun w' h => by rw [h.cell (p := ⟨V1.heap.size, 0, none⟩) hl2, cell_of_row _ _ _ _ _ _ g2]; rfl
      have r1 : ∀ w', Below V2.heap.size V2 w' → w'.cell? ⟨V1.heap.size, 1, none⟩ = some (.int .i64 t.o.d) := fun w' h => by rw [h.cell (p := ⟨V1.heap.size, 1, none⟩) hl2, cell_of_row _ _ _ _ _ _ g2]; rfl
      have r2 : ∀ w', Below V2.heap.size V2 w' → w'.cell? ⟨V1.heap.size, 2, none⟩ = some (.int .i64 t.o.a) := fun w' h => by rw [h.cell (p := ⟨V1.heap.size, 2, none⟩) hl2, cell_of_row _ _ _ _ _ _ g2]; rfl
      have r3 : ∀ w', Below V2.heap.size V2 w' → w'.cell? ⟨V1.heap.size, 3, none⟩ = some (.int .i64 t.o.b) := fun w' h => by rw [h.cell (p := ⟨V1.heap.size, 3, none⟩) hl2, cell_of_row _ _ _ _ _ _ g2]; rfl
      have r4 : ∀ w', Below V2.heap.size V2 w' → w'.cell? ⟨V1.heap.size, 4, none⟩ = some (.int .i64 t.o.k) := fun w' h => by rw [h.cell (p := ⟨V1.heap.size, 4, none⟩) hl2, cell_of_row _ _ _ _ _ _ g2]; rfl
      generalize V1.heap.size = O at *
      have hrv2 : Below V2.heap.size V2 V2 := Below.refl _ _
      have hlT : T < V2.heap.size := by omega
      have hlC2 : C < V2.heap.size := Nat.lt_of_lt_of_le hlC1 hW2.size
      have hbt2 : bt < V2.heap.size := Nat.lt_of_lt_of_le hbt hW2.size
      have hbp2 : g < V2.heap.size := Nat.lt_of_lt_of_le hbp hW2.size
      clear hV2 g1 g2 m0 m1 m2 m3 m4 a2 a3 a4 a5 a6 hV12 hrv1 hW1 hsV1 hpV1 hl1
      go_upto_region 16 with fail
      go_upto_if 108 with fail
      go_cut [] from 52 to 195 (fun wy => Below V2.heap.size V2 wy)
      case first =>
        by_cases h8 : t.o.op = 8
        · obtain ⟨j1, j2, j3⟩ := HL.out.jmp h8
          have e0 : (t.o.op == 8) = true := by simp [h8]
          have e1 : ((t.read : Int) != t.issue) = false := by simp [j1]
          have e2 : ((t.done : Int) != t.issue) = false := by simp [j2]
          have e3 : ((t.write : Int) != t.issue) = false := by simp [j3]
          clear h8 j1 j2 j3
          go_wp2_with fail
          go_meet
          exact hrv2
        · have e0 : (t.o.op == 8) = false := by simp [h8]
          have HS0 : Hid (Below V2.heap.size V2 V2.drew) := (Below.refl _ _).drew
          have hkin := HL.out.kin h8
          have cc0 : ∀ w', Below V2.heap.size V2 w' → w'.cell? ⟨C, 4, none⟩ = some (.int .i64 y4) := fun w' h => c4 w' (HW12.out w' h)
          have cc1 : ∀ w', Below V2.heap.size V2 w' → w'.cell? ⟨C, 5, none⟩ = some (.int .i64 y5) := fun w' h => c5 w' (HW12.out w' h)
          have cc2 : ∀ w', Below V2.heap.size V2 w' → w'.cell? ⟨C, 6, none⟩ = some (.int .i64 y6) := fun w' h => c6 w' (HW12.out w' h)
          have cc3 : ∀ w', Below V2.heap.size V2 w' → w'.cell? ⟨C, 7, none⟩ = some (.int .i64 y7) := fun w' h => c7 w' (HW12.out w' h)
          have hs3 : HL.out.kin h8 = HL.out.kin h8 := rfl
          clear hs3
          rcases hkin with hk | hk | hk | hk
          · have KK : Hid (∀ W, Calls Try.prog 19 #[.agg #[.int .i64 t.o.op, .int .i64 t.o.d, .int .i64 t.o.a, .int .i64 t.o.b, .int .i64 t.o.k]] W fun e w' => e = .returned (.int .i64 0) ∧ Below W.heap.size W w') := fun W => by rw [← hk]; exact kind_any _ _ _ _ _ W
            have RI : Hid (∀ W, Calls Try.prog 18 #[.agg #[.int .i64 t.number, .int .i64 t.issue, .int .i64 t.read, .int .i64 t.done, .int .i64 t.write], .int .i64 y4] W fun e w' => e = .returned (.bool true) ∧ Below W.heap.size W w') := fun W => rises_any _ _ _ _ _ _ W (by have := HLA.out; omega) (by have := HL.out.rd2; omega) (HL.out.ris 0 h8 hk (by omega))
            clear h8 hk
            go_wp2_with fail
            go_region_held3 (fun w' => Below V2.heap.size V2 w') (first | with_reducible assumption | with_reducible exact HS0.out | with_reducible exact HS1.out | with_reducible exact HS2.out | fail) (first | (go_at_call 19; with_reducible refine (KK.out _).mono ?_; rintro e w1 ⟨rfl, hb1⟩; have HS1 : Hid (Below V2.heap.size V2 w1) := (hide (bCall (w := V2) (by (repeat (first | with_reducible assumption | with_reducible exact Below.refl _ _ | with_reducible refine bAl ?_ _ | with_reducible refine Below.drew ?_))) hb1)); have hx1 : C < w1.heap.size := (Nat.lt_of_lt_of_le hlC2 HS1.out.size)) | (go_at_call 18; with_reducible refine (RI.out _).mono ?_; rintro e w2 ⟨rfl, hb2⟩; have HS2 : Hid (Below V2.heap.size V2 w2) := (hide (bCall (w := V2) (by first | exact HS1.out | (repeat (first | with_reducible assumption | with_reducible exact Below.refl _ _ | with_reducible refine bAl ?_ _ | with_reducible refine Below.drew ?_))) hb2))))
            all_goals go_wp2_with fail
            all_goals go_meet
            all_goals exact HS2.out
          · have KK : Hid (∀ W, Calls Try.prog 19 #[.agg #[.int .i64 t.o.op, .int .i64 t.o.d, .int .i64 t.o.a, .int .i64 t.o.b, .int .i64 t.o.k]] W fun e w' => e = .returned (.int .i64 1) ∧ Below W.heap.size W w') := fun W => by rw [← hk]; exact kind_any _ _ _ _ _ W
            have RI : Hid (∀ W, Calls Try.prog 18 #[.agg #[.int .i64 t.number, .int .i64 t.issue, .int .i64 t.read, .int .i64 t.done, .int .i64 t.write], .int .i64 y5] W fun e w' => e = .returned (.bool true) ∧ Below W.heap.size W w') := fun W => rises_any _ _ _ _ _ _ W (by have := HLA.out; omega) (by have := HL.out.rd2; omega) (HL.out.ris 1 h8 hk (by omega))
            clear h8 hk
            go_wp2_with fail
            go_region_held3 (fun w' => Below V2.heap.size V2 w') (first | with_reducible assumption | with_reducible exact HS0.out | with_reducible exact HS1.out | with_reducible exact HS2.out | fail) (first | (go_at_call 19; with_reducible refine (KK.out _).mono ?_; rintro e w1 ⟨rfl, hb1⟩; have HS1 : Hid (Below V2.heap.size V2 w1) := (hide (bCall (w := V2) (by (repeat (first | with_reducible assumption | with_reducible exact Below.refl _ _ | with_reducible refine bAl ?_ _ | with_reducible refine Below.drew ?_))) hb1)); have hx1 : C < w1.heap.size := (Nat.lt_of_lt_of_le hlC2 HS1.out.size)) | (go_at_call 18; with_reducible refine (RI.out _).mono ?_; rintro e w2 ⟨rfl, hb2⟩; have HS2 : Hid (Below V2.heap.size V2 w2) := (hide (bCall (w := V2) (by first | exact HS1.out | (repeat (first | with_reducible assumption | with_reducible exact Below.refl _ _ | with_reducible refine bAl ?_ _ | with_reducible refine Below.drew ?_))) hb2))))
            all_goals go_wp2_with fail
            all_goals go_meet
            all_goals exact HS2.out
          · have KK : Hid (∀ W, Calls Try.prog 19 #[.agg #[.int .i64 t.o.op, .int .i64 t.o.d, .int .i64 t.o.a, .int .i64 t.o.b, .int .i64 t.o.k]] W fun e w' => e = .returned (.int .i64 2) ∧ Below W.heap.size W w') := fun W => by rw [← hk]; exact kind_any _ _ _ _ _ W
            have RI : Hid (∀ W, Calls Try.prog 18 #[.agg #[.int .i64 t.number, .int .i64 t.issue, .int .i64 t.read, .int .i64 t.done, .int .i64 t.write], .int .i64 y6] W fun e w' => e = .returned (.bool true) ∧ Below W.heap.size W w') := fun W => rises_any _ _ _ _ _ _ W (by have := HLA.out; omega) (by have := HL.out.rd2; omega) (HL.out.ris 2 h8 hk (by omega))
            clear h8 hk
            go_wp2_with fail
            go_region_held3 (fun w' => Below V2.heap.size V2 w') (first | with_reducible assumption | with_reducible exact HS0.out | with_reducible exact HS1.out | with_reducible exact HS2.out | fail) (first | (go_at_call 19; with_reducible refine (KK.out _).mono ?_; rintro e w1 ⟨rfl, hb1⟩; have HS1 : Hid (Below V2.heap.size V2 w1) := (hide (bCall (w := V2) (by (repeat (first | with_reducible assumption | with_reducible exact Below.refl _ _ | with_reducible refine bAl ?_ _ | with_reducible refine Below.drew ?_))) hb1)); have hx1 : C < w1.heap.size := (Nat.lt_of_lt_of_le hlC2 HS1.out.size)) | (go_at_call 18; with_reducible refine (RI.out _).mono ?_; rintro e w2 ⟨rfl, hb2⟩; have HS2 : Hid (Below V2.heap.size V2 w2) := (hide (bCall (w := V2) (by first | exact HS1.out | (repeat (first | with_reducible assumption | with_reducible exact Below.refl _ _ | with_reducible refine bAl ?_ _ | with_reducible refine Below.drew ?_))) hb2))))
            all_goals go_wp2_with fail
            all_goals go_meet
            all_goals exact HS2.out
          · have KK : Hid (∀ W, Calls Try.prog 19 #[.agg #[.int .i64 t.o.op, .int .i64 t.o.d, .int .i64 t.o.a, .int .i64 t.o.b, .int .i64 t.o.k]] W fun e w' => e = .returned (.int .i64 3) ∧ Below W.heap.size W w') := fun W => by rw [← hk]; exact kind_any _ _ _ _ _ W
            have RI : Hid (∀ W, Calls Try.prog 18 #[.agg #[.int .i64 t.number, .int .i64 t.issue, .int .i64 t.read, .int .i64 t.done, .int .i64 t.write], .int .i64 y7] W fun e w' => e = .returned (.bool true) ∧ Below W.heap.size W w') := fun W => rises_any _ _ _ _ _ _ W (by have := HLA.out; omega) (by have := HL.out.rd2; omega) (HL.out.ris 3 h8 hk (by omega))
            clear h8 hk
            go_wp2_with fail
            go_region_held3 (fun w' => Below V2.heap.size V2 w') (first | with_reducible assumption | with_reducible exact HS0.out | with_reducible exact HS1.out | with_reducible exact HS2.out | fail) (first | (go_at_call 19; with_reducible refine (KK.out _).mono ?_; rintro e w1 ⟨rfl, hb1⟩; have HS1 : Hid (Below V2.heap.size V2 w1) := (hide (bCall (w := V2) (by (repeat (first | with_reducible assumption | with_reducible exact Below.refl _ _ | with_reducible refine bAl ?_ _ | with_reducible refine Below.drew ?_))) hb1)); have hx1 : C < w1.heap.size := (Nat.lt_of_lt_of_le hlC2 HS1.out.size)) | (go_at_call 18; with_reducible refine (RI.out _).mono ?_; rintro e w2 ⟨rfl, hb2⟩; have HS2 : Hid (Below V2.heap.size V2 w2) := (hide (bCall (w := V2) (by first | exact HS1.out | (repeat (first | with_reducible assumption | with_reducible exact Below.refl _ _ | with_reducible refine bAl ?_ _ | with_reducible refine Below.drew ?_))) hb2))))
            all_goals go_wp2_with fail
            all_goals go_meet
            all_goals exact HS2.out
      case rest =>
      have hb3 := hcut
      clear hcut
      rename World => V3
      go_upto_block 2 with fail
      go_cut [18, 19] from 52 to 195 (fun _ _ wz => Below V2.heap.size V2 wz)
      case first =>
        go_wp2_with fail
        go_loopg [18, 19] i (fun gq s18 _ wz => ∃ k : Nat, k ≤ i ∧ gq = i - k ∧ s18 = .int .i64 k ∧ Below V2.heap.size V2 wz)
        case atStart => exact ⟨0, Nat.zero_le _, rfl, rfl, hb3⟩
        case round =>
          obtain ⟨k, hk1, hgk, rfl, hbk⟩ := hrel
          rename World => Vk
          rcases Nat.lt_or_ge k i with hki | hki
          · obtain ⟨s, hs⟩ : ∃ s, G[k]? = some s := ⟨_, List.getElem?_eq_getElem (by omega)⟩
            have HLS := hide (HLR.out k s hs)
            obtain ⟨P1, P2, P3, P4⟩ := HPS.out k i s t hki hs HT.out
            have HPA : Hid (∀ W, Calls Try.prog 20 #[.agg #[.int .i64 s.o.op, .int .i64 s.o.d, .int .i64 s.o.a, .int .i64 s.o.b, .int .i64 s.o.k], .agg #[.int .i64 s.number, .int .i64 s.issue, .int .i64 s.read, .int .i64 s.done, .int .i64 s.write], .agg #[.int .i64 t.o.op, .int .i64 t.o.d, .int .i64 t.o.a, .int .i64 t.o.b, .int .i64 t.o.k], .agg #[.int .i64 t.number, .int .i64 t.issue, .int .i64 t.read, .int .i64 t.done, .int .i64 t.write]] W fun e w' => e = .returned (.bool true) ∧ Below W.heap.size W w') := fun W => pair_any _ _ _ _ _ _ _ _ _ _ _ _ _ _ _ _ _ _ _ _ W P1 P2 P3 P4
            clear P1 P2 P3 P4
            obtain ⟨bt', ebt, hbt', k0, k1, k2, k3, k4⟩ := HTM.out.cells hs
            injection ebt with ebt
            injection ebt with ebt
            subst ebt
            obtain ⟨_, p0, p1, p2, p3, p4⟩ := ord_cells (HRQ.out W1 hrb1) HLS.out.num
            rw [← HLS.out.ord] at p0 p1 p2 p3 p4
            have hWk : Below W1.heap.size W1 Vk := HW12.out _ hbk
            have v0 : Vk.cell? ⟨g, s.number * 5, none⟩ = some (.int .i64 s.o.op) := by rw [hWk.cell (p := ⟨g, s.number * 5, none⟩) hbp]; exact p0
            have v1 : Vk.cell? ⟨g, s.number * 5 + 1, none⟩ = some (.int .i64 s.o.d) := by rw [hWk.cell (p := ⟨g, s.number * 5 + 1, none⟩) hbp]; exact p1
            have v2 : Vk.cell? ⟨g, s.number * 5 + 2, none⟩ = some (.int .i64 s.o.a) := by rw [hWk.cell (p := ⟨g, s.number * 5 + 2, none⟩) hbp]; exact p2
            have v3 : Vk.cell? ⟨g, s.number * 5 + 3, none⟩ = some (.int .i64 s.o.b) := by rw [hWk.cell (p := ⟨g, s.number * 5 + 3, none⟩) hbp]; exact p3
            have v4 : Vk.cell? ⟨g, s.number * 5 + 4, none⟩ = some (.int .i64 s.o.k) := by rw [hWk.cell (p := ⟨g, s.number * 5 + 4, none⟩) hbp]; exact p4
            have z0 : Vk.cell? ⟨bt, k * 5, none⟩ = some (.int .i64 s.number) := by rw [hWk.cell (p := ⟨bt, k * 5, none⟩) hbt]; exact k0
            have z1 : Vk.cell? ⟨bt, k * 5 + 1, none⟩ = some (.int .i64 s.issue) := by rw [hWk.cell (p := ⟨bt, k * 5 + 1, none⟩) hbt]; exact k1
            have z2 : Vk.cell? ⟨bt, k * 5 + 2, none⟩ = some (.int .i64 s.read) := by rw [hWk.cell (p := ⟨bt, k * 5 + 2, none⟩) hbt]; exact k2
            have z3 : Vk.cell? ⟨bt, k * 5 + 3, none⟩ = some (.int .i64 s.done) := by rw [hWk.cell (p := ⟨bt, k * 5 + 3, none⟩) hbt]; exact k3
            have z4 : Vk.cell? ⟨bt, k * 5 + 4, none⟩ = some (.int .i64 s.write) := by rw [hWk.cell (p := ⟨bt, k * 5 + 4, none⟩) hbt]; exact k4
            have x0 : Vk.cell? ⟨T, 0, none⟩ = some (.int .i64 t.number) := n0 Vk hbk
            have x1 : Vk.cell? ⟨T, 1, none⟩ = some (.int .i64 t.issue) := n1 Vk hbk
            have x2 : Vk.cell? ⟨T, 2, none⟩ = some (.int .i64 t.read) := n2 Vk hbk
            have x3 : Vk.cell? ⟨T, 3, none⟩ = some (.int .i64 t.done) := n3 Vk hbk
            have x4 : Vk.cell? ⟨T, 4, none⟩ = some (.int .i64 t.write) := n4 Vk hbk
            have w0 : Vk.cell? ⟨O, 0, none⟩ = some (.int .i64 t.o.op) := r0 Vk hbk
            have w1 : Vk.cell? ⟨O, 1, none⟩ = some (.int .i64 t.o.d) := r1 Vk hbk
            have w2 : Vk.cell? ⟨O, 2, none⟩ = some (.int .i64 t.o.a) := r2 Vk hbk
            have w3 : Vk.cell? ⟨O, 3, none⟩ = some (.int .i64 t.o.b) := r3 Vk hbk
            have w4 : Vk.cell? ⟨O, 4, none⟩ = some (.int .i64 t.o.k) := r4 Vk hbk
            have hkI : (k : Int) < (i : Int) := by omega
            have hkG : (k : Int) < (G.length : Int) := by omega
            have hsI : (s.number : Int) < (prog.length : Int) := by have := HLS.out.num; omega
            have HGK := hide hgk
            clear k0 k1 k2 k3 k4 p0 p1 p2 p3 p4 hgk hs
            clear n0 n1 n2 n3 n4 r0 r1 r2 r3 r4 o0 o1 o2 o3 o4 c0 c1 c2 c3 c4 c5 c6 c7 c8 sN
            go_upto_region 24 with fail
            refine wp_region_still_tail 14 (by kernel_rfl) (by kernel_rfl) ?_
            simp only [List.take_succ_cons, List.take_zero, List.drop_succ_cons, List.drop_zero]
            repeat still_step
            refine wpStill_nil ?_
            go_wp2_with (go_at_call 20; with_reducible refine (HPA.out _).mono ?_; rintro e wp ⟨rfl, hbp'⟩)
            have hbq : Below V2.heap.size V2 wp := bCall (w := V2) (W := Vk.drew) hbk.drew hbp'
            have hgk := HGK.out
            go_roundg (i - (k + 1))
            case measure => omega
            case rel => exact ⟨k + 1, by omega, rfl, by go_num, hbq⟩
          · have hke : k = i := by omega
            subst hke
            clear hki hgk
            go_wp2_with fail
            go_meet
            exact hbk
      case rest =>
      have hb4 := hcut
      clear hcut hb3
      rename World => V4
      clear r0 r1 r2 r3 r4 o0 o1 o2 o3 o4 c0 c1 c2 c3 c4 c5 c6 c7 c8 sN
      have hW4 : Below W1.heap.size W1 V4 := HW12.out _ hb4
      have HW4 := hide hW4
      rcases Nat.eq_zero_or_pos i with hi0 | hi0
      · have e1 : ((t.number : Int) != 0) = false := by simp [HL.out.fst hi0]
        have x0 : V4.cell? ⟨T, 0, none⟩ = some (.int .i64 t.number) := n0 V4 hb4
        have hnp : ¬ ((0 : Int) < i) := by omega
        clear hnp n0 n1 n2 n3 n4
        subst hi0
        go_wp2_with fail
        have hgi := HGI.out
        go_roundg (G.length - 1)
        case measure => omega
        case rel => exact ⟨1, by omega, rfl, by go_num, HW4.out⟩
      · obtain ⟨j, hj⟩ : ∃ j, i = j + 1 := ⟨i - 1, by omega⟩
        obtain ⟨s, hs⟩ : ∃ s, G[j]? = some s := ⟨_, List.getElem?_eq_getElem (by omega)⟩
        have HLS := hide (HLR.out j s hs)
        have HNN := hide (HNX.out j s t hs (by rw [← hj]; exact HT.out))
        obtain ⟨bt', ebt, hbt', k0, k1, k2, k3, k4⟩ := HTM.out.cells hs
        injection ebt with ebt
        injection ebt with ebt
        subst ebt
        obtain ⟨_, p0, p1, p2, p3, p4⟩ := ord_cells (HRQ.out W1 hrb1) HLS.out.num
        rw [← HLS.out.ord] at p0 p1 p2 p3 p4
        have v0 : V4.cell? ⟨g, s.number * 5, none⟩ = some (.int .i64 s.o.op) := by rw [hW4.cell (p := ⟨g, s.number * 5, none⟩) hbp]; exact p0
        have v1 : V4.cell? ⟨g, s.number * 5 + 1, none⟩ = some (.int .i64 s.o.d) := by rw [hW4.cell (p := ⟨g, s.number * 5 + 1, none⟩) hbp]; exact p1
        have v2 : V4.cell? ⟨g, s.number * 5 + 2, none⟩ = some (.int .i64 s.o.a) := by rw [hW4.cell (p := ⟨g, s.number * 5 + 2, none⟩) hbp]; exact p2
        have v3 : V4.cell? ⟨g, s.number * 5 + 3, none⟩ = some (.int .i64 s.o.b) := by rw [hW4.cell (p := ⟨g, s.number * 5 + 3, none⟩) hbp]; exact p3
        have v4 : V4.cell? ⟨g, s.number * 5 + 4, none⟩ = some (.int .i64 s.o.k) := by rw [hW4.cell (p := ⟨g, s.number * 5 + 4, none⟩) hbp]; exact p4
        have z0 : V4.cell? ⟨bt, j * 5, none⟩ = some (.int .i64 s.number) := by rw [hW4.cell (p := ⟨bt, j * 5, none⟩) hbt]; exact k0
        have hip : (0 : Int) < i := by omega
        have hij : (i : Int) - 1 = j := by omega
        have hjG : (j : Int) < (G.length : Int) := by omega
        have hsI : (s.number : Int) < (prog.length : Int) := by have := HLS.out.num; omega
        have HJ := hide hj
        have hbt4 : bt < V4.heap.size := Nat.lt_of_lt_of_le hbt hW4.size
        have hT4 : T < V4.heap.size := Nat.lt_of_lt_of_le hlT hb4.size
        have HK0 := hide k0
        clear k0 k1 k2 k3 k4 p0 p1 p2 p3 p4 hs hj hi0
        go_upto_region 28 with fail
        go_upto_region 29 with fail
        clear v0 v1 v2 v3 v4 z0
        obtain ⟨V5, hV5⟩ : ∃ V5, V4.alloc (.cells #[.int .i64 s.o.op, .int .i64 s.o.d, .int .i64 s.o.a, .int .i64 s.o.b, .int .i64 s.o.k] 49) = V5 := ⟨_, rfl⟩
        rw [hV5]
        have g5 : V5.heap[V4.heap.size]? = some (.cells #[.int .i64 s.o.op, .int .i64 s.o.d, .int .i64 s.o.a, .int .i64 s.o.b, .int .i64 s.o.k] 49 (0, 0)) := by rw [← hV5]; exact heap_alloc_new _ _
        have hb5 : Below V2.heap.size V2 V5 := by rw [← hV5]; exact bAl hb4 _
        have hW5 : Below W1.heap.size W1 V5 := HW12.out _ hb5
        have hl5 : V4.heap.size < V5.heap.size := (Array.getElem?_eq_some_iff.1 g5).1
        generalize V4.heap.size = L at *
        have v0 : V5.cell? ⟨L, 0, none⟩ = some (.int .i64 s.o.op) := by rw [cell_of_row _ _ _ _ _ _ g5]; rfl
        have v4 : V5.cell? ⟨L, 4, none⟩ = some (.int .i64 s.o.k) := by rw [cell_of_row _ _ _ _ _ _ g5]; rfl
        have x0 : V5.cell? ⟨T, 0, none⟩ = some (.int .i64 t.number) := n0 V5 hb5
        have z0 : V5.cell? ⟨bt, j * 5, none⟩ = some (.int .i64 s.number) := by rw [hW5.cell (p := ⟨bt, j * 5, none⟩) hbt]; exact HK0.out
        have hT5 : T < V5.heap.size := Nat.lt_of_lt_of_le hlT hb5.size
        have hbt5 : bt < V5.heap.size := Nat.lt_of_lt_of_le hbt hW5.size
        have HW5 := hide hW5
        clear n0 n1 n2 n3 n4 hV5 g5 hbt4 hT4 hb4 hW4 hW5
        go_cut [21] from 52 to 178 (fun s21 wx => s21 = .bool ((s.o.op == 8) && ((t.number : Int) == s.o.k)) ∧ wx = V5)
        case first =>
          cases hq : (s.o.op == 8) with
          | false =>
            go_wp2_with fail
            go_meet
            exact ⟨by rw [hq]; rfl, rfl⟩
          | true =>
            go_wp2_with fail
            go_meet
            exact ⟨by rw [hq]; rfl, rfl⟩
        case rest =>
        obtain ⟨rfl, hwx⟩ := hcut
        subst hwx
        obtain ⟨q, hq⟩ : ∃ q : Bool, ((s.o.op == 8) && ((t.number : Int) == s.o.k)) = q := ⟨_, rfl⟩
        rw [hq]
        have hnn : ((t.number : Int) != (s.number : Int) + 1) = false ∨ (((t.number : Int) != (s.number : Int) + 1) = true ∧ q = true) := by
          by_cases e : (t.number : Int) = (s.number : Int) + 1
          · exact .inl (by simp [e])
          · refine .inr ⟨by simp [e], ?_⟩
            rcases HNN.out with h | ⟨h1, h2⟩
            · exact absurd h e
            · rw [← hq, h1, h2]; simp
        clear hq v0 v4
        rcases hnn with e1 | ⟨e1, rfl⟩
        · go_upto_region 30 with fail
          have hwr : IntKind.i64.wrap ((i : Int) - 1) = j := by rw [hij]; exact IntWalk.i64_in _ (by omega)
          have hws : IntKind.i64.wrap ((s.number : Int) + 1) = (s.number : Int) + 1 := IntWalk.i64_in _ (by have := HPL.out; omega)
          go_quiet (fail)
          go_wp2_with fail
          have hgi := HGI.out
          go_roundg (G.length - (i + 1))
          case measure => omega
          case rel => exact ⟨i + 1, by omega, rfl, by go_num, below_drewN HW5.out _⟩
        · go_upto_region 30 with fail
          have hwr : IntKind.i64.wrap ((i : Int) - 1) = j := by rw [hij]; exact IntWalk.i64_in _ (by omega)
          have hws : IntKind.i64.wrap ((s.number : Int) + 1) = (s.number : Int) + 1 := IntWalk.i64_in _ (by have := HPL.out; omega)
          go_quiet (fail)
          go_wp2_with fail
          have hgi := HGI.out
          go_roundg (G.length - (i + 1))
          case measure => omega
          case rel => exact ⟨i + 1, by omega, rfl, by go_num, below_drewN HW5.out _⟩
    · have hie : i = G.length := by omega
      subst hie
      have HCW : Hid (∀ W, Below W1.heap.size W1 W → Calls Try.prog 21 #[.agg #[.int .i64 y0, .int .i64 y1, .int .i64 y2, .int .i64 1, .int .i64 y4, .int .i64 y5, .int .i64 y6, .int .i64 y7, .int .i64 y8], .slice (some ⟨g, 0, none⟩) prog.length cap, .slice pt G.length ct, .int .i64 N] W fun e w' => e = .returned (.bool true) ∧ Below W.heap.size W w') := fun W h =>
        crowd_any y0 y1 y2 1 y4 y5 y6 y7 y8 _ pt cap ct 0 N prog G W (HRQ.out W h) (HTM.out.below h) (by omega) (by omega) (fun i t ht => ⟨(HLR.out i t ht).num, (HLR.out i t ht).ord⟩) HCR.out.1 HCR.out.2.1 HCR.out.2.2.1 HCR.out.2.2.2.1 HCR.out.2.2.2.2
      have hlC2 : C < V0.heap.size := Nat.lt_of_lt_of_le hlC1 hbr.size
      have hs2 : S1 < V0.heap.size := Nat.lt_of_lt_of_le hs1 hbr.size
      clear hgi hil
      go_wp2_with (go_at_call 21; with_reducible refine (HCW.out _ (by with_reducible assumption)).mono ?_; rintro e we ⟨rfl, hbe⟩)
      go_ret
      exact ⟨rfl, bCall HFIN.out (bCall hbr hbe)⟩

end Go.Proofs.Ytmeiogoodbnkkaa
