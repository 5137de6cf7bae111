/- boardkeep.Refused. -/
import Derived.Test.YtmeiogoodbnkkaaCSHVE
import Derived.Deep.CutBlock
import Derived.Laws.MakeOwn
import Derived.Deep.RegionHeld3
namespace Go.Proofs.Ytmeiogoodbnkkaa
open Go.RowKit

theorem Try.infoOr : (Try.prog.info? 49).map (fun i => (i.zero, i.size, i.bytes)) = some (some (.agg #[.int .i64 0, .int .i64 0, .int .i64 0, .int .i64 0, .int .i64 0]), 5, 40) := by kernel_rfl

theorem made_one {v : Value} {n i : Nat} (h : i < n) : (madeCells #[v] n)[i]? = some v := by
  unfold madeCells
  rw [Array.getElem?_map, Array.getElem?_eq_getElem (by simpa using h)]
  simp [Nat.mod_one]

theorem made_five {v : Value} {n i : Nat} (h : i < n) : (madeCells #[v, v, v, v, v] n)[i]? = some v := by
  unfold madeCells
  rw [Array.getElem?_map, Array.getElem?_eq_getElem (by simpa using h)]
  simp only [Array.getElem_range, Option.map_some, Option.some.injEq]
  have h5 : i % 5 < 5 := Nat.mod_lt _ (by omega)
  show #[v, v, v, v, v][i % 5]! = v
  generalize i % 5 = k at h5
  match k, h5 with
  | 0, _ => rfl
  | 1, _ => rfl
  | 2, _ => rfl
  | 3, _ => rfl
  | 4, _ => rfl

theorem hn_at {w : World} {cs : Array Value} {e : TypeId} {N : Nat} (h : w.heap.size = N) : (w.alloc (.cells cs e)).heap[N]? = some (.cells cs e (0, 0)) := by
  subst h
  exact heap_alloc_new _ _
theorem hd_at {w : World} {o : Obj} {N : Nat} (h : w.heap[N]? = some o) : w.drew.heap[N]? = some o := h
theorem ho_at {w : World} {x o : Obj} {N : Nat} (h : w.heap[N]? = some o) : (w.alloc x).heap[N]? = some o :=
  (Below.heap_alloc w x N (Array.getElem?_eq_some_iff.1 h).1).trans h
theorem bal {w w' : World} (h : Below w.heap.size w w') (x : Obj) : Below w.heap.size w (w'.alloc x) := h.alloc h.size x
theorem bset {w w' : World} (h : Below w.heap.size w w') {N j : Nat} (hN : w.heap.size ≤ N) (v : Value) : Below w.heap.size w (w'.setCell ⟨N, j, none⟩ v) := h.setCell hN v
theorem bcall {w W w' : World} (h : Below w.heap.size w W) (h' : Below W.heap.size W w') : Below w.heap.size w w' := h.trans (h'.mono h.size)

theorem u_cells {w : World} {U : Nat} {v0 v1 v2 v3 v4 v5 v6 v7 v8 : Value} (h : w.heap[U]? = some (.cells #[v0, v1, v2, v3, v4, v5, v6, v7, v8] 24 (0, 0))) :
    w.cell? ⟨U, 0, none⟩ = some v0 ∧ w.cell? ⟨U, 1, none⟩ = some v1 ∧ w.cell? ⟨U, 2, none⟩ = some v2 ∧ w.cell? ⟨U, 3, none⟩ = some v3 ∧ w.cell? ⟨U, 4, none⟩ = some v4 ∧ w.cell? ⟨U, 5, none⟩ = some v5 ∧ w.cell? ⟨U, 6, none⟩ = some v6 ∧ w.cell? ⟨U, 7, none⟩ = some v7 ∧ w.cell? ⟨U, 8, none⟩ = some v8 ∧
    (∀ j, w.frozen? ⟨U, j, none⟩ = false) ∧ U < w.heap.size := by
  have g : ∀ j, w.cell? ⟨U, j, none⟩ = #[v0, v1, v2, v3, v4, v5, v6, v7, v8][j]? := fun j => cell_of_row _ _ _ _ _ _ h
  exact ⟨g 0, g 1, g 2, g 3, g 4, g 5, g 6, g 7, g 8, fun j => frozen_of_row _ _ _ _ _ h, (Array.getElem?_eq_some_iff.1 h).1⟩

theorem Try.sizeCfg : (Try.prog.info? 24).map (·.size) = some 9 := by kernel_rfl

theorem bel_row {w w' : World} {U : Nat} {cs : Array Value} (h : Below w.heap.size w w') (hU : w.heap.size ≤ U) : Below w.heap.size w (w'.setRow U cs) :=
  h.grown (row := some U) ⟨rfl, rfl, rfl, by simp [World.setRow], fun k _ hk => setRow_other _ _ k _ (fun e => hk (by rw [e]))⟩ h.size (fun k e => by cases e; exact hU)

theorem u_set1 {w : World} {U j : Nat} {v : Value} {cs cs' : Array Value} (h : w.heap[U]? = some (.cells cs 24 (0, 0))) (he : cs.setIfInBounds j v = cs') : (w.setCell ⟨U, j, none⟩ v).heap[U]? = some (.cells cs' 24 (0, 0)) := by
  rw [← he]
  exact heap_setCell_same _ U j _ _ v h

theorem u_keep {w w' : World} {U : Nat} {o : Obj} (h : w.heap[U]? = some o) (hb : Below w.heap.size w w') : w'.heap[U]? = some o := by
  rw [hb.block _ (Array.getElem?_eq_some_iff.1 h).1]; exact h

theorem bad_unit {u l : List Int} {b : Int} {k : Nat} (hk : k < 4) (h : u.getD k 0 < 1 ∨ 3 < u.getD k 0) : refuseC u l b = 4 := by
  refine refuseC_bad hk ?_
  unfold okK
  rw [okN_no (by unfold mostK; split <;> omega)]
  rfl
theorem bad_lat {u l : List Int} {b : Int} {k : Nat} (hk : k < 4) (h : l.getD k 0 < 1 ∨ 12 < l.getD k 0) : refuseC u l b = 4 := by
  refine refuseC_bad hk ?_
  unfold okK
  rw [okN_no h, Bool.and_false]
theorem bad_bus {b : Int} (h : b < 1 ∨ 3 < b) : refuseC [1, 1, 1, 1] [1, 1, 1, 1] b = 5 := by
  rw [refuseC_good (by decide), okN_no h]
  rfl

/-- A state of nothing in memory. -/
def SZ (w : World) (N : Nat) : Prop := N < w.heap.size ∧ w.cell? ⟨N, 0, none⟩ = some (.int .i64 0) ∧ w.cell? ⟨N, 1, none⟩ = some (.int .i64 0) ∧ w.cell? ⟨N, 2, none⟩ = some (.int .i64 0) ∧ w.cell? ⟨N, 3, none⟩ = some (.int .i64 0) ∧ w.cell? ⟨N, 4, none⟩ = some (.int .i64 0) ∧ w.cell? ⟨N, 5, none⟩ = some (.int .i64 0) ∧
  w.cell? ⟨N, 6, none⟩ = some (.int .i64 0) ∧ w.cell? ⟨N, 7, none⟩ = some (.int .i64 0) ∧ (∃ pp cc, w.cell? ⟨N, 8, none⟩ = some (.slice pp 0 cc)) ∧ w.cell? ⟨N, 9, none⟩ = some (.int .i64 0) ∧ w.cell? ⟨N, 10, none⟩ = some (.int .i64 0) ∧ w.cell? ⟨N, 11, none⟩ = some (.int .i64 0) ∧ w.cell? ⟨N, 12, none⟩ = some (.int .i64 0)

set_option maxRecDepth 100000 in
set_option maxHeartbeats 8000000 in
theorem refused_law (n which k : Int) (hn : In64 n) (hwh : In64 which) (hk : In64 k) (w : World) : Calls Try.prog 8 #[.int .i64 n, .int .i64 which, .int .i64 k] w fun e w' => e = .returned (.bool true) ∧ Below w.heap.size w w' := by
  have HC : Hid (∀ W, Calls Try.prog 10 #[.agg #[.int .i64 0, .int .i64 0, .int .i64 0, .int .i64 0, .int .i64 0, .int .i64 0, .int .i64 0, .int .i64 0, .int .i64 0]] W fun e w' => e = .returned (.agg #[.int .i64 1, .int .i64 1, .int .i64 1, .int .i64 1, .int .i64 1, .int .i64 1, .int .i64 1, .int .i64 1, .int .i64 1]) ∧ Below W.heap.size W w') := fun W => by
    have z : In64 0 := ⟨by omega, by omega⟩
    exact config_any 0 0 0 0 0 0 0 0 0 z z z z z z z z z W
  have HK5 : Hid (∀ W, Calls Try.prog 16 #[.int .i64 which, .int .i64 5] W fun e w' => e = .returned (.int .i64 (pk which 5)) ∧ w' = W) := fun W => pick_any which 5 hwh (by omega) (by omega) W
  have HK4 : Hid (∀ W, Calls Try.prog 16 #[.int .i64 k, .int .i64 4] W fun e w' => e = .returned (.int .i64 (pk k 4)) ∧ w' = W) := fun W => pick_any k 4 hk (by omega) (by omega) W
  have HKN : Hid (∀ W, Calls Try.prog 16 #[.int .i64 n, .int .i64 1099511627776] W fun e w' => e = .returned (.int .i64 (pk n 1099511627776)) ∧ w' = W) := fun W => pick_any n 1099511627776 hn (by omega) (by omega) W
  have HO8 : Hid (∀ W, Calls Try.prog 22 #[.int .i64 n, .int .i64 8] W fun e w' => e = .returned (.int .i64 (outs n 8)) ∧ w' = W) := fun W => outside_any n 8 (by omega) (by omega) W
  have HO7 : Hid (∀ W, Calls Try.prog 22 #[.int .i64 n, .int .i64 7] W fun e w' => e = .returned (.int .i64 (outs n 7)) ∧ w' = W) := fun W => outside_any n 7 (by omega) (by omega) W
  have HO3 : Hid (∀ W, Calls Try.prog 22 #[.int .i64 n, .int .i64 3] W fun e w' => e = .returned (.int .i64 (outs n 3)) ∧ w' = W) := fun W => outside_any n 3 (by omega) (by omega) W
  have HO12 : Hid (∀ W, Calls Try.prog 22 #[.int .i64 n, .int .i64 12] W fun e w' => e = .returned (.int .i64 (outs n 12)) ∧ w' = W) := fun W => outside_any n 12 (by omega) (by omega) W
  have HO400 : Hid (∀ W, Calls Try.prog 22 #[.int .i64 n, .int .i64 400] W fun e w' => e = .returned (.int .i64 (outs n 400)) ∧ w' = W) := fun W => outside_any n 400 (by omega) (by omega) W
  have r5 := pk_in (c := which) (n := 5) (by omega)
  have r4 := pk_in (c := k) (n := 4) (by omega)
  have rN := pk_in (c := n) (n := 1099511627776) (by omega)
  have o8 := outs_no (c := n) (n := 8)
  have o7 := outs_no (c := n) (n := 7)
  have o3 := outs_no (c := n) (n := 3)
  have o12 := outs_no (c := n) (n := 12)
  have o400 := outs_no (c := n) (n := 400)
  have Z8 : Hid (n ≠ 0 → outs n 8 ≠ 0) := fun h => by unfold outs; split <;> omega
  have Z7 : Hid (n ≠ 0 → outs n 7 ≠ 0) := fun h => by unfold outs; split <;> omega
  generalize pk which 5 = q5 at *
  generalize pk k 4 = q4 at *
  generalize pk n 1099511627776 = qN at *
  generalize outs n 8 = x8 at *
  generalize outs n 7 = x7 at *
  generalize outs n 3 = x3 at *
  generalize outs n 12 = x12 at *
  generalize outs n 400 = x400 at *
  have O8 := hide o8
  have O7 := hide o7
  have O3 := hide o3
  have O12 := hide o12
  have O400 := hide o400
  clear o8 o7 o3 o12 o400
  go_enter Try.func8, Try.ntmps8
  go_upto_block 0 with (first | (go_at_call 9; refine (ran_any _).mono ?_; rintro e w1 ⟨rfl, hb1⟩; obtain ⟨hc1, hf1⟩ := bcell hb1) | (go_at_call 10; refine (HC.out _).mono ?_; rintro e w2 ⟨rfl, hb2⟩; have hz2 : w1.heap.size < w2.heap.size := (by have := hb2.size; simp at this; omega); obtain ⟨hc2, hf2⟩ := bcell hb2) | (go_at_call 16; refine (HK5.out _).mono ?_; rintro e W' ⟨rfl, rfl⟩))
  go_cut [] from 52 to 87 (fun wx => ∃ o : Ord, isOrd o 1 = false ∧ wx = (w2.alloc (.cells #[.int .i64 1, .int .i64 1, .int .i64 1, .int .i64 1, .int .i64 1, .int .i64 1, .int .i64 1, .int .i64 1, .int .i64 1] 24)).alloc (.cells #[.int .i64 o.op, .int .i64 o.d, .int .i64 o.a, .int .i64 o.b, .int .i64 o.k] 49))
  case first =>
    have h5 : q5 = 0 ∨ q5 = 1 ∨ q5 = 2 ∨ q5 = 3 ∨ q5 = 4 := by omega
    rcases h5 with rfl | rfl | rfl | rfl | rfl
    · by_cases hn0 : n = 0
      · have hnb : (n == 0) = true := by simp [hn0]
        clear hn0
        go_wp2_with (first | (go_at_call 22; first | (with_reducible refine (HO8.out _).mono ?_; rintro e W' ⟨rfl, rfl⟩) | (with_reducible refine (HO7.out _).mono ?_; rintro e W' ⟨rfl, rfl⟩)) | (go_at_call 16; refine (HKN.out _).mono ?_; rintro e W' ⟨rfl, rfl⟩))
        go_meet
        exact ⟨⟨-1, 1, 0, 0, 7⟩, bad0 (by omega), rfl⟩
      · have hnb : (n == 0) = false := by simp [hn0]
        have HZ8 := hide (Z8.out hn0)
        clear hn0
        go_wp2_with (first | (go_at_call 22; first | (with_reducible refine (HO8.out _).mono ?_; rintro e W' ⟨rfl, rfl⟩) | (with_reducible refine (HO7.out _).mono ?_; rintro e W' ⟨rfl, rfl⟩)) | (go_at_call 16; refine (HKN.out _).mono ?_; rintro e W' ⟨rfl, rfl⟩))
        go_meet
        exact ⟨⟨x8, 1, 0, 0, 7⟩, bad0 (by have := O8.out; have := HZ8.out; omega), rfl⟩
    · by_cases hn0 : n = 0
      · have hnb : (n == 0) = true := by simp [hn0]
        clear hn0
        go_wp2_with (first | (go_at_call 22; first | (with_reducible refine (HO8.out _).mono ?_; rintro e W' ⟨rfl, rfl⟩) | (with_reducible refine (HO7.out _).mono ?_; rintro e W' ⟨rfl, rfl⟩)) | (go_at_call 16; refine (HKN.out _).mono ?_; rintro e W' ⟨rfl, rfl⟩))
        go_meet
        exact ⟨⟨1, 8, 0, 0, 7⟩, bad1 (by omega), rfl⟩
      · have hnb : (n == 0) = false := by simp [hn0]
        have HZ7 := hide (Z7.out hn0)
        clear hn0
        go_wp2_with (first | (go_at_call 22; first | (with_reducible refine (HO8.out _).mono ?_; rintro e W' ⟨rfl, rfl⟩) | (with_reducible refine (HO7.out _).mono ?_; rintro e W' ⟨rfl, rfl⟩)) | (go_at_call 16; refine (HKN.out _).mono ?_; rintro e W' ⟨rfl, rfl⟩))
        go_meet
        exact ⟨⟨1, x7, 0, 0, 7⟩, bad1 (by have := O7.out; have := HZ7.out; omega), rfl⟩
    · go_wp2_with (first | (go_at_call 22; first | (with_reducible refine (HO8.out _).mono ?_; rintro e W' ⟨rfl, rfl⟩) | (with_reducible refine (HO7.out _).mono ?_; rintro e W' ⟨rfl, rfl⟩)) | (go_at_call 16; refine (HKN.out _).mono ?_; rintro e W' ⟨rfl, rfl⟩))
      go_meet
      exact ⟨⟨1, 1, -1 - qN, 0, 7⟩, bad2 (by omega), rfl⟩
    · go_wp2_with (first | (go_at_call 22; first | (with_reducible refine (HO8.out _).mono ?_; rintro e W' ⟨rfl, rfl⟩) | (with_reducible refine (HO7.out _).mono ?_; rintro e W' ⟨rfl, rfl⟩)) | (go_at_call 16; refine (HKN.out _).mono ?_; rintro e W' ⟨rfl, rfl⟩))
      go_meet
      exact ⟨⟨1, 1, 0, 8 + qN, 7⟩, bad3 (by omega), rfl⟩
    · go_wp2_with (first | (go_at_call 22; first | (with_reducible refine (HO8.out _).mono ?_; rintro e W' ⟨rfl, rfl⟩) | (with_reducible refine (HO7.out _).mono ?_; rintro e W' ⟨rfl, rfl⟩)) | (go_at_call 16; refine (HKN.out _).mono ?_; rintro e W' ⟨rfl, rfl⟩))
      go_meet
      exact ⟨⟨8, 0, 0, 0, 1 + qN⟩, bad4 (by omega), rfl⟩
  case rest =>
    obtain ⟨o, ho, rfl⟩ := hcut
    have hB0 : Below w.heap.size w ((w2.alloc (.cells #[.int .i64 1, .int .i64 1, .int .i64 1, .int .i64 1, .int .i64 1, .int .i64 1, .int .i64 1, .int .i64 1, .int .i64 1] 24)).alloc (.cells #[.int .i64 o.op, .int .i64 o.d, .int .i64 o.a, .int .i64 o.b, .int .i64 o.k] 49)) := by
      have h1 := hb1.size
      have h2 := hb2.size
      simp at h2
      have a1 : Below w.heap.size w w2 := (hb1.alloc h1 _).trans (hb2.mono (by simp; omega))
      exact (a1.alloc a1.size _).alloc (by have := a1.size; simp; omega) _
    have gG : ((w2.alloc (.cells #[.int .i64 1, .int .i64 1, .int .i64 1, .int .i64 1, .int .i64 1, .int .i64 1, .int .i64 1, .int .i64 1, .int .i64 1] 24)).alloc (.cells #[.int .i64 o.op, .int .i64 o.d, .int .i64 o.a, .int .i64 o.b, .int .i64 o.k] 49)).heap[w1.heap.size]? = some (.cells #[.int .i64 1, .int .i64 1, .int .i64 0, .int .i64 0, .int .i64 7] 49 (0, 0)) := by
      rw [Below.heap_alloc _ _ _ (by simp; omega), Below.heap_alloc _ _ _ hz2, hb2.block _ (by simp)]
      exact heap_alloc_new _ _
    have gC : ((w2.alloc (.cells #[.int .i64 1, .int .i64 1, .int .i64 1, .int .i64 1, .int .i64 1, .int .i64 1, .int .i64 1, .int .i64 1, .int .i64 1] 24)).alloc (.cells #[.int .i64 o.op, .int .i64 o.d, .int .i64 o.a, .int .i64 o.b, .int .i64 o.k] 49)).heap[w2.heap.size]? = some (.cells #[.int .i64 1, .int .i64 1, .int .i64 1, .int .i64 1, .int .i64 1, .int .i64 1, .int .i64 1, .int .i64 1, .int .i64 1] 24 (0, 0)) := by
      rw [Below.heap_alloc _ _ _ (by simp)]
      exact heap_alloc_new _ _
    have gD : ((w2.alloc (.cells #[.int .i64 1, .int .i64 1, .int .i64 1, .int .i64 1, .int .i64 1, .int .i64 1, .int .i64 1, .int .i64 1, .int .i64 1] 24)).alloc (.cells #[.int .i64 o.op, .int .i64 o.d, .int .i64 o.a, .int .i64 o.b, .int .i64 o.k] 49)).heap[w2.heap.size + 1]? = some (.cells #[.int .i64 o.op, .int .i64 o.d, .int .i64 o.a, .int .i64 o.b, .int .i64 o.k] 49 (0, 0)) := by
      have := heap_alloc_new (w2.alloc (.cells #[.int .i64 1, .int .i64 1, .int .i64 1, .int .i64 1, .int .i64 1, .int .i64 1, .int .i64 1, .int .i64 1, .int .i64 1] 24)) (.cells #[.int .i64 o.op, .int .i64 o.d, .int .i64 o.a, .int .i64 o.b, .int .i64 o.k] 49)
      simpa using this
    have hsz : ((w2.alloc (.cells #[.int .i64 1, .int .i64 1, .int .i64 1, .int .i64 1, .int .i64 1, .int .i64 1, .int .i64 1, .int .i64 1, .int .i64 1] 24)).alloc (.cells #[.int .i64 o.op, .int .i64 o.d, .int .i64 o.a, .int .i64 o.b, .int .i64 o.k] 49)).heap.size = w2.heap.size + 1 + 1 := by simp
    clear hc1 hf1 hc2 hf2 hb1 hb2 O8 O7 Z8 Z7 HC HK5 r5
    generalize (w2.alloc (.cells #[.int .i64 1, .int .i64 1, .int .i64 1, .int .i64 1, .int .i64 1, .int .i64 1, .int .i64 1, .int .i64 1, .int .i64 1] 24)).alloc (.cells #[.int .i64 o.op, .int .i64 o.d, .int .i64 o.a, .int .i64 o.b, .int .i64 o.k] 49) = W0 at *
    generalize w2.heap.size = C at *
    generalize w1.heap.size = G at *
    have HB0 := hide hB0
    have HO := hide ho
    clear hB0 ho
    obtain ⟨i0, hi0, hz0, hz1, hz2'⟩ := info_parts Try.info2
    obtain ⟨a17, ha17, hmk17⟩ : ∃ a17 : Array Value, (∀ i, i < 17 → a17[i]? = some (.int .i64 0)) ∧ ∀ w : World, (Instr.makeSlice 26 (.int .i64 17) (.int .i64 17)).run Try.prog w = .ok (.slice (some ⟨w.heap.size, 0, none⟩) 17 17) (w.alloc (.cells a17 2)) := by
      refine ⟨madeCells #[.int .i64 0] (17 * 1), fun i hi => ?_, fun w => ?_⟩
      · exact made_one (by omega)
      · have hr := run_make (P := Try.prog) w 26 2 i0 _ Try.underlying26 hi0 hz0 .i64 .i64 17 17 (by omega) (by omega) (by rw [hz2']; omega) (by omega)
        rw [hz1] at hr
        exact hr
    have HPL : Hid (∀ W N1 N2 c1 c2, W.heap[N1]? = some (.cells #[.int .i64 o.op, .int .i64 o.d, .int .i64 o.a, .int .i64 o.b, .int .i64 o.k] 49 (0, 0)) → W.heap[N2]? = some (.cells a17 2 (0, 0)) → Calls Try.prog 14 #[.slice (some ⟨N1, 0, none⟩) 1 c1, .slice (some ⟨N2, 0, none⟩) 17 c2, .int .i64 0] W fun e w' =>
        ∃ pp cc, e = .returned (.tuple #[.agg #[.int .i64 0, .int .i64 0, .int .i64 0, .int .i64 0, .int .i64 0, .int .i64 0, .int .i64 0, .int .i64 0, .slice pp 0 cc, .int .i64 0, .int .i64 0, .int .i64 0, .int .i64 0], .int .i64 1]) ∧ Below W.heap.size W w') := fun W N1 N2 c1 c2 h1 h2 => by
      have r1 : RdO W (some ⟨N1, 0, none⟩) [o] := rdo_row h1 rfl
      have r2 : Rd W (some ⟨N2, 0, none⟩) (List.replicate 17 0) := rd_made h2 ha17
      exact plain_bad (some ⟨N1, 0, none⟩) (some ⟨N2, 0, none⟩) c1 c2 [o] (List.replicate 17 0) 0 1 W r1 r2 (by simp) (by simp) (refuse_prog (one_not HO.out)) (by decide)
    have d0 : ∀ w', Below W0.heap.size W0 w' → w'.cell? ⟨C + 1, 0, none⟩ = some (.int .i64 o.op) := fun w' h => by rw [h.cell (p := ⟨C + 1, 0, none⟩) (show C + 1 < W0.heap.size by omega), cell_of_row _ _ _ _ _ _ gD]; rfl
    have d1 : ∀ w', Below W0.heap.size W0 w' → w'.cell? ⟨C + 1, 1, none⟩ = some (.int .i64 o.d) := fun w' h => by rw [h.cell (p := ⟨C + 1, 1, none⟩) (show C + 1 < W0.heap.size by omega), cell_of_row _ _ _ _ _ _ gD]; rfl
    have d2 : ∀ w', Below W0.heap.size W0 w' → w'.cell? ⟨C + 1, 2, none⟩ = some (.int .i64 o.a) := fun w' h => by rw [h.cell (p := ⟨C + 1, 2, none⟩) (show C + 1 < W0.heap.size by omega), cell_of_row _ _ _ _ _ _ gD]; rfl
    have d3 : ∀ w', Below W0.heap.size W0 w' → w'.cell? ⟨C + 1, 3, none⟩ = some (.int .i64 o.b) := fun w' h => by rw [h.cell (p := ⟨C + 1, 3, none⟩) (show C + 1 < W0.heap.size by omega), cell_of_row _ _ _ _ _ _ gD]; rfl
    have d4 : ∀ w', Below W0.heap.size W0 w' → w'.cell? ⟨C + 1, 4, none⟩ = some (.int .i64 o.k) := fun w' h => by rw [h.cell (p := ⟨C + 1, 4, none⟩) (show C + 1 < W0.heap.size by omega), cell_of_row _ _ _ _ _ _ gD]; rfl
    have HSZ := hide hsz
    have HGG := hide gG
    have HGC := hide gC
    have HGD := hide gD
    have HS0 : Hid (Below W0.heap.size W0 W0.drew) := (Below.refl _ _).drew
    clear gG gC gD hsz hi0 hz0 hz1 hz2' rN hn hwh hk HKN HO8 HO7
    have HA17 := hide ha17
    have HR4 := hide r4
    clear ha17 r4
    go_upto_region 20 with fail
    go_cut [11, 12] from 88 to 94 (fun s11 s12 wx => s12 = .int .i64 1 ∧ Below W0.heap.size W0 wx ∧ ∃ N, s11 = .pointer (some ⟨N, 0, none⟩) ∧ W0.heap.size ≤ N ∧ SZ wx N)
    case first =>
      go_region_held3 (fun w' => Below W0.heap.size W0 w') (first | with_reducible assumption | with_reducible exact HS0.out | with_reducible exact HS1.out | (with_reducible refine Below.drew ?_; (repeat (with_reducible refine bal ?_ _)); exact Below.refl _ _) | (with_reducible refine bal ?_ _; with_reducible exact HS1.out) | ((repeat' (with_reducible refine bset ?_ ?_ _)) <;> (first | with_reducible exact HS1.out | omega)) | fail) (first | (go_at_call 14; refine (HPL.out _ _ _ _ _ (by refine hd_at ?_; repeat (first | exact hn_at (by simp) | refine ho_at ?_)) (by refine hd_at ?_; repeat (first | exact hn_at (by simp) | refine ho_at ?_))).mono ?_; rintro e w1 ⟨pp, cc, rfl, hb1⟩; obtain ⟨hc1, hf1⟩ := bcell hb1; have hz1 := hb1.size; simp at hz1; have HS1 : Hid (Below W0.heap.size W0 w1) := (bcall (by assumption) hb1)))
      all_goals have hx0 : W0.heap.size < W0.heap.size + 1 + 1 + 1 := by omega
      all_goals have hx1 : W0.heap.size < W0.heap.size + 1 + 1 := by omega
      all_goals go_wp2
      all_goals go_meet
      all_goals refine ⟨rfl, by assumption, _, rfl, by omega, ?_⟩
      all_goals unfold SZ
      all_goals (refine ⟨?_, ?_, ?_, ?_, ?_, ?_, ?_, ?_, ?_, ⟨pp, cc, ?_⟩, ?_, ?_, ?_, ?_⟩ <;> (first | omega | (simp [go_sem, hc1, hx0, hx1]; done) | (simp [go_sem] <;> omega)))
    case rest =>
      obtain ⟨rfl, hb1, N, rfl, hN, hs1⟩ := hcut
      rename World => W1
      have hz1 := hb1.size
      have hsz := HSZ.out
      have gG : W1.heap[G]? = some (.cells #[.int .i64 1, .int .i64 1, .int .i64 0, .int .i64 0, .int .i64 7] 49 (0, 0)) := by rw [hb1.block _ (by omega)]; exact HGG.out
      have gC : W1.heap[C]? = some (.cells #[.int .i64 1, .int .i64 1, .int .i64 1, .int .i64 1, .int .i64 1, .int .i64 1, .int .i64 1, .int .i64 1, .int .i64 1] 24 (0, 0)) := by rw [hb1.block _ (by omega)]; exact HGC.out
      have gD : W1.heap[C + 1]? = some (.cells #[.int .i64 o.op, .int .i64 o.d, .int .i64 o.a, .int .i64 o.b, .int .i64 o.k] 49 (0, 0)) := by rw [hb1.block _ (by omega)]; exact HGD.out
      have hB1 : Below w.heap.size w W1 := HB0.out.trans (hb1.mono HB0.out.size)
      have hltG : G < W1.heap.size := (Array.getElem?_eq_some_iff.1 gG).1
      have hltC : C < W1.heap.size := (Array.getElem?_eq_some_iff.1 gC).1
      have hltD : C + 1 < W1.heap.size := (Array.getElem?_eq_some_iff.1 gD).1
      have hltN := hs1.1
      have hcG : ∀ w', Below W1.heap.size W1 w' → ∀ j, w'.cell? ⟨G, j, none⟩ = #[(.int .i64 1 : Value), .int .i64 1, .int .i64 0, .int .i64 0, .int .i64 7][j]? := fun w' h j => by rw [h.cell (p := ⟨G, j, none⟩) hltG, cell_of_row _ _ _ _ _ _ gG]
      obtain ⟨a41, ha41, hmk41⟩ : ∃ a41 : Array Value, (∀ i, i < 41 * 5 → a41[i]? = some (.int .i64 0)) ∧ ∀ w : World, (Instr.makeSlice 25 (.int .i64 41) (.int .i64 41)).run Try.prog w = .ok (.slice (some ⟨w.heap.size, 0, none⟩) 41 41) (w.alloc (.cells a41 49)) := by
        obtain ⟨i1, hi0, hz0, hz1, hz2'⟩ := info_parts Try.infoOr
        refine ⟨madeCells #[.int .i64 0, .int .i64 0, .int .i64 0, .int .i64 0, .int .i64 0] (41 * 5), fun i hi => made_five hi, fun w => ?_⟩
        have hr := run_make (P := Try.prog) w 25 49 i1 _ Try.underlying25 hi0 hz0 .i64 .i64 41 41 (by omega) (by omega) (by rw [hz2']; omega) (by omega)
        rw [hz1] at hr
        exact hr
      have HRG : Hid (∀ W, Below W1.heap.size W1 W → RdO W (some ⟨G, 0, none⟩) goodO) := fun W h => rdo_row (by rw [h.block _ hltG]; exact gG) rfl
      have P1 : Hid (∀ W, Calls Try.prog 14 #[.slice none 0 0, .slice none 0 0, .int .i64 1] W fun e w' => ∃ pp cc, e = .returned (.tuple #[.agg #[.int .i64 0, .int .i64 0, .int .i64 0, .int .i64 0, .int .i64 0, .int .i64 0, .int .i64 0, .int .i64 0, .slice pp 0 cc, .int .i64 0, .int .i64 0, .int .i64 0, .int .i64 0], .int .i64 1]) ∧ Below W.heap.size W w') := fun W =>
        plain_bad none none 0 0 [] [] 1 1 W (.inl rfl) (.inl rfl) (by decide) (by decide) (by decide) (by decide)
      have P2 : Hid (∀ W N, W.heap[N]? = some (.cells a41 49 (0, 0)) → Calls Try.prog 14 #[.slice (some ⟨N, 0, none⟩) 41 41, .slice none 0 0, .int .i64 1] W fun e w' => ∃ pp cc, e = .returned (.tuple #[.agg #[.int .i64 0, .int .i64 0, .int .i64 0, .int .i64 0, .int .i64 0, .int .i64 0, .int .i64 0, .int .i64 0, .slice pp 0 cc, .int .i64 0, .int .i64 0, .int .i64 0, .int .i64 0], .int .i64 1]) ∧ Below W.heap.size W w') := fun W N h =>
        plain_bad (some ⟨N, 0, none⟩) none 41 0 (List.replicate 41 Ord.none) [] 1 1 W (rdo_made h ha41) (.inl rfl) (by decide) (by decide) (refuse_prog (isProg_size (by simp))) (by decide)
      have P3 : Hid (∀ W N, Below W1.heap.size W1 W → W.heap[N]? = some (.cells a17 2 (0, 0)) → Calls Try.prog 14 #[.slice (some ⟨G, 0, none⟩) 1 1, .slice (some ⟨N, 0, none⟩) 17 17, .int .i64 0] W fun e w' => ∃ pp cc, e = .returned (.tuple #[.agg #[.int .i64 0, .int .i64 0, .int .i64 0, .int .i64 0, .int .i64 0, .int .i64 0, .int .i64 0, .int .i64 0, .slice pp 0 cc, .int .i64 0, .int .i64 0, .int .i64 0, .int .i64 0], .int .i64 2]) ∧ Below W.heap.size W w') := fun W N hW h =>
        plain_bad (some ⟨G, 0, none⟩) (some ⟨N, 0, none⟩) 1 17 goodO (List.replicate 17 0) 0 2 W (HRG.out W hW) (rd_made h HA17.out) (by decide) (by simp) (refuse_mem good_is (by simp)) (by decide)
      have P4 : Hid (∀ W, Below W1.heap.size W1 W → Calls Try.prog 14 #[.slice (some ⟨G, 0, none⟩) 1 1, .slice none 0 0, .int .i64 x400] W fun e w' => ∃ pp cc, e = .returned (.tuple #[.agg #[.int .i64 0, .int .i64 0, .int .i64 0, .int .i64 0, .int .i64 0, .int .i64 0, .int .i64 0, .int .i64 0, .slice pp 0 cc, .int .i64 0, .int .i64 0, .int .i64 0, .int .i64 0], .int .i64 3]) ∧ Below W.heap.size W w') := fun W hW =>
        plain_bad (some ⟨G, 0, none⟩) none 1 0 goodO [] x400 3 W (HRG.out W hW) (.inl rfl) (by decide) (by decide) (refuse_steps good_is (by decide) O400.out) (by decide)
      have R1 : Hid (∀ W N, W.heap[N]? = some (.cells #[.int .i64 o.op, .int .i64 o.d, .int .i64 o.a, .int .i64 o.b, .int .i64 o.k] 49 (0, 0)) → Calls Try.prog 13 #[.agg #[.int .i64 1, .int .i64 1, .int .i64 1, .int .i64 1, .int .i64 1, .int .i64 1, .int .i64 1, .int .i64 1, .int .i64 1], .slice (some ⟨N, 0, none⟩) 1 1, .slice none 0 0, .int .i64 1] W fun e w' => ∃ pp cc pt ct, e = .returned (.tuple #[.agg #[.int .i64 0, .int .i64 0, .int .i64 0, .int .i64 0, .int .i64 0, .int .i64 0, .int .i64 0, .int .i64 0, .slice pp 0 cc, .int .i64 0, .int .i64 0, .int .i64 0, .int .i64 0], .slice pt 0 ct, .int .i64 1]) ∧ Below W.heap.size W w') := fun W N h =>
        run_bad 1 1 1 1 1 1 1 1 1 (some ⟨N, 0, none⟩) none 1 0 [o] [] 1 1 W (rdo_row h rfl) (.inl rfl) (by simp) (by decide) (answerR_first (refuse_prog (one_not HO.out)) (by decide))
      have R2 : Hid (∀ W, Below W1.heap.size W1 W → Calls Try.prog 13 #[.agg #[.int .i64 0, .int .i64 0, .int .i64 0, .int .i64 0, .int .i64 0, .int .i64 0, .int .i64 0, .int .i64 0, .int .i64 0], .slice (some ⟨G, 0, none⟩) 1 1, .slice none 0 0, .int .i64 x400] W fun e w' => ∃ pp cc pt ct, e = .returned (.tuple #[.agg #[.int .i64 0, .int .i64 0, .int .i64 0, .int .i64 0, .int .i64 0, .int .i64 0, .int .i64 0, .int .i64 0, .slice pp 0 cc, .int .i64 0, .int .i64 0, .int .i64 0, .int .i64 0], .slice pt 0 ct, .int .i64 3]) ∧ Below W.heap.size W w') := fun W hW =>
        run_bad 0 0 0 0 0 0 0 0 0 (some ⟨G, 0, none⟩) none 1 0 goodO [] x400 3 W (HRG.out W hW) (.inl rfl) (by decide) (by decide) (answerR_first (refuse_steps good_is (by decide) O400.out) (by decide))
      have R3 : Hid (∀ W u0 u1 u2 u3 l0 l1 l2 l3 b err, refuseC [u0, u1, u2, u3] [l0, l1, l2, l3] b = err → err ≠ 0 → Below W1.heap.size W1 W → Calls Try.prog 13 #[.agg #[.int .i64 u0, .int .i64 u1, .int .i64 u2, .int .i64 u3, .int .i64 l0, .int .i64 l1, .int .i64 l2, .int .i64 l3, .int .i64 b], .slice (some ⟨G, 0, none⟩) 1 1, .slice none 0 0, .int .i64 1] W fun e w' => ∃ pp cc pt ct, e = .returned (.tuple #[.agg #[.int .i64 0, .int .i64 0, .int .i64 0, .int .i64 0, .int .i64 0, .int .i64 0, .int .i64 0, .int .i64 0, .slice pp 0 cc, .int .i64 0, .int .i64 0, .int .i64 0, .int .i64 0], .slice pt 0 ct, .int .i64 err]) ∧ Below W.heap.size W w') := fun W u0 u1 u2 u3 l0 l1 l2 l3 b err hc h0 hW =>
        run_bad u0 u1 u2 u3 l0 l1 l2 l3 b (some ⟨G, 0, none⟩) none 1 0 goodO [] 1 err W (HRG.out W hW) (.inl rfl) (by decide) (by decide) (answerR_second good_steps hc h0)
      clear d0 d1 d2 d3 d4
      have hltC' := hltC
      have hltD' := hltD
      have c0 : ∀ w', Below W1.heap.size W1 w' → w'.cell? ⟨C, 0, none⟩ = some (.int .i64 1) := fun w' h => by rw [h.cell (p := ⟨C, 0, none⟩) hltC, cell_of_row _ _ _ _ _ _ gC]; rfl
      have c1 : ∀ w', Below W1.heap.size W1 w' → w'.cell? ⟨C, 1, none⟩ = some (.int .i64 1) := fun w' h => by rw [h.cell (p := ⟨C, 1, none⟩) hltC, cell_of_row _ _ _ _ _ _ gC]; rfl
      have c2 : ∀ w', Below W1.heap.size W1 w' → w'.cell? ⟨C, 2, none⟩ = some (.int .i64 1) := fun w' h => by rw [h.cell (p := ⟨C, 2, none⟩) hltC, cell_of_row _ _ _ _ _ _ gC]; rfl
      have c3 : ∀ w', Below W1.heap.size W1 w' → w'.cell? ⟨C, 3, none⟩ = some (.int .i64 1) := fun w' h => by rw [h.cell (p := ⟨C, 3, none⟩) hltC, cell_of_row _ _ _ _ _ _ gC]; rfl
      have c4 : ∀ w', Below W1.heap.size W1 w' → w'.cell? ⟨C, 4, none⟩ = some (.int .i64 1) := fun w' h => by rw [h.cell (p := ⟨C, 4, none⟩) hltC, cell_of_row _ _ _ _ _ _ gC]; rfl
      have c5 : ∀ w', Below W1.heap.size W1 w' → w'.cell? ⟨C, 5, none⟩ = some (.int .i64 1) := fun w' h => by rw [h.cell (p := ⟨C, 5, none⟩) hltC, cell_of_row _ _ _ _ _ _ gC]; rfl
      have c6 : ∀ w', Below W1.heap.size W1 w' → w'.cell? ⟨C, 6, none⟩ = some (.int .i64 1) := fun w' h => by rw [h.cell (p := ⟨C, 6, none⟩) hltC, cell_of_row _ _ _ _ _ _ gC]; rfl
      have c7 : ∀ w', Below W1.heap.size W1 w' → w'.cell? ⟨C, 7, none⟩ = some (.int .i64 1) := fun w' h => by rw [h.cell (p := ⟨C, 7, none⟩) hltC, cell_of_row _ _ _ _ _ _ gC]; rfl
      have c8 : ∀ w', Below W1.heap.size W1 w' → w'.cell? ⟨C, 8, none⟩ = some (.int .i64 1) := fun w' h => by rw [h.cell (p := ⟨C, 8, none⟩) hltC, cell_of_row _ _ _ _ _ _ gC]; rfl
      have e0 : ∀ w', Below W1.heap.size W1 w' → w'.cell? ⟨C + 1, 0, none⟩ = some (.int .i64 o.op) := fun w' h => by rw [h.cell (p := ⟨C + 1, 0, none⟩) hltD, cell_of_row _ _ _ _ _ _ gD]; rfl
      have e1 : ∀ w', Below W1.heap.size W1 w' → w'.cell? ⟨C + 1, 1, none⟩ = some (.int .i64 o.d) := fun w' h => by rw [h.cell (p := ⟨C + 1, 1, none⟩) hltD, cell_of_row _ _ _ _ _ _ gD]; rfl
      have e2 : ∀ w', Below W1.heap.size W1 w' → w'.cell? ⟨C + 1, 2, none⟩ = some (.int .i64 o.a) := fun w' h => by rw [h.cell (p := ⟨C + 1, 2, none⟩) hltD, cell_of_row _ _ _ _ _ _ gD]; rfl
      have e3 : ∀ w', Below W1.heap.size W1 w' → w'.cell? ⟨C + 1, 3, none⟩ = some (.int .i64 o.b) := fun w' h => by rw [h.cell (p := ⟨C + 1, 3, none⟩) hltD, cell_of_row _ _ _ _ _ _ gD]; rfl
      have e4 : ∀ w', Below W1.heap.size W1 w' → w'.cell? ⟨C + 1, 4, none⟩ = some (.int .i64 o.k) := fun w' h => by rw [h.cell (p := ⟨C + 1, 4, none⟩) hltD, cell_of_row _ _ _ _ _ _ gD]; rfl
      go_upto_region 25 with (first | (go_at_call 14; first | (with_reducible refine (P1.out _).mono ?_; rintro e wa ⟨pa, ca, rfl, hba⟩; have hBa : Below W1.heap.size W1 wa := (bcall (by (repeat (first | with_reducible assumption | with_reducible exact Below.refl _ _ | with_reducible refine bal ?_ _))) hba); have hla : C < wa.heap.size := (Nat.lt_of_lt_of_le hltC' hBa.size); have hma : C + 1 < wa.heap.size := (Nat.lt_of_lt_of_le hltD' hBa.size)) | (with_reducible refine (P2.out _ _ ?_).mono ?_; (repeat (first | exact hn_at (by simp) | refine ho_at ?_)); rintro e wb ⟨pb, cb, rfl, hbb⟩; have hBb : Below W1.heap.size W1 wb := (bcall (by (repeat (first | with_reducible assumption | with_reducible exact Below.refl _ _ | with_reducible refine bal ?_ _))) hbb); have hlb : C < wb.heap.size := (Nat.lt_of_lt_of_le hltC' hBb.size); have hmb : C + 1 < wb.heap.size := (Nat.lt_of_lt_of_le hltD' hBb.size)) | (with_reducible refine (P3.out _ _ ?_ ?_).mono ?_; (repeat (first | with_reducible assumption | with_reducible exact Below.refl _ _ | with_reducible refine bal ?_ _)); (repeat (first | exact hn_at (by simp) | refine ho_at ?_)); rintro e wd ⟨pd, cd, rfl, hbd⟩; have hBd : Below W1.heap.size W1 wd := (bcall (by (repeat (first | with_reducible assumption | with_reducible exact Below.refl _ _ | with_reducible refine bal ?_ _))) hbd); have hld : C < wd.heap.size := (Nat.lt_of_lt_of_le hltC' hBd.size); have hmd : C + 1 < wd.heap.size := (Nat.lt_of_lt_of_le hltD' hBd.size)) | (with_reducible refine (P4.out _ ?_).mono ?_; (repeat (first | with_reducible assumption | with_reducible exact Below.refl _ _ | with_reducible refine bal ?_ _)); rintro e we ⟨pe, ce, rfl, hbe⟩; have hBe : Below W1.heap.size W1 we := (bcall (by (repeat (first | with_reducible assumption | with_reducible exact Below.refl _ _ | with_reducible refine bal ?_ _))) hbe); have hle : C < we.heap.size := (Nat.lt_of_lt_of_le hltC' hBe.size); have hme : C + 1 < we.heap.size := (Nat.lt_of_lt_of_le hltD' hBe.size)) | fail) | (go_at_call 22; with_reducible refine (HO400.out _).mono ?_; rintro e W' ⟨rfl, rfl⟩))
      go_cut [21, 22, 23] from 117 to 124 (fun s21 s22 s23 wx => s23 = .int .i64 1 ∧ (∃ pt ct, s22 = .slice pt 0 ct) ∧ Below W1.heap.size W1 wx ∧ ∃ N2, s21 = .pointer (some ⟨N2, 0, none⟩) ∧ W1.heap.size ≤ N2 ∧ SZ wx N2)
      case first =>
        go_wp2_with (go_at_call 13; with_reducible refine (R1.out _ _ ?_).mono ?_; (repeat (first | exact hn_at (by simp) | refine ho_at ?_)); rintro e wf ⟨pf, cf, pt, ct, rfl, hbf⟩; have hBf : Below W1.heap.size W1 wf := (bcall (by (repeat (first | with_reducible assumption | with_reducible exact Below.refl _ _ | with_reducible refine bal ?_ _))) hbf))
        go_meet
        refine ⟨rfl, ⟨_, _, rfl⟩, bal hBf _, _, rfl, hBf.size, ?_⟩
        unfold SZ
        refine ⟨by simp, ?_, ?_, ?_, ?_, ?_, ?_, ?_, ?_, ⟨pf, cf, ?_⟩, ?_, ?_, ?_, ?_⟩ <;> simp [go_sem]
      case rest =>
        obtain ⟨rfl, ⟨pt, ct, rfl⟩, hb2, N2, rfl, hN2, hs2⟩ := hcut
        rename World => W2
        have hltC2 : C < W2.heap.size := Nat.lt_of_lt_of_le hltC hb2.size
        have hltN' : N < W2.heap.size := Nat.lt_of_lt_of_le hltN hb2.size
        have hltN2 := hs2.1
        have k2 : ∀ w', Below W2.heap.size W2 w' → Below W1.heap.size W1 w' := fun w' h => bcall hb2 h
        have HK2 := hide k2
        have R2' : Hid (∀ W, Below W2.heap.size W2 W → Calls Try.prog 13 #[.agg #[.int .i64 0, .int .i64 0, .int .i64 0, .int .i64 0, .int .i64 0, .int .i64 0, .int .i64 0, .int .i64 0, .int .i64 0], .slice (some ⟨G, 0, none⟩) 1 1, .slice none 0 0, .int .i64 x400] W fun e w' => ∃ pp cc pt ct, e = .returned (.tuple #[.agg #[.int .i64 0, .int .i64 0, .int .i64 0, .int .i64 0, .int .i64 0, .int .i64 0, .int .i64 0, .int .i64 0, .slice pp 0 cc, .int .i64 0, .int .i64 0, .int .i64 0, .int .i64 0], .slice pt 0 ct, .int .i64 3]) ∧ Below W.heap.size W w') := fun W hW => R2.out W (HK2.out W hW)
        have R3' : Hid (∀ W u0 u1 u2 u3 l0 l1 l2 l3 b err, Below W2.heap.size W2 W → refuseC [u0, u1, u2, u3] [l0, l1, l2, l3] b = err → err ≠ 0 → Calls Try.prog 13 #[.agg #[.int .i64 u0, .int .i64 u1, .int .i64 u2, .int .i64 u3, .int .i64 l0, .int .i64 l1, .int .i64 l2, .int .i64 l3, .int .i64 b], .slice (some ⟨G, 0, none⟩) 1 1, .slice none 0 0, .int .i64 1] W fun e w' => ∃ pp cc pt ct, e = .returned (.tuple #[.agg #[.int .i64 0, .int .i64 0, .int .i64 0, .int .i64 0, .int .i64 0, .int .i64 0, .int .i64 0, .int .i64 0, .slice pp 0 cc, .int .i64 0, .int .i64 0, .int .i64 0, .int .i64 0], .slice pt 0 ct, .int .i64 err]) ∧ Below W.heap.size W w') := fun W u0 u1 u2 u3 l0 l1 l2 l3 b err hW hc h0 => R3.out W u0 u1 u2 u3 l0 l1 l2 l3 b err hc h0 (HK2.out W hW)
        have c0' : ∀ w', Below W2.heap.size W2 w' → w'.cell? ⟨C, 0, none⟩ = some (.int .i64 1) := fun w' h => c0 w' (k2 w' h)
        have c1' : ∀ w', Below W2.heap.size W2 w' → w'.cell? ⟨C, 1, none⟩ = some (.int .i64 1) := fun w' h => c1 w' (k2 w' h)
        have c2' : ∀ w', Below W2.heap.size W2 w' → w'.cell? ⟨C, 2, none⟩ = some (.int .i64 1) := fun w' h => c2 w' (k2 w' h)
        have c3' : ∀ w', Below W2.heap.size W2 w' → w'.cell? ⟨C, 3, none⟩ = some (.int .i64 1) := fun w' h => c3 w' (k2 w' h)
        have c4' : ∀ w', Below W2.heap.size W2 w' → w'.cell? ⟨C, 4, none⟩ = some (.int .i64 1) := fun w' h => c4 w' (k2 w' h)
        have c5' : ∀ w', Below W2.heap.size W2 w' → w'.cell? ⟨C, 5, none⟩ = some (.int .i64 1) := fun w' h => c5 w' (k2 w' h)
        have c6' : ∀ w', Below W2.heap.size W2 w' → w'.cell? ⟨C, 6, none⟩ = some (.int .i64 1) := fun w' h => c6 w' (k2 w' h)
        have c7' : ∀ w', Below W2.heap.size W2 w' → w'.cell? ⟨C, 7, none⟩ = some (.int .i64 1) := fun w' h => c7 w' (k2 w' h)
        have c8' : ∀ w', Below W2.heap.size W2 w' → w'.cell? ⟨C, 8, none⟩ = some (.int .i64 1) := fun w' h => c8 w' (k2 w' h)
        have HBW : Hid (Below w.heap.size w W2) := hB1.trans (hb2.mono hB1.size)
        have HZ1 : Hid (SZ W1 N) := hs1
        have HZ2 : Hid (SZ W2 N2) := hs2
        have HB2 := hide hb2
        have HLN := hide hltN
        clear k2 c0 c1 c2 c3 c4 c5 c6 c7 c8 e0 e1 e2 e3 e4 hs1 hs2 hb2 hB1 hb1 gG gC gD P1 P2 P3 P4 R1 R2 R3 hmk17 hmk41 HRG hcG HPL ha41 HGG HGC HGD HS0 hN hN2 hz1 hsz hltG hltC hltD hltN hltC' hltD' hz2
        go_upto_region 28 with (first | (go_at_call 13; with_reducible refine (R2'.out _ ?_).mono ?_; (repeat (first | with_reducible assumption | with_reducible exact Below.refl _ _ | with_reducible refine bal ?_ _)); rintro e wg ⟨pg, cg, tg, kg, rfl, hbg⟩; have hBg : Below W2.heap.size W2 wg := (bcall (by (repeat (first | with_reducible assumption | with_reducible exact Below.refl _ _ | with_reducible refine bal ?_ _))) hbg); have hlg : C < wg.heap.size := (Nat.lt_of_lt_of_le hltC2 hBg.size)) | (go_at_call 22; with_reducible refine (HO400.out _).mono ?_; rintro e W' ⟨rfl, hW'⟩; have hW'' := hW'.symm; clear hW'; subst hW''))
        go_cut [27] from 135 to 140 (fun s27 wx => ∃ U u0 u1 u2 u3, s27 = .pointer (some ⟨U, 0, none⟩) ∧ refuseC [u0, u1, u2, u3] [1, 1, 1, 1] 0 = 4 ∧ wx.heap[U]? = some (.cells #[.int .i64 u0, .int .i64 u1, .int .i64 u2, .int .i64 u3, .int .i64 1, .int .i64 1, .int .i64 1, .int .i64 1, .int .i64 1] 24 (0, 0)) ∧ Below W2.heap.size W2 wx ∧ W2.heap.size ≤ U)
        case first =>
          have h4 : q4 = 0 ∨ q4 = 1 ∨ q4 = 2 ∨ q4 = 3 := by have := HR4.out; omega
          have hsz2 := hBg.size
          rcases h4 with rfl | rfl | rfl | rfl
          · go_wp2_with (first | (go_at_call 16; with_reducible refine (HK4.out _).mono ?_; rintro e W' ⟨rfl, hW'⟩; have hW'' := hW'.symm; clear hW'; subst hW'') | (go_at_call 22; with_reducible refine (HO3.out _).mono ?_; rintro e W' ⟨rfl, hW'⟩; have hW'' := hW'.symm; clear hW'; subst hW''))
            go_meet
            exact ⟨_, x3, 1, 1, 1, rfl, bad_unit (k := 0) (by omega) O3.out, hn_at (by simp), bal (bal hBg _) _, by omega⟩
          · go_wp2_with (first | (go_at_call 16; with_reducible refine (HK4.out _).mono ?_; rintro e W' ⟨rfl, hW'⟩; have hW'' := hW'.symm; clear hW'; subst hW'') | (go_at_call 22; with_reducible refine (HO3.out _).mono ?_; rintro e W' ⟨rfl, hW'⟩; have hW'' := hW'.symm; clear hW'; subst hW''))
            go_meet
            exact ⟨_, 1, x3, 1, 1, rfl, bad_unit (k := 1) (by omega) O3.out, hn_at (by simp), bal (bal hBg _) _, by omega⟩
          · go_wp2_with (first | (go_at_call 16; with_reducible refine (HK4.out _).mono ?_; rintro e W' ⟨rfl, hW'⟩; have hW'' := hW'.symm; clear hW'; subst hW'') | (go_at_call 22; with_reducible refine (HO3.out _).mono ?_; rintro e W' ⟨rfl, hW'⟩; have hW'' := hW'.symm; clear hW'; subst hW''))
            go_meet
            exact ⟨_, 1, 1, x3, 1, rfl, bad_unit (k := 2) (by omega) O3.out, hn_at (by simp), bal (bal hBg _) _, by omega⟩
          · go_wp2_with (first | (go_at_call 16; with_reducible refine (HK4.out _).mono ?_; rintro e W' ⟨rfl, hW'⟩; have hW'' := hW'.symm; clear hW'; subst hW'') | (go_at_call 22; with_reducible refine (HO3.out _).mono ?_; rintro e W' ⟨rfl, hW'⟩; have hW'' := hW'.symm; clear hW'; subst hW''))
            go_meet
            exact ⟨_, 1, 1, 1, x3, rfl, bad_unit (k := 3) (by omega) O3.out, hn_at (by simp), bal (bal hBg _) _, by omega⟩
        case rest =>
          obtain ⟨U, u0, u1, u2, u3, rfl, hrc, hU, hB3, hUle⟩ := hcut
          rename World => W3
          have HRC := hide hrc
          have hne : ¬ U = C := by omega
          have hne' : ¬ C = U := by omega
          clear hrc
          obtain ⟨q0, q1, q2, q3, q4', q5', q6, q7, q8, qf, hlU⟩ := u_cells hU
          have HU3 := hide hU
          clear hU
          go_upto_region 31 with (first | (go_at_call 13; refine (R3'.out _ _ _ _ _ _ _ _ _ _ 4 ?_ HRC.out (by decide)).mono ?_; (repeat' (first | with_reducible assumption | with_reducible exact Below.refl _ _ | with_reducible refine bal ?_ _ | with_reducible refine bset ?_ ?_ _)); rintro e wh ⟨ph, ch, th, kh, rfl, hbh⟩; obtain ⟨hch, hfh⟩ := bcell hbh; have hBh : Below W2.heap.size W2 wh := (bcall (by (repeat' (first | with_reducible assumption | with_reducible exact Below.refl _ _ | with_reducible refine bal ?_ _ | with_reducible refine bset ?_ ?_ _))) hbh); have hlh : C < wh.heap.size := (Nat.lt_of_lt_of_le hltC2 hBh.size); have huh : U < wh.heap.size := (Nat.lt_of_lt_of_le hlU (by have := hbh.size; simpa using this))))
          go_cut [] from 149 to 149 (fun wx => wx.heap[U]? = some (.cells #[.int .i64 1, .int .i64 1, .int .i64 1, .int .i64 1, .int .i64 1, .int .i64 1, .int .i64 1, .int .i64 1, .int .i64 1] 24 (0, 0)) ∧ Below W2.heap.size W2 wx)
          case first =>
            have hUU := hide (ho_at (x := .cells #[.int .i64 0, .int .i64 0, .int .i64 0, .int .i64 0, .int .i64 0, .int .i64 0, .int .i64 0, .int .i64 0, .slice ph 0 ch, .int .i64 0, .int .i64 0, .int .i64 0, .int .i64 0] 33) (u_keep (u_set1 HU3.out rfl) hbh))
            go_wp2_with (refine wpList_store_row rfl 24 (.tmp 27) (.tmp 149) rfl U #[.int .i64 1, .int .i64 1, .int .i64 1, .int .i64 1, .int .i64 1, .int .i64 1, .int .i64 1, .int .i64 1, .int .i64 1] (by simp [Act.eval]) (by simp [Act.eval]) 24 _ hUU.out Try.sizeCfg (by simp) (by simp [Value.oneCell']) ?_)
            go_meet
            exact ⟨setRow_heap _ _ _ _ _ _ hUU.out, bel_row (bal hBh _) hUle⟩
          case rest =>
            obtain ⟨hU4, hB4⟩ := hcut
            rename World => W4
            clear q0 q1 q2 q3 q4' q5' q6 q7 q8 qf hlU hB3 hBh hbh hch hfh hlh huh
            obtain ⟨q0, q1, q2, q3, q4', q5', q6, q7, q8, qf, hlU⟩ := u_cells hU4
            have HU4 := hide hU4
            clear hU4
            go_upto_region 32 with fail
            go_cut [] from 150 to 155 (fun wx => ∃ l0 l1 l2 l3, refuseC [1, 1, 1, 1] [l0, l1, l2, l3] 1 = 4 ∧ wx.heap[U]? = some (.cells #[.int .i64 1, .int .i64 1, .int .i64 1, .int .i64 1, .int .i64 l0, .int .i64 l1, .int .i64 l2, .int .i64 l3, .int .i64 1] 24 (0, 0)) ∧ Below W2.heap.size W2 wx)
            case first =>
              have h4 : q4 = 0 ∨ q4 = 1 ∨ q4 = 2 ∨ q4 = 3 := by have := HR4.out; omega
              rcases h4 with rfl | rfl | rfl | rfl
              · go_wp2_with (first | (go_at_call 16; with_reducible refine (HK4.out _).mono ?_; rintro e W' ⟨rfl, hW'⟩; have hW'' := hW'.symm; clear hW'; subst hW'') | (go_at_call 22; with_reducible refine (HO12.out _).mono ?_; rintro e W' ⟨rfl, hW'⟩; have hW'' := hW'.symm; clear hW'; subst hW''))
                go_meet
                exact ⟨x12, 1, 1, 1, bad_lat (k := 0) (by omega) O12.out, u_set1 HU4.out rfl, bset hB4 hUle _⟩
              · go_wp2_with (first | (go_at_call 16; with_reducible refine (HK4.out _).mono ?_; rintro e W' ⟨rfl, hW'⟩; have hW'' := hW'.symm; clear hW'; subst hW'') | (go_at_call 22; with_reducible refine (HO12.out _).mono ?_; rintro e W' ⟨rfl, hW'⟩; have hW'' := hW'.symm; clear hW'; subst hW''))
                go_meet
                exact ⟨1, x12, 1, 1, bad_lat (k := 1) (by omega) O12.out, u_set1 HU4.out rfl, bset hB4 hUle _⟩
              · go_wp2_with (first | (go_at_call 16; with_reducible refine (HK4.out _).mono ?_; rintro e W' ⟨rfl, hW'⟩; have hW'' := hW'.symm; clear hW'; subst hW'') | (go_at_call 22; with_reducible refine (HO12.out _).mono ?_; rintro e W' ⟨rfl, hW'⟩; have hW'' := hW'.symm; clear hW'; subst hW''))
                go_meet
                exact ⟨1, 1, x12, 1, bad_lat (k := 2) (by omega) O12.out, u_set1 HU4.out rfl, bset hB4 hUle _⟩
              · go_wp2_with (first | (go_at_call 16; with_reducible refine (HK4.out _).mono ?_; rintro e W' ⟨rfl, hW'⟩; have hW'' := hW'.symm; clear hW'; subst hW'') | (go_at_call 22; with_reducible refine (HO12.out _).mono ?_; rintro e W' ⟨rfl, hW'⟩; have hW'' := hW'.symm; clear hW'; subst hW''))
                go_meet
                exact ⟨1, 1, 1, x12, bad_lat (k := 3) (by omega) O12.out, u_set1 HU4.out rfl, bset hB4 hUle _⟩
            case rest =>
              obtain ⟨l0, l1, l2, l3, hrc, hU5, hB5⟩ := hcut
              rename World => W5
              have HRC5 := hide hrc
              clear hrc q0 q1 q2 q3 q4' q5' q6 q7 q8 qf hlU hB4
              obtain ⟨q0, q1, q2, q3, q4', q5', q6, q7, q8, qf, hlU⟩ := u_cells hU5
              have HU5 := hide hU5
              clear hU5
              go_upto_region 34 with (first | (go_at_call 13; refine (R3'.out _ _ _ _ _ _ _ _ _ _ 4 ?_ HRC5.out (by decide)).mono ?_; (repeat' (first | with_reducible assumption | with_reducible exact Below.refl _ _ | with_reducible refine bal ?_ _ | with_reducible refine bset ?_ ?_ _)); rintro e wi ⟨pi, ci, ti, ki, rfl, hbi⟩; obtain ⟨hci, hfi⟩ := bcell hbi; have hBi : Below W2.heap.size W2 wi := (bcall (by (repeat' (first | with_reducible assumption | with_reducible exact Below.refl _ _ | with_reducible refine bal ?_ _ | with_reducible refine bset ?_ ?_ _))) hbi); have hli : C < wi.heap.size := (Nat.lt_of_lt_of_le hltC2 hBi.size); have hui : U < wi.heap.size := (Nat.lt_of_lt_of_le hlU (by have := hbi.size; simpa using this))))
              go_cut [] from 163 to 163 (fun wx => wx.heap[U]? = some (.cells #[.int .i64 1, .int .i64 1, .int .i64 1, .int .i64 1, .int .i64 1, .int .i64 1, .int .i64 1, .int .i64 1, .int .i64 1] 24 (0, 0)) ∧ Below W2.heap.size W2 wx)
              case first =>
                have hUU := hide (ho_at (x := .cells #[.int .i64 0, .int .i64 0, .int .i64 0, .int .i64 0, .int .i64 0, .int .i64 0, .int .i64 0, .int .i64 0, .slice pi 0 ci, .int .i64 0, .int .i64 0, .int .i64 0, .int .i64 0] 33) (u_keep (HU5.out) hbi))
                go_wp2_with (refine wpList_store_row rfl 24 (.tmp 27) (.tmp 163) rfl U #[.int .i64 1, .int .i64 1, .int .i64 1, .int .i64 1, .int .i64 1, .int .i64 1, .int .i64 1, .int .i64 1, .int .i64 1] (by simp [Act.eval]) (by simp [Act.eval]) 24 _ hUU.out Try.sizeCfg (by simp) (by simp [Value.oneCell']) ?_)
                go_meet
                exact ⟨setRow_heap _ _ _ _ _ _ hUU.out, bel_row (bal hBi _) hUle⟩
              case rest =>
                obtain ⟨hU6, hB6⟩ := hcut
                rename World => W6
                clear q0 q1 q2 q3 q4' q5' q6 q7 q8 qf hlU hB5 hBi hbi hci hfi hli hui
                obtain ⟨q0, q1, q2, q3, q4', q5', q6, q7, q8, qf, hlU⟩ := u_cells hU6
                have HU6 := hide hU6
                clear hU6
                have HRC6 : Hid (refuseC [1, 1, 1, 2] [1, 1, 1, 1] 1 = 4) := (by decide : refuseC [1, 1, 1, 2] [1, 1, 1, 1] 1 = 4)
                go_upto_region 37 with (first | (go_at_call 13; refine (R3'.out _ _ _ _ _ _ _ _ _ _ 4 ?_ HRC6.out (by decide)).mono ?_; (repeat' (first | with_reducible assumption | with_reducible exact Below.refl _ _ | with_reducible refine bal ?_ _ | with_reducible refine bset ?_ ?_ _)); rintro e wj ⟨pj, cj, tj, kj, rfl, hbj⟩; obtain ⟨hcj, hfj⟩ := bcell hbj; have hBj : Below W2.heap.size W2 wj := (bcall (by (repeat' (first | with_reducible assumption | with_reducible exact Below.refl _ _ | with_reducible refine bal ?_ _ | with_reducible refine bset ?_ ?_ _))) hbj); have hlj : C < wj.heap.size := (Nat.lt_of_lt_of_le hltC2 hBj.size); have huj : U < wj.heap.size := (Nat.lt_of_lt_of_le hlU (by have := hbj.size; simpa using this))))
                go_cut [] from 173 to 173 (fun wx => wx.heap[U]? = some (.cells #[.int .i64 1, .int .i64 1, .int .i64 1, .int .i64 1, .int .i64 1, .int .i64 1, .int .i64 1, .int .i64 1, .int .i64 1] 24 (0, 0)) ∧ Below W2.heap.size W2 wx)
                case first =>
                  have hUU := hide (ho_at (x := .cells #[.int .i64 0, .int .i64 0, .int .i64 0, .int .i64 0, .int .i64 0, .int .i64 0, .int .i64 0, .int .i64 0, .slice pj 0 cj, .int .i64 0, .int .i64 0, .int .i64 0, .int .i64 0] 33) (u_keep (u_set1 HU6.out rfl) hbj))
                  go_wp2_with (refine wpList_store_row rfl 24 (.tmp 27) (.tmp 173) rfl U #[.int .i64 1, .int .i64 1, .int .i64 1, .int .i64 1, .int .i64 1, .int .i64 1, .int .i64 1, .int .i64 1, .int .i64 1] (by simp [Act.eval]) (by simp [Act.eval]) 24 _ hUU.out Try.sizeCfg (by simp) (by simp [Value.oneCell']) ?_)
                  go_meet
                  exact ⟨setRow_heap _ _ _ _ _ _ hUU.out, bel_row (bal hBj _) hUle⟩
                case rest =>
                  obtain ⟨hU7, hB7⟩ := hcut
                  rename World => W7
                  clear q0 q1 q2 q3 q4' q5' q6 q7 q8 qf hlU hB6 hBj hbj hcj hfj hlj huj
                  obtain ⟨q0, q1, q2, q3, q4', q5', q6, q7, q8, qf, hlU⟩ := u_cells hU7
                  have HRC7 : Hid (refuseC [1, 1, 1, 1] [1, 1, 1, 1] x3 = 5) := bad_bus O3.out
                  have HAL : Hid (∀ W pp cc k, Calls Try.prog 15 #[.agg #[.int .i64 0, .int .i64 0, .int .i64 0, .int .i64 0, .int .i64 0, .int .i64 0, .int .i64 0, .int .i64 0, .slice pp 0 cc, .int .i64 0, .int .i64 0, .int .i64 0, .int .i64 k], .agg #[.int .i64 0, .int .i64 0, .int .i64 0, .int .i64 0, .int .i64 0, .int .i64 0, .int .i64 0, .int .i64 0, .slice none 0 0, .int .i64 0, .int .i64 0, .int .i64 0, .int .i64 0]] W fun e w' => e = .returned (.bool true) ∧ Below W.heap.size W w') := fun W pp cc k => by
                    refine (alike_any 0 0 0 0 0 0 0 0 0 0 0 k 0 0 0 0 0 0 0 0 0 0 0 0 pp none cc 0 [] [] W (.inl rfl) (.inl rfl) (by decide) (by decide)).mono ?_
                    rintro e w' ⟨q, rfl, h, hb⟩
                    exact ⟨by rw [h ⟨rfl, rfl, rfl, rfl, rfl⟩], hb⟩
                  obtain ⟨_, y0, y1, y2, y3, y4, y5, y6, y7, ⟨pn, cn, y8⟩, y9, y10, y11, y12⟩ := HZ1.out
                  obtain ⟨_, z0, z1, z2, z3, z4, z5, z6, z7, ⟨pm, cm, z8⟩, z9, z10, z11, z12⟩ := HZ2.out
                  have n0 : ∀ w', Below W2.heap.size W2 w' → w'.cell? ⟨N, 0, none⟩ = some (.int .i64 0) := fun w' h => by rw [h.cell (p := ⟨N, 0, none⟩) hltN', HB2.out.cell (p := ⟨N, 0, none⟩) HLN.out]; exact y0
                  have m0 : ∀ w', Below W2.heap.size W2 w' → w'.cell? ⟨N2, 0, none⟩ = some (.int .i64 0) := fun w' h => by rw [h.cell (p := ⟨N2, 0, none⟩) hltN2]; exact z0
                  have n1 : ∀ w', Below W2.heap.size W2 w' → w'.cell? ⟨N, 1, none⟩ = some (.int .i64 0) := fun w' h => by rw [h.cell (p := ⟨N, 1, none⟩) hltN', HB2.out.cell (p := ⟨N, 1, none⟩) HLN.out]; exact y1
                  have m1 : ∀ w', Below W2.heap.size W2 w' → w'.cell? ⟨N2, 1, none⟩ = some (.int .i64 0) := fun w' h => by rw [h.cell (p := ⟨N2, 1, none⟩) hltN2]; exact z1
                  have n2 : ∀ w', Below W2.heap.size W2 w' → w'.cell? ⟨N, 2, none⟩ = some (.int .i64 0) := fun w' h => by rw [h.cell (p := ⟨N, 2, none⟩) hltN', HB2.out.cell (p := ⟨N, 2, none⟩) HLN.out]; exact y2
                  have m2 : ∀ w', Below W2.heap.size W2 w' → w'.cell? ⟨N2, 2, none⟩ = some (.int .i64 0) := fun w' h => by rw [h.cell (p := ⟨N2, 2, none⟩) hltN2]; exact z2
                  have n3 : ∀ w', Below W2.heap.size W2 w' → w'.cell? ⟨N, 3, none⟩ = some (.int .i64 0) := fun w' h => by rw [h.cell (p := ⟨N, 3, none⟩) hltN', HB2.out.cell (p := ⟨N, 3, none⟩) HLN.out]; exact y3
                  have m3 : ∀ w', Below W2.heap.size W2 w' → w'.cell? ⟨N2, 3, none⟩ = some (.int .i64 0) := fun w' h => by rw [h.cell (p := ⟨N2, 3, none⟩) hltN2]; exact z3
                  have n4 : ∀ w', Below W2.heap.size W2 w' → w'.cell? ⟨N, 4, none⟩ = some (.int .i64 0) := fun w' h => by rw [h.cell (p := ⟨N, 4, none⟩) hltN', HB2.out.cell (p := ⟨N, 4, none⟩) HLN.out]; exact y4
                  have m4 : ∀ w', Below W2.heap.size W2 w' → w'.cell? ⟨N2, 4, none⟩ = some (.int .i64 0) := fun w' h => by rw [h.cell (p := ⟨N2, 4, none⟩) hltN2]; exact z4
                  have n5 : ∀ w', Below W2.heap.size W2 w' → w'.cell? ⟨N, 5, none⟩ = some (.int .i64 0) := fun w' h => by rw [h.cell (p := ⟨N, 5, none⟩) hltN', HB2.out.cell (p := ⟨N, 5, none⟩) HLN.out]; exact y5
                  have m5 : ∀ w', Below W2.heap.size W2 w' → w'.cell? ⟨N2, 5, none⟩ = some (.int .i64 0) := fun w' h => by rw [h.cell (p := ⟨N2, 5, none⟩) hltN2]; exact z5
                  have n6 : ∀ w', Below W2.heap.size W2 w' → w'.cell? ⟨N, 6, none⟩ = some (.int .i64 0) := fun w' h => by rw [h.cell (p := ⟨N, 6, none⟩) hltN', HB2.out.cell (p := ⟨N, 6, none⟩) HLN.out]; exact y6
                  have m6 : ∀ w', Below W2.heap.size W2 w' → w'.cell? ⟨N2, 6, none⟩ = some (.int .i64 0) := fun w' h => by rw [h.cell (p := ⟨N2, 6, none⟩) hltN2]; exact z6
                  have n7 : ∀ w', Below W2.heap.size W2 w' → w'.cell? ⟨N, 7, none⟩ = some (.int .i64 0) := fun w' h => by rw [h.cell (p := ⟨N, 7, none⟩) hltN', HB2.out.cell (p := ⟨N, 7, none⟩) HLN.out]; exact y7
                  have m7 : ∀ w', Below W2.heap.size W2 w' → w'.cell? ⟨N2, 7, none⟩ = some (.int .i64 0) := fun w' h => by rw [h.cell (p := ⟨N2, 7, none⟩) hltN2]; exact z7
                  have n8 : ∀ w', Below W2.heap.size W2 w' → w'.cell? ⟨N, 8, none⟩ = some (.slice pn 0 cn) := fun w' h => by rw [h.cell (p := ⟨N, 8, none⟩) hltN', HB2.out.cell (p := ⟨N, 8, none⟩) HLN.out]; exact y8
                  have m8 : ∀ w', Below W2.heap.size W2 w' → w'.cell? ⟨N2, 8, none⟩ = some (.slice pm 0 cm) := fun w' h => by rw [h.cell (p := ⟨N2, 8, none⟩) hltN2]; exact z8
                  have n9 : ∀ w', Below W2.heap.size W2 w' → w'.cell? ⟨N, 9, none⟩ = some (.int .i64 0) := fun w' h => by rw [h.cell (p := ⟨N, 9, none⟩) hltN', HB2.out.cell (p := ⟨N, 9, none⟩) HLN.out]; exact y9
                  have m9 : ∀ w', Below W2.heap.size W2 w' → w'.cell? ⟨N2, 9, none⟩ = some (.int .i64 0) := fun w' h => by rw [h.cell (p := ⟨N2, 9, none⟩) hltN2]; exact z9
                  have n10 : ∀ w', Below W2.heap.size W2 w' → w'.cell? ⟨N, 10, none⟩ = some (.int .i64 0) := fun w' h => by rw [h.cell (p := ⟨N, 10, none⟩) hltN', HB2.out.cell (p := ⟨N, 10, none⟩) HLN.out]; exact y10
                  have m10 : ∀ w', Below W2.heap.size W2 w' → w'.cell? ⟨N2, 10, none⟩ = some (.int .i64 0) := fun w' h => by rw [h.cell (p := ⟨N2, 10, none⟩) hltN2]; exact z10
                  have n11 : ∀ w', Below W2.heap.size W2 w' → w'.cell? ⟨N, 11, none⟩ = some (.int .i64 0) := fun w' h => by rw [h.cell (p := ⟨N, 11, none⟩) hltN', HB2.out.cell (p := ⟨N, 11, none⟩) HLN.out]; exact y11
                  have m11 : ∀ w', Below W2.heap.size W2 w' → w'.cell? ⟨N2, 11, none⟩ = some (.int .i64 0) := fun w' h => by rw [h.cell (p := ⟨N2, 11, none⟩) hltN2]; exact z11
                  have n12 : ∀ w', Below W2.heap.size W2 w' → w'.cell? ⟨N, 12, none⟩ = some (.int .i64 0) := fun w' h => by rw [h.cell (p := ⟨N, 12, none⟩) hltN', HB2.out.cell (p := ⟨N, 12, none⟩) HLN.out]; exact y12
                  have m12 : ∀ w', Below W2.heap.size W2 w' → w'.cell? ⟨N2, 12, none⟩ = some (.int .i64 0) := fun w' h => by rw [h.cell (p := ⟨N2, 12, none⟩) hltN2]; exact z12
                  clear y0 y1 y2 y3 y4 y5 y6 y7 y8 y9 y10 y11 y12 z0 z1 z2 z3 z4 z5 z6 z7 z8 z9 z10 z11 z12
                  go_wp2_with (first | (go_at_call 13; refine (R3'.out _ _ _ _ _ _ _ _ _ _ 5 ?_ HRC7.out (by decide)).mono ?_; (repeat' (first | with_reducible assumption | with_reducible exact Below.refl _ _ | with_reducible refine bal ?_ _ | with_reducible refine bset ?_ ?_ _)); rintro e wk ⟨pk, ck, tk, kk, rfl, hbk⟩; obtain ⟨hck, hfk⟩ := bcell hbk; have hBk : Below W2.heap.size W2 wk := (bcall (by (repeat' (first | with_reducible assumption | with_reducible exact Below.refl _ _ | with_reducible refine bal ?_ _ | with_reducible refine bset ?_ ?_ _))) hbk); have hnk : N < wk.heap.size := (Nat.lt_of_lt_of_le hltN' hBk.size); have hmk : N2 < wk.heap.size := (Nat.lt_of_lt_of_le hltN2 hBk.size); have hlk : C < wk.heap.size := (Nat.lt_of_lt_of_le hltC2 hBk.size); have huk : U < wk.heap.size := (Nat.lt_of_lt_of_le hlU (by have := hbk.size; simpa using this))) | (go_at_call 22; with_reducible refine (HO3.out _).mono ?_; rintro e W' ⟨rfl, hW'⟩; have hW'' := hW'.symm; clear hW'; subst hW'') | (go_at_call 15; refine (HAL.out _ _ _ _).mono ?_; first | (have hBl' := hBl; rintro e wm ⟨rfl, hbm⟩; have hBm : Below W2.heap.size W2 wm := (bcall (by (repeat' (first | with_reducible assumption | with_reducible exact Below.refl _ _ | with_reducible refine bal ?_ _ | with_reducible refine bset ?_ ?_ _))) hbm); have hnm : N < wm.heap.size := (Nat.lt_of_lt_of_le hltN' hBm.size); have hmm : N2 < wm.heap.size := (Nat.lt_of_lt_of_le hltN2 hBm.size)) | (rintro e wl ⟨rfl, hbl⟩; have hBl : Below W2.heap.size W2 wl := (bcall (by (repeat' (first | with_reducible assumption | with_reducible exact Below.refl _ _ | with_reducible refine bal ?_ _ | with_reducible refine bset ?_ ?_ _))) hbl); have hnl : N < wl.heap.size := (Nat.lt_of_lt_of_le hltN' hBl.size); have hml : N2 < wl.heap.size := (Nat.lt_of_lt_of_le hltN2 hBl.size))))
                  go_ret
                  exact ⟨rfl, bcall HBW.out hBm⟩

end Go.Proofs.Ytmeiogoodbnkkaa
