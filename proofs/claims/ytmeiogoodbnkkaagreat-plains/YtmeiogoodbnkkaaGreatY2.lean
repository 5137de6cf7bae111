/- One call of the statement: Plain. -/
import Derived.Test.YtmeiogoodbnkkaaGreatY1
namespace Go.Proofs.YtmeiogoodbnkkaaGreat
open Go.RowKit

theorem row_ne {w : World} {B k : Nat} {e e' : TypeId} {v : Value} {n : Nat} {xs : List Value} {cs : Array Value} (h : w.ownsRow B e 1 v n xs) (hk : w.heap[k]? = some (.cells cs e' (0, 0))) (hne : e ≠ e') : v.ownBlock ≠ some k := by
  intro hv
  obtain ⟨cur, hh⟩ := row_of h hv
  rw [hk] at hh
  simp only [Option.some.injEq, Obj.cells.injEq] at hh
  exact hne hh.2.1.symm

set_option maxRecDepth 100000 in
set_option maxHeartbeats 8000000 in
theorem one_any (B bb : Nat) (wv aw ew : Value) (ms : List (Value × Nat)) (ys : List (Value × Value × List Int)) (p pm : Option Addr) (c cm : Nat) (prog : List Ord) (mem : List Int) (steps : Int) (w : World)
    (hb : Bk w B bb wv aw ew ms (ys.map (·.1)) (ys.map (·.2.1)) ys) (hyl : ys.length ≤ 3) (hml : ms.length ≤ 1000) (hp : RdO w p prog) (hm : Rd w pm mem) (hpB : Under p B) (hmB : Under pm B) (hl1 : prog.length * 40 ≤ 140737488351232) (hl2 : mem.length * 8 ≤ 140737488351232) :
    Calls Tryz.prog 6 #[.pointer (some ⟨bb, 0, none⟩), .agg #[.int .i64 1, .int .i64 0, .int .i64 0, .int .i64 0, .int .i64 0, .int .i64 0, .int .i64 0, .int .i64 0, .int .i64 0, .int .i64 0, .slice p prog.length c, .slice pm mem.length cm, .int .i64 steps]] w fun e w' =>
      e = .returned (.bool true) ∧ Below B w w' ∧ ∃ aw' ew' y1 y2, Bk w' B bb wv aw' ew' ms ((ys ++ [y1, y2]).map (·.1)) ((ys ++ [y1, y2]).map (·.2.1)) (ys ++ [y1, y2]) ∧ Tight y1.1 ∧ Tight y2.1 := by
  obtain ⟨hreg, hl16⟩ := answer_fine prog mem steps
  obtain ⟨x0, x1, x2, x3, x4, x5, x6, x7, hx⟩ := list8 hreg
  obtain ⟨nx, hnx⟩ : ∃ x, ((answer prog mem steps).1.next : Int) = x := ⟨_, rfl⟩
  obtain ⟨st, hst⟩ : ∃ x, (answer prog mem steps).2.1 = x := ⟨_, rfl⟩
  obtain ⟨tr, htr⟩ : ∃ x, (answer prog mem steps).2.2.1 = x := ⟨_, rfl⟩
  obtain ⟨sp, hsp⟩ : ∃ x, ((answer prog mem steps).1.steps : Int) = x := ⟨_, rfl⟩
  obtain ⟨er, her⟩ : ∃ x, (answer prog mem steps).2.2.2 = x := ⟨_, rfl⟩
  obtain ⟨l, hl⟩ : ∃ x, (answer prog mem steps).1.mem = x := ⟨_, rfl⟩
  rw [hl] at hl16
  have hpl : (prog.length : Int) ≤ 1000000000000000 := by omega
  have hmm : (mem.length : Int) ≤ 1000000000000000 := by omega
  have PL := hide (fun p pm c cm W h1 h2 => plain_lit p pm c cm prog mem steps W h1 h2 hpl hmm hx hnx hst htr hsp her hl)
  have RL := hide (fun p pm c cm W h1 h2 => ref_lit p pm c cm prog mem steps W h1 h2 hpl hmm hx hnx hst htr hsp her hl)
  have HB := hide hb
  have HP := hide hp
  have HM := hide hm
  have HPB := hide hpB
  have HMB := hide hmB
  have hBw := hb.small
  have hbbz := lt_of_blk hb.blk
  clear hreg hx hnx hst htr hsp her hl hb hp hm hpB hmB hpl hmm
  go_enter Tryz.func6, Tryz.ntmps6
  go_wp2_with fail
  refine (handedOrders_any _ _ _ _ (HP.out.below (Nat.le_refl _) ((Below.refl _ _).alloc (Nat.le_refl _) _)) hl1).mono ?_
  rintro e w1 ⟨rfl, hb1, hO1⟩
  have HN1 := hide (below_same hb1 (heap_alloc_new w (.cells #[.int .i64 1, .int .i64 0, .int .i64 0, .int .i64 0, .int .i64 0, .int .i64 0, .int .i64 0, .int .i64 0, .int .i64 0, .int .i64 0, .slice p prog.length c, .slice pm mem.length cm, .int .i64 steps] 34)))
  have B1 : Hid (Below w.heap.size w w1) := ((Below.refl _ _).alloc (Nat.le_refl _) _).trans (hb1.mono (by simp))
  have hO1' : HandO w1 (w.heap.size + 1) prog := by simpa using hO1
  have HO1 := hide hO1'
  have hP1 := lt_of_blk hO1'.choose_spec.1
  clear hb1 hO1 hO1'
  have a0 : w1.cell? ⟨w.heap.size, 0, none⟩ = some (.int .i64 1) := cell_of_row w1 _ 0 _ _ _ HN1.out
  have a10 : w1.cell? ⟨w.heap.size, 10, none⟩ = some (.slice p prog.length c) := cell_of_row w1 _ 10 _ _ _ HN1.out
  have a11 : w1.cell? ⟨w.heap.size, 11, none⟩ = some (.slice pm mem.length cm) := cell_of_row w1 _ 11 _ _ _ HN1.out
  have a12 : w1.cell? ⟨w.heap.size, 12, none⟩ = some (.int .i64 steps) := cell_of_row w1 _ 12 _ _ _ HN1.out
  have az := lt_of_blk HN1.out
  go_wp2_with fail
  clear a0 a10 a11 a12
  refine (handedWords_any _ _ _ _ (HM.out.below (Nat.le_refl _) B1.out) hl2).mono ?_
  rintro e w2 ⟨rfl, hb2, hW2⟩
  have HN2 := hide (below_same hb2 HN1.out)
  have B2 : Hid (Below w.heap.size w w2) := B1.out.trans (hb2.mono (by have := B1.out.size; omega))
  have HO2 := hide (HO1.out.keep (hb2.block _ (lt_of_blk HO1.out.choose_spec.1)))
  have HW2 := hide hW2
  clear hb2 hW2 HO1 HN1
  have a0 : w2.cell? ⟨w.heap.size, 0, none⟩ = some (.int .i64 1) := cell_of_row w2 _ 0 _ _ _ HN2.out
  have a10 : w2.cell? ⟨w.heap.size, 10, none⟩ = some (.slice p prog.length c) := cell_of_row w2 _ 10 _ _ _ HN2.out
  have a11 : w2.cell? ⟨w.heap.size, 11, none⟩ = some (.slice pm mem.length cm) := cell_of_row w2 _ 11 _ _ _ HN2.out
  have a12 : w2.cell? ⟨w.heap.size, 12, none⟩ = some (.int .i64 steps) := cell_of_row w2 _ 12 _ _ _ HN2.out
  have az := lt_of_blk HN2.out
  go_wp2_with fail
  clear a0 a10 a11 a12
  refine (PL.out _ _ _ _ _ HO2.out.rd HW2.out.rd).mono ?_
  rintro e w3 ⟨p3, c3, rfl, hb3, hown3, htg3⟩
  have HN3 := hide (below_same hb3 HN2.out)
  have B3 : Hid (Below w.heap.size w w3) := B2.out.trans (hb3.mono (by have := B2.out.size; omega))
  have HO3 := hide (HO2.out.keep (hb3.block _ (lt_of_blk HO2.out.choose_spec.1)))
  have HW3 := hide (HW2.out.keep (hb3.block _ (lt_of_blk HW2.out.choose_spec.1)))
  have HV3 := hide hown3
  have HT3 := hide htg3
  have hz3 : w2.heap.size ≤ w3.heap.size := hb3.size
  have hM2 := lt_of_blk HW2.out.choose_spec.1
  clear hb3 hown3 htg3 HO2 HW2 HN2
  have a0 : w3.cell? ⟨w.heap.size, 0, none⟩ = some (.int .i64 1) := cell_of_row w3 _ 0 _ _ _ HN3.out
  have a10 : w3.cell? ⟨w.heap.size, 10, none⟩ = some (.slice p prog.length c) := cell_of_row w3 _ 10 _ _ _ HN3.out
  have a11 : w3.cell? ⟨w.heap.size, 11, none⟩ = some (.slice pm mem.length cm) := cell_of_row w3 _ 11 _ _ _ HN3.out
  have a12 : w3.cell? ⟨w.heap.size, 12, none⟩ = some (.int .i64 steps) := cell_of_row w3 _ 12 _ _ _ HN3.out
  have az := lt_of_blk HN3.out
  go_wp2_with fail
  clear a0 a10 a11 a12
  have HS3 := hide (heap_alloc_new w3 (.cells #[.int .i64 x0, .int .i64 x1, .int .i64 x2, .int .i64 x3, .int .i64 x4, .int .i64 x5, .int .i64 x6, .int .i64 x7, .slice p3 l.length c3, .int .i64 nx, .int .i64 st, .int .i64 tr, .int .i64 sp] 46))
  refine (PL.out _ _ _ _ _ (HO3.out.keep (Below.heap_alloc _ _ _ (lt_of_blk HO3.out.choose_spec.1))).rd (HW3.out.keep (Below.heap_alloc _ _ _ (lt_of_blk HW3.out.choose_spec.1))).rd).mono ?_
  rintro e w4 ⟨p4, c4, rfl, hb4, hown4, htg4⟩
  have HN4 := hide (below_same hb4 (alloc_same HN3.out))
  have B4 : Hid (Below w.heap.size w w4) := (B3.out.alloc (by have := B3.out.size; omega) _).trans (hb4.mono (by have := B3.out.size; simp; omega))
  have G4 : Hid (w3.grownBy w4 none) := grown_trans (World.grownBy_alloc w3 _ none) (grown_of_below hb4)
  have HS4 := hide (below_same hb4 HS3.out)
  have HV4 := hide hown4
  have HT4 := hide htg4
  have hz4 : w3.heap.size < w4.heap.size := lt_of_blk HS4.out
  clear hb4 hown4 htg4 HN3 HS3
  have a0 : w4.cell? ⟨w.heap.size, 0, none⟩ = some (.int .i64 1) := cell_of_row w4 _ 0 _ _ _ HN4.out
  have a10 : w4.cell? ⟨w.heap.size, 10, none⟩ = some (.slice p prog.length c) := cell_of_row w4 _ 10 _ _ _ HN4.out
  have a11 : w4.cell? ⟨w.heap.size, 11, none⟩ = some (.slice pm mem.length cm) := cell_of_row w4 _ 11 _ _ _ HN4.out
  have a12 : w4.cell? ⟨w.heap.size, 12, none⟩ = some (.int .i64 steps) := cell_of_row w4 _ 12 _ _ _ HN4.out
  have az := lt_of_blk HN4.out
  go_wp2_with fail
  clear a0 a10 a11 a12
  have HU4 := hide (heap_alloc_new w4 (.cells #[.int .i64 x0, .int .i64 x1, .int .i64 x2, .int .i64 x3, .int .i64 x4, .int .i64 x5, .int .i64 x6, .int .i64 x7, .slice p4 l.length c4, .int .i64 nx, .int .i64 st, .int .i64 tr, .int .i64 sp] 46))
  refine (RL.out _ _ _ _ _ (HP.out.below (Nat.le_refl _) (B4.out.alloc (by have := B4.out.size; omega) _)) (HM.out.below (Nat.le_refl _) (B4.out.alloc (by have := B4.out.size; omega) _))).mono ?_
  rintro e w5 ⟨p5, c5, rfl, hb5, hown5⟩
  have HN5 := hide (below_same hb5 (alloc_same HN4.out))
  have B5 : Hid (Below w.heap.size w w5) := (B4.out.alloc (by have := B4.out.size; omega) _).trans (hb5.mono (by have := B4.out.size; simp; omega))
  have G5 : Hid (w4.grownBy w5 none) := grown_trans (World.grownBy_alloc w4 _ none) (grown_of_below hb5)
  have HS5 := hide (below_same hb5 (alloc_same HS4.out))
  have HU5 := hide (below_same hb5 HU4.out)
  have HV5 := hide hown5
  have hz5 : w4.heap.size < w5.heap.size := lt_of_blk HU5.out
  have hz5' : w3.heap.size < w5.heap.size := lt_of_blk HS5.out
  clear hb5 hown5 HN4 HS4 HU4
  have s0 : w5.cell? ⟨w3.heap.size, 0, none⟩ = some (.int .i64 x0) := cell_of_row w5 _ 0 _ _ _ HS5.out
  have s1 : w5.cell? ⟨w3.heap.size, 1, none⟩ = some (.int .i64 x1) := cell_of_row w5 _ 1 _ _ _ HS5.out
  have s2 : w5.cell? ⟨w3.heap.size, 2, none⟩ = some (.int .i64 x2) := cell_of_row w5 _ 2 _ _ _ HS5.out
  have s3 : w5.cell? ⟨w3.heap.size, 3, none⟩ = some (.int .i64 x3) := cell_of_row w5 _ 3 _ _ _ HS5.out
  have s4 : w5.cell? ⟨w3.heap.size, 4, none⟩ = some (.int .i64 x4) := cell_of_row w5 _ 4 _ _ _ HS5.out
  have s5 : w5.cell? ⟨w3.heap.size, 5, none⟩ = some (.int .i64 x5) := cell_of_row w5 _ 5 _ _ _ HS5.out
  have s6 : w5.cell? ⟨w3.heap.size, 6, none⟩ = some (.int .i64 x6) := cell_of_row w5 _ 6 _ _ _ HS5.out
  have s7 : w5.cell? ⟨w3.heap.size, 7, none⟩ = some (.int .i64 x7) := cell_of_row w5 _ 7 _ _ _ HS5.out
  have s8 : w5.cell? ⟨w3.heap.size, 8, none⟩ = some (.slice p3 l.length c3) := cell_of_row w5 _ 8 _ _ _ HS5.out
  have s9 : w5.cell? ⟨w3.heap.size, 9, none⟩ = some (.int .i64 nx) := cell_of_row w5 _ 9 _ _ _ HS5.out
  have s10 : w5.cell? ⟨w3.heap.size, 10, none⟩ = some (.int .i64 st) := cell_of_row w5 _ 10 _ _ _ HS5.out
  have s11 : w5.cell? ⟨w3.heap.size, 11, none⟩ = some (.int .i64 tr) := cell_of_row w5 _ 11 _ _ _ HS5.out
  have s12 : w5.cell? ⟨w3.heap.size, 12, none⟩ = some (.int .i64 sp) := cell_of_row w5 _ 12 _ _ _ HS5.out
  go_wp2_with fail
  clear s0 s1 s2 s3 s4 s5 s6 s7 s8 s9 s10 s11 s12
  have GA5 := World.grownBy_alloc w5 (.cells #[.int .i64 x0, .int .i64 x1, .int .i64 x2, .int .i64 x3, .int .i64 x4, .int .i64 x5, .int .i64 x6, .int .i64 x7, .slice p5 l.length c5, .int .i64 nx, .int .i64 st, .int .i64 tr, .int .i64 sp] 46) none
  have HT5 := hide (heap_alloc_new w5 (.cells #[.int .i64 x0, .int .i64 x1, .int .i64 x2, .int .i64 x3, .int .i64 x4, .int .i64 x5, .int .i64 x6, .int .i64 x7, .slice p5 l.length c5, .int .i64 nx, .int .i64 st, .int .i64 tr, .int .i64 sp] 46))
  have V3 := hide (((HV3.out.grow G4.out).grow G5.out).grow GA5)
  have V4 := hide ((HV4.out.grow G5.out).grow GA5)
  have V5 := hide (HV5.out.grow GA5)
  obtain ⟨_, _, e3, r3⟩ := V3.out.slice
  obtain ⟨_, _, e4, r4⟩ := V4.out.slice
  obtain ⟨_, _, e5, r5⟩ := V5.out.slice
  simp only [Value.slice.injEq, true_and] at e3 e4 e5
  obtain ⟨rfl, rfl⟩ := e3
  obtain ⟨rfl, rfl⟩ := e4
  obtain ⟨rfl, rfl⟩ := e5
  have R3 := hide r3
  have R4 := hide r4
  have R5 := hide r5
  clear r3 r4 r5
  refine (sameState_any _ _ _ _ _ _ _ _ _ _ _ _ _ _ _ _ _ _ R3.out R5.out (by omega)).mono ?_
  rintro e w6 ⟨rfl, hb6⟩
  have hzs : w.heap.size ≤ w2.heap.size := B2.out.size
  have hz1 : w.heap.size + 1 < w1.heap.size := hP1
  obtain ⟨curO, o1, o2⟩ := HO3.out
  obtain ⟨curW, q1, q2⟩ := HW3.out
  have hg6 := grown_of_below hb6
  have PO6 := hide (below_same hb6 (alloc_same (x := .cells #[.int .i64 x0, .int .i64 x1, .int .i64 x2, .int .i64 x3, .int .i64 x4, .int .i64 x5, .int .i64 x6, .int .i64 x7, .slice p5 l.length c5, .int .i64 nx, .int .i64 st, .int .i64 tr, .int .i64 sp] 46) ((G5.out.block _ (by have := lt_of_blk o1; have := G4.out.size; omega) (by simp)).trans ((G4.out.block _ (lt_of_blk o1) (by simp)).trans o1))))
  have PW6 := hide (below_same hb6 (alloc_same (x := .cells #[.int .i64 x0, .int .i64 x1, .int .i64 x2, .int .i64 x3, .int .i64 x4, .int .i64 x5, .int .i64 x6, .int .i64 x7, .slice p5 l.length c5, .int .i64 nx, .int .i64 st, .int .i64 tr, .int .i64 sp] 46) ((G5.out.block _ (by have := lt_of_blk q1; have := G4.out.size; omega) (by simp)).trans ((G4.out.block _ (lt_of_blk q1) (by simp)).trans q1))))
  have O2 := hide o2
  have Q2 := hide q2
  have HN6 := hide (below_same hb6 (alloc_same HN5.out))
  have HS6 := hide (below_same hb6 (alloc_same HS5.out))
  have HU6 := hide (below_same hb6 (alloc_same HU5.out))
  have HT6 := hide (below_same hb6 HT5.out)
  have B6 : Hid (Below w.heap.size w w6) := (B5.out.alloc (by have := B5.out.size; omega) _).trans (hb6.mono (by have := B5.out.size; simp; omega))
  have V36 := hide (V3.out.grow hg6)
  have V46 := hide (V4.out.grow hg6)
  have R46 := hide (R4.out.below (Nat.le_refl _) hb6)
  have R56 := hide (R5.out.below (Nat.le_refl _) hb6)
  clear o1 o2 q1 q2 hb6 hg6 HO3 HW3 HN5 HS5 HU5 HT5 V3 V4 V5 R3 R4 R5 HV5 GA5
  have s0 : w6.cell? ⟨w4.heap.size, 0, none⟩ = some (.int .i64 x0) := cell_of_row w6 _ 0 _ _ _ HU6.out
  have s1 : w6.cell? ⟨w4.heap.size, 1, none⟩ = some (.int .i64 x1) := cell_of_row w6 _ 1 _ _ _ HU6.out
  have s2 : w6.cell? ⟨w4.heap.size, 2, none⟩ = some (.int .i64 x2) := cell_of_row w6 _ 2 _ _ _ HU6.out
  have s3 : w6.cell? ⟨w4.heap.size, 3, none⟩ = some (.int .i64 x3) := cell_of_row w6 _ 3 _ _ _ HU6.out
  have s4 : w6.cell? ⟨w4.heap.size, 4, none⟩ = some (.int .i64 x4) := cell_of_row w6 _ 4 _ _ _ HU6.out
  have s5 : w6.cell? ⟨w4.heap.size, 5, none⟩ = some (.int .i64 x5) := cell_of_row w6 _ 5 _ _ _ HU6.out
  have s6 : w6.cell? ⟨w4.heap.size, 6, none⟩ = some (.int .i64 x6) := cell_of_row w6 _ 6 _ _ _ HU6.out
  have s7 : w6.cell? ⟨w4.heap.size, 7, none⟩ = some (.int .i64 x7) := cell_of_row w6 _ 7 _ _ _ HU6.out
  have s8 : w6.cell? ⟨w4.heap.size, 8, none⟩ = some (.slice p4 l.length c4) := cell_of_row w6 _ 8 _ _ _ HU6.out
  have s9 : w6.cell? ⟨w4.heap.size, 9, none⟩ = some (.int .i64 nx) := cell_of_row w6 _ 9 _ _ _ HU6.out
  have s10 : w6.cell? ⟨w4.heap.size, 10, none⟩ = some (.int .i64 st) := cell_of_row w6 _ 10 _ _ _ HU6.out
  have s11 : w6.cell? ⟨w4.heap.size, 11, none⟩ = some (.int .i64 tr) := cell_of_row w6 _ 11 _ _ _ HU6.out
  have s12 : w6.cell? ⟨w4.heap.size, 12, none⟩ = some (.int .i64 sp) := cell_of_row w6 _ 12 _ _ _ HU6.out
  have t0 : w6.cell? ⟨w5.heap.size, 0, none⟩ = some (.int .i64 x0) := cell_of_row w6 _ 0 _ _ _ HT6.out
  have t1 : w6.cell? ⟨w5.heap.size, 1, none⟩ = some (.int .i64 x1) := cell_of_row w6 _ 1 _ _ _ HT6.out
  have t2 : w6.cell? ⟨w5.heap.size, 2, none⟩ = some (.int .i64 x2) := cell_of_row w6 _ 2 _ _ _ HT6.out
  have t3 : w6.cell? ⟨w5.heap.size, 3, none⟩ = some (.int .i64 x3) := cell_of_row w6 _ 3 _ _ _ HT6.out
  have t4 : w6.cell? ⟨w5.heap.size, 4, none⟩ = some (.int .i64 x4) := cell_of_row w6 _ 4 _ _ _ HT6.out
  have t5 : w6.cell? ⟨w5.heap.size, 5, none⟩ = some (.int .i64 x5) := cell_of_row w6 _ 5 _ _ _ HT6.out
  have t6 : w6.cell? ⟨w5.heap.size, 6, none⟩ = some (.int .i64 x6) := cell_of_row w6 _ 6 _ _ _ HT6.out
  have t7 : w6.cell? ⟨w5.heap.size, 7, none⟩ = some (.int .i64 x7) := cell_of_row w6 _ 7 _ _ _ HT6.out
  have t8 : w6.cell? ⟨w5.heap.size, 8, none⟩ = some (.slice p5 l.length c5) := cell_of_row w6 _ 8 _ _ _ HT6.out
  have t9 : w6.cell? ⟨w5.heap.size, 9, none⟩ = some (.int .i64 nx) := cell_of_row w6 _ 9 _ _ _ HT6.out
  have t10 : w6.cell? ⟨w5.heap.size, 10, none⟩ = some (.int .i64 st) := cell_of_row w6 _ 10 _ _ _ HT6.out
  have t11 : w6.cell? ⟨w5.heap.size, 11, none⟩ = some (.int .i64 tr) := cell_of_row w6 _ 11 _ _ _ HT6.out
  have t12 : w6.cell? ⟨w5.heap.size, 12, none⟩ = some (.int .i64 sp) := cell_of_row w6 _ 12 _ _ _ HT6.out
  go_wp2_with fail
  clear s0 s1 s2 s3 s4 s5 s6 s7 s8 s9 s10 s11 s12
  clear t0 t1 t2 t3 t4 t5 t6 t7 t8 t9 t10 t11 t12
  refine (sameState_any _ _ _ _ _ _ _ _ _ _ _ _ _ _ _ _ _ _ R46.out R56.out (by omega)).mono ?_
  rintro e w7 ⟨rfl, hb7⟩
  have hg7 := grown_of_below hb7
  have PO7 := hide (below_same hb7 PO6.out)
  have PW7 := hide (below_same hb7 PW6.out)
  have HN7 := hide (below_same hb7 HN6.out)
  have HS7 := hide (below_same hb7 HS6.out)
  have HU7 := hide (below_same hb7 HU6.out)
  have B7 : Hid (Below w.heap.size w w7) := B6.out.trans (hb7.mono (by have := B6.out.size; omega))
  have V37 := hide ((V36.out.grow hg7).base (show B ≤ w2.heap.size by omega))
  have V47 := hide ((V46.out.grow hg7).base (show B ≤ (w3.alloc (.cells #[.int .i64 x0, .int .i64 x1, .int .i64 x2, .int .i64 x3, .int .i64 x4, .int .i64 x5, .int .i64 x6, .int .i64 x7, .slice p3 l.length c3, .int .i64 nx, .int .i64 st, .int .i64 tr, .int .i64 sp] 46)).heap.size by simp; omega))
  have BK7 := hide (HB.out.grow (grown_of_below B7.out))
  have hz7 : w4.heap.size < w7.heap.size := lt_of_blk HU7.out
  clear hb7 hg7 PO6 PW6 HN6 HS6 HU6 HT6 V36 V46 R46 R56 B6
  have s8 : w7.cell? ⟨w3.heap.size, 8, none⟩ = some (.slice p3 l.length c3) := cell_of_row w7 _ 8 _ _ _ HS7.out
  go_wp2_with fail
  clear s8
  have ap3 : ∀ (v' : Value) (l' : List Int), Own w B v' l' → Apart v' (.slice p3 l.length c3) := fun _ _ h g h1 h2 => by have := (h.lt g h1).2; have := (HV3.out.lt g h2).1; omega
  have ap4 : ∀ (v' : Value) (l' : List Int), Own w B v' l' → Apart v' (.slice p4 l.length c4) := fun _ _ h g h1 h2 => by have := (h.lt g h1).2; have := (HV4.out.lt g h2).1; simp at this; omega
  have ap34 : Apart (.slice p3 l.length c3) (.slice p4 l.length c4) := fun g h1 h2 => by have := (HV3.out.lt g h1).2; have := (HV4.out.lt g h2).1; simp at this; omega
  have AP3 := hide ap3
  have AP4 := hide ap4
  have AP34 := hide ap34
  clear ap3 ap4 ap34
  refine (keepWords_any B bb _ _ _ _ _ _ _ _ _ _ BK7.out V37.out hl16 (by simp; omega) (by simp; omega) (fun y hy => ⟨AP3.out _ _ (HB.out.each y hy).1, (AP3.out _ _ (HB.out.each y hy).2.1).symm⟩) (fun m hm => by obtain ⟨k, hk⟩ := List.getElem?_of_mem hm; exact (AP3.out _ _ (HB.out.marks k m.1 m.2 hk)).symm)).mono ?_
  rintro e w8 ⟨rfl, hk8, hb8, aw8, ew8, y8, hbk8, hx8⟩
  have hzz := B4.out.size
  have HU8 := hide (hk8.same HU7.out (by decide) (by omega))
  have HN8 := hide (hk8.same HN7.out (by decide) (by omega))
  have PO8 := hide (hk8.same PO7.out (by decide) (by omega))
  have PW8 := hide (hk8.same PW7.out (by decide) (by omega))
  have V48 := hide (hk8.own BK7.out.blk V47.out)
  have BK8 := hide hbk8
  have X8 := hide hx8
  have B8 : Hid (Below B w w8) := (B7.out.mono hBw).trans hb8
  have hz8 : w7.heap.size ≤ w8.heap.size := hk8.size
  clear hk8 hb8 hbk8 hx8 HU7 HN7 PO7 PW7 HS7 V47
  have s8 : w8.cell? ⟨w4.heap.size, 8, none⟩ = some (.slice p4 l.length c4) := cell_of_row w8 _ 8 _ _ _ HU8.out
  go_wp2_with fail
  clear s8
  have hy8 : ∀ y ∈ ys ++ [(Value.slice p3 l.length c3, y8, l)], Apart y.1 (.slice p4 l.length c4) ∧ Apart (.slice p4 l.length c4) y.2.1 := by
    intro y hy
    rcases List.mem_append.1 hy with h' | h'
    · exact ⟨AP4.out _ _ (HB.out.each y h').1, (AP4.out _ _ (HB.out.each y h').2.1).symm⟩
    · simp at h'
      subst h'
      refine ⟨AP34.out, fun g h1 h2 => ?_⟩
      have := (HV4.out.lt g h1).2
      have := X8.out g h2
      omega
  have HY8 := hide hy8
  clear hy8
  refine (keepWords_any B bb _ _ _ _ _ _ _ _ _ _ BK8.out V48.out hl16 (by simp; omega) (by simp; omega) HY8.out (fun m hm => by obtain ⟨k, hk⟩ := List.getElem?_of_mem hm; exact (AP4.out _ _ (HB.out.marks k m.1 m.2 hk)).symm)).mono ?_
  rintro e w9 ⟨rfl, hk9, hb9, aw9, ew9, y9, hbk9, hx9⟩
  have HN9 := hide (hk9.same HN8.out (by decide) (by omega))
  have PO9 := hide (hk9.same PO8.out (by decide) (by omega))
  have PW9 := hide (hk9.same PW8.out (by decide) (by omega))
  have BK9 := hide hbk9
  have X9 := hide hx9
  have B9 : Hid (Below B w w9) := B8.out.trans hb9
  have hz9 : w8.heap.size ≤ w9.heap.size := hk9.size
  clear hk9 hb9 hbk9 hx9 HU8 HN8 PO8 PW8 V48 HY8
  have a0 : w9.cell? ⟨w.heap.size, 0, none⟩ = some (.int .i64 1) := cell_of_row w9 _ 0 _ _ _ HN9.out
  have a10 : w9.cell? ⟨w.heap.size, 10, none⟩ = some (.slice p prog.length c) := cell_of_row w9 _ 10 _ _ _ HN9.out
  have a11 : w9.cell? ⟨w.heap.size, 11, none⟩ = some (.slice pm mem.length cm) := cell_of_row w9 _ 11 _ _ _ HN9.out
  have a12 : w9.cell? ⟨w.heap.size, 12, none⟩ = some (.int .i64 steps) := cell_of_row w9 _ 12 _ _ _ HN9.out
  have az := lt_of_blk HN9.out
  have t9 : (er == er) = true := by simp
  go_wp2_with (go_at_call 14; refine (num_any _ _).mono ?_; rintro e w' ⟨rfl, hw'⟩; obtain rfl : w9 = w' := hw'.symm)
  clear a0 a10 a11 a12
  refine (untouchedOrders_any (w.heap.size + 1) _ _ _ _ (HP.out.keep B9.out HPB.out) ⟨curO, PO9.out, O2.out⟩ (fun a ha => by have := HPB.out a ha; omega) hl1).mono ?_
  rintro e w10 ⟨rfl, hg10⟩
  have HN10 := hide ((hg10.block _ (lt_of_blk HN9.out) (by simp)).trans HN9.out)
  have PW10 := hide ((hg10.block _ (lt_of_blk PW9.out) (by simp; omega)).trans PW9.out)
  have B10 : Hid (Below B w w10) := B9.out.grown hg10 (by have := B9.out.size; omega) (by intro k hk; simp at hk; omega)
  have BK10 := hide (BK9.out.kept hg10 (by simp; omega) (fun g hg => by
    simp only [Option.some.injEq] at hg
    subst hg
    exact ⟨row_ne BK9.out.words PO9.out (by decide), row_ne BK9.out.wait PO9.out (by decide), row_ne BK9.out.were PO9.out (by decide), fun y hy => ⟨row_ne (BK9.out.each y hy).1 PO9.out (by decide), row_ne (BK9.out.each y hy).2.1 PO9.out (by decide)⟩, fun m hm => by obtain ⟨k, hk⟩ := List.getElem?_of_mem hm; exact row_ne (BK9.out.marks k m.1 m.2 hk) PO9.out (by decide)⟩))
  clear hg10 PO9 HN9
  have a11 : w10.cell? ⟨w.heap.size, 11, none⟩ = some (.slice pm mem.length cm) := cell_of_row w10 _ 11 _ _ _ HN10.out
  go_wp2_with fail
  clear a11
  refine (untouchedWords_any w1.heap.size _ _ _ _ (HM.out.keep B10.out HMB.out) ⟨curW, PW10.out, Q2.out⟩ (fun a ha => by have := HMB.out a ha; omega) hl2).mono ?_
  rintro e w11 ⟨rfl, hg11⟩
  have B11 : Hid (Below B w w11) := B10.out.grown hg11 (by have := B10.out.size; omega) (by intro k hk; simp at hk; omega)
  have hold : ∀ (v' : Value) (l' : List Int), Own w B v' l' → v'.ownBlock ≠ some w1.heap.size := fun v' l' h e => by have := (h.lt _ e).2; omega
  have BK11 := hide (BK10.out.kept hg11 (by simp; omega) (fun g hg => by
    simp only [Option.some.injEq] at hg
    subst hg
    refine ⟨row_ne BK10.out.words PW10.out (by decide), row_ne BK10.out.wait PW10.out (by decide), row_ne BK10.out.were PW10.out (by decide), fun y hy => ?_, fun m hm => by obtain ⟨k, hk⟩ := List.getElem?_of_mem hm; exact hold _ _ (HB.out.marks k m.1 m.2 hk)⟩
    rcases List.mem_append.1 hy with h' | h'
    · rcases List.mem_append.1 h' with h'' | h''
      · exact ⟨hold _ _ (HB.out.each y h'').1, hold _ _ (HB.out.each y h'').2.1⟩
      · simp at h''
        subst h''
        exact ⟨fun e => by have := (HV3.out.lt _ e).1; omega, fun e => by have := X8.out _ e; omega⟩
    · simp at h'
      subst h'
      exact ⟨fun e => by have := (HV4.out.lt _ e).1; simp at this; omega, fun e => by have := X9.out _ e; omega⟩))
  have bk11 : Bk w11 B bb wv aw9 ew9 ms ((ys ++ [(Value.slice p3 l.length c3, y8, l), (Value.slice p4 l.length c4, y9, l)]).map (·.1)) ((ys ++ [(Value.slice p3 l.length c3, y8, l), (Value.slice p4 l.length c4, y9, l)]).map (·.2.1)) (ys ++ [(Value.slice p3 l.length c3, y8, l), (Value.slice p4 l.length c4, y9, l)]) := by simpa using BK11.out
  have BKF := hide bk11
  clear hg11 bk11 BK11 BK10 PW10 HN10 hold
  go_wp2_with fail
  refine (looks_any B bb _ _ _ _ _ _ BKF.out (by simp; omega) hml).mono ?_
  rintro e w12 ⟨rfl, n12, rfl⟩
  go_wp2
  go_ret
  exact ⟨rfl, below_drewN B11.out _, aw9, ew9, _, _, BKF.out.grow (grown_draws _ _), HT3.out, HT4.out⟩

end Go.Proofs.YtmeiogoodbnkkaaGreat
