/- Several texts in one: BB, BC. -/
import Derived.Test.YtmeiogoodbnkkaaGreatCBA
import Derived.Deep.CutBlock
import Derived.BigQuiet
/- The document's small questions on an order. -/
namespace Go.Proofs.YtmeiogoodbnkkaaGreat
open Go.RowKit

theorem bSt {w w' : World} (h : Below w.heap.size w w') (x : Obj) : Below w.heap.size w (w'.alloc x) := h.alloc h.size x
theorem bThen {w W w' : World} (h : Below w.heap.size w W) (h' : Below W.heap.size W w') : Below w.heap.size w w' := h.trans (h'.mono h.size)

set_option maxHeartbeats 2000000 in
theorem rWrites_any (op d a b k : Int) (w : World) : Calls Tryz.prog 58 #[.agg #[.int .i64 op, .int .i64 d, .int .i64 a, .int .i64 b, .int .i64 k]] w fun e w' => e = .returned (.bool (wrD op)) ∧ Below w.heap.size w w' := by
  have hb : Below w.heap.size w (w.alloc (.cells #[.int .i64 op, .int .i64 d, .int .i64 a, .int .i64 b, .int .i64 k] 40)) := bSt (Below.refl _ _) _
  have HB := hide hb
  clear hb
  by_cases h1 : 1 ≤ op
  · have HR : Hid ((decide (op ≤ 6)) = wrD op) := by
      show decide (op ≤ 6) = wrD op
      unfold wrD; simp [h1]
    go_enter Tryz.func58, Tryz.ntmps58
    go_wp2
    go_ret
    exact ⟨by rw [← HR.out]; rfl, HB.out⟩
  · have HR : Hid (wrD op = false) := by
      show wrD op = false
      unfold wrD; simp; omega
    have h2 : op < 1 := by omega
    clear h1
    go_enter Tryz.func58, Tryz.ntmps58
    go_wp2
    go_ret
    exact ⟨by rw [HR.out]; rfl, HB.out⟩

set_option maxHeartbeats 2000000 in
theorem readsA_any (op d a b k : Int) (w : World) : Calls Tryz.prog 53 #[.agg #[.int .i64 op, .int .i64 d, .int .i64 a, .int .i64 b, .int .i64 k]] w fun e w' => e = .returned (.bool (rdA op)) ∧ Below w.heap.size w w' := by
  have hb : Below w.heap.size w (w.alloc (.cells #[.int .i64 op, .int .i64 d, .int .i64 a, .int .i64 b, .int .i64 k] 40)) := bSt (Below.refl _ _) _
  have HB := hide hb
  clear hb
  go_enter Tryz.func53, Tryz.ntmps53
  go_wp2
  go_ret
  exact ⟨rfl, HB.out⟩

set_option maxHeartbeats 2000000 in
theorem readsB_any (op d a b k : Int) (w : World) : Calls Tryz.prog 55 #[.agg #[.int .i64 op, .int .i64 d, .int .i64 a, .int .i64 b, .int .i64 k]] w fun e w' => e = .returned (.bool (rdB op)) ∧ Below w.heap.size w w' := by
  have hb : Below w.heap.size w (w.alloc (.cells #[.int .i64 op, .int .i64 d, .int .i64 a, .int .i64 b, .int .i64 k] 40)) := bSt (Below.refl _ _) _
  have HB := hide hb
  clear hb
  by_cases h1 : 2 ≤ op ∧ op ≤ 5
  · have HR : Hid (rdB op = true) := by
      show rdB op = true
      unfold rdB; simp [h1]
    obtain ⟨h2, h3⟩ := h1
    go_enter Tryz.func55, Tryz.ntmps55
    go_wp2
    go_ret
    exact ⟨by rw [HR.out]; rfl, HB.out⟩
  · have HR : Hid ((op == 7) = rdB op) := by
      show (op == 7) = rdB op
      unfold rdB; rw [Bool.eq_iff_iff]; simp; omega
    by_cases h2 : 2 ≤ op
    · have h3 : decide (op ≤ 5) = false := decide_eq_false (by omega)
      clear h1
      go_enter Tryz.func55, Tryz.ntmps55
      go_wp2
      go_ret
      exact ⟨by rw [← HR.out]; rfl, HB.out⟩
    · have h3 : op < 2 := by omega
      clear h1 h2
      go_enter Tryz.func55, Tryz.ntmps55
      go_wp2
      go_ret
      exact ⟨by rw [← HR.out]; rfl, HB.out⟩

/-- Does the order read the register? -/
def rdQ (op a b r : Int) : Bool := (rdA op && (a == r)) || (rdB op && (b == r))

set_option maxHeartbeats 4000000 in
theorem rReads_any (op d a b k r : Int) (w : World) : Calls Tryz.prog 74 #[.agg #[.int .i64 op, .int .i64 d, .int .i64 a, .int .i64 b, .int .i64 k], .int .i64 r] w fun e w' => e = .returned (.bool (rdQ op a b r)) ∧ Below w.heap.size w w' := by
  obtain ⟨W0, hW0⟩ : ∃ W0, w.alloc (.cells #[.int .i64 op, .int .i64 d, .int .i64 a, .int .i64 b, .int .i64 k] 40) = W0 := ⟨_, rfl⟩
  have hb : Below w.heap.size w W0 := by rw [← hW0]; exact bSt (Below.refl _ _) _
  have g0 : W0.heap[w.heap.size]? = some (.cells #[.int .i64 op, .int .i64 d, .int .i64 a, .int .i64 b, .int .i64 k] 40 (0, 0)) := by rw [← hW0]; exact heap_alloc_new _ _
  have hl : w.heap.size < W0.heap.size := (Array.getElem?_eq_some_iff.1 g0).1
  have r0 : ∀ w', Below W0.heap.size W0 w' → w'.cell? ⟨w.heap.size, 0, none⟩ = some (.int .i64 op) := fun w' h => by rw [h.cell (p := ⟨w.heap.size, 0, none⟩) hl, cell_of_row _ _ _ _ _ _ g0]; rfl
  have r1 : ∀ w', Below W0.heap.size W0 w' → w'.cell? ⟨w.heap.size, 1, none⟩ = some (.int .i64 d) := fun w' h => by rw [h.cell (p := ⟨w.heap.size, 1, none⟩) hl, cell_of_row _ _ _ _ _ _ g0]; rfl
  have r2 : ∀ w', Below W0.heap.size W0 w' → w'.cell? ⟨w.heap.size, 2, none⟩ = some (.int .i64 a) := fun w' h => by rw [h.cell (p := ⟨w.heap.size, 2, none⟩) hl, cell_of_row _ _ _ _ _ _ g0]; rfl
  have r3 : ∀ w', Below W0.heap.size W0 w' → w'.cell? ⟨w.heap.size, 3, none⟩ = some (.int .i64 b) := fun w' h => by rw [h.cell (p := ⟨w.heap.size, 3, none⟩) hl, cell_of_row _ _ _ _ _ _ g0]; rfl
  have r4 : ∀ w', Below W0.heap.size W0 w' → w'.cell? ⟨w.heap.size, 4, none⟩ = some (.int .i64 k) := fun w' h => by rw [h.cell (p := ⟨w.heap.size, 4, none⟩) hl, cell_of_row _ _ _ _ _ _ g0]; rfl
  have HB := hide hb
  have KA : Hid (∀ W, Calls Tryz.prog 53 #[.agg #[.int .i64 op, .int .i64 d, .int .i64 a, .int .i64 b, .int .i64 k]] W fun e w' => e = .returned (.bool (rdA op)) ∧ Below W.heap.size W w') := fun W => readsA_any _ _ _ _ _ W
  have KB : Hid (∀ W, Calls Tryz.prog 55 #[.agg #[.int .i64 op, .int .i64 d, .int .i64 a, .int .i64 b, .int .i64 k]] W fun e w' => e = .returned (.bool (rdB op)) ∧ Below W.heap.size W w') := fun W => readsB_any _ _ _ _ _ W
  unfold rdQ
  generalize rdA op = qa at *
  generalize rdB op = qb at *
  clear g0 hb
  go_enter Tryz.func74, Tryz.ntmps74
  go_upto_region 1 with fail
  clear hW0
  have hrb : Below W0.heap.size W0 W0 := Below.refl _ _
  go_upto_region 3 with (first | (go_at_call 53; with_reducible refine (KA.out _).mono ?_; rintro e va ⟨rfl, hbva⟩; have hlv : w.heap.size < va.heap.size := (Nat.lt_of_lt_of_le hl hbva.size)) | (go_at_call 55; with_reducible refine (KB.out _).mono ?_; rintro e vb ⟨rfl, hbvb⟩; have hBvb : Below W0.heap.size W0 vb := bThen hbva hbvb; have hlb : w.heap.size < vb.heap.size := (Nat.lt_of_lt_of_le hl hBvb.size)))
  cases qa with
  | true =>
    cases hz : (a == r) with
    | true =>
      go_wp2_with fail
      go_ret
      exact ⟨by rw [hz]; rfl, bThen HB.out hBvb⟩
    | false =>
      cases qb with
      | true =>
        go_wp2_with fail
        go_ret
        exact ⟨by rw [hz]; rfl, bThen HB.out hBvb⟩
      | false =>
        go_wp2_with fail
        go_ret
        exact ⟨by rw [hz]; rfl, bThen HB.out hBvb⟩
  | false =>
    cases qb with
    | true =>
      go_wp2_with fail
      go_ret
      exact ⟨by simp, bThen HB.out hBvb⟩
    | false =>
      go_wp2_with fail
      go_ret
      exact ⟨by simp, bThen HB.out hBvb⟩

set_option maxHeartbeats 2000000 in
theorem Kind_any (op : Int) (w : World) : Calls Tryz.prog 56 #[.int .i64 op] w fun e w' => e = .returned (.int .i64 (kindOf op)) ∧ w' = w := by
  by_cases h : op = 1 ∨ op = 2 ∨ op = 3 ∨ op = 4 ∨ op = 5 ∨ op = 6 ∨ op = 7
  · rcases h with rfl | rfl | rfl | rfl | rfl | rfl | rfl
    all_goals go_enter Tryz.func56, Tryz.ntmps56
    all_goals go_wp2
    all_goals go_ret
    all_goals exact ⟨by simp [kindOf], rfl⟩
  · have h1 : (op == 1) = false := by simp; omega
    have h2 : (op == 2) = false := by simp; omega
    have h3 : (op == 3) = false := by simp; omega
    have h4 : (op == 4) = false := by simp; omega
    have h5 : (op == 5) = false := by simp; omega
    have h6 : (op == 6) = false := by simp; omega
    have h7 : (op == 7) = false := by simp; omega
    have hk : kindOf op = -1 := by unfold kindOf; rw [if_neg (by omega), if_neg (by omega), if_neg (by omega), if_neg (by omega)]
    rw [hk]
    clear h hk
    go_enter Tryz.func56, Tryz.ntmps56
    go_wp2
    go_ret
    exact ⟨rfl, rfl⟩

end Go.Proofs.YtmeiogoodbnkkaaGreat

/- The document's board asked. -/
namespace Go.Proofs.YtmeiogoodbnkkaaGreat
open Go.RowKit

set_option maxRecDepth 100000 in
set_option maxHeartbeats 4000000 in
theorem open_any (W : World) (B : Nat) (L : Lb) (m : Mc) (g : List (Tk × Xt)) (i : Nat) (t : Tk) (x : Xt) (h : RAt W B L m g) (hi : g[i]? = some (t, x)) :
    Calls Tryz.prog 75 #[.pointer (some ⟨L.D, 0, none⟩), .int .i64 i] W fun e w' => e = .returned (.bool (opensT m.cycle t)) ∧ Below W.heap.size W w' := by
  have hlt : i < g.length := (List.getElem?_eq_some_iff.1 hi).1
  obtain ⟨G, cap, hlv, _, hG⟩ := h.row hlt
  have c24 := h.cLv
  rw [hlv] at c24
  have c23 := h.cCycle
  have c9 : W.cell? ⟨G, i * 15 + 9, none⟩ = some (.int .i64 t.write) := h.gv hlv hi (j := 9) (by omega)
  have hD := h.lt
  have hiI : (i : Int) < (g.length : Int) := by omega
  have HO : Hid (opensT m.cycle t = (((t.write : Int) == 0) || ((t.write : Int) == (m.cycle : Int)))) := by
    show opensT m.cycle t = _
    unfold opensT; rw [Bool.eq_iff_iff]; simp; omega
  clear h hi hlt hlv
  cases hz : ((t.write : Int) == 0) with
  | true =>
    go_enter Tryz.func75, Tryz.ntmps75
    go_wp2_with fail
    go_quiet (fail)
    go_wp2_with fail
    go_ret
    exact ⟨by rw [HO.out, hz]; rfl, below_drewN (Below.refl _ _) _⟩
  | false =>
    go_enter Tryz.func75, Tryz.ntmps75
    go_wp2_with fail
    go_quiet (fail)
    go_wp2_with fail
    go_ret
    exact ⟨by rw [HO.out, hz]; rfl, below_drewN (Below.refl _ _) _⟩

/-- Is one ahead still to write this register? -/
def awB (g : List Tk) (cyc i : Nat) (r : Int) : Bool := (g.take i).any fun t => wrD t.o.op && opensT cyc t && (t.o.d == r)

theorem aw_true {g : List Tk} {c k j : Nat} {r : Int} {t : Tk} (hj : j < k) (ht : g[j]? = some t) (h : (wrD t.o.op && opensT c t && (t.o.d == r)) = true) : awB g c k r = true := by
  unfold awB
  rw [List.any_eq_true]
  exact ⟨t, List.mem_of_getElem? (i := j) (by rw [List.getElem?_take_of_lt hj]; exact ht), h⟩
theorem aw_false {g : List Tk} {c k : Nat} {r : Int} (h : ∀ j, j < k → ∀ t, g[j]? = some t → (wrD t.o.op && opensT c t && (t.o.d == r)) = false) : awB g c k r = false := by
  unfold awB
  rw [List.any_eq_false]
  intro t ht
  obtain ⟨j, hj⟩ := List.getElem?_of_mem ht
  have hjn : j < k := by
    rcases Nat.lt_or_ge j k with h1 | h1
    · exact h1
    · rw [List.getElem?_take_eq_none h1] at hj
      exact absurd hj (by simp)
  rw [List.getElem?_take_of_lt hjn] at hj
  simp [h j hjn t hj]

set_option maxRecDepth 100000 in
set_option maxHeartbeats 4000000 in
theorem awaited_any (W : World) (B : Nat) (L : Lb) (m : Mc) (g : List (Tk × Xt)) (i : Nat) (r : Int) (h : RAt W B L m g) (hi : i ≤ g.length) (hsm : g.length ≤ 100000) :
    Calls Tryz.prog 54 #[.pointer (some ⟨L.D, 0, none⟩), .int .i64 i, .int .i64 r] W fun e w' => e = .returned (.bool (awB m.given m.cycle i r)) ∧ Below W.heap.size W w' := by
  have HR := hide h
  clear h
  go_enter Tryz.func54, Tryz.ntmps54
  go_wp2_with fail
  go_loopg [7] i (fun gq s7 wr => ∃ k : Nat, k ≤ i ∧ gq = i - k ∧ s7 = .int .i64 k ∧ (∀ j, j < k → ∀ t, m.given[j]? = some t → (wrD t.o.op && opensT m.cycle t && (t.o.d == r)) = false) ∧ Below W.heap.size W wr)
  case atStart => exact ⟨0, Nat.zero_le _, rfl, rfl, fun j hj => absurd hj (by omega), Below.refl _ _⟩
  case round =>
    obtain ⟨k, hk1, hgk, rfl, hno, hbr⟩ := hrel
    have HNO := hide hno
    clear hno
    rename World => V
    rcases Nat.lt_or_ge k i with hki | hki
    · obtain ⟨⟨t, x⟩, hy⟩ : ∃ y, g[k]? = some y := ⟨_, List.getElem?_eq_getElem (by omega)⟩
      have hR := HR.out.below hbr
      have ht : m.given[k]? = some t := hR.get hy
      obtain ⟨G, cap, hlv, _, hG⟩ := HR.out.row (i := k) (by omega)
      have c24 : ∀ w', Below V.heap.size V w' → w'.cell? ⟨L.D, 24, none⟩ = some (.slice (some ⟨G, 0, none⟩) g.length cap) := fun w' h => by rw [(hR.below h).cLv, hlv]
      have c0 : ∀ w', Below V.heap.size V w' → w'.cell? ⟨G, k * 15, none⟩ = some (.int .i64 t.o.op) := fun w' h => (hR.below h).gv hlv hy (j := 0) (by omega)
      have c1 : ∀ w', Below V.heap.size V w' → w'.cell? ⟨G, k * 15 + 1, none⟩ = some (.int .i64 t.o.d) := fun w' h => (hR.below h).gv hlv hy (j := 1) (by omega)
      have c2 : ∀ w', Below V.heap.size V w' → w'.cell? ⟨G, k * 15 + 2, none⟩ = some (.int .i64 t.o.a) := fun w' h => (hR.below h).gv hlv hy (j := 2) (by omega)
      have c3 : ∀ w', Below V.heap.size V w' → w'.cell? ⟨G, k * 15 + 3, none⟩ = some (.int .i64 t.o.b) := fun w' h => (hR.below h).gv hlv hy (j := 3) (by omega)
      have c4 : ∀ w', Below V.heap.size V w' → w'.cell? ⟨G, k * 15 + 4, none⟩ = some (.int .i64 t.o.k) := fun w' h => (hR.below h).gv hlv hy (j := 4) (by omega)
      have KW : Hid (∀ W, Calls Tryz.prog 58 #[.agg #[.int .i64 t.o.op, .int .i64 t.o.d, .int .i64 t.o.a, .int .i64 t.o.b, .int .i64 t.o.k]] W fun e w' => e = .returned (.bool (wrD t.o.op)) ∧ Below W.heap.size W w') := fun W => rWrites_any _ _ _ _ _ W
      have KO : Hid (∀ w', Below V.heap.size V w' → Calls Tryz.prog 75 #[.pointer (some ⟨L.D, 0, none⟩), .int .i64 k] w' fun e w'' => e = .returned (.bool (opensT m.cycle t)) ∧ Below w'.heap.size w' w'') := fun w' h => open_any w' B L m g k t x (hR.below h) hy
      have hD := hR.lt
      have hGV : G < V.heap.size := Nat.lt_of_lt_of_le hG hbr.size
      have hkI : (k : Int) < (i : Int) := by omega
      have hkG : (k : Int) < (g.length : Int) := by omega
      have HGK := hide hgk
      have HT := hide ht
      have HBR := hide hbr
      clear hgk ht hy hlv hR
      have hrv : Below V.heap.size V V := Below.refl _ _
      go_upto_region 6 with (first | (go_at_call 58; with_reducible refine (KW.out _).mono ?_; rintro e va ⟨rfl, hbva⟩; have hlv : L.D < va.heap.size := (Nat.lt_of_lt_of_le hD hbva.size)) | (go_at_call 75; with_reducible refine (KO.out _ (by with_reducible assumption)).mono ?_; rintro e vb ⟨rfl, hbvb⟩; have hBvb : Below V.heap.size V vb := bThen hbva hbvb; have hlb : L.D < vb.heap.size := (Nat.lt_of_lt_of_le hD hBvb.size); have hGb : G < vb.heap.size := (Nat.lt_of_lt_of_le hGV hBvb.size)))
      have HB2 : Hid (Below W.heap.size W vb) := bThen HBR.out hBvb
      have HW : Hid ((wrD t.o.op && opensT m.cycle t && (t.o.d == r)) = (wrD t.o.op && opensT m.cycle t && (t.o.d == r))) := rfl
      have HNEXT : Hid ((wrD t.o.op && opensT m.cycle t && (t.o.d == r)) = false → ∀ j, j < k + 1 → ∀ t, m.given[j]? = some t → (wrD t.o.op && opensT m.cycle t && (t.o.d == r)) = false) := by
        intro hf j hj t' ht'
        rcases Nat.lt_or_ge j k with h1 | h1
        · exact HNO.out j h1 t' ht'
        · have : j = k := by omega
          subst this
          rw [HT.out] at ht'
          cases ht'
          exact hf
      have HDONE : Hid ((wrD t.o.op && opensT m.cycle t && (t.o.d == r)) = true → awB m.given m.cycle i r = true) := fun hq => aw_true hki HT.out hq
      generalize wrD t.o.op = q1 at *
      generalize opensT m.cycle t = q2 at *
      clear HNO HW
      cases q1 with
      | false =>
        go_wp2_with fail
        have hgk := HGK.out
        go_roundg (i - (k + 1))
        case measure => omega
        case rel => exact ⟨k + 1, by omega, rfl, by go_num, HNEXT.out rfl, HB2.out⟩
      | true =>
        cases q2 with
        | false =>
          go_wp2_with fail
          have hgk := HGK.out
          go_roundg (i - (k + 1))
          case measure => omega
          case rel => exact ⟨k + 1, by omega, rfl, by go_num, HNEXT.out rfl, HB2.out⟩
        | true =>
          cases hq : (t.o.d == r) with
          | false =>
            go_wp2_with fail
            have hgk := HGK.out
            go_roundg (i - (k + 1))
            case measure => omega
            case rel => exact ⟨k + 1, by omega, rfl, by go_num, HNEXT.out (by rw [hq]; rfl), HB2.out⟩
          | true =>
            go_wp2_with fail
            go_ret
            exact ⟨by rw [HDONE.out (by rw [hq]; rfl)]; rfl, HB2.out⟩
    · have hke : k = i := by omega
      subst hke
      have HD : Hid (awB m.given m.cycle k r = false) := aw_false HNO.out
      clear hki hgk HNO
      go_wp2_with fail
      go_ret
      exact ⟨by rw [HD.out]; rfl, hbr⟩

end Go.Proofs.YtmeiogoodbnkkaaGreat
