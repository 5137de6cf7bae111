/- Is a unit of a kind free? -/
import Derived.Test.YtmeiogoodbnkkaaGreatCRFRJ
import Derived.StillTailTactics
import Derived.BigRegion
namespace Go.Proofs.YtmeiogoodbnkkaaGreat
open Go.RowKit

/-- How many of these places are taken. -/
def taken (g : List Tk) (cyc : Nat) (kind : Int) (l : List Nat) : Nat := (l.filter fun j => match g[j]? with | none => false | some t => decide (kindOf t.o.op = kind) && opensT cyc t).length

theorem taken_snoc {g : List Tk} {cyc : Nat} {kind : Int} {l : List Nat} {i : Nat} {t : Tk} (ht : g[i]? = some t) :
    taken g cyc kind (l ++ [i]) = taken g cyc kind l + (if (decide (kindOf t.o.op = kind) && opensT cyc t) = true then 1 else 0) := by
  unfold taken
  rw [List.filter_append, List.length_append]
  congr 1
  simp only [List.filter_cons, ht, List.filter_nil]
  split <;> rfl

theorem taken_range (g : List Tk) (cyc : Nat) (kind : Int) : ∀ n, n ≤ g.length → taken g cyc kind (List.range n) = ((g.take n).filter fun t => decide (kindOf t.o.op = kind) && opensT cyc t).length
  | 0, _ => by simp [taken]
  | n + 1, h => by
    have hlt : n < g.length := by omega
    rw [List.range_succ, taken_snoc (List.getElem?_eq_getElem hlt), taken_range g cyc kind n (by omega), List.take_add_one, List.getElem?_eq_getElem hlt, List.filter_append, List.length_append]
    congr 1
    simp only [Option.toList_some, List.filter_cons, List.filter_nil]
    split <;> rfl

theorem freeU_eq (m : Mc) (kind : Int) : freeU m kind = decide (0 < m.units.getD kind.toNat 0 - (taken m.given m.cycle kind (List.range m.given.length) : Int)) := by
  rw [taken_range _ _ _ _ (Nat.le_refl _), List.take_length]; rfl

theorem grown_below {B : Nat} {W W0 w : World} {b : Nat} (h0 : Below B W W0) (hg : W0.grownBy w (some b)) (hb : B ≤ b) (hB : B ≤ W0.heap.size) : Below B W w :=
  h0.trans ⟨hg.os, hg.tape, hg.output, hg.size, fun k hk => hg.block k (by omega) (fun e => by cases e; omega)⟩
theorem Bx.grown {W w : World} {row : Option Nat} {b : Nat} {t : TypeId} {v : Value} (h : Bx W b t v) (hg : W.grownBy w row) (hne : some b ≠ row) : Bx w b t v := by
  unfold Bx; rw [hg.block b h.lt hne]; exact h
theorem grown_own {B : Nat} {W0 w w' : World} {row' row : Option Nat} (h : W0.grownBy w row) (hg : w.grownBy w' row') (hr : ∀ r, row' = some r → W0.heap.size ≤ r ∧ ∃ o : Obj, w.heap[r]? = some o ∧ o.isCells = false) (_ : B = B) : W0.grownBy w' row :=
  ⟨hg.os.trans h.os, hg.tape.trans h.tape, hg.output.trans h.output, Nat.le_trans h.size hg.size, fun k hk hne => (hg.block k (Nat.lt_of_lt_of_le hk h.size) (fun e => by have := (hr k e.symm).1; omega)).trans (h.block k hk hne)⟩
theorem grown_drewN {W w : World} {row : Option Nat} (h : W.grownBy w row) (n : Nat) : W.grownBy (w.drewN n) row := ⟨h.os, h.tape, h.output, h.size, h.block⟩
theorem grown_setAt {W w : World} {b j : Nat} (h : W.grownBy w (some b)) (v : Value) : W.grownBy (w.setCell ⟨b, j, none⟩ v) (some b) :=
  ⟨h.os, h.tape, h.output, by simpa using h.size, fun k hk hne => by rw [heap_setCell_other _ _ _ _ (fun e => hne (by rw [show k = b from e]))]; exact h.block k hk hne⟩
theorem some_ne {a b : Nat} (h : a ≠ b) : some a ≠ some b := fun e => h (by cases e; rfl)
theorem grown_refl (W : World) (row : Option Nat) : W.grownBy W row := ⟨rfl, rfl, rfl, Nat.le_refl _, fun _ _ _ => rfl⟩
theorem kpa_bx {bP bR rb ro : Nat} {w w' : World} {tP tR : TypeId} {vP vR vH : Value} (p : Bx w bP tP vP) (p' : Bx w' bP tP vP) (r : Bx w bR tR vR) (r' : Bx w' bR tR vR) (h : w.cell? ⟨rb, ro, none⟩ = some vH) (h' : w'.cell? ⟨rb, ro, none⟩ = some vH) : KpA bP bR rb ro w w' :=
  ⟨p'.cell.trans p.cell.symm, r'.cell.trans r.cell.symm, h'.trans h.symm⟩

set_option maxRecDepth 10000 in
set_option maxHeartbeats 4000000 in
theorem hasFreeUnit_any (W : World) (B : Nat) (L : Lo) (m : Mc) (kd : Nat) (hm : MAt W B L m) (hkd : kd < 4) (hsm : m.given.length ≤ 1000000) (hu : ∀ i, i < 4 → 0 ≤ m.units.getD i 0 ∧ m.units.getD i 0 ≤ 1000) :
    Calls Tryz.prog 104 #[.pointer (some ⟨L.M, 0, none⟩), .int .i64 kd] W fun e w' => e = .returned (.bool (freeU m kd)) ∧ Below W.heap.size W w' := by
  have HM := hide hm
  clear hm
  obtain ⟨u, hu1⟩ : ∃ u, u = m.units.getD kd 0 := ⟨_, rfl⟩
  have hu2 := hu kd hkd
  rw [← hu1] at hu2
  have kd0 : (0 : Int) ≤ (kd : Int) := by omega
  have kd1 : (kd : Int) < 4 := by omega
  have hlt := HM.out.lt
  obtain ⟨V1, hV1⟩ : ∃ V1, W.alloc (.cells #[.pointer (some ⟨L.M, 0, none⟩)] 112) = V1 := ⟨_, rfl⟩
  obtain ⟨V2, hV2⟩ : ∃ V2, V1.alloc (.cells #[.int .i64 kd] 3) = V2 := ⟨_, rfl⟩
  have z1 : V1.heap.size = W.heap.size + 1 := by rw [← hV1]; simp
  have z2 : V2.heap.size = W.heap.size + 1 + 1 := by rw [← hV2]; simp [z1]
  have hB2 : Below W.heap.size W V2 := by rw [← hV2, ← hV1]; exact ((Below.refl _ _).alloc (Nat.le_refl _) _).alloc (by simp) _
  have bx2 : Bx V2 W.heap.size 112 (.pointer (some ⟨L.M, 0, none⟩)) := by rw [← hV2, ← hV1]; exact (Bx.new W _ _).alloc _
  have bk2 : Bx V2 (W.heap.size + 1) 3 (.int .i64 kd) := by rw [← hV2, ← z1]; exact Bx.new V1 _ _
  have c1 := bx2.cell
  have c2 := bk2.cell
  have c3 := (HM.out.below hB2).cUnit hkd
  rw [← hu1] at c3
  have HU := hide hu
  have HU1 := hide hu1
  clear hu
  refine calls_of_marks Tryz.func104 rfl ?_
  simp only [Tryz.ntmps104, List.size_toArray, List.length_cons, List.length_nil, Nat.reduceAdd, Nat.reduceSub, Array.replicate_succ, Array.replicate_zero, List.push_toArray, List.append_toArray, List.nil_append, List.cons_append]
  go_wp2
  clear hV1 hV2
  have d1 : ∀ o, (V2.alloc o).cell? ⟨W.heap.size, 0, none⟩ = some (.pointer (some ⟨L.M, 0, none⟩)) := fun o => (bx2.alloc o).cell
  have d2 : ∀ o, (V2.alloc o).cell? ⟨W.heap.size + 1, 0, none⟩ = some (.int .i64 kd) := fun o => (bk2.alloc o).cell
  have d3 : ∀ o, (V2.alloc o).cell? ⟨L.M, kd, none⟩ = some (.int .i64 u) := fun o => by rw [HU1.out]; exact (HM.out.below (hB2.alloc (by omega) o)).cUnit hkd
  clear hu1
  go_region
  go_wp2
  rename_i Q1 K1 hK1 K2 hK2
  obtain ⟨V3, hV3⟩ : ∃ V3, (V2.alloc (.cells #[.int .i64 u] 3)).drew = V3 := ⟨_, rfl⟩
  have z3 : V3.heap.size = W.heap.size + 1 + 1 + 1 := by rw [← hV3]; simp [z2]
  have hB3 : Below W.heap.size W V3 := by rw [← hV3]; exact (hB2.alloc (by omega) _).drew
  have bf3 : Bx V3 (W.heap.size + 1 + 1) 3 (.int .i64 u) := by rw [← hV3, ← z2]; exact Bx.new V2 _ _
  have bx3 : Bx V3 W.heap.size 112 (.pointer (some ⟨L.M, 0, none⟩)) := by rw [← hV3]; exact bx2.alloc _
  have bk3 : Bx V3 (W.heap.size + 1) 3 (.int .i64 kd) := by rw [← hV3]; exact bk2.alloc _
  rw [hV3]
  clear hV3 d1 d2 d3 c1 c2 c3
  obtain ⟨p, cap, G, hgv, hG⟩ := HM.out.ahead (Nat.le_refl _)
  have hm3 := HM.out.below hB3
  have e1 : V3.drew.cell? ⟨W.heap.size, 0, none⟩ = some (.pointer (some ⟨L.M, 0, none⟩)) := bx3.cell
  have e2 : V3.drew.cell? ⟨L.M, 24, none⟩ = some (.slice p m.given.length cap) := by rw [← hgv]; exact hm3.cGv
  have e1' := bx3.cell
  refine wp_region_still_tail 7 (by kernel_rfl) (by kernel_rfl) ?_
  simp only [List.take_succ_cons, List.take_zero, List.drop_succ_cons, List.drop_zero]
  repeat still_step
  still_call (tLen_any L.M 24 m.given.length cap p _ e2)
  refine wpStill_nil ?_
  go_wp2_with (go_at_call 73; refine (tAhead_any _ _ _).mono ?_; rintro e w' ⟨rfl, rfl⟩)
  obtain ⟨W0, hW0⟩ : ∃ W0, ((V3.alloc (.cells #[.pointer (some ⟨L.M, 24, none⟩)] 141)).alloc (.cells #[.int .i64 m.given.length] 3)).drew = W0 := ⟨_, rfl⟩
  have hsz : W0.heap.size = W.heap.size + 5 := by rw [← hW0]; simp [z3]
  have hB0 : Below W.heap.size W W0 := by rw [← hW0]; exact ((hB3.alloc (by omega) _).alloc (by simp; omega) _).drew
  have bf : Bx W0 (W.heap.size + 1 + 1) 3 (.int .i64 u) := by rw [← hW0]; exact (bf3.alloc _).alloc _
  have bx : Bx W0 W.heap.size 112 (.pointer (some ⟨L.M, 0, none⟩)) := by rw [← hW0]; exact (bx3.alloc _).alloc _
  have bk : Bx W0 (W.heap.size + 1) 3 (.int .i64 kd) := by rw [← hW0]; exact (bk3.alloc _).alloc _
  have b1 : Bx W0 (W.heap.size + 1 + 1 + 1) 141 (.pointer (some ⟨L.M, 24, none⟩)) := by rw [← hW0, ← z3]; exact (Bx.new V3 _ _).alloc _
  have b2 : Bx W0 (W.heap.size + 1 + 1 + 1 + 1) 3 (.int .i64 m.given.length) := by rw [← hW0]; have := Bx.new (V3.alloc (.cells #[.pointer (some ⟨L.M, 24, none⟩)] 141)) 3 (.int .i64 m.given.length); simp only [World.size_alloc, z3] at this; exact this
  have hm0 := HM.out.below hB0
  rw [hW0]
  clear hW0 e1 e2 e1' hm3 bf3 bx3 bk3 hB3 z3 bx2 bk2 hB2 z2 z1
  refine wp_ahead (W.heap.size + 1 + 1 + 1 + 1) (W.heap.size + 1 + 1 + 1) L.M 24 G m.given.length cap m.given.length p rfl rfl b2.cell b1.cell (by rw [hm0.cGv, hgv]) (Nat.le_refl _) hG hsm
    (fun pre w => Bx w (W.heap.size + 1 + 1) 3 (.int .i64 (u - (taken m.given m.cycle kd pre : Int))) ∧ W0.grownBy w (some (W.heap.size + 1 + 1)))
    (fun _ _ _ => False)
    (fun s A A' row hs hg hr => ⟨hs.1.ck (ck_grown hg hr), grown_own (B := 0) hs.2 hg hr rfl⟩)
    (fun c s A A' row hs hg hr => hs)
    ⟨by simpa [taken] using bf, grown_refl _ _⟩ (fun i => ⟨#[.pointer (some ⟨L.M, 0, none⟩), .int .i64 kd, .pointer (some ⟨W.heap.size, 0, none⟩), .pointer (some ⟨W.heap.size + 1, 0, none⟩), .bool false, .pointer (some ⟨W.heap.size + 1 + 1, 0, none⟩), undef, .pointer (some ⟨G, i * 17, none⟩), .pointer (some ⟨L.M, 0, none⟩), .int .i64 kd, .pointer (some ⟨L.M, 0, none⟩), .pointer (some ⟨L.M, 0, none⟩), .pointer (some ⟨L.M, 0, none⟩), .pointer (some ⟨L.M, kd, none⟩), .int .i64 u, .pointer (some ⟨L.M, 0, none⟩), .pointer (some ⟨L.M, 0, none⟩), .pointer (some ⟨L.M, 24, none⟩), .pointer (some ⟨L.M, 0, none⟩), .pointer (some ⟨L.M, 0, none⟩), .pointer (some ⟨L.M, 24, none⟩), .int .i64 m.given.length, .func (.func 87) #[] #[.pointer (some ⟨W.heap.size + 1 + 1 + 1 + 1, 0, none⟩), .pointer (some ⟨W.heap.size + 1 + 1 + 1, 0, none⟩)], .int .i64 i, .pointer (some ⟨G, i * 17, none⟩), undef, undef, undef, undef, undef, undef, undef, undef, undef, undef, undef, undef, undef, undef, undef, undef], []⟩) ?hassign ?hbody ?hdone ?hstop
  case hassign =>
    intro l i w K hi hK
    refine round_list rfl (fun _ _ h => h.elim) ?_
    go_wp2
    exact hK
  case hbody =>
    rintro l pre i w hi hpl ⟨h2, h3⟩
    dsimp only
    have hbw := grown_below hB0 h3 (by omega) (by omega)
    have hmw := HM.out.below hbw
    obtain ⟨t, ht⟩ : ∃ t, m.given[i]? = some t := ⟨_, List.getElem?_eq_getElem (by omega)⟩
    have hgv' := hgv
    rw [hG (by omega)] at hgv'
    have tsn := taken_snoc (cyc := m.cycle) (kind := kd) (l := pre) ht
    have tb : taken m.given m.cycle kd pre ≤ pre.length := List.length_filter_le _ _
    obtain ⟨tk, htk⟩ : ∃ tk : Nat, tk = taken m.given m.cycle kd pre := ⟨_, rfl⟩
    rw [← htk] at h2 tsn tb
    have ck : w.cell? ⟨G, i * 17 + 5, none⟩ = some (.int .i64 (kindOf t.o.op)) := hmw.tk hgv' ht (j := 5) (by omega)
    have cr : w.cell? ⟨G, i * 17 + 12, none⟩ = some (.int .i64 t.write) := hmw.tk hgv' ht (j := 12) (by omega)
    have cc := hmw.cCycle
    have cg := hmw.cGv
    have bxw := bx.grown h3 (some_ne (by omega))
    have bkw := bk.grown h3 (some_ne (by omega))
    have b1w := b1.grown h3 (some_ne (by omega))
    have b2w := b2.grown h3 (some_ne (by omega))
    have c1 := bxw.cell
    have c2 := bkw.cell
    have c3 := h2.cell
    have c4 := h2.frozen
    obtain ⟨kt, hkt⟩ : ∃ kt, kt = kindOf t.o.op := ⟨_, rfl⟩
    rw [← hkt] at ck tsn
    have HT := hide ht
    have HTK := hide htk
    have HKT := hide hkt
    have HMW := hide hmw
    have HTS := hide tsn
    clear ht htk hkt hmw tsn
    refine wpIn_block ?_
    refine wpIn_seq ?_
    by_cases hke : kt = kd
    · subst hke
      have hdk : decide ((kd : Int) = (kd : Int)) = true := by simp
      cases hz : opensT m.cycle t with
      | true =>
        have hz2 : decide (t.write = 0 ∨ t.write = m.cycle) = true := hz
        have HC : Hid (∀ q, Calls Tryz.prog 100 #[.pointer (some ⟨L.M, 0, none⟩), .pointer (some ⟨G, i * 17, none⟩)] (w.drewN q) fun e w' => e = .returned (.bool true) ∧ ∃ n, w' = w.drewN n) := fun q => (isOpen_any L.M G (i * 17) m.cycle t.write (w.drewN q) cc cr).mono (by rintro e w' ⟨rfl, k', rfl⟩; exact ⟨by rw [hz2], q + k', by simp⟩)
        clear hz2
        refine round_quiet (by kernel_rfl) (by kernel_rfl) rfl (by simp [Exit.then, Exit.inBlock, ownPostG]) ?_
        repeat (go_big_quiet_step ((first | (exact HC.out _) | fail)))
        refine wpQuiet_nil ?_
        rintro w' ⟨nq, rfl⟩
        simp only [Exit.then]
        refine wpIn_cond_true rfl ?_
        refine round_list rfl (by simp [Exit.inBlock, ownPostG]) ?_
        go_wp2
        have hg' := grown_setAt (j := 0) (grown_drewN h3 nq) (.int .i64 (u - (tk : Int) - 1))
        have hm' := HM.out.below (grown_below hB0 hg' (by omega) (by omega))
        refine ⟨from_setCell (from_drewN _ _ _) _ _, kpa_bx b2w (b2.grown hg' (some_ne (by omega))) b1w (b1.grown hg' (some_ne (by omega))) cg hm'.cGv, ?_, hg'⟩
        rw [HTS.out, hdk, hz]
        simp only [Bool.and_self, if_true]
        have := Bx.set (v := .int .i64 (u - (tk : Int))) (W := w.drewN nq) h2 (.int .i64 (u - (tk : Int) - 1))
        rw [show u - ((tk + 1 : Nat) : Int) = u - (tk : Int) - 1 by omega]
        exact this
      | false =>
        have hz2 : decide (t.write = 0 ∨ t.write = m.cycle) = false := hz
        have HC : Hid (∀ q, Calls Tryz.prog 100 #[.pointer (some ⟨L.M, 0, none⟩), .pointer (some ⟨G, i * 17, none⟩)] (w.drewN q) fun e w' => e = .returned (.bool false) ∧ ∃ n, w' = w.drewN n) := fun q => (isOpen_any L.M G (i * 17) m.cycle t.write (w.drewN q) cc cr).mono (by rintro e w' ⟨rfl, k', rfl⟩; exact ⟨by rw [hz2], q + k', by simp⟩)
        clear hz2
        refine round_quiet (by kernel_rfl) (by kernel_rfl) rfl (by simp [Exit.then, Exit.inBlock, ownPostG]) ?_
        repeat (go_big_quiet_step ((first | (exact HC.out _) | fail)))
        refine wpQuiet_nil ?_
        rintro w' ⟨nq, rfl⟩
        simp only [Exit.then]
        refine wpIn_cond_false rfl ?_
        refine wpIn_skip ?_
        refine ⟨from_drewN _ _ _, kpa_bx b2w (b2.grown (grown_drewN h3 nq) (some_ne (by omega))) b1w (b1.grown (grown_drewN h3 nq) (some_ne (by omega))) cg cg, ?_, grown_drewN h3 nq⟩
        rw [HTS.out, hz]
        simp only [Bool.and_false, Bool.false_eq_true, if_false, Nat.add_zero]
        exact h2
    · have hke2 : (kt == (kd : Int)) = false := by simpa using hke
      have HDK := hide (show decide (kt = (kd : Int)) = false by simpa using hke)
      clear hke
      refine round_quiet (by kernel_rfl) (by kernel_rfl) rfl (by simp [Exit.then, Exit.inBlock, ownPostG]) ?_
      repeat (go_big_quiet_step (fail))
      refine wpQuiet_nil ?_
      rintro w' ⟨nq, rfl⟩
      simp only [Exit.then]
      refine wpIn_cond_false rfl ?_
      refine wpIn_skip ?_
      refine ⟨from_drewN _ _ _, kpa_bx b2w (b2.grown (grown_drewN h3 nq) (some_ne (by omega))) b1w (b1.grown (grown_drewN h3 nq) (some_ne (by omega))) cg cg, ?_, grown_drewN h3 nq⟩
      rw [HTS.out, HDK.out]
      simp only [Bool.false_and, Bool.false_eq_true, if_false, Nat.add_zero]
      exact h2
  case hdone =>
    rintro D w hD ⟨h2, h3⟩ hK
    have hc0 := h2.cell
    have hbw := grown_below hB0 h3 (by omega) (by omega)
    refine hK1 _ _ ?_
    have tb : (taken m.given m.cycle kd (List.range m.given.length) : Int) ≤ 1000000 := by
      have : taken m.given m.cycle kd (List.range m.given.length) ≤ (List.range m.given.length).length := List.length_filter_le _ _
      simp at this; omega
    have hfr := freeU_eq m kd
    rw [Int.toNat_natCast, ← HU1.out] at hfr
    generalize (taken m.given m.cycle kd (List.range m.given.length) : Int) = tk at *
    have HF := hide hfr
    clear hfr
    go_wp2
    refine leave_mark (v := .bool (decide (0 < u - tk))) hK (by simp [results, Tryz.results104, go_sem]) ⟨by rw [HF.out], below_mark hbw (by omega) _⟩
  case hstop =>
    rintro D c k' w hD hk' h hK
    exact h.elim

end Go.Proofs.YtmeiogoodbnkkaaGreat
