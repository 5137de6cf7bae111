/- Several texts in one: SH, SI. -/
import Derived.Test.YtmeiogoodbnkkaaGreatCSG
import Derived.Test.YtmeiogoodbnkkaaGreatCT
/- The configuration's errors. -/
namespace Go.Proofs.YtmeiogoodbnkkaaGreat
open Go.RowKit

def okN (last x : Int) : Bool := decide (1 ≤ x ∧ x ≤ last)
def mostK (k : Nat) : Int := if k = 3 then 1 else 3
def okK (u l : List Int) (k : Nat) : Bool := okN (mostK k) (u.getD k 0) && okN 12 (l.getD k 0)
def refuseC (u l : List Int) (b : Int) : Int := if okK u l 0 && okK u l 1 && okK u l 2 && okK u l 3 then (if okN 3 b then 0 else 5) else 4

set_option maxHeartbeats 400000 in
theorem isFrom_any (last x : Int) (w : World) : Calls Tryz.prog 46 #[.int .i64 last, .int .i64 x] w fun e w' => e = .returned (.bool (okN last x)) ∧ w' = w := by
  by_cases h1 : 1 ≤ x
  · go_enter Tryz.func46, Tryz.ntmps46
    go_wp2
    go_ret
    refine ⟨ret_bool ?_, rfl⟩
    unfold okN
    by_cases h2 : x ≤ last <;> simp [h1, h2]
  · go_enter Tryz.func46, Tryz.ntmps46
    go_wp2
    go_ret
    refine ⟨ret_bool ?_, rfl⟩
    unfold okN
    simp; omega

set_option maxHeartbeats 400000 in
theorem most_any (k : Nat) (w : World) : Calls Tryz.prog 47 #[.int .i64 k] w fun e w' => e = .returned (.int .i64 (mostK k)) ∧ w' = w := by
  by_cases h : k = 3
  · subst h
    go_enter Tryz.func47, Tryz.ntmps47
    go_wp2
    go_ret
    exact ⟨rfl, rfl⟩
  · have t1 : ((k : Int) == 3) = false := by simp; omega
    go_enter Tryz.func47, Tryz.ntmps47
    go_wp2
    go_ret
    refine ⟨ret_int ?_, rfl⟩
    unfold mostK
    rw [if_neg h]

theorem refuseC_bad {u l : List Int} {b : Int} {k : Nat} (hk : k < 4) (h : okK u l k = false) : refuseC u l b = 4 := by
  unfold refuseC
  have h4 : k = 0 ∨ k = 1 ∨ k = 2 ∨ k = 3 := by omega
  rcases h4 with rfl | rfl | rfl | rfl <;> simp [h]
theorem refuseC_good {u l : List Int} {b : Int} (h : ∀ j, j < 4 → okK u l j = true) : refuseC u l b = if okN 3 b then 0 else 5 := by
  unfold refuseC
  simp [h 0 (by omega), h 1 (by omega), h 2 (by omega), h 3 (by omega)]

set_option maxRecDepth 10000 in
set_option maxHeartbeats 4000000 in
theorem refusedConfig_any (u0 u1 u2 u3 l0 l1 l2 l3 b : Int) (w : World) :
    Calls Tryz.prog 32 #[.agg #[.int .i64 u0, .int .i64 u1, .int .i64 u2, .int .i64 u3, .int .i64 l0, .int .i64 l1, .int .i64 l2, .int .i64 l3, .int .i64 b]] w fun e w' =>
      e = .returned (.int .i64 (refuseC [u0, u1, u2, u3] [l0, l1, l2, l3] b)) ∧ Below w.heap.size w w' := by
  obtain ⟨W1, hW1⟩ : ∃ W1, w.alloc (.cells #[.int .i64 u0, .int .i64 u1, .int .i64 u2, .int .i64 u3, .int .i64 l0, .int .i64 l1, .int .i64 l2, .int .i64 l3, .int .i64 b] 32) = W1 := ⟨_, rfl⟩
  have hb1 : Below w.heap.size w W1 := by rw [← hW1]; exact (Below.refl _ _).alloc (Nat.le_refl _) _
  have hh : W1.heap[w.heap.size]? = some (.cells #[.int .i64 u0, .int .i64 u1, .int .i64 u2, .int .i64 u3, .int .i64 l0, .int .i64 l1, .int .i64 l2, .int .i64 l3, .int .i64 b] 32 (0, 0)) := by rw [← hW1]; exact heap_alloc_new _ _
  have hu : ∀ k, k < 4 → W1.cell? ⟨w.heap.size, k, none⟩ = some (.int .i64 ([u0, u1, u2, u3].getD k 0)) := fun k hk => by
    rw [cell_of_row _ _ _ _ _ _ hh]
    have h4 : k = 0 ∨ k = 1 ∨ k = 2 ∨ k = 3 := by omega
    rcases h4 with rfl | rfl | rfl | rfl <;> rfl
  have hl : ∀ k, k < 4 → W1.cell? ⟨w.heap.size, 4 + k, none⟩ = some (.int .i64 ([l0, l1, l2, l3].getD k 0)) := fun k hk => by
    rw [cell_of_row _ _ _ _ _ _ hh]
    have h4 : k = 0 ∨ k = 1 ∨ k = 2 ∨ k = 3 := by omega
    rcases h4 with rfl | rfl | rfl | rfl <;> rfl
  have hbu : W1.cell? ⟨w.heap.size, 8, none⟩ = some (.int .i64 b) := by rw [cell_of_row _ _ _ _ _ _ hh]; rfl
  have HB1 := hide hb1
  have HUU := hide hu
  have HLL := hide hl
  have HW1 := hide hW1
  clear hb1 hu hl hh hW1
  generalize [u0, u1, u2, u3] = us at *
  generalize [l0, l1, l2, l3] = ls at *
  have HRB : Hid (∀ k, k < 4 → okK us ls k = false → refuseC us ls b = 4) := fun k hk h => refuseC_bad hk h
  have HRG : Hid ((∀ j, j < 4 → okK us ls j = true) → refuseC us ls b = if okN 3 b then 0 else 5) := fun h => refuseC_good h
  generalize refuseC us ls b = rc at *
  go_enter Tryz.func32, Tryz.ntmps32
  go_wp2
  rw [HW1.out]
  go_loopw [3, 4] (fun _ i wr => ∃ (k q : Nat), i = .int .i64 k ∧ k ≤ 4 ∧ Hid (∀ j, j < k → okK us ls j = true) ∧ wr = W1.drewN q) (fun _ i _ => 4 - (intOf i).toNat)
  case atStart => exact ⟨0, 0, rfl, by omega, fun j hj => absurd hj (Nat.not_lt_zero _), rfl⟩
  case round =>
    obtain ⟨k, q, rfl, hk, hok, rfl⟩ := hrel
    have HBQ : Hid (Below w.heap.size w (W1.drewN q)) := below_drewN HB1.out q
    by_cases hk4 : k < 4
    · have t1 : ((k : Int) < 4) := by omega
      have t0 : ((0 : Int) ≤ (k : Int)) := by omega
      have c1 : W1.cell? ⟨w.heap.size, k, none⟩ = some (.int .i64 (us.getD k 0)) := HUU.out k hk4
      have c2 : W1.cell? ⟨w.heap.size, 4 + k, none⟩ = some (.int .i64 (ls.getD k 0)) := HLL.out k hk4
      have hkk : okK us ls k = (okN (mostK k) (us.getD k 0) && okN 12 (ls.getD k 0)) := rfl
      have HMO : Hid (∀ q', Calls Tryz.prog 47 #[.int .i64 k] ((W1.drewN q).drewN q') fun e w' => e = .returned (.int .i64 (mostK k)) ∧ ∃ n, w' = (W1.drewN q).drewN n) := fun q' => (most_any k _).mono fun e w' h => ⟨h.1, q', h.2⟩
      have HF1 : Hid (∀ q', Calls Tryz.prog 46 #[.int .i64 (mostK k), .int .i64 (us.getD k 0)] ((W1.drewN q).drewN q') fun e w' => e = .returned (.bool (okN (mostK k) (us.getD k 0))) ∧ ∃ n, w' = (W1.drewN q).drewN n) := fun q' => (isFrom_any _ _ _).mono fun e w' h => ⟨h.1, q', h.2⟩
      have HF2 : Hid (∀ q', Calls Tryz.prog 46 #[.int .i64 12, .int .i64 (ls.getD k 0)] ((W1.drewN q).drewN q') fun e w' => e = .returned (.bool (okN 12 (ls.getD k 0))) ∧ ∃ n, w' = (W1.drewN q).drewN n) := fun q' => (isFrom_any _ _ _).mono fun e w' h => ⟨h.1, q', h.2⟩
      have HKK := hide hkk
      clear hkk
      generalize us.getD k 0 = uk at *
      generalize ls.getD k 0 = lk at *
      generalize mostK k = mk at *
      have c1' : ∀ q', ((W1.drewN q).drewN q').cell? ⟨w.heap.size, k, none⟩ = some (.int .i64 uk) := fun _ => c1
      have c2' : ∀ q', ((W1.drewN q).drewN q').cell? ⟨w.heap.size, 4 + k, none⟩ = some (.int .i64 lk) := fun _ => c2
      generalize hWq : W1.drewN q = Wq at *
      cases hq1 : okN mk uk with
      | false =>
        have hbad : okK us ls k = false := by rw [HKK.out, hq1]; rfl
        have hrc := HRB.out k hk4 hbad
        rw [hq1] at HF1
        have HHB := hide hbad
        have HRC := hide hrc
        clear hq1 hbad hrc
        go_wp2
        go_quiet (first | (with_reducible exact HMO.out _) | (with_reducible exact HF1.out _) | (with_reducible exact HF2.out _))
        go_wp2
        go_ret
        exact ⟨ret_int HRC.out.symm, below_drewN HBQ.out _⟩
      | true =>
        cases hq2 : okN 12 lk with
        | false =>
          have hbad : okK us ls k = false := by rw [HKK.out, hq2]; simp
          have hrc := HRB.out k hk4 hbad
          rw [hq1] at HF1
          rw [hq2] at HF2
          have HHB := hide hbad
          have HRC := hide hrc
          clear hq1 hq2 hbad hrc
          go_wp2
          go_quiet (first | (with_reducible exact HMO.out _) | (with_reducible exact HF1.out _) | (with_reducible exact HF2.out _))
          go_wp2
          go_ret
          exact ⟨ret_int HRC.out.symm, below_drewN HBQ.out _⟩
        | true =>
          have hgood : okK us ls k = true := by rw [HKK.out, hq1, hq2]; rfl
          rw [hq1] at HF1
          rw [hq2] at HF2
          have HHB := hide hgood
          clear hq1 hq2 hgood
          go_wp2
          go_quiet (first | (with_reducible exact HMO.out _) | (with_reducible exact HF1.out _) | (with_reducible exact HF2.out _))
          go_wp2
          go_roundw
          case rel =>
            rename_i nq
            refine ⟨k + 1, q + nq, by go_num, by omega, fun j hj => ?_, ?_⟩
            · by_cases e : j = k
              · rw [e]; exact HHB.out
              · exact hok.out j (by omega)
            · rw [← hWq, World.drewN_drewN]
          case measure => first | (simp [intOf]; done) | (simp [intOf]; omega)
    · have t1 : ¬ ((k : Int) < 4) := by omega
      have hall := HRG.out (fun j hj => hok.out j (by omega))
      have c3 : (W1.drewN q).cell? ⟨w.heap.size, 8, none⟩ = some (.int .i64 b) := hbu
      have HFB : Hid (Calls Tryz.prog 46 #[.int .i64 3, .int .i64 b] (W1.drewN q) fun e w' => e = .returned (.bool (okN 3 b)) ∧ w' = W1.drewN q) := isFrom_any _ _ _
      have HAL := hide hall
      clear hall
      generalize W1.drewN q = Wq at *
      cases hq1 : okN 3 b with
      | true =>
        rw [hq1] at HFB HAL
        clear hq1
        go_wp2_with (go_at_call 46; refine HFB.out.mono ?_; rintro e w' ⟨rfl, rfl⟩)
        go_ret
        exact ⟨ret_int (by rw [HAL.out]; rfl), HBQ.out⟩
      | false =>
        rw [hq1] at HFB HAL
        clear hq1
        go_wp2_with (go_at_call 46; refine HFB.out.mono ?_; rintro e w' ⟨rfl, rfl⟩)
        go_ret
        exact ⟨ret_int (by rw [HAL.out]; rfl), HBQ.out⟩

end Go.Proofs.YtmeiogoodbnkkaaGreat

/- Run, by the code. -/
namespace Go.Proofs.YtmeiogoodbnkkaaGreat
open Go.RowKit

/-- What Run answers: the machine, the error. -/
def answerR (u l : List Int) (b : Int) (prog : List Ord) (mem : List Int) (steps : Int) : Mc × Int :=
  if refuse prog mem.length steps = 0 then (if refuseC u l b = 0 then (runM u l b prog mem steps.toNat, 0) else (startM [] [] 0 [], refuseC u l b))
  else (startM [] [] 0 [], refuse prog mem.length steps)

theorem okN_spec {last x : Int} (h : okN last x = true) : 1 ≤ x ∧ x ≤ last := by unfold okN at h; simpa using h

theorem mostK_le (k : Nat) : mostK k ≤ 3 := by unfold mostK; split <;> omega

theorem refuseC_ok {u l : List Int} {b : Int} (h : refuseC u l b = 0) : (∀ i, i < 4 → 1 ≤ u.getD i 0 ∧ u.getD i 0 ≤ mostK i) ∧ (∀ i, i < 4 → 1 ≤ l.getD i 0 ∧ l.getD i 0 ≤ 12) ∧ 1 ≤ b ∧ b ≤ 3 := by
  have hk : ∀ i, i < 4 → okK u l i = true := by
    intro i hi
    cases e : okK u l i with
    | true => rfl
    | false => rw [refuseC_bad hi e] at h; omega
  rw [refuseC_good hk] at h
  have hb : okN 3 b = true := by
    cases e : okN 3 b with
    | true => rfl
    | false => rw [e] at h; simp at h
  refine ⟨fun i hi => ?_, fun i hi => ?_, (okN_spec hb).1, (okN_spec hb).2⟩
  · have := hk i hi
    unfold okK at this
    rw [Bool.and_eq_true] at this
    exact okN_spec this.1
  · have := hk i hi
    unfold okK at this
    rw [Bool.and_eq_true] at this
    exact okN_spec this.2

theorem writesOne_regs (s : Int × Mc) (i : Nat) : (writesOne s i).2.regs.length = s.2.regs.length := by
  unfold writesOne
  split
  · rfl
  · split
    · split
      · simp [writeT, putR_len]
      · split
        · rfl
        · simp [writeT, putR_len]
    · rfl

theorem writesM_regs (m : Mc) : (writesM m).regs.length = m.regs.length := by
  have key : ∀ (l : List Nat) (s : Int × Mc), (l.foldl writesOne s).2.regs.length = s.2.regs.length := by
    intro l
    induction l with
    | nil => exact fun _ => rfl
    | cons i l ih => exact fun s => (ih _).trans (writesOne_regs s i)
  exact key _ _

theorem issueM_regs (prog : List Ord) (m : Mc) : (issueM prog m).regs = m.regs := by
  unfold issueM
  dsimp only
  repeat' split
  all_goals rfl

theorem showM_regs (m : Mc) : (showM m).regs = m.regs := by
  unfold showM
  split <;> rfl

theorem cycleM_regs (prog : List Ord) (m : Mc) : (cycleM prog m).regs.length = m.regs.length := by
  unfold cycleM
  rw [showM_regs, issueM_regs]
  obtain ⟨g, hg⟩ := reads_given (writesM { m with cycle := m.cycle + 1 })
  rw [hg]
  exact writesM_regs _

theorem undoM_regs (place : Nat) (m : Mc) : (undoM place m).regs.length = m.regs.length := by
  have key : ∀ (l : List Ch) (s : List Int × List Int × Nat), (l.foldl (undoOne place) s).1.length = s.1.length := by
    intro l
    induction l with
    | nil => exact fun _ => rfl
    | cons c l ih =>
      intro s
      refine (ih _).trans ?_
      unfold undoOne
      split
      · exact putR_len ..
      · rfl
  exact key _ _

theorem stopM_regs (steps : Nat) (m : Mc) : (stopM steps m).2.regs.length = m.regs.length := by
  unfold stopM
  split
  · exact undoM_regs _ _
  · split
    · rfl
    · split <;> rfl

theorem goM_regs (prog : List Ord) (steps : Nat) : ∀ (f : Nat) (m : Mc), (goM prog steps f m).regs.length = m.regs.length
  | 0, m => rfl
  | f + 1, m => by
    rw [goM]
    split
    · exact (stopM_regs _ _).trans (cycleM_regs _ _)
    · exact (goM_regs prog steps f _).trans ((stopM_regs _ _).trans (cycleM_regs _ _))

theorem runM_regs (u l : List Int) (b : Int) (prog : List Ord) (mem : List Int) (steps : Nat) : (runM u l b prog mem steps).regs.length = 8 := goM_regs prog steps steps _

/-- The scoreboard's answer, its registers written out. -/
theorem sb_lit (u0 u1 u2 u3 l0 l1 l2 l3 b : Int) (p pm : Option Addr) (c cm : Nat) (prog : List Ord) (mem : List Int) (steps : Nat) (w : World) (hp : RdO w p prog) (hm : Rd w pm mem) (hprog : isProg prog = true) (hml : mem.length ≤ 16) (hs1 : 1 ≤ steps) (hs : steps ≤ 400)
    (hc : refuseC [u0, u1, u2, u3] [l0, l1, l2, l3] b = 0) (rr : Mc) (hrr : rr = runM [u0, u1, u2, u3] [l0, l1, l2, l3] b prog mem steps) {x0 x1 x2 x3 x4 x5 x6 x7 : Int} (hx : rr.regs = [x0, x1, x2, x3, x4, x5, x6, x7]) :
    Calls Tryz.prog 33 #[.agg #[.int .i64 u0, .int .i64 u1, .int .i64 u2, .int .i64 u3, .int .i64 l0, .int .i64 l1, .int .i64 l2, .int .i64 l3, .int .i64 b], .slice p prog.length c, .slice pm mem.length cm, .int .i64 steps] w fun e w' =>
      ∃ pp nn cc pt nt ct, e = .returned (.tuple #[.agg #[.int .i64 x0, .int .i64 x1, .int .i64 x2, .int .i64 x3, .int .i64 x4, .int .i64 x5, .int .i64 x6, .int .i64 x7, .slice pp nn cc, .int .i64 rr.next, .int .i64 rr.stop, .int .i64 rr.trap, .int .i64 rr.steps], .slice pt nt ct]) ∧
        Below w.heap.size w w' ∧ Own w' w.heap.size (.slice pp nn cc) rr.mem ∧ Tight (.slice pp nn cc) ∧ w'.ownsRow w.heap.size 79 5 (.slice pt nt ct) rr.given.length (rr.given.flatMap tmCells) ∧ Tight (.slice pt nt ct) := by
  obtain ⟨h1, h2, h3, h4⟩ := refuseC_ok hc
  refine (sbDo_any u0 u1 u2 u3 l0 l1 l2 l3 b p pm c cm prog mem steps w hp hm hprog hml hs1 hs ?_ ?_ ?_ rr hrr).mono ?_
  · intro i hi
    have := h1 i hi
    have := mostK_le i
    omega
  · intro i hi
    have := h2 i hi
    omega
  · omega
  · rintro e w' ⟨mv, tv, rfl, hb, ho, ht, hot, htt⟩
    obtain ⟨pp, cc, rfl, _⟩ := ho.slice
    obtain ⟨pt, nt, ct, rfl⟩ : ∃ pt nt ct, tv = .slice pt nt ct := by
      rcases htt with h | ⟨g, n, h⟩
      · exact ⟨_, _, _, h⟩
      · exact ⟨_, _, _, h⟩
    exact ⟨pp, _, cc, pt, nt, ct, by rw [hx]; rfl, hb, ho, ht, hot, htt⟩

theorem rowFar {w : World} {B : Nat} {e : TypeId} {size n : Nat} {v : Value} {xs : List Value} (h : w.ownsRow B e size v n xs) {a : Addr} {x : Value} (ha : v.ownBlock ≠ some a.block) : (w.setCell a x).ownsRow B e size v n xs := by
  obtain ⟨hl, h⟩ := h
  refine ⟨hl, ?_⟩
  rcases h with ⟨rfl, rfl⟩ | ⟨g, cap, cur, rfl, hB, hh, hc⟩
  · exact .inl ⟨rfl, rfl⟩
  · refine .inr ⟨g, cap, cur, rfl, hB, ?_, hc⟩
    rw [Below.heap_setCell _ _ _ _ (fun e => ha (by simp [Value.ownBlock, e]))]
    exact hh

theorem row_base {w : World} {B B' : Nat} {e : TypeId} {size n : Nat} {v : Value} {xs : List Value} (h : w.ownsRow B e size v n xs) (hB : B' ≤ B) : w.ownsRow B' e size v n xs := by
  obtain ⟨hl, h⟩ := h
  refine ⟨hl, ?_⟩
  rcases h with h | ⟨g, cap, cur, h1, h2, h3⟩
  · exact .inl h
  · exact .inr ⟨g, cap, cur, h1, Nat.le_trans hB h2, h3⟩

set_option maxRecDepth 100000 in
set_option maxHeartbeats 4000000 in
theorem run_any (u0 u1 u2 u3 l0 l1 l2 l3 b : Int) (p pm : Option Addr) (c cm : Nat) (prog : List Ord) (mem : List Int) (steps : Int) (w : World) (hp : RdO w p prog) (hm : Rd w pm mem) (hlen : (prog.length : Int) ≤ 1000000000000000) (hlm : (mem.length : Int) ≤ 1000000000000000)
    (r : Mc) (err : Int) (hr : (r, err) = answerR [u0, u1, u2, u3] [l0, l1, l2, l3] b prog mem steps) :
    Calls Tryz.prog 15 #[.agg #[.int .i64 u0, .int .i64 u1, .int .i64 u2, .int .i64 u3, .int .i64 l0, .int .i64 l1, .int .i64 l2, .int .i64 l3, .int .i64 b], .slice p prog.length c, .slice pm mem.length cm, .int .i64 steps] w fun e w' =>
      ∃ mv tv, e = .returned (.tuple #[.agg (stCells r.regs mv r.next r.stop r.trap r.steps).toArray, tv, .int .i64 err]) ∧
        Below w.heap.size w w' ∧ Own w' w.heap.size mv r.mem ∧ Tight mv ∧ w'.ownsRow w.heap.size 79 5 tv r.given.length (r.given.flatMap tmCells) ∧ Tight tv := by
  have HP := hide hp
  have HM := hide hm
  clear hp hm
  unfold answerR at hr
  split at hr
  · rename_i h0
    obtain ⟨g1, g2, g3, g4⟩ := refuse_ok h0
    have ht : (refuse prog mem.length steps != 0) = false := by simp [h0]
    split at hr
    · rename_i hC
      injection hr with hr1 hr2
      have hreg : r.regs.length = 8 := by rw [hr1]; exact runM_regs ..
      obtain ⟨ns, rfl⟩ := Int.eq_ofNat_of_zero_le (show 0 ≤ steps by omega)
      simp only [Int.toNat_natCast] at hr1
      have htC : (refuseC [u0, u1, u2, u3] [l0, l1, l2, l3] b != 0) = false := by simp [hC]
      obtain ⟨x0, x1, x2, x3, x4, x5, x6, x7, hx⟩ := list8 hreg
      have HX := hide hx
      have HDO := hide (fun W (h1 : RdO W p prog) (h2 : Rd W pm mem) => sb_lit u0 u1 u2 u3 l0 l1 l2 l3 b p pm c cm prog mem ns W h1 h2 g1 g2 (by omega) (by omega) hC r hr1 hx)
      subst hr2
      clear hx hreg hr1 hC
      have HC := hide (refusedConfig_any u0 u1 u2 u3 l0 l1 l2 l3 b)
      generalize refuseC [u0, u1, u2, u3] [l0, l1, l2, l3] b = rc at *
      go_enter Tryz.func15, Tryz.ntmps15
      go_wp2_with (first | (go_at_call 26; refine (refused_any _ _ _ _ _ _ _ _ (HP.out.below (Nat.le_refl _) (((Below.refl _ _).alloc (Nat.le_refl _) _).alloc (by simp) _)) hlen hlm).mono ?_; rintro e w1 ⟨rfl, hb1⟩; obtain ⟨hc1, hf1⟩ := bcell hb1; have hz1 : w.heap.size + 1 < w1.heap.size := (by have := hb1.size; simp at this; omega); have hz0 : w.heap.size < w1.heap.size := (by omega); have HB1 : Hid (Below w.heap.size w w1) := ((((Below.refl _ _).alloc (Nat.le_refl _) _).alloc (by simp) _).trans (hb1.mono (by simp; omega)))) | (go_at_call 32; refine (HC.out _).mono ?_; rintro e w2 ⟨rfl, hb2⟩; obtain ⟨hc2, hf2⟩ := bcell hb2; have hz2 : w1.heap.size ≤ w2.heap.size := hb2.size; have hy2 : w.heap.size + 1 < w2.heap.size := (by omega); have hx2 : w.heap.size < w2.heap.size := (by omega); have HB2 : Hid (Below w.heap.size w w2) := (HB1.out.trans (hb2.mono (by omega)))) | (go_at_call 33; refine (HDO.out _ (HP.out.below (Nat.le_refl _) HB2.out) (HM.out.below (Nat.le_refl _) HB2.out)).mono ?_; rintro e w3 ⟨pp, nn, cc, pt, nt, ct, rfl, hb3, hown3, htg, hrow3, htt⟩; obtain ⟨hc3, hf3⟩ := bcell hb3; have hz3 : w2.heap.size ≤ w3.heap.size := hb3.size; have hy3 : w.heap.size + 1 < w3.heap.size := (by omega); have hx3 : w.heap.size < w3.heap.size := (by omega); have HB3 : Hid (Below w.heap.size w w3) := (HB2.out.trans (hb3.mono (by omega)))))
      refine bodyPost_ret (v := .tuple #[.agg #[.int .i64 x0, .int .i64 x1, .int .i64 x2, .int .i64 x3, .int .i64 x4, .int .i64 x5, .int .i64 x6, .int .i64 x7, .slice pp nn cc, .int .i64 r.next, .int .i64 r.stop, .int .i64 r.trap, .int .i64 r.steps], .slice pt nt ct, .int .i64 0]) (by simp [results, Tryz.results15, go_sem, hc1, hc2, hc3, hz1, hy2, hy3]) rfl ⟨.slice pp nn cc, .slice pt nt ct, by rw [HX.out]; rfl, ?_, ?_, htg, ?_, htt⟩
      · refine Below.alloc ?_ (by simp; omega) _
        repeat (refine Below.setCell ?_ (by simp) _)
        exact HB3.out
      · have hlt := hown3.lt
        refine World.ownsRow.alloc ?_ _
        repeat (refine Own.far ?_ (fun e => by have := hlt _ e; simp at this; omega))
        exact hown3.base (by omega)
      · have hlt := hrow3.lt
        refine World.ownsRow.alloc ?_ _
        repeat (refine rowFar ?_ (fun e => by have := hlt _ e; simp at this; omega))
        exact row_base hrow3 (by omega)
    · rename_i hC
      injection hr with hr1 hr2
      have htC : (refuseC [u0, u1, u2, u3] [l0, l1, l2, l3] b != 0) = true := by simpa using hC
      have HR1 := hide hr1
      have HR2 := hide hr2
      clear hr1 hr2 hC
      have HC := hide (refusedConfig_any u0 u1 u2 u3 l0 l1 l2 l3 b)
      generalize refuseC [u0, u1, u2, u3] [l0, l1, l2, l3] b = rc at *
      go_enter Tryz.func15, Tryz.ntmps15
      go_wp2_with (first | (go_at_call 26; refine (refused_any _ _ _ _ _ _ _ _ (HP.out.below (Nat.le_refl _) (((Below.refl _ _).alloc (Nat.le_refl _) _).alloc (by simp) _)) hlen hlm).mono ?_; rintro e w1 ⟨rfl, hb1⟩; obtain ⟨hc1, hf1⟩ := bcell hb1; have hz1 : w.heap.size + 1 < w1.heap.size := (by have := hb1.size; simp at this; omega); have hz0 : w.heap.size < w1.heap.size := (by omega); have HB1 : Hid (Below w.heap.size w w1) := ((((Below.refl _ _).alloc (Nat.le_refl _) _).alloc (by simp) _).trans (hb1.mono (by simp; omega)))) | (go_at_call 32; refine (HC.out _).mono ?_; rintro e w2 ⟨rfl, hb2⟩; obtain ⟨hc2, hf2⟩ := bcell hb2; have hz2 : w1.heap.size ≤ w2.heap.size := hb2.size; have hy2 : w.heap.size + 1 < w2.heap.size := (by omega); have hx2 : w.heap.size < w2.heap.size := (by omega); have HB2 : Hid (Below w.heap.size w w2) := (HB1.out.trans (hb2.mono (by omega)))))
      refine bodyPost_ret (v := .tuple #[.agg #[.int .i64 0, .int .i64 0, .int .i64 0, .int .i64 0, .int .i64 0, .int .i64 0, .int .i64 0, .int .i64 0, .slice none 0 0, .int .i64 0, .int .i64 0, .int .i64 0, .int .i64 0], .slice none 0 0, .int .i64 rc]) (by simp [results, Tryz.results15, go_sem, hc1, hc2, hz1]) rfl ⟨.slice none 0 0, .slice none 0 0, by rw [HR1.out, HR2.out]; rfl, ?_, ?_, .inl rfl, ?_, .inl rfl⟩
      · repeat (refine Below.setCell ?_ (by simp) _)
        exact HB2.out
      · rw [HR1.out]; exact World.ownsRow_nil _ _ _ _
      · rw [HR1.out]; exact World.ownsRow_nil _ _ _ _
  · rename_i h0
    injection hr with hr1 hr2
    have ht : (refuse prog mem.length steps != 0) = true := by simpa using h0
    subst hr1
    subst hr2
    clear h0
    go_enter Tryz.func15, Tryz.ntmps15
    go_wp2_with (go_at_call 26; refine (refused_any _ _ _ _ _ _ _ _ (HP.out.below (Nat.le_refl _) (((Below.refl _ _).alloc (Nat.le_refl _) _).alloc (by simp) _)) hlen hlm).mono ?_; rintro e w1 ⟨rfl, hb1⟩; obtain ⟨hc1, hf1⟩ := bcell hb1)
    refine bodyPost_ret (v := .tuple #[.agg #[.int .i64 0, .int .i64 0, .int .i64 0, .int .i64 0, .int .i64 0, .int .i64 0, .int .i64 0, .int .i64 0, .slice none 0 0, .int .i64 0, .int .i64 0, .int .i64 0, .int .i64 0], .slice none 0 0, .int .i64 (refuse prog mem.length steps)]) (by simp [results, Tryz.results15, go_sem, hc1]) rfl ⟨.slice none 0 0, .slice none 0 0, rfl, ?_, ?_, .inl rfl, ?_, .inl rfl⟩
    · repeat (refine Below.setCell ?_ (by simp) _)
      exact (((Below.refl _ _).alloc (Nat.le_refl _) _).alloc (by simp) _).trans (hb1.mono (by simp; omega))
    · exact World.ownsRow_nil _ _ _ _
    · exact World.ownsRow_nil _ _ _ _

end Go.Proofs.YtmeiogoodbnkkaaGreat
