/- Several texts in one: SH, SI, VA, VB, VC, VD, VE. -/
import Derived.Test.YtmeiogoodbnkkaaCSG
import Derived.Test.YtmeiogoodbnkkaaCT
import Derived.Test.YtmeiogoodbnkkaaCCB
import Derived.Deep.CutRange
/- The configuration's errors. -/
namespace Go.Proofs.Ytmeiogoodbnkkaa
open Go.RowKit

def okN (last x : Int) : Bool := decide (1 ≤ x ∧ x ≤ last)
def mostK (k : Nat) : Int := if k = 3 then 1 else 3
def okK (u l : List Int) (k : Nat) : Bool := okN (mostK k) (u.getD k 0) && okN 12 (l.getD k 0)
def refuseC (u l : List Int) (b : Int) : Int := if okK u l 0 && okK u l 1 && okK u l 2 && okK u l 3 then (if okN 3 b then 0 else 5) else 4

set_option maxHeartbeats 400000 in
theorem isFrom_any (last x : Int) (w : World) : Calls Try.prog 33 #[.int .i64 last, .int .i64 x] w fun e w' => e = .returned (.bool (okN last x)) ∧ w' = w := by
  by_cases h1 : 1 ≤ x
  · go_enter Try.func33, Try.ntmps33
    go_wp2
    go_ret
    refine ⟨ret_bool ?_, rfl⟩
    unfold okN
    by_cases h2 : x ≤ last <;> simp [h1, h2]
  · go_enter Try.func33, Try.ntmps33
    go_wp2
    go_ret
    refine ⟨ret_bool ?_, rfl⟩
    unfold okN
    simp; omega

set_option maxHeartbeats 400000 in
theorem most_any (k : Nat) (w : World) : Calls Try.prog 34 #[.int .i64 k] w fun e w' => e = .returned (.int .i64 (mostK k)) ∧ w' = w := by
  by_cases h : k = 3
  · subst h
    go_enter Try.func34, Try.ntmps34
    go_wp2
    go_ret
    exact ⟨rfl, rfl⟩
  · have t1 : ((k : Int) == 3) = false := by simp; omega
    go_enter Try.func34, Try.ntmps34
    go_wp2
    go_ret
    refine ⟨ret_int ?_, rfl⟩
    unfold mostK
    rw [if_neg h]

theorem refuseC_bad {u l : List Int} {b : Int} {k : Nat} (hk : k < 4) (h : okK u l k = false) : refuseC u l b = 4 := by
  unfold refuseC
  have h4 : k = 0 ∨ k = 1 ∨ k = 2 ∨ k = 3 := by omega
  rcases h4 with rfl | rfl | rfl | rfl <;> simp [h]
theorem refuseC_good {u l : List Int} {b : Int} (h : ∀ j, j < 4 → okK u l j = true) : refuseC u l b = if okN 3 b then 0 else 5 := by
  unfold refuseC
  simp [h 0 (by omega), h 1 (by omega), h 2 (by omega), h 3 (by omega)]

set_option maxRecDepth 10000 in
set_option maxHeartbeats 4000000 in
theorem refusedConfig_any (u0 u1 u2 u3 l0 l1 l2 l3 b : Int) (w : World) :
    Calls Try.prog 25 #[.agg #[.int .i64 u0, .int .i64 u1, .int .i64 u2, .int .i64 u3, .int .i64 l0, .int .i64 l1, .int .i64 l2, .int .i64 l3, .int .i64 b]] w fun e w' =>
      e = .returned (.int .i64 (refuseC [u0, u1, u2, u3] [l0, l1, l2, l3] b)) ∧ Below w.heap.size w w' := by
  obtain ⟨W1, hW1⟩ : ∃ W1, w.alloc (.cells #[.int .i64 u0, .int .i64 u1, .int .i64 u2, .int .i64 u3, .int .i64 l0, .int .i64 l1, .int .i64 l2, .int .i64 l3, .int .i64 b] 24) = W1 := ⟨_, rfl⟩
  have hb1 : Below w.heap.size w W1 := by rw [← hW1]; exact (Below.refl _ _).alloc (Nat.le_refl _) _
  have hh : W1.heap[w.heap.size]? = some (.cells #[.int .i64 u0, .int .i64 u1, .int .i64 u2, .int .i64 u3, .int .i64 l0, .int .i64 l1, .int .i64 l2, .int .i64 l3, .int .i64 b] 24 (0, 0)) := by rw [← hW1]; exact heap_alloc_new _ _
  have hu : ∀ k, k < 4 → W1.cell? ⟨w.heap.size, k, none⟩ = some (.int .i64 ([u0, u1, u2, u3].getD k 0)) := fun k hk => by
    rw [cell_of_row _ _ _ _ _ _ hh]
    have h4 : k = 0 ∨ k = 1 ∨ k = 2 ∨ k = 3 := by omega
    rcases h4 with rfl | rfl | rfl | rfl <;> rfl
  have hl : ∀ k, k < 4 → W1.cell? ⟨w.heap.size, 4 + k, none⟩ = some (.int .i64 ([l0, l1, l2, l3].getD k 0)) := fun k hk => by
    rw [cell_of_row _ _ _ _ _ _ hh]
    have h4 : k = 0 ∨ k = 1 ∨ k = 2 ∨ k = 3 := by omega
    rcases h4 with rfl | rfl | rfl | rfl <;> rfl
  have hbu : W1.cell? ⟨w.heap.size, 8, none⟩ = some (.int .i64 b) := by rw [cell_of_row _ _ _ _ _ _ hh]; rfl
  have HB1 := hide hb1
  have HUU := hide hu
  have HLL := hide hl
  have HW1 := hide hW1
  clear hb1 hu hl hh hW1
  generalize [u0, u1, u2, u3] = us at *
  generalize [l0, l1, l2, l3] = ls at *
  have HRB : Hid (∀ k, k < 4 → okK us ls k = false → refuseC us ls b = 4) := fun k hk h => refuseC_bad hk h
  have HRG : Hid ((∀ j, j < 4 → okK us ls j = true) → refuseC us ls b = if okN 3 b then 0 else 5) := fun h => refuseC_good h
  generalize refuseC us ls b = rc at *
  go_enter Try.func25, Try.ntmps25
  go_wp2
  rw [HW1.out]
  go_loopw [3, 4] (fun _ i wr => ∃ (k q : Nat), i = .int .i64 k ∧ k ≤ 4 ∧ Hid (∀ j, j < k → okK us ls j = true) ∧ wr = W1.drewN q) (fun _ i _ => 4 - (intOf i).toNat)
  case atStart => exact ⟨0, 0, rfl, by omega, fun j hj => absurd hj (Nat.not_lt_zero _), rfl⟩
  case round =>
    obtain ⟨k, q, rfl, hk, hok, rfl⟩ := hrel
    have HBQ : Hid (Below w.heap.size w (W1.drewN q)) := below_drewN HB1.out q
    by_cases hk4 : k < 4
    · have t1 : ((k : Int) < 4) := by omega
      have t0 : ((0 : Int) ≤ (k : Int)) := by omega
      have c1 : W1.cell? ⟨w.heap.size, k, none⟩ = some (.int .i64 (us.getD k 0)) := HUU.out k hk4
      have c2 : W1.cell? ⟨w.heap.size, 4 + k, none⟩ = some (.int .i64 (ls.getD k 0)) := HLL.out k hk4
      have hkk : okK us ls k = (okN (mostK k) (us.getD k 0) && okN 12 (ls.getD k 0)) := rfl
      have HMO : Hid (∀ q', Calls Try.prog 34 #[.int .i64 k] ((W1.drewN q).drewN q') fun e w' => e = .returned (.int .i64 (mostK k)) ∧ ∃ n, w' = (W1.drewN q).drewN n) := fun q' => (most_any k _).mono fun e w' h => ⟨h.1, q', h.2⟩
      have HF1 : Hid (∀ q', Calls Try.prog 33 #[.int .i64 (mostK k), .int .i64 (us.getD k 0)] ((W1.drewN q).drewN q') fun e w' => e = .returned (.bool (okN (mostK k) (us.getD k 0))) ∧ ∃ n, w' = (W1.drewN q).drewN n) := fun q' => (isFrom_any _ _ _).mono fun e w' h => ⟨h.1, q', h.2⟩
      have HF2 : Hid (∀ q', Calls Try.prog 33 #[.int .i64 12, .int .i64 (ls.getD k 0)] ((W1.drewN q).drewN q') fun e w' => e = .returned (.bool (okN 12 (ls.getD k 0))) ∧ ∃ n, w' = (W1.drewN q).drewN n) := fun q' => (isFrom_any _ _ _).mono fun e w' h => ⟨h.1, q', h.2⟩
      have HKK := hide hkk
      clear hkk
      generalize us.getD k 0 = uk at *
      generalize ls.getD k 0 = lk at *
      generalize mostK k = mk at *
      have c1' : ∀ q', ((W1.drewN q).drewN q').cell? ⟨w.heap.size, k, none⟩ = some (.int .i64 uk) := fun _ => c1
      have c2' : ∀ q', ((W1.drewN q).drewN q').cell? ⟨w.heap.size, 4 + k, none⟩ = some (.int .i64 lk) := fun _ => c2
      generalize hWq : W1.drewN q = Wq at *
      cases hq1 : okN mk uk with
      | false =>
        have hbad : okK us ls k = false := by rw [HKK.out, hq1]; rfl
        have hrc := HRB.out k hk4 hbad
        rw [hq1] at HF1
        have HHB := hide hbad
        have HRC := hide hrc
        clear hq1 hbad hrc
        go_wp2
        go_quiet (first | (with_reducible exact HMO.out _) | (with_reducible exact HF1.out _) | (with_reducible exact HF2.out _))
        go_wp2
        go_ret
        exact ⟨ret_int HRC.out.symm, below_drewN HBQ.out _⟩
      | true =>
        cases hq2 : okN 12 lk with
        | false =>
          have hbad : okK us ls k = false := by rw [HKK.out, hq2]; simp
          have hrc := HRB.out k hk4 hbad
          rw [hq1] at HF1
          rw [hq2] at HF2
          have HHB := hide hbad
          have HRC := hide hrc
          clear hq1 hq2 hbad hrc
          go_wp2
          go_quiet (first | (with_reducible exact HMO.out _) | (with_reducible exact HF1.out _) | (with_reducible exact HF2.out _))
          go_wp2
          go_ret
          exact ⟨ret_int HRC.out.symm, below_drewN HBQ.out _⟩
        | true =>
          have hgood : okK us ls k = true := by rw [HKK.out, hq1, hq2]; rfl
          rw [hq1] at HF1
          rw [hq2] at HF2
          have HHB := hide hgood
          clear hq1 hq2 hgood
          go_wp2
          go_quiet (first | (with_reducible exact HMO.out _) | (with_reducible exact HF1.out _) | (with_reducible exact HF2.out _))
          go_wp2
          go_roundw
          case rel =>
            rename_i nq
            refine ⟨k + 1, q + nq, by go_num, by omega, fun j hj => ?_, ?_⟩
            · by_cases e : j = k
              · rw [e]; exact HHB.out
              · exact hok.out j (by omega)
            · rw [← hWq, World.drewN_drewN]
          case measure => first | (simp [intOf]; done) | (simp [intOf]; omega)
    · have t1 : ¬ ((k : Int) < 4) := by omega
      have hall := HRG.out (fun j hj => hok.out j (by omega))
      have c3 : (W1.drewN q).cell? ⟨w.heap.size, 8, none⟩ = some (.int .i64 b) := hbu
      have HFB : Hid (Calls Try.prog 33 #[.int .i64 3, .int .i64 b] (W1.drewN q) fun e w' => e = .returned (.bool (okN 3 b)) ∧ w' = W1.drewN q) := isFrom_any _ _ _
      have HAL := hide hall
      clear hall
      generalize W1.drewN q = Wq at *
      cases hq1 : okN 3 b with
      | true =>
        rw [hq1] at HFB HAL
        clear hq1
        go_wp2_with (go_at_call 33; refine HFB.out.mono ?_; rintro e w' ⟨rfl, rfl⟩)
        go_ret
        exact ⟨ret_int (by rw [HAL.out]; rfl), HBQ.out⟩
      | false =>
        rw [hq1] at HFB HAL
        clear hq1
        go_wp2_with (go_at_call 33; refine HFB.out.mono ?_; rintro e w' ⟨rfl, rfl⟩)
        go_ret
        exact ⟨ret_int (by rw [HAL.out]; rfl), HBQ.out⟩

end Go.Proofs.Ytmeiogoodbnkkaa

/- Run, by the code. -/
namespace Go.Proofs.Ytmeiogoodbnkkaa
open Go.RowKit

/-- What Run answers: the machine, the error. -/
def answerR (u l : List Int) (b : Int) (prog : List Ord) (mem : List Int) (steps : Int) : Mc × Int :=
  if refuse prog mem.length steps = 0 then (if refuseC u l b = 0 then (runM u l b prog mem steps.toNat, 0) else (startM [] [] 0 [], refuseC u l b))
  else (startM [] [] 0 [], refuse prog mem.length steps)

theorem okN_spec {last x : Int} (h : okN last x = true) : 1 ≤ x ∧ x ≤ last := by unfold okN at h; simpa using h

theorem mostK_le (k : Nat) : mostK k ≤ 3 := by unfold mostK; split <;> omega

theorem refuseC_ok {u l : List Int} {b : Int} (h : refuseC u l b = 0) : (∀ i, i < 4 → 1 ≤ u.getD i 0 ∧ u.getD i 0 ≤ mostK i) ∧ (∀ i, i < 4 → 1 ≤ l.getD i 0 ∧ l.getD i 0 ≤ 12) ∧ 1 ≤ b ∧ b ≤ 3 := by
  have hk : ∀ i, i < 4 → okK u l i = true := by
    intro i hi
    cases e : okK u l i with
    | true => rfl
    | false => rw [refuseC_bad hi e] at h; omega
  rw [refuseC_good hk] at h
  have hb : okN 3 b = true := by
    cases e : okN 3 b with
    | true => rfl
    | false => rw [e] at h; simp at h
  refine ⟨fun i hi => ?_, fun i hi => ?_, (okN_spec hb).1, (okN_spec hb).2⟩
  · have := hk i hi
    unfold okK at this
    rw [Bool.and_eq_true] at this
    exact okN_spec this.1
  · have := hk i hi
    unfold okK at this
    rw [Bool.and_eq_true] at this
    exact okN_spec this.2

theorem writesOne_regs (s : Int × Mc) (i : Nat) : (writesOne s i).2.regs.length = s.2.regs.length := by
  unfold writesOne
  split
  · rfl
  · split
    · split
      · simp [writeT, putR_len]
      · split
        · rfl
        · simp [writeT, putR_len]
    · rfl

theorem writesM_regs (m : Mc) : (writesM m).regs.length = m.regs.length := by
  have key : ∀ (l : List Nat) (s : Int × Mc), (l.foldl writesOne s).2.regs.length = s.2.regs.length := by
    intro l
    induction l with
    | nil => exact fun _ => rfl
    | cons i l ih => exact fun s => (ih _).trans (writesOne_regs s i)
  exact key _ _

theorem issueM_regs (prog : List Ord) (m : Mc) : (issueM prog m).regs = m.regs := by
  unfold issueM
  dsimp only
  repeat' split
  all_goals rfl

theorem showM_regs (m : Mc) : (showM m).regs = m.regs := by
  unfold showM
  split <;> rfl

theorem cycleM_regs (prog : List Ord) (m : Mc) : (cycleM prog m).regs.length = m.regs.length := by
  unfold cycleM
  rw [showM_regs, issueM_regs]
  obtain ⟨g, hg⟩ := reads_given (writesM { m with cycle := m.cycle + 1 })
  rw [hg]
  exact writesM_regs _

theorem undoM_regs (place : Nat) (m : Mc) : (undoM place m).regs.length = m.regs.length := by
  have key : ∀ (l : List Ch) (s : List Int × List Int × Nat), (l.foldl (undoOne place) s).1.length = s.1.length := by
    intro l
    induction l with
    | nil => exact fun _ => rfl
    | cons c l ih =>
      intro s
      refine (ih _).trans ?_
      unfold undoOne
      split
      · exact putR_len ..
      · rfl
  exact key _ _

theorem stopM_regs (steps : Nat) (m : Mc) : (stopM steps m).2.regs.length = m.regs.length := by
  unfold stopM
  split
  · exact undoM_regs _ _
  · split
    · rfl
    · split <;> rfl

theorem goM_regs (prog : List Ord) (steps : Nat) : ∀ (f : Nat) (m : Mc), (goM prog steps f m).regs.length = m.regs.length
  | 0, m => rfl
  | f + 1, m => by
    rw [goM]
    split
    · exact (stopM_regs _ _).trans (cycleM_regs _ _)
    · exact (goM_regs prog steps f _).trans ((stopM_regs _ _).trans (cycleM_regs _ _))

theorem runM_regs (u l : List Int) (b : Int) (prog : List Ord) (mem : List Int) (steps : Nat) : (runM u l b prog mem steps).regs.length = 8 := goM_regs prog steps steps _

/-- The scoreboard's answer, its registers written out. -/
theorem sb_lit (u0 u1 u2 u3 l0 l1 l2 l3 b : Int) (p pm : Option Addr) (c cm : Nat) (prog : List Ord) (mem : List Int) (steps : Nat) (w : World) (hp : RdO w p prog) (hm : Rd w pm mem) (hprog : isProg prog = true) (hml : mem.length ≤ 16) (hs1 : 1 ≤ steps) (hs : steps ≤ 400)
    (hc : refuseC [u0, u1, u2, u3] [l0, l1, l2, l3] b = 0) (rr : Mc) (hrr : rr = runM [u0, u1, u2, u3] [l0, l1, l2, l3] b prog mem steps) {x0 x1 x2 x3 x4 x5 x6 x7 : Int} (hx : rr.regs = [x0, x1, x2, x3, x4, x5, x6, x7]) :
    Calls Try.prog 26 #[.agg #[.int .i64 u0, .int .i64 u1, .int .i64 u2, .int .i64 u3, .int .i64 l0, .int .i64 l1, .int .i64 l2, .int .i64 l3, .int .i64 b], .slice p prog.length c, .slice pm mem.length cm, .int .i64 steps] w fun e w' =>
      ∃ pp nn cc pt nt ct, e = .returned (.tuple #[.agg #[.int .i64 x0, .int .i64 x1, .int .i64 x2, .int .i64 x3, .int .i64 x4, .int .i64 x5, .int .i64 x6, .int .i64 x7, .slice pp nn cc, .int .i64 rr.next, .int .i64 rr.stop, .int .i64 rr.trap, .int .i64 rr.steps], .slice pt nt ct]) ∧
        Below w.heap.size w w' ∧ Own w' w.heap.size (.slice pp nn cc) rr.mem ∧ Tight (.slice pp nn cc) ∧ w'.ownsRow w.heap.size 47 5 (.slice pt nt ct) rr.given.length (rr.given.flatMap tmCells) ∧ Tight (.slice pt nt ct) := by
  obtain ⟨h1, h2, h3, h4⟩ := refuseC_ok hc
  refine (sbDo_any u0 u1 u2 u3 l0 l1 l2 l3 b p pm c cm prog mem steps w hp hm hprog hml hs1 hs ?_ ?_ ?_ rr hrr).mono ?_
  · intro i hi
    have := h1 i hi
    have := mostK_le i
    omega
  · intro i hi
    have := h2 i hi
    omega
  · omega
  · rintro e w' ⟨mv, tv, rfl, hb, ho, ht, hot, htt⟩
    obtain ⟨pp, cc, rfl, _⟩ := ho.slice
    obtain ⟨pt, nt, ct, rfl⟩ : ∃ pt nt ct, tv = .slice pt nt ct := by
      rcases htt with h | ⟨g, n, h⟩
      · exact ⟨_, _, _, h⟩
      · exact ⟨_, _, _, h⟩
    exact ⟨pp, _, cc, pt, nt, ct, by rw [hx]; rfl, hb, ho, ht, hot, htt⟩

theorem rowFar {w : World} {B : Nat} {e : TypeId} {size n : Nat} {v : Value} {xs : List Value} (h : w.ownsRow B e size v n xs) {a : Addr} {x : Value} (ha : v.ownBlock ≠ some a.block) : (w.setCell a x).ownsRow B e size v n xs := by
  obtain ⟨hl, h⟩ := h
  refine ⟨hl, ?_⟩
  rcases h with ⟨rfl, rfl⟩ | ⟨g, cap, cur, rfl, hB, hh, hc⟩
  · exact .inl ⟨rfl, rfl⟩
  · refine .inr ⟨g, cap, cur, rfl, hB, ?_, hc⟩
    rw [Below.heap_setCell _ _ _ _ (fun e => ha (by simp [Value.ownBlock, e]))]
    exact hh

theorem row_base {w : World} {B B' : Nat} {e : TypeId} {size n : Nat} {v : Value} {xs : List Value} (h : w.ownsRow B e size v n xs) (hB : B' ≤ B) : w.ownsRow B' e size v n xs := by
  obtain ⟨hl, h⟩ := h
  refine ⟨hl, ?_⟩
  rcases h with h | ⟨g, cap, cur, h1, h2, h3⟩
  · exact .inl h
  · exact .inr ⟨g, cap, cur, h1, Nat.le_trans hB h2, h3⟩

set_option maxRecDepth 100000 in
set_option maxHeartbeats 4000000 in
theorem run_any (u0 u1 u2 u3 l0 l1 l2 l3 b : Int) (p pm : Option Addr) (c cm : Nat) (prog : List Ord) (mem : List Int) (steps : Int) (w : World) (hp : RdO w p prog) (hm : Rd w pm mem) (hlen : (prog.length : Int) ≤ 1000000000000000) (hlm : (mem.length : Int) ≤ 1000000000000000)
    (r : Mc) (err : Int) (hr : (r, err) = answerR [u0, u1, u2, u3] [l0, l1, l2, l3] b prog mem steps) :
    Calls Try.prog 13 #[.agg #[.int .i64 u0, .int .i64 u1, .int .i64 u2, .int .i64 u3, .int .i64 l0, .int .i64 l1, .int .i64 l2, .int .i64 l3, .int .i64 b], .slice p prog.length c, .slice pm mem.length cm, .int .i64 steps] w fun e w' =>
      ∃ mv tv, e = .returned (.tuple #[.agg (stCells r.regs mv r.next r.stop r.trap r.steps).toArray, tv, .int .i64 err]) ∧
        Below w.heap.size w w' ∧ Own w' w.heap.size mv r.mem ∧ Tight mv ∧ w'.ownsRow w.heap.size 47 5 tv r.given.length (r.given.flatMap tmCells) ∧ Tight tv := by
  have HP := hide hp
  have HM := hide hm
  clear hp hm
  unfold answerR at hr
  split at hr
  · rename_i h0
    obtain ⟨g1, g2, g3, g4⟩ := refuse_ok h0
    have ht : (refuse prog mem.length steps != 0) = false := by simp [h0]
    split at hr
    · rename_i hC
      injection hr with hr1 hr2
      have hreg : r.regs.length = 8 := by rw [hr1]; exact runM_regs ..
      obtain ⟨ns, rfl⟩ := Int.eq_ofNat_of_zero_le (show 0 ≤ steps by omega)
      simp only [Int.toNat_natCast] at hr1
      have htC : (refuseC [u0, u1, u2, u3] [l0, l1, l2, l3] b != 0) = false := by simp [hC]
      obtain ⟨x0, x1, x2, x3, x4, x5, x6, x7, hx⟩ := list8 hreg
      have HX := hide hx
      have HDO := hide (fun W (h1 : RdO W p prog) (h2 : Rd W pm mem) => sb_lit u0 u1 u2 u3 l0 l1 l2 l3 b p pm c cm prog mem ns W h1 h2 g1 g2 (by omega) (by omega) hC r hr1 hx)
      subst hr2
      clear hx hreg hr1 hC
      have HC := hide (refusedConfig_any u0 u1 u2 u3 l0 l1 l2 l3 b)
      generalize refuseC [u0, u1, u2, u3] [l0, l1, l2, l3] b = rc at *
      go_enter Try.func13, Try.ntmps13
      go_wp2_with (first | (go_at_call 24; refine (refused_any _ _ _ _ _ _ _ _ (HP.out.below (Nat.le_refl _) (((Below.refl _ _).alloc (Nat.le_refl _) _).alloc (by simp) _)) hlen hlm).mono ?_; rintro e w1 ⟨rfl, hb1⟩; obtain ⟨hc1, hf1⟩ := bcell hb1; have hz1 : w.heap.size + 1 < w1.heap.size := (by have := hb1.size; simp at this; omega); have hz0 : w.heap.size < w1.heap.size := (by omega); have HB1 : Hid (Below w.heap.size w w1) := ((((Below.refl _ _).alloc (Nat.le_refl _) _).alloc (by simp) _).trans (hb1.mono (by simp; omega)))) | (go_at_call 25; refine (HC.out _).mono ?_; rintro e w2 ⟨rfl, hb2⟩; obtain ⟨hc2, hf2⟩ := bcell hb2; have hz2 : w1.heap.size ≤ w2.heap.size := hb2.size; have hy2 : w.heap.size + 1 < w2.heap.size := (by omega); have hx2 : w.heap.size < w2.heap.size := (by omega); have HB2 : Hid (Below w.heap.size w w2) := (HB1.out.trans (hb2.mono (by omega)))) | (go_at_call 26; refine (HDO.out _ (HP.out.below (Nat.le_refl _) HB2.out) (HM.out.below (Nat.le_refl _) HB2.out)).mono ?_; rintro e w3 ⟨pp, nn, cc, pt, nt, ct, rfl, hb3, hown3, htg, hrow3, htt⟩; obtain ⟨hc3, hf3⟩ := bcell hb3; have hz3 : w2.heap.size ≤ w3.heap.size := hb3.size; have hy3 : w.heap.size + 1 < w3.heap.size := (by omega); have hx3 : w.heap.size < w3.heap.size := (by omega); have HB3 : Hid (Below w.heap.size w w3) := (HB2.out.trans (hb3.mono (by omega)))))
      refine bodyPost_ret (v := .tuple #[.agg #[.int .i64 x0, .int .i64 x1, .int .i64 x2, .int .i64 x3, .int .i64 x4, .int .i64 x5, .int .i64 x6, .int .i64 x7, .slice pp nn cc, .int .i64 r.next, .int .i64 r.stop, .int .i64 r.trap, .int .i64 r.steps], .slice pt nt ct, .int .i64 0]) (by simp [results, Try.results13, go_sem, hc1, hc2, hc3, hz1, hy2, hy3]) rfl ⟨.slice pp nn cc, .slice pt nt ct, by rw [HX.out]; rfl, ?_, ?_, htg, ?_, htt⟩
      · refine Below.alloc ?_ (by simp; omega) _
        repeat (refine Below.setCell ?_ (by simp) _)
        exact HB3.out
      · have hlt := hown3.lt
        refine World.ownsRow.alloc ?_ _
        repeat (refine Own.far ?_ (fun e => by have := hlt _ e; simp at this; omega))
        exact hown3.base (by omega)
      · have hlt := hrow3.lt
        refine World.ownsRow.alloc ?_ _
        repeat (refine rowFar ?_ (fun e => by have := hlt _ e; simp at this; omega))
        exact row_base hrow3 (by omega)
    · rename_i hC
      injection hr with hr1 hr2
      have htC : (refuseC [u0, u1, u2, u3] [l0, l1, l2, l3] b != 0) = true := by simpa using hC
      have HR1 := hide hr1
      have HR2 := hide hr2
      clear hr1 hr2 hC
      have HC := hide (refusedConfig_any u0 u1 u2 u3 l0 l1 l2 l3 b)
      generalize refuseC [u0, u1, u2, u3] [l0, l1, l2, l3] b = rc at *
      go_enter Try.func13, Try.ntmps13
      go_wp2_with (first | (go_at_call 24; refine (refused_any _ _ _ _ _ _ _ _ (HP.out.below (Nat.le_refl _) (((Below.refl _ _).alloc (Nat.le_refl _) _).alloc (by simp) _)) hlen hlm).mono ?_; rintro e w1 ⟨rfl, hb1⟩; obtain ⟨hc1, hf1⟩ := bcell hb1; have hz1 : w.heap.size + 1 < w1.heap.size := (by have := hb1.size; simp at this; omega); have hz0 : w.heap.size < w1.heap.size := (by omega); have HB1 : Hid (Below w.heap.size w w1) := ((((Below.refl _ _).alloc (Nat.le_refl _) _).alloc (by simp) _).trans (hb1.mono (by simp; omega)))) | (go_at_call 25; refine (HC.out _).mono ?_; rintro e w2 ⟨rfl, hb2⟩; obtain ⟨hc2, hf2⟩ := bcell hb2; have hz2 : w1.heap.size ≤ w2.heap.size := hb2.size; have hy2 : w.heap.size + 1 < w2.heap.size := (by omega); have hx2 : w.heap.size < w2.heap.size := (by omega); have HB2 : Hid (Below w.heap.size w w2) := (HB1.out.trans (hb2.mono (by omega)))))
      refine bodyPost_ret (v := .tuple #[.agg #[.int .i64 0, .int .i64 0, .int .i64 0, .int .i64 0, .int .i64 0, .int .i64 0, .int .i64 0, .int .i64 0, .slice none 0 0, .int .i64 0, .int .i64 0, .int .i64 0, .int .i64 0], .slice none 0 0, .int .i64 rc]) (by simp [results, Try.results13, go_sem, hc1, hc2, hz1]) rfl ⟨.slice none 0 0, .slice none 0 0, by rw [HR1.out, HR2.out]; rfl, ?_, ?_, .inl rfl, ?_, .inl rfl⟩
      · repeat (refine Below.setCell ?_ (by simp) _)
        exact HB2.out
      · rw [HR1.out]; exact World.ownsRow_nil _ _ _ _
      · rw [HR1.out]; exact World.ownsRow_nil _ _ _ _
  · rename_i h0
    injection hr with hr1 hr2
    have ht : (refuse prog mem.length steps != 0) = true := by simpa using h0
    subst hr1
    subst hr2
    clear h0
    go_enter Try.func13, Try.ntmps13
    go_wp2_with (go_at_call 24; refine (refused_any _ _ _ _ _ _ _ _ (HP.out.below (Nat.le_refl _) (((Below.refl _ _).alloc (Nat.le_refl _) _).alloc (by simp) _)) hlen hlm).mono ?_; rintro e w1 ⟨rfl, hb1⟩; obtain ⟨hc1, hf1⟩ := bcell hb1)
    refine bodyPost_ret (v := .tuple #[.agg #[.int .i64 0, .int .i64 0, .int .i64 0, .int .i64 0, .int .i64 0, .int .i64 0, .int .i64 0, .int .i64 0, .slice none 0 0, .int .i64 0, .int .i64 0, .int .i64 0, .int .i64 0], .slice none 0 0, .int .i64 (refuse prog mem.length steps)]) (by simp [results, Try.results13, go_sem, hc1]) rfl ⟨.slice none 0 0, .slice none 0 0, rfl, ?_, ?_, .inl rfl, ?_, .inl rfl⟩
    · repeat (refine Below.setCell ?_ (by simp) _)
      exact (((Below.refl _ _).alloc (Nat.le_refl _) _).alloc (by simp) _).trans (hb1.mono (by simp; omega))
    · exact World.ownsRow_nil _ _ _ _
    · exact World.ownsRow_nil _ _ _ _

end Go.Proofs.Ytmeiogoodbnkkaa

/- Raw numbers made fit. -/
namespace Go.Proofs.Ytmeiogoodbnkkaa
open Go.RowKit

def In64 (c : Int) : Prop := -9223372036854775808 ≤ c ∧ c ≤ 9223372036854775807
def pk (c n : Int) : Int := (if c < 0 then -(c + 1) else c).tmod n
def outs (c n : Int) : Int := if 1 ≤ c ∧ c ≤ n then n + c else c

theorem pk_in {c n : Int} (hn : 0 < n) : 0 ≤ pk c n ∧ pk c n < n := by
  unfold pk
  have h0 : 0 ≤ (if c < 0 then -(c + 1) else c) := by split <;> omega
  rw [Int.tmod_eq_emod_of_nonneg h0]
  exact ⟨Int.emod_nonneg _ (by omega), Int.emod_lt_of_pos _ hn⟩

theorem outs_no {c n : Int} : outs c n < 1 ∨ n < outs c n := by
  unfold outs
  split <;> omega

set_option maxHeartbeats 400000 in
theorem pick_any (c n : Int) (hc : In64 c) (hn : 0 < n) (hn2 : n ≤ 9223372036854775807) (w : World) : Calls Try.prog 16 #[.int .i64 c, .int .i64 n] w fun e w' => e = .returned (.int .i64 (pk c n)) ∧ w' = w := by
  obtain ⟨hc1, hc2⟩ := hc
  have hpk := pk_in (c := c) hn
  have hz : (n == 0) = false := by simp; omega
  have hz' : n ≠ 0 := by omega
  by_cases h : c < 0
  · have e : pk c n = -((c + 1).tmod n) := by unfold pk; rw [if_pos h, Int.neg_tmod]
    have e1 : wrap64 (c + 1) = c + 1 := by unfold wrap64; omega
    have e2 : wrap64 (-(c + 1)) = -(c + 1) := by unfold wrap64; omega
    go_enter Try.func16, Try.ntmps16
    go_wp2
    go_ret
    exact ⟨ret_int e.symm, rfl⟩
  · have e : pk c n = c.tmod n := by unfold pk; rw [if_neg h]
    go_enter Try.func16, Try.ntmps16
    go_wp2
    go_ret
    exact ⟨ret_int (by rw [Int.tmod_eq_emod_of_nonneg h]), rfl⟩

set_option maxHeartbeats 400000 in
theorem outside_any (c n : Int) (hn : 0 < n) (hn2 : n ≤ 1000) (w : World) : Calls Try.prog 22 #[.int .i64 c, .int .i64 n] w fun e w' => e = .returned (.int .i64 (outs c n)) ∧ w' = w := by
  by_cases h1 : 1 ≤ c
  · by_cases h2 : c ≤ n
    · go_enter Try.func22, Try.ntmps22
      go_wp2
      go_ret
      refine ⟨ret_int ?_, rfl⟩
      unfold outs
      rw [if_pos ⟨h1, h2⟩]
    · go_enter Try.func22, Try.ntmps22
      go_wp2
      go_ret
      refine ⟨ret_int ?_, rfl⟩
      unfold outs
      rw [if_neg (by omega)]
  · go_enter Try.func22, Try.ntmps22
    go_wp2
    go_ret
    refine ⟨ret_int ?_, rfl⟩
    unfold outs
    rw [if_neg (by omega)]

end Go.Proofs.Ytmeiogoodbnkkaa

/- A configuration made fit. -/
namespace Go.Proofs.Ytmeiogoodbnkkaa
open Go.RowKit

def cfU (u0 u1 u2 : Int) : List Int := [1 + pk u0 3, 1 + pk u1 3, 1 + pk u2 3, 1]
def cfL (l0 l1 l2 l3 : Int) : List Int := [1 + pk l0 12, 1 + pk l1 12, 1 + pk l2 12, 1 + pk l3 12]

def rowAt (w : World) (B k : Nat) (x y : Int) : World := (w.setCell ⟨B, k, none⟩ (.int .i64 x)).setCell ⟨B, 4 + k, none⟩ (.int .i64 y)

set_option maxRecDepth 10000 in
set_option maxHeartbeats 2000000 in
theorem config_any (u0 u1 u2 u3 l0 l1 l2 l3 b : Int) (hu0 : In64 u0) (hu1 : In64 u1) (hu2 : In64 u2) (hu3 : In64 u3) (hl0 : In64 l0) (hl1 : In64 l1) (hl2 : In64 l2) (hl3 : In64 l3) (hb : In64 b) (w : World) :
    Calls Try.prog 10 #[.agg #[.int .i64 u0, .int .i64 u1, .int .i64 u2, .int .i64 u3, .int .i64 l0, .int .i64 l1, .int .i64 l2, .int .i64 l3, .int .i64 b]] w fun e w' =>
      e = .returned (.agg #[.int .i64 (1 + pk u0 3), .int .i64 (1 + pk u1 3), .int .i64 (1 + pk u2 3), .int .i64 1, .int .i64 (1 + pk l0 12), .int .i64 (1 + pk l1 12), .int .i64 (1 + pk l2 12), .int .i64 (1 + pk l3 12), .int .i64 (1 + pk b 3)]) ∧ Below w.heap.size w w' := by
  have HP3 : Hid (∀ c, In64 c → ∀ W, Calls Try.prog 16 #[.int .i64 c, .int .i64 3] W fun e w' => e = .returned (.int .i64 (pk c 3)) ∧ w' = W) := fun c hc W => pick_any c 3 hc (by omega) (by omega) W
  have HP12 : Hid (∀ c, In64 c → ∀ W, Calls Try.prog 16 #[.int .i64 c, .int .i64 12] W fun e w' => e = .returned (.int .i64 (pk c 12)) ∧ w' = W) := fun c hc W => pick_any c 12 hc (by omega) (by omega) W
  have r0 := pk_in (c := u0) (n := 3) (by omega)
  have r1 := pk_in (c := u1) (n := 3) (by omega)
  have r2 := pk_in (c := u2) (n := 3) (by omega)
  have r3 := pk_in (c := u3) (n := 3) (by omega)
  have q0 := pk_in (c := l0) (n := 12) (by omega)
  have q1 := pk_in (c := l1) (n := 12) (by omega)
  have q2 := pk_in (c := l2) (n := 12) (by omega)
  have q3 := pk_in (c := l3) (n := 12) (by omega)
  have rb := pk_in (c := b) (n := 3) (by omega)
  have HU0 : Hid (∀ W, Calls Try.prog 16 #[.int .i64 u0, .int .i64 3] W fun e w' => e = .returned (.int .i64 (pk u0 3)) ∧ w' = W) := fun W => HP3.out _ hu0 W
  have HU1 : Hid (∀ W, Calls Try.prog 16 #[.int .i64 u1, .int .i64 3] W fun e w' => e = .returned (.int .i64 (pk u1 3)) ∧ w' = W) := fun W => HP3.out _ hu1 W
  have HU2 : Hid (∀ W, Calls Try.prog 16 #[.int .i64 u2, .int .i64 3] W fun e w' => e = .returned (.int .i64 (pk u2 3)) ∧ w' = W) := fun W => HP3.out _ hu2 W
  have HU3 : Hid (∀ W, Calls Try.prog 16 #[.int .i64 u3, .int .i64 3] W fun e w' => e = .returned (.int .i64 (pk u3 3)) ∧ w' = W) := fun W => HP3.out _ hu3 W
  have HUB : Hid (∀ W, Calls Try.prog 16 #[.int .i64 b, .int .i64 3] W fun e w' => e = .returned (.int .i64 (pk b 3)) ∧ w' = W) := fun W => HP3.out _ hb W
  have HL0 : Hid (∀ W, Calls Try.prog 16 #[.int .i64 l0, .int .i64 12] W fun e w' => e = .returned (.int .i64 (pk l0 12)) ∧ w' = W) := fun W => HP12.out _ hl0 W
  have HL1 : Hid (∀ W, Calls Try.prog 16 #[.int .i64 l1, .int .i64 12] W fun e w' => e = .returned (.int .i64 (pk l1 12)) ∧ w' = W) := fun W => HP12.out _ hl1 W
  have HL2 : Hid (∀ W, Calls Try.prog 16 #[.int .i64 l2, .int .i64 12] W fun e w' => e = .returned (.int .i64 (pk l2 12)) ∧ w' = W) := fun W => HP12.out _ hl2 W
  have HL3 : Hid (∀ W, Calls Try.prog 16 #[.int .i64 l3, .int .i64 12] W fun e w' => e = .returned (.int .i64 (pk l3 12)) ∧ w' = W) := fun W => HP12.out _ hl3 W
  clear HP3 HP12 hu0 hu1 hu2 hu3 hl0 hl1 hl2 hl3 hb
  generalize pk u0 3 = x0 at *
  generalize pk u1 3 = x1 at *
  generalize pk u2 3 = x2 at *
  generalize pk u3 3 = x3 at *
  generalize pk l0 12 = y0 at *
  generalize pk l1 12 = y1 at *
  generalize pk l2 12 = y2 at *
  generalize pk l3 12 = y3 at *
  generalize pk b 3 = z at *
  go_enter Try.func10, Try.ntmps10
  go_wp2_with (go_at_call 16; refine (HUB.out _).mono ?_; rintro e W' ⟨rfl, rfl⟩)
  go_loopw [4] (fun i wr => (i = .int .i64 0 ∧ wr = ((w.alloc (.cells #[.int .i64 u0, .int .i64 u1, .int .i64 u2, .int .i64 u3, .int .i64 l0, .int .i64 l1, .int .i64 l2, .int .i64 l3, .int .i64 b] 24)).alloc (.cells #[.int .i64 0, .int .i64 0, .int .i64 0, .int .i64 0, .int .i64 0, .int .i64 0, .int .i64 0, .int .i64 0, .int .i64 0] 24)).alloc (.cells #[.int .i64 0, .int .i64 0, .int .i64 0, .int .i64 0, .int .i64 0, .int .i64 0, .int .i64 0, .int .i64 0, .int .i64 (1 + z)] 24)) ∨ (i = .int .i64 1 ∧ wr = ((w.alloc (.cells #[.int .i64 u0, .int .i64 u1, .int .i64 u2, .int .i64 u3, .int .i64 l0, .int .i64 l1, .int .i64 l2, .int .i64 l3, .int .i64 b] 24)).alloc (.cells #[.int .i64 0, .int .i64 0, .int .i64 0, .int .i64 0, .int .i64 0, .int .i64 0, .int .i64 0, .int .i64 0, .int .i64 0] 24)).alloc (.cells #[.int .i64 (1 + x0), .int .i64 0, .int .i64 0, .int .i64 0, .int .i64 (1 + y0), .int .i64 0, .int .i64 0, .int .i64 0, .int .i64 (1 + z)] 24)) ∨ (i = .int .i64 2 ∧ wr = ((w.alloc (.cells #[.int .i64 u0, .int .i64 u1, .int .i64 u2, .int .i64 u3, .int .i64 l0, .int .i64 l1, .int .i64 l2, .int .i64 l3, .int .i64 b] 24)).alloc (.cells #[.int .i64 0, .int .i64 0, .int .i64 0, .int .i64 0, .int .i64 0, .int .i64 0, .int .i64 0, .int .i64 0, .int .i64 0] 24)).alloc (.cells #[.int .i64 (1 + x0), .int .i64 (1 + x1), .int .i64 0, .int .i64 0, .int .i64 (1 + y0), .int .i64 (1 + y1), .int .i64 0, .int .i64 0, .int .i64 (1 + z)] 24)) ∨ (i = .int .i64 3 ∧ wr = ((w.alloc (.cells #[.int .i64 u0, .int .i64 u1, .int .i64 u2, .int .i64 u3, .int .i64 l0, .int .i64 l1, .int .i64 l2, .int .i64 l3, .int .i64 b] 24)).alloc (.cells #[.int .i64 0, .int .i64 0, .int .i64 0, .int .i64 0, .int .i64 0, .int .i64 0, .int .i64 0, .int .i64 0, .int .i64 0] 24)).alloc (.cells #[.int .i64 (1 + x0), .int .i64 (1 + x1), .int .i64 (1 + x2), .int .i64 0, .int .i64 (1 + y0), .int .i64 (1 + y1), .int .i64 (1 + y2), .int .i64 0, .int .i64 (1 + z)] 24)) ∨ (i = .int .i64 4 ∧ wr = ((w.alloc (.cells #[.int .i64 u0, .int .i64 u1, .int .i64 u2, .int .i64 u3, .int .i64 l0, .int .i64 l1, .int .i64 l2, .int .i64 l3, .int .i64 b] 24)).alloc (.cells #[.int .i64 0, .int .i64 0, .int .i64 0, .int .i64 0, .int .i64 0, .int .i64 0, .int .i64 0, .int .i64 0, .int .i64 0] 24)).alloc (.cells #[.int .i64 (1 + x0), .int .i64 (1 + x1), .int .i64 (1 + x2), .int .i64 (1 + x3), .int .i64 (1 + y0), .int .i64 (1 + y1), .int .i64 (1 + y2), .int .i64 (1 + y3), .int .i64 (1 + z)] 24))) (fun i _ => 4 - (intOf i).toNat)
  case atStart => exact .inl ⟨rfl, rfl⟩
  case round =>
    rcases hrel with ⟨rfl, rfl⟩ | ⟨rfl, rfl⟩ | ⟨rfl, rfl⟩ | ⟨rfl, rfl⟩ | ⟨rfl, rfl⟩
    · go_wp2_with (go_at_call 16; first | (with_reducible refine (HU0.out _).mono ?_; rintro e W' ⟨rfl, rfl⟩) | (with_reducible refine (HL0.out _).mono ?_; rintro e W' ⟨rfl, rfl⟩))
      go_roundw
      case rel => exact .inr (.inl ⟨rfl, trivial⟩)
      case measure => simp [intOf]
    · go_wp2_with (go_at_call 16; first | (with_reducible refine (HU1.out _).mono ?_; rintro e W' ⟨rfl, rfl⟩) | (with_reducible refine (HL1.out _).mono ?_; rintro e W' ⟨rfl, rfl⟩))
      go_roundw
      case rel => exact .inr (.inr (.inl ⟨rfl, trivial⟩))
      case measure => simp [intOf]
    · go_wp2_with (go_at_call 16; first | (with_reducible refine (HU2.out _).mono ?_; rintro e W' ⟨rfl, rfl⟩) | (with_reducible refine (HL2.out _).mono ?_; rintro e W' ⟨rfl, rfl⟩))
      go_roundw
      case rel => exact .inr (.inr (.inr (.inl ⟨rfl, trivial⟩)))
      case measure => simp [intOf]
    · go_wp2_with (go_at_call 16; first | (with_reducible refine (HU3.out _).mono ?_; rintro e W' ⟨rfl, rfl⟩) | (with_reducible refine (HL3.out _).mono ?_; rintro e W' ⟨rfl, rfl⟩))
      go_roundw
      case rel => exact .inr (.inr (.inr (.inr (⟨rfl, trivial⟩))))
      case measure => simp [intOf]
    · go_wp2
      refine bodyPost_ret (v := .agg #[.int .i64 (1 + x0), .int .i64 (1 + x1), .int .i64 (1 + x2), .int .i64 1, .int .i64 (1 + y0), .int .i64 (1 + y1), .int .i64 (1 + y2), .int .i64 (1 + y3), .int .i64 (1 + z)]) (by simp [results, Try.results10, go_sem]) rfl ⟨rfl, ?_⟩
      exact (((Below.refl _ _).alloc (Nat.le_refl _) _).alloc (by simp) _).alloc (by simp; omega) _

end Go.Proofs.Ytmeiogoodbnkkaa

/- Two states held against each other. -/
namespace Go.Proofs.Ytmeiogoodbnkkaa
open Go.RowKit

set_option maxHeartbeats 4000000 in
theorem eqArr (x0 x1 x2 x3 x4 x5 x6 x7 y0 y1 y2 y3 y4 y5 y6 y7 : Int) (w : World) :
    (Op.equalIn 10000 31 (.agg #[.int .i64 x0, .int .i64 x1, .int .i64 x2, .int .i64 x3, .int .i64 x4, .int .i64 x5, .int .i64 x6, .int .i64 x7]) (.agg #[.int .i64 y0, .int .i64 y1, .int .i64 y2, .int .i64 y3, .int .i64 y4, .int .i64 y5, .int .i64 y6, .int .i64 y7])).run Try.prog w =
      .ok (decide ([x0, x1, x2, x3, x4, x5, x6, x7] = [y0, y1, y2, y3, y4, y5, y6, y7])) w := by
  have h2 : ∀ (a b : Int) (w : World), (Op.equalIn 9999 2 (.int .i64 a) (.int .i64 b)).run Try.prog w = .ok (a == b) w := fun a b w => run_equalIn_int w 9998 2 .i64 .i64 a b Try.underlying2
  obtain ⟨i0, hi0, hz0, hz1, hz2⟩ := info_parts Try.info2
  have hs : ∀ w : World, (sizeOf 2).run Try.prog w = .ok 1 w := fun w => by simp [sizeOf, typeInfo, hi0, hz1]
  have hp : ∀ (j : Nat) (v : Value) (cs : Array Value) (w : World), cs[j]? = some v → (part 2 cs j).run Try.prog w = .ok v w := fun j v cs w h => by simp [part, isAgg, run_underlying Try.underlying2, h]
  rw [Op.equalIn]
  simp only [Sem.run_bind, run_underlying Try.underlying31, Result.andThen_ok, hs]
  by_cases e0 : x0 = y0
  · by_cases e1 : x1 = y1
    · by_cases e2 : x2 = y2
      · by_cases e3 : x3 = y3
        · by_cases e4 : x4 = y4
          · by_cases e5 : x5 = y5
            · by_cases e6 : x6 = y6
              · by_cases e7 : x7 = y7
                · simp [Std.Legacy.Range.forIn_eq_forIn_range', List.range', hp, h2, e0, e1, e2, e3, e4, e5, e6, e7]
                · simp [Std.Legacy.Range.forIn_eq_forIn_range', List.range', hp, h2, e0, e1, e2, e3, e4, e5, e6, e7]
              · simp [Std.Legacy.Range.forIn_eq_forIn_range', List.range', hp, h2, e0, e1, e2, e3, e4, e5, e6]
            · simp [Std.Legacy.Range.forIn_eq_forIn_range', List.range', hp, h2, e0, e1, e2, e3, e4, e5]
          · simp [Std.Legacy.Range.forIn_eq_forIn_range', List.range', hp, h2, e0, e1, e2, e3, e4]
        · simp [Std.Legacy.Range.forIn_eq_forIn_range', List.range', hp, h2, e0, e1, e2, e3]
      · simp [Std.Legacy.Range.forIn_eq_forIn_range', List.range', hp, h2, e0, e1, e2]
    · simp [Std.Legacy.Range.forIn_eq_forIn_range', List.range', hp, h2, e0, e1]
  · simp [Std.Legacy.Range.forIn_eq_forIn_range', List.range', hp, h2, e0]

set_option maxRecDepth 100000 in
set_option maxHeartbeats 4000000 in
theorem alike_any (x0 x1 x2 x3 x4 x5 x6 x7 n s t k y0 y1 y2 y3 y4 y5 y6 y7 n' s' t' k' : Int) (pa pb : Option Addr) (ca cb : Nat) (la lb : List Int) (w : World) (ha : Rd w pa la) (hb : Rd w pb lb) (hla : la.length ≤ 1000000) (hlb : lb.length ≤ 1000000) :
    Calls Try.prog 15 #[.agg #[.int .i64 x0, .int .i64 x1, .int .i64 x2, .int .i64 x3, .int .i64 x4, .int .i64 x5, .int .i64 x6, .int .i64 x7, .slice pa la.length ca, .int .i64 n, .int .i64 s, .int .i64 t, .int .i64 k],
      .agg #[.int .i64 y0, .int .i64 y1, .int .i64 y2, .int .i64 y3, .int .i64 y4, .int .i64 y5, .int .i64 y6, .int .i64 y7, .slice pb lb.length cb, .int .i64 n', .int .i64 s', .int .i64 t', .int .i64 k']] w
      fun e w' => ∃ q : Bool, e = .returned (.bool q) ∧ ((la = lb ∧ [x0, x1, x2, x3, x4, x5, x6, x7] = [y0, y1, y2, y3, y4, y5, y6, y7] ∧ n = n' ∧ s = s' ∧ t = t') → q = true) ∧ Below w.heap.size w w' := by
  have HA := hide ha
  have HB := hide hb
  clear ha hb
  have h39 := eqArr x0 x1 x2 x3 x4 x5 x6 x7 y0 y1 y2 y3 y4 y5 y6 y7
  have HQR : Hid ([x0, x1, x2, x3, x4, x5, x6, x7] = [y0, y1, y2, y3, y4, y5, y6, y7] → decide ([x0, x1, x2, x3, x4, x5, x6, x7] = [y0, y1, y2, y3, y4, y5, y6, y7]) = true) := fun h => decide_eq_true h
  have HQW : Hid (la = lb → decide (la = lb) = true) := fun h => decide_eq_true h
  have HW : Hid (∀ W, Below w.heap.size w W → Calls Try.prog 28 #[.slice pa la.length ca, .slice pb lb.length cb] W fun e w' => e = .returned (.bool (decide (la = lb))) ∧ ∃ q, w' = W.drewN q) := fun W hW =>
    sameWords_any _ _ _ _ _ _ _ (HA.out.below (Nat.le_refl _) hW) (HB.out.below (Nat.le_refl _) hW) hla hlb
  generalize decide (la = lb) = qw at *
  generalize decide ([x0, x1, x2, x3, x4, x5, x6, x7] = [y0, y1, y2, y3, y4, y5, y6, y7]) = qr at *
  have HE : Hid ([x0, x1, x2, x3, x4, x5, x6, x7] = [y0, y1, y2, y3, y4, y5, y6, y7] → qr = true) := HQR
  generalize hE : ([x0, x1, x2, x3, x4, x5, x6, x7] = [y0, y1, y2, y3, y4, y5, y6, y7]) = E at HE ⊢
  generalize hL : (la = lb) = L at HQW ⊢
  clear hE hL HQR
  cases qw with
  | false =>
    go_enter Try.func15, Try.ntmps15
    go_wp2_with (go_at_call 28; refine (HW.out _ (((Below.refl _ _).alloc (Nat.le_refl _) _).alloc (by simp) _)).mono ?_; rintro e w1 ⟨rfl, nd, rfl⟩)
    go_ret
    exact ⟨_, rfl, fun h => HQW.out h.1, below_drewN (((Below.refl _ _).alloc (Nat.le_refl _) _).alloc (by simp) _) _⟩
  | true =>
    cases qr with
    | false =>
      go_enter Try.func15, Try.ntmps15
      go_wp2_with (go_at_call 28; refine (HW.out _ (((Below.refl _ _).alloc (Nat.le_refl _) _).alloc (by simp) _)).mono ?_; rintro e w1 ⟨rfl, nd, rfl⟩)
      go_ret
      exact ⟨_, rfl, fun h => HE.out h.2.1, below_drewN (((Below.refl _ _).alloc (Nat.le_refl _) _).alloc (by simp) _) _⟩
    | true =>
      by_cases hn : n = n'
      · by_cases hs : s = s'
        · by_cases ht : t = t'
          · subst hn
            subst hs
            subst ht
            go_enter Try.func15, Try.ntmps15
            go_wp2_with (go_at_call 28; refine (HW.out _ (((Below.refl _ _).alloc (Nat.le_refl _) _).alloc (by simp) _)).mono ?_; rintro e w1 ⟨rfl, nd, rfl⟩)
            go_ret
            exact ⟨_, rfl, fun _ => rfl, below_drewN (((Below.refl _ _).alloc (Nat.le_refl _) _).alloc (by simp) _) _⟩
          · subst hn
            subst hs
            have h1 : (t == t') = false := by simpa using ht
            go_enter Try.func15, Try.ntmps15
            go_wp2_with (go_at_call 28; refine (HW.out _ (((Below.refl _ _).alloc (Nat.le_refl _) _).alloc (by simp) _)).mono ?_; rintro e w1 ⟨rfl, nd, rfl⟩)
            go_ret
            exact ⟨_, rfl, fun h => absurd h.2.2.2.2 ht, below_drewN (((Below.refl _ _).alloc (Nat.le_refl _) _).alloc (by simp) _) _⟩
        · subst hn
          have h1 : (s == s') = false := by simpa using hs
          go_enter Try.func15, Try.ntmps15
          go_wp2_with (go_at_call 28; refine (HW.out _ (((Below.refl _ _).alloc (Nat.le_refl _) _).alloc (by simp) _)).mono ?_; rintro e w1 ⟨rfl, nd, rfl⟩)
          go_ret
          exact ⟨_, rfl, fun h => absurd h.2.2.2.1 hs, below_drewN (((Below.refl _ _).alloc (Nat.le_refl _) _).alloc (by simp) _) _⟩
      · have h1 : (n == n') = false := by simpa using hn
        go_enter Try.func15, Try.ntmps15
        go_wp2_with (go_at_call 28; refine (HW.out _ (((Below.refl _ _).alloc (Nat.le_refl _) _).alloc (by simp) _)).mono ?_; rintro e w1 ⟨rfl, nd, rfl⟩)
        go_ret
        exact ⟨_, rfl, fun h => absurd h.2.2.1 hn, below_drewN (((Below.refl _ _).alloc (Nat.le_refl _) _).alloc (by simp) _) _⟩

end Go.Proofs.Ytmeiogoodbnkkaa

/- The document's first example, by Plain and by Run. -/
namespace Go.Proofs.Ytmeiogoodbnkkaa
open Go.RowKit

def oCells (o : Ord) : List Value := [.int .i64 o.op, .int .i64 o.d, .int .i64 o.a, .int .i64 o.b, .int .i64 o.k]

theorem o_get : ∀ (l : List Ord) (i r : Nat), i < l.length → r < 5 → (l.flatMap oCells)[i * 5 + r]? = (oCells (l.getD i Ord.none))[r]?
  | [], _, _, h, _ => absurd h (by simp)
  | o :: l, 0, r, _, hr => by
    rw [List.flatMap_cons, List.getElem?_append_left (by simp [oCells]; omega)]
    simp
  | o :: l, i + 1, r, h, hr => by
    rw [List.flatMap_cons, List.getElem?_append_right (by simp [oCells]; omega)]
    have e : (i + 1) * 5 + r - (oCells o).length = i * 5 + r := by simp [oCells]; omega
    rw [e, o_get l i r (by simpa using h) hr]
    simp

theorem rdo_row {W : World} {b : Nat} {arr : Array Value} {e : TypeId} {l : List Ord} (h : W.heap[b]? = some (.cells arr e (0, 0))) (he : arr = (l.flatMap oCells).toArray) : RdO W (some ⟨b, 0, none⟩) l := by
  refine .inr ⟨b, 0, rfl, (Array.getElem?_eq_some_iff.1 h).1, fun i hi => ?_⟩
  have g : ∀ r, r < 5 → W.cell? ⟨b, 0 + i * 5 + r, none⟩ = (oCells (l.getD i Ord.none))[r]? := fun r hr => by
    rw [cell_of_row _ _ _ _ _ _ h, he, List.getElem?_toArray, Nat.zero_add]
    exact o_get l i r hi hr
  exact ⟨g 0 (by omega), g 1 (by omega), g 2 (by omega), g 3 (by omega), g 4 (by omega)⟩

def exProg : List Ord := [⟨1, 1, 0, 0, 7⟩, ⟨1, 2, 0, 0, 5⟩, ⟨3, 3, 1, 2, 0⟩, ⟨0, 0, 0, 0, 0⟩]

theorem ex_plain : answer exProg [] 9 = (⟨[0, 7, 5, 2, 0, 0, 0, 0], [], 3, 3⟩, 0, 0, 0) := by kernel_rfl

theorem ex_run : ∃ r : Mc, (r, (0 : Int)) = answerR [1, 1, 1, 1] [1, 1, 1, 1] 1 exProg [] 30 ∧ r.regs = [0, 7, 5, 2, 0, 0, 0, 0] ∧ r.next = 3 ∧ r.stop = 0 ∧ r.trap = 0 ∧ r.steps = 12 ∧ r.given.length = 3 ∧ (r.given.flatMap tmCells)[11]? = some (.int .i64 9) := by
  refine ⟨runM [1, 1, 1, 1] [1, 1, 1, 1] 1 exProg [] 30, by kernel_rfl, by kernel_rfl, by kernel_rfl, by kernel_rfl, by kernel_rfl, by kernel_rfl, by kernel_rfl, by kernel_rfl⟩

set_option maxRecDepth 100000 in
set_option maxHeartbeats 4000000 in
theorem small_any (w : World) : Calls Try.prog 23 #[] w fun e w' => e = .returned (.bool true) ∧ Below w.heap.size w w' := by
  have HPL : Hid (∀ W p c, RdO W p exProg → Calls Try.prog 14 #[.slice p 4 c, .slice none 0 0, .int .i64 9] W fun e w' => ∃ pp nn cc, e = .returned (.tuple #[.agg #[.int .i64 0, .int .i64 7, .int .i64 5, .int .i64 2, .int .i64 0, .int .i64 0, .int .i64 0, .int .i64 0, .slice pp nn cc, .int .i64 3, .int .i64 0, .int .i64 0, .int .i64 3], .int .i64 0]) ∧ Below W.heap.size W w') := fun W p c hp => by
    refine (plain_any p none c 0 exProg [] 9 W hp (.inl rfl) (by decide) (by decide)).mono ?_
    rintro e w' ⟨mv, rfl, hb, ho, _⟩
    obtain ⟨pp, cc, rfl, _⟩ := ho.slice
    exact ⟨pp, _, cc, by rw [ex_plain]; rfl, hb⟩
  have HRD : Hid (∀ W arr e b, W.heap[b]? = some (.cells arr e (0, 0)) → arr = (exProg.flatMap oCells).toArray → RdO W (some ⟨b, 0, none⟩) exProg) := fun W arr e b h1 h2 => rdo_row h1 h2
  go_enter Try.func23, Try.ntmps23
  go_wp2_with (go_at_call 14; refine (HPL.out _ _ _ (HRD.out _ _ _ _ (heap_alloc_new _ _) rfl)).mono ?_; rintro e w1 ⟨pp, nn, cc, rfl, hb1⟩)
  go_ret
  have h1 : Below w.heap.size w w1 := ((Below.refl _ _).alloc (Nat.le_refl _) _).trans (hb1.mono (by simp))
  exact ⟨rfl, h1.alloc h1.size _⟩

set_option maxRecDepth 100000 in
set_option maxHeartbeats 4000000 in
theorem ran_any (w : World) : Calls Try.prog 9 #[] w fun e w' => e = .returned (.bool true) ∧ Below w.heap.size w w' := by
  have HPL : Hid (∀ W p c, RdO W p exProg → Calls Try.prog 13 #[.agg #[.int .i64 1, .int .i64 1, .int .i64 1, .int .i64 1, .int .i64 1, .int .i64 1, .int .i64 1, .int .i64 1, .int .i64 1], .slice p 4 c, .slice none 0 0, .int .i64 30] W fun e w' => ∃ pp nn cc g, e = .returned (.tuple #[.agg #[.int .i64 0, .int .i64 7, .int .i64 5, .int .i64 2, .int .i64 0, .int .i64 0, .int .i64 0, .int .i64 0, .slice pp nn cc, .int .i64 3, .int .i64 0, .int .i64 0, .int .i64 12], .slice (some ⟨g, 0, none⟩) 3 3, .int .i64 0]) ∧ Below W.heap.size W w' ∧ g < w'.heap.size ∧ w'.cell? ⟨g, 11, none⟩ = some (.int .i64 9)) := fun W p c hp => by
    obtain ⟨r, h0, h1, h2, h3, h4, h5, h6, h7⟩ := ex_run
    refine (run_any 1 1 1 1 1 1 1 1 1 p none c 0 exProg [] 30 W hp (.inl rfl) (by decide) (by decide) r 0 h0).mono ?_
    rintro e w' ⟨mv, tv, rfl, hb, ho, _, hr, ht⟩
    obtain ⟨pp, cc, rfl, _⟩ := ho.slice
    rw [h6] at hr
    obtain ⟨hl, hr2⟩ := hr
    rcases hr2 with ⟨_, hn⟩ | ⟨g, cap, cur, rfl, hB, hh, hc, hm, hs, hx⟩
    · exact absurd hn (by decide)
    · have hcap : cap = 3 := by
        rcases ht with e | ⟨g', n', e⟩
        · cases e
        · injection e with e1 e2 e3; omega
      subst hcap
      refine ⟨pp, _, cc, g, by rw [h1, h2, h3, h4, h5]; rfl, hb, (Array.getElem?_eq_some_iff.1 hh).1, ?_⟩
      rw [cell_of_row _ _ _ _ _ _ hh, ← h7, ← hx, List.getElem?_take_of_lt (by omega)]
      simp
  have HRD : Hid (∀ W arr e b, W.heap[b]? = some (.cells arr e (0, 0)) → arr = (exProg.flatMap oCells).toArray → RdO W (some ⟨b, 0, none⟩) exProg) := fun W arr e b h1 h2 => rdo_row h1 h2
  go_enter Try.func9, Try.ntmps9
  go_wp2_with (first | (go_at_call 13; refine (HPL.out _ _ _ ((HRD.out _ _ _ _ (heap_alloc_new _ _) rfl).below (Nat.le_refl _) ((Below.refl _ _).alloc (Nat.le_refl _) _))).mono ?_; rintro e w1 ⟨pp, nn, cc, g, rfl, hb1, hg, hc⟩) | (go_at_call 23; refine (small_any _).mono ?_; rintro e w2 ⟨rfl, hb2⟩; obtain ⟨hc2, hf2⟩ := bcell hb2))
  go_ret
  have h1 : Below w.heap.size w w1 := (((Below.refl _ _).alloc (Nat.le_refl _) _).alloc (by simp) _).trans (hb1.mono (by simp; omega))
  have h2 := h1.alloc h1.size (.cells #[.int .i64 0, .int .i64 7, .int .i64 5, .int .i64 2, .int .i64 0, .int .i64 0, .int .i64 0, .int .i64 0, .slice pp nn cc, .int .i64 3, .int .i64 0, .int .i64 0, .int .i64 12] 33)
  exact ⟨rfl, h2.trans (hb2.mono (by have := h1.size; simp; omega))⟩

end Go.Proofs.Ytmeiogoodbnkkaa

/- What is refused: the contracts of Plain and Run where they refuse. -/
namespace Go.Proofs.Ytmeiogoodbnkkaa
open Go.RowKit

theorem plain_bad (p pm : Option Addr) (c cm : Nat) (prog : List Ord) (mem : List Int) (steps err : Int) (w : World) (hp : RdO w p prog) (hm : Rd w pm mem) (hlen : (prog.length : Int) ≤ 1000000000000000) (hlm : (mem.length : Int) ≤ 1000000000000000) (he : refuse prog mem.length steps = err) (h0 : err ≠ 0) :
    Calls Try.prog 14 #[.slice p prog.length c, .slice pm mem.length cm, .int .i64 steps] w fun e w' =>
      ∃ pp cc, e = .returned (.tuple #[.agg #[.int .i64 0, .int .i64 0, .int .i64 0, .int .i64 0, .int .i64 0, .int .i64 0, .int .i64 0, .int .i64 0, .slice pp 0 cc, .int .i64 0, .int .i64 0, .int .i64 0, .int .i64 0], .int .i64 err]) ∧ Below w.heap.size w w' := by
  subst he
  refine (plain_any p pm c cm prog mem steps w hp hm hlen hlm).mono ?_
  rintro e w' ⟨mv, rfl, hb, ho, _⟩
  have ea : answer prog mem steps = (⟨[0, 0, 0, 0, 0, 0, 0, 0], [], 0, 0⟩, 0, 0, refuse prog mem.length steps) := by unfold answer; rw [if_neg h0]
  rw [ea] at ho ⊢
  obtain ⟨pp, cc, rfl, _⟩ := ho.slice
  exact ⟨pp, cc, rfl, hb⟩

theorem run_bad (u0 u1 u2 u3 l0 l1 l2 l3 b : Int) (p pm : Option Addr) (c cm : Nat) (prog : List Ord) (mem : List Int) (steps err : Int) (w : World) (hp : RdO w p prog) (hm : Rd w pm mem) (hlen : (prog.length : Int) ≤ 1000000000000000) (hlm : (mem.length : Int) ≤ 1000000000000000)
    (he : answerR [u0, u1, u2, u3] [l0, l1, l2, l3] b prog mem steps = (startM [] [] 0 [], err)) :
    Calls Try.prog 13 #[.agg #[.int .i64 u0, .int .i64 u1, .int .i64 u2, .int .i64 u3, .int .i64 l0, .int .i64 l1, .int .i64 l2, .int .i64 l3, .int .i64 b], .slice p prog.length c, .slice pm mem.length cm, .int .i64 steps] w fun e w' =>
      ∃ pp cc pt ct, e = .returned (.tuple #[.agg #[.int .i64 0, .int .i64 0, .int .i64 0, .int .i64 0, .int .i64 0, .int .i64 0, .int .i64 0, .int .i64 0, .slice pp 0 cc, .int .i64 0, .int .i64 0, .int .i64 0, .int .i64 0], .slice pt 0 ct, .int .i64 err]) ∧ Below w.heap.size w w' := by
  refine (run_any u0 u1 u2 u3 l0 l1 l2 l3 b p pm c cm prog mem steps w hp hm hlen hlm _ _ he.symm).mono ?_
  rintro e w' ⟨mv, tv, rfl, hb, ho, _, ⟨_, hr⟩, _⟩
  have ho' : Own w' w.heap.size mv [] := ho
  obtain ⟨pp, cc, rfl, _⟩ := ho'.slice
  rcases hr with ⟨rfl, _⟩ | ⟨g, cap, cur, rfl, _⟩
  · exact ⟨pp, cc, none, 0, rfl, hb⟩
  · exact ⟨pp, cc, some ⟨g, 0, none⟩, cap, rfl, hb⟩

/-- What the errors are. -/
theorem refuse_prog {prog : List Ord} {n : Nat} {steps : Int} (h : isProg prog = false) : refuse prog n steps = 1 := by unfold refuse; rw [if_pos h]
theorem refuse_mem {prog : List Ord} {n : Nat} {steps : Int} (h : isProg prog = true) (hn : 16 < n) : refuse prog n steps = 2 := by unfold refuse; rw [if_neg (by rw [h]; simp), if_pos hn]
theorem refuse_steps {prog : List Ord} {n : Nat} {steps : Int} (h : isProg prog = true) (hn : n ≤ 16) (hs : steps < 1 ∨ 400 < steps) : refuse prog n steps = 3 := by unfold refuse; rw [if_neg (by rw [h]; simp), if_neg (by omega), if_pos hs]
theorem answerR_first {u l : List Int} {b : Int} {prog : List Ord} {mem : List Int} {steps err : Int} (h : refuse prog mem.length steps = err) (h0 : err ≠ 0) : answerR u l b prog mem steps = (startM [] [] 0 [], err) := by
  unfold answerR; rw [h, if_neg h0]
theorem answerR_second {u l : List Int} {b : Int} {prog : List Ord} {mem : List Int} {steps err : Int} (h : refuse prog mem.length steps = 0) (hc : refuseC u l b = err) (h0 : err ≠ 0) : answerR u l b prog mem steps = (startM [] [] 0 [], err) := by
  unfold answerR; rw [h, if_pos rfl, hc, if_neg h0]

def goodO : List Ord := [⟨1, 1, 0, 0, 7⟩]
theorem good_is : isProg goodO = true := by decide
theorem good_steps : refuse goodO 0 1 = 0 := by decide
theorem one_not {o : Ord} (h : isOrd o 1 = false) : isProg [o] = false := by
  unfold isProg
  simp [h]

theorem okN_no {last x : Int} (h : x < 1 ∨ last < x) : okN last x = false := by unfold okN; exact decide_eq_false (by omega)

/-- The bad orders. -/
theorem bad0 {x : Int} (h : x < 0 ∨ 8 < x) : isOrd ⟨x, 1, 0, 0, 7⟩ 1 = false := by unfold isOrd; exact decide_eq_false (by simp only; omega)
theorem bad1 {x : Int} (h : x < 0 ∨ 7 < x) : isOrd ⟨1, x, 0, 0, 7⟩ 1 = false := by unfold isOrd; exact decide_eq_false (by simp only; omega)
theorem bad2 {x : Int} (h : x < 0) : isOrd ⟨1, 1, x, 0, 7⟩ 1 = false := by unfold isOrd; exact decide_eq_false (by simp only; omega)
theorem bad3 {x : Int} (h : 7 < x) : isOrd ⟨1, 1, 0, x, 7⟩ 1 = false := by unfold isOrd; exact decide_eq_false (by simp only; omega)
theorem bad4 {x : Int} (h : 0 < x) : isOrd ⟨8, 0, 0, 0, x⟩ 1 = false := by
  cases e : isOrd ⟨8, 0, 0, 0, x⟩ 1 with
  | false => rfl
  | true =>
    have := (isOrd_spec e).2.2.2.2.2.2.2.2 rfl
    simp only at this
    omega

/-- A row of nothing. -/
theorem rd_made {W : World} {b n : Nat} {arr : Array Value} {e : TypeId} (h : W.heap[b]? = some (.cells arr e (0, 0))) (ha : ∀ i, i < n → arr[i]? = some (.int .i64 0)) : Rd W (some ⟨b, 0, none⟩) (List.replicate n 0) := by
  refine .inr ⟨b, 0, rfl, (Array.getElem?_eq_some_iff.1 h).1, fun i hi => ?_⟩
  rw [cell_of_row _ _ _ _ _ _ h, Nat.zero_add]
  have hi' : i < n := by simpa using hi
  rw [ha i hi']
  simp [List.getD_eq_getElem?_getD, hi']

theorem rdo_made {W : World} {b n : Nat} {arr : Array Value} {e : TypeId} (h : W.heap[b]? = some (.cells arr e (0, 0))) (ha : ∀ i, i < n * 5 → arr[i]? = some (.int .i64 0)) : RdO W (some ⟨b, 0, none⟩) (List.replicate n Ord.none) := by
  refine .inr ⟨b, 0, rfl, (Array.getElem?_eq_some_iff.1 h).1, fun i hi => ?_⟩
  have hi' : i < n := by simpa using hi
  have e0 : (List.replicate n Ord.none).getD i Ord.none = Ord.none := by simp [List.getD_eq_getElem?_getD, hi']
  rw [e0]
  have g : ∀ r, r < 5 → W.cell? ⟨b, 0 + i * 5 + r, none⟩ = some (.int .i64 0) := fun r hr => by
    rw [cell_of_row _ _ _ _ _ _ h]
    exact ha _ (by omega)
  exact ⟨g 0 (by omega), g 1 (by omega), g 2 (by omega), g 3 (by omega), g 4 (by omega)⟩

end Go.Proofs.Ytmeiogoodbnkkaa
