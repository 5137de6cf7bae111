/- Plain, by the code. -/
import Derived.Test.YtmeiogoodbnkkaaGreatCS
import Derived.Test.YtmeiogoodbnkkaaGreatCCD
namespace Go.Proofs.YtmeiogoodbnkkaaGreat
open Go.RowKit

/-- What Plain answers: the state, the stop, the trap, the error. -/
def answer (prog : List Ord) (mem : List Int) (steps : Int) : St × Int × Int × Int :=
  if refuse prog mem.length steps = 0 then ((plainSt prog mem steps.toNat).1, (plainSt prog mem steps.toNat).2.1, (plainSt prog mem steps.toNat).2.2, 0)
  else (⟨[0, 0, 0, 0, 0, 0, 0, 0], [], 0, 0⟩, 0, 0, refuse prog mem.length steps)

theorem goOn_fine {prog : List Ord} {n steps : Nat} (hp : isProg prog = true) : ∀ (f : Nat) (s : St), Fine prog n steps s → Fine prog n steps (goOn prog steps f s).1
  | 0, s, h => h
  | f + 1, s, h => by
    rw [goOn]
    split
    · exact h
    · rename_i hop
      split
      · exact h
      · rename_i hs
        split
        · exact goOn_fine hp f _ (h.one hp hop hs)
        · exact h

theorem refuse_ok {prog : List Ord} {n : Nat} {steps : Int} (h : refuse prog n steps = 0) : isProg prog = true ∧ n ≤ 16 ∧ 1 ≤ steps ∧ steps ≤ 400 := by
  unfold refuse at h
  split at h
  · omega
  · rename_i h1
    split at h
    · omega
    · split at h
      · omega
      · exact ⟨by simpa using h1, by omega, by omega, by omega⟩

theorem answer_fine (prog : List Ord) (mem : List Int) (steps : Int) : (answer prog mem steps).1.regs.length = 8 ∧ (answer prog mem steps).1.mem.length ≤ 16 := by
  unfold answer
  split
  · rename_i h
    obtain ⟨h1, h2, h3, h4⟩ := refuse_ok h
    have := goOn_fine h1 (steps.toNat + 1) (start mem) (n := mem.length) (steps := steps.toNat) ⟨rfl, rfl, Nat.zero_le _, Nat.zero_le _⟩
    exact ⟨this.regs, by show (goOn prog steps.toNat (steps.toNat + 1) (start mem)).1.mem.length ≤ 16; rw [this.mem]; exact h2⟩
  · exact ⟨rfl, by simp⟩

/-- The ways through what is refused. -/
theorem refuse_ways (prog : List Ord) (n : Nat) (steps : Int) :
    (isProg prog = false ∧ refuse prog n steps = 1) ∨ (isProg prog = true ∧ 16 < n ∧ refuse prog n steps = 2) ∨ (isProg prog = true ∧ ¬ 16 < n ∧ steps < 1 ∧ refuse prog n steps = 3) ∨
    (isProg prog = true ∧ ¬ 16 < n ∧ ¬ steps < 1 ∧ 400 < steps ∧ refuse prog n steps = 3) ∨ (isProg prog = true ∧ ¬ 16 < n ∧ ¬ steps < 1 ∧ ¬ 400 < steps ∧ refuse prog n steps = 0) := by
  unfold refuse
  cases h1 : isProg prog
  · exact .inl ⟨rfl, by simp⟩
  · refine .inr ?_
    by_cases h2 : 16 < n
    · exact .inl ⟨rfl, h2, by simp [h2]⟩
    · refine .inr ?_
      by_cases h3 : steps < 1
      · exact .inl ⟨rfl, h2, h3, by simp [h2, h3]⟩
      · refine .inr ?_
        by_cases h4 : 400 < steps
        · exact .inl ⟨rfl, h2, h3, h4, by simp [h2, h4]⟩
        · exact .inr ⟨rfl, h2, h3, h4, by simp [h2, h3, h4]⟩

set_option maxHeartbeats 2000000 in
theorem refused_any (p pm : Option Addr) (c cm n : Nat) (prog : List Ord) (steps : Int) (w : World) (hp : RdO w p prog) (hlen : (prog.length : Int) ≤ 1000000000000000) (hlm : (n : Int) ≤ 1000000000000000) :
    Calls Tryz.prog 26 #[.slice p prog.length c, .slice pm n cm, .int .i64 steps] w fun e w' => e = .returned (.int .i64 (refuse prog n steps)) ∧ Below w.heap.size w w' := by
  have HP := hide hp
  clear hp
  rcases refuse_ways prog n steps with ⟨h1, hr⟩ | ⟨h1, h2, hr⟩ | ⟨h1, h2, h3, hr⟩ | ⟨h1, h2, h3, h4, hr⟩ | ⟨h1, h2, h3, h4, hr⟩
  · have HR := hide hr
    clear hr
    go_enter Tryz.func26, Tryz.ntmps26
    go_wp2_with (go_at_call 41; refine (codeProg_any _ _ _ _ HP.out hlen).mono ?_; rintro e w1 ⟨rfl, hb1⟩)
    go_ret
    exact ⟨ret_int HR.out.symm, hb1⟩
  · have HR := hide hr
    clear hr
    have t2 : (16 : Int) < (n : Int) := by omega
    go_enter Tryz.func26, Tryz.ntmps26
    go_wp2_with (go_at_call 41; refine (codeProg_any _ _ _ _ HP.out hlen).mono ?_; rintro e w1 ⟨rfl, hb1⟩)
    go_ret
    exact ⟨ret_int HR.out.symm, hb1⟩
  · have HR := hide hr
    clear hr
    have t2 : ¬ (16 : Int) < (n : Int) := by omega
    go_enter Tryz.func26, Tryz.ntmps26
    go_wp2_with (go_at_call 41; refine (codeProg_any _ _ _ _ HP.out hlen).mono ?_; rintro e w1 ⟨rfl, hb1⟩)
    go_ret
    exact ⟨ret_int HR.out.symm, hb1⟩
  · have HR := hide hr
    clear hr
    have t2 : ¬ (16 : Int) < (n : Int) := by omega
    go_enter Tryz.func26, Tryz.ntmps26
    go_wp2_with (go_at_call 41; refine (codeProg_any _ _ _ _ HP.out hlen).mono ?_; rintro e w1 ⟨rfl, hb1⟩)
    go_ret
    exact ⟨ret_int HR.out.symm, hb1⟩
  · have HR := hide hr
    clear hr
    have t2 : ¬ (16 : Int) < (n : Int) := by omega
    go_enter Tryz.func26, Tryz.ntmps26
    go_wp2_with (go_at_call 41; refine (codeProg_any _ _ _ _ HP.out hlen).mono ?_; rintro e w1 ⟨rfl, hb1⟩)
    go_ret
    exact ⟨ret_int HR.out.symm, hb1⟩

theorem do_lit (p pm : Option Addr) (c cm : Nat) (prog : List Ord) (mem : List Int) (steps : Nat) (w : World) (hp : RdO w p prog) (hm : Rd w pm mem) (hprog : isProg prog = true) (hml : mem.length ≤ 16) (hs : steps ≤ 400)
    {x0 x1 x2 x3 x4 x5 x6 x7 : Int} (hx : (plainSt prog mem steps).1.regs = [x0, x1, x2, x3, x4, x5, x6, x7]) :
    Calls Tryz.prog 27 #[.slice p prog.length c, .slice pm mem.length cm, .int .i64 steps] w fun e w' =>
      ∃ pp nn cc, e = .returned (.agg #[.int .i64 x0, .int .i64 x1, .int .i64 x2, .int .i64 x3, .int .i64 x4, .int .i64 x5, .int .i64 x6, .int .i64 x7, .slice pp nn cc, .int .i64 (plainSt prog mem steps).1.next, .int .i64 (plainSt prog mem steps).2.1, .int .i64 (plainSt prog mem steps).2.2, .int .i64 (plainSt prog mem steps).1.steps]) ∧
        Below w.heap.size w w' ∧ Own w' w.heap.size (.slice pp nn cc) (plainSt prog mem steps).1.mem ∧ Tight (.slice pp nn cc) :=
  (do_any p pm c cm prog mem steps w hp hm hprog hml hs).mono (by
    rintro e w' ⟨mv, rfl, hb, ho, ht⟩
    obtain ⟨pp, cc, rfl, _⟩ := ho.slice
    exact ⟨pp, _, cc, by rw [hx]; rfl, hb, ho, ht⟩)

set_option maxRecDepth 100000 in
set_option maxHeartbeats 4000000 in
theorem plain_any (p pm : Option Addr) (c cm : Nat) (prog : List Ord) (mem : List Int) (steps : Int) (w : World) (hp : RdO w p prog) (hm : Rd w pm mem) (hlen : (prog.length : Int) ≤ 1000000000000000) (hlm : (mem.length : Int) ≤ 1000000000000000) :
    Calls Tryz.prog 10 #[.slice p prog.length c, .slice pm mem.length cm, .int .i64 steps] w fun e w' =>
      ∃ mv, e = .returned (.tuple #[.agg (stCells (answer prog mem steps).1.regs mv (answer prog mem steps).1.next (answer prog mem steps).2.1 (answer prog mem steps).2.2.1 (answer prog mem steps).1.steps).toArray, .int .i64 (answer prog mem steps).2.2.2]) ∧
        Below w.heap.size w w' ∧ Own w' w.heap.size mv (answer prog mem steps).1.mem ∧ Tight mv := by
  have HP := hide hp
  have HM := hide hm
  clear hp hm
  by_cases hr : refuse prog mem.length steps = 0
  · obtain ⟨g1, g2, g3, g4⟩ := refuse_ok hr
    have e : answer prog mem steps = ((plainSt prog mem steps.toNat).1, (plainSt prog mem steps.toNat).2.1, (plainSt prog mem steps.toNat).2.2, 0) := by unfold answer; rw [if_pos hr]
    have hreg := (answer_fine prog mem steps).1
    rw [e] at hreg ⊢
    obtain ⟨ns, rfl⟩ := Int.eq_ofNat_of_zero_le (show 0 ≤ steps by omega)
    simp only [Int.toNat_natCast] at hreg ⊢
    have ht : (refuse prog mem.length ns != 0) = false := by simp [hr]
    have HR := hide hr
    clear hr e
    obtain ⟨x0, x1, x2, x3, x4, x5, x6, x7, hx⟩ := list8 hreg
    have HX := hide hx
    clear hx hreg
    have HDO := hide (fun W (h1 : RdO W p prog) (h2 : Rd W pm mem) => do_lit p pm c cm prog mem ns W h1 h2 g1 g2 (by omega) HX.out)
    obtain ⟨r, hr⟩ : ∃ r, r = plainSt prog mem ns := ⟨_, rfl⟩
    rw [← hr] at HDO HX ⊢
    clear hr
    go_enter Tryz.func10, Tryz.ntmps10
    go_wp2_with (first | (go_at_call 26; refine (refused_any _ _ _ _ _ _ _ _ (HP.out.below (Nat.le_refl _) ((Below.refl _ _).alloc (Nat.le_refl _) _)) hlen hlm).mono ?_; rintro e w1 ⟨rfl, hb1⟩; obtain ⟨hc1, hf1⟩ := bcell hb1; have HB1 : Hid (Below w.heap.size w w1) := (((Below.refl _ _).alloc (Nat.le_refl _) _).trans (hb1.mono (by simp))); have hz1 : w.heap.size < w1.heap.size := (by have := hb1.size; simp at this; omega)) | (go_at_call 27; refine (HDO.out _ (HP.out.below (Nat.le_refl _) HB1.out) (HM.out.below (Nat.le_refl _) HB1.out)).mono ?_; rintro e w2 ⟨pp, nn, cc, rfl, hb2, hown2, htg⟩; obtain ⟨hc2, hf2⟩ := bcell hb2))
    refine bodyPost_ret (v := .tuple #[.agg #[.int .i64 x0, .int .i64 x1, .int .i64 x2, .int .i64 x3, .int .i64 x4, .int .i64 x5, .int .i64 x6, .int .i64 x7, .slice pp nn cc, .int .i64 r.1.next, .int .i64 r.2.1, .int .i64 r.2.2, .int .i64 r.1.steps], .int .i64 0]) (by simp [results, Tryz.results10, go_sem, hc1, hc2, hz1]) rfl ⟨.slice pp nn cc, by rw [HX.out]; rfl, ?_, ?_, htg⟩
    · repeat (refine Below.setCell ?_ (by simp) _)
      exact HB1.out.trans (hb2.mono (by omega))
    · have hlt := hown2.lt
      repeat (refine Own.far ?_ (fun e => by have := hlt _ e; simp at this; omega))
      exact hown2.base (by omega)
  · have e : answer prog mem steps = (⟨[0, 0, 0, 0, 0, 0, 0, 0], [], 0, 0⟩, 0, 0, refuse prog mem.length steps) := by unfold answer; rw [if_neg hr]
    rw [e]
    have ht : (refuse prog mem.length steps != 0) = true := by simpa using hr
    clear e hr
    go_enter Tryz.func10, Tryz.ntmps10
    go_wp2_with (go_at_call 26; refine (refused_any _ _ _ _ _ _ _ _ (HP.out.below (Nat.le_refl _) ((Below.refl _ _).alloc (Nat.le_refl _) _)) hlen hlm).mono ?_; rintro e w1 ⟨rfl, hb1⟩; obtain ⟨hc1, hf1⟩ := bcell hb1)
    refine bodyPost_ret (v := .tuple #[.agg #[.int .i64 0, .int .i64 0, .int .i64 0, .int .i64 0, .int .i64 0, .int .i64 0, .int .i64 0, .int .i64 0, .slice none 0 0, .int .i64 0, .int .i64 0, .int .i64 0, .int .i64 0], .int .i64 (refuse prog mem.length steps)]) (by simp [results, Tryz.results10, go_sem, hc1]) rfl ⟨.slice none 0 0, rfl, ?_, ?_, .inl rfl⟩
    · repeat (refine Below.setCell ?_ (by simp) _)
      exact ((Below.refl _ _).alloc (Nat.le_refl _) _).trans (hb1.mono (by simp))
    · exact World.ownsRow_nil _ _ _ _

end Go.Proofs.YtmeiogoodbnkkaaGreat
