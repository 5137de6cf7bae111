/- The document's Plain at all arguments; two states held against each other. -/
import Derived.Test.YtmeiogoodbnkkaaGreatW
import Derived.Test.YtmeiogoodbnkkaaGreatB
namespace Go.Proofs.YtmeiogoodbnkkaaGreat
open Go.RowKit

set_option maxRecDepth 100000 in
set_option maxHeartbeats 4000000 in
theorem ref_any (p pm : Option Addr) (c cm : Nat) (prog : List Ord) (mem : List Int) (steps : Int) (w : World) (hp : RdO w p prog) (hm : Rd w pm mem) (hlen : (prog.length : Int) ≤ 1000000000000000) (hlm : (mem.length : Int) ≤ 1000000000000000) :
    Calls Tryz.prog 11 #[.slice p prog.length c, .slice pm mem.length cm, .int .i64 steps] w fun e w' =>
      ∃ mv, e = .returned (.tuple #[.agg (stCells (answer prog mem steps).1.regs mv (answer prog mem steps).1.next (answer prog mem steps).2.1 (answer prog mem steps).2.2.1 (answer prog mem steps).1.steps).toArray, .int .i64 (answer prog mem steps).2.2.2]) ∧
        Below w.heap.size w w' ∧ Own w' w.heap.size mv (answer prog mem steps).1.mem := by
  by_cases hr : refuse prog mem.length steps = 0
  · obtain ⟨g1, g2, g3, g4⟩ := refuse_ok hr
    have e : answer prog mem steps = ((plainSt prog mem steps.toNat).1, (plainSt prog mem steps.toNat).2.1, (plainSt prog mem steps.toNat).2.2, 0) := by unfold answer; rw [if_pos hr]
    rw [e]
    obtain ⟨ns, rfl⟩ := Int.eq_ofNat_of_zero_le (show 0 ≤ steps by omega)
    simp only [Int.toNat_natCast]
    exact ref_go p pm c cm prog mem ns w hp hm hr
  · have HP := hide hp
    clear hp hm
    have e : answer prog mem steps = (⟨[0, 0, 0, 0, 0, 0, 0, 0], [], 0, 0⟩, 0, 0, refuse prog mem.length steps) := by unfold answer; rw [if_neg hr]
    rw [e]
    have ht : (refuse prog mem.length steps != 0) = true := by simpa using hr
    clear e hr
    go_enter Tryz.func11, Tryz.ntmps11
    go_wp2_with (go_at_call 28; refine (wrong_any _ _ _ _ _ _ _ _ (HP.out.below (Nat.le_refl _) ((Below.refl _ _).alloc (Nat.le_refl _) _)) hlen hlm).mono ?_; rintro e w1 ⟨rfl, hb1⟩; obtain ⟨hc1, hf1⟩ := bcell hb1)
    refine bodyPost_ret (v := .tuple #[.agg #[.int .i64 0, .int .i64 0, .int .i64 0, .int .i64 0, .int .i64 0, .int .i64 0, .int .i64 0, .int .i64 0, .slice none 0 0, .int .i64 0, .int .i64 0, .int .i64 0, .int .i64 0], .int .i64 (refuse prog mem.length steps)]) (by simp [results, Tryz.results11, go_sem, hc1]) rfl ⟨.slice none 0 0, rfl, ?_, ?_⟩
    · repeat (refine Below.setCell ?_ (by simp) _)
      exact ((Below.refl _ _).alloc (Nat.le_refl _) _).trans (hb1.mono (by simp))
    · exact World.ownsRow_nil _ _ _ _

set_option maxHeartbeats 1000000 in
theorem eq39 (x0 x1 x2 x3 x4 x5 x6 x7 : Int) (w : World) :
    (Op.equalIn 10000 44 (.agg #[.int .i64 x0, .int .i64 x1, .int .i64 x2, .int .i64 x3, .int .i64 x4, .int .i64 x5, .int .i64 x6, .int .i64 x7]) (.agg #[.int .i64 x0, .int .i64 x1, .int .i64 x2, .int .i64 x3, .int .i64 x4, .int .i64 x5, .int .i64 x6, .int .i64 x7])).run Tryz.prog w = .ok true w := by
  have h2 : ∀ (a b : Int) (w : World), (Op.equalIn 9999 2 (.int .i64 a) (.int .i64 b)).run Tryz.prog w = .ok (a == b) w := fun a b w => run_equalIn_int w 9998 2 .i64 .i64 a b Tryz.underlying2
  obtain ⟨i0, hi0, hz0, hz1, hz2⟩ := info_parts Tryz.info2
  have hs : ∀ w : World, (sizeOf 2).run Tryz.prog w = .ok 1 w := fun w => by simp [sizeOf, typeInfo, hi0, hz1]
  have hp : ∀ (j : Nat) (v : Value) (cs : Array Value) (w : World), cs[j]? = some v → (part 2 cs j).run Tryz.prog w = .ok v w := fun j v cs w h => by simp [part, isAgg, run_underlying Tryz.underlying2, h]
  rw [Op.equalIn]
  simp only [Sem.run_bind, run_underlying Tryz.underlying44, Result.andThen_ok, hs]
  simp [Std.Legacy.Range.forIn_eq_forIn_range', List.range', hp, h2]

set_option maxRecDepth 100000 in
set_option maxHeartbeats 4000000 in
/-- The same state, in two memories: held equal. -/
theorem sameState_any (x0 x1 x2 x3 x4 x5 x6 x7 n s t k : Int) (pa pb : Option Addr) (ca cb : Nat) (l : List Int) (w : World) (ha : Rd w pa l) (hb : Rd w pb l) (hl : l.length ≤ 1000000) :
    Calls Tryz.prog 12 #[.agg #[.int .i64 x0, .int .i64 x1, .int .i64 x2, .int .i64 x3, .int .i64 x4, .int .i64 x5, .int .i64 x6, .int .i64 x7, .slice pa l.length ca, .int .i64 n, .int .i64 s, .int .i64 t, .int .i64 k],
      .agg #[.int .i64 x0, .int .i64 x1, .int .i64 x2, .int .i64 x3, .int .i64 x4, .int .i64 x5, .int .i64 x6, .int .i64 x7, .slice pb l.length cb, .int .i64 n, .int .i64 s, .int .i64 t, .int .i64 k]] w
      fun e w' => e = .returned (.bool true) ∧ Below w.heap.size w w' := by
  have HA := hide ha
  have HB := hide hb
  clear ha hb
  have h39 := eq39 x0 x1 x2 x3 x4 x5 x6 x7
  have hself : decide (l = l) = true := decide_eq_true rfl
  go_enter Tryz.func12, Tryz.ntmps12
  go_wp2_with (go_at_call 31; refine (sameWords_any _ _ _ _ _ _ _ (HA.out.below (Nat.le_refl _) (((Below.refl _ _).alloc (Nat.le_refl _) _).alloc (by simp) _)) (HB.out.below (Nat.le_refl _) (((Below.refl _ _).alloc (Nat.le_refl _) _).alloc (by simp) _)) hl hl).mono ?_; rintro e w1 ⟨rfl, nd, rfl⟩)
  go_ret
  exact ⟨rfl, below_drewN (((Below.refl _ _).alloc (Nat.le_refl _) _).alloc (by simp) _) _⟩

end Go.Proofs.YtmeiogoodbnkkaaGreat
