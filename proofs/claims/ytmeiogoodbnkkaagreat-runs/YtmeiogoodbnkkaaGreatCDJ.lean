/- The statement's own walk: Runs. -/
import Derived.Test.YtmeiogoodbnkkaaGreatCDI
namespace Go.Proofs.YtmeiogoodbnkkaaGreat
open Go.RowKit

theorem Under.safe {w : World} {bb B B' : Nat} {p : Option Addr} (h : Under p B) (hB : B ≤ B') (hw : B ≤ w.heap.size) : Safe w B' bb p := fun a ha => ⟨Nat.lt_of_lt_of_le (h a ha) hw, .inl (Nat.lt_of_lt_of_le (h a ha) hB)⟩

set_option maxRecDepth 100000 in
set_option maxHeartbeats 4000000 in
theorem runs_law (u0 u1 u2 u3 l0 l1 l2 l3 b : Int) (p pm : Option Addr) (c cm : Nat) (prog : List Ord) (mem : List Int) (steps : Int) (w : World) (hp : RdO w p prog) (hm : Rd w pm mem) (hpB : Under p w.heap.size) (hmB : Under pm w.heap.size) (hl1 : prog.length * 40 ≤ 140737488351232) (hl2 : mem.length * 8 ≤ 140737488351232) :
    Calls Tryz.prog 4 #[.agg #[.int .i64 u0, .int .i64 u1, .int .i64 u2, .int .i64 u3, .int .i64 l0, .int .i64 l1, .int .i64 l2, .int .i64 l3, .int .i64 b], .slice p prog.length c, .slice pm mem.length cm, .int .i64 steps] w fun e w' => e = .returned (.bool true) ∧ Below w.heap.size w w' := by
  have HP := hide hp
  have HM := hide hm
  have HPB := hide hpB
  have HMB := hide hmB
  clear hp hm hpB hmB
  have hnew : Bkk ((w.alloc (.cells #[.int .i64 u0, .int .i64 u1, .int .i64 u2, .int .i64 u3, .int .i64 l0, .int .i64 l1, .int .i64 l2, .int .i64 l3, .int .i64 b] 32)).alloc (.cells #[.slice none 0 0, .slice none 0 0, .slice none 0 0, .slice none 0 0, .slice none 0 0, .slice none 0 0] 28)) (w.heap.size + 1) (w.heap.size + 1) 0 := by
    simpa using Bkk.new (w.alloc (.cells #[.int .i64 u0, .int .i64 u1, .int .i64 u2, .int .i64 u3, .int .i64 l0, .int .i64 l1, .int .i64 l2, .int .i64 l3, .int .i64 b] 32))
  have HN := hide hnew
  have hbel : Below w.heap.size w ((w.alloc (.cells #[.int .i64 u0, .int .i64 u1, .int .i64 u2, .int .i64 u3, .int .i64 l0, .int .i64 l1, .int .i64 l2, .int .i64 l3, .int .i64 b] 32)).alloc (.cells #[.slice none 0 0, .slice none 0 0, .slice none 0 0, .slice none 0 0, .slice none 0 0, .slice none 0 0] 28)) := ((Below.refl _ _).alloc (Nat.le_refl _) _).alloc (by simp) _
  have HL := hide hbel
  clear hnew hbel
  go_enter Tryz.func4, Tryz.ntmps4
  go_wp2_with fail
  refine (oneQ2 (w.heap.size + 1) (w.heap.size + 1) 0 _ _ _ _ _ _ _ _ _ _ _ _ _ _ _ _ _ HN.out (by omega) (HP.out.below (Nat.le_refl _) HL.out) (HM.out.below (Nat.le_refl _) HL.out) (fun _ => HPB.out.safe (by omega) (by simp; omega)) (fun _ => HMB.out.safe (by omega) (by simp; omega)) hl1 hl2).mono ?_
  rintro e w1 ⟨rfl, hb1, hk1⟩
  have B1 : Hid (Below w.heap.size w w1) := HL.out.trans (hb1.mono (by omega))
  have BK := hide hk1
  clear hb1 hk1
  go_wp2_with fail
  refine (settlesK (w.heap.size + 1) (w.heap.size + 1) 1 _ BK.out (by omega)).mono ?_
  rintro e w2 ⟨rfl, hb2⟩
  go_wp2
  go_ret
  exact ⟨rfl, B1.out.trans (hb2.mono (by omega))⟩

end Go.Proofs.YtmeiogoodbnkkaaGreat
