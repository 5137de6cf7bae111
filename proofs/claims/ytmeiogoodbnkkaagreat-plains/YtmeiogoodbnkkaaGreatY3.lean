/- The statement's own walk. -/
import Derived.Test.YtmeiogoodbnkkaaGreatY2
namespace Go.Proofs.YtmeiogoodbnkkaaGreat
open Go.RowKit

theorem bk_new (w : World) : Bk (w.alloc (.cells #[.slice none 0 0, .slice none 0 0, .slice none 0 0, .slice none 0 0, .slice none 0 0, .slice none 0 0] 28)) w.heap.size w.heap.size (.slice none 0 0) (.slice none 0 0) (.slice none 0 0) [] [] [] [] := by
  have hnil : ∀ y : Value, Apart y (.slice none 0 0) := fun y g _ h2 => by cases h2
  exact ⟨heap_alloc_new _ _, Nat.le_refl _, by simp, World.ownsRow_nil _ _ _ _, World.ownsRow_nil _ _ _ _, World.ownsRow_nil _ _ _ _, fun k v n e => (by simp at e), fun y hy => (by cases hy), hnil _, hnil _, hnil _, List.Pairwise.nil, fun y hy => (by cases hy), fun m hm => (by cases hm), fun m hm => (by cases hm)⟩

set_option maxRecDepth 100000 in
set_option maxHeartbeats 4000000 in
theorem plains_any (p pm : Option Addr) (c cm : Nat) (prog : List Ord) (mem : List Int) (steps : Int) (w : World) (hp : RdO w p prog) (hm : Rd w pm mem) (hpB : Under p w.heap.size) (hmB : Under pm w.heap.size) (hl1 : prog.length * 40 ≤ 140737488351232) (hl2 : mem.length * 8 ≤ 140737488351232) :
    Calls Tryz.prog 3 #[.slice p prog.length c, .slice pm mem.length cm, .int .i64 steps] w fun e w' => e = .returned (.bool true) ∧ Below w.heap.size w w' := by
  have HP := hide hp
  have HM := hide hm
  have HPB := hide hpB
  have HMB := hide hmB
  clear hp hm hpB hmB
  go_enter Tryz.func3, Tryz.ntmps3
  go_wp2_with fail
  refine (one_any w.heap.size w.heap.size _ _ _ _ [] _ _ _ _ _ _ _ _ (bk_new w) (by simp) (by simp) (HP.out.below (Nat.le_refl _) ((Below.refl _ _).alloc (Nat.le_refl _) _)) (HM.out.below (Nat.le_refl _) ((Below.refl _ _).alloc (Nat.le_refl _) _)) HPB.out HMB.out hl1 hl2).mono ?_
  rintro e w1 ⟨rfl, hb1, aw, ew, y1, y2, hbk, ht1, ht2⟩
  have B1 : Hid (Below w.heap.size w w1) := ((Below.refl _ _).alloc (Nat.le_refl _) _).trans hb1
  have BK := hide hbk
  have HT1 := hide ht1
  have HT2 := hide ht2
  clear hb1 hbk ht1 ht2
  go_wp2_with fail
  refine (settles_any w.heap.size w.heap.size 0 _ _ _ _ _ _ rfl BK.out (by intro y hy; simp at hy; rcases hy with rfl | rfl; exact HT1.out; exact HT2.out) (by simp)).mono ?_
  rintro e w2 ⟨rfl, hb2⟩
  go_wp2
  go_ret
  exact ⟨rfl, B1.out.trans hb2⟩

end Go.Proofs.YtmeiogoodbnkkaaGreat
