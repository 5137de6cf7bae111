/- A region that reads first, in a round. -/
import Derived.Test.YtmeiogoodbnkkaaGreatCRA
import Derived.StillTail
namespace Go.Proofs.YtmeiogoodbnkkaaGreat
open Go.RowKit

/-- A region that reads first and then goes on in a fixed turn, in a round. -/
theorem round_still_tail {lp k id : Nat} {P : Program} {l : List Oper} {Q : Exit → Act → World → Prop} {a : Act} {w : World} (n : Nat) (hm : P.follows .mixedOrders = true) (hB : Region.lexTailB .any l.toArray n = true) (hd : l.all noDefer = true) (hout : ∀ a w, ¬ Q .outgrown a w)
    (h : wpStill P l.toArray { w with drawn := w.drawn + 1 } (fun a' => wpList P l.toArray Q (l.drop n) a' { w with drawn := w.drawn + 1 }) (l.take n) a) : (Code.region id l.toArray true).wpIn (Fence.wide.inRound lp) k P Q a w := by
  simp only [Region.lexTailB, Bool.and_eq_true, decide_eq_true_eq] at hB
  obtain ⟨⟨⟨⟨b1, b2⟩, b3⟩, b4⟩, b5⟩ := hB
  have l1 : (l.take n).length = n := by
    have : n < l.length := by simpa using b2
    simp; omega
  have l2 : (l.drop n).length = l.toArray.size - n := by simp
  have start : HeadInv .any l.toArray n (Array.replicate l.toArray.size false) :=
    ⟨by simp, fun j oj _ hl => (by rw [getD_replicate_false] at hl; cases hl), fun t _ ht => getD_in (by simpa using ht) (getD_replicate_false _ _)⟩
  have front := wpAnyL_lex (md := .any) (g := l.toArray.size - n) b1 b3 b4 b2 (l.take n) 0 _ a (fun j hj => by
    have hj' : j < n := by rw [l1] at hj; exact hj
    simp [hj']) (by simpa using l1) start (by rw [l1]; exact b5) h
  have whole := wpAny_of_head (Q' := Q) (g := l.toArray.size - n) (fun listed a' hL => by
    have := wpAny_of_seq (md := .any) (Q' := Q) (l.drop n) n listed a' { w with drawn := w.drawn + 1 } (fun j => by simp [List.getElem?_drop]) (by rw [l2]; exact hL.1) hL.2
    rwa [l2] at this) _ _ _ front
  have b2' : n < l.toArray.size := b2
  rw [l1, show n + (l.toArray.size - n) = l.toArray.size by omega] at whole
  exact round_any hm hd hout whole

end Go.Proofs.YtmeiogoodbnkkaaGreat
