/- What one call of the statement needs. -/
import Derived.Test.YtmeiogoodbnkkaaGreatCK2K7
import Derived.Test.YtmeiogoodbnkkaaGreatCUH3
import Derived.Test.YtmeiogoodbnkkaaGreatCH4
namespace Go.Proofs.YtmeiogoodbnkkaaGreat
open Go.RowKit

theorem plain_lit (p pm : Option Addr) (c cm : Nat) (prog : List Ord) (mem : List Int) (steps : Int) (w : World) (hp : RdO w p prog) (hm : Rd w pm mem) (hlen : (prog.length : Int) ≤ 1000000000000000) (hlm : (mem.length : Int) ≤ 1000000000000000)
    {x0 x1 x2 x3 x4 x5 x6 x7 nx st tr sp er : Int} {l : List Int} (hx : (answer prog mem steps).1.regs = [x0, x1, x2, x3, x4, x5, x6, x7]) (h1 : ((answer prog mem steps).1.next : Int) = nx) (h2 : (answer prog mem steps).2.1 = st) (h3 : (answer prog mem steps).2.2.1 = tr) (h4 : ((answer prog mem steps).1.steps : Int) = sp) (h5 : (answer prog mem steps).2.2.2 = er) (h6 : (answer prog mem steps).1.mem = l) :
    Calls Tryz.prog 10 #[.slice p prog.length c, .slice pm mem.length cm, .int .i64 steps] w fun e w' =>
      ∃ pp cc, e = .returned (.tuple #[.agg #[.int .i64 x0, .int .i64 x1, .int .i64 x2, .int .i64 x3, .int .i64 x4, .int .i64 x5, .int .i64 x6, .int .i64 x7, .slice pp l.length cc, .int .i64 nx, .int .i64 st, .int .i64 tr, .int .i64 sp], .int .i64 er]) ∧
        Below w.heap.size w w' ∧ Own w' w.heap.size (.slice pp l.length cc) l ∧ Tight (.slice pp l.length cc) :=
  (plain_any p pm c cm prog mem steps w hp hm hlen hlm).mono (by
    rintro e w' ⟨mv, rfl, hb, ho, ht⟩
    rw [h6] at ho
    obtain ⟨pp, cc, rfl, _⟩ := ho.slice
    exact ⟨pp, cc, by rw [hx, h1, h2, h3, h4, h5]; rfl, hb, ho, ht⟩)

theorem ref_lit (p pm : Option Addr) (c cm : Nat) (prog : List Ord) (mem : List Int) (steps : Int) (w : World) (hp : RdO w p prog) (hm : Rd w pm mem) (hlen : (prog.length : Int) ≤ 1000000000000000) (hlm : (mem.length : Int) ≤ 1000000000000000)
    {x0 x1 x2 x3 x4 x5 x6 x7 nx st tr sp er : Int} {l : List Int} (hx : (answer prog mem steps).1.regs = [x0, x1, x2, x3, x4, x5, x6, x7]) (h1 : ((answer prog mem steps).1.next : Int) = nx) (h2 : (answer prog mem steps).2.1 = st) (h3 : (answer prog mem steps).2.2.1 = tr) (h4 : ((answer prog mem steps).1.steps : Int) = sp) (h5 : (answer prog mem steps).2.2.2 = er) (h6 : (answer prog mem steps).1.mem = l) :
    Calls Tryz.prog 11 #[.slice p prog.length c, .slice pm mem.length cm, .int .i64 steps] w fun e w' =>
      ∃ pp cc, e = .returned (.tuple #[.agg #[.int .i64 x0, .int .i64 x1, .int .i64 x2, .int .i64 x3, .int .i64 x4, .int .i64 x5, .int .i64 x6, .int .i64 x7, .slice pp l.length cc, .int .i64 nx, .int .i64 st, .int .i64 tr, .int .i64 sp], .int .i64 er]) ∧
        Below w.heap.size w w' ∧ Own w' w.heap.size (.slice pp l.length cc) l :=
  (ref_any p pm c cm prog mem steps w hp hm hlen hlm).mono (by
    rintro e w' ⟨mv, rfl, hb, ho⟩
    rw [h6] at ho
    obtain ⟨pp, cc, rfl, _⟩ := ho.slice
    exact ⟨pp, cc, by rw [hx, h1, h2, h3, h4, h5]; rfl, hb, ho⟩)

/-- A list lies below this block. -/
def Under (p : Option Addr) (B : Nat) : Prop := ∀ a, p = some a → a.block < B

theorem Rd.keep {w w' : World} {p : Option Addr} {l : List Int} {B : Nat} (h : Rd w p l) (hb : Below B w w') (hp : Under p B) : Rd w' p l := by
  rcases h with h | ⟨b, off, rfl, hlt, h⟩
  · exact .inl h
  · exact .inr ⟨b, off, rfl, Nat.lt_of_lt_of_le hlt hb.size, fun i hi => by rw [hb.cell (show b < B from hp _ rfl)]; exact h i hi⟩

theorem RdO.keep {w w' : World} {p : Option Addr} {l : List Ord} {B : Nat} (h : RdO w p l) (hb : Below B w w') (hp : Under p B) : RdO w' p l := by
  rcases h with h | ⟨b, off, rfl, hlt, h⟩
  · exact .inl h
  · refine .inr ⟨b, off, rfl, Nat.lt_of_lt_of_le hlt hb.size, fun i hi => ?_⟩
    have hB : b < B := hp _ rfl
    rw [hb.cell (show b < B from hB), hb.cell (show b < B from hB), hb.cell (show b < B from hB), hb.cell (show b < B from hB), hb.cell (show b < B from hB)]
    exact h i hi

theorem HandW.rd {w : World} {g : Nat} {l : List Int} (h : HandW w g l) : Rd w (some ⟨g, 0, none⟩) l := by
  obtain ⟨cur, g1, g2, g3, g4⟩ := h
  refine .inr ⟨g, 0, rfl, (Array.getElem?_eq_some_iff.1 g1).1, fun i hi => ?_⟩
  rw [cell_of_row w g _ _ _ _ g1, Nat.zero_add]
  exact g3 i hi

theorem HandO.rd {w : World} {g : Nat} {l : List Ord} (h : HandO w g l) : RdO w (some ⟨g, 0, none⟩) l := by
  obtain ⟨cur, g1, g2, g3, g4⟩ := h
  refine .inr ⟨g, 0, rfl, (Array.getElem?_eq_some_iff.1 g1).1, fun i hi => ?_⟩
  have e0 := g3 i 0 hi (by omega)
  have e1 := g3 i 1 hi (by omega)
  have e2 := g3 i 2 hi (by omega)
  have e3 := g3 i 3 hi (by omega)
  have e4 := g3 i 4 hi (by omega)
  simp only [ordCells, List.getElem?_cons_zero, List.getElem?_cons_succ, Nat.add_zero] at e0 e1 e2 e3 e4
  rw [cell_of_row w g _ _ _ _ g1, cell_of_row w g _ _ _ _ g1, cell_of_row w g _ _ _ _ g1, cell_of_row w g _ _ _ _ g1, cell_of_row w g _ _ _ _ g1]
  simp only [Nat.zero_add]
  exact ⟨e0, e1, e2, e3, e4⟩

theorem HandW.keep {w w' : World} {g : Nat} {l : List Int} (h : HandW w g l) (hb : w'.heap[g]? = w.heap[g]?) : HandW w' g l := by
  obtain ⟨cur, g1, rest⟩ := h
  exact ⟨cur, hb.trans g1, rest⟩
theorem HandO.keep {w w' : World} {g : Nat} {l : List Ord} (h : HandO w g l) (hb : w'.heap[g]? = w.heap[g]?) : HandO w' g l := by
  obtain ⟨cur, g1, rest⟩ := h
  exact ⟨cur, hb.trans g1, rest⟩

/-- A block of a kind that the book does not write into. -/
theorem Kp.same {bb : Nat} {w w' : World} (h : Kp bb w w') {k : Nat} {cs : Array Value} {e : TypeId} (hk : w.heap[k]? = some (.cells cs e (0, 0))) (he : e ≠ 23) (hne : k ≠ bb) : w'.heap[k]? = some (.cells cs e (0, 0)) := by
  rw [h.block k (Array.getElem?_eq_some_iff.1 hk).1 hne ?_]
  · exact hk
  · intro c f e'
    rw [hk] at e'
    simp only [Option.some.injEq, Obj.cells.injEq] at e'
    exact he e'.2.1

theorem below_same {w w' : World} (h : Below w.heap.size w w') {k : Nat} {o : Obj} (hk : w.heap[k]? = some o) : w'.heap[k]? = some o := by
  rw [h.block k (Array.getElem?_eq_some_iff.1 hk).1]; exact hk

theorem alloc_same {w : World} {k : Nat} {o x : Obj} (hk : w.heap[k]? = some o) : (w.alloc x).heap[k]? = some o := by
  rw [Below.heap_alloc _ _ _ (Array.getElem?_eq_some_iff.1 hk).1]; exact hk

theorem lt_of_blk {w : World} {k : Nat} {o : Obj} (hk : w.heap[k]? = some o) : k < w.heap.size := (Array.getElem?_eq_some_iff.1 hk).1

end Go.Proofs.YtmeiogoodbnkkaaGreat
