/-
  Proved: whatever list of orders, memory and number of steps boardlaw.Plains is handed, it returns true, and each argument reads behind the call as it read before.
  Conditions: none beside the form's own.
-/
import Derived.Test.YtmeiogoodbnkkaaGreatRows
import Derived.Test.YtmeiogoodbnkkaaGreatY3
import Derived.WalkKit
import Derived.ProofKit
import Derived.OpenShut
import Derived.ChangeOld
import Derived.Below
import Derived.SizedLaws
import Derived.Deep.Slices
namespace Go.Proofs.YtmeiogoodbnkkaaGreat
open Go.ChangeShapes Go.WideShapes Go.ChangeAt Go.RowKit

theorem own_knob : ownKnob Tryz.prog.godebug = none := by kernel_rfl
theorem laid_out : laidOutB Tryz.prog = true := by kernel_rfl
theorem cells_order : Tryz.prog.cellsOf 40 = 5 := by kernel_rfl
theorem cells_int : Tryz.prog.cellsOf 3 = 1 := by kernel_rfl
theorem cells_word : Tryz.prog.cellsOf 2 = 1 := by kernel_rfl
theorem bytes_order : Tryz.prog.bytesOf 40 = 40 := by kernel_rfl
theorem bytes_word : Tryz.prog.bytesOf 2 = 8 := by kernel_rfl

/-- A slice that fits its type and is not nil: its address is plain, its block is there. -/
theorem slice_place {P : Program} {w : World} {base : Nat} {t e : TypeId} {a : Addr} {len cap : Nat} (ht : P.underlying t = some (.slice e)) (h : Value.okWide P w .any base t (.slice (some a) len cap)) :
    a.spot = none ∧ a.block < w.heap.size := by
  simp only [Value.okWide, ht, Cell.okWide, Cell.ok, World.has] at h
  obtain ⟨_, _, _, hs, row, cells, hw, _⟩ := h
  refine ⟨hs, ?_⟩
  unfold World.shape? at hw
  by_cases hb : a.block < w.heap.size
  · exact hb
  · rw [Array.getElem?_eq_none (by omega)] at hw
    simp at hw

theorem five {α : Type} {l : List α} (h : l.length = 5) : ∃ a b c d e, l = [a, b, c, d, e] := by
  match l, h with
  | [a, b, c, d, e], _ => exact ⟨a, b, c, d, e, rfl⟩

set_option maxRecDepth 100000 in
/-- The cells of one order are five words. -/
theorem order_cells {H : Type} {enc : TypeId × Value → H} {w : World} {base : Nat} {sp : Nat → Bool} {held : Bool} {fuel : Nat} {cs : List Value} {x : DataW H × List MemPlace} (h : DataW.trod enc Tryz.prog w base sp held fuel 40 cs = some x) :
    ∃ o : Ord, cs = [.int .i64 o.op, .int .i64 o.d, .int .i64 o.a, .int .i64 o.b, .int .i64 o.k] := by
  obtain ⟨xs, n, _, _, hl, hlen, hf⟩ := DataW.trod_struct Tryz.underlying40 h
  rw [cells_order] at hl
  have one : ∀ i f, i < 5 → (Tryz.prog.underlying f = some (.int .i64)) → Tryz.prog.cellsOf f = 1 → (∃ y, DataW.trod enc Tryz.prog w base sp held n f ((cs.drop i).take (Tryz.prog.cellsOf f)) = some y) → ∃ z, cs[i]? = some (Value.int .i64 z) := by
    intro i f hi hu hc ⟨y, hy⟩
    obtain ⟨z, hz, _⟩ := DataW.trod_int hu hy
    rw [hc] at hz
    refine ⟨z, ?_⟩
    have : ((cs.drop i).take 1)[0]? = some (Value.int .i64 z) := by rw [hz]; rfl
    simpa using this
  have xs_at : ∀ i, i < 5 → ∃ y, xs[i]? = some y := fun i hi => by
    have : i < xs.length := by rw [hlen]; exact hi
    exact ⟨_, List.getElem?_eq_getElem this⟩
  obtain ⟨z0, e0⟩ := one 0 3 (by decide) Tryz.underlying3 cells_int (by obtain ⟨y, hy⟩ := xs_at 0 (by decide); exact ⟨y, by rw [← hy]; exact hf 0 _ rfl⟩)
  obtain ⟨z1, e1⟩ := one 1 3 (by decide) Tryz.underlying3 cells_int (by obtain ⟨y, hy⟩ := xs_at 1 (by decide); exact ⟨y, by rw [← hy]; exact hf 1 _ rfl⟩)
  obtain ⟨z2, e2⟩ := one 2 3 (by decide) Tryz.underlying3 cells_int (by obtain ⟨y, hy⟩ := xs_at 2 (by decide); exact ⟨y, by rw [← hy]; exact hf 2 _ rfl⟩)
  obtain ⟨z3, e3⟩ := one 3 3 (by decide) Tryz.underlying3 cells_int (by obtain ⟨y, hy⟩ := xs_at 3 (by decide); exact ⟨y, by rw [← hy]; exact hf 3 _ rfl⟩)
  obtain ⟨z4, e4⟩ := one 4 2 (by decide) Tryz.underlying2 cells_word (by obtain ⟨y, hy⟩ := xs_at 4 (by decide); exact ⟨y, by rw [← hy]; exact hf 4 _ rfl⟩)
  refine ⟨⟨z0, z1, z2, z3, z4⟩, ?_⟩
  obtain ⟨c0, c1, c2, c3, c4, rfl⟩ := five hl
  simp only [List.getElem?_cons_zero, List.getElem?_cons_succ, Option.some.injEq] at e0 e1 e2 e3 e4
  subst e0; subst e1; subst e2; subst e3; subst e4
  rfl

set_option maxRecDepth 100000 in
/-- What the row tells of the list of orders. -/
theorem open_orders {H : Type} {enc : TypeId × Value → H} {w : World} {base fuel : Nat} {a0 : Option Addr} {len cap : Nat} {d : DataW H} {ps : List MemPlace}
    (hv : Value.okWide Tryz.prog w .any base 22 (.slice a0 len cap)) (h : DataW.trod enc Tryz.prog w 0 (fun _ => true) true fuel 22 (Value.slice a0 len cap).cells.toList = some (d, ps))
    (hs : ∀ elems spare : List (DataW H), d = .slice elems spare → (elems.length + spare.length) * 40 ≤ 140737488351232) :
    ∃ l : List Ord, l.length = len ∧ RdO w a0 l ∧ Under a0 w.heap.size ∧ len * 40 ≤ 140737488351232 := by
  rcases Go.Deep.open_slice Tryz.underlying22 h with ⟨hcs, _⟩ | ⟨a, l', c', m, n, D, Pl, hcs, _, hl, _, hm, hx, hel⟩
  · simp [Value.cells] at hcs
    obtain ⟨rfl, rfl, rfl⟩ := hcs
    exact ⟨[], rfl, .inl rfl, (fun _ e => nomatch e), by omega⟩
  · simp [Value.cells] at hcs
    obtain ⟨rfl, rfl, rfl⟩ := hcs
    simp only [Prod.mk.injEq] at hx
    have hsz := hs _ _ hx.1
    simp only [List.length_map, List.length_range] at hsz
    obtain ⟨hsp, hblk⟩ := slice_place Tryz.underlying22 hv
    simp only [if_true] at hm
    have hO : ∀ i, i < m → ∃ o : Ord, w.cells? 0 (a.add (i * 5)) 5 = some [.int .i64 o.op, .int .i64 o.d, .int .i64 o.a, .int .i64 o.b, .int .i64 o.k] := by
      intro i hi
      obtain ⟨cs', h1, h2⟩ := hel i hi
      rw [cells_order] at h1
      obtain ⟨o, rfl⟩ := order_cells h2
      exact ⟨o, h1⟩
    have hO' : ∃ O : Nat → Ord, ∀ i, i < m → w.cells? 0 (a.add (i * 5)) 5 = some [.int .i64 (O i).op, .int .i64 (O i).d, .int .i64 (O i).a, .int .i64 (O i).b, .int .i64 (O i).k] := by
      classical
      exact ⟨fun i => if hi : i < m then Classical.choose (hO i hi) else Ord.none, fun i hi => by
        simp only [dif_pos hi]; exact Classical.choose_spec (hO i hi)⟩
    obtain ⟨O, hO⟩ := hO'
    refine ⟨(List.range len).map O, by simp, .inr ?_, ?_, by omega⟩
    · obtain ⟨b, off, spot⟩ := a
      simp only at hsp hblk
      subst hsp
      refine ⟨b, off, rfl, hblk, fun i hi => ?_⟩
      have hi' : i < len := by simpa using hi
      obtain ⟨_, _, hc⟩ := World.cells?_some (hO i (by omega))
      have hg : ((List.range len).map O).getD i Ord.none = O i := by simp [List.getD, hi']
      rw [hg]
      have key : ∀ j, (Addr.add (Addr.add ⟨b, off, none⟩ (i * 5)) j) = ⟨b, off + i * 5 + j, none⟩ := by
        intro j
        unfold Addr.add
        by_cases h1 : i * 5 = 0 <;> by_cases h2 : j = 0 <;> simp [h1, h2]
      have c0 := hc 0 (by decide)
      have c1 := hc 1 (by decide)
      have c2 := hc 2 (by decide)
      have c3 := hc 3 (by decide)
      have c4 := hc 4 (by decide)
      rw [key] at c0 c1 c2 c3 c4
      exact ⟨by simpa using c0, by simpa using c1, by simpa using c2, by simpa using c3, by simpa using c4⟩
    · intro x hx; cases hx; exact hblk

set_option maxRecDepth 100000 in
/-- .. and of the memory. -/
theorem open_words {H : Type} {enc : TypeId × Value → H} {w : World} {base fuel : Nat} {a0 : Option Addr} {len cap : Nat} {d : DataW H} {ps : List MemPlace}
    (hv : Value.okWide Tryz.prog w .any base 23 (.slice a0 len cap)) (h : DataW.trod enc Tryz.prog w 0 (fun _ => true) true fuel 23 (Value.slice a0 len cap).cells.toList = some (d, ps))
    (hs : ∀ elems spare : List (DataW H), d = .slice elems spare → (elems.length + spare.length) * 8 ≤ 140737488351232) :
    ∃ l : List Int, l.length = len ∧ Rd w a0 l ∧ Under a0 w.heap.size ∧ len * 8 ≤ 140737488351232 := by
  rcases open_ints Tryz.underlying23 Tryz.underlying2 cells_word h with ⟨hcs, _⟩ | ⟨a, l', c', zs, hcs, _, hl, _, hz, hx, hcell, _⟩
  · simp [Value.cells] at hcs
    obtain ⟨rfl, rfl, rfl⟩ := hcs
    exact ⟨[], rfl, .inl rfl, (fun _ e => nomatch e), by omega⟩
  · simp [Value.cells] at hcs
    obtain ⟨rfl, rfl, rfl⟩ := hcs
    simp only [Prod.mk.injEq] at hx
    have hsz := hs _ _ hx.1
    simp only [lits, List.length_map, List.length_take, List.length_drop] at hsz
    obtain ⟨hsp, hblk⟩ := slice_place Tryz.underlying23 hv
    simp only [if_true] at hz
    refine ⟨zs.take len, by simp; omega, .inr ?_, ?_, by omega⟩
    · obtain ⟨b, off, spot⟩ := a
      simp only at hsp hblk
      subst hsp
      refine ⟨b, off, rfl, hblk, fun i hi => ?_⟩
      have hi' : i < len := by simp at hi; omega
      have c0 := hcell i (by omega)
      have hg : (zs.take len).getD i 0 = zs.getD i 0 := by simp [List.getD, hi']
      rw [hg, ← c0]
      congr 1
      unfold Addr.add
      by_cases h1 : i = 0 <;> simp [h1]
    · intro x hx; cases hx; exact hblk

set_option maxRecDepth 100000 in
theorem plains_lifted (os : Os) (started : os.Started) (H : Type) (enc : TypeId × Value → H) :
    ReturnsInHanded {} Tryz.checked os 3 .any (Rows.plainsSpec.pre6 enc Tryz.prog Tryz.f3 Rows.plainsRow.domain false) (Rows.plainsSpec.post enc Tryz.prog Tryz.f3 false true false false) := by
  refine returnsInHanded_of_change_sized (C := Tryz.checked) own_knob started (by kernel_rfl) Tryz.func3
    (ChangeSpec.witness6 (enc := enc) (C := Tryz.checked) false ⟨#[], #[.slice none 0 0, .slice none 0 0, .int .i64 0], []⟩ 8 (by kernel_rfl) (by kernel_rfl) (by kernel_rfl) (by kernel_rfl)) ?_
  intro W base args ds gs before hval0 hW hcnd hsz0 _
  have hsz : (DataW.weightsEach Tryz.prog (Tryz.f3.params.toList ++ Rows.plainsSpec.plain.varTypes Tryz.prog) (ds ++ gs)).all (· ≤ reachBytes) = true := hsz0
  have hval : ∀ (j : Nat) t v, Tryz.f3.params[j]? = some t → args[j]? = some v → Value.okWide Tryz.prog W .any base t v := hval0
  have hW' := hW
  obtain ⟨p, q, hA0, hV, rfl, hfz, hnd⟩ := hW
  have hA : DataW.TrodAll enc Tryz.prog W 0 (fun _ => true) true Tryz.f3.params.toList args.toList ds p := hA0
  rw [Tryz.params3] at hA hval hsz
  obtain ⟨v0, vs0, d0, ds0, p0, q0, hargs, rfl, rfl, h0, r0⟩ := trodAll_cons hA
  obtain ⟨v1, vs1, d1, ds1, p1, q1, rfl, rfl, rfl, h1, r1⟩ := trodAll_cons r0
  obtain ⟨v2, vs2, d2, ds2, p2, q2, rfl, rfl, rfl, h2, r2⟩ := trodAll_cons r1
  obtain ⟨rfl, rfl, rfl⟩ := trodAll_nil r2
  obtain rfl : args = #[v0, v1, v2] := by cases args; simp_all
  obtain ⟨rfl, rfl⟩ := trodVars_none hV
  have k0 := h0
  have lt0 : ∀ x ∈ p0, x.block < W.heap.size := by obtain ⟨m, hm⟩ := k0; exact DataW.trod_lt m _ _ _ hm
  have k1 := h1
  have lt1 : ∀ x ∈ p1, x.block < W.heap.size := by obtain ⟨m, hm⟩ := k1; exact DataW.trod_lt m _ _ _ hm
  have k2 := h2
  have lt2 : ∀ x ∈ p2, x.block < W.heap.size := by obtain ⟨m, hm⟩ := k2; exact DataW.trod_lt m _ _ _ hm
  obtain ⟨a0, len0, cap0, rfl⟩ := okWide_slice Tryz.underlying22 (hval 0 22 v0 rfl rfl)
  obtain ⟨a1, len1, cap1, rfl⟩ := okWide_slice Tryz.underlying23 (hval 1 23 v1 rfl rfl)
  obtain ⟨n2, rfl⟩ := okWide_int Tryz.underlying3 (hval 2 3 v2 rfl rfl)
  obtain ⟨m0, f0⟩ := h0
  obtain ⟨m1, f1⟩ := h1
  obtain ⟨lo, hlo, rdo, uno, szo⟩ := open_orders (hval 0 22 _ rfl rfl) f0 (fun elems spare he => by
    subst he
    have := sized_slice hsz (j := 0) (t := 22) (e := 40) rfl rfl Tryz.underlying22
    rw [bytes_order] at this
    simpa [reachBytes] using this)
  obtain ⟨lw, hlw, rdw, unw, szw⟩ := open_words (hval 1 23 _ rfl rfl) f1 (fun elems spare he => by
    subst he
    have := sized_slice hsz (j := 1) (t := 23) (e := 2) rfl rfl Tryz.underlying23
    rw [bytes_word] at this
    simpa [reachBytes] using this)
  subst hlo
  subst hlw
  clear hA0 hval0
  refine (plains_any a0 a1 cap0 cap1 lo lw n2 W rdo rdw uno unw szo szw).mono fun e W' ⟨he, bel⟩ => ?_
  subst he
  exact ⟨_, rfl, _, _, _, [], _, [], hW', trodAll_mk1 (shut_bool Tryz.underlying4 _), (trodAll_cons_mk (Below.trod laid_out (by kernel_rfl) (of_decide_eq_true (by kernel_rfl)) k0 bel lt0) (trodAll_cons_mk (Below.trod laid_out (by kernel_rfl) (of_decide_eq_true (by kernel_rfl)) k1 bel lt1) (trodAll_cons_mk (Below.trod laid_out (by kernel_rfl) (of_decide_eq_true (by kernel_rfl)) k2 bel lt2) trodAll_mk0))), rfl, bel.frame _, fun h => by cases h⟩

theorem plains_over : Rows.plainsRow.holds Tryz.pinned (OpenSpec.ofChange Rows.plainsSpec) :=
  OpenClaim.holds_of_wide 3 Tryz.f3 rfl rfl rfl rfl rfl rfl rfl ⟨rfl, rfl, rfl, rfl, rfl⟩ rfl rfl rfl rfl rfl (by kernel_rfl) Tryz.func3 (by kernel_rfl)
    (of_decide_eq_true (by kernel_rfl)) (by unfold Func.isWrapper; first | (rw [if_pos (by decide +kernel)]; kernel_rfl) | (rw [if_neg (by decide +kernel)]; exact ⟨rfl, rfl⟩))
    (fun os started H enc _ => plains_lifted os started H enc)

/-- boardlaw.Plains returns true for every input. -/
theorem plains_holds : Rows.PlainsSaid := plains_over
#print axioms plains_holds
end Go.Proofs.YtmeiogoodbnkkaaGreat
