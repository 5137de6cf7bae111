/- Several texts in one: RF, RG, RH, RJ. -/
import Derived.Test.YtmeiogoodbnkkaaGreatCRDRX
import Derived.Deep.QuietTactic
import Derived.BigQuiet
/- Sets of registers; small questions. -/
namespace Go.Proofs.YtmeiogoodbnkkaaGreat
open Go.RowKit

theorem and_u8 {x y : Nat} (hx : x < 256) (hy : y < 256) : bits .and .u8 (x : Int) (y : Int) = ((x &&& y : Nat) : Int) := by
  have h : x &&& y < 256 := Nat.lt_of_le_of_lt Nat.and_le_left hx
  simp only [bits]
  have e : (BitVec.ofInt IntKind.u8.bits (x : Int) &&& BitVec.ofInt IntKind.u8.bits (y : Int)).toNat = x &&& y := by
    simp [show IntKind.u8.bits = 8 from rfl, Nat.mod_eq_of_lt hx, Nat.mod_eq_of_lt hy]
  rw [e]
  simp only [IntKind.wrap, show IntKind.u8.bits = 8 from rfl, show IntKind.u8.signed = false from rfl]
  simp
  omega
theorem or_u8 {x y : Nat} (hx : x < 256) (hy : y < 256) : bits .or .u8 (x : Int) (y : Int) = ((x ||| y : Nat) : Int) := by
  have h : x ||| y < 256 := Nat.or_lt_two_pow (n := 8) hx hy
  simp only [bits]
  have e : (BitVec.ofInt IntKind.u8.bits (x : Int) ||| BitVec.ofInt IntKind.u8.bits (y : Int)).toNat = x ||| y := by
    simp [show IntKind.u8.bits = 8 from rfl, Nat.mod_eq_of_lt hx, Nat.mod_eq_of_lt hy]
  rw [e]
  simp only [IntKind.wrap, show IntKind.u8.bits = 8 from rfl, show IntKind.u8.signed = false from rfl]
  simp
  omega

theorem bit_lt {r : Int} (h : r ≤ 7) : bitOf r < 256 := by
  unfold bitOf
  have : r.toNat < 8 := by omega
  exact Nat.pow_lt_pow_right (by omega) this
theorem rMask_lt {o : Ord} {n : Int} (h : isOrd o n = true) : rMask o < 256 := by
  obtain ⟨_, _, _, _, _, h1, _, h2, _⟩ := isOrd_spec h
  unfold rMask
  refine Nat.or_lt_two_pow (n := 8) ?_ ?_
  · split
    · exact bit_lt h1
    · decide
  · split
    · exact bit_lt h2
    · decide
theorem wMask_lt {o : Ord} {n : Int} (h : isOrd o n = true) : wMask o < 256 := by
  obtain ⟨_, _, _, h1, _⟩ := isOrd_spec h
  unfold wMask
  split
  · exact bit_lt h1
  · decide

set_option maxHeartbeats 1000000 in
theorem meets_any (x y : Nat) (w : World) (hx : x < 256) (hy : y < 256) :
    Calls Tryz.prog 101 #[.int .u8 x, .int .u8 y] w fun e w' => e = .returned (.bool (meets x y)) ∧ w' = w := by
  have e := and_u8 hx hy
  go_enter Tryz.func101, Tryz.ntmps101
  go_wp2
  go_ret
  refine ⟨?_, rfl⟩
  show Ending.returned (.bool (((x &&& y : Nat) : Int) != 0)) = _
  refine ret_bool ?_
  unfold meets
  cases hq : (x &&& y) <;> simp <;> omega

set_option maxHeartbeats 1000000 in
theorem isEmpty_any (x : Nat) (w : World) :
    Calls Tryz.prog 80 #[.int .u8 x] w fun e w' => e = .returned (.bool (decide (x = 0))) ∧ w' = w := by
  go_enter Tryz.func80, Tryz.ntmps80
  go_wp2
  go_ret
  refine ⟨?_, rfl⟩
  show Ending.returned (.bool ((x : Int) == 0)) = _
  refine ret_bool ?_
  cases x <;> simp <;> omega

set_option maxHeartbeats 1000000 in
theorem only_any (r : Nat) (w : World) (hr : r < 8) :
    Calls Tryz.prog 110 #[.int .i64 r] w fun e w' => e = .returned (.int .u8 (bitOf r)) ∧ w' = w := by
  go_enter Tryz.func110, Tryz.ntmps110
  go_wp2
  go_ret
  refine ⟨?_, rfl⟩
  show Ending.returned (.int .u8 (2 ^ r % 256)) = _
  refine ret_int ?_
  have : (2 : Nat) ^ r < 256 := Nat.pow_lt_pow_right (a := 2) (n := 8) (by omega) hr
  unfold bitOf
  simp only [Int.toNat_natCast]
  have h3 : ((2 ^ r : Nat) : Int) % 256 = ((2 ^ r : Nat) : Int) := Int.emod_eq_of_lt (Int.natCast_nonneg _) (Int.ofNat_lt.2 this)
  have e : ((2 ^ r : Nat) : Int) = 2 ^ r := by simp
  rw [e] at h3
  rw [h3, e]

set_option maxHeartbeats 2000000 in
theorem isOpen_any (M g o cyc wr : Nat) (w : World) (hc : w.cell? ⟨M, 23, none⟩ = some (.int .i64 cyc)) (hw : w.cell? ⟨g, o + 12, none⟩ = some (.int .i64 wr)) :
    Calls Tryz.prog 100 #[.pointer (some ⟨M, 0, none⟩), .pointer (some ⟨g, o, none⟩)] w fun e w' => e = .returned (.bool (decide (wr = 0 ∨ wr = cyc))) ∧ ∃ n, w' = w.drewN n := by
  by_cases h0 : wr = 0
  · subst h0
    go_enter Tryz.func100, Tryz.ntmps100
    go_wp2
    go_quiet (fail)
    go_wp2
    go_ret
    exact ⟨ret_bool (by simp), _, rfl⟩
  · have t0 : ((wr : Int) == 0) = false := by simp; omega
    go_enter Tryz.func100, Tryz.ntmps100
    go_wp2
    go_quiet (fail)
    go_wp2
    go_ret
    refine ⟨?_, _, rfl⟩
    show Ending.returned (.bool ((wr : Int) == (cyc : Int))) = _
    refine ret_bool ?_
    by_cases h1 : wr = cyc
    · subst h1; simp
    · rw [decide_eq_false (by omega)]; simp; omega

end Go.Proofs.YtmeiogoodbnkkaaGreat

/- Is one ahead still to read, or still to write? -/
namespace Go.Proofs.YtmeiogoodbnkkaaGreat
open Go.RowKit

theorem toRead_true {g : List Tk} {k mask j : Nat} {t : Tk} (hj : j < k) (ht : g[j]? = some t) (h : (decide (t.read = 0) && meets (rMask t.o) mask) = true) : toRead g k mask = true := by
  unfold toRead
  rw [List.any_eq_true]
  exact ⟨t, List.mem_of_getElem? (i := j) (by rw [List.getElem?_take_of_lt hj]; exact ht), h⟩
theorem toRead_false {g : List Tk} {k mask : Nat} (h : ∀ j ∈ List.range k, ∀ t, g[j]? = some t → (decide (t.read = 0) && meets (rMask t.o) mask) = false) : toRead g k mask = false := by
  unfold toRead
  rw [List.any_eq_false]
  intro t ht
  obtain ⟨j, hj⟩ := List.getElem?_of_mem ht
  rw [List.getElem?_take] at hj
  split at hj
  · rename_i hlt
    rw [h j (List.mem_range.2 hlt) t hj]; simp
  · cases hj
theorem toWrite_true {g : List Tk} {c k mask j : Nat} {t : Tk} (hj : j < k) (ht : g[j]? = some t) (h : (opensT c t && meets (wMask t.o) mask) = true) : toWrite g c k mask = true := by
  unfold toWrite
  rw [List.any_eq_true]
  exact ⟨t, List.mem_of_getElem? (i := j) (by rw [List.getElem?_take_of_lt hj]; exact ht), h⟩
theorem toWrite_false {g : List Tk} {c k mask : Nat} (h : ∀ j ∈ List.range k, ∀ t, g[j]? = some t → (opensT c t && meets (wMask t.o) mask) = false) : toWrite g c k mask = false := by
  unfold toWrite
  rw [List.any_eq_false]
  intro t ht
  obtain ⟨j, hj⟩ := List.getElem?_of_mem ht
  rw [List.getElem?_take] at hj
  split at hj
  · rename_i hlt
    rw [h j (List.mem_range.2 hlt) t hj]; simp
  · cases hj

theorem below_drewN {B : Nat} {W w : World} (h : Below B W w) (n : Nat) : Below B W (w.drewN n) := ⟨h.os, h.tape, h.output, h.size, h.block⟩
theorem from_drewN (B : Nat) (w : World) (n : Nat) : KeepsFrom B w (w.drewN n) := ⟨Nat.le_refl _, fun _ _ _ h _ => h⟩
theorem from_setCell {B : Nat} {w w' : World} (h : KeepsFrom B w w') (a : Addr) (v : Value) : KeepsFrom B w (w'.setCell a v) := h.trans ((KeepsOthers.setCell _ _ _).from _)

/-- What holds of every order given out: it is one of a program. -/
def Ords (n : Int) (g : List Tk) : Prop := ∀ (i : Nat) (t : Tk), g[i]? = some t → isOrd t.o n = true

set_option maxRecDepth 10000 in
set_option maxHeartbeats 4000000 in
theorem isToBeRead_any (W : World) (B : Nat) (L : Lo) (m : Mc) (k mask : Nat) (n : Int) (hm : MAt W B L m) (hk : k ≤ m.given.length) (hsm : m.given.length ≤ 1000000) (hmask : mask < 256) (ho : Ords n m.given) :
    Calls Tryz.prog 97 #[.pointer (some ⟨L.M, 0, none⟩), .int .i64 k, .int .u8 mask] W fun e w' => e = .returned (.bool (toRead m.given k mask)) ∧ Below W.heap.size W w' := by
  have HM := hide hm
  have HO := hide ho
  clear hm ho
  refine calls_of_marks Tryz.func97 rfl ?_
  simp only [Tryz.ntmps97, List.size_toArray, List.length_cons, List.length_nil, Nat.reduceAdd, Nat.reduceSub, Array.replicate_succ, Array.replicate_zero, List.push_toArray, List.append_toArray, List.nil_append, List.cons_append]
  go_wp2_with (go_at_call 73; refine (tAhead_any _ _ _).mono ?_; rintro e w' ⟨rfl, rfl⟩)
  rename_i Q1 K1 hK1
  obtain ⟨p, cap, G, hgv, hG⟩ := HM.out.ahead hk
  have hlt := HM.out.lt
  obtain ⟨W0, hW0⟩ : ∃ W0, (((W.alloc (.cells #[.int .u8 mask] 115)).alloc (.cells #[.bool false] 4)).alloc (.cells #[.pointer (some ⟨L.M, 24, none⟩)] 141)).alloc (.cells #[.int .i64 k] 3) = W0 := ⟨_, rfl⟩
  have hB0 : Below W.heap.size W W0 := by rw [← hW0]; exact ((((Below.refl _ _).alloc (Nat.le_refl _) _).alloc (by simp) _).alloc (by simp; omega) _).alloc (by simp; omega) _
  have hsz : W0.heap.size = W.heap.size + 4 := by rw [← hW0]; simp
  have bm : Bx W0 W.heap.size 115 (.int .u8 mask) := by rw [← hW0]; exact (((Bx.new W _ _).alloc _).alloc _).alloc _
  have b0 : Bx W0 (W.heap.size + 1) 4 (.bool false) := by rw [← hW0]; have := ((Bx.new (W.alloc (.cells #[.int .u8 mask] 115)) 4 (.bool false)).alloc (.cells #[.pointer (some ⟨L.M, 24, none⟩)] 141)).alloc (.cells #[.int .i64 k] 3); simpa using this
  have b1 : Bx W0 (W.heap.size + 1 + 1) 141 (.pointer (some ⟨L.M, 24, none⟩)) := by rw [← hW0]; have := (Bx.new ((W.alloc (.cells #[.int .u8 mask] 115)).alloc (.cells #[.bool false] 4)) 141 (.pointer (some ⟨L.M, 24, none⟩))).alloc (.cells #[.int .i64 k] 3); simpa using this
  have b2 : Bx W0 (W.heap.size + 1 + 1 + 1) 3 (.int .i64 k) := by rw [← hW0]; have := Bx.new (((W.alloc (.cells #[.int .u8 mask] 115)).alloc (.cells #[.bool false] 4)).alloc (.cells #[.pointer (some ⟨L.M, 24, none⟩)] 141)) 3 (.int .i64 k); simpa using this
  have hm0 := HM.out.below hB0
  rw [hW0]
  refine wp_ahead (W.heap.size + 1 + 1 + 1) (W.heap.size + 1 + 1) L.M 24 G m.given.length cap k p rfl rfl b2.cell b1.cell (by rw [hm0.cGv, hgv]) hk hG hsm
    (fun pre w => (∀ j ∈ pre, ∀ t, m.given[j]? = some t → (decide (t.read = 0) && meets (rMask t.o) mask) = false) ∧ Below W0.heap.size W0 w)
    (fun c pre w => c = .ret ∧ (∃ j ∈ pre, ∃ t, m.given[j]? = some t ∧ (decide (t.read = 0) && meets (rMask t.o) mask) = true) ∧ Bx w (W.heap.size + 1) 4 (.bool true) ∧ Below W.heap.size W w)
    (fun s A A' row hs hg hr => ⟨hs.1, ownFrom_below (β := List Nat) (Nat.le_refl _) (Nat.le_refl _) s A A' row hs.2 hg hr⟩)
    (fun c s A A' row hs hg hr => ⟨hs.1, hs.2.1, hs.2.2.1.ck (ck_grown hg hr), ownFrom_below (β := List Nat) (Nat.le_refl _) (by omega) s A A' row hs.2.2.2 hg hr⟩)
    ⟨by simp, Below.refl _ _⟩ (fun i => ⟨#[.pointer (some ⟨L.M, 0, none⟩), .int .i64 k, .int .u8 mask, undef, undef, .pointer (some ⟨W.heap.size, 0, none⟩), .pointer (some ⟨W.heap.size + 1, 0, none⟩), undef, .pointer (some ⟨G, i * 17, none⟩), .pointer (some ⟨L.M, 0, none⟩), .pointer (some ⟨L.M, 0, none⟩), .pointer (some ⟨L.M, 24, none⟩), .int .i64 k, .func (.func 87) #[] #[.pointer (some ⟨W.heap.size + 1 + 1 + 1, 0, none⟩), .pointer (some ⟨W.heap.size + 1 + 1, 0, none⟩)], .int .i64 i, .pointer (some ⟨G, i * 17, none⟩), undef, undef, undef, undef, undef, undef, undef, undef, undef, undef, undef, undef, undef, undef, undef], []⟩) ?hassign ?hbody ?hdone ?hstop
  case hassign =>
    intro l i w K hi hK
    refine round_list rfl (fun _ _ h => h.elim) ?_
    go_wp2
    exact hK
  case hbody =>
    rintro l pre i w hi _ ⟨h1, h2⟩
    have hmw := hm0.below h2
    obtain ⟨t, ht⟩ : ∃ t, m.given[i]? = some t := ⟨_, List.getElem?_eq_getElem (by omega)⟩
    have hgv' := hgv
    rw [hG (by omega)] at hgv'
    have cr : w.cell? ⟨G, i * 17 + 10, none⟩ = some (.int .i64 t.read) := hmw.tk hgv' ht (j := 10) (by omega)
    have cm : w.cell? ⟨G, i * 17 + 6, none⟩ = some (.int .u8 (rMask t.o)) := hmw.tk hgv' ht (j := 6) (by omega)
    have hrm := rMask_lt (HO.out i t ht)
    have bw := b0.below h2 (by omega)
    have hc0 := bw.cell
    have hf0 := bw.frozen
    have bmw := (bm.below h2 (by omega)).cell
    have HMW := hide hmw
    clear hmw
    have hpre : ∀ v, (decide (t.read = 0) && meets (rMask t.o) mask) = v → v = false → ∀ j ∈ pre ++ [i], ∀ t', m.given[j]? = some t' → (decide (t'.read = 0) && meets (rMask t'.o) mask) = false := by
      intro v hv hvf j hj t' ht'
      rcases List.mem_append.1 hj with hj | hj
      · exact h1 j hj t' ht'
      · simp at hj; subst hj; rw [ht] at ht'; cases ht'; rw [hv, hvf]
    have HPRE := hide hpre
    clear hpre
    refine wpIn_block ?_
    refine wpIn_seq ?_
    by_cases hz : t.read = 0
    · rw [hz] at cr
      refine round_quiet (by kernel_rfl) (by kernel_rfl) rfl (by simp [Exit.then, Exit.inBlock, ownPostG]) ?_
      repeat (go_big_quiet_step ((refine (meets_any _ _ _ hrm hmask).mono ?_; rintro e w' ⟨rfl, rfl⟩; exact ⟨rfl, _, rfl⟩)))
      refine wpQuiet_nil ?_
      rintro w' ⟨nq, rfl⟩
      cases hme : meets (rMask t.o) mask with
      | true =>
        simp only [Exit.then]
        refine wpIn_cond_true rfl ?_
        refine wpIn_seq ?_
        refine round_list rfl (by simp [Exit.then, Exit.inBlock, ownPostG]) ?_
        go_wp2
        refine wpIn_ret ?_
        refine ⟨from_setCell (from_drewN _ _ _) _ _, rfl, ⟨i, by simp, t, ht, by simp [hz, hme]⟩, Bx.set (v := .bool false) bw _, ?_⟩
        exact (below_drewN (hB0.trans (h2.mono (by omega))) nq).setCell (by simp) _
      | false =>
        simp only [Exit.then]
        refine wpIn_cond_false rfl ?_
        refine wpIn_skip ?_
        exact ⟨from_drewN _ _ _, kpa_of h2 (below_drewN h2 _) (by omega) (by omega) (by omega), HPRE.out _ rfl (by simp [hme]), below_drewN h2 _⟩
    · have hz' : ((t.read : Int) == 0) = false := by simp; omega
      refine round_quiet (by kernel_rfl) (by kernel_rfl) rfl (by simp [Exit.then, Exit.inBlock, ownPostG]) ?_
      repeat (go_big_quiet_step (fail))
      refine wpQuiet_nil ?_
      rintro w' ⟨nq, rfl⟩
      simp only [Exit.then]
      refine wpIn_cond_false rfl ?_
      refine wpIn_skip ?_
      exact ⟨from_drewN _ _ _, kpa_of h2 (below_drewN h2 _) (by omega) (by omega) (by omega), HPRE.out _ rfl (by simp [hz]), below_drewN h2 _⟩
  case hdone =>
    rintro D w hD ⟨h1, h2⟩ hK
    have bw := b0.below h2 (by omega)
    have hc0 := bw.cell
    have hf0 := bw.frozen
    refine hK1 _ _ ?_
    go_wp2
    have hK' : (w.setCell ⟨W.heap.size + 1, 0, none⟩ (.bool false)).heap[D]? = some (.deferred (some [])) := by rw [heap_setCell_other _ _ _ _ (by simp; omega)]; exact hK
    have hr : (((w.setCell ⟨W.heap.size + 1, 0, none⟩ (.bool false)).putObj D (.deferred none))).cell? ⟨W.heap.size + 1, 0, none⟩ = some (.bool false) := by
      rw [World.cell?_of_block (World.putObj_heap_other (by simp; omega))]; exact (bw.set _).cell
    refine leave_mark (v := .bool false) hK' (by simp [results, Tryz.results97, go_sem, hr]) ⟨by rw [toRead_false h1], ?_⟩
    exact below_mark ((hB0.trans (h2.mono (by omega))).setCell (by simp) _) (by omega) _
  case hstop =>
    rintro D c k' w hD hk' ⟨rfl, ⟨j, hj, t, ht, hz⟩, h3, h4⟩ hK
    go_wp2
    have hr : ((w.putObj D (.deferred none))).cell? ⟨W.heap.size + 1, 0, none⟩ = some (.bool true) := by
      rw [World.cell?_of_block (World.putObj_heap_other (by simp; omega))]; exact h3.cell
    refine leave_mark (v := .bool true) hK (by simp [results, Tryz.results97, go_sem, hr]) ⟨by rw [toRead_true (by have := List.mem_range.1 hj; omega) ht hz], ?_⟩
    exact below_mark h4 (by omega) _

end Go.Proofs.YtmeiogoodbnkkaaGreat

/- Is one ahead still to write? -/
namespace Go.Proofs.YtmeiogoodbnkkaaGreat
open Go.RowKit

set_option maxRecDepth 10000 in
set_option maxHeartbeats 4000000 in
theorem isToBeWritten_any (W : World) (B : Nat) (L : Lo) (m : Mc) (k mask : Nat) (n : Int) (hm : MAt W B L m) (hk : k ≤ m.given.length) (hsm : m.given.length ≤ 1000000) (hmask : mask < 256) (ho : Ords n m.given) :
    Calls Tryz.prog 82 #[.pointer (some ⟨L.M, 0, none⟩), .int .i64 k, .int .u8 mask] W fun e w' => e = .returned (.bool (toWrite m.given m.cycle k mask)) ∧ Below W.heap.size W w' := by
  have HM := hide hm
  have HO := hide ho
  clear hm ho
  refine calls_of_marks Tryz.func82 rfl ?_
  simp only [Tryz.ntmps82, List.size_toArray, List.length_cons, List.length_nil, Nat.reduceAdd, Nat.reduceSub, Array.replicate_succ, Array.replicate_zero, List.push_toArray, List.append_toArray, List.nil_append, List.cons_append]
  go_wp2_with (go_at_call 73; refine (tAhead_any _ _ _).mono ?_; rintro e w' ⟨rfl, rfl⟩)
  rename_i Q1 K1 hK1
  obtain ⟨p, cap, G, hgv, hG⟩ := HM.out.ahead hk
  have hlt := HM.out.lt
  obtain ⟨V1, hV1⟩ : ∃ V1, W.alloc (.cells #[.pointer (some ⟨L.M, 0, none⟩)] 112) = V1 := ⟨_, rfl⟩
  obtain ⟨V2, hV2⟩ : ∃ V2, V1.alloc (.cells #[.int .u8 mask] 115) = V2 := ⟨_, rfl⟩
  obtain ⟨V3, hV3⟩ : ∃ V3, V2.alloc (.cells #[.bool false] 4) = V3 := ⟨_, rfl⟩
  obtain ⟨V4, hV4⟩ : ∃ V4, V3.alloc (.cells #[.pointer (some ⟨L.M, 24, none⟩)] 141) = V4 := ⟨_, rfl⟩
  obtain ⟨W0, hW0⟩ : ∃ W0, V4.alloc (.cells #[.int .i64 k] 3) = W0 := ⟨_, rfl⟩
  have z1 : V1.heap.size = W.heap.size + 1 := by rw [← hV1]; simp
  have z2 : V2.heap.size = W.heap.size + 1 + 1 := by rw [← hV2]; simp [z1]
  have z3 : V3.heap.size = W.heap.size + 1 + 1 + 1 := by rw [← hV3]; simp [z2]
  have z4 : V4.heap.size = W.heap.size + 1 + 1 + 1 + 1 := by rw [← hV4]; simp [z3]
  have hsz : W0.heap.size = W.heap.size + 5 := by rw [← hW0]; simp [z4]
  have hB0 : Below W.heap.size W W0 := by
    rw [← hW0, ← hV4, ← hV3, ← hV2, ← hV1]; exact (((((Below.refl _ _).alloc (Nat.le_refl _) _).alloc (by simp) _).alloc (by simp; omega) _).alloc (by simp; omega) _).alloc (by simp; omega) _
  have bx : Bx W0 W.heap.size 112 (.pointer (some ⟨L.M, 0, none⟩)) := by rw [← hW0, ← hV4, ← hV3, ← hV2, ← hV1]; exact ((((Bx.new W _ _).alloc _).alloc _).alloc _).alloc _
  have bm : Bx W0 (W.heap.size + 1) 115 (.int .u8 mask) := by rw [← hW0, ← hV4, ← hV3, ← hV2, ← z1]; exact (((Bx.new V1 _ _).alloc _).alloc _).alloc _
  have b0 : Bx W0 (W.heap.size + 1 + 1) 4 (.bool false) := by rw [← hW0, ← hV4, ← hV3, ← z2]; exact ((Bx.new V2 _ _).alloc _).alloc _
  have b1 : Bx W0 (W.heap.size + 1 + 1 + 1) 141 (.pointer (some ⟨L.M, 24, none⟩)) := by rw [← hW0, ← hV4, ← z3]; exact (Bx.new V3 _ _).alloc _
  have b2 : Bx W0 (W.heap.size + 1 + 1 + 1 + 1) 3 (.int .i64 k) := by rw [← hW0, ← z4]; exact Bx.new V4 _ _
  have hm0 := HM.out.below hB0
  rw [hV1, hV2, hV3, hV4, hW0]
  refine wp_ahead (W.heap.size + 1 + 1 + 1 + 1) (W.heap.size + 1 + 1 + 1) L.M 24 G m.given.length cap k p rfl rfl b2.cell b1.cell (by rw [hm0.cGv, hgv]) hk hG hsm
    (fun pre w => (∀ j ∈ pre, ∀ t, m.given[j]? = some t → (opensT m.cycle t && meets (wMask t.o) mask) = false) ∧ Below W0.heap.size W0 w)
    (fun c pre w => c = .ret ∧ (∃ j ∈ pre, ∃ t, m.given[j]? = some t ∧ (opensT m.cycle t && meets (wMask t.o) mask) = true) ∧ Bx w (W.heap.size + 1 + 1) 4 (.bool true) ∧ Below W.heap.size W w)
    (fun s A A' row hs hg hr => ⟨hs.1, ownFrom_below (β := List Nat) (Nat.le_refl _) (Nat.le_refl _) s A A' row hs.2 hg hr⟩)
    (fun c s A A' row hs hg hr => ⟨hs.1, hs.2.1, hs.2.2.1.ck (ck_grown hg hr), ownFrom_below (β := List Nat) (Nat.le_refl _) (by omega) s A A' row hs.2.2.2 hg hr⟩)
    ⟨by simp, Below.refl _ _⟩ (fun i => ⟨#[.pointer (some ⟨L.M, 0, none⟩), .int .i64 k, .int .u8 mask, .pointer (some ⟨W.heap.size, 0, none⟩), undef, .pointer (some ⟨W.heap.size + 1, 0, none⟩), .pointer (some ⟨W.heap.size + 1 + 1, 0, none⟩), undef, .pointer (some ⟨G, i * 17, none⟩), .pointer (some ⟨L.M, 0, none⟩), .pointer (some ⟨L.M, 0, none⟩), .pointer (some ⟨L.M, 24, none⟩), .int .i64 k, .func (.func 87) #[] #[.pointer (some ⟨W.heap.size + 1 + 1 + 1 + 1, 0, none⟩), .pointer (some ⟨W.heap.size + 1 + 1 + 1, 0, none⟩)], .int .i64 i, .pointer (some ⟨G, i * 17, none⟩), undef, undef, undef, undef, undef, undef, undef, undef, undef, undef, undef, undef], []⟩) ?hassign ?hbody ?hdone ?hstop
  case hassign =>
    intro l i w K hi hK
    refine round_list rfl (fun _ _ h => h.elim) ?_
    go_wp2
    exact hK
  case hbody =>
    rintro l pre i w hi _ ⟨h1, h2⟩
    have hmw := hm0.below h2
    obtain ⟨t, ht⟩ : ∃ t, m.given[i]? = some t := ⟨_, List.getElem?_eq_getElem (by omega)⟩
    have hgv' := hgv
    rw [hG (by omega)] at hgv'
    have cr : w.cell? ⟨G, i * 17 + 12, none⟩ = some (.int .i64 t.write) := hmw.tk hgv' ht (j := 12) (by omega)
    have cc := hmw.cCycle
    have cm : w.cell? ⟨G, i * 17 + 7, none⟩ = some (.int .u8 (wMask t.o)) := hmw.tk hgv' ht (j := 7) (by omega)
    have hrm := wMask_lt (HO.out i t ht)
    have bw := b0.below h2 (by omega)
    have hc0 := bw.cell
    have hf0 := bw.frozen
    have bmw := (bm.below h2 (by omega)).cell
    have bxw := (bx.below h2 (by omega)).cell
    have HMW := hide hmw
    clear hmw
    have hpre : ∀ v, (opensT m.cycle t && meets (wMask t.o) mask) = v → v = false → ∀ j ∈ pre ++ [i], ∀ t', m.given[j]? = some t' → (opensT m.cycle t' && meets (wMask t'.o) mask) = false := by
      intro v hv hvf j hj t' ht'
      rcases List.mem_append.1 hj with hj | hj
      · exact h1 j hj t' ht'
      · simp at hj; subst hj; rw [ht] at ht'; cases ht'; rw [hv, hvf]
    have HPRE := hide hpre
    clear hpre
    refine wpIn_block ?_
    refine wpIn_seq ?_
    cases hz : opensT m.cycle t with
    | true =>
      have hz2 : decide (t.write = 0 ∨ t.write = m.cycle) = true := hz
      have HC : Hid (∀ q, Calls Tryz.prog 100 #[.pointer (some ⟨L.M, 0, none⟩), .pointer (some ⟨G, i * 17, none⟩)] (w.drewN q) fun e w' => e = .returned (.bool true) ∧ ∃ n, w' = w.drewN n) := fun q => (isOpen_any L.M G (i * 17) m.cycle t.write (w.drewN q) cc cr).mono (by rintro e w' ⟨rfl, k', rfl⟩; exact ⟨by rw [hz2], q + k', by simp⟩)
      clear hz2
      refine round_quiet (by kernel_rfl) (by kernel_rfl) rfl (by simp [Exit.then, Exit.inBlock, ownPostG]) ?_
      repeat (go_big_quiet_step ((first | (refine (meets_any _ _ _ hrm hmask).mono ?_; rintro e w' ⟨rfl, rfl⟩; exact ⟨rfl, _, rfl⟩) | (exact HC.out _) | fail)))
      refine wpQuiet_nil ?_
      rintro w' ⟨nq, rfl⟩
      cases hme : meets (wMask t.o) mask with
      | true =>
        simp only [Exit.then]
        refine wpIn_cond_true rfl ?_
        refine wpIn_seq ?_
        refine round_list rfl (by simp [Exit.then, Exit.inBlock, ownPostG]) ?_
        go_wp2
        refine wpIn_ret ?_
        refine ⟨from_setCell (from_drewN _ _ _) _ _, rfl, ⟨i, by simp, t, ht, by simp [hz, hme]⟩, Bx.set (v := .bool false) bw _, ?_⟩
        exact (below_drewN (hB0.trans (h2.mono (by omega))) nq).setCell (by simp; omega) _
      | false =>
        simp only [Exit.then]
        refine wpIn_cond_false rfl ?_
        refine wpIn_skip ?_
        exact ⟨from_drewN _ _ _, kpa_of h2 (below_drewN h2 _) (by omega) (by omega) (by omega), HPRE.out _ rfl (by simp [hme]), below_drewN h2 _⟩
    | false =>
      have hz2 : decide (t.write = 0 ∨ t.write = m.cycle) = false := hz
      have HC : Hid (∀ q, Calls Tryz.prog 100 #[.pointer (some ⟨L.M, 0, none⟩), .pointer (some ⟨G, i * 17, none⟩)] (w.drewN q) fun e w' => e = .returned (.bool false) ∧ ∃ n, w' = w.drewN n) := fun q => (isOpen_any L.M G (i * 17) m.cycle t.write (w.drewN q) cc cr).mono (by rintro e w' ⟨rfl, k', rfl⟩; exact ⟨by rw [hz2], q + k', by simp⟩)
      clear hz2
      refine round_quiet (by kernel_rfl) (by kernel_rfl) rfl (by simp [Exit.then, Exit.inBlock, ownPostG]) ?_
      repeat (go_big_quiet_step ((first | (exact HC.out _) | fail)))
      refine wpQuiet_nil ?_
      rintro w' ⟨nq, rfl⟩
      simp only [Exit.then]
      refine wpIn_cond_false rfl ?_
      refine wpIn_skip ?_
      exact ⟨from_drewN _ _ _, kpa_of h2 (below_drewN h2 _) (by omega) (by omega) (by omega), HPRE.out _ rfl (by simp [hz]), below_drewN h2 _⟩
  case hdone =>
    rintro D w hD ⟨h1, h2⟩ hK
    have bw := b0.below h2 (by omega)
    have hc0 := bw.cell
    have hf0 := bw.frozen
    refine hK1 _ _ ?_
    go_wp2
    have hK' : (w.setCell ⟨W.heap.size + 1 + 1, 0, none⟩ (.bool false)).heap[D]? = some (.deferred (some [])) := by rw [heap_setCell_other _ _ _ _ (by simp; omega)]; exact hK
    have hr : (((w.setCell ⟨W.heap.size + 1 + 1, 0, none⟩ (.bool false)).putObj D (.deferred none))).cell? ⟨W.heap.size + 1 + 1, 0, none⟩ = some (.bool false) := by
      rw [World.cell?_of_block (World.putObj_heap_other (by simp; omega))]; exact (bw.set _).cell
    refine leave_mark (v := .bool false) hK' (by simp [results, Tryz.results82, go_sem, hr]) ⟨by rw [toWrite_false h1], ?_⟩
    exact below_mark ((hB0.trans (h2.mono (by omega))).setCell (by simp; omega) _) (by omega) _
  case hstop =>
    rintro D c k' w hD hk' ⟨rfl, ⟨j, hj, t, ht, hz⟩, h3, h4⟩ hK
    go_wp2
    have hr : ((w.putObj D (.deferred none))).cell? ⟨W.heap.size + 1 + 1, 0, none⟩ = some (.bool true) := by
      rw [World.cell?_of_block (World.putObj_heap_other (by simp; omega))]; exact h3.cell
    refine leave_mark (v := .bool true) hK (by simp [results, Tryz.results82, go_sem, hr]) ⟨by rw [toWrite_true (by have := List.mem_range.1 hj; omega) ht hz], ?_⟩
    exact below_mark h4 (by omega) _

end Go.Proofs.YtmeiogoodbnkkaaGreat

/- May an order write? -/
namespace Go.Proofs.YtmeiogoodbnkkaaGreat
open Go.RowKit

set_option maxRecDepth 10000 in
set_option maxHeartbeats 4000000 in
theorem mayWrite_any (W : World) (B : Nat) (L : Lo) (m : Mc) (G cap i : Nat) (t : Tk) (n : Int) (hm : MAt W B L m) (hgv : L.gv = .slice (some ⟨G, 0, none⟩) m.given.length cap) (ht : m.given[i]? = some t) (hsm : m.given.length ≤ 1000000) (ho : Ords n m.given) :
    Calls Tryz.prog 79 #[.pointer (some ⟨L.M, 0, none⟩), .int .i64 i, .pointer (some ⟨G, i * 17, none⟩)] W fun e w' => e = .returned (.bool (mayW m.given m.cycle i t)) ∧ Below W.heap.size W w' := by
  have hil : i < m.given.length := (List.getElem?_eq_some_iff.1 ht).1
  have cd : W.cell? ⟨G, i * 17 + 11, none⟩ = some (.int .i64 t.done) := hm.tk hgv ht (j := 11) (by omega)
  have ct : W.cell? ⟨G, i * 17 + 16, none⟩ = some (.int .i64 t.trap) := hm.tk hgv ht (j := 16) (by omega)
  have cw : W.cell? ⟨G, i * 17 + 12, none⟩ = some (.int .i64 t.write) := hm.tk hgv ht (j := 12) (by omega)
  have cm : W.cell? ⟨G, i * 17 + 7, none⟩ = some (.int .u8 (wMask t.o)) := hm.tk hgv ht (j := 7) (by omega)
  have cc := hm.cCycle
  have HR : Hid (∀ q, Calls Tryz.prog 97 #[.pointer (some ⟨L.M, 0, none⟩), .int .i64 i, .int .u8 (wMask t.o)] (W.drewN q) fun e w' => e = .returned (.bool (toRead m.given i (wMask t.o))) ∧ Below W.heap.size W w') := fun q =>
    (isToBeRead_any (W.drewN q) B L m i (wMask t.o) n (hm.ck fun _ _ _ _ h => h) (by omega) hsm (wMask_lt (ho i t ht)) ho).mono fun e w' h => ⟨h.1, h.2.os, h.2.tape, h.2.output, h.2.size, h.2.block⟩
  have HW : Hid (mayW m.given m.cycle i t = (decide (t.done ≠ 0 ∧ t.done < m.cycle) && decide (t.trap = 0) && decide (t.write = 0) && !toRead m.given i (wMask t.o))) := rfl
  clear hm hgv ht ho
  generalize mayW m.given m.cycle i t = r at *
  generalize toRead m.given i (wMask t.o) = tr at *
  generalize wMask t.o = wm at *
  generalize m.cycle = cyc at *
  obtain ⟨to, tn, ti, trd, td, tw, tg, tp, tv, tt⟩ := t
  simp only at *
  by_cases h1 : td = 0
  · subst h1
    have e : r = false := by rw [HW.out]; simp
    subst e
    go_enter Tryz.func79, Tryz.ntmps79
    go_wp2
    go_quiet (fail)
    go_wp2
    go_ret
    exact ⟨rfl, below_drewN (Below.refl _ _) _⟩
  · have t1 : ((td : Int) != 0) = true := by simp; omega
    by_cases h2 : td < cyc
    · have t2 : decide ((td : Int) < (cyc : Int)) = true := by simpa using h2
      by_cases h3 : tt = 0
      · by_cases h4 : tw = 0
        · have e : r = !tr := by rw [HW.out]; simp [h1, h2, h3, h4]
          subst e
          subst h3
          subst h4
          have H1 := hide h1
          have H2 := hide h2
          clear h1 h2
          go_enter Tryz.func79, Tryz.ntmps79
          go_wp2
          go_quiet (fail)
          go_wp2_with (go_at_call 97; refine (HR.out _).mono ?_; rintro e w' ⟨rfl, hb⟩)
          go_ret
          exact ⟨rfl, hb⟩
        · have t4 : ((tw : Int) == 0) = false := by simp; omega
          have e : r = false := by rw [HW.out]; simp [h4]
          subst e
          subst h3
          have H1 := hide h1
          have H2 := hide h2
          have H4 := hide h4
          clear h1 h2 h4
          go_enter Tryz.func79, Tryz.ntmps79
          go_wp2
          go_quiet (fail)
          go_wp2
          go_ret
          exact ⟨rfl, below_drewN (Below.refl _ _) _⟩
      · have t3 : (tt == 0) = false := by simpa using h3
        have e : r = false := by rw [HW.out]; simp [h3]
        subst e
        have H1 := hide h1
        have H2 := hide h2
        have H3 := hide h3
        clear h1 h2 h3
        go_enter Tryz.func79, Tryz.ntmps79
        go_wp2
        go_quiet (fail)
        go_wp2
        go_ret
        exact ⟨rfl, below_drewN (Below.refl _ _) _⟩
    · have t2 : decide ((td : Int) < (cyc : Int)) = false := by simp; omega
      have e : r = false := by rw [HW.out]; simp [h2]
      subst e
      have H1 := hide h1
      have H2 := hide h2
      clear h1 h2
      go_enter Tryz.func79, Tryz.ntmps79
      go_wp2
      go_quiet (fail)
      go_wp2
      go_ret
      exact ⟨rfl, below_drewN (Below.refl _ _) _⟩

end Go.Proofs.YtmeiogoodbnkkaaGreat
