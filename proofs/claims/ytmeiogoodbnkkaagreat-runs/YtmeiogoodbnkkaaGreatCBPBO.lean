/- Several texts in one: BP, BD, BE, BF, BQ, BG, BH, BI, BJ, BK, BL, BO. -/
import Derived.Test.YtmeiogoodbnkkaaGreatCBBBC
import Derived.Test.YtmeiogoodbnkkaaGreatCPAPI
import Derived.StillTailTactics
import Derived.Maps.AppendAt
import Derived.Deep.AppendLies
import Derived.Test.YtmeiogoodbnkkaaGreatCUH4
import Derived.Test.YtmeiogoodbnkkaaGreatCSB
import Derived.Deep.RegionLaw
import Derived.Test.YtmeiogoodbnkkaaGreatCSC
/- Sets of registers, register by register. -/
namespace Go.Proofs.YtmeiogoodbnkkaaGreat
open Go.RowKit

theorem meets_rw {p o : Ord} {n n' : Int} (hp : isOrd p n = true) (ho : isOrd o n' = true) : meets (rMask p) (wMask o) = (wrD o.op && rdQ p.op p.a p.b o.d) := by
  have h1 := isOrd_spec hp
  have h2 := isOrd_spec ho
  rw [Bool.eq_iff_iff, meets_iff]
  constructor
  · rintro ⟨r, hr, hw⟩
    rw [rMask_bit] at hr
    rw [wMask_bit] at hw
    obtain ⟨w1, w2⟩ := hw
    rw [w1, Bool.true_and]
    unfold rdQ
    rcases hr with ⟨r1, r2⟩ | ⟨r1, r2⟩
    · have : p.a = o.d := by omega
      simp [r1, this]
    · have : p.b = o.d := by omega
      simp [r1, this]
  · intro h
    rw [Bool.and_eq_true] at h
    obtain ⟨w1, h⟩ := h
    refine ⟨o.d.toNat, ?_, (wMask_bit _ _).2 ⟨w1, rfl⟩⟩
    rw [rMask_bit]
    unfold rdQ at h
    rw [Bool.or_eq_true, Bool.and_eq_true, Bool.and_eq_true] at h
    rcases h with ⟨r1, r2⟩ | ⟨r1, r2⟩
    · exact .inl ⟨r1, by rw [beq_iff_eq] at r2; rw [r2]⟩
    · exact .inr ⟨r1, by rw [beq_iff_eq] at r2; rw [r2]⟩

theorem meets_comm (x y : Nat) : meets x y = meets y x := by unfold meets; rw [Nat.and_comm]

theorem meets_ww {p o : Ord} {n n' : Int} (hp : isOrd p n = true) (ho : isOrd o n' = true) : meets (wMask p) (wMask o) = (wrD o.op && (wrD p.op && (p.d == o.d))) := by
  have h1 := isOrd_spec hp
  have h2 := isOrd_spec ho
  rw [Bool.eq_iff_iff, meets_iff]
  constructor
  · rintro ⟨r, hr, hw⟩
    rw [wMask_bit] at hr hw
    obtain ⟨w1, w2⟩ := hw
    obtain ⟨r1, r2⟩ := hr
    have : p.d = o.d := by omega
    simp [w1, r1, this]
  · intro h
    simp only [Bool.and_eq_true, beq_iff_eq] at h
    exact ⟨o.d.toNat, (wMask_bit _ _).2 ⟨h.2.1, by rw [h.2.2]⟩, (wMask_bit _ _).2 ⟨h.1, rfl⟩⟩

theorem any_take_congr {α : Type} {p q : α → Bool} {g : List α} (n : Nat) (h : ∀ (j : Nat) t, g[j]? = some t → p t = q t) : (g.take n).any p = (g.take n).any q := by
  have key : ∀ t ∈ g.take n, p t = q t := fun t ht => by
    obtain ⟨j, hj⟩ := List.getElem?_of_mem (List.mem_of_mem_take ht)
    exact h j t hj
  rw [Bool.eq_iff_iff, List.any_eq_true, List.any_eq_true]
  constructor
  · rintro ⟨t, ht, hp⟩
    exact ⟨t, ht, by rw [← key t ht]; exact hp⟩
  · rintro ⟨t, ht, hp⟩
    exact ⟨t, ht, by rw [key t ht]; exact hp⟩

theorem any_and {α : Type} (b : Bool) (p : α → Bool) (l : List α) : (l.any fun t => b && p t) = (b && l.any p) := by
  cases b <;> simp

theorem any_or {α : Type} (p q : α → Bool) (l : List α) : (l.any fun t => p t || q t) = (l.any p || l.any q) := by
  induction l with
  | nil => rfl
  | cons x l ih => simp only [List.any_cons, ih]; cases p x <;> cases q x <;> simp

/-- Is one ahead still to read the register? -/
def rdB' (g : List Tk) (i : Nat) (r : Int) : Bool := (g.take i).any fun t => rdQ t.o.op t.o.a t.o.b r && ((t.read : Int) == 0)

theorem toRead_w {g : List Tk} {n n' : Int} (hg : Ords n g) (i : Nat) {o : Ord} (ho : isOrd o n' = true) : toRead g i (wMask o) = (wrD o.op && rdB' g i o.d) := by
  unfold toRead rdB'
  rw [← any_and]
  refine any_take_congr i fun j t ht => ?_
  rw [meets_rw (hg j t ht) ho]
  cases wrD o.op <;> simp
  rw [Bool.and_comm]
  congr 1
  rw [Bool.eq_iff_iff]; simp

theorem toWrite_w {g : List Tk} {n n' : Int} (hg : Ords n g) (c i : Nat) {o : Ord} (ho : isOrd o n' = true) : toWrite g c i (wMask o) = (wrD o.op && awB g c i o.d) := by
  unfold toWrite awB
  rw [← any_and]
  refine any_take_congr i fun j t ht => ?_
  rw [meets_ww (hg j t ht) ho]
  cases wrD o.op <;> cases wrD t.o.op <;> simp

theorem toWrite_r {g : List Tk} {n n' : Int} (hg : Ords n g) (c i : Nat) {o : Ord} (ho : isOrd o n' = true) : toWrite g c i (rMask o) = ((rdA o.op && awB g c i o.a) || (rdB o.op && awB g c i o.b)) := by
  unfold toWrite awB
  rw [← any_and, ← any_and, ← any_or]
  refine any_take_congr i fun j t ht => ?_
  rw [meets_comm, meets_rw ho (hg j t ht)]
  unfold rdQ
  have e1 : (o.a == t.o.d) = (t.o.d == o.a) := by rw [Bool.eq_iff_iff, beq_iff_eq, beq_iff_eq]; exact ⟨Eq.symm, Eq.symm⟩
  have e2 : (o.b == t.o.d) = (t.o.d == o.b) := by rw [Bool.eq_iff_iff, beq_iff_eq, beq_iff_eq]; exact ⟨Eq.symm, Eq.symm⟩
  rw [e1, e2]
  cases wrD t.o.op <;> cases opensT c t <;> cases rdA o.op <;> cases rdB o.op <;> simp

/-- What an order writes that may. -/
theorem wMask_zero {o : Ord} : (wMask o = 0) ↔ wrD o.op = false := by
  unfold wMask bitOf
  cases h : wrD o.op with
  | true => simp
  | false => simp

theorem filter_take_succ {α : Type} (p : α → Bool) {g : List α} {i : Nat} {t : α} (ht : g[i]? = some t) : ((g.take (i + 1)).filter p).length = ((g.take i).filter p).length + (if p t = true then 1 else 0) := by
  have e : g.take (i + 1) = g.take i ++ [t] := by rw [List.take_add_one, ht]; rfl
  rw [e, List.filter_append, List.length_append, List.filter_cons]
  split <;> simp
theorem filter_take_le {α : Type} (p : α → Bool) (g : List α) (i : Nat) : ((g.take i).filter p).length ≤ g.length :=
  Nat.le_trans (List.length_filter_le _ _) (by rw [List.length_take]; omega)

end Go.Proofs.YtmeiogoodbnkkaaGreat

/- The document's board asked: settled, unit, mayWrite. -/
namespace Go.Proofs.YtmeiogoodbnkkaaGreat
open Go.RowKit

theorem allWrB_true {g : List Tk} {k : Nat} (h : ∀ j, j < k → ∀ t, g[j]? = some t → t.write ≠ 0) : allWr g k = true := by
  unfold allWr
  rw [List.all_eq_true]
  intro t ht
  obtain ⟨j, hj⟩ := List.getElem?_of_mem ht
  have hjn : j < k := by
    rcases Nat.lt_or_ge j k with h1 | h1
    · exact h1
    · rw [List.getElem?_take_eq_none h1] at hj
      exact absurd hj (by simp)
  rw [List.getElem?_take_of_lt hjn] at hj
  exact decide_eq_true (h j hjn t hj)
theorem allWrB_false {g : List Tk} {k j : Nat} {t : Tk} (hj : j < k) (ht : g[j]? = some t) (h : t.write = 0) : allWr g k = false := by
  unfold allWr
  rw [List.all_eq_false]
  exact ⟨t, List.mem_of_getElem? (i := j) (by rw [List.getElem?_take_of_lt hj]; exact ht), by simp [h]⟩

set_option maxRecDepth 100000 in
set_option maxHeartbeats 4000000 in
theorem settled_any (W : World) (B : Nat) (L : Lb) (m : Mc) (g : List (Tk × Xt)) (n : Nat) (h : RAt W B L m g) (hn : n ≤ g.length) (hsm : g.length ≤ 100000) :
    Calls Tryz.prog 59 #[.pointer (some ⟨L.D, 0, none⟩), .int .i64 n] W fun e w' => e = .returned (.bool (allWr m.given n)) ∧ w' = W := by
  have HR := hide h
  have hD := h.lt
  clear h
  go_enter Tryz.func59, Tryz.ntmps59
  go_wp2_with fail
  go_loopg [5] n (fun gq s5 wr => ∃ k : Nat, k ≤ n ∧ gq = n - k ∧ s5 = .int .i64 k ∧ (∀ j, j < k → ∀ t, m.given[j]? = some t → t.write ≠ 0) ∧ wr = W)
  case atStart => exact ⟨0, Nat.zero_le _, rfl, rfl, fun j hj => absurd hj (by omega), rfl⟩
  case round =>
    obtain ⟨k, hk1, hgk, rfl, hno, hwr⟩ := hrel
    subst hwr
    have HNO := hide hno
    clear hno
    rcases Nat.lt_or_ge k n with hki | hki
    · obtain ⟨⟨t, x⟩, hy⟩ : ∃ y, g[k]? = some y := ⟨_, List.getElem?_eq_getElem (by omega)⟩
      have hR := HR.out
      have ht : m.given[k]? = some t := hR.get hy
      obtain ⟨G, cap, hlv, _, hG⟩ := hR.row (i := k) (by omega)
      have c24 := hR.cLv
      rw [hlv] at c24
      have c9 : wr.cell? ⟨G, k * 15 + 9, none⟩ = some (.int .i64 t.write) := hR.gv hlv hy (j := 9) (by omega)
      have hkI : (k : Int) < (n : Int) := by omega
      have hkG : (k : Int) < (g.length : Int) := by omega
      have HGK := hide hgk
      have HT := hide ht
      clear hgk ht hy hlv hR
      cases hz : ((t.write : Int) == 0) with
      | true =>
        have HD : Hid (allWr m.given n = false) := allWrB_false hki HT.out (by have := hz; simp at this; omega)
        go_wp2_with fail
        go_ret
        exact ⟨by rw [HD.out]; rfl, rfl⟩
      | false =>
        have HNX : Hid (∀ j, j < k + 1 → ∀ t, m.given[j]? = some t → t.write ≠ 0) := by
          intro j hj t' ht'
          rcases Nat.lt_or_ge j k with h1 | h1
          · exact HNO.out j h1 t' ht'
          · have : j = k := by omega
            subst this
            rw [HT.out] at ht'
            cases ht'
            have := hz
            simp at this
            omega
        go_wp2_with fail
        have hgk := HGK.out
        go_roundg (n - (k + 1))
        case measure => omega
        case rel => exact ⟨k + 1, by omega, rfl, by go_num, HNX.out, rfl⟩
    · have hke : k = n := by omega
      subst hke
      have HD : Hid (allWr m.given k = true) := allWrB_true HNO.out
      clear hki hgk HNO
      go_wp2_with fail
      go_ret
      exact ⟨by rw [HD.out]; rfl, rfl⟩

set_option maxRecDepth 100000 in
set_option maxHeartbeats 4000000 in
theorem unit_any (W : World) (B : Nat) (L : Lb) (m : Mc) (g : List (Tk × Xt)) (kd : Nat) (h : RAt W B L m g) (hkd : kd < 4) (hsm : g.length ≤ 100000) :
    Calls Tryz.prog 57 #[.pointer (some ⟨L.D, 0, none⟩), .int .i64 kd] W fun e w' => e = .returned (.bool (freeU m kd)) ∧ Below W.heap.size W w' := by
  have HR := hide h
  have HL : Hid (g.length = m.given.length) := h.len
  obtain ⟨p, hp⟩ : ∃ p : Tk → Bool, p = fun t => decide (kindOf t.o.op = (kd : Int)) && opensT m.cycle t := ⟨_, rfl⟩
  obtain ⟨lp, lc, hlv0⟩ := h.sl
  have HF : Hid (freeU m kd = decide (((m.given.filter p).length : Int) < m.units.getD kd 0)) := by
    show freeU m kd = _
    unfold freeU
    rw [hp, Bool.eq_iff_iff]
    simp
  have HPP := hide hp
  clear h hp
  go_enter Tryz.func57, Tryz.ntmps57
  go_wp2_with fail
  go_loopg [5, 6] g.length (fun gq s5 s6 wr => ∃ k : Nat, k ≤ g.length ∧ gq = g.length - k ∧ s6 = .int .i64 k ∧ s5 = .int .i64 ((m.given.take k).filter p).length ∧ Below W.heap.size W wr)
  case atStart => exact ⟨0, Nat.zero_le _, rfl, rfl, rfl, Below.refl _ _⟩
  case round =>
    obtain ⟨k, hk1, hgk, rfl, rfl, hbr⟩ := hrel
    rename World => V
    have hR := HR.out.below hbr
    have c24' : V.cell? ⟨L.D, 24, none⟩ = some (.slice lp g.length lc) := by rw [hR.cLv, hlv0]
    have hD := hR.lt
    rcases Nat.lt_or_ge k g.length with hki | hki
    · obtain ⟨⟨t, x⟩, hy⟩ : ∃ y, g[k]? = some y := ⟨_, List.getElem?_eq_getElem (by omega)⟩
      have ht : m.given[k]? = some t := hR.get hy
      obtain ⟨G, cap, hlv, _, hG⟩ := HR.out.row (i := k) (by omega)
      rw [hlv0] at hlv
      injection hlv with e1 e2 e3
      subst e1
      subst e3
      have c24 : ∀ w', Below V.heap.size V w' → w'.cell? ⟨L.D, 24, none⟩ = some (.slice (some ⟨G, 0, none⟩) g.length lc) := fun w' h => by rw [(hR.below h).cLv, hlv0]
      have c0 : ∀ w', Below V.heap.size V w' → w'.cell? ⟨G, k * 15, none⟩ = some (.int .i64 t.o.op) := fun w' h => (hR.below h).gv hlv0 hy (j := 0) (by omega)
      have KO : Hid (∀ w', Below V.heap.size V w' → Calls Tryz.prog 75 #[.pointer (some ⟨L.D, 0, none⟩), .int .i64 k] w' fun e w'' => e = .returned (.bool (opensT m.cycle t)) ∧ Below w'.heap.size w' w'') := fun w' h => open_any w' B L m g k t x (hR.below h) hy
      have KK : Hid (∀ w', Calls Tryz.prog 56 #[.int .i64 t.o.op] w' fun e w'' => e = .returned (.int .i64 (kindOf t.o.op)) ∧ w'' = w') := fun w' => Kind_any _ w'
      have hGV : G < V.heap.size := Nat.lt_of_lt_of_le hG hbr.size
      have hkG : (k : Int) < (g.length : Int) := by omega
      have hcn : (((m.given.take k).filter p).length : Int) ≤ 100000 := by have := filter_take_le p m.given k; have := HL.out; omega
      have HS : Hid (((m.given.take (k + 1)).filter p).length = ((m.given.take k).filter p).length + (if p t = true then 1 else 0)) := filter_take_succ p ht
      have HPT : Hid (p t = ((kindOf t.o.op == (kd : Int)) && opensT m.cycle t)) := by
        show p t = _
        rw [HPP.out]
        rfl
      have HGK := hide hgk
      have HBR := hide hbr
      clear hgk ht hy hR
      have hrv : Below V.heap.size V V := Below.refl _ _
      go_upto_region 6 with (go_at_call 75; with_reducible refine (KO.out _ (by with_reducible assumption)).mono ?_; rintro e vb ⟨rfl, hbvb⟩; have hlb : L.D < vb.heap.size := (Nat.lt_of_lt_of_le hD hbvb.size); have hGb : G < vb.heap.size := (Nat.lt_of_lt_of_le hGV hbvb.size))
      have HB2 : Hid (Below W.heap.size W vb) := bThen HBR.out hbvb
      generalize opensT m.cycle t = q2 at *
      generalize kindOf t.o.op = kk at *
      have CL : Hid (∀ w', Calls Tryz.prog 56 #[.int .i64 t.o.op] w' fun e w'' => e = .returned (.int .i64 kk) ∧ w'' = w') := KK
      cases q2 with
      | false =>
        have HE : Hid ((((m.given.take (k + 1)).filter p).length : Int) = ((m.given.take k).filter p).length) := by
          show (((m.given.take (k + 1)).filter p).length : Int) = _
          rw [HS.out, HPT.out]; simp
        go_wp2_with fail
        have hgk := HGK.out
        go_roundg (g.length - (k + 1))
        case measure => omega
        case rel => exact ⟨k + 1, by omega, rfl, by go_num, by rw [HE.out], HB2.out⟩
      | true =>
        cases hq : (kk == (kd : Int)) with
        | false =>
          have HE : Hid ((((m.given.take (k + 1)).filter p).length : Int) = ((m.given.take k).filter p).length) := by
            show (((m.given.take (k + 1)).filter p).length : Int) = _
            rw [HS.out, HPT.out, hq]; simp
          go_wp2_with (go_at_call 56; with_reducible refine (CL.out _).mono ?_; rintro e W' ⟨rfl, hW'⟩; have hW'' := hW'.symm; clear hW'; subst hW'')
          have hgk := HGK.out
          go_roundg (g.length - (k + 1))
          case measure => omega
          case rel => exact ⟨k + 1, by omega, rfl, by go_num, by rw [HE.out], HB2.out⟩
        | true =>
          have HE : Hid ((((m.given.take (k + 1)).filter p).length : Int) = ((m.given.take k).filter p).length + 1) := by
            show (((m.given.take (k + 1)).filter p).length : Int) = _
            rw [HS.out, HPT.out, hq]; simp
          go_wp2_with (go_at_call 56; with_reducible refine (CL.out _).mono ?_; rintro e W' ⟨rfl, hW'⟩; have hW'' := hW'.symm; clear hW'; subst hW'')
          have hgk := HGK.out
          go_roundg (g.length - (k + 1))
          case measure => omega
          case rel => exact ⟨k + 1, by omega, rfl, by go_num, by rw [HE.out], HB2.out⟩
    · have hke : k = g.length := by omega
      have hT : (m.given.take k).filter p = m.given.filter p := by rw [hke, HL.out, List.take_length]
      rw [hT] at *
      have cu : V.cell? ⟨L.D, kd, none⟩ = some (.int .i64 (m.units.getD kd 0)) := hR.cUnit hkd
      have hk4 : (kd : Int) < 4 := by omega
      have hnk : ¬ ((k : Int) < (g.length : Int)) := by omega
      clear hki hgk hR hT hke
      go_wp2_with fail
      go_ret
      exact ⟨by rw [HF.out]; rfl, hbr⟩

end Go.Proofs.YtmeiogoodbnkkaaGreat

/- The document's board asked: may an order write? -/
namespace Go.Proofs.YtmeiogoodbnkkaaGreat
open Go.RowKit

theorem rdB_true {g : List Tk} {k j : Nat} {r : Int} {t : Tk} (hj : j < k) (ht : g[j]? = some t) (h : (rdQ t.o.op t.o.a t.o.b r && ((t.read : Int) == 0)) = true) : rdB' g k r = true := by
  unfold rdB'
  rw [List.any_eq_true]
  exact ⟨t, List.mem_of_getElem? (i := j) (by rw [List.getElem?_take_of_lt hj]; exact ht), h⟩
theorem rdB_false {g : List Tk} {k : Nat} {r : Int} (h : ∀ j, j < k → ∀ t, g[j]? = some t → (rdQ t.o.op t.o.a t.o.b r && ((t.read : Int) == 0)) = false) : rdB' g k r = false := by
  unfold rdB'
  exact (any_take _ _ _).2 fun j t hj ht => h j hj t ht

set_option maxRecDepth 100000 in
set_option maxHeartbeats 8000000 in
theorem rMayWrite_any (W : World) (B : Nat) (L : Lb) (m : Mc) (g : List (Tk × Xt)) (i : Nat) (t : Tk) (x : Xt) (n : Int) (h : RAt W B L m g) (hi : g[i]? = some (t, x)) (hsm : g.length ≤ 100000) (ho : Ords n m.given) :
    Calls Tryz.prog 51 #[.pointer (some ⟨L.D, 0, none⟩), .int .i64 i] W fun e w' => e = .returned (.bool (mayW m.given m.cycle i t)) ∧ Below W.heap.size W w' := by
  have hlt : i < g.length := (List.getElem?_eq_some_iff.1 hi).1
  obtain ⟨G, cap, hlv, _, hG⟩ := h.row hlt
  have ht := h.get hi
  have HMW : Hid (mayW m.given m.cycle i t = (((t.write : Int) == 0) && (t.trap == 0) && !((t.done : Int) == 0) && decide ((t.done : Int) < m.cycle) && !(wrD t.o.op && rdB' m.given i t.o.d))) := by
    show mayW m.given m.cycle i t = _
    unfold mayW
    rw [toRead_w ho i (ho i t ht)]
    generalize (wrD t.o.op && rdB' m.given i t.o.d) = q
    rw [Bool.eq_iff_iff]
    simp
    omega
  have c24 := h.cLv
  rw [hlv] at c24
  have hD := h.lt
  have hiI : (i : Int) < (g.length : Int) := by omega
  have k0 : W.cell? ⟨G, i * 15, none⟩ = some (.int .i64 t.o.op) := h.gv hlv hi (j := 0) (by omega)
  have k1 : W.cell? ⟨G, i * 15 + 1, none⟩ = some (.int .i64 t.o.d) := h.gv hlv hi (j := 1) (by omega)
  have k2 : W.cell? ⟨G, i * 15 + 2, none⟩ = some (.int .i64 t.o.a) := h.gv hlv hi (j := 2) (by omega)
  have k3 : W.cell? ⟨G, i * 15 + 3, none⟩ = some (.int .i64 t.o.b) := h.gv hlv hi (j := 3) (by omega)
  have k4 : W.cell? ⟨G, i * 15 + 4, none⟩ = some (.int .i64 t.o.k) := h.gv hlv hi (j := 4) (by omega)
  have k5 : W.cell? ⟨G, i * 15 + 5, none⟩ = some (.int .i64 t.number) := h.gv hlv hi (j := 5) (by omega)
  have k6 : W.cell? ⟨G, i * 15 + 6, none⟩ = some (.int .i64 t.issue) := h.gv hlv hi (j := 6) (by omega)
  have k7 : W.cell? ⟨G, i * 15 + 7, none⟩ = some (.int .i64 t.read) := h.gv hlv hi (j := 7) (by omega)
  have k8 : W.cell? ⟨G, i * 15 + 8, none⟩ = some (.int .i64 t.done) := h.gv hlv hi (j := 8) (by omega)
  have k9 : W.cell? ⟨G, i * 15 + 9, none⟩ = some (.int .i64 t.write) := h.gv hlv hi (j := 9) (by omega)
  have k10 : W.cell? ⟨G, i * 15 + 10, none⟩ = some (.int .i64 x.value) := h.gv hlv hi (j := 10) (by omega)
  have k11 : W.cell? ⟨G, i * 15 + 11, none⟩ = some (.int .i64 x.loc) := h.gv hlv hi (j := 11) (by omega)
  have k12 : W.cell? ⟨G, i * 15 + 12, none⟩ = some (.int .i64 t.trap) := h.gv hlv hi (j := 12) (by omega)
  have k13 : W.cell? ⟨G, i * 15 + 13, none⟩ = some (.int .i64 x.old) := h.gv hlv hi (j := 13) (by omega)
  have k14 : W.cell? ⟨G, i * 15 + 14, none⟩ = some (.int .i64 x.turn) := h.gv hlv hi (j := 14) (by omega)
  have HR := hide h
  have HI := hide hi
  have HT := hide ht
  clear h hi ht
  go_enter Tryz.func51, Tryz.ntmps51
  go_upto_region 2 with fail
  clear c24 k0 k1 k2 k3 k4 k5 k6 k7 k8 k9 k10 k11 k12 k13 k14
  obtain ⟨V, hV⟩ : ∃ V, W.alloc (.cells #[.int .i64 t.o.op, .int .i64 t.o.d, .int .i64 t.o.a, .int .i64 t.o.b, .int .i64 t.o.k, .int .i64 t.number, .int .i64 t.issue, .int .i64 t.read, .int .i64 t.done, .int .i64 t.write, .int .i64 x.value, .int .i64 x.loc, .int .i64 t.trap, .int .i64 x.old, .int .i64 x.turn] 81) = V := ⟨_, rfl⟩
  rw [hV]
  have hbV : Below W.heap.size W V := by rw [← hV]; exact bSt (Below.refl _ _) _
  have gX : V.heap[W.heap.size]? = some (.cells #[.int .i64 t.o.op, .int .i64 t.o.d, .int .i64 t.o.a, .int .i64 t.o.b, .int .i64 t.o.k, .int .i64 t.number, .int .i64 t.issue, .int .i64 t.read, .int .i64 t.done, .int .i64 t.write, .int .i64 x.value, .int .i64 x.loc, .int .i64 t.trap, .int .i64 x.old, .int .i64 x.turn] 81 (0, 0)) := by rw [← hV]; exact heap_alloc_new _ _
  have hlX : W.heap.size < V.heap.size := (Array.getElem?_eq_some_iff.1 gX).1
  clear hV
  have HBV := hide hbV
  have hDV : L.D < V.heap.size := Nat.lt_of_lt_of_le hD hbV.size
  have hGV : G < V.heap.size := Nat.lt_of_lt_of_le hG hbV.size
  have hRV := HR.out.below hbV
  have HRV := hide hRV
  have c23 : V.cell? ⟨L.D, 23, none⟩ = some (.int .i64 m.cycle) := hRV.cCycle
  have x0 : ∀ w', Below V.heap.size V w' → w'.cell? ⟨W.heap.size, 0, none⟩ = some (.int .i64 t.o.op) := fun w' h => by rw [h.cell (p := ⟨W.heap.size, 0, none⟩) hlX, cell_of_row _ _ _ _ _ _ gX]; rfl
  have x1 : ∀ w', Below V.heap.size V w' → w'.cell? ⟨W.heap.size, 1, none⟩ = some (.int .i64 t.o.d) := fun w' h => by rw [h.cell (p := ⟨W.heap.size, 1, none⟩) hlX, cell_of_row _ _ _ _ _ _ gX]; rfl
  have x2 : ∀ w', Below V.heap.size V w' → w'.cell? ⟨W.heap.size, 2, none⟩ = some (.int .i64 t.o.a) := fun w' h => by rw [h.cell (p := ⟨W.heap.size, 2, none⟩) hlX, cell_of_row _ _ _ _ _ _ gX]; rfl
  have x3 : ∀ w', Below V.heap.size V w' → w'.cell? ⟨W.heap.size, 3, none⟩ = some (.int .i64 t.o.b) := fun w' h => by rw [h.cell (p := ⟨W.heap.size, 3, none⟩) hlX, cell_of_row _ _ _ _ _ _ gX]; rfl
  have x4 : ∀ w', Below V.heap.size V w' → w'.cell? ⟨W.heap.size, 4, none⟩ = some (.int .i64 t.o.k) := fun w' h => by rw [h.cell (p := ⟨W.heap.size, 4, none⟩) hlX, cell_of_row _ _ _ _ _ _ gX]; rfl
  have x8 : ∀ w', Below V.heap.size V w' → w'.cell? ⟨W.heap.size, 8, none⟩ = some (.int .i64 t.done) := fun w' h => by rw [h.cell (p := ⟨W.heap.size, 8, none⟩) hlX, cell_of_row _ _ _ _ _ _ gX]; rfl
  have x9 : ∀ w', Below V.heap.size V w' → w'.cell? ⟨W.heap.size, 9, none⟩ = some (.int .i64 t.write) := fun w' h => by rw [h.cell (p := ⟨W.heap.size, 9, none⟩) hlX, cell_of_row _ _ _ _ _ _ gX]; rfl
  have x12 : ∀ w', Below V.heap.size V w' → w'.cell? ⟨W.heap.size, 12, none⟩ = some (.int .i64 t.trap) := fun w' h => by rw [h.cell (p := ⟨W.heap.size, 12, none⟩) hlX, cell_of_row _ _ _ _ _ _ gX]; rfl
  have z8 : V.cell? ⟨W.heap.size, 8, none⟩ = some (.int .i64 t.done) := x8 V (Below.refl _ _)
  have z9 : V.cell? ⟨W.heap.size, 9, none⟩ = some (.int .i64 t.write) := x9 V (Below.refl _ _)
  have z12 : V.cell? ⟨W.heap.size, 12, none⟩ = some (.int .i64 t.trap) := x12 V (Below.refl _ _)
  clear hbV gX hRV
  have ARM : ∀ q : Bool, q = q := fun _ => rfl
  clear ARM
  cases e1 : ((t.write : Int) == 0) with
  | false =>
    have e1' : ((t.write : Int) != 0) = true := by rw [bne, e1]; rfl
    clear x0 x1 x2 x3 x4 x8 x9 x12
    go_quiet (fail)
    go_wp2_with fail
    go_ret
    exact ⟨by rw [HMW.out, e1]; rfl, below_drewN HBV.out _⟩
  | true =>
  have e1' : ((t.write : Int) != 0) = false := by rw [bne, e1]; rfl
  cases e2 : (t.trap == 0) with
  | false =>
    have e2' : (t.trap != 0) = true := by rw [bne, e2]; rfl
    clear x0 x1 x2 x3 x4 x8 x9 x12
    go_quiet (fail)
    go_wp2_with fail
    go_ret
    exact ⟨by rw [HMW.out, e1, e2]; rfl, below_drewN HBV.out _⟩
  | true =>
  have e2' : (t.trap != 0) = false := by rw [bne, e2]; rfl
  cases e3 : ((t.done : Int) == 0) with
  | true =>
    clear x0 x1 x2 x3 x4 x8 x9 x12
    go_quiet (fail)
    go_wp2_with fail
    go_ret
    exact ⟨by rw [HMW.out, e1, e2, e3]; rfl, below_drewN HBV.out _⟩
  | false =>
  by_cases e4 : (m.cycle : Int) ≤ t.done
  · have e4' : decide (m.cycle ≤ t.done) = true := decide_eq_true (by omega)
    have E5 : Hid (decide ((t.done : Int) < m.cycle) = false) := decide_eq_false (by omega)
    clear x0 x1 x2 x3 x4 x8 x9 x12 e4
    go_quiet (fail)
    go_wp2_with fail
    go_ret
    exact ⟨by rw [HMW.out, e1, e2, e3, E5.out]; rfl, below_drewN HBV.out _⟩
  have e4' : decide (m.cycle ≤ t.done) = false := decide_eq_false (by omega)
  have HMW2 : Hid (mayW m.given m.cycle i t = !(wrD t.o.op && rdB' m.given i t.o.d)) := by
    show mayW m.given m.cycle i t = _
    rw [HMW.out, e1, e2, e3, decide_eq_true (show (t.done : Int) < m.cycle by omega)]
    rfl
  have KW : Hid (∀ W, Calls Tryz.prog 58 #[.agg #[.int .i64 t.o.op, .int .i64 t.o.d, .int .i64 t.o.a, .int .i64 t.o.b, .int .i64 t.o.k]] W fun e w' => e = .returned (.bool (wrD t.o.op)) ∧ Below W.heap.size W w') := fun W => rWrites_any _ _ _ _ _ W
  clear e4 HMW
  go_quiet (fail)
  rename_i nq
  obtain ⟨V1, hV1⟩ : ∃ V1, V.drewN nq = V1 := ⟨_, rfl⟩
  rw [hV1]
  have hrb : Below V.heap.size V V1 := by rw [← hV1]; exact below_drewN (Below.refl _ _) _
  clear hV1 z8 z9 z12 c23
  have hX1 : W.heap.size < V1.heap.size := Nat.lt_of_lt_of_le hlX hrb.size
  go_upto_region 5 with (go_at_call 58; with_reducible refine (KW.out _).mono ?_; rintro e va ⟨rfl, hbva⟩; have hBva : Below V.heap.size V va := (bThen hrb hbva))
  generalize hwd : wrD t.o.op = wd at *
  cases wd with
  | false =>
    clear x0 x1 x2 x3 x4 x8 x9 x12
    have hI0 : (0 : Int) ≤ i := by omega
    go_wp2_with fail
    go_loopg [7] 0 (fun gq s7 wr => gq = 0 ∧ s7 = .int .i64 0 ∧ wr = va)
    case atStart => exact ⟨rfl, rfl, rfl⟩
    case round =>
      obtain ⟨rfl, rfl, hwr⟩ := hrel
      subst hwr
      by_cases hi0 : (0 : Int) < i
      · go_wp2_with fail
        go_ret
        exact ⟨by rw [HMW2.out]; rfl, bThen HBV.out hBva⟩
      · go_wp2_with fail
        go_ret
        exact ⟨by rw [HMW2.out]; rfl, bThen HBV.out hBva⟩
  | true =>
    have HMW3 : Hid (mayW m.given m.cycle i t = !rdB' m.given i t.o.d) := by
      show mayW m.given m.cycle i t = _
      rw [HMW2.out]; rfl
    clear HMW2 x0 x2 x3 x4 x8 x9 x12 KW
    go_wp2_with fail
    go_loopg [7, 8] i (fun gq s7 _ wr => ∃ k : Nat, k ≤ i ∧ gq = i - k ∧ s7 = .int .i64 k ∧ (∀ j, j < k → ∀ s, m.given[j]? = some s → (rdQ s.o.op s.o.a s.o.b t.o.d && ((s.read : Int) == 0)) = false) ∧ Below V.heap.size V wr)
    case atStart => exact ⟨0, Nat.zero_le _, rfl, rfl, fun j hj => absurd hj (by omega), hBva⟩
    case round =>
      obtain ⟨k, hk1, hgk, rfl, hno, hbr⟩ := hrel
      have HNO := hide hno
      clear hno
      rename World => Vk
      rcases Nat.lt_or_ge k i with hki | hki
      · obtain ⟨⟨s, y⟩, hy⟩ : ∃ y, g[k]? = some y := ⟨_, List.getElem?_eq_getElem (by omega)⟩
        have hR := HRV.out.below hbr
        have hs : m.given[k]? = some s := hR.get hy
        have c24 : Vk.cell? ⟨L.D, 24, none⟩ = some (.slice (some ⟨G, 0, none⟩) g.length cap) := by rw [hR.cLv, hlv]
        have xd : Vk.cell? ⟨W.heap.size, 1, none⟩ = some (.int .i64 t.o.d) := x1 Vk hbr
        have c0 : Vk.cell? ⟨G, k * 15, none⟩ = some (.int .i64 s.o.op) := hR.gv hlv hy (j := 0) (by omega)
        have c1 : Vk.cell? ⟨G, k * 15 + 1, none⟩ = some (.int .i64 s.o.d) := hR.gv hlv hy (j := 1) (by omega)
        have c2 : Vk.cell? ⟨G, k * 15 + 2, none⟩ = some (.int .i64 s.o.a) := hR.gv hlv hy (j := 2) (by omega)
        have c3 : Vk.cell? ⟨G, k * 15 + 3, none⟩ = some (.int .i64 s.o.b) := hR.gv hlv hy (j := 3) (by omega)
        have c4 : Vk.cell? ⟨G, k * 15 + 4, none⟩ = some (.int .i64 s.o.k) := hR.gv hlv hy (j := 4) (by omega)
        have c7 : ∀ w', Below Vk.heap.size Vk w' → w'.cell? ⟨G, k * 15 + 7, none⟩ = some (.int .i64 s.read) := fun w' h => (hR.below h).gv hlv hy (j := 7) (by omega)
        have d24 : ∀ w', Below Vk.heap.size Vk w' → w'.cell? ⟨L.D, 24, none⟩ = some (.slice (some ⟨G, 0, none⟩) g.length cap) := fun w' h => by rw [(hR.below h).cLv, hlv]
        have KR : Hid (∀ W, Calls Tryz.prog 74 #[.agg #[.int .i64 s.o.op, .int .i64 s.o.d, .int .i64 s.o.a, .int .i64 s.o.b, .int .i64 s.o.k], .int .i64 t.o.d] W fun e w' => e = .returned (.bool (rdQ s.o.op s.o.a s.o.b t.o.d)) ∧ Below W.heap.size W w') := fun W => rReads_any _ _ _ _ _ _ W
        have hDk := hR.lt
        have hGk : G < Vk.heap.size := Nat.lt_of_lt_of_le hGV hbr.size
        have hkI : (k : Int) < (i : Int) := by omega
        have hkG : (k : Int) < (g.length : Int) := by omega
        have HNEXT : Hid ((rdQ s.o.op s.o.a s.o.b t.o.d && ((s.read : Int) == 0)) = false → ∀ j, j < k + 1 → ∀ s, m.given[j]? = some s → (rdQ s.o.op s.o.a s.o.b t.o.d && ((s.read : Int) == 0)) = false) := by
          intro hf j hj t' ht'
          rcases Nat.lt_or_ge j k with h1 | h1
          · exact HNO.out j h1 t' ht'
          · have : j = k := by omega
            subst this
            rw [hs] at ht'
            cases ht'
            exact hf
        have HDONE : Hid ((rdQ s.o.op s.o.a s.o.b t.o.d && ((s.read : Int) == 0)) = true → rdB' m.given i t.o.d = true) := fun hq => rdB_true hki hs hq
        have HGK := hide hgk
        have HBR := hide hbr
        clear hgk hs hy hR HNO x1
        generalize rdQ s.o.op s.o.a s.o.b t.o.d = q at *
        go_upto_region 8 with fail
        refine wp_region_still_tail 11 (by kernel_rfl) (by kernel_rfl) ?_
        simp only [List.take_succ_cons, List.take_zero, List.drop_succ_cons, List.drop_zero]
        repeat still_step
        refine wpStill_nil ?_
        go_upto_region 9 with (go_at_call 74; with_reducible refine (KR.out _).mono ?_; rintro e vb ⟨rfl, hbvb'⟩)
        have hbvb : Below Vk.heap.size Vk vb := bThen (w := Vk) (W := Vk.drew) (Below.refl _ _).drew hbvb'
        have hDb : L.D < vb.heap.size := Nat.lt_of_lt_of_le hDk hbvb.size
        have hGb : G < vb.heap.size := Nat.lt_of_lt_of_le hGk hbvb.size
        clear hbvb' c24 c0 c1 c2 c3 c4 xd
        have HB2 : Hid (Below V.heap.size V vb) := bThen HBR.out hbvb
        cases q with
        | false =>
          go_wp2_with fail
          have hgk := HGK.out
          go_roundg (i - (k + 1))
          case measure => omega
          case rel => exact ⟨k + 1, by omega, rfl, by go_num, HNEXT.out rfl, HB2.out⟩
        | true =>
          cases hq : ((s.read : Int) == 0) with
          | false =>
            go_wp2_with fail
            have hgk := HGK.out
            go_roundg (i - (k + 1))
            case measure => omega
            case rel => exact ⟨k + 1, by omega, rfl, by go_num, HNEXT.out (by rw [hq]; rfl), HB2.out⟩
          | true =>
            go_wp2_with fail
            go_ret
            exact ⟨by rw [HMW3.out, HDONE.out (by rw [hq]; rfl)]; rfl, bThen HBV.out HB2.out⟩
      · have hke : k = i := by omega
        subst hke
        have HD : Hid (rdB' m.given k t.o.d = false) := rdB_false HNO.out
        clear hki hgk HNO
        go_wp2_with fail
        go_ret
        exact ⟨by rw [HMW3.out, HD.out]; rfl, bThen HBV.out hbr⟩

end Go.Proofs.YtmeiogoodbnkkaaGreat

/- The document's board: an order writes. -/
namespace Go.Proofs.YtmeiogoodbnkkaaGreat
open Go.RowKit

/-- What an order that writes has ready. -/
def RdyB (ml : Nat) (t : Tk) (x : Xt) : Prop := (t.o.op = 7 ∧ 0 ≤ x.loc ∧ x.loc < ml ∧ t.tgt = 2 ∧ t.pl = x.loc ∧ t.val = x.value) ∨ (t.o.op ≠ 7 ∧ 0 ≤ t.o.d ∧ t.o.d < 8 ∧ t.tgt = 1 ∧ t.pl = t.o.d ∧ t.val = x.value)

/-- What the board holds of it then. -/
def wroteX (m : Mc) (t : Tk) (x : Xt) : Tk × Xt := ({ t with write := m.cycle }, { x with old := oldV t.tgt t.pl t.val m.regs m.mem m.next, turn := m.changes.length + 1 })

set_option maxRecDepth 100000 in
set_option maxHeartbeats 8000000 in
theorem rWrite_any (W : World) (B : Nat) (L : Lb) (m : Mc) (g : List (Tk × Xt)) (i : Nat) (t : Tk) (x : Xt) (h : RAt W B L m g) (hi : g[i]? = some (t, x)) (hcs : m.changes.length ≤ 1000000) (hr : RdyB m.mem.length t x) :
    Calls Tryz.prog 52 #[.pointer (some ⟨L.D, 0, none⟩), .int .i64 i] W fun e w' => e = .returned (.tuple #[]) ∧ RAt w' B L (writeT i t m) (g.set i (wroteX m t x)) ∧ Kb B W w' := by
  have hlt : i < g.length := (List.getElem?_eq_some_iff.1 hi).1
  obtain ⟨G, cap, hlv, hBG, hG⟩ := h.row hlt
  have c24 := h.cLv
  rw [hlv] at c24
  have hD := h.lt
  have hiI : (i : Int) < (g.length : Int) := by omega
  have k0 : W.cell? ⟨G, i * 15, none⟩ = some (.int .i64 t.o.op) := h.gv hlv hi (j := 0) (by omega)
  have k1 : W.cell? ⟨G, i * 15 + 1, none⟩ = some (.int .i64 t.o.d) := h.gv hlv hi (j := 1) (by omega)
  have k2 : W.cell? ⟨G, i * 15 + 2, none⟩ = some (.int .i64 t.o.a) := h.gv hlv hi (j := 2) (by omega)
  have k3 : W.cell? ⟨G, i * 15 + 3, none⟩ = some (.int .i64 t.o.b) := h.gv hlv hi (j := 3) (by omega)
  have k4 : W.cell? ⟨G, i * 15 + 4, none⟩ = some (.int .i64 t.o.k) := h.gv hlv hi (j := 4) (by omega)
  have k5 : W.cell? ⟨G, i * 15 + 5, none⟩ = some (.int .i64 t.number) := h.gv hlv hi (j := 5) (by omega)
  have k6 : W.cell? ⟨G, i * 15 + 6, none⟩ = some (.int .i64 t.issue) := h.gv hlv hi (j := 6) (by omega)
  have k7 : W.cell? ⟨G, i * 15 + 7, none⟩ = some (.int .i64 t.read) := h.gv hlv hi (j := 7) (by omega)
  have k8 : W.cell? ⟨G, i * 15 + 8, none⟩ = some (.int .i64 t.done) := h.gv hlv hi (j := 8) (by omega)
  have k9 : W.cell? ⟨G, i * 15 + 9, none⟩ = some (.int .i64 t.write) := h.gv hlv hi (j := 9) (by omega)
  have k10 : W.cell? ⟨G, i * 15 + 10, none⟩ = some (.int .i64 x.value) := h.gv hlv hi (j := 10) (by omega)
  have k11 : W.cell? ⟨G, i * 15 + 11, none⟩ = some (.int .i64 x.loc) := h.gv hlv hi (j := 11) (by omega)
  have k12 : W.cell? ⟨G, i * 15 + 12, none⟩ = some (.int .i64 t.trap) := h.gv hlv hi (j := 12) (by omega)
  have k13 : W.cell? ⟨G, i * 15 + 13, none⟩ = some (.int .i64 x.old) := h.gv hlv hi (j := 13) (by omega)
  have k14 : W.cell? ⟨G, i * 15 + 14, none⟩ = some (.int .i64 x.turn) := h.gv hlv hi (j := 14) (by omega)
  have HR := hide h
  have HI := hide hi
  have HRD := hide hr
  clear h hi hr
  go_enter Tryz.func52, Tryz.ntmps52
  go_upto_region 1 with fail
  clear c24 k0 k1 k2 k3 k4 k5 k6 k7 k8 k9 k10 k11 k12 k13 k14
  obtain ⟨V, hV⟩ : ∃ V, W.alloc (.cells #[.int .i64 t.o.op, .int .i64 t.o.d, .int .i64 t.o.a, .int .i64 t.o.b, .int .i64 t.o.k, .int .i64 t.number, .int .i64 t.issue, .int .i64 t.read, .int .i64 t.done, .int .i64 t.write, .int .i64 x.value, .int .i64 x.loc, .int .i64 t.trap, .int .i64 x.old, .int .i64 x.turn] 81) = V := ⟨_, rfl⟩
  rw [hV]
  have hbV : Below W.heap.size W V := by rw [← hV]; exact bSt (Below.refl _ _) _
  have gX : V.heap[W.heap.size]? = some (.cells #[.int .i64 t.o.op, .int .i64 t.o.d, .int .i64 t.o.a, .int .i64 t.o.b, .int .i64 t.o.k, .int .i64 t.number, .int .i64 t.issue, .int .i64 t.read, .int .i64 t.done, .int .i64 t.write, .int .i64 x.value, .int .i64 x.loc, .int .i64 t.trap, .int .i64 x.old, .int .i64 x.turn] 81 (0, 0)) := by rw [← hV]; exact heap_alloc_new _ _
  clear hV
  have hRV := HR.out.below hbV
  have hFar : L.Far W.heap.size := HR.out.far (Nat.le_refl _)
  have n1 : ¬ L.D = W.heap.size := hFar.d
  have n1' : ¬ W.heap.size = L.D := fun e => hFar.d e.symm
  have n2 : ¬ G = W.heap.size := fun e => hFar.l (by rw [hlv, e]; rfl)
  have n2' : ¬ W.heap.size = G := fun e => n2 e.symm
  have n3 : ¬ L.D = G := fun e => row_ne hRV.giv hRV.blk (by decide) (by rw [hlv, e]; rfl)
  have n3' : ¬ G = L.D := fun e => n3 e.symm
  have HBV := hide hbV
  have HFAR := hide hFar
  have HRV := hide hRV
  have hDV := hRV.lt
  have hGV : G < V.heap.size := Nat.lt_of_lt_of_le hG hbV.size
  have hXV : W.heap.size < V.heap.size := (Array.getElem?_eq_some_iff.1 gX).1
  have c23 : V.cell? ⟨L.D, 23, none⟩ = some (.int .i64 m.cycle) := hRV.cCycle
  have c27 : V.cell? ⟨L.D, 27, none⟩ = some (.int .i64 m.changes.length) := hRV.cTurns
  have c24 : V.cell? ⟨L.D, 24, none⟩ = some (.slice (some ⟨G, 0, none⟩) g.length cap) := by rw [hRV.cLv, hlv]
  have fD : ∀ j, V.frozen? ⟨L.D, j, none⟩ = false := fun j => hRV.frozen j
  have fG : ∀ j, V.frozen? ⟨G, j, none⟩ = false := fun j => hRV.gvFrozen hlv j
  have fX : ∀ j, V.frozen? ⟨W.heap.size, j, none⟩ = false := fun j => frozen_of_row _ _ _ _ _ gX
  have x0 : V.cell? ⟨W.heap.size, 0, none⟩ = some (.int .i64 t.o.op) := by rw [cell_of_row _ _ _ _ _ _ gX]; rfl
  have x1 : V.cell? ⟨W.heap.size, 1, none⟩ = some (.int .i64 t.o.d) := by rw [cell_of_row _ _ _ _ _ _ gX]; rfl
  have x2 : V.cell? ⟨W.heap.size, 2, none⟩ = some (.int .i64 t.o.a) := by rw [cell_of_row _ _ _ _ _ _ gX]; rfl
  have x3 : V.cell? ⟨W.heap.size, 3, none⟩ = some (.int .i64 t.o.b) := by rw [cell_of_row _ _ _ _ _ _ gX]; rfl
  have x4 : V.cell? ⟨W.heap.size, 4, none⟩ = some (.int .i64 t.o.k) := by rw [cell_of_row _ _ _ _ _ _ gX]; rfl
  have x5 : V.cell? ⟨W.heap.size, 5, none⟩ = some (.int .i64 t.number) := by rw [cell_of_row _ _ _ _ _ _ gX]; rfl
  have x6 : V.cell? ⟨W.heap.size, 6, none⟩ = some (.int .i64 t.issue) := by rw [cell_of_row _ _ _ _ _ _ gX]; rfl
  have x7 : V.cell? ⟨W.heap.size, 7, none⟩ = some (.int .i64 t.read) := by rw [cell_of_row _ _ _ _ _ _ gX]; rfl
  have x8 : V.cell? ⟨W.heap.size, 8, none⟩ = some (.int .i64 t.done) := by rw [cell_of_row _ _ _ _ _ _ gX]; rfl
  have x9 : V.cell? ⟨W.heap.size, 9, none⟩ = some (.int .i64 t.write) := by rw [cell_of_row _ _ _ _ _ _ gX]; rfl
  have x10 : V.cell? ⟨W.heap.size, 10, none⟩ = some (.int .i64 x.value) := by rw [cell_of_row _ _ _ _ _ _ gX]; rfl
  have x11 : V.cell? ⟨W.heap.size, 11, none⟩ = some (.int .i64 x.loc) := by rw [cell_of_row _ _ _ _ _ _ gX]; rfl
  have x12 : V.cell? ⟨W.heap.size, 12, none⟩ = some (.int .i64 t.trap) := by rw [cell_of_row _ _ _ _ _ _ gX]; rfl
  have x13 : V.cell? ⟨W.heap.size, 13, none⟩ = some (.int .i64 x.old) := by rw [cell_of_row _ _ _ _ _ _ gX]; rfl
  have x14 : V.cell? ⟨W.heap.size, 14, none⟩ = some (.int .i64 x.turn) := by rw [cell_of_row _ _ _ _ _ _ gX]; rfl
  have y0 : V.cell? ⟨G, i * 15, none⟩ = some (.int .i64 t.o.op) := hRV.gv hlv HI.out (j := 0) (by omega)
  have y1 : V.cell? ⟨G, i * 15 + 1, none⟩ = some (.int .i64 t.o.d) := hRV.gv hlv HI.out (j := 1) (by omega)
  have y2 : V.cell? ⟨G, i * 15 + 2, none⟩ = some (.int .i64 t.o.a) := hRV.gv hlv HI.out (j := 2) (by omega)
  have y3 : V.cell? ⟨G, i * 15 + 3, none⟩ = some (.int .i64 t.o.b) := hRV.gv hlv HI.out (j := 3) (by omega)
  have y4 : V.cell? ⟨G, i * 15 + 4, none⟩ = some (.int .i64 t.o.k) := hRV.gv hlv HI.out (j := 4) (by omega)
  have y5 : V.cell? ⟨G, i * 15 + 5, none⟩ = some (.int .i64 t.number) := hRV.gv hlv HI.out (j := 5) (by omega)
  have y6 : V.cell? ⟨G, i * 15 + 6, none⟩ = some (.int .i64 t.issue) := hRV.gv hlv HI.out (j := 6) (by omega)
  have y7 : V.cell? ⟨G, i * 15 + 7, none⟩ = some (.int .i64 t.read) := hRV.gv hlv HI.out (j := 7) (by omega)
  have y8 : V.cell? ⟨G, i * 15 + 8, none⟩ = some (.int .i64 t.done) := hRV.gv hlv HI.out (j := 8) (by omega)
  have y9 : V.cell? ⟨G, i * 15 + 9, none⟩ = some (.int .i64 t.write) := hRV.gv hlv HI.out (j := 9) (by omega)
  have y10 : V.cell? ⟨G, i * 15 + 10, none⟩ = some (.int .i64 x.value) := hRV.gv hlv HI.out (j := 10) (by omega)
  have y11 : V.cell? ⟨G, i * 15 + 11, none⟩ = some (.int .i64 x.loc) := hRV.gv hlv HI.out (j := 11) (by omega)
  have y12 : V.cell? ⟨G, i * 15 + 12, none⟩ = some (.int .i64 t.trap) := hRV.gv hlv HI.out (j := 12) (by omega)
  have y13 : V.cell? ⟨G, i * 15 + 13, none⟩ = some (.int .i64 x.old) := hRV.gv hlv HI.out (j := 13) (by omega)
  have y14 : V.cell? ⟨G, i * 15 + 14, none⟩ = some (.int .i64 x.turn) := hRV.gv hlv HI.out (j := 14) (by omega)
  have hcI : (m.changes.length : Int) ≤ 1000000 := by omega
  have HLV := hide hlv
  have gX0 := hide gX
  clear hbV hFar hRV gX hlv y0 y1 y2 y3 y4 y5 y6 y7 y8 y9 y10 y11 y12 y13 y14
  obtain ⟨ch, hch⟩ : ∃ ch : Ch, ch = ⟨i, t.tgt, t.pl, oldV t.tgt t.pl t.val m.regs m.mem m.next⟩ := ⟨_, rfl⟩
  go_upto_region 4 with fail
  obtain ⟨V3, hV3⟩ : ∃ V3, (((V.setCell ⟨W.heap.size, 9, none⟩ (.int .i64 m.cycle)).setCell ⟨L.D, 27, none⟩ (.int .i64 ((m.changes.length : Int) + 1))).setCell ⟨W.heap.size, 14, none⟩ (.int .i64 ((m.changes.length : Int) + 1))) = V3 := ⟨_, rfl⟩
  rw [hV3]
  have hR3 : RAt V3 B L { m with changes := m.changes ++ [ch] } g := by
    have h1 := (HRV.out.other (j := 9) HFAR.out (.int .i64 m.cycle)).setTurns ch
    have h2 := h1.other (j := 14) HFAR.out (.int .i64 ((m.changes.length : Int) + 1))
    rw [← hV3]
    simpa using h2
  have K3 : Hid (Kb B W V3) := by
    have k1 : Kb B V (V.setCell ⟨W.heap.size, 9, none⟩ (.int .i64 m.cycle)) := (Kb.refl B V).set gX0.out (by simp [hotB]) (Nat.le_trans HR.out.base (Nat.le_of_lt HR.out.lt)) _
    have k2 := (HRV.out.other (j := 9) HFAR.out (.int .i64 m.cycle)).kbD 27 (.int .i64 ((m.changes.length : Int) + 1))
    have k0 : Kb B W ((V.setCell ⟨W.heap.size, 9, none⟩ (.int .i64 m.cycle)).setCell ⟨L.D, 27, none⟩ (.int .i64 ((m.changes.length : Int) + 1))) := ((Kb.of_below HBV.out).trans k1).trans k2
    rw [← hV3]
    exact k0.setNew (Nat.le_refl _) _
  have g3 : V3.heap[W.heap.size]? = some (.cells #[.int .i64 t.o.op, .int .i64 t.o.d, .int .i64 t.o.a, .int .i64 t.o.b, .int .i64 t.o.k, .int .i64 t.number, .int .i64 t.issue, .int .i64 t.read, .int .i64 t.done, .int .i64 m.cycle, .int .i64 x.value, .int .i64 x.loc, .int .i64 t.trap, .int .i64 x.old, .int .i64 ((m.changes.length : Int) + 1)] 81 (0, 0)) := by
    rw [← hV3]
    have e1 := heap_setCell_same _ _ 9 _ _ (.int .i64 m.cycle) gX0.out
    have e2 : ((V.setCell ⟨W.heap.size, 9, none⟩ (.int .i64 m.cycle)).setCell ⟨L.D, 27, none⟩ (.int .i64 ((m.changes.length : Int) + 1))).heap[W.heap.size]? = _ := (heap_setCell_other _ _ _ _ n1').trans e1
    exact (heap_setCell_same _ _ 14 _ _ (.int .i64 ((m.changes.length : Int) + 1)) e2).trans rfl
  clear hV3 c23 c27 c24 fD fG fX x0 x1 x2 x3 x4 x5 x6 x7 x8 x9 x10 x11 x12 x13 x14
  have HR3 := hide hR3
  have G3 := hide g3
  have hD3 := hR3.lt
  have hX3 : W.heap.size < V3.heap.size := (Array.getElem?_eq_some_iff.1 g3).1
  have fX3 : ∀ j, V3.frozen? ⟨W.heap.size, j, none⟩ = false := fun j => frozen_of_row _ _ _ _ _ g3
  have fD3 : ∀ j, V3.frozen? ⟨L.D, j, none⟩ = false := fun j => hR3.frozen j
  rcases HRD.out with ⟨h7, l0, l1, t1, t2, t3⟩ | ⟨h7, l0, l1, t1, t2, t3⟩
  · obtain ⟨ln, hln⟩ := Int.eq_ofNat_of_zero_le l0
    have e7 : (t.o.op == 7) = true := by simp [h7]
    have hlm : ln < m.mem.length := by omega
    obtain ⟨M, mc, hmv, hBM, hM⟩ : ∃ M mc, L.mv = .slice (some ⟨M, 0, none⟩) m.mem.length mc ∧ B ≤ M ∧ M < V3.heap.size := by
      rcases HR3.out.mem.form with ⟨_, h2⟩ | ⟨q, cq, cur, h2, h3, h4, _⟩
      · have h2' : m.mem = [] := h2
        rw [h2'] at hlm; simp at hlm
      · exact ⟨q, cq, h2, h3, h4⟩
    have c18 : V3.cell? ⟨L.D, 18, none⟩ = some (.slice (some ⟨M, 0, none⟩) m.mem.length mc) := by rw [HR3.out.cMv, hmv]
    have hme := HR3.out.mem
    rw [hmv] at hme
    have cM : V3.cell? ⟨M, ln, none⟩ = some (.int .i64 (m.mem.getD ln 0)) := by
      rw [World.ownsRow.cellAt hme ln (by simpa using hlm)]
      simp [List.getD_eq_getElem?_getD, hlm]
    have n4 : ¬ M = W.heap.size := fun e => HFAR.out.m (by rw [hmv, e]; rfl)
    have n4' : ¬ W.heap.size = M := fun e => n4 e.symm
    have hlI : (ln : Int) < (m.mem.length : Int) := by omega
    obtain ⟨oldv, holdv⟩ : ∃ v, v = m.mem.getD ln 0 := ⟨_, rfl⟩
    rw [← holdv] at cM
    have HOLD := hide holdv
    clear holdv
    have HME := hide hme
    have HMV := hide hmv
    clear h7 l0 l1 hme hmv
    have g3' : V3.heap[W.heap.size]? = some (.cells #[.int .i64 t.o.op, .int .i64 t.o.d, .int .i64 t.o.a, .int .i64 t.o.b, .int .i64 t.o.k, .int .i64 t.number, .int .i64 t.issue, .int .i64 t.read, .int .i64 t.done, .int .i64 m.cycle, .int .i64 x.value, .int .i64 ln, .int .i64 t.trap, .int .i64 x.old, .int .i64 ((m.changes.length : Int) + 1)] 81 (0, 0)) := by rw [G3.out, hln]
    have x0 : V3.cell? ⟨W.heap.size, 0, none⟩ = some (.int .i64 t.o.op) := by rw [cell_of_row _ _ _ _ _ _ g3']; rfl
    have x1 : V3.cell? ⟨W.heap.size, 1, none⟩ = some (.int .i64 t.o.d) := by rw [cell_of_row _ _ _ _ _ _ g3']; rfl
    have x11 : V3.cell? ⟨W.heap.size, 11, none⟩ = some (.int .i64 ln) := by rw [cell_of_row _ _ _ _ _ _ g3']; rfl
    have x10 : V3.cell? ⟨W.heap.size, 10, none⟩ = some (.int .i64 x.value) := by rw [cell_of_row _ _ _ _ _ _ g3']; rfl
    have x13 : V3.cell? ⟨W.heap.size, 13, none⟩ = some (.int .i64 x.old) := by rw [cell_of_row _ _ _ _ _ _ g3']; rfl
    go_upto_region 5 with fail
    refine wp_region_still_tail 10 (by kernel_rfl) (by kernel_rfl) ?_
    simp only [List.take_succ_cons, List.take_zero, List.drop_succ_cons, List.drop_zero]
    repeat still_step
    refine wpStill_nil ?_
    go_upto_region 6 with fail
    obtain ⟨V4, hV4⟩ : ∃ V4, (V3.setCell ⟨W.heap.size, 13, none⟩ (.int .i64 oldv)).drew = V4 := ⟨_, rfl⟩
    rw [hV4]
    have hR4 : RAt V4 B L { m with changes := m.changes ++ [ch] } g := by rw [← hV4]; exact (HR3.out.other HFAR.out _).drew
    have K4 : Hid (Kb B W V4) := by rw [← hV4]; exact (K3.out.setNew (Nat.le_refl _) _).drew
    have g4 : V4.heap[W.heap.size]? = some (.cells #[.int .i64 t.o.op, .int .i64 t.o.d, .int .i64 t.o.a, .int .i64 t.o.b, .int .i64 t.o.k, .int .i64 t.number, .int .i64 t.issue, .int .i64 t.read, .int .i64 t.done, .int .i64 m.cycle, .int .i64 x.value, .int .i64 ln, .int .i64 t.trap, .int .i64 oldv, .int .i64 ((m.changes.length : Int) + 1)] 81 (0, 0)) := by
      rw [← hV4]
      have e1 : V3.heap[W.heap.size]? = some (.cells #[.int .i64 t.o.op, .int .i64 t.o.d, .int .i64 t.o.a, .int .i64 t.o.b, .int .i64 t.o.k, .int .i64 t.number, .int .i64 t.issue, .int .i64 t.read, .int .i64 t.done, .int .i64 m.cycle, .int .i64 x.value, .int .i64 ln, .int .i64 t.trap, .int .i64 x.old, .int .i64 ((m.changes.length : Int) + 1)] 81 (0, 0)) := g3'
      exact (heap_setCell_same _ _ 13 _ _ (.int .i64 oldv) e1).trans rfl
    clear hV4 x0 x1 x10 x11 x13 g3' fX3 fD3
    have hD4 := hR4.lt
    have hX4 : W.heap.size < V4.heap.size := (Array.getElem?_eq_some_iff.1 g4).1
    have fD4 : ∀ j, V4.frozen? ⟨L.D, j, none⟩ = false := fun j => hR4.frozen j
    have x1 : V4.cell? ⟨W.heap.size, 1, none⟩ = some (.int .i64 t.o.d) := by rw [cell_of_row _ _ _ _ _ _ g4]; rfl
    have x10 : V4.cell? ⟨W.heap.size, 10, none⟩ = some (.int .i64 x.value) := by rw [cell_of_row _ _ _ _ _ _ g4]; rfl
    have x11 : V4.cell? ⟨W.heap.size, 11, none⟩ = some (.int .i64 ln) := by rw [cell_of_row _ _ _ _ _ _ g4]; rfl
    have c18' : V4.cell? ⟨L.D, 18, none⟩ = some (.slice (some ⟨M, 0, none⟩) m.mem.length mc) := by rw [hR4.cMv, HMV.out]
    have hme4 := hR4.mem
    rw [HMV.out] at hme4
    have cM' : V4.cell? ⟨M, ln, none⟩ = some (.int .i64 oldv) := by
      rw [World.ownsRow.cellAt hme4 ln (by simpa using hlm), HOLD.out]
      simp [List.getD_eq_getElem?_getD, hlm]
    have fM : V4.frozen? ⟨M, ln, none⟩ = false := World.ownsRow.frozenAt hme4 ln
    have hM4 : M < V4.heap.size := (World.ownsRow.lt hme4 M rfl).2
    clear c18 cM hme4
    have HR4 := hide hR4
    have G4 := hide g4
    clear hR4 g4
    refine wp_region_still_tail 10 (by kernel_rfl) (by kernel_rfl) ?_
    simp only [List.take_succ_cons, List.take_zero, List.drop_succ_cons, List.drop_zero]
    repeat still_step
    refine wpStill_nil ?_
    go_upto_region 9 with fail
    obtain ⟨V5, hV5⟩ : ∃ V5, (V4.setCell ⟨M, ln, none⟩ (.int .i64 x.value)).drew = V5 := ⟨_, rfl⟩
    rw [hV5]
    have hR5 : RAt V5 B L { m with changes := m.changes ++ [ch], mem := m.mem.set ln x.value } g := by rw [← hV5]; exact ((HR4.out.setWord HMV.out x.value).1).drew
    have K5 : Hid (Kb B W V5) := by rw [← hV5]; exact ((K4.out.trans (HR4.out.setWord HMV.out x.value).2)).drew
    have g5 : V5.heap[W.heap.size]? = some (.cells #[.int .i64 t.o.op, .int .i64 t.o.d, .int .i64 t.o.a, .int .i64 t.o.b, .int .i64 t.o.k, .int .i64 t.number, .int .i64 t.issue, .int .i64 t.read, .int .i64 t.done, .int .i64 m.cycle, .int .i64 x.value, .int .i64 ln, .int .i64 t.trap, .int .i64 oldv, .int .i64 ((m.changes.length : Int) + 1)] 81 (0, 0)) := by
      rw [← hV5]
      exact (heap_setCell_other _ _ _ _ n4').trans G4.out
    clear hV5 x1 x10 x11
    have hD5 := hR5.lt
    have hX5 : W.heap.size < V5.heap.size := (Array.getElem?_eq_some_iff.1 g5).1
    have c24 : V5.cell? ⟨L.D, 24, none⟩ = some (.slice (some ⟨G, 0, none⟩) g.length cap) := by rw [hR5.cLv, HLV.out]
    have fG : ∀ j, V5.frozen? ⟨G, j, none⟩ = false := fun j => hR5.gvFrozen HLV.out j
    have hG5 : G < V5.heap.size := Nat.lt_of_lt_of_le hG K5.out.size
    have x0 : V5.cell? ⟨W.heap.size, 0, none⟩ = some (.int .i64 t.o.op) := by rw [cell_of_row _ _ _ _ _ _ g5]; rfl
    have x1 : V5.cell? ⟨W.heap.size, 1, none⟩ = some (.int .i64 t.o.d) := by rw [cell_of_row _ _ _ _ _ _ g5]; rfl
    have x2 : V5.cell? ⟨W.heap.size, 2, none⟩ = some (.int .i64 t.o.a) := by rw [cell_of_row _ _ _ _ _ _ g5]; rfl
    have x3 : V5.cell? ⟨W.heap.size, 3, none⟩ = some (.int .i64 t.o.b) := by rw [cell_of_row _ _ _ _ _ _ g5]; rfl
    have x4 : V5.cell? ⟨W.heap.size, 4, none⟩ = some (.int .i64 t.o.k) := by rw [cell_of_row _ _ _ _ _ _ g5]; rfl
    have x5 : V5.cell? ⟨W.heap.size, 5, none⟩ = some (.int .i64 t.number) := by rw [cell_of_row _ _ _ _ _ _ g5]; rfl
    have x6 : V5.cell? ⟨W.heap.size, 6, none⟩ = some (.int .i64 t.issue) := by rw [cell_of_row _ _ _ _ _ _ g5]; rfl
    have x7 : V5.cell? ⟨W.heap.size, 7, none⟩ = some (.int .i64 t.read) := by rw [cell_of_row _ _ _ _ _ _ g5]; rfl
    have x8 : V5.cell? ⟨W.heap.size, 8, none⟩ = some (.int .i64 t.done) := by rw [cell_of_row _ _ _ _ _ _ g5]; rfl
    have x9 : V5.cell? ⟨W.heap.size, 9, none⟩ = some (.int .i64 m.cycle) := by rw [cell_of_row _ _ _ _ _ _ g5]; rfl
    have x10 : V5.cell? ⟨W.heap.size, 10, none⟩ = some (.int .i64 x.value) := by rw [cell_of_row _ _ _ _ _ _ g5]; rfl
    have x11 : V5.cell? ⟨W.heap.size, 11, none⟩ = some (.int .i64 ln) := by rw [cell_of_row _ _ _ _ _ _ g5]; rfl
    have x12 : V5.cell? ⟨W.heap.size, 12, none⟩ = some (.int .i64 t.trap) := by rw [cell_of_row _ _ _ _ _ _ g5]; rfl
    have x13 : V5.cell? ⟨W.heap.size, 13, none⟩ = some (.int .i64 oldv) := by rw [cell_of_row _ _ _ _ _ _ g5]; rfl
    have x14 : V5.cell? ⟨W.heap.size, 14, none⟩ = some (.int .i64 ((m.changes.length : Int) + 1)) := by rw [cell_of_row _ _ _ _ _ _ g5]; rfl
    have y0 : V5.cell? ⟨G, i * 15, none⟩ = some (.int .i64 t.o.op) := hR5.gv HLV.out HI.out (j := 0) (by omega)
    have y1 : V5.cell? ⟨G, i * 15 + 1, none⟩ = some (.int .i64 t.o.d) := hR5.gv HLV.out HI.out (j := 1) (by omega)
    have y2 : V5.cell? ⟨G, i * 15 + 2, none⟩ = some (.int .i64 t.o.a) := hR5.gv HLV.out HI.out (j := 2) (by omega)
    have y3 : V5.cell? ⟨G, i * 15 + 3, none⟩ = some (.int .i64 t.o.b) := hR5.gv HLV.out HI.out (j := 3) (by omega)
    have y4 : V5.cell? ⟨G, i * 15 + 4, none⟩ = some (.int .i64 t.o.k) := hR5.gv HLV.out HI.out (j := 4) (by omega)
    have y5 : V5.cell? ⟨G, i * 15 + 5, none⟩ = some (.int .i64 t.number) := hR5.gv HLV.out HI.out (j := 5) (by omega)
    have y6 : V5.cell? ⟨G, i * 15 + 6, none⟩ = some (.int .i64 t.issue) := hR5.gv HLV.out HI.out (j := 6) (by omega)
    have y7 : V5.cell? ⟨G, i * 15 + 7, none⟩ = some (.int .i64 t.read) := hR5.gv HLV.out HI.out (j := 7) (by omega)
    have y8 : V5.cell? ⟨G, i * 15 + 8, none⟩ = some (.int .i64 t.done) := hR5.gv HLV.out HI.out (j := 8) (by omega)
    have y9 : V5.cell? ⟨G, i * 15 + 9, none⟩ = some (.int .i64 t.write) := hR5.gv HLV.out HI.out (j := 9) (by omega)
    have y10 : V5.cell? ⟨G, i * 15 + 10, none⟩ = some (.int .i64 x.value) := hR5.gv HLV.out HI.out (j := 10) (by omega)
    have y11 : V5.cell? ⟨G, i * 15 + 11, none⟩ = some (.int .i64 x.loc) := hR5.gv HLV.out HI.out (j := 11) (by omega)
    have y12 : V5.cell? ⟨G, i * 15 + 12, none⟩ = some (.int .i64 t.trap) := hR5.gv HLV.out HI.out (j := 12) (by omega)
    have y13 : V5.cell? ⟨G, i * 15 + 13, none⟩ = some (.int .i64 x.old) := hR5.gv HLV.out HI.out (j := 13) (by omega)
    have y14 : V5.cell? ⟨G, i * 15 + 14, none⟩ = some (.int .i64 x.turn) := hR5.gv HLV.out HI.out (j := 14) (by omega)
    have HR5 := hide hR5
    clear hR5 g5
    refine wp_region_still_tail 7 (by kernel_rfl) (by kernel_rfl) ?_
    simp only [List.take_succ_cons, List.take_zero, List.drop_succ_cons, List.drop_zero]
    repeat still_step
    refine wpStill_nil ?_
    go_wp2_with fail
    go_end0
    obtain ⟨hA, hK⟩ := HR5.out.putGv (y' := wroteX m t x) HLV.out HI.out
    have hW : writeT i t m = { m with changes := m.changes ++ [ch], mem := m.mem.set ln x.value, given := m.given.set i (wroteX m t x).1 } := by
      unfold writeT wroteX
      rw [hch, t1, t2, t3]
      simp [putR, putM, putN, hln]
    have hC : gvC (wroteX m t x) = [.int .i64 t.o.op, .int .i64 t.o.d, .int .i64 t.o.a, .int .i64 t.o.b, .int .i64 t.o.k, .int .i64 t.number, .int .i64 t.issue, .int .i64 t.read, .int .i64 t.done, .int .i64 m.cycle, .int .i64 x.value, .int .i64 ln, .int .i64 t.trap, .int .i64 oldv, .int .i64 ((m.changes.length : Int) + 1)] := by
      unfold wroteX gvC
      simp [t1, t2, oldV, hln, HOLD.out]
    rw [hW]
    rw [hC] at hA hK
    exact ⟨rfl, hA.drew, (K5.out.trans hK).drew⟩
  · obtain ⟨dn, hdn⟩ := Int.eq_ofNat_of_zero_le l0
    have e7 : (t.o.op == 7) = false := by simp [h7]
    have hdn8 : dn < 8 := by omega
    obtain ⟨oldv, holdv⟩ : ∃ v, v = m.regs.getD dn 0 := ⟨_, rfl⟩
    have rg : V3.cell? ⟨L.D, 10 + dn, none⟩ = some (.int .i64 oldv) := by rw [holdv]; exact HR3.out.reg hdn8
    have HOLD := hide holdv
    clear holdv
    have hd8I : (dn : Int) < 8 := by omega
    clear h7 l0 l1
    have g3' : V3.heap[W.heap.size]? = some (.cells #[.int .i64 t.o.op, .int .i64 dn, .int .i64 t.o.a, .int .i64 t.o.b, .int .i64 t.o.k, .int .i64 t.number, .int .i64 t.issue, .int .i64 t.read, .int .i64 t.done, .int .i64 m.cycle, .int .i64 x.value, .int .i64 x.loc, .int .i64 t.trap, .int .i64 x.old, .int .i64 ((m.changes.length : Int) + 1)] 81 (0, 0)) := by rw [G3.out, hdn]
    have x0 : V3.cell? ⟨W.heap.size, 0, none⟩ = some (.int .i64 t.o.op) := by rw [cell_of_row _ _ _ _ _ _ g3']; rfl
    have x1 : V3.cell? ⟨W.heap.size, 1, none⟩ = some (.int .i64 dn) := by rw [cell_of_row _ _ _ _ _ _ g3']; rfl
    have x11 : V3.cell? ⟨W.heap.size, 11, none⟩ = some (.int .i64 x.loc) := by rw [cell_of_row _ _ _ _ _ _ g3']; rfl
    have x10 : V3.cell? ⟨W.heap.size, 10, none⟩ = some (.int .i64 x.value) := by rw [cell_of_row _ _ _ _ _ _ g3']; rfl
    have x13 : V3.cell? ⟨W.heap.size, 13, none⟩ = some (.int .i64 x.old) := by rw [cell_of_row _ _ _ _ _ _ g3']; rfl
    go_upto_region 7 with fail
    refine wp_region_still_tail 10 (by kernel_rfl) (by kernel_rfl) ?_
    simp only [List.take_succ_cons, List.take_zero, List.drop_succ_cons, List.drop_zero]
    repeat still_step
    refine wpStill_nil ?_
    go_upto_region 8 with fail
    obtain ⟨V4, hV4⟩ : ∃ V4, (V3.setCell ⟨W.heap.size, 13, none⟩ (.int .i64 oldv)).drew = V4 := ⟨_, rfl⟩
    rw [hV4]
    have hR4 : RAt V4 B L { m with changes := m.changes ++ [ch] } g := by rw [← hV4]; exact (HR3.out.other HFAR.out _).drew
    have K4 : Hid (Kb B W V4) := by rw [← hV4]; exact (K3.out.setNew (Nat.le_refl _) _).drew
    have g4 : V4.heap[W.heap.size]? = some (.cells #[.int .i64 t.o.op, .int .i64 dn, .int .i64 t.o.a, .int .i64 t.o.b, .int .i64 t.o.k, .int .i64 t.number, .int .i64 t.issue, .int .i64 t.read, .int .i64 t.done, .int .i64 m.cycle, .int .i64 x.value, .int .i64 x.loc, .int .i64 t.trap, .int .i64 oldv, .int .i64 ((m.changes.length : Int) + 1)] 81 (0, 0)) := by
      rw [← hV4]
      have e1 : V3.heap[W.heap.size]? = some (.cells #[.int .i64 t.o.op, .int .i64 dn, .int .i64 t.o.a, .int .i64 t.o.b, .int .i64 t.o.k, .int .i64 t.number, .int .i64 t.issue, .int .i64 t.read, .int .i64 t.done, .int .i64 m.cycle, .int .i64 x.value, .int .i64 x.loc, .int .i64 t.trap, .int .i64 x.old, .int .i64 ((m.changes.length : Int) + 1)] 81 (0, 0)) := g3'
      exact (heap_setCell_same _ _ 13 _ _ (.int .i64 oldv) e1).trans rfl
    clear hV4 x0 x1 x10 x11 x13 g3' fX3 fD3
    have hD4 := hR4.lt
    have hX4 : W.heap.size < V4.heap.size := (Array.getElem?_eq_some_iff.1 g4).1
    have fD4 : ∀ j, V4.frozen? ⟨L.D, j, none⟩ = false := fun j => hR4.frozen j
    have x1 : V4.cell? ⟨W.heap.size, 1, none⟩ = some (.int .i64 dn) := by rw [cell_of_row _ _ _ _ _ _ g4]; rfl
    have x10 : V4.cell? ⟨W.heap.size, 10, none⟩ = some (.int .i64 x.value) := by rw [cell_of_row _ _ _ _ _ _ g4]; rfl
    have x11 : V4.cell? ⟨W.heap.size, 11, none⟩ = some (.int .i64 x.loc) := by rw [cell_of_row _ _ _ _ _ _ g4]; rfl
    have rg' : V4.cell? ⟨L.D, 10 + dn, none⟩ = some (.int .i64 oldv) := by rw [HOLD.out]; exact hR4.reg hdn8
    clear rg
    have HR4 := hide hR4
    have G4 := hide g4
    clear hR4 g4
    refine wp_region_still_tail 10 (by kernel_rfl) (by kernel_rfl) ?_
    simp only [List.take_succ_cons, List.take_zero, List.drop_succ_cons, List.drop_zero]
    repeat still_step
    refine wpStill_nil ?_
    go_upto_region 9 with fail
    obtain ⟨V5, hV5⟩ : ∃ V5, (V4.setCell ⟨L.D, 10 + dn, none⟩ (.int .i64 x.value)).drew = V5 := ⟨_, rfl⟩
    rw [hV5]
    have hR5 : RAt V5 B L { m with changes := m.changes ++ [ch], regs := m.regs.set dn x.value } g := by rw [← hV5]; exact (HR4.out.setReg hdn8 x.value).drew
    have K5 : Hid (Kb B W V5) := by rw [← hV5]; exact ((K4.out.trans (HR4.out.kbD _ _))).drew
    have g5 : V5.heap[W.heap.size]? = some (.cells #[.int .i64 t.o.op, .int .i64 dn, .int .i64 t.o.a, .int .i64 t.o.b, .int .i64 t.o.k, .int .i64 t.number, .int .i64 t.issue, .int .i64 t.read, .int .i64 t.done, .int .i64 m.cycle, .int .i64 x.value, .int .i64 x.loc, .int .i64 t.trap, .int .i64 oldv, .int .i64 ((m.changes.length : Int) + 1)] 81 (0, 0)) := by
      rw [← hV5]
      exact (heap_setCell_other _ _ _ _ n1').trans G4.out
    clear hV5 x1 x10 x11
    have hD5 := hR5.lt
    have hX5 : W.heap.size < V5.heap.size := (Array.getElem?_eq_some_iff.1 g5).1
    have c24 : V5.cell? ⟨L.D, 24, none⟩ = some (.slice (some ⟨G, 0, none⟩) g.length cap) := by rw [hR5.cLv, HLV.out]
    have fG : ∀ j, V5.frozen? ⟨G, j, none⟩ = false := fun j => hR5.gvFrozen HLV.out j
    have hG5 : G < V5.heap.size := Nat.lt_of_lt_of_le hG K5.out.size
    have x0 : V5.cell? ⟨W.heap.size, 0, none⟩ = some (.int .i64 t.o.op) := by rw [cell_of_row _ _ _ _ _ _ g5]; rfl
    have x1 : V5.cell? ⟨W.heap.size, 1, none⟩ = some (.int .i64 dn) := by rw [cell_of_row _ _ _ _ _ _ g5]; rfl
    have x2 : V5.cell? ⟨W.heap.size, 2, none⟩ = some (.int .i64 t.o.a) := by rw [cell_of_row _ _ _ _ _ _ g5]; rfl
    have x3 : V5.cell? ⟨W.heap.size, 3, none⟩ = some (.int .i64 t.o.b) := by rw [cell_of_row _ _ _ _ _ _ g5]; rfl
    have x4 : V5.cell? ⟨W.heap.size, 4, none⟩ = some (.int .i64 t.o.k) := by rw [cell_of_row _ _ _ _ _ _ g5]; rfl
    have x5 : V5.cell? ⟨W.heap.size, 5, none⟩ = some (.int .i64 t.number) := by rw [cell_of_row _ _ _ _ _ _ g5]; rfl
    have x6 : V5.cell? ⟨W.heap.size, 6, none⟩ = some (.int .i64 t.issue) := by rw [cell_of_row _ _ _ _ _ _ g5]; rfl
    have x7 : V5.cell? ⟨W.heap.size, 7, none⟩ = some (.int .i64 t.read) := by rw [cell_of_row _ _ _ _ _ _ g5]; rfl
    have x8 : V5.cell? ⟨W.heap.size, 8, none⟩ = some (.int .i64 t.done) := by rw [cell_of_row _ _ _ _ _ _ g5]; rfl
    have x9 : V5.cell? ⟨W.heap.size, 9, none⟩ = some (.int .i64 m.cycle) := by rw [cell_of_row _ _ _ _ _ _ g5]; rfl
    have x10 : V5.cell? ⟨W.heap.size, 10, none⟩ = some (.int .i64 x.value) := by rw [cell_of_row _ _ _ _ _ _ g5]; rfl
    have x11 : V5.cell? ⟨W.heap.size, 11, none⟩ = some (.int .i64 x.loc) := by rw [cell_of_row _ _ _ _ _ _ g5]; rfl
    have x12 : V5.cell? ⟨W.heap.size, 12, none⟩ = some (.int .i64 t.trap) := by rw [cell_of_row _ _ _ _ _ _ g5]; rfl
    have x13 : V5.cell? ⟨W.heap.size, 13, none⟩ = some (.int .i64 oldv) := by rw [cell_of_row _ _ _ _ _ _ g5]; rfl
    have x14 : V5.cell? ⟨W.heap.size, 14, none⟩ = some (.int .i64 ((m.changes.length : Int) + 1)) := by rw [cell_of_row _ _ _ _ _ _ g5]; rfl
    have y0 : V5.cell? ⟨G, i * 15, none⟩ = some (.int .i64 t.o.op) := hR5.gv HLV.out HI.out (j := 0) (by omega)
    have y1 : V5.cell? ⟨G, i * 15 + 1, none⟩ = some (.int .i64 t.o.d) := hR5.gv HLV.out HI.out (j := 1) (by omega)
    have y2 : V5.cell? ⟨G, i * 15 + 2, none⟩ = some (.int .i64 t.o.a) := hR5.gv HLV.out HI.out (j := 2) (by omega)
    have y3 : V5.cell? ⟨G, i * 15 + 3, none⟩ = some (.int .i64 t.o.b) := hR5.gv HLV.out HI.out (j := 3) (by omega)
    have y4 : V5.cell? ⟨G, i * 15 + 4, none⟩ = some (.int .i64 t.o.k) := hR5.gv HLV.out HI.out (j := 4) (by omega)
    have y5 : V5.cell? ⟨G, i * 15 + 5, none⟩ = some (.int .i64 t.number) := hR5.gv HLV.out HI.out (j := 5) (by omega)
    have y6 : V5.cell? ⟨G, i * 15 + 6, none⟩ = some (.int .i64 t.issue) := hR5.gv HLV.out HI.out (j := 6) (by omega)
    have y7 : V5.cell? ⟨G, i * 15 + 7, none⟩ = some (.int .i64 t.read) := hR5.gv HLV.out HI.out (j := 7) (by omega)
    have y8 : V5.cell? ⟨G, i * 15 + 8, none⟩ = some (.int .i64 t.done) := hR5.gv HLV.out HI.out (j := 8) (by omega)
    have y9 : V5.cell? ⟨G, i * 15 + 9, none⟩ = some (.int .i64 t.write) := hR5.gv HLV.out HI.out (j := 9) (by omega)
    have y10 : V5.cell? ⟨G, i * 15 + 10, none⟩ = some (.int .i64 x.value) := hR5.gv HLV.out HI.out (j := 10) (by omega)
    have y11 : V5.cell? ⟨G, i * 15 + 11, none⟩ = some (.int .i64 x.loc) := hR5.gv HLV.out HI.out (j := 11) (by omega)
    have y12 : V5.cell? ⟨G, i * 15 + 12, none⟩ = some (.int .i64 t.trap) := hR5.gv HLV.out HI.out (j := 12) (by omega)
    have y13 : V5.cell? ⟨G, i * 15 + 13, none⟩ = some (.int .i64 x.old) := hR5.gv HLV.out HI.out (j := 13) (by omega)
    have y14 : V5.cell? ⟨G, i * 15 + 14, none⟩ = some (.int .i64 x.turn) := hR5.gv HLV.out HI.out (j := 14) (by omega)
    have HR5 := hide hR5
    clear hR5 g5
    refine wp_region_still_tail 7 (by kernel_rfl) (by kernel_rfl) ?_
    simp only [List.take_succ_cons, List.take_zero, List.drop_succ_cons, List.drop_zero]
    repeat still_step
    refine wpStill_nil ?_
    go_wp2_with fail
    go_end0
    obtain ⟨hA, hK⟩ := HR5.out.putGv (y' := wroteX m t x) HLV.out HI.out
    have hW : writeT i t m = { m with changes := m.changes ++ [ch], regs := m.regs.set dn x.value, given := m.given.set i (wroteX m t x).1 } := by
      unfold writeT wroteX
      rw [hch, t1, t2, t3]
      simp [putR, putM, putN, hdn]
    have hC : gvC (wroteX m t x) = [.int .i64 t.o.op, .int .i64 dn, .int .i64 t.o.a, .int .i64 t.o.b, .int .i64 t.o.k, .int .i64 t.number, .int .i64 t.issue, .int .i64 t.read, .int .i64 t.done, .int .i64 m.cycle, .int .i64 x.value, .int .i64 x.loc, .int .i64 t.trap, .int .i64 oldv, .int .i64 ((m.changes.length : Int) + 1)] := by
      unfold wroteX gvC
      simp [t1, t2, oldV, hdn, HOLD.out]
    rw [hW]
    rw [hC] at hA hK
    exact ⟨rfl, hA.drew, (K5.out.trans hK).drew⟩

end Go.Proofs.YtmeiogoodbnkkaaGreat

/- The document's turn of the writes: first who may, then the writing. -/
namespace Go.Proofs.YtmeiogoodbnkkaaGreat
open Go.RowKit

def keyW (t : Tk) : Ord × Nat := (t.o, t.read)

theorem toRead_key {g g' : List Tk} (h : g.map keyW = g'.map keyW) (i mask : Nat) : toRead g i mask = toRead g' i mask := by
  have e : ∀ l : List Tk, toRead l i mask = ((l.map keyW).take i).any fun k => decide (k.2 = 0) && meets (rMask k.1) mask := fun l => by
    unfold toRead
    rw [← List.map_take, List.any_map]
    rfl
  rw [e, e, h]

theorem key_set {g : List Tk} {i : Nat} {t t' : Tk} (ht : g[i]? = some t) (hk : keyW t' = keyW t) : (g.set i t').map keyW = g.map keyW := by
  rw [List.map_set, hk]
  refine List.ext_getElem? fun j => ?_
  by_cases e : i = j
  · subst e
    have hi : i < (g.map keyW).length := by have := (List.getElem?_eq_some_iff.1 ht).1; simpa using this
    rw [List.getElem?_set_self hi]
    simp [ht]
  · rw [List.getElem?_set_ne e]

/-- May the order at the place? -/
def mayAt (m : Mc) (i : Nat) : Bool := match m.given[i]? with | some t => mayW m.given m.cycle i t | none => false
/-- Those of the first n that may. -/
def selN (m : Mc) (n : Nat) : List Nat := (List.range n).filter (mayAt m)

def writesSel (s : Int × Mc) (i : Nat) : Int × Mc :=
  match s.2.given[i]? with
  | none => s
  | some t => if t.o.op = 7 then (s.1, writeT i t s.2) else if 0 < s.1 then (s.1 - 1, writeT i t s.2) else s

theorem selN_succ (m : Mc) (n : Nat) : selN m (n + 1) = selN m n ++ (if mayAt m n = true then [n] else []) := by
  unfold selN
  rw [List.range_succ, List.filter_append, List.filter_cons]
  split <;> simp

theorem sel_mem {m : Mc} {n i : Nat} (h : i ∈ selN m n) : i < n ∧ mayAt m i = true := by
  unfold selN at h
  rw [List.mem_filter, List.mem_range] at h
  exact h

theorem sel_at : ∀ (n : Nat) {m : Mc} {j i : Nat}, (selN m n)[j]? = some i → ∀ q ∈ (selN m n).take j, q < i
  | 0, m, j, i, h, q, hq => by simp [selN] at h
  | n + 1, m, j, i, h, q, hq => by
    rw [selN_succ] at h hq
    rcases Nat.lt_or_ge j (selN m n).length with hj | hj
    · rw [List.getElem?_append_left hj] at h
      rw [List.take_append_of_le_length (by omega)] at hq
      exact sel_at n h q hq
    · rw [List.getElem?_append_right hj] at h
      by_cases hm : mayAt m n = true
      · rw [if_pos hm] at h hq
        have hj0 : j = (selN m n).length := by
          rcases Nat.eq_zero_or_pos (j - (selN m n).length) with h0 | h0
          · omega
          · rw [List.getElem?_eq_none (by simp; omega)] at h; cases h
        subst hj0
        have hi : i = n := by simpa using h.symm
        rw [List.take_left'  rfl] at hq
        rw [hi]
        exact (sel_mem hq).1
      · rw [if_neg hm] at h; simp at h

/-- What the writing keeps. -/
structure Sv (m : Mc) (s : Int × Mc) : Prop where
  key : s.2.given.map keyW = m.given.map keyW
  cyc : s.2.cycle = m.cycle
  lo : 0 ≤ s.1

theorem Sv.len {m : Mc} {s : Int × Mc} (h : Sv m s) : s.2.given.length = m.given.length := by
  have := congrArg List.length h.key
  simpa using this

theorem Sv.sel {m : Mc} {s : Int × Mc} (h : Sv m s) (i : Nat) : Sv m (writesSel s i) := by
  unfold writesSel
  split
  · exact h
  · rename_i t ht
    have hk : (writeT i t s.2).given.map keyW = m.given.map keyW := (key_set (t' := { t with write := s.2.cycle }) ht rfl).trans h.key
    split
    · exact ⟨hk, h.cyc, h.lo⟩
    · split
      · exact ⟨hk, h.cyc, by have := h.lo; simp only; omega⟩
      · exact h

theorem Sv.fold {m : Mc} : ∀ (l : List Nat) {s : Int × Mc}, Sv m s → Sv m (l.foldl writesSel s)
  | [], _, h => h
  | i :: l, _, h => Sv.fold l (h.sel i)

theorem sel_keeps {s : Int × Mc} {i j : Nat} (hne : i ≠ j) : (writesSel s i).2.given[j]? = s.2.given[j]? := by
  unfold writesSel
  split
  · rfl
  · split
    · exact List.getElem?_set_ne hne
    · split
      · exact List.getElem?_set_ne hne
      · rfl

theorem fold_keeps {j : Nat} : ∀ (l : List Nat) {s : Int × Mc}, (∀ q ∈ l, q ≠ j) → (l.foldl writesSel s).2.given[j]? = s.2.given[j]?
  | [], _, _ => rfl
  | i :: l, s, h => by
    rw [List.foldl_cons, fold_keeps l (fun q hq => h q (List.mem_cons_of_mem _ hq)), sel_keeps (h i List.mem_cons_self)]

theorem writes_fold {m : Mc} (hb : 0 ≤ m.buses) (h7 : ∀ (i : Nat) (t : Tk), m.given[i]? = some t → mayW m.given m.cycle i t = true → (wMask t.o = 0 ↔ t.o.op = 7)) :
    ∀ n, (List.range n).foldl writesOne (m.buses, m) = (selN m n).foldl writesSel (m.buses, m)
  | 0 => rfl
  | n + 1 => by
    rw [List.range_succ, List.foldl_append, writes_fold hb h7 n, selN_succ, List.foldl_append]
    have hS : Sv m ((selN m n).foldl writesSel (m.buses, m)) := Sv.fold _ ⟨rfl, rfl, hb⟩
    have hG : ((selN m n).foldl writesSel (m.buses, m)).2.given[n]? = m.given[n]? := fold_keeps _ (fun q hq => by have := (sel_mem hq).1; omega)
    generalize (selN m n).foldl writesSel (m.buses, m) = s at *
    simp only [List.foldl_cons, List.foldl_nil]
    unfold mayAt
    cases ht : m.given[n]? with
    | none =>
      rw [ht] at hG
      unfold writesOne
      simp [hG]
    | some t =>
      rw [ht] at hG
      have hmw : mayW s.2.given s.2.cycle n t = mayW m.given m.cycle n t := by
        unfold mayW
        rw [toRead_key hS.key, hS.cyc]
      unfold writesOne
      simp only [hG, hmw]
      by_cases hm : mayW m.given m.cycle n t = true
      case neg => rw [if_neg hm, if_neg hm]; rfl
      case pos =>
        rw [if_pos hm, if_pos hm]
        simp only [List.foldl_cons, List.foldl_nil]
        unfold writesSel
        simp only [hG]
        have := h7 n t ht hm
        by_cases hop : t.o.op = 7
        · rw [if_pos (this.2 hop), if_pos hop]
        · rw [if_neg (fun h => hop (this.1 h)), if_neg hop]
          have := hS.lo
          by_cases h0 : s.1 = 0
          · rw [if_pos h0, if_neg (by omega)]
          · rw [if_neg h0, if_pos (by omega)]

/-- What the board's rows have to do with what was overwritten. -/
structure Gh (m : Mc) (g : List (Tk × Xt)) : Prop where
  rdy : ∀ (i : Nat) (t : Tk) (x : Xt), g[i]? = some (t, x) → t.done ≠ 0 → t.trap = 0 → t.write = 0 → t.o.op ≠ 8 ∧ RdyB m.mem.length t x
  trn : ∀ (i : Nat) (t : Tk) (x : Xt), g[i]? = some (t, x) → (x.turn = 0 ∧ ∀ c ∈ m.changes, c.place ≠ i) ∨
    (∃ c, m.changes[x.turn - 1]? = some c ∧ 1 ≤ x.turn ∧ c.place = i ∧ c.val = x.old ∧ ((t.o.op = 7 ∧ c.tgt = 2 ∧ c.pl = x.loc ∧ 0 ≤ x.loc ∧ x.loc < m.mem.length) ∨ (t.o.op ≠ 7 ∧ c.tgt = 1 ∧ c.pl = t.o.d ∧ 0 ≤ t.o.d ∧ t.o.d < 8)))
  one : ∀ (k : Nat) (c : Ch), m.changes[k]? = some c → ∃ t x, g[c.place]? = some (t, x) ∧ x.turn = k + 1
  trw : ∀ (i : Nat) (t : Tk) (x : Xt), g[i]? = some (t, x) → t.write = 0 → x.turn = 0
  unr : ∀ (i : Nat) (t : Tk) (x : Xt), g[i]? = some (t, x) → t.read = 0 → t.done = 0 ∧ t.write = 0

theorem pair_set {g : List (Tk × Xt)} {i j : Nat} {y t : Tk × Xt} (h : (g.set i y)[j]? = some t) : (j = i ∧ t = y) ∨ (j ≠ i ∧ g[j]? = some t) := by
  by_cases e : i = j
  · subst e
    have hlt : i < g.length := by have := (List.getElem?_eq_some_iff.1 h).1; simpa using this
    rw [List.getElem?_set_self hlt] at h
    cases h
    exact .inl ⟨rfl, rfl⟩
  · rw [List.getElem?_set_ne e] at h
    exact .inr ⟨fun h' => e h'.symm, h⟩

theorem Gh.write {m : Mc} {g : List (Tk × Xt)} (h : Gh m g) (hc : m.cycle ≠ 0) {i : Nat} {t : Tk} {x : Xt} (hi : g[i]? = some (t, x)) (hd : t.done ≠ 0) (hw : t.write = 0) (hr : RdyB m.mem.length t x) : Gh (writeT i t m) (g.set i (wroteX m t x)) := by
  have hml : (writeT i t m).mem.length = m.mem.length := by simp [writeT, putM_len]
  have hit : i < g.length := (List.getElem?_eq_some_iff.1 hi).1
  have hno : ∀ c ∈ m.changes, c.place ≠ i := by
    rcases h.trn i t x hi with ⟨_, h2⟩ | ⟨c, h1, h2, _⟩
    · exact h2
    · have := h.trw i t x hi hw; omega
  refine ⟨fun j s y hy h1 h2 h3 => ?_, fun j s y hy => ?_, fun k c hk => ?_, fun j s y hy h1 => ?_, fun j s y hy h1 => ?_⟩
  · rcases pair_set hy with ⟨_, e⟩ | ⟨_, hy⟩
    · have : s.write = m.cycle := by have := congrArg (fun p => p.1.write) e; exact this
      omega
    · rw [hml]; exact h.rdy j s y hy h1 h2 h3
  · rw [hml]
    rcases pair_set hy with ⟨rfl, e⟩ | ⟨hne, hy⟩
    · right
      refine ⟨⟨j, t.tgt, t.pl, oldV t.tgt t.pl t.val m.regs m.mem m.next⟩, ?_⟩
      have e1 : y = { x with old := oldV t.tgt t.pl t.val m.regs m.mem m.next, turn := m.changes.length + 1 } := congrArg Prod.snd e
      have e2 : s = { t with write := m.cycle } := congrArg Prod.fst e
      subst e1
      subst e2
      refine ⟨?_, by simp, rfl, rfl, ?_⟩
      · show (m.changes ++ [_])[m.changes.length + 1 - 1]? = _
        rw [Nat.add_sub_cancel, List.getElem?_append_right (Nat.le_refl _)]
        simp
      · rcases hr with ⟨a1, a2, a3, a4, a5, a6⟩ | ⟨a1, a2, a3, a4, a5, a6⟩
        · exact .inl ⟨a1, a4, a5, a2, a3⟩
        · exact .inr ⟨a1, a4, a5, a2, a3⟩
    · rcases h.trn j s y hy with ⟨h1, h2⟩ | ⟨c, h1, h2, h3⟩
      · left
        refine ⟨h1, fun c hc' => ?_⟩
        have hc2 : c ∈ m.changes ++ [⟨i, t.tgt, t.pl, oldV t.tgt t.pl t.val m.regs m.mem m.next⟩] := hc'
        rw [List.mem_append] at hc2
        rcases hc2 with hc2 | hc2
        · exact h2 c hc2
        · simp at hc2
          rw [hc2]
          exact fun e => hne e.symm
      · right
        refine ⟨c, ?_, h2, h3⟩
        show (m.changes ++ [_])[y.turn - 1]? = some c
        rw [List.getElem?_append_left (List.getElem?_eq_some_iff.1 h1).1]
        exact h1
  · have hk2 : (m.changes ++ [⟨i, t.tgt, t.pl, oldV t.tgt t.pl t.val m.regs m.mem m.next⟩])[k]? = some c := hk
    rcases append_one hk2 with ⟨hk3, hk4⟩ | ⟨hk3, hk4⟩
    · obtain ⟨s, y, hs, ht⟩ := h.one k c hk4
      have hne : i ≠ c.place := fun e => hno c (List.mem_of_getElem? hk4) e.symm
      exact ⟨s, y, by rw [List.getElem?_set_ne hne]; exact hs, ht⟩
    · subst hk4
      exact ⟨_, _, List.getElem?_set_self hit, by simp only; omega⟩
  · rcases pair_set hy with ⟨_, e⟩ | ⟨_, hy⟩
    · have : s.write = m.cycle := by have := congrArg (fun p => p.1.write) e; exact this
      omega
    · exact h.trw j s y hy h1
  · rcases pair_set hy with ⟨_, e⟩ | ⟨_, hy⟩
    · have : s.read = t.read := by have := congrArg (fun p => p.1.read) e; exact this
      exact absurd (h.unr i t x hi (by omega)).1 hd
    · exact h.unr j s y hy h1

theorem Gh.read {m : Mc} {g : List (Tk × Xt)} (h : Gh m g) (hc : m.cycle ≠ 0) {i : Nat} {t : Tk} {x : Xt} {n : Int} (hi : g[i]? = some (t, x)) (hr : t.read = 0) (ho : isOrd t.o n = true) (h0 : t.o.op ≠ 0) (h8 : t.o.op ≠ 8) {a b : Int} (t' : Tk) (ht' : t'.o = t.o ∧ t'.read = m.cycle ∧ t'.write = t.write ∧ (t'.tgt, t'.pl, t'.val, t'.trap) = wk t.o t.number a b m.mem) {m' : Mc} (hm' : m'.mem = m.mem ∧ m'.changes = m.changes) :
    Gh m' (g.set i (t', { x with value := (eff t.o a b m.mem).2.1, loc := (eff t.o a b m.mem).2.2 })) := by
  obtain ⟨e1, e2, e3, e4⟩ := ht'
  obtain ⟨f1, f2⟩ := hm'
  have hit : i < g.length := (List.getElem?_eq_some_iff.1 hi).1
  have hw0 := (h.unr i t x hi hr).2
  have ht0 := h.trw i t x hi hw0
  have hs := isOrd_spec ho
  refine ⟨fun j s y hy h1 h2 h3 => ?_, fun j s y hy => ?_, fun k c hk => ?_, fun j s y hy h1 => ?_, fun j s y hy h1 => ?_⟩
  · rcases pair_set hy with ⟨_, e⟩ | ⟨_, hy⟩
    · obtain ⟨rfl, rfl⟩ := Prod.mk.inj e
      rw [e1]
      refine ⟨h8, ?_⟩
      rw [f1]
      unfold wk at e4
      rw [if_neg h8] at e4
      by_cases hE : (eff t.o a b m.mem).1 = 0
      · rw [if_pos hE] at e4
        by_cases h7 : t.o.op = 7
        · rw [if_pos h7] at e4
          simp only [Prod.mk.injEq] at e4
          obtain ⟨p1, p2, p3, _⟩ := e4
          have hpl : 0 ≤ (eff t.o a b m.mem).2.2 ∧ (eff t.o a b m.mem).2.2 < m.mem.length := by
            unfold eff at hE ⊢
            simp only [h7] at hE ⊢
            simp at hE ⊢
            split at hE
            · simp at hE
            · rename_i hq
              rw [if_neg hq]
              simp only
              omega
          exact .inl ⟨by rw [e1]; exact h7, hpl.1, hpl.2, p1, p2, p3⟩
        · rw [if_neg h7] at e4
          simp only [Prod.mk.injEq] at e4
          obtain ⟨p1, p2, p3, _⟩ := e4
          exact .inr ⟨by rw [e1]; exact h7, by rw [e1]; omega, by rw [e1]; omega, p1, by rw [e1]; exact p2, p3⟩
      · rw [if_neg hE] at e4
        simp only [Prod.mk.injEq] at e4
        obtain ⟨_, _, _, p4⟩ := e4
        rw [h2] at p4
        exact absurd p4.symm hE
    · rw [f1]; exact h.rdy j s y hy h1 h2 h3
  · rw [f1, f2]
    rcases pair_set hy with ⟨rfl, e⟩ | ⟨_, hy⟩
    · obtain ⟨rfl, rfl⟩ := Prod.mk.inj e
      rcases h.trn j t x hi with h1 | ⟨c, _, h2, _⟩
      · exact .inl h1
      · omega
    · exact h.trn j s y hy
  · rw [f2] at hk
    obtain ⟨s, y, hs', hy⟩ := h.one k c hk
    by_cases e : i = c.place
    · rw [← e] at hs'
      rw [hi] at hs'
      obtain ⟨rfl, rfl⟩ := Prod.mk.inj (Option.some.inj hs')
      omega
    · exact ⟨s, y, by rw [List.getElem?_set_ne e]; exact hs', hy⟩
  · rcases pair_set hy with ⟨_, e⟩ | ⟨_, hy⟩
    · obtain ⟨rfl, rfl⟩ := Prod.mk.inj e
      exact ht0
    · exact h.trw j s y hy h1
  · rcases pair_set hy with ⟨_, e⟩ | ⟨_, hy⟩
    · obtain ⟨rfl, rfl⟩ := Prod.mk.inj e
      omega
    · exact h.unr j s y hy h1

theorem rfold_keeps {j : Nat} : ∀ (l : List Nat) {s : Mc}, (∀ q ∈ l, q ≠ j) → (l.foldl readsOne s).given[j]? = s.given[j]?
  | [], _, _ => rfl
  | i :: l, s, h => by
    rw [List.foldl_cons, rfold_keeps l (fun q hq => h q (List.mem_cons_of_mem _ hq))]
    have hne := h i List.mem_cons_self
    unfold readsOne
    split
    · rfl
    · split
      · exact List.getElem?_set_ne hne
      · rfl

end Go.Proofs.YtmeiogoodbnkkaaGreat

/- The document's turn of the writes: the walk. -/
namespace Go.Proofs.YtmeiogoodbnkkaaGreat
open Go.RowKit

theorem Tryz.infoInt : (Tryz.prog.info? 3).map (fun i => (i.zero, i.size, i.bytes)) = some (some (.int .i64 0), 1, 8) := by kernel_rfl

theorem row_kb {W W' : World} {B b size n : Nat} {v : Value} {xs : List Value} (h : W.ownsRow b 3 size v n xs) (hk : Kb B W W') : W'.ownsRow b 3 size v n xs := by
  refine ⟨h.1, ?_⟩
  rcases h.2 with hn | ⟨g, cap, cur, rfl, hb, hg, rest⟩
  · exact .inl hn
  · exact .inr ⟨g, cap, cur, rfl, hb, hk.block _ _ hg (.inr (by simp [hotB])), rest⟩

def natV (i : Nat) : Value := .int .i64 i

set_option maxRecDepth 100000 in
set_option maxHeartbeats 8000000 in
theorem writesAll_any (W : World) (B : Nat) (L : Lb) (m : Mc) (g : List (Tk × Xt)) (n : Int) (h : RAt W B L m g) (hgh : Gh m g) (hw : Wf n m) (hb0 : 0 ≤ m.buses) (hb1 : m.buses ≤ 1000) (hsm : g.length ≤ 1000) (hcs : m.changes.length ≤ 900000) :
    Calls Tryz.prog 35 #[.pointer (some ⟨L.D, 0, none⟩)] W fun e w' => e = .returned (.tuple #[]) ∧ ∃ g', RAt w' B L (writesM m) g' ∧ Gh (writesM m) g' ∧ Kb B W w' := by
  obtain ⟨i0, hi0, hz0, hz1, hz2⟩ := info_parts Tryz.infoInt
  have HR := hide h
  have HGH := hide hgh
  have HWF := hide hw
  obtain ⟨lp, lc, hlv0⟩ := h.sl
  have HL : Hid (g.length = m.given.length) := h.len
  have H7 : Hid (∀ (i : Nat) (t : Tk), m.given[i]? = some t → mayW m.given m.cycle i t = true → (wMask t.o = 0 ↔ t.o.op = 7)) := by
    intro i t ht hm
    obtain ⟨x, hx⟩ := h.gets ht
    obtain ⟨m1, m2, m3⟩ := mayW_spec hm
    obtain ⟨h8, _⟩ := hgh.rdy i t x hx m1 m2 m3
    have h0 := hw.ops i t ht
    have hs := isOrd_spec (hw.ords i t ht)
    rw [wMask_zero]
    unfold wrD
    rw [decide_eq_false_iff_not]
    omega
  have HFIN : Hid (writesM m = ((selN m g.length).foldl writesSel (m.buses, m)).2) := by
    show writesM m = _
    unfold writesM
    rw [writes_fold hb0 H7.out, HL.out]
  clear h hgh hw
  go_enter Tryz.func35, Tryz.ntmps35
  go_wp2_with fail
  go_loopg [2, 3, 4] g.length (fun gq s2 s3 _ wr => ∃ (k : Nat) (u2 : Value), k ≤ g.length ∧ gq = g.length - k ∧ s3 = .int .i64 k ∧ s2 = u2 ∧ wr.ownsRow W.heap.size 3 1 u2 (selN m k).length ((selN m k).map natV) ∧ Below W.heap.size W wr)
  case atStart => exact ⟨0, _, Nat.zero_le _, rfl, rfl, rfl, ⟨rfl, .inl ⟨rfl, rfl⟩⟩, Below.refl _ _⟩
  case round =>
    obtain ⟨k, uu, hk1, hgk, rfl, hs2, hown, hbr⟩ := hrel
    subst hs2
    rename World => V
    have hR := HR.out.below hbr
    have c24' : V.cell? ⟨L.D, 24, none⟩ = some (.slice lp g.length lc) := by rw [hR.cLv, hlv0]
    have hD := hR.lt
    rcases Nat.lt_or_ge k g.length with hki | hki
    · obtain ⟨⟨t, x⟩, hy⟩ : ∃ y, g[k]? = some y := ⟨_, List.getElem?_eq_getElem (by omega)⟩
      have ht : m.given[k]? = some t := hR.get hy
      have KM : Hid (∀ w', Below V.heap.size V w' → Calls Tryz.prog 51 #[.pointer (some ⟨L.D, 0, none⟩), .int .i64 k] w' fun e w'' => e = .returned (.bool (mayW m.given m.cycle k t)) ∧ Below w'.heap.size w' w'') := fun w' h => rMayWrite_any w' B L m g k t x n (hR.below h) hy (by omega) HWF.out.ords
      have HMA : Hid (mayAt m k = mayW m.given m.cycle k t) := by
        show mayAt m k = _
        unfold mayAt
        rw [ht]
      have hkG : (k : Int) < (g.length : Int) := by omega
      have hrv : Below V.heap.size V V := Below.refl _ _
      have HOWN := hide hown
      have HBR := hide hbr
      have HGK := hide hgk
      clear hown hgk hR ht hy
      generalize mayW m.given m.cycle k t = q at *
      go_upto_region 5 with (go_at_call 51; with_reducible refine (KM.out _ (by with_reducible assumption)).mono ?_; rintro e va ⟨rfl, hbva⟩)
      have HBA : Hid (Below W.heap.size W va) := bThen HBR.out hbva
      have HOA : Hid (va.ownsRow W.heap.size 3 1 u2 (selN m k).length ((selN m k).map natV)) := row_ck HOWN.out (.of_below hbva)
      cases q with
      | false =>
        have HSE : Hid (selN m (k + 1) = selN m k) := by
          show selN m (k + 1) = selN m k
          rw [selN_succ, HMA.out]; simp
        go_wp2_with fail
        have hgk := HGK.out
        go_roundg (g.length - (k + 1))
        case measure => omega
        case rel => exact ⟨k + 1, _, by omega, rfl, by go_num, rfl, by rw [HSE.out]; exact HOA.out, HBA.out⟩
      | true =>
        have HSE : Hid (selN m (k + 1) = selN m k ++ [k]) := by
          show selN m (k + 1) = _
          rw [selN_succ, HMA.out]; simp
        have hsl : (selN m k).length ≤ 1000 := by
          have : (selN m k).length ≤ k := by
            unfold selN
            exact Nat.le_trans (List.length_filter_le _ _) (by simp)
          omega
        have HBW : Hid (W.heap.size ≤ va.heap.size) := HBA.out.size
        go_wp2_with (at_builtin; refine wpList_append_own_at _ rfl (.tmp 20) (.tmp 22) 99 rfl W.heap.size 3 i0 _ 1 8 Tryz.underlying99 hi0 hz0 hz1 hz2 rfl (by omega) u2 (selN m k).length ((selN m k).map natV) rfl (World.ownsRow.alloc HOA.out _) ⟨va.heap.size, 0, none⟩ 1 1 [natV k] rfl rfl (World.news_of_block (heap_alloc_new _ _)) (by intro u hu; simp at hu; subst hu; rfl) (by unfold maxLen; omega) (by omega) (by have := HBW.out; simp; omega) ?_; intro v' w1 hown1 hgrow1 _ _)
        have hgk := HGK.out
        go_roundg (g.length - (k + 1))
        case measure => omega
        case rel =>
          refine ⟨k + 1, _, by omega, rfl, by go_num, rfl, ?_, ?_⟩
          · rw [HSE.out, List.length_append, List.map_append]
            exact hown1
          · have h1 : Below W.heap.size W (va.alloc (.cells #[natV k] 3)) := bSt HBA.out _
            exact h1.grown hgrow1 (by have := HBW.out; simp; omega) (fun q hq => (World.ownsRow.lt HOA.out q hq).1)
    · have hke : k = g.length := by omega
      subst hke
      obtain ⟨S, hS⟩ : ∃ S, selN m g.length = S := ⟨_, rfl⟩
      rw [hS] at hown HFIN
      have c8 : V.cell? ⟨L.D, 8, none⟩ = some (.int .i64 m.buses) := hR.cBuses
      have HOWN := hide hown
      have HBR := hide hbr
      have HRV := hide hR
      have HSS := hide hS
      clear hown hki hgk hR hS
      obtain ⟨up, uc, rfl, hup⟩ : ∃ up uc, u2 = .slice up S.length uc ∧ (∀ (j i : Nat), S[j]? = some i → ∃ U, up = some ⟨U, 0, none⟩ ∧ U < V.heap.size ∧ ∀ W', Kb B V W' → W'.cell? ⟨U, j, none⟩ = some (.int .i64 i)) := by
        rcases HOWN.out.2 with ⟨h1, h2⟩ | ⟨q, cap, cur, h1, h2, h3, h4⟩
        · refine ⟨none, 0, by rw [h1, h2], fun j i hj => ?_⟩
          have := (List.getElem?_eq_some_iff.1 hj).1
          omega
        · refine ⟨some ⟨q, 0, none⟩, cap, h1, fun j i hj => ⟨q, rfl, (Array.getElem?_eq_some_iff.1 h3).1, fun W' hk => ?_⟩⟩
          have ho := row_kb HOWN.out hk
          rw [h1] at ho
          have hjl := (List.getElem?_eq_some_iff.1 hj).1
          rw [World.ownsRow.cellAt ho j (by omega)]
          simp [hj, natV]
      have HUP := hide hup
      clear hup
      obtain ⟨fs, hfs⟩ : ∃ fs : Nat → Int × Mc, fs = fun j => (S.take j).foldl writesSel (m.buses, m) := ⟨_, rfl⟩
      have HF0 : Hid (fs 0 = (m.buses, m)) := by rw [hfs]; rfl
      have HFL : Hid (fs S.length = S.foldl writesSel (m.buses, m)) := by
        show fs S.length = _
        rw [hfs]; simp
      have HFS : Hid (∀ (j i : Nat), S[j]? = some i → fs (j + 1) = writesSel (fs j) i) := fun j i hj => by
        rw [hfs]
        show (S.take (j + 1)).foldl writesSel (m.buses, m) = _
        rw [List.take_add_one, hj, List.foldl_append]
        rfl
      have HFG : Hid (∀ (j i : Nat), S[j]? = some i → ∃ t, m.given[i]? = some t ∧ (fs j).2.given[i]? = some t ∧ mayW m.given m.cycle i t = true) := fun j i hj => by
        have h1 : ∀ q ∈ S.take j, q ≠ i := fun q hq => by
          have := sel_at g.length (m := m) (j := j) (i := i) (by rw [HSS.out]; exact hj) q (by rw [HSS.out]; exact hq)
          omega
        have h2 := sel_mem (m := m) (n := g.length) (i := i) (by rw [HSS.out]; exact List.mem_of_getElem? hj)
        have h3 := h2.2
        unfold mayAt at h3
        cases ht : m.given[i]? with
        | none => rw [ht] at h3; cases h3
        | some t =>
          rw [ht] at h3
          refine ⟨t, rfl, ?_, h3⟩
          rw [hfs]
          show ((S.take j).foldl writesSel (m.buses, m)).2.given[i]? = some t
          rw [fold_keeps _ h1]
          exact ht
      have HFV : Hid (∀ j, Sv m (fs j)) := fun j => by rw [hfs]; exact Sv.fold _ ⟨rfl, rfl, hb0⟩
      have hSl : S.length ≤ 1000 := by
        have : S.length ≤ g.length := by
          rw [← HSS.out]
          unfold selN
          exact Nat.le_trans (List.length_filter_le _ _) (by simp)
        omega
      clear hfs
      go_wp2_with fail
      go_loopg [5, 6] S.length (fun gq s5 s6 wr => ∃ (j : Nat) (gg : List (Tk × Xt)), j ≤ S.length ∧ gq = S.length - j ∧ s6 = .int .i64 j ∧ s5 = .int .i64 (fs j).1 ∧ RAt wr B L (fs j).2 gg ∧ Gh (fs j).2 gg ∧ Kb B V wr ∧ (fs j).1 ≤ 1000 ∧ (fs j).2.changes.length ≤ 900000 + j)
      case atStart =>
        refine ⟨0, g, Nat.zero_le _, rfl, rfl, ?_, ?_, ?_, Kb.refl _ _, ?_, ?_⟩
        · rw [HF0.out]
        · rw [HF0.out]; exact HRV.out
        · rw [HF0.out]; exact HGH.out
        · rw [HF0.out]; exact hb1
        · rw [HF0.out]; exact hcs
      case round =>
        clear c8 c24' hD
        obtain ⟨j, gg, hj1, hgj, rfl, rfl, hRA, hGG, hKB, hbu, hch⟩ := hrel
        rename World => V1
        rcases Nat.lt_or_ge j S.length with hjl | hjl
        · obtain ⟨i, hi⟩ : ∃ i, S[j]? = some i := ⟨_, List.getElem?_eq_getElem hjl⟩
          obtain ⟨t, ht0, ht, hmw⟩ := HFG.out j i hi
          obtain ⟨m1, m2, m3⟩ := mayW_spec hmw
          obtain ⟨x, hx⟩ := hRA.gets ht
          obtain ⟨h8, hrdy⟩ := hGG.rdy i t x hx m1 m2 m3
          obtain ⟨U, rfl, hU, hUc⟩ := HUP.out j i hi
          have huj : V1.cell? ⟨U, j, none⟩ = some (.int .i64 i) := hUc V1 hKB
          have hUk : ∀ w', Kb B V1 w' → w'.cell? ⟨U, j, none⟩ = some (.int .i64 i) := fun w' h => hUc w' (hKB.trans h)
          have hil : i < gg.length := (List.getElem?_eq_some_iff.1 hx).1
          obtain ⟨G, cap, hlv, _, hG⟩ := hRA.row hil
          have c24 : V1.cell? ⟨L.D, 24, none⟩ = some (.slice (some ⟨G, 0, none⟩) gg.length cap) := by rw [hRA.cLv, hlv]
          have c0 : V1.cell? ⟨G, i * 15, none⟩ = some (.int .i64 t.o.op) := hRA.gv hlv hx (j := 0) (by omega)
          have hD := hRA.lt
          have hjI : (j : Int) < (S.length : Int) := by omega
          have hiI : (i : Int) < (gg.length : Int) := by omega
          have hlo := (HFV.out j).lo
          have hcy : (fs j).2.cycle ≠ 0 := by rw [(HFV.out j).cyc]; exact HWF.out.cyc
          have HWR : Hid (∀ w', Below V1.heap.size V1 w' → Calls Tryz.prog 52 #[.pointer (some ⟨L.D, 0, none⟩), .int .i64 i] w' fun e w'' => e = .returned (.tuple #[]) ∧ RAt w'' B L (writeT i t (fs j).2) (gg.set i (wroteX (fs j).2 t x)) ∧ Kb B w' w'') := fun w' h => rWrite_any w' B L (fs j).2 gg i t x (hRA.below h) hx (by omega) hrdy
          have HGN : Hid (Gh (writeT i t (fs j).2) (gg.set i (wroteX (fs j).2 t x))) := hGG.write hcy hx m1 m3 hrdy
          have HSJ : Hid (fs (j + 1) = if t.o.op = 7 then ((fs j).1, writeT i t (fs j).2) else if 0 < (fs j).1 then ((fs j).1 - 1, writeT i t (fs j).2) else fs j) := by
            show fs (j + 1) = _
            rw [HFS.out j i hi]
            unfold writesSel
            rw [ht]
          have HCH : Hid ((writeT i t (fs j).2).changes.length ≤ 900000 + (j + 1)) := by
            show (writeT i t (fs j).2).changes.length ≤ _
            simp [writeT]; omega
          have HRA := hide hRA
          have HGG := hide hGG
          have HKB := hide hKB
          have HGJ := hide hgj
          have HBU := hide hbu
          have HCHO := hide hch
          clear hRA hGG hKB hgj ht ht0 hmw hx h8 hrdy hUc m1 m2 m3 hcy hi
          go_upto_region 11 with fail
          go_quiet (fail)
          rename_i nq
          obtain ⟨V2, hV2⟩ : ∃ V2, V1.drewN nq = V2 := ⟨_, rfl⟩
          have hb2 : Below V1.heap.size V1 V2 := by rw [← hV2]; exact below_drewN (Below.refl _ _) _
          have u2' : V2.cell? ⟨U, j, none⟩ = some (.int .i64 i) := hUk V2 (.of_below hb2)
          have hU2 : U < V2.heap.size := Nat.lt_of_lt_of_le hU (Nat.le_trans HKB.out.size hb2.size)
          rw [hV2]
          clear hV2 huj c24 c0 hUk
          by_cases h7 : t.o.op = 7
          · have e7 : (t.o.op == 7) = true := by simp [h7]
            have HE : Hid (fs (j + 1) = ((fs j).1, writeT i t (fs j).2)) := hide (by rw [HSJ.out, if_pos h7])
            clear h7
            go_wp2_with (go_at_call 52; with_reducible refine (HWR.out _ (by with_reducible assumption)).mono ?_; rintro e V3 ⟨rfl, hR3, hK3⟩)
            have hgj := HGJ.out
            go_roundg (S.length - (j + 1))
            case measure => omega
            case rel =>
              refine ⟨j + 1, _, by omega, rfl, by go_num, by rw [HE.out], by rw [HE.out]; exact hR3, by rw [HE.out]; exact HGN.out, HKB.out.trans ((Kb.of_below hb2).trans hK3), by rw [HE.out]; exact HBU.out, by rw [HE.out]; exact HCH.out⟩
          · have e7 : (t.o.op == 7) = false := by simp [h7]
            by_cases h0 : 0 < (fs j).1
            · have HE : Hid (fs (j + 1) = ((fs j).1 - 1, writeT i t (fs j).2)) := hide (by rw [HSJ.out, if_neg h7, if_pos h0])
              clear h7
              go_wp2_with (go_at_call 52; with_reducible refine (HWR.out _ (by with_reducible assumption)).mono ?_; rintro e V3 ⟨rfl, hR3, hK3⟩)
              have hgj := HGJ.out
              go_roundg (S.length - (j + 1))
              case measure => omega
              case rel =>
                refine ⟨j + 1, _, by omega, rfl, by go_num, by rw [HE.out], by rw [HE.out]; exact hR3, by rw [HE.out]; exact HGN.out, HKB.out.trans ((Kb.of_below hb2).trans hK3), by rw [HE.out]; have := HBU.out; simp only; omega, by rw [HE.out]; exact HCH.out⟩
            · have HE : Hid (fs (j + 1) = fs j) := hide (by rw [HSJ.out, if_neg h7, if_neg h0])
              clear h7
              go_wp2_with fail
              have hgj := HGJ.out
              go_roundg (S.length - (j + 1))
              case measure => omega
              case rel =>
                refine ⟨j + 1, _, by omega, rfl, by go_num, by rw [HE.out], by rw [HE.out]; exact HRA.out.below hb2, by rw [HE.out]; exact HGG.out, HKB.out.trans (Kb.of_below hb2), by rw [HE.out]; exact HBU.out, by rw [HE.out]; have := HCHO.out; omega⟩
        · have hje : j = S.length := by omega
          subst hje
          clear hjl hgj
          go_wp2_with fail
          go_end0
          have e : writesM m = (fs S.length).2 := by rw [HFIN.out, HFL.out]
          rw [e]
          exact ⟨rfl, gg, hRA, hGG, (Kb.of_below HBR.out).trans hKB⟩

end Go.Proofs.YtmeiogoodbnkkaaGreat

/- The document's turn of the reads: the walk. -/
namespace Go.Proofs.YtmeiogoodbnkkaaGreat
open Go.RowKit

/-- The board, and an order in a box. -/
structure Sbx (B : Nat) (L : Lb) (m : Mc) (gg : List (Tk × Xt)) (X : Nat) (t : Tk) (w : World) : Prop where
  ra : RAt w B L m gg
  far : L.Far X
  c0 : w.cell? ⟨X, 0, none⟩ = some (.int .i64 t.o.op)
  c1 : w.cell? ⟨X, 1, none⟩ = some (.int .i64 t.o.d)
  c2 : w.cell? ⟨X, 2, none⟩ = some (.int .i64 t.o.a)
  c3 : w.cell? ⟨X, 3, none⟩ = some (.int .i64 t.o.b)
  c4 : w.cell? ⟨X, 4, none⟩ = some (.int .i64 t.o.k)

theorem Sbx.set {B : Nat} {L : Lb} {m : Mc} {gg : List (Tk × Xt)} {X : Nat} {t : Tk} {w : World} (h : Sbx B L m gg X t w) {k : Nat} (hk : 5 ≤ k) (v : Value) : Sbx B L m gg X t (w.setCell ⟨X, k, none⟩ v) :=
  ⟨h.ra.other h.far v, h.far, (World.cell?_setCell_other _ _ _ _ (off_ne (by omega))).trans h.c0, (World.cell?_setCell_other _ _ _ _ (off_ne (by omega))).trans h.c1, (World.cell?_setCell_other _ _ _ _ (off_ne (by omega))).trans h.c2,
   (World.cell?_setCell_other _ _ _ _ (off_ne (by omega))).trans h.c3, (World.cell?_setCell_other _ _ _ _ (off_ne (by omega))).trans h.c4⟩
theorem Sbx.below {B : Nat} {L : Lb} {m : Mc} {gg : List (Tk × Xt)} {X : Nat} {t : Tk} {w w' : World} (h : Sbx B L m gg X t w) (hb : Below w.heap.size w w') (hX : X < w.heap.size) : Sbx B L m gg X t w' :=
  ⟨h.ra.below hb, h.far, (hb.cell (p := ⟨X, 0, none⟩) hX).trans h.c0, (hb.cell (p := ⟨X, 1, none⟩) hX).trans h.c1, (hb.cell (p := ⟨X, 2, none⟩) hX).trans h.c2, (hb.cell (p := ⟨X, 3, none⟩) hX).trans h.c3, (hb.cell (p := ⟨X, 4, none⟩) hX).trans h.c4⟩

set_option maxRecDepth 100000 in
set_option maxHeartbeats 8000000 in
theorem readsAll_any (W : World) (B : Nat) (L : Lb) (m : Mc) (g : List (Tk × Xt)) (n : Int) (h : RAt W B L m g) (hgh : Gh m g) (hw : Wf n m) (hsm : g.length ≤ 1000) (hiss : ∀ (i : Nat) (t : Tk), m.given[i]? = some t → t.issue ≠ m.cycle) (hl : ∀ j, j < 4 → 0 ≤ m.lat.getD j 0 ∧ m.lat.getD j 0 ≤ 1000) (hcy : m.cycle ≤ 100000) (hB : B ≤ W.heap.size) :
    Calls Tryz.prog 36 #[.pointer (some ⟨L.D, 0, none⟩)] W fun e w' => e = .returned (.tuple #[]) ∧ ∃ g', RAt w' B L (readsM m) g' ∧ Gh (readsM m) g' ∧ Kb B W w' := by
  have HISS := hide hiss
  have HLA := hide hl
  obtain ⟨fs, hfs⟩ : ∃ fs : Nat → Mc, fs = fun j => (List.range j).foldl readsOne m := ⟨_, rfl⟩
  have HF0 : Hid (fs 0 = m) := by rw [hfs]; rfl
  have HLEN : Hid (g.length = m.given.length) := h.len
  have HFIN : Hid (readsM m = fs g.length) := by
    show readsM m = _
    rw [hfs, HLEN.out]; rfl
  have HFS : Hid (∀ j, fs (j + 1) = readsOne (fs j) j) := fun j => by rw [hfs]; show (List.range (j + 1)).foldl readsOne m = _; rw [List.range_succ, rfold_snoc]
  have HFK : Hid (∀ j, (fs j).given[j]? = m.given[j]?) := fun j => by rw [hfs]; exact rfold_keeps _ (fun q hq => by have := List.mem_range.1 hq; omega)
  have HFV : Hid (∀ j, Rk n m (fs j)) := fun j => by rw [hfs]; exact Rk.fold hw _
  have HR := hide h
  have HGH := hide hgh
  clear h hgh hw hfs hiss hl
  go_enter Tryz.func36, Tryz.ntmps36
  go_wp2_with fail
  go_loopg [2] g.length (fun gq s2 wr => ∃ (i : Nat) (gg : List (Tk × Xt)), i ≤ g.length ∧ gq = g.length - i ∧ s2 = .int .i64 i ∧ gg.length = g.length ∧ RAt wr B L (fs i) gg ∧ Gh (fs i) gg ∧ Kb B W wr)
  case atStart =>
    refine ⟨0, g, Nat.zero_le _, rfl, rfl, rfl, ?_, ?_, Kb.refl _ _⟩
    · rw [HF0.out]; exact HR.out
    · rw [HF0.out]; exact HGH.out
  case round =>
    obtain ⟨i, gg, hi1, hgi, rfl, hgl, hRA, hGG, hKB⟩ := hrel
    rename World => V0
    obtain ⟨lp, lc, hlv0⟩ := hRA.sl
    have c24' : V0.cell? ⟨L.D, 24, none⟩ = some (.slice lp gg.length lc) := by rw [hRA.cLv, hlv0]
    have hD := hRA.lt
    rcases Nat.lt_or_ge i g.length with hil | hil
    · obtain ⟨⟨t, x⟩, hx⟩ : ∃ y, gg[i]? = some y := ⟨_, List.getElem?_eq_getElem (by omega)⟩
      have ht : (fs i).given[i]? = some t := hRA.get hx
      have ht0 : m.given[i]? = some t := by rw [← HFK.out i]; exact ht
      obtain ⟨G, cap, hlv, _, hG⟩ := hRA.row (i := i) (by omega)
      rw [hlv0] at hlv
      injection hlv with ea eb ec
      subst ea
      subst ec
      have k0 : V0.cell? ⟨G, i * 15, none⟩ = some (.int .i64 t.o.op) := hRA.gv hlv0 hx (j := 0) (by omega)
      have k1 : V0.cell? ⟨G, i * 15 + 1, none⟩ = some (.int .i64 t.o.d) := hRA.gv hlv0 hx (j := 1) (by omega)
      have k2 : V0.cell? ⟨G, i * 15 + 2, none⟩ = some (.int .i64 t.o.a) := hRA.gv hlv0 hx (j := 2) (by omega)
      have k3 : V0.cell? ⟨G, i * 15 + 3, none⟩ = some (.int .i64 t.o.b) := hRA.gv hlv0 hx (j := 3) (by omega)
      have k4 : V0.cell? ⟨G, i * 15 + 4, none⟩ = some (.int .i64 t.o.k) := hRA.gv hlv0 hx (j := 4) (by omega)
      have k5 : V0.cell? ⟨G, i * 15 + 5, none⟩ = some (.int .i64 t.number) := hRA.gv hlv0 hx (j := 5) (by omega)
      have k6 : V0.cell? ⟨G, i * 15 + 6, none⟩ = some (.int .i64 t.issue) := hRA.gv hlv0 hx (j := 6) (by omega)
      have k7 : V0.cell? ⟨G, i * 15 + 7, none⟩ = some (.int .i64 t.read) := hRA.gv hlv0 hx (j := 7) (by omega)
      have k8 : V0.cell? ⟨G, i * 15 + 8, none⟩ = some (.int .i64 t.done) := hRA.gv hlv0 hx (j := 8) (by omega)
      have k9 : V0.cell? ⟨G, i * 15 + 9, none⟩ = some (.int .i64 t.write) := hRA.gv hlv0 hx (j := 9) (by omega)
      have k10 : V0.cell? ⟨G, i * 15 + 10, none⟩ = some (.int .i64 x.value) := hRA.gv hlv0 hx (j := 10) (by omega)
      have k11 : V0.cell? ⟨G, i * 15 + 11, none⟩ = some (.int .i64 x.loc) := hRA.gv hlv0 hx (j := 11) (by omega)
      have k12 : V0.cell? ⟨G, i * 15 + 12, none⟩ = some (.int .i64 t.trap) := hRA.gv hlv0 hx (j := 12) (by omega)
      have k13 : V0.cell? ⟨G, i * 15 + 13, none⟩ = some (.int .i64 x.old) := hRA.gv hlv0 hx (j := 13) (by omega)
      have k14 : V0.cell? ⟨G, i * 15 + 14, none⟩ = some (.int .i64 x.turn) := hRA.gv hlv0 hx (j := 14) (by omega)
      have hiI : (i : Int) < (gg.length : Int) := by omega
      have HSJ : Hid (fs (i + 1) = if t.read = 0 ∧ toWrite (fs i).given (fs i).cycle i (rMask t.o) = false then readT i t (fs i) else fs i) := hide (by rw [HFS.out i]; unfold readsOne; rw [ht])
      have hwf := (HFV.out i).wf
      have HWF := hide hwf
      have HRA := hide hRA
      have HGG := hide hGG
      have HKB := hide hKB
      have HGI := hide hgi
      have HX := hide hx
      have HT := hide ht
      have HT0 := hide ht0
      have HLV := hide hlv0
      have HGL := hide hgl
      clear hRA hGG hKB hgi hx ht ht0 hlv0 hwf
      go_upto_region 4 with fail
      clear c24' k0 k1 k2 k3 k4 k5 k6 k7 k8 k9 k10 k11 k12 k13 k14
      obtain ⟨V1, hV1⟩ : ∃ V1, V0.alloc (.cells #[.int .i64 t.o.op, .int .i64 t.o.d, .int .i64 t.o.a, .int .i64 t.o.b, .int .i64 t.o.k, .int .i64 t.number, .int .i64 t.issue, .int .i64 t.read, .int .i64 t.done, .int .i64 t.write, .int .i64 x.value, .int .i64 x.loc, .int .i64 t.trap, .int .i64 x.old, .int .i64 x.turn] 81) = V1 := ⟨_, rfl⟩
      rw [hV1]
      have hb1 : Below V0.heap.size V0 V1 := by rw [← hV1]; exact bSt (Below.refl _ _) _
      have gX : V1.heap[V0.heap.size]? = some (.cells #[.int .i64 t.o.op, .int .i64 t.o.d, .int .i64 t.o.a, .int .i64 t.o.b, .int .i64 t.o.k, .int .i64 t.number, .int .i64 t.issue, .int .i64 t.read, .int .i64 t.done, .int .i64 t.write, .int .i64 x.value, .int .i64 x.loc, .int .i64 t.trap, .int .i64 x.old, .int .i64 x.turn] 81 (0, 0)) := by rw [← hV1]; exact heap_alloc_new _ _
      have hlX : V0.heap.size < V1.heap.size := (Array.getElem?_eq_some_iff.1 gX).1
      clear hV1
      have hR1 := HRA.out.below hb1
      have HR1 := hide hR1
      have HB1 := hide hb1
      have HFAR : Hid (L.Far V0.heap.size) := HRA.out.far (Nat.le_refl _)
      have hD1 := hR1.lt
      have hG1 : G < V1.heap.size := Nat.lt_of_lt_of_le hG hb1.size
      have c23 : V1.cell? ⟨L.D, 23, none⟩ = some (.int .i64 (fs i).cycle) := hR1.cCycle
      have GX := hide gX
      have z6 : V1.cell? ⟨V0.heap.size, 6, none⟩ = some (.int .i64 t.issue) := by rw [cell_of_row _ _ _ _ _ _ gX]; rfl
      have z7 : V1.cell? ⟨V0.heap.size, 7, none⟩ = some (.int .i64 t.read) := by rw [cell_of_row _ _ _ _ _ _ gX]; rfl
      clear gX hR1 hb1
      cases e1 : ((t.read : Int) == 0) with
      | false =>
        have e1' : ((t.read : Int) != 0) = true := by rw [bne, e1]; rfl
        have HE : Hid (fs (i + 1) = fs i) := hide (by rw [HSJ.out, if_neg (fun h => by have := h.1; rw [this] at e1; simp at e1)])
        clear e1
        go_quiet (fail)
        go_wp2_with fail
        have hgi := HGI.out
        go_roundg (g.length - (i + 1))
        case measure => omega
        case rel => exact ⟨i + 1, gg, by omega, rfl, by go_num, HGL.out, by rw [HE.out]; exact HR1.out.below (below_drewN (Below.refl _ _) _), by rw [HE.out]; exact HGG.out, HKB.out.trans ((Kb.of_below HB1.out).trans (Kb.of_below (below_drewN (Below.refl _ _) _)))⟩
      | true =>
        have e1' : ((t.read : Int) != 0) = false := by rw [bne, e1]; rfl
        have e2 : ((t.issue : Int) == ((fs i).cycle : Int)) = false := by
          have h1 := HISS.out i t HT0.out
          rw [← (HFV.out i).cyc] at h1
          simp; omega
        have HR0 : Hid (t.read = 0) := by have := e1; simp at this; exact this
        have h8 : t.o.op ≠ 8 := HWF.out.jmp i t HT.out HR0.out
        have h0 : t.o.op ≠ 0 := HWF.out.ops i t HT.out
        have hord := HWF.out.ords i t HT.out
        have HTW : Hid (toWrite (fs i).given (fs i).cycle i (rMask t.o) = ((rdA t.o.op && awB (fs i).given (fs i).cycle i t.o.a) || (rdB t.o.op && awB (fs i).given (fs i).cycle i t.o.b))) := toWrite_r HWF.out.ords _ _ hord
        have KA : Hid (∀ W, Calls Tryz.prog 53 #[.agg #[.int .i64 t.o.op, .int .i64 t.o.d, .int .i64 t.o.a, .int .i64 t.o.b, .int .i64 t.o.k]] W fun e w' => e = .returned (.bool (rdA t.o.op)) ∧ Below W.heap.size W w') := fun W => readsA_any _ _ _ _ _ W
        have KB : Hid (∀ W, Calls Tryz.prog 55 #[.agg #[.int .i64 t.o.op, .int .i64 t.o.d, .int .i64 t.o.a, .int .i64 t.o.b, .int .i64 t.o.k]] W fun e w' => e = .returned (.bool (rdB t.o.op)) ∧ Below W.heap.size W w') := fun W => readsB_any _ _ _ _ _ W
        have AW : Hid (∀ w' r, Below V1.heap.size V1 w' → Calls Tryz.prog 54 #[.pointer (some ⟨L.D, 0, none⟩), .int .i64 i, .int .i64 r] w' fun e w'' => e = .returned (.bool (awB (fs i).given (fs i).cycle i r)) ∧ Below w'.heap.size w' w'') := fun w' r h => awaited_any w' B L (fs i) gg i r (HR1.out.below h) (by have := HGL.out; omega) (by have := HGL.out; omega)
        have HH8 := hide h8
        have HH0 := hide h0
        have HORD := hide hord
        clear h8 h0 hord
        go_quiet (fail)
        rename_i nq
        obtain ⟨V2, hV2⟩ : ∃ V2, V1.drewN nq = V2 := ⟨_, rfl⟩
        have hb2 : Below V1.heap.size V1 V2 := by rw [← hV2]; exact below_drewN (Below.refl _ _) _
        rw [hV2]
        clear hV2 z6 z7 c23 e1 e1' e2
        have x0 : ∀ w', Below V1.heap.size V1 w' → w'.cell? ⟨V0.heap.size, 0, none⟩ = some (.int .i64 t.o.op) := fun w' h => by rw [h.cell (p := ⟨V0.heap.size, 0, none⟩) hlX, cell_of_row _ _ _ _ _ _ GX.out]; rfl
        have x1 : ∀ w', Below V1.heap.size V1 w' → w'.cell? ⟨V0.heap.size, 1, none⟩ = some (.int .i64 t.o.d) := fun w' h => by rw [h.cell (p := ⟨V0.heap.size, 1, none⟩) hlX, cell_of_row _ _ _ _ _ _ GX.out]; rfl
        have x2 : ∀ w', Below V1.heap.size V1 w' → w'.cell? ⟨V0.heap.size, 2, none⟩ = some (.int .i64 t.o.a) := fun w' h => by rw [h.cell (p := ⟨V0.heap.size, 2, none⟩) hlX, cell_of_row _ _ _ _ _ _ GX.out]; rfl
        have x3 : ∀ w', Below V1.heap.size V1 w' → w'.cell? ⟨V0.heap.size, 3, none⟩ = some (.int .i64 t.o.b) := fun w' h => by rw [h.cell (p := ⟨V0.heap.size, 3, none⟩) hlX, cell_of_row _ _ _ _ _ _ GX.out]; rfl
        have x4 : ∀ w', Below V1.heap.size V1 w' → w'.cell? ⟨V0.heap.size, 4, none⟩ = some (.int .i64 t.o.k) := fun w' h => by rw [h.cell (p := ⟨V0.heap.size, 4, none⟩) hlX, cell_of_row _ _ _ _ _ _ GX.out]; rfl
        generalize ha : rdA t.o.op = qa at *
        generalize hwa : awB (fs i).given (fs i).cycle i t.o.a = awa at *
        have AWa : Hid (∀ w', Below V1.heap.size V1 w' → Calls Tryz.prog 54 #[.pointer (some ⟨L.D, 0, none⟩), .int .i64 i, .int .i64 t.o.a] w' fun e w'' => e = .returned (.bool awa) ∧ Below w'.heap.size w' w'') := fun w' h => by rw [← hwa]; exact AW.out w' _ h
        go_upto_region 5 with fail
        go_cut [4] from 6 to 124 (fun sx wx => sx = .bool (qa && awa) ∧ Below V1.heap.size V1 wx)
        case first =>
          have hXa : V0.heap.size < V2.heap.size := Nat.lt_of_lt_of_le hlX hb2.size
          cases qa with
          | false =>
            go_wp2_with (go_at_call 53; with_reducible refine (KA.out _).mono ?_; rintro e va ⟨rfl, hbva⟩; have hBva : Below V1.heap.size V1 va := (bThen hb2 hbva); have hXva : V0.heap.size < va.heap.size := (Nat.lt_of_lt_of_le hlX hBva.size))
            go_meet
            exact ⟨by simp, hBva⟩
          | true =>
            go_wp2_with (first | (go_at_call 53; with_reducible refine (KA.out _).mono ?_; rintro e va ⟨rfl, hbva⟩; have hBva : Below V1.heap.size V1 va := (bThen hb2 hbva); have hXva : V0.heap.size < va.heap.size := (Nat.lt_of_lt_of_le hlX hBva.size)) | (go_at_call 54; with_reducible refine (AWa.out _ (by with_reducible assumption)).mono ?_; rintro e vb ⟨rfl, hbvb⟩; have hBvb : Below V1.heap.size V1 vb := (bThen hBva hbvb)))
            go_meet
            exact ⟨by simp, hBvb⟩
        case rest =>
        obtain ⟨rfl, hb3⟩ := hcut
        rename World => V3
        generalize hb : rdB t.o.op = qb at *
        generalize hwb : awB (fs i).given (fs i).cycle i t.o.b = awb at *
        have AWb : Hid (∀ w', Below V1.heap.size V1 w' → Calls Tryz.prog 54 #[.pointer (some ⟨L.D, 0, none⟩), .int .i64 i, .int .i64 t.o.b] w' fun e w'' => e = .returned (.bool awb) ∧ Below w'.heap.size w' w'') := fun w' h => by rw [← hwb]; exact AW.out w' _ h
        go_upto_region 6 with fail
        go_cut [5] from 6 to 124 (fun sx wx => sx = .bool (qb && awb) ∧ Below V1.heap.size V1 wx)
        case first =>
          have hXb : V0.heap.size < V3.heap.size := Nat.lt_of_lt_of_le hlX hb3.size
          cases qb with
          | false =>
            go_wp2_with (go_at_call 55; with_reducible refine (KB.out _).mono ?_; rintro e va ⟨rfl, hbva⟩; have hBva : Below V1.heap.size V1 va := (bThen hb3 hbva); have hXva : V0.heap.size < va.heap.size := (Nat.lt_of_lt_of_le hlX hBva.size))
            go_meet
            exact ⟨by simp, hBva⟩
          | true =>
            go_wp2_with (first | (go_at_call 55; with_reducible refine (KB.out _).mono ?_; rintro e va ⟨rfl, hbva⟩; have hBva : Below V1.heap.size V1 va := (bThen hb3 hbva); have hXva : V0.heap.size < va.heap.size := (Nat.lt_of_lt_of_le hlX hBva.size)) | (go_at_call 54; with_reducible refine (AWb.out _ (by with_reducible assumption)).mono ?_; rintro e vb ⟨rfl, hbvb⟩; have hBvb : Below V1.heap.size V1 vb := (bThen hBva hbvb)))
            go_meet
            exact ⟨by simp, hBvb⟩
        case rest =>
        obtain ⟨rfl, hb4⟩ := hcut
        rename World => V4
        generalize hza : (qa && awa) = za at *
        generalize hzb : (qb && awb) = zb at *
        cases za with
        | true =>
          have HE : Hid (fs (i + 1) = fs i) := hide (by rw [HSJ.out, if_neg (fun h => by have := h.2; rw [HTW.out] at this; simp at this)])
          go_wp2_with fail
          have hgi := HGI.out
          go_roundg (g.length - (i + 1))
          case measure => omega
          case rel => exact ⟨i + 1, gg, by omega, rfl, by go_num, HGL.out, by rw [HE.out]; exact HR1.out.below hb4, by rw [HE.out]; exact HGG.out, HKB.out.trans ((Kb.of_below HB1.out).trans (Kb.of_below hb4))⟩
        | false =>
        cases zb with
        | true =>
          have HE : Hid (fs (i + 1) = fs i) := hide (by rw [HSJ.out, if_neg (fun h => by have := h.2; rw [HTW.out] at this; simp at this)])
          go_wp2_with fail
          have hgi := HGI.out
          go_roundg (g.length - (i + 1))
          case measure => omega
          case rel => exact ⟨i + 1, gg, by omega, rfl, by go_num, HGL.out, by rw [HE.out]; exact HR1.out.below hb4, by rw [HE.out]; exact HGG.out, HKB.out.trans ((Kb.of_below HB1.out).trans (Kb.of_below hb4))⟩
        | false =>
        have HE : Hid (fs (i + 1) = readT i t (fs i)) := hide (by rw [HSJ.out, if_pos ⟨HR0.out, by rw [HTW.out]; rfl⟩])
        clear HSJ HTW AW AWa AWb KA KB x0 x1 x2 x3 x4
        obtain ⟨k0, k4⟩ := kind_range HORD.out HH0.out HH8.out
        obtain ⟨kn, hkn⟩ := Int.eq_ofNat_of_zero_le k0
        have hkn4 : kn < 4 := by omega
        obtain ⟨la, hla⟩ : ∃ la, la = (fs i).lat.getD kn 0 := ⟨_, rfl⟩
        have hlb : 0 ≤ la ∧ la ≤ 1000 := by rw [hla, (HFV.out i).lat]; exact HLA.out kn hkn4
        obtain ⟨cy, hcyy⟩ : ∃ cy, cy = (fs i).cycle := ⟨_, rfl⟩
        have hcy2 : cy ≤ 100000 := by rw [hcyy, (HFV.out i).cyc]; exact hcy
        obtain ⟨l0, l1⟩ := hlb
        have hR4 := HR1.out.below hb4
        have g4 : V4.heap[V0.heap.size]? = some (.cells #[.int .i64 t.o.op, .int .i64 t.o.d, .int .i64 t.o.a, .int .i64 t.o.b, .int .i64 t.o.k, .int .i64 t.number, .int .i64 t.issue, .int .i64 t.read, .int .i64 t.done, .int .i64 t.write, .int .i64 x.value, .int .i64 x.loc, .int .i64 t.trap, .int .i64 x.old, .int .i64 x.turn] 81 (0, 0)) := by rw [hb4.block _ hlX]; exact GX.out
        have HK4 : Hid (Kb B W V4) := HKB.out.trans ((Kb.of_below HB1.out).trans (Kb.of_below hb4))
        have c23 : V4.cell? ⟨L.D, 23, none⟩ = some (.int .i64 cy) := by rw [hcyy]; exact hR4.cCycle
        have x7 : V4.cell? ⟨V0.heap.size, 7, none⟩ = some (.int .i64 t.read) := by rw [cell_of_row _ _ _ _ _ _ g4]; rfl
        have f7 : ∀ j, V4.frozen? ⟨V0.heap.size, j, none⟩ = false := fun j => frozen_of_row _ _ _ _ _ g4
        have hD4 := hR4.lt
        have hX4 : V0.heap.size < V4.heap.size := (Array.getElem?_eq_some_iff.1 g4).1
        have HR4 := hide hR4
        have G4 := hide g4
        have HLA2 := hide hla
        have HCY := hide hcyy
        have HKN := hide hkn
        clear hR4 g4 hla hcyy hkn k0 k4
        go_upto_region 9 with fail
        obtain ⟨V5, hV5⟩ : ∃ V5, V4.setCell ⟨V0.heap.size, 7, none⟩ (.int .i64 cy) = V5 := ⟨_, rfl⟩
        rw [hV5]
        have hR5 : RAt V5 B L (fs i) gg := by rw [← hV5]; exact HR4.out.other HFAR.out _
        have g5 : V5.heap[V0.heap.size]? = some (.cells #[.int .i64 t.o.op, .int .i64 t.o.d, .int .i64 t.o.a, .int .i64 t.o.b, .int .i64 t.o.k, .int .i64 t.number, .int .i64 t.issue, .int .i64 cy, .int .i64 t.done, .int .i64 t.write, .int .i64 x.value, .int .i64 x.loc, .int .i64 t.trap, .int .i64 x.old, .int .i64 x.turn] 81 (0, 0)) := by rw [← hV5]; exact (heap_setCell_same _ _ 7 _ _ (.int .i64 cy) G4.out).trans rfl
        have hBX : B ≤ V0.heap.size := Nat.le_trans hB HKB.out.size
        have HK5 : Hid (Kb B W V5) := by rw [← hV5]; exact HK4.out.set G4.out (by simp [hotB]) hBX _
        clear hV5 c23 x7 f7
        have hD5 := hR5.lt
        have hX5 : V0.heap.size < V5.heap.size := (Array.getElem?_eq_some_iff.1 g5).1
        have c23 : V5.cell? ⟨L.D, 23, none⟩ = some (.int .i64 cy) := by rw [HCY.out]; exact hR5.cCycle
        have cl : V5.cell? ⟨L.D, 4 + kn, none⟩ = some (.int .i64 la) := by rw [HLA2.out]; exact hR5.cLat hkn4
        have f8 : ∀ j, V5.frozen? ⟨V0.heap.size, j, none⟩ = false := fun j => frozen_of_row _ _ _ _ _ g5
        have x0 : V5.cell? ⟨V0.heap.size, 0, none⟩ = some (.int .i64 t.o.op) := by rw [cell_of_row _ _ _ _ _ _ g5]; rfl
        have x8 : V5.cell? ⟨V0.heap.size, 8, none⟩ = some (.int .i64 t.done) := by rw [cell_of_row _ _ _ _ _ _ g5]; rfl
        have KI : Hid (∀ w', Calls Tryz.prog 56 #[.int .i64 t.o.op] w' fun e w'' => e = .returned (.int .i64 kn) ∧ w'' = w') := fun w' => by rw [← HKN.out]; exact Kind_any _ w'
        have hk4I : (kn : Int) < 4 := by omega
        have HR5 := hide hR5
        have G5 := hide g5
        clear hR5 g5
        refine wp_region_still_tail 17 (by kernel_rfl) (by kernel_rfl) ?_
        simp only [List.take_succ_cons, List.take_zero, List.drop_succ_cons, List.drop_zero]
        repeat still_step
        still_call (KI.out _)
        repeat still_step
        refine wpStill_nil ?_
        go_upto_region 10 with fail
        obtain ⟨V6, hV6⟩ : ∃ V6, (V5.setCell ⟨V0.heap.size, 8, none⟩ (.int .i64 ((cy : Int) + la))).drew = V6 := ⟨_, rfl⟩
        rw [hV6]
        have hR6 : RAt V6 B L (fs i) gg := by rw [← hV6]; exact (HR5.out.other HFAR.out _).drew
        have g6 : V6.heap[V0.heap.size]? = some (.cells #[.int .i64 t.o.op, .int .i64 t.o.d, .int .i64 t.o.a, .int .i64 t.o.b, .int .i64 t.o.k, .int .i64 t.number, .int .i64 t.issue, .int .i64 cy, .int .i64 ((cy : Int) + la), .int .i64 t.write, .int .i64 x.value, .int .i64 x.loc, .int .i64 t.trap, .int .i64 x.old, .int .i64 x.turn] 81 (0, 0)) := by rw [← hV6]; exact (heap_setCell_same _ _ 8 _ _ (.int .i64 ((cy : Int) + la)) G5.out).trans rfl
        have HK6 : Hid (Kb B W V6) := by rw [← hV6]; exact (HK5.out.set G5.out (by simp [hotB]) hBX _).drew
        clear hV6 c23 cl f8 x0 x8 KI
        have hX6 : V0.heap.size < V6.heap.size := (Array.getElem?_eq_some_iff.1 g6).1
        obtain ⟨o0, o8, dd0, dd7, a0, a7, b0, b7, _⟩ := isOrd_spec HORD.out
        obtain ⟨ra, hra⟩ := Int.eq_ofNat_of_zero_le a0
        obtain ⟨rb, hrb⟩ := Int.eq_ofNat_of_zero_le b0
        have ra8 : ra < 8 := by omega
        have rb8 : rb < 8 := by omega
        have raI : (ra : Int) < 8 := by omega
        have rbI : (rb : Int) < 8 := by omega
        obtain ⟨p, c, hmv, hrd⟩ := hR6.mem.slice
        obtain ⟨xa, hxa⟩ : ∃ x, x = (fs i).regs.getD ra 0 := ⟨_, rfl⟩
        obtain ⟨xb, hxb⟩ : ∃ x, x = (fs i).regs.getD rb 0 := ⟨_, rfl⟩
        obtain ⟨q, hq⟩ : ∃ q, q = eff t.o xa xb (fs i).mem := ⟨_, rfl⟩
        have HEF : Hid (∀ w', Below V6.heap.size V6 w' → Calls Tryz.prog 30 #[.agg #[.int .i64 t.o.op, .int .i64 t.o.d, .int .i64 ra, .int .i64 rb, .int .i64 t.o.k], .int .i64 xa, .int .i64 xb, .slice p (fs i).mem.length c] w' fun e w'' => e = .returned (.tuple #[.int .i64 q.1, .int .i64 q.2.1, .int .i64 q.2.2]) ∧ Below w'.heap.size w' w'') := fun w' hw => by
          have h1 := effect_any t.o.op t.o.d t.o.a t.o.b t.o.k xa xb p c (fs i).mem w' (hrd.below (Nat.le_refl _) hw) (by have := HH0.out; omega) (by have := HH8.out; omega)
          have h2 : (⟨t.o.op, t.o.d, t.o.a, t.o.b, t.o.k⟩ : Ord) = t.o := rfl
          rw [h2, ← hq, hra, hrb] at h1
          exact h1
        have hS6 : Sbx B L (fs i) gg V0.heap.size t V6 := ⟨hR6, HFAR.out, by rw [cell_of_row _ _ _ _ _ _ g6]; rfl, by rw [cell_of_row _ _ _ _ _ _ g6]; rfl, by rw [cell_of_row _ _ _ _ _ _ g6]; rfl, by rw [cell_of_row _ _ _ _ _ _ g6]; rfl, by rw [cell_of_row _ _ _ _ _ _ g6]; rfl⟩
        have HS6 : Hid (Sbx B L (fs i) gg V0.heap.size t V6.drew) := hS6.below (Below.refl _ _).drew hX6
        have HSB : Hid (∀ w', Below V6.heap.size V6 w' → Sbx B L (fs i) gg V0.heap.size t w') := fun w' h => hS6.below h hX6
        have r0 : ∀ w', Sbx B L (fs i) gg V0.heap.size t w' → w'.cell? ⟨V0.heap.size, 0, none⟩ = some (.int .i64 t.o.op) := fun _ h => h.c0
        have r1 : ∀ w', Sbx B L (fs i) gg V0.heap.size t w' → w'.cell? ⟨V0.heap.size, 1, none⟩ = some (.int .i64 t.o.d) := fun _ h => h.c1
        have r2 : ∀ w', Sbx B L (fs i) gg V0.heap.size t w' → w'.cell? ⟨V0.heap.size, 2, none⟩ = some (.int .i64 ra) := fun _ h => by rw [← hra]; exact h.c2
        have r3 : ∀ w', Sbx B L (fs i) gg V0.heap.size t w' → w'.cell? ⟨V0.heap.size, 3, none⟩ = some (.int .i64 rb) := fun _ h => by rw [← hrb]; exact h.c3
        have r4 : ∀ w', Sbx B L (fs i) gg V0.heap.size t w' → w'.cell? ⟨V0.heap.size, 4, none⟩ = some (.int .i64 t.o.k) := fun _ h => h.c4
        have ga : ∀ w', Sbx B L (fs i) gg V0.heap.size t w' → w'.cell? ⟨L.D, 10 + ra, none⟩ = some (.int .i64 xa) := fun _ h => by rw [hxa]; exact h.ra.reg ra8
        have gb : ∀ w', Sbx B L (fs i) gg V0.heap.size t w' → w'.cell? ⟨L.D, 10 + rb, none⟩ = some (.int .i64 xb) := fun _ h => by rw [hxb]; exact h.ra.reg rb8
        have gm : ∀ w', Sbx B L (fs i) gg V0.heap.size t w' → w'.cell? ⟨L.D, 18, none⟩ = some (.slice p (fs i).mem.length c) := fun _ h => by rw [h.ra.cMv, hmv]
        have HBD : Hid (Below V6.heap.size V6 V6.drew) := (Below.refl _ _).drew
        have HQ := hide hq
        have HXA := hide hxa
        have HXB := hide hxb
        have HRA' := hide hra
        have HRB' := hide hrb
        have G6 := hide g6
        have HR6 := hide hR6
        have HB46 : Hid (∀ w4, Below V6.heap.size V6 w4 → w4.heap[V0.heap.size]? = some (.cells #[.int .i64 t.o.op, .int .i64 t.o.d, .int .i64 t.o.a, .int .i64 t.o.b, .int .i64 t.o.k, .int .i64 t.number, .int .i64 t.issue, .int .i64 cy, .int .i64 ((cy : Int) + la), .int .i64 t.write, .int .i64 x.value, .int .i64 x.loc, .int .i64 t.trap, .int .i64 x.old, .int .i64 x.turn] 81 (0, 0))) := fun w4 h => by rw [h.block _ hX6]; exact g6
        clear hq hxa hxb hra hrb g6 hR6 hS6 hrd hmv a0 a7 b0 b7 dd0 dd7 o0 o8
        go_cut [] from 6 to 124 (fun wx => ∃ w4, Below V6.heap.size V6 w4 ∧ wx = ((w4.setCell ⟨V0.heap.size, 12, none⟩ (.int .i64 q.1)).setCell ⟨V0.heap.size, 10, none⟩ (.int .i64 q.2.1)).setCell ⟨V0.heap.size, 11, none⟩ (.int .i64 q.2.2))
        case first =>
          go_region_held3 (fun w' => Sbx B L (fs i) gg V0.heap.size t w') (first | with_reducible assumption | exact HS6.out | exact HS4.out | exact Sbx.set HS4.out (by omega) _ | exact Sbx.set (Sbx.set HS4.out (by omega) _) (by omega) _ | exact Sbx.set (Sbx.set (Sbx.set HS4.out (by omega) _) (by omega) _) (by omega) _ | fail) (first | (go_at_call 30; (with_reducible refine (HEF.out _ HBD.out).mono ?_); rintro e w4 ⟨rfl, hb4'⟩; have HB4 : Hid (Below V6.heap.size V6 w4) := (hide (bThen HBD.out hb4')); have HS4 : Hid (Sbx B L (fs i) gg V0.heap.size t w4) := (HSB.out w4 HB4.out); have e10 : w4.cell? ⟨V0.heap.size, 10, none⟩ = some (.int .i64 x.value) := (by rw [cell_of_row _ _ _ _ _ _ (HB46.out w4 HB4.out)]; rfl); have e11 : w4.cell? ⟨V0.heap.size, 11, none⟩ = some (.int .i64 x.loc) := (by rw [cell_of_row _ _ _ _ _ _ (HB46.out w4 HB4.out)]; rfl); have e12 : w4.cell? ⟨V0.heap.size, 12, none⟩ = some (.int .i64 t.trap) := (by rw [cell_of_row _ _ _ _ _ _ (HB46.out w4 HB4.out)]; rfl); have ef : ∀ j, w4.frozen? ⟨V0.heap.size, j, none⟩ = false := (fun j => frozen_of_row _ _ _ _ _ (HB46.out w4 HB4.out)); clear hb4'))
          all_goals go_wp2
          all_goals go_meet
          all_goals exact ⟨w4, HB4.out, rfl⟩
        case rest =>
        rename World => V7
        obtain ⟨w4, hb46, hwx⟩ := hcut
        have hR7 : RAt V7 B L (fs i) gg := by rw [hwx]; exact (((HR6.out.below hb46).other HFAR.out _).other HFAR.out _).other HFAR.out _
        have e12 := heap_setCell_same _ _ 12 _ _ (.int .i64 q.1) (HB46.out w4 hb46)
        have e10 := heap_setCell_same _ _ 10 _ _ (.int .i64 q.2.1) e12
        have g7 : V7.heap[V0.heap.size]? = some (.cells #[.int .i64 t.o.op, .int .i64 t.o.d, .int .i64 t.o.a, .int .i64 t.o.b, .int .i64 t.o.k, .int .i64 t.number, .int .i64 t.issue, .int .i64 cy, .int .i64 ((cy : Int) + la), .int .i64 t.write, .int .i64 q.2.1, .int .i64 q.2.2, .int .i64 q.1, .int .i64 x.old, .int .i64 x.turn] 81 (0, 0)) := by rw [hwx]; exact (heap_setCell_same _ _ 11 _ _ (.int .i64 q.2.2) e10).trans rfl
        have HK7 : Hid (Kb B W V7) := by
          rw [hwx]
          have k1 : Kb B W w4 := HK6.out.trans (Kb.of_below hb46)
          exact ((k1.set (HB46.out w4 hb46) (by simp [hotB]) hBX _).set e12 (by simp [hotB]) hBX _).set e10 (by simp [hotB]) hBX _
        clear e12 e10 hwx r0 r1 r2 r3 r4 ga gb gm
        have hD7 := hR7.lt
        have hX7 : V0.heap.size < V7.heap.size := (Array.getElem?_eq_some_iff.1 g7).1
        have c24 : V7.cell? ⟨L.D, 24, none⟩ = some (.slice (some ⟨G, 0, none⟩) gg.length lc) := by rw [hR7.cLv, HLV.out]
        have fG : ∀ j, V7.frozen? ⟨G, j, none⟩ = false := fun j => hR7.gvFrozen HLV.out j
        have n2 : ¬ G = V0.heap.size := fun e => HFAR.out.l (by rw [HLV.out, e]; rfl)
        have n2' : ¬ V0.heap.size = G := fun e => n2 e.symm
        have hgo : (L.lv).ownBlock = some G := by rw [HLV.out]; rfl
        have hG7 : G < V7.heap.size := (World.ownsRow.lt hR7.giv G hgo).2
        have x0 : V7.cell? ⟨V0.heap.size, 0, none⟩ = some (.int .i64 t.o.op) := by rw [cell_of_row _ _ _ _ _ _ g7]; rfl
        have x1 : V7.cell? ⟨V0.heap.size, 1, none⟩ = some (.int .i64 t.o.d) := by rw [cell_of_row _ _ _ _ _ _ g7]; rfl
        have x2 : V7.cell? ⟨V0.heap.size, 2, none⟩ = some (.int .i64 t.o.a) := by rw [cell_of_row _ _ _ _ _ _ g7]; rfl
        have x3 : V7.cell? ⟨V0.heap.size, 3, none⟩ = some (.int .i64 t.o.b) := by rw [cell_of_row _ _ _ _ _ _ g7]; rfl
        have x4 : V7.cell? ⟨V0.heap.size, 4, none⟩ = some (.int .i64 t.o.k) := by rw [cell_of_row _ _ _ _ _ _ g7]; rfl
        have x5 : V7.cell? ⟨V0.heap.size, 5, none⟩ = some (.int .i64 t.number) := by rw [cell_of_row _ _ _ _ _ _ g7]; rfl
        have x6 : V7.cell? ⟨V0.heap.size, 6, none⟩ = some (.int .i64 t.issue) := by rw [cell_of_row _ _ _ _ _ _ g7]; rfl
        have x7 : V7.cell? ⟨V0.heap.size, 7, none⟩ = some (.int .i64 cy) := by rw [cell_of_row _ _ _ _ _ _ g7]; rfl
        have x8 : V7.cell? ⟨V0.heap.size, 8, none⟩ = some (.int .i64 ((cy : Int) + la)) := by rw [cell_of_row _ _ _ _ _ _ g7]; rfl
        have x9 : V7.cell? ⟨V0.heap.size, 9, none⟩ = some (.int .i64 t.write) := by rw [cell_of_row _ _ _ _ _ _ g7]; rfl
        have x10 : V7.cell? ⟨V0.heap.size, 10, none⟩ = some (.int .i64 q.2.1) := by rw [cell_of_row _ _ _ _ _ _ g7]; rfl
        have x11 : V7.cell? ⟨V0.heap.size, 11, none⟩ = some (.int .i64 q.2.2) := by rw [cell_of_row _ _ _ _ _ _ g7]; rfl
        have x12 : V7.cell? ⟨V0.heap.size, 12, none⟩ = some (.int .i64 q.1) := by rw [cell_of_row _ _ _ _ _ _ g7]; rfl
        have x13 : V7.cell? ⟨V0.heap.size, 13, none⟩ = some (.int .i64 x.old) := by rw [cell_of_row _ _ _ _ _ _ g7]; rfl
        have x14 : V7.cell? ⟨V0.heap.size, 14, none⟩ = some (.int .i64 x.turn) := by rw [cell_of_row _ _ _ _ _ _ g7]; rfl
        have y0 : V7.cell? ⟨G, i * 15, none⟩ = some (.int .i64 t.o.op) := hR7.gv HLV.out HX.out (j := 0) (by omega)
        have y1 : V7.cell? ⟨G, i * 15 + 1, none⟩ = some (.int .i64 t.o.d) := hR7.gv HLV.out HX.out (j := 1) (by omega)
        have y2 : V7.cell? ⟨G, i * 15 + 2, none⟩ = some (.int .i64 t.o.a) := hR7.gv HLV.out HX.out (j := 2) (by omega)
        have y3 : V7.cell? ⟨G, i * 15 + 3, none⟩ = some (.int .i64 t.o.b) := hR7.gv HLV.out HX.out (j := 3) (by omega)
        have y4 : V7.cell? ⟨G, i * 15 + 4, none⟩ = some (.int .i64 t.o.k) := hR7.gv HLV.out HX.out (j := 4) (by omega)
        have y5 : V7.cell? ⟨G, i * 15 + 5, none⟩ = some (.int .i64 t.number) := hR7.gv HLV.out HX.out (j := 5) (by omega)
        have y6 : V7.cell? ⟨G, i * 15 + 6, none⟩ = some (.int .i64 t.issue) := hR7.gv HLV.out HX.out (j := 6) (by omega)
        have y7 : V7.cell? ⟨G, i * 15 + 7, none⟩ = some (.int .i64 t.read) := hR7.gv HLV.out HX.out (j := 7) (by omega)
        have y8 : V7.cell? ⟨G, i * 15 + 8, none⟩ = some (.int .i64 t.done) := hR7.gv HLV.out HX.out (j := 8) (by omega)
        have y9 : V7.cell? ⟨G, i * 15 + 9, none⟩ = some (.int .i64 t.write) := hR7.gv HLV.out HX.out (j := 9) (by omega)
        have y10 : V7.cell? ⟨G, i * 15 + 10, none⟩ = some (.int .i64 x.value) := hR7.gv HLV.out HX.out (j := 10) (by omega)
        have y11 : V7.cell? ⟨G, i * 15 + 11, none⟩ = some (.int .i64 x.loc) := hR7.gv HLV.out HX.out (j := 11) (by omega)
        have y12 : V7.cell? ⟨G, i * 15 + 12, none⟩ = some (.int .i64 t.trap) := hR7.gv HLV.out HX.out (j := 12) (by omega)
        have y13 : V7.cell? ⟨G, i * 15 + 13, none⟩ = some (.int .i64 x.old) := hR7.gv HLV.out HX.out (j := 13) (by omega)
        have y14 : V7.cell? ⟨G, i * 15 + 14, none⟩ = some (.int .i64 x.turn) := hR7.gv HLV.out HX.out (j := 14) (by omega)
        have HR7 := hide hR7
        clear hR7 g7 hgo
        go_upto_region 11 with fail
        refine wp_region_still_tail 7 (by kernel_rfl) (by kernel_rfl) ?_
        simp only [List.take_succ_cons, List.take_zero, List.drop_succ_cons, List.drop_zero]
        repeat still_step
        refine wpStill_nil ?_
        go_wp2_with fail
        obtain ⟨t', ht'⟩ : ∃ t' : Tk, t' = { t with read := cy, done := cy + la.toNat, tgt := (wk t.o t.number xa xb (fs i).mem).1, pl := (wk t.o t.number xa xb (fs i).mem).2.1, val := (wk t.o t.number xa xb (fs i).mem).2.2.1, trap := (wk t.o t.number xa xb (fs i).mem).2.2.2 } := ⟨_, rfl⟩
        have hE2 : fs (i + 1) = { fs i with given := (fs i).given.set i t' } := by
          rw [HE.out, ht']
          unfold readT
          rw [HKN.out, HRA'.out, HRB'.out, Int.toNat_natCast, Int.toNat_natCast, Int.toNat_natCast, ← HXA.out, ← HXB.out, ← HLA2.out, HCY.out]
        have hwk : (wk t.o t.number xa xb (fs i).mem).2.2.2 = q.1 := by
          rw [HQ.out]
          unfold wk
          rw [if_neg HH8.out]
          by_cases hz : (eff t.o xa xb (fs i).mem).1 = 0
          · rw [if_pos hz, hz]
            split <;> rfl
          · rw [if_neg hz]
        have hdn : ((cy + la.toNat : Nat) : Int) = (cy : Int) + la := by omega
        have hC : gvC (t', { x with value := q.2.1, loc := q.2.2 }) = [.int .i64 t.o.op, .int .i64 t.o.d, .int .i64 t.o.a, .int .i64 t.o.b, .int .i64 t.o.k, .int .i64 t.number, .int .i64 t.issue, .int .i64 cy, .int .i64 ((cy : Int) + la), .int .i64 t.write, .int .i64 q.2.1, .int .i64 q.2.2, .int .i64 q.1, .int .i64 x.old, .int .i64 x.turn] := by
          rw [ht']
          unfold gvC
          simp only [hwk, hdn]
        obtain ⟨hA, hK⟩ := HR7.out.putGv (y' := (t', { x with value := q.2.1, loc := q.2.2 })) HLV.out HX.out
        rw [hC] at hA hK
        have hGN : Gh (fs (i + 1)) (gg.set i (t', { x with value := q.2.1, loc := q.2.2 })) := by
          rw [HQ.out]
          refine HGG.out.read HWF.out.cyc HX.out HR0.out HORD.out HH0.out HH8.out (a := xa) (b := xb) t' ?_ ?_
          · rw [ht']; exact ⟨rfl, HCY.out, rfl, rfl⟩
          · rw [hE2]; exact ⟨rfl, rfl⟩
        have hgi := HGI.out
        go_roundg (g.length - (i + 1))
        case measure => omega
        case rel => exact ⟨i + 1, _, by omega, rfl, by go_num, by rw [List.length_set]; exact HGL.out, by rw [hE2]; exact hA.drew, hGN, (HK7.out.trans hK).drew⟩
    · have hie : i = g.length := by omega
      subst hie
      have hnl : ¬ ((g.length : Int) < (gg.length : Int)) := by omega
      clear hil hgi
      go_wp2_with fail
      go_end0
      rw [HFIN.out]
      exact ⟨rfl, gg, hRA, hGG, hKB⟩

end Go.Proofs.YtmeiogoodbnkkaaGreat

/- The traps that show. -/
namespace Go.Proofs.YtmeiogoodbnkkaaGreat
open Go.RowKit

def condI (m : Mc) (i : Nat) : Bool := match m.given[i]? with | none => false | some t => decide (t.trap ≠ 0 ∧ t.done ≤ m.cycle)
def smI (m : Mc) (i : Nat) : Mc := match (List.range i).find? (condI m) with | none => m | some j => if m.shown = true ∧ m.counts < j then m else { m with shown := true, counts := j }

theorem smI_succ (m : Mc) (i : Nat) : smI m (i + 1) = if (condI m i && (decide (shI (smI m i) < 0) || decide ((i : Int) < shI (smI m i)))) = true then { smI m i with shown := true, counts := i } else smI m i := by
  unfold smI
  rw [List.range_succ, List.find?_append]
  cases hf : (List.range i).find? (condI m) with
  | some j =>
    have hj : j < i := by have := List.mem_of_find?_eq_some hf; simpa using this
    simp only [Option.some_or]
    have key : ∀ M : Mc, (0 ≤ shI M ∧ shI M ≤ j) → M = if (condI m i && (decide (shI M < 0) || decide ((i : Int) < shI M))) = true then { M with shown := true, counts := i } else M := fun M hq => by
      rw [if_neg]
      simp
      omega
    refine key _ ?_
    by_cases h : m.shown = true ∧ m.counts < j
    · rw [if_pos h]
      unfold shI
      rw [if_pos h.1]
      omega
    · rw [if_neg h]
      unfold shI
      simp
  | none =>
    simp only [Option.none_or]
    rw [List.find?_cons]
    cases hc : condI m i with
    | false => simp
    | true =>
      simp only [Bool.true_and]
      unfold shI
      cases hs : m.shown with
      | false => simp
      | true =>
        simp only [if_true]
        by_cases h1 : m.counts < i
        · rw [if_pos ⟨trivial, h1⟩, if_neg (by simp; omega)]
        · rw [if_neg (fun h => h1 h.2)]
          by_cases h2 : i < m.counts
          · rw [if_pos (by simp; omega)]
          · have h3 : i = m.counts := by omega
            rw [if_neg (by simp; omega), h3]
            cases m
            simp_all

theorem smI_all {m : Mc} (h : m.shown = true → condI m m.counts = true ∧ m.counts < m.given.length) : smI m m.given.length = showM m := by
  have e : firstShown m.given m.cycle = (List.range m.given.length).find? (condI m) := rfl
  unfold smI showM
  rw [e]
  cases hf : (List.range m.given.length).find? (condI m) with
  | none => rfl
  | some j =>
    simp only
    rw [if_neg]
    rintro ⟨hs, hc⟩
    obtain ⟨h1, h2⟩ := h hs
    have := List.find?_eq_some_iff_append.1 hf
    obtain ⟨_, as', bs, hab, hno⟩ := this
    have hm : m.counts ∈ as' := by
      have hj : (List.range m.given.length)[as'.length]? = some j := by rw [hab]; simp
      have hjl : as'.length = j := by
        have hlt : as'.length < m.given.length := by have := (List.getElem?_eq_some_iff.1 hj).1; simpa using this
        rw [List.getElem?_range hlt] at hj
        simpa using hj
      have h3 : (List.range m.given.length)[m.counts]? = some m.counts := by rw [List.getElem?_range h2]
      rw [hab, List.getElem?_append_left (by omega)] at h3
      exact List.mem_of_getElem? h3
    have := hno _ hm
    simp [h1] at this

theorem smI_keeps (m : Mc) (i : Nat) : (smI m i).given = m.given ∧ (smI m i).cycle = m.cycle := by
  unfold smI
  split
  · exact ⟨rfl, rfl⟩
  · split <;> exact ⟨rfl, rfl⟩

set_option maxRecDepth 100000 in
set_option maxHeartbeats 8000000 in
theorem shows_any (W : World) (B : Nat) (L : Lb) (m : Mc) (g : List (Tk × Xt)) (h : RAt W B L m g) (hsm : g.length ≤ 1000) (hsh : m.shown = true → condI m m.counts = true ∧ m.counts < m.given.length) :
    Calls Tryz.prog 38 #[.pointer (some ⟨L.D, 0, none⟩)] W fun e w' => e = .returned (.tuple #[]) ∧ RAt w' B L (showM m) g ∧ Kb B W w' := by
  obtain ⟨lp, lc, hlv0⟩ := h.sl
  have HR := hide h
  have HFIN : Hid (showM m = smI m g.length) := by
    show showM m = _
    rw [h.len]; exact (smI_all hsh).symm
  clear h hsh
  go_enter Tryz.func38, Tryz.ntmps38
  go_wp2_with fail
  go_loopg [2] g.length (fun gq s2 wr => ∃ i : Nat, i ≤ g.length ∧ gq = g.length - i ∧ s2 = .int .i64 i ∧ RAt wr B L (smI m i) g ∧ Kb B W wr)
  case atStart => exact ⟨0, Nat.zero_le _, rfl, rfl, HR.out, Kb.refl _ _⟩
  case round =>
    obtain ⟨i, hi1, hgi, rfl, hRA, hKB⟩ := hrel
    rename World => V
    have c24' : V.cell? ⟨L.D, 24, none⟩ = some (.slice lp g.length lc) := by rw [hRA.cLv, hlv0]
    have hD := hRA.lt
    rcases Nat.lt_or_ge i g.length with hil | hil
    · obtain ⟨⟨t, x⟩, hx⟩ : ∃ y, g[i]? = some y := ⟨_, List.getElem?_eq_getElem hil⟩
      have ht : m.given[i]? = some t := HR.out.get hx
      obtain ⟨G, cap, hlv, _, hG⟩ := hRA.row (i := i) hil
      rw [hlv0] at hlv
      injection hlv with ea eb ec
      subst ea
      subst ec
      have k8 : V.cell? ⟨G, i * 15 + 8, none⟩ = some (.int .i64 t.done) := hRA.gv hlv0 hx (j := 8) (by omega)
      have k12 : V.cell? ⟨G, i * 15 + 12, none⟩ = some (.int .i64 t.trap) := hRA.gv hlv0 hx (j := 12) (by omega)
      have c23 : V.cell? ⟨L.D, 23, none⟩ = some (.int .i64 m.cycle) := by rw [hRA.cCycle, (smI_keeps m i).2]
      obtain ⟨sI, hsI⟩ : ∃ sI, sI = shI (smI m i) := ⟨_, rfl⟩
      have c26 : V.cell? ⟨L.D, 26, none⟩ = some (.int .i64 sI) := by rw [hRA.cShown, hsI]
      have f26 : V.frozen? ⟨L.D, 26, none⟩ = false := hRA.frozen 26
      have hiI : (i : Int) < (g.length : Int) := by omega
      have HS : Hid (smI m (i + 1) = if ((!(t.trap == 0)) && decide (t.done ≤ m.cycle) && (decide (sI < 0) || decide ((i : Int) < sI))) = true then { smI m i with shown := true, counts := i } else smI m i) := hide (by
        rw [smI_succ, ← hsI]
        have : condI m i = ((!(t.trap == 0)) && decide (t.done ≤ m.cycle)) := by
          unfold condI
          rw [ht]
          rw [Bool.eq_iff_iff]
          simp
        rw [this])
      have HRA := hide hRA
      have HKB := hide hKB
      have HGI := hide hgi
      clear hRA hKB hgi hx ht hsI
      go_upto_region 3 with fail
      have HNO : Hid (((!(t.trap == 0)) && decide (t.done ≤ m.cycle) && (decide (sI < 0) || decide ((i : Int) < sI))) = false → smI m (i + 1) = smI m i) := fun hq => by rw [HS.out, if_neg (by rw [hq]; simp)]
      have HYES : Hid (((!(t.trap == 0)) && decide (t.done ≤ m.cycle) && (decide (sI < 0) || decide ((i : Int) < sI))) = true → smI m (i + 1) = { smI m i with shown := true, counts := i }) := fun hq => by rw [HS.out, if_pos hq]
      clear HS
      cases e1 : (t.trap == 0) with
      | true =>
        have e1' : (t.trap != 0) = false := by rw [bne, e1]; rfl
        go_quiet (fail)
        go_wp2_with fail
        have hE := HNO.out (by rw [e1]; rfl)
        have hgi := HGI.out
        go_roundg (g.length - (i + 1))
        case measure => omega
        case rel => exact ⟨i + 1, by omega, rfl, by go_num, by rw [hE]; exact HRA.out.below (below_drewN (Below.refl _ _) _), HKB.out.trans (Kb.of_below (below_drewN (Below.refl _ _) _))⟩
      | false =>
        have e1' : (t.trap != 0) = true := by rw [bne, e1]; rfl
        cases e2 : decide (t.done ≤ m.cycle) with
        | false =>
          go_quiet (fail)
          go_wp2_with fail
          have hE := HNO.out (by rw [e1, e2]; rfl)
          have hgi := HGI.out
          go_roundg (g.length - (i + 1))
          case measure => omega
          case rel => exact ⟨i + 1, by omega, rfl, by go_num, by rw [hE]; exact HRA.out.below (below_drewN (Below.refl _ _) _), HKB.out.trans (Kb.of_below (below_drewN (Below.refl _ _) _))⟩
        | true =>
          cases e3 : decide (sI < 0) with
          | true =>
            go_quiet (fail)
            go_wp2_with fail
            have hE := HYES.out (by rw [e1, e2, e3]; rfl)
            have hgi := HGI.out
            have hR2 := HRA.out.below (W' := V.drewN nq) (below_drewN (Below.refl _ _) _)
            go_roundg (g.length - (i + 1))
            case measure => omega
            case rel => exact ⟨i + 1, by omega, rfl, by go_num, by rw [hE]; exact hR2.setShown i, HKB.out.trans ((Kb.of_below (below_drewN (Below.refl _ _) _)).trans (hR2.kbD 26 _))⟩
          | false =>
            cases e4 : decide ((i : Int) < sI) with
            | true =>
              go_quiet (fail)
              go_wp2_with fail
              have hE := HYES.out (by rw [e1, e2, e3, e4]; rfl)
              have hgi := HGI.out
              have hR2 := HRA.out.below (W' := V.drewN nq) (below_drewN (Below.refl _ _) _)
              go_roundg (g.length - (i + 1))
              case measure => omega
              case rel => exact ⟨i + 1, by omega, rfl, by go_num, by rw [hE]; exact hR2.setShown i, HKB.out.trans ((Kb.of_below (below_drewN (Below.refl _ _) _)).trans (hR2.kbD 26 _))⟩
            | false =>
              go_quiet (fail)
              go_wp2_with fail
              have hE := HNO.out (by rw [e1, e2, e3, e4]; rfl)
              have hgi := HGI.out
              go_roundg (g.length - (i + 1))
              case measure => omega
              case rel => exact ⟨i + 1, by omega, rfl, by go_num, by rw [hE]; exact HRA.out.below (below_drewN (Below.refl _ _) _), HKB.out.trans (Kb.of_below (below_drewN (Below.refl _ _) _))⟩
    · have hie : i = g.length := by omega
      subst hie
      clear hil hgi
      go_wp2_with fail
      go_end0
      rw [HFIN.out]
      exact ⟨rfl, hRA, hKB⟩

end Go.Proofs.YtmeiogoodbnkkaaGreat

/- The document's turn of giving out. -/
namespace Go.Proofs.YtmeiogoodbnkkaaGreat
open Go.RowKit Go.Sort

theorem bPut {w w' : World} (h : Below w.heap.size w w') {N j : Nat} (hN : w.heap.size ≤ N) (v : Value) : Below w.heap.size w (w'.setCell ⟨N, j, none⟩ v) := h.setCell hN v

theorem sets_box {T : TypeId} {X : Nat} : ∀ (vs : List Value) (W : World) (o : Nat) (zs : List Value), W.heap[X]? = some (.cells zs.toArray T (0, 0)) → (setsFrom W X o vs).heap[X]? = some (.cells (setL zs o vs).toArray T (0, 0))
  | [], W, o, zs, h => h
  | v :: vs, W, o, zs, h => by
    rw [setsFrom, setL]
    refine sets_box vs _ (o + 1) _ ?_
    rw [heap_setCell_same W X o _ _ v h, List.setIfInBounds_toArray]

theorem gv_one (y : Tk × Xt) : ∀ u ∈ gvC y, u.oneCell' = true := by
  intro u hu
  simp [gvC] at hu
  rcases hu with h | h | h | h | h | h | h | h | h | h | h | h | h | h | h <;> subst h <;> rfl
theorem Tryz.infoGv : (Tryz.prog.info? 81).map (fun i => (i.zero, i.size, i.bytes)) = some (some (.agg #[.int .i64 0, .int .i64 0, .int .i64 0, .int .i64 0, .int .i64 0, .int .i64 0, .int .i64 0, .int .i64 0, .int .i64 0, .int .i64 0, .int .i64 0, .int .i64 0, .int .i64 0, .int .i64 0, .int .i64 0]), 15, 120) := by kernel_rfl

theorem newsB (W : World) (l : List Value) (ty : TypeId) : ∀ j u, l[j]? = some u → (W.alloc (.cells l.toArray ty)).drew.cell? ((⟨W.heap.size, 0, none⟩ : Addr).add j) = some u := fun j u hu => by
  rw [addr_add, Nat.zero_add]
  show (W.alloc (.cells l.toArray ty)).cell? _ = _
  rw [cell_of_row _ _ _ _ _ _ (heap_alloc_new W (.cells l.toArray ty))]
  simpa using hu
theorem grown_one {W w1 : World} (A : Obj) {row : Option Nat} (h : (W.alloc A).drew.grownBy w1 row) : W.grownBy w1 row :=
  ⟨h.os, h.tape, h.output, Nat.le_trans (by simp [World.drew]) h.size, fun k hk hne => (h.block k (by simp [World.drew]; omega) hne).trans (Below.heap_alloc _ _ _ hk)⟩

def newJ (o : Ord) (m : Mc) : Tk × Xt := (⟨o, m.next, m.cycle, m.cycle, m.cycle, m.cycle, 0, 0, 0, 0⟩, ⟨0, 0, 0, 0⟩)
def newU (o : Ord) (m : Mc) : Tk × Xt := (⟨o, m.next, m.cycle, 0, 0, 0, 0, 0, 0, 0⟩, ⟨0, 0, 0, 0⟩)

/-- What a new order leaves of the board's rows. -/
theorem Gh.add {m m' : Mc} {g : List (Tk × Xt)} (h : Gh m g) (t : Tk) (hm : m'.mem = m.mem) (hc : m'.changes = m.changes) (hpl : ∀ c ∈ m.changes, c.place < g.length) (hd : t.done ≠ 0 → t.trap = 0 → t.write ≠ 0) (hu : t.read = 0 → t.done = 0 ∧ t.write = 0) : Gh m' (g ++ [(t, ⟨0, 0, 0, 0⟩)]) := by
  refine ⟨fun i s y hy h1 h2 h3 => ?_, fun i s y hy => ?_, fun k c hk => ?_, fun i s y hy h1 => ?_, fun i s y hy h1 => ?_⟩
  · rw [hm]
    rcases append_one hy with ⟨_, hy⟩ | ⟨_, e⟩
    · exact h.rdy i s y hy h1 h2 h3
    · obtain ⟨rfl, rfl⟩ := Prod.mk.inj e
      exact absurd h3 (hd h1 h2)
  · rw [hm, hc]
    rcases append_one hy with ⟨_, hy⟩ | ⟨e', e⟩
    · exact h.trn i s y hy
    · obtain ⟨rfl, rfl⟩ := Prod.mk.inj e
      exact .inl ⟨rfl, fun c hc' => by have := hpl c hc'; omega⟩
  · rw [hc] at hk
    obtain ⟨s, y, hs, hy⟩ := h.one k c hk
    exact ⟨s, y, by rw [List.getElem?_append_left (List.getElem?_eq_some_iff.1 hs).1]; exact hs, hy⟩
  · rcases append_one hy with ⟨_, hy⟩ | ⟨_, e⟩
    · exact h.trw i s y hy h1
    · obtain ⟨rfl, rfl⟩ := Prod.mk.inj e
      rfl
  · rcases append_one hy with ⟨_, hy⟩ | ⟨_, e⟩
    · exact h.unr i s y hy h1
    · obtain ⟨rfl, rfl⟩ := Prod.mk.inj e
      exact hu h1
theorem Gh.places {m : Mc} {g : List (Tk × Xt)} (h : Gh m g) : ∀ c ∈ m.changes, c.place < g.length := fun c hc => by
  obtain ⟨k, hk⟩ := List.getElem?_of_mem hc
  obtain ⟨t, x, h1, _⟩ := h.one k c hk
  exact (List.getElem?_eq_some_iff.1 h1).1
theorem Gh.turn {m m' : Mc} {g : List (Tk × Xt)} (h : Gh m g) (hm : m'.mem.length = m.mem.length) (hc : m'.changes = m.changes) : Gh m' g :=
  ⟨fun i t x hi h1 h2 h3 => by rw [hm]; exact h.rdy i t x hi h1 h2 h3, fun i t x hi => by rw [hm, hc]; exact h.trn i t x hi, fun k c hk => by rw [hc] at hk; exact h.one k c hk, h.trw, h.unr⟩

set_option maxRecDepth 100000 in
set_option maxHeartbeats 8000000 in
theorem rIssue_any (W : World) (B : Nat) (L : Lb) (m : Mc) (g : List (Tk × Xt)) (prog : List Ord) (p : Option Addr) (c : Nat) (h : RAt W B L m g) (hgh : Gh m g) (hpv : L.pv = .slice p prog.length c) (hp : RdO W p prog) (hprog : isProg prog = true) (hords : Ords prog.length m.given) (hsm : g.length ≤ 1000) (hcy0 : m.cycle ≠ 0) (hnx : m.next ≤ 1000) (hB : B ≤ W.heap.size) :
    Calls Tryz.prog 37 #[.pointer (some ⟨L.D, 0, none⟩)] W fun e w' => e = .returned (.tuple #[]) ∧ ∃ lv' g', RAt w' B { L with lv := lv' } (issueM prog m) g' ∧ Gh (issueM prog m) g' ∧ Kb B W w' := by
  have HR := hide h
  have HGH := hide hgh
  have HP := hide hp
  have hD := h.lt
  have c25 : W.cell? ⟨L.D, 25, none⟩ = some (.bool m.ended) := h.cEnded
  have f25 : W.frozen? ⟨L.D, 25, none⟩ = false := h.frozen 25
  have c9 : W.cell? ⟨L.D, 9, none⟩ = some (.slice p prog.length c) := by rw [h.cPv, hpv]
  have c19 : W.cell? ⟨L.D, 19, none⟩ = some (.int .i64 m.next) := h.cNext
  have hnI : (m.next : Int) ≤ 1000 := by omega
  cases hsh : m.shown with
  | true =>
    have c26 : W.cell? ⟨L.D, 26, none⟩ = some (.int .i64 m.counts) := by rw [h.cShown]; unfold shI; rw [hsh]; rfl
    have HE : Hid (issueM prog m = m) := issueM_stop (by rw [hsh]; simp)
    clear h hgh hp hpv hords
    go_enter Tryz.func37, Tryz.ntmps37
    go_wp2_with fail
    refine bodyPost_ret (results_none rfl _ _ _) rfl ?_
    rw [HE.out]
    exact ⟨rfl, L.lv, g, HR.out, HGH.out, Kb.refl _ _⟩
  | false =>
  have c26 : W.cell? ⟨L.D, 26, none⟩ = some (.int .i64 (-1)) := by rw [h.cShown]; unfold shI; rw [hsh]; rfl
  cases hen : m.ended with
  | true =>
    rw [hen] at c25
    have HE : Hid (issueM prog m = m) := issueM_stop (by rw [hen]; simp)
    clear h hgh hp hpv hords
    go_enter Tryz.func37, Tryz.ntmps37
    go_wp2_with fail
    refine bodyPost_ret (results_none rfl _ _ _) rfl ?_
    rw [HE.out]
    exact ⟨rfl, L.lv, g, HR.out, HGH.out, Kb.refl _ _⟩
  | false =>
  rw [hen] at c25
  have HES : Hid ((m.ended || m.shown) = false) := by show (m.ended || m.shown) = false; rw [hen, hsh]; rfl
  rcases Nat.lt_or_ge m.next prog.length with hlt | hge
  case inr =>
    have hgeI : (prog.length : Int) ≤ (m.next : Int) := by omega
    have h0 : (prog.getD m.next Ord.none).op = 0 := by rw [List.getD_eq_getElem?_getD, List.getElem?_eq_none hge]; rfl
    have HE : Hid (issueM prog m = { m with ended := true }) := issueM_end HES.out h0
    clear h hgh hp hpv hords h0 hge
    go_enter Tryz.func37, Tryz.ntmps37
    go_wp2_with fail
    refine bodyPost_ret (results_none rfl _ _ _) rfl ?_
    rw [HE.out]
    exact ⟨rfl, L.lv, g, HR.out.setEnded true, HGH.out.turn rfl rfl, HR.out.kbD _ _⟩
  case inl =>
  obtain ⟨bp, off, hpe, hbp, p0, p1, p2, p3, p4⟩ := hp.at hlt
  subst hpe
  obtain ⟨o, ho⟩ : ∃ o, o = prog.getD m.next Ord.none := ⟨_, rfl⟩
  rw [← ho] at p0 p1 p2 p3 p4
  have hlI : (m.next : Int) < (prog.length : Int) := by omega
  have hord : isOrd o prog.length = true := by rw [ho]; exact (isProg_spec hprog).2 m.next hlt
  have HORD := hide hord
  have HO := hide ho
  by_cases h0 : o.op = 0
  · have e0 : (o.op == 0) = true := by simp [h0]
    have HE : Hid (issueM prog m = { m with ended := true }) := issueM_end HES.out (by rw [← ho]; exact h0)
    clear h hgh hp hpv hords h0 hord ho
    go_enter Tryz.func37, Tryz.ntmps37
    go_wp2_with fail
    refine bodyPost_ret (results_none rfl _ _ _) rfl ?_
    rw [HE.out]
    exact ⟨rfl, L.lv, g, HR.out.setEnded true, HGH.out.turn rfl rfl, HR.out.kbD _ _⟩
  have e0 : (o.op == 0) = false := by simp [h0]
  have H0 := hide h0
  have HORDS := hide hords
  obtain ⟨lp, lc, hlv0⟩ := h.sl
  have HLV := hide hlv0
  clear h hgh hp hpv hords h0 hord ho hlv0
  go_enter Tryz.func37, Tryz.ntmps37
  go_upto_region 4 with fail
  go_upto_region 5 with fail
  obtain ⟨V, hV⟩ : ∃ V, W.alloc (.cells #[.int .i64 o.op, .int .i64 o.d, .int .i64 o.a, .int .i64 o.b, .int .i64 o.k] 40) = V := ⟨_, rfl⟩
  rw [hV]
  have hbV : Below W.heap.size W V := by rw [← hV]; exact bSt (Below.refl _ _) _
  have gO : V.heap[W.heap.size]? = some (.cells #[.int .i64 o.op, .int .i64 o.d, .int .i64 o.a, .int .i64 o.b, .int .i64 o.k] 40 (0, 0)) := by rw [← hV]; exact heap_alloc_new _ _
  have hlO : W.heap.size < V.heap.size := (Array.getElem?_eq_some_iff.1 gO).1
  clear hV c26 c25 f25 c9 c19 p0 p1 p2 p3 p4
  have hRV := HR.out.below hbV
  have HRV := hide hRV
  have HBV := hide hbV
  have hDV := hRV.lt
  have GO := hide gO
  have o0 : ∀ w', Below V.heap.size V w' → w'.cell? ⟨W.heap.size, 0, none⟩ = some (.int .i64 o.op) := fun w' h => by rw [h.cell (p := ⟨W.heap.size, 0, none⟩) hlO, cell_of_row _ _ _ _ _ _ GO.out]; rfl
  have o1 : ∀ w', Below V.heap.size V w' → w'.cell? ⟨W.heap.size, 1, none⟩ = some (.int .i64 o.d) := fun w' h => by rw [h.cell (p := ⟨W.heap.size, 1, none⟩) hlO, cell_of_row _ _ _ _ _ _ GO.out]; rfl
  have o2 : ∀ w', Below V.heap.size V w' → w'.cell? ⟨W.heap.size, 2, none⟩ = some (.int .i64 o.a) := fun w' h => by rw [h.cell (p := ⟨W.heap.size, 2, none⟩) hlO, cell_of_row _ _ _ _ _ _ GO.out]; rfl
  have o3 : ∀ w', Below V.heap.size V w' → w'.cell? ⟨W.heap.size, 3, none⟩ = some (.int .i64 o.b) := fun w' h => by rw [h.cell (p := ⟨W.heap.size, 3, none⟩) hlO, cell_of_row _ _ _ _ _ _ GO.out]; rfl
  have o4 : ∀ w', Below V.heap.size V w' → w'.cell? ⟨W.heap.size, 4, none⟩ = some (.int .i64 o.k) := fun w' h => by rw [h.cell (p := ⟨W.heap.size, 4, none⟩) hlO, cell_of_row _ _ _ _ _ _ GO.out]; rfl
  have c23 : ∀ w', Below V.heap.size V w' → w'.cell? ⟨L.D, 23, none⟩ = some (.int .i64 m.cycle) := fun w' h => (HRV.out.below h).cCycle
  have HS0 : Hid (Below V.heap.size V V.drew) := (Below.refl _ _).drew
  clear gO hRV hbV
  go_cut [4] from 8 to 160 (fun s4 wx => ∃ X, s4 = .pointer (some ⟨X, 0, none⟩) ∧ V.heap.size ≤ X ∧ wx.heap[X]? = some (.cells #[.int .i64 o.op, .int .i64 o.d, .int .i64 o.a, .int .i64 o.b, .int .i64 o.k, .int .i64 m.next, .int .i64 m.cycle, .int .i64 0, .int .i64 0, .int .i64 0, .int .i64 0, .int .i64 0, .int .i64 0, .int .i64 0, .int .i64 0] 81 (0, 0)) ∧ Below V.heap.size V wx)
  case first =>
    go_region_held3 (fun w' => Below V.heap.size V w') (first | with_reducible assumption | with_reducible exact HS0.out | (with_reducible refine Below.drew ?_; (repeat (with_reducible refine bSt ?_ _)); exact Below.refl _ _) | (with_reducible refine bSt ?_ _; with_reducible assumption) | (with_reducible refine bSt ?_ _; with_reducible exact HS0.out) | ((repeat' (with_reducible refine bPut ?_ ?_ _)) <;> (first | with_reducible assumption | (with_reducible refine bSt ?_ _; with_reducible exact HS0.out) | (with_reducible refine Below.drew ?_; (repeat (with_reducible refine bSt ?_ _)); exact Below.refl _ _) | (simp; done) | omega)) | fail) (fail)
    all_goals go_wp2
    all_goals go_meet
    all_goals exact ⟨_, rfl, Nat.le_refl _, heap_alloc_new _ _, (bSt (Below.refl _ _) _).drew⟩
  case rest =>
  rename World => V1
  obtain ⟨X, rfl, hX, gX, hb1⟩ := hcut
  obtain ⟨i0, hi0, hz0, hz1, hz2⟩ := info_parts Tryz.infoGv
  have hR1 := HRV.out.below hb1
  have HR1 := hide hR1
  have HFAR : Hid (L.Far X) := HRV.out.far hX
  have GX := hide gX
  have hX1 : X < V1.heap.size := (Array.getElem?_eq_some_iff.1 gX).1
  have hD1 := hR1.lt
  have hO1 : W.heap.size < V1.heap.size := Nat.lt_of_lt_of_le hlO hb1.size
  have HB1 := hide hb1
  have HBW1 : Hid (Below W.heap.size W V1) := bThen HBV.out hb1
  have AW : Hid (∀ w' r, Below V1.heap.size V1 w' → Calls Tryz.prog 54 #[.pointer (some ⟨L.D, 0, none⟩), .int .i64 g.length, .int .i64 r] w' fun e w'' => e = .returned (.bool (awB m.given m.cycle g.length r)) ∧ Below w'.heap.size w' w'') := fun w' r h => awaited_any w' B L m g g.length r (HR1.out.below h) (Nat.le_refl _) (by omega)
  have HLN : Hid (g.length = m.given.length) := HR.out.len
  have hrv1 : Below V1.heap.size V1 V1 := Below.refl _ _
  have w0 : ∀ w', Below V1.heap.size V1 w' → w'.cell? ⟨W.heap.size, 0, none⟩ = some (.int .i64 o.op) := fun w' h => o0 w' (bThen HB1.out h)
  have w1 : ∀ w', Below V1.heap.size V1 w' → w'.cell? ⟨W.heap.size, 1, none⟩ = some (.int .i64 o.d) := fun w' h => o1 w' (bThen HB1.out h)
  have w2 : ∀ w', Below V1.heap.size V1 w' → w'.cell? ⟨W.heap.size, 2, none⟩ = some (.int .i64 o.a) := fun w' h => o2 w' (bThen HB1.out h)
  have w3 : ∀ w', Below V1.heap.size V1 w' → w'.cell? ⟨W.heap.size, 3, none⟩ = some (.int .i64 o.b) := fun w' h => o3 w' (bThen HB1.out h)
  have w4 : ∀ w', Below V1.heap.size V1 w' → w'.cell? ⟨W.heap.size, 4, none⟩ = some (.int .i64 o.k) := fun w' h => o4 w' (bThen HB1.out h)
  have c24 : ∀ w', Below V1.heap.size V1 w' → w'.cell? ⟨L.D, 24, none⟩ = some (.slice lp g.length lc) := fun w' h => by rw [(HR1.out.below h).cLv, HLV.out]
  clear o0 o1 o2 o3 o4 c23 gX hR1 hb1
  have hsp := isOrd_spec HORD.out
  by_cases h8 : o.op = 8
  · have e8 : (o.op == 8) = true := by simp [h8]
    have HTW : Hid (toWrite m.given m.cycle m.given.length (rMask o) = awB m.given m.cycle g.length o.a) := hide (by
      rw [toWrite_r HORDS.out _ _ HORD.out, HLN.out]
      have : rdA o.op = true := by unfold rdA; simp [h8]
      have h2 : rdB o.op = false := by unfold rdB; simp [h8]
      rw [this, h2]; simp)
    have HJ : Hid (issueM prog m = jumpM o m) := hide (by rw [HO.out]; exact issueM_jump HES.out (by rw [← HO.out]; exact h8))
    have HAWA : Hid (∀ w', Below V1.heap.size V1 w' → Calls Tryz.prog 54 #[.pointer (some ⟨L.D, 0, none⟩), .int .i64 g.length, .int .i64 o.a] w' fun e w'' => e = .returned (.bool (awB m.given m.cycle g.length o.a)) ∧ Below w'.heap.size w' w'') := fun w' h => AW.out w' _ h
    have HH8 := hide h8
    have HSP := hide hsp
    clear h8 hsp
    generalize hqa : awB m.given m.cycle g.length o.a = qa at *
    have wa : V1.cell? ⟨W.heap.size, 2, none⟩ = some (.int .i64 o.a) := w2 V1 hrv1
    have la : V1.cell? ⟨L.D, 24, none⟩ = some (.slice lp g.length lc) := c24 V1 hrv1
    go_upto_region 7 with fail
    refine wp_region_still_tail 8 (by kernel_rfl) (by kernel_rfl) ?_
    simp only [List.take_succ_cons, List.take_zero, List.drop_succ_cons, List.drop_zero]
    repeat still_step
    refine wpStill_nil ?_
    go_upto_region 8 with (go_at_call 54; (with_reducible refine (HAWA.out _ ?hb).mono ?_); (case hb => exact (Below.refl _ _).drew); rintro e V2 ⟨rfl, hb2'⟩)
    have hb2 : Below V1.heap.size V1 V2 := bThen (w := V1) (W := V1.drew) (Below.refl _ _).drew hb2'
    clear hb2' wa la
    cases qa with
    | true =>
      have HE : Hid (issueM prog m = m) := hide (by rw [HJ.out]; unfold jumpM; rw [HTW.out]; rfl)
      go_wp2_with fail
      refine bodyPost_ret (results_none rfl _ _ _) rfl ?_
      rw [HE.out]
      exact ⟨rfl, L.lv, g, HR1.out.below hb2, HGH.out, Kb.of_below (bThen HBW1.out hb2)⟩
    | false =>
      have HE : Hid (issueM prog m = { m with given := m.given ++ [⟨o, m.next, m.cycle, m.cycle, m.cycle, m.cycle, 0, 0, 0, 0⟩], next := if m.regs.getD o.a.toNat 0 = 0 then o.k.toNat else m.next + 1 }) := hide (by rw [HJ.out]; unfold jumpM; rw [HTW.out]; rfl)
      have hR2 := HR1.out.below hb2
      have g2 : V2.heap[X]? = some (.cells #[.int .i64 o.op, .int .i64 o.d, .int .i64 o.a, .int .i64 o.b, .int .i64 o.k, .int .i64 m.next, .int .i64 m.cycle, .int .i64 0, .int .i64 0, .int .i64 0, .int .i64 0, .int .i64 0, .int .i64 0, .int .i64 0, .int .i64 0] 81 (0, 0)) := by rw [hb2.block _ hX1]; exact GX.out
      have d23 : V2.cell? ⟨L.D, 23, none⟩ = some (.int .i64 m.cycle) := hR2.cCycle
      have z7 : V2.cell? ⟨X, 7, none⟩ = some (.int .i64 0) := by rw [cell_of_row _ _ _ _ _ _ g2]; rfl
      have z8 : V2.cell? ⟨X, 8, none⟩ = some (.int .i64 0) := by rw [cell_of_row _ _ _ _ _ _ g2]; rfl
      have z9 : V2.cell? ⟨X, 9, none⟩ = some (.int .i64 0) := by rw [cell_of_row _ _ _ _ _ _ g2]; rfl
      have zf : ∀ j, V2.frozen? ⟨X, j, none⟩ = false := fun j => frozen_of_row _ _ _ _ _ g2
      have n1 : ¬ L.D = X := HFAR.out.d
      have n1' : ¬ X = L.D := fun e => HFAR.out.d e.symm
      have hD2 := hR2.lt
      have HR2 := hide hR2
      have G2 := hide g2
      clear hR2 g2
      go_upto_region 12 with fail
      obtain ⟨V4, hV4⟩ : ∃ V4, (((V2.setCell ⟨X, 7, none⟩ (.int .i64 m.cycle)).setCell ⟨X, 8, none⟩ (.int .i64 m.cycle)).setCell ⟨X, 9, none⟩ (.int .i64 m.cycle)) = V4 := ⟨_, rfl⟩
      rw [hV4]
      have HRa : Hid (RAt V4 B L m g) := by rw [← hV4]; exact ((HR2.out.other HFAR.out _).other HFAR.out _).other HFAR.out _
      have s7 := heap_setCell_same _ _ 7 _ _ (.int .i64 m.cycle) G2.out
      have s8 := heap_setCell_same _ _ 8 _ _ (.int .i64 m.cycle) s7
      have Ga : Hid (V4.heap[X]? = some (.cells #[.int .i64 o.op, .int .i64 o.d, .int .i64 o.a, .int .i64 o.b, .int .i64 o.k, .int .i64 m.next, .int .i64 m.cycle, .int .i64 m.cycle, .int .i64 m.cycle, .int .i64 m.cycle, .int .i64 0, .int .i64 0, .int .i64 0, .int .i64 0, .int .i64 0] 81 (0, 0))) := by rw [← hV4]; exact (heap_setCell_same _ _ 9 _ _ (.int .i64 m.cycle) s8).trans rfl
      have hBX : B ≤ X := Nat.le_trans hB (Nat.le_trans HBV.out.size hX)
      have HKa : Hid (Kb B W V4) := by
        rw [← hV4]
        exact (((Kb.of_below (bThen HBW1.out hb2)).set G2.out (by simp [hotB]) hBX _).set s7 (by simp [hotB]) hBX _).set s8 (by simp [hotB]) hBX _
      have hO4 : V4.heap[W.heap.size]? = some (.cells #[.int .i64 o.op, .int .i64 o.d, .int .i64 o.a, .int .i64 o.b, .int .i64 o.k] 40 (0, 0)) := by
        have hne : ¬ W.heap.size = X := by omega
        rw [← hV4, heap_setCell_other _ _ _ _ hne, heap_setCell_other _ _ _ _ hne, heap_setCell_other _ _ _ _ hne, hb2.block _ hO1, HB1.out.block _ hlO]
        exact GO.out
      have HO4 := hide hO4
      clear hV4 s7 s8 d23 z7 z8 z9 zf hO4 w0 w1 w2 w3 w4 c24
      have HOWN : Hid (V4.ownsRow B 81 15 (.slice lp g.length lc) g.length (g.flatMap gvC)) := by have := HRa.out.giv; rw [HLV.out] at this; exact this
      have ca : V4.cell? ⟨L.D, 24, none⟩ = some (.slice lp g.length lc) := by rw [HRa.out.cLv, HLV.out]
      have fa : V4.frozen? ⟨L.D, 24, none⟩ = false := HRa.out.frozen 24
      have hBa : B ≤ V4.heap.size := Nat.le_trans hB HKa.out.size
      have hne : (Value.slice lp g.length lc).ownBlock ≠ some L.D := by rw [← HLV.out]; exact row_ne HRa.out.giv HRa.out.blk (by decide)
      have HNE := hide hne
      clear hne
      have hDa := HRa.out.lt
      have x0 : V4.cell? ⟨X, 0, none⟩ = some (.int .i64 o.op) := by rw [cell_of_row _ _ _ _ _ _ Ga.out]; rfl
      have x1 : V4.cell? ⟨X, 1, none⟩ = some (.int .i64 o.d) := by rw [cell_of_row _ _ _ _ _ _ Ga.out]; rfl
      have x2 : V4.cell? ⟨X, 2, none⟩ = some (.int .i64 o.a) := by rw [cell_of_row _ _ _ _ _ _ Ga.out]; rfl
      have x3 : V4.cell? ⟨X, 3, none⟩ = some (.int .i64 o.b) := by rw [cell_of_row _ _ _ _ _ _ Ga.out]; rfl
      have x4 : V4.cell? ⟨X, 4, none⟩ = some (.int .i64 o.k) := by rw [cell_of_row _ _ _ _ _ _ Ga.out]; rfl
      have x5 : V4.cell? ⟨X, 5, none⟩ = some (.int .i64 m.next) := by rw [cell_of_row _ _ _ _ _ _ Ga.out]; rfl
      have x6 : V4.cell? ⟨X, 6, none⟩ = some (.int .i64 m.cycle) := by rw [cell_of_row _ _ _ _ _ _ Ga.out]; rfl
      have x7 : V4.cell? ⟨X, 7, none⟩ = some (.int .i64 m.cycle) := by rw [cell_of_row _ _ _ _ _ _ Ga.out]; rfl
      have x8 : V4.cell? ⟨X, 8, none⟩ = some (.int .i64 m.cycle) := by rw [cell_of_row _ _ _ _ _ _ Ga.out]; rfl
      have x9 : V4.cell? ⟨X, 9, none⟩ = some (.int .i64 m.cycle) := by rw [cell_of_row _ _ _ _ _ _ Ga.out]; rfl
      have x10 : V4.cell? ⟨X, 10, none⟩ = some (.int .i64 0) := by rw [cell_of_row _ _ _ _ _ _ Ga.out]; rfl
      have x11 : V4.cell? ⟨X, 11, none⟩ = some (.int .i64 0) := by rw [cell_of_row _ _ _ _ _ _ Ga.out]; rfl
      have x12 : V4.cell? ⟨X, 12, none⟩ = some (.int .i64 0) := by rw [cell_of_row _ _ _ _ _ _ Ga.out]; rfl
      have x13 : V4.cell? ⟨X, 13, none⟩ = some (.int .i64 0) := by rw [cell_of_row _ _ _ _ _ _ Ga.out]; rfl
      have x14 : V4.cell? ⟨X, 14, none⟩ = some (.int .i64 0) := by rw [cell_of_row _ _ _ _ _ _ Ga.out]; rfl
      have hXa : X < V4.heap.size := (Array.getElem?_eq_some_iff.1 Ga.out).1
      have HUN : Hid (∀ w1 : World, (V4.alloc (.cells #[.int .i64 o.op, .int .i64 o.d, .int .i64 o.a, .int .i64 o.b, .int .i64 o.k, .int .i64 m.next, .int .i64 m.cycle, .int .i64 m.cycle, .int .i64 m.cycle, .int .i64 m.cycle, .int .i64 0, .int .i64 0, .int .i64 0, .int .i64 0, .int .i64 0] 81)).drew.grownBy w1 (Value.slice lp g.length lc).ownBlock → w1.cell? ⟨L.D, 24, none⟩ = some (.slice lp g.length lc) ∧ w1.frozen? ⟨L.D, 24, none⟩ = false) := fun w1 hg => by
        have hb := (grown_one _ hg).block L.D hDa (fun e => HNE.out e.symm)
        exact ⟨(World.cell?_of_block hb).trans ca, (World.frozen?_of_block hb).trans fa⟩
      go_upto_region 12 with fail
      go_cut [] from 8 to 160 (fun wx => ∃ lv', RAt wx B { L with lv := lv' } { m with given := m.given ++ [((newJ o m)).1] } (g ++ [(newJ o m)]) ∧ Kb B V4 wx)
      case first =>
        go_region_law ((refine step_append_lies _ (by rfl) (.tmp 95) (.tmp 97) 74 (by rfl) B 81 i0 _ 15 120 Tryz.underlying74 hi0 hz0 hz1 hz2 (by rfl) (by omega) (.slice lp g.length lc) g.length (g.flatMap gvC) (by rfl) (World.ownsRow.alloc HOWN.out _) ⟨V4.heap.size, 0, none⟩ 1 1 (gvC (newJ o m)) (by rfl) (by rfl) (newsB V4 (gvC (newJ o m)) 81) (gv_one (newJ o m)) (by omega) (by unfold maxLen; omega) (by omega) (by simp; omega) (V4.heap.size + 1) (by simp) ?_; intro G' cap' w1 hown1 hgrow hat hlt1; obtain ⟨r3, r4⟩ := HUN.out w1 hgrow))
        all_goals go_wp2
        all_goals go_meet
        all_goals obtain ⟨z1, z2⟩ := HRa.out.addGv (newJ o m) (by rw [HLV.out]; exact grown_one _ hgrow) hown1
        all_goals exact ⟨_, z1, z2⟩
      case rest =>
      rename World => V9
      obtain ⟨lv', hR9, hK9⟩ := hcut
      clear ca fa HUN HNE HOWN x0 x1 x2 x3 x4 x5 x6 x7 x8 x9 x10 x11 x12 x13 x14
      have d19 : V9.cell? ⟨L.D, 19, none⟩ = some (.int .i64 m.next) := hR9.cNext
      have f19 : V9.frozen? ⟨L.D, 19, none⟩ = false := hR9.frozen 19
      have HR9 := hide hR9
      have HK9 := hide hK9
      have hD9 := hR9.lt
      have hO9 : V9.heap[W.heap.size]? = some (.cells #[.int .i64 o.op, .int .i64 o.d, .int .i64 o.a, .int .i64 o.b, .int .i64 o.k] 40 (0, 0)) := hK9.block _ _ HO4.out (.inr (by simp [hotB]))
      have HO9 := hide hO9
      clear hR9 hK9 hO9
      have hnI1 : (0 : Int) ≤ (m.next : Int) := by omega
      go_upto_region 14 with fail
      obtain ⟨V10, hV10⟩ : ∃ V10, V9.setCell ⟨L.D, 19, none⟩ (.int .i64 ((m.next : Int) + 1)) = V10 := ⟨_, rfl⟩
      rw [hV10]
      have hR10 : RAt V10 B { L with lv := lv' } { m with given := m.given ++ [(newJ o m).1], next := m.next + 1 } (g ++ [(newJ o m)]) := by
        rw [← hV10]
        have := HR9.out.setNext (m.next + 1)
        simpa using this
      have hK10 : Kb B V9 V10 := by rw [← hV10]; exact HR9.out.kbD _ _
      have hO10 : V10.heap[W.heap.size]? = some (.cells #[.int .i64 o.op, .int .i64 o.d, .int .i64 o.a, .int .i64 o.b, .int .i64 o.k] 40 (0, 0)) := hK10.block _ _ HO9.out (.inr (by simp [hotB]))
      clear hV10 d19 f19
      have HR10 := hide hR10
      have hD10 : L.D < V10.heap.size := hR10.lt
      obtain ⟨an, han⟩ := Int.eq_ofNat_of_zero_le HSP.out.2.2.2.2.1
      have han8 : an < 8 := by have := HSP.out.2.2.2.2.2.1; omega
      have hanI : (an : Int) < 8 := by omega
      obtain ⟨rv, hrv⟩ : ∃ rv, rv = m.regs.getD an 0 := ⟨_, rfl⟩
      have ra : V10.cell? ⟨L.D, 10 + an, none⟩ = some (.int .i64 rv) := by rw [hrv]; exact hR10.reg han8
      have oa : V10.cell? ⟨W.heap.size, 2, none⟩ = some (.int .i64 an) := by rw [cell_of_row _ _ _ _ _ _ hO10, ← han]; rfl
      have ok : ∀ w', Below V10.heap.size V10 w' → w'.cell? ⟨W.heap.size, 4, none⟩ = some (.int .i64 o.k) := fun w' h => by rw [h.cell (p := ⟨W.heap.size, 4, none⟩) (Array.getElem?_eq_some_iff.1 hO10).1, cell_of_row _ _ _ _ _ _ hO10]; rfl
      have d19 : ∀ w', Below V10.heap.size V10 w' → w'.cell? ⟨L.D, 19, none⟩ = some (.int .i64 ((m.next : Int) + 1)) := fun w' h => by
        have := (HR10.out.below h).cNext
        simpa using this
      have f19 : ∀ w', Below V10.heap.size V10 w' → w'.frozen? ⟨L.D, 19, none⟩ = false := fun w' h => (HR10.out.below h).frozen 19
      have HRV' := hide hrv
      have HAN := hide han
      have HKall : Hid (Kb B W V10) := HKa.out.trans (HK9.out.trans hK10)
      have HGN : Hid (∀ m' : Mc, m'.mem = m.mem → m'.changes = m.changes → Gh m' (g ++ [(newJ o m)])) := fun m' h1 h2 => HGH.out.add _ h1 h2 HGH.out.places (fun _ _ => hcy0) (fun h => absurd h hcy0)
      clear hR10 hK10 hO10 hrv han
      go_quiet (fail)
      rename_i nq
      obtain ⟨V11, hV11⟩ : ∃ V11, V10.drewN nq = V11 := ⟨_, rfl⟩
      have hb11 : Below V10.heap.size V10 V11 := by rw [← hV11]; exact below_drewN (Below.refl _ _) _
      rw [hV11]
      clear hV11 ra oa
      have hD11 : L.D < V11.heap.size := Nat.lt_of_lt_of_le hD10 hb11.size
      cases hz : (rv == 0) with
      | true =>
        have HE2 : Hid (issueM prog m = { m with given := m.given ++ [⟨o, m.next, m.cycle, m.cycle, m.cycle, m.cycle, 0, 0, 0, 0⟩], next := o.k.toNat }) := hide (by
          rw [HE.out, HAN.out, Int.toNat_natCast, ← HRV'.out, if_pos (by simpa using hz)])
        have hk0 : 0 ≤ o.k := (HSP.out.2.2.2.2.2.2.2.2 HH8.out).1
        have HK0 := hide hk0
        clear hk0
        go_wp2_with fail
        refine bodyPost_ret (results_none rfl _ _ _) rfl ?_
        rw [HE2.out]
        have hR11 := HR10.out.below hb11
        have hf := hR11.setNext o.k.toNat
        have e : ((o.k.toNat : Nat) : Int) = o.k := Int.toNat_of_nonneg HK0.out
        rw [e] at hf
        exact ⟨rfl, lv', _, hf, HGN.out _ rfl rfl, HKall.out.trans ((Kb.of_below hb11).trans (hR11.kbD _ _))⟩
      | false =>
        have HE2 : Hid (issueM prog m = { m with given := m.given ++ [⟨o, m.next, m.cycle, m.cycle, m.cycle, m.cycle, 0, 0, 0, 0⟩], next := m.next + 1 }) := hide (by
          rw [HE.out, HAN.out, Int.toNat_natCast, ← HRV'.out, if_neg (by simpa using hz)])
        go_wp2_with fail
        refine bodyPost_ret (results_none rfl _ _ _) rfl ?_
        rw [HE2.out]
        exact ⟨rfl, lv', _, HR10.out.below hb11, HGN.out _ rfl rfl, HKall.out.trans (Kb.of_below hb11)⟩
  · have e8 : (o.op == 8) = false := by simp [h8]
    have HU : Hid (issueM prog m = unitM o m) := hide (by rw [HO.out]; exact issueM_unit HES.out (by rw [← HO.out]; exact H0.out) (by rw [← HO.out]; exact h8))
    have HTW : Hid (toWrite m.given m.cycle m.given.length (wMask o) = (wrD o.op && awB m.given m.cycle g.length o.d)) := hide (by rw [toWrite_w HORDS.out _ _ HORD.out, HLN.out])
    obtain ⟨k0, k4⟩ := kind_range HORD.out H0.out h8
    obtain ⟨kn, hkn⟩ := Int.eq_ofNat_of_zero_le k0
    have hkn4 : kn < 4 := by omega
    have KI : Hid (∀ w', Calls Tryz.prog 56 #[.int .i64 o.op] w' fun e w'' => e = .returned (.int .i64 kn) ∧ w'' = w') := fun w' => by rw [← hkn]; exact Kind_any _ w'
    have KU : Hid (∀ w', Below V1.heap.size V1 w' → Calls Tryz.prog 57 #[.pointer (some ⟨L.D, 0, none⟩), .int .i64 kn] w' fun e w'' => e = .returned (.bool (freeU m kn)) ∧ Below w'.heap.size w' w'') := fun w' h => unit_any w' B L m g kn (HR1.out.below h) hkn4 (by omega)
    have KW : Hid (∀ W, Calls Tryz.prog 58 #[.agg #[.int .i64 o.op, .int .i64 o.d, .int .i64 o.a, .int .i64 o.b, .int .i64 o.k]] W fun e w' => e = .returned (.bool (wrD o.op)) ∧ Below W.heap.size W w') := fun W => rWrites_any _ _ _ _ _ W
    have KD : Hid (∀ w', Below V1.heap.size V1 w' → Calls Tryz.prog 54 #[.pointer (some ⟨L.D, 0, none⟩), .int .i64 g.length, .int .i64 o.d] w' fun e w'' => e = .returned (.bool (awB m.given m.cycle g.length o.d)) ∧ Below w'.heap.size w' w'') := fun w' h => AW.out w' _ h
    have HUM : Hid (issueM prog m = if freeU m kn = false ∨ (wrD o.op && awB m.given m.cycle g.length o.d) = true then m else { m with given := m.given ++ [(newU o m).1], next := m.next + 1 }) := hide (by
      rw [HU.out]; unfold unitM; rw [hkn, HTW.out]; rfl)
    clear h8 hsp k0 k4 hkn HU HTW AW
    generalize freeU m kn = qf at *
    generalize wrD o.op = qw at *
    generalize awB m.given m.cycle g.length o.d = qd at *
    go_upto_region 16 with fail
    go_upto_region 17 with (first | (go_at_call 56; (with_reducible refine (KI.out _).mono ?_); rintro e W' ⟨rfl, hW'⟩; have hW'' := hW'.symm; clear hW'; subst hW'') | (go_at_call 57; (with_reducible refine (KU.out _ (by with_reducible assumption)).mono ?_); rintro e V2 ⟨rfl, hb2⟩))
    have hD2 : L.D < V2.heap.size := Nat.lt_of_lt_of_le hD1 hb2.size
    have HKW : Hid (∀ d os, Calls Tryz.prog 58 #[.agg #[.int .i64 o.op, .int .i64 o.d, .int .i64 o.a, .int .i64 o.b, .int .i64 o.k]] (grow (redrawn V2 d) os) fun e w' => e = .returned (.bool qw) ∧ ∃ p : Regrown, w' = grow (redrawn V2 p.d) p.os) := fun d os => Calls.regrown_of (KW.out _)
    have HKD : Hid (∀ d os, Calls Tryz.prog 54 #[.pointer (some ⟨L.D, 0, none⟩), .int .i64 g.length, .int .i64 o.d] (grow (redrawn V2 d) os) fun e w' => e = .returned (.bool qd) ∧ ∃ p : Regrown, w' = grow (redrawn V2 p.d) p.os) := fun d os => Calls.regrown_of (KD.out _ (bThen hb2 (below_regrown V2 d os)))
    have f0 : ∀ d os, (grow (redrawn V2 d) os).cell? ⟨W.heap.size, 0, none⟩ = some (.int .i64 o.op) := fun d os => cell_regrown (w0 V2 hb2) d os
    have f1 : ∀ d os, (grow (redrawn V2 d) os).cell? ⟨W.heap.size, 1, none⟩ = some (.int .i64 o.d) := fun d os => cell_regrown (w1 V2 hb2) d os
    have f2 : ∀ d os, (grow (redrawn V2 d) os).cell? ⟨W.heap.size, 2, none⟩ = some (.int .i64 o.a) := fun d os => cell_regrown (w2 V2 hb2) d os
    have f3 : ∀ d os, (grow (redrawn V2 d) os).cell? ⟨W.heap.size, 3, none⟩ = some (.int .i64 o.b) := fun d os => cell_regrown (w3 V2 hb2) d os
    have f4 : ∀ d os, (grow (redrawn V2 d) os).cell? ⟨W.heap.size, 4, none⟩ = some (.int .i64 o.k) := fun d os => cell_regrown (w4 V2 hb2) d os
    have fl : ∀ d os, (grow (redrawn V2 d) os).cell? ⟨L.D, 24, none⟩ = some (.slice lp g.length lc) := fun d os => cell_regrown (c24 V2 hb2) d os
    go_cut [7] from 8 to 160 (fun s7 wx => s7 = .bool (qw && qd) ∧ Below V1.heap.size V1 wx)
    case first =>
      cases qw with
      | false =>
        refine wp_region_quiet_below (by kernel_rfl) (by kernel_rfl) ?_
        repeat (go_big_quiet_step ((first | (exact HKW.out _ _) | (exact HKD.out _ _) | fail)))
        refine wpQuiet_nil ?_
        rintro w4' ⟨q, rfl⟩
        have hb5 := below_regrown V2 q.d q.os
        generalize grow (redrawn V2 q.d) q.os = w5 at hb5
        go_wp2
        go_meet
        exact ⟨by simp, bThen hb2 hb5⟩
      | true =>
        refine wp_region_quiet_below (by kernel_rfl) (by kernel_rfl) ?_
        repeat (go_big_quiet_step ((first | (exact HKW.out _ _) | (exact HKD.out _ _) | fail)))
        refine wpQuiet_nil ?_
        rintro w4' ⟨q, rfl⟩
        have hb5 := below_regrown V2 q.d q.os
        generalize grow (redrawn V2 q.d) q.os = w5 at hb5
        go_wp2
        go_meet
        exact ⟨by simp, bThen hb2 hb5⟩
    case rest =>
    rename World => V4
    obtain ⟨rfl, hb4⟩ := hcut
    generalize hz : (qw && qd) = z at *
    have HKX : Hid (∀ h : (qf = false ∨ z = true), issueM prog m = m) := fun h => by rw [HUM.out, if_pos h]
    cases qf with
    | false =>
      have HE := hide (HKX.out (.inl rfl))
      go_wp2_with fail
      refine bodyPost_ret (results_none rfl _ _ _) rfl ?_
      rw [HE.out]
      exact ⟨rfl, L.lv, g, HR1.out.below hb4, HGH.out, Kb.of_below (bThen HBW1.out hb4)⟩
    | true =>
    cases z with
    | true =>
      have HE := hide (HKX.out (.inr rfl))
      go_wp2_with fail
      refine bodyPost_ret (results_none rfl _ _ _) rfl ?_
      rw [HE.out]
      exact ⟨rfl, L.lv, g, HR1.out.below hb4, HGH.out, Kb.of_below (bThen HBW1.out hb4)⟩
    | false =>
      have HE : Hid (issueM prog m = { m with given := m.given ++ [(newU o m).1], next := m.next + 1 }) := hide (by rw [HUM.out, if_neg (fun h => by rcases h with h | h <;> cases h)])
      have HRa : Hid (RAt V4 B L m g) := HR1.out.below hb4
      have Ga : Hid (V4.heap[X]? = some (.cells #[.int .i64 o.op, .int .i64 o.d, .int .i64 o.a, .int .i64 o.b, .int .i64 o.k, .int .i64 m.next, .int .i64 m.cycle, .int .i64 0, .int .i64 0, .int .i64 0, .int .i64 0, .int .i64 0, .int .i64 0, .int .i64 0, .int .i64 0] 81 (0, 0))) := hide (by rw [hb4.block _ hX1]; exact GX.out)
      have HKa : Hid (Kb B W V4) := Kb.of_below (bThen HBW1.out hb4)
      clear w0 w1 w2 w3 w4 c24
      have HOWN : Hid (V4.ownsRow B 81 15 (.slice lp g.length lc) g.length (g.flatMap gvC)) := by have := HRa.out.giv; rw [HLV.out] at this; exact this
      have ca : V4.cell? ⟨L.D, 24, none⟩ = some (.slice lp g.length lc) := by rw [HRa.out.cLv, HLV.out]
      have fa : V4.frozen? ⟨L.D, 24, none⟩ = false := HRa.out.frozen 24
      have hBa : B ≤ V4.heap.size := Nat.le_trans hB HKa.out.size
      have hne : (Value.slice lp g.length lc).ownBlock ≠ some L.D := by rw [← HLV.out]; exact row_ne HRa.out.giv HRa.out.blk (by decide)
      have HNE := hide hne
      clear hne
      have hDa := HRa.out.lt
      have x0 : V4.cell? ⟨X, 0, none⟩ = some (.int .i64 o.op) := by rw [cell_of_row _ _ _ _ _ _ Ga.out]; rfl
      have x1 : V4.cell? ⟨X, 1, none⟩ = some (.int .i64 o.d) := by rw [cell_of_row _ _ _ _ _ _ Ga.out]; rfl
      have x2 : V4.cell? ⟨X, 2, none⟩ = some (.int .i64 o.a) := by rw [cell_of_row _ _ _ _ _ _ Ga.out]; rfl
      have x3 : V4.cell? ⟨X, 3, none⟩ = some (.int .i64 o.b) := by rw [cell_of_row _ _ _ _ _ _ Ga.out]; rfl
      have x4 : V4.cell? ⟨X, 4, none⟩ = some (.int .i64 o.k) := by rw [cell_of_row _ _ _ _ _ _ Ga.out]; rfl
      have x5 : V4.cell? ⟨X, 5, none⟩ = some (.int .i64 m.next) := by rw [cell_of_row _ _ _ _ _ _ Ga.out]; rfl
      have x6 : V4.cell? ⟨X, 6, none⟩ = some (.int .i64 m.cycle) := by rw [cell_of_row _ _ _ _ _ _ Ga.out]; rfl
      have x7 : V4.cell? ⟨X, 7, none⟩ = some (.int .i64 0) := by rw [cell_of_row _ _ _ _ _ _ Ga.out]; rfl
      have x8 : V4.cell? ⟨X, 8, none⟩ = some (.int .i64 0) := by rw [cell_of_row _ _ _ _ _ _ Ga.out]; rfl
      have x9 : V4.cell? ⟨X, 9, none⟩ = some (.int .i64 0) := by rw [cell_of_row _ _ _ _ _ _ Ga.out]; rfl
      have x10 : V4.cell? ⟨X, 10, none⟩ = some (.int .i64 0) := by rw [cell_of_row _ _ _ _ _ _ Ga.out]; rfl
      have x11 : V4.cell? ⟨X, 11, none⟩ = some (.int .i64 0) := by rw [cell_of_row _ _ _ _ _ _ Ga.out]; rfl
      have x12 : V4.cell? ⟨X, 12, none⟩ = some (.int .i64 0) := by rw [cell_of_row _ _ _ _ _ _ Ga.out]; rfl
      have x13 : V4.cell? ⟨X, 13, none⟩ = some (.int .i64 0) := by rw [cell_of_row _ _ _ _ _ _ Ga.out]; rfl
      have x14 : V4.cell? ⟨X, 14, none⟩ = some (.int .i64 0) := by rw [cell_of_row _ _ _ _ _ _ Ga.out]; rfl
      have hXa : X < V4.heap.size := (Array.getElem?_eq_some_iff.1 Ga.out).1
      have HUN : Hid (∀ w1 : World, (V4.alloc (.cells #[.int .i64 o.op, .int .i64 o.d, .int .i64 o.a, .int .i64 o.b, .int .i64 o.k, .int .i64 m.next, .int .i64 m.cycle, .int .i64 0, .int .i64 0, .int .i64 0, .int .i64 0, .int .i64 0, .int .i64 0, .int .i64 0, .int .i64 0] 81)).drew.grownBy w1 (Value.slice lp g.length lc).ownBlock → w1.cell? ⟨L.D, 24, none⟩ = some (.slice lp g.length lc) ∧ w1.frozen? ⟨L.D, 24, none⟩ = false) := fun w1 hg => by
        have hb := (grown_one _ hg).block L.D hDa (fun e => HNE.out e.symm)
        exact ⟨(World.cell?_of_block hb).trans ca, (World.frozen?_of_block hb).trans fa⟩
      go_upto_region 19 with fail
      go_cut [] from 8 to 160 (fun wx => ∃ lv', RAt wx B { L with lv := lv' } { m with given := m.given ++ [((newU o m)).1] } (g ++ [(newU o m)]) ∧ Kb B V4 wx)
      case first =>
        go_region_law ((refine step_append_lies _ (by rfl) (.tmp 149) (.tmp 151) 74 (by rfl) B 81 i0 _ 15 120 Tryz.underlying74 hi0 hz0 hz1 hz2 (by rfl) (by omega) (.slice lp g.length lc) g.length (g.flatMap gvC) (by rfl) (World.ownsRow.alloc HOWN.out _) ⟨V4.heap.size, 0, none⟩ 1 1 (gvC (newU o m)) (by rfl) (by rfl) (newsB V4 (gvC (newU o m)) 81) (gv_one (newU o m)) (by omega) (by unfold maxLen; omega) (by omega) (by simp; omega) (V4.heap.size + 1) (by simp) ?_; intro G' cap' w1 hown1 hgrow hat hlt1; obtain ⟨r3, r4⟩ := HUN.out w1 hgrow))
        all_goals go_wp2
        all_goals go_meet
        all_goals obtain ⟨z1, z2⟩ := HRa.out.addGv (newU o m) (by rw [HLV.out]; exact grown_one _ hgrow) hown1
        all_goals exact ⟨_, z1, z2⟩
      case rest =>
      rename World => V9
      obtain ⟨lv', hR9, hK9⟩ := hcut
      clear ca fa HUN HNE HOWN x0 x1 x2 x3 x4 x5 x6 x7 x8 x9 x10 x11 x12 x13 x14
      have d19 : V9.cell? ⟨L.D, 19, none⟩ = some (.int .i64 m.next) := hR9.cNext
      have f19 : V9.frozen? ⟨L.D, 19, none⟩ = false := hR9.frozen 19
      have HR9 := hide hR9
      have HK9 := hide hK9
      have hD9 := hR9.lt
      clear hR9 hK9
      have hnI1 : (0 : Int) ≤ (m.next : Int) := by omega
      go_wp2_with fail
      go_end0
      rw [HE.out]
      have hf := HR9.out.setNext (m.next + 1)
      refine ⟨rfl, lv', g ++ [newU o m], ?_, HGH.out.add _ rfl rfl HGH.out.places (fun h => absurd rfl h) (fun _ => ⟨rfl, rfl⟩), HKa.out.trans (HK9.out.trans (HR9.out.kbD _ _))⟩
      simpa using hf

end Go.Proofs.YtmeiogoodbnkkaaGreat

/- The document's board: what was written behind the order whose trap counts is undone. -/
namespace Go.Proofs.YtmeiogoodbnkkaaGreat
open Go.RowKit

/-- What stands when all turns but the first k are undone. -/
def unK (m : Mc) (k : Nat) : List Int × List Int × Nat := ((m.changes.drop k).reverse).foldl (undoOne m.counts) (m.regs, m.mem, m.next)
def unM (m : Mc) (k : Nat) : Mc := { m with regs := (unK m k).1, mem := (unK m k).2.1 }

theorem unK_all (m : Mc) : unK m m.changes.length = (m.regs, m.mem, m.next) := by unfold unK; rw [List.drop_length]; rfl
theorem unK_step {m : Mc} {k : Nat} {c : Ch} (hc : m.changes[k]? = some c) : unK m k = undoOne m.counts (unK m (k + 1)) c := by
  unfold unK
  have hk := (List.getElem?_eq_some_iff.1 hc)
  rw [List.drop_eq_getElem_cons hk.1, hk.2, List.reverse_cons, List.foldl_append]
  rfl
theorem unK_next {m : Mc} (h : ∀ c ∈ m.changes, c.tgt = 1 ∨ c.tgt = 2) : ∀ k, (unK m k).2.2 = m.next := by
  have key : ∀ (l : List Ch) (s : List Int × List Int × Nat), (∀ c ∈ l, c.tgt = 1 ∨ c.tgt = 2) → (l.foldl (undoOne m.counts) s).2.2 = s.2.2 := by
    intro l
    induction l with
    | nil => intro s _; rfl
    | cons c l ih =>
      intro s hl
      rw [List.foldl_cons, ih _ (fun c hc => hl c (List.mem_cons_of_mem _ hc))]
      unfold undoOne
      split
      · simp only [putN]
        rw [if_neg (by have := hl c List.mem_cons_self; omega)]
      · rfl
  exact fun k => key _ _ (fun c hc => h c (by rw [List.mem_reverse] at hc; exact List.mem_of_mem_drop hc))
theorem unK_len (m : Mc) : ∀ k, (unK m k).2.1.length = m.mem.length ∧ (unK m k).1.length = m.regs.length := by
  have key : ∀ (l : List Ch) (s : List Int × List Int × Nat), (l.foldl (undoOne m.counts) s).2.1.length = s.2.1.length ∧ (l.foldl (undoOne m.counts) s).1.length = s.1.length := by
    intro l
    induction l with
    | nil => intro s; exact ⟨rfl, rfl⟩
    | cons c l ih =>
      intro s
      rw [List.foldl_cons]
      obtain ⟨h1, h2⟩ := ih (undoOne m.counts s c)
      rw [h1, h2]
      unfold undoOne
      split
      · exact ⟨putM_len _ _ _ _, putR_len _ _ _ _⟩
      · exact ⟨rfl, rfl⟩
  exact fun k => key _ _
theorem unM_full {m : Mc} (h : ∀ c ∈ m.changes, c.tgt = 1 ∨ c.tgt = 2) : unM m 0 = undoM m.counts m := by
  unfold unM undoM
  have e : unK m 0 = m.changes.reverse.foldl (undoOne m.counts) (m.regs, m.mem, m.next) := by unfold unK; rw [List.drop_zero]
  simp only [← e]
  rw [unK_next h 0]

/-- Within a turn: as far as the order at the place. -/
def unI (m : Mc) (k i : Nat) : Mc := match m.changes[k]? with | some c => if m.counts < c.place ∧ c.place < i then unM m k else unM m (k + 1) | none => unM m (k + 1)

set_option maxRecDepth 100000 in
set_option maxHeartbeats 8000000 in
theorem undo_any (W : World) (B : Nat) (L : Lb) (m : Mc) (g : List (Tk × Xt)) (h : RAt W B L m g) (hgh : Gh m g) (hsm : g.length ≤ 1000) (hcs : m.changes.length ≤ 1000000) (hsh : m.shown = true) (hcn : m.counts < g.length) :
    Calls Tryz.prog 60 #[.pointer (some ⟨L.D, 0, none⟩)] W fun e w' => e = .returned (.tuple #[]) ∧ RAt w' B L (undoM m.counts m) g ∧ Kb B W w' := by
  have HGH := hide hgh
  have HTG : Hid (∀ c ∈ m.changes, c.tgt = 1 ∨ c.tgt = 2) := fun c hc => by
    obtain ⟨k, hk⟩ := List.getElem?_of_mem hc
    obtain ⟨t, x, h1, h2⟩ := hgh.one k c hk
    rcases hgh.trn _ t x h1 with ⟨h3, _⟩ | ⟨c', h3, h4, _, _, h5⟩
    · omega
    · rw [h2, Nat.add_sub_cancel, hk] at h3
      cases h3
      rcases h5 with h5 | h5
      · exact .inr h5.2.1
      · exact .inl h5.2.1
  have HFIN : Hid (undoM m.counts m = unM m 0) := (unM_full HTG.out).symm
  have H0 : Hid (unM m m.changes.length = m) := hide (by unfold unM; rw [unK_all])
  have c27 : W.cell? ⟨L.D, 27, none⟩ = some (.int .i64 m.changes.length) := h.cTurns
  have hD := h.lt
  obtain ⟨lp, lc, hlv0⟩ := h.sl
  have HR := hide h
  have HSH := hide hsh
  have hcnI : (m.counts : Int) ≤ 1000 := by omega
  clear h hgh hsh
  go_enter Tryz.func60, Tryz.ntmps60
  go_wp2_with fail
  go_loopg [2] m.changes.length (fun gq s2 wr => ∃ k : Nat, k ≤ m.changes.length ∧ gq = k ∧ s2 = .int .i64 k ∧ RAt wr B L (unM m k) g ∧ Kb B W wr)
  case atStart => exact ⟨m.changes.length, Nat.le_refl _, rfl, rfl, by rw [H0.out]; exact HR.out, Kb.refl _ _⟩
  case round =>
    clear c27 hD
    obtain ⟨k, hk1, hgk, rfl, hRA, hKB⟩ := hrel
    rename World => V
    rcases Nat.eq_zero_or_pos k with hk0 | hk0
    · subst hk0
      clear hgk
      go_wp2_with fail
      go_end0
      rw [HFIN.out]
      exact ⟨rfl, hRA, hKB⟩
    · obtain ⟨q, hq⟩ : ∃ q, k = q + 1 := ⟨k - 1, by omega⟩
      subst hq
      obtain ⟨c, hc⟩ : ∃ c, m.changes[q]? = some c := ⟨_, List.getElem?_eq_getElem (by omega)⟩
      obtain ⟨ct, cx, hct, hcx⟩ := HGH.out.one q c hc
      have hcpl : c.place < g.length := (List.getElem?_eq_some_iff.1 hct).1
      have c26 : V.cell? ⟨L.D, 26, none⟩ = some (.int .i64 m.counts) := by
        rw [hRA.cShown]
        show some (Value.int .i64 (if m.shown = true then (m.counts : Int) else -1)) = _
        rw [HSH.out]; rfl
      have hD := hRA.lt
      have hkI : (0 : Int) < ((q + 1 : Nat) : Int) := by omega
      have hkI2 : ((q + 1 : Nat) : Int) ≤ 1000000 := by omega
      have HUI : Hid (∀ i, unI m q i = if m.counts < c.place ∧ c.place < i then unM m q else unM m (q + 1)) := fun i => by unfold unI; rw [hc]
      have HUE : Hid (unI m q g.length = unM m q) := hide (by
        rw [HUI.out]
        by_cases e : m.counts < c.place
        · rw [if_pos ⟨e, hcpl⟩]
        · rw [if_neg (fun h => e h.1)]
          unfold unM
          rw [unK_step hc]
          unfold undoOne
          rw [if_neg e])
      have HUS : Hid (unI m q (m.counts + 1) = unM m (q + 1)) := hide (by rw [HUI.out, if_neg (fun h => by omega)])
      have HC := hide hc
      have HCT := hide hct
      have HCX := hide hcx
      have HKB := hide hKB
      have HRA := hide hRA
      have HGK := hide hgk
      clear hRA hKB hgk hc hct hcx
      generalize hkk : ((q + 1 : Nat) : Int) = kk at *
      have HKK := hide hkk
      clear hkk
      go_upto_block 2 with fail
      by_cases hTrue : True
      case neg => exact absurd trivial hTrue
      case pos =>
        go_wp2_with fail
        go_loopg [3] (g.length - (m.counts + 1)) (fun gq s3 wz => ∃ i : Nat, m.counts + 1 ≤ i ∧ i ≤ g.length ∧ gq = g.length - i ∧ s3 = .int .i64 i ∧ RAt wz B L (unI m q i) g ∧ Kb B W wz)
        case atStart => exact ⟨m.counts + 1, Nat.le_refl _, by omega, rfl, by go_num, by rw [HUS.out]; exact HRA.out, HKB.out⟩
        case round =>
          clear c26 hD
          obtain ⟨i, hi0, hi1, hgi, rfl, hR0, hK0⟩ := hrel
          rename World => V0
          have c24' : V0.cell? ⟨L.D, 24, none⟩ = some (.slice lp g.length lc) := by rw [hR0.cLv, hlv0]
          have hD0 := hR0.lt
          rcases Nat.lt_or_ge i g.length with hil | hil
          case inr =>
            have hie : i = g.length := by omega
            subst hie
            clear hil hgi
            have hkq : kk - 1 = (q : Int) := by rw [← HKK.out]; omega
            have HR0 := hide hR0
            have HK0 := hide hK0
            clear hR0 hK0
            go_wp2_with fail
            have hgk := HGK.out
            go_roundg q
            case measure => omega
            case rel => exact ⟨q, by omega, rfl, by first | rfl | go_num, by rw [← HUE.out]; exact HR0.out, HK0.out⟩
          obtain ⟨⟨t, x⟩, hx⟩ : ∃ y, g[i]? = some y := ⟨_, List.getElem?_eq_getElem hil⟩
          obtain ⟨G, cap, hlv, _, hG⟩ := hR0.row (i := i) hil
          have hlv' := hlv
          rw [hlv0] at hlv
          injection hlv with ea eb ec
          rw [ea, ec] at c24'
          have k0 : V0.cell? ⟨G, i * 15, none⟩ = some (.int .i64 t.o.op) := hR0.gv hlv' hx (j := 0) (by omega)
          have k1 : V0.cell? ⟨G, i * 15 + 1, none⟩ = some (.int .i64 t.o.d) := hR0.gv hlv' hx (j := 1) (by omega)
          have k2 : V0.cell? ⟨G, i * 15 + 2, none⟩ = some (.int .i64 t.o.a) := hR0.gv hlv' hx (j := 2) (by omega)
          have k3 : V0.cell? ⟨G, i * 15 + 3, none⟩ = some (.int .i64 t.o.b) := hR0.gv hlv' hx (j := 3) (by omega)
          have k4 : V0.cell? ⟨G, i * 15 + 4, none⟩ = some (.int .i64 t.o.k) := hR0.gv hlv' hx (j := 4) (by omega)
          have k5 : V0.cell? ⟨G, i * 15 + 5, none⟩ = some (.int .i64 t.number) := hR0.gv hlv' hx (j := 5) (by omega)
          have k6 : V0.cell? ⟨G, i * 15 + 6, none⟩ = some (.int .i64 t.issue) := hR0.gv hlv' hx (j := 6) (by omega)
          have k7 : V0.cell? ⟨G, i * 15 + 7, none⟩ = some (.int .i64 t.read) := hR0.gv hlv' hx (j := 7) (by omega)
          have k8 : V0.cell? ⟨G, i * 15 + 8, none⟩ = some (.int .i64 t.done) := hR0.gv hlv' hx (j := 8) (by omega)
          have k9 : V0.cell? ⟨G, i * 15 + 9, none⟩ = some (.int .i64 t.write) := hR0.gv hlv' hx (j := 9) (by omega)
          have k10 : V0.cell? ⟨G, i * 15 + 10, none⟩ = some (.int .i64 x.value) := hR0.gv hlv' hx (j := 10) (by omega)
          have k11 : V0.cell? ⟨G, i * 15 + 11, none⟩ = some (.int .i64 x.loc) := hR0.gv hlv' hx (j := 11) (by omega)
          have k12 : V0.cell? ⟨G, i * 15 + 12, none⟩ = some (.int .i64 t.trap) := hR0.gv hlv' hx (j := 12) (by omega)
          have k13 : V0.cell? ⟨G, i * 15 + 13, none⟩ = some (.int .i64 x.old) := hR0.gv hlv' hx (j := 13) (by omega)
          have k14 : V0.cell? ⟨G, i * 15 + 14, none⟩ = some (.int .i64 x.turn) := hR0.gv hlv' hx (j := 14) (by omega)
          have hiI : (i : Int) < (g.length : Int) := by omega
          have HR0 := hide hR0
          have HK0 := hide hK0
          have HGI := hide hgi
          have HX := hide hx
          clear hR0 hK0 hgi hx hlv'
          go_upto_region 7 with fail
          clear c24' k0 k1 k2 k3 k4 k5 k6 k7 k8 k9 k10 k11 k12 k13 k14
          obtain ⟨V1, hV1⟩ : ∃ V1, V0.alloc (.cells #[.int .i64 t.o.op, .int .i64 t.o.d, .int .i64 t.o.a, .int .i64 t.o.b, .int .i64 t.o.k, .int .i64 t.number, .int .i64 t.issue, .int .i64 t.read, .int .i64 t.done, .int .i64 t.write, .int .i64 x.value, .int .i64 x.loc, .int .i64 t.trap, .int .i64 x.old, .int .i64 x.turn] 81) = V1 := ⟨_, rfl⟩
          rw [hV1]
          have hb1 : Below V0.heap.size V0 V1 := by rw [← hV1]; exact bSt (Below.refl _ _) _
          have gX : V1.heap[V0.heap.size]? = some (.cells #[.int .i64 t.o.op, .int .i64 t.o.d, .int .i64 t.o.a, .int .i64 t.o.b, .int .i64 t.o.k, .int .i64 t.number, .int .i64 t.issue, .int .i64 t.read, .int .i64 t.done, .int .i64 t.write, .int .i64 x.value, .int .i64 x.loc, .int .i64 t.trap, .int .i64 x.old, .int .i64 x.turn] 81 (0, 0)) := by rw [← hV1]; exact heap_alloc_new _ _
          have hlX : V0.heap.size < V1.heap.size := (Array.getElem?_eq_some_iff.1 gX).1
          have HR1 : Hid (RAt V1 B L (unI m q i) g) := HR0.out.below hb1
          have HK1 : Hid (Kb B W V1) := HK0.out.trans (Kb.of_below hb1)
          have hD1 := HR1.out.lt
          clear hV1
          have z0 : V1.cell? ⟨V0.heap.size, 0, none⟩ = some (.int .i64 t.o.op) := by rw [cell_of_row _ _ _ _ _ _ gX]; rfl
          have z1 : V1.cell? ⟨V0.heap.size, 1, none⟩ = some (.int .i64 t.o.d) := by rw [cell_of_row _ _ _ _ _ _ gX]; rfl
          have z11 : V1.cell? ⟨V0.heap.size, 11, none⟩ = some (.int .i64 x.loc) := by rw [cell_of_row _ _ _ _ _ _ gX]; rfl
          have z13 : V1.cell? ⟨V0.heap.size, 13, none⟩ = some (.int .i64 x.old) := by rw [cell_of_row _ _ _ _ _ _ gX]; rfl
          have z14 : V1.cell? ⟨V0.heap.size, 14, none⟩ = some (.int .i64 x.turn) := by rw [cell_of_row _ _ _ _ _ _ gX]; rfl
          clear gX hb1
          by_cases htq : x.turn = q + 1
          case neg =>
            have e1 : ((x.turn : Int) != kk) = true := by rw [← HKK.out]; simp; omega
            have hne : c.place ≠ i := fun e => by
              have h1 := HCT.out
              rw [e, HX.out] at h1
              obtain ⟨rfl, rfl⟩ := Prod.mk.inj (Option.some.inj h1)
              exact htq HCX.out
            have HS : Hid (unI m q (i + 1) = unI m q i) := hide (by
              rw [HUI.out, HUI.out]
              by_cases e : m.counts < c.place ∧ c.place < i
              · rw [if_pos e, if_pos ⟨e.1, by omega⟩]
              · rw [if_neg e, if_neg (fun h => e ⟨h.1, by omega⟩)])
            clear hne htq
            go_wp2_with fail
            have hgi := HGI.out
            go_roundg (g.length - (i + 1))
            case measure => omega
            case rel => exact ⟨i + 1, by omega, by omega, rfl, by go_num, by rw [HS.out]; exact HR1.out, HK1.out⟩
          have e1 : ((x.turn : Int) != kk) = false := by rw [← HKK.out, htq]; simp
          obtain ⟨hpl, hval, htg⟩ : c.place = i ∧ c.val = x.old ∧ ((t.o.op = 7 ∧ c.tgt = 2 ∧ c.pl = x.loc ∧ 0 ≤ x.loc ∧ x.loc < m.mem.length) ∨ (t.o.op ≠ 7 ∧ c.tgt = 1 ∧ c.pl = t.o.d ∧ 0 ≤ t.o.d ∧ t.o.d < 8)) := by
            rcases HGH.out.trn i t x HX.out with ⟨h3, _⟩ | ⟨c', h3, h4, h5, h6, h7⟩
            · omega
            · rw [htq, Nat.add_sub_cancel, HC.out] at h3
              cases h3
              exact ⟨h5, h6, h7⟩
          have hml : (unI m q i).mem.length = m.mem.length := by
            rw [HUI.out]
            split
            · exact (unK_len m q).1
            · exact (unK_len m (q + 1)).1
          have ov := hval
          clear htq
          rcases htg with ⟨h7, tg, pl, l0, l1⟩ | ⟨h7, tg, pl, l0, l1⟩
          · skip
            obtain ⟨ln, hln⟩ := Int.eq_ofNat_of_zero_le l0
            have e7 : (t.o.op == 7) = true := by simp [h7]
            have hlm : ln < (unI m q i).mem.length := by rw [hml]; omega
            obtain ⟨M, mc, hmv, hM⟩ : ∃ M mc, L.mv = .slice (some ⟨M, 0, none⟩) (unI m q i).mem.length mc ∧ M < V1.heap.size := by
              rcases HR1.out.mem.form with ⟨_, h2⟩ | ⟨Q, cq, cur, h2, h3, h4, _⟩
              · rw [h2] at hlm; simp at hlm
              · exact ⟨Q, cq, h2, h4⟩
            have c18 : V1.cell? ⟨L.D, 18, none⟩ = some (.slice (some ⟨M, 0, none⟩) (unI m q i).mem.length mc) := by rw [HR1.out.cMv, hmv]
            have hme := HR1.out.mem
            rw [hmv] at hme
            have cM : V1.cell? ⟨M, ln, none⟩ = some (.int .i64 ((unI m q i).mem.getD ln 0)) := by
              rw [World.ownsRow.cellAt hme ln (by simpa using hlm)]
              simp [List.getD_eq_getElem?_getD, hlm]
            have fM : V1.frozen? ⟨M, ln, none⟩ = false := World.ownsRow.frozenAt hme ln
            have hlI : (ln : Int) < ((unI m q i).mem.length : Int) := by omega
            have z11' : V1.cell? ⟨V0.heap.size, 11, none⟩ = some (.int .i64 ln) := by rw [z11, hln]
            have HMV := hide hmv
            generalize (unI m q i).mem.getD ln 0 = mw at *
            obtain ⟨mlen, hmlen⟩ : ∃ n : Nat, n = (unI m q i).mem.length := ⟨_, rfl⟩
            rw [← hmlen] at c18 hlI
            clear hme hmv z11 h7 hmlen
            go_upto_region 9 with fail
            refine wp_region_still_tail 10 (by kernel_rfl) (by kernel_rfl) ?_
            simp only [List.take_succ_cons, List.take_zero, List.drop_succ_cons, List.drop_zero]
            repeat still_step
            refine wpStill_nil ?_
            go_wp2_with fail
            have hS1 : unI m q (i + 1) = { unI m q i with mem := (unI m q i).mem.set ln x.old } := by
              rw [HUI.out (i + 1), if_pos ⟨by omega, by omega⟩]
              have e0 : unI m q i = unM m (q + 1) := by rw [HUI.out i, if_neg (fun h => by omega)]
              rw [e0]
              unfold unM
              rw [unK_step HC.out]
              unfold undoOne
              rw [if_pos (show m.counts < c.place by omega)]
              simp only [putR, putM, tg, pl, ov, hln, Int.toNat_natCast]
              simp
            have hgi := HGI.out
            go_roundg (g.length - (i + 1))
            case measure => omega
            case rel => exact ⟨i + 1, by omega, by omega, rfl, by go_num, by rw [hS1]; exact ((HR1.out.setWord HMV.out x.old).1).drew, (HK1.out.trans ((HR1.out.setWord HMV.out x.old).2)).drew⟩
          · skip
            obtain ⟨dn, hdn⟩ := Int.eq_ofNat_of_zero_le l0
            have e7 : (t.o.op == 7) = false := by simp [h7]
            have hdn8 : dn < 8 := by omega
            have hd8I : (dn : Int) < 8 := by omega
            have rg : V1.cell? ⟨L.D, 10 + dn, none⟩ = some (.int .i64 ((unI m q i).regs.getD dn 0)) := HR1.out.reg hdn8
            have fR : V1.frozen? ⟨L.D, 10 + dn, none⟩ = false := HR1.out.frozen _
            have z1' : V1.cell? ⟨V0.heap.size, 1, none⟩ = some (.int .i64 dn) := by rw [z1, hdn]
            generalize (unI m q i).regs.getD dn 0 = mw at *
            clear z1 h7
            go_upto_region 10 with fail
            refine wp_region_still_tail 10 (by kernel_rfl) (by kernel_rfl) ?_
            simp only [List.take_succ_cons, List.take_zero, List.drop_succ_cons, List.drop_zero]
            repeat still_step
            refine wpStill_nil ?_
            go_wp2_with fail
            have hS1 : unI m q (i + 1) = { unI m q i with regs := (unI m q i).regs.set dn x.old } := by
              rw [HUI.out (i + 1), if_pos ⟨by omega, by omega⟩]
              have e0 : unI m q i = unM m (q + 1) := by rw [HUI.out i, if_neg (fun h => by omega)]
              rw [e0]
              unfold unM
              rw [unK_step HC.out]
              unfold undoOne
              rw [if_pos (show m.counts < c.place by omega)]
              simp only [putR, putM, tg, pl, ov, hdn, Int.toNat_natCast]
              simp
            have hgi := HGI.out
            go_roundg (g.length - (i + 1))
            case measure => omega
            case rel => exact ⟨i + 1, by omega, by omega, rfl, by go_num, by rw [hS1]; exact (HR1.out.setReg hdn8 x.old).drew, (HK1.out.trans (HR1.out.kbD _ _)).drew⟩

end Go.Proofs.YtmeiogoodbnkkaaGreat

/- Does the document's board stop? -/
namespace Go.Proofs.YtmeiogoodbnkkaaGreat
open Go.RowKit

theorem allWr_succ {g : List Tk} {k : Nat} {t : Tk} (ht : g[k]? = some t) : allWr g (k + 1) = (allWr g k && !((t.write : Int) == 0)) := by
  unfold allWr
  have e : g.take (k + 1) = g.take k ++ [t] := by rw [List.take_add_one, ht]; rfl
  rw [e, List.all_append]
  congr 1
  rw [Bool.eq_iff_iff]
  simp

/-- How the board ends, or goes on. -/
def spOf (steps : Nat) (m : Mc) : Int := if (stopM steps m).1 = true then (stopM steps m).2.stop else 2

set_option maxRecDepth 100000 in
set_option maxHeartbeats 8000000 in
theorem over_any (W : World) (B : Nat) (L : Lb) (m : Mc) (g : List (Tk × Xt)) (steps : Nat) (h : RAt W B L m g) (hgh : Gh m g) (hsm : g.length ≤ 1000) (hcs : m.changes.length ≤ 1000000) (hsh : m.shown = true → m.counts < g.length ∧ allWr m.given m.given.length = false) :
    Calls Tryz.prog 39 #[.pointer (some ⟨L.D, 0, none⟩), .int .i64 steps] W fun e w' => e = .returned (.bool (stopM steps m).1) ∧ RAt w' B { L with sp := spOf steps m } (stopM steps m).2 g ∧ Kb B W w' := by
  have hD := h.lt
  obtain ⟨lp, lc, hlv0'⟩ := h.sl
  have HLV0 := hide hlv0'
  clear hlv0'
  have HL : Hid (g.length = m.given.length) := h.len
  have HR := hide h
  have HGH := hide hgh
  have HOUT : Hid ((m.shown && allWr m.given m.counts) = false → (m.ended && allWr m.given m.given.length) = false → ∀ V, RAt V B L m g → Kb B W V → ((m.cycle : Int) == (steps : Int)) = (stopM steps m).1 ∧ RAt (V.setCell ⟨L.D, 20, none⟩ (.int .i64 2)) B { L with sp := spOf steps m } (stopM steps m).2 g ∧ Kb B W (V.setCell ⟨L.D, 20, none⟩ (.int .i64 2))) := fun h1 h2 V hV hk => by
    by_cases hc : m.cycle = steps
    · have e := stopM_out h1 h2 hc
      have es : spOf steps m = 2 := by unfold spOf; rw [e]; rfl
      rw [es, e]
      refine ⟨by rw [hc]; simp, ?_, hk.trans (hV.kbD _ _)⟩
      have := hV.setStop 2
      exact ⟨this.units, this.lat, this.regs, this.fst, this.base, this.blk, this.giv, this.mem⟩
    · have e := stopM_on h1 h2 hc
      have es : spOf steps m = 2 := by unfold spOf; rw [e]; rfl
      rw [es, e]
      exact ⟨by simp; omega, hV.setStop 2, hk.trans (hV.kbD _ _)⟩
  cases hshw : m.shown with
  | true =>
    obtain ⟨hcn, hall⟩ := hsh hshw
    have c26 : W.cell? ⟨L.D, 26, none⟩ = some (.int .i64 m.counts) := by rw [h.cShown]; unfold shI; rw [hshw]; rfl
    have c20 : W.cell? ⟨L.D, 20, none⟩ = some (.int .i64 L.sp) := h.cStop
    have f20 : W.frozen? ⟨L.D, 20, none⟩ = false := h.frozen 20
    have c23 : W.cell? ⟨L.D, 23, none⟩ = some (.int .i64 m.cycle) := h.cCycle
    have KS : Hid (Calls Tryz.prog 59 #[.pointer (some ⟨L.D, 0, none⟩), .int .i64 m.counts] W fun e w' => e = .returned (.bool (allWr m.given m.counts)) ∧ w' = W) := settled_any W B L m g m.counts h (by omega) (by omega)
    have KU : Hid (Calls Tryz.prog 60 #[.pointer (some ⟨L.D, 0, none⟩)] W fun e w' => e = .returned (.tuple #[]) ∧ RAt w' B L (undoM m.counts m) g ∧ Kb B W w') := undo_any W B L m g h hgh hsm hcs hshw hcn
    have hcI : (0 : Int) ≤ (m.counts : Int) := by omega
    have HSW := hide hshw
    have HALL := hide hall
    clear h hgh hsh hall hshw
    cases hq : allWr m.given m.counts with
    | false =>
      rw [hq] at KS
      have HQ := hide hq
      clear hq KU
      go_enter Tryz.func39, Tryz.ntmps39
      go_wp2_with (go_at_call 59; (with_reducible refine KS.out.mono ?_); rintro e W' ⟨rfl, hW'⟩; have hW'' := hW'.symm; clear hW'; subst hW'')
      go_ret
      obtain ⟨r1, r2, r3⟩ := HOUT.out (by rw [HQ.out]; simp) (by rw [HALL.out]; simp) W HR.out (Kb.refl _ _)
      exact ⟨by rw [← r1]; rfl, r2, r3⟩
    | true =>
      rw [hq] at KS
      have HQ := hide hq
      clear hq c20 f20 c23
      obtain ⟨⟨t, x⟩, hx⟩ : ∃ y, g[m.counts]? = some y := ⟨_, List.getElem?_eq_getElem hcn⟩
      have ht : m.given[m.counts]? = some t := HR.out.get hx
      have HE : Hid (stopM steps m = (true, { undoM m.counts m with stop := 1, trap := t.trap, next := t.number })) := stopM_trap (by rw [HSW.out, HQ.out]; rfl) ht
      have HX := hide hx
      clear hx ht
      go_enter Tryz.func39, Tryz.ntmps39
      go_upto_region 5 with (first | (go_at_call 59; (with_reducible refine KS.out.mono ?_); rintro e W' ⟨rfl, hW'⟩; have hW'' := hW'.symm; clear hW'; subst hW'') | (go_at_call 60; (with_reducible refine KU.out.mono ?_); rintro e V ⟨rfl, hRV, hKV⟩))
      have d20 : V.cell? ⟨L.D, 20, none⟩ = some (.int .i64 L.sp) := hRV.cStop
      have f20 : V.frozen? ⟨L.D, 20, none⟩ = false := hRV.frozen 20
      have hDV := hRV.lt
      have HRV := hide hRV
      have HKV := hide hKV
      clear hRV hKV c26
      go_upto_region 6 with fail
      obtain ⟨V1, hV1⟩ : ∃ V1, V.setCell ⟨L.D, 20, none⟩ (.int .i64 1) = V1 := ⟨_, rfl⟩
      rw [hV1]
      have hR1 : RAt V1 B { L with sp := 1 } (undoM m.counts m) g := by rw [← hV1]; exact HRV.out.setStop 1
      have hK1 : Kb B V V1 := by rw [← hV1]; exact HRV.out.kbD _ _
      clear hV1 d20 f20
      have hD1 : L.D < V1.heap.size := hR1.lt
      obtain ⟨G, cap, hlv, _, hG⟩ := hR1.row hcn
      have hlv' : L.lv = .slice (some ⟨G, 0, none⟩) g.length cap := hlv
      have d24 : V1.cell? ⟨L.D, 24, none⟩ = some (.slice (some ⟨G, 0, none⟩) g.length cap) := by rw [hR1.cLv, hlv]
      have d26 : V1.cell? ⟨L.D, 26, none⟩ = some (.int .i64 m.counts) := by
        rw [hR1.cShown]
        show some (Value.int .i64 (if m.shown = true then (m.counts : Int) else -1)) = _
        rw [HSW.out]; rfl
      have k5 : V1.cell? ⟨G, m.counts * 15 + 5, none⟩ = some (.int .i64 t.number) := hR1.gv hlv HX.out (j := 5) (by omega)
      have d19 : V1.cell? ⟨L.D, 19, none⟩ = some (.int .i64 (undoM m.counts m).next) := hR1.cNext
      have f19 : V1.frozen? ⟨L.D, 19, none⟩ = false := hR1.frozen 19
      have hcgI : (m.counts : Int) < (g.length : Int) := by omega
      generalize (undoM m.counts m).next = ux at *
      have HR1 := hide hR1
      have HK1 := hide hK1
      have HLV := hide hlv'
      clear hR1 hK1 hlv hlv'
      refine wp_region_still_tail 16 (by kernel_rfl) (by kernel_rfl) ?_
      simp only [List.take_succ_cons, List.take_zero, List.drop_succ_cons, List.drop_zero]
      repeat still_step
      refine wpStill_nil ?_
      go_upto_region 7 with fail
      obtain ⟨V2, hV2⟩ : ∃ V2, (V1.setCell ⟨L.D, 19, none⟩ (.int .i64 t.number)).drew = V2 := ⟨_, rfl⟩
      rw [hV2]
      have hR2 : RAt V2 B { L with sp := 1 } { undoM m.counts m with next := t.number } g := by rw [← hV2]; exact (HR1.out.setNext t.number).drew
      have hK2 : Kb B V1 V2 := by rw [← hV2]; exact (HR1.out.kbD _ _).drew
      clear hV2 d19 f19 d24 d26 k5
      have hD2 : L.D < V2.heap.size := hR2.lt
      have d24 : V2.cell? ⟨L.D, 24, none⟩ = some (.slice (some ⟨G, 0, none⟩) g.length cap) := by
        have := hR2.cLv
        rw [show ({ L with sp := 1 } : Lb).lv = L.lv from rfl, HLV.out] at this
        exact this
      have d26 : V2.cell? ⟨L.D, 26, none⟩ = some (.int .i64 m.counts) := by
        rw [hR2.cShown]
        show some (Value.int .i64 (if m.shown = true then (m.counts : Int) else -1)) = _
        rw [HSW.out]; rfl
      have k12 : V2.cell? ⟨G, m.counts * 15 + 12, none⟩ = some (.int .i64 t.trap) := hR2.gv (show ({ L with sp := 1 } : Lb).lv = _ from HLV.out) HX.out (j := 12) (by omega)
      have d21 : V2.cell? ⟨L.D, 21, none⟩ = some (.int .i64 m.trap) := hR2.cTrap
      have f21 : V2.frozen? ⟨L.D, 21, none⟩ = false := hR2.frozen 21
      have hG2 : G < V2.heap.size := Nat.lt_of_lt_of_le hG hK2.size
      have HR2 := hide hR2
      have HK2 := hide hK2
      clear hR2 hK2
      refine wp_region_still_tail 15 (by kernel_rfl) (by kernel_rfl) ?_
      simp only [List.take_succ_cons, List.take_zero, List.drop_succ_cons, List.drop_zero]
      repeat still_step
      refine wpStill_nil ?_
      go_wp2_with fail
      go_ret
      have es : spOf steps m = 1 := by unfold spOf; rw [HE.out]; rfl
      have hf := HR2.out.setTrap t.trap
      rw [HE.out, es]
      refine ⟨rfl, ?_, (HKV.out.trans (HK1.out.trans (HK2.out.trans (HR2.out.kbD _ _)))).drew⟩
      have hf2 := hf.drew
      exact ⟨hf2.units, hf2.lat, hf2.regs, hf2.fst, hf2.base, hf2.blk, hf2.giv, hf2.mem⟩
  | false =>
    have c26 : W.cell? ⟨L.D, 26, none⟩ = some (.int .i64 (-1)) := by rw [h.cShown]; unfold shI; rw [hshw]; rfl
    have c20 : W.cell? ⟨L.D, 20, none⟩ = some (.int .i64 L.sp) := h.cStop
    have f20 : W.frozen? ⟨L.D, 20, none⟩ = false := h.frozen 20
    have c23 : W.cell? ⟨L.D, 23, none⟩ = some (.int .i64 m.cycle) := h.cCycle
    have c25 : W.cell? ⟨L.D, 25, none⟩ = some (.bool m.ended) := h.cEnded
    have c24 : W.cell? ⟨L.D, 24, none⟩ = some (.slice lp g.length lc) := by rw [h.cLv, HLV0.out]
    have HSW := hide hshw
    clear h hgh hsh hshw
    cases hen : m.ended with
    | false =>
      rw [hen] at c25
      have HEN := hide hen
      clear hen
      go_enter Tryz.func39, Tryz.ntmps39
      go_wp2_with fail
      go_ret
      obtain ⟨r1, r2, r3⟩ := HOUT.out (by rw [HSW.out]; rfl) (by rw [HEN.out]; rfl) W HR.out (Kb.refl _ _)
      exact ⟨by rw [← r1]; rfl, r2, r3⟩
    | true =>
      rw [hen] at c25
      have HEN := hide hen
      clear hen
      go_enter Tryz.func39, Tryz.ntmps39
      go_wp2_with fail
      go_loopg [6, 7] g.length (fun gq s6 s7 wr => ∃ k : Nat, k ≤ g.length ∧ gq = g.length - k ∧ s7 = .int .i64 k ∧ s6 = .bool (allWr m.given k) ∧ wr = W)
      case atStart => exact ⟨0, Nat.zero_le _, rfl, rfl, rfl, rfl⟩
      case round =>
        obtain ⟨k, hk1, hgk, rfl, rfl, hwr⟩ := hrel
        subst hwr
        rcases Nat.lt_or_ge k g.length with hki | hki
        · obtain ⟨⟨t, x⟩, hx⟩ : ∃ y, g[k]? = some y := ⟨_, List.getElem?_eq_getElem hki⟩
          have ht : m.given[k]? = some t := HR.out.get hx
          obtain ⟨G, cap, hlv, _, hG⟩ := HR.out.row (i := k) hki
          have k9 : wr.cell? ⟨G, k * 15 + 9, none⟩ = some (.int .i64 t.write) := HR.out.gv hlv hx (j := 9) (by omega)
          rw [HLV0.out] at hlv
          injection hlv with ea eb ec
          rw [ea, ec] at c24
          have HS := hide (allWr_succ ht)
          have hkI : (k : Int) < (g.length : Int) := by omega
          have HGK := hide hgk
          clear hx ht hgk
          generalize allWr m.given k = qa at *
          cases qa with
          | false =>
            go_wp2_with fail
            have hgk := HGK.out
            go_roundg (g.length - (k + 1))
            case measure => omega
            case rel => exact ⟨k + 1, by omega, rfl, by go_num, by rw [HS.out]; rfl, rfl⟩
          | true =>
            cases hz : ((t.write : Int) == 0) with
            | true =>
              have hz' : ((t.write : Int) != 0) = false := by rw [bne, hz]; rfl
              go_wp2_with fail
              have hgk := HGK.out
              go_roundg (g.length - (k + 1))
              case measure => omega
              case rel => exact ⟨k + 1, by omega, rfl, by go_num, by rw [HS.out, hz]; rfl, rfl⟩
            | false =>
              have hz' : ((t.write : Int) != 0) = true := by rw [bne, hz]; rfl
              go_wp2_with fail
              have hgk := HGK.out
              go_roundg (g.length - (k + 1))
              case measure => omega
              case rel => exact ⟨k + 1, by omega, rfl, by go_num, by rw [HS.out, hz]; rfl, rfl⟩
        · have hke : k = g.length := by omega
          have hnk : ¬ ((k : Int) < (g.length : Int)) := by omega
          have HKE := hide hke
          clear hki hgk hke
          cases hq : allWr m.given k with
          | true =>
            have HE : Hid (stopM steps m = (true, { m with stop := 0 })) := stopM_halt (by rw [HSW.out]; rfl) (by rw [HEN.out, ← HL.out, ← HKE.out, hq]; rfl)
            clear hq
            go_wp2_with fail
            go_ret
            have es : spOf steps m = 0 := by unfold spOf; rw [HE.out]; rfl
            rw [HE.out, es]
            refine ⟨rfl, ?_, HR.out.kbD _ _⟩
            have := HR.out.setStop 0
            exact ⟨this.units, this.lat, this.regs, this.fst, this.base, this.blk, this.giv, this.mem⟩
          | false =>
            have HQ2 : Hid ((m.ended && allWr m.given m.given.length) = false) := hide (by rw [← HL.out, ← HKE.out, hq]; simp)
            clear hq
            go_wp2_with fail
            go_ret
            obtain ⟨r1, r2, r3⟩ := HOUT.out (by rw [HSW.out]; rfl) HQ2.out wr HR.out (Kb.refl _ _)
            exact ⟨by rw [← r1]; rfl, r2, r3⟩

end Go.Proofs.YtmeiogoodbnkkaaGreat

/- What holds of the document's board from cycle to cycle. -/
namespace Go.Proofs.YtmeiogoodbnkkaaGreat
open Go.RowKit

def ShI (m : Mc) : Prop := m.shown = true → ∃ t, m.given[m.counts]? = some t ∧ t.trap ≠ 0 ∧ t.done ≤ m.cycle ∧ t.read ≠ 0

theorem writes_trap {m : Mc} {j : Nat} {t : Tk} (h : m.given[j]? = some t) (ht : t.trap ≠ 0) : (writesM m).given[j]? = some t := by
  have key : ∀ (l : List Nat) (s : Int × Mc), s.2.given[j]? = some t → (l.foldl writesOne s).2.given[j]? = some t := by
    intro l
    induction l with
    | nil => exact fun s h => h
    | cons i l ih =>
      intro s hs
      refine ih _ ?_
      unfold writesOne
      split
      · exact hs
      · rename_i x hx
        split
        · rename_i hw
          have hne : i ≠ j := fun e => by
            subst e
            rw [hs] at hx
            cases hx
            exact ht (mayW_spec hw).2.1
          have hk : (writeT i x s.2).given[j]? = some t := by
            show (s.2.given.set i _)[j]? = some t
            rw [List.getElem?_set_ne hne]; exact hs
          split
          · exact hk
          · split
            · exact hs
            · exact hk
        · exact hs
  exact key _ _ h

theorem reads_read {m : Mc} {j : Nat} {t : Tk} (h : m.given[j]? = some t) (ht : t.read ≠ 0) : (readsM m).given[j]? = some t := by
  have key : ∀ (l : List Nat) (s : Mc), s.given[j]? = some t → (l.foldl readsOne s).given[j]? = some t := by
    intro l
    induction l with
    | nil => exact fun s h => h
    | cons i l ih =>
      intro s hs
      refine ih _ ?_
      unfold readsOne
      split
      · exact hs
      · rename_i x hx
        split
        · rename_i hw
          have hne : i ≠ j := fun e => by
            subst e
            rw [hs] at hx
            cases hx
            exact ht hw.1
          show (s.given.set i _)[j]? = some t
          rw [List.getElem?_set_ne hne]; exact hs
        · exact hs
  exact key _ _ h

theorem issue_shown (prog : List Ord) (m : Mc) : (issueM prog m).shown = m.shown := by
  unfold issueM
  split
  · rfl
  · simp only
    split
    · rfl
    · split
      · split <;> rfl
      · split <;> rfl

/-- What holds of the machine between two cycles. -/
structure Rn (prog : List Ord) (u l : List Int) (b : Int) (mem0 : List Int) (m : Mc) : Prop where
  gd : Gd prog u l b mem0.length m
  jv : Jv prog u l b mem0 m
  sh : ShI m

section
variable {prog : List Ord} {u l : List Int} {b : Int} {mem0 : List Int} {m : Mc}

theorem Rn.sh4 (h : Rn prog u l b mem0 m) (hp : isProg prog = true) (hb : 0 ≤ b) (hu : u.getD 3 0 = 1) :
    ShI (issueM prog (readsM (writesM { m with cycle := m.cycle + 1 }))) := by
  have _ := hp
  have _ := hu
  intro hs
  rw [issue_shown] at hs
  have hw := Wx.fold h.gd.wf (by rw [show ({ m with cycle := m.cycle + 1 } : Mc).buses = m.buses from rfl, h.gd.buses]; exact hb) h.gd.effc
  obtain ⟨g, hg⟩ := reads_given (writesM { m with cycle := m.cycle + 1 })
  have hs3 : (writesM { m with cycle := m.cycle + 1 }).shown = true := by rw [hg] at hs; exact hs
  have hs0 : m.shown = true := by rw [hw.shown] at hs3; exact hs3
  obtain ⟨t, ht, h1, h2, h3⟩ := h.sh hs0
  have e : issueM prog (readsM (writesM { m with cycle := m.cycle + 1 })) = readsM (writesM { m with cycle := m.cycle + 1 }) := issueM_stop (by rw [hs]; simp)
  rw [e]
  have hc : (readsM (writesM { m with cycle := m.cycle + 1 })).counts = m.counts := by rw [hg]; exact hw.counts
  have hcy : (readsM (writesM { m with cycle := m.cycle + 1 })).cycle = m.cycle + 1 := by rw [readsM_cyc, writesM_cyc]
  refine ⟨t, ?_, h1, by rw [hcy]; omega, h3⟩
  rw [hc]
  exact reads_read (writes_trap (m := { m with cycle := m.cycle + 1 }) ht h1) h3

theorem ShI.cond (h : ShI m) : m.shown = true → condI m m.counts = true ∧ m.counts < m.given.length := fun hs => by
  obtain ⟨t, ht, h1, h2, _⟩ := h hs
  refine ⟨?_, (List.getElem?_eq_some_iff.1 ht).1⟩
  unfold condI
  rw [ht]
  exact decide_eq_true ⟨h1, h2⟩

theorem Rn.cycle (h : Rn prog u l b mem0 m) (hp : isProg prog = true) (hb : 0 ≤ b) (hu : u.getD 3 0 = 1) : Rn prog u l b mem0 (cycleM prog m) := by
  have hj := h.jv.cycle hp hu
  refine ⟨h.gd.cycle hb hp, hj, ?_⟩
  have h4 := h.sh4 hp hb hu
  have j4 : Jv prog u l b mem0 (issueM prog (readsM (writesM { m with cycle := m.cycle + 1 }))) := ((h.jv.tick.writes hp).reads hp).issue hp hu
  unfold cycleM
  generalize issueM prog (readsM (writesM { m with cycle := m.cycle + 1 })) = m4 at *
  unfold showM
  cases hf : firstShown m4.given m4.cycle with
  | none => exact h4
  | some i =>
    intro _
    obtain ⟨t, ht, h1, h2⟩ := firstShown_spec hf
    exact ⟨t, ht, h1, h2, fun h0 => h1 (j4.iv.unr i t ht h0).2.2.2⟩

theorem Rn.start (prog : List Ord) (u l : List Int) (b : Int) (mem0 : List Int) : Rn prog u l b mem0 (startM u l b mem0) :=
  ⟨Gd.start _ _ _ _ _, Jv.start _ _ _ _ _, fun h => by simp [startM] at h⟩

theorem Rn.over (h : Rn prog u l b mem0 m) {g : List (Tk × Xt)} (hg : g.length = m.given.length) : m.shown = true → m.counts < g.length ∧ allWr m.given m.given.length = false := fun hs => by
  obtain ⟨t, ht, h1, _, _⟩ := h.sh hs
  have hlt := (List.getElem?_eq_some_iff.1 ht).1
  refine ⟨by omega, allWrB_false hlt ht ?_⟩
  by_cases hw : t.write = 0
  · exact hw
  · exact absurd (h.jv.iv.wrote ht hw).2 h1

theorem Gh.start (u l : List Int) (b : Int) (mem0 : List Int) : Gh (startM u l b mem0) [] :=
  ⟨fun i t x h => by simp at h, fun i t x h => by simp at h, fun k c h => by simp [startM] at h, fun i t x h => by simp at h, fun i t x h => by simp at h⟩
end

end Go.Proofs.YtmeiogoodbnkkaaGreat
