/- Several texts in one: BP, BD, BE, BF. -/
import Derived.Test.YtmeiogoodbnkkaaGreatCBBBC
import Derived.Test.YtmeiogoodbnkkaaGreatCPAPE
import Derived.StillTailTactics
/- Sets of registers, register by register. -/
namespace Go.Proofs.YtmeiogoodbnkkaaGreat
open Go.RowKit

theorem meets_rw {p o : Ord} {n n' : Int} (hp : isOrd p n = true) (ho : isOrd o n' = true) : meets (rMask p) (wMask o) = (wrD o.op && rdQ p.op p.a p.b o.d) := by
  have h1 := isOrd_spec hp
  have h2 := isOrd_spec ho
  rw [Bool.eq_iff_iff, meets_iff]
  constructor
  · rintro ⟨r, hr, hw⟩
    rw [rMask_bit] at hr
    rw [wMask_bit] at hw
    obtain ⟨w1, w2⟩ := hw
    rw [w1, Bool.true_and]
    unfold rdQ
    rcases hr with ⟨r1, r2⟩ | ⟨r1, r2⟩
    · have : p.a = o.d := by omega
      simp [r1, this]
    · have : p.b = o.d := by omega
      simp [r1, this]
  · intro h
    rw [Bool.and_eq_true] at h
    obtain ⟨w1, h⟩ := h
    refine ⟨o.d.toNat, ?_, (wMask_bit _ _).2 ⟨w1, rfl⟩⟩
    rw [rMask_bit]
    unfold rdQ at h
    rw [Bool.or_eq_true, Bool.and_eq_true, Bool.and_eq_true] at h
    rcases h with ⟨r1, r2⟩ | ⟨r1, r2⟩
    · exact .inl ⟨r1, by rw [beq_iff_eq] at r2; rw [r2]⟩
    · exact .inr ⟨r1, by rw [beq_iff_eq] at r2; rw [r2]⟩

theorem meets_comm (x y : Nat) : meets x y = meets y x := by unfold meets; rw [Nat.and_comm]

theorem meets_ww {p o : Ord} {n n' : Int} (hp : isOrd p n = true) (ho : isOrd o n' = true) : meets (wMask p) (wMask o) = (wrD o.op && (wrD p.op && (p.d == o.d))) := by
  have h1 := isOrd_spec hp
  have h2 := isOrd_spec ho
  rw [Bool.eq_iff_iff, meets_iff]
  constructor
  · rintro ⟨r, hr, hw⟩
    rw [wMask_bit] at hr hw
    obtain ⟨w1, w2⟩ := hw
    obtain ⟨r1, r2⟩ := hr
    have : p.d = o.d := by omega
    simp [w1, r1, this]
  · intro h
    simp only [Bool.and_eq_true, beq_iff_eq] at h
    exact ⟨o.d.toNat, (wMask_bit _ _).2 ⟨h.2.1, by rw [h.2.2]⟩, (wMask_bit _ _).2 ⟨h.1, rfl⟩⟩

theorem any_take_congr {α : Type} {p q : α → Bool} {g : List α} (n : Nat) (h : ∀ (j : Nat) t, g[j]? = some t → p t = q t) : (g.take n).any p = (g.take n).any q := by
  have key : ∀ t ∈ g.take n, p t = q t := fun t ht => by
    obtain ⟨j, hj⟩ := List.getElem?_of_mem (List.mem_of_mem_take ht)
    exact h j t hj
  rw [Bool.eq_iff_iff, List.any_eq_true, List.any_eq_true]
  constructor
  · rintro ⟨t, ht, hp⟩
    exact ⟨t, ht, by rw [← key t ht]; exact hp⟩
  · rintro ⟨t, ht, hp⟩
    exact ⟨t, ht, by rw [key t ht]; exact hp⟩

theorem any_and {α : Type} (b : Bool) (p : α → Bool) (l : List α) : (l.any fun t => b && p t) = (b && l.any p) := by
  cases b <;> simp

theorem any_or {α : Type} (p q : α → Bool) (l : List α) : (l.any fun t => p t || q t) = (l.any p || l.any q) := by
  induction l with
  | nil => rfl
  | cons x l ih => simp only [List.any_cons, ih]; cases p x <;> cases q x <;> simp

/-- Is one ahead still to read the register? -/
def rdB' (g : List Tk) (i : Nat) (r : Int) : Bool := (g.take i).any fun t => rdQ t.o.op t.o.a t.o.b r && ((t.read : Int) == 0)

theorem toRead_w {g : List Tk} {n n' : Int} (hg : Ords n g) (i : Nat) {o : Ord} (ho : isOrd o n' = true) : toRead g i (wMask o) = (wrD o.op && rdB' g i o.d) := by
  unfold toRead rdB'
  rw [← any_and]
  refine any_take_congr i fun j t ht => ?_
  rw [meets_rw (hg j t ht) ho]
  cases wrD o.op <;> simp
  rw [Bool.and_comm]
  congr 1
  rw [Bool.eq_iff_iff]; simp

theorem toWrite_w {g : List Tk} {n n' : Int} (hg : Ords n g) (c i : Nat) {o : Ord} (ho : isOrd o n' = true) : toWrite g c i (wMask o) = (wrD o.op && awB g c i o.d) := by
  unfold toWrite awB
  rw [← any_and]
  refine any_take_congr i fun j t ht => ?_
  rw [meets_ww (hg j t ht) ho]
  cases wrD o.op <;> cases wrD t.o.op <;> simp

theorem toWrite_r {g : List Tk} {n n' : Int} (hg : Ords n g) (c i : Nat) {o : Ord} (ho : isOrd o n' = true) : toWrite g c i (rMask o) = ((rdA o.op && awB g c i o.a) || (rdB o.op && awB g c i o.b)) := by
  unfold toWrite awB
  rw [← any_and, ← any_and, ← any_or]
  refine any_take_congr i fun j t ht => ?_
  rw [meets_comm, meets_rw ho (hg j t ht)]
  unfold rdQ
  have e1 : (o.a == t.o.d) = (t.o.d == o.a) := by rw [Bool.eq_iff_iff, beq_iff_eq, beq_iff_eq]; exact ⟨Eq.symm, Eq.symm⟩
  have e2 : (o.b == t.o.d) = (t.o.d == o.b) := by rw [Bool.eq_iff_iff, beq_iff_eq, beq_iff_eq]; exact ⟨Eq.symm, Eq.symm⟩
  rw [e1, e2]
  cases wrD t.o.op <;> cases opensT c t <;> cases rdA o.op <;> cases rdB o.op <;> simp

/-- What an order writes that may. -/
theorem wMask_zero {o : Ord} : (wMask o = 0) ↔ wrD o.op = false := by
  unfold wMask bitOf
  cases h : wrD o.op with
  | true => simp
  | false => simp

theorem filter_take_succ {α : Type} (p : α → Bool) {g : List α} {i : Nat} {t : α} (ht : g[i]? = some t) : ((g.take (i + 1)).filter p).length = ((g.take i).filter p).length + (if p t = true then 1 else 0) := by
  have e : g.take (i + 1) = g.take i ++ [t] := by rw [List.take_add_one, ht]; rfl
  rw [e, List.filter_append, List.length_append, List.filter_cons]
  split <;> simp
theorem filter_take_le {α : Type} (p : α → Bool) (g : List α) (i : Nat) : ((g.take i).filter p).length ≤ g.length :=
  Nat.le_trans (List.length_filter_le _ _) (by rw [List.length_take]; omega)

end Go.Proofs.YtmeiogoodbnkkaaGreat

/- The document's board asked: settled, unit, mayWrite. -/
namespace Go.Proofs.YtmeiogoodbnkkaaGreat
open Go.RowKit

theorem allWrB_true {g : List Tk} {k : Nat} (h : ∀ j, j < k → ∀ t, g[j]? = some t → t.write ≠ 0) : allWr g k = true := by
  unfold allWr
  rw [List.all_eq_true]
  intro t ht
  obtain ⟨j, hj⟩ := List.getElem?_of_mem ht
  have hjn : j < k := by
    rcases Nat.lt_or_ge j k with h1 | h1
    · exact h1
    · rw [List.getElem?_take_eq_none h1] at hj
      exact absurd hj (by simp)
  rw [List.getElem?_take_of_lt hjn] at hj
  exact decide_eq_true (h j hjn t hj)
theorem allWrB_false {g : List Tk} {k j : Nat} {t : Tk} (hj : j < k) (ht : g[j]? = some t) (h : t.write = 0) : allWr g k = false := by
  unfold allWr
  rw [List.all_eq_false]
  exact ⟨t, List.mem_of_getElem? (i := j) (by rw [List.getElem?_take_of_lt hj]; exact ht), by simp [h]⟩

set_option maxRecDepth 100000 in
set_option maxHeartbeats 4000000 in
theorem settled_any (W : World) (B : Nat) (L : Lb) (m : Mc) (g : List (Tk × Xt)) (n : Nat) (h : RAt W B L m g) (hn : n ≤ g.length) (hsm : g.length ≤ 100000) :
    Calls Tryz.prog 59 #[.pointer (some ⟨L.D, 0, none⟩), .int .i64 n] W fun e w' => e = .returned (.bool (allWr m.given n)) ∧ w' = W := by
  have HR := hide h
  have hD := h.lt
  clear h
  go_enter Tryz.func59, Tryz.ntmps59
  go_wp2_with fail
  go_loopg [5] n (fun gq s5 wr => ∃ k : Nat, k ≤ n ∧ gq = n - k ∧ s5 = .int .i64 k ∧ (∀ j, j < k → ∀ t, m.given[j]? = some t → t.write ≠ 0) ∧ wr = W)
  case atStart => exact ⟨0, Nat.zero_le _, rfl, rfl, fun j hj => absurd hj (by omega), rfl⟩
  case round =>
    obtain ⟨k, hk1, hgk, rfl, hno, hwr⟩ := hrel
    subst hwr
    have HNO := hide hno
    clear hno
    rcases Nat.lt_or_ge k n with hki | hki
    · obtain ⟨⟨t, x⟩, hy⟩ : ∃ y, g[k]? = some y := ⟨_, List.getElem?_eq_getElem (by omega)⟩
      have hR := HR.out
      have ht : m.given[k]? = some t := hR.get hy
      obtain ⟨G, cap, hlv, _, hG⟩ := hR.row (i := k) (by omega)
      have c24 := hR.cLv
      rw [hlv] at c24
      have c9 : wr.cell? ⟨G, k * 15 + 9, none⟩ = some (.int .i64 t.write) := hR.gv hlv hy (j := 9) (by omega)
      have hkI : (k : Int) < (n : Int) := by omega
      have hkG : (k : Int) < (g.length : Int) := by omega
      have HGK := hide hgk
      have HT := hide ht
      clear hgk ht hy hlv hR
      cases hz : ((t.write : Int) == 0) with
      | true =>
        have HD : Hid (allWr m.given n = false) := allWrB_false hki HT.out (by have := hz; simp at this; omega)
        go_wp2_with fail
        go_ret
        exact ⟨by rw [HD.out]; rfl, rfl⟩
      | false =>
        have HNX : Hid (∀ j, j < k + 1 → ∀ t, m.given[j]? = some t → t.write ≠ 0) := by
          intro j hj t' ht'
          rcases Nat.lt_or_ge j k with h1 | h1
          · exact HNO.out j h1 t' ht'
          · have : j = k := by omega
            subst this
            rw [HT.out] at ht'
            cases ht'
            have := hz
            simp at this
            omega
        go_wp2_with fail
        have hgk := HGK.out
        go_roundg (n - (k + 1))
        case measure => omega
        case rel => exact ⟨k + 1, by omega, rfl, by go_num, HNX.out, rfl⟩
    · have hke : k = n := by omega
      subst hke
      have HD : Hid (allWr m.given k = true) := allWrB_true HNO.out
      clear hki hgk HNO
      go_wp2_with fail
      go_ret
      exact ⟨by rw [HD.out]; rfl, rfl⟩

set_option maxRecDepth 100000 in
set_option maxHeartbeats 4000000 in
theorem unit_any (W : World) (B : Nat) (L : Lb) (m : Mc) (g : List (Tk × Xt)) (kd : Nat) (h : RAt W B L m g) (hkd : kd < 4) (hsm : g.length ≤ 100000) :
    Calls Tryz.prog 57 #[.pointer (some ⟨L.D, 0, none⟩), .int .i64 kd] W fun e w' => e = .returned (.bool (freeU m kd)) ∧ Below W.heap.size W w' := by
  have HR := hide h
  have HL : Hid (g.length = m.given.length) := h.len
  obtain ⟨p, hp⟩ : ∃ p : Tk → Bool, p = fun t => decide (kindOf t.o.op = (kd : Int)) && opensT m.cycle t := ⟨_, rfl⟩
  obtain ⟨lp, lc, hlv0⟩ := h.sl
  have HF : Hid (freeU m kd = decide (((m.given.filter p).length : Int) < m.units.getD kd 0)) := by
    show freeU m kd = _
    unfold freeU
    rw [hp, Bool.eq_iff_iff]
    simp
  have HPP := hide hp
  clear h hp
  go_enter Tryz.func57, Tryz.ntmps57
  go_wp2_with fail
  go_loopg [5, 6] g.length (fun gq s5 s6 wr => ∃ k : Nat, k ≤ g.length ∧ gq = g.length - k ∧ s6 = .int .i64 k ∧ s5 = .int .i64 ((m.given.take k).filter p).length ∧ Below W.heap.size W wr)
  case atStart => exact ⟨0, Nat.zero_le _, rfl, rfl, rfl, Below.refl _ _⟩
  case round =>
    obtain ⟨k, hk1, hgk, rfl, rfl, hbr⟩ := hrel
    rename World => V
    have hR := HR.out.below hbr
    have c24' : V.cell? ⟨L.D, 24, none⟩ = some (.slice lp g.length lc) := by rw [hR.cLv, hlv0]
    have hD := hR.lt
    rcases Nat.lt_or_ge k g.length with hki | hki
    · obtain ⟨⟨t, x⟩, hy⟩ : ∃ y, g[k]? = some y := ⟨_, List.getElem?_eq_getElem (by omega)⟩
      have ht : m.given[k]? = some t := hR.get hy
      obtain ⟨G, cap, hlv, _, hG⟩ := HR.out.row (i := k) (by omega)
      rw [hlv0] at hlv
      injection hlv with e1 e2 e3
      subst e1
      subst e3
      have c24 : ∀ w', Below V.heap.size V w' → w'.cell? ⟨L.D, 24, none⟩ = some (.slice (some ⟨G, 0, none⟩) g.length lc) := fun w' h => by rw [(hR.below h).cLv, hlv0]
      have c0 : ∀ w', Below V.heap.size V w' → w'.cell? ⟨G, k * 15, none⟩ = some (.int .i64 t.o.op) := fun w' h => (hR.below h).gv hlv0 hy (j := 0) (by omega)
      have KO : Hid (∀ w', Below V.heap.size V w' → Calls Tryz.prog 75 #[.pointer (some ⟨L.D, 0, none⟩), .int .i64 k] w' fun e w'' => e = .returned (.bool (opensT m.cycle t)) ∧ Below w'.heap.size w' w'') := fun w' h => open_any w' B L m g k t x (hR.below h) hy
      have KK : Hid (∀ w', Calls Tryz.prog 56 #[.int .i64 t.o.op] w' fun e w'' => e = .returned (.int .i64 (kindOf t.o.op)) ∧ w'' = w') := fun w' => Kind_any _ w'
      have hGV : G < V.heap.size := Nat.lt_of_lt_of_le hG hbr.size
      have hkG : (k : Int) < (g.length : Int) := by omega
      have hcn : (((m.given.take k).filter p).length : Int) ≤ 100000 := by have := filter_take_le p m.given k; have := HL.out; omega
      have HS : Hid (((m.given.take (k + 1)).filter p).length = ((m.given.take k).filter p).length + (if p t = true then 1 else 0)) := filter_take_succ p ht
      have HPT : Hid (p t = ((kindOf t.o.op == (kd : Int)) && opensT m.cycle t)) := by
        show p t = _
        rw [HPP.out]
        rfl
      have HGK := hide hgk
      have HBR := hide hbr
      clear hgk ht hy hR
      have hrv : Below V.heap.size V V := Below.refl _ _
      go_upto_region 6 with (go_at_call 75; with_reducible refine (KO.out _ (by with_reducible assumption)).mono ?_; rintro e vb ⟨rfl, hbvb⟩; have hlb : L.D < vb.heap.size := (Nat.lt_of_lt_of_le hD hbvb.size); have hGb : G < vb.heap.size := (Nat.lt_of_lt_of_le hGV hbvb.size))
      have HB2 : Hid (Below W.heap.size W vb) := bThen HBR.out hbvb
      generalize opensT m.cycle t = q2 at *
      generalize kindOf t.o.op = kk at *
      have CL : Hid (∀ w', Calls Tryz.prog 56 #[.int .i64 t.o.op] w' fun e w'' => e = .returned (.int .i64 kk) ∧ w'' = w') := KK
      cases q2 with
      | false =>
        have HE : Hid ((((m.given.take (k + 1)).filter p).length : Int) = ((m.given.take k).filter p).length) := by
          show (((m.given.take (k + 1)).filter p).length : Int) = _
          rw [HS.out, HPT.out]; simp
        go_wp2_with fail
        have hgk := HGK.out
        go_roundg (g.length - (k + 1))
        case measure => omega
        case rel => exact ⟨k + 1, by omega, rfl, by go_num, by rw [HE.out], HB2.out⟩
      | true =>
        cases hq : (kk == (kd : Int)) with
        | false =>
          have HE : Hid ((((m.given.take (k + 1)).filter p).length : Int) = ((m.given.take k).filter p).length) := by
            show (((m.given.take (k + 1)).filter p).length : Int) = _
            rw [HS.out, HPT.out, hq]; simp
          go_wp2_with (go_at_call 56; with_reducible refine (CL.out _).mono ?_; rintro e W' ⟨rfl, hW'⟩; have hW'' := hW'.symm; clear hW'; subst hW'')
          have hgk := HGK.out
          go_roundg (g.length - (k + 1))
          case measure => omega
          case rel => exact ⟨k + 1, by omega, rfl, by go_num, by rw [HE.out], HB2.out⟩
        | true =>
          have HE : Hid ((((m.given.take (k + 1)).filter p).length : Int) = ((m.given.take k).filter p).length + 1) := by
            show (((m.given.take (k + 1)).filter p).length : Int) = _
            rw [HS.out, HPT.out, hq]; simp
          go_wp2_with (go_at_call 56; with_reducible refine (CL.out _).mono ?_; rintro e W' ⟨rfl, hW'⟩; have hW'' := hW'.symm; clear hW'; subst hW'')
          have hgk := HGK.out
          go_roundg (g.length - (k + 1))
          case measure => omega
          case rel => exact ⟨k + 1, by omega, rfl, by go_num, by rw [HE.out], HB2.out⟩
    · have hke : k = g.length := by omega
      have hT : (m.given.take k).filter p = m.given.filter p := by rw [hke, HL.out, List.take_length]
      rw [hT] at *
      have cu : V.cell? ⟨L.D, kd, none⟩ = some (.int .i64 (m.units.getD kd 0)) := hR.cUnit hkd
      have hk4 : (kd : Int) < 4 := by omega
      have hnk : ¬ ((k : Int) < (g.length : Int)) := by omega
      clear hki hgk hR hT hke
      go_wp2_with fail
      go_ret
      exact ⟨by rw [HF.out]; rfl, hbr⟩

end Go.Proofs.YtmeiogoodbnkkaaGreat

/- The document's board asked: may an order write? -/
namespace Go.Proofs.YtmeiogoodbnkkaaGreat
open Go.RowKit

theorem rdB_true {g : List Tk} {k j : Nat} {r : Int} {t : Tk} (hj : j < k) (ht : g[j]? = some t) (h : (rdQ t.o.op t.o.a t.o.b r && ((t.read : Int) == 0)) = true) : rdB' g k r = true := by
  unfold rdB'
  rw [List.any_eq_true]
  exact ⟨t, List.mem_of_getElem? (i := j) (by rw [List.getElem?_take_of_lt hj]; exact ht), h⟩
theorem rdB_false {g : List Tk} {k : Nat} {r : Int} (h : ∀ j, j < k → ∀ t, g[j]? = some t → (rdQ t.o.op t.o.a t.o.b r && ((t.read : Int) == 0)) = false) : rdB' g k r = false := by
  unfold rdB'
  exact (any_take _ _ _).2 fun j t hj ht => h j hj t ht

set_option maxRecDepth 100000 in
set_option maxHeartbeats 8000000 in
theorem rMayWrite_any (W : World) (B : Nat) (L : Lb) (m : Mc) (g : List (Tk × Xt)) (i : Nat) (t : Tk) (x : Xt) (n : Int) (h : RAt W B L m g) (hi : g[i]? = some (t, x)) (hsm : g.length ≤ 100000) (ho : Ords n m.given) :
    Calls Tryz.prog 51 #[.pointer (some ⟨L.D, 0, none⟩), .int .i64 i] W fun e w' => e = .returned (.bool (mayW m.given m.cycle i t)) ∧ Below W.heap.size W w' := by
  have hlt : i < g.length := (List.getElem?_eq_some_iff.1 hi).1
  obtain ⟨G, cap, hlv, _, hG⟩ := h.row hlt
  have ht := h.get hi
  have HMW : Hid (mayW m.given m.cycle i t = (((t.write : Int) == 0) && (t.trap == 0) && !((t.done : Int) == 0) && decide ((t.done : Int) < m.cycle) && !(wrD t.o.op && rdB' m.given i t.o.d))) := by
    show mayW m.given m.cycle i t = _
    unfold mayW
    rw [toRead_w ho i (ho i t ht)]
    generalize (wrD t.o.op && rdB' m.given i t.o.d) = q
    rw [Bool.eq_iff_iff]
    simp
    omega
  have c24 := h.cLv
  rw [hlv] at c24
  have hD := h.lt
  have hiI : (i : Int) < (g.length : Int) := by omega
  have k0 : W.cell? ⟨G, i * 15, none⟩ = some (.int .i64 t.o.op) := h.gv hlv hi (j := 0) (by omega)
  have k1 : W.cell? ⟨G, i * 15 + 1, none⟩ = some (.int .i64 t.o.d) := h.gv hlv hi (j := 1) (by omega)
  have k2 : W.cell? ⟨G, i * 15 + 2, none⟩ = some (.int .i64 t.o.a) := h.gv hlv hi (j := 2) (by omega)
  have k3 : W.cell? ⟨G, i * 15 + 3, none⟩ = some (.int .i64 t.o.b) := h.gv hlv hi (j := 3) (by omega)
  have k4 : W.cell? ⟨G, i * 15 + 4, none⟩ = some (.int .i64 t.o.k) := h.gv hlv hi (j := 4) (by omega)
  have k5 : W.cell? ⟨G, i * 15 + 5, none⟩ = some (.int .i64 t.number) := h.gv hlv hi (j := 5) (by omega)
  have k6 : W.cell? ⟨G, i * 15 + 6, none⟩ = some (.int .i64 t.issue) := h.gv hlv hi (j := 6) (by omega)
  have k7 : W.cell? ⟨G, i * 15 + 7, none⟩ = some (.int .i64 t.read) := h.gv hlv hi (j := 7) (by omega)
  have k8 : W.cell? ⟨G, i * 15 + 8, none⟩ = some (.int .i64 t.done) := h.gv hlv hi (j := 8) (by omega)
  have k9 : W.cell? ⟨G, i * 15 + 9, none⟩ = some (.int .i64 t.write) := h.gv hlv hi (j := 9) (by omega)
  have k10 : W.cell? ⟨G, i * 15 + 10, none⟩ = some (.int .i64 x.value) := h.gv hlv hi (j := 10) (by omega)
  have k11 : W.cell? ⟨G, i * 15 + 11, none⟩ = some (.int .i64 x.loc) := h.gv hlv hi (j := 11) (by omega)
  have k12 : W.cell? ⟨G, i * 15 + 12, none⟩ = some (.int .i64 t.trap) := h.gv hlv hi (j := 12) (by omega)
  have k13 : W.cell? ⟨G, i * 15 + 13, none⟩ = some (.int .i64 x.old) := h.gv hlv hi (j := 13) (by omega)
  have k14 : W.cell? ⟨G, i * 15 + 14, none⟩ = some (.int .i64 x.turn) := h.gv hlv hi (j := 14) (by omega)
  have HR := hide h
  have HI := hide hi
  have HT := hide ht
  clear h hi ht
  go_enter Tryz.func51, Tryz.ntmps51
  go_upto_region 2 with fail
  clear c24 k0 k1 k2 k3 k4 k5 k6 k7 k8 k9 k10 k11 k12 k13 k14
  obtain ⟨V, hV⟩ : ∃ V, W.alloc (.cells #[.int .i64 t.o.op, .int .i64 t.o.d, .int .i64 t.o.a, .int .i64 t.o.b, .int .i64 t.o.k, .int .i64 t.number, .int .i64 t.issue, .int .i64 t.read, .int .i64 t.done, .int .i64 t.write, .int .i64 x.value, .int .i64 x.loc, .int .i64 t.trap, .int .i64 x.old, .int .i64 x.turn] 81) = V := ⟨_, rfl⟩
  rw [hV]
  have hbV : Below W.heap.size W V := by rw [← hV]; exact bSt (Below.refl _ _) _
  have gX : V.heap[W.heap.size]? = some (.cells #[.int .i64 t.o.op, .int .i64 t.o.d, .int .i64 t.o.a, .int .i64 t.o.b, .int .i64 t.o.k, .int .i64 t.number, .int .i64 t.issue, .int .i64 t.read, .int .i64 t.done, .int .i64 t.write, .int .i64 x.value, .int .i64 x.loc, .int .i64 t.trap, .int .i64 x.old, .int .i64 x.turn] 81 (0, 0)) := by rw [← hV]; exact heap_alloc_new _ _
  have hlX : W.heap.size < V.heap.size := (Array.getElem?_eq_some_iff.1 gX).1
  clear hV
  have HBV := hide hbV
  have hDV : L.D < V.heap.size := Nat.lt_of_lt_of_le hD hbV.size
  have hGV : G < V.heap.size := Nat.lt_of_lt_of_le hG hbV.size
  have hRV := HR.out.below hbV
  have HRV := hide hRV
  have c23 : V.cell? ⟨L.D, 23, none⟩ = some (.int .i64 m.cycle) := hRV.cCycle
  have x0 : ∀ w', Below V.heap.size V w' → w'.cell? ⟨W.heap.size, 0, none⟩ = some (.int .i64 t.o.op) := fun w' h => by rw [h.cell (p := ⟨W.heap.size, 0, none⟩) hlX, cell_of_row _ _ _ _ _ _ gX]; rfl
  have x1 : ∀ w', Below V.heap.size V w' → w'.cell? ⟨W.heap.size, 1, none⟩ = some (.int .i64 t.o.d) := fun w' h => by rw [h.cell (p := ⟨W.heap.size, 1, none⟩) hlX, cell_of_row _ _ _ _ _ _ gX]; rfl
  have x2 : ∀ w', Below V.heap.size V w' → w'.cell? ⟨W.heap.size, 2, none⟩ = some (.int .i64 t.o.a) := fun w' h => by rw [h.cell (p := ⟨W.heap.size, 2, none⟩) hlX, cell_of_row _ _ _ _ _ _ gX]; rfl
  have x3 : ∀ w', Below V.heap.size V w' → w'.cell? ⟨W.heap.size, 3, none⟩ = some (.int .i64 t.o.b) := fun w' h => by rw [h.cell (p := ⟨W.heap.size, 3, none⟩) hlX, cell_of_row _ _ _ _ _ _ gX]; rfl
  have x4 : ∀ w', Below V.heap.size V w' → w'.cell? ⟨W.heap.size, 4, none⟩ = some (.int .i64 t.o.k) := fun w' h => by rw [h.cell (p := ⟨W.heap.size, 4, none⟩) hlX, cell_of_row _ _ _ _ _ _ gX]; rfl
  have x8 : ∀ w', Below V.heap.size V w' → w'.cell? ⟨W.heap.size, 8, none⟩ = some (.int .i64 t.done) := fun w' h => by rw [h.cell (p := ⟨W.heap.size, 8, none⟩) hlX, cell_of_row _ _ _ _ _ _ gX]; rfl
  have x9 : ∀ w', Below V.heap.size V w' → w'.cell? ⟨W.heap.size, 9, none⟩ = some (.int .i64 t.write) := fun w' h => by rw [h.cell (p := ⟨W.heap.size, 9, none⟩) hlX, cell_of_row _ _ _ _ _ _ gX]; rfl
  have x12 : ∀ w', Below V.heap.size V w' → w'.cell? ⟨W.heap.size, 12, none⟩ = some (.int .i64 t.trap) := fun w' h => by rw [h.cell (p := ⟨W.heap.size, 12, none⟩) hlX, cell_of_row _ _ _ _ _ _ gX]; rfl
  have z8 : V.cell? ⟨W.heap.size, 8, none⟩ = some (.int .i64 t.done) := x8 V (Below.refl _ _)
  have z9 : V.cell? ⟨W.heap.size, 9, none⟩ = some (.int .i64 t.write) := x9 V (Below.refl _ _)
  have z12 : V.cell? ⟨W.heap.size, 12, none⟩ = some (.int .i64 t.trap) := x12 V (Below.refl _ _)
  clear hbV gX hRV
  have ARM : ∀ q : Bool, q = q := fun _ => rfl
  clear ARM
  cases e1 : ((t.write : Int) == 0) with
  | false =>
    have e1' : ((t.write : Int) != 0) = true := by rw [bne, e1]; rfl
    clear x0 x1 x2 x3 x4 x8 x9 x12
    go_quiet (fail)
    go_wp2_with fail
    go_ret
    exact ⟨by rw [HMW.out, e1]; rfl, below_drewN HBV.out _⟩
  | true =>
  have e1' : ((t.write : Int) != 0) = false := by rw [bne, e1]; rfl
  cases e2 : (t.trap == 0) with
  | false =>
    have e2' : (t.trap != 0) = true := by rw [bne, e2]; rfl
    clear x0 x1 x2 x3 x4 x8 x9 x12
    go_quiet (fail)
    go_wp2_with fail
    go_ret
    exact ⟨by rw [HMW.out, e1, e2]; rfl, below_drewN HBV.out _⟩
  | true =>
  have e2' : (t.trap != 0) = false := by rw [bne, e2]; rfl
  cases e3 : ((t.done : Int) == 0) with
  | true =>
    clear x0 x1 x2 x3 x4 x8 x9 x12
    go_quiet (fail)
    go_wp2_with fail
    go_ret
    exact ⟨by rw [HMW.out, e1, e2, e3]; rfl, below_drewN HBV.out _⟩
  | false =>
  by_cases e4 : (m.cycle : Int) ≤ t.done
  · have e4' : decide (m.cycle ≤ t.done) = true := decide_eq_true (by omega)
    have E5 : Hid (decide ((t.done : Int) < m.cycle) = false) := decide_eq_false (by omega)
    clear x0 x1 x2 x3 x4 x8 x9 x12 e4
    go_quiet (fail)
    go_wp2_with fail
    go_ret
    exact ⟨by rw [HMW.out, e1, e2, e3, E5.out]; rfl, below_drewN HBV.out _⟩
  have e4' : decide (m.cycle ≤ t.done) = false := decide_eq_false (by omega)
  have HMW2 : Hid (mayW m.given m.cycle i t = !(wrD t.o.op && rdB' m.given i t.o.d)) := by
    show mayW m.given m.cycle i t = _
    rw [HMW.out, e1, e2, e3, decide_eq_true (show (t.done : Int) < m.cycle by omega)]
    rfl
  have KW : Hid (∀ W, Calls Tryz.prog 58 #[.agg #[.int .i64 t.o.op, .int .i64 t.o.d, .int .i64 t.o.a, .int .i64 t.o.b, .int .i64 t.o.k]] W fun e w' => e = .returned (.bool (wrD t.o.op)) ∧ Below W.heap.size W w') := fun W => rWrites_any _ _ _ _ _ W
  clear e4 HMW
  go_quiet (fail)
  rename_i nq
  obtain ⟨V1, hV1⟩ : ∃ V1, V.drewN nq = V1 := ⟨_, rfl⟩
  rw [hV1]
  have hrb : Below V.heap.size V V1 := by rw [← hV1]; exact below_drewN (Below.refl _ _) _
  clear hV1 z8 z9 z12 c23
  have hX1 : W.heap.size < V1.heap.size := Nat.lt_of_lt_of_le hlX hrb.size
  go_upto_region 5 with (go_at_call 58; with_reducible refine (KW.out _).mono ?_; rintro e va ⟨rfl, hbva⟩; have hBva : Below V.heap.size V va := (bThen hrb hbva))
  generalize hwd : wrD t.o.op = wd at *
  cases wd with
  | false =>
    clear x0 x1 x2 x3 x4 x8 x9 x12
    have hI0 : (0 : Int) ≤ i := by omega
    go_wp2_with fail
    go_loopg [7] 0 (fun gq s7 wr => gq = 0 ∧ s7 = .int .i64 0 ∧ wr = va)
    case atStart => exact ⟨rfl, rfl, rfl⟩
    case round =>
      obtain ⟨rfl, rfl, hwr⟩ := hrel
      subst hwr
      by_cases hi0 : (0 : Int) < i
      · go_wp2_with fail
        go_ret
        exact ⟨by rw [HMW2.out]; rfl, bThen HBV.out hBva⟩
      · go_wp2_with fail
        go_ret
        exact ⟨by rw [HMW2.out]; rfl, bThen HBV.out hBva⟩
  | true =>
    have HMW3 : Hid (mayW m.given m.cycle i t = !rdB' m.given i t.o.d) := by
      show mayW m.given m.cycle i t = _
      rw [HMW2.out]; rfl
    clear HMW2 x0 x2 x3 x4 x8 x9 x12 KW
    go_wp2_with fail
    go_loopg [7, 8] i (fun gq s7 _ wr => ∃ k : Nat, k ≤ i ∧ gq = i - k ∧ s7 = .int .i64 k ∧ (∀ j, j < k → ∀ s, m.given[j]? = some s → (rdQ s.o.op s.o.a s.o.b t.o.d && ((s.read : Int) == 0)) = false) ∧ Below V.heap.size V wr)
    case atStart => exact ⟨0, Nat.zero_le _, rfl, rfl, fun j hj => absurd hj (by omega), hBva⟩
    case round =>
      obtain ⟨k, hk1, hgk, rfl, hno, hbr⟩ := hrel
      have HNO := hide hno
      clear hno
      rename World => Vk
      rcases Nat.lt_or_ge k i with hki | hki
      · obtain ⟨⟨s, y⟩, hy⟩ : ∃ y, g[k]? = some y := ⟨_, List.getElem?_eq_getElem (by omega)⟩
        have hR := HRV.out.below hbr
        have hs : m.given[k]? = some s := hR.get hy
        have c24 : Vk.cell? ⟨L.D, 24, none⟩ = some (.slice (some ⟨G, 0, none⟩) g.length cap) := by rw [hR.cLv, hlv]
        have xd : Vk.cell? ⟨W.heap.size, 1, none⟩ = some (.int .i64 t.o.d) := x1 Vk hbr
        have c0 : Vk.cell? ⟨G, k * 15, none⟩ = some (.int .i64 s.o.op) := hR.gv hlv hy (j := 0) (by omega)
        have c1 : Vk.cell? ⟨G, k * 15 + 1, none⟩ = some (.int .i64 s.o.d) := hR.gv hlv hy (j := 1) (by omega)
        have c2 : Vk.cell? ⟨G, k * 15 + 2, none⟩ = some (.int .i64 s.o.a) := hR.gv hlv hy (j := 2) (by omega)
        have c3 : Vk.cell? ⟨G, k * 15 + 3, none⟩ = some (.int .i64 s.o.b) := hR.gv hlv hy (j := 3) (by omega)
        have c4 : Vk.cell? ⟨G, k * 15 + 4, none⟩ = some (.int .i64 s.o.k) := hR.gv hlv hy (j := 4) (by omega)
        have c7 : ∀ w', Below Vk.heap.size Vk w' → w'.cell? ⟨G, k * 15 + 7, none⟩ = some (.int .i64 s.read) := fun w' h => (hR.below h).gv hlv hy (j := 7) (by omega)
        have d24 : ∀ w', Below Vk.heap.size Vk w' → w'.cell? ⟨L.D, 24, none⟩ = some (.slice (some ⟨G, 0, none⟩) g.length cap) := fun w' h => by rw [(hR.below h).cLv, hlv]
        have KR : Hid (∀ W, Calls Tryz.prog 74 #[.agg #[.int .i64 s.o.op, .int .i64 s.o.d, .int .i64 s.o.a, .int .i64 s.o.b, .int .i64 s.o.k], .int .i64 t.o.d] W fun e w' => e = .returned (.bool (rdQ s.o.op s.o.a s.o.b t.o.d)) ∧ Below W.heap.size W w') := fun W => rReads_any _ _ _ _ _ _ W
        have hDk := hR.lt
        have hGk : G < Vk.heap.size := Nat.lt_of_lt_of_le hGV hbr.size
        have hkI : (k : Int) < (i : Int) := by omega
        have hkG : (k : Int) < (g.length : Int) := by omega
        have HNEXT : Hid ((rdQ s.o.op s.o.a s.o.b t.o.d && ((s.read : Int) == 0)) = false → ∀ j, j < k + 1 → ∀ s, m.given[j]? = some s → (rdQ s.o.op s.o.a s.o.b t.o.d && ((s.read : Int) == 0)) = false) := by
          intro hf j hj t' ht'
          rcases Nat.lt_or_ge j k with h1 | h1
          · exact HNO.out j h1 t' ht'
          · have : j = k := by omega
            subst this
            rw [hs] at ht'
            cases ht'
            exact hf
        have HDONE : Hid ((rdQ s.o.op s.o.a s.o.b t.o.d && ((s.read : Int) == 0)) = true → rdB' m.given i t.o.d = true) := fun hq => rdB_true hki hs hq
        have HGK := hide hgk
        have HBR := hide hbr
        clear hgk hs hy hR HNO x1
        generalize rdQ s.o.op s.o.a s.o.b t.o.d = q at *
        go_upto_region 8 with fail
        refine wp_region_still_tail 11 (by kernel_rfl) (by kernel_rfl) ?_
        simp only [List.take_succ_cons, List.take_zero, List.drop_succ_cons, List.drop_zero]
        repeat still_step
        refine wpStill_nil ?_
        go_upto_region 9 with (go_at_call 74; with_reducible refine (KR.out _).mono ?_; rintro e vb ⟨rfl, hbvb'⟩)
        have hbvb : Below Vk.heap.size Vk vb := bThen (w := Vk) (W := Vk.drew) (Below.refl _ _).drew hbvb'
        have hDb : L.D < vb.heap.size := Nat.lt_of_lt_of_le hDk hbvb.size
        have hGb : G < vb.heap.size := Nat.lt_of_lt_of_le hGk hbvb.size
        clear hbvb' c24 c0 c1 c2 c3 c4 xd
        have HB2 : Hid (Below V.heap.size V vb) := bThen HBR.out hbvb
        cases q with
        | false =>
          go_wp2_with fail
          have hgk := HGK.out
          go_roundg (i - (k + 1))
          case measure => omega
          case rel => exact ⟨k + 1, by omega, rfl, by go_num, HNEXT.out rfl, HB2.out⟩
        | true =>
          cases hq : ((s.read : Int) == 0) with
          | false =>
            go_wp2_with fail
            have hgk := HGK.out
            go_roundg (i - (k + 1))
            case measure => omega
            case rel => exact ⟨k + 1, by omega, rfl, by go_num, HNEXT.out (by rw [hq]; rfl), HB2.out⟩
          | true =>
            go_wp2_with fail
            go_ret
            exact ⟨by rw [HMW3.out, HDONE.out (by rw [hq]; rfl)]; rfl, bThen HBV.out HB2.out⟩
      · have hke : k = i := by omega
        subst hke
        have HD : Hid (rdB' m.given k t.o.d = false) := rdB_false HNO.out
        clear hki hgk HNO
        go_wp2_with fail
        go_ret
        exact ⟨by rw [HMW3.out, HD.out]; rfl, bThen HBV.out hbr⟩

end Go.Proofs.YtmeiogoodbnkkaaGreat

/- The document's board: an order writes. -/
namespace Go.Proofs.YtmeiogoodbnkkaaGreat
open Go.RowKit

/-- What an order that writes has ready. -/
def RdyB (ml : Nat) (t : Tk) (x : Xt) : Prop := (t.o.op = 7 ∧ 0 ≤ x.loc ∧ x.loc < ml ∧ t.tgt = 2 ∧ t.pl = x.loc ∧ t.val = x.value) ∨ (t.o.op ≠ 7 ∧ 0 ≤ t.o.d ∧ t.o.d < 8 ∧ t.tgt = 1 ∧ t.pl = t.o.d ∧ t.val = x.value)

/-- What the board holds of it then. -/
def wroteX (m : Mc) (t : Tk) (x : Xt) : Tk × Xt := ({ t with write := m.cycle }, { x with old := oldV t.tgt t.pl t.val m.regs m.mem m.next, turn := m.changes.length + 1 })

set_option maxRecDepth 100000 in
set_option maxHeartbeats 8000000 in
theorem rWrite_any (W : World) (B : Nat) (L : Lb) (m : Mc) (g : List (Tk × Xt)) (i : Nat) (t : Tk) (x : Xt) (h : RAt W B L m g) (hi : g[i]? = some (t, x)) (hcs : m.changes.length ≤ 1000000) (hr : RdyB m.mem.length t x) :
    Calls Tryz.prog 52 #[.pointer (some ⟨L.D, 0, none⟩), .int .i64 i] W fun e w' => e = .returned (.tuple #[]) ∧ RAt w' B L (writeT i t m) (g.set i (wroteX m t x)) ∧ Kb B W w' := by
  have hlt : i < g.length := (List.getElem?_eq_some_iff.1 hi).1
  obtain ⟨G, cap, hlv, hBG, hG⟩ := h.row hlt
  have c24 := h.cLv
  rw [hlv] at c24
  have hD := h.lt
  have hiI : (i : Int) < (g.length : Int) := by omega
  have k0 : W.cell? ⟨G, i * 15, none⟩ = some (.int .i64 t.o.op) := h.gv hlv hi (j := 0) (by omega)
  have k1 : W.cell? ⟨G, i * 15 + 1, none⟩ = some (.int .i64 t.o.d) := h.gv hlv hi (j := 1) (by omega)
  have k2 : W.cell? ⟨G, i * 15 + 2, none⟩ = some (.int .i64 t.o.a) := h.gv hlv hi (j := 2) (by omega)
  have k3 : W.cell? ⟨G, i * 15 + 3, none⟩ = some (.int .i64 t.o.b) := h.gv hlv hi (j := 3) (by omega)
  have k4 : W.cell? ⟨G, i * 15 + 4, none⟩ = some (.int .i64 t.o.k) := h.gv hlv hi (j := 4) (by omega)
  have k5 : W.cell? ⟨G, i * 15 + 5, none⟩ = some (.int .i64 t.number) := h.gv hlv hi (j := 5) (by omega)
  have k6 : W.cell? ⟨G, i * 15 + 6, none⟩ = some (.int .i64 t.issue) := h.gv hlv hi (j := 6) (by omega)
  have k7 : W.cell? ⟨G, i * 15 + 7, none⟩ = some (.int .i64 t.read) := h.gv hlv hi (j := 7) (by omega)
  have k8 : W.cell? ⟨G, i * 15 + 8, none⟩ = some (.int .i64 t.done) := h.gv hlv hi (j := 8) (by omega)
  have k9 : W.cell? ⟨G, i * 15 + 9, none⟩ = some (.int .i64 t.write) := h.gv hlv hi (j := 9) (by omega)
  have k10 : W.cell? ⟨G, i * 15 + 10, none⟩ = some (.int .i64 x.value) := h.gv hlv hi (j := 10) (by omega)
  have k11 : W.cell? ⟨G, i * 15 + 11, none⟩ = some (.int .i64 x.loc) := h.gv hlv hi (j := 11) (by omega)
  have k12 : W.cell? ⟨G, i * 15 + 12, none⟩ = some (.int .i64 t.trap) := h.gv hlv hi (j := 12) (by omega)
  have k13 : W.cell? ⟨G, i * 15 + 13, none⟩ = some (.int .i64 x.old) := h.gv hlv hi (j := 13) (by omega)
  have k14 : W.cell? ⟨G, i * 15 + 14, none⟩ = some (.int .i64 x.turn) := h.gv hlv hi (j := 14) (by omega)
  have HR := hide h
  have HI := hide hi
  have HRD := hide hr
  clear h hi hr
  go_enter Tryz.func52, Tryz.ntmps52
  go_upto_region 1 with fail
  clear c24 k0 k1 k2 k3 k4 k5 k6 k7 k8 k9 k10 k11 k12 k13 k14
  obtain ⟨V, hV⟩ : ∃ V, W.alloc (.cells #[.int .i64 t.o.op, .int .i64 t.o.d, .int .i64 t.o.a, .int .i64 t.o.b, .int .i64 t.o.k, .int .i64 t.number, .int .i64 t.issue, .int .i64 t.read, .int .i64 t.done, .int .i64 t.write, .int .i64 x.value, .int .i64 x.loc, .int .i64 t.trap, .int .i64 x.old, .int .i64 x.turn] 81) = V := ⟨_, rfl⟩
  rw [hV]
  have hbV : Below W.heap.size W V := by rw [← hV]; exact bSt (Below.refl _ _) _
  have gX : V.heap[W.heap.size]? = some (.cells #[.int .i64 t.o.op, .int .i64 t.o.d, .int .i64 t.o.a, .int .i64 t.o.b, .int .i64 t.o.k, .int .i64 t.number, .int .i64 t.issue, .int .i64 t.read, .int .i64 t.done, .int .i64 t.write, .int .i64 x.value, .int .i64 x.loc, .int .i64 t.trap, .int .i64 x.old, .int .i64 x.turn] 81 (0, 0)) := by rw [← hV]; exact heap_alloc_new _ _
  clear hV
  have hRV := HR.out.below hbV
  have hFar : L.Far W.heap.size := HR.out.far (Nat.le_refl _)
  have n1 : ¬ L.D = W.heap.size := hFar.d
  have n1' : ¬ W.heap.size = L.D := fun e => hFar.d e.symm
  have n2 : ¬ G = W.heap.size := fun e => hFar.l (by rw [hlv, e]; rfl)
  have n2' : ¬ W.heap.size = G := fun e => n2 e.symm
  have n3 : ¬ L.D = G := fun e => row_ne hRV.giv hRV.blk (by decide) (by rw [hlv, e]; rfl)
  have n3' : ¬ G = L.D := fun e => n3 e.symm
  have HBV := hide hbV
  have HFAR := hide hFar
  have HRV := hide hRV
  have hDV := hRV.lt
  have hGV : G < V.heap.size := Nat.lt_of_lt_of_le hG hbV.size
  have hXV : W.heap.size < V.heap.size := (Array.getElem?_eq_some_iff.1 gX).1
  have c23 : V.cell? ⟨L.D, 23, none⟩ = some (.int .i64 m.cycle) := hRV.cCycle
  have c27 : V.cell? ⟨L.D, 27, none⟩ = some (.int .i64 m.changes.length) := hRV.cTurns
  have c24 : V.cell? ⟨L.D, 24, none⟩ = some (.slice (some ⟨G, 0, none⟩) g.length cap) := by rw [hRV.cLv, hlv]
  have fD : ∀ j, V.frozen? ⟨L.D, j, none⟩ = false := fun j => hRV.frozen j
  have fG : ∀ j, V.frozen? ⟨G, j, none⟩ = false := fun j => hRV.gvFrozen hlv j
  have fX : ∀ j, V.frozen? ⟨W.heap.size, j, none⟩ = false := fun j => frozen_of_row _ _ _ _ _ gX
  have x0 : V.cell? ⟨W.heap.size, 0, none⟩ = some (.int .i64 t.o.op) := by rw [cell_of_row _ _ _ _ _ _ gX]; rfl
  have x1 : V.cell? ⟨W.heap.size, 1, none⟩ = some (.int .i64 t.o.d) := by rw [cell_of_row _ _ _ _ _ _ gX]; rfl
  have x2 : V.cell? ⟨W.heap.size, 2, none⟩ = some (.int .i64 t.o.a) := by rw [cell_of_row _ _ _ _ _ _ gX]; rfl
  have x3 : V.cell? ⟨W.heap.size, 3, none⟩ = some (.int .i64 t.o.b) := by rw [cell_of_row _ _ _ _ _ _ gX]; rfl
  have x4 : V.cell? ⟨W.heap.size, 4, none⟩ = some (.int .i64 t.o.k) := by rw [cell_of_row _ _ _ _ _ _ gX]; rfl
  have x5 : V.cell? ⟨W.heap.size, 5, none⟩ = some (.int .i64 t.number) := by rw [cell_of_row _ _ _ _ _ _ gX]; rfl
  have x6 : V.cell? ⟨W.heap.size, 6, none⟩ = some (.int .i64 t.issue) := by rw [cell_of_row _ _ _ _ _ _ gX]; rfl
  have x7 : V.cell? ⟨W.heap.size, 7, none⟩ = some (.int .i64 t.read) := by rw [cell_of_row _ _ _ _ _ _ gX]; rfl
  have x8 : V.cell? ⟨W.heap.size, 8, none⟩ = some (.int .i64 t.done) := by rw [cell_of_row _ _ _ _ _ _ gX]; rfl
  have x9 : V.cell? ⟨W.heap.size, 9, none⟩ = some (.int .i64 t.write) := by rw [cell_of_row _ _ _ _ _ _ gX]; rfl
  have x10 : V.cell? ⟨W.heap.size, 10, none⟩ = some (.int .i64 x.value) := by rw [cell_of_row _ _ _ _ _ _ gX]; rfl
  have x11 : V.cell? ⟨W.heap.size, 11, none⟩ = some (.int .i64 x.loc) := by rw [cell_of_row _ _ _ _ _ _ gX]; rfl
  have x12 : V.cell? ⟨W.heap.size, 12, none⟩ = some (.int .i64 t.trap) := by rw [cell_of_row _ _ _ _ _ _ gX]; rfl
  have x13 : V.cell? ⟨W.heap.size, 13, none⟩ = some (.int .i64 x.old) := by rw [cell_of_row _ _ _ _ _ _ gX]; rfl
  have x14 : V.cell? ⟨W.heap.size, 14, none⟩ = some (.int .i64 x.turn) := by rw [cell_of_row _ _ _ _ _ _ gX]; rfl
  have y0 : V.cell? ⟨G, i * 15, none⟩ = some (.int .i64 t.o.op) := hRV.gv hlv HI.out (j := 0) (by omega)
  have y1 : V.cell? ⟨G, i * 15 + 1, none⟩ = some (.int .i64 t.o.d) := hRV.gv hlv HI.out (j := 1) (by omega)
  have y2 : V.cell? ⟨G, i * 15 + 2, none⟩ = some (.int .i64 t.o.a) := hRV.gv hlv HI.out (j := 2) (by omega)
  have y3 : V.cell? ⟨G, i * 15 + 3, none⟩ = some (.int .i64 t.o.b) := hRV.gv hlv HI.out (j := 3) (by omega)
  have y4 : V.cell? ⟨G, i * 15 + 4, none⟩ = some (.int .i64 t.o.k) := hRV.gv hlv HI.out (j := 4) (by omega)
  have y5 : V.cell? ⟨G, i * 15 + 5, none⟩ = some (.int .i64 t.number) := hRV.gv hlv HI.out (j := 5) (by omega)
  have y6 : V.cell? ⟨G, i * 15 + 6, none⟩ = some (.int .i64 t.issue) := hRV.gv hlv HI.out (j := 6) (by omega)
  have y7 : V.cell? ⟨G, i * 15 + 7, none⟩ = some (.int .i64 t.read) := hRV.gv hlv HI.out (j := 7) (by omega)
  have y8 : V.cell? ⟨G, i * 15 + 8, none⟩ = some (.int .i64 t.done) := hRV.gv hlv HI.out (j := 8) (by omega)
  have y9 : V.cell? ⟨G, i * 15 + 9, none⟩ = some (.int .i64 t.write) := hRV.gv hlv HI.out (j := 9) (by omega)
  have y10 : V.cell? ⟨G, i * 15 + 10, none⟩ = some (.int .i64 x.value) := hRV.gv hlv HI.out (j := 10) (by omega)
  have y11 : V.cell? ⟨G, i * 15 + 11, none⟩ = some (.int .i64 x.loc) := hRV.gv hlv HI.out (j := 11) (by omega)
  have y12 : V.cell? ⟨G, i * 15 + 12, none⟩ = some (.int .i64 t.trap) := hRV.gv hlv HI.out (j := 12) (by omega)
  have y13 : V.cell? ⟨G, i * 15 + 13, none⟩ = some (.int .i64 x.old) := hRV.gv hlv HI.out (j := 13) (by omega)
  have y14 : V.cell? ⟨G, i * 15 + 14, none⟩ = some (.int .i64 x.turn) := hRV.gv hlv HI.out (j := 14) (by omega)
  have hcI : (m.changes.length : Int) ≤ 1000000 := by omega
  have HLV := hide hlv
  have gX0 := hide gX
  clear hbV hFar hRV gX hlv y0 y1 y2 y3 y4 y5 y6 y7 y8 y9 y10 y11 y12 y13 y14
  obtain ⟨ch, hch⟩ : ∃ ch : Ch, ch = ⟨i, t.tgt, t.pl, oldV t.tgt t.pl t.val m.regs m.mem m.next⟩ := ⟨_, rfl⟩
  go_upto_region 4 with fail
  obtain ⟨V3, hV3⟩ : ∃ V3, (((V.setCell ⟨W.heap.size, 9, none⟩ (.int .i64 m.cycle)).setCell ⟨L.D, 27, none⟩ (.int .i64 ((m.changes.length : Int) + 1))).setCell ⟨W.heap.size, 14, none⟩ (.int .i64 ((m.changes.length : Int) + 1))) = V3 := ⟨_, rfl⟩
  rw [hV3]
  have hR3 : RAt V3 B L { m with changes := m.changes ++ [ch] } g := by
    have h1 := (HRV.out.other (j := 9) HFAR.out (.int .i64 m.cycle)).setTurns ch
    have h2 := h1.other (j := 14) HFAR.out (.int .i64 ((m.changes.length : Int) + 1))
    rw [← hV3]
    simpa using h2
  have K3 : Hid (Kb B W V3) := by
    have k1 : Kb B V (V.setCell ⟨W.heap.size, 9, none⟩ (.int .i64 m.cycle)) := (Kb.refl B V).set gX0.out (by simp [hotB]) (Nat.le_trans HR.out.base (Nat.le_of_lt HR.out.lt)) _
    have k2 := (HRV.out.other (j := 9) HFAR.out (.int .i64 m.cycle)).kbD 27 (.int .i64 ((m.changes.length : Int) + 1))
    have k0 : Kb B W ((V.setCell ⟨W.heap.size, 9, none⟩ (.int .i64 m.cycle)).setCell ⟨L.D, 27, none⟩ (.int .i64 ((m.changes.length : Int) + 1))) := ((Kb.of_below HBV.out).trans k1).trans k2
    rw [← hV3]
    exact k0.setNew (Nat.le_refl _) _
  have g3 : V3.heap[W.heap.size]? = some (.cells #[.int .i64 t.o.op, .int .i64 t.o.d, .int .i64 t.o.a, .int .i64 t.o.b, .int .i64 t.o.k, .int .i64 t.number, .int .i64 t.issue, .int .i64 t.read, .int .i64 t.done, .int .i64 m.cycle, .int .i64 x.value, .int .i64 x.loc, .int .i64 t.trap, .int .i64 x.old, .int .i64 ((m.changes.length : Int) + 1)] 81 (0, 0)) := by
    rw [← hV3]
    have e1 := heap_setCell_same _ _ 9 _ _ (.int .i64 m.cycle) gX0.out
    have e2 : ((V.setCell ⟨W.heap.size, 9, none⟩ (.int .i64 m.cycle)).setCell ⟨L.D, 27, none⟩ (.int .i64 ((m.changes.length : Int) + 1))).heap[W.heap.size]? = _ := (heap_setCell_other _ _ _ _ n1').trans e1
    exact (heap_setCell_same _ _ 14 _ _ (.int .i64 ((m.changes.length : Int) + 1)) e2).trans rfl
  clear hV3 c23 c27 c24 fD fG fX x0 x1 x2 x3 x4 x5 x6 x7 x8 x9 x10 x11 x12 x13 x14
  have HR3 := hide hR3
  have G3 := hide g3
  have hD3 := hR3.lt
  have hX3 : W.heap.size < V3.heap.size := (Array.getElem?_eq_some_iff.1 g3).1
  have fX3 : ∀ j, V3.frozen? ⟨W.heap.size, j, none⟩ = false := fun j => frozen_of_row _ _ _ _ _ g3
  have fD3 : ∀ j, V3.frozen? ⟨L.D, j, none⟩ = false := fun j => hR3.frozen j
  rcases HRD.out with ⟨h7, l0, l1, t1, t2, t3⟩ | ⟨h7, l0, l1, t1, t2, t3⟩
  · obtain ⟨ln, hln⟩ := Int.eq_ofNat_of_zero_le l0
    have e7 : (t.o.op == 7) = true := by simp [h7]
    have hlm : ln < m.mem.length := by omega
    obtain ⟨M, mc, hmv, hBM, hM⟩ : ∃ M mc, L.mv = .slice (some ⟨M, 0, none⟩) m.mem.length mc ∧ B ≤ M ∧ M < V3.heap.size := by
      rcases HR3.out.mem.form with ⟨_, h2⟩ | ⟨q, cq, cur, h2, h3, h4, _⟩
      · have h2' : m.mem = [] := h2
        rw [h2'] at hlm; simp at hlm
      · exact ⟨q, cq, h2, h3, h4⟩
    have c18 : V3.cell? ⟨L.D, 18, none⟩ = some (.slice (some ⟨M, 0, none⟩) m.mem.length mc) := by rw [HR3.out.cMv, hmv]
    have hme := HR3.out.mem
    rw [hmv] at hme
    have cM : V3.cell? ⟨M, ln, none⟩ = some (.int .i64 (m.mem.getD ln 0)) := by
      rw [World.ownsRow.cellAt hme ln (by simpa using hlm)]
      simp [List.getD_eq_getElem?_getD, hlm]
    have n4 : ¬ M = W.heap.size := fun e => HFAR.out.m (by rw [hmv, e]; rfl)
    have n4' : ¬ W.heap.size = M := fun e => n4 e.symm
    have hlI : (ln : Int) < (m.mem.length : Int) := by omega
    obtain ⟨oldv, holdv⟩ : ∃ v, v = m.mem.getD ln 0 := ⟨_, rfl⟩
    rw [← holdv] at cM
    have HOLD := hide holdv
    clear holdv
    have HME := hide hme
    have HMV := hide hmv
    clear h7 l0 l1 hme hmv
    have g3' : V3.heap[W.heap.size]? = some (.cells #[.int .i64 t.o.op, .int .i64 t.o.d, .int .i64 t.o.a, .int .i64 t.o.b, .int .i64 t.o.k, .int .i64 t.number, .int .i64 t.issue, .int .i64 t.read, .int .i64 t.done, .int .i64 m.cycle, .int .i64 x.value, .int .i64 ln, .int .i64 t.trap, .int .i64 x.old, .int .i64 ((m.changes.length : Int) + 1)] 81 (0, 0)) := by rw [G3.out, hln]
    have x0 : V3.cell? ⟨W.heap.size, 0, none⟩ = some (.int .i64 t.o.op) := by rw [cell_of_row _ _ _ _ _ _ g3']; rfl
    have x1 : V3.cell? ⟨W.heap.size, 1, none⟩ = some (.int .i64 t.o.d) := by rw [cell_of_row _ _ _ _ _ _ g3']; rfl
    have x11 : V3.cell? ⟨W.heap.size, 11, none⟩ = some (.int .i64 ln) := by rw [cell_of_row _ _ _ _ _ _ g3']; rfl
    have x10 : V3.cell? ⟨W.heap.size, 10, none⟩ = some (.int .i64 x.value) := by rw [cell_of_row _ _ _ _ _ _ g3']; rfl
    have x13 : V3.cell? ⟨W.heap.size, 13, none⟩ = some (.int .i64 x.old) := by rw [cell_of_row _ _ _ _ _ _ g3']; rfl
    go_upto_region 5 with fail
    refine wp_region_still_tail 10 (by kernel_rfl) (by kernel_rfl) ?_
    simp only [List.take_succ_cons, List.take_zero, List.drop_succ_cons, List.drop_zero]
    repeat still_step
    refine wpStill_nil ?_
    go_upto_region 6 with fail
    obtain ⟨V4, hV4⟩ : ∃ V4, (V3.setCell ⟨W.heap.size, 13, none⟩ (.int .i64 oldv)).drew = V4 := ⟨_, rfl⟩
    rw [hV4]
    have hR4 : RAt V4 B L { m with changes := m.changes ++ [ch] } g := by rw [← hV4]; exact (HR3.out.other HFAR.out _).drew
    have K4 : Hid (Kb B W V4) := by rw [← hV4]; exact (K3.out.setNew (Nat.le_refl _) _).drew
    have g4 : V4.heap[W.heap.size]? = some (.cells #[.int .i64 t.o.op, .int .i64 t.o.d, .int .i64 t.o.a, .int .i64 t.o.b, .int .i64 t.o.k, .int .i64 t.number, .int .i64 t.issue, .int .i64 t.read, .int .i64 t.done, .int .i64 m.cycle, .int .i64 x.value, .int .i64 ln, .int .i64 t.trap, .int .i64 oldv, .int .i64 ((m.changes.length : Int) + 1)] 81 (0, 0)) := by
      rw [← hV4]
      have e1 : V3.heap[W.heap.size]? = some (.cells #[.int .i64 t.o.op, .int .i64 t.o.d, .int .i64 t.o.a, .int .i64 t.o.b, .int .i64 t.o.k, .int .i64 t.number, .int .i64 t.issue, .int .i64 t.read, .int .i64 t.done, .int .i64 m.cycle, .int .i64 x.value, .int .i64 ln, .int .i64 t.trap, .int .i64 x.old, .int .i64 ((m.changes.length : Int) + 1)] 81 (0, 0)) := g3'
      exact (heap_setCell_same _ _ 13 _ _ (.int .i64 oldv) e1).trans rfl
    clear hV4 x0 x1 x10 x11 x13 g3' fX3 fD3
    have hD4 := hR4.lt
    have hX4 : W.heap.size < V4.heap.size := (Array.getElem?_eq_some_iff.1 g4).1
    have fD4 : ∀ j, V4.frozen? ⟨L.D, j, none⟩ = false := fun j => hR4.frozen j
    have x1 : V4.cell? ⟨W.heap.size, 1, none⟩ = some (.int .i64 t.o.d) := by rw [cell_of_row _ _ _ _ _ _ g4]; rfl
    have x10 : V4.cell? ⟨W.heap.size, 10, none⟩ = some (.int .i64 x.value) := by rw [cell_of_row _ _ _ _ _ _ g4]; rfl
    have x11 : V4.cell? ⟨W.heap.size, 11, none⟩ = some (.int .i64 ln) := by rw [cell_of_row _ _ _ _ _ _ g4]; rfl
    have c18' : V4.cell? ⟨L.D, 18, none⟩ = some (.slice (some ⟨M, 0, none⟩) m.mem.length mc) := by rw [hR4.cMv, HMV.out]
    have hme4 := hR4.mem
    rw [HMV.out] at hme4
    have cM' : V4.cell? ⟨M, ln, none⟩ = some (.int .i64 oldv) := by
      rw [World.ownsRow.cellAt hme4 ln (by simpa using hlm), HOLD.out]
      simp [List.getD_eq_getElem?_getD, hlm]
    have fM : V4.frozen? ⟨M, ln, none⟩ = false := World.ownsRow.frozenAt hme4 ln
    have hM4 : M < V4.heap.size := (World.ownsRow.lt hme4 M rfl).2
    clear c18 cM hme4
    have HR4 := hide hR4
    have G4 := hide g4
    clear hR4 g4
    refine wp_region_still_tail 10 (by kernel_rfl) (by kernel_rfl) ?_
    simp only [List.take_succ_cons, List.take_zero, List.drop_succ_cons, List.drop_zero]
    repeat still_step
    refine wpStill_nil ?_
    go_upto_region 9 with fail
    obtain ⟨V5, hV5⟩ : ∃ V5, (V4.setCell ⟨M, ln, none⟩ (.int .i64 x.value)).drew = V5 := ⟨_, rfl⟩
    rw [hV5]
    have hR5 : RAt V5 B L { m with changes := m.changes ++ [ch], mem := m.mem.set ln x.value } g := by rw [← hV5]; exact ((HR4.out.setWord HMV.out x.value).1).drew
    have K5 : Hid (Kb B W V5) := by rw [← hV5]; exact ((K4.out.trans (HR4.out.setWord HMV.out x.value).2)).drew
    have g5 : V5.heap[W.heap.size]? = some (.cells #[.int .i64 t.o.op, .int .i64 t.o.d, .int .i64 t.o.a, .int .i64 t.o.b, .int .i64 t.o.k, .int .i64 t.number, .int .i64 t.issue, .int .i64 t.read, .int .i64 t.done, .int .i64 m.cycle, .int .i64 x.value, .int .i64 ln, .int .i64 t.trap, .int .i64 oldv, .int .i64 ((m.changes.length : Int) + 1)] 81 (0, 0)) := by
      rw [← hV5]
      exact (heap_setCell_other _ _ _ _ n4').trans G4.out
    clear hV5 x1 x10 x11
    have hD5 := hR5.lt
    have hX5 : W.heap.size < V5.heap.size := (Array.getElem?_eq_some_iff.1 g5).1
    have c24 : V5.cell? ⟨L.D, 24, none⟩ = some (.slice (some ⟨G, 0, none⟩) g.length cap) := by rw [hR5.cLv, HLV.out]
    have fG : ∀ j, V5.frozen? ⟨G, j, none⟩ = false := fun j => hR5.gvFrozen HLV.out j
    have hG5 : G < V5.heap.size := Nat.lt_of_lt_of_le hG K5.out.size
    have x0 : V5.cell? ⟨W.heap.size, 0, none⟩ = some (.int .i64 t.o.op) := by rw [cell_of_row _ _ _ _ _ _ g5]; rfl
    have x1 : V5.cell? ⟨W.heap.size, 1, none⟩ = some (.int .i64 t.o.d) := by rw [cell_of_row _ _ _ _ _ _ g5]; rfl
    have x2 : V5.cell? ⟨W.heap.size, 2, none⟩ = some (.int .i64 t.o.a) := by rw [cell_of_row _ _ _ _ _ _ g5]; rfl
    have x3 : V5.cell? ⟨W.heap.size, 3, none⟩ = some (.int .i64 t.o.b) := by rw [cell_of_row _ _ _ _ _ _ g5]; rfl
    have x4 : V5.cell? ⟨W.heap.size, 4, none⟩ = some (.int .i64 t.o.k) := by rw [cell_of_row _ _ _ _ _ _ g5]; rfl
    have x5 : V5.cell? ⟨W.heap.size, 5, none⟩ = some (.int .i64 t.number) := by rw [cell_of_row _ _ _ _ _ _ g5]; rfl
    have x6 : V5.cell? ⟨W.heap.size, 6, none⟩ = some (.int .i64 t.issue) := by rw [cell_of_row _ _ _ _ _ _ g5]; rfl
    have x7 : V5.cell? ⟨W.heap.size, 7, none⟩ = some (.int .i64 t.read) := by rw [cell_of_row _ _ _ _ _ _ g5]; rfl
    have x8 : V5.cell? ⟨W.heap.size, 8, none⟩ = some (.int .i64 t.done) := by rw [cell_of_row _ _ _ _ _ _ g5]; rfl
    have x9 : V5.cell? ⟨W.heap.size, 9, none⟩ = some (.int .i64 m.cycle) := by rw [cell_of_row _ _ _ _ _ _ g5]; rfl
    have x10 : V5.cell? ⟨W.heap.size, 10, none⟩ = some (.int .i64 x.value) := by rw [cell_of_row _ _ _ _ _ _ g5]; rfl
    have x11 : V5.cell? ⟨W.heap.size, 11, none⟩ = some (.int .i64 ln) := by rw [cell_of_row _ _ _ _ _ _ g5]; rfl
    have x12 : V5.cell? ⟨W.heap.size, 12, none⟩ = some (.int .i64 t.trap) := by rw [cell_of_row _ _ _ _ _ _ g5]; rfl
    have x13 : V5.cell? ⟨W.heap.size, 13, none⟩ = some (.int .i64 oldv) := by rw [cell_of_row _ _ _ _ _ _ g5]; rfl
    have x14 : V5.cell? ⟨W.heap.size, 14, none⟩ = some (.int .i64 ((m.changes.length : Int) + 1)) := by rw [cell_of_row _ _ _ _ _ _ g5]; rfl
    have y0 : V5.cell? ⟨G, i * 15, none⟩ = some (.int .i64 t.o.op) := hR5.gv HLV.out HI.out (j := 0) (by omega)
    have y1 : V5.cell? ⟨G, i * 15 + 1, none⟩ = some (.int .i64 t.o.d) := hR5.gv HLV.out HI.out (j := 1) (by omega)
    have y2 : V5.cell? ⟨G, i * 15 + 2, none⟩ = some (.int .i64 t.o.a) := hR5.gv HLV.out HI.out (j := 2) (by omega)
    have y3 : V5.cell? ⟨G, i * 15 + 3, none⟩ = some (.int .i64 t.o.b) := hR5.gv HLV.out HI.out (j := 3) (by omega)
    have y4 : V5.cell? ⟨G, i * 15 + 4, none⟩ = some (.int .i64 t.o.k) := hR5.gv HLV.out HI.out (j := 4) (by omega)
    have y5 : V5.cell? ⟨G, i * 15 + 5, none⟩ = some (.int .i64 t.number) := hR5.gv HLV.out HI.out (j := 5) (by omega)
    have y6 : V5.cell? ⟨G, i * 15 + 6, none⟩ = some (.int .i64 t.issue) := hR5.gv HLV.out HI.out (j := 6) (by omega)
    have y7 : V5.cell? ⟨G, i * 15 + 7, none⟩ = some (.int .i64 t.read) := hR5.gv HLV.out HI.out (j := 7) (by omega)
    have y8 : V5.cell? ⟨G, i * 15 + 8, none⟩ = some (.int .i64 t.done) := hR5.gv HLV.out HI.out (j := 8) (by omega)
    have y9 : V5.cell? ⟨G, i * 15 + 9, none⟩ = some (.int .i64 t.write) := hR5.gv HLV.out HI.out (j := 9) (by omega)
    have y10 : V5.cell? ⟨G, i * 15 + 10, none⟩ = some (.int .i64 x.value) := hR5.gv HLV.out HI.out (j := 10) (by omega)
    have y11 : V5.cell? ⟨G, i * 15 + 11, none⟩ = some (.int .i64 x.loc) := hR5.gv HLV.out HI.out (j := 11) (by omega)
    have y12 : V5.cell? ⟨G, i * 15 + 12, none⟩ = some (.int .i64 t.trap) := hR5.gv HLV.out HI.out (j := 12) (by omega)
    have y13 : V5.cell? ⟨G, i * 15 + 13, none⟩ = some (.int .i64 x.old) := hR5.gv HLV.out HI.out (j := 13) (by omega)
    have y14 : V5.cell? ⟨G, i * 15 + 14, none⟩ = some (.int .i64 x.turn) := hR5.gv HLV.out HI.out (j := 14) (by omega)
    have HR5 := hide hR5
    clear hR5 g5
    refine wp_region_still_tail 7 (by kernel_rfl) (by kernel_rfl) ?_
    simp only [List.take_succ_cons, List.take_zero, List.drop_succ_cons, List.drop_zero]
    repeat still_step
    refine wpStill_nil ?_
    go_wp2_with fail
    go_end0
    obtain ⟨hA, hK⟩ := HR5.out.putGv (y' := wroteX m t x) HLV.out HI.out
    have hW : writeT i t m = { m with changes := m.changes ++ [ch], mem := m.mem.set ln x.value, given := m.given.set i (wroteX m t x).1 } := by
      unfold writeT wroteX
      rw [hch, t1, t2, t3]
      simp [putR, putM, putN, hln]
    have hC : gvC (wroteX m t x) = [.int .i64 t.o.op, .int .i64 t.o.d, .int .i64 t.o.a, .int .i64 t.o.b, .int .i64 t.o.k, .int .i64 t.number, .int .i64 t.issue, .int .i64 t.read, .int .i64 t.done, .int .i64 m.cycle, .int .i64 x.value, .int .i64 ln, .int .i64 t.trap, .int .i64 oldv, .int .i64 ((m.changes.length : Int) + 1)] := by
      unfold wroteX gvC
      simp [t1, t2, oldV, hln, HOLD.out]
    rw [hW]
    rw [hC] at hA hK
    exact ⟨rfl, hA.drew, (K5.out.trans hK).drew⟩
  · obtain ⟨dn, hdn⟩ := Int.eq_ofNat_of_zero_le l0
    have e7 : (t.o.op == 7) = false := by simp [h7]
    have hdn8 : dn < 8 := by omega
    obtain ⟨oldv, holdv⟩ : ∃ v, v = m.regs.getD dn 0 := ⟨_, rfl⟩
    have rg : V3.cell? ⟨L.D, 10 + dn, none⟩ = some (.int .i64 oldv) := by rw [holdv]; exact HR3.out.reg hdn8
    have HOLD := hide holdv
    clear holdv
    have hd8I : (dn : Int) < 8 := by omega
    clear h7 l0 l1
    have g3' : V3.heap[W.heap.size]? = some (.cells #[.int .i64 t.o.op, .int .i64 dn, .int .i64 t.o.a, .int .i64 t.o.b, .int .i64 t.o.k, .int .i64 t.number, .int .i64 t.issue, .int .i64 t.read, .int .i64 t.done, .int .i64 m.cycle, .int .i64 x.value, .int .i64 x.loc, .int .i64 t.trap, .int .i64 x.old, .int .i64 ((m.changes.length : Int) + 1)] 81 (0, 0)) := by rw [G3.out, hdn]
    have x0 : V3.cell? ⟨W.heap.size, 0, none⟩ = some (.int .i64 t.o.op) := by rw [cell_of_row _ _ _ _ _ _ g3']; rfl
    have x1 : V3.cell? ⟨W.heap.size, 1, none⟩ = some (.int .i64 dn) := by rw [cell_of_row _ _ _ _ _ _ g3']; rfl
    have x11 : V3.cell? ⟨W.heap.size, 11, none⟩ = some (.int .i64 x.loc) := by rw [cell_of_row _ _ _ _ _ _ g3']; rfl
    have x10 : V3.cell? ⟨W.heap.size, 10, none⟩ = some (.int .i64 x.value) := by rw [cell_of_row _ _ _ _ _ _ g3']; rfl
    have x13 : V3.cell? ⟨W.heap.size, 13, none⟩ = some (.int .i64 x.old) := by rw [cell_of_row _ _ _ _ _ _ g3']; rfl
    go_upto_region 7 with fail
    refine wp_region_still_tail 10 (by kernel_rfl) (by kernel_rfl) ?_
    simp only [List.take_succ_cons, List.take_zero, List.drop_succ_cons, List.drop_zero]
    repeat still_step
    refine wpStill_nil ?_
    go_upto_region 8 with fail
    obtain ⟨V4, hV4⟩ : ∃ V4, (V3.setCell ⟨W.heap.size, 13, none⟩ (.int .i64 oldv)).drew = V4 := ⟨_, rfl⟩
    rw [hV4]
    have hR4 : RAt V4 B L { m with changes := m.changes ++ [ch] } g := by rw [← hV4]; exact (HR3.out.other HFAR.out _).drew
    have K4 : Hid (Kb B W V4) := by rw [← hV4]; exact (K3.out.setNew (Nat.le_refl _) _).drew
    have g4 : V4.heap[W.heap.size]? = some (.cells #[.int .i64 t.o.op, .int .i64 dn, .int .i64 t.o.a, .int .i64 t.o.b, .int .i64 t.o.k, .int .i64 t.number, .int .i64 t.issue, .int .i64 t.read, .int .i64 t.done, .int .i64 m.cycle, .int .i64 x.value, .int .i64 x.loc, .int .i64 t.trap, .int .i64 oldv, .int .i64 ((m.changes.length : Int) + 1)] 81 (0, 0)) := by
      rw [← hV4]
      have e1 : V3.heap[W.heap.size]? = some (.cells #[.int .i64 t.o.op, .int .i64 dn, .int .i64 t.o.a, .int .i64 t.o.b, .int .i64 t.o.k, .int .i64 t.number, .int .i64 t.issue, .int .i64 t.read, .int .i64 t.done, .int .i64 m.cycle, .int .i64 x.value, .int .i64 x.loc, .int .i64 t.trap, .int .i64 x.old, .int .i64 ((m.changes.length : Int) + 1)] 81 (0, 0)) := g3'
      exact (heap_setCell_same _ _ 13 _ _ (.int .i64 oldv) e1).trans rfl
    clear hV4 x0 x1 x10 x11 x13 g3' fX3 fD3
    have hD4 := hR4.lt
    have hX4 : W.heap.size < V4.heap.size := (Array.getElem?_eq_some_iff.1 g4).1
    have fD4 : ∀ j, V4.frozen? ⟨L.D, j, none⟩ = false := fun j => hR4.frozen j
    have x1 : V4.cell? ⟨W.heap.size, 1, none⟩ = some (.int .i64 dn) := by rw [cell_of_row _ _ _ _ _ _ g4]; rfl
    have x10 : V4.cell? ⟨W.heap.size, 10, none⟩ = some (.int .i64 x.value) := by rw [cell_of_row _ _ _ _ _ _ g4]; rfl
    have x11 : V4.cell? ⟨W.heap.size, 11, none⟩ = some (.int .i64 x.loc) := by rw [cell_of_row _ _ _ _ _ _ g4]; rfl
    have rg' : V4.cell? ⟨L.D, 10 + dn, none⟩ = some (.int .i64 oldv) := by rw [HOLD.out]; exact hR4.reg hdn8
    clear rg
    have HR4 := hide hR4
    have G4 := hide g4
    clear hR4 g4
    refine wp_region_still_tail 10 (by kernel_rfl) (by kernel_rfl) ?_
    simp only [List.take_succ_cons, List.take_zero, List.drop_succ_cons, List.drop_zero]
    repeat still_step
    refine wpStill_nil ?_
    go_upto_region 9 with fail
    obtain ⟨V5, hV5⟩ : ∃ V5, (V4.setCell ⟨L.D, 10 + dn, none⟩ (.int .i64 x.value)).drew = V5 := ⟨_, rfl⟩
    rw [hV5]
    have hR5 : RAt V5 B L { m with changes := m.changes ++ [ch], regs := m.regs.set dn x.value } g := by rw [← hV5]; exact (HR4.out.setReg hdn8 x.value).drew
    have K5 : Hid (Kb B W V5) := by rw [← hV5]; exact ((K4.out.trans (HR4.out.kbD _ _))).drew
    have g5 : V5.heap[W.heap.size]? = some (.cells #[.int .i64 t.o.op, .int .i64 dn, .int .i64 t.o.a, .int .i64 t.o.b, .int .i64 t.o.k, .int .i64 t.number, .int .i64 t.issue, .int .i64 t.read, .int .i64 t.done, .int .i64 m.cycle, .int .i64 x.value, .int .i64 x.loc, .int .i64 t.trap, .int .i64 oldv, .int .i64 ((m.changes.length : Int) + 1)] 81 (0, 0)) := by
      rw [← hV5]
      exact (heap_setCell_other _ _ _ _ n1').trans G4.out
    clear hV5 x1 x10 x11
    have hD5 := hR5.lt
    have hX5 : W.heap.size < V5.heap.size := (Array.getElem?_eq_some_iff.1 g5).1
    have c24 : V5.cell? ⟨L.D, 24, none⟩ = some (.slice (some ⟨G, 0, none⟩) g.length cap) := by rw [hR5.cLv, HLV.out]
    have fG : ∀ j, V5.frozen? ⟨G, j, none⟩ = false := fun j => hR5.gvFrozen HLV.out j
    have hG5 : G < V5.heap.size := Nat.lt_of_lt_of_le hG K5.out.size
    have x0 : V5.cell? ⟨W.heap.size, 0, none⟩ = some (.int .i64 t.o.op) := by rw [cell_of_row _ _ _ _ _ _ g5]; rfl
    have x1 : V5.cell? ⟨W.heap.size, 1, none⟩ = some (.int .i64 dn) := by rw [cell_of_row _ _ _ _ _ _ g5]; rfl
    have x2 : V5.cell? ⟨W.heap.size, 2, none⟩ = some (.int .i64 t.o.a) := by rw [cell_of_row _ _ _ _ _ _ g5]; rfl
    have x3 : V5.cell? ⟨W.heap.size, 3, none⟩ = some (.int .i64 t.o.b) := by rw [cell_of_row _ _ _ _ _ _ g5]; rfl
    have x4 : V5.cell? ⟨W.heap.size, 4, none⟩ = some (.int .i64 t.o.k) := by rw [cell_of_row _ _ _ _ _ _ g5]; rfl
    have x5 : V5.cell? ⟨W.heap.size, 5, none⟩ = some (.int .i64 t.number) := by rw [cell_of_row _ _ _ _ _ _ g5]; rfl
    have x6 : V5.cell? ⟨W.heap.size, 6, none⟩ = some (.int .i64 t.issue) := by rw [cell_of_row _ _ _ _ _ _ g5]; rfl
    have x7 : V5.cell? ⟨W.heap.size, 7, none⟩ = some (.int .i64 t.read) := by rw [cell_of_row _ _ _ _ _ _ g5]; rfl
    have x8 : V5.cell? ⟨W.heap.size, 8, none⟩ = some (.int .i64 t.done) := by rw [cell_of_row _ _ _ _ _ _ g5]; rfl
    have x9 : V5.cell? ⟨W.heap.size, 9, none⟩ = some (.int .i64 m.cycle) := by rw [cell_of_row _ _ _ _ _ _ g5]; rfl
    have x10 : V5.cell? ⟨W.heap.size, 10, none⟩ = some (.int .i64 x.value) := by rw [cell_of_row _ _ _ _ _ _ g5]; rfl
    have x11 : V5.cell? ⟨W.heap.size, 11, none⟩ = some (.int .i64 x.loc) := by rw [cell_of_row _ _ _ _ _ _ g5]; rfl
    have x12 : V5.cell? ⟨W.heap.size, 12, none⟩ = some (.int .i64 t.trap) := by rw [cell_of_row _ _ _ _ _ _ g5]; rfl
    have x13 : V5.cell? ⟨W.heap.size, 13, none⟩ = some (.int .i64 oldv) := by rw [cell_of_row _ _ _ _ _ _ g5]; rfl
    have x14 : V5.cell? ⟨W.heap.size, 14, none⟩ = some (.int .i64 ((m.changes.length : Int) + 1)) := by rw [cell_of_row _ _ _ _ _ _ g5]; rfl
    have y0 : V5.cell? ⟨G, i * 15, none⟩ = some (.int .i64 t.o.op) := hR5.gv HLV.out HI.out (j := 0) (by omega)
    have y1 : V5.cell? ⟨G, i * 15 + 1, none⟩ = some (.int .i64 t.o.d) := hR5.gv HLV.out HI.out (j := 1) (by omega)
    have y2 : V5.cell? ⟨G, i * 15 + 2, none⟩ = some (.int .i64 t.o.a) := hR5.gv HLV.out HI.out (j := 2) (by omega)
    have y3 : V5.cell? ⟨G, i * 15 + 3, none⟩ = some (.int .i64 t.o.b) := hR5.gv HLV.out HI.out (j := 3) (by omega)
    have y4 : V5.cell? ⟨G, i * 15 + 4, none⟩ = some (.int .i64 t.o.k) := hR5.gv HLV.out HI.out (j := 4) (by omega)
    have y5 : V5.cell? ⟨G, i * 15 + 5, none⟩ = some (.int .i64 t.number) := hR5.gv HLV.out HI.out (j := 5) (by omega)
    have y6 : V5.cell? ⟨G, i * 15 + 6, none⟩ = some (.int .i64 t.issue) := hR5.gv HLV.out HI.out (j := 6) (by omega)
    have y7 : V5.cell? ⟨G, i * 15 + 7, none⟩ = some (.int .i64 t.read) := hR5.gv HLV.out HI.out (j := 7) (by omega)
    have y8 : V5.cell? ⟨G, i * 15 + 8, none⟩ = some (.int .i64 t.done) := hR5.gv HLV.out HI.out (j := 8) (by omega)
    have y9 : V5.cell? ⟨G, i * 15 + 9, none⟩ = some (.int .i64 t.write) := hR5.gv HLV.out HI.out (j := 9) (by omega)
    have y10 : V5.cell? ⟨G, i * 15 + 10, none⟩ = some (.int .i64 x.value) := hR5.gv HLV.out HI.out (j := 10) (by omega)
    have y11 : V5.cell? ⟨G, i * 15 + 11, none⟩ = some (.int .i64 x.loc) := hR5.gv HLV.out HI.out (j := 11) (by omega)
    have y12 : V5.cell? ⟨G, i * 15 + 12, none⟩ = some (.int .i64 t.trap) := hR5.gv HLV.out HI.out (j := 12) (by omega)
    have y13 : V5.cell? ⟨G, i * 15 + 13, none⟩ = some (.int .i64 x.old) := hR5.gv HLV.out HI.out (j := 13) (by omega)
    have y14 : V5.cell? ⟨G, i * 15 + 14, none⟩ = some (.int .i64 x.turn) := hR5.gv HLV.out HI.out (j := 14) (by omega)
    have HR5 := hide hR5
    clear hR5 g5
    refine wp_region_still_tail 7 (by kernel_rfl) (by kernel_rfl) ?_
    simp only [List.take_succ_cons, List.take_zero, List.drop_succ_cons, List.drop_zero]
    repeat still_step
    refine wpStill_nil ?_
    go_wp2_with fail
    go_end0
    obtain ⟨hA, hK⟩ := HR5.out.putGv (y' := wroteX m t x) HLV.out HI.out
    have hW : writeT i t m = { m with changes := m.changes ++ [ch], regs := m.regs.set dn x.value, given := m.given.set i (wroteX m t x).1 } := by
      unfold writeT wroteX
      rw [hch, t1, t2, t3]
      simp [putR, putM, putN, hdn]
    have hC : gvC (wroteX m t x) = [.int .i64 t.o.op, .int .i64 dn, .int .i64 t.o.a, .int .i64 t.o.b, .int .i64 t.o.k, .int .i64 t.number, .int .i64 t.issue, .int .i64 t.read, .int .i64 t.done, .int .i64 m.cycle, .int .i64 x.value, .int .i64 x.loc, .int .i64 t.trap, .int .i64 oldv, .int .i64 ((m.changes.length : Int) + 1)] := by
      unfold wroteX gvC
      simp [t1, t2, oldV, hdn, HOLD.out]
    rw [hW]
    rw [hC] at hA hK
    exact ⟨rfl, hA.drew, (K5.out.trans hK).drew⟩

end Go.Proofs.YtmeiogoodbnkkaaGreat
