/- Does the document's board stop? -/
import Derived.Test.YtmeiogoodbnkkaaGreatCBIBK
import Derived.Test.YtmeiogoodbnkkaaGreatCSC
namespace Go.Proofs.YtmeiogoodbnkkaaGreat
open Go.RowKit

theorem allWr_succ {g : List Tk} {k : Nat} {t : Tk} (ht : g[k]? = some t) : allWr g (k + 1) = (allWr g k && !((t.write : Int) == 0)) := by
  unfold allWr
  have e : g.take (k + 1) = g.take k ++ [t] := by rw [List.take_add_one, ht]; rfl
  rw [e, List.all_append]
  congr 1
  rw [Bool.eq_iff_iff]
  simp

/-- How the board ends, or goes on. -/
def spOf (steps : Nat) (m : Mc) : Int := if (stopM steps m).1 = true then (stopM steps m).2.stop else 2

set_option maxRecDepth 100000 in
set_option maxHeartbeats 8000000 in
theorem over_any (W : World) (B : Nat) (L : Lb) (m : Mc) (g : List (Tk × Xt)) (steps : Nat) (h : RAt W B L m g) (hgh : Gh m g) (hsm : g.length ≤ 1000) (hcs : m.changes.length ≤ 1000000) (hsh : m.shown = true → m.counts < g.length ∧ allWr m.given m.given.length = false) :
    Calls Tryz.prog 39 #[.pointer (some ⟨L.D, 0, none⟩), .int .i64 steps] W fun e w' => e = .returned (.bool (stopM steps m).1) ∧ RAt w' B { L with sp := spOf steps m } (stopM steps m).2 g ∧ Kb B W w' := by
  have hD := h.lt
  obtain ⟨lp, lc, hlv0'⟩ := h.sl
  have HLV0 := hide hlv0'
  clear hlv0'
  have HL : Hid (g.length = m.given.length) := h.len
  have HR := hide h
  have HGH := hide hgh
  have HOUT : Hid ((m.shown && allWr m.given m.counts) = false → (m.ended && allWr m.given m.given.length) = false → ∀ V, RAt V B L m g → Kb B W V → ((m.cycle : Int) == (steps : Int)) = (stopM steps m).1 ∧ RAt (V.setCell ⟨L.D, 20, none⟩ (.int .i64 2)) B { L with sp := spOf steps m } (stopM steps m).2 g ∧ Kb B W (V.setCell ⟨L.D, 20, none⟩ (.int .i64 2))) := fun h1 h2 V hV hk => by
    by_cases hc : m.cycle = steps
    · have e := stopM_out h1 h2 hc
      have es : spOf steps m = 2 := by unfold spOf; rw [e]; rfl
      rw [es, e]
      refine ⟨by rw [hc]; simp, ?_, hk.trans (hV.kbD _ _)⟩
      have := hV.setStop 2
      exact ⟨this.units, this.lat, this.regs, this.fst, this.base, this.blk, this.giv, this.mem⟩
    · have e := stopM_on h1 h2 hc
      have es : spOf steps m = 2 := by unfold spOf; rw [e]; rfl
      rw [es, e]
      exact ⟨by simp; omega, hV.setStop 2, hk.trans (hV.kbD _ _)⟩
  cases hshw : m.shown with
  | true =>
    obtain ⟨hcn, hall⟩ := hsh hshw
    have c26 : W.cell? ⟨L.D, 26, none⟩ = some (.int .i64 m.counts) := by rw [h.cShown]; unfold shI; rw [hshw]; rfl
    have c20 : W.cell? ⟨L.D, 20, none⟩ = some (.int .i64 L.sp) := h.cStop
    have f20 : W.frozen? ⟨L.D, 20, none⟩ = false := h.frozen 20
    have c23 : W.cell? ⟨L.D, 23, none⟩ = some (.int .i64 m.cycle) := h.cCycle
    have KS : Hid (Calls Tryz.prog 59 #[.pointer (some ⟨L.D, 0, none⟩), .int .i64 m.counts] W fun e w' => e = .returned (.bool (allWr m.given m.counts)) ∧ w' = W) := settled_any W B L m g m.counts h (by omega) (by omega)
    have KU : Hid (Calls Tryz.prog 60 #[.pointer (some ⟨L.D, 0, none⟩)] W fun e w' => e = .returned (.tuple #[]) ∧ RAt w' B L (undoM m.counts m) g ∧ Kb B W w') := undo_any W B L m g h hgh hsm hcs hshw hcn
    have hcI : (0 : Int) ≤ (m.counts : Int) := by omega
    have HSW := hide hshw
    have HALL := hide hall
    clear h hgh hsh hall hshw
    cases hq : allWr m.given m.counts with
    | false =>
      rw [hq] at KS
      have HQ := hide hq
      clear hq KU
      go_enter Tryz.func39, Tryz.ntmps39
      go_wp2_with (go_at_call 59; (with_reducible refine KS.out.mono ?_); rintro e W' ⟨rfl, hW'⟩; have hW'' := hW'.symm; clear hW'; subst hW'')
      go_ret
      obtain ⟨r1, r2, r3⟩ := HOUT.out (by rw [HQ.out]; simp) (by rw [HALL.out]; simp) W HR.out (Kb.refl _ _)
      exact ⟨by rw [← r1]; rfl, r2, r3⟩
    | true =>
      rw [hq] at KS
      have HQ := hide hq
      clear hq c20 f20 c23
      obtain ⟨⟨t, x⟩, hx⟩ : ∃ y, g[m.counts]? = some y := ⟨_, List.getElem?_eq_getElem hcn⟩
      have ht : m.given[m.counts]? = some t := HR.out.get hx
      have HE : Hid (stopM steps m = (true, { undoM m.counts m with stop := 1, trap := t.trap, next := t.number })) := stopM_trap (by rw [HSW.out, HQ.out]; rfl) ht
      have HX := hide hx
      clear hx ht
      go_enter Tryz.func39, Tryz.ntmps39
      go_upto_region 5 with (first | (go_at_call 59; (with_reducible refine KS.out.mono ?_); rintro e W' ⟨rfl, hW'⟩; have hW'' := hW'.symm; clear hW'; subst hW'') | (go_at_call 60; (with_reducible refine KU.out.mono ?_); rintro e V ⟨rfl, hRV, hKV⟩))
      have d20 : V.cell? ⟨L.D, 20, none⟩ = some (.int .i64 L.sp) := hRV.cStop
      have f20 : V.frozen? ⟨L.D, 20, none⟩ = false := hRV.frozen 20
      have hDV := hRV.lt
      have HRV := hide hRV
      have HKV := hide hKV
      clear hRV hKV c26
      go_upto_region 6 with fail
      obtain ⟨V1, hV1⟩ : ∃ V1, V.setCell ⟨L.D, 20, none⟩ (.int .i64 1) = V1 := ⟨_, rfl⟩
      rw [hV1]
      have hR1 : RAt V1 B { L with sp := 1 } (undoM m.counts m) g := by rw [← hV1]; exact HRV.out.setStop 1
      have hK1 : Kb B V V1 := by rw [← hV1]; exact HRV.out.kbD _ _
      clear hV1 d20 f20
      have hD1 : L.D < V1.heap.size := hR1.lt
      obtain ⟨G, cap, hlv, _, hG⟩ := hR1.row hcn
      have hlv' : L.lv = .slice (some ⟨G, 0, none⟩) g.length cap := hlv
      have d24 : V1.cell? ⟨L.D, 24, none⟩ = some (.slice (some ⟨G, 0, none⟩) g.length cap) := by rw [hR1.cLv, hlv]
      have d26 : V1.cell? ⟨L.D, 26, none⟩ = some (.int .i64 m.counts) := by
        rw [hR1.cShown]
        show some (Value.int .i64 (if m.shown = true then (m.counts : Int) else -1)) = _
        rw [HSW.out]; rfl
      have k5 : V1.cell? ⟨G, m.counts * 15 + 5, none⟩ = some (.int .i64 t.number) := hR1.gv hlv HX.out (j := 5) (by omega)
      have d19 : V1.cell? ⟨L.D, 19, none⟩ = some (.int .i64 (undoM m.counts m).next) := hR1.cNext
      have f19 : V1.frozen? ⟨L.D, 19, none⟩ = false := hR1.frozen 19
      have hcgI : (m.counts : Int) < (g.length : Int) := by omega
      generalize (undoM m.counts m).next = ux at *
      have HR1 := hide hR1
      have HK1 := hide hK1
      have HLV := hide hlv'
      clear hR1 hK1 hlv hlv'
      refine wp_region_still_tail 16 (by kernel_rfl) (by kernel_rfl) ?_
      simp only [List.take_succ_cons, List.take_zero, List.drop_succ_cons, List.drop_zero]
      repeat still_step
      refine wpStill_nil ?_
      go_upto_region 7 with fail
      obtain ⟨V2, hV2⟩ : ∃ V2, (V1.setCell ⟨L.D, 19, none⟩ (.int .i64 t.number)).drew = V2 := ⟨_, rfl⟩
      rw [hV2]
      have hR2 : RAt V2 B { L with sp := 1 } { undoM m.counts m with next := t.number } g := by rw [← hV2]; exact (HR1.out.setNext t.number).drew
      have hK2 : Kb B V1 V2 := by rw [← hV2]; exact (HR1.out.kbD _ _).drew
      clear hV2 d19 f19 d24 d26 k5
      have hD2 : L.D < V2.heap.size := hR2.lt
      have d24 : V2.cell? ⟨L.D, 24, none⟩ = some (.slice (some ⟨G, 0, none⟩) g.length cap) := by
        have := hR2.cLv
        rw [show ({ L with sp := 1 } : Lb).lv = L.lv from rfl, HLV.out] at this
        exact this
      have d26 : V2.cell? ⟨L.D, 26, none⟩ = some (.int .i64 m.counts) := by
        rw [hR2.cShown]
        show some (Value.int .i64 (if m.shown = true then (m.counts : Int) else -1)) = _
        rw [HSW.out]; rfl
      have k12 : V2.cell? ⟨G, m.counts * 15 + 12, none⟩ = some (.int .i64 t.trap) := hR2.gv (show ({ L with sp := 1 } : Lb).lv = _ from HLV.out) HX.out (j := 12) (by omega)
      have d21 : V2.cell? ⟨L.D, 21, none⟩ = some (.int .i64 m.trap) := hR2.cTrap
      have f21 : V2.frozen? ⟨L.D, 21, none⟩ = false := hR2.frozen 21
      have hG2 : G < V2.heap.size := Nat.lt_of_lt_of_le hG hK2.size
      have HR2 := hide hR2
      have HK2 := hide hK2
      clear hR2 hK2
      refine wp_region_still_tail 15 (by kernel_rfl) (by kernel_rfl) ?_
      simp only [List.take_succ_cons, List.take_zero, List.drop_succ_cons, List.drop_zero]
      repeat still_step
      refine wpStill_nil ?_
      go_wp2_with fail
      go_ret
      have es : spOf steps m = 1 := by unfold spOf; rw [HE.out]; rfl
      have hf := HR2.out.setTrap t.trap
      rw [HE.out, es]
      refine ⟨rfl, ?_, (HKV.out.trans (HK1.out.trans (HK2.out.trans (HR2.out.kbD _ _)))).drew⟩
      have hf2 := hf.drew
      exact ⟨hf2.units, hf2.lat, hf2.regs, hf2.fst, hf2.base, hf2.blk, hf2.giv, hf2.mem⟩
  | false =>
    have c26 : W.cell? ⟨L.D, 26, none⟩ = some (.int .i64 (-1)) := by rw [h.cShown]; unfold shI; rw [hshw]; rfl
    have c20 : W.cell? ⟨L.D, 20, none⟩ = some (.int .i64 L.sp) := h.cStop
    have f20 : W.frozen? ⟨L.D, 20, none⟩ = false := h.frozen 20
    have c23 : W.cell? ⟨L.D, 23, none⟩ = some (.int .i64 m.cycle) := h.cCycle
    have c25 : W.cell? ⟨L.D, 25, none⟩ = some (.bool m.ended) := h.cEnded
    have c24 : W.cell? ⟨L.D, 24, none⟩ = some (.slice lp g.length lc) := by rw [h.cLv, HLV0.out]
    have HSW := hide hshw
    clear h hgh hsh hshw
    cases hen : m.ended with
    | false =>
      rw [hen] at c25
      have HEN := hide hen
      clear hen
      go_enter Tryz.func39, Tryz.ntmps39
      go_wp2_with fail
      go_ret
      obtain ⟨r1, r2, r3⟩ := HOUT.out (by rw [HSW.out]; rfl) (by rw [HEN.out]; rfl) W HR.out (Kb.refl _ _)
      exact ⟨by rw [← r1]; rfl, r2, r3⟩
    | true =>
      rw [hen] at c25
      have HEN := hide hen
      clear hen
      go_enter Tryz.func39, Tryz.ntmps39
      go_wp2_with fail
      go_loopg [6, 7] g.length (fun gq s6 s7 wr => ∃ k : Nat, k ≤ g.length ∧ gq = g.length - k ∧ s7 = .int .i64 k ∧ s6 = .bool (allWr m.given k) ∧ wr = W)
      case atStart => exact ⟨0, Nat.zero_le _, rfl, rfl, rfl, rfl⟩
      case round =>
        obtain ⟨k, hk1, hgk, rfl, rfl, hwr⟩ := hrel
        subst hwr
        rcases Nat.lt_or_ge k g.length with hki | hki
        · obtain ⟨⟨t, x⟩, hx⟩ : ∃ y, g[k]? = some y := ⟨_, List.getElem?_eq_getElem hki⟩
          have ht : m.given[k]? = some t := HR.out.get hx
          obtain ⟨G, cap, hlv, _, hG⟩ := HR.out.row (i := k) hki
          have k9 : wr.cell? ⟨G, k * 15 + 9, none⟩ = some (.int .i64 t.write) := HR.out.gv hlv hx (j := 9) (by omega)
          rw [HLV0.out] at hlv
          injection hlv with ea eb ec
          rw [ea, ec] at c24
          have HS := hide (allWr_succ ht)
          have hkI : (k : Int) < (g.length : Int) := by omega
          have HGK := hide hgk
          clear hx ht hgk
          generalize allWr m.given k = qa at *
          cases qa with
          | false =>
            go_wp2_with fail
            have hgk := HGK.out
            go_roundg (g.length - (k + 1))
            case measure => omega
            case rel => exact ⟨k + 1, by omega, rfl, by go_num, by rw [HS.out]; rfl, rfl⟩
          | true =>
            cases hz : ((t.write : Int) == 0) with
            | true =>
              have hz' : ((t.write : Int) != 0) = false := by rw [bne, hz]; rfl
              go_wp2_with fail
              have hgk := HGK.out
              go_roundg (g.length - (k + 1))
              case measure => omega
              case rel => exact ⟨k + 1, by omega, rfl, by go_num, by rw [HS.out, hz]; rfl, rfl⟩
            | false =>
              have hz' : ((t.write : Int) != 0) = true := by rw [bne, hz]; rfl
              go_wp2_with fail
              have hgk := HGK.out
              go_roundg (g.length - (k + 1))
              case measure => omega
              case rel => exact ⟨k + 1, by omega, rfl, by go_num, by rw [HS.out, hz]; rfl, rfl⟩
        · have hke : k = g.length := by omega
          have hnk : ¬ ((k : Int) < (g.length : Int)) := by omega
          have HKE := hide hke
          clear hki hgk hke
          cases hq : allWr m.given k with
          | true =>
            have HE : Hid (stopM steps m = (true, { m with stop := 0 })) := stopM_halt (by rw [HSW.out]; rfl) (by rw [HEN.out, ← HL.out, ← HKE.out, hq]; rfl)
            clear hq
            go_wp2_with fail
            go_ret
            have es : spOf steps m = 0 := by unfold spOf; rw [HE.out]; rfl
            rw [HE.out, es]
            refine ⟨rfl, ?_, HR.out.kbD _ _⟩
            have := HR.out.setStop 0
            exact ⟨this.units, this.lat, this.regs, this.fst, this.base, this.blk, this.giv, this.mem⟩
          | false =>
            have HQ2 : Hid ((m.ended && allWr m.given m.given.length) = false) := hide (by rw [← HL.out, ← HKE.out, hq]; simp)
            clear hq
            go_wp2_with fail
            go_ret
            obtain ⟨r1, r2, r3⟩ := HOUT.out (by rw [HSW.out]; rfl) HQ2.out wr HR.out (Kb.refl _ _)
            exact ⟨by rw [← r1]; rfl, r2, r3⟩

end Go.Proofs.YtmeiogoodbnkkaaGreat
