/- One order done by the code is one order done. -/
import Derived.Test.YtmeiogoodbnkkaaGreatN
import Derived.Test.YtmeiogoodbnkkaaGreatQ
namespace Go.Proofs.YtmeiogoodbnkkaaGreat
open Go.RowKit

set_option maxHeartbeats 1000000 in
theorem step_any (B sb : Nat) (o : Ord) (s : St) (mv : Value) (stop tr0 n : Int) (w : World) (hst : StAt w sb s.regs mv s.next stop tr0 s.steps) (hown : Own w B mv s.mem) (hB : B ≤ sb) (hBw : B ≤ w.heap.size) (hne : mv.ownBlock ≠ some sb)
    (ho : isOrd o n = true) (hop : o.op ≠ 0) (hnx : s.next ≤ 1000) (hsp : s.steps ≤ 1000) :
    Calls Tryz.prog 43 #[.pointer (some ⟨sb, 0, none⟩), .agg #[.int .i64 o.op, .int .i64 o.d, .int .i64 o.a, .int .i64 o.b, .int .i64 o.k]] w fun e w' =>
      e = .returned (.int .i64 (doOne o s).1) ∧ Below B w w' ∧ StAt w' sb (doOne o s).2.regs mv (doOne o s).2.next stop tr0 (doOne o s).2.steps ∧ Own w' B mv (doOne o s).2.mem := by
  obtain ⟨o0, o8, d0, d7, a0, a7, b0, b7, hk⟩ := isOrd_spec ho
  obtain ⟨op, d, a, b, k⟩ := o
  simp only at o0 o8 d0 d7 a0 a7 b0 b7 hk hop
  obtain ⟨rd, rfl⟩ := Int.eq_ofNat_of_zero_le d0
  obtain ⟨ra, rfl⟩ := Int.eq_ofNat_of_zero_le a0
  obtain ⟨rb, rfl⟩ := Int.eq_ofNat_of_zero_le b0
  obtain ⟨p, c, rfl, hrd⟩ := hown.slice
  have hwb : ∀ g, (Value.slice p s.mem.length c).ownBlock = some g → g < w.heap.size := fun g hg => (hown.lt g hg).2
  have hwork := fun W (hW : Below w.heap.size w W) => work_any ⟨op, rd, ra, rb, k⟩ s.next (s.regs.getD ra 0) (s.regs.getD rb 0) p c s.mem W (hrd.below (Nat.le_refl _) hW) (by simp only; omega) o8 (by omega) (by omega)
  have hst2 := (hst.setNext (s.next + 1)).setSteps (s.steps + 1)
  have hown2 : Own ((w.setCell ⟨sb, 9, none⟩ (.int .i64 (s.next + 1))).setCell ⟨sb, 12, none⟩ (.int .i64 (s.steps + 1))) B (.slice p s.mem.length c) s.mem := (hown.far hne).far hne
  have hb2 : Below B w ((w.setCell ⟨sb, 9, none⟩ (.int .i64 (s.next + 1))).setCell ⟨sb, 12, none⟩ (.int .i64 (s.steps + 1))) := ((Below.refl _ _).setCell hB _).setCell hB _
  have hsz2 : ((w.setCell ⟨sb, 9, none⟩ (.int .i64 (s.next + 1))).setCell ⟨sb, 12, none⟩ (.int .i64 (s.steps + 1))).heap.size = w.heap.size := by simp [World.setCell]
  generalize hw2 : (w.setCell ⟨sb, 9, none⟩ (.int .i64 (s.next + 1))).setCell ⟨sb, 12, none⟩ (.int .i64 (s.steps + 1)) = w2 at *
  have hsb := hst.lt
  by_cases h8 : op = 8
  · subst h8
    have e1 : wk ⟨8, rd, ra, rb, k⟩ s.next (s.regs.getD ra 0) (s.regs.getD rb 0) s.mem = (3, 0, if s.regs.getD ra 0 = 0 then k else s.next + 1, 0) := by simp [wk]
    rw [e1] at hwork
    have e2 : doOne ⟨8, rd, ra, rb, k⟩ s = (0, ⟨s.regs, s.mem, if s.regs.getD ra 0 = 0 then k.toNat else s.next + 1, s.steps + 1⟩) := by simp [doOne]
    rw [e2]
    have hv : (if s.regs.getD ra 0 = 0 then k else (s.next : Int) + 1) = ((if s.regs.getD ra 0 = 0 then k.toNat else s.next + 1 : Nat) : Int) := by
      have := hk rfl
      split <;> omega
    rw [hv] at hwork
    refine (step_go sb ra rb 8 rd k w s.regs p _ c s.next stop tr0 s.steps hst (by omega) (by omega) 3 0 _ (by omega) (by omega) (by omega) (by omega) ⟨sb, 9, none⟩ (.int .i64 ((if s.regs.getD ra 0 = 0 then k.toNat else s.next + 1 : Nat) : Int)) hwork ?_).mono ?_
    · intro W hW
      rw [hw2] at hW
      have h1 := hst2.below hW (by omega)
      exact put_next sb 0 _ _ W (by have := hW.size; omega) h1.cNext (h1.frozen 9)
    · rintro e w' ⟨rfl, hb⟩
      rw [hw2] at hb
      refine ⟨rfl, (hb2.setCell hB _).trans (hb.mono (by omega)), (hst2.setNext _).below hb (by omega), (hown2.far hne).below hb hwb⟩
  · by_cases he : (eff ⟨op, rd, ra, rb, k⟩ (s.regs.getD ra 0) (s.regs.getD rb 0) s.mem).1 = 0
    · by_cases h7 : op = 7
      · subst h7
        have hin := eff7_in he
        have e0 := eff7 (rd := rd) (ra := ra) (rb := rb) (b := s.regs.getD rb 0) hin
        have e1 : wk ⟨7, rd, ra, rb, k⟩ s.next (s.regs.getD ra 0) (s.regs.getD rb 0) s.mem = (2, wrap64 (s.regs.getD ra 0 + k), s.regs.getD rb 0, 0) := wk7 e0
        have e2 : doOne ⟨7, rd, ra, rb, k⟩ s = (0, ⟨s.regs, s.mem.set (wrap64 (s.regs.getD ra 0 + k)).toNat (s.regs.getD rb 0), s.next + 1, s.steps + 1⟩) := doOne7 e0
        rw [e1] at hwork
        rw [e2]
        obtain ⟨j, hj⟩ : ∃ j : Nat, wrap64 (s.regs.getD ra 0 + k) = j := ⟨(wrap64 (s.regs.getD ra 0 + k)).toNat, by omega⟩
        rw [hj] at hwork hin ⊢
        have hjl : j < s.mem.length := by omega
        obtain ⟨mb, off, hp, hmb, hcell⟩ := hrd.at hjl
        rcases hown.form with ⟨hn1, hn2⟩ | ⟨g, cap, cur, hn1, hn2, hn3, hn4, hn5, hn6, hn7, hn8⟩
        · rw [hn2] at hjl; simp at hjl
        simp only [Value.slice.injEq] at hn1
        obtain ⟨rfl, -, rfl⟩ := hn1
        have hgsb : g ≠ sb := fun e => hne (by simp [Value.ownBlock, e])
        refine (step_go sb ra rb 7 rd k w s.regs (some ⟨g, 0, none⟩) _ c s.next stop tr0 s.steps hst (by omega) (by omega) 2 _ _ (by omega) (by omega) (by omega) (by omega) ⟨g, j, none⟩ (.int .i64 (s.regs.getD rb 0)) hwork ?_).mono ?_
        · intro W hW
          rw [hw2] at hW
          have h1 := hst2.below hW (by omega)
          have h2 := hown2.below hW hwb
          obtain ⟨_, _, h3, h4⟩ := h2.slice
          simp only [Value.slice.injEq] at h3
          obtain ⟨rfl, -, rfl⟩ := h3
          obtain ⟨_, _, h5, _, h6⟩ := h4.at hjl
          simp only [Option.some.injEq, Addr.mk.injEq, and_true] at h5
          obtain ⟨rfl, rfl⟩ := h5
          have h7 := h6 j hjl
          rw [Nat.zero_add] at h7
          exact put_word sb g j _ c _ _ W hjl (by have := hW.size; omega) (by have := hW.size; omega) h1.cMv h7 (World.ownsRow.frozenAt h2 j)
        · rintro e w' ⟨rfl, hb⟩
          rw [hw2] at hb
          have h9 := (hown2.setWord j (s.regs.getD rb 0)).below hb hwb
          refine ⟨rfl, (hb2.setCell hn2 _).trans (hb.mono (by omega)), (hst2.far (Ne.symm hgsb)).below hb (by omega), ?_⟩
          simpa using h9
      · have e1 : wk ⟨op, rd, ra, rb, k⟩ s.next (s.regs.getD ra 0) (s.regs.getD rb 0) s.mem = (1, (rd : Int), (eff ⟨op, rd, ra, rb, k⟩ (s.regs.getD ra 0) (s.regs.getD rb 0) s.mem).2.1, 0) := wk_reg h8 h7 he
        have e2 : doOne ⟨op, rd, ra, rb, k⟩ s = (0, ⟨s.regs.set rd (eff ⟨op, rd, ra, rb, k⟩ (s.regs.getD ra 0) (s.regs.getD rb 0) s.mem).2.1, s.mem, s.next + 1, s.steps + 1⟩) := doOne_reg h8 h7 he
        rw [e1] at hwork
        rw [e2]
        refine (step_go sb ra rb op rd k w s.regs p _ c s.next stop tr0 s.steps hst (by omega) (by omega) 1 _ _ (by omega) (by omega) (by omega) (by omega) ⟨sb, rd, none⟩ (.int .i64 (eff ⟨op, rd, ra, rb, k⟩ (s.regs.getD ra 0) (s.regs.getD rb 0) s.mem).2.1) hwork ?_).mono ?_
        · intro W hW
          rw [hw2] at hW
          have h1 := hst2.below hW (by omega)
          exact put_reg sb rd _ _ W (by omega) (by have := hW.size; omega) (h1.reg (by omega)) (h1.frozen rd)
        · rintro e w' ⟨rfl, hb⟩
          rw [hw2] at hb
          exact ⟨rfl, (hb2.setCell hB _).trans (hb.mono (by omega)), (hst2.setReg (by omega) _).below hb (by omega), (hown2.far hne).below hb hwb⟩
    · have e1 : wk ⟨op, rd, ra, rb, k⟩ s.next (s.regs.getD ra 0) (s.regs.getD rb 0) s.mem = (0, 0, 0, (eff ⟨op, rd, ra, rb, k⟩ (s.regs.getD ra 0) (s.regs.getD rb 0) s.mem).1) := wk_trap h8 he
      have e2 : doOne ⟨op, rd, ra, rb, k⟩ s = ((eff ⟨op, rd, ra, rb, k⟩ (s.regs.getD ra 0) (s.regs.getD rb 0) s.mem).1, s) := doOne_trap h8 he
      rw [e1] at hwork
      rw [e2]
      refine (step_trap sb ra rb op rd k w s.regs p _ c s.next stop tr0 s.steps hst (by omega) (by omega) 0 0 0 _ (by simpa using he) hwork).mono ?_
      rintro e w' ⟨rfl, hb⟩
      exact ⟨rfl, hb.mono hBw, hst.below hb hsb, hown.below hb hwb⟩

end Go.Proofs.YtmeiogoodbnkkaaGreat
