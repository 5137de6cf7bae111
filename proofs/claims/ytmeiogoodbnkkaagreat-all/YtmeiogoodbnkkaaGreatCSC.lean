/- Does the machine stop? -/
import Derived.Test.YtmeiogoodbnkkaaGreatCRYRU
import Derived.Test.YtmeiogoodbnkkaaGreatCRDRX
import Derived.Deep.CutRange
import Derived.BigRegion
namespace Go.Proofs.YtmeiogoodbnkkaaGreat
open Go.RowKit

def tk0 : Tk := ⟨Ord.none, 0, 0, 0, 0, 0, 0, 0, 0, 0⟩

theorem stopM_trap {steps : Nat} {m : Mc} {t : Tk} (h : (m.shown && allWr m.given m.counts) = true) (ht : m.given[m.counts]? = some t) :
    stopM steps m = (true, { undoM m.counts m with stop := 1, trap := t.trap, next := t.number }) := by
  unfold stopM
  rw [if_pos h]
  simp only [List.getD_eq_getElem?_getD, ht, Option.getD_some]
theorem stopM_halt {steps : Nat} {m : Mc} (h : (m.shown && allWr m.given m.counts) = false) (h2 : (m.ended && allWr m.given m.given.length) = true) : stopM steps m = (true, { m with stop := 0 }) := by
  unfold stopM; rw [if_neg (by rw [h]; decide), if_pos h2]
theorem stopM_out {steps : Nat} {m : Mc} (h : (m.shown && allWr m.given m.counts) = false) (h2 : (m.ended && allWr m.given m.given.length) = false) (h3 : m.cycle = steps) : stopM steps m = (true, { m with stop := 2 }) := by
  unfold stopM; rw [if_neg (by rw [h]; decide), if_neg (by rw [h2]; decide), if_pos h3]
theorem stopM_on {steps : Nat} {m : Mc} (h : (m.shown && allWr m.given m.counts) = false) (h2 : (m.ended && allWr m.given m.given.length) = false) (h3 : m.cycle ≠ steps) : stopM steps m = (false, m) := by
  unfold stopM; rw [if_neg (by rw [h]; decide), if_neg (by rw [h2]; decide), if_neg h3]

set_option maxRecDepth 10000 in
set_option maxHeartbeats 8000000 in
theorem stop_any (W : World) (B : Nat) (L : Lo) (m : Mc) (steps : Nat) (hm : MAt W B L m) (hsm : m.given.length ≤ 100000) (hcs : m.changes.length ≤ 100000) (heff : ∀ (i : Nat) (c : Ch), m.changes[i]? = some c → EffOk m.mem.length c.tgt c.pl) (hcnt : m.shown = true → m.counts < m.given.length) :
    Calls Tryz.prog 49 #[.pointer (some ⟨L.M, 0, none⟩), .int .i64 steps] W fun e w' => e = .returned (.bool (stopM steps m).1) ∧ MAt w' B L (stopM steps m).2 ∧ Kq B W w' := by
  have HM := hide hm
  have HEF := hide heff
  have HCN := hide hcnt
  have c1 := hm.cShown
  have c2 := hm.cCounts
  clear hm heff hcnt
  obtain ⟨q1, hq1⟩ : ∃ q, q = (m.shown && allWr m.given m.counts) := ⟨_, rfl⟩
  obtain ⟨q2, hq2⟩ : ∃ q, q = (m.ended && allWr m.given m.given.length) := ⟨_, rfl⟩
  have HQ1 := hide hq1
  have HQ2 := hide hq2
  have HTR : Hid (q1 = true → ∀ t, m.given[m.counts]? = some t → stopM steps m = (true, { undoM m.counts m with stop := 1, trap := t.trap, next := t.number })) := fun h t ht => stopM_trap (by rw [← HQ1.out]; exact h) ht
  have HHA : Hid (q1 = false → q2 = true → stopM steps m = (true, { m with stop := 0 })) := fun h h2 => stopM_halt (by rw [← HQ1.out]; exact h) (by rw [← HQ2.out]; exact h2)
  have HOU : Hid (q1 = false → q2 = false → m.cycle = steps → stopM steps m = (true, { m with stop := 2 })) := fun h h2 h3 => stopM_out (by rw [← HQ1.out]; exact h) (by rw [← HQ2.out]; exact h2) h3
  have HON : Hid (q1 = false → q2 = false → m.cycle ≠ steps → stopM steps m = (false, m)) := fun h h2 h3 => stopM_on (by rw [← HQ1.out]; exact h) (by rw [← HQ2.out]; exact h2) h3
  generalize stopM steps m = r at *
  clear hq1 hq2
  go_enter Tryz.func49, Tryz.ntmps49
  go_upto_region 2 with fail
  go_cut [6] from 7 to 81 (fun s6 wx => s6 = .bool q1 ∧ Below W.heap.size W wx)
  case first =>
    cases hs : m.shown with
    | false =>
      rw [hs] at c1
      have hq : q1 = false := by rw [HQ1.out, hs]; rfl
      clear hs
      go_wp2
      go_meet
      exact ⟨by rw [hq], .refl _ _⟩
    | true =>
      have hcn := HCN.out hs
      have HAW : Hid (Calls Tryz.prog 69 #[.pointer (some ⟨L.M, 0, none⟩), .int .i64 m.counts] W fun e w' => e = .returned (.bool q1) ∧ Below W.heap.size W w') := by
        have := allWritten_any W B L m m.counts HM.out (by omega) (by omega)
        have e : allWr m.given m.counts = q1 := by rw [HQ1.out, hs]; simp
        rw [e] at this
        exact this
      rw [hs] at c1
      clear hs
      go_wp2_with (go_at_call 69; refine HAW.out.mono ?_; rintro e w' ⟨rfl, hb⟩)
      go_meet
      exact ⟨rfl, hb⟩
  case rest =>
  obtain ⟨rfl, hb1⟩ := hcut
  clear c1 c2
  have hm1 := HM.out.below hb1
  have HM1 := hide hm1
  have HB1 := hide hb1
  cases q1 with
  | true =>
    have hsh : m.shown = true := by have := HQ1.out; simp at this; exact this.1
    have hcn := HCN.out hsh
    obtain ⟨t, ht⟩ : ∃ t, m.given[m.counts]? = some t := ⟨_, List.getElem?_eq_getElem hcn⟩
    have HR := hide (HTR.out rfl t ht)
    have c2 := hm1.cCounts
    have HUN : Hid (Calls Tryz.prog 70 #[.pointer (some ⟨L.M, 0, none⟩), .int .i64 m.counts] wc fun e w' => e = .returned (.tuple #[]) ∧ MAt w' B L (undoM m.counts m) ∧ Kq B wc w') := undoBehind_any wc B L m m.counts hm1 hcs HEF.out
    have HT := hide ht
    clear hm1 hb1 hsh ht HTR HHA HOU HON
    go_wp2_with (go_at_call 70; refine HUN.out.mono ?_; rintro e w2 ⟨rfl, hm2, hk2⟩; have HM2 := hide hm2; have HK2 := hide hk2; clear hm2 hk2)
    have hm2 := HM2.out
    obtain ⟨p, cap, G, hgv, hG⟩ := hm2.ahead (Nat.le_refl _)
    have hgl : (undoM m.counts m).given = m.given := rfl
    rw [hgl] at hgv hG
    rw [hG (by omega)] at hgv
    have d1 : w2.cell? ⟨L.M, 28, none⟩ = some (.int .i64 m.counts) := hm2.cCounts
    have HAT : Hid (∀ q, Calls Tryz.prog 71 #[.pointer (some ⟨L.M, 24, none⟩), .int .i64 m.counts] (w2.drewN q) fun e w' => e = .returned (.pointer (some ⟨G, m.counts * 17, none⟩)) ∧ ∃ n, w' = w2.drewN n) := fun q =>
      (tAt_any L.M 24 G m.given.length cap m.counts (w2.drewN q) (by have := hm2.cGv; rw [hgv] at this; exact this) hcn).mono fun e w' h => ⟨h.1, q, h.2⟩
    have HGV := hide hgv
    clear hm2 hgv hgl c2
    go_quiet (exact HAT.out _)
    go_wp2
    rename_i nq
    have hmq : MAt (w2.drewN nq) B L (undoM m.counts m) := HM2.out.ck (fun _ _ _ _ h => h)
    have hkq : Kq B w2 (w2.drewN nq) := .of_below (below_drewN (Below.refl _ _) _)
    generalize w2.drewN nq = wq at hmq hkq
    have e1 : wq.cell? ⟨G, m.counts * 17 + 16, none⟩ = some (.int .i64 t.trap) := hmq.tk HGV.out HT.out (j := 16) (by omega)
    have e2 : wq.cell? ⟨G, m.counts * 17 + 8, none⟩ = some (.int .i64 t.number) := hmq.tk HGV.out HT.out (j := 8) (by omega)
    have e3 := hmq.cStop
    have e4 := hmq.cTrap
    have e5 := hmq.cNext
    have e6 := hmq.frozen
    have hne : ¬ L.M = G := fun e => row_ne hmq.giv hmq.blk (by decide) (by rw [HGV.out, e]; rfl)
    have hne' : ¬ G = L.M := fun e => hne e.symm
    have HMQ := hide hmq
    have HKQ := hide hkq
    clear hmq hkq d1
    go_region
    go_wp2
    go_ret
    rw [HR.out]
    have k1 := HMQ.out.setStop 1
    have k2 := k1.setTrap t.trap
    have k3 := k2.setNext t.number
    refine ⟨rfl, k3.below (Below.refl _ _).drew, ?_⟩
    exact ((((((Kq.of_below HB1.out).trans HK2.out).trans HKQ.out).trans (HMQ.out.kqM _ _)).trans (k1.kqM _ _)).trans (k2.kqM _ _)).drew
  | false =>
    have c1 := hm1.cEnded
    obtain ⟨p, cap, G, hgv, hG⟩ := hm1.ahead (Nat.le_refl _)
    have c2 : wc.cell? ⟨L.M, 24, none⟩ = some (.slice p m.given.length cap) := by rw [← hgv]; exact hm1.cGv
    have HGV := hide hgv
    clear hm1 hb1 hgv
    go_upto_region 6 with fail
    go_cut [54] from 7 to 81 (fun s6 wx => s6 = .bool q2 ∧ Below W.heap.size W wx)
    case first =>
      cases hs : m.ended with
      | false =>
        rw [hs] at c1
        have hq : q2 = false := by rw [HQ2.out, hs]; rfl
        clear hs
        go_wp2
        go_meet
        exact ⟨by rw [hq], HB1.out⟩
      | true =>
        have HAW : Hid (Calls Tryz.prog 69 #[.pointer (some ⟨L.M, 0, none⟩), .int .i64 m.given.length] wc fun e w' => e = .returned (.bool q2) ∧ Below wc.heap.size wc w') := by
          have := allWritten_any wc B L m m.given.length HM1.out (by omega) (by omega)
          have e : allWr m.given m.given.length = q2 := by rw [HQ2.out, hs]; simp
          rw [e] at this
          exact this
        rw [hs] at c1
        clear hs
        go_wp2_with (first | (go_at_call 72; refine (tLen_any L.M 24 m.given.length cap p _ c2).mono ?_; rintro e w' ⟨rfl, rfl⟩) | (go_at_call 69; refine HAW.out.mono ?_; rintro e w'' ⟨rfl, hb⟩))
        go_meet
        exact ⟨rfl, HB1.out.trans (hb.mono HB1.out.size)⟩
    case rest =>
    obtain ⟨rfl, hb2⟩ := hcut
    clear c1 c2
    rename World => w2
    have hm2 := HM.out.below hb2
    have d1 := hm2.cCycle
    have d2 := hm2.cStop
    have d3 := hm2.frozen 20
    have HM2 := hide hm2
    have HB2 := hide hb2
    clear hm2 hb2
    cases q2 with
    | true =>
      have HR := hide (HHA.out rfl rfl)
      clear HTR HHA HOU HON
      go_wp2
      go_ret
      rw [HR.out]
      exact ⟨rfl, HM2.out.setStop 0, (Kq.of_below HB2.out).trans (HM2.out.kqM _ _)⟩
    | false =>
      by_cases hcy : m.cycle = steps
      · have HR := hide (HOU.out rfl rfl hcy)
        clear HTR HHA HOU HON
        rw [hcy] at d1
        go_wp2
        go_ret
        rw [HR.out]
        exact ⟨rfl, HM2.out.setStop 2, (Kq.of_below HB2.out).trans (HM2.out.kqM _ _)⟩
      · have HR := hide (HON.out rfl rfl hcy)
        have t1 : ((m.cycle : Int) == (steps : Int)) = false := by simp; omega
        have HCY := hide hcy
        clear HTR HHA HOU HON hcy
        go_wp2
        go_ret
        rw [HR.out]
        exact ⟨rfl, HM2.out, .of_below HB2.out⟩

end Go.Proofs.YtmeiogoodbnkkaaGreat
