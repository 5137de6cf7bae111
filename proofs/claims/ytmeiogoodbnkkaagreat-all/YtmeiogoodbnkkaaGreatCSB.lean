/- The turn of giving out. -/
import Derived.Test.YtmeiogoodbnkkaaGreatCRVSA
import Derived.Test.YtmeiogoodbnkkaaGreatCS
namespace Go.Proofs.YtmeiogoodbnkkaaGreat
open Go.RowKit Go.Sort

theorem issueM_stop {prog : List Ord} {m : Mc} (h : (m.ended || m.shown) = true) : issueM prog m = m := by unfold issueM; rw [if_pos h]
theorem issueM_end {prog : List Ord} {m : Mc} (h : (m.ended || m.shown) = false) (h0 : (prog.getD m.next Ord.none).op = 0) : issueM prog m = { m with ended := true } := by
  unfold issueM; rw [if_neg (by rw [h]; decide)]; simp only; rw [if_pos h0]
theorem issueM_jump {prog : List Ord} {m : Mc} (h : (m.ended || m.shown) = false) (h8 : (prog.getD m.next Ord.none).op = 8) : issueM prog m = jumpM (prog.getD m.next Ord.none) m := by
  unfold issueM; rw [if_neg (by rw [h]; decide)]; simp only; rw [if_neg (by omega), if_pos h8]; rfl
theorem issueM_unit {prog : List Ord} {m : Mc} (h : (m.ended || m.shown) = false) (h0 : (prog.getD m.next Ord.none).op ≠ 0) (h8 : (prog.getD m.next Ord.none).op ≠ 8) : issueM prog m = unitM (prog.getD m.next Ord.none) m := by
  unfold issueM; rw [if_neg (by rw [h]; decide)]; simp only; rw [if_neg h0, if_neg h8]; rfl

set_option maxRecDepth 10000 in
set_option maxHeartbeats 8000000 in
theorem issue_any (W : World) (B : Nat) (L : Lo) (m : Mc) (prog : List Ord) (p : Option Addr) (c : Nat) (hm : MAt W B L m) (hpv : L.pv = .slice p prog.length c) (hp : RdO W p prog) (hprog : isProg prog = true) (hords : Ords prog.length m.given) (hsm : m.given.length ≤ 100000) (hu : ∀ i, i < 4 → 0 ≤ m.units.getD i 0 ∧ m.units.getD i 0 ≤ 1000) (hnx : m.next ≤ 1000) (hB : B ≤ W.heap.size) :
    Calls Tryz.prog 67 #[.pointer (some ⟨L.M, 0, none⟩)] W fun e w' => e = .returned (.tuple #[]) ∧
      ∃ gv', MAt w' B { L with gv := gv' } (issueM prog m) ∧ Kq B W w' := by
  have HM := hide hm
  have HP := hide hp
  have HOR := hide hords
  have HU := hide hu
  have c1 := hm.cEnded
  have c2 := hm.cShown
  have c3 := hm.cNext
  have c4 : W.cell? ⟨L.M, 9, none⟩ = some (.slice p prog.length c) := by rw [← hpv]; exact hm.cPv
  have c5 := hm.frozen 26
  have HPV := hide hpv
  clear hm hp hords hu hpv
  cases he : m.ended with
  | true =>
    have HE := hide (issueM_stop (prog := prog) (m := m) (by rw [he]; rfl))
    rw [he] at c1
    clear he
    go_enter Tryz.func67, Tryz.ntmps67
    go_wp2
    refine bodyPost_ret (results_none rfl _ _ _) rfl ?_
    exact ⟨rfl, L.gv, by rw [HE.out]; exact HM.out, .refl _ _⟩
  | false =>
    cases hs : m.shown with
    | true =>
      have HE := hide (issueM_stop (prog := prog) (m := m) (by rw [he, hs]; rfl))
      rw [he] at c1
      rw [hs] at c2
      clear he hs
      go_enter Tryz.func67, Tryz.ntmps67
      go_wp2
      refine bodyPost_ret (results_none rfl _ _ _) rfl ?_
      exact ⟨rfl, L.gv, by rw [HE.out]; exact HM.out, .refl _ _⟩
    | false =>
      have hes : (m.ended || m.shown) = false := by rw [he, hs]; rfl
      rw [he] at c1
      rw [hs] at c2
      have HES := hide hes
      clear he hs hes
      have HEN : Hid (∀ _ : World, Calls Tryz.prog 42 #[.slice p prog.length c, .int .i64 m.next] W fun e w' => e = .returned (.bool (endsB prog m.next)) ∧ w' = W) := fun _ => ends_any p c prog m.next W HP.out
      by_cases h0 : (prog.getD m.next Ord.none).op = 0
      · have HE := hide (issueM_end HES.out h0)
        have eb : endsB prog m.next = true := decide_eq_true h0
        rw [eb] at HEN
        clear h0 eb
        go_enter Tryz.func67, Tryz.ntmps67
        go_wp2_with (go_at_call 42; refine (HEN.out W).mono ?_; rintro e w' ⟨rfl, rfl⟩)
        refine bodyPost_ret (results_none rfl _ _ _) rfl ?_
        refine ⟨rfl, L.gv, by rw [HE.out]; exact HM.out.setEnded true, HM.out.kqM _ _⟩
      · have eb : endsB prog m.next = false := decide_eq_false h0
        rw [eb] at HEN
        have hlt : m.next < prog.length := by
          rcases Nat.lt_or_ge m.next prog.length with h' | h'
          · exact h'
          · exact absurd (by simp [List.getD_eq_getElem?_getD, List.getElem?_eq_none h', Ord.none]) h0
        obtain ⟨b, off, rfl, hbw', d0, d1, d2, d3, d4⟩ := HP.out.at hlt
        have hord := (isProg_spec hprog).2 m.next hlt
        have HJ := fun h8 => hide (issueM_jump (prog := prog) HES.out h8)
        have HN := fun h8 => hide (issueM_unit (prog := prog) HES.out h0 h8)
        obtain ⟨o, ho⟩ : ∃ o, o = prog.getD m.next Ord.none := ⟨_, rfl⟩
        rw [← ho] at d0 d1 d2 d3 d4 hord h0 HJ HN
        have HO := hide ho
        have HORD := hide hord
        have H0 := hide h0
        have hl1 : (m.next : Int) < (prog.length : Int) := by omega
        have hl0 : (0 : Int) ≤ (m.next : Int) := by omega
        obtain ⟨V, hV⟩ : ∃ V, W.alloc (.cells #[.int .i64 o.op, .int .i64 o.d, .int .i64 o.a, .int .i64 o.b, .int .i64 o.k] 40) = V := ⟨_, rfl⟩
        have hbV : Below W.heap.size W V := by rw [← hV]; exact (Below.refl _ _).alloc (Nat.le_refl _) _
        have HBV := hide hbV
        have HMV := hide (HM.out.below hbV)
        have HV := hide hV
        clear ho hord h0 eb hV hbV
        by_cases h8 : o.op = 8
        · have HE := HJ h8
          have HJU : Hid (Calls Tryz.prog 84 #[.pointer (some ⟨L.M, 0, none⟩), .agg #[.int .i64 8, .int .i64 o.d, .int .i64 o.a, .int .i64 o.b, .int .i64 o.k], .int .i64 m.next] V fun e w' => e = .returned (.tuple #[]) ∧ ∃ gv', MAt w' B { L with gv := gv' } (jumpM o m) ∧ Kq B V w') := by
            have := issueJump_any V B L m o prog.length HMV.out HORD.out h8 HOR.out hsm hnx (Nat.le_trans hB HBV.out.size)
            rw [h8] at this
            exact this
          rw [h8] at d0 HV
          clear HJ HN h8
          go_enter Tryz.func67, Tryz.ntmps67
          go_wp2_with (first | (go_at_call 42; refine (HEN.out W).mono ?_; rintro e w' ⟨rfl, rfl⟩) | (go_at_call 84; rw [HV.out]; refine HJU.out.mono ?_; rintro e w3 ⟨rfl, gv', hm3, hk3⟩))
          go_end0
          exact ⟨rfl, gv', by rw [HE.out]; exact hm3, (Kq.of_below HBV.out).trans hk3⟩
        · have HE := HN h8
          have t8 : (o.op == 8) = false := by simpa using h8
          have HJU : Hid (Calls Tryz.prog 85 #[.pointer (some ⟨L.M, 0, none⟩), .agg #[.int .i64 o.op, .int .i64 o.d, .int .i64 o.a, .int .i64 o.b, .int .i64 o.k], .int .i64 m.next] V fun e w' => e = .returned (.tuple #[]) ∧ ∃ gv', MAt w' B { L with gv := gv' } (unitM o m) ∧ Kq B V w') :=
            issueToUnit_any V B L m o prog.length HMV.out HORD.out H0.out h8 HOR.out hsm HU.out hnx (Nat.le_trans hB HBV.out.size)
          have H8 := hide h8
          clear HJ HN h8
          go_enter Tryz.func67, Tryz.ntmps67
          go_wp2_with (first | (go_at_call 42; refine (HEN.out W).mono ?_; rintro e w' ⟨rfl, rfl⟩) | (go_at_call 85; rw [HV.out]; refine HJU.out.mono ?_; rintro e w3 ⟨rfl, gv', hm3, hk3⟩))
          go_end0
          exact ⟨rfl, gv', by rw [HE.out]; exact hm3, (Kq.of_below HBV.out).trans hk3⟩

end Go.Proofs.YtmeiogoodbnkkaaGreat
