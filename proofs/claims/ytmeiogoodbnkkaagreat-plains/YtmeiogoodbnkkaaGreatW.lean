/- The document's answer: Plain. -/
import Derived.Test.YtmeiogoodbnkkaaGreatV
namespace Go.Proofs.YtmeiogoodbnkkaaGreat
open Go.RowKit

set_option maxHeartbeats 2000000 in
theorem wrong_any (p pm : Option Addr) (c cm n : Nat) (prog : List Ord) (steps : Int) (w : World) (hp : RdO w p prog) (hlen : (prog.length : Int) ≤ 1000000000000000) (hlm : (n : Int) ≤ 1000000000000000) :
    Calls Tryz.prog 28 #[.slice p prog.length c, .slice pm n cm, .int .i64 steps] w fun e w' => e = .returned (.int .i64 (refuse prog n steps)) ∧ Below w.heap.size w w' := by
  have HP := hide hp
  clear hp
  rcases refuse_ways prog n steps with ⟨h1, hr⟩ | ⟨h1, h2, hr⟩ | ⟨h1, h2, h3, hr⟩ | ⟨h1, h2, h3, h4, hr⟩ | ⟨h1, h2, h3, h4, hr⟩
  · have HR := hide hr
    clear hr
    go_enter Tryz.func28, Tryz.ntmps28
    go_wp2_with (go_at_call 44; refine (refProg_any _ _ _ _ HP.out hlen).mono ?_; rintro e w1 ⟨rfl, hb1⟩)
    go_ret
    exact ⟨ret_int HR.out.symm, hb1⟩
  · have HR := hide hr
    clear hr
    have t2 : (16 : Int) < (n : Int) := by omega
    go_enter Tryz.func28, Tryz.ntmps28
    go_wp2_with (go_at_call 44; refine (refProg_any _ _ _ _ HP.out hlen).mono ?_; rintro e w1 ⟨rfl, hb1⟩)
    go_ret
    exact ⟨ret_int HR.out.symm, hb1⟩
  · have HR := hide hr
    clear hr
    have t2 : ¬ (16 : Int) < (n : Int) := by omega
    go_enter Tryz.func28, Tryz.ntmps28
    go_wp2_with (go_at_call 44; refine (refProg_any _ _ _ _ HP.out hlen).mono ?_; rintro e w1 ⟨rfl, hb1⟩)
    go_ret
    exact ⟨ret_int HR.out.symm, hb1⟩
  · have HR := hide hr
    clear hr
    have t2 : ¬ (16 : Int) < (n : Int) := by omega
    go_enter Tryz.func28, Tryz.ntmps28
    go_wp2_with (go_at_call 44; refine (refProg_any _ _ _ _ HP.out hlen).mono ?_; rintro e w1 ⟨rfl, hb1⟩)
    go_ret
    exact ⟨ret_int HR.out.symm, hb1⟩
  · have HR := hide hr
    clear hr
    have t2 : ¬ (16 : Int) < (n : Int) := by omega
    go_enter Tryz.func28, Tryz.ntmps28
    go_wp2_with (go_at_call 44; refine (refProg_any _ _ _ _ HP.out hlen).mono ?_; rintro e w1 ⟨rfl, hb1⟩)
    go_ret
    exact ⟨ret_int HR.out.symm, hb1⟩

set_option maxRecDepth 100000 in
set_option maxHeartbeats 8000000 in
theorem ref_go (p pm : Option Addr) (c cm : Nat) (prog : List Ord) (mem : List Int) (steps : Nat) (w : World) (hp : RdO w p prog) (hm : Rd w pm mem) (hr : refuse prog mem.length steps = 0) :
    Calls Tryz.prog 11 #[.slice p prog.length c, .slice pm mem.length cm, .int .i64 steps] w fun e w' =>
      ∃ mv, e = .returned (.tuple #[.agg (stCells (plainSt prog mem steps).1.regs mv (plainSt prog mem steps).1.next (plainSt prog mem steps).2.1 (plainSt prog mem steps).2.2 (plainSt prog mem steps).1.steps).toArray, .int .i64 0]) ∧
        Below w.heap.size w w' ∧ Own w' w.heap.size mv (plainSt prog mem steps).1.mem := by
  obtain ⟨hprog, hml, hs1, hs⟩ := refuse_ok hr
  have hpl := (isProg_spec hprog).1
  have HP := hide hp
  have HM := hide hm
  have ht : (refuse prog mem.length steps != 0) = false := by simp [hr]
  have HR := hide hr
  clear hp hm hr
  go_enter Tryz.func11, Tryz.ntmps11
  go_wp2_with (first | (go_at_call 28; refine (wrong_any _ _ _ _ _ _ _ _ (HP.out.below (Nat.le_refl _) ((Below.refl _ _).alloc (Nat.le_refl _) _)) (by omega) (by omega)).mono ?_; rintro e w1 ⟨rfl, hb1⟩; have HB1 : Hid (Below w.heap.size w w1) := (((Below.refl _ _).alloc (Nat.le_refl _) _).trans (hb1.mono (by simp))); have hz1 : w.heap.size + 1 ≤ w1.heap.size := (by have := hb1.size; simp at this; omega)) | (go_at_call 29; refine (words_any _ _ _ _ (HM.out.below (Nat.le_refl _) HB1.out) (by omega)).mono ?_; rintro e w2 ⟨mv, rfl, hb2, hown2⟩; obtain ⟨pp, cc, rfl, _⟩ := hown2.slice))
  have HNE : Hid ((Value.slice pp mem.length cc).ownBlock ≠ some w2.heap.size) := fun e => by have := (hown2.lt _ e).2; omega
  have HNE2 : Hid ((Value.slice pp mem.length cc).ownBlock ≠ some w.heap.size) := fun e => by have := (hown2.lt _ e).1; omega
  have hz2 : w.heap.size + 1 ≤ w2.heap.size := Nat.le_trans hz1 hb2.size
  have hOwn0 : Own w2 (w.heap.size + 1) (.slice pp mem.length cc) mem := hown2.base hz1
  have hOwn : ∀ x, Own (w2.alloc x) (w.heap.size + 1) (.slice pp mem.length cc) mem := fun x => hOwn0.below ((Below.refl _ _).alloc (Nat.le_refl _) _) (fun g hg => (hOwn0.lt g hg).2)
  have hBel : ∃ W0, Hid (W0 = w.alloc (.cells #[.int .i64 0, .int .i64 0, .int .i64 0, .int .i64 0, .int .i64 0, .int .i64 0, .int .i64 0, .int .i64 0, .slice none 0 0, .int .i64 0, .int .i64 0, .int .i64 0, .int .i64 0] 46)) ∧ ∀ x, Below (w.heap.size + 1) W0 (w2.alloc x) :=
    ⟨_, rfl, fun x => ((hb1.mono (by simp)).trans (hb2.mono hz1)).alloc hz2 _⟩
  obtain ⟨W0, HW0, hBel⟩ := hBel
  have HOWN := hide hOwn
  have HBEL := hide hBel
  clear hOwn hBel hOwn0 hb1 hb2 hown2 HB1
  go_loopw [11] (fun _ wr => ∃ s : St, Hid (Fine prog mem.length steps s ∧ StAt wr w2.heap.size s.regs (.slice pp mem.length cc) s.next 0 0 s.steps ∧
      Own wr (w.heap.size + 1) (.slice pp mem.length cc) s.mem ∧ Below (w.heap.size + 1) W0 wr ∧ goOn prog steps (steps + 1 - s.steps) s = plainSt prog mem steps))
    (fun _ wr => steps + 1 - (intOf ((wr.cell? ⟨w2.heap.size, 12, none⟩).getD undef)).toNat)
  case atStart => exact ⟨start mem, ⟨rfl, rfl, Nat.zero_le _, Nat.zero_le _⟩, ⟨rfl, heap_alloc_new _ _⟩, HOWN.out _, HBEL.out _, rfl⟩
  case round =>
    obtain ⟨s, hr⟩ := hrel
    obtain ⟨hF, hS, hO, hB, hG⟩ := hr.out
    clear hr
    obtain ⟨x0, x1, x2, x3, x4, x5, x6, x7, hx⟩ := list8 hF.regs
    have hfu : steps + 1 - s.steps = (steps - s.steps) + 1 := by have := hF.steps; omega
    rw [hfu] at hG
    have hnl := hF.next
    have hsl := hF.steps
    have HF := hide hF
    have HS := hide hS
    rw [hx] at hS
    have d0 : wr.cell? ⟨w2.heap.size, 0, none⟩ = some (.int .i64 x0) := hS.reg (i := 0) (by omega)
    have d1 : wr.cell? ⟨w2.heap.size, 1, none⟩ = some (.int .i64 x1) := hS.reg (i := 1) (by omega)
    have d2 : wr.cell? ⟨w2.heap.size, 2, none⟩ = some (.int .i64 x2) := hS.reg (i := 2) (by omega)
    have d3 : wr.cell? ⟨w2.heap.size, 3, none⟩ = some (.int .i64 x3) := hS.reg (i := 3) (by omega)
    have d4 : wr.cell? ⟨w2.heap.size, 4, none⟩ = some (.int .i64 x4) := hS.reg (i := 4) (by omega)
    have d5 : wr.cell? ⟨w2.heap.size, 5, none⟩ = some (.int .i64 x5) := hS.reg (i := 5) (by omega)
    have d6 : wr.cell? ⟨w2.heap.size, 6, none⟩ = some (.int .i64 x6) := hS.reg (i := 6) (by omega)
    have d7 : wr.cell? ⟨w2.heap.size, 7, none⟩ = some (.int .i64 x7) := hS.reg (i := 7) (by omega)
    have d8 := hS.cMv
    have d9 := hS.cNext
    have d10 := hS.cStop
    have d11 := hS.cTrap
    have d12 := hS.cSteps
    have df := hS.frozen
    have hN : ∀ o, wr.cell? ⟨w.heap.size, o, none⟩ = (w.alloc (.cells #[.int .i64 0, .int .i64 0, .int .i64 0, .int .i64 0, .int .i64 0, .int .i64 0, .int .i64 0, .int .i64 0, .slice none 0 0, .int .i64 0, .int .i64 0, .int .i64 0, .int .i64 0] 46)).cell? ⟨w.heap.size, o, none⟩ := fun o => by
      rw [hB.cell (p := ⟨w.heap.size, o, none⟩) (Nat.lt_succ_self _), HW0.out]
    have hNf : ∀ o, wr.frozen? ⟨w.heap.size, o, none⟩ = (w.alloc (.cells #[.int .i64 0, .int .i64 0, .int .i64 0, .int .i64 0, .int .i64 0, .int .i64 0, .int .i64 0, .int .i64 0, .slice none 0 0, .int .i64 0, .int .i64 0, .int .i64 0, .int .i64 0] 46)).frozen? ⟨w.heap.size, o, none⟩ := fun o => by
      rw [hB.frozen (p := ⟨w.heap.size, o, none⟩) (Nat.lt_succ_self _), HW0.out]
    have hbw : Below w.heap.size w wr := by
      have := HW0.out
      subst this
      exact ((Below.refl _ _).alloc (Nat.le_refl _) _).trans (hB.mono (by omega))
    have hpr : RdO wr p prog := HP.out.below (Nat.le_refl _) hbw
    have HG := hide hG
    have HO := hide hO
    have HB := hide hB
    have HBW := hide hbw
    have HPR := hide hpr
    have HX := hide hx
    have hwz := hS.lt
    have hne0 : ¬ w2.heap.size = w.heap.size := by omega
    have hne0' : ¬ w.heap.size = w2.heap.size := by omega
    clear hF hS hx hG hO hB hbw hpr hfu
    by_cases hlt : s.next < prog.length
    · obtain ⟨b, off, rfl, hbw', c0, c1, c2, c3, c4⟩ := HPR.out.at hlt
      have hord := (isProg_spec hprog).2 s.next hlt
      obtain ⟨o, ho⟩ : ∃ o, o = prog.getD s.next Ord.none := ⟨_, rfl⟩
      rw [← ho] at c0 c1 c2 c3 c4 hord
      have HOO := hide ho
      obtain ⟨o0, o8, od0, od7, oa0, oa7, ob0, ob7, hk⟩ := isOrd_spec hord
      obtain ⟨op, d, a, b', k⟩ := o
      simp only at c0 c1 c2 c3 c4 o0 o8 od0 od7 oa0 oa7 ob0 ob7 hk
      have HK := hide hk
      clear ho hord hk
      by_cases hop0 : op = 0
      · subst hop0
        have HE : Hid ((prog.getD s.next Ord.none).op = 0) := by show _ = _; rw [← HOO.out]
        go_wp2
        refine bodyPost_ret (v := .tuple #[.agg #[.int .i64 x0, .int .i64 x1, .int .i64 x2, .int .i64 x3, .int .i64 x4, .int .i64 x5, .int .i64 x6, .int .i64 x7, .slice pp mem.length cc, .int .i64 s.next, .int .i64 0, .int .i64 0, .int .i64 s.steps], .int .i64 0]) (by simp [results, Tryz.results11, go_sem, hN]) rfl ⟨.slice pp mem.length cc, ?_, ?_, ?_⟩
        · rw [← HG.out, goOn_end HE.out]; simp only [HX.out]; rfl
        · repeat (refine Below.setCell ?_ (by simp <;> omega) _)
          exact HBW.out
        · rw [← HG.out, goOn_end HE.out]
          repeat (refine Own.far ?_ (by first | exact HNE.out | exact HNE2.out | fail))
          exact HO.out.base (by omega)
      · have hop' : (op != 0) = true := by simpa using hop0
        have HE : Hid ((prog.getD s.next Ord.none).op ≠ 0) := by show _ ≠ _; rw [← HOO.out]; exact hop0
        have HOP0 := hide hop0
        clear hop0
        by_cases hst : s.steps = steps
        · have t1 : ((s.steps : Int) == (steps : Int)) = true := by simp [hst]
          have HT := hide hst
          clear hst
          go_wp2
          refine bodyPost_ret (v := .tuple #[.agg #[.int .i64 x0, .int .i64 x1, .int .i64 x2, .int .i64 x3, .int .i64 x4, .int .i64 x5, .int .i64 x6, .int .i64 x7, .slice pp mem.length cc, .int .i64 s.next, .int .i64 2, .int .i64 0, .int .i64 s.steps], .int .i64 0]) (by simp [results, Tryz.results11, go_sem, hN]) rfl ⟨.slice pp mem.length cc, ?_, ?_, ?_⟩
          · rw [← HG.out, goOn_out HE.out HT.out]; simp only [HX.out]; rfl
          · repeat (refine Below.setCell ?_ (by simp <;> omega) _)
            exact HBW.out
          · rw [← HG.out, goOn_out HE.out HT.out]
            repeat (refine Own.far ?_ (by first | exact HNE.out | exact HNE2.out | fail))
            exact HO.out.base (by omega)
        · have t1 : ((s.steps : Int) == (steps : Int)) = false := by simp; omega
          have HT := hide hst
          clear hst
          have hF2 := HF.out.one hprog HE.out HT.out
          rw [← HOO.out] at hF2
          have HF2 := hide hF2
          clear hF2
          have hne1 : ¬ wr.heap.size = w2.heap.size := by omega
          have hne2 : ¬ wr.heap.size = b := by omega
          obtain ⟨rd, rfl⟩ := Int.eq_ofNat_of_zero_le od0
          obtain ⟨ra, rfl⟩ := Int.eq_ofNat_of_zero_le oa0
          obtain ⟨rb, rfl⟩ := Int.eq_ofNat_of_zero_le ob0
          have da := HS.out.reg (i := ra) (by omega)
          have db := HS.out.reg (i := rb) (by omega)
          obtain ⟨xa, hxa⟩ : ∃ x, x = s.regs.getD ra 0 := ⟨_, rfl⟩
          obtain ⟨xb, hxb⟩ : ∃ x, x = s.regs.getD rb 0 := ⟨_, rfl⟩
          rw [← hxa] at da
          rw [← hxb] at db
          have HXA := hide hxa
          have HXB := hide hxb
          clear hxa hxb d0 d1 d2 d3 d4 d5 d6 d7
          by_cases h8 : op = 8
          · subst h8
            obtain ⟨nk, rfl⟩ := Int.eq_ofNat_of_zero_le (HK.out rfl).1
            by_cases hxa0 : xa = 0
            · subst hxa0
              go_wp2
              have e2 : doOne ⟨8, rd, ra, rb, nk⟩ s = (0, ⟨s.regs, s.mem, nk, s.steps + 1⟩) := by
                unfold doOne
                simp only [Int.toNat_natCast, if_true]
                rw [← HXA.out, if_pos rfl]
              have hgo := HG.out
              rw [goOn_on HE.out HT.out (by rw [← HOO.out, e2]), ← HOO.out, e2] at hgo
              have hF3 := HF2.out
              rw [e2] at hF3
              have hlt2 : s.steps < steps := by have := HT.out; omega
              go_roundw
              case rel =>
                refine ⟨⟨s.regs, s.mem, nk, s.steps + 1⟩, hF3, (((HS.out.setSteps _).setNext _).setNext _).below ((Below.refl _ _).alloc (Nat.le_refl _) _) (by simpa using hwz), (((HO.out.far HNE.out).far HNE.out).far HNE.out).below ((Below.refl _ _).alloc (Nat.le_refl _) _) (fun g hg => by have := (HO.out.lt g hg).2; simpa using this), (((HB.out.setCell hz2 _).setCell hz2 _).setCell hz2 _).alloc (by simp; omega) _, ?_⟩
                rw [← hgo, show steps + 1 - (s.steps + 1) = steps - s.steps by omega]
              case measure =>
                rw [StAt.cSteps ((((HS.out.setSteps _).setNext _).setNext _).below ((Below.refl _ _).alloc (Nat.le_refl _) _) (by simpa using hwz)), d12]
                simp [intOf]
                omega
            · have hxa' : (xa == 0) = false := by simpa using hxa0
              have HXA0 := hide hxa0
              clear hxa0
              go_wp2
              have e2 : doOne ⟨8, rd, ra, rb, nk⟩ s = (0, ⟨s.regs, s.mem, s.next + 1, s.steps + 1⟩) := by
                unfold doOne
                simp only [Int.toNat_natCast, if_true]
                rw [← HXA.out, if_neg HXA0.out]
              have hgo := HG.out
              rw [goOn_on HE.out HT.out (by rw [← HOO.out, e2]), ← HOO.out, e2] at hgo
              have hF3 := HF2.out
              rw [e2] at hF3
              have hlt2 : s.steps < steps := by have := HT.out; omega
              go_roundw
              case rel =>
                refine ⟨⟨s.regs, s.mem, s.next + 1, s.steps + 1⟩, hF3, ((HS.out.setSteps _).setNext _).below ((Below.refl _ _).alloc (Nat.le_refl _) _) (by simpa using hwz), ((HO.out.far HNE.out).far HNE.out).below ((Below.refl _ _).alloc (Nat.le_refl _) _) (fun g hg => by have := (HO.out.lt g hg).2; simpa using this), ((HB.out.setCell hz2 _).setCell hz2 _).alloc (by simp; omega) _, ?_⟩
                rw [← hgo, show steps + 1 - (s.steps + 1) = steps - s.steps by omega]
              case measure =>
                rw [StAt.cSteps (((HS.out.setSteps _).setNext _).below ((Below.refl _ _).alloc (Nat.le_refl _) _) (by simpa using hwz)), d12]
                simp [intOf]
                omega
          · have h8' : (op == 8) = false := by simpa using h8
            have H8 := hide h8
            clear h8
            have hop1 : 1 ≤ op := by have := HOP0.out; omega
            have hop7 : op ≤ 7 := by have := H8.out; omega
            obtain ⟨t, v, at', he⟩ : ∃ t v a, eff ⟨op, rd, ra, rb, k⟩ xa xb s.mem = (t, v, a) := ⟨_, _, _, rfl⟩
            have heff : ∀ W, Below wr.heap.size wr W → Calls Tryz.prog 30 #[.agg #[.int .i64 op, .int .i64 rd, .int .i64 ra, .int .i64 rb, .int .i64 k], .int .i64 xa, .int .i64 xb, .slice pp mem.length cc] W fun e w' =>
                e = .returned (.tuple #[.int .i64 t, .int .i64 v, .int .i64 at']) ∧ Below W.heap.size W w' := by
              intro W hW
              obtain ⟨p', c', hp', hrd'⟩ := HO.out.slice
              have := effect_any op rd ra rb k xa xb p' c' s.mem W (hrd'.below (Nat.le_refl _) hW) hop1 hop7
              rw [he, ← hp'] at this
              exact this
            have HEFF := hide heff
            have HEE := hide he
            clear heff he
            obtain ⟨W1, hW1⟩ : ∃ W1, W1 = wr.alloc (.cells #[.int .i64 op, .int .i64 rd, .int .i64 ra, .int .i64 rb, .int .i64 k] 40) := ⟨_, rfl⟩
            have hw1 : ∀ w', Below (wr.heap.size + 1) W1 w' → Below wr.heap.size wr w' := fun w' h => by
              rw [hW1] at h; exact ((Below.refl _ _).alloc (Nat.le_refl _) _).trans (h.mono (by omega))
            have hbox : ∀ w', Below (wr.heap.size + 1) W1 w' → w'.cell? ⟨wr.heap.size, 0, none⟩ = some (.int .i64 op) ∧ w'.cell? ⟨wr.heap.size, 1, none⟩ = some (.int .i64 rd) ∧ w'.cell? ⟨wr.heap.size, 2, none⟩ = some (.int .i64 ra) ∧ w'.cell? ⟨wr.heap.size, 3, none⟩ = some (.int .i64 rb) ∧ w'.cell? ⟨wr.heap.size, 4, none⟩ = some (.int .i64 k) := by
              intro w' h
              have hc : ∀ j, w'.cell? ⟨wr.heap.size, j, none⟩ = W1.cell? ⟨wr.heap.size, j, none⟩ := fun j => h.cell (p := ⟨wr.heap.size, j, none⟩) (Nat.lt_succ_self _)
              subst hW1
              simp [hc, go_sem]
            have r0 := fun w' h => (hbox w' h).1
            have r1 := fun w' h => (hbox w' h).2.1
            have r2 := fun w' h => (hbox w' h).2.2.1
            have r3 := fun w' h => (hbox w' h).2.2.2.1
            have r4 := fun w' h => (hbox w' h).2.2.2.2
            have q0 : ∀ w', Below (wr.heap.size + 1) W1 w' → w'.cell? ⟨w2.heap.size, ra, none⟩ = some (.int .i64 xa) := fun w' h => by rw [(hw1 w' h).cell (p := ⟨w2.heap.size, ra, none⟩) hwz]; exact da
            have q1 : ∀ w', Below (wr.heap.size + 1) W1 w' → w'.cell? ⟨w2.heap.size, rb, none⟩ = some (.int .i64 xb) := fun w' h => by rw [(hw1 w' h).cell (p := ⟨w2.heap.size, rb, none⟩) hwz]; exact db
            have q2 : ∀ w', Below (wr.heap.size + 1) W1 w' → w'.cell? ⟨w2.heap.size, 8, none⟩ = some (.slice pp mem.length cc) := fun w' h => by rw [(hw1 w' h).cell (p := ⟨w2.heap.size, 8, none⟩) hwz]; exact d8
            have HS0 : Hid (Below (wr.heap.size + 1) W1 (wr.alloc (.cells #[.int .i64 op, .int .i64 rd, .int .i64 ra, .int .i64 rb, .int .i64 k] 40)).drew) := by
              show Below _ _ _
              rw [hW1]; exact (Below.refl _ _).drew
            have HW1B := hide hw1
            have HBOX := hide hbox
            clear hbox hW1 hw1
            have ra1 : (ra : Int) < 8 := by omega
            have rb1 : (rb : Int) < 8 := by omega
            have rd1 : (rd : Int) < 8 := by omega
            go_wp2
            go_region_held3 (fun w' => Below (wr.heap.size + 1) W1 w') (first | assumption | exact HS0.out | exact HS1.out | fail) ((go_at_call 30; refine (HEFF.out _ (HW1B.out _ (by assumption))).mono ?_; rintro e w3 ⟨rfl, hb3⟩; have HS1 : Hid (Below (wr.heap.size + 1) W1 w3) := (HS0.out.trans (hb3.mono (by simp)))))
            have hb4 := HW1B.out _ HS1.out
            have hst3 := HS.out.below hb4 hwz
            have hown3 := HO.out.below hb4 (fun g hg => (HO.out.lt g hg).2)
            have hB3 := HB.out.trans (hb4.mono (by omega))
            have hbw3 := HBW.out.trans (hb4.mono (by omega))
            have hz3 : wr.heap.size ≤ w3.heap.size := hb4.size
            have hbx := HBOX.out _ HS1.out
            clear d8 d9 d10 d11 d12 df hN hNf c0 c1 c2 c3 c4 da db r0 r1 r2 r3 r4 q0 q1 q2 hb3 hb4
            by_cases ht0 : t = 0
            · subst ht0
              by_cases h7 : op = 7
              · subst h7
                have hin := eff7_in (by rw [HEE.out])
                have e0 := HEE.out
                rw [eff7 hin] at e0
                simp only [Prod.mk.injEq, true_and] at e0
                obtain ⟨rfl, hat⟩ := e0
                obtain ⟨j, hj⟩ := Int.eq_ofNat_of_zero_le (show 0 ≤ at' by omega)
                subst hj
                have hml2 := HF.out.mem
                have hjl : j < s.mem.length := by omega
                rcases hown3.form with ⟨hn1, hn2⟩ | ⟨g, cap, cur, hn1, hn2, hn3, hn4, hn5, hn6, hn7, hn8⟩
                · rw [hn2] at hjl; simp at hjl
                rw [hml2] at hn1
                simp only [Value.slice.injEq] at hn1
                obtain ⟨rfl, -, rfl⟩ := hn1
                have hgsb : ¬ g = w2.heap.size := fun e => HNE.out (by simp [Value.ownBlock, e])
                have hgsb' : ¬ w2.heap.size = g := fun e => hgsb e.symm
                obtain ⟨p', c', hp', hrd'⟩ := hown3.slice
                rw [hml2] at hp'
                simp only [Value.slice.injEq] at hp'
                obtain ⟨rfl, -, rfl⟩ := hp'
                obtain ⟨_, _, h5, _, h6⟩ := hrd'.at hjl
                simp only [Option.some.injEq, Addr.mk.injEq, and_true] at h5
                obtain ⟨rfl, rfl⟩ := h5
                have hcj := h6 j hjl
                rw [Nat.zero_add] at hcj
                have hown4 := hown3
                rw [← hml2] at hown4
                have hfj := World.ownsRow.frozenAt hown4 j
                have hjm : (j : Int) < (mem.length : Int) := by omega
                have g8 := hst3.cMv
                have g9 := hst3.cNext
                have g12 := hst3.cSteps
                have gf := hst3.frozen
                obtain ⟨y, hy⟩ : ∃ y, y = s.mem.getD j 0 := ⟨_, rfl⟩
                rw [← hy] at hcj
                have HST3 := hide hst3
                have HO3 := hide hown4
                have HB3 := hide hB3
                have HN2 := hide hn2
                clear hst3 hown3 hown4 hB3 h6 hrd' hn4 hn7 hn8 hy hn2
                have e2 : doOne ⟨7, rd, ra, rb, k⟩ s = (0, ⟨s.regs, s.mem.set j xb, s.next + 1, s.steps + 1⟩) := by
                  have h9 := HEE.out
                  rw [HXA.out] at h9
                  rw [show eff ⟨7, rd, ra, rb, k⟩ (s.regs.getD ra 0) xb s.mem = eff ⟨7, rd, ra, rb, k⟩ (s.regs.getD ra 0) (s.regs.getD rb 0) s.mem by rw [HXB.out]] at h9
                  rw [doOne7 h9, Int.toNat_natCast]
                have hgo := HG.out
                rw [goOn_on HE.out HT.out (by rw [← HOO.out, e2]), ← HOO.out, e2] at hgo
                have hF3 := HF2.out
                rw [e2] at hF3
                have hlt2 : s.steps < steps := by have := HT.out; omega
                have HGO := hide hgo
                have HF3 := hide hF3
                clear hgo hF3 e2 hin hat
                go_wp2
                go_roundw
                case rel =>
                  refine ⟨⟨s.regs, s.mem.set j xb, s.next + 1, s.steps + 1⟩, HF3.out, ((HST3.out.far hgsb').setSteps _).setNext _, ?_, ((HB3.out.setCell HN2.out _).setCell hz2 _).setCell hz2 _, ?_⟩
                  · have h9 := HO3.out.setWord j xb
                    rw [hml2] at h9
                    exact (h9.far HNE.out).far HNE.out
                  · rw [← HGO.out, show steps + 1 - (s.steps + 1) = steps - s.steps by omega]
                case measure =>
                  rw [StAt.cSteps (((HST3.out.far hgsb').setSteps _).setNext _), HS.out.cSteps]
                  simp [intOf]
                  omega
              · have h7' : (op == 7) = false := by simpa using h7
                have g8 := hst3.cMv
                have g9 := hst3.cNext
                have g12 := hst3.cSteps
                have gf := hst3.frozen
                have gd := hst3.reg (i := rd) (by omega)
                have HST3 := hide hst3
                have HO3 := hide hown3
                have HB3 := hide hB3
                have e2 : doOne ⟨op, rd, ra, rb, k⟩ s = (0, ⟨s.regs.set rd v, s.mem, s.next + 1, s.steps + 1⟩) := by
                  have h9 := HEE.out
                  rw [HXA.out, HXB.out] at h9
                  rw [doOne_reg H8.out h7 (by rw [h9]), h9]
                have hgo := HG.out
                rw [goOn_on HE.out HT.out (by rw [← HOO.out, e2]), ← HOO.out, e2] at hgo
                have hF3 := HF2.out
                rw [e2] at hF3
                have hlt2 : s.steps < steps := by have := HT.out; omega
                have HGO := hide hgo
                have HF3 := hide hF3
                clear hst3 hown3 hB3 hgo hF3 e2 h7
                have hrd9 : ¬ rd = 9 := by omega
                have hrd12 : ¬ rd = 12 := by omega
                have hrd9' : ¬ 9 = rd := by omega
                have hrd12' : ¬ 12 = rd := by omega
                go_wp2
                go_roundw
                case rel =>
                  refine ⟨⟨s.regs.set rd v, s.mem, s.next + 1, s.steps + 1⟩, HF3.out, ((HST3.out.setReg (by omega) _).setSteps _).setNext _, ((HO3.out.far HNE.out).far HNE.out).far HNE.out, ((HB3.out.setCell hz2 _).setCell hz2 _).setCell hz2 _, ?_⟩
                  rw [← HGO.out, show steps + 1 - (s.steps + 1) = steps - s.steps by omega]
                case measure =>
                  rw [StAt.cSteps (((HST3.out.setReg (by omega) _).setSteps _).setNext _), HS.out.cSteps]
                  simp [intOf]
                  omega
            · have ht0' : (t != 0) = true := by simpa using ht0
              have e2 : doOne ⟨op, rd, ra, rb, k⟩ s = (t, s) := by
                have := HEE.out
                rw [HXA.out, HXB.out] at this
                rw [doOne_trap H8.out (by rw [this]; exact ht0), this]
              have HE2 := hide e2
              have HTN : Hid ((doOne (prog.getD s.next Ord.none) s).1 ≠ 0) := by show _ ≠ _; rw [← HOO.out, e2]; exact ht0
              have hN3 : ∀ o, w3.cell? ⟨w.heap.size, o, none⟩ = (w.alloc (.cells #[.int .i64 0, .int .i64 0, .int .i64 0, .int .i64 0, .int .i64 0, .int .i64 0, .int .i64 0, .int .i64 0, .slice none 0 0, .int .i64 0, .int .i64 0, .int .i64 0, .int .i64 0] 46)).cell? ⟨w.heap.size, o, none⟩ := fun o => by
                rw [hB3.cell (p := ⟨w.heap.size, o, none⟩) (Nat.lt_succ_self _), HW0.out]
              have hNf3 : ∀ o, w3.frozen? ⟨w.heap.size, o, none⟩ = (w.alloc (.cells #[.int .i64 0, .int .i64 0, .int .i64 0, .int .i64 0, .int .i64 0, .int .i64 0, .int .i64 0, .int .i64 0, .slice none 0 0, .int .i64 0, .int .i64 0, .int .i64 0, .int .i64 0] 46)).frozen? ⟨w.heap.size, o, none⟩ := fun o => by
                rw [hB3.frozen (p := ⟨w.heap.size, o, none⟩) (Nat.lt_succ_self _), HW0.out]
              have hst4 := hst3
              rw [HX.out] at hst4
              have g0 : w3.cell? ⟨w2.heap.size, 0, none⟩ = some (.int .i64 x0) := hst4.reg (i := 0) (by omega)
              have g1 : w3.cell? ⟨w2.heap.size, 1, none⟩ = some (.int .i64 x1) := hst4.reg (i := 1) (by omega)
              have g2 : w3.cell? ⟨w2.heap.size, 2, none⟩ = some (.int .i64 x2) := hst4.reg (i := 2) (by omega)
              have g3 : w3.cell? ⟨w2.heap.size, 3, none⟩ = some (.int .i64 x3) := hst4.reg (i := 3) (by omega)
              have g4 : w3.cell? ⟨w2.heap.size, 4, none⟩ = some (.int .i64 x4) := hst4.reg (i := 4) (by omega)
              have g5 : w3.cell? ⟨w2.heap.size, 5, none⟩ = some (.int .i64 x5) := hst4.reg (i := 5) (by omega)
              have g6 : w3.cell? ⟨w2.heap.size, 6, none⟩ = some (.int .i64 x6) := hst4.reg (i := 6) (by omega)
              have g7 : w3.cell? ⟨w2.heap.size, 7, none⟩ = some (.int .i64 x7) := hst4.reg (i := 7) (by omega)
              have g8 := hst4.cMv
              have g9 := hst4.cNext
              have g10 := hst4.cStop
              have g11 := hst4.cTrap
              have g12 := hst4.cSteps
              have gf := hst4.frozen
              have HO3 := hide hown3
              have HB3 := hide hbw3
              clear hst3 hst4 hown3 hbw3 hB3 hbx e2 ht0
              go_wp2
              refine bodyPost_ret (v := .tuple #[.agg #[.int .i64 x0, .int .i64 x1, .int .i64 x2, .int .i64 x3, .int .i64 x4, .int .i64 x5, .int .i64 x6, .int .i64 x7, .slice pp mem.length cc, .int .i64 s.next, .int .i64 1, .int .i64 t, .int .i64 s.steps], .int .i64 0]) (by simp [results, Tryz.results11, go_sem, hN3]) rfl ⟨.slice pp mem.length cc, ?_, ?_, ?_⟩
              · rw [← HG.out, goOn_trap HE.out HT.out HTN.out, ← HOO.out, HE2.out]; simp only [HX.out]; rfl
              · repeat (refine Below.setCell ?_ (by simp <;> omega) _)
                exact HB3.out
              · rw [← HG.out, goOn_trap HE.out HT.out HTN.out, ← HOO.out, HE2.out]
                repeat (refine Own.far ?_ (by first | exact HNE.out | exact HNE2.out | fail))
                exact HO3.out.base (by omega)
    · have t0 : ¬ ((s.next : Int) < (prog.length : Int)) := by omega
      have HE : Hid ((prog.getD s.next Ord.none).op = 0) := by
        show _ = _
        simp [List.getD_eq_getElem?_getD, List.getElem?_eq_none (Nat.le_of_not_lt hlt), Ord.none]
      go_wp2
      refine bodyPost_ret (v := .tuple #[.agg #[.int .i64 x0, .int .i64 x1, .int .i64 x2, .int .i64 x3, .int .i64 x4, .int .i64 x5, .int .i64 x6, .int .i64 x7, .slice pp mem.length cc, .int .i64 s.next, .int .i64 0, .int .i64 0, .int .i64 s.steps], .int .i64 0]) (by simp [results, Tryz.results11, go_sem, hN]) rfl ⟨.slice pp mem.length cc, ?_, ?_, ?_⟩
      · rw [← HG.out, goOn_end HE.out]; simp only [HX.out]; rfl
      · repeat (refine Below.setCell ?_ (by simp <;> omega) _)
        exact HBW.out
      · rw [← HG.out, goOn_end HE.out]
        repeat (refine Own.far ?_ (by first | exact HNE.out | exact HNE2.out | fail))
        exact HO.out.base (by omega)

end Go.Proofs.YtmeiogoodbnkkaaGreat
