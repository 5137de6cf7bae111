/- The orders one by one: the code's loop. -/
import Derived.Test.YtmeiogoodbnkkaaGreatCIR
import Derived.Test.YtmeiogoodbnkkaaGreatCK
namespace Go.Proofs.YtmeiogoodbnkkaaGreat
open Go.RowKit

theorem Tryz.info2 : (Tryz.prog.info? 2).map (fun i => (i.zero, i.size, i.bytes)) = some (some (.int .i64 0), 1, 8) := by kernel_rfl
theorem Tryz.size2 : (Tryz.prog.info? 2).map (·.size) = some 1 := by kernel_rfl

/-- Is the program at its end? -/
def endsB (prog : List Ord) (n : Nat) : Bool := decide ((prog.getD n Ord.none).op = 0)

set_option maxHeartbeats 1000000 in
theorem ends_any (p : Option Addr) (c : Nat) (prog : List Ord) (n : Nat) (w : World) (hp : RdO w p prog) :
    Calls Tryz.prog 42 #[.slice p prog.length c, .int .i64 n] w fun e w' => e = .returned (.bool (endsB prog n)) ∧ w' = w := by
  have HP := hide hp
  clear hp
  by_cases hlt : n < prog.length
  · obtain ⟨b, off, rfl, hbw, c0, -⟩ := HP.out.at hlt
    have t1 : ¬ ((prog.length : Int) ≤ (n : Int)) := by omega
    obtain ⟨o, ho⟩ : ∃ o, o = (prog.getD n Ord.none).op := ⟨_, rfl⟩
    rw [← ho] at c0
    have HO := hide ho
    clear ho
    by_cases h0 : o = 0
    · subst h0
      go_enter Tryz.func42, Tryz.ntmps42
      go_wp2
      go_ret
      exact ⟨ret_bool (decide_eq_true HO.out.symm).symm, rfl⟩
    · have h0' : (o == 0) = false := by simpa using h0
      have H0 := hide h0
      clear h0
      go_enter Tryz.func42, Tryz.ntmps42
      go_wp2
      go_ret
      exact ⟨ret_bool (decide_eq_false (by rw [← HO.out]; exact H0.out)).symm, rfl⟩
  · have t1 : ((prog.length : Int) ≤ (n : Int)) := by omega
    go_enter Tryz.func42, Tryz.ntmps42
    go_wp2
    go_ret
    refine ⟨ret_bool (decide_eq_true ?_).symm, rfl⟩
    simp [List.getD_eq_getElem?_getD, List.getElem?_eq_none (Nat.le_of_not_lt hlt), Ord.none]

theorem heap_mid (w : World) (a b c : Obj) : (((w.alloc a).alloc b).alloc c).heap[w.heap.size + 1]? = some b := by
  have e : w.heap.size + 1 = (w.alloc a).heap.size := by simp
  rw [Below.heap_alloc _ _ _ (by simp), e, heap_alloc_new]
theorem heap_top (w : World) (a b c : Obj) : (((w.alloc a).alloc b).alloc c).heap[w.heap.size + 1 + 1]? = some c := by
  have e : w.heap.size + 1 + 1 = ((w.alloc a).alloc b).heap.size := by simp
  rw [e, heap_alloc_new]
theorem add_none (b off j : Nat) : (⟨b, off, none⟩ : Addr).add j = ⟨b, off + j, none⟩ := by unfold Addr.add; split <;> simp_all
theorem list8 {l : List Int} (h : l.length = 8) : ∃ x0 x1 x2 x3 x4 x5 x6 x7, l = [x0, x1, x2, x3, x4, x5, x6, x7] := by
  match l, h with
  | [x0, x1, x2, x3, x4, x5, x6, x7], _ => exact ⟨x0, x1, x2, x3, x4, x5, x6, x7, rfl⟩

theorem goOn_end {prog : List Ord} {steps f : Nat} {s : St} (h : (prog.getD s.next Ord.none).op = 0) : goOn prog steps (f + 1) s = (s, 0, 0) := by
  rw [goOn, if_pos h]
theorem goOn_out {prog : List Ord} {steps f : Nat} {s : St} (h : (prog.getD s.next Ord.none).op ≠ 0) (hs : s.steps = steps) : goOn prog steps (f + 1) s = (s, 2, 0) := by
  rw [goOn, if_neg h, if_pos hs]
theorem goOn_trap {prog : List Ord} {steps f : Nat} {s : St} (h : (prog.getD s.next Ord.none).op ≠ 0) (hs : s.steps ≠ steps) (ht : (doOne (prog.getD s.next Ord.none) s).1 ≠ 0) :
    goOn prog steps (f + 1) s = (s, 1, (doOne (prog.getD s.next Ord.none) s).1) := by
  rw [goOn, if_neg h, if_neg hs, if_neg ht]
theorem goOn_on {prog : List Ord} {steps f : Nat} {s : St} (h : (prog.getD s.next Ord.none).op ≠ 0) (hs : s.steps ≠ steps) (ht : (doOne (prog.getD s.next Ord.none) s).1 = 0) :
    goOn prog steps (f + 1) s = goOn prog steps f (doOne (prog.getD s.next Ord.none) s).2 := by
  rw [goOn, if_neg h, if_neg hs, if_pos ht]
theorem doOne_steps {o : Ord} {s : St} (ht : (doOne o s).1 = 0) : (doOne o s).2.steps = s.steps + 1 := by
  unfold doOne at ht ⊢
  simp only at ht ⊢
  split
  · rfl
  · split
    · rfl
    · rename_i h8 he
      rw [if_neg h8, if_neg he] at ht
      exact absurd ht he

/-- A list with no spare room. -/
def Tight (v : Value) : Prop := v = .slice none 0 0 ∨ ∃ g n, v = .slice (some ⟨g, 0, none⟩) n n

theorem doOne_same {o : Ord} {s : St} (ht : (doOne o s).1 ≠ 0) : (doOne o s).2 = s := by
  unfold doOne at ht ⊢
  simp only at ht ⊢
  split
  · rename_i h8; rw [if_pos h8] at ht; exact absurd rfl ht
  · split
    · rename_i h8 he; rw [if_neg h8, if_pos he] at ht; exact absurd rfl ht
    · rfl

theorem Own.base {w : World} {B B' : Nat} {mv : Value} {mem : List Int} (h : Own w B mv mem) (hB : B' ≤ B) : Own w B' mv mem := by
  refine ⟨h.1, ?_⟩
  rcases h.2 with h2 | ⟨g, cap, cur, rfl, h2, rest⟩
  · exact .inl h2
  · exact .inr ⟨g, cap, cur, rfl, Nat.le_trans hB h2, rest⟩

set_option maxRecDepth 100000 in
set_option maxHeartbeats 8000000 in
theorem do_any (p pm : Option Addr) (c cm : Nat) (prog : List Ord) (mem : List Int) (steps : Nat) (w : World) (hp : RdO w p prog) (hm : Rd w pm mem) (hprog : isProg prog = true) (hml : mem.length ≤ 16) (hs : steps ≤ 400) :
    Calls Tryz.prog 27 #[.slice p prog.length c, .slice pm mem.length cm, .int .i64 steps] w fun e w' =>
      ∃ mv, e = .returned (.agg (stCells (plainSt prog mem steps).1.regs mv (plainSt prog mem steps).1.next (plainSt prog mem steps).2.1 (plainSt prog mem steps).2.2 (plainSt prog mem steps).1.steps).toArray) ∧
        Below w.heap.size w w' ∧ Own w' w.heap.size mv (plainSt prog mem steps).1.mem ∧ Tight mv := by
  have hmk := run_make_row' (P := Tryz.prog) 23 2 (.int .i64 0) 8 Tryz.underlying23 Tryz.info2 rfl .i64 .i64 mem.length (by omega) (by omega)
  obtain ⟨i0, hi0, hz0, hz1, hz2⟩ := info_parts Tryz.info2
  have HM := hide hm
  clear hm
  have HP := hide hp
  clear hp
  go_enter Tryz.func27, Tryz.ntmps27
  go_wp2_with (refine wpList_copy_rows rfl (.tmp 14) (.tmp 15) 23 23 rfl 2 i0 1 (w.heap.size + 1) mem.length mem.length pm mem.length cm (madeCells #[.int .i64 0] mem.length) 2 (mem.map (Value.int .i64)) Tryz.underlying23 hi0 hz1 (by rfl) (by rfl) ?c1 ?c2 ?c3 ?c4 ?c5 ?_)
  case c1 => exact heap_mid _ _ _ _
  case c2 => simp
  case c3 =>
    rcases HM.out with h | ⟨b, off, rfl, hb, hcell⟩
    · left; simp [h]
    · right
      refine ⟨_, rfl, fun j v hv => ?_⟩
      have hj : j < mem.length := by
        rcases Nat.lt_or_ge j mem.length with h' | h'
        · exact h'
        · rw [List.getElem?_eq_none (by simpa using h')] at hv; cases hv
      rw [add_none, Below.cell ((((Below.refl w.heap.size w).alloc (Nat.le_refl _) _).alloc (by simp) _).alloc (by simp <;> omega) _) (show b < w.heap.size from hb), hcell j hj]
      rw [← hv]
      simp [List.getD_eq_getElem?_getD, hj]
  case c4 => simp [madeCells]
  case c5 => intro v hv; simp at hv; obtain ⟨x, _, rfl⟩ := hv; rfl
  intro w1 HG hgr
  have hSt : StAt w1 (w.heap.size + 1 + 1) [0, 0, 0, 0, 0, 0, 0, 0] (.slice (some ⟨w.heap.size + 1, 0, none⟩) mem.length mem.length) 0 0 0 0 :=
    ⟨rfl, (hgr.block _ (by simp) (by simp)).trans (heap_top _ _ _ _)⟩
  have hOwn : Own w1 (w.heap.size + 1) (.slice (some ⟨w.heap.size + 1, 0, none⟩) mem.length mem.length) mem := by
    refine ⟨by simp, .inr ⟨_, _, _, rfl, Nat.le_refl _, HG.out, Nat.le_refl _, by unfold maxLen; omega, by simp [madeCells], ?_⟩⟩
    simp
  have hBel : ∃ W0, Hid (W0 = w.alloc (.cells #[.int .i64 0, .int .i64 0, .int .i64 0, .int .i64 0, .int .i64 0, .int .i64 0, .int .i64 0, .int .i64 0, .slice none 0 0, .int .i64 0, .int .i64 0, .int .i64 0, .int .i64 0] 46)) ∧ Below (w.heap.size + 1) W0 w1 :=
    ⟨_, rfl, (((Below.refl _ _).alloc (by simp) _).alloc (by simp <;> omega) _).grown hgr (by simp <;> omega) (by intro k hk; simp at hk; omega)⟩
  obtain ⟨W0, HW0, hBel⟩ := hBel
  have HST := hide hSt
  have HOWN := hide hOwn
  have HBEL := hide hBel
  clear hSt hOwn hBel HG hgr hmk
  go_wp2
  go_loopw [8] (fun _ wr => ∃ s : St, Hid (Fine prog mem.length steps s ∧ StAt wr (w.heap.size + 1 + 1) s.regs (.slice (some ⟨w.heap.size + 1, 0, none⟩) mem.length mem.length) s.next 0 0 s.steps ∧
      Own wr (w.heap.size + 1) (.slice (some ⟨w.heap.size + 1, 0, none⟩) mem.length mem.length) s.mem ∧ Below (w.heap.size + 1) W0 wr ∧ goOn prog steps (steps + 1 - s.steps) s = plainSt prog mem steps))
    (fun _ wr => steps + 1 - (intOf ((wr.cell? ⟨w.heap.size + 1 + 1, 12, none⟩).getD undef)).toNat)
  case atStart => exact ⟨start mem, ⟨rfl, rfl, Nat.zero_le _, Nat.zero_le _⟩, HST.out, HOWN.out, HBEL.out, rfl⟩
  case round =>
    obtain ⟨s, hr⟩ := hrel
    obtain ⟨hF, hS, hO, hB, hG⟩ := hr.out
    clear hr
    obtain ⟨x0, x1, x2, x3, x4, x5, x6, x7, hx⟩ := list8 hF.regs
    have hfu : steps + 1 - s.steps = (steps - s.steps) + 1 := by have := hF.steps; omega
    rw [hfu] at hG
    have hnl := hF.next
    have hsl := hF.steps
    have hpl := (isProg_spec hprog).1
    have HF := hide hF
    have HS := hide hS
    rw [hx] at hS
    have d0 : wr.cell? ⟨w.heap.size + 1 + 1, 0, none⟩ = some (.int .i64 x0) := hS.reg (i := 0) (by omega)
    have d1 : wr.cell? ⟨w.heap.size + 1 + 1, 1, none⟩ = some (.int .i64 x1) := hS.reg (i := 1) (by omega)
    have d2 : wr.cell? ⟨w.heap.size + 1 + 1, 2, none⟩ = some (.int .i64 x2) := hS.reg (i := 2) (by omega)
    have d3 : wr.cell? ⟨w.heap.size + 1 + 1, 3, none⟩ = some (.int .i64 x3) := hS.reg (i := 3) (by omega)
    have d4 : wr.cell? ⟨w.heap.size + 1 + 1, 4, none⟩ = some (.int .i64 x4) := hS.reg (i := 4) (by omega)
    have d5 : wr.cell? ⟨w.heap.size + 1 + 1, 5, none⟩ = some (.int .i64 x5) := hS.reg (i := 5) (by omega)
    have d6 : wr.cell? ⟨w.heap.size + 1 + 1, 6, none⟩ = some (.int .i64 x6) := hS.reg (i := 6) (by omega)
    have d7 : wr.cell? ⟨w.heap.size + 1 + 1, 7, none⟩ = some (.int .i64 x7) := hS.reg (i := 7) (by omega)
    have d8 := hS.cMv
    have d9 := hS.cNext
    have d10 := hS.cStop
    have d11 := hS.cTrap
    have d12 := hS.cSteps
    have df := hS.frozen
    have hN : ∀ o, wr.cell? ⟨w.heap.size, o, none⟩ = (w.alloc (.cells #[.int .i64 0, .int .i64 0, .int .i64 0, .int .i64 0, .int .i64 0, .int .i64 0, .int .i64 0, .int .i64 0, .slice none 0 0, .int .i64 0, .int .i64 0, .int .i64 0, .int .i64 0] 46)).cell? ⟨w.heap.size, o, none⟩ := fun o => by
      rw [hB.cell (p := ⟨w.heap.size, o, none⟩) (Nat.lt_succ_self _), HW0.out]
    have hNf : ∀ o, wr.frozen? ⟨w.heap.size, o, none⟩ = (w.alloc (.cells #[.int .i64 0, .int .i64 0, .int .i64 0, .int .i64 0, .int .i64 0, .int .i64 0, .int .i64 0, .int .i64 0, .slice none 0 0, .int .i64 0, .int .i64 0, .int .i64 0, .int .i64 0] 46)).frozen? ⟨w.heap.size, o, none⟩ := fun o => by
      rw [hB.frozen (p := ⟨w.heap.size, o, none⟩) (Nat.lt_succ_self _), HW0.out]
    have hbw : Below w.heap.size w wr := by
      have := HW0.out
      subst this
      exact ((Below.refl _ _).alloc (Nat.le_refl _) _).trans (hB.mono (by omega))
    have hpr : RdO wr p prog := HP.out.below (Nat.le_refl _) hbw
    have HG := hide hG
    have HO := hide hO
    have HB := hide hB
    have HBW := hide hbw
    have HPR := hide hpr
    have HX := hide hx
    have HSS := hide hS
    have hwz := hS.lt
    clear hF hS hx hG hO hB hbw hpr hfu
    by_cases he : (prog.getD s.next Ord.none).op = 0
    · have heb : endsB prog s.next = true := decide_eq_true he
      have HE := hide he
      clear he
      go_wp2_with (go_at_call 42; refine (ends_any _ _ _ _ _ HPR.out).mono ?_; rintro e w' ⟨rfl, rfl⟩)
      refine bodyPost_ret (v := .agg #[.int .i64 x0, .int .i64 x1, .int .i64 x2, .int .i64 x3, .int .i64 x4, .int .i64 x5, .int .i64 x6, .int .i64 x7, .slice (some ⟨w.heap.size + 1, 0, none⟩) mem.length mem.length, .int .i64 s.next, .int .i64 0, .int .i64 0, .int .i64 s.steps]) (by simp [results, Tryz.results27, go_sem, hN]) rfl ⟨.slice (some ⟨w.heap.size + 1, 0, none⟩) mem.length mem.length, ?_, ?_, ?_, .inr ⟨_, _, rfl⟩⟩
      · rw [← HG.out, goOn_end HE.out]; simp only [HX.out]; rfl
      · repeat (refine Below.setCell ?_ (by simp <;> omega) _)
        exact HBW.out
      · rw [← HG.out, goOn_end HE.out]
        repeat (refine Own.far ?_ (by simp [Value.ownBlock]))
        exact HO.out.base (by omega)
    · have heb : endsB prog s.next = false := decide_eq_false he
      have HE := hide he
      clear he
      by_cases hst : s.steps = steps
      · have t1 : ((s.steps : Int) == (steps : Int)) = true := by simp [hst]
        have HT := hide hst
        clear hst
        go_wp2_with (go_at_call 42; refine (ends_any _ _ _ _ _ HPR.out).mono ?_; rintro e w' ⟨rfl, rfl⟩)
        refine bodyPost_ret (v := .agg #[.int .i64 x0, .int .i64 x1, .int .i64 x2, .int .i64 x3, .int .i64 x4, .int .i64 x5, .int .i64 x6, .int .i64 x7, .slice (some ⟨w.heap.size + 1, 0, none⟩) mem.length mem.length, .int .i64 s.next, .int .i64 2, .int .i64 0, .int .i64 s.steps]) (by simp [results, Tryz.results27, go_sem, hN]) rfl ⟨.slice (some ⟨w.heap.size + 1, 0, none⟩) mem.length mem.length, ?_, ?_, ?_, .inr ⟨_, _, rfl⟩⟩
        · rw [← HG.out, goOn_out HE.out HT.out]; simp only [HX.out]; rfl
        · repeat (refine Below.setCell ?_ (by simp <;> omega) _)
          exact HBW.out
        · rw [← HG.out, goOn_out HE.out HT.out]
          repeat (refine Own.far ?_ (by simp [Value.ownBlock]))
          exact HO.out.base (by omega)
      · have t1 : ((s.steps : Int) == (steps : Int)) = false := by simp; omega
        have HT := hide hst
        clear hst
        have hlt : s.next < prog.length := by
          rcases Nat.lt_or_ge s.next prog.length with h' | h'
          · exact h'
          · exact absurd (by simp [List.getD_eq_getElem?_getD, List.getElem?_eq_none h', Ord.none]) HE.out
        obtain ⟨b, off, rfl, hbw', c0, c1, c2, c3, c4⟩ := HPR.out.at hlt
        have hord := (isProg_spec hprog).2 s.next hlt
        have hF2 := HF.out.one hprog HE.out HT.out
        obtain ⟨o, ho⟩ : ∃ o, o = prog.getD s.next Ord.none := ⟨_, rfl⟩
        rw [← ho] at c0 c1 c2 c3 c4 hord hF2
        have HOO := hide ho
        have hop : o.op ≠ 0 := by rw [ho]; exact HE.out
        have HORD := hide hord
        have HOP := hide hop
        have HF2 := hide hF2
        clear ho hord hop hF2
        by_cases htr : (doOne o s).1 = 0
        · have HTR := hide htr
          clear htr
          go_wp2_with (go_at_call 42; refine (ends_any _ _ _ _ _ HPR.out).mono ?_; rintro e w' ⟨rfl, rfl⟩)
          refine (step_any (w.heap.size + 1) (w.heap.size + 1 + 1) o s _ 0 0 prog.length _ HS.out HO.out (by omega) (by omega) (by simp [Value.ownBlock]) HORD.out HOP.out (by omega) (by omega)).mono ?_
          rintro e w2 ⟨rfl, hb2, hst2, hown2⟩
          rw [HTR.out]
          go_wp2
          have hsd := doOne_steps HTR.out
          go_roundw
          case rel =>
            refine ⟨(doOne o s).2, HF2.out, hst2, hown2, HB.out.trans hb2, ?_⟩
            rw [hsd, show steps + 1 - (s.steps + 1) = steps - s.steps by omega, ← HG.out, goOn_on HE.out HT.out (by rw [← HOO.out]; exact HTR.out), ← HOO.out]
          case measure =>
            have hlt2 : s.steps < steps := by have := HT.out; omega
            rw [hst2.cSteps, HS.out.cSteps, hsd]
            simp [intOf]
            omega
        · have HSAME := hide (doOne_same htr)
          obtain ⟨tr, htr'⟩ : ∃ tr, tr = (doOne o s).1 := ⟨_, rfl⟩
          have ht2 : (tr != 0) = true := by rw [htr']; simpa using htr
          have HTR := hide htr
          have HTR2 := hide htr'
          clear htr htr'
          go_wp2_with (go_at_call 42; refine (ends_any _ _ _ _ _ HPR.out).mono ?_; rintro e w' ⟨rfl, rfl⟩)
          refine (step_any (w.heap.size + 1) (w.heap.size + 1 + 1) o s _ 0 0 prog.length _ HS.out HO.out (by omega) (by omega) (by simp [Value.ownBlock]) HORD.out HOP.out (by omega) (by omega)).mono ?_
          rintro e w2 ⟨rfl, hb2, hst2, hown2⟩
          rw [HSAME.out] at hst2 hown2
          rw [← HTR2.out]
          have hBW2 : Below w.heap.size w w2 := HBW.out.trans (hb2.mono (by omega))
          have hN2 : ∀ o, w2.cell? ⟨w.heap.size, o, none⟩ = (w.alloc (.cells #[.int .i64 0, .int .i64 0, .int .i64 0, .int .i64 0, .int .i64 0, .int .i64 0, .int .i64 0, .int .i64 0, .slice none 0 0, .int .i64 0, .int .i64 0, .int .i64 0, .int .i64 0] 46)).cell? ⟨w.heap.size, o, none⟩ := fun o => by
            rw [hb2.cell (p := ⟨w.heap.size, o, none⟩) (Nat.lt_succ_self _)]; exact hN o
          have hNf2 : ∀ o, w2.frozen? ⟨w.heap.size, o, none⟩ = (w.alloc (.cells #[.int .i64 0, .int .i64 0, .int .i64 0, .int .i64 0, .int .i64 0, .int .i64 0, .int .i64 0, .int .i64 0, .slice none 0 0, .int .i64 0, .int .i64 0, .int .i64 0, .int .i64 0] 46)).frozen? ⟨w.heap.size, o, none⟩ := fun o => by
            rw [hb2.frozen (p := ⟨w.heap.size, o, none⟩) (Nat.lt_succ_self _)]; exact hNf o
          clear d0 d1 d2 d3 d4 d5 d6 d7 d8 d9 d10 d11 d12 df hN hNf c0 c1 c2 c3 c4 hwz hbw'
          rw [HX.out] at hst2
          have e0 : w2.cell? ⟨w.heap.size + 1 + 1, 0, none⟩ = some (.int .i64 x0) := hst2.reg (i := 0) (by omega)
          have e1 : w2.cell? ⟨w.heap.size + 1 + 1, 1, none⟩ = some (.int .i64 x1) := hst2.reg (i := 1) (by omega)
          have e2 : w2.cell? ⟨w.heap.size + 1 + 1, 2, none⟩ = some (.int .i64 x2) := hst2.reg (i := 2) (by omega)
          have e3 : w2.cell? ⟨w.heap.size + 1 + 1, 3, none⟩ = some (.int .i64 x3) := hst2.reg (i := 3) (by omega)
          have e4 : w2.cell? ⟨w.heap.size + 1 + 1, 4, none⟩ = some (.int .i64 x4) := hst2.reg (i := 4) (by omega)
          have e5 : w2.cell? ⟨w.heap.size + 1 + 1, 5, none⟩ = some (.int .i64 x5) := hst2.reg (i := 5) (by omega)
          have e6 : w2.cell? ⟨w.heap.size + 1 + 1, 6, none⟩ = some (.int .i64 x6) := hst2.reg (i := 6) (by omega)
          have e7 : w2.cell? ⟨w.heap.size + 1 + 1, 7, none⟩ = some (.int .i64 x7) := hst2.reg (i := 7) (by omega)
          have e8 := hst2.cMv
          have e9 := hst2.cNext
          have e10 := hst2.cStop
          have e11 := hst2.cTrap
          have e12 := hst2.cSteps
          have ef := hst2.frozen
          have hwz2 := hst2.lt
          have HB2 := hide hBW2
          have HST2 := hide hst2
          have HOWN2 := hide hown2
          clear hb2 hBW2 hst2 hown2
          go_wp2
          refine bodyPost_ret (v := .agg #[.int .i64 x0, .int .i64 x1, .int .i64 x2, .int .i64 x3, .int .i64 x4, .int .i64 x5, .int .i64 x6, .int .i64 x7, .slice (some ⟨w.heap.size + 1, 0, none⟩) mem.length mem.length, .int .i64 s.next, .int .i64 1, .int .i64 tr, .int .i64 s.steps]) (by simp [results, Tryz.results27, go_sem, hN2]) rfl ⟨.slice (some ⟨w.heap.size + 1, 0, none⟩) mem.length mem.length, ?_, ?_, ?_, .inr ⟨_, _, rfl⟩⟩
          · rw [← HG.out, goOn_trap HE.out HT.out (by rw [← HOO.out]; exact HTR.out), ← HOO.out, ← HTR2.out]; simp only [HX.out]; rfl
          · repeat (refine Below.setCell ?_ (by simp <;> omega) _)
            exact HB2.out
          · rw [← HG.out, goOn_trap HE.out HT.out (by rw [← HOO.out]; exact HTR.out), ← HOO.out, ← HTR2.out]
            repeat (refine Own.far ?_ (by simp [Value.ownBlock]))
            exact HOWN2.out.base (by omega)

end Go.Proofs.YtmeiogoodbnkkaaGreat
