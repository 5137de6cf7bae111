/- The orders side by side: the code's loop. -/
import Derived.Test.YtmeiogoodbnkkaaGreatCSESF
import Derived.Test.YtmeiogoodbnkkaaGreatCSD
import Derived.Test.YtmeiogoodbnkkaaGreatCS
namespace Go.Proofs.YtmeiogoodbnkkaaGreat
open Go.RowKit

theorem list4 {l : List Int} (h : l.length = 4) : ∃ x0 x1 x2 x3, l = [x0, x1, x2, x3] := by
  match l, h with
  | [x0, x1, x2, x3], _ => exact ⟨x0, x1, x2, x3, rfl⟩

abbrev mach0 (u0 u1 u2 u3 l0 l1 l2 l3 b : Int) (pv mv : Value) : Array Value := #[.int .i64 u0, .int .i64 u1, .int .i64 u2, .int .i64 u3, .int .i64 l0, .int .i64 l1, .int .i64 l2, .int .i64 l3, .int .i64 b, pv,
  .int .i64 0, .int .i64 0, .int .i64 0, .int .i64 0, .int .i64 0, .int .i64 0, .int .i64 0, .int .i64 0, mv, .int .i64 0, .int .i64 0, .int .i64 0, .int .i64 0, .int .i64 0, .slice none 0 0, .slice none 0 0, .bool false, .bool false, .int .i64 0]

theorem Tryz.sizeMach : (Tryz.prog.info? 97).map (·.size) = some 29 := by kernel_rfl
theorem bMach (u0 u1 u2 u3 l0 l1 l2 l3 b : Int) (p : Option Addr) (n c : Nat) : Tryz.prog.built 97 [(0, .agg #[.int .i64 u0, .int .i64 u1, .int .i64 u2, .int .i64 u3, .int .i64 l0, .int .i64 l1, .int .i64 l2, .int .i64 l3, .int .i64 b]), (1, .slice p n c)] = some (mach0 u0 u1 u2 u3 l0 l1 l2 l3 b (.slice p n c) (.slice none 0 0)) := by kernel_rfl

theorem mach0_eq (u0 u1 u2 u3 l0 l1 l2 l3 b : Int) (pv mv : Value) (mem : List Int) : mach0 u0 u1 u2 u3 l0 l1 l2 l3 b pv mv = (mcCells (startM [u0, u1, u2, u3] [l0, l1, l2, l3] b mem) pv (.slice none 0 0) (.slice none 0 0) mv).toArray := rfl

theorem mach0_one (u0 u1 u2 u3 l0 l1 l2 l3 b : Int) (p : Option Addr) (n c : Nat) : ∀ v ∈ (mach0 u0 u1 u2 u3 l0 l1 l2 l3 b (.slice p n c) (.slice none 0 0)).toList, v.oneCell' = true := by
  simp [Value.oneCell']

abbrev stZero : Array Value := #[.int .i64 0, .int .i64 0, .int .i64 0, .int .i64 0, .int .i64 0, .int .i64 0, .int .i64 0, .int .i64 0, .slice none 0 0, .int .i64 0, .int .i64 0, .int .i64 0, .int .i64 0]

theorem stop_given (steps : Nat) (m : Mc) : (stopM steps m).2.given = m.given := by
  unfold stopM
  split
  · rfl
  · split
    · rfl
    · split <;> rfl

section
variable {P : Program} {w : World}
theorem step_store_row {ops : Array Oper} {o : Oper} {a : Act} {K : Act → World → Prop} {Q : Exit → Act → World → Prop} {E : Prop} (hgd : o.guard = none) (ty : TypeId) (x y : Operand) (ho : o.op = .store ty x y)
    (g : Nat) (cells : Array Value) (hx : a.eval x = .pointer (some ⟨g, 0, none⟩)) (hy : a.eval y = .agg cells)
    (t : TypeId) (old : Array Value) (hg : w.heap[g]? = some (.cells old t (0, 0))) (hi : (P.info? ty).map (·.size) = some cells.size)
    (hold : old.size = cells.size) (h1 : cells.all (·.oneCell') = true)
    (h : K (a.put o.dst undef) (w.setRow g cells)) :
    if Region.wanted o (yielded ops a.tmps) = true then Oper.wp P o a w K Q else E := by
  have hw : Region.wanted o (yielded ops a.tmps) = true := by simp [Region.wanted, hgd]
  rw [if_pos hw]
  exact wp_store_row ty x y ho g cells hx hy t old hg hi hold h1 h

theorem results_two {fn : Func} {p q : Tmp} {ty : TypeId} (h : fn.results = #[.cell p ty, .tmp q]) (tmps : Array Value) (w : World) (g : Nat) (t : TypeId) (cs : Array Value) (fr : Nat × Nat) (d : TypeDesc) {v : Value}
    (hp : tmps.getD p undef = .pointer (some ⟨g, 0, none⟩)) (hq : tmps.getD q undef = v) (hg : w.heap[g]? = some (.cells cs t fr))
    (hu : P.underlying ty = some d) (hd : (match d with | .struct _ | .array _ _ => true | _ => false) = true) (hi : (P.info? ty).map (·.size) = some cs.size) :
    (results fn tmps).run P w = .ok (.tuple #[.agg cs, v]) w := by
  have hp' : tmps[p]?.getD undef = .pointer (some ⟨g, 0, none⟩) := by simpa using hp
  have hq' : tmps[q]?.getD undef = v := by simpa using hq
  simp [results, h, hp', hq', asAddr, run_loadVar_row w g t ty cs fr d hg hu hd hi]
end

theorem Tryz.sizeState : (Tryz.prog.info? 46).map (·.size) = some 13 := by kernel_rfl

theorem do_first (w : World) (A : Obj) (S Z C : Array Value) (hZ : Z.size = C.size) :
    Below w.heap.size w ((((w.alloc A).alloc (.cells S 46)).alloc (.cells Z 97)).setRow (w.heap.size + 1 + 1) C) ∧ ((((w.alloc A).alloc (.cells S 46)).alloc (.cells Z 97)).setRow (w.heap.size + 1 + 1) C).heap.size = w.heap.size + 1 + 1 + 1 ∧
    ((((w.alloc A).alloc (.cells S 46)).alloc (.cells Z 97)).setRow (w.heap.size + 1 + 1) C).heap[w.heap.size + 1]? = some (.cells S 46 (0, 0)) ∧
    ((((w.alloc A).alloc (.cells S 46)).alloc (.cells Z 97)).setRow (w.heap.size + 1 + 1) C).heap[w.heap.size + 1 + 1]? = some (.cells C 97 (0, 0)) := by
  have _ := hZ
  refine ⟨?_, by simp [World.setRow], ?_, setRow_heap _ _ _ _ _ _ (heap_top _ _ _ _)⟩
  · exact ((((Below.refl _ _).alloc (Nat.le_refl _) _).alloc (by simp) _).alloc (by simp; omega) _).grown (row := some (w.heap.size + 1 + 1)) ⟨rfl, rfl, rfl, by simp [World.setRow], fun k _ hk => setRow_other _ _ k _ (fun e => hk (by rw [e]))⟩ (by simp; omega) (fun k e => by cases e; omega)
  · rw [setRow_other _ _ _ _ (by omega)]
    exact heap_mid _ _ _ _

set_option maxRecDepth 100000 in
set_option maxHeartbeats 8000000 in
theorem sbDo_any (u0 u1 u2 u3 l0 l1 l2 l3 b : Int) (p pm : Option Addr) (c cm : Nat) (prog : List Ord) (mem : List Int) (steps : Nat) (w : World) (hp : RdO w p prog) (hm : Rd w pm mem) (hprog : isProg prog = true) (hml : mem.length ≤ 16) (hs1 : 1 ≤ steps) (hs : steps ≤ 400)
    (hu : ∀ i, i < 4 → 0 ≤ [u0, u1, u2, u3].getD i 0 ∧ [u0, u1, u2, u3].getD i 0 ≤ 1000) (hl : ∀ i, i < 4 → 0 ≤ [l0, l1, l2, l3].getD i 0 ∧ [l0, l1, l2, l3].getD i 0 ≤ 1000) (hb : 0 ≤ b ∧ b ≤ 1000) (rr : Mc) (hrr : rr = runM [u0, u1, u2, u3] [l0, l1, l2, l3] b prog mem steps) :
    Calls Tryz.prog 33 #[.agg #[.int .i64 u0, .int .i64 u1, .int .i64 u2, .int .i64 u3, .int .i64 l0, .int .i64 l1, .int .i64 l2, .int .i64 l3, .int .i64 b], .slice p prog.length c, .slice pm mem.length cm, .int .i64 steps] w fun e w' =>
      ∃ mv tv, e = .returned (.tuple #[.agg (stCells rr.regs mv rr.next rr.stop rr.trap rr.steps).toArray, tv]) ∧
        Below w.heap.size w w' ∧ Own w' w.heap.size mv rr.mem ∧ Tight mv ∧ w'.ownsRow w.heap.size 79 5 tv rr.given.length (rr.given.flatMap tmCells) ∧ Tight tv := by
  have hmk := run_make_row' (P := Tryz.prog) 23 2 (.int .i64 0) 8 Tryz.underlying23 Tryz.info2 rfl .i64 .i64 mem.length (by omega) (by omega)
  obtain ⟨i0, hi0, hz0, hz1, hz2⟩ := info_parts Tryz.info2
  have HM := hide hm
  have HP := hide hp
  have HU := hide hu
  have HL := hide hl
  have HREQ := hide hrr
  clear hm hp hu hl hrr
  go_enter Tryz.func33, Tryz.ntmps33
  go_upto_region 1 with fail
  go_cut [10] from 11 to 33 (fun s10 wx => s10 = .pointer (some ⟨w.heap.size + 1 + 1, 0, none⟩) ∧ Below w.heap.size w wx ∧ wx.heap.size = w.heap.size + 1 + 1 + 1 ∧ wx.heap[w.heap.size + 1]? = some (.cells stZero 46 (0, 0)) ∧
    wx.heap[w.heap.size + 1 + 1]? = some (.cells (mach0 u0 u1 u2 u3 l0 l1 l2 l3 b (.slice p prog.length c) (.slice none 0 0)) 97 (0, 0)))
  case first =>
    go_wp2_with (first | (refine wpList_built rfl 97 #[(0, .tmp 11), (1, .tmp 12)] rfl [(0, .agg #[.int .i64 u0, .int .i64 u1, .int .i64 u2, .int .i64 u3, .int .i64 l0, .int .i64 l1, .int .i64 l2, .int .i64 l3, .int .i64 b]), (1, .slice p prog.length c)] _ (by simp [Act.eval, Act.put]) (bMach u0 u1 u2 u3 l0 l1 l2 l3 b p prog.length c) ?_) | (refine wpList_store_row rfl 97 (.tmp 10) (.tmp 13) rfl (w.heap.size + 1 + 1) (mach0 u0 u1 u2 u3 l0 l1 l2 l3 b (.slice p prog.length c) (.slice none 0 0)) (by simp [Act.eval, Act.put]) (by simp [Act.eval, Act.put]) 97 _ (heap_top _ _ _ _) Tryz.sizeMach (by simp) (by simp [Value.oneCell']) ?_) | fail)
    go_meet
    exact ⟨rfl, do_first _ _ _ _ _ (by simp)⟩
  case rest =>
  obtain ⟨rfl, hbx, hzx, hst, hmc⟩ := hcut
  have m18 : wc.cell? ⟨w.heap.size + 1 + 1, 18, none⟩ = some (.slice none 0 0) := by rw [cell_of_row _ _ _ _ _ _ hmc]; rfl
  have mf : ∀ j, wc.frozen? ⟨w.heap.size + 1 + 1, j, none⟩ = false := fun j => by rw [frozen_of_row _ _ _ _ _ hmc]
  have hne : ¬ w.heap.size + 1 + 1 = wc.heap.size := by omega
  have hne' : ¬ wc.heap.size = w.heap.size + 1 + 1 := by omega
  have hltx : w.heap.size + 1 + 1 < wc.heap.size := by omega
  have HBX := hide hbx
  have HZX := hide hzx
  have HST := hide hst
  have HMC := hide hmc
  clear hbx hzx hst hmc
  go_wp2_with (refine wpList_copy_rows rfl (.tmp 21) (.tmp 22) 23 23 rfl 2 i0 1 wc.heap.size mem.length mem.length pm mem.length cm (madeCells #[.int .i64 0] mem.length) 2 (mem.map (Value.int .i64)) Tryz.underlying23 hi0 hz1 (by rfl) (by rfl) ?c1 ?c2 ?c3 ?c4 ?c5 ?_)
  case c1 =>
    have := heap_alloc_new (wc.setCell ⟨w.heap.size + 1 + 1, 18, none⟩ (.slice (some ⟨wc.heap.size, 0, none⟩) mem.length mem.length)) (.cells (madeCells #[.int .i64 0] mem.length) 2)
    simpa using this
  case c2 => simp
  case c3 =>
    rcases HM.out with h | ⟨b', off, rfl, hb', hcell⟩
    · left; simp [h]
    · right
      refine ⟨_, rfl, fun j v hv => ?_⟩
      have hj : j < mem.length := by
        rcases Nat.lt_or_ge j mem.length with h' | h'
        · exact h'
        · rw [List.getElem?_eq_none (by simpa using h')] at hv; cases hv
      have hB : Below w.heap.size w ((wc.setCell ⟨w.heap.size + 1 + 1, 18, none⟩ (.slice (some ⟨wc.heap.size, 0, none⟩) mem.length mem.length)).alloc (.cells (madeCells #[.int .i64 0] mem.length) 2)) :=
        (HBX.out.setCell (by simp; omega) _).alloc (by have := HBX.out.size; simpa using this) _
      rw [add_none, hB.cell (show b' < w.heap.size from hb'), hcell j hj]
      rw [← hv]
      simp [List.getD_eq_getElem?_getD, hj]
  case c4 => simp [madeCells]
  case c5 => intro v hv; simp at hv; obtain ⟨x, _, rfl⟩ := hv; rfl
  intro w1 HG hgr
  obtain ⟨G0, hG0⟩ : ∃ G0, wc.heap.size = G0 := ⟨_, rfl⟩
  rw [hG0] at HG hgr hne hne' hltx
  have hB1 : Below w.heap.size w w1 := by
    have h1 : Below w.heap.size w ((wc.setCell ⟨w.heap.size + 1 + 1, 18, none⟩ (.slice (some ⟨G0, 0, none⟩) mem.length mem.length)).alloc (.cells (madeCells #[.int .i64 0] mem.length) 2)) :=
      (HBX.out.setCell (by simp; omega) _).alloc (by have := HBX.out.size; simpa using this) _
    exact h1.grown hgr h1.size (fun k e => by cases e; omega)
  have hmb : w1.heap[w.heap.size + 1 + 1]? = some (.cells (mach0 u0 u1 u2 u3 l0 l1 l2 l3 b (.slice p prog.length c) (.slice (some ⟨G0, 0, none⟩) mem.length mem.length)) 97 (0, 0)) := by
    rw [hgr.block _ (by simp; omega) (some_ne (by omega)), Below.heap_alloc _ _ _ (by simp; omega), heap_setCell_same _ _ _ _ _ _ HMC.out]
    rfl
  have hsb : w1.heap[w.heap.size + 1]? = some (.cells stZero 46 (0, 0)) := by
    rw [hgr.block _ (by simp; omega) (some_ne (by omega)), Below.heap_alloc _ _ _ (by simp; omega), heap_setCell_other _ _ _ _ (by simp)]
    exact HST.out
  have hOwn : Own w1 w.heap.size (.slice (some ⟨G0, 0, none⟩) mem.length mem.length) mem := by
    refine ⟨by simp, .inr ⟨_, _, _, rfl, by omega, HG.out, Nat.le_refl _, by unfold maxLen; omega, by simp [madeCells], ?_⟩⟩
    simp
  have hMAt : MAt w1 w.heap.size ⟨w.heap.size + 1 + 1, .slice p prog.length c, .slice none 0 0, .slice none 0 0, .slice (some ⟨G0, 0, none⟩) mem.length mem.length⟩ (startM [u0, u1, u2, u3] [l0, l1, l2, l3] b mem) :=
    ⟨rfl, rfl, rfl, by simp; omega, by rw [← mach0_eq]; exact hmb, ⟨rfl, .inl ⟨rfl, rfl⟩⟩, ⟨rfl, .inl ⟨rfl, rfl⟩⟩, hOwn⟩
  have HMA := hide hMAt
  have HB1 := hide hB1
  have HSB := hide hsb
  clear hMAt hOwn HG hgr hmk hmb hsb m18 mf hne hne' hltx HST HMC
  have HRP : Hid (∀ wr, Kq w.heap.size w1 wr → RdO wr p prog) := fun wr hk => HP.out.below (Nat.le_refl _) (HB1.out.trans (hk.below HB1.out.size))
  have HGS : Hid (Gd prog [u0, u1, u2, u3] [l0, l1, l2, l3] b mem.length (startM [u0, u1, u2, u3] [l0, l1, l2, l3] b mem)) := Gd.start _ _ _ _ _
  have HRU : Hid (rr = { goM prog steps steps (startM [u0, u1, u2, u3] [l0, l1, l2, l3] b mem) with steps := (goM prog steps steps (startM [u0, u1, u2, u3] [l0, l1, l2, l3] b mem)).cycle }) := by rw [HREQ.out]; rfl
  have hs0 : (startM [u0, u1, u2, u3] [l0, l1, l2, l3] b mem).cycle = 0 := rfl
  generalize startM [u0, u1, u2, u3] [l0, l1, l2, l3] b mem = m0 at *
  go_wp2
  go_loopw [24] (fun _ wr => ∃ (m : Mc) (gv cv : Value), Hid (Gd prog [u0, u1, u2, u3] [l0, l1, l2, l3] b mem.length m ∧ MAt wr w.heap.size ⟨w.heap.size + 1 + 1, .slice p prog.length c, gv, cv, .slice (some ⟨G0, 0, none⟩) mem.length mem.length⟩ m ∧ Kq w.heap.size w1 wr ∧ m.cycle < steps ∧ goM prog steps (steps - m.cycle) m = goM prog steps steps m0))
    (fun _ wr => steps - (intOf ((wr.cell? ⟨w.heap.size + 1 + 1, 23, none⟩).getD undef)).toNat)
  case atStart => exact ⟨m0, _, _, HGS.out, HMA.out, .refl _ _, by omega, by rw [hs0]; rfl⟩
  case round =>
    obtain ⟨m, gv, cv, hr⟩ := hrel
    obtain ⟨hg, hmw, hkq, hcy, hgo⟩ := hr.out
    clear hr
    have hBr : w.heap.size ≤ wr.heap.size := Nat.le_trans HB1.out.size hkq.size
    have HOC := hide (oneCycle_any wr w.heap.size ⟨w.heap.size + 1 + 1, .slice p prog.length c, gv, cv, .slice (some ⟨G0, 0, none⟩) mem.length mem.length⟩ m prog p c [u0, u1, u2, u3] [l0, l1, l2, l3] b mem.length hmw hg rfl (fun w2 hk => HRP.out w2 (hkq.trans hk)) hprog HU.out HL.out hb (by omega) hBr)
    have hgc := hg.cycle hb.1 hprog
    have hcc := hg.cycle_cycle hb.1 (prog := prog)
    have hgo2 : goM prog steps (steps - m.cycle) m = if (stopM steps (cycleM prog m)).1 then (stopM steps (cycleM prog m)).2 else goM prog steps (steps - m.cycle - 1) (stopM steps (cycleM prog m)).2 := by
      have : steps - m.cycle = (steps - m.cycle - 1) + 1 := by omega
      rw [this]; rfl
    have hcel : wr.cell? ⟨w.heap.size + 1 + 1, 23, none⟩ = some (.int .i64 m.cycle) := hmw.cCycle
    have HCEL := hide hcel
    have HGO := hide hgo
    have HGO2 := hide hgo2
    have HKQ := hide hkq
    have HGC := hide hgc
    have hlen := hgc.len
    have hchg := hgc.chg
    rw [hcc] at hlen hchg
    have hsq : (m.cycle + 1) * (m.cycle + 1) ≤ 160000 := Nat.le_trans (Nat.mul_le_mul (by omega : m.cycle + 1 ≤ 400) (by omega : m.cycle + 1 ≤ 400)) (by decide)
    have HCC := hide hcc
    have HST : Hid (∀ w2 gv' cv', MAt w2 w.heap.size ⟨w.heap.size + 1 + 1, .slice p prog.length c, gv', cv', .slice (some ⟨G0, 0, none⟩) mem.length mem.length⟩ (cycleM prog m) → Calls Tryz.prog 49 #[.pointer (some ⟨w.heap.size + 1 + 1, 0, none⟩), .int .i64 steps] w2 fun e w' => e = .returned (.bool (stopM steps (cycleM prog m)).1) ∧
        MAt w' w.heap.size ⟨w.heap.size + 1 + 1, .slice p prog.length c, gv', cv', .slice (some ⟨G0, 0, none⟩) mem.length mem.length⟩ (stopM steps (cycleM prog m)).2 ∧ Kq w.heap.size w2 w') := fun w2 gv' cv' h =>
      stop_any w2 w.heap.size ⟨w.heap.size + 1 + 1, .slice p prog.length c, gv', cv', .slice (some ⟨G0, 0, none⟩) mem.length mem.length⟩ (cycleM prog m) steps h (by omega) (by omega) HGC.out.effc HGC.out.cnt
    clear hg hmw hkq hgo hgo2 hcel hgc hcc hchg hlen hsq
    have HSS : Hid ((stopM steps (cycleM prog m)).1 = false → (stopM steps (cycleM prog m)).2 = cycleM prog m) := fun h => stop_same h
    have HGV : Hid ((stopM steps (cycleM prog m)).2.given = (cycleM prog m).given) := stop_given _ _
    have HSA : Hid ((cycleM prog m).cycle = steps → (stopM steps (cycleM prog m)).1 = true) := fun h => stop_at h
    generalize cycleM prog m = mc at *
    generalize stopM steps mc = sm at *
    obtain ⟨sb, m2⟩ := sm
    simp only at HST HSS HSA HGO2 HGV
    have hmcl : mc.given.length ≤ 400 := by have := HGC.out.len; have := HCC.out; omega
    cases sb with
    | false =>
      have hm2 := HSS.out rfl
      subst hm2
      go_wp2_with (first | (go_at_call 48; refine HOC.out.mono ?_; rintro e w2 ⟨rfl, gv', cv', hm2, hk2⟩; have HM2 := hide hm2; have HK2 := hide hk2; clear hm2 hk2) | (go_at_call 49; refine (HST.out _ _ _ HM2.out).mono ?_; rintro e w3 ⟨rfl, hm3, hk3⟩))
      have hc3 : w3.cell? ⟨w.heap.size + 1 + 1, 23, none⟩ = some (.int .i64 m2.cycle) := hm3.cCycle
      have hlt : m2.cycle < steps := by
        have h1 := HCC.out
        have h2 : m2.cycle ≠ steps := fun e => by have := HSA.out e; cases this
        omega
      go_roundw
      case rel =>
        refine ⟨m2, gv', cv', HGC.out, hm3, (HKQ.out.trans HK2.out).trans hk3, hlt, ?_⟩
        rw [← HGO.out, HGO2.out, HCC.out, show steps - (m.cycle + 1) = steps - m.cycle - 1 by omega]
        rfl
      case measure =>
        have h1 := HCC.out
        rw [hc3, HCEL.out, h1]
        simp [intOf]
        omega
    | true =>
      have HRR : Hid (rr = { m2 with steps := m2.cycle }) := by
        show rr = { m2 with steps := m2.cycle }
        rw [HRU.out, ← HGO.out, HGO2.out]
        rfl
      go_wp2_with (first | (go_at_call 48; refine HOC.out.mono ?_; rintro e w2 ⟨rfl, gv', cv', hm2, hk2⟩; have HM2 := hide hm2; have HK2 := hide hk2; clear hm2 hk2) | (go_at_call 49; refine (HST.out _ _ _ HM2.out).mono ?_; rintro e w3 ⟨rfl, hm3, hk3⟩; have n1 : w3.cell? ⟨w.heap.size + 1 + 1, 23, none⟩ = some (.int .i64 m2.cycle) := hm3.cCycle; have n2 : w3.cell? ⟨w.heap.size + 1 + 1, 22, none⟩ = some (.int .i64 m2.steps) := hm3.cSteps; have n3 : w3.frozen? ⟨w.heap.size + 1 + 1, 22, none⟩ = false := hm3.frozen 22; have HM3 := hide hm3; have HK3 := hide hk3; clear hm3 hk3))
      obtain ⟨w4, hw4⟩ : ∃ w4, w3.setCell ⟨w.heap.size + 1 + 1, 22, none⟩ (.int .i64 m2.cycle) = w4 := ⟨_, rfl⟩
      rw [hw4]
      have hm4 : MAt w4 w.heap.size ⟨w.heap.size + 1 + 1, .slice p prog.length c, gv', cv', .slice (some ⟨G0, 0, none⟩) mem.length mem.length⟩ { m2 with steps := m2.cycle } := by rw [← hw4]; exact HM3.out.setSteps m2.cycle
      have hk4 : Kq w.heap.size w1 w4 := by rw [← hw4]; exact ((HKQ.out.trans HK2.out).trans HK3.out).trans (HM3.out.kqM _ _)
      rw [← HRR.out] at hm4
      have hgl : rr.given.length ≤ 100000 := by
        have h1 := HRR.out
        have h2 : m2.given = mc.given := HGV.out
        rw [h1]
        show m2.given.length ≤ 100000
        rw [h2]
        omega
      obtain ⟨x0, x1, x2, x3, x4, x5, x6, x7, hx⟩ := list8 hm4.regs
      have a0 : w4.drew.cell? ⟨w.heap.size + 1 + 1, 10, none⟩ = some (.int .i64 x0) := by have := hm4.reg (i := 0) (by omega); rw [hx] at this; exact this
      have a1 : w4.drew.cell? ⟨w.heap.size + 1 + 1, 11, none⟩ = some (.int .i64 x1) := by have := hm4.reg (i := 1) (by omega); rw [hx] at this; exact this
      have a2 : w4.drew.cell? ⟨w.heap.size + 1 + 1, 12, none⟩ = some (.int .i64 x2) := by have := hm4.reg (i := 2) (by omega); rw [hx] at this; exact this
      have a3 : w4.drew.cell? ⟨w.heap.size + 1 + 1, 13, none⟩ = some (.int .i64 x3) := by have := hm4.reg (i := 3) (by omega); rw [hx] at this; exact this
      have a4 : w4.drew.cell? ⟨w.heap.size + 1 + 1, 14, none⟩ = some (.int .i64 x4) := by have := hm4.reg (i := 4) (by omega); rw [hx] at this; exact this
      have a5 : w4.drew.cell? ⟨w.heap.size + 1 + 1, 15, none⟩ = some (.int .i64 x5) := by have := hm4.reg (i := 5) (by omega); rw [hx] at this; exact this
      have a6 : w4.drew.cell? ⟨w.heap.size + 1 + 1, 16, none⟩ = some (.int .i64 x6) := by have := hm4.reg (i := 6) (by omega); rw [hx] at this; exact this
      have a7 : w4.drew.cell? ⟨w.heap.size + 1 + 1, 17, none⟩ = some (.int .i64 x7) := by have := hm4.reg (i := 7) (by omega); rw [hx] at this; exact this
      have a8 : w4.drew.cell? ⟨w.heap.size + 1 + 1, 18, none⟩ = some (.slice (some ⟨G0, 0, none⟩) mem.length mem.length) := hm4.cMv
      have a9 : w4.drew.cell? ⟨w.heap.size + 1 + 1, 19, none⟩ = some (.int .i64 rr.next) := hm4.cNext
      have a10 : w4.drew.cell? ⟨w.heap.size + 1 + 1, 20, none⟩ = some (.int .i64 rr.stop) := hm4.cStop
      have a11 : w4.drew.cell? ⟨w.heap.size + 1 + 1, 21, none⟩ = some (.int .i64 rr.trap) := hm4.cTrap
      have a12 : w4.drew.cell? ⟨w.heap.size + 1 + 1, 22, none⟩ = some (.int .i64 rr.steps) := hm4.cSteps
      have hsz4 : w4.heap[w.heap.size + 1]? = some (.cells stZero 46 (0, 0)) := hk4.block _ _ HSB.out (.inr (by simp [hot]))
      have HZH0 : Hid (∀ w5, Below w4.heap.size w4.drew w5 → w5.heap[w.heap.size + 1]? = some (.cells stZero 46 (0, 0))) := fun w5 hb => by
        rw [hb.block _ (Array.getElem?_eq_some_iff.1 hsz4).1]; exact hsz4
      have HTA := hide (times_any w4.drew w.heap.size ⟨w.heap.size + 1 + 1, .slice p prog.length c, gv', cv', .slice (some ⟨G0, 0, none⟩) mem.length mem.length⟩ rr (hm4.ck (W' := w4.drew) (fun _ _ _ _ h => h)) hgl)
      have HTM : Hid (Calls Tryz.prog 50 #[.pointer (some ⟨w.heap.size + 1 + 1, 0, none⟩)] w4.drew fun e w' => e = .returned (.slice (some ⟨w4.heap.size, 0, none⟩) rr.given.length rr.given.length) ∧ w'.ownsRow w4.heap.size 79 5 (.slice (some ⟨w4.heap.size, 0, none⟩) rr.given.length rr.given.length) rr.given.length (rr.given.flatMap tmCells) ∧ Below w4.heap.size w4.drew w') :=
        HTA.out
      have hM4 : w.heap.size + 1 + 1 < w4.heap.size := hm4.lt
      have HM4 := hide hm4
      have HK4 := hide hk4
      have HX := hide hx
      clear hw4 hm4 hk4 hx hsz4 n1 n2 n3
      have HZH : Hid (∀ w5, Below w4.heap.size w4.drew w5 → w5.heap[w.heap.size + 1]? = some (.cells stZero 46 (0, 0))) := fun w5 hb => HZH0.out w5 hb
      have HLD : Hid (∀ w5, Below w4.heap.size w4.drew w5 → ∀ j v, w4.drew.cell? ⟨w.heap.size + 1 + 1, j, none⟩ = some v → w5.cell? ⟨w.heap.size + 1 + 1, j, none⟩ = some v) := fun w5 hb j v hv => by rw [hb.cell (p := ⟨w.heap.size + 1 + 1, j, none⟩) hM4]; exact hv
      have HEND : Hid (∀ (tmps : Array Value) w5, tmps.getD 8 undef = .pointer (some ⟨w.heap.size + 1, 0, none⟩) → tmps.getD 9 undef = .slice (some ⟨w4.heap.size, 0, none⟩) rr.given.length rr.given.length → w5.ownsRow w4.heap.size 79 5 (.slice (some ⟨w4.heap.size, 0, none⟩) rr.given.length rr.given.length) rr.given.length (rr.given.flatMap tmCells) → Below w4.heap.size w4.drew w5 →
          bodyPost Tryz.prog Tryz.f33 (fun e w' => ∃ mv tv, e = .returned (.tuple #[.agg (stCells rr.regs mv rr.next rr.stop rr.trap rr.steps).toArray, tv]) ∧
            Below w.heap.size w w' ∧ Own w' w.heap.size mv rr.mem ∧ Tight mv ∧ w'.ownsRow w.heap.size 79 5 tv rr.given.length (rr.given.flatMap tmCells) ∧ Tight tv) .ret { tmps := tmps, defers := [] } (w5.setRow (w.heap.size + 1) #[.int .i64 x0, .int .i64 x1, .int .i64 x2, .int .i64 x3, .int .i64 x4, .int .i64 x5, .int .i64 x6, .int .i64 x7, .slice (some ⟨G0, 0, none⟩) mem.length mem.length, .int .i64 rr.next, .int .i64 rr.stop, .int .i64 rr.trap, .int .i64 rr.steps])) := fun tmps w5 h8 h9 hrow hb5 => by
        have hk5 : Kq w.heap.size w1 w5 := HK4.out.trans (.of_below ⟨hb5.os, hb5.tape, hb5.output, hb5.size, hb5.block⟩)
        have hm5 := HM4.out.below (W' := w5) ⟨hb5.os, hb5.tape, hb5.output, hb5.size, hb5.block⟩
        have hgs : w5.grownBy (w5.setRow (w.heap.size + 1) #[.int .i64 x0, .int .i64 x1, .int .i64 x2, .int .i64 x3, .int .i64 x4, .int .i64 x5, .int .i64 x6, .int .i64 x7, .slice (some ⟨G0, 0, none⟩) mem.length mem.length, .int .i64 rr.next, .int .i64 rr.stop, .int .i64 rr.trap, .int .i64 rr.steps]) (some (w.heap.size + 1)) := ⟨rfl, rfl, rfl, by simp [World.setRow], fun k _ hk => setRow_other _ _ k _ (fun e => hk (by rw [e]))⟩
        have hsz5 := HZH.out w5 hb5
        refine bodyPost_ret (v := .tuple #[.agg #[.int .i64 x0, .int .i64 x1, .int .i64 x2, .int .i64 x3, .int .i64 x4, .int .i64 x5, .int .i64 x6, .int .i64 x7, .slice (some ⟨G0, 0, none⟩) mem.length mem.length, .int .i64 rr.next, .int .i64 rr.stop, .int .i64 rr.trap, .int .i64 rr.steps], .slice (some ⟨w4.heap.size, 0, none⟩) rr.given.length rr.given.length]) (results_two (h := Tryz.results33) _ _ (w.heap.size + 1) 46 #[.int .i64 x0, .int .i64 x1, .int .i64 x2, .int .i64 x3, .int .i64 x4, .int .i64 x5, .int .i64 x6, .int .i64 x7, .slice (some ⟨G0, 0, none⟩) mem.length mem.length, .int .i64 rr.next, .int .i64 rr.stop, .int .i64 rr.trap, .int .i64 rr.steps] (0, 0) _ h8 h9 (setRow_heap _ _ _ _ _ _ hsz5) Tryz.underlying46 rfl Tryz.sizeState) rfl ?_
        refine ⟨.slice (some ⟨G0, 0, none⟩) mem.length mem.length, .slice (some ⟨w4.heap.size, 0, none⟩) rr.given.length rr.given.length, ?_, ?_, ?_, .inr ⟨_, _, rfl⟩, ?_, .inr ⟨_, _, rfl⟩⟩
        · rw [HX.out]; rfl
        · exact (HB1.out.trans (hk5.below HB1.out.size)).grown hgs (by have := hk5.size; have := HB1.out.size; omega) (fun k e => by cases e; omega)
        · exact row_kept hm5.mem hgs (fun g e => by cases e; exact row_ne hm5.mem hsz5 (by decide))
        · have h1 := row_kept hrow hgs (fun g e => by cases e; exact row_ne hrow hsz5 (by decide))
          refine ⟨h1.1, ?_⟩
          rcases h1.2 with h2 | ⟨g, cap, cur, h2, h3, rest⟩
          · exact .inl h2
          · exact .inr ⟨g, cap, cur, h2, by have := HK4.out.size; have := HB1.out.size; omega, rest⟩
      refine wp_region_any (by kernel_rfl) ?_
      change wpAny _ _ _ _ _ _ _ (World.drew _)
      refine wpAny_ready (rs := [0, 2]) (by kernel_rfl) (by simp) ?_
      refine AllReady.cons rfl (fun K hK => ?_) (AllReady.cons rfl (fun K hK => ?_) AllReady.nil)
      · go_simp
        refine hK _ _ ?_
        clear hK K
        refine wpAny_ready (rs := [1, 2]) (by kernel_rfl) (by simp) ?_
        refine AllReady.cons rfl (fun K hK => ?_) (AllReady.cons rfl (fun K hK => ?_) AllReady.nil)
        · go_simp
          refine hK _ _ ?_
          clear hK K
          refine wpAny_ready (rs := [2]) (by kernel_rfl) (by simp) ?_
          refine AllReady.cons rfl (fun K hK => ?_) AllReady.nil
          go_simp
          refine HTM.out.mono ?_
          rintro e w5 ⟨rfl, hrow, hb5⟩
          have HROW := hide hrow
          have HB5 := hide hb5
          clear hrow hb5
          refine hK _ _ ?_
          clear hK K
          refine wpAny_ready (rs := [3]) (by kernel_rfl) (by simp) ?_
          refine AllReady.cons rfl (fun K hK => ?_) AllReady.nil
          refine step_store_row rfl 46 (.tmp 8) (.tmp 32) rfl (w.heap.size + 1) #[.int .i64 x0, .int .i64 x1, .int .i64 x2, .int .i64 x3, .int .i64 x4, .int .i64 x5, .int .i64 x6, .int .i64 x7, .slice (some ⟨G0, 0, none⟩) mem.length mem.length, .int .i64 rr.next, .int .i64 rr.stop, .int .i64 rr.trap, .int .i64 rr.steps] rfl rfl 46 stZero (HZH.out w5 HB5.out) Tryz.sizeState rfl (by simp [Value.oneCell']) ?_
          refine hK _ _ ?_
          clear hK K
          refine wpAny_ready (rs := [4]) (by kernel_rfl) (by simp) ?_
          refine AllReady.cons rfl (fun K hK => ?_) AllReady.nil
          go_simp
          refine hK _ _ ?_
          clear hK K
          refine wpAny_done (by kernel_rfl) ?_ _
          go_wp2
          refine HEND.out _ w5 ?_ ?_ HROW.out HB5.out <;> rfl
        · go_simp
          refine HTM.out.mono ?_
          rintro e w5 ⟨rfl, hrow, hb5⟩
          have HROW := hide hrow
          have HB5 := hide hb5
          clear hrow hb5
          refine hK _ _ ?_
          clear hK K
          have c0 := HLD.out w5 HB5.out 10 _ a0
          have c1 := HLD.out w5 HB5.out 11 _ a1
          have c2 := HLD.out w5 HB5.out 12 _ a2
          have c3 := HLD.out w5 HB5.out 13 _ a3
          have c4 := HLD.out w5 HB5.out 14 _ a4
          have c5 := HLD.out w5 HB5.out 15 _ a5
          have c6 := HLD.out w5 HB5.out 16 _ a6
          have c7 := HLD.out w5 HB5.out 17 _ a7
          have c8 := HLD.out w5 HB5.out 18 _ a8
          have c9 := HLD.out w5 HB5.out 19 _ a9
          have c10 := HLD.out w5 HB5.out 20 _ a10
          have c11 := HLD.out w5 HB5.out 21 _ a11
          have c12 := HLD.out w5 HB5.out 22 _ a12
          refine wpAny_ready (rs := [1]) (by kernel_rfl) (by simp) ?_
          refine AllReady.cons rfl (fun K hK => ?_) AllReady.nil
          go_simp
          refine hK _ _ ?_
          clear hK K
          refine wpAny_ready (rs := [3]) (by kernel_rfl) (by simp) ?_
          refine AllReady.cons rfl (fun K hK => ?_) AllReady.nil
          refine step_store_row rfl 46 (.tmp 8) (.tmp 32) rfl (w.heap.size + 1) #[.int .i64 x0, .int .i64 x1, .int .i64 x2, .int .i64 x3, .int .i64 x4, .int .i64 x5, .int .i64 x6, .int .i64 x7, .slice (some ⟨G0, 0, none⟩) mem.length mem.length, .int .i64 rr.next, .int .i64 rr.stop, .int .i64 rr.trap, .int .i64 rr.steps] rfl rfl 46 stZero (HZH.out w5 HB5.out) Tryz.sizeState rfl (by simp [Value.oneCell']) ?_
          refine hK _ _ ?_
          clear hK K
          refine wpAny_ready (rs := [4]) (by kernel_rfl) (by simp) ?_
          refine AllReady.cons rfl (fun K hK => ?_) AllReady.nil
          go_simp
          refine hK _ _ ?_
          clear hK K
          refine wpAny_done (by kernel_rfl) ?_ _
          go_wp2
          refine HEND.out _ w5 ?_ ?_ HROW.out HB5.out <;> rfl
      · go_simp
        refine HTM.out.mono ?_
        rintro e w5 ⟨rfl, hrow, hb5⟩
        have HROW := hide hrow
        have HB5 := hide hb5
        clear hrow hb5
        refine hK _ _ ?_
        clear hK K
        have c0 := HLD.out w5 HB5.out 10 _ a0
        have c1 := HLD.out w5 HB5.out 11 _ a1
        have c2 := HLD.out w5 HB5.out 12 _ a2
        have c3 := HLD.out w5 HB5.out 13 _ a3
        have c4 := HLD.out w5 HB5.out 14 _ a4
        have c5 := HLD.out w5 HB5.out 15 _ a5
        have c6 := HLD.out w5 HB5.out 16 _ a6
        have c7 := HLD.out w5 HB5.out 17 _ a7
        have c8 := HLD.out w5 HB5.out 18 _ a8
        have c9 := HLD.out w5 HB5.out 19 _ a9
        have c10 := HLD.out w5 HB5.out 20 _ a10
        have c11 := HLD.out w5 HB5.out 21 _ a11
        have c12 := HLD.out w5 HB5.out 22 _ a12
        refine wpAny_ready (rs := [0]) (by kernel_rfl) (by simp) ?_
        refine AllReady.cons rfl (fun K hK => ?_) AllReady.nil
        go_simp
        refine hK _ _ ?_
        clear hK K
        refine wpAny_ready (rs := [1]) (by kernel_rfl) (by simp) ?_
        refine AllReady.cons rfl (fun K hK => ?_) AllReady.nil
        go_simp
        refine hK _ _ ?_
        clear hK K
        refine wpAny_ready (rs := [3]) (by kernel_rfl) (by simp) ?_
        refine AllReady.cons rfl (fun K hK => ?_) AllReady.nil
        refine step_store_row rfl 46 (.tmp 8) (.tmp 32) rfl (w.heap.size + 1) #[.int .i64 x0, .int .i64 x1, .int .i64 x2, .int .i64 x3, .int .i64 x4, .int .i64 x5, .int .i64 x6, .int .i64 x7, .slice (some ⟨G0, 0, none⟩) mem.length mem.length, .int .i64 rr.next, .int .i64 rr.stop, .int .i64 rr.trap, .int .i64 rr.steps] rfl rfl 46 stZero (HZH.out w5 HB5.out) Tryz.sizeState rfl (by simp [Value.oneCell']) ?_
        refine hK _ _ ?_
        clear hK K
        refine wpAny_ready (rs := [4]) (by kernel_rfl) (by simp) ?_
        refine AllReady.cons rfl (fun K hK => ?_) AllReady.nil
        go_simp
        refine hK _ _ ?_
        clear hK K
        refine wpAny_done (by kernel_rfl) ?_ _
        go_wp2
        refine HEND.out _ w5 ?_ ?_ HROW.out HB5.out <;> rfl

end Go.Proofs.YtmeiogoodbnkkaaGreat
