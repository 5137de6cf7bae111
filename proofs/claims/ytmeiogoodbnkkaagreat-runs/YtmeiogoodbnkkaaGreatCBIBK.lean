/- Several texts in one: BI, BJ, BK. -/
import Derived.Test.YtmeiogoodbnkkaaGreatCBQBH
import Derived.Test.YtmeiogoodbnkkaaGreatCSB
import Derived.Deep.RegionLaw
/- The traps that show. -/
namespace Go.Proofs.YtmeiogoodbnkkaaGreat
open Go.RowKit

def condI (m : Mc) (i : Nat) : Bool := match m.given[i]? with | none => false | some t => decide (t.trap ≠ 0 ∧ t.done ≤ m.cycle)
def smI (m : Mc) (i : Nat) : Mc := match (List.range i).find? (condI m) with | none => m | some j => if m.shown = true ∧ m.counts < j then m else { m with shown := true, counts := j }

theorem smI_succ (m : Mc) (i : Nat) : smI m (i + 1) = if (condI m i && (decide (shI (smI m i) < 0) || decide ((i : Int) < shI (smI m i)))) = true then { smI m i with shown := true, counts := i } else smI m i := by
  unfold smI
  rw [List.range_succ, List.find?_append]
  cases hf : (List.range i).find? (condI m) with
  | some j =>
    have hj : j < i := by have := List.mem_of_find?_eq_some hf; simpa using this
    simp only [Option.some_or]
    have key : ∀ M : Mc, (0 ≤ shI M ∧ shI M ≤ j) → M = if (condI m i && (decide (shI M < 0) || decide ((i : Int) < shI M))) = true then { M with shown := true, counts := i } else M := fun M hq => by
      rw [if_neg]
      simp
      omega
    refine key _ ?_
    by_cases h : m.shown = true ∧ m.counts < j
    · rw [if_pos h]
      unfold shI
      rw [if_pos h.1]
      omega
    · rw [if_neg h]
      unfold shI
      simp
  | none =>
    simp only [Option.none_or]
    rw [List.find?_cons]
    cases hc : condI m i with
    | false => simp
    | true =>
      simp only [Bool.true_and]
      unfold shI
      cases hs : m.shown with
      | false => simp
      | true =>
        simp only [if_true]
        by_cases h1 : m.counts < i
        · rw [if_pos ⟨trivial, h1⟩, if_neg (by simp; omega)]
        · rw [if_neg (fun h => h1 h.2)]
          by_cases h2 : i < m.counts
          · rw [if_pos (by simp; omega)]
          · have h3 : i = m.counts := by omega
            rw [if_neg (by simp; omega), h3]
            cases m
            simp_all

theorem smI_all {m : Mc} (h : m.shown = true → condI m m.counts = true ∧ m.counts < m.given.length) : smI m m.given.length = showM m := by
  have e : firstShown m.given m.cycle = (List.range m.given.length).find? (condI m) := rfl
  unfold smI showM
  rw [e]
  cases hf : (List.range m.given.length).find? (condI m) with
  | none => rfl
  | some j =>
    simp only
    rw [if_neg]
    rintro ⟨hs, hc⟩
    obtain ⟨h1, h2⟩ := h hs
    have := List.find?_eq_some_iff_append.1 hf
    obtain ⟨_, as', bs, hab, hno⟩ := this
    have hm : m.counts ∈ as' := by
      have hj : (List.range m.given.length)[as'.length]? = some j := by rw [hab]; simp
      have hjl : as'.length = j := by
        have hlt : as'.length < m.given.length := by have := (List.getElem?_eq_some_iff.1 hj).1; simpa using this
        rw [List.getElem?_range hlt] at hj
        simpa using hj
      have h3 : (List.range m.given.length)[m.counts]? = some m.counts := by rw [List.getElem?_range h2]
      rw [hab, List.getElem?_append_left (by omega)] at h3
      exact List.mem_of_getElem? h3
    have := hno _ hm
    simp [h1] at this

theorem smI_keeps (m : Mc) (i : Nat) : (smI m i).given = m.given ∧ (smI m i).cycle = m.cycle := by
  unfold smI
  split
  · exact ⟨rfl, rfl⟩
  · split <;> exact ⟨rfl, rfl⟩

set_option maxRecDepth 100000 in
set_option maxHeartbeats 8000000 in
theorem shows_any (W : World) (B : Nat) (L : Lb) (m : Mc) (g : List (Tk × Xt)) (h : RAt W B L m g) (hsm : g.length ≤ 1000) (hsh : m.shown = true → condI m m.counts = true ∧ m.counts < m.given.length) :
    Calls Tryz.prog 38 #[.pointer (some ⟨L.D, 0, none⟩)] W fun e w' => e = .returned (.tuple #[]) ∧ RAt w' B L (showM m) g ∧ Kb B W w' := by
  obtain ⟨lp, lc, hlv0⟩ := h.sl
  have HR := hide h
  have HFIN : Hid (showM m = smI m g.length) := by
    show showM m = _
    rw [h.len]; exact (smI_all hsh).symm
  clear h hsh
  go_enter Tryz.func38, Tryz.ntmps38
  go_wp2_with fail
  go_loopg [2] g.length (fun gq s2 wr => ∃ i : Nat, i ≤ g.length ∧ gq = g.length - i ∧ s2 = .int .i64 i ∧ RAt wr B L (smI m i) g ∧ Kb B W wr)
  case atStart => exact ⟨0, Nat.zero_le _, rfl, rfl, HR.out, Kb.refl _ _⟩
  case round =>
    obtain ⟨i, hi1, hgi, rfl, hRA, hKB⟩ := hrel
    rename World => V
    have c24' : V.cell? ⟨L.D, 24, none⟩ = some (.slice lp g.length lc) := by rw [hRA.cLv, hlv0]
    have hD := hRA.lt
    rcases Nat.lt_or_ge i g.length with hil | hil
    · obtain ⟨⟨t, x⟩, hx⟩ : ∃ y, g[i]? = some y := ⟨_, List.getElem?_eq_getElem hil⟩
      have ht : m.given[i]? = some t := HR.out.get hx
      obtain ⟨G, cap, hlv, _, hG⟩ := hRA.row (i := i) hil
      rw [hlv0] at hlv
      injection hlv with ea eb ec
      subst ea
      subst ec
      have k8 : V.cell? ⟨G, i * 15 + 8, none⟩ = some (.int .i64 t.done) := hRA.gv hlv0 hx (j := 8) (by omega)
      have k12 : V.cell? ⟨G, i * 15 + 12, none⟩ = some (.int .i64 t.trap) := hRA.gv hlv0 hx (j := 12) (by omega)
      have c23 : V.cell? ⟨L.D, 23, none⟩ = some (.int .i64 m.cycle) := by rw [hRA.cCycle, (smI_keeps m i).2]
      obtain ⟨sI, hsI⟩ : ∃ sI, sI = shI (smI m i) := ⟨_, rfl⟩
      have c26 : V.cell? ⟨L.D, 26, none⟩ = some (.int .i64 sI) := by rw [hRA.cShown, hsI]
      have f26 : V.frozen? ⟨L.D, 26, none⟩ = false := hRA.frozen 26
      have hiI : (i : Int) < (g.length : Int) := by omega
      have HS : Hid (smI m (i + 1) = if ((!(t.trap == 0)) && decide (t.done ≤ m.cycle) && (decide (sI < 0) || decide ((i : Int) < sI))) = true then { smI m i with shown := true, counts := i } else smI m i) := hide (by
        rw [smI_succ, ← hsI]
        have : condI m i = ((!(t.trap == 0)) && decide (t.done ≤ m.cycle)) := by
          unfold condI
          rw [ht]
          rw [Bool.eq_iff_iff]
          simp
        rw [this])
      have HRA := hide hRA
      have HKB := hide hKB
      have HGI := hide hgi
      clear hRA hKB hgi hx ht hsI
      go_upto_region 3 with fail
      have HNO : Hid (((!(t.trap == 0)) && decide (t.done ≤ m.cycle) && (decide (sI < 0) || decide ((i : Int) < sI))) = false → smI m (i + 1) = smI m i) := fun hq => by rw [HS.out, if_neg (by rw [hq]; simp)]
      have HYES : Hid (((!(t.trap == 0)) && decide (t.done ≤ m.cycle) && (decide (sI < 0) || decide ((i : Int) < sI))) = true → smI m (i + 1) = { smI m i with shown := true, counts := i }) := fun hq => by rw [HS.out, if_pos hq]
      clear HS
      cases e1 : (t.trap == 0) with
      | true =>
        have e1' : (t.trap != 0) = false := by rw [bne, e1]; rfl
        go_quiet (fail)
        go_wp2_with fail
        have hE := HNO.out (by rw [e1]; rfl)
        have hgi := HGI.out
        go_roundg (g.length - (i + 1))
        case measure => omega
        case rel => exact ⟨i + 1, by omega, rfl, by go_num, by rw [hE]; exact HRA.out.below (below_drewN (Below.refl _ _) _), HKB.out.trans (Kb.of_below (below_drewN (Below.refl _ _) _))⟩
      | false =>
        have e1' : (t.trap != 0) = true := by rw [bne, e1]; rfl
        cases e2 : decide (t.done ≤ m.cycle) with
        | false =>
          go_quiet (fail)
          go_wp2_with fail
          have hE := HNO.out (by rw [e1, e2]; rfl)
          have hgi := HGI.out
          go_roundg (g.length - (i + 1))
          case measure => omega
          case rel => exact ⟨i + 1, by omega, rfl, by go_num, by rw [hE]; exact HRA.out.below (below_drewN (Below.refl _ _) _), HKB.out.trans (Kb.of_below (below_drewN (Below.refl _ _) _))⟩
        | true =>
          cases e3 : decide (sI < 0) with
          | true =>
            go_quiet (fail)
            go_wp2_with fail
            have hE := HYES.out (by rw [e1, e2, e3]; rfl)
            have hgi := HGI.out
            have hR2 := HRA.out.below (W' := V.drewN nq) (below_drewN (Below.refl _ _) _)
            go_roundg (g.length - (i + 1))
            case measure => omega
            case rel => exact ⟨i + 1, by omega, rfl, by go_num, by rw [hE]; exact hR2.setShown i, HKB.out.trans ((Kb.of_below (below_drewN (Below.refl _ _) _)).trans (hR2.kbD 26 _))⟩
          | false =>
            cases e4 : decide ((i : Int) < sI) with
            | true =>
              go_quiet (fail)
              go_wp2_with fail
              have hE := HYES.out (by rw [e1, e2, e3, e4]; rfl)
              have hgi := HGI.out
              have hR2 := HRA.out.below (W' := V.drewN nq) (below_drewN (Below.refl _ _) _)
              go_roundg (g.length - (i + 1))
              case measure => omega
              case rel => exact ⟨i + 1, by omega, rfl, by go_num, by rw [hE]; exact hR2.setShown i, HKB.out.trans ((Kb.of_below (below_drewN (Below.refl _ _) _)).trans (hR2.kbD 26 _))⟩
            | false =>
              go_quiet (fail)
              go_wp2_with fail
              have hE := HNO.out (by rw [e1, e2, e3, e4]; rfl)
              have hgi := HGI.out
              go_roundg (g.length - (i + 1))
              case measure => omega
              case rel => exact ⟨i + 1, by omega, rfl, by go_num, by rw [hE]; exact HRA.out.below (below_drewN (Below.refl _ _) _), HKB.out.trans (Kb.of_below (below_drewN (Below.refl _ _) _))⟩
    · have hie : i = g.length := by omega
      subst hie
      clear hil hgi
      go_wp2_with fail
      go_end0
      rw [HFIN.out]
      exact ⟨rfl, hRA, hKB⟩

end Go.Proofs.YtmeiogoodbnkkaaGreat

/- The document's turn of giving out. -/
namespace Go.Proofs.YtmeiogoodbnkkaaGreat
open Go.RowKit Go.Sort

theorem bPut {w w' : World} (h : Below w.heap.size w w') {N j : Nat} (hN : w.heap.size ≤ N) (v : Value) : Below w.heap.size w (w'.setCell ⟨N, j, none⟩ v) := h.setCell hN v

theorem sets_box {T : TypeId} {X : Nat} : ∀ (vs : List Value) (W : World) (o : Nat) (zs : List Value), W.heap[X]? = some (.cells zs.toArray T (0, 0)) → (setsFrom W X o vs).heap[X]? = some (.cells (setL zs o vs).toArray T (0, 0))
  | [], W, o, zs, h => h
  | v :: vs, W, o, zs, h => by
    rw [setsFrom, setL]
    refine sets_box vs _ (o + 1) _ ?_
    rw [heap_setCell_same W X o _ _ v h, List.setIfInBounds_toArray]

theorem gv_one (y : Tk × Xt) : ∀ u ∈ gvC y, u.oneCell' = true := by
  intro u hu
  simp [gvC] at hu
  rcases hu with h | h | h | h | h | h | h | h | h | h | h | h | h | h | h <;> subst h <;> rfl
theorem Tryz.infoGv : (Tryz.prog.info? 81).map (fun i => (i.zero, i.size, i.bytes)) = some (some (.agg #[.int .i64 0, .int .i64 0, .int .i64 0, .int .i64 0, .int .i64 0, .int .i64 0, .int .i64 0, .int .i64 0, .int .i64 0, .int .i64 0, .int .i64 0, .int .i64 0, .int .i64 0, .int .i64 0, .int .i64 0]), 15, 120) := by kernel_rfl

theorem newsB (W : World) (l : List Value) (ty : TypeId) : ∀ j u, l[j]? = some u → (W.alloc (.cells l.toArray ty)).drew.cell? ((⟨W.heap.size, 0, none⟩ : Addr).add j) = some u := fun j u hu => by
  rw [addr_add, Nat.zero_add]
  show (W.alloc (.cells l.toArray ty)).cell? _ = _
  rw [cell_of_row _ _ _ _ _ _ (heap_alloc_new W (.cells l.toArray ty))]
  simpa using hu
theorem grown_one {W w1 : World} (A : Obj) {row : Option Nat} (h : (W.alloc A).drew.grownBy w1 row) : W.grownBy w1 row :=
  ⟨h.os, h.tape, h.output, Nat.le_trans (by simp [World.drew]) h.size, fun k hk hne => (h.block k (by simp [World.drew]; omega) hne).trans (Below.heap_alloc _ _ _ hk)⟩

def newJ (o : Ord) (m : Mc) : Tk × Xt := (⟨o, m.next, m.cycle, m.cycle, m.cycle, m.cycle, 0, 0, 0, 0⟩, ⟨0, 0, 0, 0⟩)
def newU (o : Ord) (m : Mc) : Tk × Xt := (⟨o, m.next, m.cycle, 0, 0, 0, 0, 0, 0, 0⟩, ⟨0, 0, 0, 0⟩)

/-- What a new order leaves of the board's rows. -/
theorem Gh.add {m m' : Mc} {g : List (Tk × Xt)} (h : Gh m g) (t : Tk) (hm : m'.mem = m.mem) (hc : m'.changes = m.changes) (hpl : ∀ c ∈ m.changes, c.place < g.length) (hd : t.done ≠ 0 → t.trap = 0 → t.write ≠ 0) (hu : t.read = 0 → t.done = 0 ∧ t.write = 0) : Gh m' (g ++ [(t, ⟨0, 0, 0, 0⟩)]) := by
  refine ⟨fun i s y hy h1 h2 h3 => ?_, fun i s y hy => ?_, fun k c hk => ?_, fun i s y hy h1 => ?_, fun i s y hy h1 => ?_⟩
  · rw [hm]
    rcases append_one hy with ⟨_, hy⟩ | ⟨_, e⟩
    · exact h.rdy i s y hy h1 h2 h3
    · obtain ⟨rfl, rfl⟩ := Prod.mk.inj e
      exact absurd h3 (hd h1 h2)
  · rw [hm, hc]
    rcases append_one hy with ⟨_, hy⟩ | ⟨e', e⟩
    · exact h.trn i s y hy
    · obtain ⟨rfl, rfl⟩ := Prod.mk.inj e
      exact .inl ⟨rfl, fun c hc' => by have := hpl c hc'; omega⟩
  · rw [hc] at hk
    obtain ⟨s, y, hs, hy⟩ := h.one k c hk
    exact ⟨s, y, by rw [List.getElem?_append_left (List.getElem?_eq_some_iff.1 hs).1]; exact hs, hy⟩
  · rcases append_one hy with ⟨_, hy⟩ | ⟨_, e⟩
    · exact h.trw i s y hy h1
    · obtain ⟨rfl, rfl⟩ := Prod.mk.inj e
      rfl
  · rcases append_one hy with ⟨_, hy⟩ | ⟨_, e⟩
    · exact h.unr i s y hy h1
    · obtain ⟨rfl, rfl⟩ := Prod.mk.inj e
      exact hu h1
theorem Gh.places {m : Mc} {g : List (Tk × Xt)} (h : Gh m g) : ∀ c ∈ m.changes, c.place < g.length := fun c hc => by
  obtain ⟨k, hk⟩ := List.getElem?_of_mem hc
  obtain ⟨t, x, h1, _⟩ := h.one k c hk
  exact (List.getElem?_eq_some_iff.1 h1).1
theorem Gh.turn {m m' : Mc} {g : List (Tk × Xt)} (h : Gh m g) (hm : m'.mem.length = m.mem.length) (hc : m'.changes = m.changes) : Gh m' g :=
  ⟨fun i t x hi h1 h2 h3 => by rw [hm]; exact h.rdy i t x hi h1 h2 h3, fun i t x hi => by rw [hm, hc]; exact h.trn i t x hi, fun k c hk => by rw [hc] at hk; exact h.one k c hk, h.trw, h.unr⟩

set_option maxRecDepth 100000 in
set_option maxHeartbeats 8000000 in
theorem rIssue_any (W : World) (B : Nat) (L : Lb) (m : Mc) (g : List (Tk × Xt)) (prog : List Ord) (p : Option Addr) (c : Nat) (h : RAt W B L m g) (hgh : Gh m g) (hpv : L.pv = .slice p prog.length c) (hp : RdO W p prog) (hprog : isProg prog = true) (hords : Ords prog.length m.given) (hsm : g.length ≤ 1000) (hcy0 : m.cycle ≠ 0) (hnx : m.next ≤ 1000) (hB : B ≤ W.heap.size) :
    Calls Tryz.prog 37 #[.pointer (some ⟨L.D, 0, none⟩)] W fun e w' => e = .returned (.tuple #[]) ∧ ∃ lv' g', RAt w' B { L with lv := lv' } (issueM prog m) g' ∧ Gh (issueM prog m) g' ∧ Kb B W w' := by
  have HR := hide h
  have HGH := hide hgh
  have HP := hide hp
  have hD := h.lt
  have c25 : W.cell? ⟨L.D, 25, none⟩ = some (.bool m.ended) := h.cEnded
  have f25 : W.frozen? ⟨L.D, 25, none⟩ = false := h.frozen 25
  have c9 : W.cell? ⟨L.D, 9, none⟩ = some (.slice p prog.length c) := by rw [h.cPv, hpv]
  have c19 : W.cell? ⟨L.D, 19, none⟩ = some (.int .i64 m.next) := h.cNext
  have hnI : (m.next : Int) ≤ 1000 := by omega
  cases hsh : m.shown with
  | true =>
    have c26 : W.cell? ⟨L.D, 26, none⟩ = some (.int .i64 m.counts) := by rw [h.cShown]; unfold shI; rw [hsh]; rfl
    have HE : Hid (issueM prog m = m) := issueM_stop (by rw [hsh]; simp)
    clear h hgh hp hpv hords
    go_enter Tryz.func37, Tryz.ntmps37
    go_wp2_with fail
    refine bodyPost_ret (results_none rfl _ _ _) rfl ?_
    rw [HE.out]
    exact ⟨rfl, L.lv, g, HR.out, HGH.out, Kb.refl _ _⟩
  | false =>
  have c26 : W.cell? ⟨L.D, 26, none⟩ = some (.int .i64 (-1)) := by rw [h.cShown]; unfold shI; rw [hsh]; rfl
  cases hen : m.ended with
  | true =>
    rw [hen] at c25
    have HE : Hid (issueM prog m = m) := issueM_stop (by rw [hen]; simp)
    clear h hgh hp hpv hords
    go_enter Tryz.func37, Tryz.ntmps37
    go_wp2_with fail
    refine bodyPost_ret (results_none rfl _ _ _) rfl ?_
    rw [HE.out]
    exact ⟨rfl, L.lv, g, HR.out, HGH.out, Kb.refl _ _⟩
  | false =>
  rw [hen] at c25
  have HES : Hid ((m.ended || m.shown) = false) := by show (m.ended || m.shown) = false; rw [hen, hsh]; rfl
  rcases Nat.lt_or_ge m.next prog.length with hlt | hge
  case inr =>
    have hgeI : (prog.length : Int) ≤ (m.next : Int) := by omega
    have h0 : (prog.getD m.next Ord.none).op = 0 := by rw [List.getD_eq_getElem?_getD, List.getElem?_eq_none hge]; rfl
    have HE : Hid (issueM prog m = { m with ended := true }) := issueM_end HES.out h0
    clear h hgh hp hpv hords h0 hge
    go_enter Tryz.func37, Tryz.ntmps37
    go_wp2_with fail
    refine bodyPost_ret (results_none rfl _ _ _) rfl ?_
    rw [HE.out]
    exact ⟨rfl, L.lv, g, HR.out.setEnded true, HGH.out.turn rfl rfl, HR.out.kbD _ _⟩
  case inl =>
  obtain ⟨bp, off, hpe, hbp, p0, p1, p2, p3, p4⟩ := hp.at hlt
  subst hpe
  obtain ⟨o, ho⟩ : ∃ o, o = prog.getD m.next Ord.none := ⟨_, rfl⟩
  rw [← ho] at p0 p1 p2 p3 p4
  have hlI : (m.next : Int) < (prog.length : Int) := by omega
  have hord : isOrd o prog.length = true := by rw [ho]; exact (isProg_spec hprog).2 m.next hlt
  have HORD := hide hord
  have HO := hide ho
  by_cases h0 : o.op = 0
  · have e0 : (o.op == 0) = true := by simp [h0]
    have HE : Hid (issueM prog m = { m with ended := true }) := issueM_end HES.out (by rw [← ho]; exact h0)
    clear h hgh hp hpv hords h0 hord ho
    go_enter Tryz.func37, Tryz.ntmps37
    go_wp2_with fail
    refine bodyPost_ret (results_none rfl _ _ _) rfl ?_
    rw [HE.out]
    exact ⟨rfl, L.lv, g, HR.out.setEnded true, HGH.out.turn rfl rfl, HR.out.kbD _ _⟩
  have e0 : (o.op == 0) = false := by simp [h0]
  have H0 := hide h0
  have HORDS := hide hords
  obtain ⟨lp, lc, hlv0⟩ := h.sl
  have HLV := hide hlv0
  clear h hgh hp hpv hords h0 hord ho hlv0
  go_enter Tryz.func37, Tryz.ntmps37
  go_upto_region 4 with fail
  go_upto_region 5 with fail
  obtain ⟨V, hV⟩ : ∃ V, W.alloc (.cells #[.int .i64 o.op, .int .i64 o.d, .int .i64 o.a, .int .i64 o.b, .int .i64 o.k] 40) = V := ⟨_, rfl⟩
  rw [hV]
  have hbV : Below W.heap.size W V := by rw [← hV]; exact bSt (Below.refl _ _) _
  have gO : V.heap[W.heap.size]? = some (.cells #[.int .i64 o.op, .int .i64 o.d, .int .i64 o.a, .int .i64 o.b, .int .i64 o.k] 40 (0, 0)) := by rw [← hV]; exact heap_alloc_new _ _
  have hlO : W.heap.size < V.heap.size := (Array.getElem?_eq_some_iff.1 gO).1
  clear hV c26 c25 f25 c9 c19 p0 p1 p2 p3 p4
  have hRV := HR.out.below hbV
  have HRV := hide hRV
  have HBV := hide hbV
  have hDV := hRV.lt
  have GO := hide gO
  have o0 : ∀ w', Below V.heap.size V w' → w'.cell? ⟨W.heap.size, 0, none⟩ = some (.int .i64 o.op) := fun w' h => by rw [h.cell (p := ⟨W.heap.size, 0, none⟩) hlO, cell_of_row _ _ _ _ _ _ GO.out]; rfl
  have o1 : ∀ w', Below V.heap.size V w' → w'.cell? ⟨W.heap.size, 1, none⟩ = some (.int .i64 o.d) := fun w' h => by rw [h.cell (p := ⟨W.heap.size, 1, none⟩) hlO, cell_of_row _ _ _ _ _ _ GO.out]; rfl
  have o2 : ∀ w', Below V.heap.size V w' → w'.cell? ⟨W.heap.size, 2, none⟩ = some (.int .i64 o.a) := fun w' h => by rw [h.cell (p := ⟨W.heap.size, 2, none⟩) hlO, cell_of_row _ _ _ _ _ _ GO.out]; rfl
  have o3 : ∀ w', Below V.heap.size V w' → w'.cell? ⟨W.heap.size, 3, none⟩ = some (.int .i64 o.b) := fun w' h => by rw [h.cell (p := ⟨W.heap.size, 3, none⟩) hlO, cell_of_row _ _ _ _ _ _ GO.out]; rfl
  have o4 : ∀ w', Below V.heap.size V w' → w'.cell? ⟨W.heap.size, 4, none⟩ = some (.int .i64 o.k) := fun w' h => by rw [h.cell (p := ⟨W.heap.size, 4, none⟩) hlO, cell_of_row _ _ _ _ _ _ GO.out]; rfl
  have c23 : ∀ w', Below V.heap.size V w' → w'.cell? ⟨L.D, 23, none⟩ = some (.int .i64 m.cycle) := fun w' h => (HRV.out.below h).cCycle
  have HS0 : Hid (Below V.heap.size V V.drew) := (Below.refl _ _).drew
  clear gO hRV hbV
  go_cut [4] from 8 to 160 (fun s4 wx => ∃ X, s4 = .pointer (some ⟨X, 0, none⟩) ∧ V.heap.size ≤ X ∧ wx.heap[X]? = some (.cells #[.int .i64 o.op, .int .i64 o.d, .int .i64 o.a, .int .i64 o.b, .int .i64 o.k, .int .i64 m.next, .int .i64 m.cycle, .int .i64 0, .int .i64 0, .int .i64 0, .int .i64 0, .int .i64 0, .int .i64 0, .int .i64 0, .int .i64 0] 81 (0, 0)) ∧ Below V.heap.size V wx)
  case first =>
    go_region_held3 (fun w' => Below V.heap.size V w') (first | with_reducible assumption | with_reducible exact HS0.out | (with_reducible refine Below.drew ?_; (repeat (with_reducible refine bSt ?_ _)); exact Below.refl _ _) | (with_reducible refine bSt ?_ _; with_reducible assumption) | (with_reducible refine bSt ?_ _; with_reducible exact HS0.out) | ((repeat' (with_reducible refine bPut ?_ ?_ _)) <;> (first | with_reducible assumption | (with_reducible refine bSt ?_ _; with_reducible exact HS0.out) | (with_reducible refine Below.drew ?_; (repeat (with_reducible refine bSt ?_ _)); exact Below.refl _ _) | (simp; done) | omega)) | fail) (fail)
    all_goals go_wp2
    all_goals go_meet
    all_goals exact ⟨_, rfl, Nat.le_refl _, heap_alloc_new _ _, (bSt (Below.refl _ _) _).drew⟩
  case rest =>
  rename World => V1
  obtain ⟨X, rfl, hX, gX, hb1⟩ := hcut
  obtain ⟨i0, hi0, hz0, hz1, hz2⟩ := info_parts Tryz.infoGv
  have hR1 := HRV.out.below hb1
  have HR1 := hide hR1
  have HFAR : Hid (L.Far X) := HRV.out.far hX
  have GX := hide gX
  have hX1 : X < V1.heap.size := (Array.getElem?_eq_some_iff.1 gX).1
  have hD1 := hR1.lt
  have hO1 : W.heap.size < V1.heap.size := Nat.lt_of_lt_of_le hlO hb1.size
  have HB1 := hide hb1
  have HBW1 : Hid (Below W.heap.size W V1) := bThen HBV.out hb1
  have AW : Hid (∀ w' r, Below V1.heap.size V1 w' → Calls Tryz.prog 54 #[.pointer (some ⟨L.D, 0, none⟩), .int .i64 g.length, .int .i64 r] w' fun e w'' => e = .returned (.bool (awB m.given m.cycle g.length r)) ∧ Below w'.heap.size w' w'') := fun w' r h => awaited_any w' B L m g g.length r (HR1.out.below h) (Nat.le_refl _) (by omega)
  have HLN : Hid (g.length = m.given.length) := HR.out.len
  have hrv1 : Below V1.heap.size V1 V1 := Below.refl _ _
  have w0 : ∀ w', Below V1.heap.size V1 w' → w'.cell? ⟨W.heap.size, 0, none⟩ = some (.int .i64 o.op) := fun w' h => o0 w' (bThen HB1.out h)
  have w1 : ∀ w', Below V1.heap.size V1 w' → w'.cell? ⟨W.heap.size, 1, none⟩ = some (.int .i64 o.d) := fun w' h => o1 w' (bThen HB1.out h)
  have w2 : ∀ w', Below V1.heap.size V1 w' → w'.cell? ⟨W.heap.size, 2, none⟩ = some (.int .i64 o.a) := fun w' h => o2 w' (bThen HB1.out h)
  have w3 : ∀ w', Below V1.heap.size V1 w' → w'.cell? ⟨W.heap.size, 3, none⟩ = some (.int .i64 o.b) := fun w' h => o3 w' (bThen HB1.out h)
  have w4 : ∀ w', Below V1.heap.size V1 w' → w'.cell? ⟨W.heap.size, 4, none⟩ = some (.int .i64 o.k) := fun w' h => o4 w' (bThen HB1.out h)
  have c24 : ∀ w', Below V1.heap.size V1 w' → w'.cell? ⟨L.D, 24, none⟩ = some (.slice lp g.length lc) := fun w' h => by rw [(HR1.out.below h).cLv, HLV.out]
  clear o0 o1 o2 o3 o4 c23 gX hR1 hb1
  have hsp := isOrd_spec HORD.out
  by_cases h8 : o.op = 8
  · have e8 : (o.op == 8) = true := by simp [h8]
    have HTW : Hid (toWrite m.given m.cycle m.given.length (rMask o) = awB m.given m.cycle g.length o.a) := hide (by
      rw [toWrite_r HORDS.out _ _ HORD.out, HLN.out]
      have : rdA o.op = true := by unfold rdA; simp [h8]
      have h2 : rdB o.op = false := by unfold rdB; simp [h8]
      rw [this, h2]; simp)
    have HJ : Hid (issueM prog m = jumpM o m) := hide (by rw [HO.out]; exact issueM_jump HES.out (by rw [← HO.out]; exact h8))
    have HAWA : Hid (∀ w', Below V1.heap.size V1 w' → Calls Tryz.prog 54 #[.pointer (some ⟨L.D, 0, none⟩), .int .i64 g.length, .int .i64 o.a] w' fun e w'' => e = .returned (.bool (awB m.given m.cycle g.length o.a)) ∧ Below w'.heap.size w' w'') := fun w' h => AW.out w' _ h
    have HH8 := hide h8
    have HSP := hide hsp
    clear h8 hsp
    generalize hqa : awB m.given m.cycle g.length o.a = qa at *
    have wa : V1.cell? ⟨W.heap.size, 2, none⟩ = some (.int .i64 o.a) := w2 V1 hrv1
    have la : V1.cell? ⟨L.D, 24, none⟩ = some (.slice lp g.length lc) := c24 V1 hrv1
    go_upto_region 7 with fail
    refine wp_region_still_tail 8 (by kernel_rfl) (by kernel_rfl) ?_
    simp only [List.take_succ_cons, List.take_zero, List.drop_succ_cons, List.drop_zero]
    repeat still_step
    refine wpStill_nil ?_
    go_upto_region 8 with (go_at_call 54; (with_reducible refine (HAWA.out _ ?hb).mono ?_); (case hb => exact (Below.refl _ _).drew); rintro e V2 ⟨rfl, hb2'⟩)
    have hb2 : Below V1.heap.size V1 V2 := bThen (w := V1) (W := V1.drew) (Below.refl _ _).drew hb2'
    clear hb2' wa la
    cases qa with
    | true =>
      have HE : Hid (issueM prog m = m) := hide (by rw [HJ.out]; unfold jumpM; rw [HTW.out]; rfl)
      go_wp2_with fail
      refine bodyPost_ret (results_none rfl _ _ _) rfl ?_
      rw [HE.out]
      exact ⟨rfl, L.lv, g, HR1.out.below hb2, HGH.out, Kb.of_below (bThen HBW1.out hb2)⟩
    | false =>
      have HE : Hid (issueM prog m = { m with given := m.given ++ [⟨o, m.next, m.cycle, m.cycle, m.cycle, m.cycle, 0, 0, 0, 0⟩], next := if m.regs.getD o.a.toNat 0 = 0 then o.k.toNat else m.next + 1 }) := hide (by rw [HJ.out]; unfold jumpM; rw [HTW.out]; rfl)
      have hR2 := HR1.out.below hb2
      have g2 : V2.heap[X]? = some (.cells #[.int .i64 o.op, .int .i64 o.d, .int .i64 o.a, .int .i64 o.b, .int .i64 o.k, .int .i64 m.next, .int .i64 m.cycle, .int .i64 0, .int .i64 0, .int .i64 0, .int .i64 0, .int .i64 0, .int .i64 0, .int .i64 0, .int .i64 0] 81 (0, 0)) := by rw [hb2.block _ hX1]; exact GX.out
      have d23 : V2.cell? ⟨L.D, 23, none⟩ = some (.int .i64 m.cycle) := hR2.cCycle
      have z7 : V2.cell? ⟨X, 7, none⟩ = some (.int .i64 0) := by rw [cell_of_row _ _ _ _ _ _ g2]; rfl
      have z8 : V2.cell? ⟨X, 8, none⟩ = some (.int .i64 0) := by rw [cell_of_row _ _ _ _ _ _ g2]; rfl
      have z9 : V2.cell? ⟨X, 9, none⟩ = some (.int .i64 0) := by rw [cell_of_row _ _ _ _ _ _ g2]; rfl
      have zf : ∀ j, V2.frozen? ⟨X, j, none⟩ = false := fun j => frozen_of_row _ _ _ _ _ g2
      have n1 : ¬ L.D = X := HFAR.out.d
      have n1' : ¬ X = L.D := fun e => HFAR.out.d e.symm
      have hD2 := hR2.lt
      have HR2 := hide hR2
      have G2 := hide g2
      clear hR2 g2
      go_upto_region 12 with fail
      obtain ⟨V4, hV4⟩ : ∃ V4, (((V2.setCell ⟨X, 7, none⟩ (.int .i64 m.cycle)).setCell ⟨X, 8, none⟩ (.int .i64 m.cycle)).setCell ⟨X, 9, none⟩ (.int .i64 m.cycle)) = V4 := ⟨_, rfl⟩
      rw [hV4]
      have HRa : Hid (RAt V4 B L m g) := by rw [← hV4]; exact ((HR2.out.other HFAR.out _).other HFAR.out _).other HFAR.out _
      have s7 := heap_setCell_same _ _ 7 _ _ (.int .i64 m.cycle) G2.out
      have s8 := heap_setCell_same _ _ 8 _ _ (.int .i64 m.cycle) s7
      have Ga : Hid (V4.heap[X]? = some (.cells #[.int .i64 o.op, .int .i64 o.d, .int .i64 o.a, .int .i64 o.b, .int .i64 o.k, .int .i64 m.next, .int .i64 m.cycle, .int .i64 m.cycle, .int .i64 m.cycle, .int .i64 m.cycle, .int .i64 0, .int .i64 0, .int .i64 0, .int .i64 0, .int .i64 0] 81 (0, 0))) := by rw [← hV4]; exact (heap_setCell_same _ _ 9 _ _ (.int .i64 m.cycle) s8).trans rfl
      have hBX : B ≤ X := Nat.le_trans hB (Nat.le_trans HBV.out.size hX)
      have HKa : Hid (Kb B W V4) := by
        rw [← hV4]
        exact (((Kb.of_below (bThen HBW1.out hb2)).set G2.out (by simp [hotB]) hBX _).set s7 (by simp [hotB]) hBX _).set s8 (by simp [hotB]) hBX _
      have hO4 : V4.heap[W.heap.size]? = some (.cells #[.int .i64 o.op, .int .i64 o.d, .int .i64 o.a, .int .i64 o.b, .int .i64 o.k] 40 (0, 0)) := by
        have hne : ¬ W.heap.size = X := by omega
        rw [← hV4, heap_setCell_other _ _ _ _ hne, heap_setCell_other _ _ _ _ hne, heap_setCell_other _ _ _ _ hne, hb2.block _ hO1, HB1.out.block _ hlO]
        exact GO.out
      have HO4 := hide hO4
      clear hV4 s7 s8 d23 z7 z8 z9 zf hO4 w0 w1 w2 w3 w4 c24
      have HOWN : Hid (V4.ownsRow B 81 15 (.slice lp g.length lc) g.length (g.flatMap gvC)) := by have := HRa.out.giv; rw [HLV.out] at this; exact this
      have ca : V4.cell? ⟨L.D, 24, none⟩ = some (.slice lp g.length lc) := by rw [HRa.out.cLv, HLV.out]
      have fa : V4.frozen? ⟨L.D, 24, none⟩ = false := HRa.out.frozen 24
      have hBa : B ≤ V4.heap.size := Nat.le_trans hB HKa.out.size
      have hne : (Value.slice lp g.length lc).ownBlock ≠ some L.D := by rw [← HLV.out]; exact row_ne HRa.out.giv HRa.out.blk (by decide)
      have HNE := hide hne
      clear hne
      have hDa := HRa.out.lt
      have x0 : V4.cell? ⟨X, 0, none⟩ = some (.int .i64 o.op) := by rw [cell_of_row _ _ _ _ _ _ Ga.out]; rfl
      have x1 : V4.cell? ⟨X, 1, none⟩ = some (.int .i64 o.d) := by rw [cell_of_row _ _ _ _ _ _ Ga.out]; rfl
      have x2 : V4.cell? ⟨X, 2, none⟩ = some (.int .i64 o.a) := by rw [cell_of_row _ _ _ _ _ _ Ga.out]; rfl
      have x3 : V4.cell? ⟨X, 3, none⟩ = some (.int .i64 o.b) := by rw [cell_of_row _ _ _ _ _ _ Ga.out]; rfl
      have x4 : V4.cell? ⟨X, 4, none⟩ = some (.int .i64 o.k) := by rw [cell_of_row _ _ _ _ _ _ Ga.out]; rfl
      have x5 : V4.cell? ⟨X, 5, none⟩ = some (.int .i64 m.next) := by rw [cell_of_row _ _ _ _ _ _ Ga.out]; rfl
      have x6 : V4.cell? ⟨X, 6, none⟩ = some (.int .i64 m.cycle) := by rw [cell_of_row _ _ _ _ _ _ Ga.out]; rfl
      have x7 : V4.cell? ⟨X, 7, none⟩ = some (.int .i64 m.cycle) := by rw [cell_of_row _ _ _ _ _ _ Ga.out]; rfl
      have x8 : V4.cell? ⟨X, 8, none⟩ = some (.int .i64 m.cycle) := by rw [cell_of_row _ _ _ _ _ _ Ga.out]; rfl
      have x9 : V4.cell? ⟨X, 9, none⟩ = some (.int .i64 m.cycle) := by rw [cell_of_row _ _ _ _ _ _ Ga.out]; rfl
      have x10 : V4.cell? ⟨X, 10, none⟩ = some (.int .i64 0) := by rw [cell_of_row _ _ _ _ _ _ Ga.out]; rfl
      have x11 : V4.cell? ⟨X, 11, none⟩ = some (.int .i64 0) := by rw [cell_of_row _ _ _ _ _ _ Ga.out]; rfl
      have x12 : V4.cell? ⟨X, 12, none⟩ = some (.int .i64 0) := by rw [cell_of_row _ _ _ _ _ _ Ga.out]; rfl
      have x13 : V4.cell? ⟨X, 13, none⟩ = some (.int .i64 0) := by rw [cell_of_row _ _ _ _ _ _ Ga.out]; rfl
      have x14 : V4.cell? ⟨X, 14, none⟩ = some (.int .i64 0) := by rw [cell_of_row _ _ _ _ _ _ Ga.out]; rfl
      have hXa : X < V4.heap.size := (Array.getElem?_eq_some_iff.1 Ga.out).1
      have HUN : Hid (∀ w1 : World, (V4.alloc (.cells #[.int .i64 o.op, .int .i64 o.d, .int .i64 o.a, .int .i64 o.b, .int .i64 o.k, .int .i64 m.next, .int .i64 m.cycle, .int .i64 m.cycle, .int .i64 m.cycle, .int .i64 m.cycle, .int .i64 0, .int .i64 0, .int .i64 0, .int .i64 0, .int .i64 0] 81)).drew.grownBy w1 (Value.slice lp g.length lc).ownBlock → w1.cell? ⟨L.D, 24, none⟩ = some (.slice lp g.length lc) ∧ w1.frozen? ⟨L.D, 24, none⟩ = false) := fun w1 hg => by
        have hb := (grown_one _ hg).block L.D hDa (fun e => HNE.out e.symm)
        exact ⟨(World.cell?_of_block hb).trans ca, (World.frozen?_of_block hb).trans fa⟩
      go_upto_region 12 with fail
      go_cut [] from 8 to 160 (fun wx => ∃ lv', RAt wx B { L with lv := lv' } { m with given := m.given ++ [((newJ o m)).1] } (g ++ [(newJ o m)]) ∧ Kb B V4 wx)
      case first =>
        go_region_law ((refine step_append_lies _ (by rfl) (.tmp 95) (.tmp 97) 74 (by rfl) B 81 i0 _ 15 120 Tryz.underlying74 hi0 hz0 hz1 hz2 (by rfl) (by omega) (.slice lp g.length lc) g.length (g.flatMap gvC) (by rfl) (World.ownsRow.alloc HOWN.out _) ⟨V4.heap.size, 0, none⟩ 1 1 (gvC (newJ o m)) (by rfl) (by rfl) (newsB V4 (gvC (newJ o m)) 81) (gv_one (newJ o m)) (by omega) (by unfold maxLen; omega) (by omega) (by simp; omega) (V4.heap.size + 1) (by simp) ?_; intro G' cap' w1 hown1 hgrow hat hlt1; obtain ⟨r3, r4⟩ := HUN.out w1 hgrow))
        all_goals go_wp2
        all_goals go_meet
        all_goals obtain ⟨z1, z2⟩ := HRa.out.addGv (newJ o m) (by rw [HLV.out]; exact grown_one _ hgrow) hown1
        all_goals exact ⟨_, z1, z2⟩
      case rest =>
      rename World => V9
      obtain ⟨lv', hR9, hK9⟩ := hcut
      clear ca fa HUN HNE HOWN x0 x1 x2 x3 x4 x5 x6 x7 x8 x9 x10 x11 x12 x13 x14
      have d19 : V9.cell? ⟨L.D, 19, none⟩ = some (.int .i64 m.next) := hR9.cNext
      have f19 : V9.frozen? ⟨L.D, 19, none⟩ = false := hR9.frozen 19
      have HR9 := hide hR9
      have HK9 := hide hK9
      have hD9 := hR9.lt
      have hO9 : V9.heap[W.heap.size]? = some (.cells #[.int .i64 o.op, .int .i64 o.d, .int .i64 o.a, .int .i64 o.b, .int .i64 o.k] 40 (0, 0)) := hK9.block _ _ HO4.out (.inr (by simp [hotB]))
      have HO9 := hide hO9
      clear hR9 hK9 hO9
      have hnI1 : (0 : Int) ≤ (m.next : Int) := by omega
      go_upto_region 14 with fail
      obtain ⟨V10, hV10⟩ : ∃ V10, V9.setCell ⟨L.D, 19, none⟩ (.int .i64 ((m.next : Int) + 1)) = V10 := ⟨_, rfl⟩
      rw [hV10]
      have hR10 : RAt V10 B { L with lv := lv' } { m with given := m.given ++ [(newJ o m).1], next := m.next + 1 } (g ++ [(newJ o m)]) := by
        rw [← hV10]
        have := HR9.out.setNext (m.next + 1)
        simpa using this
      have hK10 : Kb B V9 V10 := by rw [← hV10]; exact HR9.out.kbD _ _
      have hO10 : V10.heap[W.heap.size]? = some (.cells #[.int .i64 o.op, .int .i64 o.d, .int .i64 o.a, .int .i64 o.b, .int .i64 o.k] 40 (0, 0)) := hK10.block _ _ HO9.out (.inr (by simp [hotB]))
      clear hV10 d19 f19
      have HR10 := hide hR10
      have hD10 : L.D < V10.heap.size := hR10.lt
      obtain ⟨an, han⟩ := Int.eq_ofNat_of_zero_le HSP.out.2.2.2.2.1
      have han8 : an < 8 := by have := HSP.out.2.2.2.2.2.1; omega
      have hanI : (an : Int) < 8 := by omega
      obtain ⟨rv, hrv⟩ : ∃ rv, rv = m.regs.getD an 0 := ⟨_, rfl⟩
      have ra : V10.cell? ⟨L.D, 10 + an, none⟩ = some (.int .i64 rv) := by rw [hrv]; exact hR10.reg han8
      have oa : V10.cell? ⟨W.heap.size, 2, none⟩ = some (.int .i64 an) := by rw [cell_of_row _ _ _ _ _ _ hO10, ← han]; rfl
      have ok : ∀ w', Below V10.heap.size V10 w' → w'.cell? ⟨W.heap.size, 4, none⟩ = some (.int .i64 o.k) := fun w' h => by rw [h.cell (p := ⟨W.heap.size, 4, none⟩) (Array.getElem?_eq_some_iff.1 hO10).1, cell_of_row _ _ _ _ _ _ hO10]; rfl
      have d19 : ∀ w', Below V10.heap.size V10 w' → w'.cell? ⟨L.D, 19, none⟩ = some (.int .i64 ((m.next : Int) + 1)) := fun w' h => by
        have := (HR10.out.below h).cNext
        simpa using this
      have f19 : ∀ w', Below V10.heap.size V10 w' → w'.frozen? ⟨L.D, 19, none⟩ = false := fun w' h => (HR10.out.below h).frozen 19
      have HRV' := hide hrv
      have HAN := hide han
      have HKall : Hid (Kb B W V10) := HKa.out.trans (HK9.out.trans hK10)
      have HGN : Hid (∀ m' : Mc, m'.mem = m.mem → m'.changes = m.changes → Gh m' (g ++ [(newJ o m)])) := fun m' h1 h2 => HGH.out.add _ h1 h2 HGH.out.places (fun _ _ => hcy0) (fun h => absurd h hcy0)
      clear hR10 hK10 hO10 hrv han
      go_quiet (fail)
      rename_i nq
      obtain ⟨V11, hV11⟩ : ∃ V11, V10.drewN nq = V11 := ⟨_, rfl⟩
      have hb11 : Below V10.heap.size V10 V11 := by rw [← hV11]; exact below_drewN (Below.refl _ _) _
      rw [hV11]
      clear hV11 ra oa
      have hD11 : L.D < V11.heap.size := Nat.lt_of_lt_of_le hD10 hb11.size
      cases hz : (rv == 0) with
      | true =>
        have HE2 : Hid (issueM prog m = { m with given := m.given ++ [⟨o, m.next, m.cycle, m.cycle, m.cycle, m.cycle, 0, 0, 0, 0⟩], next := o.k.toNat }) := hide (by
          rw [HE.out, HAN.out, Int.toNat_natCast, ← HRV'.out, if_pos (by simpa using hz)])
        have hk0 : 0 ≤ o.k := (HSP.out.2.2.2.2.2.2.2.2 HH8.out).1
        have HK0 := hide hk0
        clear hk0
        go_wp2_with fail
        refine bodyPost_ret (results_none rfl _ _ _) rfl ?_
        rw [HE2.out]
        have hR11 := HR10.out.below hb11
        have hf := hR11.setNext o.k.toNat
        have e : ((o.k.toNat : Nat) : Int) = o.k := Int.toNat_of_nonneg HK0.out
        rw [e] at hf
        exact ⟨rfl, lv', _, hf, HGN.out _ rfl rfl, HKall.out.trans ((Kb.of_below hb11).trans (hR11.kbD _ _))⟩
      | false =>
        have HE2 : Hid (issueM prog m = { m with given := m.given ++ [⟨o, m.next, m.cycle, m.cycle, m.cycle, m.cycle, 0, 0, 0, 0⟩], next := m.next + 1 }) := hide (by
          rw [HE.out, HAN.out, Int.toNat_natCast, ← HRV'.out, if_neg (by simpa using hz)])
        go_wp2_with fail
        refine bodyPost_ret (results_none rfl _ _ _) rfl ?_
        rw [HE2.out]
        exact ⟨rfl, lv', _, HR10.out.below hb11, HGN.out _ rfl rfl, HKall.out.trans (Kb.of_below hb11)⟩
  · have e8 : (o.op == 8) = false := by simp [h8]
    have HU : Hid (issueM prog m = unitM o m) := hide (by rw [HO.out]; exact issueM_unit HES.out (by rw [← HO.out]; exact H0.out) (by rw [← HO.out]; exact h8))
    have HTW : Hid (toWrite m.given m.cycle m.given.length (wMask o) = (wrD o.op && awB m.given m.cycle g.length o.d)) := hide (by rw [toWrite_w HORDS.out _ _ HORD.out, HLN.out])
    obtain ⟨k0, k4⟩ := kind_range HORD.out H0.out h8
    obtain ⟨kn, hkn⟩ := Int.eq_ofNat_of_zero_le k0
    have hkn4 : kn < 4 := by omega
    have KI : Hid (∀ w', Calls Tryz.prog 56 #[.int .i64 o.op] w' fun e w'' => e = .returned (.int .i64 kn) ∧ w'' = w') := fun w' => by rw [← hkn]; exact Kind_any _ w'
    have KU : Hid (∀ w', Below V1.heap.size V1 w' → Calls Tryz.prog 57 #[.pointer (some ⟨L.D, 0, none⟩), .int .i64 kn] w' fun e w'' => e = .returned (.bool (freeU m kn)) ∧ Below w'.heap.size w' w'') := fun w' h => unit_any w' B L m g kn (HR1.out.below h) hkn4 (by omega)
    have KW : Hid (∀ W, Calls Tryz.prog 58 #[.agg #[.int .i64 o.op, .int .i64 o.d, .int .i64 o.a, .int .i64 o.b, .int .i64 o.k]] W fun e w' => e = .returned (.bool (wrD o.op)) ∧ Below W.heap.size W w') := fun W => rWrites_any _ _ _ _ _ W
    have KD : Hid (∀ w', Below V1.heap.size V1 w' → Calls Tryz.prog 54 #[.pointer (some ⟨L.D, 0, none⟩), .int .i64 g.length, .int .i64 o.d] w' fun e w'' => e = .returned (.bool (awB m.given m.cycle g.length o.d)) ∧ Below w'.heap.size w' w'') := fun w' h => AW.out w' _ h
    have HUM : Hid (issueM prog m = if freeU m kn = false ∨ (wrD o.op && awB m.given m.cycle g.length o.d) = true then m else { m with given := m.given ++ [(newU o m).1], next := m.next + 1 }) := hide (by
      rw [HU.out]; unfold unitM; rw [hkn, HTW.out]; rfl)
    clear h8 hsp k0 k4 hkn HU HTW AW
    generalize freeU m kn = qf at *
    generalize wrD o.op = qw at *
    generalize awB m.given m.cycle g.length o.d = qd at *
    go_upto_region 16 with fail
    go_upto_region 17 with (first | (go_at_call 56; (with_reducible refine (KI.out _).mono ?_); rintro e W' ⟨rfl, hW'⟩; have hW'' := hW'.symm; clear hW'; subst hW'') | (go_at_call 57; (with_reducible refine (KU.out _ (by with_reducible assumption)).mono ?_); rintro e V2 ⟨rfl, hb2⟩))
    have hD2 : L.D < V2.heap.size := Nat.lt_of_lt_of_le hD1 hb2.size
    have HKW : Hid (∀ d os, Calls Tryz.prog 58 #[.agg #[.int .i64 o.op, .int .i64 o.d, .int .i64 o.a, .int .i64 o.b, .int .i64 o.k]] (grow (redrawn V2 d) os) fun e w' => e = .returned (.bool qw) ∧ ∃ p : Regrown, w' = grow (redrawn V2 p.d) p.os) := fun d os => Calls.regrown_of (KW.out _)
    have HKD : Hid (∀ d os, Calls Tryz.prog 54 #[.pointer (some ⟨L.D, 0, none⟩), .int .i64 g.length, .int .i64 o.d] (grow (redrawn V2 d) os) fun e w' => e = .returned (.bool qd) ∧ ∃ p : Regrown, w' = grow (redrawn V2 p.d) p.os) := fun d os => Calls.regrown_of (KD.out _ (bThen hb2 (below_regrown V2 d os)))
    have f0 : ∀ d os, (grow (redrawn V2 d) os).cell? ⟨W.heap.size, 0, none⟩ = some (.int .i64 o.op) := fun d os => cell_regrown (w0 V2 hb2) d os
    have f1 : ∀ d os, (grow (redrawn V2 d) os).cell? ⟨W.heap.size, 1, none⟩ = some (.int .i64 o.d) := fun d os => cell_regrown (w1 V2 hb2) d os
    have f2 : ∀ d os, (grow (redrawn V2 d) os).cell? ⟨W.heap.size, 2, none⟩ = some (.int .i64 o.a) := fun d os => cell_regrown (w2 V2 hb2) d os
    have f3 : ∀ d os, (grow (redrawn V2 d) os).cell? ⟨W.heap.size, 3, none⟩ = some (.int .i64 o.b) := fun d os => cell_regrown (w3 V2 hb2) d os
    have f4 : ∀ d os, (grow (redrawn V2 d) os).cell? ⟨W.heap.size, 4, none⟩ = some (.int .i64 o.k) := fun d os => cell_regrown (w4 V2 hb2) d os
    have fl : ∀ d os, (grow (redrawn V2 d) os).cell? ⟨L.D, 24, none⟩ = some (.slice lp g.length lc) := fun d os => cell_regrown (c24 V2 hb2) d os
    go_cut [7] from 8 to 160 (fun s7 wx => s7 = .bool (qw && qd) ∧ Below V1.heap.size V1 wx)
    case first =>
      cases qw with
      | false =>
        refine wp_region_quiet_below (by kernel_rfl) (by kernel_rfl) ?_
        repeat (go_big_quiet_step ((first | (exact HKW.out _ _) | (exact HKD.out _ _) | fail)))
        refine wpQuiet_nil ?_
        rintro w4' ⟨q, rfl⟩
        have hb5 := below_regrown V2 q.d q.os
        generalize grow (redrawn V2 q.d) q.os = w5 at hb5
        go_wp2
        go_meet
        exact ⟨by simp, bThen hb2 hb5⟩
      | true =>
        refine wp_region_quiet_below (by kernel_rfl) (by kernel_rfl) ?_
        repeat (go_big_quiet_step ((first | (exact HKW.out _ _) | (exact HKD.out _ _) | fail)))
        refine wpQuiet_nil ?_
        rintro w4' ⟨q, rfl⟩
        have hb5 := below_regrown V2 q.d q.os
        generalize grow (redrawn V2 q.d) q.os = w5 at hb5
        go_wp2
        go_meet
        exact ⟨by simp, bThen hb2 hb5⟩
    case rest =>
    rename World => V4
    obtain ⟨rfl, hb4⟩ := hcut
    generalize hz : (qw && qd) = z at *
    have HKX : Hid (∀ h : (qf = false ∨ z = true), issueM prog m = m) := fun h => by rw [HUM.out, if_pos h]
    cases qf with
    | false =>
      have HE := hide (HKX.out (.inl rfl))
      go_wp2_with fail
      refine bodyPost_ret (results_none rfl _ _ _) rfl ?_
      rw [HE.out]
      exact ⟨rfl, L.lv, g, HR1.out.below hb4, HGH.out, Kb.of_below (bThen HBW1.out hb4)⟩
    | true =>
    cases z with
    | true =>
      have HE := hide (HKX.out (.inr rfl))
      go_wp2_with fail
      refine bodyPost_ret (results_none rfl _ _ _) rfl ?_
      rw [HE.out]
      exact ⟨rfl, L.lv, g, HR1.out.below hb4, HGH.out, Kb.of_below (bThen HBW1.out hb4)⟩
    | false =>
      have HE : Hid (issueM prog m = { m with given := m.given ++ [(newU o m).1], next := m.next + 1 }) := hide (by rw [HUM.out, if_neg (fun h => by rcases h with h | h <;> cases h)])
      have HRa : Hid (RAt V4 B L m g) := HR1.out.below hb4
      have Ga : Hid (V4.heap[X]? = some (.cells #[.int .i64 o.op, .int .i64 o.d, .int .i64 o.a, .int .i64 o.b, .int .i64 o.k, .int .i64 m.next, .int .i64 m.cycle, .int .i64 0, .int .i64 0, .int .i64 0, .int .i64 0, .int .i64 0, .int .i64 0, .int .i64 0, .int .i64 0] 81 (0, 0))) := hide (by rw [hb4.block _ hX1]; exact GX.out)
      have HKa : Hid (Kb B W V4) := Kb.of_below (bThen HBW1.out hb4)
      clear w0 w1 w2 w3 w4 c24
      have HOWN : Hid (V4.ownsRow B 81 15 (.slice lp g.length lc) g.length (g.flatMap gvC)) := by have := HRa.out.giv; rw [HLV.out] at this; exact this
      have ca : V4.cell? ⟨L.D, 24, none⟩ = some (.slice lp g.length lc) := by rw [HRa.out.cLv, HLV.out]
      have fa : V4.frozen? ⟨L.D, 24, none⟩ = false := HRa.out.frozen 24
      have hBa : B ≤ V4.heap.size := Nat.le_trans hB HKa.out.size
      have hne : (Value.slice lp g.length lc).ownBlock ≠ some L.D := by rw [← HLV.out]; exact row_ne HRa.out.giv HRa.out.blk (by decide)
      have HNE := hide hne
      clear hne
      have hDa := HRa.out.lt
      have x0 : V4.cell? ⟨X, 0, none⟩ = some (.int .i64 o.op) := by rw [cell_of_row _ _ _ _ _ _ Ga.out]; rfl
      have x1 : V4.cell? ⟨X, 1, none⟩ = some (.int .i64 o.d) := by rw [cell_of_row _ _ _ _ _ _ Ga.out]; rfl
      have x2 : V4.cell? ⟨X, 2, none⟩ = some (.int .i64 o.a) := by rw [cell_of_row _ _ _ _ _ _ Ga.out]; rfl
      have x3 : V4.cell? ⟨X, 3, none⟩ = some (.int .i64 o.b) := by rw [cell_of_row _ _ _ _ _ _ Ga.out]; rfl
      have x4 : V4.cell? ⟨X, 4, none⟩ = some (.int .i64 o.k) := by rw [cell_of_row _ _ _ _ _ _ Ga.out]; rfl
      have x5 : V4.cell? ⟨X, 5, none⟩ = some (.int .i64 m.next) := by rw [cell_of_row _ _ _ _ _ _ Ga.out]; rfl
      have x6 : V4.cell? ⟨X, 6, none⟩ = some (.int .i64 m.cycle) := by rw [cell_of_row _ _ _ _ _ _ Ga.out]; rfl
      have x7 : V4.cell? ⟨X, 7, none⟩ = some (.int .i64 0) := by rw [cell_of_row _ _ _ _ _ _ Ga.out]; rfl
      have x8 : V4.cell? ⟨X, 8, none⟩ = some (.int .i64 0) := by rw [cell_of_row _ _ _ _ _ _ Ga.out]; rfl
      have x9 : V4.cell? ⟨X, 9, none⟩ = some (.int .i64 0) := by rw [cell_of_row _ _ _ _ _ _ Ga.out]; rfl
      have x10 : V4.cell? ⟨X, 10, none⟩ = some (.int .i64 0) := by rw [cell_of_row _ _ _ _ _ _ Ga.out]; rfl
      have x11 : V4.cell? ⟨X, 11, none⟩ = some (.int .i64 0) := by rw [cell_of_row _ _ _ _ _ _ Ga.out]; rfl
      have x12 : V4.cell? ⟨X, 12, none⟩ = some (.int .i64 0) := by rw [cell_of_row _ _ _ _ _ _ Ga.out]; rfl
      have x13 : V4.cell? ⟨X, 13, none⟩ = some (.int .i64 0) := by rw [cell_of_row _ _ _ _ _ _ Ga.out]; rfl
      have x14 : V4.cell? ⟨X, 14, none⟩ = some (.int .i64 0) := by rw [cell_of_row _ _ _ _ _ _ Ga.out]; rfl
      have hXa : X < V4.heap.size := (Array.getElem?_eq_some_iff.1 Ga.out).1
      have HUN : Hid (∀ w1 : World, (V4.alloc (.cells #[.int .i64 o.op, .int .i64 o.d, .int .i64 o.a, .int .i64 o.b, .int .i64 o.k, .int .i64 m.next, .int .i64 m.cycle, .int .i64 0, .int .i64 0, .int .i64 0, .int .i64 0, .int .i64 0, .int .i64 0, .int .i64 0, .int .i64 0] 81)).drew.grownBy w1 (Value.slice lp g.length lc).ownBlock → w1.cell? ⟨L.D, 24, none⟩ = some (.slice lp g.length lc) ∧ w1.frozen? ⟨L.D, 24, none⟩ = false) := fun w1 hg => by
        have hb := (grown_one _ hg).block L.D hDa (fun e => HNE.out e.symm)
        exact ⟨(World.cell?_of_block hb).trans ca, (World.frozen?_of_block hb).trans fa⟩
      go_upto_region 19 with fail
      go_cut [] from 8 to 160 (fun wx => ∃ lv', RAt wx B { L with lv := lv' } { m with given := m.given ++ [((newU o m)).1] } (g ++ [(newU o m)]) ∧ Kb B V4 wx)
      case first =>
        go_region_law ((refine step_append_lies _ (by rfl) (.tmp 149) (.tmp 151) 74 (by rfl) B 81 i0 _ 15 120 Tryz.underlying74 hi0 hz0 hz1 hz2 (by rfl) (by omega) (.slice lp g.length lc) g.length (g.flatMap gvC) (by rfl) (World.ownsRow.alloc HOWN.out _) ⟨V4.heap.size, 0, none⟩ 1 1 (gvC (newU o m)) (by rfl) (by rfl) (newsB V4 (gvC (newU o m)) 81) (gv_one (newU o m)) (by omega) (by unfold maxLen; omega) (by omega) (by simp; omega) (V4.heap.size + 1) (by simp) ?_; intro G' cap' w1 hown1 hgrow hat hlt1; obtain ⟨r3, r4⟩ := HUN.out w1 hgrow))
        all_goals go_wp2
        all_goals go_meet
        all_goals obtain ⟨z1, z2⟩ := HRa.out.addGv (newU o m) (by rw [HLV.out]; exact grown_one _ hgrow) hown1
        all_goals exact ⟨_, z1, z2⟩
      case rest =>
      rename World => V9
      obtain ⟨lv', hR9, hK9⟩ := hcut
      clear ca fa HUN HNE HOWN x0 x1 x2 x3 x4 x5 x6 x7 x8 x9 x10 x11 x12 x13 x14
      have d19 : V9.cell? ⟨L.D, 19, none⟩ = some (.int .i64 m.next) := hR9.cNext
      have f19 : V9.frozen? ⟨L.D, 19, none⟩ = false := hR9.frozen 19
      have HR9 := hide hR9
      have HK9 := hide hK9
      have hD9 := hR9.lt
      clear hR9 hK9
      have hnI1 : (0 : Int) ≤ (m.next : Int) := by omega
      go_wp2_with fail
      go_end0
      rw [HE.out]
      have hf := HR9.out.setNext (m.next + 1)
      refine ⟨rfl, lv', g ++ [newU o m], ?_, HGH.out.add _ rfl rfl HGH.out.places (fun h => absurd rfl h) (fun _ => ⟨rfl, rfl⟩), HKa.out.trans (HK9.out.trans (HR9.out.kbD _ _))⟩
      simpa using hf

end Go.Proofs.YtmeiogoodbnkkaaGreat

/- The document's board: what was written behind the order whose trap counts is undone. -/
namespace Go.Proofs.YtmeiogoodbnkkaaGreat
open Go.RowKit

/-- What stands when all turns but the first k are undone. -/
def unK (m : Mc) (k : Nat) : List Int × List Int × Nat := ((m.changes.drop k).reverse).foldl (undoOne m.counts) (m.regs, m.mem, m.next)
def unM (m : Mc) (k : Nat) : Mc := { m with regs := (unK m k).1, mem := (unK m k).2.1 }

theorem unK_all (m : Mc) : unK m m.changes.length = (m.regs, m.mem, m.next) := by unfold unK; rw [List.drop_length]; rfl
theorem unK_step {m : Mc} {k : Nat} {c : Ch} (hc : m.changes[k]? = some c) : unK m k = undoOne m.counts (unK m (k + 1)) c := by
  unfold unK
  have hk := (List.getElem?_eq_some_iff.1 hc)
  rw [List.drop_eq_getElem_cons hk.1, hk.2, List.reverse_cons, List.foldl_append]
  rfl
theorem unK_next {m : Mc} (h : ∀ c ∈ m.changes, c.tgt = 1 ∨ c.tgt = 2) : ∀ k, (unK m k).2.2 = m.next := by
  have key : ∀ (l : List Ch) (s : List Int × List Int × Nat), (∀ c ∈ l, c.tgt = 1 ∨ c.tgt = 2) → (l.foldl (undoOne m.counts) s).2.2 = s.2.2 := by
    intro l
    induction l with
    | nil => intro s _; rfl
    | cons c l ih =>
      intro s hl
      rw [List.foldl_cons, ih _ (fun c hc => hl c (List.mem_cons_of_mem _ hc))]
      unfold undoOne
      split
      · simp only [putN]
        rw [if_neg (by have := hl c List.mem_cons_self; omega)]
      · rfl
  exact fun k => key _ _ (fun c hc => h c (by rw [List.mem_reverse] at hc; exact List.mem_of_mem_drop hc))
theorem unK_len (m : Mc) : ∀ k, (unK m k).2.1.length = m.mem.length ∧ (unK m k).1.length = m.regs.length := by
  have key : ∀ (l : List Ch) (s : List Int × List Int × Nat), (l.foldl (undoOne m.counts) s).2.1.length = s.2.1.length ∧ (l.foldl (undoOne m.counts) s).1.length = s.1.length := by
    intro l
    induction l with
    | nil => intro s; exact ⟨rfl, rfl⟩
    | cons c l ih =>
      intro s
      rw [List.foldl_cons]
      obtain ⟨h1, h2⟩ := ih (undoOne m.counts s c)
      rw [h1, h2]
      unfold undoOne
      split
      · exact ⟨putM_len _ _ _ _, putR_len _ _ _ _⟩
      · exact ⟨rfl, rfl⟩
  exact fun k => key _ _
theorem unM_full {m : Mc} (h : ∀ c ∈ m.changes, c.tgt = 1 ∨ c.tgt = 2) : unM m 0 = undoM m.counts m := by
  unfold unM undoM
  have e : unK m 0 = m.changes.reverse.foldl (undoOne m.counts) (m.regs, m.mem, m.next) := by unfold unK; rw [List.drop_zero]
  simp only [← e]
  rw [unK_next h 0]

/-- Within a turn: as far as the order at the place. -/
def unI (m : Mc) (k i : Nat) : Mc := match m.changes[k]? with | some c => if m.counts < c.place ∧ c.place < i then unM m k else unM m (k + 1) | none => unM m (k + 1)

set_option maxRecDepth 100000 in
set_option maxHeartbeats 8000000 in
theorem undo_any (W : World) (B : Nat) (L : Lb) (m : Mc) (g : List (Tk × Xt)) (h : RAt W B L m g) (hgh : Gh m g) (hsm : g.length ≤ 1000) (hcs : m.changes.length ≤ 1000000) (hsh : m.shown = true) (hcn : m.counts < g.length) :
    Calls Tryz.prog 60 #[.pointer (some ⟨L.D, 0, none⟩)] W fun e w' => e = .returned (.tuple #[]) ∧ RAt w' B L (undoM m.counts m) g ∧ Kb B W w' := by
  have HGH := hide hgh
  have HTG : Hid (∀ c ∈ m.changes, c.tgt = 1 ∨ c.tgt = 2) := fun c hc => by
    obtain ⟨k, hk⟩ := List.getElem?_of_mem hc
    obtain ⟨t, x, h1, h2⟩ := hgh.one k c hk
    rcases hgh.trn _ t x h1 with ⟨h3, _⟩ | ⟨c', h3, h4, _, _, h5⟩
    · omega
    · rw [h2, Nat.add_sub_cancel, hk] at h3
      cases h3
      rcases h5 with h5 | h5
      · exact .inr h5.2.1
      · exact .inl h5.2.1
  have HFIN : Hid (undoM m.counts m = unM m 0) := (unM_full HTG.out).symm
  have H0 : Hid (unM m m.changes.length = m) := hide (by unfold unM; rw [unK_all])
  have c27 : W.cell? ⟨L.D, 27, none⟩ = some (.int .i64 m.changes.length) := h.cTurns
  have hD := h.lt
  obtain ⟨lp, lc, hlv0⟩ := h.sl
  have HR := hide h
  have HSH := hide hsh
  have hcnI : (m.counts : Int) ≤ 1000 := by omega
  clear h hgh hsh
  go_enter Tryz.func60, Tryz.ntmps60
  go_wp2_with fail
  go_loopg [2] m.changes.length (fun gq s2 wr => ∃ k : Nat, k ≤ m.changes.length ∧ gq = k ∧ s2 = .int .i64 k ∧ RAt wr B L (unM m k) g ∧ Kb B W wr)
  case atStart => exact ⟨m.changes.length, Nat.le_refl _, rfl, rfl, by rw [H0.out]; exact HR.out, Kb.refl _ _⟩
  case round =>
    clear c27 hD
    obtain ⟨k, hk1, hgk, rfl, hRA, hKB⟩ := hrel
    rename World => V
    rcases Nat.eq_zero_or_pos k with hk0 | hk0
    · subst hk0
      clear hgk
      go_wp2_with fail
      go_end0
      rw [HFIN.out]
      exact ⟨rfl, hRA, hKB⟩
    · obtain ⟨q, hq⟩ : ∃ q, k = q + 1 := ⟨k - 1, by omega⟩
      subst hq
      obtain ⟨c, hc⟩ : ∃ c, m.changes[q]? = some c := ⟨_, List.getElem?_eq_getElem (by omega)⟩
      obtain ⟨ct, cx, hct, hcx⟩ := HGH.out.one q c hc
      have hcpl : c.place < g.length := (List.getElem?_eq_some_iff.1 hct).1
      have c26 : V.cell? ⟨L.D, 26, none⟩ = some (.int .i64 m.counts) := by
        rw [hRA.cShown]
        show some (Value.int .i64 (if m.shown = true then (m.counts : Int) else -1)) = _
        rw [HSH.out]; rfl
      have hD := hRA.lt
      have hkI : (0 : Int) < ((q + 1 : Nat) : Int) := by omega
      have hkI2 : ((q + 1 : Nat) : Int) ≤ 1000000 := by omega
      have HUI : Hid (∀ i, unI m q i = if m.counts < c.place ∧ c.place < i then unM m q else unM m (q + 1)) := fun i => by unfold unI; rw [hc]
      have HUE : Hid (unI m q g.length = unM m q) := hide (by
        rw [HUI.out]
        by_cases e : m.counts < c.place
        · rw [if_pos ⟨e, hcpl⟩]
        · rw [if_neg (fun h => e h.1)]
          unfold unM
          rw [unK_step hc]
          unfold undoOne
          rw [if_neg e])
      have HUS : Hid (unI m q (m.counts + 1) = unM m (q + 1)) := hide (by rw [HUI.out, if_neg (fun h => by omega)])
      have HC := hide hc
      have HCT := hide hct
      have HCX := hide hcx
      have HKB := hide hKB
      have HRA := hide hRA
      have HGK := hide hgk
      clear hRA hKB hgk hc hct hcx
      generalize hkk : ((q + 1 : Nat) : Int) = kk at *
      have HKK := hide hkk
      clear hkk
      go_upto_block 2 with fail
      by_cases hTrue : True
      case neg => exact absurd trivial hTrue
      case pos =>
        go_wp2_with fail
        go_loopg [3] (g.length - (m.counts + 1)) (fun gq s3 wz => ∃ i : Nat, m.counts + 1 ≤ i ∧ i ≤ g.length ∧ gq = g.length - i ∧ s3 = .int .i64 i ∧ RAt wz B L (unI m q i) g ∧ Kb B W wz)
        case atStart => exact ⟨m.counts + 1, Nat.le_refl _, by omega, rfl, by go_num, by rw [HUS.out]; exact HRA.out, HKB.out⟩
        case round =>
          clear c26 hD
          obtain ⟨i, hi0, hi1, hgi, rfl, hR0, hK0⟩ := hrel
          rename World => V0
          have c24' : V0.cell? ⟨L.D, 24, none⟩ = some (.slice lp g.length lc) := by rw [hR0.cLv, hlv0]
          have hD0 := hR0.lt
          rcases Nat.lt_or_ge i g.length with hil | hil
          case inr =>
            have hie : i = g.length := by omega
            subst hie
            clear hil hgi
            have hkq : kk - 1 = (q : Int) := by rw [← HKK.out]; omega
            have HR0 := hide hR0
            have HK0 := hide hK0
            clear hR0 hK0
            go_wp2_with fail
            have hgk := HGK.out
            go_roundg q
            case measure => omega
            case rel => exact ⟨q, by omega, rfl, by first | rfl | go_num, by rw [← HUE.out]; exact HR0.out, HK0.out⟩
          obtain ⟨⟨t, x⟩, hx⟩ : ∃ y, g[i]? = some y := ⟨_, List.getElem?_eq_getElem hil⟩
          obtain ⟨G, cap, hlv, _, hG⟩ := hR0.row (i := i) hil
          have hlv' := hlv
          rw [hlv0] at hlv
          injection hlv with ea eb ec
          rw [ea, ec] at c24'
          have k0 : V0.cell? ⟨G, i * 15, none⟩ = some (.int .i64 t.o.op) := hR0.gv hlv' hx (j := 0) (by omega)
          have k1 : V0.cell? ⟨G, i * 15 + 1, none⟩ = some (.int .i64 t.o.d) := hR0.gv hlv' hx (j := 1) (by omega)
          have k2 : V0.cell? ⟨G, i * 15 + 2, none⟩ = some (.int .i64 t.o.a) := hR0.gv hlv' hx (j := 2) (by omega)
          have k3 : V0.cell? ⟨G, i * 15 + 3, none⟩ = some (.int .i64 t.o.b) := hR0.gv hlv' hx (j := 3) (by omega)
          have k4 : V0.cell? ⟨G, i * 15 + 4, none⟩ = some (.int .i64 t.o.k) := hR0.gv hlv' hx (j := 4) (by omega)
          have k5 : V0.cell? ⟨G, i * 15 + 5, none⟩ = some (.int .i64 t.number) := hR0.gv hlv' hx (j := 5) (by omega)
          have k6 : V0.cell? ⟨G, i * 15 + 6, none⟩ = some (.int .i64 t.issue) := hR0.gv hlv' hx (j := 6) (by omega)
          have k7 : V0.cell? ⟨G, i * 15 + 7, none⟩ = some (.int .i64 t.read) := hR0.gv hlv' hx (j := 7) (by omega)
          have k8 : V0.cell? ⟨G, i * 15 + 8, none⟩ = some (.int .i64 t.done) := hR0.gv hlv' hx (j := 8) (by omega)
          have k9 : V0.cell? ⟨G, i * 15 + 9, none⟩ = some (.int .i64 t.write) := hR0.gv hlv' hx (j := 9) (by omega)
          have k10 : V0.cell? ⟨G, i * 15 + 10, none⟩ = some (.int .i64 x.value) := hR0.gv hlv' hx (j := 10) (by omega)
          have k11 : V0.cell? ⟨G, i * 15 + 11, none⟩ = some (.int .i64 x.loc) := hR0.gv hlv' hx (j := 11) (by omega)
          have k12 : V0.cell? ⟨G, i * 15 + 12, none⟩ = some (.int .i64 t.trap) := hR0.gv hlv' hx (j := 12) (by omega)
          have k13 : V0.cell? ⟨G, i * 15 + 13, none⟩ = some (.int .i64 x.old) := hR0.gv hlv' hx (j := 13) (by omega)
          have k14 : V0.cell? ⟨G, i * 15 + 14, none⟩ = some (.int .i64 x.turn) := hR0.gv hlv' hx (j := 14) (by omega)
          have hiI : (i : Int) < (g.length : Int) := by omega
          have HR0 := hide hR0
          have HK0 := hide hK0
          have HGI := hide hgi
          have HX := hide hx
          clear hR0 hK0 hgi hx hlv'
          go_upto_region 7 with fail
          clear c24' k0 k1 k2 k3 k4 k5 k6 k7 k8 k9 k10 k11 k12 k13 k14
          obtain ⟨V1, hV1⟩ : ∃ V1, V0.alloc (.cells #[.int .i64 t.o.op, .int .i64 t.o.d, .int .i64 t.o.a, .int .i64 t.o.b, .int .i64 t.o.k, .int .i64 t.number, .int .i64 t.issue, .int .i64 t.read, .int .i64 t.done, .int .i64 t.write, .int .i64 x.value, .int .i64 x.loc, .int .i64 t.trap, .int .i64 x.old, .int .i64 x.turn] 81) = V1 := ⟨_, rfl⟩
          rw [hV1]
          have hb1 : Below V0.heap.size V0 V1 := by rw [← hV1]; exact bSt (Below.refl _ _) _
          have gX : V1.heap[V0.heap.size]? = some (.cells #[.int .i64 t.o.op, .int .i64 t.o.d, .int .i64 t.o.a, .int .i64 t.o.b, .int .i64 t.o.k, .int .i64 t.number, .int .i64 t.issue, .int .i64 t.read, .int .i64 t.done, .int .i64 t.write, .int .i64 x.value, .int .i64 x.loc, .int .i64 t.trap, .int .i64 x.old, .int .i64 x.turn] 81 (0, 0)) := by rw [← hV1]; exact heap_alloc_new _ _
          have hlX : V0.heap.size < V1.heap.size := (Array.getElem?_eq_some_iff.1 gX).1
          have HR1 : Hid (RAt V1 B L (unI m q i) g) := HR0.out.below hb1
          have HK1 : Hid (Kb B W V1) := HK0.out.trans (Kb.of_below hb1)
          have hD1 := HR1.out.lt
          clear hV1
          have z0 : V1.cell? ⟨V0.heap.size, 0, none⟩ = some (.int .i64 t.o.op) := by rw [cell_of_row _ _ _ _ _ _ gX]; rfl
          have z1 : V1.cell? ⟨V0.heap.size, 1, none⟩ = some (.int .i64 t.o.d) := by rw [cell_of_row _ _ _ _ _ _ gX]; rfl
          have z11 : V1.cell? ⟨V0.heap.size, 11, none⟩ = some (.int .i64 x.loc) := by rw [cell_of_row _ _ _ _ _ _ gX]; rfl
          have z13 : V1.cell? ⟨V0.heap.size, 13, none⟩ = some (.int .i64 x.old) := by rw [cell_of_row _ _ _ _ _ _ gX]; rfl
          have z14 : V1.cell? ⟨V0.heap.size, 14, none⟩ = some (.int .i64 x.turn) := by rw [cell_of_row _ _ _ _ _ _ gX]; rfl
          clear gX hb1
          by_cases htq : x.turn = q + 1
          case neg =>
            have e1 : ((x.turn : Int) != kk) = true := by rw [← HKK.out]; simp; omega
            have hne : c.place ≠ i := fun e => by
              have h1 := HCT.out
              rw [e, HX.out] at h1
              obtain ⟨rfl, rfl⟩ := Prod.mk.inj (Option.some.inj h1)
              exact htq HCX.out
            have HS : Hid (unI m q (i + 1) = unI m q i) := hide (by
              rw [HUI.out, HUI.out]
              by_cases e : m.counts < c.place ∧ c.place < i
              · rw [if_pos e, if_pos ⟨e.1, by omega⟩]
              · rw [if_neg e, if_neg (fun h => e ⟨h.1, by omega⟩)])
            clear hne htq
            go_wp2_with fail
            have hgi := HGI.out
            go_roundg (g.length - (i + 1))
            case measure => omega
            case rel => exact ⟨i + 1, by omega, by omega, rfl, by go_num, by rw [HS.out]; exact HR1.out, HK1.out⟩
          have e1 : ((x.turn : Int) != kk) = false := by rw [← HKK.out, htq]; simp
          obtain ⟨hpl, hval, htg⟩ : c.place = i ∧ c.val = x.old ∧ ((t.o.op = 7 ∧ c.tgt = 2 ∧ c.pl = x.loc ∧ 0 ≤ x.loc ∧ x.loc < m.mem.length) ∨ (t.o.op ≠ 7 ∧ c.tgt = 1 ∧ c.pl = t.o.d ∧ 0 ≤ t.o.d ∧ t.o.d < 8)) := by
            rcases HGH.out.trn i t x HX.out with ⟨h3, _⟩ | ⟨c', h3, h4, h5, h6, h7⟩
            · omega
            · rw [htq, Nat.add_sub_cancel, HC.out] at h3
              cases h3
              exact ⟨h5, h6, h7⟩
          have hml : (unI m q i).mem.length = m.mem.length := by
            rw [HUI.out]
            split
            · exact (unK_len m q).1
            · exact (unK_len m (q + 1)).1
          have ov := hval
          clear htq
          rcases htg with ⟨h7, tg, pl, l0, l1⟩ | ⟨h7, tg, pl, l0, l1⟩
          · skip
            obtain ⟨ln, hln⟩ := Int.eq_ofNat_of_zero_le l0
            have e7 : (t.o.op == 7) = true := by simp [h7]
            have hlm : ln < (unI m q i).mem.length := by rw [hml]; omega
            obtain ⟨M, mc, hmv, hM⟩ : ∃ M mc, L.mv = .slice (some ⟨M, 0, none⟩) (unI m q i).mem.length mc ∧ M < V1.heap.size := by
              rcases HR1.out.mem.form with ⟨_, h2⟩ | ⟨Q, cq, cur, h2, h3, h4, _⟩
              · rw [h2] at hlm; simp at hlm
              · exact ⟨Q, cq, h2, h4⟩
            have c18 : V1.cell? ⟨L.D, 18, none⟩ = some (.slice (some ⟨M, 0, none⟩) (unI m q i).mem.length mc) := by rw [HR1.out.cMv, hmv]
            have hme := HR1.out.mem
            rw [hmv] at hme
            have cM : V1.cell? ⟨M, ln, none⟩ = some (.int .i64 ((unI m q i).mem.getD ln 0)) := by
              rw [World.ownsRow.cellAt hme ln (by simpa using hlm)]
              simp [List.getD_eq_getElem?_getD, hlm]
            have fM : V1.frozen? ⟨M, ln, none⟩ = false := World.ownsRow.frozenAt hme ln
            have hlI : (ln : Int) < ((unI m q i).mem.length : Int) := by omega
            have z11' : V1.cell? ⟨V0.heap.size, 11, none⟩ = some (.int .i64 ln) := by rw [z11, hln]
            have HMV := hide hmv
            generalize (unI m q i).mem.getD ln 0 = mw at *
            obtain ⟨mlen, hmlen⟩ : ∃ n : Nat, n = (unI m q i).mem.length := ⟨_, rfl⟩
            rw [← hmlen] at c18 hlI
            clear hme hmv z11 h7 hmlen
            go_upto_region 9 with fail
            refine wp_region_still_tail 10 (by kernel_rfl) (by kernel_rfl) ?_
            simp only [List.take_succ_cons, List.take_zero, List.drop_succ_cons, List.drop_zero]
            repeat still_step
            refine wpStill_nil ?_
            go_wp2_with fail
            have hS1 : unI m q (i + 1) = { unI m q i with mem := (unI m q i).mem.set ln x.old } := by
              rw [HUI.out (i + 1), if_pos ⟨by omega, by omega⟩]
              have e0 : unI m q i = unM m (q + 1) := by rw [HUI.out i, if_neg (fun h => by omega)]
              rw [e0]
              unfold unM
              rw [unK_step HC.out]
              unfold undoOne
              rw [if_pos (show m.counts < c.place by omega)]
              simp only [putR, putM, tg, pl, ov, hln, Int.toNat_natCast]
              simp
            have hgi := HGI.out
            go_roundg (g.length - (i + 1))
            case measure => omega
            case rel => exact ⟨i + 1, by omega, by omega, rfl, by go_num, by rw [hS1]; exact ((HR1.out.setWord HMV.out x.old).1).drew, (HK1.out.trans ((HR1.out.setWord HMV.out x.old).2)).drew⟩
          · skip
            obtain ⟨dn, hdn⟩ := Int.eq_ofNat_of_zero_le l0
            have e7 : (t.o.op == 7) = false := by simp [h7]
            have hdn8 : dn < 8 := by omega
            have hd8I : (dn : Int) < 8 := by omega
            have rg : V1.cell? ⟨L.D, 10 + dn, none⟩ = some (.int .i64 ((unI m q i).regs.getD dn 0)) := HR1.out.reg hdn8
            have fR : V1.frozen? ⟨L.D, 10 + dn, none⟩ = false := HR1.out.frozen _
            have z1' : V1.cell? ⟨V0.heap.size, 1, none⟩ = some (.int .i64 dn) := by rw [z1, hdn]
            generalize (unI m q i).regs.getD dn 0 = mw at *
            clear z1 h7
            go_upto_region 10 with fail
            refine wp_region_still_tail 10 (by kernel_rfl) (by kernel_rfl) ?_
            simp only [List.take_succ_cons, List.take_zero, List.drop_succ_cons, List.drop_zero]
            repeat still_step
            refine wpStill_nil ?_
            go_wp2_with fail
            have hS1 : unI m q (i + 1) = { unI m q i with regs := (unI m q i).regs.set dn x.old } := by
              rw [HUI.out (i + 1), if_pos ⟨by omega, by omega⟩]
              have e0 : unI m q i = unM m (q + 1) := by rw [HUI.out i, if_neg (fun h => by omega)]
              rw [e0]
              unfold unM
              rw [unK_step HC.out]
              unfold undoOne
              rw [if_pos (show m.counts < c.place by omega)]
              simp only [putR, putM, tg, pl, ov, hdn, Int.toNat_natCast]
              simp
            have hgi := HGI.out
            go_roundg (g.length - (i + 1))
            case measure => omega
            case rel => exact ⟨i + 1, by omega, by omega, rfl, by go_num, by rw [hS1]; exact (HR1.out.setReg hdn8 x.old).drew, (HK1.out.trans (HR1.out.kbD _ _)).drew⟩

end Go.Proofs.YtmeiogoodbnkkaaGreat
