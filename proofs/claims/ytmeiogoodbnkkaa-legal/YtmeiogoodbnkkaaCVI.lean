/- Run and Plain where nothing is refused, in the words of the pure machine. -/
import Derived.Test.YtmeiogoodbnkkaaCSHVE
import Derived.Test.YtmeiogoodbnkkaaCPAPN
namespace Go.Proofs.Ytmeiogoodbnkkaa
open Go.RowKit

theorem pk_1 {c n : Int} (hn : 0 < n) : 1 ≤ 1 + pk c n ∧ 1 + pk c n ≤ n := by
  have := pk_in (c := c) hn
  omega

theorem cfg_ok (u0 u1 u2 l0 l1 l2 l3 b : Int) : Cfg [1 + pk u0 3, 1 + pk u1 3, 1 + pk u2 3, 1] [1 + pk l0 12, 1 + pk l1 12, 1 + pk l2 12, 1 + pk l3 12] (1 + pk b 3) := by
  have a0 := pk_1 (c := u0) (n := 3) (by omega)
  have a1 := pk_1 (c := u1) (n := 3) (by omega)
  have a2 := pk_1 (c := u2) (n := 3) (by omega)
  have c0 := pk_1 (c := l0) (n := 12) (by omega)
  have c1 := pk_1 (c := l1) (n := 12) (by omega)
  have c2 := pk_1 (c := l2) (n := 12) (by omega)
  have c3 := pk_1 (c := l3) (n := 12) (by omega)
  have d := pk_1 (c := b) (n := 3) (by omega)
  refine ⟨rfl, fun k hk => ?_, fun k hk => ?_, d.1⟩
  · match k, hk with
    | 0, _ => exact a0.1
    | 1, _ => exact a1.1
    | 2, _ => exact a2.1
    | 3, _ => exact Int.le_refl 1
  · match k, hk with
    | 0, _ => exact c0
    | 1, _ => exact c1
    | 2, _ => exact c2
    | 3, _ => exact c3

theorem cfg_fit (u0 u1 u2 l0 l1 l2 l3 b : Int) : refuseC [1 + pk u0 3, 1 + pk u1 3, 1 + pk u2 3, 1] [1 + pk l0 12, 1 + pk l1 12, 1 + pk l2 12, 1 + pk l3 12] (1 + pk b 3) = 0 := by
  have a0 := pk_1 (c := u0) (n := 3) (by omega)
  have a1 := pk_1 (c := u1) (n := 3) (by omega)
  have a2 := pk_1 (c := u2) (n := 3) (by omega)
  have c0 := pk_1 (c := l0) (n := 12) (by omega)
  have c1 := pk_1 (c := l1) (n := 12) (by omega)
  have c2 := pk_1 (c := l2) (n := 12) (by omega)
  have c3 := pk_1 (c := l3) (n := 12) (by omega)
  have d := pk_1 (c := b) (n := 3) (by omega)
  rw [refuseC_good]
  · unfold okN
    rw [decide_eq_true d]
    rfl
  · intro j hj
    unfold okK okN mostK
    match j, hj with
    | 0, _ => rw [Bool.and_eq_true]; exact ⟨decide_eq_true a0, decide_eq_true c0⟩
    | 1, _ => rw [Bool.and_eq_true]; exact ⟨decide_eq_true a1, decide_eq_true c1⟩
    | 2, _ => rw [Bool.and_eq_true]; exact ⟨decide_eq_true a2, decide_eq_true c2⟩
    | 3, _ => rw [Bool.and_eq_true]; exact ⟨decide_eq_true (show (1 : Int) ≤ 1 ∧ (1 : Int) ≤ 1 from ⟨Int.le_refl _, Int.le_refl _⟩), decide_eq_true c3⟩

/-- Times that a slice of somebody's own holds. -/
def TmR (w : World) (B : Nat) (pt : Option Addr) (g : List Tk) : Prop :=
  g = [] ∨ ∃ b, pt = some ⟨b, 0, none⟩ ∧ B ≤ b ∧ b < w.heap.size ∧ ∀ i, i < g.length → ∀ j, j < 5 → w.cell? ⟨b, i * 5 + j, none⟩ = (tmCells (g.getD i tkD))[j]?

theorem tm_get : ∀ (l : List Tk) (i r : Nat), i < l.length → r < 5 → (l.flatMap tmCells)[i * 5 + r]? = (tmCells (l.getD i tkD))[r]?
  | [], _, _, h, _ => absurd h (by simp)
  | o :: l, 0, r, _, hr => by
    rw [List.flatMap_cons, List.getElem?_append_left (by simp [tmCells]; omega)]
    simp
  | o :: l, i + 1, r, h, hr => by
    rw [List.flatMap_cons, List.getElem?_append_right (by simp [tmCells]; omega)]
    have e : (i + 1) * 5 + r - (tmCells o).length = i * 5 + r := by simp [tmCells]; omega
    rw [e, tm_get l i r (by simpa using h) hr]
    simp

theorem TmR.of {w : World} {B : Nat} {v : Value} {g : List Tk} (h : w.ownsRow B 47 5 v g.length (g.flatMap tmCells)) : ∃ pt ct, v = .slice pt g.length ct ∧ TmR w B pt g := by
  obtain ⟨h0, h⟩ := h
  rcases h with ⟨rfl, h⟩ | ⟨b, cap, cur, rfl, hB, hh, h1, h2, h3, h4⟩
  · exact ⟨none, 0, by rw [h], .inl (List.length_eq_zero_iff.1 h)⟩
  · refine ⟨_, cap, rfl, .inr ⟨b, rfl, hB, (Array.getElem?_eq_some_iff.1 hh).1, fun i hi j hj => ?_⟩⟩
    rw [cell_of_row _ _ _ _ _ _ hh, ← tm_get g i j hi hj, ← h4, List.getElem?_take_of_lt (by omega)]
    simp

theorem TmR.below {w w' : World} {B : Nat} {pt : Option Addr} {g : List Tk} (h : TmR w B pt g) (hb : Below w.heap.size w w') : TmR w' B pt g := by
  rcases h with h | ⟨b, rfl, hB, hlt, h⟩
  · exact .inl h
  · exact .inr ⟨b, rfl, hB, Nat.lt_of_lt_of_le hlt hb.size, fun i hi j hj => by rw [hb.cell (p := ⟨b, i * 5 + j, none⟩) hlt]; exact h i hi j hj⟩

theorem Own.rd {w : World} {B : Nat} {mv : Value} {mem : List Int} (h : Own w B mv mem) : ∃ pp cc, mv = .slice pp mem.length cc ∧ Rd w pp mem := by
  rcases h.form with ⟨rfl, rfl⟩ | ⟨g, cap, cur, rfl, hB, hg, hh, h1, h2, h3, h4⟩
  · exact ⟨none, 0, rfl, .inl rfl⟩
  · refine ⟨_, cap, rfl, .inr ⟨g, 0, rfl, hg, fun i hi => ?_⟩⟩
    rw [cell_of_row _ _ _ _ _ _ hh, Nat.zero_add]
    have : (mem.map (Value.int .i64))[i]? = some (.int .i64 (mem.getD i 0)) := by simp [List.getD_eq_getElem?_getD, hi]
    rw [← this, ← h4, List.getElem?_take_of_lt hi]
    simp

theorem run_good (u0 u1 u2 u3 l0 l1 l2 l3 b : Int) (p pm : Option Addr) (c cm : Nat) (prog : List Ord) (mem : List Int) (steps : Nat) (w : World) (hp : RdO w p prog) (hm : Rd w pm mem) (hprog : isProg prog = true) (hml : mem.length ≤ 16) (hs1 : 1 ≤ steps) (hs : steps ≤ 400)
    (hc : refuseC [u0, u1, u2, u3] [l0, l1, l2, l3] b = 0) (r : Mc) (hr : r = runM [u0, u1, u2, u3] [l0, l1, l2, l3] b prog mem steps) :
    Calls Try.prog 13 #[.agg #[.int .i64 u0, .int .i64 u1, .int .i64 u2, .int .i64 u3, .int .i64 l0, .int .i64 l1, .int .i64 l2, .int .i64 l3, .int .i64 b], .slice p prog.length c, .slice pm mem.length cm, .int .i64 steps] w fun e w' =>
      ∃ x0 x1 x2 x3 x4 x5 x6 x7 pp cc pt ct, e = .returned (.tuple #[.agg #[.int .i64 x0, .int .i64 x1, .int .i64 x2, .int .i64 x3, .int .i64 x4, .int .i64 x5, .int .i64 x6, .int .i64 x7, .slice pp r.mem.length cc, .int .i64 r.next, .int .i64 r.stop, .int .i64 r.trap, .int .i64 r.steps], .slice pt r.given.length ct, .int .i64 0]) ∧
        r.regs = [x0, x1, x2, x3, x4, x5, x6, x7] ∧ Below w.heap.size w w' ∧ Rd w' pp r.mem ∧ TmR w' w.heap.size pt r.given := by
  have hlen := (isProg_spec hprog).1
  have hre : refuse prog mem.length steps = 0 := by
    unfold refuse
    rw [hprog, if_neg (by simp), if_neg (by omega), if_neg (by omega)]
  have ha : (r, (0 : Int)) = answerR [u0, u1, u2, u3] [l0, l1, l2, l3] b prog mem steps := by
    unfold answerR
    rw [hre, if_pos rfl, hc, if_pos rfl, hr]
    rfl
  refine (run_any u0 u1 u2 u3 l0 l1 l2 l3 b p pm c cm prog mem steps w hp hm (by omega) (by omega) r 0 ha).mono ?_
  rintro e w' ⟨mv, tv, rfl, hb, ho, _, ht, _⟩
  obtain ⟨pp, cc, rfl, hrd⟩ := ho.rd
  obtain ⟨pt, ct, rfl, htm⟩ := TmR.of ht
  have h8 : r.regs.length = 8 := by rw [hr]; exact runM_regs ..
  obtain ⟨x0, x1, x2, x3, x4, x5, x6, x7, hx⟩ := list8 h8
  exact ⟨x0, x1, x2, x3, x4, x5, x6, x7, pp, cc, pt, ct, by rw [hx]; rfl, hx, hb, hrd, htm⟩

theorem plain_good (p pm : Option Addr) (c cm : Nat) (prog : List Ord) (mem : List Int) (steps : Nat) (w : World) (hp : RdO w p prog) (hm : Rd w pm mem) (hprog : isProg prog = true) (hml : mem.length ≤ 16) (hs1 : 1 ≤ steps) (hs : steps ≤ 400) (s : St) (st tr : Int) (hr : (s, st, tr) = plainSt prog mem steps) :
    Calls Try.prog 14 #[.slice p prog.length c, .slice pm mem.length cm, .int .i64 steps] w fun e w' =>
      ∃ x0 x1 x2 x3 x4 x5 x6 x7 pp cc, e = .returned (.tuple #[.agg #[.int .i64 x0, .int .i64 x1, .int .i64 x2, .int .i64 x3, .int .i64 x4, .int .i64 x5, .int .i64 x6, .int .i64 x7, .slice pp s.mem.length cc, .int .i64 s.next, .int .i64 st, .int .i64 tr, .int .i64 s.steps], .int .i64 0]) ∧
        s.regs = [x0, x1, x2, x3, x4, x5, x6, x7] ∧ Below w.heap.size w w' ∧ Rd w' pp s.mem := by
  have hlen := (isProg_spec hprog).1
  have hre : refuse prog mem.length steps = 0 := by
    unfold refuse
    rw [hprog, if_neg (by simp), if_neg (by omega), if_neg (by omega)]
  refine (plain_any p pm c cm prog mem steps w hp hm (by omega) (by omega)).mono ?_
  have ha : answer prog mem steps = (s, st, tr, 0) := by
    unfold answer
    rw [if_pos hre, Int.toNat_natCast, ← hr]
  rw [ha]
  rintro e w' ⟨mv, rfl, hb, ho, _⟩
  obtain ⟨pp, cc, rfl, hrd⟩ := ho.rd
  have h8 : s.regs.length = 8 := by
    obtain ⟨k, _, _, h⟩ := plain_spec prog mem steps
    have e : s = (plainSt prog mem steps).1 := by rw [← hr]
    rw [e]
    rcases h with ⟨_, h⟩ | ⟨_, _, _, h⟩ | ⟨_, _, h⟩ <;> rw [h] <;> exact (seqS_len prog mem k).1
  obtain ⟨x0, x1, x2, x3, x4, x5, x6, x7, hx⟩ := list8 h8
  exact ⟨x0, x1, x2, x3, x4, x5, x6, x7, pp, cc, by rw [hx]; rfl, hx, hb, hrd⟩

theorem run_mem_len {u l : List Int} {b : Int} (hc : Cfg u l b) {prog : List Ord} (hp : isProg prog = true) (mem : List Int) (steps : Nat) (hs : 1 ≤ steps) : (runM u l b prog mem steps).mem.length = mem.length := by
  obtain ⟨n, m, _, _, _, hJ, _, _, _, _, _, hr, ho⟩ := run_out hc hp mem steps hs
  cases ho with
  | trapped k _ _ _ _ _ _ r2 => rw [r2]; exact (seqS_len prog mem k).2
  | halted _ _ _ _ r2 => rw [r2]; exact (seqS_len prog mem _).2
  | out e _ _ =>
    rw [hr]
    show (finM m).mem.length = _
    have hf : finM m = { m with stop := 2 } := by
      unfold endsM at e
      rw [Bool.or_eq_false_iff] at e
      unfold finM
      rw [e.1, e.2]
      rfl
    rw [hf]
    exact hJ.iv.memL

theorem plain_mem_len (prog : List Ord) (mem : List Int) (steps : Nat) : (plainSt prog mem steps).1.mem.length = mem.length := by
  obtain ⟨k, _, _, h⟩ := plain_spec prog mem steps
  rcases h with ⟨_, h⟩ | ⟨_, _, _, h⟩ | ⟨_, _, h⟩ <;> rw [h] <;> exact (seqS_len prog mem k).2

end Go.Proofs.Ytmeiogoodbnkkaa
