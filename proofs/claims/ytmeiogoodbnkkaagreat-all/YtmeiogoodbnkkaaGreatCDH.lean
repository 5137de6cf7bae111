/- What one call of the statement needs, with times. -/
import Derived.Test.YtmeiogoodbnkkaaGreatCDFDG
import Derived.Test.YtmeiogoodbnkkaaGreatCY1
import Derived.Test.YtmeiogoodbnkkaaGreatCPFPI
namespace Go.Proofs.YtmeiogoodbnkkaaGreat
open Go.RowKit

theorem run_memLen {u l : List Int} {b : Int} (hc : Cfg u l b) {prog : List Ord} (hp : isProg prog = true) (mem : List Int) (steps : Nat) (hs : 1 ≤ steps) : (runM u l b prog mem steps).mem.length = mem.length ∧ (runM u l b prog mem steps).given.length ≤ steps := by
  obtain ⟨n, m, _, h2, _, hJ, hg, _, _, hle, _, hr, ho⟩ := run_out hc hp mem steps hs
  refine ⟨?_, by rw [hg]; omega⟩
  rcases ho with ⟨k, _, _, _, _, _, _, r2, _, _, _⟩ | ⟨_, _, _, _, r2, _, _, _⟩ | ⟨e, _, _⟩
  · rw [r2]; exact (seqS_len prog mem k).2
  · rw [r2]; exact (seqS_len prog mem _).2
  · have hf : finM m = { m with stop := 2 } := by
      unfold endsM at e
      unfold finM
      cases h1 : (m.shown && allWr m.given m.counts) with
      | true => rw [h1] at e; simp at e
      | false =>
        rw [h1] at e
        cases h2 : (m.ended && allWr m.given m.given.length) with
        | true => rw [h2] at e; simp at e
        | false => rfl
    rw [hr, hf]
    exact hJ.iv.memL

theorem cfg_of {u l : List Int} {b : Int} (h : refuseC u l b = 0) : Cfg u l b := by
  obtain ⟨h1, h2, h3, h4⟩ := refuseC_ok h
  refine ⟨?_, fun k hk => (h1 k hk).1, h2, h3⟩
  have := h1 3 (by omega)
  have e : mostK 3 = 1 := rfl
  rw [e] at this
  omega

theorem answerR_fine (u l : List Int) (b : Int) (prog : List Ord) (mem : List Int) (steps : Int) : (answerR u l b prog mem steps).1.regs.length = 8 ∧ (answerR u l b prog mem steps).1.mem.length ≤ 16 ∧ (answerR u l b prog mem steps).1.given.length ≤ 400 := by
  unfold answerR
  split
  · rename_i h0
    obtain ⟨g1, g2, g3, g4⟩ := refuse_ok h0
    split
    · rename_i hc
      obtain ⟨e1, e2⟩ := run_memLen (cfg_of hc) g1 mem steps.toNat (by omega)
      exact ⟨runM_regs .., by rw [e1]; exact g2, Nat.le_trans e2 (by omega)⟩
    · exact ⟨rfl, by simp [startM], by simp [startM]⟩
  · exact ⟨rfl, by simp [startM], by simp [startM]⟩

/-- The times of the orders given out. -/
def tmL (g : List Tk) : List Tm := g.map fun t => ⟨t.number, t.issue, t.read, t.done, t.write⟩
theorem tmL_flat (g : List Tk) : (tmL g).flatMap tmC = g.flatMap tmCells := by
  unfold tmL
  rw [List.flatMap_map]
  rfl
theorem tmL_len (g : List Tk) : (tmL g).length = g.length := by simp [tmL]
theorem tmL_row {w : World} {B : Nat} {v : Value} {g : List Tk} (h : w.ownsRow B 79 5 v g.length (g.flatMap tmCells)) : Rw shT w B v (tmL g) := by
  show w.ownsRow B 79 5 v (tmL g).length ((tmL g).flatMap tmC)
  rw [tmL_len, tmL_flat]; exact h

theorem runQ (p pm : Option Addr) (c cm : Nat) (prog : List Ord) (mem : List Int) (steps : Int) (w : World) (hp : RdO w p prog) (hm : Rd w pm mem) (hlen : (prog.length : Int) ≤ 1000000000000000) (hlm : (mem.length : Int) ≤ 1000000000000000) (u0 u1 u2 u3 l0 l1 l2 l3 b : Int) {x0 x1 x2 x3 x4 x5 x6 x7 nx st tr sp er : Int} {l : List Int} {tl : List Tm} {A : Mc × Int} (hA : answerR [u0, u1, u2, u3] [l0, l1, l2, l3] b prog mem steps = A)
    (hx : A.1.regs = [x0, x1, x2, x3, x4, x5, x6, x7]) (h1 : (A.1.next : Int) = nx) (h2 : A.1.stop = st) (h3 : A.1.trap = tr) (h4 : (A.1.steps : Int) = sp) (h5 : A.2 = er) (h6 : A.1.mem = l) (h7 : tmL A.1.given = tl) :
    Calls Tryz.prog 15 #[.agg #[.int .i64 u0, .int .i64 u1, .int .i64 u2, .int .i64 u3, .int .i64 l0, .int .i64 l1, .int .i64 l2, .int .i64 l3, .int .i64 b], .slice p prog.length c, .slice pm mem.length cm, .int .i64 steps] w fun e w' =>
      ∃ pp cc pt ct, e = .returned (.tuple #[.agg #[.int .i64 x0, .int .i64 x1, .int .i64 x2, .int .i64 x3, .int .i64 x4, .int .i64 x5, .int .i64 x6, .int .i64 x7, .slice pp l.length cc, .int .i64 nx, .int .i64 st, .int .i64 tr, .int .i64 sp], .slice pt tl.length ct, .int .i64 er]) ∧
        Below w.heap.size w w' ∧ Rw shW w' w.heap.size (.slice pp l.length cc) l ∧ Tight (.slice pp l.length cc) ∧ Rw shT w' w.heap.size (.slice pt tl.length ct) tl ∧ Tight (.slice pt tl.length ct) := by
  subst h1 h2 h3 h4 h5 h6 h7
  refine (run_any u0 u1 u2 u3 l0 l1 l2 l3 b p pm c cm prog mem steps w hp hm hlen hlm A.1 A.2 hA.symm).mono ?_
  rintro e w' ⟨mv, tv, rfl, hb, ho, ht, hot, htt⟩
  have ho' := Rw.own.2 ho
  have hot' := tmL_row hot
  obtain ⟨pp, cc, rfl, _⟩ := ho'.slice
  obtain ⟨pt, ct, rfl, _⟩ := hot'.slice
  exact ⟨pp, cc, pt, ct, by rw [hx]; rfl, hb, ho', ht, hot', htt⟩

theorem refRunQ (p pm : Option Addr) (c cm : Nat) (prog : List Ord) (mem : List Int) (steps : Int) (w : World) (hp : RdO w p prog) (hm : Rd w pm mem) (hlen : (prog.length : Int) ≤ 1000000000000000) (hlm : (mem.length : Int) ≤ 1000000000000000) (u0 u1 u2 u3 l0 l1 l2 l3 b : Int) {x0 x1 x2 x3 x4 x5 x6 x7 nx st tr sp er : Int} {l : List Int} {tl : List Tm} {A : Mc × Int} (hA : answerR [u0, u1, u2, u3] [l0, l1, l2, l3] b prog mem steps = A)
    (hx : A.1.regs = [x0, x1, x2, x3, x4, x5, x6, x7]) (h1 : (A.1.next : Int) = nx) (h2 : A.1.stop = st) (h3 : A.1.trap = tr) (h4 : (A.1.steps : Int) = sp) (h5 : A.2 = er) (h6 : A.1.mem = l) (h7 : tmL A.1.given = tl) :
    Calls Tryz.prog 16 #[.agg #[.int .i64 u0, .int .i64 u1, .int .i64 u2, .int .i64 u3, .int .i64 l0, .int .i64 l1, .int .i64 l2, .int .i64 l3, .int .i64 b], .slice p prog.length c, .slice pm mem.length cm, .int .i64 steps] w fun e w' =>
      ∃ pp cc pt ct, e = .returned (.tuple #[.agg #[.int .i64 x0, .int .i64 x1, .int .i64 x2, .int .i64 x3, .int .i64 x4, .int .i64 x5, .int .i64 x6, .int .i64 x7, .slice pp l.length cc, .int .i64 nx, .int .i64 st, .int .i64 tr, .int .i64 sp], .slice pt tl.length ct, .int .i64 er]) ∧
        Below w.heap.size w w' ∧ Rw shW w' w.heap.size (.slice pp l.length cc) l ∧ Rw shT w' w.heap.size (.slice pt tl.length ct) tl := by
  subst h1 h2 h3 h4 h5 h6 h7
  refine (refRun_any u0 u1 u2 u3 l0 l1 l2 l3 b p pm c cm prog mem steps w hp hm hlen hlm A.1 A.2 hA.symm).mono ?_
  rintro e w' ⟨mv, tv, rfl, hb, ho, hot⟩
  have ho' := Rw.own.2 ho
  have hot' := tmL_row hot
  obtain ⟨pp, cc, rfl, _⟩ := ho'.slice
  obtain ⟨pt, ct, rfl, _⟩ := hot'.slice
  exact ⟨pp, cc, pt, ct, by rw [hx]; rfl, hb, ho', hot'⟩

theorem Kr.same {bb : Nat} {w w' : World} (h : Kr bb w w') {k : Nat} {cs : Array Value} {e : TypeId} (hk : w.heap[k]? = some (.cells cs e (0, 0))) (h1 : e ≠ 23) (h2 : e ≠ 55) (hne : k ≠ bb) : w'.heap[k]? = some (.cells cs e (0, 0)) := by
  rw [h.block k (Array.getElem?_eq_some_iff.1 hk).1 hne ?_ ?_]
  · exact hk
  · intro c f e'
    rw [hk] at e'
    simp only [Option.some.injEq, Obj.cells.injEq] at e'
    exact h1 e'.2.1
  · intro c f e'
    rw [hk] at e'
    simp only [Option.some.injEq, Obj.cells.injEq] at e'
    exact h2 e'.2.1

/-- The call's own box and what it handed in. -/
structure Md (W : World) (N gP gM : Nat) (cs : Array Value) (prog : List Ord) (mem : List Int) : Prop where
  box : W.heap[N]? = some (.cells cs 34 (0, 0))
  ord : HandO W gP prog
  wds : HandW W gM mem

section
variable {W W' : World} {N gP gM bb : Nat} {cs : Array Value} {prog : List Ord} {mem : List Int}
theorem grow_same (hg : W.grownBy W' none) {k : Nat} {o : Obj} (hk : W.heap[k]? = some o) : W'.heap[k]? = some o := (hg.block k (Array.getElem?_eq_some_iff.1 hk).1 (by simp)).trans hk
theorem Md.grow (h : Md W N gP gM cs prog mem) (hg : W.grownBy W' none) : Md W' N gP gM cs prog mem :=
  ⟨grow_same hg h.box, h.ord.keep (hg.block _ (lt_of_blk h.ord.choose_spec.1) (by simp)), h.wds.keep (hg.block _ (lt_of_blk h.wds.choose_spec.1) (by simp))⟩
theorem Md.kr (h : Md W N gP gM cs prog mem) (hk : Kr bb W W') (h1 : N ≠ bb) (h2 : gP ≠ bb) (h3 : gM ≠ bb) : Md W' N gP gM cs prog mem := by
  refine ⟨hk.same h.box (by decide) (by decide) h1, ?_, ?_⟩
  · obtain ⟨cur, g1, rest⟩ := h.ord
    exact ⟨cur, hk.same g1 (by decide) (by decide) h2, rest⟩
  · obtain ⟨cur, g1, rest⟩ := h.wds
    exact ⟨cur, hk.same g1 (by decide) (by decide) h3, rest⟩
theorem Md.cell (h : Md W N gP gM cs prog mem) (j : Nat) : W.cell? ⟨N, j, none⟩ = cs[j]? := cell_of_row W N j _ _ _ h.box
theorem Md.lt (h : Md W N gP gM cs prog mem) : N < W.heap.size ∧ gP < W.heap.size ∧ gM < W.heap.size := ⟨lt_of_blk h.box, lt_of_blk h.ord.choose_spec.1, lt_of_blk h.wds.choose_spec.1⟩
end

/-- A list's row lies below; from here on. -/
def LoB (v : Value) (n : Nat) : Prop := ∀ g, v.ownBlock = some g → g < n
def HiB (v : Value) (n : Nat) : Prop := ∀ g, v.ownBlock = some g → n ≤ g
theorem lohi {v x : Value} {n m : Nat} (h : LoB v n) (h' : HiB x m) (hn : n ≤ m) : Apart v x := fun g h1 h2 => by have := h g h1; have := h' g h2; omega
theorem hilo {v x : Value} {n m : Nat} (h : HiB v m) (h' : LoB x n) (hn : n ≤ m) : Apart v x := (lohi h' h hn).symm
theorem Rw.lo {S : Sh} {w : World} {B : Nat} {v : Value} {l : List S.α} (h : Rw S w B v l) : LoB v w.heap.size := fun g hg => (Rw.lt h g hg).2
theorem Rw.hi {S : Sh} {w : World} {B : Nat} {v : Value} {l : List S.α} (h : Rw S w B v l) : HiB v B := fun g hg => (Rw.lt h g hg).1
theorem Rw.base {S : Sh} {w : World} {B B' : Nat} {v : Value} {l : List S.α} (h : Rw S w B v l) (hB : B' ≤ B) : Rw S w B' v l := by
  refine ⟨h.1, ?_⟩
  rcases h.2 with h2 | ⟨g, cap, cur, h1, hb, rest⟩
  · exact .inl h2
  · exact .inr ⟨g, cap, cur, h1, Nat.le_trans hB hb, rest⟩

/-- Lists of the book lie below. -/
structure OldH (S : Sh) (ms : List (Value × Nat)) (ys : List (Value × Value × List S.α)) (n : Nat) : Prop where
  ms : ∀ m ∈ ms, LoB m.1 n
  ys : ∀ y ∈ ys, LoB y.1 n ∧ LoB y.2.1 n
theorem Hb.old {S : Sh} {w : World} {B : Nat} {wv aw ew : Value} {ms : List (Value × Nat)} {av es : List Value} {ys : List (Value × Value × List S.α)} (h : Hb S w B wv aw ew ms av es ys) : OldH S ms ys w.heap.size :=
  ⟨fun m hm => by obtain ⟨k, hk⟩ := List.getElem?_of_mem hm; exact fun g hg => (World.ownsRow.lt (h.marks k m.1 m.2 hk) g hg).2, fun y hy => ⟨(h.each y hy).1.lo, (h.each y hy).2.1.lo⟩⟩

/-- Lists of the book lie elsewhere than this block. -/
structure FreeH (S : Sh) (ms : List (Value × Nat)) (ys : List (Value × Value × List S.α)) (k : Nat) : Prop where
  ms : ∀ m ∈ ms, m.1.ownBlock ≠ some k
  ys : ∀ y ∈ ys, y.1.ownBlock ≠ some k ∧ y.2.1.ownBlock ≠ some k
theorem OldH.free {S : Sh} {ms : List (Value × Nat)} {ys : List (Value × Value × List S.α)} {n k : Nat} (h : OldH S ms ys n) (hk : n ≤ k) : FreeH S ms ys k :=
  ⟨fun m hm e => by have := h.ms m hm k e; omega, fun y hy => ⟨fun e => by have := (h.ys y hy).1 k e; omega, fun e => by have := (h.ys y hy).2 k e; omega⟩⟩
theorem FreeH.snoc {S : Sh} {ms : List (Value × Nat)} {ys : List (Value × Value × List S.α)} {k n n' : Nat} {v x : Value} {l : List S.α} (h : FreeH S ms ys k) (hv : HiB v n) (hx : HiB x n') (h1 : k < n) (h2 : k < n') : FreeH S ms (ys ++ [(v, x, l)]) k := by
  refine ⟨h.ms, fun y hy => ?_⟩
  rcases List.mem_append.1 hy with h' | h'
  · exact h.ys y h'
  · simp at h'; subst h'
    exact ⟨fun e => by have := hv k e; omega, fun e => by have := hx k e; omega⟩

theorem Hb.block {S : Sh} {w w2 : World} {B : Nat} {wv aw ew : Value} {ms : List (Value × Nat)} {av es : List Value} {ys : List (Value × Value × List S.α)} {k : Nat} {cs : Array Value} {e' : TypeId} (h : Hb S w B wv aw ew ms av es ys)
    (hk : w.heap[k]? = some (.cells cs e' (0, 0))) (hg : w.grownBy w2 (some k)) (n1 : S.e ≠ e' ∨ FreeH S ms ys k) (n2 : S.sl ≠ e') : Hb S w2 B wv aw ew ms av es ys := by
  have far : ∀ {e : TypeId} {size n : Nat} {v : Value} {xs : List Value}, w.ownsRow B e size v n xs → v.ownBlock ≠ some k → w2.ownsRow B e size v n xs := fun hv hne => by
    refine World.ownsRow.kept hv hg ?_
    cases hv' : Value.ownBlock _ with
    | none => exact .inl rfl
    | some g => exact .inr (fun e => hne (by rw [hv', e]))
  have kind : ∀ {e : TypeId} {size n : Nat} {v : Value} {xs : List Value}, w.ownsRow B e size v n xs → e ≠ e' → v.ownBlock ≠ some k := fun hv hne hb => by
    obtain ⟨cur, hc⟩ := rowG hv hb
    rw [hk] at hc
    simp only [Option.some.injEq, Obj.cells.injEq] at hc
    exact hne hc.2.1.symm
  refine h.keeps (fun hv _ => far hv (kind hv n2)) (fun hv hw => far hv ?_)
  rcases n1 with n1 | n1
  · exact kind hv n1
  · rcases hw with ⟨m, hm, rfl⟩ | ⟨y, hy, rfl | rfl⟩
    · exact n1.ms m hm
    · exact (n1.ys y hy).1
    · exact (n1.ys y hy).2

/-- The book, as it is between calls: n is so many calls. -/
def Bkk (w : World) (B bb n : Nat) : Prop :=
  ∃ q r wv aw ew ms ys tv at' et ts zs, ms.length = 4 * q ∧ ts.length = 4 * r ∧ Bq w B bb wv aw ew ms (ys.map (·.1)) (ys.map (·.2.1)) ys tv at' et ts (zs.map (·.1)) (zs.map (·.2.1)) zs ∧
    (∀ y ∈ ys, Tight y.1) ∧ (∀ y ∈ zs, Tight y.1) ∧ ys.length + zs.length ≤ 5 ∧ q + ys.length ≤ 2 * n ∧ r + zs.length ≤ 2 * n

theorem Bkk.new (w : World) : Bkk (w.alloc (.cells #[.slice none 0 0, .slice none 0 0, .slice none 0 0, .slice none 0 0, .slice none 0 0, .slice none 0 0] 28)) w.heap.size w.heap.size 0 :=
  ⟨0, 0, _, _, _, [], [], _, _, _, [], [], rfl, rfl, ⟨heap_alloc_new _ _, Nat.le_refl _, by simp, Hb.nil _ _ _, Hb.nil _ _ _⟩, fun y hy => (by cases hy), fun y hy => (by cases hy), by simp, by simp, by simp⟩

theorem settlesK (B bb n : Nat) (w : World) (h : Bkk w B bb n) (hn : n ≤ 1100000000000) : Calls Tryz.prog 7 #[.pointer (some ⟨bb, 0, none⟩)] w fun e w' => e = .returned (.bool true) ∧ Below B w w' := by
  obtain ⟨q, r, wv, aw, ew, ms, ys, tv, at', et, ts, zs, hq, hr, hb, hty, htz, h5, hqn, hrn⟩ := h
  exact (settlesQ B bb q r wv aw ew ms ys tv at' et ts zs w hq hr hb hty htz (by omega) (by omega) (by omega) (by omega)).mono (fun e w' ⟨h1, h2, _⟩ => ⟨h1, h2⟩)

theorem looksK (B bb n q r : Nat) (wv aw ew : Value) (ms : List (Value × Nat)) (ys : List (Value × Value × List Int)) (tv at' et : Value) (ts : List (Value × Nat)) (zs : List (Value × Value × List Tm)) (w : World)
    (hq : ms.length = 4 * q) (hr : ts.length = 4 * r)
    (hb : Bq w B bb wv aw ew ms (ys.map (·.1)) (ys.map (·.2.1)) ys tv at' et ts (zs.map (·.1)) (zs.map (·.2.1)) zs) (hty : ∀ y ∈ ys, Tight y.1) (htz : ∀ y ∈ zs, Tight y.1)
    (hyl : ys.length ≤ 1000) (hzl : zs.length ≤ 1000) (hql : q + ys.length ≤ 2 * n) (hrl : r + zs.length ≤ 2 * n) (hn : n ≤ 1100000000000) :
    Calls Tryz.prog 21 #[.pointer (some ⟨bb, 0, none⟩)] w fun e w' => e = .returned (.bool true) ∧ Below B w w' ∧ Bkk w' B bb n := by
  refine (looksQ B bb q r wv aw ew ms ys tv at' et ts zs w hq hr hb hty htz hyl hzl (by omega) (by omega)).mono ?_
  rintro e w' ⟨h1, h2, ⟨_, wv', ms', tv', ts', e1, e2, hb'⟩ | ⟨h5, k, rfl⟩⟩
  · exact ⟨h1, h2, _, _, wv', _, _, ms', [], tv', _, _, ts', [], e1, e2, hb', fun y hy => (by cases hy), fun y hy => (by cases hy), by simp, by simp; omega, by simp; omega⟩
  · exact ⟨h1, h2, q, r, wv, aw, ew, ms, ys, tv, at', et, ts, zs, hq, hr, hb.grow (grown_draws _ _), hty, htz, h5, hql, hrl⟩

end Go.Proofs.YtmeiogoodbnkkaaGreat
