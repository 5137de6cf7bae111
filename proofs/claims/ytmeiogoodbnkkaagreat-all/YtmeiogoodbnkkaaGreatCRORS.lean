/- Several texts in one: RO, RP, RR, RS. -/
import Derived.Test.YtmeiogoodbnkkaaGreatCRKRL
import Derived.Test.YtmeiogoodbnkkaaGreatCRM
import Derived.Test.YtmeiogoodbnkkaaGreatCRN
import Derived.Test.YtmeiogoodbnkkaaGreatCRFRJ
import Derived.Deep.RegionHeld3
import Derived.StillTailTactics
/- An order writes. -/
namespace Go.Proofs.YtmeiogoodbnkkaaGreat
open Go.RowKit

theorem row_kept {W W1 : World} {B : Nat} {e : TypeId} {size n : Nat} {v : Value} {xs : List Value} (h : W.ownsRow B e size v n xs) {row : Option Nat} (hg : W.grownBy W1 row) (hne : ∀ g, row = some g → v.ownBlock ≠ some g) : W1.ownsRow B e size v n xs := by
  refine h.kept hg ?_
  cases hv : v.ownBlock with
  | none => exact .inl rfl
  | some g => exact .inr (fun e => hne g e.symm hv)

theorem MAt.addCh {W W1 : World} {B : Nat} {L : Lo} {m : Mc} (h : MAt W B L m) (c : Ch) {cv' : Value} (hg : W.grownBy W1 L.cv.ownBlock) (ho : W1.ownsRow B 139 4 cv' (m.changes.length + 1) (m.changes.flatMap chCells ++ chCells c)) :
    MAt (W1.setCell ⟨L.M, 25, none⟩ cv') B { L with cv := cv' } { m with changes := m.changes ++ [c] } ∧ Kq B W (W1.setCell ⟨L.M, 25, none⟩ cv') := by
  have hne := row_ne h.chg h.blk (by decide)
  have hb1 : W1.heap[L.M]? = some (.cells (mcCells m L.pv L.gv L.cv L.mv).toArray 97 (0, 0)) := by rw [hg.block L.M h.lt (fun e => hne e.symm)]; exact h.blk
  have hk : Kq B W W1 := (Kq.refl B W).grown hg (fun k hk => by
    rcases h.chg.2 with ⟨h1, _⟩ | ⟨g, cap, cur, h1, h2, h3, _⟩
    · rw [h1] at hk; cases hk
    · rw [h1] at hk; simp [Value.ownBlock] at hk; subst hk; exact ⟨h2, _, h3, by simp [hot]⟩)
  refine ⟨⟨h.units, h.lat, h.regs, h.base, ?_, ?_, ?_, ?_⟩, hk.set hb1 h.hotM h.base _⟩
  · rw [heap_setCell_same W1 L.M 25 _ _ _ hb1, List.setIfInBounds_toArray, mc_tail_set h.units h.lat h.regs _ _ _ _ 2 _]
    rfl
  · exact row_far (row_kept h.giv hg (row_apart h.giv h.chg (by decide))) _ (row_ne (row_kept h.giv hg (row_apart h.giv h.chg (by decide))) hb1 (by decide))
  · have := row_far ho (j := 25) cv' (row_ne ho hb1 (by decide))
    simpa using this
  · exact row_far (row_kept h.mem hg (row_apart h.mem h.chg (by decide))) _ (row_ne (row_kept h.mem hg (row_apart h.mem h.chg (by decide))) hb1 (by decide))

theorem MAt.addTk {W W1 : World} {B : Nat} {L : Lo} {m : Mc} (h : MAt W B L m) (t : Tk) {gv' : Value} (hg : W.grownBy W1 L.gv.ownBlock) (ho : W1.ownsRow B 119 17 gv' (m.given.length + 1) (m.given.flatMap tkCells ++ tkCells t)) :
    MAt (W1.setCell ⟨L.M, 24, none⟩ gv') B { L with gv := gv' } { m with given := m.given ++ [t] } ∧ Kq B W (W1.setCell ⟨L.M, 24, none⟩ gv') := by
  have hne := row_ne h.giv h.blk (by decide)
  have hb1 : W1.heap[L.M]? = some (.cells (mcCells m L.pv L.gv L.cv L.mv).toArray 97 (0, 0)) := by rw [hg.block L.M h.lt (fun e => hne e.symm)]; exact h.blk
  have hk : Kq B W W1 := (Kq.refl B W).grown hg (fun k hk => by
    rcases h.giv.2 with ⟨h1, _⟩ | ⟨g, cap, cur, h1, h2, h3, _⟩
    · rw [h1] at hk; cases hk
    · rw [h1] at hk; simp [Value.ownBlock] at hk; subst hk; exact ⟨h2, _, h3, by simp [hot]⟩)
  refine ⟨⟨h.units, h.lat, h.regs, h.base, ?_, ?_, ?_, ?_⟩, hk.set hb1 h.hotM h.base _⟩
  · rw [heap_setCell_same W1 L.M 24 _ _ _ hb1, List.setIfInBounds_toArray, mc_tail_set h.units h.lat h.regs _ _ _ _ 1 _]
    rfl
  · have := row_far ho (j := 24) gv' (row_ne ho hb1 (by decide))
    simpa using this
  · exact row_far (row_kept h.chg hg (row_apart h.chg h.giv (by decide))) _ (row_ne (row_kept h.chg hg (row_apart h.chg h.giv (by decide))) hb1 (by decide))
  · exact row_far (row_kept h.mem hg (row_apart h.mem h.giv (by decide))) _ (row_ne (row_kept h.mem hg (row_apart h.mem h.giv (by decide))) hb1 (by decide))

/-- An effect that an order may have. -/
def EffOk (ml : Nat) (tgt pl : Int) : Prop := (tgt = 1 ∧ 0 ≤ pl ∧ pl < 8) ∨ (tgt = 2 ∧ 0 ≤ pl ∧ pl < ml)

/-- What undoes it, at the machine. -/
theorem reverse_m {W : World} {B : Nat} {L : Lo} {m : Mc} (h : MAt W B L m) {tgt pl : Int} (val : Int) (he : EffOk m.mem.length tgt pl) :
    Calls Tryz.prog 99 #[.agg #[.int .i64 tgt, .int .i64 pl, .int .i64 val], .pointer (some ⟨L.M, 10, none⟩)] W fun e w' => e = .returned (.agg #[.int .i64 tgt, .int .i64 pl, .int .i64 (oldV tgt pl val m.regs m.mem m.next)]) ∧ Below W.heap.size W w' := by
  rcases he with ⟨rfl, h0, h1⟩ | ⟨rfl, h0, h1⟩
  · obtain ⟨j, rfl⟩ := Int.eq_ofNat_of_zero_le h0
    have := reverse_reg L.M 10 j val _ W (by omega) h.lt (h.reg (by omega))
    simpa [oldV] using this
  · obtain ⟨j, rfl⟩ := Int.eq_ofNat_of_zero_le h0
    rcases h.mem.form with ⟨_, h2⟩ | ⟨g, cap, cur, h2, _, hg, _⟩
    · rw [h2] at h1; simp at h1; omega
    · obtain ⟨p, c, h3, hrd⟩ := h.mem.slice
      rw [h2] at h3
      simp only [Value.slice.injEq, true_and] at h3
      obtain ⟨rfl, rfl⟩ := h3
      obtain ⟨b, off, h4, _, h5⟩ := hrd.at (i := j) (by omega)
      simp only [Option.some.injEq, Addr.mk.injEq, and_true] at h4
      obtain ⟨rfl, rfl⟩ := h4
      have h6 := h5 j (by omega)
      rw [Nat.zero_add] at h6
      have := reverse_word L.M 10 g j m.mem.length cap val _ W (by omega) h.lt hg (by rw [h.cMv, h2]) h6
      simpa [oldV] using this

/-- An effect put into the machine. -/
theorem put_m {W : World} {B : Nat} {L : Lo} {m : Mc} (h : MAt W B L m) {tgt pl : Int} (val : Int) (he : EffOk m.mem.length tgt pl) :
    Calls Tryz.prog 64 #[.agg #[.int .i64 tgt, .int .i64 pl, .int .i64 val], .pointer (some ⟨L.M, 10, none⟩)] W fun e w' => e = .returned (.tuple #[]) ∧
      MAt w' B L { m with regs := putR tgt pl val m.regs, mem := putM tgt pl val m.mem, next := putN tgt val m.next } ∧ Kq B W w' := by
  rcases he with ⟨rfl, h0, h1⟩ | ⟨rfl, h0, h1⟩
  · obtain ⟨j, rfl⟩ := Int.eq_ofNat_of_zero_le h0
    refine (put_reg_at L.M 10 j val _ W (by omega) h.lt (h.reg (by omega)) (h.frozen _)).mono ?_
    rintro e w' ⟨rfl, hb⟩
    have hm := h.setReg (j := j) (by omega) val
    have hb' : Below (W.setCell ⟨L.M, 10 + j, none⟩ (.int .i64 val)).heap.size (W.setCell ⟨L.M, 10 + j, none⟩ (.int .i64 val)) w' := by simpa using hb
    refine ⟨rfl, ?_, (h.kqM _ _).trans (.of_below hb')⟩
    have := hm.below hb'
    simpa [putR, putM, putN] using this
  · obtain ⟨j, rfl⟩ := Int.eq_ofNat_of_zero_le h0
    rcases h.mem.form with ⟨_, h2⟩ | ⟨g, cap, cur, h2, _, hg, _⟩
    · rw [h2] at h1; simp at h1; omega
    · obtain ⟨p, c, h3, hrd⟩ := h.mem.slice
      rw [h2] at h3
      simp only [Value.slice.injEq, true_and] at h3
      obtain ⟨rfl, rfl⟩ := h3
      obtain ⟨b, off, h4, _, h5⟩ := hrd.at (i := j) (by omega)
      simp only [Option.some.injEq, Addr.mk.injEq, and_true] at h4
      obtain ⟨rfl, rfl⟩ := h4
      have h6 := h5 j (by omega)
      rw [Nat.zero_add] at h6
      have hmem := h.mem
      rw [h2] at hmem
      refine (put_word_at L.M 10 g j m.mem.length cap val _ W (by omega) h.lt hg (by rw [h.cMv, h2]) h6 (World.ownsRow.frozenAt hmem j)).mono ?_
      rintro e w' ⟨rfl, hb⟩
      obtain ⟨hm, hk⟩ := h.setWord (j := j) h2 val
      have hb' : Below (W.setCell ⟨g, j, none⟩ (.int .i64 val)).heap.size (W.setCell ⟨g, j, none⟩ (.int .i64 val)) w' := by simpa using hb
      refine ⟨rfl, ?_, hk.trans (.of_below hb')⟩
      have := hm.below hb'
      simpa [putR, putM, putN] using this

end Go.Proofs.YtmeiogoodbnkkaaGreat

/- An order writes: the walk. -/
namespace Go.Proofs.YtmeiogoodbnkkaaGreat
open Go.RowKit

theorem Kq.of_drew {B : Nat} {W W' : World} (h : Kq B W.drew W') : Kq B W W' := ⟨h.os, h.tape, h.output, h.size, h.block⟩

/-- The effect of an order, in memory. -/
def Sef (G o : Nat) (a b c : Int) (w : World) : Prop := w.cell? ⟨G, o + 13, none⟩ = some (.int .i64 a) ∧ w.cell? ⟨G, o + 13 + 1, none⟩ = some (.int .i64 b) ∧ w.cell? ⟨G, o + 13 + 2, none⟩ = some (.int .i64 c)

theorem MAt.sef {W : World} {B : Nat} {L : Lo} {m : Mc} {G cap i : Nat} {t : Tk} (h : MAt W B L m) (hgv : L.gv = .slice (some ⟨G, 0, none⟩) m.given.length cap) (ht : m.given[i]? = some t) : Sef G (i * 17) t.tgt t.pl t.val W :=
  ⟨h.tk hgv ht (j := 13) (by omega), h.tk hgv ht (j := 14) (by omega), h.tk hgv ht (j := 15) (by omega)⟩

set_option maxRecDepth 100000 in
set_option maxHeartbeats 4000000 in
theorem write_any (W : World) (B : Nat) (L : Lo) (m : Mc) (G cap i : Nat) (t : Tk) (hm : MAt W B L m) (hgv : L.gv = .slice (some ⟨G, 0, none⟩) m.given.length cap) (ht : m.given[i]? = some t) (he : EffOk m.mem.length t.tgt t.pl) (hcl : m.changes.length ≤ 1000000) (hB : B ≤ W.heap.size) :
    Calls Tryz.prog 81 #[.pointer (some ⟨L.M, 0, none⟩), .int .i64 i, .pointer (some ⟨G, i * 17, none⟩)] W fun e w' => e = .returned (.tuple #[]) ∧
      ∃ cv', MAt w' B { L with cv := cv' } (writeT i t m) ∧ Kq B W w' := by
  have r1 : ∀ w', Sef G (i * 17) t.tgt t.pl t.val w' → w'.cell? ⟨G, i * 17 + 13, none⟩ = some (.int .i64 t.tgt) := fun _ h => h.1
  have r2 : ∀ w', Sef G (i * 17) t.tgt t.pl t.val w' → w'.cell? ⟨G, i * 17 + 13 + 1, none⟩ = some (.int .i64 t.pl) := fun _ h => h.2.1
  have r3 : ∀ w', Sef G (i * 17) t.tgt t.pl t.val w' → w'.cell? ⟨G, i * 17 + 13 + 2, none⟩ = some (.int .i64 t.val) := fun _ h => h.2.2
  have HM := hide hm
  have HT := hide ht
  have HE := hide he
  have HGV := hide hgv
  clear hm ht he hgv
  have HS0 : Hid (Sef G (i * 17) t.tgt t.pl t.val W.drew) := HM.out.sef HGV.out HT.out
  have HMD : Hid (MAt W.drew B L m) := HM.out.ck (fun _ _ _ _ h => h)
  obtain ⟨ov, hov⟩ : ∃ ov, ov = oldV t.tgt t.pl t.val m.regs m.mem m.next := ⟨_, rfl⟩
  have HOV := hide hov
  have HRV : Hid (Calls Tryz.prog 99 #[.agg #[.int .i64 t.tgt, .int .i64 t.pl, .int .i64 t.val], .pointer (some ⟨L.M, 10, none⟩)] W.drew fun e w' => e = .returned (.agg #[.int .i64 t.tgt, .int .i64 t.pl, .int .i64 ov]) ∧ Below W.heap.size W w') := by
    rw [hov]; exact (reverse_m HMD.out t.val HE.out).mono (fun e w' h => ⟨h.1, h.2.os, h.2.tape, h.2.output, h.2.size, h.2.block⟩)
  clear hov
  go_enter Tryz.func81, Tryz.ntmps81
  go_wp2
  go_region_held3 (fun w' => Sef G (i * 17) t.tgt t.pl t.val w') (first | assumption | exact HS0.out | exact HS1.out | exact HS2.out | fail) (first
    | (go_at_call 99; refine HRV.out.mono ?_; rintro e w1 ⟨rfl, hb1⟩; have HB1 : Hid (Below W.heap.size W w1) := hb1; clear hb1; have HM1 : Hid (MAt w1 B L m) := HM.out.below HB1.out; have HS1 : Hid (Sef G (i * 17) t.tgt t.pl t.val w1) := HM1.out.sef HGV.out HT.out)
    | (go_at_call 98; refine (cAdd_any w1 B L.M 25 m.changes.length L.cv (m.changes.flatMap chCells) ⟨i, t.tgt, t.pl, ov⟩ HM1.out.chg HM1.out.cCv (HM1.out.frozen _) (row_ne HM1.out.chg HM1.out.blk (by decide)) hcl (Nat.le_trans hB HB1.out.size)).mono ?_; rintro e w2 ⟨rfl, cv', w2', hg2, ho2, hcb, hw2⟩; have HM2 : Hid (MAt w2 B { L with cv := cv' } { m with changes := m.changes ++ [⟨i, t.tgt, t.pl, ov⟩] } ∧ Kq B w1 w2) := (by rw [hw2]; exact HM1.out.addCh ⟨i, t.tgt, t.pl, ov⟩ hg2 ho2); have HS2 : Hid (Sef G (i * 17) t.tgt t.pl t.val w2) := HM2.out.1.sef HGV.out HT.out; clear hg2 ho2 hcb hw2)
    | fail)
  go_wp2
  have HMD2 : Hid (MAt w2.drew B { L with cv := cv' } { m with changes := m.changes ++ [⟨i, t.tgt, t.pl, ov⟩] }) := HM2.out.1.ck (fun _ _ _ _ h => h)
  have HS3 : Hid (Sef G (i * 17) t.tgt t.pl t.val w2.drew) := HS2.out
  go_region_held3 (fun w' => Sef G (i * 17) t.tgt t.pl t.val w') (first | assumption | exact HS3.out | exact HS4.out | fail) (first
    | (go_at_call 64; refine (put_m HMD2.out t.val HE.out).mono ?_; rintro e w3 ⟨rfl, hm3, hk3⟩; have HM3 := hide hm3; have HK3 : Hid (Kq B w2 w3) := Kq.of_drew hk3; have HS4 : Hid (Sef G (i * 17) t.tgt t.pl t.val w3) := HM3.out.sef HGV.out HT.out; clear hm3 hk3)
    | fail)
  have d1 := HM3.out.cCycle
  have d2 : w3.cell? ⟨G, i * 17 + 12, none⟩ = some (.int .i64 t.write) := HM3.out.tk HGV.out HT.out (j := 12) (by omega)
  have d3 := HM3.out.tkFrozen HGV.out (i * 17 + 12)
  simp only at d1 d2 d3
  go_wp2
  go_end0
  have hfin := HM3.out.setTk (t' := { t with write := m.cycle }) (v := .int .i64 m.cycle) HGV.out HT.out (j := 12) (by omega) rfl
  refine ⟨rfl, cv', ?_, ((Kq.of_below HB1.out).trans HM2.out.2).trans (HK3.out.trans hfin.2)⟩
  have h9 := hfin.1
  rw [HOV.out] at h9
  exact h9

end Go.Proofs.YtmeiogoodbnkkaaGreat

/- What holds of a machine at work. -/
namespace Go.Proofs.YtmeiogoodbnkkaaGreat
open Go.RowKit

/-- What holds of every order that was given out. -/
structure Wf (n : Int) (m : Mc) : Prop where
  ords : Ords n m.given
  ops : ∀ (i : Nat) (t : Tk), m.given[i]? = some t → t.o.op ≠ 0
  eff : ∀ (i : Nat) (t : Tk), m.given[i]? = some t → t.done ≠ 0 → t.trap = 0 → t.write = 0 → EffOk m.mem.length t.tgt t.pl
  jmp : ∀ (i : Nat) (t : Tk), m.given[i]? = some t → t.read = 0 → t.o.op ≠ 8
  num : ∀ (i : Nat) (t : Tk), m.given[i]? = some t → t.number ≤ 1000
  cyc : m.cycle ≠ 0

theorem get_set {g : List Tk} {i j : Nat} {x t : Tk} (h : (g.set i x)[j]? = some t) : (j = i ∧ t = x) ∨ (j ≠ i ∧ g[j]? = some t) := by
  by_cases e : i = j
  · subst e
    have hlt : i < g.length := by
      have := (List.getElem?_eq_some_iff.1 h).1
      simpa using this
    rw [List.getElem?_set_self hlt] at h
    cases h
    exact .inl ⟨rfl, rfl⟩
  · rw [List.getElem?_set_ne e] at h
    exact .inr ⟨fun h' => e h'.symm, h⟩

theorem putM_len (tgt pl val : Int) (mem : List Int) : (putM tgt pl val mem).length = mem.length := by unfold putM; split <;> simp
theorem putR_len (tgt pl val : Int) (regs : List Int) : (putR tgt pl val regs).length = regs.length := by unfold putR; split <;> simp

theorem Wf.writeT {n : Int} {m : Mc} (h : Wf n m) {i : Nat} {t : Tk} (ht : m.given[i]? = some t) : Wf n (writeT i t m) := by
  refine ⟨fun j x hx => ?_, fun j x hx => ?_, fun j x hx => ?_, fun j x hx => ?_, fun j x hx => ?_, h.cyc⟩
  · rcases get_set hx with ⟨_, rfl⟩ | ⟨_, hx⟩
    · exact h.ords i t ht
    · exact h.ords j x hx
  · rcases get_set hx with ⟨_, rfl⟩ | ⟨_, hx⟩
    · exact h.ops i t ht
    · exact h.ops j x hx
  · intro h1 h2 h3
    rcases get_set hx with ⟨_, rfl⟩ | ⟨_, hx⟩
    · exact absurd h3 h.cyc
    · have := h.eff j x hx h1 h2 h3
      simpa [Go.Proofs.YtmeiogoodbnkkaaGreat.writeT, putM_len] using this
  · rcases get_set hx with ⟨_, rfl⟩ | ⟨_, hx⟩
    · exact h.jmp i t ht
    · exact h.jmp j x hx
  · rcases get_set hx with ⟨_, rfl⟩ | ⟨_, hx⟩
    · exact h.num i t ht
    · exact h.num j x hx

theorem mayW_spec {g : List Tk} {c i : Nat} {t : Tk} (h : mayW g c i t = true) : t.done ≠ 0 ∧ t.trap = 0 ∧ t.write = 0 := by
  unfold mayW at h
  simp only [Bool.and_eq_true, decide_eq_true_eq] at h
  exact ⟨h.1.1.1.1, h.1.1.2, h.1.2⟩

/-- What the writes keep. -/
structure Wk (n : Int) (m : Mc) (k : Nat) (s : Int × Mc) : Prop where
  wf : Wf n s.2
  len : s.2.given.length = m.given.length
  cyc : s.2.cycle = m.cycle
  mem : s.2.mem.length = m.mem.length
  chg : s.2.changes.length ≤ m.changes.length + k
  lo : 0 ≤ s.1
  hi : s.1 ≤ m.buses

theorem Wk.one {n : Int} {m : Mc} {k : Nat} {s : Int × Mc} (h : Wk n m k s) (i : Nat) : Wk n m (k + 1) (writesOne s i) := by
  have same : Wk n m (k + 1) s := ⟨h.wf, h.len, h.cyc, h.mem, Nat.le_succ_of_le h.chg, h.lo, h.hi⟩
  unfold writesOne
  split
  · exact same
  · rename_i t ht
    split
    · have hw : Wf n (writeT i t s.2) := h.wf.writeT ht
      have hl : (writeT i t s.2).given.length = m.given.length := by simp [writeT, h.len]
      have hme : (writeT i t s.2).mem.length = m.mem.length := by simp [writeT, putM_len, h.mem]
      have hch : (writeT i t s.2).changes.length ≤ m.changes.length + (k + 1) := by simp [writeT]; have := h.chg; omega
      split
      · exact ⟨hw, hl, h.cyc, hme, hch, h.lo, h.hi⟩
      · split
        · exact same
        · rename_i h0
          exact ⟨hw, hl, h.cyc, hme, hch, by have := h.lo; simp only; omega, by have := h.hi; simp only; omega⟩
    · exact same

theorem Wk.fold {n : Int} {m : Mc} (hw : Wf n m) (hb : 0 ≤ m.buses) : ∀ (l : List Nat), Wk n m l.length (l.foldl writesOne (m.buses, m)) := by
  intro l
  have : ∀ (l : List Nat) (k : Nat) (s : Int × Mc), Wk n m k s → Wk n m (k + l.length) (l.foldl writesOne s) := by
    intro l
    induction l with
    | nil => exact fun k s h => h
    | cons i l ih =>
      intro k s h
      have := ih (k + 1) _ (h.one i)
      rw [List.length_cons, show k + (l.length + 1) = k + 1 + l.length by omega]
      exact this
  have := this l 0 (m.buses, m) ⟨hw, rfl, rfl, rfl, Nat.le_refl _, hb, Int.le_refl _⟩
  simpa using this

end Go.Proofs.YtmeiogoodbnkkaaGreat

/- The writes of a cycle: the walk. -/
namespace Go.Proofs.YtmeiogoodbnkkaaGreat
open Go.RowKit

theorem kq_mark {B : Nat} {W w : World} {D : Nat} (h : Kq B W w) (hD : W.heap.size ≤ D) (o : Obj) : Kq B W (w.putObj D o) :=
  ⟨h.os, h.tape, h.output, by simpa [World.putObj] using h.size, fun k x hk hx => by rw [World.putObj_heap_other (by have := (Array.getElem?_eq_some_iff.1 hk).1; omega)]; exact h.block k x hk hx⟩
theorem mat_mark {B : Nat} {w : World} {L : Lo} {m : Mc} {D : Nat} (h : MAt w B L m) (hD : w.heap[D]? = some (.deferred (some []))) (o : Obj) : MAt (w.putObj D o) B L m :=
  h.ck (fun k cs t fr hk => by rw [World.putObj_heap_other (fun e => by subst e; rw [hD] at hk; cases hk)]; exact hk)

/-- A round's body: the way that it must be left, under a name. -/
theorem body_hide {α : Type} {B n : Nat} {Kp : World → World → Prop} {I : List α → World → Prop} {Ix : Code → List α → World → Prop} {xs : List α} {W w : World} {c : Code} {F : Fence} {P : Program} {a : Act}
    (h : ∀ QQ : Exit → Act → World → Prop, (∀ a w', KeepsFrom B W w' → Kp W w' → I xs w' → QQ .normal a w') → (∀ a w', KeepsFrom B W w' → Ix .ret xs w' → QQ .ret a w') → (∀ a w', ¬ QQ .outgrown a w') → c.wpIn F n P QQ a w) :
    c.wpIn F n P (ownPostG B Kp I Ix xs W) a w := h _ (fun _ _ x y z => ⟨x, y, z⟩) (fun _ _ x y => ⟨x, y⟩) (fun _ _ h => h)

theorem fold_snoc (s : Int × Mc) (pre : List Nat) (i : Nat) : (pre ++ [i]).foldl writesOne s = writesOne (pre.foldl writesOne s) i := by simp

set_option maxRecDepth 10000 in
set_option maxHeartbeats 8000000 in
theorem writes_any (W : World) (B : Nat) (L : Lo) (m : Mc) (n : Int) (hm : MAt W B L m) (hw : Wf n m) (hsm : m.given.length ≤ 100000) (hch : m.changes.length ≤ 100000) (hb0 : 0 ≤ m.buses) (hb1 : m.buses ≤ 1000) (hB : B ≤ W.heap.size) :
    Calls Tryz.prog 65 #[.pointer (some ⟨L.M, 0, none⟩)] W fun e w' => e = .returned (.tuple #[]) ∧ ∃ cv', MAt w' B { L with cv := cv' } (writesM m) ∧ Kq B W w' := by
  have HM := hide hm
  have HW := hide hw
  clear hm hw
  have hlt := HM.out.lt
  obtain ⟨V1, hV1⟩ : ∃ V1, W.alloc (.cells #[.pointer (some ⟨L.M, 0, none⟩)] 112) = V1 := ⟨_, rfl⟩
  have z1 : V1.heap.size = W.heap.size + 1 := by rw [← hV1]; simp
  have hBV1 : Below W.heap.size W V1 := by rw [← hV1]; exact (Below.refl _ _).alloc (Nat.le_refl _) _
  have bx1 : Bx V1 W.heap.size 112 (.pointer (some ⟨L.M, 0, none⟩)) := by rw [← hV1]; exact Bx.new W _ _
  obtain ⟨V2, hV2⟩ : ∃ V2, V1.alloc (.cells #[.int .i64 m.buses] 3) = V2 := ⟨_, rfl⟩
  have z2 : V2.heap.size = W.heap.size + 1 + 1 := by rw [← hV2]; simp [z1]
  have hBV2 : Below W.heap.size W V2 := by rw [← hV2]; exact hBV1.alloc (by omega) _
  have bx2 : Bx V2 W.heap.size 112 (.pointer (some ⟨L.M, 0, none⟩)) := by rw [← hV2]; exact bx1.alloc _
  have bb2 : Bx V2 (W.heap.size + 1) 3 (.int .i64 m.buses) := by rw [← hV2, ← z1]; exact Bx.new V1 _ _
  have c1 := bx1.cell
  have c2 := (HM.out.below hBV1).cBuses
  refine calls_of_marks Tryz.func65 rfl ?_
  simp only [Tryz.ntmps65, List.size_toArray, List.length_cons, List.length_nil, Nat.reduceAdd, Nat.reduceSub, Array.replicate_succ, Array.replicate_zero, List.push_toArray, List.append_toArray, List.nil_append, List.cons_append]
  go_wp2
  clear hV1 hV2
  rename_i Q1 K1 hK1
  obtain ⟨p, cap, G, hgv, hG⟩ := HM.out.ahead (Nat.le_refl _)
  have hm2 := HM.out.below hBV2
  have e1 : V2.drew.cell? ⟨W.heap.size, 0, none⟩ = some (.pointer (some ⟨L.M, 0, none⟩)) := bx2.cell
  have e2 : V2.drew.cell? ⟨L.M, 24, none⟩ = some (.slice p m.given.length cap) := by rw [← hgv]; exact hm2.cGv
  have e1' := bx2.cell
  refine wp_region_still_tail 7 (by kernel_rfl) (by kernel_rfl) ?_
  simp only [List.take_succ_cons, List.take_zero, List.drop_succ_cons, List.drop_zero]
  repeat still_step
  still_call (tLen_any L.M 24 m.given.length cap p _ e2)
  refine wpStill_nil ?_
  go_wp2_with (go_at_call 73; refine (tAhead_any _ _ _).mono ?_; rintro e w' ⟨rfl, rfl⟩)
  obtain ⟨W0, hW0⟩ : ∃ W0, ((V2.alloc (.cells #[.pointer (some ⟨L.M, 24, none⟩)] 141)).alloc (.cells #[.int .i64 m.given.length] 3)).drew = W0 := ⟨_, rfl⟩
  have hsz : W0.heap.size = W.heap.size + 4 := by rw [← hW0]; simp [z2]
  have hB0 : Below W.heap.size W W0 := by rw [← hW0]; exact ((hBV2.alloc (by omega) _).alloc (by simp; omega) _).drew
  have bb : Bx W0 (W.heap.size + 1) 3 (.int .i64 m.buses) := by rw [← hW0]; exact (bb2.alloc _).alloc _
  have bx : Bx W0 W.heap.size 112 (.pointer (some ⟨L.M, 0, none⟩)) := by rw [← hW0]; exact (bx2.alloc _).alloc _
  have b1 : Bx W0 (W.heap.size + 1 + 1) 141 (.pointer (some ⟨L.M, 24, none⟩)) := by rw [← hW0, ← z2]; exact (Bx.new V2 _ _).alloc _
  have b2 : Bx W0 (W.heap.size + 1 + 1 + 1) 3 (.int .i64 m.given.length) := by rw [← hW0]; have := Bx.new (V2.alloc (.cells #[.pointer (some ⟨L.M, 24, none⟩)] 141)) 3 (.int .i64 m.given.length); simp only [World.size_alloc, z2] at this; exact this
  have hm0 := HM.out.below hB0
  rw [hW0]
  clear hW0 e1 e2 e1' hm2 bx2 bb2 hBV2 z2 bx1 hBV1 z1 c1 c2
  have HWK := hide (Wk.fold HW.out hb0)
  refine wp_ahead (W.heap.size + 1 + 1 + 1) (W.heap.size + 1 + 1) L.M 24 G m.given.length cap m.given.length p rfl rfl b2.cell b1.cell (by rw [hm0.cGv, hgv]) (Nat.le_refl _) hG (by omega)
    (fun pre w => ∃ cv', MAt w B { L with cv := cv' } (pre.foldl writesOne (m.buses, m)).2 ∧ Bx w (W.heap.size + 1) 3 (.int .i64 (pre.foldl writesOne (m.buses, m)).1) ∧ Bx w W.heap.size 112 (.pointer (some ⟨L.M, 0, none⟩)) ∧ Bx w (W.heap.size + 1 + 1) 141 (.pointer (some ⟨L.M, 24, none⟩)) ∧ Bx w (W.heap.size + 1 + 1 + 1) 3 (.int .i64 m.given.length) ∧ Kq B W w)
    (fun _ _ _ => False)
    (fun s A A' row hs hg hr => by
      obtain ⟨cv', h1, h2, h3, h4, h5, h6⟩ := hs
      have hck := ck_grown hg hr
      exact ⟨cv', h1.ck hck, h2.ck hck, h3.ck hck, h4.ck hck, h5.ck hck, ⟨hg.os.trans h6.os, hg.tape.trans h6.tape, hg.output.trans h6.output, Nat.le_trans h6.size hg.size, fun k o hk ho => by
        have h7 := h6.block k o hk ho
        rw [hg.block k (Array.getElem?_eq_some_iff.1 h7).1 (fun e => by have := (hr k e.symm).1; have := (Array.getElem?_eq_some_iff.1 hk).1; omega)]
        exact h7⟩⟩)
    (fun c s A A' row hs hg hr => hs)
    ⟨L.cv, hm0, bb, bx, b1, b2, .of_below hB0⟩ (fun i => ⟨#[.pointer (some ⟨L.M, 0, none⟩), .pointer (some ⟨W.heap.size, 0, none⟩), .pointer (some ⟨W.heap.size + 1, 0, none⟩), .int .i64 i, .pointer (some ⟨G, i * 17, none⟩), undef, .pointer (some ⟨L.M, 0, none⟩), .pointer (some ⟨L.M, 0, none⟩), .pointer (some ⟨L.M, 0, none⟩), .pointer (some ⟨L.M, 8, none⟩), .int .i64 m.buses, .pointer (some ⟨L.M, 0, none⟩), .pointer (some ⟨L.M, 0, none⟩), .pointer (some ⟨L.M, 24, none⟩), .pointer (some ⟨L.M, 0, none⟩), .pointer (some ⟨L.M, 0, none⟩), .pointer (some ⟨L.M, 24, none⟩), .int .i64 m.given.length, .func (.func 87) #[] #[.pointer (some ⟨W.heap.size + 1 + 1 + 1, 0, none⟩), .pointer (some ⟨W.heap.size + 1 + 1, 0, none⟩)], .int .i64 i, .pointer (some ⟨G, i * 17, none⟩), undef, undef, undef, undef, undef, undef, undef, undef, undef, undef, undef, undef, undef, undef, undef, undef, undef, undef, undef, undef, undef], []⟩) ?hassign ?hbody ?hdone ?hstop
  case hassign =>
    intro l i w K hi hK
    refine wpIn_seq ?_
    refine round_list rfl (by simp [Exit.then]) ?_
    go_wp2
    refine round_list rfl (by simp [Exit.then]) ?_
    go_wp2
    exact hK
  case hbody =>
    rintro l pre i w hi hpl ⟨cv', h1, h2, h3, h4, h5, h6⟩
    dsimp only
    have hwk := HWK.out pre
    have hsn := fold_snoc (m.buses, m) pre i
    generalize hfd : pre.foldl writesOne (m.buses, m) = s at h1 h2 hwk hsn
    obtain ⟨bs, m1⟩ := s
    simp only at h1 h2
    obtain ⟨k1, k2, k3, k4, k5, k6, k7⟩ := hwk
    simp only at k1 k2 k3 k4 k5 k6 k7
    obtain ⟨t, ht⟩ : ∃ t, m1.given[i]? = some t := ⟨_, List.getElem?_eq_getElem (by omega)⟩
    have hgv' : L.gv = .slice (some ⟨G, 0, none⟩) m1.given.length cap := by rw [k2, ← hG (by omega)]; exact hgv
    have hone : writesOne (bs, m1) i = if mayW m1.given m1.cycle i t then (if wMask t.o = 0 then (bs, writeT i t m1) else if bs = 0 then (bs, m1) else (bs - 1, writeT i t m1)) else (bs, m1) := by
      unfold writesOne; simp only [ht]
    have HSN := hide hsn
    have HONE := hide hone
    have HMW := hide h1
    have HT := hide ht
    have HK1 := hide k1
    have cbx := h3.cell
    have cbb := h2.cell
    have cbf := h2.frozen
    have hcg : w.cell? ⟨L.M, 24, none⟩ = some L.gv := h1.cGv
    have cwm : w.cell? ⟨G, i * 17 + 7, none⟩ = some (.int .u8 (wMask t.o)) := h1.tk hgv' ht (j := 7) (by omega)
    have hwl := h3.lt
    have hwl2 := h5.lt
    clear hsn hone h1 ht hfd
    refine body_hide (fun QQ hN _ hO => ?_)
    have HN := hide hN
    clear hN
    cases hmay : mayW m1.given m1.cycle i t with
    | false =>
      have HC : Hid (Calls Tryz.prog 79 #[.pointer (some ⟨L.M, 0, none⟩), .int .i64 i, .pointer (some ⟨G, i * 17, none⟩)] w fun e w' => e = .returned (.bool false) ∧ Below w.heap.size w w') := by
        rw [← hmay]; exact mayWrite_any w B { L with cv := cv' } m1 G cap i t n HMW.out hgv' HT.out (by omega) k1.ords
      refine wpIn_block ?_
      refine wpIn_seq ?_
      refine wpIn_seq ?_
      refine round_list rfl (by simp [Exit.then, Exit.inBlock, hO]) ?_
      go_wp2_with (go_at_call 79; refine HC.out.mono ?_; rintro e w1 ⟨rfl, hb1⟩; have HB1 := hide hb1; clear hb1)
      refine wpIn_cond_true rfl ?_
      refine wpIn_exit ?_
      have hm1 := HMW.out.below HB1.out
      have e2 := HONE.out
      rw [hmay] at e2
      simp only [Bool.false_eq_true, if_false] at e2
      refine HN.out _ _ (Kq.of_below (B := 0) HB1.out).from (kpa_bx h5 (h5.below HB1.out hwl2) h4 (h4.below HB1.out h4.lt) hcg hm1.cGv) ?_
      rw [HSN.out, e2]
      exact ⟨cv', hm1, h2.below HB1.out h2.lt, h3.below HB1.out h3.lt, h4.below HB1.out h4.lt, h5.below HB1.out h5.lt, h6.trans (.of_below HB1.out)⟩
    | true =>
      obtain ⟨q1, q2, q3⟩ := mayW_spec hmay
      have hef := k1.eff i t HT.out q1 q2 q3
      have HC : Hid (Calls Tryz.prog 79 #[.pointer (some ⟨L.M, 0, none⟩), .int .i64 i, .pointer (some ⟨G, i * 17, none⟩)] w fun e w' => e = .returned (.bool true) ∧ Below w.heap.size w w') := by
        rw [← hmay]; exact mayWrite_any w B { L with cv := cv' } m1 G cap i t n HMW.out hgv' HT.out (by omega) k1.ords
      have HWR : Hid (∀ w', MAt w' B { L with cv := cv' } m1 → B ≤ w'.heap.size → Calls Tryz.prog 81 #[.pointer (some ⟨L.M, 0, none⟩), .int .i64 i, .pointer (some ⟨G, i * 17, none⟩)] w' fun e w'' => e = .returned (.tuple #[]) ∧
          ∃ cv'', MAt w'' B { L with cv := cv'' } (writeT i t m1) ∧ Kq B w' w'') := fun w' hw' hB' => write_any w' B { L with cv := cv' } m1 G cap i t hw' hgv' HT.out hef (by omega) hB'
      have hBw : B ≤ w.heap.size := Nat.le_trans hB h6.size
      have HGV' := hide hgv'
      have HGVV := hide hgv
      clear hgv hgv'
      refine wpIn_block ?_
      refine wpIn_seq ?_
      refine wpIn_seq ?_
      refine round_list rfl (by simp [Exit.then, Exit.inBlock, hO]) ?_
      go_wp2_with (go_at_call 79; refine HC.out.mono ?_; rintro e w1 ⟨rfl, hb1⟩; have HB1 := hide hb1; clear hb1)
      refine wpIn_cond_false rfl ?_
      refine wpIn_skip ?_
      simp only [Exit.then]
      have hm1 := HMW.out.below HB1.out
      have x1 : w1.cell? ⟨G, i * 17 + 7, none⟩ = some (.int .u8 (wMask t.o)) := hm1.tk HGV'.out HT.out (j := 7) (by omega)
      have g2 := h2.below HB1.out h2.lt
      have g3 := h3.below HB1.out h3.lt
      have g4 := h4.below HB1.out h4.lt
      have g5 := h5.below HB1.out h5.lt
      have y1 := g2.cell
      have y2 := g2.frozen
      have y3 := g3.cell
      have HM1 := hide hm1
      have HEF := hide hef
      clear hm1 hef cbx cbb cbf cwm
      obtain ⟨wm, hwm⟩ : ∃ wm, wm = wMask t.o := ⟨_, rfl⟩
      rw [← hwm] at x1
      have HWM := hide hwm
      clear hwm
      have hB1 : B ≤ w1.heap.size := Nat.le_trans hBw HB1.out.size
      have HFIN : Hid (∀ (bs' : Int) (w2 w3 : World) (cv2 : Value), writesOne (bs, m1) i = (bs', writeT i t m1) → KeepsFrom 0 w1 w2 → Kq B W w2 → Bx w2 (W.heap.size + 1) 3 (.int .i64 bs') → Bx w2 W.heap.size 112 (.pointer (some ⟨L.M, 0, none⟩)) → Bx w2 (W.heap.size + 1 + 1) 141 (.pointer (some ⟨L.M, 24, none⟩)) → Bx w2 (W.heap.size + 1 + 1 + 1) 3 (.int .i64 m.given.length) →
          MAt w3 B { L with cv := cv2 } (writeT i t m1) → Kq B w2 w3 → KeepsFrom W0.heap.size w w3 ∧ KpA (W.heap.size + 1 + 1 + 1) (W.heap.size + 1 + 1) L.M 24 w w3 ∧
          ∃ cv', MAt w3 B { L with cv := cv' } ((pre ++ [i]).foldl writesOne (m.buses, m)).2 ∧ Bx w3 (W.heap.size + 1) 3 (.int .i64 ((pre ++ [i]).foldl writesOne (m.buses, m)).1) ∧ Bx w3 W.heap.size 112 (.pointer (some ⟨L.M, 0, none⟩)) ∧ Bx w3 (W.heap.size + 1 + 1) 141 (.pointer (some ⟨L.M, 24, none⟩)) ∧ Bx w3 (W.heap.size + 1 + 1 + 1) 3 (.int .i64 m.given.length) ∧ Kq B W w3) := by
        intro bs' w2 w3 cv2 e2 f1 f2 a1 a2 a3 a4 hm3 hk3
        have a1' := a1.kq hk3 (by decide)
        have a2' := a2.kq hk3 (by decide)
        have a3' := a3.kq hk3 (by decide)
        have a4' := a4.kq hk3 (by decide)
        refine ⟨⟨Nat.le_trans HB1.out.size (Nat.le_trans f1.size hk3.size), fun k o _ hk ho => ?_⟩, kpa_bx h5 a4' h4 a3' hcg hm3.cGv, ?_⟩
        · have g := (Kq.of_below (B := 0) HB1.out).from (B' := 0)
          exact hk3.from (B' := 0) |>.same k o (Nat.zero_le _) (f1.same k o (Nat.zero_le _) (g.same k o (Nat.zero_le _) hk ho) ho) ho
        · rw [HSN.out, e2]
          exact ⟨cv2, hm3, a1', a2', a3', a4', f2.trans hk3⟩
      have hk1 : Kq B W w1 := h6.trans (.of_below HB1.out)
      have HK1' := hide hk1
      clear hk1 h2 h3 h4 h5
      by_cases hw0 : wm = 0
      · subst hw0
        have e2 := HONE.out
        rw [hmay, ← HWM.out] at e2
        simp only [if_true] at e2
        have HE2 := hide e2
        clear e2
        refine wpIn_seq ?_
        refine wpIn_seq ?_
        refine round_list rfl (by simp [Exit.then, Exit.inBlock, hO]) ?_
        go_wp2_with (go_at_call 80; refine (isEmpty_any _ _).mono ?_; rintro e w1 ⟨rfl, rfl⟩)
        refine wpIn_seq ?_
        refine round_list rfl (by simp [Exit.then, Exit.inBlock, hO]) ?_
        go_wp2
        refine wpIn_cond_false rfl ?_
        refine wpIn_skip ?_
        simp only [Exit.then]
        refine round_list rfl (by simp [Exit.inBlock, hO]) ?_
        go_wp2_with (go_at_call 81; refine (HWR.out _ HM1.out hB1).mono ?_; rintro e w3 ⟨rfl, cv2, hm3, hk3⟩)
        obtain ⟨f1, f2, f3⟩ := HFIN.out bs w1 w3 cv2 HE2.out (KeepsFrom.refl _ _) HK1'.out g2 g3 g4 g5 hm3 hk3
        exact HN.out _ _ f1 f2 f3
      · have HEM : Hid (∀ w', Calls Tryz.prog 80 #[.int .u8 wm] w' fun e w'' => e = .returned (.bool false) ∧ w'' = w') := fun w' => (isEmpty_any wm w').mono (by rintro e w'' ⟨rfl, rfl⟩; exact ⟨by rw [decide_eq_false hw0], rfl⟩)
        refine wpIn_seq ?_
        refine wpIn_seq ?_
        refine round_list rfl (by simp [Exit.then, Exit.inBlock, hO]) ?_
        go_wp2_with (go_at_call 80; refine (HEM.out _).mono ?_; rintro e w1 ⟨rfl, rfl⟩)
        refine wpIn_seq ?_
        refine round_list rfl (by simp [Exit.then, Exit.inBlock, hO]) ?_
        go_wp2
        refine wpIn_cond_true rfl ?_
        refine wpIn_seq ?_
        refine wpIn_seq ?_
        refine round_list rfl (by simp [Exit.then, Exit.inBlock, hO]) ?_
        by_cases hbs : bs = 0
        · subst hbs
          have e2 := HONE.out
          rw [hmay, ← HWM.out] at e2
          simp only [if_true, if_neg hw0] at e2
          have HE2 := hide e2
          clear e2
          go_wp2
          refine wpIn_cond_true rfl ?_
          refine wpIn_exit ?_
          refine HN.out _ _ (Kq.of_below (B := 0) HB1.out).from (kpa_of (n := w.heap.size) (W0 := w) (Below.refl _ _) HB1.out hwl2 (by omega) HMW.out.lt) ?_
          rw [HSN.out, HE2.out]
          exact ⟨cv', HM1.out, g2, g3, g4, g5, HK1'.out⟩
        · have e2 := HONE.out
          rw [hmay, ← HWM.out] at e2
          simp only [if_true, if_neg hw0, if_neg hbs] at e2
          have HE2 := hide e2
          clear e2
          have hbs' : (bs == 0) = false := by simpa using hbs
          have HBS := hide hbs
          clear hbs
          go_wp2
          refine wpIn_cond_false rfl ?_
          refine wpIn_skip ?_
          simp only [Exit.then]
          refine round_list rfl (by simp [Exit.then, Exit.inBlock, hO]) ?_
          go_wp2
          have HM2 : Hid (MAt (w1.setCell ⟨W.heap.size + 1, 0, none⟩ (.int .i64 (bs - 1))) B { L with cv := cv' } m1) := by
            have hne : ∀ k cs t fr, w1.heap[k]? = some (Obj.cells cs t fr) → t ≠ 3 → (w1.setCell ⟨W.heap.size + 1, 0, none⟩ (.int .i64 (bs - 1))).heap[k]? = some (Obj.cells cs t fr) := fun k cs t fr hk ht => by
              rw [heap_setCell_other _ _ _ _ (fun e => by
                have e' : k = W.heap.size + 1 := e
                have g2' : w1.heap[W.heap.size + 1]? = some (.cells #[.int .i64 bs] 3 (0, 0)) := g2
                rw [e', g2'] at hk
                cases hk
                exact ht rfl)]
              exact hk
            exact ⟨HM1.out.units, HM1.out.lat, HM1.out.regs, HM1.out.base, hne _ _ _ _ HM1.out.blk (by decide), row_far HM1.out.giv _ (row_ne HM1.out.giv g2 (by decide)), row_far HM1.out.chg _ (row_ne HM1.out.chg g2 (by decide)), row_far HM1.out.mem _ (row_ne HM1.out.mem g2 (by decide))⟩
          have a2 := g3.other (b' := W.heap.size + 1) (j := 0) (.int .i64 (bs - 1)) (by omega)
          have a3 := g4.other (b' := W.heap.size + 1) (j := 0) (.int .i64 (bs - 1)) (by omega)
          have a4 := g5.other (b' := W.heap.size + 1) (j := 0) (.int .i64 (bs - 1)) (by omega)
          have a1 := g2.set (.int .i64 (bs - 1))
          have HK2 : Hid (Kq B W (w1.setCell ⟨W.heap.size + 1, 0, none⟩ (.int .i64 (bs - 1)))) := ⟨HK1'.out.os, HK1'.out.tape, HK1'.out.output, by simpa using HK1'.out.size, fun k o hk ho => by
            rw [heap_setCell_other _ _ _ _ (fun e => by have e' : k = W.heap.size + 1 := e; have := (Array.getElem?_eq_some_iff.1 hk).1; omega)]
            exact HK1'.out.block k o hk ho⟩
          have y4 := a2.cell
          refine round_list rfl (by simp [Exit.inBlock, hO]) ?_
          go_wp2_with (go_at_call 81; refine (HWR.out _ HM2.out (by simpa using hB1)).mono ?_; rintro e w3 ⟨rfl, cv2, hm3, hk3⟩)
          obtain ⟨f1, f2, f3⟩ := HFIN.out (bs - 1) _ w3 cv2 HE2.out ((KeepsOthers.setCell _ _ _).from _) HK2.out a1 a2 a3 a4 hm3 hk3
          exact HN.out _ _ f1 f2 f3
  case hdone =>
    rintro D w hD ⟨cv', h1, h2, h3, h4, h5, h6⟩ hK
    exact leave_mark_end (v := .tuple #[]) hK (by simp [results, Tryz.results65, go_sem]) ⟨rfl, cv', mat_mark h1 hK _, kq_mark h6 (by omega) _⟩
  case hstop =>
    rintro D c k' w hD hk' h hK
    exact h.elim

end Go.Proofs.YtmeiogoodbnkkaaGreat
