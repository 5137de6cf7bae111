/- Several texts in one: SE, SF. -/
import Derived.Test.YtmeiogoodbnkkaaGreatCRQRT
import Derived.Test.YtmeiogoodbnkkaaGreatCSB
import Derived.Test.YtmeiogoodbnkkaaGreatCSC
import Derived.Test.YtmeiogoodbnkkaaGreatCRYRU
/- What holds of the machine from cycle to cycle. -/
namespace Go.Proofs.YtmeiogoodbnkkaaGreat
open Go.RowKit

/-- What the writes leave as it was, and what they add. -/
structure Wx (m s : Mc) : Prop where
  units : s.units = m.units
  lat : s.lat = m.lat
  buses : s.buses = m.buses
  shown : s.shown = m.shown
  counts : s.counts = m.counts
  ended : s.ended = m.ended
  next : s.next = m.next
  stop : s.stop = m.stop
  trap : s.trap = m.trap
  steps : s.steps = m.steps
  effc : ∀ (i : Nat) (c : Ch), s.changes[i]? = some c → EffOk s.mem.length c.tgt c.pl

theorem Wx.one {n : Int} {m : Mc} {k : Nat} {s : Int × Mc} (hk : Wk n m k s) (h : Wx m s.2) (i : Nat) : Wx m (writesOne s i).2 := by
  unfold writesOne
  split
  · exact h
  · rename_i t ht
    split
    · rename_i hw
      obtain ⟨h1, h2, h3⟩ := mayW_spec hw
      have he := hk.wf.eff i t ht h1 h2 h3
      have hx : Wx m (writeT i t s.2) := by
        refine ⟨h.units, h.lat, h.buses, h.shown, h.counts, h.ended, ?_, h.stop, h.trap, h.steps, fun j c hc => ?_⟩
        · show putN t.tgt t.val s.2.next = m.next
          have : t.tgt ≠ 3 := by rcases he with ⟨h4, _⟩ | ⟨h4, _⟩ <;> omega
          unfold putN
          rw [if_neg this]
          exact h.next
        · have hc' : (s.2.changes ++ [⟨i, t.tgt, t.pl, oldV t.tgt t.pl t.val s.2.regs s.2.mem s.2.next⟩])[j]? = some c := hc
          have hl : (writeT i t s.2).mem.length = s.2.mem.length := by simp [writeT, putM_len]
          rw [hl]
          rcases Nat.lt_or_ge j s.2.changes.length with hj | hj
          · rw [List.getElem?_append_left hj] at hc'
            exact h.effc j c hc'
          · rw [List.getElem?_append_right hj] at hc'
            have hc2 : c = ⟨i, t.tgt, t.pl, oldV t.tgt t.pl t.val s.2.regs s.2.mem s.2.next⟩ := by
              generalize j - s.2.changes.length = q at hc'
              cases q with
              | zero => simpa using hc'.symm
              | succ q => simp at hc'
            subst hc2
            exact he
      split
      · exact hx
      · split
        · exact h
        · exact hx
    · exact h

theorem Wx.fold {n : Int} {m : Mc} (hw : Wf n m) (hb : 0 ≤ m.buses) (he : ∀ (i : Nat) (c : Ch), m.changes[i]? = some c → EffOk m.mem.length c.tgt c.pl) : Wx m (writesM m) := by
  have key : ∀ (l : List Nat) (k : Nat) (s : Int × Mc), Wk n m k s → Wx m s.2 → Wx m (l.foldl writesOne s).2 := by
    intro l
    induction l with
    | nil => exact fun k s _ h => h
    | cons i l ih => exact fun k s hk h => ih (k + 1) _ (hk.one i) (h.one hk i)
  exact key _ 0 (m.buses, m) ⟨hw, rfl, rfl, rfl, Nat.le_refl _, hb, Int.le_refl _⟩ ⟨rfl, rfl, rfl, rfl, rfl, rfl, rfl, rfl, rfl, rfl, he⟩

/-- The reads turn nothing but the orders' own. -/
theorem reads_given (m : Mc) : ∃ g, readsM m = { m with given := g } := by
  have key : ∀ (l : List Nat) (s : Mc), ∃ g, l.foldl readsOne s = { s with given := g } := by
    intro l
    induction l with
    | nil => exact fun s => ⟨s.given, rfl⟩
    | cons i l ih =>
      intro s
      obtain ⟨g, hg⟩ := ih (readsOne s i)
      rw [List.foldl_cons, hg]
      unfold readsOne
      split
      · exact ⟨_, rfl⟩
      · split
        · exact ⟨_, rfl⟩
        · exact ⟨_, rfl⟩
  exact key _ m

structure Gd (prog : List Ord) (u l : List Int) (b : Int) (ml : Nat) (m : Mc) : Prop where
  units : m.units = u
  lat : m.lat = l
  buses : m.buses = b
  mem : m.mem.length = ml
  ords : Ords prog.length m.given
  ops : ∀ (i : Nat) (t : Tk), m.given[i]? = some t → t.o.op ≠ 0
  eff : ∀ (i : Nat) (t : Tk), m.given[i]? = some t → t.done ≠ 0 → t.trap = 0 → t.write = 0 → EffOk m.mem.length t.tgt t.pl
  jmp : ∀ (i : Nat) (t : Tk), m.given[i]? = some t → t.read = 0 → t.o.op ≠ 8
  num : ∀ (i : Nat) (t : Tk), m.given[i]? = some t → t.number ≤ 1000
  len : m.given.length ≤ m.cycle
  chg : 2 * m.changes.length ≤ m.cycle * m.cycle
  effc : ∀ (i : Nat) (c : Ch), m.changes[i]? = some c → EffOk m.mem.length c.tgt c.pl
  cnt : m.shown = true → m.counts < m.given.length
  next : m.next ≤ prog.length

theorem append_one {α : Type} {l : List α} {x y : α} {i : Nat} (h : (l ++ [x])[i]? = some y) : (i < l.length ∧ l[i]? = some y) ∨ (i = l.length ∧ y = x) := by
  rcases Nat.lt_or_ge i l.length with hi | hi
  · rw [List.getElem?_append_left hi] at h
    exact .inl ⟨hi, h⟩
  · rw [List.getElem?_append_right hi] at h
    generalize hq : i - l.length = q at h
    cases q with
    | zero => exact .inr ⟨by omega, by simpa using h.symm⟩
    | succ q => simp at h

section
variable {prog : List Ord} {u l : List Int} {b : Int} {ml : Nat} {m : Mc}

theorem Gd.wf (h : Gd prog u l b ml m) : Wf prog.length { m with cycle := m.cycle + 1 } :=
  ⟨h.ords, h.ops, h.eff, h.jmp, h.num, by simp⟩

/-- The machine behind a cycle's writes. -/
structure Gw (prog : List Ord) (u l : List Int) (b : Int) (ml c : Nat) (m : Mc) : Prop where
  units : m.units = u
  lat : m.lat = l
  buses : m.buses = b
  mem : m.mem.length = ml
  wf : Wf prog.length m
  cyc : m.cycle = c + 1
  len : m.given.length ≤ c
  chg : 2 * m.changes.length ≤ c * c + 2 * c
  effc : ∀ (i : Nat) (c : Ch), m.changes[i]? = some c → EffOk m.mem.length c.tgt c.pl
  cnt : m.shown = true → m.counts < m.given.length
  next : m.next ≤ prog.length

theorem Gd.writes (h : Gd prog u l b ml m) (hb : 0 ≤ b) : Gw prog u l b ml m.cycle (writesM { m with cycle := m.cycle + 1 }) := by
  have hx := Wx.fold h.wf (by rw [h.buses]; exact hb) h.effc
  have hk := Wk.fold h.wf (by rw [h.buses]; exact hb) (List.range m.given.length)
  refine ⟨hx.units.trans h.units, hx.lat.trans h.lat, hx.buses.trans h.buses, hk.mem.trans h.mem, hk.wf, hk.cyc, ?_, ?_, hx.effc, fun hs => ?_, ?_⟩
  · have h1 : (writesM { m with cycle := m.cycle + 1 }).given.length = m.given.length := hk.len
    rw [h1]; exact h.len
  · have h1 : (writesM { m with cycle := m.cycle + 1 }).changes.length ≤ m.changes.length + (List.range m.given.length).length := hk.chg
    rw [List.length_range] at h1
    have := h.chg
    have := h.len
    omega
  · have h1 : (writesM { m with cycle := m.cycle + 1 }).given.length = m.given.length := hk.len
    rw [h1, hx.counts]
    rw [hx.shown] at hs
    exact h.cnt hs
  · rw [hx.next]; exact h.next

theorem Gw.reads {c : Nat} (h : Gw prog u l b ml c m) : Gw prog u l b ml c (readsM m) := by
  have hr := Rk.fold h.wf (List.range m.given.length)
  obtain ⟨g, hg⟩ := reads_given m
  have hl : (readsM m).given.length = m.given.length := hr.len
  have hwf : Wf prog.length (readsM m) := hr.wf
  rw [hg] at hl hwf ⊢
  exact ⟨h.units, h.lat, h.buses, h.mem, hwf, h.cyc, by rw [hl]; exact h.len, h.chg, h.effc, fun hs => by rw [hl]; exact h.cnt hs, h.next⟩


theorem Gw.gd {c : Nat} (h : Gw prog u l b ml c m) : Gd prog u l b ml m :=
  ⟨h.units, h.lat, h.buses, h.mem, h.wf.ords, h.wf.ops, h.wf.eff, h.wf.jmp, h.wf.num, by rw [h.cyc]; have := h.len; omega, by rw [h.cyc, Nat.add_mul, Nat.mul_add]; have := h.chg; omega, h.effc, h.cnt, h.next⟩

theorem Gw.add {c : Nat} (h : Gw prog u l b ml c m) (t : Tk) (nx : Nat) (ho : isOrd t.o prog.length = true) (hop : t.o.op ≠ 0) (hd : t.done ≠ 0 → t.trap = 0 → t.write ≠ 0) (hj : t.read = 0 → t.o.op ≠ 8) (hn : t.number ≤ 1000) (hnx : nx ≤ prog.length) :
    Gd prog u l b ml { m with given := m.given ++ [t], next := nx } := by
  refine ⟨h.units, h.lat, h.buses, h.mem, fun i x hx => ?_, fun i x hx => ?_, fun i x hx => ?_, fun i x hx => ?_, fun i x hx => ?_, ?_, ?_, h.effc, fun hs => ?_, hnx⟩
  · rcases append_one hx with ⟨_, hx⟩ | ⟨_, rfl⟩
    · exact h.wf.ords i x hx
    · exact ho
  · rcases append_one hx with ⟨_, hx⟩ | ⟨_, rfl⟩
    · exact h.wf.ops i x hx
    · exact hop
  · rcases append_one hx with ⟨_, hx⟩ | ⟨_, rfl⟩
    · exact h.wf.eff i x hx
    · exact fun h1 h2 h3 => absurd h3 (hd h1 h2)
  · rcases append_one hx with ⟨_, hx⟩ | ⟨_, rfl⟩
    · exact h.wf.jmp i x hx
    · exact hj
  · rcases append_one hx with ⟨_, hx⟩ | ⟨_, rfl⟩
    · exact h.wf.num i x hx
    · exact hn
  · simp only [List.length_append, List.length_cons, List.length_nil]; have := h.len; have := h.cyc; omega
  · show 2 * m.changes.length ≤ m.cycle * m.cycle
    rw [h.cyc, Nat.add_mul, Nat.mul_add]; have := h.chg; omega
  · simp only [List.length_append, List.length_cons, List.length_nil]; have := h.cnt hs; omega

theorem next_lt {prog : List Ord} {n : Nat} (h : (prog.getD n Ord.none).op ≠ 0) : n < prog.length := by
  rcases Nat.lt_or_ge n prog.length with h' | h'
  · exact h'
  · exact absurd (by simp [List.getD_eq_getElem?_getD, List.getElem?_eq_none h', Ord.none]) h

theorem Gw.issue {c : Nat} (h : Gw prog u l b ml c m) (hp : isProg prog = true) : Gd prog u l b ml (issueM prog m) := by
  obtain ⟨⟨_, h40⟩, hall⟩ := isProg_spec hp
  have hnx := h.next
  have hcy := h.wf.cyc
  cases he : (m.ended || m.shown) with
  | true => rw [issueM_stop he]; exact h.gd
  | false =>
    by_cases h0 : (prog.getD m.next Ord.none).op = 0
    · rw [issueM_end he h0]
      have g := h.gd
      exact ⟨g.units, g.lat, g.buses, g.mem, g.ords, g.ops, g.eff, g.jmp, g.num, g.len, g.chg, g.effc, g.cnt, g.next⟩
    · have hlt := next_lt h0
      have hord := hall m.next hlt
      have hsp := isOrd_spec hord
      by_cases h8 : (prog.getD m.next Ord.none).op = 8
      · rw [issueM_jump he h8]
        unfold jumpM
        split
        · exact h.gd
        · refine h.add _ _ hord h0 (fun _ _ => hcy) (fun hr => absurd hr hcy) (by simp only; omega) ?_
          have := hsp.2.2.2.2.2.2.2.2 h8
          split <;> omega
      · rw [issueM_unit he h0 h8]
        unfold unitM
        split
        · exact h.gd
        · exact h.add _ _ hord h0 (fun h1 => absurd rfl h1) (fun _ => h8) (by simp only; omega) (by omega)

theorem Gd.show (h : Gd prog u l b ml m) : Gd prog u l b ml (showM m) := by
  unfold showM
  split
  · exact h
  · rename_i i hi
    refine ⟨h.units, h.lat, h.buses, h.mem, h.ords, h.ops, h.eff, h.jmp, h.num, h.len, h.chg, h.effc, fun _ => ?_, h.next⟩
    have := List.mem_of_find?_eq_some hi
    simpa using this

theorem Gd.cycle (h : Gd prog u l b ml m) (hb : 0 ≤ b) (hp : isProg prog = true) : Gd prog u l b ml (cycleM prog m) :=
  ((h.writes hb).reads.issue hp).show

theorem show_cycle (m : Mc) : (showM m).cycle = m.cycle := by unfold showM; split <;> rfl
theorem issue_cycle (prog : List Ord) (m : Mc) : (issueM prog m).cycle = m.cycle := by
  unfold issueM
  split
  · rfl
  · simp only
    split
    · rfl
    · split
      · split <;> rfl
      · split <;> rfl
theorem reads_cycle (m : Mc) : (readsM m).cycle = m.cycle := by obtain ⟨g, hg⟩ := reads_given m; rw [hg]
theorem Gd.cycle_cycle (h : Gd prog u l b ml m) (hb : 0 ≤ b) : (cycleM prog m).cycle = m.cycle + 1 := by
  unfold cycleM
  rw [show_cycle, issue_cycle, reads_cycle]
  exact (h.writes hb).cyc

theorem stop_same {m : Mc} {steps : Nat} (hs : (stopM steps m).1 = false) : (stopM steps m).2 = m := by
  unfold stopM at hs ⊢
  split
  · rename_i h1; rw [if_pos h1] at hs; cases hs
  · rename_i h1
    rw [if_neg h1] at hs
    split
    · rename_i h2; rw [if_pos h2] at hs; cases hs
    · rename_i h2
      rw [if_neg h2] at hs
      split
      · rename_i h3; rw [if_pos h3] at hs; cases hs
      · rfl
end

theorem stop_at {steps : Nat} {m : Mc} (h : m.cycle = steps) : (stopM steps m).1 = true := by
  unfold stopM
  split
  · rfl
  · split
    · rfl
    · rfl

theorem Gd.start (prog : List Ord) (u l : List Int) (b : Int) (mem : List Int) : Gd prog u l b mem.length (startM u l b mem) :=
  ⟨rfl, rfl, rfl, rfl, fun i t h => by simp [startM] at h, fun i t h => by simp [startM] at h, fun i t h => by simp [startM] at h, fun i t h => by simp [startM] at h, fun i t h => by simp [startM] at h, by simp [startM], by simp [startM], fun i t h => by simp [startM] at h, fun h => by simp [startM] at h, by simp [startM]⟩

end Go.Proofs.YtmeiogoodbnkkaaGreat

/- A cycle goes by. -/
namespace Go.Proofs.YtmeiogoodbnkkaaGreat
open Go.RowKit

set_option maxRecDepth 10000 in
set_option maxHeartbeats 4000000 in
theorem oneCycle_any (W : World) (B : Nat) (L : Lo) (m : Mc) (prog : List Ord) (p : Option Addr) (c : Nat) (u l : List Int) (b : Int) (ml : Nat) (hm : MAt W B L m) (hg : Gd prog u l b ml m) (hpv : L.pv = .slice p prog.length c) (hp : ∀ w, Kq B W w → RdO w p prog) (hprog : isProg prog = true)
    (hu : ∀ i, i < 4 → 0 ≤ u.getD i 0 ∧ u.getD i 0 ≤ 1000) (hl : ∀ j, j < 4 → 0 ≤ l.getD j 0 ∧ l.getD j 0 ≤ 1000) (hb : 0 ≤ b ∧ b ≤ 1000) (hcy : m.cycle ≤ 400) (hB : B ≤ W.heap.size) :
    Calls Tryz.prog 48 #[.pointer (some ⟨L.M, 0, none⟩)] W fun e w' => e = .returned (.tuple #[]) ∧
      ∃ gv cv, MAt w' B { L with gv := gv, cv := cv } (cycleM prog m) ∧ Kq B W w' := by
  obtain ⟨⟨_, h40⟩, _⟩ := isProg_spec hprog
  have hcc : m.cycle * m.cycle ≤ 160000 := Nat.le_trans (Nat.mul_le_mul hcy hcy) (by decide)
  have hch := hg.chg
  have hln := hg.len
  have gw := hg.writes hb.1
  have gr := gw.reads
  have gi := gr.issue hprog
  have HM := hide hm
  have HP := hide hp
  have HPV := hide hpv
  have HU := hide hu
  have HL := hide hl
  have HGW := hide gw
  have HGR := hide gr
  have HGI := hide gi
  have HGD := hide hg
  have c1 := hm.cCycle
  have c2 := hm.frozen 23
  clear hm hg hp hpv hu hl gw gr gi
  have hx0 : (0 : Int) ≤ (m.cycle : Int) := by omega
  have hx1 : (m.cycle : Int) ≤ 400 := by omega
  obtain ⟨W1, hW1⟩ : ∃ W1, W.setCell ⟨L.M, 23, none⟩ (.int .i64 ((m.cycle : Int) + 1)) = W1 := ⟨_, rfl⟩
  have HM1 : Hid (MAt W1 B L { m with cycle := m.cycle + 1 }) := by rw [← hW1]; exact HM.out.setCycle (m.cycle + 1)
  have HK1 : Hid (Kq B W W1) := by rw [← hW1]; exact HM.out.kqM _ _
  have HWR : Hid (Calls Tryz.prog 65 #[.pointer (some ⟨L.M, 0, none⟩)] W1 fun e w' => e = .returned (.tuple #[]) ∧ ∃ cv', MAt w' B { L with cv := cv' } (writesM { m with cycle := m.cycle + 1 }) ∧ Kq B W1 w') :=
    writes_any W1 B L _ prog.length HM1.out HGD.out.wf (by simp only; omega) (by simp only; omega) (by simp only [HGD.out.buses]; exact hb.1) (by simp only [HGD.out.buses]; exact hb.2) (Nat.le_trans hB HK1.out.size)
  have HRD : Hid (∀ w cv', MAt w B { L with cv := cv' } (writesM { m with cycle := m.cycle + 1 }) → Calls Tryz.prog 66 #[.pointer (some ⟨L.M, 0, none⟩)] w fun e w' => e = .returned (.tuple #[]) ∧ MAt w' B { L with cv := cv' } (readsM (writesM { m with cycle := m.cycle + 1 })) ∧ Kq B w w') := fun w cv' h =>
    reads_any w B { L with cv := cv' } _ prog.length h HGW.out.wf (by have := HGW.out.len; omega) (by rw [HGW.out.lat]; exact HL.out) (by rw [HGW.out.cyc]; omega)
  have HIS : Hid (∀ w cv', MAt w B { L with cv := cv' } (readsM (writesM { m with cycle := m.cycle + 1 })) → Kq B W w → Calls Tryz.prog 67 #[.pointer (some ⟨L.M, 0, none⟩)] w fun e w' => e = .returned (.tuple #[]) ∧ ∃ gv', MAt w' B { L with cv := cv', gv := gv' } (issueM prog (readsM (writesM { m with cycle := m.cycle + 1 }))) ∧ Kq B w w') := fun w cv' h hk =>
    issue_any w B { L with cv := cv' } _ prog p c h HPV.out (HP.out w hk) hprog HGR.out.wf.ords (by have := HGR.out.len; omega) (by rw [HGR.out.units]; exact HU.out) (by have := HGR.out.next; omega) (Nat.le_trans hB hk.size)
  have HSH : Hid (∀ w gv' cv', MAt w B { L with cv := cv', gv := gv' } (issueM prog (readsM (writesM { m with cycle := m.cycle + 1 }))) → Calls Tryz.prog 68 #[.pointer (some ⟨L.M, 0, none⟩)] w fun e w' => e = .returned (.tuple #[]) ∧ MAt w' B { L with cv := cv', gv := gv' } (showM (issueM prog (readsM (writesM { m with cycle := m.cycle + 1 })))) ∧ Kq B w w') := fun w gv' cv' h =>
    show_any w B { L with cv := cv', gv := gv' } _ h (by have := HGI.out.len; rw [issue_cycle, reads_cycle, HGW.out.cyc] at this; omega)
  have HCY : Hid (cycleM prog m = showM (issueM prog (readsM (writesM { m with cycle := m.cycle + 1 })))) := rfl
  generalize writesM { m with cycle := m.cycle + 1 } = m2 at *
  generalize readsM m2 = m3 at *
  generalize issueM prog m3 = m4 at *
  generalize showM m4 = m5 at *
  generalize cycleM prog m = m6 at *
  have HW1 := hide hW1
  clear hW1
  go_enter Tryz.func48, Tryz.ntmps48
  go_wp2_with (first
    | (go_at_call 65; rw [HW1.out]; refine HWR.out.mono ?_; rintro e w2 ⟨rfl, cv', hm2, hk2⟩; have HM2 := hide hm2; have HK2 : Hid (Kq B W w2) := HK1.out.trans hk2; clear hm2 hk2)
    | (go_at_call 66; refine (HRD.out _ _ HM2.out).mono ?_; rintro e w3 ⟨rfl, hm3, hk3⟩; have HM3 := hide hm3; have HK3 : Hid (Kq B W w3) := HK2.out.trans hk3; clear hm3 hk3)
    | (go_at_call 67; refine (HIS.out _ _ HM3.out HK3.out).mono ?_; rintro e w4 ⟨rfl, gv', hm4, hk4⟩; have HM4 := hide hm4; have HK4 : Hid (Kq B W w4) := HK3.out.trans hk4; clear hm4 hk4)
    | (go_at_call 68; refine (HSH.out _ _ _ HM4.out).mono ?_; rintro e w5 ⟨rfl, hm5, hk5⟩))
  go_end0
  exact ⟨rfl, gv', cv', by rw [HCY.out]; exact hm5, HK4.out.trans hk5⟩

end Go.Proofs.YtmeiogoodbnkkaaGreat
