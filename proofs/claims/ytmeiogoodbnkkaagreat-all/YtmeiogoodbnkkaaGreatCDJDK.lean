/- Several texts in one: DJ, DK. -/
import Derived.Test.YtmeiogoodbnkkaaGreatCDI
/- The statement's own walk: Runs. -/
namespace Go.Proofs.YtmeiogoodbnkkaaGreat
open Go.RowKit

theorem Under.safe {w : World} {bb B B' : Nat} {p : Option Addr} (h : Under p B) (hB : B ≤ B') (hw : B ≤ w.heap.size) : Safe w B' bb p := fun a ha => ⟨Nat.lt_of_lt_of_le (h a ha) hw, .inl (Nat.lt_of_lt_of_le (h a ha) hB)⟩

set_option maxRecDepth 100000 in
set_option maxHeartbeats 4000000 in
theorem runs_law (u0 u1 u2 u3 l0 l1 l2 l3 b : Int) (p pm : Option Addr) (c cm : Nat) (prog : List Ord) (mem : List Int) (steps : Int) (w : World) (hp : RdO w p prog) (hm : Rd w pm mem) (hpB : Under p w.heap.size) (hmB : Under pm w.heap.size) (hl1 : prog.length * 40 ≤ 140737488351232) (hl2 : mem.length * 8 ≤ 140737488351232) :
    Calls Tryz.prog 4 #[.agg #[.int .i64 u0, .int .i64 u1, .int .i64 u2, .int .i64 u3, .int .i64 l0, .int .i64 l1, .int .i64 l2, .int .i64 l3, .int .i64 b], .slice p prog.length c, .slice pm mem.length cm, .int .i64 steps] w fun e w' => e = .returned (.bool true) ∧ Below w.heap.size w w' := by
  have HP := hide hp
  have HM := hide hm
  have HPB := hide hpB
  have HMB := hide hmB
  clear hp hm hpB hmB
  have hnew : Bkk ((w.alloc (.cells #[.int .i64 u0, .int .i64 u1, .int .i64 u2, .int .i64 u3, .int .i64 l0, .int .i64 l1, .int .i64 l2, .int .i64 l3, .int .i64 b] 32)).alloc (.cells #[.slice none 0 0, .slice none 0 0, .slice none 0 0, .slice none 0 0, .slice none 0 0, .slice none 0 0] 28)) (w.heap.size + 1) (w.heap.size + 1) 0 := by
    simpa using Bkk.new (w.alloc (.cells #[.int .i64 u0, .int .i64 u1, .int .i64 u2, .int .i64 u3, .int .i64 l0, .int .i64 l1, .int .i64 l2, .int .i64 l3, .int .i64 b] 32))
  have HN := hide hnew
  have hbel : Below w.heap.size w ((w.alloc (.cells #[.int .i64 u0, .int .i64 u1, .int .i64 u2, .int .i64 u3, .int .i64 l0, .int .i64 l1, .int .i64 l2, .int .i64 l3, .int .i64 b] 32)).alloc (.cells #[.slice none 0 0, .slice none 0 0, .slice none 0 0, .slice none 0 0, .slice none 0 0, .slice none 0 0] 28)) := ((Below.refl _ _).alloc (Nat.le_refl _) _).alloc (by simp) _
  have HL := hide hbel
  clear hnew hbel
  go_enter Tryz.func4, Tryz.ntmps4
  go_wp2_with fail
  refine (oneQ2 (w.heap.size + 1) (w.heap.size + 1) 0 _ _ _ _ _ _ _ _ _ _ _ _ _ _ _ _ _ HN.out (by omega) (HP.out.below (Nat.le_refl _) HL.out) (HM.out.below (Nat.le_refl _) HL.out) (fun _ => HPB.out.safe (by omega) (by simp; omega)) (fun _ => HMB.out.safe (by omega) (by simp; omega)) hl1 hl2).mono ?_
  rintro e w1 ⟨rfl, hb1, hk1⟩
  have B1 : Hid (Below w.heap.size w w1) := HL.out.trans (hb1.mono (by omega))
  have BK := hide hk1
  clear hb1 hk1
  go_wp2_with fail
  refine (settlesK (w.heap.size + 1) (w.heap.size + 1) 1 _ BK.out (by omega)).mono ?_
  rintro e w2 ⟨rfl, hb2⟩
  go_wp2
  go_ret
  exact ⟨rfl, B1.out.trans (hb2.mono (by omega))⟩

end Go.Proofs.YtmeiogoodbnkkaaGreat

/- The statement's own walk: All. -/
namespace Go.Proofs.YtmeiogoodbnkkaaGreat
open Go.RowKit

/-- A call, as it is handed in. -/
structure Cll where
  kd : Int
  u0 : Int
  u1 : Int
  u2 : Int
  u3 : Int
  l0 : Int
  l1 : Int
  l2 : Int
  l3 : Int
  b : Int
  p : Option Addr
  c : Nat
  prog : List Ord
  pm : Option Addr
  cm : Nat
  mem : List Int
  steps : Int

def clC (x : Cll) : List Value := [.int .i64 x.kd, .int .i64 x.u0, .int .i64 x.u1, .int .i64 x.u2, .int .i64 x.u3, .int .i64 x.l0, .int .i64 x.l1, .int .i64 x.l2, .int .i64 x.l3, .int .i64 x.b, .slice x.p x.prog.length x.c, .slice x.pm x.mem.length x.cm, .int .i64 x.steps]

/-- A list of calls reads so. -/
def RdC (w : World) (p : Option Addr) (l : List Cll) : Prop := l = [] ∨ ∃ b off, p = some ⟨b, off, none⟩ ∧ b < w.heap.size ∧ ∀ (i : Nat) (x : Cll), l[i]? = some x → ∀ j, j < 13 → w.cell? ⟨b, off + i * 13 + j, none⟩ = (clC x)[j]?

/-- A call's own lists. -/
structure OkC (w : World) (x : Cll) : Prop where
  p : RdO w x.p x.prog
  m : Rd w x.pm x.mem
  up : x.prog ≠ [] → Under x.p w.heap.size
  um : x.mem ≠ [] → Under x.pm w.heap.size
  lp : x.prog.length * 40 ≤ 140737488351232
  lm : x.mem.length * 8 ≤ 140737488351232

theorem Bkk.grow {w w2 : World} {B bb n : Nat} (h : Bkk w B bb n) (hg : w.grownBy w2 none) : Bkk w2 B bb n := by
  obtain ⟨q, r, wv, aw, ew, ms, ys, tv, at', et, ts, zs, hq, hr, hb, hty, htz, h5, hqn, hrn⟩ := h
  exact ⟨q, r, wv, aw, ew, ms, ys, tv, at', et, ts, zs, hq, hr, hb.grow hg, hty, htz, h5, hqn, hrn⟩

set_option maxRecDepth 100000 in
set_option maxHeartbeats 4000000 in
theorem all_law (p : Option Addr) (c : Nat) (l : List Cll) (w : World) (hr : RdC w p l) (hx : ∀ x ∈ l, OkC w x) (hl : l.length * 136 ≤ 140737488351232) :
    Calls Tryz.prog 5 #[.slice p l.length c] w fun e w' => e = .returned (.bool true) ∧ Below w.heap.size w w' := by
  have HR := hide hr
  have HX := hide hx
  clear hr hx
  have hnew := Bkk.new w
  obtain ⟨w1, hw1⟩ : ∃ w1, w.alloc (.cells #[.slice none 0 0, .slice none 0 0, .slice none 0 0, .slice none 0 0, .slice none 0 0, .slice none 0 0] 28) = w1 := ⟨_, rfl⟩
  have hz1 : w1.heap.size = w.heap.size + 1 := by rw [← hw1]; simp
  have hL1 : Below w.heap.size w w1 := by rw [← hw1]; exact (Below.refl _ _).alloc (Nat.le_refl _) _
  rw [hw1] at hnew
  have HN := hide hnew
  have HL1 := hide hL1
  have HW1 := hide hw1
  clear hnew hL1 hw1
  go_enter Tryz.func5, Tryz.ntmps5
  go_upto_region 2 with fail
  rw [HW1.out]
  go_wp2_with fail
  have hgA := World.grownBy_alloc w1 (.cells #[.int .i64 1, .int .i64 1, .int .i64 0, .int .i64 0, .int .i64 7] 40) none
  have hgC := World.grownBy_alloc (w1.alloc (.cells #[.int .i64 1, .int .i64 1, .int .i64 0, .int .i64 0, .int .i64 7] 40)) (.cells #[.int .i64 5] 2) none
  have hA : ((w1.alloc (.cells #[.int .i64 1, .int .i64 1, .int .i64 0, .int .i64 0, .int .i64 7] 40)).alloc (.cells #[.int .i64 5] 2)).heap[w.heap.size + 1]? = some (.cells #[.int .i64 1, .int .i64 1, .int .i64 0, .int .i64 0, .int .i64 7] 40 (0, 0)) := by
    have h9 := heap_alloc_new w1 (.cells #[.int .i64 1, .int .i64 1, .int .i64 0, .int .i64 0, .int .i64 7] 40)
    rw [hz1] at h9
    exact grow_same hgC h9
  have hC : ((w1.alloc (.cells #[.int .i64 1, .int .i64 1, .int .i64 0, .int .i64 0, .int .i64 7] 40)).alloc (.cells #[.int .i64 5] 2)).heap[w.heap.size + 1 + 1]? = some (.cells #[.int .i64 5] 2 (0, 0)) := by
    have h9 := heap_alloc_new (w1.alloc (.cells #[.int .i64 1, .int .i64 1, .int .i64 0, .int .i64 0, .int .i64 7] 40)) (.cells #[.int .i64 5] 2)
    have e9 : (w1.alloc (.cells #[.int .i64 1, .int .i64 1, .int .i64 0, .int .i64 0, .int .i64 7] 40)).heap.size = w.heap.size + 1 + 1 := by simp [hz1]
    rw [e9] at h9
    exact h9
  have hrO : RdO ((w1.alloc (.cells #[.int .i64 1, .int .i64 1, .int .i64 0, .int .i64 0, .int .i64 7] 40)).alloc (.cells #[.int .i64 5] 2)) (some ⟨w.heap.size + 1, 0, none⟩) [(⟨1, 1, 0, 0, 7⟩ : Ord)] := by
    refine .inr ⟨_, 0, rfl, lt_of_blk hA, fun i hi => ?_⟩
    have : i = 0 := by simp at hi; omega
    subst this
    exact ⟨cell_of_row _ _ 0 _ _ _ hA, cell_of_row _ _ 1 _ _ _ hA, cell_of_row _ _ 2 _ _ _ hA, cell_of_row _ _ 3 _ _ _ hA, cell_of_row _ _ 4 _ _ _ hA⟩
  have hrC : Rd ((w1.alloc (.cells #[.int .i64 1, .int .i64 1, .int .i64 0, .int .i64 0, .int .i64 7] 40)).alloc (.cells #[.int .i64 5] 2)) (some ⟨w.heap.size + 1 + 1, 0, none⟩) [(5 : Int)] := by
    refine .inr ⟨_, 0, rfl, lt_of_blk hC, fun i hi => ?_⟩
    have : i = 0 := by simp at hi; omega
    subst this
    exact cell_of_row _ _ 0 _ _ _ hC
  have hsO : Safe ((w1.alloc (.cells #[.int .i64 1, .int .i64 1, .int .i64 0, .int .i64 0, .int .i64 7] 40)).alloc (.cells #[.int .i64 5] 2)) w.heap.size w.heap.size (some ⟨w.heap.size + 1, 0, none⟩) := by
    intro a ha
    cases ha
    refine ⟨lt_of_blk hA, .inr ⟨by show w.heap.size + 1 ≠ w.heap.size; omega, fun cur fr h => ?_, fun cur fr h => ?_⟩⟩
    · simp only at h; rw [hA] at h; simp only [Option.some.injEq, Obj.cells.injEq] at h; exact absurd h.2.1 (by decide)
    · simp only at h; rw [hA] at h; simp only [Option.some.injEq, Obj.cells.injEq] at h; exact absurd h.2.1 (by decide)
  have hsC : Safe ((w1.alloc (.cells #[.int .i64 1, .int .i64 1, .int .i64 0, .int .i64 0, .int .i64 7] 40)).alloc (.cells #[.int .i64 5] 2)) w.heap.size w.heap.size (some ⟨w.heap.size + 1 + 1, 0, none⟩) := by
    intro a ha
    cases ha
    refine ⟨lt_of_blk hC, .inr ⟨by show w.heap.size + 1 + 1 ≠ w.heap.size; omega, fun cur fr h => ?_, fun cur fr h => ?_⟩⟩
    · simp only at h; rw [hC] at h; simp only [Option.some.injEq, Obj.cells.injEq] at h; exact absurd h.2.1 (by decide)
    · simp only at h; rw [hC] at h; simp only [Option.some.injEq, Obj.cells.injEq] at h; exact absurd h.2.1 (by decide)
  refine (oneQ w.heap.size w.heap.size 0 _ _ _ _ _ _ _ _ _ _ _ _ _ _ [(⟨1, 1, 0, 0, 7⟩ : Ord)] [(5 : Int)] _ _ ((HN.out.grow hgA).grow hgC) (by omega) hrO hrC (fun _ => hsO) (fun _ => hsC) (by simp) (by simp)).mono ?_
  rintro e w2 ⟨rfl, hb2, hk2⟩
  have HL2 : Hid (Below w.heap.size w w2) := ((HL1.out.alloc (by omega) _).alloc (by simp; omega) _).trans hb2
  have HK2 := hide hk2
  clear hb2 hk2 hgA hgC hA hC hrO hrC hsO hsC HN HL1 HW1 hz1
  go_wp2_with fail
  go_loopg [5, 6] l.length (fun gq s5 _ wr => ∃ k : Nat, k ≤ l.length ∧ gq = l.length - k ∧ s5 = .int .i64 k ∧ Below w.heap.size w wr ∧ Bkk wr w.heap.size w.heap.size (k + 1))
  case atStart => exact ⟨0, Nat.zero_le _, rfl, rfl, HL2.out, HK2.out⟩
  case round =>
    obtain ⟨k, hk, hgk, rfl, hL, hK⟩ := hrel
    rename World => wr
    rcases Nat.lt_or_ge k l.length with hlt | hge
    · obtain ⟨x, hxk⟩ : ∃ x, l[k]? = some x := ⟨_, List.getElem?_eq_getElem hlt⟩
      have ok := HX.out x (List.mem_of_getElem? hxk)
      rcases HR.out with h | ⟨b, off, rfl, hb, hc⟩
      · rw [h] at hlt; simp at hlt
      have hcw : ∀ o, wr.cell? ⟨b, o, none⟩ = w.cell? ⟨b, o, none⟩ := fun o => hL.cell (p := ⟨b, o, none⟩) hb
      have y0 : wr.cell? ⟨b, off + k * 13, none⟩ = some (.int .i64 x.kd) := (hcw _).trans (hc k x hxk 0 (by omega))
      have y1 : wr.cell? ⟨b, off + k * 13 + 1, none⟩ = some (.int .i64 x.u0) := (hcw _).trans (hc k x hxk 1 (by omega))
      have y2 : wr.cell? ⟨b, off + k * 13 + 2, none⟩ = some (.int .i64 x.u1) := (hcw _).trans (hc k x hxk 2 (by omega))
      have y3 : wr.cell? ⟨b, off + k * 13 + 3, none⟩ = some (.int .i64 x.u2) := (hcw _).trans (hc k x hxk 3 (by omega))
      have y4 : wr.cell? ⟨b, off + k * 13 + 4, none⟩ = some (.int .i64 x.u3) := (hcw _).trans (hc k x hxk 4 (by omega))
      have y5 : wr.cell? ⟨b, off + k * 13 + 5, none⟩ = some (.int .i64 x.l0) := (hcw _).trans (hc k x hxk 5 (by omega))
      have y6 : wr.cell? ⟨b, off + k * 13 + 6, none⟩ = some (.int .i64 x.l1) := (hcw _).trans (hc k x hxk 6 (by omega))
      have y7 : wr.cell? ⟨b, off + k * 13 + 7, none⟩ = some (.int .i64 x.l2) := (hcw _).trans (hc k x hxk 7 (by omega))
      have y8 : wr.cell? ⟨b, off + k * 13 + 8, none⟩ = some (.int .i64 x.l3) := (hcw _).trans (hc k x hxk 8 (by omega))
      have y9 : wr.cell? ⟨b, off + k * 13 + 9, none⟩ = some (.int .i64 x.b) := (hcw _).trans (hc k x hxk 9 (by omega))
      have y10 : wr.cell? ⟨b, off + k * 13 + 10, none⟩ = some (.slice x.p x.prog.length x.c) := (hcw _).trans (hc k x hxk 10 (by omega))
      have y11 : wr.cell? ⟨b, off + k * 13 + 11, none⟩ = some (.slice x.pm x.mem.length x.cm) := (hcw _).trans (hc k x hxk 11 (by omega))
      have y12 : wr.cell? ⟨b, off + k * 13 + 12, none⟩ = some (.int .i64 x.steps) := (hcw _).trans (hc k x hxk 12 (by omega))
      have hkI : (k : Int) < (l.length : Int) := by omega
      have same : ∀ {q : Option Addr}, Under q w.heap.size → ∀ a, q = some a → wr.heap[a.block]? = w.heap[a.block]? := fun hu a ha => hL.block _ (hu a ha)
      have HPo := hide (ok.p.same (fun hn => same (ok.up hn)) hL.size)
      have HPm := hide (ok.m.same (fun hn => same (ok.um hn)) hL.size)
      have HSo : Hid (x.prog ≠ [] → Safe wr w.heap.size w.heap.size x.p) := fun hn => (ok.up hn).safe (Nat.le_refl _) hL.size
      have HSm : Hid (x.mem ≠ [] → Safe wr w.heap.size w.heap.size x.pm) := fun hn => (ok.um hn).safe (Nat.le_refl _) hL.size
      have hlp := ok.lp
      have hlm := ok.lm
      have HL := hide hL
      have HK := hide hK
      have HGK := hide hgk
      clear hL hK hgk hcw hc same ok hxk HX
      go_wp2_with fail
      refine (oneQ w.heap.size w.heap.size (k + 1) _ _ _ _ _ _ _ _ _ _ _ _ _ _ _ _ _ _ HK.out (by omega) HPo.out HPm.out HSo.out HSm.out hlp hlm).mono ?_
      rintro e w3 ⟨rfl, hb3, hk3⟩
      have HL3 : Hid (Below w.heap.size w w3) := HL.out.trans hb3
      have HK3 := hide hk3
      clear hb3 hk3
      go_wp2_with fail
      have hgk := HGK.out
      go_roundg (l.length - (k + 1))
      case measure => omega
      case rel => exact ⟨k + 1, by omega, rfl, by go_num, HL3.out, HK3.out⟩
    · have hkl : k = l.length := by omega
      subst hkl
      have hend : ¬ (l.length : Int) < (l.length : Int) := by omega
      have HL := hide hL
      have HK := hide hK
      clear hL hK hgk hk hge
      go_wp2_with fail
      refine (settlesK w.heap.size w.heap.size (l.length + 1) _ HK.out (by omega)).mono ?_
      rintro e w3 ⟨rfl, hb3⟩
      go_wp2
      go_ret
      exact ⟨rfl, HL.out.trans hb3⟩

end Go.Proofs.YtmeiogoodbnkkaaGreat
