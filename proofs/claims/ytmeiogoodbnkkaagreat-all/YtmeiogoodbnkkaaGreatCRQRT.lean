/- Several texts in one: RQ, RT. -/
import Derived.Test.YtmeiogoodbnkkaaGreatCRORS
import Derived.Test.YtmeiogoodbnkkaaGreatCIR
import Derived.Test.YtmeiogoodbnkkaaGreatCRFRJ
/- An order reads. -/
namespace Go.Proofs.YtmeiogoodbnkkaaGreat
open Go.RowKit

/-- The order and its number, in memory. -/
structure Sro (G o : Nat) (t : Tk) (w : World) : Prop where
  c0 : w.cell? ⟨G, o, none⟩ = some (.int .i64 t.o.op)
  c1 : w.cell? ⟨G, o + 1, none⟩ = some (.int .i64 t.o.d)
  c2 : w.cell? ⟨G, o + 2, none⟩ = some (.int .i64 t.o.a)
  c3 : w.cell? ⟨G, o + 3, none⟩ = some (.int .i64 t.o.b)
  c4 : w.cell? ⟨G, o + 4, none⟩ = some (.int .i64 t.o.k)
  c8 : w.cell? ⟨G, o + 8, none⟩ = some (.int .i64 t.number)

theorem MAt.sro {W : World} {B : Nat} {L : Lo} {m : Mc} {G cap i : Nat} {t t' : Tk} (h : MAt W B L m) (hgv : L.gv = .slice (some ⟨G, 0, none⟩) m.given.length cap) (ht : m.given[i]? = some t') (ho : t'.o = t.o) (hn : t'.number = t.number) : Sro G (i * 17) t W := by
  refine ⟨?_, ?_, ?_, ?_, ?_, ?_⟩
  · rw [← ho]; exact h.tk hgv ht (j := 0) (by omega)
  · rw [← ho]; exact h.tk hgv ht (j := 1) (by omega)
  · rw [← ho]; exact h.tk hgv ht (j := 2) (by omega)
  · rw [← ho]; exact h.tk hgv ht (j := 3) (by omega)
  · rw [← ho]; exact h.tk hgv ht (j := 4) (by omega)
  · rw [← hn]; exact h.tk hgv ht (j := 8) (by omega)
theorem off_ne {G x y : Nat} (h : x ≠ y) : (⟨G, x, none⟩ : Addr) ≠ ⟨G, y, none⟩ := fun e => h (by cases e; rfl)
theorem Sro.set {G o : Nat} {t : Tk} {w : World} (h : Sro G o t w) {k : Nat} (hk : 9 ≤ k) (v : Value) : Sro G o t (w.setCell ⟨G, o + k, none⟩ v) :=
  ⟨(World.cell?_setCell_other _ _ _ _ (off_ne (by omega))).trans h.c0, (World.cell?_setCell_other _ _ _ _ (off_ne (by omega))).trans h.c1, (World.cell?_setCell_other _ _ _ _ (off_ne (by omega))).trans h.c2,
   (World.cell?_setCell_other _ _ _ _ (off_ne (by omega))).trans h.c3, (World.cell?_setCell_other _ _ _ _ (off_ne (by omega))).trans h.c4, (World.cell?_setCell_other _ _ _ _ (off_ne (by omega))).trans h.c8⟩

theorem kind_range {o : Ord} {n : Int} (h : isOrd o n = true) (h0 : o.op ≠ 0) (h8 : o.op ≠ 8) : 0 ≤ kindOf o.op ∧ kindOf o.op < 4 := by
  obtain ⟨h1, h2, _⟩ := isOrd_spec h
  unfold kindOf
  repeat split
  all_goals omega

theorem read_fin {w : World} {B : Nat} {L : Lo} {m : Mc} {G cap i : Nat} {t : Tk} (h : MAt w B L m) (hgv : L.gv = .slice (some ⟨G, 0, none⟩) m.given.length cap) (ht : m.given[i]? = some t) (q : Int × Int × Int × Int) :
    MAt ((((w.setCell ⟨G, i * 17 + 13, none⟩ (.int .i64 q.1)).setCell ⟨G, i * 17 + 13 + 1, none⟩ (.int .i64 q.2.1)).setCell ⟨G, i * 17 + 13 + 2, none⟩ (.int .i64 q.2.2.1)).setCell ⟨G, i * 17 + 16, none⟩ (.int .i64 q.2.2.2)) B L
      { m with given := m.given.set i { t with tgt := q.1, pl := q.2.1, val := q.2.2.1, trap := q.2.2.2 } } ∧
    Kq B w ((((w.setCell ⟨G, i * 17 + 13, none⟩ (.int .i64 q.1)).setCell ⟨G, i * 17 + 13 + 1, none⟩ (.int .i64 q.2.1)).setCell ⟨G, i * 17 + 13 + 2, none⟩ (.int .i64 q.2.2.1)).setCell ⟨G, i * 17 + 16, none⟩ (.int .i64 q.2.2.2)) := by
  have hil := (List.getElem?_eq_some_iff.1 ht).1
  have gt : ∀ (x : Tk), (m.given.set i x)[i]? = some x := fun x => by simp [hil]
  have gl : ∀ (x : Tk), L.gv = .slice (some ⟨G, 0, none⟩) (m.given.set i x).length cap := fun x => by rw [List.length_set]; exact hgv
  have s1 := h.setTk (t' := { t with tgt := q.1 }) (v := .int .i64 q.1) hgv ht (j := 13) (by omega) rfl
  have s2 := s1.1.setTk (t' := { t with tgt := q.1, pl := q.2.1 }) (v := .int .i64 q.2.1) (gl _) (gt _) (j := 14) (by omega) rfl
  simp only [List.set_set] at s2
  have s3 := s2.1.setTk (t' := { t with tgt := q.1, pl := q.2.1, val := q.2.2.1 }) (v := .int .i64 q.2.2.1) (gl _) (gt _) (j := 15) (by omega) rfl
  simp only [List.set_set] at s3
  have s4 := s3.1.setTk (t' := { t with tgt := q.1, pl := q.2.1, val := q.2.2.1, trap := q.2.2.2 }) (v := .int .i64 q.2.2.2) (gl _) (gt _) (j := 16) (by omega) rfl
  simp only [List.set_set] at s4
  exact ⟨s4.1, ((s1.2.trans s2.2).trans s3.2).trans s4.2⟩

set_option maxRecDepth 100000 in
set_option maxHeartbeats 8000000 in
theorem read_any (W : World) (B : Nat) (L : Lo) (m : Mc) (G cap i : Nat) (t : Tk) (n : Int) (hm : MAt W B L m) (hgv : L.gv = .slice (some ⟨G, 0, none⟩) m.given.length cap) (ht : m.given[i]? = some t) (ho : isOrd t.o n = true) (h0 : t.o.op ≠ 0) (h8 : t.o.op ≠ 8)
    (hl : ∀ j, j < 4 → 0 ≤ m.lat.getD j 0 ∧ m.lat.getD j 0 ≤ 1000) (hcy : m.cycle ≤ 100000) (hnum : t.number ≤ 1000) :
    Calls Tryz.prog 83 #[.pointer (some ⟨L.M, 0, none⟩), .pointer (some ⟨G, i * 17, none⟩)] W fun e w' => e = .returned (.tuple #[]) ∧ MAt w' B L (readT i t m) ∧ Kq B W w' := by
  obtain ⟨k0, k4⟩ := kind_range ho h0 h8
  obtain ⟨kd, hkd⟩ := Int.eq_ofNat_of_zero_le k0
  rw [hkd] at k4
  have hkd4 : kd < 4 := by omega
  obtain ⟨la, hla⟩ : ∃ la, la = m.lat.getD kd 0 := ⟨_, rfl⟩
  have hlb := hl kd hkd4
  rw [← hla] at hlb
  obtain ⟨cy, hcyy⟩ : ∃ cy, cy = m.cycle := ⟨_, rfl⟩
  have c0 := hm.cCycle
  have c1 : W.cell? ⟨G, i * 17 + 10, none⟩ = some (.int .i64 t.read) := hm.tk hgv ht (j := 10) (by omega)
  have c2 := hm.tkFrozen hgv (i * 17 + 10)
  rw [← hcyy] at c0 hcy
  obtain ⟨W1, hW1⟩ : ∃ W1, W.setCell ⟨G, i * 17 + 10, none⟩ (.int .i64 cy) = W1 := ⟨_, rfl⟩
  have hs1 := hm.setTk (t' := { t with read := m.cycle }) (v := .int .i64 m.cycle) hgv ht (j := 10) (by omega) rfl
  rw [← hcyy, hW1] at hs1
  have HM1 := hide hs1.1
  have HK1 := hide hs1.2
  clear hs1
  have ht1 : (m.given.set i { t with read := cy })[i]? = some { t with read := cy } := by
    have := (List.getElem?_eq_some_iff.1 ht).1
    simp [this]
  have HT1 := hide ht1
  have HGV1 : Hid (L.gv = .slice (some ⟨G, 0, none⟩) (m.given.set i { t with read := cy }).length cap) := by rw [List.length_set]; exact hgv
  have HT := hide ht
  have HO := hide ho
  have HLA := hide hla
  have HKD := hide hkd
  have HCY := hide hcyy
  have HOP : Hid (1 ≤ t.o.op) := by have := isOrd_spec HO.out; show 1 ≤ t.o.op; omega
  clear hm ht ho ht1 hla hkd hcyy hl h0 h8 k0
  have d0 := HM1.out.cCycle
  have d1 : W1.cell? ⟨G, i * 17 + 5, none⟩ = some (.int .i64 (kindOf t.o.op)) := HM1.out.tk HGV1.out HT1.out (j := 5) (by omega)
  have d2 := HM1.out.cLat hkd4
  have d3 : W1.cell? ⟨G, i * 17 + 11, none⟩ = some (.int .i64 t.done) := HM1.out.tk HGV1.out HT1.out (j := 11) (by omega)
  have d4 := HM1.out.tkFrozen HGV1.out (i * 17 + 11)
  rw [HKD.out] at d1
  simp only at d0 d2
  rw [← HLA.out] at d2
  have kd0 : (0 : Int) ≤ (kd : Int) := by omega
  have kd1 : (kd : Int) < 4 := by omega
  go_enter Tryz.func83, Tryz.ntmps83
  go_wp2
  clear hW1
  go_region
  go_wp2
  obtain ⟨W2, hW2⟩ : ∃ W2, (W1.setCell ⟨G, i * 17 + 11, none⟩ (.int .i64 ((cy : Int) + la))).drew = W2 := ⟨_, rfl⟩
  rw [hW2]
  have hdn : ((cy + la.toNat : Nat) : Int) = (cy : Int) + la := by omega
  have hs2 := HM1.out.setTk (t' := { t with read := cy, done := cy + la.toNat }) (v := .int .i64 ((cy : Int) + la)) HGV1.out HT1.out (j := 11) (by omega) (by rw [← hdn]; rfl)
  have HM2 : Hid (MAt W2 B L { m with cycle := cy, given := m.given.set i { t with read := cy, done := cy + la.toNat } }) := by
    rw [← hW2]
    have := hs2.1.ck (W' := (W1.setCell ⟨G, i * 17 + 11, none⟩ (.int .i64 ((cy : Int) + la))).drew) (fun _ _ _ _ h => h)
    have h9 : MAt (W1.setCell ⟨G, i * 17 + 11, none⟩ (.int .i64 ((cy : Int) + la))).drew B L { m with cycle := cy, given := m.given.set i { t with read := cy, done := cy + la.toNat } } := by simpa using this
    exact h9
  have HK2 : Hid (Kq B W1 W2) := by rw [← hW2]; exact hs2.2.drew
  clear hs2 hW2 d0 d1 d2 d3 d4 c0 c1 c2
  have HT2 : Hid ((m.given.set i { t with read := cy, done := cy + la.toNat })[i]? = some { t with read := cy, done := cy + la.toNat }) := by
    have := (List.getElem?_eq_some_iff.1 HT.out).1
    show (m.given.set i _)[i]? = _
    simp [this]
  have HGV2 : Hid (L.gv = .slice (some ⟨G, 0, none⟩) (m.given.set i { t with read := cy, done := cy + la.toNat }).length cap) := by rw [List.length_set]; exact hgv
  have HGL : Hid (G < W2.heap.size) := by
    have := HM2.out.giv
    rw [HGV2.out] at this
    exact (World.ownsRow.lt this G rfl).2
  obtain ⟨o0, o8, dd0, dd7, a0, a7, b0, b7, _⟩ := isOrd_spec HO.out
  obtain ⟨ra, hra⟩ := Int.eq_ofNat_of_zero_le a0
  obtain ⟨rb, hrb⟩ := Int.eq_ofNat_of_zero_le b0
  have ra8 : ra < 8 := by omega
  have rb8 : rb < 8 := by omega
  have hop1 : 1 ≤ t.o.op := HOP.out
  obtain ⟨p, c, hmv, hrd⟩ := HM2.out.mem.slice
  obtain ⟨xa, hxa⟩ : ∃ x, x = m.regs.getD ra 0 := ⟨_, rfl⟩
  obtain ⟨xb, hxb⟩ : ∃ x, x = m.regs.getD rb 0 := ⟨_, rfl⟩
  obtain ⟨q, hq⟩ : ∃ q, q = wk t.o t.number xa xb m.mem := ⟨_, rfl⟩
  have HTK : Hid (∀ w', Below W2.heap.size W2 w' → Calls Tryz.prog 63 #[.pointer (some ⟨L.M, 10, none⟩), .agg #[.int .i64 t.o.op, .int .i64 t.o.d, .int .i64 ra, .int .i64 rb, .int .i64 t.o.k], .int .i64 t.number] w' fun e w'' =>
      e = .returned (.agg #[.int .i64 t.o.op, .int .i64 t.o.d, .int .i64 ra, .int .i64 rb, .int .i64 t.o.k, .int .i64 t.number, .int .i64 xa, .int .i64 xb, .slice p m.mem.length c]) ∧ Below w'.heap.size w' w'') := fun w' hw => by
    have h := HM2.out.below hw
    rw [hxa, hxb]
    exact take_any L.M 10 ra rb t.o.op t.o.d t.o.k t.number _ _ p m.mem.length c w' ra8 rb8 h.lt (h.reg ra8) (h.reg rb8) (by have := h.cMv; rw [hmv] at this; exact this)
  have HWK : Hid (∀ w', Below W2.heap.size W2 w' → Calls Tryz.prog 62 #[.agg #[.int .i64 t.o.op, .int .i64 t.o.d, .int .i64 ra, .int .i64 rb, .int .i64 t.o.k, .int .i64 t.number, .int .i64 xa, .int .i64 xb, .slice p m.mem.length c]] w' fun e w'' =>
      e = .returned (.tuple #[.agg #[.int .i64 q.1, .int .i64 q.2.1, .int .i64 q.2.2.1], .int .i64 q.2.2.2]) ∧ Below w'.heap.size w' w'') := fun w' hw => by
    have := work_any t.o t.number xa xb p c m.mem w' (hrd.below (Nat.le_refl _) hw) hop1 o8 (by omega) (by omega)
    rw [← hq] at this
    simp only [inp] at this
    rw [hra, hrb] at this
    exact this
  have HQ := hide hq
  have HXA := hide hxa
  have HXB := hide hxb
  have HRA := hide hra
  have HRB := hide hrb
  clear hq hxa hxb hrd hmv a0 a7 b0 b7
  have HS2 : Hid (Sro G (i * 17) t W2.drew) := (HM2.out.ck (W' := W2.drew) (fun _ _ _ _ h => h)).sro HGV2.out HT2.out rfl rfl
  have r0 : ∀ w', Sro G (i * 17) t w' → w'.cell? ⟨G, i * 17, none⟩ = some (.int .i64 t.o.op) := fun _ h => h.c0
  have r1 : ∀ w', Sro G (i * 17) t w' → w'.cell? ⟨G, i * 17 + 1, none⟩ = some (.int .i64 t.o.d) := fun _ h => h.c1
  have r2 : ∀ w', Sro G (i * 17) t w' → w'.cell? ⟨G, i * 17 + 2, none⟩ = some (.int .i64 ra) := fun _ h => by rw [← HRA.out]; exact h.c2
  have r3 : ∀ w', Sro G (i * 17) t w' → w'.cell? ⟨G, i * 17 + 3, none⟩ = some (.int .i64 rb) := fun _ h => by rw [← HRB.out]; exact h.c3
  have r4 : ∀ w', Sro G (i * 17) t w' → w'.cell? ⟨G, i * 17 + 4, none⟩ = some (.int .i64 t.o.k) := fun _ h => h.c4
  have r8 : ∀ w', Sro G (i * 17) t w' → w'.cell? ⟨G, i * 17 + 8, none⟩ = some (.int .i64 t.number) := fun _ h => h.c8
  have hBd : Below W2.heap.size W2 W2.drew := (Below.refl _ _).drew
  have HBD := hide hBd
  clear hBd hra hrb
  go_region_held3 (fun w' => Sro G (i * 17) t w') (first | assumption | exact HS2.out | exact HS3.out | exact HS4.out | exact Sro.set (Sro.set (Sro.set HS4.out (k := 13) (by omega) _) (k := 14) (by omega) _) (k := 15) (by omega) _ | exact Sro.set HS4.out (k := 16) (by omega) _ | exact Sro.set (Sro.set (Sro.set (Sro.set HS4.out (k := 13) (by omega) _) (k := 14) (by omega) _) (k := 15) (by omega) _) (k := 16) (by omega) _ | exact Sro.set (Sro.set (Sro.set (Sro.set HS4.out (k := 16) (by omega) _) (k := 13) (by omega) _) (k := 14) (by omega) _) (k := 15) (by omega) _ | fail) (first
    | (go_at_call 63; refine (HTK.out _ HBD.out).mono ?_; rintro e w3 ⟨rfl, hb3⟩; have HB3 : Hid (Below W2.heap.size W2 w3) := HBD.out.trans hb3; have HS3 : Hid (Sro G (i * 17) t w3) := (HM2.out.below HB3.out).sro HGV2.out HT2.out rfl rfl; clear hb3)
    | (go_at_call 62; refine (HWK.out _ HB3.out).mono ?_; rintro e w4 ⟨rfl, hb4⟩; have HB4 : Hid (Below W2.heap.size W2 w4) := HB3.out.trans (hb4.mono HB3.out.size); have HM4 := hide (HM2.out.below HB4.out); have HS4 : Hid (Sro G (i * 17) t w4) := HM4.out.sro HGV2.out HT2.out rfl rfl; clear hb4; have e1 : w4.cell? ⟨G, i * 17 + 13, none⟩ = some (.int .i64 t.tgt) := HM4.out.tk HGV2.out HT2.out (j := 13) (by omega); have e2 : w4.cell? ⟨G, i * 17 + 13 + 1, none⟩ = some (.int .i64 t.pl) := HM4.out.tk HGV2.out HT2.out (j := 14) (by omega); have e3 : w4.cell? ⟨G, i * 17 + 13 + 2, none⟩ = some (.int .i64 t.val) := HM4.out.tk HGV2.out HT2.out (j := 15) (by omega); have e4 : w4.cell? ⟨G, i * 17 + 16, none⟩ = some (.int .i64 t.trap) := HM4.out.tk HGV2.out HT2.out (j := 16) (by omega); have ef : ∀ j, w4.frozen? ⟨G, j, none⟩ = false := fun j => HM4.out.tkFrozen HGV2.out j)
    | fail)
  go_wp2
  go_end0
  obtain ⟨f1, f2⟩ := read_fin HM4.out HGV2.out HT2.out q
  refine ⟨rfl, ?_, (HK1.out.trans HK2.out).trans ((Kq.of_below HB4.out).trans f2)⟩
  simp only [List.set_set] at f1
  unfold readT
  rw [HKD.out, HRA.out, HRB.out, Int.toNat_natCast, Int.toNat_natCast, Int.toNat_natCast, ← HXA.out, ← HXB.out, ← HLA.out, ← HQ.out, ← HCY.out]
  exact f1

end Go.Proofs.YtmeiogoodbnkkaaGreat

/- The reads of a cycle. -/
namespace Go.Proofs.YtmeiogoodbnkkaaGreat
open Go.RowKit Go.Sort

theorem wk_eff {o : Ord} {n : Int} (ho : isOrd o n = true) (h8 : o.op ≠ 8) (nb a b : Int) (mem : List Int) (ht : (wk o nb a b mem).2.2.2 = 0) : EffOk mem.length (wk o nb a b mem).1 (wk o nb a b mem).2.1 := by
  obtain ⟨h1, h2, h3, h4, _⟩ := isOrd_spec ho
  unfold wk at ht ⊢
  rw [if_neg h8] at ht ⊢
  split at ht
  · rename_i he
    rw [if_pos he]
    split
    · rename_i h7
      right
      unfold eff at he ⊢
      simp only [h7] at he ⊢
      simp at he ⊢
      split at he
      · simp at he
      · rename_i hc
        rw [if_neg hc]
        simp only
        omega
    · exact .inl ⟨rfl, h3, by simp only; omega⟩
  · rename_i he
    exact absurd ht he

/-- What the reads keep. -/
structure Rk (n : Int) (m s : Mc) : Prop where
  wf : Wf n s
  len : s.given.length = m.given.length
  cyc : s.cycle = m.cycle
  lat : s.lat = m.lat

theorem Wf.readT {n : Int} {m : Mc} (h : Wf n m) {i : Nat} {t : Tk} (ht : m.given[i]? = some t) (hr : t.read = 0) : Wf n (readT i t m) := by
  have h8 := h.jmp i t ht hr
  refine ⟨fun j x hx => ?_, fun j x hx => ?_, fun j x hx => ?_, fun j x hx => ?_, fun j x hx => ?_, h.cyc⟩
  · rcases get_set hx with ⟨_, rfl⟩ | ⟨_, hx⟩
    · exact h.ords i t ht
    · exact h.ords j x hx
  · rcases get_set hx with ⟨_, rfl⟩ | ⟨_, hx⟩
    · exact h.ops i t ht
    · exact h.ops j x hx
  · intro h1 h2 h3
    rcases get_set hx with ⟨_, rfl⟩ | ⟨_, hx⟩
    · exact wk_eff (h.ords i t ht) h8 _ _ _ _ h2
    · exact h.eff j x hx h1 h2 h3
  · intro h1
    rcases get_set hx with ⟨_, rfl⟩ | ⟨_, hx⟩
    · exact absurd h1 h.cyc
    · exact h.jmp j x hx h1
  · rcases get_set hx with ⟨_, rfl⟩ | ⟨_, hx⟩
    · exact h.num i t ht
    · exact h.num j x hx

theorem Rk.one {n : Int} {m s : Mc} (h : Rk n m s) (i : Nat) : Rk n m (readsOne s i) := by
  unfold readsOne
  split
  · exact h
  · rename_i t ht
    split
    · rename_i hc
      exact ⟨h.wf.readT ht hc.1, by simp [readT, h.len], h.cyc, h.lat⟩
    · exact h
theorem Rk.fold {n : Int} {m : Mc} (hw : Wf n m) : ∀ (l : List Nat), Rk n m (l.foldl readsOne m) := by
  intro l
  have : ∀ (l : List Nat) (s : Mc), Rk n m s → Rk n m (l.foldl readsOne s) := by
    intro l
    induction l with
    | nil => exact fun s h => h
    | cons i l ih => exact fun s h => ih _ (h.one i)
  exact this l m ⟨hw, rfl, rfl, rfl⟩
theorem rfold_snoc (s : Mc) (pre : List Nat) (i : Nat) : (pre ++ [i]).foldl readsOne s = readsOne (pre.foldl readsOne s) i := by simp

set_option maxRecDepth 10000 in
set_option maxHeartbeats 8000000 in
theorem reads_any (W : World) (B : Nat) (L : Lo) (m : Mc) (n : Int) (hm : MAt W B L m) (hw : Wf n m) (hsm : m.given.length ≤ 100000) (hl : ∀ j, j < 4 → 0 ≤ m.lat.getD j 0 ∧ m.lat.getD j 0 ≤ 1000) (hcy : m.cycle ≤ 100000) :
    Calls Tryz.prog 66 #[.pointer (some ⟨L.M, 0, none⟩)] W fun e w' => e = .returned (.tuple #[]) ∧ MAt w' B L (readsM m) ∧ Kq B W w' := by
  have HM := hide hm
  have HW := hide hw
  have HL := hide hl
  clear hm hw hl
  have hlt := HM.out.lt
  obtain ⟨V2, hV2⟩ : ∃ V2, W.alloc (.cells #[.pointer (some ⟨L.M, 0, none⟩)] 112) = V2 := ⟨_, rfl⟩
  have z2 : V2.heap.size = W.heap.size + 1 := by rw [← hV2]; simp
  have hBV2 : Below W.heap.size W V2 := by rw [← hV2]; exact (Below.refl _ _).alloc (Nat.le_refl _) _
  have bx2 : Bx V2 W.heap.size 112 (.pointer (some ⟨L.M, 0, none⟩)) := by rw [← hV2]; exact Bx.new W _ _
  refine calls_of_marks Tryz.func66 rfl ?_
  simp only [Tryz.ntmps66, List.size_toArray, List.length_cons, List.length_nil, Nat.reduceAdd, Nat.reduceSub, Array.replicate_succ, Array.replicate_zero, List.push_toArray, List.append_toArray, List.nil_append, List.cons_append]
  go_wp2
  clear hV2
  rename_i Q1 K1 hK1
  obtain ⟨p, cap, G, hgv, hG⟩ := HM.out.ahead (Nat.le_refl _)
  have hm2 := HM.out.below hBV2
  have e1 : V2.drew.cell? ⟨W.heap.size, 0, none⟩ = some (.pointer (some ⟨L.M, 0, none⟩)) := bx2.cell
  have e2 : V2.drew.cell? ⟨L.M, 24, none⟩ = some (.slice p m.given.length cap) := by rw [← hgv]; exact hm2.cGv
  have e1' := bx2.cell
  refine wp_region_still_tail 7 (by kernel_rfl) (by kernel_rfl) ?_
  simp only [List.take_succ_cons, List.take_zero, List.drop_succ_cons, List.drop_zero]
  repeat still_step
  still_call (tLen_any L.M 24 m.given.length cap p _ e2)
  refine wpStill_nil ?_
  go_wp2_with (go_at_call 73; refine (tAhead_any _ _ _).mono ?_; rintro e w' ⟨rfl, rfl⟩)
  obtain ⟨W0, hW0⟩ : ∃ W0, ((V2.alloc (.cells #[.pointer (some ⟨L.M, 24, none⟩)] 141)).alloc (.cells #[.int .i64 m.given.length] 3)).drew = W0 := ⟨_, rfl⟩
  have hsz : W0.heap.size = W.heap.size + 3 := by rw [← hW0]; simp [z2]
  have hB0 : Below W.heap.size W W0 := by rw [← hW0]; exact ((hBV2.alloc (by omega) _).alloc (by simp; omega) _).drew
  have bx : Bx W0 W.heap.size 112 (.pointer (some ⟨L.M, 0, none⟩)) := by rw [← hW0]; exact (bx2.alloc _).alloc _
  have b1 : Bx W0 (W.heap.size + 1) 141 (.pointer (some ⟨L.M, 24, none⟩)) := by rw [← hW0, ← z2]; exact (Bx.new V2 _ _).alloc _
  have b2 : Bx W0 (W.heap.size + 1 + 1) 3 (.int .i64 m.given.length) := by rw [← hW0]; have := Bx.new (V2.alloc (.cells #[.pointer (some ⟨L.M, 24, none⟩)] 141)) 3 (.int .i64 m.given.length); simp only [World.size_alloc, z2] at this; exact this
  have hm0 := HM.out.below hB0
  rw [hW0]
  clear hW0 e1 e2 e1' hm2 bx2 hBV2 z2
  have HRK := hide (Rk.fold HW.out)
  refine wp_ahead (W.heap.size + 1 + 1) (W.heap.size + 1) L.M 24 G m.given.length cap m.given.length p rfl rfl b2.cell b1.cell (by rw [hm0.cGv, hgv]) (Nat.le_refl _) hG (by omega)
    (fun pre w => MAt w B L (pre.foldl readsOne m) ∧ Bx w W.heap.size 112 (.pointer (some ⟨L.M, 0, none⟩)) ∧ Bx w (W.heap.size + 1) 141 (.pointer (some ⟨L.M, 24, none⟩)) ∧ Bx w (W.heap.size + 1 + 1) 3 (.int .i64 m.given.length) ∧ Kq B W w)
    (fun _ _ _ => False)
    (fun s A A' row hs hg hr => by
      obtain ⟨h1, h3, h4, h5, h6⟩ := hs
      have hck := ck_grown hg hr
      exact ⟨h1.ck hck, h3.ck hck, h4.ck hck, h5.ck hck, ⟨hg.os.trans h6.os, hg.tape.trans h6.tape, hg.output.trans h6.output, Nat.le_trans h6.size hg.size, fun k o hk ho => by
        have h7 := h6.block k o hk ho
        rw [hg.block k (Array.getElem?_eq_some_iff.1 h7).1 (fun e => by have := (hr k e.symm).1; have := (Array.getElem?_eq_some_iff.1 hk).1; omega)]
        exact h7⟩⟩)
    (fun c s A A' row hs hg hr => hs)
    ⟨hm0, bx, b1, b2, .of_below hB0⟩ (fun i => ⟨#[.pointer (some ⟨L.M, 0, none⟩), .pointer (some ⟨W.heap.size, 0, none⟩), .int .i64 i, .pointer (some ⟨G, i * 17, none⟩), .pointer (some ⟨L.M, 0, none⟩), .pointer (some ⟨L.M, 0, none⟩), .pointer (some ⟨L.M, 24, none⟩), .pointer (some ⟨L.M, 0, none⟩), .pointer (some ⟨L.M, 0, none⟩), .pointer (some ⟨L.M, 24, none⟩), .int .i64 m.given.length, .func (.func 87) #[] #[.pointer (some ⟨W.heap.size + 1 + 1, 0, none⟩), .pointer (some ⟨W.heap.size + 1, 0, none⟩)], .int .i64 i, .pointer (some ⟨G, i * 17, none⟩), undef, undef, undef, undef, undef, undef, undef, undef, undef, undef, undef, undef, undef, undef, undef, undef, undef, undef, undef, undef], []⟩) ?hassign ?hbody ?hdone ?hstop
  case hassign =>
    intro l i w K hi hK
    refine wpIn_seq ?_
    refine round_list rfl (by simp [Exit.then]) ?_
    go_wp2
    refine round_list rfl (by simp [Exit.then]) ?_
    go_wp2
    exact hK
  case hbody =>
    rintro l pre i w hi hpl ⟨h1, h3, h4, h5, h6⟩
    dsimp only
    have hrk := HRK.out pre
    have hsn := rfold_snoc m pre i
    generalize hfd : pre.foldl readsOne m = m1 at h1 hrk hsn
    obtain ⟨k1, k2, k3, k4⟩ := hrk
    obtain ⟨t, ht⟩ : ∃ t, m1.given[i]? = some t := ⟨_, List.getElem?_eq_getElem (by omega)⟩
    have hgv' : L.gv = .slice (some ⟨G, 0, none⟩) m1.given.length cap := by rw [k2, ← hG (by omega)]; exact hgv
    have hone : readsOne m1 i = if t.read = 0 ∧ toWrite m1.given m1.cycle i (rMask t.o) = false then readT i t m1 else m1 := by
      unfold readsOne; simp only [ht]
    have HSN := hide hsn
    have HONE := hide hone
    have HMW := hide h1
    have HT := hide ht
    have hcg : w.cell? ⟨L.M, 24, none⟩ = some L.gv := h1.cGv
    have f1 : ∀ d os, (grow (redrawn w d) os).cell? ⟨W.heap.size, 0, none⟩ = some (.pointer (some ⟨L.M, 0, none⟩)) := fun d os => cell_regrown h3.cell d os
    have f2 : ∀ d os, (grow (redrawn w d) os).cell? ⟨G, i * 17 + 10, none⟩ = some (.int .i64 t.read) := fun d os => cell_regrown (h1.tk hgv' ht (j := 10) (by omega)) d os
    have f3 : ∀ d os, (grow (redrawn w d) os).cell? ⟨G, i * 17 + 6, none⟩ = some (.int .u8 (rMask t.o)) := fun d os => cell_regrown (h1.tk hgv' ht (j := 6) (by omega)) d os
    have HTW : Hid (∀ d os, Calls Tryz.prog 82 #[.pointer (some ⟨L.M, 0, none⟩), .int .i64 i, .int .u8 (rMask t.o)] (grow (redrawn w d) os) fun e w' => e = .returned (.bool (toWrite m1.given m1.cycle i (rMask t.o))) ∧ ∃ p : Regrown, w' = grow (redrawn w p.d) p.os) := fun d os =>
      Calls.regrown_of (isToBeWritten_any (grow (redrawn w d) os) B L m1 i (rMask t.o) n (h1.below (below_regrown w d os)) (by omega) (by omega) (rMask_lt (k1.ords i t ht)) k1.ords)
    have HRD : Hid (t.read = 0 → ∀ w', MAt w' B L m1 → Calls Tryz.prog 83 #[.pointer (some ⟨L.M, 0, none⟩), .pointer (some ⟨G, i * 17, none⟩)] w' fun e w'' => e = .returned (.tuple #[]) ∧ MAt w'' B L (readT i t m1) ∧ Kq B w' w'') := fun hr w' hw' =>
      read_any w' B L m1 G cap i t n hw' hgv' ht (k1.ords i t ht) (k1.ops i t ht) (k1.jmp i t ht hr) (by rw [k4]; exact HL.out) (by omega) (k1.num i t ht)
    have HGV' := hide hgv'
    have HGVV := hide hgv
    clear hsn hone h1 ht hfd hgv hgv'
    refine body_hide (fun QQ hN _ hO => ?_)
    have HN := hide hN
    clear hN
    refine wpIn_block ?_
    refine wpIn_seq ?_
    have HSK : Hid (∀ a w1, readsOne m1 i = m1 → Below w.heap.size w w1 → QQ .normal a w1) := fun a w1 he hb => by
      have hm1 := HMW.out.below hb
      refine HN.out _ _ (Kq.of_below (B := 0) hb).from (kpa_bx h5 (h5.below hb h5.lt) h4 (h4.below hb h4.lt) hcg hm1.cGv) ?_
      rw [HSN.out, he]
      exact ⟨hm1, h3.below hb h3.lt, h4.below hb h4.lt, h5.below hb h5.lt, h6.trans (.of_below hb)⟩
    by_cases hr : t.read = 0
    · cases htw : toWrite m1.given m1.cycle i (rMask t.o) with
      | false =>
        have he := HONE.out
        rw [if_pos ⟨hr, htw⟩] at he
        have HE := hide he
        rw [htw] at HTW
        have HRD' := hide (HRD.out hr)
        rw [hr] at f2
        have HR := hide hr
        have HTT := hide htw
        clear he hr htw HRD HONE
        generalize rMask t.o = rm at *
        refine round_quiet_below (by kernel_rfl) (by kernel_rfl) rfl (by simp [Exit.then, Exit.inBlock, hO]) ?_
        repeat (go_big_quiet_step ((first | (exact HTW.out _ _) | fail)))
        refine wpQuiet_nil ?_
        rintro w1 ⟨q, rfl⟩
        have hb1 := below_regrown w q.d q.os
        generalize grow (redrawn w q.d) q.os = w1 at hb1
        simp only [Exit.then]
        refine wpIn_cond_true rfl ?_
        have hm1 := HMW.out.below hb1
        have g3 := h3.below hb1 h3.lt
        have g4 := h4.below hb1 h4.lt
        have g5 := h5.below hb1 h5.lt
        have y1 := g3.cell
        have HM1 := hide hm1
        have HB1 := hide hb1
        clear hm1 hb1 f1 f2 f3
        refine round_list rfl (by simp [Exit.inBlock, hO]) ?_
        go_wp2_with (go_at_call 83; refine (HRD'.out _ HM1.out).mono ?_; rintro e w3 ⟨rfl, hm3, hk3⟩)
        have hb1 := HB1.out
        refine HN.out _ _ (((Kq.of_below (B := 0) hb1).from (B' := W0.heap.size)).trans hk3.from) (kpa_bx h5 (g5.kq hk3 (by decide)) h4 (g4.kq hk3 (by decide)) hcg hm3.cGv) ?_
        rw [HSN.out, HE.out]
        exact ⟨hm3, g3.kq hk3 (by decide), g4.kq hk3 (by decide), g5.kq hk3 (by decide), (h6.trans (.of_below hb1)).trans hk3⟩
      | true =>
        have he := HONE.out
        rw [if_neg (fun h => by rw [htw] at h; exact absurd h.2 (by decide))] at he
        have HE := hide he
        rw [htw] at HTW
        rw [hr] at f2
        have HR := hide hr
        have HTT := hide htw
        clear he hr htw HRD HONE
        generalize rMask t.o = rm at *
        refine round_quiet_below (by kernel_rfl) (by kernel_rfl) rfl (by simp [Exit.then, Exit.inBlock, hO]) ?_
        repeat (go_big_quiet_step ((first | (exact HTW.out _ _) | fail)))
        refine wpQuiet_nil ?_
        rintro w1 ⟨q, rfl⟩
        simp only [Exit.then]
        refine wpIn_cond_false rfl ?_
        refine wpIn_skip ?_
        exact HSK.out _ _ HE.out (below_regrown w q.d q.os)
    · have he := HONE.out
      rw [if_neg (fun h => hr h.1)] at he
      have HE := hide he
      have hr' : ((t.read : Int) == 0) = false := by simp; omega
      have HR := hide hr
      clear he hr HRD HONE
      refine round_quiet_below (by kernel_rfl) (by kernel_rfl) rfl (by simp [Exit.then, Exit.inBlock, hO]) ?_
      repeat (go_big_quiet_step (fail))
      refine wpQuiet_nil ?_
      rintro w1 ⟨q, rfl⟩
      simp only [Exit.then]
      refine wpIn_cond_false rfl ?_
      refine wpIn_skip ?_
      exact HSK.out _ _ HE.out (below_regrown w q.d q.os)
  case hdone =>
    rintro D w hD ⟨h1, h3, h4, h5, h6⟩ hK
    exact leave_mark_end (v := .tuple #[]) hK (by simp [results, Tryz.results66, go_sem]) ⟨rfl, mat_mark h1 hK _, kq_mark h6 (by omega) _⟩
  case hstop =>
    rintro D c k' w hD hk' h hK
    exact h.elim

end Go.Proofs.YtmeiogoodbnkkaaGreat
