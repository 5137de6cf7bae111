/- Several texts in one: RY, RU. -/
import Derived.Test.YtmeiogoodbnkkaaGreatCRDRX
import Derived.Test.YtmeiogoodbnkkaaGreatCRQRT
import Derived.Test.YtmeiogoodbnkkaaGreatCRA2
import Derived.Shelf.RegionOpen
/- What was written behind a place is undone. -/
namespace Go.Proofs.YtmeiogoodbnkkaaGreat
open Go.RowKit Go.Sort

def undoAt (place : Nat) (m : Mc) (i : Nat) : Mc :=
  match m.changes[i]? with
  | none => m
  | some c => if place < c.place then { m with regs := putR c.tgt c.pl c.val m.regs, mem := putM c.tgt c.pl c.val m.mem, next := putN c.tgt c.val m.next } else m

def setS (m : Mc) (s : List Int × List Int × Nat) : Mc := { m with regs := s.1, mem := s.2.1, next := s.2.2 }

theorem undo_fold (place : Nat) : ∀ (l : List Nat) (m : Mc), l.foldl (undoAt place) m = setS m ((l.filterMap (fun i => m.changes[i]?)).foldl (undoOne place) (m.regs, m.mem, m.next))
  | [], _ => rfl
  | i :: l, m => by
    rw [List.foldl_cons, undo_fold place l]
    cases hc : m.changes[i]? with
    | none =>
      have e : undoAt place m i = m := by unfold undoAt; simp only [hc]
      rw [e, List.filterMap_cons]
      simp only [hc]
    | some c =>
      have e : undoAt place m i = setS m (undoOne place (m.regs, m.mem, m.next) c) := by
        unfold undoAt undoOne setS; simp only [hc]; split <;> rfl
      rw [e, List.filterMap_cons]
      simp only [hc, List.foldl_cons]
      rfl

theorem filter_range {α : Type} : ∀ (l : List α), (List.range l.length).filterMap (fun j => l[j]?) = l
  | [] => rfl
  | x :: l => by
    rw [List.length_cons, List.range_succ_eq_map, List.filterMap_cons]
    simp only [List.getElem?_cons_zero, List.filterMap_map]
    congr 1
    have := filter_range l
    simpa [Function.comp_def] using this

theorem filterMap_cong {α β : Type} {f g : α → Option β} : ∀ (l : List α), (∀ x ∈ l, f x = g x) → l.filterMap f = l.filterMap g
  | [], _ => rfl
  | x :: l, h => by rw [List.filterMap_cons, List.filterMap_cons, h x (by simp), filterMap_cong l (fun y hy => h y (by simp [hy]))]

theorem filter_back {α : Type} (l : List α) : ((List.range l.length).map (fun j => l.length - 1 - j)).filterMap (fun i => l[i]?) = l.reverse := by
  have h := filter_range l.reverse
  rw [List.length_reverse] at h
  rw [← h, List.filterMap_map]
  refine filterMap_cong _ (fun j hj => ?_)
  have hj' := List.mem_range.1 hj
  simp only [Function.comp]
  rw [List.getElem?_reverse hj']

theorem undo_all (place : Nat) (m : Mc) : ((List.range m.changes.length).map (fun j => m.changes.length - 1 - j)).foldl (undoAt place) m = undoM place m := by
  rw [undo_fold, filter_back]; rfl

structure Ud (m s : Mc) : Prop where
  chg : s.changes = m.changes
  mem : s.mem.length = m.mem.length

theorem Ud.one {place : Nat} {m s : Mc} (h : Ud m s) (i : Nat) : Ud m (undoAt place s i) := by
  unfold undoAt
  split
  · exact h
  · split
    · exact ⟨h.chg, by simp only [putM_len]; exact h.mem⟩
    · exact h
theorem Ud.fold {place : Nat} {m : Mc} : ∀ (l : List Nat) (s : Mc), Ud m s → Ud m (l.foldl (undoAt place) s)
  | [], _, h => h
  | i :: l, s, h => by rw [List.foldl_cons]; exact Ud.fold l _ (h.one i)

section
variable {W : World} {B : Nat} {L : Lo} {m : Mc}
theorem MAt.back (h : MAt W B L m) : ∃ p cap G, L.cv = .slice p m.changes.length cap ∧ (0 < m.changes.length → p = some ⟨G, 0, none⟩) := by
  rcases h.chg.2 with ⟨h1, h2⟩ | ⟨g, cap, cur, h1, _⟩
  · exact ⟨none, 0, 0, by rw [h1, h2], fun h => by omega⟩
  · exact ⟨_, _, g, h1, fun _ => rfl⟩
theorem MAt.ch (h : MAt W B L m) {G cap i : Nat} {t : Ch} (hg : L.cv = .slice (some ⟨G, 0, none⟩) m.changes.length cap) (ht : m.changes[i]? = some t) {j : Nat} (hj : j < 4) : W.cell? ⟨G, i * 4 + j, none⟩ = (chCells t)[j]? := by
  have h1 := h.chg
  rw [hg] at h1
  have hi : i < m.changes.length := (List.getElem?_eq_some_iff.1 ht).1
  rw [h1.cellAt (i * 4 + j) (by omega), gflat_get ch_len _ _ _ _ ht hj]
end

theorem kpb_bx {bR rb ro : Nat} {w w' : World} {tR : TypeId} {vR vH : Value} (r : Bx w bR tR vR) (r' : Bx w' bR tR vR) (h : w.cell? ⟨rb, ro, none⟩ = some vH) (h' : w'.cell? ⟨rb, ro, none⟩ = some vH) : KpB bR rb ro w w' :=
  ⟨by rw [r.cell, r'.cell], by rw [h, h']⟩

set_option maxRecDepth 10000 in
set_option maxHeartbeats 8000000 in
theorem undoBehind_any (W : World) (B : Nat) (L : Lo) (m : Mc) (place : Nat) (hm : MAt W B L m) (hsm : m.changes.length ≤ 100000) (he : ∀ (i : Nat) (c : Ch), m.changes[i]? = some c → EffOk m.mem.length c.tgt c.pl) :
    Calls Tryz.prog 70 #[.pointer (some ⟨L.M, 0, none⟩), .int .i64 place] W fun e w' => e = .returned (.tuple #[]) ∧ MAt w' B L (undoM place m) ∧ Kq B W w' := by
  have HM := hide hm
  have HEF := hide he
  clear hm he
  have hlt := HM.out.lt
  refine calls_of_marks Tryz.func70 rfl ?_
  simp only [Tryz.ntmps70, List.size_toArray, List.length_cons, List.length_nil, Nat.reduceAdd, Nat.reduceSub, Array.replicate_succ, Array.replicate_zero, List.push_toArray, List.append_toArray, List.nil_append, List.cons_append]
  obtain ⟨p, cap, G, hcv, hG⟩ := HM.out.back
  go_wp2_with (go_at_call 86; refine (cBack_any _ _).mono ?_; rintro e w' ⟨rfl, rfl⟩)
  obtain ⟨W0, hW0⟩ : ∃ W0, ((W.alloc (.cells #[.pointer (some ⟨L.M, 0, none⟩)] 112)).alloc (.cells #[.int .i64 place] 3)).alloc (.cells #[.pointer (some ⟨L.M, 25, none⟩)] 149) = W0 := ⟨_, rfl⟩
  have hsz : W0.heap.size = W.heap.size + 3 := by rw [← hW0]; simp
  have hB0 : Below W.heap.size W W0 := by rw [← hW0]; exact (((Below.refl _ _).alloc (Nat.le_refl _) _).alloc (by simp) _).alloc (by simp; omega) _
  have b0 : Bx W0 W.heap.size 112 (.pointer (some ⟨L.M, 0, none⟩)) := by rw [← hW0]; exact ((Bx.new W _ _).alloc _).alloc _
  have b1 : Bx W0 (W.heap.size + 1) 3 (.int .i64 place) := by rw [← hW0]; have := (Bx.new (W.alloc (.cells #[.pointer (some ⟨L.M, 0, none⟩)] 112)) 3 (.int .i64 place)).alloc (.cells #[.pointer (some ⟨L.M, 25, none⟩)] 149); simpa using this
  have b2 : Bx W0 (W.heap.size + 1 + 1) 149 (.pointer (some ⟨L.M, 25, none⟩)) := by rw [← hW0]; have := Bx.new ((W.alloc (.cells #[.pointer (some ⟨L.M, 0, none⟩)] 112)).alloc (.cells #[.int .i64 place] 3)) 149 (.pointer (some ⟨L.M, 25, none⟩)); simpa using this
  have hm0 := HM.out.below hB0
  rw [hW0]
  clear hW0
  have HUD : Hid (∀ l, Ud m (List.foldl (undoAt place) m l)) := fun l => Ud.fold l m ⟨rfl, rfl⟩
  refine wp_back (W.heap.size + 1 + 1) L.M 25 G m.changes.length cap p rfl rfl b2.cell (by rw [hm0.cCv, hcv]) hG (by omega)
    (fun pre w => MAt w B L (pre.foldl (undoAt place) m) ∧ Bx w W.heap.size 112 (.pointer (some ⟨L.M, 0, none⟩)) ∧ Bx w (W.heap.size + 1) 3 (.int .i64 place) ∧ Bx w (W.heap.size + 1 + 1) 149 (.pointer (some ⟨L.M, 25, none⟩)) ∧ Kq B W w)
    (fun _ _ _ => False)
    (fun s A A' row hs hg hr => by
      obtain ⟨h1, h3, h4, h5, h6⟩ := hs
      have hck := ck_grown hg hr
      exact ⟨h1.ck hck, h3.ck hck, h4.ck hck, h5.ck hck, ⟨hg.os.trans h6.os, hg.tape.trans h6.tape, hg.output.trans h6.output, Nat.le_trans h6.size hg.size, fun k o hk ho => by
        have h7 := h6.block k o hk ho
        rw [hg.block k (Array.getElem?_eq_some_iff.1 h7).1 (fun e => by have := (hr k e.symm).1; have := (Array.getElem?_eq_some_iff.1 hk).1; omega)]
        exact h7⟩⟩)
    (fun c s A A' row hs hg hr => hs)
    ⟨hm0, b0, b1, b2, .of_below hB0⟩ (fun i => ⟨#[.pointer (some ⟨L.M, 0, none⟩), .int .i64 place, .pointer (some ⟨W.heap.size, 0, none⟩), .pointer (some ⟨W.heap.size + 1, 0, none⟩), undef, .pointer (some ⟨G, i * 4, none⟩), .pointer (some ⟨L.M, 0, none⟩), .pointer (some ⟨L.M, 0, none⟩), .pointer (some ⟨L.M, 25, none⟩), .func (.func 105) #[] #[.pointer (some ⟨W.heap.size + 1 + 1, 0, none⟩)], .int .i64 i, .pointer (some ⟨G, i * 4, none⟩), undef, undef, undef, undef, undef, undef, undef, undef, undef, undef, undef, undef, undef, undef], []⟩) ?hassign ?hbody ?hdone ?hstop
  case hassign =>
    intro l i w K hi hK
    refine round_list rfl (fun _ _ h => h.elim) ?_
    go_wp2
    exact hK
  case hbody =>
    rintro l pre i w hi hpl ⟨h1, h3, h4, h5, h6⟩
    try dsimp only
    have hud := HUD.out pre
    have hsn : (pre ++ [i]).foldl (undoAt place) m = undoAt place (pre.foldl (undoAt place) m) i := by simp
    generalize hfd : pre.foldl (undoAt place) m = m1 at h1 hud hsn
    obtain ⟨k1, k2⟩ := hud
    obtain ⟨t, ht⟩ : ∃ t, m1.changes[i]? = some t := ⟨_, List.getElem?_eq_getElem (by rw [k1]; omega)⟩
    have hcv' : L.cv = .slice (some ⟨G, 0, none⟩) m1.changes.length cap := by rw [k1, ← hG (by omega)]; exact hcv
    have hone : undoAt place m1 i = if place < t.place then { m1 with regs := putR t.tgt t.pl t.val m1.regs, mem := putM t.tgt t.pl t.val m1.mem, next := putN t.tgt t.val m1.next } else m1 := by
      unfold undoAt; simp only [ht]
    have heff : EffOk m1.mem.length t.tgt t.pl := by rw [k2]; exact HEF.out i t (by rw [← k1]; exact ht)
    have HSN := hide hsn
    have HONE := hide hone
    have HMW := hide h1
    have hcg : w.cell? ⟨L.M, 25, none⟩ = some L.cv := h1.cCv
    have c1 : w.cell? ⟨G, i * 4, none⟩ = some (.int .i64 t.place) := h1.ch hcv' ht (j := 0) (by omega)
    have c2 : w.cell? ⟨G, i * 4 + 1, none⟩ = some (.int .i64 t.tgt) := h1.ch hcv' ht (j := 1) (by omega)
    have c3 : w.cell? ⟨G, i * 4 + 1 + 1, none⟩ = some (.int .i64 t.pl) := h1.ch hcv' ht (j := 2) (by omega)
    have c4 : w.cell? ⟨G, i * 4 + 1 + 2, none⟩ = some (.int .i64 t.val) := h1.ch hcv' ht (j := 3) (by omega)
    have c5 := h3.cell
    have c6 := h4.cell
    have HPUT : Hid (∀ w', MAt w' B L m1 → Calls Tryz.prog 64 #[.agg #[.int .i64 t.tgt, .int .i64 t.pl, .int .i64 t.val], .pointer (some ⟨L.M, 10, none⟩)] w' fun e w'' => e = .returned (.tuple #[]) ∧
      MAt w'' B L { m1 with regs := putR t.tgt t.pl t.val m1.regs, mem := putM t.tgt t.pl t.val m1.mem, next := putN t.tgt t.val m1.next } ∧ Kq B w' w'') := fun w' hw' => put_m hw' t.val heff
    have HCV' := hide hcv'
    have HCVV := hide hcv
    clear hsn hone h1 ht hfd hcv hcv' heff
    refine body_hide (fun QQ hN _ hO => ?_)
    have HN := hide hN
    clear hN
    refine wpIn_block ?_
    refine wpIn_seq ?_
    by_cases hpl' : place < t.place
    · have t1 : decide (place < t.place) = true := by simp; omega
      have he := HONE.out
      rw [if_pos hpl'] at he
      have HE := hide he
      clear he HONE hpl'
      refine round_quiet (by kernel_rfl) (by kernel_rfl) rfl (by simp [Exit.then, Exit.inBlock, hO]) ?_
      repeat (go_big_quiet_step (fail))
      refine wpQuiet_nil ?_
      rintro w1 ⟨nq, rfl⟩
      simp only [Exit.then]
      refine wpIn_cond_true rfl ?_
      have hb1 : Below w.heap.size w (w.drewN nq) := below_drewN (Below.refl _ _) _
      generalize w.drewN nq = wq at hb1
      have hmq := HMW.out.below hb1
      have g3 := h3.below hb1 h3.lt
      have g4 := h4.below hb1 h4.lt
      have g5 := h5.below hb1 h5.lt
      have d2 : wq.drew.cell? ⟨G, i * 4 + 1, none⟩ = some (.int .i64 t.tgt) := (hb1.cell (p := ⟨G, i * 4 + 1, none⟩) (World.block_lt_of_cell? w ⟨G, i * 4 + 1, none⟩ c2)).trans c2
      have d3 : wq.drew.cell? ⟨G, i * 4 + 1 + 1, none⟩ = some (.int .i64 t.pl) := (hb1.cell (p := ⟨G, i * 4 + 1 + 1, none⟩) (World.block_lt_of_cell? w ⟨G, i * 4 + 1, none⟩ c2)).trans c3
      have d4 : wq.drew.cell? ⟨G, i * 4 + 1 + 2, none⟩ = some (.int .i64 t.val) := (hb1.cell (p := ⟨G, i * 4 + 1 + 2, none⟩) (World.block_lt_of_cell? w ⟨G, i * 4 + 1, none⟩ c2)).trans c4
      have d5 : wq.drew.cell? ⟨W.heap.size, 0, none⟩ = some (.pointer (some ⟨L.M, 0, none⟩)) := g3.cell
      have HMQ : Hid (MAt wq.drew B L m1) := hmq.ck (fun _ _ _ _ h => h)
      have HBQ := hide hb1
      clear hmq hb1 c1 c2 c3 c4 c5 c6
      refine round_still_tail 7 (by kernel_rfl) (by kernel_rfl) rfl (by simp [Exit.inBlock, hO]) ?_
      simp only [List.take_succ_cons, List.take_zero, List.drop_succ_cons, List.drop_zero]
      repeat still_step
      refine wpStill_nil ?_
      go_wp2_with (go_at_call 64; refine (HPUT.out _ HMQ.out).mono ?_; rintro e w3 ⟨rfl, hm3, hk3⟩)
      have hb1 := HBQ.out
      have hk4 : Kq B wq w3 := Kq.of_drew hk3
      refine HN.out _ _ (((Kq.of_below (B := 0) hb1).from (B' := W0.heap.size)).trans hk4.from) (kpb_bx h5 (g5.kq hk4 (by decide)) hcg hm3.cCv) ?_
      rw [HSN.out, HE.out]
      exact ⟨hm3, g3.kq hk4 (by decide), g4.kq hk4 (by decide), g5.kq hk4 (by decide), (h6.trans (.of_below hb1)).trans hk4⟩
    · have t1 : decide (place < t.place) = false := by simp; omega
      have he := HONE.out
      rw [if_neg hpl'] at he
      have HE := hide he
      clear he HONE hpl'
      refine round_quiet (by kernel_rfl) (by kernel_rfl) rfl (by simp [Exit.then, Exit.inBlock, hO]) ?_
      repeat (go_big_quiet_step (fail))
      refine wpQuiet_nil ?_
      rintro w1 ⟨nq, rfl⟩
      simp only [Exit.then]
      refine wpIn_cond_false rfl ?_
      refine wpIn_skip ?_
      have hb1 : Below w.heap.size w (w.drewN nq) := below_drewN (Below.refl _ _) _
      have hmq := HMW.out.below hb1
      refine HN.out _ _ (from_drewN _ _ _) (kpb_bx h5 (h5.below hb1 h5.lt) hcg hmq.cCv) ?_
      rw [HSN.out, HE.out]
      exact ⟨hmq, h3.below hb1 h3.lt, h4.below hb1 h4.lt, h5.below hb1 h5.lt, h6.trans (.of_below hb1)⟩
  case hdone =>
    rintro D w hD ⟨h1, h3, h4, h5, h6⟩ hK
    rw [undo_all] at h1
    refine leave_mark_end (v := .tuple #[]) hK (by simp [results, Tryz.results70, go_sem]) ⟨rfl, mat_mark h1 hK _, kq_mark h6 (by omega) _⟩
  case hstop =>
    rintro D c k' w hD hk' h hK
    exact h.elim

end Go.Proofs.YtmeiogoodbnkkaaGreat

/- A trap shows. -/
namespace Go.Proofs.YtmeiogoodbnkkaaGreat
open Go.RowKit Go.Sort

def showsAt (g : List Tk) (cyc j : Nat) : Bool := match g[j]? with | none => false | some t => decide (t.trap ≠ 0 ∧ t.done ≤ cyc)

theorem firstShown_none {g : List Tk} {cyc : Nat} (h : ∀ j ∈ List.range g.length, showsAt g cyc j = false) : firstShown g cyc = none := by
  unfold firstShown
  rw [List.find?_eq_none]
  intro j hj
  intro h'
  have e : showsAt g cyc j = true := h'
  rw [h j hj] at e
  cases e
theorem find_range (f : Nat → Bool) {k : Nat} (h1 : ∀ j ∈ List.range k, f j = false) (h2 : f k = true) : ∀ n, k < n → (List.range n).find? f = some k
  | n + 1, hn => by
    rw [List.range_succ, List.find?_append]
    by_cases e : k = n
    · subst e
      have : (List.range k).find? f = none := by
        rw [List.find?_eq_none]
        intro j hj
        rw [h1 j hj]; simp
      rw [this]
      simp [h2]
    · rw [find_range f h1 h2 n (by omega)]
      rfl
theorem firstShown_some {g : List Tk} {cyc k : Nat} (hk : k < g.length) (h1 : ∀ j ∈ List.range k, showsAt g cyc j = false) (h2 : showsAt g cyc k = true) : firstShown g cyc = some k :=
  find_range (showsAt g cyc) h1 h2 _ hk

set_option maxRecDepth 10000 in
set_option maxHeartbeats 8000000 in
theorem show_any (W : World) (B : Nat) (L : Lo) (m : Mc) (hm : MAt W B L m) (hsm : m.given.length ≤ 100000) :
    Calls Tryz.prog 68 #[.pointer (some ⟨L.M, 0, none⟩)] W fun e w' => e = .returned (.tuple #[]) ∧ MAt w' B L (showM m) ∧ Kq B W w' := by
  have HM := hide hm
  clear hm
  have hlt := HM.out.lt
  obtain ⟨V2, hV2⟩ : ∃ V2, W.alloc (.cells #[.pointer (some ⟨L.M, 0, none⟩)] 112) = V2 := ⟨_, rfl⟩
  have z2 : V2.heap.size = W.heap.size + 1 := by rw [← hV2]; simp
  have hBV2 : Below W.heap.size W V2 := by rw [← hV2]; exact (Below.refl _ _).alloc (Nat.le_refl _) _
  have bx2 : Bx V2 W.heap.size 112 (.pointer (some ⟨L.M, 0, none⟩)) := by rw [← hV2]; exact Bx.new W _ _
  refine calls_of_marks Tryz.func68 rfl ?_
  simp only [Tryz.ntmps68, List.size_toArray, List.length_cons, List.length_nil, Nat.reduceAdd, Nat.reduceSub, Array.replicate_succ, Array.replicate_zero, List.push_toArray, List.append_toArray, List.nil_append, List.cons_append]
  go_wp2
  clear hV2
  rename_i Q1 K1 hK1
  obtain ⟨p, cap, G, hgv, hG⟩ := HM.out.ahead (Nat.le_refl _)
  have hm2 := HM.out.below hBV2
  have e1 : V2.drew.cell? ⟨W.heap.size, 0, none⟩ = some (.pointer (some ⟨L.M, 0, none⟩)) := bx2.cell
  have e2 : V2.drew.cell? ⟨L.M, 24, none⟩ = some (.slice p m.given.length cap) := by rw [← hgv]; exact hm2.cGv
  have e1' := bx2.cell
  refine wp_region_still_tail 7 (by kernel_rfl) (by kernel_rfl) ?_
  simp only [List.take_succ_cons, List.take_zero, List.drop_succ_cons, List.drop_zero]
  repeat still_step
  still_call (tLen_any L.M 24 m.given.length cap p _ e2)
  refine wpStill_nil ?_
  go_wp2_with (go_at_call 73; refine (tAhead_any _ _ _).mono ?_; rintro e w' ⟨rfl, rfl⟩)
  obtain ⟨W0, hW0⟩ : ∃ W0, ((V2.alloc (.cells #[.pointer (some ⟨L.M, 24, none⟩)] 141)).alloc (.cells #[.int .i64 m.given.length] 3)).drew = W0 := ⟨_, rfl⟩
  have hsz : W0.heap.size = W.heap.size + 3 := by rw [← hW0]; simp [z2]
  have hB0 : Below W.heap.size W W0 := by rw [← hW0]; exact ((hBV2.alloc (by omega) _).alloc (by simp; omega) _).drew
  have bx : Bx W0 W.heap.size 112 (.pointer (some ⟨L.M, 0, none⟩)) := by rw [← hW0]; exact (bx2.alloc _).alloc _
  have b1 : Bx W0 (W.heap.size + 1) 141 (.pointer (some ⟨L.M, 24, none⟩)) := by rw [← hW0, ← z2]; exact (Bx.new V2 _ _).alloc _
  have b2 : Bx W0 (W.heap.size + 1 + 1) 3 (.int .i64 m.given.length) := by rw [← hW0]; have := Bx.new (V2.alloc (.cells #[.pointer (some ⟨L.M, 24, none⟩)] 141)) 3 (.int .i64 m.given.length); simp only [World.size_alloc, z2] at this; exact this
  have hm0 := HM.out.below hB0
  rw [hW0]
  clear hW0 e1 e2 e1' hm2 bx2 hBV2 z2
  refine wp_ahead (W.heap.size + 1 + 1) (W.heap.size + 1) L.M 24 G m.given.length cap m.given.length p rfl rfl b2.cell b1.cell (by rw [hm0.cGv, hgv]) (Nat.le_refl _) hG (by omega)
    (fun pre w => (∀ j ∈ pre, showsAt m.given m.cycle j = false) ∧ Below W0.heap.size W0 w)
    (fun c pre w => c = .ret ∧ ∃ pre0 i, pre = pre0 ++ [i] ∧ (∀ j ∈ pre0, showsAt m.given m.cycle j = false) ∧ showsAt m.given m.cycle i = true ∧ MAt w B L { m with shown := true, counts := i } ∧ Kq B W w)
    (fun s A A' row hs hg hr => ⟨hs.1, ownFrom_below (β := List Nat) (Nat.le_refl _) (Nat.le_refl _) s A A' row hs.2 hg hr⟩)
    (fun c s A A' row hs hg hr => by
      obtain ⟨h0, pre0, i, h1, h2, h3, h4, h6⟩ := hs
      refine ⟨h0, pre0, i, h1, h2, h3, h4.ck (ck_grown hg hr), ⟨hg.os.trans h6.os, hg.tape.trans h6.tape, hg.output.trans h6.output, Nat.le_trans h6.size hg.size, fun k o hk ho => ?_⟩⟩
      have h7 := h6.block k o hk ho
      rw [hg.block k (Array.getElem?_eq_some_iff.1 h7).1 (fun e => by have := (hr k e.symm).1; have := (Array.getElem?_eq_some_iff.1 hk).1; omega)]
      exact h7)
    ⟨by simp, Below.refl _ _⟩ (fun i => ⟨#[.pointer (some ⟨L.M, 0, none⟩), .pointer (some ⟨W.heap.size, 0, none⟩), .int .i64 i, .pointer (some ⟨G, i * 17, none⟩), .pointer (some ⟨L.M, 0, none⟩), .pointer (some ⟨L.M, 0, none⟩), .pointer (some ⟨L.M, 24, none⟩), .pointer (some ⟨L.M, 0, none⟩), .pointer (some ⟨L.M, 0, none⟩), .pointer (some ⟨L.M, 24, none⟩), .int .i64 m.given.length, .func (.func 87) #[] #[.pointer (some ⟨W.heap.size + 1 + 1, 0, none⟩), .pointer (some ⟨W.heap.size + 1, 0, none⟩)], .int .i64 i, .pointer (some ⟨G, i * 17, none⟩), undef, undef, undef, undef, undef, undef, undef, undef, undef, undef, undef, undef, undef, undef, undef, undef, undef, undef, undef, undef, undef, undef, undef, undef], []⟩) ?hassign ?hbody ?hdone ?hstop
  case hassign =>
    intro l i w K hi hK
    refine wpIn_seq ?_
    refine round_list rfl (by simp [Exit.then]) ?_
    go_wp2
    refine round_list rfl (by simp [Exit.then]) ?_
    go_wp2
    exact hK
  case hbody =>
    rintro l pre i w hi hpl ⟨h1, h2⟩
    dsimp only
    have hmw := hm0.below h2
    obtain ⟨t, ht⟩ : ∃ t, m.given[i]? = some t := ⟨_, List.getElem?_eq_getElem (by omega)⟩
    have hgv' := hgv
    rw [hG (by omega)] at hgv'
    have c1 : w.cell? ⟨G, i * 17 + 16, none⟩ = some (.int .i64 t.trap) := hmw.tk hgv' ht (j := 16) (by omega)
    have c2 : w.cell? ⟨G, i * 17 + 11, none⟩ = some (.int .i64 t.done) := hmw.tk hgv' ht (j := 11) (by omega)
    have c3 := hmw.cCycle
    have c4 := (bx.below h2 (by omega)).cell
    have c5 := hmw.cShown
    have c6 := hmw.cCounts
    have c7 := hmw.frozen 27
    have c8 := hmw.frozen 28
    have hsh : showsAt m.given m.cycle i = decide (t.trap ≠ 0 ∧ t.done ≤ m.cycle) := by unfold showsAt; simp only [ht]
    have HSH := hide hsh
    have HMW := hide hmw
    have HGV' := hide hgv'
    have HGVV := hide hgv
    clear hmw hgv hgv' hsh ht
    refine body_hide (fun QQ hN hR hO => ?_)
    have HN := hide hN
    have HRT := hide hR
    clear hN hR
    have HSK : Hid (∀ a nq, showsAt m.given m.cycle i = false → QQ .normal a (w.drewN nq)) := fun a nq he => by
      refine HN.out _ _ (from_drewN _ _ _) (kpa_of h2 (below_drewN h2 _) (by omega) (by omega) (by omega)) ⟨fun j hj => ?_, below_drewN h2 _⟩
      rcases List.mem_append.1 hj with hj | hj
      · exact h1 j hj
      · simp at hj; subst hj; exact he
    refine wpIn_block ?_
    refine wpIn_seq ?_
    by_cases ht0 : t.trap = 0
    · rw [ht0] at c1
      have he : showsAt m.given m.cycle i = false := by rw [HSH.out]; simp [ht0]
      have HE := hide he
      clear he HSH
      refine round_quiet (by kernel_rfl) (by kernel_rfl) rfl (by simp [Exit.then, Exit.inBlock, hO]) ?_
      repeat (go_big_quiet_step (fail))
      refine wpQuiet_nil ?_
      rintro w1 ⟨nq, rfl⟩
      simp only [Exit.then]
      refine wpIn_cond_false rfl ?_
      refine wpIn_skip ?_
      exact HSK.out _ _ HE.out
    · have t1 : (t.trap != 0) = true := by simpa using ht0
      by_cases hd : t.done ≤ m.cycle
      · have t2 : decide (t.done ≤ m.cycle) = true := by simpa using hd
        have he : showsAt m.given m.cycle i = true := by rw [HSH.out]; simp [ht0, hd]
        have HE := hide he
        have HT0 := hide ht0
        have HD := hide hd
        clear he HSH ht0 hd
        refine round_quiet (by kernel_rfl) (by kernel_rfl) rfl (by simp [Exit.then, Exit.inBlock, hO]) ?_
        repeat (go_big_quiet_step (fail))
        refine wpQuiet_nil ?_
        rintro w1 ⟨nq, rfl⟩
        simp only [Exit.then]
        refine wpIn_cond_true rfl ?_
        refine wpIn_seq ?_
        have hsem := @Oper.semAt_some
        have hmo : Tryz.prog.follows .mixedOrders = true := by kernel_rfl
        have HF : Hid (∀ a, Exit.then (Code.wpIn (Fence.wide.inRound l) 1 Tryz.prog Code.ret (Exit.inBlock 1 QQ)) (Exit.inBlock 1 QQ) Exit.normal a ((((w.drewN nq).setCell ⟨L.M, 27, none⟩ (.bool true)).setCell ⟨L.M, 28, none⟩ (.int .i64 i)).drew)) := fun a => by
          have k0 : MAt (w.drewN nq) B L m := hm0.below (below_drewN h2 _)
          have k1 := k0.setShown true
          have k2 := k1.setCounts i
          have q1 : Kq B w (w.drewN nq) := .of_below (below_drewN (Below.refl _ _) _)
          have q2 := (q1.trans (k0.kqM 27 (.bool true))).trans (k1.kqM 28 (.int .i64 i))
          refine wpIn_ret ?_
          exact HRT.out _ _ q2.drew.from ⟨rfl, pre, i, rfl, h1, HE.out, k2.below (Below.refl _ _).drew, ((Kq.of_below (hB0.trans (h2.mono (by omega)))).trans q2).drew⟩
        generalize hwq : w.drewN nq = wq at HF ⊢
        have q4 : wq.cell? ⟨W.heap.size, 0, none⟩ = some (.pointer (some ⟨L.M, 0, none⟩)) := by rw [← hwq]; exact c4
        have q5 : wq.cell? ⟨L.M, 27, none⟩ = some (.bool m.shown) := by rw [← hwq]; exact c5
        have q6 : wq.cell? ⟨L.M, 28, none⟩ = some (.int .i64 m.counts) := by rw [← hwq]; exact c6
        have q7 : wq.frozen? ⟨L.M, 27, none⟩ = false := by rw [← hwq]; exact c7
        have q8 : wq.frozen? ⟨L.M, 28, none⟩ = false := by rw [← hwq]; exact c8
        have qne : ¬ W.heap.size = L.M := by omega
        clear hwq c1 c2 c3 c4 c5 c6 c7 c8
        gi_region_with_o (fail)
        all_goals exact HF.out _
      · have t2 : decide (t.done ≤ m.cycle) = false := by simp; omega
        have he : showsAt m.given m.cycle i = false := by rw [HSH.out]; simp [hd]
        have HE := hide he
        have HT0 := hide ht0
        have HD := hide hd
        clear he HSH ht0 hd
        refine round_quiet (by kernel_rfl) (by kernel_rfl) rfl (by simp [Exit.then, Exit.inBlock, hO]) ?_
        repeat (go_big_quiet_step (fail))
        refine wpQuiet_nil ?_
        rintro w1 ⟨nq, rfl⟩
        simp only [Exit.then]
        refine wpIn_cond_false rfl ?_
        refine wpIn_skip ?_
        exact HSK.out _ _ HE.out
  case hdone =>
    rintro D w hD ⟨h1, h2⟩ hK
    have hm' := hm0.below h2
    refine leave_mark_end (v := .tuple #[]) hK (by simp [results, Tryz.results68, go_sem]) ⟨rfl, ?_, kq_mark (.of_below (hB0.trans (h2.mono (by omega)))) (by omega) _⟩
    unfold showM
    rw [firstShown_none h1]
    exact mat_mark hm' hK _
  case hstop =>
    rintro D c k' w hD hk' ⟨rfl, pre0, i, h1, h2, h3, h4, h6⟩ hK
    have e : pre0 = List.range k' ∧ i = k' := by
      rw [List.range_succ] at h1
      have := List.append_inj' h1 (by simp)
      exact ⟨this.1.symm, by have := this.2; simp at this; exact this.symm⟩
    obtain ⟨rfl, rfl⟩ := e
    go_wp2
    refine leave_mark (v := .tuple #[]) hK (by simp [results, Tryz.results68, go_sem]) ⟨rfl, ?_, kq_mark h6 (by omega) _⟩
    unfold showM
    rw [firstShown_some hk' h2 h3]
    exact mat_mark h4 hK _

end Go.Proofs.YtmeiogoodbnkkaaGreat
