/- Several texts in one: RD, RE, RX. -/
import Derived.Test.YtmeiogoodbnkkaaGreatCRB
import Derived.Test.YtmeiogoodbnkkaaGreatCRC
/- A range over the orders ahead of a place: the rule. -/
namespace Go.Proofs.YtmeiogoodbnkkaaGreat
open Go.RowKit

theorem ownPostG_val {N B : Nat} {Kp : World → World → Prop} {I : List Nat → World → Prop} {Ix : Code → List Nat → World → Prop} {pre : List (Fin N)} {x : Fin N} {W : World} : ∀ (e : Exit) (a : Act) (W' : World),
    ownPostG B Kp I Ix (pre.map (fun x => x.1) ++ [x.1]) W e a W' → ownPostG B Kp (fun (s : List (Fin N)) W => I (s.map (fun x => x.1)) W) (fun c (s : List (Fin N)) W => Ix c (s.map (fun x => x.1)) W) (pre ++ [x]) W e a W'
  | .normal, _, _, h => ⟨h.1, h.2.1, by simpa using h.2.2⟩
  | .ret, _, _, h => ⟨h.1, by simpa using h.2⟩
  | .exit _, _, _, h => ⟨h.1, by simpa using h.2⟩
  | .goto _, _, _, h => ⟨h.1, by simpa using h.2⟩
  | .panic _, _, _, h => h.elim
  | .outgrown, _, _, h => h.elim

theorem wp_ahead {g : Operand} {ps : Array Tmp} {assign body : Code} {Q : Exit → Act → World → Prop} {a : Act} {w : World} (bP bR rb ro G len cap N : Nat) (p : Option Addr)
    (hg : a.eval g = .func (.func 87) #[] #[.pointer (some ⟨bP, 0, none⟩), .pointer (some ⟨bR, 0, none⟩)]) (hps : ps.size = 2)
    (hP : w.cell? ⟨bP, 0, none⟩ = some (.int .i64 N)) (hR : w.cell? ⟨bR, 0, none⟩ = some (.pointer (some ⟨rb, ro, none⟩))) (hH : w.cell? ⟨rb, ro, none⟩ = some (.slice p len cap))
    (hN : N ≤ len) (hp : 0 < N → p = some ⟨G, 0, none⟩) (hsm : len ≤ 1000000)
    (I : List Nat → World → Prop) (Ix : Code → List Nat → World → Prop) (hI : OwnFrom w.heap.size I) (hIx : ∀ c, OwnFrom w.heap.size (Ix c)) (h0 : I [] w) (a₁ : Nat → Act)
    (hassign : ∀ (l i : Nat) (W : World) (K : Act → World → Prop), i < N → K (a₁ i) W →
      assign.wpIn (Fence.wide.inRound l) 1 Tryz.prog (Exit.then K (fun _ _ _ => False)) { tmps := (ps.zip #[.int .i64 i, .pointer (some ⟨G, i * 17, none⟩)]).foldl (fun t (p, v) => t.setIfInBounds p v) a.tmps, defers := [] } W)
    (hbody : ∀ (l : Nat) (pre : List Nat) (i : Nat) (W : World), i < N → pre.length < N → I pre W → body.wpIn (Fence.wide.inRound l) 1 Tryz.prog (ownPostG w.heap.size (KpA bP bR rb ro) I Ix (pre ++ [i]) W) (a₁ i) W)
    (hdone : ∀ (D : Nat) (W : World), w.heap.size ≤ D → I (List.range N) W → W.heap[D]? = some (.deferred (some [])) → Q .normal { a with defers := { target := .collected D, args := #[] } :: a.defers } W)
    (hstop : ∀ (D : Nat) (c : Code) (k : Nat) (W : World), w.heap.size ≤ D → k < N → Ix c (List.range (k + 1)) W → W.heap[D]? = some (.deferred (some [])) → c.wp Tryz.prog Q { a with defers := { target := .collected D, args := #[] } :: a.defers } W) :
    (Code.rangeFunc g ps assign body).wp Tryz.prog Q a w := by
  have lP : bP < w.heap.size := World.block_lt_of_cell? w ⟨bP, 0, none⟩ hP
  have lR : bR < w.heap.size := World.block_lt_of_cell? w ⟨bR, 0, none⟩ hR
  have lH : rb < w.heap.size := World.block_lt_of_cell? w ⟨rb, ro, none⟩ hH
  refine (wpIn_wide (n := 3)).1 (wpIn_rangeFunc_ownG (F := Fence.wide) (n := 3) (α := Fin N) rfl (by omega) hg trivial (enters_of Tryz.func87 (by kernel_rfl) rfl)
    (encs := fun x => #[.int .i64 (x.1 : Nat), .pointer (some ⟨G, x.1 * 17, none⟩)]) (Kp := KpA bP bR rb ro) (S := fun xs => xs.map (fun x => x.1) = List.range N) (Sp := fun pre => ∃ k, k < N ∧ pre.map (fun x => x.1) = List.range (k + 1)) (N := N) (w0 := w)
    ?seq (fun h k => h.trans k) ?hKb (Below.refl _ _) (fun x => by simp [hps]) (fun (s : List (Fin N)) W => I (s.map (fun x : Fin N => x.1)) W) (fun c (s : List (Fin N)) W => Ix c (s.map (fun x : Fin N => x.1)) W)
    (fun s W W' row hs hgr hr => hI (s.map (fun x : Fin N => x.1)) W W' row hs hgr hr) (fun c s W W' row hs hgr hr => hIx c (s.map (fun x : Fin N => x.1)) W W' row hs hgr hr) (by simpa using h0) (fun x => a₁ x.1) (fun l x W K hK => hassign l x.1 W K x.2 hK)
    (fun l pre x W hi hl => wpIn_mono (hbody l _ x.1 W x.2 (by simpa using hl) hi) ownPostG_val) ?hdone ?hstop)
  case seq =>
    intro l J Jx W hW hJ hJx hY h0
    refine (ahead1_in 1 l bP bR rb ro G len cap N p J Jx hY W ?_ ?_ ?_ hN hp hsm h0).mono ?_
    · rw [hW.cell (p := ⟨bP, 0, none⟩) lP]; exact hP
    · rw [hW.cell (p := ⟨bR, 0, none⟩) lR]; exact hR
    · rw [hW.cell (p := ⟨rb, ro, none⟩) lH]; exact hH
    · exact fun _ _ h => h
  case hKb =>
    intro W l o o' hl _ _ _
    exact ⟨World.cell?_of_block (World.putObj_heap_other (by simp; omega)), World.cell?_of_block (World.putObj_heap_other (by simp; omega)), World.cell?_of_block (World.putObj_heap_other (by simp; omega))⟩
  case hdone =>
    intro D xs W hD hS hi hK
    exact hdone D W hD (by rw [← hS]; exact hi) hK
  case hstop =>
    intro D c pre W hD ⟨k, hk, hS⟩ hi hK
    exact wpIn_wide.2 (hstop D c k W hD hk (by rw [← hS]; exact hi) hK)

end Go.Proofs.YtmeiogoodbnkkaaGreat

/- Has each order ahead of a place written? -/
namespace Go.Proofs.YtmeiogoodbnkkaaGreat
open Go.RowKit

theorem MAt.ahead {W : World} {B : Nat} {L : Lo} {m : Mc} (h : MAt W B L m) {k : Nat} (hk : k ≤ m.given.length) : ∃ p cap G, L.gv = .slice p m.given.length cap ∧ (0 < k → p = some ⟨G, 0, none⟩) := by
  obtain ⟨p, cap, hgv⟩ := h.sl
  by_cases h0 : 0 < k
  · obtain ⟨G, cap', h1, _⟩ := h.row (i := 0) (by omega)
    rw [hgv] at h1
    simp only [Value.slice.injEq, true_and] at h1
    exact ⟨p, cap, G, hgv, fun _ => h1.1⟩
  · exact ⟨p, cap, 0, hgv, fun h => absurd h h0⟩

theorem kpa_of {n bP bR rb ro : Nat} {W0 w w' : World} (h : Below n W0 w) (h' : Below n W0 w') (hP : bP < n) (hR : bR < n) (hr : rb < n) : KpA bP bR rb ro w w' :=
  ⟨(h'.cell (p := ⟨bP, 0, none⟩) hP).trans (h.cell (p := ⟨bP, 0, none⟩) hP).symm, (h'.cell (p := ⟨bR, 0, none⟩) hR).trans (h.cell (p := ⟨bR, 0, none⟩) hR).symm, (h'.cell (p := ⟨rb, ro, none⟩) hr).trans (h.cell (p := ⟨rb, ro, none⟩) hr).symm⟩

theorem below_mark {B : Nat} {W w : World} {D : Nat} (h : Below B W w) (hD : B ≤ D) (o : Obj) : Below B W (w.putObj D o) :=
  h.trans ⟨rfl, rfl, rfl, by simp [World.putObj], fun k hk => World.putObj_heap_other (by omega)⟩

theorem allWr_false {g : List Tk} {k j : Nat} {t : Tk} (hj : j < k) (ht : g[j]? = some t) (hw : t.write = 0) : allWr g k = false := by
  unfold allWr
  rw [List.all_eq_false]
  exact ⟨t, List.mem_of_getElem? (i := j) (by rw [List.getElem?_take_of_lt hj]; exact ht), by simp [hw]⟩
theorem allWr_true {g : List Tk} {k : Nat} (h : ∀ j ∈ List.range k, ∀ t, g[j]? = some t → t.write ≠ 0) : allWr g k = true := by
  unfold allWr
  rw [List.all_eq_true]
  intro t ht
  obtain ⟨j, hj⟩ := List.getElem?_of_mem ht
  rw [List.getElem?_take] at hj
  split at hj
  · rename_i hlt
    simpa using h j (List.mem_range.2 hlt) t hj
  · cases hj

set_option maxRecDepth 10000 in
set_option maxHeartbeats 4000000 in
theorem allWritten_any (W : World) (B : Nat) (L : Lo) (m : Mc) (k : Nat) (hm : MAt W B L m) (hk : k ≤ m.given.length) (hsm : m.given.length ≤ 1000000) :
    Calls Tryz.prog 69 #[.pointer (some ⟨L.M, 0, none⟩), .int .i64 k] W fun e w' => e = .returned (.bool (allWr m.given k)) ∧ Below W.heap.size W w' := by
  have HM := hide hm
  clear hm
  refine calls_of_marks Tryz.func69 rfl ?_
  simp only [Tryz.ntmps69, List.size_toArray, List.length_cons, List.length_nil, Nat.reduceAdd, Nat.reduceSub, Array.replicate_succ, Array.replicate_zero, List.push_toArray, List.append_toArray, List.nil_append, List.cons_append]
  go_wp2_with (go_at_call 73; refine (tAhead_any _ _ _).mono ?_; rintro e w' ⟨rfl, rfl⟩)
  rename_i Q1 K1 hK1
  obtain ⟨p, cap, G, hgv, hG⟩ := HM.out.ahead hk
  have hlt := HM.out.lt
  obtain ⟨W0, hW0⟩ : ∃ W0, ((W.alloc (.cells #[.bool false] 4)).alloc (.cells #[.pointer (some ⟨L.M, 24, none⟩)] 141)).alloc (.cells #[.int .i64 k] 3) = W0 := ⟨_, rfl⟩
  have hB0 : Below W.heap.size W W0 := by rw [← hW0]; exact (((Below.refl _ _).alloc (Nat.le_refl _) _).alloc (by simp) _).alloc (by simp; omega) _
  have hsz : W0.heap.size = W.heap.size + 3 := by rw [← hW0]; simp
  have b0 : Bx W0 W.heap.size 4 (.bool false) := by rw [← hW0]; exact ((Bx.new W _ _).alloc _).alloc _
  have b1 : Bx W0 (W.heap.size + 1) 141 (.pointer (some ⟨L.M, 24, none⟩)) := by rw [← hW0]; have := (Bx.new (W.alloc (.cells #[.bool false] 4)) 141 (.pointer (some ⟨L.M, 24, none⟩))).alloc (.cells #[.int .i64 k] 3); simpa using this
  have b2 : Bx W0 (W.heap.size + 1 + 1) 3 (.int .i64 k) := by rw [← hW0]; have := Bx.new ((W.alloc (.cells #[.bool false] 4)).alloc (.cells #[.pointer (some ⟨L.M, 24, none⟩)] 141)) 3 (.int .i64 k); simpa using this
  have hm0 := HM.out.below hB0
  rw [hW0]
  refine wp_ahead (W.heap.size + 1 + 1) (W.heap.size + 1) L.M 24 G m.given.length cap k p rfl rfl b2.cell b1.cell (by rw [hm0.cGv, hgv]) hk hG hsm
    (fun pre w => (∀ j ∈ pre, ∀ t, m.given[j]? = some t → t.write ≠ 0) ∧ Below W0.heap.size W0 w)
    (fun c pre w => c = .ret ∧ (∃ j ∈ pre, ∃ t, m.given[j]? = some t ∧ t.write = 0) ∧ Bx w W.heap.size 4 (.bool false) ∧ Below W.heap.size W w)
    (fun s A A' row hs hg hr => ⟨hs.1, ownFrom_below (β := List Nat) (Nat.le_refl _) (Nat.le_refl _) s A A' row hs.2 hg hr⟩)
    (fun c s A A' row hs hg hr => ⟨hs.1, hs.2.1, hs.2.2.1.ck (ck_grown hg hr), ownFrom_below (β := List Nat) (Nat.le_refl _) (by omega) s A A' row hs.2.2.2 hg hr⟩)
    ⟨by simp, Below.refl _ _⟩ (fun i => ⟨#[.pointer (some ⟨L.M, 0, none⟩), .int .i64 k, undef, undef, .pointer (some ⟨W.heap.size, 0, none⟩), undef, .pointer (some ⟨G, i * 17, none⟩), .pointer (some ⟨L.M, 0, none⟩), .pointer (some ⟨L.M, 0, none⟩), .pointer (some ⟨L.M, 24, none⟩), .int .i64 k, .func (.func 87) #[] #[.pointer (some ⟨W.heap.size + 1 + 1, 0, none⟩), .pointer (some ⟨W.heap.size + 1, 0, none⟩)], .int .i64 i, .pointer (some ⟨G, i * 17, none⟩), undef, undef, undef, undef, undef, undef], []⟩) ?hassign ?hbody ?hdone ?hstop
  case hassign =>
    intro l i w K hi hK
    refine round_list rfl (fun _ _ h => h.elim) ?_
    go_wp2
    exact hK
  case hbody =>
    rintro l pre i w hi _ ⟨h1, h2⟩
    have hmw := hm0.below h2
    obtain ⟨t, ht⟩ : ∃ t, m.given[i]? = some t := ⟨_, List.getElem?_eq_getElem (by omega)⟩
    have hgv' := hgv
    rw [hG (by omega)] at hgv'
    have cw : w.cell? ⟨G, i * 17 + 12, none⟩ = some (.int .i64 t.write) := hmw.tk hgv' ht (j := 12) (by omega)
    have bw := b0.below h2 (by omega)
    have hc0 := bw.cell
    have hf0 := bw.frozen
    have HMW := hide hmw
    clear hmw
    refine wpIn_block ?_
    refine wpIn_seq ?_
    refine round_list rfl (by simp [Exit.then, Exit.inBlock, ownPostG]) ?_
    by_cases hz : t.write = 0
    · rw [hz] at cw
      go_wp2
      refine wpIn_cond_true rfl ?_
      refine wpIn_seq ?_
      refine round_list rfl (by simp [Exit.then, Exit.inBlock, ownPostG]) ?_
      go_wp2
      refine wpIn_ret ?_
      refine ⟨((Kq.refl 0 w).from (B' := W0.heap.size)).trans ?_, rfl, ⟨i, by simp, t, ht, hz⟩, bw.set _, ?_⟩
      · exact ((KeepsOthers.setCell _ _ _).from _)
      · exact (hB0.trans (h2.mono (by omega))).setCell (Nat.le_refl _) _
    · have hz' : ((t.write : Int) == 0) = false := by simp; omega
      go_wp2
      refine wpIn_cond_false rfl ?_
      refine wpIn_skip ?_
      refine ⟨KeepsFrom.refl _ _, kpa_of h2 h2 (by omega) (by omega) (by omega), ?_, h2⟩
      intro j hj t' ht'
      rcases List.mem_append.1 hj with hj | hj
      · exact h1 j hj t' ht'
      · simp at hj; subst hj; rw [ht] at ht'; cases ht'; exact hz
  case hdone =>
    rintro D w hD ⟨h1, h2⟩ hK
    have bw := b0.below h2 (by omega)
    have hc0 := bw.cell
    have hf0 := bw.frozen
    refine hK1 _ _ ?_
    go_wp2
    have hK' : (w.setCell ⟨W.heap.size, 0, none⟩ (.bool true)).heap[D]? = some (.deferred (some [])) := by rw [heap_setCell_other _ _ _ _ (by simp; omega)]; exact hK
    have hr : (((w.setCell ⟨W.heap.size, 0, none⟩ (.bool true)).putObj D (.deferred none))).cell? ⟨W.heap.size, 0, none⟩ = some (.bool true) := by
      rw [World.cell?_of_block (World.putObj_heap_other (by simp; omega))]; exact (bw.set _).cell
    refine leave_mark (v := .bool true) hK' (by simp [results, Tryz.results69, go_sem, hr]) ⟨by rw [allWr_true h1], ?_⟩
    exact below_mark ((hB0.trans (h2.mono (by omega))).setCell (Nat.le_refl _) _) (by omega) _
  case hstop =>
    rintro D c k' w hD hk' ⟨rfl, ⟨j, hj, t, ht, hz⟩, h3, h4⟩ hK
    go_wp2
    have hr : ((w.putObj D (.deferred none))).cell? ⟨W.heap.size, 0, none⟩ = some (.bool false) := by
      rw [World.cell?_of_block (World.putObj_heap_other (by simp; omega))]; exact h3.cell
    refine leave_mark (v := .bool false) hK (by simp [results, Tryz.results69, go_sem, hr]) ⟨by rw [allWr_false (by have := List.mem_range.1 hj; omega) ht hz], ?_⟩
    exact below_mark h4 (by omega) _

end Go.Proofs.YtmeiogoodbnkkaaGreat

/- The row of the changes: its calls, and a range over it, the latest first. -/
namespace Go.Proofs.YtmeiogoodbnkkaaGreat
open Go.RowKit

set_option maxHeartbeats 1000000 in
theorem cLen_any (rb ro n c : Nat) (p : Option Addr) (w : World) (hc : w.cell? ⟨rb, ro, none⟩ = some (.slice p n c)) :
    Calls Tryz.prog 106 #[.pointer (some ⟨rb, ro, none⟩)] w fun e w' => e = .returned (.int .i64 n) ∧ w' = w := by
  go_enter Tryz.func106, Tryz.ntmps106
  go_wp2
  go_ret
  exact ⟨rfl, rfl⟩

set_option maxHeartbeats 1000000 in
theorem cAt_any (rb ro g n c i : Nat) (w : World) (hc : w.cell? ⟨rb, ro, none⟩ = some (.slice (some ⟨g, 0, none⟩) n c)) (hi : i < n) :
    Calls Tryz.prog 107 #[.pointer (some ⟨rb, ro, none⟩), .int .i64 i] w fun e w' => e = .returned (.pointer (some ⟨g, i * 4, none⟩)) ∧ w' = w := by
  have h0 : (0 : Int) ≤ (i : Int) := by omega
  have h1 : (i : Int) < (n : Int) := by omega
  go_enter Tryz.func107, Tryz.ntmps107
  go_wp2
  go_ret
  exact ⟨rfl, rfl⟩

set_option maxHeartbeats 1000000 in
theorem cBack_any (r : Option Addr) (w : World) :
    Calls Tryz.prog 86 #[.pointer r] w fun e w' => e = .returned (.func (.func 105) #[] #[.pointer (some ⟨w.heap.size, 0, none⟩)]) ∧
      w' = w.alloc (.cells #[.pointer r] 149) := by
  go_enter Tryz.func86, Tryz.ntmps86
  go_wp2
  go_ret
  exact ⟨rfl, rfl⟩

/-- The last k of N, the latest first. -/
def downN (N : Nat) : (k : Nat) → k ≤ N → List (Fin N)
  | 0, _ => []
  | k + 1, h => downN N k (Nat.le_of_lt h) ++ [⟨N - 1 - k, by omega⟩]

theorem downN_length {N : Nat} : ∀ (k : Nat) (h : k ≤ N), (downN N k h).length = k
  | 0, _ => rfl
  | k + 1, h => by simp [downN, downN_length k]

theorem downN_map {N : Nat} : ∀ (k : Nat) (h : k ≤ N), (downN N k h).map (fun x => x.1) = (List.range k).map (fun j => N - 1 - j)
  | 0, _ => rfl
  | k + 1, h => by simp [downN, downN_map k, List.range_succ]

def KpB (bR rb ro : Nat) (W W' : World) : Prop := W'.cell? ⟨bR, 0, none⟩ = W.cell? ⟨bR, 0, none⟩ ∧ W'.cell? ⟨rb, ro, none⟩ = W.cell? ⟨rb, ro, none⟩
theorem KpB.refl {bR rb ro : Nat} (W : World) : KpB bR rb ro W W := ⟨rfl, rfl⟩
theorem KpB.trans {bR rb ro : Nat} {A B C : World} (h : KpB bR rb ro A B) (k : KpB bR rb ro B C) : KpB bR rb ro A C := ⟨k.1.trans h.1, k.2.trans h.2⟩

set_option maxHeartbeats 4000000 in
theorem back1_in (m l bR rb ro G N cap : Nat) (p : Option Addr) (J Jx : List (Fin N) → World → Prop)
    (hY : ∀ pre x W, J pre W → pre.length < N → YieldAt Fence.wide m Tryz.prog l #[.int .i64 ((x : Fin N).1 : Nat), .pointer (some ⟨G, x.1 * 4, none⟩)] W fun e W' =>
      (e = .returned (.bool true) ∧ J (pre ++ [x]) W' ∧ KpB bR rb ro W W') ∨ (e = .returned (.bool false) ∧ Jx (pre ++ [x]) W'))
    (W : World) (hR : W.cell? ⟨bR, 0, none⟩ = some (.pointer (some ⟨rb, ro, none⟩))) (hH : W.cell? ⟨rb, ro, none⟩ = some (.slice p N cap))
    (hp : 0 < N → p = some ⟨G, 0, none⟩) (hsm : N ≤ 1000000) (h0 : J [] W) :
    CallsIn Fence.wide (m + 1) Tryz.prog 105 #[.func (.yield l) #[] #[], .pointer (some ⟨bR, 0, none⟩)] W fun e W' => (∃ v, e = .returned v) ∧
      ((∃ xs, xs.map (fun x => x.1) = (List.range N).map (fun j => N - 1 - j) ∧ J xs W') ∨ (∃ pre, (∃ k, k < N ∧ pre.map (fun x => x.1) = (List.range (k + 1)).map (fun j => N - 1 - j)) ∧ Jx pre W')) := by
  refine callsIn_of_wp Tryz.func105 rfl trivial ?_ rfl
  simp only [Tryz.ntmps105, List.size_toArray, List.length_cons, List.length_nil, Nat.reduceAdd, Nat.reduceSub, Array.replicate_succ, Array.replicate_zero, List.push_toArray, List.append_toArray, List.nil_append, List.cons_append]
  gi_wp2_with (refine ⟨trivial, ?_⟩; gi_at_call 106; refine (callsIn_wide.2 (cLen_any rb ro N cap p _ hH)).mono ?_; rintro e w' ⟨rfl, rfl⟩)
  gi_loopw [3] (fun i wr => ∃ (k : Nat) (hk : k ≤ N), i = .int .i64 ((N : Int) - 1 - k) ∧ J (downN N k hk) wr ∧ KpB bR rb ro w' wr) (fun i _ => (intOf i + 1).toNat)
  case atStart => exact ⟨0, Nat.zero_le _, by go_num, h0, KpB.refl _⟩
  case round =>
    obtain ⟨k, hk, rfl, hJ, hkp⟩ := hrel
    by_cases hlt : k < N
    · have hJ1 := hide hJ
      have hp' := hp (by omega)
      subst hp'
      have c1 := hkp.1.trans hR
      have c2 := hkp.2.trans hH
      have ej : ((N : Int) - 1 - k) = ((N - 1 - k : Nat) : Int) := by omega
      have hjl : N - 1 - k < N := by omega
      obtain ⟨fn, tmps, assign, body, hy, hRd⟩ := hY _ ⟨N - 1 - k, hjl⟩ wr hJ1.out (by rw [downN_length]; exact hlt)
      dsimp only at hy
      rw [ej]
      generalize hjj : N - 1 - k = j at *
      have t1 : ((0 : Int) ≤ (j : Int)) := by omega
      gi_wp2_with (refine ⟨trivial, ?_⟩; gi_at_call 107; refine (callsIn_wide.2 (cAt_any rb ro G N cap j _ c2 (by omega))).mono ?_; rintro e w' ⟨rfl, rfl⟩)
      refine hRd.mono ?_
      rintro e W3 (⟨rfl, hJ3, hk3⟩ | ⟨rfl, hJx3⟩)
      · gi_wp2
        go_roundw
        case rel =>
          refine ⟨k + 1, hlt, by go_num, ?_, hkp.trans hk3⟩
          subst hjj
          exact hJ3
        case measure => first | (simp [intOf]; done) | (simp [intOf]; omega)
      · gi_wp2
        refine bodyPost_ret (results_none rfl _ _ _) rfl ?_
        subst hjj
        exact ⟨⟨_, rfl⟩, .inr ⟨_, ⟨k, hlt, by simp [downN_map, List.range_succ]⟩, hJx3⟩⟩
    · have t1 : ¬ ((0 : Int) ≤ (N : Int) - 1 - (k : Int)) := by omega
      gi_wp2
      go_end0
      exact ⟨⟨_, rfl⟩, .inl ⟨_, by rw [downN_map]; congr 2; omega, hJ⟩⟩

theorem ownPostG_valB {N B : Nat} {Kp : World → World → Prop} {I : List Nat → World → Prop} {Ix : Code → List Nat → World → Prop} {pre : List (Fin N)} {x : Fin N} {W : World} : ∀ (e : Exit) (a : Act) (W' : World),
    ownPostG B Kp I Ix (pre.map (fun x => x.1) ++ [x.1]) W e a W' → ownPostG B Kp (fun (s : List (Fin N)) W => I (s.map (fun x => x.1)) W) (fun c (s : List (Fin N)) W => Ix c (s.map (fun x => x.1)) W) (pre ++ [x]) W e a W' := ownPostG_val

theorem wp_back {g : Operand} {ps : Array Tmp} {assign body : Code} {Q : Exit → Act → World → Prop} {a : Act} {w : World} (bR rb ro G N cap : Nat) (p : Option Addr)
    (hg : a.eval g = .func (.func 105) #[] #[.pointer (some ⟨bR, 0, none⟩)]) (hps : ps.size = 2)
    (hR : w.cell? ⟨bR, 0, none⟩ = some (.pointer (some ⟨rb, ro, none⟩))) (hH : w.cell? ⟨rb, ro, none⟩ = some (.slice p N cap))
    (hp : 0 < N → p = some ⟨G, 0, none⟩) (hsm : N ≤ 1000000)
    (I : List Nat → World → Prop) (Ix : Code → List Nat → World → Prop) (hI : OwnFrom w.heap.size I) (hIx : ∀ c, OwnFrom w.heap.size (Ix c)) (h0 : I [] w) (a₁ : Nat → Act)
    (hassign : ∀ (l i : Nat) (W : World) (K : Act → World → Prop), i < N → K (a₁ i) W →
      assign.wpIn (Fence.wide.inRound l) 1 Tryz.prog (Exit.then K (fun _ _ _ => False)) { tmps := (ps.zip #[.int .i64 i, .pointer (some ⟨G, i * 4, none⟩)]).foldl (fun t (p, v) => t.setIfInBounds p v) a.tmps, defers := [] } W)
    (hbody : ∀ (l : Nat) (pre : List Nat) (i : Nat) (W : World), i < N → pre.length < N → I pre W → body.wpIn (Fence.wide.inRound l) 1 Tryz.prog (ownPostG w.heap.size (KpB bR rb ro) I Ix (pre ++ [i]) W) (a₁ i) W)
    (hdone : ∀ (D : Nat) (W : World), w.heap.size ≤ D → I ((List.range N).map (fun j => N - 1 - j)) W → W.heap[D]? = some (.deferred (some [])) → Q .normal { a with defers := { target := .collected D, args := #[] } :: a.defers } W)
    (hstop : ∀ (D : Nat) (c : Code) (k : Nat) (W : World), w.heap.size ≤ D → k < N → Ix c ((List.range (k + 1)).map (fun j => N - 1 - j)) W → W.heap[D]? = some (.deferred (some [])) → c.wp Tryz.prog Q { a with defers := { target := .collected D, args := #[] } :: a.defers } W) :
    (Code.rangeFunc g ps assign body).wp Tryz.prog Q a w := by
  have lR : bR < w.heap.size := World.block_lt_of_cell? w ⟨bR, 0, none⟩ hR
  have lH : rb < w.heap.size := World.block_lt_of_cell? w ⟨rb, ro, none⟩ hH
  refine (wpIn_wide (n := 3)).1 (wpIn_rangeFunc_ownG (F := Fence.wide) (n := 3) (α := Fin N) rfl (by omega) hg trivial (enters_of Tryz.func105 (by kernel_rfl) rfl)
    (encs := fun x => #[.int .i64 (x.1 : Nat), .pointer (some ⟨G, x.1 * 4, none⟩)]) (Kp := KpB bR rb ro) (S := fun xs => xs.map (fun x => x.1) = (List.range N).map (fun j => N - 1 - j)) (Sp := fun pre => ∃ k, k < N ∧ pre.map (fun x => x.1) = (List.range (k + 1)).map (fun j => N - 1 - j)) (N := N) (w0 := w)
    ?seq (fun h k => h.trans k) ?hKb (Below.refl _ _) (fun x => by simp [hps]) (fun (s : List (Fin N)) W => I (s.map (fun x : Fin N => x.1)) W) (fun c (s : List (Fin N)) W => Ix c (s.map (fun x : Fin N => x.1)) W)
    (fun s W W' row hs hgr hr => hI (s.map (fun x : Fin N => x.1)) W W' row hs hgr hr) (fun c s W W' row hs hgr hr => hIx c (s.map (fun x : Fin N => x.1)) W W' row hs hgr hr) (by simpa using h0) (fun x => a₁ x.1) (fun l x W K hK => hassign l x.1 W K x.2 hK)
    (fun l pre x W hi hl => wpIn_mono (hbody l _ x.1 W x.2 (by simpa using hl) hi) ownPostG_val) ?hdone ?hstop)
  case seq =>
    intro l J Jx W hW hJ hJx hY h0
    refine (back1_in 1 l bR rb ro G N cap p J Jx hY W ?_ ?_ hp hsm h0).mono ?_
    · rw [hW.cell (p := ⟨bR, 0, none⟩) lR]; exact hR
    · rw [hW.cell (p := ⟨rb, ro, none⟩) lH]; exact hH
    · exact fun _ _ h => h
  case hKb =>
    intro W l o o' hl _ _ _
    exact ⟨World.cell?_of_block (World.putObj_heap_other (by simp; omega)), World.cell?_of_block (World.putObj_heap_other (by simp; omega))⟩
  case hdone =>
    intro D xs W hD hS hi hK
    exact hdone D W hD (by rw [← hS]; exact hi) hK
  case hstop =>
    intro D c pre W hD ⟨k, hk, hS⟩ hi hK
    exact wpIn_wide.2 (hstop D c k W hD hk (by rw [← hS]; exact hi) hK)

end Go.Proofs.YtmeiogoodbnkkaaGreat
