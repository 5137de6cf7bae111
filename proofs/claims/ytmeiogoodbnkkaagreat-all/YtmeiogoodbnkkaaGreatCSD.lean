/- The times of the orders, as a list. -/
import Derived.Test.YtmeiogoodbnkkaaGreatCRQRT
import Derived.Test.YtmeiogoodbnkkaaGreatCRA2
import Derived.Test.YtmeiogoodbnkkaaGreatCRKRL
import Derived.Shelf.RegionOpen
import Derived.Deep.DeepAppendRoom
import Derived.Laws.MakeOwn
import Derived.StillTailTactics
namespace Go.Proofs.YtmeiogoodbnkkaaGreat
open Go.RowKit Go.Sort

def tmCells (t : Tk) : List Value := [.int .i64 t.number, .int .i64 t.issue, .int .i64 t.read, .int .i64 t.done, .int .i64 t.write]
def tkD : Tk := ⟨Ord.none, 0, 0, 0, 0, 0, 0, 0, 0, 0⟩
def tmAt (g : List Tk) (j : Nat) : List Value := tmCells (g[j]?.getD tkD)

theorem tm_len (t : Tk) : (tmCells t).length = 5 := rfl
theorem tm_one (t : Tk) : ∀ u ∈ tmCells t, u.oneCell' = true := by
  intro u hu
  simp [tmCells] at hu
  rcases hu with rfl | rfl | rfl | rfl | rfl <;> rfl

theorem tmAt_range : ∀ g : List Tk, (List.range g.length).flatMap (tmAt g) = g.flatMap tmCells
  | [] => rfl
  | t :: g => by
    rw [List.length_cons, List.range_succ_eq_map, List.flatMap_cons, List.flatMap_cons, List.flatMap_map]
    congr 1
    rw [← tmAt_range g]
    rfl

theorem Tryz.infoTm : (Tryz.prog.info? 79).map (fun i => (i.zero, i.size, i.bytes)) = some (some (.agg #[.int .i64 0, .int .i64 0, .int .i64 0, .int .i64 0, .int .i64 0]), 5, 40) := by kernel_rfl

theorem from_grown {B : Nat} {w w' : World} {g : Nat} (h : w.grownBy w' (some g)) {cs : Array Value} {t : TypeId} {fr : Nat × Nat} (hg : w.heap[g]? = some (.cells cs t fr)) : KeepsFrom B w w' :=
  ⟨h.size, fun k o _ hk ho => by
    rw [h.block k (Array.getElem?_eq_some_iff.1 hk).1 (fun e => by
      cases e
      rw [hg] at hk
      cases hk
      simp [Obj.isCells] at ho)]
    exact hk⟩

theorem row_blk {W : World} {B : Nat} {e : TypeId} {size n n' cap : Nat} {g : Nat} {xs : List Value} (h : W.ownsRow B e size (.slice (some ⟨g, 0, none⟩) n' cap) n xs) : ∃ cs, W.heap[g]? = some (.cells cs e (0, 0)) := by
  rcases h.2 with ⟨h1, _⟩ | ⟨g', cap', cur, h1, _, h3, _⟩
  · cases h1
  · simp only [Value.slice.injEq, Option.some.injEq, Addr.mk.injEq, and_true] at h1
    obtain ⟨rfl, _⟩ := h1
    exact ⟨cur, h3⟩

theorem newsTm (w : World) (t : Tk) : ∀ j u, (tmCells t)[j]? = some u → (w.drew.alloc (.cells (tmCells t).toArray 79)).cell? ((⟨w.heap.size, 0, none⟩ : Addr).add j) = some u := fun j u hu =>
  World.news_of_block (heap_alloc_new w.drew (.cells (tmCells t).toArray 79)) j u (by simpa using hu)

section
variable {P : Program} {w : World}
theorem step_append_spare {ops : Array Oper} {o : Oper} {a : Act} {K : Act → World → Prop} {Q : Exit → Act → World → Prop} {E : Prop} (hgd : o.guard = none) (s x : Operand) (t : TypeId)
    (ho : o.op = .call { callee := .builtin .append, args := #[s, x], argTypes := #[t, t] })
    (base : Nat) (e : TypeId) (i : TypeInfo) (size : Nat) (ht : P.underlying t = some (.slice e)) (hi : P.info? e = some i) (hsize : i.size = size)
    (g n cap : Nat) (xs : List Value) (hs : a.eval s = .slice (some ⟨g, 0, none⟩) n cap) (hown : w.ownsRow base e size (.slice (some ⟨g, 0, none⟩) n cap) n xs)
    (ad : Addr) (m c : Nat) (news : List Value) (hx : a.eval x = .slice (some ad) m c) (hl : news.length = m * size) (hnews : ∀ j u, news[j]? = some u → w.cell? (ad.add j) = some u) (h1 : ∀ u ∈ news, u.oneCell' = true)
    (hroom : n + m ≤ cap)
    (h : ∀ w', w'.ownsRow base e size (.slice (some ⟨g, 0, none⟩) (n + m) cap) (n + m) (xs ++ news) → w.grownBy w' (some g) → K (a.put o.dst (.slice (some ⟨g, 0, none⟩) (n + m) cap)) w') :
    if Region.wanted o (yielded ops a.tmps) = true then Oper.wp P o a w K Q else E := by
  have hw : Region.wanted o (yielded ops a.tmps) = true := by simp [Region.wanted, hgd]
  rw [if_pos hw]
  exact wp_append_own_spare w s x t ho base e i size ht hi hsize g n cap xs hs hown ad m c news hx hl hnews h1 hroom h
end

set_option maxRecDepth 10000 in
set_option maxHeartbeats 8000000 in
theorem times_any (W : World) (B : Nat) (L : Lo) (m : Mc) (hm : MAt W B L m) (hsm : m.given.length ≤ 100000) :
    Calls Tryz.prog 50 #[.pointer (some ⟨L.M, 0, none⟩)] W fun e w' =>
      e = .returned (.slice (some ⟨W.heap.size, 0, none⟩) m.given.length m.given.length) ∧ w'.ownsRow W.heap.size 79 5 (.slice (some ⟨W.heap.size, 0, none⟩) m.given.length m.given.length) m.given.length (m.given.flatMap tmCells) ∧ Below W.heap.size W w' := by
  have HM := hide hm
  clear hm
  have hlt := HM.out.lt
  obtain ⟨i0, hi, hz0, hz1, hz2⟩ := info_parts Tryz.infoTm
  obtain ⟨n, hn⟩ : ∃ n, m.given.length = n := ⟨_, rfl⟩
  have hmk : ∀ w, (Instr.makeSlice 55 (.int .i64 0) (.int .i64 (n : Int))).run Tryz.prog w = .ok (.slice (some ⟨w.heap.size, 0, none⟩) 0 n) (w.alloc (.cells (madeCells #[.int .i64 0, .int .i64 0, .int .i64 0, .int .i64 0, .int .i64 0] (n * 5)) 79)) := fun w => by
    have hr := run_make (P := Tryz.prog) w 55 79 i0 _ Tryz.underlying55 hi hz0 .i64 .i64 0 n (Int.le_refl _) (by omega) (by rw [hz2]; omega) (by omega)
    simp only [Int.toNat_zero, Int.toNat_natCast, hz1] at hr
    exact hr
  obtain ⟨p, cap, G, hgv, hG⟩ := HM.out.ahead (Nat.le_refl _)
  rw [hn] at hgv hG
  have c0 : W.cell? ⟨L.M, 24, none⟩ = some (.slice p n cap) := by rw [← hgv]; exact HM.out.cGv
  obtain ⟨V1, hV1⟩ : ∃ V1, W.alloc (.cells (madeCells #[.int .i64 0, .int .i64 0, .int .i64 0, .int .i64 0, .int .i64 0] (n * 5)) 79) = V1 := ⟨_, rfl⟩
  have ho1 : V1.ownsRow W.heap.size 79 5 (.slice (some ⟨W.heap.size, 0, none⟩) 0 n) 0 [] := by
    rw [← hV1]
    have := World.ownsRow_made (e := 79) (size := 5) (base := W.heap.size) W (madeCells #[.int .i64 0, .int .i64 0, .int .i64 0, .int .i64 0, .int .i64 0] (n * 5)) n (Nat.le_refl _) (by unfold maxLen; omega) (size_madeCells _ _)
    exact this
  have z1 : V1.heap.size = W.heap.size + 1 := by rw [← hV1]; simp
  have hb1 : Below W.heap.size W V1 := by rw [← hV1]; exact (Below.refl _ _).alloc (Nat.le_refl _) _
  obtain ⟨V2, hV2⟩ : ∃ V2, V1.alloc (.cells #[.slice (some ⟨W.heap.size, 0, none⟩) 0 n] 55) = V2 := ⟨_, rfl⟩
  have z2 : V2.heap.size = W.heap.size + 1 + 1 := by rw [← hV2]; simp [z1]
  have hb2 : Below W.heap.size W V2 := by rw [← hV2]; exact hb1.alloc (by omega) _
  have bl2 : Bx V2 (W.heap.size + 1) 55 (.slice (some ⟨W.heap.size, 0, none⟩) 0 n) := by rw [← hV2, ← z1]; exact Bx.new V1 _ _
  have ho2 : V2.ownsRow W.heap.size 79 5 (.slice (some ⟨W.heap.size, 0, none⟩) 0 n) 0 [] := by rw [← hV2]; exact World.ownsRow.alloc ho1 _
  have HV1 := hide hV1
  have HV2 := hide hV2
  clear hV1 hV2
  refine calls_of_marks Tryz.func50 rfl ?_
  simp only [Tryz.ntmps50, List.size_toArray, List.length_cons, List.length_nil, Nat.reduceAdd, Nat.reduceSub, Array.replicate_succ, Array.replicate_zero, List.push_toArray, List.append_toArray, List.nil_append, List.cons_append]
  go_wp2_with (go_at_call 72; refine (tLen_any L.M 24 n cap p _ c0).mono ?_; rintro e W' ⟨rfl, rfl⟩)
  rw [HV1.out, HV2.out]
  have hm2 := HM.out.below hb2
  have e2 : V2.drew.cell? ⟨L.M, 24, none⟩ = some (.slice p n cap) := by rw [← hgv]; exact hm2.cGv
  refine wp_region_still_tail 7 (by kernel_rfl) (by kernel_rfl) ?_
  simp only [List.take_succ_cons, List.take_zero, List.drop_succ_cons, List.drop_zero]
  repeat still_step
  still_call (tLen_any L.M 24 n cap p _ e2)
  refine wpStill_nil ?_
  go_wp2_with (go_at_call 73; refine (tAhead_any _ _ _).mono ?_; rintro e w' ⟨rfl, rfl⟩)
  rename_i Q1 K1 hK1
  obtain ⟨W0, hW0⟩ : ∃ W0, ((V2.alloc (.cells #[.pointer (some ⟨L.M, 24, none⟩)] 141)).alloc (.cells #[.int .i64 n] 3)).drew = W0 := ⟨_, rfl⟩
  have hsz : W0.heap.size = W'.heap.size + 4 := by rw [← hW0]; simp [z2]
  have hB0 : Below W'.heap.size W' W0 := by rw [← hW0]; exact ((hb2.alloc (by omega) _).alloc (by simp; omega) _).drew
  have bl : Bx W0 (W'.heap.size + 1) 55 (.slice (some ⟨W'.heap.size, 0, none⟩) 0 n) := by rw [← hW0]; exact (bl2.alloc _).alloc _
  have b1 : Bx W0 (W'.heap.size + 1 + 1) 141 (.pointer (some ⟨L.M, 24, none⟩)) := by rw [← hW0, ← z2]; exact (Bx.new V2 _ _).alloc _
  have b2 : Bx W0 (W'.heap.size + 1 + 1 + 1) 3 (.int .i64 n) := by rw [← hW0]; have := Bx.new (V2.alloc (.cells #[.pointer (some ⟨L.M, 24, none⟩)] 141)) 3 (.int .i64 n); simp only [World.size_alloc, z2] at this; exact this
  have ho0 : W0.ownsRow W'.heap.size 79 5 (.slice (some ⟨W'.heap.size, 0, none⟩) 0 n) 0 [] := by rw [← hW0]; exact World.ownsRow.alloc (World.ownsRow.alloc ho2 _) _
  have hm0 := HM.out.below hB0
  rw [hW0]
  clear hW0 e2 hm2 bl2 hb2 z2 ho2 hmk c0 hb1 z1 ho1
  refine wp_ahead (W'.heap.size + 1 + 1 + 1) (W'.heap.size + 1 + 1) L.M 24 G n cap n p rfl rfl b2.cell b1.cell (by rw [hm0.cGv, hgv]) (Nat.le_refl _) hG (by omega)
    (fun pre w => w.ownsRow W'.heap.size 79 5 (.slice (some ⟨W'.heap.size, 0, none⟩) pre.length n) pre.length (pre.flatMap (tmAt m.given)) ∧ Bx w (W'.heap.size + 1) 55 (.slice (some ⟨W'.heap.size, 0, none⟩) pre.length n) ∧ Bx w (W'.heap.size + 1 + 1) 141 (.pointer (some ⟨L.M, 24, none⟩)) ∧ Bx w (W'.heap.size + 1 + 1 + 1) 3 (.int .i64 n) ∧ Below W'.heap.size W' w)
    (fun _ _ _ => False)
    (fun s A A' row hs hg hr => by
      obtain ⟨h1, h3, h4, h5, h6⟩ := hs
      have hck := ck_grown hg hr
      exact ⟨row_ck h1 hck, h3.ck hck, h4.ck hck, h5.ck hck, ownFrom_below (β := List Nat) (Nat.le_refl _) (by omega) s A A' row h6 hg hr⟩)
    (fun c s A A' row hs hg hr => hs)
    ⟨ho0, bl, b1, b2, hB0⟩ (fun i => ⟨#[.pointer (some ⟨L.M, 0, none⟩), undef, .slice none 0 0, .pointer (some ⟨W'.heap.size + 1, 0, none⟩), undef, .pointer (some ⟨G, i * 17, none⟩), .pointer (some ⟨L.M, 0, none⟩), .pointer (some ⟨L.M, 0, none⟩), .pointer (some ⟨L.M, 24, none⟩), .int .i64 n, .slice (some ⟨W'.heap.size, 0, none⟩) 0 n, .pointer (some ⟨L.M, 0, none⟩), .pointer (some ⟨L.M, 0, none⟩), .pointer (some ⟨L.M, 24, none⟩), .pointer (some ⟨L.M, 0, none⟩), .pointer (some ⟨L.M, 0, none⟩), .pointer (some ⟨L.M, 24, none⟩), .int .i64 n, .func (.func 87) #[] #[.pointer (some ⟨W'.heap.size + 1 + 1 + 1, 0, none⟩), .pointer (some ⟨W'.heap.size + 1 + 1, 0, none⟩)], .int .i64 i, .pointer (some ⟨G, i * 17, none⟩), undef, undef, undef, undef, undef, undef, undef, undef], []⟩) ?hassign ?hbody ?hdone ?hstop
  case hassign =>
    intro l i w K hi' hK
    refine round_list rfl (fun _ _ h => h.elim) ?_
    go_wp2
    exact hK
  case hbody =>
    rintro l pre i w hi' hpl ⟨h1, h3, h4, h5, h6⟩
    have hmw := HM.out.below h6
    obtain ⟨t, ht⟩ : ∃ t, m.given[i]? = some t := ⟨_, List.getElem?_eq_getElem (by omega)⟩
    have hgv' : L.gv = .slice (some ⟨G, 0, none⟩) m.given.length cap := by rw [hn, ← hG (by omega)]; exact hgv
    have c1 : w.drew.cell? ⟨G, i * 17 + 8, none⟩ = some (.int .i64 t.number) := hmw.tk hgv' ht (j := 8) (by omega)
    have c2 : w.drew.cell? ⟨G, i * 17 + 8 + 1, none⟩ = some (.int .i64 t.issue) := hmw.tk hgv' ht (j := 9) (by omega)
    have c3 : w.drew.cell? ⟨G, i * 17 + 8 + 2, none⟩ = some (.int .i64 t.read) := hmw.tk hgv' ht (j := 10) (by omega)
    have c4 : w.drew.cell? ⟨G, i * 17 + 8 + 3, none⟩ = some (.int .i64 t.done) := hmw.tk hgv' ht (j := 11) (by omega)
    have c5 : w.drew.cell? ⟨G, i * 17 + 8 + 4, none⟩ = some (.int .i64 t.write) := hmw.tk hgv' ht (j := 12) (by omega)
    have hsn : (pre ++ [i]).flatMap (tmAt m.given) = pre.flatMap (tmAt m.given) ++ tmCells t := by
      rw [List.flatMap_append]
      simp [tmAt, ht]
    have hln : (pre ++ [i]).length = pre.length + 1 := by simp
    have hkg : w.cell? ⟨L.M, 24, none⟩ = some L.gv := hmw.cGv
    have HSN := hide hsn
    have HLN := hide hln
    have HMW := hide hmw
    generalize hxs : pre.flatMap (tmAt m.given) = xs at h1
    rw [hxs] at HSN
    generalize hk : pre.length = k at h1 h3 hpl HLN
    have c6 : w.drew.cell? ⟨W'.heap.size + 1, 0, none⟩ = some (.slice (some ⟨W'.heap.size, 0, none⟩) k n) := h3.cell
    have c6' : ∀ x, (w.alloc x).cell? ⟨W'.heap.size + 1, 0, none⟩ = some (.slice (some ⟨W'.heap.size, 0, none⟩) k n) := fun x => (h3.alloc x).cell
    have HOW : Hid ((w.drew.alloc (.cells (tmCells t).toArray 79)).ownsRow W'.heap.size 79 5 (.slice (some ⟨W'.heap.size, 0, none⟩) k n) k xs) := World.ownsRow.alloc (w := w.drew) h1 _
    have HBL : Hid (Bx (w.drew.alloc (.cells (tmCells t).toArray 79)) (W'.heap.size + 1) 55 (.slice (some ⟨W'.heap.size, 0, none⟩) k n)) := h3.alloc (W := w.drew) _
    have HY1 : Hid (∀ w1, (w.drew.alloc (.cells (tmCells t).toArray 79)).grownBy w1 (some W'.heap.size) → w1.cell? ⟨W'.heap.size + 1, 0, none⟩ = some (.slice (some ⟨W'.heap.size, 0, none⟩) k n)) := fun w1 hg => (HBL.out.grown hg (some_ne (by omega))).cell
    have HY2 : Hid (∀ w1, (w.drew.alloc (.cells (tmCells t).toArray 79)).grownBy w1 (some W'.heap.size) → w1.frozen? ⟨W'.heap.size + 1, 0, none⟩ = false) := fun w1 hg => (HBL.out.grown hg (some_ne (by omega))).frozen
    refine body_hide (fun QQ hN _ hO => ?_)
    have HN := hide hN
    clear hN
    have HFIN : Hid (∀ a w1, w1.ownsRow W'.heap.size 79 5 (.slice (some ⟨W'.heap.size, 0, none⟩) (k + 1) n) (k + 1) (xs ++ tmCells t) → (w.drew.alloc (.cells (tmCells t).toArray 79)).grownBy w1 (some W'.heap.size) → QQ .normal a (w1.setCell ⟨W'.heap.size + 1, 0, none⟩ (.slice (some ⟨W'.heap.size, 0, none⟩) (k + 1) n))) := fun a w1 ho hg => by
      obtain ⟨cs, hcs⟩ := row_blk HOW.out
      have bb := HBL.out.grown hg (some_ne (by omega))
      have b4 := (Bx.alloc (W := w.drew) h4 (.cells (tmCells t).toArray 79)).grown hg (some_ne (by omega))
      have b5 := (Bx.alloc (W := w.drew) h5 (.cells (tmCells t).toArray 79)).grown hg (some_ne (by omega))
      have k4 := b4.other (j := 0) (.slice (some ⟨W'.heap.size, 0, none⟩) (k + 1) n) (b' := W'.heap.size + 1) (by omega)
      have k5 := b5.other (j := 0) (.slice (some ⟨W'.heap.size, 0, none⟩) (k + 1) n) (b' := W'.heap.size + 1) (by omega)
      have hbl : Below W'.heap.size W' (w1.setCell ⟨W'.heap.size + 1, 0, none⟩ (.slice (some ⟨W'.heap.size, 0, none⟩) (k + 1) n)) := by
        have q1 : Below W'.heap.size W' (w.drew.alloc (.cells (tmCells t).toArray 79)) := h6.drew.alloc (h6.size) _
        have q2 := q1.grown hg (by have := h6.size; simp; omega) (fun j e => by cases e; exact Nat.le_refl _)
        exact q2.setCell (by simp) _
      refine HN.out _ _ ?_ (kpa_bx h5 k5 h4 k4 hkg (HM.out.below hbl).cGv) ?_
      · have z0 : KeepsFrom W0.heap.size w (w.drew.alloc (.cells (tmCells t).toArray 79)) := (Kq.of_below (B := 0) (((Below.refl _ _).drew).alloc (Nat.le_refl _) _)).from
        exact (z0.trans (from_grown hg hcs)).trans ((KeepsOthers.setCell _ _ _).from _)
      · rw [HSN.out, HLN.out]
        exact ⟨row_far ho _ (by simp [Value.ownBlock]), bb.set _, k4, k5, hbl⟩
    clear h1 h3 h4 h5 hmw ht hgv' hsn hln hkg
    refine wpIn_block ?_
    refine round_any (by kernel_rfl) rfl (by simp [Exit.inBlock, hO]) ?_
    change wpAny _ _ _ _ _ _ _ (World.drew _)
    refine wpAny_ready (rs := [0, 1]) (by kernel_rfl) (by simp) ?_
    refine AllReady.cons rfl (fun K hK => ?_) (AllReady.cons rfl (fun K hK => ?_) AllReady.nil)
    · go_simp
      refine hK _ _ ?_
      clear hK K
      refine wpAny_ready (rs := [1]) (by kernel_rfl) (by simp) ?_
      refine AllReady.cons rfl (fun K hK => ?_) AllReady.nil
      go_simp
      refine hK _ _ ?_
      clear hK K
      refine wpAny_ready (rs := [2]) (by kernel_rfl) (by simp) ?_
      refine AllReady.cons rfl (fun K hK => ?_) AllReady.nil
      go_simp
      refine hK _ _ ?_
      clear hK K
      refine wpAny_ready (rs := [3]) (by kernel_rfl) (by simp) ?_
      refine AllReady.cons rfl (fun K hK => ?_) AllReady.nil
      go_simp
      refine hK _ _ ?_
      clear hK K
      refine wpAny_ready (rs := [4]) (by kernel_rfl) (by simp) ?_
      refine AllReady.cons rfl (fun K hK => ?_) AllReady.nil
      go_simp
      refine hK _ _ ?_
      clear hK K
      refine wpAny_ready (rs := [5]) (by kernel_rfl) (by simp) ?_
      refine AllReady.cons rfl (fun K hK => ?_) AllReady.nil
      go_simp
      refine hK _ _ ?_
      clear hK K
      (refine wpAny_ready (rs := [6]) (by kernel_rfl) (by simp) ?_
       refine AllReady.cons rfl (fun K hK => ?_) AllReady.nil
       refine step_append_spare rfl (.tmp 21) (.tmp 26) 55 rfl W'.heap.size 79 i0 5 Tryz.underlying55 hi hz1 W'.heap.size k n xs rfl HOW.out ⟨w.heap.size, 0, none⟩ 1 1 (tmCells t) rfl rfl (newsTm w t) (tm_one t) (by omega) ?_
       intro w1 hown1 hgrow1
       have y1 := HY1.out w1 hgrow1
       have y2 := HY2.out w1 hgrow1
       have HH1 := hide hown1
       have HH2 := hide hgrow1
       clear hown1 hgrow1
       refine hK _ _ ?_
       clear hK K
       refine wpAny_ready (rs := [7]) (by kernel_rfl) (by simp) ?_
       refine AllReady.cons rfl (fun K hK => ?_) AllReady.nil
       go_simp
       refine hK _ _ ?_
       clear hK K
       refine wpAny_done (by kernel_rfl) ?_ _
       exact HFIN.out _ w1 HH1.out HH2.out)
    · go_simp
      refine hK _ _ ?_
      clear hK K
      refine wpAny_ready (rs := [0, 2]) (by kernel_rfl) (by simp) ?_
      refine AllReady.cons rfl (fun K hK => ?_) (AllReady.cons rfl (fun K hK => ?_) AllReady.nil)
      · go_simp
        refine hK _ _ ?_
        clear hK K
        refine wpAny_ready (rs := [2]) (by kernel_rfl) (by simp) ?_
        refine AllReady.cons rfl (fun K hK => ?_) AllReady.nil
        go_simp
        refine hK _ _ ?_
        clear hK K
        refine wpAny_ready (rs := [3]) (by kernel_rfl) (by simp) ?_
        refine AllReady.cons rfl (fun K hK => ?_) AllReady.nil
        go_simp
        refine hK _ _ ?_
        clear hK K
        refine wpAny_ready (rs := [4]) (by kernel_rfl) (by simp) ?_
        refine AllReady.cons rfl (fun K hK => ?_) AllReady.nil
        go_simp
        refine hK _ _ ?_
        clear hK K
        refine wpAny_ready (rs := [5]) (by kernel_rfl) (by simp) ?_
        refine AllReady.cons rfl (fun K hK => ?_) AllReady.nil
        go_simp
        refine hK _ _ ?_
        clear hK K
        (refine wpAny_ready (rs := [6]) (by kernel_rfl) (by simp) ?_
         refine AllReady.cons rfl (fun K hK => ?_) AllReady.nil
         refine step_append_spare rfl (.tmp 21) (.tmp 26) 55 rfl W'.heap.size 79 i0 5 Tryz.underlying55 hi hz1 W'.heap.size k n xs rfl HOW.out ⟨w.heap.size, 0, none⟩ 1 1 (tmCells t) rfl rfl (newsTm w t) (tm_one t) (by omega) ?_
         intro w1 hown1 hgrow1
         have y1 := HY1.out w1 hgrow1
         have y2 := HY2.out w1 hgrow1
         have HH1 := hide hown1
         have HH2 := hide hgrow1
         clear hown1 hgrow1
         refine hK _ _ ?_
         clear hK K
         refine wpAny_ready (rs := [7]) (by kernel_rfl) (by simp) ?_
         refine AllReady.cons rfl (fun K hK => ?_) AllReady.nil
         go_simp
         refine hK _ _ ?_
         clear hK K
         refine wpAny_done (by kernel_rfl) ?_ _
         exact HFIN.out _ w1 HH1.out HH2.out)
      · go_simp
        refine hK _ _ ?_
        clear hK K
        refine wpAny_ready (rs := [0, 3]) (by kernel_rfl) (by simp) ?_
        refine AllReady.cons rfl (fun K hK => ?_) (AllReady.cons rfl (fun K hK => ?_) AllReady.nil)
        · go_simp
          refine hK _ _ ?_
          clear hK K
          refine wpAny_ready (rs := [3]) (by kernel_rfl) (by simp) ?_
          refine AllReady.cons rfl (fun K hK => ?_) AllReady.nil
          go_simp
          refine hK _ _ ?_
          clear hK K
          refine wpAny_ready (rs := [4]) (by kernel_rfl) (by simp) ?_
          refine AllReady.cons rfl (fun K hK => ?_) AllReady.nil
          go_simp
          refine hK _ _ ?_
          clear hK K
          refine wpAny_ready (rs := [5]) (by kernel_rfl) (by simp) ?_
          refine AllReady.cons rfl (fun K hK => ?_) AllReady.nil
          go_simp
          refine hK _ _ ?_
          clear hK K
          (refine wpAny_ready (rs := [6]) (by kernel_rfl) (by simp) ?_
           refine AllReady.cons rfl (fun K hK => ?_) AllReady.nil
           refine step_append_spare rfl (.tmp 21) (.tmp 26) 55 rfl W'.heap.size 79 i0 5 Tryz.underlying55 hi hz1 W'.heap.size k n xs rfl HOW.out ⟨w.heap.size, 0, none⟩ 1 1 (tmCells t) rfl rfl (newsTm w t) (tm_one t) (by omega) ?_
           intro w1 hown1 hgrow1
           have y1 := HY1.out w1 hgrow1
           have y2 := HY2.out w1 hgrow1
           have HH1 := hide hown1
           have HH2 := hide hgrow1
           clear hown1 hgrow1
           refine hK _ _ ?_
           clear hK K
           refine wpAny_ready (rs := [7]) (by kernel_rfl) (by simp) ?_
           refine AllReady.cons rfl (fun K hK => ?_) AllReady.nil
           go_simp
           refine hK _ _ ?_
           clear hK K
           refine wpAny_done (by kernel_rfl) ?_ _
           exact HFIN.out _ w1 HH1.out HH2.out)
        · go_simp
          refine hK _ _ ?_
          clear hK K
          refine wpAny_ready (rs := [0, 4]) (by kernel_rfl) (by simp) ?_
          refine AllReady.cons rfl (fun K hK => ?_) (AllReady.cons rfl (fun K hK => ?_) AllReady.nil)
          · go_simp
            refine hK _ _ ?_
            clear hK K
            refine wpAny_ready (rs := [4]) (by kernel_rfl) (by simp) ?_
            refine AllReady.cons rfl (fun K hK => ?_) AllReady.nil
            go_simp
            refine hK _ _ ?_
            clear hK K
            refine wpAny_ready (rs := [5]) (by kernel_rfl) (by simp) ?_
            refine AllReady.cons rfl (fun K hK => ?_) AllReady.nil
            go_simp
            refine hK _ _ ?_
            clear hK K
            (refine wpAny_ready (rs := [6]) (by kernel_rfl) (by simp) ?_
             refine AllReady.cons rfl (fun K hK => ?_) AllReady.nil
             refine step_append_spare rfl (.tmp 21) (.tmp 26) 55 rfl W'.heap.size 79 i0 5 Tryz.underlying55 hi hz1 W'.heap.size k n xs rfl HOW.out ⟨w.heap.size, 0, none⟩ 1 1 (tmCells t) rfl rfl (newsTm w t) (tm_one t) (by omega) ?_
             intro w1 hown1 hgrow1
             have y1 := HY1.out w1 hgrow1
             have y2 := HY2.out w1 hgrow1
             have HH1 := hide hown1
             have HH2 := hide hgrow1
             clear hown1 hgrow1
             refine hK _ _ ?_
             clear hK K
             refine wpAny_ready (rs := [7]) (by kernel_rfl) (by simp) ?_
             refine AllReady.cons rfl (fun K hK => ?_) AllReady.nil
             go_simp
             refine hK _ _ ?_
             clear hK K
             refine wpAny_done (by kernel_rfl) ?_ _
             exact HFIN.out _ w1 HH1.out HH2.out)
          · go_simp
            refine hK _ _ ?_
            clear hK K
            refine wpAny_ready (rs := [0, 5]) (by kernel_rfl) (by simp) ?_
            refine AllReady.cons rfl (fun K hK => ?_) (AllReady.cons rfl (fun K hK => ?_) AllReady.nil)
            · go_simp
              refine hK _ _ ?_
              clear hK K
              refine wpAny_ready (rs := [5]) (by kernel_rfl) (by simp) ?_
              refine AllReady.cons rfl (fun K hK => ?_) AllReady.nil
              go_simp
              refine hK _ _ ?_
              clear hK K
              (refine wpAny_ready (rs := [6]) (by kernel_rfl) (by simp) ?_
               refine AllReady.cons rfl (fun K hK => ?_) AllReady.nil
               refine step_append_spare rfl (.tmp 21) (.tmp 26) 55 rfl W'.heap.size 79 i0 5 Tryz.underlying55 hi hz1 W'.heap.size k n xs rfl HOW.out ⟨w.heap.size, 0, none⟩ 1 1 (tmCells t) rfl rfl (newsTm w t) (tm_one t) (by omega) ?_
               intro w1 hown1 hgrow1
               have y1 := HY1.out w1 hgrow1
               have y2 := HY2.out w1 hgrow1
               have HH1 := hide hown1
               have HH2 := hide hgrow1
               clear hown1 hgrow1
               refine hK _ _ ?_
               clear hK K
               refine wpAny_ready (rs := [7]) (by kernel_rfl) (by simp) ?_
               refine AllReady.cons rfl (fun K hK => ?_) AllReady.nil
               go_simp
               refine hK _ _ ?_
               clear hK K
               refine wpAny_done (by kernel_rfl) ?_ _
               exact HFIN.out _ w1 HH1.out HH2.out)
            · go_simp
              refine hK _ _ ?_
              clear hK K
              refine wpAny_ready (rs := [0]) (by kernel_rfl) (by simp) ?_
              refine AllReady.cons rfl (fun K hK => ?_) AllReady.nil
              go_simp
              refine hK _ _ ?_
              clear hK K
              (refine wpAny_ready (rs := [6]) (by kernel_rfl) (by simp) ?_
               refine AllReady.cons rfl (fun K hK => ?_) AllReady.nil
               refine step_append_spare rfl (.tmp 21) (.tmp 26) 55 rfl W'.heap.size 79 i0 5 Tryz.underlying55 hi hz1 W'.heap.size k n xs rfl HOW.out ⟨w.heap.size, 0, none⟩ 1 1 (tmCells t) rfl rfl (newsTm w t) (tm_one t) (by omega) ?_
               intro w1 hown1 hgrow1
               have y1 := HY1.out w1 hgrow1
               have y2 := HY2.out w1 hgrow1
               have HH1 := hide hown1
               have HH2 := hide hgrow1
               clear hown1 hgrow1
               refine hK _ _ ?_
               clear hK K
               refine wpAny_ready (rs := [7]) (by kernel_rfl) (by simp) ?_
               refine AllReady.cons rfl (fun K hK => ?_) AllReady.nil
               go_simp
               refine hK _ _ ?_
               clear hK K
               refine wpAny_done (by kernel_rfl) ?_ _
               exact HFIN.out _ w1 HH1.out HH2.out)
  case hdone =>
    rintro D w hD ⟨h1, h3, h4, h5, h6⟩ hK
    rw [List.length_range, ← hn, tmAt_range] at h1
    rw [List.length_range, ← hn] at h3
    rw [hn] at h3
    have hc := h3.cell
    refine hK1 _ _ ?_
    go_wp2
    rw [hn]
    refine leave_mark (v := .slice (some ⟨W'.heap.size, 0, none⟩) n n) hK (by simp [results, Tryz.results50, go_sem]) ⟨rfl, ?_, below_mark h6 (by omega) _⟩
    rw [hn] at h1
    exact row_ck h1 (fun k cs ty fr hk => by
      rw [World.putObj_heap_other (by intro e; subst e; rw [hK] at hk; cases hk)]
      exact hk)
  case hstop =>
    rintro D c k' w hD hk' h hK
    exact h.elim

end Go.Proofs.YtmeiogoodbnkkaaGreat
