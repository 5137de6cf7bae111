/- A program and a memory made fit. -/
import Derived.Test.YtmeiogoodbnkkaaCZK
import Derived.Deep.CutBlock
import Derived.Deep.RegionHeld3
import Derived.Maps.AppendAt
import Derived.OwnWalk
namespace Go.Proofs.Ytmeiogoodbnkkaa
open Go.RowKit

theorem Try.infoOrd5 : (Try.prog.info? 49).map (fun i => (i.zero, i.size, i.bytes)) = some (some (.agg #[.int .i64 0, .int .i64 0, .int .i64 0, .int .i64 0, .int .i64 0]), 5, 40) := by kernel_rfl

theorem bAl {w w' : World} (h : Below w.heap.size w w') (x : Obj) : Below w.heap.size w (w'.alloc x) := h.alloc h.size x
theorem bSet {w w' : World} (h : Below w.heap.size w w') {N j : Nat} (hN : w.heap.size ≤ N) (v : Value) : Below w.heap.size w (w'.setCell ⟨N, j, none⟩ v) := h.setCell hN v
theorem bCall {w W w' : World} (h : Below w.heap.size w W) (h' : Below W.heap.size W w') : Below w.heap.size w w' := h.trans (h'.mono h.size)

/-- An order but for a Jump's K. -/
def okF (o : Ord) : Prop := 0 ≤ o.op ∧ o.op ≤ 8 ∧ 0 ≤ o.d ∧ o.d ≤ 7 ∧ 0 ≤ o.a ∧ o.a ≤ 7 ∧ 0 ≤ o.b ∧ o.b ≤ 7 ∧ In64 o.k
def pkO (o : Ord) : Ord := ⟨pk o.op 9, pk o.d 8, pk o.a 8, pk o.b 8, o.k⟩
theorem pkO_ok {o : Ord} (h : In64O o) : okF (pkO o) := by
  have h1 := pk_in (c := o.op) (n := 9) (by omega)
  have h2 := pk_in (c := o.d) (n := 8) (by omega)
  have h3 := pk_in (c := o.a) (n := 8) (by omega)
  have h4 := pk_in (c := o.b) (n := 8) (by omega)
  refine ⟨h1.1, ?_, h2.1, ?_, h3.1, ?_, h4.1, ?_, h.2.2.2.2⟩ <;> simp only [pkO] <;> omega

/-- Orders that a slice of the call's own holds. -/
def OwO (w : World) (B : Nat) (v : Value) (l : List Ord) : Prop := w.ownsRow B 49 5 v l.length (l.flatMap oCells)
theorem o_one (o : Ord) : ∀ u ∈ oCells o, u.oneCell' = true := by
  intro u hu
  simp [oCells] at hu
  rcases hu with rfl | rfl | rfl | rfl | rfl <;> rfl

/-- The block of a list of orders. -/
def OB (w : World) (g : Nat) (l : List Ord) : Prop := ∃ cur, w.heap[g]? = some (.cells cur 49 (0, 0)) ∧ ∀ j, j < l.length → ∀ r, r < 5 → cur[j * 5 + r]? = (oCells (l.getD j Ord.none))[r]?

theorem OwO.block {w : World} {B : Nat} {v : Value} {l : List Ord} (h : OwO w B v l) (hl : 0 < l.length) : ∃ g cap, v = .slice (some ⟨g, 0, none⟩) l.length cap ∧ B ≤ g ∧ OB w g l := by
  obtain ⟨h0, h⟩ := h
  rcases h with ⟨_, h⟩ | ⟨g, cap, cur, rfl, hB, hh, h1, h2, h3, h4⟩
  · omega
  · refine ⟨g, cap, rfl, hB, cur, hh, fun j hj r hr => ?_⟩
    rw [← o_get l j r hj hr, ← h4, List.getElem?_take_of_lt (by omega)]
    simp

theorem OB.at {w : World} {g : Nat} {l : List Ord} (h : OB w g l) {j : Nat} (hj : j < l.length) {r : Nat} (hr : r < 5) : w.cell? ⟨g, j * 5 + r, none⟩ = (oCells (l.getD j Ord.none))[r]? := by
  obtain ⟨cur, hh, hc⟩ := h
  rw [cell_of_row _ _ _ _ _ _ hh]
  exact hc j hj r hr
theorem OB.frozen {w : World} {g : Nat} {l : List Ord} (h : OB w g l) (j : Nat) : w.frozen? ⟨g, j, none⟩ = false := by
  obtain ⟨cur, hh, hc⟩ := h
  exact frozen_of_row _ _ _ _ _ hh
theorem OB.rdo {w : World} {g : Nat} {l : List Ord} (h : OB w g l) : RdO w (some ⟨g, 0, none⟩) l := by
  refine .inr ⟨g, 0, rfl, ?_, fun i hi => ?_⟩
  · obtain ⟨cur, hh, hc⟩ := h
    exact (Array.getElem?_eq_some_iff.1 hh).1
  · have g' : ∀ r, r < 5 → w.cell? ⟨g, 0 + i * 5 + r, none⟩ = (oCells (l.getD i Ord.none))[r]? := fun r hr => by rw [Nat.zero_add]; exact h.at hi hr
    exact ⟨g' 0 (by omega), g' 1 (by omega), g' 2 (by omega), g' 3 (by omega), g' 4 (by omega)⟩

theorem getD_set_o {l : List Ord} {i j : Nat} {o : Ord} (hi : i < l.length) : (l.set i o).getD j Ord.none = if j = i then o else l.getD j Ord.none := by
  by_cases h : j = i
  · subst h
    simp [List.getD_eq_getElem?_getD, hi]
  · rw [if_neg h, List.getD_eq_getElem?_getD, List.getElem?_set_ne (Ne.symm h), List.getD_eq_getElem?_getD]

theorem OB.setK {w : World} {g : Nat} {l : List Ord} (h : OB w g l) {i : Nat} (hi : i < l.length) (k : Int) : OB (w.setCell ⟨g, i * 5 + 4, none⟩ (.int .i64 k)) g (l.set i { l.getD i Ord.none with k := k }) := by
  obtain ⟨cur, hh, hc⟩ := h
  refine ⟨_, heap_setCell_same _ g _ _ _ _ hh, fun j hj r hr => ?_⟩
  simp only [List.length_set] at hj
  rw [getD_set_o hi, Array.getElem?_setIfInBounds]
  have hsz : i * 5 + 4 < cur.size := by
    have := hc i hi 4 (by omega)
    rcases Nat.lt_or_ge (i * 5 + 4) cur.size with h' | h'
    · exact h'
    · rw [Array.getElem?_eq_none h'] at this
      simp [oCells] at this
  by_cases e : j = i
  · subst e
    rw [if_pos rfl]
    by_cases e4 : r = 4
    · subst e4
      rw [if_pos rfl, if_pos hsz]
      rfl
    · rw [if_neg (by omega), hc j hj r hr]
      match r, hr, e4 with
      | 0, _, _ => rfl
      | 1, _, _ => rfl
      | 2, _, _ => rfl
      | 3, _, _ => rfl
      | 4, _, h => exact absurd rfl h
  · rw [if_neg e, if_neg (by omega), hc j hj r hr]

theorem OwO.form {w : World} {B : Nat} {v : Value} {l : List Ord} (h : OwO w B v l) : ∃ pa cap, v = .slice pa l.length cap := by
  obtain ⟨h0, h⟩ := h
  rcases h with ⟨rfl, h⟩ | ⟨g, cap, cur, rfl, _⟩
  · exact ⟨none, 0, by rw [h]⟩
  · exact ⟨_, _, rfl⟩

theorem OB.below {w w' : World} {g : Nat} {l : List Ord} (h : OB w g l) (hb : Below w.heap.size w w') : OB w' g l := by
  obtain ⟨cur, hh, hc⟩ := h
  exact ⟨cur, by rw [hb.block _ (Array.getElem?_eq_some_iff.1 hh).1]; exact hh, hc⟩

set_option maxRecDepth 100000 in
set_option maxHeartbeats 4000000 in
theorem program_any (p : Option Addr) (c : Nat) (raw : List Ord) (w : World) (hp : RdO w p raw) (hin : ∀ j, j < raw.length → In64O (raw.getD j Ord.none)) (_hlen : (raw.length : Int) ≤ 1000000000000000) : Calls Try.prog 11 #[.slice p raw.length c] w fun e w' =>
    ∃ g n cap prog, e = .returned (.slice (some ⟨g, 0, none⟩) n cap) ∧ prog.length = n ∧ isProg prog = true ∧ RdO w' (some ⟨g, 0, none⟩) prog ∧ w.heap.size ≤ g ∧ Below w.heap.size w w' := by
  have HP := hide hp
  have HIN := hide hin
  clear hp hin
  obtain ⟨i0, hi0, hz0, hz1, hz2⟩ := info_parts Try.infoOrd5
  go_enter Try.func11, Try.ntmps11
  go_upto_block 0 with fail
  go_cut [3, 4, 5] from 7 to 50 (fun s3 _ _ wx => ∃ l : List Ord, OwO wx w.heap.size s3 l ∧ Below w.heap.size w wx ∧ l.length ≤ 40 ∧ ∀ o ∈ l, okF o)
  case first =>
    go_wp2_with fail
    go_loopw [3, 4] (fun v i wr => ∃ (k : Nat) (l : List Ord), k ≤ raw.length ∧ k ≤ 40 ∧ i = .int .i64 k ∧ l.length = k ∧ OwO wr w.heap.size v l ∧ Below w.heap.size w wr ∧ ∀ o ∈ l, okF o) (fun _ i _ => 40 - (intOf i).toNat)
    case atStart => exact ⟨0, [], Nat.zero_le _, Nat.zero_le _, rfl, rfl, World.ownsRow_nil _ _ _ _, Below.refl _ _, by simp⟩
    case round =>
      obtain ⟨k, l, hk1, hk2, rfl, hl, hown, hbel, hok⟩ := hrel
      go_upto_block 1 with fail
      · have hk : k < raw.length := by assumption
        have hk4 : (k : Int) < 40 := by assumption
        obtain ⟨b, off, rfl, hb, c0, c1, c2, c3, c4⟩ := HP.out.at hk
        have hI := HIN.out k hk
        have HOK : Hid (okF (pkO (raw.getD k Ord.none))) := pkO_ok hI
        have hkI : (k : Int) < (raw.length : Int) := by omega
        have q0 : ∀ w', Below wr.heap.size wr w' → w'.cell? ⟨b, off + k * 5, none⟩ = some (.int .i64 (raw.getD k Ord.none).op) := fun w' h => by rw [(bCall hbel h).cell (p := ⟨b, off + k * 5, none⟩) hb]; exact c0
        have q1 : ∀ w', Below wr.heap.size wr w' → w'.cell? ⟨b, off + k * 5 + 1, none⟩ = some (.int .i64 (raw.getD k Ord.none).d) := fun w' h => by rw [(bCall hbel h).cell (p := ⟨b, off + k * 5 + 1, none⟩) hb]; exact c1
        have q2 : ∀ w', Below wr.heap.size wr w' → w'.cell? ⟨b, off + k * 5 + 2, none⟩ = some (.int .i64 (raw.getD k Ord.none).a) := fun w' h => by rw [(bCall hbel h).cell (p := ⟨b, off + k * 5 + 2, none⟩) hb]; exact c2
        have q3 : ∀ w', Below wr.heap.size wr w' → w'.cell? ⟨b, off + k * 5 + 3, none⟩ = some (.int .i64 (raw.getD k Ord.none).b) := fun w' h => by rw [(bCall hbel h).cell (p := ⟨b, off + k * 5 + 3, none⟩) hb]; exact c3
        have q4 : ∀ w', Below wr.heap.size wr w' → w'.cell? ⟨b, off + k * 5 + 4, none⟩ = some (.int .i64 (raw.getD k Ord.none).k) := fun w' h => by rw [(bCall hbel h).cell (p := ⟨b, off + k * 5 + 4, none⟩) hb]; exact c4
        have HP0 : Hid (∀ W, Calls Try.prog 16 #[.int .i64 (raw.getD k Ord.none).op, .int .i64 9] W fun e w' => e = .returned (.int .i64 (pk (raw.getD k Ord.none).op 9)) ∧ w' = W) := fun W => pick_any _ 9 hI.1 (by omega) (by omega) W
        have HP1 : Hid (∀ W, Calls Try.prog 16 #[.int .i64 (raw.getD k Ord.none).d, .int .i64 8] W fun e w' => e = .returned (.int .i64 (pk (raw.getD k Ord.none).d 8)) ∧ w' = W) := fun W => pick_any _ 8 hI.2.1 (by omega) (by omega) W
        have HP2 : Hid (∀ W, Calls Try.prog 16 #[.int .i64 (raw.getD k Ord.none).a, .int .i64 8] W fun e w' => e = .returned (.int .i64 (pk (raw.getD k Ord.none).a 8)) ∧ w' = W) := fun W => pick_any _ 8 hI.2.2.1 (by omega) (by omega) W
        have HP3 : Hid (∀ W, Calls Try.prog 16 #[.int .i64 (raw.getD k Ord.none).b, .int .i64 8] W fun e w' => e = .returned (.int .i64 (pk (raw.getD k Ord.none).b 8)) ∧ w' = W) := fun W => pick_any _ 8 hI.2.2.2.1 (by omega) (by omega) W
        obtain ⟨o', ho'⟩ : ∃ o', o' = pkO (raw.getD k Ord.none) := ⟨_, rfl⟩
        have e0 : pk (raw.getD k Ord.none).op 9 = o'.op := by rw [ho']; rfl
        have e1 : pk (raw.getD k Ord.none).d 8 = o'.d := by rw [ho']; rfl
        have e2 : pk (raw.getD k Ord.none).a 8 = o'.a := by rw [ho']; rfl
        have e3 : pk (raw.getD k Ord.none).b 8 = o'.b := by rw [ho']; rfl
        have e4 : (raw.getD k Ord.none).k = o'.k := by rw [ho']; rfl
        rw [e0] at HP0
        rw [e1] at HP1
        rw [e2] at HP2
        rw [e3] at HP3
        rw [e4] at q4
        rw [← ho'] at HOK
        generalize (raw.getD k Ord.none).op = y0 at *
        generalize (raw.getD k Ord.none).d = y1 at *
        generalize (raw.getD k Ord.none).a = y2 at *
        generalize (raw.getD k Ord.none).b = y3 at *
        have HS0 : Hid (Below wr.heap.size wr wr.drew) := (Below.refl _ _).drew
        have HOW := hide hown
        have HBL := hide hbel
        have HOKL := hide hok
        clear e0 e1 e2 e3 e4 ho' hI c0 c1 c2 c3 c4 hown hbel hok
        go_upto_region 5 with fail
        go_cut [5] from 7 to 50 (fun s5 wx => ∃ Q, s5 = .pointer (some ⟨Q, 0, none⟩) ∧ wx.heap[Q]? = some (.cells #[.int .i64 o'.op, .int .i64 o'.d, .int .i64 o'.a, .int .i64 o'.b, .int .i64 o'.k] 49 (0, 0)) ∧ Below wr.heap.size wr wx)
        case first =>
          go_region_held3 (fun w' => Below wr.heap.size wr w') (first | with_reducible assumption | with_reducible exact HS0.out | (with_reducible refine Below.drew ?_; (repeat (with_reducible refine bAl ?_ _)); exact Below.refl _ _) | fail) (first | (go_at_call 16; first | (with_reducible refine (HP0.out _).mono ?_; rintro e W' ⟨rfl, rfl⟩) | (with_reducible refine (HP1.out _).mono ?_; rintro e W' ⟨rfl, rfl⟩) | (with_reducible refine (HP2.out _).mono ?_; rintro e W' ⟨rfl, rfl⟩) | (with_reducible refine (HP3.out _).mono ?_; rintro e W' ⟨rfl, rfl⟩)))
          all_goals go_wp2
          all_goals go_meet
          all_goals exact ⟨_, rfl, heap_alloc_new wr (.cells #[.int .i64 o'.op, .int .i64 o'.d, .int .i64 o'.a, .int .i64 o'.b, .int .i64 o'.k] 49), by assumption⟩
        case rest =>
          obtain ⟨Q, rfl, hQ, hBx⟩ := hcut
          have hzx := hBx.size
          have g0 : wc.cell? ⟨Q, 0, none⟩ = some (.int .i64 o'.op) := by rw [cell_of_row _ _ _ _ _ _ hQ]; rfl
          have g1 : wc.cell? ⟨Q, 1, none⟩ = some (.int .i64 o'.d) := by rw [cell_of_row _ _ _ _ _ _ hQ]; rfl
          have g2 : wc.cell? ⟨Q, 2, none⟩ = some (.int .i64 o'.a) := by rw [cell_of_row _ _ _ _ _ _ hQ]; rfl
          have g3 : wc.cell? ⟨Q, 3, none⟩ = some (.int .i64 o'.b) := by rw [cell_of_row _ _ _ _ _ _ hQ]; rfl
          have g4 : wc.cell? ⟨Q, 4, none⟩ = some (.int .i64 o'.k) := by rw [cell_of_row _ _ _ _ _ _ hQ]; rfl
          have HO2 : Hid ((wc.alloc (.cells #[.int .i64 o'.op, .int .i64 o'.d, .int .i64 o'.a, .int .i64 o'.b, .int .i64 o'.k] 49)).ownsRow w.heap.size 49 5 u3 k (l.flatMap oCells)) := by
            have := HOW.out
            unfold OwO at this
            rw [hl] at this
            have hlt := this.lt
            refine World.ownsRow.alloc (World.ownsRow.kept this (row := none) ⟨hBx.os, hBx.tape, hBx.output, hBx.size, fun j hj _ => hBx.block j hj⟩ ?_) _
            cases u3.ownBlock <;> simp
          have HBX : Hid (Below w.heap.size w wc) := bCall HBL.out hBx
          have HKL := hide hl
          clear hl hQ hBx q0 q1 q2 q3 q4 HP0 HP1 HP2 HP3 HOW
          go_wp2_with (at_builtin; refine wpList_append_own_at _ rfl (.tmp 47) (.tmp 49) 25 rfl w.heap.size 49 i0 _ 5 40 Try.underlying25 hi0 hz0 hz1 hz2 rfl (by omega) u3 k (l.flatMap oCells) rfl HO2.out ⟨wc.heap.size, 0, none⟩ 1 1 (oCells o') rfl rfl (World.news_of_block (heap_alloc_new _ _)) (o_one o') (by unfold maxLen; omega) (by omega) (by have := HBX.out.size; simp; omega) ?_; intro v' w1 hown1 hgrow1 _ _)
          go_roundw
          case rel =>
            have hkl := HKL.out
            refine ⟨k + 1, l ++ [o'], by omega, by omega, by simp, by simp [hkl], ?_, ?_, ?_⟩
            · unfold OwO
              have e : (l ++ [o']).flatMap oCells = l.flatMap oCells ++ oCells o' := by simp
              rw [e, show (l ++ [o']).length = k + 1 by simp [hkl]]
              exact hown1
            · refine (bAl HBX.out _).grown hgrow1 ?_ ?_
              · have := HBX.out.size; simp; omega
              · intro j hj
                exact (HO2.out.lt j hj).1
            · intro o ho
              rcases List.mem_append.1 ho with h | h
              · exact HOKL.out o h
              · rw [List.mem_singleton.1 h]; exact HOK.out
          case measure => simp [intOf]; omega
      · go_meet
        exact ⟨l, hown, hbel, by omega, hok⟩
      · go_meet
        exact ⟨l, hown, hbel, by omega, hok⟩
  case rest =>
    obtain ⟨l, hown, hbel, hl40, hok⟩ := hcut
    rename World => W1
    obtain ⟨pa, ca, rfl⟩ := hown.form
    have HOW := hide hown
    have HBL := hide hbel
    have HOKL := hide hok
    clear hown hbel hok
    have hl0 : (0 : Int) ≤ l.length := by omega
    go_upto_if 53 with fail
    go_cut [3] from 51 to 57 (fun s3 wx => ∃ (l : List Ord) (g cap : Nat), 1 ≤ l.length ∧ l.length ≤ 40 ∧ s3 = .slice (some ⟨g, 0, none⟩) l.length cap ∧ OB wx g l ∧ w.heap.size ≤ g ∧ Below w.heap.size w wx ∧ ∀ j, j < l.length → okF (l.getD j Ord.none))
    case first =>
      by_cases hz : l.length = 0
      · have he : ((l.length : Int) == 0) = true := by simp [hz]
        have HO2 : Hid ((W1.alloc (.cells #[.int .i64 1, .int .i64 1, .int .i64 0, .int .i64 0, .int .i64 3] 49)).ownsRow w.heap.size 49 5 (.slice pa l.length ca) 0 []) := by
          have := HOW.out
          unfold OwO at this
          have hn : l = [] := List.length_eq_zero_iff.1 hz
          subst hn
          exact World.ownsRow.alloc this _
        have HZ := hide hz
        clear hz
        go_wp2_with (at_builtin; refine wpList_append_own_at _ rfl (.tmp 54) (.tmp 56) 25 rfl w.heap.size 49 i0 _ 5 40 Try.underlying25 hi0 hz0 hz1 hz2 rfl (by omega) (.slice pa l.length ca) 0 [] rfl HO2.out ⟨W1.heap.size, 0, none⟩ 1 1 (oCells ⟨1, 1, 0, 0, 3⟩) rfl rfl (World.news_of_block (heap_alloc_new _ _)) (o_one _) (by unfold maxLen; omega) (by omega) (by have := HBL.out.size; simp; omega) ?_; intro v' w1 hown1 hgrow1 _ _)
        go_meet
        have h1 : OwO w1 w.heap.size v' [⟨1, 1, 0, 0, 3⟩] := hown1
        obtain ⟨g, cap, rfl, hg, hob⟩ := h1.block (by simp)
        refine ⟨[⟨1, 1, 0, 0, 3⟩], g, cap, by simp, by simp, rfl, hob, hg, ?_, ?_⟩
        · refine (bAl HBL.out _).grown hgrow1 ?_ ?_
          · have := HBL.out.size; simp; omega
          · intro j hj
            exact (HO2.out.lt j hj).1
        · intro j hj
          have : j = 0 := by simpa using hj
          subst this
          exact ⟨by decide, by decide, by decide, by decide, by decide, by decide, by decide, by decide, by decide, by decide⟩
      · have he : ((l.length : Int) == 0) = false := beq_eq_false_iff_ne.2 (by omega)
        go_wp2
        go_meet
        obtain ⟨g, cap, hv, hg, hob⟩ := HOW.out.block (by omega)
        exact ⟨l, g, cap, by omega, by omega, hv, hob, hg, HBL.out, fun j hj => HOKL.out _ (by rw [List.getD_eq_getElem?_getD, List.getElem?_eq_getElem hj]; exact List.getElem_mem hj)⟩
    case rest =>
      obtain ⟨l2, g, cap, h1, h40, rfl, hob, hg, hbel, hok⟩ := hcut
      rename World => W2
      clear HOW HBL HOKL hl40 hl0
      generalize hn : l2.length = n at *
      go_wp2
      go_loopw [6] (fun i wr => ∃ (k : Nat) (l' : List Ord), k ≤ n ∧ i = .int .i64 k ∧ l'.length = n ∧ OB wr g l' ∧ Below w.heap.size w wr ∧ (∀ j, j < n → okF (l'.getD j Ord.none)) ∧ ∀ j, j < k → isOrd (l'.getD j Ord.none) n = true) (fun i _ => n - (intOf i).toNat)
      case atStart => exact ⟨0, l2, Nat.zero_le _, rfl, hn, hob, hbel, hok, fun j hj => absurd hj (Nat.not_lt_zero _)⟩
      case round =>
        obtain ⟨k, l', hk, rfl, hl', hob', hbel', hok', hdone⟩ := hrel
        have HOB := hide hob'
        have HBL := hide hbel'
        have HOK := hide hok'
        have HDN := hide hdone
        have HL := hide hl'
        clear hob' hbel' hok' hdone hl' hob hbel hok hn
        rcases Nat.lt_or_ge k n with hkn | hkn
        · obtain ⟨o, ho⟩ : ∃ o, o = l'.getD k Ord.none := ⟨_, rfl⟩
          have c0 : wr.cell? ⟨g, k * 5, none⟩ = some (.int .i64 o.op) := by rw [ho]; exact HOB.out.at (r := 0) (by rw [HL.out]; exact hkn) (by omega)
          have c4 : wr.cell? ⟨g, k * 5 + 4, none⟩ = some (.int .i64 o.k) := by rw [ho]; exact HOB.out.at (r := 4) (by rw [HL.out]; exact hkn) (by omega)
          have cf := HOB.out.frozen
          have hf := HOK.out k hkn
          rw [← ho] at hf
          have HF := hide hf
          have HO := hide ho
          have hkI : (k : Int) < (n : Int) := by omega
          have HPK : Hid (∀ W, Calls Try.prog 16 #[.int .i64 o.k, .int .i64 n] W fun e w' => e = .returned (.int .i64 (pk o.k n)) ∧ w' = W) := fun W => pick_any _ _ hf.2.2.2.2.2.2.2.2 (by omega) (by omega) W
          clear hf ho
          by_cases h8 : o.op = 8
          · have h8b : (o.op == 8) = true := by simp [h8]
            have HR := hide (pk_in (c := o.k) (n := n) (by omega))
            have H8 := hide h8
            clear h8
            generalize hx : pk o.k n = x at *
            clear hx
            go_wp2_with (go_at_call 16; with_reducible refine (HPK.out _).mono ?_; rintro e W' ⟨rfl, hW'⟩; have hW'' := hW'.symm; clear hW'; subst hW'')
            go_roundw
            case rel =>
              have hlt : k < l'.length := by rw [HL.out]; exact hkn
              refine ⟨k + 1, l'.set k { l'.getD k Ord.none with k := x }, by omega, by simp, by simp [HL.out], HOB.out.setK hlt x, bSet HBL.out hg _, fun j hj => ?_, fun j hj => ?_⟩
              · rw [getD_set_o hlt]
                have hf := HF.out
                have hr := HR.out
                split
                · rw [← HO.out]
                  exact ⟨hf.1, hf.2.1, hf.2.2.1, hf.2.2.2.1, hf.2.2.2.2.1, hf.2.2.2.2.2.1, hf.2.2.2.2.2.2.1, hf.2.2.2.2.2.2.2.1, by unfold In64; simp only; omega⟩
                · exact HOK.out j hj
              · rw [getD_set_o hlt]
                split
                · rw [← HO.out]
                  have hf := HF.out
                  have hr := HR.out
                  unfold isOrd
                  exact decide_eq_true ⟨hf.1, hf.2.1, hf.2.2.1, hf.2.2.2.1, hf.2.2.2.2.1, hf.2.2.2.2.2.1, hf.2.2.2.2.2.2.1, hf.2.2.2.2.2.2.2.1, fun _ => hr⟩
                · exact HDN.out j (by omega)
            case measure => simp [intOf]; omega
          · have h8b : (o.op == 8) = false := by simp [h8]
            have H8 := hide h8
            clear h8
            go_wp2
            go_roundw
            case rel =>
              refine ⟨k + 1, l', by omega, by simp, HL.out, HOB.out, HBL.out, HOK.out, fun j hj => ?_⟩
              rcases Nat.lt_or_ge j k with h | h
              · exact HDN.out j h
              · have : j = k := by omega
                subst this
                rw [← HO.out]
                have hf := HF.out
                unfold isOrd
                exact decide_eq_true ⟨hf.1, hf.2.1, hf.2.2.1, hf.2.2.2.1, hf.2.2.2.2.1, hf.2.2.2.2.2.1, hf.2.2.2.2.2.2.1, hf.2.2.2.2.2.2.2.1, fun e => absurd e H8.out⟩
            case measure => simp [intOf]; omega
        · have : k = n := by omega
          subst this
          go_wp2
          go_ret
          exact ⟨g, _, cap, l', rfl, HL.out, isProg_yes (by rw [HL.out]; omega) (fun j hj => by rw [HL.out] at hj ⊢; exact HDN.out j hj), HOB.out.rdo, hg, HBL.out⟩

/-- A memory made fit. -/
theorem memory_any (p : Option Addr) (c : Nat) (mem : List Int) (w : World) (hlen : (mem.length : Int) ≤ 1000000000000000) (hc : mem.length ≤ c) (mt : List Int) (hmt : mt = mem.take 16) : Calls Try.prog 12 #[.slice p mem.length c] w fun e w' =>
    e = .returned (.slice p mt.length c) ∧ w' = w := by
  by_cases h : 16 < mem.length
  · have h1 : (16 : Int) < mem.length := by omega
    have h2 : mt.length = 16 := by rw [hmt, List.length_take]; omega
    rw [h2]
    clear hmt h2
    go_enter Try.func12, Try.ntmps12
    go_wp2
    go_ret
    exact ⟨rfl, rfl⟩
  · have h1 : ¬ (16 : Int) < mem.length := by omega
    have h2 : mt.length = mem.length := by rw [hmt, List.length_take]; omega
    rw [h2]
    clear hmt h2
    go_enter Try.func12, Try.ntmps12
    go_wp2
    go_ret
    exact ⟨rfl, rfl⟩

theorem Rd.cut {w : World} {p : Option Addr} {mem : List Int} (h : Rd w p mem) (k : Nat) : Rd w p (mem.take k) := by
  rcases h with rfl | ⟨b, off, rfl, hb, h⟩
  · exact .inl (by simp)
  · refine .inr ⟨b, off, rfl, hb, fun i hi => ?_⟩
    have hi' : i < k ∧ i < mem.length := by simp at hi; omega
    rw [h i hi'.2, List.getD_eq_getElem?_getD, List.getD_eq_getElem?_getD, List.getElem?_take_of_lt hi'.1]

end Go.Proofs.Ytmeiogoodbnkkaa
