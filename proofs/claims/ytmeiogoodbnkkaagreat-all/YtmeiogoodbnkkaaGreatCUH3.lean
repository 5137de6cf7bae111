/- Several texts in one: U, V, W, X, H1, H2, H3. -/
import Derived.Test.YtmeiogoodbnkkaaGreatCT
import Derived.Test.YtmeiogoodbnkkaaGreatCEB
import Derived.Maps.AppendAt
/- The document's answer: its small functions. -/
namespace Go.Proofs.YtmeiogoodbnkkaaGreat
open Go.RowKit

/-- Append onto what the call owns (nil too), from whatever slice. -/
theorem wpList_append_any {P : Program} (w : World) {ops : Array Oper} {rest : List Oper} {o : Oper} {a : Act} {Q : Exit → Act → World → Prop} (hgd : o.guard = none) (s x : Operand) (t : TypeId)
    (ho : o.op = .call { callee := .builtin .append, args := #[s, x], argTypes := #[t, t] })
    (base : Nat) (e : TypeId) (i : TypeInfo) (z : Value) (bytes : Nat) (ht : P.underlying t = some (.slice e)) (hi : P.info? e = some i) (hz : i.zero = some z)
    (hsize : i.size = 1) (hby : i.bytes = bytes) (hzs : z.cells.size = 1)
    (v : Value) (n : Nat) (xs : List Value) (hs : a.eval s = v) (hown : w.ownsRow base e 1 v n xs)
    (ad : Option Addr) (m c : Nat) (news : List Value) (hx : a.eval x = .slice ad m c) (hl : news.length = m) (hnews : news = [] ∨ ∃ b, ad = some b ∧ ∀ j u, news[j]? = some u → w.cell? (b.add j) = some u) (h1 : ∀ u ∈ news, u.oneCell' = true)
    (h63 : n + m ≤ maxLen) (hbytes : (n + m) * bytes ≤ 140737488355328) (hbase : base ≤ w.heap.size)
    (h : ∀ v' w', w'.ownsRow base e 1 v' (n + m) (xs ++ news) → w.grownBy w' v.ownBlock → (v'.ownBlock = v.ownBlock ∨ v'.ownBlock = some w.heap.size) → wpList P ops Q rest (a.put o.dst v') w') :
    wpList P ops Q (o :: rest) a w := by
  cases ad with
  | some b =>
    refine wpList_append_own_at w hgd s x t ho base e i z 1 bytes ht hi hz hsize hby hzs (by omega) v n xs hs hown b m c news hx (by omega) ?_ h1 h63 hbytes hbase (fun v' w' h2 h3 _ h5 => h v' w' h2 h3 h5)
    rcases hnews with rfl | ⟨b', hb', hn⟩
    · intro j u hu; simp at hu
    · cases hb'; exact hn
  | none =>
    obtain rfl : news = [] := by
      rcases hnews with h | ⟨b, hb, _⟩
      · exact h
      · cases hb
    simp only [List.length_nil] at hl
    subst hl
    refine wpList_plain hgd fun K hK => ?_
    have hrun : (Builtin.append_ #[t, t] o.type #[v, .slice none 0 c]).run P w = .ok v w := by
      rcases hown.2 with ⟨rfl, rfl⟩ | ⟨g, cap, cur, rfl, hb, hg, hc, hm, hcs, htk⟩
      · simp [Builtin.append_, run_underlying ht, sizeOf, typeInfo, hi, Builtin.lenOf, Builtin.firstCells]
      · simp [Builtin.append_, run_underlying ht, sizeOf, typeInfo, hi, Builtin.lenOf, Builtin.firstCells, hc, storeCells]
    unfold Oper.wp execOp
    simp only [ho, resolve, invoke, builtin, Sem.run_bind, Sem.run_pure, Result.andThen_ok, List.map_toArray, List.map_cons, List.map_nil, hs, hx, hrun]
    exact hK _ _ (h v w (by simpa using hown) ⟨rfl, rfl, rfl, Nat.le_refl _, fun _ _ _ => rfl⟩ (.inl rfl))

theorem below_grown {B : Nat} {a w w' : World} {row : Option Nat} (h : Below B a w) (hg : w.grownBy w' row) (hB : B ≤ w.heap.size) (hr : ∀ k, row = some k → B ≤ k) : Below B a w' := h.grown hg hB hr

theorem rd_news {w : World} {p : Option Addr} {l : List Int} (h : Rd w p l) : l.map (Value.int .i64) = [] ∨ ∃ b, p = some b ∧ ∀ j u, (l.map (Value.int .i64))[j]? = some u → w.cell? (b.add j) = some u := by
  rcases h with rfl | ⟨b, off, rfl, hb, hc⟩
  · exact .inl rfl
  · refine .inr ⟨_, rfl, fun j u hu => ?_⟩
    have hj : j < l.length := by
      rcases Nat.lt_or_ge j l.length with h' | h'
      · exact h'
      · rw [List.getElem?_eq_none (by simpa using h')] at hu; cases hu
    rw [add_none, hc j hj, ← hu]
    simp [List.getD_eq_getElem?_getD, hj]

theorem ints_one (l : List Int) : ∀ u ∈ l.map (Value.int .i64), u.oneCell' = true := by
  intro v hv; simp at hv; obtain ⟨x, _, rfl⟩ := hv; rfl

set_option maxHeartbeats 1000000 in
theorem words_any (p : Option Addr) (c : Nat) (l : List Int) (w : World) (h : Rd w p l) (hl : l.length ≤ 1000000) :
    Calls Tryz.prog 29 #[.slice p l.length c] w fun e w' => ∃ mv, e = .returned mv ∧ Below w.heap.size w w' ∧ Own w' w.heap.size mv l := by
  obtain ⟨i0, hi0, hz0, hz1, hz2⟩ := info_parts Tryz.info2
  have H := hide h
  clear h
  go_enter Tryz.func29, Tryz.ntmps29
  go_wp2_with (refine wpList_append_any _ rfl (.tmp 4) (.tmp 5) 23 rfl w.heap.size 2 i0 (.int .i64 0) 8 Tryz.underlying23 hi0 hz0 hz1 hz2 rfl (.slice none 0 0) 0 [] (by rfl) (World.ownsRow_nil _ _ _ _) p l.length c (l.map (Value.int .i64)) (by rfl) (by simp) (rd_news H.out) (ints_one l) (by unfold maxLen; omega) (by omega) (Nat.le_refl _) ?_; intro v' w1 hown hgr _)
  go_ret
  refine ⟨_, rfl, (Below.refl _ _).grown hgr (Nat.le_refl _) (by intro k hk; simp [Value.ownBlock] at hk), ?_⟩
  simpa [Own] using hown

set_option maxHeartbeats 1000000 in
theorem quotient_any (a b : Int) (w : World) (hb : ¬ b = 0) :
    Calls Tryz.prog 45 #[.int .i64 a, .int .i64 b] w fun e w' => e = .returned (.int .i64 (wrap64 (a.tdiv b))) ∧ w' = w := by
  by_cases h1 : b = -1
  · subst h1
    have hneg : a.tdiv (-1) = -a := by simp
    have HN := hide hneg
    clear hneg
    go_enter Tryz.func45, Tryz.ntmps45
    go_wp2
    go_ret
    exact ⟨ret_int (by rw [HN.out]), rfl⟩
  · have h1' : (b == -1) = false := by simpa using h1
    go_enter Tryz.func45, Tryz.ntmps45
    go_wp2
    go_ret
    exact ⟨rfl, rfl⟩

end Go.Proofs.YtmeiogoodbnkkaaGreat

/- The document's answer: what an order does. -/
namespace Go.Proofs.YtmeiogoodbnkkaaGreat
open Go.RowKit

theorem ret_three {a b c a' b' c' : Int} (h : (a, b, c) = (a', b', c')) : Ending.returned (.tuple #[.int .i64 a, .int .i64 b, .int .i64 c]) = .returned (.tuple #[.int .i64 a', .int .i64 b', .int .i64 c']) := by
  simp only [Prod.mk.injEq] at h
  obtain ⟨rfl, rfl, rfl⟩ := h
  rfl

set_option maxHeartbeats 4000000 in
theorem effect_any (op d ra rb k a b : Int) (p : Option Addr) (c : Nat) (mem : List Int) (w : World) (hrd : Rd w p mem) (h1 : 1 ≤ op) (h7 : op ≤ 7) :
    Calls Tryz.prog 30 #[.agg #[.int .i64 op, .int .i64 d, .int .i64 ra, .int .i64 rb, .int .i64 k], .int .i64 a, .int .i64 b, .slice p mem.length c] w fun e w' =>
      e = .returned (.tuple #[.int .i64 (eff ⟨op, d, ra, rb, k⟩ a b mem).1, .int .i64 (eff ⟨op, d, ra, rb, k⟩ a b mem).2.1, .int .i64 (eff ⟨op, d, ra, rb, k⟩ a b mem).2.2]) ∧ Below w.heap.size w w' := by
  have HRD := hide hrd
  clear hrd
  have hc : op = 1 ∨ op = 2 ∨ op = 3 ∨ op = 4 ∨ op = 5 ∨ op = 6 ∨ op = 7 := by omega
  rcases hc with rfl | rfl | rfl | rfl | rfl | rfl | rfl
  · have HE : Hid ((0, k, 0) = eff ⟨1, d, ra, rb, k⟩ a b mem) := by show _ = _; simp [eff]
    go_enter Tryz.func30, Tryz.ntmps30
    go_wp2
    go_quiet (fail)
    go_wp2
    go_ret3
    exact ⟨ret_three HE.out, below_drewN ((Below.refl _ _).alloc (Nat.le_refl _) _) _⟩
  · have HE : Hid ((0, wrap64 (a + b), 0) = eff ⟨2, d, ra, rb, k⟩ a b mem) := by show _ = _; simp [eff]
    go_enter Tryz.func30, Tryz.ntmps30
    go_wp2
    go_ret3
    exact ⟨ret_three HE.out, (Below.refl _ _).alloc (Nat.le_refl _) _⟩
  · have HE : Hid ((0, wrap64 (a - b), 0) = eff ⟨3, d, ra, rb, k⟩ a b mem) := by show _ = _; simp [eff]
    go_enter Tryz.func30, Tryz.ntmps30
    go_wp2
    go_ret3
    exact ⟨ret_three HE.out, (Below.refl _ _).alloc (Nat.le_refl _) _⟩
  · have HE : Hid ((0, wrap64 (a * b), 0) = eff ⟨4, d, ra, rb, k⟩ a b mem) := by show _ = _; simp [eff]
    go_enter Tryz.func30, Tryz.ntmps30
    go_wp2
    go_ret3
    exact ⟨ret_three HE.out, (Below.refl _ _).alloc (Nat.le_refl _) _⟩
  · by_cases hb : b = 0
    · subst hb
      have HE : Hid ((1, 0, 0) = eff ⟨5, d, ra, rb, k⟩ a 0 mem) := by show _ = _; simp [eff]
      go_enter Tryz.func30, Tryz.ntmps30
      go_wp2
      go_ret3
      exact ⟨ret_three HE.out, (Below.refl _ _).alloc (Nat.le_refl _) _⟩
    · have HE : Hid ((0, wrap64 (a.tdiv b), 0) = eff ⟨5, d, ra, rb, k⟩ a b mem) := by show _ = _; simp [eff, hb]
      have hb' : (b == 0) = false := by simpa using hb
      have HBN := hide hb
      clear hb
      go_enter Tryz.func30, Tryz.ntmps30
      go_wp2_with (go_at_call 45; refine (quotient_any _ _ _ HBN.out).mono ?_; rintro e w' ⟨rfl, rfl⟩)
      go_ret3
      exact ⟨ret_three HE.out, (Below.refl _ _).alloc (Nat.le_refl _) _⟩
  · obtain ⟨at', hat⟩ : ∃ x, x = wrap64 (a + k) := ⟨_, rfl⟩
    by_cases h0 : at' < 0
    · have HE : Hid ((2, 0, 0) = eff ⟨6, d, ra, rb, k⟩ a b mem) := by show _ = _; simp [eff, ← hat, h0]
      have hat2 := hat.symm
      clear hat
      go_enter Tryz.func30, Tryz.ntmps30
      go_wp2
      go_ret3
      exact ⟨ret_three HE.out, (Below.refl _ _).alloc (Nat.le_refl _) _⟩
    · by_cases h2 : (mem.length : Int) ≤ at'
      · have HE : Hid ((2, 0, 0) = eff ⟨6, d, ra, rb, k⟩ a b mem) := by show _ = _; simp [eff, ← hat, h2]
        have hat2 := hat.symm
        clear hat
        go_enter Tryz.func30, Tryz.ntmps30
        go_wp2
        go_ret3
        exact ⟨ret_three HE.out, (Below.refl _ _).alloc (Nat.le_refl _) _⟩
      · have HE : Hid ((0, mem.getD at'.toNat 0, at') = eff ⟨6, d, ra, rb, k⟩ a b mem) := by show _ = _; simp [eff, ← hat, h0, h2]
        obtain ⟨j, rfl⟩ := Int.eq_ofNat_of_zero_le (show 0 ≤ at' by omega)
        simp only [Int.toNat_natCast] at HE
        have hat2 := hat.symm
        clear hat
        have hj : j < mem.length := by omega
        obtain ⟨mb, off, rfl, hmb, hcell⟩ := HRD.out.at hj
        obtain ⟨x, hx⟩ : ∃ x, x = mem.getD j 0 := ⟨_, rfl⟩
        have hcj := hcell j hj
        rw [← hx] at HE hcj
        clear hcell hx
        have hne : ¬ w.heap.size = mb := by omega
        go_enter Tryz.func30, Tryz.ntmps30
        go_wp2
        go_quiet (fail)
        go_wp2
        go_ret3
        exact ⟨ret_three HE.out, below_drewN ((Below.refl _ _).alloc (Nat.le_refl _) _) _⟩
  · obtain ⟨at', hat⟩ : ∃ x, x = wrap64 (a + k) := ⟨_, rfl⟩
    by_cases h0 : at' < 0
    · have HE : Hid ((2, 0, 0) = eff ⟨7, d, ra, rb, k⟩ a b mem) := by show _ = _; simp [eff, ← hat, h0]
      have hat2 := hat.symm
      clear hat
      go_enter Tryz.func30, Tryz.ntmps30
      go_wp2
      go_ret3
      exact ⟨ret_three HE.out, (Below.refl _ _).alloc (Nat.le_refl _) _⟩
    · by_cases h2 : (mem.length : Int) ≤ at'
      · have HE : Hid ((2, 0, 0) = eff ⟨7, d, ra, rb, k⟩ a b mem) := by show _ = _; simp [eff, ← hat, h2]
        have hat2 := hat.symm
        clear hat
        go_enter Tryz.func30, Tryz.ntmps30
        go_wp2
        go_ret3
        exact ⟨ret_three HE.out, (Below.refl _ _).alloc (Nat.le_refl _) _⟩
      · have HE : Hid ((0, b, at') = eff ⟨7, d, ra, rb, k⟩ a b mem) := by show _ = _; simp [eff, ← hat, h0, h2]
        have hat2 := hat.symm
        clear hat
        go_enter Tryz.func30, Tryz.ntmps30
        go_wp2
        go_ret3
        exact ⟨ret_three HE.out, (Below.refl _ _).alloc (Nat.le_refl _) _⟩

end Go.Proofs.YtmeiogoodbnkkaaGreat

/- The document's answer: Plain. -/
namespace Go.Proofs.YtmeiogoodbnkkaaGreat
open Go.RowKit

set_option maxHeartbeats 2000000 in
theorem wrong_any (p pm : Option Addr) (c cm n : Nat) (prog : List Ord) (steps : Int) (w : World) (hp : RdO w p prog) (hlen : (prog.length : Int) ≤ 1000000000000000) (hlm : (n : Int) ≤ 1000000000000000) :
    Calls Tryz.prog 28 #[.slice p prog.length c, .slice pm n cm, .int .i64 steps] w fun e w' => e = .returned (.int .i64 (refuse prog n steps)) ∧ Below w.heap.size w w' := by
  have HP := hide hp
  clear hp
  rcases refuse_ways prog n steps with ⟨h1, hr⟩ | ⟨h1, h2, hr⟩ | ⟨h1, h2, h3, hr⟩ | ⟨h1, h2, h3, h4, hr⟩ | ⟨h1, h2, h3, h4, hr⟩
  · have HR := hide hr
    clear hr
    go_enter Tryz.func28, Tryz.ntmps28
    go_wp2_with (go_at_call 44; refine (refProg_any _ _ _ _ HP.out hlen).mono ?_; rintro e w1 ⟨rfl, hb1⟩)
    go_ret
    exact ⟨ret_int HR.out.symm, hb1⟩
  · have HR := hide hr
    clear hr
    have t2 : (16 : Int) < (n : Int) := by omega
    go_enter Tryz.func28, Tryz.ntmps28
    go_wp2_with (go_at_call 44; refine (refProg_any _ _ _ _ HP.out hlen).mono ?_; rintro e w1 ⟨rfl, hb1⟩)
    go_ret
    exact ⟨ret_int HR.out.symm, hb1⟩
  · have HR := hide hr
    clear hr
    have t2 : ¬ (16 : Int) < (n : Int) := by omega
    go_enter Tryz.func28, Tryz.ntmps28
    go_wp2_with (go_at_call 44; refine (refProg_any _ _ _ _ HP.out hlen).mono ?_; rintro e w1 ⟨rfl, hb1⟩)
    go_ret
    exact ⟨ret_int HR.out.symm, hb1⟩
  · have HR := hide hr
    clear hr
    have t2 : ¬ (16 : Int) < (n : Int) := by omega
    go_enter Tryz.func28, Tryz.ntmps28
    go_wp2_with (go_at_call 44; refine (refProg_any _ _ _ _ HP.out hlen).mono ?_; rintro e w1 ⟨rfl, hb1⟩)
    go_ret
    exact ⟨ret_int HR.out.symm, hb1⟩
  · have HR := hide hr
    clear hr
    have t2 : ¬ (16 : Int) < (n : Int) := by omega
    go_enter Tryz.func28, Tryz.ntmps28
    go_wp2_with (go_at_call 44; refine (refProg_any _ _ _ _ HP.out hlen).mono ?_; rintro e w1 ⟨rfl, hb1⟩)
    go_ret
    exact ⟨ret_int HR.out.symm, hb1⟩

set_option maxRecDepth 100000 in
set_option maxHeartbeats 8000000 in
theorem ref_go (p pm : Option Addr) (c cm : Nat) (prog : List Ord) (mem : List Int) (steps : Nat) (w : World) (hp : RdO w p prog) (hm : Rd w pm mem) (hr : refuse prog mem.length steps = 0) :
    Calls Tryz.prog 11 #[.slice p prog.length c, .slice pm mem.length cm, .int .i64 steps] w fun e w' =>
      ∃ mv, e = .returned (.tuple #[.agg (stCells (plainSt prog mem steps).1.regs mv (plainSt prog mem steps).1.next (plainSt prog mem steps).2.1 (plainSt prog mem steps).2.2 (plainSt prog mem steps).1.steps).toArray, .int .i64 0]) ∧
        Below w.heap.size w w' ∧ Own w' w.heap.size mv (plainSt prog mem steps).1.mem := by
  obtain ⟨hprog, hml, hs1, hs⟩ := refuse_ok hr
  have hpl := (isProg_spec hprog).1
  have HP := hide hp
  have HM := hide hm
  have ht : (refuse prog mem.length steps != 0) = false := by simp [hr]
  have HR := hide hr
  clear hp hm hr
  go_enter Tryz.func11, Tryz.ntmps11
  go_wp2_with (first | (go_at_call 28; refine (wrong_any _ _ _ _ _ _ _ _ (HP.out.below (Nat.le_refl _) ((Below.refl _ _).alloc (Nat.le_refl _) _)) (by omega) (by omega)).mono ?_; rintro e w1 ⟨rfl, hb1⟩; have HB1 : Hid (Below w.heap.size w w1) := (((Below.refl _ _).alloc (Nat.le_refl _) _).trans (hb1.mono (by simp))); have hz1 : w.heap.size + 1 ≤ w1.heap.size := (by have := hb1.size; simp at this; omega)) | (go_at_call 29; refine (words_any _ _ _ _ (HM.out.below (Nat.le_refl _) HB1.out) (by omega)).mono ?_; rintro e w2 ⟨mv, rfl, hb2, hown2⟩; obtain ⟨pp, cc, rfl, _⟩ := hown2.slice))
  have HNE : Hid ((Value.slice pp mem.length cc).ownBlock ≠ some w2.heap.size) := fun e => by have := (hown2.lt _ e).2; omega
  have HNE2 : Hid ((Value.slice pp mem.length cc).ownBlock ≠ some w.heap.size) := fun e => by have := (hown2.lt _ e).1; omega
  have hz2 : w.heap.size + 1 ≤ w2.heap.size := Nat.le_trans hz1 hb2.size
  have hOwn0 : Own w2 (w.heap.size + 1) (.slice pp mem.length cc) mem := hown2.base hz1
  have hOwn : ∀ x, Own (w2.alloc x) (w.heap.size + 1) (.slice pp mem.length cc) mem := fun x => hOwn0.below ((Below.refl _ _).alloc (Nat.le_refl _) _) (fun g hg => (hOwn0.lt g hg).2)
  have hBel : ∃ W0, Hid (W0 = w.alloc (.cells #[.int .i64 0, .int .i64 0, .int .i64 0, .int .i64 0, .int .i64 0, .int .i64 0, .int .i64 0, .int .i64 0, .slice none 0 0, .int .i64 0, .int .i64 0, .int .i64 0, .int .i64 0] 46)) ∧ ∀ x, Below (w.heap.size + 1) W0 (w2.alloc x) :=
    ⟨_, rfl, fun x => ((hb1.mono (by simp)).trans (hb2.mono hz1)).alloc hz2 _⟩
  obtain ⟨W0, HW0, hBel⟩ := hBel
  have HOWN := hide hOwn
  have HBEL := hide hBel
  clear hOwn hBel hOwn0 hb1 hb2 hown2 HB1
  go_loopw [11] (fun _ wr => ∃ s : St, Hid (Fine prog mem.length steps s ∧ StAt wr w2.heap.size s.regs (.slice pp mem.length cc) s.next 0 0 s.steps ∧
      Own wr (w.heap.size + 1) (.slice pp mem.length cc) s.mem ∧ Below (w.heap.size + 1) W0 wr ∧ goOn prog steps (steps + 1 - s.steps) s = plainSt prog mem steps))
    (fun _ wr => steps + 1 - (intOf ((wr.cell? ⟨w2.heap.size, 12, none⟩).getD undef)).toNat)
  case atStart => exact ⟨start mem, ⟨rfl, rfl, Nat.zero_le _, Nat.zero_le _⟩, ⟨rfl, heap_alloc_new _ _⟩, HOWN.out _, HBEL.out _, rfl⟩
  case round =>
    obtain ⟨s, hr⟩ := hrel
    obtain ⟨hF, hS, hO, hB, hG⟩ := hr.out
    clear hr
    obtain ⟨x0, x1, x2, x3, x4, x5, x6, x7, hx⟩ := list8 hF.regs
    have hfu : steps + 1 - s.steps = (steps - s.steps) + 1 := by have := hF.steps; omega
    rw [hfu] at hG
    have hnl := hF.next
    have hsl := hF.steps
    have HF := hide hF
    have HS := hide hS
    rw [hx] at hS
    have d0 : wr.cell? ⟨w2.heap.size, 0, none⟩ = some (.int .i64 x0) := hS.reg (i := 0) (by omega)
    have d1 : wr.cell? ⟨w2.heap.size, 1, none⟩ = some (.int .i64 x1) := hS.reg (i := 1) (by omega)
    have d2 : wr.cell? ⟨w2.heap.size, 2, none⟩ = some (.int .i64 x2) := hS.reg (i := 2) (by omega)
    have d3 : wr.cell? ⟨w2.heap.size, 3, none⟩ = some (.int .i64 x3) := hS.reg (i := 3) (by omega)
    have d4 : wr.cell? ⟨w2.heap.size, 4, none⟩ = some (.int .i64 x4) := hS.reg (i := 4) (by omega)
    have d5 : wr.cell? ⟨w2.heap.size, 5, none⟩ = some (.int .i64 x5) := hS.reg (i := 5) (by omega)
    have d6 : wr.cell? ⟨w2.heap.size, 6, none⟩ = some (.int .i64 x6) := hS.reg (i := 6) (by omega)
    have d7 : wr.cell? ⟨w2.heap.size, 7, none⟩ = some (.int .i64 x7) := hS.reg (i := 7) (by omega)
    have d8 := hS.cMv
    have d9 := hS.cNext
    have d10 := hS.cStop
    have d11 := hS.cTrap
    have d12 := hS.cSteps
    have df := hS.frozen
    have hN : ∀ o, wr.cell? ⟨w.heap.size, o, none⟩ = (w.alloc (.cells #[.int .i64 0, .int .i64 0, .int .i64 0, .int .i64 0, .int .i64 0, .int .i64 0, .int .i64 0, .int .i64 0, .slice none 0 0, .int .i64 0, .int .i64 0, .int .i64 0, .int .i64 0] 46)).cell? ⟨w.heap.size, o, none⟩ := fun o => by
      rw [hB.cell (p := ⟨w.heap.size, o, none⟩) (Nat.lt_succ_self _), HW0.out]
    have hNf : ∀ o, wr.frozen? ⟨w.heap.size, o, none⟩ = (w.alloc (.cells #[.int .i64 0, .int .i64 0, .int .i64 0, .int .i64 0, .int .i64 0, .int .i64 0, .int .i64 0, .int .i64 0, .slice none 0 0, .int .i64 0, .int .i64 0, .int .i64 0, .int .i64 0] 46)).frozen? ⟨w.heap.size, o, none⟩ := fun o => by
      rw [hB.frozen (p := ⟨w.heap.size, o, none⟩) (Nat.lt_succ_self _), HW0.out]
    have hbw : Below w.heap.size w wr := by
      have := HW0.out
      subst this
      exact ((Below.refl _ _).alloc (Nat.le_refl _) _).trans (hB.mono (by omega))
    have hpr : RdO wr p prog := HP.out.below (Nat.le_refl _) hbw
    have HG := hide hG
    have HO := hide hO
    have HB := hide hB
    have HBW := hide hbw
    have HPR := hide hpr
    have HX := hide hx
    have hwz := hS.lt
    have hne0 : ¬ w2.heap.size = w.heap.size := by omega
    have hne0' : ¬ w.heap.size = w2.heap.size := by omega
    clear hF hS hx hG hO hB hbw hpr hfu
    by_cases hlt : s.next < prog.length
    · obtain ⟨b, off, rfl, hbw', c0, c1, c2, c3, c4⟩ := HPR.out.at hlt
      have hord := (isProg_spec hprog).2 s.next hlt
      obtain ⟨o, ho⟩ : ∃ o, o = prog.getD s.next Ord.none := ⟨_, rfl⟩
      rw [← ho] at c0 c1 c2 c3 c4 hord
      have HOO := hide ho
      obtain ⟨o0, o8, od0, od7, oa0, oa7, ob0, ob7, hk⟩ := isOrd_spec hord
      obtain ⟨op, d, a, b', k⟩ := o
      simp only at c0 c1 c2 c3 c4 o0 o8 od0 od7 oa0 oa7 ob0 ob7 hk
      have HK := hide hk
      clear ho hord hk
      by_cases hop0 : op = 0
      · subst hop0
        have HE : Hid ((prog.getD s.next Ord.none).op = 0) := by show _ = _; rw [← HOO.out]
        go_wp2
        refine bodyPost_ret (v := .tuple #[.agg #[.int .i64 x0, .int .i64 x1, .int .i64 x2, .int .i64 x3, .int .i64 x4, .int .i64 x5, .int .i64 x6, .int .i64 x7, .slice pp mem.length cc, .int .i64 s.next, .int .i64 0, .int .i64 0, .int .i64 s.steps], .int .i64 0]) (by simp [results, Tryz.results11, go_sem, hN]) rfl ⟨.slice pp mem.length cc, ?_, ?_, ?_⟩
        · rw [← HG.out, goOn_end HE.out]; simp only [HX.out]; rfl
        · repeat (refine Below.setCell ?_ (by simp <;> omega) _)
          exact HBW.out
        · rw [← HG.out, goOn_end HE.out]
          repeat (refine Own.far ?_ (by first | exact HNE.out | exact HNE2.out | fail))
          exact HO.out.base (by omega)
      · have hop' : (op != 0) = true := by simpa using hop0
        have HE : Hid ((prog.getD s.next Ord.none).op ≠ 0) := by show _ ≠ _; rw [← HOO.out]; exact hop0
        have HOP0 := hide hop0
        clear hop0
        by_cases hst : s.steps = steps
        · have t1 : ((s.steps : Int) == (steps : Int)) = true := by simp [hst]
          have HT := hide hst
          clear hst
          go_wp2
          refine bodyPost_ret (v := .tuple #[.agg #[.int .i64 x0, .int .i64 x1, .int .i64 x2, .int .i64 x3, .int .i64 x4, .int .i64 x5, .int .i64 x6, .int .i64 x7, .slice pp mem.length cc, .int .i64 s.next, .int .i64 2, .int .i64 0, .int .i64 s.steps], .int .i64 0]) (by simp [results, Tryz.results11, go_sem, hN]) rfl ⟨.slice pp mem.length cc, ?_, ?_, ?_⟩
          · rw [← HG.out, goOn_out HE.out HT.out]; simp only [HX.out]; rfl
          · repeat (refine Below.setCell ?_ (by simp <;> omega) _)
            exact HBW.out
          · rw [← HG.out, goOn_out HE.out HT.out]
            repeat (refine Own.far ?_ (by first | exact HNE.out | exact HNE2.out | fail))
            exact HO.out.base (by omega)
        · have t1 : ((s.steps : Int) == (steps : Int)) = false := by simp; omega
          have HT := hide hst
          clear hst
          have hF2 := HF.out.one hprog HE.out HT.out
          rw [← HOO.out] at hF2
          have HF2 := hide hF2
          clear hF2
          have hne1 : ¬ wr.heap.size = w2.heap.size := by omega
          have hne2 : ¬ wr.heap.size = b := by omega
          obtain ⟨rd, rfl⟩ := Int.eq_ofNat_of_zero_le od0
          obtain ⟨ra, rfl⟩ := Int.eq_ofNat_of_zero_le oa0
          obtain ⟨rb, rfl⟩ := Int.eq_ofNat_of_zero_le ob0
          have da := HS.out.reg (i := ra) (by omega)
          have db := HS.out.reg (i := rb) (by omega)
          obtain ⟨xa, hxa⟩ : ∃ x, x = s.regs.getD ra 0 := ⟨_, rfl⟩
          obtain ⟨xb, hxb⟩ : ∃ x, x = s.regs.getD rb 0 := ⟨_, rfl⟩
          rw [← hxa] at da
          rw [← hxb] at db
          have HXA := hide hxa
          have HXB := hide hxb
          clear hxa hxb d0 d1 d2 d3 d4 d5 d6 d7
          by_cases h8 : op = 8
          · subst h8
            obtain ⟨nk, rfl⟩ := Int.eq_ofNat_of_zero_le (HK.out rfl).1
            by_cases hxa0 : xa = 0
            · subst hxa0
              go_wp2
              have e2 : doOne ⟨8, rd, ra, rb, nk⟩ s = (0, ⟨s.regs, s.mem, nk, s.steps + 1⟩) := by
                unfold doOne
                simp only [Int.toNat_natCast, if_true]
                rw [← HXA.out, if_pos rfl]
              have hgo := HG.out
              rw [goOn_on HE.out HT.out (by rw [← HOO.out, e2]), ← HOO.out, e2] at hgo
              have hF3 := HF2.out
              rw [e2] at hF3
              have hlt2 : s.steps < steps := by have := HT.out; omega
              go_roundw
              case rel =>
                refine ⟨⟨s.regs, s.mem, nk, s.steps + 1⟩, hF3, (((HS.out.setSteps _).setNext _).setNext _).below ((Below.refl _ _).alloc (Nat.le_refl _) _) (by simpa using hwz), (((HO.out.far HNE.out).far HNE.out).far HNE.out).below ((Below.refl _ _).alloc (Nat.le_refl _) _) (fun g hg => by have := (HO.out.lt g hg).2; simpa using this), (((HB.out.setCell hz2 _).setCell hz2 _).setCell hz2 _).alloc (by simp; omega) _, ?_⟩
                rw [← hgo, show steps + 1 - (s.steps + 1) = steps - s.steps by omega]
              case measure =>
                rw [StAt.cSteps ((((HS.out.setSteps _).setNext _).setNext _).below ((Below.refl _ _).alloc (Nat.le_refl _) _) (by simpa using hwz)), d12]
                simp [intOf]
                omega
            · have hxa' : (xa == 0) = false := by simpa using hxa0
              have HXA0 := hide hxa0
              clear hxa0
              go_wp2
              have e2 : doOne ⟨8, rd, ra, rb, nk⟩ s = (0, ⟨s.regs, s.mem, s.next + 1, s.steps + 1⟩) := by
                unfold doOne
                simp only [Int.toNat_natCast, if_true]
                rw [← HXA.out, if_neg HXA0.out]
              have hgo := HG.out
              rw [goOn_on HE.out HT.out (by rw [← HOO.out, e2]), ← HOO.out, e2] at hgo
              have hF3 := HF2.out
              rw [e2] at hF3
              have hlt2 : s.steps < steps := by have := HT.out; omega
              go_roundw
              case rel =>
                refine ⟨⟨s.regs, s.mem, s.next + 1, s.steps + 1⟩, hF3, ((HS.out.setSteps _).setNext _).below ((Below.refl _ _).alloc (Nat.le_refl _) _) (by simpa using hwz), ((HO.out.far HNE.out).far HNE.out).below ((Below.refl _ _).alloc (Nat.le_refl _) _) (fun g hg => by have := (HO.out.lt g hg).2; simpa using this), ((HB.out.setCell hz2 _).setCell hz2 _).alloc (by simp; omega) _, ?_⟩
                rw [← hgo, show steps + 1 - (s.steps + 1) = steps - s.steps by omega]
              case measure =>
                rw [StAt.cSteps (((HS.out.setSteps _).setNext _).below ((Below.refl _ _).alloc (Nat.le_refl _) _) (by simpa using hwz)), d12]
                simp [intOf]
                omega
          · have h8' : (op == 8) = false := by simpa using h8
            have H8 := hide h8
            clear h8
            have hop1 : 1 ≤ op := by have := HOP0.out; omega
            have hop7 : op ≤ 7 := by have := H8.out; omega
            obtain ⟨t, v, at', he⟩ : ∃ t v a, eff ⟨op, rd, ra, rb, k⟩ xa xb s.mem = (t, v, a) := ⟨_, _, _, rfl⟩
            have heff : ∀ W, Below wr.heap.size wr W → Calls Tryz.prog 30 #[.agg #[.int .i64 op, .int .i64 rd, .int .i64 ra, .int .i64 rb, .int .i64 k], .int .i64 xa, .int .i64 xb, .slice pp mem.length cc] W fun e w' =>
                e = .returned (.tuple #[.int .i64 t, .int .i64 v, .int .i64 at']) ∧ Below W.heap.size W w' := by
              intro W hW
              obtain ⟨p', c', hp', hrd'⟩ := HO.out.slice
              have := effect_any op rd ra rb k xa xb p' c' s.mem W (hrd'.below (Nat.le_refl _) hW) hop1 hop7
              rw [he, ← hp'] at this
              exact this
            have HEFF := hide heff
            have HEE := hide he
            clear heff he
            obtain ⟨W1, hW1⟩ : ∃ W1, W1 = wr.alloc (.cells #[.int .i64 op, .int .i64 rd, .int .i64 ra, .int .i64 rb, .int .i64 k] 40) := ⟨_, rfl⟩
            have hw1 : ∀ w', Below (wr.heap.size + 1) W1 w' → Below wr.heap.size wr w' := fun w' h => by
              rw [hW1] at h; exact ((Below.refl _ _).alloc (Nat.le_refl _) _).trans (h.mono (by omega))
            have hbox : ∀ w', Below (wr.heap.size + 1) W1 w' → w'.cell? ⟨wr.heap.size, 0, none⟩ = some (.int .i64 op) ∧ w'.cell? ⟨wr.heap.size, 1, none⟩ = some (.int .i64 rd) ∧ w'.cell? ⟨wr.heap.size, 2, none⟩ = some (.int .i64 ra) ∧ w'.cell? ⟨wr.heap.size, 3, none⟩ = some (.int .i64 rb) ∧ w'.cell? ⟨wr.heap.size, 4, none⟩ = some (.int .i64 k) := by
              intro w' h
              have hc : ∀ j, w'.cell? ⟨wr.heap.size, j, none⟩ = W1.cell? ⟨wr.heap.size, j, none⟩ := fun j => h.cell (p := ⟨wr.heap.size, j, none⟩) (Nat.lt_succ_self _)
              subst hW1
              simp [hc, go_sem]
            have r0 := fun w' h => (hbox w' h).1
            have r1 := fun w' h => (hbox w' h).2.1
            have r2 := fun w' h => (hbox w' h).2.2.1
            have r3 := fun w' h => (hbox w' h).2.2.2.1
            have r4 := fun w' h => (hbox w' h).2.2.2.2
            have q0 : ∀ w', Below (wr.heap.size + 1) W1 w' → w'.cell? ⟨w2.heap.size, ra, none⟩ = some (.int .i64 xa) := fun w' h => by rw [(hw1 w' h).cell (p := ⟨w2.heap.size, ra, none⟩) hwz]; exact da
            have q1 : ∀ w', Below (wr.heap.size + 1) W1 w' → w'.cell? ⟨w2.heap.size, rb, none⟩ = some (.int .i64 xb) := fun w' h => by rw [(hw1 w' h).cell (p := ⟨w2.heap.size, rb, none⟩) hwz]; exact db
            have q2 : ∀ w', Below (wr.heap.size + 1) W1 w' → w'.cell? ⟨w2.heap.size, 8, none⟩ = some (.slice pp mem.length cc) := fun w' h => by rw [(hw1 w' h).cell (p := ⟨w2.heap.size, 8, none⟩) hwz]; exact d8
            have HS0 : Hid (Below (wr.heap.size + 1) W1 (wr.alloc (.cells #[.int .i64 op, .int .i64 rd, .int .i64 ra, .int .i64 rb, .int .i64 k] 40)).drew) := by
              show Below _ _ _
              rw [hW1]; exact (Below.refl _ _).drew
            have HW1B := hide hw1
            have HBOX := hide hbox
            clear hbox hW1 hw1
            have ra1 : (ra : Int) < 8 := by omega
            have rb1 : (rb : Int) < 8 := by omega
            have rd1 : (rd : Int) < 8 := by omega
            go_wp2
            go_region_held3 (fun w' => Below (wr.heap.size + 1) W1 w') (first | assumption | exact HS0.out | exact HS1.out | fail) ((go_at_call 30; refine (HEFF.out _ (HW1B.out _ (by assumption))).mono ?_; rintro e w3 ⟨rfl, hb3⟩; have HS1 : Hid (Below (wr.heap.size + 1) W1 w3) := (HS0.out.trans (hb3.mono (by simp)))))
            have hb4 := HW1B.out _ HS1.out
            have hst3 := HS.out.below hb4 hwz
            have hown3 := HO.out.below hb4 (fun g hg => (HO.out.lt g hg).2)
            have hB3 := HB.out.trans (hb4.mono (by omega))
            have hbw3 := HBW.out.trans (hb4.mono (by omega))
            have hz3 : wr.heap.size ≤ w3.heap.size := hb4.size
            have hbx := HBOX.out _ HS1.out
            clear d8 d9 d10 d11 d12 df hN hNf c0 c1 c2 c3 c4 da db r0 r1 r2 r3 r4 q0 q1 q2 hb3 hb4
            by_cases ht0 : t = 0
            · subst ht0
              by_cases h7 : op = 7
              · subst h7
                have hin := eff7_in (by rw [HEE.out])
                have e0 := HEE.out
                rw [eff7 hin] at e0
                simp only [Prod.mk.injEq, true_and] at e0
                obtain ⟨rfl, hat⟩ := e0
                obtain ⟨j, hj⟩ := Int.eq_ofNat_of_zero_le (show 0 ≤ at' by omega)
                subst hj
                have hml2 := HF.out.mem
                have hjl : j < s.mem.length := by omega
                rcases hown3.form with ⟨hn1, hn2⟩ | ⟨g, cap, cur, hn1, hn2, hn3, hn4, hn5, hn6, hn7, hn8⟩
                · rw [hn2] at hjl; simp at hjl
                rw [hml2] at hn1
                simp only [Value.slice.injEq] at hn1
                obtain ⟨rfl, -, rfl⟩ := hn1
                have hgsb : ¬ g = w2.heap.size := fun e => HNE.out (by simp [Value.ownBlock, e])
                have hgsb' : ¬ w2.heap.size = g := fun e => hgsb e.symm
                obtain ⟨p', c', hp', hrd'⟩ := hown3.slice
                rw [hml2] at hp'
                simp only [Value.slice.injEq] at hp'
                obtain ⟨rfl, -, rfl⟩ := hp'
                obtain ⟨_, _, h5, _, h6⟩ := hrd'.at hjl
                simp only [Option.some.injEq, Addr.mk.injEq, and_true] at h5
                obtain ⟨rfl, rfl⟩ := h5
                have hcj := h6 j hjl
                rw [Nat.zero_add] at hcj
                have hown4 := hown3
                rw [← hml2] at hown4
                have hfj := World.ownsRow.frozenAt hown4 j
                have hjm : (j : Int) < (mem.length : Int) := by omega
                have g8 := hst3.cMv
                have g9 := hst3.cNext
                have g12 := hst3.cSteps
                have gf := hst3.frozen
                obtain ⟨y, hy⟩ : ∃ y, y = s.mem.getD j 0 := ⟨_, rfl⟩
                rw [← hy] at hcj
                have HST3 := hide hst3
                have HO3 := hide hown4
                have HB3 := hide hB3
                have HN2 := hide hn2
                clear hst3 hown3 hown4 hB3 h6 hrd' hn4 hn7 hn8 hy hn2
                have e2 : doOne ⟨7, rd, ra, rb, k⟩ s = (0, ⟨s.regs, s.mem.set j xb, s.next + 1, s.steps + 1⟩) := by
                  have h9 := HEE.out
                  rw [HXA.out] at h9
                  rw [show eff ⟨7, rd, ra, rb, k⟩ (s.regs.getD ra 0) xb s.mem = eff ⟨7, rd, ra, rb, k⟩ (s.regs.getD ra 0) (s.regs.getD rb 0) s.mem by rw [HXB.out]] at h9
                  rw [doOne7 h9, Int.toNat_natCast]
                have hgo := HG.out
                rw [goOn_on HE.out HT.out (by rw [← HOO.out, e2]), ← HOO.out, e2] at hgo
                have hF3 := HF2.out
                rw [e2] at hF3
                have hlt2 : s.steps < steps := by have := HT.out; omega
                have HGO := hide hgo
                have HF3 := hide hF3
                clear hgo hF3 e2 hin hat
                go_wp2
                go_roundw
                case rel =>
                  refine ⟨⟨s.regs, s.mem.set j xb, s.next + 1, s.steps + 1⟩, HF3.out, ((HST3.out.far hgsb').setSteps _).setNext _, ?_, ((HB3.out.setCell HN2.out _).setCell hz2 _).setCell hz2 _, ?_⟩
                  · have h9 := HO3.out.setWord j xb
                    rw [hml2] at h9
                    exact (h9.far HNE.out).far HNE.out
                  · rw [← HGO.out, show steps + 1 - (s.steps + 1) = steps - s.steps by omega]
                case measure =>
                  rw [StAt.cSteps (((HST3.out.far hgsb').setSteps _).setNext _), HS.out.cSteps]
                  simp [intOf]
                  omega
              · have h7' : (op == 7) = false := by simpa using h7
                have g8 := hst3.cMv
                have g9 := hst3.cNext
                have g12 := hst3.cSteps
                have gf := hst3.frozen
                have gd := hst3.reg (i := rd) (by omega)
                have HST3 := hide hst3
                have HO3 := hide hown3
                have HB3 := hide hB3
                have e2 : doOne ⟨op, rd, ra, rb, k⟩ s = (0, ⟨s.regs.set rd v, s.mem, s.next + 1, s.steps + 1⟩) := by
                  have h9 := HEE.out
                  rw [HXA.out, HXB.out] at h9
                  rw [doOne_reg H8.out h7 (by rw [h9]), h9]
                have hgo := HG.out
                rw [goOn_on HE.out HT.out (by rw [← HOO.out, e2]), ← HOO.out, e2] at hgo
                have hF3 := HF2.out
                rw [e2] at hF3
                have hlt2 : s.steps < steps := by have := HT.out; omega
                have HGO := hide hgo
                have HF3 := hide hF3
                clear hst3 hown3 hB3 hgo hF3 e2 h7
                have hrd9 : ¬ rd = 9 := by omega
                have hrd12 : ¬ rd = 12 := by omega
                have hrd9' : ¬ 9 = rd := by omega
                have hrd12' : ¬ 12 = rd := by omega
                go_wp2
                go_roundw
                case rel =>
                  refine ⟨⟨s.regs.set rd v, s.mem, s.next + 1, s.steps + 1⟩, HF3.out, ((HST3.out.setReg (by omega) _).setSteps _).setNext _, ((HO3.out.far HNE.out).far HNE.out).far HNE.out, ((HB3.out.setCell hz2 _).setCell hz2 _).setCell hz2 _, ?_⟩
                  rw [← HGO.out, show steps + 1 - (s.steps + 1) = steps - s.steps by omega]
                case measure =>
                  rw [StAt.cSteps (((HST3.out.setReg (by omega) _).setSteps _).setNext _), HS.out.cSteps]
                  simp [intOf]
                  omega
            · have ht0' : (t != 0) = true := by simpa using ht0
              have e2 : doOne ⟨op, rd, ra, rb, k⟩ s = (t, s) := by
                have := HEE.out
                rw [HXA.out, HXB.out] at this
                rw [doOne_trap H8.out (by rw [this]; exact ht0), this]
              have HE2 := hide e2
              have HTN : Hid ((doOne (prog.getD s.next Ord.none) s).1 ≠ 0) := by show _ ≠ _; rw [← HOO.out, e2]; exact ht0
              have hN3 : ∀ o, w3.cell? ⟨w.heap.size, o, none⟩ = (w.alloc (.cells #[.int .i64 0, .int .i64 0, .int .i64 0, .int .i64 0, .int .i64 0, .int .i64 0, .int .i64 0, .int .i64 0, .slice none 0 0, .int .i64 0, .int .i64 0, .int .i64 0, .int .i64 0] 46)).cell? ⟨w.heap.size, o, none⟩ := fun o => by
                rw [hB3.cell (p := ⟨w.heap.size, o, none⟩) (Nat.lt_succ_self _), HW0.out]
              have hNf3 : ∀ o, w3.frozen? ⟨w.heap.size, o, none⟩ = (w.alloc (.cells #[.int .i64 0, .int .i64 0, .int .i64 0, .int .i64 0, .int .i64 0, .int .i64 0, .int .i64 0, .int .i64 0, .slice none 0 0, .int .i64 0, .int .i64 0, .int .i64 0, .int .i64 0] 46)).frozen? ⟨w.heap.size, o, none⟩ := fun o => by
                rw [hB3.frozen (p := ⟨w.heap.size, o, none⟩) (Nat.lt_succ_self _), HW0.out]
              have hst4 := hst3
              rw [HX.out] at hst4
              have g0 : w3.cell? ⟨w2.heap.size, 0, none⟩ = some (.int .i64 x0) := hst4.reg (i := 0) (by omega)
              have g1 : w3.cell? ⟨w2.heap.size, 1, none⟩ = some (.int .i64 x1) := hst4.reg (i := 1) (by omega)
              have g2 : w3.cell? ⟨w2.heap.size, 2, none⟩ = some (.int .i64 x2) := hst4.reg (i := 2) (by omega)
              have g3 : w3.cell? ⟨w2.heap.size, 3, none⟩ = some (.int .i64 x3) := hst4.reg (i := 3) (by omega)
              have g4 : w3.cell? ⟨w2.heap.size, 4, none⟩ = some (.int .i64 x4) := hst4.reg (i := 4) (by omega)
              have g5 : w3.cell? ⟨w2.heap.size, 5, none⟩ = some (.int .i64 x5) := hst4.reg (i := 5) (by omega)
              have g6 : w3.cell? ⟨w2.heap.size, 6, none⟩ = some (.int .i64 x6) := hst4.reg (i := 6) (by omega)
              have g7 : w3.cell? ⟨w2.heap.size, 7, none⟩ = some (.int .i64 x7) := hst4.reg (i := 7) (by omega)
              have g8 := hst4.cMv
              have g9 := hst4.cNext
              have g10 := hst4.cStop
              have g11 := hst4.cTrap
              have g12 := hst4.cSteps
              have gf := hst4.frozen
              have HO3 := hide hown3
              have HB3 := hide hbw3
              clear hst3 hst4 hown3 hbw3 hB3 hbx e2 ht0
              go_wp2
              refine bodyPost_ret (v := .tuple #[.agg #[.int .i64 x0, .int .i64 x1, .int .i64 x2, .int .i64 x3, .int .i64 x4, .int .i64 x5, .int .i64 x6, .int .i64 x7, .slice pp mem.length cc, .int .i64 s.next, .int .i64 1, .int .i64 t, .int .i64 s.steps], .int .i64 0]) (by simp [results, Tryz.results11, go_sem, hN3]) rfl ⟨.slice pp mem.length cc, ?_, ?_, ?_⟩
              · rw [← HG.out, goOn_trap HE.out HT.out HTN.out, ← HOO.out, HE2.out]; simp only [HX.out]; rfl
              · repeat (refine Below.setCell ?_ (by simp <;> omega) _)
                exact HB3.out
              · rw [← HG.out, goOn_trap HE.out HT.out HTN.out, ← HOO.out, HE2.out]
                repeat (refine Own.far ?_ (by first | exact HNE.out | exact HNE2.out | fail))
                exact HO3.out.base (by omega)
    · have t0 : ¬ ((s.next : Int) < (prog.length : Int)) := by omega
      have HE : Hid ((prog.getD s.next Ord.none).op = 0) := by
        show _ = _
        simp [List.getD_eq_getElem?_getD, List.getElem?_eq_none (Nat.le_of_not_lt hlt), Ord.none]
      go_wp2
      refine bodyPost_ret (v := .tuple #[.agg #[.int .i64 x0, .int .i64 x1, .int .i64 x2, .int .i64 x3, .int .i64 x4, .int .i64 x5, .int .i64 x6, .int .i64 x7, .slice pp mem.length cc, .int .i64 s.next, .int .i64 0, .int .i64 0, .int .i64 s.steps], .int .i64 0]) (by simp [results, Tryz.results11, go_sem, hN]) rfl ⟨.slice pp mem.length cc, ?_, ?_, ?_⟩
      · rw [← HG.out, goOn_end HE.out]; simp only [HX.out]; rfl
      · repeat (refine Below.setCell ?_ (by simp <;> omega) _)
        exact HBW.out
      · rw [← HG.out, goOn_end HE.out]
        repeat (refine Own.far ?_ (by first | exact HNE.out | exact HNE2.out | fail))
        exact HO.out.base (by omega)

end Go.Proofs.YtmeiogoodbnkkaaGreat

/- The document's Plain at all arguments; two states held against each other. -/
namespace Go.Proofs.YtmeiogoodbnkkaaGreat
open Go.RowKit

set_option maxRecDepth 100000 in
set_option maxHeartbeats 4000000 in
theorem ref_any (p pm : Option Addr) (c cm : Nat) (prog : List Ord) (mem : List Int) (steps : Int) (w : World) (hp : RdO w p prog) (hm : Rd w pm mem) (hlen : (prog.length : Int) ≤ 1000000000000000) (hlm : (mem.length : Int) ≤ 1000000000000000) :
    Calls Tryz.prog 11 #[.slice p prog.length c, .slice pm mem.length cm, .int .i64 steps] w fun e w' =>
      ∃ mv, e = .returned (.tuple #[.agg (stCells (answer prog mem steps).1.regs mv (answer prog mem steps).1.next (answer prog mem steps).2.1 (answer prog mem steps).2.2.1 (answer prog mem steps).1.steps).toArray, .int .i64 (answer prog mem steps).2.2.2]) ∧
        Below w.heap.size w w' ∧ Own w' w.heap.size mv (answer prog mem steps).1.mem := by
  by_cases hr : refuse prog mem.length steps = 0
  · obtain ⟨g1, g2, g3, g4⟩ := refuse_ok hr
    have e : answer prog mem steps = ((plainSt prog mem steps.toNat).1, (plainSt prog mem steps.toNat).2.1, (plainSt prog mem steps.toNat).2.2, 0) := by unfold answer; rw [if_pos hr]
    rw [e]
    obtain ⟨ns, rfl⟩ := Int.eq_ofNat_of_zero_le (show 0 ≤ steps by omega)
    simp only [Int.toNat_natCast]
    exact ref_go p pm c cm prog mem ns w hp hm hr
  · have HP := hide hp
    clear hp hm
    have e : answer prog mem steps = (⟨[0, 0, 0, 0, 0, 0, 0, 0], [], 0, 0⟩, 0, 0, refuse prog mem.length steps) := by unfold answer; rw [if_neg hr]
    rw [e]
    have ht : (refuse prog mem.length steps != 0) = true := by simpa using hr
    clear e hr
    go_enter Tryz.func11, Tryz.ntmps11
    go_wp2_with (go_at_call 28; refine (wrong_any _ _ _ _ _ _ _ _ (HP.out.below (Nat.le_refl _) ((Below.refl _ _).alloc (Nat.le_refl _) _)) hlen hlm).mono ?_; rintro e w1 ⟨rfl, hb1⟩; obtain ⟨hc1, hf1⟩ := bcell hb1)
    refine bodyPost_ret (v := .tuple #[.agg #[.int .i64 0, .int .i64 0, .int .i64 0, .int .i64 0, .int .i64 0, .int .i64 0, .int .i64 0, .int .i64 0, .slice none 0 0, .int .i64 0, .int .i64 0, .int .i64 0, .int .i64 0], .int .i64 (refuse prog mem.length steps)]) (by simp [results, Tryz.results11, go_sem, hc1]) rfl ⟨.slice none 0 0, rfl, ?_, ?_⟩
    · repeat (refine Below.setCell ?_ (by simp) _)
      exact ((Below.refl _ _).alloc (Nat.le_refl _) _).trans (hb1.mono (by simp))
    · exact World.ownsRow_nil _ _ _ _

set_option maxHeartbeats 1000000 in
theorem eq39 (x0 x1 x2 x3 x4 x5 x6 x7 : Int) (w : World) :
    (Op.equalIn 10000 44 (.agg #[.int .i64 x0, .int .i64 x1, .int .i64 x2, .int .i64 x3, .int .i64 x4, .int .i64 x5, .int .i64 x6, .int .i64 x7]) (.agg #[.int .i64 x0, .int .i64 x1, .int .i64 x2, .int .i64 x3, .int .i64 x4, .int .i64 x5, .int .i64 x6, .int .i64 x7])).run Tryz.prog w = .ok true w := by
  have h2 : ∀ (a b : Int) (w : World), (Op.equalIn 9999 2 (.int .i64 a) (.int .i64 b)).run Tryz.prog w = .ok (a == b) w := fun a b w => run_equalIn_int w 9998 2 .i64 .i64 a b Tryz.underlying2
  obtain ⟨i0, hi0, hz0, hz1, hz2⟩ := info_parts Tryz.info2
  have hs : ∀ w : World, (sizeOf 2).run Tryz.prog w = .ok 1 w := fun w => by simp [sizeOf, typeInfo, hi0, hz1]
  have hp : ∀ (j : Nat) (v : Value) (cs : Array Value) (w : World), cs[j]? = some v → (part 2 cs j).run Tryz.prog w = .ok v w := fun j v cs w h => by simp [part, isAgg, run_underlying Tryz.underlying2, h]
  rw [Op.equalIn]
  simp only [Sem.run_bind, run_underlying Tryz.underlying44, Result.andThen_ok, hs]
  simp [Std.Legacy.Range.forIn_eq_forIn_range', List.range', hp, h2]

set_option maxRecDepth 100000 in
set_option maxHeartbeats 4000000 in
/-- The same state, in two memories: held equal. -/
theorem sameState_any (x0 x1 x2 x3 x4 x5 x6 x7 n s t k : Int) (pa pb : Option Addr) (ca cb : Nat) (l : List Int) (w : World) (ha : Rd w pa l) (hb : Rd w pb l) (hl : l.length ≤ 1000000) :
    Calls Tryz.prog 12 #[.agg #[.int .i64 x0, .int .i64 x1, .int .i64 x2, .int .i64 x3, .int .i64 x4, .int .i64 x5, .int .i64 x6, .int .i64 x7, .slice pa l.length ca, .int .i64 n, .int .i64 s, .int .i64 t, .int .i64 k],
      .agg #[.int .i64 x0, .int .i64 x1, .int .i64 x2, .int .i64 x3, .int .i64 x4, .int .i64 x5, .int .i64 x6, .int .i64 x7, .slice pb l.length cb, .int .i64 n, .int .i64 s, .int .i64 t, .int .i64 k]] w
      fun e w' => e = .returned (.bool true) ∧ Below w.heap.size w w' := by
  have HA := hide ha
  have HB := hide hb
  clear ha hb
  have h39 := eq39 x0 x1 x2 x3 x4 x5 x6 x7
  have hself : decide (l = l) = true := decide_eq_true rfl
  go_enter Tryz.func12, Tryz.ntmps12
  go_wp2_with (go_at_call 31; refine (sameWords_any _ _ _ _ _ _ _ (HA.out.below (Nat.le_refl _) (((Below.refl _ _).alloc (Nat.le_refl _) _).alloc (by simp) _)) (HB.out.below (Nat.le_refl _) (((Below.refl _ _).alloc (Nat.le_refl _) _).alloc (by simp) _)) hl hl).mono ?_; rintro e w1 ⟨rfl, nd, rfl⟩)
  go_ret
  exact ⟨rfl, below_drewN (((Below.refl _ _).alloc (Nat.le_refl _) _).alloc (by simp) _) _⟩

end Go.Proofs.YtmeiogoodbnkkaaGreat

/- Words handed in with spare room, and looked at afterwards. -/
namespace Go.Proofs.YtmeiogoodbnkkaaGreat
open Go.RowKit

/-- A list of words that was handed in: eight marked places behind it. -/
def HandW (w : World) (g : Nat) (l : List Int) : Prop :=
  ∃ cur : Array Value, w.heap[g]? = some (.cells cur 2 (0, 0)) ∧ cur.size = l.length + 8 ∧ (∀ i, i < l.length → cur[i]? = some (.int .i64 (l.getD i 0))) ∧ (∀ i, l.length ≤ i → i < l.length + 8 → cur[i]? = some (.int .i64 (-5)))

set_option maxRecDepth 100000 in
set_option maxHeartbeats 2000000 in
theorem handedWords_any (p : Option Addr) (c : Nat) (l : List Int) (w : World) (h : Rd w p l) (hl : l.length * 8 ≤ 140737488351232) :
    Calls Tryz.prog 9 #[.slice p l.length c] w fun e w' => e = .returned (.slice (some ⟨w.heap.size, 0, none⟩) l.length (l.length + 8)) ∧ Below w.heap.size w w' ∧ HandW w' w.heap.size l := by
  have hmk := run_make_row' (P := Tryz.prog) 23 2 (.int .i64 0) 8 Tryz.underlying23 Tryz.info2 rfl .i64 .i64 (l.length + 8) (by omega) (by omega)
  have ec : ((l.length + 8 : Nat) : Int) = (l.length : Int) + 8 := by omega
  rw [ec] at hmk
  obtain ⟨i0, hi0, hz0, hz1, hz2⟩ := info_parts Tryz.info2
  have H := hide h
  clear h ec
  go_enter Tryz.func9, Tryz.ntmps9
  go_wp2_with (refine wpList_copy_rows rfl (.tmp 11) (.tmp 12) 23 23 rfl 2 i0 1 w.heap.size (l.length + 8) (l.length + 8) p l.length c (madeCells #[.int .i64 0] (l.length + 8)) 2 (l.map (Value.int .i64)) Tryz.underlying23 hi0 hz1 (by rfl) (by rfl) ?c1 ?c2 ?c3 ?c4 ?c5 ?_)
  case c1 => exact heap_alloc_new _ _
  case c2 => simp
  case c3 => exact rd_news (H.out.below (Nat.le_refl _) ((Below.refl _ _).alloc (Nat.le_refl _) _))
  case c4 => simp [madeCells]
  case c5 => exact ints_one l
  intro w1 HG hgr
  have HB1 : Hid (Below w.heap.size w w1) := ((Below.refl _ _).alloc (Nat.le_refl _) _).grown hgr (by simp) (by intro k hk; simp at hk; omega)
  clear hgr hmk
  go_wp2
  go_loopw [5] (fun i wr => ∃ k : Nat, l.length ≤ k ∧ k ≤ l.length + 8 ∧ i = .int .i64 k ∧ Hid (∃ cur : Array Value, wr.heap[w.heap.size]? = some (.cells cur 2 (0, 0)) ∧ cur.size = l.length + 8 ∧ (∀ i, i < l.length → cur[i]? = some (.int .i64 (l.getD i 0))) ∧ (∀ i, l.length ≤ i → i < k → cur[i]? = some (.int .i64 (-5)))) ∧ Hid (Below w.heap.size w wr))
    (fun i _ => l.length + 8 - (intOf i).toNat)
  case atStart =>
    refine ⟨l.length, Nat.le_refl _, by omega, rfl, ⟨_, HG.out, by simp [madeCells], fun i hi => ?_, fun i h1 h2 => by omega⟩, HB1⟩
    simp [List.getD_eq_getElem?_getD, hi, List.getElem?_append_left]
  case round =>
    obtain ⟨k, hk1, hk2, rfl, hcur, hbel⟩ := hrel
    obtain ⟨cur, g1, g2, g3, g4⟩ := hcur.out
    clear hcur
    by_cases hlt : k < l.length + 8
    · have hcell : wr.cell? ⟨w.heap.size, k, none⟩ = some (cur[k]'(by omega)) := by rw [cell_of_row wr _ k _ _ _ g1]; simp [g2, hlt]
      have hfro : wr.frozen? ⟨w.heap.size, k, none⟩ = false := by simp [World.frozen?, g1]
      obtain ⟨y, hy⟩ : ∃ y, y = cur[k]'(by omega) := ⟨_, rfl⟩
      rw [← hy] at hcell
      have hlt' : (k : Int) < (l.length : Int) + 8 := by omega
      have G1 := hide g1
      have G3 := hide g3
      have G4 := hide g4
      clear g1 g3 g4 hy
      go_wp2
      go_roundw
      case rel =>
        refine ⟨k + 1, by omega, by omega, by go_num, ⟨cur.setIfInBounds k (.int .i64 (-5)), heap_setCell_same _ _ _ _ _ _ G1.out, by simpa using g2, fun i hi => ?_, fun i h1 h2 => ?_⟩, hbel.out.setCell (Nat.le_refl _) _⟩
        · rw [Array.getElem?_setIfInBounds_ne (by omega)]; exact G3.out i hi
        · by_cases e : i = k
          · rw [e, Array.getElem?_setIfInBounds_self_of_lt (by omega)]
          · rw [Array.getElem?_setIfInBounds_ne (by omega)]; exact G4.out i h1 (by omega)
      case measure => simp [intOf]; omega
    · have hlt' : ¬ (k : Int) < (l.length : Int) + 8 := by omega
      have G1 := hide g1
      have G3 := hide g3
      have G4 := hide g4
      clear g1 g3 g4
      go_wp2
      go_ret
      exact ⟨rfl, hbel, cur, G1.out, g2, G3.out, fun i h1 h2 => G4.out i h1 (by omega)⟩

end Go.Proofs.YtmeiogoodbnkkaaGreat

/- Words handed in, looked at afterwards. -/
namespace Go.Proofs.YtmeiogoodbnkkaaGreat
open Go.RowKit

theorem grown_cell {w w' : World} {g b o : Nat} (h : w.grownBy w' (some g)) (hb : b < w.heap.size) (hne : b ≠ g) : w'.cell? ⟨b, o, none⟩ = w.cell? ⟨b, o, none⟩ :=
  World.cell?_of_block (h.block b hb (by simpa using hne))

theorem grown_set {w w' : World} {g : Nat} (h : w.grownBy w' (some g)) (o : Nat) (v : Value) : w.grownBy (w'.setCell ⟨g, o, none⟩ v) (some g) :=
  ⟨h.os, h.tape, h.output, by simpa [World.setCell] using h.size, fun k hk hne => by rw [Below.heap_setCell _ _ _ _ (by simpa using hne)]; exact h.block k hk hne⟩

theorem grown_refl (w : World) (r : Option Nat) : w.grownBy w r := ⟨rfl, rfl, rfl, Nat.le_refl _, fun _ _ _ => rfl⟩

/-- A list does not begin in this block. -/
def NotIn (p : Option Addr) (g : Nat) : Prop := ∀ a, p = some a → a.block ≠ g

set_option maxRecDepth 100000 in
set_option maxHeartbeats 2000000 in
theorem untouchedWords_any (g : Nat) (p : Option Addr) (c : Nat) (l : List Int) (w : World) (h : Rd w p l) (hh : HandW w g l) (hne : l ≠ [] → NotIn p g) (hl : l.length * 8 ≤ 140737488351232) :
    Calls Tryz.prog 20 #[.slice (some ⟨g, 0, none⟩) l.length (l.length + 8), .slice p l.length c] w fun e w' => e = .returned (.bool true) ∧ w.grownBy w' (some g) := by
  have H := hide h
  have HH := hide hh
  have HNE := hide hne
  clear h hh hne
  go_enter Tryz.func20, Tryz.ntmps20
  go_wp2
  go_loopw [7, 8] (fun ok i wr => ∃ k : Nat, k ≤ l.length + 8 ∧ ok = .bool true ∧ i = .int .i64 k ∧ Hid (∃ cur : Array Value, wr.heap[g]? = some (.cells cur 2 (0, 0)) ∧ cur.size = l.length + 8 ∧ (∀ i, k ≤ i → i < l.length → cur[i]? = some (.int .i64 (l.getD i 0))) ∧ (∀ i, l.length ≤ i → k ≤ i → i < l.length + 8 → cur[i]? = some (.int .i64 (-5)))) ∧ Hid (w.grownBy wr (some g)))
    (fun _ i _ => l.length + 8 - (intOf i).toNat)
  case atStart =>
    obtain ⟨cur, g1, g2, g3, g4⟩ := HH.out
    exact ⟨0, by omega, rfl, rfl, ⟨cur, g1, g2, fun i _ hi => g3 i hi, fun i h1 _ h2 => g4 i h1 h2⟩, grown_refl _ _⟩
  case round =>
    obtain ⟨k, hk, rfl, rfl, hcur, hgr⟩ := hrel
    obtain ⟨cur, g1, g2, g3, g4⟩ := hcur.out
    clear hcur
    have hfro : wr.frozen? ⟨g, k, none⟩ = false := by simp [World.frozen?, g1]
    have hcell : wr.cell? ⟨g, k, none⟩ = cur[k]? := cell_of_row wr _ k _ _ _ g1
    by_cases hlt : k < l.length
    · obtain ⟨b, off, rfl, hbw, hc⟩ := H.out.at hlt
      have hbg : b ≠ g := HNE.out (fun e => by rw [e] at hlt; exact absurd hlt (Nat.not_lt_zero _)) _ rfl
      have hsrc : wr.cell? ⟨b, off + k, none⟩ = some (.int .i64 (l.getD k 0)) := by rw [grown_cell hgr.out hbw hbg]; exact hc k hlt
      rw [g3 k (Nat.le_refl _) hlt] at hcell
      obtain ⟨y, hy⟩ : ∃ y, y = l.getD k 0 := ⟨_, rfl⟩
      rw [← hy] at hcell hsrc
      have t1 : (k : Int) < (l.length : Int) + 8 := by omega
      have t2 : (k : Int) < (l.length : Int) := by omega
      have t3 : (y == y) = true := by simp
      have G1 := hide g1
      have G3 := hide g3
      have G4 := hide g4
      have HBG := hide hbg
      clear g1 g3 g4 hy hc hbg
      go_wp2
      go_roundw
      case rel =>
        refine ⟨k + 1, by omega, rfl, by go_num, ⟨cur.setIfInBounds k (.int .i64 99), heap_setCell_same _ _ _ _ _ _ G1.out, by simpa using g2, fun i h1 h2 => ?_, fun i h1 h2 h3 => ?_⟩, grown_set hgr.out _ _⟩
        · rw [Array.getElem?_setIfInBounds_ne (by omega)]; exact G3.out i (by omega) h2
        · rw [Array.getElem?_setIfInBounds_ne (by omega)]; exact G4.out i h1 (by omega) h3
      case measure => simp [intOf]; omega
    · by_cases hlt2 : k < l.length + 8
      · rw [g4 k (by omega) (Nat.le_refl _) hlt2] at hcell
        have t1 : (k : Int) < (l.length : Int) + 8 := by omega
        have t2 : ¬ (k : Int) < (l.length : Int) := by omega
        have G1 := hide g1
        have G3 := hide g3
        have G4 := hide g4
        clear g1 g3 g4
        go_wp2
        go_roundw
        case rel =>
          refine ⟨k + 1, by omega, rfl, by go_num, ⟨cur.setIfInBounds k (.int .i64 99), heap_setCell_same _ _ _ _ _ _ G1.out, by simpa using g2, fun i h1 h2 => ?_, fun i h1 h2 h3 => ?_⟩, grown_set hgr.out _ _⟩
          · omega
          · rw [Array.getElem?_setIfInBounds_ne (by omega)]; exact G4.out i h1 (by omega) h3
        case measure => simp [intOf]; omega
      · have t1 : ¬ (k : Int) < (l.length : Int) + 8 := by omega
        clear hcell g1 g3 g4
        go_wp2
        go_ret
        exact ⟨rfl, hgr⟩

end Go.Proofs.YtmeiogoodbnkkaaGreat

/- Orders handed in with spare room. -/
namespace Go.Proofs.YtmeiogoodbnkkaaGreat
open Go.RowKit

theorem Tryz.info40 : (Tryz.prog.info? 40).map (fun i => (i.zero, i.size, i.bytes)) = some (some (.agg #[.int .i64 0, .int .i64 0, .int .i64 0, .int .i64 0, .int .i64 0]), 5, 40) := by kernel_rfl

def ordCells (o : Ord) : List Value := [.int .i64 o.op, .int .i64 o.d, .int .i64 o.a, .int .i64 o.b, .int .i64 o.k]

theorem flat_get : ∀ (l : List Ord) (i r : Nat), i < l.length → r < 5 → (l.flatMap ordCells)[i * 5 + r]? = (ordCells (l.getD i Ord.none))[r]?
  | o :: l, 0, r, _, hr => by
    rw [List.flatMap_cons, List.getElem?_append_left (by simp [ordCells]; omega)]
    simp
  | o :: l, i + 1, r, hi, hr => by
    rw [List.flatMap_cons, List.getElem?_append_right (by simp [ordCells]; omega)]
    have e : (i + 1) * 5 + r - (ordCells o).length = i * 5 + r := by simp [ordCells]; omega
    rw [e, flat_get l i r (by simpa using hi) hr]
    simp

theorem flat_len (l : List Ord) : (l.flatMap ordCells).length = l.length * 5 := by
  induction l with
  | nil => rfl
  | cons o l ih => simp only [List.flatMap_cons, List.length_append, ih, List.length_cons]; simp [ordCells]; omega

theorem flat_one (l : List Ord) : ∀ u ∈ l.flatMap ordCells, u.oneCell' = true := by
  intro u hu
  obtain ⟨o, _, ho⟩ := List.mem_flatMap.1 hu
  simp [ordCells] at ho
  rcases ho with rfl | rfl | rfl | rfl | rfl <;> rfl

theorem rdo_news {w : World} {p : Option Addr} {l : List Ord} (h : RdO w p l) : l.flatMap ordCells = [] ∨ ∃ b, p = some b ∧ ∀ j u, (l.flatMap ordCells)[j]? = some u → w.cell? (b.add j) = some u := by
  rcases h with rfl | ⟨b, off, rfl, hb, hc⟩
  · exact .inl rfl
  · refine .inr ⟨_, rfl, fun j u hu => ?_⟩
    have hj : j < l.length * 5 := by
      rcases Nat.lt_or_ge j (l.length * 5) with h' | h'
      · exact h'
      · rw [List.getElem?_eq_none (by rw [flat_len]; exact h')] at hu; cases hu
    have e : j = j / 5 * 5 + j % 5 := by omega
    have hr : j % 5 < 5 := by omega
    have hi : j / 5 < l.length := by omega
    obtain ⟨c0, c1, c2, c3, c4⟩ := hc (j / 5) hi
    rw [e, flat_get l _ _ hi hr] at hu
    rw [add_none]
    generalize j % 5 = r at *
    generalize j / 5 = i at *
    subst e
    have hr' : r = 0 ∨ r = 1 ∨ r = 2 ∨ r = 3 ∨ r = 4 := by omega
    rcases hr' with rfl | rfl | rfl | rfl | rfl <;> simp [ordCells] at hu <;> subst hu <;> simpa [Nat.add_assoc] using (by assumption)

/-- Five cells laid into a row. -/
theorem set5 {w : World} {g x : Nat} {cur : Array Value} {t : TypeId} (v0 v1 v2 v3 v4 : Value) (h : w.heap[g]? = some (.cells cur t (0, 0))) (hx : x + 5 ≤ cur.size) :
    ∃ cur' : Array Value, (((((w.setCell ⟨g, x, none⟩ v0).setCell ⟨g, x + 1, none⟩ v1).setCell ⟨g, x + 2, none⟩ v2).setCell ⟨g, x + 3, none⟩ v3).setCell ⟨g, x + 4, none⟩ v4).heap[g]? = some (.cells cur' t (0, 0)) ∧ cur'.size = cur.size ∧
      (∀ y, y < x ∨ x + 5 ≤ y → cur'[y]? = cur[y]?) ∧ (∀ r, r < 5 → cur'[x + r]? = [v0, v1, v2, v3, v4][r]?) := by
  have h1 := heap_setCell_same _ _ x _ _ v0 h
  have h2 := heap_setCell_same _ _ (x + 1) _ _ v1 h1
  have h3 := heap_setCell_same _ _ (x + 2) _ _ v2 h2
  have h4 := heap_setCell_same _ _ (x + 3) _ _ v3 h3
  have h5 := heap_setCell_same _ _ (x + 4) _ _ v4 h4
  refine ⟨_, h5, by simp, fun y hy => ?_, fun r hr => ?_⟩
  · rw [Array.getElem?_setIfInBounds_ne (by omega), Array.getElem?_setIfInBounds_ne (by omega), Array.getElem?_setIfInBounds_ne (by omega), Array.getElem?_setIfInBounds_ne (by omega), Array.getElem?_setIfInBounds_ne (by omega)]
  · have hr' : r = 0 ∨ r = 1 ∨ r = 2 ∨ r = 3 ∨ r = 4 := by omega
    rcases hr' with rfl | rfl | rfl | rfl | rfl
    · rw [Array.getElem?_setIfInBounds_ne (by omega), Array.getElem?_setIfInBounds_ne (by omega), Array.getElem?_setIfInBounds_ne (by omega), Array.getElem?_setIfInBounds_ne (by omega), Nat.add_zero, Array.getElem?_setIfInBounds_self_of_lt (by omega)]; rfl
    · rw [Array.getElem?_setIfInBounds_ne (by omega), Array.getElem?_setIfInBounds_ne (by omega), Array.getElem?_setIfInBounds_ne (by omega), Array.getElem?_setIfInBounds_self_of_lt (by simp; omega)]; rfl
    · rw [Array.getElem?_setIfInBounds_ne (by omega), Array.getElem?_setIfInBounds_ne (by omega), Array.getElem?_setIfInBounds_self_of_lt (by simp; omega)]; rfl
    · rw [Array.getElem?_setIfInBounds_ne (by omega), Array.getElem?_setIfInBounds_self_of_lt (by simp; omega)]; rfl
    · rw [Array.getElem?_setIfInBounds_self_of_lt (by simp; omega)]; rfl

/-- A list of orders that was handed in: eight marked places behind it. -/
def HandO (w : World) (g : Nat) (l : List Ord) : Prop :=
  ∃ cur : Array Value, w.heap[g]? = some (.cells cur 40 (0, 0)) ∧ cur.size = (l.length + 8) * 5 ∧ (∀ i r, i < l.length → r < 5 → cur[i * 5 + r]? = (ordCells (l.getD i Ord.none))[r]?) ∧
    (∀ i r, l.length ≤ i → i < l.length + 8 → r < 5 → cur[i * 5 + r]? = (ordCells ⟨-5, 0, 0, 0, 0⟩)[r]?)

set_option maxRecDepth 100000 in
set_option maxHeartbeats 2000000 in
theorem handedOrders_any (p : Option Addr) (c : Nat) (l : List Ord) (w : World) (h : RdO w p l) (hl : l.length * 40 ≤ 140737488351232) :
    Calls Tryz.prog 8 #[.slice p l.length c] w fun e w' => e = .returned (.slice (some ⟨w.heap.size, 0, none⟩) l.length (l.length + 8)) ∧ Below w.heap.size w w' ∧ HandO w' w.heap.size l := by
  obtain ⟨i0, hi0, hz0, hz1, hz2⟩ := info_parts Tryz.info40
  have hmk : ∀ w : World, (Instr.makeSlice 22 (.int .i64 ((l.length : Int) + 8)) (.int .i64 ((l.length : Int) + 8))).run Tryz.prog w = .ok (.slice (some ⟨w.heap.size, 0, none⟩) (l.length + 8) (l.length + 8)) (w.alloc (.cells (madeCells #[.int .i64 0, .int .i64 0, .int .i64 0, .int .i64 0, .int .i64 0] ((l.length + 8) * 5)) 40)) := by
    intro w
    have := run_make (P := Tryz.prog) w 22 40 i0 _ Tryz.underlying22 hi0 hz0 .i64 .i64 ((l.length : Int) + 8) ((l.length : Int) + 8) (by omega) (Int.le_refl _) (by rw [hz2]; omega) (by omega)
    rw [this, hz1]
    rfl
  have H := hide h
  clear h
  go_enter Tryz.func8, Tryz.ntmps8
  go_wp2_with (refine wpList_copy_rows rfl (.tmp 11) (.tmp 12) 22 22 rfl 40 i0 5 w.heap.size (l.length + 8) (l.length + 8) p l.length c (madeCells #[.int .i64 0, .int .i64 0, .int .i64 0, .int .i64 0, .int .i64 0] ((l.length + 8) * 5)) 40 (l.flatMap ordCells) Tryz.underlying22 hi0 hz1 (by rfl) (by rfl) ?c1 ?c2 ?c3 ?c4 ?c5 ?_)
  case c1 => exact heap_alloc_new _ _
  case c2 => rw [flat_len]; simp
  case c3 => exact rdo_news (H.out.below (Nat.le_refl _) ((Below.refl _ _).alloc (Nat.le_refl _) _))
  case c4 => rw [flat_len, size_madeCells]; omega
  case c5 => exact flat_one l
  intro w1 HG hgr
  have HB1 : Hid (Below w.heap.size w w1) := ((Below.refl _ _).alloc (Nat.le_refl _) _).grown hgr (by simp) (by intro k hk; simp at hk; omega)
  clear hgr hmk
  have HGG : Hid (∃ cur : Array Value, w1.heap[w.heap.size]? = some (.cells cur 40 (0, 0)) ∧ cur.size = (l.length + 8) * 5 ∧ (∀ i r, i < l.length → r < 5 → cur[i * 5 + r]? = (ordCells (l.getD i Ord.none))[r]?)) := by
    refine ⟨_, HG.out, ?_, fun i r hi hr => ?_⟩
    · simp only [List.size_toArray, List.length_append, List.length_drop, Array.length_toList, size_madeCells, flat_len]
      have hsum := flat_len l
      rw [List.length_flatMap] at hsum
      omega
    · rw [List.getElem?_toArray, List.getElem?_append_left (by rw [flat_len]; omega), flat_get l i r hi hr]
  clear HG
  go_wp2
  go_loopw [5] (fun i wr => ∃ k : Nat, l.length ≤ k ∧ k ≤ l.length + 8 ∧ i = .int .i64 k ∧ Hid (∃ cur : Array Value, wr.heap[w.heap.size]? = some (.cells cur 40 (0, 0)) ∧ cur.size = (l.length + 8) * 5 ∧ (∀ i r, i < l.length → r < 5 → cur[i * 5 + r]? = (ordCells (l.getD i Ord.none))[r]?) ∧
      (∀ i r, l.length ≤ i → i < k → r < 5 → cur[i * 5 + r]? = (ordCells ⟨-5, 0, 0, 0, 0⟩)[r]?)) ∧ Hid (Below w.heap.size w wr))
    (fun i _ => l.length + 8 - (intOf i).toNat)
  case atStart =>
    obtain ⟨cur, g1, g2, g3⟩ := HGG.out
    exact ⟨l.length, Nat.le_refl _, by omega, rfl, ⟨cur, g1, g2, g3, fun i r h1 h2 => by omega⟩, HB1⟩
  case round =>
    obtain ⟨k, hk1, hk2, rfl, hcur, hbel⟩ := hrel
    obtain ⟨cur, g1, g2, g3, g4⟩ := hcur.out
    clear hcur
    by_cases hlt : k < l.length + 8
    · have hex : ∀ r, r < 5 → ∃ y, wr.cell? ⟨w.heap.size, k * 5 + r, none⟩ = some y := fun r hr => ⟨cur[k * 5 + r]'(by omega), by rw [cell_of_row wr _ _ _ _ _ g1]; simp [show k * 5 + r < cur.size by omega]⟩
      obtain ⟨y0, c0⟩ := hex 0 (by omega)
      obtain ⟨y1, c1⟩ := hex 1 (by omega)
      obtain ⟨y2, c2⟩ := hex 2 (by omega)
      obtain ⟨y3, c3⟩ := hex 3 (by omega)
      obtain ⟨y4, c4⟩ := hex 4 (by omega)
      rw [Nat.add_zero] at c0
      have hfro : ∀ j, wr.frozen? ⟨w.heap.size, j, none⟩ = false := fun j => by simp [World.frozen?, g1]
      have hlt' : (k : Int) < (l.length : Int) + 8 := by omega
      have G1 := hide g1
      have G3 := hide g3
      have G4 := hide g4
      clear g1 g3 g4 hex
      go_wp2
      go_roundw
      case rel =>
        obtain ⟨cur', s1, s2, s3, s4⟩ := set5 (.int .i64 (-5)) (.int .i64 0) (.int .i64 0) (.int .i64 0) (.int .i64 0) G1.out (show k * 5 + 5 ≤ cur.size by omega)
        refine ⟨k + 1, by omega, by omega, by go_num, ⟨cur', s1, by omega, fun i r hi hr => ?_, fun i r h1 h2 hr => ?_⟩, ?_⟩
        · rw [s3 _ (by omega)]; exact G3.out i r hi hr
        · by_cases e : i = k
          · rw [e, s4 r hr]; rfl
          · rw [s3 _ (by omega)]; exact G4.out i r h1 (by omega) hr
        · exact ((((hbel.out.setCell (Nat.le_refl _) _).setCell (Nat.le_refl _) _).setCell (Nat.le_refl _) _).setCell (Nat.le_refl _) _).setCell (Nat.le_refl _) _
      case measure => simp [intOf]; omega
    · have hlt' : ¬ (k : Int) < (l.length : Int) + 8 := by omega
      have G1 := hide g1
      have G3 := hide g3
      have G4 := hide g4
      clear g1 g3 g4
      go_wp2
      go_ret
      exact ⟨rfl, hbel, cur, G1.out, g2, G3.out, fun i r h1 h2 h3 => G4.out i r h1 (by omega) h3⟩

end Go.Proofs.YtmeiogoodbnkkaaGreat
