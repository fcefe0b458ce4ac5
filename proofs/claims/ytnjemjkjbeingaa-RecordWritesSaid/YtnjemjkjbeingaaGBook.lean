/-
  The book: Bytes and Own. By an AI agent.
-/
import Derived.Test.YtnjemjkjbeingaaGOwnBytes
namespace Go.Proofs.Ytnjemjkjbeingaa
open Go.RowKit

set_option maxRecDepth 100000 in
theorem ownTexts_nil (w : World) :
    Calls Try.prog 58 #[.slice none 0 0] w fun e w' => e = .returned (.bool true) ∧ w = w' := by
  go_enter Try.func58, Try.ntmps58
  go_wp2
  iterate 3 (try (refine wp_loop_rounds 1 ?_; rw [rounds_succ]; go_wp2))
  go_ret
  exact ⟨rfl, rfl⟩

set_option maxRecDepth 100000 in
theorem ownInts_nil (w : World) :
    Calls Try.prog 59 #[.slice none 0 0] w fun e w' => e = .returned (.bool true) ∧ w = w' := by
  go_enter Try.func59, Try.ntmps59
  go_wp2
  iterate 3 (try (refine wp_loop_rounds 1 ?_; rw [rounds_succ]; go_wp2))
  go_ret
  exact ⟨rfl, rfl⟩

set_option maxRecDepth 100000 in
theorem ownNumbers_nil (w : World) :
    Calls Try.prog 60 #[.slice none 0 0] w fun e w' => e = .returned (.bool true) ∧ w = w' := by
  go_enter Try.func60, Try.ntmps60
  go_wp2
  iterate 3 (try (refine wp_loop_rounds 1 ?_; rw [rounds_succ]; go_wp2))
  go_ret
  exact ⟨rfl, rfl⟩

set_option maxRecDepth 100000 in
theorem ownErrs_nil (w : World) :
    Calls Try.prog 61 #[.slice none 0 0] w fun e w' => e = .returned (.bool true) ∧ w = w' := by
  go_enter Try.func61, Try.ntmps61
  go_wp2
  iterate 3 (try (refine wp_loop_rounds 1 ?_; rw [rounds_succ]; go_wp2))
  go_ret
  exact ⟨rfl, rfl⟩

set_option maxRecDepth 100000 in
theorem ownSpans_nil (w : World) :
    Calls Try.prog 62 #[.slice none 0 0] w fun e w' => e = .returned (.bool true) ∧ w = w' := by
  go_enter Try.func62, Try.ntmps62
  go_wp2
  iterate 3 (try (refine wp_loop_rounds 1 ?_; rw [rounds_succ]; go_wp2))
  go_ret
  exact ⟨rfl, rfl⟩

set_option maxRecDepth 100000 in
theorem ownStates_nil (w : World) :
    Calls Try.prog 63 #[.slice none 0 0] w fun e w' => e = .returned (.bool true) ∧ w = w' := by
  go_enter Try.func63, Try.ntmps63
  go_wp2
  iterate 3 (try (refine wp_loop_rounds 1 ?_; rw [rounds_succ]; go_wp2))
  go_ret
  exact ⟨rfl, rfl⟩

theorem info_bools : (Try.prog.info? 147).map (fun i => (i.zero, i.size, i.bytes)) = some (some (.slice none 0 0), 1, 24) := by kernel_rfl

set_option maxRecDepth 100000 in
theorem ownBools_nil (w : World) :
    Calls Try.prog 64 #[.slice none 0 0] w fun e w' => e = .returned (.bool true) ∧ Chg [] w w' := by
  obtain ⟨j0, ki, kz0, kz1, kz2⟩ := info_parts info_bools
  go_enter Try.func64, Try.ntmps64
  go_wp2_with (at_make; refine wpList_make_full _ rfl _ _ 49 rfl w.heap.size 147 j0 (.slice none 0 0) 1 Try.underlying49 ki kz0 kz1 .i64 .i64 _ _ 0 rfl rfl rfl rfl (by omega) (by unfold maxLen; omega) (Nat.le_refl _) ?_; intro w1 hown hgrow)
  refine wp_loop_rounds 1 ?_
  rw [rounds_succ]
  go_wp2
  go_ret
  exact ⟨rfl, (Chg.refl _ _).grown hgrow (by intro k hk; cases hk)⟩

set_option maxRecDepth 100000 in
theorem ownRows_nil (w : World) :
    Calls Try.prog 65 #[.slice none 0 0] w fun e w' => e = .returned (.bool true) ∧ w = w' := by
  go_enter Try.func65, Try.ntmps65
  go_wp2
  iterate 3 (try (refine wp_loop_rounds 1 ?_; rw [rounds_succ]; go_wp2))
  go_ret
  exact ⟨rfl, rfl⟩

set_option maxRecDepth 100000 in
theorem ownPuts_nil (w : World) :
    Calls Try.prog 66 #[.slice none 0 0] w fun e w' => e = .returned (.bool true) ∧ w = w' := by
  go_enter Try.func66, Try.ntmps66
  go_wp2
  iterate 3 (try (refine wp_loop_rounds 1 ?_; rw [rounds_succ]; go_wp2))
  go_ret
  exact ⟨rfl, rfl⟩

set_option maxRecDepth 100000 in
theorem ownPatches_nil (w : World) :
    Calls Try.prog 67 #[.slice none 0 0] w fun e w' => e = .returned (.bool true) ∧ w = w' := by
  go_enter Try.func67, Try.ntmps67
  go_wp2
  iterate 3 (try (refine wp_loop_rounds 1 ?_; rw [rounds_succ]; go_wp2))
  go_ret
  exact ⟨rfl, rfl⟩

set_option maxRecDepth 100000 in
theorem ownTxns_nil (w : World) :
    Calls Try.prog 68 #[.slice none 0 0] w fun e w' => e = .returned (.bool true) ∧ w = w' := by
  go_enter Try.func68, Try.ntmps68
  go_wp2
  iterate 3 (try (refine wp_loop_rounds 1 ?_; rw [rounds_succ]; go_wp2))
  go_ret
  exact ⟨rfl, rfl⟩

/-- The book at block b: the list of byte lists is lv, and those are vs; there is nothing else in it. What it tells of is no older than B. -/
structure Bk (w : World) (B b : Nat) (lv : Value) (vs : List (Value × List Value)) : Prop where
  pb : Blk w b 55 [lv, .slice none 0 0, .slice none 0 0, .slice none 0 0, .slice none 0 0, .slice none 0 0, .slice none 0 0, .slice none 0 0, .slice none 0 0, .slice none 0 0, .slice none 0 0, .slice none 0 0]
  own : w.ownsRow B 30 1 lv vs.length (vs.map (·.1))
  row : ∀ (j : Nat) (v : Value) (xs : List Value), vs[j]? = some (v, xs) → w.ownsRow B 5 1 v xs.length xs
  apart : ∀ (i j : Nat) (v : Value) (xs : List Value) (v' : Value) (xs' : List Value) (g : Nat), i ≠ j → vs[i]? = some (v, xs) → vs[j]? = some (v', xs') → v.ownBlock = some g → v'.ownBlock ≠ some g
  list : ∀ (j : Nat) (v : Value) (xs : List Value) (g : Nat), vs[j]? = some (v, xs) → v.ownBlock = some g → lv.ownBlock ≠ some g
  off : lv.ownBlock ≠ some b
  far : ∀ (j : Nat) (v : Value) (xs : List Value), vs[j]? = some (v, xs) → v.ownBlock ≠ some b

/-- A new book. -/
theorem Bk.begin {w : World} {B b : Nat} (h : Blk w b 55 [.slice none 0 0, .slice none 0 0, .slice none 0 0, .slice none 0 0, .slice none 0 0, .slice none 0 0, .slice none 0 0, .slice none 0 0, .slice none 0 0, .slice none 0 0, .slice none 0 0, .slice none 0 0]) : Bk w B b (.slice none 0 0) [] :=
  ⟨h, World.ownsRow_nil _ _ _ _, fun j v xs hj => by simp at hj, fun i j v xs v' xs' g _ hi => by simp at hi, fun j v xs g hj => by simp at hj, by simp [Value.ownBlock], fun j v xs hj => by simp at hj⟩

/-- A block that is none of the book's. -/
def Bk.not (b : Nat) (lv : Value) (vs : List (Value × List Value)) (k : Nat) : Prop := k ≠ b ∧ lv.ownBlock ≠ some k ∧ ∀ (j : Nat) (v : Value) (xs : List Value), vs[j]? = some (v, xs) → v.ownBlock ≠ some k

theorem Bk.chg {w w' : World} {t : List Nat} {B b : Nat} {lv : Value} {vs : List (Value × List Value)} (h : Bk w B b lv vs) (c : Chg t w w') (ht : ∀ k, k ∈ t → Bk.not b lv vs k) : Bk w' B b lv vs :=
  ⟨h.pb.chg c (fun hm => (ht b hm).1 rfl), owns_chg h.own c (fun k hk hm => (ht k hm).2.1 hk), fun j v xs hj => owns_chg (h.row j v xs hj) c (fun k hk hm => (ht k hm).2.2 j v xs hj hk), h.apart, h.list, h.off, h.far⟩

/-- A block that is new is none of the book's. -/
theorem Bk.new {w : World} {B b : Nat} {lv : Value} {vs : List (Value × List Value)} (h : Bk w B b lv vs) {k : Nat} (hk : w.heap.size ≤ k) : Bk.not b lv vs k := by
  have h1 := h.pb.lt
  refine ⟨by omega, fun e => ?_, fun j v xs hj e => ?_⟩
  · have := (h.own.lt k e).2; omega
  · have := ((h.row j v xs hj).lt k e).2; omega

/-- What the book has put in one list more. -/
structure BkStep (w : World) (B b : Nat) (lv : Value) (vs : List (Value × List Value)) (w' : World) (lv' : Value) : Prop where
  bk : Bk w' B b lv' vs
  chg : Chg (b :: lv.ownBlock.toList) w w'
  blk : lv'.ownBlock = lv.ownBlock ∨ ∃ k, lv'.ownBlock = some k ∧ w.heap.size ≤ k

def Booked (w : World) (B b : Nat) (lv : Value) (vs : List (Value × List Value)) (e : Ending) (w' : World) : Prop := ∃ lv', e = .returned (.tuple #[]) ∧ BkStep w B b lv vs w' lv'

set_option maxHeartbeats 1000000 in
set_option maxRecDepth 100000 in
theorem book_bytes (B b : Nat) (lv : Value) (vs : List (Value × List Value)) (v : Value) (xs : List Value) (w : World) (h : Bk w B b lv vs) (hv : w.ownsRow B 5 1 v xs.length xs)
    (hn : ∀ k, v.ownBlock = some k → Bk.not b lv vs k) (hl : vs.length ≤ 1000000) (hB : B ≤ w.heap.size) :
    Calls Try.prog 15 #[.pointer (some ⟨b, 0, none⟩), v] w (Booked w B b lv (vs ++ [(v, xs)])) := by
  obtain ⟨j0, ki, kz0, kz1, kz2⟩ := info_parts info_bytes
  replace ki := Lib.hid ki
  replace kz0 := Lib.hid kz0
  replace kz1 := Lib.hid kz1
  replace kz2 := Lib.hid kz2
  obtain ⟨lo, lc, rfl⟩ := owns_slice h.own
  obtain ⟨vo, vc, rfl⟩ := owns_slice hv
  have c0 := h.pb.cell (j := 0) rfl
  have f0 := h.pb.free 0
  have hlt := h.pb.lt
  have H := Lib.hid h
  have V := Lib.hid hv
  have N := Lib.hid hn
  clear h hv hn
  go_enter Try.func15, Try.ntmps15
  go_wp2_with (with_reducible refine wpList_append_three _ rfl (.tmp 8) (.tmp 10) 42 rfl B 30 j0 (.slice none 0 0) 1 24 Try.underlying42 ki.out kz0.out kz1.out kz2.out rfl (by decide) _ vs.length _ rfl (H.out.own.alloc _) ⟨w.heap.size, 0, none⟩ 1 1 [.slice vo xs.length vc] rfl rfl (new_cell _ _ _) (by simp [Value.oneCell']) (by unfold maxLen; omega) (by omega) (by simp; omega) ?_)
  intro lv' wn ol gr nb
  have hm : Chg [] w (w.alloc (.cells #[.slice vo xs.length vc] 30)) := (Chg.refl _ _).alloc _
  have c1 : Chg (Value.slice lo vs.length lc).ownBlock.toList w wn := (hm.mono (by simp)).grown gr.out (fun k hk => .inl (by rw [hk]; simp))
  have hbl : b ∉ (Value.slice lo vs.length lc).ownBlock.toList := fun hk => H.out.off (by simpa using hk)
  have hp := H.out.pb.chg c1 hbl
  have c2 : Chg [b] wn (wn.setCell ⟨b, 0, none⟩ lv') := (Chg.refl _ _).setCell (.inl (by simp)) _
  have hz := c1.size
  have R : Hid (BkStep w B b (.slice lo vs.length lc) (vs ++ [(.slice vo xs.length vc, xs)]) (wn.setCell ⟨b, 0, none⟩ lv') lv') := by
    have lvn : ∀ k, lv'.ownBlock = some k → (Value.slice lo vs.length lc).ownBlock = some k ∨ w.heap.size ≤ k := fun k hk => by
      rcases nb.out with q | ⟨q, _⟩
      · rw [q] at hk; exact .inl hk
      · rw [q] at hk; simp at hk; exact .inr (by omega)
    have loff : lv'.ownBlock ≠ some b := fun e => by
      rcases lvn b e with q | q
      · exact H.out.off q
      · omega
    have keep : ∀ (v : Value) (xs : List Value), w.ownsRow B 5 1 v xs.length xs → (∀ k, v.ownBlock = some k → (Value.slice lo vs.length lc).ownBlock ≠ some k) → v.ownBlock ≠ some b → (wn.setCell ⟨b, 0, none⟩ lv').ownsRow B 5 1 v xs.length xs := fun v xs ho hk hb =>
      owns_chg (owns_chg ho c1 (fun k h1 h2 => hk k h1 (by simpa using h2))) c2 (fun k h1 h2 => hb (by rw [h1]; congr 1; simpa using h2))
    have lst : ∀ (j : Nat) (v' : Value) (xs' : List Value), (vs ++ [(Value.slice vo xs.length vc, xs)])[j]? = some (v', xs') → (vs[j]? = some (v', xs') ∧ j < vs.length) ∨ (j = vs.length ∧ v' = Value.slice vo xs.length vc ∧ xs' = xs) := fun j v' xs' hj => by
      by_cases hjl : j < vs.length
      · rw [List.getElem?_append_left hjl] at hj; exact .inl ⟨hj, hjl⟩
      · have hj2 : j < (vs ++ [(Value.slice vo xs.length vc, xs)]).length := (List.getElem?_eq_some_iff.1 hj).1
        obtain rfl : j = vs.length := by simp at hj2; omega
        rw [List.getElem?_append_right (Nat.le_refl _), Nat.sub_self] at hj
        have := Option.some.inj hj
        simp only [Prod.mk.injEq] at this
        exact .inr ⟨rfl, this.1.symm, this.2.symm⟩
    refine ⟨⟨hp.set 0 lv', ?_, fun j v' xs' hj => ?_, fun i j v1 xs1 v2 xs2 g hij hi hj h1 h2 => ?_, fun j v' xs' g hj h1 h2 => ?_, loff, fun j v' xs' hj => ?_⟩, ?_, ?_⟩
    · have := owns_chg ol.out c2 (fun k hk h2 => loff (by rw [hk]; congr 1; simpa using h2))
      simpa using this
    · rcases lst j v' xs' hj with ⟨q, _⟩ | ⟨_, rfl, rfl⟩
      · exact keep _ _ (H.out.row j v' xs' q) (fun k hk => H.out.list j v' xs' k q hk) (H.out.far j v' xs' q)
      · exact keep _ _ V.out (fun k hk => (N.out k hk).2.1) (fun e => (N.out b e).1 rfl)
    · rcases lst i v1 xs1 hi with ⟨q, _⟩ | ⟨qi, rfl, rfl⟩
      · rcases lst j v2 xs2 hj with ⟨q2, _⟩ | ⟨qj, rfl, rfl⟩
        · exact H.out.apart i j v1 xs1 v2 xs2 g hij q q2 h1 h2
        · exact (N.out g h2).2.2 i v1 xs1 q h1
      · rcases lst j v2 xs2 hj with ⟨q2, _⟩ | ⟨qj, _, _⟩
        · exact (N.out g h1).2.2 j v2 xs2 q2 h2
        · omega
    · rcases lst j v' xs' hj with ⟨q, _⟩ | ⟨_, rfl, rfl⟩
      · rcases lvn g h2 with q2 | q2
        · exact H.out.list j v' xs' g q h1 q2
        · have := (H.out.row j v' xs' q).lt g h1
          omega
      · rcases lvn g h2 with q2 | q2
        · exact (N.out g h1).2.1 q2
        · have := V.out.lt g h1
          omega
    · rcases lst j v' xs' hj with ⟨q, _⟩ | ⟨_, rfl, rfl⟩
      · exact H.out.far j v' xs' q
      · exact fun e => (N.out b e).1 rfl
    · exact (c1.mono (fun k hk => List.mem_cons_of_mem _ hk)).trans (c2.mono (by simp))
    · rcases nb.out with q | ⟨q, _⟩
      · exact .inl q
      · exact .inr ⟨_, q, by omega⟩
  have hpf := hp.free 0
  obtain ⟨u, hu⟩ : ∃ u, wn.cell? ⟨b, 0, none⟩ = some u := ⟨_, hp.cell (j := 0) rfl⟩
  obtain ⟨no, nn, nc, hnv⟩ : ∃ no nn nc, lv' = .slice no nn nc := by obtain ⟨a, c, h⟩ := owns_slice ol.out; exact ⟨_, _, _, h⟩
  subst hnv
  clear hm c1 hbl hp c2 ol gr nb
  go_wp2_with fail
  go_end0
  exact ⟨_, rfl, R.out⟩

set_option maxHeartbeats 1000000 in
set_option maxRecDepth 100000 in
theorem own_list (B b : Nat) (lv : Value) (vs : List (Value × List Value)) (w : World) (h : Bk w B b lv vs) (hl : vs.length ≤ 1000000) (hB : B ≤ w.heap.size) (hlen : ∀ (j : Nat) (v : Value) (xs : List Value), vs[j]? = some (v, xs) → xs.length ≤ 140737488355000) :
    Calls Try.prog 57 #[lv] w fun e w' => e = .returned (.bool true) ∧ Chg (rowsOf vs) w w' := by
  rcases h.own.2 with ⟨rfl, h0⟩ | ⟨g, cap, cur, rfl, hb, hg, _⟩
  · exact (own8_nil none 0 w).mono fun e w' ⟨he, hw⟩ => ⟨he, by rw [← hw]; exact Chg.refl _ _⟩
  · refine own8_any B g 0 cap vs w ⟨fun j v xs hj => ?_, fun j v xs hj => ⟨_, h.row j v xs hj⟩, h.apart, fun j v xs hj hk => ?_, (Array.getElem?_eq_some_iff.1 hg).1⟩ hl hB hlen
    · rw [Nat.zero_add]
      exact ownsRow_cellAt h.own (by rw [List.getElem?_map, hj]; rfl)
    · exact h.list j v xs g hj hk rfl

set_option maxHeartbeats 2000000 in
set_option maxRecDepth 100000 in
theorem book_own (B b : Nat) (lv : Value) (vs : List (Value × List Value)) (w : World) (h : Bk w B b lv vs) (hl : vs.length ≤ 1000000) (hB : B ≤ w.heap.size) (hlen : ∀ (j : Nat) (v : Value) (xs : List Value), vs[j]? = some (v, xs) → xs.length ≤ 140737488355000) :
    Calls Try.prog 21 #[.pointer (some ⟨b, 0, none⟩)] w fun e w' => e = .returned (.bool true) ∧ Chg (rowsOf vs) w w' := by
  have hol := own_list B b lv vs w h hl hB hlen
  obtain ⟨lo, lc, rfl⟩ := owns_slice h.own
  have c0 := h.pb.cell (j := 0) rfl
  have hlt := h.pb.lt
  have P := Lib.hid h.pb
  have nb : b ∉ rowsOf vs := fun hm => by
    obtain ⟨j, v, xs, hj, hg⟩ := rowsOf_spec hm
    exact h.far j v xs hj hg
  have NB := Lib.hid nb
  clear h hlen nb
  go_enter Try.func21, Try.ntmps21
  go_wp2_with fail
  refine hol.mono ?_
  clear hol c0
  rintro e w1 ⟨rfl, hb⟩
  replace P := Lib.hid (P.out.chg hb NB.out)
  have hz := hb.size
  have B := Lib.hid hb
  clear hb
  have c1 := P.out.cell (j := 1) rfl
  have c2 := P.out.cell (j := 2) rfl
  have c3 := P.out.cell (j := 3) rfl
  have c4 := P.out.cell (j := 4) rfl
  have c5 := P.out.cell (j := 5) rfl
  have c6 := P.out.cell (j := 6) rfl
  have c7 := P.out.cell (j := 7) rfl
  go_wp2_with (first
    | (go_at_call 58; refine (ownTexts_nil _).mono ?_; rintro e w' ⟨rfl, rfl⟩)
    | (go_at_call 59; refine (ownInts_nil _).mono ?_; rintro e w' ⟨rfl, rfl⟩)
    | (go_at_call 60; refine (ownNumbers_nil _).mono ?_; rintro e w' ⟨rfl, rfl⟩)
    | (go_at_call 61; refine (ownErrs_nil _).mono ?_; rintro e w' ⟨rfl, rfl⟩)
    | (go_at_call 62; refine (ownSpans_nil _).mono ?_; rintro e w' ⟨rfl, rfl⟩)
    | (go_at_call 63; refine (ownStates_nil _).mono ?_; rintro e w' ⟨rfl, rfl⟩)
    | (go_at_call 64; refine (ownBools_nil _).mono ?_; rintro e w2 ⟨rfl, hc⟩; have C := Lib.hid hc; have hz2 := hc.size; clear hc c1 c2 c3 c4 c5 c6 c7; have c8 := (P.out.chg C.out (by simp)).cell (j := 8) rfl; have c9 := (P.out.chg C.out (by simp)).cell (j := 9) rfl; have c10 := (P.out.chg C.out (by simp)).cell (j := 10) rfl; have c11 := (P.out.chg C.out (by simp)).cell (j := 11) rfl)
    | (go_at_call 65; refine (ownRows_nil _).mono ?_; rintro e w' ⟨rfl, rfl⟩)
    | (go_at_call 66; refine (ownPuts_nil _).mono ?_; rintro e w' ⟨rfl, rfl⟩)
    | (go_at_call 67; refine (ownPatches_nil _).mono ?_; rintro e w' ⟨rfl, rfl⟩)
    | (go_at_call 68; refine (ownTxns_nil _).mono ?_; rintro e w' ⟨rfl, rfl⟩))
  go_ret
  exact ⟨rfl, B.out.trans (C.out.mono (by simp))⟩

end Go.Proofs.Ytnjemjkjbeingaa
