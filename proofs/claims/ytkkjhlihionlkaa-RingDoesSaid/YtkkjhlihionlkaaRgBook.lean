/-
  A book of spans: Spans and Own. By an AI agent.
-/
import Derived.Test.YtkkjhlihionlkaaGOwnSpans
import Derived.Test.YtkkjhlihionlkaaGBookNone
namespace Go.Proofs.Ytkkjhlihionlkaa
open Go.RowKit

/-- A list of spans, as slots. -/
def slots (l : List (Nat × Nat)) : List (List Value) := l.map fun p => [.int .i64 (p.1 : Int), .int .i64 (p.2 : Int)]

theorem slots_flat (l : List (Nat × Nat)) : (slots l).flatten = scells l := by
  unfold slots scells
  rw [List.flatMap_def]

theorem SpRow.wide {w : World} {b : Nat} {v : Value} {l : List (Nat × Nat)} (h : SpRow w b v l) : OwnW 2 w b 61 v (slots l) :=
  ⟨fun x hx => by obtain ⟨p, _, rfl⟩ := List.mem_map.1 hx; rfl, by rw [slots_flat]; unfold slots; rw [List.length_map]; exact h⟩

/-- The book's cells: there are spans in it alone. -/
def spanBook (l5 : Value) : List Value := [.slice none 0 0, .slice none 0 0, .slice none 0 0, .slice none 0 0, .slice none 0 0, l5, .slice none 0 0, .slice none 0 0, .slice none 0 0, .slice none 0 0, .slice none 0 0, .slice none 0 0]

def bkT (b : Nat) (lv : Value) : Thing := blkT b 46 (spanBook lv)
def spansT (lv : Value) (vs : Wides) : Thing := rackWT 2 61 56 lv vs

set_option maxHeartbeats 1000000 in
set_option maxRecDepth 100000 in
theorem bookSpans_side {w0 w : World} {ts : List Thing} {b : Nat} {lv v : Value} {vs : Wides} {l : List (Nat × Nat)} (h : Side w0 w (spT v l :: spansT lv vs :: bkT b lv :: ts)) (hl : vs.length ≤ 1000000) :
    Calls Try.prog 30 #[.pointer (some ⟨b, 0, none⟩), v] w fun e w' => e = .returned (.tuple #[]) ∧ ∃ lv', Hid (Side w0 w' (spansT lv' (vs ++ [(v, slots l)]) :: bkT b lv' :: ts)) := by
  obtain ⟨j0, ki, kz0, kz1, kz2⟩ := info_parts info_spans
  replace ki := Lib.hid ki
  replace kz0 := Lib.hid kz0
  replace kz1 := Lib.hid kz1
  replace kz2 := Lib.hid kz2
  have hv : SpRow w 0 v l := h.get 0 rfl
  have hr : RackW 2 w 61 56 lv vs := h.get 1 rfl
  have hb : Blk w b 46 (spanBook lv) := h.get 2 rfl
  have HV := Lib.hid hv.wide
  obtain ⟨vo, vc, rfl⟩ := hv.slice
  obtain ⟨lo, lc, rfl⟩ := owns_slice hr.own
  have c0 := hb.cell (j := 5) rfl
  have RO := Lib.hid hr.own
  have H := Lib.hid h
  clear hv hr hb h
  go_enter Try.func30, Try.ntmps30
  go_wp2_with (with_reducible refine wpList_append_three _ rfl (.tmp 8) (.tmp 10) 38 rfl 0 56 j0 (.slice none 0 0) 1 24 Try.underlying38 ki.out kz0.out kz1.out kz2.out rfl (by decide) _ vs.length _ rfl (RO.out.alloc _) ⟨w.heap.size, 0, none⟩ 1 1 [.slice vo l.length vc] rfl rfl (new_cell _ _ _) (by simp [Value.oneCell']) (by unfold maxLen; omega) (by omega) (Nat.zero_le _) ?_)
  intro lv' wn ol gr nb
  have H2 := Lib.hid (H.out.shelveW rfl HV.out ol.out gr.out nb.out)
  have hb2 : Blk wn b 46 (spanBook (.slice lo vs.length lc)) := H2.out.get 1 rfl
  have c1 : wn.cell? ⟨b, 5, none⟩ = some (.slice lo vs.length lc) := hb2.cell rfl
  have f1 := hb2.free 5
  obtain ⟨no, nc, rfl⟩ := owns_slice ol.out
  have H3 : Hid (Side w0 (wn.setCell ⟨b, 5, none⟩ (.slice no (vs.length + 1) nc)) (spansT (.slice no (vs.length + 1) nc) (vs ++ [(.slice vo l.length vc, slots l)]) :: bkT b (.slice no (vs.length + 1) nc) :: ts)) :=
    H2.out.turnAt 1 rfl (s := [b]) ((Chg.refl _ _).setCell (.inl (by simp)) _) (fun k hk => .inl hk) (hb2.set 5 _) (fun k hk => .inl hk)
  clear ol gr nb hb2 H2 H RO c0 HV
  go_wp2_with fail
  go_end0
  exact ⟨rfl, _, H3⟩

theorem ownSpans_rack {w : World} {lv : Value} {vs : Wides} (h : RackW 2 w 61 56 lv vs) (hl : vs.length ≤ 1000000) (hlen : ∀ p ∈ vs, p.2.length ≤ 1000000000) :
    Calls Try.prog 37 #[lv] w fun e w' => e = .returned (.bool true) ∧ Chg (blocksOf vs) w w' := by
  obtain ⟨lo, lc, rfl⟩ := owns_slice h.own
  rcases h.own.2 with ⟨hv, h0⟩ | ⟨g, cap, cur, hv, _, hg, _⟩
  · obtain ⟨rfl, h1, rfl⟩ : lo = none ∧ vs.length = 0 ∧ lc = 0 := by simpa using hv
    rw [h1]
    exact (ownS_nil none 0 w).mono fun e w' ⟨he, hw⟩ => ⟨he, by rw [← hw]; exact Chg.refl _ _⟩
  · obtain ⟨rfl, rfl⟩ : lo = some ⟨g, 0, none⟩ ∧ lc = cap := by simpa using hv
    exact ownS_any 0 g lc vs w (h.owns (Array.getElem?_eq_some_iff.1 hg).1) hl (Nat.zero_le _) (fun j v xs hj => hlen _ (List.mem_of_getElem? hj))

/-- What stood first is of no more concern, whatever it became. -/
theorem Side.gone {w0 w w' : World} {a : Thing} {ts : List Thing} {s : List Nat} (h : Side w0 w (a :: ts)) (c : Chg s w w') (hs : ∀ k ∈ s, k ∈ a.F) : Side w0 w' ts :=
  Side.swap (olds := [a]) (bs := []) h c (fun k hk => .inl ⟨a, List.mem_singleton.2 rfl, hs k hk⟩) (fun b hb => by cases hb) (fun b hb => by cases hb) List.Pairwise.nil

set_option maxHeartbeats 2000000 in
set_option maxRecDepth 100000 in
theorem spanBook_own {w0 w : World} {ts : List Thing} {b : Nat} {lv : Value} {vs : Wides} (h : Side w0 w (spansT lv vs :: bkT b lv :: ts)) (hl : vs.length ≤ 1000000) (hlen : ∀ p ∈ vs, p.2.length ≤ 1000000000) :
    Calls Try.prog 13 #[.pointer (some ⟨b, 0, none⟩)] w fun e w' => e = .returned (.bool true) ∧ Hid (Chg [] w0 w') := by
  have hb : Blk w b 46 (spanBook lv) := h.get 1 rfl
  have hr : RackW 2 w 61 56 lv vs := h.get 0 rfl
  have s0 := Lib.hid (ownSpans_rack hr hl hlen)
  obtain ⟨o0, k0, rfl⟩ := owns_slice hr.own
  have c0 := hb.cell (j := 0) rfl
  have c1 := hb.cell (j := 1) rfl
  have c2 := hb.cell (j := 2) rfl
  have c3 := hb.cell (j := 3) rfl
  have c4 := hb.cell (j := 4) rfl
  have c5 := hb.cell (j := 5) rfl
  have H := Lib.hid h
  clear hb hr h
  go_enter Try.func13, Try.ntmps13
  go_wp2_with (first
    | (go_at_call 32; refine (ownBytes_none _).mono ?_; rintro e w' ⟨rfl, rfl⟩)
    | (go_at_call 33; refine (ownTexts_none _).mono ?_; rintro e w' ⟨rfl, rfl⟩)
    | (go_at_call 34; refine (ownInts_none _).mono ?_; rintro e w' ⟨rfl, rfl⟩)
    | (go_at_call 35; refine (ownNumbers_none _).mono ?_; rintro e w' ⟨rfl, rfl⟩)
    | (go_at_call 36; refine (ownErrs_none _).mono ?_; rintro e w' ⟨rfl, rfl⟩))
  refine s0.out.mono ?_
  rintro e w1 ⟨rfl, C⟩
  have H1 := Lib.hid (H.out.gone C (fun k hk => List.mem_append_right _ hk))
  clear H C c0 c1 c2 c3 c4 c5 s0
  have hb : Blk w1 b 46 _ := H1.out.get 0 rfl
  have P := Lib.hid hb
  have c6 := hb.cell (j := 6) rfl
  have c7 := hb.cell (j := 7) rfl
  clear hb
  go_wp2_with (first
    | (go_at_call 38; refine (ownStates_none _).mono ?_; rintro e w' ⟨rfl, rfl⟩)
    | (go_at_call 39; refine (ownBools_none _).mono ?_; rintro e w3 ⟨rfl, hc⟩; have C := Lib.hid hc; clear hc c6 c7; have c8 := (P.out.chg C.out (by simp)).cell (j := 8) rfl; have c9 := (P.out.chg C.out (by simp)).cell (j := 9) rfl; have c10 := (P.out.chg C.out (by simp)).cell (j := 10) rfl; have c11 := (P.out.chg C.out (by simp)).cell (j := 11) rfl)
    | (go_at_call 40; refine (ownRows_none _).mono ?_; rintro e w' ⟨rfl, rfl⟩)
    | (go_at_call 41; refine (ownPuts_none _).mono ?_; rintro e w' ⟨rfl, rfl⟩)
    | (go_at_call 42; refine (ownPatches_none _).mono ?_; rintro e w' ⟨rfl, rfl⟩)
    | (go_at_call 43; refine (ownTxns_none _).mono ?_; rintro e w' ⟨rfl, rfl⟩))
  go_ret
  exact ⟨rfl, H1.out.chg.trans C.out⟩

end Go.Proofs.Ytkkjhlihionlkaa
