/-
  A book of bytes and ints: Own. By an AI agent.
-/
import Derived.Test.YtheplbjlfkjncaaGRackInts
import Derived.Test.YtheplbjlfkjncaaGBookNil
namespace Go.Proofs.Ytheplbjlfkjncaa
open Go.RowKit

/-- A book's cells, with two racks. -/
def bookCells (l0 l2 : Value) : List Value := [l0, .slice none 0 0, l2, .slice none 0 0, .slice none 0 0, .slice none 0 0, .slice none 0 0, .slice none 0 0, .slice none 0 0, .slice none 0 0, .slice none 0 0, .slice none 0 0]

/-- What stood first is of no more concern, whatever it became. -/
theorem Side.spent {w0 w w' : World} {a : Thing} {ts : List Thing} {s : List Nat} (h : Side w0 w (a :: ts)) (c : Chg s w w') (hs : ∀ k ∈ s, k ∈ a.F) : Side w0 w' ts :=
  Side.swap (olds := [a]) (bs := []) h c (fun k hk => .inl ⟨a, List.mem_singleton.2 rfl, hs k hk⟩) (fun b hb => by cases hb) (fun b hb => by cases hb) List.Pairwise.nil

set_option maxHeartbeats 2000000 in
set_option maxRecDepth 100000 in
theorem bookOwn_side {w0 w : World} {ts : List Thing} {b : Nat} {l0 l2 : Value} {vs us : List (Value × List Value)}
    (h : Side w0 w (rackT 5 94 l0 vs :: rackT 3 33 l2 us :: blkT b 66 (bookCells l0 l2) :: ts))
    (hl : vs.length ≤ 1000000) (hl2 : us.length ≤ 1000000) (hlen : ∀ p ∈ vs, p.2.length ≤ 140737488355000) (hlen2 : ∀ p ∈ us, p.2.length ≤ 1000000000000) :
    Calls Try.prog 25 #[.pointer (some ⟨b, 0, none⟩)] w fun e w' => e = .returned (.bool true) ∧ Hid (Chg [] w0 w') := by
  have hb : Blk w b 66 (bookCells l0 l2) := h.get 2 rfl
  have hr0 : Rack w 5 94 l0 vs := h.get 0 rfl
  have hr2 : Rack w 3 33 l2 us := h.get 1 rfl
  have s0 := Lib.hid (ownBytes_rack hr0 hl hlen)
  obtain ⟨o0, k0, rfl⟩ := owns_slice hr0.own
  obtain ⟨o2, k2, rfl⟩ := owns_slice hr2.own
  have c0 := hb.cell (j := 0) rfl
  have H := Lib.hid h
  clear hb hr0 hr2 h
  go_enter Try.func25, Try.ntmps25
  go_wp2_with fail
  refine s0.out.mono ?_
  rintro e w1 ⟨rfl, C⟩
  have H1 := Lib.hid (H.out.spent C (fun k hk => List.mem_append_right _ hk))
  clear H C c0 s0
  have hb : Blk w1 b 66 _ := H1.out.get 1 rfl
  have hr2 : Rack w1 3 33 _ us := H1.out.get 0 rfl
  have s2 := Lib.hid (ownInts_rack hr2 hl2 hlen2)
  have c1 := hb.cell (j := 1) rfl
  have c2 := hb.cell (j := 2) rfl
  clear hb hr2
  go_wp2_with (first
    | (go_at_call 36; refine (ownTexts_nil _).mono ?_; rintro e w' ⟨rfl, rfl⟩))
  refine s2.out.mono ?_
  rintro e w2 ⟨rfl, C⟩
  have H2 := Lib.hid (H1.out.spent C (fun k hk => List.mem_append_right _ hk))
  clear H1 C c1 c2 s2
  have hb : Blk w2 b 66 _ := H2.out.get 0 rfl
  have P := Lib.hid hb
  have c3 := hb.cell (j := 3) rfl
  have c4 := hb.cell (j := 4) rfl
  have c5 := hb.cell (j := 5) rfl
  have c6 := hb.cell (j := 6) rfl
  have c7 := hb.cell (j := 7) rfl
  clear hb
  go_wp2_with (first
    | (go_at_call 38; refine (ownNumbers_nil _).mono ?_; rintro e w' ⟨rfl, rfl⟩)
    | (go_at_call 39; refine (ownErrs_nil _).mono ?_; rintro e w' ⟨rfl, rfl⟩)
    | (go_at_call 40; refine (ownSpans_nil _).mono ?_; rintro e w' ⟨rfl, rfl⟩)
    | (go_at_call 41; refine (ownStates_nil _).mono ?_; rintro e w' ⟨rfl, rfl⟩)
    | (go_at_call 42; refine (ownBools_nil _).mono ?_; rintro e w3 ⟨rfl, hc⟩; have C := Lib.hid hc; clear hc c3 c4 c5 c6 c7; have c8 := (P.out.chg C.out (by simp)).cell (j := 8) rfl; have c9 := (P.out.chg C.out (by simp)).cell (j := 9) rfl; have c10 := (P.out.chg C.out (by simp)).cell (j := 10) rfl; have c11 := (P.out.chg C.out (by simp)).cell (j := 11) rfl)
    | (go_at_call 43; refine (ownRows_nil _).mono ?_; rintro e w' ⟨rfl, rfl⟩)
    | (go_at_call 44; refine (ownPuts_nil _).mono ?_; rintro e w' ⟨rfl, rfl⟩)
    | (go_at_call 45; refine (ownPatches_nil _).mono ?_; rintro e w' ⟨rfl, rfl⟩)
    | (go_at_call 46; refine (ownTxns_nil _).mono ?_; rintro e w' ⟨rfl, rfl⟩))
  go_ret
  exact ⟨rfl, H2.out.chg.trans C.out⟩

end Go.Proofs.Ytheplbjlfkjncaa
