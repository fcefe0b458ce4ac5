/-
  A book of bytes and of rows: Rows and Own. By an AI agent.
-/
import Derived.Test.YtnkdgmnmmmjgjaaGreatGPool
import Derived.Test.YtnkdgmnmmmjgjaaGreatGRackB
import Derived.Test.YtnkdgmnmmmjgjaaGreatGOwnRows
import Derived.Test.YtnkdgmnmmmjgjaaGreatGBookNone
namespace Go.Proofs.YtnkdgmnmmmjgjaaGreat
open Go.RowKit

/-- A row that came out: its slice, its bytes. -/
def rowSlot (p : Value × List Value) : List Value := [p.1]

/-- The book's cells: bytes and rows. -/
def rwBook (l0 l8 : Value) : List Value := [l0, .slice none 0 0, .slice none 0 0, .slice none 0 0, .slice none 0 0, .slice none 0 0, .slice none 0 0, .slice none 0 0, l8, .slice none 0 0, .slice none 0 0, .slice none 0 0]

def bytesT (lv : Value) (vs : List (Value × List Value)) : Thing := rackT 5 55 lv vs
def rwsRackT (lv : Value) (us : Wides) : Thing := rackWT 1 55 28 lv us
def rwBookT (b : Nat) (l0 l8 : Value) : Thing := blkT b 50 (rwBook l0 l8)

theorem bookBytes_rw {w0 w : World} {ts : List Thing} {e0 : TypeId} {b : Nat} {l0 l8 v : Value} {vs : List (Value × List Value)} {xs : List Value} (h : Side w0 w (ownT e0 v xs :: bytesT l0 vs :: rwBookT b l0 l8 :: ts)) (hl : vs.length ≤ 1000000) :
    Calls Tryz.prog 32 #[.pointer (some ⟨b, 0, none⟩), v] w fun e w' => e = .returned (.tuple #[]) ∧ ∃ l0', Hid (Side w0 w' (bytesT l0' (vs ++ [(v, xs)]) :: rwBookT b l0' l8 :: ts)) :=
  bookBytes_side h rfl hl

set_option maxHeartbeats 2000000 in
set_option maxRecDepth 100000 in
theorem bookRws_side {w0 w : World} {ts : List Thing} {b : Nat} {l0 l8 v : Value} {vs : List (Value × List Value)} {us : Wides} {ps : List (Value × List Value)}
    (h : Side w0 w (wideT 1 55 v (ps.map rowSlot) :: poolT ps :: bytesT l0 vs :: rwsRackT l8 us :: rwBookT b l0 l8 :: ts)) (hl : vs.length + ps.length ≤ 1000000) (hl2 : us.length ≤ 1000000) :
    Calls Tryz.prog 11 #[.pointer (some ⟨b, 0, none⟩), v] w fun e w' => e = .returned (.tuple #[]) ∧ ∃ l0' l8', Hid (Side w0 w' (bytesT l0' (vs ++ ps) :: rwsRackT l8' (us ++ [(v, ps.map rowSlot)]) :: rwBookT b l0' l8' :: ts)) := by
  obtain ⟨j0, ki, kz0, kz1, kz2⟩ := info_parts info_rwss
  replace ki := Lib.hid ki
  replace kz0 := Lib.hid kz0
  replace kz1 := Lib.hid kz1
  replace kz2 := Lib.hid kz2
  have hv : OwnW 1 w 0 55 v (ps.map rowSlot) := h.get 0 rfl
  have hr : RackW 1 w 55 28 l8 us := h.get 3 rfl
  have hb : Blk w b 50 (rwBook l0 l8) := h.get 4 rfl
  obtain ⟨vo, vc, hvs⟩ := hv.slice
  rw [List.length_map] at hvs
  subst hvs
  obtain ⟨lo, lc, rfl⟩ := owns_slice hr.own
  have c0 := hb.cell (j := 8) rfl
  have RO := Lib.hid hr.own
  have HV := Lib.hid hv
  have H := Lib.hid (((h.front 3).front 1 : Side w0 w (wideT 1 55 (.slice vo ps.length vc) (ps.map rowSlot) :: rwsRackT (.slice lo us.length lc) us :: poolT ps :: bytesT l0 vs :: rwBookT b l0 (.slice lo us.length lc) :: ts)))
  clear hv hr hb h
  go_enter Tryz.func11, Tryz.ntmps11
  go_wp2_with (with_reducible refine wpList_append_three _ rfl (.tmp 9) (.tmp 11) 45 rfl 0 28 j0 (.slice none 0 0) 1 24 Tryz.underlying45 ki.out kz0.out kz1.out kz2.out rfl (by decide) _ us.length _ rfl (RO.out.alloc _) ⟨w.heap.size, 0, none⟩ 1 1 [.slice vo ps.length vc] rfl rfl (new_cell _ _ _) (by simp [Value.oneCell']) (by unfold maxLen; omega) (by omega) (Nat.zero_le _) ?_)
  intro lv' wn ol gr nb
  have H2 := Lib.hid (H.out.shelveW rfl HV.out ol.out gr.out nb.out)
  have hb2 : Blk wn b 50 (rwBook l0 (.slice lo us.length lc)) := H2.out.get 3 rfl
  have c1 : wn.cell? ⟨b, 8, none⟩ = some (.slice lo us.length lc) := hb2.cell rfl
  have f1 := hb2.free 8
  obtain ⟨no, nc, rfl⟩ := owns_slice ol.out
  have H3 : Hid (Side w0 (wn.setCell ⟨b, 8, none⟩ (.slice no (us.length + 1) nc)) (poolT ps :: bytesT l0 vs :: rwBookT b l0 (.slice no (us.length + 1) nc) :: rwsRackT (.slice no (us.length + 1) nc) (us ++ [(.slice vo ps.length vc, ps.map rowSlot)]) :: ts)) := by
    have h3 : Side w0 (wn.setCell ⟨b, 8, none⟩ (.slice no (us.length + 1) nc)) (rwsRackT (.slice no (us.length + 1) nc) (us ++ [(.slice vo ps.length vc, ps.map rowSlot)]) :: poolT ps :: bytesT l0 vs :: rwBookT b l0 (.slice no (us.length + 1) nc) :: ts) :=
      H2.out.turnAt (b := rwBookT b l0 (.slice no (us.length + 1) nc)) 3 rfl (s := [b]) ((Chg.refl [b] wn).setCell (p := ⟨b, 8, none⟩) (.inl (by simp)) (.slice no (us.length + 1) nc)) (fun k hk => .inl hk) (hb2.set 8 _) (fun k hk => .inl hk)
    exact ((h3.front 3).front 3).front 3
  clear ol gr nb hb2 H2 H RO c0 HV
  go_wp2_with fail
  generalize (wn.setCell ⟨b, 8, none⟩ (.slice no (us.length + 1) nc)) = wz at *
  go_loopw [4] (fun i wr => ∃ (k : Nat) (l0' : Value), k ≤ ps.length ∧ i = .int .i64 k ∧ Hid (Side w0 wr (poolT (ps.drop k) :: bytesT l0' (vs ++ ps.take k) :: rwBookT b l0' (.slice no (us.length + 1) nc) :: rwsRackT (.slice no (us.length + 1) nc) (us ++ [(.slice vo ps.length vc, ps.map rowSlot)]) :: ts))) (fun i _ => ps.length - (intOf i).toNat)
  case atStart => exact ⟨0, l0, Nat.zero_le _, rfl, by simpa using H3⟩
  case round =>
    obtain ⟨k, l0', hk, rfl, H4⟩ := hrel
    clear H3
    by_cases hlt : k < ps.length
    · obtain ⟨p, hp⟩ : ∃ p, ps[k]? = some p := ⟨_, List.getElem?_eq_getElem hlt⟩
      have hd : ps.drop k = p :: ps.drop (k + 1) := by
        rw [List.drop_eq_getElem_cons hlt]
        congr 1
        exact Option.some.inj (by rw [← hp, List.getElem?_eq_getElem hlt])
      have HT := Lib.hid (take_snoc hp)
      rw [hd] at H4
      obtain ⟨e, H5⟩ := H4.out.draw
      have H6 : Hid (Side w0 wr (ownT e p.1 p.2 :: bytesT l0' (vs ++ ps.take k) :: rwBookT b l0' (.slice no (us.length + 1) nc) :: poolT (ps.drop (k + 1)) :: rwsRackT (.slice no (us.length + 1) nc) (us ++ [(.slice vo ps.length vc, ps.map rowSlot)]) :: ts)) := ((H5.front 3).front 3).front 2
      have hr : RackW 1 wr 55 28 _ (us ++ [(.slice vo ps.length vc, ps.map rowSlot)]) := H6.out.get 4 rfl
      have ho := hr.row us.length _ _ (by rw [List.getElem?_append_right (Nat.le_refl _), Nat.sub_self]; rfl)
      obtain ⟨g, rfl, hc⟩ := ho.rd.at (k := k) (x := rowSlot p) (by rw [List.getElem?_map, hp]; rfl)
      have c2 := hc 0 _ rfl
      rw [Nat.mul_one, Nat.add_zero] at c2
      have hk0 : (0 : Int) ≤ k := Int.natCast_nonneg _
      have hk1 : (k : Int) < ps.length := by omega
      clear hr ho hc H5 H4 hd hp
      go_wp2_with fail
      refine (bookBytes_rw H6.out (by rw [List.length_append, List.length_take]; omega)).mono ?_
      rintro e w' ⟨rfl, l0'', H7⟩
      have H8 : Hid (Side w0 w' (poolT (ps.drop (k + 1)) :: bytesT l0'' (vs ++ ps.take (k + 1)) :: rwBookT b l0'' (.slice no (us.length + 1) nc) :: rwsRackT (.slice no (us.length + 1) nc) (us ++ [(.slice (some ⟨g, 0, none⟩) ps.length vc, ps.map rowSlot)]) :: ts)) := by
        have h := H7.out.front 2
        show Side _ _ _
        rw [HT.out, ← List.append_assoc]
        exact h
      clear H6 H7 c2
      go_wp2_with fail
      exact ⟨⟨k + 1, l0'', by omega, by go_num, H8⟩, by simp [intOf]; omega⟩
    · obtain rfl : k = ps.length := by omega
      go_wp2_with fail
      go_end0
      refine ⟨rfl, l0', .slice no (us.length + 1) nc, ?_⟩
      have h := H4.out
      rw [List.take_length] at h
      have h2 : Side w0 wr (bytesT l0' (vs ++ ps) :: rwsRackT (.slice no (us.length + 1) nc) (us ++ [(.slice vo ps.length vc, ps.map rowSlot)]) :: rwBookT b l0' (.slice no (us.length + 1) nc) :: ts) := (h.tail.front 2).front 1
      exact h2

theorem ownRws_rack {w : World} {lv : Value} {vs : Wides} (h : RackW 1 w 55 28 lv vs) (hl : vs.length ≤ 100) (hlen : ∀ p ∈ vs, p.2.length ≤ 1000000000) :
    Calls Tryz.prog 42 #[lv] w fun e w' => e = .returned (.bool true) ∧ Chg (blocksOf vs) w w' := by
  obtain ⟨lo, lc, rfl⟩ := owns_slice h.own
  rcases h.own.2 with ⟨hv, h0⟩ | ⟨g, cap, cur, hv, _, hg, _⟩
  · obtain ⟨rfl, h1, rfl⟩ : lo = none ∧ vs.length = 0 ∧ lc = 0 := by simpa using hv
    rw [h1]
    exact (ownR_nil none 0 w).mono fun e w' ⟨he, hw⟩ => ⟨he, by rw [← hw]; exact Chg.refl _ _⟩
  · obtain ⟨rfl, rfl⟩ : lo = some ⟨g, 0, none⟩ ∧ lc = cap := by simpa using hv
    exact ownR_any 0 g lc vs w (h.owns (Array.getElem?_eq_some_iff.1 hg).1) hl (Nat.zero_le _) (fun j v xs hj => hlen _ (List.mem_of_getElem? hj))

set_option maxHeartbeats 2000000 in
set_option maxRecDepth 100000 in
theorem rwBook_own {w0 w : World} {ts : List Thing} {b : Nat} {l0 l8 : Value} {vs : List (Value × List Value)} {us : Wides} (h : Side w0 w (bytesT l0 vs :: rwsRackT l8 us :: rwBookT b l0 l8 :: ts)) (hl : vs.length ≤ 1000000) (hlen : ∀ p ∈ vs, p.2.length ≤ 140737488355000)
    (hl2 : us.length ≤ 100) (hlen2 : ∀ p ∈ us, p.2.length ≤ 1000000000) :
    Calls Tryz.prog 14 #[.pointer (some ⟨b, 0, none⟩)] w fun e w' => e = .returned (.bool true) ∧ Hid (Chg [] w0 w') := by
  have hb : Blk w b 50 (rwBook l0 l8) := h.get 2 rfl
  have hr : Rack w 5 55 l0 vs := h.get 0 rfl
  have hr2 : RackW 1 w 55 28 l8 us := h.get 1 rfl
  have s0 := Lib.hid (ownBytes_rack hr hl hlen)
  obtain ⟨o0, k0, rfl⟩ := owns_slice hr.own
  obtain ⟨o2, k2, rfl⟩ := owns_slice hr2.own
  have c0 := hb.cell (j := 0) rfl
  have H := Lib.hid h
  clear hb hr hr2 h
  go_enter Tryz.func14, Tryz.ntmps14
  go_wp2_with fail
  refine s0.out.mono ?_
  rintro e w1 ⟨rfl, C⟩
  have H1 := Lib.hid (H.out.gone C (fun k hk => List.mem_append_right _ hk))
  clear H C c0 s0
  have hb : Blk w1 b 50 _ := H1.out.get 1 rfl
  have P := Lib.hid hb
  have hr2 : RackW 1 w1 55 28 _ us := H1.out.get 0 rfl
  have PR : Hid (∀ w', Chg [] w1 w' → Calls Tryz.prog 42 #[.slice o2 us.length k2] w' fun e w'' => e = .returned (.bool true) ∧ Chg (blocksOf us) w' w'') := fun w' c => ownRws_rack ((H1.out.quiet c).get 0 rfl : RackW 1 w' 55 28 _ us) hl2 hlen2
  have c1 := hb.cell (j := 1) rfl
  have c2 := hb.cell (j := 2) rfl
  have c3 := hb.cell (j := 3) rfl
  have c4 := hb.cell (j := 4) rfl
  have c5 := hb.cell (j := 5) rfl
  have c6 := hb.cell (j := 6) rfl
  have c7 := hb.cell (j := 7) rfl
  clear hb hr2
  go_wp2_with (first
    | (go_at_call 35; refine (ownTexts_none _).mono ?_; rintro e w' ⟨rfl, rfl⟩)
    | (go_at_call 36; refine (ownInts_none _).mono ?_; rintro e w' ⟨rfl, rfl⟩)
    | (go_at_call 37; refine (ownNumbers_none _).mono ?_; rintro e w' ⟨rfl, rfl⟩)
    | (go_at_call 38; refine (ownErrs_none _).mono ?_; rintro e w' ⟨rfl, rfl⟩)
    | (go_at_call 39; refine (ownSpans_none _).mono ?_; rintro e w' ⟨rfl, rfl⟩)
    | (go_at_call 40; refine (ownStates_none _).mono ?_; rintro e w' ⟨rfl, rfl⟩)
    | (go_at_call 41; refine (ownBools_none _).mono ?_; rintro e w3 ⟨rfl, hc⟩; have C := Lib.hid hc; clear hc c1 c2 c3 c4 c5 c6 c7; have c8 := (P.out.chg C.out (by simp)).cell (j := 8) rfl))
  refine (PR.out _ C.out).mono ?_
  rintro e w4 ⟨rfl, C4⟩
  have H4 := Lib.hid ((H1.out.quiet C.out).gone C4 (fun k hk => List.mem_append_right _ hk))
  have hb : Blk w4 b 50 _ := H4.out.get 0 rfl
  have c9 := hb.cell (j := 9) rfl
  have c10 := hb.cell (j := 10) rfl
  have c11 := hb.cell (j := 11) rfl
  clear hb c8 PR P C4
  go_wp2_with (first
    | (go_at_call 43; refine (ownPuts_none _).mono ?_; rintro e w' ⟨rfl, rfl⟩)
    | (go_at_call 44; refine (ownPatches_none _).mono ?_; rintro e w' ⟨rfl, rfl⟩)
    | (go_at_call 45; refine (ownTxns_none _).mono ?_; rintro e w' ⟨rfl, rfl⟩))
  go_ret
  exact ⟨rfl, H4.out.chg⟩

end Go.Proofs.YtnkdgmnmmmjgjaaGreat
