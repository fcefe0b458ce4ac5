/-
  A book of bytes and of patches: Patches and Own. By an AI agent.
-/
import Derived.Test.YtihmegpcbpdipaaGRackB
import Derived.Test.YtihmegpcbpdipaaGOwnPts
import Derived.Test.YtihmegpcbpdipaaGBookNone
namespace Go.Proofs.Ytihmegpcbpdipaa
open Go.RowKit

/-- Rows that came out and lie nowhere yet: each in memory of its own. -/
structure Pool (w : World) (vs : List (Value × List Value)) : Prop where
  row : ∀ p ∈ vs, OwnR w 0 p.1 p.2.length p.2
  apart : vs.Pairwise fun p q => ∀ g, p.1.ownBlock = some g → q.1.ownBlock ≠ some g

def poolT (vs : List (Value × List Value)) : Thing where
  F := rowsOf vs
  P := fun w => Pool w vs
  lt := fun w h k hk => by
    obtain ⟨j, v, xs, hj, hg⟩ := rowsOf_spec hk
    exact ((h.row _ (List.mem_of_getElem? hj)).lt k hg).2
  stays := fun w w' s h c hs => ⟨fun p hp => (h.row p hp).chg c (fun k hk => hs k (by
    obtain ⟨j, hj⟩ := List.mem_iff_getElem?.1 hp
    exact rowsOf_mem (v := p.1) (xs := p.2) hj hk)), h.apart⟩

theorem rowsOf_cons (p : Value × List Value) (vs : List (Value × List Value)) : rowsOf (p :: vs) = p.1.ownBlock.toList ++ rowsOf vs := by
  unfold rowsOf
  cases h : p.1.ownBlock <;> simp [h]

/-- The first of them by itself. -/
theorem Side.draw {w0 w : World} {ts : List Thing} {p : Value × List Value} {vs : List (Value × List Value)} (h : Side w0 w (poolT (p :: vs) :: ts)) : ∃ e, Side w0 w (ownT e p.1 p.2 :: poolT vs :: ts) := by
  have hp : Pool w (p :: vs) := h.get 0 rfl
  obtain ⟨e, he⟩ := hp.row p List.mem_cons_self
  obtain ⟨a1, a2⟩ := List.pairwise_cons.1 hp.apart
  refine ⟨e, Side.swap (olds := [poolT (p :: vs)]) (bs := [ownT e p.1 p.2, poolT vs]) h (Chg.refl [] w) (fun k hk => by cases hk) (fun b hb => ?_) (fun b hb k hk => ?_) (List.pairwise_cons.2 ⟨fun b hb k hk hm => ?_, List.pairwise_singleton _ _⟩)⟩
  · rcases List.mem_cons.1 hb with rfl | hb
    · exact he
    · rw [List.mem_singleton.1 hb]
      exact ⟨fun q hq => hp.row q (List.mem_cons_of_mem _ hq), a2⟩
  · refine .inl ⟨_, List.mem_singleton.2 rfl, ?_⟩
    show k ∈ rowsOf (p :: vs)
    rw [rowsOf_cons]
    rcases List.mem_cons.1 hb with rfl | hb
    · exact List.mem_append_left _ hk
    · rw [List.mem_singleton.1 hb] at hk
      exact List.mem_append_right _ hk
  · rw [List.mem_singleton.1 hb] at hm
    obtain ⟨j, v, xs, hj, hg⟩ := rowsOf_spec hm
    exact a1 (v, xs) (List.mem_of_getElem? hj) k (by simpa [ownT] using hk) hg

/-- One more among them. -/
theorem Side.pool {w0 w : World} {ts : List Thing} {e : TypeId} {v : Value} {xs : List Value} {vs : List (Value × List Value)} (h : Side w0 w (ownT e v xs :: poolT vs :: ts)) : Side w0 w (poolT (vs ++ [(v, xs)]) :: ts) := by
  have ho : w.ownsRow 0 e 1 v xs.length xs := h.get 0 rfl
  have hp : Pool w vs := h.get 1 rfl
  have hoff : ∀ k, v.ownBlock = some k → k ∉ rowsOf vs := fun k hk hm => (List.pairwise_cons.1 h.apart).1 _ List.mem_cons_self k (by simp [ownT, hk]) hm
  refine h.join (Chg.refl [] w) (fun k hk => by cases hk) ⟨fun p hp2 => ?_, ?_⟩ (fun k hk => ?_)
  · rcases List.mem_append.1 hp2 with q | q
    · exact hp.row p q
    · rw [List.mem_singleton.1 q]
      exact ⟨e, ho⟩
  · refine List.pairwise_append.2 ⟨hp.apart, List.pairwise_singleton _ _, fun p hp2 q hq g hg hg2 => ?_⟩
    rw [List.mem_singleton.1 hq] at hg2
    obtain ⟨j, hj⟩ := List.mem_iff_getElem?.1 hp2
    exact hoff g hg2 (rowsOf_mem (v := p.1) (xs := p.2) hj hg)
  · have hk2 : k ∈ rowsOf (vs ++ [(v, xs)]) := hk
    rw [rowsOf_append] at hk2
    rcases List.mem_append.1 hk2 with q | q
    · exact .inr (.inl q)
    · rw [rowsOf_cons] at q
      rcases List.mem_append.1 q with q | q
      · exact .inl q
      · simp [rowsOf] at q

theorem Pool.nil (w : World) : Pool w [] := ⟨fun p hp => (by cases hp), List.Pairwise.nil⟩

/-- A list of values of several cells, in memory of its own. -/
def wideT (s : Nat) (e : TypeId) (v : Value) (xs : List (List Value)) : Thing where
  F := v.ownBlock.toList
  P := fun w => OwnW s w 0 e v xs
  lt := fun w h k hk => (h.lt k (by simpa using hk)).2
  stays := fun w w' t h c hs => h.chg c (fun k hk => hs k (by rw [hk]; simp))

/-- A list of patches that came out: member, row, and the slice of the bytes; the bytes. -/
abbrev Pm := (Nat × Nat) × (Value × List Value)

def pmSlot (p : Pm) : List Value := [.int .i64 (p.1.1 : Int), .int .i64 (p.1.2 : Int), p.2.1]

/-- The book's cells: bytes and patches. -/
def ptBook (l0 l10 : Value) : List Value := [l0, .slice none 0 0, .slice none 0 0, .slice none 0 0, .slice none 0 0, .slice none 0 0, .slice none 0 0, .slice none 0 0, .slice none 0 0, .slice none 0 0, l10, .slice none 0 0]

def bytesT (lv : Value) (vs : List (Value × List Value)) : Thing := rackT 5 47 lv vs
def ptsRackT (lv : Value) (us : Wides) : Thing := rackWT 3 49 56 lv us
def ptBookT (b : Nat) (l0 l10 : Value) : Thing := blkT b 46 (ptBook l0 l10)

theorem bookBytes_pt {w0 w : World} {ts : List Thing} {e0 : TypeId} {b : Nat} {l0 l10 v : Value} {vs : List (Value × List Value)} {xs : List Value} (h : Side w0 w (ownT e0 v xs :: bytesT l0 vs :: ptBookT b l0 l10 :: ts)) (hl : vs.length ≤ 1000000) :
    Calls Try.prog 12 #[.pointer (some ⟨b, 0, none⟩), v] w fun e w' => e = .returned (.tuple #[]) ∧ ∃ l0', Hid (Side w0 w' (bytesT l0' (vs ++ [(v, xs)]) :: ptBookT b l0' l10 :: ts)) :=
  bookBytes_side h rfl hl

set_option maxHeartbeats 2000000 in
set_option maxRecDepth 100000 in
theorem bookPts_side {w0 w : World} {ts : List Thing} {b : Nat} {l0 l10 v : Value} {vs : List (Value × List Value)} {us : Wides} {ps : List Pm}
    (h : Side w0 w (wideT 3 49 v (ps.map pmSlot) :: poolT (ps.map (·.2)) :: bytesT l0 vs :: ptsRackT l10 us :: ptBookT b l0 l10 :: ts)) (hl : vs.length + ps.length ≤ 1000000) (hl2 : us.length ≤ 1000000) :
    Calls Try.prog 16 #[.pointer (some ⟨b, 0, none⟩), v] w fun e w' => e = .returned (.tuple #[]) ∧ ∃ l0' l10', Hid (Side w0 w' (bytesT l0' (vs ++ ps.map (·.2)) :: ptsRackT l10' (us ++ [(v, ps.map pmSlot)]) :: ptBookT b l0' l10' :: ts)) := by
  obtain ⟨j0, ki, kz0, kz1, kz2⟩ := info_parts info_ptss
  replace ki := Lib.hid ki
  replace kz0 := Lib.hid kz0
  replace kz1 := Lib.hid kz1
  replace kz2 := Lib.hid kz2
  have hv : OwnW 3 w 0 49 v (ps.map pmSlot) := h.get 0 rfl
  have hr : RackW 3 w 49 56 l10 us := h.get 3 rfl
  have hb : Blk w b 46 (ptBook l0 l10) := h.get 4 rfl
  obtain ⟨vo, vc, hvs⟩ := hv.slice
  rw [List.length_map] at hvs
  subst hvs
  obtain ⟨lo, lc, rfl⟩ := owns_slice hr.own
  have c0 := hb.cell (j := 10) rfl
  have RO := Lib.hid hr.own
  have HV := Lib.hid hv
  have H := Lib.hid (((h.front 3).front 1 : Side w0 w (wideT 3 49 (.slice vo ps.length vc) (ps.map pmSlot) :: ptsRackT (.slice lo us.length lc) us :: poolT (ps.map (·.2)) :: bytesT l0 vs :: ptBookT b l0 (.slice lo us.length lc) :: ts)))
  clear hv hr hb h
  go_enter Try.func16, Try.ntmps16
  go_wp2_with (with_reducible refine wpList_append_three _ rfl (.tmp 9) (.tmp 11) 43 rfl 0 56 j0 (.slice none 0 0) 1 24 Try.underlying43 ki.out kz0.out kz1.out kz2.out rfl (by decide) _ us.length _ rfl (RO.out.alloc _) ⟨w.heap.size, 0, none⟩ 1 1 [.slice vo ps.length vc] rfl rfl (new_cell _ _ _) (by simp [Value.oneCell']) (by unfold maxLen; omega) (by omega) (Nat.zero_le _) ?_)
  intro lv' wn ol gr nb
  have H2 := Lib.hid (H.out.shelveW rfl HV.out ol.out gr.out nb.out)
  have hb2 : Blk wn b 46 (ptBook l0 (.slice lo us.length lc)) := H2.out.get 3 rfl
  have c1 : wn.cell? ⟨b, 10, none⟩ = some (.slice lo us.length lc) := hb2.cell rfl
  have f1 := hb2.free 10
  obtain ⟨no, nc, rfl⟩ := owns_slice ol.out
  have H3 : Hid (Side w0 (wn.setCell ⟨b, 10, none⟩ (.slice no (us.length + 1) nc)) (poolT (ps.map (·.2)) :: bytesT l0 vs :: ptBookT b l0 (.slice no (us.length + 1) nc) :: ptsRackT (.slice no (us.length + 1) nc) (us ++ [(.slice vo ps.length vc, ps.map pmSlot)]) :: ts)) := by
    have h3 : Side w0 (wn.setCell ⟨b, 10, none⟩ (.slice no (us.length + 1) nc)) (ptsRackT (.slice no (us.length + 1) nc) (us ++ [(.slice vo ps.length vc, ps.map pmSlot)]) :: poolT (ps.map (·.2)) :: bytesT l0 vs :: ptBookT b l0 (.slice no (us.length + 1) nc) :: ts) :=
      H2.out.turnAt (b := ptBookT b l0 (.slice no (us.length + 1) nc)) 3 rfl (s := [b]) ((Chg.refl [b] wn).setCell (p := ⟨b, 10, none⟩) (.inl (by simp)) (.slice no (us.length + 1) nc)) (fun k hk => .inl hk) (hb2.set 10 _) (fun k hk => .inl hk)
    exact ((h3.front 3).front 3).front 3
  clear ol gr nb hb2 H2 H RO c0 HV
  go_wp2_with fail
  generalize (wn.setCell ⟨b, 10, none⟩ (.slice no (us.length + 1) nc)) = wz at *
  go_loopw [4] (fun i wr => ∃ (k : Nat) (l0' : Value), k ≤ ps.length ∧ i = .int .i64 k ∧ Hid (Side w0 wr (poolT ((ps.drop k).map (·.2)) :: bytesT l0' (vs ++ (ps.take k).map (·.2)) :: ptBookT b l0' (.slice no (us.length + 1) nc) :: ptsRackT (.slice no (us.length + 1) nc) (us ++ [(.slice vo ps.length vc, ps.map pmSlot)]) :: ts))) (fun i _ => ps.length - (intOf i).toNat)
  case atStart => exact ⟨0, l0, Nat.zero_le _, rfl, by simpa using H3⟩
  case round =>
    obtain ⟨k, l0', hk, rfl, H4⟩ := hrel
    clear H3
    by_cases hlt : k < ps.length
    · obtain ⟨p, hp⟩ : ∃ p, ps[k]? = some p := ⟨_, List.getElem?_eq_getElem hlt⟩
      have hd : ps.drop k = p :: ps.drop (k + 1) := by
        rw [List.drop_eq_getElem_cons hlt]
        congr 1
        exact Option.some.inj (by rw [← hp, List.getElem?_eq_getElem hlt])
      have HT := Lib.hid (take_snoc hp)
      rw [hd, List.map_cons] at H4
      obtain ⟨e, H5⟩ := H4.out.draw
      have H6 : Hid (Side w0 wr (ownT e p.2.1 p.2.2 :: bytesT l0' (vs ++ (ps.take k).map (·.2)) :: ptBookT b l0' (.slice no (us.length + 1) nc) :: poolT ((ps.drop (k + 1)).map (·.2)) :: ptsRackT (.slice no (us.length + 1) nc) (us ++ [(.slice vo ps.length vc, ps.map pmSlot)]) :: ts)) := ((H5.front 3).front 3).front 2
      have hr : RackW 3 wr 49 56 _ (us ++ [(.slice vo ps.length vc, ps.map pmSlot)]) := H6.out.get 4 rfl
      have ho := hr.row us.length _ _ (by rw [List.getElem?_append_right (Nat.le_refl _), Nat.sub_self]; rfl)
      obtain ⟨g, rfl, hc⟩ := ho.rd.at (k := k) (x := pmSlot p) (by rw [List.getElem?_map, hp]; rfl)
      have c2 := hc 2 _ rfl
      have hk0 : (0 : Int) ≤ k := Int.natCast_nonneg _
      have hk1 : (k : Int) < ps.length := by omega
      clear hr ho hc H5 H4 hd hp
      go_wp2_with fail
      refine (bookBytes_pt H6.out (by rw [List.length_append, List.length_map, List.length_take]; omega)).mono ?_
      rintro e w' ⟨rfl, l0'', H7⟩
      have H8 : Hid (Side w0 w' (poolT ((ps.drop (k + 1)).map (·.2)) :: bytesT l0'' (vs ++ (ps.take (k + 1)).map (·.2)) :: ptBookT b l0'' (.slice no (us.length + 1) nc) :: ptsRackT (.slice no (us.length + 1) nc) (us ++ [(.slice (some ⟨g, 0, none⟩) ps.length vc, ps.map pmSlot)]) :: ts)) := by
        have h := H7.out.front 2
        show Side _ _ _
        rw [HT.out, List.map_append, ← List.append_assoc]
        exact h
      clear H6 H7 c2
      go_wp2_with fail
      exact ⟨⟨k + 1, l0'', by omega, by go_num, H8⟩, by simp [intOf]; omega⟩
    · obtain rfl : k = ps.length := by omega
      go_wp2_with fail
      go_end0
      refine ⟨rfl, l0', .slice no (us.length + 1) nc, ?_⟩
      have h := H4.out
      rw [List.take_length] at h
      have h2 : Side w0 wr (bytesT l0' (vs ++ ps.map (·.2)) :: ptsRackT (.slice no (us.length + 1) nc) (us ++ [(.slice vo ps.length vc, ps.map pmSlot)]) :: ptBookT b l0' (.slice no (us.length + 1) nc) :: ts) := (h.tail.front 2).front 1
      exact h2

theorem ownPts_rack {w : World} {lv : Value} {vs : Wides} (h : RackW 3 w 49 56 lv vs) (hl : vs.length ≤ 1000000) (hlen : ∀ p ∈ vs, p.2.length ≤ 1000000000) :
    Calls Try.prog 48 #[lv] w fun e w' => e = .returned (.bool true) ∧ Chg (blocksOf vs) w w' := by
  obtain ⟨lo, lc, rfl⟩ := owns_slice h.own
  rcases h.own.2 with ⟨hv, h0⟩ | ⟨g, cap, cur, hv, _, hg, _⟩
  · obtain ⟨rfl, h1, rfl⟩ : lo = none ∧ vs.length = 0 ∧ lc = 0 := by simpa using hv
    rw [h1]
    exact (ownP_nil none 0 w).mono fun e w' ⟨he, hw⟩ => ⟨he, by rw [← hw]; exact Chg.refl _ _⟩
  · obtain ⟨rfl, rfl⟩ : lo = some ⟨g, 0, none⟩ ∧ lc = cap := by simpa using hv
    exact ownP_any 0 g lc vs w (h.owns (Array.getElem?_eq_some_iff.1 hg).1) hl (Nat.zero_le _) (fun j v xs hj => hlen _ (List.mem_of_getElem? hj))

/-- What stood first is of no more concern, whatever it became. -/
theorem Side.gone {w0 w w' : World} {a : Thing} {ts : List Thing} {s : List Nat} (h : Side w0 w (a :: ts)) (c : Chg s w w') (hs : ∀ k ∈ s, k ∈ a.F) : Side w0 w' ts :=
  Side.swap (olds := [a]) (bs := []) h c (fun k hk => .inl ⟨a, List.mem_singleton.2 rfl, hs k hk⟩) (fun b hb => by cases hb) (fun b hb => by cases hb) List.Pairwise.nil

set_option maxHeartbeats 2000000 in
set_option maxRecDepth 100000 in
theorem ptBook_own {w0 w : World} {ts : List Thing} {b : Nat} {l0 l10 : Value} {vs : List (Value × List Value)} {us : Wides} (h : Side w0 w (bytesT l0 vs :: ptsRackT l10 us :: ptBookT b l0 l10 :: ts)) (hl : vs.length ≤ 1000000) (hlen : ∀ p ∈ vs, p.2.length ≤ 140737488355000)
    (hl2 : us.length ≤ 1000000) (hlen2 : ∀ p ∈ us, p.2.length ≤ 1000000000) :
    Calls Try.prog 24 #[.pointer (some ⟨b, 0, none⟩)] w fun e w' => e = .returned (.bool true) ∧ Hid (Chg [] w0 w') := by
  have hb : Blk w b 46 (ptBook l0 l10) := h.get 2 rfl
  have hr : Rack w 5 47 l0 vs := h.get 0 rfl
  have hr2 : RackW 3 w 49 56 l10 us := h.get 1 rfl
  have s0 := Lib.hid (ownBytes_rack hr hl hlen)
  obtain ⟨o0, k0, rfl⟩ := owns_slice hr.own
  obtain ⟨o2, k2, rfl⟩ := owns_slice hr2.own
  have c0 := hb.cell (j := 0) rfl
  have H := Lib.hid h
  clear hb hr hr2 h
  go_enter Try.func24, Try.ntmps24
  go_wp2_with fail
  refine s0.out.mono ?_
  rintro e w1 ⟨rfl, C⟩
  have H1 := Lib.hid (H.out.gone C (fun k hk => List.mem_append_right _ hk))
  clear H C c0 s0
  have hb : Blk w1 b 46 _ := H1.out.get 1 rfl
  have P := Lib.hid hb
  have hr2 : RackW 3 w1 49 56 _ us := H1.out.get 0 rfl
  have PR : Hid (∀ w', Chg [] w1 w' → Calls Try.prog 48 #[.slice o2 us.length k2] w' fun e w'' => e = .returned (.bool true) ∧ Chg (blocksOf us) w' w'') := fun w' c => ownPts_rack ((H1.out.quiet c).get 0 rfl : RackW 3 w' 49 56 _ us) hl2 hlen2
  have c1 := hb.cell (j := 1) rfl
  have c2 := hb.cell (j := 2) rfl
  have c3 := hb.cell (j := 3) rfl
  have c4 := hb.cell (j := 4) rfl
  have c5 := hb.cell (j := 5) rfl
  have c6 := hb.cell (j := 6) rfl
  have c7 := hb.cell (j := 7) rfl
  clear hb hr2
  go_wp2_with (first
    | (go_at_call 39; refine (ownTexts_none _).mono ?_; rintro e w' ⟨rfl, rfl⟩)
    | (go_at_call 40; refine (ownInts_none _).mono ?_; rintro e w' ⟨rfl, rfl⟩)
    | (go_at_call 41; refine (ownNumbers_none _).mono ?_; rintro e w' ⟨rfl, rfl⟩)
    | (go_at_call 42; refine (ownErrs_none _).mono ?_; rintro e w' ⟨rfl, rfl⟩)
    | (go_at_call 43; refine (ownSpans_none _).mono ?_; rintro e w' ⟨rfl, rfl⟩)
    | (go_at_call 44; refine (ownStates_none _).mono ?_; rintro e w' ⟨rfl, rfl⟩)
    | (go_at_call 45; refine (ownBools_none _).mono ?_; rintro e w3 ⟨rfl, hc⟩; have C := Lib.hid hc; clear hc c1 c2 c3 c4 c5 c6 c7; have c8 := (P.out.chg C.out (by simp)).cell (j := 8) rfl; have c9 := (P.out.chg C.out (by simp)).cell (j := 9) rfl; have c10 := (P.out.chg C.out (by simp)).cell (j := 10) rfl)
    | (go_at_call 46; refine (ownRows_none _).mono ?_; rintro e w' ⟨rfl, rfl⟩)
    | (go_at_call 47; refine (ownPuts_none _).mono ?_; rintro e w' ⟨rfl, rfl⟩))
  refine (PR.out _ C.out).mono ?_
  rintro e w4 ⟨rfl, C4⟩
  have H4 := Lib.hid ((H1.out.quiet C.out).gone C4 (fun k hk => List.mem_append_right _ hk))
  have hb : Blk w4 b 46 _ := H4.out.get 0 rfl
  have c11 := hb.cell (j := 11) rfl
  clear hb c8 c9 c10 PR P C4
  go_wp2_with (first
    | (go_at_call 49; refine (ownTxns_none _).mono ?_; rintro e w' ⟨rfl, rfl⟩))
  go_ret
  exact ⟨rfl, H4.out.chg⟩

end Go.Proofs.Ytihmegpcbpdipaa
