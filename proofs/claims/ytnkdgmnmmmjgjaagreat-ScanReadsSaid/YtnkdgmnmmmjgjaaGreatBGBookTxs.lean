/-
  A book of bytes, of patches and of batches. By an AI agent.
-/
import Derived.Test.YtnkdgmnmmmjgjaaGreatBGPool
import Derived.Test.YtnkdgmnmmmjgjaaGreatBGRackB
import Derived.Test.YtnkdgmnmmmjgjaaGreatBGOwnPts
import Derived.Test.YtnkdgmnmmmjgjaaGreatBGNats
import Derived.Test.YtnkdgmnmmmjgjaaGreatBGOwnTxns
namespace Go.Proofs.YtnkdgmnmmmjgjaaGreat
open Go.RowKit

/-- A list of patches that came out: member, row, and the slice of the bytes; the bytes. -/
abbrev Pm := (Nat × Nat) × (Value × List Value)

def pmSlot (p : Pm) : List Value := [.int .i64 (p.1.1 : Int), .int .i64 (p.1.2 : Int), p.2.1]

/-- The book's cells: bytes and patches. -/
def ptBook (l0 l10 l11 : Value) : List Value := [l0, .slice none 0 0, .slice none 0 0, .slice none 0 0, .slice none 0 0, .slice none 0 0, .slice none 0 0, .slice none 0 0, .slice none 0 0, .slice none 0 0, l10, l11]

def bytesT (lv : Value) (vs : List (Value × List Value)) : Thing := rackT 5 55 lv vs
def ptsRackT (lv : Value) (us : Wides) : Thing := rackWT 3 72 23 lv us
def ptBookT (b : Nat) (l0 l10 l11 : Value) : Thing := blkT b 50 (ptBook l0 l10 l11)

theorem bookBytes_pt {w0 w : World} {ts : List Thing} {e0 : TypeId} {b : Nat} {l0 l10 l11 v : Value} {vs : List (Value × List Value)} {xs : List Value} (h : Side w0 w (ownT e0 v xs :: bytesT l0 vs :: ptBookT b l0 l10 l11 :: ts)) (hl : vs.length ≤ 1000000) :
    Calls Tryz.prog 32 #[.pointer (some ⟨b, 0, none⟩), v] w fun e w' => e = .returned (.tuple #[]) ∧ ∃ l0', Hid (Side w0 w' (bytesT l0' (vs ++ [(v, xs)]) :: ptBookT b l0' l10 l11 :: ts)) :=
  bookBytes_side h rfl hl

set_option maxHeartbeats 2000000 in
set_option maxRecDepth 100000 in
theorem bookPts_side {w0 w : World} {ts : List Thing} {b : Nat} {l0 l10 l11 v : Value} {vs : List (Value × List Value)} {us : Wides} {ps : List Pm}
    (h : Side w0 w (wideT 3 72 v (ps.map pmSlot) :: poolT (ps.map (·.2)) :: bytesT l0 vs :: ptsRackT l10 us :: ptBookT b l0 l10 l11 :: ts)) (hl : vs.length + ps.length ≤ 1000000) (hl2 : us.length ≤ 1000000) :
    Calls Tryz.prog 84 #[.pointer (some ⟨b, 0, none⟩), v] w fun e w' => e = .returned (.tuple #[]) ∧ ∃ l0' l10', Hid (Side w0 w' (bytesT l0' (vs ++ ps.map (·.2)) :: ptsRackT l10' (us ++ [(v, ps.map pmSlot)]) :: ptBookT b l0' l10' l11 :: ts)) := by
  obtain ⟨j0, ki, kz0, kz1, kz2⟩ := info_parts info_ptss
  replace ki := Lib.hid ki
  replace kz0 := Lib.hid kz0
  replace kz1 := Lib.hid kz1
  replace kz2 := Lib.hid kz2
  have hv : OwnW 3 w 0 72 v (ps.map pmSlot) := h.get 0 rfl
  have hr : RackW 3 w 72 23 l10 us := h.get 3 rfl
  have hb : Blk w b 50 (ptBook l0 l10 l11) := h.get 4 rfl
  obtain ⟨vo, vc, hvs⟩ := hv.slice
  rw [List.length_map] at hvs
  subst hvs
  obtain ⟨lo, lc, rfl⟩ := owns_slice hr.own
  have c0 := hb.cell (j := 10) rfl
  have RO := Lib.hid hr.own
  have HV := Lib.hid hv
  have H := Lib.hid (((h.front 3).front 1 : Side w0 w (wideT 3 72 (.slice vo ps.length vc) (ps.map pmSlot) :: ptsRackT (.slice lo us.length lc) us :: poolT (ps.map (·.2)) :: bytesT l0 vs :: ptBookT b l0 (.slice lo us.length lc) l11 :: ts)))
  clear hv hr hb h
  go_enter Tryz.func84, Tryz.ntmps84
  go_wp2_with (with_reducible refine wpList_append_three _ rfl (.tmp 9) (.tmp 11) 47 rfl 0 23 j0 (.slice none 0 0) 1 24 Tryz.underlying47 ki.out kz0.out kz1.out kz2.out rfl (by decide) _ us.length _ rfl (RO.out.alloc _) ⟨w.heap.size, 0, none⟩ 1 1 [.slice vo ps.length vc] rfl rfl (new_cell _ _ _) (by simp [Value.oneCell']) (by unfold maxLen; omega) (by omega) (Nat.zero_le _) ?_)
  intro lv' wn ol gr nb
  have H2 := Lib.hid (H.out.shelveW rfl HV.out ol.out gr.out nb.out)
  have hb2 : Blk wn b 50 (ptBook l0 (.slice lo us.length lc) l11) := H2.out.get 3 rfl
  have c1 : wn.cell? ⟨b, 10, none⟩ = some (.slice lo us.length lc) := hb2.cell rfl
  have f1 := hb2.free 10
  obtain ⟨no, nc, rfl⟩ := owns_slice ol.out
  have H3 : Hid (Side w0 (wn.setCell ⟨b, 10, none⟩ (.slice no (us.length + 1) nc)) (poolT (ps.map (·.2)) :: bytesT l0 vs :: ptBookT b l0 (.slice no (us.length + 1) nc) l11 :: ptsRackT (.slice no (us.length + 1) nc) (us ++ [(.slice vo ps.length vc, ps.map pmSlot)]) :: ts)) := by
    have h3 : Side w0 (wn.setCell ⟨b, 10, none⟩ (.slice no (us.length + 1) nc)) (ptsRackT (.slice no (us.length + 1) nc) (us ++ [(.slice vo ps.length vc, ps.map pmSlot)]) :: poolT (ps.map (·.2)) :: bytesT l0 vs :: ptBookT b l0 (.slice no (us.length + 1) nc) l11 :: ts) :=
      H2.out.turnAt (b := ptBookT b l0 (.slice no (us.length + 1) nc) l11) 3 rfl (s := [b]) ((Chg.refl [b] wn).setCell (p := ⟨b, 10, none⟩) (.inl (by simp)) (.slice no (us.length + 1) nc)) (fun k hk => .inl hk) (hb2.set 10 _) (fun k hk => .inl hk)
    exact ((h3.front 3).front 3).front 3
  clear ol gr nb hb2 H2 H RO c0 HV
  go_wp2_with fail
  generalize (wn.setCell ⟨b, 10, none⟩ (.slice no (us.length + 1) nc)) = wz at *
  go_loopw [4] (fun i wr => ∃ (k : Nat) (l0' : Value), k ≤ ps.length ∧ i = .int .i64 k ∧ Hid (Side w0 wr (poolT ((ps.drop k).map (·.2)) :: bytesT l0' (vs ++ (ps.take k).map (·.2)) :: ptBookT b l0' (.slice no (us.length + 1) nc) l11 :: ptsRackT (.slice no (us.length + 1) nc) (us ++ [(.slice vo ps.length vc, ps.map pmSlot)]) :: ts))) (fun i _ => ps.length - (intOf i).toNat)
  case atStart => exact ⟨0, l0, Nat.zero_le _, rfl, by simpa using H3⟩
  case round =>
    obtain ⟨k, l0', hk, rfl, H4⟩ := hrel
    clear H3
    by_cases hlt : k < ps.length
    · obtain ⟨p, hp⟩ : ∃ p, ps[k]? = some p := ⟨_, List.getElem?_eq_getElem hlt⟩
      have hd : ps.drop k = p :: ps.drop (k + 1) := by
        rw [List.drop_eq_getElem_cons hlt]
        congr 1
        exact Option.some.inj (by rw [← hp, List.getElem?_eq_getElem hlt])
      have HT := Lib.hid (take_snoc hp)
      rw [hd, List.map_cons] at H4
      obtain ⟨e, H5⟩ := H4.out.draw
      have H6 : Hid (Side w0 wr (ownT e p.2.1 p.2.2 :: bytesT l0' (vs ++ (ps.take k).map (·.2)) :: ptBookT b l0' (.slice no (us.length + 1) nc) l11 :: poolT ((ps.drop (k + 1)).map (·.2)) :: ptsRackT (.slice no (us.length + 1) nc) (us ++ [(.slice vo ps.length vc, ps.map pmSlot)]) :: ts)) := ((H5.front 3).front 3).front 2
      have hr : RackW 3 wr 72 23 _ (us ++ [(.slice vo ps.length vc, ps.map pmSlot)]) := H6.out.get 4 rfl
      have ho := hr.row us.length _ _ (by rw [List.getElem?_append_right (Nat.le_refl _), Nat.sub_self]; rfl)
      obtain ⟨g, rfl, hc⟩ := ho.rd.at (k := k) (x := pmSlot p) (by rw [List.getElem?_map, hp]; rfl)
      have c2 := hc 2 _ rfl
      have hk0 : (0 : Int) ≤ k := Int.natCast_nonneg _
      have hk1 : (k : Int) < ps.length := by omega
      clear hr ho hc H5 H4 hd hp
      go_wp2_with fail
      refine (bookBytes_pt H6.out (by rw [List.length_append, List.length_map, List.length_take]; omega)).mono ?_
      rintro e w' ⟨rfl, l0'', H7⟩
      have H8 : Hid (Side w0 w' (poolT ((ps.drop (k + 1)).map (·.2)) :: bytesT l0'' (vs ++ (ps.take (k + 1)).map (·.2)) :: ptBookT b l0'' (.slice no (us.length + 1) nc) l11 :: ptsRackT (.slice no (us.length + 1) nc) (us ++ [(.slice (some ⟨g, 0, none⟩) ps.length vc, ps.map pmSlot)]) :: ts)) := by
        have h := H7.out.front 2
        show Side _ _ _
        rw [HT.out, List.map_append, ← List.append_assoc]
        exact h
      clear H6 H7 c2
      go_wp2_with fail
      exact ⟨⟨k + 1, l0'', by omega, by go_num, H8⟩, by simp [intOf]; omega⟩
    · obtain rfl : k = ps.length := by omega
      go_wp2_with fail
      go_end0
      refine ⟨rfl, l0', .slice no (us.length + 1) nc, ?_⟩
      have h := H4.out
      rw [List.take_length] at h
      have h2 : Side w0 wr (bytesT l0' (vs ++ ps.map (·.2)) :: ptsRackT (.slice no (us.length + 1) nc) (us ++ [(.slice vo ps.length vc, ps.map pmSlot)]) :: ptBookT b l0' (.slice no (us.length + 1) nc) l11 :: ts) := (h.tail.front 2).front 1
      exact h2

theorem ownPts_rack {w : World} {lv : Value} {vs : Wides} (h : RackW 3 w 72 23 lv vs) (hl : vs.length ≤ 1000000) (hlen : ∀ p ∈ vs, p.2.length ≤ 1000000000) :
    Calls Tryz.prog 44 #[lv] w fun e w' => e = .returned (.bool true) ∧ Chg (blocksOf vs) w w' := by
  obtain ⟨lo, lc, rfl⟩ := owns_slice h.own
  rcases h.own.2 with ⟨hv, h0⟩ | ⟨g, cap, cur, hv, _, hg, _⟩
  · obtain ⟨rfl, h1, rfl⟩ : lo = none ∧ vs.length = 0 ∧ lc = 0 := by simpa using hv
    rw [h1]
    exact (ownP_nil none 0 w).mono fun e w' ⟨he, hw⟩ => ⟨he, by rw [← hw]; exact Chg.refl _ _⟩
  · obtain ⟨rfl, rfl⟩ : lo = some ⟨g, 0, none⟩ ∧ lc = cap := by simpa using hv
    exact ownP_any 0 g lc vs w (h.owns (Array.getElem?_eq_some_iff.1 hg).1) hl (Nat.zero_le _) (fun j v xs hj => hlen _ (List.mem_of_getElem? hj))

end Go.Proofs.YtnkdgmnmmmjgjaaGreat
