/-
  A book of bytes, patches and batches: Txns. By an AI agent.
-/
import Derived.Test.YtnkdgmnmmmjgjaaGreatBGBookTxs
namespace Go.Proofs.YtnkdgmnmmmjgjaaGreat
open Go.RowKit

theorem Side.poolSplit {w0 w : World} {ts : List Thing} {us vs : List (Value × List Value)} (h : Side w0 w (poolT (us ++ vs) :: ts)) : Side w0 w (poolT us :: poolT vs :: ts) := by
  have hp : Pool w (us ++ vs) := h.get 0 rfl
  obtain ⟨a1, a2, a3⟩ := List.pairwise_append.1 hp.apart
  refine Side.swap (olds := [poolT (us ++ vs)]) (bs := [poolT us, poolT vs]) h (Chg.refl [] w) (fun k hk => by cases hk) (fun b hb => ?_) (fun b hb k hk => ?_) (List.pairwise_cons.2 ⟨fun b hb k hk hm => ?_, List.pairwise_singleton _ _⟩)
  · rcases List.mem_cons.1 hb with rfl | hb
    · exact ⟨fun q hq => hp.row q (List.mem_append_left _ hq), a1⟩
    · rw [List.mem_singleton.1 hb]
      exact ⟨fun q hq => hp.row q (List.mem_append_right _ hq), a2⟩
  · refine .inl ⟨_, List.mem_singleton.2 rfl, ?_⟩
    show k ∈ rowsOf (us ++ vs)
    rw [rowsOf_append]
    rcases List.mem_cons.1 hb with rfl | hb
    · exact List.mem_append_left _ hk
    · rw [List.mem_singleton.1 hb] at hk
      exact List.mem_append_right _ hk
  · rw [List.mem_singleton.1 hb] at hm
    obtain ⟨j, v, xs, hj, hg⟩ := rowsOf_spec hk
    obtain ⟨j', v', xs', hj', hg'⟩ := rowsOf_spec hm
    exact a3 _ (List.mem_of_getElem? hj) _ (List.mem_of_getElem? hj') k hg hg'

/-- A patch that came out, as the book's. -/
def pmOf (p : Pv) : Pm := ((p.1.m, p.1.r), (p.2, ub p.1.bs))

theorem pmOf_slots (A : List Pv) : (A.map pmOf).map pmSlot = A.map pvSlot := by rw [List.map_map]; rfl
theorem pmOf_rows (A : List Pv) : (A.map pmOf).map (·.2) = A.map pvRow := by rw [List.map_map]; rfl

def txsRackT (lv : Value) (us : Wides) : Thing := rackWT 2 25 59 lv us

set_option maxHeartbeats 4000000 in
set_option maxRecDepth 100000 in
theorem bookTxs_side {w0 w : World} {ts : List Thing} {b sq : Nat} {l0 l10 l11 v : Value} {vs : List (Value × List Value)} {us xs : Wides} {T : List Tx}
    (h : Side w0 w (wideT 2 25 v (txSlots sq T) :: poolWT 3 72 (listsOf T) :: poolT (dataOf T) :: bytesT l0 vs :: ptsRackT l10 us :: txsRackT l11 xs :: ptBookT b l0 l10 l11 :: ts)) (hl : vs.length + (dataOf T).length ≤ 1000000) (hl2 : us.length + T.length ≤ 1000000) (hl3 : xs.length ≤ 1000) :
    Calls Tryz.prog 53 #[.pointer (some ⟨b, 0, none⟩), v] w fun e w' => e = .returned (.tuple #[]) ∧ ∃ l0' l10' l11', Hid (Side w0 w' (bytesT l0' (vs ++ dataOf T) :: ptsRackT l10' (us ++ listsOf T) :: txsRackT l11' (xs ++ [(v, txSlots sq T)]) :: ptBookT b l0' l10' l11' :: ts)) := by
  obtain ⟨j0, ki, kz0, kz1, kz2⟩ := info_parts info_txss
  replace ki := Lib.hid ki
  replace kz0 := Lib.hid kz0
  replace kz1 := Lib.hid kz1
  replace kz2 := Lib.hid kz2
  have hv : OwnW 2 w 0 25 v (txSlots sq T) := h.get 0 rfl
  have hr : RackW 2 w 25 59 l11 xs := h.get 5 rfl
  have hb : Blk w b 50 (ptBook l0 l10 l11) := h.get 6 rfl
  obtain ⟨vo, vc, hvs⟩ := hv.slice
  rw [txSlots_len] at hvs
  subst hvs
  obtain ⟨lo, lc, rfl⟩ := owns_slice hr.own
  have c0 := hb.cell (j := 11) rfl
  have RO := Lib.hid hr.own
  have HV := Lib.hid hv
  have H := Lib.hid ((h.front 5).front 1 : Side w0 w (wideT 2 25 (.slice vo T.length vc) (txSlots sq T) :: txsRackT (.slice lo xs.length lc) xs :: poolWT 3 72 (listsOf T) :: poolT (dataOf T) :: bytesT l0 vs :: ptsRackT l10 us :: ptBookT b l0 l10 (.slice lo xs.length lc) :: ts))
  clear hv hr hb h
  go_enter Tryz.func53, Tryz.ntmps53
  go_wp2_with (with_reducible refine wpList_append_three _ rfl (.tmp 9) (.tmp 11) 48 rfl 0 59 j0 (.slice none 0 0) 1 24 Tryz.underlying48 ki.out kz0.out kz1.out kz2.out rfl (by decide) _ xs.length _ rfl (RO.out.alloc _) ⟨w.heap.size, 0, none⟩ 1 1 [.slice vo T.length vc] rfl rfl (new_cell _ _ _) (by simp [Value.oneCell']) (by unfold maxLen; omega) (by omega) (Nat.zero_le _) ?_)
  intro lv' wn ol gr nb
  have H2 := Lib.hid (H.out.shelveW rfl HV.out ol.out gr.out nb.out)
  have hb2 : Blk wn b 50 (ptBook l0 l10 (.slice lo xs.length lc)) := H2.out.get 5 rfl
  have c1 : wn.cell? ⟨b, 11, none⟩ = some (.slice lo xs.length lc) := hb2.cell rfl
  have f1 := hb2.free 11
  obtain ⟨no, nc, rfl⟩ := owns_slice ol.out
  have H3 : Hid (Side w0 (wn.setCell ⟨b, 11, none⟩ (.slice no (xs.length + 1) nc)) (bytesT l0 vs :: ptsRackT l10 us :: ptBookT b l0 l10 (.slice no (xs.length + 1) nc) :: poolWT 3 72 (listsOf T) :: poolT (dataOf T) :: txsRackT (.slice no (xs.length + 1) nc) (xs ++ [(.slice vo T.length vc, txSlots sq T)]) :: ts)) := by
    have h3 : Side w0 (wn.setCell ⟨b, 11, none⟩ (.slice no (xs.length + 1) nc)) (txsRackT (.slice no (xs.length + 1) nc) (xs ++ [(.slice vo T.length vc, txSlots sq T)]) :: poolWT 3 72 (listsOf T) :: poolT (dataOf T) :: bytesT l0 vs :: ptsRackT l10 us :: ptBookT b l0 l10 (.slice no (xs.length + 1) nc) :: ts) :=
      H2.out.turnAt (b := ptBookT b l0 l10 (.slice no (xs.length + 1) nc)) 5 rfl (s := [b]) ((Chg.refl [b] wn).setCell (p := ⟨b, 11, none⟩) (.inl (by simp)) (.slice no (xs.length + 1) nc)) (fun k hk => .inl hk) (hb2.set 11 _) (fun k hk => .inl hk)
    exact (((((h3.front 2).front 2).front 5).front 5).front 5)
  clear ol gr nb hb2 H2 H RO c0 HV
  go_wp2_with fail
  generalize (wn.setCell ⟨b, 11, none⟩ (.slice no (xs.length + 1) nc)) = wz at *
  go_loopw [4] (fun i wr => ∃ (k : Nat) (l0' l10' : Value), k ≤ T.length ∧ i = .int .i64 k ∧ Hid (Side w0 wr (bytesT l0' (vs ++ (dataOf (T.take k))) :: ptsRackT l10' (us ++ listsOf (T.take k)) :: ptBookT b l0' l10' (.slice no (xs.length + 1) nc) :: poolWT 3 72 (listsOf (T.drop k)) :: poolT (dataOf (T.drop k)) :: txsRackT (.slice no (xs.length + 1) nc) (xs ++ [(.slice vo T.length vc, txSlots sq T)]) :: ts))) (fun i _ => T.length - (intOf i).toNat)
  case atStart => exact ⟨0, l0, l10, Nat.zero_le _, rfl, by simpa [listsOf, dataOf] using H3⟩
  case round =>
    obtain ⟨k, l0', l10', hk, rfl, H4⟩ := hrel
    clear H3
    by_cases hlt : k < T.length
    · obtain ⟨t, ht⟩ : ∃ t, T[k]? = some t := ⟨_, List.getElem?_eq_getElem hlt⟩
      have hd : T.drop k = t :: T.drop (k + 1) := by
        rw [List.drop_eq_getElem_cons hlt]
        congr 1
        exact Option.some.inj (by rw [← ht, List.getElem?_eq_getElem hlt])
      have HT := Lib.hid (take_snoc ht)
      have hdl : (dataOf (T.take k)).length + t.2.length ≤ (dataOf T).length := by
        have e : dataOf T = dataOf (T.take k) ++ (t.2.map pvRow ++ dataOf (T.drop (k + 1))) := by
          conv => lhs; rw [← List.take_append_drop k T, hd]
          simp [dataOf]
        rw [e, List.length_append, List.length_append, List.length_map]
        omega
      have e1 : listsOf (t :: T.drop (k + 1)) = (t.1, t.2.map pvSlot) :: listsOf (T.drop (k + 1)) := rfl
      have e2 : dataOf (t :: T.drop (k + 1)) = t.2.map pvRow ++ dataOf (T.drop (k + 1)) := by simp [dataOf]
      rw [hd, e1, e2] at H4
      have a1 := (H4.out.front 3).drawW
      have a2 := (a1.front 5).poolSplit
      have H6 : Hid (Side w0 wr (wideT 3 72 t.1 ((t.2.map pmOf).map pmSlot) :: poolT ((t.2.map pmOf).map (·.2)) :: bytesT l0' (vs ++ dataOf (T.take k)) :: ptsRackT l10' (us ++ listsOf (T.take k)) :: ptBookT b l0' l10' (.slice no (xs.length + 1) nc) :: poolWT 3 72 (listsOf (T.drop (k + 1))) :: poolT (dataOf (T.drop (k + 1))) :: txsRackT (.slice no (xs.length + 1) nc) (xs ++ [(.slice vo T.length vc, txSlots sq T)]) :: ts)) := by
        rw [pmOf_slots, pmOf_rows]
        exact ((((((a2.front 1).front 3).front 6).front 6).front 6).front 5).front 6
      have hr : RackW 2 wr 25 59 _ (xs ++ [(.slice vo T.length vc, txSlots sq T)]) := H6.out.get 7 rfl
      have ho := hr.row xs.length _ _ (by rw [List.getElem?_append_right (Nat.le_refl _), Nat.sub_self]; rfl)
      obtain ⟨g, rfl, hc⟩ := ho.rd.at (k := k) (x := [.int .u64 ((sq + k : Nat) : Int), t.1]) (by unfold txSlots; rw [List.getElem?_mapIdx, ht]; rfl)
      have c2 := hc 1 _ rfl
      have hk0 : (0 : Int) ≤ k := Int.natCast_nonneg _
      have hk1 : (k : Int) < T.length := by omega
      have B1 : Hid ((vs ++ dataOf (T.take k)).length + (t.2.map pmOf).length ≤ 1000000) := by show _ ≤ _; rw [List.length_append, List.length_map]; omega
      have B2 : Hid ((us ++ listsOf (T.take k)).length ≤ 1000000) := by show _ ≤ _; rw [List.length_append, listsOf, List.length_map, List.length_take]; omega
      obtain ⟨tv, htv⟩ : ∃ tv, tv = t.1 := ⟨_, rfl⟩
      rw [← htv] at c2 H6
      have HTV := Lib.hid htv
      clear hr ho hc H4 hd ht e1 e2 a1 a2 hdl htv
      go_wp2_with fail
      refine (bookPts_side H6.out B1.out B2.out).mono ?_
      rintro e w' ⟨rfl, l0'', l10'', H7⟩
      have H8 : Hid (Side w0 w' (bytesT l0'' (vs ++ (dataOf (T.take (k + 1)))) :: ptsRackT l10'' (us ++ listsOf (T.take (k + 1))) :: ptBookT b l0'' l10'' (.slice no (xs.length + 1) nc) :: poolWT 3 72 (listsOf (T.drop (k + 1))) :: poolT (dataOf (T.drop (k + 1))) :: txsRackT (.slice no (xs.length + 1) nc) (xs ++ [(.slice (some ⟨g, 0, none⟩) T.length vc, txSlots sq T)]) :: ts)) := by
        have h := H7.out
        rw [pmOf_slots, pmOf_rows, HTV.out] at h
        show Side _ _ _
        rw [HT.out, dataOf_snoc, listsOf_snoc, ← List.append_assoc, ← List.append_assoc]
        exact h
      clear H6 H7 c2
      go_wp2_with fail
      exact ⟨⟨k + 1, l0'', l10'', by omega, by go_num, H8⟩, by simp [intOf]; omega⟩
    · obtain rfl : k = T.length := by omega
      go_wp2_with fail
      go_end0
      refine ⟨rfl, l0', l10', .slice no (xs.length + 1) nc, ?_⟩
      have h := H4.out
      rw [List.take_length] at h
      have h2 : Side w0 wr (bytesT l0' (vs ++ dataOf T) :: ptsRackT l10' (us ++ listsOf T) :: ptBookT b l0' l10' (.slice no (xs.length + 1) nc) :: txsRackT (.slice no (xs.length + 1) nc) (xs ++ [(.slice vo T.length vc, txSlots sq T)]) :: ts) := h.sub (.cons_cons _ (.cons_cons _ (.cons_cons _ (.cons _ (.cons _ (List.Sublist.refl _))))))
      exact ((h2.front 3).front 2).front 2

theorem ownTx_rack {w : World} {lv : Value} {vs : Wides} (h : RackW 2 w 25 59 lv vs) (hl : vs.length ≤ 1000) (hlen : ∀ p ∈ vs, p.2.length ≤ 1000000) :
    Calls Tryz.prog 45 #[lv] w fun e w' => e = .returned (.bool true) ∧ Chg (blocksOf vs) w w' := by
  obtain ⟨lo, lc, rfl⟩ := owns_slice h.own
  rcases h.own.2 with ⟨hv, h0⟩ | ⟨g, cap, cur, hv, _, hg, _⟩
  · obtain ⟨rfl, h1, rfl⟩ : lo = none ∧ vs.length = 0 ∧ lc = 0 := by simpa using hv
    rw [h1]
    exact (ownT_nil none 0 w).mono fun e w' ⟨he, hw⟩ => ⟨he, by rw [← hw]; exact Chg.refl _ _⟩
  · obtain ⟨rfl, rfl⟩ : lo = some ⟨g, 0, none⟩ ∧ lc = cap := by simpa using hv
    exact ownT_any 0 g lc vs w (h.owns (Array.getElem?_eq_some_iff.1 hg).1) hl (Nat.zero_le _) (fun j v xs hj => hlen _ (List.mem_of_getElem? hj))

set_option maxHeartbeats 2000000 in
set_option maxRecDepth 100000 in
theorem bookFnd_side {w0 w : World} {ts : List Thing} {b sq nx hd u : Nat} {l0 l10 l11 v : Value} {vs : List (Value × List Value)} {us xs : Wides} {T : List Tx}
    (h : Side w0 w (wideT 2 25 v (txSlots sq T) :: poolWT 3 72 (listsOf T) :: poolT (dataOf T) :: bytesT l0 vs :: ptsRackT l10 us :: txsRackT l11 xs :: ptBookT b l0 l10 l11 :: ts)) (hl : vs.length + (dataOf T).length ≤ 1000000) (hl2 : us.length + T.length ≤ 1000000) (hl3 : xs.length ≤ 1000) :
    Calls Tryz.prog 20 #[.pointer (some ⟨b, 0, none⟩), .agg #[v, .int .u64 (nx : Int), .int .i64 (hd : Int), .int .i64 (u : Int)]] w fun e w' => e = .returned (.tuple #[]) ∧ ∃ l0' l10' l11', Hid (Side w0 w' (bytesT l0' (vs ++ dataOf T) :: ptsRackT l10' (us ++ listsOf T) :: txsRackT l11' (xs ++ [(v, txSlots sq T)]) :: ptBookT b l0' l10' l11' :: ts)) := by
  have hv : OwnW 2 w 0 25 v (txSlots sq T) := h.get 0 rfl
  obtain ⟨vo, vc, rfl⟩ := hv.slice
  have TX := Lib.hid (bookTxs_side (h.quiet ((Chg.refl [] w).alloc (.cells #[.slice vo (txSlots sq T).length vc, .int .u64 (nx : Int), .int .i64 (hd : Int), .int .i64 (u : Int)] 61))) hl hl2 hl3)
  obtain ⟨m, hm⟩ : ∃ m, m = (txSlots sq T).length := ⟨_, rfl⟩
  rw [← hm] at TX ⊢
  have c0 := (Blk.made w [.slice vo m vc, .int .u64 (nx : Int), .int .i64 (hd : Int), .int .i64 (u : Int)] 61).cell (j := 0) rfl
  clear hv h hm
  go_enter Tryz.func20, Tryz.ntmps20
  go_wp2_with fail
  refine TX.out.mono ?_
  rintro e w' ⟨rfl, l0', l10', l11', H7⟩
  clear c0 TX
  go_wp2_with fail
  go_end0
  exact ⟨rfl, l0', l10', l11', H7⟩

set_option maxHeartbeats 2000000 in
set_option maxRecDepth 100000 in
theorem txBook_own {w0 w : World} {ts : List Thing} {b : Nat} {l0 l10 l11 : Value} {vs : List (Value × List Value)} {us xs : Wides} (h : Side w0 w (bytesT l0 vs :: ptsRackT l10 us :: txsRackT l11 xs :: ptBookT b l0 l10 l11 :: ts)) (hl : vs.length ≤ 1000000) (hlen : ∀ p ∈ vs, p.2.length ≤ 140737488355000)
    (hl2 : us.length ≤ 1000000) (hlen2 : ∀ p ∈ us, p.2.length ≤ 1000000000) (hl3 : xs.length ≤ 1000) (hlen3 : ∀ p ∈ xs, p.2.length ≤ 1000000) :
    Calls Tryz.prog 14 #[.pointer (some ⟨b, 0, none⟩)] w fun e w' => e = .returned (.bool true) ∧ Hid (Chg [] w0 w') := by
  have hb : Blk w b 50 (ptBook l0 l10 l11) := h.get 3 rfl
  have hr : Rack w 5 55 l0 vs := h.get 0 rfl
  have hr2 : RackW 3 w 72 23 l10 us := h.get 1 rfl
  have hr3 : RackW 2 w 25 59 l11 xs := h.get 2 rfl
  have s0 := Lib.hid (ownBytes_rack hr hl hlen)
  obtain ⟨o0, k0, rfl⟩ := owns_slice hr.own
  obtain ⟨o2, k2, rfl⟩ := owns_slice hr2.own
  obtain ⟨o3, k3, rfl⟩ := owns_slice hr3.own
  have c0 := hb.cell (j := 0) rfl
  have H := Lib.hid h
  clear hb hr hr2 hr3 h
  go_enter Tryz.func14, Tryz.ntmps14
  go_wp2_with fail
  refine s0.out.mono ?_
  rintro e w1 ⟨rfl, C⟩
  have H1 := Lib.hid (H.out.gone C (fun k hk => List.mem_append_right _ hk))
  clear H C c0 s0
  have hb : Blk w1 b 50 _ := H1.out.get 2 rfl
  have P := Lib.hid hb
  have hr2 : RackW 3 w1 72 23 _ us := H1.out.get 0 rfl
  have PR : Hid (∀ w', Chg [] w1 w' → Calls Tryz.prog 44 #[.slice o2 us.length k2] w' fun e w'' => e = .returned (.bool true) ∧ Chg (blocksOf us) w' w'') := fun w' c => ownPts_rack ((H1.out.quiet c).get 0 rfl : RackW 3 w' 72 23 _ us) hl2 hlen2
  have c1 := hb.cell (j := 1) rfl
  have c2 := hb.cell (j := 2) rfl
  have c3 := hb.cell (j := 3) rfl
  have c4 := hb.cell (j := 4) rfl
  have c5 := hb.cell (j := 5) rfl
  have c6 := hb.cell (j := 6) rfl
  have c7 := hb.cell (j := 7) rfl
  clear hb hr2
  go_wp2_with (first
    | (go_at_call 35; refine (ownTexts_none _).mono ?_; rintro e w' ⟨rfl, rfl⟩)
    | (go_at_call 36; refine (ownInts_none _).mono ?_; rintro e w' ⟨rfl, rfl⟩)
    | (go_at_call 37; refine (ownNumbers_none _).mono ?_; rintro e w' ⟨rfl, rfl⟩)
    | (go_at_call 38; refine (ownErrs_none _).mono ?_; rintro e w' ⟨rfl, rfl⟩)
    | (go_at_call 39; refine (ownSpans_none _).mono ?_; rintro e w' ⟨rfl, rfl⟩)
    | (go_at_call 40; refine (ownStates_none _).mono ?_; rintro e w' ⟨rfl, rfl⟩)
    | (go_at_call 41; refine (ownBools_none _).mono ?_; rintro e w3 ⟨rfl, hc⟩; have C := Lib.hid hc; clear hc c1 c2 c3 c4 c5 c6 c7; have c8 := (P.out.chg C.out (by simp)).cell (j := 8) rfl; have c9 := (P.out.chg C.out (by simp)).cell (j := 9) rfl; have c10 := (P.out.chg C.out (by simp)).cell (j := 10) rfl)
    | (go_at_call 42; refine (ownRows_none _).mono ?_; rintro e w' ⟨rfl, rfl⟩)
    | (go_at_call 43; refine (ownPuts_none _).mono ?_; rintro e w' ⟨rfl, rfl⟩))
  refine (PR.out _ C.out).mono ?_
  rintro e w4 ⟨rfl, C4⟩
  have H4 := Lib.hid ((H1.out.quiet C.out).gone C4 (fun k hk => List.mem_append_right _ hk))
  have hb : Blk w4 b 50 _ := H4.out.get 1 rfl
  have c11 := hb.cell (j := 11) rfl
  have TR : Hid (Calls Tryz.prog 45 #[.slice o3 xs.length k3] w4 fun e w'' => e = .returned (.bool true) ∧ Chg (blocksOf xs) w4 w'') := ownTx_rack (H4.out.get 0 rfl : RackW 2 w4 25 59 _ xs) hl3 hlen3
  clear hb c8 c9 c10 PR P C4
  go_wp2_with fail
  refine TR.out.mono ?_
  rintro e w5 ⟨rfl, C5⟩
  have H5 := Lib.hid (H4.out.gone C5 (fun k hk => List.mem_append_right _ hk))
  clear c11 C5
  go_wp2_with fail
  go_ret
  exact ⟨rfl, H5.out.chg⟩

end Go.Proofs.YtnkdgmnmmmjgjaaGreat
