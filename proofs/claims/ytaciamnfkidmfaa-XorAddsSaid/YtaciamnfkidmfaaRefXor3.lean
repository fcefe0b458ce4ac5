/-
  The document's Missing, First, and sums. By an AI agent.
-/
import Derived.Test.YtaciamnfkidmfaaRefXor2
import Derived.Test.YtaciamnfkidmfaaGOwnBytes
namespace Go.Proofs.Ytaciamnfkidmfaa
open Go.RowKit

/-- Rows in a list that the call owns. -/
theorem rws_owned {w : World} {base : Nat} {v : Value} {ds : List RowD} (o : w.ownsRow base 25 1 v ds.length (ds.map (·.v))) (s : ∀ d ∈ ds, Sl w d.v d.bs ∧ By d.bs ∧ d.bs.length ≤ 140737488355328) (hl : ds.length ≤ 140737488355328) : Rws w v ds := by
  rcases o.2 with ⟨rfl, h0⟩ | ⟨g, cap, cur, rfl, hb, hg, _⟩
  · exact .inl ⟨List.eq_nil_of_length_eq_zero h0, _, _, rfl⟩
  · refine .inr ⟨g, 0, cap, rfl, (Array.getElem?_eq_some_iff.1 hg).1, hl, fun i d hi => ?_⟩
    obtain ⟨s1, s2, s3⟩ := s d (List.mem_of_getElem? hi)
    refine ⟨?_, s1, s2, s3⟩
    rw [Nat.zero_add]
    exact ownsRow_cellAt o (by rw [List.getElem?_map, hi]; rfl)

/-- Rows in a list that has just been made. -/
theorem rws_made {w : World} {ds : List RowD} {c : Nat} (s : ∀ d ∈ ds, Sl w d.v d.bs ∧ By d.bs ∧ d.bs.length ≤ 140737488355328) (hl : ds.length ≤ 140737488355328) :
    Rws (w.alloc (.cells (ds.map (·.v)).toArray 25)) (.slice (some ⟨w.heap.size, 0, none⟩) ds.length c) ds := by
  have hb : Blk (w.alloc (.cells (ds.map (·.v)).toArray 25)) w.heap.size 25 (ds.map (·.v)) := Blk.made w _ _
  refine .inr ⟨w.heap.size, 0, c, rfl, hb.lt, hl, fun i d hi => ?_⟩
  obtain ⟨s1, s2, s3⟩ := s d (List.mem_of_getElem? hi)
  exact ⟨by rw [Nat.zero_add]; exact hb.cell (by simp [hi]), s1.chgNil ((Chg.refl _ _).alloc _), s2, s3⟩

theorem Rws.each {w : World} {v : Value} {ds : List RowD} (h : Rws w v ds) : ∀ d ∈ ds, Sl w d.v d.bs ∧ By d.bs ∧ d.bs.length ≤ 140737488355328 := by
  intro d hd
  obtain ⟨i, hi⟩ := List.mem_iff_getElem?.1 hd
  obtain ⟨ao, c, rfl⟩ := h.slice
  obtain ⟨b, o, _, _, R⟩ := h.at hi
  exact ⟨R.sl, R.by_, R.big⟩

theorem erase_next {ds : List RowD} {i k : Nat} {d : RowD} (h : ds[i]? = some d) : (ds.take (i + 1)).eraseIdx k = if i = k then (ds.take i).eraseIdx k else (ds.take i).eraseIdx k ++ [d] := by
  have hil : i < ds.length := (List.getElem?_eq_some_iff.1 h).1
  have hl : (ds.take i).length = i := by simp; omega
  rw [take_snoc h]
  by_cases hk : i = k
  · subst hk
    rw [if_pos rfl, List.eraseIdx_append_of_length_le (by omega), hl, Nat.sub_self, List.eraseIdx_of_length_le (l := ds.take i) (by omega)]
    simp
  · rw [if_neg hk]
    by_cases hlt : k < i
    · rw [List.eraseIdx_append_of_lt_length (by omega)]
    · rw [List.eraseIdx_append_of_length_le (by omega), hl, List.eraseIdx_of_length_le (l := ds.take i) (by omega), List.eraseIdx_of_length_le (l := [d]) (by simp; omega)]

theorem rowsN_erase (ds : List RowD) (k : Nat) : rowsN (ds.eraseIdx k) = (rowsN ds).eraseIdx k := by
  unfold rowsN
  induction ds generalizing k with
  | nil => simp
  | cons d r ih =>
    cases k with
    | zero => simp
    | succ k => simpa using ih k

set_option maxHeartbeats 1000000 in
set_option maxRecDepth 100000 in
theorem refMissing_any (v : Value) (ds : List RowD) (at_ : Int) (w : World) (h : Rws w v ds) (hds : ds.length ≤ 1000000) (hsm : ∀ d ∈ ds, d.bs.length ≤ 1000000) :
    Calls Try.prog 26 #[v, .int .i64 at_] w (Gives w (missVal (rowsN ds) at_) (missErr (rowsN ds) at_)) := by
  obtain ⟨ao, c, rfl⟩ := h.slice
  by_cases hbad : at_ < 0 ∨ (ds.length : Int) ≤ at_ ∨ ds.length < 2
  · have E : Hid (missErr (rowsN ds) at_ = 1) := by show _ = _; unfold missErr; rw [rowsN_length, if_pos hbad]
    have V : Hid (missVal (rowsN ds) at_ = []) := by show _ = _; unfold missVal; rw [rowsN_length, if_pos hbad]
    clear h hsm
    by_cases h1 : at_ < 0
    · go_enter Try.func26, Try.ntmps26
      go_wp2_with fail
      go_ret2
      rw [V.out, E.out]
      exact gives_none _ _ _ (Chg.refl _ _) _ rfl
    · by_cases h2 : (ds.length : Int) ≤ at_
      · go_enter Try.func26, Try.ntmps26
        go_wp2_with fail
        go_ret2
        rw [V.out, E.out]
        exact gives_none _ _ _ (Chg.refl _ _) _ rfl
      · have h3 : (ds.length : Int) < 2 := by omega
        go_enter Try.func26, Try.ntmps26
        go_wp2_with fail
        go_ret2
        rw [V.out, E.out]
        exact gives_none _ _ _ (Chg.refl _ _) _ rfl
  · obtain ⟨k, rfl⟩ := Int.eq_ofNat_of_zero_le (show 0 ≤ at_ by omega)
    have E : Hid (missErr (rowsN ds) k = ofErr (rowsN (ds.eraseIdx k))) := by show _ = _; unfold missErr; rw [rowsN_length, if_neg hbad, rowsN_erase]; rfl
    have V : Hid (missVal (rowsN ds) k = ofVal (rowsN (ds.eraseIdx k))) := by show _ = _; unfold missVal; rw [rowsN_length, if_neg hbad, rowsN_erase]; rfl
    have h1 : ¬ (k : Int) < 0 := by omega
    have h2 : ¬ (ds.length : Int) ≤ k := by omega
    have h3 : ¬ (ds.length : Int) < 2 := by omega
    obtain ⟨j0, ki, kz0, kz1, kz2⟩ := info_parts info_bytes
    replace ki := Lib.hid ki
    replace kz0 := Lib.hid kz0
    replace kz1 := Lib.hid kz1
    replace kz2 := Lib.hid kz2
    have HR := Lib.hid h
    have HS := Lib.hid hsm
    clear h hsm hbad
    go_enter Try.func26, Try.ntmps26
    go_wp2_with fail
    go_loopw [6, 7] (fun m q wr => ∃ i : Nat, i ≤ ds.length ∧ q = .int .i64 i ∧ Hid (wr.ownsRow w.heap.size 25 1 m ((ds.take i).eraseIdx k).length (((ds.take i).eraseIdx k).map (·.v))) ∧ Hid (Chg [] w wr)) (fun _ q _ => ds.length - (intOf q).toNat)
    case atStart => exact ⟨0, Nat.zero_le _, rfl, (show World.ownsRow _ _ _ _ _ _ _ from by simpa using World.ownsRow_nil _ _ _ _), Chg.refl _ _⟩
    case round =>
      obtain ⟨i, hil, rfl, O, D⟩ := hrel
      by_cases hlt : i < ds.length
      · obtain ⟨d, hd⟩ : ∃ d, ds[i]? = some d := ⟨_, List.getElem?_eq_getElem hlt⟩
        have HE := Lib.hid (erase_next (k := k) hd)
        have hi0 : (0 : Int) ≤ i := Int.natCast_nonneg _
        have hi1 : (i : Int) < ds.length := by omega
        by_cases hik : i = k
        · have O2 : Hid (wr.ownsRow w.heap.size 25 1 u6 ((ds.take (i + 1)).eraseIdx k).length (((ds.take (i + 1)).eraseIdx k).map (·.v))) := by
            show World.ownsRow _ _ _ _ _ _ _
            rw [HE.out, if_pos hik]
            exact O.out
          have hb : ((i : Int) == (k : Int)) = true := by simp; omega
          have hb2 : ((i : Int) != (k : Int)) = false := by simp; omega
          clear HE O hd
          go_wp2_with fail
          exact ⟨⟨i + 1, by omega, by go_num, O2, D⟩, by simp [intOf]; omega⟩
        · have hb : ((i : Int) == (k : Int)) = false := beq_false_of_ne (by omega)
          have hb2 : ((i : Int) != (k : Int)) = true := by simp; omega
          obtain ⟨b, o, rfl, hbl, R⟩ := (HR.out.chg D.out).at hd
          have hel := List.length_eraseIdx_le (ds.take i) k
          have hel2 : (ds.take i).length ≤ i := List.length_take_le _ _
          have HE2 : Hid ((ds.take (i + 1)).eraseIdx k = (ds.take i).eraseIdx k ++ [d]) := by show _ = _; rw [HE.out, if_neg hik]
          obtain ⟨eo, ec, hv⟩ := R.sl.slice
          have c0 := R.c0
          rw [hv] at c0
          replace hv := Lib.hid hv
          generalize (ds.take i).eraseIdx k = L at *
          clear HE R hd hik
          go_wp2_with (first
            | (at_builtin; refine wpList_append_three _ rfl (.tmp 30) (.tmp 35) 22 rfl w.heap.size 25 j0 (.slice none 0 0) 1 24 Try.underlying22 ki.out kz0.out kz1.out kz2.out rfl (by decide) u6 L.length _ rfl (O.out.alloc _) ⟨wr.heap.size, 0, none⟩ 1 1 [.slice eo d.bs.length ec] rfl rfl (new_cell _ _ _) (by simp [Value.oneCell']) (by unfold maxLen; omega) (by omega) (by have := D.out.size; simp; omega) ?_; intro v2 wn ol gr nb; have D2 : Hid (Chg [] w wn) := (D.out.alloc _).grown gr.out (fun b hb => .inr (O.out.lt b hb).1); have O2 := Lib.hid ol.out; clear ol gr nb))
          refine ⟨⟨i + 1, by omega, by go_num, ?_, D2⟩, by simp [intOf]; omega⟩
          show World.ownsRow _ _ _ _ _ _ _
          rw [HE2.out, List.length_append, List.map_append, List.map_singleton, hv.out]
          exact O2.out
      · obtain rfl : i = ds.length := by omega
        rw [List.take_length] at O
        have hle : (ds.eraseIdx k).length ≤ ds.length := List.length_eraseIdx_le _ _
        have RW : Rws wr u6 (ds.eraseIdx k) := rws_owned O.out (fun d hd => by
          obtain ⟨s1, s2, s3⟩ := HR.out.each d (List.mem_of_mem_eraseIdx hd)
          exact ⟨s1.chgNil D.out, s2, s3⟩) (by omega)
        have hof := refOf_any _ _ _ RW (by omega) (fun d hd => HS.out d (List.mem_of_mem_eraseIdx hd))
        have HZ := D.out.size
        clear RW O
        go_wp2_with fail
        refine hof.mono ?_
        rintro e w2 ⟨u, rfl, O, D2⟩
        go_wp2_with fail
        go_ret2
        rw [V.out, E.out]
        exact ⟨u, rfl, ownsRow_base O.out HZ, D.out.trans D2.out⟩

end Go.Proofs.Ytaciamnfkidmfaa
