/-
  XorTurns walked. By an AI agent.
-/
import Derived.Test.YtaciamnfkidmfaaXorGroup
namespace Go.Proofs.Ytaciamnfkidmfaa
open Go.RowKit

theorem rowsN_append (a b : List RowD) : rowsN (a ++ b) = rowsN a ++ rowsN b := by simp [rowsN]

theorem rws_cells {w : World} {b o c : Nat} {ds : List RowD} (h : Rws w (.slice (some ⟨b, o, none⟩) ds.length c) ds) : ∀ j u, (ds.map (·.v))[j]? = some u → w.cell? ⟨b, o + j, none⟩ = some u := by
  intro j u hj
  rw [List.getElem?_map] at hj
  obtain ⟨d, hd, rfl⟩ := Option.map_eq_some_iff.1 hj
  obtain ⟨b', o', he, _, R⟩ := h.at hd
  obtain ⟨rfl, rfl⟩ : b = b' ∧ o = o' := by simpa using he
  exact R.c0

theorem rws_one {w : World} {v : Value} {ds : List RowD} (h : Rws w v ds) : ∀ u ∈ ds.map (·.v), u.oneCell' = true := by
  intro u hu
  obtain ⟨d, hd, rfl⟩ := List.mem_map.1 hu
  obtain ⟨ao, c, e⟩ := (h.each d hd).1.slice
  rw [e]
  rfl

set_option maxHeartbeats 4000000 in
set_option maxRecDepth 100000 in
theorem turns_main (b o c k : Nat) (r at_ : Int) (ds : List RowD) (w : World) (h : Rws w (.slice (some ⟨b, o, none⟩) ds.length c) ds) (hc : ds.length ≤ c) (hmb : muchB ds = false) (hl : ds.length ≤ 1000) (h0 : ds.length ≠ 0)
    (hr : Int.tmod at_ (ds.length : Int) = r) (hk : (if r < 0 then r + (ds.length : Int) else r) = (k : Int)) (hkl : k < ds.length) :
    Calls Try.prog 10 #[.slice (some ⟨b, o, none⟩) ds.length c, .int .i64 at_] w fun e w' => e = .returned (.bool true) ∧ Chg [] w w' := by
  obtain ⟨j0, ki, kz0, kz1, kz2⟩ := info_parts info_bytes
  replace ki := Lib.hid ki
  replace kz0 := Lib.hid kz0
  replace kz1 := Lib.hid kz1
  replace kz2 := Lib.hid kz2
  have hm := much_any _ _ _ h
  rw [hmb] at hm
  obtain ⟨hn, hsm0⟩ := not_much hmb
  have hsm : Hid (∀ d ∈ ds, d.bs.length ≤ 1000000) := fun d hd => by have := hsm0 d hd; omega
  have HR := Lib.hid h
  have hxl := ofVal_le hsm.out
  have HX := Lib.hid (ofVal_bs (rows_bss h))
  have HEL := Lib.hid (ofErr_le (rowsN ds))
  have T1 : Hid (ofErr (rowsN (ds.drop k ++ ds.take k)) = ofErr (rowsN ds)) := by
    show _ = _
    rw [rowsN_append, ofErr_swap, ← rowsN_append, List.take_append_drop]
  have T2 : Hid (ofVal (rowsN (ds.drop k ++ ds.take k)) = ofVal (rowsN ds)) := by
    show _ = _
    rw [rowsN_append, ofVal_swap, ← rowsN_append, List.take_append_drop]
  have s1 := fun w' (D' : Chg [] w w') => of_any _ _ w' (HR.out.chg D') (by omega) hsm.out
  generalize ofVal (rowsN ds) = X at *
  generalize ofErr (rowsN ds) = E at *
  replace s1 := Lib.hid s1
  have d1 : ((ds.length : Int) == 0) = false := beq_false_of_ne (by omega)
  have d2 : ¬ (1000 : Int) < ds.length := by omega
  have d3 : (ds.length : Int) ≠ 0 := by omega
  have hk1 : (k : Int) ≤ ds.length := by omega
  have hk2 : (k : Int) ≤ c := by omega
  have hk0 : (0 : Int) ≤ k := Int.natCast_nonneg _
  have hcc : (ds.length : Int) ≤ c := by omega
  clear h hsm0 hmb
  have hck : ¬ c = k := by omega
  by_cases hneg : r < 0
  · rw [if_pos hneg] at hk
    go_enter Try.func10, Try.ntmps10
    go_wp2_with fail
    refine hm.mono ?_
    clear hm
    rintro e w' ⟨rfl, rfl⟩
    go_wp2_with fail
    refine (s1.out w (Chg.refl _ _)).mono ?_
    rintro e w1 ⟨a, rfl, O, D⟩
    have U : Hid (Outs w1 w.heap.size [outOf a X]) := (Outs.nil w w.heap.size).more D.out O.out (Nat.le_refl _)
    clear O
    go_wp2_with fail
    refine (known_any w1).mono ?_
    rintro e w2 ⟨rfl, C⟩
    replace U := Lib.hid (U.out.quiet C.out)
    replace D := Lib.hid (D.out.trans C.out)
    clear C
    have B0 : Hid (w.heap.size ≤ w2.heap.size) := D.out.size
    have c1 : Hid (∀ j u, ((ds.drop k).map (·.v))[j]? = some u → w2.cell? ((⟨b, o + k, none⟩ : Addr).add j) = some u) := fun j u hj => by
      rw [Addr.add_lit, Nat.add_assoc]
      refine rws_cells (HR.out.chg D.out) (k + j) u ?_
      rw [List.map_drop, List.getElem?_drop] at hj
      exact hj
    have c2 : Hid (∀ w', Chg [] w w' → ∀ j u, ((ds.take k).map (·.v))[j]? = some u → w'.cell? ((⟨b, o, none⟩ : Addr).add j) = some u) := fun w' D' j u hj => by
      rw [Addr.add_lit]
      refine rws_cells (HR.out.chg D') j u ?_
      rw [List.map_take, List.getElem?_take] at hj
      split at hj
      · exact hj
      · cases hj
    have o1 : Hid (∀ u ∈ (ds.drop k).map (·.v), u.oneCell' = true) := fun u hu => rws_one HR.out u (by
      obtain ⟨d, hd, e⟩ := List.mem_map.1 hu
      exact List.mem_map.2 ⟨d, List.mem_of_mem_drop hd, e⟩)
    have o2 : Hid (∀ u ∈ (ds.take k).map (·.v), u.oneCell' = true) := fun u hu => rws_one HR.out u (by
      obtain ⟨d, hd, e⟩ := List.mem_map.1 hu
      exact List.mem_map.2 ⟨d, List.mem_of_mem_take hd, e⟩)
    have l1 : Hid (((ds.drop k).map (·.v)).length = (ds.length - k) * 1) := by show _ = _; simp
    have l2 : Hid (((ds.take k).map (·.v)).length = k * 1) := by show _ = _; simp; omega
    go_wp2_with (first
      | (at_builtin; refine wpList_append_three _ rfl (.tmp 45) (.tmp 48) 22 rfl w2.heap.size 25 j0 (.slice none 0 0) 1 24 Try.underlying22 ki.out kz0.out kz1.out kz2.out rfl (by decide) _ 0 [] rfl (World.ownsRow_nil _ _ _ _) ⟨b, o + k, none⟩ (ds.length - k) (c - k) ((ds.drop k).map (·.v)) rfl l1.out c1.out o1.out (by unfold maxLen; omega) (by omega) (Nat.le_refl _) ?_; intro v1 w3 ol gr nb; have C3 : Hid (Chg [] w2 w3) := (Chg.refl _ _).grown gr.out (fun b hb => by cases hb); have O3 := Lib.hid ol.out; have D3 := Lib.hid (D.out.trans C3.out); have B3 := Lib.hid C3.out.size; clear ol gr nb)
      | (at_builtin; refine wpList_append_three _ rfl (.tmp 50) (.tmp 53) 22 rfl w2.heap.size 25 j0 (.slice none 0 0) 1 24 Try.underlying22 ki.out kz0.out kz1.out kz2.out rfl (by decide) v1 (0 + (ds.length - k)) _ rfl O3.out ⟨b, o, none⟩ k c ((ds.take k).map (·.v)) rfl l2.out (c2.out w3 D3.out) o2.out (by unfold maxLen; omega) (by omega) B3.out ?_; intro v2 w4 ol gr nb; have D4 : Hid (Chg [] w w4) := D3.out.grown gr.out (fun b hb => .inr (Nat.le_trans B0.out (O3.out.lt b hb).1)); have G4 := Lib.hid (chg_of_grown gr.out); have N4 := Lib.hid nb.out; have O4 := Lib.hid ol.out; clear ol gr nb))
    replace U : Hid (Outs w4 w.heap.size [outOf a X]) := (U.out.quiet C3.out).chg G4.out (fun p hp g hg hm => by
      have h1 := (U.out.lt hp hg).2
      have h2 := (O3.out.lt g (by simpa using hm)).1
      omega)
    have hlen : 0 + (ds.length - k) + k = (ds.drop k ++ ds.take k).length := by simp; omega
    have RW : Rws w4 v2 (ds.drop k ++ ds.take k) := by
      have o4 := O4.out
      rw [hlen, List.nil_append, ← List.map_append] at o4
      refine rws_owned o4 (fun d hd => ?_) (by simp; omega)
      have hd2 : d ∈ ds := by
        rcases List.mem_append.1 hd with hd | hd
        · exact List.mem_of_mem_drop hd
        · exact List.mem_of_mem_take hd
      obtain ⟨q1, q2, q3⟩ := HR.out.each d hd2
      exact ⟨q1.chgNil D4.out, q2, q3⟩
    have s2 := of_any v2 _ w4 RW (by simp; omega) (fun d hd => by
      rcases List.mem_append.1 hd with hd | hd
      · exact hsm.out d (List.mem_of_mem_drop hd)
      · exact hsm.out d (List.mem_of_mem_take hd))
    rw [T1.out, T2.out] at s2
    have B4 : Hid (w.heap.size ≤ w4.heap.size) := D4.out.size
    clear RW hlen O4 N4 G4 O3 C3 D3 B3 c1 c2 o1 o2 l1 l2 D B0
    refine s2.mono ?_
    clear s2
    rintro e w5 ⟨a2, rfl, O, C⟩
    replace U : Hid (Outs w5 w.heap.size [outOf a X, outOf a2 X]) := U.out.more C.out O.out B4.out
    have D5 := Lib.hid (D4.out.trans C.out)
    clear O C
    have hxi : (ints X).length ≤ 140737488355328 := by rw [ints_length]; omega
    go_wp2_with fail
    refine (same_true _ _ (ints X) w5 (U.out.sl (by simp)) (U.out.sl (by simp)) hxi).mono ?_
    rintro e w6 ⟨rfl, q, hw⟩
    have C : Hid (Chg [] w5 w6) := by rw [hw]; exact (Chg.refl [] _).drewN _
    clear hw
    go_wp2_with fail
    go_ret
    exact ⟨rfl, D5.out.trans C.out⟩
  · rw [if_neg hneg] at hk
    subst hk
    go_enter Try.func10, Try.ntmps10
    go_wp2_with fail
    refine hm.mono ?_
    clear hm
    rintro e w' ⟨rfl, rfl⟩
    go_wp2_with fail
    refine (s1.out w (Chg.refl _ _)).mono ?_
    rintro e w1 ⟨a, rfl, O, D⟩
    have U : Hid (Outs w1 w.heap.size [outOf a X]) := (Outs.nil w w.heap.size).more D.out O.out (Nat.le_refl _)
    clear O
    go_wp2_with fail
    refine (known_any w1).mono ?_
    rintro e w2 ⟨rfl, C⟩
    replace U := Lib.hid (U.out.quiet C.out)
    replace D := Lib.hid (D.out.trans C.out)
    clear C
    have B0 : Hid (w.heap.size ≤ w2.heap.size) := D.out.size
    have c1 : Hid (∀ j u, ((ds.drop k).map (·.v))[j]? = some u → w2.cell? ((⟨b, o + k, none⟩ : Addr).add j) = some u) := fun j u hj => by
      rw [Addr.add_lit, Nat.add_assoc]
      refine rws_cells (HR.out.chg D.out) (k + j) u ?_
      rw [List.map_drop, List.getElem?_drop] at hj
      exact hj
    have c2 : Hid (∀ w', Chg [] w w' → ∀ j u, ((ds.take k).map (·.v))[j]? = some u → w'.cell? ((⟨b, o, none⟩ : Addr).add j) = some u) := fun w' D' j u hj => by
      rw [Addr.add_lit]
      refine rws_cells (HR.out.chg D') j u ?_
      rw [List.map_take, List.getElem?_take] at hj
      split at hj
      · exact hj
      · cases hj
    have o1 : Hid (∀ u ∈ (ds.drop k).map (·.v), u.oneCell' = true) := fun u hu => rws_one HR.out u (by
      obtain ⟨d, hd, e⟩ := List.mem_map.1 hu
      exact List.mem_map.2 ⟨d, List.mem_of_mem_drop hd, e⟩)
    have o2 : Hid (∀ u ∈ (ds.take k).map (·.v), u.oneCell' = true) := fun u hu => rws_one HR.out u (by
      obtain ⟨d, hd, e⟩ := List.mem_map.1 hu
      exact List.mem_map.2 ⟨d, List.mem_of_mem_take hd, e⟩)
    have l1 : Hid (((ds.drop k).map (·.v)).length = (ds.length - k) * 1) := by show _ = _; simp
    have l2 : Hid (((ds.take k).map (·.v)).length = k * 1) := by show _ = _; simp; omega
    go_wp2_with (first
      | (at_builtin; refine wpList_append_three _ rfl (.tmp 45) (.tmp 48) 22 rfl w2.heap.size 25 j0 (.slice none 0 0) 1 24 Try.underlying22 ki.out kz0.out kz1.out kz2.out rfl (by decide) _ 0 [] rfl (World.ownsRow_nil _ _ _ _) ⟨b, o + k, none⟩ (ds.length - k) (c - k) ((ds.drop k).map (·.v)) rfl l1.out c1.out o1.out (by unfold maxLen; omega) (by omega) (Nat.le_refl _) ?_; intro v1 w3 ol gr nb; have C3 : Hid (Chg [] w2 w3) := (Chg.refl _ _).grown gr.out (fun b hb => by cases hb); have O3 := Lib.hid ol.out; have D3 := Lib.hid (D.out.trans C3.out); have B3 := Lib.hid C3.out.size; clear ol gr nb)
      | (at_builtin; refine wpList_append_three _ rfl (.tmp 50) (.tmp 53) 22 rfl w2.heap.size 25 j0 (.slice none 0 0) 1 24 Try.underlying22 ki.out kz0.out kz1.out kz2.out rfl (by decide) v1 (0 + (ds.length - k)) _ rfl O3.out ⟨b, o, none⟩ k c ((ds.take k).map (·.v)) rfl l2.out (c2.out w3 D3.out) o2.out (by unfold maxLen; omega) (by omega) B3.out ?_; intro v2 w4 ol gr nb; have D4 : Hid (Chg [] w w4) := D3.out.grown gr.out (fun b hb => .inr (Nat.le_trans B0.out (O3.out.lt b hb).1)); have G4 := Lib.hid (chg_of_grown gr.out); have N4 := Lib.hid nb.out; have O4 := Lib.hid ol.out; clear ol gr nb))
    replace U : Hid (Outs w4 w.heap.size [outOf a X]) := (U.out.quiet C3.out).chg G4.out (fun p hp g hg hm => by
      have h1 := (U.out.lt hp hg).2
      have h2 := (O3.out.lt g (by simpa using hm)).1
      omega)
    have hlen : 0 + (ds.length - k) + k = (ds.drop k ++ ds.take k).length := by simp; omega
    have RW : Rws w4 v2 (ds.drop k ++ ds.take k) := by
      have o4 := O4.out
      rw [hlen, List.nil_append, ← List.map_append] at o4
      refine rws_owned o4 (fun d hd => ?_) (by simp; omega)
      have hd2 : d ∈ ds := by
        rcases List.mem_append.1 hd with hd | hd
        · exact List.mem_of_mem_drop hd
        · exact List.mem_of_mem_take hd
      obtain ⟨q1, q2, q3⟩ := HR.out.each d hd2
      exact ⟨q1.chgNil D4.out, q2, q3⟩
    have s2 := of_any v2 _ w4 RW (by simp; omega) (fun d hd => by
      rcases List.mem_append.1 hd with hd | hd
      · exact hsm.out d (List.mem_of_mem_drop hd)
      · exact hsm.out d (List.mem_of_mem_take hd))
    rw [T1.out, T2.out] at s2
    have B4 : Hid (w.heap.size ≤ w4.heap.size) := D4.out.size
    clear RW hlen O4 N4 G4 O3 C3 D3 B3 c1 c2 o1 o2 l1 l2 D B0
    refine s2.mono ?_
    clear s2
    rintro e w5 ⟨a2, rfl, O, C⟩
    replace U : Hid (Outs w5 w.heap.size [outOf a X, outOf a2 X]) := U.out.more C.out O.out B4.out
    have D5 := Lib.hid (D4.out.trans C.out)
    clear O C
    have hxi : (ints X).length ≤ 140737488355328 := by rw [ints_length]; omega
    go_wp2_with fail
    refine (same_true _ _ (ints X) w5 (U.out.sl (by simp)) (U.out.sl (by simp)) hxi).mono ?_
    rintro e w6 ⟨rfl, q, hw⟩
    have C : Hid (Chg [] w5 w6) := by rw [hw]; exact (Chg.refl [] _).drewN _
    clear hw
    go_wp2_with fail
    go_ret
    exact ⟨rfl, D5.out.trans C.out⟩

set_option maxRecDepth 100000 in
theorem turns_walk (v : Value) (at_ : Int) (ds : List RowD) (w : World) (h : Rws w v ds) (hc : ∀ ao n c, v = .slice ao n c → n ≤ c) :
    Calls Try.prog 10 #[v, .int .i64 at_] w fun e w' => e = .returned (.bool true) ∧ Chg [] w w' := by
  obtain ⟨ao, c, rfl⟩ := h.slice
  have hcc := hc _ _ _ rfl
  have hm := much_any _ _ _ h
  cases hmb : muchB ds with
  | true =>
    rw [hmb] at hm
    clear h
    go_enter Try.func10, Try.ntmps10
    go_wp2_with fail
    refine hm.mono ?_
    rintro e w' ⟨rfl, rfl⟩
    go_wp2_with fail
    go_ret
    exact ⟨rfl, Chg.refl _ _⟩
  | false =>
    by_cases hl : ds.length ≤ 1000
    · by_cases h0 : ds.length = 0
      · rw [hmb] at hm
        have hds : ds = [] := List.eq_nil_of_length_eq_zero h0
        subst hds
        have s1 := of_any _ _ w h (by simp) (fun d hd => by cases hd)
        rw [show ofErr (rowsN []) = 1 from rfl, show ofVal (rowsN []) = [] from rfl] at s1
        clear h
        go_enter Try.func10, Try.ntmps10
        go_wp2_with fail
        refine hm.mono ?_
        clear hm
        rintro e w' ⟨rfl, rfl⟩
        go_wp2_with fail
        refine s1.mono ?_
        rintro e w1 ⟨a, rfl, O, D⟩
        obtain ⟨a1, a2, ha⟩ : ∃ a1 a2, a = .slice a1 0 a2 := owns_slice O.out
        subst ha
        go_wp2_with fail
        refine (known_any w1).mono ?_
        rintro e w2 ⟨rfl, C⟩
        go_wp2_with fail
        go_ret
        exact ⟨rfl, D.out.trans C.out⟩
      · rcases h with ⟨rfl, _⟩ | ⟨b, o, c', hv, hb, hle, hcl⟩
        · exact absurd rfl h0
        · obtain ⟨rfl, -, rfl⟩ : ao = some ⟨b, o, none⟩ ∧ ds.length = ds.length ∧ c = c' := by simpa using hv
          have hlo := Int.lt_tmod_of_pos at_ (show (0 : Int) < (ds.length : Int) by omega)
          have hhi := Int.tmod_lt_of_pos at_ (show (0 : Int) < (ds.length : Int) by omega)
          obtain ⟨r, hr⟩ : ∃ r, Int.tmod at_ (ds.length : Int) = r := ⟨_, rfl⟩
          rw [hr] at hlo hhi
          obtain ⟨k, hk⟩ := Int.eq_ofNat_of_zero_le (show 0 ≤ (if r < 0 then r + (ds.length : Int) else r) by split <;> omega)
          have hkl : k < ds.length := by split at hk <;> omega
          exact turns_main b o c k r at_ ds w (.inr ⟨b, o, c, rfl, hb, hle, hcl⟩) hcc hmb hl h0 hr hk hkl
    · rw [hmb] at hm
      have hl2 : (1000 : Int) < ds.length := by omega
      clear h
      go_enter Try.func10, Try.ntmps10
      go_wp2_with fail
      refine hm.mono ?_
      rintro e w' ⟨rfl, rfl⟩
      go_wp2_with fail
      go_ret
      exact ⟨rfl, Chg.refl _ _⟩

end Go.Proofs.Ytaciamnfkidmfaa
