/-
  XorSolves walked. By an AI agent.
-/
import Derived.Test.YtaciamnfkidmfaaXorTurns
namespace Go.Proofs.Ytaciamnfkidmfaa
open Go.RowKit

theorem fold_set : ∀ (l : List Nat) (k x : Nat), k < l.length → Xr.fold (l.set k x) = Xr.fold l ^^^ l.getD k 0 ^^^ x
  | [], k, x, h => by simp at h
  | y :: l, 0, x, _ => by
    show x ^^^ Xr.fold l = y ^^^ Xr.fold l ^^^ y ^^^ x
    rw [Nat.xor_comm y (Xr.fold l), Nat.xor_assoc (Xr.fold l) y y, Nat.xor_self, Nat.xor_zero, Nat.xor_comm]
  | y :: l, k + 1, x, h => by
    have ih := fold_set l k x (by simpa using h)
    show y ^^^ Xr.fold (l.set k x) = y ^^^ Xr.fold l ^^^ l.getD k 0 ^^^ x
    rw [ih]
    simp only [Nat.xor_assoc]

theorem at_set (rs : List (List Nat)) (k j : Nat) (r : List Nat) : Xr.at_ (rs.set k r) j = (Xr.at_ rs j).set k (r.getD j 0) := by simp [Xr.at_, List.map_set]

theorem at_getD {rs : List (List Nat)} {k j : Nat} (h : k < rs.length) : (Xr.at_ rs j).getD k 0 = (rs.getD k []).getD j 0 := by
  unfold Xr.at_
  rw [List.getD_eq_getElem?_getD, List.getElem?_map, List.getElem?_eq_getElem h]
  rw [List.getD_eq_getElem?_getD (l := rs), List.getElem?_eq_getElem h]
  rfl

/-- A row replaced, and the parity that goes along. -/
theorem ors_set {n k : Nat} {rs : List (List Nat)} (r : List Nat) (h : k < rs.length) : Xr.ors n (rs.set k r ++ [Xr.ors n [Xr.ors n rs, rs.getD k [], r]]) = Xr.noughts n := by
  have e : Xr.ors n (rs.set k r) = Xr.ors n [Xr.ors n rs, rs.getD k [], r] := by
    refine Xr.list_ext (Xr.ors_length _ _) (Xr.ors_length _ _) fun j hj => ?_
    rw [Xr.ors_get _ hj, Xr.ors_get _ hj, at_set, fold_set _ _ _ (by simpa [Xr.at_] using h), at_getD h]
    show _ = Xr.fold [(Xr.ors n rs).getD j 0, (rs.getD k []).getD j 0, r.getD j 0]
    rw [Xr.ors_get _ hj, Xr.fold, Xr.fold, Xr.fold, Xr.fold, Nat.xor_zero, Nat.xor_assoc]
  rw [← e]
  exact Xr.ors_even n _

theorem ors_row {n i : Nat} {rs : List (List Nat)} {r : List Nat} (h : rs[i]? = some r) (hr : r.length = n) (he : Xr.ors n rs = Xr.noughts n) : Xr.ors n (rs.eraseIdx i) = r := by
  obtain ⟨hi, rfl⟩ := List.getElem?_eq_some_iff.1 h
  have e : rs = rs.take i ++ [rs[i]] ++ rs.drop (i + 1) := by
    rw [List.append_assoc, List.singleton_append, ← List.drop_eq_getElem_cons hi, List.take_append_drop]
  rw [List.eraseIdx_eq_take_drop_succ]
  refine Xr.ors_back _ _ _ hr ?_
  rw [← e]
  exact he

theorem err_four {rs : List (List Nat)} (h : ofErr rs ≠ 0) (h0 : rs ≠ []) : ofErr rs = 4 ∧ 1 < rs.length := by
  unfold ofErr at h ⊢
  rw [if_neg h0] at h ⊢
  by_cases hs : sameLen rs = true
  · rw [if_pos hs] at h
    exact absurd rfl h
  · rw [if_neg hs]
    refine ⟨rfl, ?_⟩
    match rs, h0, hs with
    | [r], _, hs => exact absurd (sameLen_ex.2 ⟨r.length, fun x hx => by rw [List.mem_singleton.1 hx]⟩) hs
    | _ :: _ :: _, _, _ => simp

theorem err_zero {rs : List (List Nat)} (h : ofErr rs = 0) : rs ≠ [] ∧ ∃ n, Xr.Len n rs := by
  unfold ofErr at h
  by_cases h0 : rs = []
  · rw [if_pos h0] at h
    exact absurd h (by decide)
  · rw [if_neg h0] at h
    by_cases hs : sameLen rs = true
    · exact ⟨h0, sameLen_ex.1 hs⟩
    · rw [if_neg hs] at h
      exact absurd h (by decide)

set_option maxRecDepth 100000 in
theorem solves_early (v u : Value) (which : Int) (ds : List RowD) (w : World) (h : Rws w v ds) (hc : muchB ds = true ∨ 100 < ds.length) :
    Calls Try.prog 8 #[v, .int .i64 which, u] w fun e w' => e = .returned (.bool true) ∧ Chg [] w w' := by
  obtain ⟨ao, c, rfl⟩ := h.slice
  have hm := much_any _ _ _ h
  clear h
  cases hmb : muchB ds with
  | true =>
    rw [hmb] at hm
    go_enter Try.func8, Try.ntmps8
    go_wp2_with fail
    refine hm.mono ?_
    rintro e w' ⟨rfl, rfl⟩
    go_wp2_with fail
    go_ret
    exact ⟨rfl, Chg.refl _ _⟩
  | false =>
    rw [hmb] at hm
    have hl : (100 : Int) < ds.length := by
      rcases hc with h | h
      · rw [hmb] at h; cases h
      · omega
    go_enter Try.func8, Try.ntmps8
    go_wp2_with fail
    refine hm.mono ?_
    rintro e w' ⟨rfl, rfl⟩
    go_wp2_with fail
    go_ret
    exact ⟨rfl, Chg.refl _ _⟩

set_option maxRecDepth 100000 in
theorem solves_refused (v u : Value) (which : Int) (ds : List RowD) (w : World) (h : Rws w v ds) (hmb : muchB ds = false) (hl : ds.length ≤ 100) (hE : ofErr (rowsN ds) ≠ 0) :
    Calls Try.prog 8 #[v, .int .i64 which, u] w fun e w' => e = .returned (.bool true) ∧ Chg [] w w' := by
  obtain ⟨ao, c, rfl⟩ := h.slice
  have hm := much_any _ _ _ h
  rw [hmb] at hm
  obtain ⟨hn, hsm0⟩ := not_much hmb
  have s1 := of_any _ _ w h (by omega) (fun d hd => by have := hsm0 d hd; omega)
  have hl2 : ¬ (100 : Int) < ds.length := by omega
  clear h
  by_cases h0 : ds.length = 0
  · have hds : ds = [] := List.eq_nil_of_length_eq_zero h0
    subst hds
    rw [show ofErr (rowsN []) = 1 from rfl, show ofVal (rowsN []) = [] from rfl] at s1
    clear hE hl2
    go_enter Try.func8, Try.ntmps8
    go_wp2_with fail
    refine hm.mono ?_
    clear hm
    rintro e w' ⟨rfl, rfl⟩
    go_wp2_with fail
    refine s1.mono ?_
    rintro e w1 ⟨a, rfl, O, D⟩
    go_wp2_with fail
    refine (known_any w1).mono ?_
    rintro e w2 ⟨rfl, C⟩
    go_wp2_with fail
    go_ret
    exact ⟨rfl, D.out.trans C.out⟩
  · obtain ⟨h4, h5⟩ := err_four hE (fun e => h0 (rowsN_nil.1 e))
    rw [rowsN_length] at h5
    rw [h4, ofVal_bad hE] at s1
    have hd0 : ((ds.length : Int) == 0) = false := beq_false_of_ne (by omega)
    have hd1 : (1 : Int) < ds.length := by omega
    clear hE h4
    go_enter Try.func8, Try.ntmps8
    go_wp2_with fail
    refine hm.mono ?_
    clear hm
    rintro e w' ⟨rfl, rfl⟩
    go_wp2_with fail
    refine s1.mono ?_
    rintro e w1 ⟨a, rfl, O, D⟩
    go_wp2_with fail
    refine (known_any w1).mono ?_
    rintro e w2 ⟨rfl, C⟩
    go_wp2_with fail
    go_ret
    exact ⟨rfl, D.out.trans C.out⟩

end Go.Proofs.Ytaciamnfkidmfaa
