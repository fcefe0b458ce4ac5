/-
  The document's Of, Even, Missing and First. By an AI agent.
-/
import Derived.Test.YtaciamnfkidmfaaRefXor
namespace Go.Proofs.Ytaciamnfkidmfaa
open Go.RowKit

theorem rowsN_nil {ds : List RowD} : rowsN ds = [] ↔ ds.length = 0 := by
  rw [← rowsN_length, List.length_eq_zero_iff]

theorem rowsN_head {ds : List RowD} {d0 : RowD} (h : ds[0]? = some d0) : (rowsN ds).headD [] = nats d0.bs := by
  have := rowsN_get h
  cases hrs : rowsN ds with
  | nil => rw [hrs] at this; simp at this
  | cons x r => rw [hrs] at this; simpa using this

theorem same_lens {ds : List RowD} {d0 : RowD} (h0 : ds[0]? = some d0) (h : sameLen (rowsN ds) = true) : ∀ d ∈ ds, d.bs.length = d0.bs.length := by
  intro d hd
  have := sameLen_iff.1 h _ (List.mem_map.2 ⟨d, hd, rfl⟩)
  rw [rowsN_head h0, nats_length, nats_length] at this
  exact this

/-- What both Ofs are held to. -/
theorem gives_none (w w' : World) (err : Nat) (c : Chg [] w w') (e : Ending) (he : e = .returned (.tuple #[.slice none 0 0, .int .u16 (err : Int)])) : Gives w [] err e w' :=
  ⟨.slice none 0 0, he, World.ownsRow_nil _ _ _ _, c⟩

set_option maxRecDepth 100000 in
theorem refOf_any (v : Value) (ds : List RowD) (w : World) (h : Rws w v ds) (hds : ds.length ≤ 1000000) (hsm : ∀ d ∈ ds, d.bs.length ≤ 1000000) :
    Calls Try.prog 18 #[v] w (Gives w (ofVal (rowsN ds)) (ofErr (rowsN ds))) := by
  obtain ⟨ao, c, rfl⟩ := h.slice
  have HR := Lib.hid h
  have ho := refOne_any _ _ _ h
  have HS := Lib.hid hsm
  clear h hsm
  by_cases h0 : ds.length = 0
  · have E : Hid (ofErr (rowsN ds) = 1) := by show _ = _; unfold ofErr; rw [if_pos (rowsN_nil.2 h0)]
    have V : Hid (ofVal (rowsN ds) = []) := by show _ = _; unfold ofVal; rw [E.out, if_neg (by decide)]
    rw [h0]
    clear ho
    go_enter Try.func18, Try.ntmps18
    go_wp2_with fail
    go_ret2
    rw [V.out, E.out]
    exact gives_none _ _ _ (Chg.refl _ _) _ rfl
  · obtain ⟨d0, hd0⟩ : ∃ d, ds[0]? = some d := ⟨_, List.getElem?_eq_getElem (by omega)⟩
    have hn0 : ((ds.length : Int) == 0) = false := beq_false_of_ne (by omega)
    have hne : ¬ rowsN ds = [] := fun e => h0 (rowsN_nil.1 e)
    cases hs : sameLen (rowsN ds) with
    | false =>
      have E : Hid (ofErr (rowsN ds) = 4) := by show _ = _; unfold ofErr; rw [if_neg hne, if_neg (by rw [hs]; decide)]
      have V : Hid (ofVal (rowsN ds) = []) := by show _ = _; unfold ofVal; rw [E.out, if_neg (by decide)]
      rw [hs] at ho
      clear hs hne
      go_enter Try.func18, Try.ntmps18
      go_wp2_with fail
      refine ho.mono ?_
      rintro e w' ⟨rfl, q, rfl⟩
      go_wp2_with fail
      go_ret2
      rw [V.out, E.out]
      exact gives_none _ _ _ ((Chg.refl _ _).drewN _) _ rfl
    | true =>
      have E : Hid (ofErr (rowsN ds) = 0) := by show _ = _; unfold ofErr; rw [if_neg hne, if_pos hs]
      have V : Hid (ofVal (rowsN ds) = Xr.ors d0.bs.length (rowsN ds)) := by show _ = _; unfold ofVal; rw [E.out, if_pos rfl, rowsN_head hd0, nats_length]
      have hor := fun q => refOr_any _ ds d0.bs.length (w.drewN q) (HR.out.chg ((Chg.refl _ _).drewN _)) (by omega) hds (by have := HS.out d0 (List.mem_of_getElem? hd0); omega) (same_lens hd0 hs)
      rw [hs] at ho
      clear hs hne
      go_enter Try.func18, Try.ntmps18
      go_wp2_with fail
      refine ho.mono ?_
      rintro e w' ⟨rfl, q, rfl⟩
      go_wp2_with fail
      refine (hor q).mono ?_
      rintro e w2 ⟨u, rfl, O, D⟩
      go_wp2_with fail
      go_ret2
      rw [V.out, E.out]
      exact ⟨u, rfl, O, ((Chg.refl _ w).drewN q).trans D.out⟩

set_option maxHeartbeats 400000 in
theorem refNought_any (v : Value) (xs : List Int) (w : World) (h : Sl w v xs) (hby : By xs) (hbig : xs.length ≤ 140737488355328) :
    Calls Try.prog 39 #[v] w fun e w' => e = .returned (.bool ((nats xs).all (· == 0))) ∧ w = w' := by
  obtain ⟨ao, c, rfl⟩ := h.slice
  have H := Lib.hid h
  have HB := Lib.hid hby
  clear h hby
  go_enter Try.func39, Try.ntmps39
  go_wp2_with fail
  go_loop [3] (fun i => ∃ k : Nat, k ≤ xs.length ∧ i = .int .i64 k ∧ Hid (∀ j, j < k → (nats xs).getD j 0 = 0)) (fun i => xs.length - (intOf i).toNat)
  case atStart => exact ⟨0, Nat.zero_le _, rfl, fun j hj => by omega⟩
  case round =>
    obtain ⟨k, hk, rfl, S⟩ := hrel
    by_cases hlt : k < xs.length
    · obtain ⟨g, o, rfl, hg, c0⟩ := sl_cell H.out hlt
      obtain ⟨y, ey, ly, ty⟩ := nats_getD_any HB.out k
      rw [ey] at c0
      have hk0 : (0 : Int) ≤ k := Int.natCast_nonneg _
      have hk1 : (k : Int) < xs.length := by omega
      by_cases hy : y = 0
      · subst hy
        have S2 : Hid (∀ j, j < k + 1 → (nats xs).getD j 0 = 0) := fun j hj => by
          by_cases hjk : j = k
          · rw [hjk]; exact ty
          · exact S.out j (by omega)
        clear ey ty
        rw [show ((0 : Nat) : Int) = 0 from rfl] at c0
        go_wp2_with fail
        exact ⟨⟨k + 1, by omega, by go_num, S2⟩, by simp [intOf]; omega⟩
      · have F : Hid ((nats xs).all (· == 0) = false) := by
          show _ = _
          cases hall : (nats xs).all (· == 0) with
          | false => rfl
          | true =>
            exfalso
            have hl : k < (nats xs).length := by rw [nats_length]; exact hlt
            have := List.all_eq_true.1 hall _ (List.getElem_mem hl)
            rw [List.getD_eq_getElem?_getD, List.getElem?_eq_getElem hl] at ty
            simp at this ty
            omega
        have hy1 : ((y : Int) == 0) = false := by simp; omega
        have hy2 : ((y : Int) != 0) = true := by simp; omega
        clear ey ty
        go_wp2_with fail
        go_ret
        exact ⟨by rw [F.out]; rfl, rfl⟩
    · obtain rfl : k = xs.length := by omega
      have F : Hid ((nats xs).all (· == 0) = true) := by
        refine List.all_eq_true.2 fun y hy => ?_
        obtain ⟨j, hj, rfl⟩ := List.mem_iff_getElem.1 hy
        have := S.out j (by rw [nats_length] at hj; exact hj)
        rw [List.getD_eq_getElem?_getD, List.getElem?_eq_getElem hj] at this
        simpa using this
      go_wp2_with fail
      go_ret
      exact ⟨by rw [F.out]; rfl, rfl⟩

theorem ofVal_bs {rs : List (List Nat)} (h : Xr.Bss rs) : Bs (ofVal rs) := by
  unfold ofVal
  split
  · exact Xr.ors_bs h _
  · intro b hb; cases hb

theorem ofVal_le {ds : List RowD} (hsm : ∀ d ∈ ds, d.bs.length ≤ 1000000) : (ofVal (rowsN ds)).length ≤ 1000000 := by
  unfold ofVal
  split
  · rw [Xr.ors_length]
    cases ds with
    | nil => simp [rowsN]
    | cons d r => simpa [rowsN, nats] using hsm d List.mem_cons_self
  · simp

theorem refEven_any (v : Value) (ds : List RowD) (w : World) (h : Rws w v ds) (hds : ds.length ≤ 1000000) (hsm : ∀ d ∈ ds, d.bs.length ≤ 1000000) :
    Calls Try.prog 19 #[v] w fun e w' => e = .returned (.tuple #[.bool (evenVal (rowsN ds)), .int .u16 ((ofErr (rowsN ds) : Nat) : Int)]) ∧ Hid (Chg [] w w') := by
  have ho := refOf_any _ _ _ h hds hsm
  have hle := ofVal_le hsm
  have HB := Lib.hid (ofVal_bs (rows_bss h))
  have HE : Hid (evenVal (rowsN ds) = (ofErr (rowsN ds) == 0 && (ofVal (rowsN ds)).all (· == 0))) := rfl
  have hE := ofErr_le (rowsN ds)
  generalize ofErr (rowsN ds) = er at *
  generalize ofVal (rowsN ds) = xs at *
  generalize evenVal (rowsN ds) = ev at *
  clear h hsm
  go_enter Try.func19, Try.ntmps19
  go_wp2_with fail
  refine ho.mono ?_
  rintro e w1 ⟨u, rfl, O, D⟩
  by_cases h0 : er = 0
  · subst h0
    have hno := refNought_any u (ints xs) w1 (own_sl O.out) (ints_by HB.out) (by rw [ints_length]; omega)
    rw [nats_ints] at hno
    have HV : Hid (ev = xs.all (· == 0)) := by show _ = _; rw [HE.out]; simp
    rw [show ((0 : Nat) : Int) = 0 from rfl]
    go_wp2_with fail
    refine hno.mono ?_
    rintro e w' ⟨rfl, rfl⟩
    go_wp2_with fail
    go_ret2
    exact ⟨by rw [HV.out]; rfl, D⟩
  · have hr : ((er : Int) == 0) = false := by simp; omega
    have hr2 : ((er : Int) != 0) = true := by simp; omega
    have HV : Hid (ev = false) := by show _ = _; rw [HE.out]; simp [h0]
    go_wp2_with fail
    go_ret2
    exact ⟨by rw [HV.out]; rfl, D⟩

end Go.Proofs.Ytaciamnfkidmfaa
