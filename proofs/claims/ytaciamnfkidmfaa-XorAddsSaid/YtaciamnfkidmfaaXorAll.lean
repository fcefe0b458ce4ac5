/-
  Rows that are together even, in a list of the call's own. By an AI agent.
-/
import Derived.Test.YtaciamnfkidmfaaXorSolves
namespace Go.Proofs.Ytaciamnfkidmfaa
open Go.RowKit

/-- Rows in a list of the call's own, none of which lies in the list's own block. -/
structure Lst (w0 w : World) (v : Value) (M : Nat) (es : List RowD) : Prop where
  own : w.ownsRow w0.heap.size 25 1 v M (es.map (·.v))
  oks : Oks w es
  off : ∀ d ∈ es, 0 < d.bs.length → ∀ g, v.ownBlock = some g → d.v.ownBlock ≠ some g
  chg : Chg [] w0 w

theorem Lst.quiet {w0 w w' : World} {v : Value} {M : Nat} {es : List RowD} (h : Lst w0 w v M es) (c : Chg [] w w') : Lst w0 w' v M es :=
  ⟨owns_chg h.own c (by simp), h.oks.chg c, h.off, h.chg.trans c⟩

theorem Lst.len {w0 w : World} {v : Value} {M : Nat} {es : List RowD} (h : Lst w0 w v M es) : es.length = M := by
  have := h.own.1
  simpa using this

theorem Lst.rws {w0 w : World} {v : Value} {M : Nat} {es : List RowD} (h : Lst w0 w v M es) (hM : M ≤ 1000) : Rws w v es := by
  have hl := h.len
  subst hl
  exact rws_owned h.own (fun d hd => ⟨(h.oks d hd).1, (h.oks d hd).2.1, by have := (h.oks d hd).2.2; omega⟩) (by omega)

theorem ok_turn {w w' : World} {s : List Nat} {d : RowD} (h : Ok w d) (c : Chg s w w') (hs : 0 < d.bs.length → ∀ g, d.v.ownBlock = some g → g ∉ s) : Ok w' d := by
  refine ⟨?_, h.2⟩
  by_cases h0 : 0 < d.bs.length
  · exact h.1.chg c (hs h0)
  · rcases h.1 with h1 | ⟨b, o, cp, hv, hb, hc⟩
    · exact .inl h1
    · refine .inl ⟨List.eq_nil_of_length_eq_zero (by omega), some ⟨b, o, none⟩, cp, ?_⟩
      rw [hv, show d.bs.length = 0 by omega]

theorem Lst.set {w0 w : World} {g M c : Nat} {es : List RowD} (h : Lst w0 w (.slice (some ⟨g, 0, none⟩) M c) M es) {k : Nat} (hk : k < M) (d : RowD) (hd : Ok w d) (ho : 0 < d.bs.length → d.v.ownBlock ≠ some g) :
    Lst w0 (w.setCell ⟨g, k, none⟩ d.v) (.slice (some ⟨g, 0, none⟩) M c) M (es.set k d) ∧ w.frozen? ⟨g, k, none⟩ = false ∧ ∃ x, w.cell? ⟨g, k, none⟩ = some x := by
  obtain ⟨h1, h2, h3⟩ := owns_set h.own hk d.v
  have hg : w0.heap.size ≤ g := (h.own.lt g rfl).1
  have C1 : Chg [g] w (w.setCell ⟨g, k, none⟩ d.v) := (Chg.refl _ _).setCell (.inl (by simp)) _
  refine ⟨⟨by rw [List.map_set]; exact h1, fun x hx => ?_, fun x hx => ?_, h.chg.setCell (.inr hg) _⟩, h2, h3⟩
  · rcases List.mem_or_eq_of_mem_set hx with hx | rfl
    · exact ok_turn (h.oks x hx) C1 (fun h0 k2 hk2 hm => by
        rw [List.mem_singleton.1 hm] at hk2
        exact h.off x hx h0 g rfl hk2)
    · exact ok_turn hd C1 (fun h0 k2 hk2 hm => by
        rw [List.mem_singleton.1 hm] at hk2
        exact ho h0 hk2)
  · intro h0 g2 hg2
    rcases List.mem_or_eq_of_mem_set hx with hx | rfl
    · exact h.off x hx h0 g2 hg2
    · obtain rfl : g = g2 := by simpa [Value.ownBlock] using hg2
      exact ho h0

/-- All of one length, and even. -/
structure Evn (N : Nat) (es : List RowD) : Prop where
  len : ∀ d ∈ es, d.bs.length = N
  even : Xr.ors N (rowsN es) = Xr.noughts N

theorem evenVal_of {N : Nat} {es : List RowD} (h : Evn N es) (h0 : es ≠ []) : evenVal (rowsN es) = true ∧ ofErr (rowsN es) = 0 := by
  have hne : rowsN es ≠ [] := fun e => h0 (by simpa [rowsN] using e)
  have e1 := ofErr_ok hne (oks_len h.len)
  refine ⟨?_, e1⟩
  unfold evenVal
  rw [e1, ofVal_ok hne (oks_len h.len), h.even, all_noughts]
  rfl

theorem miss_of {N i : Nat} {es : List RowD} {d : RowD} (h : Evn N es) (hi : es[i]? = some d) (h2 : 2 ≤ es.length) : missVal (rowsN es) i = nats d.bs ∧ missErr (rowsN es) i = 0 := by
  have hil : i < es.length := (List.getElem?_eq_some_iff.1 hi).1
  have hbad : ¬ ((i : Int) < 0 ∨ ((rowsN es).length : Int) ≤ i ∨ (rowsN es).length < 2) := by rw [rowsN_length]; omega
  have hlen : Xr.Len N ((rowsN es).eraseIdx i) := fun r hr => oks_len h.len r (List.mem_of_mem_eraseIdx hr)
  have hne : (rowsN es).eraseIdx i ≠ [] := by
    intro e
    have e2 := congrArg List.length e
    rw [List.length_eraseIdx_of_lt (by rw [rowsN_length]; exact hil), rowsN_length, List.length_nil] at e2
    omega
  unfold missVal missErr
  rw [if_neg hbad, if_neg hbad, Int.toNat_natCast, ofVal_ok hne hlen, ofErr_ok hne hlen, ors_row (rowsN_get hi) (by rw [nats_length]; exact h.len d (List.mem_of_getElem? hi)) h.even]
  exact ⟨rfl, rfl⟩

theorem Lst.even_any {w0 w : World} {v : Value} {M N : Nat} {es : List RowD} (h : Lst w0 w v M es) (he : Evn N es) (h0 : 0 < M) (hM : M ≤ 1000) :
    Calls Try.prog 15 #[v] w fun e w' => e = .returned (.tuple #[.bool true, .int .u16 0]) ∧ Hid (Chg [] w w') := by
  have hl := h.len
  have := Go.Proofs.Ytaciamnfkidmfaa.even_any v es w (h.rws hM) (by omega) (fun d hd => (h.oks d hd).2.2)
  obtain ⟨e1, e2⟩ := evenVal_of he (fun e => by rw [e, List.length_nil] at hl; omega)
  rw [e1, e2] at this
  exact this

theorem Lst.miss_any {w0 w : World} {v : Value} {M N i : Nat} {es : List RowD} {d : RowD} (h : Lst w0 w v M es) (he : Evn N es) (hi : es[i]? = some d) (h2 : 2 ≤ M) (hM : M ≤ 1000) :
    Calls Try.prog 25 #[v, .int .i64 i] w fun e w' => ∃ ao c, e = .returned (.tuple #[.slice ao d.bs.length c, .int .u16 0]) ∧ Hid (Sl w' (.slice ao d.bs.length c) d.bs) ∧ Hid (Chg [] w w') := by
  have hl := h.len
  have hil : i < es.length := (List.getElem?_eq_some_iff.1 hi).1
  have := missing_any v es i w (h.rws hM) (by omega) (fun d hd => (h.oks d hd).2.2) (by omega) (fun ao n c e => by rw [e] at h; exact owned_cap h.own)
  obtain ⟨e1, e2⟩ := miss_of he hi (by omega)
  rw [e1, e2] at this
  refine this.mono ?_
  rintro e w' ⟨u, rfl, O, C⟩
  have S := Sl.owned O.out
  rw [ints_nats (h.oks d (List.mem_of_getElem? hi)).2.1] at S
  obtain ⟨ao, c, rfl⟩ := S.slice
  exact ⟨ao, c, rfl, S, C⟩

/-- The row at a place of the list lies in its cell. -/
theorem Lst.cell {w0 w : World} {g M c i : Nat} {es : List RowD} {d : RowD} (h : Lst w0 w (.slice (some ⟨g, 0, none⟩) M c) M es) (hi : es[i]? = some d) : w.cell? ⟨g, i, none⟩ = some d.v :=
  ownsRow_cellAt h.own (by rw [List.getElem?_map, hi]; rfl)

theorem evn_first {N : Nat} {ds : List RowD} {u : Value} (hl : ∀ d ∈ ds, d.bs.length = N) : Evn N (ds ++ [⟨u, ints (Xr.ors N (rowsN ds))⟩]) := by
  refine ⟨fun d hd => ?_, ?_⟩
  · rcases List.mem_append.1 hd with hd | hd
    · exact hl d hd
    · rw [List.mem_singleton.1 hd]
      show (ints _).length = _
      rw [ints_length, Xr.ors_length]
  · rw [rowsN_append]
    show Xr.ors N (rowsN ds ++ [nats (ints (Xr.ors N (rowsN ds)))]) = _
    rw [nats_ints]
    exact Xr.ors_even N _

theorem evn_set {N k : Nat} {ds : List RowD} {u v r0 : Value} {ys zs : List Int} (hl : ∀ d ∈ ds, d.bs.length = N) (hk : ds[k]? = some ⟨r0, zs⟩) (hy : ys.length = N) : Evn N (ds.set k ⟨v, ys⟩ ++ [⟨u, ints (Xr.ors N [Xr.ors N (rowsN ds), nats zs, nats ys])⟩]) := by
  have hkl : k < ds.length := (List.getElem?_eq_some_iff.1 hk).1
  refine ⟨fun d hd => ?_, ?_⟩
  · rcases List.mem_append.1 hd with hd | hd
    · rcases List.mem_or_eq_of_mem_set hd with hd | rfl
      · exact hl d hd
      · exact hy
    · rw [List.mem_singleton.1 hd]
      show (ints _).length = _
      rw [ints_length, Xr.ors_length]
  · rw [rowsN_append]
    show Xr.ors N (rowsN (ds.set k ⟨v, ys⟩) ++ [nats (ints (Xr.ors N [Xr.ors N (rowsN ds), nats zs, nats ys]))]) = _
    rw [nats_ints, show rowsN (ds.set k ⟨v, ys⟩) = (rowsN ds).set k (nats ys) from List.map_set]
    have := ors_set (n := N) (k := k) (rs := rowsN ds) (nats ys) (by rw [rowsN_length]; exact hkl)
    rw [show (rowsN ds).getD k [] = nats zs by rw [List.getD_eq_getElem?_getD, rowsN_get hk]; rfl] at this
    exact this

/-- Patch, of a parity, a row and another in its place. -/
theorem patch_told (a b c : RowD) (N : Nat) (w : World) (h : ∀ d ∈ [a, b, c], Ok w d) (hl : ∀ d ∈ [a, b, c], d.bs.length = N) (hN : N ≤ 1000000) :
    Calls Try.prog 24 #[a.v, b.v, c.v] w fun e w' => ∃ ao cp, e = .returned (.tuple #[.slice ao N cp, .int .u16 0]) ∧ Hid (Ok w' ⟨.slice ao N cp, ints (Xr.ors N [nats a.bs, nats b.bs, nats c.bs])⟩) ∧ Hid (∀ k, (Value.slice ao N cp).ownBlock = some k → w.heap.size ≤ k) ∧ Hid (Chg [] w w') := by
  refine (patch_any a b c w h).mono ?_
  have hne : rowsN [a, b, c] ≠ [] := by simp [rowsN]
  rw [ofErr_ok hne (oks_len hl), ofVal_ok hne (oks_len hl)]
  rintro e w' ⟨u, rfl, O, C⟩
  have o := O.out
  rw [Xr.ors_length] at o
  obtain ⟨ao, cp, rfl⟩ := owns_slice o
  exact ⟨ao, cp, rfl, Ok.own O.out (Xr.ors_bs (oks_bss h) N) (by rw [Xr.ors_length]; exact hN), fun k hk => (o.lt k hk).1, C⟩

end Go.Proofs.Ytaciamnfkidmfaa
