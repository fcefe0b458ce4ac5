/-
  Four ballots of a law: two that are not up; one that is stale. By an AI agent.
-/
import Derived.Test.YtffpjefecmkfmaaBVtCong
import Derived.Test.YtffpjefecmkfmaaBVtBal
namespace Go.Proofs.Ytffpjefecmkfmaa
open Go.RowKit
namespace Vt

theorem err_out {ds : List BalD} (h : err ds ≠ 0) : out ds = Sup.nil ∧ ch ds = false ∧ jn ds = false := by
  unfold out ch jn
  rw [if_neg h, decide_eq_false h]
  exact ⟨rfl, rfl, rfl⟩

theorem away_two {x y z : Int} {a b : Nat} (ha : a < 3) (hb : b < 3) (hab : a ≠ b) (h1 : [x, y, z].getD a 0 ≠ 1) (h2 : [x, y, z].getD b 0 ≠ 1) : 2 ≤ away [x, y, z] := by
  have e : away [x, y, z] = (if x = 1 then 0 else 1) + (if y = 1 then 0 else 1) + (if z = 1 then 0 else 1) := by
    unfold away
    simp only [List.countP_cons, List.countP_nil]
    by_cases q1 : x = 1 <;> by_cases q2 : y = 1 <;> by_cases q3 : z = 1 <;> simp [q1, q2, q3]
  rw [e]
  have : a = 0 ∨ a = 1 ∨ a = 2 := by omega
  have : b = 0 ∨ b = 1 ∨ b = 2 := by omega
  rcases ‹a = 0 ∨ a = 1 ∨ a = 2› with rfl | rfl | rfl <;> rcases ‹b = 0 ∨ b = 1 ∨ b = 2› with rfl | rfl | rfl <;> simp only [List.getD, List.getElem?_cons_zero, List.getElem?_cons_succ, Option.getD_some] at h1 h2 <;> first | (exact absurd rfl hab) | skip
  all_goals (rw [if_neg h1]; rw [if_neg h2]; omega)

/-- A ballot of such a law is fine. -/
theorem fine_law {ev safe i : Nat} {st : List Int} {u : Value} (h1 : 1 ≤ ev) (h2 : ev ≤ 4611686018427387904) (h3 : 1 ≤ safe) (h4 : safe ≤ ev) (hi : i ≤ 3) (hl : st.length = 3) (hs : ∀ x ∈ st, 1 ≤ x ∧ x ≤ 3) (hm : Sup.many st ≤ 1) :
    fine ⟨true, { baseS ev i with safe := safe, st := st }, u⟩ i 4 = true := by
  unfold fine
  have hok : Sup.Ok { baseS ev i with safe := safe, st := st } := by
    refine ⟨by show (3 : Int) ≤ 3 ∧ (3 : Int) ≤ 16 ∧ (1 : Int) ≤ 1 ∧ (1 : Int) ≤ 16 ∧ (1 : Int) ≤ 2 ∧ (2 : Int) ≤ 256; decide, ⟨h1, h2, h3, h4, ?_, ?_, ?_, ?_, ?_⟩, hs, hm, ?_, ?_, ?_⟩
    · show (0 : Int) ≤ (i : Int); omega
    · show (i : Int) ≤ 3; omega
    · show (5 : Int) ≤ 10; decide
    · show (10 : Int) ≤ 2048; decide
    · show (st.length : Int) = 3; omega
    · show (0 : Int) ≤ 0; decide
    · show (0 : Int) < 2; decide
    · intro _; rfl
  rw [decide_eq_true hok]
  simp [baseS]

/-- What four ballots of a law are. -/
structure Four (ds : List BalD) (H : Nat → Bool) (ev safe : Nat → Nat) (st : Nat → List Int) : Prop where
  len : ds.length = 4
  at_ : ∀ (k : Nat) d, ds[k]? = some d → d.has = H k ∧ d.s = { baseS (ev k) k with safe := safe k, st := st k }

theorem Four.get {ds : List BalD} {H : Nat → Bool} {ev safe : Nat → Nat} {st : Nat → List Int} (h : Four ds H ev safe st) {k : Nat} (hk : k < 4) : ∃ d, ds[k]? = some d ∧ d.has = H k ∧ d.s = { baseS (ev k) k with safe := safe k, st := st k } ∧ sp ds k = { baseS (ev k) k with safe := safe k, st := st k } := by
  have e : ds[k]? = some (ds[k]'(by rw [h.len]; exact hk)) := List.getElem?_eq_getElem _
  obtain ⟨h1, h2⟩ := h.at_ k _ e
  exact ⟨_, e, h1, h2, by rw [sp_at e, h2]⟩

theorem Four.cnt {ds : List BalD} {H : Nat → Bool} {ev safe : Nat → Nat} {st : Nat → List Int} (h : Four ds H ev safe st) {k : Nat} (hk : k < 4) (hH : H k = true) (h1 : 1 ≤ ev k) (h2 : ev k ≤ 4611686018427387904) (h3 : 1 ≤ safe k) (h4 : safe k ≤ ev k) (hl : (st k).length = 3) (hs : ∀ x ∈ st k, 1 ≤ x ∧ x ≤ 3) (hm : Sup.many (st k) ≤ 1) : Vt.cnt ds k = true := by
  obtain ⟨d, e, q1, q2, _⟩ := h.get hk
  rw [cnt_at e, h.len]
  obtain ⟨dh, dsup, du⟩ := d
  simp only at q1 q2
  rw [q1, q2, hH]
  exact fine_law h1 h2 h3 h4 (by omega) hl hs hm

theorem Four.no {ds : List BalD} {H : Nat → Bool} {ev safe : Nat → Nat} {st : Nat → List Int} (h : Four ds H ev safe st) {k : Nat} (hk : k < 4) (hH : H k = false) : Vt.cnt ds k = false := by
  obtain ⟨d, e, q1, _⟩ := h.get hk
  rw [cnt_at e]
  unfold fine
  rw [q1, hH]
  simp

theorem Four.akin {ds : List BalD} {H : Nat → Bool} {ev safe : Nat → Nat} {st : Nat → List Int} (h : Four ds H ev safe st) {i j : Nat} (hi : i < 4) (hj : j < 4) : (sp ds i).akin (sp ds j) = true := by
  obtain ⟨_, _, _, _, e1⟩ := h.get hi
  obtain ⟨_, _, _, _, e2⟩ := h.get hj
  rw [e1, e2]
  rfl

/-- The journal's ballot counts. -/
theorem Four.jour {ds : List BalD} {H : Nat → Bool} {ev safe : Nat → Nat} {st : Nat → List Int} (h : Four ds H ev safe st) (h3 : Vt.cnt ds 3 = true) : jr ds = 3 ∧ guide ds = 3 ∧ err ds = if away (won ds).st ≤ 1 then 0 else 152 := by
  have hj : jr ds = 3 := by unfold jr; rw [h.len]
  obtain ⟨q1, q2⟩ := by_journal (ds := ds) (by rw [h.len]; decide) (by rw [h.len]; decide) (by rw [hj]; exact h3) (fun i hi => by
    have := cnt_lt hi
    rw [h.len] at this
    rw [hj]
    exact h.akin this (by decide))
  exact ⟨hj, by rw [q1, hj], q2⟩

/-- A state of the verdict. -/
theorem Four.state {ds : List BalD} {H : Nat → Bool} {ev safe : Nat → Nat} {st : Nat → List Int} (h : Four ds H ev safe st) (h3 : Vt.cnt ds 3 = true) (hl : (st 3).length = 3) :
    (won ds).st = [if gone ds (sp ds 3) 0 = true then 2 else (st 3).getD 0 0, if gone ds (sp ds 3) 1 = true then 2 else (st 3).getD 1 0, if gone ds (sp ds 3) 2 = true then 2 else (st 3).getD 2 0] := by
  obtain ⟨_, hg, _⟩ := h.jour h3
  obtain ⟨_, _, _, _, e⟩ := h.get (k := 3) (by decide)
  have e3 : (sp ds 3).st = st 3 := by rw [e]
  show stsTo ds (sp ds (guide ds)) _ = _
  rw [hg]
  unfold stsTo
  rw [e3, hl]
  simp [List.range_succ]

theorem two_err {ds : List BalD} {H : Nat → Bool} {e : Nat} {sts : List Int} (h : Four ds H (fun _ => e) (fun _ => 1) (fun _ => sts)) (h1 : 1 ≤ e) (h2 : e ≤ 4611686018427387904) (hl : sts.length = 3) (hs : ∀ x ∈ sts, 1 ≤ x ∧ x ≤ 3) (hm : Sup.many sts ≤ 1) (hH3 : H 3 = true) {a b : Nat} (ha : a < 3) (hb : b < 3) (hab : a ≠ b) (hHa : H a = false) (hB : H b = false ∨ sts.getD b 0 ≠ 1) : err ds = 152 := by
  have c3 := h.cnt (k := 3) (by decide) hH3 h1 h2 (Nat.le_refl 1) h1 hl hs hm
  obtain ⟨_, _, q⟩ := h.jour c3
  have hst := h.state c3 hl
  obtain ⟨_, _, _, _, e3⟩ := h.get (k := 3) (by decide)
  have key : ∀ k, k < 3 → (H k = false ∨ sts.getD k 0 ≠ 1) → (if gone ds (sp ds 3) k = true then 2 else sts.getD k 0) ≠ 1 := fun k hk hx => by
    by_cases hg : gone ds (sp ds 3) k = true
    · rw [if_pos hg]; decide
    · rw [if_neg hg]
      rcases hx with hx | hx
      · intro q1
        apply hg
        have hc := h.no (k := k) (by omega) hx
        unfold gone saw
        rw [hc, e3]
        show (decide (sts.getD k 0 ≠ 2) && !(false && _)) = true
        rw [q1]
        rfl
      · exact hx
  rw [q, hst, if_neg]
  have g : ∀ k, k < 3 → ([if gone ds (sp ds 3) 0 = true then 2 else sts.getD 0 0, if gone ds (sp ds 3) 1 = true then 2 else sts.getD 1 0, if gone ds (sp ds 3) 2 = true then 2 else sts.getD 2 0] : List Int).getD k 0 = if gone ds (sp ds 3) k = true then 2 else sts.getD k 0 := fun k hk => by
    have : k = 0 ∨ k = 1 ∨ k = 2 := by omega
    rcases this with rfl | rfl | rfl <;> rfl
  have := away_two ha hb hab (by rw [g a ha]; exact key a ha (.inl hHa)) (by rw [g b hb]; exact key b hb hB)
  omega

theorem stale_ok {ds : List BalD} {n s old m : Nat} {sts : List Int} (h : Four ds (fun _ => true) (fun k => if k = m then old else n) (fun k => if k = m then old else s) (fun k => if k = m then sts else [1, 1, 1])) (hn : n ≤ 4611686018427387904) (hs1 : 1 ≤ s) (hs2 : s ≤ n) (ho1 : 1 ≤ old) (ho2 : old < s) (hm : m < 3) (hl : sts.length = 3) (hs : ∀ x ∈ sts, 1 ≤ x ∧ x ≤ 3) (hmn : Sup.many sts ≤ 1) :
    err ds = 0 ∧ (out ds).ev = n ∧ (out ds).st.length = 3 ∧ (out ds).st[m]? = some 2 ∧ ch ds = true := by
  have ck : ∀ k, k < 4 → Vt.cnt ds k = true := fun k hk => by
    by_cases e : k = m
    · exact h.cnt hk rfl (by simp only [if_pos e]; exact ho1) (by simp only [if_pos e]; omega) (by simp only [if_pos e]; exact ho1) (by simp only [if_pos e]; exact Nat.le_refl _) (by simp only [if_pos e]; exact hl) (by simp only [if_pos e]; exact hs) (by simp only [if_pos e]; exact hmn)
    · exact h.cnt hk rfl (by simp only [if_neg e]; omega) (by simp only [if_neg e]; exact hn) (by simp only [if_neg e]; exact hs1) (by simp only [if_neg e]; exact hs2) (by simp only [if_neg e]; rfl) (by simp only [if_neg e]; intro x hx; simp at hx; omega) (by simp only [if_neg e]; decide)
  have c3 := ck 3 (by decide)
  have n3 : ¬ (3 : Nat) = m := by omega
  have hst3 : (if 3 = m then sts else [1, 1, 1]) = ([1, 1, 1] : List Int) := if_neg n3
  obtain ⟨hj, hg, q⟩ := h.jour c3
  have hst := h.state c3 (by simp only [if_neg n3]; rfl)
  simp only [if_neg n3] at hst
  have spk : ∀ k, k < 4 → sp ds k = { baseS (if k = m then old else n) k with safe := (if k = m then old else s), st := (if k = m then sts else [1, 1, 1]) } := fun k hk => by
    obtain ⟨_, _, _, _, e⟩ := h.get hk
    exact e
  have e3 := spk 3 (by decide)
  rw [if_neg n3, if_neg n3, if_neg n3] at e3
  have evk : ∀ k, k < 4 → (sp ds k).ev = if k = m then old else n := fun k hk => by rw [spk k hk]; rfl
  have gk : ∀ k, k < 3 → gone ds (sp ds 3) k = decide (k = m) := fun k hk => by
    unfold gone saw
    rw [ck k (by omega), evk k (by omega), e3]
    show (decide (([1, 1, 1] : List Int).getD k 0 ≠ 2) && !(true && decide (s ≤ _))) = _
    have : ([1, 1, 1] : List Int).getD k 0 = 1 := by
      have : k = 0 ∨ k = 1 ∨ k = 2 := by omega
      rcases this with rfl | rfl | rfl <;> rfl
    rw [this]
    by_cases e : k = m
    · rw [if_pos e, decide_eq_false (show ¬ s ≤ old by omega), decide_eq_true e]; rfl
    · rw [if_neg e, decide_eq_true hs2, decide_eq_false e]; rfl
  rw [gk 0 (by decide), gk 1 (by decide), gk 2 (by decide)] at hst
  have hmo : most ds = n := by
    apply Nat.le_antisymm
    · refine mostTo_le (fun i hi => ?_) _
      have := cnt_lt hi
      rw [h.len] at this
      rw [evk i this]
      split <;> omega
    · have := le_most c3
      rw [evk 3 (by decide), if_neg n3] at this
      exact this
  have hst' : (won ds).st.length = 3 ∧ (won ds).st[m]? = some 2 ∧ away (won ds).st = 1 := by
    rw [hst]
    have : m = 0 ∨ m = 1 ∨ m = 2 := by omega
    rcases this with rfl | rfl | rfl <;> exact ⟨rfl, rfl, rfl⟩
  have he : err ds = 0 := by rw [q, hst'.2.2]; rfl
  have ho : out ds = won ds := by unfold out; rw [if_pos he]
  refine ⟨he, ?_, ?_, ?_, ?_⟩
  · rw [ho]; exact hmo
  · rw [ho]; exact hst'.1
  · rw [ho]; exact hst'.2.1
  · unfold ch chTo
    rw [he, hg, e3]
    show (true && (List.range 3).any _) = true
    rw [Bool.true_and, List.any_eq_true]
    refine ⟨m, by simpa using hm, ?_⟩
    rw [← e3, gk m hm]
    exact decide_eq_true rfl

end Vt
end Go.Proofs.Ytffpjefecmkfmaa
