/-
  What a vote comes to, in numbers. By an AI agent.
-/
import Derived.Test.YtffpjefecmkfmaaBCrcMath
namespace Go.Proofs.Ytffpjefecmkfmaa
open Go.RowKit

/-- A ballot: u holds its list of states. -/
structure BalD where
  has : Bool
  s : Sup
  u : Value

def Sup.nil : Sup := ⟨0, 0, 0, 0, 0, 0, 0, 0, false, false, [], 0⟩

/-- Two differ in their role at most. -/
def Sup.like (a b : Sup) : Bool := a.id == b.id && a.ev == b.ev && a.safe == b.safe && (a.m == b.m && a.c == b.c && a.t == b.t) && a.ring == b.ring && a.lazy == b.lazy && a.lost == b.lost && a.cur == b.cur && a.st == b.st

namespace Vt

/-- The superblock of a slot. -/
def sp (ds : List BalD) (i : Nat) : Sup := match ds[i]? with
  | some d => d.s
  | none => Sup.nil

/-- A ballot counts. -/
def fine (d : BalD) (i n : Nat) : Bool := d.has && decide d.s.Ok && decide (d.s.m = (n : Int) - 1) && decide (d.s.role = (i : Int))

def cnt (ds : List BalD) (i : Nat) : Bool := match ds[i]? with
  | some d => fine d i ds.length
  | none => false

theorem sp_at {ds : List BalD} {i : Nat} {d : BalD} (h : ds[i]? = some d) : sp ds i = d.s := by unfold sp; rw [h]
theorem cnt_at {ds : List BalD} {i : Nat} {d : BalD} (h : ds[i]? = some d) : cnt ds i = fine d i ds.length := by unfold cnt; rw [h]

theorem cnt_out {ds : List BalD} {i : Nat} (h : ds.length ≤ i) : cnt ds i = false := by unfold cnt; rw [List.getElem?_eq_none h]

theorem cnt_lt {ds : List BalD} {i : Nat} (h : cnt ds i = true) : i < ds.length := Nat.lt_of_not_le fun k => by rw [cnt_out k] at h; cases h

/-- What a ballot that counts is. -/
structure Is (ds : List BalD) (i : Nat) : Prop where
  lt : i < ds.length
  ok : (sp ds i).Ok
  m : (sp ds i).m = (ds.length : Int) - 1
  role : (sp ds i).role = (i : Int)
  has : ∀ d, ds[i]? = some d → d.has = true

theorem cnt_is {ds : List BalD} {i : Nat} (h : cnt ds i = true) : Is ds i := by
  have hl := cnt_lt h
  have he : ds[i]? = some ds[i] := List.getElem?_eq_getElem hl
  rw [cnt_at he] at h
  unfold fine at h
  simp only [Bool.and_eq_true, decide_eq_true_eq] at h
  obtain ⟨⟨⟨h1, h2⟩, h3⟩, h4⟩ := h
  refine ⟨hl, ?_, ?_, ?_, fun d hd => ?_⟩
  · rw [sp_at he]; exact h2
  · rw [sp_at he]; exact h3
  · rw [sp_at he]; exact h4
  · rw [he] at hd
    obtain rfl := Option.some.inj hd
    exact h1

/-- The greatest events of the first ones that count. -/
def mostTo (ds : List BalD) : Nat → Nat
  | 0 => 0
  | j + 1 => if cnt ds j = true then max (mostTo ds j) (sp ds j).ev else mostTo ds j

def most (ds : List BalD) : Nat := mostTo ds ds.length

theorem mostTo_le {ds : List BalD} {B : Nat} (h : ∀ i, cnt ds i = true → (sp ds i).ev ≤ B) : ∀ j, mostTo ds j ≤ B
  | 0 => Nat.zero_le _
  | j + 1 => by
    have := mostTo_le h j
    unfold mostTo
    split
    · have := h j (by assumption); omega
    · exact this

theorem le_mostTo {ds : List BalD} : ∀ {j i : Nat}, i < j → cnt ds i = true → (sp ds i).ev ≤ mostTo ds j
  | 0, i, h, _ => by omega
  | j + 1, i, h, k => by
    unfold mostTo
    by_cases e : i = j
    · subst e
      rw [if_pos k]
      omega
    · have := le_mostTo (show i < j by omega) k
      split <;> omega

theorem le_most {ds : List BalD} {i : Nat} (h : cnt ds i = true) : (sp ds i).ev ≤ most ds := le_mostTo (cnt_lt h) h

theorem mostTo_at {ds : List BalD} : ∀ {j : Nat}, mostTo ds j ≠ 0 → ∃ i, i < j ∧ cnt ds i = true ∧ (sp ds i).ev = mostTo ds j
  | 0, h => absurd rfl h
  | j + 1, h => by
    unfold mostTo at h ⊢
    by_cases hc : cnt ds j = true
    · rw [if_pos hc] at h ⊢
      by_cases hm : mostTo ds j ≤ (sp ds j).ev
      · exact ⟨j, Nat.lt_succ_self _, hc, by omega⟩
      · obtain ⟨i, h1, h2, h3⟩ := mostTo_at (ds := ds) (j := j) (by omega)
        exact ⟨i, by omega, h2, by omega⟩
    · rw [if_neg hc] at h ⊢
      obtain ⟨i, h1, h2, h3⟩ := mostTo_at h
      exact ⟨i, by omega, h2, h3⟩

theorem ev_pos {ds : List BalD} {i : Nat} (h : cnt ds i = true) : 1 ≤ (sp ds i).ev := (cnt_is h).ok.2.1.1

theorem most_zero {ds : List BalD} : most ds = 0 ↔ ∀ i, cnt ds i = false := by
  constructor
  · intro h i
    cases hc : cnt ds i with
    | false => rfl
    | true =>
      have := le_most hc
      have := ev_pos hc
      omega
  · intro h
    apply Classical.byContradiction
    intro k
    obtain ⟨i, _, h2, _⟩ := mostTo_at k
    rw [h i] at h2
    cases h2

def latest (ds : List BalD) (i : Nat) : Bool := cnt ds i && decide ((sp ds i).ev = most ds)

theorem latest_cnt {ds : List BalD} {i : Nat} (h : latest ds i = true) : cnt ds i = true := by
  unfold latest at h
  rw [Bool.and_eq_true] at h
  exact h.1

theorem latest_ev {ds : List BalD} {i : Nat} (h : latest ds i = true) : (sp ds i).ev = most ds := by
  unfold latest at h
  rw [Bool.and_eq_true, decide_eq_true_eq] at h
  exact h.2

/-- Each two of the first n that are asked for are alike. -/
def Agree (ds : List BalD) (p : Nat → Bool) (r : Sup → Sup → Bool) (n : Nat) : Prop := ∀ i, i < n → p i = true → ∀ j, j < i → p j = true → r (sp ds j) (sp ds i) = true

instance (ds : List BalD) (p : Nat → Bool) (r : Sup → Sup → Bool) (n : Nat) : Decidable (Agree ds p r n) := by unfold Agree; infer_instance

/-- One of the latest is not lost. -/
def Alive (ds : List BalD) (n : Nat) : Prop := ∃ i, i < n ∧ latest ds i = true ∧ (sp ds i).lost = false

instance (ds : List BalD) (n : Nat) : Decidable (Alive ds n) := decidable_of_iff (¬ ∀ i, i < n → ¬ (latest ds i = true ∧ (sp ds i).lost = false)) (by
  unfold Alive
  constructor
  · intro h
    apply Classical.byContradiction
    intro k
    exact h fun i hi q => k ⟨i, hi, q⟩
  · rintro ⟨i, hi, q⟩ h
    exact h i hi q)

/-- The slot of the journal. -/
def jr (ds : List BalD) : Nat := ds.length - 1

def orphan (ds : List BalD) : Nat := if Alive ds ds.length then 153 else if Agree ds (latest ds) Sup.like ds.length then 0 else 151

def refusal (ds : List BalD) : Nat := if most ds = 0 then 150 else if Agree ds (cnt ds) Sup.akin ds.length then (if cnt ds (jr ds) = true then 0 else orphan ds) else 151

/-- The first of the latest. -/
def lead (ds : List BalD) : Nat := ((List.range ds.length).find? (latest ds)).getD 0

theorem lead_eq {ds : List BalD} {i : Nat} (h : latest ds i = true) (k : ∀ j, j < i → latest ds j = false) : lead ds = i := by
  have hl := cnt_lt (latest_cnt h)
  unfold lead
  have : (List.range ds.length).find? (latest ds) = some i := by
    rw [List.find?_range_eq_some]
    refine ⟨h, by simpa using hl, fun j hj => by simp [k j hj]⟩
  rw [this]
  rfl

theorem lead_ex {ds : List BalD} (h : most ds ≠ 0) : latest ds (lead ds) = true ∧ ∀ j, j < lead ds → latest ds j = false := by
  obtain ⟨i, _, h2, h3⟩ := mostTo_at h
  have hi : latest ds i = true := by
    unfold latest
    rw [h2, Bool.true_and, decide_eq_true_eq]
    exact h3
  have : ∀ n i, i ≤ n → latest ds i = true → ∃ k, latest ds k = true ∧ ∀ j, j < k → latest ds j = false := by
    intro n
    induction n with
    | zero => intro i hi h; obtain rfl : i = 0 := by omega
              exact ⟨0, h, fun j hj => by omega⟩
    | succ n ih =>
      intro i hi h
      by_cases hx : ∃ j, j < i ∧ latest ds j = true
      · obtain ⟨j, hj, hl⟩ := hx
        exact ih j (by omega) hl
      · refine ⟨i, h, fun j hj => ?_⟩
        cases hl : latest ds j with
        | false => rfl
        | true => exact absurd ⟨j, hj, hl⟩ hx
  obtain ⟨k, h4, h5⟩ := this i i (Nat.le_refl _) hi
  rw [lead_eq h4 h5]
  exact ⟨h4, h5⟩

def guide (ds : List BalD) : Nat := if cnt ds (jr ds) = true then jr ds else lead ds

theorem guide_cnt {ds : List BalD} (h : most ds ≠ 0) : cnt ds (guide ds) = true := by
  unfold guide
  split
  · assumption
  · exact latest_cnt (lead_ex h).1

/-- Whether a member has seen an announcement. -/
def saw (ds : List BalD) (safe m : Nat) : Bool := cnt ds m && decide (safe ≤ (sp ds m).ev)

/-- A member that the guide has, and that is not fit. -/
def gone (ds : List BalD) (g : Sup) (m : Nat) : Bool := decide (g.st.getD m 0 ≠ 2) && !saw ds g.safe m

def stsTo (ds : List BalD) (g : Sup) (j : Nat) : List Int := (List.range g.st.length).map fun m => if m < j ∧ gone ds g m = true then 2 else g.st.getD m 0

def Some1 (n : Nat) (p : Nat → Bool) : Bool := (List.range n).any p

def chTo (ds : List BalD) (g : Sup) (j : Nat) : Bool := (List.range j).any (gone ds g)

def curTo (ds : List BalD) (g : Sup) (j : Nat) : Int := if (List.range j).any (fun m => gone ds g m && decide (g.st.getD m 0 = 3)) = true then 0 else g.cur

/-- The guide's superblock, as far as it is made the verdict's. -/
def vsup (ds : List BalD) (g : Sup) (jn : Bool) (j : Nat) : Sup := ⟨g.id, most ds, g.safe, 0, g.m, g.c, g.t, g.ring, g.lazy, g.lost && !jn, stsTo ds g j, curTo ds g j⟩

theorem stsTo_len (ds : List BalD) (g : Sup) (j : Nat) : (stsTo ds g j).length = g.st.length := by simp [stsTo]

theorem stsTo_zero (ds : List BalD) (g : Sup) : stsTo ds g 0 = g.st := by
  apply List.ext_getElem?
  intro i
  unfold stsTo
  rw [List.getElem?_map]
  by_cases h : i < g.st.length
  · simp [List.getElem?_range h, List.getD, List.getElem?_eq_getElem h]
  · rw [List.getElem?_eq_none (by simpa using h), List.getElem?_eq_none (by omega)]
    rfl

theorem stsTo_succ_gone {ds : List BalD} {g : Sup} {j : Nat} (h : gone ds g j = true) : stsTo ds g (j + 1) = (stsTo ds g j).set j 2 := by
  apply List.ext_getElem?
  intro i
  rw [List.getElem?_set]
  unfold stsTo
  simp only [List.length_map, List.length_range, List.getElem?_map]
  by_cases hi : i < g.st.length
  · rw [List.getElem?_range hi]
    simp only [Option.map_some]
    by_cases e : j = i
    · subst e
      rw [if_pos rfl, if_pos hi, if_pos ⟨Nat.lt_succ_self _, h⟩]
    · rw [if_neg e]
      by_cases hj : i < j
      · simp [hj, show i < j + 1 by omega]
      · simp [hj, show ¬ i < j + 1 by omega]
  · rw [List.getElem?_eq_none (by simpa using hi)]
    by_cases e : j = i
    · subst e
      simp [hi]
    · simp [e]

theorem stsTo_succ {ds : List BalD} {g : Sup} {j : Nat} (h : gone ds g j = false) : stsTo ds g (j + 1) = stsTo ds g j := by
  apply List.ext_getElem?
  intro i
  unfold stsTo
  simp only [List.getElem?_map]
  by_cases hi : i < g.st.length
  · rw [List.getElem?_range hi]
    simp only [Option.map_some]
    by_cases e : j = i
    · subst e
      simp [h]
    · by_cases hj : i < j
      · simp [hj, show i < j + 1 by omega]
      · simp [hj, show ¬ i < j + 1 by omega]
  · rw [List.getElem?_eq_none (by simpa using hi)]
    rfl

theorem stsTo_at {ds : List BalD} {g : Sup} {j : Nat} (h : j < g.st.length) : (stsTo ds g j)[j]? = some (g.st.getD j 0) := by
  unfold stsTo
  rw [List.getElem?_map, List.getElem?_range h]
  simp

theorem chTo_succ (ds : List BalD) (g : Sup) (j : Nat) : chTo ds g (j + 1) = (chTo ds g j || gone ds g j) := by
  unfold chTo
  rw [List.range_succ, List.any_append]
  simp

theorem curTo_succ (ds : List BalD) (g : Sup) (j : Nat) : curTo ds g (j + 1) = if (gone ds g j && decide (g.st.getD j 0 = 3)) = true then 0 else curTo ds g j := by
  unfold curTo
  rw [List.range_succ, List.any_append]
  simp only [List.any_cons, List.any_nil, Bool.or_false, Bool.or_eq_true]
  by_cases h1 : (gone ds g j && decide (g.st.getD j 0 = 3)) = true
  · rw [if_pos (.inr h1), if_pos h1]
  · rw [if_neg h1]
    by_cases h2 : (List.range j).any (fun m => gone ds g m && decide (g.st.getD m 0 = 3)) = true
    · rw [if_pos (.inl h2), if_pos h2]
    · rw [if_neg (fun h => h.elim h2 h1), if_neg h2]

/-- Members that are not up. -/
def away (st : List Int) : Nat := st.countP (· != 1)

/-- The verdict of those that are not refused. -/
def won (ds : List BalD) : Sup := vsup ds (sp ds (guide ds)) (decide (guide ds = jr ds)) (sp ds (guide ds)).st.length

def err (ds : List BalD) : Nat := if 4 ≤ ds.length ∧ ds.length ≤ 17 then (if refusal ds = 0 then (if away (won ds).st ≤ 1 then 0 else 152) else refusal ds) else 1

def out (ds : List BalD) : Sup := if err ds = 0 then won ds else Sup.nil
def ch (ds : List BalD) : Bool := decide (err ds = 0) && chTo ds (sp ds (guide ds)) (sp ds (guide ds)).st.length
def jn (ds : List BalD) : Bool := decide (err ds = 0) && decide (guide ds = jr ds)

end Vt

end Go.Proofs.Ytffpjefecmkfmaa
