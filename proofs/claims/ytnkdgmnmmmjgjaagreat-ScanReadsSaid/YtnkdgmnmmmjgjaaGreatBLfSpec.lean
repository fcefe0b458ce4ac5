/-
  What a lift does, in numbers. No function of the program is named here. By an AI agent.
-/
import Derived.Test.YtnkdgmnmmmjgjaaGreatRows
namespace Go.Proofs.YtnkdgmnmmmjgjaaGreat

/-- A patch: its member, its row, its bytes. -/
structure Pd where
  m : Nat
  r : Nat
  bs : List Nat

namespace Lf

/-- Ahead of it: by row, then by member. -/
def lt (p q : Pd) : Prop := p.r < q.r ∨ (p.r = q.r ∧ p.m < q.m)

instance (p q : Pd) : Decidable (lt p q) := by unfold lt; infer_instance

/-- Of the same place. -/
def same (p q : Pd) : Prop := p.m = q.m ∧ p.r = q.r

instance (p q : Pd) : Decidable (same p q) := by unfold same; infer_instance

theorem lt_irrefl (p : Pd) : ¬ lt p p := by unfold lt; omega
theorem lt_trans {p q s : Pd} (h : lt p q) (k : lt q s) : lt p s := by unfold lt at *; omega
theorem lt_asymm {p q : Pd} (h : lt p q) : ¬ lt q p := by unfold lt at *; omega
theorem tri (p q : Pd) : lt p q ∨ same p q ∨ lt q p := by unfold lt same; omega
theorem not_same_of_lt {p q : Pd} (h : lt p q) : ¬ same p q := by unfold lt same at *; omega
theorem same_symm {p q : Pd} (h : same p q) : same q p := by unfold same at *; omega
theorem same_refl (p : Pd) : same p p := ⟨rfl, rfl⟩
theorem same_trans {p q s : Pd} (h : same p q) (k : same q s) : same p s := by unfold same at *; omega
theorem lt_same {p q s : Pd} (h : lt p q) (k : same q s) : lt p s := by unfold lt same at *; omega
theorem same_lt {p q s : Pd} (h : same p q) (k : lt q s) : lt p s := by unfold lt same at *; omega

/-- Sorted: what a lift holds, as a list. -/
def Srt (S : List Pd) : Prop := S.Pairwise lt

theorem Srt.ne {S : List Pd} (h : Srt S) {p q : Pd} (hp : p ∈ S) (hq : q ∈ S) (hs : same p q) : p = q := by
  induction S with
  | nil => cases hp
  | cons a S ih =>
    obtain ⟨h1, h2⟩ := List.pairwise_cons.1 h
    rcases List.mem_cons.1 hp with e | hp2
    · rcases List.mem_cons.1 hq with f | hq2
      · rw [e, f]
      · exact absurd hs (by rw [e]; exact not_same_of_lt (h1 q hq2))
    · rcases List.mem_cons.1 hq with f | hq2
      · exact absurd (same_symm hs) (by rw [f]; exact not_same_of_lt (h1 p hp2))
      · exact ih h2 hp2 hq2

/-- Two that hold the same are the same. -/
theorem Srt.ext : ∀ {S T : List Pd}, Srt S → Srt T → (∀ x, x ∈ S ↔ x ∈ T) → S = T
  | [], [], _, _, _ => rfl
  | [], b :: T, _, _, h => by have := (h b).2 List.mem_cons_self; cases this
  | a :: S, [], _, _, h => by have := (h a).1 List.mem_cons_self; cases this
  | a :: S, b :: T, hS, hT, h => by
    obtain ⟨a1, a2⟩ := List.pairwise_cons.1 hS
    obtain ⟨b1, b2⟩ := List.pairwise_cons.1 hT
    have hab : a = b := by
      rcases List.mem_cons.1 ((h a).1 List.mem_cons_self) with e | e
      · exact e
      · rcases List.mem_cons.1 ((h b).2 List.mem_cons_self) with f | f
        · exact f.symm
        · exact absurd (a1 b f) (lt_asymm (b1 a e))
    subst hab
    congr 1
    refine Srt.ext a2 b2 fun x => ⟨fun hx => ?_, fun hx => ?_⟩
    · rcases List.mem_cons.1 ((h x).1 (List.mem_cons_of_mem _ hx)) with e | e
      · exact absurd (a1 x hx) (by rw [e]; exact lt_irrefl _)
      · exact e
    · rcases List.mem_cons.1 ((h x).2 (List.mem_cons_of_mem _ hx)) with e | e
      · exact absurd (b1 x hx) (by rw [e]; exact lt_irrefl _)
      · exact e

/-- One put in: in the place of one of the same place. -/
def ins (p : Pd) : List Pd → List Pd
  | [] => [p]
  | q :: S => if lt p q then p :: q :: S else if lt q p then q :: ins p S else p :: S

theorem mem_ins {p x : Pd} : ∀ {S : List Pd}, Srt S → (x ∈ ins p S ↔ x = p ∨ (x ∈ S ∧ ¬ same x p))
  | [], _ => by simp [ins]
  | q :: S, h => by
    obtain ⟨h1, h2⟩ := List.pairwise_cons.1 h
    unfold ins
    by_cases c1 : lt p q
    · rw [if_pos c1]
      refine ⟨fun hx => ?_, fun hx => ?_⟩
      · rcases List.mem_cons.1 hx with e | hx
        · exact .inl e
        · refine .inr ⟨hx, fun hs => ?_⟩
          rcases List.mem_cons.1 hx with e | hx
          · rw [e] at hs; exact not_same_of_lt c1 (same_symm hs)
          · exact not_same_of_lt (lt_trans c1 (h1 x hx)) (same_symm hs)
      · rcases hx with e | ⟨hx, _⟩
        · exact List.mem_cons.2 (.inl e)
        · exact List.mem_cons_of_mem _ hx
    · rw [if_neg c1]
      by_cases c2 : lt q p
      · rw [if_pos c2, List.mem_cons, mem_ins h2, List.mem_cons]
        refine ⟨fun hx => ?_, fun hx => ?_⟩
        · rcases hx with e | e | ⟨hx, hn⟩
          · exact .inr ⟨.inl e, by rw [e]; exact not_same_of_lt c2⟩
          · exact .inl e
          · exact .inr ⟨.inr hx, hn⟩
        · rcases hx with e | ⟨e | hx, hn⟩
          · exact .inr (.inl e)
          · exact .inl e
          · exact .inr (.inr ⟨hx, hn⟩)
      · rw [if_neg c2]
        have hs : same q p := by rcases tri q p with c | c | c; exact absurd c c2; exact c; exact absurd c c1
        rw [List.mem_cons, List.mem_cons]
        refine ⟨fun hx => ?_, fun hx => ?_⟩
        · rcases hx with e | hx
          · exact .inl e
          · exact .inr ⟨.inr hx, fun k => not_same_of_lt (h1 x hx) (same_trans hs (same_symm k))⟩
        · rcases hx with e | ⟨e | hx, hn⟩
          · exact .inl e
          · rw [e] at hn; exact absurd hs hn
          · exact .inr hx

theorem srt_ins {p : Pd} : ∀ {S : List Pd}, Srt S → Srt (ins p S)
  | [], _ => List.pairwise_singleton _ _
  | q :: S, h => by
    obtain ⟨h1, h2⟩ := List.pairwise_cons.1 h
    unfold ins
    by_cases c1 : lt p q
    · rw [if_pos c1]
      refine List.pairwise_cons.2 ⟨fun x hx => ?_, h⟩
      rcases List.mem_cons.1 hx with e | hx
      · rw [e]; exact c1
      · exact lt_trans c1 (h1 x hx)
    · rw [if_neg c1]
      by_cases c2 : lt q p
      · rw [if_pos c2]
        refine List.pairwise_cons.2 ⟨fun x hx => ?_, srt_ins h2⟩
        rcases (mem_ins h2).1 hx with e | ⟨hx, _⟩
        · rw [e]; exact c2
        · exact h1 x hx
      · rw [if_neg c2]
        have hs : same q p := by rcases tri q p with c | c | c; exact absurd c c2; exact c; exact absurd c c1
        exact List.pairwise_cons.2 ⟨fun x hx => same_lt (same_symm hs) (h1 x hx), h2⟩

/-- The way of a lift: from the row on, then from the smallest row. -/
def way (row : Nat) (S : List Pd) : List Pd := S.filter (fun p => decide (row ≤ p.r)) ++ S.filter (fun p => decide (p.r < row))

theorem mem_way {row : Nat} {S : List Pd} {x : Pd} : x ∈ way row S ↔ x ∈ S := by
  unfold way
  rw [List.mem_append, List.mem_filter, List.mem_filter]
  simp only [decide_eq_true_eq]
  constructor
  · rintro (h | h)
    · exact h.1
    · exact h.1
  · intro h
    by_cases c : row ≤ x.r
    · exact .inl ⟨h, c⟩
    · exact .inr ⟨h, by omega⟩

theorem way_nil {row : Nat} {S : List Pd} (h : way row S = []) : S = [] := by
  cases S with
  | nil => rfl
  | cons a S =>
    have : a ∈ way row (a :: S) := mem_way.2 List.mem_cons_self
    rw [h] at this
    cases this

theorem way_len (row : Nat) (S : List Pd) : (way row S).length = S.length := by
  unfold way
  induction S with
  | nil => rfl
  | cons a S ih =>
    by_cases c : row ≤ a.r
    · rw [List.filter_cons_of_pos (by simpa using c), List.filter_cons_of_neg (by simp; omega)]
      simp only [List.cons_append, List.length_cons] at ih ⊢
      rw [ih]
    · rw [List.filter_cons_of_neg (by simpa using c), List.filter_cons_of_pos (by simp; omega)]
      simp only [List.length_append, List.length_cons] at ih ⊢
      omega

/-- One taken out. -/
def out (p : Pd) (S : List Pd) : List Pd := S.filter (fun q => decide (¬ same q p))

theorem mem_out {p x : Pd} {S : List Pd} : x ∈ out p S ↔ x ∈ S ∧ ¬ same x p := by
  unfold out
  rw [List.mem_filter]
  simp

theorem srt_out {p : Pd} {S : List Pd} (h : Srt S) : Srt (out p S) := h.sublist List.filter_sublist

theorem srt_filter {S : List Pd} (h : Srt S) (f : Pd → Bool) : Srt (S.filter f) := h.sublist List.filter_sublist

/-- What the way begins with: not below the row, if one of them is so, and the least of these. -/
theorem way_head {row : Nat} {S : List Pd} (h : Srt S) {p : Pd} {T : List Pd} (hw : way row S = p :: T) :
    p ∈ S ∧ ∀ q ∈ S, (row ≤ q.r → row ≤ p.r) ∧ ((row ≤ q.r ↔ row ≤ p.r) → ¬ lt q p) := by
  have hp : p ∈ S := mem_way.1 (by rw [hw]; exact List.mem_cons_self)
  refine ⟨hp, fun q hq => ?_⟩
  unfold way at hw
  by_cases hu : S.filter (fun p => decide (row ≤ p.r)) = []
  · rw [hu, List.nil_append] at hw
    have hn : ∀ x ∈ S, ¬ row ≤ x.r := fun x hx hr => by
      have : x ∈ S.filter (fun p => decide (row ≤ p.r)) := List.mem_filter.2 ⟨hx, by simpa using hr⟩
      rw [hu] at this
      cases this
    refine ⟨fun hr => absurd hr (hn q hq), fun _ hl => ?_⟩
    have hs := srt_filter h (fun p => decide (p.r < row))
    rw [hw] at hs
    have hq2 : q ∈ p :: T := by rw [← hw]; exact List.mem_filter.2 ⟨hq, by have := hn q hq; simp; omega⟩
    rcases List.mem_cons.1 hq2 with e | hq2
    · rw [e] at hl; exact lt_irrefl _ hl
    · exact lt_asymm ((List.pairwise_cons.1 hs).1 q hq2) hl
  · obtain ⟨a, U, hU⟩ : ∃ a U, S.filter (fun p => decide (row ≤ p.r)) = a :: U := by
      cases hx : S.filter (fun p => decide (row ≤ p.r)) with
      | nil => exact absurd hx hu
      | cons a U => exact ⟨a, U, rfl⟩
    have hs := srt_filter h (fun p => decide (row ≤ p.r))
    rw [hU] at hs hw
    obtain ⟨rfl, _⟩ : a = p ∧ _ := by simpa using hw
    have ha : row ≤ a.r := by
      have : a ∈ S.filter (fun p => decide (row ≤ p.r)) := by rw [hU]; exact List.mem_cons_self
      simpa using (List.mem_filter.1 this).2
    refine ⟨fun _ => ha, fun hi hl => ?_⟩
    have hq2 : q ∈ a :: U := by rw [← hU]; exact List.mem_filter.2 ⟨hq, by simpa using hi.2 ha⟩
    rcases List.mem_cons.1 hq2 with e | hq2
    · rw [e] at hl; exact lt_irrefl _ hl
    · exact lt_asymm ((List.pairwise_cons.1 hs).1 q hq2) hl

/-- Behind the first of a way stands the way from its row on. -/
theorem way_next {row : Nat} {S : List Pd} (h : Srt S) {p : Pd} {T : List Pd} (hw : way row S = p :: T) : way p.r (out p S) = T := by
  obtain ⟨hp, hleast⟩ := way_head h hw
  have nd : ∀ x ∈ S, ¬ same x p ↔ x ≠ p := fun x hx => ⟨fun hn e => hn (by rw [e]; exact same_refl _), fun hn hs => hn (h.ne hx hp hs)⟩
  unfold way at hw
  by_cases hu : S.filter (fun p => decide (row ≤ p.r)) = []
  · rw [hu, List.nil_append] at hw
    have hn : ∀ x ∈ S, ¬ row ≤ x.r := fun x hx hr => by
      have : x ∈ S.filter (fun p => decide (row ≤ p.r)) := List.mem_filter.2 ⟨hx, by simpa using hr⟩
      rw [hu] at this
      cases this
    have hS : S = p :: T := by
      rw [← hw]
      exact (List.filter_eq_self.2 fun x hx => by have := hn x hx; simp; omega).symm
    subst hS
    obtain ⟨h1, h2⟩ := List.pairwise_cons.1 h
    have ho : out p (p :: T) = T := by
      unfold out
      rw [List.filter_cons_of_neg (by simp [same_refl])]
      exact List.filter_eq_self.2 fun x hx => by simpa using fun k => not_same_of_lt (h1 x hx) (same_symm k)
    rw [ho]
    unfold way
    have hge : ∀ x ∈ T, p.r ≤ x.r := fun x hx => by have := h1 x hx; unfold lt at this; omega
    rw [List.filter_eq_self.2 (fun x hx => by simpa using hge x hx), List.filter_eq_nil_iff.2 (fun x hx => by have := hge x hx; simp; omega), List.append_nil]
  · obtain ⟨a, U, hU⟩ : ∃ a U, S.filter (fun p => decide (row ≤ p.r)) = a :: U := by
      cases hx : S.filter (fun p => decide (row ≤ p.r)) with
      | nil => exact absurd hx hu
      | cons a U => exact ⟨a, U, rfl⟩
    have hs := srt_filter h (fun p => decide (row ≤ p.r))
    rw [hU] at hs hw
    obtain ⟨rfl, rfl⟩ : a = p ∧ U ++ S.filter (fun p => decide (p.r < row)) = T := by simpa using hw
    obtain ⟨s1, s2⟩ := List.pairwise_cons.1 hs
    have ha : row ≤ a.r := by
      have : a ∈ S.filter (fun p => decide (row ≤ p.r)) := by rw [hU]; exact List.mem_cons_self
      simpa using (List.mem_filter.1 this).2
    have e1 : (out a S).filter (fun x => decide (a.r ≤ x.r)) = U := by
      refine Srt.ext (srt_filter (srt_out h) _) s2 fun x => ?_
      rw [List.mem_filter, mem_out]
      simp only [decide_eq_true_eq]
      constructor
      · rintro ⟨⟨hx, hn⟩, hr⟩
        have : x ∈ a :: U := by rw [← hU]; exact List.mem_filter.2 ⟨hx, by simp; omega⟩
        rcases List.mem_cons.1 this with e | this
        · exact absurd (by rw [e]; exact same_refl _) hn
        · exact this
      · intro hx
        have hx2 : x ∈ S.filter (fun p => decide (row ≤ p.r)) := by rw [hU]; exact List.mem_cons_of_mem _ hx
        have hl := s1 x hx
        refine ⟨⟨(List.mem_filter.1 hx2).1, fun k => not_same_of_lt hl (same_symm k)⟩, ?_⟩
        unfold lt at hl
        omega
    have e2 : (out a S).filter (fun x => decide (x.r < a.r)) = S.filter (fun p => decide (p.r < row)) := by
      refine Srt.ext (srt_filter (srt_out h) _) (srt_filter h _) fun x => ?_
      rw [List.mem_filter, List.mem_filter, mem_out]
      simp only [decide_eq_true_eq]
      constructor
      · rintro ⟨⟨hx, hn⟩, hr⟩
        refine ⟨hx, ?_⟩
        by_cases c : row ≤ x.r
        · exact absurd (show lt x a from .inl hr) ((hleast x hx).2 ⟨fun _ => ha, fun _ => c⟩)
        · omega
      · rintro ⟨hx, hr⟩
        exact ⟨⟨hx, fun k => by unfold same at k; omega⟩, by omega⟩
    unfold way
    rw [e1, e2]

/-- The row behind a way. -/
def stop (row : Nat) (l : List Pd) : Nat := (l.getLast?.map (·.r)).getD row

theorem stop_cons (row : Nat) (p : Pd) (l : List Pd) : stop row (p :: l) = stop p.r l := by
  unfold stop
  cases l with
  | nil => rfl
  | cons q l =>
    rw [List.getLast?_cons_cons]
    cases h : (q :: l).getLast? with
    | none => simp at h
    | some x => rfl

end Lf
end Go.Proofs.YtnkdgmnmmmjgjaaGreat
