/-
  What many Puts come to, in numbers. No function of the program is named here. By an AI agent.
-/
import Derived.Test.YtihmegpcbpdipaaLfSpec
namespace Go.Proofs.Ytihmegpcbpdipaa
namespace Lf

/-- No two of the same place. -/
def Apart (l : List Pd) : Prop := l.Pairwise fun p q => ¬ same p q

/-- All of them put into a lift without patches. -/
def fold (l : List Pd) : List Pd := l.foldl (fun S p => ins p S) []

theorem fold_snoc (l : List Pd) (p : Pd) : fold (l ++ [p]) = ins p (fold l) := by
  unfold fold
  rw [List.foldl_append]
  rfl

theorem srt_foldl : ∀ (l S : List Pd), Srt S → Srt (l.foldl (fun S p => ins p S) S)
  | [], _, h => h
  | p :: l, S, h => srt_foldl l (ins p S) (srt_ins h)

theorem srt_fold (l : List Pd) : Srt (fold l) := srt_foldl l [] List.Pairwise.nil

theorem mem_foldl : ∀ (l S : List Pd), Srt S → Apart l → (∀ p ∈ l, ∀ q ∈ S, ¬ same p q) → ∀ x, x ∈ l.foldl (fun S p => ins p S) S ↔ x ∈ l ∨ x ∈ S
  | [], S, _, _, _, x => by simp
  | p :: l, S, h, ha, hn, x => by
    obtain ⟨a1, a2⟩ := List.pairwise_cons.1 ha
    show x ∈ l.foldl (fun S p => ins p S) (ins p S) ↔ _
    rw [mem_foldl l (ins p S) (srt_ins h) a2, mem_ins h, List.mem_cons]
    · refine ⟨fun k => ?_, fun k => ?_⟩
      · rcases k with k | k | ⟨k, _⟩
        · exact .inl (.inr k)
        · exact .inl (.inl k)
        · exact .inr k
      · rcases k with (k | k) | k
        · exact .inr (.inl k)
        · exact .inl k
        · exact .inr (.inr ⟨k, fun s => hn p List.mem_cons_self x k (same_symm s)⟩)
    · intro q hq y hy
      rcases (mem_ins h).1 hy with rfl | ⟨hy, _⟩
      · exact fun s => a1 q hq (same_symm s)
      · exact hn q (List.mem_cons_of_mem _ hq) y hy

theorem mem_fold {l : List Pd} (h : Apart l) {x : Pd} : x ∈ fold l ↔ x ∈ l := by
  have := mem_foldl l [] List.Pairwise.nil h (by simp) x
  simpa [fold] using this

theorem Apart.reverse {l : List Pd} (h : Apart l) : Apart l.reverse :=
  List.pairwise_reverse.2 (List.Pairwise.imp (fun k s => k (same_symm s)) h)

/-- Of unlike places the order in which they are put in changes nothing. -/
theorem fold_reverse {l : List Pd} (h : Apart l) : fold l.reverse = fold l :=
  Srt.ext (srt_fold _) (srt_fold _) fun x => by rw [mem_fold h.reverse, mem_fold h, List.mem_reverse]

theorem Apart.sub {l k : List Pd} (h : Apart l) (s : k.Sublist l) : Apart k := List.Pairwise.sublist s h

theorem Srt.apart {S : List Pd} (h : Srt S) : Apart S := List.Pairwise.imp (fun k => not_same_of_lt k) h

/-- Two lists without two of the same place, that hold the same, are as long. -/
theorem Apart.len : ∀ {W S : List Pd}, Apart W → Apart S → (∀ x, x ∈ W ↔ x ∈ S) → W.length = S.length
  | [], S, _, _, h => by
    cases S with
    | nil => rfl
    | cons b S => have := (h b).2 List.mem_cons_self; cases this
  | a :: W, S, hW, hS, h => by
    obtain ⟨w1, w2⟩ := List.pairwise_cons.1 hW
    obtain ⟨s, t, rfl⟩ := List.append_of_mem ((h a).1 List.mem_cons_self)
    obtain ⟨s1, s2, s3⟩ := List.pairwise_append.1 hS
    obtain ⟨t1, t2⟩ := List.pairwise_cons.1 s2
    have hst : Apart (s ++ t) := List.pairwise_append.2 ⟨s1, t2, fun x hx y hy => s3 x hx y (List.mem_cons_of_mem _ hy)⟩
    have hm : ∀ x, x ∈ W ↔ x ∈ s ++ t := fun x => by
      have hx := h x
      rw [List.mem_cons, List.mem_append, List.mem_cons] at hx
      rw [List.mem_append]
      refine ⟨fun k => ?_, fun k => ?_⟩
      · rcases hx.1 (.inr k) with k' | k' | k'
        · exact .inl k'
        · exact absurd (same_refl a) (by have := w1 x k; rw [k'] at this; exact this)
        · exact .inr k'
      · rcases hx.2 (k.elim .inl (fun k => .inr (.inr k))) with k' | k'
        · subst k'
          rcases k with k | k
          · exact absurd (same_refl x) (s3 x k x List.mem_cons_self)
          · exact absurd (same_refl x) (t1 x k)
        · exact k'
    have := Apart.len w2 hst hm
    simp only [List.length_cons, List.length_append] at this ⊢
    omega

/-- What a plain list becomes by a Put: those of the same place taken out, the new one behind. -/
def putEnd (p : Pd) (W : List Pd) : List Pd := out p W ++ [p]

theorem apart_putEnd {p : Pd} {W : List Pd} (h : Apart W) : Apart (putEnd p W) :=
  List.pairwise_append.2 ⟨h.sub List.filter_sublist, List.pairwise_singleton _ _, fun x hx y hy => by
    obtain rfl : y = p := by simpa using hy
    exact (mem_out.1 hx).2⟩

theorem mem_putEnd {p x : Pd} {W S : List Pd} (hS : Srt S) (h : ∀ x, x ∈ W ↔ x ∈ S) : x ∈ putEnd p W ↔ x ∈ ins p S := by
  unfold putEnd
  rw [mem_ins hS, List.mem_append, mem_out, h x]
  simp only [List.mem_singleton]
  exact or_comm

/-- How two of a way stand to each other: one ahead of the other and on one side of the row, or beyond the row. -/
def Turn (row : Nat) (p q : Pd) : Prop := (lt p q ∧ (p.r < row ↔ q.r < row)) ∨ (row ≤ p.r ∧ q.r < row)

theorem way_turn {row : Nat} {S : List Pd} (h : Srt S) : (way row S).Pairwise (Turn row) := by
  unfold way
  refine List.pairwise_append.2 ⟨?_, ?_, fun p hp q hq => ?_⟩
  · refine List.Pairwise.imp_of_mem (fun {p q} hp hq k => ?_) (srt_filter h _)
    have h1 := (List.mem_filter.1 hp).2
    have h2 := (List.mem_filter.1 hq).2
    simp only [decide_eq_true_eq] at h1 h2
    exact .inl ⟨k, by omega⟩
  · refine List.Pairwise.imp_of_mem (fun {p q} hp hq k => ?_) (srt_filter h _)
    have h1 := (List.mem_filter.1 hp).2
    have h2 := (List.mem_filter.1 hq).2
    simp only [decide_eq_true_eq] at h1 h2
    exact .inl ⟨k, by omega⟩
  · have h1 := (List.mem_filter.1 hp).2
    have h2 := (List.mem_filter.1 hq).2
    simp only [decide_eq_true_eq] at h1 h2
    exact .inr ⟨h1, h2⟩

/-- One of a way and the next of it. -/
theorem way_pair {row : Nat} {S : List Pd} (h : Srt S) {i : Nat} {p q : Pd} (hp : (way row S)[i]? = some p) (hq : (way row S)[i + 1]? = some q) : Turn row p q := by
  obtain ⟨h1, rfl⟩ := List.getElem?_eq_some_iff.1 hp
  obtain ⟨h2, rfl⟩ := List.getElem?_eq_some_iff.1 hq
  exact List.pairwise_iff_getElem.1 (way_turn h) i (i + 1) h1 h2 (by omega)

/-- What comes next is not passed by. -/
theorem way_least {row : Nat} {S : List Pd} (h : Srt S) {d : Pd} {T : List Pd} (hw : way row S = d :: T) {x : Pd} (hx : x ∈ S) :
    ¬ ((row ≤ x.r ∧ d.r < row) ∨ ((row ≤ x.r ↔ row ≤ d.r) ∧ (x.r < d.r ∨ (x.r = d.r ∧ x.m < d.m)))) := by
  have hx2 : x ∈ way row S := mem_way.2 hx
  have ht := way_turn (row := row) h
  rw [hw] at hx2 ht
  obtain ⟨h1, _⟩ := List.pairwise_cons.1 ht
  rcases List.mem_cons.1 hx2 with rfl | hx3
  · omega
  · have := h1 x hx3
    unfold Turn lt at this
    omega

end Lf
end Go.Proofs.Ytihmegpcbpdipaa
