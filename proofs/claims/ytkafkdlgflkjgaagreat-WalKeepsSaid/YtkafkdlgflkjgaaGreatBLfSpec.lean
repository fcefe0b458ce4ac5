/-
  What a lift does, in numbers. No function of the program is named here. By an AI agent.
-/
import Derived.Test.YtkafkdlgflkjgaaGreatRows
namespace Go.Proofs.YtkafkdlgflkjgaaGreat

/-- A patch: its member, its row, its bytes. -/
structure Pd where
 m : Nat
 r : Nat
 bs : List Nat

namespace Lf

/-- Ahead of it: by row, then by member. -/
def lt (p q : Pd) : Prop := p.r < q.r ∨ (p.r = q.r ∧ p.m < q.m)

instance (p q : Pd) : Decidable (lt p q) := by unfold lt; infer_instance

/-- Of the same place. -/
def same (p q : Pd) : Prop := p.m = q.m ∧ p.r = q.r

instance (p q : Pd) : Decidable (same p q) := by unfold same; infer_instance

theorem lt_irrefl (p : Pd) : ¬ lt p p := by unfold lt; omega
theorem lt_trans {p q s : Pd} (h : lt p q) (k : lt q s) : lt p s := by unfold lt at *; omega
theorem lt_asymm {p q : Pd} (h : lt p q) : ¬ lt q p := by unfold lt at *; omega
theorem not_same_of_lt {p q : Pd} (h : lt p q) : ¬ same p q := by unfold lt same at *; omega
theorem same_symm {p q : Pd} (h : same p q) : same q p := by unfold same at *; omega
/-- Sorted: what a lift holds, as a list. -/
def Srt (S : List Pd) : Prop := S.Pairwise lt

theorem Srt.ne {S : List Pd} (h : Srt S) {p q : Pd} (hp : p ∈ S) (hq : q ∈ S) (hs : same p q) : p = q := by
 induction S with
 | nil => cases hp
 | cons a S ih =>
   obtain ⟨h1, h2⟩ := List.pairwise_cons.1 h
   rcases List.mem_cons.1 hp with e | hp2
   ·rcases List.mem_cons.1 hq with f | hq2
    ·rw [e, f]
    ·exact absurd hs (by rw [e]; exact not_same_of_lt (h1 q hq2))
   ·rcases List.mem_cons.1 hq with f | hq2
    ·exact absurd (same_symm hs) (by rw [f]; exact not_same_of_lt (h1 p hp2))
    ·exact ih h2 hp2 hq2

/-- Two that hold the same are the same. -/
theorem Srt.ext : ∀ {S T : List Pd}, Srt S → Srt T → (∀ x, x ∈ S ↔ x ∈ T) → S = T
 | [], [], _, _, _ => rfl
 | [], b :: T, _, _, h => by have := (h b).2 List.mem_cons_self; cases this
 | a :: S, [], _, _, h => by have := (h a).1 List.mem_cons_self; cases this
 | a :: S, b :: T, hS, hT, h => by
   obtain ⟨a1, a2⟩ := List.pairwise_cons.1 hS
   obtain ⟨b1, b2⟩ := List.pairwise_cons.1 hT
   have hab : a = b := by
    rcases List.mem_cons.1 ((h a).1 List.mem_cons_self) with e | e
    ·exact e
    ·rcases List.mem_cons.1 ((h b).2 List.mem_cons_self) with f | f
     ·exact f.symm
     ·exact absurd (a1 b f) (lt_asymm (b1 a e))
   subst hab
   congr 1
   refine Srt.ext a2 b2 fun x => ⟨fun hx => ?_, fun hx => ?_⟩
   ·rcases List.mem_cons.1 ((h x).1 (List.mem_cons_of_mem _ hx)) with e | e
    ·exact absurd (a1 x hx) (by rw [e]; exact lt_irrefl _)
    ·exact e
   ·rcases List.mem_cons.1 ((h x).2 (List.mem_cons_of_mem _ hx)) with e | e
    ·exact absurd (b1 x hx) (by rw [e]; exact lt_irrefl _)
    ·exact e

/-- One taken out. -/
def out (p : Pd) (S : List Pd) : List Pd := S.filter (fun q => decide (¬ same q p))

/-- The row behind a way. -/
def stop (row : Nat) (l : List Pd) : Nat := (l.getLast?.map (·.r)).getD row

end Lf
end Go.Proofs.YtkafkdlgflkjgaaGreat
