/-
  What a cut leaves in a sector; writes that are told by the script. No function of the program is named here. By an AI agent.
-/
import Derived.Test.YtljhpdgjajhgbaaBySolo
import Derived.Test.YtljhpdgjajhgbaaByOps
namespace Go.Proofs.Ytljhpdgjajhgbaa
open Go.RowKit

namespace Dk

theorem over_or (k : Nat) : ∀ (ws : List (Nat × List Nat)) (b : List Nat), over k b ws = b ∨ ∃ e ∈ ws, e.1 = k ∧ over k b ws = e.2
  | [], b => .inl rfl
  | x :: r, b => by
    have h : over k b (x :: r) = over k (if x.1 = k then x.2 else b) r := rfl
    rw [h]
    rcases over_or k r (if x.1 = k then x.2 else b) with q | ⟨e, he, h1, h2⟩
    · by_cases hx : x.1 = k
      · rw [q, if_pos hx]
        exact .inr ⟨x, List.mem_cons_self, hx, rfl⟩
      · rw [q, if_neg hx]
        exact .inl rfl
    · exact .inr ⟨e, List.mem_cons_of_mem _ he, h1, h2⟩

/-- What a crash leaves in a sector: what lasted, or what a write gave it. -/
theorem crash_sec {d : Dk} (hb : d.bad = false) (keep : List Bool) {s : Nat} (hs : s < d.last.length) :
    (d.crash keep).last.getD s [] = d.last.getD s [] ∨ ∃ e ∈ d.cache, e.1 = s ∧ (d.crash keep).last.getD s [] = e.2 := by
  rw [crash_ok hb]
  simp only
  rw [lays_getD _ _ _ hs]
  rcases over_or s (kept keep 0 d.cache) (d.last.getD s []) with h | ⟨e, he, h1, h2⟩
  · exact .inl h
  · exact .inr ⟨e, kept_sub keep 0 d.cache e he, h1, h2⟩

theorem crash_len (d : Dk) (keep : List Bool) : (d.crash keep).last.length = d.last.length := by
  unfold crash
  split
  · rfl
  · exact lays_length _ _

theorem crash_bad (d : Dk) (keep : List Bool) : (d.crash keep).bad = d.bad := by
  unfold crash
  split <;> rfl

theorem flush_len (d : Dk) : d.flush.last.length = d.last.length := by
  unfold flush
  split
  · rfl
  · exact lays_length _ _

theorem crash_none {d : Dk} (hc : d.cache = []) (keep : List Bool) : d.crash keep = d := by
  unfold crash
  split
  · rfl
  · rw [hc]
    cases d
    simp only at hc
    subst hc
    rfl

theorem crash_cache0 {d : Dk} (hb : d.bad = false) (keep : List Bool) : (d.crash keep).cache = [] := by rw [crash_ok hb]

theorem write_cache {d : Dk} {n : Int} {x : List Nat} : (d.write n x).cache = d.cache ∨ ((d.write n x).cache = d.cache ++ [(n.toNat, x)] ∧ 0 ≤ n) := by
  unfold write
  by_cases h : d.writeErr n x = 0
  · rw [if_pos h]
    refine .inr ⟨rfl, ?_⟩
    unfold writeErr at h
    by_cases hc : d.check n = 0
    · unfold check at hc
      split at hc
      · cases hc
      · split at hc
        · rename_i hh
          exact hh.1
        · cases hc
    · rw [if_neg hc] at h
      exact absurd h hc
  · rw [if_neg h]
    exact .inl rfl

end Dk

/-- What waits was written by the script, behind its flush. -/
def Told (es : List BOpD) (fl : Int) (j : Nat) (c : List (Nat × List Nat)) : Prop :=
  ∀ e ∈ c, ∃ i a, i < j ∧ es[i]? = some a ∧ a.kind = 2 ∧ a.num = (e.1 : Int) ∧ nats a.data = e.2 ∧ (fl < (j : Int) → fl < (i : Int))

theorem Told.nil (es : List BOpD) (fl : Int) (j : Nat) : Told es fl j [] := fun e he => by cases he

theorem Told.skip {es : List BOpD} {fl : Int} {j : Nat} {c : List (Nat × List Nat)} (h : Told es fl j c) (hj : ¬ (j : Int) = fl) : Told es fl (j + 1) c := fun e he => by
  obtain ⟨i, a, h1, h2, h3, h4, h5, h6⟩ := h e he
  exact ⟨i, a, by omega, h2, h3, h4, h5, fun hf => h6 (by omega)⟩

theorem Told.write {es : List BOpD} {fl : Int} {j : Nat} {d : Dk} (h : Told es fl j d.cache) (hj : ¬ (j : Int) = fl) {a : BOpD} (ha : es[j]? = some a) (hk : a.kind = 2) : Told es fl (j + 1) (d.write a.num (nats a.data)).cache := by
  rcases Dk.write_cache (d := d) (n := a.num) (x := nats a.data) with q | ⟨q, h0⟩
  · rw [q]
    exact h.skip hj
  · rw [q]
    intro e he
    rcases List.mem_append.1 he with he | he
    · exact h.skip hj e he
    · obtain rfl := List.mem_singleton.1 he
      exact ⟨j, a, by omega, ha, hk, by simp only; omega, rfl, fun hf => by omega⟩

/-- A sector that is not as it lasted is a write of the script's. -/
theorem Told.sector {es : List BOpD} {fl : Int} {d : Dk} (h : Told es fl es.length d.cache) (hfl : (es.length : Int) ≤ fl → d.cache = []) (hb : d.bad = false) (keep : List Bool) {s : Nat} (hs : s < d.last.length)
    (hne : ¬ (d.crash keep).last.getD s [] = d.last.getD s []) : fl < es.length ∧ ∃ (i : Nat) (a : BOpD), es[i]? = some a ∧ a.kind = 2 ∧ fl < (i : Int) ∧ a.num = (s : Int) ∧ nats a.data = (d.crash keep).last.getD s [] := by
  rcases Dk.crash_sec hb keep hs with q | ⟨e, he, h1, h2⟩
  · exact absurd q hne
  · have hlt : fl < es.length := by
      by_cases hq : (es.length : Int) ≤ fl
      · rw [hfl hq] at he
        cases he
      · omega
    obtain ⟨i, a, g1, g2, g3, g4, g5, g6⟩ := h e he
    exact ⟨hlt, i, a, g2, g3, g6 hlt, by rw [g4, h1], by rw [g5, h2]⟩

/-- A sector is told, or its write is still to come. -/
def Left (es : List BOpD) (fl : Int) (s : Nat) (X : List Nat) (q : Bool) (j : Nat) : Prop :=
  q = true ∨ (fl < es.length ∧ ∃ (i : Nat) (a : BOpD), j ≤ i ∧ es[i]? = some a ∧ a.kind = 2 ∧ fl < (i : Int) ∧ a.num = (s : Int) ∧ nats a.data = X)

theorem Left.done {es : List BOpD} {fl : Int} {s : Nat} {X : List Nat} {q : Bool} (h : Left es fl s X q es.length) : q = true := by
  rcases h with h | ⟨_, i, a, h1, h2, _⟩
  · exact h
  · have := (List.getElem?_eq_some_iff.1 h2).1
    omega

theorem Left.off {es : List BOpD} {fl : Int} {s : Nat} {X : List Nat} {q : Bool} {j : Nat} (h : Left es fl s X q j) (hf : ¬ fl < es.length) : q = true := by
  rcases h with h | ⟨h1, _⟩
  · exact h
  · exact absurd h1 hf

theorem Left.skip {es : List BOpD} {fl : Int} {s : Nat} {X : List Nat} {j : Nat} (h : Left es fl s X false j) {a : BOpD} (ha : es[j]? = some a) (hn : ¬ (a.kind = 2 ∧ fl < (j : Int) ∧ a.num = (s : Int) ∧ nats a.data = X)) : Left es fl s X false (j + 1) := by
  rcases h with h | ⟨h1, i, b, h2, h3, h4, h5, h6, h7⟩
  · cases h
  · refine .inr ⟨h1, i, b, ?_, h3, h4, h5, h6, h7⟩
    by_cases e : i = j
    · subst e
      rw [ha] at h3
      obtain rfl : a = b := by simpa using h3
      exact absurd ⟨h4, h5, h6, h7⟩ hn
    · omega

namespace Bay

theorem newErr_one {s : Int} : (Bay.newErr [s] ≠ 0 → Bay.newErr [s] = 40) ∧ (Bay.newErr [s] = 0 → 0 ≤ s ∧ s ≤ 8192) := by
  have e : Bay.newErr [s] = if decide (s < 0 ∨ 8192 < s) then 40 else 0 := by simp [Bay.newErr]
  rw [e]
  by_cases h : s < 0 ∨ 8192 < s
  · simp [h]
  · simp [h]
    omega

theorem new_one {s : Int} (hs : 1 ≤ s) : Bay.new [s] = solo (Dk.new s.toNat) [] 0 0 0 := by
  unfold Bay.new solo
  have : slotOf s = ⟨some ⟨Dk.new s.toNat, none⟩, none, none⟩ := by unfold slotOf; rw [if_neg (by omega)]
  simp [this]

end Bay
end Go.Proofs.Ytljhpdgjajhgbaa
