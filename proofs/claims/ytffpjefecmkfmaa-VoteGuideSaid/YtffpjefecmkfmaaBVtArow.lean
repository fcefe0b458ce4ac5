/-
  Ballots of an argument, put into a row of one's own. By an AI agent.
-/
import Derived.Test.YtffpjefecmkfmaaBVtOwn
namespace Go.Proofs.Ytffpjefecmkfmaa
open Go.RowKit

theorem Sl.keep {w w' : World} {s : List Nat} {v : Value} {xs : List Int} (h : Sl w v xs) (c : Chg s w w') (hv : xs = [] ∨ ∀ b, v.ownBlock = some b → b ∉ s) : Sl w' v xs := by
  rcases hv with rfl | hv
  · obtain ⟨ao, cp, e⟩ := h.slice
    exact .inl ⟨rfl, ao, cp, e⟩
  · exact h.chg c hv

/-- Where a list's block lies. -/
theorem Sl.there {w : World} {v : Value} {xs : List Int} (h : Sl w v xs) : xs = [] ∨ ∀ k, v.ownBlock = some k → k < w.heap.size := by
  rcases h with ⟨rfl, _⟩ | ⟨b, o, c, rfl, hb, _⟩
  · exact .inl rfl
  · refine .inr fun k hk => ?_
    obtain rfl : b = k := by simpa [Value.ownBlock] using hk
    exact hb

/-- What holds of a ballot's states, beside a row v. -/
def ASt (w : World) (v : Value) (d : BalD) : Prop := (Sl w d.u d.s.st ∧ (d.s.st = [] ∨ ∀ k, d.u.ownBlock = some k → k < w.heap.size ∧ v.ownBlock ≠ some k)) ∧ d.s.st.length ≤ 140737488355328 ∧ d.s.Fit

structure ARow (w0 w : World) (v : Value) (ds : List BalD) : Prop where
  row : w.ownsRow w0.heap.size 39 13 v ds.length (flat13 ds)
  ch : Chg [] w0 w
  st : ∀ d ∈ ds, ASt w v d

theorem ARow.nil {w0 w : World} (c : Chg [] w0 w) : ARow w0 w (.slice none 0 0) [] := ⟨World.ownsRow_nil _ _ _ _, c, by simp⟩

theorem ASt.chg {w w' : World} {v : Value} {d : BalD} {s : List Nat} (h : ASt w v d) (c : Chg s w w') (hs : ∀ k, d.u.ownBlock = some k → k < w.heap.size → v.ownBlock ≠ some k → k ∉ s) : ASt w' v d := by
  obtain ⟨⟨h1, h2⟩, h3⟩ := h
  refine ⟨⟨h1.keep c ?_, ?_⟩, h3⟩
  · rcases h2 with e | h2
    · exact .inl e
    · exact .inr fun b hb => hs b hb (h2 b hb).1 (h2 b hb).2
  · rcases h2 with e | h2
    · exact .inl e
    · exact .inr fun b hb => ⟨Nat.lt_of_lt_of_le (h2 b hb).1 c.size, (h2 b hb).2⟩

theorem ARow.chg {w0 w w' : World} {v : Value} {ds : List BalD} (h : ARow w0 w v ds) (c : Chg [] w w') : ARow w0 w' v ds :=
  ⟨owns_chg h.row c (by simp), h.ch.trans c, fun d hd => (h.st d hd).chg c (by simp)⟩

theorem ARow.app {w0 w w' : World} {v v' : Value} {ds : List BalD} {d : BalD} (h : ARow w0 w v ds) (hd : ASt w v d) (o : w'.ownsRow w0.heap.size 39 13 v' (ds.length + 1) (flat13 ds ++ d.cells)) (g : w.grownBy w' v.ownBlock) (hv : v'.ownBlock = v.ownBlock ∨ (v'.ownBlock = some w.heap.size ∧ w.grownBy w' none)) : ARow w0 w' v' (ds ++ [d]) := by
  have c1 : Chg v.ownBlock.toList w w' := (Chg.refl _ w).grown g (fun k hk => .inl (by rw [hk]; simp))
  have key : ∀ x, ASt w v x → ASt w' v' x := fun x hx => by
    obtain ⟨⟨h1, h2⟩, h3⟩ := hx
    rcases h2 with e | h2
    · exact ⟨⟨h1.keep c1 (.inl e), .inl e⟩, h3⟩
    refine ⟨⟨h1.chg c1 (fun k hk hm => ?_), .inr fun k hk => ⟨Nat.lt_of_lt_of_le (h2 k hk).1 c1.size, ?_⟩⟩, h3⟩
    · have := (h2 k hk).2
      cases hvb : v.ownBlock with
      | none => rw [hvb] at hm; simp at hm
      | some b => rw [hvb] at hm this; simp at hm; subst hm; exact this rfl
    · rcases hv with e | ⟨e, _⟩
      · rw [e]; exact (h2 k hk).2
      · rw [e]
        intro q
        have := (h2 k hk).1
        have := Option.some.inj q
        omega
  refine ⟨?_, h.ch.grown g (fun k hk => .inr (h.row.lt k hk).1), fun x hx => ?_⟩
  · rw [flat13_app, List.length_append]
    exact o
  · rcases List.mem_append.1 hx with hx | hx
    · exact key x (h.st x hx)
    · rw [List.mem_singleton.1 hx]; exact key d hd

theorem ARow.slice {w0 w : World} {v : Value} {ds : List BalD} (h : ARow w0 w v ds) : ∃ ao c, v = .slice ao ds.length c := owns_slice h.row

theorem ARow.bals {w0 w : World} {v : Value} {ds : List BalD} (h : ARow w0 w v ds) (hl : ds.length ≤ 140737488355328) : Bals w v ds := by
  rcases h.row.2 with ⟨h1, h2⟩ | ⟨G, c, cur, hv, hb, hg, h1, h2, h3, h4⟩
  · have e : ds = [] := by
      cases ds with
      | nil => rfl
      | cons a l => simp at h2
    subst e
    obtain ⟨ao, c, e⟩ := h.slice
    exact .inl ⟨rfl, ao, c, e⟩
  · refine .inr ⟨G, 0, c, hv, (Array.getElem?_eq_some_iff.1 hg).1, hl, h1, fun i d hi => ?_⟩
    rw [Nat.zero_add]
    have q := h.st d (List.mem_of_getElem? hi)
    have cl : ∀ (j : Nat) (u : Value), j < 13 → d.cells[j]? = some u → w.cell? ⟨G, i * 13 + j, none⟩ = some u := fun j u hj hu => by
      have hx : (flat13 ds)[i * 13 + j]? = some u := by rw [flat13_get hi hj]; exact hu
      rw [← h4, List.getElem?_take] at hx
      split at hx
      · rw [Array.getElem?_toList] at hx
        have : w.cell? ⟨G, i * 13 + j, none⟩ = cur[i * 13 + j]? := by simp [World.cell?, hg]
        rw [this, hx]
      · cases hx
    exact ⟨cl 0 _ (by decide) rfl, cl 1 _ (by decide) rfl, cl 2 _ (by decide) rfl, cl 3 _ (by decide) rfl, cl 4 _ (by decide) rfl, cl 5 _ (by decide) rfl, cl 6 _ (by decide) rfl, cl 7 _ (by decide) rfl, cl 8 _ (by decide) rfl, cl 9 _ (by decide) rfl, cl 10 _ (by decide) rfl, cl 11 _ (by decide) rfl, cl 12 _ (by decide) rfl, q.1.1, q.2.1, q.2.2⟩

/-- An argument's ballot may be put there. -/
theorem ASt.arg {w0 w : World} {v : Value} {d : BalD} {n : Nat} {xs : List Value} (h : Sl w0 d.u d.s.st) (hb : d.s.st.length ≤ 140737488355328) (hf : d.s.Fit) (c : Chg [] w0 w) (o : w.ownsRow w0.heap.size 39 13 v n xs) : ASt w v d := by
  refine ⟨⟨h.chg c (by simp), ?_⟩, hb, hf⟩
  rcases h.there with e | q
  · exact .inl e
  · refine .inr fun k hk => ⟨Nat.lt_of_lt_of_le (q k hk) c.size, fun e => ?_⟩
    have := (o.lt k e).1
    have := q k hk
    omega

theorem ASt.blank {w : World} {v : Value} (b : Bool) : ASt w v ⟨b, Sup.nil, .slice none 0 0⟩ :=
  ⟨⟨.inl ⟨rfl, none, 0, rfl⟩, .inl rfl⟩, by show (0 : Nat) ≤ _; decide, ⟨by show (0 : Nat) < _; decide, by show (0 : Nat) < _; decide, by show (0 : Nat) < _; decide, by show (-9223372036854775808 : Int) ≤ 0 ∧ (0 : Int) ≤ 9223372036854775807; decide, by show (-9223372036854775808 : Int) ≤ 0 ∧ (0 : Int) ≤ 9223372036854775807; decide, by show (-9223372036854775808 : Int) ≤ 0 ∧ (0 : Int) ≤ 9223372036854775807; decide, by show (-9223372036854775808 : Int) ≤ 0 ∧ (0 : Int) ≤ 9223372036854775807; decide, by show (-9223372036854775808 : Int) ≤ 0 ∧ (0 : Int) ≤ 9223372036854775807; decide, by show (-9223372036854775808 : Int) ≤ 0 ∧ (0 : Int) ≤ 9223372036854775807; decide, by intro x hx; cases hx⟩⟩

end Go.Proofs.Ytffpjefecmkfmaa
