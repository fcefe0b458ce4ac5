/-
  A table of rows of bytes, which are read alone: the rows may be put in anew. No function of the program is named here. By an AI agent.
-/
import Derived.Test.YtjkjkennplfgaaaGSide
import Derived.Test.YtjkjkennplfgaaaGNats
namespace Go.Proofs.Ytjkjkennplfgaaa
open Go.RowKit

/-- The table at tb of n rows, which read as these. -/
structure TabIn (w : World) (tb n : Nat) (F : List Nat) (xss : List (List Nat)) : Prop where
  lt : ∀ k ∈ F, k < w.heap.size
  mem : tb ∈ F
  len : xss.length = n
  cells : ∃ us, w.ownsRow 0 22 1 (.slice (some ⟨tb, 0, none⟩) n n) n us ∧ ∀ (i : Nat) (u : Value) (xs : List Nat), us[i]? = some u → xss[i]? = some xs → Sl w u (ints xs) ∧ (∀ k, u.ownBlock = some k → k ∈ F ∧ k ≠ tb)

def TabT (tb n : Nat) (xss : List (List Nat)) (F : List Nat) : Thing where
  F := F
  P := fun w => TabIn w tb n F xss
  lt := fun _ h => h.lt
  stays := fun w w' s h c hs => by
    obtain ⟨us, h1, h2⟩ := h.cells
    refine ⟨fun k hk => Nat.lt_of_lt_of_le (h.lt k hk) c.size, h.mem, h.len, us, owns_chg h1 c (fun k hk => ?_), fun i u xs hu hx => ?_⟩
    · obtain rfl : tb = k := by simpa [Value.ownBlock] using hk
      exact hs _ h.mem
    · obtain ⟨q1, q2⟩ := h2 i u xs hu hx
      exact ⟨q1.chg c (fun k hk => hs k (q2 k hk).1), q2⟩

/-- A row of it. -/
theorem TabIn.get {w : World} {tb n : Nat} {F : List Nat} {xss : List (List Nat)} (h : TabIn w tb n F xss) {i : Nat} (hi : i < n) : ∃ uo uc, w.cell? ⟨tb, i, none⟩ = some (.slice uo (xss.getD i []).length uc) ∧ Sl w (.slice uo (xss.getD i []).length uc) (ints (xss.getD i [])) := by
  obtain ⟨us, h1, h2⟩ := h.cells
  have hl : us.length = n := owns_len h1
  have hu : us[i]? = some us[i] := List.getElem?_eq_getElem (by omega)
  have hx : xss[i]? = some (xss.getD i []) := by
    rw [List.getD_eq_getElem?_getD, List.getElem?_eq_getElem (by rw [h.len]; exact hi)]
    rfl
  obtain ⟨q1, q2⟩ := h2 i _ _ hu hx
  have hc := ownsRow_cellAt h1 hu
  obtain ⟨uo, uc, e⟩ := q1.slice
  rw [ints_length] at e
  rw [e] at hc q1
  exact ⟨uo, uc, hc, q1⟩

/-- A row that stood ahead is put in. -/
theorem Side.put {w0 w : World} {ts : List Thing} {tb n k : Nat} {F : List Nat} {xss : List (List Nat)} {u : Value} {xs : List Nat} (h : Side w0 w (ownT 5 u ((ints xs).map (Value.int .u8)) :: TabT tb n xss F :: ts)) (hk : k < n) :
    Side w0 (w.setCell ⟨tb, k, none⟩ u) (TabT tb n (xss.set k xs) (F ++ u.ownBlock.toList) :: ts) ∧ w.frozen? ⟨tb, k, none⟩ = false ∧ (∃ x, w.cell? ⟨tb, k, none⟩ = some x) ∧ Sl (w.setCell ⟨tb, k, none⟩ u) u (ints xs) := by
  have ha : w.ownsRow 0 5 1 u ((ints xs).map (Value.int .u8)).length ((ints xs).map (Value.int .u8)) := h.get 0 rfl
  have hb : TabIn w tb n F xss := h.get 1 rfl
  obtain ⟨us, h1, h2⟩ := hb.cells
  have hl : us.length = n := owns_len h1
  obtain ⟨s1, s2, s3⟩ := owns_set h1 hk u
  have hoff : ∀ j, u.ownBlock = some j → j ∉ F := fun j hj hm => (List.pairwise_cons.1 h.apart).1 _ List.mem_cons_self j (by simp [ownT, hj]) hm
  have hut : ∀ j, u.ownBlock = some j → j ≠ tb := fun j hj e => hoff j hj (by rw [e]; exact hb.mem)
  have C : Chg [tb] w (w.setCell ⟨tb, k, none⟩ u) := (Chg.refl _ _).setCell (.inl (by simp)) _
  refine ⟨h.join C (fun j hj => .inr (.inl ?_)) ⟨fun j hj => ?_, List.mem_append_left _ hb.mem, by rw [List.length_set]; exact hb.len, us.set k u, s1, fun i v ys hv hy => ?_⟩ (fun j hj => ?_), s2, s3, (Sl.owned ha).chg C (fun j hj => by simpa using hut j hj)⟩
  · rw [List.mem_singleton.1 hj]; exact hb.mem
  · refine Nat.lt_of_lt_of_le ?_ C.size
    rcases List.mem_append.1 hj with hj | hj
    · exact hb.lt j hj
    · exact (ha.lt j (by simpa using hj)).2
  · by_cases e : k = i
    · subst e
      obtain rfl : u = v := by
        rw [List.getElem?_set_self (by omega)] at hv
        simpa using hv
      obtain rfl : xs = ys := by
        rw [List.getElem?_set_self (by rw [hb.len]; exact hk)] at hy
        simpa using hy
      exact ⟨(Sl.owned ha).chg C (fun j hj => by simpa using hut j hj), fun j hj => ⟨List.mem_append_right _ (by simp [hj]), hut j hj⟩⟩
    · rw [List.getElem?_set_ne e] at hv hy
      obtain ⟨q1, q2⟩ := h2 i v ys hv hy
      exact ⟨q1.chg C (fun j hj => by simpa using (q2 j hj).2), fun j hj => ⟨List.mem_append_left _ (q2 j hj).1, (q2 j hj).2⟩⟩
  · rcases List.mem_append.1 hj with hj | hj
    · exact .inr (.inl hj)
    · exact .inl (by simpa [ownT] using hj)

/-- A new table. -/
theorem TabIn.made {w : World} {tb n : Nat} (h : w.ownsRow 0 22 1 (.slice (some ⟨tb, 0, none⟩) n n) n (List.replicate n (.slice none 0 0))) : TabIn w tb n [tb] (List.replicate n []) :=
  ⟨fun k hk => by rw [List.mem_singleton.1 hk]; exact (h.lt tb rfl).2, List.mem_singleton.2 rfl, by simp, _, h, fun i u xs hu hx => by
    rw [(List.mem_replicate.1 (List.mem_of_getElem? hu)).2, (List.mem_replicate.1 (List.mem_of_getElem? hx)).2]
    exact ⟨.inl ⟨rfl, _, _, rfl⟩, fun k hk => by simp [Value.ownBlock] at hk⟩⟩

theorem set_getD {n k m : Nat} {xss : List (List Nat)} (hl : xss.length = n) (hm : m < n) (b : List Nat) : (xss.set m b).getD k [] = if m = k then b else xss.getD k [] := by
  by_cases e : m = k
  · subst e
    rw [if_pos rfl]
    simp [List.getD, show m < xss.length by omega]
  · rw [if_neg e]
    simp [List.getD, List.getElem?_set_ne e]

end Go.Proofs.Ytjkjkennplfgaaa
