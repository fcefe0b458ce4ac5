/-
  Rows that are lent, each in a block of its own. By an AI agent.
-/
import Derived.Test.YtihmegpcbpdipaaGLent
import Derived.Test.YtihmegpcbpdipaaGRows
namespace Go.Proofs.Ytihmegpcbpdipaa
open Go.RowKit

/-- One row that is lent: its block, and what it was. -/
def lentD (g : Nat) (d : RowD) : RowD := ⟨.slice (some ⟨g, 0, none⟩) d.bs.length (d.bs.length + 2), d.bs⟩
def lentDs (gs : List Nat) (ds : List RowD) : List RowD := List.zipWith lentD gs ds

theorem lentDs_snoc {gs : List Nat} {ds : List RowD} (h : gs.length = ds.length) (g : Nat) (d : RowD) : lentDs (gs ++ [g]) (ds ++ [d]) = lentDs gs ds ++ [lentD g d] := by
  unfold lentDs
  rw [List.zipWith_append h]
  rfl

theorem lentDs_length {gs : List Nat} {ds : List RowD} (h : gs.length = ds.length) : (lentDs gs ds).length = ds.length := by simp [lentDs, h]

theorem lentDs_bs {gs : List Nat} {ds : List RowD} (h : gs.length = ds.length) : (lentDs gs ds).map (·.bs) = ds.map (·.bs) := by
  induction ds generalizing gs with
  | nil => cases gs <;> simp [lentDs]
  | cons d r ih =>
    cases gs with
    | nil => simp at h
    | cons g gs =>
      have := ih (gs := gs) (by simpa using h)
      simp only [lentDs] at this ⊢
      simp [lentD, this]

theorem lentDs_get {gs : List Nat} {ds : List RowD} {i : Nat} {e : RowD} (h : (lentDs gs ds)[i]? = some e) : ∃ g d, gs[i]? = some g ∧ ds[i]? = some d ∧ e = lentD g d := by
  unfold lentDs at h
  rw [List.getElem?_zipWith] at h
  cases hg : gs[i]? with
  | none => rw [hg] at h; simp at h
  | some g =>
    cases hd : ds[i]? with
    | none => rw [hg, hd] at h; simp at h
    | some d =>
      rw [hg, hd] at h
      exact ⟨g, d, rfl, rfl, by simpa using h.symm⟩

/-- The rows that have been lent, each in a block of its own. -/
structure LRow (w0 w : World) (G : Nat) (gs : List Nat) (ds : List RowD) : Prop where
  len : gs.length = ds.length
  row : ∀ (i g : Nat) (d : RowD), gs[i]? = some g → ds[i]? = some d → Blk w g 5 ((d.bs ++ [91, 92]).map (Value.int .u8))
  nodup : gs.Nodup
  off : G ∉ gs
  new : ∀ g ∈ gs, w0.heap.size ≤ g

theorem LRow.lt {w0 w : World} {G : Nat} {gs : List Nat} {ds : List RowD} (h : LRow w0 w G gs ds) : ∀ g ∈ gs, g < w.heap.size := by
  intro g hg
  obtain ⟨i, hi⟩ := List.mem_iff_getElem?.1 hg
  have hil : i < gs.length := (List.getElem?_eq_some_iff.1 hi).1
  obtain ⟨d, hd⟩ : ∃ d, ds[i]? = some d := ⟨_, List.getElem?_eq_getElem (by rw [← h.len]; exact hil)⟩
  exact (h.row i g d hi hd).lt

theorem LRow.chg {w0 w w' : World} {s : List Nat} {G : Nat} {gs : List Nat} {ds : List RowD} (h : LRow w0 w G gs ds) (c : Chg s w w') (hs : ∀ g ∈ gs, g ∉ s) : LRow w0 w' G gs ds :=
  ⟨h.len, fun i g d hi hd => (h.row i g d hi hd).chg c (hs g (List.mem_of_getElem? hi)), h.nodup, h.off, h.new⟩

theorem LRow.snoc {w0 w w' : World} {G g : Nat} {gs : List Nat} {ds : List RowD} {d : RowD} (h : LRow w0 w G gs ds) (b : Blk w' g 5 ((d.bs ++ [91, 92]).map (Value.int .u8))) (c : Chg [] w w') (hg : w.heap.size ≤ g) (hG : G < w.heap.size) (h0 : w0.heap.size ≤ w.heap.size) :
    LRow w0 w' G (gs ++ [g]) (ds ++ [d]) := by
  refine ⟨by simp [h.len], fun i g' d' hi hd => ?_, ?_, ?_, ?_⟩
  · by_cases hil : i < gs.length
    · rw [List.getElem?_append_left hil] at hi
      rw [List.getElem?_append_left (by rw [← h.len]; exact hil)] at hd
      exact (h.row i g' d' hi hd).chg c (by simp)
    · have h1 : i < (gs ++ [g]).length := (List.getElem?_eq_some_iff.1 hi).1
      obtain rfl : i = gs.length := by simp at h1; omega
      rw [List.getElem?_append_right (Nat.le_refl _), Nat.sub_self] at hi
      rw [List.getElem?_append_right (by rw [h.len]; exact Nat.le_refl _), h.len, Nat.sub_self] at hd
      obtain rfl : g = g' := by simpa using hi
      obtain rfl : d = d' := by simpa using hd
      exact b
  · refine List.nodup_append.2 ⟨h.nodup, by simp, fun a ha b hb => ?_⟩
    have := h.lt a ha
    have hb' : b = g := by simpa using hb
    omega
  · intro hm
    rcases List.mem_append.1 hm with hm | hm
    · exact h.off hm
    · have : G = g := by simpa using hm
      omega
  · intro x hx
    rcases List.mem_append.1 hx with hx | hx
    · exact h.new x hx
    · have : x = g := by simpa using hx
      omega

end Go.Proofs.Ytihmegpcbpdipaa
