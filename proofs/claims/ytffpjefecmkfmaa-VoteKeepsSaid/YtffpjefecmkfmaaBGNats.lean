/-
  Bytes as numbers, and numbers as bytes. No function of the program is named here. By an AI agent.
-/
import Derived.Test.YtffpjefecmkfmaaBG
namespace Go.Proofs.Ytffpjefecmkfmaa
open Go.RowKit

/-- Numbers as bytes. -/
def nats (xs : List Int) : List Nat := xs.map Int.toNat

theorem nats_get {xs : List Int} (h : By xs) {k : Nat} (hk : k < xs.length) : ∃ y : Nat, xs.getD k 0 = (y : Int) ∧ y < 256 ∧ (nats xs).take (k + 1) = (nats xs).take k ++ [y] := by
  have hx := h.get k
  obtain ⟨y, hy⟩ := Int.eq_ofNat_of_zero_le hx.1
  refine ⟨y, hy, by omega, ?_⟩
  have hl : k < (nats xs).length := by simpa [nats] using hk
  rw [List.take_succ_eq_append_getElem hl]
  congr 2
  have : xs[k] = (y : Int) := by rw [← hy]; simp [List.getD, List.getElem?_eq_getElem hk]
  simp [nats, this]

/-- Bytes, each below 256. -/
def Bs (bs : List Nat) : Prop := ∀ b ∈ bs, b < 256

theorem nats_bs {xs : List Int} (h : By xs) : Bs (nats xs) := by
  intro b hb
  obtain ⟨x, hx, rfl⟩ := List.mem_map.1 hb
  have := h x hx
  omega

theorem nats_length (xs : List Int) : (nats xs).length = xs.length := by simp [nats]

/-- Numbers, as the cells have them. -/
def ints (bs : List Nat) : List Int := bs.map fun b : Nat => (b : Int)

theorem ints_length (bs : List Nat) : (ints bs).length = bs.length := by simp [ints]

theorem nats_ints (bs : List Nat) : nats (ints bs) = bs := by simp [nats, ints, Function.comp_def]

theorem ints_nats {xs : List Int} (h : By xs) : ints (nats xs) = xs := by
  unfold ints nats
  rw [List.map_map]
  have : ∀ x ∈ xs, ((fun b : Nat => (b : Int)) ∘ Int.toNat) x = id x := fun x hx => Int.toNat_of_nonneg (h x hx).1
  rw [List.map_congr_left this, List.map_id]

theorem ints_by {bs : List Nat} (h : Bs bs) : By (ints bs) := by
  intro x hx
  obtain ⟨b, hb, rfl⟩ := List.mem_map.1 hx
  have := h b hb
  omega

end Go.Proofs.Ytffpjefecmkfmaa
