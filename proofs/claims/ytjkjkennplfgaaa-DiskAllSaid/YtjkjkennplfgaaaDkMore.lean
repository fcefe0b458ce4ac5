/-
  What a disk with a cache does: more of it. No function of the program is named here. By an AI agent.
-/
import Derived.Test.YtjkjkennplfgaaaDkSpec
namespace Go.Proofs.Ytjkjkennplfgaaa
open Go.RowKit
namespace Dk

/-- What some writes leave in a sector. -/
def over (k : Nat) (b : List Nat) (ws : List (Nat × List Nat)) : List Nat := ws.foldl (fun b w => if w.1 = k then w.2 else b) b

theorem now_eq (d : Dk) (k : Nat) : d.now k = over k (d.last.getD k []) d.cache := rfl

theorem lays_getD : ∀ (ws : List (Nat × List Nat)) (l : List (List Nat)) (k : Nat), k < l.length → (ws.foldl lay l).getD k [] = over k (l.getD k []) ws
  | [], _, _, _ => rfl
  | w :: r, l, k, h => by
    rw [List.foldl_cons, lays_getD r _ k (by rw [lay, List.length_set]; exact h)]
    unfold over
    rw [List.foldl_cons]
    congr 1
    unfold lay
    by_cases e : w.1 = k
    · rw [if_pos e, e]
      simp [List.getD, h]
    · rw [if_neg e]
      simp [List.getD, List.getElem?_set_ne e]

theorem over_snoc (k : Nat) (b : List Nat) (ws : List (Nat × List Nat)) (w : Nat × List Nat) : over k b (ws ++ [w]) = if w.1 = k then w.2 else over k b ws := by
  unfold over
  rw [List.foldl_append]
  rfl

/-- A write that is taken. -/
theorem write_ok {d : Dk} {k : Nat} {b : List Nat} (hb : d.bad = false) (hk : k < d.last.length) (hl : b.length = 128) : d.writeErr k b = 0 ∧ d.write k b = { d with cache := d.cache ++ [(k, b)] } := by
  have hc : d.check (k : Int) = 0 := by
    unfold check
    rw [if_neg (by rw [hb]; decide), if_pos ⟨by omega, by omega⟩]
  have he : d.writeErr (k : Int) b = 0 := by
    unfold writeErr
    rw [if_pos hc, if_pos hl]
  refine ⟨he, ?_⟩
  unfold write
  rw [if_pos he]
  simp

theorem read_ok {d : Dk} {k : Nat} (hb : d.bad = false) (hk : k < d.last.length) : d.check (k : Int) = 0 ∧ d.readVal k = d.now k := by
  have hc : d.check (k : Int) = 0 := by
    unfold check
    rw [if_neg (by rw [hb]; decide), if_pos ⟨by omega, by omega⟩]
  refine ⟨hc, ?_⟩
  unfold readVal
  rw [if_pos hc]
  simp

theorem flush_ok {d : Dk} (hb : d.bad = false) : d.flushErr = 0 ∧ d.flush = { d with last := d.cache.foldl lay d.last, cache := [] } := by
  have h : ¬ d.bad = true := by rw [hb]; decide
  unfold flushErr flush
  rw [if_neg h, if_neg h]
  exact ⟨rfl, rfl⟩

theorem crash_ok {d : Dk} (hb : d.bad = false) (keep : List Bool) : d.crash keep = { d with last := (kept keep 0 d.cache).foldl lay d.last, cache := [] } := by
  have h : ¬ d.bad = true := by rw [hb]; decide
  unfold crash
  rw [if_neg h]

theorem image_ok {d : Dk} (hb : d.bad = false) : d.image = d.last.flatten := by
  have h : ¬ d.bad = true := by rw [hb]; decide
  unfold image
  rw [if_neg h]

theorem bad_all {d : Dk} (hb : d.bad = true) : (∀ at_, d.readVal at_ = [] ∧ d.check at_ = 2) ∧ (∀ at_ b, d.writeErr at_ b = 2 ∧ d.write at_ b = d) ∧ d.flushErr = 2 ∧ d.flush = d ∧ (∀ keep, d.crash keep = d) ∧ d.image = [] := by
  have hc : ∀ at_, d.check at_ = 2 := fun at_ => by unfold check; rw [if_pos hb]
  have hw : ∀ at_ b, d.writeErr at_ b = 2 := fun at_ b => by unfold writeErr; rw [if_neg (by rw [hc]; decide), hc]
  refine ⟨fun at_ => ⟨by unfold readVal; rw [if_neg (by rw [hc]; decide)], hc at_⟩, fun at_ b => ⟨hw at_ b, by unfold write; rw [if_neg (by rw [hw]; decide)]⟩, ?_, ?_, fun keep => ?_, ?_⟩
  · unfold flushErr; rw [if_pos hb]
  · unfold flush; rw [if_pos hb]
  · unfold crash; rw [if_pos hb]
  · unfold image; rw [if_pos hb]

end Dk

/-- Bytes in sectors. -/
def secs : Nat → List Nat → List (List Nat)
  | 0, _ => []
  | n + 1, b => b.take 128 :: secs n (b.drop 128)

theorem secs_length : ∀ (n : Nat) (b : List Nat), (secs n b).length = n
  | 0, _ => rfl
  | n + 1, b => by rw [secs, List.length_cons, secs_length]

theorem secs_flat : ∀ (n : Nat) (b : List Nat), b.length = 128 * n → (secs n b).flatten = b
  | 0, b, h => by
    obtain rfl : b = [] := List.eq_nil_of_length_eq_zero (by omega)
    rfl
  | n + 1, b, h => by rw [secs, List.flatten_cons, secs_flat n _ (by rw [List.length_drop]; omega), List.take_append_drop]

theorem secs_sec : ∀ (n : Nat) (b : List Nat), b.length = 128 * n → Bs b → ∀ s ∈ secs n b, s.length = 128 ∧ Bs s
  | 0, _, _, _, s, hs => by cases hs
  | n + 1, b, h, hb, s, hs => by
    rw [secs] at hs
    rcases List.mem_cons.1 hs with rfl | hs
    · exact ⟨by rw [List.length_take]; omega, fun x hx => hb x (List.mem_of_mem_take hx)⟩
    · exact secs_sec n _ (by rw [List.length_drop]; omega) (fun x hx => hb x (List.mem_of_mem_drop hx)) s hs

/-- A disk out of an image. -/
def Dk.load (b : List Nat) : Dk := ⟨secs (b.length / 128) b, [], false⟩

theorem Dk.Fit.load {b : List Nat} {n : Nat} (h : b.length = 128 * n) (h1 : 1 ≤ n) (h2 : n ≤ 8192) (hb : Bs b) : (Dk.load b).Fit := by
  have e : b.length / 128 = n := by omega
  unfold Dk.load
  rw [e]
  exact ⟨by show 1 ≤ (secs n b).length; rw [secs_length]; exact h1, by show (secs n b).length ≤ 8192; rw [secs_length]; exact h2, secs_sec n b h hb, (fun w hw => by cases hw), (fun h => by cases h)⟩

theorem Dk.load_flat {b : List Nat} {n : Nat} (h : b.length = 128 * n) : (Dk.load b).last.flatten = b := by
  have e : b.length / 128 = n := by omega
  unfold Dk.load
  rw [e]
  exact secs_flat n b h

end Go.Proofs.Ytjkjkennplfgaaa
