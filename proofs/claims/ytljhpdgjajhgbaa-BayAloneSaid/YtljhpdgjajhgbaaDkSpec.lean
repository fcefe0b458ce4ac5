/-
  What a disk with a cache does, in the document's words. No function of the program is named here. By an AI agent.
-/
import Derived.Test.YtljhpdgjajhgbaaGNats
namespace Go.Proofs.Ytljhpdgjajhgbaa
open Go.RowKit

/-- What a disk has: each sector's lasting bytes, the writes that wait, and whether it has failed. -/
structure Dk where
  last : List (List Nat)
  cache : List (Nat × List Nat)
  bad : Bool

namespace Dk

def new (n : Nat) : Dk := ⟨List.replicate n (List.replicate 128 0), [], false⟩

def size (d : Dk) : Nat := d.last.length

/-- Is there such a sector? -/
def has (d : Dk) (at_ : Int) : Prop := 0 ≤ at_ ∧ at_ < d.last.length

instance (d : Dk) (at_ : Int) : Decidable (d.has at_) := by unfold has; infer_instance

/-- What was written last, or lasts. -/
def now (d : Dk) (k : Nat) : List Nat := d.cache.foldl (fun b w => if w.1 = k then w.2 else b) (d.last.getD k [])

def check (d : Dk) (at_ : Int) : Nat := if d.bad = true then 2 else if d.has at_ then 0 else 3

def readVal (d : Dk) (at_ : Int) : List Nat := if d.check at_ = 0 then d.now at_.toNat else []

def writeErr (d : Dk) (at_ : Int) (b : List Nat) : Nat := if d.check at_ = 0 then (if b.length = 128 then 0 else 4) else d.check at_

def write (d : Dk) (at_ : Int) (b : List Nat) : Dk := if d.writeErr at_ b = 0 then { d with cache := d.cache ++ [(at_.toNat, b)] } else d

def lay (l : List (List Nat)) (w : Nat × List Nat) : List (List Nat) := l.set w.1 w.2

def flushErr (d : Dk) : Nat := if d.bad = true then 2 else 0

def flush (d : Dk) : Dk := if d.bad = true then d else { d with last := d.cache.foldl lay d.last, cache := [] }

def fail (d : Dk) : Dk := { d with cache := [], bad := true }

/-- The writes from the i-th on that are kept. -/
def kept (keep : List Bool) : Nat → List (Nat × List Nat) → List (Nat × List Nat)
  | _, [] => []
  | i, w :: r => if keep.getD i false = true then w :: kept keep (i + 1) r else kept keep (i + 1) r

def crash (d : Dk) (keep : List Bool) : Dk := if d.bad = true then d else { d with last := (kept keep 0 d.cache).foldl lay d.last, cache := [] }

def pending (d : Dk) : List Nat := d.cache.map (·.1)

def image (d : Dk) : List Nat := if d.bad = true then [] else d.last.flatten

/-- A disk as it can be. -/
structure Fit (d : Dk) : Prop where
  lo : 1 ≤ d.last.length
  hi : d.last.length ≤ 8192
  sec : ∀ s ∈ d.last, s.length = 128 ∧ Bs s
  wr : ∀ w ∈ d.cache, w.1 < d.last.length ∧ w.2.length = 128 ∧ Bs w.2
  off : d.bad = true → d.cache = []

theorem kept_sub (keep : List Bool) : ∀ (i : Nat) (l : List (Nat × List Nat)), ∀ w ∈ kept keep i l, w ∈ l
  | _, [], w, h => by cases h
  | i, x :: r, w, h => by
    unfold kept at h
    split at h
    · rcases List.mem_cons.1 h with rfl | h
      · exact List.mem_cons_self
      · exact List.mem_cons_of_mem _ (kept_sub keep (i + 1) r w h)
    · exact List.mem_cons_of_mem _ (kept_sub keep (i + 1) r w h)

theorem kept_nil : ∀ (i : Nat) (l : List (Nat × List Nat)), kept [] i l = []
  | _, [] => rfl
  | i, x :: r => by unfold kept; rw [if_neg (by simp), kept_nil (i + 1) r]

/-- All of them are kept. -/
theorem kept_all (keep : List Bool) : ∀ (i : Nat) (l : List (Nat × List Nat)), (∀ j, i ≤ j → j < i + l.length → keep.getD j false = true) → kept keep i l = l
  | _, [], _ => rfl
  | i, x :: r, h => by
    unfold kept
    rw [if_pos (h i (Nat.le_refl _) (by simp)), kept_all keep (i + 1) r (fun j h1 h2 => h j (by omega) (by simp; omega))]

theorem kept_snoc (keep : List Bool) : ∀ (i : Nat) (l : List (Nat × List Nat)) (w : Nat × List Nat), kept keep i (l ++ [w]) = kept keep i l ++ (if keep.getD (i + l.length) false = true then [w] else [])
  | i, [], w => by
    show kept keep i [w] = _
    unfold kept
    rw [show i + ([] : List (Nat × List Nat)).length = i from rfl]
    split
    · rfl
    · rfl
  | i, x :: r, w => by
    rw [List.cons_append, kept, kept, kept_snoc keep (i + 1) r w, show i + 1 + r.length = i + (x :: r).length by simp; omega]
    split
    · rfl
    · rfl

theorem lays_length : ∀ (ws : List (Nat × List Nat)) (l : List (List Nat)), (ws.foldl lay l).length = l.length
  | [], _ => rfl
  | w :: r, l => by
    rw [List.foldl_cons, lays_length r, lay, List.length_set]

theorem lays_mem : ∀ (ws : List (Nat × List Nat)) (l : List (List Nat)) (s : List Nat), s ∈ ws.foldl lay l → s ∈ l ∨ ∃ w ∈ ws, s = w.2
  | [], _, s, h => .inl h
  | w :: r, l, s, h => by
    rw [List.foldl_cons] at h
    rcases lays_mem r _ s h with h | ⟨x, hx, e⟩
    · rcases List.mem_or_eq_of_mem_set h with h | h
      · exact .inl h
      · exact .inr ⟨w, List.mem_cons_self, h⟩
    · exact .inr ⟨x, List.mem_cons_of_mem _ hx, e⟩

theorem Fit.new {n : Nat} (h1 : 1 ≤ n) (h2 : n ≤ 8192) : (Dk.new n).Fit := by
  refine ⟨by simp [Dk.new, h1], by simp [Dk.new, h2], fun s hs => ?_, (fun w hw => by cases hw), (fun h => by cases h)⟩
  rw [(List.mem_replicate.1 hs).2]
  exact ⟨by simp, fun b hb => by rw [(List.mem_replicate.1 hb).2]; decide⟩

theorem Fit.write {d : Dk} (h : d.Fit) {at_ : Int} {b : List Nat} (hb : Bs b) : (d.write at_ b).Fit := by
  unfold Dk.write
  split
  · rename_i he
    have hc : d.check at_ = 0 := by
      unfold writeErr at he
      by_cases hc : d.check at_ = 0
      · exact hc
      · rw [if_neg hc] at he
        exact absurd he hc
    have hlen : b.length = 128 := by
      unfold writeErr at he
      rw [if_pos hc] at he
      by_cases hl : b.length = 128
      · exact hl
      · rw [if_neg hl] at he
        cases he
    have hbad : ¬ d.bad = true := fun e => by
      unfold check at hc
      rw [if_pos e] at hc
      cases hc
    have hhas : d.has at_ := by
      unfold check at hc
      rw [if_neg hbad] at hc
      by_cases hh : d.has at_
      · exact hh
      · rw [if_neg hh] at hc
        cases hc
    refine ⟨h.lo, h.hi, h.sec, fun w hw => ?_, fun e => absurd e hbad⟩
    rcases List.mem_append.1 hw with hw | hw
    · exact h.wr w hw
    · rw [List.mem_singleton.1 hw]
      have := hhas.1
      have := hhas.2
      exact ⟨by show at_.toNat < d.last.length; omega, hlen, hb⟩
  · exact h

theorem Fit.lays {d : Dk} (h : d.Fit) (ws : List (Nat × List Nat)) (hs : ∀ w ∈ ws, w ∈ d.cache) : Fit { d with last := ws.foldl lay d.last, cache := [] } := by
  refine ⟨?_, ?_, fun s hs2 => ?_, (fun w hw => by cases hw), (fun _ => rfl)⟩
  · show 1 ≤ (ws.foldl lay d.last).length
    rw [lays_length]; exact h.lo
  · show (ws.foldl lay d.last).length ≤ 8192
    rw [lays_length]; exact h.hi
  · rcases lays_mem ws d.last s hs2 with hs2 | ⟨w, hw, rfl⟩
    · exact h.sec s hs2
    · exact (h.wr w (hs w hw)).2

theorem Fit.flush {d : Dk} (h : d.Fit) : d.flush.Fit := by
  unfold Dk.flush
  split
  · exact h
  · exact h.lays d.cache (fun w hw => hw)

theorem Fit.crash {d : Dk} (h : d.Fit) (keep : List Bool) : (d.crash keep).Fit := by
  unfold Dk.crash
  split
  · exact h
  · exact h.lays _ (fun w hw => kept_sub keep 0 d.cache w hw)

theorem Fit.fail {d : Dk} (h : d.Fit) : d.fail.Fit := ⟨h.lo, h.hi, h.sec, (fun w hw => by cases hw), (fun _ => rfl)⟩

theorem now_len {d : Dk} (h : d.Fit) {k : Nat} (hk : k < d.last.length) : (d.now k).length = 128 ∧ Bs (d.now k) := by
  unfold now
  have h0 : (d.last.getD k []).length = 128 ∧ Bs (d.last.getD k []) := by
    rw [List.getD_eq_getElem?_getD, List.getElem?_eq_getElem hk]
    exact h.sec _ (List.getElem_mem hk)
  have : ∀ (c : List (Nat × List Nat)) (b : List Nat), (∀ w ∈ c, w.2.length = 128 ∧ Bs w.2) → b.length = 128 ∧ Bs b → (c.foldl (fun b w => if w.1 = k then w.2 else b) b).length = 128 ∧ Bs (c.foldl (fun b w => if w.1 = k then w.2 else b) b) := by
    intro c
    induction c with
    | nil => intro b _ hb; exact hb
    | cons w r ih =>
      intro b hc hb
      rw [List.foldl_cons]
      refine ih _ (fun x hx => hc x (List.mem_cons_of_mem _ hx)) ?_
      split
      · exact hc w List.mem_cons_self
      · exact hb
  exact this _ _ (fun w hw => (h.wr w hw).2) h0

theorem flat_len {l : List (List Nat)} (h : ∀ s ∈ l, s.length = 128) : l.flatten.length = 128 * l.length := by
  induction l with
  | nil => rfl
  | cons s r ih =>
    rw [List.flatten_cons, List.length_append, h s List.mem_cons_self, ih (fun x hx => h x (List.mem_cons_of_mem _ hx)), List.length_cons]
    omega

/-- The k-th sector of an image. -/
theorem flat_cut {l : List (List Nat)} (h : ∀ s ∈ l, s.length = 128) {k : Nat} (hk : k < l.length) : (l.flatten.drop (128 * k)).take 128 = l.getD k [] := by
  induction l generalizing k with
  | nil => cases hk
  | cons s r ih =>
    have hs := h s List.mem_cons_self
    cases k with
    | zero =>
      rw [List.flatten_cons, Nat.mul_zero, List.drop_zero, List.take_append_of_le_length (by omega), ← hs, List.take_length]
      rfl
    | succ k =>
      rw [List.flatten_cons, List.drop_append, show 128 * (k + 1) - s.length = 128 * k by omega, List.drop_eq_nil_of_le (by omega), List.nil_append, ih (fun x hx => h x (List.mem_cons_of_mem _ hx)) (by simpa using hk)]
      rfl

end Dk
namespace Dk

/-- What some writes leave in a sector. -/
def over (k : Nat) (b : List Nat) (ws : List (Nat × List Nat)) : List Nat := ws.foldl (fun b w => if w.1 = k then w.2 else b) b

theorem now_eq (d : Dk) (k : Nat) : d.now k = over k (d.last.getD k []) d.cache := rfl

theorem lays_getD : ∀ (ws : List (Nat × List Nat)) (l : List (List Nat)) (k : Nat), k < l.length → (ws.foldl lay l).getD k [] = over k (l.getD k []) ws
  | [], _, _, _ => rfl
  | w :: r, l, k, h => by
    rw [List.foldl_cons, lays_getD r _ k (by rw [lay, List.length_set]; exact h)]
    unfold over
    rw [List.foldl_cons]
    congr 1
    unfold lay
    by_cases e : w.1 = k
    · rw [if_pos e, e]
      simp [List.getD, h]
    · rw [if_neg e]
      simp [List.getD, List.getElem?_set_ne e]

theorem over_snoc (k : Nat) (b : List Nat) (ws : List (Nat × List Nat)) (w : Nat × List Nat) : over k b (ws ++ [w]) = if w.1 = k then w.2 else over k b ws := by
  unfold over
  rw [List.foldl_append]
  rfl

/-- A write that is taken. -/
theorem write_ok {d : Dk} {k : Nat} {b : List Nat} (hb : d.bad = false) (hk : k < d.last.length) (hl : b.length = 128) : d.writeErr k b = 0 ∧ d.write k b = { d with cache := d.cache ++ [(k, b)] } := by
  have hc : d.check (k : Int) = 0 := by
    unfold check
    rw [if_neg (by rw [hb]; decide), if_pos ⟨by omega, by omega⟩]
  have he : d.writeErr (k : Int) b = 0 := by
    unfold writeErr
    rw [if_pos hc, if_pos hl]
  refine ⟨he, ?_⟩
  unfold write
  rw [if_pos he]
  simp

theorem read_ok {d : Dk} {k : Nat} (hb : d.bad = false) (hk : k < d.last.length) : d.check (k : Int) = 0 ∧ d.readVal k = d.now k := by
  have hc : d.check (k : Int) = 0 := by
    unfold check
    rw [if_neg (by rw [hb]; decide), if_pos ⟨by omega, by omega⟩]
  refine ⟨hc, ?_⟩
  unfold readVal
  rw [if_pos hc]
  simp

theorem flush_ok {d : Dk} (hb : d.bad = false) : d.flushErr = 0 ∧ d.flush = { d with last := d.cache.foldl lay d.last, cache := [] } := by
  have h : ¬ d.bad = true := by rw [hb]; decide
  unfold flushErr flush
  rw [if_neg h, if_neg h]
  exact ⟨rfl, rfl⟩

theorem crash_ok {d : Dk} (hb : d.bad = false) (keep : List Bool) : d.crash keep = { d with last := (kept keep 0 d.cache).foldl lay d.last, cache := [] } := by
  have h : ¬ d.bad = true := by rw [hb]; decide
  unfold crash
  rw [if_neg h]

theorem image_ok {d : Dk} (hb : d.bad = false) : d.image = d.last.flatten := by
  have h : ¬ d.bad = true := by rw [hb]; decide
  unfold image
  rw [if_neg h]

theorem bad_all {d : Dk} (hb : d.bad = true) : (∀ at_, d.readVal at_ = [] ∧ d.check at_ = 2) ∧ (∀ at_ b, d.writeErr at_ b = 2 ∧ d.write at_ b = d) ∧ d.flushErr = 2 ∧ d.flush = d ∧ (∀ keep, d.crash keep = d) ∧ d.image = [] := by
  have hc : ∀ at_, d.check at_ = 2 := fun at_ => by unfold check; rw [if_pos hb]
  have hw : ∀ at_ b, d.writeErr at_ b = 2 := fun at_ b => by unfold writeErr; rw [if_neg (by rw [hc]; decide), hc]
  refine ⟨fun at_ => ⟨by unfold readVal; rw [if_neg (by rw [hc]; decide)], hc at_⟩, fun at_ b => ⟨hw at_ b, by unfold write; rw [if_neg (by rw [hw]; decide)]⟩, ?_, ?_, fun keep => ?_, ?_⟩
  · unfold flushErr; rw [if_pos hb]
  · unfold flush; rw [if_pos hb]
  · unfold crash; rw [if_pos hb]
  · unfold image; rw [if_pos hb]

end Dk

/-- Bytes in sectors. -/
def secs : Nat → List Nat → List (List Nat)
  | 0, _ => []
  | n + 1, b => b.take 128 :: secs n (b.drop 128)

theorem secs_length : ∀ (n : Nat) (b : List Nat), (secs n b).length = n
  | 0, _ => rfl
  | n + 1, b => by rw [secs, List.length_cons, secs_length]

theorem secs_flat : ∀ (n : Nat) (b : List Nat), b.length = 128 * n → (secs n b).flatten = b
  | 0, b, h => by
    obtain rfl : b = [] := List.eq_nil_of_length_eq_zero (by omega)
    rfl
  | n + 1, b, h => by rw [secs, List.flatten_cons, secs_flat n _ (by rw [List.length_drop]; omega), List.take_append_drop]

theorem secs_sec : ∀ (n : Nat) (b : List Nat), b.length = 128 * n → Bs b → ∀ s ∈ secs n b, s.length = 128 ∧ Bs s
  | 0, _, _, _, s, hs => by cases hs
  | n + 1, b, h, hb, s, hs => by
    rw [secs] at hs
    rcases List.mem_cons.1 hs with rfl | hs
    · exact ⟨by rw [List.length_take]; omega, fun x hx => hb x (List.mem_of_mem_take hx)⟩
    · exact secs_sec n _ (by rw [List.length_drop]; omega) (fun x hx => hb x (List.mem_of_mem_drop hx)) s hs

/-- A disk out of an image. -/
def Dk.load (b : List Nat) : Dk := ⟨secs (b.length / 128) b, [], false⟩

theorem Dk.Fit.load {b : List Nat} {n : Nat} (h : b.length = 128 * n) (h1 : 1 ≤ n) (h2 : n ≤ 8192) (hb : Bs b) : (Dk.load b).Fit := by
  have e : b.length / 128 = n := by omega
  unfold Dk.load
  rw [e]
  exact ⟨by show 1 ≤ (secs n b).length; rw [secs_length]; exact h1, by show (secs n b).length ≤ 8192; rw [secs_length]; exact h2, secs_sec n b h hb, (fun w hw => by cases hw), (fun h => by cases h)⟩

theorem Dk.load_flat {b : List Nat} {n : Nat} (h : b.length = 128 * n) : (Dk.load b).last.flatten = b := by
  have e : b.length / 128 = n := by omega
  unfold Dk.load
  rw [e]
  exact secs_flat n b h

end Go.Proofs.Ytljhpdgjajhgbaa
