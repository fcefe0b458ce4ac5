/-
  Lists of values of several cells that came out, each in memory of its own: what is known of them while they are written over. No function of the program is named here. By an AI agent.
-/
import Derived.Test.YtnkdgmnmmmjgjaaGreatBGOwnMem
namespace Go.Proofs.YtnkdgmnmmmjgjaaGreat
open Go.RowKit

/-- A list with some of its places written over. -/
def setL : List Value → Nat → List Value → List Value
  | l, _, [] => l
  | l, off, v :: cs => setL (l.set off v) (off + 1) cs

theorem setL_len : ∀ (cs : List Value) (l : List Value) (off : Nat), (setL l off cs).length = l.length
  | [], _, _ => rfl
  | v :: cs, l, off => by rw [setL, setL_len cs]; simp

theorem setL_mid : ∀ (new old A C : List Value), old.length = new.length → setL (A ++ old ++ C) A.length new = A ++ new ++ C
  | [], [], A, C, _ => by simp [setL]
  | v :: new, b :: old, A, C, h => by
    have h1 : (A ++ b :: old ++ C).set A.length v = (A ++ [v]) ++ old ++ C := by simp
    rw [setL, h1, show A.length + 1 = (A ++ [v]).length by simp, setL_mid new old (A ++ [v]) C (by simpa using h)]
    simp

theorem setL_front : ∀ (cs P R : List Value) (off : Nat), off + cs.length ≤ P.length → setL (P ++ R) off cs = setL P off cs ++ R
  | [], _, _, _, _ => rfl
  | v :: cs, P, R, off, h => by
    have h2 : off + (cs.length + 1) ≤ P.length := h
    rw [setL, setL, List.set_append_left _ _ (by omega), setL_front cs _ R (off + 1) (by rw [List.length_set]; omega)]

theorem heap_setL {g : Nat} {e : TypeId} : ∀ (cs : List Value) (cur : Array Value) (off : Nat) (w : World), w.heap[g]? = some (.cells cur e (0, 0)) →
    ∃ cur' : Array Value, (w.setCells g off cs).heap[g]? = some (.cells cur' e (0, 0)) ∧ cur'.size = cur.size ∧ cur'.toList = setL cur.toList off cs
  | [], cur, off, w, h => ⟨cur, h, rfl, rfl⟩
  | v :: cs, cur, off, w, h => by
    have h2 : (w.setCell ⟨g, off, none⟩ v).heap[g]? = some (.cells (cur.setIfInBounds off v) e (0, 0)) := by
      simp [World.setCell, Array.getElem?_modify, h]
    obtain ⟨c2, q1, q2, q3⟩ := heap_setL cs (cur.setIfInBounds off v) (off + 1) _ h2
    exact ⟨c2, q1, by rw [q2]; simp, by rw [q3, Array.toList_setIfInBounds]; rfl⟩

/-- Slots of s cells. -/
def Slots (s : Nat) (xs : List (List Value)) : Prop := ∀ x ∈ xs, x.length = s

theorem Slots.set {s : Nat} {xs : List (List Value)} (h : Slots s xs) {k : Nat} {x : List Value} (hx : x.length = s) : Slots s (xs.set k x) := fun y hy => by
  rcases List.mem_or_eq_of_mem_set hy with q | rfl
  · exact h y q
  · exact hx

theorem Slots.app {s : Nat} {xs ys : List (List Value)} (h : Slots s xs) (h2 : Slots s ys) : Slots s (xs ++ ys) := fun y hy => (List.mem_append.1 hy).elim (h y) (h2 y)

theorem flat_len {s : Nat} : ∀ {xs : List (List Value)}, Slots s xs → xs.flatten.length = xs.length * s
  | [], _ => by simp
  | x :: xs, h => by
    rw [List.flatten_cons, List.length_append, h x List.mem_cons_self, flat_len (fun y hy => h y (List.mem_cons_of_mem _ hy)), List.length_cons, Nat.add_mul, Nat.one_mul, Nat.add_comm]

theorem flat_at {s : Nat} : ∀ {xs : List (List Value)}, Slots s xs → ∀ {j r : Nat} {x : List Value} {u : Value}, xs[j]? = some x → x[r]? = some u → xs.flatten[j * s + r]? = some u
  | [], _, j, r, x, u, h, _ => by simp at h
  | y :: xs, hs, 0, r, x, u, h, hr => by
    obtain rfl : y = x := by simpa using h
    rw [Nat.zero_mul, Nat.zero_add, List.flatten_cons, List.getElem?_append_left (List.getElem?_eq_some_iff.1 hr).1]
    exact hr
  | y :: xs, hs, j + 1, r, x, u, h, hr => by
    have hy := hs y List.mem_cons_self
    rw [List.flatten_cons, List.getElem?_append_right (by rw [hy, Nat.add_mul]; omega), hy, show (j + 1) * s + r - s = j * s + r by rw [Nat.add_mul]; omega]
    exact flat_at (fun z hz => hs z (List.mem_cons_of_mem _ hz)) (by simpa using h) hr

theorem flat_set {s : Nat} {xs : List (List Value)} (h : Slots s xs) {k : Nat} (hk : k < xs.length) {x : List Value} (hx : x.length = s) : setL xs.flatten (k * s) x = (xs.set k x).flatten := by
  have e1 : xs = xs.take k ++ [xs[k]] ++ xs.drop (k + 1) := by simp
  have hA : (xs.take k).flatten.length = k * s := by
    rw [flat_len (fun y hy => h y (List.mem_of_mem_take hy)), List.length_take, Nat.min_eq_left (by omega)]
  have e2 : xs.set k x = xs.take k ++ [x] ++ xs.drop (k + 1) := by
    rw [List.set_eq_take_append_cons_drop, if_pos hk]
    simp
  have e3 : xs.flatten = (xs.take k).flatten ++ xs[k] ++ (xs.drop (k + 1)).flatten := by
    conv => lhs; rw [e1]
    simp only [List.flatten_append, List.flatten_cons, List.flatten_nil, List.append_nil]
  rw [e2, e3, ← hA, setL_mid x xs[k] _ _ (by rw [hx, h _ (List.getElem_mem _)])]
  simp only [List.flatten_append, List.flatten_cons, List.flatten_nil, List.append_nil]

/-- The slice v reads as these slots. -/
def RdW (s : Nat) (w : World) (v : Value) (xs : List (List Value)) : Prop :=
  (xs = [] ∧ ∃ ao c, v = .slice ao 0 c) ∨ ∃ b c, v = .slice (some ⟨b, 0, none⟩) xs.length c ∧ b < w.heap.size ∧ ∀ j r x u, xs[j]? = some x → x[r]? = some u → w.cell? ⟨b, j * s + r, none⟩ = some u

theorem RdW.slice {s : Nat} {w : World} {v : Value} {xs : List (List Value)} (h : RdW s w v xs) : ∃ ao c, v = .slice ao xs.length c := by
  rcases h with ⟨rfl, ao, c, rfl⟩ | ⟨b, cp, rfl, _⟩
  · exact ⟨ao, c, rfl⟩
  · exact ⟨_, _, rfl⟩

theorem RdW.at {s : Nat} {w : World} {ao : Option Addr} {n c : Nat} {xs : List (List Value)} (h : RdW s w (.slice ao n c) xs) {k : Nat} {x : List Value} (hx : xs[k]? = some x) : ∃ b, ao = some ⟨b, 0, none⟩ ∧ ∀ r u, x[r]? = some u → w.cell? ⟨b, k * s + r, none⟩ = some u := by
  rcases h with ⟨rfl, _⟩ | ⟨b, c', hv, hb, hc⟩
  · simp at hx
  · obtain ⟨rfl, _⟩ : ao = some ⟨b, 0, none⟩ ∧ n = xs.length ∧ c = c' := by simpa using hv
    exact ⟨b, rfl, fun r u hr => hc k r x u hx hr⟩

theorem RdW.chg {s : Nat} {w w' : World} {t : List Nat} {v : Value} {xs : List (List Value)} (h : RdW s w v xs) (c : Chg t w w') (hv : ∀ b, v.ownBlock = some b → b ∉ t) : RdW s w' v xs := by
  rcases h with h | ⟨b, cp, rfl, hb, hc⟩
  · exact .inl h
  · exact .inr ⟨b, cp, rfl, Nat.lt_of_lt_of_le hb c.size, fun j r x u hj hr => (c.cell (p := ⟨b, _, none⟩) hb (hv b rfl)).trans (hc j r x u hj hr)⟩

/-- A row of one's own, of slots. -/
def OwnW (s : Nat) (w : World) (base : Nat) (e : TypeId) (v : Value) (xs : List (List Value)) : Prop := Slots s xs ∧ w.ownsRow base e s v xs.length xs.flatten

theorem OwnW.nil (s : Nat) (w : World) (base : Nat) (e : TypeId) : OwnW s w base e (.slice none 0 0) [] := ⟨fun _ h => (by cases h), World.ownsRow_nil _ _ _ _⟩

theorem OwnW.lt {s : Nat} {w : World} {base : Nat} {e : TypeId} {v : Value} {xs : List (List Value)} (h : OwnW s w base e v xs) : ∀ k, v.ownBlock = some k → base ≤ k ∧ k < w.heap.size := h.2.lt

theorem OwnW.chg {s : Nat} {w w' : World} {t : List Nat} {base : Nat} {e : TypeId} {v : Value} {xs : List (List Value)} (h : OwnW s w base e v xs) (c : Chg t w w') (hs : ∀ k, v.ownBlock = some k → k ∉ t) : OwnW s w' base e v xs := ⟨h.1, owns_chg h.2 c hs⟩

theorem OwnW.lower {s : Nat} {w : World} {base base' : Nat} {e : TypeId} {v : Value} {xs : List (List Value)} (h : OwnW s w base e v xs) (hb : base' ≤ base) : OwnW s w base' e v xs := ⟨h.1, ownsRow_base h.2 hb⟩

theorem OwnW.slice {s : Nat} {w : World} {base : Nat} {e : TypeId} {v : Value} {xs : List (List Value)} (h : OwnW s w base e v xs) : ∃ ao c, v = .slice ao xs.length c := owns_slice h.2

theorem OwnW.rd {s : Nat} {w : World} {base : Nat} {e : TypeId} {v : Value} {xs : List (List Value)} (h : OwnW s w base e v xs) : RdW s w v xs := by
  obtain ⟨hs, ho⟩ := h
  rcases ho.2 with ⟨rfl, h0⟩ | ⟨g, cap, cur, rfl, hb, hg, _⟩
  · exact .inl ⟨List.eq_nil_of_length_eq_zero h0, _, _, rfl⟩
  · refine .inr ⟨g, cap, rfl, (Array.getElem?_eq_some_iff.1 hg).1, fun j r x u hj hr => ?_⟩
    have := ho.cells (g := g) rfl (j * s + r) u (flat_at hs hj hr)
    rw [Addr.add_lit, Nat.zero_add] at this
    exact this

theorem OwnW.head {s : Nat} {w : World} {base : Nat} {e : TypeId} {ao : Option Addr} {n c : Nat} {xs : List (List Value)} (h : OwnW s w base e (.slice ao n c) xs) (hn : 0 < xs.length) : ∃ g, ao = some ⟨g, 0, none⟩ := by
  rcases h.2.2 with ⟨_, h0⟩ | ⟨g, cap, cur, hv, _⟩
  · omega
  · exact ⟨g, by simp at hv; exact hv.1⟩

/-- One slot is written. -/
theorem OwnW.set {s : Nat} {w : World} {base : Nat} {e : TypeId} {g n c : Nat} {xs : List (List Value)} (h : OwnW s w base e (.slice (some ⟨g, 0, none⟩) n c) xs) {k : Nat} (hk : k < xs.length) {x : List Value} (hx : x.length = s) :
    OwnW s (w.setCells g (k * s) x) base e (.slice (some ⟨g, 0, none⟩) n c) (xs.set k x) ∧ (∀ r, w.frozen? ⟨g, r, none⟩ = false) ∧ ∀ r, r < s → ∃ u, w.cell? ⟨g, k * s + r, none⟩ = some u := by
  obtain ⟨hs, h1, h2⟩ := h
  rcases h2 with ⟨h2, _⟩ | ⟨g', cap, cur, hv, hb, hg, q1, q2, q3, q4⟩
  · cases h2
  · obtain ⟨rfl, rfl, rfl⟩ : g = g' ∧ n = xs.length ∧ c = cap := by simpa using hv
    obtain ⟨cur', p1, p2, p3⟩ := heap_setL x cur (k * s) w hg
    have hfl := flat_len hs
    have hks : k * s + s ≤ xs.length * s := by rw [← Nat.succ_mul]; exact Nat.mul_le_mul_right _ hk
    have hcl : xs.length * s ≤ c * s := Nat.mul_le_mul_right _ q1
    refine ⟨⟨hs.set hx, ?_, .inr ⟨g, c, cur', by simp, hb, p1, by simpa using q1, q2, by rw [p2, q3], ?_⟩⟩, fun r => by simp [World.frozen?, hg], fun r hr => ⟨cur[k * s + r]'(by rw [q3]; omega), by simp [World.cell?, hg, show k * s + r < cur.size by rw [q3]; omega]⟩⟩
    · rw [flat_len (hs.set hx)]
    · rw [p3, List.length_set, ← flat_set hs hk hx]
      have e1 : cur.toList = xs.flatten ++ cur.toList.drop (xs.length * s) := by rw [← q4, List.take_append_drop]
      rw [e1, setL_front _ _ _ _ (by rw [hfl, hx]; omega), List.take_append_of_le_length (by rw [setL_len, hfl]; exact Nat.le_refl _), List.take_of_length_le (by rw [setL_len, hfl]; exact Nat.le_refl _)]

/-- xs, its first k slots marked. -/
def mixW (f : Nat → List Value) (k : Nat) (xs : List (List Value)) : List (List Value) := (List.range k).map f ++ xs.drop k

theorem mixW_zero (f : Nat → List Value) (xs : List (List Value)) : mixW f 0 xs = xs := by simp [mixW]

theorem mixW_len {f : Nat → List Value} {k : Nat} {xs : List (List Value)} (h : k ≤ xs.length) : (mixW f k xs).length = xs.length := by simp [mixW]; omega

theorem mixW_set {f : Nat → List Value} {k : Nat} {xs : List (List Value)} (h : k < xs.length) : (mixW f k xs).set k (f k) = mixW f (k + 1) xs := by
  have h1 : ((List.range k).map f).length = k := by simp
  unfold mixW
  rw [List.set_append_right _ _ (by omega), h1, Nat.sub_self, List.drop_eq_getElem_cons h, List.set_cons_zero, List.range_succ, List.map_append]
  simp

theorem mixW_full (f : Nat → List Value) (xs : List (List Value)) : mixW f xs.length xs = (List.range xs.length).map f := by simp [mixW]

/-- The marks of one list. -/
def marksW (f : Nat → Nat → List Value) (j n : Nat) : List (List Value) := (List.range n).map (f j)

theorem marksW_len (f : Nat → Nat → List Value) (j n : Nat) : (marksW f j n).length = n := by simp [marksW]

theorem marksW_succ (f : Nat → Nat → List Value) (j n : Nat) : marksW f j (n + 1) = marksW f j n ++ [f j n] := by simp [marksW, List.range_succ]

theorem marksW_get (f : Nat → Nat → List Value) (j n k : Nat) (h : k < n) : (marksW f j n)[k]? = some (f j k) := by simp [marksW, h]

theorem marksW_slots {s : Nat} {f : Nat → Nat → List Value} (hf : ∀ i k, (f i k).length = s) (j n : Nat) : Slots s (marksW f j n) := fun x hx => by
  obtain ⟨k, _, rfl⟩ := List.mem_map.1 hx
  exact hf j k

abbrev Wides := List (Value × List (List Value))

/-- The blocks of some lists. -/
def blocksOf (vs : Wides) : List Nat := vs.filterMap fun p => p.1.ownBlock

theorem blocksOf_mem {vs : Wides} {j : Nat} {v : Value} {xs : List (List Value)} {g : Nat} (h : vs[j]? = some (v, xs)) (hg : v.ownBlock = some g) : g ∈ blocksOf vs :=
  List.mem_filterMap.2 ⟨_, List.mem_of_getElem? h, hg⟩

theorem blocksOf_spec {vs : Wides} {g : Nat} (h : g ∈ blocksOf vs) : ∃ (j : Nat) (v : Value) (xs : List (List Value)), vs[j]? = some (v, xs) ∧ v.ownBlock = some g := by
  obtain ⟨⟨v, xs⟩, hm, hg⟩ := List.mem_filterMap.1 h
  obtain ⟨j, hj⟩ := List.mem_iff_getElem?.1 hm
  exact ⟨j, v, xs, hj, hg⟩

/-- Lists that came out, each the asker's own. -/
structure OwnsW (s : Nat) (w : World) (base : Nat) (e : TypeId) (lb : Nat) (vs : Wides) : Prop where
  head : ∀ (j : Nat) (v : Value) (xs : List (List Value)), vs[j]? = some (v, xs) → w.cell? ⟨lb, j, none⟩ = some v
  row : ∀ (j : Nat) (v : Value) (xs : List (List Value)), vs[j]? = some (v, xs) → OwnW s w base e v xs
  apart : ∀ (i j : Nat) (v : Value) (xs : List (List Value)) (v' : Value) (xs' : List (List Value)) (g : Nat), i ≠ j → vs[i]? = some (v, xs) → vs[j]? = some (v', xs') → v.ownBlock = some g → v'.ownBlock ≠ some g
  list : ∀ (j : Nat) (v : Value) (xs : List (List Value)), vs[j]? = some (v, xs) → v.ownBlock ≠ some lb
  lt : lb < w.heap.size

/-- While they are marked: those before i are, of the i-th the first k slots. -/
structure MarkW (s : Nat) (f : Nat → Nat → List Value) (w : World) (base : Nat) (e : TypeId) (lb : Nat) (vs : Wides) (i k : Nat) : Prop where
  head : ∀ (j : Nat) (v : Value) (xs : List (List Value)), vs[j]? = some (v, xs) → w.cell? ⟨lb, j, none⟩ = some v
  row : ∀ (j : Nat) (v : Value) (xs : List (List Value)), vs[j]? = some (v, xs) → OwnW s w base e v (if j < i then mixW (f j) xs.length xs else if j = i then mixW (f j) k xs else xs)

theorem OwnsW.start {s : Nat} {f : Nat → Nat → List Value} {w : World} {base : Nat} {e : TypeId} {lb : Nat} {vs : Wides} (h : OwnsW s w base e lb vs) : MarkW s f w base e lb vs 0 0 :=
  ⟨h.head, fun j v xs hj => by
    rw [if_neg (by omega)]
    by_cases h0 : j = 0
    · rw [if_pos h0, mixW_zero]; exact h.row j v xs hj
    · rw [if_neg h0]; exact h.row j v xs hj⟩

theorem MarkW.next {s : Nat} {f : Nat → Nat → List Value} {w : World} {base : Nat} {e : TypeId} {lb : Nat} {vs : Wides} {i k : Nat} {v : Value} {xs : List (List Value)} (h : MarkW s f w base e lb vs i k) (hi : vs[i]? = some (v, xs)) (hk : k = xs.length) :
    MarkW s f w base e lb vs (i + 1) 0 :=
  ⟨h.head, fun j v' xs' hj => by
    have := h.row j v' xs' hj
    by_cases h1 : j < i
    · rw [if_pos h1] at this; rw [if_pos (by omega)]; exact this
    · rw [if_neg h1] at this
      by_cases h2 : j = i
      · subst h2
        rw [hi] at hj
        obtain ⟨rfl, rfl⟩ : v = v' ∧ xs = xs' := by simpa using hj
        rw [if_pos rfl] at this
        subst hk
        rw [if_pos (by omega)]; exact this
      · rw [if_neg h2] at this
        rw [if_neg (by omega)]
        by_cases h3 : j = i + 1
        · rw [if_pos h3, mixW_zero]; exact this
        · rw [if_neg h3]; exact this⟩

/-- One slot more is marked. -/
theorem MarkW.set {s : Nat} {f : Nat → Nat → List Value} (hf : ∀ i k, (f i k).length = s) {w0 w : World} {base : Nat} {e : TypeId} {lb : Nat} {vs : Wides} {i k : Nat} {g c : Nat} {xs : List (List Value)} (ho : OwnsW s w0 base e lb vs) (h : MarkW s f w base e lb vs i k)
    (hi : vs[i]? = some (.slice (some ⟨g, 0, none⟩) xs.length c, xs)) (hk : k < xs.length) (hlt : lb < w.heap.size) :
    MarkW s f (w.setCells g (k * s) (f i k)) base e lb vs i (k + 1) ∧ (∀ r, w.frozen? ⟨g, r, none⟩ = false) ∧ ∀ r, r < s → ∃ x, w.cell? ⟨g, k * s + r, none⟩ = some x := by
  have hrow := h.row i _ _ hi
  rw [if_neg (by omega), if_pos rfl] at hrow
  obtain ⟨h1, h2, h3⟩ := hrow.set (k := k) (by rw [mixW_len (by omega)]; exact hk) (hf i k)
  have hc : Chg [g] w (w.setCells g (k * s) (f i k)) := chg_setCells _ _ _ (Chg.refl _ _) (.inl (by simp))
  refine ⟨⟨fun j v xs' hj => ?_, fun j v' xs' hj => ?_⟩, h2, h3⟩
  · have hne := ho.list i _ _ hi
    exact (hc.cell (p := ⟨lb, j, none⟩) hlt (by simp [Value.ownBlock] at hne; simpa using fun e => hne e.symm)).trans (h.head j v xs' hj)
  · by_cases hji : j = i
    · subst hji
      rw [hi] at hj
      obtain ⟨rfl, rfl⟩ : _ = v' ∧ xs = xs' := by simpa using hj
      rw [if_neg (by omega), if_pos rfl, ← mixW_set hk]
      exact h1
    · have := (h.row j v' xs' hj).chg hc (fun b hb => by
        have := ho.apart i j _ _ _ _ g (fun e => hji e.symm) hi hj rfl
        intro hm
        obtain rfl : b = g := by simpa using hm
        exact this hb)
      by_cases h1 : j < i
      · rw [if_pos h1] at this ⊢; exact this
      · rw [if_neg h1, if_neg hji] at this ⊢; exact this

/-- A list that has been marked, and its longer copy. -/
structure DoneW (s : Nat) (fA fB : Nat → Nat → List Value) (w : World) (H0 : Nat) (lg v : Value) (j n : Nat) (y : Value) : Prop where
  rv : RdW s w v (marksW fA j n)
  ry : RdW s w y (marksW fA j n ++ marksW fB j 16)
  wh : ∀ b, y.ownBlock = some b → (v.ownBlock = some b ∨ H0 ≤ b) ∧ b < w.heap.size ∧ lg.ownBlock ≠ some b

/-- While the longer copies are made: those before i are there. -/
structure LongW (s : Nat) (fA fB : Nat → Nat → List Value) (w : World) (base : Nat) (e le : TypeId) (lb : Nat) (vs : Wides) (H0 : Nat) (lg : Value) (ys : List Value) (i : Nat) : Prop where
  head : ∀ (j : Nat) (v : Value) (xs : List (List Value)), vs[j]? = some (v, xs) → w.cell? ⟨lb, j, none⟩ = some v
  row : ∀ (j : Nat) (v : Value) (xs : List (List Value)), vs[j]? = some (v, xs) → i ≤ j → OwnW s w base e v (marksW fA j xs.length)
  long : w.ownsRow H0 le 1 lg i ys
  done : ∀ (j : Nat) (v : Value) (xs : List (List Value)) (y : Value), vs[j]? = some (v, xs) → ys[j]? = some y → DoneW s fA fB w H0 lg v j xs.length y
  size : H0 ≤ w.heap.size

/-- The i-th longer copy grows: x, so far. -/
structure GrowW (s : Nat) (fA fB : Nat → Nat → List Value) (wi w : World) (base : Nat) (e : TypeId) (v : Value) (n i : Nat) (x : Value) (k : Nat) : Prop where
  row : OwnW s w base e x (marksW fA i n ++ marksW fB i k)
  rv : RdW s w v (marksW fA i n)
  blk : x.ownBlock = v.ownBlock ∨ ∃ b, x.ownBlock = some b ∧ wi.heap.size ≤ b
  chg : Chg v.ownBlock.toList wi w

/-- All are marked: the longer copies begin. -/
theorem MarkW.copy {s : Nat} {fA fB : Nat → Nat → List Value} {w : World} {base : Nat} {e le : TypeId} {lb : Nat} {vs : Wides} (h : MarkW s fA w base e lb vs vs.length 0) :
    LongW s fA fB w base e le lb vs w.heap.size (.slice none 0 0) [] 0 :=
  ⟨h.head, fun j v xs hj _ => by
    have hlt : j < vs.length := (List.getElem?_eq_some_iff.1 hj).1
    have := h.row j v xs hj
    rw [if_pos hlt, mixW_full] at this
    exact this, World.ownsRow_nil _ _ _ _, fun j v xs y hj hy => by simp at hy, Nat.le_refl _⟩

theorem GrowW.start {s : Nat} {fA fB : Nat → Nat → List Value} {w : World} {base : Nat} {e : TypeId} {v : Value} {n i : Nat} (h : OwnW s w base e v (marksW fA i n)) : GrowW s fA fB w w base e v n i v 0 :=
  ⟨by simpa [marksW] using h, h.rd, .inl rfl, Chg.refl _ _⟩

theorem GrowW.step {s : Nat} {fA fB : Nat → Nat → List Value} (hB : ∀ i k, (fB i k).length = s) (hA : ∀ i k, (fA i k).length = s) {wi w wn : World} {base : Nat} {e : TypeId} {v : Value} {n i : Nat} {x x' : Value} {k : Nat} {o : Obj} (hv : OwnW s wi base e v (marksW fA i n)) (h : GrowW s fA fB wi w base e v n i x k)
    (ho : wn.ownsRow base e s x' (n + k + 1) ((marksW fA i n ++ marksW fB i k).flatten ++ fB i k)) (hg : (w.alloc o).grownBy wn x.ownBlock)
    (hb : x'.ownBlock = x.ownBlock ∨ (x'.ownBlock = some (w.heap.size + 1) ∧ (w.alloc o).grownBy wn none)) : GrowW s fA fB wi wn base e v n i x' (k + 1) := by
  have hzi := h.chg.size
  have hrow : OwnW s wn base e x' (marksW fA i n ++ marksW fB i (k + 1)) := by
    refine ⟨(marksW_slots hA i n).app (marksW_slots hB i _), ?_⟩
    rw [List.length_append, marksW_len, marksW_len, marksW_succ, ← List.append_assoc, List.flatten_append, ← Nat.add_assoc]
    simpa using ho
  refine ⟨hrow, ?_, ?_, (h.chg.alloc _).grown hg (fun b hbb => ?_)⟩
  · rcases hb with hb | ⟨hb, hn⟩
    · rcases h.blk with hx | ⟨b, hx, hge⟩
      · rcases hv.2.2 with ⟨rfl, hn0⟩ | ⟨g, cap, cur, rfl, _, hgg, _⟩
        · exact .inl ⟨List.eq_nil_of_length_eq_zero hn0, _, _, rfl⟩
        · have hx' : x'.ownBlock = some g := by rw [hb, hx]; rfl
          rcases hrow.rd with ⟨h0, _⟩ | ⟨g', cap', hv', hlt', hc'⟩
          · have : (marksW fA i n).length = 0 := by
              have := congrArg List.length h0
              simp only [List.length_append, List.length_nil] at this
              omega
            exact .inl ⟨List.eq_nil_of_length_eq_zero this, some ⟨g, 0, none⟩, cap, by rw [this]⟩
          · have hgq : g' = g := by rw [hv'] at hx'; simpa [Value.ownBlock] using hx'
            subst hgq
            exact .inr ⟨g', cap, rfl, hlt', fun j r y u hj hr => hc' j r y u (by rw [List.getElem?_append_left (List.getElem?_eq_some_iff.1 hj).1]; exact hj) hr⟩
      · refine (h.rv.chg (t := []) ((Chg.refl _ _).alloc _) (by simp)).chg (chg_of_grown hg) (fun b' hb' hm => ?_)
        obtain rfl : b' = b := by rw [hx] at hm; simpa using hm
        have := (hv.lt b' hb').2
        omega
    · exact (h.rv.chg (t := []) ((Chg.refl _ _).alloc _) (by simp)).chg (chg_of_grown hn) (by simp)
  · rcases hb with hb | ⟨hb, _⟩
    · rw [hb]; exact h.blk
    · exact .inr ⟨_, hb, by omega⟩
  · rcases h.blk with hx | ⟨b', hx, hge⟩
    · rw [hx] at hbb; exact .inl (by rw [hbb]; simp)
    · rw [hx] at hbb
      obtain rfl : b' = b := by simpa using hbb
      exact .inr hge

/-- One more longer copy is there. -/
theorem LongW.next {s : Nat} {fA fB : Nat → Nat → List Value} {w0 wi w wn : World} {base : Nat} {e le : TypeId} {lb : Nat} {vs : Wides} {H0 : Nat} {lg lg' : Value} {ys : List Value} {i : Nat} {v : Value} {xs : List (List Value)} {x : Value} {o : Obj}
    (h0 : OwnsW s w0 base e lb vs) (hH : w0.heap.size ≤ H0) (h : LongW s fA fB wi base e le lb vs H0 lg ys i) (hi : vs[i]? = some (v, xs)) (hx : GrowW s fA fB wi w base e v xs.length i x 16)
    (ho : wn.ownsRow H0 le 1 lg' (i + 1) (ys ++ [x])) (hg : (w.alloc o).grownBy wn lg.ownBlock)
    (hb : lg'.ownBlock = lg.ownBlock ∨ (lg'.ownBlock = some (w.heap.size + 1) ∧ (w.alloc o).grownBy wn none)) :
    LongW s fA fB wn base e le lb vs H0 lg' (ys ++ [x]) (i + 1) := by
  have hyl : ys.length = i := owns_len h.long
  have vlt : ∀ (j : Nat) (v : Value) (xs : List (List Value)) (b : Nat), vs[j]? = some (v, xs) → v.ownBlock = some b → b < H0 := fun j v xs b hj hb => by
    have := (h0.row j v xs hj).lt b hb
    omega
  have llt : ∀ b, lg.ownBlock = some b → H0 ≤ b ∧ b < wi.heap.size := fun b hb => h.long.lt b hb
  have c1 : Chg (v.ownBlock.toList ++ lg.ownBlock.toList) wi wn := ((hx.chg.mono (fun k hk => List.mem_append_left _ hk)).alloc _).grown hg (fun k hk => .inl (List.mem_append_right _ (by rw [hk]; simp)))
  have c2 : Chg lg.ownBlock.toList w wn := ((Chg.refl _ w).alloc _).grown hg (fun k hk => .inl (by rw [hk]; simp))
  have hz1 := hx.chg.size
  have hz2 := c2.size
  have nv : ∀ (j : Nat) (v' : Value) (xs' : List (List Value)) (b : Nat), j ≠ i → vs[j]? = some (v', xs') → v'.ownBlock = some b → b ∉ v.ownBlock.toList ++ lg.ownBlock.toList := fun j v' xs' b hne hj hb' hm => by
    rcases List.mem_append.1 hm with hm | hm
    · exact h0.apart j i v' xs' v xs b hne hj hi hb' (by simpa using hm)
    · have := vlt j v' xs' b hj hb'
      have := (llt b (by simpa using hm)).1
      omega
  refine ⟨fun j v' xs' hj => ?_, fun j v' xs' hj hij => ?_, ho, fun j v' xs' y hj hy => ?_, by have := h.size; omega⟩
  · refine (c1.cell (p := ⟨lb, j, none⟩) ?_ (fun hm => ?_)).trans (h.head j v' xs' hj)
    · have := h0.lt; have := h.size; show lb < _; omega
    · rcases List.mem_append.1 hm with hm | hm
      · exact h0.list i v xs hi (by simpa using hm)
      · have := (llt lb (by simpa using hm)).1
        have := h0.lt
        omega
  · exact (h.row j v' xs' hj (by omega)).chg c1 (fun b hb' => nv j v' xs' b (by omega) hj hb')
  · by_cases hji : j < i
    · rw [List.getElem?_append_left (by omega)] at hy
      have hd := h.done j v' xs' y hj hy
      refine ⟨hd.rv.chg c1 (fun b hb' => nv j v' xs' b (by omega) hj hb'), hd.ry.chg c1 (fun b hb' hm => ?_), fun b hb' => ?_⟩
      · obtain ⟨q1, q2, q3⟩ := hd.wh b hb'
        rcases q1 with q1 | q1
        · exact nv j v' xs' b (by omega) hj q1 hm
        · rcases List.mem_append.1 hm with hm | hm
          · have := vlt i v xs b hi (by simpa using hm)
            omega
          · exact q3 (by simpa using hm)
      · obtain ⟨q1, q2, q3⟩ := hd.wh b hb'
        refine ⟨q1, by omega, fun hl => ?_⟩
        rcases hb with hb | ⟨hb, _⟩
        · rw [hb] at hl; exact q3 hl
        · rw [hb] at hl
          simp at hl
          omega
    · have hjlt : j < (ys ++ [x]).length := (List.getElem?_eq_some_iff.1 hy).1
      obtain rfl : j = i := by simp at hjlt; omega
      obtain rfl : x = y := by
        rw [List.getElem?_append_right (by omega), hyl, Nat.sub_self] at hy
        simpa using hy
      rw [hi] at hj
      obtain ⟨rfl, rfl⟩ : v = v' ∧ xs = xs' := by simpa using hj
      have xb : ∀ b, x.ownBlock = some b → (v.ownBlock = some b ∨ wi.heap.size ≤ b) ∧ b < w.heap.size := fun b hb' => by
        refine ⟨?_, (hx.row.lt b hb').2⟩
        rcases hx.blk with q | ⟨b', q, hge⟩
        · exact .inl (by rw [← q]; exact hb')
        · rw [q] at hb'
          obtain rfl : b' = b := by simpa using hb'
          exact .inr hge
      refine ⟨hx.rv.chg c2 (fun b hb' hm => ?_), hx.row.rd.chg c2 (fun b hb' hm => ?_), fun b hb' => ?_⟩
      · have := vlt j v xs b hi hb'
        have := (llt b (by simpa using hm)).1
        omega
      · have hl := llt b (by simpa using hm)
        rcases (xb b hb').1 with q | q
        · have := vlt j v xs b hi q
          omega
        · omega
      · obtain ⟨q1, q2⟩ := xb b hb'
        have hsz := h.size
        refine ⟨?_, by omega, fun hl => ?_⟩
        · rcases q1 with q1 | q1
          · exact .inl q1
          · exact .inr (by omega)
        · rcases hb with hb | ⟨hb, _⟩
          · rw [hb] at hl
            have hl2 := llt b hl
            rcases q1 with q | q
            · have := vlt j v xs b hi q
              omega
            · omega
          · rw [hb] at hl
            simp at hl
            omega

end Go.Proofs.YtnkdgmnmmmjgjaaGreat
