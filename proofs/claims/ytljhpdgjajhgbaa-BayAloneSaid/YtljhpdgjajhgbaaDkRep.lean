/-
  The program's disk: how it lies in memory. By an AI agent.
-/
import Derived.Test.YtljhpdgjajhgbaaDkSpec
import Derived.Test.YtljhpdgjajhgbaaGSide
import Derived.Test.YtljhpdgjajhgbaaXorSpec
import Derived.Test.YtljhpdgjajhgbaaGOwnMem
import Derived.Maps.OwnSet
import Derived.Deep.MidRow
import Derived.Deep.WholeRow
namespace Go.Proofs.Ytljhpdgjajhgbaa
open Go.RowKit Go.Maps

theorem int_law : Keyed Try.prog 3 := int_keyed Try.underlying3

/-- A sector's cells. -/
def bytesOf (b : List Nat) : List Value := (ints b).map (Value.int .u8)

theorem bytesOf_length (b : List Nat) : (bytesOf b).length = b.length := by simp [bytesOf, ints]

theorem bytesOf_append (a b : List Nat) : bytesOf (a ++ b) = bytesOf a ++ bytesOf b := by simp [bytesOf, ints]

theorem bytesOf_one (b : List Nat) : ∀ v ∈ bytesOf b, v.oneCell' = true := by
  intro v hv
  obtain ⟨i, _, rfl⟩ := List.mem_map.1 hv
  rfl

/-- The cells of a cache. -/
def wcells : List (Nat × List Nat) → List Value
  | [] => []
  | p :: c => (.int .i64 (p.1 : Int) :: bytesOf p.2) ++ wcells c

theorem wcells_length : ∀ (c : List (Nat × List Nat)), (∀ p ∈ c, p.2.length = 128) → (wcells c).length = c.length * 129
  | [], _ => rfl
  | p :: c, h => by
    rw [wcells, List.length_append, List.length_cons, bytesOf_length, h p List.mem_cons_self, wcells_length c (fun q hq => h q (List.mem_cons_of_mem _ hq)), List.length_cons]
    omega

theorem wcells_snoc : ∀ (c : List (Nat × List Nat)) (p : Nat × List Nat), wcells (c ++ [p]) = wcells c ++ (.int .i64 (p.1 : Int) :: bytesOf p.2)
  | [], p => by simp [wcells]
  | q :: c, p => by rw [List.cons_append, wcells, wcells_snoc c p, wcells, List.append_assoc]

/-- A write's cells among them. -/
theorem wcells_get : ∀ (c : List (Nat × List Nat)), (∀ p ∈ c, p.2.length = 128) → ∀ (i : Nat) (p : Nat × List Nat), c[i]? = some p → ∀ (j : Nat) (v : Value), (Value.int .i64 (p.1 : Int) :: bytesOf p.2)[j]? = some v → (wcells c)[i * 129 + j]? = some v
  | [], _, i, p, h, _, _, _ => by simp at h
  | q :: c, hl, 0, p, h, j, v, hv => by
    obtain rfl : q = p := by simpa using h
    have hj := (List.getElem?_eq_some_iff.1 hv).1
    rw [Nat.zero_mul, Nat.zero_add, wcells, List.getElem?_append_left hj]
    exact hv
  | q :: c, hl, i + 1, p, h, j, v, hv => by
    have hq := hl q List.mem_cons_self
    have hlen : (Value.int .i64 (q.1 : Int) :: bytesOf q.2).length = 129 := by rw [List.length_cons, bytesOf_length, hq]
    rw [wcells, List.getElem?_append_right (by rw [hlen]; omega), hlen, show (i + 1) * 129 + j - 129 = i * 129 + j by omega]
    exact wcells_get c (fun x hx => hl x (List.mem_cons_of_mem _ hx)) i p (by simpa using h) j v hv

/-- What a map by sectors says of a cache: each sector's last write. -/
structure LatD (D : DataW Unit) (c : List (Nat × List Nat)) : Prop where
  is : IsMap D
  say : ∀ k : Nat, (has D (.int .i64 (k : Int)) = false ∧ ∀ b, Dk.over k b c = b) ∨
    ∃ (i : Nat) (p : Nat × List Nat), has D (.int .i64 (k : Int)) = true ∧ D.atKey (.int .i64 (k : Int)) (.lit (.int .i64 0)) = .lit (.int .i64 (i : Int)) ∧ c[i]? = some p ∧ ∀ b, Dk.over k b c = p.2

theorem LatD.nil : LatD (.map []) [] := ⟨⟨[], rfl⟩, fun _ => .inl ⟨rfl, fun _ => rfl⟩⟩

theorem LatD.put {D : DataW Unit} {c : List (Nat × List Nat)} (h : LatD D c) (k : Nat) (b : List Nat) : LatD (D.put (.int .i64 (k : Int)) (.lit (.int .i64 (c.length : Int)))) (c ++ [(k, b)]) := by
  refine ⟨h.is.put _ _, fun j => ?_⟩
  by_cases hj : j = k
  · subst hj
    refine .inr ⟨c.length, (j, b), has_put_same h.is (by exact trivial) _, atKey_put_same h.is (by exact trivial) _ _, by simp, fun b0 => ?_⟩
    rw [Dk.over_snoc, if_pos rfl]
  · have hne : (Lit.int .i64 (j : Int)) ≠ Lit.int .i64 (k : Int) := fun e => hj (by have := Lit.int.inj e; omega)
    rcases h.say j with ⟨h1, h2⟩ | ⟨i, p, h1, h2, h3, h4⟩
    · refine .inl ⟨by rw [has_put_other hne]; exact h1, fun b0 => ?_⟩
      rw [Dk.over_snoc, if_neg (fun e => hj e.symm)]
      exact h2 b0
    · refine .inr ⟨i, p, by rw [has_put_other hne]; exact h1, by rw [atKey_put_other hne]; exact h2, ?_, fun b0 => ?_⟩
      · rw [List.getElem?_append_left (List.getElem?_eq_some_iff.1 h3).1]
        exact h3
      · rw [Dk.over_snoc, if_neg (fun e => hj e.symm)]
        exact h4 b0

/-- Block mb is such a map. -/
def LatIn (w : World) (mb : Nat) (c : List (Nat × List Nat)) : Prop := ∃ D : DataW Unit, w.ownsMap Try.prog 3 (plainElem Try.prog 3) mb c.length D ∧ LatD D c

theorem LatIn.lt {w : World} {mb : Nat} {c : List (Nat × List Nat)} (h : LatIn w mb c) : mb < w.heap.size := by
  obtain ⟨D, h, _⟩ := h
  exact h.lt

theorem LatIn.chg {w w' : World} {mb : Nat} {c : List (Nat × List Nat)} {s : List Nat} (h : LatIn w mb c) (k : Chg s w w') (hs : mb ∉ s) : LatIn w' mb c := by
  obtain ⟨D, ⟨es, clock, hb, r⟩, h2⟩ := h
  exact ⟨D, ⟨es, clock, by rw [k.block mb (Array.getElem?_eq_some_iff.1 hb).1 hs]; exact hb, r⟩, h2⟩

theorem LatIn.made (w : World) : LatIn (w.alloc (.map #[] 0)) w.heap.size [] := ⟨.map [], World.ownsMap_made _ _ _ _, LatD.nil⟩

theorem owns_chgN {w w' : World} {s : List Nat} {e : TypeId} {size n : Nat} {v : Value} {xs : List Value} (h : w.ownsRow 0 e size v n xs) (c : Chg s w w') (hs : ∀ k, v.ownBlock = some k → k ∉ s) : w'.ownsRow 0 e size v n xs := by
  refine ⟨h.1, ?_⟩
  rcases h.2 with h | ⟨g, cap, cur, h1, h2, h3, h4⟩
  · exact .inl h
  · refine .inr ⟨g, cap, cur, h1, h2, ?_, h4⟩
    rw [c.block g (Array.getElem?_eq_some_iff.1 h3).1 (hs g (by rw [h1]; rfl))]
    exact h3

/-- How a disk of the program's lies: its lasting sectors, its cache, the map by sectors. -/
structure DRep (w : World) (g : Nat) (F : List Nat) (d : Dk) (gd mb : Nat) (cv : Value) : Prop where
  blk : Blk w g 82 [.slice (some ⟨gd, 0, none⟩) d.last.length d.last.length, cv, .map (some mb), .bool d.bad]
  dur : Blk w gd 84 (bytesOf d.last.flatten)
  cac : w.ownsRow 0 87 129 cv d.cache.length (wcells d.cache)
  lat : LatIn w mb d.cache
  gF : g ∈ F
  dF : gd ∈ F ∧ gd ≠ g
  mF : mb ∈ F ∧ mb ≠ g ∧ mb ≠ gd
  cof : ∀ k, cv.ownBlock = some k → k ∈ F ∧ k ≠ g ∧ k ≠ gd ∧ k ≠ mb

/-- A disk of the program's, at block g: its blocks, what it has. -/
structure DiskIn (w : World) (g : Nat) (F : List Nat) (d : Dk) : Prop where
  lt : ∀ k ∈ F, k < w.heap.size
  fit : d.Fit
  rep : ∃ gd mb cv, DRep w g F d gd mb cv

theorem DRep.chg {w w' : World} {s : List Nat} {g : Nat} {F : List Nat} {d : Dk} {gd mb : Nat} {cv : Value} (h : DRep w g F d gd mb cv) (c : Chg s w w') (hs : ∀ k ∈ F, k ∉ s) : DRep w' g F d gd mb cv :=
  ⟨h.blk.chg c (hs g h.gF), h.dur.chg c (hs gd h.dF.1), owns_chgN h.cac c (fun k hk => hs k (h.cof k hk).1), h.lat.chg c (hs mb h.mF.1), h.gF, h.dF, h.mF, h.cof⟩

def DiskT (g : Nat) (d : Dk) (F : List Nat) : Thing where
  F := F
  P := fun w => DiskIn w g F d
  lt := fun w h => h.lt
  stays := fun w w' s h c hs => by
    obtain ⟨gd, mb, cv, r⟩ := h.rep
    exact ⟨fun k hk => Nat.lt_of_lt_of_le (h.lt k hk) c.size, h.fit, gd, mb, cv, r.chg c hs⟩

/-- A new disk, or none. -/
def DNewed (w : World) (ok : Prop) (d : Dk) (e : Ending) (w' : World) : Prop :=
  (¬ ok ∧ e = .returned (.tuple #[.pointer none, .int .u16 40]) ∧ Hid (Chg [] w w')) ∨
  (ok ∧ ∃ g F, e = .returned (.tuple #[.pointer (some ⟨g, 0, none⟩), .int .u16 0]) ∧ Hid ((DiskT g d F).P w') ∧ Hid (∀ k ∈ F, w.heap.size ≤ k) ∧ Hid (Chg [] w w'))

theorem cache128 {d : Dk} (h : d.Fit) : ∀ p ∈ d.cache, p.2.length = 128 := fun p hp => (h.wr p hp).2.1

theorem last128 {d : Dk} (h : d.Fit) : ∀ s ∈ d.last, s.length = 128 := fun s hs => (h.sec s hs).1

theorem Dk.Fit.flatLen {d : Dk} (h : d.Fit) : d.last.flatten.length = 128 * d.last.length := Dk.flat_len (fun s hs => (h.sec s hs).1)

/-- A cache's length is one that a slice can have. -/
theorem DRep.bound {w : World} {g : Nat} {F : List Nat} {d : Dk} {gd mb : Nat} {cv : Value} (h : DRep w g F d gd mb cv) : ∃ co cc, cv = .slice co d.cache.length cc ∧ d.cache.length ≤ cc ∧ cc ≤ 9223372036854775807 := by
  rcases h.cac.2 with ⟨rfl, h0⟩ | ⟨cb, cap, cur, rfl, _, _, h1, h2, _⟩
  · exact ⟨none, 0, by rw [h0], by omega, by omega⟩
  · exact ⟨_, _, rfl, h1, by simpa [maxLen] using h2⟩

/-- A write of the cache, as it lies. -/
theorem DRep.at {w : World} {g : Nat} {F : List Nat} {d : Dk} {gd mb : Nat} {cv : Value} (r : DRep w g F d gd mb cv) (hf : d.Fit) {i : Nat} {p : Nat × List Nat} (hp : d.cache[i]? = some p) :
    ∃ cb cc, cv = .slice (some ⟨cb, 0, none⟩) d.cache.length cc ∧ w.rangeAt cb (i * 129) (.int .i64 (p.1 : Int) :: bytesOf p.2) := by
  have hi := (List.getElem?_eq_some_iff.1 hp).1
  rcases r.cac.2 with ⟨_, h0⟩ | ⟨cb, cap, cur, hv, _⟩
  · omega
  · refine ⟨cb, cap, hv, fun j v hj => ?_⟩
    have := r.cac.cells (g := cb) (by rw [hv]; rfl) _ _ (wcells_get d.cache (cache128 hf) i p hp j v hj)
    rw [Addr.add_lit, Nat.zero_add] at this
    exact this

theorem rangeAt_tail {w : World} {b o : Nat} {v : Value} {cs : List Value} (h : w.rangeAt b o (v :: cs)) : w.cell? ⟨b, o, none⟩ = some v ∧ w.rangeAt b (o + 1) cs := by
  refine ⟨?_, fun j u hu => ?_⟩
  · have := h 0 v rfl
    simpa using this
  · have := h (j + 1) u (by simpa using hu)
    rw [show o + (j + 1) = o + 1 + j by omega] at this
    exact this

/-- A lasting sector, as it lies. -/
theorem DRep.sec {w : World} {g : Nat} {F : List Nat} {d : Dk} {gd mb : Nat} {cv : Value} (r : DRep w g F d gd mb cv) (hf : d.Fit) {k : Nat} (hk : k < d.last.length) :
    w.rangeAt gd (k * 128) (bytesOf (d.last.getD k [])) := fun j v hj => by
  have hl : (d.last.getD k []).length = 128 := by
    rw [List.getD_eq_getElem?_getD, List.getElem?_eq_getElem hk]
    exact last128 hf _ (List.getElem_mem hk)
  have hj2 := (List.getElem?_eq_some_iff.1 hj).1
  rw [bytesOf_length, hl] at hj2
  refine r.dur.cell ?_
  rw [← hj, ← Dk.flat_cut (last128 hf) hk]
  unfold bytesOf ints
  rw [List.map_take, List.map_drop, List.map_take, List.map_drop, List.getElem?_take_of_lt hj2, List.getElem?_drop, Nat.mul_comm]

end Go.Proofs.Ytljhpdgjajhgbaa
