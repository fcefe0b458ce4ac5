/-
  The program's disk: how it lies in memory. By an AI agent.
-/
import Derived.Test.YtkafkdlgflkjgaaGreatBG
import Derived.Test.YtkafkdlgflkjgaaGreatBGOwnMem
import Derived.Test.YtkafkdlgflkjgaaGreatBXorSpec
import Derived.Maps.OwnSet
import Derived.Deep.MidRow
import Derived.Deep.WholeRow
namespace Go.Proofs.YtkafkdlgflkjgaaGreat
open Go.RowKit Go.Maps

theorem int_law : Keyed Tryz.prog 3 := int_keyed Tryz.underlying3

/-- A sector's cells. -/
def bytesOf (b : List Nat) : List Value := (ints b).map (Value.int .u8)

theorem bytesOf_length (b : List Nat) : (bytesOf b).length = b.length := by simp [bytesOf, ints]

theorem bytesOf_one (b : List Nat) : ∀ v ∈ bytesOf b, v.oneCell' = true := by
 intro v hv
 obtain ⟨i, _, rfl⟩ := List.mem_map.1 hv
 rfl

/-- The cells of a cache. -/
def wcells : List (Nat × List Nat) → List Value
 | [] => []
 | p :: c => (.int .i64 (p.1 : Int) :: bytesOf p.2) ++ wcells c

theorem wcells_snoc : ∀ (c : List (Nat × List Nat)) (p : Nat × List Nat), wcells (c ++ [p]) = wcells c ++ (.int .i64 (p.1 : Int) :: bytesOf p.2)
 | [], p => by simp [wcells]
 | q :: c, p => by rw [List.cons_append, wcells, wcells_snoc c p, wcells, List.append_assoc]

/-- A write's cells among them. -/
theorem wcells_get : ∀ (c : List (Nat × List Nat)), (∀ p ∈ c, p.2.length = 128) → ∀ (i : Nat) (p : Nat × List Nat), c[i]? = some p → ∀ (j : Nat) (v : Value), (Value.int .i64 (p.1 : Int) :: bytesOf p.2)[j]? = some v → (wcells c)[i * 129 + j]? = some v
 | [], _, i, p, h, _, _, _ => by simp at h
 | q :: c, hl, 0, p, h, j, v, hv => by
   obtain rfl : q = p := by simpa using h
   have hj := (List.getElem?_eq_some_iff.1 hv).1
   rw [Nat.zero_mul, Nat.zero_add, wcells, List.getElem?_append_left hj]
   exact hv
 | q :: c, hl, i + 1, p, h, j, v, hv => by
   have hq := hl q List.mem_cons_self
   have hlen : (Value.int .i64 (q.1 : Int) :: bytesOf q.2).length = 129 := by rw [List.length_cons, bytesOf_length, hq]
   rw [wcells, List.getElem?_append_right (by rw [hlen]; omega), hlen, show (i + 1) * 129 + j - 129 = i * 129 + j by omega]
   exact wcells_get c (fun x hx => hl x (List.mem_cons_of_mem _ hx)) i p (by simpa using h) j v hv

/-- What a map by sectors says of a cache: each sector's last write. -/
structure LatD (D : DataW Unit) (c : List (Nat × List Nat)) : Prop where
 is : IsMap D
 say : ∀ k : Nat, (has D (.int .i64 (k : Int)) = false ∧ ∀ b, Dk.over k b c = b) ∨
  ∃ (i : Nat) (p : Nat × List Nat), has D (.int .i64 (k : Int)) = true ∧ D.atKey (.int .i64 (k : Int)) (.lit (.int .i64 0)) = .lit (.int .i64 (i : Int)) ∧ c[i]? = some p ∧ ∀ b, Dk.over k b c = p.2

theorem LatD.nil : LatD (.map []) [] := ⟨⟨[], rfl⟩, fun _ => .inl ⟨rfl, fun _ => rfl⟩⟩

theorem LatD.put {D : DataW Unit} {c : List (Nat × List Nat)} (h : LatD D c) (k : Nat) (b : List Nat) : LatD (D.put (.int .i64 (k : Int)) (.lit (.int .i64 (c.length : Int)))) (c ++ [(k, b)]) := by
 refine ⟨h.is.put _ _, fun j => ?_⟩
 by_cases hj : j = k
 ·subst hj
  refine .inr ⟨c.length, (j, b), has_put_same h.is (by exact trivial) _, atKey_put_same h.is (by exact trivial) _ _, by simp, fun b0 => ?_⟩
  rw [Dk.over_snoc, if_pos rfl]
 ·have hne : (Lit.int .i64 (j : Int)) ≠ Lit.int .i64 (k : Int) := fun e => hj (by have := Lit.int.inj e; omega)
  rcases h.say j with ⟨h1, h2⟩ | ⟨i, p, h1, h2, h3, h4⟩
  ·refine .inl ⟨by rw [has_put_other hne]; exact h1, fun b0 => ?_⟩
   rw [Dk.over_snoc, if_neg (fun e => hj e.symm)]
   exact h2 b0
  ·refine .inr ⟨i, p, by rw [has_put_other hne]; exact h1, by rw [atKey_put_other hne]; exact h2, ?_, fun b0 => ?_⟩
   ·rw [List.getElem?_append_left (List.getElem?_eq_some_iff.1 h3).1]
    exact h3
   ·rw [Dk.over_snoc, if_neg (fun e => hj e.symm)]
    exact h4 b0

/-- Block mb is such a map. -/
def LatIn (w : World) (mb : Nat) (c : List (Nat × List Nat)) : Prop := ∃ D : DataW Unit, w.ownsMap Tryz.prog 3 (plainElem Tryz.prog 3) mb c.length D ∧ LatD D c

theorem LatIn.lt {w : World} {mb : Nat} {c : List (Nat × List Nat)} (h : LatIn w mb c) : mb < w.heap.size := by
 obtain ⟨D, h, _⟩ := h
 exact h.lt

theorem LatIn.chg {w w' : World} {mb : Nat} {c : List (Nat × List Nat)} {s : List Nat} (h : LatIn w mb c) (k : Chg s w w') (hs : mb ∉ s) : LatIn w' mb c := by
 obtain ⟨D, ⟨es, clock, hb, r⟩, h2⟩ := h
 exact ⟨D, ⟨es, clock, by rw [k.block mb (Array.getElem?_eq_some_iff.1 hb).1 hs]; exact hb, r⟩, h2⟩

theorem LatIn.made (w : World) : LatIn (w.alloc (.map #[] 0)) w.heap.size [] := ⟨.map [], World.ownsMap_made _ _ _ _, LatD.nil⟩

theorem owns_chgN {w w' : World} {s : List Nat} {e : TypeId} {size n : Nat} {v : Value} {xs : List Value} (h : w.ownsRow 0 e size v n xs) (c : Chg s w w') (hs : ∀ k, v.ownBlock = some k → k ∉ s) : w'.ownsRow 0 e size v n xs := by
 refine ⟨h.1, ?_⟩
 rcases h.2 with h | ⟨g, cap, cur, h1, h2, h3, h4⟩
 ·exact .inl h
 ·refine .inr ⟨g, cap, cur, h1, h2, ?_, h4⟩
  rw [c.block g (Array.getElem?_eq_some_iff.1 h3).1 (hs g (by rw [h1]; rfl))]
  exact h3

/-- How a disk of the program's lies: its lasting sectors, its cache, the map by sectors. -/
structure DRep (w : World) (g : Nat) (F : List Nat) (d : Dk) (gd mb : Nat) (cv : Value) : Prop where
 blk : Blk w g 242 [.slice (some ⟨gd, 0, none⟩) d.last.length d.last.length, cv, .map (some mb), .bool d.bad]
 dur : Blk w gd 244 (bytesOf d.last.flatten)
 cac : w.ownsRow 0 295 129 cv d.cache.length (wcells d.cache)
 lat : LatIn w mb d.cache
 gF : g ∈ F
 dF : gd ∈ F ∧ gd ≠ g
 mF : mb ∈ F ∧ mb ≠ g ∧ mb ≠ gd
 cof : ∀ k, cv.ownBlock = some k → k ∈ F ∧ k ≠ g ∧ k ≠ gd ∧ k ≠ mb

/-- A disk of the program's, at block g: its blocks, what it has. -/
structure DiskIn (w : World) (g : Nat) (F : List Nat) (d : Dk) : Prop where
 lt : ∀ k ∈ F, k < w.heap.size
 fit : d.Fit
 rep : ∃ gd mb cv, DRep w g F d gd mb cv

theorem DRep.chg {w w' : World} {s : List Nat} {g : Nat} {F : List Nat} {d : Dk} {gd mb : Nat} {cv : Value} (h : DRep w g F d gd mb cv) (c : Chg s w w') (hs : ∀ k ∈ F, k ∉ s) : DRep w' g F d gd mb cv :=
 ⟨h.blk.chg c (hs g h.gF), h.dur.chg c (hs gd h.dF.1), owns_chgN h.cac c (fun k hk => hs k (h.cof k hk).1), h.lat.chg c (hs mb h.mF.1), h.gF, h.dF, h.mF, h.cof⟩

def DiskT (g : Nat) (d : Dk) (F : List Nat) : Thing where
 F := F
 P := fun w => DiskIn w g F d
 lt := fun w h => h.lt
 stays := fun w w' s h c hs => by
  obtain ⟨gd, mb, cv, r⟩ := h.rep
  exact ⟨fun k hk => Nat.lt_of_lt_of_le (h.lt k hk) c.size, h.fit, gd, mb, cv, r.chg c hs⟩

/-- A new disk, or none. -/
def DNewed (w : World) (ok : Prop) (d : Dk) (e : Ending) (w' : World) : Prop :=
 (¬ ok ∧ e = .returned (.tuple #[.pointer none, .int .u16 40]) ∧ Hid (Chg [] w w')) ∨
 (ok ∧ ∃ g F, e = .returned (.tuple #[.pointer (some ⟨g, 0, none⟩), .int .u16 0]) ∧ Hid ((DiskT g d F).P w') ∧ Hid (∀ k ∈ F, w.heap.size ≤ k) ∧ Hid (Chg [] w w'))

theorem cache128 {d : Dk} (h : d.Fit) : ∀ p ∈ d.cache, p.2.length = 128 := fun p hp => (h.wr p hp).2.1

theorem last128 {d : Dk} (h : d.Fit) : ∀ s ∈ d.last, s.length = 128 := fun s hs => (h.sec s hs).1

theorem Dk.Fit.flatLen {d : Dk} (h : d.Fit) : d.last.flatten.length = 128 * d.last.length := Dk.flat_len (fun s hs => (h.sec s hs).1)

/-- A cache's length is one that a slice can have. -/
theorem DRep.bound {w : World} {g : Nat} {F : List Nat} {d : Dk} {gd mb : Nat} {cv : Value} (h : DRep w g F d gd mb cv) : ∃ co cc, cv = .slice co d.cache.length cc ∧ d.cache.length ≤ cc ∧ cc ≤ 9223372036854775807 := by
 rcases h.cac.2 with ⟨rfl, h0⟩ | ⟨cb, cap, cur, rfl, _, _, h1, h2, _⟩
 ·exact ⟨none, 0, by rw [h0], by omega, by omega⟩
 ·exact ⟨_, _, rfl, h1, by simpa [maxLen] using h2⟩

/-- A write of the cache, as it lies. -/
theorem DRep.at {w : World} {g : Nat} {F : List Nat} {d : Dk} {gd mb : Nat} {cv : Value} (r : DRep w g F d gd mb cv) (hf : d.Fit) {i : Nat} {p : Nat × List Nat} (hp : d.cache[i]? = some p) :
 ∃ cb cc, cv = .slice (some ⟨cb, 0, none⟩) d.cache.length cc ∧ w.rangeAt cb (i * 129) (.int .i64 (p.1 : Int) :: bytesOf p.2) := by
 have hi := (List.getElem?_eq_some_iff.1 hp).1
 rcases r.cac.2 with ⟨_, h0⟩ | ⟨cb, cap, cur, hv, _⟩
 ·omega
 ·refine ⟨cb, cap, hv, fun j v hj => ?_⟩
  have := r.cac.cells (g := cb) (by rw [hv]; rfl) _ _ (wcells_get d.cache (cache128 hf) i p hp j v hj)
  rw [Addr.add_lit, Nat.zero_add] at this
  exact this

theorem rangeAt_tail {w : World} {b o : Nat} {v : Value} {cs : List Value} (h : w.rangeAt b o (v :: cs)) : w.cell? ⟨b, o, none⟩ = some v ∧ w.rangeAt b (o + 1) cs := by
 refine ⟨?_, fun j u hu => ?_⟩
 ·have := h 0 v rfl
  simpa using this
 ·have := h (j + 1) u (by simpa using hu)
  rw [show o + (j + 1) = o + 1 + j by omega] at this
  exact this

/-- A lasting sector, as it lies. -/
theorem DRep.sec {w : World} {g : Nat} {F : List Nat} {d : Dk} {gd mb : Nat} {cv : Value} (r : DRep w g F d gd mb cv) (hf : d.Fit) {k : Nat} (hk : k < d.last.length) :
 w.rangeAt gd (k * 128) (bytesOf (d.last.getD k [])) := fun j v hj => by
 have hl : (d.last.getD k []).length = 128 := by
  rw [List.getD_eq_getElem?_getD, List.getElem?_eq_getElem hk]
  exact last128 hf _ (List.getElem_mem hk)
 have hj2 := (List.getElem?_eq_some_iff.1 hj).1
 rw [bytesOf_length, hl] at hj2
 refine r.dur.cell ?_
 rw [← hj, ← Dk.flat_cut (last128 hf) hk]
 unfold bytesOf ints
 rw [List.map_take, List.map_drop, List.map_take, List.map_drop, List.getElem?_take_of_lt hj2, List.getElem?_drop, Nat.mul_comm]

end Go.Proofs.YtkafkdlgflkjgaaGreat

/-
  The program's disk: what only reads it, and what empties its cache. By an AI agent.
-/
namespace Go.Proofs.YtkafkdlgflkjgaaGreat
open Go.Maps Go.RowKit

set_option maxHeartbeats 1000000 in
set_option maxRecDepth 100000 in
theorem dfailed_any (g : Nat) (F : List Nat) (d : Dk) (w : World) (h : (DiskT g d F).P w) :
 Calls Tryz.prog 246 #[.pointer (some ⟨g, 0, none⟩)] w fun e w' => e = .returned (.bool d.bad) ∧ ∃ q, w' = w.drewN q := by
 have h' : DiskIn w g F d := h
 obtain ⟨gd, mb, cv, r⟩ := h'.rep
 have c0 := r.blk.cell (j := 3) rfl
 generalize d.bad = n at *
 clear h h' r
 go_enter Tryz.func246, Tryz.ntmps246
 go_wp2_with fail
 go_ret
 exact ⟨rfl, 0, rfl⟩

theorem Dk.check_bad2 {d : Dk} (h : d.bad = true) (a : Int) : d.check a = 2 := by unfold Dk.check; rw [if_pos h]

theorem Dk.check_out3 {d : Dk} (h : d.bad = false) {a : Int} (ha : ¬ d.has a) : d.check a = 3 := by
 unfold Dk.check; rw [if_neg (by rw [h]; decide), if_neg ha]

set_option maxHeartbeats 1000000 in
set_option maxRecDepth 100000 in
theorem dcheck_any (g : Nat) (F : List Nat) (d : Dk) (at_ : Int) (w : World) (h : (DiskT g d F).P w) (ha : -9223372036854775808 ≤ at_ ∧ at_ ≤ 9223372036854775807) :
 Calls Tryz.prog 244 #[.pointer (some ⟨g, 0, none⟩), .int .i64 at_] w fun e w' => e = .returned (.int .u16 ((d.check at_ : Nat) : Int)) ∧ w' = w := by
 have h' : DiskIn w g F d := h
 obtain ⟨gd, mb, cv, r⟩ := h'.rep
 have c0 := r.blk.cell (j := 0) rfl
 have c3 := r.blk.cell (j := 3) rfl
 by_cases hbad : d.bad = true
 ·rw [Dk.check_bad2 hbad at_]
  rw [hbad] at c3
  clear h h' r hbad
  go_enter Tryz.func244, Tryz.ntmps244
  go_wp2_with fail
  go_ret
  exact ⟨rfl, rfl⟩
 have hb0 : d.bad = false := by simpa using hbad
 rw [hb0] at c3
 by_cases hhas : d.has at_
 ·obtain ⟨k, rfl⟩ := Int.eq_ofNat_of_zero_le hhas.1
  have hk : k < d.last.length := by have := hhas.2; omega
  rw [(Dk.read_ok hb0 hk).1]
  have hk0 : (0 : Int) ≤ k := Int.natCast_nonneg _
  have hkn : ¬ (k : Int) < 0 := by omega
  have hk1 : ¬ (d.last.length : Int) ≤ k := by omega
  clear h h' r hbad hb0 hhas
  go_enter Tryz.func244, Tryz.ntmps244
  go_wp2_with fail
  go_ret
  exact ⟨rfl, rfl⟩
 ·rw [Dk.check_out3 hb0 hhas]
  have hcase : at_ < 0 ∨ (¬ at_ < 0 ∧ (d.last.length : Int) ≤ at_) := by
   unfold Dk.has at hhas
   omega
  clear h h' r hbad hb0 hhas
  rcases hcase with h1 | ⟨h1, h2⟩
  ·go_enter Tryz.func244, Tryz.ntmps244
   go_wp2_with fail
   go_ret
   exact ⟨rfl, rfl⟩
  ·go_enter Tryz.func244, Tryz.ntmps244
   go_wp2_with fail
   go_ret
   exact ⟨rfl, rfl⟩

/-- What emptying leaves. -/
def Emptied (w : World) (g : Nat) (x0 x3 : Value) (w' : World) : Prop :=
 ∃ mb, w.heap.size ≤ mb ∧ Blk w' g 242 [x0, .slice none 0 0, .map (some mb), x3] ∧ LatIn w' mb [] ∧ Chg [g] w w'

set_option maxHeartbeats 1000000 in
set_option maxRecDepth 100000 in
theorem dempty_any (g : Nat) (x0 x1 x2 x3 : Value) (w : World) (h : Blk w g 242 [x0, x1, x2, x3]) :
 Calls Tryz.prog 199 #[.pointer (some ⟨g, 0, none⟩)] w fun e w' => e = .returned (.tuple #[]) ∧ Hid (Emptied w g x0 x3 w') := by
 have hlt := h.lt
 have B1 := h.alloc (.map #[] 0)
 have c1 := B1.cell (j := 1) rfl
 have f1 := B1.free 1
 have B2 := B1.set 1 (.slice none 0 0)
 have c2 := B2.cell (j := 2) rfl
 have f2 := B2.free 2
 have hmm := @run_makeMap Tryz.prog
 have L := LatIn.made w
 have C : Chg [g] w (((w.alloc (.map #[] 0)).setCell ⟨g, 1, none⟩ (.slice none 0 0)).setCell ⟨g, 2, none⟩ (.map (some w.heap.size))) := (((Chg.refl _ _).alloc _).setCell (.inl (by simp)) _).setCell (.inl (by simp)) _
 have C2 : Chg [g] (w.alloc (.map #[] 0)) (((w.alloc (.map #[] 0)).setCell ⟨g, 1, none⟩ (.slice none 0 0)).setCell ⟨g, 2, none⟩ (.map (some w.heap.size))) := ((Chg.refl _ _).setCell (.inl (by simp)) _).setCell (.inl (by simp)) _
 have E : Hid (Emptied w g x0 x3 (((w.alloc (.map #[] 0)).setCell ⟨g, 1, none⟩ (.slice none 0 0)).setCell ⟨g, 2, none⟩ (.map (some w.heap.size)))) :=
  ⟨w.heap.size, Nat.le_refl _, B2.set 2 _, L.chg C2 (by intro hm; rw [List.mem_singleton] at hm; omega), C⟩
 clear h hlt B1 B2 L C C2
 go_enter Tryz.func199, Tryz.ntmps199
 go_wp2_with fail
 go_end0
 exact ⟨rfl, E⟩

theorem Emptied.turns {w w' : World} {g : Nat} {F : List Nat} {d : Dk} {gd mb : Nat} {cv : Value} {b : Bool} (hlt : ∀ k ∈ F, k < w.heap.size) (hf : d.Fit) (r : DRep w g F d gd mb cv)
 (h : Emptied w g (.slice (some ⟨gd, 0, none⟩) d.last.length d.last.length) (.bool b) w') : Turns w F (DiskT g { d with cache := [], bad := b }) w' := by
 obtain ⟨m2, h1, h2, h3, h4⟩ := h
 have hg := hlt g r.gF
 have hd := hlt gd r.dF.1
 refine ⟨F ++ [m2], ⟨fun k hk => ?_, ⟨hf.lo, hf.hi, hf.sec, (fun x hx => by cases hx), (fun _ => rfl)⟩, gd, m2, .slice none 0 0, ⟨h2, r.dur.chg h4 (by simp; exact r.dF.2), World.ownsRow_nil _ _ _ _, h3, List.mem_append_left _ r.gF, ⟨List.mem_append_left _ r.dF.1, r.dF.2⟩, ⟨by simp, by omega, by omega⟩, fun k hk => by simp [Value.ownBlock] at hk⟩⟩, fun k hk => ?_, h4.mono (fun k hk => by rw [List.mem_singleton.1 hk]; exact r.gF)⟩
 ·rcases List.mem_append.1 hk with hk | hk
  ·exact Nat.lt_of_lt_of_le (hlt k hk) h4.size
  ·rw [List.mem_singleton.1 hk]; exact h3.lt
 ·rcases List.mem_append.1 hk with hk | hk
  ·exact .inl hk
  ·rw [List.mem_singleton.1 hk]; exact .inr h1

set_option maxHeartbeats 1000000 in
set_option maxRecDepth 100000 in
theorem dfail_any (g : Nat) (F : List Nat) (d : Dk) (w : World) (h : (DiskT g d F).P w) :
 Calls Tryz.prog 136 #[.pointer (some ⟨g, 0, none⟩)] w fun e w' => e = .returned (.tuple #[]) ∧ Hid (Turns w F (DiskT g d.fail) w') := by
 have h' : DiskIn w g F d := h
 obtain ⟨gd, mb, cv, r⟩ := h'.rep
 have c3 := r.blk.cell (j := 3) rfl
 have f3 := r.blk.free 3
 have B := r.blk.set 3 (.bool true)
 have CE := dempty_any g _ _ _ _ _ B
 have C1 : Chg [g] w (w.setCell ⟨g, 3, none⟩ (.bool true)) := (Chg.refl _ _).setCell (.inl (by simp)) _
 have EE : Hid (∀ w', Emptied (w.setCell ⟨g, 3, none⟩ (.bool true)) g (.slice (some ⟨gd, 0, none⟩) d.last.length d.last.length) (.bool true) w' → Turns w F (DiskT g d.fail) w') := fun w' he => by
  obtain ⟨m2, h1, h2, h3, h4⟩ := he
  have hsz : (w.setCell ⟨g, 3, none⟩ (.bool true)).heap.size = w.heap.size := by simp [World.setCell]
  rw [hsz] at h1
  exact Emptied.turns h'.lt h'.fit r ⟨m2, h1, h2, h3, C1.trans h4⟩
 replace CE := Lib.hid CE
 clear h h' r B C1
 go_enter Tryz.func136, Tryz.ntmps136
 go_wp2_with fail
 refine CE.out.mono ?_
 rintro e w' ⟨rfl, hE⟩
 have T := EE.out _ hE
 replace T := Lib.hid T
 clear CE EE
 go_wp2_with fail
 go_end0
 exact ⟨rfl, T⟩


theorem info_sector : (Tryz.prog.info? 244).map (fun i => (i.zero, i.size, i.bytes)) = some (some (.agg (Array.replicate 128 (.int .u8 0))), 128, 128) := by kernel_rfl

theorem sector_size : (Tryz.prog.info? 244).map (·.size) = some 128 := by kernel_rfl

theorem made_noughts (n : Nat) : (madeCells (Value.agg (Array.replicate 128 (Value.int .u8 0))).cells (n * 128)).toList = bytesOf (List.replicate n (List.replicate 128 0)).flatten := by
 have e : (List.replicate n (List.replicate 128 0)).flatten = List.replicate (n * 128) 0 := by rw [List.flatten_replicate_replicate]
 rw [e]
 apply List.ext_getElem?
 intro j
 by_cases hj : j < n * 128
 ·have hm : j % 128 < 128 := Nat.mod_lt _ (by decide)
  simp [madeCells, Value.cells, bytesOf, ints, hj, hm]
 ·simp [madeCells, Value.cells, bytesOf, ints, hj]

/-- A made row of greater elements is known whole. -/
theorem Blk.ownedN {w : World} {base : Nat} {e : TypeId} {g n size : Nat} {xs : List Value} (h : w.ownsRow base e size (.slice (some ⟨g, 0, none⟩) n n) n xs) : Blk w g e xs ∧ base ≤ g := by
 rcases h.2 with ⟨h0, _⟩ | ⟨g', cap, cur, hv, hb, hg, _, _, hs, ht⟩
 ·cases h0
 ·obtain ⟨h1, h2⟩ : g = g' ∧ n = cap := by simpa using hv
  subst h1 h2
  refine ⟨?_, hb⟩
  unfold Blk
  rw [hg, ← ht, List.take_of_length_le (by simp [hs])]

theorem has_new (n : Nat) : (Dk.new n).last = List.replicate n (List.replicate 128 0) := rfl

set_option maxHeartbeats 1000000 in
set_option maxRecDepth 100000 in
theorem dnew_aux (n : Int) (w : World) (ok : Prop) (OK : Hid (ok ↔ 1 ≤ n ∧ n ≤ 8192)) : Calls Tryz.prog 151 #[.int .i64 n] w (DNewed w ok (Dk.new n.toNat)) := by
 by_cases hok : 1 ≤ n ∧ n ≤ 8192
 ·have HO : Hid ok := OK.out.2 hok
  clear OK
  obtain ⟨k, rfl⟩ := Int.eq_ofNat_of_zero_le (show (0 : Int) ≤ n by omega)
  have hk1 : 1 ≤ k := by omega
  have hk2 : k ≤ 8192 := by omega
  have h1 : ¬ (k : Int) < 1 := by omega
  have h2 : ¬ (8192 : Int) < k := by omega
  rw [Int.toNat_natCast]
  have FN := Lib.hid (Dk.Fit.new hk1 hk2)
  obtain ⟨i0, hi, hz0, hz1, hz2⟩ := info_parts info_sector
  replace hi := Lib.hid hi
  replace hz0 := Lib.hid hz0
  replace hz1 := Lib.hid hz1
  replace hz2 := Lib.hid hz2
  clear hok
  go_enter Tryz.func151, Tryz.ntmps151
  go_wp2_with (with_reducible refine wpList_make_full _ rfl (.tmp 11) (.tmp 11) 238 rfl w.heap.size 244 i0 _ 128 Tryz.underlying238 hi.out hz0.out hz1.out .i64 .i64 (k : Int) (k : Int) k rfl rfl rfl rfl (by rw [hz2.out]; omega) (by unfold maxLen; omega) (Nat.le_refl _) ?_; intro w1 ow gr)
  obtain ⟨B0, hb0⟩ := Blk.ownedN ow
  have C1 : Chg [] w w1 := (Chg.refl _ _).grown gr (by simp)
  have hsz := C1.size
  have hw0 : w.heap.size < w1.heap.size := B0.lt
  have BG := Blk.made w1 [.slice (some ⟨w.heap.size, 0, none⟩) k k, .slice none 0 0, .map none, .bool false] 242
  have BD := B0.alloc (.cells #[.slice (some ⟨w.heap.size, 0, none⟩) k k, .slice none 0 0, .map none, .bool false] 242)
  have CE := dempty_any w1.heap.size _ _ _ _ _ BG
  refine CE.mono ?_
  rintro e w2 ⟨rfl, m2, h1, h2, h3, h4⟩
  have T : Hid (∃ g F, (g = w1.heap.size) ∧ Hid ((DiskT g (Dk.new k) F).P w2) ∧ Hid (∀ k ∈ F, w.heap.size ≤ k) ∧ Hid (Chg [] w w2)) := by
   have hs2 : (w1.alloc (.cells #[.slice (some ⟨w.heap.size, 0, none⟩) k k, .slice none 0 0, .map none, .bool false] 242)).heap.size = w1.heap.size + 1 := by simp
   have h1' : w1.heap.size + 1 ≤ m2 := by rw [← hs2]; exact h1
   have hs4 := h4.size
   have hl3 := h3.lt
   have hln : (Dk.new k).last.length = k := by simp [Dk.new]
   refine ⟨w1.heap.size, [w1.heap.size, w.heap.size, m2], rfl, ⟨fun j hj => ?_, FN.out, w.heap.size, m2, .slice none 0 0, ⟨by rw [hln]; exact h2, ?_, World.ownsRow_nil _ _ _ _, h3, by simp, ⟨by simp, by omega⟩, ⟨by simp, by omega, by omega⟩, fun j hj => by simp [Value.ownBlock] at hj⟩⟩, fun j hj => ?_, ?_⟩
   ·rcases List.mem_cons.1 hj with rfl | hj
    ·omega
    rcases List.mem_cons.1 hj with rfl | hj
    ·omega
    rw [List.mem_singleton.1 hj]; exact hl3
   ·rw [has_new, ← made_noughts]
    exact BD.chg h4 (by simp; omega)
   ·rcases List.mem_cons.1 hj with rfl | hj
    ·omega
    rcases List.mem_cons.1 hj with rfl | hj
    ·omega
    rw [List.mem_singleton.1 hj]; omega
   ·exact (C1.alloc _).fresh h4 (fun j hj => by rw [List.mem_singleton.1 hj]; exact .inr hsz)
  clear h1 h2 h3 h4 CE BD BG B0 C1 hsz hw0 ow gr hb0
  go_wp2_with fail
  go_ret2
  obtain ⟨g, F, rfl, t2, t3, t4⟩ := T.out
  exact .inr ⟨HO.out, _, F, rfl, t2, t3, t4⟩
 ·have HO : Hid (¬ ok) := fun h => hok (OK.out.1 h)
  have hcase : n < 1 ∨ (¬ n < 1 ∧ 8192 < n) := by omega
  clear OK hok
  rcases hcase with h1 | ⟨h1, h2⟩
  ·go_enter Tryz.func151, Tryz.ntmps151
   go_wp2_with fail
   go_ret2
   exact .inl ⟨HO.out, rfl, Chg.refl _ _⟩
  ·go_enter Tryz.func151, Tryz.ntmps151
   go_wp2_with fail
   go_ret2
   exact .inl ⟨HO.out, rfl, Chg.refl _ _⟩

theorem dnew_any (n : Int) (w : World) (_hn : -9223372036854775808 ≤ n ∧ n ≤ 9223372036854775807) : Calls Tryz.prog 151 #[.int .i64 n] w (DNewed w (1 ≤ n ∧ n ≤ 8192) (Dk.new n.toNat)) := dnew_aux n w _ Iff.rfl

end Go.Proofs.YtkafkdlgflkjgaaGreat
