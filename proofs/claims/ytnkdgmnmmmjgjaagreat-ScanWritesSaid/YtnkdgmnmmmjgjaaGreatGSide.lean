/-
  Things that lie side by side in memory: each with its blocks, and what is said of it while they stay. No function of the program is named here. By an AI agent.
-/
import Derived.Test.YtnkdgmnmmmjgjaaGreatGOwnMem
namespace Go.Proofs.YtnkdgmnmmmjgjaaGreat
open Go.RowKit

/-- Something in memory: its blocks, and what is said of it, which stands while these stay. -/
structure Thing where
  F : List Nat
  P : World → Prop
  lt : ∀ w, P w → ∀ k ∈ F, k < w.heap.size
  stays : ∀ w w' s, P w → Chg s w w' → (∀ k ∈ F, k ∉ s) → P w'

/-- Blocks that none of both has. -/
def Thing.off (a b : Thing) : Prop := ∀ k ∈ a.F, k ∉ b.F

theorem Thing.off.symm {a b : Thing} (h : a.off b) : b.off a := fun k hk hm => h k hm hk

/-- Things side by side, all of them newer than w0. -/
structure Side (w0 w : World) (ts : List Thing) : Prop where
  each : ∀ t ∈ ts, t.P w
  apart : ts.Pairwise Thing.off
  new : ∀ t ∈ ts, ∀ k ∈ t.F, w0.heap.size ≤ k
  chg : Chg [] w0 w

theorem Side.nil {w0 w : World} (c : Chg [] w0 w) : Side w0 w [] := ⟨(fun t h => by cases h), List.Pairwise.nil, (fun t h => by cases h), c⟩

theorem Side.size {w0 w : World} {ts : List Thing} (h : Side w0 w ts) : w0.heap.size ≤ w.heap.size := h.chg.size

theorem Side.quiet {w0 w w' : World} {ts : List Thing} (h : Side w0 w ts) (c : Chg [] w w') : Side w0 w' ts :=
  ⟨fun t ht => t.stays w w' [] (h.each t ht) c (fun _ _ => by simp), h.apart, h.new, h.chg.trans c⟩

theorem Side.get {w0 w : World} {ts : List Thing} (h : Side w0 w ts) (i : Nat) {t : Thing} (hi : ts[i]? = some t) : t.P w := h.each t (List.mem_of_getElem? hi)

theorem Side.perm {w0 w : World} {ts us : List Thing} (h : Side w0 w ts) (p : ts.Perm us) : Side w0 w us :=
  ⟨fun t ht => h.each t (p.mem_iff.2 ht), (List.Perm.pairwise_iff (R := Thing.off) (fun {a b} (q : a.off b) => q.symm) p).1 h.apart, fun t ht => h.new t (p.mem_iff.2 ht), h.chg⟩

theorem Side.sub {w0 w : World} {ts us : List Thing} (h : Side w0 w ts) (s : us.Sublist ts) : Side w0 w us :=
  ⟨fun t ht => h.each t (s.subset ht), h.apart.sublist s, fun t ht => h.new t (s.subset ht), h.chg⟩

theorem Side.tail {w0 w : World} {t : Thing} {ts : List Thing} (h : Side w0 w (t :: ts)) : Side w0 w ts := h.sub (List.sublist_cons_self _ _)

/-- What stood ahead turned into something else: in its own blocks, and in new ones. -/
theorem Side.swap {w0 w w' : World} {olds bs ts : List Thing} {s : List Nat} (h : Side w0 w (olds ++ ts)) (c : Chg s w w') (hs : ∀ k ∈ s, (∃ a ∈ olds, k ∈ a.F) ∨ w.heap.size ≤ k)
    (hb : ∀ b ∈ bs, b.P w') (hf : ∀ b ∈ bs, ∀ k ∈ b.F, (∃ a ∈ olds, k ∈ a.F) ∨ w.heap.size ≤ k) (ha : bs.Pairwise Thing.off) : Side w0 w' (bs ++ ts) := by
  obtain ⟨ha0, ht0, hat⟩ := List.pairwise_append.1 h.apart
  have old : ∀ t ∈ ts, ∀ k ∈ t.F, ¬ ((∃ a ∈ olds, k ∈ a.F) ∨ w.heap.size ≤ k) := fun t ht k hk hor => by
    rcases hor with ⟨a, haa, hka⟩ | hge
    · exact hat a haa t ht k hka hk
    · have := t.lt w (h.each t (List.mem_append_right _ ht)) k hk
      omega
  refine ⟨fun t ht => ?_, List.pairwise_append.2 ⟨ha, ht0, fun b hb2 t ht k hk hm => old t ht k hm (hf b hb2 k hk)⟩, fun t ht k hk => ?_, ?_⟩
  · rcases List.mem_append.1 ht with ht | ht
    · exact hb t ht
    · exact t.stays w w' s (h.each t (List.mem_append_right _ ht)) c (fun k hk hm => old t ht k hk (hs k hm))
  · rcases List.mem_append.1 ht with ht | ht
    · rcases hf t ht k hk with ⟨a, haa, hka⟩ | hge
      · exact h.new a (List.mem_append_left _ haa) k hka
      · have := h.chg.size
        omega
    · exact h.new t (List.mem_append_right _ ht) k hk
  · refine h.chg.fresh c (fun k hk => ?_)
    rcases hs k hk with ⟨a, haa, hka⟩ | hge
    · exact .inr (h.new a (List.mem_append_left _ haa) k hka)
    · have := h.chg.size
      exact .inr (by omega)

/-- The first of them turned. -/
theorem Side.turn {w0 w w' : World} {a b : Thing} {ts : List Thing} {s : List Nat} (h : Side w0 w (a :: ts)) (c : Chg s w w') (hs : ∀ k ∈ s, k ∈ a.F ∨ w.heap.size ≤ k) (hb : b.P w') (hf : ∀ k ∈ b.F, k ∈ a.F ∨ w.heap.size ≤ k) : Side w0 w' (b :: ts) := by
  refine Side.swap (olds := [a]) (bs := [b]) h c (fun k hk => ?_) (fun x hx => ?_) (fun x hx k hk => ?_) (List.pairwise_singleton _ _)
  · rcases hs k hk with q | q
    · exact .inl ⟨a, List.mem_singleton.2 rfl, q⟩
    · exact .inr q
  · rw [List.mem_singleton.1 hx]; exact hb
  · rw [List.mem_singleton.1 hx] at hk
    rcases hf k hk with q | q
    · exact .inl ⟨a, List.mem_singleton.2 rfl, q⟩
    · exact .inr q

/-- The first two turned into one. -/
theorem Side.join {w0 w w' : World} {a b c : Thing} {ts : List Thing} {s : List Nat} (h : Side w0 w (a :: b :: ts)) (ch : Chg s w w') (hs : ∀ k ∈ s, k ∈ a.F ∨ k ∈ b.F ∨ w.heap.size ≤ k) (hc : c.P w') (hf : ∀ k ∈ c.F, k ∈ a.F ∨ k ∈ b.F ∨ w.heap.size ≤ k) : Side w0 w' (c :: ts) := by
  refine Side.swap (olds := [a, b]) (bs := [c]) h ch (fun k hk => ?_) (fun x hx => ?_) (fun x hx k hk => ?_) (List.pairwise_singleton _ _)
  · rcases hs k hk with q | q | q
    · exact .inl ⟨a, by simp, q⟩
    · exact .inl ⟨b, by simp, q⟩
    · exact .inr q
  · rw [List.mem_singleton.1 hx]; exact hc
  · rw [List.mem_singleton.1 hx] at hk
    rcases hf k hk with q | q | q
    · exact .inl ⟨a, by simp, q⟩
    · exact .inl ⟨b, by simp, q⟩
    · exact .inr q

/-- One thing more, in new blocks. -/
theorem Side.add {w0 w w' : World} {b : Thing} {ts : List Thing} (h : Side w0 w ts) (c : Chg [] w w') (hb : b.P w') (hf : ∀ k ∈ b.F, w.heap.size ≤ k) : Side w0 w' (b :: ts) := by
  refine Side.swap (olds := []) (bs := [b]) h c (fun k hk => by cases hk) (fun x hx => ?_) (fun x hx k hk => ?_) (List.pairwise_singleton _ _)
  · rw [List.mem_singleton.1 hx]; exact hb
  · rw [List.mem_singleton.1 hx] at hk
    exact .inr (hf k hk)

/-- The i-th to the front. -/
def front (ts : List Thing) (i : Nat) : List Thing := match ts[i]? with
  | some t => t :: ts.eraseIdx i
  | none => ts

theorem front_perm : ∀ (ts : List Thing) (i : Nat), ts.Perm (front ts i)
  | [], i => by simp [front]
  | t :: ts, 0 => by simp [front]
  | t :: ts, i + 1 => by
    have ih := front_perm ts i
    unfold front at ih ⊢
    rw [List.getElem?_cons_succ, List.eraseIdx_cons_succ]
    cases h : ts[i]? with
    | none => exact List.Perm.refl _
    | some x =>
      rw [h] at ih
      exact (List.Perm.cons t ih).trans (List.Perm.swap x t _)

theorem Side.front {w0 w : World} {ts : List Thing} (h : Side w0 w ts) (i : Nat) : Side w0 w (front ts i) := h.perm (front_perm ts i)

theorem set_perm : ∀ (ts : List Thing) (i : Nat) (t : Thing), i < ts.length → (ts.set i t).Perm (t :: ts.eraseIdx i)
  | [], i, _, h => by cases h
  | a :: ts, 0, t, _ => by simp
  | a :: ts, i + 1, t, h => by
    rw [List.set_cons_succ, List.eraseIdx_cons_succ]
    exact (List.Perm.cons a (set_perm ts i t (by simpa using h))).trans (List.Perm.swap t a _)

theorem front_some {ts : List Thing} {i : Nat} {t : Thing} (h : ts[i]? = some t) : Go.Proofs.YtnkdgmnmmmjgjaaGreat.front ts i = t :: ts.eraseIdx i := by
  unfold Go.Proofs.YtnkdgmnmmmjgjaaGreat.front
  rw [h]

/-- The i-th of them turned. -/
theorem Side.turnAt {w0 w w' : World} {a b : Thing} {ts : List Thing} {s : List Nat} (h : Side w0 w ts) (i : Nat) (hi : ts[i]? = some a) (c : Chg s w w') (hs : ∀ k ∈ s, k ∈ a.F ∨ w.heap.size ≤ k) (hb : b.P w') (hf : ∀ k ∈ b.F, k ∈ a.F ∨ w.heap.size ≤ k) : Side w0 w' (ts.set i b) := by
  have h1 := h.front i
  rw [front_some hi] at h1
  exact (h1.turn c hs hb hf).perm (set_perm ts i b (List.getElem?_eq_some_iff.1 hi).1).symm

/-- What a call does to the thing whose blocks are F. -/
def Turns (w : World) (F : List Nat) (T : List Nat → Thing) (w' : World) : Prop := ∃ F', (T F').P w' ∧ (∀ k ∈ (T F').F, k ∈ F ∨ w.heap.size ≤ k) ∧ Chg F w w'

theorem Side.act {w0 w w' : World} {a : Thing} {ts : List Thing} {T : List Nat → Thing} (h : Side w0 w ts) (i : Nat) (hi : ts[i]? = some a) (c : Turns w a.F T w') : ∃ F', Side w0 w' (ts.set i (T F')) := by
  obtain ⟨F', h1, h2, h3⟩ := c
  exact ⟨F', h.turnAt i hi h3 (fun k hk => .inl hk) h1 h2⟩

/-- Cells in a row of their own. -/
def ownT (e : TypeId) (v : Value) (xs : List Value) : Thing where
  F := v.ownBlock.toList
  P := fun w => w.ownsRow 0 e 1 v xs.length xs
  lt := fun w h k hk => (h.lt k (by simpa using hk)).2
  stays := fun w w' s h c hs => owns_chg h c (fun k hk => hs k (by rw [hk]; simp))

/-- A block that is known whole. -/
def blkT (g : Nat) (e : TypeId) (vs : List Value) : Thing where
  F := [g]
  P := fun w => Blk w g e vs
  lt := fun w h k hk => by rw [List.mem_singleton.1 hk]; exact h.lt
  stays := fun w w' s h c hs => h.chg c (hs g (by simp))

/-- A row of their own more. -/
theorem Side.own {w0 w w' : World} {ts : List Thing} {e : TypeId} {v : Value} {n : Nat} {xs : List Value} (h : Side w0 w ts) (o : w'.ownsRow w.heap.size e 1 v n xs) (c : Chg [] w w') : Side w0 w' (ownT e v xs :: ts) := by
  have hn : xs.length = n := owns_len o
  subst hn
  exact h.add c (ownsRow_base (B' := 0) o (Nat.zero_le _)) (fun k hk => (o.lt k (by simpa [ownT] using hk)).1)

/-- One cell of such a row is written. -/
theorem Side.set {w0 w : World} {ts : List Thing} {e : TypeId} {g n c : Nat} {xs : List Value} (h : Side w0 w ts) (i : Nat) (hi : ts[i]? = some (ownT e (.slice (some ⟨g, 0, none⟩) n c) xs)) {k : Nat} (hk : k < xs.length) (u : Value) :
    Side w0 (w.setCell ⟨g, k, none⟩ u) (ts.set i (ownT e (.slice (some ⟨g, 0, none⟩) n c) (xs.set k u))) ∧ w.frozen? ⟨g, k, none⟩ = false ∧ ∃ x, w.cell? ⟨g, k, none⟩ = some x := by
  have o : w.ownsRow 0 e 1 (.slice (some ⟨g, 0, none⟩) n c) xs.length xs := h.get i hi
  have hn : n = xs.length := by
    rcases o.2 with ⟨h1, _⟩ | ⟨_, _, _, hv, _⟩
    · cases h1
    · simp at hv; exact hv.2.1
  subst hn
  obtain ⟨h1, h2, h3⟩ := owns_set o hk u
  refine ⟨h.turnAt i hi (s := [g]) ((Chg.refl _ _).setCell (.inl (by simp)) _) (fun k hk => .inl ?_) ?_ (fun k hk => .inl hk), h2, h3⟩
  · rw [List.mem_singleton.1 hk]
    simp [ownT, Value.ownBlock]
  · show (w.setCell ⟨g, k, none⟩ u).ownsRow 0 e 1 _ (xs.set k u).length (xs.set k u)
    rw [List.length_set]
    exact h1

end Go.Proofs.YtnkdgmnmmmjgjaaGreat
