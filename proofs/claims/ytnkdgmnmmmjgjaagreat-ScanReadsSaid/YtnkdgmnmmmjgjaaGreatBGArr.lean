/-
  Arrays by value, at an operation: made, read, written. No function of the program is named here. By an AI agent.
-/
import Derived.Test.YtnkdgmnmmmjgjaaGreatBGOwnMem
import Derived.Deep.MidRow
namespace Go.Proofs.YtnkdgmnmmmjgjaaGreat
open Go.RowKit

/-- A variable of a great type is made. -/
theorem wpList_alloc_arr {P : Program} {w : World} {ops : Array Oper} {rest : List Oper} {o : Oper} {a : Act} {Q : Exit → Act → World → Prop} (hgd : o.guard = none) (t : TypeId) (ho : o.op = .alloc t)
    (i : TypeInfo) (z : Value) (hi : P.info? t = some i) (hz : i.zero = some z)
    (h : wpList P ops Q rest (a.put o.dst (.pointer (some ⟨w.heap.size, 0, none⟩))) (w.alloc (.cells z.cells t))) : wpList P ops Q (o :: rest) a w := by
  refine wpList_plain hgd fun K hK => ?_
  unfold Oper.wp
  simp [execOp, ho, Instr.alloc, zeroValue, typeInfo, hi, hz, newVar, newRow, Result.andThen]
  exact hK _ _ h

/-- Cells into the middle of a block that is known whole. -/
theorem Blk.setCells {g : Nat} {e : TypeId} : ∀ (cs : List Value) (cur : List Value) (off : Nat) (w : World), Blk w g e cur → off + cs.length ≤ cur.length → Blk (w.setCells g off cs) g e (lay cur off cs)
  | [], cur, off, w, h, _ => by rw [lay_nil]; exact h
  | v :: cs, cur, off, w, h, hl => by
    have hl' : off + (cs.length + 1) ≤ cur.length := hl
    rw [World.setCells]
    have := Blk.setCells cs (cur.set off v) (off + 1) _ (h.set off v) (by rw [List.length_set]; omega)
    rw [show Go.Proofs.YtnkdgmnmmmjgjaaGreat.lay cur off (v :: cs) = Go.Proofs.YtnkdgmnmmmjgjaaGreat.lay (cur.set off v) (off + 1) cs from ?_]
    · exact this
    · unfold Go.Proofs.YtnkdgmnmmmjgjaaGreat.lay
      rw [List.length_cons, List.take_set, List.drop_set, if_pos (by omega), show off + (cs.length + 1) = off + 1 + cs.length by omega]
      rw [show (cur.take (off + 1)).set off v = cur.take off ++ [v] from ?_]
      · simp
      · apply List.ext_getElem?
        intro j
        by_cases hj : j < off
        · rw [List.getElem?_set_ne (by omega), List.getElem?_append_left (by simp; omega), List.getElem?_take_of_lt (by omega), List.getElem?_take_of_lt hj]
        · by_cases hj2 : j = off
          · subst hj2
            rw [List.getElem?_set_self (by simp; omega), List.getElem?_append_right (by simp; omega), List.length_take, Nat.min_eq_left (by omega), Nat.sub_self]
            rfl
          · rw [List.getElem?_eq_none (by simp; omega), List.getElem?_eq_none (by simp; omega)]

theorem Chg.setCells {s : List Nat} {a : World} {g : Nat} : ∀ (cs : List Value) (off : Nat) (w : World), Chg s a w → (g ∈ s ∨ a.heap.size ≤ g) → Chg s a (w.setCells g off cs)
  | [], _, _, h, _ => h
  | v :: cs, off, w, h, hg => by
    rw [World.setCells]
    exact Chg.setCells cs (off + 1) _ (h.setCell (p := ⟨g, off, none⟩) hg v) hg

theorem Blk.range {w : World} {g : Nat} {e : TypeId} {vs : List Value} (h : Blk w g e vs) (off n : Nat) : w.rangeAt g off ((vs.drop off).take n) := fun j v hv => by
  refine h.cell ?_
  have hj : j < n := by
    have := (List.getElem?_eq_some_iff.1 hv).1
    rw [List.length_take] at this
    omega
  rw [List.getElem?_take_of_lt hj, List.getElem?_drop] at hv
  exact hv

theorem Blk.rangeAll {w : World} {g : Nat} {e : TypeId} {vs : List Value} (h : Blk w g e vs) : w.rangeAt g 0 vs := fun j v hv => by
  rw [Nat.zero_add]
  exact h.cell hv

theorem Blk.there {w : World} {g : Nat} {e : TypeId} {vs : List Value} (h : Blk w g e vs) (off n : Nat) (hn : off + n ≤ vs.length) : w.there g off n := fun j hj => by
  have hlt : off + j < vs.length := by omega
  exact ⟨by rw [h.cell (List.getElem?_eq_getElem hlt)]; rfl, h.free _⟩

theorem lay_all {α : Type} (a b : List α) (h : b.length = a.length) : lay a 0 b = b := by
  unfold lay
  rw [List.take_zero, List.nil_append, Nat.zero_add, List.drop_eq_nil_of_le (by omega), List.append_nil]

/-- A great value into a block that is known whole. -/
theorem wpList_store_blk {P : Program} {w : World} {ops : Array Oper} {rest : List Oper} {o : Oper} {a : Act} {Q : Exit → Act → World → Prop} (hgd : o.guard = none) (ty : TypeId) (x y : Operand) (ho : o.op = .store ty x y)
    (g off : Nat) (e : TypeId) (cur cs : List Value) (hx : a.eval x = .pointer (some ⟨g, off, none⟩)) (hy : a.eval y = .agg cs.toArray)
    (hb : Blk w g e cur) (hl : off + cs.length ≤ cur.length) (hi : (P.info? ty).map (·.size) = some cs.length) (h1 : ∀ v ∈ cs, v.oneCell' = true)
    (h : ∀ w', Hid (Blk w' g e (lay cur off cs)) → Hid (Chg [g] w w') → wpList P ops Q rest (a.put o.dst undef) w') : wpList P ops Q (o :: rest) a w := by
  refine wpList_store_mid hgd ty x y ho g off cs.toArray hx hy (by simpa using hb.there off cs.length hl) (by simpa using hi) (all_oneCell_toArray h1) ?_
  exact h _ (show Blk _ _ _ _ from Blk.setCells cs cur off w hb hl) (show Chg _ _ _ from Chg.setCells cs off w (Chg.refl _ _) (.inl (by simp)))

end Go.Proofs.YtnkdgmnmmmjgjaaGreat

/-
  Things that lie side by side in memory: each with its blocks, and what is said of it while they stay. No function of the program is named here. By an AI agent.
-/
namespace Go.Proofs.YtnkdgmnmmmjgjaaGreat
open Go.RowKit

/-- Something in memory: its blocks, and what is said of it, which stands while these stay. -/
structure Thing where
  F : List Nat
  P : World → Prop
  lt : ∀ w, P w → ∀ k ∈ F, k < w.heap.size
  stays : ∀ w w' s, P w → Chg s w w' → (∀ k ∈ F, k ∉ s) → P w'

/-- Blocks that none of both has. -/
def Thing.off (a b : Thing) : Prop := ∀ k ∈ a.F, k ∉ b.F

theorem Thing.off.symm {a b : Thing} (h : a.off b) : b.off a := fun k hk hm => h k hm hk

/-- Things side by side, all of them newer than w0. -/
structure Side (w0 w : World) (ts : List Thing) : Prop where
  each : ∀ t ∈ ts, t.P w
  apart : ts.Pairwise Thing.off
  new : ∀ t ∈ ts, ∀ k ∈ t.F, w0.heap.size ≤ k
  chg : Chg [] w0 w

theorem Side.nil {w0 w : World} (c : Chg [] w0 w) : Side w0 w [] := ⟨(fun t h => by cases h), List.Pairwise.nil, (fun t h => by cases h), c⟩

theorem Side.size {w0 w : World} {ts : List Thing} (h : Side w0 w ts) : w0.heap.size ≤ w.heap.size := h.chg.size

theorem Side.quiet {w0 w w' : World} {ts : List Thing} (h : Side w0 w ts) (c : Chg [] w w') : Side w0 w' ts :=
  ⟨fun t ht => t.stays w w' [] (h.each t ht) c (fun _ _ => by simp), h.apart, h.new, h.chg.trans c⟩

theorem Side.get {w0 w : World} {ts : List Thing} (h : Side w0 w ts) (i : Nat) {t : Thing} (hi : ts[i]? = some t) : t.P w := h.each t (List.mem_of_getElem? hi)

theorem Side.perm {w0 w : World} {ts us : List Thing} (h : Side w0 w ts) (p : ts.Perm us) : Side w0 w us :=
  ⟨fun t ht => h.each t (p.mem_iff.2 ht), (List.Perm.pairwise_iff (R := Thing.off) (fun {a b} (q : a.off b) => q.symm) p).1 h.apart, fun t ht => h.new t (p.mem_iff.2 ht), h.chg⟩

theorem Side.sub {w0 w : World} {ts us : List Thing} (h : Side w0 w ts) (s : us.Sublist ts) : Side w0 w us :=
  ⟨fun t ht => h.each t (s.subset ht), h.apart.sublist s, fun t ht => h.new t (s.subset ht), h.chg⟩

theorem Side.tail {w0 w : World} {t : Thing} {ts : List Thing} (h : Side w0 w (t :: ts)) : Side w0 w ts := h.sub (List.sublist_cons_self _ _)

/-- What stood ahead turned into something else: in its own blocks, and in new ones. -/
theorem Side.swap {w0 w w' : World} {olds bs ts : List Thing} {s : List Nat} (h : Side w0 w (olds ++ ts)) (c : Chg s w w') (hs : ∀ k ∈ s, (∃ a ∈ olds, k ∈ a.F) ∨ w.heap.size ≤ k)
    (hb : ∀ b ∈ bs, b.P w') (hf : ∀ b ∈ bs, ∀ k ∈ b.F, (∃ a ∈ olds, k ∈ a.F) ∨ w.heap.size ≤ k) (ha : bs.Pairwise Thing.off) : Side w0 w' (bs ++ ts) := by
  obtain ⟨ha0, ht0, hat⟩ := List.pairwise_append.1 h.apart
  have old : ∀ t ∈ ts, ∀ k ∈ t.F, ¬ ((∃ a ∈ olds, k ∈ a.F) ∨ w.heap.size ≤ k) := fun t ht k hk hor => by
    rcases hor with ⟨a, haa, hka⟩ | hge
    · exact hat a haa t ht k hka hk
    · have := t.lt w (h.each t (List.mem_append_right _ ht)) k hk
      omega
  refine ⟨fun t ht => ?_, List.pairwise_append.2 ⟨ha, ht0, fun b hb2 t ht k hk hm => old t ht k hm (hf b hb2 k hk)⟩, fun t ht k hk => ?_, ?_⟩
  · rcases List.mem_append.1 ht with ht | ht
    · exact hb t ht
    · exact t.stays w w' s (h.each t (List.mem_append_right _ ht)) c (fun k hk hm => old t ht k hk (hs k hm))
  · rcases List.mem_append.1 ht with ht | ht
    · rcases hf t ht k hk with ⟨a, haa, hka⟩ | hge
      · exact h.new a (List.mem_append_left _ haa) k hka
      · have := h.chg.size
        omega
    · exact h.new t (List.mem_append_right _ ht) k hk
  · refine h.chg.fresh c (fun k hk => ?_)
    rcases hs k hk with ⟨a, haa, hka⟩ | hge
    · exact .inr (h.new a (List.mem_append_left _ haa) k hka)
    · have := h.chg.size
      exact .inr (by omega)

/-- The first of them turned. -/
theorem Side.turn {w0 w w' : World} {a b : Thing} {ts : List Thing} {s : List Nat} (h : Side w0 w (a :: ts)) (c : Chg s w w') (hs : ∀ k ∈ s, k ∈ a.F ∨ w.heap.size ≤ k) (hb : b.P w') (hf : ∀ k ∈ b.F, k ∈ a.F ∨ w.heap.size ≤ k) : Side w0 w' (b :: ts) := by
  refine Side.swap (olds := [a]) (bs := [b]) h c (fun k hk => ?_) (fun x hx => ?_) (fun x hx k hk => ?_) (List.pairwise_singleton _ _)
  · rcases hs k hk with q | q
    · exact .inl ⟨a, List.mem_singleton.2 rfl, q⟩
    · exact .inr q
  · rw [List.mem_singleton.1 hx]; exact hb
  · rw [List.mem_singleton.1 hx] at hk
    rcases hf k hk with q | q
    · exact .inl ⟨a, List.mem_singleton.2 rfl, q⟩
    · exact .inr q

/-- The first two turned into one. -/
theorem Side.join {w0 w w' : World} {a b c : Thing} {ts : List Thing} {s : List Nat} (h : Side w0 w (a :: b :: ts)) (ch : Chg s w w') (hs : ∀ k ∈ s, k ∈ a.F ∨ k ∈ b.F ∨ w.heap.size ≤ k) (hc : c.P w') (hf : ∀ k ∈ c.F, k ∈ a.F ∨ k ∈ b.F ∨ w.heap.size ≤ k) : Side w0 w' (c :: ts) := by
  refine Side.swap (olds := [a, b]) (bs := [c]) h ch (fun k hk => ?_) (fun x hx => ?_) (fun x hx k hk => ?_) (List.pairwise_singleton _ _)
  · rcases hs k hk with q | q | q
    · exact .inl ⟨a, by simp, q⟩
    · exact .inl ⟨b, by simp, q⟩
    · exact .inr q
  · rw [List.mem_singleton.1 hx]; exact hc
  · rw [List.mem_singleton.1 hx] at hk
    rcases hf k hk with q | q | q
    · exact .inl ⟨a, by simp, q⟩
    · exact .inl ⟨b, by simp, q⟩
    · exact .inr q

/-- One thing more, in new blocks. -/
theorem Side.add {w0 w w' : World} {b : Thing} {ts : List Thing} (h : Side w0 w ts) (c : Chg [] w w') (hb : b.P w') (hf : ∀ k ∈ b.F, w.heap.size ≤ k) : Side w0 w' (b :: ts) := by
  refine Side.swap (olds := []) (bs := [b]) h c (fun k hk => by cases hk) (fun x hx => ?_) (fun x hx k hk => ?_) (List.pairwise_singleton _ _)
  · rw [List.mem_singleton.1 hx]; exact hb
  · rw [List.mem_singleton.1 hx] at hk
    exact .inr (hf k hk)

/-- The i-th to the front. -/
def front (ts : List Thing) (i : Nat) : List Thing := match ts[i]? with
  | some t => t :: ts.eraseIdx i
  | none => ts

theorem front_perm : ∀ (ts : List Thing) (i : Nat), ts.Perm (front ts i)
  | [], i => by simp [front]
  | t :: ts, 0 => by simp [front]
  | t :: ts, i + 1 => by
    have ih := front_perm ts i
    unfold front at ih ⊢
    rw [List.getElem?_cons_succ, List.eraseIdx_cons_succ]
    cases h : ts[i]? with
    | none => exact List.Perm.refl _
    | some x =>
      rw [h] at ih
      exact (List.Perm.cons t ih).trans (List.Perm.swap x t _)

theorem Side.front {w0 w : World} {ts : List Thing} (h : Side w0 w ts) (i : Nat) : Side w0 w (front ts i) := h.perm (front_perm ts i)

theorem set_perm : ∀ (ts : List Thing) (i : Nat) (t : Thing), i < ts.length → (ts.set i t).Perm (t :: ts.eraseIdx i)
  | [], i, _, h => by cases h
  | a :: ts, 0, t, _ => by simp
  | a :: ts, i + 1, t, h => by
    rw [List.set_cons_succ, List.eraseIdx_cons_succ]
    exact (List.Perm.cons a (set_perm ts i t (by simpa using h))).trans (List.Perm.swap t a _)

theorem front_some {ts : List Thing} {i : Nat} {t : Thing} (h : ts[i]? = some t) : Go.Proofs.YtnkdgmnmmmjgjaaGreat.front ts i = t :: ts.eraseIdx i := by
  unfold Go.Proofs.YtnkdgmnmmmjgjaaGreat.front
  rw [h]

/-- The i-th of them turned. -/
theorem Side.turnAt {w0 w w' : World} {a b : Thing} {ts : List Thing} {s : List Nat} (h : Side w0 w ts) (i : Nat) (hi : ts[i]? = some a) (c : Chg s w w') (hs : ∀ k ∈ s, k ∈ a.F ∨ w.heap.size ≤ k) (hb : b.P w') (hf : ∀ k ∈ b.F, k ∈ a.F ∨ w.heap.size ≤ k) : Side w0 w' (ts.set i b) := by
  have h1 := h.front i
  rw [front_some hi] at h1
  exact (h1.turn c hs hb hf).perm (set_perm ts i b (List.getElem?_eq_some_iff.1 hi).1).symm

/-- What a call does to the thing whose blocks are F. -/
def Turns (w : World) (F : List Nat) (T : List Nat → Thing) (w' : World) : Prop := ∃ F', (T F').P w' ∧ (∀ k ∈ (T F').F, k ∈ F ∨ w.heap.size ≤ k) ∧ Chg F w w'

theorem Side.act {w0 w w' : World} {a : Thing} {ts : List Thing} {T : List Nat → Thing} (h : Side w0 w ts) (i : Nat) (hi : ts[i]? = some a) (c : Turns w a.F T w') : ∃ F', Side w0 w' (ts.set i (T F')) := by
  obtain ⟨F', h1, h2, h3⟩ := c
  exact ⟨F', h.turnAt i hi h3 (fun k hk => .inl hk) h1 h2⟩

/-- Cells in a row of their own. -/
def ownT (e : TypeId) (v : Value) (xs : List Value) : Thing where
  F := v.ownBlock.toList
  P := fun w => w.ownsRow 0 e 1 v xs.length xs
  lt := fun w h k hk => (h.lt k (by simpa using hk)).2
  stays := fun w w' s h c hs => owns_chg h c (fun k hk => hs k (by rw [hk]; simp))

/-- A block that is known whole. -/
def blkT (g : Nat) (e : TypeId) (vs : List Value) : Thing where
  F := [g]
  P := fun w => Blk w g e vs
  lt := fun w h k hk => by rw [List.mem_singleton.1 hk]; exact h.lt
  stays := fun w w' s h c hs => h.chg c (hs g (by simp))

/-- A row of their own more. -/
theorem Side.own {w0 w w' : World} {ts : List Thing} {e : TypeId} {v : Value} {n : Nat} {xs : List Value} (h : Side w0 w ts) (o : w'.ownsRow w.heap.size e 1 v n xs) (c : Chg [] w w') : Side w0 w' (ownT e v xs :: ts) := by
  have hn : xs.length = n := owns_len o
  subst hn
  exact h.add c (ownsRow_base (B' := 0) o (Nat.zero_le _)) (fun k hk => (o.lt k (by simpa [ownT] using hk)).1)

/-- One cell of such a row is written. -/
theorem Side.set {w0 w : World} {ts : List Thing} {e : TypeId} {g n c : Nat} {xs : List Value} (h : Side w0 w ts) (i : Nat) (hi : ts[i]? = some (ownT e (.slice (some ⟨g, 0, none⟩) n c) xs)) {k : Nat} (hk : k < xs.length) (u : Value) :
    Side w0 (w.setCell ⟨g, k, none⟩ u) (ts.set i (ownT e (.slice (some ⟨g, 0, none⟩) n c) (xs.set k u))) ∧ w.frozen? ⟨g, k, none⟩ = false ∧ ∃ x, w.cell? ⟨g, k, none⟩ = some x := by
  have o : w.ownsRow 0 e 1 (.slice (some ⟨g, 0, none⟩) n c) xs.length xs := h.get i hi
  have hn : n = xs.length := by
    rcases o.2 with ⟨h1, _⟩ | ⟨_, _, _, hv, _⟩
    · cases h1
    · simp at hv; exact hv.2.1
  subst hn
  obtain ⟨h1, h2, h3⟩ := owns_set o hk u
  refine ⟨h.turnAt i hi (s := [g]) ((Chg.refl _ _).setCell (.inl (by simp)) _) (fun k hk => .inl ?_) ?_ (fun k hk => .inl hk), h2, h3⟩
  · rw [List.mem_singleton.1 hk]
    simp [ownT, Value.ownBlock]
  · show (w.setCell ⟨g, k, none⟩ u).ownsRow 0 e 1 _ (xs.set k u).length (xs.set k u)
    rw [List.length_set]
    exact h1

end Go.Proofs.YtnkdgmnmmmjgjaaGreat
