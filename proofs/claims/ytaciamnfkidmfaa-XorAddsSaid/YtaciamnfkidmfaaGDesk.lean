/-
  Bytes that came out, each in memory of its own, and a book of some of them. No function of the program is named here. By an AI agent.
-/
import Derived.Test.YtaciamnfkidmfaaGBook
import Derived.Test.YtaciamnfkidmfaaGNats
namespace Go.Proofs.Ytaciamnfkidmfaa
open Go.RowKit

/-- A list of bytes as it came out: its slice, and its cells. -/
def outOf (u : Value) (xs : List Nat) : Value × List Value := (u, (ints xs).map (Value.int .u8))

/-- Two that share no block. -/
def Apart (p q : Value × List Value) : Prop := ∀ g, p.1.ownBlock = some g → q.1.ownBlock ≠ some g

/-- Lists that came out, each in memory of its own, none older than B. -/
structure Outs (w : World) (B : Nat) (us : List (Value × List Value)) : Prop where
  own : ∀ p ∈ us, w.ownsRow B 5 1 p.1 p.2.length p.2
  ap : us.Pairwise Apart

theorem Outs.nil (w : World) (B : Nat) : Outs w B [] := ⟨(fun p h => by cases h), List.Pairwise.nil⟩

theorem Outs.chg {w w' : World} {s : List Nat} {B : Nat} {us : List (Value × List Value)} (h : Outs w B us) (c : Chg s w w') (hs : ∀ p ∈ us, ∀ k, p.1.ownBlock = some k → k ∉ s) : Outs w' B us :=
  ⟨fun p hp => owns_chg (h.own p hp) c (hs p hp), h.ap⟩

theorem Outs.quiet {w w' : World} {B : Nat} {us : List (Value × List Value)} (h : Outs w B us) (c : Chg [] w w') : Outs w' B us := h.chg c (fun _ _ _ _ => by simp)

theorem Outs.lt {w : World} {B : Nat} {us : List (Value × List Value)} (h : Outs w B us) {p : Value × List Value} (hp : p ∈ us) {k : Nat} (hk : p.1.ownBlock = some k) : B ≤ k ∧ k < w.heap.size := (h.own p hp).lt k hk

/-- What is older than B may turn. -/
theorem Outs.old {w w' : World} {s : List Nat} {B : Nat} {us : List (Value × List Value)} (h : Outs w B us) (c : Chg s w w') (hs : ∀ k ∈ s, k < B) : Outs w' B us :=
  h.chg c (fun p hp k hk hm => by have := (h.lt hp hk).1; have := hs k hm; omega)

/-- One more has come out. -/
theorem Outs.more {w w' : World} {B : Nat} {us : List (Value × List Value)} {u : Value} {xs : List Nat} (h : Outs w B us) (c : Chg [] w w') (o : w'.ownsRow w.heap.size 5 1 u xs.length ((ints xs).map (Value.int .u8))) (hB : B ≤ w.heap.size) : Outs w' B (us ++ [outOf u xs]) := by
  refine ⟨fun p hp => ?_, List.pairwise_append.2 ⟨h.ap, List.pairwise_singleton _ _, fun p hp q hq g hg hg2 => ?_⟩⟩
  · rcases List.mem_append.1 hp with hp | hp
    · exact (h.quiet c).own p hp
    · rw [List.mem_singleton.1 hp]
      show w'.ownsRow B 5 1 u ((ints xs).map (Value.int .u8)).length _
      rw [List.length_map, ints_length]
      exact ownsRow_base o hB
  · rw [List.mem_singleton.1 hq] at hg2
    have := (h.lt hp hg).2
    have := (o.lt g hg2).1
    omega

/-- A book, and lists that came out and are not in it. -/
structure Desk (w : World) (B b : Nat) (lv : Value) (vs us : List (Value × List Value)) : Prop where
  bk : Bk w B b lv vs
  outs : Outs w B us
  off : ∀ p ∈ us, ∀ k, p.1.ownBlock = some k → Bk.not b lv vs k

/-- A new book. -/
theorem Desk.begin {w : World} {B : Nat} {us : List (Value × List Value)} (h : Outs w B us) : Desk (w.alloc (.cells #[.slice none 0 0, .slice none 0 0, .slice none 0 0, .slice none 0 0, .slice none 0 0, .slice none 0 0, .slice none 0 0, .slice none 0 0, .slice none 0 0, .slice none 0 0, .slice none 0 0, .slice none 0 0] 50)) B w.heap.size (.slice none 0 0) [] us := by
  refine ⟨Bk.begin (Blk.made w [.slice none 0 0, .slice none 0 0, .slice none 0 0, .slice none 0 0, .slice none 0 0, .slice none 0 0, .slice none 0 0, .slice none 0 0, .slice none 0 0, .slice none 0 0, .slice none 0 0, .slice none 0 0] _), h.quiet ((Chg.refl _ _).alloc _), fun p hp k hk => ?_⟩
  have := (h.lt hp hk).2
  exact ⟨by omega, by simp [Value.ownBlock], fun j v xs hj => by simp at hj⟩

theorem Desk.chg {w w' : World} {s : List Nat} {B b : Nat} {lv : Value} {vs us : List (Value × List Value)} (h : Desk w B b lv vs us) (c : Chg s w w') (h1 : ∀ k ∈ s, Bk.not b lv vs k) (h2 : ∀ p ∈ us, ∀ k, p.1.ownBlock = some k → k ∉ s) : Desk w' B b lv vs us :=
  ⟨h.bk.chg c h1, h.outs.chg c h2, h.off⟩

theorem Desk.quiet {w w' : World} {B b : Nat} {lv : Value} {vs us : List (Value × List Value)} (h : Desk w B b lv vs us) (c : Chg [] w w') : Desk w' B b lv vs us := h.chg c (fun _ hk => by cases hk) (fun _ _ _ _ => by simp)

theorem Desk.more {w w' : World} {B b : Nat} {lv : Value} {vs us : List (Value × List Value)} {u : Value} {xs : List Nat} (h : Desk w B b lv vs us) (c : Chg [] w w') (o : w'.ownsRow w.heap.size 5 1 u xs.length ((ints xs).map (Value.int .u8))) (hB : B ≤ w.heap.size) : Desk w' B b lv vs (us ++ [outOf u xs]) := by
  refine ⟨(h.quiet c).bk, h.outs.more c o hB, fun p hp k hk => ?_⟩
  rcases List.mem_append.1 hp with hp | hp
  · exact h.off p hp k hk
  · rw [List.mem_singleton.1 hp] at hk
    exact h.bk.new (o.lt k hk).1

/-- Some of them are of no more concern. -/
theorem Desk.less {w : World} {B b : Nat} {lv : Value} {vs us us' : List (Value × List Value)} (h : Desk w B b lv vs us) (hs : us'.Sublist us) : Desk w B b lv vs us' :=
  ⟨h.bk, ⟨fun p hp => h.outs.own p (hs.subset hp), h.outs.ap.sublist hs⟩, fun p hp => h.off p (hs.subset hp)⟩

/-- The first of them goes into the book. -/
theorem Desk.put {w w' : World} {B b : Nat} {lv lv' : Value} {vs us : List (Value × List Value)} {p : Value × List Value} (h : Desk w B b lv vs (p :: us)) (s : BkStep w B b lv (vs ++ [p]) w' lv') : Desk w' B b lv' (vs ++ [p]) us := by
  have ap := List.pairwise_cons.1 h.outs.ap
  have of : ∀ q ∈ us, ∀ k, q.1.ownBlock = some k → Bk.not b lv vs k := fun q hq => h.off q (List.mem_cons_of_mem _ hq)
  have hl : ∀ q ∈ us, ∀ k, q.1.ownBlock = some k → lv'.ownBlock ≠ some k := fun q hq k hk e => by
    rcases s.blk with e2 | ⟨k2, e2, hge⟩
    · exact (of q hq k hk).2.1 (by rw [← e2]; exact e)
    · rw [e2] at e
      have : k2 = k := by simpa using e
      have := (h.outs.lt (List.mem_cons_of_mem _ hq) hk).2
      omega
  refine ⟨s.bk, ⟨fun q hq => owns_chg (h.outs.own q (List.mem_cons_of_mem _ hq)) s.chg (fun k hk hm => ?_), ap.2⟩, fun q hq k hk => ⟨(of q hq k hk).1, hl q hq k hk, fun j v xs hj e => ?_⟩⟩
  · have := of q hq k hk
    rcases List.mem_cons.1 hm with e | hm
    · exact this.1 e
    · exact this.2.1 (by simpa using hm)
  · by_cases hjl : j < vs.length
    · rw [List.getElem?_append_left hjl] at hj
      exact (of q hq k hk).2.2 j v xs hj e
    · have h1 : j < (vs ++ [p]).length := (List.getElem?_eq_some_iff.1 hj).1
      obtain rfl : j = vs.length := by simp at h1; omega
      rw [List.getElem?_append_right (Nat.le_refl _), Nat.sub_self] at hj
      have : p = (v, xs) := by simpa using hj
      subst this
      exact ap.1 q hq k e hk

/-- One of them reads as its bytes. -/
theorem Outs.sl {w : World} {B : Nat} {us : List (Value × List Value)} {u : Value} {xs : List Nat} (h : Outs w B us) (hp : outOf u xs ∈ us) : Sl w u (ints xs) := by
  have := h.own _ hp
  exact Sl.owned this

theorem Bk.sl {w : World} {B b : Nat} {lv : Value} {vs : List (Value × List Value)} {u : Value} {xs : List Nat} (h : Bk w B b lv vs) (hp : outOf u xs ∈ vs) : Sl w u (ints xs) := by
  obtain ⟨j, hj⟩ := List.mem_iff_getElem?.1 hp
  exact Sl.owned (h.row j _ _ hj)

/-- The book's Bytes, at the first of them. -/
theorem desk_put (W0 : World) (B b : Nat) (lv : Value) (vs us : List (Value × List Value)) (u : Value) (xs : List Nat) (w : World) (h : Desk w B b lv vs (outOf u xs :: us)) (hl : vs.length ≤ 1000000) (hB : B ≤ w.heap.size) (c : Chg [] W0 w) (hb0 : W0.heap.size ≤ b) (hB0 : W0.heap.size ≤ B) :
    Calls Try.prog 21 #[.pointer (some ⟨b, 0, none⟩), u] w fun e w' => e = .returned (.tuple #[]) ∧ ∃ lv', Hid (Desk w' B b lv' (vs ++ [outOf u xs]) us) ∧ Hid (B ≤ w'.heap.size) ∧ Hid (Chg [] W0 w') := by
  refine (book_bytes B b lv vs u ((ints xs).map (Value.int .u8)) w h.bk (h.outs.own _ List.mem_cons_self) (h.off _ List.mem_cons_self) hl hB).mono ?_
  rintro e w' ⟨lv', he, s⟩
  refine ⟨he, lv', h.put s, Nat.le_trans hB s.chg.size, c.fresh s.chg (fun k hk => .inr ?_)⟩
  rcases List.mem_cons.1 hk with rfl | hk
  · exact hb0
  · have := (h.bk.own.lt k (by simpa using hk)).1
    omega

/-- The book's Own. -/
theorem desk_own (W0 : World) (B b : Nat) (lv : Value) (vs us : List (Value × List Value)) (w : World) (h : Desk w B b lv vs us) (hl : vs.length ≤ 1000000) (hB : B ≤ w.heap.size) (hlen : ∀ p ∈ vs, p.2.length ≤ 140737488355000) (c : Chg [] W0 w) (hB0 : W0.heap.size ≤ B) :
    Calls Try.prog 23 #[.pointer (some ⟨b, 0, none⟩)] w fun e w' => e = .returned (.bool true) ∧ Hid (Chg [] W0 w') := by
  refine (book_own B b lv vs w h.bk hl hB (fun j v xs hj => hlen _ (List.mem_of_getElem? hj))).mono ?_
  rintro e w' ⟨he, s⟩
  refine ⟨he, c.fresh s (fun k hk => .inr ?_)⟩
  obtain ⟨j, v, xs, hj, hg⟩ := rowsOf_spec hk
  have := ((h.bk.row j v xs hj).lt k hg).1
  omega

theorem outOf_len (u : Value) (xs : List Nat) : (outOf u xs).2.length = xs.length := by
  show ((ints xs).map (Value.int .u8)).length = _
  rw [List.length_map, ints_length]

end Go.Proofs.Ytaciamnfkidmfaa
