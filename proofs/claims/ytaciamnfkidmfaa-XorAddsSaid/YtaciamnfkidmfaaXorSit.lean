/-
  Three sums and a book, side by side. By an AI agent.
-/
import Derived.Test.YtaciamnfkidmfaaXorSolved
namespace Go.Proofs.Ytaciamnfkidmfaa
open Go.RowKit

/-- A sum: its pointer, its blocks, its slice (where it is known), its bytes, how many. -/
structure Piece where
  g : Nat
  S : List Nat
  u : Value
  bs : List Nat
  n : Nat

/-- Blocks of the sums. -/
def Frn (a b c : Piece) (k : Nat) : Prop := k ∈ a.S ∨ k ∈ b.S ∨ k ∈ c.S

structure Sums (w : World) (B : Nat) (a b c : Piece) : Prop where
  s : SumIn w B a.g a.S a.bs a.n
  t : SumIn w B b.g b.S b.bs b.n
  r : RSum w B c.g c.u c.bs c.n
  rS : c.S = c.g :: c.u.ownBlock.toList
  ab : ∀ k ∈ a.S, k ∉ b.S
  ac : ∀ k ∈ a.S, k ∉ c.S
  bc : ∀ k ∈ b.S, k ∉ c.S

theorem RSum.lt {w : World} {B : Nat} {c : Piece} (h : RSum w B c.g c.u c.bs c.n) (e : c.S = c.g :: c.u.ownBlock.toList) : ∀ k ∈ c.S, B ≤ k ∧ k < w.heap.size := by
  intro k hk
  rw [e] at hk
  rcases List.mem_cons.1 hk with rfl | hk
  · exact ⟨h.new, h.blk.lt⟩
  · exact h.own.lt k (by simpa using hk)

theorem Sums.lt {w : World} {B : Nat} {a b c : Piece} (h : Sums w B a b c) {k : Nat} (hk : Frn a b c k) : B ≤ k ∧ k < w.heap.size := by
  rcases hk with hk | hk | hk
  · exact h.s.lt k hk
  · exact h.t.lt k hk
  · exact h.r.lt h.rS k hk

theorem RSum.turn {w w' : World} {s : List Nat} {B : Nat} {c : Piece} (h : RSum w B c.g c.u c.bs c.n) (e : c.S = c.g :: c.u.ownBlock.toList) (C : Chg s w w') (hs : ∀ k ∈ c.S, k ∉ s) : RSum w' B c.g c.u c.bs c.n :=
  h.chg C (hs _ (by rw [e]; simp)) (fun k hk => hs k (by rw [e, hk]; simp))

theorem Sums.chg {w w' : World} {s : List Nat} {B : Nat} {a b c : Piece} (h : Sums w B a b c) (C : Chg s w w') (hs : ∀ k, Frn a b c k → k ∉ s) : Sums w' B a b c :=
  ⟨h.s.chg C (fun k hk => hs k (.inl hk)), h.t.chg C (fun k hk => hs k (.inr (.inl hk))), h.r.turn h.rS C (fun k hk => hs k (.inr (.inr hk))), h.rS, h.ab, h.ac, h.bc⟩

/-- The sums, a book, and lists that came out and are not in it. -/
structure Sit (W0 w : World) (B : Nat) (a b c : Piece) (bk : Nat) (lv : Value) (vs us : List (Value × List Value)) : Prop where
  sums : Sums w B a b c
  desk : Desk w B bk lv vs us
  off : ∀ k, Frn a b c k → Bk.not bk lv vs k
  offU : ∀ p ∈ us, ∀ k, p.1.ownBlock = some k → ¬ Frn a b c k
  base : B ≤ w.heap.size
  old : W0.heap.size ≤ B
  oldb : W0.heap.size ≤ bk
  chg : Chg [] W0 w

theorem Sit.quiet {W0 w w' : World} {B : Nat} {a b c : Piece} {bk : Nat} {lv : Value} {vs us : List (Value × List Value)} (h : Sit W0 w B a b c bk lv vs us) (C : Chg [] w w') : Sit W0 w' B a b c bk lv vs us :=
  ⟨h.sums.chg C (by simp), h.desk.quiet C, h.off, h.offU, Nat.le_trans h.base C.size, h.old, h.oldb, h.chg.trans C⟩

/-- Something that is none of theirs is turned. -/
theorem Sit.other {W0 w w' : World} {B gb : Nat} {a b c : Piece} {bk : Nat} {lv : Value} {vs : List (Value × List Value)} (h : Sit W0 w B a b c bk lv vs []) (C : Chg [gb] w w') (h1 : ¬ Frn a b c gb) (h2 : Bk.not bk lv vs gb) (h3 : B ≤ gb) : Sit W0 w' B a b c bk lv vs [] :=
  ⟨h.sums.chg C (fun k hk hm => by rw [List.mem_singleton.1 hm] at hk; exact h1 hk), h.desk.chg C (fun k hk => by rw [List.mem_singleton.1 hk]; exact h2) (fun p hp => by cases hp), h.off, (fun p hp => by cases hp), Nat.le_trans h.base C.size, h.old, h.oldb, h.chg.fresh C (fun k hk => by rw [List.mem_singleton.1 hk]; exact .inr (Nat.le_trans h.old h3))⟩

/-- One sum has moved on. -/
theorem Sit.addS {W0 w w' : World} {B : Nat} {a b c : Piece} {bk : Nat} {lv : Value} {vs : List (Value × List Value)} (h : Sit W0 w B a b c bk lv vs []) {S' bs' : List Nat} {n' : Nat} (s' : SumIn w' B a.g S' bs' n') (C : Chg a.S w w') (hS : ∀ k ∈ S', k ∈ a.S ∨ w.heap.size ≤ k) :
    Sit W0 w' B ⟨a.g, S', a.u, bs', n'⟩ b c bk lv vs [] ∧ ∀ k, k < w.heap.size → ¬ Frn a b c k → ¬ Frn ⟨a.g, S', a.u, bs', n'⟩ b c k := by
  have hb : ∀ k ∈ S', k ∉ b.S := fun k hk hm => by
    rcases hS k hk with h1 | h1
    · exact h.sums.ab k h1 hm
    · have := (h.sums.t.lt k hm).2; omega
  have hc : ∀ k ∈ S', k ∉ c.S := fun k hk hm => by
    rcases hS k hk with h1 | h1
    · exact h.sums.ac k h1 hm
    · have := (h.sums.r.lt h.sums.rS k hm).2; omega
  refine ⟨⟨⟨s', h.sums.t.chg C (fun k hk hm => h.sums.ab k hm hk), h.sums.r.turn h.sums.rS C (fun k hk hm => h.sums.ac k hm hk), h.sums.rS, hb, hc, h.sums.bc⟩, h.desk.chg C (fun k hk => h.off k (.inl hk)) (fun p hp => by cases hp), ?_, (fun p hp => by cases hp), Nat.le_trans h.base C.size, h.old, h.oldb, h.chg.fresh C (fun k hk => .inr (Nat.le_trans h.old (h.sums.s.lt k hk).1))⟩, ?_⟩
  · rintro k (hk | hk | hk)
    · rcases hS k hk with h1 | h1
      · exact h.off k (.inl h1)
      · exact h.desk.bk.new h1
    · exact h.off k (.inr (.inl hk))
    · exact h.off k (.inr (.inr hk))
  · rintro k hk hn (h1 | h1 | h1)
    · rcases hS k h1 with h2 | h2
      · exact hn (.inl h2)
      · omega
    · exact hn (.inr (.inl h1))
    · exact hn (.inr (.inr h1))

theorem Sums.swap {w : World} {B : Nat} {a b c : Piece} (h : Sums w B a b c) : Sums w B b a c :=
  ⟨h.t, h.s, h.r, h.rS, fun k hk hm => h.ab k hm hk, h.bc, h.ac⟩

theorem frn_swap {a b c : Piece} {k : Nat} : Frn b a c k → Frn a b c k := by
  rintro (h | h | h)
  · exact .inr (.inl h)
  · exact .inl h
  · exact .inr (.inr h)

theorem Sit.swap {W0 w : World} {B : Nat} {a b c : Piece} {bk : Nat} {lv : Value} {vs us : List (Value × List Value)} (h : Sit W0 w B a b c bk lv vs us) : Sit W0 w B b a c bk lv vs us :=
  ⟨h.sums.swap, h.desk, fun k hk => h.off k (frn_swap hk), fun p hp k hk hf => h.offU p hp k hk (frn_swap hf), h.base, h.old, h.oldb, h.chg⟩

/-- The document's sum has moved on. -/
theorem Sit.addR {W0 w w' : World} {B : Nat} {a b c : Piece} {bk : Nat} {lv : Value} {vs : List (Value × List Value)} (h : Sit W0 w B a b c bk lv vs []) {u' : Value} {bs' : List Nat} {n' : Nat} (r' : RSum w' B c.g u' bs' n') (C : Chg [c.g] w w') (hu : u' = c.u ∨ ∀ k, u'.ownBlock = some k → w.heap.size ≤ k) :
    Sit W0 w' B a b ⟨c.g, c.g :: u'.ownBlock.toList, u', bs', n'⟩ bk lv vs [] := by
  have hg : c.g ∈ c.S := by rw [h.sums.rS]; simp
  have hS : ∀ k ∈ c.g :: u'.ownBlock.toList, k ∈ c.S ∨ w.heap.size ≤ k := fun k hk => by
    rcases List.mem_cons.1 hk with rfl | hk
    · exact .inl hg
    · rcases hu with rfl | hu
      · rw [h.sums.rS]; exact .inl (List.mem_cons_of_mem _ hk)
      · exact .inr (hu k (by simpa using hk))
  refine ⟨⟨h.sums.s.chg C (fun k hk hm => by rw [List.mem_singleton.1 hm] at hk; exact h.sums.ac _ hk hg), h.sums.t.chg C (fun k hk hm => by rw [List.mem_singleton.1 hm] at hk; exact h.sums.bc _ hk hg), r', rfl, h.sums.ab, fun k hk hm => ?_, fun k hk hm => ?_⟩, h.desk.chg C (fun k hk => by rw [List.mem_singleton.1 hk]; exact h.off _ (.inr (.inr hg))) (fun p hp => by cases hp), ?_, (fun p hp => by cases hp), Nat.le_trans h.base C.size, h.old, h.oldb, h.chg.fresh C (fun k hk => by rw [List.mem_singleton.1 hk]; exact .inr (Nat.le_trans h.old (h.sums.lt (.inr (.inr hg))).1))⟩
  · rcases hS k hm with h1 | h1
    · exact h.sums.ac k hk h1
    · have := (h.sums.s.lt k hk).2; omega
  · rcases hS k hm with h1 | h1
    · exact h.sums.bc k hk h1
    · have := (h.sums.t.lt k hk).2; omega
  · rintro k (hk | hk | hk)
    · exact h.off k (.inl hk)
    · exact h.off k (.inr (.inl hk))
    · rcases hS k hk with h1 | h1
      · exact h.off k (.inr (.inr h1))
      · exact h.desk.bk.new h1

/-- One more has come out. -/
theorem Sit.more {W0 w w' : World} {B : Nat} {a b c : Piece} {bk : Nat} {lv : Value} {vs us : List (Value × List Value)} {u : Value} {xs : List Nat} (h : Sit W0 w B a b c bk lv vs us) (C : Chg [] w w') (o : w'.ownsRow w.heap.size 5 1 u xs.length ((ints xs).map (Value.int .u8))) : Sit W0 w' B a b c bk lv vs (us ++ [outOf u xs]) := by
  refine ⟨h.sums.chg C (by simp), h.desk.more C o h.base, h.off, fun p hp k hk hf => ?_, Nat.le_trans h.base C.size, h.old, h.oldb, h.chg.trans C⟩
  rcases List.mem_append.1 hp with hp | hp
  · exact h.offU p hp k hk hf
  · rw [List.mem_singleton.1 hp] at hk
    have := (o.lt k hk).1
    have := (h.sums.lt hf).2
    omega

/-- The first of them goes into the book. -/
theorem sit_put (W0 : World) (B bk : Nat) (a b c : Piece) (lv : Value) (vs us : List (Value × List Value)) (u : Value) (xs : List Nat) (w : World) (h : Sit W0 w B a b c bk lv vs (outOf u xs :: us)) (hl : vs.length ≤ 1000000) :
    Calls Try.prog 21 #[.pointer (some ⟨bk, 0, none⟩), u] w fun e w' => e = .returned (.tuple #[]) ∧ ∃ lv', Hid (Sit W0 w' B a b c bk lv' (vs ++ [outOf u xs]) us) := by
  refine (book_bytes B bk lv vs u ((ints xs).map (Value.int .u8)) w h.desk.bk (h.desk.outs.own _ List.mem_cons_self) (h.desk.off _ List.mem_cons_self) hl h.base).mono ?_
  rintro e w' ⟨lv', he, s⟩
  have hn : ∀ k, Frn a b c k → k ∉ bk :: lv.ownBlock.toList := fun k hk hm => by
    rcases List.mem_cons.1 hm with e | hm
    · exact (h.off k hk).1 e
    · exact (h.off k hk).2.1 (by simpa using hm)
  refine ⟨he, lv', ⟨h.sums.chg s.chg hn, h.desk.put s, fun k hk => ⟨(h.off k hk).1, fun e => ?_, fun j v ys hj e => ?_⟩, fun p hp => h.offU p (List.mem_cons_of_mem _ hp), Nat.le_trans h.base s.chg.size, h.old, h.oldb, h.chg.fresh s.chg (fun k hk => .inr ?_)⟩⟩
  · rcases s.blk with e2 | ⟨k2, e2, hge⟩
    · exact (h.off k hk).2.1 (by rw [← e2]; exact e)
    · rw [e2] at e
      have : k2 = k := by simpa using e
      have := (h.sums.lt hk).2
      omega
  · by_cases hjl : j < vs.length
    · rw [List.getElem?_append_left hjl] at hj
      exact (h.off k hk).2.2 j v ys hj e
    · have h1 : j < (vs ++ [(u, (ints xs).map (Value.int .u8))]).length := (List.getElem?_eq_some_iff.1 hj).1
      obtain rfl : j = vs.length := by simp at h1; omega
      rw [List.getElem?_append_right (Nat.le_refl _), Nat.sub_self] at hj
      have hj2 : outOf u xs = (v, ys) := by simpa using hj
      have h3 : u = v := congrArg Prod.fst hj2
      rw [← h3] at e
      exact h.offU _ List.mem_cons_self k e hk
  · rcases List.mem_cons.1 hk with rfl | hk
    · exact h.oldb
    · have := (h.desk.bk.own.lt k (by simpa using hk)).1
      have := h.old
      omega

theorem sit_own (W0 : World) (B bk : Nat) (a b c : Piece) (lv : Value) (vs us : List (Value × List Value)) (w : World) (h : Sit W0 w B a b c bk lv vs us) (hl : vs.length ≤ 1000000) (hlen : ∀ p ∈ vs, p.2.length ≤ 140737488355000) :
    Calls Try.prog 23 #[.pointer (some ⟨bk, 0, none⟩)] w fun e w' => e = .returned (.bool true) ∧ Hid (Chg [] W0 w') :=
  desk_own W0 B bk lv vs us w h.desk hl h.base hlen h.chg h.old

/-- Add, of the first sum. -/
theorem sit_addS (W0 : World) (B bk : Nat) (a b c : Piece) (lv : Value) (vs : List (Value × List Value)) (v : Value) (xs : List Int) (w : World) (h : Sit W0 w B a b c bk lv vs []) (hv : Sl w v xs) (ho : 0 < xs.length → ∀ k, v.ownBlock = some k → k ∉ a.S) (hby : By xs) (hb1 : a.bs.length ≤ 1000000) (hx1 : xs.length ≤ 1000000) (hn : a.n ≤ 1000000) :
    Calls Try.prog 33 #[.pointer (some ⟨a.g, 0, none⟩), v] w fun e w' => e = .returned (.int .u16 ((addErr a.bs xs : Nat) : Int)) ∧ ∃ S', Hid (Sit W0 w' B ⟨a.g, S', a.u, addVal a.bs xs, addMany a.bs a.n xs⟩ b c bk lv vs []) ∧ Hid (Chg a.S w w') ∧ Hid (∀ k, k < w.heap.size → ¬ Frn a b c k → ¬ Frn ⟨a.g, S', a.u, addVal a.bs xs, addMany a.bs a.n xs⟩ b c k) := by
  refine (add_any B a.g a.S a.bs a.n v xs w h.sums.s hv ho hby hb1 hx1 hn h.base).mono ?_
  rintro e w' ⟨he, S', s', C, hS⟩
  obtain ⟨h1, h2⟩ := h.addS s'.out C.out hS
  exact ⟨he, S', h1, C, h2⟩

end Go.Proofs.Ytaciamnfkidmfaa
