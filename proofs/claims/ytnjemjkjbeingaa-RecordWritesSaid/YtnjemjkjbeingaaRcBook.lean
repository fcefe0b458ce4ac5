/-
  A book whose entries were made one behind the other, ahead of it. No function of the program is named here. By an AI agent.
-/
import Derived.Test.YtnjemjkjbeingaaGBook
import Derived.Test.YtnjemjkjbeingaaGNats
import Derived.Test.YtnjemjkjbeingaaRdRaw
namespace Go.Proofs.Ytnjemjkjbeingaa
open Go.RowKit

def bookNil : List Value := [.slice none 0 0, .slice none 0 0, .slice none 0 0, .slice none 0 0, .slice none 0 0, .slice none 0 0, .slice none 0 0, .slice none 0 0, .slice none 0 0, .slice none 0 0, .slice none 0 0, .slice none 0 0]

/-- A book at bb: its entries lie below m, and what it holds itself from bb on. -/
structure BkLine (w : World) (B bb : Nat) (lv : Value) (vs : List (Value × List Value)) (m : Nat) : Prop where
  bk : Bk w B bb lv vs
  top : m ≤ bb
  low : B ≤ bb
  list : ∀ k, lv.ownBlock = some k → bb ≤ k
  each : ∀ (j : Nat) (v : Value) (xs : List Value), vs[j]? = some (v, xs) → xs.length ≤ 1000000 ∧ ∀ k, v.ownBlock = some k → k < m
  few : vs.length ≤ 1000

theorem BkLine.begin {w : World} (B m : Nat) (h : B ≤ w.heap.size) (hm : m ≤ w.heap.size) : BkLine (w.alloc (.cells bookNil.toArray 55)) B w.heap.size (.slice none 0 0) [] m :=
  ⟨Bk.begin (Blk.made w bookNil _), hm, h, (fun k hk => by cases hk), (fun j v xs hj => by simp at hj), by simp⟩

theorem BkLine.chg {w w' : World} {B bb : Nat} {lv : Value} {vs : List (Value × List Value)} {m : Nat} (h : BkLine w B bb lv vs m) (c : Chg [] w w') : BkLine w' B bb lv vs m :=
  ⟨h.bk.chg c (by simp), h.top, h.low, h.list, h.each, h.few⟩

theorem BkLine.keep {w w' : World} {B bb : Nat} {lv : Value} {vs : List (Value × List Value)} {m : Nat} (h : BkLine w B bb lv vs m) (c : Chg (bb :: lv.ownBlock.toList) w w') {w0 : World} (c0 : Chg [] w0 w) (hz : w0.heap.size ≤ bb) : Chg [] w0 w' :=
  c0.fresh c (fun j hj => .inr (by
    rcases List.mem_cons.1 hj with rfl | hj
    · exact hz
    · exact Nat.le_trans hz (h.list j (by simpa using hj))))

/-- An entry that was made behind the others, ahead of the book. -/
theorem BkLine.add {w : World} {B bb : Nat} {lv : Value} {vs : List (Value × List Value)} {m m' : Nat} (h : BkLine w B bb lv vs m) (v : Value) (xs : List Value) (hv : w.ownsRow B 5 1 v xs.length xs) (hx : xs.length ≤ 1000000) (hk : ∀ k, v.ownBlock = some k → m ≤ k ∧ k < m') (hm : m ≤ m') (hm' : m' ≤ bb) (hl : vs.length ≤ 100) :
    Calls Try.prog 15 #[.pointer (some ⟨bb, 0, none⟩), v] w fun e w' => ∃ lv', e = .returned (.tuple #[]) ∧ Hid (BkLine w' B bb lv' (vs ++ [(v, xs)]) m') ∧ Hid (∀ w0, Chg [] w0 w → w0.heap.size ≤ bb → Chg [] w0 w') := by
  have hB : B ≤ w.heap.size := Nat.le_trans h.low (Nat.le_of_lt h.bk.pb.lt)
  have nt : ∀ k, v.ownBlock = some k → Bk.not bb lv vs k := fun k hk0 => by
    obtain ⟨h1, h2⟩ := hk k hk0
    refine ⟨by omega, fun e => ?_, fun j u ys hj e => ?_⟩
    · have := h.list k e; omega
    · have := (h.each j u ys hj).2 k e; omega
  refine (book_bytes B bb lv vs v xs w h.bk hv nt (by omega) hB).mono ?_
  rintro e w' ⟨lv', rfl, S⟩
  refine ⟨lv', rfl, ⟨S.bk, hm', h.low, fun k hk0 => ?_, fun j u ys hj => ?_, by simp; omega⟩, fun w0 c0 hz => h.keep S.chg c0 hz⟩
  · rcases S.blk with e | ⟨q, e, hq⟩
    · rw [e] at hk0; exact h.list k hk0
    · rw [e] at hk0
      have : q = k := by simpa using hk0
      have := h.bk.pb.lt
      omega
  · rw [List.getElem?_append] at hj
    split at hj
    · obtain ⟨h1, h2⟩ := h.each j u ys hj
      exact ⟨h1, fun k e => by have := h2 k e; omega⟩
    · next hj2 =>
      have h3 : j - vs.length = 0 := by
        have := (List.getElem?_eq_some_iff.1 hj).1
        simp at this
        omega
      rw [h3] at hj
      obtain ⟨rfl, rfl⟩ : v = u ∧ xs = ys := by simpa using hj
      exact ⟨hx, fun k e => (hk k e).2⟩

/-- An entry that was made behind the book itself. -/
theorem BkLine.addNew {w1 w : World} {B bb : Nat} {lv : Value} {vs : List (Value × List Value)} {m : Nat} (h : BkLine w1 B bb lv vs m) (c : Chg [] w1 w) (v : Value) (xs : List Value) (hv : w.ownsRow B 5 1 v xs.length xs) (hk : ∀ k, v.ownBlock = some k → w1.heap.size ≤ k) (hl : vs.length ≤ 100) :
    Calls Try.prog 15 #[.pointer (some ⟨bb, 0, none⟩), v] w fun e w' => ∃ lv', e = .returned (.tuple #[]) ∧ Hid (Bk w' B bb lv' (vs ++ [(v, xs)])) ∧ Hid (∀ w0, Chg [] w0 w → w0.heap.size ≤ bb → Chg [] w0 w') := by
  have h2 := h.chg c
  have hB : B ≤ w.heap.size := Nat.le_trans h2.low (Nat.le_of_lt h2.bk.pb.lt)
  refine (book_bytes B bb lv vs v xs w h2.bk hv (fun k hk0 => h.bk.new (hk k hk0)) (by omega) hB).mono ?_
  rintro e w' ⟨lv', rfl, S⟩
  exact ⟨lv', rfl, S.bk, fun w0 c0 hz => h2.keep S.chg c0 hz⟩

theorem bk_own {w : World} {B bb : Nat} {lv : Value} {vs : List (Value × List Value)} (h : Bk w B bb lv vs) (hB : B ≤ w.heap.size) (hl : vs.length ≤ 1000) (hx : ∀ (j : Nat) (v : Value) (xs : List Value), vs[j]? = some (v, xs) → xs.length ≤ 1000000) :
    Calls Try.prog 21 #[.pointer (some ⟨bb, 0, none⟩)] w fun e w' => e = .returned (.bool true) ∧ Hid (∀ w0, Chg [] w0 w → w0.heap.size ≤ B → Chg [] w0 w') := by
  refine (book_own B bb lv vs w h (by omega) hB (fun j v xs hj => by have := hx j v xs hj; omega)).mono ?_
  rintro e w' ⟨rfl, c⟩
  refine ⟨rfl, fun w0 c0 hz => c0.fresh c (fun j hj => .inr ?_)⟩
  obtain ⟨i, v, xs, h1, h2⟩ := rowsOf_spec hj
  have := ((h.row i v xs h1).lt j h2).1
  omega

/-- What the entry of a list of bytes is. -/
def rowB (l : List Nat) : List Value := (ints l).map (Value.int .u8)

theorem own_rowB {w : World} {B B' : Nat} {v : Value} {l : List Nat} (h : w.ownsRow B' 5 1 v l.length ((ints l).map (Value.int .u8))) (hB : B ≤ B') : w.ownsRow B 5 1 v (rowB l).length (rowB l) := by
  have e : (rowB l).length = l.length := by unfold rowB; rw [List.length_map, ints_length]
  rw [e]
  exact ownsRow_base h hB

theorem rowB_len (l : List Nat) (h : l.length ≤ 1000000) : (rowB l).length ≤ 1000000 := by
  unfold rowB
  rw [List.length_map, ints_length]
  exact h

end Go.Proofs.Ytnjemjkjbeingaa
