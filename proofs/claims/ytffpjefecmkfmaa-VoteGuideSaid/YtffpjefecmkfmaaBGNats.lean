/-
  Bytes as numbers, and numbers as bytes. No function of the program is named here. By an AI agent.
-/
import Derived.Test.YtffpjefecmkfmaaBG
namespace Go.Proofs.Ytffpjefecmkfmaa
open Go.RowKit

/-- Numbers as bytes. -/
def nats (xs : List Int) : List Nat := xs.map Int.toNat

theorem nats_get {xs : List Int} (h : By xs) {k : Nat} (hk : k < xs.length) : ∃ y : Nat, xs.getD k 0 = (y : Int) ∧ y < 256 ∧ (nats xs).take (k + 1) = (nats xs).take k ++ [y] := by
  have hx := h.get k
  obtain ⟨y, hy⟩ := Int.eq_ofNat_of_zero_le hx.1
  refine ⟨y, hy, by omega, ?_⟩
  have hl : k < (nats xs).length := by simpa [nats] using hk
  rw [List.take_succ_eq_append_getElem hl]
  congr 2
  have : xs[k] = (y : Int) := by rw [← hy]; simp [List.getD, List.getElem?_eq_getElem hk]
  simp [nats, this]

/-- Bytes, each below 256. -/
def Bs (bs : List Nat) : Prop := ∀ b ∈ bs, b < 256

theorem nats_bs {xs : List Int} (h : By xs) : Bs (nats xs) := by
  intro b hb
  obtain ⟨x, hx, rfl⟩ := List.mem_map.1 hb
  have := h x hx
  omega

theorem nats_length (xs : List Int) : (nats xs).length = xs.length := by simp [nats]

/-- Numbers, as the cells have them. -/
def ints (bs : List Nat) : List Int := bs.map fun b : Nat => (b : Int)

theorem ints_length (bs : List Nat) : (ints bs).length = bs.length := by simp [ints]

theorem nats_ints (bs : List Nat) : nats (ints bs) = bs := by simp [nats, ints, Function.comp_def]

theorem ints_nats {xs : List Int} (h : By xs) : ints (nats xs) = xs := by
  unfold ints nats
  rw [List.map_map]
  have : ∀ x ∈ xs, ((fun b : Nat => (b : Int)) ∘ Int.toNat) x = id x := fun x hx => Int.toNat_of_nonneg (h x hx).1
  rw [List.map_congr_left this, List.map_id]

theorem ints_by {bs : List Nat} (h : Bs bs) : By (ints bs) := by
  intro x hx
  obtain ⟨b, hb, rfl⟩ := List.mem_map.1 hx
  have := h b hb
  omega

theorem ints_get (bs : List Nat) (j : Nat) : (ints bs).getD j 0 = ((bs.getD j 0 : Nat) : Int) := by
  unfold ints
  simp only [List.getD, List.getElem?_map]
  cases bs[j]? <;> rfl

theorem ints_set (bs : List Nat) (j x : Nat) : (ints (bs.set j x)).map (Value.int .u8) = ((ints bs).map (Value.int .u8)).set j (.int .u8 (x : Int)) := by
  unfold ints
  rw [List.map_set, List.map_set]

theorem nats_append (a b : List Int) : nats (a ++ b) = nats a ++ nats b := by simp [nats]

theorem nats_getD {xs : List Int} (h : By xs) {n k : Nat} (hk : k < n) (hn : n ≤ xs.length) : ∃ y : Nat, xs.getD k 0 = (y : Int) ∧ y < 256 ∧ ((nats xs).take n).getD k 0 = y := by
  have hx := h.get k
  obtain ⟨y, hy⟩ := Int.eq_ofNat_of_zero_le hx.1
  refine ⟨y, hy, by omega, ?_⟩
  have hl : k < xs.length := by omega
  rw [List.getD_eq_getElem?_getD, List.getElem?_take, if_pos hk]
  unfold nats
  rw [List.getElem?_map, List.getElem?_eq_getElem hl]
  rw [List.getD_eq_getElem?_getD, List.getElem?_eq_getElem hl] at hy
  simp at hy
  simp [hy]

end Go.Proofs.Ytffpjefecmkfmaa

/-
  Two lists of bytes that are the same: SameBytes says so. By an AI agent.
-/
namespace Go.Proofs.Ytffpjefecmkfmaa
open Go.RowKit

end Go.Proofs.Ytffpjefecmkfmaa

/-
  What lists that are lent need in common. No function of the program is named here. By an AI agent.
-/
namespace Go.Proofs.Ytffpjefecmkfmaa
open Go.RowKit

theorem u8s_one (xs : List Int) : ∀ u ∈ xs.map (Value.int .u8), u.oneCell' = true := by
  intro u hu
  obtain ⟨x, _, rfl⟩ := List.mem_map.1 hu
  rfl

theorem add_block (a : Addr) (j : Nat) : (a.add j).block = a.block := by unfold Addr.add; split <;> rfl

theorem lent_cells {w w1 : World} {ad : Addr} {xs : List Int} (hcell : ∀ j u, (xs.map (Value.int .u8))[j]? = some u → w.cell? (ad.add j) = some u) (hlt : xs = [] ∨ ad.block < w.heap.size) (c : Chg [] w w1) :
    ∀ j u, (xs.map (Value.int .u8))[j]? = some u → w1.cell? (ad.add j) = some u := by
  intro j u hj
  rcases hlt with rfl | h
  · simp at hj
  · rw [← hcell j u hj]
    exact c.cell (by rw [add_block]; exact h) (by simp)

theorem two_cells (w : World) (x y : Value) (e : TypeId) : ∀ j u, [x, y][j]? = some u → (w.alloc (.cells #[x, y] e)).cell? ((⟨w.heap.size, 0, none⟩ : Addr).add j) = some u := by
  intro j u hj
  have := (Blk.made w [x, y] e).cell hj
  rw [Addr.add_lit, Nat.zero_add]
  exact this

end Go.Proofs.Ytffpjefecmkfmaa
namespace Go.Proofs.Ytffpjefecmkfmaa
open Go.RowKit

/-- What has been lent: in a block of its own. -/
def LentBy (w : World) (xs : List Int) (e : Ending) (w' : World) : Prop :=
  ∃ g, e = .returned (.slice (some ⟨g, 0, none⟩) xs.length (xs.length + 2)) ∧ Blk w' g 5 ((xs ++ [91, 92]).map (Value.int .u8)) ∧ Chg [] w w' ∧ w.heap.size ≤ g

theorem Blk.sl {w : World} {g n : Nat} {xs ys : List Int} (h : Blk w g 5 ((xs ++ ys).map (Value.int .u8))) : Sl w (.slice (some ⟨g, 0, none⟩) xs.length n) xs :=
  .inr ⟨g, 0, n, rfl, h.lt, fun j hj => by rw [Nat.zero_add]; exact h.cell (by simp [List.getD, List.getElem?_append_left, hj])⟩

end Go.Proofs.Ytffpjefecmkfmaa

/-
  Lists of states that are the same, and that are lent. By an AI agent. Printed by gen_states.py.
-/
namespace Go.Proofs.Ytffpjefecmkfmaa
open Go.RowKit

theorem info_state : (Try.prog.info? 37).map (fun i => (i.zero, i.size, i.bytes)) = some (some (.int .u8 0), 1, 1) := by kernel_rfl

set_option maxHeartbeats 400000 in
theorem same_states (va vb : Value) (xs : List Int) (w : World) (ha : Sl w va xs) (hb : Sl w vb xs) (hbig : xs.length ≤ 140737488355328) :
    Calls Try.prog 31 #[va, vb] w fun e w' => e = .returned (.bool true) ∧ ∃ q, w' = w.drewN q := by
  obtain ⟨ao, ac, rfl⟩ := ha.slice
  obtain ⟨bo, bc, rfl⟩ := hb.slice
  have HA := Lib.hid ha
  have HB := Lib.hid hb
  clear ha hb
  go_enter Try.func31, Try.ntmps31
  go_wp2
  go_loopw [5] (fun i wr => ∃ k : Nat, k ≤ xs.length ∧ i = .int .i64 k ∧ ∃ q, wr = w.drewN q) (fun i _ => xs.length - (intOf i).toNat)
  case atStart => exact ⟨0, Nat.zero_le _, rfl, 0, rfl⟩
  case round =>
    obtain ⟨k, hk, rfl, q, rfl⟩ := hrel
    by_cases hlt : k < xs.length
    · have LA : ∃ g o, ao = some ⟨g, o, none⟩ ∧ w.cell? ⟨g, o + k, none⟩ = some (.int .u8 (xs.getD k 0)) := by
        rcases HA.out with ⟨rfl, _⟩ | ⟨g, o, c', hv, hb, hc⟩
        · simp at hlt
        · obtain ⟨rfl, rfl⟩ : ao = some ⟨g, o, none⟩ ∧ ac = c' := by simpa using hv
          exact ⟨g, o, rfl, hc k hlt⟩
      have LB : ∃ g o, bo = some ⟨g, o, none⟩ ∧ w.cell? ⟨g, o + k, none⟩ = some (.int .u8 (xs.getD k 0)) := by
        rcases HB.out with ⟨rfl, _⟩ | ⟨g, o, c', hv, hb, hc⟩
        · simp at hlt
        · obtain ⟨rfl, rfl⟩ : bo = some ⟨g, o, none⟩ ∧ bc = c' := by simpa using hv
          exact ⟨g, o, rfl, hc k hlt⟩
      obtain ⟨g, o, rfl, c1⟩ := LA
      obtain ⟨g2, o2, rfl, c2⟩ := LB
      generalize xs.getD k 0 = x at *
      have hi0 : (0 : Int) ≤ k := Int.natCast_nonneg _
      have hi1 : (k : Int) < xs.length := by omega
      go_wp2_with fail
      go_quiet (fail)
      go_wp2
      exact ⟨⟨k + 1, by omega, by go_num, _, rfl⟩, by simp [intOf]; omega⟩
    · go_wp2
      go_ret
      exact ⟨rfl, _, rfl⟩

/-- What has been lent: in a block of its own. -/
def LentSt (w : World) (xs : List Int) (e : Ending) (w' : World) : Prop :=
  ∃ g, e = .returned (.slice (some ⟨g, 0, none⟩) xs.length (xs.length + 2)) ∧ Blk w' g 37 ((xs ++ [71, 72]).map (Value.int .u8)) ∧ Chg [] w w' ∧ w.heap.size ≤ g

theorem Blk.sls {w : World} {g n : Nat} {xs ys : List Int} (h : Blk w g 37 ((xs ++ ys).map (Value.int .u8))) : Sl w (.slice (some ⟨g, 0, none⟩) xs.length n) xs :=
  .inr ⟨g, 0, n, rfl, h.lt, fun j hj => by rw [Nat.zero_add]; exact h.cell (by simp [List.getD, List.getElem?_append_left, hj])⟩

end Go.Proofs.Ytffpjefecmkfmaa
