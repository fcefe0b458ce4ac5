/-
  The rows of all elements of a list. By an AI agent.
-/
import Derived.Test.YtffpjefecmkfmaaBSpZero
namespace Go.Proofs.Ytffpjefecmkfmaa
open Go.RowKit

theorem FieldOk.past {w w' : World} {B B' c : Nat} {v : Value} {d : FD} {s : List Nat} (h : FieldOk w B c v d) (ch : Chg s w w') (hs : ∀ k ∈ s, k < B) (hB : B' ≤ B) : FieldOk w' B' c v d := by
  obtain ⟨f1, c1, f2, c2, rfl, p, r⟩ := h
  refine ⟨f1, c1, f2, c2, rfl, ⟨p.enters, fun w2 t b g st cs h1 h2 => ?_⟩, ⟨r.enters, fun w2 t b v st cs h1 h2 h3 h4 h5 h6 => ?_⟩⟩
  · exact p.puts w2 (s ++ t) b g st cs ((ch.mono (by intro k hk; exact List.mem_append_left _ hk)).trans (h1.mono (by intro k hk; exact List.mem_append_right _ hk))) (fun k hk => by
      rcases List.mem_append.1 hk with hk | hk
      · exact hs k hk
      · exact Nat.lt_of_lt_of_le (h2 k hk) hB)
  · exact r.reads w2 (s ++ t) b v st cs ((ch.mono (by intro k hk; exact List.mem_append_left _ hk)).trans (h1.mono (by intro k hk; exact List.mem_append_right _ hk))) (fun k hk => by
      rcases List.mem_append.1 hk with hk | hk
      · exact hs k hk
      · exact Nat.lt_of_lt_of_le (h2 k hk) hB) h3 h4 (Nat.lt_of_lt_of_le h5 hB) (Nat.lt_of_lt_of_le h6 hB)

theorem FieldOk.pair {w : World} {B c : Nat} {v : Value} {d : FD} (h : FieldOk w B c v d) : ∃ x y : Value, v = .agg #[x, y] ∧ x.oneCell' = true ∧ y.oneCell' = true := by
  obtain ⟨f1, c1, f2, c2, rfl, _⟩ := h
  exact ⟨_, _, rfl, rfl, rfl⟩

/-- The cells of rows that lie behind one another. -/
def fcells (fs : List (Value × Value)) : List Value := fs.flatMap fun p => [p.1, p.2]

theorem fcells_len : ∀ fs : List (Value × Value), (fcells fs).length = 2 * fs.length
  | [] => rfl
  | p :: r => by
    have := fcells_len r
    simp only [fcells, List.flatMap_cons, List.length_append, List.length_cons, List.length_nil] at this ⊢
    omega

theorem fcells_append (a b : List (Value × Value)) : fcells (a ++ b) = fcells a ++ fcells b := by simp [fcells]

theorem fcells_get : ∀ {fs : List (Value × Value)} {k : Nat} {p : Value × Value}, fs[k]? = some p → (fcells fs)[k * 2]? = some p.1 ∧ (fcells fs)[k * 2 + 1]? = some p.2
  | [], k, p, h => by simp at h
  | q :: r, 0, p, h => by
    obtain rfl : q = p := by simpa using h
    exact ⟨rfl, rfl⟩
  | q :: r, k + 1, p, h => by
    have h' : r[k]? = some p := by simpa using h
    obtain ⟨h1, h2⟩ := fcells_get h'
    have e : fcells (q :: r) = q.1 :: q.2 :: fcells r := rfl
    rw [e]
    refine ⟨?_, ?_⟩
    · rw [show (k + 1) * 2 = k * 2 + 1 + 1 by omega, List.getElem?_cons_succ, List.getElem?_cons_succ, h1]
    · rw [show (k + 1) * 2 + 1 = (k * 2 + 1) + 1 + 1 by omega, List.getElem?_cons_succ, List.getElem?_cons_succ, h2]

/-- The rows that are made, the others yet to come. -/
def begun (n : Nat) (fs : List (Value × Value)) : List Value := fcells fs ++ List.replicate (2 * (n - fs.length)) .nilFunc

theorem begun_len {n : Nat} {fs : List (Value × Value)} (h : fs.length ≤ n) : (begun n fs).length = 2 * n := by
  simp [begun, fcells_len]
  omega

theorem begun_step {n : Nat} {fs : List (Value × Value)} {x y : Value} (h : fs.length < n) : ((begun n fs).set (fs.length * 2) x).set (fs.length * 2 + 1) y = begun n (fs ++ [(x, y)]) := by
  unfold begun
  obtain ⟨m, hm⟩ : ∃ m, 2 * (n - fs.length) = m + 1 + 1 := ⟨2 * (n - fs.length) - 2, by omega⟩
  have hm2 : 2 * (n - (fs ++ [(x, y)]).length) = m := by simp; omega
  rw [hm2, hm, fcells_append]
  have hl := fcells_len fs
  rw [List.set_append_right _ _ (by omega), List.set_append_right _ _ (by omega), show fs.length * 2 - (fcells fs).length = 0 by omega, show fs.length * 2 + 1 - (fcells fs).length = 1 by omega]
  simp [List.replicate_succ, fcells]

theorem info_field3 : (Try.prog.info? 87).map (fun i => (i.zero, i.size, i.bytes)) = some (some (.agg #[.nilFunc, .nilFunc]), 2, 16) := by kernel_rfl

theorem made_fields (n : Nat) : (madeCells (Value.agg #[.nilFunc, .nilFunc]).cells (n * 2)).toList = begun n [] := by
  have hl : (madeCells (Value.agg #[.nilFunc, .nilFunc]).cells (n * 2)).toList.length = 2 * n := by rw [Array.length_toList, size_madeCells]; omega
  have e : begun n [] = List.replicate (2 * n) .nilFunc := by simp [begun, fcells]
  rw [e]
  refine List.eq_replicate_iff.2 ⟨hl, fun x hx => ?_⟩
  simp only [madeCells, Array.toList_map, List.mem_map] at hx
  obtain ⟨i, _, rfl⟩ := hx
  have h2 : i % 2 = 0 ∨ i % 2 = 1 := by omega
  show (#[Value.nilFunc, Value.nilFunc] : Array Value)[i % 2]! = _
  rcases h2 with h | h <;> rw [h] <;> rfl

/-- The rows of the elements of a list that lies in the content. -/
def Numbered (w : World) (c o n : Nat) (e : Ending) (w' : World) : Prop :=
  ∃ (g : Nat) (fs : List (Value × Value)), e = .returned (.slice (some ⟨g, 0, none⟩) n n) ∧ fs.length = n ∧ Hid (Blk w' g 87 (fcells fs)) ∧ Hid (Chg [] w w') ∧ w.heap.size ≤ g ∧
    Hid (∀ i p, fs[i]? = some p → FieldOk w' w.heap.size c (.agg #[p.1, p.2]) ⟨some (o + i, .u8), 1⟩)

set_option maxHeartbeats 2000000 in
set_option maxRecDepth 100000 in
theorem numbers_any (c o n : Nat) (hn : n ≤ 16) (w : World) :
    Calls Try.prog 62 #[.func (.func 55) #[] #[], .func (.func 56) #[] #[], .slice (some ⟨c, o, none⟩) n n] w (Numbered w c o n) := by
  obtain ⟨i0, hi, hz0, hz1, hz2⟩ := info_parts info_field3
  have HN := Lib.hid hn
  have hn0 : (0 : Int) ≤ n := Int.natCast_nonneg _
  go_enter Try.func62, Try.ntmps62
  go_wp2_with (at_make; refine wpList_make_full _ rfl _ _ 81 rfl w.heap.size 87 i0 (.agg #[.nilFunc, .nilFunc]) 2 Try.underlying81 hi hz0 hz1 .i64 .i64 _ _ n rfl rfl rfl rfl (by rw [hz2]; omega) (by unfold maxLen; omega) (Nat.le_refl _) ?_; intro w1 hown hgrow; have O1 := Lib.hid hown; have C1 : Hid (Chg [] w w1) := (Chg.refl _ w).grown hgrow (by intro k hk; cases hk); clear hown hgrow)
  have B1 : Hid (Blk w1 w.heap.size 87 (begun n [])) := by
    obtain ⟨_, h2⟩ := O1.out
    rcases h2 with ⟨h2, _⟩ | ⟨g, cap, cur, h2, _, h3, _, _, h5, h6⟩
    · cases h2
    · obtain ⟨rfl, rfl⟩ : w.heap.size = g ∧ n = cap := by simpa using h2
      rw [made_fields, List.take_of_length_le (by rw [Array.length_toList, h5]; exact Nat.le_refl _)] at h6
      show _ = _
      rw [← h6]
      exact h3
  clear O1 hz0 hz1 hz2 hi
  obtain ⟨g, hg⟩ : ∃ g, g = w.heap.size := ⟨_, rfl⟩
  rw [← hg] at B1 ⊢
  have HG := Lib.hid hg
  clear hg
  go_loopw [14] (fun i wr => ∃ k : Nat, k ≤ n ∧ i = .int .i64 k ∧ ∃ fs : List (Value × Value), Hid (fs.length = k) ∧ Hid (Blk wr g 87 (begun n fs)) ∧ Hid (Chg [] w wr) ∧ Hid (∀ i p, fs[i]? = some p → FieldOk wr (g + 1) c (.agg #[p.1, p.2]) ⟨some (o + i, .u8), 1⟩)) (fun i _ => n - (intOf i).toNat)
  case atStart => exact ⟨0, Nat.zero_le _, rfl, [], rfl, B1, C1, fun i p h => by simp at h⟩
  case round =>
    obtain ⟨k, hk, rfl, fs, L, B, C, F⟩ := hrel
    clear B1 C1
    by_cases hlt : k < n
    · have hk0 : (0 : Int) ≤ k := Int.natCast_nonneg _
      have hk1 : (k : Int) < n := by omega
      have NB := Lib.hid (number_sb c (o + k) wr)
      go_wp2_with fail
      refine NB.out.mono ?_
      rintro e w2 ⟨v, rfl, FO, C2⟩
      obtain ⟨q1, d1, q2, d2, rfl, _⟩ := FO.out
      have B2 : Hid (Blk w2 g 87 (begun n fs)) := B.out.chg C2.out (by simp)
      have f1 := B2.out.free (k * 2)
      have f2 := B2.out.free (k * 2 + 1)
      have hbl : (begun n fs).length = 2 * n := begun_len (by have := L.out; omega)
      obtain ⟨y1, hy1'⟩ : ∃ u, w2.cell? ⟨g, k * 2, none⟩ = some u := ⟨_, B2.out.cell (List.getElem?_eq_getElem (by omega))⟩
      obtain ⟨y2, hy2'⟩ : ∃ u, w2.cell? ⟨g, k * 2 + 1, none⟩ = some u := ⟨_, B2.out.cell (List.getElem?_eq_getElem (by omega))⟩
      clear NB hbl
      go_wp2_with fail
      have hz := C.out.size
      have hgw := HG.out
      have C3 : Hid (Chg [g] w2 ((w2.setCell ⟨g, k * 2, none⟩ (.func (.func q1) #[] d1)).setCell ⟨g, k * 2 + 1, none⟩ (.func (.func q2) #[] d2))) := ((Chg.refl _ _).setCell (.inl (by simp)) _).setCell (.inl (by simp)) _
      have hgl := B.out.lt
      refine ⟨⟨k + 1, by omega, by go_num, fs ++ [(.func (.func q1) #[] d1, .func (.func q2) #[] d2)], ?_, ?_, ?_, ?_⟩, by simp [intOf]; omega⟩
      · show _ = _
        rw [List.length_append, L.out]
        rfl
      · have := (B2.out.set (k * 2) (.func (.func q1) #[] d1)).set (k * 2 + 1) (.func (.func q2) #[] d2)
        rw [← L.out, begun_step (by rw [L.out]; exact hlt), L.out] at this
        exact this
      · exact (C.out.trans C2.out).fresh C3.out (fun j hj => .inr (by rw [List.mem_singleton.1 hj]; omega))
      · intro i p hp
        by_cases hi : i < fs.length
        · rw [List.getElem?_append_left hi] at hp
          exact ((F.out i p hp).past C2.out (by simp) (Nat.le_refl _)).past C3.out (fun j hj => by rw [List.mem_singleton.1 hj]; omega) (Nat.le_refl _)
        · rw [List.getElem?_append_right (by omega)] at hp
          have hi2 : i = k := by
            have h1 := (List.getElem?_eq_some_iff.1 hp).1
            have := L.out
            simp at h1
            omega
          subst hi2
          rw [show i - fs.length = 0 by have := L.out; omega] at hp
          obtain rfl : (Value.func (.func q1) #[] d1, Value.func (.func q2) #[] d2) = p := by simpa using hp
          exact FO.out.past C3.out (fun j hj => by rw [List.mem_singleton.1 hj]; exact hgl) (by omega)
    · obtain rfl : k = n := by omega
      go_wp2_with fail
      go_ret
      refine ⟨g, fs, rfl, L.out, ?_, C, by rw [HG.out]; exact Nat.le_refl _, fun i p hp => (F.out i p hp).past (Chg.refl [] _) (by simp) (by have := HG.out; omega)⟩
      have := B.out
      unfold begun at this
      rw [L.out, Nat.sub_self, Nat.mul_zero, List.replicate_zero, List.append_nil] at this
      exact this

end Go.Proofs.Ytffpjefecmkfmaa
