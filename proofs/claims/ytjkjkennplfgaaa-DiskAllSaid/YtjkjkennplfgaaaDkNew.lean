/-
  The program's disk: New. By an AI agent.
-/
import Derived.Test.YtjkjkennplfgaaaDkEasy
namespace Go.Proofs.Ytjkjkennplfgaaa
open Go.RowKit Go.Maps

theorem info_sector : (Try.prog.info? 81).map (fun i => (i.zero, i.size, i.bytes)) = some (some (.agg (Array.replicate 128 (.int .u8 0))), 128, 128) := by kernel_rfl

theorem sector_size : (Try.prog.info? 81).map (·.size) = some 128 := by kernel_rfl

theorem made_noughts (n : Nat) : (madeCells (Value.agg (Array.replicate 128 (Value.int .u8 0))).cells (n * 128)).toList = bytesOf (List.replicate n (List.replicate 128 0)).flatten := by
  have e : (List.replicate n (List.replicate 128 0)).flatten = List.replicate (n * 128) 0 := by rw [List.flatten_replicate_replicate]
  rw [e]
  apply List.ext_getElem?
  intro j
  by_cases hj : j < n * 128
  · have hm : j % 128 < 128 := Nat.mod_lt _ (by decide)
    simp [madeCells, Value.cells, bytesOf, ints, hj, hm]
  · simp [madeCells, Value.cells, bytesOf, ints, hj]

/-- A made row of greater elements is known whole. -/
theorem Blk.ownedN {w : World} {base : Nat} {e : TypeId} {g n size : Nat} {xs : List Value} (h : w.ownsRow base e size (.slice (some ⟨g, 0, none⟩) n n) n xs) : Blk w g e xs ∧ base ≤ g := by
  rcases h.2 with ⟨h0, _⟩ | ⟨g', cap, cur, hv, hb, hg, _, _, hs, ht⟩
  · cases h0
  · obtain ⟨h1, h2⟩ : g = g' ∧ n = cap := by simpa using hv
    subst h1 h2
    refine ⟨?_, hb⟩
    unfold Blk
    rw [hg, ← ht, List.take_of_length_le (by simp [hs])]

theorem has_new (n : Nat) : (Dk.new n).last = List.replicate n (List.replicate 128 0) := rfl

set_option maxHeartbeats 1000000 in
set_option maxRecDepth 100000 in
theorem dnew_aux (n : Int) (w : World) (ok : Prop) (OK : Hid (ok ↔ 1 ≤ n ∧ n ≤ 8192)) : Calls Try.prog 20 #[.int .i64 n] w (DNewed w ok (Dk.new n.toNat)) := by
  by_cases hok : 1 ≤ n ∧ n ≤ 8192
  · have HO : Hid ok := OK.out.2 hok
    clear OK
    obtain ⟨k, rfl⟩ := Int.eq_ofNat_of_zero_le (show (0 : Int) ≤ n by omega)
    have hk1 : 1 ≤ k := by omega
    have hk2 : k ≤ 8192 := by omega
    have h1 : ¬ (k : Int) < 1 := by omega
    have h2 : ¬ (8192 : Int) < k := by omega
    rw [Int.toNat_natCast]
    have FN := Lib.hid (Dk.Fit.new hk1 hk2)
    obtain ⟨i0, hi, hz0, hz1, hz2⟩ := info_parts info_sector
    replace hi := Lib.hid hi
    replace hz0 := Lib.hid hz0
    replace hz1 := Lib.hid hz1
    replace hz2 := Lib.hid hz2
    clear hok
    go_enter Try.func20, Try.ntmps20
    go_wp2_with (with_reducible refine wpList_make_full _ rfl (.tmp 11) (.tmp 11) 75 rfl w.heap.size 81 i0 _ 128 Try.underlying75 hi.out hz0.out hz1.out .i64 .i64 (k : Int) (k : Int) k rfl rfl rfl rfl (by rw [hz2.out]; omega) (by unfold maxLen; omega) (Nat.le_refl _) ?_; intro w1 ow gr)
    obtain ⟨B0, hb0⟩ := Blk.ownedN ow
    have C1 : Chg [] w w1 := (Chg.refl _ _).grown gr (by simp)
    have hsz := C1.size
    have hw0 : w.heap.size < w1.heap.size := B0.lt
    have BG := Blk.made w1 [.slice (some ⟨w.heap.size, 0, none⟩) k k, .slice none 0 0, .map none, .bool false] 79
    have BD := B0.alloc (.cells #[.slice (some ⟨w.heap.size, 0, none⟩) k k, .slice none 0 0, .map none, .bool false] 79)
    have CE := dempty_any w1.heap.size _ _ _ _ _ BG
    refine CE.mono ?_
    rintro e w2 ⟨rfl, m2, h1, h2, h3, h4⟩
    have T : Hid (∃ g F, (g = w1.heap.size) ∧ Hid ((DiskT g (Dk.new k) F).P w2) ∧ Hid (∀ k ∈ F, w.heap.size ≤ k) ∧ Hid (Chg [] w w2)) := by
      have hs2 : (w1.alloc (.cells #[.slice (some ⟨w.heap.size, 0, none⟩) k k, .slice none 0 0, .map none, .bool false] 79)).heap.size = w1.heap.size + 1 := by simp
      have h1' : w1.heap.size + 1 ≤ m2 := by rw [← hs2]; exact h1
      have hs4 := h4.size
      have hl3 := h3.lt
      have hln : (Dk.new k).last.length = k := by simp [Dk.new]
      refine ⟨w1.heap.size, [w1.heap.size, w.heap.size, m2], rfl, ⟨fun j hj => ?_, FN.out, w.heap.size, m2, .slice none 0 0, ⟨by rw [hln]; exact h2, ?_, World.ownsRow_nil _ _ _ _, h3, by simp, ⟨by simp, by omega⟩, ⟨by simp, by omega, by omega⟩, fun j hj => by simp [Value.ownBlock] at hj⟩⟩, fun j hj => ?_, ?_⟩
      · rcases List.mem_cons.1 hj with rfl | hj
        · omega
        rcases List.mem_cons.1 hj with rfl | hj
        · omega
        rw [List.mem_singleton.1 hj]; exact hl3
      · rw [has_new, ← made_noughts]
        exact BD.chg h4 (by simp; omega)
      · rcases List.mem_cons.1 hj with rfl | hj
        · omega
        rcases List.mem_cons.1 hj with rfl | hj
        · omega
        rw [List.mem_singleton.1 hj]; omega
      · exact (C1.alloc _).fresh h4 (fun j hj => by rw [List.mem_singleton.1 hj]; exact .inr hsz)
    clear h1 h2 h3 h4 CE BD BG B0 C1 hsz hw0 ow gr hb0
    go_wp2_with fail
    go_ret2
    obtain ⟨g, F, rfl, t2, t3, t4⟩ := T.out
    exact .inr ⟨HO.out, _, F, rfl, t2, t3, t4⟩
  · have HO : Hid (¬ ok) := fun h => hok (OK.out.1 h)
    have hcase : n < 1 ∨ (¬ n < 1 ∧ 8192 < n) := by omega
    clear OK hok
    rcases hcase with h1 | ⟨h1, h2⟩
    · go_enter Try.func20, Try.ntmps20
      go_wp2_with fail
      go_ret2
      exact .inl ⟨HO.out, rfl, Chg.refl _ _⟩
    · go_enter Try.func20, Try.ntmps20
      go_wp2_with fail
      go_ret2
      exact .inl ⟨HO.out, rfl, Chg.refl _ _⟩

theorem dnew_any (n : Int) (w : World) (_hn : -9223372036854775808 ≤ n ∧ n ≤ 9223372036854775807) : Calls Try.prog 20 #[.int .i64 n] w (DNewed w (1 ≤ n ∧ n ≤ 8192) (Dk.new n.toNat)) := dnew_aux n w _ Iff.rfl

end Go.Proofs.Ytjkjkennplfgaaa
