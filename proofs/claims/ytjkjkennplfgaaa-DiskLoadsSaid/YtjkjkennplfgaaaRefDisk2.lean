/-
  The document's disk: Pending, Read, Write. By an AI agent.
-/
import Derived.Test.YtjkjkennplfgaaaRefDisk
import Derived.Test.YtjkjkennplfgaaaGInMore
namespace Go.Proofs.Ytjkjkennplfgaaa
open Go.RowKit

theorem info_int1 : (Try.prog.info? 3).map (fun i => (i.zero, i.size, i.bytes)) = some (some (.int .i64 0), 1, 8) := by kernel_rfl

theorem pending_take {d : Dk} {i : Nat} {p : Nat × List Nat} (h : d.cache[i]? = some p) : d.pending.take (i + 1) = d.pending.take i ++ [p.1] := by
  unfold Dk.pending
  rw [← List.map_take, ← List.map_take, take_snoc h, List.map_append]
  rfl

set_option maxHeartbeats 2000000 in
set_option maxRecDepth 100000 in
theorem rpending_any (g : Nat) (F : List Nat) (d : Dk) (w : World) (h : (RefT g d F).P w) (hc : d.cache.length ≤ 1000000000) :
    Calls Try.prog 39 #[.pointer (some ⟨g, 0, none⟩)] w fun e w' => ∃ u, e = .returned u ∧ Hid (w'.ownsRow w.heap.size 3 1 u d.pending.length ((ints d.pending).map (Value.int .i64))) ∧ Hid (Chg [] w w') := by
  have h' : RdIn w g F d := h
  obtain ⟨lv, cv, us, r⟩ := h'.rep
  obtain ⟨i0, hi, hz0, hz1, hz2⟩ := info_parts info_int1
  replace hi := Lib.hid hi
  replace hz0 := Lib.hid hz0
  replace hz1 := Lib.hid hz1
  replace hz2 := Lib.hid hz2
  obtain ⟨co, cc, rfl⟩ : ∃ co cc, cv = .slice co d.cache.length cc := by
    rcases r.cac.2 with ⟨rfl, h0⟩ | ⟨cb, cap, cur, rfl, _⟩
    · exact ⟨none, 0, by rw [h0]⟩
    · exact ⟨_, _, rfl⟩
  have R := Lib.hid r
  have HM := Lib.hid h'.mem
  have hpl : d.pending.length = d.cache.length := by simp [Dk.pending]
  clear h h' r
  go_enter Try.func39, Try.ntmps39
  go_wp2_with fail
  have O0 : Hid (w.ownsRow w.heap.size 3 1 (.slice none 0 0) 0 ((ints (d.pending.take 0)).map (Value.int .i64))) := World.ownsRow_nil _ _ _ _
  have C0 : Hid (Chg [] w w) := Chg.refl _ _
  replace hpl := Lib.hid hpl
  go_loopw [3, 4] (fun lg i wr => ∃ k : Nat, k ≤ d.cache.length ∧ i = .int .i64 k ∧ Hid (wr.ownsRow w.heap.size 3 1 lg k ((ints (d.pending.take k)).map (Value.int .i64))) ∧ Hid (Chg [] w wr)) (fun _ i _ => d.cache.length - (intOf i).toNat)
  case atStart => exact ⟨0, Nat.zero_le _, rfl, O0, C0⟩
  case round =>
    obtain ⟨k, hk, rfl, O, C⟩ := hrel
    clear O0 C0
    have RW := Lib.hid (R.out.chg C.out HM.out (fun _ _ => by simp))
    have c1 := RW.out.blk.cell (j := 1) rfl
    have hk0 : (0 : Int) ≤ k := Int.natCast_nonneg _
    by_cases hlt : k < d.cache.length
    · obtain ⟨p, cb, cc2, uo, uc, hp, hv, k1, k2, SU⟩ := RW.out.at hlt
      obtain ⟨rfl, rfl⟩ : co = some ⟨cb, 0, none⟩ ∧ cc = cc2 := by simpa using hv
      have hk1 : (k : Int) < d.cache.length := by omega
      have PT := Lib.hid (pending_take hp)
      have hbw : w.heap.size ≤ wr.heap.size := C.out.size
      clear hp SU k2 hv
      generalize p.1 = at_ at *
      go_wp2_with (with_reducible refine wpList_append_three _ rfl (.tmp 14) (.tmp 23) 69 rfl w.heap.size 3 i0 (.int .i64 0) 1 8 Try.underlying69 hi.out hz0.out hz1.out hz2.out rfl (by decide) _ k _ rfl (O.out.alloc _) ⟨wr.heap.size, 0, none⟩ 1 1 [.int .i64 (at_ : Int)] rfl rfl (new_cell _ _ _) (by simp [Value.oneCell']) (by unfold maxLen; omega) (by omega) (by simp; omega) ?_)
      intro v' wn ol gr nb
      have O2 : Hid (wn.ownsRow w.heap.size 3 1 v' (k + 1) ((ints (d.pending.take (k + 1))).map (Value.int .i64))) := by
        rw [PT.out]
        unfold ints
        rw [List.map_append, List.map_append]
        exact ol.out
      have C2 : Hid (Chg [] w wn) := (C.out.alloc _).grown gr.out (fun b hb => .inr (O.out.lt b hb).1)
      clear ol gr nb O C PT RW k1 c1
      go_wp2_with fail
      exact ⟨⟨k + 1, by omega, by go_num, O2, C2⟩, by simp [intOf]; omega⟩
    · obtain rfl : k = d.cache.length := by omega
      go_wp2_with fail
      go_ret
      refine ⟨_, rfl, ?_, C⟩
      have := O.out
      rw [List.take_of_length_le (by rw [hpl.out]; omega)] at this
      rw [hpl.out]
      exact this

end Go.Proofs.Ytjkjkennplfgaaa
