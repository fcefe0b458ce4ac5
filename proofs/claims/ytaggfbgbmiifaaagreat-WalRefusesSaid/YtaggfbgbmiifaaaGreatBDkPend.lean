/-
  The program's disk: Pending. By an AI agent.
-/
import Derived.Test.YtaggfbgbmiifaaaGreatBDkRead
import Derived.Test.YtaggfbgbmiifaaaGreatBGInMore
namespace Go.Proofs.YtaggfbgbmiifaaaGreat
open Go.Maps Go.RowKit

theorem info_dwrite : (Tryz.prog.info? 295).map (fun i => (i.zero, i.size, i.bytes)) = some (some (.agg (#[.int .i64 0] ++ Array.replicate 128 (.int .u8 0))), 129, 136) := by kernel_rfl

theorem dwrite_size : (Tryz.prog.info? 295).map (·.size) = some 129 := by kernel_rfl

theorem dwrite_under : ∃ d, Tryz.prog.underlying 295 = some d ∧ d.isRow = true := ⟨_, Tryz.underlying295, rfl⟩

theorem blk_write0 (w : World) (t : TypeId) : Blk (w.alloc (.cells (Value.agg (#[Value.int .i64 0] ++ Array.replicate 128 (Value.int .u8 0))).cells t)) w.heap.size t (Value.int .i64 0 :: List.replicate 128 (Value.int .u8 0)) := by
  have := Blk.made w (Value.int .i64 0 :: List.replicate 128 (Value.int .u8 0)) t
  rw [show (Value.agg (#[Value.int .i64 0] ++ Array.replicate 128 (Value.int .u8 0))).cells = (Value.int .i64 0 :: List.replicate 128 (Value.int .u8 0)).toArray by simp [Value.cells]]
  exact this

/-- A write's cells. -/
def wcell (p : Nat × List Nat) : List Value := .int .i64 (p.1 : Int) :: bytesOf p.2

theorem wcell_len {p : Nat × List Nat} (h : p.2.length = 128) : (wcell p).length = 129 := by unfold wcell; rw [List.length_cons, bytesOf_length, h]

theorem wcell_one (p : Nat × List Nat) : ∀ v ∈ wcell p, v.oneCell' = true := by
  intro v hv
  rcases List.mem_cons.1 hv with rfl | hv
  · rfl
  · exact bytesOf_one _ v hv

theorem size_w {p : Nat × List Nat} (h : p.2.length = 128) : (Tryz.prog.info? 295).map (·.size) = some (wcell p).length := by
  rw [wcell_len h]
  exact dwrite_size

theorem info_du8 : (Tryz.prog.info? 5).map (fun i => (i.zero, i.size, i.bytes)) = some (some (.int .u8 0), 1, 1) := by kernel_rfl

theorem flat_take {l : List (List Nat)} {k : Nat} (h : k < l.length) : (l.take (k + 1)).flatten = (l.take k).flatten ++ l.getD k [] := by
  rw [List.getD_eq_getElem?_getD, List.getElem?_eq_getElem h, List.take_succ_eq_append_getElem h, List.flatten_append]
  simp

set_option maxHeartbeats 2000000 in
set_option maxRecDepth 100000 in
theorem dimage_any (g : Nat) (F : List Nat) (d : Dk) (w : World) (h : (DiskT g d F).P w) :
    Calls Tryz.prog 120 #[.pointer (some ⟨g, 0, none⟩)] w (Gives1 w d.image) := by
  have h' : DiskIn w g F d := h
  obtain ⟨gd, mb, cv, r⟩ := h'.rep
  have c3 := r.blk.cell (j := 3) rfl
  cases hbad : d.bad with
  | true =>
    rw [hbad] at c3
    have E : Hid (d.image = []) := by show _ = _; unfold Dk.image; rw [if_pos hbad]
    clear h h' r
    go_enter Tryz.func120, Tryz.ntmps120
    go_wp2_with fail
    go_ret
    exact ⟨_, rfl, by rw [E.out]; exact World.ownsRow_nil _ _ _ _, Chg.refl _ _⟩
  | false =>
    rw [hbad] at c3
    have E := Lib.hid (Dk.image_ok hbad)
    obtain ⟨i0, hi, hz0, hz1, hz2⟩ := info_parts info_du8
    replace hi := Lib.hid hi
    replace hz0 := Lib.hid hz0
    replace hz1 := Lib.hid hz1
    replace hz2 := Lib.hid hz2
    obtain ⟨j0, ki, kz0, kz1, kz2⟩ := info_parts info_sector
    replace ki := Lib.hid ki
    replace kz0 := Lib.hid kz0
    clear kz1 kz2
    have c0 := r.blk.cell (j := 0) rfl
    have R := Lib.hid r
    have FIT := Lib.hid h'.fit
    have hhi := h'.fit.hi
    obtain ⟨n, hn⟩ : ∃ n, n = d.last.length := ⟨_, rfl⟩
    rw [← hn] at c0 hhi
    obtain ⟨N, hN⟩ : ∃ N : Nat, (n : Int) * 128 = (N : Int) := ⟨n * 128, by omega⟩
    have hN2 : N = n * 128 := by omega
    have hN3 : N ≤ 1048576 := by omega
    have hw1 : IntKind.i64.wrap (N : Int) = (N : Int) := by rw [IntKind.wrap_i64]; omega
    have hw2 : wrap64 (N : Int) = (N : Int) := by unfold wrap64; omega
    replace hn := Lib.hid hn
    replace hN2 := Lib.hid hN2
    clear h h' r hbad
    go_enter Tryz.func120, Tryz.ntmps120
    go_wp2_with (first
      | ((with_reducible refine wpList_make_own _ rfl (.const (.int .i64 0)) (.tmp 15) 65 rfl w.heap.size 5 i0 _ 1 Tryz.underlying65 hi.out hz0.out hz1.out .i64 .i64 (N : Int) N rfl rfl rfl (by rw [hz2.out]; omega) (by unfold maxLen; omega) (Nat.le_refl _) ?_); intro w1 ow gr; have C1 : Hid (Chg [] w w1) := (Chg.refl _ _).grown gr (fun j hj => by cases hj); have O1 := Lib.hid ow; clear ow gr; have c0 : w1.cell? ⟨g, 0, none⟩ = some (.slice (some ⟨gd, 0, none⟩) n n) := (by have := (R.out.chg C1.out (fun _ _ => by simp)).blk.cell (j := 0) rfl; rw [← hn.out] at this; exact this)))
    go_loopw [3, 22] (fun s i wr => ∃ (k P : Nat), k ≤ n ∧ Hid (P = k * 128) ∧ i = .int .i64 k ∧ s = .slice (some ⟨w.heap.size, 0, none⟩) P N ∧ Hid (wr.ownsRow w.heap.size 5 1 (.slice (some ⟨w.heap.size, 0, none⟩) P N) P (bytesOf (d.last.take k).flatten)) ∧ Hid (Chg [] w wr)) (fun _ i _ => n - (intOf i).toNat)
    case atStart => exact ⟨0, 0, Nat.zero_le _, rfl, rfl, rfl, by exact O1.out, C1⟩
    case round =>
      obtain ⟨k, P, hk, hP, rfl, rfl, O, C⟩ := hrel
      clear O1 C1
      have hk0 : (0 : Int) ≤ k := Int.natCast_nonneg _
      by_cases hlt : k < n
      · have hk1 : (k : Int) < n := by omega
        have RW := R.out.chg C.out (fun _ _ => by simp)
        have hkl : k < d.last.length := by rw [← hn.out]; exact hlt
        have SC := RW.sec FIT.out hkl
        have FT := Lib.hid (flat_take hkl)
        have hsl := last128 FIT.out _ (getD_some hkl)
        have SZ := Lib.hid (size_of hsl)
        have BL : Hid ((bytesOf (d.last.getD k [])).length = 128) := by show _ = _; rw [bytesOf_length, hsl]
        generalize d.last.getD k [] = bs at *
        replace SC := Lib.hid SC
        have hPN : P + 128 ≤ N := by have := hP.out; have := hN2.out; omega
        clear RW hsl
        go_wp2_with (first
          | (with_reducible refine wpList_load_mid rfl 244 (.tmp 24) rfl gd (k * 128) rfl (bytesOf bs) _ SC.out Tryz.underlying244 rfl SZ.out ?_)
          | (with_reducible refine wpList_alloc_arr rfl 244 rfl j0 _ ki.out kz0.out ?_)
          | ((with_reducible refine wpList_store_blk rfl 244 (.tmp 5) (.tmp 25) rfl wr.heap.size 0 244 _ (bytesOf bs) rfl rfl (blk_noughts _ _) (by rw [BL.out, noughts_len]; decide) SZ.out (bytesOf_one _) ?_); intro w3 B3 C3; rw [lay_all (List.replicate 128 (Value.int .u8 0)) (bytesOf bs) (by rw [BL.out, noughts_len])] at B3; have C03 : Hid (Chg [] wr w3) := ((Chg.refl [] wr).alloc _).fresh C3.out (fun j hj => .inr (by have := List.mem_singleton.1 hj; omega)); have O3 := Lib.hid (owns_chg O.out C03.out (fun _ _ => by simp)); clear C3)
          | ((with_reducible refine wpList_append_fits _ rfl (.tmp 26) (.tmp 27) 65 rfl w.heap.size 5 i0 1 Tryz.underlying65 hi.out hz1.out w.heap.size P N _ rfl O3.out ⟨wr.heap.size, 0, none⟩ 128 128 (bytesOf bs) rfl BL.out (fun j u hu => by rw [Addr.add_lit, Nat.zero_add]; exact B3.out.cell hu) (bytesOf_one _) hPN ?_); intro w4 O4 G4; have C4 : Hid (Chg [] w w4) := (C.out.trans C03.out).grown G4 (fun j hj => .inr (by have := Option.some.inj hj; omega)); replace O4 := Lib.hid O4; clear G4))
        have O5 : Hid (w4.ownsRow w.heap.size 5 1 (.slice (some ⟨w.heap.size, 0, none⟩) (P + 128) N) (P + 128) (bytesOf (d.last.take (k + 1)).flatten)) := by
          show World.ownsRow _ _ _ _ _ _ _
          rw [FT.out, bytesOf_append]
          exact O4.out
        have hP5 : Hid (P + 128 = (k + 1) * 128) := by show _ = _; have := hP.out; omega
        exact ⟨⟨k + 1, P + 128, by omega, hP5, by go_num, rfl, O5, C4⟩, by simp [intOf]; omega⟩
      · obtain rfl : k = n := by omega
        go_wp2_with fail
        go_ret
        refine ⟨_, rfl, ?_, C⟩
        have o := O.out
        rw [hn.out, List.take_length] at o
        have hl := FIT.out.flatLen
        have hp : P = d.last.flatten.length := by have := hP.out; have := hn.out; omega
        rw [E.out, ← hp]
        exact o

end Go.Proofs.YtaggfbgbmiifaaaGreat
