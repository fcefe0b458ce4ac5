/-
  The program's disk: Pending. By an AI agent.
-/
import Derived.Test.YtljhpdgjajhgbaaDkRead
import Derived.Test.YtljhpdgjajhgbaaGInMore
namespace Go.Proofs.Ytljhpdgjajhgbaa
open Go.Maps Go.RowKit

theorem info_dwrite : (Try.prog.info? 87).map (fun i => (i.zero, i.size, i.bytes)) = some (some (.agg (#[.int .i64 0] ++ Array.replicate 128 (.int .u8 0))), 129, 136) := by kernel_rfl

theorem dwrite_size : (Try.prog.info? 87).map (·.size) = some 129 := by kernel_rfl

theorem info_dint : (Try.prog.info? 3).map (fun i => (i.zero, i.size, i.bytes)) = some (some (.int .i64 0), 1, 8) := by kernel_rfl

theorem dwrite_under : ∃ d, Try.prog.underlying 87 = some d ∧ d.isRow = true := ⟨_, Try.underlying87, rfl⟩

theorem blk_write0 (w : World) (t : TypeId) : Blk (w.alloc (.cells (Value.agg (#[Value.int .i64 0] ++ Array.replicate 128 (Value.int .u8 0))).cells t)) w.heap.size t (Value.int .i64 0 :: List.replicate 128 (Value.int .u8 0)) := by
  have := Blk.made w (Value.int .i64 0 :: List.replicate 128 (Value.int .u8 0)) t
  rw [show (Value.agg (#[Value.int .i64 0] ++ Array.replicate 128 (Value.int .u8 0))).cells = (Value.int .i64 0 :: List.replicate 128 (Value.int .u8 0)).toArray by simp [Value.cells]]
  exact this

/-- A write's cells. -/
def wcell (p : Nat × List Nat) : List Value := .int .i64 (p.1 : Int) :: bytesOf p.2

theorem wcell_len {p : Nat × List Nat} (h : p.2.length = 128) : (wcell p).length = 129 := by unfold wcell; rw [List.length_cons, bytesOf_length, h]

theorem wcell_one (p : Nat × List Nat) : ∀ v ∈ wcell p, v.oneCell' = true := by
  intro v hv
  rcases List.mem_cons.1 hv with rfl | hv
  · rfl
  · exact bytesOf_one _ v hv

theorem size_w {p : Nat × List Nat} (h : p.2.length = 128) : (Try.prog.info? 87).map (·.size) = some (wcell p).length := by
  rw [wcell_len h]
  exact dwrite_size

def pendAt (c : List (Nat × List Nat)) (j : Nat) : Value := .int .i64 (((c.getD j (0, [])).1 : Nat) : Int)

theorem pend_all (d : Dk) : (List.range d.cache.length).map (pendAt d.cache) = (ints d.pending).map (Value.int .i64) := by
  apply List.ext_getElem?
  intro j
  by_cases hj : j < d.cache.length
  · simp [pendAt, Dk.pending, ints, hj, List.getD]
  · simp [pendAt, Dk.pending, ints, hj]

theorem pend_at {c : List (Nat × List Nat)} {j : Nat} {p : Nat × List Nat} (h : c[j]? = some p) : pendAt c j = .int .i64 (p.1 : Int) := by
  unfold pendAt
  rw [List.getD_eq_getElem?_getD, h]
  rfl

set_option maxHeartbeats 2000000 in
set_option maxRecDepth 100000 in
theorem dpending_any (g : Nat) (F : List Nat) (d : Dk) (w : World) (h : (DiskT g d F).P w) (hc : d.cache.length ≤ 1000000000) :
    Calls Try.prog 49 #[.pointer (some ⟨g, 0, none⟩)] w fun e w' => ∃ u, e = .returned u ∧ Hid (w'.ownsRow w.heap.size 3 1 u d.pending.length ((ints d.pending).map (Value.int .i64))) ∧ Hid (Chg [] w w') := by
  have h' : DiskIn w g F d := h
  obtain ⟨gd, mb, cv, r⟩ := h'.rep
  obtain ⟨co, cc, hcv, hcc1, hcc2⟩ := r.bound
  subst hcv
  obtain ⟨i0, hi, hz0, hz1, hz2⟩ := info_parts info_dint
  replace hi := Lib.hid hi
  replace hz0 := Lib.hid hz0
  replace hz1 := Lib.hid hz1
  replace hz2 := Lib.hid hz2
  obtain ⟨j0, ki, kz0, kz1, kz2⟩ := info_parts info_dwrite
  replace ki := Lib.hid ki
  replace kz0 := Lib.hid kz0
  clear kz1 kz2
  obtain ⟨du, hdu, hdr⟩ := dwrite_under
  replace hdu := Lib.hid hdu
  replace hdr := Lib.hid hdr
  have R := Lib.hid r
  have FIT := Lib.hid h'.fit
  have hpl : d.pending.length = d.cache.length := by simp [Dk.pending]
  have PA := Lib.hid (pend_all d)
  have c1 := r.blk.cell (j := 1) rfl
  rw [hpl]
  clear h h' r hpl
  go_enter Try.func49, Try.ntmps49
  go_wp2_with (first
    | ((with_reducible refine wpList_make_full _ rfl (.tmp 10) (.tmp 10) 22 rfl w.heap.size 3 i0 _ 1 Try.underlying22 hi.out hz0.out hz1.out .i64 .i64 (d.cache.length : Int) (d.cache.length : Int) d.cache.length rfl rfl rfl rfl (by rw [hz2.out]; omega) (by unfold maxLen; omega) (Nat.le_refl _) ?_); intro w1 ow gr; rw [made_replicate (.int .i64 0) d.cache.length rfl] at ow; have C1 : Hid (Chg [] w w1) := (Chg.refl _ _).grown gr (fun j hj => by cases hj); have O1 := Lib.hid ow; clear ow gr; have c1 := (R.out.chg C1.out (fun _ _ => by simp)).blk.cell (j := 1) rfl))
  have O0 : Hid (w1.ownsRow w.heap.size 3 1 (.slice (some ⟨w.heap.size, 0, none⟩) d.cache.length d.cache.length) d.cache.length (mix (pendAt d.cache) 0 (List.replicate d.cache.length (.int .i64 0)))) := by
    show World.ownsRow _ _ _ _ _ _ _
    rw [mix_zero]
    exact O1.out
  clear O1
  go_loopw [17] (fun i wr => ∃ k : Nat, k ≤ d.cache.length ∧ i = .int .i64 k ∧ Hid (wr.ownsRow w.heap.size 3 1 (.slice (some ⟨w.heap.size, 0, none⟩) d.cache.length d.cache.length) d.cache.length (mix (pendAt d.cache) k (List.replicate d.cache.length (.int .i64 0)))) ∧ Hid (Chg [] w wr)) (fun i _ => d.cache.length - (intOf i).toNat)
  case atStart => exact ⟨0, Nat.zero_le _, rfl, O0, C1⟩
  case round =>
    obtain ⟨k, hk, rfl, O, C⟩ := hrel
    clear O0 C1
    have hk0 : (0 : Int) ≤ k := Int.natCast_nonneg _
    by_cases hlt : k < d.cache.length
    · obtain ⟨p, hp⟩ : ∃ p, d.cache[k]? = some p := ⟨_, List.getElem?_eq_getElem hlt⟩
      have hk1 : (k : Int) < d.cache.length := by omega
      have RW := R.out.chg C.out (fun _ _ => by simp)
      obtain ⟨cb, cc2, hv, RG⟩ := RW.at FIT.out hp
      obtain ⟨rfl, rfl⟩ : co = some ⟨cb, 0, none⟩ ∧ cc = cc2 := by simpa using hv
      have hpl := cache128 FIT.out p (List.mem_of_getElem? hp)
      have PE := Lib.hid (pend_at hp)
      have SZ := Lib.hid (size_w hpl)
      have WL := Lib.hid (wcell_len hpl)
      have WO := Lib.hid (wcell_one p)
      have RG2 : Hid (wr.rangeAt cb (k * 129) (wcell p)) := RG
      have W0 : Hid (∃ v rest, wcell p = .int .i64 (p.1 : Int) :: rest) := ⟨0, _, rfl⟩
      have W1 : Hid ((wcell p)[0]? = some (.int .i64 (p.1 : Int))) := rfl
      generalize wcell p = wc at *
      generalize p.1 = pa at *
      clear hv RG hp hpl W0 RW
      go_wp2_with (first
        | (with_reducible refine wpList_load_mid rfl 87 (.tmp 20) rfl cb (k * 129) rfl wc du RG2.out hdu.out hdr.out SZ.out ?_)
        | (with_reducible refine wpList_alloc_arr rfl 87 rfl j0 _ ki.out kz0.out ?_)
        | ((with_reducible refine wpList_store_blk rfl 87 (.tmp 5) (.tmp 21) rfl wr.heap.size 0 87 _ wc rfl rfl (blk_write0 _ _) (by rw [WL.out]; simp) SZ.out WO.out ?_); intro w3 B3 C3; rw [lay_all _ wc (by rw [WL.out]; simp)] at B3; have C03 : Hid (Chg [] wr w3) := ((Chg.refl [] wr).alloc _).fresh C3.out (fun j hj => .inr (by have := List.mem_singleton.1 hj; omega)); have e0 := B3.out.cell W1.out; obtain ⟨q1, q2, q3, q4⟩ := owns_set (owns_chg O.out C03.out (fun _ _ => by simp)) hlt (.int .i64 (pa : Int)); have O3 := Lib.hid q1; clear q1 C3))
      have O4 : Hid ((w3.setCell ⟨w.heap.size, k, none⟩ (.int .i64 (pa : Int))).ownsRow w.heap.size 3 1 (.slice (some ⟨w.heap.size, 0, none⟩) d.cache.length d.cache.length) d.cache.length (mix (pendAt d.cache) (k + 1) (List.replicate d.cache.length (.int .i64 0)))) := by
        show World.ownsRow _ _ _ _ _ _ _
        rw [← mix_set (by simp; exact hlt), PE.out]
        exact O3.out
      have C4 : Hid (Chg [] w (w3.setCell ⟨w.heap.size, k, none⟩ (.int .i64 (pa : Int)))) := (C.out.trans C03.out).setCell (.inr (Nat.le_refl _)) _
      exact ⟨⟨k + 1, by omega, by go_num, O4, C4⟩, by simp [intOf]; omega⟩
    · obtain rfl : k = d.cache.length := by omega
      go_wp2_with fail
      go_ret
      refine ⟨_, rfl, ?_, C⟩
      have := O.out
      rw [show mix (pendAt d.cache) d.cache.length (List.replicate d.cache.length (.int .i64 0)) = (List.range d.cache.length).map (pendAt d.cache) from by
        have := mix_full (pendAt d.cache) (List.replicate d.cache.length (Value.int .i64 0))
        rw [List.length_replicate] at this
        exact this, PA.out] at this
      exact this


theorem info_du8 : (Try.prog.info? 5).map (fun i => (i.zero, i.size, i.bytes)) = some (some (.int .u8 0), 1, 1) := by kernel_rfl

theorem flat_take {l : List (List Nat)} {k : Nat} (h : k < l.length) : (l.take (k + 1)).flatten = (l.take k).flatten ++ l.getD k [] := by
  rw [List.getD_eq_getElem?_getD, List.getElem?_eq_getElem h, List.take_succ_eq_append_getElem h, List.flatten_append]
  simp

set_option maxHeartbeats 2000000 in
set_option maxRecDepth 100000 in
theorem dimage_any (g : Nat) (F : List Nat) (d : Dk) (w : World) (h : (DiskT g d F).P w) :
    Calls Try.prog 22 #[.pointer (some ⟨g, 0, none⟩)] w (Gives1 w d.image) := by
  have h' : DiskIn w g F d := h
  obtain ⟨gd, mb, cv, r⟩ := h'.rep
  have c3 := r.blk.cell (j := 3) rfl
  cases hbad : d.bad with
  | true =>
    rw [hbad] at c3
    have E : Hid (d.image = []) := by show _ = _; unfold Dk.image; rw [if_pos hbad]
    clear h h' r
    go_enter Try.func22, Try.ntmps22
    go_wp2_with fail
    go_ret
    exact ⟨_, rfl, by rw [E.out]; exact World.ownsRow_nil _ _ _ _, Chg.refl _ _⟩
  | false =>
    rw [hbad] at c3
    have E := Lib.hid (Dk.image_ok hbad)
    obtain ⟨i0, hi, hz0, hz1, hz2⟩ := info_parts info_du8
    replace hi := Lib.hid hi
    replace hz0 := Lib.hid hz0
    replace hz1 := Lib.hid hz1
    replace hz2 := Lib.hid hz2
    obtain ⟨j0, ki, kz0, kz1, kz2⟩ := info_parts info_sector
    replace ki := Lib.hid ki
    replace kz0 := Lib.hid kz0
    clear kz1 kz2
    have c0 := r.blk.cell (j := 0) rfl
    have R := Lib.hid r
    have FIT := Lib.hid h'.fit
    have hhi := h'.fit.hi
    obtain ⟨n, hn⟩ : ∃ n, n = d.last.length := ⟨_, rfl⟩
    rw [← hn] at c0 hhi
    obtain ⟨N, hN⟩ : ∃ N : Nat, (n : Int) * 128 = (N : Int) := ⟨n * 128, by omega⟩
    have hN2 : N = n * 128 := by omega
    have hN3 : N ≤ 1048576 := by omega
    have hw1 : IntKind.i64.wrap (N : Int) = (N : Int) := by rw [IntKind.wrap_i64]; omega
    have hw2 : wrap64 (N : Int) = (N : Int) := by unfold wrap64; omega
    replace hn := Lib.hid hn
    replace hN2 := Lib.hid hN2
    clear h h' r hbad
    go_enter Try.func22, Try.ntmps22
    go_wp2_with (first
      | ((with_reducible refine wpList_make_own _ rfl (.const (.int .i64 0)) (.tmp 15) 26 rfl w.heap.size 5 i0 _ 1 Try.underlying26 hi.out hz0.out hz1.out .i64 .i64 (N : Int) N rfl rfl rfl (by rw [hz2.out]; omega) (by unfold maxLen; omega) (Nat.le_refl _) ?_); intro w1 ow gr; have C1 : Hid (Chg [] w w1) := (Chg.refl _ _).grown gr (fun j hj => by cases hj); have O1 := Lib.hid ow; clear ow gr; have c0 : w1.cell? ⟨g, 0, none⟩ = some (.slice (some ⟨gd, 0, none⟩) n n) := (by have := (R.out.chg C1.out (fun _ _ => by simp)).blk.cell (j := 0) rfl; rw [← hn.out] at this; exact this)))
    go_loopw [3, 22] (fun s i wr => ∃ (k P : Nat), k ≤ n ∧ Hid (P = k * 128) ∧ i = .int .i64 k ∧ s = .slice (some ⟨w.heap.size, 0, none⟩) P N ∧ Hid (wr.ownsRow w.heap.size 5 1 (.slice (some ⟨w.heap.size, 0, none⟩) P N) P (bytesOf (d.last.take k).flatten)) ∧ Hid (Chg [] w wr)) (fun _ i _ => n - (intOf i).toNat)
    case atStart => exact ⟨0, 0, Nat.zero_le _, rfl, rfl, rfl, by exact O1.out, C1⟩
    case round =>
      obtain ⟨k, P, hk, hP, rfl, rfl, O, C⟩ := hrel
      clear O1 C1
      have hk0 : (0 : Int) ≤ k := Int.natCast_nonneg _
      by_cases hlt : k < n
      · have hk1 : (k : Int) < n := by omega
        have RW := R.out.chg C.out (fun _ _ => by simp)
        have hkl : k < d.last.length := by rw [← hn.out]; exact hlt
        have SC := RW.sec FIT.out hkl
        have FT := Lib.hid (flat_take hkl)
        have hsl := last128 FIT.out _ (getD_some hkl)
        have SZ := Lib.hid (size_of hsl)
        have BL : Hid ((bytesOf (d.last.getD k [])).length = 128) := by show _ = _; rw [bytesOf_length, hsl]
        generalize d.last.getD k [] = bs at *
        replace SC := Lib.hid SC
        have hPN : P + 128 ≤ N := by have := hP.out; have := hN2.out; omega
        clear RW hsl
        go_wp2_with (first
          | (with_reducible refine wpList_load_mid rfl 84 (.tmp 24) rfl gd (k * 128) rfl (bytesOf bs) _ SC.out Try.underlying84 rfl SZ.out ?_)
          | (with_reducible refine wpList_alloc_arr rfl 84 rfl j0 _ ki.out kz0.out ?_)
          | ((with_reducible refine wpList_store_blk rfl 84 (.tmp 5) (.tmp 25) rfl wr.heap.size 0 84 _ (bytesOf bs) rfl rfl (blk_noughts _ _) (by rw [BL.out, noughts_len]; decide) SZ.out (bytesOf_one _) ?_); intro w3 B3 C3; rw [lay_all (List.replicate 128 (Value.int .u8 0)) (bytesOf bs) (by rw [BL.out, noughts_len])] at B3; have C03 : Hid (Chg [] wr w3) := ((Chg.refl [] wr).alloc _).fresh C3.out (fun j hj => .inr (by have := List.mem_singleton.1 hj; omega)); have O3 := Lib.hid (owns_chg O.out C03.out (fun _ _ => by simp)); clear C3)
          | ((with_reducible refine wpList_append_fits _ rfl (.tmp 26) (.tmp 27) 26 rfl w.heap.size 5 i0 1 Try.underlying26 hi.out hz1.out w.heap.size P N _ rfl O3.out ⟨wr.heap.size, 0, none⟩ 128 128 (bytesOf bs) rfl BL.out (fun j u hu => by rw [Addr.add_lit, Nat.zero_add]; exact B3.out.cell hu) (bytesOf_one _) hPN ?_); intro w4 O4 G4; have C4 : Hid (Chg [] w w4) := (C.out.trans C03.out).grown G4 (fun j hj => .inr (by have := Option.some.inj hj; omega)); replace O4 := Lib.hid O4; clear G4))
        have O5 : Hid (w4.ownsRow w.heap.size 5 1 (.slice (some ⟨w.heap.size, 0, none⟩) (P + 128) N) (P + 128) (bytesOf (d.last.take (k + 1)).flatten)) := by
          show World.ownsRow _ _ _ _ _ _ _
          rw [FT.out, bytesOf_append]
          exact O4.out
        have hP5 : Hid (P + 128 = (k + 1) * 128) := by show _ = _; have := hP.out; omega
        exact ⟨⟨k + 1, P + 128, by omega, hP5, by go_num, rfl, O5, C4⟩, by simp [intOf]; omega⟩
      · obtain rfl : k = n := by omega
        go_wp2_with fail
        go_ret
        refine ⟨_, rfl, ?_, C⟩
        have o := O.out
        rw [hn.out, List.take_length] at o
        have hl := FIT.out.flatLen
        have hp : P = d.last.flatten.length := by have := hP.out; have := hn.out; omega
        rw [E.out, ← hp]
        exact o

end Go.Proofs.Ytljhpdgjajhgbaa
