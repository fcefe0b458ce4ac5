/-
  Rows that are lent: WholeRows, SpoilRows. By an AI agent.
-/
import Derived.Test.YtaciamnfkidmfaaGLentRows
namespace Go.Proofs.Ytaciamnfkidmfaa
open Go.RowKit

theorem Lend.mark {w0 w : World} {G m1 m2 : Nat} {gs : List Nat} {ds : List RowD} (h : Lend w0 w G m1 m2 gs ds) {j : Nat} (hj : j < 2) :
    ∃ m, w.cell? ⟨G, ds.length + j, none⟩ = some (.slice (some ⟨m, 0, none⟩) 2 2) ∧ Blk w m 5 (([77, 78] : List Int).map (Value.int .u8)) := by
  have hl : ((lentDs gs ds).map (·.v)).length = ds.length := by rw [List.length_map, lentDs_length h.rows.len]
  match j, hj with
  | 0, _ => exact ⟨m1, h.blk.cell (by rw [List.getElem?_append_right (by omega), hl]; simp), h.mark1⟩
  | 1, _ => exact ⟨m2, h.blk.cell (by rw [List.getElem?_append_right (by omega), hl]; simp), h.mark2⟩

theorem Lend.head {w0 w : World} {G m1 m2 : Nat} {gs : List Nat} {ds : List RowD} (h : Lend w0 w G m1 m2 gs ds) {i : Nat} {d : RowD} (hd : ds[i]? = some d) :
    ∃ g, gs[i]? = some g ∧ w.cell? ⟨G, i, none⟩ = some (.slice (some ⟨g, 0, none⟩) d.bs.length (d.bs.length + 2)) ∧ Blk w g 5 ((d.bs ++ [91, 92]).map (Value.int .u8)) := by
  have hil : i < ds.length := (List.getElem?_eq_some_iff.1 hd).1
  obtain ⟨g, hg⟩ : ∃ g, gs[i]? = some g := ⟨_, List.getElem?_eq_getElem (by rw [h.rows.len]; exact hil)⟩
  refine ⟨g, hg, h.blk.cell ?_, h.rows.row i g d hg hd⟩
  have hl : ((lentDs gs ds).map (·.v)).length = ds.length := by rw [List.length_map, lentDs_length h.rows.len]
  rw [List.getElem?_append_left (by omega), List.getElem?_map]
  have : (lentDs gs ds)[i]? = some (lentD g d) := by unfold lentDs; rw [List.getElem?_zipWith, hg, hd]
  rw [this]
  rfl

set_option maxHeartbeats 1000000 in
set_option maxRecDepth 100000 in
theorem wholeRows_any (w0 : World) (G m1 m2 : Nat) (gs : List Nat) (ds : List RowD) (v : Value) (w : World) (h : Lend w0 w G m1 m2 gs ds) (hv : Rws w v ds) (hds : ds.length ≤ 1000000) :
    Calls Try.prog 16 #[.slice (some ⟨G, 0, none⟩) ds.length (ds.length + 2), v] w fun e w' => e = .returned (.bool true) ∧ Hid (Chg [] w w') := by
  obtain ⟨ao, c, rfl⟩ := hv.slice
  have HL := Lib.hid h
  have HR := Lib.hid hv
  clear h hv
  have hn0 : (0 : Int) ≤ ds.length := Int.natCast_nonneg _
  go_enter Try.func16, Try.ntmps16
  go_wp2_with fail
  go_loopw [6] (fun i wr => ∃ k : Nat, k ≤ 2 ∧ i = .int .i64 ((ds.length + k : Nat) : Int) ∧ Hid (Chg [] w wr)) (fun i _ => ds.length + 2 - (intOf i).toNat)
  case atStart => exact ⟨0, Nat.zero_le _, rfl, Chg.refl _ _⟩
  case round =>
    obtain ⟨k, hk, rfl, D⟩ := hrel
    have e1 : ((ds.length + k : Nat) : Int) = (ds.length : Int) + (k : Int) := by omega
    rw [e1]
    clear e1
    have hk0 : (0 : Int) ≤ k := Int.natCast_nonneg _
    by_cases hlt : k < 2
    · obtain ⟨m, c0, B⟩ := (HL.out.chg D.out (by simp)).mark hlt
      have hk1 : (k : Int) < 2 := by omega
      have S1 : Hid (Sl (wr.alloc (.cells #[.int .u8 77, .int .u8 78] 5)) (.slice (some ⟨m, 0, none⟩) 2 2) [77, 78]) :=
        Blk.sl (xs := [77, 78]) (ys := []) (n := 2) (B.alloc _)
      have S2 : Hid (Sl (wr.alloc (.cells #[.int .u8 77, .int .u8 78] 5)) (.slice (some ⟨wr.heap.size, 0, none⟩) 2 2) [77, 78]) :=
        Blk.sl (xs := [77, 78]) (ys := []) (n := 2) (Blk.made wr [.int .u8 77, .int .u8 78] _)
      clear B
      go_wp2_with fail
      refine (same_true _ _ _ _ S1.out S2.out (by decide)).mono ?_
      rintro e w' ⟨rfl, q, rfl⟩
      go_wp2_with fail
      exact ⟨⟨k + 1, by omega, by simp; omega, (D.out.alloc _).drewN _⟩, by simp [intOf]; omega⟩
    · obtain rfl : k = 2 := by omega
      rw [show ((2 : Nat) : Int) = 2 from rfl]
      go_wp2_with fail
      go_loopw [7] (fun i wr => ∃ j : Nat, j ≤ ds.length ∧ i = .int .i64 j ∧ Hid (Chg [] w wr)) (fun i _ => ds.length - (intOf i).toNat)
      case atStart => exact ⟨0, Nat.zero_le _, rfl, D⟩
      case round =>
        obtain ⟨j, hj, rfl, D2⟩ := hrel
        have hj0 : (0 : Int) ≤ j := Int.natCast_nonneg _
        by_cases hlt2 : j < ds.length
        · obtain ⟨d, hd⟩ : ∃ d, ds[j]? = some d := ⟨_, List.getElem?_eq_getElem hlt2⟩
          obtain ⟨g, hg, c0, B⟩ := (HL.out.chg D2.out (by simp)).head hd
          obtain ⟨b, o, rfl, hb, R⟩ := (HR.out.chg D2.out).at hd
          have c1 := R.c0
          have B2 := Lib.hid B
          have R2 := Lib.hid R
          have hj1 : (j : Int) < ds.length := by omega
          clear B R hd hg
          go_wp2_with fail
          go_quiet (first | (go_at_call 29; exact Calls.quiet_of (whole_any g d.v d.bs _ (B2.out.drewN _) (R2.out.sl.chgNil ((Chg.refl _ _).drewN _)) R2.out.big)))
          go_wp2_with fail
          exact ⟨⟨j + 1, by omega, by go_num, D2.out.drewN _⟩, by simp [intOf]; omega⟩
        · obtain rfl : j = ds.length := by omega
          go_wp2_with fail
          go_ret
          exact ⟨rfl, D2⟩

set_option maxHeartbeats 1000000 in
set_option maxRecDepth 100000 in
theorem spoilRows_any (w0 : World) (G m1 m2 : Nat) (gs : List Nat) (ds : List RowD) (w : World) (h : Lend w0 w G m1 m2 gs ds) (hds : ds.length ≤ 1000000) (hsm : ∀ d ∈ ds, d.bs.length ≤ 1000000) :
    Calls Try.prog 17 #[.slice (some ⟨G, 0, none⟩) ds.length (ds.length + 2)] w fun e w' => e = .returned (.tuple #[]) ∧ Hid (Chg (G :: gs) w w') := by
  have HL := Lib.hid h
  have HS := Lib.hid hsm
  clear h hsm
  have hn0 : (0 : Int) ≤ ds.length := Int.natCast_nonneg _
  go_enter Try.func17, Try.ntmps17
  go_wp2_with fail
  go_loopw [2] (fun i wr => ∃ k : Nat, k ≤ ds.length ∧ i = .int .i64 k ∧ Hid (Chg (gs.take k) w wr)) (fun i _ => ds.length - (intOf i).toNat)
  case atStart => exact ⟨0, Nat.zero_le _, rfl, Chg.refl _ _⟩
  case round =>
    obtain ⟨k, hk, rfl, D⟩ := hrel
    have offG : Hid (G ∉ gs.take k) := fun hm => HL.out.rows.off (List.mem_of_mem_take hm)
    by_cases hlt : k < ds.length
    · obtain ⟨d, hd⟩ : ∃ d, ds[k]? = some d := ⟨_, List.getElem?_eq_getElem hlt⟩
      obtain ⟨g, hg, c0, B⟩ := HL.out.head hd
      have hsd := HS.out d (List.mem_of_getElem? hd)
      have gn : g ∉ gs.take k := fun hm => by
        obtain ⟨i, hi⟩ := List.mem_iff_getElem?.1 hm
        have hik : i < k := by
          have := (List.getElem?_eq_some_iff.1 hi).1
          simp at this
          omega
        rw [List.getElem?_take, if_pos hik] at hi
        have := (List.getElem?_inj (by have := (List.getElem?_eq_some_iff.1 hi).1; exact this) HL.out.rows.nodup).1 (hi.trans hg.symm)
        omega
      have hb := HL.out.blk.lt
      have c1 : wr.cell? ⟨G, k, none⟩ = some (.slice (some ⟨g, 0, none⟩) d.bs.length (d.bs.length + 2)) := (D.out.cell (p := ⟨G, k, none⟩) hb offG.out).trans c0
      have hsp := spoil_any g d.bs.length (d.bs ++ [91, 92]) wr (B.chg D.out gn) (by simp) (by omega)
      have HT : Hid (gs.take (k + 1) = gs.take k ++ [g]) := take_snoc hg
      have hk0 : (0 : Int) ≤ k := Int.natCast_nonneg _
      have hk1 : (k : Int) < ds.length := by omega
      clear hd hg c0 B gn
      go_wp2_with fail
      refine hsp.mono ?_
      clear hsp c1
      rintro e w2 ⟨rfl, Dn⟩
      replace Dn := Lib.hid Dn
      have D2 : Hid (Chg (gs.take (k + 1)) w w2) := by
        show Chg _ _ _
        rw [HT.out]
        exact (D.out.mono (fun x hx => List.mem_append_left _ hx)).trans (Dn.out.mono (fun x hx => List.mem_append_right _ hx))
      clear D Dn
      go_wp2_with fail
      exact ⟨⟨k + 1, by omega, by go_num, D2⟩, by simp [intOf]; omega⟩
    · obtain rfl : k = ds.length := by omega
      have DG : Hid (Chg (G :: gs) w wr) := D.out.mono (fun x hx => List.mem_cons_of_mem _ (List.mem_of_mem_take hx))
      have BG : Hid (∃ vs : List Value, vs.length = ds.length + 2 ∧ Blk wr G 25 vs) :=
        ⟨_, by simp [lentDs_length HL.out.rows.len], HL.out.blk.chg D.out offG.out⟩
      clear D offG
      go_wp2_with fail
      go_loopw [4] (fun i wr => ∃ j : Nat, j ≤ ds.length + 2 ∧ i = .int .i64 j ∧ Hid (∃ vs : List Value, vs.length = ds.length + 2 ∧ Blk wr G 25 vs) ∧ Hid (Chg (G :: gs) w wr)) (fun i _ => ds.length + 2 - (intOf i).toNat)
      case atStart => exact ⟨0, Nat.zero_le _, rfl, BG, DG⟩
      case round =>
        obtain ⟨j, hj, rfl, B, D⟩ := hrel
        clear BG DG
        by_cases hlt2 : j < ds.length + 2
        · obtain ⟨vs, hvl, hb⟩ := B.out
          have hA := hb.alloc (.cells #[.int .u8 77, .int .u8 78] 5)
          have f1 := hA.free j
          obtain ⟨u, hu⟩ : ∃ u, (wr.alloc (.cells #[.int .u8 77, .int .u8 78] 5)).cell? ⟨G, j, none⟩ = some u := ⟨_, hA.cell (List.getElem?_eq_getElem (by omega))⟩
          have S : Hid (∀ u o, ∃ vs : List Value, vs.length = ds.length + 2 ∧ Blk ((wr.setCell ⟨G, j, none⟩ u).alloc o) G 25 vs) := fun u o => ⟨_, by rw [List.length_set]; exact hvl, (hb.set j u).alloc o⟩
          have hj0 : (0 : Int) ≤ j := Int.natCast_nonneg _
          have hj1 : (j : Int) < ds.length + 2 := by omega
          have hwz := hb.lt
          clear hb hA hvl
          go_wp2_with fail
          exact ⟨⟨j + 1, by omega, by go_num, S.out _ _, (D.out.setCell (.inl (by simp)) _).alloc _⟩, by simp [intOf]; omega⟩
        · obtain rfl : j = ds.length + 2 := by omega
          go_wp2_with fail
          go_end0
          exact ⟨rfl, D⟩

end Go.Proofs.Ytaciamnfkidmfaa
