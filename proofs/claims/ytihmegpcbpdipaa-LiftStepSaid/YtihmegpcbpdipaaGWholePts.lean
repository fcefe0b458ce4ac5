/-
  Patches that are lent: WholePatches, SpoilPatches. By an AI agent.
-/
import Derived.Test.YtihmegpcbpdipaaGLentPts
namespace Go.Proofs.Ytihmegpcbpdipaa
open Go.RowKit

theorem LendP.mark {w0 w : World} {G : Nat} {gs : List Nat} {ps : List PtD} (h : LendP w0 w G gs ps) {j : Nat} (hj : j < 2) :
    w.cell? ⟨G, (ps.length + j) * 3, none⟩ = some (.int .i64 (-77)) ∧ w.cell? ⟨G, (ps.length + j) * 3 + 1, none⟩ = some (.int .i64 0) ∧ w.cell? ⟨G, (ps.length + j) * 3 + 2, none⟩ = some (.slice none 0 0) := by
  have hl : (ptCells (lentPs gs ps)).length = ps.length * 3 := by rw [ptCells_len, lentPs_length h.len]
  have hc : ∀ r u, markCells[j * 3 + r]? = some u → w.cell? ⟨G, (ps.length + j) * 3 + r, none⟩ = some u := fun r u hr => by
    refine h.blk.cell ?_
    rw [List.getElem?_append_right (by rw [hl, Nat.add_mul]; omega), hl, show (ps.length + j) * 3 + r - ps.length * 3 = j * 3 + r by rw [Nat.add_mul]; omega]
    exact hr
  match j, hj with
  | 0, _ => exact ⟨hc 0 _ rfl, hc 1 _ rfl, hc 2 _ rfl⟩
  | 1, _ => exact ⟨hc 0 _ rfl, hc 1 _ rfl, hc 2 _ rfl⟩

theorem LendP.head {w0 w : World} {G : Nat} {gs : List Nat} {ps : List PtD} (h : LendP w0 w G gs ps) {i : Nat} {p : PtD} (hp : ps[i]? = some p) :
    ∃ g, gs[i]? = some g ∧ w.cell? ⟨G, i * 3, none⟩ = some (.int .i64 p.m) ∧ w.cell? ⟨G, i * 3 + 1, none⟩ = some (.int .i64 p.r) ∧ w.cell? ⟨G, i * 3 + 2, none⟩ = some (.slice (some ⟨g, 0, none⟩) p.d.length (p.d.length + 2)) ∧ Blk w g 5 ((p.d ++ [91, 92]).map (Value.int .u8)) := by
  have hil : i < ps.length := (List.getElem?_eq_some_iff.1 hp).1
  obtain ⟨g, hg⟩ : ∃ g, gs[i]? = some g := ⟨_, List.getElem?_eq_getElem (by rw [h.len]; exact hil)⟩
  have hl : (ptCells (lentPs gs ps)).length = ps.length * 3 := by rw [ptCells_len, lentPs_length h.len]
  have he : (lentPs gs ps)[i]? = some (lentP g p) := by unfold lentPs; rw [List.getElem?_zipWith, hg, hp]
  have hc : ∀ r u, (lentP g p).cells[r]? = some u → w.cell? ⟨G, i * 3 + r, none⟩ = some u := fun r u hr => by
    refine h.blk.cell ?_
    have hr3 : r < 3 := (List.getElem?_eq_some_iff.1 hr).1
    rw [List.getElem?_append_left (by rw [hl]; omega)]
    exact ptCells_at _ _ _ _ _ he hr
  exact ⟨g, hg, hc 0 _ rfl, hc 1 _ rfl, hc 2 _ rfl, h.rows.row i g ⟨p.v, p.d⟩ hg (by rw [rowsP, List.getElem?_map, hp]; rfl)⟩

set_option maxHeartbeats 2000000 in
set_option maxRecDepth 100000 in
theorem wholePts_any (w0 : World) (G : Nat) (gs : List Nat) (ps : List PtD) (v : Value) (w : World) (h : LendP w0 w G gs ps) (hv : Pts w v ps) (hps : ps.length ≤ 1000000) :
    Calls Try.prog 20 #[.slice (some ⟨G, 0, none⟩) ps.length (ps.length + 2), v] w fun e w' => e = .returned (.bool true) ∧ Hid (Chg [] w w') := by
  obtain ⟨ao, c, rfl⟩ := hv.slice
  have HL := Lib.hid h
  have HR := Lib.hid hv
  clear h hv
  have hn0 : (0 : Int) ≤ ps.length := Int.natCast_nonneg _
  go_enter Try.func20, Try.ntmps20
  go_wp2_with fail
  go_loopw [6] (fun i wr => ∃ k : Nat, k ≤ 2 ∧ i = .int .i64 ((ps.length + k : Nat) : Int) ∧ Hid (Chg [] w wr)) (fun i _ => ps.length + 2 - (intOf i).toNat)
  case atStart => exact ⟨0, Nat.zero_le _, rfl, Chg.refl _ _⟩
  case round =>
    obtain ⟨k, hk, rfl, D⟩ := hrel
    obtain ⟨z, hz⟩ : ∃ z, z = ps.length + k := ⟨_, rfl⟩
    have hz0 : (0 : Int) ≤ (z : Int) := Int.natCast_nonneg _
    by_cases hlt : k < 2
    · obtain ⟨c0, c1, c2⟩ := (HL.out.chg D.out (by simp)).mark hlt
      rw [← hz] at c0 c1 c2 ⊢
      have hz1 : (z : Int) < ps.length + 2 := by omega
      have HZ := Lib.hid hz
      have HK := Lib.hid hlt
      clear hz hlt hk
      go_wp2_with fail
      exact ⟨⟨k + 1, by have := HK.out; omega, by have := HZ.out; simp; omega, D⟩, by have := HZ.out; have := HK.out; simp [intOf]; omega⟩
    · obtain rfl : k = 2 := by omega
      rw [← hz]
      have hz1 : ¬ (z : Int) < ps.length + 2 := by omega
      clear hz hlt hk
      go_wp2_with fail
      go_loopw [7] (fun i wr => ∃ j : Nat, j ≤ ps.length ∧ i = .int .i64 j ∧ Hid (Chg [] w wr)) (fun i _ => ps.length - (intOf i).toNat)
      case atStart => exact ⟨0, Nat.zero_le _, rfl, D⟩
      case round =>
        obtain ⟨j, hj, rfl, D2⟩ := hrel
        have hj0 : (0 : Int) ≤ j := Int.natCast_nonneg _
        by_cases hlt2 : j < ps.length
        · obtain ⟨p, hp⟩ : ∃ p, ps[j]? = some p := ⟨_, List.getElem?_eq_getElem hlt2⟩
          obtain ⟨g, hg, c0, c1, c2, B⟩ := (HL.out.chg D2.out (by simp)).head hp
          obtain ⟨b, o, rfl, hb, R⟩ := (HR.out.chg D2.out).at hp
          have d0 := R.c0
          have d1 := R.c1
          have d2 := R.c2
          have SL := Lib.hid R.sl
          have big := Lib.hid R.big
          obtain ⟨pm, pr, pv, pd⟩ := p
          dsimp only at c0 c1 c2 B d0 d1 d2 SL big
          obtain ⟨eo, ec, rfl⟩ := SL.out.slice
          have B2 := Lib.hid B
          have hj1 : (j : Int) < ps.length := by omega
          clear B R hp hg
          go_wp2_with fail
          go_quiet (first | (go_at_call 36; exact Calls.quiet_of (whole_any g _ pd _ (B2.out.drewN _) (SL.out.chgNil ((Chg.refl _ _).drewN _)) big.out)))
          go_wp2_with fail
          exact ⟨⟨j + 1, by omega, by go_num, D2.out.drewN _⟩, by simp [intOf]; omega⟩
        · obtain rfl : j = ps.length := by omega
          go_wp2_with fail
          go_ret
          exact ⟨rfl, D2⟩

set_option maxHeartbeats 2000000 in
set_option maxRecDepth 100000 in
theorem spoilPts_any (w0 : World) (G : Nat) (gs : List Nat) (ps : List PtD) (w : World) (h : LendP w0 w G gs ps) (hps : ps.length ≤ 1000000) (hsm : ∀ p ∈ ps, p.d.length ≤ 1000000) :
    Calls Try.prog 21 #[.slice (some ⟨G, 0, none⟩) ps.length (ps.length + 2)] w fun e w' => e = .returned (.tuple #[]) ∧ Hid (Chg (G :: gs) w w') := by
  have HL := Lib.hid h
  have HS := Lib.hid hsm
  clear h hsm
  have hn0 : (0 : Int) ≤ ps.length := Int.natCast_nonneg _
  go_enter Try.func21, Try.ntmps21
  go_wp2_with fail
  go_loopw [2] (fun i wr => ∃ k : Nat, k ≤ ps.length ∧ i = .int .i64 k ∧ Hid (Chg (gs.take k) w wr)) (fun i _ => ps.length - (intOf i).toNat)
  case atStart => exact ⟨0, Nat.zero_le _, rfl, Chg.refl _ _⟩
  case round =>
    obtain ⟨k, hk, rfl, D⟩ := hrel
    have offG : Hid (G ∉ gs.take k) := fun hm => HL.out.rows.off (List.mem_of_mem_take hm)
    by_cases hlt : k < ps.length
    · obtain ⟨p, hp⟩ : ∃ p, ps[k]? = some p := ⟨_, List.getElem?_eq_getElem hlt⟩
      obtain ⟨g, hg, _, _, c2, B⟩ := HL.out.head hp
      have hsd := HS.out p (List.mem_of_getElem? hp)
      have gn : g ∉ gs.take k := fun hm => by
        obtain ⟨i, hi⟩ := List.mem_iff_getElem?.1 hm
        have hik : i < k := by
          have := (List.getElem?_eq_some_iff.1 hi).1
          simp at this
          omega
        rw [List.getElem?_take, if_pos hik] at hi
        have := (List.getElem?_inj (by have := (List.getElem?_eq_some_iff.1 hi).1; exact this) HL.out.rows.nodup).1 (hi.trans hg.symm)
        omega
      have hb := HL.out.blk.lt
      have c1 : wr.cell? ⟨G, k * 3 + 2, none⟩ = some (.slice (some ⟨g, 0, none⟩) p.d.length (p.d.length + 2)) := (D.out.cell (p := ⟨G, k * 3 + 2, none⟩) hb offG.out).trans c2
      have hsp := spoil_any g p.d.length (p.d ++ [91, 92]) wr (B.chg D.out gn) (by simp) (by omega)
      have HT : Hid (gs.take (k + 1) = gs.take k ++ [g]) := take_snoc hg
      have hk0 : (0 : Int) ≤ k := Int.natCast_nonneg _
      have hk1 : (k : Int) < ps.length := by omega
      clear hp hg c2 B gn
      go_wp2_with fail
      refine hsp.mono ?_
      clear hsp c1
      rintro e w2 ⟨rfl, Dn⟩
      replace Dn := Lib.hid Dn
      have D2 : Hid (Chg (gs.take (k + 1)) w w2) := by
        show Chg _ _ _
        rw [HT.out]
        exact (D.out.mono (fun x hx => List.mem_append_left _ hx)).trans (Dn.out.mono (fun x hx => List.mem_append_right _ hx))
      clear D Dn
      go_wp2_with fail
      exact ⟨⟨k + 1, by omega, by go_num, D2⟩, by simp [intOf]; omega⟩
    · obtain rfl : k = ps.length := by omega
      have DG : Hid (Chg (G :: gs) w wr) := D.out.mono (fun x hx => List.mem_cons_of_mem _ (List.mem_of_mem_take hx))
      have BG : Hid (∃ vs : List Value, vs.length = (ps.length + 2) * 3 ∧ Blk wr G 49 vs) :=
        ⟨_, by rw [List.length_append, ptCells_len, lentPs_length HL.out.len]; simp [markCells]; omega, HL.out.blk.chg D.out offG.out⟩
      clear D offG
      go_wp2_with fail
      go_loopw [4] (fun i wr => ∃ j : Nat, j ≤ ps.length + 2 ∧ i = .int .i64 j ∧ Hid (∃ vs : List Value, vs.length = (ps.length + 2) * 3 ∧ Blk wr G 49 vs) ∧ Hid (Chg (G :: gs) w wr)) (fun i _ => ps.length + 2 - (intOf i).toNat)
      case atStart => exact ⟨0, Nat.zero_le _, rfl, BG, DG⟩
      case round =>
        obtain ⟨j, hj, rfl, B, D⟩ := hrel
        clear BG DG
        by_cases hlt2 : j < ps.length + 2
        · obtain ⟨vs, hvl, hb⟩ := B.out
          have f0 := hb.free (j * 3)
          have f1 := hb.free (j * 3 + 1)
          have f2 := hb.free (j * 3 + 2)
          obtain ⟨u0, hu0⟩ : ∃ u, wr.cell? ⟨G, j * 3, none⟩ = some u := ⟨_, hb.cell (List.getElem?_eq_getElem (by omega))⟩
          obtain ⟨u1, hu1⟩ : ∃ u, wr.cell? ⟨G, j * 3 + 1, none⟩ = some u := ⟨_, hb.cell (List.getElem?_eq_getElem (by omega))⟩
          obtain ⟨u2, hu2⟩ : ∃ u, wr.cell? ⟨G, j * 3 + 2, none⟩ = some u := ⟨_, hb.cell (List.getElem?_eq_getElem (by omega))⟩
          have S : Hid (∀ a b c, ∃ vs : List Value, vs.length = (ps.length + 2) * 3 ∧ Blk (((wr.setCell ⟨G, j * 3, none⟩ a).setCell ⟨G, j * 3 + 1, none⟩ b).setCell ⟨G, j * 3 + 2, none⟩ c) G 49 vs) := fun a b c => ⟨_, by rw [List.length_set, List.length_set, List.length_set]; exact hvl, ((hb.set (j * 3) a).set (j * 3 + 1) b).set (j * 3 + 2) c⟩
          have hj0 : (0 : Int) ≤ j := Int.natCast_nonneg _
          have hj1 : (j : Int) < ps.length + 2 := by omega
          clear hb hvl
          go_wp2_with fail
          exact ⟨⟨j + 1, by omega, by go_num, S.out _ _ _, ((D.out.setCell (.inl (by simp)) _).setCell (.inl (by simp)) _).setCell (.inl (by simp)) _⟩, by simp [intOf]; omega⟩
        · obtain rfl : j = ps.length + 2 := by omega
          go_wp2_with fail
          go_end0
          exact ⟨rfl, D⟩

end Go.Proofs.Ytihmegpcbpdipaa
