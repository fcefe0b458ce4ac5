/-
  VoteTwo. By an AI agent.
-/
import Derived.Test.YtffpjefecmkfmaaBVtTwo
import Derived.Test.YtffpjefecmkfmaaBVtKn
import Derived.Deep.CutBlock
namespace Go.Proofs.Ytffpjefecmkfmaa
open Go.RowKit

/-- The ballots so far: H: who is there; st: the states of each. -/
def Are (ds : List BalD) (H : Nat → Bool) (ev safe : Nat → Nat) (st : Nat → List Int) : Prop := Vt.Four ds H ev safe st

theorem Vt.Four.set {ds : List BalD} {H H' : Nat → Bool} {ev safe ev' safe' : Nat → Nat} {st st' : Nat → List Int} (h : Vt.Four ds H ev safe st) {i : Nat} {d' : BalD} (hd : d'.has = H' i ∧ d'.s = { baseS (ev' i) i with safe := safe' i, st := st' i })
    (ho : ∀ k, k ≠ i → H' k = H k ∧ ev' k = ev k ∧ safe' k = safe k ∧ st' k = st k) : Vt.Four (ds.set i d') H' ev' safe' st' := by
  refine ⟨by rw [List.length_set]; exact h.len, fun k d hk => ?_⟩
  rw [List.getElem?_set] at hk
  by_cases e : i = k
  · subst e
    rw [if_pos rfl] at hk
    split at hk
    · obtain rfl := Option.some.inj hk
      exact hd
    · cases hk
  · rw [if_neg e] at hk
    obtain ⟨q1, q2⟩ := h.at_ k d hk
    obtain ⟨o1, o2, o3, o4⟩ := ho k (fun q => e q.symm)
    rw [o1, o2, o3, o4]
    exact ⟨q1, q2⟩

theorem four_base {ev : Nat} {ds : List BalD} (hl : ds.length = 4) (h : ∀ (k : Nat) d, ds[k]? = some d → d.has = true ∧ d.s = baseS ev k) : Vt.Four ds (fun _ => true) (fun _ => ev) (fun _ => 1) (fun _ => [1, 1, 1]) :=
  ⟨hl, fun k d hk => ⟨(h k d hk).1, by rw [(h k d hk).2]; rfl⟩⟩

/-- The states of one are put anew, in a block of their own, and one of them is written. -/
theorem BRow.restate {w0 w : World} {G n c i b : Nat} {ds : List BalD} {d : BalD} {x : Int} (h : BRow w0 w (.slice (some ⟨G, 0, none⟩) n c) ds) (hi : ds[i]? = some d) (hb : b < 3) (hx : 0 ≤ x ∧ x ≤ 255) :
    ∃ d' : BalD, d'.has = d.has ∧ d'.s = { d.s with st := ([1, 1, 1] : List Int).set b x } ∧
      (w.alloc (.cells #[.int .u8 1, .int .u8 1, .int .u8 1] 37)).frozen? ⟨G, i * 13 + 11, none⟩ = false ∧
      (∃ u, (w.alloc (.cells #[.int .u8 1, .int .u8 1, .int .u8 1] 37)).cell? ⟨G, i * 13 + 11, none⟩ = some u) ∧
      ((w.alloc (.cells #[.int .u8 1, .int .u8 1, .int .u8 1] 37)).setCell ⟨G, i * 13 + 11, none⟩ (.slice (some ⟨w.heap.size, 0, none⟩) 3 3)).cell? ⟨G, i * 13 + 11, none⟩ = some (.slice (some ⟨w.heap.size, 0, none⟩) 3 3) ∧
      ((w.alloc (.cells #[.int .u8 1, .int .u8 1, .int .u8 1] 37)).setCell ⟨G, i * 13 + 11, none⟩ (.slice (some ⟨w.heap.size, 0, none⟩) 3 3)).frozen? ⟨w.heap.size, b, none⟩ = false ∧
      (∃ u, ((w.alloc (.cells #[.int .u8 1, .int .u8 1, .int .u8 1] 37)).setCell ⟨G, i * 13 + 11, none⟩ (.slice (some ⟨w.heap.size, 0, none⟩) 3 3)).cell? ⟨w.heap.size, b, none⟩ = some u) ∧
      BRow w0 (((w.alloc (.cells #[.int .u8 1, .int .u8 1, .int .u8 1] 37)).setCell ⟨G, i * 13 + 11, none⟩ (.slice (some ⟨w.heap.size, 0, none⟩) 3 3)).setCell ⟨w.heap.size, b, none⟩ (.int .u8 x)) (.slice (some ⟨G, 0, none⟩) n c) (ds.set i d') := by
  obtain ⟨wA, hwA⟩ : ∃ wA, wA = w.alloc (.cells #[.int .u8 1, .int .u8 1, .int .u8 1] 37) := ⟨_, rfl⟩
  rw [← hwA]
  have CA : Chg [] w wA := by rw [hwA]; exact (Chg.refl _ _).alloc _
  have hsz : wA.heap.size = w.heap.size + 1 := by rw [hwA]; simp
  have BA : Blk wA w.heap.size 37 [.int .u8 1, .int .u8 1, .int .u8 1] := by rw [hwA]; exact Blk.made w [.int .u8 1, .int .u8 1, .int .u8 1] _
  have HA := h.chg CA
  have hG : G < w.heap.size := (h.row.lt G rfl).2
  have bst := HA.st d (List.mem_of_getElem? hi)
  have fitd : ∀ st : List Int, By st → ({ d.s with st := st } : Sup).Fit := fun st hs => ⟨bst.2.2.id, bst.2.2.ev, bst.2.2.safe, bst.2.2.role, bst.2.2.m, bst.2.2.c, bst.2.2.t, bst.2.2.ring, bst.2.2.cur, hs⟩
  obtain ⟨d1, hd1⟩ : ∃ d1 : BalD, d1 = ⟨d.has, { d.s with st := [1, 1, 1] }, .slice (some ⟨w.heap.size, 0, none⟩) 3 3⟩ := ⟨_, rfl⟩
  obtain ⟨d2, hd2⟩ : ∃ d2 : BalD, d2 = ⟨d.has, { d.s with st := ([1, 1, 1] : List Int).set b x }, .slice (some ⟨w.heap.size, 0, none⟩) 3 3⟩ := ⟨_, rfl⟩
  have own : ∀ k, (Value.slice (some ⟨w.heap.size, 0, none⟩) 3 3).ownBlock = some k → k < wA.heap.size ∧ (Value.slice (some ⟨G, 0, none⟩) n c).ownBlock ≠ some k := fun k hk => by
    obtain rfl : w.heap.size = k := by simpa [Value.ownBlock] using hk
    refine ⟨by omega, fun e => ?_⟩
    have : G = w.heap.size := by simpa [Value.ownBlock] using e
    omega
  have BS1 : BSt wA (.slice (some ⟨G, 0, none⟩) n c) d1 := by
    rw [hd1]
    exact ⟨⟨Blk.sls (ys := []) (xs := [1, 1, 1]) BA, own⟩, by show (3 : Nat) ≤ _; decide, fitd _ (by unfold By; decide)⟩
  obtain ⟨S1, F1⟩ := HA.set (i := i) (j := 11) (d := d) (d' := d1) (u := .slice (some ⟨w.heap.size, 0, none⟩) 3 3) hi (by decide) (by rw [hd1]; rfl) BS1
  have c11 := HA.cell (i := i) (j := 11) (d := d) hi (by decide) rfl
  have hil : i < ds.length := (List.getElem?_eq_some_iff.1 hi).1
  have hi1 : (ds.set i d1)[i]? = some d1 := by rw [List.getElem?_set, if_pos rfl, if_pos hil]
  have e11 := S1.cell (i := i) (j := 11) (d := d1) hi1 (by decide) (u := .slice (some ⟨w.heap.size, 0, none⟩) 3 3) (by rw [hd1]; rfl)
  obtain ⟨wS, hwS⟩ : ∃ wS, wS = wA.setCell ⟨G, i * 13 + 11, none⟩ (.slice (some ⟨w.heap.size, 0, none⟩) 3 3) := ⟨_, rfl⟩
  rw [← hwS] at S1 e11 ⊢
  have BB : Blk wS w.heap.size 37 [.int .u8 1, .int .u8 1, .int .u8 1] := by rw [hwS]; exact Blk.other BA (by show G ≠ w.heap.size; omega) _
  have cS : Chg [w.heap.size] wS (wS.setCell ⟨w.heap.size, b, none⟩ (.int .u8 x)) := (Chg.refl _ _).setCell (.inl (by simp)) _
  have BX : Blk (wS.setCell ⟨w.heap.size, b, none⟩ (.int .u8 x)) w.heap.size 37 ((([1, 1, 1] : List Int).set b x).map (Value.int .u8)) := by
    have := BB.set b (.int .u8 x)
    rw [List.map_set]
    exact this
  have hw0 : w0.heap.size ≤ w.heap.size := h.ch.size
  have szS : wS.heap.size = wA.heap.size := by rw [hwS]; simp [World.setCell]
  refine ⟨d2, by rw [hd2], by rw [hd2], F1, ⟨_, c11⟩, e11, BB.free b, ?_, ?_, ?_, fun y hy => ?_⟩
  · have : b = 0 ∨ b = 1 ∨ b = 2 := by omega
    rcases this with rfl | rfl | rfl
    · exact ⟨_, BB.cell (j := 0) rfl⟩
    · exact ⟨_, BB.cell (j := 1) rfl⟩
    · exact ⟨_, BB.cell (j := 2) rfl⟩
  · have q := owns_chg S1.row cS (by intro k hk hm; have e1 : G = k := by simpa [Value.ownBlock] using hk
                                     rw [List.mem_singleton.1 hm] at e1; omega)
    have e1 : flat13 (ds.set i d2) = flat13 (ds.set i d1) := by
      have h1 := flat13_set (ds := ds.set i d1) (i := i) (j := 11) (d := d1) (d' := d2) (v := .slice (some ⟨w.heap.size, 0, none⟩) 3 3) hi1 (by decide) (by rw [hd1, hd2]; rfl)
      have h2 := flat13_set (ds := ds.set i d1) (i := i) (j := 11) (d := d1) (d' := d1) (v := .slice (some ⟨w.heap.size, 0, none⟩) 3 3) hi1 (by decide) (by rw [hd1]; rfl)
      rw [List.set_set] at h1 h2
      rw [← h1, h2]
    rw [List.length_set] at q ⊢
    rw [e1]
    exact q
  · exact S1.ch.setCell (.inr hw0) _
  · have keep : ∀ z, z ∈ ds → BSt (wS.setCell ⟨w.heap.size, b, none⟩ (.int .u8 x)) (.slice (some ⟨G, 0, none⟩) n c) z := fun z hz => by
      have hz0 := h.st z hz
      have cc : Chg [G] wA wS := by rw [hwS]; exact (Chg.refl _ _).setCell (.inl (by simp)) _
      have z1 := (hz0.chg CA (by simp)).chg cc (fun k hk hm => by
        rw [List.mem_singleton.1 hm] at hk
        exact (hz0.1.2 G hk).2 rfl)
      exact z1.chg cS (fun k hk hm => by
        rw [List.mem_singleton.1 hm] at hk
        have := (hz0.1.2 _ hk).1
        omega)
    rcases List.mem_or_eq_of_mem_set hy with hy | rfl
    · exact keep y hy
    · rw [hd2]
      have sx := Blk.sls (n := 3) (ys := []) (xs := ([1, 1, 1] : List Int).set b x) (by rw [List.append_nil]; exact BX)
      rw [List.length_set] at sx
      refine ⟨⟨sx, fun k hk => ?_⟩, ?_, fitd _ ?_⟩
      · obtain ⟨q1, q2⟩ := own k hk
        exact ⟨Nat.lt_of_lt_of_le (by rw [szS]; exact q1) cS.size, q2⟩
      · show (([1, 1, 1] : List Int).set b x).length ≤ _
        rw [List.length_set]; decide
      · intro y hy
        rcases List.mem_or_eq_of_mem_set hy with hy | rfl
        · simp at hy; omega
        · exact hx

set_option maxHeartbeats 8000000 in
set_option maxRecDepth 100000 in
theorem voteTwo_core (a0 x1 x2 x3 : Int) (h0 : 0 ≤ a0 ∧ a0 ≤ 65535) (h1 : 0 ≤ x1 ∧ x1 ≤ 255) (h2 : 0 ≤ x2 ∧ x2 ≤ 255) (h3 : 0 ≤ x3 ∧ x3 ≤ 255) (w : World) :
    Calls Try.prog 7 #[.int .u16 a0, .int .u8 x1, .int .u8 x2, .int .u8 x3] w fun e w' => e = .returned (.bool true) ∧ Hid (Chg [] w w') := by
  obtain ⟨E, hE⟩ : ∃ E : Nat, (E : Int) = a0 + 1 := ⟨(a0 + 1).toNat, by omega⟩
  have hE1 : 1 ≤ E ∧ E ≤ 65536 := by omega
  have BA := Lib.hid (ballots_any E (by omega) w)
  rw [hE] at BA
  obtain ⟨A, hAe⟩ : ∃ A : Nat, Int.tmod x1 3 = (A : Int) := ⟨(Int.tmod x1 3).toNat, by rw [Int.tmod_eq_emod_of_nonneg h1.1]; omega⟩
  have hA : A < 3 := by rw [Int.tmod_eq_emod_of_nonneg h1.1] at hAe; omega
  obtain ⟨T, hTe⟩ : ∃ T : Nat, Int.tmod x2 2 = (T : Int) := ⟨(Int.tmod x2 2).toNat, by rw [Int.tmod_eq_emod_of_nonneg h2.1]; omega⟩
  have hT : T < 2 := by rw [Int.tmod_eq_emod_of_nonneg h2.1] at hTe; omega
  obtain ⟨B, hBe⟩ : ∃ B : Nat, Int.tmod ((A : Int) + 1 + (T : Int)) 3 = (B : Int) := ⟨(Int.tmod ((A : Int) + 1 + (T : Int)) 3).toNat, by rw [Int.tmod_eq_emod_of_nonneg (by omega)]; omega⟩
  have hB : B < 3 := by rw [Int.tmod_eq_emod_of_nonneg (by omega)] at hBe; omega
  have hAB : B ≠ A := by rw [Int.tmod_eq_emod_of_nonneg (by omega)] at hBe; omega
  obtain ⟨Q, hQe⟩ : ∃ Q : Nat, Int.tmod x3 3 = (Q : Int) := ⟨(Int.tmod x3 3).toNat, by rw [Int.tmod_eq_emod_of_nonneg h3.1]; omega⟩
  have hQ : Q = 0 ∨ Q = 1 ∨ Q = 2 := by rw [Int.tmod_eq_emod_of_nonneg h3.1] at hQe; omega
  have hA0 : (0 : Int) ≤ A := Int.natCast_nonneg _
  have hA1 : (A : Int) < 3 := by omega
  have hT0 : (0 : Int) ≤ T := Int.natCast_nonneg _
  have hT1 : (T : Int) < 2 := by omega
  have hB0 : (0 : Int) ≤ B := Int.natCast_nonneg _
  have hB1 : (B : Int) < 3 := by omega
  replace hE := Lib.hid hE
  go_enter Try.func7, Try.ntmps7
  go_wp2_with fail
  refine BA.out.mono ?_
  rintro e w1 ⟨v, ds, rfl, R, hl, BS⟩
  have F0 := Lib.hid (four_base hl BS.out)
  clear BA BS
  obtain ⟨G, c, rfl, hc, _, hG1⟩ := R.out.head (by omega)
  rw [hl] at hc R ⊢
  have hc4 : (4 : Int) ≤ c := by omega
  clear hG1 hc
  obtain ⟨da, hda, qa1, qa2, qa3⟩ := F0.out.get (k := A) (by omega)
  clear qa3
  have SA := R.out.set (i := A) (j := 0) (d := da) (d' := { da with has := false }) (u := .bool false) hda (by decide) rfl (R.out.st da (List.mem_of_getElem? hda))
  have R1 : Hid (BRow w (w1.setCell ⟨G, A * 13, none⟩ (.bool false)) (.slice (some ⟨G, 0, none⟩) 4 c) (ds.set A { da with has := false })) := SA.1
  have fA : w1.frozen? ⟨G, A * 13, none⟩ = false := SA.2
  have kA : w1.cell? ⟨G, A * 13, none⟩ = some (.bool da.has) := R.out.cell (i := A) (j := 0) (d := da) hda (by decide) rfl
  have F1 : Hid (Vt.Four (ds.set A { da with has := false }) (fun k => decide (k ≠ A)) (fun _ => E) (fun _ => 1) (fun _ => [1, 1, 1])) := by
    refine F0.out.set ⟨by simp, qa2⟩ (fun k hk => ⟨by simp [hk], rfl, rfl, rfl⟩)
  clear F0 hda qa1 qa2 SA
  obtain ⟨ds1, hds1⟩ : ∃ ds1, ds1 = ds.set A { da with has := false } := ⟨_, rfl⟩
  rw [← hds1] at R1 F1
  clear hds1 R hl
  go_upto_region 5 with fail
  clear fA kA
  generalize w1.setCell ⟨G, A * 13, none⟩ (.bool false) = w2 at *
  clear w1 da ds
  obtain ⟨d2, hd2, qb1, qb2, qb3⟩ := F1.out.get (k := B) (by omega)
  clear qb3
  rcases hQ with rfl | rfl | rfl
  · have SB := R1.out.set (i := B) (j := 0) (d := d2) (d' := { d2 with has := false }) (u := .bool false) hd2 (by decide) rfl (R1.out.st d2 (List.mem_of_getElem? hd2))
    have RZ : Hid (BRow w (w2.setCell ⟨G, B * 13, none⟩ (.bool false)) (.slice (some ⟨G, 0, none⟩) 4 c) (ds1.set B { d2 with has := false })) := SB.1
    have fB : w2.frozen? ⟨G, B * 13, none⟩ = false := SB.2
    have kB : w2.cell? ⟨G, B * 13, none⟩ = some (.bool d2.has) := R1.out.cell (i := B) (j := 0) (d := d2) hd2 (by decide) rfl
    have FZ : Hid (Vt.Four (ds1.set B { d2 with has := false }) (fun k => decide (k ≠ A ∧ k ≠ B)) (fun _ => E) (fun _ => 1) (fun _ => [1, 1, 1])) := by
      refine F1.out.set ⟨by simp, qb2⟩ (fun k hk => ⟨by simp [hk], rfl, rfl, rfl⟩)
    clear F1 hd2 qb1 qb2 SB R1
    go_upto_region 20 with fail
    clear fB kB
    generalize w2.setCell ⟨G, B * 13, none⟩ (.bool false) = wz at *
    have ER : Vt.err (ds1.set B { d2 with has := false }) = 152 := Vt.two_err (a := A) (b := B) FZ.out (by omega) (by omega) rfl (by intro y hy; simp at hy; omega) (by decide) (by simp; omega) hA hB (fun e => hAB e.symm) (by simp) (.inl (by simp))
    obtain ⟨o1, o2, o3⟩ := Vt.err_out (ds := (ds1.set B { d2 with has := false })) (by rw [ER]; decide)
    have c3 := Lib.hid (chose_is (RZ.out.bals (by rw [FZ.out.len]; decide)) ⟨ER, o1, o2, o3⟩)
    have CZ : Hid (Chg [] w wz) := RZ.out.ch
    clear ER o1 o2 o3 FZ RZ
    go_wp2_with fail
    refine c3.out.mono ?_
    rintro e w8 ⟨q3, rfl, O3, C8⟩
    obtain ⟨x5, y5, rfl⟩ := owns_slice O3.out
    have C8' := Lib.hid (CZ.out.trans C8.out)
    unfold verdV verdCells Sup.nil
    clear c3 C8 O3 CZ
    obtain ⟨w9, hw9⟩ : ∃ w9, w9 = w8.alloc (.cells #[.int .u64 0, .int .u64 0, .int .u64 0, .int .i64 0, .int .i64 0, .int .i64 0, .int .i64 0, .int .i64 0, .bool false, .bool false, .slice x5 0 y5, .int .i64 0, .bool false, .bool false] 31) := ⟨_, rfl⟩
    have V9 : Hid (Blk w9 w8.heap.size 31 [.int .u64 0, .int .u64 0, .int .u64 0, .int .i64 0, .int .i64 0, .int .i64 0, .int .i64 0, .int .i64 0, .bool false, .bool false, .slice x5 0 y5, .int .i64 0, .bool false, .bool false]) := by show Blk _ _ _ _; rw [hw9]; exact Blk.made w8 _ _
    have C89 : Hid (Chg [] w8 w9) := by show Chg _ _ _; rw [hw9]; exact (Chg.refl _ _).alloc _
    have C9 := Lib.hid (C8'.out.trans C89.out)
    replace hw9 := Lib.hid hw9
    clear C8' C89
    have KW := Lib.hid (known_any w9)
    go_wp2_with fail
    rw [← hw9.out]
    refine KW.out.mono ?_
    rintro e wk ⟨rfl, CK⟩
    have CC := Lib.hid (C9.out.trans CK.out)
    have z10 := (V9.out.chg CK.out (by simp)).cell (j := 10) rfl
    clear KW V9 hw9 C9 CK
    go_wp2_with fail
    go_ret
    exact ⟨rfl, CC⟩
  · have SB := R1.out.set (i := B) (j := 1) (d := d2) (d' := d2) (u := .int .u64 1) hd2 (by decide) (by rw [BalD.cells, qb2]; rfl) (R1.out.st d2 (List.mem_of_getElem? hd2))
    have RB : Hid (BRow w (w2.setCell ⟨G, B * 13 + 1, none⟩ (.int .u64 1)) (.slice (some ⟨G, 0, none⟩) 4 c) (ds1.set B d2)) := SB.1
    have fB : w2.frozen? ⟨G, B * 13 + 1, none⟩ = false := SB.2
    have kB : w2.cell? ⟨G, B * 13 + 1, none⟩ = some (.int .u64 (d2.s.id : Int)) := R1.out.cell (i := B) (j := 1) (d := d2) hd2 (by decide) rfl
    have FB : Hid (Vt.Four (ds1.set B d2) (fun k => decide (k ≠ A)) (fun _ => E) (fun _ => 1) (fun k => if k < 0 then ([1, 1, 1] : List Int).set B 2 else [1, 1, 1])) := by
      refine F1.out.set ⟨qb1, ?_⟩ (fun k hk => ⟨rfl, rfl, rfl, by simp⟩)
      rw [if_neg (Nat.not_lt_zero B)]
      exact qb2
    clear F1 hd2 qb1 qb2 SB R1
    go_upto_region 15 with fail
    clear fB kB
    generalize w2.setCell ⟨G, B * 13 + 1, none⟩ (.int .u64 1) = w3 at *
    have hl4 : (ds1.set B d2).length = 4 := FB.out.len
    go_wp2_with fail
    go_loopw [12] (fun i wr => ∃ (j : Nat) (dj : List BalD), j ≤ 4 ∧ i = .int .i64 (j : Int) ∧ Hid (BRow w wr (.slice (some ⟨G, 0, none⟩) 4 c) dj) ∧ Hid (Vt.Four dj (fun k => decide (k ≠ A)) (fun _ => E) (fun _ => 1) (fun k => if k < j then ([1, 1, 1] : List Int).set B 2 else [1, 1, 1]))) (fun i _ => 4 - (intOf i).toNat)
    case atStart => exact ⟨0, (ds1.set B d2), by decide, rfl, RB, FB⟩
    case round =>
      obtain ⟨j, dj, hj, rfl, RJ, FJ⟩ := hrel
      have hj0 : (0 : Int) ≤ j := Int.natCast_nonneg _
      clear RB FB
      by_cases hlt : j < 4
      · have hj1 : (j : Int) < 4 := by omega
        obtain ⟨dd, hdd, q1, q2, q3⟩ := FJ.out.get hlt
        clear q3
        obtain ⟨d', p1, p2, f1, ⟨g1, g2⟩, g3, f2, ⟨g4, g5⟩, R2⟩ := RJ.out.restate (b := B) (x := 2) hdd hB (by decide)
        have F2 : Hid (Vt.Four (dj.set j d') (fun k => decide (k ≠ A)) (fun _ => E) (fun _ => 1) (fun k => if k < j + 1 then ([1, 1, 1] : List Int).set B 2 else [1, 1, 1])) := by
          refine FJ.out.set ⟨by rw [p1, q1], ?_⟩ (fun k hk => ⟨rfl, rfl, rfl, ?_⟩)
          · rw [p2, q2, if_pos (Nat.lt_succ_self j)]
          · by_cases e : k < j
            · rw [if_pos e, if_pos (by omega)]
            · rw [if_neg e, if_neg (by omega)]
        replace R2 := Lib.hid R2
        clear hdd q1 q2 p1 p2 RJ FJ
        go_wp2_with fail
        exact ⟨⟨j + 1, dj.set j d', by omega, by go_num, R2, F2⟩, by simp [intOf]; omega⟩
      · obtain rfl : j = 4 := by omega
        have FZ : Hid (Vt.Four dj (fun k => decide (k ≠ A)) (fun _ => E) (fun _ => 1) (fun _ => ([1, 1, 1] : List Int).set B 2)) := by
          refine ⟨FJ.out.len, fun k y hk => ?_⟩
          have hk4 := (List.getElem?_eq_some_iff.1 hk).1
          have := FJ.out.len
          obtain ⟨z1, z2⟩ := FJ.out.at_ k y hk
          rw [if_pos (by omega)] at z2
          exact ⟨z1, z2⟩
        have RZ := RJ
        clear RJ FJ
        have ER : Vt.err dj = 152 := Vt.two_err (a := A) (b := B) FZ.out (by omega) (by omega) (by rw [List.length_set]; rfl) (by intro y hy; rcases List.mem_or_eq_of_mem_set hy with hy | rfl; (simp at hy; omega); decide) (by have h9 : B = 0 ∨ B = 1 ∨ B = 2 := (by omega); rcases h9 with rfl | rfl | rfl <;> decide) (by simp; omega) hA hB (fun e => hAB e.symm) (by simp) (.inr (by have h9 : B = 0 ∨ B = 1 ∨ B = 2 := (by omega); rcases h9 with rfl | rfl | rfl <;> decide))
        obtain ⟨o1, o2, o3⟩ := Vt.err_out (ds := dj) (by rw [ER]; decide)
        have c3 := Lib.hid (chose_is (RZ.out.bals (by rw [FZ.out.len]; decide)) ⟨ER, o1, o2, o3⟩)
        have CZ : Hid (Chg [] w wr) := RZ.out.ch
        clear ER o1 o2 o3 FZ RZ
        go_wp2_with fail
        refine c3.out.mono ?_
        rintro e w8 ⟨q3, rfl, O3, C8⟩
        obtain ⟨x5, y5, rfl⟩ := owns_slice O3.out
        have C8' := Lib.hid (CZ.out.trans C8.out)
        unfold verdV verdCells Sup.nil
        clear c3 C8 O3 CZ
        obtain ⟨w9, hw9⟩ : ∃ w9, w9 = w8.alloc (.cells #[.int .u64 0, .int .u64 0, .int .u64 0, .int .i64 0, .int .i64 0, .int .i64 0, .int .i64 0, .int .i64 0, .bool false, .bool false, .slice x5 0 y5, .int .i64 0, .bool false, .bool false] 31) := ⟨_, rfl⟩
        have V9 : Hid (Blk w9 w8.heap.size 31 [.int .u64 0, .int .u64 0, .int .u64 0, .int .i64 0, .int .i64 0, .int .i64 0, .int .i64 0, .int .i64 0, .bool false, .bool false, .slice x5 0 y5, .int .i64 0, .bool false, .bool false]) := by show Blk _ _ _ _; rw [hw9]; exact Blk.made w8 _ _
        have C89 : Hid (Chg [] w8 w9) := by show Chg _ _ _; rw [hw9]; exact (Chg.refl _ _).alloc _
        have C9 := Lib.hid (C8'.out.trans C89.out)
        replace hw9 := Lib.hid hw9
        clear C8' C89
        have KW := Lib.hid (known_any w9)
        go_wp2_with fail
        rw [← hw9.out]
        refine KW.out.mono ?_
        rintro e wk ⟨rfl, CK⟩
        have CC := Lib.hid (C9.out.trans CK.out)
        have z10 := (V9.out.chg CK.out (by simp)).cell (j := 10) rfl
        clear KW V9 hw9 C9 CK
        go_wp2_with fail
        go_ret
        exact ⟨rfl, CC⟩
  · have FB : Hid (Vt.Four ds1 (fun k => decide (k ≠ A)) (fun _ => E) (fun _ => 1) (fun k => if k < 0 then ([1, 1, 1] : List Int).set B 3 else [1, 1, 1])) := by
      refine ⟨F1.out.len, fun k y hk => ?_⟩
      rw [if_neg (Nat.not_lt_zero k)]
      exact F1.out.at_ k y hk
    have RB := R1
    clear F1 hd2 qb1 qb2 R1
    have hl4 : ds1.length = 4 := FB.out.len
    go_wp2_with fail
    go_loopw [13] (fun i wr => ∃ (j : Nat) (dj : List BalD), j ≤ 4 ∧ i = .int .i64 (j : Int) ∧ Hid (BRow w wr (.slice (some ⟨G, 0, none⟩) 4 c) dj) ∧ Hid (Vt.Four dj (fun k => decide (k ≠ A)) (fun _ => E) (fun _ => 1) (fun k => if k < j then ([1, 1, 1] : List Int).set B 3 else [1, 1, 1]))) (fun i _ => 4 - (intOf i).toNat)
    case atStart => exact ⟨0, ds1, by decide, rfl, RB, FB⟩
    case round =>
      obtain ⟨j, dj, hj, rfl, RJ, FJ⟩ := hrel
      have hj0 : (0 : Int) ≤ j := Int.natCast_nonneg _
      clear RB FB
      by_cases hlt : j < 4
      · have hj1 : (j : Int) < 4 := by omega
        obtain ⟨dd, hdd, q1, q2, q3⟩ := FJ.out.get hlt
        clear q3
        obtain ⟨d', p1, p2, f1, ⟨g1, g2⟩, g3, f2, ⟨g4, g5⟩, R2⟩ := RJ.out.restate (b := B) (x := 3) hdd hB (by decide)
        have F2 : Hid (Vt.Four (dj.set j d') (fun k => decide (k ≠ A)) (fun _ => E) (fun _ => 1) (fun k => if k < j + 1 then ([1, 1, 1] : List Int).set B 3 else [1, 1, 1])) := by
          refine FJ.out.set ⟨by rw [p1, q1], ?_⟩ (fun k hk => ⟨rfl, rfl, rfl, ?_⟩)
          · rw [p2, q2, if_pos (Nat.lt_succ_self j)]
          · by_cases e : k < j
            · rw [if_pos e, if_pos (by omega)]
            · rw [if_neg e, if_neg (by omega)]
        replace R2 := Lib.hid R2
        clear hdd q1 q2 p1 p2 RJ FJ
        go_wp2_with fail
        exact ⟨⟨j + 1, dj.set j d', by omega, by go_num, R2, F2⟩, by simp [intOf]; omega⟩
      · obtain rfl : j = 4 := by omega
        have FZ : Hid (Vt.Four dj (fun k => decide (k ≠ A)) (fun _ => E) (fun _ => 1) (fun _ => ([1, 1, 1] : List Int).set B 3)) := by
          refine ⟨FJ.out.len, fun k y hk => ?_⟩
          have hk4 := (List.getElem?_eq_some_iff.1 hk).1
          have := FJ.out.len
          obtain ⟨z1, z2⟩ := FJ.out.at_ k y hk
          rw [if_pos (by omega)] at z2
          exact ⟨z1, z2⟩
        have RZ := RJ
        clear RJ FJ
        have ER : Vt.err dj = 152 := Vt.two_err (a := A) (b := B) FZ.out (by omega) (by omega) (by rw [List.length_set]; rfl) (by intro y hy; rcases List.mem_or_eq_of_mem_set hy with hy | rfl; (simp at hy; omega); decide) (by have h9 : B = 0 ∨ B = 1 ∨ B = 2 := (by omega); rcases h9 with rfl | rfl | rfl <;> decide) (by simp; omega) hA hB (fun e => hAB e.symm) (by simp) (.inr (by have h9 : B = 0 ∨ B = 1 ∨ B = 2 := (by omega); rcases h9 with rfl | rfl | rfl <;> decide))
        obtain ⟨o1, o2, o3⟩ := Vt.err_out (ds := dj) (by rw [ER]; decide)
        have c3 := Lib.hid (chose_is (RZ.out.bals (by rw [FZ.out.len]; decide)) ⟨ER, o1, o2, o3⟩)
        have CZ : Hid (Chg [] w wr) := RZ.out.ch
        clear ER o1 o2 o3 FZ RZ
        go_wp2_with fail
        refine c3.out.mono ?_
        rintro e w8 ⟨q3, rfl, O3, C8⟩
        obtain ⟨x5, y5, rfl⟩ := owns_slice O3.out
        have C8' := Lib.hid (CZ.out.trans C8.out)
        unfold verdV verdCells Sup.nil
        clear c3 C8 O3 CZ
        obtain ⟨w9, hw9⟩ : ∃ w9, w9 = w8.alloc (.cells #[.int .u64 0, .int .u64 0, .int .u64 0, .int .i64 0, .int .i64 0, .int .i64 0, .int .i64 0, .int .i64 0, .bool false, .bool false, .slice x5 0 y5, .int .i64 0, .bool false, .bool false] 31) := ⟨_, rfl⟩
        have V9 : Hid (Blk w9 w8.heap.size 31 [.int .u64 0, .int .u64 0, .int .u64 0, .int .i64 0, .int .i64 0, .int .i64 0, .int .i64 0, .int .i64 0, .bool false, .bool false, .slice x5 0 y5, .int .i64 0, .bool false, .bool false]) := by show Blk _ _ _ _; rw [hw9]; exact Blk.made w8 _ _
        have C89 : Hid (Chg [] w8 w9) := by show Chg _ _ _; rw [hw9]; exact (Chg.refl _ _).alloc _
        have C9 := Lib.hid (C8'.out.trans C89.out)
        replace hw9 := Lib.hid hw9
        clear C8' C89
        have KW := Lib.hid (known_any w9)
        go_wp2_with fail
        rw [← hw9.out]
        refine KW.out.mono ?_
        rintro e wk ⟨rfl, CK⟩
        have CC := Lib.hid (C9.out.trans CK.out)
        have z10 := (V9.out.chg CK.out (by simp)).cell (j := 10) rfl
        clear KW V9 hw9 C9 CK
        go_wp2_with fail
        go_ret
        exact ⟨rfl, CC⟩

theorem voteTwo_walk (a0 x1 x2 x3 : Int) (h0 : 0 ≤ a0 ∧ a0 ≤ 65535) (h1 : 0 ≤ x1 ∧ x1 ≤ 255) (h2 : 0 ≤ x2 ∧ x2 ≤ 255) (h3 : 0 ≤ x3 ∧ x3 ≤ 255) (w : World) :
    Calls Try.prog 7 #[.int .u16 a0, .int .u8 x1, .int .u8 x2, .int .u8 x3] w fun e w' => e = .returned (.bool true) ∧ Chg [] w w' :=
  (voteTwo_core a0 x1 x2 x3 h0 h1 h2 h3 w).mono (fun _ _ h => ⟨h.1, h.2.out⟩)

end Go.Proofs.Ytffpjefecmkfmaa
