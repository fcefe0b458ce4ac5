/-
  The document's exclusive or: bit by bit. By an AI agent.
-/
import Derived.Test.YtaciamnfkidmfaaXorSpec
import Derived.Test.YtaciamnfkidmfaaGAppend
namespace Go.Proofs.Ytaciamnfkidmfaa
open Go.RowKit

set_option maxHeartbeats 1000000 in
set_option maxRecDepth 100000 in
theorem refOne_any (v : Value) (ds : List RowD) (w : World) (h : Rws w v ds) :
    Calls Try.prog 44 #[v] w fun e w' => e = .returned (.bool (sameLen (rowsN ds))) ∧ ∃ q, w' = w.drewN q := by
  obtain ⟨ao, c, rfl⟩ := h.slice
  have HR := Lib.hid h
  have hlen := h.len
  clear h
  go_enter Try.func44, Try.ntmps44
  go_wp2_with fail
  go_loopw [3] (fun i wr => ∃ k : Nat, k ≤ ds.length ∧ i = .int .i64 k ∧ Hid (∀ j d d0, j < k → ds[j]? = some d → ds[0]? = some d0 → d.bs.length = d0.bs.length) ∧ ∃ q, wr = w.drewN q) (fun i _ => ds.length - (intOf i).toNat)
  case atStart => exact ⟨0, Nat.zero_le _, rfl, fun j d d0 hj => by omega, 0, rfl⟩
  case round =>
    obtain ⟨k, hk, rfl, S, q, rfl⟩ := hrel
    by_cases hlt : k < ds.length
    · obtain ⟨d, hd⟩ : ∃ d, ds[k]? = some d := ⟨_, List.getElem?_eq_getElem hlt⟩
      obtain ⟨d0, hd0⟩ : ∃ d, ds[0]? = some d := ⟨_, List.getElem?_eq_getElem (by omega)⟩
      obtain ⟨b, o, rfl, hb, R⟩ := HR.out.at hd
      obtain ⟨b2, o2, he, hb2, R0⟩ := HR.out.at hd0
      obtain ⟨rfl, rfl⟩ : b = b2 ∧ o = o2 := by simpa using he
      obtain ⟨eo, ec, hv⟩ := R.sl.slice
      obtain ⟨eo2, ec2, hv2⟩ := R0.sl.slice
      have c0 := R.c0
      have c1 := R0.c0
      rw [hv] at c0
      rw [hv2, Nat.add_zero] at c1
      have hk0 : (0 : Int) ≤ k := Int.natCast_nonneg _
      have hk1 : (k : Int) < ds.length := by omega
      have hk2 : (0 : Int) < ds.length := by omega
      clear he
      by_cases hs : d.bs.length = d0.bs.length
      · have S2 : Hid (∀ j d d0, j < k + 1 → ds[j]? = some d → ds[0]? = some d0 → d.bs.length = d0.bs.length) := by
          intro j d' d0' hj h1 h2
          by_cases hjk : j = k
          · subst hjk
            rw [hd] at h1
            rw [hd0] at h2
            obtain rfl : d = d' := by simpa using h1
            obtain rfl : d0 = d0' := by simpa using h2
            exact hs
          · exact S.out j d' d0' (by omega) h1 h2
        rw [hs] at c0
        clear hd hd0 R R0 hv hv2 hs
        go_wp2_with fail
        go_quiet (fail)
        go_wp2_with fail
        exact ⟨⟨k + 1, by omega, by go_num, S2, _, rfl⟩, by simp [intOf]; omega⟩
      · have F : Hid (sameLen (rowsN ds) = false) := by
          show _ = _
          cases hsl : sameLen (rowsN ds) with
          | false => rfl
          | true =>
            exfalso
            have hL := sameLen_iff.1 hsl
            have e1 := hL _ (List.mem_of_getElem? (rowsN_get hd))
            have e2 := hL _ (List.mem_of_getElem? (rowsN_get hd0))
            rw [nats_length] at e1 e2
            exact hs (e1.trans e2.symm)
        have hs1 : ((d.bs.length : Int) == (d0.bs.length : Int)) = false := by simp; omega
        clear hd hd0 R R0 hv hv2 hs
        go_wp2_with fail
        go_quiet (fail)
        go_wp2_with fail
        go_ret
        exact ⟨by rw [F.out]; rfl, q + nq, by simp [World.drewN, Nat.add_assoc]⟩
    · obtain rfl : k = ds.length := by omega
      have F : Hid (sameLen (rowsN ds) = true) := by
        refine sameLen_iff.2 fun r hr => ?_
        obtain ⟨d, hd, rfl⟩ := List.mem_map.1 hr
        obtain ⟨j, hj⟩ := List.mem_iff_getElem?.1 hd
        have hjl : j < ds.length := (List.getElem?_eq_some_iff.1 hj).1
        obtain ⟨d0, hd0⟩ : ∃ d, ds[0]? = some d := ⟨_, List.getElem?_eq_getElem (by omega)⟩
        rw [nats_length, S.out j d d0 hjl hj hd0]
        have : (rowsN ds).headD [] = nats d0.bs := by
          have := rowsN_get hd0
          cases hrs : rowsN ds with
          | nil => rw [hrs] at this; simp at this
          | cons x r => rw [hrs] at this; simpa using this
        rw [this, nats_length]
      go_wp2_with fail
      go_ret
      exact ⟨by rw [F.out]; rfl, _, rfl⟩

/-- A byte's bit, by its place from above: 128, 64 .. 1, 0. -/
def bitN : Nat → Nat
  | 0 => 0
  | m + 1 => 2 ^ m

theorem bitN_half (m : Nat) : bitN (m + 1) / 2 = bitN m := by
  cases m with
  | zero => rfl
  | succ m => simp only [bitN]; rw [Nat.pow_succ]; omega

theorem bitN_pos (m : Nat) : 0 < bitN (m + 1) := Nat.two_pow_pos m

theorem at_take {ds : List RowD} {i : Nat} {d : RowD} (h : ds[i]? = some d) (k : Nat) : Xr.at_ (rowsN (ds.take (i + 1))) k = Xr.at_ (rowsN (ds.take i)) k ++ [(nats d.bs).getD k 0] := by
  rw [take_snoc h]
  simp [rowsN, Xr.at_]

theorem nats_getD_any {xs : List Int} (h : By xs) (k : Nat) : ∃ y : Nat, xs.getD k 0 = (y : Int) ∧ y < 256 ∧ (nats xs).getD k 0 = y := by
  have hx := h.get k
  obtain ⟨y, hy⟩ := Int.eq_ofNat_of_zero_le hx.1
  refine ⟨y, hy, by omega, ?_⟩
  unfold nats
  by_cases hl : k < xs.length
  · rw [List.getD_eq_getElem?_getD, List.getElem?_map, List.getElem?_eq_getElem hl]
    rw [List.getD_eq_getElem?_getD, List.getElem?_eq_getElem hl] at hy
    simp at hy
    simp [hy]
  · rw [List.getD_eq_getElem?_getD, List.getElem?_eq_none (by simp; omega)]
    rw [List.getD_eq_getElem?_getD, List.getElem?_eq_none (by omega)] at hy
    have : (0 : Int) = (y : Int) := by simpa using hy
    have : 0 = y := by omega
    simpa using this

theorem rows_bss {w : World} {v : Value} {ds : List RowD} (h : Rws w v ds) : Xr.Bss (rowsN ds) := by
  intro r hr
  obtain ⟨d, hd, rfl⟩ := List.mem_map.1 hr
  obtain ⟨i, hi⟩ := List.mem_iff_getElem?.1 hd
  obtain ⟨ao, c, rfl⟩ := h.slice
  obtain ⟨b, o, _, _, R⟩ := h.at hi
  exact nats_bs R.by_

theorem take_bss {ds : List RowD} (h : Xr.Bss (rowsN ds)) (i : Nat) : Xr.Bss (rowsN (ds.take i)) := by
  intro r hr
  obtain ⟨d, hd, rfl⟩ := List.mem_map.1 hr
  exact h _ (List.mem_map.2 ⟨d, List.mem_of_mem_take hd, rfl⟩)

theorem conv_u8 {k : Nat} (hk : k < 256) : IntKind.u8.wrap (k : Int) = (k : Int) := by
  simp [IntKind.wrap, IntKind.bits, IntKind.signed]
  omega

theorem ors_take {n k : Nat} (rs : List (List Nat)) (h : k < n) : ints ((Xr.ors n rs).take (k + 1)) = ints ((Xr.ors n rs).take k) ++ [((Xr.fold (Xr.at_ rs k) : Nat) : Int)] := by
  have hl : k < (Xr.ors n rs).length := by rw [Xr.ors_length]; exact h
  rw [List.take_succ_eq_append_getElem hl]
  simp [ints, Xr.ors]

theorem w64 (n : Int) (h : -9223372036854775808 ≤ n ∧ n ≤ 9223372036854775807) : wrap64 n = n := by unfold wrap64; omega

theorem bit_term (M x B : Nat) (hx : x < 256) (hM : M ≤ 1000000) : wrap64 ((M : Int) + (wrap64 ((x : Int) / (B : Int))).tmod 2) = ((M + x / B % 2 : Nat) : Int) := by
  have hq : (x : Int) / (B : Int) = ((x / B : Nat) : Int) := (Int.natCast_ediv x B).symm
  have hl : x / B ≤ x := Nat.div_le_self _ _
  rw [hq]
  generalize x / B = z at *
  rw [w64 (z : Int) (by omega), Int.tmod_eq_emod_of_nonneg (Int.natCast_nonneg _), w64 _ (by omega)]
  omega

set_option maxHeartbeats 2000000 in
set_option maxRecDepth 100000 in
theorem refOr_any (v : Value) (ds : List RowD) (n : Nat) (w : World) (h : Rws w v ds) (h0 : 0 < ds.length) (hds : ds.length ≤ 1000000) (hn : n ≤ 140737488355000) (hlen : ∀ d ∈ ds, d.bs.length = n) :
    Calls Try.prog 45 #[v] w (Gives1 w (Xr.ors n (rowsN ds))) := by
  obtain ⟨i0, hi, hz0, hz1, hz2⟩ := info_parts info_u8
  replace hi := Lib.hid hi
  replace hz0 := Lib.hid hz0
  replace hz1 := Lib.hid hz1
  replace hz2 := Lib.hid hz2
  obtain ⟨ao, c, rfl⟩ := h.slice
  have HR := Lib.hid h
  have HL := Lib.hid hlen
  have HB := Lib.hid (rows_bss h)
  obtain ⟨d0, hd0⟩ : ∃ d, ds[0]? = some d := ⟨_, List.getElem?_eq_getElem h0⟩
  obtain ⟨b, o, rfl, hb, R0⟩ := h.at hd0
  obtain ⟨eo0, ec0, hv0⟩ : ∃ eo ec, d0.v = .slice eo n ec := by
    have := R0.sl.slice
    rw [hlen d0 (List.mem_of_getElem? hd0)] at this
    exact this
  have C0 : Hid (∀ w', Chg [] w w' → w'.cell? ⟨b, o, none⟩ = some (.slice eo0 n ec0)) := fun w' c => by
    have := (c.cell (p := ⟨b, o + 0, none⟩) hb (by simp)).trans R0.c0
    rw [hv0] at this
    exact this
  have hk2 : (0 : Int) < ds.length := by omega
  clear h hlen hd0 R0 hv0
  go_enter Try.func45, Try.ntmps45
  go_wp2_with fail
  go_loopw [3, 4] (fun u i wr => ∃ k : Nat, k ≤ n ∧ i = .int .i64 k ∧ Hid (wr.ownsRow w.heap.size 5 1 u k ((ints ((Xr.ors n (rowsN ds)).take k)).map (Value.int .u8))) ∧ Hid (Chg [] w wr)) (fun _ i _ => n - (intOf i).toNat)
  case atStart => exact ⟨0, Nat.zero_le _, rfl, (show World.ownsRow _ _ _ _ _ _ _ from by simpa [ints] using World.ownsRow_nil _ _ _ _), Chg.refl _ _⟩
  case round =>
    obtain ⟨k, hk, rfl, O, D⟩ := hrel
    have c0 := C0.out wr D.out
    by_cases hlt : k < n
    · have hk0 : (0 : Int) ≤ k := Int.natCast_nonneg _
      have hk1 : (k : Int) < n := by omega
      have XL := Lib.hid (Xr.fold_lt (Xr.at_lt HB.out k))
      go_wp2_with fail
      obtain ⟨w2, hw2⟩ : ∃ w2 : World, w2 = wr := ⟨_, rfl⟩
      subst hw2
      go_loop [5, 6] (fun y q => ∃ m : Nat, m ≤ 8 ∧ q = .int .i64 (bitN m) ∧ y = .int .i64 ((Xr.fold (Xr.at_ (rowsN ds) k) / 2 ^ m : Nat) : Int)) (fun _ q => (intOf q).toNat)
      case atStart =>
        refine ⟨8, Nat.le_refl _, rfl, ?_⟩
        rw [Nat.div_eq_of_lt (show _ < 2 ^ 8 from XL.out)]
        rfl
      case round =>
        obtain ⟨m, hm, rfl, rfl⟩ := hrel
        by_cases hm0 : 0 < m
        · obtain ⟨j, rfl⟩ : ∃ j, m = j + 1 := ⟨m - 1, by omega⟩
          have hBp := bitN_pos j
          have hBh := Lib.hid (bitN_half j)
          have hST := Lib.hid (Xr.bit_step (Xr.at_ (rowsN ds) k) j)
          have hXl : Xr.fold (Xr.at_ (rowsN ds) k) / 2 ^ (j + 1) < 256 := Nat.lt_of_le_of_lt (Nat.div_le_self _ _) XL.out
          generalize Xr.fold (Xr.at_ (rowsN ds) k) / 2 ^ (j + 1) = y at *
          have hBd : bitN (j + 1) = 2 ^ j := rfl
          replace hBd := Lib.hid hBd
          generalize bitN (j + 1) = B at *
          have hB0 : (0 : Int) < B := by omega
          go_wp2_with fail
          go_loop [7, 8] (fun t q => ∃ i : Nat, i ≤ ds.length ∧ q = .int .i64 i ∧ t = .int .i64 ((Xr.many j (Xr.at_ (rowsN (ds.take i)) k) : Nat) : Int)) (fun _ q => ds.length - (intOf q).toNat)
          case atStart => exact ⟨0, Nat.zero_le _, rfl, rfl⟩
          case round =>
            obtain ⟨i, hil, rfl, rfl⟩ := hrel
            have hml := Xr.many_le j (Xr.at_ (rowsN (ds.take i)) k)
            have hal : (Xr.at_ (rowsN (ds.take i)) k).length ≤ ds.length := by simp [Xr.at_, rowsN]; omega
            by_cases hlt2 : i < ds.length
            · obtain ⟨d, hd⟩ : ∃ d, ds[i]? = some d := ⟨_, List.getElem?_eq_getElem hlt2⟩
              obtain ⟨b2, o2, he, hb2, R⟩ := (HR.out.chg D.out).at hd
              obtain ⟨rfl, rfl⟩ : b = b2 ∧ o = o2 := by simpa using he
              have hdl := HL.out d (List.mem_of_getElem? hd)
              have R0 := R.c0
              have S0 := R.sl
              obtain ⟨eo, ec, hv⟩ := R.sl.slice
              rw [hv] at R0 S0
              obtain ⟨g1, o1, rfl, hg1, c1⟩ := sl_cell S0 (k := k) (by omega)
              obtain ⟨x, ex, lx, tx⟩ := nats_getD_any R.by_ k
              rw [ex] at c1
              have HM : Hid (Xr.many j (Xr.at_ (rowsN (ds.take (i + 1))) k) = Xr.many j (Xr.at_ (rowsN (ds.take i)) k) + x / B % 2) := by
                show _ = _
                rw [at_take hd, Xr.many_snoc, tx, hBd.out]
              rw [hdl] at R0
              generalize Xr.many j (Xr.at_ (rowsN (ds.take i)) k) = M at *
              have hi0 : (0 : Int) ≤ i := Int.natCast_nonneg _
              have hi1 : (i : Int) < ds.length := by omega
              have hx0 : (0 : Int) ≤ x := Int.natCast_nonneg _
              clear he hd hv S0 R ex tx hdl
              go_wp2_with fail
              rw [bit_term M x B lx (by omega)]
              exact ⟨⟨i + 1, by omega, by go_num, by rw [HM.out]⟩, by simp [intOf]; omega⟩
            · obtain rfl : i = ds.length := by omega
              rw [List.take_length] at *
              generalize Xr.many j (Xr.at_ (rowsN ds) k) = M at *
              have hBl : B ≤ 256 := by
                rw [hBd.out]
                exact Nat.le_trans (Nat.pow_le_pow_right (by decide) (show j ≤ 8 by omega)) (by decide)
              go_wp2_with fail
              rw [show (B : Int) / 2 = ((bitN j : Nat) : Int) by rw [← hBh.out]; omega, show 2 * (y : Int) + (M : Int) % 2 = ((2 * y + M % 2 : Nat) : Int) by omega]
              exact ⟨⟨j, by omega, rfl, by rw [hST.out]⟩, by simp [intOf]; have := hBh.out; omega⟩
        · obtain rfl : m = 0 := by omega
          rw [Nat.pow_zero, Nat.div_one]
          have OT := Lib.hid (ors_take (rowsN ds) hlt)
          have hXL := XL.out
          generalize Xr.fold (Xr.at_ (rowsN ds) k) = X at *
          have hcv := conv_u8 hXL
          have hX0 : (0 : Int) ≤ X := Int.natCast_nonneg _
          have hX1 : (X : Int) < 256 := by omega
          rw [show ((bitN 0 : Nat) : Int) = 0 from rfl]
          go_wp2_with (first
            | (at_builtin; refine wpList_append_three _ rfl (.tmp 45) (.tmp 48) 25 rfl w.heap.size 5 i0 (.int .u8 0) 1 1 Try.underlying25 hi.out hz0.out hz1.out hz2.out rfl (by decide) _ k _ rfl (O.out.alloc _) ⟨w2.heap.size, 0, none⟩ 1 1 [.int .u8 (X : Int)] rfl rfl (new_cell _ _ _) (by simp [Value.oneCell']) (by unfold maxLen; omega) (by omega) (by have := D.out.size; simp; omega) ?_; intro v2 wn ol gr nb; have D2 : Hid (Chg [] w wn) := (D.out.alloc _).grown gr.out (fun b hb => .inr (O.out.lt b hb).1); have O2 := Lib.hid ol.out; clear ol gr nb))
          refine ⟨⟨k + 1, by omega, by go_num, ?_, D2⟩, by simp [intOf]; omega⟩
          show World.ownsRow _ _ _ _ _ _ _
          rw [OT.out, List.map_append]
          exact O2.out
    · obtain rfl : k = n := by omega
      go_wp2_with fail
      go_ret
      refine ⟨_, rfl, ?_, D⟩
      have hl := Xr.ors_length k (rowsN ds)
      show World.ownsRow _ _ _ _ _ _ _
      rw [hl]
      have := O.out
      rw [List.take_of_length_le (by rw [hl]; exact Nat.le_refl _)] at this
      exact this

end Go.Proofs.Ytaciamnfkidmfaa
