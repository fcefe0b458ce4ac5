/-
  The document's Join. By an AI agent.
-/
import Derived.Test.YtaneaidipbhbkaaRefCrc
namespace Go.Proofs.Ytaneaidipbhbkaa
open Go.RowKit
open Crc

set_option maxHeartbeats 400000 in
theorem refTimes_any (g c : Nat) (m : List Nat) (n : Nat) (w : World) (hc : ∀ i, i < 32 → w.cell? ⟨g, i, none⟩ = some (.int .u32 ((m.getD i 0 : Nat) : Int))) (hm : ∀ i, m.getD i 0 < 4294967296) (hn : n < 4294967296) (_hcap : 32 ≤ c) :
    Calls Try.prog 27 #[.slice (some ⟨g, 0, none⟩) 32 c, .int .u32 n] w fun e w' => e = .returned (.int .u32 (times m n 32)) ∧ w = w' := by
  have HC := Lib.hid hc
  have HM := Lib.hid hm
  clear hc hm
  go_enter Try.func27, Try.ntmps27
  go_wp2_with fail
  go_loop [5, 6] (fun v i => ∃ k : Nat, k ≤ 32 ∧ i = .int .i64 k ∧ v = .int .u32 (times m n k)) (fun _ i => 32 - (intOf i).toNat)
  case atStart => exact ⟨0, Nat.zero_le _, rfl, rfl⟩
  case round =>
    obtain ⟨k, hk, rfl, rfl⟩ := hrel
    by_cases hlt : k < 32
    · have hb := bit_ask n k hn
      have hcell := HC.out k hlt
      have ht := times_lt HM.out n k
      have hmk := HM.out k
      have HT := Lib.hid (show times m n (k + 1) = times m n k ^^^ (if n.testBit k then m.getD k 0 else 0) from rfl)
      generalize times m n k = x at *
      generalize m.getD k 0 = y at *
      have hx := u32_xor_nat x y ht hmk
      have hk0 : (0 : Int) ≤ k := Int.natCast_nonneg _
      have hk1 : (k : Int) < 32 := by omega
      by_cases hbit : n.testBit k = true
      · rw [if_pos hbit] at hb
        have hv := HT.out
        rw [if_pos hbit] at hv
        have HV := Lib.hid hv
        clear hv HT hbit
        go_wp2_with fail
        exact ⟨⟨k + 1, by omega, by go_num, by rw [HV.out]⟩, by simp [intOf]; omega⟩
      · rw [if_neg hbit] at hb
        have hv := HT.out
        rw [if_neg hbit, Nat.xor_zero] at hv
        have HV := Lib.hid hv
        clear hv HT hbit
        go_wp2_with fail
        exact ⟨⟨k + 1, by omega, by go_num, by rw [HV.out]⟩, by simp [intOf]; omega⟩
    · obtain rfl : k = 32 := by omega
      go_wp2_with fail
      go_ret
      exact ⟨rfl, rfl⟩

theorem info_u32 : (Try.prog.info? 22).map (fun i => (i.zero, i.size, i.bytes)) = some (some (.int .u32 0), 1, 4) := by kernel_rfl

/-- The matrix m lies in the row that v owns. -/
def Mat (w : World) (base : Nat) (v : Value) (m : List Nat) : Prop := w.ownsRow base 22 1 v m.length (m.map fun x : Nat => Value.int .u32 (x : Int))

theorem Mat.own {w : World} {base : Nat} {v : Value} {m : List Nat} (h : Mat w base v m) : w.ownsRow base 22 1 v m.length (m.map fun x : Nat => Value.int .u32 (x : Int)) := h

theorem Mat.snoc {w : World} {base : Nat} {v : Value} {m : List Nat} {x : Nat} (h : w.ownsRow base 22 1 v (m.length + 1) ((m.map fun x : Nat => Value.int .u32 (x : Int)) ++ [.int .u32 (x : Int)])) : Mat w base v (m ++ [x]) := by
  unfold Mat
  simpa using h

theorem Mat.len {w : World} {base : Nat} {v : Value} {m : List Nat} (h : Mat w base v m) : ∃ ao c, v = .slice ao m.length c := owns_slice h

theorem Mat.at {w : World} {base : Nat} {ao : Option Addr} {n c : Nat} {m : List Nat} (h : Mat w base (.slice ao n c) m) {k : Nat} (hk : k < m.length) : ∃ g, ao = some ⟨g, 0, none⟩ ∧ w.cell? ⟨g, k, none⟩ = some (.int .u32 ((m.getD k 0 : Nat) : Int)) :=
  owns_at h (by simp [List.getD, List.getElem?_eq_getElem hk])

theorem getD_lt {m : List Nat} (hm : ∀ x ∈ m, x < 4294967296) (i : Nat) : m.getD i 0 < 4294967296 := by
  by_cases h : i < m.length
  · rw [List.getD_eq_getElem?_getD, List.getElem?_eq_getElem h]
    exact hm _ (List.getElem_mem h)
  · rw [List.getD_eq_getElem?_getD, List.getElem?_eq_none (by omega)]
    decide

/-- One column more. -/
theorem cols_snoc {m : List Nat} {f : Nat → Nat} (h : ∀ i, i < m.length → m.getD i 0 = f i) : ∀ i, i < (m ++ [f m.length]).length → (m ++ [f m.length]).getD i 0 = f i := by
  intro i hi
  by_cases hl : i < m.length
  · rw [List.getD_eq_getElem?_getD, List.getElem?_append_left hl, ← List.getD_eq_getElem?_getD]
    exact h i hl
  · obtain rfl : i = m.length := by simp at hi; omega
    simp

theorem cols_lt {m : List Nat} {f : Nat → Nat} (h : ∀ i, i < m.length → m.getD i 0 = f i) (hf : ∀ i, i < m.length → f i < 4294967296) : ∀ x ∈ m, x < 4294967296 := by
  intro x hx
  obtain ⟨i, hi, rfl⟩ := List.mem_iff_getElem.1 hx
  have := h i hi
  rw [List.getD_eq_getElem?_getD, List.getElem?_eq_getElem hi] at this
  have hh := hf i hi
  simp at this
  omega

set_option maxHeartbeats 1000000 in
set_option maxRecDepth 100000 in
theorem refJoin_any (a b n : Nat) (w : World) (ha : a < 4294967296) (hb : b < 4294967296) (hn : n ≤ 9223372036854775807) :
    Calls Try.prog 17 #[.int .u32 a, .int .u32 b, .int .i64 n] w fun e w' => e = .returned (.tuple #[.int .u32 (join a b n), .int .i64 0]) ∧ Chg [] w w' := by
  obtain ⟨i0, hi, hz0, hz1, hz2⟩ := info_parts info_u32
  replace hi := Lib.hid hi
  replace hz0 := Lib.hid hz0
  replace hz1 := Lib.hid hz1
  replace hz2 := Lib.hid hz2
  go_enter Try.func17, Try.ntmps17
  go_wp2_with fail
  go_loopw [8, 9] (fun v i wr => ∃ m : List Nat, m.length ≤ 32 ∧ i = .int .i64 m.length ∧ Hid (Mat wr w.heap.size v m) ∧ Hid (∀ i, i < m.length → m.getD i 0 = thr 8 (2 ^ i)) ∧ Hid (Chg [] w wr)) (fun _ i _ => 32 - (intOf i).toNat)
  case atStart => exact ⟨[], by simp, rfl, (show Mat _ _ _ [] from World.ownsRow_nil _ _ _ _), fun i hi => by simp at hi, Chg.refl _ _⟩
  case round =>
    obtain ⟨m, hm, rfl, M, F, D⟩ := hrel
    by_cases hlt : m.length < 32
    · have hp := pow_lt32 hlt
      have hk0 : (0 : Int) ≤ m.length := Int.natCast_nonneg _
      have hk1 : (m.length : Int) < 32 := by omega
      have hsh : (2 : Int) ^ m.length % 4294967296 = ((2 ^ m.length : Nat) : Int) := by
        have e : ((2 ^ m.length : Nat) : Int) = (2 : Int) ^ m.length := by simp
        rw [← e]
        exact Int.emod_eq_of_lt (Int.natCast_nonneg _) (Int.ofNat_lt.2 hp)
      have HF2 := Lib.hid (cols_snoc (f := fun i => thr 8 (2 ^ i)) F.out)
      have ht := through_any (2 ^ m.length) 8 wr hp (by decide)
      obtain ⟨mo, mc, rfl⟩ := M.out.len
      generalize 2 ^ m.length = pp at *
      go_wp2_with fail
      rw [hsh]
      refine ht.mono ?_
      rintro e w' ⟨rfl, rfl⟩
      generalize thr 8 pp = y at *
      have hbs : w.heap.size ≤ wr.heap.size := D.out.size
      go_wp2_with (with_reducible refine wpList_append_three _ rfl (.tmp 23) (.tmp 25) 51 rfl w.heap.size 22 i0 (.int .u32 0) 1 4 Try.underlying51 hi.out hz0.out hz1.out hz2.out rfl (by decide) _ _ _ rfl (M.out.own.alloc _) ⟨wr.heap.size, 0, none⟩ 1 1 [.int .u32 y] rfl rfl (new_cell _ _ _) (by simp [Value.oneCell']) (by unfold maxLen; omega) (by omega) (by simp; omega) ?_)
      intro v' wn ol gr nb
      have M2 : Hid (Mat wn w.heap.size v' (m ++ [y])) := Mat.snoc ol.out
      have D2 : Hid (Chg [] w wn) := (D.out.alloc (.cells #[.int .u32 y] 22)).grown gr.out (fun k hk => .inr (by have := (M.out.own.lt k hk).1; omega))
      clear ol gr nb M D
      go_wp2_with fail
      exact ⟨⟨m ++ [y], by simp; omega, by simp, M2, HF2, D2⟩, by simp [intOf]; omega⟩
    · have hm32 : m.length = 32 := by omega
      have R0 := Lib.hid (rep_thr 8 hm32 (fun i hi => F.out i (by omega)))
      have L0 := Lib.hid (cols_lt F.out (fun i hi => thr_lt 8 (pow_lt32 (by omega))))
      rw [hm32, show ((32 : Nat) : Int) = 32 from rfl]
      clear hlt hm F hm32
      go_wp2_with fail
      go_loopw [0, 2, 8] (fun x q v wr => ∃ (y N kk : Nat) (m : List Nat), x = .int .u32 y ∧ q = .int .i64 N ∧ y < 4294967296 ∧ N ≤ 9223372036854775807 ∧ Hid (Mat wr w.heap.size v m) ∧ Hid (Rep m (thr kk)) ∧ Hid (∀ x ∈ m, x < 4294967296) ∧ Hid (thr (kk * N) y = thr (8 * n) a) ∧ Hid (Chg [] w wr)) (fun _ q _ _ => (intOf q).toNat)
      case atStart => exact ⟨a, n, 8, m, rfl, rfl, ha, hn, M, R0, L0, rfl, D⟩
      case round =>
        obtain ⟨y, N, kk, m, rfl, rfl, hy, hN, M, R, L, T, D⟩ := hrel
        clear R0 L0
        have hm32 := R.out.len
        obtain ⟨mo, mc, rfl⟩ := M.out.len
        have hmc := owned_cap M.out.own
        rw [hm32] at M hmc
        rw [hm32]
        obtain ⟨g, rfl, -⟩ := M.out.at (k := 0) (by omega)
        have HM32 := Lib.hid hm32
        clear hm32
        by_cases h0 : 0 < N
        · have hb1 := and_one64 N (by omega)
          have HH := Lib.hid (halves kk N y)
          have hN0 : (0 : Int) < N := by omega
          have hcells : ∀ i, i < 32 → wr.cell? ⟨g, i, none⟩ = some (.int .u32 ((m.getD i 0 : Nat) : Int)) := fun i hi => by
            obtain ⟨g', he, hc⟩ := M.out.at (k := i) (by rw [HM32.out]; exact hi)
            obtain rfl : g = g' := by simpa using he
            exact hc
          have HCL := Lib.hid hcells
          have ht := refTimes_any g mc m y wr hcells (getD_lt L.out) hy hmc
          rw [times_all R.out hy] at ht
          clear hcells
          rcases Nat.mod_two_eq_zero_or_one N with ho | ho
          · rw [ho] at hb1
            have T2 : Hid (thr (2 * kk * (N / 2)) y = thr (8 * n) a) := by
              have := HH.out
              rw [ho, if_neg (by decide)] at this
              show _ = _
              rw [← this]
              exact T.out
            obtain ⟨y2, hy2e⟩ : ∃ y2, y2 = y := ⟨_, rfl⟩
            have hy2 : y2 < 4294967296 := by rw [hy2e]; exact hy
            subst hy2e
            clear HH T ht ho
            go_wp2_with fail
            have hz : w.heap.size ≤ wr.heap.size := D.out.size
            obtain ⟨w2, hw2⟩ : ∃ w2 : World, w2 = wr := ⟨_, rfl⟩
            subst hw2
            go_loopw [11, 12] (fun v i wq => ∃ m2 : List Nat, m2.length ≤ 32 ∧ i = .int .i64 m2.length ∧ Hid (Mat wq w2.heap.size v m2) ∧ Hid (∀ i, i < m2.length → m2.getD i 0 = times m (m.getD i 0) 32) ∧ Hid (Chg [] w2 wq)) (fun _ i _ => 32 - (intOf i).toNat)
            case atStart => exact ⟨[], by simp, rfl, (show Mat _ _ _ [] from World.ownsRow_nil _ _ _ _), fun i hi => by simp at hi, Chg.refl _ _⟩
            case round =>
              obtain ⟨m2, hm2, rfl, M2, F2, D2⟩ := hrel
              by_cases hlt : m2.length < 32
              · have hcells : ∀ i, i < 32 → wr.cell? ⟨g, i, none⟩ = some (.int .u32 ((m.getD i 0 : Nat) : Int)) := fun i hi => (D2.out.cell (p := ⟨g, i, none⟩) (World.block_lt_of_cell? _ _ (HCL.out i hi)) (by simp)).trans (HCL.out i hi)
                have hcell := hcells m2.length hlt
                have ht := refTimes_any g mc m (m.getD m2.length 0) wr hcells (getD_lt L.out) (getD_lt L.out _) hmc
                have HF2 := Lib.hid (cols_snoc (f := fun i => times m (m.getD i 0) 32) F2.out)
                have hk0 : (0 : Int) ≤ m2.length := Int.natCast_nonneg _
                have hk1 : (m2.length : Int) < 32 := by omega
                obtain ⟨mo, mc2, rfl⟩ := M2.out.len
                clear hcells F2
                generalize m.getD m2.length 0 = cc at *
                generalize times m cc 32 = yy at *
                go_wp2_with fail
                refine ht.mono ?_
                rintro e w' ⟨rfl, rfl⟩
                clear ht
                have hbs : w2.heap.size ≤ wr.heap.size := D2.out.size
                go_wp2_with (with_reducible refine wpList_append_three _ rfl (.tmp 45) (.tmp 47) 51 rfl w2.heap.size 22 i0 (.int .u32 0) 1 4 Try.underlying51 hi.out hz0.out hz1.out hz2.out rfl (by decide) _ _ _ rfl (M2.out.own.alloc _) ⟨wr.heap.size, 0, none⟩ 1 1 [.int .u32 yy] rfl rfl (new_cell _ _ _) (by simp [Value.oneCell']) (by unfold maxLen; omega) (by omega) (by simp; omega) ?_)
                intro v' wn ol gr nb
                have M3 : Hid (Mat wn w2.heap.size v' (m2 ++ [yy])) := Mat.snoc ol.out
                have D3 : Hid (Chg [] w2 wn) := (D2.out.alloc (.cells #[.int .u32 yy] 22)).grown gr.out (fun k hk => .inr (by have := (M2.out.own.lt k hk).1; omega))
                clear ol gr nb M2 D2
                go_wp2_with fail
                exact ⟨⟨m2 ++ [yy], by simp; omega, by simp, M3, HF2, D3⟩, by simp [intOf]; omega⟩
              · have hm2l : m2.length = 32 := by omega
                rw [hm2l, show ((32 : Nat) : Int) = 32 from rfl]
                have R2 := Lib.hid (R.out.twice hm2l (fun i hi => F2.out i (by omega)))
                have L2 := Lib.hid (cols_lt F2.out (fun i hi => times_lt (getD_lt L.out) _ 32))
                have M3 : Hid (Mat wr w.heap.size u11 m2) := ownsRow_base M2.out.own hz
                have D3 : Hid (Chg [] w wr) := D.out.trans D2.out
                clear hlt hm2 F2 M2 D2 M D R L hm2l
                go_wp2_with fail
                exact ⟨⟨y2, N / 2, 2 * kk, m2, rfl, by simp, hy2, by omega, M3, R2, L2, T2, D3⟩, by simp [intOf]; omega⟩
          · rw [ho] at hb1
            have T2 : Hid (thr (2 * kk * (N / 2)) (thr kk y) = thr (8 * n) a) := by
              have := HH.out
              rw [ho, if_pos rfl] at this
              show _ = _
              rw [← this]
              exact T.out
            have hy2 := thr_lt kk hy
            generalize thr kk y = y2 at *
            clear HH T ho
            go_wp2_with fail
            refine ht.mono ?_
            rintro e w' ⟨rfl, rfl⟩
            clear ht
            go_wp2_with fail
            have hz : w.heap.size ≤ wr.heap.size := D.out.size
            obtain ⟨w2, hw2⟩ : ∃ w2 : World, w2 = wr := ⟨_, rfl⟩
            subst hw2
            go_loopw [11, 12] (fun v i wq => ∃ m2 : List Nat, m2.length ≤ 32 ∧ i = .int .i64 m2.length ∧ Hid (Mat wq w2.heap.size v m2) ∧ Hid (∀ i, i < m2.length → m2.getD i 0 = times m (m.getD i 0) 32) ∧ Hid (Chg [] w2 wq)) (fun _ i _ => 32 - (intOf i).toNat)
            case atStart => exact ⟨[], by simp, rfl, (show Mat _ _ _ [] from World.ownsRow_nil _ _ _ _), fun i hi => by simp at hi, Chg.refl _ _⟩
            case round =>
              obtain ⟨m2, hm2, rfl, M2, F2, D2⟩ := hrel
              by_cases hlt : m2.length < 32
              · have hcells : ∀ i, i < 32 → wr.cell? ⟨g, i, none⟩ = some (.int .u32 ((m.getD i 0 : Nat) : Int)) := fun i hi => (D2.out.cell (p := ⟨g, i, none⟩) (World.block_lt_of_cell? _ _ (HCL.out i hi)) (by simp)).trans (HCL.out i hi)
                have hcell := hcells m2.length hlt
                have ht := refTimes_any g mc m (m.getD m2.length 0) wr hcells (getD_lt L.out) (getD_lt L.out _) hmc
                have HF2 := Lib.hid (cols_snoc (f := fun i => times m (m.getD i 0) 32) F2.out)
                have hk0 : (0 : Int) ≤ m2.length := Int.natCast_nonneg _
                have hk1 : (m2.length : Int) < 32 := by omega
                obtain ⟨mo, mc2, rfl⟩ := M2.out.len
                clear hcells F2
                generalize m.getD m2.length 0 = cc at *
                generalize times m cc 32 = yy at *
                go_wp2_with fail
                refine ht.mono ?_
                rintro e w' ⟨rfl, rfl⟩
                clear ht
                have hbs : w2.heap.size ≤ wr.heap.size := D2.out.size
                go_wp2_with (with_reducible refine wpList_append_three _ rfl (.tmp 45) (.tmp 47) 51 rfl w2.heap.size 22 i0 (.int .u32 0) 1 4 Try.underlying51 hi.out hz0.out hz1.out hz2.out rfl (by decide) _ _ _ rfl (M2.out.own.alloc _) ⟨wr.heap.size, 0, none⟩ 1 1 [.int .u32 yy] rfl rfl (new_cell _ _ _) (by simp [Value.oneCell']) (by unfold maxLen; omega) (by omega) (by simp; omega) ?_)
                intro v' wn ol gr nb
                have M3 : Hid (Mat wn w2.heap.size v' (m2 ++ [yy])) := Mat.snoc ol.out
                have D3 : Hid (Chg [] w2 wn) := (D2.out.alloc (.cells #[.int .u32 yy] 22)).grown gr.out (fun k hk => .inr (by have := (M2.out.own.lt k hk).1; omega))
                clear ol gr nb M2 D2
                go_wp2_with fail
                exact ⟨⟨m2 ++ [yy], by simp; omega, by simp, M3, HF2, D3⟩, by simp [intOf]; omega⟩
              · have hm2l : m2.length = 32 := by omega
                rw [hm2l, show ((32 : Nat) : Int) = 32 from rfl]
                have R2 := Lib.hid (R.out.twice hm2l (fun i hi => F2.out i (by omega)))
                have L2 := Lib.hid (cols_lt F2.out (fun i hi => times_lt (getD_lt L.out) _ 32))
                have M3 : Hid (Mat wr w.heap.size u11 m2) := ownsRow_base M2.out.own hz
                have D3 : Hid (Chg [] w wr) := D.out.trans D2.out
                clear hlt hm2 F2 M2 D2 M D R L hm2l
                go_wp2_with fail
                exact ⟨⟨y2, N / 2, 2 * kk, m2, rfl, by simp, hy2, by omega, M3, R2, L2, T2, D3⟩, by simp [intOf]; omega⟩
        · obtain rfl : N = 0 := by omega
          rw [Nat.mul_zero] at T
          have hx := u32_xor_nat y b hy hb
          have HJ : Hid (join a b n = y ^^^ b) := by
            show _ = _
            unfold join
            rw [← T.out]
            rfl
          go_wp2_with fail
          go_ret2
          exact ⟨by rw [HJ.out]; rfl, D.out⟩

theorem refJoin_neg (a b : Nat) (n : Int) (w : World) (hn : n < 0) :
    Calls Try.prog 17 #[.int .u32 a, .int .u32 b, .int .i64 n] w fun e w' => e = .returned (.tuple #[.int .u32 0, .int .i64 1]) ∧ w = w' := by
  go_enter Try.func17, Try.ntmps17
  go_wp2_with fail
  go_ret2
  exact ⟨rfl, rfl⟩

end Go.Proofs.Ytaneaidipbhbkaa
