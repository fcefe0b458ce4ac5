/-
  ballots, much. By an AI agent.
-/
import Derived.Test.YtffpjefecmkfmaaBVtOwn
namespace Go.Proofs.Ytffpjefecmkfmaa
open Go.RowKit

theorem baseS_fit {ev i : Nat} (h : ev < 18446744073709551616) (hi : i ≤ 1000) : (baseS ev i).Fit := by
  refine ⟨?_, h, ?_, ⟨?_, ?_⟩, ?_, ?_, ?_, ?_, ?_, ?_⟩
  · show (1 : Nat) < 18446744073709551616; decide
  · show (1 : Nat) < 18446744073709551616; decide
  · show (-9223372036854775808 : Int) ≤ (i : Int); omega
  · show (i : Int) ≤ 9223372036854775807; omega
  · show (-9223372036854775808 : Int) ≤ 3 ∧ (3 : Int) ≤ 9223372036854775807; decide
  · show (-9223372036854775808 : Int) ≤ 1 ∧ (1 : Int) ≤ 9223372036854775807; decide
  · show (-9223372036854775808 : Int) ≤ 2 ∧ (2 : Int) ≤ 9223372036854775807; decide
  · show (-9223372036854775808 : Int) ≤ 10 ∧ (10 : Int) ≤ 9223372036854775807; decide
  · show (-9223372036854775808 : Int) ≤ 0 ∧ (0 : Int) ≤ 9223372036854775807; decide
  · show By [1, 1, 1]; unfold By; decide

/-- What ballots hands out. -/
def Ballots (ev : Nat) (w : World) (e : Ending) (w' : World) : Prop :=
  ∃ v ds, e = .returned v ∧ Hid (BRow w w' v ds) ∧ ds.length = 4 ∧ Hid (∀ k d, ds[k]? = some d → d.has = true ∧ d.s = baseS ev k)

set_option maxHeartbeats 4000000 in
set_option maxRecDepth 100000 in
theorem ballots_any (ev : Nat) (hev : ev < 18446744073709551616) (w : World) : Calls Try.prog 11 #[.int .u64 (ev : Int)] w (Ballots ev w) := by
  obtain ⟨i0, ki, kz0, kz1, kz2⟩ := info_parts info_bal
  replace ki := Lib.hid ki
  replace kz0 := Lib.hid kz0
  replace kz1 := Lib.hid kz1
  replace kz2 := Lib.hid kz2
  have HEV := Lib.hid hev
  clear hev
  go_enter Try.func11, Try.ntmps11
  go_wp2_with fail
  go_loopw [4, 3] (fun i v wr => ∃ (j : Nat) (ds : List BalD), j ≤ 4 ∧ i = .int .i64 (j : Int) ∧ ds.length = j ∧ Hid (BRow w wr v ds) ∧ Hid (∀ k d, ds[k]? = some d → d.has = true ∧ d.s = baseS ev k)) (fun i _ _ => 4 - (intOf i).toNat)
  case atStart => exact ⟨0, [], by decide, rfl, rfl, BRow.nil (Chg.refl _ _), (fun k d h => by simp at h)⟩
  case round =>
    obtain ⟨j, ds, hj, rfl, hl, R, BS⟩ := hrel
    have hj0 : (0 : Int) ≤ j := Int.natCast_nonneg _
    by_cases hlt : j < 4
    · have hj1 : (j : Int) < 4 := by omega
      have R' := R.out
      obtain ⟨vo, vc, rfl⟩ := R'.slice
      obtain ⟨wA, hwA⟩ : ∃ wA, wA = ((wr.alloc (.cells #[.int .u8 1, .int .u8 1, .int .u8 1] 37)).alloc (.cells #[.int .u64 1, .int .u64 (ev : Int), .int .u64 1, .int .i64 (j : Int), .int .i64 3, .int .i64 1, .int .i64 2, .int .i64 10, .bool false, .bool false, .slice (some ⟨wr.heap.size, 0, none⟩) 3 3, .int .i64 0] 29)).alloc (.cells #[.bool true, .int .u64 1, .int .u64 (ev : Int), .int .u64 1, .int .i64 (j : Int), .int .i64 3, .int .i64 1, .int .i64 2, .int .i64 10, .bool false, .bool false, .slice (some ⟨wr.heap.size, 0, none⟩) 3 3, .int .i64 0] 39) := ⟨_, rfl⟩
      obtain ⟨d, hd⟩ : ∃ d : BalD, d = ⟨true, baseS ev j, .slice (some ⟨wr.heap.size, 0, none⟩) 3 3⟩ := ⟨_, rfl⟩
      have CA : Chg [] wr wA := by rw [hwA]; exact (((Chg.refl _ _).alloc _).alloc _).alloc _
      have B1 : Blk wA wr.heap.size 37 [.int .u8 1, .int .u8 1, .int .u8 1] := by rw [hwA]; exact ((Blk.made wr _ _).alloc _).alloc _
      have B3 : Blk wA (wr.heap.size + 1 + 1) 39 d.cells := by
        rw [hwA, hd]
        have := Blk.made ((wr.alloc (.cells #[.int .u8 1, .int .u8 1, .int .u8 1] 37)).alloc (.cells #[.int .u64 1, .int .u64 (ev : Int), .int .u64 1, .int .i64 (j : Int), .int .i64 3, .int .i64 1, .int .i64 2, .int .i64 10, .bool false, .bool false, .slice (some ⟨wr.heap.size, 0, none⟩) 3 3, .int .i64 0] 29)) [.bool true, .int .u64 1, .int .u64 (ev : Int), .int .u64 1, .int .i64 (j : Int), .int .i64 3, .int .i64 1, .int .i64 2, .int .i64 10, .bool false, .bool false, .slice (some ⟨wr.heap.size, 0, none⟩) 3 3, .int .i64 0] 39
        rw [World.size_alloc, World.size_alloc] at this
        exact this
      have RA := R'.chg CA
      have BD : BSt wA (.slice vo ds.length vc) d := by
        rw [hd]
        refine ⟨⟨Blk.sls (ys := []) (xs := [1, 1, 1]) B1, fun k hk => ?_⟩, by show (3 : Nat) ≤ _; decide, baseS_fit HEV.out (by omega)⟩
        obtain rfl : wr.heap.size = k := by simpa [Value.ownBlock] using hk
        refine ⟨B1.lt, fun e => ?_⟩
        have := (R'.row.lt _ e).2
        omega
      have FIN : Hid (∀ v' w', w'.ownsRow w.heap.size 39 13 v' (ds.length + 1) (flat13 ds ++ d.cells) → wA.grownBy w' (Value.slice vo ds.length vc).ownBlock → (v'.ownBlock = (Value.slice vo ds.length vc).ownBlock ∨ (v'.ownBlock = some wA.heap.size ∧ wA.grownBy w' none)) → BRow w w' v' (ds ++ [d])) := fun v' w' o g hv => RA.app BD o g hv
      have OWN : Hid (wA.ownsRow w.heap.size 39 13 (.slice vo ds.length vc) ds.length (flat13 ds)) := RA.row
      have BS2 : Hid (∀ k x, (ds ++ [d])[k]? = some x → x.has = true ∧ x.s = baseS ev k) := fun k x hx => by
        by_cases hk : k < ds.length
        · rw [List.getElem?_append_left hk] at hx
          exact BS.out k x hx
        · rw [List.getElem?_append_right (by omega)] at hx
          have e0 : k - ds.length = 0 := by
            have := (List.getElem?_eq_some_iff.1 hx).1
            simp at this
            omega
          rw [e0] at hx
          obtain rfl : d = x := by simpa using hx
          rw [hd]
          exact ⟨rfl, by show baseS ev j = baseS ev k; congr 1; omega⟩
      have NW : Hid (∀ (q : Nat) u, d.cells[q]? = some u → wA.cell? ((⟨wr.heap.size + 1 + 1, 0, none⟩ : Addr).add q) = some u) := fun q u hu => by
        have e : (⟨wr.heap.size + 1 + 1, 0, none⟩ : Addr).add q = ⟨wr.heap.size + 1 + 1, q, none⟩ := by rw [Addr.add_lit, Nat.zero_add]
        rw [e]
        exact B3.cell hu
      have ONE : Hid (∀ u ∈ d.cells, u.oneCell' = true) := by
        intro u hu
        rw [hd] at hu
        simp only [BalD.cells, baseS, List.mem_cons, List.not_mem_nil, or_false] at hu
        rcases hu with rfl | rfl | rfl | rfl | rfl | rfl | rfl | rfl | rfl | rfl | rfl | rfl | rfl <;> rfl
      have SZ : Hid (w.heap.size ≤ wA.heap.size) := RA.ch.size
      have hdl : ds.length = j := hl
      replace hwA := Lib.hid hwA
      replace hd := Lib.hid hd
      clear R R' RA BD CA B1 B3 BS
      go_wp2_with (at_builtin; rw [← hwA.out]; refine wpList_append_three _ rfl _ _ 22 rfl w.heap.size 39 i0 _ 13 112 Try.underlying22 ki.out kz0.out kz1.out kz2.out rfl (by decide) _ ds.length (flat13 ds) rfl OWN.out ⟨wr.heap.size + 1 + 1, 0, none⟩ 1 1 d.cells rfl rfl NW.out ONE.out (by unfold maxLen; omega) (by omega) SZ.out ?_; intro v' w' O1 G1 V1; have R2 := Lib.hid (FIN.out v' w' O1.out G1.out V1.out); clear O1 G1 V1 FIN OWN NW ONE SZ)
      exact ⟨⟨j + 1, ds ++ [d], by omega, by go_num, by simp [hdl], R2, BS2⟩, by simp [intOf]; omega⟩
    · obtain rfl : j = 4 := by omega
      go_wp2_with fail
      go_ret
      exact ⟨_, ds, rfl, R, hl, BS⟩

def balW (ds : List BalD) (j : Nat) : Nat := ds.length + ((ds.take j).map fun d => d.s.st.length).sum

theorem balW_succ {ds : List BalD} {j : Nat} {d : BalD} (h : ds[j]? = some d) : balW ds (j + 1) = balW ds j + d.s.st.length := by
  unfold balW
  rw [List.take_add_one, h]
  simp
  omega

/-- Where the answer is no, there are not many. -/
def BMuch (w : World) (ds : List BalD) (e : Ending) (w' : World) : Prop :=
  ∃ b, e = .returned (.bool b) ∧ (b = false → ds.length ≤ 10000) ∧ w = w'

set_option maxHeartbeats 4000000 in
set_option maxRecDepth 100000 in
theorem much_any (lv : Value) (ds : List BalD) (w : World) (hv : Bals w lv ds) : Calls Try.prog 8 #[lv] w (BMuch w ds) := by
  have HV := Lib.hid hv
  have hlen := hv.len
  obtain ⟨vo, vc, rfl⟩ := hv.slice
  clear hv
  obtain ⟨n, hn⟩ : ∃ n, n = ds.length := ⟨_, rfl⟩
  have FIN : Hid (∀ m : Nat, n ≤ m → BMuch w ds (.returned (.bool (decide ((10000 : Int) < (m : Int))))) w) := fun m h => ⟨_, rfl, fun hb => by
    have := of_decide_eq_false hb
    omega, rfl⟩
  have HAS : Hid (∀ j, j < n → ∃ d, ds[j]? = some d) := fun j hj => ⟨_, List.getElem?_eq_getElem (by omega)⟩
  rw [← hn] at HV hlen ⊢
  have hn0 : (0 : Int) ≤ n := Int.natCast_nonneg _
  clear hn
  go_enter Try.func8, Try.ntmps8
  go_wp2_with fail
  go_loopw [3, 4] (fun s i wr => ∃ (j m : Nat), j ≤ n ∧ s = .int .i64 (m : Int) ∧ i = .int .i64 (j : Int) ∧ n ≤ m ∧ (m : Int) ≤ 1125899906842624 ∧ wr = w) (fun _ i _ => n - (intOf i).toNat)
  case atStart => exact ⟨0, n, Nat.zero_le _, rfl, rfl, Nat.le_refl _, by omega, rfl⟩
  case round =>
    obtain ⟨j, m, hj, rfl, rfl, hm, hm2, rfl⟩ := hrel
    have hj0 : (0 : Int) ≤ j := Int.natCast_nonneg _
    have hm0 : (0 : Int) ≤ m := Int.natCast_nonneg _
    by_cases hlt : j < n
    · have hj1 : (j : Int) < n := by omega
      by_cases hmb : m ≤ 10000
      · have hmb1 : (m : Int) ≤ 10000 := by omega
        obtain ⟨d, hd⟩ := HAS.out j hlt
        obtain ⟨b, o, rfl, hb, BI⟩ := HV.out.at hd
        obtain ⟨uo, uc, hu⟩ := BI.sl.slice
        have c11 := BI.c11
        have hbg := BI.big
        rw [hu] at c11
        obtain ⟨L, hL⟩ : ∃ L, L = d.s.st.length := ⟨_, rfl⟩
        rw [← hL] at c11 hbg
        have hL0 : (0 : Int) ≤ L := Int.natCast_nonneg _
        clear BI hu hd hL
        go_wp2_with fail
        exact ⟨⟨j + 1, m + L, by omega, by go_num, by go_num, by omega, by omega, trivial⟩, by simp [intOf]; omega⟩
      · have hmb1 : ¬ (m : Int) ≤ 10000 := by omega
        have F : BMuch wr ds (.returned (.bool true)) wr := ⟨true, rfl, (fun h => by cases h), rfl⟩
        go_wp2_with fail
        go_ret
        exact F
    · have hj1 : ¬ (j : Int) < n := by omega
      have F := FIN.out m hm
      go_wp2_with fail
      go_ret
      exact F

end Go.Proofs.Ytffpjefecmkfmaa
