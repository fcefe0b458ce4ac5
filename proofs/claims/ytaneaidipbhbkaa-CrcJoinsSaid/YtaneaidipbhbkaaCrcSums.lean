/-
  CrcSums and CrcJoins walked. By an AI agent.
-/
import Derived.Test.YtaneaidipbhbkaaCrcKnown
import Derived.Test.YtaneaidipbhbkaaRefJoin
import Derived.Test.YtaneaidipbhbkaaGLent
namespace Go.Proofs.Ytaneaidipbhbkaa
open Go.RowKit
open Crc

set_option maxHeartbeats 1000000 in
set_option maxRecDepth 100000 in
theorem sums_walk (a : Int) (v : Value) (xs : List Int) (w : World) (h : Sl w v xs) (hby : By xs) (hbig : xs.length ≤ 140737488355328) (ha0 : 0 ≤ a) (ha1 : a ≤ 4294967295) :
    Calls Try.prog 3 #[.int .u32 a, v] w fun e w' => e = .returned (.bool true) ∧ Chg [] w w' := by
  obtain ⟨n, rfl⟩ := Int.eq_ofNat_of_zero_le ha0
  have hn : n < 4294967296 := by omega
  have HS := Lib.hid h
  have HB := Lib.hid hby
  obtain ⟨ao, c, rfl⟩ := h.slice
  clear h hby ha0 ha1
  by_cases hlong : 100000 < xs.length
  · have hl : (100000 : Int) < xs.length := by omega
    go_enter Try.func3, Try.ntmps3
    go_wp2_with fail
    go_ret
    exact ⟨rfl, Chg.refl _ _⟩
  have hl : ¬ (100000 : Int) < xs.length := by omega
  clear hlong
  go_enter Try.func3, Try.ntmps3
  go_wp2_with fail
  refine (lent_any _ xs w HS.out hbig).mono ?_
  rintro e w1 ⟨g, rfl, B1, D1, hg⟩
  replace B1 := Lib.hid B1
  replace D1 := Lib.hid D1
  go_wp2_with fail
  refine (sum_any _ xs w1 (Blk.sl B1.out) HB.out hbig).mono ?_
  rintro e w2 ⟨rfl, D⟩
  have B2 := Lib.hid (B1.out.chg D.out (by simp))
  have D2 := Lib.hid (D1.out.trans D.out)
  clear B1 D1 D
  go_wp2_with fail
  refine (more_any n _ xs w2 hn (Blk.sl B2.out) HB.out hbig).mono ?_
  rintro e w3 ⟨rfl, D⟩
  have B3 := Lib.hid (B2.out.chg D.out (by simp))
  have D3 := Lib.hid (D2.out.trans D.out)
  clear B2 D2 D
  go_wp2_with fail
  refine (whole_any g _ xs w3 B3.out (HS.out.chg D3.out (by simp)) hbig).mono ?_
  rintro e w' ⟨rfl, q, rfl⟩
  have B4 := Lib.hid (B3.out.drewN q)
  have D4 := Lib.hid (D3.out.drewN q)
  clear B3 D3
  generalize w3.drewN q = w4 at *
  go_wp2_with fail
  refine (more_any n _ xs w4 hn (Blk.sl B4.out) HB.out hbig).mono ?_
  rintro e w5 ⟨rfl, D⟩
  have D5 := Lib.hid (D4.out.trans D.out)
  clear B4 D4 D
  go_wp2_with fail
  refine (refSum_any _ xs w5 (HS.out.chg D5.out (by simp)) HB.out hbig).mono ?_
  rintro e w' ⟨rfl, rfl⟩
  go_wp2_with fail
  refine (refMore_any n _ xs w5 hn (HS.out.chg D5.out (by simp)) HB.out hbig).mono ?_
  rintro e w' ⟨rfl, rfl⟩
  go_wp2_with fail
  refine (known_any w5).mono ?_
  rintro e w6 ⟨rfl, D⟩
  go_wp2_with fail
  go_ret
  exact ⟨rfl, D5.out.trans D.out⟩

set_option maxHeartbeats 1000000 in
set_option maxRecDepth 100000 in
theorem joins_walk (a b n : Int) (w : World) (ha0 : 0 ≤ a) (ha1 : a ≤ 4294967295) (hb0 : 0 ≤ b) (hb1 : b ≤ 4294967295) (hn : n ≤ 9223372036854775807) :
    Calls Try.prog 4 #[.int .u32 a, .int .u32 b, .int .i64 n] w fun e w' => e = .returned (.bool true) ∧ Chg [] w w' := by
  obtain ⟨x, rfl⟩ := Int.eq_ofNat_of_zero_le ha0
  obtain ⟨y, rfl⟩ := Int.eq_ofNat_of_zero_le hb0
  by_cases h0 : n < 0
  · go_enter Try.func4, Try.ntmps4
    go_wp2_with fail
    refine (join_neg x y n w h0).mono ?_
    rintro e w1 ⟨rfl, rfl⟩
    go_wp2_with fail
    refine (refJoin_neg x y n w h0).mono ?_
    rintro e w1 ⟨rfl, rfl⟩
    go_wp2_with fail
    refine (known_any w).mono ?_
    rintro e w6 ⟨rfl, D⟩
    go_wp2_with fail
    go_ret
    exact ⟨rfl, D.out⟩
  · obtain ⟨m, rfl⟩ := Int.eq_ofNat_of_zero_le (show 0 ≤ n by omega)
    have hx : x < 4294967296 := by omega
    have hy : y < 4294967296 := by omega
    have hm : m ≤ 9223372036854775807 := by omega
    go_enter Try.func4, Try.ntmps4
    go_wp2_with fail
    refine (join_any x y m w hx hy hm).mono ?_
    rintro e w1 ⟨rfl, D1⟩
    go_wp2_with fail
    refine (refJoin_any x y m w1 hx hy hm).mono ?_
    rintro e w2 ⟨rfl, D2⟩
    replace D2 := Lib.hid D2
    go_wp2_with fail
    refine (known_any w2).mono ?_
    rintro e w6 ⟨rfl, D⟩
    go_wp2_with fail
    go_ret
    exact ⟨rfl, (D1.out.trans D2.out).trans D.out⟩

end Go.Proofs.Ytaneaidipbhbkaa
