/-
  CrcChain walked. By an AI agent.
-/
import Derived.Test.YtaneaidipbhbkabCrcKnown
namespace Go.Proofs.Ytaneaidipbhbkab
open Go.RowKit
open Crc

set_option maxHeartbeats 1000000 in
set_option maxRecDepth 100000 in
theorem chain_walk (a b c m n : Int) (w : World) (ha0 : 0 ≤ a) (ha1 : a ≤ 4294967295) (hb0 : 0 ≤ b) (hb1 : b ≤ 4294967295) (hc0 : 0 ≤ c) (hc1 : c ≤ 4294967295) (hm0 : 0 ≤ m) (hm1 : m ≤ 65535) (hn0 : 0 ≤ n) (hn1 : n ≤ 65535) :
    Calls Try.prog 3 #[.int .u32 a, .int .u32 b, .int .u32 c, .int .u16 m, .int .u16 n] w fun e w' => e = .returned (.bool true) ∧ Chg [] w w' := by
  obtain ⟨x, rfl⟩ := Int.eq_ofNat_of_zero_le ha0
  obtain ⟨y, rfl⟩ := Int.eq_ofNat_of_zero_le hb0
  obtain ⟨z, rfl⟩ := Int.eq_ofNat_of_zero_le hc0
  obtain ⟨p, rfl⟩ := Int.eq_ofNat_of_zero_le hm0
  obtain ⟨q, rfl⟩ := Int.eq_ofNat_of_zero_le hn0
  have hx : x < 4294967296 := by omega
  have hy : y < 4294967296 := by omega
  have hz : z < 4294967296 := by omega
  have hxy := join_lt p hx hy
  have hyz := join_lt q hy hz
  have HJ := Lib.hid (join_join x y z p q)
  have HZ := Lib.hid (show join x 0 0 = x by rw [join_zero, Nat.xor_zero])
  go_enter Try.func3, Try.ntmps3
  go_wp2_with fail
  refine (join_any x y p _ hx hy (by omega)).mono ?_
  rintro e w1 ⟨rfl, D1⟩
  go_wp2_with fail
  refine (join_any (join x y p) z q _ hxy hz (by omega)).mono ?_
  rintro e w2 ⟨rfl, D2⟩
  go_wp2_with fail
  refine (join_any y z q _ hy hz (by omega)).mono ?_
  rintro e w3 ⟨rfl, D3⟩
  go_wp2_with fail
  have e1 : (p : Int) + (q : Int) = ((p + q : Nat) : Int) := by simp
  rw [e1]
  clear e1
  refine (join_any x (join y z q) (p + q) _ hx hyz (by omega)).mono ?_
  rintro e w4 ⟨rfl, D4⟩
  rw [← HJ.out]
  go_wp2_with fail
  refine (join_any x 0 0 _ hx (by decide) (by omega)).mono ?_
  rintro e w5 ⟨rfl, D5⟩
  rw [HZ.out]
  go_wp2_with fail
  refine (known_any _).mono ?_
  rintro e w6 ⟨rfl, D6⟩
  go_wp2_with fail
  go_ret
  exact ⟨rfl, (((((D1.out.trans D2.out).trans D3.out).trans D4.out).trans D5.out).trans D6.out)⟩

end Go.Proofs.Ytaneaidipbhbkab
