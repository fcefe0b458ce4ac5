/-
  The document's bytes of a number, put behind others, and read again (records). By an AI agent.
-/
import Derived.Test.YtnkdgmnmmmjgjaaGreatBRcGen
import Derived.Test.YtnkdgmnmmmjgjaaGreatBCrcMath
import Derived.Test.YtnkdgmnmmmjgjaaGreatBGNats
import Derived.Test.YtnkdgmnmmmjgjaaGreatBGAppend
import Derived.Test.YtnkdgmnmmmjgjaaGreatBLeArith
import Derived.Test.YtnkdgmnmmmjgjaaGreatBRefCrc
import Derived.Lib.AppendStr
import Derived.Deep.CutBlock
import Derived.Deep.DeepCutAuto
import Derived.Laws.BytesArg
namespace Go.Proofs.YtnkdgmnmmmjgjaaGreat
open Crc Go.RowKit

set_option maxHeartbeats 2000000 in
set_option maxRecDepth 100000 in
theorem rput_any (base : Nat) (v : Value) (ys : List Nat) (n k : Nat) (w : World) (hb : base ≤ w.heap.size) (O : w.ownsRow base 5 1 v ys.length ((ints ys).map (Value.int .u8))) (hk : k ≤ 8) (hn : n < 18446744073709551616) (hy : ys.length ≤ 1000) :
    Calls Tryz.prog 71 #[v, .int .u64 n, .int .i64 k] w fun e w' => ∃ v', e = .returned v' ∧ Hid (Ext base w v (ys ++ low k n) w' v') := by
  obtain ⟨i0, hi, hz0, hz1, hz2⟩ := info_parts info_byte
  have X0 : Hid (Ext base w v (ys ++ low 0 n) w v) := by
    show Ext _ _ _ _ _ _
    rw [show ys ++ low 0 n = ys from List.append_nil _]
    exact Ext.refl O
  clear O
  have hk0 : (0 : Int) ≤ k := Int.natCast_nonneg _
  have D0 : Hid (n / 256 ^ 0 = n) := by show _ = _; simp
  go_enter Tryz.func71, Tryz.ntmps71
  go_wp2_with fail
  go_loopw [0, 1, 7] (fun t m i wr => ∃ (q : Nat) (u : Value), q ≤ k ∧ i = .int .i64 q ∧ t = u ∧ m = .int .u64 ((n / 256 ^ q : Nat) : Int) ∧ Hid (Ext base w v (ys ++ low q n) wr u)) (fun _ _ i _ => k - (intOf i).toNat)
  case atStart => exact ⟨0, v, Nat.zero_le _, rfl, rfl, by rw [D0.out], X0⟩
  case round =>
    obtain ⟨q, u, hq, rfl, rfl, rfl, X⟩ := hrel
    clear X0 D0
    by_cases hlt : q < k
    · have hq0 : (0 : Int) ≤ q := Int.natCast_nonneg _
      have hq1 : (q : Int) < k := by omega
      obtain ⟨M, hM⟩ : ∃ M, M = n / 256 ^ q := ⟨_, rfl⟩
      have LS := Lib.hid (low_snoc q n)
      rw [← hM] at LS ⊢
      have hMl : M ≤ n := by rw [hM]; exact Nat.div_le_self _ _
      have DS : Hid (n / 256 ^ (q + 1) = M / 256) := by show _ = _; rw [hM, Nat.pow_succ, Nat.div_div_eq_div_mul]
      replace hM := Lib.hid hM
      have hand : bits .and .u64 (M : Int) 255 = ((M % 256 : Nat) : Int) := by
        rw [and_low (M : Int) 8 255 (by decide) (by decide) (by omega) (by omega)]
        rfl
      have hz := X.out.chg.size
      have hbw : base ≤ (wr.alloc (.cells #[.int .u8 ((M % 256 : Nat) : Int)] 5)).heap.size := by simp; omega
      have OA : Hid ((wr.alloc (.cells #[.int .u8 ((M % 256 : Nat) : Int)] 5)).ownsRow base 5 1 u0 (ys ++ low q n).length ((ints (ys ++ low q n)).map (Value.int .u8))) := owns_chg X.out.own ((Chg.refl [] wr).alloc _) (by simp)
      have hlen : (ys ++ low q n).length = ys.length + q := by rw [List.length_append, low_length]
      have hq7 : q ≤ 8 := by omega
      obtain ⟨B, hB⟩ : ∃ B, B = M % 256 := ⟨_, rfl⟩
      rw [← hB] at hand hbw OA LS
      have hB0 : (0 : Int) ≤ B := Int.natCast_nonneg _
      have hB1 : (B : Int) ≤ 255 := by omega
      replace hB := Lib.hid hB
      have L1 : Hid ((ys ++ low q n).length + 1 ≤ maxLen) := by show _ ≤ _; unfold maxLen; omega
      have L2 : Hid (((ys ++ low q n).length + 1) * 1 ≤ 140737488355328) := by show _ ≤ _; omega
      replace hlen := Lib.hid hlen
      have hMl2 : (M : Int) ≤ 18446744073709551615 := by omega
      have hM0 : (0 : Int) ≤ M := Int.natCast_nonneg _
      clear hMl hz
      go_wp2_with (at_builtin; refine wpList_append_three _ rfl _ _ 55 rfl base 5 i0 (.int .u8 0) 1 1 Tryz.underlying55 hi hz0 hz1 hz2 rfl (by decide) _ _ _ rfl OA.out ⟨wr.heap.size, 0, none⟩ 1 1 [.int .u8 (B : Int)] rfl rfl (one_cell _ _ _) (by intro x hx; rw [List.mem_singleton.1 hx]; rfl) L1.out L2.out hbw ?_; intro v2 w2 own hg hb2)
      refine ⟨⟨q + 1, v2, by omega, by go_num, rfl, by rw [DS.out, Int.natCast_ediv]; rfl, ?_⟩, by simp [intOf]; omega⟩
      show Ext _ _ _ _ _ _
      rw [LS.out, ← List.append_assoc]
      exact X.out.trans (Ext.app (.cells #[.int .u8 (B : Int)] 5) rfl own.out hg.out hb2.out)
    · obtain rfl : q = k := by omega
      go_wp2_with fail
      go_ret
      exact ⟨_, rfl, X⟩

set_option maxHeartbeats 4000000 in
set_option maxRecDepth 100000 in
theorem rbegun_any (k ep sq : Nat) (w : World) (hk : k < 4294967296) (he : ep < 18446744073709551616) (hs : sq < 18446744073709551616) :
    Calls Tryz.prog 70 #[.int .i64 k, .int .u64 ep, .int .u64 sq] w fun e w' => ∃ v, e = .returned v ∧ Hid (Ext w.heap.size w (.slice none 0 0) (magicB ++ low 4 k ++ low 8 ep ++ low 8 sq) w' v) := by
  have hk0 : (0 : Int) ≤ k := Int.natCast_nonneg _
  have hk1 : (k : Int) < 4294967296 := by omega
  obtain ⟨i0, hi, hz0, hz1, hz2⟩ := info_parts info_byte
  have hu9 := Tryz.underlying9
  go_enter Tryz.func70, Tryz.ntmps70
  obtain ⟨base, hbase⟩ : ∃ b, b = w.heap.size := ⟨_, rfl⟩
  have hb1 : base ≤ w.heap.size := Nat.le_of_eq hbase
  replace hbase := Lib.hid hbase
  go_upto_region 3 with (at_builtin; refine Lib.wpList_append_own_string _ rfl _ _ 55 9 rfl base 5 i0 Tryz.underlying55 Tryz.underlying9 hi hz0 hz1 hz2 (.slice none 0 0) 0 [] rfl (World.ownsRow_nil _ _ _ _) ⟨#[83, 80, 74, 76]⟩ rfl (by decide) (by decide) hb1 ?_; intro v0 W own gr _)
  have E := Lib.hid (magic_ext hbase.out own gr)
  clear own gr
  go_wp2_with fail
  have hzW : base ≤ W.heap.size := Nat.le_trans hb1 E.out.chg.size
  refine (rput_any base _ _ k 4 W hzW E.out.own (by decide) (by omega) (by simp [magicB])).mono ?_
  rintro e W1 ⟨v1, rfl, X⟩
  replace E := Lib.hid (E.out.trans X.out)
  clear X hzW
  go_wp2_with fail
  have hzW1 : base ≤ W1.heap.size := Nat.le_trans hb1 E.out.chg.size
  refine (rput_any base _ _ ep 8 W1 hzW1 E.out.own (by decide) (he) (by simp [low_length, magicB])).mono ?_
  rintro e W2 ⟨v2, rfl, X⟩
  replace E := Lib.hid (E.out.trans X.out)
  clear X hzW1
  go_wp2_with fail
  have hzW2 : base ≤ W2.heap.size := Nat.le_trans hb1 E.out.chg.size
  refine (rput_any base _ _ sq 8 W2 hzW2 E.out.own (by decide) (hs) (by simp [low_length, magicB])).mono ?_
  rintro e W3 ⟨v3, rfl, X⟩
  replace E := Lib.hid (E.out.trans X.out)
  clear X hzW2
  go_wp2_with fail
  go_ret
  have e := E.out
  rw [hbase.out] at e
  exact ⟨_, rfl, e⟩

set_option maxHeartbeats 4000000 in
set_option maxRecDepth 100000 in
theorem rended_any (base : Nat) (v : Value) (ys : List Nat) (w : World) (hb : base ≤ w.heap.size) (O : w.ownsRow base 5 1 v ys.length ((ints ys).map (Value.int .u8))) (hy : ys.length ≤ 124) (hbs : Bs ys) :
    Calls Tryz.prog 72 #[v] w fun e w' => ∃ v', e = .returned v' ∧ Hid (Ext base w v ((ys ++ List.replicate (124 - ys.length) 0) ++ low 4 (sum (ys ++ List.replicate (124 - ys.length) 0))) w' v') := by
  obtain ⟨i0, hi, hz0, hz1, hz2⟩ := info_parts info_byte
  obtain ⟨a8, c8, rfl⟩ := owns_slice O
  have hL8 : Hid (∀ z, (ys ++ List.replicate z 0).length = ys.length + z) := fun z => by rw [List.length_append, List.length_replicate]
  have E8 : Hid (Ext base w (.slice a8 ys.length c8) (ys ++ List.replicate 0 0) w (.slice a8 ys.length c8)) := by
    show Ext _ _ _ _ _ _
    rw [List.replicate_zero, List.append_nil]
    exact Ext.refl O
  clear O
  replace hbs := Lib.hid hbs
  go_enter Tryz.func72, Tryz.ntmps72
  go_wp2_with fail
  go_loopw [0] (fun b wr => ∃ (z n : Nat) (a9 : Option Addr) (c9 : Nat), n = ys.length + z ∧ n ≤ 124 ∧ b = .slice a9 n c9 ∧ Hid (Ext base w (.slice a8 ys.length c8) (ys ++ List.replicate z 0) wr (.slice a9 n c9))) (fun b _ => 124 - lenV b)
  case atStart => exact ⟨0, _, a8, c8, rfl, hy, rfl, E8⟩
  case round =>
    obtain ⟨z, n, a9, c9, hn, hn2, rfl, E⟩ := hrel
    clear E8
    have hn0 : (0 : Int) ≤ n := Int.natCast_nonneg _
    by_cases hl2 : n < 124
    · have hz := Nat.le_trans hb E.out.chg.size
      have hbw : base ≤ (wr.alloc (.cells #[.int .u8 0] 5)).heap.size := by simp; omega
      have OA : Hid ((wr.alloc (.cells #[.int .u8 0] 5)).ownsRow base 5 1 (.slice a9 n c9) _ _) := owns_chg E.out.own ((Chg.refl [] wr).alloc _) (by simp)
      have hlen := hL8.out z
      have L1 : Hid ((ys ++ List.replicate z 0).length + 1 ≤ maxLen) := by show _ ≤ _; unfold maxLen; omega
      have L2 : Hid (((ys ++ List.replicate z 0).length + 1) * 1 ≤ 140737488355328) := by show _ ≤ _; omega
      clear hz
      replace hlen := Lib.hid hlen
      replace hn := Lib.hid hn
      have hl3 : (n : Int) < 124 := by omega
      go_wp2_with (at_builtin; refine wpList_append_three _ rfl _ _ 55 rfl base 5 i0 (.int .u8 0) 1 1 Tryz.underlying55 hi hz0 hz1 hz2 rfl (by decide) _ _ _ rfl OA.out ⟨wr.heap.size, 0, none⟩ 1 1 [.int .u8 0] rfl rfl (one_cell _ _ _) (by intro y hy; rw [List.mem_singleton.1 hy]; rfl) L1.out L2.out hbw ?_; intro v8 w8 own hg hb2)
      obtain ⟨a10, c10, rfl⟩ := owns_slice own.out
      have hlen2 := hlen.out
      have hn3 := hn.out
      refine ⟨⟨z + 1, _, a10, c10, by omega, by omega, rfl, ?_⟩, by simp only [lenV]; omega⟩
      show Ext _ _ _ _ _ _
      rw [List.replicate_succ', ← List.append_assoc]
      exact E.out.trans (Ext.app (zs := [0]) (.cells #[.int .u8 0] 5) rfl own.out hg.out hb2.out)
    · have hz8 : z = 124 - ys.length := by omega
      have h124 : n = 124 := by omega
      subst h124
      have hbl := hL8.out z
      rw [← hn] at hbl
      rw [hz8] at E hbl
      clear hn hn2 hl2 hz8 hn0 hL8
      have hbb : Bs (ys ++ List.replicate (124 - ys.length) 0) := fun x hx => by
        rcases List.mem_append.1 hx with hx | hx
        · exact hbs.out x hx
        · rw [(List.mem_replicate.1 hx).2]; decide
      obtain ⟨bd, hbd⟩ : ∃ bd, bd = ys ++ List.replicate (124 - ys.length) 0 := ⟨_, rfl⟩
      rw [← hbd] at E hbl hbb
      replace hbd := Lib.hid hbd
      have SM := Lib.hid (refSum_any (.slice a9 124 c9) (ints bd) wr (Sl.owned E.out.own) (ints_by hbb) (by rw [ints_length, hbl]; decide))
      rw [nats_ints] at SM
      have hsm : sum bd < 4294967296 := more_lt (by decide) hbb
      obtain ⟨sm, hsme⟩ : ∃ x, x = sum bd := ⟨_, rfl⟩
      rw [← hsme] at SM hsm
      replace hsme := Lib.hid hsme
      replace hbl := Lib.hid hbl
      replace hbb := Lib.hid hbb
      have hs0 : (0 : Int) ≤ sm := Int.natCast_nonneg _
      have hs1 : (sm : Int) < 4294967296 := by omega
      go_wp2_with fail
      refine SM.out.mono ?_
      rintro e w8 ⟨rfl, rfl⟩
      clear SM
      go_wp2_with fail
      have hzr : base ≤ wr.heap.size := Nat.le_trans hb E.out.chg.size
      refine (rput_any base _ _ sm 4 wr hzr E.out.own (by decide) (by omega) (by rw [hbl.out]; decide)).mono ?_
      rintro e w9 ⟨v9, rfl, X⟩
      have Z := Lib.hid (E.out.trans X.out)
      clear X E
      go_wp2_with fail
      go_ret
      refine ⟨_, rfl, ?_⟩
      have z := Z.out
      rw [hsme.out, hbd.out] at z
      exact z

set_option maxHeartbeats 1000000 in
set_option maxRecDepth 100000 in
theorem rnumbers_any (ep sq : Nat) (w : World) : Calls Tryz.prog 69 #[.int .u64 ep, .int .u64 sq] w fun e w' => e = .returned (.bool (decide (numsOk ep sq))) ∧ w = w' := by
  have e0 : (0 : Int) ≤ ep := Int.natCast_nonneg _
  have s0 : (0 : Int) ≤ sq := Int.natCast_nonneg _
  by_cases h1 : ep ≤ 4611686018427387904
  case neg =>
    have d : decide (numsOk ep sq) = false := decide_eq_false (fun h => h1 h.1)
    rw [d]
    have k1 : ¬ (ep : Int) ≤ 4611686018427387904 := by omega
    go_enter Tryz.func69, Tryz.ntmps69
    go_wp2_with fail
    go_ret
    exact ⟨by first | rfl | simp, rfl⟩
  have k1 : (ep : Int) ≤ 4611686018427387904 := by omega
  by_cases h2 : 1 ≤ sq
  case neg =>
    have d : decide (numsOk ep sq) = false := decide_eq_false (fun h => h2 h.2.1)
    rw [d]
    have k2 : ¬ (1 : Int) ≤ sq := by omega
    go_enter Tryz.func69, Tryz.ntmps69
    go_wp2_with fail
    go_ret
    exact ⟨by first | rfl | simp, rfl⟩
  have k2 : (1 : Int) ≤ sq := by omega
  by_cases h3 : sq ≤ 4611686018427387904
  case neg =>
    have d : decide (numsOk ep sq) = false := decide_eq_false (fun h => h3 h.2.2)
    rw [d]
    have k3 : ¬ (sq : Int) ≤ 4611686018427387904 := by omega
    go_enter Tryz.func69, Tryz.ntmps69
    go_wp2_with fail
    go_ret
    exact ⟨by first | rfl | simp, rfl⟩
  have k3 : (sq : Int) ≤ 4611686018427387904 := by omega
  have d : decide (numsOk ep sq) = true := decide_eq_true ⟨h1, h2, h3⟩
  rw [d]
  go_enter Tryz.func69, Tryz.ntmps69
  go_wp2_with fail
  go_ret
  exact ⟨by first | rfl | simp, rfl⟩

end Go.Proofs.YtnkdgmnmmmjgjaaGreat
