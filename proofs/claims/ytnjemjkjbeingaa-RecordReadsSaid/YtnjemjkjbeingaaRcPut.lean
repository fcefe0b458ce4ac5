/-
  The document's bytes of a number, put behind others, and read again (records). By an AI agent.
-/
import Derived.Test.YtnjemjkjbeingaaRcSpec
import Derived.Test.YtnjemjkjbeingaaGNats
import Derived.Test.YtnjemjkjbeingaaGAppend
import Derived.Test.YtnjemjkjbeingaaLeArith
import Derived.Test.YtnjemjkjbeingaaRefCrc
import Derived.Lib.AppendStr
import Derived.Deep.CutBlock
import Derived.Deep.DeepCutAuto
namespace Go.Proofs.Ytnjemjkjbeingaa
open Crc Go.RowKit

theorem ints_app (a b : List Nat) : ints (a ++ b) = ints a ++ ints b := by simp [ints]

/-- A list of bytes that is grown. -/
structure Ext (base : Nat) (w : World) (v : Value) (ys : List Nat) (w' : World) (v' : Value) : Prop where
  own : w'.ownsRow base 5 1 v' ys.length ((ints ys).map (Value.int .u8))
  chg : Chg v.ownBlock.toList w w'
  blk : v'.ownBlock = v.ownBlock ∨ ∃ k, v'.ownBlock = some k ∧ w.heap.size ≤ k

theorem Ext.trans {base : Nat} {w w1 w2 : World} {v v1 v2 : Value} {ys zs : List Nat} (h : Ext base w v ys w1 v1) (k : Ext base w1 v1 zs w2 v2) : Ext base w v zs w2 v2 := by
  refine ⟨k.own, h.chg.fresh k.chg (fun j hj => ?_), ?_⟩
  · rcases h.blk with e | ⟨q, e, hq⟩
    · rw [e] at hj; exact .inl hj
    · rw [e] at hj
      have : j = q := by simpa using hj
      exact .inr (by omega)
  · rcases k.blk with e | ⟨q, e, hq⟩
    · rcases h.blk with e2 | ⟨q2, e2, hq2⟩
      · exact .inl (e.trans e2)
      · exact .inr ⟨q2, e.trans e2, hq2⟩
    · exact .inr ⟨q, e, Nat.le_trans h.chg.size hq⟩

theorem Ext.refl {base : Nat} {w : World} {v : Value} {ys : List Nat} (h : w.ownsRow base 5 1 v ys.length ((ints ys).map (Value.int .u8))) : Ext base w v ys w v := ⟨h, Chg.refl _ _, .inl rfl⟩

/-- What an append made of it, the bytes appended lying in a block that was made ahead. -/
theorem Ext.app {base : Nat} {w W w' : World} {v v' : Value} {ys zs : List Nat} (o : Obj) (hW : W = w.alloc o) (own : w'.ownsRow base 5 1 v' (ys.length + zs.length) ((ints ys).map (Value.int .u8) ++ (ints zs).map (Value.int .u8))) (hg : W.grownBy w' v.ownBlock)
    (hb : v'.ownBlock = v.ownBlock ∨ (v'.ownBlock = some W.heap.size ∧ W.grownBy w' none)) : Ext base w v (ys ++ zs) w' v' := by
  subst hW
  refine ⟨by rw [ints_app, List.map_append, List.length_append]; exact own, ((Chg.refl v.ownBlock.toList w).alloc o).grown hg (fun k hk => .inl (by rw [hk]; simp)), ?_⟩
  rcases hb with e | ⟨e, _⟩
  · exact .inl e
  · exact .inr ⟨_, e, by simp⟩

theorem one_cell (w : World) (x : Value) (e : TypeId) : ∀ j u, [x][j]? = some u → (w.alloc (.cells #[x] e)).cell? ((⟨w.heap.size, 0, none⟩ : Addr).add j) = some u := by
  intro j u hj
  have := (Blk.made w [x] e).cell hj
  rw [Addr.add_lit, Nat.zero_add]
  exact this

theorem info_byte : (Try.prog.info? 5).map (fun i => (i.zero, i.size, i.bytes)) = some (some (.int .u8 0), 1, 1) := by kernel_rfl

set_option maxHeartbeats 2000000 in
set_option maxRecDepth 100000 in
theorem rput_any (base : Nat) (v : Value) (ys : List Nat) (n k : Nat) (w : World) (hb : base ≤ w.heap.size) (O : w.ownsRow base 5 1 v ys.length ((ints ys).map (Value.int .u8))) (hk : k ≤ 8) (hn : n < 18446744073709551616) (hy : ys.length ≤ 1000) :
    Calls Try.prog 48 #[v, .int .u64 n, .int .i64 k] w fun e w' => ∃ v', e = .returned v' ∧ Hid (Ext base w v (ys ++ low k n) w' v') := by
  obtain ⟨i0, hi, hz0, hz1, hz2⟩ := info_parts info_byte
  have X0 : Hid (Ext base w v (ys ++ low 0 n) w v) := by
    show Ext _ _ _ _ _ _
    rw [show ys ++ low 0 n = ys from List.append_nil _]
    exact Ext.refl O
  clear O
  have hk0 : (0 : Int) ≤ k := Int.natCast_nonneg _
  have D0 : Hid (n / 256 ^ 0 = n) := by show _ = _; simp
  go_enter Try.func48, Try.ntmps48
  go_wp2_with fail
  go_loopw [0, 1, 7] (fun t m i wr => ∃ (q : Nat) (u : Value), q ≤ k ∧ i = .int .i64 q ∧ t = u ∧ m = .int .u64 ((n / 256 ^ q : Nat) : Int) ∧ Hid (Ext base w v (ys ++ low q n) wr u)) (fun _ _ i _ => k - (intOf i).toNat)
  case atStart => exact ⟨0, v, Nat.zero_le _, rfl, rfl, by rw [D0.out], X0⟩
  case round =>
    obtain ⟨q, u, hq, rfl, rfl, rfl, X⟩ := hrel
    clear X0 D0
    by_cases hlt : q < k
    · have hq0 : (0 : Int) ≤ q := Int.natCast_nonneg _
      have hq1 : (q : Int) < k := by omega
      obtain ⟨M, hM⟩ : ∃ M, M = n / 256 ^ q := ⟨_, rfl⟩
      have LS := Lib.hid (low_snoc q n)
      rw [← hM] at LS ⊢
      have hMl : M ≤ n := by rw [hM]; exact Nat.div_le_self _ _
      have DS : Hid (n / 256 ^ (q + 1) = M / 256) := by show _ = _; rw [hM, Nat.pow_succ, Nat.div_div_eq_div_mul]
      replace hM := Lib.hid hM
      have hand : bits .and .u64 (M : Int) 255 = ((M % 256 : Nat) : Int) := by
        rw [and_low (M : Int) 8 255 (by decide) (by decide) (by omega) (by omega)]
        rfl
      have hz := X.out.chg.size
      have hbw : base ≤ (wr.alloc (.cells #[.int .u8 ((M % 256 : Nat) : Int)] 5)).heap.size := by simp; omega
      have OA : Hid ((wr.alloc (.cells #[.int .u8 ((M % 256 : Nat) : Int)] 5)).ownsRow base 5 1 u0 (ys ++ low q n).length ((ints (ys ++ low q n)).map (Value.int .u8))) := owns_chg X.out.own ((Chg.refl [] wr).alloc _) (by simp)
      have hlen : (ys ++ low q n).length = ys.length + q := by rw [List.length_append, low_length]
      have hq7 : q ≤ 8 := by omega
      obtain ⟨B, hB⟩ : ∃ B, B = M % 256 := ⟨_, rfl⟩
      rw [← hB] at hand hbw OA LS
      have hB0 : (0 : Int) ≤ B := Int.natCast_nonneg _
      have hB1 : (B : Int) ≤ 255 := by omega
      replace hB := Lib.hid hB
      have L1 : Hid ((ys ++ low q n).length + 1 ≤ maxLen) := by show _ ≤ _; unfold maxLen; omega
      have L2 : Hid (((ys ++ low q n).length + 1) * 1 ≤ 140737488355328) := by show _ ≤ _; omega
      replace hlen := Lib.hid hlen
      have hMl2 : (M : Int) ≤ 18446744073709551615 := by omega
      have hM0 : (0 : Int) ≤ M := Int.natCast_nonneg _
      clear hMl hz
      go_wp2_with (at_builtin; refine wpList_append_three _ rfl _ _ 30 rfl base 5 i0 (.int .u8 0) 1 1 Try.underlying30 hi hz0 hz1 hz2 rfl (by decide) _ _ _ rfl OA.out ⟨wr.heap.size, 0, none⟩ 1 1 [.int .u8 (B : Int)] rfl rfl (one_cell _ _ _) (by intro x hx; rw [List.mem_singleton.1 hx]; rfl) L1.out L2.out hbw ?_; intro v2 w2 own hg hb2)
      refine ⟨⟨q + 1, v2, by omega, by go_num, rfl, by rw [DS.out, Int.natCast_ediv]; rfl, ?_⟩, by simp [intOf]; omega⟩
      show Ext _ _ _ _ _ _
      rw [LS.out, ← List.append_assoc]
      exact X.out.trans (Ext.app (.cells #[.int .u8 (B : Int)] 5) rfl own.out hg.out hb2.out)
    · obtain rfl : q = k := by omega
      go_wp2_with fail
      go_ret
      exact ⟨_, rfl, X⟩

theorem or_next (n b : Nat) (hn : n < 72057594037927936) (hb : b < 256) : bits .or .u64 ((n : Int) * 256) (b : Int) = ((b + 256 * n : Nat) : Int) := by
  rw [show ((n : Int) * 256) = ((n * 256 : Nat) : Int) by omega, u64_or_nat (n * 256) b (by omega) (by omega)]
  congr 1
  rw [show n * 256 = 2 ^ 8 * n by omega, ← Nat.two_pow_add_eq_or_of_lt (show b < 2 ^ 8 from hb)]
  omega

theorem rd_step {xs : List Nat} {at_ q k b : Nat} (hq : q < k) (hb : xs[at_ + q]? = some b) : rd xs (at_ + q) (k - q) = b + 256 * rd xs (at_ + (q + 1)) (k - (q + 1)) := by
  have hl : at_ + q < xs.length := (List.getElem?_eq_some_iff.1 hb).1
  have he : xs[at_ + q] = b := (List.getElem?_eq_some_iff.1 hb).2
  unfold rd
  rw [List.drop_eq_getElem_cons hl, he, show k - q = (k - (q + 1)) + 1 by omega, List.take_succ_cons, val]
  rfl

set_option maxHeartbeats 2000000 in
set_option maxRecDepth 100000 in
theorem rget_any (v : Value) (xs : List Int) (at_ k : Nat) (w : World) (h : Sl w v xs) (hby : By xs) (hk : k ≤ 8) (hat : at_ + k ≤ xs.length) (hx : xs.length ≤ 1000000) :
    Calls Try.prog 71 #[v, .int .i64 at_, .int .i64 k] w fun e w' => e = .returned (.int .u64 (rd (nats xs) at_ k : Nat)) ∧ Hid (Chg [] w w') := by
  obtain ⟨ao, c, rfl⟩ := h.slice
  have H := Lib.hid h
  have BY := Lib.hid hby
  clear h hby
  have hk0 : (0 : Int) ≤ k := Int.natCast_nonneg _
  have ha0 : (0 : Int) ≤ at_ := Int.natCast_nonneg _
  have Z0 : Hid (rd (nats xs) (at_ + k) (k - k) = 0) := by
    show _ = _
    rw [Nat.sub_self]
    simp [rd, val]
  go_enter Try.func71, Try.ntmps71
  go_wp2_with fail
  go_loopw [7, 8] (fun n i wr => ∃ q : Nat, q ≤ k ∧ i = .int .i64 ((q : Int) - 1) ∧ n = .int .u64 ((rd (nats xs) (at_ + q) (k - q) : Nat) : Int) ∧ Hid (Chg [] w wr)) (fun _ i _ => (intOf i + 1).toNat)
  case atStart => exact ⟨k, Nat.le_refl _, rfl, by rw [Z0.out]; rfl, Chg.refl _ _⟩
  case round =>
    obtain ⟨q, hq, rfl, rfl, C⟩ := hrel
    clear Z0
    rcases q with _ | m
    · go_wp2_with fail
      go_ret
      refine ⟨?_, C⟩
      rfl
    · obtain ⟨b, hb⟩ : ∃ b, (nats xs)[at_ + m]? = some b := ⟨_, List.getElem?_eq_getElem (by rw [nats_length]; omega)⟩
      have hx0 : xs[at_ + m]? = some (b : Int) := by
        have e := ints_nats BY.out
        rw [← e, ints, List.getElem?_map, hb]
        rfl
      have hbl : b < 256 := nats_bs BY.out _ (List.mem_of_getElem? hb)
      have ST := Lib.hid (rd_step (k := k) (show m < k by omega) hb)
      have hnl : rd (nats xs) (at_ + (m + 1)) (k - (m + 1)) < 72057594037927936 := by
        refine Nat.lt_of_lt_of_le (rd_lt (nats_bs BY.out) _ _) ?_
        exact Nat.le_trans (Nat.pow_le_pow_right (by decide) (show k - (m + 1) ≤ 7 by omega)) (by decide)
      generalize rd (nats xs) (at_ + (m + 1)) (k - (m + 1)) = n at *
      have OR := or_next n b hnl hbl
      have hn0 : (0 : Int) ≤ n := Int.natCast_nonneg _
      have hn1 : (n : Int) < 72057594037927936 := by omega
      have hb0 : (0 : Int) ≤ b := Int.natCast_nonneg _
      have hb1 : (b : Int) ≤ 255 := by omega
      have L : ∃ g o, ao = some ⟨g, o, none⟩ ∧ wr.cell? ⟨g, o + (at_ + m), none⟩ = some (.int .u8 (b : Int)) := by
        rcases H.out.chg C.out (by simp) with ⟨h0, _⟩ | ⟨g, o, c', hv, hbk, hc⟩
        · rw [h0] at hx0; simp at hx0
        · obtain ⟨rfl, rfl⟩ : ao = some ⟨g, o, none⟩ ∧ c = c' := by simpa using hv
          have h1 := hc (at_ + m) (List.getElem?_eq_some_iff.1 hx0).1
          refine ⟨g, o, rfl, ?_⟩
          rw [h1]
          simp [List.getD, hx0]
      obtain ⟨g, o, rfl, hcell⟩ := L
      have hm0 : (0 : Int) ≤ m := Int.natCast_nonneg _
      have hm1 : ((m + 1 : Nat) : Int) - 1 = m := by omega
      obtain ⟨p, hp⟩ : ∃ p, p = at_ + m := ⟨_, rfl⟩
      rw [← hp] at hcell
      have hm2 : (p : Int) < xs.length := by omega
      have hp0 : (0 : Int) ≤ p := Int.natCast_nonneg _
      have hat2 : (at_ : Int) + m = (p : Int) := by omega
      have hp1 : p < xs.length := by omega
      replace hp := Lib.hid hp
      replace hb := Lib.hid hb
      replace hx0 := Lib.hid hx0
      rw [hm1]
      replace hm1 := Lib.hid hm1
      go_wp2_with fail
      exact ⟨⟨m, by omega, rfl, by rw [ST.out, Int.natCast_add, Int.natCast_mul]; rfl, C⟩, by simp only [intOf]; omega⟩


def magicB : List Nat := [83, 80, 74, 76]

theorem magic_ext {w W : World} {v : Value} {base : Nat} (hb : base = w.heap.size) (own : W.ownsRow base 5 1 v (0 + (⟨#[83, 80, 74, 76]⟩ : ByteArray).size) ([] ++ Lib.strCells ⟨#[83, 80, 74, 76]⟩)) (gr : w.grownBy W (Value.slice none 0 0).ownBlock) : Ext base w (.slice none 0 0) magicB W v := by
  have e1 : Lib.strCells ⟨#[83, 80, 74, 76]⟩ = (ints magicB).map (Value.int .u8) := by kernel_rfl
  rw [e1] at own
  refine ⟨own, (Chg.refl _ w).grown gr (fun k hk => .inl (by rw [hk]; simp)), ?_⟩
  rcases h : v.ownBlock with _ | k
  · exact .inl rfl
  · exact .inr ⟨k, rfl, by have := (own.lt k h).1; omega⟩

theorem wp_named2 {P : Program} {c : Code} {Q : Exit → Act → World → Prop} {a : Act} {W : World} (h : ∀ W', W' = W → c.wp P Q a W') : c.wp P Q a W := h W rfl

def lenV : Value → Nat
  | .slice _ n _ => n
  | _ => 0

set_option maxHeartbeats 4000000 in
set_option maxRecDepth 100000 in
theorem rbegun_any (k ep sq : Nat) (w : World) (hk : k < 4294967296) (he : ep < 18446744073709551616) (hs : sq < 18446744073709551616) :
    Calls Try.prog 47 #[.int .i64 k, .int .u64 ep, .int .u64 sq] w fun e w' => ∃ v, e = .returned v ∧ Hid (Ext w.heap.size w (.slice none 0 0) (magicB ++ low 4 k ++ low 8 ep ++ low 8 sq) w' v) := by
  have hk0 : (0 : Int) ≤ k := Int.natCast_nonneg _
  have hk1 : (k : Int) < 4294967296 := by omega
  obtain ⟨i0, hi, hz0, hz1, hz2⟩ := info_parts info_byte
  have hu9 := Try.underlying9
  go_enter Try.func47, Try.ntmps47
  obtain ⟨base, hbase⟩ : ∃ b, b = w.heap.size := ⟨_, rfl⟩
  have hb1 : base ≤ w.heap.size := Nat.le_of_eq hbase
  replace hbase := Lib.hid hbase
  go_upto_region 3 with (at_builtin; refine Lib.wpList_append_own_string _ rfl _ _ 30 9 rfl base 5 i0 Try.underlying30 Try.underlying9 hi hz0 hz1 hz2 (.slice none 0 0) 0 [] rfl (World.ownsRow_nil _ _ _ _) ⟨#[83, 80, 74, 76]⟩ rfl (by decide) (by decide) hb1 ?_; intro v0 W own gr _)
  have E := Lib.hid (magic_ext hbase.out own gr)
  clear own gr
  go_wp2_with fail
  have hzW : base ≤ W.heap.size := Nat.le_trans hb1 E.out.chg.size
  refine (rput_any base _ _ k 4 W hzW E.out.own (by decide) (by omega) (by simp [magicB])).mono ?_
  rintro e W1 ⟨v1, rfl, X⟩
  replace E := Lib.hid (E.out.trans X.out)
  clear X hzW
  go_wp2_with fail
  have hzW1 : base ≤ W1.heap.size := Nat.le_trans hb1 E.out.chg.size
  refine (rput_any base _ _ ep 8 W1 hzW1 E.out.own (by decide) (he) (by simp [low_length, magicB])).mono ?_
  rintro e W2 ⟨v2, rfl, X⟩
  replace E := Lib.hid (E.out.trans X.out)
  clear X hzW1
  go_wp2_with fail
  have hzW2 : base ≤ W2.heap.size := Nat.le_trans hb1 E.out.chg.size
  refine (rput_any base _ _ sq 8 W2 hzW2 E.out.own (by decide) (hs) (by simp [low_length, magicB])).mono ?_
  rintro e W3 ⟨v3, rfl, X⟩
  replace E := Lib.hid (E.out.trans X.out)
  clear X hzW2
  go_wp2_with fail
  go_ret
  have e := E.out
  rw [hbase.out] at e
  exact ⟨_, rfl, e⟩

set_option maxHeartbeats 4000000 in
set_option maxRecDepth 100000 in
theorem rended_any (base : Nat) (v : Value) (ys : List Nat) (w : World) (hb : base ≤ w.heap.size) (O : w.ownsRow base 5 1 v ys.length ((ints ys).map (Value.int .u8))) (hy : ys.length ≤ 124) (hbs : Bs ys) :
    Calls Try.prog 49 #[v] w fun e w' => ∃ v', e = .returned v' ∧ Hid (Ext base w v ((ys ++ List.replicate (124 - ys.length) 0) ++ low 4 (sum (ys ++ List.replicate (124 - ys.length) 0))) w' v') := by
  obtain ⟨i0, hi, hz0, hz1, hz2⟩ := info_parts info_byte
  obtain ⟨a8, c8, rfl⟩ := owns_slice O
  have hL8 : Hid (∀ z, (ys ++ List.replicate z 0).length = ys.length + z) := fun z => by rw [List.length_append, List.length_replicate]
  have E8 : Hid (Ext base w (.slice a8 ys.length c8) (ys ++ List.replicate 0 0) w (.slice a8 ys.length c8)) := by
    show Ext _ _ _ _ _ _
    rw [List.replicate_zero, List.append_nil]
    exact Ext.refl O
  clear O
  replace hbs := Lib.hid hbs
  go_enter Try.func49, Try.ntmps49
  go_wp2_with fail
  go_loopw [0] (fun b wr => ∃ (z n : Nat) (a9 : Option Addr) (c9 : Nat), n = ys.length + z ∧ n ≤ 124 ∧ b = .slice a9 n c9 ∧ Hid (Ext base w (.slice a8 ys.length c8) (ys ++ List.replicate z 0) wr (.slice a9 n c9))) (fun b _ => 124 - lenV b)
  case atStart => exact ⟨0, _, a8, c8, rfl, hy, rfl, E8⟩
  case round =>
    obtain ⟨z, n, a9, c9, hn, hn2, rfl, E⟩ := hrel
    clear E8
    have hn0 : (0 : Int) ≤ n := Int.natCast_nonneg _
    by_cases hl2 : n < 124
    · have hz := Nat.le_trans hb E.out.chg.size
      have hbw : base ≤ (wr.alloc (.cells #[.int .u8 0] 5)).heap.size := by simp; omega
      have OA : Hid ((wr.alloc (.cells #[.int .u8 0] 5)).ownsRow base 5 1 (.slice a9 n c9) _ _) := owns_chg E.out.own ((Chg.refl [] wr).alloc _) (by simp)
      have hlen := hL8.out z
      have L1 : Hid ((ys ++ List.replicate z 0).length + 1 ≤ maxLen) := by show _ ≤ _; unfold maxLen; omega
      have L2 : Hid (((ys ++ List.replicate z 0).length + 1) * 1 ≤ 140737488355328) := by show _ ≤ _; omega
      clear hz
      replace hlen := Lib.hid hlen
      replace hn := Lib.hid hn
      have hl3 : (n : Int) < 124 := by omega
      go_wp2_with (at_builtin; refine wpList_append_three _ rfl _ _ 30 rfl base 5 i0 (.int .u8 0) 1 1 Try.underlying30 hi hz0 hz1 hz2 rfl (by decide) _ _ _ rfl OA.out ⟨wr.heap.size, 0, none⟩ 1 1 [.int .u8 0] rfl rfl (one_cell _ _ _) (by intro y hy; rw [List.mem_singleton.1 hy]; rfl) L1.out L2.out hbw ?_; intro v8 w8 own hg hb2)
      obtain ⟨a10, c10, rfl⟩ := owns_slice own.out
      have hlen2 := hlen.out
      have hn3 := hn.out
      refine ⟨⟨z + 1, _, a10, c10, by omega, by omega, rfl, ?_⟩, by simp only [lenV]; omega⟩
      show Ext _ _ _ _ _ _
      rw [List.replicate_succ', ← List.append_assoc]
      exact E.out.trans (Ext.app (zs := [0]) (.cells #[.int .u8 0] 5) rfl own.out hg.out hb2.out)
    · have hz8 : z = 124 - ys.length := by omega
      have h124 : n = 124 := by omega
      subst h124
      have hbl := hL8.out z
      rw [← hn] at hbl
      rw [hz8] at E hbl
      clear hn hn2 hl2 hz8 hn0 hL8
      have hbb : Bs (ys ++ List.replicate (124 - ys.length) 0) := fun x hx => by
        rcases List.mem_append.1 hx with hx | hx
        · exact hbs.out x hx
        · rw [(List.mem_replicate.1 hx).2]; decide
      obtain ⟨bd, hbd⟩ : ∃ bd, bd = ys ++ List.replicate (124 - ys.length) 0 := ⟨_, rfl⟩
      rw [← hbd] at E hbl hbb
      replace hbd := Lib.hid hbd
      have SM := Lib.hid (refSum_any (.slice a9 124 c9) (ints bd) wr (Sl.owned E.out.own) (ints_by hbb) (by rw [ints_length, hbl]; decide))
      rw [nats_ints] at SM
      have hsm : sum bd < 4294967296 := more_lt (by decide) hbb
      obtain ⟨sm, hsme⟩ : ∃ x, x = sum bd := ⟨_, rfl⟩
      rw [← hsme] at SM hsm
      replace hsme := Lib.hid hsme
      replace hbl := Lib.hid hbl
      replace hbb := Lib.hid hbb
      have hs0 : (0 : Int) ≤ sm := Int.natCast_nonneg _
      have hs1 : (sm : Int) < 4294967296 := by omega
      go_wp2_with fail
      refine SM.out.mono ?_
      rintro e w8 ⟨rfl, rfl⟩
      clear SM
      go_wp2_with fail
      have hzr : base ≤ wr.heap.size := Nat.le_trans hb E.out.chg.size
      refine (rput_any base _ _ sm 4 wr hzr E.out.own (by decide) (by omega) (by rw [hbl.out]; decide)).mono ?_
      rintro e w9 ⟨v9, rfl, X⟩
      have Z := Lib.hid (E.out.trans X.out)
      clear X E
      go_wp2_with fail
      go_ret
      refine ⟨_, rfl, ?_⟩
      have z := Z.out
      rw [hsme.out, hbd.out] at z
      exact z

end Go.Proofs.Ytnjemjkjbeingaa
