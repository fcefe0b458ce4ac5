/-
  The document's bytes of a number, put behind others. By an AI agent.
-/
import Derived.Test.YtbeejoooefgeaaaSpBytes
import Derived.Test.YtbeejoooefgeaaaGAppend
import Derived.Test.YtbeejoooefgeaaaLeArith
namespace Go.Proofs.Ytbeejoooefgeaaa
open Go.RowKit Crc

/-- A list of bytes that is grown. -/
structure Ext (base : Nat) (w : World) (v : Value) (ys : List Nat) (w' : World) (v' : Value) : Prop where
  own : w'.ownsRow base 5 1 v' ys.length ((ints ys).map (Value.int .u8))
  chg : Chg v.ownBlock.toList w w'
  blk : v'.ownBlock = v.ownBlock ∨ ∃ k, v'.ownBlock = some k ∧ w.heap.size ≤ k

theorem Ext.trans {base : Nat} {w w1 w2 : World} {v v1 v2 : Value} {ys zs : List Nat} (h : Ext base w v ys w1 v1) (k : Ext base w1 v1 zs w2 v2) : Ext base w v zs w2 v2 := by
  refine ⟨k.own, h.chg.fresh k.chg (fun j hj => ?_), ?_⟩
  · rcases h.blk with e | ⟨q, e, hq⟩
    · rw [e] at hj; exact .inl hj
    · rw [e] at hj
      have : j = q := by simpa using hj
      exact .inr (by omega)
  · rcases k.blk with e | ⟨q, e, hq⟩
    · rcases h.blk with e2 | ⟨q2, e2, hq2⟩
      · exact .inl (e.trans e2)
      · exact .inr ⟨q2, e.trans e2, hq2⟩
    · exact .inr ⟨q, e, Nat.le_trans h.chg.size hq⟩

theorem Ext.refl {base : Nat} {w : World} {v : Value} {ys : List Nat} (h : w.ownsRow base 5 1 v ys.length ((ints ys).map (Value.int .u8))) : Ext base w v ys w v := ⟨h, Chg.refl _ _, .inl rfl⟩

/-- What an append made of it, the bytes appended lying in a block that was made ahead. -/
theorem Ext.app {base : Nat} {w W w' : World} {v v' : Value} {ys zs : List Nat} (o : Obj) (hW : W = w.alloc o) (own : w'.ownsRow base 5 1 v' (ys.length + zs.length) ((ints ys).map (Value.int .u8) ++ (ints zs).map (Value.int .u8))) (hg : W.grownBy w' v.ownBlock)
    (hb : v'.ownBlock = v.ownBlock ∨ (v'.ownBlock = some W.heap.size ∧ W.grownBy w' none)) : Ext base w v (ys ++ zs) w' v' := by
  subst hW
  refine ⟨by rw [ints_app, List.map_append, List.length_append]; exact own, ((Chg.refl v.ownBlock.toList w).alloc o).grown hg (fun k hk => .inl (by rw [hk]; simp)), ?_⟩
  rcases hb with e | ⟨e, _⟩
  · exact .inl e
  · exact .inr ⟨_, e, by simp⟩

theorem one_cell (w : World) (x : Value) (e : TypeId) : ∀ j u, [x][j]? = some u → (w.alloc (.cells #[x] e)).cell? ((⟨w.heap.size, 0, none⟩ : Addr).add j) = some u := by
  intro j u hj
  have := (Blk.made w [x] e).cell hj
  rw [Addr.add_lit, Nat.zero_add]
  exact this

theorem info_byte : (Try.prog.info? 5).map (fun i => (i.zero, i.size, i.bytes)) = some (some (.int .u8 0), 1, 1) := by kernel_rfl

set_option maxHeartbeats 2000000 in
set_option maxRecDepth 100000 in
theorem refPut_any (base : Nat) (v : Value) (ys : List Nat) (n k : Nat) (w : World) (hb : base ≤ w.heap.size) (O : w.ownsRow base 5 1 v ys.length ((ints ys).map (Value.int .u8))) (hk : k ≤ 8) (hn : n < 18446744073709551616) (hy : ys.length ≤ 1000) :
    Calls Try.prog 28 #[v, .int .u64 n, .int .i64 k] w fun e w' => ∃ v', e = .returned v' ∧ Hid (Ext base w v (ys ++ low k n) w' v') := by
  obtain ⟨i0, hi, hz0, hz1, hz2⟩ := info_parts info_byte
  have X0 : Hid (Ext base w v (ys ++ low 0 n) w v) := by
    show Ext _ _ _ _ _ _
    rw [show ys ++ low 0 n = ys from List.append_nil _]
    exact Ext.refl O
  clear O
  have hk0 : (0 : Int) ≤ k := Int.natCast_nonneg _
  have D0 : Hid (n / 256 ^ 0 = n) := by show _ = _; simp
  go_enter Try.func28, Try.ntmps28
  go_wp2_with fail
  go_loopw [0, 1, 7] (fun t m i wr => ∃ (q : Nat) (u : Value), q ≤ k ∧ i = .int .i64 q ∧ t = u ∧ m = .int .u64 ((n / 256 ^ q : Nat) : Int) ∧ Hid (Ext base w v (ys ++ low q n) wr u)) (fun _ _ i _ => k - (intOf i).toNat)
  case atStart => exact ⟨0, v, Nat.zero_le _, rfl, rfl, by rw [D0.out], X0⟩
  case round =>
    obtain ⟨q, u, hq, rfl, rfl, rfl, X⟩ := hrel
    clear X0 D0
    by_cases hlt : q < k
    · have hq0 : (0 : Int) ≤ q := Int.natCast_nonneg _
      have hq1 : (q : Int) < k := by omega
      obtain ⟨M, hM⟩ : ∃ M, M = n / 256 ^ q := ⟨_, rfl⟩
      have LS := Lib.hid (low_snoc q n)
      rw [← hM] at LS ⊢
      have hMl : M ≤ n := by rw [hM]; exact Nat.div_le_self _ _
      have DS : Hid (n / 256 ^ (q + 1) = M / 256) := by show _ = _; rw [hM, Nat.pow_succ, Nat.div_div_eq_div_mul]
      replace hM := Lib.hid hM
      have hand : bits .and .u64 (M : Int) 255 = ((M % 256 : Nat) : Int) := by
        rw [and_low (M : Int) 8 255 (by decide) (by decide) (by omega) (by omega)]
        rfl
      have hz := X.out.chg.size
      have hbw : base ≤ (wr.alloc (.cells #[.int .u8 ((M % 256 : Nat) : Int)] 5)).heap.size := by simp; omega
      have OA : Hid ((wr.alloc (.cells #[.int .u8 ((M % 256 : Nat) : Int)] 5)).ownsRow base 5 1 u0 (ys ++ low q n).length ((ints (ys ++ low q n)).map (Value.int .u8))) := owns_chg X.out.own ((Chg.refl [] wr).alloc _) (by simp)
      have hlen : (ys ++ low q n).length = ys.length + q := by rw [List.length_append, low_length]
      have hq7 : q ≤ 8 := by omega
      obtain ⟨B, hB⟩ : ∃ B, B = M % 256 := ⟨_, rfl⟩
      rw [← hB] at hand hbw OA LS
      have hB0 : (0 : Int) ≤ B := Int.natCast_nonneg _
      have hB1 : (B : Int) ≤ 255 := by omega
      replace hB := Lib.hid hB
      have L1 : Hid ((ys ++ low q n).length + 1 ≤ maxLen) := by show _ ≤ _; unfold maxLen; omega
      have L2 : Hid (((ys ++ low q n).length + 1) * 1 ≤ 140737488355328) := by show _ ≤ _; omega
      replace hlen := Lib.hid hlen
      have hMl2 : (M : Int) ≤ 18446744073709551615 := by omega
      have hM0 : (0 : Int) ≤ M := Int.natCast_nonneg _
      clear hMl hz
      go_wp2_with (at_builtin; refine wpList_append_three _ rfl _ _ 32 rfl base 5 i0 (.int .u8 0) 1 1 Try.underlying32 hi hz0 hz1 hz2 rfl (by decide) _ _ _ rfl OA.out ⟨wr.heap.size, 0, none⟩ 1 1 [.int .u8 (B : Int)] rfl rfl (one_cell _ _ _) (by intro x hx; rw [List.mem_singleton.1 hx]; rfl) L1.out L2.out hbw ?_; intro v2 w2 own hg hb2)
      refine ⟨⟨q + 1, v2, by omega, by go_num, rfl, by rw [DS.out, Int.natCast_ediv]; rfl, ?_⟩, by simp [intOf]; omega⟩
      show Ext _ _ _ _ _ _
      rw [LS.out, ← List.append_assoc]
      exact X.out.trans (Ext.app (.cells #[.int .u8 (B : Int)] 5) rfl own.out hg.out hb2.out)
    · obtain rfl : q = k := by omega
      go_wp2_with fail
      go_ret
      exact ⟨_, rfl, X⟩

end Go.Proofs.Ytbeejoooefgeaaa
