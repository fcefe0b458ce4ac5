/-
  Escape and Unescape, the document's. By an AI agent.
-/
import Derived.Test.YtnjemjkjbeingaaRcEsc
namespace Go.Proofs.Ytnjemjkjbeingaa
open Go.RowKit Crc

/-- What an append of bytes that are read leaves. -/
theorem ext_of_sl {base : Nat} {w w' : World} {v v' : Value} {ys zs : List Nat} (own : w'.ownsRow base 5 1 v' (ys.length + (ints zs).length) ((ints ys).map (Value.int .u8) ++ (ints zs).map (Value.int .u8))) (hg : w.grownBy w' v.ownBlock)
    (hb : v'.ownBlock = v.ownBlock ∨ (v'.ownBlock = some w.heap.size ∧ w.grownBy w' none)) : Ext base w v (ys ++ zs) w' v' := by
  refine ⟨by rw [ints_app, List.map_append, List.length_append]; rw [ints_length] at own; exact own, (Chg.refl v.ownBlock.toList w).grown hg (fun k hk => .inl (by rw [hk]; simp)), ?_⟩
  rcases hb with e | ⟨e, _⟩
  · exact .inl e
  · exact .inr ⟨_, e, Nat.le_refl _⟩

theorem ext_owns {base : Nat} {w w' : World} {v : Value} {l : List Nat} (h : Ext base w (.slice none 0 0) l w' v) : RcOwn w' base v l ∧ Chg [] w w' := ⟨h.own, h.chg⟩

theorem sl_drop4 {w : World} {g o c : Nat} {b : List Nat} (h : Sl w (.slice (some ⟨g, o, none⟩) 128 c) (ints b)) (hl : b.length = 128) : Sl w (.slice (some ⟨g, o + 4, none⟩) 124 (c - 4)) (ints (b.drop 4)) := by
  rcases h with ⟨h0, _⟩ | ⟨g', o', c', hv, lb, hc⟩
  · have := congrArg List.length h0; rw [ints_length, hl] at this; cases this
  · obtain ⟨⟨rfl, rfl⟩, _, rfl⟩ : (g = g' ∧ o = o') ∧ _ ∧ c = c' := by simpa using hv
    refine .inr ⟨g, o + 4, c - 4, by rw [ints_length, List.length_drop, hl], lb, fun j hj => ?_⟩
    rw [ints_length, List.length_drop, hl] at hj
    rw [Nat.add_assoc, hc (4 + j) (by rw [ints_length]; omega), ints_get, ints_get]
    simp [List.getD]

theorem lit4 (w : World) (a0 a1 a2 a3 : Nat) : Sl (w.alloc (.cells #[.int .u8 (a0 : Int), .int .u8 (a1 : Int), .int .u8 (a2 : Int), .int .u8 (a3 : Int)] 5)) (.slice (some ⟨w.heap.size, 0, none⟩) 4 4) (ints [a0, a1, a2, a3]) := by
  refine .inr ⟨w.heap.size, 0, 4, rfl, by simp, fun j hj => ?_⟩
  have hj4 : j < 4 := hj
  obtain rfl | rfl | rfl | rfl : j = 0 ∨ j = 1 ∨ j = 2 ∨ j = 3 := by omega
  all_goals exact (Blk.made w [.int .u8 (a0 : Int), .int .u8 (a1 : Int), .int .u8 (a2 : Int), .int .u8 (a3 : Int)] _).cell rfl

set_option maxHeartbeats 2000000 in
set_option maxRecDepth 100000 in
theorem rescape_any (v : Value) (b : List Nat) (w : World) (h : Sl w v (ints b)) (hbs : Bs b) (hcap : ∀ ao n c, v = .slice ao n c → n ≤ c) :
    Calls Try.prog 32 #[v] w (EscIs .i64 w b) := by
  unfold EscIs
  by_cases hl : b.length = 128
  case neg =>
    have d1 : escV b = [] := by unfold escV; rw [if_neg hl]
    have d2 : escB b = false := by unfold escB; rw [decide_eq_false hl]; rfl
    have d3 : escE b = 4 := by unfold escE; rw [if_neg hl]
    rw [d1, d2, d3]
    obtain ⟨ao, c, rfl⟩ := h.slice
    rw [ints_length]
    have d : ((b.length : Int) != 128) = true := by simpa using show ¬ (b.length : Int) = 128 by omega
    clear h d1 d2 d3
    go_enter Try.func32, Try.ntmps32
    go_wp2_with fail
    go_ret3
    exact ⟨_, rfl, World.ownsRow_nil _ _ _ _, Chg.refl _ _⟩
  have d1 : escV b = if begOf b magicB = true then List.replicate 4 0 ++ b.drop 4 else b := by unfold escV; rw [if_pos hl]
  have d2 : escB b = begOf b magicB := by unfold escB; rw [decide_eq_true hl]; rfl
  have d3 : escE b = 0 := by unfold escE; rw [if_pos hl]
  rw [d1, d2, d3]
  clear d1 d2 d3
  have L : (ints b).length = 128 := by rw [ints_length, hl]
  rcases h with ⟨h0, _⟩ | ⟨g, o, c, rfl, lb, hc⟩
  · rw [h0] at L; cases L
  rw [L] at hcap ⊢
  have hcp := hcap _ _ _ rfl
  have hcp4 : (4 : Int) ≤ c := by omega
  have hcn : ¬ c = 4 := by omega
  have S0 : Sl w (.slice (some ⟨g, o, none⟩) 128 c) (ints b) := .inr ⟨g, o, c, by rw [L], lb, hc⟩
  have q1 : (convert 30 9 (.slice (some ⟨g, o, none⟩) 4 c)).run Try.prog w = .ok (.string (strOfNums (ints (b.take 4)))) w :=
    run_convert_bytes_arg w 30 5 Try.underlying30 Try.underlying5 g o 4 c (ints (b.take 4)) (by rw [ints_length, List.length_take]; omega) (fun i hi => by
      rw [hc i (by omega), ints_get, ints_get]
      congr 3
      simp [List.getD, hi]) 9 Try.underlying9
  have hM2 : (strOfNums (ints magicB)).toList = [83, 80, 74, 76] := by rw [ByteArray.toList_eq, strOfNums_data]; rfl
  by_cases hm : b.take 4 = magicB
  case neg =>
    have d : ((strOfNums (ints (b.take 4))).toList == [83, 80, 74, 76]) = false := beq_eq_false_iff_ne.2 (fun k => hm (strOfNums_inj (fun y hy => hbs y (List.mem_of_mem_take hy)) magic_bs (k.trans hM2.symm)))
    have bo : begOf b magicB = false := decide_eq_false hm
    rw [bo]
    have L1 : Hid (0 + (ints b).length ≤ maxLen) := by show _ ≤ _; rw [L]; decide
    have L2 : Hid ((0 + (ints b).length) * 1 ≤ 140737488355328) := by show _ ≤ _; rw [L]; decide
    obtain ⟨i0, hi, hz0, hz1, hz2⟩ := info_parts info_byte
    replace S0 := Lib.hid S0
    generalize strOfNums (ints (b.take 4)) = S at *
    clear hm hM2 hc hbs bo hcap L
    go_enter Try.func32, Try.ntmps32
    go_wp2_with (at_builtin; refine wpList_append_sl _ rfl _ _ 30 rfl w.heap.size 5 i0 (.int .u8 0) 1 Try.underlying30 hi hz0 hz1 hz2 rfl (.slice none 0 0) 0 [] rfl (World.ownsRow_nil _ _ _ _) (some ⟨g, o, none⟩) 128 c (ints b) rfl S0.out L1.out L2.out (Nat.le_refl _) ?_; intro v2 w2 own2 hg2 hb2)
    go_ret3
    have E := ext_owns (ext_of_sl (ys := []) own2.out hg2.out hb2.out)
    exact ⟨v2, rfl, E.1, E.2⟩
  have bo : begOf b magicB = true := decide_eq_true hm
  rw [bo]
  rw [hm, magic_str] at q1
  have S4 : Hid (Sl w (.slice (some ⟨g, o + 4, none⟩) 124 (c - 4)) (ints (b.drop 4))) := sl_drop4 S0 hl
  have LD : (ints (b.drop 4)).length = 124 := by rw [ints_length, List.length_drop, hl]
  have L1 : Hid (0 + (ints (List.replicate 4 0)).length ≤ maxLen) := by show _ ≤ _; decide
  have L2 : Hid ((0 + (ints (List.replicate 4 0)).length) * 1 ≤ 140737488355328) := by show _ ≤ _; decide
  have L3 : Hid (0 + (ints (List.replicate 4 0)).length + (ints (b.drop 4)).length ≤ maxLen) := by show _ ≤ _; rw [LD]; decide
  have L4 : Hid ((0 + (ints (List.replicate 4 0)).length + (ints (b.drop 4)).length) * 1 ≤ 140737488355328) := by show _ ≤ _; rw [LD]; decide
  have S5 : Hid (Sl (w.alloc (.cells #[.int .u8 0, .int .u8 0, .int .u8 0, .int .u8 0] 5)) (.slice (some ⟨w.heap.size, 0, none⟩) 4 4) (ints (List.replicate 4 0))) := lit4 w 0 0 0 0
  have hwz : w.heap.size ≤ (w.alloc (.cells #[.int .u8 0, .int .u8 0, .int .u8 0, .int .u8 0] 5)).heap.size := by simp
  obtain ⟨i0, hi, hz0, hz1, hz2⟩ := info_parts info_byte
  clear hm hM2 hc hbs bo hcap L S0 LD
  go_enter Try.func32, Try.ntmps32
  go_upto_region 7 with (at_builtin; refine wpList_append_sl _ rfl _ _ 30 rfl w.heap.size 5 i0 (.int .u8 0) 1 Try.underlying30 hi hz0 hz1 hz2 rfl (.slice none 0 0) 0 [] rfl (World.ownsRow_nil _ _ _ _) (some ⟨w.heap.size, 0, none⟩) 4 4 (ints (List.replicate 4 0)) rfl S5.out L1.out L2.out hwz ?_; intro v1 w1 own1 hg1 hb1)
  have C1 : Hid (Chg [] w w1) := ((Chg.refl [] w).alloc _).grown hg1.out (fun k hk => by cases hk)
  obtain ⟨v1o, v1c, rfl⟩ := owns_slice own1.out
  go_wp2_with (at_builtin; refine wpList_append_sl _ rfl _ _ 30 rfl w.heap.size 5 i0 (.int .u8 0) 1 Try.underlying30 hi hz0 hz1 hz2 rfl _ _ _ rfl own1.out (some ⟨g, o + 4, none⟩) 124 (c - 4) (ints (b.drop 4)) rfl (S4.out.chg C1.out (by simp)) L3.out L4.out C1.out.size ?_; intro v2 w2 own2 hg2 hb2)
  go_ret3
  have E1 := ext_of_sl (ys := []) own1.out hg1.out hb1.out
  have E2 := ext_of_sl (ys := List.replicate 4 0) own2.out hg2.out hb2.out
  exact ⟨v2, rfl, (E1.trans E2).own, ((Chg.refl [] w).alloc _).trans (E1.trans E2).chg⟩

set_option maxHeartbeats 2000000 in
set_option maxRecDepth 100000 in
theorem runescape_any (v : Value) (b : List Nat) (es : Bool) (w : World) (h : Sl w v (ints b)) (hbs : Bs b) (hcap : ∀ ao n c, v = .slice ao n c → n ≤ c) :
    Calls Try.prog 33 #[v, .bool es] w (UneIs .i64 w b es) := by
  unfold UneIs
  by_cases hl : b.length = 128
  case neg =>
    have d1 : uneV b es = [] := by unfold uneV; rw [if_neg hl]
    have d3 : uneE b es = 4 := by unfold uneE; rw [if_neg hl]
    rw [d1, d3]
    obtain ⟨ao, c, rfl⟩ := h.slice
    rw [ints_length]
    have d : ((b.length : Int) != 128) = true := by simpa using show ¬ (b.length : Int) = 128 by omega
    clear h d1 d3
    go_enter Try.func33, Try.ntmps33
    go_wp2_with fail
    go_ret2
    exact ⟨_, rfl, World.ownsRow_nil _ _ _ _, Chg.refl _ _⟩
  have L : (ints b).length = 128 := by rw [ints_length, hl]
  rcases h with ⟨h0, _⟩ | ⟨g, o, c, rfl, lb, hc⟩
  · rw [h0] at L; cases L
  rw [L] at hcap ⊢
  have hcp := hcap _ _ _ rfl
  have hcp4 : (4 : Int) ≤ c := by omega
  have hcn : ¬ c = 4 := by omega
  have S0 : Sl w (.slice (some ⟨g, o, none⟩) 128 c) (ints b) := .inr ⟨g, o, c, by rw [L], lb, hc⟩
  have q1 : (convert 30 9 (.slice (some ⟨g, o, none⟩) 4 c)).run Try.prog w = .ok (.string (strOfNums (ints (b.take 4)))) w :=
    run_convert_bytes_arg w 30 5 Try.underlying30 Try.underlying5 g o 4 c (ints (b.take 4)) (by rw [ints_length, List.length_take]; omega) (fun i hi => by
      rw [hc i (by omega), ints_get, ints_get]
      congr 3
      simp [List.getD, hi]) 9 Try.underlying9
  rcases es with _ | _
  · have d1 : uneV b false = if begOf b magicB = true then [] else b := by unfold uneV; rw [if_pos hl, if_neg (by decide)]
    have d3 : uneE b false = if begOf b magicB = true then 80 else 0 := by unfold uneE; rw [if_pos hl, if_neg (by decide)]
    rw [d1, d3]
    have hM2 : (strOfNums (ints magicB)).toList = [83, 80, 74, 76] := by rw [ByteArray.toList_eq, strOfNums_data]; rfl
    by_cases hm : b.take 4 = magicB
    case neg =>
      have d : ((strOfNums (ints (b.take 4))).toList == [83, 80, 74, 76]) = false := beq_eq_false_iff_ne.2 (fun k => hm (strOfNums_inj (fun y hy => hbs y (List.mem_of_mem_take hy)) magic_bs (k.trans hM2.symm)))
      have bo : begOf b magicB = false := decide_eq_false hm
      rw [bo]
      have L1 : Hid (0 + (ints b).length ≤ maxLen) := by show _ ≤ _; rw [L]; decide
      have L2 : Hid ((0 + (ints b).length) * 1 ≤ 140737488355328) := by show _ ≤ _; rw [L]; decide
      obtain ⟨i0, hi, hz0, hz1, hz2⟩ := info_parts info_byte
      replace S0 := Lib.hid S0
      generalize strOfNums (ints (b.take 4)) = S at *
      clear hm hM2 hc hbs bo hcap L d1 d3
      go_enter Try.func33, Try.ntmps33
      go_wp2_with (at_builtin; refine wpList_append_sl _ rfl _ _ 30 rfl w.heap.size 5 i0 (.int .u8 0) 1 Try.underlying30 hi hz0 hz1 hz2 rfl (.slice none 0 0) 0 [] rfl (World.ownsRow_nil _ _ _ _) (some ⟨g, o, none⟩) 128 c (ints b) rfl S0.out L1.out L2.out (Nat.le_refl _) ?_; intro v2 w2 own2 hg2 hb2)
      go_ret2
      have E := ext_owns (ext_of_sl (ys := []) own2.out hg2.out hb2.out)
      exact ⟨v2, rfl, E.1, E.2⟩
    have bo : begOf b magicB = true := decide_eq_true hm
    rw [bo]
    rw [hm, magic_str] at q1
    clear hm hM2 hc hbs bo hcap L S0 d1 d3
    go_enter Try.func33, Try.ntmps33
    go_wp2_with fail
    go_ret2
    exact ⟨_, rfl, World.ownsRow_nil _ _ _ _, Chg.refl _ _⟩
  · have d1 : uneV b true = if begOf b (List.replicate 4 0) = true then magicB ++ b.drop 4 else [] := by unfold uneV; rw [if_pos hl, if_pos rfl]
    have d3 : uneE b true = if begOf b (List.replicate 4 0) = true then 0 else 80 := by unfold uneE; rw [if_pos hl, if_pos rfl]
    rw [d1, d3]
    have hM2 : (strOfNums (ints (List.replicate 4 0))).toList = [0, 0, 0, 0] := by rw [ByteArray.toList_eq, strOfNums_data]; rfl
    by_cases hm : b.take 4 = List.replicate 4 0
    case neg =>
      have d : ((strOfNums (ints (b.take 4))).toList == [0, 0, 0, 0]) = false := beq_eq_false_iff_ne.2 (fun k => hm (strOfNums_inj (fun y hy => hbs y (List.mem_of_mem_take hy)) zeros_bs (k.trans hM2.symm)))
      have bo : begOf b (List.replicate 4 0) = false := decide_eq_false hm
      rw [bo]
      generalize strOfNums (ints (b.take 4)) = S at *
      clear hm hM2 hc hbs bo hcap L S0 d1 d3
      go_enter Try.func33, Try.ntmps33
      go_wp2_with fail
      go_ret2
      exact ⟨_, rfl, World.ownsRow_nil _ _ _ _, Chg.refl _ _⟩
    have bo : begOf b (List.replicate 4 0) = true := decide_eq_true hm
    rw [bo]
    rw [hm, zeros_str] at q1
    obtain ⟨i0, hi, hz0, hz1, hz2⟩ := info_parts info_byte
    have C0 : Hid (∀ v1 w1, w1.ownsRow w.heap.size 5 1 v1 (0 + (⟨#[83, 80, 74, 76]⟩ : ByteArray).size) ([] ++ Lib.strCells ⟨#[83, 80, 74, 76]⟩) → w.grownBy w1 (Value.slice none 0 0).ownBlock → Ext w.heap.size w (.slice none 0 0) magicB w1 v1) := fun v1 w1 h1 h2 => magic_ext rfl h1 h2
    have S4 : Hid (Sl w (.slice (some ⟨g, o + 4, none⟩) 124 (c - 4)) (ints (b.drop 4))) := sl_drop4 S0 hl
    have LD : (ints (b.drop 4)).length = 124 := by rw [ints_length, List.length_drop, hl]
    have L3 : Hid (magicB.length + (ints (b.drop 4)).length ≤ maxLen) := by show _ ≤ _; rw [LD]; decide
    have L4 : Hid ((magicB.length + (ints (b.drop 4)).length) * 1 ≤ 140737488355328) := by show _ ≤ _; rw [LD]; decide
    clear hm hM2 hc hbs bo hcap L S0 d1 d3 LD
    go_enter Try.func33, Try.ntmps33
    go_upto_region 11 with (at_builtin; refine Lib.wpList_append_own_string _ rfl _ _ 30 9 rfl w.heap.size 5 i0 Try.underlying30 Try.underlying9 hi hz0 hz1 hz2 (.slice none 0 0) 0 [] rfl (World.ownsRow_nil _ _ _ _) ⟨#[83, 80, 74, 76]⟩ rfl (by decide) (by decide) (Nat.le_refl _) ?_; intro v1 w1 own gr _)
    have E1 := Lib.hid (C0.out _ _ own gr)
    clear own gr C0
    obtain ⟨v1o, v1c, rfl⟩ := owns_slice E1.out.own
    go_wp2_with (at_builtin; refine wpList_append_sl _ rfl _ _ 30 rfl w.heap.size 5 i0 (.int .u8 0) 1 Try.underlying30 hi hz0 hz1 hz2 rfl _ _ _ rfl E1.out.own (some ⟨g, o + 4, none⟩) 124 (c - 4) (ints (b.drop 4)) rfl (S4.out.chg E1.out.chg (fun _ _ h => by cases h)) L3.out L4.out E1.out.chg.size ?_; intro v2 w2 own2 hg2 hb2)
    go_ret2
    have E2 := ext_of_sl (ys := magicB) own2.out hg2.out hb2.out
    exact ⟨v2, rfl, (E1.out.trans E2).own, (E1.out.trans E2).chg⟩

end Go.Proofs.Ytnjemjkjbeingaa
