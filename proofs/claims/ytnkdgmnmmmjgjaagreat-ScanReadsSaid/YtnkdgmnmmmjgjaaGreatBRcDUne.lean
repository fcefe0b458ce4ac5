/-
  The document's Unescape. By an AI agent.
-/
import Derived.Test.YtnkdgmnmmmjgjaaGreatBRcEsc
namespace Go.Proofs.YtnkdgmnmmmjgjaaGreat
open Go.RowKit Crc

set_option maxHeartbeats 2000000 in
set_option maxRecDepth 100000 in
theorem runescape_any (v : Value) (b : List Nat) (es : Bool) (w : World) (h : Sl w v (ints b)) (hbs : Bs b) (hcap : ∀ ao n c, v = .slice ao n c → n ≤ c) :
    Calls Tryz.prog 82 #[v, .bool es] w (UneIs .i64 w b es) := by
  unfold UneIs
  by_cases hl : b.length = 128
  case neg =>
    have d1 : uneV b es = [] := by unfold uneV; rw [if_neg hl]
    have d3 : uneE b es = 4 := by unfold uneE; rw [if_neg hl]
    rw [d1, d3]
    obtain ⟨ao, c, rfl⟩ := h.slice
    rw [ints_length]
    have d : ((b.length : Int) != 128) = true := by simpa using show ¬ (b.length : Int) = 128 by omega
    clear h d1 d3
    go_enter Tryz.func82, Tryz.ntmps82
    go_wp2_with fail
    go_ret2
    exact ⟨_, rfl, World.ownsRow_nil _ _ _ _, Chg.refl _ _⟩
  have L : (ints b).length = 128 := by rw [ints_length, hl]
  rcases h with ⟨h0, _⟩ | ⟨g, o, c, rfl, lb, hc⟩
  · rw [h0] at L; cases L
  rw [L] at hcap ⊢
  have hcp := hcap _ _ _ rfl
  have hcp4 : (4 : Int) ≤ c := by omega
  have hcn : ¬ c = 4 := by omega
  have S0 : Sl w (.slice (some ⟨g, o, none⟩) 128 c) (ints b) := .inr ⟨g, o, c, by rw [L], lb, hc⟩
  have q1 : (convert 55 9 (.slice (some ⟨g, o, none⟩) 4 c)).run Tryz.prog w = .ok (.string (strOfNums (ints (b.take 4)))) w :=
    run_convert_bytes_arg w 55 5 Tryz.underlying55 Tryz.underlying5 g o 4 c (ints (b.take 4)) (by rw [ints_length, List.length_take]; omega) (fun i hi => by
      rw [hc i (by omega), ints_get, ints_get]
      congr 3
      simp [List.getD, hi]) 9 Tryz.underlying9
  rcases es with _ | _
  · have d1 : uneV b false = if begOf b magicB = true then [] else b := by unfold uneV; rw [if_pos hl, if_neg (by decide)]
    have d3 : uneE b false = if begOf b magicB = true then 80 else 0 := by unfold uneE; rw [if_pos hl, if_neg (by decide)]
    rw [d1, d3]
    have hM2 : (strOfNums (ints magicB)).toList = [83, 80, 74, 76] := by rw [ByteArray.toList_eq, strOfNums_data]; rfl
    by_cases hm : b.take 4 = magicB
    case neg =>
      have d : ((strOfNums (ints (b.take 4))).toList == [83, 80, 74, 76]) = false := beq_eq_false_iff_ne.2 (fun k => hm (strOfNums_inj (fun y hy => hbs y (List.mem_of_mem_take hy)) magic_bs (k.trans hM2.symm)))
      have bo : begOf b magicB = false := decide_eq_false hm
      rw [bo]
      have L1 : Hid (0 + (ints b).length ≤ maxLen) := by show _ ≤ _; rw [L]; decide
      have L2 : Hid ((0 + (ints b).length) * 1 ≤ 140737488355328) := by show _ ≤ _; rw [L]; decide
      obtain ⟨i0, hi, hz0, hz1, hz2⟩ := info_parts info_byte
      replace S0 := Lib.hid S0
      generalize strOfNums (ints (b.take 4)) = S at *
      clear hm hM2 hc hbs bo hcap L d1 d3
      go_enter Tryz.func82, Tryz.ntmps82
      go_wp2_with (at_builtin; refine wpList_append_sl _ rfl _ _ 55 rfl w.heap.size 5 i0 (.int .u8 0) 1 Tryz.underlying55 hi hz0 hz1 hz2 rfl (.slice none 0 0) 0 [] rfl (World.ownsRow_nil _ _ _ _) (some ⟨g, o, none⟩) 128 c (ints b) rfl S0.out L1.out L2.out (Nat.le_refl _) ?_; intro v2 w2 own2 hg2 hb2)
      go_ret2
      have E := ext_owns (ext_of_sl (ys := []) own2.out hg2.out hb2.out)
      exact ⟨v2, rfl, E.1, E.2⟩
    have bo : begOf b magicB = true := decide_eq_true hm
    rw [bo]
    rw [hm, magic_str] at q1
    clear hm hM2 hc hbs bo hcap L S0 d1 d3
    go_enter Tryz.func82, Tryz.ntmps82
    go_wp2_with fail
    go_ret2
    exact ⟨_, rfl, World.ownsRow_nil _ _ _ _, Chg.refl _ _⟩
  · have d1 : uneV b true = if begOf b (List.replicate 4 0) = true then magicB ++ b.drop 4 else [] := by unfold uneV; rw [if_pos hl, if_pos rfl]
    have d3 : uneE b true = if begOf b (List.replicate 4 0) = true then 0 else 80 := by unfold uneE; rw [if_pos hl, if_pos rfl]
    rw [d1, d3]
    have hM2 : (strOfNums (ints (List.replicate 4 0))).toList = [0, 0, 0, 0] := by rw [ByteArray.toList_eq, strOfNums_data]; rfl
    by_cases hm : b.take 4 = List.replicate 4 0
    case neg =>
      have d : ((strOfNums (ints (b.take 4))).toList == [0, 0, 0, 0]) = false := beq_eq_false_iff_ne.2 (fun k => hm (strOfNums_inj (fun y hy => hbs y (List.mem_of_mem_take hy)) zeros_bs (k.trans hM2.symm)))
      have bo : begOf b (List.replicate 4 0) = false := decide_eq_false hm
      rw [bo]
      generalize strOfNums (ints (b.take 4)) = S at *
      clear hm hM2 hc hbs bo hcap L S0 d1 d3
      go_enter Tryz.func82, Tryz.ntmps82
      go_wp2_with fail
      go_ret2
      exact ⟨_, rfl, World.ownsRow_nil _ _ _ _, Chg.refl _ _⟩
    have bo : begOf b (List.replicate 4 0) = true := decide_eq_true hm
    rw [bo]
    rw [hm, zeros_str] at q1
    obtain ⟨i0, hi, hz0, hz1, hz2⟩ := info_parts info_byte
    have C0 : Hid (∀ v1 w1, w1.ownsRow w.heap.size 5 1 v1 (0 + (⟨#[83, 80, 74, 76]⟩ : ByteArray).size) ([] ++ Lib.strCells ⟨#[83, 80, 74, 76]⟩) → w.grownBy w1 (Value.slice none 0 0).ownBlock → Ext w.heap.size w (.slice none 0 0) magicB w1 v1) := fun v1 w1 h1 h2 => magic_ext rfl h1 h2
    have S4 : Hid (Sl w (.slice (some ⟨g, o + 4, none⟩) 124 (c - 4)) (ints (b.drop 4))) := sl_drop4 S0 hl
    have LD : (ints (b.drop 4)).length = 124 := by rw [ints_length, List.length_drop, hl]
    have L3 : Hid (magicB.length + (ints (b.drop 4)).length ≤ maxLen) := by show _ ≤ _; rw [LD]; decide
    have L4 : Hid ((magicB.length + (ints (b.drop 4)).length) * 1 ≤ 140737488355328) := by show _ ≤ _; rw [LD]; decide
    clear hm hM2 hc hbs bo hcap L S0 d1 d3 LD
    go_enter Tryz.func82, Tryz.ntmps82
    go_upto_region 11 with (at_builtin; refine Lib.wpList_append_own_string _ rfl _ _ 55 9 rfl w.heap.size 5 i0 Tryz.underlying55 Tryz.underlying9 hi hz0 hz1 hz2 (.slice none 0 0) 0 [] rfl (World.ownsRow_nil _ _ _ _) ⟨#[83, 80, 74, 76]⟩ rfl (by decide) (by decide) (Nat.le_refl _) ?_; intro v1 w1 own gr _)
    have E1 := Lib.hid (C0.out _ _ own gr)
    clear own gr C0
    obtain ⟨v1o, v1c, rfl⟩ := owns_slice E1.out.own
    go_wp2_with (at_builtin; refine wpList_append_sl _ rfl _ _ 55 rfl w.heap.size 5 i0 (.int .u8 0) 1 Tryz.underlying55 hi hz0 hz1 hz2 rfl _ _ _ rfl E1.out.own (some ⟨g, o + 4, none⟩) 124 (c - 4) (ints (b.drop 4)) rfl (S4.out.chg E1.out.chg (fun _ _ h => by cases h)) L3.out L4.out E1.out.chg.size ?_; intro v2 w2 own2 hg2 hb2)
    go_ret2
    have E2 := ext_of_sl (ys := magicB) own2.out hg2.out hb2.out
    exact ⟨v2, rfl, (E1.out.trans E2).own, (E1.out.trans E2).chg⟩

end Go.Proofs.YtnkdgmnmmmjgjaaGreat
