/-
  The document's Kind of a record. By an AI agent.
-/
import Derived.Test.YtnjemjkjbeingaaRcPut
import Derived.Laws.BytesArg
namespace Go.Proofs.Ytnjemjkjbeingaa
open Crc Go.RowKit

/-- What a sector looks like. -/
def kindOf (b : List Nat) : Nat := if b.length = 128 ∧ b.take 4 = magicB ∧ 1 ≤ b.getD 4 0 ∧ b.getD 4 0 ≤ 3 then b.getD 4 0 else 0

theorem strOfNums_inj {a b : List Nat} (ha : Bs a) (hb : Bs b) (h : (strOfNums (ints a)).toList = (strOfNums (ints b)).toList) : a = b := by
  have h1 : (strOfNums (ints a)).data.toList = (strOfNums (ints b)).data.toList := by rw [← ByteArray.toList_eq, ← ByteArray.toList_eq, h]
  rw [strOfNums_data, strOfNums_data] at h1
  unfold ints at h1
  rw [List.map_map, List.map_map] at h1
  have h2 := congrArg (List.map UInt8.toNat) h1
  rw [List.map_map, List.map_map] at h2
  have k : ∀ l : List Nat, Bs l → l.map (UInt8.toNat ∘ ((fun n : Int => UInt8.ofNat n.toNat) ∘ fun x : Nat => (x : Int))) = l := fun l hl => by
    conv => rhs; rw [← List.map_id l]
    refine List.map_congr_left (fun x hx => ?_)
    have := hl x hx
    simp
    omega
  exact (k a ha).symm.trans (h2.trans (k b hb))

set_option maxHeartbeats 2000000 in
set_option maxRecDepth 100000 in
theorem rkind_any (v : Value) (b : List Nat) (w : World) (h : Sl w v (ints b)) (hbs : Bs b) (hcap : ∀ ao n c, v = .slice ao n c → n ≤ c) :
    Calls Try.prog 28 #[v] w fun e w' => e = .returned (.int .u8 (kindOf b : Nat)) ∧ w = w' := by
  by_cases hl : b.length = 128
  case neg =>
    have d : kindOf b = 0 := by unfold kindOf; rw [if_neg (fun k => hl k.1)]
    rw [d]
    obtain ⟨ao, c, rfl⟩ := h.slice
    rw [ints_length]
    have d2 : ¬ (b.length : Int) = 128 := by omega
    have d3 : ((b.length : Int) == 128) = false := by simpa using d2
    clear h d
    go_enter Try.func28, Try.ntmps28
    go_wp2_with fail
    go_ret
    exact ⟨by first | rfl | simp, rfl⟩
  rcases h with ⟨h0, _⟩ | ⟨g, o, c, rfl, lb, hc⟩
  · have := congrArg List.length h0; rw [ints_length, hl] at this; cases this
  have hcp := hcap _ _ _ rfl
  rw [ints_length, hl] at hcp hc ⊢
  have hcp4 : 4 ≤ c := by omega
  have q1 : (convert 30 9 (.slice (some ⟨g, o, none⟩) 4 c)).run Try.prog w = .ok (.string (strOfNums (ints (b.take 4)))) w :=
    run_convert_bytes_arg w 30 5 Try.underlying30 Try.underlying5 g o 4 c (ints (b.take 4)) (by rw [ints_length, List.length_take]; omega) (fun i hi => by
      rw [hc i (by omega), ints_get, ints_get]
      congr 3
      simp [List.getD, List.getElem?_take, hi]) 9 Try.underlying9
  have e4 : w.cell? ⟨g, o + 4, none⟩ = some (.int .u8 ((b.getD 4 0 : Nat) : Int)) := by rw [hc 4 (by omega), ints_get]
  have hx : b.getD 4 0 < 256 := by
    rw [show b.getD 4 0 = b[4]'(by omega) from by simp [List.getD, List.getElem?_eq_getElem (show 4 < b.length by omega)]]
    exact hbs _ (List.getElem_mem _)
  have KD : kindOf b = if b.take 4 = magicB ∧ 1 ≤ b.getD 4 0 ∧ b.getD 4 0 ≤ 3 then b.getD 4 0 else 0 := by
    unfold kindOf
    simp only [hl, true_and]
  rw [KD]
  clear KD hcap
  generalize b.getD 4 0 = x at *
  have hx0 : (0 : Int) ≤ x := Int.natCast_nonneg _
  have hM : strOfNums (ints magicB) = ⟨#[83, 80, 74, 76]⟩ := by kernel_rfl
  by_cases hm : b.take 4 = magicB
  case neg =>
    have hM2 : (strOfNums (ints magicB)).toList = [83, 80, 74, 76] := by rw [ByteArray.toList_eq, strOfNums_data]; rfl
    have d : ¬ (strOfNums (ints (b.take 4))).toList = [83, 80, 74, 76] := fun k => hm (strOfNums_inj (fun y hy => hbs y (List.mem_of_mem_take hy)) (by unfold Bs magicB; decide) (k.trans hM2.symm))
    rw [if_neg (fun k => hm k.1)]
    generalize strOfNums (ints (b.take 4)) = S at *
    clear hm hM hM2 hc hbs
    go_enter Try.func28, Try.ntmps28
    go_wp2_with fail
    go_ret
    exact ⟨by first | rfl | simp, rfl⟩
  rw [hm, hM] at q1
  clear hM hc hbs
  by_cases h1 : 1 ≤ x
  case neg =>
    rw [if_neg (fun k => h1 k.2.1)]
    have k1 : (x : Int) < 1 := by omega
    go_enter Try.func28, Try.ntmps28
    go_wp2_with fail
    go_ret
    exact ⟨by first | rfl | simp, rfl⟩
  have k1 : ¬ (x : Int) < 1 := by omega
  by_cases h3 : x ≤ 3
  case neg =>
    rw [if_neg (fun k => h3 k.2.2)]
    have k3 : (3 : Int) < x := by omega
    go_enter Try.func28, Try.ntmps28
    go_wp2_with fail
    go_ret
    exact ⟨by first | rfl | simp, rfl⟩
  rw [if_pos ⟨hm, h1, h3⟩]
  have k3 : ¬ (3 : Int) < x := by omega
  go_enter Try.func28, Try.ntmps28
  go_wp2_with fail
  go_ret
  exact ⟨by first | rfl | simp, rfl⟩

/-- The errors that all three have. -/
def lookOf (k : Nat) (b : List Nat) : Int := if b.length ≠ 128 then 4 else if kindOf b ≠ k then 80 else if rd b 124 4 ≠ sum (b.take 124) then 81 else 0

theorem kindOf_le (b : List Nat) : kindOf b ≤ 3 := by
  unfold kindOf
  split
  next h => exact h.2.2.2
  next => decide

set_option maxHeartbeats 2000000 in
set_option maxRecDepth 100000 in
theorem rlooks_any (v : Value) (b : List Nat) (k : Nat) (w : World) (hk : k ≤ 3) (h : Sl w v (ints b)) (hbs : Bs b) (hcap : ∀ ao n c, v = .slice ao n c → n ≤ c) :
    Calls Try.prog 70 #[v, .int .u8 k] w fun e w' => e = .returned (.int .i64 (lookOf k b)) ∧ Hid (Chg [] w w') := by
  have KI := Lib.hid (rkind_any v b w h hbs hcap)
  have hkk := kindOf_le b
  by_cases hl : b.length = 128
  case neg =>
    have d : lookOf k b = 4 := by unfold lookOf; rw [if_pos hl]
    rw [d]
    clear d KI
    obtain ⟨ao, c, rfl⟩ := h.slice
    rw [ints_length]
    have d2 : ¬ (b.length : Int) = 128 := by omega
    have d3 : ((b.length : Int) == 128) = false := by simpa using d2
    clear h
    go_enter Try.func70, Try.ntmps70
    go_wp2_with fail
    go_ret
    exact ⟨by first | rfl | simp, Chg.refl _ _⟩
  have LK : lookOf k b = if kindOf b ≠ k then 80 else if rd b 124 4 ≠ sum (b.take 124) then 81 else 0 := by unfold lookOf; rw [if_neg (by omega)]
  rw [LK]
  clear LK
  obtain ⟨ao, c, rfl⟩ := h.slice
  have hcp := hcap _ _ _ rfl
  have SP : Hid (Sl w (.slice ao 124 c) (ints (b.take 124))) := by
    have h1 := Sl.pre (n := (ints b).length) (c := c) h 124 (by rw [ints_length]; omega)
    rw [show (ints b).take 124 = ints (b.take 124) from by simp [ints]] at h1
    exact h1
  have hb4 : Bs (b.take 124) := fun x hx => hbs x (List.mem_of_mem_take hx)
  have SM := Lib.hid (refSum_any (.slice ao 124 c) (ints (b.take 124)) w SP.out (ints_by hb4) (by rw [ints_length, List.length_take]; omega))
  have GT := Lib.hid (rget_any (.slice ao (ints b).length c) (ints b) 124 4 w h (ints_by hbs) (by decide) (by rw [ints_length]; omega) (by rw [ints_length]; omega))
  rw [nats_ints] at SM GT
  have hsm : sum (b.take 124) < 4294967296 := more_lt (by decide) hb4
  have hrd : rd b 124 4 < 4294967296 := rd_lt hbs 124 4
  rw [ints_length, hl] at KI GT hcp ⊢
  generalize sum (b.take 124) = sm at *
  generalize rd b 124 4 = gt at *
  generalize kindOf b = kd at *
  have hcp4 : 124 ≤ c := by omega
  have s0 : (0 : Int) ≤ sm := Int.natCast_nonneg _
  have s1 : (sm : Int) < 4294967296 := by omega
  clear h hcap SP hb4
  by_cases c1 : kd = k
  case neg =>
    rw [if_pos c1]
    have d : ¬ (kd : Int) = k := by omega
    have kd0 : (0 : Int) ≤ kd ∧ (kd : Int) ≤ 3 := by omega
    have k0 : (0 : Int) ≤ k ∧ (k : Int) ≤ 3 := by omega
    clear c1 SM GT hsm hrd s0 s1
    go_enter Try.func70, Try.ntmps70
    go_wp2_with fail
    refine KI.out.mono ?_
    rintro e w1 ⟨rfl, rfl⟩
    go_wp2_with fail
    go_ret
    exact ⟨by first | rfl | simp, Chg.refl _ _⟩
  subst c1
  rw [if_neg (by simp)]
  by_cases c2 : gt = sm
  case pos =>
    subst c2
    rw [if_neg (by simp)]
    go_enter Try.func70, Try.ntmps70
    go_wp2_with fail
    refine KI.out.mono ?_
    rintro e w1 ⟨rfl, rfl⟩
    go_wp2_with fail
    refine SM.out.mono ?_
    rintro e w1 ⟨rfl, rfl⟩
    go_wp2_with fail
    refine GT.out.mono ?_
    rintro e w2 ⟨rfl, C⟩
    clear KI SM GT
    go_wp2_with fail
    go_ret
    exact ⟨by first | rfl | simp, C⟩
  case neg =>
    rw [if_pos c2]
    have d : ¬ (gt : Int) = sm := by omega
    clear c2
    go_enter Try.func70, Try.ntmps70
    go_wp2_with fail
    refine KI.out.mono ?_
    rintro e w1 ⟨rfl, rfl⟩
    go_wp2_with fail
    refine SM.out.mono ?_
    rintro e w1 ⟨rfl, rfl⟩
    go_wp2_with fail
    refine GT.out.mono ?_
    rintro e w2 ⟨rfl, C⟩
    have hw : IntKind.u64.wrap (sm : Int) = sm := IntWalk.u64_in _ ⟨s0, by omega⟩
    have d3 : ((gt : Int) != (sm : Int)) = true := by simpa using d
    clear KI SM GT hsm hrd hkk hk s0 s1 d
    go_wp2_with fail
    go_ret
    exact ⟨by first | rfl | simp, C⟩


theorem str_conv (w : World) (g o c : Nat) (b : List Nat) (h : Sl w (.slice (some ⟨g, o, none⟩) b.length c) (ints b)) (hl : 0 < b.length) :
    (convert 30 9 (.slice (some ⟨g, o, none⟩) b.length c)).run Try.prog w = .ok (.string (strOfNums (ints b))) w := by
  rcases h with ⟨h0, _⟩ | ⟨g', o', c', hv, lb, hc⟩
  · have := congrArg List.length h0; rw [ints_length] at this; rw [this] at hl; cases hl
  · obtain ⟨⟨rfl, rfl⟩, _, rfl⟩ : (g = g' ∧ o = o') ∧ _ ∧ c = c' := by simpa using hv
    exact run_convert_bytes_arg w 30 5 Try.underlying30 Try.underlying5 g o b.length c (ints b) (by rw [ints_length]) (fun i hi => hc i (by rw [ints_length]; exact hi)) 9 Try.underlying9

theorem str_pre (w : World) (g o c n m : Nat) (b : List Nat) (h : Sl w (.slice (some ⟨g, o, none⟩) n c) (ints b)) (hn : b.length = n) (hm : m ≤ n) (h0 : 0 < m) :
    (convert 30 9 (.slice (some ⟨g, o, none⟩) m c)).run Try.prog w = .ok (.string (strOfNums (ints (b.take m)))) w := by
  subst hn
  have e : (b.take m).length = m := by rw [List.length_take]; omega
  have h1 := Sl.pre (n := b.length) (c := c) (by exact h) m hm
  rw [show (ints b).take m = ints (b.take m) from by simp [ints]] at h1
  have := str_conv w g o c (b.take m) (by rw [e]; exact h1) (by omega)
  rw [e] at this
  exact this

end Go.Proofs.Ytnjemjkjbeingaa
