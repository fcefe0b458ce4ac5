/-
  RingBack, walked. By an AI agent.
-/
import Derived.Test.YtkkjhlihionlkaaRgLawS
import Derived.Test.YtkkjhlihionlkaaRgSame
namespace Go.Proofs.Ytkkjhlihionlkaa
open Go.RowKit

set_option maxHeartbeats 4000000 in
set_option maxRecDepth 100000 in
theorem ringBack_no (s t u n : Int) (W : World) (h : ∀ w, Calls Try.prog 8 #[.int .i64 s, .int .i64 t, .int .i64 u] w (NoRing w)) :
    Calls Try.prog 6 #[.int .i64 s, .int .i64 t, .int .i64 u, .int .i64 n] W (Holds W) := by
  go_enter Try.func6, Try.ntmps6
  go_wp2_with (first
    | (go_at_call 8; refine (h _).mono ?_; rintro e w' ⟨rfl, rfl⟩)
    | (go_at_call 10; refine (known_any _).mono ?_; rintro e w' ⟨rfl, C⟩))
  go_ret
  exact ⟨rfl, C.out⟩

set_option maxHeartbeats 4000000 in
set_option maxRecDepth 100000 in
theorem ringBack_bad {S t u : Nat} (h : Rg S t u) (n : Int) (er : Int) (her : er = 1 ∨ er = 90) (hn : (n < 0) ∨ (0 ≤ n ∧ ((S - u : Nat) : Int) < n)) (TK : ∀ R w, RingB w R S t u → Calls Try.prog 20 #[.pointer (some ⟨R, 0, none⟩), .int .i64 n] w (Refused w er)) (W : World) :
    Calls Try.prog 6 #[.int .i64 (S : Int), .int .i64 (t : Int), .int .i64 (u : Int), .int .i64 n] W (Holds W) := by
  have LV : Hid (∀ R w, RingB w R S t u → Calls Try.prog 17 #[.pointer (some ⟨R, 0, none⟩)] w fun e w' => ∃ v, e = .returned v ∧ Hid (SpRow w' w.heap.size v (spn S t u)) ∧ Hid (Chg [] w w')) := fun R w hb => live_any h w hb
  have NW := Lib.hid (new_ok h W)
  have TK := Lib.hid TK
  have e1 : (S : Int) - (u : Int) = ((S - u : Nat) : Int) := by have := h.used; omega
  have hd := h.hi
  have wm := wrap_in (z := ((S - u : Nat) : Int)) (by omega) (by omega)
  have hl : Hid ((spn S t u).length ≤ 1000000000) := Nat.le_trans (spn_len S t u) (by omega)
  obtain ⟨a, ha⟩ : ∃ a : Int, a = ((S - u : Nat) : Int) := ⟨_, rfl⟩
  rw [← ha] at e1 hn wm
  obtain ⟨l, hl'⟩ : ∃ l, l = spn S t u := ⟨_, rfl⟩
  rw [← hl'] at LV hl
  clear h hd ha hl'
  have hle : (er == 0) = false := by rcases her with rfl | rfl <;> rfl
  clear her
  go_enter Try.func6, Try.ntmps6
  go_wp2_with fail
  refine NW.out.mono ?_
  rintro e w1 ⟨rfl, B, C⟩
  have H := Lib.hid ((Side.nil (Chg.refl _ W)).ring B.out C.out)
  clear B C NW
  generalize hR : W.heap.size = R at *
  clear hR
  go_wp2_with (go_at_call 10; refine (known_any _).mono ?_; rintro e w2 ⟨rfl, C⟩; replace H := Lib.hid (H.out.quiet C.out); clear C)
  refine (LV.out _ _ (H.out.get 0 rfl)).mono ?_
  rintro e w3 ⟨v, rfl, O, C⟩
  replace H := Lib.hid (H.out.spans O.out C.out)
  clear O C
  go_wp2_with fail
  refine (TK.out _ _ (H.out.get 1 rfl)).mono ?_
  rintro e w4 ⟨rfl, C⟩
  replace H := Lib.hid (H.out.quiet C.out)
  clear C TK
  obtain ⟨wm1, wm2⟩ := wm
  rcases hn with hn | ⟨h0, hn⟩
  · go_wp2_with fail
    refine (LV.out _ _ (H.out.get 1 rfl)).mono ?_
    rintro e w5 ⟨v2, rfl, O, C⟩
    replace H := Lib.hid (H.out.spans O.out C.out)
    clear O C
    go_wp2_with fail
    refine (same_spans _ _ l _ (H.out.get 1 rfl) (H.out.get 0 rfl) hl.out).mono ?_
    rintro e w6 ⟨rfl, C⟩
    go_wp2_with fail
    go_ret
    exact ⟨rfl, H.out.chg.trans C.out⟩
  · have h00 : ¬ n < 0 := by omega
    go_wp2_with fail
    refine (LV.out _ _ (H.out.get 1 rfl)).mono ?_
    rintro e w5 ⟨v2, rfl, O, C⟩
    replace H := Lib.hid (H.out.spans O.out C.out)
    clear O C
    go_wp2_with fail
    refine (same_spans _ _ l _ (H.out.get 1 rfl) (H.out.get 0 rfl) hl.out).mono ?_
    rintro e w6 ⟨rfl, C⟩
    go_wp2_with fail
    go_ret
    exact ⟨rfl, H.out.chg.trans C.out⟩

set_option maxHeartbeats 4000000 in
set_option maxRecDepth 100000 in
theorem ringBack_ok {S t u : Nat} (h : Rg S t u) (n : Nat) (hn : n ≤ S - u) (W : World) :
    Calls Try.prog 6 #[.int .i64 (S : Int), .int .i64 (t : Int), .int .i64 (u : Int), .int .i64 (n : Int)] W (Holds W) := by
  have hS := h.lo
  have g1 : Rg S t (u + n) := h.more hn
  obtain ⟨f, hf⟩ : ∃ f, f = (t + u) % S := ⟨_, rfl⟩
  obtain ⟨d, hd⟩ : ∃ d, d = (f + n) % S := ⟨_, rfl⟩
  have g2 : Rg S f n := by rw [hf]; exact ⟨h.lo, h.hi, h.head_lt u, by have := h.used; omega⟩
  have g3 : Rg S d 0 := by rw [hd]; exact ⟨h.lo, h.hi, g2.head_lt n, Nat.zero_le _⟩
  have ed : (t + (u + n)) % S = d := by rw [hd, hf, Nat.mod_add_mod, Nat.add_assoc]
  have ed2 : (d + 0) % S = d := Nat.mod_eq_of_lt g3.tail
  obtain ⟨A, hA⟩ : ∃ A, A = spn S t u := ⟨_, rfl⟩
  obtain ⟨B, hB⟩ : ∃ B, B = spn S f n := ⟨_, rfl⟩
  have lA : Hid (A.length ≤ 1000000000) := by rw [hA]; exact Nat.le_trans (spn_len S t u) (by omega)
  have lB : Hid (B.length ≤ 1000000000) := by rw [hB]; exact Nat.le_trans (spn_len S f n) (by omega)
  have NW := Lib.hid (new_ok h W)
  have L1 : Hid (∀ R w, RingB w R S t u → Calls Try.prog 17 #[.pointer (some ⟨R, 0, none⟩)] w fun e w' => ∃ v, e = .returned v ∧ Hid (SpRow w' w.heap.size v A) ∧ Hid (Chg [] w w')) := fun R w hb => by rw [hA]; exact live_any h w hb
  have TK : Hid (∀ R w, RingB w R S t u → Calls Try.prog 20 #[.pointer (some ⟨R, 0, none⟩), .int .i64 (n : Int)] w fun e w' =>
    ∃ v, e = .returned (.tuple #[v, .int .u16 0]) ∧ Hid (SpRow w' w.heap.size v B) ∧ Hid (RingB w' R S t (u + n)) ∧ Hid (Chg [R] w w')) := fun R w hb => by rw [hB, hf]; exact take_ok h w hb n hn
  have HD : Hid (∀ R w, RingB w R S t (u + n) → Calls Try.prog 14 #[.pointer (some ⟨R, 0, none⟩)] w (Says w (.int .i64 (d : Int)))) := fun R w hb => by rw [← ed]; exact head_any g1 w hb
  have GU : Hid (∀ R w, RingB w R S t (u + n) → Calls Try.prog 21 #[.pointer (some ⟨R, 0, none⟩), .int .i64 (u : Int)] w fun e w' =>
    ∃ v, e = .returned (.tuple #[v, .int .u16 0]) ∧ Hid (SpRow w' w.heap.size v A) ∧ Hid (RingB w' R S f n) ∧ Hid (Chg [R] w w')) := fun R w hb => by
      have := give_ok g1 w hb u (by omega)
      rw [show u + n - u = n by omega, ← hf, ← hA] at this
      exact this
  have L2 : Hid (∀ R w, RingB w R S f n → Calls Try.prog 17 #[.pointer (some ⟨R, 0, none⟩)] w fun e w' => ∃ v, e = .returned v ∧ Hid (SpRow w' w.heap.size v B) ∧ Hid (Chg [] w w')) := fun R w hb => by rw [hB]; exact live_any g2 w hb
  have GN : Hid (∀ R w, RingB w R S f n → Calls Try.prog 21 #[.pointer (some ⟨R, 0, none⟩), .int .i64 (n : Int)] w fun e w' =>
    ∃ v, e = .returned (.tuple #[v, .int .u16 0]) ∧ Hid (SpRow w' w.heap.size v B) ∧ Hid (RingB w' R S d 0) ∧ Hid (Chg [R] w w')) := fun R w hb => by
      have := give_ok g2 w hb n (by omega)
      rw [Nat.sub_self, ← hd, ← hB] at this
      exact this
  have US : Hid (∀ R w, RingB w R S d 0 → Calls Try.prog 18 #[.pointer (some ⟨R, 0, none⟩)] w (Says w (.int .i64 0))) := fun R w hb => used_any g3 w hb
  have TL : Hid (∀ R w, RingB w R S d 0 → Calls Try.prog 15 #[.pointer (some ⟨R, 0, none⟩)] w (Says w (.int .i64 (d : Int)))) := fun R w hb => tail_any g3 w hb
  have HD2 : Hid (∀ R w, RingB w R S d 0 → Calls Try.prog 14 #[.pointer (some ⟨R, 0, none⟩)] w (Says w (.int .i64 (d : Int)))) := fun R w hb => by
    have := head_any g3 w hb
    rw [ed2] at this
    exact this
  have L3 : Hid (∀ R w, RingB w R S d 0 → Calls Try.prog 17 #[.pointer (some ⟨R, 0, none⟩)] w fun e w' => ∃ v, e = .returned v ∧ Hid (SpRow w' w.heap.size v []) ∧ Hid (Chg [] w w')) := fun R w hb => by
    have := live_any g3 w hb
    rwa [show spn S d 0 = [] by simp [spn, runs]] at this
  clear h g1 g2 g3 ed ed2 hf hd hA hB hn hS
  go_enter Try.func6, Try.ntmps6
  go_wp2_with fail
  refine NW.out.mono ?_
  rintro e w1 ⟨rfl, b, C⟩
  have H := Lib.hid ((Side.nil (Chg.refl _ W)).ring b.out C.out)
  clear b C NW
  generalize hR : W.heap.size = R at *
  clear hR
  go_wp2_with (go_at_call 10; refine (known_any _).mono ?_; rintro e w2 ⟨rfl, C⟩; replace H := Lib.hid (H.out.quiet C.out); clear C)
  refine (L1.out _ _ (H.out.get 0 rfl)).mono ?_
  rintro e w3 ⟨v0, rfl, O, C⟩
  replace H := Lib.hid (H.out.spans O.out C.out)
  clear O C L1
  go_wp2_with fail
  refine (TK.out _ _ (H.out.get 1 rfl)).mono ?_
  rintro e w4 ⟨v1, rfl, O, b, C⟩
  replace H := Lib.hid (H.out.took 1 rfl O.out b.out C.out)
  clear O b C TK
  go_wp2_with fail
  refine (HD.out _ _ (H.out.get 2 rfl)).mono ?_
  rintro e w5 ⟨rfl, C⟩
  replace H := Lib.hid (H.out.quiet C.out)
  clear C HD
  go_wp2_with fail
  refine (GU.out _ _ (H.out.get 2 rfl)).mono ?_
  rintro e w6 ⟨v2, rfl, O, b, C⟩
  replace H := Lib.hid (H.out.took 2 rfl O.out b.out C.out)
  clear O b C GU
  go_wp2_with fail
  refine (L2.out _ _ (H.out.get 3 rfl)).mono ?_
  rintro e w7 ⟨v3, rfl, O, C⟩
  replace H := Lib.hid (H.out.spans O.out C.out)
  clear O C L2
  go_wp2_with fail
  refine (GN.out _ _ (H.out.get 4 rfl)).mono ?_
  rintro e w8 ⟨v4, rfl, O, b, C⟩
  replace H := Lib.hid (H.out.took 4 rfl O.out b.out C.out)
  clear O b C GN
  go_wp2_with fail
  refine (same_spans _ _ A _ (H.out.get 2 rfl) (H.out.get 4 rfl) lA.out).mono ?_
  rintro e w9 ⟨rfl, C⟩
  replace H := Lib.hid (H.out.quiet C.out)
  clear C
  go_wp2_with fail
  refine (same_spans _ _ B _ (H.out.get 1 rfl) (H.out.get 3 rfl) lB.out).mono ?_
  rintro e w10 ⟨rfl, C⟩
  replace H := Lib.hid (H.out.quiet C.out)
  clear C
  go_wp2_with fail
  refine (same_spans _ _ B _ (H.out.get 0 rfl) (H.out.get 3 rfl) lB.out).mono ?_
  rintro e w11 ⟨rfl, C⟩
  replace H := Lib.hid (H.out.quiet C.out)
  clear C
  go_wp2_with fail
  refine (US.out _ _ (H.out.get 5 rfl)).mono ?_
  rintro e w12 ⟨rfl, C⟩
  replace H := Lib.hid (H.out.quiet C.out)
  clear C
  go_wp2_with fail
  refine (TL.out _ _ (H.out.get 5 rfl)).mono ?_
  rintro e w13 ⟨rfl, C⟩
  replace H := Lib.hid (H.out.quiet C.out)
  clear C
  go_wp2_with fail
  refine (HD2.out _ _ (H.out.get 5 rfl)).mono ?_
  rintro e w14 ⟨rfl, C⟩
  replace H := Lib.hid (H.out.quiet C.out)
  clear C
  go_wp2_with fail
  refine (L3.out _ _ (H.out.get 5 rfl)).mono ?_
  rintro e w15 ⟨v5, rfl, O, C⟩
  obtain ⟨xo, xc, rfl⟩ := O.out.slice
  go_wp2_with fail
  go_ret
  exact ⟨rfl, H.out.chg.trans C.out⟩

theorem ringBack_walk (s t u n : Int) (W : World) : Calls Try.prog 6 #[.int .i64 s, .int .i64 t, .int .i64 u, .int .i64 n] W (Holds W) := by
  rcases new_any s t u with ⟨S, T, U, h, rfl, rfl, rfl⟩ | ⟨_, h⟩
  · by_cases h0 : n < 0
    · exact ringBack_bad h n 1 (.inl rfl) (.inl h0) (fun R w _ => take_neg R n h0 w) W
    · by_cases h1 : ((S - U : Nat) : Int) < n
      · exact ringBack_bad h n 90 (.inr rfl) (.inr ⟨by omega, h1⟩) (fun R w hb => take_full h w hb n h1) W
      · obtain ⟨k, rfl⟩ : ∃ k : Nat, n = k := ⟨n.toNat, by omega⟩
        exact ringBack_ok h k (by omega) W
  · exact ringBack_no s t u n W h

end Go.Proofs.Ytkkjhlihionlkaa
