/-
  RingSpans, walked. By an AI agent.
-/
import Derived.Test.YtkkjhlihionlkaaRgKnown
namespace Go.Proofs.Ytkkjhlihionlkaa
open Go.RowKit

/-- The three ways that spans can lie. -/
theorem spn_cases (S f n : Nat) (hf : f < S) (hn : n ≤ S) :
    (n = 0 ∧ spn S f n = []) ∨ (0 < n ∧ f + n ≤ S ∧ spn S f n = [(f, n)]) ∨ (∃ m q, 0 < m ∧ 0 < q ∧ f + m = S ∧ m + q = n ∧ spn S f n = [(f, m), (0, q)]) := by
  rcases Nat.eq_zero_or_pos n with h0 | h0
  · exact .inl ⟨h0, by subst h0; simp [spn, runs]⟩
  · by_cases h1 : f + n ≤ S
    · refine .inr (.inl ⟨h0, h1, ?_⟩)
      have e : min n (S - f) = n := by omega
      simp [spn, runs, e, h0]
    · refine .inr (.inr ⟨S - f, n - (S - f), by omega, by omega, by omega, by omega, ?_⟩)
      have e : min n (S - f) = S - f := by omega
      have e1 : 0 < S - f := by omega
      have e2 : 0 < n - (S - f) := by omega
      simp [spn, runs, e, e1, e2]

theorem spn_len (S f n : Nat) : (spn S f n).length ≤ 2 := List.length_filter_le _ _

/-- A law's walk that ends well. -/
def Holds (W : World) (e : Ending) (W' : World) : Prop := e = .returned (.bool true) ∧ Chg [] W W'

set_option maxHeartbeats 4000000 in
set_option maxRecDepth 100000 in
theorem ringSpans_no (s t u : Int) (W : World) (h : ∀ w, Calls Try.prog 8 #[.int .i64 s, .int .i64 t, .int .i64 u] w (NoRing w)) :
    Calls Try.prog 5 #[.int .i64 s, .int .i64 t, .int .i64 u] W (Holds W) := by
  go_enter Try.func5, Try.ntmps5
  go_wp2_with (first
    | (go_at_call 8; refine (h _).mono ?_; rintro e w' ⟨rfl, rfl⟩)
    | (go_at_call 10; refine (known_any _).mono ?_; rintro e w' ⟨rfl, C⟩))
  go_ret
  exact ⟨rfl, C.out⟩

set_option maxHeartbeats 4000000 in
set_option maxRecDepth 100000 in
theorem ringSpans_ok {S t u : Nat} (h : Rg S t u) (W : World) :
    Calls Try.prog 5 #[.int .i64 (S : Int), .int .i64 (t : Int), .int .i64 (u : Int)] W (Holds W) := by
  have HR := Lib.hid h
  have LV : Hid (∀ R w, RingB w R S t u → Calls Try.prog 17 #[.pointer (some ⟨R, 0, none⟩)] w fun e w' => ∃ v, e = .returned v ∧ Hid (SpRow w' w.heap.size v (spn S t u)) ∧ Hid (Chg [] w w')) := fun R w hb => live_any h w hb
  have NW := Lib.hid (new_ok h W)
  have cs := spn_cases S t u h.tail h.used
  have h1 := h.hi
  have h2 := h.tail
  have wS := Lib.hid (wrap_in (z := (S : Int)) (by omega) (by omega))
  have h3 := h.used
  have wu := Lib.hid (wrap_in (z := (u : Int)) (by omega) (by omega))
  clear h h1 h2 h3
  go_enter Try.func5, Try.ntmps5
  go_wp2_with fail
  refine NW.out.mono ?_
  rintro e w1 ⟨rfl, B, C⟩
  have H := Lib.hid ((Side.nil (Chg.refl _ W)).ring B.out C.out)
  clear B C NW
  generalize hR : W.heap.size = R at *
  clear hR
  go_wp2_with (go_at_call 10; refine (known_any _).mono ?_; rintro e w2 ⟨rfl, C⟩; replace H := Lib.hid (H.out.quiet C.out); clear C)
  refine (LV.out _ _ (H.out.get 0 rfl)).mono ?_
  rintro e w3 ⟨v, rfl, O, C⟩
  replace H := Lib.hid (H.out.spans O.out C.out)
  clear O C LV
  have hv : SpRow w3 0 v (spn S t u) := H.out.get 0 rfl
  have hc := H.out.chg
  clear H
  rcases cs with ⟨h0, e0⟩ | ⟨h0, h1, e0⟩ | ⟨m, q, h0, h1, h2, h3, e0⟩
  · rw [e0] at hv
    obtain ⟨ao, c, rfl⟩ := hv.slice
    subst h0
    clear hv HR wS wu e0
    go_wp2_with fail
    refine wp_loop_rounds 1 ?_
    rw [rounds_succ]
    go_wp2_with fail
    go_ret
    exact ⟨rfl, hc⟩
  · rw [e0] at hv
    obtain ⟨ao, c, rfl⟩ := hv.slice
    obtain ⟨g, rfl, a0, a1⟩ := hv.at (j := 0) rfl
    simp only [Nat.zero_mul, Nat.zero_add] at a0 a1
    have g1 : decide ((u : Int) < 1) = false := decide_eq_false (by omega)
    have g2 : ((u : Int) == 0) = false := by simp; omega
    clear hv HR h0 h1 e0
    obtain ⟨wu1, wu2⟩ := wu.out
    clear wu wS
    generalize (u : Int) = u' at *
    generalize (t : Int) = t' at *
    generalize (S : Int) = S' at *
    go_wp2_with fail
    refine wp_loop_rounds 2 ?_
    rw [rounds_succ]
    go_wp2_with fail
    go_quiet (fail)
    go_wp2_with fail
    rw [rounds_succ]
    go_wp2_with fail
    go_ret
    exact ⟨rfl, hc.drewN _⟩
  · rw [e0] at hv
    obtain ⟨ao, c, rfl⟩ := hv.slice
    obtain ⟨g, rfl, a0, a1⟩ := hv.at (j := 0) rfl
    obtain ⟨g', hg', a2, a3⟩ := hv.at (j := 1) rfl
    obtain rfl : g = g' := by simpa using hg'
    simp only [Nat.zero_mul, Nat.one_mul, Nat.zero_add, Nat.reduceAdd] at a0 a1 a2 a3
    have g1 : decide ((m : Int) < 1) = false := decide_eq_false (by omega)
    have g3 : decide ((q : Int) < 1) = false := decide_eq_false (by omega)
    have g2 : ((u : Int) == 0) = false := by simp; omega
    have s1 : (t : Int) + (m : Int) = (S : Int) := by omega
    have s2 : (m : Int) + (q : Int) = (u : Int) := by omega
    have hm : m ≤ 2048 := by have := HR.out.hi; omega
    have wm := wrap_in (z := (m : Int)) (by omega) (by omega)
    clear hv HR h0 h1 h2 h3 e0 hg' hm
    obtain ⟨wm1, wm2⟩ := wm
    obtain ⟨wu1, wu2⟩ := wu.out
    obtain ⟨wS1, wS2⟩ := wS.out
    clear wu wS
    generalize (u : Int) = u' at *
    generalize (t : Int) = t' at *
    generalize (S : Int) = S' at *
    generalize (m : Int) = m' at *
    generalize (q : Int) = q' at *
    go_wp2_with fail
    refine wp_loop_rounds 3 ?_
    rw [rounds_succ]
    go_wp2_with fail
    go_quiet (fail)
    go_wp2_with fail
    rw [rounds_succ]
    go_wp2_with fail
    go_quiet (fail)
    go_wp2_with fail
    rw [rounds_succ]
    go_wp2_with fail
    go_ret
    exact ⟨rfl, hc.drewN _⟩

theorem ringSpans_walk (s t u : Int) (W : World) : Calls Try.prog 5 #[.int .i64 s, .int .i64 t, .int .i64 u] W (Holds W) := by
  rcases new_any s t u with ⟨S, T, U, h, rfl, rfl, rfl⟩ | ⟨_, h⟩
  · exact ringSpans_ok h W
  · exact ringSpans_no s t u W h

end Go.Proofs.Ytkkjhlihionlkaa
