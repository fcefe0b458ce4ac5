/-
  RingDoes, walked. By an AI agent.
-/
import Derived.Test.YtkkjhlihionlkaaRgDoes
import Derived.Test.YtkkjhlihionlkaaRgIn
import Derived.Test.YtkkjhlihionlkaaRgLawS
namespace Go.Proofs.Ytkkjhlihionlkaa
open Go.RowKit

set_option maxHeartbeats 4000000 in
set_option maxRecDepth 100000 in
theorem ringDoes_much (s t u : Int) (ao : Option Addr) (n c : Nat) (hn : 20000 < n) (W : World) :
    Calls Try.prog 3 #[.int .i64 s, .int .i64 t, .int .i64 u, .slice ao n c] W (Holds W) := by
  have h1 : (20000 : Int) < n := by omega
  go_enter Try.func3, Try.ntmps3
  go_wp2_with fail
  go_ret
  exact ⟨rfl, Chg.refl _ _⟩

set_option maxHeartbeats 4000000 in
set_option maxRecDepth 100000 in
theorem ringDoes_no (s t u : Int) (ao : Option Addr) (n c : Nat) (hn : ¬ 20000 < n) (W : World) (h : ∀ w, Calls Try.prog 8 #[.int .i64 s, .int .i64 t, .int .i64 u] w (NoRing w)) (hr : ∀ w, Calls Try.prog 9 #[.int .i64 s, .int .i64 t, .int .i64 u] w (NoRef w)) :
    Calls Try.prog 3 #[.int .i64 s, .int .i64 t, .int .i64 u, .slice ao n c] W (Holds W) := by
  have h1 : ¬ (20000 : Int) < n := by omega
  go_enter Try.func3, Try.ntmps3
  go_wp2_with (first
    | (go_at_call 8; refine (h _).mono ?_; rintro e w' ⟨rfl, rfl⟩)
    | (go_at_call 9; refine (hr _).mono ?_; rintro e w' ⟨rfl, rfl⟩)
    | (go_at_call 10; refine (known_any _).mono ?_; rintro e w' ⟨rfl, C⟩))
  go_ret
  exact ⟨rfl, C.out⟩

/-- The other two rings to the front. -/
theorem Side.other {w0 w : World} {A B C D E F : Thing} (h : Side w0 w [A, B, C, D, E, F]) : Side w0 w [A, B, E, F, C, D] := (((h.front 5).front 5).front 3).front 3

set_option maxHeartbeats 8000000 in
set_option maxRecDepth 100000 in
theorem ringDoes_ok {S T U : Nat} (h : Rg S T U) (v : Value) (ds : List ROpD) (W : World) (hd : ROps W v ds) (hn : ¬ 20000 < ds.length) :
    Calls Try.prog 3 #[.int .i64 (S : Int), .int .i64 (T : Int), .int .i64 (U : Int), v] W (Holds W) := by
  have NW := Lib.hid (fun w => new_ok h w)
  have RW := Lib.hid (fun w => refNew_ok h w)
  have HR0 := Lib.hid h
  have HS : Hid (5 ≤ S ∧ S ≤ 2048) := ⟨h.lo, h.hi⟩
  have h1 : ¬ (20000 : Int) < ds.length := by omega
  obtain ⟨ao, vc, rfl⟩ := hd.slice
  have DS : Hid (∀ w', Chg [] W w' → ROps w' (.slice ao ds.length vc) ds) := fun w' c => hd.chg c
  have HL := Lib.hid hn
  clear h hd hn
  go_enter Try.func3, Try.ntmps3
  go_wp2_with fail
  refine (NW.out _).mono ?_
  rintro e w1 ⟨rfl, B, C⟩
  have H := Lib.hid ((Side.nil (Chg.refl _ W)).ring B.out C.out)
  clear B C
  generalize W.heap.size = R1 at *
  go_wp2_with fail
  refine (NW.out _).mono ?_
  rintro e w2 ⟨rfl, B, C⟩
  replace H := Lib.hid (H.out.ring B.out C.out)
  clear B C NW
  generalize w1.heap.size = R2 at *
  go_wp2_with fail
  refine (RW.out _).mono ?_
  rintro e w3 ⟨rfl, B, C⟩
  replace H := Lib.hid (H.out.refRing B.out C.out)
  clear B C
  generalize w2.heap.size = P1 at *
  go_wp2_with fail
  refine (RW.out _).mono ?_
  rintro e w4 ⟨rfl, B, C⟩
  replace H := Lib.hid (H.out.refRing B.out C.out)
  clear B C RW
  generalize w3.heap.size = P2 at *
  go_wp2_with fail
  refine (known_any _).mono ?_
  rintro e w5 ⟨rfl, C⟩
  replace H := Lib.hid (H.out.quiet C.out)
  clear C
  go_wp2_with fail
  have H0 : Hid (Side W (w5.alloc (.cells #[.slice none 0 0, .slice none 0 0, .slice none 0 0, .slice none 0 0, .slice none 0 0, .slice none 0 0, .slice none 0 0, .slice none 0 0, .slice none 0 0, .slice none 0 0, .slice none 0 0, .slice none 0 0] 46)) [spansT (.slice none 0 0) [], bkT w5.heap.size (.slice none 0 0), ringT R1 S T U, refT P1 S T U, ringT R2 S T U, refT P2 S T U]) := by
    have h2 : Side W w5 [ringT R1 S T U, refT P1 S T U, ringT R2 S T U, refT P2 S T U] := (((H.out.front 0).front 2).front 2).front 3
    exact (h2.boxed (spanBook (.slice none 0 0)) 46).add (b := spansT (.slice none 0 0) []) (Chg.refl _ _) (RackW.nil _ _ _ _) (fun k hk => by simp [spansT, rackWT, blocksOf, Value.ownBlock] at hk)
  clear H
  generalize w5.heap.size = B0 at *
  generalize (w5.alloc (.cells #[.slice none 0 0, .slice none 0 0, .slice none 0 0, .slice none 0 0, .slice none 0 0, .slice none 0 0, .slice none 0 0, .slice none 0 0, .slice none 0 0, .slice none 0 0, .slice none 0 0, .slice none 0 0] 46)) = w6 at *
  go_loopw [18] (fun i wr => ∃ (k t u : Nat) (lv : Value) (vs : Wides), k ≤ ds.length ∧ i = .int .i64 k ∧ Hid (Rg S t u) ∧ Hid (vs.length ≤ 2 * k) ∧ Hid (∀ p ∈ vs, p.2.length ≤ 2) ∧ Hid (Side W wr [spansT lv vs, bkT B0 lv, ringT R1 S t u, refT P1 S t u, ringT R2 S t u, refT P2 S t u])) (fun i _ => ds.length - (intOf i).toNat)
  case atStart => exact ⟨0, T, U, _, [], Nat.zero_le _, rfl, HR0, Nat.le_refl _, (fun p hp => by cases hp), H0⟩
  case round =>
    obtain ⟨k, t, u, lv, vs, hk, rfl, HR, HV, HP, H⟩ := hrel
    clear H0 HR0
    by_cases hlt : k < ds.length
    case neg =>
      have hk2 : ¬ (k : Int) < ds.length := by omega
      obtain ⟨t1, u1, R3, D1⟩ := does_any HR.out 3 0
      obtain ⟨t2, u2, R4, D2⟩ := does_any HR.out 3 0
      have hv0 : vs.length ≤ 40000 := by have := HV.out; have := HL.out; omega
      have e1 : (S : Int) - 1 = ((S - 1 : Nat) : Int) := by have := HS.out; omega
      obtain ⟨t3, u3, R5, D3⟩ := does_any R3 4 ((S - 1 : Nat) : Int)
      have wm := Lib.hid (wrap_in (z := ((S - 1 : Nat) : Int)) (by have := HS.out; omega) (by have := HS.out; omega))
      replace D1 := Lib.hid D1
      replace D2 := Lib.hid D2
      replace D3 := Lib.hid D3
      generalize ((S - 1 : Nat) : Int) = z at *
      replace hv0 := Lib.hid hv0
      clear R3 R4 R5 hlt hk
      go_wp2_with fail
      refine (D1.out W wr _ R1 P1 B0 lv vs H.out (by have := hv0.out; omega)).mono ?_
      rintro e w7 ⟨rfl, lv1, vs1, L1, Q1, H1⟩
      have H2 := Lib.hid H1.out.other
      clear H H1 D1
      go_wp2_with fail
      refine (D2.out W w7 _ R2 P2 B0 lv1 vs1 H2.out (by have := hv0.out; have := L1.out; omega)).mono ?_
      rintro e w8 ⟨rfl, lv2, vs2, L2, Q2, H3⟩
      have H4 := Lib.hid H3.out.other
      clear H2 H3 D2
      obtain ⟨wm1, wm2⟩ := wm.out
      go_wp2_with fail
      refine (D3.out W w8 _ R1 P1 B0 lv2 vs2 H4.out (by have := hv0.out; have := L1.out; have := L2.out; omega)).mono ?_
      rintro e w9 ⟨rfl, lv3, vs3, L3, Q3, H5⟩
      clear H4 D3
      go_wp2_with fail
      refine (spanBook_own H5.out (by have := hv0.out; have := L1.out; have := L2.out; have := L3.out; omega) (fun p hp => by
        have : p.2.length ≤ 2 := by
          rcases Q3.out p hp with q | q
          · rcases Q2.out p q with q | q
            · rcases Q1.out p q with q | q
              · exact HP.out p q
              · exact q
            · exact q
          · exact q
        omega)).mono ?_
      rintro e w10 ⟨rfl, C⟩
      go_wp2_with fail
      go_ret
      exact ⟨rfl, C.out⟩
    have hk0 : (0 : Int) ≤ k := Int.natCast_nonneg _
    have hk1 : (k : Int) < ds.length := by omega
    obtain ⟨⟨kd, x⟩, hx⟩ : ∃ p, ds[k]? = some p := ⟨_, List.getElem?_eq_getElem hlt⟩
    have HX := Lib.hid hx
    obtain ⟨vb, vo, rfl, _, _⟩ := (DS.out _ H.out.chg).at hx
    have DC : Hid (∀ w', Chg [] W w' → w'.cell? ⟨vb, vo + k * 2, none⟩ = some (.int .i64 kd) ∧ w'.cell? ⟨vb, vo + k * 2 + 1, none⟩ = some (.int .i64 x)) := fun w' c => by
      obtain ⟨b2, o2, q, _, I⟩ := (DS.out w' c).at HX.out
      obtain ⟨rfl, rfl⟩ : vb = b2 ∧ vo = o2 := by simpa using q
      exact ⟨I.c0, I.c1⟩
    have HLT := Lib.hid hlt
    obtain ⟨t1, u1, R3, D1⟩ := does_any HR.out kd x
    replace D1 := Lib.hid D1
    replace R3 := Lib.hid R3
    have hv0 : Hid (vs.length ≤ 40000) := by have := HV.out; have := HL.out; show _ ≤ _; omega
    have WK := Lib.hid (wrap_in (z := (k : Int) + 1) (by have := HL.out; omega) (by have := HL.out; omega))
    clear hx hlt hk
    obtain ⟨c0, c1⟩ := DC.out _ H.out.chg
    go_wp2_with fail
    refine (D1.out W wr _ R1 P1 B0 lv vs H.out (by have := hv0.out; omega)).mono ?_
    rintro e w7 ⟨rfl, lv1, vs1, L1, Q1, H1⟩
    clear H c0 c1
    go_wp2_with fail
    refine (stands_any R3.out w7 (H1.out.get 2 rfl) (H1.out.get 3 rfl)).mono ?_
    rintro e w8 ⟨rfl, q8, hq8⟩
    have H2 : Hid (Side W w8 _) := (H1.out.quiet (by rw [hq8]; exact (Chg.refl _ _).drewN _)).other
    clear H1 hq8
    obtain ⟨c0, c1⟩ := DC.out _ H2.out.chg
    go_wp2_with fail
    refine (D1.out W w8 _ R2 P2 B0 lv1 vs1 H2.out (by have := hv0.out; have := L1.out; omega)).mono ?_
    rintro e w9 ⟨rfl, lv2, vs2, L2, Q2, H3⟩
    clear H2 c0 c1
    go_wp2_with fail
    refine (stands_any R3.out w9 (H3.out.get 2 rfl) (H3.out.get 3 rfl)).mono ?_
    rintro e w10 ⟨rfl, q10, hq10⟩
    have H4 : Hid (Side W w10 _) := (H3.out.quiet (by rw [hq10]; exact (Chg.refl _ _).drewN _)).other
    clear H3 hq10
    have wk1 := WK.out.1
    go_wp2_with fail
    clear wk1
    refine ⟨⟨k + 1, t1, u1, lv2, vs2, by have := HLT.out; omega, rfl, R3, ?_, ?_, H4⟩, by have := HLT.out; simp [intOf]; omega⟩
    · show _ ≤ _
      have := HV.out
      have := L1.out
      have := L2.out
      omega
    · intro p hp
      rcases Q2.out p hp with q | q
      · rcases Q1.out p q with q | q
        · exact HP.out p q
        · exact q
      · exact q

theorem ringDoes_walk (s t u : Int) (v : Value) (ds : List ROpD) (W : World) (hd : ROps W v ds) : Calls Try.prog 3 #[.int .i64 s, .int .i64 t, .int .i64 u, v] W (Holds W) := by
  by_cases hn : 20000 < ds.length
  · obtain ⟨ao, c, rfl⟩ := hd.slice
    exact ringDoes_much s t u ao _ c hn W
  · rcases new_any s t u with ⟨S, T, U, h, rfl, rfl, rfl⟩ | ⟨hb, h⟩
    · exact ringDoes_ok h v ds W hd hn
    · obtain ⟨ao, c, rfl⟩ := hd.slice
      exact ringDoes_no s t u ao _ c hn W h (fun w => refNew_no s t u w hb)

end Go.Proofs.Ytkkjhlihionlkaa
