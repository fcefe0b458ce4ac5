/-
  XorTells walked. By an AI agent.
-/
import Derived.Test.YtaciamnfkidmfaaXorGroup
namespace Go.Proofs.Ytaciamnfkidmfaa
open Go.RowKit

/-- What First tells of two rows of one length. -/
theorem first_spec {a b : List Nat} {m : Nat} (ha : a.length = m) (hb : b.length = m) :
    (first a b = -1 ∧ ∀ j, j < m → a.getD j 0 = b.getD j 0) ∨ ∃ p, p < m ∧ first a b = (p : Int) ∧ (∀ j, j < p → a.getD j 0 = b.getD j 0) ∧ a.getD p 0 ≠ b.getD p 0 := by
  by_cases h : ∀ j, j < m → a.getD j 0 = b.getD j 0
  · exact .inl ⟨first_same (fun j hj => h j (by omega)) (by omega), h⟩
  · right
    have least : ∀ k, k ≤ m → (∀ j, j < k → a.getD j 0 = b.getD j 0) ∨ ∃ p, p < k ∧ (∀ j, j < p → a.getD j 0 = b.getD j 0) ∧ a.getD p 0 ≠ b.getD p 0 := by
      intro k
      induction k with
      | zero => exact fun _ => .inl (fun j hj => by omega)
      | succ k ih =>
        intro hk
        rcases ih (by omega) with h1 | ⟨p, hp, h1, h2⟩
        · by_cases he : a.getD k 0 = b.getD k 0
          · exact .inl (fun j hj => by
              by_cases hjk : j = k
              · rw [hjk]; exact he
              · exact h1 j (by omega))
          · exact .inr ⟨k, by omega, h1, he⟩
        · exact .inr ⟨p, by omega, h1, h2⟩
    rcases least m (Nat.le_refl _) with h1 | ⟨p, hp, h1, h2⟩
    · exact absurd h1 h
    · exact ⟨p, hp, first_diff (by omega) (by omega) h1 h2, h1, h2⟩

theorem ors_two {n k : Nat} (a b : List Nat) (h : k < n) : (Xr.ors n [a, b]).getD k 0 = a.getD k 0 ^^^ b.getD k 0 := by
  rw [Xr.ors_get _ h]
  show Xr.fold [a.getD k 0, b.getD k 0] = _
  rw [Xr.fold, Xr.fold, Xr.fold, Nat.xor_zero]

theorem xor_zero {a b : Nat} : a ^^^ b = 0 ↔ a = b := by
  constructor
  · intro h
    have := congrArg (· ^^^ b) h
    simpa [Nat.xor_assoc] using this
  · rintro rfl
    exact Nat.xor_self _

/-- The two are even just if nothing differs. -/
theorem even_first {n : Nat} {a b : List Nat} (ha : a.length = n) (hb : b.length = n) : ((Xr.ors n [a, b]).all (· == 0)) = (first a b == -1) := by
  rcases first_spec ha hb with ⟨h1, h2⟩ | ⟨p, hp, h1, h2, h3⟩
  · rw [h1]
    have : (Xr.ors n [a, b]).all (· == 0) = true := by
      rw [List.all_eq_true]
      intro x hx
      obtain ⟨j, hj, rfl⟩ := List.mem_iff_getElem.1 hx
      have hjn : j < n := by rw [Xr.ors_length] at hj; exact hj
      have := ors_two a b hjn
      rw [List.getD_eq_getElem?_getD, List.getElem?_eq_getElem hj] at this
      simp only [Option.getD_some] at this
      rw [this, h2 j hjn, Nat.xor_self]
      rfl
    rw [this]
    rfl
  · rw [h1]
    have e : ((p : Int) == -1) = false := beq_false_of_ne (by omega)
    rw [e]
    cases hall : (Xr.ors n [a, b]).all (· == 0) with
    | false => rfl
    | true =>
      exfalso
      have hpl : p < (Xr.ors n [a, b]).length := by rw [Xr.ors_length]; exact hp
      have := List.all_eq_true.1 hall _ (List.getElem_mem hpl)
      have h4 := ors_two a b hp
      rw [List.getD_eq_getElem?_getD, List.getElem?_eq_getElem hpl] at h4
      simp only [Option.getD_some] at h4
      have h5 : (Xr.ors n [a, b])[p] = 0 := by simpa using this
      rw [h5] at h4
      exact h3 (xor_zero.1 h4.symm)

set_option maxHeartbeats 8000000 in
set_option maxRecDepth 100000 in
theorem tells_walk (d0 d1 : RowD) (w9 : World) (hs : ∀ d ∈ [d0, d1], Sl w9 d.v d.bs ∧ By d.bs ∧ d.bs.length ≤ 140737488355328) (hc : ∀ d ∈ [d0, d1], ∀ ao n c, d.v = .slice ao n c → n ≤ c) :
    Calls Try.prog 11 #[d0.v, d1.v] w9 fun e w' => e = .returned (.bool true) ∧ Chg [] w9 w' := by
  have hr := rws_made (c := 2) hs (by simp)
  obtain ⟨a0, c0, e0⟩ := (hs d0 (by simp)).1.slice
  obtain ⟨a1, c1, e1⟩ := (hs d1 (by simp)).1.slice
  have q0 := hc d0 (by simp) _ _ _ e0
  have q1 := hc d1 (by simp) _ _ _ e1
  have h3 : ([d0, d1] : List RowD).length = 2 := rfl
  rw [show ([d0, d1] : List RowD).map (·.v) = [d0.v, d1.v] from rfl, h3] at hr
  have S0 := Lib.hid (hs d0 (by simp))
  have S1 := Lib.hid (hs d1 (by simp))
  rw [e0] at S0
  rw [e1] at S1
  rw [e0, e1] at hr ⊢
  clear e0 e1 hc hs h3
  have DW : Hid (Chg [] w9 (w9.alloc (.cells #[.slice a0 d0.bs.length c0, .slice a1 d1.bs.length c1] 25))) := (Chg.refl _ _).alloc _
  have hm := much_any _ _ _ hr
  cases hmb : muchB [d0, d1] with
  | true =>
    rw [hmb] at hm
    go_enter Try.func11, Try.ntmps11
    go_wp2_with fail
    refine hm.mono ?_
    rintro e w' ⟨rfl, rfl⟩
    go_wp2_with fail
    go_ret
    exact ⟨rfl, DW.out⟩
  | false =>
    rw [hmb] at hm
    obtain ⟨-, hsm⟩ := not_much hmb
    have l0 := hsm d0 (by simp)
    have l1 := hsm d1 (by simp)
    obtain ⟨n, hn⟩ : ∃ n : Nat, min (d0.bs.length : Int) (min (d1.bs.length : Int) (d1.bs.length : Int)) = (n : Int) := ⟨min d0.bs.length d1.bs.length, by omega⟩
    have hcut := fun w => cut_any a0 a1 a1 n _ _ _ c0 c1 c1 w hn q0 q1 q1 (by omega)
    have n0 : n ≤ d0.bs.length := by omega
    have n1 : n ≤ d1.bs.length := by omega
    have OK : Hid (Oks w9 [⟨.slice a0 n c0, d0.bs.take n⟩, ⟨.slice a1 n c1, d1.bs.take n⟩]) := all2 (ok_cut S0.out.1 rfl S0.out.2.1 n0 (by omega)) (ok_cut S1.out.1 rfl S1.out.2.1 n1 (by omega))
    have t0 : Hid ((d0.bs.take n).length = n) := by show _ = _; simp; omega
    have t1 : Hid ((d1.bs.take n).length = n) := by show _ = _; simp; omega
    have hn6 : n ≤ 1000000 := by omega
    generalize d0.bs.take n = x at *
    generalize d1.bs.take n = y at *
    clear S0 S1 hn n0 n1 q0 q1 hsm hmb hr
    go_enter Try.func11, Try.ntmps11
    go_wp2_with fail
    refine hm.mono ?_
    clear hm
    rintro e w1 ⟨rfl, hw⟩
    rw [hw] at DW
    clear hw l0 l1
    replace OK := Lib.hid (OK.out.chg DW.out)
    go_wp2_with fail
    refine (hcut w1).mono ?_
    clear hcut
    rintro e w2 ⟨rfl, q, hw⟩
    have C : Hid (Chg [] w1 w2) := by rw [hw]; exact (Chg.refl [] _).drewN _
    clear hw
    replace OK := Lib.hid (OK.out.chg C.out)
    have D := Lib.hid (DW.out.trans C.out)
    clear C DW
    have hl : Hid (∀ d ∈ ([⟨.slice a0 n c0, x⟩, ⟨.slice a1 n c1, y⟩] : List RowD), d.bs.length = n) := fun d hd => by
      have : d = ⟨.slice a0 n c0, x⟩ ∨ d = ⟨.slice a1 n c1, y⟩ := by simpa using hd
      rcases this with rfl | rfl
      · exact t0.out
      · exact t1.out
    have s := of_made w2 w2.heap.size n _ rfl OK.out hl.out (by simp) hn6 (by simp)
    go_wp2_with fail
    refine s.mono ?_
    clear s
    rintro e w3 ⟨al, cl, rfl, O, C⟩
    replace OK := Lib.hid (OK.out.chg C.out)
    replace D := Lib.hid (D.out.trans C.out)
    clear C
    have s := even_made w3 w3.heap.size n _ rfl OK.out hl.out (by simp) (by simp)
    go_wp2_with fail
    refine s.mono ?_
    clear s
    rintro e w4 ⟨rfl, C⟩
    replace OK := Lib.hid (OK.out.chg C.out)
    replace O := Lib.hid (O.out.chg C.out)
    replace D := Lib.hid (D.out.trans C.out)
    clear C
    have hrs : rowsN [⟨.slice a0 n c0, x⟩, ⟨.slice a1 n c1, y⟩] = [nats x, nats y] := rfl
    rw [hrs] at O ⊢
    have hxl : (nats x).length = n := by rw [nats_length]; exact t0.out
    have hyl : (nats y).length = n := by rw [nats_length]; exact t1.out
    rw [even_first hxl hyl]
    have okx := OK.out ⟨.slice a0 n c0, x⟩ (by simp)
    have oky := OK.out ⟨.slice a1 n c1, y⟩ (by simp)
    have s := first_any _ _ x y w4 okx.1 oky.1 okx.2.1 oky.2.1 (by rw [t0.out]; omega) (by rw [t1.out]; omega)
    clear okx oky
    go_wp2_with fail
    refine s.mono ?_
    clear s
    rintro e w5 ⟨rfl, C⟩
    replace O := Lib.hid (O.out.chg C.out)
    replace D := Lib.hid (D.out.trans C.out)
    clear C OK hl hrs
    go_wp2_with fail
    refine (known_any w5).mono ?_
    rintro e w6 ⟨rfl, C⟩
    replace O := Lib.hid (O.out.chg C.out)
    replace D := Lib.hid (D.out.trans C.out)
    clear C
    have hLl : Hid ((ints (Xr.ors n [nats x, nats y])).length = n) := by show _ = _; rw [ints_length, Xr.ors_length]
    rcases first_spec hxl hyl with ⟨f1, f2⟩ | ⟨p, hp, f1, f2, f3⟩
    · rw [f1]
      have Z : Hid (∀ j, j < n → (ints (Xr.ors n [nats x, nats y])).getD j 0 = 0) := fun j hj => by
        rw [ints_get, ors_two _ _ hj, f2 j hj, Nat.xor_self]; rfl
      rw [show ((-1 : Int) == -1) = true from rfl]
      have hn0 : (0 : Int) ≤ n := Int.natCast_nonneg _
      clear f1 f2 hxl hyl t0 t1
      go_wp2_with fail
      go_loop [13] (fun i => ∃ k : Nat, k ≤ n ∧ i = .int .i64 k) (fun i => n - (intOf i).toNat)
      case atStart => exact ⟨0, Nat.zero_le _, rfl⟩
      case round =>
        obtain ⟨k, hk, rfl⟩ := hrel
        have hk0 : (0 : Int) ≤ k := Int.natCast_nonneg _
        by_cases hlt : k < n
        · obtain ⟨g, o, rfl, hg, cc⟩ := sl_cell O.out.1 hlt
          rw [Z.out k hlt] at cc
          have hk1 : (k : Int) < n := by omega
          have hb1 : ((k : Int) == -1) = false := beq_false_of_ne (by omega)
          go_wp2_with fail
          exact ⟨⟨k + 1, by omega, by go_num⟩, by simp [intOf]; omega⟩
        · obtain rfl : k = n := by omega
          go_wp2_with fail
          go_ret
          exact ⟨rfl, D.out⟩
    · rw [f1]
      have Z : Hid (∀ j, j < p → (ints (Xr.ors n [nats x, nats y])).getD j 0 = 0) := fun j hj => by
        rw [ints_get, ors_two _ _ (by omega), f2 j hj, Nat.xor_self]; rfl
      have ZP : Hid ((ints (Xr.ors n [nats x, nats y])).getD p 0 ≠ 0) := by
        show _ ≠ _
        rw [ints_get, ors_two _ _ hp]
        intro e
        have e2 : (nats x).getD p 0 ^^^ (nats y).getD p 0 = 0 := by omega
        exact f3 (xor_zero.1 e2)
      have hp0 : (0 : Int) ≤ p := Int.natCast_nonneg _
      have hp1 : (p : Int) < n := by omega
      have hb0 : ((p : Int) == -1) = false := beq_false_of_ne (by omega)
      rw [hb0]
      clear f1 f2 f3 hxl hyl t0 t1
      go_wp2_with fail
      go_loop [13] (fun i => ∃ k : Nat, k ≤ n ∧ i = .int .i64 k) (fun i => n - (intOf i).toNat)
      case atStart => exact ⟨0, Nat.zero_le _, rfl⟩
      case round =>
        obtain ⟨k, hk, rfl⟩ := hrel
        have hk0 : (0 : Int) ≤ k := Int.natCast_nonneg _
        by_cases hlt : k < n
        · obtain ⟨g, o, rfl, hg, cc⟩ := sl_cell O.out.1 hlt
          have hk1 : (k : Int) < n := by omega
          by_cases hkp : k < p
          · rw [Z.out k hkp] at cc
            have h2 : (k : Int) < p := by omega
            have hb1 : ((k : Int) == (p : Int)) = false := beq_false_of_ne (by omega)
            go_wp2_with fail
            exact ⟨⟨k + 1, by omega, by go_num⟩, by simp [intOf]; omega⟩
          · have h2 : ¬ (k : Int) < p := by omega
            by_cases hke : k = p
            · subst hke
              have hz := ZP.out
              generalize (ints (Xr.ors n [nats x, nats y])).getD k 0 = y0 at *
              have hb1 : (y0 == 0) = false := beq_false_of_ne hz
              have hb2 : (y0 != 0) = true := by simp [hz]
              go_wp2_with fail
              exact ⟨⟨k + 1, by omega, by go_num⟩, by simp [intOf]; omega⟩
            · have hb1 : ((k : Int) == (p : Int)) = false := beq_false_of_ne (by omega)
              go_wp2_with fail
              all_goals exact ⟨⟨k + 1, by omega, by go_num⟩, by simp [intOf]; omega⟩
        · obtain rfl : k = n := by omega
          go_wp2_with fail
          go_ret
          exact ⟨rfl, D.out⟩

end Go.Proofs.Ytaciamnfkidmfaa
