/-
  The document's ring. By an AI agent.
-/
import Derived.Test.YtkkjhlihionlkaaRgSide
import Derived.Test.YtkkjhlihionlkaaRgMath
namespace Go.Proofs.Ytkkjhlihionlkaa
open Go.RowKit

/-- The document's ring at a block. -/
def RefB (w : World) (P S t u : Nat) : Prop := Blk w P 70 [.int .i64 (S : Int), .int .i64 (t : Int), .int .i64 (u : Int)]

def refT (P S t u : Nat) : Thing where
  F := [P]
  P := fun w => RefB w P S t u
  lt := fun w h k hk => by rw [List.mem_singleton.1 hk]; exact h.lt
  stays := fun w w' s h c hs => h.chg c (hs P (by simp))

theorem Side.refRing {w0 w w' : World} {ts : List Thing} {S t u : Nat} (h : Side w0 w ts) (b : RefB w' w.heap.size S t u) (c : Chg [] w w') : Side w0 w' (refT w.heap.size S t u :: ts) :=
  h.add c b (fun k hk => by rw [List.mem_singleton.1 hk]; exact Nat.le_refl _)

/-- A list more, and the i-th, a ring of the document's, has turned. -/
theorem Side.rtook {w0 w w' : World} {ts : List Thing} {P S t u S' t' u' : Nat} (h : Side w0 w ts) (i : Nat) (hi : ts[i]? = some (refT P S t u))
    (b : RefB w' P S' t' u') (c : Chg [P] w w') : Side w0 w' (ts.set i (refT P S' t' u')) :=
  h.turnAt i hi c (fun _ hk => .inl hk) b (fun _ hk => .inl hk)

/-- One cell of a row of spans. -/
theorem row_setCell {w : World} {base : Nat} {e : TypeId} {s g n c : Nat} {xs : List Value} (h : w.ownsRow base e s (.slice (some ⟨g, 0, none⟩) n c) n xs) (k : Nat) (u : Value) :
    (w.setCell ⟨g, k, none⟩ u).ownsRow base e s (.slice (some ⟨g, 0, none⟩) n c) n (xs.set k u) ∧ w.frozen? ⟨g, k, none⟩ = false := by
  rcases h.2 with ⟨h1, _⟩ | ⟨g', cap, cur, hv, hb, hg, h1, h2, h3, h4⟩
  · cases h1
  · obtain ⟨rfl, rfl⟩ : g = g' ∧ c = cap := by simpa using hv
    have hc : n * s ≤ c * s := Nat.mul_le_mul_right _ h1
    refine ⟨⟨by simpa using h.1, .inr ⟨g, c, cur.setIfInBounds k u, rfl, hb, ?_, h1, h2, by simpa using h3, ?_⟩⟩, ?_⟩
    · simp [World.setCell, Array.getElem?_modify, hg]
    · rw [← h4, Array.toList_setIfInBounds, List.take_set]
    · simp [World.frozen?, hg]

theorem scells_last (l : List (Nat × Nat)) (a b b' : Nat) : (scells (l ++ [(a, b)])).set (l.length * 2 + 1) (.int .i64 (b' : Int)) = scells (l ++ [(a, b')]) := by
  rw [scells_snoc, scells_snoc, List.set_append_right _ _ (by rw [scells_len]; omega), scells_len, Nat.add_sub_cancel_left]
  rfl

theorem min_if (a b : Nat) : min a b = if a ≤ b then a else b := by rw [Nat.min_def]

/-- One place more: a span begins, or the last one grows. -/
theorem spn_next {S f i : Nat} (hf : f < S) (hi : i < S) :
    ((i = 0 ∨ (f + i) % S = 0) ∧ spn S f (i + 1) = spn S f i ++ [((f + i) % S, 1)]) ∨
    (¬ (i = 0 ∨ (f + i) % S = 0) ∧ ∃ l a b, spn S f i = l ++ [(a, b)] ∧ spn S f (i + 1) = l ++ [(a, b + 1)] ∧ b ≤ i) := by
  rw [md (show f + i < 2 * S by omega)]
  by_cases h0 : i = 0
  · subst h0
    refine .inl ⟨.inl rfl, ?_⟩
    have m0 : min 0 (S - f) = 0 := by omega
    have m1 : min (0 + 1) (S - f) = 1 := by omega
    unfold spn runs
    rw [m0, m1, if_pos (by omega)]
    simp
  · by_cases h1 : f + i < S
    · rw [if_pos h1]
      refine .inr ⟨by omega, [], f, i, ?_, ?_, Nat.le_refl _⟩
      · have m0 : min i (S - f) = i := by omega
        unfold spn runs
        rw [m0]
        have q : 0 < i := by omega
        simp [q]
      · have m0 : min (i + 1) (S - f) = i + 1 := by omega
        unfold spn runs
        rw [m0]
        simp
    · rw [if_neg h1]
      have m1 : min (i + 1) (S - f) = S - f := by omega
      have m0 : min i (S - f) = S - f := by omega
      have p : 0 < S - f := by omega
      by_cases h2 : f + i = S
      · refine .inl ⟨.inr (by omega), ?_⟩
        have q : i - (S - f) = 0 := by omega
        have q1 : i + 1 - (S - f) = 1 := by omega
        unfold spn runs
        rw [m0, m1, q, q1, h2, Nat.sub_self]
        simp [p]
      · refine .inr ⟨by omega, [(f, S - f)], 0, i - (S - f), ?_, ?_, by omega⟩
        · have q : 0 < i - (S - f) := by omega
          unfold spn runs
          rw [m0]
          simp [p, q]
        · have q : i + 1 - (S - f) = i - (S - f) + 1 := by omega
          unfold spn runs
          rw [m1, q]
          simp [p]

/-- The last span's number grows by one. -/
theorem last_grows {w : World} {base n c x y : Nat} {ao : Option Addr} {l : List (Nat × Nat)} (h : w.ownsRow base 61 2 (.slice ao n c) n (scells (l ++ [(x, y)]))) :
    n = l.length + 1 ∧ ∃ g, ao = some ⟨g, 0, none⟩ ∧ w.cell? ⟨g, l.length * 2 + 1, none⟩ = some (.int .i64 (y : Int)) ∧ w.frozen? ⟨g, l.length * 2 + 1, none⟩ = false ∧ base ≤ g ∧
      SpRow (w.setCell ⟨g, l.length * 2 + 1, none⟩ (.int .i64 ((y : Int) + 1))) base (.slice (some ⟨g, 0, none⟩) n c) (l ++ [(x, y + 1)]) := by
  have hn : n = l.length + 1 := by
    have h1 := h.1
    rw [scells_len, List.length_append, List.length_singleton] at h1
    omega
  refine ⟨hn, ?_⟩
  subst hn
  rcases h.2 with ⟨_, h0⟩ | ⟨g, cap, cur, hv, hb, hg, _⟩
  · omega
  · obtain ⟨rfl, rfl⟩ : ao = some ⟨g, 0, none⟩ ∧ c = cap := by simpa using hv
    have c := h.cells (g := g) rfl (l.length * 2 + 1) (.int .i64 (y : Int)) (by rw [scells_snoc, List.getElem?_append_right (by rw [scells_len]; omega), scells_len, Nat.add_sub_cancel_left]; rfl)
    rw [Addr.add_lit, Nat.zero_add] at c
    obtain ⟨r1, r2⟩ := row_setCell h (l.length * 2 + 1) (.int .i64 ((y : Int) + 1))
    refine ⟨g, rfl, c, r2, hb, ?_⟩
    show World.ownsRow _ _ _ _ _ _ _
    have e := scells_last l x y (y + 1)
    rw [← e, List.length_append]
    exact r1

section
variable {S t u P : Nat} (h : Rg S t u) (w : World) (hb : RefB w P S t u)
include h hb

set_option maxHeartbeats 400000 in
set_option maxRecDepth 100000 in
theorem refSpans_any (f n : Nat) (hf : f < S) (hn : n ≤ S) : Calls Try.prog 46 #[.pointer (some ⟨P, 0, none⟩), .int .i64 (f : Int), .int .i64 (n : Int)] w fun e w' =>
    ∃ v, e = .returned v ∧ Hid (SpRow w' w.heap.size v (spn S f n)) ∧ Hid (Chg [] w w') := by
  obtain ⟨i0, hi, hz0, hz1, hz2⟩ := info_parts info_span
  replace hi := Lib.hid hi
  replace hz0 := Lib.hid hz0
  replace hz1 := Lib.hid hz1
  replace hz2 := Lib.hid hz2
  have HB : Hid (∀ w', Chg [] w w' → w'.cell? ⟨P, 0, none⟩ = some (.int .i64 (S : Int))) := fun w' c => (hb.chg c (by simp)).cell (j := 0) rfl
  have HS : Hid (5 ≤ S ∧ S ≤ 2048) := ⟨h.lo, h.hi⟩
  have HF := Lib.hid hf
  have HN := Lib.hid hn
  clear h hb hf hn
  go_enter Try.func46, Try.ntmps46
  go_wp2_with fail
  go_loopw [7, 8] (fun o i wr => ∃ k : Nat, k ≤ n ∧ i = .int .i64 k ∧ Hid (SpRow wr w.heap.size o (spn S f k)) ∧ Hid (Chg [] w wr)) (fun _ i _ => n - (intOf i).toNat)
  case atStart => exact ⟨0, Nat.zero_le _, rfl, by rw [show spn S f 0 = [] by simp [spn, runs]]; exact SpRow.nil _ _, Chg.refl _ _⟩
  case round =>
    obtain ⟨k, hk, rfl, RW, CH⟩ := hrel
    by_cases hlt : k < n
    case neg =>
      obtain rfl : k = n := by omega
      go_wp2_with fail
      go_ret
      exact ⟨_, rfl, RW, CH⟩
    have hll := spn_len S f k
    have hk1 : (k : Int) < n := by omega
    have c0 := HB.out _ CH.out
    obtain ⟨a, ha⟩ : ∃ a, a = f + k := ⟨_, rfl⟩
    have e1 : (f : Int) + (k : Int) = (a : Int) := by omega
    have WA := Lib.hid (wrap_in (z := (a : Int)) (by have := HS.out; have := HF.out; have := HN.out; omega) (by have := HS.out; have := HF.out; have := HN.out; omega))
    obtain ⟨m, hm⟩ : ∃ m, m = a % S := ⟨_, rfl⟩
    have e2 : Int.tmod (a : Int) (S : Int) = (m : Int) := by rw [hm]; rfl
    have e3 : ¬ (S : Int) = 0 := by have := HS.out; omega
    have hms : m < S := by rw [hm]; exact Nat.mod_lt _ (by have := HS.out; omega)
    have WM := Lib.hid (wrap_in (z := (m : Int)) (by have := HS.out; omega) (by have := HS.out; omega))
    have WK := Lib.hid (wrap_in (z := (k : Int) + 1) (by have := HS.out; have := HN.out; omega) (by have := HS.out; have := HN.out; omega))
    have NX := spn_next (S := S) (f := f) (i := k) HF.out (by have := HN.out; omega)
    rw [← ha, ← hm] at NX
    replace NX := Lib.hid NX
    have HLT := Lib.hid hlt
    replace hms := Lib.hid hms
    clear ha hm hlt hk
    obtain ⟨l0, hl0⟩ : ∃ l0, l0 = spn S f k := ⟨_, rfl⟩
    rw [← hl0] at RW hll NX
    have HL0 := Lib.hid hl0
    clear hl0
    obtain ⟨oo, oc, rfl⟩ := RW.out.slice
    have hw0 := CH.out.size
    obtain ⟨n0, hn0⟩ : ∃ n0, n0 = l0.length := ⟨_, rfl⟩
    have RN : Hid (wr.ownsRow w.heap.size 61 2 (.slice oo n0 oc) n0 (scells l0)) := by rw [hn0]; exact RW
    rw [← hn0] at hll ⊢
    have HN0 := Lib.hid hn0
    clear hn0 RW
    have WL := Lib.hid (wrap_in (z := (n0 : Int)) (by omega) (by omega)).2
    replace hll := Lib.hid hll
    rcases NX.out with ⟨hor, hnx⟩ | ⟨hno, l, x, y, hl, hnx, hy⟩
    · have ho : ((k : Int) == 0) = true ∨ ((k : Int) == 0) = false ∧ ((m : Int) == 0) = true := by
        rcases Nat.eq_zero_or_pos k with q | q
        · exact .inl (by simp [q])
        · refine .inr ⟨by simp; omega, ?_⟩
          rcases hor with r | r
          · omega
          · simp [r]
      clear hor
      have HNX := Lib.hid hnx
      clear hnx NX
      have fin : ∀ (v' : Value) (wn : World), Hid (wn.ownsRow w.heap.size 61 2 v' (n0 + 1) (scells l0 ++ [.int .i64 (m : Int), .int .i64 0])) → ∃ g c', v' = .slice (some ⟨g, 0, none⟩) (n0 + 1) c' ∧
          wn.cell? ⟨g, n0 * 2 + 1, none⟩ = some (.int .i64 0) ∧ wn.frozen? ⟨g, n0 * 2 + 1, none⟩ = false ∧ w.heap.size ≤ g ∧ Hid (SpRow (wn.setCell ⟨g, n0 * 2 + 1, none⟩ (.int .i64 1)) w.heap.size (.slice (some ⟨g, 0, none⟩) (n0 + 1) c') (spn S f (k + 1))) := fun v' wn ho => by
        obtain ⟨ao, c, rfl⟩ := owns_slice ho.out
        obtain ⟨_, g, rfl, q1, q2, q3, q4⟩ := last_grows (l := l0) (x := m) (y := 0) (by rw [scells_snoc]; exact ho.out)
        rw [HN0.out] at ho ⊢
        exact ⟨g, c, rfl, q1, q2, q3, by rw [HNX.out]; rw [HN0.out] at q4; exact q4⟩
      have FIN := Lib.hid fin
      clear fin
      have HWB : Hid (∀ k, (Value.slice oo n0 oc).ownBlock = some k → w.heap.size ≤ k) := fun k q => (RN.out.lt k q).1
      obtain ⟨wa1, wa2⟩ := WA.out
      obtain ⟨wm1, wm2⟩ := WM.out
      rcases ho with q0 | ⟨q0, q1⟩ <;>
      · go_wp2_with (at_builtin; refine wpList_append_three _ rfl (.tmp 29) (.tmp 32) 56 rfl w.heap.size 61 i0 (.agg #[.int .i64 0, .int .i64 0]) 2 16 Try.underlying56 hi.out hz0.out hz1.out hz2.out rfl (by decide) _ n0 _ rfl (RN.out.alloc _) ⟨wr.heap.size, 0, none⟩ 1 1 [.int .i64 (m : Int), .int .i64 0] rfl rfl (pair_new _ _ _ _) (by simp [Value.oneCell']) (by have := hll.out; unfold maxLen; omega) (by have := hll.out; omega) (by simp; omega) ?_; intro v' wn ol gr nb; obtain ⟨g, c', rfl, cl, fz, hge, R2⟩ := FIN.out v' wn ol; have C2 := Lib.hid ((CH.out.alloc _).grown gr.out (fun k q => .inr (HWB.out k q))); clear gr nb ol; have wl := WL.out)
        clear wa1 wa2 wm1 wm2 wl
        exact ⟨⟨k + 1, by have := HLT.out; omega, by rw [WK.out.2]; rfl, R2, C2.out.setCell (.inr hge) _⟩, by have := HLT.out; rw [WK.out.2]; simp [intOf]; omega⟩
    · have q0 : ((k : Int) == 0) = false := by simp; omega
      have q1 : ((m : Int) == 0) = false := by simp; omega
      have HNX := Lib.hid hnx
      have HL := Lib.hid hl
      have hy2 : y ≤ 2048 := by have := HLT.out; have := HN.out; have := HS.out; omega
      have wy := Lib.hid (wrap_in (z := (y : Int) + 1) (by omega) (by omega))
      clear hno hnx hy hy2 NX hl
      obtain ⟨hl1, g, rfl, cl, fz, hge, R2⟩ := last_grows (by rw [← HL.out]; exact RN.out)
      rw [← HNX.out] at R2
      replace R2 := Lib.hid R2
      obtain ⟨ll, hll2⟩ : ∃ ll, ll = l.length := ⟨_, rfl⟩
      rw [← hll2] at cl fz hl1 R2
      have en : (n0 : Int) - 1 = (ll : Int) := by omega
      have hlt2 : (ll : Int) < n0 := by omega
      have hlt3 : (0 : Int) ≤ ll := Int.natCast_nonneg _
      have wll := (wrap_in (z := (ll : Int)) (by have := hll.out; omega) (by have := hll.out; omega))
      have CC := Lib.hid (CH.out.setCell (p := ⟨g, ll * 2 + 1, none⟩) (.inr hge) (.int .i64 ((y : Int) + 1)))
      obtain ⟨wy1, wy2⟩ := wy.out
      obtain ⟨wll1, wll2⟩ := wll
      clear hll2 hl1 RN WL
      obtain ⟨wa1, wa2⟩ := WA.out
      obtain ⟨wm1, wm2⟩ := WM.out
      go_wp2_with fail
      clear wa1 wa2 wm1 wm2 wy1 wy2 wll1 wll2
      exact ⟨⟨k + 1, by have := HLT.out; omega, by rw [WK.out.2]; rfl, R2, CC.out⟩, by have := HLT.out; rw [WK.out.2]; simp [intOf]; omega⟩

set_option maxHeartbeats 1000000 in
set_option maxRecDepth 100000 in
theorem refHead_any : Calls Try.prog 31 #[.pointer (some ⟨P, 0, none⟩)] w (Says w (.int .i64 (((t + u) % S : Nat) : Int))) := by
  have h1 := h.lo
  have h2 := h.hi
  have h3 := h.tail
  have h4 := h.used
  have c0 := hb.cell (j := 0) rfl
  have c1 := hb.cell (j := 1) rfl
  have c2 := hb.cell (j := 2) rfl
  obtain ⟨a, ha⟩ : ∃ a, a = t + u := ⟨_, rfl⟩
  have e1 : (t : Int) + (u : Int) = (a : Int) := by omega
  obtain ⟨w1, w2⟩ := wrap_in (z := (a : Int)) (by omega) (by omega)
  have e2 : Int.tmod (a : Int) (S : Int) = ((a % S : Nat) : Int) := rfl
  have e3 : ¬ (S : Int) = 0 := by omega
  have hm : a % S < S := Nat.mod_lt _ (by omega)
  obtain ⟨m, hmm⟩ : ∃ m, m = a % S := ⟨_, rfl⟩
  rw [← ha, ← hmm]
  rw [← hmm] at e2 hm
  obtain ⟨w3, w4⟩ := wrap_in (z := (m : Int)) (by omega) (by omega)
  clear h hb h1 h2 h3 h4 ha hm hmm
  generalize (a : Int) = A at *
  generalize (S : Int) = S' at *
  generalize (m : Int) = M at *
  generalize (t : Int) = t' at *
  generalize (u : Int) = u' at *
  go_enter Try.func31, Try.ntmps31
  go_wp2_with fail
  go_quiet (fail)
  go_wp2_with fail
  go_ret
  exact ⟨rfl, (Chg.refl _ w).drewN _⟩

set_option maxHeartbeats 1000000 in
set_option maxRecDepth 100000 in
theorem refAt_in (i : Nat) (hi : i < S) : Calls Try.prog 29 #[.pointer (some ⟨P, 0, none⟩), .int .i64 (i : Int)] w (Says w (.tuple #[.int .i64 (((t + i) % S : Nat) : Int), .int .i64 0])) := by
  have h1 := h.lo
  have h2 := h.hi
  have h3 := h.tail
  have c0 := hb.cell (j := 0) rfl
  have c1 := hb.cell (j := 1) rfl
  have g0 : ¬ (i : Int) < 0 := by omega
  have g1 : ¬ (S : Int) ≤ (i : Int) := by omega
  obtain ⟨a, ha⟩ : ∃ a, a = t + i := ⟨_, rfl⟩
  have e1 : (t : Int) + (i : Int) = (a : Int) := by omega
  obtain ⟨w1, w2⟩ := wrap_in (z := (a : Int)) (by omega) (by omega)
  have e2 : Int.tmod (a : Int) (S : Int) = ((a % S : Nat) : Int) := rfl
  have e3 : ¬ (S : Int) = 0 := by omega
  have hm : a % S < S := Nat.mod_lt _ (by omega)
  obtain ⟨m, hmm⟩ : ∃ m, m = a % S := ⟨_, rfl⟩
  rw [← ha, ← hmm]
  rw [← hmm] at e2 hm
  obtain ⟨w3, w4⟩ := wrap_in (z := (m : Int)) (by omega) (by omega)
  clear h hb h1 h2 h3 hi ha hm hmm
  generalize (a : Int) = A at *
  generalize (S : Int) = S' at *
  generalize (m : Int) = M at *
  generalize (t : Int) = t' at *
  generalize (i : Int) = i' at *
  go_enter Try.func29, Try.ntmps29
  go_wp2_with fail
  go_quiet (fail)
  go_wp2_with fail
  go_ret2
  exact ⟨rfl, (Chg.refl _ w).drewN _⟩

set_option maxHeartbeats 1000000 in
set_option maxRecDepth 100000 in
theorem refAt_out (i : Int) (hi : i < 0 ∨ (S : Int) ≤ i) : Calls Try.prog 29 #[.pointer (some ⟨P, 0, none⟩), .int .i64 i] w (Says w (.tuple #[.int .i64 0, .int .i64 3])) := by
  have c0 := hb.cell (j := 0) rfl
  have _q := h.lo
  clear h hb _q
  by_cases h0 : i < 0
  · clear hi
    go_enter Try.func29, Try.ntmps29
    go_wp2_with fail
    go_ret2
    exact ⟨rfl, Chg.refl _ w⟩
  · have h1 : (S : Int) ≤ i := by omega
    clear hi
    go_enter Try.func29, Try.ntmps29
    go_wp2_with fail
    go_ret2
    exact ⟨rfl, Chg.refl _ w⟩

set_option maxHeartbeats 1000000 in
set_option maxRecDepth 100000 in
theorem refLive_any : Calls Try.prog 28 #[.pointer (some ⟨P, 0, none⟩)] w fun e w' => ∃ v, e = .returned v ∧ Hid (SpRow w' w.heap.size v (spn S t u)) ∧ Hid (Chg [] w w') := by
  have c1 := hb.cell (j := 1) rfl
  have c2 := hb.cell (j := 2) rfl
  have SP : Hid (∀ w', Chg [] w w' → w'.heap.size = w.heap.size → Calls Try.prog 46 #[.pointer (some ⟨P, 0, none⟩), .int .i64 (t : Int), .int .i64 (u : Int)] w' fun e w'' =>
      ∃ v, e = .returned v ∧ Hid (SpRow w'' w.heap.size v (spn S t u)) ∧ Hid (Chg [] w w'')) := fun w' c hz => (refSpans_any h w' (hb.chg c (by simp)) t u h.tail h.used).mono fun e w'' ⟨v, h1, h2, h3⟩ => ⟨v, h1, by rw [← hz]; exact h2, c.trans h3.out⟩
  have K : Hid (∀ w', Chg [] w w' → w'.cell? ⟨P, 1, none⟩ = some (.int .i64 (t : Int)) ∧ w'.cell? ⟨P, 2, none⟩ = some (.int .i64 (u : Int))) := fun w' c => ⟨(hb.chg c (by simp)).cell (j := 1) rfl, (hb.chg c (by simp)).cell (j := 2) rfl⟩
  have CQ : Hid (Chg [] w w) := Chg.refl _ _
  clear h hb
  go_enter Try.func28, Try.ntmps28
  go_wp2_with fail
  go_region_held3 (fun w' : World => w'.cell? ⟨P, 1, none⟩ = some (.int .i64 (t : Int)) ∧ w'.cell? ⟨P, 2, none⟩ = some (.int .i64 (u : Int))) (first | exact ⟨c1, c2⟩ | exact K.out _ CQ.out) (first
    | (go_at_call 46; refine (SP.out _ (CQ.out.drewN 1) rfl).mono ?_; rintro e w' ⟨v, rfl, O, C⟩; have CQ := C))
  go_wp2_with fail
  go_ret
  exact ⟨_, rfl, O, C⟩

omit h hb in
theorem rg_more {S t u n : Nat} (h : Rg S t u) (hn : n ≤ S - u) : Rg S t (u + n) := ⟨h.lo, h.hi, h.tail, by have := h.used; omega⟩

set_option maxHeartbeats 2000000 in
set_option maxRecDepth 100000 in
theorem refTake_ok (n : Nat) (hn : n ≤ S - u) : Calls Try.prog 26 #[.pointer (some ⟨P, 0, none⟩), .int .i64 (n : Int)] w fun e w' =>
    ∃ v, e = .returned (.tuple #[v, .int .i64 0]) ∧ Hid (RefB w' P S t (u + n)) ∧ Hid (SpRow w' w.heap.size v (spn S ((t + u) % S) n)) ∧ Hid (Chg [P] w w') := by
  have h1 := h.hi
  have h2 := h.used
  have RB : Hid (∀ w', Chg [] w w' → RefB w' P S t u) := fun w' c => hb.chg c (by simp)
  have c0 := hb.cell (j := 0) rfl
  have c2 := hb.cell (j := 2) rfl
  have HD : Hid (∀ w', Chg [] w w' → Calls Try.prog 31 #[.pointer (some ⟨P, 0, none⟩)] w' (Says w' (.int .i64 (((t + u) % S : Nat) : Int)))) := fun w' c => refHead_any h w' (RB.out w' c)
  have SP : Hid (∀ w', Chg [] w w' → Calls Try.prog 46 #[.pointer (some ⟨P, 0, none⟩), .int .i64 (((t + u) % S : Nat) : Int), .int .i64 (n : Int)] w' fun e w'' =>
      ∃ v, e = .returned v ∧ Hid (SpRow w'' w'.heap.size v (spn S ((t + u) % S) n)) ∧ Hid (Chg [] w' w'')) := fun w' c => refSpans_any h w' (RB.out w' c) _ n (h.head_lt u) (by omega)
  have g0 : ¬ (n : Int) < 0 := by omega
  obtain ⟨q, hq⟩ : ∃ q, q = S - u := ⟨_, rfl⟩
  have e1 : (S : Int) - (u : Int) = (q : Int) := by omega
  have g1 : ¬ (q : Int) < (n : Int) := by omega
  obtain ⟨m, hm⟩ : ∃ m, m = u + n := ⟨_, rfl⟩
  have e2 : (u : Int) + (n : Int) = (m : Int) := by omega
  have wq := (wrap_in (z := (q : Int)) (by omega) (by omega))
  have WM := Lib.hid (wrap_in (z := (m : Int)) (by omega) (by omega))
  rw [← hm]
  obtain ⟨f, hf⟩ : ∃ f, f = (t + u) % S := ⟨_, rfl⟩
  rw [← hf] at SP HD ⊢
  obtain ⟨wq1, wq2⟩ := wq
  clear h hb h1 h2 hn hq hm hf
  go_enter Try.func26, Try.ntmps26
  go_wp2_with fail
  go_quiet (fail)
  go_wp2_with fail
  refine (HD.out _ ((Chg.refl _ _).drewN _)).mono ?_
  rintro e w1 ⟨rfl, C1⟩
  have D1 := Lib.hid (((Chg.refl _ w).drewN _).trans C1.out)
  clear C1
  go_wp2_with fail
  refine (SP.out _ D1.out).mono ?_
  rintro e w2 ⟨v, rfl, O, C2⟩
  have D2 := Lib.hid (D1.out.trans C2.out)
  have O2 : Hid (SpRow w2 w.heap.size v (spn S f n)) := ownsRow_base O.out D1.out.size
  have hb2 := RB.out _ D2.out
  have k2 := hb2.cell (j := 2) rfl
  have kf := hb2.free 2
  obtain ⟨wm1, wm2⟩ := WM.out
  have R2 := Lib.hid (hb2.set 2 (.int .i64 (m : Int)))
  have hlt := (RB.out _ (Chg.refl _ w)).lt
  have O3 : Hid (SpRow (w2.setCell ⟨P, 2, none⟩ (.int .i64 (m : Int))) w.heap.size v (spn S f n)) := owns_chg O2.out ((Chg.refl [P] w2).setCell (.inl (by simp)) _) (fun k q hk => by
    have := (O2.out.lt k q).1
    rw [List.mem_singleton.1 hk] at this
    omega)
  clear hb2 c0 c2 O C2 hlt g0 g1 e1 wq1 wq2
  go_wp2_with fail
  go_ret2
  exact ⟨_, rfl, R2, O3, (D2.out.mono (by simp)).setCell (.inl (by simp)) _⟩

omit h hb in
theorem refTake_neg (n : Int) (hn : n < 0) : Calls Try.prog 26 #[.pointer (some ⟨P, 0, none⟩), .int .i64 n] w (Says w (.tuple #[.slice none 0 0, .int .i64 1])) := by
  go_enter Try.func26, Try.ntmps26
  go_wp2_with fail
  go_ret2
  exact ⟨rfl, Chg.refl _ _⟩

set_option maxHeartbeats 2000000 in
set_option maxRecDepth 100000 in
theorem refTake_full (n : Int) (hn : ((S - u : Nat) : Int) < n) : Calls Try.prog 26 #[.pointer (some ⟨P, 0, none⟩), .int .i64 n] w (Says w (.tuple #[.slice none 0 0, .int .i64 90])) := by
  have h1 := h.hi
  have h2 := h.used
  have c0 := hb.cell (j := 0) rfl
  have c2 := hb.cell (j := 2) rfl
  have g0 : ¬ n < 0 := by omega
  obtain ⟨q, hq⟩ : ∃ q, q = S - u := ⟨_, rfl⟩
  have e1 : (S : Int) - (u : Int) = (q : Int) := by omega
  have g1 : (q : Int) < n := by omega
  obtain ⟨wq1, wq2⟩ := (wrap_in (z := (q : Int)) (by omega) (by omega))
  clear h hb h1 h2 hn hq
  go_enter Try.func26, Try.ntmps26
  go_wp2_with fail
  go_quiet (fail)
  go_wp2_with fail
  go_ret2
  exact ⟨rfl, (Chg.refl _ _).drewN _⟩

omit h hb in
theorem refGive_neg (n : Int) (hn : n < 0) : Calls Try.prog 27 #[.pointer (some ⟨P, 0, none⟩), .int .i64 n] w (Says w (.tuple #[.slice none 0 0, .int .i64 1])) := by
  go_enter Try.func27, Try.ntmps27
  go_wp2_with fail
  go_ret2
  exact ⟨rfl, Chg.refl _ _⟩

set_option maxHeartbeats 2000000 in
set_option maxRecDepth 100000 in
theorem refGive_less (n : Int) (hn : (u : Int) < n) : Calls Try.prog 27 #[.pointer (some ⟨P, 0, none⟩), .int .i64 n] w (Says w (.tuple #[.slice none 0 0, .int .i64 91])) := by
  have c2 := hb.cell (j := 2) rfl
  have _q := h.lo
  have g0 : ¬ n < 0 := by omega
  clear h hb _q
  go_enter Try.func27, Try.ntmps27
  go_wp2_with fail
  go_ret2
  exact ⟨rfl, Chg.refl _ _⟩

set_option maxHeartbeats 4000000 in
set_option maxRecDepth 100000 in
theorem refGive_ok (n : Nat) (hn : n ≤ u) : Calls Try.prog 27 #[.pointer (some ⟨P, 0, none⟩), .int .i64 (n : Int)] w fun e w' =>
    ∃ v, e = .returned (.tuple #[v, .int .i64 0]) ∧ Hid (RefB w' P S ((t + n) % S) (u - n)) ∧ Hid (SpRow w' w.heap.size v (spn S t n)) ∧ Hid (Chg [P] w w') := by
  have h1 := h.hi
  have h2 := h.used
  have h3 := h.tail
  have h4 := h.lo
  have RB : Hid (∀ w', Chg [] w w' → RefB w' P S t u) := fun w' c => hb.chg c (by simp)
  have c1 := hb.cell (j := 1) rfl
  have c2 := hb.cell (j := 2) rfl
  have SP : Hid (∀ w', Chg [] w w' → Calls Try.prog 46 #[.pointer (some ⟨P, 0, none⟩), .int .i64 (t : Int), .int .i64 (n : Int)] w' fun e w'' =>
      ∃ v, e = .returned v ∧ Hid (SpRow w'' w'.heap.size v (spn S t n)) ∧ Hid (Chg [] w' w'')) := fun w' c => refSpans_any h w' (RB.out w' c) _ n h.tail (by omega)
  have g0 : ¬ (n : Int) < 0 := by omega
  have g1 : ¬ (u : Int) < (n : Int) := by omega
  obtain ⟨m, hm⟩ : ∃ m, m = u - n := ⟨_, rfl⟩
  have e2 : (u : Int) - (n : Int) = (m : Int) := by omega
  obtain ⟨a, ha⟩ : ∃ a, a = t + n := ⟨_, rfl⟩
  have e3 : (t : Int) + (n : Int) = (a : Int) := by omega
  obtain ⟨b, hbb⟩ : ∃ b, b = a % S := ⟨_, rfl⟩
  have e4 : Int.tmod (a : Int) (S : Int) = (b : Int) := by rw [hbb]; rfl
  have e5 : ¬ (S : Int) = 0 := by omega
  have hbl : b < S := by rw [hbb]; exact Nat.mod_lt _ (by omega)
  have WM := Lib.hid (wrap_in (z := (m : Int)) (by omega) (by omega))
  have WA := Lib.hid (wrap_in (z := (a : Int)) (by omega) (by omega))
  have WB := Lib.hid (wrap_in (z := (b : Int)) (by omega) (by omega))
  rw [← hm, ← ha, ← hbb]
  have hPl := hb.lt
  clear h hb h1 h2 h3 h4 hn hm ha hbb hbl
  go_enter Try.func27, Try.ntmps27
  go_wp2_with fail
  refine (SP.out _ (Chg.refl _ _)).mono ?_
  rintro e w2 ⟨v, rfl, O, C2⟩
  clear c1 c2 SP g0 g1
  have hb2 := RB.out _ C2.out
  have k0 := hb2.cell (j := 0) rfl
  have k1 := hb2.cell (j := 1) rfl
  have kf := hb2.free 1
  have R2 := hb2.set 1 (.int .i64 (b : Int))
  have R3 := R2.set 2 (.int .i64 (m : Int))
  have k2 := R2.cell (j := 2) rfl
  have kg := R2.free 2
  replace R3 := Lib.hid R3
  have CC : Hid (Chg [P] w2 ((w2.setCell ⟨P, 1, none⟩ (.int .i64 (b : Int))).setCell ⟨P, 2, none⟩ (.int .i64 (m : Int)))) := ((Chg.refl [P] w2).setCell (.inl (by simp)) _).setCell (.inl (by simp)) _
  clear hb2 R2 RB
  obtain ⟨wa1, wa2⟩ := WA.out
  obtain ⟨wb1, wb2⟩ := WB.out
  obtain ⟨wm1, wm2⟩ := WM.out
  have O3 : Hid (SpRow ((w2.setCell ⟨P, 1, none⟩ (.int .i64 (b : Int))).setCell ⟨P, 2, none⟩ (.int .i64 (m : Int))) w.heap.size v (spn S t n)) := owns_chg O.out CC.out (fun k q hk => by
    have := (O.out.lt k q).1
    rw [List.mem_singleton.1 hk] at this
    omega)
  obtain ⟨S', hS'⟩ : ∃ S' : Int, S' = (S : Int) := ⟨_, rfl⟩
  rw [← hS'] at k0 e4 e5
  clear hS'
  go_wp2_with fail
  go_still_tail 14, (by kernel_rfl)
  change wpList _ _ _ _ _ w2.drew
  go_wp2_with fail
  go_ret2
  exact ⟨_, rfl, R3, O3, ((C2.out.mono (by simp)).trans CC.out).drew⟩

end

set_option maxHeartbeats 1000000 in
set_option maxRecDepth 100000 in
theorem refNew_ok {S t u : Nat} (h : Rg S t u) (w : World) : Calls Try.prog 9 #[.int .i64 (S : Int), .int .i64 (t : Int), .int .i64 (u : Int)] w fun e w' =>
    e = .returned (.tuple #[.pointer (some ⟨w.heap.size, 0, none⟩), .int .i64 0]) ∧ Hid (RefB w' w.heap.size S t u) ∧ Hid (Chg [] w w') := by
  have h1 := h.lo
  have h2 := h.hi
  have h3 := h.tail
  have h4 := h.used
  have g1 : ¬ (S : Int) < 5 := by omega
  have g2 : ¬ (2048 : Int) < S := by omega
  have g3 : ¬ (t : Int) < 0 := by omega
  have g4 : ¬ (S : Int) ≤ t := by omega
  have g5 : ¬ (u : Int) < 0 := by omega
  have g6 : ¬ (S : Int) < u := by omega
  clear h h1 h2 h3 h4
  go_enter Try.func9, Try.ntmps9
  go_wp2_with fail
  go_ret2
  exact ⟨rfl, Blk.made w [.int .i64 (S : Int), .int .i64 (t : Int), .int .i64 (u : Int)] 70, (Chg.refl _ _).alloc _⟩

/-- No ring of the document's. -/
def NoRef (w : World) (e : Ending) (w' : World) : Prop := e = .returned (.tuple #[.pointer none, .int .i64 1]) ∧ w = w'

set_option maxHeartbeats 1000000 in
set_option maxRecDepth 100000 in
theorem refNew_no (s t u : Int) (w : World) (h : s < 5 ∨ 2048 < s ∨ t < 0 ∨ s ≤ t ∨ u < 0 ∨ s < u) : Calls Try.prog 9 #[.int .i64 s, .int .i64 t, .int .i64 u] w (NoRef w) := by
  by_cases g1 : s < 5
  · clear h
    go_enter Try.func9, Try.ntmps9
    go_wp2_with fail
    go_ret2
    exact ⟨rfl, rfl⟩
  by_cases g2 : 2048 < s
  · clear h
    go_enter Try.func9, Try.ntmps9
    go_wp2_with fail
    go_ret2
    exact ⟨rfl, rfl⟩
  by_cases g3 : t < 0
  · clear h
    go_enter Try.func9, Try.ntmps9
    go_wp2_with fail
    go_ret2
    exact ⟨rfl, rfl⟩
  by_cases g4 : s ≤ t
  · clear h
    go_enter Try.func9, Try.ntmps9
    go_wp2_with fail
    go_ret2
    exact ⟨rfl, rfl⟩
  by_cases g5 : u < 0
  · clear h
    go_enter Try.func9, Try.ntmps9
    go_wp2_with fail
    go_ret2
    exact ⟨rfl, rfl⟩
  have g6 : s < u := by omega
  clear h
  go_enter Try.func9, Try.ntmps9
  go_wp2_with fail
  go_ret2
  exact ⟨rfl, rfl⟩

end Go.Proofs.Ytkkjhlihionlkaa
