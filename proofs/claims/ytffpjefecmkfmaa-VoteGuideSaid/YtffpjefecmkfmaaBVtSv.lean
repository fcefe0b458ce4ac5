/-
  SameVerdict; what a verdict's states are at most. By an AI agent.
-/
import Derived.Test.YtffpjefecmkfmaaBVtArow
import Derived.Test.YtffpjefecmkfmaaBVtCong
import Derived.Test.YtffpjefecmkfmaaBVtKn
import Derived.Test.YtffpjefecmkfmaaBSpSame
import Derived.Test.YtffpjefecmkfmaaBRefSpChk
namespace Go.Proofs.Ytffpjefecmkfmaa
open Go.RowKit

theorem Vt.out_len (ds : List BalD) : (Vt.out ds).st.length ≤ 140737488355328 := by
  unfold Vt.out
  by_cases h : Vt.err ds = 0
  · rw [if_pos h]
    show (Vt.stsTo ds _ _).length ≤ _
    rw [Vt.stsTo_len]
    have hm : Vt.most ds ≠ 0 := by
      intro e
      unfold Vt.err at h
      by_cases hn : 4 ≤ ds.length ∧ ds.length ≤ 17
      · rw [if_pos hn] at h
        have hr : Vt.refusal ds = 150 := by unfold Vt.refusal; rw [if_pos e]
        rw [hr] at h
        simp at h
      · rw [if_neg hn] at h; cases h
    have q := (Vt.cnt_is (Vt.guide_cnt hm)).ok
    have q1 := q.1.2.1
    have q2 := q.2.1.2.2.2.2.2.2.2.2
    omega
  · rw [if_neg h]
    show (0 : Nat) ≤ _
    decide

set_option maxHeartbeats 4000000 in
set_option maxRecDepth 100000 in
theorem sameVerdict_any (s : Sup) (c j : Bool) (u v : Value) (w : World) (hu : Sl w u s.st) (hv : Sl w v s.st) (hg : s.st.length ≤ 140737488355328) :
    Calls Try.prog 13 #[verdV s u c j, verdV s v c j] w fun e w' => e = .returned (.bool true) ∧ Hid (Chg [] w w') := by
  obtain ⟨W2, hW2⟩ : ∃ W2, W2 = (w.alloc (.cells (verdCells s u c j).toArray 31)).alloc (.cells (verdCells s v c j).toArray 31) := ⟨_, rfl⟩
  obtain ⟨B1, B2, C2⟩ := two_blocks w (verdCells s u c j) (verdCells s v c j) 31 31 hW2
  have SS := Lib.hid (same_super s u v W2 (hu.chg C2 (by simp)) (hv.chg C2 (by simp)) hg)
  obtain ⟨uo, uc, rfl⟩ := hu.slice
  obtain ⟨vo, vc, rfl⟩ := hv.slice
  replace C2 := Lib.hid C2
  unfold verdV
  unfold verdCells at *
  unfold Sup.val at SS
  have a0 := B1.cell (j := 0) rfl
  have a1 := B1.cell (j := 1) rfl
  have a2 := B1.cell (j := 2) rfl
  have a3 := B1.cell (j := 3) rfl
  have a4 := B1.cell (j := 4) rfl
  have a5 := B1.cell (j := 5) rfl
  have a6 := B1.cell (j := 6) rfl
  have a7 := B1.cell (j := 7) rfl
  have a8 := B1.cell (j := 8) rfl
  have a9 := B1.cell (j := 9) rfl
  have a10 := B1.cell (j := 10) rfl
  have a11 := B1.cell (j := 11) rfl
  clear B1 B2 hu hv
  rw [hW2] at SS C2
  clear hW2 a0 a1 a2 a3 a4 a5 a6 a7 a8 a9 a10 a11
  clear W2
  go_enter Try.func13, Try.ntmps13
  cases c <;> cases j
  all_goals (
    go_wp2_with fail
    refine SS.out.mono ?_
    rintro e w3 ⟨rfl, C3⟩
    have C3' := Lib.hid (C2.out.trans C3.out)
    clear SS C2 C3
    go_wp2_with fail
    go_ret
    exact ⟨rfl, C3'⟩)

end Go.Proofs.Ytffpjefecmkfmaa

/-
  What the members say of states, cursor and safe: nothing hangs on it while the journal's ballot counts. By an AI agent.
-/
namespace Go.Proofs.Ytffpjefecmkfmaa
open Go.RowKit

/-- A member's superblock with the journal's words in its mouth. -/
def Sup.told (s j : Sup) (i : Nat) : Sup := { s with st := j.st, cur := j.cur, safe := 1, lost := decide (i % 2 = 1) }

theorem Sup.told_ok {s j : Sup} {i : Nat} (h : s.Ok) (hj : j.Ok) (hg : s.m = j.m ∧ s.c = j.c ∧ s.t = j.t) : (s.told j i).Ok := by
  obtain ⟨h1, ⟨b1, b2, b3, b4, b5, b6, b7, b8, b9⟩, h3, h4⟩ := h
  obtain ⟨k1, ⟨c1, c2, c3, c4, c5, c6, c7, c8, c9⟩, k3, ⟨k4, k5, k6, k7⟩⟩ := hj
  refine ⟨h1, ⟨b1, b2, Nat.le_refl 1, b1, b5, b6, b7, b8, ?_⟩, k3, k4, k5, ?_, k7⟩
  · show (j.st.length : Int) = s.m
    rw [hg.1]; exact c9
  · show j.cur < s.t
    rw [hg.2.2]; exact k6

theorem Sup.told_fit {s j : Sup} {i : Nat} (h : s.Fit) (hj : j.Fit) : (s.told j i).Fit := ⟨h.id, h.ev, by show (1 : Nat) < _; decide, h.role, h.m, h.c, h.t, h.ring, hj.cur, hj.st⟩

/-- The ballots so far. -/
structure GRel (ds : List BalD) (n : Nat) (j : Sup) (ms : List BalD) : Prop where
  at_ : ∀ (k : Nat) d, ms[k]? = some d → ∃ d0, ds[k]? = some d0 ∧ d.has = d0.has ∧ (d.s = d0.s ∨ (d0.s.Ok ∧ (d0.s.m = j.m ∧ d0.s.c = j.c ∧ d0.s.t = j.t) ∧ k + 1 ≠ n ∧ d.s = d0.s.told j k))

theorem GRel.nil (ds : List BalD) (n : Nat) (j : Sup) : GRel ds n j [] := ⟨fun k d h => by simp at h⟩

theorem GRel.push {ds ms : List BalD} {n i : Nat} {j : Sup} {d0 d : BalD} (h : GRel ds n j ms) (hd : ds[i]? = some d0) (hl : ms.length = i) (h1 : d.has = d0.has) (k : d.s = d0.s ∨ (d0.s.Ok ∧ (d0.s.m = j.m ∧ d0.s.c = j.c ∧ d0.s.t = j.t) ∧ i + 1 ≠ n ∧ d.s = d0.s.told j i)) : GRel ds n j (ms ++ [d]) := by
  refine ⟨fun q x hx => ?_⟩
  by_cases hi : q < ms.length
  · rw [List.getElem?_append_left hi] at hx
    exact h.at_ q x hx
  · rw [List.getElem?_append_right (by omega)] at hx
    have e0 : q - ms.length = 0 := by
      have := (List.getElem?_eq_some_iff.1 hx).1
      simp at this
      omega
    rw [e0] at hx
    obtain rfl : d = x := by simpa using hx
    have : q = i := by omega
    subst this
    exact ⟨d0, hd, h1, k⟩

theorem GRel.cong {ds ms : List BalD} {n : Nat} {dj : BalD} (h : GRel ds n dj.s ms) (hn : n = ds.length) (hl : ms.length = n) (h0 : 0 < n) (hdj : ds[n - 1]? = some dj) (hf : Vt.fine dj (n - 1) n = true) : Vt.err ds = Vt.err ms ∧ Vt.out ds = Vt.out ms ∧ Vt.ch ds = Vt.ch ms ∧ Vt.jn ds = Vt.jn ms := by
  have hjok : dj.s.Ok := by
    unfold Vt.fine at hf
    simp only [Bool.and_eq_true, decide_eq_true_eq] at hf
    exact hf.1.1.2
  have key : ∀ i, i < n → ∃ d d0, ms[i]? = some d ∧ ds[i]? = some d0 ∧ d.has = d0.has ∧ (d.s = d0.s ∨ (d0.s.Ok ∧ (d0.s.m = dj.s.m ∧ d0.s.c = dj.s.c ∧ d0.s.t = dj.s.t) ∧ i + 1 ≠ n ∧ d.s = d0.s.told dj.s i)) := fun i hi => by
    have e : ms[i]? = some (ms[i]'(by omega)) := List.getElem?_eq_getElem _
    obtain ⟨d0, q1, q2⟩ := h.at_ i _ e
    exact ⟨_, d0, e, q1, q2⟩
  have hc : ∀ i, Vt.cnt ds i = Vt.cnt ms i := fun i => by
    by_cases hi : i < n
    · obtain ⟨d, d0, e1, e2, q1, q⟩ := key i hi
      rw [Vt.cnt_at e1, Vt.cnt_at e2, ← hn, hl]
      unfold Vt.fine
      rw [q1]
      rcases q with q2 | ⟨q2, q3, _, q4⟩
      · rw [q2]
      · rw [q4, decide_eq_true q2, decide_eq_true (Sup.told_ok (i := i) q2 hjok q3)]
        rfl
    · rw [Vt.cnt_out (by omega), Vt.cnt_out (by omega)]
  have hev : ∀ i, i < n → (Vt.sp ms i).ev = (Vt.sp ds i).ev ∧ ∀ x : Sup, (Vt.sp ms i).akin x = (Vt.sp ds i).akin x := fun i hi => by
    obtain ⟨d, d0, e1, e2, _, q⟩ := key i hi
    rw [Vt.sp_at e1, Vt.sp_at e2]
    rcases q with q2 | ⟨_, _, _, q4⟩
    · rw [q2]; exact ⟨rfl, fun _ => rfl⟩
    · rw [q4]; exact ⟨rfl, fun _ => rfl⟩
  have hlt : ∀ i, Vt.cnt ds i = true → i < n := fun i hi => by have := Vt.cnt_lt hi; omega
  have hjr : Vt.jr ds = n - 1 := by unfold Vt.jr; rw [← hn]
  have hcj : Vt.cnt ds (Vt.jr ds) = true := by
    rw [hjr, Vt.cnt_at hdj, ← hn]
    exact hf
  refine Vt.congr (by omega) hc (fun i hi => (hev i (hlt i hi)).1) (fun i k hi hk => ?_) (fun _ => ?_) (fun e => by rw [hcj] at e; cases e)
  · rw [(hev i (hlt i hi)).2, Sup.akin_comm _ (Vt.sp ms k), (hev k (hlt k hk)).2, Sup.akin_comm]
  · rw [hjr]
    obtain ⟨d, d0, e1, e2, _, q⟩ := key (n - 1) (by omega)
    rw [Vt.sp_at e1, Vt.sp_at e2]
    rcases q with q2 | ⟨_, _, q3, _⟩
    · exact q2
    · exact absurd (by omega) q3

theorem geo_ne (m c t m' c' t' : Int) (w : World) : (binOp .neq 26 (.agg #[.int .i64 m, .int .i64 c, .int .i64 t]) (.agg #[.int .i64 m', .int .i64 c', .int .i64 t'])).run Try.prog w = .ok (.bool (!(m == m' && c == c' && t == t'))) w := by
  by_cases h1 : m = m'
  · by_cases h2 : c = c'
    · by_cases h3 : t = t'
      · subst h1; subst h2; subst h3
        go_simp
      · have h3b : (t == t') = false := by simpa using h3
        subst h1; subst h2
        go_simp
    · have h2b : (c == c') = false := by simpa using h2
      subst h1
      go_simp
  · have h1b : (m == m') = false := by simpa using h1
    go_simp

end Go.Proofs.Ytffpjefecmkfmaa
