/-
  The program's bay: its small calls. By an AI agent.
-/
import Derived.Test.YtljhpdgjajhgbaaByRep
namespace Go.Proofs.Ytljhpdgjajhgbaa
open Go.RowKit Go.Maps

section
variable (b bt n : Nat) (w : World) (c0 : w.cell? ⟨b, 0, none⟩ = some (.slice (some ⟨bt, 0, none⟩) n n))
include c0

set_option maxHeartbeats 1000000 in
set_option maxRecDepth 100000 in
theorem tray_in (i : Nat) (hi : i < n) :
    Calls Try.prog 52 #[.pointer (some ⟨b, 0, none⟩), .int .i64 (i : Int)] w fun e w' => e = .returned (.pointer (some ⟨bt, i * 3, none⟩)) ∧ w' = w := by
  have h1 : (0 : Int) ≤ i := Int.natCast_nonneg _
  have h2 : ¬ (i : Int) < 0 := by omega
  have h3 : (i : Int) < n := by omega
  have h4 : ¬ (n : Int) ≤ i := by omega
  go_enter Try.func52, Try.ntmps52
  go_wp2_with fail
  go_ret
  exact ⟨rfl, rfl⟩

set_option maxHeartbeats 1000000 in
set_option maxRecDepth 100000 in
theorem tray_out (s : Int) (hs : I64 s) (ho : s < 0 ∨ (n : Int) ≤ s) :
    Calls Try.prog 52 #[.pointer (some ⟨b, 0, none⟩), .int .i64 s] w fun e w' => e = .returned (.pointer none) ∧ w' = w := by
  obtain ⟨hs1, hs2⟩ := hs
  by_cases h1 : s < 0
  · clear ho
    go_enter Try.func52, Try.ntmps52
    go_wp2_with fail
    go_ret
    exact ⟨rfl, rfl⟩
  · have h2 : (n : Int) ≤ s := by omega
    clear ho
    go_enter Try.func52, Try.ntmps52
    go_wp2_with fail
    go_ret
    exact ⟨rfl, rfl⟩

set_option maxHeartbeats 1000000 in
set_option maxRecDepth 100000 in
theorem drive_out (s : Int) (hs : I64 s) (ho : s < 0 ∨ (n : Int) ≤ s) :
    Calls Try.prog 48 #[.pointer (some ⟨b, 0, none⟩), .int .i64 s] w fun e w' => e = .returned (.tuple #[.pointer none, .int .u16 1]) ∧ w' = w := by
  have T := Lib.hid (tray_out b bt n w c0 s hs ho)
  clear hs ho c0
  go_enter Try.func48, Try.ntmps48
  go_wp2_with fail
  refine T.out.mono ?_
  rintro e w1 ⟨rfl, hw⟩
  subst hw
  clear T
  go_wp2_with fail
  go_ret2
  exact ⟨rfl, rfl⟩

set_option maxHeartbeats 1000000 in
set_option maxRecDepth 100000 in
theorem drive_in (i : Nat) (hi : i < n) (p : Option Nat) (cp : w.cell? ⟨bt, i * 3, none⟩ = some (ptrV p)) :
    Calls Try.prog 48 #[.pointer (some ⟨b, 0, none⟩), .int .i64 (i : Int)] w fun e w' => e = .returned (.tuple #[ptrV p, .int .u16 (if p = none then 51 else 0)]) ∧ w' = w := by
  have T := Lib.hid (tray_in b bt n w c0 i hi)
  clear hi c0
  cases p with
  | none =>
    have cp' : w.cell? ⟨bt, i * 3, none⟩ = some (.pointer none) := cp
    clear cp
    go_enter Try.func48, Try.ntmps48
    go_wp2_with fail
    refine T.out.mono ?_
    rintro e w1 ⟨rfl, hw⟩
    subst hw
    clear T
    go_wp2_with fail
    go_ret2
    exact ⟨rfl, rfl⟩
  | some k =>
    have cp' : w.cell? ⟨bt, i * 3, none⟩ = some (.pointer (some ⟨k, 0, none⟩)) := cp
    clear cp
    go_enter Try.func48, Try.ntmps48
    go_wp2_with fail
    refine T.out.mono ?_
    rintro e w1 ⟨rfl, hw⟩
    subst hw
    clear T
    go_wp2_with fail
    go_ret2
    exact ⟨rfl, rfl⟩

end

set_option maxHeartbeats 1000000 in
set_option maxRecDepth 100000 in
theorem running_none (t o : Nat) (w : World) (cp : w.cell? ⟨t, o, none⟩ = some (.pointer none)) :
    Calls Try.prog 53 #[.pointer (some ⟨t, o, none⟩)] w fun e w' => e = .returned (.bool false) ∧ ∃ q, w' = w.drewN q := by
  go_enter Try.func53, Try.ntmps53
  go_wp2_with fail
  go_ret
  exact ⟨rfl, 0, rfl⟩

set_option maxHeartbeats 1000000 in
set_option maxRecDepth 100000 in
theorem running_some (t o k : Nat) (F : List Nat) (e0 : Dev) (w : World) (cp : w.cell? ⟨t, o, none⟩ = some (.pointer (some ⟨k, 0, none⟩))) (h : (DevT k e0 F).P w) :
    Calls Try.prog 53 #[.pointer (some ⟨t, o, none⟩)] w fun e w' => e = .returned (.bool (!e0.disk.bad)) ∧ ∃ q, w' = w.drewN q := by
  have h' : DevIn w k F e0 := h
  obtain ⟨g, Fd, _, _, hb, hd⟩ := h'.rep
  have cd := hb.cell (j := 0) rfl
  have T := Lib.hid (dfailed_any g Fd e0.disk w hd)
  generalize e0.disk.bad = bad at *
  clear h h' hb hd
  go_enter Try.func53, Try.ntmps53
  go_wp2_with fail
  refine T.out.mono ?_
  rintro e w1 ⟨rfl, q, hw⟩
  clear T
  go_wp2_with fail
  go_ret
  exact ⟨rfl, q, rfl⟩

/-- What 'spend' leaves of an allowance, and what it says. -/
def spent (n : Option Nat) : Option Nat := match n with
  | some 0 => none
  | some (m + 1) => some m
  | none => none

set_option maxHeartbeats 1000000 in
set_option maxRecDepth 100000 in
theorem spend_any (g o : Nat) (t : TypeId) (vs : List Value) (n : Option Nat) (w : World) (B : Blk w g t vs) (v0 : vs[o]? = some (.bool n.isSome)) (v1 : vs[o + 1]? = some (.int .i64 ((n.getD 0 : Nat) : Int))) (hn : ∀ m, n = some m → m ≤ 9223372036854775807) :
    Calls Try.prog 61 #[.pointer (some ⟨g, o, none⟩)] w fun e w' => e = .returned (.bool (n == some 0)) ∧
      Hid (Blk w' g t ((vs.set o (.bool (spent n).isSome)).set (o + 1) (.int .i64 (((spent n).getD 0 : Nat) : Int)))) ∧ Hid (Chg [g] w w') := by
  have c0 := B.cell v0
  have c1 := B.cell v1
  have f0 := B.free o
  have f1 := B.free (o + 1)
  have hl0 := (List.getElem?_eq_some_iff.1 v0).1
  have hl1 := (List.getElem?_eq_some_iff.1 v1).1
  match n, hn with
  | none, _ =>
    have E : Hid (Blk w g t ((vs.set o (.bool (spent none).isSome)).set (o + 1) (.int .i64 (((spent none).getD 0 : Nat) : Int)))) := by
      have e0 : vs.set o (.bool (spent none).isSome) = vs := by
        obtain ⟨h, e⟩ := List.getElem?_eq_some_iff.1 v0
        rw [show (Value.bool (spent none).isSome) = vs[o] from e.symm]
        exact List.set_getElem_self h
      have e1 : vs.set (o + 1) (.int .i64 (((spent none).getD 0 : Nat) : Int)) = vs := by
        obtain ⟨h, e⟩ := List.getElem?_eq_some_iff.1 v1
        rw [show (Value.int .i64 (((spent none).getD 0 : Nat) : Int)) = vs[o + 1] from e.symm]
        exact List.set_getElem_self h
      show Blk _ _ _ _
      rw [e0, e1]
      exact B
    have c0' : w.cell? ⟨g, o, none⟩ = some (.bool false) := c0
    clear B v0 v1 c0 c1 f0 f1 hl0 hl1
    go_enter Try.func61, Try.ntmps61
    go_wp2_with fail
    go_ret
    exact ⟨rfl, E, Chg.refl _ _⟩
  | some 0, _ =>
    have c0' : w.cell? ⟨g, o, none⟩ = some (.bool true) := c0
    have c1' : w.cell? ⟨g, o + 1, none⟩ = some (.int .i64 0) := c1
    have E : Hid (Blk ((w.setCell ⟨g, o, none⟩ (.bool false)).setCell ⟨g, o + 1, none⟩ (.int .i64 0)) g t ((vs.set o (.bool (spent (some 0)).isSome)).set (o + 1) (.int .i64 (((spent (some 0)).getD 0 : Nat) : Int)))) := (B.set o (.bool false)).set (o + 1) (.int .i64 0)
    have C : Hid (Chg [g] w ((w.setCell ⟨g, o, none⟩ (.bool false)).setCell ⟨g, o + 1, none⟩ (.int .i64 0))) := ((Chg.refl _ _).setCell (.inl (by simp)) _).setCell (.inl (by simp)) _
    clear B v0 v1 c0 c1 hl0 hl1
    go_enter Try.func61, Try.ntmps61
    go_wp2_with fail
    go_ret
    exact ⟨rfl, E, C⟩
  | some (m + 1), hn =>
    have hm := hn (m + 1) rfl
    have c0' : w.cell? ⟨g, o, none⟩ = some (.bool true) := c0
    obtain ⟨M, hM⟩ : ∃ M : Int, M = ((m + 1 : Nat) : Int) := ⟨_, rfl⟩
    have c1' : w.cell? ⟨g, o + 1, none⟩ = some (.int .i64 M) := by rw [hM]; exact c1
    have hM1 : ¬ M = 0 := by omega
    have hM2 : 0 < M := by omega
    have hM3 : M ≤ 9223372036854775807 := by omega
    have E : Hid (Blk (w.setCell ⟨g, o + 1, none⟩ (.int .i64 (M - 1))) g t ((vs.set o (.bool (spent (some (m + 1))).isSome)).set (o + 1) (.int .i64 (((spent (some (m + 1))).getD 0 : Nat) : Int)))) := by
      have e0 : vs.set o (.bool (spent (some (m + 1))).isSome) = vs := by
        obtain ⟨h, e⟩ := List.getElem?_eq_some_iff.1 v0
        rw [show (Value.bool (spent (some (m + 1))).isSome) = vs[o] from e.symm]
        exact List.set_getElem_self h
      show Blk _ _ _ _
      rw [e0, show ((((spent (some (m + 1))).getD 0 : Nat)) : Int) = M - 1 from by show (m : Int) = M - 1; omega]
      exact B.set (o + 1) _
    have C : Hid (Chg [g] w (w.setCell ⟨g, o + 1, none⟩ (.int .i64 (M - 1)))) := (Chg.refl _ _).setCell (.inl (by simp)) _
    have e1 : (some (m + 1) == some 0) = false := by simp
    rw [e1]
    clear B v0 v1 c0 c1 hl0 hl1 e1
    replace hM := Lib.hid hM
    go_enter Try.func61, Try.ntmps61
    go_wp2_with fail
    go_ret
    exact ⟨rfl, E, C⟩

theorem Turns.same {w : World} {F : List Nat} {T : List Nat → Thing} (h : (T F).P w) (hF : (T F).F = F) : Turns w F T w := ⟨F, h, fun k hk => .inl (by rw [hF] at hk; exact hk), Chg.refl _ _⟩

theorem Bay.Fit.same {y y' : Bay} (h : y.Fit) (hs : y'.slots = y.slots) (ht : ∀ n, y'.trip = some n → n ≤ 9223372036854775807) : y'.Fit :=
  ⟨by rw [hs]; exact h.len, by rw [hs]; exact h.devs, ht, by rw [hs]; exact h.clean⟩

theorem BRep.headTurns {w w' : World} {b : Nat} {F : List Nat} {y y' : Bay} {bt : Nat} {vs : List Value} {ps : Nat → Nat → Option Nat} {Fs : Nat → Nat → List Nat} (hlt : ∀ k ∈ F, k < w.heap.size) (hf : y'.Fit) (r : BRep w b F y bt vs ps Fs)
    (hs : y'.slots = y.slots) (hc : Chg [b] w w') (hb : Blk w' b 71 (bayVals bt y.slots.length y')) : Turns w F (BayT b y') w' :=
  ⟨F, ⟨fun k hk => Nat.lt_of_lt_of_le (hlt k hk) hc.size, hf, bt, vs, ps, Fs, r.head hs hc hb⟩, fun k hk => .inl hk, hc.mono (by intro k hk; rw [List.mem_singleton.1 hk]; exact r.inF.1)⟩

end Go.Proofs.Ytljhpdgjajhgbaa
