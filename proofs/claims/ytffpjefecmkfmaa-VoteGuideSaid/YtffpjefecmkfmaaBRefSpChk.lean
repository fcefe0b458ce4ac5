/-
  The document's Check of superblocks. By an AI agent. Printed by gen_rspchk.py.
-/
import Derived.Test.YtffpjefecmkfmaaBSpChk
namespace Go.Proofs.Ytffpjefecmkfmaa
open Go.RowKit

set_option maxHeartbeats 8000000 in
set_option maxRecDepth 100000 in
theorem refCheck_any (s : Sup) (u : Value) (w : World) (hu : Sl w u s.st) (hby : By s.st) (hg : s.st.length ≤ 140737488355328) :
    Calls Try.prog 12 #[s.val u] w fun e w' => e = .returned (.int .i64 s.err) ∧ Hid (Chg [] w w') := by
  obtain ⟨ao, cp, rfl⟩ := hu.slice
  have BYS := Lib.hid hby
  have CC : Hid (Chg [] w ((w.alloc (.cells #[.int .u64 (s.id : Int), .int .u64 (s.ev : Int), .int .u64 (s.safe : Int), .int .i64 s.role, .int .i64 s.m, .int .i64 s.c, .int .i64 s.t, .int .i64 s.ring, .bool s.lazy, .bool s.lost, .slice ao s.st.length cp, .int .i64 s.cur] 29)).alloc (.cells #[.int .i64 s.m, .int .i64 s.c, .int .i64 s.t] 26))) := ((Chg.refl _ w).alloc _).alloc _
  have SU := Lib.hid (hu.chg CC.out (by simp))
  have hln : (0 : Int) ≤ s.st.length := Int.natCast_nonneg _
  have ER := Lib.hid (fun h : ¬ s.Ok => show s.err = 70 by unfold Sup.err; rw [if_neg h])
  have ER0 := Lib.hid (fun h : s.Ok => show s.err = 0 by unfold Sup.err; rw [if_pos h])
  have OI := Lib.hid s.ok_iff
  generalize hE : s.err = E at *
  replace hE := Lib.hid hE
  clear hu hby
  unfold Sup.val
  by_cases h0 : s.m < 3
  case pos =>
    have e70 := ER.out (fun h => by
      have := (OI.out.1 h).1
      unfold Sup.numsOk at this
      omega)
    subst e70
    go_enter Try.func12, Try.ntmps12
    go_wp2_with fail
    go_ret
    exact ⟨rfl, CC.out⟩
  by_cases h1 : 16 < s.m
  case pos =>
    have e70 := ER.out (fun h => by
      have := (OI.out.1 h).1
      unfold Sup.numsOk at this
      omega)
    subst e70
    go_enter Try.func12, Try.ntmps12
    go_wp2_with fail
    go_ret
    exact ⟨rfl, CC.out⟩
  by_cases h2 : s.c < 1
  case pos =>
    have e70 := ER.out (fun h => by
      have := (OI.out.1 h).1
      unfold Sup.numsOk at this
      omega)
    subst e70
    go_enter Try.func12, Try.ntmps12
    go_wp2_with fail
    go_ret
    exact ⟨rfl, CC.out⟩
  by_cases h3 : 16 < s.c
  case pos =>
    have e70 := ER.out (fun h => by
      have := (OI.out.1 h).1
      unfold Sup.numsOk at this
      omega)
    subst e70
    go_enter Try.func12, Try.ntmps12
    go_wp2_with fail
    go_ret
    exact ⟨rfl, CC.out⟩
  by_cases h4 : s.t < 1
  case pos =>
    have e70 := ER.out (fun h => by
      have := (OI.out.1 h).1
      unfold Sup.numsOk at this
      omega)
    subst e70
    go_enter Try.func12, Try.ntmps12
    go_wp2_with fail
    go_ret
    exact ⟨rfl, CC.out⟩
  by_cases h5 : 256 < s.t
  case pos =>
    have e70 := ER.out (fun h => by
      have := (OI.out.1 h).1
      unfold Sup.numsOk at this
      omega)
    subst e70
    go_enter Try.func12, Try.ntmps12
    go_wp2_with fail
    go_ret
    exact ⟨rfl, CC.out⟩
  by_cases h6 : (s.ev : Int) < 1
  case pos =>
    have e70 := ER.out (fun h => by
      have := (OI.out.1 h).1
      unfold Sup.numsOk at this
      omega)
    subst e70
    go_enter Try.func12, Try.ntmps12
    go_wp2_with fail
    go_ret
    exact ⟨rfl, CC.out⟩
  by_cases h7 : 4611686018427387904 < (s.ev : Int)
  case pos =>
    have e70 := ER.out (fun h => by
      have := (OI.out.1 h).1
      unfold Sup.numsOk at this
      omega)
    subst e70
    go_enter Try.func12, Try.ntmps12
    go_wp2_with fail
    go_ret
    exact ⟨rfl, CC.out⟩
  by_cases h8 : (s.safe : Int) < 1
  case pos =>
    have e70 := ER.out (fun h => by
      have := (OI.out.1 h).1
      unfold Sup.numsOk at this
      omega)
    subst e70
    go_enter Try.func12, Try.ntmps12
    go_wp2_with fail
    go_ret
    exact ⟨rfl, CC.out⟩
  by_cases h9 : (s.ev : Int) < (s.safe : Int)
  case pos =>
    have e70 := ER.out (fun h => by
      have := (OI.out.1 h).1
      unfold Sup.numsOk at this
      omega)
    subst e70
    go_enter Try.func12, Try.ntmps12
    go_wp2_with fail
    go_ret
    exact ⟨rfl, CC.out⟩
  by_cases h10 : s.role < 0
  case pos =>
    have e70 := ER.out (fun h => by
      have := (OI.out.1 h).1
      unfold Sup.numsOk at this
      omega)
    subst e70
    go_enter Try.func12, Try.ntmps12
    go_wp2_with fail
    go_ret
    exact ⟨rfl, CC.out⟩
  by_cases h11 : s.m < s.role
  case pos =>
    have e70 := ER.out (fun h => by
      have := (OI.out.1 h).1
      unfold Sup.numsOk at this
      omega)
    subst e70
    go_enter Try.func12, Try.ntmps12
    go_wp2_with fail
    go_ret
    exact ⟨rfl, CC.out⟩
  by_cases h12 : s.ring < 5
  case pos =>
    have e70 := ER.out (fun h => by
      have := (OI.out.1 h).1
      unfold Sup.numsOk at this
      omega)
    subst e70
    go_enter Try.func12, Try.ntmps12
    go_wp2_with fail
    go_ret
    exact ⟨rfl, CC.out⟩
  by_cases h13 : 2048 < s.ring
  case pos =>
    have e70 := ER.out (fun h => by
      have := (OI.out.1 h).1
      unfold Sup.numsOk at this
      omega)
    subst e70
    go_enter Try.func12, Try.ntmps12
    go_wp2_with fail
    go_ret
    exact ⟨rfl, CC.out⟩
  by_cases h14 : (s.st.length : Int) = s.m
  case neg =>
    have e70 := ER.out (fun h => h14 (OI.out.1 h).2.1)
    subst e70
    have h14b : ((s.st.length : Int) == s.m) = false := by simpa using h14
    clear h14
    go_enter Try.func12, Try.ntmps12
    go_wp2_with fail
    go_ret
    exact ⟨rfl, CC.out⟩
  have h14b : ((s.st.length : Int) == s.m) = true := by simpa using h14
  have NO : Hid s.numsOk := by
    show s.numsOk
    unfold Sup.numsOk
    omega
  have hl16 : s.st.length ≤ 16 := by omega
  replace h14 := Lib.hid h14
  go_enter Try.func12, Try.ntmps12
  go_wp2_with fail
  go_loop [4, 5] (fun r i => ∃ k : Nat, k ≤ s.st.length ∧ i = .int .i64 k ∧ Hid (∀ x ∈ s.st.take k, 1 ≤ x ∧ x ≤ 3) ∧ r = .int .i64 (Sup.many (s.st.take k) : Nat)) (fun _ i => s.st.length - (intOf i).toNat)
  case atStart => exact ⟨0, Nat.zero_le _, rfl, (fun x hx => by simp at hx), rfl⟩
  case round =>
    obtain ⟨k, hk, rfl, A, rfl⟩ := hrel
    have hk0 : (0 : Int) ≤ k := Int.natCast_nonneg _
    by_cases hlt : k < s.st.length
    · have hk1 : (k : Int) < s.st.length := by omega
      have L : ∃ g o, ao = some ⟨g, o, none⟩ ∧ ((w.alloc (.cells #[.int .u64 (s.id : Int), .int .u64 (s.ev : Int), .int .u64 (s.safe : Int), .int .i64 s.role, .int .i64 s.m, .int .i64 s.c, .int .i64 s.t, .int .i64 s.ring, .bool s.lazy, .bool s.lost, .slice ao s.st.length cp, .int .i64 s.cur] 29)).alloc (.cells #[.int .i64 s.m, .int .i64 s.c, .int .i64 s.t] 26)).cell? ⟨g, o + k, none⟩ = some (.int .u8 (s.st.getD k 0)) := by
        rcases SU.out with ⟨h0, _⟩ | ⟨g, o, c', hv, hb, hc⟩
        · rw [h0] at hlt; simp at hlt
        · obtain ⟨rfl, rfl⟩ : ao = some ⟨g, o, none⟩ ∧ cp = c' := by simpa using hv
          exact ⟨g, o, rfl, hc k hlt⟩
      obtain ⟨g, o, rfl, hcell⟩ := L
      obtain ⟨x, hx⟩ : ∃ x, x = s.st.getD k 0 := ⟨_, rfl⟩
      rw [← hx] at hcell
      have hxx : s.st[k]? = some x := by rw [hx]; simp [List.getD, List.getElem?_eq_getElem hlt]
      have MS := Lib.hid (many_snoc hxx)
      have TS := Lib.hid (take_snoc hxx)
      have ml := many_le s.st k
      generalize Sup.many (s.st.take k) = q at *
      have hq0 : (0 : Int) ≤ q := Int.natCast_nonneg _
      have hq1 : (q : Int) ≤ 16 := by omega
      replace hx := Lib.hid hx
      have XM : Hid (x ∈ s.st) := List.mem_of_getElem? hxx
      clear hxx ml
      by_cases x1 : x < 1
      · have e70 := ER.out (fun h => by have := (OI.out.1 h).2.2.1 x XM.out; omega)
        subst e70
        go_wp2_with fail
        go_ret
        exact ⟨rfl, CC.out⟩
      · by_cases x3 : 3 < x
        · have e70 := ER.out (fun h => by have := (OI.out.1 h).2.2.1 x XM.out; omega)
          subst e70
          go_wp2_with fail
          go_ret
          exact ⟨rfl, CC.out⟩
        · have ALL : Hid (∀ y ∈ s.st.take (k + 1), 1 ≤ y ∧ y ≤ 3) := by
            show ∀ y ∈ _, _
            rw [TS.out]
            intro y hy
            rcases List.mem_append.1 hy with hy | hy
            · exact A.out y hy
            · rw [List.mem_singleton.1 hy]; omega
          by_cases x2 : x = 3
          · have x2b : (x == 3) = true := by simpa using x2
            have MS2 := MS.out
            rw [if_pos x2] at MS2
            replace MS2 := Lib.hid MS2
            clear x2 MS
            go_wp2_with fail
            exact ⟨⟨k + 1, by omega, by go_num, ALL, by rw [MS2.out]; rfl⟩, by simp [intOf]; omega⟩
          · have x2b : (x == 3) = false := by simpa using x2
            have MS2 := MS.out
            rw [if_neg x2] at MS2
            replace MS2 := Lib.hid MS2
            clear x2 MS
            go_wp2_with fail
            exact ⟨⟨k + 1, by omega, by go_num, ALL, by rw [MS2.out]; rfl⟩, by simp [intOf]; omega⟩
    · obtain rfl : k = s.st.length := by omega
      rw [List.take_length] at A ⊢
      have FULL := Lib.hid (fun (c1 : Sup.many s.st ≤ 1) (c2 : 0 ≤ s.cur) (c3 : s.cur < s.t) (c4 : Sup.many s.st = 0 → s.cur = 0) => OI.out.2 ⟨NO.out, h14.out, A.out, c1, c4, fun _ => ⟨c2, by omega⟩⟩)
      have BAD := Lib.hid (fun h : s.Ok => h.2.2.2)
      unfold Sup.done at BAD
      have hm0 : (0 : Int) ≤ Sup.many s.st := Int.natCast_nonneg _
      by_cases q1 : 1 < ((Sup.many s.st : Nat) : Int)
      · have e70 := ER.out (fun h => by have := (BAD.out h).1; omega)
        subst e70
        go_wp2_with fail
        go_ret
        exact ⟨rfl, CC.out⟩
      by_cases q2 : s.cur < 0
      · have e70 := ER.out (fun h => by have := (BAD.out h).2.1; omega)
        subst e70
        go_wp2_with fail
        go_ret
        exact ⟨rfl, CC.out⟩
      by_cases q3 : s.t ≤ s.cur
      · have e70 := ER.out (fun h => by have := (BAD.out h).2.2.1; omega)
        subst e70
        go_wp2_with fail
        go_ret
        exact ⟨rfl, CC.out⟩
      by_cases q4 : Sup.many s.st = 0
      · by_cases q5 : s.cur = 0
        · have e0 := ER0.out (FULL.out (by omega) (by omega) (by omega) (fun _ => q5))
          subst e0
          have q5b : (s.cur == 0) = true := by simpa using q5
          rw [q4]
          clear q1 q4 q5
          go_wp2_with fail
          go_ret
          exact ⟨rfl, CC.out⟩
        · have e70 := ER.out (fun h => q5 ((BAD.out h).2.2.2 q4))
          subst e70
          have q5b : (s.cur == 0) = false := by simpa using q5
          have q6 : ¬ s.cur < 0 := q2
          rw [q4]
          clear q1 q4 q5
          go_wp2_with fail
          go_ret
          exact ⟨rfl, CC.out⟩
      · have e0 := ER0.out (FULL.out (by omega) (by omega) (by omega) (fun h => absurd h q4))
        subst e0
        have q4b : (((Sup.many s.st : Nat) : Int) == 0) = false := by simpa using q4
        clear q4
        go_wp2_with fail
        go_ret
        exact ⟨rfl, CC.out⟩

end Go.Proofs.Ytffpjefecmkfmaa
