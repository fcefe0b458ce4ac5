/-
  Is it a superblock's content? By an AI agent.
-/
import Derived.Test.YtffpjefecmkfmaaBSpIn
import Derived.Test.YtffpjefecmkfmaaBG
namespace Go.Proofs.Ytffpjefecmkfmaa
open Go.RowKit

set_option maxHeartbeats 400000 in
theorem within_int (n a b : Int) (w : World) : Calls Try.prog 39 #[.int .i64 n, .int .i64 a, .int .i64 b] w fun e w' => e = .returned (.bool (decide (a ≤ n ∧ n ≤ b))) ∧ w' = w := by
  by_cases h1 : a ≤ n
  · by_cases h2 : n ≤ b
    · rw [show decide (a ≤ n ∧ n ≤ b) = true from decide_eq_true ⟨h1, h2⟩]
      go_enter Try.func39, Try.ntmps39
      go_wp2_with fail
      go_ret
      exact ⟨rfl, rfl⟩
    · rw [show decide (a ≤ n ∧ n ≤ b) = false from decide_eq_false (fun h => h2 h.2)]
      go_enter Try.func39, Try.ntmps39
      go_wp2_with fail
      go_ret
      exact ⟨rfl, rfl⟩
  · rw [show decide (a ≤ n ∧ n ≤ b) = false from decide_eq_false (fun h => h1 h.1)]
    go_enter Try.func39, Try.ntmps39
    go_wp2_with fail
    go_ret
    exact ⟨rfl, rfl⟩

set_option maxHeartbeats 400000 in
theorem within_word (n a b : Int) (w : World) : Calls Try.prog 40 #[.int .u64 n, .int .u64 a, .int .u64 b] w fun e w' => e = .returned (.bool (decide (a ≤ n ∧ n ≤ b))) ∧ w' = w := by
  by_cases h1 : a ≤ n
  · by_cases h2 : n ≤ b
    · rw [show decide (a ≤ n ∧ n ≤ b) = true from decide_eq_true ⟨h1, h2⟩]
      go_enter Try.func40, Try.ntmps40
      go_wp2_with fail
      go_ret
      exact ⟨rfl, rfl⟩
    · rw [show decide (a ≤ n ∧ n ≤ b) = false from decide_eq_false (fun h => h2 h.2)]
      go_enter Try.func40, Try.ntmps40
      go_wp2_with fail
      go_ret
      exact ⟨rfl, rfl⟩
  · rw [show decide (a ≤ n ∧ n ≤ b) = false from decide_eq_false (fun h => h1 h.1)]
    go_enter Try.func40, Try.ntmps40
    go_wp2_with fail
    go_ret
    exact ⟨rfl, rfl⟩

/-- Its numbers are valid. -/
def Sup.numsOk (s : Sup) : Prop := (3 ≤ s.m ∧ s.m ≤ 16) ∧ (1 ≤ s.c ∧ s.c ≤ 16) ∧ (1 ≤ s.t ∧ s.t ≤ 256) ∧ (1 ≤ (s.ev : Int) ∧ (s.ev : Int) ≤ 4611686018427387904) ∧ (1 ≤ (s.safe : Int) ∧ (s.safe : Int) ≤ (s.ev : Int)) ∧ (0 ≤ s.role ∧ s.role ≤ s.m) ∧ (5 ≤ s.ring ∧ s.ring ≤ 2048)

instance (s : Sup) : Decidable s.numsOk := by unfold Sup.numsOk; infer_instance

set_option maxHeartbeats 4000000 in
set_option maxRecDepth 100000 in
theorem nums_any (s : Sup) (u : Value) (w : World) :
    Calls Try.prog 35 #[s.val u] w fun e w' => e = .returned (.bool (decide s.numsOk)) ∧ Hid (Chg [] w w') := by
  unfold Sup.val
  go_enter Try.func35, Try.ntmps35
  go_wp2_with fail
  refine (within_int s.m 3 16 _).mono ?_
  rintro e w' ⟨rfl, rfl⟩
  by_cases h0 : (3 ≤ (s.m : Int) ∧ (s.m : Int) ≤ 16)
  case neg =>
    rw [decide_eq_false h0]
    have RS : s.numsOk → False := fun h => h0 h.1
    go_wp2_with fail
    go_ret
    exact ⟨by rw [decide_eq_false RS]; rfl, (Chg.refl _ w).alloc _⟩
  rw [decide_eq_true h0]
  replace h0 := Lib.hid h0
  go_wp2_with fail
  refine (within_int s.c 1 16 _).mono ?_
  rintro e w' ⟨rfl, rfl⟩
  by_cases h1 : (1 ≤ (s.c : Int) ∧ (s.c : Int) ≤ 16)
  case neg =>
    rw [decide_eq_false h1]
    have RS : s.numsOk → False := fun h => h1 h.2.1
    go_wp2_with fail
    go_ret
    exact ⟨by rw [decide_eq_false RS]; rfl, (Chg.refl _ w).alloc _⟩
  rw [decide_eq_true h1]
  replace h1 := Lib.hid h1
  go_wp2_with fail
  refine (within_int s.t 1 256 _).mono ?_
  rintro e w' ⟨rfl, rfl⟩
  by_cases h2 : (1 ≤ (s.t : Int) ∧ (s.t : Int) ≤ 256)
  case neg =>
    rw [decide_eq_false h2]
    have RS : s.numsOk → False := fun h => h2 h.2.2.1
    go_wp2_with fail
    go_ret
    exact ⟨by rw [decide_eq_false RS]; rfl, (Chg.refl _ w).alloc _⟩
  rw [decide_eq_true h2]
  replace h2 := Lib.hid h2
  go_wp2_with fail
  refine (within_word s.ev 1 4611686018427387904 _).mono ?_
  rintro e w' ⟨rfl, rfl⟩
  by_cases h3 : (1 ≤ (s.ev : Int) ∧ (s.ev : Int) ≤ 4611686018427387904)
  case neg =>
    rw [decide_eq_false h3]
    have RS : s.numsOk → False := fun h => h3 h.2.2.2.1
    go_wp2_with fail
    go_ret
    exact ⟨by rw [decide_eq_false RS]; rfl, (Chg.refl _ w).alloc _⟩
  rw [decide_eq_true h3]
  replace h3 := Lib.hid h3
  go_wp2_with fail
  refine (within_word s.safe 1 s.ev _).mono ?_
  rintro e w' ⟨rfl, rfl⟩
  by_cases h4 : (1 ≤ (s.safe : Int) ∧ (s.safe : Int) ≤ s.ev)
  case neg =>
    rw [decide_eq_false h4]
    have RS : s.numsOk → False := fun h => h4 h.2.2.2.2.1
    go_wp2_with fail
    go_ret
    exact ⟨by rw [decide_eq_false RS]; rfl, (Chg.refl _ w).alloc _⟩
  rw [decide_eq_true h4]
  replace h4 := Lib.hid h4
  go_wp2_with fail
  refine (within_int s.role 0 s.m _).mono ?_
  rintro e w' ⟨rfl, rfl⟩
  by_cases h5 : (0 ≤ (s.role : Int) ∧ (s.role : Int) ≤ s.m)
  case neg =>
    rw [decide_eq_false h5]
    have RS : s.numsOk → False := fun h => h5 h.2.2.2.2.2.1
    go_wp2_with fail
    go_ret
    exact ⟨by rw [decide_eq_false RS]; rfl, (Chg.refl _ w).alloc _⟩
  rw [decide_eq_true h5]
  replace h5 := Lib.hid h5
  go_wp2_with fail
  refine (within_int s.ring 5 2048 _).mono ?_
  rintro e w' ⟨rfl, rfl⟩
  by_cases h6 : (5 ≤ (s.ring : Int) ∧ (s.ring : Int) ≤ 2048)
  case neg =>
    rw [decide_eq_false h6]
    have RS : s.numsOk → False := fun h => h6 h.2.2.2.2.2.2
    go_wp2_with fail
    go_ret
    exact ⟨by rw [decide_eq_false RS]; rfl, (Chg.refl _ w).alloc _⟩
  rw [decide_eq_true h6]
  replace h6 := Lib.hid h6
  go_wp2_with fail
  go_ret
  have RS : s.numsOk := ⟨h0.out, h1.out, h2.out, h3.out, h4.out, h5.out, h6.out⟩
  exact ⟨by rw [decide_eq_true RS]; rfl, (Chg.refl _ w).alloc _⟩

/-- Its states are, and how far it has been rebuilt. -/
def Sup.stOk (s : Sup) : Prop := (s.st.length : Int) = s.m ∧ s.states ∧ Sup.many s.st ≤ 1 ∧ (Sup.many s.st = 0 → s.cur = 0) ∧ (Sup.many s.st = 1 → 0 ≤ s.cur ∧ s.cur ≤ s.t - 1)

instance (s : Sup) : Decidable s.stOk := by unfold Sup.stOk Sup.states; infer_instance

theorem many_snoc {st : List Int} {k : Nat} {x : Int} (h : st[k]? = some x) : Sup.many (st.take (k + 1)) = Sup.many (st.take k) + (if x = 3 then 1 else 0) := by
  unfold Sup.many
  rw [take_snoc h, List.countP_append, List.countP_singleton]
  simp

theorem many_le (st : List Int) (k : Nat) : Sup.many (st.take k) ≤ k := by
  unfold Sup.many
  exact Nat.le_trans List.countP_le_length (by rw [List.length_take]; exact Nat.min_le_left _ _)

set_option maxHeartbeats 4000000 in
set_option maxRecDepth 100000 in
theorem states_any (s : Sup) (u : Value) (w : World) (hn : s.numsOk) (hu : Sl w u s.st) (hg : s.st.length ≤ 140737488355328) :
    Calls Try.prog 36 #[s.val u] w fun e w' => e = .returned (.bool (decide s.stOk)) ∧ Hid (Chg [] w w') := by
  obtain ⟨ao, cp, rfl⟩ := hu.slice
  have hm := hn.1
  have ht := hn.2.2.1
  have U : Hid (∀ W, Chg [] w W → Sl W (.slice ao s.st.length cp) s.st) := fun W c => hu.chg c (by simp)
  clear hn hu
  unfold Sup.val
  by_cases hl : (s.st.length : Int) = s.m
  case neg =>
    rw [show decide s.stOk = false from decide_eq_false (fun h => hl h.1)]
    go_enter Try.func36, Try.ntmps36
    go_wp2_with fail
    go_ret
    exact ⟨rfl, (Chg.refl _ w).alloc _⟩
  have hlb : ((s.st.length : Int) == s.m) = true := by simpa using hl
  have hl16 : s.st.length ≤ 16 := by omega
  replace hl := Lib.hid hl
  go_enter Try.func36, Try.ntmps36
  go_wp2_with fail
  obtain ⟨S, hS⟩ : ∃ S, S = s.st := ⟨_, rfl⟩
  have SU := U.out _ ((Chg.refl [] w).alloc (.cells #[.int .u64 (s.id : Int), .int .u64 (s.ev : Int), .int .u64 (s.safe : Int), .int .i64 s.role, .int .i64 s.m, .int .i64 s.c, .int .i64 s.t, .int .i64 s.ring, .bool s.lazy, .bool s.lost, .slice ao s.st.length cp, .int .i64 s.cur] 29))
  replace SU := Lib.hid SU
  clear U
  go_loop [3, 16] (fun r i => ∃ k : Nat, k ≤ s.st.length ∧ i = .int .i64 k ∧ Hid (∀ x ∈ s.st.take k, 1 ≤ x ∧ x ≤ 3) ∧ r = .int .i64 (Sup.many (s.st.take k) : Nat)) (fun _ i => s.st.length - (intOf i).toNat)
  case atStart => exact ⟨0, Nat.zero_le _, rfl, (fun x hx => by simp at hx), rfl⟩
  case round =>
    obtain ⟨k, hk, rfl, A, rfl⟩ := hrel
    have hk0 : (0 : Int) ≤ k := Int.natCast_nonneg _
    by_cases hlt : k < s.st.length
    · have hk1 : (k : Int) < s.st.length := by omega
      have L : ∃ g o, ao = some ⟨g, o, none⟩ ∧ (w.alloc (.cells #[.int .u64 (s.id : Int), .int .u64 (s.ev : Int), .int .u64 (s.safe : Int), .int .i64 s.role, .int .i64 s.m, .int .i64 s.c, .int .i64 s.t, .int .i64 s.ring, .bool s.lazy, .bool s.lost, .slice ao s.st.length cp, .int .i64 s.cur] 29)).cell? ⟨g, o + k, none⟩ = some (.int .u8 (s.st.getD k 0)) := by
        rcases SU.out with ⟨h0, _⟩ | ⟨g, o, c', hv, hb, hc⟩
        · rw [h0] at hlt; simp at hlt
        · obtain ⟨rfl, rfl⟩ : ao = some ⟨g, o, none⟩ ∧ cp = c' := by simpa using hv
          exact ⟨g, o, rfl, hc k hlt⟩
      obtain ⟨g, o, rfl, hcell⟩ := L
      obtain ⟨x, hx⟩ : ∃ x, x = s.st.getD k 0 := ⟨_, rfl⟩
      rw [← hx] at hcell
      have hxx : s.st[k]? = some x := by rw [hx]; simp [List.getD, List.getElem?_eq_getElem hlt]
      have MS := Lib.hid (many_snoc hxx)
      have TS := Lib.hid (take_snoc hxx)
      have ml := many_le s.st k
      generalize Sup.many (s.st.take k) = q at *
      have hq0 : (0 : Int) ≤ q := Int.natCast_nonneg _
      have hq1 : (q : Int) ≤ 16 := by omega
      replace hx := Lib.hid hx
      have XM : Hid (x ∈ s.st) := List.mem_of_getElem? hxx
      clear hxx ml
      by_cases x1 : x = 1
      · subst x1
        go_wp2_with fail
        refine ⟨⟨k + 1, by omega, by go_num, ?_, ?_⟩, by simp [intOf]; omega⟩
        · show ∀ x ∈ _, _
          rw [TS.out]
          intro y hy
          rcases List.mem_append.1 hy with hy | hy
          · exact A.out y hy
          · rw [List.mem_singleton.1 hy]; decide
        · rw [MS.out]; rfl
      · by_cases x2 : x = 2
        · subst x2
          go_wp2_with fail
          refine ⟨⟨k + 1, by omega, by go_num, ?_, ?_⟩, by simp [intOf]; omega⟩
          · show ∀ x ∈ _, _
            rw [TS.out]
            intro y hy
            rcases List.mem_append.1 hy with hy | hy
            · exact A.out y hy
            · rw [List.mem_singleton.1 hy]; decide
          · rw [MS.out]; rfl
        · by_cases x3 : x = 3
          · subst x3
            go_wp2_with fail
            refine ⟨⟨k + 1, by omega, by go_num, ?_, ?_⟩, by simp [intOf]; omega⟩
            · show ∀ x ∈ _, _
              rw [TS.out]
              intro y hy
              rcases List.mem_append.1 hy with hy | hy
              · exact A.out y hy
              · rw [List.mem_singleton.1 hy]; decide
            · rw [MS.out]; rfl
          · have NO : s.stOk → False := fun h => by
              have := h.2.1 x XM.out
              omega
            replace NO := Lib.hid NO
            have b1 : (x == 1) = false := by simpa using x1
            have b2 : (x == 2) = false := by simpa using x2
            have b3 : (x == 3) = false := by simpa using x3
            clear x1 x2 x3
            go_wp2_with fail
            go_ret
            exact ⟨by rw [decide_eq_false NO.out]; rfl, (Chg.refl _ w).alloc _⟩
    · obtain rfl : k = s.st.length := by omega
      rw [List.take_length] at A ⊢
      have C1 : Hid (Chg [] w (w.alloc (.cells #[.int .u64 (s.id : Int), .int .u64 (s.ev : Int), .int .u64 (s.safe : Int), .int .i64 s.role, .int .i64 s.m, .int .i64 s.c, .int .i64 s.t, .int .i64 s.ring, .bool s.lazy, .bool s.lost, .slice ao s.st.length cp, .int .i64 s.cur] 29))) := (Chg.refl _ w).alloc _
      by_cases q0 : Sup.many s.st = 0
      · rw [q0]
        have RS : decide s.stOk = (s.cur == 0) := by
          rw [Bool.eq_iff_iff, decide_eq_true_iff, beq_iff_eq]
          exact ⟨fun h => h.2.2.2.1 q0, fun h => ⟨hl.out, A.out, by omega, fun _ => h, fun h1 => by omega⟩⟩
        replace RS := Lib.hid RS
        clear q0
        go_wp2_with fail
        go_ret
        exact ⟨by rw [RS.out]; rfl, C1⟩
      · by_cases q1 : Sup.many s.st = 1
        · rw [q1]
          have RS : decide s.stOk = decide (0 ≤ s.cur ∧ s.cur ≤ s.t - 1) := by
            rw [Bool.eq_iff_iff, decide_eq_true_iff, decide_eq_true_iff]
            exact ⟨fun h => h.2.2.2.2 q1, fun h => ⟨hl.out, A.out, by omega, fun h0 => by omega, fun _ => h⟩⟩
          replace RS := Lib.hid RS
          clear q0 q1
          go_wp2_with fail
          refine (within_int s.cur 0 (s.t - 1) _).mono ?_
          rintro e w' ⟨rfl, rfl⟩
          go_wp2_with fail
          go_ret
          exact ⟨by rw [RS.out, Bool.decide_and]; rfl, C1⟩
        · have RS : decide s.stOk = false := decide_eq_false fun h => by have := h.2.2.1; omega
          replace RS := Lib.hid RS
          have b0 : (((Sup.many s.st : Nat) : Int) == 0) = false := by simp; omega
          have b1 : (((Sup.many s.st : Nat) : Int) == 1) = false := by simp; omega
          clear q0 q1
          go_wp2_with fail
          go_ret
          exact ⟨by rw [RS.out]; rfl, C1⟩

theorem Sup.ok_iff (s : Sup) : s.Ok ↔ s.numsOk ∧ s.stOk := by
  unfold Sup.Ok Sup.numbers Sup.counts Sup.done Sup.numsOk Sup.stOk
  constructor
  · rintro ⟨⟨a1, a2, a3, a4, a5, a6⟩, ⟨b1, b2, b3, b4, b5, b6, b7, b8, b9⟩, c, d1, d2, d3, d4⟩
    exact ⟨⟨⟨a1, a2⟩, ⟨a3, a4⟩, ⟨a5, a6⟩, ⟨by omega, by omega⟩, ⟨by omega, by omega⟩, ⟨b5, b6⟩, ⟨b7, b8⟩⟩, b9, c, d1, d4, fun _ => ⟨d2, by omega⟩⟩
  · rintro ⟨⟨⟨a1, a2⟩, ⟨a3, a4⟩, ⟨a5, a6⟩, ⟨e1, e2⟩, ⟨e3, e4⟩, ⟨b5, b6⟩, ⟨b7, b8⟩⟩, b9, c, d1, d4, d5⟩
    refine ⟨⟨a1, a2, a3, a4, a5, a6⟩, ⟨by omega, by omega, by omega, by omega, b5, b6, b7, b8, b9⟩, c, d1, ?_, ?_, d4⟩
    · by_cases h : Sup.many s.st = 0
      · rw [d4 h]; exact Int.le_refl _
      · exact (d5 (by omega)).1
    · by_cases h : Sup.many s.st = 0
      · rw [d4 h]; omega
      · have := (d5 (by omega)).2
        omega

/-- What Check says. -/
def Sup.err (s : Sup) : Int := if s.Ok then 0 else 70

set_option maxHeartbeats 4000000 in
set_option maxRecDepth 100000 in
theorem check_any (s : Sup) (u : Value) (w : World) (hu : Sl w u s.st) (hg : s.st.length ≤ 140737488355328) :
    Calls Try.prog 32 #[s.val u] w fun e w' => e = .returned (.int .u16 s.err) ∧ Hid (Chg [] w w') := by
  have NA := Lib.hid (fun W => nums_any s u W)
  have ST := Lib.hid (fun W (c : Chg [] w W) (h : s.numsOk) => states_any s u W h (hu.chg c (by simp)) hg)
  have ER : Hid (s.err = if s.numsOk ∧ s.stOk then 0 else 70) := by
    show s.err = _
    unfold Sup.err
    by_cases h : s.Ok
    · rw [if_pos h, if_pos (s.ok_iff.1 h)]
    · rw [if_neg h, if_neg (fun k => h (s.ok_iff.2 k))]
  obtain ⟨ao, cp, rfl⟩ := hu.slice
  generalize hE : s.err = E at *
  replace hE := Lib.hid hE
  unfold Sup.val at *
  have C1 : Hid (Chg [] w (w.alloc (.cells #[.int .u64 (s.id : Int), .int .u64 (s.ev : Int), .int .u64 (s.safe : Int), .int .i64 s.role, .int .i64 s.m, .int .i64 s.c, .int .i64 s.t, .int .i64 s.ring, .bool s.lazy, .bool s.lost, .slice ao s.st.length cp, .int .i64 s.cur] 29))) := (Chg.refl _ w).alloc _
  have B1 : Hid (Blk (w.alloc (.cells #[.int .u64 (s.id : Int), .int .u64 (s.ev : Int), .int .u64 (s.safe : Int), .int .i64 s.role, .int .i64 s.m, .int .i64 s.c, .int .i64 s.t, .int .i64 s.ring, .bool s.lazy, .bool s.lost, .slice ao s.st.length cp, .int .i64 s.cur] 29)) w.heap.size 29 [.int .u64 (s.id : Int), .int .u64 (s.ev : Int), .int .u64 (s.safe : Int), .int .i64 s.role, .int .i64 s.m, .int .i64 s.c, .int .i64 s.t, .int .i64 s.ring, .bool s.lazy, .bool s.lost, .slice ao s.st.length cp, .int .i64 s.cur]) := Blk.made w _ _
  clear hu
  go_enter Try.func32, Try.ntmps32
  go_wp2_with fail
  refine (NA.out _).mono ?_
  rintro e w1 ⟨rfl, C⟩
  by_cases hn : s.numsOk
  case neg =>
    rw [decide_eq_false hn]
    have E70 : Hid (E = 70) := by show _ = _; rw [ER.out, if_neg (fun h => hn h.1)]
    clear hn NA ST ER
    go_wp2_with fail
    go_ret
    exact ⟨by rw [E70.out]; rfl, C1.out.trans C.out⟩
  rw [decide_eq_true hn]
  have B2 := Lib.hid (B1.out.chg C.out (by simp))
  have C2 : Hid (Chg [] w w1) := C1.out.trans C.out
  have HN := Lib.hid hn
  have S1 := Lib.hid (ST.out w1 C2.out hn)
  clear hn NA ST C B1 C1
  have k0 := B2.out.cell (j := 0) rfl
  have k1 := B2.out.cell (j := 1) rfl
  have k2 := B2.out.cell (j := 2) rfl
  have k3 := B2.out.cell (j := 3) rfl
  have k4 := B2.out.cell (j := 4) rfl
  have k5 := B2.out.cell (j := 5) rfl
  have k6 := B2.out.cell (j := 6) rfl
  have k7 := B2.out.cell (j := 7) rfl
  have k8 := B2.out.cell (j := 8) rfl
  have k9 := B2.out.cell (j := 9) rfl
  have k10 := B2.out.cell (j := 10) rfl
  have k11 := B2.out.cell (j := 11) rfl
  go_wp2_with fail
  refine S1.out.mono ?_
  rintro e w2 ⟨rfl, C⟩
  have C3 : Hid (Chg [] w w2) := C2.out.trans C.out
  clear k0 k1 k2 k3 k4 k5 k6 k7 k8 k9 k10 k11 B2 C2 S1
  by_cases hs : s.stOk
  · rw [decide_eq_true hs]
    have E0 : Hid (E = 0) := by show _ = _; rw [ER.out, if_pos ⟨HN.out, hs⟩]
    clear hs ER
    go_wp2_with fail
    go_ret
    exact ⟨by rw [E0.out]; rfl, C3⟩
  · rw [decide_eq_false hs]
    have E70 : Hid (E = 70) := by show _ = _; rw [ER.out, if_neg (fun h => hs h.2)]
    clear hs ER
    go_wp2_with fail
    go_ret
    exact ⟨by rw [E70.out]; rfl, C3⟩

end Go.Proofs.Ytffpjefecmkfmaa
