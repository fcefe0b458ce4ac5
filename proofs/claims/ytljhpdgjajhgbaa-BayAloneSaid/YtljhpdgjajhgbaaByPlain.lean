/-
  'plain' and 'total' of the bays' laws. By an AI agent.
-/
import Derived.Test.YtljhpdgjajhgbaaByMuch
namespace Go.Proofs.Ytljhpdgjajhgbaa
open Go.RowKit

namespace Bay
def plain (y : Bay) (k s n : Int) (x : List Nat) : Bay := if k = 1 then y.read s else if k = 2 then y.write s n x else y.flush s
def plainErr (y : Bay) (k s n : Int) (x : List Nat) : Nat := if k = 1 then y.readErr s n else if k = 2 then y.writeErr s n x else y.flushErr s
def plainVal (y : Bay) (k s n : Int) : List Nat := if k = 1 then y.readVal s n else []

theorem Low.plain {k : Nat} {y : Bay} (h : Low k y) (kd s n : Int) (x : List Nat) : Low (k + 1) (y.plain kd s n x) := by
  unfold Bay.plain
  split
  · exact h.start s 1
  · split
    · exact h.write s n x
    · exact h.flush s

theorem plain_other {y : Bay} {kd s r n : Int} {x : List Nat} (h : s ≠ r) : (y.plain kd s n x).dev r = y.dev r := by
  unfold plain
  split
  · exact read_other h
  · split
    · exact write_other h
    · exact flush_other h

theorem plain_len (y : Bay) (kd s n : Int) (x : List Nat) : (y.plain kd s n x).slots.length = y.slots.length := by
  unfold plain
  split
  · exact start_len _ _ _
  · split
    · exact write_len _ _ _ _
    · exact flush_len _ _
end Bay

theorem TurnsGives.from {w wA w' : World} {F : List Nat} {T : List Nat → Thing} {u : Value} {xs : List Nat} (h : TurnsGives wA F T u xs w') (c : Chg [] w wA) : TurnsGives w F T u xs w' := by
  obtain ⟨t, F', h1, h2, h3, h4, h5⟩ := h
  have hz := c.size
  exact ⟨t, F', h1, fun k hk => (h2 k hk).imp id (fun q => Nat.le_trans hz q), (c.mono (by simp)).trans h3, ownsRow_base h4 hz, h5⟩

theorem Turns.gives {w w' : World} {F : List Nat} {T : List Nat → Thing} (h : Turns w F T w') : TurnsGives w F T (.slice none 0 0) [] w' := by
  obtain ⟨F', h1, h2, h3⟩ := h
  exact ⟨0, F', h1, h2, h3, World.ownsRow_nil _ _ _ _, fun k hk => by cases hk⟩

theorem Turns.from {w wA w' : World} {F : List Nat} {T : List Nat → Thing} (h : Turns wA F T w') (c : Chg [] w wA) : Turns w F T w' := by
  obtain ⟨F', h1, h2, h3⟩ := h
  have hz := c.size
  exact ⟨F', h1, fun k hk => (h2 k hk).imp id (fun q => Nat.le_trans hz q), (c.mono (by simp)).trans h3⟩

set_option maxHeartbeats 2000000 in
set_option maxRecDepth 100000 in
theorem bplain_any (b : Nat) (F : List Nat) (y : Bay) (w : World) (h : (BayT b y F).P w) (k s n : Int) (dv kv : Value) (x : List Int) (hs : I64 s) (hn : I64 n) (hv : Sl w dv x) (hby : By x) (hg : x.length ≤ 140737488355328)
    (hold : x ≠ [] → ∀ j, dv.ownBlock = some j → j ∉ F ∧ j < w.heap.size) (hl : y.Low 1000000000) :
    Calls Try.prog 14 #[.pointer (some ⟨b, 0, none⟩), .agg #[.int .i64 k, .int .i64 s, .int .i64 n, dv, kv]] w fun e w' => ∃ u, e = .returned (.tuple #[u, .int .u16 ((y.plainErr k s n (nats x) : Nat) : Int)]) ∧ Hid (TurnsGives w F (BayT b (y.plain k s n (nats x))) u (y.plainVal k s n) w') := by
  have CA : Chg [] w (w.alloc (.cells #[.int .i64 k, .int .i64 s, .int .i64 n, dv, kv] 28)) := (Chg.refl _ _).alloc _
  have BX := Blk.made w [.int .i64 k, .int .i64 s, .int .i64 n, dv, kv] 28
  have HA : (BayT b y F).P (w.alloc (.cells #[.int .i64 k, .int .i64 s, .int .i64 n, dv, kv] 28)) := (BayT b y F).stays _ _ [] h CA (fun _ _ => by simp)
  have VA := hv.chgNil CA
  have hold2 : x ≠ [] → ∀ j, dv.ownBlock = some j → j ∉ F ∧ j < (w.alloc (.cells #[.int .i64 k, .int .i64 s, .int .i64 n, dv, kv] 28)).heap.size := fun hx j hj => ⟨(hold hx j hj).1, by have := (hold hx j hj).2; have := CA.size; omega⟩
  have c0 := BX.cell (j := 0) rfl
  have c1 := BX.cell (j := 1) rfl
  have c2 := BX.cell (j := 2) rfl
  have c3 := BX.cell (j := 3) rfl
  by_cases h1 : k = 1
  · have e1 : Hid (y.plain k s n (nats x) = y.read s ∧ y.plainErr k s n (nats x) = y.readErr s n ∧ y.plainVal k s n = y.readVal s n) := by
      unfold Bay.plain Bay.plainErr Bay.plainVal
      rw [if_pos h1, if_pos h1, if_pos h1]
      exact ⟨rfl, rfl, rfl⟩
    rw [e1.out.1, e1.out.2.1, e1.out.2.2]
    have R := Lib.hid (bread_any b F y _ HA s n hs hn hl)
    subst h1
    replace CA := Lib.hid CA
    clear h HA VA hold hold2 BX hv e1
    go_enter Try.func14, Try.ntmps14
    go_wp2_with fail
    refine R.out.mono ?_
    rintro e w1 ⟨u, rfl, T⟩
    have T2 := Lib.hid (T.out.from CA.out)
    clear T R CA
    go_wp2_with fail
    go_ret2
    exact ⟨_, rfl, T2⟩
  · by_cases h2 : k = 2
    · have e1 : Hid (y.plain k s n (nats x) = y.write s n (nats x) ∧ y.plainErr k s n (nats x) = y.writeErr s n (nats x) ∧ y.plainVal k s n = []) := by
        unfold Bay.plain Bay.plainErr Bay.plainVal
        rw [if_neg h1, if_neg h1, if_neg h1, if_pos h2, if_pos h2]
        exact ⟨rfl, rfl, rfl⟩
      rw [e1.out.1, e1.out.2.1, e1.out.2.2]
      have R := Lib.hid (bwrite_any b F y _ HA s n hs hn dv x VA hby hg hold2 hl)
      subst h2
      replace CA := Lib.hid CA
      clear h HA VA hold hold2 BX hv e1
      go_enter Try.func14, Try.ntmps14
      go_wp2_with fail
      refine R.out.mono ?_
      rintro e w1 ⟨rfl, T⟩
      have T2 := Lib.hid ((T.out.from CA.out).gives)
      clear T R CA
      go_wp2_with fail
      go_ret2
      exact ⟨_, rfl, T2⟩
    · have e1 : Hid (y.plain k s n (nats x) = y.flush s ∧ y.plainErr k s n (nats x) = y.flushErr s ∧ y.plainVal k s n = []) := by
        unfold Bay.plain Bay.plainErr Bay.plainVal
        rw [if_neg h1, if_neg h1, if_neg h1, if_neg h2, if_neg h2]
        exact ⟨rfl, rfl, rfl⟩
      rw [e1.out.1, e1.out.2.1, e1.out.2.2]
      have R := Lib.hid (bflush_any b F y _ HA s hs hl)
      have k1 : (k == 1) = false := by simpa using h1
      have k2 : (k == 2) = false := by simpa using h2
      replace CA := Lib.hid CA
      clear h HA VA hold hold2 BX hv e1 h1 h2
      go_enter Try.func14, Try.ntmps14
      go_wp2_with fail
      refine R.out.mono ?_
      rintro e w1 ⟨rfl, T⟩
      have T2 := Lib.hid ((T.out.from CA.out).gives)
      clear T R CA
      go_wp2_with fail
      go_ret2
      exact ⟨_, rfl, T2⟩

end Go.Proofs.Ytljhpdgjajhgbaa
