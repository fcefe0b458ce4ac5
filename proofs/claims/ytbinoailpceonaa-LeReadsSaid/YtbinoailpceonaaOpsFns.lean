/-
  What the statements' own small functions do with a script. By an AI agent.
-/
import Derived.Test.YtbinoailpceonaaOps
import Derived.Test.YtbinoailpceonaaLeRaw
import Derived.Test.YtbinoailpceonaaLeReadRest
namespace Go.Proofs.Ytbinoailpceonaa
open Go.RowKit

/-- How much there is in a script. -/
def bulk (ds : List OpD) : Nat := ds.length + (ds.map (·.bs.length)).sum

theorem bulk_take (ds : List OpD) (k : Nat) (d : OpD) (h : ds[k]? = some d) : ((ds.take (k + 1)).map (·.bs.length)).sum = ((ds.take k).map (·.bs.length)).sum + d.bs.length := by
  obtain ⟨hk, rfl⟩ := List.getElem?_eq_some_iff.1 h
  rw [List.take_succ_eq_append_getElem hk, List.map_append, List.sum_append]
  simp only [List.map_cons, List.map_nil, List.sum_cons, List.sum_nil, Nat.add_zero]

/-- What 'much' says. -/
def Much (w : World) (ds : List OpD) (e : Ending) (w' : World) : Prop := ∃ m : Bool, e = .returned (.bool m) ∧ w = w' ∧ (m = false → bulk ds ≤ 100000)

set_option maxHeartbeats 400000 in
theorem much_any (v : Value) (ds : List OpD) (w : World) (h : Ops w v ds) : Calls Try.prog 10 #[v] w (Much w ds) := by
  have hl := h.len
  obtain ⟨ao, c, rfl⟩ := h.slice
  have HO := Lib.hid h
  clear h
  go_enter Try.func10, Try.ntmps10
  go_wp2
  go_loop [3, 4] (fun n i => ∃ k N : Nat, k ≤ ds.length ∧ i = .int .i64 k ∧ n = .int .i64 N ∧ N ≤ 281474976810656 ∧ Hid (N = ds.length + ((ds.take k).map (·.bs.length)).sum)) (fun _ i => ds.length - (intOf i).toNat)
  case atStart => exact ⟨0, ds.length, Nat.zero_le _, rfl, rfl, by omega, by show _ = _; simp⟩
  case round =>
    obtain ⟨k, N, hk, rfl, rfl, hN, HN⟩ := hrel
    by_cases hlt : k < ds.length
    · obtain ⟨d, hd⟩ : ∃ d, ds[k]? = some d := ⟨_, List.getElem?_eq_getElem hlt⟩
      have L : ∃ b o, ao = some ⟨b, o, none⟩ ∧ OpIn w b (o + k * 4) d := by
        rcases HO.out with ⟨rfl, _⟩ | ⟨b, o, c', hv, hb, _, hc⟩
        · simp at hlt
        · obtain ⟨rfl, rfl⟩ : ao = some ⟨b, o, none⟩ ∧ c = c' := by simpa using hv
          exact ⟨b, o, rfl, hc k d hd⟩
      obtain ⟨b, o, rfl, hin⟩ := L
      obtain ⟨bo, bc, hbv⟩ := hin.sl.slice
      have hc3 := hin.c3
      rw [hbv] at hc3
      have hbig := hin.big
      have HD := Lib.hid hd
      have HB := Lib.hid hbv
      clear hin hd hbv
      by_cases hs : N ≤ 100000
      · go_wp2
        exact ⟨⟨k + 1, N + d.bs.length, by omega, by go_num, by go_num, by omega, by
          show _ = _
          rw [bulk_take ds k d HD.out, ← Nat.add_assoc, ← HN.out]⟩, by simp [intOf]; omega⟩
      · go_wp2
        go_ret
        exact ⟨true, by first | (simp; done) | (simp; omega), rfl, fun h => by cases h⟩
    · obtain rfl : k = ds.length := by omega
      have hN2 : N = bulk ds := by rw [HN.out, List.take_length]; rfl
      by_cases hs : N ≤ 100000
      · have HS := Lib.hid hN2
        clear hN2
        go_wp2
        go_ret
        exact ⟨_, rfl, rfl, fun _ => by rw [← HS.out]; exact hs⟩
      · clear hN2
        go_wp2
        go_ret
        exact ⟨true, by first | (simp; done) | (simp; omega), rfl, fun h => by cases h⟩

/-- An Op as a value. -/
def OpD.val (d : OpD) : Value := .agg #[.int .i64 d.k, .int .u64 d.v, .int .i64 d.n, d.bv]

/-- The bytes that a call puts. -/
def OpD.bytes (d : OpD) : List Int :=
  if d.k = 1 then leBytes 1 d.v else if d.k = 2 then leBytes 2 d.v else if d.k = 3 then leBytes 4 d.v else if d.k = 4 then leBytes 8 d.v else if d.k = 5 then d.bs else if d.k = 6 then List.replicate d.n.toNat (d.v % 256) else []

theorem put_nil {w : World} {b g : Nat} {s : PS} (h : Pk w b g s) : s.put [] = s := by
  unfold PS.put
  by_cases h0 : s.bad = 0
  · rw [if_pos h0, if_pos (by simpa using h.le), lay_nil]
    cases s
    simp at h0
    simp [h0]
  · rw [if_neg h0]

/-- The parts of a call's own that are in range. -/
structure OpD.ok (d : OpD) : Prop where
  k0 : -9223372036854775808 ≤ d.k ∧ d.k ≤ 9223372036854775807
  v0 : 0 ≤ d.v ∧ d.v ≤ 18446744073709551615
  n0 : -9223372036854775808 ≤ d.n ∧ d.n ≤ 9223372036854775807
  by_ : By d.bs
  big : d.bs.length ≤ 140737488355328

theorem OpIn.ok {w : World} {b o : Nat} {d : OpD} (h : OpIn w b o d) : d.ok := ⟨h.k0, h.v0, h.n0, h.by_, h.big⟩

set_option maxHeartbeats 1000000 in
theorem puts_any (b g : Nat) (s : PS) (d : OpD) (bv : Value) (w : World) (h : Pk w b g s) (hd : d.ok) (hs : Sl w bv d.bs) (hne : ∀ k, 0 < d.bs.length → bv.ownBlock = some k → k ≠ b) :
    Calls Try.prog 15 #[.pointer (some ⟨b, 0, none⟩), d.val, bv] w (Puts w b g s d.bytes) := by
  obtain ⟨k, v, n, dv, bs⟩ := d
  have hc : Chg [] w (w.alloc (.cells #[.int .i64 k, .int .u64 v, .int .i64 n, dv] 51)) := (Chg.refl _ _).alloc _
  have P := Lib.hid (h.chg hc (by simp) (by simp))
  have S := Lib.hid (hs.chg hc (by simp))
  have C : Hid (∀ xs e w', Puts (w.alloc (.cells #[.int .i64 k, .int .u64 v, .int .i64 n, dv] 51)) b g s xs e w' → Puts w b g s xs e w') := fun xs e w' hp => ⟨hp.1, hp.2.1, ((hc.mono (by simp)).trans hp.2.2)⟩
  have HD := Lib.hid hd
  have HN := Lib.hid hne
  have hv0 : 0 ≤ v := hd.v0.1
  have hv1 : v ≤ 18446744073709551615 := hd.v0.2
  have N : Hid (Puts w b g s [] (.returned (.tuple #[])) (w.alloc (.cells #[.int .i64 k, .int .u64 v, .int .i64 n, dv] 51))) := ⟨rfl, by rw [put_nil h]; exact P.out, hc.mono (by simp)⟩
  clear h hd hs hne hc
  unfold OpD.val OpD.bytes
  simp only
  by_cases k1 : k = 1
  · rw [if_pos k1]
    subst k1
    go_enter Try.func15, Try.ntmps15
    go_wp2_with fail
    refine (u8_any b g s (v % 256) _ P.out (by omega) (by omega)).mono ?_
    rintro e w1 hp
    rw [show (256 : Int) = 2 ^ (8 * 1) from rfl, leBytes_mod] at hp
    have hq := C.out _ _ _ hp
    obtain rfl := hp.1
    have Q := Lib.hid hq
    clear hp hq
    go_wp2_with fail
    go_end0
    exact Q.out
  rw [if_neg k1]
  have b1 : (k == 1) = false := by simpa using k1
  clear k1
  by_cases k2 : k = 2
  · rw [if_pos k2]
    subst k2
    go_enter Try.func15, Try.ntmps15
    go_wp2_with fail
    rw [wrap_u16]
    refine (u16_any b g s (v % 65536) _ P.out (by omega) (by omega)).mono ?_
    rintro e w1 hp
    rw [show (65536 : Int) = 2 ^ (8 * 2) from rfl, leBytes_mod] at hp
    have hq := C.out _ _ _ hp
    obtain rfl := hp.1
    have Q := Lib.hid hq
    clear hp hq
    go_wp2_with fail
    go_end0
    exact Q.out
  rw [if_neg k2]
  have b2 : (k == 2) = false := by simpa using k2
  clear k2
  by_cases k3 : k = 3
  · rw [if_pos k3]
    subst k3
    go_enter Try.func15, Try.ntmps15
    go_wp2_with fail
    refine (u32_any b g s (v % 4294967296) _ P.out (by omega) (by omega)).mono ?_
    rintro e w1 hp
    rw [show (4294967296 : Int) = 2 ^ (8 * 4) from rfl, leBytes_mod] at hp
    have hq := C.out _ _ _ hp
    obtain rfl := hp.1
    have Q := Lib.hid hq
    clear hp hq
    go_wp2_with fail
    go_end0
    exact Q.out
  rw [if_neg k3]
  have b3 : (k == 3) = false := by simpa using k3
  clear k3
  by_cases k4 : k = 4
  · rw [if_pos k4]
    subst k4
    go_enter Try.func15, Try.ntmps15
    go_wp2_with fail
    refine (u64_any b g s v _ P.out hv0 hv1).mono ?_
    rintro e w1 hp
    have hq := C.out _ _ _ hp
    obtain rfl := hp.1
    have Q := Lib.hid hq
    clear hp hq
    go_wp2_with fail
    go_end0
    exact Q.out
  rw [if_neg k4]
  have b4 : (k == 4) = false := by simpa using k4
  clear k4
  by_cases k5 : k = 5
  · rw [if_pos k5]
    subst k5
    go_enter Try.func15, Try.ntmps15
    go_wp2_with fail
    refine (raw_any b g s bv bs _ P.out S.out HN.out HD.out.by_ HD.out.big).mono ?_
    rintro e w1 hp
    have hq := C.out _ _ _ hp
    obtain rfl := hp.1
    have Q := Lib.hid hq
    clear hp hq
    go_wp2_with fail
    go_end0
    exact Q.out
  rw [if_neg k5]
  have b5 : (k == 5) = false := by simpa using k5
  clear k5
  by_cases k6 : k = 6
  · rw [if_pos k6]
    subst k6
    go_enter Try.func15, Try.ntmps15
    go_wp2_with fail
    refine (fill_any b g s n (v % 256) _ P.out HD.out.n0.2 (by omega) (by omega)).mono ?_
    rintro e w1 hp
    have hq := C.out _ _ _ hp
    obtain rfl := hp.1
    have Q := Lib.hid hq
    clear hp hq
    go_wp2_with fail
    go_end0
    exact Q.out
  rw [if_neg k6]
  have b6 : (k == 6) = false := by simpa using k6
  clear k6
  go_enter Try.func15, Try.ntmps15
  go_wp2_with fail
  go_end0
  exact N.out
end Go.Proofs.Ytbinoailpceonaa
