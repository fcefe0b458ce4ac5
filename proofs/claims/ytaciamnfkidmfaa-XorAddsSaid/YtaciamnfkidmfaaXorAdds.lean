/-
  XorAdds walked. By an AI agent.
-/
import Derived.Test.YtaciamnfkidmfaaXorSit
import Derived.Deep.QuietTactic
import Derived.BigQuiet
namespace Go.Proofs.Ytaciamnfkidmfaa
open Go.RowKit

theorem SumIn.low {w : World} {B B' g : Nat} {S bs : List Nat} {n : Nat} (h : SumIn w B g S bs n) (hb : B' ≤ B) : SumIn w B' g S bs n := by
  obtain ⟨u, h1, h2, h3, h4⟩ := h.here
  exact ⟨⟨u, h1, ownsRow_base h2 hb, h3, h4⟩, h.bytes, Nat.le_trans hb h.new⟩

theorem RSum.low {w : World} {B B' g : Nat} {u : Value} {bs : List Nat} {n : Nat} (h : RSum w B g u bs n) (hb : B' ≤ B) : RSum w B' g u bs n :=
  ⟨h.blk, ownsRow_base h.own hb, h.far, h.bytes, Nat.le_trans hb h.new⟩

theorem sums_begin {w w1 w2 w3 : World} {gs gt gr : Nat} {Ss St X : List Nat} {u : Value} (s : SumIn w1 w.heap.size gs Ss X 0) (c1 : Chg [] w w1) (t : SumIn w2 w1.heap.size gt St X 0) (c2 : Chg [] w1 w2) (r : RSum w3 w2.heap.size gr u X 0) (c3 : Chg [] w2 w3) :
    Sums w3 w.heap.size ⟨gs, Ss, undef, X, 0⟩ ⟨gt, St, undef, X, 0⟩ ⟨gr, gr :: u.ownBlock.toList, u, X, 0⟩ := by
  have h1 := c1.size
  have h2 := c2.size
  have hr : ∀ k ∈ gr :: u.ownBlock.toList, w2.heap.size ≤ k := fun k hk => by
    rcases List.mem_cons.1 hk with rfl | hk
    · exact r.new
    · exact (r.own.lt k (by simpa using hk)).1
  refine ⟨s.chg (c2.trans c3) (by simp), (t.chg c3 (by simp)).low h1, r.low (by omega), rfl, fun k hk hm => ?_, fun k hk hm => ?_, fun k hk hm => ?_⟩
  · have := (s.lt k hk).2
    have := (t.lt k hm).1
    omega
  · have := (s.lt k hk).2
    have := hr k hm
    omega
  · have := (t.lt k hk).2
    have := hr k hm
    omega

/-- Between two rounds. -/
def AInv (W0 wr : World) (B gs gt gr bk N i : Nat) : Prop := ∃ (Ss St : List Nat) (u lv : Value) (vs : List (Value × List Value)) (bs : List Nat) (n : Nat),
  Sit W0 wr B ⟨gs, Ss, undef, bs, n⟩ ⟨gt, St, undef, bs, n⟩ ⟨gr, gr :: u.ownBlock.toList, u, bs, n⟩ bk lv vs [] ∧ bs.length = N ∧ n ≤ i ∧ vs.length = 2 * i ∧ ∀ p ∈ vs, p.2.length = N

set_option maxRecDepth 100000 in
theorem adds_early (v : Value) (size : Int) (ds : List RowD) (w : World) (h : Rws w v ds) (hc : muchB ds = true ∨ 1000 < ds.length) :
    Calls Try.prog 7 #[.int .i64 size, v] w fun e w' => e = .returned (.bool true) ∧ Chg [] w w' := by
  obtain ⟨ao, c, rfl⟩ := h.slice
  have hm := much_any _ _ _ h
  clear h
  cases hmb : muchB ds with
  | true =>
    rw [hmb] at hm
    go_enter Try.func7, Try.ntmps7
    go_wp2_with fail
    refine hm.mono ?_
    rintro e w' ⟨rfl, rfl⟩
    go_wp2_with fail
    go_ret
    exact ⟨rfl, Chg.refl _ _⟩
  | false =>
    rw [hmb] at hm
    have hl : (1000 : Int) < ds.length := by
      rcases hc with h | h
      · rw [hmb] at h; cases h
      · omega
    go_enter Try.func7, Try.ntmps7
    go_wp2_with fail
    refine hm.mono ?_
    rintro e w' ⟨rfl, rfl⟩
    go_wp2_with fail
    go_ret
    exact ⟨rfl, Chg.refl _ _⟩

set_option maxHeartbeats 4000000 in
set_option maxRecDepth 100000 in
theorem adds_bad (v : Value) (size : Int) (ds : List RowD) (w : World) (h : Rws w v ds) (hmb : muchB ds = false) (hl : ds.length ≤ 1000) (hsz : -9223372036854775808 ≤ size ∧ size ≤ 9223372036854775807) (hbad : size < 0 ∨ 4096 < size) :
    Calls Try.prog 7 #[.int .i64 size, v] w fun e w' => e = .returned (.bool true) ∧ Chg [] w w' := by
  obtain ⟨ao, c, rfl⟩ := h.slice
  have hm := much_any _ _ _ h
  rw [hmb] at hm
  have hl2 : ¬ (1000 : Int) < ds.length := by omega
  have hgood : ¬ (0 ≤ size ∧ size ≤ 4096) := by omega
  replace hgood := Lib.hid hgood
  replace hbad := Lib.hid hbad
  replace hsz := Lib.hid hsz
  clear h hmb
  go_enter Try.func7, Try.ntmps7
  go_wp2_with fail
  refine hm.mono ?_
  clear hm
  rintro e w' ⟨rfl, rfl⟩
  go_wp2_with fail
  refine (new_any size w hsz.out).mono ?_
  rintro e w1 h1
  obtain ⟨rfl, D1⟩ : e = .returned (.tuple #[.pointer none, .int .u16 1]) ∧ Hid (Chg [] w w1) := by
    rcases h1 with ⟨_, he, D⟩ | ⟨hg, _⟩
    · exact ⟨he, D⟩
    · exact absurd hg hgood.out
  clear h1
  go_wp2_with fail
  refine (new_any size w1 hsz.out).mono ?_
  rintro e w2 h1
  obtain ⟨rfl, D2⟩ : e = .returned (.tuple #[.pointer none, .int .u16 1]) ∧ Hid (Chg [] w1 w2) := by
    rcases h1 with ⟨_, he, D⟩ | ⟨hg, _⟩
    · exact ⟨he, D⟩
    · exact absurd hg hgood.out
  clear h1
  go_wp2_with fail
  refine (refNew_any size w2).mono ?_
  rintro e w3 h1
  obtain ⟨rfl, D3⟩ : e = .returned (.pointer none) ∧ Hid (Chg [] w2 w3) := by
    rcases h1 with ⟨_, he, D⟩ | ⟨hg, _⟩
    · exact ⟨he, D⟩
    · exact absurd hg hgood.out
  clear h1
  go_wp2_with fail
  refine (known_any w3).mono ?_
  rintro e w4 ⟨rfl, D4⟩
  go_wp2_with fail
  go_ret
  exact ⟨rfl, D1.out.trans (D2.out.trans (D3.out.trans D4.out))⟩

end Go.Proofs.Ytaciamnfkidmfaa
