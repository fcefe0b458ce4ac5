/-
  The document's lift: the least one, New. By an AI agent.
-/
import Derived.Test.YtihmegpcbpdipaaRefLift
import Derived.Deep.CutBlock
import Derived.Deep.DeepCutAuto
namespace Go.Proofs.Ytihmegpcbpdipaa
open Go.RowKit

/-- The place of the least one from a row on, among the first n. -/
def Least (L : List Pv) (fr n : Nat) (b : Int) : Prop :=
  (b = -1 ∧ ∀ (j : Nat) (p : Pv), j < n → L[j]? = some p → p.1.r < fr) ∨
  ∃ (i : Nat) (p : Pv), b = (i : Int) ∧ i < n ∧ L[i]? = some p ∧ fr ≤ p.1.r ∧ ∀ (j : Nat) (q : Pv), j < n → L[j]? = some q → fr ≤ q.1.r → ¬ Lf.lt q.1 p.1

theorem Least.skip {L : List Pv} {fr n : Nat} {b : Int} (h : Least L fr n b) {x : Pv} (hx : L[n]? = some x) (hr : x.1.r < fr) : Least L fr (n + 1) b := by
  rcases h with ⟨hb, h⟩ | ⟨i, p, hb, hi, hp, hf, h⟩
  · refine .inl ⟨hb, fun j q hj hq => ?_⟩
    by_cases e : j = n
    · subst e
      rw [hx] at hq
      obtain rfl : x = q := by simpa using hq
      exact hr
    · exact h j q (by omega) hq
  · refine .inr ⟨i, p, hb, by omega, hp, hf, fun j q hj hq hf2 => ?_⟩
    by_cases e : j = n
    · subst e
      rw [hx] at hq
      obtain rfl : x = q := by simpa using hq
      omega
    · exact h j q (by omega) hq hf2

theorem Least.keep {L : List Pv} {fr n i : Nat} {p x : Pv} (h : ∀ (j : Nat) (q : Pv), j < n → L[j]? = some q → fr ≤ q.1.r → ¬ Lf.lt q.1 p.1) (hi : i < n) (hp : L[i]? = some p) (hf : fr ≤ p.1.r) (hx : L[n]? = some x) (hn : ¬ Lf.lt x.1 p.1) : Least L fr (n + 1) (i : Int) := by
  refine .inr ⟨i, p, rfl, by omega, hp, hf, fun j q hj hq hf2 => ?_⟩
  by_cases e : j = n
  · subst e
    rw [hx] at hq
    obtain rfl : x = q := by simpa using hq
    exact hn
  · exact h j q (by omega) hq hf2

theorem Least.take {L : List Pv} {fr n : Nat} {x : Pv} (h : ∀ (j : Nat) (q : Pv), j < n → L[j]? = some q → fr ≤ q.1.r → ¬ Lf.lt q.1 x.1) (hx : L[n]? = some x) (hf : fr ≤ x.1.r) : Least L fr (n + 1) (n : Int) := by
  refine .inr ⟨n, x, rfl, by omega, hx, hf, fun j q hj hq hf2 => ?_⟩
  by_cases e : j = n
  · subst e
    rw [hx] at hq
    obtain rfl : x = q := by simpa using hq
    exact Lf.lt_irrefl _
  · exact h j q (by omega) hq hf2

theorem least_of_cells {w : World} {ao : Option Addr} {n c : Nat} {L : List Pv} (h : RdW 3 w (.slice ao n c) (L.map pvSlot)) {k : Nat} {x : Pv} (hx : L[k]? = some x) : ∃ g, ao = some ⟨g, 0, none⟩ ∧ w.cell? ⟨g, k * 3, none⟩ = some (.int .i64 (x.1.m : Int)) ∧ w.cell? ⟨g, k * 3 + 1, none⟩ = some (.int .i64 (x.1.r : Int)) ∧ w.cell? ⟨g, k * 3 + 2, none⟩ = some x.2 := by
  obtain ⟨g, e, hc⟩ := h.at (k := k) (x := pvSlot x) (by rw [List.getElem?_map, hx]; rfl)
  exact ⟨g, e, hc 0 _ rfl, hc 1 _ rfl, hc 2 _ rfl⟩

set_option maxHeartbeats 4000000 in
set_option maxRecDepth 100000 in
theorem least_any (w : World) (P row fr : Nat) (lv : Value) (L : List Pv) (hb : Blk w P 64 [lv, .int .i64 (row : Int)]) (hr : RdW 3 w lv (L.map pvSlot)) (hv : ∀ g, lv.ownBlock = some g → g < w.heap.size) (hl : L.length ≤ 1000000) (ho : PvOk L) :
    Calls Try.prog 31 #[.pointer (some ⟨P, 0, none⟩), .int .i64 (fr : Int)] w fun e w' => ∃ b, e = .returned (.int .i64 b) ∧ Hid (Least L fr L.length b) ∧ Hid (Chg [] w w') := by
  obtain ⟨ao, c, rfl⟩ := hr.slice
  rw [List.length_map] at hb hv hr
  have PC : Hid (∀ w', Chg [] w w' → w'.cell? ⟨P, 0, none⟩ = some (.slice ao L.length c)) := fun w' ch => (hb.chg ch (by simp)).cell (j := 0) rfl
  have RC : Hid (∀ w', Chg [] w w' → RdW 3 w' (.slice ao L.length c) (L.map pvSlot)) := fun w' ch => hr.chg ch (by simp)
  have HL := Lib.hid hl
  have HO := Lib.hid ho
  clear hb hr hv hl ho
  go_enter Try.func31, Try.ntmps31
  go_wp2_with fail
  go_loopw [5, 6] (fun bb i wr => ∃ (k : Nat) (b : Int), k ≤ L.length ∧ i = .int .i64 k ∧ bb = .int .i64 b ∧ Hid (Least L fr k b) ∧ Hid (Chg [] w wr)) (fun _ i _ => L.length - (intOf i).toNat)
  case atStart => exact ⟨0, -1, Nat.zero_le _, rfl, rfl, .inl ⟨rfl, fun j p hj => by omega⟩, Chg.refl _ _⟩
  case round =>
    obtain ⟨k, b, hk, rfl, rfl, LS, CH⟩ := hrel
    have p0 := PC.out _ CH.out
    by_cases hlt : k < L.length
    case neg =>
      obtain rfl : k = L.length := by omega
      go_wp2_with fail
      go_ret
      exact ⟨_, rfl, LS, CH⟩
    obtain ⟨x, hx⟩ : ∃ x, L[k]? = some x := ⟨_, List.getElem?_eq_getElem hlt⟩
    have HX := Lib.hid hx
    have hx' := least_of_cells (RC.out _ CH.out) hx
    obtain ⟨g, rfl, c0, c1, c2⟩ := hx'
    have C1 : Hid (Chg [] w (wr.alloc (.cells #[.int .i64 (x.1.m : Int), .int .i64 (x.1.r : Int), x.2] 49))) := CH.out.alloc _
    have B1 : Hid (Blk (wr.alloc (.cells #[.int .i64 (x.1.m : Int), .int .i64 (x.1.r : Int), x.2] 49)) wr.heap.size 49 [.int .i64 (x.1.m : Int), .int .i64 (x.1.r : Int), x.2]) := Blk.made wr [_, _, _] _
    have hk0 : (0 : Int) ≤ k := Int.natCast_nonneg _
    have hk1 : (k : Int) < L.length := by omega
    have HK := Lib.hid hlt
    have WK := Lib.hid (wrap_in (z := (k : Int) + 1) (by have := HL.out; omega) (by have := HL.out; omega))
    obtain ⟨xo, xn, xc, hxv⟩ := HO.out x (List.mem_of_getElem? hx)
    obtain ⟨xd, xv⟩ := x
    obtain ⟨xm, xr, xb⟩ := xd
    dsimp only at c0 c1 c2 C1 B1 hxv
    subst hxv
    clear hx hlt hk
    by_cases hlow : xr < fr
    · have hl1 : (xr : Int) < fr := by omega
      have LS2 : Hid (Least L fr (k + 1) b) := LS.out.skip HX.out hlow
      clear hlow
      go_wp2_with fail
      exact ⟨⟨k + 1, b, by have := HK.out; omega, by rw [WK.out.2]; rfl, rfl, LS2, C1⟩, by have := HK.out; rw [WK.out.2]; simp [intOf]; omega⟩
    · have hl1 : ¬ (xr : Int) < fr := by omega
      have hfr : Hid (fr ≤ xr) := by show _ ≤ _; omega
      clear hlow
      go_upto_region 7 with fail
      generalize hW : wr.alloc (.cells #[.int .i64 (xm : Int), .int .i64 (xr : Int), .slice xo xn xc] 49) = W at *
      replace hW := Lib.hid hW
      clear c0 c1 c2 p0 hl1
      have q0 := B1.out.cell (j := 0) rfl
      have q1 := B1.out.cell (j := 1) rfl
      have p0 := PC.out _ C1.out
      rcases LS.out with ⟨rfl, hno⟩ | ⟨i, y, rfl, hi, hy, hfy, hle⟩
      · have LS2 : Hid (Least L fr (k + 1) (k : Int)) := Least.take (fun j q hj hq hf => by have := hno j q hj hq; omega) HX.out hfr.out
        clear hno
        go_quiet (fail)
        go_wp2_with fail
        exact ⟨⟨k + 1, k, by have := HK.out; omega, by rw [WK.out.2]; rfl, rfl, LS2, C1.out.drewN _⟩, by have := HK.out; rw [WK.out.2]; simp [intOf]; omega⟩
      · have hy' := least_of_cells (RC.out _ C1.out) hy
        obtain ⟨g', hg', d0, d1, d2⟩ := hy'
        obtain rfl : g = g' := by simpa using hg'
        obtain ⟨yd, yv⟩ := y
        obtain ⟨ym, yr, yb⟩ := yd
        dsimp only at d0 d1 d2 hfy hle
        have hi0 : (0 : Int) ≤ i := Int.natCast_nonneg _
        have hi1 : (i : Int) < L.length := by have := HK.out; omega
        have hin : ¬ (i : Int) < 0 := by omega
        have HI : Hid (i < k ∧ L[i]? = some (⟨ym, yr, yb⟩, yv) ∧ fr ≤ yr ∧ ∀ (j : Nat) (q : Pv), j < k → L[j]? = some q → fr ≤ q.1.r → ¬ Lf.lt q.1 ⟨ym, yr, yb⟩) := ⟨hi, hy, hfy, hle⟩
        clear hi hy hfy hle hg' d2
        by_cases a1 : xr < yr
        · have b1 : (xr : Int) < yr := by omega
          have LS2 : Hid (Least L fr (k + 1) (k : Int)) := Least.take (fun j q hj hq hf hlt => HI.out.2.2.2 j q hj hq hf (Lf.lt_trans hlt (.inl a1))) HX.out hfr.out
          clear a1
          go_quiet (fail)
          go_wp2_with fail
          exact ⟨⟨k + 1, k, by have := HK.out; omega, by rw [WK.out.2]; rfl, rfl, LS2, C1.out.drewN _⟩, by have := HK.out; rw [WK.out.2]; simp [intOf]; omega⟩
        · have b1 : ¬ (xr : Int) < yr := by omega
          by_cases a2 : xr = yr
          · have b2 : ((xr : Int) == (yr : Int)) = true := by simp [a2]
            by_cases a3 : xm < ym
            · have b3 : (xm : Int) < ym := by omega
              have LS2 : Hid (Least L fr (k + 1) (k : Int)) := Least.take (fun j q hj hq hf hlt => HI.out.2.2.2 j q hj hq hf (Lf.lt_trans hlt (.inr ⟨a2, a3⟩))) HX.out hfr.out
              clear a1 a2 a3
              go_quiet (fail)
              go_wp2_with fail
              exact ⟨⟨k + 1, k, by have := HK.out; omega, by rw [WK.out.2]; rfl, rfl, LS2, C1.out.drewN _⟩, by have := HK.out; rw [WK.out.2]; simp [intOf]; omega⟩
            · have b3 : ¬ (xm : Int) < ym := by omega
              have LS2 : Hid (Least L fr (k + 1) (i : Int)) := Least.keep HI.out.2.2.2 HI.out.1 HI.out.2.1 HI.out.2.2.1 HX.out (by unfold Lf.lt; dsimp only; omega)
              clear a1 a2 a3
              go_quiet (fail)
              go_wp2_with fail
              exact ⟨⟨k + 1, i, by have := HK.out; omega, by rw [WK.out.2]; rfl, rfl, LS2, C1.out.drewN _⟩, by have := HK.out; rw [WK.out.2]; simp [intOf]; omega⟩
          · have b2 : ((xr : Int) == (yr : Int)) = false := by simp; omega
            have LS2 : Hid (Least L fr (k + 1) (i : Int)) := Least.keep HI.out.2.2.2 HI.out.1 HI.out.2.1 HI.out.2.2.1 HX.out (by unfold Lf.lt; dsimp only; omega)
            clear a1 a2
            go_quiet (fail)
            go_wp2_with fail
            exact ⟨⟨k + 1, i, by have := HK.out; omega, by rw [WK.out.2]; rfl, rfl, LS2, C1.out.drewN _⟩, by have := HK.out; rw [WK.out.2]; simp [intOf]; omega⟩

end Go.Proofs.Ytihmegpcbpdipaa
