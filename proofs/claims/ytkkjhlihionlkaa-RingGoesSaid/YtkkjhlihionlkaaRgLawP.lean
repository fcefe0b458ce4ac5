/-
  RingPlaces, walked. By an AI agent.
-/
import Derived.Test.YtkkjhlihionlkaaRgMarks
namespace Go.Proofs.Ytkkjhlihionlkaa
open Go.RowKit

/-- The marks' row, among the things side by side. -/
def mkT (g S c : Nat) (gb : Nat → Bool) : Thing where
  F := [g]
  P := fun w => MkRow w g S c gb
  lt := fun w h k hk => by
    rw [List.mem_singleton.1 hk]
    exact (World.ownsRow.lt h g rfl).2
  stays := fun w w' s h c hs => MkRow.chg h c (hs g (by simp))

theorem Side.marked {w0 w w' : World} {ts : List Thing} {g S c : Nat} {gb gb' : Nat → Bool} (h : Side w0 w ts) (i : Nat) (hi : ts[i]? = some (mkT g S c gb)) (r : MkRow w' g S c gb') (ch : Chg [g] w w') : Side w0 w' (ts.set i (mkT g S c gb')) :=
  h.turnAt i hi ch (fun k hk => .inl hk) r (fun k hk => .inl hk)

theorem Side.ne {w0 w : World} {ts : List Thing} {a b : Thing} (h : Side w0 w ts) (i j : Nat) (hi : ts[i]? = some a) (hj : ts[j]? = some b) (hij : i ≠ j) : a.off b := by
  obtain ⟨hi1, rfl⟩ := List.getElem?_eq_some_iff.1 hi
  obtain ⟨hj1, rfl⟩ := List.getElem?_eq_some_iff.1 hj
  rcases Nat.lt_or_gt_of_ne hij with q | q
  · exact List.pairwise_iff_getElem.1 h.apart i j hi1 hj1 q
  · exact (List.pairwise_iff_getElem.1 h.apart j i hj1 hi1 q).symm

/-- A list of spans and the marks are apart. -/
theorem Side.clear {w0 w : World} {ts : List Thing} {v : Value} {l : List (Nat × Nat)} {g S c : Nat} {gb : Nat → Bool} (h : Side w0 w ts) (i j : Nat) (hi : ts[i]? = some (spT v l)) (hj : ts[j]? = some (mkT g S c gb)) (hij : i ≠ j) : v.ownBlock ≠ some g := fun q =>
  h.ne i j hi hj hij g (by simp [spT, q]) (by simp [mkT])

theorem info_bool1 : (Try.prog.info? 4).map (fun i => (i.zero, i.size, i.bytes)) = some (some (.bool false), 1, 1) := by kernel_rfl

theorem bl_none (S : Nat) : List.replicate S (Value.bool false) = bl S (fun _ => false) := by
  unfold bl
  rw [List.map_const', List.length_range]

/-- Marks that were just made: none. -/
theorem Side.blank {w0 w w' : World} {ts : List Thing} {S : Nat} (h : Side w0 w ts) (o : w'.ownsRow w.heap.size 4 1 (.slice (some ⟨w.heap.size, 0, none⟩) S S) S (List.replicate S (.bool false))) (c : Chg [] w w') : Side w0 w' (mkT w.heap.size S S (fun _ => false) :: ts) := by
  rw [bl_none] at o
  exact h.add c (show MkRow w' _ _ _ _ from ownsRow_base (B' := 0) o (Nat.zero_le _)) (fun k hk => by rw [List.mem_singleton.1 hk]; exact Nat.le_refl _)

/-- No mark at all but c places from f on. -/
def ups (S f c : Nat) : Nat → Bool := upto S f (fun _ => false) c

theorem ups_at {S f c i : Nat} (hf : f < S) (hi : i < S) : ups S f c ((f + i) % S) = decide (i < c) := by
  unfold ups upto
  rw [rel_at hf hi]
  simp

set_option maxHeartbeats 4000000 in
set_option maxRecDepth 100000 in
theorem ringPlaces_no (s t u : Int) (W : World) (h : ∀ w, Calls Try.prog 8 #[.int .i64 s, .int .i64 t, .int .i64 u] w (NoRing w)) :
    Calls Try.prog 7 #[.int .i64 s, .int .i64 t, .int .i64 u] W (Holds W) := by
  go_enter Try.func7, Try.ntmps7
  go_wp2_with (first
    | (go_at_call 8; refine (h _).mono ?_; rintro e w' ⟨rfl, rfl⟩)
    | (go_at_call 10; refine (known_any _).mono ?_; rintro e w' ⟨rfl, C⟩))
  go_ret
  exact ⟨rfl, C.out⟩

set_option maxHeartbeats 4000000 in
set_option maxRecDepth 100000 in
theorem ringPlaces_ok {S t u : Nat} (h : Rg S t u) (W : World) :
    Calls Try.prog 7 #[.int .i64 (S : Int), .int .i64 (t : Int), .int .i64 (u : Int)] W (Holds W) := by
  obtain ⟨i0, hi, hz0, hz1, hz2⟩ := info_parts info_bool1
  replace hi := Lib.hid hi
  replace hz0 := Lib.hid hz0
  replace hz1 := Lib.hid hz1
  replace hz2 := Lib.hid hz2
  have HR := Lib.hid h
  have LV : Hid (∀ R w, RingB w R S t u → Calls Try.prog 17 #[.pointer (some ⟨R, 0, none⟩)] w fun e w' => ∃ v, e = .returned v ∧ Hid (SpRow w' w.heap.size v (spn S t u)) ∧ Hid (Chg [] w w')) := fun R w hb => live_any h w hb
  have NW := Lib.hid (new_ok h W)
  have hS := h.hi
  clear h
  go_enter Try.func7, Try.ntmps7
  go_wp2_with fail
  refine NW.out.mono ?_
  rintro e w1 ⟨rfl, B, C⟩
  have H := Lib.hid ((Side.nil (Chg.refl _ W)).ring B.out C.out)
  clear B C NW
  generalize hR : W.heap.size = R at *
  clear hR
  go_wp2_with fail
  refine (known_any _).mono ?_
  rintro e w2 ⟨rfl, C⟩
  replace H := Lib.hid (H.out.quiet C.out)
  clear C
  go_wp2_with (at_make; refine wpList_make_full _ rfl _ _ 53 rfl w2.heap.size 4 i0 (.bool false) 1 Try.underlying53 hi.out hz0.out hz1.out .i64 .i64 (S : Int) (S : Int) S rfl rfl rfl rfl (by rw [hz2.out]; omega) (by unfold maxLen; omega) (Nat.le_refl _) ?_; intro w3 hown hgrow; rw [made_replicate _ _ rfl] at hown; replace H := Lib.hid (H.out.blank hown ((Chg.refl _ _).grown hgrow (by intro k hk; cases hk))); clear hown hgrow)
  generalize w2.heap.size = g at *
  go_wp2_with fail
  refine (LV.out _ _ (H.out.get 1 rfl)).mono ?_
  rintro e w4 ⟨v, rfl, O, C⟩
  replace H := Lib.hid (H.out.spans O.out C.out)
  clear O C LV
  go_wp2_with fail
  refine (marks_any HR.out.tail HR.out.used HR.out.hi (fun _ => false) (fun _ _ => rfl) v g S w4 (H.out.get 0 rfl) (H.out.get 1 rfl) (H.out.clear 0 1 rfl rfl (by decide))).mono ?_
  rintro e w5 ⟨rfl, C, M⟩
  replace H : Hid (Side W w5 [spT v (spn S t u), mkT g S S (ups S t u), ringT R S t u]) := H.out.marked 1 rfl M.out C.out
  clear C M
  go_wp2_with (at_make; refine wpList_make_full _ rfl _ _ 53 rfl w5.heap.size 4 i0 (.bool false) 1 Try.underlying53 hi.out hz0.out hz1.out .i64 .i64 (S : Int) (S : Int) S rfl rfl rfl rfl (by rw [hz2.out]; omega) (by unfold maxLen; omega) (Nat.le_refl _) ?_; intro w6 hown hgrow; rw [made_replicate _ _ rfl] at hown; replace H := Lib.hid (H.out.blank hown ((Chg.refl _ _).grown hgrow (by intro k hk; cases hk))); clear hown hgrow)
  generalize w5.heap.size = sg at *
  replace H : Hid (Side W w6 [mkT sg S S (ups S t 0), spT v (spn S t u), mkT g S S (ups S t u), ringT R S t u]) := by
    unfold ups at H ⊢
    rw [upto_zero]
    exact H
  have HS := Lib.hid hS
  clear hi hz0 hz1 hz2 hS
  go_loopw [13] (fun i wr => ∃ k : Nat, k ≤ S ∧ i = .int .i64 k ∧ Hid (Side W wr [mkT sg S S (ups S t k), spT v (spn S t u), mkT g S S (ups S t u), ringT R S t u])) (fun i _ => S - (intOf i).toNat)
  case atStart => exact ⟨0, Nat.zero_le _, rfl, H⟩
  case round =>
    obtain ⟨k, hk, rfl, HH⟩ := hrel
    clear H
    by_cases hlt : k < S
    · have hk0 : (0 : Int) ≤ k := Int.natCast_nonneg _
      have hk1 : (k : Int) < S := by omega
      have AT := Lib.hid (at_in HR.out wr (HH.out.get 3 rfl) k hlt)
      obtain ⟨x, hx⟩ : ∃ x, x = (t + k) % S := ⟨_, rfl⟩
      have hxS : x < S := by rw [hx]; exact HR.out.head_lt k
      have cin : ups S t u x = decide (k < u) := by rw [hx]; exact ups_at HR.out.tail hlt
      have csn : ups S t k x = false := by rw [hx, ups_at HR.out.tail hlt]; simp
      have htl : k = 0 → x = t := fun q => by rw [hx, q, Nat.add_zero, Nat.mod_eq_of_lt HR.out.tail]
      have hhd : k = u → x = (t + u) % S := fun q => by rw [hx, q]
      have mkd : Hid (∀ w', MkRow w' sg S S (ups S t k) → MkRow (w'.setCell ⟨sg, x, none⟩ (.bool true)) sg S S (ups S t (k + 1)) ∧ w'.frozen? ⟨sg, x, none⟩ = false) := fun w' m => by rw [hx]; exact MkRow.mark m HR.out.tail hlt
      rw [← hx] at AT
      clear hx
      go_wp2_with fail
      refine AT.out.mono ?_
      rintro e w7 ⟨rfl, C⟩
      replace HH := Lib.hid (HH.out.quiet C.out)
      clear C AT
      have m1 := (HH.out.get 0 rfl : MkRow w7 _ _ _ _).cell hxS
      have m2 := (HH.out.get 2 rfl : MkRow w7 _ _ _ _).cell hxS
      rw [csn] at m1
      rw [cin] at m2
      have HD := Lib.hid (head_any HR.out w7 (HH.out.get 3 rfl))
      have z0 : (0 : Int) ≤ x := Int.natCast_nonneg _
      have z00 : ¬ (x : Int) < 0 := by omega
      have z1 : (x : Int) < S := by omega
      have z2 : ¬ (S : Int) ≤ x := by omega
      have wk := Lib.hid (wrap_in (z := (k : Int) + 1) (by have := HS.out; omega) (by have := HS.out; omega))
      have FIN : Hid (∀ w', Chg [] w7 w' → Side W (w'.setCell ⟨sg, x, none⟩ (.bool true)) [mkT sg S S (ups S t (k + 1)), spT v (spn S t u), mkT g S S (ups S t u), ringT R S t u] ∧ w'.frozen? ⟨sg, x, none⟩ = false) := fun w' c => by
        have q := HH.out.quiet c
        obtain ⟨r1, r2⟩ := mkd.out w' (q.get 0 rfl)
        exact ⟨q.marked 0 rfl r1 (chg_one w' sg x _), r2⟩
      have FZ := (FIN.out w7 (Chg.refl _ _)).2
      have CI : Hid (∀ w', Chg [] w7 w' → w'.cell? ⟨sg, x, none⟩ = some (.bool false)) := fun w' c => by
        have := ((HH.out.quiet c).get 0 rfl : MkRow w' _ _ _ _).cell hxS
        rwa [csn] at this
      rcases Nat.eq_zero_or_pos k with hz | hz
      · rcases Nat.lt_trichotomy k u with hc | hc | hc
        · obtain rfl := htl hz
          have d1 : ((k : Int) == 0) = true := by simp; omega
          have d5 : (k : Int) < u := by omega
          rw [decide_eq_true hc] at m2
          have d3 : ((k : Int) == (u : Int)) = false := by simp; omega
          replace hc := Lib.hid hc
          replace hz := Lib.hid hz
          replace hlt := Lib.hid hlt
          clear htl hhd cin csn mkd
          obtain ⟨wk1, wk2⟩ := wk.out
          go_wp2_with fail
          clear wk1 wk2
          exact ⟨⟨k + 1, by have := hlt.out; omega, rfl, (FIN.out w7 (Chg.refl _ _)).1⟩, by have := hlt.out; simp [intOf]; omega⟩
        · obtain rfl := htl hz
          have d1 : ((k : Int) == 0) = true := by simp; omega
          have d5 : ¬ (k : Int) < u := by omega
          rw [decide_eq_false (by omega)] at m2
          have d3 : ((k : Int) == (u : Int)) = true := by simp; omega
          rw [← hhd hc] at HD
          replace hc := Lib.hid hc
          replace hz := Lib.hid hz
          replace hlt := Lib.hid hlt
          clear htl hhd cin csn mkd
          go_wp2_with fail
          refine HD.out.mono ?_
          rintro e w8 ⟨rfl, C⟩
          have f1 := (FIN.out w8 C.out).2
          have f2 := CI.out w8 C.out
          clear m1 m2 FZ
          obtain ⟨wk1, wk2⟩ := wk.out
          go_wp2_with fail
          clear wk1 wk2
          exact ⟨⟨k + 1, by have := hlt.out; omega, rfl, (FIN.out w8 C.out).1⟩, by have := hlt.out; simp [intOf]; omega⟩
        · obtain rfl := htl hz
          have d1 : ((k : Int) == 0) = true := by simp; omega
          have d5 : ¬ (k : Int) < u := by omega
          rw [decide_eq_false (by omega)] at m2
          have d3 : ((k : Int) == (u : Int)) = false := by simp; omega
          replace hc := Lib.hid hc
          replace hz := Lib.hid hz
          replace hlt := Lib.hid hlt
          clear htl hhd cin csn mkd
          obtain ⟨wk1, wk2⟩ := wk.out
          go_wp2_with fail
          clear wk1 wk2
          exact ⟨⟨k + 1, by have := hlt.out; omega, rfl, (FIN.out w7 (Chg.refl _ _)).1⟩, by have := hlt.out; simp [intOf]; omega⟩
      · rcases Nat.lt_trichotomy k u with hc | hc | hc
        · have d1 : ((k : Int) == 0) = false := by simp; omega
          have d5 : (k : Int) < u := by omega
          rw [decide_eq_true hc] at m2
          have d3 : ((k : Int) == (u : Int)) = false := by simp; omega
          replace hc := Lib.hid hc
          replace hz := Lib.hid hz
          replace hlt := Lib.hid hlt
          clear htl hhd cin csn mkd
          obtain ⟨wk1, wk2⟩ := wk.out
          go_wp2_with fail
          clear wk1 wk2
          exact ⟨⟨k + 1, by have := hlt.out; omega, rfl, (FIN.out w7 (Chg.refl _ _)).1⟩, by have := hlt.out; simp [intOf]; omega⟩
        · have d1 : ((k : Int) == 0) = false := by simp; omega
          have d5 : ¬ (k : Int) < u := by omega
          rw [decide_eq_false (by omega)] at m2
          have d3 : ((k : Int) == (u : Int)) = true := by simp; omega
          rw [← hhd hc] at HD
          replace hc := Lib.hid hc
          replace hz := Lib.hid hz
          replace hlt := Lib.hid hlt
          clear htl hhd cin csn mkd
          go_wp2_with fail
          refine HD.out.mono ?_
          rintro e w8 ⟨rfl, C⟩
          have f1 := (FIN.out w8 C.out).2
          have f2 := CI.out w8 C.out
          clear m1 m2 FZ
          obtain ⟨wk1, wk2⟩ := wk.out
          go_wp2_with fail
          clear wk1 wk2
          exact ⟨⟨k + 1, by have := hlt.out; omega, rfl, (FIN.out w8 C.out).1⟩, by have := hlt.out; simp [intOf]; omega⟩
        · have d1 : ((k : Int) == 0) = false := by simp; omega
          have d5 : ¬ (k : Int) < u := by omega
          rw [decide_eq_false (by omega)] at m2
          have d3 : ((k : Int) == (u : Int)) = false := by simp; omega
          replace hc := Lib.hid hc
          replace hz := Lib.hid hz
          replace hlt := Lib.hid hlt
          clear htl hhd cin csn mkd
          obtain ⟨wk1, wk2⟩ := wk.out
          go_wp2_with fail
          clear wk1 wk2
          exact ⟨⟨k + 1, by have := hlt.out; omega, rfl, (FIN.out w7 (Chg.refl _ _)).1⟩, by have := hlt.out; simp [intOf]; omega⟩
    · obtain rfl : k = S := by omega
      clear hk hlt
      go_wp2_with fail
      go_ret
      exact ⟨rfl, HH.out.chg⟩

theorem ringPlaces_walk (s t u : Int) (W : World) : Calls Try.prog 7 #[.int .i64 s, .int .i64 t, .int .i64 u] W (Holds W) := by
  rcases new_any s t u with ⟨S, T, U, h, rfl, rfl, rfl⟩ | ⟨_, h⟩
  · exact ringPlaces_ok h W
  · exact ringPlaces_no s t u W h

end Go.Proofs.Ytkkjhlihionlkaa
