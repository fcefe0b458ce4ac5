/-
  XorMissing walked. By an AI agent.
-/
import Derived.Test.YtaciamnfkidmfaaXorSums
namespace Go.Proofs.Ytaciamnfkidmfaa
open Go.RowKit

theorem erase_bss {rs : List (List Nat)} (h : Xr.Bss rs) (k : Nat) : Xr.Bss (rs.eraseIdx k) := fun r hr => h r (List.mem_of_mem_eraseIdx hr)

theorem missVal_bs {rs : List (List Nat)} (h : Xr.Bss rs) (k : Int) : Bs (missVal rs k) := by
  unfold missVal
  split
  · intro b hb; cases hb
  · exact ofVal_bs (erase_bss h _)

theorem missVal_le {ds : List RowD} (hsm : ∀ d ∈ ds, d.bs.length ≤ 1000000) (k : Int) : (missVal (rowsN ds) k).length ≤ 1000000 := by
  unfold missVal
  split
  · simp
  · rw [← rowsN_erase]
    exact ofVal_le (fun d hd => hsm d (List.mem_of_mem_eraseIdx hd))

theorem missErr_le (rs : List (List Nat)) (k : Int) : missErr rs k = 0 ∨ missErr rs k = 1 ∨ missErr rs k = 4 := by
  unfold missErr
  split
  · exact .inr (.inl rfl)
  · exact ofErr_le _

/-- What is older than B, and not the book, is none of the book's. -/
theorem Desk.old {w w' : World} {s : List Nat} {B b : Nat} {lv : Value} {vs us : List (Value × List Value)} (h : Desk w B b lv vs us) (c : Chg s w w') (hs : ∀ k ∈ s, k < B) (hb : b ∉ s) : Desk w' B b lv vs us := by
  refine h.chg c (fun k hk => ⟨fun e => hb (by rw [← e]; exact hk), fun e => ?_, fun j v xs hj e => ?_⟩) (fun p hp k hk hm => ?_)
  · have := (h.bk.own.lt k e).1
    have := hs k hk
    omega
  · have := ((h.bk.row j v xs hj).lt k e).1
    have := hs k hk
    omega
  · have := (h.outs.lt hp hk).1
    have := hs k hm
    omega

/-- What has been lent stays, where none of its blocks turns. -/
theorem Lend.keep {w0 w w' : World} {s : List Nat} {G m1 m2 : Nat} {gs : List Nat} {ds : List RowD} (h : Lend w0 w G m1 m2 gs ds) (c : Chg s w w') (hs : ∀ g ∈ G :: gs, g ∉ s) (h1 : m1 ∉ s) (h2 : m2 ∉ s) : Lend w0 w' G m1 m2 gs ds :=
  ⟨h.rows.chg c (fun g hg => hs g (List.mem_cons_of_mem _ hg)), h.blk.chg c (hs G List.mem_cons_self), h.mark1.chg c h1, h.mark2.chg c h2, h.newG, h.new1, h.new2⟩

set_option maxHeartbeats 8000000 in
set_option maxRecDepth 100000 in
theorem missing_walk (v : Value) (at_ : Int) (ds : List RowD) (w : World) (h : Rws w v ds) (ha : -9223372036854775808 ≤ at_ ∧ at_ ≤ 9223372036854775807) :
    Calls Try.prog 5 #[v, .int .i64 at_] w fun e w' => e = .returned (.bool true) ∧ Chg [] w w' := by
  obtain ⟨ao, c, rfl⟩ := h.slice
  have hm := much_any _ _ _ h
  have HR := Lib.hid h
  cases hmb : muchB ds with
  | true =>
    rw [hmb] at hm
    clear h HR
    go_enter Try.func5, Try.ntmps5
    go_wp2_with fail
    refine hm.mono ?_
    rintro e w' ⟨rfl, rfl⟩
    go_wp2_with fail
    go_ret
    exact ⟨rfl, Chg.refl _ _⟩
  | false =>
    rw [hmb] at hm
    obtain ⟨hn, hsm0⟩ := not_much hmb
    have hsm : Hid (∀ d ∈ ds, d.bs.length ≤ 1000000) := fun d hd => by have := hsm0 d hd; omega
    have HE : Hid (∀ d ∈ ds, By d.bs ∧ d.bs.length ≤ 140737488355328) := fun d hd => (HR.out.each d hd).2
    have HX := Lib.hid (fun k => missVal_bs (rows_bss h) k)
    have HXL := Lib.hid (fun k => missVal_le hsm.out k)
    have HEL := Lib.hid (fun k => missErr_le (rowsN ds) k)
    clear hsm0 hmb h
    go_enter Try.func5, Try.ntmps5
    go_wp2_with fail
    refine hm.mono ?_
    clear hm
    rintro e w' ⟨rfl, rfl⟩
    go_wp2_with fail
    refine (known_any w).mono ?_
    rintro e w3 ⟨rfl, D3⟩
    obtain ⟨b, hb⟩ : ∃ b, b = w3.heap.size := ⟨_, rfl⟩
    have PB : Hid (Blk (w3.alloc (.cells #[.slice none 0 0, .slice none 0 0, .slice none 0 0, .slice none 0 0, .slice none 0 0, .slice none 0 0, .slice none 0 0, .slice none 0 0, .slice none 0 0, .slice none 0 0, .slice none 0 0, .slice none 0 0] 50)) b 50 [.slice none 0 0, .slice none 0 0, .slice none 0 0, .slice none 0 0, .slice none 0 0, .slice none 0 0, .slice none 0 0, .slice none 0 0, .slice none 0 0, .slice none 0 0, .slice none 0 0, .slice none 0 0]) := by
      have := Blk.made w3 [.slice none 0 0, .slice none 0 0, .slice none 0 0, .slice none 0 0, .slice none 0 0, .slice none 0 0, .slice none 0 0, .slice none 0 0, .slice none 0 0, .slice none 0 0, .slice none 0 0, .slice none 0 0] 50
      rw [← hb] at this
      exact this
    have D4 : Hid (Chg [] w (w3.alloc (.cells #[.slice none 0 0, .slice none 0 0, .slice none 0 0, .slice none 0 0, .slice none 0 0, .slice none 0 0, .slice none 0 0, .slice none 0 0, .slice none 0 0, .slice none 0 0, .slice none 0 0, .slice none 0 0] 50))) := D3.out.alloc _
    have hb0 : Hid (w.heap.size ≤ b) := by have := D3.out.size; show _ ≤ _; omega
    have hlr := lentRows_any _ ds _ (HR.out.chg D4.out) (by omega)
    have hb4 : (w3.alloc (.cells #[.slice none 0 0, .slice none 0 0, .slice none 0 0, .slice none 0 0, .slice none 0 0, .slice none 0 0, .slice none 0 0, .slice none 0 0, .slice none 0 0, .slice none 0 0, .slice none 0 0, .slice none 0 0] 50)).heap.size = b + 1 := by rw [hb]; simp
    replace hb4 := Lib.hid hb4
    clear D3
    go_wp2_with fail
    refine hlr.mono ?_
    clear hlr
    rintro e w5 ⟨G, m1, m2, gs, rfl, L, D5⟩
    rw [← hb]
    clear hb
    replace PB := Lib.hid (PB.out.chg D5.out (by simp))
    have D : Hid (Chg [] w w5) := D4.out.trans D5.out
    have hGb : Hid (∀ k ∈ G :: gs, b < k) := fun k hk => by
      have h4 := hb4.out
      rcases List.mem_cons.1 hk with rfl | hk
      · have := L.out.newG; omega
      · have := L.out.rows.new k hk; omega
    have hGw : Hid (∀ k ∈ G :: gs, w.heap.size ≤ k) := fun k hk => by
      have := hGb.out k hk
      have := hb0.out
      omega
    obtain ⟨wl, hwl⟩ : ∃ wl, wl = w3.alloc (.cells #[.slice none 0 0, .slice none 0 0, .slice none 0 0, .slice none 0 0, .slice none 0 0, .slice none 0 0, .slice none 0 0, .slice none 0 0, .slice none 0 0, .slice none 0 0, .slice none 0 0, .slice none 0 0] 50) := ⟨_, rfl⟩
    rw [← hwl] at L
    have hM0 : b < m1 ∧ b < m2 := by
      have h4 := hb4.out
      rw [← hwl] at h4
      have := L.out.new1
      have := L.out.new2
      omega
    clear hwl hb4 D4 D5
    have hgl := L.out.rows.len
    obtain ⟨B, hBe⟩ : ∃ B, B = w5.heap.size := ⟨_, rfl⟩
    have hB : Hid (w.heap.size ≤ B) := by show _ ≤ _; rw [hBe]; exact D.out.size
    have hB1 : Hid (B ≤ w5.heap.size) := by show _ ≤ _; omega
    have hG : Hid (∀ k ∈ G :: gs, k < B) := fun k hk => by
      rw [hBe]
      rcases List.mem_cons.1 hk with rfl | hk
      · exact L.out.blk.lt
      · exact L.out.rows.lt k hk
    have hM : Hid (b < m1 ∧ b < m2 ∧ m1 < B ∧ m2 < B) := by
      have h1 := L.out.mark1.lt
      have h2 := L.out.mark2.lt
      show _ ∧ _ ∧ _ ∧ _
      omega
    clear hBe hM0
    have K0 : Hid (Desk w5 B b (.slice none 0 0) [] []) := ⟨Bk.begin PB.out, Outs.nil _ _, fun p hp => by cases hp⟩
    have s1 := fun w' k (hk : -9223372036854775808 ≤ k ∧ k ≤ 9223372036854775807) (L' : Lend wl w' G m1 m2 gs ds) => missing_any _ _ k w' (L'.rws HE.out (by omega)) (by rw [lentDs_length hgl]; omega) (lent_small hsm.out) hk (fun ao n c e => by simp at e; omega)
    rw [lent_rowsN hgl] at s1
    have s2 := fun w' k (D' : Chg [] w w') => refMissing_any _ _ k w' (HR.out.chg D') (by omega) hsm.out
    generalize missVal (rowsN ds) = X at *
    generalize missErr (rowsN ds) = E at *
    replace s1 := Lib.hid s1
    replace s2 := Lib.hid s2
    clear PB hgl
    have hn0 : (0 : Int) ≤ ds.length := Int.natCast_nonneg _
    go_wp2_with fail
    go_loopw [7] (fun i wr => ∃ (j : Nat) (lv : Value) (vs : List (Value × List Value)), j ≤ 22 ∧ i = .int .i64 ((j : Int) - 1) ∧ vs.length ≤ j ∧ Hid (∀ p ∈ vs, p.2.length ≤ 1000000) ∧ Hid (Desk wr B b lv vs []) ∧ Hid (Lend wl wr G m1 m2 gs ds) ∧ Hid (Chg [] w wr) ∧ Hid (B ≤ wr.heap.size)) (fun i _ => (22 - intOf i).toNat)
    case atStart => exact ⟨0, _, [], by omega, rfl, by simp, (fun p hp => by cases hp), K0, L, D, hB1⟩
    case round =>
      obtain ⟨j, lv, vs, hj, rfl, hvl, VL, K, LR, DR, hBr⟩ := hrel
      clear K0 L D hB1
      by_cases hgo : (j : Int) - 1 ≤ ds.length + 1 ∧ (j : Int) - 1 ≤ 20
      · obtain ⟨h1, h2⟩ := hgo
        have step : ∀ k : Int, -9223372036854775808 ≤ k → k ≤ 9223372036854775807 → True := fun _ _ _ => trivial
        obtain ⟨k, hk⟩ : ∃ k : Int, k = if (j : Int) - 1 < 0 then at_ else (j : Int) - 1 := ⟨_, rfl⟩
        have hkr : -9223372036854775808 ≤ k ∧ k ≤ 9223372036854775807 := by rw [hk]; split <;> omega
        have hx1 := HX.out k
        have hx2 := HXL.out k
        have he1 := HEL.out k
        have t1 := s1.out wr k hkr LR.out
        have t2 := fun w' (D' : Chg [] w w') => s2.out w' k D'
        generalize X k = xk at *
        generalize E k = ek at *
        replace t2 := Lib.hid t2
        clear step
        by_cases hj0 : (j : Int) - 1 < 0
        · rw [if_pos hj0] at hk
          subst hk
          go_wp2_with fail
          refine t1.mono ?_
          clear t1
          rintro e wa ⟨a, rfl, O, C⟩
          have K1 : Hid (Desk wa B b lv vs [outOf a xk]) := K.out.more C.out O.out hBr.out
          have LR1 := Lib.hid (LR.out.chg C.out (by simp))
          have DR1 := Lib.hid (DR.out.trans C.out)
          have hBr1 := Lib.hid (Nat.le_trans hBr.out C.out.size)
          clear O C
          go_wp2_with fail
          refine (t2.out wa DR1.out).mono ?_
          clear t2
          rintro e wb ⟨z, rfl, O, C⟩
          have K2 : Hid (Desk wb B b lv vs [outOf a xk, outOf z xk]) := K1.out.more C.out O.out hBr1.out
          have LR2 := Lib.hid (LR1.out.chg C.out (by simp))
          have DR2 := Lib.hid (DR1.out.trans C.out)
          have hBr2 := Lib.hid (Nat.le_trans hBr1.out C.out.size)
          clear O C K1 LR1 DR1 hBr1
          go_wp2_with fail
          have hput := book_bytes B b lv vs a ((ints xk).map (Value.int .u8)) wb K2.out.bk (K2.out.outs.own _ List.mem_cons_self) (K2.out.off _ List.mem_cons_self) (by omega) hBr2.out
          refine hput.mono ?_
          clear hput
          rintro e wc ⟨lv2, rfl, ST⟩
          have ST2 := Lib.hid ST
          clear ST
          have K3 : Hid (Desk wc B b lv2 (vs ++ [outOf a xk]) [outOf z xk]) := K2.out.put ST2.out
          have hlv : ∀ k ∈ b :: lv.ownBlock.toList, b = k ∨ B ≤ k := fun k hk => by
            rcases List.mem_cons.1 hk with rfl | hk
            · exact .inl rfl
            · exact .inr (K2.out.bk.own.lt k (by simpa using hk)).1
          have DR3 : Hid (Chg [] w wc) := DR2.out.fresh ST2.out.chg (fun k hk => .inr (by
            have h1 := hb0.out
            have h2 := hB.out
            rcases hlv k hk with h | h <;> omega))
          have LR3 : Hid (Lend wl wc G m1 m2 gs ds) := by
            have no : ∀ g ∈ G :: gs, g ∉ b :: lv.ownBlock.toList := fun g hg hm => by
              have h1 := hG.out g hg
              have h2 := hGb.out g hg
              rcases hlv g hm with h | h <;> omega
            have no2 : ∀ g, b < g → g < B → g ∉ b :: lv.ownBlock.toList := fun g h1 h2 hm => by
              rcases hlv g hm with h | h <;> omega
            exact LR2.out.keep ST2.out.chg no (no2 m1 (hM.out.1) (hM.out.2.2.1)) (no2 m2 (hM.out.2.1) (hM.out.2.2.2))
          have hBr3 := Lib.hid (Nat.le_trans hBr2.out ST2.out.chg.size)
          clear ST2 K2 LR2 DR2 hBr2 hlv
          have hxi : (ints xk).length ≤ 140737488355328 := by rw [ints_length]; omega
          go_wp2_with fail
          refine (same_true _ _ (ints xk) wc (K3.out.bk.sl (by simp)) (K3.out.outs.sl (by simp)) hxi).mono ?_
          rintro e wd ⟨rfl, q, hw⟩
          have C : Hid (Chg [] wc wd) := by rw [hw]; exact (Chg.refl [] _).drewN _
          clear hw
          have K4 : Hid (Desk wd B b lv2 (vs ++ [outOf a xk]) []) := (K3.out.less (List.nil_sublist _)).quiet C.out
          have LR4 := Lib.hid (LR3.out.chg C.out (by simp))
          have DR4 := Lib.hid (DR3.out.trans C.out)
          have hBr4 := Lib.hid (Nat.le_trans hBr3.out C.out.size)
          have VL2 : Hid (∀ p ∈ vs ++ [outOf a xk], p.2.length ≤ 1000000) := fun p hp => by
            rcases List.mem_append.1 hp with hp | hp
            · exact VL.out p hp
            · rw [List.mem_singleton.1 hp, outOf_len]; exact hx2
          clear C K3 LR3 DR3 hBr3 K LR DR hBr VL
          go_wp2_with fail
          exact ⟨⟨j + 1, lv2, vs ++ [outOf a xk], by omega, by simp <;> omega, by simp <;> omega, VL2, K4, LR4, DR4, hBr4⟩, by simp [intOf]; omega⟩
        · rw [if_neg hj0] at hk
          rw [← hk] at h1 h2 hj0 ⊢
          have hkj : (j : Int) - 1 = k := hk.symm
          clear hk
          go_wp2_with fail
          refine t1.mono ?_
          clear t1
          rintro e wa ⟨a, rfl, O, C⟩
          have K1 : Hid (Desk wa B b lv vs [outOf a xk]) := K.out.more C.out O.out hBr.out
          have LR1 := Lib.hid (LR.out.chg C.out (by simp))
          have DR1 := Lib.hid (DR.out.trans C.out)
          have hBr1 := Lib.hid (Nat.le_trans hBr.out C.out.size)
          clear O C
          go_wp2_with fail
          refine (t2.out wa DR1.out).mono ?_
          clear t2
          rintro e wb ⟨z, rfl, O, C⟩
          have K2 : Hid (Desk wb B b lv vs [outOf a xk, outOf z xk]) := K1.out.more C.out O.out hBr1.out
          have LR2 := Lib.hid (LR1.out.chg C.out (by simp))
          have DR2 := Lib.hid (DR1.out.trans C.out)
          have hBr2 := Lib.hid (Nat.le_trans hBr1.out C.out.size)
          clear O C K1 LR1 DR1 hBr1
          go_wp2_with fail
          have hput := book_bytes B b lv vs a ((ints xk).map (Value.int .u8)) wb K2.out.bk (K2.out.outs.own _ List.mem_cons_self) (K2.out.off _ List.mem_cons_self) (by omega) hBr2.out
          refine hput.mono ?_
          clear hput
          rintro e wc ⟨lv2, rfl, ST⟩
          have ST2 := Lib.hid ST
          clear ST
          have K3 : Hid (Desk wc B b lv2 (vs ++ [outOf a xk]) [outOf z xk]) := K2.out.put ST2.out
          have hlv : ∀ k ∈ b :: lv.ownBlock.toList, b = k ∨ B ≤ k := fun k hk => by
            rcases List.mem_cons.1 hk with rfl | hk
            · exact .inl rfl
            · exact .inr (K2.out.bk.own.lt k (by simpa using hk)).1
          have DR3 : Hid (Chg [] w wc) := DR2.out.fresh ST2.out.chg (fun k hk => .inr (by
            have h1 := hb0.out
            have h2 := hB.out
            rcases hlv k hk with h | h <;> omega))
          have LR3 : Hid (Lend wl wc G m1 m2 gs ds) := by
            have no : ∀ g ∈ G :: gs, g ∉ b :: lv.ownBlock.toList := fun g hg hm => by
              have h1 := hG.out g hg
              have h2 := hGb.out g hg
              rcases hlv g hm with h | h <;> omega
            have no2 : ∀ g, b < g → g < B → g ∉ b :: lv.ownBlock.toList := fun g h1 h2 hm => by
              rcases hlv g hm with h | h <;> omega
            exact LR2.out.keep ST2.out.chg no (no2 m1 (hM.out.1) (hM.out.2.2.1)) (no2 m2 (hM.out.2.1) (hM.out.2.2.2))
          have hBr3 := Lib.hid (Nat.le_trans hBr2.out ST2.out.chg.size)
          clear ST2 K2 LR2 DR2 hBr2 hlv
          have hxi : (ints xk).length ≤ 140737488355328 := by rw [ints_length]; omega
          go_wp2_with fail
          refine (same_true _ _ (ints xk) wc (K3.out.bk.sl (by simp)) (K3.out.outs.sl (by simp)) hxi).mono ?_
          rintro e wd ⟨rfl, q, hw⟩
          have C : Hid (Chg [] wc wd) := by rw [hw]; exact (Chg.refl [] _).drewN _
          clear hw
          have K4 : Hid (Desk wd B b lv2 (vs ++ [outOf a xk]) []) := (K3.out.less (List.nil_sublist _)).quiet C.out
          have LR4 := Lib.hid (LR3.out.chg C.out (by simp))
          have DR4 := Lib.hid (DR3.out.trans C.out)
          have hBr4 := Lib.hid (Nat.le_trans hBr3.out C.out.size)
          have VL2 : Hid (∀ p ∈ vs ++ [outOf a xk], p.2.length ≤ 1000000) := fun p hp => by
            rcases List.mem_append.1 hp with hp | hp
            · exact VL.out p hp
            · rw [List.mem_singleton.1 hp, outOf_len]; exact hx2
          clear C K3 LR3 DR3 hBr3 K LR DR hBr VL
          go_wp2_with fail
          exact ⟨⟨j + 1, lv2, vs ++ [outOf a xk], by omega, by simp <;> omega, by simp <;> omega, VL2, K4, LR4, DR4, hBr4⟩, by simp [intOf]; omega⟩
      · by_cases h1 : (j : Int) - 1 ≤ ds.length + 1
        · have h2 : ¬ (j : Int) - 1 ≤ 20 := by omega
          go_wp2_with fail
          refine (wholeRows_any wl G m1 m2 gs ds _ wr LR.out (HR.out.chg DR.out) (by omega)).mono ?_
          rintro e wa ⟨rfl, C⟩
          have K1 := Lib.hid (K.out.quiet C.out)
          have LR1 := Lib.hid (LR.out.chg C.out (by simp))
          have DR1 := Lib.hid (DR.out.trans C.out)
          have hBr1 := Lib.hid (Nat.le_trans hBr.out C.out.size)
          clear C
          go_wp2_with fail
          refine (spoilRows_any wl G m1 m2 gs ds wa LR1.out (by omega) hsm.out).mono ?_
          rintro e wb ⟨rfl, C⟩
          have K2 : Hid (Desk wb B b lv vs []) := K1.out.old C.out hG.out (fun hm => by have := hGb.out b hm; omega)
          have DR2 : Hid (Chg [] w wb) := DR1.out.fresh C.out (fun k hk => .inr (hGw.out k hk))
          have hBr2 := Lib.hid (Nat.le_trans hBr1.out C.out.size)
          clear C
          go_wp2_with fail
          refine (desk_own w B b lv vs [] wb K2.out (by omega) hBr2.out (fun p hp => by have := VL.out p hp; omega) DR2.out hB.out).mono ?_
          rintro e wc ⟨rfl, D⟩
          go_wp2_with fail
          go_ret
          exact ⟨rfl, D.out⟩
        · go_wp2_with fail
          refine (wholeRows_any wl G m1 m2 gs ds _ wr LR.out (HR.out.chg DR.out) (by omega)).mono ?_
          rintro e wa ⟨rfl, C⟩
          have K1 := Lib.hid (K.out.quiet C.out)
          have LR1 := Lib.hid (LR.out.chg C.out (by simp))
          have DR1 := Lib.hid (DR.out.trans C.out)
          have hBr1 := Lib.hid (Nat.le_trans hBr.out C.out.size)
          clear C
          go_wp2_with fail
          refine (spoilRows_any wl G m1 m2 gs ds wa LR1.out (by omega) hsm.out).mono ?_
          rintro e wb ⟨rfl, C⟩
          have K2 : Hid (Desk wb B b lv vs []) := K1.out.old C.out hG.out (fun hm => by have := hGb.out b hm; omega)
          have DR2 : Hid (Chg [] w wb) := DR1.out.fresh C.out (fun k hk => .inr (hGw.out k hk))
          have hBr2 := Lib.hid (Nat.le_trans hBr1.out C.out.size)
          clear C
          go_wp2_with fail
          refine (desk_own w B b lv vs [] wb K2.out (by omega) hBr2.out (fun p hp => by have := VL.out p hp; omega) DR2.out hB.out).mono ?_
          rintro e wc ⟨rfl, D⟩
          go_wp2_with fail
          go_ret
          exact ⟨rfl, D.out⟩

end Go.Proofs.Ytaciamnfkidmfaa
