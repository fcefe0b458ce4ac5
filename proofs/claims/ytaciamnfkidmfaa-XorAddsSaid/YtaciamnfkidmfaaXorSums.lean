/-
  XorSums walked. By an AI agent.
-/
import Derived.Test.YtaciamnfkidmfaaXorLaw
import Derived.Test.YtaciamnfkidmfaaGDesk
namespace Go.Proofs.Ytaciamnfkidmfaa
open Go.RowKit

theorem lent_rowsN {gs : List Nat} {ds : List RowD} (h : gs.length = ds.length) : rowsN (lentDs gs ds) = rowsN ds := by
  have := congrArg (List.map nats) (lentDs_bs h)
  rw [List.map_map, List.map_map] at this
  exact this

theorem lent_small {gs : List Nat} {ds : List RowD} {N : Nat} (h : ∀ d ∈ ds, d.bs.length ≤ N) : ∀ d ∈ lentDs gs ds, d.bs.length ≤ N := by
  intro e he
  obtain ⟨i, hi⟩ := List.mem_iff_getElem?.1 he
  obtain ⟨g, d, _, hd, rfl⟩ := lentDs_get hi
  exact h d (List.mem_of_getElem? hd)

set_option maxHeartbeats 4000000 in
set_option maxRecDepth 100000 in
theorem sums_walk (v : Value) (ds : List RowD) (w : World) (h : Rws w v ds) :
    Calls Try.prog 3 #[v] w fun e w' => e = .returned (.bool true) ∧ Chg [] w w' := by
  obtain ⟨ao, c, rfl⟩ := h.slice
  have hm := much_any _ _ _ h
  have HR := Lib.hid h
  cases hmb : muchB ds with
  | true =>
    rw [hmb] at hm
    clear h HR
    go_enter Try.func3, Try.ntmps3
    go_wp2_with fail
    refine hm.mono ?_
    rintro e w' ⟨rfl, rfl⟩
    go_wp2_with fail
    go_ret
    exact ⟨rfl, Chg.refl _ _⟩
  | false =>
    rw [hmb] at hm
    obtain ⟨hn, hsm0⟩ := not_much hmb
    have hsm : Hid (∀ d ∈ ds, d.bs.length ≤ 1000000) := fun d hd => by have := hsm0 d hd; omega
    have HE : Hid (∀ d ∈ ds, By d.bs ∧ d.bs.length ≤ 140737488355328) := fun d hd => (HR.out.each d hd).2
    have HX := Lib.hid (ofVal_bs (rows_bss h))
    have hxl := ofVal_le hsm.out
    clear hsm0 hmb h
    go_enter Try.func3, Try.ntmps3
    go_wp2_with fail
    refine hm.mono ?_
    clear hm
    rintro e w' ⟨rfl, rfl⟩
    go_wp2_with fail
    refine (lentRows_any _ ds w HR.out (by omega)).mono ?_
    rintro e w1 ⟨G, m1, m2, gs, rfl, L, D⟩
    have hgl := L.out.rows.len
    have hB : Hid (w.heap.size ≤ w1.heap.size) := D.out.size
    have HS2 : Hid (∀ d ∈ lentDs gs ds, d.bs.length ≤ 1000000) := lent_small hsm.out
    have hl2 : (lentDs gs ds).length ≤ 1000000 := by rw [lentDs_length hgl]; omega
    have U := Lib.hid (Outs.nil w1 w1.heap.size)
    have s1 := fun w' (L' : Lend w w' G m1 m2 gs ds) => of_any _ _ w' (L'.rws HE.out (by omega)) hl2 HS2.out
    have s2 := fun w' (L' : Lend w w' G m1 m2 gs ds) => even_any _ _ w' (L'.rws HE.out (by omega)) hl2 HS2.out
    rw [lent_rowsN hgl] at s1 s2
    have s3 := fun w' (D' : Chg [] w w') => of_any _ _ w' (HR.out.chg D') (by omega) hsm.out
    have s4 := fun w' (D' : Chg [] w w') => refOf_any _ _ w' (HR.out.chg D') (by omega) hsm.out
    have s5 := fun w' (D' : Chg [] w w') => refEven_any _ _ w' (HR.out.chg D') (by omega) hsm.out
    generalize ofVal (rowsN ds) = X at *
    generalize ofErr (rowsN ds) = E at *
    generalize evenVal (rowsN ds) = V at *
    replace s1 := Lib.hid s1
    replace s2 := Lib.hid s2
    replace s3 := Lib.hid s3
    replace s4 := Lib.hid s4
    replace s5 := Lib.hid s5
    have hgl2 := Lib.hid hgl
    clear hl2 HS2 hgl
    obtain ⟨B, hBe⟩ : ∃ B, B = w1.heap.size := ⟨_, rfl⟩
    rw [← hBe] at U hB
    have hB1 : Hid (B ≤ w1.heap.size) := by show _ ≤ _; omega
    have hG : Hid (∀ k ∈ G :: gs, k < B) := fun k hk => by
      rw [hBe]
      rcases List.mem_cons.1 hk with rfl | hk
      · exact L.out.blk.lt
      · exact L.out.rows.lt k hk
    clear hBe
    go_wp2_with fail
    refine (s1.out w1 L.out).mono ?_
    rintro e w2 ⟨a, rfl, O, C⟩
    replace U := Lib.hid (U.out.more C.out O.out hB1.out)
    replace L := Lib.hid (L.out.chg C.out (by simp))
    replace D := Lib.hid (D.out.trans C.out)
    replace hB1 := Lib.hid (Nat.le_trans hB1.out C.out.size)
    clear O C
    go_wp2_with fail
    refine (s1.out w2 L.out).mono ?_
    rintro e w3 ⟨b, rfl, O, C⟩
    replace U := Lib.hid (U.out.more C.out O.out hB1.out)
    replace L := Lib.hid (L.out.chg C.out (by simp))
    replace D := Lib.hid (D.out.trans C.out)
    replace hB1 := Lib.hid (Nat.le_trans hB1.out C.out.size)
    clear O C s1
    go_wp2_with fail
    refine (s2.out w3 L.out).mono ?_
    rintro e w4 ⟨rfl, C⟩
    replace U := Lib.hid (U.out.quiet C.out)
    replace L := Lib.hid (L.out.chg C.out (by simp))
    replace D := Lib.hid (D.out.trans C.out)
    replace hB1 := Lib.hid (Nat.le_trans hB1.out C.out.size)
    clear C s2
    go_wp2_with fail
    refine (wholeRows_any w G m1 m2 gs ds _ w4 L.out (HR.out.chg D.out) (by omega)).mono ?_
    rintro e w5 ⟨rfl, C⟩
    replace U := Lib.hid (U.out.quiet C.out)
    replace L := Lib.hid (L.out.chg C.out (by simp))
    replace D := Lib.hid (D.out.trans C.out)
    replace hB1 := Lib.hid (Nat.le_trans hB1.out C.out.size)
    clear C
    go_wp2_with fail
    refine (spoilRows_any w G m1 m2 gs ds w5 L.out (by omega) hsm.out).mono ?_
    rintro e w6 ⟨rfl, C⟩
    replace U := Lib.hid (U.out.old C.out hG.out)
    replace D : Hid (Chg [] w w6) := D.out.fresh C.out (fun k hk => .inr (by
      rcases List.mem_cons.1 hk with rfl | hk
      · exact L.out.newG
      · exact L.out.rows.new k hk))
    replace hB1 := Lib.hid (Nat.le_trans hB1.out C.out.size)
    clear C L
    go_wp2_with fail
    refine (s3.out w6 D.out).mono ?_
    rintro e w7 ⟨d, rfl, O, C⟩
    replace U := Lib.hid (U.out.more C.out O.out hB1.out)
    replace D := Lib.hid (D.out.trans C.out)
    replace hB1 := Lib.hid (Nat.le_trans hB1.out C.out.size)
    clear O C s3
    go_wp2_with fail
    refine (s4.out w7 D.out).mono ?_
    rintro e w8 ⟨z, rfl, O, C⟩
    replace U := Lib.hid (U.out.more C.out O.out hB1.out)
    replace D := Lib.hid (D.out.trans C.out)
    replace hB1 := Lib.hid (Nat.le_trans hB1.out C.out.size)
    clear O C s4
    go_wp2_with fail
    refine (s5.out w8 D.out).mono ?_
    rintro e w9 ⟨rfl, C⟩
    replace U := Lib.hid (U.out.quiet C.out)
    replace D := Lib.hid (D.out.trans C.out)
    replace hB1 := Lib.hid (Nat.le_trans hB1.out C.out.size)
    clear C s5
    go_wp2_with fail
    refine (known_any w9).mono ?_
    rintro e w10 ⟨rfl, C⟩
    replace U := Lib.hid (U.out.quiet C.out)
    replace D := Lib.hid (D.out.trans C.out)
    replace hB1 := Lib.hid (Nat.le_trans hB1.out C.out.size)
    clear C
    have K : Hid (Desk _ B w10.heap.size (.slice none 0 0) [] [outOf a X, outOf b X, outOf d X, outOf z X]) := Desk.begin (by simpa using U.out)
    have hb0 : Hid (w.heap.size ≤ w10.heap.size) := D.out.size
    replace D := Lib.hid (D.out.alloc (.cells #[.slice none 0 0, .slice none 0 0, .slice none 0 0, .slice none 0 0, .slice none 0 0, .slice none 0 0, .slice none 0 0, .slice none 0 0, .slice none 0 0, .slice none 0 0, .slice none 0 0, .slice none 0 0] 50))
    have hB2 : Hid (B ≤ (w10.alloc (.cells #[.slice none 0 0, .slice none 0 0, .slice none 0 0, .slice none 0 0, .slice none 0 0, .slice none 0 0, .slice none 0 0, .slice none 0 0, .slice none 0 0, .slice none 0 0, .slice none 0 0, .slice none 0 0] 50)).heap.size) := by
      have := hB1.out
      show _ ≤ _
      simp
      omega
    clear U hB1
    obtain ⟨bk, hbk⟩ : ∃ bk, bk = w10.heap.size := ⟨_, rfl⟩
    have s6 := desk_put w B bk _ [] _ a X _ (by rw [hbk]; exact K.out) (by simp) hB2.out D.out (by rw [hbk]; exact hb0.out) hB.out
    rw [← hbk] at hb0
    clear K hB2 D
    go_wp2_with fail
    rw [← hbk]
    clear hbk
    refine s6.mono ?_
    clear s6
    rintro e w11 ⟨rfl, lv1, K, hB2, D⟩
    replace K := Lib.hid (show Desk w11 B bk lv1 [outOf a X] [outOf b X, outOf d X, outOf z X] from K.out)
    go_wp2_with fail
    refine (desk_put w B bk lv1 _ _ b X w11 K.out (by simp) hB2.out D.out hb0.out hB.out).mono ?_
    clear K
    clear hB2
    rintro e w12 ⟨rfl, lv2, K, hB2, D⟩
    replace K := Lib.hid (show Desk w12 B bk lv2 [outOf a X, outOf b X] [outOf d X, outOf z X] from K.out)
    go_wp2_with fail
    refine (desk_put w B bk lv2 _ _ d X w12 K.out (by simp) hB2.out D.out hb0.out hB.out).mono ?_
    clear K
    clear hB2
    rintro e w13 ⟨rfl, lv3, K, hB2, D⟩
    replace K := Lib.hid (show Desk w13 B bk lv3 [outOf a X, outOf b X, outOf d X] [outOf z X] from K.out)
    have hxi : (ints X).length ≤ 140737488355328 := by rw [ints_length]; omega
    go_wp2_with fail
    refine (same_true _ _ (ints X) w13 (K.out.bk.sl (by simp)) (K.out.outs.sl (by simp)) hxi).mono ?_
    rintro e w14 ⟨rfl, q, hw⟩
    have C : Hid (Chg [] w13 w14) := by rw [hw]; exact (Chg.refl [] _).drewN _
    clear hw
    replace K := Lib.hid (K.out.quiet C.out)
    replace D := Lib.hid (D.out.trans C.out)
    replace hB2 := Lib.hid (Nat.le_trans hB2.out C.out.size)
    clear C
    go_wp2_with fail
    refine (same_true _ _ (ints X) w14 (K.out.bk.sl (by simp)) (K.out.outs.sl (by simp)) hxi).mono ?_
    rintro e w15 ⟨rfl, q, hw⟩
    have C : Hid (Chg [] w14 w15) := by rw [hw]; exact (Chg.refl [] _).drewN _
    clear hw
    replace K := Lib.hid (K.out.quiet C.out)
    replace D := Lib.hid (D.out.trans C.out)
    replace hB2 := Lib.hid (Nat.le_trans hB2.out C.out.size)
    clear C
    go_wp2_with fail
    refine (same_true _ _ (ints X) w15 (K.out.bk.sl (by simp)) (K.out.outs.sl (by simp)) hxi).mono ?_
    rintro e w16 ⟨rfl, q, hw⟩
    have C : Hid (Chg [] w15 w16) := by rw [hw]; exact (Chg.refl [] _).drewN _
    clear hw
    replace K := Lib.hid (K.out.quiet C.out)
    replace D := Lib.hid (D.out.trans C.out)
    replace hB2 := Lib.hid (Nat.le_trans hB2.out C.out.size)
    clear C
    go_wp2_with fail
    refine (desk_own w B bk lv3 _ _ w16 K.out (by simp) hB2.out (fun p hp => by
      have : p = outOf a X ∨ p = outOf b X ∨ p = outOf d X := by simpa using hp
      rcases this with rfl | rfl | rfl <;> rw [outOf_len] <;> omega) D.out hB.out).mono ?_
    rintro e w17 ⟨rfl, D⟩
    go_wp2_with fail
    go_ret
    exact ⟨rfl, D.out⟩

end Go.Proofs.Ytaciamnfkidmfaa
