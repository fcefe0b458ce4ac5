/-
  Escape and Unescape of any bytes. By an AI agent.
-/
import Derived.Test.YtnjemjkjbeingaaRcKnown
import Derived.Test.YtnjemjkjbeingaaRcSame
import Derived.Test.YtnjemjkjbeingaaRcBook
import Derived.Test.YtnjemjkjbeingaaRcDEsc
import Derived.Test.YtnjemjkjbeingaaGLent
namespace Go.Proofs.Ytnjemjkjbeingaa
open Go.RowKit Crc

theorem esc_back {b : List Nat} (hl : b.length = 128) : (escV b).length = 128 ∧ uneE (escV b) (escB b) = 0 ∧ uneV (escV b) (escB b) = b ∧ kindOf (escV b) = 0 ∧ begOf (escV b) magicB = false := by
  have hL : (escV b).length = 128 := by
    unfold escV
    rw [if_pos hl]
    split
    · rw [List.length_append, List.length_drop, hl]; rfl
    · exact hl
  have hp : escB b = begOf b magicB := by unfold escB; rw [decide_eq_true hl]; rfl
  have hN : begOf (escV b) magicB = false := by
    unfold escV
    rw [if_pos hl]
    rcases hB : begOf b magicB with _ | _
    · exact hB
    · rw [if_pos rfl]
      refine decide_eq_false ?_
      show ¬ List.replicate 4 0 = magicB
      decide
  have hK : kindOf (escV b) = 0 := by
    rw [kindOf_eq hL, hN, if_neg (fun h => by cases h.1)]
  refine ⟨hL, ?_, ?_, hK, hN⟩
  · unfold uneE
    rw [if_pos hL, hp, hN]
    rcases hB : begOf b magicB with _ | _
    · rfl
    · have : begOf (escV b) (List.replicate 4 0) = true := by
        unfold escV
        rw [if_pos hl, hB, if_pos rfl]
        exact decide_eq_true rfl
      rw [if_pos rfl, this, if_pos rfl]
  · unfold uneV
    rw [if_pos hL, hp, hN]
    rcases hB : begOf b magicB with _ | _
    · show escV b = b
      unfold escV
      rw [if_pos hl, hB]
      rfl
    · have e : escV b = List.replicate 4 0 ++ b.drop 4 := by
        unfold escV
        rw [if_pos hl, hB, if_pos rfl]
      have : begOf (escV b) (List.replicate 4 0) = true := by
        rw [e]
        exact decide_eq_true rfl
      rw [if_pos rfl, this, if_pos rfl, e]
      show magicB ++ b.drop 4 = b
      have h4 : b.take 4 = magicB := of_decide_eq_true hB
      rw [← h4, List.take_append_drop]

theorem esc_short {b : List Nat} (hl : ¬ b.length = 128) : escV b = [] ∧ escE b = 4 := by
  unfold escV escE
  rw [if_neg hl, if_neg hl]
  exact ⟨rfl, rfl⟩

theorem une_len (b : List Nat) (es : Bool) : (uneV b es).length ≤ 128 := by
  unfold uneV
  split
  next hl =>
    split
    · split
      · rw [List.length_append, List.length_drop, hl]; decide
      · simp
    · split
      · simp
      · omega
  next => simp

theorem une_err (b : List Nat) (es : Bool) : 0 ≤ uneE b es ∧ uneE b es ≤ 80 := by
  unfold uneE
  repeat' split
  all_goals decide

theorem esc_bs {b : List Nat} (h : Bs b) : Bs (escV b) := by
  unfold escV
  split
  · split
    · intro x hx
      rcases List.mem_append.1 hx with hx | hx
      · exact zeros_bs x hx
      · exact h x (List.mem_of_mem_drop hx)
    · exact h
  · intro x hx; cases hx

theorem own_caps {w : World} {base : Nat} {v : Value} {n : Nat} {xs : List Value} (h : w.ownsRow base 5 1 v n xs) : ∀ ao m c, v = .slice ao m c → m ≤ c := fun ao m c he => by
  subst he
  exact owned_cap h

theorem wholeC_any (g : Nat) (v : Value) (xs : List Int) (w : World) (hb : Blk w g 5 ((xs ++ [91, 92]).map (Value.int .u8))) (h : Sl w v xs) (hbig : xs.length ≤ 140737488355328) :
    Calls Try.prog 24 #[.slice (some ⟨g, 0, none⟩) xs.length (xs.length + 2), v] w fun e w' => e = .returned (.bool true) ∧ Hid (Chg [] w w') := by
  refine (whole_any g v xs w hb h hbig).mono ?_
  rintro e w' ⟨rfl, q, rfl⟩
  exact ⟨rfl, (Chg.refl _ _).drewN q⟩

set_option maxHeartbeats 16000000 in
set_option maxRecDepth 100000 in
theorem recordEscapes_core (v : Value) (b : List Nat) (es : Bool) (w : World) (h : Sl w v (ints b)) (hbs : Bs b) (hcap : ∀ ao n c, v = .slice ao n c → n ≤ c) :
    Calls Try.prog 5 #[v, .bool es] w fun e w' => e = .returned (.bool true) ∧ Hid (Chg [] w w') := by
  by_cases hbig : b.length ≤ 100000
  case neg =>
    obtain ⟨ao, c, rfl⟩ := h.slice
    rw [ints_length]
    have h2 : (100000 : Int) < b.length := by omega
    clear h hcap
    go_enter Try.func5, Try.ntmps5
    go_wp2_with fail
    go_ret
    exact ⟨rfl, Chg.refl _ _⟩
  have hbig2 : ¬ (100000 : Int) < b.length := by omega
  have KN := Lib.hid known_any
  have LE := Lib.hid (lent_any v (ints b) w h (by rw [ints_length]; omega))
  have EO := Lib.hid (fun g W (B : Blk W g 5 ((ints b ++ [91, 92]).map (Value.int .u8))) => escape_any (.slice (some ⟨g, 0, none⟩) (ints b).length ((ints b).length + 2)) b W (Blk.sl B) hbs (by omega) (fun ao n c he => by
    obtain ⟨_, rfl, rfl⟩ : _ ∧ (ints b).length = n ∧ (ints b).length + 2 = c := by simpa using he
    omega))
  have UO := Lib.hid (fun g W (B : Blk W g 5 ((ints b ++ [91, 92]).map (Value.int .u8))) => unescape_any (.slice (some ⟨g, 0, none⟩) (ints b).length ((ints b).length + 2)) b es W (Blk.sl B) hbs (by omega) (fun ao n c he => by
    obtain ⟨_, rfl, rfl⟩ : _ ∧ (ints b).length = n ∧ (ints b).length + 2 = c := by simpa using he
    omega))
  have WH := Lib.hid (fun g W (B : Blk W g 5 ((ints b ++ [91, 92]).map (Value.int .u8))) (C : Chg [] w W) => wholeC_any g v (ints b) W B (h.chg C (by simp)) (by rw [ints_length]; omega))
  have SP := Lib.hid (fun g W (B : Blk W g 5 ((ints b ++ [91, 92]).map (Value.int .u8))) => spoil_any g (ints b).length (ints b ++ [91, 92]) W B (by simp) (by rw [ints_length]; omega))
  have ER := Lib.hid (fun W (C : Chg [] w W) => rescape_any v b W (h.chg C (by simp)) hbs hcap)
  have UR := Lib.hid (fun W (C : Chg [] w W) => runescape_any v b es W (h.chg C (by simp)) hbs hcap)
  have SZ := Lib.hid (fun W u (k : Sl W u (ints b)) (C : Chg [] w W) => sameB_any u v b b W k (h.chg C (by simp)) (by omega) (by omega))
  have UL := une_len b es
  obtain ⟨ue0, ue1⟩ := une_err b es
  unfold EscIs RcOwn at EO ER
  unfold UneIs RcOwn at UO UR
  have SXX := Lib.hid (fun W u v (k1 : Sl W u (ints (escV b))) (k2 : Sl W v (ints (escV b))) (hl : (escV b).length ≤ 1000000) => sameB_any u v (escV b) (escV b) W k1 k2 hl hl)
  have SYY := Lib.hid (fun W u v (k1 : Sl W u (ints (uneV b es))) (k2 : Sl W v (ints (uneV b es))) => sameB_any u v (uneV b es) (uneV b es) W k1 k2 (by omega) (by omega))
  rw [decide_eq_true rfl] at SXX SYY SZ
  rw [ints_length] at EO UO WH SP
  obtain ⟨ao, c, rfl⟩ := h.slice
  rw [ints_length] at WH ER UR SZ ⊢
  unfold LentBy at LE
  rw [ints_length] at LE
  by_cases hl : b.length = 128
  case neg =>
    obtain ⟨xe, ee⟩ := esc_short hl
    have LX : (escV b).length ≤ 1000000 := by rw [xe]; decide
    have LY : (uneV b es).length ≤ 1000000 := by omega
    rw [ee] at EO ER
    clear h hcap hbs xe ee hl SZ UL
    generalize escV b = XV at *
    generalize uneV b es = YV at *
    generalize escB b = p at *
    generalize uneE b es = ue at *
    go_enter Try.func5, Try.ntmps5
    go_wp2_with fail
    refine LE.out.mono ?_
    rintro e w1 ⟨g, rfl, G, C, hg⟩
    have hgl : g < w1.heap.size := G.lt
    have D1 : Hid (Chg [] w w1) := C
    have G1 := Lib.hid G
    clear G C LE
    go_wp2_with fail
    refine (EO.out g w1 G1.out).mono ?_
    rintro e w2 ⟨x, rfl, OX, C⟩
    have D2 := Lib.hid (D1.out.trans C.out)
    have G2 := Lib.hid (G1.out.chg C.out (by simp))
    have AX : Hid (∀ k, x.ownBlock = some k → w1.heap.size ≤ k ∧ k < w2.heap.size) := fun k hk => OX.out.lt k hk
    have h12 : w1.heap.size ≤ w2.heap.size := C.out.size
    clear C G1 EO
    go_wp2_with fail
    refine (UO.out g w2 G2.out).mono ?_
    rintro e w3 ⟨y, rfl, OY, C⟩
    have D3 := Lib.hid (D2.out.trans C.out)
    have G3 := Lib.hid (G2.out.chg C.out (by simp))
    have OX3 := Lib.hid (owns_chg OX.out C.out (by simp))
    have AY : Hid (∀ k, y.ownBlock = some k → w2.heap.size ≤ k ∧ k < w3.heap.size) := fun k hk => OY.out.lt k hk
    have h23 : w2.heap.size ≤ w3.heap.size := C.out.size
    clear C G2 UO OX D2
    go_wp2_with fail
    refine (WH.out g w3 G3.out D3.out).mono ?_
    rintro e w4 ⟨rfl, C⟩
    have D4 := Lib.hid (D3.out.trans C.out)
    have G4 := Lib.hid (G3.out.chg C.out (by simp))
    have OX4 := Lib.hid (owns_chg OX3.out C.out (by simp))
    have OY4 := Lib.hid (owns_chg OY.out C.out (by simp))
    have h34 : w3.heap.size ≤ w4.heap.size := C.out.size
    clear C G3 WH OX3 OY D3
    go_wp2_with fail
    refine (SP.out g w4 G4.out).mono ?_
    rintro e w5 ⟨rfl, C⟩
    have D5 : Hid (Chg [] w w5) := D4.out.fresh C (fun j hj => .inr (by rw [List.mem_singleton.1 hj]; exact hg))
    have OX5 := Lib.hid (owns_chg OX4.out C (fun k hk hm => by have h1 := (AX.out k hk).1; rw [List.mem_singleton.1 hm] at h1; omega))
    have OY5 := Lib.hid (owns_chg OY4.out C (fun k hk hm => by have h1 := (AY.out k hk).1; rw [List.mem_singleton.1 hm] at h1; omega))
    have h45 : w4.heap.size ≤ w5.heap.size := C.size
    clear C G4 SP OX4 OY4 D4
    go_wp2_with fail
    refine (ER.out w5 D5.out).mono ?_
    rintro e w6 ⟨wx, rfl, OWX, C⟩
    have E6 : Hid (Chg [] w5 w6) := C
    have D6 := Lib.hid (D5.out.trans C.out)
    clear C ER
    go_wp2_with fail
    refine (UR.out w6 D6.out).mono ?_
    rintro e w7 ⟨wy, rfl, OWY, C⟩
    have E7 := Lib.hid (E6.out.trans C.out)
    have D7 := Lib.hid (D6.out.trans C.out)
    have OWX7 := Lib.hid (owns_chg OWX.out C.out (by simp))
    have h57 : w5.heap.size ≤ w7.heap.size := E7.out.size
    clear C UR OWX D6 E6
    go_upto_region 11 with fail
    refine wp_named2 (fun w8 hw8 => ?_)
    have E8 : Hid (Chg [] w7 w8) := by show Chg _ _ _; rw [hw8]; exact (Chg.refl _ _).alloc _
    have BK : Hid (BkLine w8 w1.heap.size w7.heap.size (.slice none 0 0) [] w1.heap.size) := by
      show BkLine _ _ _ _ _ _
      rw [hw8]
      exact BkLine.begin w1.heap.size w1.heap.size (by omega) (by omega)
    obtain ⟨bb, hbb⟩ : ∃ b, b = w7.heap.size := ⟨_, rfl⟩
    have h7b : w7.heap.size ≤ bb := Nat.le_of_eq hbb.symm
    rw [← hbb] at BK ⊢
    clear hw8 hbb
    have O1 := Lib.hid (own_rowB (B := w1.heap.size) (owns_chg OX5.out (E7.out.trans E8.out) (by simp)) (Nat.le_refl _))
    go_wp2_with fail
    refine (BK.out.add x (rowB XV) O1.out (rowB_len _ LX) AX.out h12 (by omega) (by decide)).mono ?_
    rintro e w9 ⟨lv1, rfl, BK1, K⟩
    have E9 := Lib.hid (K.out w7 E8.out h7b)
    have O2 := Lib.hid (own_rowB (B := w1.heap.size) (owns_chg OY5.out (E7.out.trans E9.out) (by simp)) h12)
    clear BK O1 K E8
    go_wp2_with fail
    refine (BK1.out.add y (rowB YV) O2.out (rowB_len _ LY) AY.out h23 (by omega) (by simp)).mono ?_
    rintro e w10 ⟨lv2, rfl, BK2, K⟩
    have E10 := Lib.hid (K.out w7 E9.out h7b)
    clear BK1 O2 K E9
    have X7 : Hid (∀ W, Chg [] w7 W → W.ownsRow w1.heap.size 5 1 x XV.length ((ints XV).map (Value.int .u8))) := fun W c => owns_chg OX5.out (E7.out.trans c) (by simp)
    have SX : Hid (∀ W, Chg [] w7 W → Sl W x (ints XV)) := fun W c => Sl.owned (X7.out W c)
    have SY : Hid (∀ W, Chg [] w7 W → Sl W y (ints YV)) := fun W c => Sl.owned (owns_chg OY5.out (E7.out.trans c) (by simp))
    have SWX : Hid (∀ W, Chg [] w7 W → Sl W wx (ints XV)) := fun W c => Sl.owned (owns_chg OWX7.out c (by simp))
    have SWY : Hid (∀ W, Chg [] w7 W → Sl W wy (ints YV)) := fun W c => Sl.owned (owns_chg OWY.out c (by simp))
    have D10 := Lib.hid (D7.out.trans E10.out)
    have h1z : w1.heap.size ≤ w10.heap.size := by have := E10.out.size; omega
    clear OX5 OY5 OWX7 OWY AX AY E7 D5
    go_wp2_with fail
    refine (SXX.out w10 x wx (SX.out _ E10.out) (SWX.out _ E10.out) LX).mono ?_
    rintro e w11 ⟨rfl, C⟩
    have P11 : Hid (Chg [] w10 w11) := C
    have F11 := Lib.hid (E10.out.trans C.out)
    clear C
    go_wp2_with fail
    refine (SYY.out w11 y wy (SY.out _ F11.out) (SWY.out _ F11.out)).mono ?_
    rintro e w12 ⟨rfl, C⟩
    have P12 := Lib.hid (P11.out.trans C.out)
    have F12 := Lib.hid (F11.out.trans C.out)
    clear C F11 P11 SXX SYY SWX SWY SY
    go_wp2_with fail
    refine (KN.out w12).mono ?_
    rintro e w13 ⟨rfl, C⟩
    have P13 := Lib.hid (P12.out.trans C.out)
    have F13 := Lib.hid (F12.out.trans C.out)
    clear C F12 P12 KN E10
    have FN : Hid (Bk w13 w1.heap.size bb lv2 (([] ++ [(x, rowB XV)]) ++ [(y, rowB YV)])) := (BK2.out.chg P13.out).bk
    go_wp2_with fail
    refine (bk_own FN.out (by have := P13.out.size; omega) (by simp) (fun j v xs hj => (BK2.out.each j v xs hj).1)).mono ?_
    rintro e w14 ⟨rfl, K⟩
    have F14 := Lib.hid (K.out w (D10.out.trans P13.out) D1.out.size)
    go_wp2_with fail
    go_ret
    exact ⟨rfl, F14⟩
  obtain ⟨hXL, z1, z2, z3, z4⟩ := esc_back hl
  have ee : escE b = 0 := by unfold escE; rw [if_pos hl]
  have LX : (escV b).length ≤ 1000000 := by omega
  have LY : (uneV b es).length ≤ 1000000 := by omega
  have hXS := esc_bs hbs
  have UZ := Lib.hid (fun u W (k : Sl W u (ints (escV b))) (hc : ∀ ao n c, u = .slice ao n c → n ≤ c) => unescape_any u (escV b) (escB b) W k hXS LX hc)
  unfold UneIs RcOwn at UZ
  rw [z1, z2] at UZ
  have KX := Lib.hid (fun u W (k : Sl W u (ints (escV b))) (hc : ∀ ao n c, u = .slice ao n c → n ≤ c) => kind_any u (escV b) W k hXS hc)
  rw [z3, show ((0 : Nat) : Int) = 0 from rfl] at KX
  have CX := Lib.hid (fun W gx xc (k : Sl W (.slice (some ⟨gx, 0, none⟩) 128 xc) (ints (escV b))) => str_pre W gx 0 xc 128 4 (escV b) k hXL (by decide) (by decide))
  have hM2 : (strOfNums (ints magicB)).toList = [83, 80, 74, 76] := by rw [ByteArray.toList_eq, strOfNums_data]; rfl
  have dX : ((strOfNums (ints ((escV b).take 4))).toList == [83, 80, 74, 76]) = false := beq_eq_false_iff_ne.2 (fun k => by
    have h1 := strOfNums_inj (fun y hy => hXS y (List.mem_of_mem_take hy)) magic_bs (k.trans hM2.symm)
    have h2 : begOf (escV b) magicB = true := decide_eq_true h1
    rw [z4] at h2
    cases h2)
  rw [ee] at EO ER
  clear h hcap hbs ee UL z1 z2 z3 z4 hXS hM2
  replace hl := Lib.hid hl
  replace hXL := Lib.hid hXL
  generalize strOfNums (ints ((escV b).take 4)) = ST at *
  generalize escV b = XV at *
  generalize uneV b es = YV at *
  generalize escB b = p at *
  generalize uneE b es = ue at *
  go_enter Try.func5, Try.ntmps5
  go_wp2_with fail
  refine LE.out.mono ?_
  rintro e w1 ⟨g, rfl, G, C, hg⟩
  have hgl : g < w1.heap.size := G.lt
  have D1 : Hid (Chg [] w w1) := C
  have G1 := Lib.hid G
  clear G C LE
  go_wp2_with fail
  refine (EO.out g w1 G1.out).mono ?_
  rintro e w2 ⟨x, rfl, OX, C⟩
  have D2 := Lib.hid (D1.out.trans C.out)
  have G2 := Lib.hid (G1.out.chg C.out (by simp))
  have AX : Hid (∀ k, x.ownBlock = some k → w1.heap.size ≤ k ∧ k < w2.heap.size) := fun k hk => OX.out.lt k hk
  have h12 : w1.heap.size ≤ w2.heap.size := C.out.size
  clear C G1 EO
  go_wp2_with fail
  refine (UO.out g w2 G2.out).mono ?_
  rintro e w3 ⟨y, rfl, OY, C⟩
  have D3 := Lib.hid (D2.out.trans C.out)
  have G3 := Lib.hid (G2.out.chg C.out (by simp))
  have OX3 := Lib.hid (owns_chg OX.out C.out (by simp))
  have AY : Hid (∀ k, y.ownBlock = some k → w2.heap.size ≤ k ∧ k < w3.heap.size) := fun k hk => OY.out.lt k hk
  have h23 : w2.heap.size ≤ w3.heap.size := C.out.size
  clear C G2 UO OX D2
  go_wp2_with fail
  refine (WH.out g w3 G3.out D3.out).mono ?_
  rintro e w4 ⟨rfl, C⟩
  have D4 := Lib.hid (D3.out.trans C.out)
  have G4 := Lib.hid (G3.out.chg C.out (by simp))
  have OX4 := Lib.hid (owns_chg OX3.out C.out (by simp))
  have OY4 := Lib.hid (owns_chg OY.out C.out (by simp))
  have h34 : w3.heap.size ≤ w4.heap.size := C.out.size
  clear C G3 WH OX3 OY D3
  go_wp2_with fail
  refine (SP.out g w4 G4.out).mono ?_
  rintro e w5 ⟨rfl, C⟩
  have D5 : Hid (Chg [] w w5) := D4.out.fresh C (fun j hj => .inr (by rw [List.mem_singleton.1 hj]; exact hg))
  have OX5 := Lib.hid (owns_chg OX4.out C (fun k hk hm => by have h1 := (AX.out k hk).1; rw [List.mem_singleton.1 hm] at h1; omega))
  have OY5 := Lib.hid (owns_chg OY4.out C (fun k hk hm => by have h1 := (AY.out k hk).1; rw [List.mem_singleton.1 hm] at h1; omega))
  have h45 : w4.heap.size ≤ w5.heap.size := C.size
  clear C G4 SP OX4 OY4 D4
  go_wp2_with fail
  refine (ER.out w5 D5.out).mono ?_
  rintro e w6 ⟨wx, rfl, OWX, C⟩
  have E6 : Hid (Chg [] w5 w6) := C
  have D6 := Lib.hid (D5.out.trans C.out)
  clear C ER
  go_wp2_with fail
  refine (UR.out w6 D6.out).mono ?_
  rintro e w7 ⟨wy, rfl, OWY, C⟩
  have E7 := Lib.hid (E6.out.trans C.out)
  have D7 := Lib.hid (D6.out.trans C.out)
  have OWX7 := Lib.hid (owns_chg OWX.out C.out (by simp))
  have h57 : w5.heap.size ≤ w7.heap.size := E7.out.size
  clear C UR OWX D6 E6
  go_upto_region 11 with fail
  refine wp_named2 (fun w8 hw8 => ?_)
  have E8 : Hid (Chg [] w7 w8) := by show Chg _ _ _; rw [hw8]; exact (Chg.refl _ _).alloc _
  have BK : Hid (BkLine w8 w1.heap.size w7.heap.size (.slice none 0 0) [] w1.heap.size) := by
    show BkLine _ _ _ _ _ _
    rw [hw8]
    exact BkLine.begin w1.heap.size w1.heap.size (by omega) (by omega)
  obtain ⟨bb, hbb⟩ : ∃ b, b = w7.heap.size := ⟨_, rfl⟩
  have h7b : w7.heap.size ≤ bb := Nat.le_of_eq hbb.symm
  rw [← hbb] at BK ⊢
  clear hw8 hbb
  have O1 := Lib.hid (own_rowB (B := w1.heap.size) (owns_chg OX5.out (E7.out.trans E8.out) (by simp)) (Nat.le_refl _))
  go_wp2_with fail
  refine (BK.out.add x (rowB XV) O1.out (rowB_len _ LX) AX.out h12 (by omega) (by decide)).mono ?_
  rintro e w9 ⟨lv1, rfl, BK1, K⟩
  have E9 := Lib.hid (K.out w7 E8.out h7b)
  have O2 := Lib.hid (own_rowB (B := w1.heap.size) (owns_chg OY5.out (E7.out.trans E9.out) (by simp)) h12)
  clear BK O1 K E8
  go_wp2_with fail
  refine (BK1.out.add y (rowB YV) O2.out (rowB_len _ LY) AY.out h23 (by omega) (by simp)).mono ?_
  rintro e w10 ⟨lv2, rfl, BK2, K⟩
  have E10 := Lib.hid (K.out w7 E9.out h7b)
  clear BK1 O2 K E9
  have X7 : Hid (∀ W, Chg [] w7 W → W.ownsRow w1.heap.size 5 1 x XV.length ((ints XV).map (Value.int .u8))) := fun W c => owns_chg OX5.out (E7.out.trans c) (by simp)
  have SX : Hid (∀ W, Chg [] w7 W → Sl W x (ints XV)) := fun W c => Sl.owned (X7.out W c)
  have SY : Hid (∀ W, Chg [] w7 W → Sl W y (ints YV)) := fun W c => Sl.owned (owns_chg OY5.out (E7.out.trans c) (by simp))
  have SWX : Hid (∀ W, Chg [] w7 W → Sl W wx (ints XV)) := fun W c => Sl.owned (owns_chg OWX7.out c (by simp))
  have SWY : Hid (∀ W, Chg [] w7 W → Sl W wy (ints YV)) := fun W c => Sl.owned (owns_chg OWY.out c (by simp))
  have D10 := Lib.hid (D7.out.trans E10.out)
  have h1z : w1.heap.size ≤ w10.heap.size := by have := E10.out.size; omega
  clear OX5 OY5 OWX7 OWY AX AY E7 D5
  go_wp2_with fail
  refine (SXX.out w10 x wx (SX.out _ E10.out) (SWX.out _ E10.out) LX).mono ?_
  rintro e w11 ⟨rfl, C⟩
  have P11 : Hid (Chg [] w10 w11) := C
  have F11 := Lib.hid (E10.out.trans C.out)
  clear C
  go_wp2_with fail
  refine (SYY.out w11 y wy (SY.out _ F11.out) (SWY.out _ F11.out)).mono ?_
  rintro e w12 ⟨rfl, C⟩
  have P12 := Lib.hid (P11.out.trans C.out)
  have F12 := Lib.hid (F11.out.trans C.out)
  clear C F11 P11 SXX SYY SWX SWY SY
  go_wp2_with fail
  refine (KN.out w12).mono ?_
  rintro e w13 ⟨rfl, C⟩
  have P13 := Lib.hid (P12.out.trans C.out)
  have F13 := Lib.hid (F12.out.trans C.out)
  clear C F12 P12 KN E10
  have XS : ∃ gx xc, x = .slice (some ⟨gx, 0, none⟩) 128 xc ∧ 128 ≤ xc := by
    have o := X7.out _ F13.out
    rw [hXL.out] at o
    rcases o.2 with ⟨_, h0⟩ | ⟨gx, xc, cur, rfl, _, _, h1, _⟩
    · cases h0
    · exact ⟨gx, xc, rfl, h1⟩
  obtain ⟨gx, xc, rfl, hxc⟩ := XS
  have hxc4 : (4 : Int) ≤ xc := by omega
  go_wp2_with fail
  refine (UZ.out _ w13 (SX.out _ F13.out) (own_caps (X7.out _ F13.out))).mono ?_
  rintro e w14 ⟨z, rfl, OZ, C⟩
  have F14 := Lib.hid (F13.out.trans C.out)
  have G14 : Hid (Chg [] w13 w14) := C
  have AZ : Hid (∀ k, z.ownBlock = some k → w13.heap.size ≤ k) := fun k hk => (OZ.out.lt k hk).1
  have h13 : w1.heap.size ≤ w13.heap.size := by have := P13.out.size; omega
  have O3 := Lib.hid (own_rowB (B := w1.heap.size) OZ.out h13)
  clear C UZ
  go_wp2_with fail
  refine ((BK2.out.chg P13.out).addNew G14.out z (rowB b) O3.out AZ.out (by simp)).mono ?_
  rintro e w15 ⟨lv3, rfl, BK3, K⟩
  have F15 := Lib.hid (K.out w7 F14.out h7b)
  have Z15 : Hid (Sl w15 z (ints b)) := Sl.owned (n := b.length) (by
    have h1 := BK3.out.row 2 z (rowB b) (by simp)
    have e : (rowB b).length = b.length := by unfold rowB; rw [List.length_map, ints_length]
    rw [e] at h1
    exact h1)
  clear K O3 OZ AZ F14 G14
  go_wp2_with fail
  refine (SZ.out w15 z Z15.out (D7.out.trans F15.out)).mono ?_
  rintro e w16 ⟨rfl, C⟩
  have F16 := Lib.hid (F15.out.trans C.out)
  have P16 : Hid (Chg [] w15 w16) := C
  clear C Z15 F15 SZ
  have KK := Lib.hid (KX.out _ w16 (SX.out _ F16.out) (own_caps (X7.out _ F16.out)))
  have q := CX.out w16 gx xc (SX.out _ F16.out)
  clear KX CX
  go_wp2_with fail
  refine KK.out.mono ?_
  rintro e w17 ⟨rfl, rfl⟩
  go_wp2_with fail
  have FN : Hid (Bk w16 w1.heap.size bb lv3 ((([] ++ [(_, rowB XV)]) ++ [(y, rowB YV)]) ++ [(z, rowB b)])) := BK3.out.chg P16.out (by simp)
  refine (bk_own FN.out (by have := F16.out.size; omega) (by simp) (fun j v xs hj => ?_)).mono ?_
  · rcases j with _ | _ | _ | j
    · obtain ⟨rfl, rfl⟩ := (by simpa using hj : _ = v ∧ rowB XV = xs); exact rowB_len _ LX
    · obtain ⟨rfl, rfl⟩ := (by simpa using hj : y = v ∧ rowB YV = xs); exact rowB_len _ LY
    · obtain ⟨rfl, rfl⟩ := (by simpa using hj : z = v ∧ rowB b = xs); exact rowB_len _ (by omega)
    · simp at hj
  rintro e w18 ⟨rfl, K⟩
  have F18 := Lib.hid (K.out w (D7.out.trans F16.out) D1.out.size)
  go_wp2_with fail
  go_ret
  exact ⟨rfl, F18⟩

theorem recordEscapes_walk (v : Value) (xs : List Int) (es : Bool) (w : World) (h : Sl w v xs) (hcap : ∀ ao n c, v = .slice ao n c → n ≤ c) (hx : By xs) :
    Calls Try.prog 5 #[v, .bool es] w fun e w' => e = .returned (.bool true) ∧ Chg [] w w' :=
  (recordEscapes_core v (nats xs) es w (by rw [ints_nats hx]; exact h) (nats_bs hx) hcap).mono fun _ _ h => ⟨h.1, h.2.out⟩

end Go.Proofs.Ytnjemjkjbeingaa
