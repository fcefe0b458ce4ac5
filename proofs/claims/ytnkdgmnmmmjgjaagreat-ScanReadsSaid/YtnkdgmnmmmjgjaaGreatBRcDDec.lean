/-
  The document's three Decodes. By an AI agent. Printed by gen_rcdd.py.
-/
import Derived.Test.YtnkdgmnmmmjgjaaGreatBRcPDecs
import Derived.Test.YtnkdgmnmmmjgjaaGreatBRcGet
import Derived.Deep.RegionHeld3
import Derived.Test.YtnkdgmnmmmjgjaaGreatBRcEnc
namespace Go.Proofs.YtnkdgmnmmmjgjaaGreat
open Go.RowKit Crc

set_option maxHeartbeats 8000000 in
set_option maxRecDepth 100000 in
theorem rdecCm_any (v : Value) (b : List Nat) (w : World) (h : Sl w v (ints b)) (hbs : Bs b) (hbig : b.length ≤ 1000000) (hcap : ∀ ao n c, v = .slice ao n c → n ≤ c) : Calls Tryz.prog 83 #[v] w fun e w' => e = .returned (.tuple #[(Cm.dval b).val, .int .i64 (Cm.derr b)]) ∧ Hid (Chg [] w w') := by
  have LO := Lib.hid (fun W (C : Chg [] w W) => rlooks_any v b 2 W (by decide) (h.chg C (by simp)) hbs hcap)
  have LI := lookOf_in 2 b
  have H2 : Hid (Cm.derr b ≠ 0 → (Cm.dval b).val = .agg #[.int .u64 0, .int .u64 0, .int .i64 0, .int .u32 0]) := fun h0 => by unfold Cm.dval; rw [if_neg h0]; rfl
  have B1 : Hid (Blk (w.alloc (.cells #[.int .u64 0, .int .u64 0, .int .i64 0, .int .u32 0] 85)) w.heap.size 85 [.int .u64 0, .int .u64 0, .int .i64 0, .int .u32 0]) := Blk.made w _ _
  have C1 : Hid (Chg [] w (w.alloc (.cells #[.int .u64 0, .int .u64 0, .int .i64 0, .int .u32 0] 85))) := (Chg.refl [] w).alloc _
  have s1 : (w.alloc (.cells #[.int .u64 0, .int .u64 0, .int .i64 0, .int .u32 0] 85)).heap.size = w.heap.size + 1 := by simp
  by_cases hlk : lookOf 2 b = 0
  case neg =>
    have de : Cm.derr b = lookOf 2 b := by unfold Cm.derr; rw [if_pos (show lookOf 2 b ≠ 0 from hlk)]
    have H3 := H2.out (by rw [de]; exact hlk)
    rw [H3, de]
    have hne : (lookOf 2 b != 0) = true := by simpa using hlk
    generalize lookOf 2 b = er at *
    clear h hcap hbs hbig H2 H3 de hlk LI
    go_enter Tryz.func83, Tryz.ntmps83
    go_wp2_with fail
    refine (LO.out _ C1.out).mono ?_
    rintro e w2 ⟨rfl, C⟩
    have C2 := Lib.hid (C1.out.trans C.out)
    have B2 := Lib.hid (B1.out.chg C.out (by simp))
    clear C C1 B1 LO s1
    have f0 := B2.out.free 0
    have c0 := B2.out.cell (j := 0) rfl
    have f1 := B2.out.free 1
    have c1 := B2.out.cell (j := 1) rfl
    have f2 := B2.out.free 2
    have c2 := B2.out.cell (j := 2) rfl
    have f3 := B2.out.free 3
    have c3 := B2.out.cell (j := 3) rfl
    go_wp2_with fail
    refine bodyPost_ret (rc_cell_and_tmp rfl _ _ w.heap.size _ _ _ _ rfl (((((B2.out).set 0 (.int .u64 0)).set 1 (.int .u64 0)).set 2 (.int .i64 0)).set 3 (.int .u32 0)) Tryz.underlying85 size_Cm) rfl ?_
    exact ⟨rfl, ((((C2.out).setCell (p := ⟨w.heap.size, 0, none⟩) (.inr (Nat.le_refl _)) (.int .u64 0)).setCell (p := ⟨w.heap.size, 1, none⟩) (.inr (Nat.le_refl _)) (.int .u64 0)).setCell (p := ⟨w.heap.size, 2, none⟩) (.inr (Nat.le_refl _)) (.int .i64 0)).setCell (p := ⟨w.heap.size, 3, none⟩) (.inr (Nat.le_refl _)) (.int .u32 0)⟩
  obtain ⟨hl, hkd, hsum⟩ := lookOf_zero hlk
  have hl' := hl
  have DE : Cm.derr b = if (Cm.of b).Ok ∧ (Cm.of b).rec'.sector = b then 0 else 80 := by unfold Cm.derr; rw [if_neg (show ¬ lookOf 2 b ≠ 0 from fun k => k hlk)]
  rw [hlk] at LO
  clear hlk hkd hsum LI
  have G8 : Hid (∀ W, Chg [] w W → Calls Tryz.prog 101 #[v, .int .i64 8, .int .i64 8] W fun e w' => e = .returned (.int .u64 (rd b 8 8 : Nat)) ∧ Hid (Chg [] W w')) := fun W C => by
    have k := rget_any v (ints b) 8 8 W (h.chg C (by simp)) (ints_by hbs) (by decide) (by rw [ints_length]; omega) (by rw [ints_length]; omega)
    rw [nats_ints] at k
    exact k
  have l8 : rd b 8 8 < 18446744073709551616 := rd_lt hbs 8 8
  have G16 : Hid (∀ W, Chg [] w W → Calls Tryz.prog 101 #[v, .int .i64 16, .int .i64 8] W fun e w' => e = .returned (.int .u64 (rd b 16 8 : Nat)) ∧ Hid (Chg [] W w')) := fun W C => by
    have k := rget_any v (ints b) 16 8 W (h.chg C (by simp)) (ints_by hbs) (by decide) (by rw [ints_length]; omega) (by rw [ints_length]; omega)
    rw [nats_ints] at k
    exact k
  have l16 : rd b 16 8 < 18446744073709551616 := rd_lt hbs 16 8
  have G24 : Hid (∀ W, Chg [] w W → Calls Tryz.prog 101 #[v, .int .i64 24, .int .i64 4] W fun e w' => e = .returned (.int .u64 (rd b 24 4 : Nat)) ∧ Hid (Chg [] W w')) := fun W C => by
    have k := rget_any v (ints b) 24 4 W (h.chg C (by simp)) (ints_by hbs) (by decide) (by rw [ints_length]; omega) (by rw [ints_length]; omega)
    rw [nats_ints] at k
    exact k
  have l24 : rd b 24 4 < 4294967296 := rd_lt hbs 24 4
  have G28 : Hid (∀ W, Chg [] w W → Calls Tryz.prog 101 #[v, .int .i64 28, .int .i64 4] W fun e w' => e = .returned (.int .u64 (rd b 28 4 : Nat)) ∧ Hid (Chg [] W w')) := fun W C => by
    have k := rget_any v (ints b) 28 4 W (h.chg C (by simp)) (ints_by hbs) (by decide) (by rw [ints_length]; omega) (by rw [ints_length]; omega)
    rw [nats_ints] at k
    exact k
  have l28 : rd b 28 4 < 4294967296 := rd_lt hbs 28 4
  have SC : Hid (∀ W, Chg [] w W → ∀ g o c, v = .slice (some ⟨g, o, none⟩) 128 c → (convert 55 9 (.slice (some ⟨g, o, none⟩) 128 c)).run Tryz.prog W = .ok (.string (strOfNums (ints b))) W) := fun W C g o c hv => by
    have h1 := h.chg C (by simp)
    rw [hv] at h1
    have h2 := str_conv W g o c b (by rw [hl]; exact h1) (by omega)
    rw [hl] at h2
    exact h2
  have SB : Bs (Cm.of b).rec'.sector := Rec.sector_bs _
  have SLn : (Cm.of b).rec'.sector.length = 128 := Rec.sector_length (show 2 ≤ 25 by decide)
  obtain ⟨x, hx⟩ : ∃ x, x = Cm.of b := ⟨_, rfl⟩
  have H1 : Hid (Cm.derr b = 0 → (Cm.dval b).val = x.val) := fun h0 => by unfold Cm.dval; rw [if_pos h0, hx]
  rw [← hx] at DE SB SLn
  obtain ⟨ep, hep⟩ : ∃ ep, ep = rd b 8 8 := ⟨_, rfl⟩
  rw [← hep] at G8 l8
  obtain ⟨sq, hsq⟩ : ∃ sq, sq = rd b 16 8 := ⟨_, rfl⟩
  rw [← hsq] at G16 l16
  obtain ⟨ct, hct⟩ : ∃ ct, ct = rd b 24 4 := ⟨_, rfl⟩
  rw [← hct] at G24 l24
  obtain ⟨sm, hsm⟩ : ∃ sm, sm = rd b 28 4 := ⟨_, rfl⟩
  rw [← hsm] at G28 l28
  have hxx : x = (⟨ep, sq, ct, sm⟩ : Cm) := by rw [hx, hep, hsq, hct, hsm]; rfl
  have EN := Lib.hid (fun W => rEncodeCommit_any x W (by rw [hxx]; exact l28))
  have XV : x.val = .agg #[.int .u64 (ep : Int), .int .u64 (sq : Int), .int .i64 (ct : Int), .int .u32 (sm : Int)] := by rw [hxx]; rfl
  rw [XV] at EN H1
  clear hxx XV hx hep hsq hct hsm
  have INJ : Hid (((strOfNums (ints x.rec'.sector)).toList = (strOfNums (ints b)).toList) ↔ x.rec'.sector = b) := ⟨fun k => strOfNums_inj SB hbs k, fun k => by rw [k]⟩
  obtain ⟨g, o, c, rfl⟩ : ∃ g o c, v = .slice (some ⟨g, o, none⟩) 128 c := by
    rcases h with ⟨h0, _⟩ | ⟨g, o, c, rfl, lb, hc⟩
    · have := congrArg List.length h0; rw [ints_length, hl] at this; cases this
    · exact ⟨g, o, c, by rw [ints_length, hl]⟩
  have hcp : (128 : Int) ≤ c := by have := hcap _ _ _ rfl; omega
  clear h hcap hbs SB
  generalize Cm.derr b = er at *
  generalize (Cm.dval b).val = rv at *
  unfold RcEncs Cm.err Cm.enc at EN
  by_cases hok : x.Ok
  case neg =>
    rw [if_neg hok, if_neg hok] at EN
    rw [if_neg (fun k => hok k.1)] at DE
    subst DE
    obtain rfl := H2.out (by decide)
    clear hok H1 H2 INJ SLn SC
    go_enter Tryz.func83, Tryz.ntmps83
    go_wp2_with fail
    refine (LO.out _ C1.out).mono ?_
    rintro e w2 ⟨rfl, C⟩
    have C2 := Lib.hid (C1.out.trans C.out)
    have B2 := Lib.hid (B1.out.chg C.out (by simp))
    have hz := C.out.size
    rw [s1] at hz
    clear C C1 B1 LO s1
    have D : Hid (Chg [] w w2) := C2.out
    have E : Hid (Chg [] w2 w2) := Chg.refl _ _
    go_wp2_with fail
    refine (G8.out _ D.out).mono ?_
    rintro e wk ⟨rfl, C⟩
    replace D := Lib.hid (D.out.trans C.out)
    replace E := Lib.hid (E.out.trans C.out)
    clear C G8
    go_wp2_with fail
    refine (G16.out _ D.out).mono ?_
    rintro e wk ⟨rfl, C⟩
    replace D := Lib.hid (D.out.trans C.out)
    replace E := Lib.hid (E.out.trans C.out)
    clear C G16
    go_wp2_with fail
    refine (G24.out _ D.out).mono ?_
    rintro e wk ⟨rfl, C⟩
    replace D := Lib.hid (D.out.trans C.out)
    replace E := Lib.hid (E.out.trans C.out)
    clear C G24
    go_wp2_with fail
    refine (G28.out _ D.out).mono ?_
    rintro e wk ⟨rfl, C⟩
    replace D := Lib.hid (D.out.trans C.out)
    replace E := Lib.hid (E.out.trans C.out)
    clear C G28
    go_wp2_with fail
    have hzk : w.heap.size < wk.heap.size := by have := E.out.size; omega
    refine (EN.out _).mono ?_
    rintro e w9 ⟨u, rfl, O, C⟩
    have C9 : Hid (Chg [] w w9) := (D.out.alloc _).trans C.out
    have B9 : Hid (Blk w9 w.heap.size 85 [.int .u64 0, .int .u64 0, .int .i64 0, .int .u32 0]) := ((B2.out.chg E.out (by simp)).alloc _).chg C.out (by simp)
    have f0 := B9.out.free 0
    have c0 := B9.out.cell (j := 0) rfl
    have f1 := B9.out.free 1
    have c1 := B9.out.cell (j := 1) rfl
    have f2 := B9.out.free 2
    have c2 := B9.out.cell (j := 2) rfl
    have f3 := B9.out.free 3
    have c3 := B9.out.cell (j := 3) rfl
    clear C O EN D E B2 C2
    go_wp2_with fail
    refine bodyPost_ret (rc_cell_and_tmp rfl _ _ w.heap.size _ _ _ _ rfl (((((B9.out).set 0 (.int .u64 0)).set 1 (.int .u64 0)).set 2 (.int .i64 0)).set 3 (.int .u32 0)) Tryz.underlying85 size_Cm) rfl ?_
    exact ⟨rfl, ((((C9.out).setCell (p := ⟨w.heap.size, 0, none⟩) (.inr (Nat.le_refl _)) (.int .u64 0)).setCell (p := ⟨w.heap.size, 1, none⟩) (.inr (Nat.le_refl _)) (.int .u64 0)).setCell (p := ⟨w.heap.size, 2, none⟩) (.inr (Nat.le_refl _)) (.int .i64 0)).setCell (p := ⟨w.heap.size, 3, none⟩) (.inr (Nat.le_refl _)) (.int .u32 0)⟩
  rw [if_pos hok, if_pos hok, SLn] at EN
  by_cases hs : x.rec'.sector = b
  case neg =>
    rw [if_neg (fun k => hs k.2)] at DE
    subst DE
    obtain rfl := H2.out (by decide)
    have hne : ((strOfNums (ints x.rec'.sector)).toList == (strOfNums (ints b)).toList) = false := beq_eq_false_iff_ne.2 (fun k => hs (INJ.out.1 k))
    clear H1 H2 INJ hs hok
    generalize hSE : x.rec'.sector = SE at *
    clear hSE
    generalize hST : strOfNums (ints b) = ST at *
    clear hST
    have hSS : ∃ SS, SS = strOfNums (ints SE) := ⟨_, rfl⟩
    obtain ⟨SS, hSS⟩ := hSS
    rw [← hSS] at hne
    replace hSS := Lib.hid hSS
    replace hl' := Lib.hid hl'
    replace SLn := Lib.hid SLn
    go_enter Tryz.func83, Tryz.ntmps83
    go_wp2_with fail
    refine (LO.out _ C1.out).mono ?_
    rintro e w2 ⟨rfl, C⟩
    have C2 := Lib.hid (C1.out.trans C.out)
    have B2 := Lib.hid (B1.out.chg C.out (by simp))
    have hz := C.out.size
    rw [s1] at hz
    clear C C1 B1 LO s1
    have D : Hid (Chg [] w w2) := C2.out
    have E : Hid (Chg [] w2 w2) := Chg.refl _ _
    go_wp2_with fail
    refine (G8.out _ D.out).mono ?_
    rintro e wk ⟨rfl, C⟩
    replace D := Lib.hid (D.out.trans C.out)
    replace E := Lib.hid (E.out.trans C.out)
    clear C G8
    go_wp2_with fail
    refine (G16.out _ D.out).mono ?_
    rintro e wk ⟨rfl, C⟩
    replace D := Lib.hid (D.out.trans C.out)
    replace E := Lib.hid (E.out.trans C.out)
    clear C G16
    go_wp2_with fail
    refine (G24.out _ D.out).mono ?_
    rintro e wk ⟨rfl, C⟩
    replace D := Lib.hid (D.out.trans C.out)
    replace E := Lib.hid (E.out.trans C.out)
    clear C G24
    go_wp2_with fail
    refine (G28.out _ D.out).mono ?_
    rintro e wk ⟨rfl, C⟩
    replace D := Lib.hid (D.out.trans C.out)
    replace E := Lib.hid (E.out.trans C.out)
    clear C G28
    go_wp2_with fail
    have hzk : w.heap.size < wk.heap.size := by have := E.out.size; omega
    refine (EN.out _).mono ?_
    rintro e w9 ⟨u, rfl, O, C⟩
    have C9 : Hid (Chg [] w w9) := (D.out.alloc _).trans C.out
    have B9 : Hid (Blk w9 w.heap.size 85 [.int .u64 0, .int .u64 0, .int .i64 0, .int .u32 0]) := ((B2.out.chg E.out (by simp)).alloc _).chg C.out (by simp)
    obtain ⟨uo, uc, rfl⟩ := owns_slice O.out
    have q2 := SC.out w9 C9.out _ _ _ rfl
    have q1 : ∃ g2 o2, uo = some ⟨g2, o2, none⟩ ∧ (convert 55 9 (.slice (some ⟨g2, o2, none⟩) 128 uc)).run Tryz.prog w9 = .ok (.string SS) w9 := by
      have h1 : Sl w9 (.slice uo 128 uc) (ints SE) := Sl.owned O.out
      rcases h1 with ⟨h0, _⟩ | ⟨g2, o2, c2, hv, lb, hc⟩
      · have := congrArg List.length h0; rw [ints_length, SLn.out] at this; cases this
      · obtain ⟨rfl, _, rfl⟩ : uo = some ⟨g2, o2, none⟩ ∧ _ ∧ uc = c2 := by simpa using hv
        refine ⟨g2, o2, rfl, ?_⟩
        have h2 := str_conv w9 g2 o2 uc SE (by rw [SLn.out]; exact .inr ⟨g2, o2, uc, by rw [ints_length, SLn.out], lb, hc⟩) (by rw [SLn.out]; decide)
        rw [SLn.out, ← hSS.out] at h2
        exact h2
    obtain ⟨g2, o2, rfl, q1⟩ := q1
    clear SC
    have f0 := B9.out.free 0
    have c0 := B9.out.cell (j := 0) rfl
    have f1 := B9.out.free 1
    have c1 := B9.out.cell (j := 1) rfl
    have f2 := B9.out.free 2
    have c2 := B9.out.cell (j := 2) rfl
    have f3 := B9.out.free 3
    have c3 := B9.out.cell (j := 3) rfl
    clear C O EN D E B2 C2
    go_wp2_with fail
    refine bodyPost_ret (rc_cell_and_tmp rfl _ _ w.heap.size _ _ _ _ rfl (((((B9.out).set 0 (.int .u64 0)).set 1 (.int .u64 0)).set 2 (.int .i64 0)).set 3 (.int .u32 0)) Tryz.underlying85 size_Cm) rfl ?_
    exact ⟨rfl, ((((C9.out).setCell (p := ⟨w.heap.size, 0, none⟩) (.inr (Nat.le_refl _)) (.int .u64 0)).setCell (p := ⟨w.heap.size, 1, none⟩) (.inr (Nat.le_refl _)) (.int .u64 0)).setCell (p := ⟨w.heap.size, 2, none⟩) (.inr (Nat.le_refl _)) (.int .i64 0)).setCell (p := ⟨w.heap.size, 3, none⟩) (.inr (Nat.le_refl _)) (.int .u32 0)⟩
  rw [if_pos ⟨hok, hs⟩] at DE
  subst DE
  obtain rfl := H1.out rfl
  have heq : ((strOfNums (ints x.rec'.sector)).toList == (strOfNums (ints b)).toList) = true := beq_iff_eq.2 (INJ.out.2 hs)
  clear H1 H2 INJ hs hok
  generalize hSE : x.rec'.sector = SE at *
  clear hSE
  generalize hST : strOfNums (ints b) = ST at *
  clear hST
  have hSS : ∃ SS, SS = strOfNums (ints SE) := ⟨_, rfl⟩
  obtain ⟨SS, hSS⟩ := hSS
  rw [← hSS] at heq
  replace hSS := Lib.hid hSS
  replace hl' := Lib.hid hl'
  replace SLn := Lib.hid SLn
  go_enter Tryz.func83, Tryz.ntmps83
  go_wp2_with fail
  refine (LO.out _ C1.out).mono ?_
  rintro e w2 ⟨rfl, C⟩
  have C2 := Lib.hid (C1.out.trans C.out)
  have B2 := Lib.hid (B1.out.chg C.out (by simp))
  have hz := C.out.size
  rw [s1] at hz
  clear C C1 B1 LO s1
  have D : Hid (Chg [] w w2) := C2.out
  have E : Hid (Chg [] w2 w2) := Chg.refl _ _
  go_wp2_with fail
  refine (G8.out _ D.out).mono ?_
  rintro e wk ⟨rfl, C⟩
  replace D := Lib.hid (D.out.trans C.out)
  replace E := Lib.hid (E.out.trans C.out)
  clear C G8
  go_wp2_with fail
  refine (G16.out _ D.out).mono ?_
  rintro e wk ⟨rfl, C⟩
  replace D := Lib.hid (D.out.trans C.out)
  replace E := Lib.hid (E.out.trans C.out)
  clear C G16
  go_wp2_with fail
  refine (G24.out _ D.out).mono ?_
  rintro e wk ⟨rfl, C⟩
  replace D := Lib.hid (D.out.trans C.out)
  replace E := Lib.hid (E.out.trans C.out)
  clear C G24
  go_wp2_with fail
  refine (G28.out _ D.out).mono ?_
  rintro e wk ⟨rfl, C⟩
  replace D := Lib.hid (D.out.trans C.out)
  replace E := Lib.hid (E.out.trans C.out)
  clear C G28
  go_wp2_with fail
  have hzk : w.heap.size < wk.heap.size := by have := E.out.size; omega
  refine (EN.out _).mono ?_
  rintro e w9 ⟨u, rfl, O, C⟩
  have C9 : Hid (Chg [] w w9) := (D.out.alloc _).trans C.out
  have B9 : Hid (Blk w9 w.heap.size 85 [.int .u64 0, .int .u64 0, .int .i64 0, .int .u32 0]) := ((B2.out.chg E.out (by simp)).alloc _).chg C.out (by simp)
  have X9 : Hid (Blk w9 wk.heap.size 85 [.int .u64 (ep : Int), .int .u64 (sq : Int), .int .i64 (ct : Int), .int .u32 (sm : Int)]) := (Blk.made wk [.int .u64 (ep : Int), .int .u64 (sq : Int), .int .i64 (ct : Int), .int .u32 (sm : Int)] _).chg C.out (by simp)
  obtain ⟨uo, uc, rfl⟩ := owns_slice O.out
  have q2 := SC.out w9 C9.out _ _ _ rfl
  have q1 : ∃ g2 o2, uo = some ⟨g2, o2, none⟩ ∧ (convert 55 9 (.slice (some ⟨g2, o2, none⟩) 128 uc)).run Tryz.prog w9 = .ok (.string SS) w9 := by
    have h1 : Sl w9 (.slice uo 128 uc) (ints SE) := Sl.owned O.out
    rcases h1 with ⟨h0, _⟩ | ⟨g2, o2, c2, hv, lb, hc⟩
    · have := congrArg List.length h0; rw [ints_length, SLn.out] at this; cases this
    · obtain ⟨rfl, _, rfl⟩ : uo = some ⟨g2, o2, none⟩ ∧ _ ∧ uc = c2 := by simpa using hv
      refine ⟨g2, o2, rfl, ?_⟩
      have h2 := str_conv w9 g2 o2 uc SE (by rw [SLn.out]; exact .inr ⟨g2, o2, uc, by rw [ints_length, SLn.out], lb, hc⟩) (by rw [SLn.out]; decide)
      rw [SLn.out, ← hSS.out] at h2
      exact h2
  obtain ⟨g2, o2, rfl, q1⟩ := q1
  clear SC
  have f0 := B9.out.free 0
  have c0 := B9.out.cell (j := 0) rfl
  have f1 := B9.out.free 1
  have c1 := B9.out.cell (j := 1) rfl
  have f2 := B9.out.free 2
  have c2 := B9.out.cell (j := 2) rfl
  have f3 := B9.out.free 3
  have c3 := B9.out.cell (j := 3) rfl
  have k0 := X9.out.cell (j := 0) rfl
  have k1 := X9.out.cell (j := 1) rfl
  have k2 := X9.out.cell (j := 2) rfl
  have k3 := X9.out.cell (j := 3) rfl
  clear C O EN D E B2 C2
  go_wp2_with fail
  refine bodyPost_ret (rc_cell_and_tmp rfl _ _ w.heap.size _ _ _ _ rfl (((((B9.out).set 0 (.int .u64 (ep : Int))).set 1 (.int .u64 (sq : Int))).set 2 (.int .i64 (ct : Int))).set 3 (.int .u32 (sm : Int))) Tryz.underlying85 size_Cm) rfl ?_
  exact ⟨rfl, ((((C9.out).setCell (p := ⟨w.heap.size, 0, none⟩) (.inr (Nat.le_refl _)) (.int .u64 (ep : Int))).setCell (p := ⟨w.heap.size, 1, none⟩) (.inr (Nat.le_refl _)) (.int .u64 (sq : Int))).setCell (p := ⟨w.heap.size, 2, none⟩) (.inr (Nat.le_refl _)) (.int .i64 (ct : Int))).setCell (p := ⟨w.heap.size, 3, none⟩) (.inr (Nat.le_refl _)) (.int .u32 (sm : Int))⟩

end Go.Proofs.YtnkdgmnmmmjgjaaGreat