/-
  'known' of records. By an AI agent. Printed by gen_rcknown.py.
-/
import Derived.Test.YtnjemjkjbeingaaRcDer
import Derived.Test.YtnjemjkjbeingaaRcPDecs
import Derived.Test.YtnjemjkjbeingaaRcEsc
import Derived.Test.YtnjemjkjbeingaaRcKind
import Derived.Test.YtnjemjkjbeingaaRcEql
namespace Go.Proofs.Ytnjemjkjbeingaa
open Go.RowKit Crc

def sampleH : Hd := ⟨1, 2, 0, 2, 3, 5, false, 9⟩
theorem sampleH_ok : sampleH.Ok := by decide
theorem sampleH_val : sampleH.val = .agg #[.int .u64 1, .int .u64 2, .int .i64 0, .int .i64 2, .int .i64 3, .int .i64 5, .bool false, .int .u32 9] := rfl
theorem sample_str : strOfNums (ints (magicB ++ [1, 0, 0, 0])) = ⟨#[83, 80, 74, 76, 1, 0, 0, 0]⟩ := by kernel_rfl
theorem zeros_get (n j : Nat) (h : j < n) : (ints (List.replicate n 0)).getD j 0 = 0 := by
  simp [ints, List.getD, h]

set_option maxRecDepth 100000 in
theorem zeros_esc : escB (List.replicate 128 0) = false ∧ escE (List.replicate 128 0) = 0 ∧ (escV (List.replicate 128 0)).length = 128 := by decide

set_option maxHeartbeats 8000000 in
set_option maxRecDepth 100000 in
theorem known_any (w : World) : Calls Try.prog 17 #[] w fun e w' => e = .returned (.bool true) ∧ Hid (Chg [] w w') := by
  have en : sampleH.enc = sampleH.rec'.sector := by unfold Hd.enc; rw [if_pos sampleH_ok]
  have er : sampleH.err = 0 := by unfold Hd.err; rw [if_pos sampleH_ok]
  have hl : sampleH.rec'.sector.length = 128 := Rec.sector_length (show 6 ≤ 25 by decide)
  have h8 : sampleH.rec'.sector.take 8 = magicB ++ [1, 0, 0, 0] := sector_eight (show 1 < 256 by decide)
  have hk : kindOf sampleH.rec'.sector = 1 := kindOf_sector (show 6 ≤ 25 by decide) (show 1 ≤ 1 by decide) (show 1 ≤ 3 by decide)
  obtain ⟨bk1, bk2⟩ := Hd.back sampleH sampleH_ok (show 9 < 4294967296 by decide)
  have hbs := Rec.sector_bs sampleH.rec'
  have EN := Lib.hid (fun W => encHd_any sampleH W (show 1 < 18446744073709551616 by decide) (show 2 < 18446744073709551616 by decide) (show 9 < 4294967296 by decide))
  unfold PcEncs at EN
  rw [en, er, hl, sampleH_val] at EN
  have DE := Lib.hid (fun v W (h : Sl W v (ints sampleH.rec'.sector)) (hc : ∀ ao n c, v = .slice ao n c → n ≤ c) => decHd_any v sampleH.rec'.sector W h hbs hc)
  rw [bk1, bk2, sampleH_val] at DE
  have KI := Lib.hid (fun v W (h : Sl W v (ints sampleH.rec'.sector)) (hc : ∀ ao n c, v = .slice ao n c → n ≤ c) => kind_any v sampleH.rec'.sector W h hbs hc)
  rw [hk, show ((1 : Nat) : Int) = 1 from rfl] at KI
  obtain ⟨z1, z2, z3⟩ := zeros_esc
  have ES := Lib.hid (fun v W (h : Sl W v (ints (List.replicate 128 0))) (hc : ∀ ao n c, v = .slice ao n c → n ≤ c) => escape_any v (List.replicate 128 0) W h (fun x hx => by rw [(List.mem_replicate.1 hx).2]; decide) (by decide) hc)
  unfold EscIs RcOwn at ES
  rw [z1, z2, z3] at ES
  have EQ := Lib.hid (fun W => eql_header_same 1 2 0 2 3 5 9 false W)
  generalize sampleH.rec'.sector = SE at *
  obtain ⟨i0, hi, hz0, hz1, hz2⟩ := info_parts info_byte
  replace hl := Lib.hid hl
  clear en er hk bk1 bk2 hbs z1 z2 z3
  have C1 : Hid (Chg [] w (w.alloc (.cells #[.int .u64 1, .int .u64 2, .int .i64 0, .int .i64 2, .int .i64 3, .int .i64 5, .bool false, .int .u32 9] 25))) := (Chg.refl [] w).alloc _
  have B1 : Hid (Blk (w.alloc (.cells #[.int .u64 1, .int .u64 2, .int .i64 0, .int .i64 2, .int .i64 3, .int .i64 5, .bool false, .int .u32 9] 25)) w.heap.size 25 [.int .u64 1, .int .u64 2, .int .i64 0, .int .i64 2, .int .i64 3, .int .i64 5, .bool false, .int .u32 9]) := Blk.made w _ _
  go_enter Try.func17, Try.ntmps17
  go_wp2_with fail
  refine (EN.out _).mono ?_
  rintro e w2 ⟨v, rfl, O, C⟩
  have C2 := Lib.hid (C1.out.trans C.out)
  have B2 := Lib.hid (B1.out.chg C.out (by simp))
  have S2 : Hid (Sl w2 v (ints SE)) := Sl.owned (n := 128) O.out
  have HC : Hid (∀ ao n c, v = .slice ao n c → n ≤ c) := fun ao n c he => by
    have h1 := O.out
    rw [he] at h1
    exact owned_cap h1
  obtain ⟨vo, vc, rfl⟩ := owns_slice O.out
  have VG : ∃ g, vo = some ⟨g, 0, none⟩ := by
    rcases O.out.2 with ⟨h1, _⟩ | ⟨g, cap, cur, h1, _⟩
    · simp at h1
    · obtain ⟨rfl, _⟩ : vo = some ⟨g, 0, none⟩ ∧ vc = cap := by simpa using h1
      exact ⟨g, rfl⟩
  obtain ⟨g, rfl⟩ := VG
  have hvc : (128 : Int) ≤ vc := by have := HC.out _ _ _ rfl; omega
  clear EN C C1 B1 O
  go_wp2_with fail
  refine (DE.out _ w2 S2.out HC.out).mono ?_
  rintro e w3 ⟨rfl, C⟩
  have C3 := Lib.hid (C2.out.trans C.out)
  have B3 := Lib.hid (B2.out.chg C.out (by simp))
  have S3 := Lib.hid (S2.out.chg C.out (by simp))
  clear DE C C2 B2 S2
  have C4 : Hid (Chg [] w (w3.alloc (.cells #[.int .u64 1, .int .u64 2, .int .i64 0, .int .i64 2, .int .i64 3, .int .i64 5, .bool false, .int .u32 9] 25))) := C3.out.alloc _
  have K4 : Hid (Blk (w3.alloc (.cells #[.int .u64 1, .int .u64 2, .int .i64 0, .int .i64 2, .int .i64 3, .int .i64 5, .bool false, .int .u32 9] 25)) w3.heap.size 25 [.int .u64 1, .int .u64 2, .int .i64 0, .int .i64 2, .int .i64 3, .int .i64 5, .bool false, .int .u32 9]) := Blk.made w3 _ _
  have B4 := Lib.hid (B3.out.alloc (.cells #[.int .u64 1, .int .u64 2, .int .i64 0, .int .i64 2, .int .i64 3, .int .i64 5, .bool false, .int .u32 9] 25))
  have S4 : Hid (Sl (w3.alloc (.cells #[.int .u64 1, .int .u64 2, .int .i64 0, .int .i64 2, .int .i64 3, .int .i64 5, .bool false, .int .u32 9] 25)) (.slice (some ⟨g, 0, none⟩) 128 vc) (ints SE)) := S3.out.chg ((Chg.refl [] w3).alloc _) (by simp)
  go_upto_region 4 with fail
  refine wp_named2 (fun W4 hW4 => ?_)
  rw [← hW4] at C4 K4 B4 S4
  obtain ⟨kb, hkb⟩ : ∃ kb, kb = w3.heap.size := ⟨_, rfl⟩
  rw [← hkb] at K4 ⊢
  clear hW4 hkb C3 B3 S3
  go_wp2_with (at_make; refine wpList_make_full _ rfl _ _ 30 rfl W4.heap.size 5 i0 (.int .u8 0) 1 Try.underlying30 hi hz0 hz1 .i64 .i64 _ _ 128 rfl rfl rfl rfl (by rw [hz2]; decide) (by decide) (Nat.le_refl _) ?_; intro w5 hown hgrow)
  have MB : Hid (Blk w5 W4.heap.size 5 (List.replicate 128 (.int .u8 0))) := by
    have h1 := (Blk.owned hown).1
    rw [made_replicate _ _ rfl] at h1
    exact h1
  have C5' : Hid (Chg [] W4 w5) := (Chg.refl [] W4).grown hgrow (by intro k hk; cases hk)
  have C5 := Lib.hid (C4.out.trans C5'.out)
  have B5 := Lib.hid (B4.out.chg C5'.out (by simp))
  have K5 := Lib.hid (K4.out.chg C5'.out (by simp))
  have S5 := Lib.hid (S4.out.chg C5'.out (by simp))
  have Z5 : Hid (Sl w5 (.slice (some ⟨W4.heap.size, 0, none⟩) 128 128) (ints (List.replicate 128 0))) := by
    refine .inr ⟨_, 0, 128, rfl, MB.out.lt, fun j hj => ?_⟩
    have hj2 : j < 128 := hj
    refine MB.out.cell ?_
    rw [zeros_get 128 j hj2, List.getElem?_replicate, if_pos (by omega)]
  clear hown hgrow MB C5' C4 B4 K4 S4
  refine (ES.out _ w5 Z5.out (fun ao n c he => by
    obtain ⟨_, rfl, rfl⟩ : _ ∧ 128 = n ∧ 128 = c := by simpa using he
    exact Nat.le_refl _)).mono ?_
  rintro e w6 ⟨xv, rfl, OX, C⟩
  obtain ⟨xo, xc, rfl⟩ := owns_slice OX.out
  have C6 := Lib.hid (C5.out.trans C.out)
  have B6 := Lib.hid (B5.out.chg C.out (by simp))
  have K6 := Lib.hid (K5.out.chg C.out (by simp))
  have S6 := Lib.hid (S5.out.chg C.out (by simp))
  clear C C5 B5 K5 S5 Z5 ES OX

  have b0 := B6.out.cell (j := 0) rfl
  have k0 := K6.out.cell (j := 0) rfl
  have b1 := B6.out.cell (j := 1) rfl
  have k1 := K6.out.cell (j := 1) rfl
  have b2 := B6.out.cell (j := 2) rfl
  have k2 := K6.out.cell (j := 2) rfl
  have b3 := B6.out.cell (j := 3) rfl
  have k3 := K6.out.cell (j := 3) rfl
  have b4 := B6.out.cell (j := 4) rfl
  have k4 := K6.out.cell (j := 4) rfl
  have b5 := B6.out.cell (j := 5) rfl
  have k5 := K6.out.cell (j := 5) rfl
  have b6 := B6.out.cell (j := 6) rfl
  have k6 := K6.out.cell (j := 6) rfl
  have b7 := B6.out.cell (j := 7) rfl
  have k7 := K6.out.cell (j := 7) rfl
  have q := str_pre w6 g 0 vc 128 8 SE S6.out hl.out (by decide) (by decide)
  rw [h8, sample_str] at q
  have eq1 := EQ.out w6
  have KK := Lib.hid (KI.out _ w6 S6.out HC.out)
  clear KI EQ h8
  go_wp2_with fail
  refine KK.out.mono ?_
  rintro e w7 ⟨rfl, rfl⟩
  go_wp2_with fail
  go_ret
  exact ⟨by first | rfl | simp, C6⟩

end Go.Proofs.Ytnjemjkjbeingaa