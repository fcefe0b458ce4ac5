/-
  The book's own walk over lists of bytes. By an AI agent.
-/
import Derived.Test.YtnkdgmnmmmjgjaaGreatBGOwnMem
namespace Go.Proofs.YtnkdgmnmmmjgjaaGreat
open Go.RowKit

theorem info_bytes : (Tryz.prog.info? 55).map (fun i => (i.zero, i.size, i.bytes)) = some (some (.slice none 0 0), 1, 24) := by kernel_rfl

/-- The marks of ownBytes. -/
def fA8 (i k : Nat) : Value := .int .u8 (((i : Int) * 97 + (k : Int) * 13) % 256)

def fB8 (i k : Nat) : Value := .int .u8 (((-1 - (i : Int)) * 97 + (k : Int) * 13) % 256)

theorem own8_nil (ao : Option Addr) (c : Nat) (w : World) :
    Calls Tryz.prog 34 #[.slice ao 0 c] w fun e w' => e = .returned (.bool true) ∧ w = w' := by
  go_enter Tryz.func34, Tryz.ntmps34
  go_wp2
  refine wp_loop_rounds 1 ?_
  rw [rounds_succ]
  go_wp2
  refine wp_loop_rounds 1 ?_
  rw [rounds_succ]
  go_wp2
  refine wp_loop_rounds 1 ?_
  rw [rounds_succ]
  go_wp2
  go_ret
  exact ⟨rfl, rfl⟩

set_option maxHeartbeats 2000000 in
set_option maxRecDepth 100000 in
theorem own8_any (base lb lo lc : Nat) (vs : List (Value × List Value)) (w : World) (h : Owns w base 5 lb lo vs) (hn : vs.length ≤ 1000000) (hb : base ≤ w.heap.size)
    (hlen : ∀ (j : Nat) (v : Value) (xs : List Value), vs[j]? = some (v, xs) → xs.length ≤ 140737488355000) :
    Calls Tryz.prog 34 #[.slice (some ⟨lb, lo, none⟩) vs.length lc] w fun e w' => e = .returned (.bool true) ∧ Chg (rowsOf vs) w w' := by
  obtain ⟨i0, hi, hz0, hz1, hz2⟩ := info_parts info_u8
  obtain ⟨j0, ki, kz0, kz1, kz2⟩ := info_parts info_bytes
  replace hi := Lib.hid hi
  replace hz0 := Lib.hid hz0
  replace hz1 := Lib.hid hz1
  replace hz2 := Lib.hid hz2
  replace ki := Lib.hid ki
  replace kz0 := Lib.hid kz0
  replace kz1 := Lib.hid kz1
  replace kz2 := Lib.hid kz2
  have HO := Lib.hid h
  have HL := Lib.hid hlen
  clear h hlen
  go_enter Tryz.func34, Tryz.ntmps34
  go_wp2_with fail
  go_loopw [3] (fun i wr => ∃ k : Nat, k ≤ vs.length ∧ i = .int .i64 k ∧ Hid (OwnsA fA8 wr base 5 lb lo vs k 0) ∧ Hid (Chg (rowsOf vs) w wr)) (fun i _ => vs.length - (intOf i).toNat)
  case atStart => exact ⟨0, Nat.zero_le _, rfl, HO.out.start, Chg.refl _ _⟩
  case round =>
    obtain ⟨i, hil, rfl, OA, BL⟩ := hrel
    by_cases hlt : i < vs.length
    · obtain ⟨⟨v, xs⟩, hv⟩ : ∃ d, vs[i]? = some d := ⟨_, List.getElem?_eq_getElem hlt⟩
      obtain ⟨ao, c, rfl⟩ := ownR_slice (HO.out.row i v xs hv)
      have hx := HL.out i _ xs hv
      have HV := Lib.hid hv
      clear hv
      have hi0 : (0 : Int) ≤ i := Int.natCast_nonneg _
      have hi1 : (i : Int) < vs.length := by omega
      obtain ⟨wo, hwo⟩ : ∃ wo : World, wo = wr := ⟨_, rfl⟩
      subst hwo
      go_wp2_with fail
      go_loopw [4] (fun q wr => ∃ k : Nat, k ≤ xs.length ∧ q = .int .i64 k ∧ Hid (OwnsA fA8 wr base 5 lb lo vs i k) ∧ Hid (Chg (rowsOf vs) w wr)) (fun q _ => xs.length - (intOf q).toNat)
      case atStart => exact ⟨0, Nat.zero_le _, rfl, OA, BL⟩
      case round =>
        obtain ⟨k, hkl, rfl, OI, BI⟩ := hrel
        clear OA BL
        have hh := OI.out.head i _ xs HV.out
        by_cases hk : k < xs.length
        · obtain ⟨g, rfl⟩ := ownR_head (HO.out.row i _ xs HV.out) (by omega)
          have hst := OI.out.set HO.out HV.out hk (by have := HO.out.lt; have := BI.out.size; omega)
          have hfr := hst.2.1
          obtain ⟨u, hu⟩ := hst.2.2
          have HS := Lib.hid hst.1
          have hgb : g ∈ rowsOf vs := rowsOf_mem HV.out rfl
          clear hst
          have hk0 : (0 : Int) ≤ k := Int.natCast_nonneg _
          have hk1 : (k : Int) < xs.length := by omega
          go_wp2_with fail
          exact ⟨⟨k + 1, by omega, by go_num, HS.out, BI.out.setCell (.inl hgb) _⟩, by simp [intOf]; omega⟩
        · have hk2 : k = xs.length := by omega
          have OI2 := Lib.hid (OI.out.next HV.out hk2)
          clear hk2
          go_wp2_with fail
          exact ⟨⟨i + 1, by omega, by go_num, OI2, BI⟩, by simp [intOf]; omega⟩
    · obtain rfl : i = vs.length := by omega
      go_wp2_with fail
      have OB : Hid (OwnsB fA8 fB8 wr base 5 55 lb lo vs wr.heap.size (.slice none 0 0) [] 0) := OA.out.copy
      obtain ⟨w2, hw2⟩ : ∃ w2 : World, w2 = wr := ⟨_, rfl⟩
      subst hw2
      have hH : w.heap.size ≤ w2.heap.size := BL.out.size
      clear OA hlt hil
      go_loopw [5, 6] (fun lg q wr => ∃ (i : Nat) (ys : List Value), i ≤ vs.length ∧ q = .int .i64 i ∧ Hid (OwnsB fA8 fB8 wr base 5 55 lb lo vs w2.heap.size lg ys i) ∧ Hid (Chg (rowsOf vs) w wr)) (fun _ q _ => vs.length - (intOf q).toNat)
      case atStart => exact ⟨0, [], Nat.zero_le _, rfl, OB, BL⟩
      case round =>
        obtain ⟨i, ys, hil, rfl, OI, BI⟩ := hrel
        clear OB BL
        by_cases hlt : i < vs.length
        · obtain ⟨⟨v, xs⟩, hv⟩ : ∃ d, vs[i]? = some d := ⟨_, List.getElem?_eq_getElem hlt⟩
          obtain ⟨ao, c, rfl⟩ := ownR_slice (HO.out.row i v xs hv)
          have hx := HL.out i _ xs hv
          have hh := OI.out.head i _ xs hv
          have HV := Lib.hid hv
          clear hv
          have hrow := Lib.hid (OI.out.row i _ xs HV.out (Nat.le_refl _))
          have hi0 : (0 : Int) ≤ i := Int.natCast_nonneg _
          have hi1 : (i : Int) < vs.length := by omega
          obtain ⟨wo, hwo⟩ : ∃ wo : World, wo = wr := ⟨_, rfl⟩
          subst hwo
          have hwo : w.heap.size ≤ wo.heap.size := BI.out.size
          obtain ⟨lg, hlg⟩ : ∃ lg, lg = u5 := ⟨_, rfl⟩
          subst hlg
          go_wp2_with fail
          go_loopw [7, 8] (fun x q wr => ∃ k : Nat, k ≤ 16 ∧ q = .int .i64 k ∧ Hid (InB fA8 fB8 wo wr base 5 (.slice ao xs.length c) xs.length i x k) ∧ Hid (Chg (rowsOf vs) w wr)) (fun _ q _ => 16 - (intOf q).toNat)
          case atStart => exact ⟨0, Nat.zero_le _, rfl, InB.start hrow.out, BI⟩
          case round =>
            obtain ⟨k, hkl, rfl, J, BJ⟩ := hrel
            clear BI
            by_cases hk : k < 16
            · have hk0 : (0 : Int) ≤ k := Int.natCast_nonneg _
              have hk1 : (k : Int) < 16 := by omega
              have hbw : base ≤ wr.heap.size := by have := BJ.out.size; omega
              clear hh
              go_wp2_with (with_reducible refine wpList_append_any _ rfl (.tmp 54) (.tmp 62) 55 rfl base 5 i0 (.int .u8 0) 1 Tryz.underlying55 hi.out hz0.out hz1.out hz2.out rfl _ (xs.length + k) _ rfl (J.out.row.alloc _) ⟨wr.heap.size, 0, none⟩ 1 1 [fB8 i k] rfl rfl (new_cell _ _ _) (by simp [Value.oneCell', fB8]) (by unfold maxLen; omega) (by omega) (by simp; omega) ?_)
              intro x' wn ol gr nb
              have J2 : Hid (InB fA8 fB8 wo wn base 5 (.slice ao xs.length c) xs.length i x' (k + 1)) := InB.step hrow.out J.out ol.out gr.out nb.out
              have BN : Hid (Chg (rowsOf vs) w wn) := ((BJ.out.alloc _).grown gr.out (fun b hb => by
                rcases J.out.blk with q | ⟨b', q, hge⟩
                · exact .inl (rowsOf_mem HV.out (by rw [← q]; exact hb))
                · rw [q] at hb
                  obtain rfl : b' = b := by simpa using hb
                  exact .inr (by omega)))
              clear ol gr nb J BJ
              go_wp2_with fail
              exact ⟨⟨k + 1, by omega, by go_num, J2, BN⟩, by simp [intOf]; omega⟩
            · obtain rfl : k = 16 := by omega
              have hbw : base ≤ wr.heap.size := by have := BJ.out.size; omega
              have LG := Lib.hid (owns_chg OI.out.long J.out.chg (fun b hb hm => by
                have h1 := (OI.out.long.lt b hb).1
                have h2 := ((HO.out.row i _ xs HV.out).lt b (by simpa using hm)).2
                omega))
              obtain ⟨xo, xc, hx7⟩ := ownR_slice J.out.row
              subst hx7
              have hsz : w2.heap.size ≤ wr.heap.size := by have h1 := OI.out.size; have h2 := J.out.chg.size; omega
              clear hh
              go_wp2_with (with_reducible refine wpList_append_three _ rfl (.tmp 64) (.tmp 66) 28 rfl w2.heap.size 55 j0 (.slice none 0 0) 1 24 Tryz.underlying28 ki.out kz0.out kz1.out kz2.out rfl (by decide) _ i _ rfl (LG.out.alloc _) ⟨wr.heap.size, 0, none⟩ 1 1 [.slice xo (xs.length + 16) xc] rfl rfl (new_cell _ _ _) (by simp [Value.oneCell']) (by unfold maxLen; omega) (by omega) (by simp; omega) ?_)
              intro lg' wn ol gr nb
              have O2 : Hid (OwnsB fA8 fB8 wn base 5 55 lb lo vs w2.heap.size lg' (ys ++ [.slice xo (xs.length + 16) xc]) (i + 1)) := OwnsB.next HO.out hH OI.out HV.out J.out ol.out gr.out nb.out
              have BN : Hid (Chg (rowsOf vs) w wn) := ((BJ.out.alloc _).grown gr.out (fun b hb => .inr (by have := (OI.out.long.lt b hb).1; omega)))
              clear ol gr nb J BJ OI LG
              go_wp2_with fail
              exact ⟨⟨i + 1, _, by omega, by go_num, O2, BN⟩, by simp [intOf]; omega⟩
        · obtain rfl : i = vs.length := by omega
          have hyl := Lib.hid (owns_len OI.out.long)
          obtain ⟨lgo, lgc, hlg⟩ := owns_slice OI.out.long
          subst hlg
          clear hlt hil
          go_wp2_with fail
          obtain ⟨w3, hw3⟩ : ∃ w3 : World, w3 = wr := ⟨_, rfl⟩
          subst hw3
          go_loop [9] (fun q => ∃ i : Nat, i ≤ vs.length ∧ q = .int .i64 i) (fun q => vs.length - (intOf q).toNat)
          case atStart => exact ⟨0, Nat.zero_le _, rfl⟩
          case round =>
            obtain ⟨i, hil, rfl⟩ := hrel
            by_cases hlt : i < vs.length
            · obtain ⟨⟨v, xs⟩, hv⟩ : ∃ d, vs[i]? = some d := ⟨_, List.getElem?_eq_getElem hlt⟩
              obtain ⟨y, hy⟩ : ∃ y, ys[i]? = some y := ⟨_, List.getElem?_eq_getElem (by rw [hyl.out]; exact hlt)⟩
              have hd := OI.out.done i v xs y hv hy
              obtain ⟨yo, yc, hys⟩ := hd.ry.slice
              rw [List.length_append, marks_len, marks_len] at hys
              subst hys
              obtain ⟨ao, c, rfl⟩ := ownR_slice (HO.out.row i v xs hv)
              have hx := HL.out i _ xs hv
              have hh := OI.out.head i _ xs hv
              obtain ⟨g, rfl, hg⟩ := owns_at OI.out.long hy
              have HD := Lib.hid hd
              clear hd hv hy
              have hi0 : (0 : Int) ≤ i := Int.natCast_nonneg _
              have hi1 : (i : Int) < vs.length := by omega
              go_wp2_with fail
              go_loop [11] (fun q => ∃ k : Nat, k ≤ xs.length ∧ q = .int .i64 k) (fun q => xs.length - (intOf q).toNat)
              case atStart => exact ⟨0, Nat.zero_le _, rfl⟩
              case round =>
                obtain ⟨k, hkl, rfl⟩ := hrel
                by_cases hk : k < xs.length
                · obtain ⟨b1, o1, rfl, c1⟩ := HD.out.rv.at (k := k) (marks_get fA8 i _ _ hk)
                  obtain ⟨b2, o2, rfl, c2⟩ := HD.out.ry.at (k := k) (u := fA8 i k) (by rw [List.getElem?_append_left (by rw [marks_len]; exact hk)]; exact marks_get fA8 i _ _ hk)
                  unfold fA8 at c1 c2
                  have hk0 : (0 : Int) ≤ k := Int.natCast_nonneg _
                  have hk1 : (k : Int) < xs.length := by omega
                  go_wp2_with fail
                  exact ⟨⟨k + 1, by omega, by go_num⟩, by simp [intOf]; omega⟩
                · obtain rfl : k = xs.length := by omega
                  go_wp2_with fail
                  go_loop [12] (fun q => ∃ k : Nat, k ≤ 16 ∧ q = .int .i64 k) (fun q => 16 - (intOf q).toNat)
                  case atStart => exact ⟨0, Nat.zero_le _, rfl⟩
                  case round =>
                    obtain ⟨k, hkl, rfl⟩ := hrel
                    by_cases hk : k < 16
                    · obtain ⟨b2, o2, rfl, c2⟩ := HD.out.ry.at (k := xs.length + k) (u := fB8 i k) (by
                        rw [List.getElem?_append_right (by rw [marks_len]; omega), marks_len, Nat.add_sub_cancel_left]
                        exact marks_get fB8 i _ _ hk)
                      unfold fB8 at c2
                      have hk0 : (0 : Int) ≤ k := Int.natCast_nonneg _
                      have hk1 : (k : Int) < 16 := by omega
                      go_wp2_with fail
                      exact ⟨⟨k + 1, by omega, by go_num⟩, by simp [intOf]; omega⟩
                    · go_wp2_with fail
                      exact ⟨⟨i + 1, by omega, by go_num⟩, by simp [intOf]; omega⟩
            · go_wp2_with fail
              go_ret
              exact ⟨rfl, BI.out⟩

end Go.Proofs.YtnkdgmnmmmjgjaaGreat
