/-
  CrcBursts walked. By an AI agent.
-/
import Derived.Test.YtaneaidipbhbkaaCrcKnown
import Derived.Test.YtaneaidipbhbkaaGLent
import Derived.Laws.OwnMore
namespace Go.Proofs.Ytaneaidipbhbkaa
open Go.RowKit
open Crc

/-- Numbers, as the cells have them. -/
def ints (bs : List Nat) : List Int := bs.map fun b : Nat => (b : Int)

theorem ints_length (bs : List Nat) : (ints bs).length = bs.length := by simp [ints]

theorem nats_ints (bs : List Nat) : nats (ints bs) = bs := by simp [nats, ints, Function.comp_def]

theorem ints_nats {xs : List Int} (h : By xs) : ints (nats xs) = xs := by
  unfold ints nats
  rw [List.map_map]
  have : ∀ x ∈ xs, ((fun b : Nat => (b : Int)) ∘ Int.toNat) x = id x := fun x hx => Int.toNat_of_nonneg (h x hx).1
  rw [List.map_congr_left this, List.map_id]

theorem ints_by {bs : List Nat} (h : Bs bs) : By (ints bs) := by
  intro x hx
  obtain ⟨b, hb, rfl⟩ := List.mem_map.1 hx
  have := h b hb
  omega

theorem ints_get (bs : List Nat) (j : Nat) : (ints bs).getD j 0 = ((bs.getD j 0 : Nat) : Int) := by
  unfold ints
  simp only [List.getD, List.getElem?_map]
  cases bs[j]? <;> rfl

theorem ints_set (bs : List Nat) (j x : Nat) : (ints (bs.set j x)).map (Value.int .u8) = ((ints bs).map (Value.int .u8)).set j (.int .u8 (x : Int)) := by
  unfold ints
  rw [List.map_set, List.map_set]

set_option maxHeartbeats 1000000 in
set_option maxRecDepth 100000 in
theorem bursts_trivial (v : Value) (at_ ch : Int) (xs : List Int) (w : World) (h : Sl w v xs) (hc : xs = [] ∨ 100000 < xs.length ∨ ch = 0) :
    Calls Try.prog 7 #[v, .int .i64 at_, .int .u32 ch] w fun e w' => e = .returned (.bool true) ∧ Chg [] w w' := by
  obtain ⟨ao, c, rfl⟩ := h.slice
  clear h
  by_cases h0 : xs = []
  · subst h0
    go_enter Try.func7, Try.ntmps7
    go_wp2_with fail
    refine (known_any w).mono ?_
    rintro e w6 ⟨rfl, D⟩
    go_wp2_with fail
    go_ret
    exact ⟨rfl, D.out⟩
  have d1 : ((xs.length : Int) == 0) = false := by simpa using h0
  by_cases hl : 100000 < xs.length
  · have hl : (100000 : Int) < xs.length := by omega
    go_enter Try.func7, Try.ntmps7
    go_wp2_with fail
    refine (known_any w).mono ?_
    rintro e w6 ⟨rfl, D⟩
    go_wp2_with fail
    go_ret
    exact ⟨rfl, D.out⟩
  · obtain rfl : ch = 0 := by
      rcases hc with h | h | h
      · exact absurd h h0
      · exact absurd h hl
      · exact h
    have hl : ¬ (100000 : Int) < xs.length := by omega
    go_enter Try.func7, Try.ntmps7
    go_wp2_with fail
    refine (known_any w).mono ?_
    rintro e w6 ⟨rfl, D⟩
    go_wp2_with fail
    go_ret
    exact ⟨rfl, D.out⟩

theorem flip_bits (y m : Nat) (hy : y < 256) (hm : m < 8) : bits .xor .u8 (y : Int) ((2 : Int) ^ m % 256) = ((y ^^^ 2 ^ m : Nat) : Int) := by
  have hp : 2 ^ m < 256 := by
    have := Nat.pow_lt_pow_right (a := 2) (by decide) hm
    exact this
  have e : ((2 : Int) ^ m % 256) = ((2 ^ m : Nat) : Int) := by
    have e : ((2 ^ m : Nat) : Int) = (2 : Int) ^ m := by simp
    rw [← e]
    exact Int.emod_eq_of_lt (Int.natCast_nonneg _) (Int.ofNat_lt.2 hp)
  rw [e]
  exact u8_xor_nat y _ hy hp

/-- Where the loop is: the text as it has turned so far, k bits of the change looked at. -/
structure Turned (w0 w : World) (xs : List Int) (f ch : Nat) (v : Value) (k : Nat) (b : Bool) (bs : List Nat) : Prop where
  len : bs.length = xs.length
  bytes : Bs bs
  reg : reg ones bs = reg ones (nats xs) ^^^ thr (8 * (nats xs).length - f) (within ch (8 * (nats xs).length - f) k)
  told : b = true ↔ within ch (8 * (nats xs).length - f) k ≠ 0
  own : w.ownsRow w0.heap.size 5 1 v xs.length ((ints bs).map (Value.int .u8))
  chg : Chg [] w0 w

theorem Turned.same {w0 w : World} {xs : List Int} {f ch : Nat} {v : Value} {k : Nat} {b : Bool} {bs : List Nat} (h : Turned w0 w xs f ch v k b bs) (hn : ¬ (ch.testBit k = true ∧ k < 8 * xs.length - f)) : Turned w0 w xs f ch v (k + 1) b bs := by
  have e := within_same (change := ch) (room := 8 * (nats xs).length - f) (i := k) (by simpa [nats] using hn)
  exact ⟨h.len, h.bytes, by rw [e]; exact h.reg, by rw [e]; exact h.told, h.own, h.chg⟩

theorem Turned.turn {w0 w : World} {xs : List Int} {f ch g c : Nat} {k : Nat} {b : Bool} {bs : List Nat} (h : Turned w0 w xs f ch (.slice (some ⟨g, 0, none⟩) xs.length c) k b bs) (hf : f < 8 * xs.length)
    (hn : ch.testBit k = true ∧ k < 8 * xs.length - f) :
    Turned w0 (w.setCell ⟨g, (f + k) / 8, none⟩ (.int .u8 ((bs.getD ((f + k) / 8) 0 ^^^ 2 ^ ((f + k) % 8) : Nat) : Int))) xs f ch (.slice (some ⟨g, 0, none⟩) xs.length c) (k + 1) true (Crc.flip bs (f + k)) := by
  have hl : (nats xs).length = xs.length := by simp [nats]
  have hn' : ch.testBit k = true ∧ k < 8 * (nats xs).length - f := by rw [hl]; exact hn
  refine ⟨by rw [flip_length]; exact h.len, flip_bs h.bytes _, burst_step (by rw [hl]; exact h.len) (by rw [hl]; exact hf) h.reg hn', ⟨fun _ => within_turned hn', fun _ => rfl⟩, ?_, h.chg.setCell (.inr (h.own.lt g rfl).1) _⟩
  unfold Crc.flip
  rw [ints_set]
  exact (h.own.stored _ _).1

theorem Turned.cell {w0 w : World} {xs : List Int} {f ch g c : Nat} {k : Nat} {b : Bool} {bs : List Nat} (h : Turned w0 w xs f ch (.slice (some ⟨g, 0, none⟩) xs.length c) k b bs) {j : Nat} (hj : j < xs.length) :
    w.cell? ⟨g, j, none⟩ = some (.int .u8 ((bs.getD j 0 : Nat) : Int)) ∧ bs.getD j 0 < 256 ∧ w.frozen? ⟨g, j, none⟩ = false := by
  have hjb : j < bs.length := by rw [h.len]; exact hj
  refine ⟨?_, ?_, h.own.frozenAt j⟩
  · rw [h.own.cellAt j (by omega), List.getElem?_map, ints, List.getElem?_map, List.getElem?_eq_getElem hjb]
    simp [List.getD, List.getElem?_eq_getElem hjb]
  · rw [List.getD_eq_getElem?_getD, List.getElem?_eq_getElem hjb]
    exact h.bytes _ (List.getElem_mem hjb)

theorem Turned.begin {w0 w : World} {xs : List Int} {f ch : Nat} {v : Value} (hby : By xs) (o : w.ownsRow w0.heap.size 5 1 v (0 + xs.length) ([] ++ xs.map (Value.int .u8))) (c : Chg [] w0 w) : Turned w0 w xs f ch v 0 false (nats xs) := by
  rw [Nat.zero_add, List.nil_append] at o
  refine ⟨by simp [nats], nats_bs hby, by rw [within, thr_zero, Nat.xor_zero], by simp [within], by rw [ints_nats hby]; exact o, c⟩

/-- What the sums tell. -/
theorem Turned.tells {w0 w : World} {xs : List Int} {f ch : Nat} {v : Value} {b : Bool} {bs : List Nat} (h : Turned w0 w xs f ch v 32 b bs) : (((sum bs : Nat) : Int) != ((sum (nats xs) : Nat) : Int)) = b := by
  have e : (sum bs ≠ sum (nats xs)) ↔ b = true := by
    unfold sum more
    rw [Nat.zero_xor]
    exact (burst_told h.reg).trans h.told.symm
  cases b with
  | true =>
    have := e.2 rfl
    simp only [bne_iff_ne, ne_eq]
    omega
  | false =>
    have : sum bs = sum (nats xs) := Classical.byContradiction fun hn => by simpa using e.1 hn
    rw [this]
    simp

theorem Turned.sl {w0 w : World} {xs : List Int} {f ch : Nat} {v : Value} {k : Nat} {b : Bool} {bs : List Nat} (h : Turned w0 w xs f ch v k b bs) : Sl w v (ints bs) := Sl.owned h.own

set_option maxHeartbeats 1000000 in
set_option maxRecDepth 100000 in
theorem bursts_main (g0 o0 c : Nat) (at_ r : Int) (f ch : Nat) (xs : List Int) (w : World) (h : Sl w (.slice (some ⟨g0, o0, none⟩) xs.length c) xs) (hby : By xs) (hx0 : xs ≠ []) (hx1 : xs.length ≤ 100000) (hch : ch < 4294967296) (hch0 : ch ≠ 0)
    (hcell : ∀ w1, Chg [] w w1 → ∀ j u, (xs.map (Value.int .u8))[j]? = some u → w1.cell? ((⟨g0, o0, none⟩ : Addr).add j) = some u)
    (hr : Int.tmod at_ (8 * (xs.length : Int)) = r) (hf : (if r < 0 then r + 8 * (xs.length : Int) else r) = (f : Int)) (hfl : f < 8 * xs.length) :
    Calls Try.prog 7 #[.slice (some ⟨g0, o0, none⟩) xs.length c, .int .i64 at_, .int .u32 (ch : Int)] w fun e w' => e = .returned (.bool true) ∧ Chg [] w w' := by
  obtain ⟨i0, hi, hz0, hz1, hz2⟩ := info_parts info_u8
  replace hi := Lib.hid hi
  replace hz0 := Lib.hid hz0
  replace hz1 := Lib.hid hz1
  replace hz2 := Lib.hid hz2
  have HS := Lib.hid h
  have HB := Lib.hid hby
  have QC := Lib.hid hcell
  have ON := Lib.hid (u8s_one xs)
  clear h hby hcell
  have d1 : ((xs.length : Int) == 0) = false := by simpa using hx0
  have d2 : ¬ (100000 : Int) < xs.length := by omega
  have d3 : ((ch : Int) == 0) = false := by simp; omega
  by_cases hneg : r < 0
  · rw [if_pos hneg] at hf
    go_enter Try.func7, Try.ntmps7
    go_wp2_with (first
      | (at_builtin; refine wpList_append_three _ rfl (.tmp 37) (.tmp 38) 23 rfl w.heap.size 5 i0 (.int .u8 0) 1 1 Try.underlying23 hi.out hz0.out hz1.out hz2.out rfl (by decide) _ _ _ rfl (World.ownsRow_nil _ _ _ _) ⟨g0, o0, none⟩ xs.length c (xs.map (Value.int .u8)) rfl (by simp) (QC.out w (Chg.refl _ _)) ON.out (by unfold maxLen; omega) (by omega) (Nat.le_refl _) ?_; intro v' w1 ol gr nb; have T0 : Hid (Turned w w1 xs f ch v' 0 false (nats xs)) := Turned.begin HB.out ol.out ((Chg.refl _ _).grown gr.out (by intro k hk; cases hk)); clear ol gr nb))
    obtain ⟨ao1, c1, rfl⟩ := owns_slice T0.out.own
    obtain ⟨g, rfl, -⟩ := owns_at (k := 0) T0.out.own (u := (((ints (nats xs)).map (Value.int .u8))[0]'(by rw [List.length_map, ints_length, nats_length]; exact List.length_pos_iff.2 hx0))) (List.getElem?_eq_getElem _)
    clear hr hf hneg d1 d2 d3 hi hz0 hz1 hz2 QC ON
    go_loopw [9, 10] (fun t i wr => ∃ (k : Nat) (b : Bool) (bs : List Nat), k ≤ 32 ∧ i = .int .i64 k ∧ t = .bool b ∧ Hid (Turned w wr xs f ch (.slice (some ⟨g, 0, none⟩) xs.length c1) k b bs)) (fun _ i _ => 32 - (intOf i).toNat)
    case atStart => exact ⟨0, false, nats xs, Nat.zero_le _, rfl, rfl, T0⟩
    case round =>
      obtain ⟨k, b, bs, hk, rfl, rfl, T⟩ := hrel
      clear T0
      by_cases hlt : k < 32
      · have hb := bit_ask ch k hch
        have hk0 : (0 : Int) ≤ k := Int.natCast_nonneg _
        have hk1 : (k : Int) < 32 := by omega
        have hf0 : (0 : Int) ≤ f := Int.natCast_nonneg _
        have hf1 : (f : Int) < 8 * xs.length := by omega
        by_cases hbit : ch.testBit k = true
        · rw [if_pos hbit] at hb
          by_cases hin : f + k < 8 * xs.length
          · have T2 := Lib.hid (T.out.turn hfl ⟨hbit, by omega⟩)
            obtain ⟨c0, hy, f0⟩ := T.out.cell (j := (f + k) / 8) (by omega)
            have d4 : (f : Int) + k < 8 * xs.length := by omega
            generalize bs.getD ((f + k) / 8) 0 = y at *
            go_wp2_with fail
            rw [flip_bits y _ hy (Nat.mod_lt _ (by decide))]
            exact ⟨⟨k + 1, true, Crc.flip bs (f + k), by omega, by go_num, rfl, T2⟩, by simp [intOf]; omega⟩
          · have d4 : ¬ (f : Int) + k < 8 * xs.length := by omega
            have T2 := Lib.hid (T.out.same (fun h => hin (by omega)))
            go_wp2_with fail
            exact ⟨⟨k + 1, b, bs, by omega, by go_num, rfl, T2⟩, by simp [intOf]; omega⟩
        · rw [if_neg hbit] at hb
          have T2 := Lib.hid (T.out.same (fun h => hbit h.1))
          go_wp2_with fail
          exact ⟨⟨k + 1, b, bs, by omega, by go_num, rfl, T2⟩, by simp [intOf]; omega⟩
      · obtain rfl : k = 32 := by omega
        have TE := T.out.tells
        go_wp2_with fail
        refine (known_any wr).mono ?_
        rintro e w2 ⟨rfl, D2⟩
        go_wp2_with fail
        refine (sum_any _ (ints bs) w2 ((T.out.sl).chg D2.out (by simp)) (ints_by T.out.bytes) (by rw [ints_length, T.out.len]; omega)).mono ?_
        rintro e w3 ⟨rfl, D3⟩
        rw [nats_ints]
        go_wp2_with fail
        refine (sum_any _ xs w3 (HS.out.chg ((T.out.chg.trans D2.out).trans D3.out) (by simp)) HB.out (by omega)).mono ?_
        rintro e w4 ⟨rfl, D4⟩
        go_wp2_with fail
        go_ret
        exact ⟨rfl, ((T.out.chg.trans D2.out).trans D3.out).trans D4.out⟩
  · rw [if_neg hneg] at hf
    subst hf
    go_enter Try.func7, Try.ntmps7
    go_wp2_with (first
      | (at_builtin; refine wpList_append_three _ rfl (.tmp 37) (.tmp 38) 23 rfl w.heap.size 5 i0 (.int .u8 0) 1 1 Try.underlying23 hi.out hz0.out hz1.out hz2.out rfl (by decide) _ _ _ rfl (World.ownsRow_nil _ _ _ _) ⟨g0, o0, none⟩ xs.length c (xs.map (Value.int .u8)) rfl (by simp) (QC.out w (Chg.refl _ _)) ON.out (by unfold maxLen; omega) (by omega) (Nat.le_refl _) ?_; intro v' w1 ol gr nb; have T0 : Hid (Turned w w1 xs f ch v' 0 false (nats xs)) := Turned.begin HB.out ol.out ((Chg.refl _ _).grown gr.out (by intro k hk; cases hk)); clear ol gr nb))
    obtain ⟨ao1, c1, rfl⟩ := owns_slice T0.out.own
    obtain ⟨g, rfl, -⟩ := owns_at (k := 0) T0.out.own (u := (((ints (nats xs)).map (Value.int .u8))[0]'(by rw [List.length_map, ints_length, nats_length]; exact List.length_pos_iff.2 hx0))) (List.getElem?_eq_getElem _)
    clear hr hneg d1 d2 d3 hi hz0 hz1 hz2 QC ON
    go_loopw [9, 10] (fun t i wr => ∃ (k : Nat) (b : Bool) (bs : List Nat), k ≤ 32 ∧ i = .int .i64 k ∧ t = .bool b ∧ Hid (Turned w wr xs f ch (.slice (some ⟨g, 0, none⟩) xs.length c1) k b bs)) (fun _ i _ => 32 - (intOf i).toNat)
    case atStart => exact ⟨0, false, nats xs, Nat.zero_le _, rfl, rfl, T0⟩
    case round =>
      obtain ⟨k, b, bs, hk, rfl, rfl, T⟩ := hrel
      clear T0
      by_cases hlt : k < 32
      · have hb := bit_ask ch k hch
        have hk0 : (0 : Int) ≤ k := Int.natCast_nonneg _
        have hk1 : (k : Int) < 32 := by omega
        have hf0 : (0 : Int) ≤ f := Int.natCast_nonneg _
        have hf1 : (f : Int) < 8 * xs.length := by omega
        by_cases hbit : ch.testBit k = true
        · rw [if_pos hbit] at hb
          by_cases hin : f + k < 8 * xs.length
          · have T2 := Lib.hid (T.out.turn hfl ⟨hbit, by omega⟩)
            obtain ⟨c0, hy, f0⟩ := T.out.cell (j := (f + k) / 8) (by omega)
            have d4 : (f : Int) + k < 8 * xs.length := by omega
            generalize bs.getD ((f + k) / 8) 0 = y at *
            go_wp2_with fail
            rw [flip_bits y _ hy (Nat.mod_lt _ (by decide))]
            exact ⟨⟨k + 1, true, Crc.flip bs (f + k), by omega, by go_num, rfl, T2⟩, by simp [intOf]; omega⟩
          · have d4 : ¬ (f : Int) + k < 8 * xs.length := by omega
            have T2 := Lib.hid (T.out.same (fun h => hin (by omega)))
            go_wp2_with fail
            exact ⟨⟨k + 1, b, bs, by omega, by go_num, rfl, T2⟩, by simp [intOf]; omega⟩
        · rw [if_neg hbit] at hb
          have T2 := Lib.hid (T.out.same (fun h => hbit h.1))
          go_wp2_with fail
          exact ⟨⟨k + 1, b, bs, by omega, by go_num, rfl, T2⟩, by simp [intOf]; omega⟩
      · obtain rfl : k = 32 := by omega
        have TE := T.out.tells
        go_wp2_with fail
        refine (known_any wr).mono ?_
        rintro e w2 ⟨rfl, D2⟩
        go_wp2_with fail
        refine (sum_any _ (ints bs) w2 ((T.out.sl).chg D2.out (by simp)) (ints_by T.out.bytes) (by rw [ints_length, T.out.len]; omega)).mono ?_
        rintro e w3 ⟨rfl, D3⟩
        rw [nats_ints]
        go_wp2_with fail
        refine (sum_any _ xs w3 (HS.out.chg ((T.out.chg.trans D2.out).trans D3.out) (by simp)) HB.out (by omega)).mono ?_
        rintro e w4 ⟨rfl, D4⟩
        go_wp2_with fail
        go_ret
        exact ⟨rfl, ((T.out.chg.trans D2.out).trans D3.out).trans D4.out⟩

theorem bursts_walk (v : Value) (at_ ch : Int) (xs : List Int) (w : World) (h : Sl w v xs) (hby : By xs) (hch0 : 0 ≤ ch) (hch1 : ch ≤ 4294967295) :
    Calls Try.prog 7 #[v, .int .i64 at_, .int .u32 ch] w fun e w' => e = .returned (.bool true) ∧ Chg [] w w' := by
  by_cases hc : xs = [] ∨ 100000 < xs.length ∨ ch = 0
  · exact bursts_trivial v at_ ch xs w h hc
  · have h0 : xs ≠ [] := fun e => hc (.inl e)
    have h1 : ¬ 100000 < xs.length := fun e => hc (.inr (.inl e))
    have h2 : ch ≠ 0 := fun e => hc (.inr (.inr e))
    clear hc
    obtain ⟨n, rfl⟩ := Int.eq_ofNat_of_zero_le hch0
    have hl : 0 < xs.length := List.length_pos_iff.2 h0
    rcases h with ⟨rfl, _⟩ | ⟨g0, o0, c, rfl, hb, hcl⟩
    · exact absurd rfl h0
    · have hS : Sl w (.slice (some ⟨g0, o0, none⟩) xs.length c) xs := .inr ⟨g0, o0, c, rfl, hb, hcl⟩
      have hcell : ∀ j u, (xs.map (Value.int .u8))[j]? = some u → w.cell? ((⟨g0, o0, none⟩ : Addr).add j) = some u := by
        intro j u hj
        have hjn : j < xs.length := by
          have := (List.getElem?_eq_some_iff.1 hj).1
          simpa using this
        rw [Addr.add_lit, hcl j hjn]
        rw [← hj]
        simp [List.getD, List.getElem?_eq_getElem hjn]
      have hlo := Int.lt_tmod_of_pos at_ (show (0 : Int) < 8 * (xs.length : Int) by omega)
      have hhi := Int.tmod_lt_of_pos at_ (show (0 : Int) < 8 * (xs.length : Int) by omega)
      obtain ⟨r, hr⟩ : ∃ r, Int.tmod at_ (8 * (xs.length : Int)) = r := ⟨_, rfl⟩
      rw [hr] at hlo hhi
      obtain ⟨f, hf⟩ := Int.eq_ofNat_of_zero_le (show 0 ≤ (if r < 0 then r + 8 * (xs.length : Int) else r) by split <;> omega)
      have hfl : f < 8 * xs.length := by
        split at hf <;> omega
      exact bursts_main g0 o0 c at_ r f n xs w hS hby h0 (by omega) (by omega) (by omega) (fun w1 hw1 => lent_cells hcell (.inr hb) hw1) hr hf hfl

end Go.Proofs.Ytaneaidipbhbkaa
