
/-
  The packer of the package le, call by call. By an AI agent.
-/
import Derived.Test.YtffpjefecmkfmaaBLeRoom
namespace Go.Proofs.Ytffpjefecmkfmaa
open Go.RowKit

/-- What a packer holds: its record, how many bytes are put, its error. -/
structure PS where
  bs : List Int
  pos : Nat
  bad : Int

/-- What putting xs makes of it. -/
def PS.put (s : PS) (xs : List Int) : PS :=
  if s.bad = 0 then (if s.pos + xs.length ≤ s.bs.length then ⟨lay s.bs s.pos xs, s.pos + xs.length, 0⟩ else { s with bad := 10 }) else s

/-- A packer at block b, its record's bytes in block g. -/
structure Pk (w : World) (b g : Nat) (s : PS) : Prop where
  pb : Blk w b 93 [.slice (some ⟨g, 0, none⟩) s.bs.length s.bs.length, .int .i64 s.pos, .int .u16 s.bad]
  pg : Blk w g 5 (s.bs.map (Value.int .u8))
  ne : b ≠ g
  le : s.pos ≤ s.bs.length
  top : s.bs.length ≤ 4096
  byt : By s.bs
  bad : s.bad = 0 ∨ s.bad = 10

theorem Pk.c0 {w : World} {b g : Nat} {s : PS} (h : Pk w b g s) : w.cell? ⟨b, 0, none⟩ = some (.slice (some ⟨g, 0, none⟩) s.bs.length s.bs.length) := h.pb.cell rfl
theorem Pk.c1 {w : World} {b g : Nat} {s : PS} (h : Pk w b g s) : w.cell? ⟨b, 1, none⟩ = some (.int .i64 s.pos) := h.pb.cell rfl
theorem Pk.c2 {w : World} {b g : Nat} {s : PS} (h : Pk w b g s) : w.cell? ⟨b, 2, none⟩ = some (.int .u16 s.bad) := h.pb.cell rfl

theorem Pk.chg {w w' : World} {t : List Nat} {b g : Nat} {s : PS} (h : Pk w b g s) (c : Chg t w w') (hb : b ∉ t) (hg : g ∉ t) : Pk w' b g s :=
  ⟨h.pb.chg c hb, h.pg.chg c hg, h.ne, h.le, h.top, h.byt, h.bad⟩

theorem Pk.drewN {w : World} {b g : Nat} {s : PS} (h : Pk w b g s) (n : Nat) : Pk (w.drewN n) b g s := ⟨h.pb, h.pg, h.ne, h.le, h.top, h.byt, h.bad⟩

/-- What a call that puts leaves. -/
def Puts (w : World) (b g : Nat) (s : PS) (xs : List Int) (e : Ending) (w' : World) : Prop := e = .returned (.tuple #[]) ∧ Pk w' b g (s.put xs) ∧ Chg [b, g] w w'

/-- It fits: the bytes have been laid. -/
theorem puts_fit {w w' : World} {b g : Nat} {s : PS} {xs : List Int} (h : Pk w b g s) (h0 : s.bad = 0) (hr : s.pos + xs.length ≤ s.bs.length) (hx : By xs)
    (hb : Blk w' b 93 [.slice (some ⟨g, 0, none⟩) s.bs.length s.bs.length, .int .i64 ((s.pos : Int) + xs.length), .int .u16 0])
    (hg : Blk w' g 5 ((lay s.bs s.pos xs).map (Value.int .u8))) (hc : Chg [b, g] w w') : Puts w b g s xs (.returned (.tuple #[])) w' := by
  have hl := lay_length hr
  refine ⟨rfl, ?_, hc⟩
  unfold PS.put
  rw [if_pos h0, if_pos hr]
  refine ⟨?_, hg, h.ne, ?_, ?_, h.byt.lay hx _, .inl rfl⟩
  · show Blk w' b _ [.slice _ (lay s.bs s.pos xs).length (lay s.bs s.pos xs).length, .int .i64 ((s.pos + xs.length : Nat) : Int), _]
    rw [hl, Int.natCast_add]
    exact hb
  · show s.pos + xs.length ≤ (lay s.bs s.pos xs).length
    rw [hl]; exact hr
  · show (lay s.bs s.pos xs).length ≤ 4096
    rw [hl]; exact h.top

/-- It does not fit: the error is laid. -/
theorem puts_full {w : World} {b g : Nat} {s : PS} {xs : List Int} (q : Nat) (h : Pk w b g s) (h0 : s.bad = 0) (hr : ¬ s.pos + xs.length ≤ s.bs.length) :
    Puts w b g s xs (.returned (.tuple #[])) ((w.setCell ⟨b, 2, none⟩ (.int .u16 10)).drewN q) := by
  refine ⟨rfl, ?_, ((Chg.refl _ _).setCell (.inl (by simp)) _).drewN q⟩
  unfold PS.put
  rw [if_pos h0, if_neg hr]
  exact ⟨(h.pb.set 2 _).drewN q, (h.pg.other h.ne _).drewN q, h.ne, h.le, h.top, h.byt, .inr rfl⟩

theorem puts_bad {w : World} {b g : Nat} {s : PS} {xs : List Int} (h : Pk w b g s) (h0 : s.bad ≠ 0) : Puts w b g s xs (.returned (.tuple #[])) w := by
  refine ⟨rfl, ?_, Chg.refl _ _⟩
  unfold PS.put
  rw [if_neg h0]
  exact h

set_option maxHeartbeats 400000 in
theorem number_fit (b g : Nat) (s : PS) (n : Nat) (v : Int) (w : World) (h : Pk w b g s) (h0 : s.bad = 0) (hn : 0 < n) (h8 : n ≤ 8) (hr : s.pos + n ≤ s.bs.length) (_hv0 : 0 ≤ v) (_hv1 : v ≤ 18446744073709551615) :
    Calls Try.prog 71 #[.pointer (some ⟨b, 0, none⟩), .int .u64 v, .int .i64 n] w (Puts w b g s (leBytes n v)) := by
  obtain ⟨bs, at_, bad⟩ := s
  obtain rfl : bad = 0 := h0
  simp only at hr
  have hroom := room_ok b g at_ bs.length n w h.top hr h.c0 h.c1 h.c2 (h.pb.free 1)
  rw [if_neg (by omega)] at hroom
  have H := Lib.hid h
  clear h
  go_enter Try.func71, Try.ntmps71
  go_wp2_with (go_at_call 86; refine hroom.mono ?_; rintro e w' ⟨rfl, q, rfl⟩)
  have b0 : Blk ((w.setCell ⟨b, 1, none⟩ (.int .i64 ((at_ : Int) + n))).drewN q) b 93 [.slice (some ⟨g, 0, none⟩) bs.length bs.length, .int .i64 ((at_ : Int) + n), .int .u16 0] := (H.out.pb.set 1 _).drewN q
  have b1 : Blk ((w.setCell ⟨b, 1, none⟩ (.int .i64 ((at_ : Int) + n))).drewN q) g 5 (bs.map (Value.int .u8)) := (H.out.pg.other H.out.ne _).drewN q
  have b2 : Chg [b, g] w ((w.setCell ⟨b, 1, none⟩ (.int .i64 ((at_ : Int) + n))).drewN q) := ((Chg.refl _ _).setCell (.inl (by simp)) _).drewN q
  go_loopw [13] (fun i wr => ∃ k : Nat, k ≤ n ∧ i = .int .i64 k ∧ Blk wr b 93 [.slice (some ⟨g, 0, none⟩) bs.length bs.length, .int .i64 ((at_ : Int) + n), .int .u16 0] ∧ Blk wr g 5 ((lay bs at_ (leBytes k v)).map (Value.int .u8)) ∧ Chg [b, g] w wr)
    (fun i _ => n - (intOf i).toNat)
  case atStart => exact ⟨0, Nat.zero_le _, rfl, b0, by simpa [leBytes, lay_nil] using b1, b2⟩
  case round =>
    obtain ⟨k, hk, rfl, hb, hg, hc⟩ := hrel
    clear b0 b1 b2
    have L1 := hg.free (at_ + k)
    have hl : (lay bs at_ (leBytes k v)).length = bs.length := lay_length (by rw [leBytes_length]; omega)
    have L2 : k < n → ∃ u, wr.cell? ⟨g, at_ + k, none⟩ = some u := fun hlt => ⟨_, hg.cell (List.getElem?_eq_getElem (by simp only [List.length_map, hl]; omega))⟩
    have HB := Lib.hid hb
    have HG := Lib.hid hg
    have HC := Lib.hid hc
    clear hb hg hc hl
    by_cases hlt : k < n
    · obtain ⟨u, hu⟩ := L2 hlt
      go_wp2
      refine ⟨⟨k + 1, by omega, by go_num, HB.out.other H.out.ne.symm _, ?_, HC.out.setCell (.inl (by simp)) _⟩, by simp [intOf]; omega⟩
      have := HG.out.set (at_ + k) (.int .u8 (v / 2 ^ (8 * k) % 256))
      rw [leBytes_snoc, ← lay_snoc (by rw [leBytes_length]; omega), leBytes_length, List.map_set]
      exact this
    · obtain rfl : k = n := by omega
      go_wp2
      go_end0
      exact puts_fit H.out rfl (by rw [leBytes_length]; exact hr) (By.le _ _) (by rw [leBytes_length]; exact HB.out) HG.out HC.out

set_option maxHeartbeats 400000 in
theorem number_any (b g : Nat) (s : PS) (n : Nat) (v : Int) (w : World) (h : Pk w b g s) (hn : 0 < n) (h8 : n ≤ 8) (hv0 : 0 ≤ v) (hv1 : v ≤ 18446744073709551615) :
    Calls Try.prog 71 #[.pointer (some ⟨b, 0, none⟩), .int .u64 v, .int .i64 n] w (Puts w b g s (leBytes n v)) := by
  by_cases h0 : s.bad = 0
  · by_cases hr : s.pos + n ≤ s.bs.length
    · exact number_fit b g s n v w h h0 hn h8 hr hv0 hv1
    · have hroom := room_full b g s.pos s.bs.length n w h.top h.le (by omega) (by omega) h.c0 h.c1 (by rw [h.c2, h0]) (h.pb.free 2)
      have H := Lib.hid (fun q => puts_full (xs := leBytes n v) q h h0 (by rw [leBytes_length]; exact hr))
      clear h h0 hr hv0 hv1
      go_enter Try.func71, Try.ntmps71
      go_wp2_with (go_at_call 86; refine hroom.mono ?_; rintro e w' ⟨rfl, q, rfl⟩)
      refine wp_loop_rounds 1 ?_
      rw [rounds_succ]
      go_wp2
      go_end0
      exact H.out q
  · have hroom := room_bad b s.bad n w (by simpa using h0) h.c2
    have H := Lib.hid (puts_bad (xs := leBytes n v) h h0)
    clear h h0 hv0 hv1
    go_enter Try.func71, Try.ntmps71
    go_wp2_with (go_at_call 86; refine hroom.mono ?_; rintro e w' ⟨rfl, rfl⟩)
    refine wp_loop_rounds 1 ?_
    rw [rounds_succ]
    go_wp2
    go_end0
    exact H.out

set_option maxHeartbeats 400000 in
theorem u8_any (b g : Nat) (s : PS) (v : Int) (w : World) (h : Pk w b g s) (hv0 : 0 ≤ v) (hv1 : v ≤ 255) :
    Calls Try.prog 55 #[.pointer (some ⟨b, 0, none⟩), .int .u8 v] w (Puts w b g s (leBytes 1 v)) := by
  have hn := number_any b g s 1 v w h (by omega) (by omega) hv0 (by omega)
  clear h
  go_enter Try.func55, Try.ntmps55
  go_wp2_with (go_at_call 71; refine hn.mono ?_; rintro e w' ⟨rfl, hp, hc⟩)
  go_end0
  exact ⟨rfl, hp, hc⟩

set_option maxHeartbeats 400000 in
theorem u32_any (b g : Nat) (s : PS) (v : Int) (w : World) (h : Pk w b g s) (hv0 : 0 ≤ v) (hv1 : v ≤ 4294967295) :
    Calls Try.prog 64 #[.pointer (some ⟨b, 0, none⟩), .int .u32 v] w (Puts w b g s (leBytes 4 v)) := by
  have hn := number_any b g s 4 v w h (by omega) (by omega) hv0 (by omega)
  clear h
  go_enter Try.func64, Try.ntmps64
  go_wp2_with (go_at_call 71; refine hn.mono ?_; rintro e w' ⟨rfl, hp, hc⟩)
  go_end0
  exact ⟨rfl, hp, hc⟩

set_option maxHeartbeats 400000 in
theorem u64_any (b g : Nat) (s : PS) (v : Int) (w : World) (h : Pk w b g s) (hv0 : 0 ≤ v) (hv1 : v ≤ 18446744073709551615) :
    Calls Try.prog 52 #[.pointer (some ⟨b, 0, none⟩), .int .u64 v] w (Puts w b g s (leBytes 8 v)) := by
  have hn := number_any b g s 8 v w h (by omega) (by omega) hv0 (by omega)
  clear h
  go_enter Try.func52, Try.ntmps52
  go_wp2_with (go_at_call 71; refine hn.mono ?_; rintro e w' ⟨rfl, hp, hc⟩)
  go_end0
  exact ⟨rfl, hp, hc⟩

end Go.Proofs.Ytffpjefecmkfmaa

/-
  Two bytes, put. By an AI agent.
-/
namespace Go.Proofs.Ytffpjefecmkfmaa
open Go.RowKit

set_option maxHeartbeats 400000 in
theorem u16_any (b g : Nat) (s : PS) (v : Int) (w : World) (h : Pk w b g s) (hv0 : 0 ≤ v) (hv1 : v ≤ 65535) :
    Calls Try.prog 59 #[.pointer (some ⟨b, 0, none⟩), .int .u16 v] w (Puts w b g s (leBytes 2 v)) := by
  have hn := number_any b g s 2 v w h (by omega) (by omega) hv0 (by omega)
  clear h
  go_enter Try.func59, Try.ntmps59
  go_wp2_with (go_at_call 71; refine hn.mono ?_; rintro e w' ⟨rfl, hp, hc⟩)
  go_end0
  exact ⟨rfl, hp, hc⟩


end Go.Proofs.Ytffpjefecmkfmaa
