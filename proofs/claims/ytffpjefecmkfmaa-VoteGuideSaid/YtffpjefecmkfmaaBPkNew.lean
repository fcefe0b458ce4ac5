
/-
  A packer's beginning, its bytes, and what is put by the slice. By an AI agent.
-/
import Derived.Test.YtffpjefecmkfmaaBPkPut
import Derived.Test.YtffpjefecmkfmaaBClone
namespace Go.Proofs.Ytffpjefecmkfmaa
open Go.RowKit

/-- A new packer, in memory of its own. -/
def Newed (w : World) (n : Nat) (e : Ending) (w' : World) : Prop := ∃ b g, e = .returned (.tuple #[.pointer (some ⟨b, 0, none⟩), .int .u16 0]) ∧ Pk w' b g ⟨List.replicate n 0, 0, 0⟩ ∧ Chg [] w w' ∧ w.heap.size ≤ b ∧ w.heap.size ≤ g ∧ b < w'.heap.size ∧ g < w'.heap.size

set_option maxHeartbeats 400000 in
set_option maxRecDepth 100000 in
theorem new_ok (n : Nat) (w : World) (hn : n ≤ 4096) :
    Calls Try.prog 45 #[.int .i64 n] w (Newed w n) := by
  obtain ⟨i0, hi, hz0, hz1, hz2⟩ := info_parts info_u8
  go_enter Try.func45, Try.ntmps45
  go_wp2_with (at_make; refine wpList_make_full _ rfl _ _ 65 rfl w.heap.size 5 i0 (.int .u8 0) 1 Try.underlying65 hi hz0 hz1 .i64 .i64 _ _ n rfl rfl rfl rfl (by rw [hz2]; omega) (by unfold maxLen; omega) (Nat.le_refl _) ?_; intro w1 hown hgrow)
  go_ret2
  obtain ⟨hb, hg⟩ := Blk.owned hown
  rw [made_replicate _ _ rfl] at hb
  refine ⟨w1.heap.size, w.heap.size, rfl, ⟨?_, ?_, ?_, Nat.zero_le _, ?_, By.replicate _ (by decide) (by decide), .inl rfl⟩, ((Chg.refl _ w).grown hgrow (by intro k hk; cases hk)).alloc _, hgrow.size, Nat.le_refl _, by simp, by have := hgrow.size; simp; omega⟩
  · have := Blk.made w1 [.slice (some ⟨w.heap.size, 0, none⟩) n n, .int .i64 0, .int .u16 0] 93
    simpa using this
  · have := hb.alloc (.cells #[.slice (some ⟨w.heap.size, 0, none⟩) n n, .int .i64 0, .int .u16 0] 93)
    simpa using this
  · have := hb.lt
    intro e
    omega
  · simpa using hn

/-- What Bytes tells. -/
def Tells (w : World) (s : PS) (e : Ending) (w' : World) : Prop :=
  (s.bad ≠ 0 ∧ e = .returned (.tuple #[.slice none 0 0, .int .u16 s.bad]) ∧ Chg [] w w') ∨
  (s.bad = 0 ∧ ∃ v, e = .returned (.tuple #[v, .int .u16 0]) ∧ w'.ownsRow w.heap.size 5 1 v s.bs.length (s.bs.map (Value.int .u8)) ∧ Chg [] w w')

theorem Pk.sl {w : World} {b g : Nat} {s : PS} (h : Pk w b g s) : Sl w (.slice (some ⟨g, 0, none⟩) s.bs.length s.bs.length) s.bs :=
  .inr ⟨g, 0, _, rfl, h.pg.lt, fun j hj => h.pg.cell (by simp [List.getD, List.getElem?_eq_getElem hj])⟩

set_option maxHeartbeats 400000 in
theorem bytes_any (b g : Nat) (s : PS) (w : World) (h : Pk w b g s) :
    Calls Try.prog 47 #[.pointer (some ⟨b, 0, none⟩)] w (Tells w s) := by
  have h0 := h.c0
  have h2 := h.c2
  have hcl := clone_any _ _ w h.sl (by have := h.top; omega)
  clear h
  by_cases hb : s.bad = 0
  · rw [hb] at h2
    have HB := Lib.hid hb
    clear hb
    go_enter Try.func47, Try.ntmps47
    go_wp2_with (go_at_call 66; refine hcl.mono ?_; rintro e w' ⟨v, rfl, hv, hc⟩)
    go_ret2
    exact .inr ⟨HB.out, v, rfl, hv, hc⟩
  · have hbb : (s.bad != 0) = true := by simpa using hb
    have HB := Lib.hid hb
    clear hb hcl
    go_enter Try.func47, Try.ntmps47
    go_wp2_with fail
    go_quiet (fail)
    go_wp2_with fail
    go_ret2
    exact .inl ⟨HB.out, rfl, (Chg.refl _ _).drewN _⟩

end Go.Proofs.Ytffpjefecmkfmaa
namespace Go.Proofs.Ytffpjefecmkfmaa
open Go.RowKit

theorem size_u8 : (Try.prog.info? 5).map (·.size) = some 1 := by kernel_rfl

theorem replicate_snoc (k : Nat) (v : Int) : List.replicate (k + 1) v = List.replicate k v ++ [v] := by
  exact List.replicate_succ'

set_option maxHeartbeats 400000 in
theorem fill_fit (b g : Nat) (s : PS) (n : Nat) (v : Int) (w : World) (h : Pk w b g s) (h0 : s.bad = 0) (hn : 0 < n) (hr : s.pos + n ≤ s.bs.length) (hv0 : 0 ≤ v) (hv1 : v ≤ 255) :
    Calls Try.prog 80 #[.pointer (some ⟨b, 0, none⟩), .int .i64 n, .int .u8 v] w (Puts w b g s (List.replicate n v)) := by
  obtain ⟨bs, at_, bad⟩ := s
  obtain rfl : bad = 0 := h0
  simp only at hr
  have hroom := room_ok b g at_ bs.length n w h.top hr h.c0 h.c1 h.c2 (h.pb.free 1)
  rw [if_neg (by omega)] at hroom
  have hbn : bs.length ≤ 4096 := h.top
  have H := Lib.hid h
  clear h
  go_enter Try.func80, Try.ntmps80
  go_wp2_with (go_at_call 86; refine hroom.mono ?_; rintro e w' ⟨rfl, q, rfl⟩)
  have b0 : Blk ((w.setCell ⟨b, 1, none⟩ (.int .i64 ((at_ : Int) + n))).drewN q) b 93 [.slice (some ⟨g, 0, none⟩) bs.length bs.length, .int .i64 ((at_ : Int) + n), .int .u16 0] := (H.out.pb.set 1 _).drewN q
  have b1 : Blk ((w.setCell ⟨b, 1, none⟩ (.int .i64 ((at_ : Int) + n))).drewN q) g 5 (bs.map (Value.int .u8)) := (H.out.pg.other H.out.ne _).drewN q
  have b2 : Chg [b, g] w ((w.setCell ⟨b, 1, none⟩ (.int .i64 ((at_ : Int) + n))).drewN q) := ((Chg.refl _ _).setCell (.inl (by simp)) _).drewN q
  go_loopw [13] (fun i wr => ∃ k : Nat, k ≤ n ∧ i = .int .i64 k ∧ Blk wr b 93 [.slice (some ⟨g, 0, none⟩) bs.length bs.length, .int .i64 ((at_ : Int) + n), .int .u16 0] ∧ Blk wr g 5 ((lay bs at_ (List.replicate k v)).map (Value.int .u8)) ∧ Chg [b, g] w wr)
    (fun i _ => n - (intOf i).toNat)
  case atStart => exact ⟨0, Nat.zero_le _, rfl, b0, by simpa [lay_nil] using b1, b2⟩
  case round =>
    obtain ⟨k, hk, rfl, hb, hg, hc⟩ := hrel
    clear b0 b1 b2
    have L1 := hg.free (at_ + k)
    have hl : (lay bs at_ (List.replicate k v)).length = bs.length := lay_length (by rw [List.length_replicate]; omega)
    have L2 : k < n → ∃ u, wr.cell? ⟨g, at_ + k, none⟩ = some u := fun hlt => ⟨_, hg.cell (List.getElem?_eq_getElem (by simp only [List.length_map, hl]; omega))⟩
    have HB := Lib.hid hb
    have HG := Lib.hid hg
    have HC := Lib.hid hc
    clear hb hg hc hl
    by_cases hlt : k < n
    · obtain ⟨u, hu⟩ := L2 hlt
      go_wp2
      refine ⟨⟨k + 1, by omega, by go_num, HB.out.other H.out.ne.symm _, ?_, HC.out.setCell (.inl (by simp)) _⟩, by simp [intOf]; omega⟩
      have := HG.out.set (at_ + k) (.int .u8 v)
      have e := lay_snoc (bs := bs) (at_ := at_) (xs := List.replicate k v) (x := v) (by rw [List.length_replicate]; omega)
      rw [List.length_replicate] at e
      rw [replicate_snoc, ← e, List.map_set]
      exact this
    · obtain rfl : k = n := by omega
      go_wp2
      go_end0
      exact puts_fit H.out rfl (by rw [List.length_replicate]; exact hr) (By.replicate _ hv0 hv1) (by rw [List.length_replicate]; exact HB.out) HG.out HC.out

/-- Nothing is put. -/
theorem puts_none {w : World} {b g : Nat} {s : PS} (q : Nat) (h : Pk w b g s) (h0 : s.bad = 0) : Puts w b g s [] (.returned (.tuple #[])) ((w.setCell ⟨b, 1, none⟩ (.int .i64 (s.pos : Int))).drewN q) := by
  refine puts_fit h h0 (by simpa using h.le) By.nil ?_ (by rw [lay_nil]; exact (h.pg.other h.ne _).drewN q) (((Chg.refl _ _).setCell (.inl (by simp)) _).drewN q)
  have := (h.pb.set 1 (.int .i64 (s.pos : Int))).drewN q
  rw [h0] at this
  simpa using this

set_option maxHeartbeats 400000 in
theorem fill_any (b g : Nat) (s : PS) (n v : Int) (w : World) (h : Pk w b g s) (hn1 : n ≤ 9223372036854775807) (hv0 : 0 ≤ v) (hv1 : v ≤ 255) :
    Calls Try.prog 80 #[.pointer (some ⟨b, 0, none⟩), .int .i64 n, .int .u8 v] w (Puts w b g s (List.replicate n.toNat v)) := by
  by_cases h0 : s.bad = 0
  · by_cases hneg : n < 0
    · rw [show n.toNat = 0 by omega]
      obtain ⟨dp, hdp⟩ : ∃ dp, (if s.bs.length = s.pos then some ⟨g, 0, none⟩ else some ⟨g, s.pos, none⟩ : Option Addr) = dp := ⟨_, rfl⟩
      have hroom := room_none b g s.pos s.bs.length n w h.top h.le hneg h.c0 h.c1 (by rw [h.c2, h0]) (h.pb.free 1)
      rw [hdp] at hroom
      have H := Lib.hid (fun q => puts_none q h h0)
      clear h h0 hdp
      go_enter Try.func80, Try.ntmps80
      go_wp2_with (go_at_call 86; refine hroom.mono ?_; rintro e w' ⟨rfl, q, rfl⟩)
      refine wp_loop_rounds 1 ?_
      rw [rounds_succ]
      go_wp2
      go_end0
      exact H.out q
    · obtain ⟨m, rfl⟩ := Int.eq_ofNat_of_zero_le (show 0 ≤ n by omega)
      rw [Int.toNat_natCast]
      by_cases hr : s.pos + m ≤ s.bs.length
      · by_cases hm : 0 < m
        · exact fill_fit b g s m v w h h0 hm hr hv0 hv1
        · obtain rfl : m = 0 := by omega
          obtain ⟨dp, hdp⟩ : ∃ dp, (if s.bs.length = s.pos then some ⟨g, 0, none⟩ else some ⟨g, s.pos, none⟩ : Option Addr) = dp := ⟨_, rfl⟩
          have hroom := room_ok b g s.pos s.bs.length 0 w h.top hr h.c0 h.c1 (by rw [h.c2, h0]) (h.pb.free 1)
          rw [hdp] at hroom
          have H := Lib.hid (fun q => puts_none q h h0)
          clear h h0 hdp
          go_enter Try.func80, Try.ntmps80
          go_wp2_with (go_at_call 86; refine hroom.mono ?_; rintro e w' ⟨rfl, q, rfl⟩)
          refine wp_loop_rounds 1 ?_
          rw [rounds_succ]
          go_wp2
          go_end0
          exact (by simpa using H.out q)
      · have hroom := room_full b g s.pos s.bs.length m w h.top h.le (by omega) hn1 h.c0 h.c1 (by rw [h.c2, h0]) (h.pb.free 2)
        have H := Lib.hid (fun q => puts_full (xs := List.replicate m v) q h h0 (by rw [List.length_replicate]; exact hr))
        clear h h0 hr
        go_enter Try.func80, Try.ntmps80
        go_wp2_with (go_at_call 86; refine hroom.mono ?_; rintro e w' ⟨rfl, q, rfl⟩)
        refine wp_loop_rounds 1 ?_
        rw [rounds_succ]
        go_wp2
        go_end0
        exact H.out q
  · have hroom := room_bad b s.bad n w (by simpa using h0) h.c2
    have H := Lib.hid (puts_bad (xs := List.replicate n.toNat v) h h0)
    clear h h0
    go_enter Try.func80, Try.ntmps80
    go_wp2_with (go_at_call 86; refine hroom.mono ?_; rintro e w' ⟨rfl, rfl⟩)
    refine wp_loop_rounds 1 ?_
    rw [rounds_succ]
    go_wp2
    go_end0
    exact H.out
end Go.Proofs.Ytffpjefecmkfmaa
namespace Go.Proofs.Ytffpjefecmkfmaa
open Go.RowKit

end Go.Proofs.Ytffpjefecmkfmaa
