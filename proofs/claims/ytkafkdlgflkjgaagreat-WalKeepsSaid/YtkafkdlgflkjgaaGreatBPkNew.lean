
/-
  A packer's beginning, its bytes, and what is put by the slice. By an AI agent.
-/
import Derived.Test.YtkafkdlgflkjgaaGreatBLeRoom
import Derived.Test.YtkafkdlgflkjgaaGreatBClone
namespace Go.Proofs.YtkafkdlgflkjgaaGreat
open Go.RowKit

/-- A new packer, in memory of its own. -/
def Newed (w : World) (n : Nat) (e : Ending) (w' : World) : Prop := ∃ b g, e = .returned (.tuple #[.pointer (some ⟨b, 0, none⟩), .int .u16 0]) ∧ Pk w' b g ⟨List.replicate n 0, 0, 0⟩ ∧ Chg [] w w' ∧ w.heap.size ≤ b ∧ w.heap.size ≤ g ∧ b < w'.heap.size ∧ g < w'.heap.size

set_option maxHeartbeats 400000 in
set_option maxRecDepth 100000 in
theorem new_ok (n : Nat) (w : World) (hn : n ≤ 4096) :
 Calls Tryz.prog 182 #[.int .i64 n] w (Newed w n) := by
 obtain ⟨i0, hi, hz0, hz1, hz2⟩ := info_parts info_u8
 go_enter Tryz.func182, Tryz.ntmps182
 go_wp2_with (at_make; refine wpList_make_full _ rfl _ _ 65 rfl w.heap.size 5 i0 (.int .u8 0) 1 Tryz.underlying65 hi hz0 hz1 .i64 .i64 _ _ n rfl rfl rfl rfl (by rw [hz2]; omega) (by unfold maxLen; omega) (Nat.le_refl _) ?_; intro w1 hown hgrow)
 go_ret2
 obtain ⟨hb, hg⟩ := Blk.owned hown
 rw [made_replicate _ _ rfl] at hb
 refine ⟨w1.heap.size, w.heap.size, rfl, ⟨?_, ?_, ?_, Nat.zero_le _, ?_, By.replicate _ (by decide) (by decide), .inl rfl⟩, ((Chg.refl _ w).grown hgrow (by intro k hk; cases hk)).alloc _, hgrow.size, Nat.le_refl _, by simp, by have := hgrow.size; simp; omega⟩
 ·have := Blk.made w1 [.slice (some ⟨w.heap.size, 0, none⟩) n n, .int .i64 0, .int .u16 0] 325
  simpa using this
 ·have := hb.alloc (.cells #[.slice (some ⟨w.heap.size, 0, none⟩) n n, .int .i64 0, .int .u16 0] 325)
  simpa using this
 ·have := hb.lt
  intro e
  omega
 ·simpa using hn

/-- What Bytes tells. -/
def Tells (w : World) (s : PS) (e : Ending) (w' : World) : Prop :=
 (s.bad ≠ 0 ∧ e = .returned (.tuple #[.slice none 0 0, .int .u16 s.bad]) ∧ Chg [] w w') ∨
 (s.bad = 0 ∧ ∃ v, e = .returned (.tuple #[v, .int .u16 0]) ∧ w'.ownsRow w.heap.size 5 1 v s.bs.length (s.bs.map (Value.int .u8)) ∧ Chg [] w w')

theorem Pk.sl {w : World} {b g : Nat} {s : PS} (h : Pk w b g s) : Sl w (.slice (some ⟨g, 0, none⟩) s.bs.length s.bs.length) s.bs :=
 .inr ⟨g, 0, _, rfl, h.pg.lt, fun j hj => h.pg.cell (by simp [List.getD, List.getElem?_eq_getElem hj])⟩

set_option maxHeartbeats 400000 in
theorem bytes_any (b g : Nat) (s : PS) (w : World) (h : Pk w b g s) :
 Calls Tryz.prog 188 #[.pointer (some ⟨b, 0, none⟩)] w (Tells w s) := by
 have h0 := h.c0
 have h2 := h.c2
 have hcl := clone_any _ _ w h.sl (by have := h.top; omega)
 clear h
 by_cases hb : s.bad = 0
 ·rw [hb] at h2
  have HB := Lib.hid hb
  clear hb
  go_enter Tryz.func188, Tryz.ntmps188
  go_wp2_with (go_at_call 215; refine hcl.mono ?_; rintro e w' ⟨v, rfl, hv, hc⟩)
  go_ret2
  exact .inr ⟨HB.out, v, rfl, hv, hc⟩
 ·have hbb : (s.bad != 0) = true := by simpa using hb
  have HB := Lib.hid hb
  clear hb hcl
  go_enter Tryz.func188, Tryz.ntmps188
  go_wp2_with fail
  go_quiet (fail)
  go_wp2_with fail
  go_ret2
  exact .inl ⟨HB.out, rfl, (Chg.refl _ _).drewN _⟩

end Go.Proofs.YtkafkdlgflkjgaaGreat
namespace Go.Proofs.YtkafkdlgflkjgaaGreat
open Go.RowKit

theorem size_u8 : (Tryz.prog.info? 5).map (·.size) = some 1 := by kernel_rfl

theorem replicate_snoc (k : Nat) (v : Int) : List.replicate (k + 1) v = List.replicate k v ++ [v] := by
 exact List.replicate_succ'

set_option maxHeartbeats 400000 in
theorem fill_fit (b g : Nat) (s : PS) (n : Nat) (v : Int) (w : World) (h : Pk w b g s) (h0 : s.bad = 0) (hn : 0 < n) (hr : s.pos + n ≤ s.bs.length) (hv0 : 0 ≤ v) (hv1 : v ≤ 255) :
 Calls Tryz.prog 185 #[.pointer (some ⟨b, 0, none⟩), .int .i64 n, .int .u8 v] w (Puts w b g s (List.replicate n v)) := by
 obtain ⟨bs, at_, bad⟩ := s
 obtain rfl : bad = 0 := h0
 simp only at hr
 have hroom := room_ok b g at_ bs.length n w h.top hr h.c0 h.c1 h.c2 (h.pb.free 1)
 rw [if_neg (by omega)] at hroom
 have hbn : bs.length ≤ 4096 := h.top
 have H := Lib.hid h
 clear h
 go_enter Tryz.func185, Tryz.ntmps185
 go_wp2_with (go_at_call 242; refine hroom.mono ?_; rintro e w' ⟨rfl, q, rfl⟩)
 have b0 : Blk ((w.setCell ⟨b, 1, none⟩ (.int .i64 ((at_ : Int) + n))).drewN q) b 325 [.slice (some ⟨g, 0, none⟩) bs.length bs.length, .int .i64 ((at_ : Int) + n), .int .u16 0] := (H.out.pb.set 1 _).drewN q
 have b1 : Blk ((w.setCell ⟨b, 1, none⟩ (.int .i64 ((at_ : Int) + n))).drewN q) g 5 (bs.map (Value.int .u8)) := (H.out.pg.other H.out.ne _).drewN q
 have b2 : Chg [b, g] w ((w.setCell ⟨b, 1, none⟩ (.int .i64 ((at_ : Int) + n))).drewN q) := ((Chg.refl _ _).setCell (.inl (by simp)) _).drewN q
 go_loopw [13] (fun i wr => ∃ k : Nat, k ≤ n ∧ i = .int .i64 k ∧ Blk wr b 325 [.slice (some ⟨g, 0, none⟩) bs.length bs.length, .int .i64 ((at_ : Int) + n), .int .u16 0] ∧ Blk wr g 5 ((lay bs at_ (List.replicate k v)).map (Value.int .u8)) ∧ Chg [b, g] w wr)
  (fun i _ => n - (intOf i).toNat)
 case atStart => exact ⟨0, Nat.zero_le _, rfl, b0, by simpa [lay_nil] using b1, b2⟩
 case round =>
  obtain ⟨k, hk, rfl, hb, hg, hc⟩ := hrel
  clear b0 b1 b2
  have L1 := hg.free (at_ + k)
  have hl : (lay bs at_ (List.replicate k v)).length = bs.length := lay_length (by rw [List.length_replicate]; omega)
  have L2 : k < n → ∃ u, wr.cell? ⟨g, at_ + k, none⟩ = some u := fun hlt => ⟨_, hg.cell (List.getElem?_eq_getElem (by simp only [List.length_map, hl]; omega))⟩
  have HB := Lib.hid hb
  have HG := Lib.hid hg
  have HC := Lib.hid hc
  clear hb hg hc hl
  by_cases hlt : k < n
  ·obtain ⟨u, hu⟩ := L2 hlt
   go_wp2
   refine ⟨⟨k + 1, by omega, by go_num, HB.out.other H.out.ne.symm _, ?_, HC.out.setCell (.inl (by simp)) _⟩, by simp [intOf]; omega⟩
   have := HG.out.set (at_ + k) (.int .u8 v)
   have e := lay_snoc (bs := bs) (at_ := at_) (xs := List.replicate k v) (x := v) (by rw [List.length_replicate]; omega)
   rw [List.length_replicate] at e
   rw [replicate_snoc, ← e, List.map_set]
   exact this
  ·obtain rfl : k = n := by omega
   go_wp2
   go_end0
   exact puts_fit H.out rfl (by rw [List.length_replicate]; exact hr) (By.replicate _ hv0 hv1) (by rw [List.length_replicate]; exact HB.out) HG.out HC.out

/-- Nothing is put. -/
theorem puts_none {w : World} {b g : Nat} {s : PS} (q : Nat) (h : Pk w b g s) (h0 : s.bad = 0) : Puts w b g s [] (.returned (.tuple #[])) ((w.setCell ⟨b, 1, none⟩ (.int .i64 (s.pos : Int))).drewN q) := by
 refine puts_fit h h0 (by simpa using h.le) By.nil ?_ (by rw [lay_nil]; exact (h.pg.other h.ne _).drewN q) (((Chg.refl _ _).setCell (.inl (by simp)) _).drewN q)
 have := (h.pb.set 1 (.int .i64 (s.pos : Int))).drewN q
 rw [h0] at this
 simpa using this

set_option maxHeartbeats 400000 in
theorem fill_any (b g : Nat) (s : PS) (n v : Int) (w : World) (h : Pk w b g s) (hn1 : n ≤ 9223372036854775807) (hv0 : 0 ≤ v) (hv1 : v ≤ 255) :
 Calls Tryz.prog 185 #[.pointer (some ⟨b, 0, none⟩), .int .i64 n, .int .u8 v] w (Puts w b g s (List.replicate n.toNat v)) := by
 by_cases h0 : s.bad = 0
 ·by_cases hneg : n < 0
  ·rw [show n.toNat = 0 by omega]
   obtain ⟨dp, hdp⟩ : ∃ dp, (if s.bs.length = s.pos then some ⟨g, 0, none⟩ else some ⟨g, s.pos, none⟩ : Option Addr) = dp := ⟨_, rfl⟩
   have hroom := room_none b g s.pos s.bs.length n w h.top h.le hneg h.c0 h.c1 (by rw [h.c2, h0]) (h.pb.free 1)
   rw [hdp] at hroom
   have H := Lib.hid (fun q => puts_none q h h0)
   clear h h0 hdp
   go_enter Tryz.func185, Tryz.ntmps185
   go_wp2_with (go_at_call 242; refine hroom.mono ?_; rintro e w' ⟨rfl, q, rfl⟩)
   refine wp_loop_rounds 1 ?_
   rw [rounds_succ]
   go_wp2
   go_end0
   exact H.out q
  ·obtain ⟨m, rfl⟩ := Int.eq_ofNat_of_zero_le (show 0 ≤ n by omega)
   rw [Int.toNat_natCast]
   by_cases hr : s.pos + m ≤ s.bs.length
   ·by_cases hm : 0 < m
    ·exact fill_fit b g s m v w h h0 hm hr hv0 hv1
    ·obtain rfl : m = 0 := by omega
     obtain ⟨dp, hdp⟩ : ∃ dp, (if s.bs.length = s.pos then some ⟨g, 0, none⟩ else some ⟨g, s.pos, none⟩ : Option Addr) = dp := ⟨_, rfl⟩
     have hroom := room_ok b g s.pos s.bs.length 0 w h.top hr h.c0 h.c1 (by rw [h.c2, h0]) (h.pb.free 1)
     rw [hdp] at hroom
     have H := Lib.hid (fun q => puts_none q h h0)
     clear h h0 hdp
     go_enter Tryz.func185, Tryz.ntmps185
     go_wp2_with (go_at_call 242; refine hroom.mono ?_; rintro e w' ⟨rfl, q, rfl⟩)
     refine wp_loop_rounds 1 ?_
     rw [rounds_succ]
     go_wp2
     go_end0
     exact (by simpa using H.out q)
   ·have hroom := room_full b g s.pos s.bs.length m w h.top h.le (by omega) hn1 h.c0 h.c1 (by rw [h.c2, h0]) (h.pb.free 2)
    have H := Lib.hid (fun q => puts_full (xs := List.replicate m v) q h h0 (by rw [List.length_replicate]; exact hr))
    clear h h0 hr
    go_enter Tryz.func185, Tryz.ntmps185
    go_wp2_with (go_at_call 242; refine hroom.mono ?_; rintro e w' ⟨rfl, q, rfl⟩)
    refine wp_loop_rounds 1 ?_
    rw [rounds_succ]
    go_wp2
    go_end0
    exact H.out q
 ·have hroom := room_bad b s.bad n w (by simpa using h0) h.c2
  have H := Lib.hid (puts_bad (xs := List.replicate n.toNat v) h h0)
  clear h h0
  go_enter Tryz.func185, Tryz.ntmps185
  go_wp2_with (go_at_call 242; refine hroom.mono ?_; rintro e w' ⟨rfl, rfl⟩)
  refine wp_loop_rounds 1 ?_
  rw [rounds_succ]
  go_wp2
  go_end0
  exact H.out
end Go.Proofs.YtkafkdlgflkjgaaGreat
namespace Go.Proofs.YtkafkdlgflkjgaaGreat
open Go.RowKit

set_option maxHeartbeats 400000 in
set_option maxRecDepth 100000 in
theorem raw_any (b g : Nat) (s : PS) (v : Value) (xs : List Int) (w : World) (h : Pk w b g s) (hv : Sl w v xs) (hne : ∀ k, 0 < xs.length → v.ownBlock = some k → k ≠ b) (hx : By xs) (hbig : xs.length ≤ 140737488355328) :
 Calls Tryz.prog 183 #[.pointer (some ⟨b, 0, none⟩), v] w (Puts w b g s xs) := by
 obtain ⟨ao, c, rfl⟩ := hv.slice
 have HV := Lib.hid hv
 have HN := Lib.hid hne
 have HX := Lib.hid hx
 have HS := Lib.hid h
 clear hv hne hx
 by_cases h0 : s.bad = 0
 ·by_cases hr : s.pos + xs.length ≤ s.bs.length
  ·have hroom := room_ok b g s.pos s.bs.length xs.length w h.top hr h.c0 h.c1 (by rw [h.c2, h0]) (h.pb.free 1)
   obtain ⟨dp, hdp⟩ : ∃ dp, (if s.bs.length = s.pos then some ⟨g, 0, none⟩ else some ⟨g, s.pos, none⟩ : Option Addr) = dp := ⟨_, rfl⟩
   rw [hdp] at hroom
   have HD : Hid (0 < xs.length → dp = some ⟨g, s.pos, none⟩) := fun hp => by rw [← hdp, if_neg (by omega)]
   have H0 := Lib.hid h0
   have HR := Lib.hid hr
   clear h h0 hr hdp
   go_enter Tryz.func183, Tryz.ntmps183
   go_wp2_with (first
    | (go_at_call 242; refine hroom.mono ?_; rintro e w' ⟨rfl, q, rfl⟩)
    | (with_reducible refine wpList_copy_blk rfl (.tmp 7) (.tmp 8) 65 65 rfl 5 Tryz.underlying65 size_u8 dp ao xs.length (s.bs.length - s.pos) xs.length c rfl rfl g s.pos (s.bs.map (Value.int .u8)) 5 ?k1 (xs.map (Value.int .u8)) ?k2 ?k3 ?k4 ?k5 ?_))
   case k1 => exact (HS.out.pg.other HS.out.ne _).drewN q
   case k2 => simp
   case k3 =>
    intro hp
    have hp' : 0 < xs.length := by simpa using hp
    refine ⟨HD.out hp', ?_⟩
    rcases HV.out with ⟨rfl, _⟩ | ⟨b', o', c', hv', hb', hc'⟩
    ·simp at hp'
    ·obtain ⟨rfl, rfl⟩ : ao = some ⟨b', o', none⟩ ∧ c = c' := by simpa using hv'
     refine ⟨_, rfl, fun j u hj => ?_⟩
     have hjn : j < xs.length := by simpa using (List.getElem?_eq_some_iff.1 hj).1
     have e : (xs.map (Value.int .u8))[j]? = some (Value.int .u8 (xs.getD j 0)) := by simp [List.getD, List.getElem?_eq_getElem hjn]
     rw [Addr.add_lit, World.cell?_drewN, ← hj, e, ← hc' j hjn]
     exact ((Chg.refl [b] w).setCell (.inl (by simp)) _).cell (p := ⟨b', o' + j, none⟩) hb' (by simpa using HN.out b' hp' rfl)
   case k4 => simpa using HR.out
   case k5 => intro u hu; obtain ⟨x, _, rfl⟩ := List.mem_map.1 hu; rfl
   intro w2 hg hc
   go_wp2
   go_end0
   refine puts_fit HS.out H0.out HR.out HX.out ?_ (by rw [map_lay]; exact hg.out) ?_
   ·have := (HS.out.pb.set 1 (.int .i64 ((s.pos : Int) + xs.length))).drewN q
    rw [H0.out] at this
    exact this.chg hc.out (by simpa using HS.out.ne)
   ·exact (((Chg.refl [b, g] w).setCell (.inl (by simp)) _).drewN q).trans (hc.out.mono (by simp))
  ·have hroom := room_full b g s.pos s.bs.length xs.length w h.top h.le (by omega) (by omega) h.c0 h.c1 (by rw [h.c2, h0]) (h.pb.free 2)
   have H := Lib.hid (fun q => puts_full (xs := xs) q h h0 hr)
   clear h h0 hr
   go_enter Tryz.func183, Tryz.ntmps183
   go_wp2_with (first
    | (go_at_call 242; refine hroom.mono ?_; rintro e w' ⟨rfl, q, rfl⟩)
    | (with_reducible refine wpList_copy_nothing rfl (.tmp 7) (.tmp 8) 65 65 rfl 5 Tryz.underlying65 size_u8 none ao 0 0 xs.length c rfl rfl (by simp) ?_))
   go_end0
   exact H.out q
 ·have hroom := room_bad b s.bad xs.length w (by simpa using h0) h.c2
  have H := Lib.hid (puts_bad (xs := xs) h h0)
  clear h h0
  go_enter Tryz.func183, Tryz.ntmps183
  go_wp2_with (first
   | (go_at_call 242; refine hroom.mono ?_; rintro e w' ⟨rfl, rfl⟩)
   | (with_reducible refine wpList_copy_nothing rfl (.tmp 7) (.tmp 8) 65 65 rfl 5 Tryz.underlying65 size_u8 none ao 0 0 xs.length c rfl rfl (by simp) ?_))
  go_end0
  exact H.out

set_option maxHeartbeats 400000 in
theorem atP_any (b g : Nat) (s : PS) (w : World) (h : Pk w b g s) :
 Calls Tryz.prog 187 #[.pointer (some ⟨b, 0, none⟩)] w fun e w' => e = .returned (.int .i64 s.pos) ∧ w = w' := by
 have h1 := h.c1
 clear h
 go_enter Tryz.func187, Tryz.ntmps187
 go_wp2
 go_ret
 exact ⟨rfl, rfl⟩

end Go.Proofs.YtkafkdlgflkjgaaGreat
