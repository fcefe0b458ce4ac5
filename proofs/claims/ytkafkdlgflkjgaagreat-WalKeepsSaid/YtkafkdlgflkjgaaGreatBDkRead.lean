/-
  The program's disk: Read. By an AI agent.
-/
import Derived.Test.YtkafkdlgflkjgaaGreatBDkRep
import Derived.Test.YtkafkdlgflkjgaaGreatBGOwnMem
namespace Go.Proofs.YtkafkdlgflkjgaaGreat
open Go.RowKit Go.Maps

/-- Bytes in memory of their own (a block of whatever type), and an error. -/
def GivesE (w : World) (xs : List Nat) (err : Nat) (e : Ending) (w' : World) : Prop :=
 ∃ t u, e = .returned (.tuple #[u, .int .u16 (err : Int)]) ∧ Hid (w'.ownsRow w.heap.size t 1 u xs.length ((ints xs).map (Value.int .u8))) ∧ Hid (Chg [] w w')

theorem Dk.read_off {d : Dk} {a : Int} (h : d.check a ≠ 0) : d.readVal a = [] := by unfold Dk.readVal; rw [if_neg h]

theorem Dk.check_ok {d : Dk} {a : Int} (h : d.check a = 0) : d.bad = false ∧ d.has a := by
 cases hb : d.bad with
 | true => rw [Dk.check_bad2 hb] at h; cases h
 | false =>
   by_cases hh : d.has a
   ·exact ⟨rfl, hh⟩
   ·rw [Dk.check_out3 hb hh] at h; cases h

theorem blk_owns {w : World} {base g : Nat} {e : TypeId} {vs : List Value} (h : Blk w g e vs) (hb : base ≤ g) (hm : vs.length ≤ maxLen) : w.ownsRow base e 1 (.slice (some ⟨g, 0, none⟩) vs.length vs.length) vs.length vs :=
 ⟨by simp, .inr ⟨g, vs.length, vs.toArray, rfl, hb, h, Nat.le_refl _, hm, by simp, by simp⟩⟩

theorem getD_some {l : List (List Nat)} {k : Nat} (h : k < l.length) : l.getD k [] ∈ l := by
 rw [List.getD_eq_getElem?_getD, List.getElem?_eq_getElem h]
 exact List.getElem_mem h

theorem size_of {b : List Nat} (h : b.length = 128) : (Tryz.prog.info? 244).map (·.size) = some (bytesOf b).length := by
 rw [bytesOf_length, h]
 exact sector_size

theorem noughts_len : (List.replicate 128 (Value.int .u8 0)).length = 128 := by simp

theorem blk_noughts (w : World) (t : TypeId) : Blk (w.alloc (.cells (Value.agg (Array.replicate 128 (Value.int .u8 0))).cells t)) w.heap.size t (List.replicate 128 (Value.int .u8 0)) := Blk.made w (List.replicate 128 (Value.int .u8 0)) t

set_option maxHeartbeats 2000000 in
set_option maxRecDepth 100000 in
theorem dread_any (g : Nat) (F : List Nat) (d : Dk) (at_ : Int) (w : World) (h : (DiskT g d F).P w) (ha : -9223372036854775808 ≤ at_ ∧ at_ ≤ 9223372036854775807) :
 Calls Tryz.prog 228 #[.pointer (some ⟨g, 0, none⟩), .int .i64 at_] w (GivesE w (d.readVal at_) (d.check at_)) := by
 have h' : DiskIn w g F d := h
 have CC := Lib.hid (dcheck_any g F d at_ w h ha)
 by_cases hc : d.check at_ = 0
 ·obtain ⟨hb0, hhas⟩ := Dk.check_ok hc
  obtain ⟨k, rfl⟩ := Int.eq_ofNat_of_zero_le hhas.1
  obtain ⟨gd, mb, cv, r⟩ := h'.rep
  have hk : k < d.last.length := by have := hhas.2; omega
  have e2 := (Dk.read_ok hb0 hk).2
  rw [e2]
  have c0 := r.blk.cell (j := 0) rfl
  have S := Lib.hid (r.sec h'.fit hk)
  have HC := Lib.hid hc
  have hsl := last128 h'.fit _ (getD_some hk)
  have SZ := Lib.hid (size_of hsl)
  have BL : Hid ((bytesOf (d.last.getD k [])).length = 128) := by show _ = _; rw [bytesOf_length, hsl]
  obtain ⟨i0, hi, hz0, hz1, hz2⟩ := info_parts info_sector
  replace hi := Lib.hid hi
  replace hz0 := Lib.hid hz0
  clear hz1 hz2
  have FIT := Lib.hid h'.fit
  have NE := Lib.hid (Dk.now_eq d k)
  have NL := Lib.hid (Dk.now_len h'.fit hk).1
  have hk0 : (0 : Int) ≤ k := Int.natCast_nonneg _
  have hk1 : (k : Int) < d.last.length := by omega
  have KEY : Hid (keyOf Tryz.prog 3 (.int .i64 (k : Int)) = some (.int .i64 (k : Int))) := keyOf_int_mk Tryz.underlying3 (WalkArith.wf_i64 (by have := h'.fit.hi; omega))
  have HG := Lib.hid (h'.lt g r.gF)
  obtain ⟨D, hD, hL⟩ := r.lat
  have HD := Lib.hid hD
  have R := Lib.hid r
  have HLT := Lib.hid h'.lt
  obtain ⟨co, cc, hcv, hcc1, hcc2⟩ := r.bound
  subst hcv
  have zero : ∀ w' : World, (zeroValue 3).run Tryz.prog w' = .ok (.int .i64 0) w' := fun w' => by kernel_rfl
  replace zero := Lib.hid zero
  clear e2
  generalize d.last.getD k [] = bs at *
  have FRM : Hid (∀ w3 : World, Chg [] w w3 → w3.cell? ⟨g, 2, none⟩ = some (.map (some mb)) ∧ w3.cell? ⟨g, 1, none⟩ = some (.slice co d.cache.length cc) ∧ w3.ownsMap Tryz.prog 3 (plainElem Tryz.prog 3) mb d.cache.length D) := fun w3 c => by
   have r3 := r.chg c (fun _ _ => by simp)
   refine ⟨r3.blk.cell (j := 2) rfl, r3.blk.cell (j := 1) rfl, ?_⟩
   obtain ⟨es, clock, hb, q⟩ := hD
   exact ⟨es, clock, by rw [c.block mb (Array.getElem?_eq_some_iff.1 hb).1 (by simp)]; exact hb, q⟩
  have FIN : Hid (∀ (w3 : World), Hid (Blk w3 w.heap.size 244 (bytesOf (d.now k))) → w3.ownsRow w.heap.size 244 1 (.slice (some ⟨w.heap.size, 0, none⟩) 128 128) (d.now k).length ((ints (d.now k)).map (Value.int .u8))) := fun w3 B => by
   have := blk_owns B.out (Nat.le_refl _) (by rw [bytesOf_length, NL.out]; decide)
   rw [bytesOf_length] at this
   rw [NL.out] at this ⊢
   exact this
  have DL : Hid (d.cache.length ≤ 9223372036854775807) := Nat.le_trans hcc1 hcc2
  rcases hL.say k with ⟨h1, h2⟩ | ⟨q, p, h1, h2, h3, h4⟩
  ·-- nothing in the cache
   have H1 := Lib.hid h1
   have NV : Hid (d.now k = bs) := by show _ = _; rw [NE.out]; exact h2 _
   clear h h' hhas hb0 hc r hsl hD hL h1 h2 R FIT HD NE
   go_enter Tryz.func228, Tryz.ntmps228
   go_wp2_with fail
   refine CC.out.mono ?_
   rintro e w2 ⟨rfl, hw⟩
   subst hw
   rw [HC.out]
   clear CC
   go_wp2_with (first
    | (with_reducible refine wpList_load_mid rfl 244 (.tmp 21) rfl gd (k * 128) rfl (bytesOf bs) _ S.out Tryz.underlying244 rfl SZ.out ?_)
    | (with_reducible refine wpList_alloc_arr rfl 244 rfl i0 _ hi.out hz0.out ?_)
    | ((with_reducible refine wpList_store_blk rfl 244 (.tmp 7) (.tmp 22) rfl w2.heap.size 0 244 _ (bytesOf bs) rfl rfl (blk_noughts _ _) (by rw [BL.out, noughts_len]; decide) SZ.out (bytesOf_one _) ?_); intro w3 B3 C3; rw [lay_all (List.replicate 128 (Value.int .u8 0)) (bytesOf bs) (by rw [BL.out, noughts_len])] at B3; have C03 : Hid (Chg [] w2 w3) := ((Chg.refl [] w2).alloc _).fresh C3.out (fun j hj => .inr (by have := List.mem_singleton.1 hj; omega)); clear C3; obtain ⟨d2, d1, hm3⟩ := FRM.out _ C03.out; clear FRM; have HM3 := Lib.hid hm3; clear hm3)
    | (at_lookup; refine wpList_lookup_own_ok_int _ rfl _ _ 240 rfl 3 3 .i64 int_law Tryz.underlying240 Tryz.underlying3 (zero.out _) mb _ D rfl HM3.out _ _ rfl KEY.out ?_; intro c hat hwc; rw [H1.out]; clear hat hwc))
   go_ret2
   rw [NV.out] at FIN ⊢
   rw [HC.out]
   exact ⟨244, _, rfl, FIN.out w3 B3, C03⟩
  ·-- the last write
   have hql : q < d.cache.length := (List.getElem?_eq_some_iff.1 h3).1
   obtain ⟨cb, cc2, hv, RG⟩ := r.at h'.fit h3
   obtain ⟨rfl, rfl⟩ : co = some ⟨cb, 0, none⟩ ∧ cc = cc2 := by simpa using hv
   have hpl := cache128 h'.fit p (List.mem_of_getElem? h3)
   have RT := (rangeAt_tail RG).2
   have NV : Hid (d.now k = p.2) := by show _ = _; rw [NE.out]; exact h4 _
   generalize p.2 = ps at *
   have H1 := Lib.hid h1
   have H2 := Lib.hid h2
   have RT2 : Hid (∀ w3 : World, Chg [] w w3 → w3.rangeAt cb (q * 129 + 1) (bytesOf ps)) := fun w3 c j v hj => by
    have hb := World.block_lt_of_cell? w _ (RT j v hj)
    exact (c.cell (p := ⟨cb, q * 129 + 1 + j, none⟩) hb (by simp)).trans (RT j v hj)
   have SZ2 := Lib.hid (size_of hpl)
   have BL2 : Hid ((bytesOf ps).length = 128) := by show _ = _; rw [bytesOf_length, hpl]
   have hq0 : (0 : Int) ≤ q := Int.natCast_nonneg _
   have hq1 : (q : Int) < d.cache.length := by omega
   clear h h' hhas hb0 hc r hsl hD hL h1 h2 R FIT HD NE h3 h4 hv RG RT hpl hql
   go_enter Tryz.func228, Tryz.ntmps228
   go_wp2_with fail
   refine CC.out.mono ?_
   rintro e w2 ⟨rfl, hw⟩
   subst hw
   rw [HC.out]
   clear CC
   go_wp2_with (first
    | (with_reducible refine wpList_load_mid rfl 244 (.tmp 21) rfl gd (k * 128) rfl (bytesOf bs) _ S.out Tryz.underlying244 rfl SZ.out ?_)
    | (with_reducible refine wpList_alloc_arr rfl 244 rfl i0 _ hi.out hz0.out ?_)
    | ((with_reducible refine wpList_store_blk rfl 244 (.tmp 7) (.tmp 22) rfl w2.heap.size 0 244 _ (bytesOf bs) rfl rfl (blk_noughts _ _) (by rw [BL.out, noughts_len]; decide) SZ.out (bytesOf_one _) ?_); intro w3 B3 C3; rw [lay_all (List.replicate 128 (Value.int .u8 0)) (bytesOf bs) (by rw [BL.out, noughts_len])] at B3; have C03 : Hid (Chg [] w2 w3) := ((Chg.refl [] w2).alloc _).fresh C3.out (fun j hj => .inr (by have := List.mem_singleton.1 hj; omega)); clear C3; obtain ⟨d2, d1, hm3⟩ := FRM.out _ C03.out; clear FRM; have HM3 := Lib.hid hm3; clear hm3)
    | (at_lookup; refine wpList_lookup_own_ok_int _ rfl _ _ 240 rfl 3 3 .i64 int_law Tryz.underlying240 Tryz.underlying3 (zero.out _) mb _ D rfl HM3.out _ _ rfl KEY.out ?_; intro c hat hwc; rw [H1.out]; rw [H2.out] at hat; obtain rfl : (q : Int) = c := (by simpa using hat); clear hat hwc)
    | (with_reducible refine wpList_load_mid rfl 244 (.tmp 39) rfl cb (q * 129 + 1) rfl (bytesOf ps) _ (RT2.out _ C03.out) Tryz.underlying244 rfl SZ2.out ?_)
    | ((with_reducible refine wpList_store_blk rfl 244 (.tmp 7) (.tmp 40) rfl w2.heap.size 0 244 _ (bytesOf ps) rfl rfl B3.out (by rw [BL.out, BL2.out]; decide) SZ2.out (bytesOf_one _) ?_); intro w4 B4 C4; rw [lay_all (bytesOf bs) (bytesOf ps) (by rw [BL.out, BL2.out])] at B4; have C04 : Hid (Chg [] w2 w4) := C03.out.fresh C4.out (fun j hj => .inr (by have := List.mem_singleton.1 hj; omega)); clear C4))
   go_ret2
   rw [NV.out] at FIN ⊢
   rw [HC.out]
   exact ⟨244, _, rfl, FIN.out w4 B4, C04⟩
 ·have E2 := Lib.hid (Dk.read_off hc)
  obtain ⟨n, hn, hn0⟩ : ∃ n : Nat, d.check at_ = n ∧ n ≠ 0 := ⟨_, rfl, hc⟩
  have hb : (((n : Nat) : Int) != 0) = true := by simp; omega
  rw [E2.out, hn]
  rw [hn] at CC
  clear h h' hc hn E2
  go_enter Tryz.func228, Tryz.ntmps228
  go_wp2_with fail
  refine CC.out.mono ?_
  rintro e w2 ⟨rfl, hw⟩
  subst hw
  clear CC
  go_wp2_with fail
  go_ret2
  exact ⟨5, _, rfl, World.ownsRow_nil _ _ _ _, Chg.refl _ _⟩

end Go.Proofs.YtkafkdlgflkjgaaGreat
