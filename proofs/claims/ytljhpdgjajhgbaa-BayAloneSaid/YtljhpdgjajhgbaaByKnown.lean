/-
  'known' of the bays' laws. By an AI agent.
-/
import Derived.Test.YtljhpdgjajhgbaaByPlain
import Derived.Test.YtljhpdgjajhgbaaGSame
namespace Go.Proofs.Ytljhpdgjajhgbaa
open Go.RowKit

/-- What stands beside a thing. -/
theorem Side.holdOff {w0 w : World} {ts : List Thing} (H : Side w0 w ts) {v : Value} {i j : Nat} {a b : Thing} (hi : ts[i]? = some a) (hj : ts[j]? = some b) (hij : i ≠ j) (hv : ∀ k, v.ownBlock = some k → k ∈ a.F) :
    ∀ k, v.ownBlock = some k → k ∉ b.F ∧ k < w.heap.size := fun k hk => ⟨H.offAt hi hj hij k (hv k hk), a.lt w (H.get i hi) k (hv k hk)⟩

/-- What was there ahead of a thing. -/
theorem Side.holdOld {w0 w : World} {ts : List Thing} (H : Side w0 w ts) {v : Value} {j : Nat} {b : Thing} (hj : ts[j]? = some b) (hv : ∀ k, v.ownBlock = some k → k < w0.heap.size) :
    ∀ k, v.ownBlock = some k → k ∉ b.F ∧ k < w.heap.size := fun k hk => by
  have h1 := hv k hk
  have h2 := H.chg.size
  exact ⟨fun hm => by have := H.new _ (List.mem_of_getElem? hj) k hm; omega, by omega⟩

theorem Sl.old {w : World} {v : Value} {xs : List Int} (h : Sl w v xs) (hx : xs ≠ []) : ∀ k, v.ownBlock = some k → k < w.heap.size := by
  rcases h with ⟨h0, _⟩ | ⟨b, o, c, rfl, hb, _⟩
  · exact absurd h0 hx
  · intro k hk
    have : b = k := Option.some.inj hk
    omega

theorem ownT_slB {w : World} {t : TypeId} {u : Value} {xs : List Nat} (h : (ownT t u ((ints xs).map (Value.int .u8))).P w) : Sl w u (ints xs) := Sl.owned h

def nine : List Nat := (List.replicate 128 0).set 5 9

theorem nine_len : nine.length = 128 := by decide +kernel
theorem nine_bs : Bs nine := by unfold Bs; decide +kernel

def kb0 : Bay := Bay.new [2, 0]
def kb1 : Bay := kb0.write 0 1 nine
def kb2 : Bay := kb1.flush 0
def kb3 : Bay := kb2.read 1
def kb4 : Bay := kb3.tripped 1
def kb5 : Bay := kb4.read 0
def kb6 : Bay := kb5.read 0

theorem kb_new : Bay.newErr [2, 0] = 0 := by decide +kernel
theorem kb_e1 : kb0.writeErr 0 1 nine = 0 := by decide +kernel
theorem kb_e2 : kb1.flushErr 0 = 0 := by decide +kernel
theorem kb_e3 : kb2.readErr 1 0 = 51 ∧ kb2.readVal 1 0 = [] := by decide +kernel
theorem kb_e4 : kb3.tripErr 1 = 0 := by decide +kernel
theorem kb_e5 : kb4.readErr 0 1 = 0 ∧ kb4.readVal 0 1 = nine := by decide +kernel
theorem kb_e6 : kb5.readErr 0 1 = 50 ∧ kb5.readVal 0 1 = [] := by decide +kernel
theorem kb_c : kb6.reads = 2 ∧ kb6.writes = 1 ∧ kb6.flushes = 1 := by decide +kernel

theorem kb_low : kb0.Low 1000000000 ∧ kb1.Low 1000000000 ∧ kb2.Low 1000000000 ∧ kb4.Low 1000000000 ∧ kb5.Low 1000000000 := by
  have h0 : kb0.Low 0 := Bay.new_low _
  have h1 : kb1.Low 1 := h0.write 0 1 nine
  have h2 : kb2.Low 2 := h1.flush 0
  have h3 : kb3.Low 3 := h2.start 1 1
  have h4 : kb4.Low 3 := h3.tripped 1
  have h5 : kb5.Low 4 := h4.start 0 1
  exact ⟨h0.mono (by decide), h1.mono (by decide), h2.mono (by decide), h4.mono (by decide), h5.mono (by decide)⟩

theorem nine_cells : (List.replicate 128 (Value.int .u8 0)).set 5 (Value.int .u8 9) = (ints nine).map (Value.int .u8) := by
  unfold nine ints
  rw [List.map_set, List.map_set, List.map_replicate, List.map_replicate]
  rfl

theorem info_byU8 : (Try.prog.info? 5).map (fun i => (i.zero, i.size, i.bytes)) = some (some (.int .u8 0), 1, 1) := by kernel_rfl

set_option maxHeartbeats 4000000 in
set_option maxRecDepth 100000 in
theorem bknown_any (w : World) : Calls Try.prog 12 #[] w fun e w' => e = .returned (.bool true) ∧ Hid (Chg [] w w') := by
  obtain ⟨i0, hi, hz0, hz1, hz2⟩ := info_parts info_byU8
  replace hi := Lib.hid hi
  replace hz0 := Lib.hid hz0
  replace hz1 := Lib.hid hz1
  replace hz2 := Lib.hid hz2
  have CA : Hid (Chg [] w (w.alloc (.cells #[.int .i64 2, .int .i64 0] 3))) := (Chg.refl _ _).alloc _
  have BX := Blk.made w [.int .i64 2, .int .i64 0] 3
  have NW := Lib.hid (bnew_any (.slice (some ⟨w.heap.size, 0, none⟩) 2 2) [2, 0] (w.alloc (.cells #[.int .i64 2, .int .i64 0] 3)) (.inr ⟨_, 0, 2, rfl, BX.lt, fun j u hj => by rw [Nat.zero_add]; exact BX.cell hj⟩) (by unfold Is; decide) (by decide))
  clear BX
  go_enter Try.func12, Try.ntmps12
  go_wp2_with fail
  refine NW.out.mono ?_
  rintro e w1 (⟨hno, _⟩ | ⟨_, b, F, rfl, D, N, C⟩)
  · exact absurd kb_new hno
  have H : Hid (Side w w1 [BayT b kb0 F]) := (Side.nil CA.out).add C.out D.out (fun k hk => by have := N.out k hk; simp at this; simp; omega)
  clear NW CA D N C
  obtain ⟨gx, hgx⟩ : ∃ g, g = w1.heap.size := ⟨_, rfl⟩
  go_wp2_with ((with_reducible refine wpList_make_full _ rfl _ _ 26 rfl w1.heap.size 5 i0 _ 1 Try.underlying26 hi.out hz0.out hz1.out .i64 .i64 (128 : Int) (128 : Int) 128 rfl rfl rfl rfl (by rw [hz2.out]; decide) (by unfold maxLen; decide) (Nat.le_refl _) ?_); intro w2 ow gr; rw [made_replicate (.int .u8 0) 128 rfl] at ow; have H1 := H.out.own ow ((Chg.refl [] w1).grown gr (fun k hk => by cases hk)); obtain ⟨H2, hf, u0, hu⟩ := H1.set 0 rfl (k := 5) (by simp) (.int .u8 9); rw [nine_cells] at H2; replace H2 := Lib.hid H2; clear H H1 ow gr)
  rw [← hgx] at H2 ⊢
  generalize w2.setCell ⟨gx, 5, none⟩ (.int .u8 9) = w3 at *
  replace H : Hid (Side w w3 [ownT 5 (.slice (some ⟨gx, 0, none⟩) 128 128) ((ints nine).map (Value.int .u8)), BayT b kb0 F]) := H2.out
  clear H2 hf hu hgx
  have T0 := bwrite_any b F kb0 w3 (H.out.get 1 rfl) 0 1 (by unfold I64; decide) (by unfold I64; decide) _ (ints nine) (ownT_slB (H.out.get 0 rfl)) (ints_by nine_bs) (by rw [ints_length, nine_len]; decide) (fun _ => H.out.holdOff (i := 0) (j := 1) rfl rfl (by decide) (fun k hk => by simp [ownT, hk])) kb_low.1
  rw [nats_ints, kb_e1] at T0
  refine T0.mono ?_
  rintro e w4 ⟨rfl, T⟩
  obtain ⟨F1, H1⟩ := H.out.act 1 rfl T.out
  replace H : Hid (Side w w4 [ownT 5 (.slice (some ⟨gx, 0, none⟩) 128 128) ((ints nine).map (Value.int .u8)), BayT b kb1 F1]) := H1
  clear H1 T T0
  go_wp2_with fail
  have T0 := bflush_any b F1 kb1 w4 (H.out.get 1 rfl) 0 (by unfold I64; decide) kb_low.2.1
  rw [kb_e2] at T0
  refine T0.mono ?_
  rintro e w5 ⟨rfl, T⟩
  obtain ⟨F2, H1⟩ := H.out.act 1 rfl T.out
  replace H : Hid (Side w w5 [ownT 5 (.slice (some ⟨gx, 0, none⟩) 128 128) ((ints nine).map (Value.int .u8)), BayT b kb2 F2]) := H1
  clear H1 T T0
  go_wp2_with fail
  have T0 := bread_any b F2 kb2 w5 (H.out.get 1 rfl) 1 0 (by unfold I64; decide) (by unfold I64; decide) kb_low.2.2.1
  rw [kb_e3.1, kb_e3.2] at T0
  refine T0.mono ?_
  rintro e w6 ⟨u, rfl, T⟩
  obtain ⟨t1, F3, H1⟩ := H.out.actOwn 1 rfl T.out
  replace H : Hid (Side w w6 [ownT 5 (.slice (some ⟨gx, 0, none⟩) 128 128) ((ints nine).map (Value.int .u8)), BayT b kb3 F3]) := H1.tail
  clear H1 T T0
  go_wp2_with fail
  have T0 := btrip_any b F3 kb3 w6 (H.out.get 1 rfl) 1 (by unfold I64; decide)
  rw [kb_e4] at T0
  refine T0.mono ?_
  rintro e w7 ⟨rfl, T⟩
  obtain ⟨F4, H1⟩ := H.out.act 1 rfl T.out
  replace H : Hid (Side w w7 [ownT 5 (.slice (some ⟨gx, 0, none⟩) 128 128) ((ints nine).map (Value.int .u8)), BayT b kb4 F4]) := H1
  clear H1 T T0
  go_wp2_with fail
  have T0 := bread_any b F4 kb4 w7 (H.out.get 1 rfl) 0 1 (by unfold I64; decide) (by unfold I64; decide) kb_low.2.2.2.1
  rw [kb_e5.1, kb_e5.2] at T0
  refine T0.mono ?_
  rintro e w8 ⟨x, rfl, T⟩
  obtain ⟨t2, F5, H1⟩ := H.out.actOwn 1 rfl T.out
  replace H : Hid (Side w w8 [ownT t2 x ((ints nine).map (Value.int .u8)), ownT 5 (.slice (some ⟨gx, 0, none⟩) 128 128) ((ints nine).map (Value.int .u8)), BayT b kb5 F5]) := H1
  clear H1 T T0
  go_wp2_with fail
  have T0 := bread_any b F5 kb5 w8 (H.out.get 2 rfl) 0 1 (by unfold I64; decide) (by unfold I64; decide) kb_low.2.2.2.2
  rw [kb_e6.1, kb_e6.2] at T0
  refine T0.mono ?_
  rintro e w9 ⟨z, rfl, T⟩
  obtain ⟨t3, F6, H1⟩ := H.out.actOwn 2 rfl T.out
  replace H : Hid (Side w w9 [ownT t2 x ((ints nine).map (Value.int .u8)), ownT 5 (.slice (some ⟨gx, 0, none⟩) 128 128) ((ints nine).map (Value.int .u8)), BayT b kb6 F6]) := H1.tail
  clear H1 T T0
  go_wp2_with fail
  refine (same_true _ _ (ints nine) _ (ownT_slB (H.out.get 1 rfl)) (ownT_slB (H.out.get 0 rfl)) (by rw [ints_length, nine_len]; decide)).mono ?_
  rintro e w10 ⟨rfl, qd, hw⟩
  replace H : Hid (Side w w10 [ownT t2 x ((ints nine).map (Value.int .u8)), ownT 5 (.slice (some ⟨gx, 0, none⟩) 128 128) ((ints nine).map (Value.int .u8)), BayT b kb6 F6]) := H.out.quiet (by rw [hw]; exact (Chg.refl [] _).drewN _)
  clear hw
  go_wp2_with fail
  have T0 := bcounts_any b F6 kb6 w10 (H.out.get 2 rfl)
  rw [kb_c.1, kb_c.2.1, kb_c.2.2] at T0
  refine T0.mono ?_
  rintro e w11 ⟨rfl, C⟩
  have CW : Hid (Chg [] w w11) := H.out.chg.trans C.out
  clear T0 C H
  go_wp2_with fail
  go_ret
  exact ⟨rfl, CW⟩

end Go.Proofs.Ytljhpdgjajhgbaa
