/-
  SuperWrites, walked. By an AI agent. Printed by gen_splaww.py.
-/
import Derived.Test.YtbeejoooefgeaaaSpLent
import Derived.Test.YtbeejoooefgeaaaSpKnown
import Derived.Test.YtbeejoooefgeaaaRefSpEnc
import Derived.Test.YtbeejoooefgeaaaGBook
namespace Go.Proofs.Ytbeejoooefgeaaa
open Go.RowKit Crc

theorem Sup.enc_len {s : Sup} : s.enc.length ≤ 128 := by
  unfold Sup.enc
  split
  next h => rw [Sup.sector_length (by have := h.len; omega)]; exact Nat.le_refl _
  next => simp

theorem Sup.err_le (s : Sup) : 0 ≤ s.err ∧ s.err ≤ 70 := by
  unfold Sup.err
  split <;> decide

def bookZ : List Value := [.slice none 0 0, .slice none 0 0, .slice none 0 0, .slice none 0 0, .slice none 0 0, .slice none 0 0, .slice none 0 0, .slice none 0 0, .slice none 0 0, .slice none 0 0, .slice none 0 0, .slice none 0 0]

set_option maxHeartbeats 16000000 in
set_option maxRecDepth 100000 in
theorem superWrites_core (s : Sup) (u : Value) (w : World) (hf : s.Fit) (hu : Sl w u s.st) (hg : s.st.length ≤ 140737488355328) :
    Calls Try.prog 3 #[s.val u] w fun e w' => e = .returned (.bool true) ∧ Hid (Chg [] w w') := by
  have LS := Lib.hid (fun W (c : Chg [] w W) => lent_super s u W (hu.chg c (by simp)) hg)
  have RE := Lib.hid (fun W (c : Chg [] w W) => refEnc_any s u W hf (hu.chg c (by simp)) hg)
  have RC := Lib.hid (fun W (c : Chg [] w W) => refCheck_any s u W (hu.chg c (by simp)) hf.st hg)
  have WH := Lib.hid (fun (g : Nat) W (c : Chg [] w W) (b : Blk W g 61 ((s.st ++ [71, 72]).map (Value.int .u8))) => whole_super s g u W b (hu.chg c (by simp)) hg)
  obtain ⟨ao, cp, rfl⟩ := hu.slice
  have HF := Lib.hid hf
  clear hu hf
  have hs0 : (0 : Int) ≤ s.st.length := Int.natCast_nonneg _
  have C1 : Hid (Chg [] w (w.alloc (.cells #[.int .u64 (s.id : Int), .int .u64 (s.ev : Int), .int .u64 (s.safe : Int), .int .i64 s.role, .int .i64 s.m, .int .i64 s.c, .int .i64 s.t, .int .i64 s.ring, .bool s.lazy, .bool s.lost, .slice ao s.st.length cp, .int .i64 s.cur] 27))) := (Chg.refl _ w).alloc _
  by_cases hn : (s.st.length : Int) ≤ 100000
  case neg =>
    unfold Sup.val
    clear LS RE RC WH
    go_enter Try.func3, Try.ntmps3
    go_wp2_with fail
    go_ret
    exact ⟨rfl, C1.out⟩
  obtain ⟨i0, hi, hz0, hz1, hz2⟩ := info_parts info_super2
  replace hi := Lib.hid hi
  replace hz0 := Lib.hid hz0
  clear hz1 hz2
  have A1 : Hid (Blk (w.alloc (.cells #[.int .u64 (s.id : Int), .int .u64 (s.ev : Int), .int .u64 (s.safe : Int), .int .i64 s.role, .int .i64 s.m, .int .i64 s.c, .int .i64 s.t, .int .i64 s.ring, .bool s.lazy, .bool s.lost, .slice ao s.st.length cp, .int .i64 s.cur] 27)) w.heap.size 27 [.int .u64 (s.id : Int), .int .u64 (s.ev : Int), .int .u64 (s.safe : Int), .int .i64 s.role, .int .i64 s.m, .int .i64 s.c, .int .i64 s.t, .int .i64 s.ring, .bool s.lazy, .bool s.lost, .slice ao s.st.length cp, .int .i64 s.cur]) := Blk.made w [.int .u64 (s.id : Int), .int .u64 (s.ev : Int), .int .u64 (s.safe : Int), .int .i64 s.role, .int .i64 s.m, .int .i64 s.c, .int .i64 s.t, .int .i64 s.ring, .bool s.lazy, .bool s.lost, .slice ao s.st.length cp, .int .i64 s.cur] _
  have SC0 : Hid ((Try.prog.info? 27).map (·.size) = some ([.int .u64 (s.id : Int), .int .u64 (s.ev : Int), .int .u64 (s.safe : Int), .int .i64 s.role, .int .i64 s.m, .int .i64 s.c, .int .i64 s.t, .int .i64 s.ring, .bool s.lazy, .bool s.lost, .slice ao s.st.length cp, .int .i64 s.cur] : List Value).length) := size_super
  have s1 : (w.alloc (.cells #[.int .u64 (s.id : Int), .int .u64 (s.ev : Int), .int .u64 (s.safe : Int), .int .i64 s.role, .int .i64 s.m, .int .i64 s.c, .int .i64 s.t, .int .i64 s.ring, .bool s.lazy, .bool s.lost, .slice ao s.st.length cp, .int .i64 s.cur] 27)).heap.size = w.heap.size + 1 := by simp
  unfold Sup.val at LS RE RC WH ⊢
  go_enter Try.func3, Try.ntmps3
  go_wp2_with fail
  refine (LS.out _ C1.out).mono ?_
  obtain ⟨W1, hW1⟩ : ∃ W1, W1 = w.alloc (.cells #[.int .u64 (s.id : Int), .int .u64 (s.ev : Int), .int .u64 (s.safe : Int), .int .i64 s.role, .int .i64 s.m, .int .i64 s.c, .int .i64 s.t, .int .i64 s.ring, .bool s.lazy, .bool s.lost, .slice ao s.st.length cp, .int .i64 s.cur] 27) := ⟨_, rfl⟩
  rw [← hW1] at C1 A1 s1 ⊢
  clear hW1 LS
  rintro e w2 ⟨g, rfl, G, C, hgW⟩
  replace hgW := Lib.hid hgW
  have D2 : Hid (Chg [] W1 w2) := C
  have KA : Hid (∀ w', Chg [] W1 w' → w'.rangeAt w.heap.size 0 [.int .u64 (s.id : Int), .int .u64 (s.ev : Int), .int .u64 (s.safe : Int), .int .i64 s.role, .int .i64 s.m, .int .i64 s.c, .int .i64 s.t, .int .i64 s.ring, .bool s.lazy, .bool s.lost, .slice ao s.st.length cp, .int .i64 s.cur]) := fun w' c => (A1.out.chg c (by simp)).rangeAll
  have KB : Hid (∀ w', Chg [] W1 w' → Blk w' w.heap.size 27 [.int .u64 (s.id : Int), .int .u64 (s.ev : Int), .int .u64 (s.safe : Int), .int .i64 s.role, .int .i64 s.m, .int .i64 s.c, .int .i64 s.t, .int .i64 s.ring, .bool s.lazy, .bool s.lost, .slice ao s.st.length cp, .int .i64 s.cur]) := fun w' c => A1.out.chg c (by simp)
  have SC1 : Hid ((Try.prog.info? 27).map (·.size) = some ([.int .u64 (s.id : Int), .int .u64 (s.ev : Int), .int .u64 (s.safe : Int), .int .i64 s.role, .int .i64 s.m, .int .i64 s.c, .int .i64 s.t, .int .i64 s.ring, .bool s.lazy, .bool s.lost, .slice (some ⟨g, 0, none⟩) s.st.length (s.st.length + 2), .int .i64 s.cur] : List Value).length) := size_super
  have ON : Hid (∀ v ∈ ([.int .u64 (s.id : Int), .int .u64 (s.ev : Int), .int .u64 (s.safe : Int), .int .i64 s.role, .int .i64 s.m, .int .i64 s.c, .int .i64 s.t, .int .i64 s.ring, .bool s.lazy, .bool s.lost, .slice (some ⟨g, 0, none⟩) s.st.length (s.st.length + 2), .int .i64 s.cur] : List Value), v.oneCell' = true) := one12u s _ _
  have LE : Hid (0 + ([.int .u64 (s.id : Int), .int .u64 (s.ev : Int), .int .u64 (s.safe : Int), .int .i64 s.role, .int .i64 s.m, .int .i64 s.c, .int .i64 s.t, .int .i64 s.ring, .bool s.lazy, .bool s.lost, .slice (some ⟨g, 0, none⟩) s.st.length (s.st.length + 2), .int .i64 s.cur] : List Value).length ≤ zero12.length) := Nat.le_refl 12
  clear C A1
  unfold Sup.val
  go_upto_region 4 with (first
    | (with_reducible refine wpList_alloc_arr rfl 27 rfl i0 _ hi.out hz0.out ?_)
    | ((with_reducible refine wpList_store_blk rfl 27 (.tmp 3) (.tmp 18) rfl w2.heap.size 0 27 zero12 [.int .u64 (s.id : Int), .int .u64 (s.ev : Int), .int .u64 (s.safe : Int), .int .i64 s.role, .int .i64 s.m, .int .i64 s.c, .int .i64 s.t, .int .i64 s.ring, .bool s.lazy, .bool s.lost, .slice (some ⟨g, 0, none⟩) s.st.length (s.st.length + 2), .int .i64 s.cur] rfl rfl (made_agg w2 zero12 27) LE.out SC1.out ON.out ?_); intro w3 B3 C3))
  have D3 : Hid (Chg [] W1 w3) := D2.out.trans (((Chg.refl [] w2).alloc (.cells (Value.agg zero12.toArray).cells 27)).fresh C3.out (fun j hj => .inr (by rw [List.mem_singleton.1 hj]; exact Nat.le_refl _)))
  have F3 : Hid (Chg [] w2 w3) := ((Chg.refl [] w2).alloc (.cells (Value.agg zero12.toArray).cells 27)).fresh C3.out (fun j hj => .inr (by rw [List.mem_singleton.1 hj]; exact Nat.le_refl _))
  have O3 : Hid (Blk w3 w2.heap.size 27 [.int .u64 (s.id : Int), .int .u64 (s.ev : Int), .int .u64 (s.safe : Int), .int .i64 s.role, .int .i64 s.m, .int .i64 s.c, .int .i64 s.t, .int .i64 s.ring, .bool s.lazy, .bool s.lost, .slice (some ⟨g, 0, none⟩) s.st.length (s.st.length + 2), .int .i64 s.cur]) := by
    have e : lay zero12 0 ([.int .u64 (s.id : Int), .int .u64 (s.ev : Int), .int .u64 (s.safe : Int), .int .i64 s.role, .int .i64 s.m, .int .i64 s.c, .int .i64 s.t, .int .i64 s.ring, .bool s.lazy, .bool s.lost, .slice (some ⟨g, 0, none⟩) s.st.length (s.st.length + 2), .int .i64 s.cur] : List Value) = [.int .u64 (s.id : Int), .int .u64 (s.ev : Int), .int .u64 (s.safe : Int), .int .i64 s.role, .int .i64 s.m, .int .i64 s.c, .int .i64 s.t, .int .i64 s.ring, .bool s.lazy, .bool s.lost, .slice (some ⟨g, 0, none⟩) s.st.length (s.st.length + 2), .int .i64 s.cur] := lay_all _ _ rfl
    show Blk _ _ _ _
    rw [← e]
    exact B3.out
  have G3 := Lib.hid (G.out.chg F3.out (by simp))
  have hg3 : g < w3.heap.size := G3.out.lt
  obtain ⟨cb, hcb⟩ : ∃ cb, cb = w2.heap.size := ⟨_, rfl⟩
  rw [← hcb] at O3 ⊢
  clear hcb G F3 B3 C3 D2 LE ON hi hz0
  have KO : Hid (∀ w', Chg [] w3 w' → w'.rangeAt cb 0 [.int .u64 (s.id : Int), .int .u64 (s.ev : Int), .int .u64 (s.safe : Int), .int .i64 s.role, .int .i64 s.m, .int .i64 s.c, .int .i64 s.t, .int .i64 s.ring, .bool s.lazy, .bool s.lost, .slice (some ⟨g, 0, none⟩) s.st.length (s.st.length + 2), .int .i64 s.cur]) := fun w' c => (O3.out.chg c (by simp)).rangeAll
  have CH := Lib.hid (fun W (c : Chg [] w3 W) => check_any s (.slice (some ⟨g, 0, none⟩) s.st.length (s.st.length + 2)) W ((Blk.sls G3.out : Sl w3 (.slice (some ⟨g, 0, none⟩) s.st.length (s.st.length + 2)) s.st).chg c (by simp)) hg)
  have EN := Lib.hid (fun W (c : Chg [] w3 W) => enc_any s (.slice (some ⟨g, 0, none⟩) s.st.length (s.st.length + 2)) W HF.out ((Blk.sls G3.out : Sl w3 (.slice (some ⟨g, 0, none⟩) s.st.length (s.st.length + 2)) s.st).chg c (by simp)) hg)
  have SPO := Lib.hid (fun W (c : Chg [] w3 W) => spoil_super s g W (G3.out.chg c (by simp)) hg)
  replace WH := Lib.hid (fun W (c : Chg [] w W) (k : Chg [] w3 W) => WH.out g W c (G3.out.chg k (by simp)))
  have EL := s.enc_len
  have ER := s.err_le
  unfold Encs at EN
  unfold REncs at RE
  unfold Sup.val at CH EN SPO WH
  generalize s.enc = en at *
  generalize s.err = er at *
  obtain ⟨er0, er1⟩ := ER
  clear O3 G3 HF
  have E3 : Hid (Chg [] w3 w3) := Chg.refl _ _
  go_wp2_with (with_reducible refine wpList_load_mid rfl 27 (.tmp 3) rfl cb 0 rfl [.int .u64 (s.id : Int), .int .u64 (s.ev : Int), .int .u64 (s.safe : Int), .int .i64 s.role, .int .i64 s.m, .int .i64 s.c, .int .i64 s.t, .int .i64 s.ring, .bool s.lazy, .bool s.lost, .slice (some ⟨g, 0, none⟩) s.st.length (s.st.length + 2), .int .i64 s.cur] _ (KO.out _ E3.out) Try.underlying27 rfl SC1.out ?_)
  refine (CH.out w3 E3.out).mono ?_
  rintro e w4 ⟨rfl, C⟩
  have E4 : Hid (Chg [] w3 w4) := C.out
  have D4 : Hid (Chg [] W1 w4) := D3.out.trans C.out
  have hg4 : g < w4.heap.size := Nat.lt_of_lt_of_le hg3 E4.out.size
  have D4s : W1.heap.size ≤ w4.heap.size := D4.out.size
  clear C CH E3 D3 hg3
  go_wp2_with (with_reducible refine wpList_load_mid rfl 27 (.tmp 3) rfl cb 0 rfl [.int .u64 (s.id : Int), .int .u64 (s.ev : Int), .int .u64 (s.safe : Int), .int .i64 s.role, .int .i64 s.m, .int .i64 s.c, .int .i64 s.t, .int .i64 s.ring, .bool s.lazy, .bool s.lost, .slice (some ⟨g, 0, none⟩) s.st.length (s.st.length + 2), .int .i64 s.cur] _ (KO.out _ E4.out) Try.underlying27 rfl SC1.out ?_)
  refine (EN.out w4 E4.out).mono ?_
  rintro e w5 ⟨va, rfl, OA, C⟩
  have E5 : Hid (Chg [] w3 w5) := E4.out.trans C.out
  have D5 : Hid (Chg [] W1 w5) := D4.out.trans C.out
  have h45 : w4.heap.size ≤ w5.heap.size := C.out.size
  clear C E4
  go_wp2_with (with_reducible refine wpList_load_mid rfl 27 (.tmp 3) rfl cb 0 rfl [.int .u64 (s.id : Int), .int .u64 (s.ev : Int), .int .u64 (s.safe : Int), .int .i64 s.role, .int .i64 s.m, .int .i64 s.c, .int .i64 s.t, .int .i64 s.ring, .bool s.lazy, .bool s.lost, .slice (some ⟨g, 0, none⟩) s.st.length (s.st.length + 2), .int .i64 s.cur] _ (KO.out _ E5.out) Try.underlying27 rfl SC1.out ?_)
  refine (EN.out w5 E5.out).mono ?_
  rintro e w6 ⟨vb, rfl, OB, C⟩
  have E6 : Hid (Chg [] w3 w6) := E5.out.trans C.out
  have D6 : Hid (Chg [] W1 w6) := D5.out.trans C.out
  have OA6 := Lib.hid (owns_chg OA.out C.out (by simp))
  have h56q : w5.heap.size ≤ w6.heap.size := C.out.size
  have AL : Hid (∀ k, va.ownBlock = some k → w4.heap.size ≤ k ∧ k < w5.heap.size) := fun k hk => OA.out.lt k hk
  have BL : Hid (∀ k, vb.ownBlock = some k → w5.heap.size ≤ k ∧ k < w6.heap.size) := fun k hk => OB.out.lt k hk
  clear C E5 D5 EN OA
  go_wp2_with (first | (with_reducible refine wpList_load_mid rfl 27 (.tmp 3) rfl cb 0 rfl [.int .u64 (s.id : Int), .int .u64 (s.ev : Int), .int .u64 (s.safe : Int), .int .i64 s.role, .int .i64 s.m, .int .i64 s.c, .int .i64 s.t, .int .i64 s.ring, .bool s.lazy, .bool s.lost, .slice (some ⟨g, 0, none⟩) s.st.length (s.st.length + 2), .int .i64 s.cur] _ (KO.out _ E6.out) Try.underlying27 rfl SC1.out ?_) | (with_reducible refine wpList_load_mid rfl 27 (.tmp 1) rfl w.heap.size 0 rfl [.int .u64 (s.id : Int), .int .u64 (s.ev : Int), .int .u64 (s.safe : Int), .int .i64 s.role, .int .i64 s.m, .int .i64 s.c, .int .i64 s.t, .int .i64 s.ring, .bool s.lazy, .bool s.lost, .slice ao s.st.length cp, .int .i64 s.cur] _ (KA.out _ D6.out) Try.underlying27 rfl SC0.out ?_))
  refine (WH.out w6 (C1.out.trans D6.out) E6.out).mono ?_
  rintro e w7 ⟨rfl, C⟩
  have E7 : Hid (Chg [] w3 w7) := E6.out.trans C.out
  have D7 : Hid (Chg [] W1 w7) := D6.out.trans C.out
  have OA7 := Lib.hid (owns_chg OA6.out C.out (by simp))
  have OB7 := Lib.hid (owns_chg OB.out C.out (by simp))
  have h67 : w6.heap.size ≤ w7.heap.size := C.out.size
  clear C E6 OA6 OB WH D6
  go_wp2_with (with_reducible refine wpList_load_mid rfl 27 (.tmp 3) rfl cb 0 rfl [.int .u64 (s.id : Int), .int .u64 (s.ev : Int), .int .u64 (s.safe : Int), .int .i64 s.role, .int .i64 s.m, .int .i64 s.c, .int .i64 s.t, .int .i64 s.ring, .bool s.lazy, .bool s.lost, .slice (some ⟨g, 0, none⟩) s.st.length (s.st.length + 2), .int .i64 s.cur] _ (KO.out _ E7.out) Try.underlying27 rfl SC1.out ?_)
  refine (SPO.out w7 E7.out).mono ?_
  rintro e w8 ⟨rfl, C⟩
  have h56 : w5.heap.size ≤ w6.heap.size := Nat.le_trans (Nat.le_refl _) h56q
  have D8 : Hid (Chg [] W1 w8) := D7.out.fresh C.out (fun j hj => .inr (by rw [List.mem_singleton.1 hj]; exact hgW.out))
  have OA8 := Lib.hid (owns_chg OA7.out C.out (fun k hk hm => by have h1 := (AL.out k hk).1; rw [List.mem_singleton.1 hm] at h1; omega))
  have OB8 := Lib.hid (owns_chg OB7.out C.out (fun k hk hm => by have h1 := (BL.out k hk).1; rw [List.mem_singleton.1 hm] at h1; omega))
  have h78 : w7.heap.size ≤ w8.heap.size := C.out.size
  clear C E7 D7 SPO OA7 OB7 KO SC1
  go_wp2_with (with_reducible refine wpList_load_mid rfl 27 (.tmp 1) rfl w.heap.size 0 rfl [.int .u64 (s.id : Int), .int .u64 (s.ev : Int), .int .u64 (s.safe : Int), .int .i64 s.role, .int .i64 s.m, .int .i64 s.c, .int .i64 s.t, .int .i64 s.ring, .bool s.lazy, .bool s.lost, .slice ao s.st.length cp, .int .i64 s.cur] _ (KA.out _ D8.out) Try.underlying27 rfl SC0.out ?_)
  refine (RE.out w8 (C1.out.trans D8.out)).mono ?_
  rintro e w9 ⟨vw, rfl, OW, C⟩
  have D9 : Hid (Chg [] W1 w9) := D8.out.trans C.out
  have OA9 := Lib.hid (owns_chg OA8.out C.out (by simp))
  have OB9 := Lib.hid (owns_chg OB8.out C.out (by simp))
  have h89 : w8.heap.size ≤ w9.heap.size := C.out.size
  clear C D8 OA8 OB8 RE
  have OWL : Hid (w9.ownsRow w8.heap.size 5 1 vw en.length ((ints en).map (Value.int .u8))) := OW
  obtain ⟨XS, hXS⟩ : ∃ XS, XS = (ints en).map (Value.int .u8) := ⟨_, rfl⟩
  have hXL : XS.length = en.length := by rw [hXS, List.length_map, ints_length]
  have ib : ∀ (W : World) (B : Nat) (v : Value), W.ownsRow B 5 1 v en.length ((ints en).map (Value.int .u8)) → B ≥ w4.heap.size → W.ownsRow w4.heap.size 5 1 v XS.length XS := fun W B v h hb => by
    rw [hXL, hXS]
    exact ownsRow_base h hb
  clear OW
  go_upto_region 11 with fail
  refine wp_named (fun w10 hw10 => ?_)
  have B10 : Blk w10 w9.heap.size 53 bookZ := by rw [hw10]; exact Blk.made w9 bookZ _
  have F10 : Hid (Chg [] w9 w10) := by show Chg _ _ _; rw [hw10]; exact (Chg.refl _ _).alloc _
  have BK0 : Hid (Bk w10 w4.heap.size w9.heap.size (.slice none 0 0) []) := Bk.begin B10
  have z10 : w9.heap.size < w10.heap.size := B10.lt
  have OAx : Hid (w10.ownsRow w4.heap.size 5 1 va XS.length XS) := ib _ _ _ (owns_chg OA9.out F10.out (by simp)) (Nat.le_refl _)
  have NA : Hid (∀ k, va.ownBlock = some k → Bk.not w9.heap.size (.slice none 0 0) [] k) := fun k hk => by
    have h1 := (AL.out k hk).2
    exact ⟨by omega, (fun h => by cases h), (fun j v xs hj => by simp at hj)⟩
  have hB10 : w4.heap.size ≤ w10.heap.size := by omega
  clear hw10 B10
  obtain ⟨bb, hbb⟩ : ∃ b, b = w9.heap.size := ⟨_, rfl⟩
  rw [← hbb] at BK0 NA ⊢
  replace hXS := Lib.hid hXS
  replace hXL := Lib.hid hXL
  replace hbb := Lib.hid hbb
  replace ib := Lib.hid ib
  go_wp2_with fail
  refine (book_bytes w4.heap.size bb (.slice none 0 0) [] va XS w10 BK0.out OAx.out NA.out (Nat.zero_le _) hB10).mono ?_
  rintro e w11 ⟨lv1, rfl, ST1⟩
  replace ST1 := Lib.hid ST1
  have F11 : Hid (Chg [] w9 w11) := F10.out.fresh ST1.out.chg (fun j hj => .inr (by
    have h1 := hbb.out
    have h2 : j = bb := by simpa [Value.ownBlock] using hj
    omega))
  have z11 : w10.heap.size ≤ w11.heap.size := ST1.out.chg.size
  have hB11 : w4.heap.size ≤ w11.heap.size := by omega
  have OBx : Hid (w11.ownsRow w4.heap.size 5 1 vb XS.length XS) := ib.out _ _ _ (owns_chg OB9.out F11.out (by simp)) h45
  have NB : Hid (∀ k, vb.ownBlock = some k → Bk.not bb lv1 ([] ++ [(va, XS)]) k) := fun k hk => by
    have h1 := BL.out k hk
    have h2 := hbb.out
    refine ⟨by omega, (fun h => ?_), (fun j v xs hj h => ?_)⟩
    · rcases ST1.out.blk with h3 | ⟨q, h3, hq⟩
      · rw [h3] at h; cases h
      · rw [h3] at h
        have h4 : q = k := by simpa using h
        omega
    · rcases j with _ | j
      · have h5 : va = v ∧ XS = xs := by simpa using hj
        rw [← h5.1] at h
        have h6 := (AL.out k h).2
        omega
      · simp at hj
  clear BK0 OAx NA F10 hB10
  go_wp2_with fail
  refine (book_bytes w4.heap.size bb lv1 ([] ++ [(va, XS)]) vb XS w11 ST1.out.bk OBx.out NB.out (by simp) hB11).mono ?_
  rintro e w12 ⟨lv2, rfl, ST2⟩
  replace ST2 := Lib.hid ST2
  have F12 : Hid (Chg [] w9 w12) := F11.out.fresh ST2.out.chg (fun j hj => .inr (by
    have h1 := hbb.out
    rcases List.mem_cons.1 hj with h2 | h2
    · omega
    · rcases ST1.out.blk with h3 | ⟨q, h3, hq⟩
      · rw [h3] at h2; simp [Value.ownBlock] at h2
      · rw [h3] at h2
        have h4 : j = q := by simpa using h2
        omega))
  have BK2 : Hid (Bk w12 w4.heap.size bb lv2 (([] ++ [(va, XS)]) ++ [(vb, XS)])) := ST2.out.bk
  have z12 : w11.heap.size ≤ w12.heap.size := ST2.out.chg.size
  have D12 : Hid (Chg [] W1 w12) := D9.out.trans F12.out
  have SLA : Hid (∀ w', Chg [] w12 w' → Sl w' va (ints en)) := fun w' c => Sl.owned (owns_chg OA9.out (F12.out.trans c) (by simp))
  have SLB : Hid (∀ w', Chg [] w12 w' → Sl w' vb (ints en)) := fun w' c => Sl.owned (owns_chg OB9.out (F12.out.trans c) (by simp))
  have SLW : Hid (∀ w', Chg [] w12 w' → Sl w' vw (ints en)) := fun w' c => Sl.owned (owns_chg OWL.out (F12.out.trans c) (by simp))
  have EL2 : Hid ((ints en).length ≤ 140737488355328) := by show _ ≤ _; rw [ints_length]; omega
  clear ST1 ST2 F11 F12 OBx NB OA9 OB9 OWL D9 ib AL BL
  go_wp2_with fail
  refine (known_any w12).mono ?_
  rintro e w13 ⟨rfl, C⟩
  have P13 : Hid (Chg [] w12 w13) := C
  have D13 : Hid (Chg [] W1 w13) := D12.out.trans C.out
  clear C
  have k0 := (KB.out _ D13.out).cell (j := 0) rfl
  have k1 := (KB.out _ D13.out).cell (j := 1) rfl
  have k2 := (KB.out _ D13.out).cell (j := 2) rfl
  have k3 := (KB.out _ D13.out).cell (j := 3) rfl
  have k4 := (KB.out _ D13.out).cell (j := 4) rfl
  have k5 := (KB.out _ D13.out).cell (j := 5) rfl
  have k6 := (KB.out _ D13.out).cell (j := 6) rfl
  have k7 := (KB.out _ D13.out).cell (j := 7) rfl
  have k8 := (KB.out _ D13.out).cell (j := 8) rfl
  have k9 := (KB.out _ D13.out).cell (j := 9) rfl
  have k10 := (KB.out _ D13.out).cell (j := 10) rfl
  have k11 := (KB.out _ D13.out).cell (j := 11) rfl
  go_wp2_with fail
  refine (RC.out w13 (C1.out.trans D13.out)).mono ?_
  rintro e w14 ⟨rfl, C⟩
  have P14 : Hid (Chg [] w12 w14) := P13.out.trans C.out
  clear C RC D13 P13 k0 k1 k2 k3 k4 k5 k6 k7 k8 k9 k10 k11
  go_wp2_with fail
  refine (same_true va vw (ints en) w14 (SLA.out _ P14.out) (SLW.out _ P14.out) EL2.out).mono ?_
  rintro e w15 ⟨rfl, q1, hw⟩
  have P15 : Hid (Chg [] w12 w15) := by show Chg _ _ _; rw [hw]; exact P14.out.drewN q1
  clear hw
  go_wp2_with fail
  refine (same_true vb vw (ints en) _ (SLB.out _ P15.out) (SLW.out _ P15.out) EL2.out).mono ?_
  rintro e w16 ⟨rfl, q2, hw⟩
  have P16 : Hid (Chg [] w12 w16) := by show Chg _ _ _; rw [hw]; exact P15.out.drewN q2
  clear hw
  have BK3 := Lib.hid (BK2.out.chg P16.out (fun k hk => by cases hk))
  have hB16 : w4.heap.size ≤ w16.heap.size := Nat.le_trans (by omega) P16.out.size
  have HL : Hid (∀ (j : Nat) (v : Value) (xs : List Value), (([] ++ [(va, XS)]) ++ [(vb, XS)])[j]? = some (v, xs) → xs.length ≤ 140737488355000) := fun j v xs hj => by
    have h0 := hXL.out
    have h1 : xs = XS := by
      rcases j with _ | _ | j
      · exact (by simpa using hj : va = v ∧ XS = xs).2.symm
      · exact (by simpa using hj : vb = v ∧ XS = xs).2.symm
      · simp at hj
    rw [h1, h0]
    omega
  clear SLA SLB SLW
  go_wp2_with fail
  refine (book_own w4.heap.size bb lv2 _ _ BK3.out (by simp) hB16 HL.out).mono ?_
  rintro e w17 ⟨rfl, C⟩
  have D17 : Hid (Chg [] W1 w17) := (D12.out.trans P16.out).fresh C (fun j hj => .inr (by
    obtain ⟨i, v, xs, h1, h2⟩ := rowsOf_spec hj
    have h3 := ((BK3.out.row i v xs h1).lt j h2).1
    have h4 := D4s
    omega))
  clear C
  go_wp2_with fail
  go_ret
  exact ⟨by first | rfl | simp, C1.out.trans D17.out⟩

theorem superWrites_walk (s : Sup) (u : Value) (w : World) (hf : s.Fit) (hu : Sl w u s.st) (hg : s.st.length ≤ 140737488355328) :
    Calls Try.prog 3 #[s.val u] w fun e w' => e = .returned (.bool true) ∧ Chg [] w w' :=
  (superWrites_core s u w hf hu hg).mono fun _ _ h => ⟨h.1, h.2.out⟩

end Go.Proofs.Ytbeejoooefgeaaa
