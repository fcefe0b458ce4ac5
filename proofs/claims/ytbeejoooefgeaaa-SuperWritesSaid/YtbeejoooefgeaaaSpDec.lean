/-
  Decode of a sector that was encoded. By an AI agent.
-/
import Derived.Test.YtbeejoooefgeaaaSpEnc
import Derived.Test.YtbeejoooefgeaaaSpSup
import Derived.Laws.BytesArg
import Derived.Laws.ResultCell
import Derived.Deep.RegionHeld3
namespace Go.Proofs.Ytbeejoooefgeaaa
open Go.RowKit Crc

set_option maxHeartbeats 400000 in
set_option maxRecDepth 100000 in
theorem equal_true (va vb : Value) (xs : List Int) (w : World) (hx : xs ≠ []) (ha : Sl w va xs) (hb : Sl w vb xs) :
    Calls Try.prog 54 #[va, vb] w fun e w' => e = .returned (.bool true) ∧ Hid (Chg [] w w') := by
  rcases ha with ⟨h0, _⟩ | ⟨b1, o1, c1, rfl, l1, k1⟩
  · exact absurd h0 hx
  rcases hb with ⟨h0, _⟩ | ⟨b2, o2, c2, rfl, l2, k2⟩
  · exact absurd h0 hx
  have q1 : (convert 32 9 (.slice (some ⟨b1, o1, none⟩) xs.length c1)).run Try.prog w = .ok (.string (strOfNums xs)) w := run_convert_bytes_arg w 32 5 Try.underlying32 Try.underlying5 b1 o1 xs.length c1 xs rfl k1 9 Try.underlying9
  have q2 : (convert 32 9 (.slice (some ⟨b2, o2, none⟩) xs.length c2)).run Try.prog w = .ok (.string (strOfNums xs)) w := run_convert_bytes_arg w 32 5 Try.underlying32 Try.underlying5 b2 o2 xs.length c2 xs rfl k2 9 Try.underlying9
  generalize strOfNums xs = S at *
  clear k1 k2 hx
  go_enter Try.func54, Try.ntmps54
  go_wp2_with fail
  go_ret
  exact ⟨rfl, Chg.refl _ _⟩

set_option maxRecDepth 100000 in
theorem unpacked_packed (id ev safe role m c fl t ring cur sm : Int) (p : List Int) (hp : p.length = 16) :
    unpacked (leBytes 8 5407723603 ++ leBytes 8 id ++ leBytes 8 ev ++ leBytes 8 safe ++ leBytes 1 role ++ leBytes 1 m ++ leBytes 1 c ++ leBytes 1 fl ++ leBytes 2 t ++ leBytes 2 ring ++ leBytes 2 cur ++ List.replicate 2 0 ++ p.flatMap (leBytes 1) ++ List.replicate 64 0 ++ leBytes 4 sm) =
    [.int .u64 (leNum (leBytes 8 id)), .int .u64 (leNum (leBytes 8 ev)), .int .u64 (leNum (leBytes 8 safe)), .int .i64 (leNum (leBytes 1 role)), .int .i64 (leNum (leBytes 1 m)), .int .i64 (leNum (leBytes 1 c)), .int .i64 (leNum (leBytes 2 t)), .int .i64 (leNum (leBytes 2 ring)), .bool false, .bool false, .slice none 0 0, .int .i64 (leNum (leBytes 2 cur)), .int .u64 (leNum (leBytes 8 5407723603)), .int .u8 (leNum (leBytes 1 fl))] ++ p.map (fun x => .int .u8 (leNum (leBytes 1 x))) ++ [.int .u32 (leNum (leBytes 4 sm))] := by
  obtain ⟨p0, p1, p2, p3, p4, p5, p6, p7, p8, p9, pa, pb, pc, pd, pe, pf, rfl⟩ := list16 hp
  kernel_rfl

theorem leNum_in {n : Nat} {v : Int} (h : 0 ≤ v) (h1 : v < 2 ^ (8 * n)) : leNum (leBytes n v) = v := by
  rw [leNum_leBytes, Int.emod_eq_of_lt h h1]

/-- What is read of a valid superblock's sector. -/
theorem unpacked_sup (s : Sup) (h : s.Ok) (hf : s.Fit) : unpacked (ints s.sector) = s.raw.conts (.slice none 0 0) s.flags (pad16 s.st) (sum s.body : Nat) := by
  have hsm : sum s.body < 4294967296 := more_lt (by decide) (Sup.body_bs hf)
  have e : ints s.sector = packed (s.conts (.slice none 0 0) s.flags (pad16 s.st) (sum s.body : Nat)) := (packed_sup s h hf _ _).symm
  obtain ⟨⟨a1, a2, a3, a4, a5, a6⟩, ⟨b1, b2, b3, b4, b5, b6, b7, b8, b9⟩, _, d1, d2, d3, d4⟩ := h
  have hl : s.st.length ≤ 16 := by omega
  have f1 := hf.id
  have f2 := hf.ev
  have f3 := hf.safe
  have f4 := s.flags_lt
  have p8 : (2 : Int) ^ (8 * 8) = 18446744073709551616 := by decide
  have p4 : (2 : Int) ^ (8 * 4) = 4294967296 := by decide
  have p2 : (2 : Int) ^ (8 * 2) = 65536 := by decide
  have p1 : (2 : Int) ^ (8 * 1) = 256 := by decide
  rw [e, pad16_eq, packed_conts s _ _ _ _ (padI_len hl), unpacked_packed _ _ _ _ _ _ _ _ _ _ _ _ (padI_len hl)]
  rw [leNum_in (n := 8) (v := s.id) (by omega) (by rw [p8]; omega), leNum_in (n := 8) (v := s.ev) (by omega) (by rw [p8]; omega), leNum_in (n := 8) (v := s.safe) (by omega) (by rw [p8]; omega), leNum_in (n := 1) (v := s.role) (by omega) (by rw [p1]; omega), leNum_in (n := 1) (v := s.m) (by omega) (by rw [p1]; omega), leNum_in (n := 1) (v := s.c) (by omega) (by rw [p1]; omega), leNum_in (n := 2) (v := s.t) (by omega) (by rw [p2]; omega), leNum_in (n := 2) (v := s.ring) (by omega) (by rw [p2]; omega), leNum_in (n := 2) (v := s.cur) (by omega) (by rw [p2]; omega), leNum_in (n := 8) (v := 5407723603) (by decide) (by decide), leNum_in (n := 1) (v := s.flags) (by omega) (by rw [p1]; omega), leNum_in (n := 4) (v := (sum s.body : Nat)) (by omega) (by rw [p4]; omega)]
  have em : (padI s.st).map (fun x => Value.int .u8 (leNum (leBytes 1 x))) = (padI s.st).map (Value.int .u8) := by
    refine List.map_congr_left fun x hx => ?_
    have hb := padI_by hf.st x hx
    rw [leNum_in hb.1 (by rw [p1]; omega)]
  rw [em]
  rfl

/-- A result that is a struct's cell, and another one. -/
theorem cell_and_tmp {fn : Func} {p u : Tmp} {ty : TypeId} {P : Program} (h : fn.results = #[.cell p ty, .tmp u]) (tmps : Array Value) (w : World) (g : Nat) (t : TypeId) (cs : Array Value) (fr : Nat × Nat) (fs)
    (hp : tmps.getD p undef = .pointer (some ⟨g, 0, none⟩)) (hg : w.heap[g]? = some (.cells cs t fr))
    (hu : P.underlying ty = some (.struct fs)) (hi : (P.info? ty).map (·.size) = some cs.size) :
    (results fn tmps).run P w = .ok (.tuple #[.agg cs, tmps.getD u undef]) w := by
  rw [results_cell_tmp h, hp]
  have e1 : (asAddr (.pointer (some ⟨g, 0, none⟩))).run P w = .ok ⟨g, 0, none⟩ w := rfl
  rw [e1]
  have e2 := run_loadVar_row w g t ty cs fr _ hg hu rfl hi
  simp only [Result.andThen]
  rw [e2]

/-- What Decode hands out of a valid superblock's sector. -/
def Decs (w : World) (s : Sup) (e : Ending) (w' : World) : Prop :=
  ∃ u, e = .returned (.tuple #[s.val u, .int .u16 0]) ∧ Hid (w'.ownsRow w.heap.size 61 1 u s.st.length (s.st.map (Value.int .u8))) ∧ Hid (Chg [] w w')

set_option maxHeartbeats 8000000 in
set_option maxRecDepth 100000 in
theorem dec_ok (s : Sup) (v : Value) (w : World) (hok : s.Ok) (hf : s.Fit) (hv : Sl w v (ints s.sector)) (hcap : ∀ ao n c, v = .slice ao n c → n ≤ c) :
    Calls Try.prog 31 #[v] w (Decs w s) := by
  have hl := hok.len
  have h3 : 0 < s.st.length := by
    have h1 := hok.1.1
    have h2 := hok.2.1.2.2.2.2.2.2.2.2
    omega
  have hm := hok.2.1.2.2.2.2.2.2.2.2
  have L128 : (ints s.sector).length = 128 := by rw [ints_length, Sup.sector_length (by omega)]
  have BY := ints_by (Sup.sector_bs hf)
  have V := Lib.hid (fun W (c : Chg [] w W) => hv.chg c (by simp))
  obtain ⟨vo, vc, rfl⟩ := hv.slice
  rw [L128] at V
  have UP := Lib.hid (fun W (c : Chg [] w W) => unpack_any _ _ W (V.out W c) L128 BY)
  rw [unpacked_sup s hok hf] at UP
  have hsm : sum s.body < 4294967296 := more_lt (by decide) (Sup.body_bs hf)
  have SU := Lib.hid (fun W => super_any s (sum s.body : Nat) W hl h3 hm)
  have EC := Lib.hid (fun W u (h : Sl W u s.st) => enc_any s u W hf h (by omega))
  have er : s.err = 0 := by unfold Sup.err; rw [if_pos hok]
  have en : s.enc = s.sector := by unfold Sup.enc; rw [if_pos hok]
  replace hcap := hcap _ _ _ rfl
  have SL : Hid (∀ W, Chg [] w W → Sl W (.slice vo 124 vc) (ints s.body)) := fun W c => by
    have h1 := Sl.pre (V.out W c : Sl W (.slice vo 128 vc) (ints s.sector)) 124 (by decide)
    have h2 : (ints s.sector).take 124 = ints s.body := by
      unfold Sup.sector
      rw [ints_app, List.take_left' (by rw [ints_length, Sup.body_length (by omega)])]
    rw [h2] at h1
    exact h1
  have SM := Lib.hid (fun W (c : Chg [] w W) => sum_any (.slice vo 124 vc) (ints s.body) W (SL.out W c) (ints_by (Sup.body_bs hf)) (by rw [ints_length, Sup.body_length (by omega)]; decide))
  rw [nats_ints] at SM
  have EQ := Lib.hid (fun W u (c : Chg [] w W) (h : Sl W u (ints s.sector)) => equal_true u _ _ W (by intro h0; rw [h0] at L128; cases L128) h (V.out W c))
  have UL : (s.raw.conts (.slice none 0 0) s.flags (pad16 s.st) (sum s.body : Nat)).length = 31 := conts_len _ _ _ _ _ (pad16_len hl)
  have G12 : Hid ((s.raw.conts (.slice none 0 0) s.flags (pad16 s.st) (sum s.body : Nat))[12]? = some (.int .u64 5407723603)) := rfl
  have G30 : Hid ((s.raw.conts (.slice none 0 0) s.flags (pad16 s.st) (sum s.body : Nat))[30]? = some (.int .u32 (sum s.body : Nat))) := by
    show _ = _
    unfold Sup.conts
    rw [List.getElem?_append_right (by simp [pad16_len hl]), List.length_append, pad16_len hl]
    rfl
  have ONC := Lib.hid (conts_one s.raw (.slice none 0 0) s.flags (pad16 s.st) (sum s.body : Nat) rfl (pad16_one _))
  replace hm := Lib.hid hm
  rw [L128] at hcap ⊢
  obtain ⟨i0, hi, hz0, hz1, hz2⟩ := info_parts info_content
  replace hi := Lib.hid hi
  replace hz0 := Lib.hid hz0
  clear hz1 hz2
  obtain ⟨i1, hj, hy0, hy1, hy2⟩ := info_parts info_super2
  replace hj := Lib.hid hj
  replace hy0 := Lib.hid hy0
  clear hy1 hy2
  have SC : Hid ((Try.prog.info? 65).map (·.size) = some (s.raw.conts (.slice none 0 0) s.flags (pad16 s.st) (sum s.body : Nat)).length) := by show _ = _; rw [UL]; exact size_content
  have LE : Hid (0 + (s.raw.conts (.slice none 0 0) s.flags (pad16 s.st) (sum s.body : Nat)).length ≤ zeroC.length) := by show _ ≤ _; rw [UL]; exact Nat.le_refl 31
  have EL : Hid (lay zeroC 0 (s.raw.conts (.slice none 0 0) s.flags (pad16 s.st) (sum s.body : Nat)) = s.raw.conts (.slice none 0 0) s.flags (pad16 s.st) (sum s.body : Nat)) := lay_all _ _ (by rw [UL]; rfl)
  have HOK := Lib.hid hok
  have HFT := Lib.hid hf
  replace L128 := Lib.hid L128
  replace BY := Lib.hid BY
  clear hv SL UL hok hf
  generalize hCS : s.raw.conts (.slice none 0 0) s.flags (pad16 s.st) (sum s.body : Nat) = CS at *
  replace hCS := Lib.hid hCS
  generalize hSM0 : sum s.body = sm at *
  replace hSM0 := Lib.hid hSM0
  have R0 : Hid (Blk (w.alloc (.cells zero12.toArray 27)) w.heap.size 27 zero12) := Blk.made w _ _
  have C0 : Hid (Chg [] w (w.alloc (.cells zero12.toArray 27))) := (Chg.refl _ _).alloc _
  go_enter Try.func31, Try.ntmps31
  go_wp2_with (with_reducible refine wpList_alloc_arr rfl 27 rfl i1 _ hj.out hy0.out ?_)
  refine (UP.out _ C0.out).mono ?_
  rintro e w1 ⟨rfl, C⟩
  have C1 : Hid (Chg [] w w1) := C0.out.trans C.out
  have R1 := Lib.hid (R0.out.chg C.out (by simp))
  clear C R0 C0 UP
  go_upto_region 4 with (first
    | (with_reducible refine wpList_alloc_arr rfl 65 rfl i0 _ hi.out hz0.out ?_)
    | ((with_reducible refine wpList_store_blk rfl 65 (.tmp 4) (.tmp 13) rfl w1.heap.size 0 65 _ CS rfl rfl (made_agg w1 zeroC 65) LE.out SC.out ONC.out ?_); intro w2 B2 C2; rw [EL.out] at B2))
  have C3 : Hid (Chg [] w1 w2) := ((Chg.refl [] w1).alloc (.cells (Value.agg zeroC.toArray).cells 65)).fresh C2.out (fun j hj => .inr (by rw [List.mem_singleton.1 hj]; exact Nat.le_refl _))
  have R2 := Lib.hid (R1.out.chg C3.out (by simp))
  have C4 := Lib.hid (C1.out.trans C3.out)
  have hRc : w.heap.size < w1.heap.size := R1.out.lt
  clear R1 C1 C2 C3 EL LE ONC
  obtain ⟨cb, hcb⟩ : ∃ cb, cb = w1.heap.size := ⟨_, rfl⟩
  rw [← hcb] at B2 hRc ⊢
  clear hcb
  have f12 := B2.out.cell G12.out
  have f30 := B2.out.cell G30.out
  go_upto_region 6 with fail
  have SM6 := Lib.hid (SM.out (w2.drewN 1) (C4.out.drewN 1))
  have hcl : cb < w2.heap.size := B2.out.lt
  have K0 : Hid (∀ w', Chg [] (w2.drewN 1) w' → w'.cell? ⟨cb, 30, none⟩ = some (.int .u32 (sm : Int))) := fun w' C => (C.cell (p := ⟨cb, 30, none⟩) hcl (by simp)).trans f30
  have h124 : (124 : Int) ≤ vc := by omega
  clear SM
  go_region_held3 (fun w' : World => w'.cell? ⟨cb, 30, none⟩ = some (.int .u32 (sm : Int))) (first | exact f30 | exact K0.out _ D1.out) (first
    | (go_at_call 23; refine SM6.out.mono ?_; rintro e w3 ⟨rfl, D⟩; have D1 : Hid (Chg [] (w2.drewN 1) w3) := D; clear D))
  have C5 : Hid (Chg [] w w3) := (C4.out.drewN 1).trans D1.out
  have R3 : Hid (Blk w3 w.heap.size 27 zero12) := (R2.out.drewN 1).chg D1.out (by simp)
  have B3 : Hid (Blk w3 cb 65 CS) := (B2.out.drewN 1).chg D1.out (by simp)
  have RG : Hid (w3.rangeAt cb 0 CS) := B3.out.rangeAll
  clear SM6 K0 D1 C4 R2 B2 f12 f30 B3
  go_wp2_with (with_reducible refine wpList_load_mid rfl 65 (.tmp 4) rfl cb 0 rfl CS _ RG.out Try.underlying65 rfl SC.out ?_)
  refine (SU.out w3).mono ?_
  rintro e w4 ⟨u, rfl, O, C⟩
  have O4 := Lib.hid O.out
  have C6 : Hid (Chg [] w w4) := C5.out.trans C.out
  have R4 := Lib.hid (R3.out.chg C.out (by simp))
  have hz3 := R3.out.lt
  obtain ⟨uo, uc, rfl⟩ := owns_slice O.out
  have ON : Hid (∀ v ∈ ([.int .u64 (s.id : Int), .int .u64 (s.ev : Int), .int .u64 (s.safe : Int), .int .i64 s.role, .int .i64 s.m, .int .i64 s.c, .int .i64 s.t, .int .i64 s.ring, .bool s.lazy, .bool s.lost, .slice uo s.st.length uc, .int .i64 s.cur] : List Value), v.oneCell' = true) := one12u s uo uc
  have LE : Hid (0 + ([.int .u64 (s.id : Int), .int .u64 (s.ev : Int), .int .u64 (s.safe : Int), .int .i64 s.role, .int .i64 s.m, .int .i64 s.c, .int .i64 s.t, .int .i64 s.ring, .bool s.lazy, .bool s.lost, .slice uo s.st.length uc, .int .i64 s.cur] : List Value).length ≤ zero12.length) := Nat.le_refl 12
  have SZ : Hid ((Try.prog.info? 27).map (·.size) = some ([.int .u64 (s.id : Int), .int .u64 (s.ev : Int), .int .u64 (s.safe : Int), .int .i64 s.role, .int .i64 s.m, .int .i64 s.c, .int .i64 s.t, .int .i64 s.ring, .bool s.lazy, .bool s.lost, .slice uo s.st.length uc, .int .i64 s.cur] : List Value).length) := size_super
  have EL : Hid (lay zero12 0 ([.int .u64 (s.id : Int), .int .u64 (s.ev : Int), .int .u64 (s.safe : Int), .int .i64 s.role, .int .i64 s.m, .int .i64 s.c, .int .i64 s.t, .int .i64 s.ring, .bool s.lazy, .bool s.lost, .slice uo s.st.length uc, .int .i64 s.cur] : List Value) = [.int .u64 (s.id : Int), .int .u64 (s.ev : Int), .int .u64 (s.safe : Int), .int .i64 s.role, .int .i64 s.m, .int .i64 s.c, .int .i64 s.t, .int .i64 s.ring, .bool s.lazy, .bool s.lost, .slice uo s.st.length uc, .int .i64 s.cur]) := lay_all _ _ rfl
  unfold Sup.val
  clear O C RG C5 R3 SU SC
  go_wp2_with (first
    | (with_reducible refine wpList_alloc_arr rfl 27 rfl i1 _ hj.out hy0.out ?_)
    | ((with_reducible refine wpList_store_blk rfl 27 (.tmp 5) (.tmp 26) rfl w4.heap.size 0 27 zero12 [.int .u64 (s.id : Int), .int .u64 (s.ev : Int), .int .u64 (s.safe : Int), .int .i64 s.role, .int .i64 s.m, .int .i64 s.c, .int .i64 s.t, .int .i64 s.ring, .bool s.lazy, .bool s.lost, .slice uo s.st.length uc, .int .i64 s.cur] rfl rfl (made_agg w4 zero12 27) LE.out SZ.out ON.out ?_); intro w5 B5 C7; rw [EL.out] at B5; have RG5 : Hid (w5.rangeAt w4.heap.size 0 [.int .u64 (s.id : Int), .int .u64 (s.ev : Int), .int .u64 (s.safe : Int), .int .i64 s.role, .int .i64 s.m, .int .i64 s.c, .int .i64 s.t, .int .i64 s.ring, .bool s.lazy, .bool s.lost, .slice uo s.st.length uc, .int .i64 s.cur]) := B5.out.rangeAll)
    | (with_reducible refine wpList_load_mid rfl 27 (.tmp 5) rfl w4.heap.size 0 rfl [.int .u64 (s.id : Int), .int .u64 (s.ev : Int), .int .u64 (s.safe : Int), .int .i64 s.role, .int .i64 s.m, .int .i64 s.c, .int .i64 s.t, .int .i64 s.ring, .bool s.lazy, .bool s.lost, .slice uo s.st.length uc, .int .i64 s.cur] _ RG5.out Try.underlying27 rfl SZ.out ?_))
  have C8 : Hid (Chg [] w4 w5) := ((Chg.refl [] w4).alloc (.cells (Value.agg zero12.toArray).cells 27)).fresh C7.out (fun j hj => .inr (by rw [List.mem_singleton.1 hj]; exact Nat.le_refl _))
  have C9 : Hid (Chg [] w w5) := C6.out.trans C8.out
  have O5 := Lib.hid (owns_chg O4.out C8.out (by simp))
  have R5 := Lib.hid (R4.out.chg C8.out (by simp))
  have hRd : w.heap.size < w4.heap.size := R4.out.lt
  obtain ⟨sb, hsb⟩ : ∃ sb, sb = w4.heap.size := ⟨_, rfl⟩
  rw [← hsb] at B5 hRd ⊢
  clear hsb C6 C7 C8 O4 R4 RG5 hi hz0 hj hy0
  have EC5 := Lib.hid (EC.out w5 (.slice uo s.st.length uc) (Sl.owned O5.out))
  unfold Sup.val Encs at EC5
  rw [er, en] at EC5
  clear EC er en
  refine EC5.out.mono ?_
  rintro e w6 ⟨v2, rfl, OE, C⟩
  have C10 : Hid (Chg [] w w6) := C9.out.trans C.out
  have O6 := Lib.hid (owns_chg O5.out C.out (by simp))
  have R6 := Lib.hid (R5.out.chg C.out (by simp))
  have B6 := Lib.hid (B5.out.chg C.out (by simp))
  have EQ6 := Lib.hid (EQ.out w6 v2 C10.out (Sl.owned OE.out))
  obtain ⟨v2o, v2c, rfl⟩ := owns_slice OE.out
  rw [ints_length] at L128
  rw [L128.out] at EQ6 ⊢
  clear EC5 C OE C9 O5 R5 B5 EQ
  go_wp2_with fail
  refine EQ6.out.mono ?_
  rintro e w7 ⟨rfl, C⟩
  have C11 : Hid (Chg [] w w7) := C10.out.trans C.out
  have O7 := Lib.hid (owns_chg O6.out C.out (by simp))
  have R7 := Lib.hid (R6.out.chg C.out (by simp))
  have RG7 : Hid (w7.rangeAt sb 0 [.int .u64 (s.id : Int), .int .u64 (s.ev : Int), .int .u64 (s.safe : Int), .int .i64 s.role, .int .i64 s.m, .int .i64 s.c, .int .i64 s.t, .int .i64 s.ring, .bool s.lazy, .bool s.lost, .slice uo s.st.length uc, .int .i64 s.cur]) := (B6.out.chg C.out (by simp)).rangeAll
  clear EQ6 C C10 O6 R6 B6
  go_wp2_with (first
    | ((with_reducible refine wpList_store_blk rfl 27 (.tmp 2) (.tmp 41) rfl w.heap.size 0 27 zero12 [.int .u64 (s.id : Int), .int .u64 (s.ev : Int), .int .u64 (s.safe : Int), .int .i64 s.role, .int .i64 s.m, .int .i64 s.c, .int .i64 s.t, .int .i64 s.ring, .bool s.lazy, .bool s.lost, .slice uo s.st.length uc, .int .i64 s.cur] rfl rfl R7.out LE.out SZ.out ON.out ?_); intro w8 B8 C12; rw [EL.out] at B8)
    | (with_reducible refine wpList_load_mid rfl 27 (.tmp 5) rfl sb 0 rfl [.int .u64 (s.id : Int), .int .u64 (s.ev : Int), .int .u64 (s.safe : Int), .int .i64 s.role, .int .i64 s.m, .int .i64 s.c, .int .i64 s.t, .int .i64 s.ring, .bool s.lazy, .bool s.lost, .slice uo s.st.length uc, .int .i64 s.cur] _ RG7.out Try.underlying27 rfl SZ.out ?_))
  refine bodyPost_ret (cell_and_tmp rfl _ _ w.heap.size _ _ _ _ rfl B8.out Try.underlying27 SZ.out) rfl ?_
  have hoz : w.heap.size ≤ w3.heap.size := by omega
  refine ⟨.slice uo s.st.length uc, rfl, ?_, C11.out.fresh C12.out (fun j hj => .inr (by rw [List.mem_singleton.1 hj]; exact Nat.le_refl _))⟩
  refine ownsRow_base (owns_chg O7.out C12.out (fun k hk hm => ?_)) hoz
  have h1 := (O7.out.lt k hk).1
  rw [List.mem_singleton.1 hm] at h1
  omega

end Go.Proofs.Ytbeejoooefgeaaa
