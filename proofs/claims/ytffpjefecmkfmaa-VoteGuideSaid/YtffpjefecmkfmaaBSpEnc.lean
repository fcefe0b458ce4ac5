/-
  Encode. By an AI agent.
-/
import Derived.Test.YtffpjefecmkfmaaBSpBytes
import Derived.Test.YtffpjefecmkfmaaBCrcBits
namespace Go.Proofs.Ytffpjefecmkfmaa
open Go.RowKit Crc

/-- What Encode hands out. -/
def Sup.enc (s : Sup) : List Nat := if s.Ok then s.sector else []

def Encs (w : World) (s : Sup) (e : Ending) (w' : World) : Prop :=
  ∃ v, e = .returned (.tuple #[v, .int .u16 s.err]) ∧ Hid (w'.ownsRow w.heap.size 5 1 v s.enc.length ((ints s.enc).map (Value.int .u8))) ∧ Hid (Chg [] w w')

theorem Sup.Ok.len {s : Sup} (h : s.Ok) : s.st.length ≤ 16 := by
  have h1 := h.1.2.1
  have h2 := h.2.1.2.2.2.2.2.2.2.2
  omega

theorem low_bs4 (v : Nat) : Bs (low 4 v) := low_bs 4 v

theorem bs_app {a b : List Nat} (h : Bs a) (k : Bs b) : Bs (a ++ b) := fun x hx => by
  rcases List.mem_append.1 hx with hx | hx
  · exact h x hx
  · exact k x hx

theorem Sup.body_bs {s : Sup} (hf : s.Fit) : Bs s.body := by
  have hl := s.flags_lt
  have h4 : Bs [s.role.toNat % 256, s.m.toNat % 256, s.c.toNat % 256, s.flags] := by
    intro b h
    simp only [List.mem_cons, List.not_mem_nil, or_false] at h
    omega
  have h8 : Bs [83, 80, 83, 66, 1, 0, 0, 0] := by unfold Bs; decide
  have hr : Bs (List.replicate (80 - s.st.length) 0) := fun b h => by rw [(List.mem_replicate.1 h).2]; decide
  unfold Sup.body Sup.head
  exact bs_app (bs_app (bs_app (bs_app (bs_app (bs_app (bs_app (bs_app (bs_app h8 (low_bs _ _)) (low_bs _ _)) (low_bs _ _)) h4) (low_bs _ _)) (low_bs _ _)) (low_bs _ _)) (nats_bs hf.st)) hr

theorem Sup.sector_bs {s : Sup} (hf : s.Fit) : Bs s.sector := bs_app (Sup.body_bs hf) (low_bs _ _)

set_option maxHeartbeats 8000000 in
set_option maxRecDepth 100000 in
theorem enc_any (s : Sup) (u : Value) (w : World) (hf : s.Fit) (hu : Sl w u s.st) (hg : s.st.length ≤ 140737488355328) :
    Calls Try.prog 37 #[s.val u] w (Encs w s) := by
  have U := Lib.hid hu
  have CH := Lib.hid (fun W (c : Chg [] w W) => check_any s u W (hu.chg c (by simp)) hg)
  obtain ⟨ao, cp, rfl⟩ := hu.slice
  have HF := Lib.hid hf
  clear hu hf
  have EN : Hid (Encs w s = fun e w' => ∃ v, e = .returned (.tuple #[v, .int .u16 s.err]) ∧ Hid (w'.ownsRow w.heap.size 5 1 v s.enc.length ((ints s.enc).map (Value.int .u8))) ∧ Hid (Chg [] w w')) := rfl
  by_cases hok : s.Ok
  case neg =>
    have er : s.err = 70 := by unfold Sup.err; rw [if_neg hok]
    have en : s.enc = [] := by unfold Sup.enc; rw [if_neg hok]
    rw [er] at CH
    unfold Encs
    rw [er, en]
    clear hok er en EN
    unfold Sup.val at *
    go_enter Try.func37, Try.ntmps37
    go_wp2_with fail
    have C1 : Hid (Chg [] w (w.alloc (.cells (s.cells (.slice ao s.st.length cp)).toArray 29))) := (Chg.refl _ w).alloc _
    refine (CH.out _ C1.out).mono ?_
    rintro e w1 ⟨rfl, C⟩
    clear CH
    go_wp2_with fail
    go_ret2
    exact ⟨_, rfl, World.ownsRow_nil _ _ _ _, C1.out.trans C.out⟩
  have er : s.err = 0 := by unfold Sup.err; rw [if_pos hok]
  have en : s.enc = s.sector := by unfold Sup.enc; rw [if_pos hok]
  rw [er] at CH
  unfold Encs
  rw [er, en]
  clear er en EN
  have hl := hok.len
  have HK := Lib.hid hok
  have CO := Lib.hid (fun W (c : Chg [] w W) => content_any s (.slice ao s.st.length cp) W (U.out.chg c (by simp)) hl)
  have P0 := Lib.hid (fun W => pack_any (s.conts (.slice ao s.st.length cp) s.flags (pad16 s.st) ((0 : Nat) : Int)) (fits_sup s hok HF.out _ 0 (by decide)) W)
  rw [packed_sup s hok HF.out, show ((0 : Nat) : Int) = 0 from rfl] at P0
  have hsm : sum s.body < 4294967296 := more_lt (by decide) (Sup.body_bs HF.out)
  have P1 := Lib.hid (fun W => pack_any (s.conts (.slice ao s.st.length cp) s.flags (pad16 s.st) (sum s.body : Nat)) (fits_sup s hok HF.out _ _ hsm) W)
  rw [packed_sup s hok HF.out] at P1
  unfold Sup.val at *
  obtain ⟨i0, hi, hz0, hz1, hz2⟩ := info_parts info_content
  replace hi := Lib.hid hi
  replace hz0 := Lib.hid hz0
  clear hz1 hz2 hok
  go_enter Try.func37, Try.ntmps37
  go_wp2_with fail
  have C1 : Hid (Chg [] w (w.alloc (.cells (s.cells (.slice ao s.st.length cp)).toArray 29))) := (Chg.refl _ w).alloc _
  have B1 : Hid (Blk (w.alloc (.cells (s.cells (.slice ao s.st.length cp)).toArray 29)) w.heap.size 29 (s.cells (.slice ao s.st.length cp))) := Blk.made w _ _
  refine (CH.out _ C1.out).mono ?_
  rintro e w1 ⟨rfl, C⟩
  have C2 : Hid (Chg [] w w1) := C1.out.trans C.out
  have B2 := Lib.hid (B1.out.chg C.out (by simp))
  have RG : Hid (w1.rangeAt w.heap.size 0 [.int .u64 (s.id : Int), .int .u64 (s.ev : Int), .int .u64 (s.safe : Int), .int .i64 s.role, .int .i64 s.m, .int .i64 s.c, .int .i64 s.t, .int .i64 s.ring, .bool s.lazy, .bool s.lost, .slice ao s.st.length cp, .int .i64 s.cur]) := B2.out.rangeAll
  have SZ : Hid ((Try.prog.info? 29).map (·.size) = some ([.int .u64 (s.id : Int), .int .u64 (s.ev : Int), .int .u64 (s.safe : Int), .int .i64 s.role, .int .i64 s.m, .int .i64 s.c, .int .i64 s.t, .int .i64 s.ring, .bool s.lazy, .bool s.lost, .slice ao s.st.length cp, .int .i64 s.cur] : List Value).length) := size_super
  clear C C1 B1 CH B2
  go_wp2_with (with_reducible refine wpList_load_mid rfl 29 (.tmp 1) rfl w.heap.size 0 rfl [.int .u64 (s.id : Int), .int .u64 (s.ev : Int), .int .u64 (s.safe : Int), .int .i64 s.role, .int .i64 s.m, .int .i64 s.c, .int .i64 s.t, .int .i64 s.ring, .bool s.lazy, .bool s.lost, .slice ao s.st.length cp, .int .i64 s.cur] _ RG.out Try.underlying29 rfl SZ.out ?_)
  refine (CO.out _ C2.out).mono ?_
  rintro e w2 ⟨rfl, C⟩
  have C3 : Hid (Chg [] w w2) := C2.out.trans C.out
  have UL := conts_len s (.slice ao s.st.length cp) s.flags (pad16 s.st) 0 (pad16_len hl)
  have SC : Hid ((Try.prog.info? 73).map (·.size) = some (s.conts (.slice ao s.st.length cp) s.flags (pad16 s.st) 0).length) := by show _ = _; rw [UL]; exact size_content
  have LE : Hid (0 + (s.conts (.slice ao s.st.length cp) s.flags (pad16 s.st) 0).length ≤ zeroC.length) := by show _ ≤ _; rw [UL]; exact Nat.le_refl 31
  have ON := Lib.hid (conts_one s (.slice ao s.st.length cp) s.flags (pad16 s.st) 0 rfl (pad16_one _))
  have EL : Hid (lay zeroC 0 (s.conts (.slice ao s.st.length cp) s.flags (pad16 s.st) 0) = s.conts (.slice ao s.st.length cp) s.flags (pad16 s.st) 0) := lay_all _ _ (by rw [UL]; rfl)
  have S0 : Hid (∀ x : Int, (s.conts (.slice ao s.st.length cp) s.flags (pad16 s.st) 0).set 30 (.int .u32 x) = s.conts (.slice ao s.st.length cp) s.flags (pad16 s.st) x) := fun x => by
    unfold Sup.conts
    rw [List.set_append_right _ _ (by simp [pad16_len hl]), List.length_append, pad16_len hl]
    rfl
  have G0 : Hid ((s.conts (.slice ao s.st.length cp) s.flags (pad16 s.st) 0)[30]? = some (.int .u32 0)) := by
    show _ = _
    unfold Sup.conts
    rw [List.getElem?_append_right (by simp [pad16_len hl]), List.length_append, pad16_len hl]
    rfl
  clear C RG SZ CO C2
  generalize hCS : s.conts (.slice ao s.st.length cp) s.flags (pad16 s.st) 0 = CS at *
  replace hCS := Lib.hid hCS
  go_wp2_with (first
    | (with_reducible refine wpList_alloc_arr rfl 73 rfl i0 _ hi.out hz0.out ?_)
    | ((with_reducible refine wpList_store_blk rfl 73 (.tmp 5) (.tmp 12) rfl w2.heap.size 0 73 _ CS rfl rfl (made_agg w2 zeroC 73) LE.out SC.out ON.out ?_); intro w3 B4 C4; rw [EL.out] at B4; have RG4 : Hid (w3.rangeAt w2.heap.size 0 CS) := B4.out.rangeAll)
    | (with_reducible refine wpList_load_mid rfl 73 (.tmp 5) rfl w2.heap.size 0 rfl CS _ RG4.out Try.underlying73 rfl SC.out ?_))
  have C5 : Hid (Chg [] w w3) := C3.out.trans (((Chg.refl [] w2).alloc (.cells (Value.agg zeroC.toArray).cells 73)).fresh C4.out (fun j hj => .inr (by rw [List.mem_singleton.1 hj]; exact Nat.le_refl _)))
  have hww : w.heap.size ≤ w2.heap.size := C3.out.size
  obtain ⟨cb, hcb⟩ : ∃ cb, cb = w2.heap.size := ⟨_, rfl⟩
  rw [← hcb] at B4 RG4 hww ⊢
  clear hcb C4 C3 RG4 hi hz0 EL LE
  refine (P0.out w3).mono ?_
  rintro e w4 ⟨v, rfl, O, C⟩
  obtain ⟨vo, vc, rfl⟩ := owns_slice O.out
  have hcap : 128 ≤ vc := owned_cap O.out
  have C6 : Hid (Chg [] w w4) := C5.out.trans C.out
  have B6 := Lib.hid (B4.out.chg C.out (by simp))
  have SL : Hid (Sl w4 (.slice vo 124 vc) (ints s.body)) := by
    have h1 := Sl.pre (Sl.owned O.out : Sl w4 (.slice vo 128 vc) (ints (s.body ++ low 4 0))) 124 (by decide)
    have h2 : (ints (s.body ++ low 4 0)).take 124 = ints s.body := by
      rw [ints_app, List.take_left' (by rw [ints_length, Sup.body_length (by omega)])]
    rw [h2] at h1
    exact h1
  have SM := Lib.hid (sum_any (.slice vo 124 vc) (ints s.body) w4 SL.out (ints_by (Sup.body_bs HF.out)) (by rw [ints_length, Sup.body_length (by omega)]; decide))
  rw [nats_ints] at SM
  clear P0 O C B4 C5 SL
  generalize hSM0 : sum s.body = sm at *
  replace hSM0 := Lib.hid hSM0
  go_wp2_with fail
  refine SM.out.mono ?_
  rintro e w5 ⟨rfl, C⟩
  have C7 : Hid (Chg [] w w5) := C6.out.trans C.out
  have B7 := Lib.hid (B6.out.chg C.out (by simp))
  have f30 := B7.out.cell G0.out
  have z30 := B7.out.free 30
  have RG8 : Hid ((w5.setCell ⟨cb, 30, none⟩ (.int .u32 (sm : Int))).rangeAt cb 0 (CS.set 30 (.int .u32 (sm : Int)))) := (B7.out.set 30 _).rangeAll
  have SC8 : Hid ((Try.prog.info? 73).map (·.size) = some (CS.set 30 (.int .u32 (sm : Int))).length) := by show _ = _; rw [List.length_set]; exact SC.out
  have C8 : Hid (Chg [] w (w5.setCell ⟨cb, 30, none⟩ (.int .u32 (sm : Int)))) := C7.out.setCell (.inr hww) _
  have e8 := S0.out sm
  rw [e8] at RG8 SC8
  clear SM C B6 C6 S0 G0 SC B7 e8
  generalize hC2 : s.conts (.slice ao s.st.length cp) s.flags (pad16 s.st) (sm : Int) = CS2 at *
  replace hC2 := Lib.hid hC2
  go_wp2_with (with_reducible refine wpList_load_mid rfl 73 (.tmp 5) rfl cb 0 rfl CS2 _ RG8.out Try.underlying73 rfl SC8.out ?_)
  refine (P1.out _).mono ?_
  rintro e w6 ⟨v2, rfl, O, C⟩
  clear f30 z30 RG8 SC8
  have C9 : Hid (Chg [] w w6) := C8.out.trans C.out
  have hz := C8.out.size
  obtain ⟨o2, c2, rfl⟩ := owns_slice O.out
  have SS : Hid (s.sector = s.body ++ low 4 sm) := by show _ = _; rw [← hSM0.out]; rfl
  have SL : Hid (s.sector.length = 128) := Sup.sector_length (by omega)
  have O9 : Hid (w6.ownsRow w.heap.size 5 1 (.slice o2 128 c2) s.sector.length ((ints s.sector).map (Value.int .u8))) := by
    show World.ownsRow _ _ _ _ _ _ _
    rw [SL.out, SS.out]
    exact ownsRow_base O.out hz
  clear O C C8 C7 P1
  go_wp2_with fail
  go_ret2
  exact ⟨_, rfl, O9, C9⟩

end Go.Proofs.Ytffpjefecmkfmaa
