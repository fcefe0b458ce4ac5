/-
  The closures that put a record's fields, and the program's three Encodes. By an AI agent. Printed by gen_rcpf.py.
-/
import Derived.Test.YtkafkdlgflkjgaaGreatBRcPk
import Derived.Test.YtkafkdlgflkjgaaGreatBRcGen
namespace Go.Proofs.YtkafkdlgflkjgaaGreat
open Go.RowKit Crc

theorem tail_cons (f : Nat) (fs : List Nat) : Rec.tail (f :: fs) = low 4 f ++ Rec.tail fs := rfl
theorem tail_nil : Rec.tail [] = [] := rfl

/-- What the program's Encodes hand out. -/
def PcEncs (w : World) (enc : List Nat) (err : Int) (e : Ending) (w' : World) : Prop :=
  ∃ v, e = .returned (.tuple #[v, .int .u16 err]) ∧ Hid (w'.ownsRow w.heap.size 5 1 v enc.length ((ints enc).map (Value.int .u8))) ∧ Hid (Chg [] w w')

theorem enters_EncodeHeader (args : Array Value) (w : World) : (callFunc 218 args).run Tryz.prog w = .ok (.enter 218 args) w := by
  have h1 : (Tryz.f218.name == "runtime.NumGoroutine") = false := by kernel_rfl
  have h2 : Tryz.f218.body.isNone = false := by kernel_rfl
  have h3 : ¬ Tryz.f218.name = "runtime.NumGoroutine" := by simpa using h1
  have h4 : ¬ Tryz.f218.body = none := fun e => by rw [e] at h2; cases h2
  simp [callFunc, go_sem, Tryz.func218, h3, h4]

set_option maxHeartbeats 4000000 in
set_option maxRecDepth 100000 in
theorem fields_Hd (h : Hd) (hok : h.Ok) (hsm : h.sm < 4294967296) (hb : Nat) (w : World) (B : Blk w hb 256 [.int .u64 (h.ep : Int), .int .u64 (h.sq : Int), .int .i64 h.ix, .int .i64 h.ct, .int .i64 h.mb, .int .i64 h.rw', .bool h.esc, .int .u32 (h.sm : Int)]) : PutsFields w 218 #[.pointer (some ⟨hb, 0, none⟩)] h.rec'.fs := by
  refine ⟨enters_EncodeHeader, fun W b g l c hbb hgg P hl => ?_⟩
  obtain ⟨_, a1, a2, a3, a4, a5, a6, a7, a8⟩ := hok
  obtain ⟨i, hi⟩ := Int.eq_ofNat_of_zero_le a3
  obtain ⟨c', hc⟩ := Int.eq_ofNat_of_zero_le (show 0 ≤ h.ct by omega)
  obtain ⟨m, hm⟩ := Int.eq_ofNat_of_zero_le a5
  obtain ⟨r, hr⟩ := Int.eq_ofNat_of_zero_le a7
  obtain ⟨fl, hfl⟩ : ∃ fl : Nat, fl = if h.esc = true then 1 else 0 := ⟨_, rfl⟩
  have bfl : fl ≤ 1 := by rw [hfl]; split <;> decide
  have hfs : Hid (h.rec'.fs = [i, c', m, r, fl, h.sm]) := by show _ = _; unfold Hd.rec'; rw [hi, hc, hm, hr, hfl]; rfl
  have FL0 := Lib.hid (fun W => flagsOf_any h W)
  rw [← hfl] at FL0
  clear hfl
  have bi : i < 1023 := by omega
  have bc : c' ≤ 1023 := by omega
  have bm : m ≤ 15 := by omega
  have br : r ≤ 4095 := by omega
  replace hi := Lib.hid hi
  replace hc := Lib.hid hc
  replace hm := Lib.hid hm
  replace hr := Lib.hid hr
  clear a1 a2 a3 a4 a5 a6 a7 a8
  rw [hfs.out]
  have hlt := B.lt
  have hnb : ¬ hb = b := by omega
  have hng : ¬ hb = g := by omega
  have K : Hid (∀ W', Chg [b, g] W W' → Blk W' hb 256 [.int .u64 (h.ep : Int), .int .u64 (h.sq : Int), .int .i64 h.ix, .int .i64 h.ct, .int .i64 h.mb, .int .i64 h.rw', .bool h.esc, .int .u32 (h.sm : Int)]) := fun W' d => (B.chg c (by simp)).chg d (by simp; exact ⟨hnb, hng⟩)
  have D : Hid (Chg [b, g] W W) := Chg.refl _ _
  replace P := Lib.hid P
  clear c hbb hgg hlt B
  go_enter Tryz.func218, Tryz.ntmps218
  have k0 := (K.out _ D.out).cell (j := 2) rfl
  rw [hi.out] at k0
  go_wp2_with fail
  refine (u32_put b g _ i W P.out (by omega) (by simp [hl])).mono ?_
  rintro e w1 ⟨rfl, P', C⟩
  replace D : Hid (Chg [b, g] W w1) := D.out.trans C.out
  clear P C k0
  have P := P'
  clear P'
  have k1 := (K.out _ D.out).cell (j := 3) rfl
  rw [hc.out] at k1
  go_wp2_with fail
  refine (u32_put b g _ c' w1 P.out (by omega) (by simp [low_length, hl])).mono ?_
  rintro e w2 ⟨rfl, P', C⟩
  replace D : Hid (Chg [b, g] W w2) := D.out.trans C.out
  clear P C k1
  have P := P'
  clear P'
  have k2 := (K.out _ D.out).cell (j := 4) rfl
  rw [hm.out] at k2
  go_wp2_with fail
  refine (u32_put b g _ m w2 P.out (by omega) (by simp [low_length, hl])).mono ?_
  rintro e w3 ⟨rfl, P', C⟩
  replace D : Hid (Chg [b, g] W w3) := D.out.trans C.out
  clear P C k2
  have P := P'
  clear P'
  have k3 := (K.out _ D.out).cell (j := 5) rfl
  rw [hr.out] at k3
  go_wp2_with fail
  refine (u32_put b g _ r w3 P.out (by omega) (by simp [low_length, hl])).mono ?_
  rintro e w4 ⟨rfl, P', C⟩
  replace D : Hid (Chg [b, g] W w4) := D.out.trans C.out
  clear P C k3
  have P := P'
  clear P'
  have k4_0 := (K.out _ D.out).cell (j := 0) rfl
  have k4_1 := (K.out _ D.out).cell (j := 1) rfl
  have k4_2 := (K.out _ D.out).cell (j := 2) rfl
  have k4_3 := (K.out _ D.out).cell (j := 3) rfl
  have k4_4 := (K.out _ D.out).cell (j := 4) rfl
  have k4_5 := (K.out _ D.out).cell (j := 5) rfl
  have k4_6 := (K.out _ D.out).cell (j := 6) rfl
  have k4_7 := (K.out _ D.out).cell (j := 7) rfl
  have FL := Lib.hid (FL0.out w4)
  unfold Hd.val at FL
  go_wp2_with fail
  refine FL.out.mono ?_
  rintro e w5' ⟨rfl, C⟩
  replace D : Hid (Chg [b, g] W w5') := D.out.trans (C.out.mono (by simp))
  replace P := Lib.hid (P.out.chg C.out (by simp) (by simp))
  clear C FL FL0 k4_0 k4_1 k4_2 k4_3 k4_4 k4_5 k4_6 k4_7
  go_wp2_with fail
  refine (u8_put b g _ fl w5' P.out (by omega) (by simp [low_length, hl])).mono ?_
  rintro e w5 ⟨rfl, P', C⟩
  replace D : Hid (Chg [b, g] W w5) := D.out.trans C.out
  clear P C
  have P := P'
  clear P'
  go_wp2_with fail
  refine (fill_put b g _ 3 w5 P.out (by simp [low_length, hl])).mono ?_
  rintro e w6 ⟨rfl, P', C⟩
  replace D : Hid (Chg [b, g] W w6) := D.out.trans C.out
  clear P C
  have P := P'
  clear P'
  have k6 := (K.out _ D.out).cell (j := 7) rfl
  go_wp2_with fail
  refine (u32_put b g _ h.sm w6 P.out hsm (by simp [low_length, noughts, hl])).mono ?_
  rintro e w7 ⟨rfl, P', C⟩
  replace D : Hid (Chg [b, g] W w7) := D.out.trans C.out
  clear P C k6
  have P := P'
  clear P'
  go_wp2_with fail
  go_end0
  refine ⟨rfl, ?_, D.out⟩
  have p := P.out
  have e : low 4 fl = [fl] ++ noughts 3 := by
    obtain rfl | rfl : fl = 0 ∨ fl = 1 := by omega
    all_goals rfl
  simp only [tail_cons, tail_nil, e, List.append_assoc, List.append_nil] at p ⊢
  exact p

set_option maxHeartbeats 4000000 in
set_option maxRecDepth 100000 in
theorem encHd_any (h : Hd) (w : World) (hep : h.ep < 18446744073709551616) (hsq : h.sq < 18446744073709551616) (hsm : h.sm < 4294967296) : Calls Tryz.prog 160 #[h.val] w (PcEncs w h.enc h.err) := by
  unfold PcEncs
  have C1 : Hid (Chg [] w (w.alloc (.cells #[.int .u64 (h.ep : Int), .int .u64 (h.sq : Int), .int .i64 h.ix, .int .i64 h.ct, .int .i64 h.mb, .int .i64 h.rw', .bool h.esc, .int .u32 (h.sm : Int)] 256))) := (Chg.refl _ w).alloc _
  have B1 : Hid (Blk (w.alloc (.cells #[.int .u64 (h.ep : Int), .int .u64 (h.sq : Int), .int .i64 h.ix, .int .i64 h.ct, .int .i64 h.mb, .int .i64 h.rw', .bool h.esc, .int .u32 (h.sm : Int)] 256)) w.heap.size 256 [.int .u64 (h.ep : Int), .int .u64 (h.sq : Int), .int .i64 h.ix, .int .i64 h.ct, .int .i64 h.mb, .int .i64 h.rw', .bool h.esc, .int .u32 (h.sm : Int)]) := Blk.made w _ _
  have s1 : (w.alloc (.cells #[.int .u64 (h.ep : Int), .int .u64 (h.sq : Int), .int .i64 h.ix, .int .i64 h.ct, .int .i64 h.mb, .int .i64 h.rw', .bool h.esc, .int .u32 (h.sm : Int)] 256)).heap.size = w.heap.size + 1 := by simp
  have VA := Lib.hid (fun W => headerValid_any h W)
  unfold Hd.val at VA ⊢
  by_cases hok : h.Ok
  case neg =>
    rw [decide_eq_false hok] at VA
    have er : h.err = 80 := by unfold Hd.err; rw [if_neg hok]
    have en : h.enc = [] := by unfold Hd.enc; rw [if_neg hok]
    rw [er, en]
    clear er en hok
    go_enter Tryz.func160, Tryz.ntmps160
    go_wp2_with fail
    refine (VA.out _).mono ?_
    rintro e w1 ⟨rfl, C⟩
    have C2 := Lib.hid (C1.out.trans C.out)
    clear C
    go_wp2_with fail
    go_ret2
    exact ⟨_, rfl, World.ownsRow_nil _ _ _ _, C2.out⟩
  rw [decide_eq_true hok] at VA
  have er : h.err = 0 := by unfold Hd.err; rw [if_pos hok]
  have en : h.enc = h.rec'.sector := by unfold Hd.enc; rw [if_pos hok]
  have SL : h.rec'.sector.length = 128 := Rec.sector_length (show 6 ≤ 25 by decide)
  rw [er, en, SL]
  clear er en SL
  have FI := Lib.hid (fun W (B : Blk W w.heap.size 256 [.int .u64 (h.ep : Int), .int .u64 (h.sq : Int), .int .i64 h.ix, .int .i64 h.ct, .int .i64 h.mb, .int .i64 h.rw', .bool h.esc, .int .u32 (h.sm : Int)]) => fields_Hd h hok hsm w.heap.size W B)
  have EN := Lib.hid (fun W k => encode_any 1 h.ep h.sq h.rec'.fs 218 #[.pointer (some ⟨w.heap.size, 0, none⟩)] W (by decide) hep hsq (show 6 ≤ 25 by decide) k)
  clear hok hep hsq hsm
  go_enter Tryz.func160, Tryz.ntmps160
  go_wp2_with fail
  refine (VA.out _).mono ?_
  rintro e w1 ⟨rfl, C⟩
  have C2 := Lib.hid (C1.out.trans C.out)
  have B2 := Lib.hid (B1.out.chg C.out (by simp))
  have hz := C.out.size
  rw [s1] at hz
  clear C C1 B1 s1 VA
  have k0 := B2.out.cell (j := 0) rfl
  have k1 := B2.out.cell (j := 1) rfl
  have EN1 := Lib.hid (EN.out w1 (FI.out w1 B2.out))
  clear FI EN B2
  go_wp2_with fail
  refine EN1.out.mono ?_
  rintro e w2 ⟨v, rfl, O, C⟩
  have C3 := Lib.hid (C2.out.trans C.out)
  clear C C2 k0 k1 EN1
  go_wp2_with fail
  go_ret2
  exact ⟨v, rfl, ownsRow_base O.out (by omega), C3.out⟩

theorem enters_EncodeCommit (args : Array Value) (w : World) : (callFunc 223 args).run Tryz.prog w = .ok (.enter 223 args) w := by
  have h1 : (Tryz.f223.name == "runtime.NumGoroutine") = false := by kernel_rfl
  have h2 : Tryz.f223.body.isNone = false := by kernel_rfl
  have h3 : ¬ Tryz.f223.name = "runtime.NumGoroutine" := by simpa using h1
  have h4 : ¬ Tryz.f223.body = none := fun e => by rw [e] at h2; cases h2
  simp [callFunc, go_sem, Tryz.func223, h3, h4]

set_option maxHeartbeats 4000000 in
set_option maxRecDepth 100000 in
theorem fields_Cm (h : Cm) (hok : h.Ok) (hsm : h.sm < 4294967296) (hb : Nat) (w : World) (B : Blk w hb 260 [.int .u64 (h.ep : Int), .int .u64 (h.sq : Int), .int .i64 h.ct, .int .u32 (h.sm : Int)]) : PutsFields w 223 #[.pointer (some ⟨hb, 0, none⟩)] h.rec'.fs := by
  refine ⟨enters_EncodeCommit, fun W b g l c hbb hgg P hl => ?_⟩
  obtain ⟨_, a1, a2⟩ := hok
  obtain ⟨c', hc⟩ := Int.eq_ofNat_of_zero_le (show 0 ≤ h.ct by omega)
  have hfs : Hid (h.rec'.fs = [c', h.sm]) := by show _ = _; unfold Cm.rec'; rw [hc]; rfl
  have bc : c' ≤ 1023 := by omega
  replace hc := Lib.hid hc
  clear a1 a2
  rw [hfs.out]
  have hlt := B.lt
  have hnb : ¬ hb = b := by omega
  have hng : ¬ hb = g := by omega
  have K : Hid (∀ W', Chg [b, g] W W' → Blk W' hb 260 [.int .u64 (h.ep : Int), .int .u64 (h.sq : Int), .int .i64 h.ct, .int .u32 (h.sm : Int)]) := fun W' d => (B.chg c (by simp)).chg d (by simp; exact ⟨hnb, hng⟩)
  have D : Hid (Chg [b, g] W W) := Chg.refl _ _
  replace P := Lib.hid P
  clear c hbb hgg hlt B
  go_enter Tryz.func223, Tryz.ntmps223
  have k0 := (K.out _ D.out).cell (j := 2) rfl
  rw [hc.out] at k0
  go_wp2_with fail
  refine (u32_put b g _ c' W P.out (by omega) (by simp [hl])).mono ?_
  rintro e w1 ⟨rfl, P', C⟩
  replace D : Hid (Chg [b, g] W w1) := D.out.trans C.out
  clear P C k0
  have P := P'
  clear P'
  have k1 := (K.out _ D.out).cell (j := 3) rfl
  go_wp2_with fail
  refine (u32_put b g _ h.sm w1 P.out hsm (by simp [low_length, hl])).mono ?_
  rintro e w2 ⟨rfl, P', C⟩
  replace D : Hid (Chg [b, g] W w2) := D.out.trans C.out
  clear P C k1
  have P := P'
  clear P'
  go_wp2_with fail
  go_end0
  refine ⟨rfl, ?_, D.out⟩
  have p := P.out
  simp only [tail_cons, tail_nil, List.append_assoc, List.append_nil] at p ⊢
  exact p

set_option maxHeartbeats 4000000 in
set_option maxRecDepth 100000 in
theorem encCm_any (h : Cm) (w : World) (hep : h.ep < 18446744073709551616) (hsq : h.sq < 18446744073709551616) (hsm : h.sm < 4294967296) : Calls Tryz.prog 163 #[h.val] w (PcEncs w h.enc h.err) := by
  unfold PcEncs
  have C1 : Hid (Chg [] w (w.alloc (.cells #[.int .u64 (h.ep : Int), .int .u64 (h.sq : Int), .int .i64 h.ct, .int .u32 (h.sm : Int)] 260))) := (Chg.refl _ w).alloc _
  have B1 : Hid (Blk (w.alloc (.cells #[.int .u64 (h.ep : Int), .int .u64 (h.sq : Int), .int .i64 h.ct, .int .u32 (h.sm : Int)] 260)) w.heap.size 260 [.int .u64 (h.ep : Int), .int .u64 (h.sq : Int), .int .i64 h.ct, .int .u32 (h.sm : Int)]) := Blk.made w _ _
  have s1 : (w.alloc (.cells #[.int .u64 (h.ep : Int), .int .u64 (h.sq : Int), .int .i64 h.ct, .int .u32 (h.sm : Int)] 260)).heap.size = w.heap.size + 1 := by simp
  have VA := Lib.hid (fun W => commitValid_any h W)
  unfold Cm.val at VA ⊢
  by_cases hok : h.Ok
  case neg =>
    rw [decide_eq_false hok] at VA
    have er : h.err = 80 := by unfold Cm.err; rw [if_neg hok]
    have en : h.enc = [] := by unfold Cm.enc; rw [if_neg hok]
    rw [er, en]
    clear er en hok
    go_enter Tryz.func163, Tryz.ntmps163
    go_wp2_with fail
    refine (VA.out _).mono ?_
    rintro e w1 ⟨rfl, C⟩
    have C2 := Lib.hid (C1.out.trans C.out)
    clear C
    go_wp2_with fail
    go_ret2
    exact ⟨_, rfl, World.ownsRow_nil _ _ _ _, C2.out⟩
  rw [decide_eq_true hok] at VA
  have er : h.err = 0 := by unfold Cm.err; rw [if_pos hok]
  have en : h.enc = h.rec'.sector := by unfold Cm.enc; rw [if_pos hok]
  have SL : h.rec'.sector.length = 128 := Rec.sector_length (show 2 ≤ 25 by decide)
  rw [er, en, SL]
  clear er en SL
  have FI := Lib.hid (fun W (B : Blk W w.heap.size 260 [.int .u64 (h.ep : Int), .int .u64 (h.sq : Int), .int .i64 h.ct, .int .u32 (h.sm : Int)]) => fields_Cm h hok hsm w.heap.size W B)
  have EN := Lib.hid (fun W k => encode_any 2 h.ep h.sq h.rec'.fs 223 #[.pointer (some ⟨w.heap.size, 0, none⟩)] W (by decide) hep hsq (show 2 ≤ 25 by decide) k)
  clear hok hep hsq hsm
  go_enter Tryz.func163, Tryz.ntmps163
  go_wp2_with fail
  refine (VA.out _).mono ?_
  rintro e w1 ⟨rfl, C⟩
  have C2 := Lib.hid (C1.out.trans C.out)
  have B2 := Lib.hid (B1.out.chg C.out (by simp))
  have hz := C.out.size
  rw [s1] at hz
  clear C C1 B1 s1 VA
  have k0 := B2.out.cell (j := 0) rfl
  have k1 := B2.out.cell (j := 1) rfl
  have EN1 := Lib.hid (EN.out w1 (FI.out w1 B2.out))
  clear FI EN B2
  go_wp2_with fail
  refine EN1.out.mono ?_
  rintro e w2 ⟨v, rfl, O, C⟩
  have C3 := Lib.hid (C2.out.trans C.out)
  clear C C2 k0 k1 EN1
  go_wp2_with fail
  go_ret2
  exact ⟨v, rfl, ownsRow_base O.out (by omega), C3.out⟩

theorem enters_EncodeCheck (args : Array Value) (w : World) : (callFunc 124 args).run Tryz.prog w = .ok (.enter 124 args) w := by
  have h1 : (Tryz.f124.name == "runtime.NumGoroutine") = false := by kernel_rfl
  have h2 : Tryz.f124.body.isNone = false := by kernel_rfl
  have h3 : ¬ Tryz.f124.name = "runtime.NumGoroutine" := by simpa using h1
  have h4 : ¬ Tryz.f124.body = none := fun e => by rw [e] at h2; cases h2
  simp [callFunc, go_sem, Tryz.func124, h3, h4]

set_option maxHeartbeats 4000000 in
set_option maxRecDepth 100000 in
theorem fields_Ck (h : Ck) (hok : h.Ok) (hb : Nat) (w : World) (B : Blk w hb 110 [.int .u64 (h.ep : Int), .int .u64 (h.sq : Int), .int .i64 h.tl]) : PutsFields w 124 #[.pointer (some ⟨hb, 0, none⟩)] h.rec'.fs := by
  refine ⟨enters_EncodeCheck, fun W b g l c hbb hgg P hl => ?_⟩
  obtain ⟨_, a1, a2⟩ := hok
  obtain ⟨i, hi⟩ := Int.eq_ofNat_of_zero_le a1
  have hfs : Hid (h.rec'.fs = [i]) := by show _ = _; unfold Ck.rec'; rw [hi]; rfl
  have bi : i ≤ 2047 := by omega
  replace hi := Lib.hid hi
  clear a1 a2
  rw [hfs.out]
  have hlt := B.lt
  have hnb : ¬ hb = b := by omega
  have hng : ¬ hb = g := by omega
  have K : Hid (∀ W', Chg [b, g] W W' → Blk W' hb 110 [.int .u64 (h.ep : Int), .int .u64 (h.sq : Int), .int .i64 h.tl]) := fun W' d => (B.chg c (by simp)).chg d (by simp; exact ⟨hnb, hng⟩)
  have D : Hid (Chg [b, g] W W) := Chg.refl _ _
  replace P := Lib.hid P
  clear c hbb hgg hlt B
  go_enter Tryz.func124, Tryz.ntmps124
  have k0 := (K.out _ D.out).cell (j := 2) rfl
  rw [hi.out] at k0
  go_wp2_with fail
  refine (u32_put b g _ i W P.out (by omega) (by simp [hl])).mono ?_
  rintro e w1 ⟨rfl, P', C⟩
  replace D : Hid (Chg [b, g] W w1) := D.out.trans C.out
  clear P C k0
  have P := P'
  clear P'
  go_wp2_with fail
  go_end0
  refine ⟨rfl, ?_, D.out⟩
  have p := P.out
  simp only [tail_cons, tail_nil, List.append_nil] at p ⊢
  exact p

set_option maxHeartbeats 4000000 in
set_option maxRecDepth 100000 in
theorem encCk_any (h : Ck) (w : World) (hep : h.ep < 18446744073709551616) (hsq : h.sq < 18446744073709551616) : Calls Tryz.prog 50 #[h.val] w (PcEncs w h.enc h.err) := by
  unfold PcEncs
  have C1 : Hid (Chg [] w (w.alloc (.cells #[.int .u64 (h.ep : Int), .int .u64 (h.sq : Int), .int .i64 h.tl] 110))) := (Chg.refl _ w).alloc _
  have B1 : Hid (Blk (w.alloc (.cells #[.int .u64 (h.ep : Int), .int .u64 (h.sq : Int), .int .i64 h.tl] 110)) w.heap.size 110 [.int .u64 (h.ep : Int), .int .u64 (h.sq : Int), .int .i64 h.tl]) := Blk.made w _ _
  have s1 : (w.alloc (.cells #[.int .u64 (h.ep : Int), .int .u64 (h.sq : Int), .int .i64 h.tl] 110)).heap.size = w.heap.size + 1 := by simp
  have VA := Lib.hid (fun W => checkValid_any h W)
  unfold Ck.val at VA ⊢
  by_cases hok : h.Ok
  case neg =>
    rw [decide_eq_false hok] at VA
    have er : h.err = 80 := by unfold Ck.err; rw [if_neg hok]
    have en : h.enc = [] := by unfold Ck.enc; rw [if_neg hok]
    rw [er, en]
    clear er en hok
    go_enter Tryz.func50, Tryz.ntmps50
    go_wp2_with fail
    refine (VA.out _).mono ?_
    rintro e w1 ⟨rfl, C⟩
    have C2 := Lib.hid (C1.out.trans C.out)
    clear C
    go_wp2_with fail
    go_ret2
    exact ⟨_, rfl, World.ownsRow_nil _ _ _ _, C2.out⟩
  rw [decide_eq_true hok] at VA
  have er : h.err = 0 := by unfold Ck.err; rw [if_pos hok]
  have en : h.enc = h.rec'.sector := by unfold Ck.enc; rw [if_pos hok]
  have SL : h.rec'.sector.length = 128 := Rec.sector_length (show 1 ≤ 25 by decide)
  rw [er, en, SL]
  clear er en SL
  have FI := Lib.hid (fun W (B : Blk W w.heap.size 110 [.int .u64 (h.ep : Int), .int .u64 (h.sq : Int), .int .i64 h.tl]) => fields_Ck h hok w.heap.size W B)
  have EN := Lib.hid (fun W k => encode_any 3 h.ep h.sq h.rec'.fs 124 #[.pointer (some ⟨w.heap.size, 0, none⟩)] W (by decide) hep hsq (show 1 ≤ 25 by decide) k)
  clear hok hep hsq
  go_enter Tryz.func50, Tryz.ntmps50
  go_wp2_with fail
  refine (VA.out _).mono ?_
  rintro e w1 ⟨rfl, C⟩
  have C2 := Lib.hid (C1.out.trans C.out)
  have B2 := Lib.hid (B1.out.chg C.out (by simp))
  have hz := C.out.size
  rw [s1] at hz
  clear C C1 B1 s1 VA
  have k0 := B2.out.cell (j := 0) rfl
  have k1 := B2.out.cell (j := 1) rfl
  have EN1 := Lib.hid (EN.out w1 (FI.out w1 B2.out))
  clear FI EN B2
  go_wp2_with fail
  refine EN1.out.mono ?_
  rintro e w2 ⟨v, rfl, O, C⟩
  have C3 := Lib.hid (C2.out.trans C.out)
  clear C C2 k0 k1 EN1
  go_wp2_with fail
  go_ret2
  exact ⟨v, rfl, ownsRow_base O.out (by omega), C3.out⟩

end Go.Proofs.YtkafkdlgflkjgaaGreat