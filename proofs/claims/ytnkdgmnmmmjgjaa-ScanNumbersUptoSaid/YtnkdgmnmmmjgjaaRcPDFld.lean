/-
  The closures that read a record's fields. By an AI agent. Printed by gen_rcpd.py.
-/
import Derived.Test.YtnkdgmnmmmjgjaaRcPDec
namespace Go.Proofs.Ytnkdgmnmmmjgjaa
open Go.RowKit Crc

/-- A struct's cells. -/
def cellsOf : Value → List Value
  | .agg xs => xs.toList
  | _ => []

theorem enters_DecodeHeader (args : Array Value) (w : World) : (callFunc 68 args).run Try.prog w = .ok (.enter 68 args) w := by
  have h1 : (Try.f68.name == "runtime.NumGoroutine") = false := by kernel_rfl
  have h2 : Try.f68.body.isNone = false := by kernel_rfl
  have h3 : ¬ Try.f68.name = "runtime.NumGoroutine" := by simpa using h1
  have h4 : ¬ Try.f68.body = none := fun e => by rw [e] at h2; cases h2
  simp [callFunc, go_sem, Try.func68, h3, h4]

set_option maxHeartbeats 8000000 in
set_option maxRecDepth 100000 in
theorem reads_Hd (a : List Nat) (ha : Bs a) (hl : a.length = 124) (hb : Nat) (w : World) (B : Blk w hb 62 [.int .u64 0, .int .u64 0, .int .i64 0, .int .i64 0, .int .i64 0, .int .i64 0, .bool false, .int .u32 0]) : ReadsFields w 68 #[.pointer (some ⟨hb, 0, none⟩)] hb a 48 (decide (cut a 41 3 = noughts 3)) (decide (Hd.of a).Ok && decide (a.getD 40 0 ≤ 1)) 62 (cellsOf (Hd.of a).val) := by
  refine ⟨enters_DecodeHeader, fun W rb v x y t c hrb hv R hxy hx hy => ?_⟩
  have hlt := B.lt
  have hnb : ¬ hb = rb := by omega
  have hnr : ¬ rb = hb := by omega
  have hnv : Hid (∀ k, v.ownBlock = some k → k ∉ [hb]) := fun k hk => by have := hv k hk; simp; omega
  have B0 : Hid (Blk W hb 62 [.int .u64 0, .int .u64 0, .int .i64 0, .int .i64 0, .int .i64 0, .int .i64 0, .bool false, .int .u32 0]) := B.chg c (by simp)
  replace R := Lib.hid R
  replace hxy := Lib.hid hxy
  replace ha := Lib.hid ha
  obtain ⟨z, hz⟩ : ∃ z, z = decide (cut a 41 3 = noughts 3) := ⟨_, rfl⟩
  have NO := Lib.hid (fun W (Q : RdAt W rb v a 41 t) => noughts_at rb v a 41 3 t W Q (by omega) (by omega))
  rw [← hz] at NO ⊢
  clear hz
  have f0 := B0.out.free 0
  have f1 := B0.out.free 1
  have c0 := B0.out.cell (j := 0) rfl
  have c1 := B0.out.cell (j := 1) rfl
  clear c B hv hlt
  go_enter Try.func68, Try.ntmps68
  go_wp2_with fail
  have B1 := Lib.hid ((B0.out.set 0 (.int .u64 (x : Int))).set 1 (.int .u64 (y : Int)))
  have D : Hid (Chg [hb, rb] W _) := ((Chg.refl [hb, rb] W).setCell (p := ⟨hb, 0, none⟩) (.inl (by simp)) (.int .u64 (x : Int))).setCell (p := ⟨hb, 1, none⟩) (.inl (by simp)) (.int .u64 (y : Int))
  replace R := Lib.hid (R.out.chg (((Chg.refl [hb] W).setCell (p := ⟨hb, 0, none⟩) (.inl (by simp)) (.int .u64 (x : Int))).setCell (p := ⟨hb, 1, none⟩) (.inl (by simp)) (.int .u64 (y : Int))) (by simpa using hnr) hnv.out)
  clear B0 f0 f1 c0 c1
  refine (u32_at rb v a 24 t _ R.out ha.out (by omega)).mono ?_
  rintro e w1 ⟨n0, rfl, hl0, he0, R', C⟩
  replace hl0 : n0 < 4294967296 := hl0
  replace he0 := Lib.hid he0
  have B2 := Lib.hid (B1.out.chg C.out (by simpa using hnb))
  have D' : Hid (Chg [hb, rb] W w1) := D.out.trans (C.out.mono (by simp))
  clear B1 C R D
  have R := R'
  have B1 := B2
  have D := D'
  clear R' B2 D'
  have fj := B1.out.free 2
  have cj := B1.out.cell (j := 2) rfl
  have B2 := Lib.hid (B1.out.set 2 (.int .i64 (n0 : Int)))
  have D' := Lib.hid (D.out.setCell (p := ⟨hb, 2, none⟩) (.inl (by simp)) (.int .i64 (n0 : Int)))
  have R' := Lib.hid (R.out.chg ((Chg.refl [hb] w1).setCell (p := ⟨hb, 2, none⟩) (.inl (by simp)) (.int .i64 (n0 : Int))) (by simpa using hnr) hnv.out)
  clear R D B1
  have R := R'
  have B1 := B2
  have D := D'
  clear R' B2 D'
  go_wp2_with fail
  refine (u32_at rb v a 28 t _ R.out ha.out (by omega)).mono ?_
  rintro e w2 ⟨n1, rfl, hl1, he1, R', C⟩
  replace hl1 : n1 < 4294967296 := hl1
  replace he1 := Lib.hid he1
  have B2 := Lib.hid (B1.out.chg C.out (by simpa using hnb))
  have D' : Hid (Chg [hb, rb] W w2) := D.out.trans (C.out.mono (by simp))
  clear B1 C R D
  have R := R'
  have B1 := B2
  have D := D'
  clear R' B2 D'
  have fj := B1.out.free 3
  have cj := B1.out.cell (j := 3) rfl
  have B2 := Lib.hid (B1.out.set 3 (.int .i64 (n1 : Int)))
  have D' := Lib.hid (D.out.setCell (p := ⟨hb, 3, none⟩) (.inl (by simp)) (.int .i64 (n1 : Int)))
  have R' := Lib.hid (R.out.chg ((Chg.refl [hb] w2).setCell (p := ⟨hb, 3, none⟩) (.inl (by simp)) (.int .i64 (n1 : Int))) (by simpa using hnr) hnv.out)
  clear R D B1
  have R := R'
  have B1 := B2
  have D := D'
  clear R' B2 D'
  go_wp2_with fail
  refine (u32_at rb v a 32 t _ R.out ha.out (by omega)).mono ?_
  rintro e w3 ⟨n2, rfl, hl2, he2, R', C⟩
  replace hl2 : n2 < 4294967296 := hl2
  replace he2 := Lib.hid he2
  have B2 := Lib.hid (B1.out.chg C.out (by simpa using hnb))
  have D' : Hid (Chg [hb, rb] W w3) := D.out.trans (C.out.mono (by simp))
  clear B1 C R D
  have R := R'
  have B1 := B2
  have D := D'
  clear R' B2 D'
  have fj := B1.out.free 4
  have cj := B1.out.cell (j := 4) rfl
  have B2 := Lib.hid (B1.out.set 4 (.int .i64 (n2 : Int)))
  have D' := Lib.hid (D.out.setCell (p := ⟨hb, 4, none⟩) (.inl (by simp)) (.int .i64 (n2 : Int)))
  have R' := Lib.hid (R.out.chg ((Chg.refl [hb] w3).setCell (p := ⟨hb, 4, none⟩) (.inl (by simp)) (.int .i64 (n2 : Int))) (by simpa using hnr) hnv.out)
  clear R D B1
  have R := R'
  have B1 := B2
  have D := D'
  clear R' B2 D'
  go_wp2_with fail
  refine (u32_at rb v a 36 t _ R.out ha.out (by omega)).mono ?_
  rintro e w4 ⟨n3, rfl, hl3, he3, R', C⟩
  replace hl3 : n3 < 4294967296 := hl3
  replace he3 := Lib.hid he3
  have B2 := Lib.hid (B1.out.chg C.out (by simpa using hnb))
  have D' : Hid (Chg [hb, rb] W w4) := D.out.trans (C.out.mono (by simp))
  clear B1 C R D
  have R := R'
  have B1 := B2
  have D := D'
  clear R' B2 D'
  have fj := B1.out.free 5
  have cj := B1.out.cell (j := 5) rfl
  have B2 := Lib.hid (B1.out.set 5 (.int .i64 (n3 : Int)))
  have D' := Lib.hid (D.out.setCell (p := ⟨hb, 5, none⟩) (.inl (by simp)) (.int .i64 (n3 : Int)))
  have R' := Lib.hid (R.out.chg ((Chg.refl [hb] w4).setCell (p := ⟨hb, 5, none⟩) (.inl (by simp)) (.int .i64 (n3 : Int))) (by simpa using hnr) hnv.out)
  clear R D B1
  have R := R'
  have B1 := B2
  have D := D'
  clear R' B2 D'
  go_wp2_with fail
  refine (u8_at rb v a 40 t _ R.out ha.out (by omega)).mono ?_
  rintro e w5 ⟨n4, rfl, hl4, he4, R', C⟩
  replace hl4 : n4 < 256 := hl4
  replace he4 := Lib.hid he4
  have B2 := Lib.hid (B1.out.chg C.out (by simpa using hnb))
  have D' : Hid (Chg [hb, rb] W w5) := D.out.trans (C.out.mono (by simp))
  clear B1 C R D
  have R := R'
  have B1 := B2
  have D := D'
  clear R' B2 D'
  obtain ⟨es, hes⟩ : ∃ es, es = decide (n4 = 1) := ⟨_, rfl⟩
  have hes2 : ((n4 : Int) == 1) = es := by rw [hes, Bool.eq_iff_iff]; simp; omega
  replace hes := Lib.hid hes
  obtain ⟨le1, hle⟩ : ∃ le1, le1 = decide (n4 ≤ 1) := ⟨_, rfl⟩
  have hle2 : decide ((n4 : Int) ≤ 1) = le1 := by rw [hle]; exact decide_eq_decide.2 (by omega)
  replace hle := Lib.hid hle
  have fj := B1.out.free 6
  have cj := B1.out.cell (j := 6) rfl
  have B2 := Lib.hid (B1.out.set 6 (.bool es))
  have D' := Lib.hid (D.out.setCell (p := ⟨hb, 6, none⟩) (.inl (by simp)) (.bool es))
  have R' := Lib.hid (R.out.chg ((Chg.refl [hb] w5).setCell (p := ⟨hb, 6, none⟩) (.inl (by simp)) (.bool es)) (by simpa using hnr) hnv.out)
  clear R D B1
  have R := R'
  have B1 := B2
  have D := D'
  clear R' B2 D'
  go_wp2_with fail
  refine (NO.out _ R.out).mono ?_
  rintro e w6 ⟨rfl, R', C⟩
  have B2 := Lib.hid (B1.out.chg C.out (by simpa using hnb))
  have D' : Hid (Chg [hb, rb] W w6) := D.out.trans (C.out.mono (by simp))
  clear B1 C R D
  have R := R'
  have B1 := B2
  have D := D'
  clear R' B2 D'
  go_wp2_with fail
  refine (u32_at rb v a 44 (t && z) _ R.out ha.out (by omega)).mono ?_
  rintro e w7 ⟨n6, rfl, hl6, he6, R', C⟩
  replace hl6 : n6 < 4294967296 := hl6
  replace he6 := Lib.hid he6
  have B2 := Lib.hid (B1.out.chg C.out (by simpa using hnb))
  have D' : Hid (Chg [hb, rb] W w7) := D.out.trans (C.out.mono (by simp))
  clear B1 C R D
  have R := R'
  have B1 := B2
  have D := D'
  clear R' B2 D'
  have fj := B1.out.free 7
  have cj := B1.out.cell (j := 7) rfl
  have B2 := Lib.hid (B1.out.set 7 (.int .u32 (n6 : Int)))
  have D' := Lib.hid (D.out.setCell (p := ⟨hb, 7, none⟩) (.inl (by simp)) (.int .u32 (n6 : Int)))
  have R' := Lib.hid (R.out.chg ((Chg.refl [hb] w7).setCell (p := ⟨hb, 7, none⟩) (.inl (by simp)) (.int .u32 (n6 : Int))) (by simpa using hnr) hnv.out)
  clear R D B1
  have R := R'
  have B1 := B2
  have D := D'
  clear R' B2 D'
  have k0 := B1.out.cell (j := 0) rfl
  have k1 := B1.out.cell (j := 1) rfl
  have k2 := B1.out.cell (j := 2) rfl
  have k3 := B1.out.cell (j := 3) rfl
  have k4 := B1.out.cell (j := 4) rfl
  have k5 := B1.out.cell (j := 5) rfl
  have k6 := B1.out.cell (j := 6) rfl
  have k7 := B1.out.cell (j := 7) rfl
  have VA := Lib.hid (fun W => headerValid_any (⟨x, y, n0, n1, n2, n3, es, n6⟩ : Hd) W)
  simp only [Hd.val] at VA
  obtain ⟨r, hr⟩ : ∃ r, r = decide (⟨x, y, n0, n1, n2, n3, es, n6⟩ : Hd).Ok := ⟨_, rfl⟩
  rw [← hr] at VA
  replace hr := Lib.hid hr
  rcases r with _ | _
  case false =>
    go_wp2_with fail
    refine (VA.out _).mono ?_
    rintro e wz ⟨rfl, C⟩
    have D2 := Lib.hid (D.out.trans (C.out.mono (by simp)))
    have B2 := Lib.hid (B1.out.chg C.out (by simp))
    have R2 := Lib.hid (R.out.chg C.out (by simp) (by simp))
    clear k0 k1 k2 k3 k4 k5 k6 k7 D B1 R C VA
    go_wp2_with fail
    go_ret
    refine ⟨false, rfl, R2, D2, fun ht => ?_⟩
    have ht1 : t = true := by rw [Bool.and_eq_true] at ht; exact ht.1
    obtain ⟨e1, e2⟩ := hxy.out ht1
    have e40 : n4 = a.getD 40 0 := by
      have h1 := he4.out ht1
      have h2 := cut_one (b := a) (i := 40) (by omega)
      unfold cut at h2
      unfold rd at h1
      rw [h2] at h1
      simpa [val] using h1
    have e : (⟨x, y, n0, n1, n2, n3, es, n6⟩ : Hd) = Hd.of a := by
      rw [e1, e2, he0.out ht1, he1.out ht1, he2.out ht1, he3.out ht1, he6.out ht, hes.out, e40]
      rfl
    refine ⟨?_, ?_⟩
    · rw [← e, ← e40, ← hr.out, ← hle.out]; rfl
    · rw [← e]
      exact B2
  case true =>
    go_wp2_with fail
    refine (VA.out _).mono ?_
    rintro e wz ⟨rfl, C⟩
    have D2 := Lib.hid (D.out.trans (C.out.mono (by simp)))
    have B2 := Lib.hid (B1.out.chg C.out (by simp))
    have R2 := Lib.hid (R.out.chg C.out (by simp) (by simp))
    clear k0 k1 k2 k3 k4 k5 k6 k7 D B1 R C VA
    go_wp2_with fail
    go_ret
    refine ⟨le1, rfl, R2, D2, fun ht => ?_⟩
    have ht1 : t = true := by rw [Bool.and_eq_true] at ht; exact ht.1
    obtain ⟨e1, e2⟩ := hxy.out ht1
    have e40 : n4 = a.getD 40 0 := by
      have h1 := he4.out ht1
      have h2 := cut_one (b := a) (i := 40) (by omega)
      unfold cut at h2
      unfold rd at h1
      rw [h2] at h1
      simpa [val] using h1
    have e : (⟨x, y, n0, n1, n2, n3, es, n6⟩ : Hd) = Hd.of a := by
      rw [e1, e2, he0.out ht1, he1.out ht1, he2.out ht1, he3.out ht1, he6.out ht, hes.out, e40]
      rfl
    refine ⟨?_, ?_⟩
    · rw [← e, ← e40, ← hr.out, ← hle.out]; rfl
    · rw [← e]
      exact B2

theorem enters_DecodeCommit (args : Array Value) (w : World) : (callFunc 66 args).run Try.prog w = .ok (.enter 66 args) w := by
  have h1 : (Try.f66.name == "runtime.NumGoroutine") = false := by kernel_rfl
  have h2 : Try.f66.body.isNone = false := by kernel_rfl
  have h3 : ¬ Try.f66.name = "runtime.NumGoroutine" := by simpa using h1
  have h4 : ¬ Try.f66.body = none := fun e => by rw [e] at h2; cases h2
  simp [callFunc, go_sem, Try.func66, h3, h4]

set_option maxHeartbeats 8000000 in
set_option maxRecDepth 100000 in
theorem reads_Cm (a : List Nat) (ha : Bs a) (hl : a.length = 124) (hb : Nat) (w : World) (B : Blk w hb 66 [.int .u64 0, .int .u64 0, .int .i64 0, .int .u32 0]) : ReadsFields w 66 #[.pointer (some ⟨hb, 0, none⟩)] hb a 32 (true) (decide (Cm.of a).Ok) 66 (cellsOf (Cm.of a).val) := by
  refine ⟨enters_DecodeCommit, fun W rb v x y t c hrb hv R hxy hx hy => ?_⟩
  have hlt := B.lt
  have hnb : ¬ hb = rb := by omega
  have hnr : ¬ rb = hb := by omega
  have hnv : Hid (∀ k, v.ownBlock = some k → k ∉ [hb]) := fun k hk => by have := hv k hk; simp; omega
  have B0 : Hid (Blk W hb 66 [.int .u64 0, .int .u64 0, .int .i64 0, .int .u32 0]) := B.chg c (by simp)
  replace R := Lib.hid R
  replace hxy := Lib.hid hxy
  replace ha := Lib.hid ha
  have f0 := B0.out.free 0
  have f1 := B0.out.free 1
  have c0 := B0.out.cell (j := 0) rfl
  have c1 := B0.out.cell (j := 1) rfl
  clear c B hv hlt
  go_enter Try.func66, Try.ntmps66
  go_wp2_with fail
  have B1 := Lib.hid ((B0.out.set 0 (.int .u64 (x : Int))).set 1 (.int .u64 (y : Int)))
  have D : Hid (Chg [hb, rb] W _) := ((Chg.refl [hb, rb] W).setCell (p := ⟨hb, 0, none⟩) (.inl (by simp)) (.int .u64 (x : Int))).setCell (p := ⟨hb, 1, none⟩) (.inl (by simp)) (.int .u64 (y : Int))
  replace R := Lib.hid (R.out.chg (((Chg.refl [hb] W).setCell (p := ⟨hb, 0, none⟩) (.inl (by simp)) (.int .u64 (x : Int))).setCell (p := ⟨hb, 1, none⟩) (.inl (by simp)) (.int .u64 (y : Int))) (by simpa using hnr) hnv.out)
  clear B0 f0 f1 c0 c1
  refine (u32_at rb v a 24 t _ R.out ha.out (by omega)).mono ?_
  rintro e w1 ⟨n0, rfl, hl0, he0, R', C⟩
  replace hl0 : n0 < 4294967296 := hl0
  replace he0 := Lib.hid he0
  have B2 := Lib.hid (B1.out.chg C.out (by simpa using hnb))
  have D' : Hid (Chg [hb, rb] W w1) := D.out.trans (C.out.mono (by simp))
  clear B1 C R D
  have R := R'
  have B1 := B2
  have D := D'
  clear R' B2 D'
  have fj := B1.out.free 2
  have cj := B1.out.cell (j := 2) rfl
  have B2 := Lib.hid (B1.out.set 2 (.int .i64 (n0 : Int)))
  have D' := Lib.hid (D.out.setCell (p := ⟨hb, 2, none⟩) (.inl (by simp)) (.int .i64 (n0 : Int)))
  have R' := Lib.hid (R.out.chg ((Chg.refl [hb] w1).setCell (p := ⟨hb, 2, none⟩) (.inl (by simp)) (.int .i64 (n0 : Int))) (by simpa using hnr) hnv.out)
  clear R D B1
  have R := R'
  have B1 := B2
  have D := D'
  clear R' B2 D'
  go_wp2_with fail
  refine (u32_at rb v a 28 t _ R.out ha.out (by omega)).mono ?_
  rintro e w2 ⟨n1, rfl, hl1, he1, R', C⟩
  replace hl1 : n1 < 4294967296 := hl1
  replace he1 := Lib.hid he1
  have B2 := Lib.hid (B1.out.chg C.out (by simpa using hnb))
  have D' : Hid (Chg [hb, rb] W w2) := D.out.trans (C.out.mono (by simp))
  clear B1 C R D
  have R := R'
  have B1 := B2
  have D := D'
  clear R' B2 D'
  have fj := B1.out.free 3
  have cj := B1.out.cell (j := 3) rfl
  have B2 := Lib.hid (B1.out.set 3 (.int .u32 (n1 : Int)))
  have D' := Lib.hid (D.out.setCell (p := ⟨hb, 3, none⟩) (.inl (by simp)) (.int .u32 (n1 : Int)))
  have R' := Lib.hid (R.out.chg ((Chg.refl [hb] w2).setCell (p := ⟨hb, 3, none⟩) (.inl (by simp)) (.int .u32 (n1 : Int))) (by simpa using hnr) hnv.out)
  clear R D B1
  have R := R'
  have B1 := B2
  have D := D'
  clear R' B2 D'
  have k0 := B1.out.cell (j := 0) rfl
  have k1 := B1.out.cell (j := 1) rfl
  have k2 := B1.out.cell (j := 2) rfl
  have k3 := B1.out.cell (j := 3) rfl
  have VA := Lib.hid (fun W => commitValid_any (⟨x, y, n0, n1⟩ : Cm) W)
  simp only [Cm.val] at VA
  obtain ⟨r, hr⟩ : ∃ r, r = decide (⟨x, y, n0, n1⟩ : Cm).Ok := ⟨_, rfl⟩
  rw [← hr] at VA
  replace hr := Lib.hid hr
  go_wp2_with fail
  refine (VA.out _).mono ?_
  rintro e wz ⟨rfl, C⟩
  have D2 := Lib.hid (D.out.trans (C.out.mono (by simp)))
  have B2 := Lib.hid (B1.out.chg C.out (by simp))
  have R2 := Lib.hid (R.out.chg C.out (by simp) (by simp))
  clear k0 k1 k2 k3 D B1 R C VA
  go_wp2_with fail
  go_ret
  refine ⟨r, rfl, by rw [Bool.and_true]; exact R2, D2, fun ht => ?_⟩
  rw [Bool.and_true] at ht
  obtain ⟨e1, e2⟩ := hxy.out ht
  have e : (⟨x, y, n0, n1⟩ : Cm) = Cm.of a := by rw [e1, e2, he0.out ht, he1.out ht]; rfl
  refine ⟨by rw [hr.out, e], ?_⟩
  rw [← e]
  exact B2

end Go.Proofs.Ytnkdgmnmmmjgjaa