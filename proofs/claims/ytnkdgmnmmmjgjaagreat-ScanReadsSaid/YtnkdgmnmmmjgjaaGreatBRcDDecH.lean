/-
  The document's Decode of headers: its reading of the fields draws its order. By an AI agent. Printed by gen_rcdh.py.
-/
import Derived.Test.YtnkdgmnmmmjgjaaGreatBRcDDec
import Derived.Test.YtnkdgmnmmmjgjaaGreatBGOrder
import Derived.Test.YtnkdgmnmmmjgjaaGreatBRcEnc
import Derived.Test.YtnkdgmnmmmjgjaaGreatBRcGet
namespace Go.Proofs.YtnkdgmnmmmjgjaaGreat
open Go.RowKit Crc

theorem enters_get (args : Array Value) (w : World) : (callFunc 101 args).run Tryz.prog w = .ok (.enter 101 args) w := by
  have h1 : (Tryz.f101.name == "runtime.NumGoroutine") = false := by kernel_rfl
  have h2 : Tryz.f101.body.isNone = false := by kernel_rfl
  have h3 : ¬ Tryz.f101.name = "runtime.NumGoroutine" := by simpa using h1
  have h4 : ¬ Tryz.f101.body = none := fun e => by rw [e] at h2; cases h2
  simp [callFunc, go_sem, Tryz.func101, h3, h4]

/-- What the region leaves. -/
def hdLeft (w w0 : World) (g o c fl : Nat) (fx : Int → Int) (es : Bool) : Act → World → Prop := fun a' W => ∃ xb, a' = (⟨#[.slice (some ⟨g, o, none⟩) 128 c, undef, .pointer (some ⟨w.heap.size, 0, none⟩), .int .i64 0, .int .i64 0, .pointer (some ⟨xb, 0, none⟩), undef, undef, .slice (some ⟨g, o, none⟩) 128 c, .int .i64 0, .int .i64 0, .bool false, undef, undef, .slice (some ⟨g, o, none⟩) 128 c, .int .u64 (fx 8), .slice (some ⟨g, o, none⟩) 128 c, .int .u64 (fx 16), .slice (some ⟨g, o, none⟩) 128 c, .int .u64 (fx 24), .int .i64 (fx 24), .slice (some ⟨g, o, none⟩) 128 c, .int .u64 (fx 28), .int .i64 (fx 28), .slice (some ⟨g, o, none⟩) 128 c, .int .u64 (fx 32), .int .i64 (fx 32), .slice (some ⟨g, o, none⟩) 128 c, .int .u64 (fx 36), .int .i64 (fx 36), .slice (some ⟨g, o, none⟩) 128 c, .pointer (some ⟨g, o + 40, none⟩), .int .u8 (fl : Int), .bool es, .slice (some ⟨g, o, none⟩) 128 c, .int .u64 (fx 44), .int .u32 (fx 44), .agg #[.int .u64 (fx 8), .int .u64 (fx 16), .int .i64 (fx 24), .int .i64 (fx 28), .int .i64 (fx 32), .int .i64 (fx 36), .bool es, .int .u32 (fx 44)], undef, undef, undef, undef, undef, undef, undef, undef, undef, undef, undef, undef, undef, undef, undef, undef], []⟩ : Act) ∧ Hid (Chg [] w0 W) ∧ Hid (Blk W xb 81 [.int .u64 (fx 8), .int .u64 (fx 16), .int .i64 (fx 24), .int .i64 (fx 28), .int .i64 (fx 32), .int .i64 (fx 36), .bool es, .int .u32 (fx 44)]) ∧ w0.heap.size ≤ xb

set_option maxHeartbeats 4000000 in
set_option maxRecDepth 100000 in
theorem hd_region (w w2 : World) (g o c fl : Nat) (fx : Int → Int) (es : Bool) (hcp : (128 : Int) ≤ c) (hes : ((fl : Int) == 1) = es)
    (l8 : 0 ≤ fx 8 ∧ fx 8 < 18446744073709551616)
    (l16 : 0 ≤ fx 16 ∧ fx 16 < 18446744073709551616)
    (l24 : 0 ≤ fx 24 ∧ fx 24 < 4294967296)
    (l28 : 0 ≤ fx 28 ∧ fx 28 < 4294967296)
    (l32 : 0 ≤ fx 32 ∧ fx 32 < 4294967296)
    (l36 : 0 ≤ fx 36 ∧ fx 36 < 4294967296)
    (l44 : 0 ≤ fx 44 ∧ fx 44 < 4294967296)
    (C40 : ∀ W, Chg [] w2.drew W → W.cell? ⟨g, o + 40, none⟩ = some (.int .u8 (fl : Int)))
    (G8 : ∀ W, Chg [] w2.drew W → Calls Tryz.prog 101 #[.slice (some ⟨g, o, none⟩) 128 c, .int .i64 8, .int .i64 8] W fun e w' => e = .returned (.int .u64 (fx 8)) ∧ Hid (Chg [] W w'))
    (G16 : ∀ W, Chg [] w2.drew W → Calls Tryz.prog 101 #[.slice (some ⟨g, o, none⟩) 128 c, .int .i64 16, .int .i64 8] W fun e w' => e = .returned (.int .u64 (fx 16)) ∧ Hid (Chg [] W w'))
    (G24 : ∀ W, Chg [] w2.drew W → Calls Tryz.prog 101 #[.slice (some ⟨g, o, none⟩) 128 c, .int .i64 24, .int .i64 4] W fun e w' => e = .returned (.int .u64 (fx 24)) ∧ Hid (Chg [] W w'))
    (G28 : ∀ W, Chg [] w2.drew W → Calls Tryz.prog 101 #[.slice (some ⟨g, o, none⟩) 128 c, .int .i64 28, .int .i64 4] W fun e w' => e = .returned (.int .u64 (fx 28)) ∧ Hid (Chg [] W w'))
    (G32 : ∀ W, Chg [] w2.drew W → Calls Tryz.prog 101 #[.slice (some ⟨g, o, none⟩) 128 c, .int .i64 32, .int .i64 4] W fun e w' => e = .returned (.int .u64 (fx 32)) ∧ Hid (Chg [] W w'))
    (G36 : ∀ W, Chg [] w2.drew W → Calls Tryz.prog 101 #[.slice (some ⟨g, o, none⟩) 128 c, .int .i64 36, .int .i64 4] W fun e w' => e = .returned (.int .u64 (fx 36)) ∧ Hid (Chg [] W w'))
    (G44 : ∀ W, Chg [] w2.drew W → Calls Tryz.prog 101 #[.slice (some ⟨g, o, none⟩) 128 c, .int .i64 44, .int .i64 4] W fun e w' => e = .returned (.int .u64 (fx 44)) ∧ Hid (Chg [] W w'))
    {id : Nat} {ops : Array Oper} (hops : opsOf Tryz.f80 = ops) : (Code.region id ops true).wp Tryz.prog (cutQ (hdLeft w w2.drew g o c fl fx es)) (⟨#[.slice (some ⟨g, o, none⟩) 128 c, undef, .pointer (some ⟨w.heap.size, 0, none⟩), .int .i64 0, .int .i64 0, undef, undef, undef, .slice (some ⟨g, o, none⟩) 128 c, .int .i64 0, .int .i64 0, .bool false, undef, undef, undef, undef, undef, undef, undef, undef, undef, undef, undef, undef, undef, undef, undef, undef, undef, undef, undef, undef, undef, undef, undef, undef, undef, undef, undef, undef, undef, undef, undef, undef, undef, undef, undef, undef, undef, undef, undef, undef, undef, undef], []⟩ : Act) w2 := by
  obtain ⟨R, hR⟩ : ∃ R, R = hdLeft w w2.drew g o c fl fx es := ⟨_, rfl⟩
  rw [← hR]
  refine wpH_start (S := fun W => Chg [] w2.drew W) (ops' := opsOf Tryz.f80) (n := 26) (by kernel_rfl) hops (by kernel_rfl) ?_
  have NS : Region.noSelect (opsOf Tryz.f80) = true := by kernel_rfl
  have hop : ∀ W, Chg [] w2.drew W → ∀ W', Chg [] W W' → Chg [] w2.drew W' := fun W c W' d => c.trans d
  have ci64 : ∀ p, 0 ≤ fx p ∧ fx p < 4294967296 → ∀ W, (convert 22 3 (.int .u64 (fx p))).run Tryz.prog W = .ok (.int .i64 (fx p)) W := fun p hp W => by
    have h0 := hp.1
    have h1 := hp.2
    generalize fx p = q at *
    have hw : IntKind.i64.wrap q = q := IntWalk.i64_in _ (by omega)
    go_simp
  have ci32 : ∀ W, (convert 22 74 (.int .u64 (fx 44))).run Tryz.prog W = .ok (.int .u32 (fx 44)) W := fun W => by
    have h0 := l44.1
    have h1 := l44.2
    generalize fx 44 = q at *
    have hw : IntKind.u32.wrap q = q := IntWalk.u32_in _ (by omega)
    go_simp
  have ix : ∀ W, (Instr.indexAt 55 (.slice (some ⟨g, o, none⟩) 128 c) (.int .i64 40)).run Tryz.prog W = .ok (.pointer (some ⟨g, o + 40, none⟩)) W := fun W => by go_simp
  have ld : ∀ W, Chg [] w2.drew W → (Instr.loadAt 5 (.pointer (some ⟨g, o + 40, none⟩))).run Tryz.prog W = .ok (.int .u8 (fl : Int)) W := fun W hW => by
    have h0 := C40 W hW
    go_simp
  have bn : ∀ W, (do eqGuard .eql 5 (.tmp 32) (.const (.int .u8 1)) (.int .u8 (fl : Int)) (.int .u8 1); binOp .eql 5 (.int .u8 (fl : Int)) (.int .u8 1)).run Tryz.prog W = .ok (.bool es) W := fun W => by go_simp
  have bd : ∀ W, (Instr.build 81 #[(0, .int .u64 (fx 8)), (1, .int .u64 (fx 16)), (2, .int .i64 (fx 24)), (3, .int .i64 (fx 28)), (4, .int .i64 (fx 32)), (5, .int .i64 (fx 36)), (6, .bool es), (7, .int .u32 (fx 44))]).run Tryz.prog W = .ok (.agg #[.int .u64 (fx 8), .int .u64 (fx 16), .int .i64 (fx 24), .int .i64 (fx 28), .int .i64 (fx 32), .int .i64 (fx 36), .bool es, .int .u32 (fx 44)]) W := fun W => by go_simp
  have al : ∀ W : World, (Instr.alloc 81 true (.tuple #[])).run Tryz.prog W = .ok (.pointer (some ⟨W.heap.size, 0, none⟩)) (W.alloc (.cells ([.int .u64 0, .int .u64 0, .int .i64 0, .int .i64 0, .int .i64 0, .int .i64 0, .bool false, .int .u32 0] : List Value).toArray 81)) := fun W => by go_simp
  have on8 : ∀ v ∈ ([.int .u64 (fx 8), .int .u64 (fx 16), .int .i64 (fx 24), .int .i64 (fx 28), .int .i64 (fx 32), .int .i64 (fx 36), .bool es, .int .u32 (fx 44)] : List Value), v.oneCell' = true := by
    intro v hv
    simp only [List.mem_cons, List.not_mem_nil, or_false] at hv
    rcases hv with rfl | rfl | rfl | rfl | rfl | rfl | rfl | rfl <;> rfl
  clear hcp hes l8 l16 C40 
  have T7 : ∀ (W : World) (xb : Nat), Chg [] w2.drew W → Blk W xb 81 [.int .u64 0, .int .u64 0, .int .i64 0, .int .i64 0, .int .i64 0, .int .i64 0, .bool false, .int .u32 0] → w2.drew.heap.size ≤ xb → wpAnyH Tryz.prog .any (opsOf Tryz.f80) (cutQ R) (fun W => Chg [] w2.drew W) 1 (bitsOf 26 33554431) (⟨#[.slice (some ⟨g, o, none⟩) 128 c, undef, .pointer (some ⟨w.heap.size, 0, none⟩), .int .i64 0, .int .i64 0, .pointer (some ⟨xb, 0, none⟩), undef, undef, .slice (some ⟨g, o, none⟩) 128 c, .int .i64 0, .int .i64 0, .bool false, undef, undef, .slice (some ⟨g, o, none⟩) 128 c, .int .u64 (fx 8), .slice (some ⟨g, o, none⟩) 128 c, .int .u64 (fx 16), .slice (some ⟨g, o, none⟩) 128 c, .int .u64 (fx 24), .int .i64 (fx 24), .slice (some ⟨g, o, none⟩) 128 c, .int .u64 (fx 28), .int .i64 (fx 28), .slice (some ⟨g, o, none⟩) 128 c, .int .u64 (fx 32), .int .i64 (fx 32), .slice (some ⟨g, o, none⟩) 128 c, .int .u64 (fx 36), .int .i64 (fx 36), .slice (some ⟨g, o, none⟩) 128 c, .pointer (some ⟨g, o + 40, none⟩), .int .u8 (fl : Int), .bool es, .slice (some ⟨g, o, none⟩) 128 c, .int .u64 (fx 44), .int .u32 (fx 44), .agg #[.int .u64 (fx 8), .int .u64 (fx 16), .int .i64 (fx 24), .int .i64 (fx 28), .int .i64 (fx 32), .int .i64 (fx 36), .bool es, .int .u32 (fx 44)], undef, undef, undef, undef, undef, undef, undef, undef, undef, undef, undef, undef, undef, undef, undef, undef], []⟩ : Act) W := by
    intro W xb hS X hx
    have hS2 : Chg [] w2.drew (W.setCells xb 0 [.int .u64 (fx 8), .int .u64 (fx 16), .int .i64 (fx 24), .int .i64 (fx 28), .int .i64 (fx 32), .int .i64 (fx 36), .bool es, .int .u32 (fx 44)]) := Chg.setCells _ 0 W hS (.inr hx)
    refine wpAnyH_ready (rs := [25]) (by kernel_rfl) (by simp) ?_
    refine readyH_store (i := 25) (t := 81) (x := .tmp 5) (y := .tmp 37) (g := xb) (cs := [.int .u64 (fx 8), .int .u64 (fx 16), .int .i64 (fx 24), .int .i64 (fx 28), .int .i64 (fx 32), .int .i64 (fx 36), .bool es, .int .u32 (fx 44)]) (by unfold OpIs; kernel_rfl) (by kernel_rfl) (by kernel_rfl) (X.there 0 8 (Nat.le_refl 8)) size_Hd on8 (l' := bitsOf 26 67108863) (by kernel_rfl) hS2 ?_ AllReadyH.nil
    refine wpAnyH_done (by kernel_rfl) ?_ _
    show R _ _
    rw [hR]
    refine ⟨xb, rfl, hS2, ?_, hx⟩
    have b := Blk.setCells [.int .u64 (fx 8), .int .u64 (fx 16), .int .i64 (fx 24), .int .i64 (fx 28), .int .i64 (fx 32), .int .i64 (fx 36), .bool es, .int .u32 (fx 44)] _ 0 W X (Nat.le_refl 8)
    rw [lay_all _ _ (by rfl)] at b
    exact b
  have T6 : ∀ (W : World) (xb : Nat), Chg [] w2.drew W → Blk W xb 81 [.int .u64 0, .int .u64 0, .int .i64 0, .int .i64 0, .int .i64 0, .int .i64 0, .bool false, .int .u32 0] → w2.drew.heap.size ≤ xb → wpAnyH Tryz.prog .any (opsOf Tryz.f80) (cutQ R) (fun W => Chg [] w2.drew W) 4 (bitsOf 26 18874367) (⟨#[.slice (some ⟨g, o, none⟩) 128 c, undef, .pointer (some ⟨w.heap.size, 0, none⟩), .int .i64 0, .int .i64 0, .pointer (some ⟨xb, 0, none⟩), undef, undef, .slice (some ⟨g, o, none⟩) 128 c, .int .i64 0, .int .i64 0, .bool false, undef, undef, .slice (some ⟨g, o, none⟩) 128 c, .int .u64 (fx 8), .slice (some ⟨g, o, none⟩) 128 c, .int .u64 (fx 16), .slice (some ⟨g, o, none⟩) 128 c, .int .u64 (fx 24), .int .i64 (fx 24), .slice (some ⟨g, o, none⟩) 128 c, .int .u64 (fx 28), .int .i64 (fx 28), .slice (some ⟨g, o, none⟩) 128 c, .int .u64 (fx 32), .int .i64 (fx 32), .slice (some ⟨g, o, none⟩) 128 c, .int .u64 (fx 36), .int .i64 (fx 36), .slice (some ⟨g, o, none⟩) 128 c, .pointer (some ⟨g, o + 40, none⟩), .int .u8 (fl : Int), .bool es, .slice (some ⟨g, o, none⟩) 128 c, undef, undef, undef, undef, undef, undef, undef, undef, undef, undef, undef, undef, undef, undef, undef, undef, undef, undef, undef], []⟩ : Act) W := by
    intro W xb hS X hx
    refine wpAnyH_ready (rs := [21]) (by kernel_rfl) (by simp) ?_
    refine readyH_call (i := 21) (d := 35) (f := 101) (args := #[.tmp 34, .const (.int .i64 44), .const (.int .i64 4)]) (ats := #[55, 3, 3]) (vs := #[.slice (some ⟨g, o, none⟩) 128 c, .int .i64 44, .int .i64 4]) (by unfold OpIs; kernel_rfl) enters_get (by kernel_rfl) (l' := bitsOf 26 20971519) (by kernel_rfl) ?_ AllReadyH.nil
    refine (G44 W hS).mono ?_
    rintro e W' ⟨rfl, C⟩
    refine ⟨_, (⟨#[.slice (some ⟨g, o, none⟩) 128 c, undef, .pointer (some ⟨w.heap.size, 0, none⟩), .int .i64 0, .int .i64 0, .pointer (some ⟨xb, 0, none⟩), undef, undef, .slice (some ⟨g, o, none⟩) 128 c, .int .i64 0, .int .i64 0, .bool false, undef, undef, .slice (some ⟨g, o, none⟩) 128 c, .int .u64 (fx 8), .slice (some ⟨g, o, none⟩) 128 c, .int .u64 (fx 16), .slice (some ⟨g, o, none⟩) 128 c, .int .u64 (fx 24), .int .i64 (fx 24), .slice (some ⟨g, o, none⟩) 128 c, .int .u64 (fx 28), .int .i64 (fx 28), .slice (some ⟨g, o, none⟩) 128 c, .int .u64 (fx 32), .int .i64 (fx 32), .slice (some ⟨g, o, none⟩) 128 c, .int .u64 (fx 36), .int .i64 (fx 36), .slice (some ⟨g, o, none⟩) 128 c, .pointer (some ⟨g, o + 40, none⟩), .int .u8 (fl : Int), .bool es, .slice (some ⟨g, o, none⟩) 128 c, .int .u64 (fx 44), undef, undef, undef, undef, undef, undef, undef, undef, undef, undef, undef, undef, undef, undef, undef, undef, undef, undef], []⟩ : Act), rfl, hS.trans C.out, by kernel_rfl, ?_⟩
    refine wpH_take (i := 22) (d := 36) (op := .convert 22 74 (.tmp 35)) (v := .int .u32 (fx 44)) (a' := (⟨#[.slice (some ⟨g, o, none⟩) 128 c, undef, .pointer (some ⟨w.heap.size, 0, none⟩), .int .i64 0, .int .i64 0, .pointer (some ⟨xb, 0, none⟩), undef, undef, .slice (some ⟨g, o, none⟩) 128 c, .int .i64 0, .int .i64 0, .bool false, undef, undef, .slice (some ⟨g, o, none⟩) 128 c, .int .u64 (fx 8), .slice (some ⟨g, o, none⟩) 128 c, .int .u64 (fx 16), .slice (some ⟨g, o, none⟩) 128 c, .int .u64 (fx 24), .int .i64 (fx 24), .slice (some ⟨g, o, none⟩) 128 c, .int .u64 (fx 28), .int .i64 (fx 28), .slice (some ⟨g, o, none⟩) 128 c, .int .u64 (fx 32), .int .i64 (fx 32), .slice (some ⟨g, o, none⟩) 128 c, .int .u64 (fx 36), .int .i64 (fx 36), .slice (some ⟨g, o, none⟩) 128 c, .pointer (some ⟨g, o + 40, none⟩), .int .u8 (fl : Int), .bool es, .slice (some ⟨g, o, none⟩) 128 c, .int .u64 (fx 44), .int .u32 (fx 44), undef, undef, undef, undef, undef, undef, undef, undef, undef, undef, undef, undef, undef, undef, undef, undef, undef], []⟩ : Act)) (by unfold OpIs; kernel_rfl) NS (by kernel_rfl) (by kernel_rfl) (runH_convert (u := .int .u64 (fx 44)) (by kernel_rfl) ci32) (hS.trans C.out) (l' := bitsOf 26 25165823) (by kernel_rfl) (by kernel_rfl) ?_
    refine wpH_take (i := 23) (d := 37) (op := .build 81 #[(0, .tmp 15), (1, .tmp 17), (2, .tmp 20), (3, .tmp 23), (4, .tmp 26), (5, .tmp 29), (6, .tmp 33), (7, .tmp 36)]) (v := .agg #[.int .u64 (fx 8), .int .u64 (fx 16), .int .i64 (fx 24), .int .i64 (fx 28), .int .i64 (fx 32), .int .i64 (fx 36), .bool es, .int .u32 (fx 44)]) (a' := (⟨#[.slice (some ⟨g, o, none⟩) 128 c, undef, .pointer (some ⟨w.heap.size, 0, none⟩), .int .i64 0, .int .i64 0, .pointer (some ⟨xb, 0, none⟩), undef, undef, .slice (some ⟨g, o, none⟩) 128 c, .int .i64 0, .int .i64 0, .bool false, undef, undef, .slice (some ⟨g, o, none⟩) 128 c, .int .u64 (fx 8), .slice (some ⟨g, o, none⟩) 128 c, .int .u64 (fx 16), .slice (some ⟨g, o, none⟩) 128 c, .int .u64 (fx 24), .int .i64 (fx 24), .slice (some ⟨g, o, none⟩) 128 c, .int .u64 (fx 28), .int .i64 (fx 28), .slice (some ⟨g, o, none⟩) 128 c, .int .u64 (fx 32), .int .i64 (fx 32), .slice (some ⟨g, o, none⟩) 128 c, .int .u64 (fx 36), .int .i64 (fx 36), .slice (some ⟨g, o, none⟩) 128 c, .pointer (some ⟨g, o + 40, none⟩), .int .u8 (fl : Int), .bool es, .slice (some ⟨g, o, none⟩) 128 c, .int .u64 (fx 44), .int .u32 (fx 44), .agg #[.int .u64 (fx 8), .int .u64 (fx 16), .int .i64 (fx 24), .int .i64 (fx 28), .int .i64 (fx 32), .int .i64 (fx 36), .bool es, .int .u32 (fx 44)], undef, undef, undef, undef, undef, undef, undef, undef, undef, undef, undef, undef, undef, undef, undef, undef], []⟩ : Act)) (by unfold OpIs; kernel_rfl) NS (by kernel_rfl) (by kernel_rfl) (runH_build (vs := #[(0, .int .u64 (fx 8)), (1, .int .u64 (fx 16)), (2, .int .i64 (fx 24)), (3, .int .i64 (fx 28)), (4, .int .i64 (fx 32)), (5, .int .i64 (fx 36)), (6, .bool es), (7, .int .u32 (fx 44))]) (by kernel_rfl) bd) (hS.trans C.out) (l' := bitsOf 26 33554431) (by kernel_rfl) (by kernel_rfl) ?_
    exact T7 W' xb (hS.trans C.out) (X.chg C.out (by simp)) hx
  have T5 : ∀ (W : World) (xb : Nat), Chg [] w2.drew W → Blk W xb 81 [.int .u64 0, .int .u64 0, .int .i64 0, .int .i64 0, .int .i64 0, .int .i64 0, .bool false, .int .u32 0] → w2.drew.heap.size ≤ xb → wpAnyH Tryz.prog .any (opsOf Tryz.f80) (cutQ R) (fun W => Chg [] w2.drew W) 6 (bitsOf 26 18825215) (⟨#[.slice (some ⟨g, o, none⟩) 128 c, undef, .pointer (some ⟨w.heap.size, 0, none⟩), .int .i64 0, .int .i64 0, .pointer (some ⟨xb, 0, none⟩), undef, undef, .slice (some ⟨g, o, none⟩) 128 c, .int .i64 0, .int .i64 0, .bool false, undef, undef, .slice (some ⟨g, o, none⟩) 128 c, .int .u64 (fx 8), .slice (some ⟨g, o, none⟩) 128 c, .int .u64 (fx 16), .slice (some ⟨g, o, none⟩) 128 c, .int .u64 (fx 24), .int .i64 (fx 24), .slice (some ⟨g, o, none⟩) 128 c, .int .u64 (fx 28), .int .i64 (fx 28), .slice (some ⟨g, o, none⟩) 128 c, .int .u64 (fx 32), .int .i64 (fx 32), .slice (some ⟨g, o, none⟩) 128 c, undef, undef, .slice (some ⟨g, o, none⟩) 128 c, .pointer (some ⟨g, o + 40, none⟩), .int .u8 (fl : Int), .bool es, .slice (some ⟨g, o, none⟩) 128 c, undef, undef, undef, undef, undef, undef, undef, undef, undef, undef, undef, undef, undef, undef, undef, undef, undef, undef, undef], []⟩ : Act) W := by
    intro W xb hS X hx
    refine wpAnyH_ready (rs := [14]) (by kernel_rfl) (by simp) ?_
    refine readyH_call (i := 14) (d := 28) (f := 101) (args := #[.tmp 27, .const (.int .i64 36), .const (.int .i64 4)]) (ats := #[55, 3, 3]) (vs := #[.slice (some ⟨g, o, none⟩) 128 c, .int .i64 36, .int .i64 4]) (by unfold OpIs; kernel_rfl) enters_get (by kernel_rfl) (l' := bitsOf 26 18841599) (by kernel_rfl) ?_ AllReadyH.nil
    refine (G36 W hS).mono ?_
    rintro e W' ⟨rfl, C⟩
    refine ⟨_, (⟨#[.slice (some ⟨g, o, none⟩) 128 c, undef, .pointer (some ⟨w.heap.size, 0, none⟩), .int .i64 0, .int .i64 0, .pointer (some ⟨xb, 0, none⟩), undef, undef, .slice (some ⟨g, o, none⟩) 128 c, .int .i64 0, .int .i64 0, .bool false, undef, undef, .slice (some ⟨g, o, none⟩) 128 c, .int .u64 (fx 8), .slice (some ⟨g, o, none⟩) 128 c, .int .u64 (fx 16), .slice (some ⟨g, o, none⟩) 128 c, .int .u64 (fx 24), .int .i64 (fx 24), .slice (some ⟨g, o, none⟩) 128 c, .int .u64 (fx 28), .int .i64 (fx 28), .slice (some ⟨g, o, none⟩) 128 c, .int .u64 (fx 32), .int .i64 (fx 32), .slice (some ⟨g, o, none⟩) 128 c, .int .u64 (fx 36), undef, .slice (some ⟨g, o, none⟩) 128 c, .pointer (some ⟨g, o + 40, none⟩), .int .u8 (fl : Int), .bool es, .slice (some ⟨g, o, none⟩) 128 c, undef, undef, undef, undef, undef, undef, undef, undef, undef, undef, undef, undef, undef, undef, undef, undef, undef, undef, undef], []⟩ : Act), rfl, hS.trans C.out, by kernel_rfl, ?_⟩
    refine wpH_take (i := 15) (d := 29) (op := .convert 22 3 (.tmp 28)) (v := .int .i64 (fx 36)) (a' := (⟨#[.slice (some ⟨g, o, none⟩) 128 c, undef, .pointer (some ⟨w.heap.size, 0, none⟩), .int .i64 0, .int .i64 0, .pointer (some ⟨xb, 0, none⟩), undef, undef, .slice (some ⟨g, o, none⟩) 128 c, .int .i64 0, .int .i64 0, .bool false, undef, undef, .slice (some ⟨g, o, none⟩) 128 c, .int .u64 (fx 8), .slice (some ⟨g, o, none⟩) 128 c, .int .u64 (fx 16), .slice (some ⟨g, o, none⟩) 128 c, .int .u64 (fx 24), .int .i64 (fx 24), .slice (some ⟨g, o, none⟩) 128 c, .int .u64 (fx 28), .int .i64 (fx 28), .slice (some ⟨g, o, none⟩) 128 c, .int .u64 (fx 32), .int .i64 (fx 32), .slice (some ⟨g, o, none⟩) 128 c, .int .u64 (fx 36), .int .i64 (fx 36), .slice (some ⟨g, o, none⟩) 128 c, .pointer (some ⟨g, o + 40, none⟩), .int .u8 (fl : Int), .bool es, .slice (some ⟨g, o, none⟩) 128 c, undef, undef, undef, undef, undef, undef, undef, undef, undef, undef, undef, undef, undef, undef, undef, undef, undef, undef, undef], []⟩ : Act)) (by unfold OpIs; kernel_rfl) NS (by kernel_rfl) (by kernel_rfl) (runH_convert (u := .int .u64 (fx 36)) (by kernel_rfl) (ci64 36 l36)) (hS.trans C.out) (l' := bitsOf 26 18874367) (by kernel_rfl) (by kernel_rfl) ?_
    exact T6 W' xb (hS.trans C.out) (X.chg C.out (by simp)) hx
  have T4 : ∀ (W : World) (xb : Nat), Chg [] w2.drew W → Blk W xb 81 [.int .u64 0, .int .u64 0, .int .i64 0, .int .i64 0, .int .i64 0, .int .i64 0, .bool false, .int .u32 0] → w2.drew.heap.size ≤ xb → wpAnyH Tryz.prog .any (opsOf Tryz.f80) (cutQ R) (fun W => Chg [] w2.drew W) 8 (bitsOf 26 18819071) (⟨#[.slice (some ⟨g, o, none⟩) 128 c, undef, .pointer (some ⟨w.heap.size, 0, none⟩), .int .i64 0, .int .i64 0, .pointer (some ⟨xb, 0, none⟩), undef, undef, .slice (some ⟨g, o, none⟩) 128 c, .int .i64 0, .int .i64 0, .bool false, undef, undef, .slice (some ⟨g, o, none⟩) 128 c, .int .u64 (fx 8), .slice (some ⟨g, o, none⟩) 128 c, .int .u64 (fx 16), .slice (some ⟨g, o, none⟩) 128 c, .int .u64 (fx 24), .int .i64 (fx 24), .slice (some ⟨g, o, none⟩) 128 c, .int .u64 (fx 28), .int .i64 (fx 28), .slice (some ⟨g, o, none⟩) 128 c, undef, undef, .slice (some ⟨g, o, none⟩) 128 c, undef, undef, .slice (some ⟨g, o, none⟩) 128 c, .pointer (some ⟨g, o + 40, none⟩), .int .u8 (fl : Int), .bool es, .slice (some ⟨g, o, none⟩) 128 c, undef, undef, undef, undef, undef, undef, undef, undef, undef, undef, undef, undef, undef, undef, undef, undef, undef, undef, undef], []⟩ : Act) W := by
    intro W xb hS X hx
    refine wpAnyH_ready (rs := [11]) (by kernel_rfl) (by simp) ?_
    refine readyH_call (i := 11) (d := 25) (f := 101) (args := #[.tmp 24, .const (.int .i64 32), .const (.int .i64 4)]) (ats := #[55, 3, 3]) (vs := #[.slice (some ⟨g, o, none⟩) 128 c, .int .i64 32, .int .i64 4]) (by unfold OpIs; kernel_rfl) enters_get (by kernel_rfl) (l' := bitsOf 26 18821119) (by kernel_rfl) ?_ AllReadyH.nil
    refine (G32 W hS).mono ?_
    rintro e W' ⟨rfl, C⟩
    refine ⟨_, (⟨#[.slice (some ⟨g, o, none⟩) 128 c, undef, .pointer (some ⟨w.heap.size, 0, none⟩), .int .i64 0, .int .i64 0, .pointer (some ⟨xb, 0, none⟩), undef, undef, .slice (some ⟨g, o, none⟩) 128 c, .int .i64 0, .int .i64 0, .bool false, undef, undef, .slice (some ⟨g, o, none⟩) 128 c, .int .u64 (fx 8), .slice (some ⟨g, o, none⟩) 128 c, .int .u64 (fx 16), .slice (some ⟨g, o, none⟩) 128 c, .int .u64 (fx 24), .int .i64 (fx 24), .slice (some ⟨g, o, none⟩) 128 c, .int .u64 (fx 28), .int .i64 (fx 28), .slice (some ⟨g, o, none⟩) 128 c, .int .u64 (fx 32), undef, .slice (some ⟨g, o, none⟩) 128 c, undef, undef, .slice (some ⟨g, o, none⟩) 128 c, .pointer (some ⟨g, o + 40, none⟩), .int .u8 (fl : Int), .bool es, .slice (some ⟨g, o, none⟩) 128 c, undef, undef, undef, undef, undef, undef, undef, undef, undef, undef, undef, undef, undef, undef, undef, undef, undef, undef, undef], []⟩ : Act), rfl, hS.trans C.out, by kernel_rfl, ?_⟩
    refine wpH_take (i := 12) (d := 26) (op := .convert 22 3 (.tmp 25)) (v := .int .i64 (fx 32)) (a' := (⟨#[.slice (some ⟨g, o, none⟩) 128 c, undef, .pointer (some ⟨w.heap.size, 0, none⟩), .int .i64 0, .int .i64 0, .pointer (some ⟨xb, 0, none⟩), undef, undef, .slice (some ⟨g, o, none⟩) 128 c, .int .i64 0, .int .i64 0, .bool false, undef, undef, .slice (some ⟨g, o, none⟩) 128 c, .int .u64 (fx 8), .slice (some ⟨g, o, none⟩) 128 c, .int .u64 (fx 16), .slice (some ⟨g, o, none⟩) 128 c, .int .u64 (fx 24), .int .i64 (fx 24), .slice (some ⟨g, o, none⟩) 128 c, .int .u64 (fx 28), .int .i64 (fx 28), .slice (some ⟨g, o, none⟩) 128 c, .int .u64 (fx 32), .int .i64 (fx 32), .slice (some ⟨g, o, none⟩) 128 c, undef, undef, .slice (some ⟨g, o, none⟩) 128 c, .pointer (some ⟨g, o + 40, none⟩), .int .u8 (fl : Int), .bool es, .slice (some ⟨g, o, none⟩) 128 c, undef, undef, undef, undef, undef, undef, undef, undef, undef, undef, undef, undef, undef, undef, undef, undef, undef, undef, undef], []⟩ : Act)) (by unfold OpIs; kernel_rfl) NS (by kernel_rfl) (by kernel_rfl) (runH_convert (u := .int .u64 (fx 32)) (by kernel_rfl) (ci64 32 l32)) (hS.trans C.out) (l' := bitsOf 26 18825215) (by kernel_rfl) (by kernel_rfl) ?_
    exact T5 W' xb (hS.trans C.out) (X.chg C.out (by simp)) hx
  have T3 : ∀ (W : World) (xb : Nat), Chg [] w2.drew W → Blk W xb 81 [.int .u64 0, .int .u64 0, .int .i64 0, .int .i64 0, .int .i64 0, .int .i64 0, .bool false, .int .u32 0] → w2.drew.heap.size ≤ xb → wpAnyH Tryz.prog .any (opsOf Tryz.f80) (cutQ R) (fun W => Chg [] w2.drew W) 10 (bitsOf 26 18818303) (⟨#[.slice (some ⟨g, o, none⟩) 128 c, undef, .pointer (some ⟨w.heap.size, 0, none⟩), .int .i64 0, .int .i64 0, .pointer (some ⟨xb, 0, none⟩), undef, undef, .slice (some ⟨g, o, none⟩) 128 c, .int .i64 0, .int .i64 0, .bool false, undef, undef, .slice (some ⟨g, o, none⟩) 128 c, .int .u64 (fx 8), .slice (some ⟨g, o, none⟩) 128 c, .int .u64 (fx 16), .slice (some ⟨g, o, none⟩) 128 c, .int .u64 (fx 24), .int .i64 (fx 24), .slice (some ⟨g, o, none⟩) 128 c, undef, undef, .slice (some ⟨g, o, none⟩) 128 c, undef, undef, .slice (some ⟨g, o, none⟩) 128 c, undef, undef, .slice (some ⟨g, o, none⟩) 128 c, .pointer (some ⟨g, o + 40, none⟩), .int .u8 (fl : Int), .bool es, .slice (some ⟨g, o, none⟩) 128 c, undef, undef, undef, undef, undef, undef, undef, undef, undef, undef, undef, undef, undef, undef, undef, undef, undef, undef, undef], []⟩ : Act) W := by
    intro W xb hS X hx
    refine wpAnyH_ready (rs := [8]) (by kernel_rfl) (by simp) ?_
    refine readyH_call (i := 8) (d := 22) (f := 101) (args := #[.tmp 21, .const (.int .i64 28), .const (.int .i64 4)]) (ats := #[55, 3, 3]) (vs := #[.slice (some ⟨g, o, none⟩) 128 c, .int .i64 28, .int .i64 4]) (by unfold OpIs; kernel_rfl) enters_get (by kernel_rfl) (l' := bitsOf 26 18818559) (by kernel_rfl) ?_ AllReadyH.nil
    refine (G28 W hS).mono ?_
    rintro e W' ⟨rfl, C⟩
    refine ⟨_, (⟨#[.slice (some ⟨g, o, none⟩) 128 c, undef, .pointer (some ⟨w.heap.size, 0, none⟩), .int .i64 0, .int .i64 0, .pointer (some ⟨xb, 0, none⟩), undef, undef, .slice (some ⟨g, o, none⟩) 128 c, .int .i64 0, .int .i64 0, .bool false, undef, undef, .slice (some ⟨g, o, none⟩) 128 c, .int .u64 (fx 8), .slice (some ⟨g, o, none⟩) 128 c, .int .u64 (fx 16), .slice (some ⟨g, o, none⟩) 128 c, .int .u64 (fx 24), .int .i64 (fx 24), .slice (some ⟨g, o, none⟩) 128 c, .int .u64 (fx 28), undef, .slice (some ⟨g, o, none⟩) 128 c, undef, undef, .slice (some ⟨g, o, none⟩) 128 c, undef, undef, .slice (some ⟨g, o, none⟩) 128 c, .pointer (some ⟨g, o + 40, none⟩), .int .u8 (fl : Int), .bool es, .slice (some ⟨g, o, none⟩) 128 c, undef, undef, undef, undef, undef, undef, undef, undef, undef, undef, undef, undef, undef, undef, undef, undef, undef, undef, undef], []⟩ : Act), rfl, hS.trans C.out, by kernel_rfl, ?_⟩
    refine wpH_take (i := 9) (d := 23) (op := .convert 22 3 (.tmp 22)) (v := .int .i64 (fx 28)) (a' := (⟨#[.slice (some ⟨g, o, none⟩) 128 c, undef, .pointer (some ⟨w.heap.size, 0, none⟩), .int .i64 0, .int .i64 0, .pointer (some ⟨xb, 0, none⟩), undef, undef, .slice (some ⟨g, o, none⟩) 128 c, .int .i64 0, .int .i64 0, .bool false, undef, undef, .slice (some ⟨g, o, none⟩) 128 c, .int .u64 (fx 8), .slice (some ⟨g, o, none⟩) 128 c, .int .u64 (fx 16), .slice (some ⟨g, o, none⟩) 128 c, .int .u64 (fx 24), .int .i64 (fx 24), .slice (some ⟨g, o, none⟩) 128 c, .int .u64 (fx 28), .int .i64 (fx 28), .slice (some ⟨g, o, none⟩) 128 c, undef, undef, .slice (some ⟨g, o, none⟩) 128 c, undef, undef, .slice (some ⟨g, o, none⟩) 128 c, .pointer (some ⟨g, o + 40, none⟩), .int .u8 (fl : Int), .bool es, .slice (some ⟨g, o, none⟩) 128 c, undef, undef, undef, undef, undef, undef, undef, undef, undef, undef, undef, undef, undef, undef, undef, undef, undef, undef, undef], []⟩ : Act)) (by unfold OpIs; kernel_rfl) NS (by kernel_rfl) (by kernel_rfl) (runH_convert (u := .int .u64 (fx 28)) (by kernel_rfl) (ci64 28 l28)) (hS.trans C.out) (l' := bitsOf 26 18819071) (by kernel_rfl) (by kernel_rfl) ?_
    exact T4 W' xb (hS.trans C.out) (X.chg C.out (by simp)) hx
  have T2 : ∀ (W : World) (xb : Nat), Chg [] w2.drew W → Blk W xb 81 [.int .u64 0, .int .u64 0, .int .i64 0, .int .i64 0, .int .i64 0, .int .i64 0, .bool false, .int .u32 0] → w2.drew.heap.size ≤ xb → wpAnyH Tryz.prog .any (opsOf Tryz.f80) (cutQ R) (fun W => Chg [] w2.drew W) 12 (bitsOf 26 18818207) (⟨#[.slice (some ⟨g, o, none⟩) 128 c, undef, .pointer (some ⟨w.heap.size, 0, none⟩), .int .i64 0, .int .i64 0, .pointer (some ⟨xb, 0, none⟩), undef, undef, .slice (some ⟨g, o, none⟩) 128 c, .int .i64 0, .int .i64 0, .bool false, undef, undef, .slice (some ⟨g, o, none⟩) 128 c, .int .u64 (fx 8), .slice (some ⟨g, o, none⟩) 128 c, .int .u64 (fx 16), .slice (some ⟨g, o, none⟩) 128 c, undef, undef, .slice (some ⟨g, o, none⟩) 128 c, undef, undef, .slice (some ⟨g, o, none⟩) 128 c, undef, undef, .slice (some ⟨g, o, none⟩) 128 c, undef, undef, .slice (some ⟨g, o, none⟩) 128 c, .pointer (some ⟨g, o + 40, none⟩), .int .u8 (fl : Int), .bool es, .slice (some ⟨g, o, none⟩) 128 c, undef, undef, undef, undef, undef, undef, undef, undef, undef, undef, undef, undef, undef, undef, undef, undef, undef, undef, undef], []⟩ : Act) W := by
    intro W xb hS X hx
    refine wpAnyH_ready (rs := [5]) (by kernel_rfl) (by simp) ?_
    refine readyH_call (i := 5) (d := 19) (f := 101) (args := #[.tmp 18, .const (.int .i64 24), .const (.int .i64 4)]) (ats := #[55, 3, 3]) (vs := #[.slice (some ⟨g, o, none⟩) 128 c, .int .i64 24, .int .i64 4]) (by unfold OpIs; kernel_rfl) enters_get (by kernel_rfl) (l' := bitsOf 26 18818239) (by kernel_rfl) ?_ AllReadyH.nil
    refine (G24 W hS).mono ?_
    rintro e W' ⟨rfl, C⟩
    refine ⟨_, (⟨#[.slice (some ⟨g, o, none⟩) 128 c, undef, .pointer (some ⟨w.heap.size, 0, none⟩), .int .i64 0, .int .i64 0, .pointer (some ⟨xb, 0, none⟩), undef, undef, .slice (some ⟨g, o, none⟩) 128 c, .int .i64 0, .int .i64 0, .bool false, undef, undef, .slice (some ⟨g, o, none⟩) 128 c, .int .u64 (fx 8), .slice (some ⟨g, o, none⟩) 128 c, .int .u64 (fx 16), .slice (some ⟨g, o, none⟩) 128 c, .int .u64 (fx 24), undef, .slice (some ⟨g, o, none⟩) 128 c, undef, undef, .slice (some ⟨g, o, none⟩) 128 c, undef, undef, .slice (some ⟨g, o, none⟩) 128 c, undef, undef, .slice (some ⟨g, o, none⟩) 128 c, .pointer (some ⟨g, o + 40, none⟩), .int .u8 (fl : Int), .bool es, .slice (some ⟨g, o, none⟩) 128 c, undef, undef, undef, undef, undef, undef, undef, undef, undef, undef, undef, undef, undef, undef, undef, undef, undef, undef, undef], []⟩ : Act), rfl, hS.trans C.out, by kernel_rfl, ?_⟩
    refine wpH_take (i := 6) (d := 20) (op := .convert 22 3 (.tmp 19)) (v := .int .i64 (fx 24)) (a' := (⟨#[.slice (some ⟨g, o, none⟩) 128 c, undef, .pointer (some ⟨w.heap.size, 0, none⟩), .int .i64 0, .int .i64 0, .pointer (some ⟨xb, 0, none⟩), undef, undef, .slice (some ⟨g, o, none⟩) 128 c, .int .i64 0, .int .i64 0, .bool false, undef, undef, .slice (some ⟨g, o, none⟩) 128 c, .int .u64 (fx 8), .slice (some ⟨g, o, none⟩) 128 c, .int .u64 (fx 16), .slice (some ⟨g, o, none⟩) 128 c, .int .u64 (fx 24), .int .i64 (fx 24), .slice (some ⟨g, o, none⟩) 128 c, undef, undef, .slice (some ⟨g, o, none⟩) 128 c, undef, undef, .slice (some ⟨g, o, none⟩) 128 c, undef, undef, .slice (some ⟨g, o, none⟩) 128 c, .pointer (some ⟨g, o + 40, none⟩), .int .u8 (fl : Int), .bool es, .slice (some ⟨g, o, none⟩) 128 c, undef, undef, undef, undef, undef, undef, undef, undef, undef, undef, undef, undef, undef, undef, undef, undef, undef, undef, undef], []⟩ : Act)) (by unfold OpIs; kernel_rfl) NS (by kernel_rfl) (by kernel_rfl) (runH_convert (u := .int .u64 (fx 24)) (by kernel_rfl) (ci64 24 l24)) (hS.trans C.out) (l' := bitsOf 26 18818303) (by kernel_rfl) (by kernel_rfl) ?_
    exact T3 W' xb (hS.trans C.out) (X.chg C.out (by simp)) hx
  have T1 : ∀ (W : World) (xb : Nat), Chg [] w2.drew W → Blk W xb 81 [.int .u64 0, .int .u64 0, .int .i64 0, .int .i64 0, .int .i64 0, .int .i64 0, .bool false, .int .u32 0] → w2.drew.heap.size ≤ xb → wpAnyH Tryz.prog .any (opsOf Tryz.f80) (cutQ R) (fun W => Chg [] w2.drew W) 13 (bitsOf 26 18818199) (⟨#[.slice (some ⟨g, o, none⟩) 128 c, undef, .pointer (some ⟨w.heap.size, 0, none⟩), .int .i64 0, .int .i64 0, .pointer (some ⟨xb, 0, none⟩), undef, undef, .slice (some ⟨g, o, none⟩) 128 c, .int .i64 0, .int .i64 0, .bool false, undef, undef, .slice (some ⟨g, o, none⟩) 128 c, .int .u64 (fx 8), .slice (some ⟨g, o, none⟩) 128 c, undef, .slice (some ⟨g, o, none⟩) 128 c, undef, undef, .slice (some ⟨g, o, none⟩) 128 c, undef, undef, .slice (some ⟨g, o, none⟩) 128 c, undef, undef, .slice (some ⟨g, o, none⟩) 128 c, undef, undef, .slice (some ⟨g, o, none⟩) 128 c, .pointer (some ⟨g, o + 40, none⟩), .int .u8 (fl : Int), .bool es, .slice (some ⟨g, o, none⟩) 128 c, undef, undef, undef, undef, undef, undef, undef, undef, undef, undef, undef, undef, undef, undef, undef, undef, undef, undef, undef], []⟩ : Act) W := by
    intro W xb hS X hx
    refine wpAnyH_ready (rs := [3]) (by kernel_rfl) (by simp) ?_
    refine readyH_call (i := 3) (d := 17) (f := 101) (args := #[.tmp 16, .const (.int .i64 16), .const (.int .i64 8)]) (ats := #[55, 3, 3]) (vs := #[.slice (some ⟨g, o, none⟩) 128 c, .int .i64 16, .int .i64 8]) (by unfold OpIs; kernel_rfl) enters_get (by kernel_rfl) (l' := bitsOf 26 18818207) (by kernel_rfl) ?_ AllReadyH.nil
    refine (G16 W hS).mono ?_
    rintro e W' ⟨rfl, C⟩
    refine ⟨_, (⟨#[.slice (some ⟨g, o, none⟩) 128 c, undef, .pointer (some ⟨w.heap.size, 0, none⟩), .int .i64 0, .int .i64 0, .pointer (some ⟨xb, 0, none⟩), undef, undef, .slice (some ⟨g, o, none⟩) 128 c, .int .i64 0, .int .i64 0, .bool false, undef, undef, .slice (some ⟨g, o, none⟩) 128 c, .int .u64 (fx 8), .slice (some ⟨g, o, none⟩) 128 c, .int .u64 (fx 16), .slice (some ⟨g, o, none⟩) 128 c, undef, undef, .slice (some ⟨g, o, none⟩) 128 c, undef, undef, .slice (some ⟨g, o, none⟩) 128 c, undef, undef, .slice (some ⟨g, o, none⟩) 128 c, undef, undef, .slice (some ⟨g, o, none⟩) 128 c, .pointer (some ⟨g, o + 40, none⟩), .int .u8 (fl : Int), .bool es, .slice (some ⟨g, o, none⟩) 128 c, undef, undef, undef, undef, undef, undef, undef, undef, undef, undef, undef, undef, undef, undef, undef, undef, undef, undef, undef], []⟩ : Act), rfl, hS.trans C.out, by kernel_rfl, ?_⟩
    exact T2 W' xb (hS.trans C.out) (X.chg C.out (by simp)) hx
  have T0 : ∀ (W : World) (xb : Nat), Chg [] w2.drew W → Blk W xb 81 [.int .u64 0, .int .u64 0, .int .i64 0, .int .i64 0, .int .i64 0, .int .i64 0, .bool false, .int .u32 0] → w2.drew.heap.size ≤ xb → wpAnyH Tryz.prog .any (opsOf Tryz.f80) (cutQ R) (fun W => Chg [] w2.drew W) 14 (bitsOf 26 18818197) (⟨#[.slice (some ⟨g, o, none⟩) 128 c, undef, .pointer (some ⟨w.heap.size, 0, none⟩), .int .i64 0, .int .i64 0, .pointer (some ⟨xb, 0, none⟩), undef, undef, .slice (some ⟨g, o, none⟩) 128 c, .int .i64 0, .int .i64 0, .bool false, undef, undef, .slice (some ⟨g, o, none⟩) 128 c, undef, .slice (some ⟨g, o, none⟩) 128 c, undef, .slice (some ⟨g, o, none⟩) 128 c, undef, undef, .slice (some ⟨g, o, none⟩) 128 c, undef, undef, .slice (some ⟨g, o, none⟩) 128 c, undef, undef, .slice (some ⟨g, o, none⟩) 128 c, undef, undef, .slice (some ⟨g, o, none⟩) 128 c, .pointer (some ⟨g, o + 40, none⟩), .int .u8 (fl : Int), .bool es, .slice (some ⟨g, o, none⟩) 128 c, undef, undef, undef, undef, undef, undef, undef, undef, undef, undef, undef, undef, undef, undef, undef, undef, undef, undef, undef], []⟩ : Act) W := by
    intro W xb hS X hx
    refine wpAnyH_ready (rs := [1]) (by kernel_rfl) (by simp) ?_
    refine readyH_call (i := 1) (d := 15) (f := 101) (args := #[.tmp 14, .const (.int .i64 8), .const (.int .i64 8)]) (ats := #[55, 3, 3]) (vs := #[.slice (some ⟨g, o, none⟩) 128 c, .int .i64 8, .int .i64 8]) (by unfold OpIs; kernel_rfl) enters_get (by kernel_rfl) (l' := bitsOf 26 18818199) (by kernel_rfl) ?_ AllReadyH.nil
    refine (G8 W hS).mono ?_
    rintro e W' ⟨rfl, C⟩
    refine ⟨_, (⟨#[.slice (some ⟨g, o, none⟩) 128 c, undef, .pointer (some ⟨w.heap.size, 0, none⟩), .int .i64 0, .int .i64 0, .pointer (some ⟨xb, 0, none⟩), undef, undef, .slice (some ⟨g, o, none⟩) 128 c, .int .i64 0, .int .i64 0, .bool false, undef, undef, .slice (some ⟨g, o, none⟩) 128 c, .int .u64 (fx 8), .slice (some ⟨g, o, none⟩) 128 c, undef, .slice (some ⟨g, o, none⟩) 128 c, undef, undef, .slice (some ⟨g, o, none⟩) 128 c, undef, undef, .slice (some ⟨g, o, none⟩) 128 c, undef, undef, .slice (some ⟨g, o, none⟩) 128 c, undef, undef, .slice (some ⟨g, o, none⟩) 128 c, .pointer (some ⟨g, o + 40, none⟩), .int .u8 (fl : Int), .bool es, .slice (some ⟨g, o, none⟩) 128 c, undef, undef, undef, undef, undef, undef, undef, undef, undef, undef, undef, undef, undef, undef, undef, undef, undef, undef, undef], []⟩ : Act), rfl, hS.trans C.out, by kernel_rfl, ?_⟩
    exact T1 W' xb (hS.trans C.out) (X.chg C.out (by simp)) hx
  have N7 : ∀ (W : World), Chg [] w2.drew W → wpAnyH Tryz.prog .any (opsOf Tryz.f80) (cutQ R) (fun W => Chg [] w2.drew W) 2 (bitsOf 26 16777215) (⟨#[.slice (some ⟨g, o, none⟩) 128 c, undef, .pointer (some ⟨w.heap.size, 0, none⟩), .int .i64 0, .int .i64 0, undef, undef, undef, .slice (some ⟨g, o, none⟩) 128 c, .int .i64 0, .int .i64 0, .bool false, undef, undef, .slice (some ⟨g, o, none⟩) 128 c, .int .u64 (fx 8), .slice (some ⟨g, o, none⟩) 128 c, .int .u64 (fx 16), .slice (some ⟨g, o, none⟩) 128 c, .int .u64 (fx 24), .int .i64 (fx 24), .slice (some ⟨g, o, none⟩) 128 c, .int .u64 (fx 28), .int .i64 (fx 28), .slice (some ⟨g, o, none⟩) 128 c, .int .u64 (fx 32), .int .i64 (fx 32), .slice (some ⟨g, o, none⟩) 128 c, .int .u64 (fx 36), .int .i64 (fx 36), .slice (some ⟨g, o, none⟩) 128 c, .pointer (some ⟨g, o + 40, none⟩), .int .u8 (fl : Int), .bool es, .slice (some ⟨g, o, none⟩) 128 c, .int .u64 (fx 44), .int .u32 (fx 44), .agg #[.int .u64 (fx 8), .int .u64 (fx 16), .int .i64 (fx 24), .int .i64 (fx 28), .int .i64 (fx 32), .int .i64 (fx 36), .bool es, .int .u32 (fx 44)], undef, undef, undef, undef, undef, undef, undef, undef, undef, undef, undef, undef, undef, undef, undef, undef], []⟩ : Act) W := by
    intro W hS
    refine wpAnyH_ready (rs := [24]) (by kernel_rfl) (by simp) ?_
    refine readyH_alloc (i := 24) (d := 5) (t := 81) (zs := [.int .u64 0, .int .u64 0, .int .i64 0, .int .i64 0, .int .i64 0, .int .i64 0, .bool false, .int .u32 0]) (by unfold OpIs; kernel_rfl) (al W) (l' := bitsOf 26 33554431) (by kernel_rfl) (a' := (⟨#[.slice (some ⟨g, o, none⟩) 128 c, undef, .pointer (some ⟨w.heap.size, 0, none⟩), .int .i64 0, .int .i64 0, .pointer (some ⟨W.heap.size, 0, none⟩), undef, undef, .slice (some ⟨g, o, none⟩) 128 c, .int .i64 0, .int .i64 0, .bool false, undef, undef, .slice (some ⟨g, o, none⟩) 128 c, .int .u64 (fx 8), .slice (some ⟨g, o, none⟩) 128 c, .int .u64 (fx 16), .slice (some ⟨g, o, none⟩) 128 c, .int .u64 (fx 24), .int .i64 (fx 24), .slice (some ⟨g, o, none⟩) 128 c, .int .u64 (fx 28), .int .i64 (fx 28), .slice (some ⟨g, o, none⟩) 128 c, .int .u64 (fx 32), .int .i64 (fx 32), .slice (some ⟨g, o, none⟩) 128 c, .int .u64 (fx 36), .int .i64 (fx 36), .slice (some ⟨g, o, none⟩) 128 c, .pointer (some ⟨g, o + 40, none⟩), .int .u8 (fl : Int), .bool es, .slice (some ⟨g, o, none⟩) 128 c, .int .u64 (fx 44), .int .u32 (fx 44), .agg #[.int .u64 (fx 8), .int .u64 (fx 16), .int .i64 (fx 24), .int .i64 (fx 28), .int .i64 (fx 32), .int .i64 (fx 36), .bool es, .int .u32 (fx 44)], undef, undef, undef, undef, undef, undef, undef, undef, undef, undef, undef, undef, undef, undef, undef, undef], []⟩ : Act)) (by kernel_rfl) (hS.alloc _) (T7 _ _ (hS.alloc _) (Blk.made W [.int .u64 0, .int .u64 0, .int .i64 0, .int .i64 0, .int .i64 0, .int .i64 0, .bool false, .int .u32 0] 81) hS.size) AllReadyH.nil
  have N6 : ∀ (W : World), Chg [] w2.drew W → wpAnyH Tryz.prog .any (opsOf Tryz.f80) (cutQ R) (fun W => Chg [] w2.drew W) 5 (bitsOf 26 2097151) (⟨#[.slice (some ⟨g, o, none⟩) 128 c, undef, .pointer (some ⟨w.heap.size, 0, none⟩), .int .i64 0, .int .i64 0, undef, undef, undef, .slice (some ⟨g, o, none⟩) 128 c, .int .i64 0, .int .i64 0, .bool false, undef, undef, .slice (some ⟨g, o, none⟩) 128 c, .int .u64 (fx 8), .slice (some ⟨g, o, none⟩) 128 c, .int .u64 (fx 16), .slice (some ⟨g, o, none⟩) 128 c, .int .u64 (fx 24), .int .i64 (fx 24), .slice (some ⟨g, o, none⟩) 128 c, .int .u64 (fx 28), .int .i64 (fx 28), .slice (some ⟨g, o, none⟩) 128 c, .int .u64 (fx 32), .int .i64 (fx 32), .slice (some ⟨g, o, none⟩) 128 c, .int .u64 (fx 36), .int .i64 (fx 36), .slice (some ⟨g, o, none⟩) 128 c, .pointer (some ⟨g, o + 40, none⟩), .int .u8 (fl : Int), .bool es, .slice (some ⟨g, o, none⟩) 128 c, undef, undef, undef, undef, undef, undef, undef, undef, undef, undef, undef, undef, undef, undef, undef, undef, undef, undef, undef], []⟩ : Act) W := by
    intro W hS
    refine wpAnyH_ready (rs := [21, 24]) (by kernel_rfl) (by simp) ?_
    refine readyH_call (i := 21) (d := 35) (f := 101) (args := #[.tmp 34, .const (.int .i64 44), .const (.int .i64 4)]) (ats := #[55, 3, 3]) (vs := #[.slice (some ⟨g, o, none⟩) 128 c, .int .i64 44, .int .i64 4]) (by unfold OpIs; kernel_rfl) enters_get (by kernel_rfl) (l' := bitsOf 26 4194303) (by kernel_rfl) ?_ ?_
    · refine (G44 W hS).mono ?_
      rintro e W' ⟨rfl, C⟩
      refine ⟨_, (⟨#[.slice (some ⟨g, o, none⟩) 128 c, undef, .pointer (some ⟨w.heap.size, 0, none⟩), .int .i64 0, .int .i64 0, undef, undef, undef, .slice (some ⟨g, o, none⟩) 128 c, .int .i64 0, .int .i64 0, .bool false, undef, undef, .slice (some ⟨g, o, none⟩) 128 c, .int .u64 (fx 8), .slice (some ⟨g, o, none⟩) 128 c, .int .u64 (fx 16), .slice (some ⟨g, o, none⟩) 128 c, .int .u64 (fx 24), .int .i64 (fx 24), .slice (some ⟨g, o, none⟩) 128 c, .int .u64 (fx 28), .int .i64 (fx 28), .slice (some ⟨g, o, none⟩) 128 c, .int .u64 (fx 32), .int .i64 (fx 32), .slice (some ⟨g, o, none⟩) 128 c, .int .u64 (fx 36), .int .i64 (fx 36), .slice (some ⟨g, o, none⟩) 128 c, .pointer (some ⟨g, o + 40, none⟩), .int .u8 (fl : Int), .bool es, .slice (some ⟨g, o, none⟩) 128 c, .int .u64 (fx 44), undef, undef, undef, undef, undef, undef, undef, undef, undef, undef, undef, undef, undef, undef, undef, undef, undef, undef], []⟩ : Act), rfl, hS.trans C.out, by kernel_rfl, ?_⟩
      refine wpH_take (i := 22) (d := 36) (op := .convert 22 74 (.tmp 35)) (v := .int .u32 (fx 44)) (a' := (⟨#[.slice (some ⟨g, o, none⟩) 128 c, undef, .pointer (some ⟨w.heap.size, 0, none⟩), .int .i64 0, .int .i64 0, undef, undef, undef, .slice (some ⟨g, o, none⟩) 128 c, .int .i64 0, .int .i64 0, .bool false, undef, undef, .slice (some ⟨g, o, none⟩) 128 c, .int .u64 (fx 8), .slice (some ⟨g, o, none⟩) 128 c, .int .u64 (fx 16), .slice (some ⟨g, o, none⟩) 128 c, .int .u64 (fx 24), .int .i64 (fx 24), .slice (some ⟨g, o, none⟩) 128 c, .int .u64 (fx 28), .int .i64 (fx 28), .slice (some ⟨g, o, none⟩) 128 c, .int .u64 (fx 32), .int .i64 (fx 32), .slice (some ⟨g, o, none⟩) 128 c, .int .u64 (fx 36), .int .i64 (fx 36), .slice (some ⟨g, o, none⟩) 128 c, .pointer (some ⟨g, o + 40, none⟩), .int .u8 (fl : Int), .bool es, .slice (some ⟨g, o, none⟩) 128 c, .int .u64 (fx 44), .int .u32 (fx 44), undef, undef, undef, undef, undef, undef, undef, undef, undef, undef, undef, undef, undef, undef, undef, undef, undef], []⟩ : Act)) (by unfold OpIs; kernel_rfl) NS (by kernel_rfl) (by kernel_rfl) (runH_convert (u := .int .u64 (fx 44)) (by kernel_rfl) ci32) (hS.trans C.out) (l' := bitsOf 26 8388607) (by kernel_rfl) (by kernel_rfl) ?_
      refine wpH_take (i := 23) (d := 37) (op := .build 81 #[(0, .tmp 15), (1, .tmp 17), (2, .tmp 20), (3, .tmp 23), (4, .tmp 26), (5, .tmp 29), (6, .tmp 33), (7, .tmp 36)]) (v := .agg #[.int .u64 (fx 8), .int .u64 (fx 16), .int .i64 (fx 24), .int .i64 (fx 28), .int .i64 (fx 32), .int .i64 (fx 36), .bool es, .int .u32 (fx 44)]) (a' := (⟨#[.slice (some ⟨g, o, none⟩) 128 c, undef, .pointer (some ⟨w.heap.size, 0, none⟩), .int .i64 0, .int .i64 0, undef, undef, undef, .slice (some ⟨g, o, none⟩) 128 c, .int .i64 0, .int .i64 0, .bool false, undef, undef, .slice (some ⟨g, o, none⟩) 128 c, .int .u64 (fx 8), .slice (some ⟨g, o, none⟩) 128 c, .int .u64 (fx 16), .slice (some ⟨g, o, none⟩) 128 c, .int .u64 (fx 24), .int .i64 (fx 24), .slice (some ⟨g, o, none⟩) 128 c, .int .u64 (fx 28), .int .i64 (fx 28), .slice (some ⟨g, o, none⟩) 128 c, .int .u64 (fx 32), .int .i64 (fx 32), .slice (some ⟨g, o, none⟩) 128 c, .int .u64 (fx 36), .int .i64 (fx 36), .slice (some ⟨g, o, none⟩) 128 c, .pointer (some ⟨g, o + 40, none⟩), .int .u8 (fl : Int), .bool es, .slice (some ⟨g, o, none⟩) 128 c, .int .u64 (fx 44), .int .u32 (fx 44), .agg #[.int .u64 (fx 8), .int .u64 (fx 16), .int .i64 (fx 24), .int .i64 (fx 28), .int .i64 (fx 32), .int .i64 (fx 36), .bool es, .int .u32 (fx 44)], undef, undef, undef, undef, undef, undef, undef, undef, undef, undef, undef, undef, undef, undef, undef, undef], []⟩ : Act)) (by unfold OpIs; kernel_rfl) NS (by kernel_rfl) (by kernel_rfl) (runH_build (vs := #[(0, .int .u64 (fx 8)), (1, .int .u64 (fx 16)), (2, .int .i64 (fx 24)), (3, .int .i64 (fx 28)), (4, .int .i64 (fx 32)), (5, .int .i64 (fx 36)), (6, .bool es), (7, .int .u32 (fx 44))]) (by kernel_rfl) bd) (hS.trans C.out) (l' := bitsOf 26 16777215) (by kernel_rfl) (by kernel_rfl) ?_
      exact N7 W' (hS.trans C.out)
    · skip
      refine readyH_alloc (i := 24) (d := 5) (t := 81) (zs := [.int .u64 0, .int .u64 0, .int .i64 0, .int .i64 0, .int .i64 0, .int .i64 0, .bool false, .int .u32 0]) (by unfold OpIs; kernel_rfl) (al W) (l' := bitsOf 26 18874367) (by kernel_rfl) (a' := (⟨#[.slice (some ⟨g, o, none⟩) 128 c, undef, .pointer (some ⟨w.heap.size, 0, none⟩), .int .i64 0, .int .i64 0, .pointer (some ⟨W.heap.size, 0, none⟩), undef, undef, .slice (some ⟨g, o, none⟩) 128 c, .int .i64 0, .int .i64 0, .bool false, undef, undef, .slice (some ⟨g, o, none⟩) 128 c, .int .u64 (fx 8), .slice (some ⟨g, o, none⟩) 128 c, .int .u64 (fx 16), .slice (some ⟨g, o, none⟩) 128 c, .int .u64 (fx 24), .int .i64 (fx 24), .slice (some ⟨g, o, none⟩) 128 c, .int .u64 (fx 28), .int .i64 (fx 28), .slice (some ⟨g, o, none⟩) 128 c, .int .u64 (fx 32), .int .i64 (fx 32), .slice (some ⟨g, o, none⟩) 128 c, .int .u64 (fx 36), .int .i64 (fx 36), .slice (some ⟨g, o, none⟩) 128 c, .pointer (some ⟨g, o + 40, none⟩), .int .u8 (fl : Int), .bool es, .slice (some ⟨g, o, none⟩) 128 c, undef, undef, undef, undef, undef, undef, undef, undef, undef, undef, undef, undef, undef, undef, undef, undef, undef, undef, undef], []⟩ : Act)) (by kernel_rfl) (hS.alloc _) (T6 _ _ (hS.alloc _) (Blk.made W [.int .u64 0, .int .u64 0, .int .i64 0, .int .i64 0, .int .i64 0, .int .i64 0, .bool false, .int .u32 0] 81) hS.size) AllReadyH.nil
  have N5 : ∀ (W : World), Chg [] w2.drew W → wpAnyH Tryz.prog .any (opsOf Tryz.f80) (cutQ R) (fun W => Chg [] w2.drew W) 7 (bitsOf 26 2047999) (⟨#[.slice (some ⟨g, o, none⟩) 128 c, undef, .pointer (some ⟨w.heap.size, 0, none⟩), .int .i64 0, .int .i64 0, undef, undef, undef, .slice (some ⟨g, o, none⟩) 128 c, .int .i64 0, .int .i64 0, .bool false, undef, undef, .slice (some ⟨g, o, none⟩) 128 c, .int .u64 (fx 8), .slice (some ⟨g, o, none⟩) 128 c, .int .u64 (fx 16), .slice (some ⟨g, o, none⟩) 128 c, .int .u64 (fx 24), .int .i64 (fx 24), .slice (some ⟨g, o, none⟩) 128 c, .int .u64 (fx 28), .int .i64 (fx 28), .slice (some ⟨g, o, none⟩) 128 c, .int .u64 (fx 32), .int .i64 (fx 32), .slice (some ⟨g, o, none⟩) 128 c, undef, undef, .slice (some ⟨g, o, none⟩) 128 c, .pointer (some ⟨g, o + 40, none⟩), .int .u8 (fl : Int), .bool es, .slice (some ⟨g, o, none⟩) 128 c, undef, undef, undef, undef, undef, undef, undef, undef, undef, undef, undef, undef, undef, undef, undef, undef, undef, undef, undef], []⟩ : Act) W := by
    intro W hS
    refine wpAnyH_ready (rs := [14, 24]) (by kernel_rfl) (by simp) ?_
    refine readyH_call (i := 14) (d := 28) (f := 101) (args := #[.tmp 27, .const (.int .i64 36), .const (.int .i64 4)]) (ats := #[55, 3, 3]) (vs := #[.slice (some ⟨g, o, none⟩) 128 c, .int .i64 36, .int .i64 4]) (by unfold OpIs; kernel_rfl) enters_get (by kernel_rfl) (l' := bitsOf 26 2064383) (by kernel_rfl) ?_ ?_
    · refine (G36 W hS).mono ?_
      rintro e W' ⟨rfl, C⟩
      refine ⟨_, (⟨#[.slice (some ⟨g, o, none⟩) 128 c, undef, .pointer (some ⟨w.heap.size, 0, none⟩), .int .i64 0, .int .i64 0, undef, undef, undef, .slice (some ⟨g, o, none⟩) 128 c, .int .i64 0, .int .i64 0, .bool false, undef, undef, .slice (some ⟨g, o, none⟩) 128 c, .int .u64 (fx 8), .slice (some ⟨g, o, none⟩) 128 c, .int .u64 (fx 16), .slice (some ⟨g, o, none⟩) 128 c, .int .u64 (fx 24), .int .i64 (fx 24), .slice (some ⟨g, o, none⟩) 128 c, .int .u64 (fx 28), .int .i64 (fx 28), .slice (some ⟨g, o, none⟩) 128 c, .int .u64 (fx 32), .int .i64 (fx 32), .slice (some ⟨g, o, none⟩) 128 c, .int .u64 (fx 36), undef, .slice (some ⟨g, o, none⟩) 128 c, .pointer (some ⟨g, o + 40, none⟩), .int .u8 (fl : Int), .bool es, .slice (some ⟨g, o, none⟩) 128 c, undef, undef, undef, undef, undef, undef, undef, undef, undef, undef, undef, undef, undef, undef, undef, undef, undef, undef, undef], []⟩ : Act), rfl, hS.trans C.out, by kernel_rfl, ?_⟩
      refine wpH_take (i := 15) (d := 29) (op := .convert 22 3 (.tmp 28)) (v := .int .i64 (fx 36)) (a' := (⟨#[.slice (some ⟨g, o, none⟩) 128 c, undef, .pointer (some ⟨w.heap.size, 0, none⟩), .int .i64 0, .int .i64 0, undef, undef, undef, .slice (some ⟨g, o, none⟩) 128 c, .int .i64 0, .int .i64 0, .bool false, undef, undef, .slice (some ⟨g, o, none⟩) 128 c, .int .u64 (fx 8), .slice (some ⟨g, o, none⟩) 128 c, .int .u64 (fx 16), .slice (some ⟨g, o, none⟩) 128 c, .int .u64 (fx 24), .int .i64 (fx 24), .slice (some ⟨g, o, none⟩) 128 c, .int .u64 (fx 28), .int .i64 (fx 28), .slice (some ⟨g, o, none⟩) 128 c, .int .u64 (fx 32), .int .i64 (fx 32), .slice (some ⟨g, o, none⟩) 128 c, .int .u64 (fx 36), .int .i64 (fx 36), .slice (some ⟨g, o, none⟩) 128 c, .pointer (some ⟨g, o + 40, none⟩), .int .u8 (fl : Int), .bool es, .slice (some ⟨g, o, none⟩) 128 c, undef, undef, undef, undef, undef, undef, undef, undef, undef, undef, undef, undef, undef, undef, undef, undef, undef, undef, undef], []⟩ : Act)) (by unfold OpIs; kernel_rfl) NS (by kernel_rfl) (by kernel_rfl) (runH_convert (u := .int .u64 (fx 36)) (by kernel_rfl) (ci64 36 l36)) (hS.trans C.out) (l' := bitsOf 26 2097151) (by kernel_rfl) (by kernel_rfl) ?_
      exact N6 W' (hS.trans C.out)
    · skip
      refine readyH_alloc (i := 24) (d := 5) (t := 81) (zs := [.int .u64 0, .int .u64 0, .int .i64 0, .int .i64 0, .int .i64 0, .int .i64 0, .bool false, .int .u32 0]) (by unfold OpIs; kernel_rfl) (al W) (l' := bitsOf 26 18825215) (by kernel_rfl) (a' := (⟨#[.slice (some ⟨g, o, none⟩) 128 c, undef, .pointer (some ⟨w.heap.size, 0, none⟩), .int .i64 0, .int .i64 0, .pointer (some ⟨W.heap.size, 0, none⟩), undef, undef, .slice (some ⟨g, o, none⟩) 128 c, .int .i64 0, .int .i64 0, .bool false, undef, undef, .slice (some ⟨g, o, none⟩) 128 c, .int .u64 (fx 8), .slice (some ⟨g, o, none⟩) 128 c, .int .u64 (fx 16), .slice (some ⟨g, o, none⟩) 128 c, .int .u64 (fx 24), .int .i64 (fx 24), .slice (some ⟨g, o, none⟩) 128 c, .int .u64 (fx 28), .int .i64 (fx 28), .slice (some ⟨g, o, none⟩) 128 c, .int .u64 (fx 32), .int .i64 (fx 32), .slice (some ⟨g, o, none⟩) 128 c, undef, undef, .slice (some ⟨g, o, none⟩) 128 c, .pointer (some ⟨g, o + 40, none⟩), .int .u8 (fl : Int), .bool es, .slice (some ⟨g, o, none⟩) 128 c, undef, undef, undef, undef, undef, undef, undef, undef, undef, undef, undef, undef, undef, undef, undef, undef, undef, undef, undef], []⟩ : Act)) (by kernel_rfl) (hS.alloc _) (T5 _ _ (hS.alloc _) (Blk.made W [.int .u64 0, .int .u64 0, .int .i64 0, .int .i64 0, .int .i64 0, .int .i64 0, .bool false, .int .u32 0] 81) hS.size) AllReadyH.nil
  have N4 : ∀ (W : World), Chg [] w2.drew W → wpAnyH Tryz.prog .any (opsOf Tryz.f80) (cutQ R) (fun W => Chg [] w2.drew W) 9 (bitsOf 26 2041855) (⟨#[.slice (some ⟨g, o, none⟩) 128 c, undef, .pointer (some ⟨w.heap.size, 0, none⟩), .int .i64 0, .int .i64 0, undef, undef, undef, .slice (some ⟨g, o, none⟩) 128 c, .int .i64 0, .int .i64 0, .bool false, undef, undef, .slice (some ⟨g, o, none⟩) 128 c, .int .u64 (fx 8), .slice (some ⟨g, o, none⟩) 128 c, .int .u64 (fx 16), .slice (some ⟨g, o, none⟩) 128 c, .int .u64 (fx 24), .int .i64 (fx 24), .slice (some ⟨g, o, none⟩) 128 c, .int .u64 (fx 28), .int .i64 (fx 28), .slice (some ⟨g, o, none⟩) 128 c, undef, undef, .slice (some ⟨g, o, none⟩) 128 c, undef, undef, .slice (some ⟨g, o, none⟩) 128 c, .pointer (some ⟨g, o + 40, none⟩), .int .u8 (fl : Int), .bool es, .slice (some ⟨g, o, none⟩) 128 c, undef, undef, undef, undef, undef, undef, undef, undef, undef, undef, undef, undef, undef, undef, undef, undef, undef, undef, undef], []⟩ : Act) W := by
    intro W hS
    refine wpAnyH_ready (rs := [11, 24]) (by kernel_rfl) (by simp) ?_
    refine readyH_call (i := 11) (d := 25) (f := 101) (args := #[.tmp 24, .const (.int .i64 32), .const (.int .i64 4)]) (ats := #[55, 3, 3]) (vs := #[.slice (some ⟨g, o, none⟩) 128 c, .int .i64 32, .int .i64 4]) (by unfold OpIs; kernel_rfl) enters_get (by kernel_rfl) (l' := bitsOf 26 2043903) (by kernel_rfl) ?_ ?_
    · refine (G32 W hS).mono ?_
      rintro e W' ⟨rfl, C⟩
      refine ⟨_, (⟨#[.slice (some ⟨g, o, none⟩) 128 c, undef, .pointer (some ⟨w.heap.size, 0, none⟩), .int .i64 0, .int .i64 0, undef, undef, undef, .slice (some ⟨g, o, none⟩) 128 c, .int .i64 0, .int .i64 0, .bool false, undef, undef, .slice (some ⟨g, o, none⟩) 128 c, .int .u64 (fx 8), .slice (some ⟨g, o, none⟩) 128 c, .int .u64 (fx 16), .slice (some ⟨g, o, none⟩) 128 c, .int .u64 (fx 24), .int .i64 (fx 24), .slice (some ⟨g, o, none⟩) 128 c, .int .u64 (fx 28), .int .i64 (fx 28), .slice (some ⟨g, o, none⟩) 128 c, .int .u64 (fx 32), undef, .slice (some ⟨g, o, none⟩) 128 c, undef, undef, .slice (some ⟨g, o, none⟩) 128 c, .pointer (some ⟨g, o + 40, none⟩), .int .u8 (fl : Int), .bool es, .slice (some ⟨g, o, none⟩) 128 c, undef, undef, undef, undef, undef, undef, undef, undef, undef, undef, undef, undef, undef, undef, undef, undef, undef, undef, undef], []⟩ : Act), rfl, hS.trans C.out, by kernel_rfl, ?_⟩
      refine wpH_take (i := 12) (d := 26) (op := .convert 22 3 (.tmp 25)) (v := .int .i64 (fx 32)) (a' := (⟨#[.slice (some ⟨g, o, none⟩) 128 c, undef, .pointer (some ⟨w.heap.size, 0, none⟩), .int .i64 0, .int .i64 0, undef, undef, undef, .slice (some ⟨g, o, none⟩) 128 c, .int .i64 0, .int .i64 0, .bool false, undef, undef, .slice (some ⟨g, o, none⟩) 128 c, .int .u64 (fx 8), .slice (some ⟨g, o, none⟩) 128 c, .int .u64 (fx 16), .slice (some ⟨g, o, none⟩) 128 c, .int .u64 (fx 24), .int .i64 (fx 24), .slice (some ⟨g, o, none⟩) 128 c, .int .u64 (fx 28), .int .i64 (fx 28), .slice (some ⟨g, o, none⟩) 128 c, .int .u64 (fx 32), .int .i64 (fx 32), .slice (some ⟨g, o, none⟩) 128 c, undef, undef, .slice (some ⟨g, o, none⟩) 128 c, .pointer (some ⟨g, o + 40, none⟩), .int .u8 (fl : Int), .bool es, .slice (some ⟨g, o, none⟩) 128 c, undef, undef, undef, undef, undef, undef, undef, undef, undef, undef, undef, undef, undef, undef, undef, undef, undef, undef, undef], []⟩ : Act)) (by unfold OpIs; kernel_rfl) NS (by kernel_rfl) (by kernel_rfl) (runH_convert (u := .int .u64 (fx 32)) (by kernel_rfl) (ci64 32 l32)) (hS.trans C.out) (l' := bitsOf 26 2047999) (by kernel_rfl) (by kernel_rfl) ?_
      exact N5 W' (hS.trans C.out)
    · skip
      refine readyH_alloc (i := 24) (d := 5) (t := 81) (zs := [.int .u64 0, .int .u64 0, .int .i64 0, .int .i64 0, .int .i64 0, .int .i64 0, .bool false, .int .u32 0]) (by unfold OpIs; kernel_rfl) (al W) (l' := bitsOf 26 18819071) (by kernel_rfl) (a' := (⟨#[.slice (some ⟨g, o, none⟩) 128 c, undef, .pointer (some ⟨w.heap.size, 0, none⟩), .int .i64 0, .int .i64 0, .pointer (some ⟨W.heap.size, 0, none⟩), undef, undef, .slice (some ⟨g, o, none⟩) 128 c, .int .i64 0, .int .i64 0, .bool false, undef, undef, .slice (some ⟨g, o, none⟩) 128 c, .int .u64 (fx 8), .slice (some ⟨g, o, none⟩) 128 c, .int .u64 (fx 16), .slice (some ⟨g, o, none⟩) 128 c, .int .u64 (fx 24), .int .i64 (fx 24), .slice (some ⟨g, o, none⟩) 128 c, .int .u64 (fx 28), .int .i64 (fx 28), .slice (some ⟨g, o, none⟩) 128 c, undef, undef, .slice (some ⟨g, o, none⟩) 128 c, undef, undef, .slice (some ⟨g, o, none⟩) 128 c, .pointer (some ⟨g, o + 40, none⟩), .int .u8 (fl : Int), .bool es, .slice (some ⟨g, o, none⟩) 128 c, undef, undef, undef, undef, undef, undef, undef, undef, undef, undef, undef, undef, undef, undef, undef, undef, undef, undef, undef], []⟩ : Act)) (by kernel_rfl) (hS.alloc _) (T4 _ _ (hS.alloc _) (Blk.made W [.int .u64 0, .int .u64 0, .int .i64 0, .int .i64 0, .int .i64 0, .int .i64 0, .bool false, .int .u32 0] 81) hS.size) AllReadyH.nil
  have N3 : ∀ (W : World), Chg [] w2.drew W → wpAnyH Tryz.prog .any (opsOf Tryz.f80) (cutQ R) (fun W => Chg [] w2.drew W) 11 (bitsOf 26 2041087) (⟨#[.slice (some ⟨g, o, none⟩) 128 c, undef, .pointer (some ⟨w.heap.size, 0, none⟩), .int .i64 0, .int .i64 0, undef, undef, undef, .slice (some ⟨g, o, none⟩) 128 c, .int .i64 0, .int .i64 0, .bool false, undef, undef, .slice (some ⟨g, o, none⟩) 128 c, .int .u64 (fx 8), .slice (some ⟨g, o, none⟩) 128 c, .int .u64 (fx 16), .slice (some ⟨g, o, none⟩) 128 c, .int .u64 (fx 24), .int .i64 (fx 24), .slice (some ⟨g, o, none⟩) 128 c, undef, undef, .slice (some ⟨g, o, none⟩) 128 c, undef, undef, .slice (some ⟨g, o, none⟩) 128 c, undef, undef, .slice (some ⟨g, o, none⟩) 128 c, .pointer (some ⟨g, o + 40, none⟩), .int .u8 (fl : Int), .bool es, .slice (some ⟨g, o, none⟩) 128 c, undef, undef, undef, undef, undef, undef, undef, undef, undef, undef, undef, undef, undef, undef, undef, undef, undef, undef, undef], []⟩ : Act) W := by
    intro W hS
    refine wpAnyH_ready (rs := [8, 24]) (by kernel_rfl) (by simp) ?_
    refine readyH_call (i := 8) (d := 22) (f := 101) (args := #[.tmp 21, .const (.int .i64 28), .const (.int .i64 4)]) (ats := #[55, 3, 3]) (vs := #[.slice (some ⟨g, o, none⟩) 128 c, .int .i64 28, .int .i64 4]) (by unfold OpIs; kernel_rfl) enters_get (by kernel_rfl) (l' := bitsOf 26 2041343) (by kernel_rfl) ?_ ?_
    · refine (G28 W hS).mono ?_
      rintro e W' ⟨rfl, C⟩
      refine ⟨_, (⟨#[.slice (some ⟨g, o, none⟩) 128 c, undef, .pointer (some ⟨w.heap.size, 0, none⟩), .int .i64 0, .int .i64 0, undef, undef, undef, .slice (some ⟨g, o, none⟩) 128 c, .int .i64 0, .int .i64 0, .bool false, undef, undef, .slice (some ⟨g, o, none⟩) 128 c, .int .u64 (fx 8), .slice (some ⟨g, o, none⟩) 128 c, .int .u64 (fx 16), .slice (some ⟨g, o, none⟩) 128 c, .int .u64 (fx 24), .int .i64 (fx 24), .slice (some ⟨g, o, none⟩) 128 c, .int .u64 (fx 28), undef, .slice (some ⟨g, o, none⟩) 128 c, undef, undef, .slice (some ⟨g, o, none⟩) 128 c, undef, undef, .slice (some ⟨g, o, none⟩) 128 c, .pointer (some ⟨g, o + 40, none⟩), .int .u8 (fl : Int), .bool es, .slice (some ⟨g, o, none⟩) 128 c, undef, undef, undef, undef, undef, undef, undef, undef, undef, undef, undef, undef, undef, undef, undef, undef, undef, undef, undef], []⟩ : Act), rfl, hS.trans C.out, by kernel_rfl, ?_⟩
      refine wpH_take (i := 9) (d := 23) (op := .convert 22 3 (.tmp 22)) (v := .int .i64 (fx 28)) (a' := (⟨#[.slice (some ⟨g, o, none⟩) 128 c, undef, .pointer (some ⟨w.heap.size, 0, none⟩), .int .i64 0, .int .i64 0, undef, undef, undef, .slice (some ⟨g, o, none⟩) 128 c, .int .i64 0, .int .i64 0, .bool false, undef, undef, .slice (some ⟨g, o, none⟩) 128 c, .int .u64 (fx 8), .slice (some ⟨g, o, none⟩) 128 c, .int .u64 (fx 16), .slice (some ⟨g, o, none⟩) 128 c, .int .u64 (fx 24), .int .i64 (fx 24), .slice (some ⟨g, o, none⟩) 128 c, .int .u64 (fx 28), .int .i64 (fx 28), .slice (some ⟨g, o, none⟩) 128 c, undef, undef, .slice (some ⟨g, o, none⟩) 128 c, undef, undef, .slice (some ⟨g, o, none⟩) 128 c, .pointer (some ⟨g, o + 40, none⟩), .int .u8 (fl : Int), .bool es, .slice (some ⟨g, o, none⟩) 128 c, undef, undef, undef, undef, undef, undef, undef, undef, undef, undef, undef, undef, undef, undef, undef, undef, undef, undef, undef], []⟩ : Act)) (by unfold OpIs; kernel_rfl) NS (by kernel_rfl) (by kernel_rfl) (runH_convert (u := .int .u64 (fx 28)) (by kernel_rfl) (ci64 28 l28)) (hS.trans C.out) (l' := bitsOf 26 2041855) (by kernel_rfl) (by kernel_rfl) ?_
      exact N4 W' (hS.trans C.out)
    · skip
      refine readyH_alloc (i := 24) (d := 5) (t := 81) (zs := [.int .u64 0, .int .u64 0, .int .i64 0, .int .i64 0, .int .i64 0, .int .i64 0, .bool false, .int .u32 0]) (by unfold OpIs; kernel_rfl) (al W) (l' := bitsOf 26 18818303) (by kernel_rfl) (a' := (⟨#[.slice (some ⟨g, o, none⟩) 128 c, undef, .pointer (some ⟨w.heap.size, 0, none⟩), .int .i64 0, .int .i64 0, .pointer (some ⟨W.heap.size, 0, none⟩), undef, undef, .slice (some ⟨g, o, none⟩) 128 c, .int .i64 0, .int .i64 0, .bool false, undef, undef, .slice (some ⟨g, o, none⟩) 128 c, .int .u64 (fx 8), .slice (some ⟨g, o, none⟩) 128 c, .int .u64 (fx 16), .slice (some ⟨g, o, none⟩) 128 c, .int .u64 (fx 24), .int .i64 (fx 24), .slice (some ⟨g, o, none⟩) 128 c, undef, undef, .slice (some ⟨g, o, none⟩) 128 c, undef, undef, .slice (some ⟨g, o, none⟩) 128 c, undef, undef, .slice (some ⟨g, o, none⟩) 128 c, .pointer (some ⟨g, o + 40, none⟩), .int .u8 (fl : Int), .bool es, .slice (some ⟨g, o, none⟩) 128 c, undef, undef, undef, undef, undef, undef, undef, undef, undef, undef, undef, undef, undef, undef, undef, undef, undef, undef, undef], []⟩ : Act)) (by kernel_rfl) (hS.alloc _) (T3 _ _ (hS.alloc _) (Blk.made W [.int .u64 0, .int .u64 0, .int .i64 0, .int .i64 0, .int .i64 0, .int .i64 0, .bool false, .int .u32 0] 81) hS.size) AllReadyH.nil
  have N2 : ∀ (W : World), Chg [] w2.drew W → wpAnyH Tryz.prog .any (opsOf Tryz.f80) (cutQ R) (fun W => Chg [] w2.drew W) 13 (bitsOf 26 2040991) (⟨#[.slice (some ⟨g, o, none⟩) 128 c, undef, .pointer (some ⟨w.heap.size, 0, none⟩), .int .i64 0, .int .i64 0, undef, undef, undef, .slice (some ⟨g, o, none⟩) 128 c, .int .i64 0, .int .i64 0, .bool false, undef, undef, .slice (some ⟨g, o, none⟩) 128 c, .int .u64 (fx 8), .slice (some ⟨g, o, none⟩) 128 c, .int .u64 (fx 16), .slice (some ⟨g, o, none⟩) 128 c, undef, undef, .slice (some ⟨g, o, none⟩) 128 c, undef, undef, .slice (some ⟨g, o, none⟩) 128 c, undef, undef, .slice (some ⟨g, o, none⟩) 128 c, undef, undef, .slice (some ⟨g, o, none⟩) 128 c, .pointer (some ⟨g, o + 40, none⟩), .int .u8 (fl : Int), .bool es, .slice (some ⟨g, o, none⟩) 128 c, undef, undef, undef, undef, undef, undef, undef, undef, undef, undef, undef, undef, undef, undef, undef, undef, undef, undef, undef], []⟩ : Act) W := by
    intro W hS
    refine wpAnyH_ready (rs := [5, 24]) (by kernel_rfl) (by simp) ?_
    refine readyH_call (i := 5) (d := 19) (f := 101) (args := #[.tmp 18, .const (.int .i64 24), .const (.int .i64 4)]) (ats := #[55, 3, 3]) (vs := #[.slice (some ⟨g, o, none⟩) 128 c, .int .i64 24, .int .i64 4]) (by unfold OpIs; kernel_rfl) enters_get (by kernel_rfl) (l' := bitsOf 26 2041023) (by kernel_rfl) ?_ ?_
    · refine (G24 W hS).mono ?_
      rintro e W' ⟨rfl, C⟩
      refine ⟨_, (⟨#[.slice (some ⟨g, o, none⟩) 128 c, undef, .pointer (some ⟨w.heap.size, 0, none⟩), .int .i64 0, .int .i64 0, undef, undef, undef, .slice (some ⟨g, o, none⟩) 128 c, .int .i64 0, .int .i64 0, .bool false, undef, undef, .slice (some ⟨g, o, none⟩) 128 c, .int .u64 (fx 8), .slice (some ⟨g, o, none⟩) 128 c, .int .u64 (fx 16), .slice (some ⟨g, o, none⟩) 128 c, .int .u64 (fx 24), undef, .slice (some ⟨g, o, none⟩) 128 c, undef, undef, .slice (some ⟨g, o, none⟩) 128 c, undef, undef, .slice (some ⟨g, o, none⟩) 128 c, undef, undef, .slice (some ⟨g, o, none⟩) 128 c, .pointer (some ⟨g, o + 40, none⟩), .int .u8 (fl : Int), .bool es, .slice (some ⟨g, o, none⟩) 128 c, undef, undef, undef, undef, undef, undef, undef, undef, undef, undef, undef, undef, undef, undef, undef, undef, undef, undef, undef], []⟩ : Act), rfl, hS.trans C.out, by kernel_rfl, ?_⟩
      refine wpH_take (i := 6) (d := 20) (op := .convert 22 3 (.tmp 19)) (v := .int .i64 (fx 24)) (a' := (⟨#[.slice (some ⟨g, o, none⟩) 128 c, undef, .pointer (some ⟨w.heap.size, 0, none⟩), .int .i64 0, .int .i64 0, undef, undef, undef, .slice (some ⟨g, o, none⟩) 128 c, .int .i64 0, .int .i64 0, .bool false, undef, undef, .slice (some ⟨g, o, none⟩) 128 c, .int .u64 (fx 8), .slice (some ⟨g, o, none⟩) 128 c, .int .u64 (fx 16), .slice (some ⟨g, o, none⟩) 128 c, .int .u64 (fx 24), .int .i64 (fx 24), .slice (some ⟨g, o, none⟩) 128 c, undef, undef, .slice (some ⟨g, o, none⟩) 128 c, undef, undef, .slice (some ⟨g, o, none⟩) 128 c, undef, undef, .slice (some ⟨g, o, none⟩) 128 c, .pointer (some ⟨g, o + 40, none⟩), .int .u8 (fl : Int), .bool es, .slice (some ⟨g, o, none⟩) 128 c, undef, undef, undef, undef, undef, undef, undef, undef, undef, undef, undef, undef, undef, undef, undef, undef, undef, undef, undef], []⟩ : Act)) (by unfold OpIs; kernel_rfl) NS (by kernel_rfl) (by kernel_rfl) (runH_convert (u := .int .u64 (fx 24)) (by kernel_rfl) (ci64 24 l24)) (hS.trans C.out) (l' := bitsOf 26 2041087) (by kernel_rfl) (by kernel_rfl) ?_
      exact N3 W' (hS.trans C.out)
    · skip
      refine readyH_alloc (i := 24) (d := 5) (t := 81) (zs := [.int .u64 0, .int .u64 0, .int .i64 0, .int .i64 0, .int .i64 0, .int .i64 0, .bool false, .int .u32 0]) (by unfold OpIs; kernel_rfl) (al W) (l' := bitsOf 26 18818207) (by kernel_rfl) (a' := (⟨#[.slice (some ⟨g, o, none⟩) 128 c, undef, .pointer (some ⟨w.heap.size, 0, none⟩), .int .i64 0, .int .i64 0, .pointer (some ⟨W.heap.size, 0, none⟩), undef, undef, .slice (some ⟨g, o, none⟩) 128 c, .int .i64 0, .int .i64 0, .bool false, undef, undef, .slice (some ⟨g, o, none⟩) 128 c, .int .u64 (fx 8), .slice (some ⟨g, o, none⟩) 128 c, .int .u64 (fx 16), .slice (some ⟨g, o, none⟩) 128 c, undef, undef, .slice (some ⟨g, o, none⟩) 128 c, undef, undef, .slice (some ⟨g, o, none⟩) 128 c, undef, undef, .slice (some ⟨g, o, none⟩) 128 c, undef, undef, .slice (some ⟨g, o, none⟩) 128 c, .pointer (some ⟨g, o + 40, none⟩), .int .u8 (fl : Int), .bool es, .slice (some ⟨g, o, none⟩) 128 c, undef, undef, undef, undef, undef, undef, undef, undef, undef, undef, undef, undef, undef, undef, undef, undef, undef, undef, undef], []⟩ : Act)) (by kernel_rfl) (hS.alloc _) (T2 _ _ (hS.alloc _) (Blk.made W [.int .u64 0, .int .u64 0, .int .i64 0, .int .i64 0, .int .i64 0, .int .i64 0, .bool false, .int .u32 0] 81) hS.size) AllReadyH.nil
  have N1 : ∀ (W : World), Chg [] w2.drew W → wpAnyH Tryz.prog .any (opsOf Tryz.f80) (cutQ R) (fun W => Chg [] w2.drew W) 14 (bitsOf 26 2040983) (⟨#[.slice (some ⟨g, o, none⟩) 128 c, undef, .pointer (some ⟨w.heap.size, 0, none⟩), .int .i64 0, .int .i64 0, undef, undef, undef, .slice (some ⟨g, o, none⟩) 128 c, .int .i64 0, .int .i64 0, .bool false, undef, undef, .slice (some ⟨g, o, none⟩) 128 c, .int .u64 (fx 8), .slice (some ⟨g, o, none⟩) 128 c, undef, .slice (some ⟨g, o, none⟩) 128 c, undef, undef, .slice (some ⟨g, o, none⟩) 128 c, undef, undef, .slice (some ⟨g, o, none⟩) 128 c, undef, undef, .slice (some ⟨g, o, none⟩) 128 c, undef, undef, .slice (some ⟨g, o, none⟩) 128 c, .pointer (some ⟨g, o + 40, none⟩), .int .u8 (fl : Int), .bool es, .slice (some ⟨g, o, none⟩) 128 c, undef, undef, undef, undef, undef, undef, undef, undef, undef, undef, undef, undef, undef, undef, undef, undef, undef, undef, undef], []⟩ : Act) W := by
    intro W hS
    refine wpAnyH_ready (rs := [3, 24]) (by kernel_rfl) (by simp) ?_
    refine readyH_call (i := 3) (d := 17) (f := 101) (args := #[.tmp 16, .const (.int .i64 16), .const (.int .i64 8)]) (ats := #[55, 3, 3]) (vs := #[.slice (some ⟨g, o, none⟩) 128 c, .int .i64 16, .int .i64 8]) (by unfold OpIs; kernel_rfl) enters_get (by kernel_rfl) (l' := bitsOf 26 2040991) (by kernel_rfl) ?_ ?_
    · refine (G16 W hS).mono ?_
      rintro e W' ⟨rfl, C⟩
      refine ⟨_, (⟨#[.slice (some ⟨g, o, none⟩) 128 c, undef, .pointer (some ⟨w.heap.size, 0, none⟩), .int .i64 0, .int .i64 0, undef, undef, undef, .slice (some ⟨g, o, none⟩) 128 c, .int .i64 0, .int .i64 0, .bool false, undef, undef, .slice (some ⟨g, o, none⟩) 128 c, .int .u64 (fx 8), .slice (some ⟨g, o, none⟩) 128 c, .int .u64 (fx 16), .slice (some ⟨g, o, none⟩) 128 c, undef, undef, .slice (some ⟨g, o, none⟩) 128 c, undef, undef, .slice (some ⟨g, o, none⟩) 128 c, undef, undef, .slice (some ⟨g, o, none⟩) 128 c, undef, undef, .slice (some ⟨g, o, none⟩) 128 c, .pointer (some ⟨g, o + 40, none⟩), .int .u8 (fl : Int), .bool es, .slice (some ⟨g, o, none⟩) 128 c, undef, undef, undef, undef, undef, undef, undef, undef, undef, undef, undef, undef, undef, undef, undef, undef, undef, undef, undef], []⟩ : Act), rfl, hS.trans C.out, by kernel_rfl, ?_⟩
      exact N2 W' (hS.trans C.out)
    · skip
      refine readyH_alloc (i := 24) (d := 5) (t := 81) (zs := [.int .u64 0, .int .u64 0, .int .i64 0, .int .i64 0, .int .i64 0, .int .i64 0, .bool false, .int .u32 0]) (by unfold OpIs; kernel_rfl) (al W) (l' := bitsOf 26 18818199) (by kernel_rfl) (a' := (⟨#[.slice (some ⟨g, o, none⟩) 128 c, undef, .pointer (some ⟨w.heap.size, 0, none⟩), .int .i64 0, .int .i64 0, .pointer (some ⟨W.heap.size, 0, none⟩), undef, undef, .slice (some ⟨g, o, none⟩) 128 c, .int .i64 0, .int .i64 0, .bool false, undef, undef, .slice (some ⟨g, o, none⟩) 128 c, .int .u64 (fx 8), .slice (some ⟨g, o, none⟩) 128 c, undef, .slice (some ⟨g, o, none⟩) 128 c, undef, undef, .slice (some ⟨g, o, none⟩) 128 c, undef, undef, .slice (some ⟨g, o, none⟩) 128 c, undef, undef, .slice (some ⟨g, o, none⟩) 128 c, undef, undef, .slice (some ⟨g, o, none⟩) 128 c, .pointer (some ⟨g, o + 40, none⟩), .int .u8 (fl : Int), .bool es, .slice (some ⟨g, o, none⟩) 128 c, undef, undef, undef, undef, undef, undef, undef, undef, undef, undef, undef, undef, undef, undef, undef, undef, undef, undef, undef], []⟩ : Act)) (by kernel_rfl) (hS.alloc _) (T1 _ _ (hS.alloc _) (Blk.made W [.int .u64 0, .int .u64 0, .int .i64 0, .int .i64 0, .int .i64 0, .int .i64 0, .bool false, .int .u32 0] 81) hS.size) AllReadyH.nil
  have N0 : ∀ (W : World), Chg [] w2.drew W → wpAnyH Tryz.prog .any (opsOf Tryz.f80) (cutQ R) (fun W => Chg [] w2.drew W) 15 (bitsOf 26 2040981) (⟨#[.slice (some ⟨g, o, none⟩) 128 c, undef, .pointer (some ⟨w.heap.size, 0, none⟩), .int .i64 0, .int .i64 0, undef, undef, undef, .slice (some ⟨g, o, none⟩) 128 c, .int .i64 0, .int .i64 0, .bool false, undef, undef, .slice (some ⟨g, o, none⟩) 128 c, undef, .slice (some ⟨g, o, none⟩) 128 c, undef, .slice (some ⟨g, o, none⟩) 128 c, undef, undef, .slice (some ⟨g, o, none⟩) 128 c, undef, undef, .slice (some ⟨g, o, none⟩) 128 c, undef, undef, .slice (some ⟨g, o, none⟩) 128 c, undef, undef, .slice (some ⟨g, o, none⟩) 128 c, .pointer (some ⟨g, o + 40, none⟩), .int .u8 (fl : Int), .bool es, .slice (some ⟨g, o, none⟩) 128 c, undef, undef, undef, undef, undef, undef, undef, undef, undef, undef, undef, undef, undef, undef, undef, undef, undef, undef, undef], []⟩ : Act) W := by
    intro W hS
    refine wpAnyH_ready (rs := [1, 24]) (by kernel_rfl) (by simp) ?_
    refine readyH_call (i := 1) (d := 15) (f := 101) (args := #[.tmp 14, .const (.int .i64 8), .const (.int .i64 8)]) (ats := #[55, 3, 3]) (vs := #[.slice (some ⟨g, o, none⟩) 128 c, .int .i64 8, .int .i64 8]) (by unfold OpIs; kernel_rfl) enters_get (by kernel_rfl) (l' := bitsOf 26 2040983) (by kernel_rfl) ?_ ?_
    · refine (G8 W hS).mono ?_
      rintro e W' ⟨rfl, C⟩
      refine ⟨_, (⟨#[.slice (some ⟨g, o, none⟩) 128 c, undef, .pointer (some ⟨w.heap.size, 0, none⟩), .int .i64 0, .int .i64 0, undef, undef, undef, .slice (some ⟨g, o, none⟩) 128 c, .int .i64 0, .int .i64 0, .bool false, undef, undef, .slice (some ⟨g, o, none⟩) 128 c, .int .u64 (fx 8), .slice (some ⟨g, o, none⟩) 128 c, undef, .slice (some ⟨g, o, none⟩) 128 c, undef, undef, .slice (some ⟨g, o, none⟩) 128 c, undef, undef, .slice (some ⟨g, o, none⟩) 128 c, undef, undef, .slice (some ⟨g, o, none⟩) 128 c, undef, undef, .slice (some ⟨g, o, none⟩) 128 c, .pointer (some ⟨g, o + 40, none⟩), .int .u8 (fl : Int), .bool es, .slice (some ⟨g, o, none⟩) 128 c, undef, undef, undef, undef, undef, undef, undef, undef, undef, undef, undef, undef, undef, undef, undef, undef, undef, undef, undef], []⟩ : Act), rfl, hS.trans C.out, by kernel_rfl, ?_⟩
      exact N1 W' (hS.trans C.out)
    · skip
      refine readyH_alloc (i := 24) (d := 5) (t := 81) (zs := [.int .u64 0, .int .u64 0, .int .i64 0, .int .i64 0, .int .i64 0, .int .i64 0, .bool false, .int .u32 0]) (by unfold OpIs; kernel_rfl) (al W) (l' := bitsOf 26 18818197) (by kernel_rfl) (a' := (⟨#[.slice (some ⟨g, o, none⟩) 128 c, undef, .pointer (some ⟨w.heap.size, 0, none⟩), .int .i64 0, .int .i64 0, .pointer (some ⟨W.heap.size, 0, none⟩), undef, undef, .slice (some ⟨g, o, none⟩) 128 c, .int .i64 0, .int .i64 0, .bool false, undef, undef, .slice (some ⟨g, o, none⟩) 128 c, undef, .slice (some ⟨g, o, none⟩) 128 c, undef, .slice (some ⟨g, o, none⟩) 128 c, undef, undef, .slice (some ⟨g, o, none⟩) 128 c, undef, undef, .slice (some ⟨g, o, none⟩) 128 c, undef, undef, .slice (some ⟨g, o, none⟩) 128 c, undef, undef, .slice (some ⟨g, o, none⟩) 128 c, .pointer (some ⟨g, o + 40, none⟩), .int .u8 (fl : Int), .bool es, .slice (some ⟨g, o, none⟩) 128 c, undef, undef, undef, undef, undef, undef, undef, undef, undef, undef, undef, undef, undef, undef, undef, undef, undef, undef, undef], []⟩ : Act)) (by kernel_rfl) (hS.alloc _) (T0 _ _ (hS.alloc _) (Blk.made W [.int .u64 0, .int .u64 0, .int .i64 0, .int .i64 0, .int .i64 0, .int .i64 0, .bool false, .int .u32 0] 81) hS.size) AllReadyH.nil
  refine wpH_take (i := 0) (d := 14) (op := .move (.tmp 0)) (v := .slice (some ⟨g, o, none⟩) 128 c) (a' := (⟨#[.slice (some ⟨g, o, none⟩) 128 c, undef, .pointer (some ⟨w.heap.size, 0, none⟩), .int .i64 0, .int .i64 0, undef, undef, undef, .slice (some ⟨g, o, none⟩) 128 c, .int .i64 0, .int .i64 0, .bool false, undef, undef, .slice (some ⟨g, o, none⟩) 128 c, undef, undef, undef, undef, undef, undef, undef, undef, undef, undef, undef, undef, undef, undef, undef, undef, undef, undef, undef, undef, undef, undef, undef, undef, undef, undef, undef, undef, undef, undef, undef, undef, undef, undef, undef, undef, undef, undef, undef], []⟩ : Act)) (by unfold OpIs; kernel_rfl) NS (by kernel_rfl) (by kernel_rfl) (runH_move (by kernel_rfl)) (Chg.refl _ _) (l' := bitsOf 26 1) (by kernel_rfl) (by kernel_rfl) ?_
  refine wpH_take (i := 2) (d := 16) (op := .move (.tmp 0)) (v := .slice (some ⟨g, o, none⟩) 128 c) (a' := (⟨#[.slice (some ⟨g, o, none⟩) 128 c, undef, .pointer (some ⟨w.heap.size, 0, none⟩), .int .i64 0, .int .i64 0, undef, undef, undef, .slice (some ⟨g, o, none⟩) 128 c, .int .i64 0, .int .i64 0, .bool false, undef, undef, .slice (some ⟨g, o, none⟩) 128 c, undef, .slice (some ⟨g, o, none⟩) 128 c, undef, undef, undef, undef, undef, undef, undef, undef, undef, undef, undef, undef, undef, undef, undef, undef, undef, undef, undef, undef, undef, undef, undef, undef, undef, undef, undef, undef, undef, undef, undef, undef, undef, undef, undef, undef, undef], []⟩ : Act)) (by unfold OpIs; kernel_rfl) NS (by kernel_rfl) (by kernel_rfl) (runH_move (by kernel_rfl)) (Chg.refl _ _) (l' := bitsOf 26 5) (by kernel_rfl) (by kernel_rfl) ?_
  refine wpH_take (i := 4) (d := 18) (op := .move (.tmp 0)) (v := .slice (some ⟨g, o, none⟩) 128 c) (a' := (⟨#[.slice (some ⟨g, o, none⟩) 128 c, undef, .pointer (some ⟨w.heap.size, 0, none⟩), .int .i64 0, .int .i64 0, undef, undef, undef, .slice (some ⟨g, o, none⟩) 128 c, .int .i64 0, .int .i64 0, .bool false, undef, undef, .slice (some ⟨g, o, none⟩) 128 c, undef, .slice (some ⟨g, o, none⟩) 128 c, undef, .slice (some ⟨g, o, none⟩) 128 c, undef, undef, undef, undef, undef, undef, undef, undef, undef, undef, undef, undef, undef, undef, undef, undef, undef, undef, undef, undef, undef, undef, undef, undef, undef, undef, undef, undef, undef, undef, undef, undef, undef, undef, undef], []⟩ : Act)) (by unfold OpIs; kernel_rfl) NS (by kernel_rfl) (by kernel_rfl) (runH_move (by kernel_rfl)) (Chg.refl _ _) (l' := bitsOf 26 21) (by kernel_rfl) (by kernel_rfl) ?_
  refine wpH_take (i := 7) (d := 21) (op := .move (.tmp 0)) (v := .slice (some ⟨g, o, none⟩) 128 c) (a' := (⟨#[.slice (some ⟨g, o, none⟩) 128 c, undef, .pointer (some ⟨w.heap.size, 0, none⟩), .int .i64 0, .int .i64 0, undef, undef, undef, .slice (some ⟨g, o, none⟩) 128 c, .int .i64 0, .int .i64 0, .bool false, undef, undef, .slice (some ⟨g, o, none⟩) 128 c, undef, .slice (some ⟨g, o, none⟩) 128 c, undef, .slice (some ⟨g, o, none⟩) 128 c, undef, undef, .slice (some ⟨g, o, none⟩) 128 c, undef, undef, undef, undef, undef, undef, undef, undef, undef, undef, undef, undef, undef, undef, undef, undef, undef, undef, undef, undef, undef, undef, undef, undef, undef, undef, undef, undef, undef, undef, undef, undef], []⟩ : Act)) (by unfold OpIs; kernel_rfl) NS (by kernel_rfl) (by kernel_rfl) (runH_move (by kernel_rfl)) (Chg.refl _ _) (l' := bitsOf 26 149) (by kernel_rfl) (by kernel_rfl) ?_
  refine wpH_take (i := 10) (d := 24) (op := .move (.tmp 0)) (v := .slice (some ⟨g, o, none⟩) 128 c) (a' := (⟨#[.slice (some ⟨g, o, none⟩) 128 c, undef, .pointer (some ⟨w.heap.size, 0, none⟩), .int .i64 0, .int .i64 0, undef, undef, undef, .slice (some ⟨g, o, none⟩) 128 c, .int .i64 0, .int .i64 0, .bool false, undef, undef, .slice (some ⟨g, o, none⟩) 128 c, undef, .slice (some ⟨g, o, none⟩) 128 c, undef, .slice (some ⟨g, o, none⟩) 128 c, undef, undef, .slice (some ⟨g, o, none⟩) 128 c, undef, undef, .slice (some ⟨g, o, none⟩) 128 c, undef, undef, undef, undef, undef, undef, undef, undef, undef, undef, undef, undef, undef, undef, undef, undef, undef, undef, undef, undef, undef, undef, undef, undef, undef, undef, undef, undef, undef], []⟩ : Act)) (by unfold OpIs; kernel_rfl) NS (by kernel_rfl) (by kernel_rfl) (runH_move (by kernel_rfl)) (Chg.refl _ _) (l' := bitsOf 26 1173) (by kernel_rfl) (by kernel_rfl) ?_
  refine wpH_take (i := 13) (d := 27) (op := .move (.tmp 0)) (v := .slice (some ⟨g, o, none⟩) 128 c) (a' := (⟨#[.slice (some ⟨g, o, none⟩) 128 c, undef, .pointer (some ⟨w.heap.size, 0, none⟩), .int .i64 0, .int .i64 0, undef, undef, undef, .slice (some ⟨g, o, none⟩) 128 c, .int .i64 0, .int .i64 0, .bool false, undef, undef, .slice (some ⟨g, o, none⟩) 128 c, undef, .slice (some ⟨g, o, none⟩) 128 c, undef, .slice (some ⟨g, o, none⟩) 128 c, undef, undef, .slice (some ⟨g, o, none⟩) 128 c, undef, undef, .slice (some ⟨g, o, none⟩) 128 c, undef, undef, .slice (some ⟨g, o, none⟩) 128 c, undef, undef, undef, undef, undef, undef, undef, undef, undef, undef, undef, undef, undef, undef, undef, undef, undef, undef, undef, undef, undef, undef, undef, undef, undef, undef], []⟩ : Act)) (by unfold OpIs; kernel_rfl) NS (by kernel_rfl) (by kernel_rfl) (runH_move (by kernel_rfl)) (Chg.refl _ _) (l' := bitsOf 26 9365) (by kernel_rfl) (by kernel_rfl) ?_
  refine wpH_take (i := 16) (d := 30) (op := .move (.tmp 0)) (v := .slice (some ⟨g, o, none⟩) 128 c) (a' := (⟨#[.slice (some ⟨g, o, none⟩) 128 c, undef, .pointer (some ⟨w.heap.size, 0, none⟩), .int .i64 0, .int .i64 0, undef, undef, undef, .slice (some ⟨g, o, none⟩) 128 c, .int .i64 0, .int .i64 0, .bool false, undef, undef, .slice (some ⟨g, o, none⟩) 128 c, undef, .slice (some ⟨g, o, none⟩) 128 c, undef, .slice (some ⟨g, o, none⟩) 128 c, undef, undef, .slice (some ⟨g, o, none⟩) 128 c, undef, undef, .slice (some ⟨g, o, none⟩) 128 c, undef, undef, .slice (some ⟨g, o, none⟩) 128 c, undef, undef, .slice (some ⟨g, o, none⟩) 128 c, undef, undef, undef, undef, undef, undef, undef, undef, undef, undef, undef, undef, undef, undef, undef, undef, undef, undef, undef, undef, undef, undef, undef], []⟩ : Act)) (by unfold OpIs; kernel_rfl) NS (by kernel_rfl) (by kernel_rfl) (runH_move (by kernel_rfl)) (Chg.refl _ _) (l' := bitsOf 26 74901) (by kernel_rfl) (by kernel_rfl) ?_
  refine wpH_take (i := 17) (d := 31) (op := .indexAddr 55 (.tmp 30) (.const (.int .i64 40))) (v := .pointer (some ⟨g, o + 40, none⟩)) (a' := (⟨#[.slice (some ⟨g, o, none⟩) 128 c, undef, .pointer (some ⟨w.heap.size, 0, none⟩), .int .i64 0, .int .i64 0, undef, undef, undef, .slice (some ⟨g, o, none⟩) 128 c, .int .i64 0, .int .i64 0, .bool false, undef, undef, .slice (some ⟨g, o, none⟩) 128 c, undef, .slice (some ⟨g, o, none⟩) 128 c, undef, .slice (some ⟨g, o, none⟩) 128 c, undef, undef, .slice (some ⟨g, o, none⟩) 128 c, undef, undef, .slice (some ⟨g, o, none⟩) 128 c, undef, undef, .slice (some ⟨g, o, none⟩) 128 c, undef, undef, .slice (some ⟨g, o, none⟩) 128 c, .pointer (some ⟨g, o + 40, none⟩), undef, undef, undef, undef, undef, undef, undef, undef, undef, undef, undef, undef, undef, undef, undef, undef, undef, undef, undef, undef, undef, undef], []⟩ : Act)) (by unfold OpIs; kernel_rfl) NS (by kernel_rfl) (by kernel_rfl) (runH_index (u := .slice (some ⟨g, o, none⟩) 128 c) (i := .int .i64 40) (by kernel_rfl) (by kernel_rfl) ix) (Chg.refl _ _) (l' := bitsOf 26 205973) (by kernel_rfl) (by kernel_rfl) ?_
  refine wpH_take (i := 18) (d := 32) (op := .load 5 (.tmp 31)) (v := .int .u8 (fl : Int)) (a' := (⟨#[.slice (some ⟨g, o, none⟩) 128 c, undef, .pointer (some ⟨w.heap.size, 0, none⟩), .int .i64 0, .int .i64 0, undef, undef, undef, .slice (some ⟨g, o, none⟩) 128 c, .int .i64 0, .int .i64 0, .bool false, undef, undef, .slice (some ⟨g, o, none⟩) 128 c, undef, .slice (some ⟨g, o, none⟩) 128 c, undef, .slice (some ⟨g, o, none⟩) 128 c, undef, undef, .slice (some ⟨g, o, none⟩) 128 c, undef, undef, .slice (some ⟨g, o, none⟩) 128 c, undef, undef, .slice (some ⟨g, o, none⟩) 128 c, undef, undef, .slice (some ⟨g, o, none⟩) 128 c, .pointer (some ⟨g, o + 40, none⟩), .int .u8 (fl : Int), undef, undef, undef, undef, undef, undef, undef, undef, undef, undef, undef, undef, undef, undef, undef, undef, undef, undef, undef, undef, undef], []⟩ : Act)) (by unfold OpIs; kernel_rfl) NS (by kernel_rfl) (by kernel_rfl) (runH_load (u := .pointer (some ⟨g, o + 40, none⟩)) (by kernel_rfl) ld) (Chg.refl _ _) (l' := bitsOf 26 468117) (by kernel_rfl) (by kernel_rfl) ?_
  refine wpH_take (i := 19) (d := 33) (op := .binOp .eql 5 (.tmp 32) (.const (.int .u8 1)) 5) (v := .bool es) (a' := (⟨#[.slice (some ⟨g, o, none⟩) 128 c, undef, .pointer (some ⟨w.heap.size, 0, none⟩), .int .i64 0, .int .i64 0, undef, undef, undef, .slice (some ⟨g, o, none⟩) 128 c, .int .i64 0, .int .i64 0, .bool false, undef, undef, .slice (some ⟨g, o, none⟩) 128 c, undef, .slice (some ⟨g, o, none⟩) 128 c, undef, .slice (some ⟨g, o, none⟩) 128 c, undef, undef, .slice (some ⟨g, o, none⟩) 128 c, undef, undef, .slice (some ⟨g, o, none⟩) 128 c, undef, undef, .slice (some ⟨g, o, none⟩) 128 c, undef, undef, .slice (some ⟨g, o, none⟩) 128 c, .pointer (some ⟨g, o + 40, none⟩), .int .u8 (fl : Int), .bool es, undef, undef, undef, undef, undef, undef, undef, undef, undef, undef, undef, undef, undef, undef, undef, undef, undef, undef, undef, undef], []⟩ : Act)) (by unfold OpIs; kernel_rfl) NS (by kernel_rfl) (by kernel_rfl) (runH_bin (u := .int .u8 (fl : Int)) (u2 := .int .u8 1) (by kernel_rfl) (by kernel_rfl) bn) (Chg.refl _ _) (l' := bitsOf 26 992405) (by kernel_rfl) (by kernel_rfl) ?_
  refine wpH_take (i := 20) (d := 34) (op := .move (.tmp 0)) (v := .slice (some ⟨g, o, none⟩) 128 c) (a' := (⟨#[.slice (some ⟨g, o, none⟩) 128 c, undef, .pointer (some ⟨w.heap.size, 0, none⟩), .int .i64 0, .int .i64 0, undef, undef, undef, .slice (some ⟨g, o, none⟩) 128 c, .int .i64 0, .int .i64 0, .bool false, undef, undef, .slice (some ⟨g, o, none⟩) 128 c, undef, .slice (some ⟨g, o, none⟩) 128 c, undef, .slice (some ⟨g, o, none⟩) 128 c, undef, undef, .slice (some ⟨g, o, none⟩) 128 c, undef, undef, .slice (some ⟨g, o, none⟩) 128 c, undef, undef, .slice (some ⟨g, o, none⟩) 128 c, undef, undef, .slice (some ⟨g, o, none⟩) 128 c, .pointer (some ⟨g, o + 40, none⟩), .int .u8 (fl : Int), .bool es, .slice (some ⟨g, o, none⟩) 128 c, undef, undef, undef, undef, undef, undef, undef, undef, undef, undef, undef, undef, undef, undef, undef, undef, undef, undef, undef], []⟩ : Act)) (by unfold OpIs; kernel_rfl) NS (by kernel_rfl) (by kernel_rfl) (runH_move (by kernel_rfl)) (Chg.refl _ _) (l' := bitsOf 26 2040981) (by kernel_rfl) (by kernel_rfl) ?_
  exact N0 _ (Chg.refl _ _)

set_option maxHeartbeats 16000000 in
set_option maxRecDepth 100000 in
theorem rdecHd_any (v : Value) (b : List Nat) (w : World) (h : Sl w v (ints b)) (hbs : Bs b) (hbig : b.length ≤ 1000000) (hcap : ∀ ao n c, v = .slice ao n c → n ≤ c) : Calls Tryz.prog 80 #[v] w fun e w' => e = .returned (.tuple #[(Hd.dval b).val, .int .i64 (Hd.derr b)]) ∧ Hid (Chg [] w w') := by
  have LO := Lib.hid (fun W (C : Chg [] w W) => rlooks_any v b 1 W (by decide) (h.chg C (by simp)) hbs hcap)
  have H2 : Hid (Hd.derr b ≠ 0 → (Hd.dval b).val = .agg #[.int .u64 0, .int .u64 0, .int .i64 0, .int .i64 0, .int .i64 0, .int .i64 0, .bool false, .int .u32 0]) := fun h0 => by unfold Hd.dval; rw [if_neg h0]; rfl
  have B1 : Hid (Blk (w.alloc (.cells #[.int .u64 0, .int .u64 0, .int .i64 0, .int .i64 0, .int .i64 0, .int .i64 0, .bool false, .int .u32 0] 81)) w.heap.size 81 [.int .u64 0, .int .u64 0, .int .i64 0, .int .i64 0, .int .i64 0, .int .i64 0, .bool false, .int .u32 0]) := Blk.made w _ _
  have C1 : Hid (Chg [] w (w.alloc (.cells #[.int .u64 0, .int .u64 0, .int .i64 0, .int .i64 0, .int .i64 0, .int .i64 0, .bool false, .int .u32 0] 81))) := (Chg.refl [] w).alloc _
  have s1 : (w.alloc (.cells #[.int .u64 0, .int .u64 0, .int .i64 0, .int .i64 0, .int .i64 0, .int .i64 0, .bool false, .int .u32 0] 81)).heap.size = w.heap.size + 1 := by simp
  by_cases hlk : lookOf 1 b = 0
  case neg =>
    have de : Hd.derr b = lookOf 1 b := by unfold Hd.derr; rw [if_pos (show lookOf 1 b ≠ 0 from hlk)]
    have H3 := H2.out (by rw [de]; exact hlk)
    rw [H3, de]
    have LI := lookOf_in 1 b
    have hne : (lookOf 1 b != 0) = true := by simpa using hlk
    generalize lookOf 1 b = er at *
    clear h hcap hbs hbig H2 H3 de hlk LI
    go_enter Tryz.func80, Tryz.ntmps80
    go_wp2_with fail
    refine (LO.out _ C1.out).mono ?_
    rintro e w2 ⟨rfl, C⟩
    have C2 := Lib.hid (C1.out.trans C.out)
    have B2 := Lib.hid (B1.out.chg C.out (by simp))
    clear C C1 B1 LO s1
    have f0 := B2.out.free 0
    have c0 := B2.out.cell (j := 0) rfl
    have f1 := B2.out.free 1
    have c1 := B2.out.cell (j := 1) rfl
    have f2 := B2.out.free 2
    have c2 := B2.out.cell (j := 2) rfl
    have f3 := B2.out.free 3
    have c3 := B2.out.cell (j := 3) rfl
    have f4 := B2.out.free 4
    have c4 := B2.out.cell (j := 4) rfl
    have f5 := B2.out.free 5
    have c5 := B2.out.cell (j := 5) rfl
    have f6 := B2.out.free 6
    have c6 := B2.out.cell (j := 6) rfl
    have f7 := B2.out.free 7
    have c7 := B2.out.cell (j := 7) rfl
    go_wp2_with fail
    refine bodyPost_ret (rc_cell_and_tmp rfl _ _ w.heap.size _ _ _ _ rfl (((((((((B2.out).set 0 (.int .u64 0)).set 1 (.int .u64 0)).set 2 (.int .i64 0)).set 3 (.int .i64 0)).set 4 (.int .i64 0)).set 5 (.int .i64 0)).set 6 (.bool false)).set 7 (.int .u32 0)) Tryz.underlying81 size_Hd) rfl ?_
    exact ⟨rfl, ((((((((C2.out).setCell (p := ⟨w.heap.size, 0, none⟩) (.inr (Nat.le_refl _)) (.int .u64 0)).setCell (p := ⟨w.heap.size, 1, none⟩) (.inr (Nat.le_refl _)) (.int .u64 0)).setCell (p := ⟨w.heap.size, 2, none⟩) (.inr (Nat.le_refl _)) (.int .i64 0)).setCell (p := ⟨w.heap.size, 3, none⟩) (.inr (Nat.le_refl _)) (.int .i64 0)).setCell (p := ⟨w.heap.size, 4, none⟩) (.inr (Nat.le_refl _)) (.int .i64 0)).setCell (p := ⟨w.heap.size, 5, none⟩) (.inr (Nat.le_refl _)) (.int .i64 0)).setCell (p := ⟨w.heap.size, 6, none⟩) (.inr (Nat.le_refl _)) (.bool false)).setCell (p := ⟨w.heap.size, 7, none⟩) (.inr (Nat.le_refl _)) (.int .u32 0)⟩
  obtain ⟨hl, hkd, hsum⟩ := lookOf_zero hlk
  have DE : Hid (Hd.derr b = if (Hd.of b).Ok ∧ (Hd.of b).rec'.sector = b then 0 else 80) := by show _ = _; unfold Hd.derr; rw [if_neg (show ¬ lookOf 1 b ≠ 0 from fun k => k hlk)]
  rw [hlk] at LO
  clear hlk hkd hsum
  obtain ⟨fx, hfx⟩ : ∃ fx : Int → Int, fx = fun p => ((rd b p.toNat (if p < 24 then 8 else 4) : Nat) : Int) := ⟨_, rfl⟩
  have e8 : fx 8 = ((rd b 8 8 : Nat) : Int) := by rw [hfx]; rfl
  have l8 : 0 ≤ fx 8 ∧ fx 8 < 18446744073709551616 := by rw [e8]; have := rd_lt hbs 8 8; omega
  have G8 : Hid (∀ W, Chg [] w W → Calls Tryz.prog 101 #[v, .int .i64 8, .int .i64 8] W fun e w' => e = .returned (.int .u64 (fx 8)) ∧ Hid (Chg [] W w')) := fun W C => by
    have k := rget_any v (ints b) 8 8 W (h.chg C (by simp)) (ints_by hbs) (by decide) (by rw [ints_length]; omega) (by rw [ints_length]; omega)
    rw [nats_ints, ← e8] at k
    exact k
  have e16 : fx 16 = ((rd b 16 8 : Nat) : Int) := by rw [hfx]; rfl
  have l16 : 0 ≤ fx 16 ∧ fx 16 < 18446744073709551616 := by rw [e16]; have := rd_lt hbs 16 8; omega
  have G16 : Hid (∀ W, Chg [] w W → Calls Tryz.prog 101 #[v, .int .i64 16, .int .i64 8] W fun e w' => e = .returned (.int .u64 (fx 16)) ∧ Hid (Chg [] W w')) := fun W C => by
    have k := rget_any v (ints b) 16 8 W (h.chg C (by simp)) (ints_by hbs) (by decide) (by rw [ints_length]; omega) (by rw [ints_length]; omega)
    rw [nats_ints, ← e16] at k
    exact k
  have e24 : fx 24 = ((rd b 24 4 : Nat) : Int) := by rw [hfx]; rfl
  have l24 : 0 ≤ fx 24 ∧ fx 24 < 4294967296 := by rw [e24]; have := rd_lt hbs 24 4; omega
  have G24 : Hid (∀ W, Chg [] w W → Calls Tryz.prog 101 #[v, .int .i64 24, .int .i64 4] W fun e w' => e = .returned (.int .u64 (fx 24)) ∧ Hid (Chg [] W w')) := fun W C => by
    have k := rget_any v (ints b) 24 4 W (h.chg C (by simp)) (ints_by hbs) (by decide) (by rw [ints_length]; omega) (by rw [ints_length]; omega)
    rw [nats_ints, ← e24] at k
    exact k
  have e28 : fx 28 = ((rd b 28 4 : Nat) : Int) := by rw [hfx]; rfl
  have l28 : 0 ≤ fx 28 ∧ fx 28 < 4294967296 := by rw [e28]; have := rd_lt hbs 28 4; omega
  have G28 : Hid (∀ W, Chg [] w W → Calls Tryz.prog 101 #[v, .int .i64 28, .int .i64 4] W fun e w' => e = .returned (.int .u64 (fx 28)) ∧ Hid (Chg [] W w')) := fun W C => by
    have k := rget_any v (ints b) 28 4 W (h.chg C (by simp)) (ints_by hbs) (by decide) (by rw [ints_length]; omega) (by rw [ints_length]; omega)
    rw [nats_ints, ← e28] at k
    exact k
  have e32 : fx 32 = ((rd b 32 4 : Nat) : Int) := by rw [hfx]; rfl
  have l32 : 0 ≤ fx 32 ∧ fx 32 < 4294967296 := by rw [e32]; have := rd_lt hbs 32 4; omega
  have G32 : Hid (∀ W, Chg [] w W → Calls Tryz.prog 101 #[v, .int .i64 32, .int .i64 4] W fun e w' => e = .returned (.int .u64 (fx 32)) ∧ Hid (Chg [] W w')) := fun W C => by
    have k := rget_any v (ints b) 32 4 W (h.chg C (by simp)) (ints_by hbs) (by decide) (by rw [ints_length]; omega) (by rw [ints_length]; omega)
    rw [nats_ints, ← e32] at k
    exact k
  have e36 : fx 36 = ((rd b 36 4 : Nat) : Int) := by rw [hfx]; rfl
  have l36 : 0 ≤ fx 36 ∧ fx 36 < 4294967296 := by rw [e36]; have := rd_lt hbs 36 4; omega
  have G36 : Hid (∀ W, Chg [] w W → Calls Tryz.prog 101 #[v, .int .i64 36, .int .i64 4] W fun e w' => e = .returned (.int .u64 (fx 36)) ∧ Hid (Chg [] W w')) := fun W C => by
    have k := rget_any v (ints b) 36 4 W (h.chg C (by simp)) (ints_by hbs) (by decide) (by rw [ints_length]; omega) (by rw [ints_length]; omega)
    rw [nats_ints, ← e36] at k
    exact k
  have e44 : fx 44 = ((rd b 44 4 : Nat) : Int) := by rw [hfx]; rfl
  have l44 : 0 ≤ fx 44 ∧ fx 44 < 4294967296 := by rw [e44]; have := rd_lt hbs 44 4; omega
  have G44 : Hid (∀ W, Chg [] w W → Calls Tryz.prog 101 #[v, .int .i64 44, .int .i64 4] W fun e w' => e = .returned (.int .u64 (fx 44)) ∧ Hid (Chg [] W w')) := fun W C => by
    have k := rget_any v (ints b) 44 4 W (h.chg C (by simp)) (ints_by hbs) (by decide) (by rw [ints_length]; omega) (by rw [ints_length]; omega)
    rw [nats_ints, ← e44] at k
    exact k
  have SC : Hid (∀ W, Chg [] w W → ∀ g o c, v = .slice (some ⟨g, o, none⟩) 128 c → (convert 55 9 (.slice (some ⟨g, o, none⟩) 128 c)).run Tryz.prog W = .ok (.string (strOfNums (ints b))) W) := fun W C g o c hv => by
    have h1 := h.chg C (by simp)
    rw [hv] at h1
    have h2 := str_conv W g o c b (by rw [hl]; exact h1) (by omega)
    rw [hl] at h2
    exact h2
  obtain ⟨fl, hfl⟩ : ∃ fl, fl = b.getD 40 0 := ⟨_, rfl⟩
  have C40 : Hid (∀ W, Chg [] w W → ∀ g o c, v = .slice (some ⟨g, o, none⟩) 128 c → W.cell? ⟨g, o + 40, none⟩ = some (.int .u8 (fl : Int))) := fun W C g o c hv => by
    have h1 := h.chg C (by simp)
    rcases h1 with ⟨h0, _⟩ | ⟨g', o', c', hv', lb, hc⟩
    · have := congrArg List.length h0; rw [ints_length, hl] at this; cases this
    · obtain ⟨⟨rfl, rfl⟩, _, rfl⟩ : (g = g' ∧ o = o') ∧ _ ∧ c = c' := by rw [hv] at hv'; simpa using hv'
      rw [hc 40 (by rw [ints_length]; omega), ints_get, hfl]
  obtain ⟨es, hes⟩ : ∃ es, es = decide (fl = 1) := ⟨_, rfl⟩
  have hes2 : ((fl : Int) == 1) = es := by rw [hes, Bool.eq_iff_iff]; simp; omega
  have SB : Bs (Hd.of b).rec'.sector := Rec.sector_bs _
  have SLn : (Hd.of b).rec'.sector.length = 128 := Rec.sector_length (show 6 ≤ 25 by decide)
  obtain ⟨x, hx⟩ : ∃ x, x = Hd.of b := ⟨_, rfl⟩
  have H1 : Hid (Hd.derr b = 0 → (Hd.dval b).val = x.val) := fun h0 => by unfold Hd.dval; rw [if_pos h0, hx]
  have hxs : x.sm < 4294967296 := by rw [hx]; exact rd_lt hbs 44 4
  have XV : x.val = .agg #[.int .u64 (fx 8), .int .u64 (fx 16), .int .i64 (fx 24), .int .i64 (fx 28), .int .i64 (fx 32), .int .i64 (fx 36), .bool es, .int .u32 (fx 44)] := by rw [hx, e8, e16, e24, e28, e32, e36, e44, hes, hfl]; rfl
  rw [← hx] at DE SB SLn
  have EN := Lib.hid (fun W => rEncodeHeader_any x W hxs)
  rw [XV] at EN H1
  have INJ : Hid (((strOfNums (ints x.rec'.sector)).toList = (strOfNums (ints b)).toList) ↔ x.rec'.sector = b) := ⟨fun k => strOfNums_inj SB hbs k, fun k => by rw [k]⟩
  obtain ⟨g, o, c, rfl⟩ : ∃ g o c, v = .slice (some ⟨g, o, none⟩) 128 c := by
    rcases h with ⟨h0, _⟩ | ⟨g, o, c, rfl, lb, hc⟩
    · have := congrArg List.length h0; rw [ints_length, hl] at this; cases this
    · exact ⟨g, o, c, by rw [ints_length, hl]⟩
  have hcp : (128 : Int) ≤ c := by have := hcap _ _ _ rfl; omega
  replace C40 : Hid (∀ W, Chg [] w W → W.cell? ⟨g, o + 40, none⟩ = some (.int .u8 (fl : Int))) := fun W C => C40.out W C _ _ _ rfl
  replace SC : Hid (∀ W, Chg [] w W → (convert 55 9 (.slice (some ⟨g, o, none⟩) 128 c)).run Tryz.prog W = .ok (.string (strOfNums (ints b))) W) := fun W C => SC.out W C _ _ _ rfl
  have HR := Lib.hid (fun w2 (C : Chg [] w w2) id ops hops => hd_region w w2 g o c fl fx es hcp hes2 l8 l16 l24 l28 l32 l36 l44 (fun W d => C40.out W (C.drew.trans d)) (fun W d => G8.out W (C.drew.trans d)) (fun W d => G16.out W (C.drew.trans d)) (fun W d => G24.out W (C.drew.trans d)) (fun W d => G28.out W (C.drew.trans d)) (fun W d => G32.out W (C.drew.trans d)) (fun W d => G36.out W (C.drew.trans d)) (fun W d => G44.out W (C.drew.trans d)) (id := id) (ops := ops) hops)
  replace hbs := Lib.hid hbs
  replace SB := Lib.hid SB
  replace SLn := Lib.hid SLn
  replace hl := Lib.hid hl
  clear h hcap hx XV hfx e8 e16 e24 e28 e32 e36 e44 hxs hes hes2 hfl hbig l8 l16 l24 l28 l32 l36 l44 C40 G8 G16 G24 G28 G32 G36 G44
  generalize Hd.derr b = er at *
  generalize (Hd.dval b).val = rv at *
  unfold RcEncs Hd.err Hd.enc at EN
  replace DE : Hid (er = if x.Ok ∧ x.rec'.sector = b then 0 else 80) := DE
  go_enter Tryz.func80, Tryz.ntmps80
  go_wp2_with fail
  refine (LO.out _ C1.out).mono ?_
  rintro e w2 ⟨rfl, C⟩
  have C2 := Lib.hid (C1.out.trans C.out)
  have B2 := Lib.hid (B1.out.chg C.out (by simp))
  have hz := C.out.size
  rw [s1] at hz
  clear C C1 B1 LO s1
  go_wp2_with fail
  refine region_cutQ (hdLeft w w2.drew g o c fl fx es) (HR.out w2 C2.out _ _ (by kernel_rfl)) ?_
  rintro a' W ⟨xb, rfl, D, XB, hxb⟩
  have hzx : w.heap.size < xb := by
    have h1 : w2.drew.heap.size = w2.heap.size := rfl
    omega
  have CW := Lib.hid (C2.out.drew.trans D.out)
  have BW := Lib.hid (B2.out.drew.chg D.out (by simp))
  clear HR C2 B2 D hxb
  have x0 := XB.out.cell (j := 0) rfl
  have x1 := XB.out.cell (j := 1) rfl
  have x2 := XB.out.cell (j := 2) rfl
  have x3 := XB.out.cell (j := 3) rfl
  have x4 := XB.out.cell (j := 4) rfl
  have x5 := XB.out.cell (j := 5) rfl
  have x6 := XB.out.cell (j := 6) rfl
  have x7 := XB.out.cell (j := 7) rfl
  by_cases hok : x.Ok
  case neg =>
    have her : Hid (er = 80) := by show _ = _; rw [DE.out, if_neg (fun k => hok k.1)]
    have hrv : Hid (rv = .agg #[.int .u64 0, .int .u64 0, .int .i64 0, .int .i64 0, .int .i64 0, .int .i64 0, .bool false, .int .u32 0]) := H2.out (by rw [her.out]; decide)
    rw [if_neg hok, if_neg hok] at EN
    clear hok H1 H2 INJ SLn DE
    go_wp2_with fail
    refine (EN.out _).mono ?_
    rintro e w9 ⟨u, rfl, O, C⟩
    have C9 := Lib.hid (CW.out.trans C.out)
    have B9 := Lib.hid (BW.out.chg C.out (by simp))
    have X9 := Lib.hid (XB.out.chg C.out (by simp))
    clear x0 x1 x2 x3 x4 x5 x6 x7
    have f0 := B9.out.free 0
    have c0 := B9.out.cell (j := 0) rfl
    have f1 := B9.out.free 1
    have c1 := B9.out.cell (j := 1) rfl
    have f2 := B9.out.free 2
    have c2 := B9.out.cell (j := 2) rfl
    have f3 := B9.out.free 3
    have c3 := B9.out.cell (j := 3) rfl
    have f4 := B9.out.free 4
    have c4 := B9.out.cell (j := 4) rfl
    have f5 := B9.out.free 5
    have c5 := B9.out.cell (j := 5) rfl
    have f6 := B9.out.free 6
    have c6 := B9.out.cell (j := 6) rfl
    have f7 := B9.out.free 7
    have c7 := B9.out.cell (j := 7) rfl
    clear C O EN SC
    have hzn : ¬ xb = w.heap.size := by omega
    have hzn2 : ¬ w.heap.size = xb := by omega
    go_wp2_with fail
    refine bodyPost_ret (rc_cell_and_tmp rfl _ _ w.heap.size _ _ _ _ rfl (((((((((B9.out).set 0 (.int .u64 0)).set 1 (.int .u64 0)).set 2 (.int .i64 0)).set 3 (.int .i64 0)).set 4 (.int .i64 0)).set 5 (.int .i64 0)).set 6 (.bool false)).set 7 (.int .u32 0)) Tryz.underlying81 size_Hd) rfl ?_
    exact ⟨by rw [hrv.out, her.out]; rfl, ((((((((C9.out).setCell (p := ⟨w.heap.size, 0, none⟩) (.inr (Nat.le_refl _)) (.int .u64 0)).setCell (p := ⟨w.heap.size, 1, none⟩) (.inr (Nat.le_refl _)) (.int .u64 0)).setCell (p := ⟨w.heap.size, 2, none⟩) (.inr (Nat.le_refl _)) (.int .i64 0)).setCell (p := ⟨w.heap.size, 3, none⟩) (.inr (Nat.le_refl _)) (.int .i64 0)).setCell (p := ⟨w.heap.size, 4, none⟩) (.inr (Nat.le_refl _)) (.int .i64 0)).setCell (p := ⟨w.heap.size, 5, none⟩) (.inr (Nat.le_refl _)) (.int .i64 0)).setCell (p := ⟨w.heap.size, 6, none⟩) (.inr (Nat.le_refl _)) (.bool false)).setCell (p := ⟨w.heap.size, 7, none⟩) (.inr (Nat.le_refl _)) (.int .u32 0)⟩
  rw [if_pos hok, if_pos hok, SLn.out] at EN
  by_cases hs : x.rec'.sector = b
  case neg =>
    have her : Hid (er = 80) := by show _ = _; rw [DE.out, if_neg (fun k => hs k.2)]
    have hrv : Hid (rv = .agg #[.int .u64 0, .int .u64 0, .int .i64 0, .int .i64 0, .int .i64 0, .int .i64 0, .bool false, .int .u32 0]) := H2.out (by rw [her.out]; decide)
    have hcm : ((strOfNums (ints x.rec'.sector)).toList == (strOfNums (ints b)).toList) = false := beq_eq_false_iff_ne.2 (fun k => hs (INJ.out.1 k))
    clear hok hs H1 H2 INJ DE
    generalize hSE : x.rec'.sector = SE at *
    clear hSE
    generalize hST : strOfNums (ints b) = ST at *
    clear hST
    obtain ⟨SS, hSS⟩ : ∃ SS, SS = strOfNums (ints SE) := ⟨_, rfl⟩
    rw [← hSS] at hcm
    replace hSS := Lib.hid hSS
    go_wp2_with fail
    refine (EN.out _).mono ?_
    rintro e w9 ⟨u, rfl, O, C⟩
    have C9 := Lib.hid (CW.out.trans C.out)
    have B9 := Lib.hid (BW.out.chg C.out (by simp))
    have X9 := Lib.hid (XB.out.chg C.out (by simp))
    clear x0 x1 x2 x3 x4 x5 x6 x7
    obtain ⟨uo, uc, rfl⟩ := owns_slice O.out
    have q2 := SC.out w9 C9.out
    have q1 : ∃ g2 o2, uo = some ⟨g2, o2, none⟩ ∧ (convert 55 9 (.slice (some ⟨g2, o2, none⟩) 128 uc)).run Tryz.prog w9 = .ok (.string SS) w9 := by
      have h1 : Sl w9 (.slice uo 128 uc) (ints SE) := Sl.owned O.out
      rcases h1 with ⟨h0, _⟩ | ⟨g2, o2, c2, hv, lb, hc⟩
      · have := congrArg List.length h0; rw [ints_length, SLn.out] at this; cases this
      · obtain ⟨rfl, _, rfl⟩ : uo = some ⟨g2, o2, none⟩ ∧ _ ∧ uc = c2 := by simpa using hv
        refine ⟨g2, o2, rfl, ?_⟩
        have h2 := str_conv w9 g2 o2 uc SE (by rw [SLn.out]; exact .inr ⟨g2, o2, uc, by rw [ints_length, SLn.out], lb, hc⟩) (by rw [SLn.out]; decide)
        rw [SLn.out, ← hSS.out] at h2
        exact h2
    obtain ⟨g2, o2, rfl, q1⟩ := q1
    have f0 := B9.out.free 0
    have c0 := B9.out.cell (j := 0) rfl
    have f1 := B9.out.free 1
    have c1 := B9.out.cell (j := 1) rfl
    have f2 := B9.out.free 2
    have c2 := B9.out.cell (j := 2) rfl
    have f3 := B9.out.free 3
    have c3 := B9.out.cell (j := 3) rfl
    have f4 := B9.out.free 4
    have c4 := B9.out.cell (j := 4) rfl
    have f5 := B9.out.free 5
    have c5 := B9.out.cell (j := 5) rfl
    have f6 := B9.out.free 6
    have c6 := B9.out.cell (j := 6) rfl
    have f7 := B9.out.free 7
    have c7 := B9.out.cell (j := 7) rfl
    clear C O EN SC
    have hzn : ¬ xb = w.heap.size := by omega
    have hzn2 : ¬ w.heap.size = xb := by omega
    go_wp2_with fail
    refine bodyPost_ret (rc_cell_and_tmp rfl _ _ w.heap.size _ _ _ _ rfl (((((((((B9.out).set 0 (.int .u64 0)).set 1 (.int .u64 0)).set 2 (.int .i64 0)).set 3 (.int .i64 0)).set 4 (.int .i64 0)).set 5 (.int .i64 0)).set 6 (.bool false)).set 7 (.int .u32 0)) Tryz.underlying81 size_Hd) rfl ?_
    exact ⟨by rw [hrv.out, her.out]; rfl, ((((((((C9.out).setCell (p := ⟨w.heap.size, 0, none⟩) (.inr (Nat.le_refl _)) (.int .u64 0)).setCell (p := ⟨w.heap.size, 1, none⟩) (.inr (Nat.le_refl _)) (.int .u64 0)).setCell (p := ⟨w.heap.size, 2, none⟩) (.inr (Nat.le_refl _)) (.int .i64 0)).setCell (p := ⟨w.heap.size, 3, none⟩) (.inr (Nat.le_refl _)) (.int .i64 0)).setCell (p := ⟨w.heap.size, 4, none⟩) (.inr (Nat.le_refl _)) (.int .i64 0)).setCell (p := ⟨w.heap.size, 5, none⟩) (.inr (Nat.le_refl _)) (.int .i64 0)).setCell (p := ⟨w.heap.size, 6, none⟩) (.inr (Nat.le_refl _)) (.bool false)).setCell (p := ⟨w.heap.size, 7, none⟩) (.inr (Nat.le_refl _)) (.int .u32 0)⟩
  have her : Hid (er = 0) := by show _ = _; rw [DE.out, if_pos ⟨hok, hs⟩]
  have hrv : Hid (rv = .agg #[.int .u64 (fx 8), .int .u64 (fx 16), .int .i64 (fx 24), .int .i64 (fx 28), .int .i64 (fx 32), .int .i64 (fx 36), .bool es, .int .u32 (fx 44)]) := H1.out her.out
  have hcm : ((strOfNums (ints x.rec'.sector)).toList == (strOfNums (ints b)).toList) = true := beq_iff_eq.2 (INJ.out.2 hs)
  clear hok hs H1 H2 INJ DE
  generalize hSE : x.rec'.sector = SE at *
  clear hSE
  generalize hST : strOfNums (ints b) = ST at *
  clear hST
  obtain ⟨SS, hSS⟩ : ∃ SS, SS = strOfNums (ints SE) := ⟨_, rfl⟩
  rw [← hSS] at hcm
  replace hSS := Lib.hid hSS
  go_wp2_with fail
  refine (EN.out _).mono ?_
  rintro e w9 ⟨u, rfl, O, C⟩
  have C9 := Lib.hid (CW.out.trans C.out)
  have B9 := Lib.hid (BW.out.chg C.out (by simp))
  have X9 := Lib.hid (XB.out.chg C.out (by simp))
  clear x0 x1 x2 x3 x4 x5 x6 x7
  obtain ⟨uo, uc, rfl⟩ := owns_slice O.out
  have q2 := SC.out w9 C9.out
  have q1 : ∃ g2 o2, uo = some ⟨g2, o2, none⟩ ∧ (convert 55 9 (.slice (some ⟨g2, o2, none⟩) 128 uc)).run Tryz.prog w9 = .ok (.string SS) w9 := by
    have h1 : Sl w9 (.slice uo 128 uc) (ints SE) := Sl.owned O.out
    rcases h1 with ⟨h0, _⟩ | ⟨g2, o2, c2, hv, lb, hc⟩
    · have := congrArg List.length h0; rw [ints_length, SLn.out] at this; cases this
    · obtain ⟨rfl, _, rfl⟩ : uo = some ⟨g2, o2, none⟩ ∧ _ ∧ uc = c2 := by simpa using hv
      refine ⟨g2, o2, rfl, ?_⟩
      have h2 := str_conv w9 g2 o2 uc SE (by rw [SLn.out]; exact .inr ⟨g2, o2, uc, by rw [ints_length, SLn.out], lb, hc⟩) (by rw [SLn.out]; decide)
      rw [SLn.out, ← hSS.out] at h2
      exact h2
  obtain ⟨g2, o2, rfl, q1⟩ := q1
  have f0 := B9.out.free 0
  have c0 := B9.out.cell (j := 0) rfl
  have f1 := B9.out.free 1
  have c1 := B9.out.cell (j := 1) rfl
  have f2 := B9.out.free 2
  have c2 := B9.out.cell (j := 2) rfl
  have f3 := B9.out.free 3
  have c3 := B9.out.cell (j := 3) rfl
  have f4 := B9.out.free 4
  have c4 := B9.out.cell (j := 4) rfl
  have f5 := B9.out.free 5
  have c5 := B9.out.cell (j := 5) rfl
  have f6 := B9.out.free 6
  have c6 := B9.out.cell (j := 6) rfl
  have f7 := B9.out.free 7
  have c7 := B9.out.cell (j := 7) rfl
  have k0 := X9.out.cell (j := 0) rfl
  have k1 := X9.out.cell (j := 1) rfl
  have k2 := X9.out.cell (j := 2) rfl
  have k3 := X9.out.cell (j := 3) rfl
  have k4 := X9.out.cell (j := 4) rfl
  have k5 := X9.out.cell (j := 5) rfl
  have k6 := X9.out.cell (j := 6) rfl
  have k7 := X9.out.cell (j := 7) rfl
  clear C O EN SC
  have hzn : ¬ xb = w.heap.size := by omega
  have hzn2 : ¬ w.heap.size = xb := by omega
  go_wp2_with fail
  refine bodyPost_ret (rc_cell_and_tmp rfl _ _ w.heap.size _ _ _ _ rfl (((((((((B9.out).set 0 (.int .u64 (fx 8))).set 1 (.int .u64 (fx 16))).set 2 (.int .i64 (fx 24))).set 3 (.int .i64 (fx 28))).set 4 (.int .i64 (fx 32))).set 5 (.int .i64 (fx 36))).set 6 (.bool es)).set 7 (.int .u32 (fx 44))) Tryz.underlying81 size_Hd) rfl ?_
  exact ⟨by rw [hrv.out, her.out]; rfl, ((((((((C9.out).setCell (p := ⟨w.heap.size, 0, none⟩) (.inr (Nat.le_refl _)) (.int .u64 (fx 8))).setCell (p := ⟨w.heap.size, 1, none⟩) (.inr (Nat.le_refl _)) (.int .u64 (fx 16))).setCell (p := ⟨w.heap.size, 2, none⟩) (.inr (Nat.le_refl _)) (.int .i64 (fx 24))).setCell (p := ⟨w.heap.size, 3, none⟩) (.inr (Nat.le_refl _)) (.int .i64 (fx 28))).setCell (p := ⟨w.heap.size, 4, none⟩) (.inr (Nat.le_refl _)) (.int .i64 (fx 32))).setCell (p := ⟨w.heap.size, 5, none⟩) (.inr (Nat.le_refl _)) (.int .i64 (fx 36))).setCell (p := ⟨w.heap.size, 6, none⟩) (.inr (Nat.le_refl _)) (.bool es)).setCell (p := ⟨w.heap.size, 7, none⟩) (.inr (Nat.le_refl _)) (.int .u32 (fx 44))⟩

end Go.Proofs.YtnkdgmnmmmjgjaaGreat