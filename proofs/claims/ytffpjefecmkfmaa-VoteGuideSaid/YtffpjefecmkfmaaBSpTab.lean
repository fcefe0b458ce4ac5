/-
  The table of fields. By an AI agent. Printed by gen_sptab.py.
-/
import Derived.Test.YtffpjefecmkfmaaBSpCat
import Derived.Test.YtffpjefecmkfmaaBGOrder
namespace Go.Proofs.Ytffpjefecmkfmaa
open Go.RowKit

def fieldsA : List FD := [⟨some (12, .u64), 8⟩, ⟨some (0, .u64), 8⟩, ⟨some (1, .u64), 8⟩, ⟨some (2, .u64), 8⟩, ⟨some (3, .i64), 1⟩, ⟨some (4, .i64), 1⟩, ⟨some (5, .i64), 1⟩, ⟨some (13, .u8), 1⟩, ⟨some (6, .i64), 2⟩, ⟨some (7, .i64), 2⟩, ⟨some (11, .i64), 2⟩, ⟨none, 2⟩]
def fieldsB (o n : Nat) : List FD := (List.range n).map fun i => ⟨some (o + i, .u8), 1⟩
def fieldsC : List FD := [⟨none, 64⟩, ⟨some (30, .u32), 4⟩]
def fieldsAll : List FD := fieldsA ++ fieldsB 14 16 ++ fieldsC

/-- Rows that are such fields. -/
structure Fields (w : World) (B c : Nat) (fs : List (Value × Value)) (ds : List FD) : Prop where
  len : fs.length = ds.length
  each : ∀ (i : Nat) (p : Value × Value) (d : FD), fs[i]? = some p → ds[i]? = some d → FieldOk w B c (.agg #[p.1, p.2]) d

theorem Fields.nil (w : World) (B c : Nat) : Fields w B c [] [] := ⟨rfl, fun i p d h => by simp at h⟩

theorem Fields.past {w w' : World} {B B' c : Nat} {fs : List (Value × Value)} {ds : List FD} {s : List Nat} (h : Fields w B c fs ds) (ch : Chg s w w') (hs : ∀ k ∈ s, k < B) (hB : B' ≤ B) : Fields w' B' c fs ds :=
  ⟨h.len, fun i p d h1 h2 => (h.each i p d h1 h2).past ch hs hB⟩

theorem Fields.join {w : World} {B c : Nat} {fs gs : List (Value × Value)} {ds es : List FD} (h : Fields w B c fs ds) (k : Fields w B c gs es) : Fields w B c (fs ++ gs) (ds ++ es) := by
  refine ⟨by rw [List.length_append, List.length_append, h.len, k.len], fun i p d h1 h2 => ?_⟩
  by_cases hi : i < fs.length
  · rw [List.getElem?_append_left hi] at h1
    rw [List.getElem?_append_left (by rw [← h.len]; exact hi)] at h2
    exact h.each i p d h1 h2
  · rw [List.getElem?_append_right (by omega)] at h1
    rw [List.getElem?_append_right (by rw [← h.len]; omega), ← h.len] at h2
    exact k.each _ p d h1 h2

theorem Fields.snoc {w w' : World} {B B2 c : Nat} {fs : List (Value × Value)} {ds : List FD} {x y : Value} {d : FD} (h : Fields w B c fs ds) (ch : Chg [] w w') (f : FieldOk w' B2 c (.agg #[x, y]) d) (hB : B ≤ B2) : Fields w' B c (fs ++ [(x, y)]) (ds ++ [d]) := by
  refine (h.past ch (by simp) (Nat.le_refl _)).join ⟨rfl, fun i p d' h1 h2 => ?_⟩
  cases i with
  | zero =>
    obtain rfl : (x, y) = p := by simpa using h1
    obtain rfl : d = d' := by simpa using h2
    exact f.past (Chg.refl [] _) (by simp) hB
  | succ i => simp at h1

theorem Fields.ofNumbers {w : World} {B c o n : Nat} {fs : List (Value × Value)} (hl : fs.length = n) (h : ∀ i p, fs[i]? = some p → FieldOk w B c (.agg #[p.1, p.2]) ⟨some (o + i, .u8), 1⟩) : Fields w B c fs (fieldsB o n) := by
  refine ⟨by simp [fieldsB, hl], fun i p d h1 h2 => ?_⟩
  have hi := (List.getElem?_eq_some_iff.1 h1).1
  have e : (fieldsB o n)[i]? = some ⟨some (o + i, .u8), 1⟩ := by simp [fieldsB, show i < n by omega]
  rw [e] at h2
  obtain rfl := Option.some.inj h2
  exact h i p h1

theorem Fields.one {w : World} {B c : Nat} {fs : List (Value × Value)} {ds : List FD} (h : Fields w B c fs ds) : ∀ u ∈ fcells fs, u.oneCell' = true := by
  intro u hu
  obtain ⟨p, hp, hm⟩ := List.mem_flatMap.1 hu
  obtain ⟨i, hi⟩ := List.mem_iff_getElem?.1 hp
  have hl := (List.getElem?_eq_some_iff.1 hi).1
  obtain ⟨x, y, he, h1, h2⟩ := (h.each i p (ds[i]'(by rw [← h.len]; exact hl)) hi (List.getElem?_eq_getElem _)).pair
  obtain ⟨rfl, rfl⟩ : p.1 = x ∧ p.2 = y := by simpa using he
  rcases List.mem_cons.1 hm with rfl | hm
  · exact h1
  · obtain rfl := List.mem_singleton.1 hm
    exact h2

/-- What is told of the table when its lists have been put together. -/
def TabRows (w : World) (c : Nat) (e : Ending) (w' : World) : Prop :=
  ∃ (g cp : Nat) (fs : List (Value × Value)), e = .returned (.slice (some ⟨g, 0, none⟩) 30 cp) ∧ Hid (CellsAt w' g (fcells fs)) ∧ Hid (Fields w' w.heap.size c fs fieldsAll) ∧ Hid (Chg [] w w') ∧ w.heap.size ≤ g ∧ g < w'.heap.size

theorem CellsAt.blk {w : World} {g : Nat} {e : TypeId} {vs : List Value} (h : Blk w g e vs) : CellsAt w g vs := fun _ _ hj => h.cell hj

theorem tab_done {w W : World} {c L gA gN gC p1 p0 p2 : Nat} {fa fn fc : List (Value × Value)} (CW : Chg [] w W) (hL : CellsAt W L [.slice (some ⟨gA, 0, none⟩) 12 p0, .slice (some ⟨gN, 0, none⟩) 16 p1, .slice (some ⟨gC, 0, none⟩) 2 p2])
    (hA : CellsAt W gA (fcells fa)) (hN : CellsAt W gN (fcells fn)) (hC : CellsAt W gC (fcells fc)) (kA : gA < W.heap.size) (kN : gN < W.heap.size) (kC : gC < W.heap.size)
    (FA : Fields W w.heap.size c fa fieldsA) (FN : Fields W w.heap.size c fn (fieldsB 14 16)) (FC : Fields W w.heap.size c fc fieldsC) :
    Calls Try.prog 50 #[.slice (some ⟨L, 0, none⟩) 3 3] W (TabRows w c) := by
  have l0 := FA.len
  have l1 := FN.len
  have l2 := FC.len
  refine (concat_any L gA gN gC 12 16 2 p0 p1 p2 _ _ _ W (by decide) (by decide) (by decide) hL hA hN hC kA kN kC (by rw [fcells_len, l0]; rfl) (by rw [fcells_len, l1]; simp [fieldsB]) (by rw [fcells_len, l2]; rfl) FA.one FN.one FC.one).mono ?_
  rintro e w' ⟨v, rfl, O, C⟩
  obtain ⟨ao, cp, rfl⟩ := owns_slice O.out
  have FF := ((FA.join FN).join FC).past C.out (by simp) (Nat.le_refl _)
  rcases O.out.2 with ⟨h, _⟩ | ⟨g, cp2, cur, h, hb, hg, _⟩
  · cases h
  · obtain ⟨rfl, rfl⟩ : ao = some ⟨g, 0, none⟩ ∧ cp = cp2 := by simpa using h
    refine ⟨g, cp, fa ++ fn ++ fc, rfl, ?_, FF, CW.trans C.out, Nat.le_trans CW.size hb, (Array.getElem?_eq_some_iff.1 hg).1⟩
    rw [fcells_append, fcells_append]
    exact CellsAt.owned O.out

theorem enters_nuu (args : Array Value) (w : World) : (callFunc 51 args).run Try.prog w = .ok (.enter 51 args) w := by
  have h1 : (Try.f51.name == "runtime.NumGoroutine") = false := by kernel_rfl
  have h2 : Try.f51.body.isNone = false := by kernel_rfl
  have h3 : ¬ Try.f51.name = "runtime.NumGoroutine" := by simpa using h1
  have h4 : ¬ Try.f51.body = none := fun e => by rw [e] at h2; cases h2
  simp [callFunc, go_sem, Try.func51, h3, h4]

theorem enters_nib (args : Array Value) (w : World) : (callFunc 54 args).run Try.prog w = .ok (.enter 54 args) w := by
  have h1 : (Try.f54.name == "runtime.NumGoroutine") = false := by kernel_rfl
  have h2 : Try.f54.body.isNone = false := by kernel_rfl
  have h3 : ¬ Try.f54.name = "runtime.NumGoroutine" := by simpa using h1
  have h4 : ¬ Try.f54.body = none := fun e => by rw [e] at h2; cases h2
  simp [callFunc, go_sem, Try.func54, h3, h4]

theorem enters_nbb (args : Array Value) (w : World) : (callFunc 57 args).run Try.prog w = .ok (.enter 57 args) w := by
  have h1 : (Try.f57.name == "runtime.NumGoroutine") = false := by kernel_rfl
  have h2 : Try.f57.body.isNone = false := by kernel_rfl
  have h3 : ¬ Try.f57.name = "runtime.NumGoroutine" := by simpa using h1
  have h4 : ¬ Try.f57.body = none := fun e => by rw [e] at h2; cases h2
  simp [callFunc, go_sem, Try.func57, h3, h4]

theorem enters_nih (args : Array Value) (w : World) : (callFunc 58 args).run Try.prog w = .ok (.enter 58 args) w := by
  have h1 : (Try.f58.name == "runtime.NumGoroutine") = false := by kernel_rfl
  have h2 : Try.f58.body.isNone = false := by kernel_rfl
  have h3 : ¬ Try.f58.name = "runtime.NumGoroutine" := by simpa using h1
  have h4 : ¬ Try.f58.body = none := fun e => by rw [e] at h2; cases h2
  simp [callFunc, go_sem, Try.func58, h3, h4]

theorem enters_nww (args : Array Value) (w : World) : (callFunc 63 args).run Try.prog w = .ok (.enter 63 args) w := by
  have h1 : (Try.f63.name == "runtime.NumGoroutine") = false := by kernel_rfl
  have h2 : Try.f63.body.isNone = false := by kernel_rfl
  have h3 : ¬ Try.f63.name = "runtime.NumGoroutine" := by simpa using h1
  have h4 : ¬ Try.f63.body = none := fun e => by rw [e] at h2; cases h2
  simp [callFunc, go_sem, Try.func63, h3, h4]

theorem enters_nz (args : Array Value) (w : World) : (callFunc 61 args).run Try.prog w = .ok (.enter 61 args) w := by
  have h1 : (Try.f61.name == "runtime.NumGoroutine") = false := by kernel_rfl
  have h2 : Try.f61.body.isNone = false := by kernel_rfl
  have h3 : ¬ Try.f61.name = "runtime.NumGoroutine" := by simpa using h1
  have h4 : ¬ Try.f61.body = none := fun e => by rw [e] at h2; cases h2
  simp [callFunc, go_sem, Try.func61, h3, h4]

theorem enters_ns (args : Array Value) (w : World) : (callFunc 62 args).run Try.prog w = .ok (.enter 62 args) w := by
  have h1 : (Try.f62.name == "runtime.NumGoroutine") = false := by kernel_rfl
  have h2 : Try.f62.body.isNone = false := by kernel_rfl
  have h3 : ¬ Try.f62.name = "runtime.NumGoroutine" := by simpa using h1
  have h4 : ¬ Try.f62.body = none := fun e => by rw [e] at h2; cases h2
  simp [callFunc, go_sem, Try.func62, h3, h4]

theorem enters_cat (args : Array Value) (w : World) : (callFunc 50 args).run Try.prog w = .ok (.enter 50 args) w := by
  have h1 : (Try.f50.name == "runtime.NumGoroutine") = false := by kernel_rfl
  have h2 : Try.f50.body.isNone = false := by kernel_rfl
  have h3 : ¬ Try.f50.name = "runtime.NumGoroutine" := by simpa using h1
  have h4 : ¬ Try.f50.body = none := fun e => by rw [e] at h2; cases h2
  simp [callFunc, go_sem, Try.func50, h3, h4]

set_option maxHeartbeats 8000000 in
set_option maxRecDepth 100000 in
theorem table_any30 (c : Nat) (w : World) (hc : c < w.heap.size) :
    Calls Try.prog 46 #[.pointer (some ⟨c, 0, none⟩)] w (TabRows w c) := by
  have FS := Lib.hid (Fields.nil w w.heap.size c)
  have CC := Lib.hid (Chg.refl [] w)
  have HC := Lib.hid hc
  clear hc
  go_enter Try.func46, Try.ntmps46
  go_wp2_with fail
  rename_i K hK
  have FIN : ∀ (A : Act) (w' : World) (v : Value), A.tmps.getD 2 undef = v → A.defers = [] → TabRows w c (.returned v) w' → K A w' := by
    intro A w' v hA hD hT
    refine hK _ _ ?_
    go_wp2_with fail
    (try simp only [Exit.inBlock, Exit.then])
    refine bodyPost_ret (results_tmp rfl _ _ _) hD ?_
    rw [hA]
    exact hT
  refine wp_region_start (ops' := opsOf Try.f46) (n := 72) (by kernel_rfl) (by kernel_rfl) (by kernel_rfl) ?_
  have NS : Region.noSelect (opsOf Try.f46) = true := by kernel_rfl
  have D : Hid (Chg [] w w.drew) := (Chg.refl [] w).drewN 1
  replace FS := Lib.hid (FS.out.past D.out (by simp) (Nat.le_refl _))
  replace CC := Lib.hid (CC.out.trans D.out)
  clear D
  generalize w.drew = wd at *
  refine wpAny_pure (i := 0) (d := 3) (op := .move (.tmp 0)) (v := .pointer (some ⟨c, 0, none⟩)) (by unfold OpIs; kernel_rfl) NS (by kernel_rfl) (by kernel_rfl) (fun _ _ _ h => h) (fun ρ hρ o ho w => run_move_at ρ (by rw [hρ]; kernel_rfl) o ho w) (l' := bitsOf 72 1) (by kernel_rfl) ?_
  refine wpAny_pure (i := 1) (d := 4) (op := .nilCheck (.tmp 3)) (v := .pointer (some ⟨c, 0, none⟩)) (by unfold OpIs; kernel_rfl) NS (by kernel_rfl) (by kernel_rfl) (fun _ _ _ h => h) (fun ρ hρ o ho w => run_nil_at ρ (by rw [hρ]; kernel_rfl) o ho w) (l' := bitsOf 72 3) (by kernel_rfl) ?_
  refine wpAny_pure (i := 2) (d := 5) (op := .fieldAddr 73 (.tmp 4) 1) (v := .pointer (some ⟨c, 12, none⟩)) (by unfold OpIs; kernel_rfl) NS (by kernel_rfl) (by kernel_rfl) (fun _ _ _ h => h) (fun ρ hρ o ho w => run_field_at (u := .pointer (some ⟨c, 0, none⟩)) ρ (by rw [hρ]; kernel_rfl) (fun _ => by kernel_rfl) o ho w) (l' := bitsOf 72 7) (by kernel_rfl) ?_
  refine wpAny_pure (i := 4) (d := 7) (op := .move (.tmp 0)) (v := .pointer (some ⟨c, 0, none⟩)) (by unfold OpIs; kernel_rfl) NS (by kernel_rfl) (by kernel_rfl) (fun _ _ _ h => h) (fun ρ hρ o ho w => run_move_at ρ (by rw [hρ]; kernel_rfl) o ho w) (l' := bitsOf 72 23) (by kernel_rfl) ?_
  refine wpAny_pure (i := 5) (d := 8) (op := .nilCheck (.tmp 7)) (v := .pointer (some ⟨c, 0, none⟩)) (by unfold OpIs; kernel_rfl) NS (by kernel_rfl) (by kernel_rfl) (fun _ _ _ h => h) (fun ρ hρ o ho w => run_nil_at ρ (by rw [hρ]; kernel_rfl) o ho w) (l' := bitsOf 72 55) (by kernel_rfl) ?_
  refine wpAny_pure (i := 6) (d := 9) (op := .fieldAddr 73 (.tmp 8) 0) (v := .pointer (some ⟨c, 0, none⟩)) (by unfold OpIs; kernel_rfl) NS (by kernel_rfl) (by kernel_rfl) (fun _ _ _ h => h) (fun ρ hρ o ho w => run_field_at (u := .pointer (some ⟨c, 0, none⟩)) ρ (by rw [hρ]; kernel_rfl) (fun _ => by kernel_rfl) o ho w) (l' := bitsOf 72 119) (by kernel_rfl) ?_
  refine wpAny_pure (i := 7) (d := 10) (op := .fieldAddr 29 (.tmp 9) 0) (v := .pointer (some ⟨c, 0, none⟩)) (by unfold OpIs; kernel_rfl) NS (by kernel_rfl) (by kernel_rfl) (fun _ _ _ h => h) (fun ρ hρ o ho w => run_field_at (u := .pointer (some ⟨c, 0, none⟩)) ρ (by rw [hρ]; kernel_rfl) (fun _ => by kernel_rfl) o ho w) (l' := bitsOf 72 247) (by kernel_rfl) ?_
  refine wpAny_pure (i := 9) (d := 12) (op := .move (.tmp 0)) (v := .pointer (some ⟨c, 0, none⟩)) (by unfold OpIs; kernel_rfl) NS (by kernel_rfl) (by kernel_rfl) (fun _ _ _ h => h) (fun ρ hρ o ho w => run_move_at ρ (by rw [hρ]; kernel_rfl) o ho w) (l' := bitsOf 72 759) (by kernel_rfl) ?_
  refine wpAny_pure (i := 10) (d := 13) (op := .nilCheck (.tmp 12)) (v := .pointer (some ⟨c, 0, none⟩)) (by unfold OpIs; kernel_rfl) NS (by kernel_rfl) (by kernel_rfl) (fun _ _ _ h => h) (fun ρ hρ o ho w => run_nil_at ρ (by rw [hρ]; kernel_rfl) o ho w) (l' := bitsOf 72 1783) (by kernel_rfl) ?_
  refine wpAny_pure (i := 11) (d := 14) (op := .fieldAddr 73 (.tmp 13) 0) (v := .pointer (some ⟨c, 0, none⟩)) (by unfold OpIs; kernel_rfl) NS (by kernel_rfl) (by kernel_rfl) (fun _ _ _ h => h) (fun ρ hρ o ho w => run_field_at (u := .pointer (some ⟨c, 0, none⟩)) ρ (by rw [hρ]; kernel_rfl) (fun _ => by kernel_rfl) o ho w) (l' := bitsOf 72 3831) (by kernel_rfl) ?_
  refine wpAny_pure (i := 12) (d := 15) (op := .fieldAddr 29 (.tmp 14) 1) (v := .pointer (some ⟨c, 1, none⟩)) (by unfold OpIs; kernel_rfl) NS (by kernel_rfl) (by kernel_rfl) (fun _ _ _ h => h) (fun ρ hρ o ho w => run_field_at (u := .pointer (some ⟨c, 0, none⟩)) ρ (by rw [hρ]; kernel_rfl) (fun _ => by kernel_rfl) o ho w) (l' := bitsOf 72 7927) (by kernel_rfl) ?_
  refine wpAny_pure (i := 14) (d := 17) (op := .move (.tmp 0)) (v := .pointer (some ⟨c, 0, none⟩)) (by unfold OpIs; kernel_rfl) NS (by kernel_rfl) (by kernel_rfl) (fun _ _ _ h => h) (fun ρ hρ o ho w => run_move_at ρ (by rw [hρ]; kernel_rfl) o ho w) (l' := bitsOf 72 24311) (by kernel_rfl) ?_
  refine wpAny_pure (i := 15) (d := 18) (op := .nilCheck (.tmp 17)) (v := .pointer (some ⟨c, 0, none⟩)) (by unfold OpIs; kernel_rfl) NS (by kernel_rfl) (by kernel_rfl) (fun _ _ _ h => h) (fun ρ hρ o ho w => run_nil_at ρ (by rw [hρ]; kernel_rfl) o ho w) (l' := bitsOf 72 57079) (by kernel_rfl) ?_
  refine wpAny_pure (i := 16) (d := 19) (op := .fieldAddr 73 (.tmp 18) 0) (v := .pointer (some ⟨c, 0, none⟩)) (by unfold OpIs; kernel_rfl) NS (by kernel_rfl) (by kernel_rfl) (fun _ _ _ h => h) (fun ρ hρ o ho w => run_field_at (u := .pointer (some ⟨c, 0, none⟩)) ρ (by rw [hρ]; kernel_rfl) (fun _ => by kernel_rfl) o ho w) (l' := bitsOf 72 122615) (by kernel_rfl) ?_
  refine wpAny_pure (i := 17) (d := 20) (op := .fieldAddr 29 (.tmp 19) 2) (v := .pointer (some ⟨c, 2, none⟩)) (by unfold OpIs; kernel_rfl) NS (by kernel_rfl) (by kernel_rfl) (fun _ _ _ h => h) (fun ρ hρ o ho w => run_field_at (u := .pointer (some ⟨c, 0, none⟩)) ρ (by rw [hρ]; kernel_rfl) (fun _ => by kernel_rfl) o ho w) (l' := bitsOf 72 253687) (by kernel_rfl) ?_
  refine wpAny_pure (i := 19) (d := 22) (op := .move (.tmp 0)) (v := .pointer (some ⟨c, 0, none⟩)) (by unfold OpIs; kernel_rfl) NS (by kernel_rfl) (by kernel_rfl) (fun _ _ _ h => h) (fun ρ hρ o ho w => run_move_at ρ (by rw [hρ]; kernel_rfl) o ho w) (l' := bitsOf 72 777975) (by kernel_rfl) ?_
  refine wpAny_pure (i := 20) (d := 23) (op := .nilCheck (.tmp 22)) (v := .pointer (some ⟨c, 0, none⟩)) (by unfold OpIs; kernel_rfl) NS (by kernel_rfl) (by kernel_rfl) (fun _ _ _ h => h) (fun ρ hρ o ho w => run_nil_at ρ (by rw [hρ]; kernel_rfl) o ho w) (l' := bitsOf 72 1826551) (by kernel_rfl) ?_
  refine wpAny_pure (i := 21) (d := 24) (op := .fieldAddr 73 (.tmp 23) 0) (v := .pointer (some ⟨c, 0, none⟩)) (by unfold OpIs; kernel_rfl) NS (by kernel_rfl) (by kernel_rfl) (fun _ _ _ h => h) (fun ρ hρ o ho w => run_field_at (u := .pointer (some ⟨c, 0, none⟩)) ρ (by rw [hρ]; kernel_rfl) (fun _ => by kernel_rfl) o ho w) (l' := bitsOf 72 3923703) (by kernel_rfl) ?_
  refine wpAny_pure (i := 22) (d := 25) (op := .fieldAddr 29 (.tmp 24) 3) (v := .pointer (some ⟨c, 3, none⟩)) (by unfold OpIs; kernel_rfl) NS (by kernel_rfl) (by kernel_rfl) (fun _ _ _ h => h) (fun ρ hρ o ho w => run_field_at (u := .pointer (some ⟨c, 0, none⟩)) ρ (by rw [hρ]; kernel_rfl) (fun _ => by kernel_rfl) o ho w) (l' := bitsOf 72 8118007) (by kernel_rfl) ?_
  refine wpAny_pure (i := 24) (d := 27) (op := .move (.tmp 0)) (v := .pointer (some ⟨c, 0, none⟩)) (by unfold OpIs; kernel_rfl) NS (by kernel_rfl) (by kernel_rfl) (fun _ _ _ h => h) (fun ρ hρ o ho w => run_move_at ρ (by rw [hρ]; kernel_rfl) o ho w) (l' := bitsOf 72 24895223) (by kernel_rfl) ?_
  refine wpAny_pure (i := 25) (d := 28) (op := .nilCheck (.tmp 27)) (v := .pointer (some ⟨c, 0, none⟩)) (by unfold OpIs; kernel_rfl) NS (by kernel_rfl) (by kernel_rfl) (fun _ _ _ h => h) (fun ρ hρ o ho w => run_nil_at ρ (by rw [hρ]; kernel_rfl) o ho w) (l' := bitsOf 72 58449655) (by kernel_rfl) ?_
  refine wpAny_pure (i := 26) (d := 29) (op := .fieldAddr 73 (.tmp 28) 0) (v := .pointer (some ⟨c, 0, none⟩)) (by unfold OpIs; kernel_rfl) NS (by kernel_rfl) (by kernel_rfl) (fun _ _ _ h => h) (fun ρ hρ o ho w => run_field_at (u := .pointer (some ⟨c, 0, none⟩)) ρ (by rw [hρ]; kernel_rfl) (fun _ => by kernel_rfl) o ho w) (l' := bitsOf 72 125558519) (by kernel_rfl) ?_
  refine wpAny_pure (i := 27) (d := 30) (op := .fieldAddr 29 (.tmp 29) 4) (v := .pointer (some ⟨c, 4, none⟩)) (by unfold OpIs; kernel_rfl) NS (by kernel_rfl) (by kernel_rfl) (fun _ _ _ h => h) (fun ρ hρ o ho w => run_field_at (u := .pointer (some ⟨c, 0, none⟩)) ρ (by rw [hρ]; kernel_rfl) (fun _ => by kernel_rfl) o ho w) (l' := bitsOf 72 259776247) (by kernel_rfl) ?_
  refine wpAny_pure (i := 28) (d := 31) (op := .fieldAddr 26 (.tmp 30) 0) (v := .pointer (some ⟨c, 4, none⟩)) (by unfold OpIs; kernel_rfl) NS (by kernel_rfl) (by kernel_rfl) (fun _ _ _ h => h) (fun ρ hρ o ho w => run_field_at (u := .pointer (some ⟨c, 4, none⟩)) ρ (by rw [hρ]; kernel_rfl) (fun _ => by kernel_rfl) o ho w) (l' := bitsOf 72 528211703) (by kernel_rfl) ?_
  refine wpAny_pure (i := 30) (d := 33) (op := .move (.tmp 0)) (v := .pointer (some ⟨c, 0, none⟩)) (by unfold OpIs; kernel_rfl) NS (by kernel_rfl) (by kernel_rfl) (fun _ _ _ h => h) (fun ρ hρ o ho w => run_move_at ρ (by rw [hρ]; kernel_rfl) o ho w) (l' := bitsOf 72 1601953527) (by kernel_rfl) ?_
  refine wpAny_pure (i := 31) (d := 34) (op := .nilCheck (.tmp 33)) (v := .pointer (some ⟨c, 0, none⟩)) (by unfold OpIs; kernel_rfl) NS (by kernel_rfl) (by kernel_rfl) (fun _ _ _ h => h) (fun ρ hρ o ho w => run_nil_at ρ (by rw [hρ]; kernel_rfl) o ho w) (l' := bitsOf 72 3749437175) (by kernel_rfl) ?_
  refine wpAny_pure (i := 32) (d := 35) (op := .fieldAddr 73 (.tmp 34) 0) (v := .pointer (some ⟨c, 0, none⟩)) (by unfold OpIs; kernel_rfl) NS (by kernel_rfl) (by kernel_rfl) (fun _ _ _ h => h) (fun ρ hρ o ho w => run_field_at (u := .pointer (some ⟨c, 0, none⟩)) ρ (by rw [hρ]; kernel_rfl) (fun _ => by kernel_rfl) o ho w) (l' := bitsOf 72 8044404471) (by kernel_rfl) ?_
  refine wpAny_pure (i := 33) (d := 36) (op := .fieldAddr 29 (.tmp 35) 4) (v := .pointer (some ⟨c, 4, none⟩)) (by unfold OpIs; kernel_rfl) NS (by kernel_rfl) (by kernel_rfl) (fun _ _ _ h => h) (fun ρ hρ o ho w => run_field_at (u := .pointer (some ⟨c, 0, none⟩)) ρ (by rw [hρ]; kernel_rfl) (fun _ => by kernel_rfl) o ho w) (l' := bitsOf 72 16634339063) (by kernel_rfl) ?_
  refine wpAny_pure (i := 34) (d := 37) (op := .fieldAddr 26 (.tmp 36) 1) (v := .pointer (some ⟨c, 5, none⟩)) (by unfold OpIs; kernel_rfl) NS (by kernel_rfl) (by kernel_rfl) (fun _ _ _ h => h) (fun ρ hρ o ho w => run_field_at (u := .pointer (some ⟨c, 4, none⟩)) ρ (by rw [hρ]; kernel_rfl) (fun _ => by kernel_rfl) o ho w) (l' := bitsOf 72 33814208247) (by kernel_rfl) ?_
  refine wpAny_pure (i := 36) (d := 39) (op := .move (.tmp 0)) (v := .pointer (some ⟨c, 0, none⟩)) (by unfold OpIs; kernel_rfl) NS (by kernel_rfl) (by kernel_rfl) (fun _ _ _ h => h) (fun ρ hρ o ho w => run_move_at ρ (by rw [hρ]; kernel_rfl) o ho w) (l' := bitsOf 72 102533684983) (by kernel_rfl) ?_
  refine wpAny_pure (i := 37) (d := 40) (op := .nilCheck (.tmp 39)) (v := .pointer (some ⟨c, 0, none⟩)) (by unfold OpIs; kernel_rfl) NS (by kernel_rfl) (by kernel_rfl) (fun _ _ _ h => h) (fun ρ hρ o ho w => run_nil_at ρ (by rw [hρ]; kernel_rfl) o ho w) (l' := bitsOf 72 239972638455) (by kernel_rfl) ?_
  refine wpAny_pure (i := 38) (d := 41) (op := .fieldAddr 73 (.tmp 40) 2) (v := .pointer (some ⟨c, 13, none⟩)) (by unfold OpIs; kernel_rfl) NS (by kernel_rfl) (by kernel_rfl) (fun _ _ _ h => h) (fun ρ hρ o ho w => run_field_at (u := .pointer (some ⟨c, 0, none⟩)) ρ (by rw [hρ]; kernel_rfl) (fun _ => by kernel_rfl) o ho w) (l' := bitsOf 72 514850545399) (by kernel_rfl) ?_
  refine wpAny_pure (i := 40) (d := 43) (op := .move (.tmp 0)) (v := .pointer (some ⟨c, 0, none⟩)) (by unfold OpIs; kernel_rfl) NS (by kernel_rfl) (by kernel_rfl) (fun _ _ _ h => h) (fun ρ hρ o ho w => run_move_at ρ (by rw [hρ]; kernel_rfl) o ho w) (l' := bitsOf 72 1614362173175) (by kernel_rfl) ?_
  refine wpAny_pure (i := 41) (d := 44) (op := .nilCheck (.tmp 43)) (v := .pointer (some ⟨c, 0, none⟩)) (by unfold OpIs; kernel_rfl) NS (by kernel_rfl) (by kernel_rfl) (fun _ _ _ h => h) (fun ρ hρ o ho w => run_nil_at ρ (by rw [hρ]; kernel_rfl) o ho w) (l' := bitsOf 72 3813385428727) (by kernel_rfl) ?_
  refine wpAny_pure (i := 42) (d := 45) (op := .fieldAddr 73 (.tmp 44) 0) (v := .pointer (some ⟨c, 0, none⟩)) (by unfold OpIs; kernel_rfl) NS (by kernel_rfl) (by kernel_rfl) (fun _ _ _ h => h) (fun ρ hρ o ho w => run_field_at (u := .pointer (some ⟨c, 0, none⟩)) ρ (by rw [hρ]; kernel_rfl) (fun _ => by kernel_rfl) o ho w) (l' := bitsOf 72 8211431939831) (by kernel_rfl) ?_
  refine wpAny_pure (i := 43) (d := 46) (op := .fieldAddr 29 (.tmp 45) 4) (v := .pointer (some ⟨c, 4, none⟩)) (by unfold OpIs; kernel_rfl) NS (by kernel_rfl) (by kernel_rfl) (fun _ _ _ h => h) (fun ρ hρ o ho w => run_field_at (u := .pointer (some ⟨c, 0, none⟩)) ρ (by rw [hρ]; kernel_rfl) (fun _ => by kernel_rfl) o ho w) (l' := bitsOf 72 17007524962039) (by kernel_rfl) ?_
  refine wpAny_pure (i := 44) (d := 47) (op := .fieldAddr 26 (.tmp 46) 2) (v := .pointer (some ⟨c, 6, none⟩)) (by unfold OpIs; kernel_rfl) NS (by kernel_rfl) (by kernel_rfl) (fun _ _ _ h => h) (fun ρ hρ o ho w => run_field_at (u := .pointer (some ⟨c, 4, none⟩)) ρ (by rw [hρ]; kernel_rfl) (fun _ => by kernel_rfl) o ho w) (l' := bitsOf 72 34599711006455) (by kernel_rfl) ?_
  refine wpAny_pure (i := 46) (d := 49) (op := .move (.tmp 0)) (v := .pointer (some ⟨c, 0, none⟩)) (by unfold OpIs; kernel_rfl) NS (by kernel_rfl) (by kernel_rfl) (fun _ _ _ h => h) (fun ρ hρ o ho w => run_move_at ρ (by rw [hρ]; kernel_rfl) o ho w) (l' := bitsOf 72 104968455184119) (by kernel_rfl) ?_
  refine wpAny_pure (i := 47) (d := 50) (op := .nilCheck (.tmp 49)) (v := .pointer (some ⟨c, 0, none⟩)) (by unfold OpIs; kernel_rfl) NS (by kernel_rfl) (by kernel_rfl) (fun _ _ _ h => h) (fun ρ hρ o ho w => run_nil_at ρ (by rw [hρ]; kernel_rfl) o ho w) (l' := bitsOf 72 245705943539447) (by kernel_rfl) ?_
  refine wpAny_pure (i := 48) (d := 51) (op := .fieldAddr 73 (.tmp 50) 0) (v := .pointer (some ⟨c, 0, none⟩)) (by unfold OpIs; kernel_rfl) NS (by kernel_rfl) (by kernel_rfl) (fun _ _ _ h => h) (fun ρ hρ o ho w => run_field_at (u := .pointer (some ⟨c, 0, none⟩)) ρ (by rw [hρ]; kernel_rfl) (fun _ => by kernel_rfl) o ho w) (l' := bitsOf 72 527180920250103) (by kernel_rfl) ?_
  refine wpAny_pure (i := 49) (d := 52) (op := .fieldAddr 29 (.tmp 51) 5) (v := .pointer (some ⟨c, 7, none⟩)) (by unfold OpIs; kernel_rfl) NS (by kernel_rfl) (by kernel_rfl) (fun _ _ _ h => h) (fun ρ hρ o ho w => run_field_at (u := .pointer (some ⟨c, 0, none⟩)) ρ (by rw [hρ]; kernel_rfl) (fun _ => by kernel_rfl) o ho w) (l' := bitsOf 72 1090130873671415) (by kernel_rfl) ?_
  refine wpAny_pure (i := 51) (d := 54) (op := .move (.tmp 0)) (v := .pointer (some ⟨c, 0, none⟩)) (by unfold OpIs; kernel_rfl) NS (by kernel_rfl) (by kernel_rfl) (fun _ _ _ h => h) (fun ρ hρ o ho w => run_move_at ρ (by rw [hρ]; kernel_rfl) o ho w) (l' := bitsOf 72 3341930687356663) (by kernel_rfl) ?_
  refine wpAny_pure (i := 52) (d := 55) (op := .nilCheck (.tmp 54)) (v := .pointer (some ⟨c, 0, none⟩)) (by unfold OpIs; kernel_rfl) NS (by kernel_rfl) (by kernel_rfl) (fun _ _ _ h => h) (fun ρ hρ o ho w => run_nil_at ρ (by rw [hρ]; kernel_rfl) o ho w) (l' := bitsOf 72 7845530314727159) (by kernel_rfl) ?_
  refine wpAny_pure (i := 53) (d := 56) (op := .fieldAddr 73 (.tmp 55) 0) (v := .pointer (some ⟨c, 0, none⟩)) (by unfold OpIs; kernel_rfl) NS (by kernel_rfl) (by kernel_rfl) (fun _ _ _ h => h) (fun ρ hρ o ho w => run_field_at (u := .pointer (some ⟨c, 0, none⟩)) ρ (by rw [hρ]; kernel_rfl) (fun _ => by kernel_rfl) o ho w) (l' := bitsOf 72 16852729569468151) (by kernel_rfl) ?_
  refine wpAny_pure (i := 54) (d := 57) (op := .fieldAddr 29 (.tmp 56) 9) (v := .pointer (some ⟨c, 11, none⟩)) (by unfold OpIs; kernel_rfl) NS (by kernel_rfl) (by kernel_rfl) (fun _ _ _ h => h) (fun ρ hρ o ho w => run_field_at (u := .pointer (some ⟨c, 0, none⟩)) ρ (by rw [hρ]; kernel_rfl) (fun _ => by kernel_rfl) o ho w) (l' := bitsOf 72 34867128078950135) (by kernel_rfl) ?_
  refine wpAny_pure (i := 58) (d := 61) (op := .move (.tmp 0)) (v := .pointer (some ⟨c, 0, none⟩)) (by unfold OpIs; kernel_rfl) NS (by kernel_rfl) (by kernel_rfl) (fun _ _ _ h => h) (fun ρ hρ o ho w => run_move_at ρ (by rw [hρ]; kernel_rfl) o ho w) (l' := bitsOf 72 323097504230661879) (by kernel_rfl) ?_
  refine wpAny_pure (i := 59) (d := 62) (op := .nilCheck (.tmp 61)) (v := .pointer (some ⟨c, 0, none⟩)) (by unfold OpIs; kernel_rfl) NS (by kernel_rfl) (by kernel_rfl) (fun _ _ _ h => h) (fun ρ hρ o ho w => run_nil_at ρ (by rw [hρ]; kernel_rfl) o ho w) (l' := bitsOf 72 899558256534085367) (by kernel_rfl) ?_
  refine wpAny_pure (i := 60) (d := 63) (op := .fieldAddr 73 (.tmp 62) 3) (v := .pointer (some ⟨c, 14, none⟩)) (by unfold OpIs; kernel_rfl) NS (by kernel_rfl) (by kernel_rfl) (fun _ _ _ h => h) (fun ρ hρ o ho w => run_field_at (u := .pointer (some ⟨c, 0, none⟩)) ρ (by rw [hρ]; kernel_rfl) (fun _ => by kernel_rfl) o ho w) (l' := bitsOf 72 2052479761140932343) (by kernel_rfl) ?_
  refine wpAny_pure (i := 61) (d := 64) (op := .slice 70 (.tmp 63) none none none) (v := .slice (some ⟨c, 14, none⟩) 16 16) (by unfold OpIs; kernel_rfl) NS (by kernel_rfl) (by kernel_rfl) (fun _ _ _ h => h) (fun ρ hρ o ho w => run_whole_at (u := .pointer (some ⟨c, 14, none⟩)) ρ (by rw [hρ]; kernel_rfl) (fun _ => by kernel_rfl) o ho w) (l' := bitsOf 72 4358322770354626295) (by kernel_rfl) ?_
  refine wpAny_pure (i := 64) (d := 67) (op := .move (.tmp 0)) (v := .pointer (some ⟨c, 0, none⟩)) (by unfold OpIs; kernel_rfl) NS (by kernel_rfl) (by kernel_rfl) (fun _ _ _ h => h) (fun ρ hρ o ho w => run_move_at ρ (by rw [hρ]; kernel_rfl) o ho w) (l' := bitsOf 72 22805066844064177911) (by kernel_rfl) ?_
  refine wpAny_pure (i := 65) (d := 68) (op := .nilCheck (.tmp 67)) (v := .pointer (some ⟨c, 0, none⟩)) (by unfold OpIs; kernel_rfl) NS (by kernel_rfl) (by kernel_rfl) (fun _ _ _ h => h) (fun ρ hρ o ho w => run_nil_at ρ (by rw [hρ]; kernel_rfl) o ho w) (l' := bitsOf 72 59698554991483281143) (by kernel_rfl) ?_
  refine wpAny_pure (i := 66) (d := 69) (op := .fieldAddr 73 (.tmp 68) 4) (v := .pointer (some ⟨c, 30, none⟩)) (by unfold OpIs; kernel_rfl) NS (by kernel_rfl) (by kernel_rfl) (fun _ _ _ h => h) (fun ρ hρ o ho w => run_field_at (u := .pointer (some ⟨c, 0, none⟩)) ρ (by rw [hρ]; kernel_rfl) (fun _ => by kernel_rfl) o ho w) (l' := bitsOf 72 133485531286321487607) (by kernel_rfl) ?_
  refine wpAny_ready (rs := [3]) (by kernel_rfl) (by simp) ?_
  refine allReady_call (i := 3) (d := 6) (f := 51) (args := #[.func 52, .func 53, .tmp 5]) (ats := #[96, 98, 100]) (vs := #[.func (.func 52) #[] #[], .func (.func 53) #[] #[], .pointer (some ⟨c, 12, none⟩)]) (by unfold OpIs; kernel_rfl) enters_nuu (by kernel_rfl) (l' := bitsOf 72 133485531286321487615) (by kernel_rfl) ?_ AllReady.nil
  refine (number_uu c 12 wd).mono ?_
  rintro e w3 ⟨v, rfl, F3, C3⟩
  obtain ⟨a3, b3, c3, d3, rfl, _⟩ := F3.out
  replace FS := Lib.hid (FS.out.snoc C3.out F3.out CC.out.size)
  replace CC := Lib.hid (CC.out.trans C3.out)
  clear C3 F3
  refine ⟨_, rfl, ?_⟩
  refine wpAny_ready (rs := [8]) (by kernel_rfl) (by simp) ?_
  refine allReady_call (i := 8) (d := 11) (f := 51) (args := #[.func 52, .func 53, .tmp 10]) (ats := #[96, 98, 100]) (vs := #[.func (.func 52) #[] #[], .func (.func 53) #[] #[], .pointer (some ⟨c, 0, none⟩)]) (by unfold OpIs; kernel_rfl) enters_nuu (by kernel_rfl) (l' := bitsOf 72 133485531286321487871) (by kernel_rfl) ?_ AllReady.nil
  refine (number_uu c 0 w3).mono ?_
  rintro e w8 ⟨v, rfl, F8, C8⟩
  obtain ⟨a8, b8, c8, d8, rfl, _⟩ := F8.out
  replace FS := Lib.hid (FS.out.snoc C8.out F8.out CC.out.size)
  replace CC := Lib.hid (CC.out.trans C8.out)
  clear C8 F8
  refine ⟨_, rfl, ?_⟩
  refine wpAny_ready (rs := [13]) (by kernel_rfl) (by simp) ?_
  refine allReady_call (i := 13) (d := 16) (f := 51) (args := #[.func 52, .func 53, .tmp 15]) (ats := #[96, 98, 100]) (vs := #[.func (.func 52) #[] #[], .func (.func 53) #[] #[], .pointer (some ⟨c, 1, none⟩)]) (by unfold OpIs; kernel_rfl) enters_nuu (by kernel_rfl) (l' := bitsOf 72 133485531286321496063) (by kernel_rfl) ?_ AllReady.nil
  refine (number_uu c 1 w8).mono ?_
  rintro e w13 ⟨v, rfl, F13, C13⟩
  obtain ⟨a13, b13, c13, d13, rfl, _⟩ := F13.out
  replace FS := Lib.hid (FS.out.snoc C13.out F13.out CC.out.size)
  replace CC := Lib.hid (CC.out.trans C13.out)
  clear C13 F13
  refine ⟨_, rfl, ?_⟩
  refine wpAny_ready (rs := [18]) (by kernel_rfl) (by simp) ?_
  refine allReady_call (i := 18) (d := 21) (f := 51) (args := #[.func 52, .func 53, .tmp 20]) (ats := #[96, 98, 100]) (vs := #[.func (.func 52) #[] #[], .func (.func 53) #[] #[], .pointer (some ⟨c, 2, none⟩)]) (by unfold OpIs; kernel_rfl) enters_nuu (by kernel_rfl) (l' := bitsOf 72 133485531286321758207) (by kernel_rfl) ?_ AllReady.nil
  refine (number_uu c 2 w13).mono ?_
  rintro e w18 ⟨v, rfl, F18, C18⟩
  obtain ⟨a18, b18, c18, d18, rfl, _⟩ := F18.out
  replace FS := Lib.hid (FS.out.snoc C18.out F18.out CC.out.size)
  replace CC := Lib.hid (CC.out.trans C18.out)
  clear C18 F18
  refine ⟨_, rfl, ?_⟩
  refine wpAny_ready (rs := [23]) (by kernel_rfl) (by simp) ?_
  refine allReady_call (i := 23) (d := 26) (f := 54) (args := #[.func 55, .func 56, .tmp 25]) (ats := #[102, 104, 106]) (vs := #[.func (.func 55) #[] #[], .func (.func 56) #[] #[], .pointer (some ⟨c, 3, none⟩)]) (by unfold OpIs; kernel_rfl) enters_nib (by kernel_rfl) (l' := bitsOf 72 133485531286330146815) (by kernel_rfl) ?_ AllReady.nil
  refine (number_ib c 3 w18).mono ?_
  rintro e w23 ⟨v, rfl, F23, C23⟩
  obtain ⟨a23, b23, c23, d23, rfl, _⟩ := F23.out
  replace FS := Lib.hid (FS.out.snoc C23.out F23.out CC.out.size)
  replace CC := Lib.hid (CC.out.trans C23.out)
  clear C23 F23
  refine ⟨_, rfl, ?_⟩
  refine wpAny_ready (rs := [29]) (by kernel_rfl) (by simp) ?_
  refine allReady_call (i := 29) (d := 32) (f := 54) (args := #[.func 55, .func 56, .tmp 31]) (ats := #[102, 104, 106]) (vs := #[.func (.func 55) #[] #[], .func (.func 56) #[] #[], .pointer (some ⟨c, 4, none⟩)]) (by unfold OpIs; kernel_rfl) enters_nib (by kernel_rfl) (l' := bitsOf 72 133485531286867017727) (by kernel_rfl) ?_ AllReady.nil
  refine (number_ib c 4 w23).mono ?_
  rintro e w29 ⟨v, rfl, F29, C29⟩
  obtain ⟨a29, b29, c29, d29, rfl, _⟩ := F29.out
  replace FS := Lib.hid (FS.out.snoc C29.out F29.out CC.out.size)
  replace CC := Lib.hid (CC.out.trans C29.out)
  clear C29 F29
  refine ⟨_, rfl, ?_⟩
  refine wpAny_ready (rs := [35]) (by kernel_rfl) (by simp) ?_
  refine allReady_call (i := 35) (d := 38) (f := 54) (args := #[.func 55, .func 56, .tmp 37]) (ats := #[102, 104, 106]) (vs := #[.func (.func 55) #[] #[], .func (.func 56) #[] #[], .pointer (some ⟨c, 5, none⟩)]) (by unfold OpIs; kernel_rfl) enters_nib (by kernel_rfl) (l' := bitsOf 72 133485531321226756095) (by kernel_rfl) ?_ AllReady.nil
  refine (number_ib c 5 w29).mono ?_
  rintro e w35 ⟨v, rfl, F35, C35⟩
  obtain ⟨a35, b35, c35, d35, rfl, _⟩ := F35.out
  replace FS := Lib.hid (FS.out.snoc C35.out F35.out CC.out.size)
  replace CC := Lib.hid (CC.out.trans C35.out)
  clear C35 F35
  refine ⟨_, rfl, ?_⟩
  refine wpAny_ready (rs := [39]) (by kernel_rfl) (by simp) ?_
  refine allReady_call (i := 39) (d := 42) (f := 57) (args := #[.func 55, .func 56, .tmp 41]) (ats := #[102, 104, 108]) (vs := #[.func (.func 55) #[] #[], .func (.func 56) #[] #[], .pointer (some ⟨c, 13, none⟩)]) (by unfold OpIs; kernel_rfl) enters_nbb (by kernel_rfl) (l' := bitsOf 72 133485531870982569983) (by kernel_rfl) ?_ AllReady.nil
  refine (number_bb c 13 w35).mono ?_
  rintro e w39 ⟨v, rfl, F39, C39⟩
  obtain ⟨a39, b39, c39, d39, rfl, _⟩ := F39.out
  replace FS := Lib.hid (FS.out.snoc C39.out F39.out CC.out.size)
  replace CC := Lib.hid (CC.out.trans C39.out)
  clear C39 F39
  refine ⟨_, rfl, ?_⟩
  refine wpAny_ready (rs := [45]) (by kernel_rfl) (by simp) ?_
  refine allReady_call (i := 45) (d := 48) (f := 58) (args := #[.func 59, .func 60, .tmp 47]) (ats := #[110, 112, 106]) (vs := #[.func (.func 59) #[] #[], .func (.func 60) #[] #[], .pointer (some ⟨c, 6, none⟩)]) (by unfold OpIs; kernel_rfl) enters_nih (by kernel_rfl) (l' := bitsOf 72 133485567055354658815) (by kernel_rfl) ?_ AllReady.nil
  refine (number_ih c 6 w39).mono ?_
  rintro e w45 ⟨v, rfl, F45, C45⟩
  obtain ⟨a45, b45, c45, d45, rfl, _⟩ := F45.out
  replace FS := Lib.hid (FS.out.snoc C45.out F45.out CC.out.size)
  replace CC := Lib.hid (CC.out.trans C45.out)
  clear C45 F45
  refine ⟨_, rfl, ?_⟩
  refine wpAny_ready (rs := [50]) (by kernel_rfl) (by simp) ?_
  refine allReady_call (i := 50) (d := 53) (f := 58) (args := #[.func 59, .func 60, .tmp 52]) (ats := #[110, 112, 106]) (vs := #[.func (.func 59) #[] #[], .func (.func 60) #[] #[], .pointer (some ⟨c, 7, none⟩)]) (by unfold OpIs; kernel_rfl) enters_nih (by kernel_rfl) (l' := bitsOf 72 133486692955261501439) (by kernel_rfl) ?_ AllReady.nil
  refine (number_ih c 7 w45).mono ?_
  rintro e w50 ⟨v, rfl, F50, C50⟩
  obtain ⟨a50, b50, c50, d50, rfl, _⟩ := F50.out
  replace FS := Lib.hid (FS.out.snoc C50.out F50.out CC.out.size)
  replace CC := Lib.hid (CC.out.trans C50.out)
  clear C50 F50
  refine ⟨_, rfl, ?_⟩
  refine wpAny_ready (rs := [55]) (by kernel_rfl) (by simp) ?_
  refine allReady_call (i := 55) (d := 58) (f := 58) (args := #[.func 59, .func 60, .tmp 57]) (ats := #[110, 112, 106]) (vs := #[.func (.func 59) #[] #[], .func (.func 60) #[] #[], .pointer (some ⟨c, 11, none⟩)]) (by unfold OpIs; kernel_rfl) enters_nih (by kernel_rfl) (l' := bitsOf 72 133522721752280465407) (by kernel_rfl) ?_ AllReady.nil
  refine (number_ih c 11 w50).mono ?_
  rintro e w55 ⟨v, rfl, F55, C55⟩
  obtain ⟨a55, b55, c55, d55, rfl, _⟩ := F55.out
  replace FS := Lib.hid (FS.out.snoc C55.out F55.out CC.out.size)
  replace CC := Lib.hid (CC.out.trans C55.out)
  clear C55 F55
  refine ⟨_, rfl, ?_⟩
  refine wpAny_ready (rs := [56]) (by kernel_rfl) (by simp) ?_
  refine allReady_call (i := 56) (d := 59) (f := 61) (args := #[.const (.int .i64 2)]) (ats := #[3]) (vs := #[.int .i64 2]) (by unfold OpIs; kernel_rfl) enters_nz (by kernel_rfl) (l' := bitsOf 72 133594779346318393343) (by kernel_rfl) ?_ AllReady.nil
  refine (zeros_any c 2 (by decide) w55).mono ?_
  rintro e w56 ⟨v, rfl, F56, C56⟩
  obtain ⟨a56, b56, c56, d56, rfl, _⟩ := F56.out
  replace FS := Lib.hid (FS.out.snoc C56.out F56.out CC.out.size)
  replace CC := Lib.hid (CC.out.trans C56.out)
  clear C56 F56
  refine ⟨_, rfl, ?_⟩
  refine wpAny_ready (rs := [57, 62]) (by kernel_rfl) (by simp) ?_
  refine allReady_literal (i := 57) (d := 60) (t := 81) (n := 12) (parts := #[(0, .tmp 6), (1, .tmp 11), (2, .tmp 16), (3, .tmp 21), (4, .tmp 26), (5, .tmp 32), (6, .tmp 38), (7, .tmp 42), (8, .tmp 48), (9, .tmp 53), (10, .tmp 58), (11, .tmp 59)]) (vs := #[(0, .agg #[.func (.func a3) #[] b3, .func (.func c3) #[] d3]), (1, .agg #[.func (.func a8) #[] b8, .func (.func c8) #[] d8]), (2, .agg #[.func (.func a13) #[] b13, .func (.func c13) #[] d13]), (3, .agg #[.func (.func a18) #[] b18, .func (.func c18) #[] d18]), (4, .agg #[.func (.func a23) #[] b23, .func (.func c23) #[] d23]), (5, .agg #[.func (.func a29) #[] b29, .func (.func c29) #[] d29]), (6, .agg #[.func (.func a35) #[] b35, .func (.func c35) #[] d35]), (7, .agg #[.func (.func a39) #[] b39, .func (.func c39) #[] d39]), (8, .agg #[.func (.func a45) #[] b45, .func (.func c45) #[] d45]), (9, .agg #[.func (.func a50) #[] b50, .func (.func c50) #[] d50]), (10, .agg #[.func (.func a55) #[] b55, .func (.func c55) #[] d55]), (11, .agg #[.func (.func a56) #[] b56, .func (.func c56) #[] d56])]) (e := 87) (cs := [.func (.func a3) #[] b3, .func (.func c3) #[] d3, .func (.func a8) #[] b8, .func (.func c8) #[] d8, .func (.func a13) #[] b13, .func (.func c13) #[] d13, .func (.func a18) #[] b18, .func (.func c18) #[] d18, .func (.func a23) #[] b23, .func (.func c23) #[] d23, .func (.func a29) #[] b29, .func (.func c29) #[] d29, .func (.func a35) #[] b35, .func (.func c35) #[] d35, .func (.func a39) #[] b39, .func (.func c39) #[] d39, .func (.func a45) #[] b45, .func (.func c45) #[] d45, .func (.func a50) #[] b50, .func (.func c50) #[] d50, .func (.func a55) #[] b55, .func (.func c55) #[] d55, .func (.func a56) #[] b56, .func (.func c56) #[] d56]) (by unfold OpIs; kernel_rfl) (by kernel_rfl) (by kernel_rfl) (l' := bitsOf 72 133738894534394249215) (by kernel_rfl) (fun w57 g57 B57 C57 hg57 => ?_) ?_
  · replace CC := Lib.hid (CC.out.trans C57.out)
    refine wpAny_ready (rs := [62]) (by kernel_rfl) (by simp) ?_
    refine allReady_call (i := 62) (d := 65) (f := 62) (args := #[.func 55, .func 56, .tmp 64]) (ats := #[102, 104, 27]) (vs := #[.func (.func 55) #[] #[], .func (.func 56) #[] #[], .slice (some ⟨c, 14, none⟩) 16 16]) (by unfold OpIs; kernel_rfl) enters_ns (by kernel_rfl) (l' := bitsOf 72 138350580552821637119) (by kernel_rfl) ?_ AllReady.nil
    refine (numbers_any c 14 16 (by decide) w57).mono ?_
    rintro e w62 ⟨gn, fn, rfl, ln, Bn, C62, hgn, F62⟩
    have Z62 := CC.out.size
    replace CC := Lib.hid (CC.out.trans C62.out)
    refine ⟨_, rfl, ?_⟩
    refine wpAny_ready (rs := [63]) (by kernel_rfl) (by simp) ?_
    refine allReady_call (i := 63) (d := 66) (f := 61) (args := #[.const (.int .i64 64)]) (ats := #[3]) (vs := #[.int .i64 64]) (by unfold OpIs; kernel_rfl) enters_nz (by kernel_rfl) (l' := bitsOf 72 147573952589676412927) (by kernel_rfl) ?_ AllReady.nil
    refine (zeros_any c 64 (by decide) w62).mono ?_
    rintro e w63 ⟨v, rfl, F63, C63⟩
    obtain ⟨a63, b63, c63, d63, rfl, _⟩ := F63.out
    have Z63 := CC.out.size
    replace CC := Lib.hid (CC.out.trans C63.out)
    refine ⟨_, rfl, ?_⟩
    refine wpAny_ready (rs := [67]) (by kernel_rfl) (by simp) ?_
    refine allReady_call (i := 67) (d := 70) (f := 63) (args := #[.func 64, .func 65, .tmp 69]) (ats := #[117, 119, 121]) (vs := #[.func (.func 64) #[] #[], .func (.func 65) #[] #[], .pointer (some ⟨c, 30, none⟩)]) (by unfold OpIs; kernel_rfl) enters_nww (by kernel_rfl) (l' := bitsOf 72 295147905179352825855) (by kernel_rfl) ?_ AllReady.nil
    refine (number_ww c 30 w63).mono ?_
    rintro e w67 ⟨v, rfl, F67, C67⟩
    obtain ⟨a67, b67, c67, d67, rfl, _⟩ := F67.out
    have Z67 := CC.out.size
    replace CC := Lib.hid (CC.out.trans C67.out)
    refine ⟨_, rfl, ?_⟩
    refine wpAny_ready (rs := [68]) (by kernel_rfl) (by simp) ?_
    refine allReady_literal (i := 68) (d := 71) (t := 81) (n := 2) (parts := #[(0, .tmp 66), (1, .tmp 70)]) (vs := #[(0, .agg #[.func (.func a63) #[] b63, .func (.func c63) #[] d63]), (1, .agg #[.func (.func a67) #[] b67, .func (.func c67) #[] d67])]) (e := 87) (cs := [.func (.func a63) #[] b63, .func (.func c63) #[] d63, .func (.func a67) #[] b67, .func (.func c67) #[] d67]) (by unfold OpIs; kernel_rfl) (by kernel_rfl) (by kernel_rfl) (l' := bitsOf 72 590295810358705651711) (by kernel_rfl) (fun w68 g68 B68 C68 hg68 => ?_) AllReady.nil
    replace CC := Lib.hid (CC.out.trans C68.out)
    refine wpAny_ready (rs := [69]) (by kernel_rfl) (by simp) ?_
    refine allReady_literal (i := 69) (d := 72) (t := 127) (n := 3) (parts := #[(0, .tmp 60), (1, .tmp 65), (2, .tmp 71)]) (vs := #[(0, .slice (some ⟨g57, 0, none⟩) 12 12), (1, .slice (some ⟨gn, 0, none⟩) 16 16), (2, .slice (some ⟨g68, 0, none⟩) 2 2)]) (e := 81) (cs := [.slice (some ⟨g57, 0, none⟩) 12 12, .slice (some ⟨gn, 0, none⟩) 16 16, .slice (some ⟨g68, 0, none⟩) 2 2]) (by unfold OpIs; kernel_rfl) (by kernel_rfl) (by kernel_rfl) (l' := bitsOf 72 1180591620717411303423) (by kernel_rfl) (fun w69 g69 B69 C69 hg69 => ?_) AllReady.nil
    replace CC := Lib.hid (CC.out.trans C69.out)
    refine wpAny_ready (rs := [70]) (by kernel_rfl) (by simp) ?_
    have CW := CC.out
    have FA := FS.out.past (((((C57.out.trans C62.out).trans C63.out).trans C67.out).trans C68.out).trans C69.out) (by simp) (Nat.le_refl _)
    have FNN := (Fields.ofNumbers ln F62.out).past (((C63.out.trans C67.out).trans C68.out).trans C69.out) (by simp) (B' := w.heap.size) Z62
    have FCC := (((Fields.nil w63 w.heap.size c).snoc (Chg.refl [] _) F63.out Z63).past (Chg.refl [] _) (by simp) (Nat.le_refl _)).snoc C67.out F67.out Z67
    replace FCC := FCC.past (C68.out.trans C69.out) (by simp) (Nat.le_refl _)
    have TD := tab_done (w := w) (c := c) (fa := [(.func (.func a3) #[] b3, .func (.func c3) #[] d3), (.func (.func a8) #[] b8, .func (.func c8) #[] d8), (.func (.func a13) #[] b13, .func (.func c13) #[] d13), (.func (.func a18) #[] b18, .func (.func c18) #[] d18), (.func (.func a23) #[] b23, .func (.func c23) #[] d23), (.func (.func a29) #[] b29, .func (.func c29) #[] d29), (.func (.func a35) #[] b35, .func (.func c35) #[] d35), (.func (.func a39) #[] b39, .func (.func c39) #[] d39), (.func (.func a45) #[] b45, .func (.func c45) #[] d45), (.func (.func a50) #[] b50, .func (.func c50) #[] d50), (.func (.func a55) #[] b55, .func (.func c55) #[] d55), (.func (.func a56) #[] b56, .func (.func c56) #[] d56)]) (fn := fn) (fc := [(.func (.func a63) #[] b63, .func (.func c63) #[] d63), (.func (.func a67) #[] b67, .func (.func c67) #[] d67)]) CW ((CellsAt.blk B69.out).chg (Chg.refl [] _) B69.out.lt (by simp)) ((CellsAt.blk B57.out).chg ((((C62.out.trans C63.out).trans C67.out).trans C68.out).trans C69.out) B57.out.lt (by simp)) ((CellsAt.blk Bn.out).chg (((C63.out.trans C67.out).trans C68.out).trans C69.out) Bn.out.lt (by simp)) ((CellsAt.blk B68.out).chg C69.out B68.out.lt (by simp)) (Nat.lt_of_lt_of_le B57.out.lt ((((C62.out.trans C63.out).trans C67.out).trans C68.out).trans C69.out).size) (Nat.lt_of_lt_of_le Bn.out.lt (((C63.out.trans C67.out).trans C68.out).trans C69.out).size) (Nat.lt_of_lt_of_le B68.out.lt C69.out.size) FA FNN FCC
    refine allReady_call (i := 70) (d := 73) (f := 50) (args := #[.tmp 72]) (ats := #[127]) (vs := #[.slice (some ⟨g69, 0, none⟩) 3 3]) (by unfold OpIs; kernel_rfl) enters_cat (by kernel_rfl) (l' := bitsOf 72 2361183241434822606847) (by kernel_rfl) ?_ AllReady.nil
    refine (TD).mono ?_
    rintro e w70 ⟨gt, cpt, ft, rfl, T⟩
    refine ⟨_, rfl, ?_⟩
    refine wpAny_pure (i := 71) (d := 2) (op := .assign (.tmp 73)) (v := .slice (some ⟨gt, 0, none⟩) 30 cpt) (by unfold OpIs; kernel_rfl) NS (by kernel_rfl) (by kernel_rfl) (fun _ _ _ h => h) (fun ρ hρ o ho w => run_assign_at ρ (by rw [hρ]; kernel_rfl) o ho w) (l' := bitsOf 72 4722366482869645213695) (by kernel_rfl) ?_
    refine wpAny_done (by kernel_rfl) ?_ _
    exact FIN _ _ (.slice (some ⟨gt, 0, none⟩) 30 cpt) (by kernel_rfl) (by kernel_rfl) ⟨gt, cpt, ft, rfl, T⟩
  refine allReady_call (i := 62) (d := 65) (f := 62) (args := #[.func 55, .func 56, .tmp 64]) (ats := #[102, 104, 27]) (vs := #[.func (.func 55) #[] #[], .func (.func 56) #[] #[], .slice (some ⟨c, 14, none⟩) 16 16]) (by unfold OpIs; kernel_rfl) enters_ns (by kernel_rfl) (l' := bitsOf 72 138206465364745781247) (by kernel_rfl) ?_ AllReady.nil
  refine (numbers_any c 14 16 (by decide) w56).mono ?_
  rintro e w62 ⟨gn, fn, rfl, ln, Bn, C62, hgn, F62⟩
  have Z62 := CC.out.size
  replace CC := Lib.hid (CC.out.trans C62.out)
  refine ⟨_, rfl, ?_⟩
  refine wpAny_ready (rs := [57, 63]) (by kernel_rfl) (by simp) ?_
  refine allReady_literal (i := 57) (d := 60) (t := 81) (n := 12) (parts := #[(0, .tmp 6), (1, .tmp 11), (2, .tmp 16), (3, .tmp 21), (4, .tmp 26), (5, .tmp 32), (6, .tmp 38), (7, .tmp 42), (8, .tmp 48), (9, .tmp 53), (10, .tmp 58), (11, .tmp 59)]) (vs := #[(0, .agg #[.func (.func a3) #[] b3, .func (.func c3) #[] d3]), (1, .agg #[.func (.func a8) #[] b8, .func (.func c8) #[] d8]), (2, .agg #[.func (.func a13) #[] b13, .func (.func c13) #[] d13]), (3, .agg #[.func (.func a18) #[] b18, .func (.func c18) #[] d18]), (4, .agg #[.func (.func a23) #[] b23, .func (.func c23) #[] d23]), (5, .agg #[.func (.func a29) #[] b29, .func (.func c29) #[] d29]), (6, .agg #[.func (.func a35) #[] b35, .func (.func c35) #[] d35]), (7, .agg #[.func (.func a39) #[] b39, .func (.func c39) #[] d39]), (8, .agg #[.func (.func a45) #[] b45, .func (.func c45) #[] d45]), (9, .agg #[.func (.func a50) #[] b50, .func (.func c50) #[] d50]), (10, .agg #[.func (.func a55) #[] b55, .func (.func c55) #[] d55]), (11, .agg #[.func (.func a56) #[] b56, .func (.func c56) #[] d56])]) (e := 87) (cs := [.func (.func a3) #[] b3, .func (.func c3) #[] d3, .func (.func a8) #[] b8, .func (.func c8) #[] d8, .func (.func a13) #[] b13, .func (.func c13) #[] d13, .func (.func a18) #[] b18, .func (.func c18) #[] d18, .func (.func a23) #[] b23, .func (.func c23) #[] d23, .func (.func a29) #[] b29, .func (.func c29) #[] d29, .func (.func a35) #[] b35, .func (.func c35) #[] d35, .func (.func a39) #[] b39, .func (.func c39) #[] d39, .func (.func a45) #[] b45, .func (.func c45) #[] d45, .func (.func a50) #[] b50, .func (.func c50) #[] d50, .func (.func a55) #[] b55, .func (.func c55) #[] d55, .func (.func a56) #[] b56, .func (.func c56) #[] d56]) (by unfold OpIs; kernel_rfl) (by kernel_rfl) (by kernel_rfl) (l' := bitsOf 72 138350580552821637119) (by kernel_rfl) (fun w57 g57 B57 C57 hg57 => ?_) ?_
  · replace CC := Lib.hid (CC.out.trans C57.out)
    refine wpAny_ready (rs := [63]) (by kernel_rfl) (by simp) ?_
    refine allReady_call (i := 63) (d := 66) (f := 61) (args := #[.const (.int .i64 64)]) (ats := #[3]) (vs := #[.int .i64 64]) (by unfold OpIs; kernel_rfl) enters_nz (by kernel_rfl) (l' := bitsOf 72 147573952589676412927) (by kernel_rfl) ?_ AllReady.nil
    refine (zeros_any c 64 (by decide) w57).mono ?_
    rintro e w63 ⟨v, rfl, F63, C63⟩
    obtain ⟨a63, b63, c63, d63, rfl, _⟩ := F63.out
    have Z63 := CC.out.size
    replace CC := Lib.hid (CC.out.trans C63.out)
    refine ⟨_, rfl, ?_⟩
    refine wpAny_ready (rs := [67]) (by kernel_rfl) (by simp) ?_
    refine allReady_call (i := 67) (d := 70) (f := 63) (args := #[.func 64, .func 65, .tmp 69]) (ats := #[117, 119, 121]) (vs := #[.func (.func 64) #[] #[], .func (.func 65) #[] #[], .pointer (some ⟨c, 30, none⟩)]) (by unfold OpIs; kernel_rfl) enters_nww (by kernel_rfl) (l' := bitsOf 72 295147905179352825855) (by kernel_rfl) ?_ AllReady.nil
    refine (number_ww c 30 w63).mono ?_
    rintro e w67 ⟨v, rfl, F67, C67⟩
    obtain ⟨a67, b67, c67, d67, rfl, _⟩ := F67.out
    have Z67 := CC.out.size
    replace CC := Lib.hid (CC.out.trans C67.out)
    refine ⟨_, rfl, ?_⟩
    refine wpAny_ready (rs := [68]) (by kernel_rfl) (by simp) ?_
    refine allReady_literal (i := 68) (d := 71) (t := 81) (n := 2) (parts := #[(0, .tmp 66), (1, .tmp 70)]) (vs := #[(0, .agg #[.func (.func a63) #[] b63, .func (.func c63) #[] d63]), (1, .agg #[.func (.func a67) #[] b67, .func (.func c67) #[] d67])]) (e := 87) (cs := [.func (.func a63) #[] b63, .func (.func c63) #[] d63, .func (.func a67) #[] b67, .func (.func c67) #[] d67]) (by unfold OpIs; kernel_rfl) (by kernel_rfl) (by kernel_rfl) (l' := bitsOf 72 590295810358705651711) (by kernel_rfl) (fun w68 g68 B68 C68 hg68 => ?_) AllReady.nil
    replace CC := Lib.hid (CC.out.trans C68.out)
    refine wpAny_ready (rs := [69]) (by kernel_rfl) (by simp) ?_
    refine allReady_literal (i := 69) (d := 72) (t := 127) (n := 3) (parts := #[(0, .tmp 60), (1, .tmp 65), (2, .tmp 71)]) (vs := #[(0, .slice (some ⟨g57, 0, none⟩) 12 12), (1, .slice (some ⟨gn, 0, none⟩) 16 16), (2, .slice (some ⟨g68, 0, none⟩) 2 2)]) (e := 81) (cs := [.slice (some ⟨g57, 0, none⟩) 12 12, .slice (some ⟨gn, 0, none⟩) 16 16, .slice (some ⟨g68, 0, none⟩) 2 2]) (by unfold OpIs; kernel_rfl) (by kernel_rfl) (by kernel_rfl) (l' := bitsOf 72 1180591620717411303423) (by kernel_rfl) (fun w69 g69 B69 C69 hg69 => ?_) AllReady.nil
    replace CC := Lib.hid (CC.out.trans C69.out)
    refine wpAny_ready (rs := [70]) (by kernel_rfl) (by simp) ?_
    have CW := CC.out
    have FA := FS.out.past (((((C62.out.trans C57.out).trans C63.out).trans C67.out).trans C68.out).trans C69.out) (by simp) (Nat.le_refl _)
    have FNN := (Fields.ofNumbers ln F62.out).past ((((C57.out.trans C63.out).trans C67.out).trans C68.out).trans C69.out) (by simp) (B' := w.heap.size) Z62
    have FCC := (((Fields.nil w63 w.heap.size c).snoc (Chg.refl [] _) F63.out Z63).past (Chg.refl [] _) (by simp) (Nat.le_refl _)).snoc C67.out F67.out Z67
    replace FCC := FCC.past (C68.out.trans C69.out) (by simp) (Nat.le_refl _)
    have TD := tab_done (w := w) (c := c) (fa := [(.func (.func a3) #[] b3, .func (.func c3) #[] d3), (.func (.func a8) #[] b8, .func (.func c8) #[] d8), (.func (.func a13) #[] b13, .func (.func c13) #[] d13), (.func (.func a18) #[] b18, .func (.func c18) #[] d18), (.func (.func a23) #[] b23, .func (.func c23) #[] d23), (.func (.func a29) #[] b29, .func (.func c29) #[] d29), (.func (.func a35) #[] b35, .func (.func c35) #[] d35), (.func (.func a39) #[] b39, .func (.func c39) #[] d39), (.func (.func a45) #[] b45, .func (.func c45) #[] d45), (.func (.func a50) #[] b50, .func (.func c50) #[] d50), (.func (.func a55) #[] b55, .func (.func c55) #[] d55), (.func (.func a56) #[] b56, .func (.func c56) #[] d56)]) (fn := fn) (fc := [(.func (.func a63) #[] b63, .func (.func c63) #[] d63), (.func (.func a67) #[] b67, .func (.func c67) #[] d67)]) CW ((CellsAt.blk B69.out).chg (Chg.refl [] _) B69.out.lt (by simp)) ((CellsAt.blk B57.out).chg (((C63.out.trans C67.out).trans C68.out).trans C69.out) B57.out.lt (by simp)) ((CellsAt.blk Bn.out).chg ((((C57.out.trans C63.out).trans C67.out).trans C68.out).trans C69.out) Bn.out.lt (by simp)) ((CellsAt.blk B68.out).chg C69.out B68.out.lt (by simp)) (Nat.lt_of_lt_of_le B57.out.lt (((C63.out.trans C67.out).trans C68.out).trans C69.out).size) (Nat.lt_of_lt_of_le Bn.out.lt ((((C57.out.trans C63.out).trans C67.out).trans C68.out).trans C69.out).size) (Nat.lt_of_lt_of_le B68.out.lt C69.out.size) FA FNN FCC
    refine allReady_call (i := 70) (d := 73) (f := 50) (args := #[.tmp 72]) (ats := #[127]) (vs := #[.slice (some ⟨g69, 0, none⟩) 3 3]) (by unfold OpIs; kernel_rfl) enters_cat (by kernel_rfl) (l' := bitsOf 72 2361183241434822606847) (by kernel_rfl) ?_ AllReady.nil
    refine (TD).mono ?_
    rintro e w70 ⟨gt, cpt, ft, rfl, T⟩
    refine ⟨_, rfl, ?_⟩
    refine wpAny_pure (i := 71) (d := 2) (op := .assign (.tmp 73)) (v := .slice (some ⟨gt, 0, none⟩) 30 cpt) (by unfold OpIs; kernel_rfl) NS (by kernel_rfl) (by kernel_rfl) (fun _ _ _ h => h) (fun ρ hρ o ho w => run_assign_at ρ (by rw [hρ]; kernel_rfl) o ho w) (l' := bitsOf 72 4722366482869645213695) (by kernel_rfl) ?_
    refine wpAny_done (by kernel_rfl) ?_ _
    exact FIN _ _ (.slice (some ⟨gt, 0, none⟩) 30 cpt) (by kernel_rfl) (by kernel_rfl) ⟨gt, cpt, ft, rfl, T⟩
  refine allReady_call (i := 63) (d := 66) (f := 61) (args := #[.const (.int .i64 64)]) (ats := #[3]) (vs := #[.int .i64 64]) (by unfold OpIs; kernel_rfl) enters_nz (by kernel_rfl) (l' := bitsOf 72 147429837401600557055) (by kernel_rfl) ?_ AllReady.nil
  refine (zeros_any c 64 (by decide) w62).mono ?_
  rintro e w63 ⟨v, rfl, F63, C63⟩
  obtain ⟨a63, b63, c63, d63, rfl, _⟩ := F63.out
  have Z63 := CC.out.size
  replace CC := Lib.hid (CC.out.trans C63.out)
  refine ⟨_, rfl, ?_⟩
  refine wpAny_ready (rs := [57, 67]) (by kernel_rfl) (by simp) ?_
  refine allReady_literal (i := 57) (d := 60) (t := 81) (n := 12) (parts := #[(0, .tmp 6), (1, .tmp 11), (2, .tmp 16), (3, .tmp 21), (4, .tmp 26), (5, .tmp 32), (6, .tmp 38), (7, .tmp 42), (8, .tmp 48), (9, .tmp 53), (10, .tmp 58), (11, .tmp 59)]) (vs := #[(0, .agg #[.func (.func a3) #[] b3, .func (.func c3) #[] d3]), (1, .agg #[.func (.func a8) #[] b8, .func (.func c8) #[] d8]), (2, .agg #[.func (.func a13) #[] b13, .func (.func c13) #[] d13]), (3, .agg #[.func (.func a18) #[] b18, .func (.func c18) #[] d18]), (4, .agg #[.func (.func a23) #[] b23, .func (.func c23) #[] d23]), (5, .agg #[.func (.func a29) #[] b29, .func (.func c29) #[] d29]), (6, .agg #[.func (.func a35) #[] b35, .func (.func c35) #[] d35]), (7, .agg #[.func (.func a39) #[] b39, .func (.func c39) #[] d39]), (8, .agg #[.func (.func a45) #[] b45, .func (.func c45) #[] d45]), (9, .agg #[.func (.func a50) #[] b50, .func (.func c50) #[] d50]), (10, .agg #[.func (.func a55) #[] b55, .func (.func c55) #[] d55]), (11, .agg #[.func (.func a56) #[] b56, .func (.func c56) #[] d56])]) (e := 87) (cs := [.func (.func a3) #[] b3, .func (.func c3) #[] d3, .func (.func a8) #[] b8, .func (.func c8) #[] d8, .func (.func a13) #[] b13, .func (.func c13) #[] d13, .func (.func a18) #[] b18, .func (.func c18) #[] d18, .func (.func a23) #[] b23, .func (.func c23) #[] d23, .func (.func a29) #[] b29, .func (.func c29) #[] d29, .func (.func a35) #[] b35, .func (.func c35) #[] d35, .func (.func a39) #[] b39, .func (.func c39) #[] d39, .func (.func a45) #[] b45, .func (.func c45) #[] d45, .func (.func a50) #[] b50, .func (.func c50) #[] d50, .func (.func a55) #[] b55, .func (.func c55) #[] d55, .func (.func a56) #[] b56, .func (.func c56) #[] d56]) (by unfold OpIs; kernel_rfl) (by kernel_rfl) (by kernel_rfl) (l' := bitsOf 72 147573952589676412927) (by kernel_rfl) (fun w57 g57 B57 C57 hg57 => ?_) ?_
  · replace CC := Lib.hid (CC.out.trans C57.out)
    refine wpAny_ready (rs := [67]) (by kernel_rfl) (by simp) ?_
    refine allReady_call (i := 67) (d := 70) (f := 63) (args := #[.func 64, .func 65, .tmp 69]) (ats := #[117, 119, 121]) (vs := #[.func (.func 64) #[] #[], .func (.func 65) #[] #[], .pointer (some ⟨c, 30, none⟩)]) (by unfold OpIs; kernel_rfl) enters_nww (by kernel_rfl) (l' := bitsOf 72 295147905179352825855) (by kernel_rfl) ?_ AllReady.nil
    refine (number_ww c 30 w57).mono ?_
    rintro e w67 ⟨v, rfl, F67, C67⟩
    obtain ⟨a67, b67, c67, d67, rfl, _⟩ := F67.out
    have Z67 := CC.out.size
    replace CC := Lib.hid (CC.out.trans C67.out)
    refine ⟨_, rfl, ?_⟩
    refine wpAny_ready (rs := [68]) (by kernel_rfl) (by simp) ?_
    refine allReady_literal (i := 68) (d := 71) (t := 81) (n := 2) (parts := #[(0, .tmp 66), (1, .tmp 70)]) (vs := #[(0, .agg #[.func (.func a63) #[] b63, .func (.func c63) #[] d63]), (1, .agg #[.func (.func a67) #[] b67, .func (.func c67) #[] d67])]) (e := 87) (cs := [.func (.func a63) #[] b63, .func (.func c63) #[] d63, .func (.func a67) #[] b67, .func (.func c67) #[] d67]) (by unfold OpIs; kernel_rfl) (by kernel_rfl) (by kernel_rfl) (l' := bitsOf 72 590295810358705651711) (by kernel_rfl) (fun w68 g68 B68 C68 hg68 => ?_) AllReady.nil
    replace CC := Lib.hid (CC.out.trans C68.out)
    refine wpAny_ready (rs := [69]) (by kernel_rfl) (by simp) ?_
    refine allReady_literal (i := 69) (d := 72) (t := 127) (n := 3) (parts := #[(0, .tmp 60), (1, .tmp 65), (2, .tmp 71)]) (vs := #[(0, .slice (some ⟨g57, 0, none⟩) 12 12), (1, .slice (some ⟨gn, 0, none⟩) 16 16), (2, .slice (some ⟨g68, 0, none⟩) 2 2)]) (e := 81) (cs := [.slice (some ⟨g57, 0, none⟩) 12 12, .slice (some ⟨gn, 0, none⟩) 16 16, .slice (some ⟨g68, 0, none⟩) 2 2]) (by unfold OpIs; kernel_rfl) (by kernel_rfl) (by kernel_rfl) (l' := bitsOf 72 1180591620717411303423) (by kernel_rfl) (fun w69 g69 B69 C69 hg69 => ?_) AllReady.nil
    replace CC := Lib.hid (CC.out.trans C69.out)
    refine wpAny_ready (rs := [70]) (by kernel_rfl) (by simp) ?_
    have CW := CC.out
    have FA := FS.out.past (((((C62.out.trans C63.out).trans C57.out).trans C67.out).trans C68.out).trans C69.out) (by simp) (Nat.le_refl _)
    have FNN := (Fields.ofNumbers ln F62.out).past ((((C63.out.trans C57.out).trans C67.out).trans C68.out).trans C69.out) (by simp) (B' := w.heap.size) Z62
    have FCC := (((Fields.nil w63 w.heap.size c).snoc (Chg.refl [] _) F63.out Z63).past C57.out (by simp) (Nat.le_refl _)).snoc C67.out F67.out Z67
    replace FCC := FCC.past (C68.out.trans C69.out) (by simp) (Nat.le_refl _)
    have TD := tab_done (w := w) (c := c) (fa := [(.func (.func a3) #[] b3, .func (.func c3) #[] d3), (.func (.func a8) #[] b8, .func (.func c8) #[] d8), (.func (.func a13) #[] b13, .func (.func c13) #[] d13), (.func (.func a18) #[] b18, .func (.func c18) #[] d18), (.func (.func a23) #[] b23, .func (.func c23) #[] d23), (.func (.func a29) #[] b29, .func (.func c29) #[] d29), (.func (.func a35) #[] b35, .func (.func c35) #[] d35), (.func (.func a39) #[] b39, .func (.func c39) #[] d39), (.func (.func a45) #[] b45, .func (.func c45) #[] d45), (.func (.func a50) #[] b50, .func (.func c50) #[] d50), (.func (.func a55) #[] b55, .func (.func c55) #[] d55), (.func (.func a56) #[] b56, .func (.func c56) #[] d56)]) (fn := fn) (fc := [(.func (.func a63) #[] b63, .func (.func c63) #[] d63), (.func (.func a67) #[] b67, .func (.func c67) #[] d67)]) CW ((CellsAt.blk B69.out).chg (Chg.refl [] _) B69.out.lt (by simp)) ((CellsAt.blk B57.out).chg ((C67.out.trans C68.out).trans C69.out) B57.out.lt (by simp)) ((CellsAt.blk Bn.out).chg ((((C63.out.trans C57.out).trans C67.out).trans C68.out).trans C69.out) Bn.out.lt (by simp)) ((CellsAt.blk B68.out).chg C69.out B68.out.lt (by simp)) (Nat.lt_of_lt_of_le B57.out.lt ((C67.out.trans C68.out).trans C69.out).size) (Nat.lt_of_lt_of_le Bn.out.lt ((((C63.out.trans C57.out).trans C67.out).trans C68.out).trans C69.out).size) (Nat.lt_of_lt_of_le B68.out.lt C69.out.size) FA FNN FCC
    refine allReady_call (i := 70) (d := 73) (f := 50) (args := #[.tmp 72]) (ats := #[127]) (vs := #[.slice (some ⟨g69, 0, none⟩) 3 3]) (by unfold OpIs; kernel_rfl) enters_cat (by kernel_rfl) (l' := bitsOf 72 2361183241434822606847) (by kernel_rfl) ?_ AllReady.nil
    refine (TD).mono ?_
    rintro e w70 ⟨gt, cpt, ft, rfl, T⟩
    refine ⟨_, rfl, ?_⟩
    refine wpAny_pure (i := 71) (d := 2) (op := .assign (.tmp 73)) (v := .slice (some ⟨gt, 0, none⟩) 30 cpt) (by unfold OpIs; kernel_rfl) NS (by kernel_rfl) (by kernel_rfl) (fun _ _ _ h => h) (fun ρ hρ o ho w => run_assign_at ρ (by rw [hρ]; kernel_rfl) o ho w) (l' := bitsOf 72 4722366482869645213695) (by kernel_rfl) ?_
    refine wpAny_done (by kernel_rfl) ?_ _
    exact FIN _ _ (.slice (some ⟨gt, 0, none⟩) 30 cpt) (by kernel_rfl) (by kernel_rfl) ⟨gt, cpt, ft, rfl, T⟩
  refine allReady_call (i := 67) (d := 70) (f := 63) (args := #[.func 64, .func 65, .tmp 69]) (ats := #[117, 119, 121]) (vs := #[.func (.func 64) #[] #[], .func (.func 65) #[] #[], .pointer (some ⟨c, 30, none⟩)]) (by unfold OpIs; kernel_rfl) enters_nww (by kernel_rfl) (l' := bitsOf 72 295003789991276969983) (by kernel_rfl) ?_ AllReady.nil
  refine (number_ww c 30 w63).mono ?_
  rintro e w67 ⟨v, rfl, F67, C67⟩
  obtain ⟨a67, b67, c67, d67, rfl, _⟩ := F67.out
  have Z67 := CC.out.size
  replace CC := Lib.hid (CC.out.trans C67.out)
  refine ⟨_, rfl, ?_⟩
  refine wpAny_ready (rs := [57, 68]) (by kernel_rfl) (by simp) ?_
  refine allReady_literal (i := 57) (d := 60) (t := 81) (n := 12) (parts := #[(0, .tmp 6), (1, .tmp 11), (2, .tmp 16), (3, .tmp 21), (4, .tmp 26), (5, .tmp 32), (6, .tmp 38), (7, .tmp 42), (8, .tmp 48), (9, .tmp 53), (10, .tmp 58), (11, .tmp 59)]) (vs := #[(0, .agg #[.func (.func a3) #[] b3, .func (.func c3) #[] d3]), (1, .agg #[.func (.func a8) #[] b8, .func (.func c8) #[] d8]), (2, .agg #[.func (.func a13) #[] b13, .func (.func c13) #[] d13]), (3, .agg #[.func (.func a18) #[] b18, .func (.func c18) #[] d18]), (4, .agg #[.func (.func a23) #[] b23, .func (.func c23) #[] d23]), (5, .agg #[.func (.func a29) #[] b29, .func (.func c29) #[] d29]), (6, .agg #[.func (.func a35) #[] b35, .func (.func c35) #[] d35]), (7, .agg #[.func (.func a39) #[] b39, .func (.func c39) #[] d39]), (8, .agg #[.func (.func a45) #[] b45, .func (.func c45) #[] d45]), (9, .agg #[.func (.func a50) #[] b50, .func (.func c50) #[] d50]), (10, .agg #[.func (.func a55) #[] b55, .func (.func c55) #[] d55]), (11, .agg #[.func (.func a56) #[] b56, .func (.func c56) #[] d56])]) (e := 87) (cs := [.func (.func a3) #[] b3, .func (.func c3) #[] d3, .func (.func a8) #[] b8, .func (.func c8) #[] d8, .func (.func a13) #[] b13, .func (.func c13) #[] d13, .func (.func a18) #[] b18, .func (.func c18) #[] d18, .func (.func a23) #[] b23, .func (.func c23) #[] d23, .func (.func a29) #[] b29, .func (.func c29) #[] d29, .func (.func a35) #[] b35, .func (.func c35) #[] d35, .func (.func a39) #[] b39, .func (.func c39) #[] d39, .func (.func a45) #[] b45, .func (.func c45) #[] d45, .func (.func a50) #[] b50, .func (.func c50) #[] d50, .func (.func a55) #[] b55, .func (.func c55) #[] d55, .func (.func a56) #[] b56, .func (.func c56) #[] d56]) (by unfold OpIs; kernel_rfl) (by kernel_rfl) (by kernel_rfl) (l' := bitsOf 72 295147905179352825855) (by kernel_rfl) (fun w57 g57 B57 C57 hg57 => ?_) ?_
  · replace CC := Lib.hid (CC.out.trans C57.out)
    refine wpAny_ready (rs := [68]) (by kernel_rfl) (by simp) ?_
    refine allReady_literal (i := 68) (d := 71) (t := 81) (n := 2) (parts := #[(0, .tmp 66), (1, .tmp 70)]) (vs := #[(0, .agg #[.func (.func a63) #[] b63, .func (.func c63) #[] d63]), (1, .agg #[.func (.func a67) #[] b67, .func (.func c67) #[] d67])]) (e := 87) (cs := [.func (.func a63) #[] b63, .func (.func c63) #[] d63, .func (.func a67) #[] b67, .func (.func c67) #[] d67]) (by unfold OpIs; kernel_rfl) (by kernel_rfl) (by kernel_rfl) (l' := bitsOf 72 590295810358705651711) (by kernel_rfl) (fun w68 g68 B68 C68 hg68 => ?_) AllReady.nil
    replace CC := Lib.hid (CC.out.trans C68.out)
    refine wpAny_ready (rs := [69]) (by kernel_rfl) (by simp) ?_
    refine allReady_literal (i := 69) (d := 72) (t := 127) (n := 3) (parts := #[(0, .tmp 60), (1, .tmp 65), (2, .tmp 71)]) (vs := #[(0, .slice (some ⟨g57, 0, none⟩) 12 12), (1, .slice (some ⟨gn, 0, none⟩) 16 16), (2, .slice (some ⟨g68, 0, none⟩) 2 2)]) (e := 81) (cs := [.slice (some ⟨g57, 0, none⟩) 12 12, .slice (some ⟨gn, 0, none⟩) 16 16, .slice (some ⟨g68, 0, none⟩) 2 2]) (by unfold OpIs; kernel_rfl) (by kernel_rfl) (by kernel_rfl) (l' := bitsOf 72 1180591620717411303423) (by kernel_rfl) (fun w69 g69 B69 C69 hg69 => ?_) AllReady.nil
    replace CC := Lib.hid (CC.out.trans C69.out)
    refine wpAny_ready (rs := [70]) (by kernel_rfl) (by simp) ?_
    have CW := CC.out
    have FA := FS.out.past (((((C62.out.trans C63.out).trans C67.out).trans C57.out).trans C68.out).trans C69.out) (by simp) (Nat.le_refl _)
    have FNN := (Fields.ofNumbers ln F62.out).past ((((C63.out.trans C67.out).trans C57.out).trans C68.out).trans C69.out) (by simp) (B' := w.heap.size) Z62
    have FCC := (((Fields.nil w63 w.heap.size c).snoc (Chg.refl [] _) F63.out Z63).past (Chg.refl [] _) (by simp) (Nat.le_refl _)).snoc C67.out F67.out Z67
    replace FCC := FCC.past ((C57.out.trans C68.out).trans C69.out) (by simp) (Nat.le_refl _)
    have TD := tab_done (w := w) (c := c) (fa := [(.func (.func a3) #[] b3, .func (.func c3) #[] d3), (.func (.func a8) #[] b8, .func (.func c8) #[] d8), (.func (.func a13) #[] b13, .func (.func c13) #[] d13), (.func (.func a18) #[] b18, .func (.func c18) #[] d18), (.func (.func a23) #[] b23, .func (.func c23) #[] d23), (.func (.func a29) #[] b29, .func (.func c29) #[] d29), (.func (.func a35) #[] b35, .func (.func c35) #[] d35), (.func (.func a39) #[] b39, .func (.func c39) #[] d39), (.func (.func a45) #[] b45, .func (.func c45) #[] d45), (.func (.func a50) #[] b50, .func (.func c50) #[] d50), (.func (.func a55) #[] b55, .func (.func c55) #[] d55), (.func (.func a56) #[] b56, .func (.func c56) #[] d56)]) (fn := fn) (fc := [(.func (.func a63) #[] b63, .func (.func c63) #[] d63), (.func (.func a67) #[] b67, .func (.func c67) #[] d67)]) CW ((CellsAt.blk B69.out).chg (Chg.refl [] _) B69.out.lt (by simp)) ((CellsAt.blk B57.out).chg (C68.out.trans C69.out) B57.out.lt (by simp)) ((CellsAt.blk Bn.out).chg ((((C63.out.trans C67.out).trans C57.out).trans C68.out).trans C69.out) Bn.out.lt (by simp)) ((CellsAt.blk B68.out).chg C69.out B68.out.lt (by simp)) (Nat.lt_of_lt_of_le B57.out.lt (C68.out.trans C69.out).size) (Nat.lt_of_lt_of_le Bn.out.lt ((((C63.out.trans C67.out).trans C57.out).trans C68.out).trans C69.out).size) (Nat.lt_of_lt_of_le B68.out.lt C69.out.size) FA FNN FCC
    refine allReady_call (i := 70) (d := 73) (f := 50) (args := #[.tmp 72]) (ats := #[127]) (vs := #[.slice (some ⟨g69, 0, none⟩) 3 3]) (by unfold OpIs; kernel_rfl) enters_cat (by kernel_rfl) (l' := bitsOf 72 2361183241434822606847) (by kernel_rfl) ?_ AllReady.nil
    refine (TD).mono ?_
    rintro e w70 ⟨gt, cpt, ft, rfl, T⟩
    refine ⟨_, rfl, ?_⟩
    refine wpAny_pure (i := 71) (d := 2) (op := .assign (.tmp 73)) (v := .slice (some ⟨gt, 0, none⟩) 30 cpt) (by unfold OpIs; kernel_rfl) NS (by kernel_rfl) (by kernel_rfl) (fun _ _ _ h => h) (fun ρ hρ o ho w => run_assign_at ρ (by rw [hρ]; kernel_rfl) o ho w) (l' := bitsOf 72 4722366482869645213695) (by kernel_rfl) ?_
    refine wpAny_done (by kernel_rfl) ?_ _
    exact FIN _ _ (.slice (some ⟨gt, 0, none⟩) 30 cpt) (by kernel_rfl) (by kernel_rfl) ⟨gt, cpt, ft, rfl, T⟩
  refine allReady_literal (i := 68) (d := 71) (t := 81) (n := 2) (parts := #[(0, .tmp 66), (1, .tmp 70)]) (vs := #[(0, .agg #[.func (.func a63) #[] b63, .func (.func c63) #[] d63]), (1, .agg #[.func (.func a67) #[] b67, .func (.func c67) #[] d67])]) (e := 87) (cs := [.func (.func a63) #[] b63, .func (.func c63) #[] d63, .func (.func a67) #[] b67, .func (.func c67) #[] d67]) (by unfold OpIs; kernel_rfl) (by kernel_rfl) (by kernel_rfl) (l' := bitsOf 72 590151695170629795839) (by kernel_rfl) (fun w68 g68 B68 C68 hg68 => ?_) AllReady.nil
  replace CC := Lib.hid (CC.out.trans C68.out)
  refine wpAny_ready (rs := [57]) (by kernel_rfl) (by simp) ?_
  refine allReady_literal (i := 57) (d := 60) (t := 81) (n := 12) (parts := #[(0, .tmp 6), (1, .tmp 11), (2, .tmp 16), (3, .tmp 21), (4, .tmp 26), (5, .tmp 32), (6, .tmp 38), (7, .tmp 42), (8, .tmp 48), (9, .tmp 53), (10, .tmp 58), (11, .tmp 59)]) (vs := #[(0, .agg #[.func (.func a3) #[] b3, .func (.func c3) #[] d3]), (1, .agg #[.func (.func a8) #[] b8, .func (.func c8) #[] d8]), (2, .agg #[.func (.func a13) #[] b13, .func (.func c13) #[] d13]), (3, .agg #[.func (.func a18) #[] b18, .func (.func c18) #[] d18]), (4, .agg #[.func (.func a23) #[] b23, .func (.func c23) #[] d23]), (5, .agg #[.func (.func a29) #[] b29, .func (.func c29) #[] d29]), (6, .agg #[.func (.func a35) #[] b35, .func (.func c35) #[] d35]), (7, .agg #[.func (.func a39) #[] b39, .func (.func c39) #[] d39]), (8, .agg #[.func (.func a45) #[] b45, .func (.func c45) #[] d45]), (9, .agg #[.func (.func a50) #[] b50, .func (.func c50) #[] d50]), (10, .agg #[.func (.func a55) #[] b55, .func (.func c55) #[] d55]), (11, .agg #[.func (.func a56) #[] b56, .func (.func c56) #[] d56])]) (e := 87) (cs := [.func (.func a3) #[] b3, .func (.func c3) #[] d3, .func (.func a8) #[] b8, .func (.func c8) #[] d8, .func (.func a13) #[] b13, .func (.func c13) #[] d13, .func (.func a18) #[] b18, .func (.func c18) #[] d18, .func (.func a23) #[] b23, .func (.func c23) #[] d23, .func (.func a29) #[] b29, .func (.func c29) #[] d29, .func (.func a35) #[] b35, .func (.func c35) #[] d35, .func (.func a39) #[] b39, .func (.func c39) #[] d39, .func (.func a45) #[] b45, .func (.func c45) #[] d45, .func (.func a50) #[] b50, .func (.func c50) #[] d50, .func (.func a55) #[] b55, .func (.func c55) #[] d55, .func (.func a56) #[] b56, .func (.func c56) #[] d56]) (by unfold OpIs; kernel_rfl) (by kernel_rfl) (by kernel_rfl) (l' := bitsOf 72 590295810358705651711) (by kernel_rfl) (fun w57 g57 B57 C57 hg57 => ?_) AllReady.nil
  replace CC := Lib.hid (CC.out.trans C57.out)
  refine wpAny_ready (rs := [69]) (by kernel_rfl) (by simp) ?_
  refine allReady_literal (i := 69) (d := 72) (t := 127) (n := 3) (parts := #[(0, .tmp 60), (1, .tmp 65), (2, .tmp 71)]) (vs := #[(0, .slice (some ⟨g57, 0, none⟩) 12 12), (1, .slice (some ⟨gn, 0, none⟩) 16 16), (2, .slice (some ⟨g68, 0, none⟩) 2 2)]) (e := 81) (cs := [.slice (some ⟨g57, 0, none⟩) 12 12, .slice (some ⟨gn, 0, none⟩) 16 16, .slice (some ⟨g68, 0, none⟩) 2 2]) (by unfold OpIs; kernel_rfl) (by kernel_rfl) (by kernel_rfl) (l' := bitsOf 72 1180591620717411303423) (by kernel_rfl) (fun w69 g69 B69 C69 hg69 => ?_) AllReady.nil
  replace CC := Lib.hid (CC.out.trans C69.out)
  refine wpAny_ready (rs := [70]) (by kernel_rfl) (by simp) ?_
  have CW := CC.out
  have FA := FS.out.past (((((C62.out.trans C63.out).trans C67.out).trans C68.out).trans C57.out).trans C69.out) (by simp) (Nat.le_refl _)
  have FNN := (Fields.ofNumbers ln F62.out).past ((((C63.out.trans C67.out).trans C68.out).trans C57.out).trans C69.out) (by simp) (B' := w.heap.size) Z62
  have FCC := (((Fields.nil w63 w.heap.size c).snoc (Chg.refl [] _) F63.out Z63).past (Chg.refl [] _) (by simp) (Nat.le_refl _)).snoc C67.out F67.out Z67
  replace FCC := FCC.past ((C68.out.trans C57.out).trans C69.out) (by simp) (Nat.le_refl _)
  have TD := tab_done (w := w) (c := c) (fa := [(.func (.func a3) #[] b3, .func (.func c3) #[] d3), (.func (.func a8) #[] b8, .func (.func c8) #[] d8), (.func (.func a13) #[] b13, .func (.func c13) #[] d13), (.func (.func a18) #[] b18, .func (.func c18) #[] d18), (.func (.func a23) #[] b23, .func (.func c23) #[] d23), (.func (.func a29) #[] b29, .func (.func c29) #[] d29), (.func (.func a35) #[] b35, .func (.func c35) #[] d35), (.func (.func a39) #[] b39, .func (.func c39) #[] d39), (.func (.func a45) #[] b45, .func (.func c45) #[] d45), (.func (.func a50) #[] b50, .func (.func c50) #[] d50), (.func (.func a55) #[] b55, .func (.func c55) #[] d55), (.func (.func a56) #[] b56, .func (.func c56) #[] d56)]) (fn := fn) (fc := [(.func (.func a63) #[] b63, .func (.func c63) #[] d63), (.func (.func a67) #[] b67, .func (.func c67) #[] d67)]) CW ((CellsAt.blk B69.out).chg (Chg.refl [] _) B69.out.lt (by simp)) ((CellsAt.blk B57.out).chg C69.out B57.out.lt (by simp)) ((CellsAt.blk Bn.out).chg ((((C63.out.trans C67.out).trans C68.out).trans C57.out).trans C69.out) Bn.out.lt (by simp)) ((CellsAt.blk B68.out).chg (C57.out.trans C69.out) B68.out.lt (by simp)) (Nat.lt_of_lt_of_le B57.out.lt C69.out.size) (Nat.lt_of_lt_of_le Bn.out.lt ((((C63.out.trans C67.out).trans C68.out).trans C57.out).trans C69.out).size) (Nat.lt_of_lt_of_le B68.out.lt (C57.out.trans C69.out).size) FA FNN FCC
  refine allReady_call (i := 70) (d := 73) (f := 50) (args := #[.tmp 72]) (ats := #[127]) (vs := #[.slice (some ⟨g69, 0, none⟩) 3 3]) (by unfold OpIs; kernel_rfl) enters_cat (by kernel_rfl) (l' := bitsOf 72 2361183241434822606847) (by kernel_rfl) ?_ AllReady.nil
  refine (TD).mono ?_
  rintro e w70 ⟨gt, cpt, ft, rfl, T⟩
  refine ⟨_, rfl, ?_⟩
  refine wpAny_pure (i := 71) (d := 2) (op := .assign (.tmp 73)) (v := .slice (some ⟨gt, 0, none⟩) 30 cpt) (by unfold OpIs; kernel_rfl) NS (by kernel_rfl) (by kernel_rfl) (fun _ _ _ h => h) (fun ρ hρ o ho w => run_assign_at ρ (by rw [hρ]; kernel_rfl) o ho w) (l' := bitsOf 72 4722366482869645213695) (by kernel_rfl) ?_
  refine wpAny_done (by kernel_rfl) ?_ _
  exact FIN _ _ (.slice (some ⟨gt, 0, none⟩) 30 cpt) (by kernel_rfl) (by kernel_rfl) ⟨gt, cpt, ft, rfl, T⟩

end Go.Proofs.Ytffpjefecmkfmaa
