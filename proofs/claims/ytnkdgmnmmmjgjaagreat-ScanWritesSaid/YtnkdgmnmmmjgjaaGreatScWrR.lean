/-
  ScanWrites' copy of the batch, its patches lent: its region draws its order. By an AI agent. Printed by gen_scwr.py.
-/
import Derived.Test.YtnkdgmnmmmjgjaaGreatScLawW
namespace Go.Proofs.YtnkdgmnmmmjgjaaGreat
open Go.RowKit Crc

/-- What has been lent, as a thing. -/
def lendT (w1 : World) (G : Nat) (gs : List Nat) (ps : List PtD) : Thing where
  F := G :: gs
  P := fun w => LendP w1 w G gs ps
  lt := fun w h k hk => by
    rcases List.mem_cons.1 hk with e | hk
    · rw [e]; exact h.blk.lt
    · exact h.rows.lt k hk
  stays := fun w w' s h c hs => ⟨h.rows.chg c (fun g hg => hs g (List.mem_cons_of_mem _ hg)), h.blk.chg c (hs G List.mem_cons_self), h.newG⟩

theorem enters_lent (args : Array Value) (w : World) : (callFunc 6 args).run Tryz.prog w = .ok (.enter 6 args) w := by
  have h1 : (Tryz.f6.name == "runtime.NumGoroutine") = false := by kernel_rfl
  have h2 : Tryz.f6.body.isNone = false := by kernel_rfl
  have h3 : ¬ Tryz.f6.name = "runtime.NumGoroutine" := by simpa using h1
  have h4 : ¬ Tryz.f6.body = none := fun e => by rw [e] at h2; cases h2
  simp [callFunc, go_sem, Tryz.func6, h3, h4]

theorem size_Tx : (Tryz.prog.info? 25).map (·.size) = some 2 := by kernel_rfl

/-- What the region leaves. -/
def writesLeft (w0 : World) (tb sq N N2 vc : Nat) (ao : Option Addr) (ps : List PtD) (D : List Deferred) (l0 l1 l2 l4 l6 l7 l8 l9 l10 l11 l12 l13 l14 l15 l16 l23 l24 l25 l26 l27 l28 l29 l30 l31 l32 l33 l34 l35 l36 l37 l38 l39 l40 l41 l42 l43 l44 l45 l46 l47 l48 l49 l50 l51 l52 l53 l54 l55 l56 l57 l58 l59 l60 l61 l62 l63 l64 l65 l66 l67 l68 l69 l70 l71 l72 l73 l74 l75 l76 l77 l78 l79 l80 l81 l82 l83 l84 l85 : Value) : Act → World → Prop := fun a' W => ∃ (xb G : Nat) (gs : List Nat), a' = (⟨#[l0, l1, l2, .pointer (some ⟨tb, 0, none⟩), l4, .pointer (some ⟨xb, 0, none⟩), l6, l7, l8, l9, l10, l11, l12, l13, l14, l15, l16, .pointer (some ⟨tb, 0, none⟩), .int .u64 (sq : Int), .pointer (some ⟨tb, 1, none⟩), .slice ao N vc, .slice (some ⟨G, 0, none⟩) N N2, .agg #[.int .u64 (sq : Int), .slice (some ⟨G, 0, none⟩) N N2], l23, l24, l25, l26, l27, l28, l29, l30, l31, l32, l33, l34, l35, l36, l37, l38, l39, l40, l41, l42, l43, l44, l45, l46, l47, l48, l49, l50, l51, l52, l53, l54, l55, l56, l57, l58, l59, l60, l61, l62, l63, l64, l65, l66, l67, l68, l69, l70, l71, l72, l73, l74, l75, l76, l77, l78, l79, l80, l81, l82, l83, l84, l85], D⟩ : Act) ∧ Hid (Side w0 W [blkT xb 25 [.int .u64 (sq : Int), .slice (some ⟨G, 0, none⟩) N N2], lendT w0 G gs ps])

set_option maxHeartbeats 4000000 in
set_option maxRecDepth 100000 in
theorem wr_region (w2 : World) (tb sq N N2 vc : Nat) (ao : Option Addr) (ps : List PtD) (D : List Deferred) (l0 l1 l2 l4 l5 l6 l7 l8 l9 l10 l11 l12 l13 l14 l15 l16 l17 l18 l19 l20 l21 l22 l23 l24 l25 l26 l27 l28 l29 l30 l31 l32 l33 l34 l35 l36 l37 l38 l39 l40 l41 l42 l43 l44 l45 l46 l47 l48 l49 l50 l51 l52 l53 l54 l55 l56 l57 l58 l59 l60 l61 l62 l63 l64 l65 l66 l67 l68 l69 l70 l71 l72 l73 l74 l75 l76 l77 l78 l79 l80 l81 l82 l83 l84 l85 : Value)
    (CX : ∀ W, Chg [] w2.drew W → W.cell? ⟨tb, 0, none⟩ = some (.int .u64 (sq : Int)) ∧ W.cell? ⟨tb, 1, none⟩ = some (.slice ao N vc))
    (LP : ∀ W, Chg [] w2.drew W → Calls Tryz.prog 6 #[.slice ao N vc] W fun e w' => ∃ G gs, e = .returned (.slice (some ⟨G, 0, none⟩) N N2) ∧ Hid (Side W w' [lendT w2.drew G gs ps]))
    {id : Nat} {ops : Array Oper} (hops : regOf Tryz.f3 3 = ops) : (Code.region id ops true).wp Tryz.prog (cutQ (writesLeft w2.drew tb sq N N2 vc ao ps D l0 l1 l2 l4 l6 l7 l8 l9 l10 l11 l12 l13 l14 l15 l16 l23 l24 l25 l26 l27 l28 l29 l30 l31 l32 l33 l34 l35 l36 l37 l38 l39 l40 l41 l42 l43 l44 l45 l46 l47 l48 l49 l50 l51 l52 l53 l54 l55 l56 l57 l58 l59 l60 l61 l62 l63 l64 l65 l66 l67 l68 l69 l70 l71 l72 l73 l74 l75 l76 l77 l78 l79 l80 l81 l82 l83 l84 l85)) (⟨#[l0, l1, l2, .pointer (some ⟨tb, 0, none⟩), l4, l5, l6, l7, l8, l9, l10, l11, l12, l13, l14, l15, l16, l17, l18, l19, l20, l21, l22, l23, l24, l25, l26, l27, l28, l29, l30, l31, l32, l33, l34, l35, l36, l37, l38, l39, l40, l41, l42, l43, l44, l45, l46, l47, l48, l49, l50, l51, l52, l53, l54, l55, l56, l57, l58, l59, l60, l61, l62, l63, l64, l65, l66, l67, l68, l69, l70, l71, l72, l73, l74, l75, l76, l77, l78, l79, l80, l81, l82, l83, l84, l85], D⟩ : Act) w2 := by
  obtain ⟨R, hR⟩ : ∃ R, R = writesLeft w2.drew tb sq N N2 vc ao ps D l0 l1 l2 l4 l6 l7 l8 l9 l10 l11 l12 l13 l14 l15 l16 l23 l24 l25 l26 l27 l28 l29 l30 l31 l32 l33 l34 l35 l36 l37 l38 l39 l40 l41 l42 l43 l44 l45 l46 l47 l48 l49 l50 l51 l52 l53 l54 l55 l56 l57 l58 l59 l60 l61 l62 l63 l64 l65 l66 l67 l68 l69 l70 l71 l72 l73 l74 l75 l76 l77 l78 l79 l80 l81 l82 l83 l84 l85 := ⟨_, rfl⟩
  rw [← hR]
  refine wpH_start (S := fun W => Chg [] w2.drew W) (ops' := regOf Tryz.f3 3) (n := 8) (by kernel_rfl) hops (by kernel_rfl) ?_
  have NS : Region.noSelect (regOf Tryz.f3 3) = true := by kernel_rfl
  obtain ⟨w0, hw0⟩ : ∃ w0, w0 = w2.drew := ⟨_, rfl⟩
  rw [← hw0] at CX LP hR ⊢
  clear hw0 hops
  have fa0 : ∀ W : World, (Instr.fieldAt 25 (.pointer (some ⟨tb, 0, none⟩)) 0).run Tryz.prog W = .ok (.pointer (some ⟨tb, 0, none⟩)) W := fun W => by go_simp
  have fa1 : ∀ W : World, (Instr.fieldAt 25 (.pointer (some ⟨tb, 0, none⟩)) 1).run Tryz.prog W = .ok (.pointer (some ⟨tb, 1, none⟩)) W := fun W => by go_simp
  have ld1 : ∀ W, Chg [] w0 W → (Instr.loadAt 22 (.pointer (some ⟨tb, 0, none⟩))).run Tryz.prog W = .ok (.int .u64 (sq : Int)) W := fun W h => by have h0 := (CX W h).1; go_simp
  have ld2 : ∀ W, Chg [] w0 W → (Instr.loadAt 23 (.pointer (some ⟨tb, 1, none⟩))).run Tryz.prog W = .ok (.slice ao N vc) W := fun W h => by have h0 := (CX W h).2; go_simp
  have bd : ∀ (G : Nat) W, (Instr.build 25 #[(0, .int .u64 (sq : Int)), (1, .slice (some ⟨G, 0, none⟩) N N2)]).run Tryz.prog W = .ok (.agg #[.int .u64 (sq : Int), .slice (some ⟨G, 0, none⟩) N N2]) W := fun G W => by go_simp
  have al : ∀ W : World, (Instr.alloc 25 true (.tuple #[])).run Tryz.prog W = .ok (.pointer (some ⟨W.heap.size, 0, none⟩)) (W.alloc (.cells ([.int .u64 0, .slice none 0 0] : List Value).toArray 25)) := fun W => by go_simp
  have TT : ∀ (W : World) (xb G : Nat) (gs : List Nat), Side w0 W [blkT xb 25 [.int .u64 0, .slice none 0 0], lendT w0 G gs ps] → wpAnyH Tryz.prog .any (regOf Tryz.f3 3) (cutQ R) (fun W => Chg [] w0 W) 1 (bitsOf 8 127) (⟨#[l0, l1, l2, .pointer (some ⟨tb, 0, none⟩), l4, .pointer (some ⟨xb, 0, none⟩), l6, l7, l8, l9, l10, l11, l12, l13, l14, l15, l16, .pointer (some ⟨tb, 0, none⟩), .int .u64 (sq : Int), .pointer (some ⟨tb, 1, none⟩), .slice ao N vc, .slice (some ⟨G, 0, none⟩) N N2, .agg #[.int .u64 (sq : Int), .slice (some ⟨G, 0, none⟩) N N2], l23, l24, l25, l26, l27, l28, l29, l30, l31, l32, l33, l34, l35, l36, l37, l38, l39, l40, l41, l42, l43, l44, l45, l46, l47, l48, l49, l50, l51, l52, l53, l54, l55, l56, l57, l58, l59, l60, l61, l62, l63, l64, l65, l66, l67, l68, l69, l70, l71, l72, l73, l74, l75, l76, l77, l78, l79, l80, l81, l82, l83, l84, l85], D⟩ : Act) W := by
    intro W xb G gs h
    have X : Blk W xb 25 [.int .u64 0, .slice none 0 0] := h.get 0 rfl
    have hx : w0.heap.size ≤ xb := h.new _ List.mem_cons_self xb (by simp [blkT])
    have hS2 : Chg [] w0 (W.setCells xb 0 [.int .u64 (sq : Int), .slice (some ⟨G, 0, none⟩) N N2]) := Chg.setCells _ 0 W h.chg (.inr hx)
    refine wpAnyH_ready (rs := [7]) (by kernel_rfl) (by simp) ?_
    refine readyH_store (i := 7) (t := 25) (x := .tmp 5) (y := .tmp 22) (g := xb) (cs := [.int .u64 (sq : Int), .slice (some ⟨G, 0, none⟩) N N2]) (by unfold OpIs; kernel_rfl) (by kernel_rfl) (by kernel_rfl) (X.there 0 2 (Nat.le_refl 2)) size_Tx (by simp [Value.oneCell']) (l' := bitsOf 8 255) (by kernel_rfl) hS2 ?_ AllReadyH.nil
    refine wpAnyH_done (by kernel_rfl) ?_ _
    show R _ _
    rw [hR]
    refine ⟨xb, G, gs, rfl, ?_⟩
    have b := Blk.setCells [.int .u64 (sq : Int), .slice (some ⟨G, 0, none⟩) N N2] _ 0 W X (Nat.le_refl 2)
    rw [lay_all _ _ (by rfl)] at b
    exact h.turnAt (b := blkT xb 25 [.int .u64 (sq : Int), .slice (some ⟨G, 0, none⟩) N N2]) 0 rfl (s := [xb]) (Chg.setCells _ 0 W (Chg.refl _ _) (.inl (by simp))) (fun k hk => .inl hk) b (fun k hk => .inl hk)
  have TA : ∀ (W : World) (xb : Nat), Side w0 W [blkT xb 25 [.int .u64 0, .slice none 0 0]] → wpAnyH Tryz.prog .any (regOf Tryz.f3 3) (cutQ R) (fun W => Chg [] w0 W) 3 (bitsOf 8 79) (⟨#[l0, l1, l2, .pointer (some ⟨tb, 0, none⟩), l4, .pointer (some ⟨xb, 0, none⟩), l6, l7, l8, l9, l10, l11, l12, l13, l14, l15, l16, .pointer (some ⟨tb, 0, none⟩), .int .u64 (sq : Int), .pointer (some ⟨tb, 1, none⟩), .slice ao N vc, l21, l22, l23, l24, l25, l26, l27, l28, l29, l30, l31, l32, l33, l34, l35, l36, l37, l38, l39, l40, l41, l42, l43, l44, l45, l46, l47, l48, l49, l50, l51, l52, l53, l54, l55, l56, l57, l58, l59, l60, l61, l62, l63, l64, l65, l66, l67, l68, l69, l70, l71, l72, l73, l74, l75, l76, l77, l78, l79, l80, l81, l82, l83, l84, l85], D⟩ : Act) W := by
    intro W xb h
    refine wpAnyH_ready (rs := [4]) (by kernel_rfl) (by simp) ?_
    refine readyH_call (i := 4) (d := 21) (f := 6) (args := #[.tmp 20]) (ats := #[23]) (vs := #[.slice ao N vc]) (by unfold OpIs; kernel_rfl) enters_lent (by kernel_rfl) (l' := bitsOf 8 95) (by kernel_rfl) ?_ AllReadyH.nil
    refine (LP W h.chg).mono ?_
    rintro e W' ⟨G, gs, rfl, h3⟩
    have h4 : Side w0 W' [lendT w0 G gs ps, blkT xb 25 [.int .u64 0, .slice none 0 0]] := h.stack h3.out
    refine ⟨_, (⟨#[l0, l1, l2, .pointer (some ⟨tb, 0, none⟩), l4, .pointer (some ⟨xb, 0, none⟩), l6, l7, l8, l9, l10, l11, l12, l13, l14, l15, l16, .pointer (some ⟨tb, 0, none⟩), .int .u64 (sq : Int), .pointer (some ⟨tb, 1, none⟩), .slice ao N vc, .slice (some ⟨G, 0, none⟩) N N2, l22, l23, l24, l25, l26, l27, l28, l29, l30, l31, l32, l33, l34, l35, l36, l37, l38, l39, l40, l41, l42, l43, l44, l45, l46, l47, l48, l49, l50, l51, l52, l53, l54, l55, l56, l57, l58, l59, l60, l61, l62, l63, l64, l65, l66, l67, l68, l69, l70, l71, l72, l73, l74, l75, l76, l77, l78, l79, l80, l81, l82, l83, l84, l85], D⟩ : Act), rfl, h4.chg, by kernel_rfl, ?_⟩
    refine wpH_take (i := 5) (d := 22) (op := .build 25 #[(0, .tmp 18), (1, .tmp 21)]) (v := .agg #[.int .u64 (sq : Int), .slice (some ⟨G, 0, none⟩) N N2]) (a' := (⟨#[l0, l1, l2, .pointer (some ⟨tb, 0, none⟩), l4, .pointer (some ⟨xb, 0, none⟩), l6, l7, l8, l9, l10, l11, l12, l13, l14, l15, l16, .pointer (some ⟨tb, 0, none⟩), .int .u64 (sq : Int), .pointer (some ⟨tb, 1, none⟩), .slice ao N vc, .slice (some ⟨G, 0, none⟩) N N2, .agg #[.int .u64 (sq : Int), .slice (some ⟨G, 0, none⟩) N N2], l23, l24, l25, l26, l27, l28, l29, l30, l31, l32, l33, l34, l35, l36, l37, l38, l39, l40, l41, l42, l43, l44, l45, l46, l47, l48, l49, l50, l51, l52, l53, l54, l55, l56, l57, l58, l59, l60, l61, l62, l63, l64, l65, l66, l67, l68, l69, l70, l71, l72, l73, l74, l75, l76, l77, l78, l79, l80, l81, l82, l83, l84, l85], D⟩ : Act)) (by unfold OpIs; kernel_rfl) NS (by kernel_rfl) (by kernel_rfl) (runH_build (vs := #[(0, .int .u64 (sq : Int)), (1, .slice (some ⟨G, 0, none⟩) N N2)]) (by kernel_rfl) (bd G)) h4.chg (l' := bitsOf 8 127) (by kernel_rfl) (by kernel_rfl) ?_
    exact TT W' xb G gs (h4.front 1)
  have TN : ∀ (W : World) (G : Nat) (gs : List Nat), Side w0 W [lendT w0 G gs ps] → wpAnyH Tryz.prog .any (regOf Tryz.f3 3) (cutQ R) (fun W => Chg [] w0 W) 2 (bitsOf 8 63) (⟨#[l0, l1, l2, .pointer (some ⟨tb, 0, none⟩), l4, l5, l6, l7, l8, l9, l10, l11, l12, l13, l14, l15, l16, .pointer (some ⟨tb, 0, none⟩), .int .u64 (sq : Int), .pointer (some ⟨tb, 1, none⟩), .slice ao N vc, .slice (some ⟨G, 0, none⟩) N N2, .agg #[.int .u64 (sq : Int), .slice (some ⟨G, 0, none⟩) N N2], l23, l24, l25, l26, l27, l28, l29, l30, l31, l32, l33, l34, l35, l36, l37, l38, l39, l40, l41, l42, l43, l44, l45, l46, l47, l48, l49, l50, l51, l52, l53, l54, l55, l56, l57, l58, l59, l60, l61, l62, l63, l64, l65, l66, l67, l68, l69, l70, l71, l72, l73, l74, l75, l76, l77, l78, l79, l80, l81, l82, l83, l84, l85], D⟩ : Act) W := by
    intro W G gs h
    refine wpAnyH_ready (rs := [6]) (by kernel_rfl) (by simp) ?_
    refine readyH_alloc (i := 6) (d := 5) (t := 25) (zs := [.int .u64 0, .slice none 0 0]) (by unfold OpIs; kernel_rfl) (al W) (l' := bitsOf 8 127) (by kernel_rfl) (a' := (⟨#[l0, l1, l2, .pointer (some ⟨tb, 0, none⟩), l4, .pointer (some ⟨W.heap.size, 0, none⟩), l6, l7, l8, l9, l10, l11, l12, l13, l14, l15, l16, .pointer (some ⟨tb, 0, none⟩), .int .u64 (sq : Int), .pointer (some ⟨tb, 1, none⟩), .slice ao N vc, .slice (some ⟨G, 0, none⟩) N N2, .agg #[.int .u64 (sq : Int), .slice (some ⟨G, 0, none⟩) N N2], l23, l24, l25, l26, l27, l28, l29, l30, l31, l32, l33, l34, l35, l36, l37, l38, l39, l40, l41, l42, l43, l44, l45, l46, l47, l48, l49, l50, l51, l52, l53, l54, l55, l56, l57, l58, l59, l60, l61, l62, l63, l64, l65, l66, l67, l68, l69, l70, l71, l72, l73, l74, l75, l76, l77, l78, l79, l80, l81, l82, l83, l84, l85], D⟩ : Act)) (by kernel_rfl) (h.chg.alloc _) (TT _ _ G gs (h.box [.int .u64 0, .slice none 0 0] 25)) AllReadyH.nil
  have T0 : ∀ (W : World), Chg [] w0 W → wpAnyH Tryz.prog .any (regOf Tryz.f3 3) (cutQ R) (fun W => Chg [] w0 W) 4 (bitsOf 8 15) (⟨#[l0, l1, l2, .pointer (some ⟨tb, 0, none⟩), l4, l5, l6, l7, l8, l9, l10, l11, l12, l13, l14, l15, l16, .pointer (some ⟨tb, 0, none⟩), .int .u64 (sq : Int), .pointer (some ⟨tb, 1, none⟩), .slice ao N vc, l21, l22, l23, l24, l25, l26, l27, l28, l29, l30, l31, l32, l33, l34, l35, l36, l37, l38, l39, l40, l41, l42, l43, l44, l45, l46, l47, l48, l49, l50, l51, l52, l53, l54, l55, l56, l57, l58, l59, l60, l61, l62, l63, l64, l65, l66, l67, l68, l69, l70, l71, l72, l73, l74, l75, l76, l77, l78, l79, l80, l81, l82, l83, l84, l85], D⟩ : Act) W := by
    intro W hS
    refine wpAnyH_ready (rs := [4, 6]) (by kernel_rfl) (by simp) ?_
    refine readyH_call (i := 4) (d := 21) (f := 6) (args := #[.tmp 20]) (ats := #[23]) (vs := #[.slice ao N vc]) (by unfold OpIs; kernel_rfl) enters_lent (by kernel_rfl) (l' := bitsOf 8 31) (by kernel_rfl) ?_ ?_
    · refine (LP W hS).mono ?_
      rintro e W' ⟨G, gs, rfl, h3⟩
      have h4 : Side w0 W' [lendT w0 G gs ps] := Side.rebase' hS h3.out
      refine ⟨_, (⟨#[l0, l1, l2, .pointer (some ⟨tb, 0, none⟩), l4, l5, l6, l7, l8, l9, l10, l11, l12, l13, l14, l15, l16, .pointer (some ⟨tb, 0, none⟩), .int .u64 (sq : Int), .pointer (some ⟨tb, 1, none⟩), .slice ao N vc, .slice (some ⟨G, 0, none⟩) N N2, l22, l23, l24, l25, l26, l27, l28, l29, l30, l31, l32, l33, l34, l35, l36, l37, l38, l39, l40, l41, l42, l43, l44, l45, l46, l47, l48, l49, l50, l51, l52, l53, l54, l55, l56, l57, l58, l59, l60, l61, l62, l63, l64, l65, l66, l67, l68, l69, l70, l71, l72, l73, l74, l75, l76, l77, l78, l79, l80, l81, l82, l83, l84, l85], D⟩ : Act), rfl, h4.chg, by kernel_rfl, ?_⟩
      refine wpH_take (i := 5) (d := 22) (op := .build 25 #[(0, .tmp 18), (1, .tmp 21)]) (v := .agg #[.int .u64 (sq : Int), .slice (some ⟨G, 0, none⟩) N N2]) (a' := (⟨#[l0, l1, l2, .pointer (some ⟨tb, 0, none⟩), l4, l5, l6, l7, l8, l9, l10, l11, l12, l13, l14, l15, l16, .pointer (some ⟨tb, 0, none⟩), .int .u64 (sq : Int), .pointer (some ⟨tb, 1, none⟩), .slice ao N vc, .slice (some ⟨G, 0, none⟩) N N2, .agg #[.int .u64 (sq : Int), .slice (some ⟨G, 0, none⟩) N N2], l23, l24, l25, l26, l27, l28, l29, l30, l31, l32, l33, l34, l35, l36, l37, l38, l39, l40, l41, l42, l43, l44, l45, l46, l47, l48, l49, l50, l51, l52, l53, l54, l55, l56, l57, l58, l59, l60, l61, l62, l63, l64, l65, l66, l67, l68, l69, l70, l71, l72, l73, l74, l75, l76, l77, l78, l79, l80, l81, l82, l83, l84, l85], D⟩ : Act)) (by unfold OpIs; kernel_rfl) NS (by kernel_rfl) (by kernel_rfl) (runH_build (vs := #[(0, .int .u64 (sq : Int)), (1, .slice (some ⟨G, 0, none⟩) N N2)]) (by kernel_rfl) (bd G)) h4.chg (l' := bitsOf 8 63) (by kernel_rfl) (by kernel_rfl) ?_
      exact TN W' G gs h4
    · refine readyH_alloc (i := 6) (d := 5) (t := 25) (zs := [.int .u64 0, .slice none 0 0]) (by unfold OpIs; kernel_rfl) (al W) (l' := bitsOf 8 79) (by kernel_rfl) (a' := (⟨#[l0, l1, l2, .pointer (some ⟨tb, 0, none⟩), l4, .pointer (some ⟨W.heap.size, 0, none⟩), l6, l7, l8, l9, l10, l11, l12, l13, l14, l15, l16, .pointer (some ⟨tb, 0, none⟩), .int .u64 (sq : Int), .pointer (some ⟨tb, 1, none⟩), .slice ao N vc, l21, l22, l23, l24, l25, l26, l27, l28, l29, l30, l31, l32, l33, l34, l35, l36, l37, l38, l39, l40, l41, l42, l43, l44, l45, l46, l47, l48, l49, l50, l51, l52, l53, l54, l55, l56, l57, l58, l59, l60, l61, l62, l63, l64, l65, l66, l67, l68, l69, l70, l71, l72, l73, l74, l75, l76, l77, l78, l79, l80, l81, l82, l83, l84, l85], D⟩ : Act)) (by kernel_rfl) (hS.alloc _) (TA _ _ ((Side.nil hS).box [.int .u64 0, .slice none 0 0] 25)) AllReadyH.nil
  refine wpH_take (i := 0) (d := 17) (op := .fieldAddr 25 (.tmp 3) 0) (v := .pointer (some ⟨tb, 0, none⟩)) (a' := (⟨#[l0, l1, l2, .pointer (some ⟨tb, 0, none⟩), l4, l5, l6, l7, l8, l9, l10, l11, l12, l13, l14, l15, l16, .pointer (some ⟨tb, 0, none⟩), l18, l19, l20, l21, l22, l23, l24, l25, l26, l27, l28, l29, l30, l31, l32, l33, l34, l35, l36, l37, l38, l39, l40, l41, l42, l43, l44, l45, l46, l47, l48, l49, l50, l51, l52, l53, l54, l55, l56, l57, l58, l59, l60, l61, l62, l63, l64, l65, l66, l67, l68, l69, l70, l71, l72, l73, l74, l75, l76, l77, l78, l79, l80, l81, l82, l83, l84, l85], D⟩ : Act)) (by unfold OpIs; kernel_rfl) NS (by kernel_rfl) (by kernel_rfl) (runH_field (u := .pointer (some ⟨tb, 0, none⟩)) (by kernel_rfl) fa0) (Chg.refl _ _) (l' := bitsOf 8 1) (by kernel_rfl) (by kernel_rfl) ?_
  refine wpH_take (i := 1) (d := 18) (op := .load 22 (.tmp 17)) (v := .int .u64 (sq : Int)) (a' := (⟨#[l0, l1, l2, .pointer (some ⟨tb, 0, none⟩), l4, l5, l6, l7, l8, l9, l10, l11, l12, l13, l14, l15, l16, .pointer (some ⟨tb, 0, none⟩), .int .u64 (sq : Int), l19, l20, l21, l22, l23, l24, l25, l26, l27, l28, l29, l30, l31, l32, l33, l34, l35, l36, l37, l38, l39, l40, l41, l42, l43, l44, l45, l46, l47, l48, l49, l50, l51, l52, l53, l54, l55, l56, l57, l58, l59, l60, l61, l62, l63, l64, l65, l66, l67, l68, l69, l70, l71, l72, l73, l74, l75, l76, l77, l78, l79, l80, l81, l82, l83, l84, l85], D⟩ : Act)) (by unfold OpIs; kernel_rfl) NS (by kernel_rfl) (by kernel_rfl) (runH_load (u := .pointer (some ⟨tb, 0, none⟩)) (by kernel_rfl) ld1) (Chg.refl _ _) (l' := bitsOf 8 3) (by kernel_rfl) (by kernel_rfl) ?_
  refine wpH_take (i := 2) (d := 19) (op := .fieldAddr 25 (.tmp 3) 1) (v := .pointer (some ⟨tb, 1, none⟩)) (a' := (⟨#[l0, l1, l2, .pointer (some ⟨tb, 0, none⟩), l4, l5, l6, l7, l8, l9, l10, l11, l12, l13, l14, l15, l16, .pointer (some ⟨tb, 0, none⟩), .int .u64 (sq : Int), .pointer (some ⟨tb, 1, none⟩), l20, l21, l22, l23, l24, l25, l26, l27, l28, l29, l30, l31, l32, l33, l34, l35, l36, l37, l38, l39, l40, l41, l42, l43, l44, l45, l46, l47, l48, l49, l50, l51, l52, l53, l54, l55, l56, l57, l58, l59, l60, l61, l62, l63, l64, l65, l66, l67, l68, l69, l70, l71, l72, l73, l74, l75, l76, l77, l78, l79, l80, l81, l82, l83, l84, l85], D⟩ : Act)) (by unfold OpIs; kernel_rfl) NS (by kernel_rfl) (by kernel_rfl) (runH_field (u := .pointer (some ⟨tb, 0, none⟩)) (by kernel_rfl) fa1) (Chg.refl _ _) (l' := bitsOf 8 7) (by kernel_rfl) (by kernel_rfl) ?_
  refine wpH_take (i := 3) (d := 20) (op := .load 23 (.tmp 19)) (v := .slice ao N vc) (a' := (⟨#[l0, l1, l2, .pointer (some ⟨tb, 0, none⟩), l4, l5, l6, l7, l8, l9, l10, l11, l12, l13, l14, l15, l16, .pointer (some ⟨tb, 0, none⟩), .int .u64 (sq : Int), .pointer (some ⟨tb, 1, none⟩), .slice ao N vc, l21, l22, l23, l24, l25, l26, l27, l28, l29, l30, l31, l32, l33, l34, l35, l36, l37, l38, l39, l40, l41, l42, l43, l44, l45, l46, l47, l48, l49, l50, l51, l52, l53, l54, l55, l56, l57, l58, l59, l60, l61, l62, l63, l64, l65, l66, l67, l68, l69, l70, l71, l72, l73, l74, l75, l76, l77, l78, l79, l80, l81, l82, l83, l84, l85], D⟩ : Act)) (by unfold OpIs; kernel_rfl) NS (by kernel_rfl) (by kernel_rfl) (runH_load (u := .pointer (some ⟨tb, 1, none⟩)) (by kernel_rfl) ld2) (Chg.refl _ _) (l' := bitsOf 8 15) (by kernel_rfl) (by kernel_rfl) ?_
  exact T0 _ (Chg.refl _ _)

end Go.Proofs.YtnkdgmnmmmjgjaaGreat
namespace Go.Proofs.YtnkdgmnmmmjgjaaGreat
open Go.RowKit Crc

theorem LendP.low {w0 w1 w : World} {G : Nat} {gs : List Nat} {ps : List PtD} (hz : w0.heap.size ≤ w1.heap.size) (h : LendP w1 w G gs ps) : LendP w0 w G gs ps := by
  obtain ⟨⟨a, b, c, d, e⟩, f, g⟩ := h
  exact ⟨⟨a, b, c, d, fun x hx => Nat.le_trans hz (e x hx)⟩, f, Nat.le_trans hz g⟩

theorem row128 {vs : List Rw} {S : List (List Nat)} (hv : vs.map (·.2) = S.map ub) (h8 : ∀ x ∈ S, x.length = 128 ∧ Bs x) : ∀ p ∈ vs, p.2.length = 128 := fun p hp => by
  have h : p.2 ∈ vs.map (·.2) := List.mem_map_of_mem hp
  rw [hv] at h
  obtain ⟨s, hs, e⟩ := List.mem_map.1 h
  rw [← e, ub_len]
  exact (h8 s hs).1

set_option maxHeartbeats 8000000 in
set_option maxRecDepth 100000 in
theorem writes_any (ep sq : Nat) (v : Value) (ds : List PtD) (w : World) (h : Pts w v ds) (hb : ∀ d ∈ ds, By d.d ∧ Cap d.v) :
    Calls Tryz.prog 3 #[.int .u64 (ep : Int), .agg #[.int .u64 (sq : Int), v]] w fun e W' => e = .returned (.bool true) ∧ Chg [] w W' := by
  obtain ⟨ao, vc, rfl⟩ := h.slice
  have HP : Hid (∀ w', Chg [] w w' → Pts w' (.slice ao ds.length vc) ds) := fun w' c => h.chg c
  have HB := Lib.hid hb
  obtain ⟨N, hN⟩ : ∃ N, N = ds.length := ⟨_, rfl⟩
  rw [← hN] at HP ⊢
  have HN := Lib.hid hN
  clear h hb hN
  have W0 : Hid (∀ w', Chg [] (w.alloc (.cells #[.int .u64 (sq : Int), .slice ao N vc] 25)) w' → w'.cell? ⟨w.heap.size, 0, none⟩ = some (.int .u64 (sq : Int)) ∧ w'.cell? ⟨w.heap.size, 1, none⟩ = some (.slice ao N vc) ∧ Chg [] w w') := fun w' c =>
    ⟨((Blk.made w _ _).chg c (by simp)).cell (j := 0) rfl, ((Blk.made w _ _).chg c (by simp)).cell (j := 1) rfl, ((Chg.refl _ _).alloc _).trans c⟩
  obtain ⟨y0, y1, _⟩ := W0.out _ (Chg.refl _ _)
  go_enter Tryz.func3, Tryz.ntmps3
  go_wp2_with fail
  obtain ⟨wb, hwb⟩ : ∃ wb, wb = (w.alloc (.cells #[.int .u64 (sq : Int), .slice ao N vc] 25)) := ⟨_, rfl⟩
  obtain ⟨tb, htb⟩ : ∃ tb, tb = w.heap.size := ⟨_, rfl⟩
  rw [← hwb, ← htb] at W0
  rw [← hwb, ← htb]
  clear hwb htb y0 y1
  refine Calls.mono (show Calls Tryz.prog 5 #[.slice ao N vc] wb _ from much_says _ ds wb (HP.out wb (W0.out wb (Chg.refl _ _)).2.2)) ?_
  rintro e w2 ⟨⟨b, rfl, MU⟩, C2⟩
  cases b
  case true =>
    have CF := Lib.hid (W0.out w2 C2.out).2.2
    go_wp2_with fail
    go_ret
    exact ⟨rfl, CF.out⟩
  obtain ⟨m1, m2⟩ := MU rfl
  replace m2 := Lib.hid m2
  rw [← HN.out] at m1
  clear MU
  go_wp2_with fail
  obtain ⟨N2, hN2⟩ : ∃ N2, N2 = N + 2 := ⟨_, rfl⟩
  have HN2 := Lib.hid hN2
  have LP : Hid (∀ W, Chg [] w2.drew W → Calls Tryz.prog 6 #[.slice ao N vc] W fun e w' => ∃ G gs, e = .returned (.slice (some ⟨G, 0, none⟩) N N2) ∧ Hid (Side W w' [lendT w2.drew G gs ds])) := fun W c => by
    refine (lentPts_any _ ds W (HP.out W (W0.out W (C2.out.drew.trans c)).2.2) (by rw [← HN.out]; omega)).mono ?_
    rintro e w' ⟨G, gs, rfl, L, C⟩
    refine ⟨G, gs, by rw [← HN.out, HN2.out], ⟨fun t ht => ?_, List.pairwise_singleton _ _, fun t ht k hk => ?_, C.out⟩⟩
    · rw [List.mem_singleton.1 ht]
      exact L.out.low c.size
    · rw [List.mem_singleton.1 ht] at hk
      rcases List.mem_cons.1 hk with rfl | hk
      · exact L.out.newG
      · exact L.out.rows.new k hk
  clear hN2
  refine region_cutQ _ (wr_region w2 tb sq N N2 vc ao ds [] _ _ _ _ _ _ _ _ _ _ _ _ _ _ _ _ _ _ _ _ _ _ _ _ _ _ _ _ _ _ _ _ _ _ _ _ _ _ _ _ _ _ _ _ _ _ _ _ _ _ _ _ _ _ _ _ _ _ _ _ _ _ _ _ _ _ _ _ _ _ _ _ _ _ _ _ _ _ _ _ _ _ _ _ _ (fun W c => ⟨(W0.out W (C2.out.drew.trans c)).1, (W0.out W (C2.out.drew.trans c)).2.1⟩) LP.out (by kernel_rfl)) ?_
  rintro a' w3 ⟨xb, G, gs, rfl, H⟩
  have CW0 : Hid (∀ W, Chg [] w2.drew W → W.cell? ⟨tb, 0, none⟩ = some (.int .u64 (sq : Int)) ∧ W.cell? ⟨tb, 1, none⟩ = some (.slice ao N vc) ∧ Chg [] w W) := fun W c => W0.out W (C2.out.drew.trans c)
  obtain ⟨w0, hw0⟩ : ∃ w0, w0 = w2.drew := ⟨_, rfl⟩
  rw [← hw0] at H CW0
  clear hw0 LP W0 C2
  have LD := (show LendP w0 w3 G gs ds from H.out.get 1 rfl)
  have GL : Hid (gs.length = ds.length) := LD.len
  have XB := (show Blk w3 xb 25 [.int .u64 (sq : Int), .slice (some ⟨G, 0, none⟩) N N2] from H.out.get 0 rfl)
  have x0 := XB.cell (j := 0) rfl
  have x1 := XB.cell (j := 1) rfl
  obtain ⟨E, hE⟩ : ∃ E, E = scErr ep sq ds := ⟨_, rfl⟩
  obtain ⟨S, hS⟩ : ∃ S, S = secsU ep sq ds := ⟨_, rfl⟩
  have SO : Hid ((∀ x ∈ S, x.length = 128 ∧ Bs x) ∧ S.length ≤ 2047) := by rw [hS]; exact secsU_ok (fun d hd => (HB.out d hd).1)
  have hE0 : 0 ≤ E ∧ E ≤ 4 := by
    rw [hE]
    unfold scErr
    repeat' split
    all_goals decide
  have S1 : Hid (Calls Tryz.prog 7 #[.int .u64 (ep : Int), .agg #[.int .u64 (sq : Int), .slice (some ⟨G, 0, none⟩) N N2]] w3 fun e w' => ∃ lv vs, e = .returned (.tuple #[lv, .int .u16 E]) ∧ Hid (vs.map (·.2) = S.map ub) ∧ Hid (Side w3 w' (rowsTs lv vs))) := by
    have P := LD.pts (fun p hp => by have := m2.out p hp; omega) (by rw [← HN.out]; omega)
    rw [← HN.out, ← HN2.out] at P
    refine (secs_u ep sq _ (lentPs gs ds) w3 P (fun d hd => ?_)).mono ?_
    · obtain ⟨i, hi⟩ := List.mem_iff_getElem?.1 hd
      obtain ⟨g, p, _, hp, rfl⟩ := lentPs_get hi
      refine ⟨(HB.out p (List.mem_of_getElem? hp)).1, fun ao' n' c' e' => ?_⟩
      injection e' with _ h2 h3
      omega
    · rintro e w' ⟨lv, vs, rfl, VS, K⟩
      rw [lent_err GL.out, ← hE]
      refine ⟨lv, vs, rfl, ?_, K⟩
      have k := VS.out
      unfold secsU at k
      rw [lent_err GL.out, lent_pd GL.out] at k
      rw [hS]
      exact k
  have S2 : Hid (∀ W, Chg [] w W → Calls Tryz.prog 7 #[.int .u64 (ep : Int), .agg #[.int .u64 (sq : Int), .slice ao N vc]] W fun e w' => ∃ lv vs, e = .returned (.tuple #[lv, .int .u16 E]) ∧ Hid (vs.map (·.2) = S.map ub) ∧ Hid (Side W w' (rowsTs lv vs))) := fun W c => by
    have k := secs_u ep sq _ ds W (HP.out W c) HB.out
    unfold SecU at k
    rw [← hE, ← hS] at k
    exact k
  have S3 : Hid (∀ W, Chg [] w W → Calls Tryz.prog 10 #[.int .u64 (ep : Int), .agg #[.int .u64 (sq : Int), .slice ao N vc]] W fun e w' => ∃ lv vs, e = .returned (.tuple #[lv, .int .i64 E]) ∧ Hid (vs.map (·.2) = S.map ub) ∧ Hid (Side W w' (rowsTs lv vs))) := fun W c => by
    have k := rsecs_u ep sq _ ds W (HP.out W c) HB.out
    unfold SecU at k
    rw [← hE, ← hS] at k
    exact k
  clear hE hS LD XB
  go_wp2_with fail
  refine S1.out.mono ?_
  rintro e w4 ⟨lv, vs1, rfl, VS1, K1⟩
  have H4 : Hid (Side w0 w4 (rowsTs lv vs1 ++ [blkT xb 25 [.int .u64 (sq : Int), .slice (some ⟨G, 0, none⟩) N N2], lendT w0 G gs ds])) := H.out.stack K1.out
  clear H K1 S1 x0 x1
  obtain ⟨z0, z1, CZ⟩ := CW0.out w4 H4.out.chg
  have x1 := (show Blk w4 xb 25 [.int .u64 (sq : Int), .slice (some ⟨G, 0, none⟩) N N2] from H4.out.get 2 rfl).cell (j := 1) rfl
  have WH : Hid (Calls Tryz.prog 8 #[.slice (some ⟨G, 0, none⟩) N N2, .slice ao N vc] w4 fun e w' => e = .returned (.bool true) ∧ Hid (Chg [] w4 w')) := by
    have k := wholePts_any w0 G gs ds _ w4 (show LendP w0 w4 G gs ds from H4.out.get 3 rfl) (HP.out w4 CZ) (by rw [← HN.out]; omega)
    rw [← HN.out, ← HN2.out] at k
    exact k
  have SP : Hid (∀ W, Chg [] w4 W → Calls Tryz.prog 9 #[.slice (some ⟨G, 0, none⟩) N N2] W fun e w' => e = .returned (.tuple #[]) ∧ Hid (Chg (G :: gs) W w')) := fun W c => by
    have k := spoilPts_any w0 G gs ds W (show LendP w0 W G gs ds from (H4.out.quiet c).get 3 rfl) (by rw [← HN.out]; omega) (fun p hp => by have := m2.out p hp; omega)
    rw [← HN.out, ← HN2.out] at k
    exact k
  go_wp2_with (go_at_call 8; refine WH.out.mono ?_; rintro e w5 ⟨rfl, C5⟩; have x2 := (show Blk w5 xb 25 [.int .u64 (sq : Int), .slice (some ⟨G, 0, none⟩) N N2] from (H4.out.quiet C5.out).get 2 rfl).cell (j := 1) rfl; clear x1 z0 z1 CZ WH)
  refine (SP.out w5 C5.out).mono ?_
  rintro e w6 ⟨rfl, C6⟩
  have H6 : Hid (Side w0 w6 (rowsTs lv vs1)) := by
    have h5 := (H4.out.quiet C5.out).front 3
    have h6 := Side.gone (a := lendT w0 G gs ds) (ts := rowsTs lv vs1 ++ [blkT xb 25 [.int .u64 (sq : Int), .slice (some ⟨G, 0, none⟩) N N2]]) h5 C6.out (fun k hk => hk)
    exact h6.sub (List.sublist_append_left _ _)
  clear H4 C5 C6 SP x2 GL HN2
  obtain ⟨z0, z1, CZ⟩ := CW0.out w6 H6.out.chg
  go_wp2_with fail
  refine (S2.out w6 CZ).mono ?_
  rintro e w7 ⟨mv, vs2, rfl, VS2, K2⟩
  have H7 := Lib.hid (H6.out.stack K2.out)
  clear H6 K2 z0 z1 CZ S2
  obtain ⟨z0, z1, CZ⟩ := CW0.out w7 H7.out.chg
  go_wp2_with fail
  refine (S3.out w7 CZ).mono ?_
  rintro e w8 ⟨wv, vs3, rfl, VS3, K3⟩
  have H8 := Lib.hid (H7.out.stack K3.out)
  clear H7 K3 z0 z1 CZ S3
  have CZ8 := Lib.hid (CW0.out w8 H8.out.chg).2.2
  have HBK : Hid (Side w0 (w8.alloc (.cells (rwBook (.slice none 0 0) (.slice none 0 0)).toArray 50)) (wideT 1 55 lv (vs1.map rowSlot) :: poolT vs1 :: bytesT (.slice none 0 0) [] :: rwsRackT (.slice none 0 0) [] :: rwBookT w8.heap.size (.slice none 0 0) (.slice none 0 0) :: (rowsTs wv vs3 ++ rowsTs mv vs2))) := by
    have h1 := H8.out.box (rwBook (.slice none 0 0) (.slice none 0 0)) 50
    have h2 := h1.add (b := rwsRackT (.slice none 0 0) []) (Chg.refl _ _) (RackW.nil 1 _ _ _) (fun k hk => by simp [rwsRackT, rackWT, blocksOf, Value.ownBlock] at hk)
    have h3 := h2.add (b := bytesT (.slice none 0 0) []) (Chg.refl _ _) (Rack.nil _ _ _) (fun k hk => by simp [bytesT, rackT, rowsOf, Value.ownBlock] at hk)
    exact (h3.front 8).front 8
  have L1 : vs1.length ≤ 2047 := by rw [rows_len VS1.out]; exact SO.out.2
  have L2 : vs2.length ≤ 2047 := by rw [rows_len VS2.out]; exact SO.out.2
  obtain ⟨bb, hbb⟩ : ∃ bb, bb = w8.heap.size := ⟨_, rfl⟩
  obtain ⟨w9, hw9⟩ : ∃ w9, w9 = w8.alloc (.cells (rwBook (.slice none 0 0) (.slice none 0 0)).toArray 50) := ⟨_, rfl⟩
  rw [← hbb, ← hw9] at HBK
  have CZ9 : Hid (Chg [] w w9) := by rw [hw9]; exact CZ8.out.alloc _
  go_wp2_with fail
  rw [← hbb]
  have B1 := bookRws_side HBK.out (by simp; omega) (by simp)
  refine Calls.mono (show Calls Tryz.prog 11 #[.pointer (some ⟨bb, 0, none⟩), lv] (w8.alloc _) _ from by rw [hw9] at B1; exact B1) ?_
  rintro e w10 ⟨rfl, l0, l8, H10⟩
  have HBK2 : Hid (Side w0 w10 (wideT 1 55 mv (vs2.map rowSlot) :: poolT vs2 :: bytesT l0 ([] ++ vs1) :: rwsRackT l8 ([] ++ [(lv, vs1.map rowSlot)]) :: rwBookT bb l0 l8 :: rowsTs wv vs3)) := ((H10.out.front 6).front 6)
  clear H8 HBK B1 H10 hw9 hbb
  go_wp2_with fail
  have B2 := bookRws_side HBK2.out (by simp; omega) (by simp)
  refine B2.mono ?_
  rintro e w11 ⟨rfl, k0, k8, H11⟩
  have PL : Hid (∀ W, Chg [] w11 W → ∀ p, p ∈ vs1 ∨ p ∈ vs2 → OwnR W 0 p.1 p.2.length p.2) := fun W c p hp => by
    have hr := (show Rack W 5 55 k0 (([] ++ vs1) ++ vs2) from (H11.out.quiet c).get 0 rfl)
    have hm : p ∈ ([] ++ vs1) ++ vs2 := by
      rw [List.nil_append]
      exact List.mem_append.2 hp
    obtain ⟨j, hj⟩ := List.mem_iff_getElem?.1 hm
    exact hr.row j p.1 p.2 hj
  have R1 : Hid (∀ W, Chg [] w11 W → Rws W lv (rowDs vs1 S)) := fun W c => by
    have hr := (show RackW 1 W 55 28 k8 (([] ++ [(lv, vs1.map rowSlot)]) ++ [(mv, vs2.map rowSlot)]) from (H11.out.quiet c).get 1 rfl)
    exact rows_rws' (hr.row 0 lv (vs1.map rowSlot) rfl) (fun p hp => PL.out W c p (.inl hp)) VS1.out SO.out.1 (by have := SO.out.2; omega)
  have R2 : Hid (∀ W, Chg [] w11 W → Rws W mv (rowDs vs2 S)) := fun W c => by
    have hr := (show RackW 1 W 55 28 k8 (([] ++ [(lv, vs1.map rowSlot)]) ++ [(mv, vs2.map rowSlot)]) from (H11.out.quiet c).get 1 rfl)
    exact rows_rws' (hr.row 1 mv (vs2.map rowSlot) rfl) (fun p hp => PL.out W c p (.inr hp)) VS2.out SO.out.1 (by have := SO.out.2; omega)
  have R3 : Hid (∀ W, Chg [] w11 W → Rws W wv (rowDs vs3 S)) := fun W c => rows_rws ((H11.out.quiet c).get 3 rfl) ((H11.out.quiet c).get 4 rfl) VS3.out SO.out.1 (by have := SO.out.2; omega)
  have SR1 : Hid (∀ W, Chg [] w11 W → Calls Tryz.prog 13 #[lv, wv] W fun e w' => e = .returned (.bool true) ∧ ∃ q, w' = W.drewN q) := fun W c => sameRws_true _ _ _ _ W (R1.out W c) (R3.out W c) (by rw [rowDs_bs, rowDs_bs])
  have SR2 : Hid (∀ W, Chg [] w11 W → Calls Tryz.prog 13 #[mv, wv] W fun e w' => e = .returned (.bool true) ∧ ∃ q, w' = W.drewN q) := fun W c => sameRws_true _ _ _ _ W (R2.out W c) (R3.out W c) (by rw [rowDs_bs, rowDs_bs])
  have OWN : Hid (∀ W, Chg [] w11 W → Calls Tryz.prog 14 #[.pointer (some ⟨bb, 0, none⟩)] W fun e w' => e = .returned (.bool true) ∧ Hid (Chg [] w0 w')) := fun W c => by
    refine rwBook_own (H11.out.quiet c) (by simp; omega) (fun p hp => ?_) (by simp) (fun p hp => ?_)
    · rw [List.nil_append] at hp
      rcases List.mem_append.1 hp with hp | hp
      · rw [row128 VS1.out SO.out.1 p hp]; decide
      · rw [row128 VS2.out SO.out.1 p hp]; decide
    · simp only [List.nil_append, List.cons_append, List.mem_cons, List.not_mem_nil, or_false] at hp
      rcases hp with rfl | rfl
      · show (vs1.map rowSlot).length ≤ _; rw [List.length_map]; omega
      · show (vs2.map rowSlot).length ≤ _; rw [List.length_map]; omega
  obtain ⟨e0, e4⟩ := hE0
  clear HBK2 B2 H11 PL R1 R2 R3 L1 L2 m1
  go_wp2_with (first
    | (go_at_call 12; refine (known_any _).mono ?_; rintro e w12 ⟨rfl, C12⟩)
    | (go_at_call 13; first | ((with_reducible refine (SR1.out w12 C12.out).mono ?_); rintro e w13 ⟨rfl, hq⟩; have C13 : Hid (Chg [] w11 w13) := (by obtain ⟨q, rfl⟩ := hq; exact C12.out.drewN q); clear hq SR1) | ((with_reducible refine (SR2.out w13 C13.out).mono ?_); rintro e w14 ⟨rfl, hq⟩; have C14 : Hid (Chg [] w11 w14) := (by obtain ⟨q, rfl⟩ := hq; exact C13.out.drewN q); clear hq SR2))
    | (go_at_call 14; refine (OWN.out w14 C14.out).mono ?_; rintro e w15 ⟨rfl, CF⟩))
  go_ret
  exact ⟨by first | rfl | simp, (CW0.out _ CF.out).2.2⟩

end Go.Proofs.YtnkdgmnmmmjgjaaGreat
