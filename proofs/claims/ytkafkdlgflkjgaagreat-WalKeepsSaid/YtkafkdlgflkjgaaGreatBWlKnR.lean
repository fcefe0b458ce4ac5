/-
  'known' of the journal: its parts. By an AI agent.
-/
import Derived.Test.YtkafkdlgflkjgaaGreatBWlKn
import Derived.Test.YtkafkdlgflkjgaaGreatBWlOpen
import Derived.Test.YtkafkdlgflkjgaaGreatBWlFmt
import Derived.Test.YtkafkdlgflkjgaaGreatBByCalls
import Derived.Test.YtkafkdlgflkjgaaGreatBG
import Derived.Laws.StructEq
import Derived.Deep.DeepCutAuto
namespace Go.Proofs.YtkafkdlgflkjgaaGreat
open Go.RowKit Go.Maps Crc

theorem neq_cnt (w : World) : (binOp .neq 73 (.agg #[.int .i64 0, .int .i64 11, .int .i64 1]) (.agg #[.int .i64 0, .int .i64 11, .int .i64 1])).run Tryz.prog w = .ok (.bool false) w := by
 go_simp

theorem fiver_cells : (List.replicate 128 (Value.int .u8 0)).set 7 (Value.int .u8 5) = ub Wl.fiver := by
 unfold Wl.fiver ub ints
 rw [List.map_set, List.map_set, List.map_replicate, List.map_replicate]
 rfl

theorem wl_based {w0 w : World} {ts : List Thing} (h : Side w0 w ts) (i : Nat) {e : TypeId} {v : Value} {xs : List Value} (hi : ts[i]? = some (ownT e v xs)) : w.ownsRow w0.heap.size e 1 v xs.length xs := by
 have o : w.ownsRow 0 e 1 v xs.length xs := h.get i hi
 refine ⟨o.1, ?_⟩
 rcases o.2 with q | ⟨g, cap, cur, hv, hb, r⟩
 ·exact .inl q
 ·exact .inr ⟨g, cap, cur, hv, h.new _ (List.mem_of_getElem? hi) g (by simp [ownT, hv, Value.ownBlock]), r⟩

set_option maxHeartbeats 2000000 in
set_option maxRecDepth 100000 in
theorem wsector_any (w : World) : Calls Tryz.prog 49 #[.int .u8 5] w fun e w' => ∃ vo vc, e = .returned (.slice vo 128 vc) ∧ Hid (w'.ownsRow w.heap.size 5 1 (.slice vo 128 vc) 128 (ub Wl.fiver)) ∧ Hid (Chg [] w w') := by
 obtain ⟨i0, hi, hz0, hz1, hz2⟩ := info_parts info_b8
 replace hi := Lib.hid hi
 replace hz0 := Lib.hid hz0
 replace hz1 := Lib.hid hz1
 replace hz2 := Lib.hid hz2
 go_enter Tryz.func49, Tryz.ntmps49
 go_wp2_with ((with_reducible refine wpList_make_full _ rfl _ _ 65 rfl w.heap.size 5 i0 _ 1 Tryz.underlying65 hi.out hz0.out hz1.out .i64 .i64 (128 : Int) (128 : Int) 128 rfl rfl rfl rfl (by rw [hz2.out]; decide) (by unfold maxLen; decide) (Nat.le_refl _) ?_); intro w2 ow gr; rw [made_replicate (.int .u8 0) 128 rfl] at ow; obtain ⟨gx, hgx⟩ : ∃ g, g = w.heap.size := ⟨_, rfl⟩; have H1 := (Side.nil (Chg.refl [] w)).own ow ((Chg.refl [] w).grown gr (fun k hk => by cases hk)); obtain ⟨H2, hf, u0, hu⟩ := H1.set 0 rfl (k := 7) (by simp) (.int .u8 5); have H3 : Hid (Side w (w2.setCell ⟨w.heap.size, 7, none⟩ (.int .u8 5)) [ownT 5 (.slice (some ⟨w.heap.size, 0, none⟩) 128 128) (ub Wl.fiver)]) := (by rw [fiver_cells] at H2; exact H2); clear H1 H2 ow gr hgx)
 have o := wl_based H3.out 0 rfl
 have hl : (ub Wl.fiver).length = 128 := by rw [ub_length, Wl.fiver_len]
 rw [hl] at o
 have F : Hid (Chg [] w (w2.setCell ⟨w.heap.size, 7, none⟩ (.int .u8 5))) := H3.out.chg
 replace o := Lib.hid o
 clear H3 hl
 go_wp2_with fail
 go_ret
 exact ⟨_, _, rfl, o, F⟩

def pt5 (v : Value) : PtD := ⟨1, 2, v, ints Wl.fiver⟩

theorem pd_pt5 (v : Value) : [pt5 v].map pdOf = [Wl.p5] := by
 rw [List.map_singleton]
 unfold pdOf pt5 Wl.p5
 dsimp only
 rw [nats_ints]
 rfl

theorem scErr_pt5 (v : Value) : scErr 1 1 [pt5 v] = 0 := by
 have h1 : farP (pt5 v) = false := decide_eq_false (by show ¬ ((1 : Int) < 0 ∨ 15 < (1 : Int) ∨ (2 : Int) < 0 ∨ 4095 < (2 : Int)); decide)
 have h2 : shortP (pt5 v) = false := by
  unfold shortP pt5
  dsimp only
  rw [ints_length, Wl.fiver_len]
  decide
 have h3 : ¬ farN 1 1 := by unfold farN; decide
 unfold scErr
 rw [if_pos ⟨Nat.le_refl 1, by show 1 ≤ 1023; decide⟩, if_neg (by
  intro q
  rcases q with q | q
  ·exact h3 q
  ·simp [h1] at q), if_neg (by simp [h2])]

/-- What 'known' finds. -/
theorem kn_opnd (KN : Wl.Kn) {w w' : World} {b : Nat} {ts : List Thing} {e : Ending} (h : Opnd w b Wl.ky4 0 10 ts e w') : ∃ W D R F lv dv tv, e = .returned (.tuple #[.pointer (some ⟨W, 0, none⟩), tv, .int .u16 0]) ∧
 Hid (Side w w' (jts b W D R (Wl.begun 0 10 Wl.ck1 3 2) (.slice none 0 0) Wl.kr.1.1 F (wideT 2 92 tv [[.int .u64 1, lv]] :: poolWT 3 105 [(lv, [pvSlot (Wl.p5, dv)])] :: poolT [(dv, ub Wl.fiver)] :: ts))) := by
 have hv := KN.v1
 obtain ⟨c1, c2⟩ := Wl.ck1_enc
 rcases h with ⟨hno, _⟩ | ⟨n, hn, _, _, ⟨hno, _⟩ | ⟨_, hno, _⟩ | ⟨_, _, _, ⟨hno, _⟩ | ⟨_, W, D, R, tv, T, u, F, hD, he, H⟩⟩⟩
 ·exact absurd ⟨by decide, by decide⟩ hno
 ·exact absurd KN.r1 hno
 ·rw [hv, c1, c2] at hno
  obtain rfl : n = 10 := by omega
  rcases hno with q | q
  ·exact absurd rfl q
  ·exact absurd q (by decide)
 ·obtain rfl : n = 10 := by omega
  exact absurd KN.r2 hno
 ·obtain rfl : n = 10 := by omega
  rw [hv, c2] at hD H
  obtain ⟨hT, hu⟩ := KN.done _ _ hD
  subst hu
  have hl1 : T.length = 1 := by have := congrArg List.length hT; rw [found_len] at this; exact this
  obtain ⟨lv, A, rfl⟩ : ∃ lv A, T = [(lv, A)] := by
   match T, hl1 with
   | [(lv, A)], _ => exact ⟨lv, A, rfl⟩
  have hA : dOf A = [Wl.p5] := by
   have : [dOf A] = [[Wl.p5]] := hT
   simpa using this
  have hl2 : A.length = 1 := by have := congrArg List.length hA; unfold dOf at this; rw [List.length_map] at this; exact this
  obtain ⟨pd, dv, rfl⟩ : ∃ pd dv, A = [(pd, dv)] := by
   match A, hl2 with
   | [(pd, dv)], _ => exact ⟨pd, dv, rfl⟩
  obtain rfl : pd = Wl.p5 := by
   have : [pd] = [Wl.p5] := hA
   simpa using this
  exact ⟨W, D, R, F, lv, dv, tv, he, H⟩

/-- What a loaded list of batches shows. -/
theorem kn_cells {w w' : World} {b W D R : Nat} {J : Wl.Jn} {y : Bay} {F : List Nat} {lv dv tv : Value} {ts : List Thing} (H : Side w w' (jts b W D R J (.slice none 0 0) y F (wideT 2 92 tv [[.int .u64 1, lv]] :: poolWT 3 105 [(lv, [pvSlot (Wl.p5, dv)])] :: poolT [(dv, ub Wl.fiver)] :: ts))) :
 ∃ g1 k1 g2 k2 dO dC, tv = .slice (some ⟨g1, 0, none⟩) 1 k1 ∧ lv = .slice (some ⟨g2, 0, none⟩) 1 k2 ∧ dv = .slice dO 128 dC ∧ w'.cell? ⟨g1, 0, none⟩ = some (.int .u64 1) ∧ w'.cell? ⟨g1, 1, none⟩ = some lv ∧ w'.cell? ⟨g2, 1, none⟩ = some (.int .i64 2) ∧ w'.cell? ⟨g2, 2, none⟩ = some dv ∧ Hid (Sl w' dv (ints Wl.fiver)) := by
 have o1 : OwnW 2 w' 0 92 tv [[.int .u64 1, lv]] := H.get 5 rfl
 have o2 : PoolW 3 w' 105 [(lv, [pvSlot (Wl.p5, dv)])] := H.get 6 rfl
 have o3 : Pool w' [(dv, ub Wl.fiver)] := H.get 7 rfl
 obtain ⟨ty, o4⟩ := o3.row _ List.mem_cons_self
 have o5 := o2.row _ List.mem_cons_self
 have hl : (ub Wl.fiver).length = 128 := by rw [ub_length, Wl.fiver_len]
 rw [hl] at o4
 have sl : Sl w' dv (ints Wl.fiver) := Sl.owned o4
 obtain ⟨dO, dC, hdv⟩ := owns_slice o4
 rcases o1.2.2 with h1 | ⟨g1, k1, cur1, hv1, _⟩
 ·simp at h1
 rcases o5.2.2 with h1 | ⟨g2, k2, cur2, hv2, _⟩
 ·simp at h1
 have a1 := World.ownsRow.cells o1.2 (g := g1) (by rw [hv1]; rfl) 0 (.int .u64 1) rfl
 have a2 := World.ownsRow.cells o1.2 (g := g1) (by rw [hv1]; rfl) 1 lv rfl
 have b1 := World.ownsRow.cells o5.2 (g := g2) (by rw [hv2]; rfl) 1 (.int .i64 2) rfl
 have b2 := World.ownsRow.cells o5.2 (g := g2) (by rw [hv2]; rfl) 2 dv rfl
 rw [Addr.add_lit] at a1 a2 b1 b2
 exact ⟨g1, k1, g2, k2, dO, dC, hv1, hv2, hdv, a1, a2, b1, b2, sl⟩

def knStartsAt (n : Nat) : Code → Bool
 | .region id _ _ => id == n
 | .seq a _ => knStartsAt n a
 | _ => false

/-- The code from a region on, to the end of its list. -/
def knCodeFrom (n : Nat) : Code → Option Code
 | .seq a b => if knStartsAt n a then some (.seq a b) else match knCodeFrom n a with
   | some x => some x
   | none => knCodeFrom n b
 | .block _ c => knCodeFrom n c
 | .loop c => knCodeFrom n c
 | .scope c => knCodeFrom n c
 | .cond _ a b => match knCodeFrom n a with
   | some x => some x
   | none => knCodeFrom n b
 | _ => none

noncomputable def knownRest : Code := (Tryz.f14.body.bind (knCodeFrom 10)).getD .skip

set_option maxHeartbeats 40000000 in
set_option maxRecDepth 10000000 in
theorem known_rest {co : Code} (hco : knownRest = co) (w w7 : World) (b : Nat) (ts6 : List Thing) (l0 l2 l3 l4 l7 l8 l9 l10 l11 l12 l13 l14 l15 l16 l17 l18 l19 l20 l21 l22 l23 l24 l25 l26 l27 l28 l29 l30 l31 l32 l33 l34 l35 l36 l37 l38 l39 l40 l41 l42 l43 l44 l45 l46 l47 l48 l49 l50 l51 l52 l53 l54 l55 l56 l57 l58 l59 l60 l61 l62 l63 l64 l65 l66 l67 l68 l69 l70 l71 l72 l73 l74 l75 l76 l77 l78 l79 l80 l81 l82 l83 l84 l85 l86 l87 l88 l89 l90 l91 l92 l93 l94 l95 l96 l97 l98 l99 l100 l101 l102 l103 l104 l105 l106 l107 l108 l109 l110 l111 l112 l113 l114 l115 l116 l117 l118 l119 : Value)
 (OP : Hid (Calls Tryz.prog 40 #[.pointer (some ⟨b, 0, none⟩), .int .i64 0, .int .i64 10] w7 (Opnd w b Wl.ky4 0 10 ts6))) :
 Code.wp Tryz.prog co (bodyPost Tryz.prog Tryz.f14 (fun e w' => e = .returned (.bool true) ∧ Hid (Chg [] w w'))) ⟨#[l0, .pointer (some ⟨b, 0, none⟩), l2, l3, l4, .int .u16 0, .int .u16 0, l7, l8, l9, l10, l11, l12, l13, l14, l15, l16, l17, l18, l19, l20, l21, l22, l23, l24, l25, l26, l27, l28, l29, l30, l31, l32, l33, l34, l35, l36, l37, l38, l39, l40, l41, l42, l43, l44, l45, l46, l47, l48, l49, l50, l51, l52, l53, l54, l55, l56, l57, l58, l59, l60, l61, l62, l63, l64, l65, l66, l67, l68, l69, l70, l71, l72, l73, l74, l75, l76, l77, l78, l79, l80, l81, l82, l83, l84, l85, l86, l87, l88, l89, l90, l91, l92, l93, l94, l95, l96, l97, l98, l99, l100, l101, l102, l103, l104, l105, l106, l107, l108, l109, l110, l111, l112, l113, l114, l115, l116, l117, l118, l119], []⟩ w7 := by
 subst hco
 conv => arg 2; whnf
 go_wp2_with (go_at_call 40; refine OP.out.mono ?_; intro e w8 hop; obtain ⟨W8, D8, R8, F8, lv, dv, tv, rfl, H⟩ := kn_opnd Wl.kn hop; clear OP hop; obtain ⟨g1, k1, g2, k2, dO, dC, rfl, rfl, rfl, a1, a2, b1, b2, sl⟩ := kn_cells H.out)
 have CW : Hid (Chg [] w w8) := H.out.chg
 have NX : Hid (∀ m, Calls Tryz.prog 43 #[.pointer (some ⟨W8, 0, none⟩)] (w8.drewN m) (Still (w8.drewN m) (.int .u64 2))) := fun m => wnext_any (J := Wl.begun 0 10 Wl.ck1 3 2) (D := D8) (R := R8) (cv := .slice none 0 0) ((H.out.quiet ((Chg.refl [] w8).drewN m)).get 2 rfl)
 have US : Hid (∀ m, Calls Tryz.prog 35 #[.pointer (some ⟨W8, 0, none⟩)] (w8.drewN m) (Still (w8.drewN m) (.int .i64 3))) := fun m => wused_any (J := Wl.begun 0 10 Wl.ck1 3 2) (D := D8) (R := R8) (cv := .slice none 0 0) ((H.out.quiet ((Chg.refl [] w8).drewN m)).get 2 rfl) ((H.out.quiet ((Chg.refl [] w8).drewN m)).get 3 rfl) ⟨by decide, by decide, by decide, by decide⟩
 have KA : Hid (∀ X, Chg [] w8 X → (X.cell? ⟨g1, 0, none⟩ = some (.int .u64 1) ∧ X.cell? ⟨g1, 1, none⟩ = some (.slice (some ⟨g2, 0, none⟩) 1 k2)) ∧ X.cell? ⟨g2, 1, none⟩ = some (.int .i64 2) ∧ X.cell? ⟨g2, 2, none⟩ = some (.slice dO 128 dC)) := fun X C =>
  ⟨⟨(C.cell (p := ⟨g1, 0, none⟩) (World.block_lt_of_cell? w8 _ a1) (by simp)).trans a1, (C.cell (p := ⟨g1, 1, none⟩) (World.block_lt_of_cell? w8 _ a2) (by simp)).trans a2⟩, (C.cell (p := ⟨g2, 1, none⟩) (World.block_lt_of_cell? w8 _ b1) (by simp)).trans b1, (C.cell (p := ⟨g2, 2, none⟩) (World.block_lt_of_cell? w8 _ b2) (by simp)).trans b2⟩
 have SE : Hid (∀ X, Calls Tryz.prog 49 #[.int .u8 5] X fun e w' => ∃ vo vc, e = .returned (.slice vo 128 vc) ∧ Hid (w'.ownsRow X.heap.size 5 1 (.slice vo 128 vc) 128 (ub Wl.fiver)) ∧ Hid (Chg [] X w')) := fun X => wsector_any X
 have SB : Hid (∀ X w9 vo vc, Chg [] w8 X → w9.ownsRow X.heap.size 5 1 (.slice vo 128 vc) 128 (ub Wl.fiver) → Chg [] X w9 → ∀ m, Calls Tryz.prog 47 #[.slice dO 128 dC, .slice vo 128 vc] (w9.drewN m) fun e w' => e = .returned (.bool true) ∧ ∃ q, w' = (w9.drewN m).drewN q) := fun X w9 vo vc C1 O C2 m =>
  same_true _ _ (ints Wl.fiver) _ (sl.out.chgNil ((C1.trans C2).drewN m)) ((Sl.owned O).chgNil ((Chg.refl _ _).drewN m)) (by rw [ints_length, Wl.fiver_len]; decide)
 have SBZ : Hid (∀ X w9 vo vc, Chg [] w8 X → w9.ownsRow X.heap.size 5 1 (.slice vo 128 vc) 128 (ub Wl.fiver) → Chg [] X w9 → Calls Tryz.prog 47 #[.slice dO 128 dC, .slice vo 128 vc] w9 fun e w' => e = .returned (.bool true) ∧ ∃ q, w' = w9.drewN q) := fun X w9 vo vc C1 O C2 =>
  same_true _ _ (ints Wl.fiver) _ (sl.out.chgNil (C1.trans C2)) (Sl.owned O) (by rw [ints_length, Wl.fiver_len]; decide)
 have KD : Hid (∀ m, ((w8.drewN m).cell? ⟨g1, 0, none⟩ = some (.int .u64 1) ∧ (w8.drewN m).cell? ⟨g1, 1, none⟩ = some (.slice (some ⟨g2, 0, none⟩) 1 k2)) ∧ (w8.drewN m).cell? ⟨g2, 1, none⟩ = some (.int .i64 2) ∧ (w8.drewN m).cell? ⟨g2, 2, none⟩ = some (.slice dO 128 dC)) := fun m => KA.out _ ((Chg.refl _ _).drewN m)
 clear H sl
 simp only [List.append_eq, List.cons_append, List.nil_append]
 go_region_held3 (fun w' : World => (w'.cell? ⟨g1, 0, none⟩ = some (.int .u64 1) ∧ w'.cell? ⟨g1, 1, none⟩ = some (.slice (some ⟨g2, 0, none⟩) 1 k2)) ∧ w'.cell? ⟨g2, 1, none⟩ = some (.int .i64 2) ∧ w'.cell? ⟨g2, 2, none⟩ = some (.slice dO 128 dC)) (first | exact ⟨⟨a1, a2⟩, b1, b2⟩ | exact KD.out _ | exact K9.out _ | exact K10.out) (first
  | (go_at_call 43; refine (NX.out _).mono ?_; rintro e w1 ⟨rfl, q, rfl⟩)
  | (go_at_call 35; refine (US.out _).mono ?_; rintro e w1 ⟨rfl, q, rfl⟩)
  | (go_at_call 49; refine (SE.out _).mono ?_; rintro e w9 ⟨vo, vc, rfl, O9, C9⟩; have C8 := Lib.hid ((Chg.refl [] w8).drewN _ |>.trans C9.out); have K9 := Lib.hid (fun m => KA.out (w9.drewN m) (C8.out.drewN m)); have K10 := Lib.hid (KA.out w9 C8.out); have SB9 := Lib.hid (SB.out _ w9 vo vc ((Chg.refl [] w8).drewN _) O9.out C9.out); have SB0 := Lib.hid (SBZ.out _ w9 vo vc ((Chg.refl [] w8).drewN _) O9.out C9.out))
  | (go_at_call 47; refine SB0.out.mono ?_; rintro e w1 ⟨rfl, q, rfl⟩)
  | (go_at_call 47; refine (SB9.out _).mono ?_; rintro e w1 ⟨rfl, q, rfl⟩))
 all_goals (have CF := Lib.hid ((CW.out.trans C8.out).drewN q); clear K9 K10 SB9 SB0 C8 C9 O9 NX US SE SB SBZ KA KD; go_wp2_with fail; go_ret; exact ⟨rfl, CF⟩)

end Go.Proofs.YtkafkdlgflkjgaaGreat

/-
  'known' of the journal. By an AI agent.
-/
namespace Go.Proofs.YtkafkdlgflkjgaaGreat
open Go.RowKit Go.Maps Crc

set_option maxHeartbeats 40000000 in
set_option maxRecDepth 10000000 in
theorem wknown_any (w : World) : Calls Tryz.prog 14 #[] w fun e w' => e = .returned (.bool true) ∧ Hid (Chg [] w w') := by
 have CA : Hid (Chg [] w (w.alloc (.cells #[.int .i64 12] 3))) := (Chg.refl _ _).alloc _
 have BX := Blk.made w [.int .i64 12] 3
 have NW := Lib.hid (bnew_any (.slice (some ⟨w.heap.size, 0, none⟩) 1 1) [12] (w.alloc (.cells #[.int .i64 12] 3)) (.inr ⟨_, 0, 1, rfl, BX.lt, fun j u hj => by rw [Nat.zero_add]; exact BX.cell hj⟩) (by unfold Is; decide) (by decide))
 have KN : Hid Wl.Kn := Wl.kn
 have ncnt := neq_cnt
 clear BX
 go_enter Tryz.func14, Tryz.ntmps14
 go_wp2_with fail
 refine NW.out.mono ?_
 rintro e w1 (⟨hno, _⟩ | ⟨_, b, F, rfl, D, N, C⟩)
 ·exact absurd (by decide +kernel) hno
 have H : Hid (Side w w1 [BayT b Wl.ky0 F]) := (Side.nil CA.out).add C.out D.out (fun k hk => by have := N.out k hk; simp at this; simp; omega)
 clear NW CA D N C
 have FM := Lib.hid (wformat_any H.out 0 10 ⟨by decide, by decide⟩ ⟨by decide, by decide⟩ 1 (by decide) ((Bay.new_low [12]).mono (by decide)))
 clear H
 go_wp2_with fail
 refine FM.out.mono ?_
 rintro e w2 (⟨hno, _⟩ | ⟨_, n, hn, _, _, ⟨hno, _⟩ | ⟨_, W, D, R, F2, rfl, H⟩⟩)
 ·exact absurd ⟨by decide, by decide, by decide⟩ hno
 ·obtain rfl : n = 10 := by omega
  exact absurd KN.out.f0 hno
 obtain rfl : n = 10 := by omega
 replace H : Hid (Side w w2 (jts b W D R Wl.kJ (.slice none 0 0) Wl.kf.1 F2 [])) := H
 have CN := Lib.hid (bcounts_any b F2 Wl.kf.1 w2 (H.out.get 0 rfl))
 rw [KN.out.cnt.1, KN.out.cnt.2.1, KN.out.cnt.2.2] at CN
 clear FM
 go_wp2_with fail
 refine CN.out.mono ?_
 rintro e w3 ⟨rfl, C3⟩
 replace H : Hid (Side w w3 (jts b W D R Wl.kJ (.slice none 0 0) Wl.kf.1 F2 [])) := H.out.quiet C3.out
 clear CN C3
 have SE := Lib.hid (wsector_any w3)
 go_wp2_with (go_at_call 49; refine SE.out.mono ?_; rintro e w4 ⟨vo, vc, rfl, O4, C4⟩)
 have sl : Hid (Sl w4 (.slice vo 128 vc) (ints Wl.fiver)) := Sl.owned O4.out
 replace H : Hid (Side w w4 (ownT 5 (.slice vo 128 vc) (ub Wl.fiver) :: jts b W D R Wl.kJ (.slice none 0 0) Wl.kf.1 F2 [])) := H.out.own O4.out C4.out
 have PT : Hid (Pts (w4.alloc (.cells #[.int .i64 1, .int .i64 2, .slice vo 128 vc] 105)) (.slice (some ⟨w4.heap.size, 0, none⟩) 1 1) [pt5 (.slice vo 128 vc)]) := Pts.one w4 (pt5 (.slice vo 128 vc)) 105 sl.out (by show (ints Wl.fiver).length ≤ _; rw [ints_length, Wl.fiver_len]; decide)
 have LG := Lib.hid (wlog_any ((H.out.quiet ((Chg.refl [] w4).alloc (.cells #[.int .i64 1, .int .i64 2, .slice vo 128 vc] 105))).tuck) KN.out.fitJ ⟨by decide, by decide⟩ (KN.out.low1.mono (by decide)) _ _ PT.out (fun d hd => by
  rw [List.mem_singleton.1 hd]
  exact ⟨ints_by Wl.fiver_bs, owned_capd O4.out⟩))
 rw [show scErr Wl.kJ.ep Wl.kJ.next [pt5 (.slice vo 128 vc)] = 0 from scErr_pt5 _, pd_pt5] at LG
 replace LG : Hid (Calls Tryz.prog 30 #[.pointer (some ⟨W, 0, none⟩), .slice (some ⟨w4.heap.size, 0, none⟩) 1 1] (w4.alloc (.cells #[.int .i64 1, .int .i64 2, .slice vo 128 vc] 105)) fun e w' => e = .returned (.int .u16 0) ∧ ∃ F' cv, Hid (Side w w' (jts b W D R Wl.ko1.jn cv Wl.ko1.bay F' [ownT 5 (.slice vo 128 vc) (ub Wl.fiver)]))) := by
  refine LG.out.mono ?_
  rintro e w' ⟨h1, F', cv, h2⟩
  have h3 : e = .returned (.int .u16 Wl.ko1.err) := h1
  rw [KN.out.e1] at h3
  exact ⟨h3, F', cv, h2⟩
 have hs1 : Wl.ko1.jn.slot = 0 := by rw [KN.out.j1]; rfl
 have SLF : Hid (∀ w5 F' cv, Side w w5 (jts b W D R Wl.ko1.jn cv Wl.ko1.bay F' [ownT 5 (.slice vo 128 vc) (ub Wl.fiver)]) → Calls Tryz.prog 31 #[.pointer (some ⟨W, 0, none⟩)] w5 fun e w' => e = .returned (.int .u16 0) ∧ ∃ F2 ts, Hid (Side w w' (BayT b Wl.ko2.bay F2 :: ts))) := fun w5 F' cv h => by
  refine (wseal_any h KN.out.fit1 (by rw [hs1]; exact ⟨by decide, by decide⟩) (KN.out.low2.mono (by decide))).mono ?_
  rintro e w' ⟨h1, F', h2⟩
  have h3 : e = .returned (.int .u16 Wl.ko2.err) := h1
  rw [KN.out.e2] at h3
  exact ⟨h3, F', _, h2⟩
 clear sl O4 C4 SE PT H hs1
 go_upto_region 9 with (first
  | (go_at_call 30; refine LG.out.mono ?_; rintro e w5 ⟨rfl, F3, cv, h5⟩; have SEL := Lib.hid (SLF.out _ _ _ h5.out); clear LG SLF h5)
  | (go_at_call 31; refine SEL.out.mono ?_; rintro e w6 ⟨rfl, F4, ts6, H⟩; clear SEL))
 have HB := Lib.hid (H.out.quiet (((Chg.refl [] w6).alloc (.cells #[.bool true] 4)).alloc (.cells #[.slice (some ⟨w6.heap.size, 0, none⟩) 1 1] 59)))
 have z1 : (w6.alloc (.cells #[.bool true] 4)).heap.size = w6.heap.size + 1 := by simp
 have X1 : Blk ((w6.alloc (.cells #[.bool true] 4)).alloc (.cells #[.slice (some ⟨w6.heap.size, 0, none⟩) 1 1] 59)) w6.heap.size 4 [.bool true] := (Blk.made w6 [.bool true] _).alloc _
 have X2 : Blk ((w6.alloc (.cells #[.bool true] 4)).alloc (.cells #[.slice (some ⟨w6.heap.size, 0, none⟩) 1 1] 59)) (w6.heap.size + 1) 59 [.slice (some ⟨w6.heap.size, 0, none⟩) 1 1] := by
  have := Blk.made (w6.alloc (.cells #[.bool true] 4)) [.slice (some ⟨w6.heap.size, 0, none⟩) 1 1] 59
  rw [z1] at this
  exact this
 have hF4 : ∀ j ∈ F4, j < w6.heap.size := (H.out.get 0 rfl : BayIn w6 b F4 _).lt
 have hcl : Bay.Clean Wl.ko2.bay := (H.out.get 0 rfl : BayIn w6 b F4 _).fit.clean
 have CT := Lib.hid (bcut_any b F4 Wl.ko2.bay _ (HB.out.get 0 rfl) (.slice (some ⟨w6.heap.size + 1, 0, none⟩) 1 1) [⟨.slice (some ⟨w6.heap.size, 0, none⟩) 1 1, [true]⟩]
  (.inr ⟨_, 0, 1, rfl, X2.lt, by show (1 : Nat) ≤ 140737488355328; decide, fun i d hd => by
   have hi : i = 0 := by have := (List.getElem?_eq_some_iff.1 hd).1; simp at this; omega
   subst hi
   obtain rfl := Option.some.inj hd
   exact ⟨X2.cell (j := 0) rfl, .inr ⟨_, 0, 1, rfl, X1.lt, fun j u hj => by rw [Nat.zero_add]; exact X1.cell hj⟩, by show (1 : Nat) ≤ 140737488355328; decide⟩⟩)
  (fun _ k hk => by
   obtain rfl : w6.heap.size + 1 = k := Option.some.inj hk
   exact ⟨fun hm => by have := hF4 _ hm; omega, X2.lt⟩)
  (fun d hd _ k hk => by
   rw [List.mem_singleton.1 hd] at hk
   obtain rfl : w6.heap.size = k := Option.some.inj hk
   exact ⟨fun hm => by have := hF4 _ hm; omega, X1.lt⟩))
 have OPF : Hid (∀ w' , Turns ((w6.alloc (.cells #[.bool true] 4)).alloc (.cells #[.slice (some ⟨w6.heap.size, 0, none⟩) 1 1] 59)) F4 (BayT b (Wl.ko2.bay.cut [[true]])) w' → Calls Tryz.prog 40 #[.pointer (some ⟨b, 0, none⟩), .int .i64 0, .int .i64 10] w' (Opnd w b Wl.ky4 0 10 ts6)) := fun w' t => by
  obtain ⟨F5, h⟩ := HB.out.act 0 rfl t
  have h' : Side w w' (BayT b Wl.ky4 F5 :: ts6) := h
  exact wopen_any h' 0 10 ⟨by decide, by decide⟩ ⟨by decide, by decide⟩ ((Bay.Low.cut KN.out.low3 hcl [[true]]).mono (by decide))
 clear H HB X1 X2 hF4 hcl z1
 go_cut [48] from 45 to 48 (fun _ wx => Hid (Calls Tryz.prog 40 #[.pointer (some ⟨b, 0, none⟩), .int .i64 0, .int .i64 10] wx (Opnd w b Wl.ky4 0 10 ts6)))
 case first =>
  go_wp2_with (go_at_call 19; refine CT.out.mono ?_; rintro e w7 ⟨rfl, t7⟩; have OP := Lib.hid (OPF.out _ t7.out); clear CT OPF t7)
  go_meet
  exact OP
 case rest =>
  rename_i K1 hK1
  refine hK1 _ _ ?_
  exact known_rest (by kernel_rfl) w wc b ts6 _ _ _ _ _ _ _ _ _ _ _ _ _ _ _ _ _ _ _ _ _ _ _ _ _ _ _ _ _ _ _ _ _ _ _ _ _ _ _ _ _ _ _ _ _ _ _ _ _ _ _ _ _ _ _ _ _ _ _ _ _ _ _ _ _ _ _ _ _ _ _ _ _ _ _ _ _ _ _ _ _ _ _ _ _ _ _ _ _ _ _ _ _ _ _ _ _ _ _ _ _ _ _ _ _ _ _ _ _ _ _ _ _ _ _ _ _ hcut

end Go.Proofs.YtkafkdlgflkjgaaGreat
