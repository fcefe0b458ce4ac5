/-
  Escape and Unescape, the program's. By an AI agent.
-/
import Derived.Test.YtnkdgmnmmmjgjaaGreatBRcGen
import Derived.Test.YtnkdgmnmmmjgjaaGreatBClone
import Derived.Lib.BufferWrite
namespace Go.Proofs.YtnkdgmnmmmjgjaaGreat
open Go.RowKit Crc

def RcOwn (w : World) (base : Nat) (v : Value) (l : List Nat) : Prop := w.ownsRow base 5 1 v l.length ((ints l).map (Value.int .u8))

def EscIs (k : IntKind) (w : World) (b : List Nat) (e : Ending) (w' : World) : Prop := ∃ v, e = .returned (.tuple #[v, .bool (escB b), .int k (escE b)]) ∧ Hid (RcOwn w' w.heap.size v (escV b)) ∧ Hid (Chg [] w w')

def UneIs (k : IntKind) (w : World) (b : List Nat) (es : Bool) (e : Ending) (w' : World) : Prop := ∃ v, e = .returned (.tuple #[v, .int k (uneE b es)]) ∧ Hid (RcOwn w' w.heap.size v (uneV b es)) ∧ Hid (Chg [] w w')

set_option maxRecDepth 100000 in
/-- copy from a constant string into bytes that the call owns. -/
theorem run_copy_own_str (w : World) (base n : Nat) (v : Value) (xs : List Int) (ty : TypeId) (O : w.ownsRow base 5 1 v n (xs.map (Value.int .u8))) (S : ByteArray) (ts : List Int) (ht : Lib.byteCells S.data.toList = ts.map (Value.int .u8)) (hs : S.size = ts.length) (hl : ts.length ≤ n) (hn : xs.length = n) (hp : 0 < n) :
    ∃ w', (Builtin.copy_ #[55, 9] ty #[v, .string S]).run Tryz.prog w = .ok (goInt S.size) w' ∧ w'.ownsRow base 5 1 v n ((ts ++ xs.drop ts.length).map (Value.int .u8)) ∧ ∀ k, v.ownBlock = some k → Chg [k] w w' := by
  rcases O.2 with ⟨_, h0⟩ | ⟨g, cap, cur, hv, hb, hg, h1, h2, h3, h4⟩
  · omega
  subst hv
  have hr := Lib.run_copy_row_string (P := Tryz.prog) w 55 9 ty 5 g 0 n cap S cur 5 Tryz.underlying55 (by kernel_rfl) hg (by omega) (by omega)
  refine ⟨_, hr, ⟨?_, .inr ⟨g, cap, _, rfl, hb, setRow_heap w g cur _ _ (0, 0) hg, h1, h2, ?_, ?_⟩⟩, fun k hk => ?_⟩
  · have := O.1
    simp at this ⊢
    omega
  · simp [ht]
    have : cur.toList.length = cur.size := by simp
    omega
  · rw [ht, show S.size = ts.length from hs]
    have hx : cur.toList.take n = xs.map (Value.int .u8) := by simpa using h4
    simp only [List.take_zero, List.nil_append, Nat.zero_add]
    have e2 : cur.toList.drop ts.length = (xs.map (Value.int .u8)).drop ts.length ++ cur.toList.drop n := by
      rw [← hx, List.drop_take]
      conv => lhs; rw [← List.take_append_drop (n - ts.length) (cur.toList.drop ts.length), List.drop_drop]
      congr 2
      omega
    rw [e2, ← List.append_assoc, List.map_append, List.map_drop]
    exact List.take_left' (by rw [List.length_append, List.length_map, List.length_drop, List.length_map]; omega)
  · obtain rfl : g = k := by simpa [Value.ownBlock] using hk
    exact ⟨rfl, rfl, rfl, by simp [World.setRow], fun k _ hk => setRow_other w g k _ (by simpa using hk)⟩

theorem zeros_str : strOfNums (ints (List.replicate 4 0)) = ⟨#[0, 0, 0, 0]⟩ := by kernel_rfl

theorem zeros_bs : Bs (List.replicate 4 0) := fun x hx => by rw [(List.mem_replicate.1 hx).2]; decide

theorem zeros_cells : Lib.byteCells (⟨#[0, 0, 0, 0]⟩ : ByteArray).data.toList = (ints (List.replicate 4 0)).map (Value.int .u8) := by kernel_rfl

theorem magic_cells : Lib.byteCells (⟨#[83, 80, 74, 76]⟩ : ByteArray).data.toList = (ints magicB).map (Value.int .u8) := by kernel_rfl

theorem patched (m b : List Nat) (hm : m.length = 4) : (ints m ++ (ints b).drop (ints m).length) = ints (m ++ b.drop 4) := by
  rw [ints_length, hm]
  simp [ints]

set_option maxHeartbeats 2000000 in
set_option maxRecDepth 100000 in
theorem escape_any (v : Value) (b : List Nat) (w : World) (h : Sl w v (ints b)) (hbs : Bs b) (hbig : b.length ≤ 1000000) (hcap : ∀ ao n c, v = .slice ao n c → n ≤ c) :
    Calls Tryz.prog 23 #[v] w (EscIs .u16 w b) := by
  unfold EscIs
  by_cases hl : b.length = 128
  case neg =>
    have d1 : escV b = [] := by unfold escV; rw [if_neg hl]
    have d2 : escB b = false := by unfold escB; rw [decide_eq_false hl]; rfl
    have d3 : escE b = 4 := by unfold escE; rw [if_neg hl]
    rw [d1, d2, d3]
    obtain ⟨ao, c, rfl⟩ := h.slice
    rw [ints_length]
    have d : ((b.length : Int) != 128) = true := by simpa using show ¬ (b.length : Int) = 128 by omega
    clear h d1 d2 d3
    go_enter Tryz.func23, Tryz.ntmps23
    go_wp2_with fail
    go_ret3
    exact ⟨_, rfl, World.ownsRow_nil _ _ _ _, Chg.refl _ _⟩
  have d1 : escV b = if begOf b magicB = true then List.replicate 4 0 ++ b.drop 4 else b := by unfold escV; rw [if_pos hl]
  have d2 : escB b = begOf b magicB := by unfold escB; rw [decide_eq_true hl]; rfl
  have d3 : escE b = 0 := by unfold escE; rw [if_pos hl]
  rw [d1, d2, d3]
  clear d1 d2 d3
  have L : (ints b).length = 128 := by rw [ints_length, hl]
  have B := Lib.hid (fun W (C : Chg [] w W) => begins_any v b magicB ⟨#[83, 80, 74, 76]⟩ magic_str rfl magic_bs W (h.chg C (by simp)) hbs (by omega) hcap)
  have CL := Lib.hid (clone_any v (ints b) w h (by rw [ints_length]; omega))
  unfold Cloned at CL
  rw [L] at CL
  obtain ⟨ao, c, rfl⟩ := h.slice
  rw [L] at B CL ⊢
  have hPT := Lib.hid (patched (List.replicate 4 0) b rfl)
  have hld : Hid ((List.replicate 4 0 ++ b.drop 4).length = 128) := by show _ = _; rw [List.length_append, List.length_drop, List.length_replicate, hl]
  replace hl := Lib.hid hl
  replace L := Lib.hid L
  clear h hbs hcap
  rcases hm : begOf b magicB with _ | _
  all_goals rw [hm] at B
  all_goals clear hm
  case false =>
    go_enter Tryz.func23, Tryz.ntmps23
    go_wp2_with fail
    refine CL.out.mono ?_
    rintro e w1 ⟨u, rfl, O, C⟩
    replace O := Lib.hid O
    replace C := Lib.hid C
    clear CL
    go_wp2_with fail
    refine (B.out _ C.out).mono ?_
    rintro e w2 ⟨rfl, rfl⟩
    clear B
    go_wp2_with fail
    go_ret3
    refine ⟨u, rfl, ?_, C⟩
    show World.ownsRow _ _ _ _ _ _ _
    rw [hl.out]
    exact O.out
  case true =>
    go_enter Tryz.func23, Tryz.ntmps23
    go_wp2_with fail
    refine CL.out.mono ?_
    rintro e w1 ⟨u, rfl, O, C⟩
    replace O := Lib.hid O
    replace C := Lib.hid C
    clear CL
    go_wp2_with fail
    refine (B.out _ C.out).mono ?_
    rintro e w2 ⟨rfl, rfl⟩
    clear B
    obtain ⟨uo, uc, rfl⟩ := owns_slice O.out
    have UL := Lib.hid (fun k hk => O.out.lt k hk)
    obtain ⟨w3, hr, O3, C3⟩ := run_copy_own_str w1 w.heap.size 128 _ _ 3 O.out ⟨#[0, 0, 0, 0]⟩ (ints (List.replicate 4 0)) zeros_cells rfl (by decide) L.out (by decide)
    replace O3 := Lib.hid O3
    replace C3 := Lib.hid C3
    go_wp2_with fail
    go_ret3
    refine ⟨_, rfl, ?_, ?_⟩
    · show World.ownsRow _ _ _ _ _ _ _
      have o := O3.out
      rw [hPT.out] at o
      have o2 : World.ownsRow w3 w.heap.size 5 1 (.slice uo 128 uc) (List.replicate 4 0 ++ b.drop 4).length ((ints (List.replicate 4 0 ++ b.drop 4)).map (Value.int .u8)) := by rw [hld.out]; exact o
      exact o2
    · rcases hk : (Value.slice uo 128 uc).ownBlock with _ | k
      · have : Hid (Chg [] w w3) := by
          have o1 := O3.out.2
          exfalso
          rcases o1 with ⟨o2, _⟩ | ⟨g, cap, cur, o2, _⟩
          · simp at o2
          · rw [o2] at hk; cases hk
        exact this
      · exact C.out.fresh (C3.out k hk) (fun j hj => .inr (by rw [List.mem_singleton.1 hj]; exact (UL.out k hk).1))

set_option maxHeartbeats 2000000 in
set_option maxRecDepth 100000 in
theorem unescape_any (v : Value) (b : List Nat) (es : Bool) (w : World) (h : Sl w v (ints b)) (hbs : Bs b) (hbig : b.length ≤ 1000000) (hcap : ∀ ao n c, v = .slice ao n c → n ≤ c) :
    Calls Tryz.prog 97 #[v, .bool es] w (UneIs .u16 w b es) := by
  unfold UneIs
  by_cases hl : b.length = 128
  case neg =>
    have d1 : uneV b es = [] := by unfold uneV; rw [if_neg hl]
    have d3 : uneE b es = 4 := by unfold uneE; rw [if_neg hl]
    rw [d1, d3]
    obtain ⟨ao, c, rfl⟩ := h.slice
    rw [ints_length]
    have d : ((b.length : Int) != 128) = true := by simpa using show ¬ (b.length : Int) = 128 by omega
    clear h d1 d3
    go_enter Tryz.func97, Tryz.ntmps97
    go_wp2_with fail
    go_ret2
    exact ⟨_, rfl, World.ownsRow_nil _ _ _ _, Chg.refl _ _⟩
  have L : (ints b).length = 128 := by rw [ints_length, hl]
  have B := Lib.hid (fun W (C : Chg [] w W) => begins_any v b magicB ⟨#[83, 80, 74, 76]⟩ magic_str rfl magic_bs W (h.chg C (by simp)) hbs (by omega) hcap)
  have Z := Lib.hid (fun W (C : Chg [] w W) => begins_any v b (List.replicate 4 0) ⟨#[0, 0, 0, 0]⟩ zeros_str rfl zeros_bs W (h.chg C (by simp)) hbs (by omega) hcap)
  have CL := Lib.hid (clone_any v (ints b) w h (by rw [ints_length]; omega))
  unfold Cloned at CL
  rw [L] at CL
  obtain ⟨ao, c, rfl⟩ := h.slice
  rw [L] at B Z CL ⊢
  have hPT := Lib.hid (patched magicB b rfl)
  have hld : Hid ((magicB ++ b.drop 4).length = 128) := by show _ = _; rw [List.length_append, List.length_drop, hl]; rfl
  have C0 : Hid (Chg [] w w) := Chg.refl _ _
  rcases es with _ | _
  · have d1 : uneV b false = if begOf b magicB = true then [] else b := by unfold uneV; rw [if_pos hl, if_neg (by decide)]
    have d3 : uneE b false = if begOf b magicB = true then 80 else 0 := by unfold uneE; rw [if_pos hl, if_neg (by decide)]
    rw [d1, d3]
    replace hl := Lib.hid hl
    replace L := Lib.hid L
    clear h hbs hcap d1 d3 Z
    rcases hm : begOf b magicB with _ | _
    all_goals rw [hm] at B
    all_goals clear hm
    case false =>
      go_enter Tryz.func97, Tryz.ntmps97
      go_wp2_with fail
      refine (B.out _ C0.out).mono ?_
      rintro e w2 ⟨rfl, rfl⟩
      clear B
      go_wp2_with fail
      refine CL.out.mono ?_
      rintro e w1 ⟨u, rfl, O, C⟩
      replace O := Lib.hid O
      replace C := Lib.hid C
      clear CL
      go_wp2_with fail
      go_ret2
      refine ⟨u, rfl, ?_, C⟩
      show World.ownsRow _ _ _ _ _ _ _
      rw [hl.out]
      exact O.out
    case true =>
      go_enter Tryz.func97, Tryz.ntmps97
      go_wp2_with fail
      refine (B.out _ C0.out).mono ?_
      rintro e w2 ⟨rfl, rfl⟩
      clear B
      go_wp2_with fail
      go_ret2
      exact ⟨_, rfl, World.ownsRow_nil _ _ _ _, Chg.refl _ _⟩
  · have d1 : uneV b true = if begOf b (List.replicate 4 0) = true then magicB ++ b.drop 4 else [] := by unfold uneV; rw [if_pos hl, if_pos rfl]
    have d3 : uneE b true = if begOf b (List.replicate 4 0) = true then 0 else 80 := by unfold uneE; rw [if_pos hl, if_pos rfl]
    rw [d1, d3]
    replace hl := Lib.hid hl
    replace L := Lib.hid L
    clear h hbs hcap d1 d3 B
    rcases hm : begOf b (List.replicate 4 0) with _ | _
    all_goals rw [hm] at Z
    all_goals clear hm
    case false =>
      go_enter Tryz.func97, Tryz.ntmps97
      go_wp2_with fail
      refine (Z.out _ C0.out).mono ?_
      rintro e w2 ⟨rfl, rfl⟩
      clear Z
      go_wp2_with fail
      go_ret2
      exact ⟨_, rfl, World.ownsRow_nil _ _ _ _, Chg.refl _ _⟩
    case true =>
      go_enter Tryz.func97, Tryz.ntmps97
      go_wp2_with fail
      refine (Z.out _ C0.out).mono ?_
      rintro e w2 ⟨rfl, rfl⟩
      clear Z
      go_wp2_with fail
      refine CL.out.mono ?_
      rintro e w1 ⟨u, rfl, O, C⟩
      replace O := Lib.hid O
      replace C := Lib.hid C
      clear CL
      obtain ⟨uo, uc, rfl⟩ := owns_slice O.out
      have UL := Lib.hid (fun k hk => O.out.lt k hk)
      obtain ⟨w3, hr, O3, C3⟩ := run_copy_own_str w1 w.heap.size 128 _ _ 3 O.out ⟨#[83, 80, 74, 76]⟩ (ints magicB) magic_cells rfl (by decide) L.out (by decide)
      replace O3 := Lib.hid O3
      replace C3 := Lib.hid C3
      go_wp2_with fail
      go_ret2
      refine ⟨_, rfl, ?_, ?_⟩
      · show World.ownsRow _ _ _ _ _ _ _
        have o := O3.out
        rw [hPT.out] at o
        have o2 : World.ownsRow w3 w.heap.size 5 1 (.slice uo 128 uc) (magicB ++ b.drop 4).length ((ints (magicB ++ b.drop 4)).map (Value.int .u8)) := by rw [hld.out]; exact o
        exact o2
      · rcases hk : (Value.slice uo 128 uc).ownBlock with _ | k
        · exfalso
          rcases O3.out.2 with ⟨o2, _⟩ | ⟨g, cap, cur, o2, _⟩
          · simp at o2
          · rw [o2] at hk; cases hk
        · exact C.out.fresh (C3.out k hk) (fun j hj => .inr (by rw [List.mem_singleton.1 hj]; exact (UL.out k hk).1))

/-- What an append of bytes that are read leaves. -/
theorem ext_of_sl {base : Nat} {w w' : World} {v v' : Value} {ys zs : List Nat} (own : w'.ownsRow base 5 1 v' (ys.length + (ints zs).length) ((ints ys).map (Value.int .u8) ++ (ints zs).map (Value.int .u8))) (hg : w.grownBy w' v.ownBlock)
    (hb : v'.ownBlock = v.ownBlock ∨ (v'.ownBlock = some w.heap.size ∧ w.grownBy w' none)) : Ext base w v (ys ++ zs) w' v' := by
  refine ⟨by rw [ints_app, List.map_append, List.length_append]; rw [ints_length] at own; exact own, (Chg.refl v.ownBlock.toList w).grown hg (fun k hk => .inl (by rw [hk]; simp)), ?_⟩
  rcases hb with e | ⟨e, _⟩
  · exact .inl e
  · exact .inr ⟨_, e, Nat.le_refl _⟩

theorem ext_owns {base : Nat} {w w' : World} {v : Value} {l : List Nat} (h : Ext base w (.slice none 0 0) l w' v) : RcOwn w' base v l ∧ Chg [] w w' := ⟨h.own, h.chg⟩

theorem sl_drop4 {w : World} {g o c : Nat} {b : List Nat} (h : Sl w (.slice (some ⟨g, o, none⟩) 128 c) (ints b)) (hl : b.length = 128) : Sl w (.slice (some ⟨g, o + 4, none⟩) 124 (c - 4)) (ints (b.drop 4)) := by
  rcases h with ⟨h0, _⟩ | ⟨g', o', c', hv, lb, hc⟩
  · have := congrArg List.length h0; rw [ints_length, hl] at this; cases this
  · obtain ⟨⟨rfl, rfl⟩, _, rfl⟩ : (g = g' ∧ o = o') ∧ _ ∧ c = c' := by simpa using hv
    refine .inr ⟨g, o + 4, c - 4, by rw [ints_length, List.length_drop, hl], lb, fun j hj => ?_⟩
    rw [ints_length, List.length_drop, hl] at hj
    rw [Nat.add_assoc, hc (4 + j) (by rw [ints_length]; omega), ints_get, ints_get]
    simp [List.getD]

theorem lit4 (w : World) (a0 a1 a2 a3 : Nat) : Sl (w.alloc (.cells #[.int .u8 (a0 : Int), .int .u8 (a1 : Int), .int .u8 (a2 : Int), .int .u8 (a3 : Int)] 5)) (.slice (some ⟨w.heap.size, 0, none⟩) 4 4) (ints [a0, a1, a2, a3]) := by
  refine .inr ⟨w.heap.size, 0, 4, rfl, by simp, fun j hj => ?_⟩
  have hj4 : j < 4 := hj
  obtain rfl | rfl | rfl | rfl : j = 0 ∨ j = 1 ∨ j = 2 ∨ j = 3 := by omega
  all_goals exact (Blk.made w [.int .u8 (a0 : Int), .int .u8 (a1 : Int), .int .u8 (a2 : Int), .int .u8 (a3 : Int)] _).cell rfl

end Go.Proofs.YtnkdgmnmmmjgjaaGreat
namespace Go.Proofs.YtnkdgmnmmmjgjaaGreat
open Go.RowKit Crc

set_option maxHeartbeats 2000000 in
set_option maxRecDepth 100000 in
theorem rescape_any (v : Value) (b : List Nat) (w : World) (h : Sl w v (ints b)) (hbs : Bs b) (hcap : ∀ ao n c, v = .slice ao n c → n ≤ c) :
    Calls Tryz.prog 28 #[v] w (EscIs .i64 w b) := by
  unfold EscIs
  by_cases hl : b.length = 128
  case neg =>
    have d1 : escV b = [] := by unfold escV; rw [if_neg hl]
    have d2 : escB b = false := by unfold escB; rw [decide_eq_false hl]; rfl
    have d3 : escE b = 4 := by unfold escE; rw [if_neg hl]
    rw [d1, d2, d3]
    obtain ⟨ao, c, rfl⟩ := h.slice
    rw [ints_length]
    have d : ((b.length : Int) != 128) = true := by simpa using show ¬ (b.length : Int) = 128 by omega
    clear h d1 d2 d3
    go_enter Tryz.func28, Tryz.ntmps28
    go_wp2_with fail
    go_ret3
    exact ⟨_, rfl, World.ownsRow_nil _ _ _ _, Chg.refl _ _⟩
  have d1 : escV b = if begOf b magicB = true then List.replicate 4 0 ++ b.drop 4 else b := by unfold escV; rw [if_pos hl]
  have d2 : escB b = begOf b magicB := by unfold escB; rw [decide_eq_true hl]; rfl
  have d3 : escE b = 0 := by unfold escE; rw [if_pos hl]
  rw [d1, d2, d3]
  clear d1 d2 d3
  have L : (ints b).length = 128 := by rw [ints_length, hl]
  rcases h with ⟨h0, _⟩ | ⟨g, o, c, rfl, lb, hc⟩
  · rw [h0] at L; cases L
  rw [L] at hcap ⊢
  have hcp := hcap _ _ _ rfl
  have hcp4 : (4 : Int) ≤ c := by omega
  have hcn : ¬ c = 4 := by omega
  have S0 : Sl w (.slice (some ⟨g, o, none⟩) 128 c) (ints b) := .inr ⟨g, o, c, by rw [L], lb, hc⟩
  have q1 : (convert 55 9 (.slice (some ⟨g, o, none⟩) 4 c)).run Tryz.prog w = .ok (.string (strOfNums (ints (b.take 4)))) w :=
    run_convert_bytes_arg w 55 5 Tryz.underlying55 Tryz.underlying5 g o 4 c (ints (b.take 4)) (by rw [ints_length, List.length_take]; omega) (fun i hi => by
      rw [hc i (by omega), ints_get, ints_get]
      congr 3
      simp [List.getD, hi]) 9 Tryz.underlying9
  have hM2 : (strOfNums (ints magicB)).toList = [83, 80, 74, 76] := by rw [ByteArray.toList_eq, strOfNums_data]; rfl
  by_cases hm : b.take 4 = magicB
  case neg =>
    have d : ((strOfNums (ints (b.take 4))).toList == [83, 80, 74, 76]) = false := beq_eq_false_iff_ne.2 (fun k => hm (strOfNums_inj (fun y hy => hbs y (List.mem_of_mem_take hy)) magic_bs (k.trans hM2.symm)))
    have bo : begOf b magicB = false := decide_eq_false hm
    rw [bo]
    have L1 : Hid (0 + (ints b).length ≤ maxLen) := by show _ ≤ _; rw [L]; decide
    have L2 : Hid ((0 + (ints b).length) * 1 ≤ 140737488355328) := by show _ ≤ _; rw [L]; decide
    obtain ⟨i0, hi, hz0, hz1, hz2⟩ := info_parts info_byte
    replace S0 := Lib.hid S0
    generalize strOfNums (ints (b.take 4)) = S at *
    clear hm hM2 hc hbs bo hcap L
    go_enter Tryz.func28, Tryz.ntmps28
    go_wp2_with (at_builtin; refine wpList_append_sl _ rfl _ _ 55 rfl w.heap.size 5 i0 (.int .u8 0) 1 Tryz.underlying55 hi hz0 hz1 hz2 rfl (.slice none 0 0) 0 [] rfl (World.ownsRow_nil _ _ _ _) (some ⟨g, o, none⟩) 128 c (ints b) rfl S0.out L1.out L2.out (Nat.le_refl _) ?_; intro v2 w2 own2 hg2 hb2)
    go_ret3
    have E := ext_owns (ext_of_sl (ys := []) own2.out hg2.out hb2.out)
    exact ⟨v2, rfl, E.1, E.2⟩
  have bo : begOf b magicB = true := decide_eq_true hm
  rw [bo]
  rw [hm, magic_str] at q1
  have S4 : Hid (Sl w (.slice (some ⟨g, o + 4, none⟩) 124 (c - 4)) (ints (b.drop 4))) := sl_drop4 S0 hl
  have LD : (ints (b.drop 4)).length = 124 := by rw [ints_length, List.length_drop, hl]
  have L1 : Hid (0 + (ints (List.replicate 4 0)).length ≤ maxLen) := by show _ ≤ _; decide
  have L2 : Hid ((0 + (ints (List.replicate 4 0)).length) * 1 ≤ 140737488355328) := by show _ ≤ _; decide
  have L3 : Hid (0 + (ints (List.replicate 4 0)).length + (ints (b.drop 4)).length ≤ maxLen) := by show _ ≤ _; rw [LD]; decide
  have L4 : Hid ((0 + (ints (List.replicate 4 0)).length + (ints (b.drop 4)).length) * 1 ≤ 140737488355328) := by show _ ≤ _; rw [LD]; decide
  have S5 : Hid (Sl (w.alloc (.cells #[.int .u8 0, .int .u8 0, .int .u8 0, .int .u8 0] 5)) (.slice (some ⟨w.heap.size, 0, none⟩) 4 4) (ints (List.replicate 4 0))) := lit4 w 0 0 0 0
  have hwz : w.heap.size ≤ (w.alloc (.cells #[.int .u8 0, .int .u8 0, .int .u8 0, .int .u8 0] 5)).heap.size := by simp
  obtain ⟨i0, hi, hz0, hz1, hz2⟩ := info_parts info_byte
  clear hm hM2 hc hbs bo hcap L S0 LD
  go_enter Tryz.func28, Tryz.ntmps28
  go_upto_region 7 with (at_builtin; refine wpList_append_sl _ rfl _ _ 55 rfl w.heap.size 5 i0 (.int .u8 0) 1 Tryz.underlying55 hi hz0 hz1 hz2 rfl (.slice none 0 0) 0 [] rfl (World.ownsRow_nil _ _ _ _) (some ⟨w.heap.size, 0, none⟩) 4 4 (ints (List.replicate 4 0)) rfl S5.out L1.out L2.out hwz ?_; intro v1 w1 own1 hg1 hb1)
  have C1 : Hid (Chg [] w w1) := ((Chg.refl [] w).alloc _).grown hg1.out (fun k hk => by cases hk)
  obtain ⟨v1o, v1c, rfl⟩ := owns_slice own1.out
  go_wp2_with (at_builtin; refine wpList_append_sl _ rfl _ _ 55 rfl w.heap.size 5 i0 (.int .u8 0) 1 Tryz.underlying55 hi hz0 hz1 hz2 rfl _ _ _ rfl own1.out (some ⟨g, o + 4, none⟩) 124 (c - 4) (ints (b.drop 4)) rfl (S4.out.chg C1.out (by simp)) L3.out L4.out C1.out.size ?_; intro v2 w2 own2 hg2 hb2)
  go_ret3
  have E1 := ext_of_sl (ys := []) own1.out hg1.out hb1.out
  have E2 := ext_of_sl (ys := List.replicate 4 0) own2.out hg2.out hb2.out
  exact ⟨v2, rfl, (E1.trans E2).own, ((Chg.refl [] w).alloc _).trans (E1.trans E2).chg⟩

end Go.Proofs.YtnkdgmnmmmjgjaaGreat
