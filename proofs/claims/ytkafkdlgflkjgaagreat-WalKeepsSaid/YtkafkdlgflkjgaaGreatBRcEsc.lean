/-
  Escape and Unescape, the program's. By an AI agent.
-/
import Derived.Test.YtkafkdlgflkjgaaGreatBRcGen
import Derived.Test.YtkafkdlgflkjgaaGreatBClone
import Derived.Lib.BufferWrite
namespace Go.Proofs.YtkafkdlgflkjgaaGreat
open Go.RowKit Crc

def RcOwn (w : World) (base : Nat) (v : Value) (l : List Nat) : Prop := w.ownsRow base 5 1 v l.length ((ints l).map (Value.int .u8))

def EscIs (k : IntKind) (w : World) (b : List Nat) (e : Ending) (w' : World) : Prop := ∃ v, e = .returned (.tuple #[v, .bool (escB b), .int k (escE b)]) ∧ Hid (RcOwn w' w.heap.size v (escV b)) ∧ Hid (Chg [] w w')

def UneIs (k : IntKind) (w : World) (b : List Nat) (es : Bool) (e : Ending) (w' : World) : Prop := ∃ v, e = .returned (.tuple #[v, .int k (uneE b es)]) ∧ Hid (RcOwn w' w.heap.size v (uneV b es)) ∧ Hid (Chg [] w w')

set_option maxRecDepth 100000 in
/-- copy from a constant string into bytes that the call owns. -/
theorem run_copy_own_str (w : World) (base n : Nat) (v : Value) (xs : List Int) (ty : TypeId) (O : w.ownsRow base 5 1 v n (xs.map (Value.int .u8))) (S : ByteArray) (ts : List Int) (ht : Lib.byteCells S.data.toList = ts.map (Value.int .u8)) (hs : S.size = ts.length) (hl : ts.length ≤ n) (hn : xs.length = n) (hp : 0 < n) :
 ∃ w', (Builtin.copy_ #[65, 9] ty #[v, .string S]).run Tryz.prog w = .ok (goInt S.size) w' ∧ w'.ownsRow base 5 1 v n ((ts ++ xs.drop ts.length).map (Value.int .u8)) ∧ ∀ k, v.ownBlock = some k → Chg [k] w w' := by
 rcases O.2 with ⟨_, h0⟩ | ⟨g, cap, cur, hv, hb, hg, h1, h2, h3, h4⟩
 ·omega
 subst hv
 have hr := Lib.run_copy_row_string (P := Tryz.prog) w 65 9 ty 5 g 0 n cap S cur 5 Tryz.underlying65 (by kernel_rfl) hg (by omega) (by omega)
 refine ⟨_, hr, ⟨?_, .inr ⟨g, cap, _, rfl, hb, setRow_heap w g cur _ _ (0, 0) hg, h1, h2, ?_, ?_⟩⟩, fun k hk => ?_⟩
 ·have := O.1
  simp at this ⊢
  omega
 ·simp [ht]
  have : cur.toList.length = cur.size := by simp
  omega
 ·rw [ht, show S.size = ts.length from hs]
  have hx : cur.toList.take n = xs.map (Value.int .u8) := by simpa using h4
  simp only [List.take_zero, List.nil_append, Nat.zero_add]
  have e2 : cur.toList.drop ts.length = (xs.map (Value.int .u8)).drop ts.length ++ cur.toList.drop n := by
   rw [← hx, List.drop_take]
   conv => lhs; rw [← List.take_append_drop (n - ts.length) (cur.toList.drop ts.length), List.drop_drop]
   congr 2
   omega
  rw [e2, ← List.append_assoc, List.map_append, List.map_drop]
  exact List.take_left' (by rw [List.length_append, List.length_map, List.length_drop, List.length_map]; omega)
 ·obtain rfl : g = k := by simpa [Value.ownBlock] using hk
  exact ⟨rfl, rfl, rfl, by simp [World.setRow], fun k _ hk => setRow_other w g k _ (by simpa using hk)⟩

theorem zeros_str : strOfNums (ints (List.replicate 4 0)) = ⟨#[0, 0, 0, 0]⟩ := by kernel_rfl

theorem zeros_bs : Bs (List.replicate 4 0) := fun x hx => by rw [(List.mem_replicate.1 hx).2]; decide

theorem zeros_cells : Lib.byteCells (⟨#[0, 0, 0, 0]⟩ : ByteArray).data.toList = (ints (List.replicate 4 0)).map (Value.int .u8) := by kernel_rfl

theorem magic_cells : Lib.byteCells (⟨#[83, 80, 74, 76]⟩ : ByteArray).data.toList = (ints magicB).map (Value.int .u8) := by kernel_rfl

theorem patched (m b : List Nat) (hm : m.length = 4) : (ints m ++ (ints b).drop (ints m).length) = ints (m ++ b.drop 4) := by
 rw [ints_length, hm]
 simp [ints]

set_option maxHeartbeats 2000000 in
set_option maxRecDepth 100000 in
theorem escape_any (v : Value) (b : List Nat) (w : World) (h : Sl w v (ints b)) (hbs : Bs b) (_hbig : b.length ≤ 1000000) (hcap : ∀ ao n c, v = .slice ao n c → n ≤ c) :
 Calls Tryz.prog 159 #[v] w (EscIs .u16 w b) := by
 unfold EscIs
 by_cases hl : b.length = 128
 case neg =>
  have d1 : escV b = [] := by unfold escV; rw [if_neg hl]
  have d2 : escB b = false := by unfold escB; rw [decide_eq_false hl]; rfl
  have d3 : escE b = 4 := by unfold escE; rw [if_neg hl]
  rw [d1, d2, d3]
  obtain ⟨ao, c, rfl⟩ := h.slice
  rw [ints_length]
  have d : ((b.length : Int) != 128) = true := by simpa using show ¬ (b.length : Int) = 128 by omega
  clear h d1 d2 d3
  go_enter Tryz.func159, Tryz.ntmps159
  go_wp2_with fail
  go_ret3
  exact ⟨_, rfl, World.ownsRow_nil _ _ _ _, Chg.refl _ _⟩
 have d1 : escV b = if begOf b magicB = true then List.replicate 4 0 ++ b.drop 4 else b := by unfold escV; rw [if_pos hl]
 have d2 : escB b = begOf b magicB := by unfold escB; rw [decide_eq_true hl]; rfl
 have d3 : escE b = 0 := by unfold escE; rw [if_pos hl]
 rw [d1, d2, d3]
 clear d1 d2 d3
 have L : (ints b).length = 128 := by rw [ints_length, hl]
 have B := Lib.hid (fun W (C : Chg [] w W) => begins_any v b magicB ⟨#[83, 80, 74, 76]⟩ magic_str rfl magic_bs W (h.chg C (by simp)) hbs (by omega) hcap)
 have CL := Lib.hid (clone_any v (ints b) w h (by rw [ints_length]; omega))
 unfold Cloned at CL
 rw [L] at CL
 obtain ⟨ao, c, rfl⟩ := h.slice
 rw [L] at B CL ⊢
 have hPT := Lib.hid (patched (List.replicate 4 0) b rfl)
 have hld : Hid ((List.replicate 4 0 ++ b.drop 4).length = 128) := by show _ = _; rw [List.length_append, List.length_drop, List.length_replicate, hl]
 replace hl := Lib.hid hl
 replace L := Lib.hid L
 clear h hbs hcap
 rcases hm : begOf b magicB with _ | _
 all_goals rw [hm] at B
 all_goals clear hm
 case false =>
  go_enter Tryz.func159, Tryz.ntmps159
  go_wp2_with fail
  refine CL.out.mono ?_
  rintro e w1 ⟨u, rfl, O, C⟩
  replace O := Lib.hid O
  replace C := Lib.hid C
  clear CL
  go_wp2_with fail
  refine (B.out _ C.out).mono ?_
  rintro e w2 ⟨rfl, rfl⟩
  clear B
  go_wp2_with fail
  go_ret3
  refine ⟨u, rfl, ?_, C⟩
  show World.ownsRow _ _ _ _ _ _ _
  rw [hl.out]
  exact O.out
 case true =>
  go_enter Tryz.func159, Tryz.ntmps159
  go_wp2_with fail
  refine CL.out.mono ?_
  rintro e w1 ⟨u, rfl, O, C⟩
  replace O := Lib.hid O
  replace C := Lib.hid C
  clear CL
  go_wp2_with fail
  refine (B.out _ C.out).mono ?_
  rintro e w2 ⟨rfl, rfl⟩
  clear B
  obtain ⟨uo, uc, rfl⟩ := owns_slice O.out
  have UL := Lib.hid (fun k hk => O.out.lt k hk)
  obtain ⟨w3, hr, O3, C3⟩ := run_copy_own_str w1 w.heap.size 128 _ _ 3 O.out ⟨#[0, 0, 0, 0]⟩ (ints (List.replicate 4 0)) zeros_cells rfl (by decide) L.out (by decide)
  replace O3 := Lib.hid O3
  replace C3 := Lib.hid C3
  go_wp2_with fail
  go_ret3
  refine ⟨_, rfl, ?_, ?_⟩
  ·show World.ownsRow _ _ _ _ _ _ _
   have o := O3.out
   rw [hPT.out] at o
   have o2 : World.ownsRow w3 w.heap.size 5 1 (.slice uo 128 uc) (List.replicate 4 0 ++ b.drop 4).length ((ints (List.replicate 4 0 ++ b.drop 4)).map (Value.int .u8)) := by rw [hld.out]; exact o
   exact o2
  ·rcases hk : (Value.slice uo 128 uc).ownBlock with _ | k
   ·have : Hid (Chg [] w w3) := by
     have o1 := O3.out.2
     exfalso
     rcases o1 with ⟨o2, _⟩ | ⟨g, cap, cur, o2, _⟩
     ·simp at o2
     ·rw [o2] at hk; cases hk
    exact this
   ·exact C.out.fresh (C3.out k hk) (fun j hj => .inr (by rw [List.mem_singleton.1 hj]; exact (UL.out k hk).1))

set_option maxHeartbeats 2000000 in
set_option maxRecDepth 100000 in
theorem unescape_any (v : Value) (b : List Nat) (es : Bool) (w : World) (h : Sl w v (ints b)) (hbs : Bs b) (_hbig : b.length ≤ 1000000) (hcap : ∀ ao n c, v = .slice ao n c → n ≤ c) :
 Calls Tryz.prog 257 #[v, .bool es] w (UneIs .u16 w b es) := by
 unfold UneIs
 by_cases hl : b.length = 128
 case neg =>
  have d1 : uneV b es = [] := by unfold uneV; rw [if_neg hl]
  have d3 : uneE b es = 4 := by unfold uneE; rw [if_neg hl]
  rw [d1, d3]
  obtain ⟨ao, c, rfl⟩ := h.slice
  rw [ints_length]
  have d : ((b.length : Int) != 128) = true := by simpa using show ¬ (b.length : Int) = 128 by omega
  clear h d1 d3
  go_enter Tryz.func257, Tryz.ntmps257
  go_wp2_with fail
  go_ret2
  exact ⟨_, rfl, World.ownsRow_nil _ _ _ _, Chg.refl _ _⟩
 have L : (ints b).length = 128 := by rw [ints_length, hl]
 have B := Lib.hid (fun W (C : Chg [] w W) => begins_any v b magicB ⟨#[83, 80, 74, 76]⟩ magic_str rfl magic_bs W (h.chg C (by simp)) hbs (by omega) hcap)
 have Z := Lib.hid (fun W (C : Chg [] w W) => begins_any v b (List.replicate 4 0) ⟨#[0, 0, 0, 0]⟩ zeros_str rfl zeros_bs W (h.chg C (by simp)) hbs (by omega) hcap)
 have CL := Lib.hid (clone_any v (ints b) w h (by rw [ints_length]; omega))
 unfold Cloned at CL
 rw [L] at CL
 obtain ⟨ao, c, rfl⟩ := h.slice
 rw [L] at B Z CL ⊢
 have hPT := Lib.hid (patched magicB b rfl)
 have hld : Hid ((magicB ++ b.drop 4).length = 128) := by show _ = _; rw [List.length_append, List.length_drop, hl]; rfl
 have C0 : Hid (Chg [] w w) := Chg.refl _ _
 rcases es with _ | _
 ·have d1 : uneV b false = if begOf b magicB = true then [] else b := by unfold uneV; rw [if_pos hl, if_neg (by decide)]
  have d3 : uneE b false = if begOf b magicB = true then 80 else 0 := by unfold uneE; rw [if_pos hl, if_neg (by decide)]
  rw [d1, d3]
  replace hl := Lib.hid hl
  replace L := Lib.hid L
  clear h hbs hcap d1 d3 Z
  rcases hm : begOf b magicB with _ | _
  all_goals rw [hm] at B
  all_goals clear hm
  case false =>
   go_enter Tryz.func257, Tryz.ntmps257
   go_wp2_with fail
   refine (B.out _ C0.out).mono ?_
   rintro e w2 ⟨rfl, rfl⟩
   clear B
   go_wp2_with fail
   refine CL.out.mono ?_
   rintro e w1 ⟨u, rfl, O, C⟩
   replace O := Lib.hid O
   replace C := Lib.hid C
   clear CL
   go_wp2_with fail
   go_ret2
   refine ⟨u, rfl, ?_, C⟩
   show World.ownsRow _ _ _ _ _ _ _
   rw [hl.out]
   exact O.out
  case true =>
   go_enter Tryz.func257, Tryz.ntmps257
   go_wp2_with fail
   refine (B.out _ C0.out).mono ?_
   rintro e w2 ⟨rfl, rfl⟩
   clear B
   go_wp2_with fail
   go_ret2
   exact ⟨_, rfl, World.ownsRow_nil _ _ _ _, Chg.refl _ _⟩
 ·have d1 : uneV b true = if begOf b (List.replicate 4 0) = true then magicB ++ b.drop 4 else [] := by unfold uneV; rw [if_pos hl, if_pos rfl]
  have d3 : uneE b true = if begOf b (List.replicate 4 0) = true then 0 else 80 := by unfold uneE; rw [if_pos hl, if_pos rfl]
  rw [d1, d3]
  replace hl := Lib.hid hl
  replace L := Lib.hid L
  clear h hbs hcap d1 d3 B
  rcases hm : begOf b (List.replicate 4 0) with _ | _
  all_goals rw [hm] at Z
  all_goals clear hm
  case false =>
   go_enter Tryz.func257, Tryz.ntmps257
   go_wp2_with fail
   refine (Z.out _ C0.out).mono ?_
   rintro e w2 ⟨rfl, rfl⟩
   clear Z
   go_wp2_with fail
   go_ret2
   exact ⟨_, rfl, World.ownsRow_nil _ _ _ _, Chg.refl _ _⟩
  case true =>
   go_enter Tryz.func257, Tryz.ntmps257
   go_wp2_with fail
   refine (Z.out _ C0.out).mono ?_
   rintro e w2 ⟨rfl, rfl⟩
   clear Z
   go_wp2_with fail
   refine CL.out.mono ?_
   rintro e w1 ⟨u, rfl, O, C⟩
   replace O := Lib.hid O
   replace C := Lib.hid C
   clear CL
   obtain ⟨uo, uc, rfl⟩ := owns_slice O.out
   have UL := Lib.hid (fun k hk => O.out.lt k hk)
   obtain ⟨w3, hr, O3, C3⟩ := run_copy_own_str w1 w.heap.size 128 _ _ 3 O.out ⟨#[83, 80, 74, 76]⟩ (ints magicB) magic_cells rfl (by decide) L.out (by decide)
   replace O3 := Lib.hid O3
   replace C3 := Lib.hid C3
   go_wp2_with fail
   go_ret2
   refine ⟨_, rfl, ?_, ?_⟩
   ·show World.ownsRow _ _ _ _ _ _ _
    have o := O3.out
    rw [hPT.out] at o
    have o2 : World.ownsRow w3 w.heap.size 5 1 (.slice uo 128 uc) (magicB ++ b.drop 4).length ((ints (magicB ++ b.drop 4)).map (Value.int .u8)) := by rw [hld.out]; exact o
    exact o2
   ·rcases hk : (Value.slice uo 128 uc).ownBlock with _ | k
    ·exfalso
     rcases O3.out.2 with ⟨o2, _⟩ | ⟨g, cap, cur, o2, _⟩
     ·simp at o2
     ·rw [o2] at hk; cases hk
    ·exact C.out.fresh (C3.out k hk) (fun j hj => .inr (by rw [List.mem_singleton.1 hj]; exact (UL.out k hk).1))

/-- What an append of bytes that are read leaves. -/
theorem ext_of_sl {base : Nat} {w w' : World} {v v' : Value} {ys zs : List Nat} (own : w'.ownsRow base 5 1 v' (ys.length + (ints zs).length) ((ints ys).map (Value.int .u8) ++ (ints zs).map (Value.int .u8))) (hg : w.grownBy w' v.ownBlock)
 (hb : v'.ownBlock = v.ownBlock ∨ (v'.ownBlock = some w.heap.size ∧ w.grownBy w' none)) : Ext base w v (ys ++ zs) w' v' := by
 refine ⟨by rw [ints_app, List.map_append, List.length_append]; rw [ints_length] at own; exact own, (Chg.refl v.ownBlock.toList w).grown hg (fun k hk => .inl (by rw [hk]; simp)), ?_⟩
 rcases hb with e | ⟨e, _⟩
 ·exact .inl e
 ·exact .inr ⟨_, e, Nat.le_refl _⟩

end Go.Proofs.YtkafkdlgflkjgaaGreat
namespace Go.Proofs.YtkafkdlgflkjgaaGreat
open Go.RowKit Crc

end Go.Proofs.YtkafkdlgflkjgaaGreat
