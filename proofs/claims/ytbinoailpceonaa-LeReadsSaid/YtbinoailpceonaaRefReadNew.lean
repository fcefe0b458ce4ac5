/-
  The document's reader: its beginning; 'wants' and 'alike'. By an AI agent.
-/
import Derived.Test.YtbinoailpceonaaRefReadRest
namespace Go.Proofs.Ytbinoailpceonaa
open Go.RowKit

/-- A new reader of the document's, in memory of its own. -/
def RedR (w : World) (xs : List Int) (e : Ending) (w' : World) : Prop := ∃ b v, e = .returned (.pointer (some ⟨b, 0, none⟩)) ∧ Rr w' b v ⟨xs, 0, 0, 0⟩ ∧ Chg [] w w' ∧ w.heap.size ≤ b ∧ (∀ k, v.ownBlock = some k → w.heap.size ≤ k ∧ k < w'.heap.size)

theorem redR_of {w w1 : World} {ao : Option Addr} {c : Nat} {xs : List Int} (ho : w1.ownsRow w.heap.size 5 1 (.slice ao xs.length c) xs.length (xs.map (Value.int .u8))) (hc : Chg [] w w1) (hbig : xs.length ≤ 140737488355328) (hby : By xs) :
    RedR w xs (.returned (.pointer (some ⟨w1.heap.size, 0, none⟩))) (w1.alloc (.cells #[.slice ao xs.length c, .int .i64 0, .int .u16 0, .int .i64 0] 111)) := by
  have hb := Blk.made w1 [.slice ao xs.length c, .int .i64 0, .int .u16 0, .int .i64 0] 111
  have hsl := Sl.owned ho
  refine ⟨w1.heap.size, .slice ao xs.length c, rfl, ⟨by simpa using hb, ?_, ?_, Nat.zero_le _, hbig, hby, ?_, fun _ => rfl⟩, hc.alloc _, hc.size, fun k hk => ⟨(ho.lt k hk).1, by have := (ho.lt k hk).2; simp; omega⟩⟩
  · exact hsl.chg (s := []) ((Chg.refl _ _).alloc _) (by simp)
  · intro k hk e
    have := (ho.lt k hk).2
    omega
  · intro ao n c he
    obtain ⟨rfl, rfl, rfl⟩ : _ = ao ∧ xs.length = n ∧ _ = c := by simpa using he
    exact owned_cap ho

set_option maxHeartbeats 1000000 in
set_option maxRecDepth 100000 in
theorem refRead_some (ad : Addr) (c : Nat) (xs : List Int) (w : World) (hx : ∀ j u, (xs.map (Value.int .u8))[j]? = some u → w.cell? (ad.add j) = some u) (hbig : xs.length ≤ 140737488355328) (hby : By xs) :
    Calls Try.prog 23 #[.slice (some ad) xs.length c] w (RedR w xs) := by
  obtain ⟨i0, hi, hz0, hz1, hz2⟩ := info_parts info_u8
  have HX := Lib.hid hx
  have HY := Lib.hid hby
  have ON := Lib.hid (u8s_one xs)
  clear hx hby
  go_enter Try.func23, Try.ntmps23
  go_wp2_with (with_reducible refine wpList_append_three _ rfl (.tmp 4) (.tmp 5) 47 rfl w.heap.size 5 i0 (.int .u8 0) 1 1 Try.underlying47 hi hz0 hz1 hz2 rfl (by decide) _ 0 [] rfl (World.ownsRow_nil _ _ _ _) ad xs.length c (xs.map (Value.int .u8)) rfl (by simp) HX.out ON.out (by unfold maxLen; omega) (by omega) (Nat.le_refl _) ?_)
  intro v' wn ol gr nb
  have C1 : Hid (Chg [] w wn) := (Chg.refl _ w).grown gr.out (by intro k hk; cases hk)
  have O1 := ol.out
  try simp only [Nat.zero_add, List.nil_append] at O1
  obtain ⟨ao, c1, hv⟩ := owns_slice O1
  subst hv
  replace O1 := Lib.hid O1
  clear ol gr nb
  go_wp2_with fail
  go_ret
  exact redR_of O1.out C1.out hbig HY.out

set_option maxHeartbeats 1000000 in
set_option maxRecDepth 100000 in
theorem refRead_none (c : Nat) (w : World) :
    Calls Try.prog 23 #[.slice none 0 c] w (RedR w []) := by
  obtain ⟨i0, hi, hz0, hz1, hz2⟩ := info_parts info_u8
  go_enter Try.func23, Try.ntmps23
  go_wp2_with (at_builtin; refine wpList_append_nothing _ rfl _ _ 47 rfl w.heap.size 5 i0 1 Try.underlying47 hi _ 0 [] rfl (World.ownsRow_nil _ _ _ _) c rfl ?_)
  go_ret
  exact redR_of (xs := []) (World.ownsRow_nil _ _ _ _) (Chg.refl _ _) (by simp) By.nil

theorem refRead_any (v : Value) (xs : List Int) (w : World) (h : Sl w v xs) (hbig : xs.length ≤ 140737488355328) (hby : By xs) :
    Calls Try.prog 23 #[v] w (RedR w xs) := by
  rcases h with ⟨rfl, ao, c, rfl⟩ | ⟨b, o, cp, rfl, hb, hc⟩
  · rcases ao with _ | a
    · exact refRead_none c w
    · exact refRead_some a c [] w (fun j u hj => by simp at hj) (by simp) By.nil
  · refine refRead_some ⟨b, o, none⟩ cp xs w (fun j u hj => ?_) hbig hby
    have hjn : j < xs.length := by
      have := (List.getElem?_eq_some_iff.1 hj).1
      simpa using this
    rw [Addr.add_lit, hc j hjn]
    rw [← hj]
    simp [List.getD, List.getElem?_eq_getElem hjn]

set_option maxHeartbeats 1000000 in
set_option maxRecDepth 100000 in
theorem alike_any (b b3 : Nat) (v v3 : Value) (s : RS) (w : World) (hd : Rd w b v s) (hr : Rr w b3 v3 s) :
    Calls Try.prog 24 #[.pointer (some ⟨b, 0, none⟩), .pointer (some ⟨b3, 0, none⟩)] w fun e w' => e = .returned (.bool true) ∧ Chg [] w w' := by
  have R := Lib.hid (fun W (c : Chg [] w W) => hr.chg c (by simp) (by simp))
  have D := Lib.hid (fun W (c : Chg [] w W) => hd.chg c (by simp) (by simp))
  clear hd hr
  go_enter Try.func24, Try.ntmps24
  go_wp2_with fail
  refine (errR_any b v s w (D.out _ (Chg.refl _ _))).mono ?_
  rintro e w' ⟨rfl, q, rfl⟩
  have C := Lib.hid ((Chg.refl [] w).drewN q)
  generalize w.drewN q = w1 at *
  go_wp2_with fail
  refine (endR_any b v s w1 (D.out _ C.out)).mono ?_
  rintro e w' ⟨rfl, q, rfl⟩
  replace C := Lib.hid (C.out.drewN q)
  generalize w1.drewN q = w2 at *
  go_wp2_with fail
  refine (refEnd_any b3 v3 s w2 (R.out _ C.out)).mono ?_
  rintro e w' ⟨rfl, q, rfl⟩
  replace C := Lib.hid (C.out.drewN q)
  generalize w2.drewN q = w3 at *
  have a1 := fun q => atR_any b v s (w3.drewN q) (D.out _ (C.out.drewN q))
  have a2 := fun q => leftR_any b v s (w3.drewN q) (D.out _ (C.out.drewN q))
  have a3 := fun q => leftRr_any b3 v3 s (w3.drewN q) (R.out _ (C.out.drewN q))
  have c1 := (R.out _ C.out).c1
  have c2 := (R.out _ C.out).c2
  have c3 := (R.out _ C.out).c3
  go_wp2_with fail
  go_quiet (first
    | (go_at_call 32; refine Calls.quiet_of_same ((a1 _).mono fun _ _ h => ⟨h.1, h.2.symm⟩))
    | (go_at_call 35; refine Calls.quiet_of (a2 _))
    | (go_at_call 66; refine Calls.quiet_of (a3 _)))
  go_wp2_with fail
  go_ret
  exact ⟨rfl, C.out.drewN _⟩

/-- What 'wants' tells. -/
def WantsR (w : World) (b : Nat) (v : Value) (x : Int) (l : List Int) (s' : RS) (e : Ending) (w' : World) : Prop :=
  ∃ rv, e = .returned (.tuple #[.int .u64 x, rv]) ∧ Sl w' rv l ∧ (∀ k, rv.ownBlock = some k → w.heap.size ≤ k) ∧ Rr w' b v s' ∧ Chg [b] w w'

set_option maxHeartbeats 1000000 in
set_option maxRecDepth 100000 in
theorem wants_num (b : Nat) (rv : Value) (s : RS) (k v n : Int) (dv : Value) (m : Nat) (w : World) (h : Rr w b rv s) (hk : k = 1 ∧ m = 1 ∨ k = 2 ∧ m = 2 ∨ k = 3 ∧ m = 4 ∨ k = 4 ∧ m = 8) :
    Calls Try.prog 26 #[.pointer (some ⟨b, 0, none⟩), .agg #[.int .i64 k, .int .u64 v, .int .i64 n, dv]] w (WantsR w b rv (leNum (s.got m)) [] (s.next m)) := by
  have hc : Chg [] w ((w.alloc (.cells #[.int .i64 k, .int .u64 v, .int .i64 n, dv] 51)).alloc (.cells #[.int .i64 1, .int .i64 2, .int .i64 4, .int .i64 8] 3)) := ((Chg.refl _ _).alloc _).alloc _
  have P := Lib.hid (h.chg hc (by simp) (by simp))
  have C := Lib.hid hc
  have hu := refNumberR_any b rv s m _ P.out (by omega) (by omega)
  clear h hc
  rcases hk with ⟨rfl, rfl⟩ | ⟨rfl, rfl⟩ | ⟨rfl, rfl⟩ | ⟨rfl, rfl⟩
  all_goals
    go_enter Try.func26, Try.ntmps26
    go_wp2_with fail
    refine hu.mono ?_
    rintro e w1 ⟨rfl, hr, hc⟩
    have Q := Lib.hid hr
    have D := Lib.hid hc
    clear hr hc hu
    go_wp2_with fail
    go_ret2
    exact ⟨_, rfl, .inl ⟨rfl, _, _, rfl⟩, (fun k hk => by cases hk), Q.out, (C.out.mono (by simp)).trans D.out⟩

end Go.Proofs.Ytbinoailpceonaa
