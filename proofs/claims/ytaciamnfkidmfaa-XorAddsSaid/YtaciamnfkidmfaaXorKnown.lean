/-
  'known' of the exclusive ors says yes. By an AI agent.
-/
import Derived.Test.YtaciamnfkidmfaaXorCons
import Derived.Test.YtaciamnfkidmfaaGWholeRows
namespace Go.Proofs.Ytaciamnfkidmfaa
open Go.RowKit

theorem sl_lit (w : World) (xs : List Int) (c : Nat) : Sl (w.alloc (.cells (xs.map (Value.int .u8)).toArray 5)) (.slice (some ⟨w.heap.size, 0, none⟩) xs.length c) xs := by
  have h : Blk (w.alloc (.cells (xs.map (Value.int .u8)).toArray 5)) w.heap.size 5 ((xs ++ []).map (Value.int .u8)) := by rw [List.append_nil]; exact Blk.made w _ _
  exact Blk.sl h

theorem by_dec {xs : List Int} (h : xs.all (fun x => decide (0 ≤ x) && decide (x ≤ 255)) = true) : By xs := by
  intro x hx
  have := List.all_eq_true.1 h x hx
  simpa using this

/-- A row that is there, as a call may take it. -/
def Ok (w : World) (d : RowD) : Prop := Sl w d.v d.bs ∧ By d.bs ∧ d.bs.length ≤ 1000000

theorem Ok.chg {w w' : World} {d : RowD} (h : Ok w d) (c : Chg [] w w') : Ok w' d := ⟨h.1.chgNil c, h.2.1, h.2.2⟩

theorem Ok.lit (w : World) (b : Nat) (xs : List Int) (h : xs.all (fun x => decide (0 ≤ x) && decide (x ≤ 255)) = true) (hl : xs.length ≤ 1000000) (hb : b = w.heap.size) : Ok (w.alloc (.cells (xs.map (Value.int .u8)).toArray 5)) ⟨.slice (some ⟨b, 0, none⟩) xs.length xs.length, xs⟩ := by
  subst hb
  exact ⟨sl_lit w xs _, by_dec h, hl⟩

theorem Ok.none (w : World) : Ok w ⟨.slice none 0 0, []⟩ := ⟨.inl ⟨rfl, _, _, rfl⟩, By.nil, by decide⟩

/-- What has come out, as a row. -/
theorem Ok.own {w : World} {base : Nat} {u : Value} {xs : List Nat} (h : w.ownsRow base 5 1 u xs.length ((ints xs).map (Value.int .u8))) (hb : Bs xs) (hl : xs.length ≤ 1000000) : Ok w ⟨u, ints xs⟩ :=
  ⟨own_sl h, ints_by hb, by show (ints xs).length ≤ _; rw [ints_length]; exact hl⟩

theorem rws_ok {w : World} {ds : List RowD} {c : Nat} (b : Nat) (h : ∀ d ∈ ds, Ok w d) (hl : ds.length ≤ 1000000) (hb : b = w.heap.size) :
    Rws (w.alloc (.cells (ds.map (·.v)).toArray 25)) (.slice (some ⟨b, 0, none⟩) ds.length c) ds := by
  subst hb
  exact rws_made (fun d hd => ⟨(h d hd).1, (h d hd).2.1, by have := (h d hd).2.2; omega⟩) (by omega)

theorem all2 {w : World} {a b : RowD} (ha : Ok w a) (hb : Ok w b) : ∀ d ∈ [a, b], Ok w d := by
  intro d hd
  rcases List.mem_cons.1 hd with rfl | hd
  · exact ha
  · rw [List.mem_singleton.1 hd]; exact hb

theorem all3 {w : World} {a b c : RowD} (ha : Ok w a) (hb : Ok w b) (hc : Ok w c) : ∀ d ∈ [a, b, c], Ok w d := by
  intro d hd
  rcases List.mem_cons.1 hd with rfl | hd
  · exact ha
  · exact all2 hb hc d hd

set_option maxHeartbeats 2000000 in
set_option maxRecDepth 100000 in
theorem known_any (w : World) : Calls Try.prog 20 #[] w fun e w' => e = .returned (.bool true) ∧ Hid (Chg [] w w') := by
  have v1 : ofVal [[1, 2], [3, 0]] = [2, 2] := by decide +kernel
  have e1 : ofErr [[1, 2], [3, 0]] = 0 := by decide +kernel
  have v2 : ofVal [[2, 2], [3, 0], [255, 0]] = [254, 2] := by decide +kernel
  have e2 : ofErr [[2, 2], [3, 0], [255, 0]] = 0 := by decide +kernel
  have v3 : missVal [[1, 2], [], [2, 2]] 1 = [3, 0] := by decide +kernel
  have e3 : missErr [[1, 2], [], [2, 2]] 1 = 0 := by decide +kernel
  have v4 : evenVal [[1, 2], [3, 0], [2, 2]] = true := by decide +kernel
  have e4 : ofErr [[1, 2], [3, 0], [2, 2]] = 0 := by decide +kernel
  have v5 : first [1, 2] [1, 3] = 1 := by decide +kernel
  have hA : Hid (Ok ((w.alloc (.cells #[.int .u8 1, .int .u8 2] 5)).alloc (.cells #[.int .u8 3, .int .u8 0] 5)) ⟨.slice (some ⟨w.heap.size, 0, none⟩) 2 2, [1, 2]⟩) := (Ok.lit w w.heap.size [1, 2] rfl (by decide) rfl).chg ((Chg.refl _ _).alloc _)
  have hB : Hid (Ok ((w.alloc (.cells #[.int .u8 1, .int .u8 2] 5)).alloc (.cells #[.int .u8 3, .int .u8 0] 5)) ⟨.slice (some ⟨w.heap.size + 1, 0, none⟩) 2 2, [3, 0]⟩) := Ok.lit (w.alloc (.cells #[.int .u8 1, .int .u8 2] 5)) (w.heap.size + 1) [3, 0] rfl (by decide) (by simp)
  have D0 : Hid (Chg [] w ((w.alloc (.cells #[.int .u8 1, .int .u8 2] 5)).alloc (.cells #[.int .u8 3, .int .u8 0] 5))) := ((Chg.refl _ _).alloc _).alloc _
  have s1 := of_any _ _ _ (rws_ok (c := 2) (w.heap.size + 1 + 1) (all2 hA.out hB.out) (by simp) (by simp)) (by simp) (fun d hd => (all2 hA.out hB.out d hd).2.2)
  rw [show rowsN [⟨.slice (some ⟨w.heap.size, 0, none⟩) 2 2, [1, 2]⟩, ⟨.slice (some ⟨w.heap.size + 1, 0, none⟩) 2 2, [3, 0]⟩] = [[1, 2], [3, 0]] from rfl, v1, e1] at s1
  go_enter Try.func20, Try.ntmps20
  go_wp2_with fail
  refine s1.mono ?_
  clear s1 v1 e1
  rintro e w1 ⟨p, rfl, OP, D1⟩
  have C1 : Hid (Chg [] ((w.alloc (.cells #[.int .u8 1, .int .u8 2] 5)).alloc (.cells #[.int .u8 3, .int .u8 0] 5)) w1) := ((Chg.refl [] _).alloc _).trans D1.out
  replace hA := Lib.hid (hA.out.chg C1.out)
  replace hB := Lib.hid (hB.out.chg C1.out)
  obtain ⟨po, pc, hp⟩ : ∃ po pc, p = .slice po 2 pc := owns_slice OP.out
  subst hp
  have hP : Hid (Ok w1 ⟨.slice po 2 pc, [2, 2]⟩) := Ok.own (xs := [2, 2]) OP.out (by intro b hb; simp at hb; omega) (by decide)
  replace D0 := Lib.hid (D0.out.trans C1.out)
  clear C1 D1 OP
  have s2 := patch_any ⟨.slice po 2 pc, [2, 2]⟩ ⟨.slice (some ⟨w.heap.size + 1, 0, none⟩) 2 2, [3, 0]⟩ ⟨.slice (some ⟨w1.heap.size, 0, none⟩) 2 2, [255, 0]⟩ _ (all3 (hP.out.chg ((Chg.refl _ _).alloc _)) (hB.out.chg ((Chg.refl _ _).alloc _)) (Ok.lit w1 w1.heap.size [255, 0] rfl (by decide) rfl))
  rw [show rowsN [⟨.slice po 2 pc, [2, 2]⟩, ⟨.slice (some ⟨w.heap.size + 1, 0, none⟩) 2 2, [3, 0]⟩, ⟨.slice (some ⟨w1.heap.size, 0, none⟩) 2 2, [255, 0]⟩] = [[2, 2], [3, 0], [255, 0]] from rfl, v2, e2] at s2
  go_wp2_with fail
  refine s2.mono ?_
  clear s2 v2 e2
  rintro e w2 ⟨q, rfl, OQ, D2⟩
  have C2 : Hid (Chg [] w1 w2) := ((Chg.refl [] _).alloc _).trans D2.out
  replace hA := Lib.hid (hA.out.chg C2.out)
  replace hB := Lib.hid (hB.out.chg C2.out)
  replace hP := Lib.hid (hP.out.chg C2.out)
  have hQ : Hid (Ok w2 ⟨q, [254, 2]⟩) := Ok.own (xs := [254, 2]) OQ.out (by intro b hb; simp at hb; omega) (by decide)
  replace D0 := Lib.hid (D0.out.trans C2.out)
  clear C2 D2 OQ
  have s3 := missing_any _ _ 1 _ (rws_ok (c := 3) w2.heap.size (all3 hA.out (Ok.none w2) hP.out) (by simp) rfl) (by simp) (fun d hd => (all3 hA.out (Ok.none w2) hP.out d hd).2.2) (by decide) (fun ao n c e => by simp at e; omega)
  rw [show rowsN [⟨.slice (some ⟨w.heap.size, 0, none⟩) 2 2, [1, 2]⟩, ⟨.slice none 0 0, []⟩, ⟨.slice po 2 pc, [2, 2]⟩] = [[1, 2], [], [2, 2]] from rfl, v3, e3] at s3
  go_wp2_with fail
  refine s3.mono ?_
  clear s3 v3 e3
  rintro e w3 ⟨m, rfl, OM, D3⟩
  have C3 : Hid (Chg [] w2 w3) := ((Chg.refl [] _).alloc _).trans D3.out
  replace hA := Lib.hid (hA.out.chg C3.out)
  replace hB := Lib.hid (hB.out.chg C3.out)
  replace hP := Lib.hid (hP.out.chg C3.out)
  replace hQ := Lib.hid (hQ.out.chg C3.out)
  have hM : Hid (Ok w3 ⟨m, [3, 0]⟩) := Ok.own (xs := [3, 0]) OM.out (by intro b hb; simp at hb; omega) (by decide)
  replace D0 := Lib.hid (D0.out.trans C3.out)
  clear C3 D3 OM
  have s4 := even_any _ _ _ (rws_ok (c := 3) w3.heap.size (all3 hA.out hB.out hP.out) (by simp) rfl) (by simp) (fun d hd => (all3 hA.out hB.out hP.out d hd).2.2)
  rw [show rowsN [⟨.slice (some ⟨w.heap.size, 0, none⟩) 2 2, [1, 2]⟩, ⟨.slice (some ⟨w.heap.size + 1, 0, none⟩) 2 2, [3, 0]⟩, ⟨.slice po 2 pc, [2, 2]⟩] = [[1, 2], [3, 0], [2, 2]] from rfl, v4, e4] at s4
  go_wp2_with fail
  refine s4.mono ?_
  clear s4 v4 e4
  rintro e w4 ⟨rfl, D4⟩
  have C4 : Hid (Chg [] w3 w4) := ((Chg.refl [] _).alloc _).trans D4.out
  replace hA := Lib.hid (hA.out.chg C4.out)
  replace hB := Lib.hid (hB.out.chg C4.out)
  replace hP := Lib.hid (hP.out.chg C4.out)
  replace hQ := Lib.hid (hQ.out.chg C4.out)
  replace hM := Lib.hid (hM.out.chg C4.out)
  replace D0 := Lib.hid (D0.out.trans C4.out)
  clear C4 D4
  go_wp2_with fail
  have l5 := Ok.lit w4 w4.heap.size [2, 2] rfl (by decide) rfl
  refine (same_true _ _ [2, 2] _ (hP.out.1.chgNil ((Chg.refl _ _).alloc _)) l5.1 (by decide)).mono ?_
  clear l5
  rintro e w5 ⟨rfl, q5, hw⟩
  have C5 : Hid (Chg [] w4 w5) := by rw [hw]; exact ((Chg.refl [] _).alloc _).drewN _
  clear hw
  replace hA := Lib.hid (hA.out.chg C5.out)
  replace hB := Lib.hid (hB.out.chg C5.out)
  replace hQ := Lib.hid (hQ.out.chg C5.out)
  replace hM := Lib.hid (hM.out.chg C5.out)
  replace D0 := Lib.hid (D0.out.trans C5.out)
  clear C5 hP
  go_wp2_with fail
  have l6 := Ok.lit w5 w5.heap.size [254, 2] rfl (by decide) rfl
  refine (same_true _ _ [254, 2] _ (hQ.out.1.chgNil ((Chg.refl _ _).alloc _)) l6.1 (by decide)).mono ?_
  clear l6
  rintro e w6 ⟨rfl, q6, hw⟩
  have C6 : Hid (Chg [] w5 w6) := by rw [hw]; exact ((Chg.refl [] _).alloc _).drewN _
  clear hw
  replace hA := Lib.hid (hA.out.chg C6.out)
  replace hB := Lib.hid (hB.out.chg C6.out)
  replace hM := Lib.hid (hM.out.chg C6.out)
  replace D0 := Lib.hid (D0.out.trans C6.out)
  clear C6 hQ
  go_wp2_with fail
  refine (same_true _ _ [3, 0] _ hM.out.1 hB.out.1 (by decide)).mono ?_
  rintro e w7 ⟨rfl, q7, hw⟩
  have C7 : Hid (Chg [] w6 w7) := by rw [hw]; exact (Chg.refl [] _).drewN _
  clear hw
  replace hA := Lib.hid (hA.out.chg C7.out)
  replace D0 := Lib.hid (D0.out.trans C7.out)
  clear C7 hM hB
  have l8 := Ok.lit w7 w7.heap.size [1, 3] rfl (by decide) rfl
  have s8 := first_any _ _ [1, 2] [1, 3] _ (hA.out.1.chgNil ((Chg.refl _ _).alloc _)) l8.1 hA.out.2.1 l8.2.1 (by decide) (by decide)
  rw [show first (nats [1, 2]) (nats [1, 3]) = 1 from v5] at s8
  clear l8
  go_wp2_with fail
  refine s8.mono ?_
  rintro e w8 ⟨rfl, D8⟩
  go_wp2_with fail
  go_ret
  exact ⟨rfl, (D0.out.alloc _).trans D8.out⟩

end Go.Proofs.Ytaciamnfkidmfaa
