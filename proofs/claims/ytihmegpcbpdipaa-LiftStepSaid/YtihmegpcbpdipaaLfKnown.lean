/-
  'known' of the lift. By an AI agent.
-/
import Derived.Test.YtihmegpcbpdipaaLfPatch
namespace Go.Proofs.Ytihmegpcbpdipaa
open Go.RowKit

/-- A patch of a lift's list, as it reads. -/
def toPt (p : Pv) : PtD := ⟨(p.1.m : Int), (p.1.r : Int), p.2, ints p.1.bs⟩

/-- A list that came out, as it reads. -/
theorem pts_of {w : World} {v : Value} {A : List Pv} (h : OwnW 3 w 0 49 v (A.map pvSlot)) (hp : Pool w (A.map pvRow)) (hl : A.length ≤ 1000000) (hb : ∀ p ∈ A, p.1.bs.length ≤ 1000000) : Pts w v (A.map toPt) := by
  rcases h.2.2 with ⟨rfl, h0⟩ | ⟨g, cap, cur, rfl, _, hg, _⟩
  · have : A = [] := List.eq_nil_of_length_eq_zero (by simpa using h0)
    subst this
    exact .inl ⟨rfl, _, _, rfl⟩
  · refine .inr ⟨g, 0, cap, by rw [List.length_map, List.length_map], (Array.getElem?_eq_some_iff.1 hg).1, by rw [List.length_map]; omega, fun i d hd => ?_⟩
    rw [List.getElem?_map] at hd
    obtain ⟨p, hpi, rfl⟩ := Option.map_eq_some_iff.1 hd
    rw [List.length_map] at h
    obtain ⟨g', e, c0, c1, c2⟩ := least_of_cells (n := A.length) h.rd hpi
    obtain rfl : g = g' := by simpa using e
    obtain ⟨e1, ho⟩ := hp.row (pvRow p) (List.mem_map_of_mem (List.mem_of_getElem? hpi))
    rw [Nat.zero_add]
    have hpl := hb p (List.mem_of_getElem? hpi)
    exact ⟨c0, c1, c2, Sl.owned ho, by show (ints p.1.bs).length ≤ _; rw [ints_length]; omega⟩

/-- A new patch, as a thing. -/
theorem Side.patch {w0 w w' : World} {ts : List Thing} {g : Nat} {bs : List Nat} (h : Side w0 w ts) (o : w'.ownsRow w.heap.size 5 1 (.slice (some ⟨g, 0, none⟩) 128 128) 128 (ub bs)) (c : Chg [] w w') : Side w0 w' (ownT 5 (.slice (some ⟨g, 0, none⟩) 128 128) (ub bs) :: ts) := h.own o c

theorem Side.sl {w0 w : World} {ts : List Thing} {e : TypeId} {v : Value} {bs : List Nat} (h : Side w0 w ts) (i : Nat) (hi : ts[i]? = some (ownT e v (ub bs))) : Sl w v (ints bs) := by
  have o : w.ownsRow 0 e 1 v (ub bs).length (ub bs) := h.get i hi
  exact Sl.owned o

/-- Blocks of two of them. -/
theorem Side.offAt {w0 w : World} {ts : List Thing} {a b : Thing} (h : Side w0 w ts) (i j : Nat) (hi : ts[i]? = some a) (hj : ts[j]? = some b) (hij : i ≠ j) : a.off b := by
  obtain ⟨hi1, rfl⟩ := List.getElem?_eq_some_iff.1 hi
  obtain ⟨hj1, rfl⟩ := List.getElem?_eq_some_iff.1 hj
  have hp := List.pairwise_iff_getElem.1 h.apart
  rcases Nat.lt_or_gt_of_ne hij with q | q
  · exact hp i j hi1 hj1 q
  · exact (hp j i hj1 hi1 q).symm

theorem full_by (n : Nat) (h : n ≤ 255) : By (ints (full n)) := fun x hx => by
  unfold ints full at hx
  rw [List.map_replicate] at hx
  have := List.eq_of_mem_replicate hx
  omega

def kS : List Pd := [⟨1, 2, full 98⟩, ⟨0, 5, full 100⟩, ⟨2, 5, full 99⟩, ⟨0, 7, full 97⟩]
def kW : List Pd := [⟨0, 5, full 100⟩, ⟨2, 5, full 99⟩, ⟨0, 7, full 97⟩, ⟨1, 2, full 98⟩]

theorem kS_ins : Lf.ins ⟨0, 5, full 100⟩ (Lf.ins ⟨2, 5, full 99⟩ (Lf.ins ⟨1, 2, full 98⟩ (Lf.ins ⟨0, 7, full 97⟩ []))) = kS := by
  simp [Lf.ins, Lf.lt, kS]

theorem kS_srt : Lf.Srt kS := by
  simp [Lf.Srt, kS, Lf.lt]

theorem kS_way : Lf.way 5 kS = kW := by
  simp [Lf.way, kS, kW]

theorem kS_stop : Lf.stop 5 kW = 2 := rfl

set_option maxHeartbeats 400000 in
set_option maxRecDepth 100000 in
theorem known_any (C : LiftCons) (w : World) : Calls Try.prog 7 #[] w (Says w (.bool true)) := by
  have CN := Lib.hid C.new_ok
  have CP := Lib.hid C.put_ok
  have CA := Lib.hid C.all
  have CL := Lib.hid C.len
  have CR := Lib.hid C.row
  have KP := Lib.hid patch_any
  go_enter Try.func7, Try.ntmps7
  go_wp2_with fail
  refine (CN.out 5 (by decide) w w [] (Side.nil (Chg.refl _ _))).mono ?_
  rintro e w1 ⟨P, F, rfl, H⟩
  go_wp2_with fail
  refine (KP.out 0 7 97 _).mono ?_
  rintro e w2 ⟨g, rfl, O, D⟩
  have H2 := Lib.hid (H.out.patch O.out D.out)
  clear H O D
  go_wp2_with fail
  refine (CP.out w _ _ P 5 ([]) F ⟨0, 7, full 97⟩ _ (by decide) (by decide) (full_len _) (H2.out.sl 0 rfl) (full_by _ (by decide)) (fun b hb hm => H2.out.offAt 0 1 rfl rfl (by decide) b (by simpa [ownT] using hb) hm) List.Pairwise.nil (Nat.zero_le _) (H2.out.front 1)).mono ?_
  rintro e w1 ⟨rfl, F, H3⟩
  have H := Lib.hid (H3.out.front 1).tail
  clear H2 H3
  go_wp2_with fail
  refine (KP.out 1 2 98 _).mono ?_
  rintro e w2 ⟨g, rfl, O, D⟩
  have H2 := Lib.hid (H.out.patch O.out D.out)
  clear H O D
  go_wp2_with fail
  refine (CP.out w _ _ P 5 (Lf.ins ⟨0, 7, full 97⟩ []) F ⟨1, 2, full 98⟩ _ (by decide) (by decide) (full_len _) (H2.out.sl 0 rfl) (full_by _ (by decide)) (fun b hb hm => H2.out.offAt 0 1 rfl rfl (by decide) b (by simpa [ownT] using hb) hm) (Lf.srt_ins List.Pairwise.nil) (by show _ ≤ _; simp [Lf.ins]) (H2.out.front 1)).mono ?_
  rintro e w1 ⟨rfl, F, H3⟩
  have H := Lib.hid (H3.out.front 1).tail
  clear H2 H3
  go_wp2_with fail
  refine (KP.out 2 5 99 _).mono ?_
  rintro e w2 ⟨g, rfl, O, D⟩
  have H2 := Lib.hid (H.out.patch O.out D.out)
  clear H O D
  go_wp2_with fail
  refine (CP.out w _ _ P 5 (Lf.ins ⟨1, 2, full 98⟩ (Lf.ins ⟨0, 7, full 97⟩ [])) F ⟨2, 5, full 99⟩ _ (by decide) (by decide) (full_len _) (H2.out.sl 0 rfl) (full_by _ (by decide)) (fun b hb hm => H2.out.offAt 0 1 rfl rfl (by decide) b (by simpa [ownT] using hb) hm) (Lf.srt_ins (Lf.srt_ins List.Pairwise.nil)) (by show _ ≤ _; simp [Lf.ins, Lf.lt]) (H2.out.front 1)).mono ?_
  rintro e w1 ⟨rfl, F, H3⟩
  have H := Lib.hid (H3.out.front 1).tail
  clear H2 H3
  go_wp2_with fail
  refine (KP.out 0 5 100 _).mono ?_
  rintro e w2 ⟨g, rfl, O, D⟩
  have H2 := Lib.hid (H.out.patch O.out D.out)
  clear H O D
  go_wp2_with fail
  refine (CP.out w _ _ P 5 (Lf.ins ⟨2, 5, full 99⟩ (Lf.ins ⟨1, 2, full 98⟩ (Lf.ins ⟨0, 7, full 97⟩ []))) F ⟨0, 5, full 100⟩ _ (by decide) (by decide) (full_len _) (H2.out.sl 0 rfl) (full_by _ (by decide)) (fun b hb hm => H2.out.offAt 0 1 rfl rfl (by decide) b (by simpa [ownT] using hb) hm) (Lf.srt_ins (Lf.srt_ins (Lf.srt_ins List.Pairwise.nil))) (by show _ ≤ _; simp [Lf.ins, Lf.lt]) (H2.out.front 1)).mono ?_
  rintro e w1 ⟨rfl, F, H3⟩
  have H := Lib.hid (H3.out.front 1).tail
  clear H2 H3
  rw [kS_ins] at H
  go_wp2_with fail
  refine (CA.out w _ _ P 5 kS F kS_srt (by show _ ≤ _; simp [kS]) H.out).mono ?_
  rintro e w3 ⟨v, A, F, rfl, WA, H⟩
  rw [kS_way] at WA
  rw [kS_way, kS_stop] at H
  have AL : Hid (A.length = 4) := by have h := congrArg List.length WA.out; unfold dOf at h; rw [List.length_map] at h; exact h
  obtain ⟨vo, vc, hv⟩ := (show OwnW 3 w3 0 49 v (A.map pvSlot) from H.out.get 1 rfl).slice
  rw [List.length_map, AL.out] at hv
  subst hv
  go_wp2_with fail
  refine (KP.out 0 5 100 _).mono ?_
  rintro e w2 ⟨g0, rfl, O, D⟩
  have H2 := Lib.hid (H.out.patch O.out D.out)
  have H := H2
  clear H2 O D
  go_wp2_with fail
  refine (KP.out 2 5 99 _).mono ?_
  rintro e w2 ⟨g1, rfl, O, D⟩
  have H2 := Lib.hid (H.out.patch O.out D.out)
  have H := H2
  clear H2 O D
  go_wp2_with fail
  refine (KP.out 0 7 97 _).mono ?_
  rintro e w2 ⟨g2, rfl, O, D⟩
  have H2 := Lib.hid (H.out.patch O.out D.out)
  have H := H2
  clear H2 O D
  go_wp2_with fail
  refine (KP.out 1 2 98 _).mono ?_
  rintro e w2 ⟨g3, rfl, O, D⟩
  have H2 := Lib.hid (H.out.patch O.out D.out)
  have H := H2
  clear H2 O D
  have OA : OwnW 3 w2 0 49 (.slice vo 4 vc) (A.map pvSlot) := H.out.get 5 rfl
  have PA : Pool w2 (A.map pvRow) := H.out.get 6 rfl
  have bl : ∀ p ∈ A, p.1.bs.length ≤ 1000000 := fun p hp => by
    have h : p.1 ∈ kW := by rw [← WA.out]; exact List.mem_map.2 ⟨p, hp, rfl⟩
    simp only [kW, List.mem_cons, List.not_mem_nil, or_false] at h
    rcases h with h | h | h | h <;> (rw [h]; show (full _).length ≤ _; rw [full_len]; decide)
  have PT := Lib.hid (pts_of OA PA (by have := AL.out; omega) bl)
  have B4 : Hid (Blk (w2.alloc (.cells #[.int .i64 0, .int .i64 5, .slice (some ⟨g0, 0, none⟩) 128 128, .int .i64 2, .int .i64 5, .slice (some ⟨g1, 0, none⟩) 128 128, .int .i64 0, .int .i64 7, .slice (some ⟨g2, 0, none⟩) 128 128, .int .i64 1, .int .i64 2, .slice (some ⟨g3, 0, none⟩) 128 128] 49)) w2.heap.size 49 [.int .i64 0, .int .i64 5, .slice (some ⟨g0, 0, none⟩) 128 128, .int .i64 2, .int .i64 5, .slice (some ⟨g1, 0, none⟩) 128 128, .int .i64 0, .int .i64 7, .slice (some ⟨g2, 0, none⟩) 128 128, .int .i64 1, .int .i64 2, .slice (some ⟨g3, 0, none⟩) 128 128]) := Blk.made w2 [_, _, _, _, _, _, _, _, _, _, _, _] _
  have H5 := Lib.hid (H.out.quiet ((Chg.refl _ _).alloc (.cells #[.int .i64 0, .int .i64 5, .slice (some ⟨g0, 0, none⟩) 128 128, .int .i64 2, .int .i64 5, .slice (some ⟨g1, 0, none⟩) 128 128, .int .i64 0, .int .i64 7, .slice (some ⟨g2, 0, none⟩) 128 128, .int .i64 1, .int .i64 2, .slice (some ⟨g3, 0, none⟩) 128 128] 49)))
  have CZ : Chg [] w2 (w2.alloc (.cells #[.int .i64 0, .int .i64 5, .slice (some ⟨g0, 0, none⟩) 128 128, .int .i64 2, .int .i64 5, .slice (some ⟨g1, 0, none⟩) 128 128, .int .i64 0, .int .i64 7, .slice (some ⟨g2, 0, none⟩) 128 128, .int .i64 1, .int .i64 2, .slice (some ⟨g3, 0, none⟩) 128 128] 49)) := (Chg.refl _ _).alloc _
  replace PT := Lib.hid (PT.out.chg CZ)
  obtain ⟨X, hX⟩ : ∃ X, w2.heap.size = X := ⟨_, rfl⟩
  rw [hX] at B4
  replace hX := Lib.hid hX
  obtain ⟨wz, hwz⟩ : ∃ wz, (w2.alloc (.cells #[.int .i64 0, .int .i64 5, .slice (some ⟨g0, 0, none⟩) 128 128, .int .i64 2, .int .i64 5, .slice (some ⟨g1, 0, none⟩) 128 128, .int .i64 0, .int .i64 7, .slice (some ⟨g2, 0, none⟩) 128 128, .int .i64 1, .int .i64 2, .slice (some ⟨g3, 0, none⟩) 128 128] 49)) = wz := ⟨_, rfl⟩
  rw [hwz] at B4 H5 PT
  replace hwz := Lib.hid hwz
  have W4 : Hid (Pts wz (.slice (some ⟨X, 0, none⟩) 4 4) [⟨0, 5, .slice (some ⟨g0, 0, none⟩) 128 128, ints (full 100)⟩, ⟨2, 5, .slice (some ⟨g1, 0, none⟩) 128 128, ints (full 99)⟩, ⟨0, 7, .slice (some ⟨g2, 0, none⟩) 128 128, ints (full 97)⟩, ⟨1, 2, .slice (some ⟨g3, 0, none⟩) 128 128, ints (full 98)⟩]) := by
    have fl : ∀ n, (ints (full n)).length ≤ 140737488355328 := fun n => by rw [ints_length, full_len]; decide
    refine .inr ⟨X, 0, 4, rfl, B4.out.lt, by simp, fun i d hd => ?_⟩
    have hi : i < 4 := (List.getElem?_eq_some_iff.1 hd).1
    match i, hi with
    | 0, _ => obtain rfl := Option.some.inj hd; exact ⟨B4.out.cell (j := 0) rfl, B4.out.cell (j := 1) rfl, B4.out.cell (j := 2) rfl, H5.out.sl 3 rfl, fl _⟩
    | 1, _ => obtain rfl := Option.some.inj hd; exact ⟨B4.out.cell (j := 3) rfl, B4.out.cell (j := 4) rfl, B4.out.cell (j := 5) rfl, H5.out.sl 2 rfl, fl _⟩
    | 2, _ => obtain rfl := Option.some.inj hd; exact ⟨B4.out.cell (j := 6) rfl, B4.out.cell (j := 7) rfl, B4.out.cell (j := 8) rfl, H5.out.sl 1 rfl, fl _⟩
    | 3, _ => obtain rfl := Option.some.inj hd; exact ⟨B4.out.cell (j := 9) rfl, B4.out.cell (j := 10) rfl, B4.out.cell (j := 11) rfl, H5.out.sl 0 rfl, fl _⟩
  have KK : Hid (∀ (i : Nat) (p q : PtD), (A.map toPt)[i]? = some p → ([⟨0, 5, .slice (some ⟨g0, 0, none⟩) 128 128, ints (full 100)⟩, ⟨2, 5, .slice (some ⟨g1, 0, none⟩) 128 128, ints (full 99)⟩, ⟨0, 7, .slice (some ⟨g2, 0, none⟩) 128 128, ints (full 97)⟩, ⟨1, 2, .slice (some ⟨g3, 0, none⟩) 128 128, ints (full 98)⟩] : List PtD)[i]? = some q → p.alike q) := fun i p q hp hq => by
    rw [List.getElem?_map] at hp
    obtain ⟨x, hx, rfl⟩ := Option.map_eq_some_iff.1 hp
    have hk : kW[i]? = some x.1 := by rw [← WA.out]; unfold dOf; rw [List.getElem?_map, hx]; rfl
    have hi : i < 4 := (List.getElem?_eq_some_iff.1 hq).1
    match i, hi with
    | 0, _ => obtain rfl := Option.some.inj hq; have e := Option.some.inj hk; unfold toPt; rw [← e]; exact ⟨rfl, rfl, rfl⟩
    | 1, _ => obtain rfl := Option.some.inj hq; have e := Option.some.inj hk; unfold toPt; rw [← e]; exact ⟨rfl, rfl, rfl⟩
    | 2, _ => obtain rfl := Option.some.inj hq; have e := Option.some.inj hk; unfold toPt; rw [← e]; exact ⟨rfl, rfl, rfl⟩
    | 3, _ => obtain rfl := Option.some.inj hq; have e := Option.some.inj hk; unfold toPt; rw [← e]; exact ⟨rfl, rfl, rfl⟩
  clear OA PA bl CZ B4
  have SM := Lib.hid (samePts_true (.slice vo 4 vc) _ _ _ wz PT.out W4.out (by rw [List.length_map, AL.out]; rfl) KK.out)
  have RW : Hid (∀ w', Chg [] wz w' → Calls Try.prog 23 #[.pointer (some ⟨P, 0, none⟩)] w' fun e w'' => e = .returned (.int .i64 2) ∧ ∃ q, w'' = w'.drewN q) := fun w' c => CR.out w' P 2 [] F ((H5.out.quiet c).get 4 rfl)
  have LW : Hid (∀ w', Chg [] wz w' → Calls Try.prog 22 #[.pointer (some ⟨P, 0, none⟩)] w' fun e w'' => e = .returned (.int .i64 0) ∧ ∃ q, w'' = w'.drewN q) := fun w' c => CL.out w' P 2 [] F ((H5.out.quiet c).get 4 rfl) (Nat.zero_le _)
  have EN := Lib.hid H5.out.chg
  clear H H5 PT W4 KK CN CP CA CL CR KP AL WA
  go_wp2_with fail
  rw [hX.out, hwz.out]
  refine SM.out.mono ?_
  rintro e w5 ⟨rfl, q, rfl⟩
  go_wp2_with fail
  refine (RW.out _ ((Chg.refl _ _).drewN q)).mono ?_
  rintro e w6 ⟨rfl, q6, rfl⟩
  go_wp2_with fail
  refine (LW.out _ ((Chg.refl _ _).drewN (q + q6))).mono ?_
  rintro e w7 ⟨rfl, q7, rfl⟩
  go_wp2_with fail
  go_ret
  exact ⟨rfl, EN.out.drewN _⟩

end Go.Proofs.Ytihmegpcbpdipaa
