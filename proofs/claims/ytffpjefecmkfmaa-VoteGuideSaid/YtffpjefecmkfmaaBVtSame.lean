/-
  Superblocks that differ in their role at most. By an AI agent.
-/
import Derived.Test.YtffpjefecmkfmaaBSpDec
import Derived.Test.YtffpjefecmkfmaaBVtSpec
namespace Go.Proofs.Ytffpjefecmkfmaa
open Go.RowKit Crc

theorem strOf_inj {xs ys : List Int} (hx : By xs) (hy : By ys) (h : strOfNums xs = strOfNums ys) : xs = ys := by
  have h1 := congrArg (fun s : ByteArray => s.data.toList) h
  simp only [strOfNums_data] at h1
  have hl : xs.length = ys.length := by
    have := congrArg List.length h1
    simpa using this
  apply List.ext_getElem hl
  intro i hi hj
  have h2 : (xs.map fun n => UInt8.ofNat n.toNat)[i]? = (ys.map fun n => UInt8.ofNat n.toNat)[i]? := by rw [h1]
  rw [List.getElem?_map, List.getElem?_map, List.getElem?_eq_getElem hi, List.getElem?_eq_getElem hj] at h2
  simp only [Option.map_some, Option.some.injEq] at h2
  have b1 := hx _ (List.getElem_mem hi)
  have b2 := hy _ (List.getElem_mem hj)
  have h3 := congrArg UInt8.toNat h2
  simp only [UInt8.toNat_ofNat'] at h3
  omega

theorem bytes_loop (bs : ByteArray) : ∀ (k i : Nat) (r : List UInt8), bs.size - i = k → ByteArray.toList.loop bs i r = r.reverse ++ bs.data.toList.drop i
  | 0, i, r, h => by
    unfold ByteArray.toList.loop
    rw [if_neg (by omega), List.drop_eq_nil_of_le (by have : bs.data.toList.length = bs.size := by rw [Array.length_toList]; rfl
                                                      omega)]
    simp
  | k + 1, i, r, h => by
    unfold ByteArray.toList.loop
    have hi : i < bs.size := by omega
    have hl : i < bs.data.toList.length := by have : bs.data.toList.length = bs.size := by rw [Array.length_toList]; rfl
                                              omega
    rw [if_pos hi, bytes_loop bs k (i + 1) _ (by omega), List.drop_eq_getElem_cons hl]
    have e : bs.get! i = bs.data.toList[i] := by
      show bs.data[i]! = _
      rw [getElem!_pos bs.data i hi, Array.getElem_toList]
    rw [e]
    simp

theorem bytes_list (bs : ByteArray) : bs.toList = bs.data.toList := by
  unfold ByteArray.toList
  rw [bytes_loop bs _ 0 [] rfl]
  rfl

set_option maxHeartbeats 400000 in
set_option maxRecDepth 100000 in
theorem equal_gen (va vb : Value) (xs ys : List Int) (w : World) (hx : xs ≠ []) (hy : ys ≠ []) (bx : By xs) (by' : By ys) (ha : Sl w va xs) (hb : Sl w vb ys) :
    Calls Try.prog 38 #[va, vb] w fun e w' => e = .returned (.bool (decide (xs = ys))) ∧ Hid (Chg [] w w') := by
  have KE : decide (xs = ys) = ((strOfNums xs).toList == (strOfNums ys).toList) := by
    rw [Bool.eq_iff_iff, decide_eq_true_eq, beq_iff_eq, bytes_list, bytes_list]
    refine ⟨fun h => by rw [h], fun h => strOf_inj bx by' (Go.WideShapes.bytes_inj h)⟩
  rw [KE]
  clear KE bx by'
  rcases ha with ⟨h0, _⟩ | ⟨b1, o1, c1, rfl, l1, k1⟩
  · exact absurd h0 hx
  rcases hb with ⟨h0, _⟩ | ⟨b2, o2, c2, rfl, l2, k2⟩
  · exact absurd h0 hy
  have q1 : (convert 65 9 (.slice (some ⟨b1, o1, none⟩) xs.length c1)).run Try.prog w = .ok (.string (strOfNums xs)) w := run_convert_bytes_arg w 65 5 Try.underlying65 Try.underlying5 b1 o1 xs.length c1 xs rfl k1 9 Try.underlying9
  have q2 : (convert 65 9 (.slice (some ⟨b2, o2, none⟩) ys.length c2)).run Try.prog w = .ok (.string (strOfNums ys)) w := run_convert_bytes_arg w 65 5 Try.underlying65 Try.underlying5 b2 o2 ys.length c2 ys rfl k2 9 Try.underlying9
  generalize strOfNums xs = S at *
  generalize strOfNums ys = T at *
  clear k1 k2 hx hy
  go_enter Try.func38, Try.ntmps38
  go_wp2_with fail
  go_ret
  exact ⟨rfl, Chg.refl _ _⟩

/-- Without its role. -/
def Sup.bare (s : Sup) : Sup := { s with role := 0 }

theorem Sup.bare_ok {s : Sup} (h : s.Ok) : s.bare.Ok := by
  obtain ⟨h1, ⟨b1, b2, b3, b4, b5, b6, b7, b8, b9⟩, h3, h4⟩ := h
  exact ⟨h1, ⟨b1, b2, b3, b4, Int.le_refl 0, Int.le_trans b5 b6, b7, b8, b9⟩, h3, h4⟩

theorem Sup.bare_fit {s : Sup} (h : s.Fit) : s.bare.Fit := ⟨h.id, h.ev, h.safe, ⟨by show (-9223372036854775808 : Int) ≤ 0; decide, by show (0 : Int) ≤ 9223372036854775807; decide⟩, h.m, h.c, h.t, h.ring, h.cur, h.st⟩

set_option maxRecDepth 10000 in
theorem Sup.flags_inj {a b : Sup} (h : a.flags = b.flags) : a.lazy = b.lazy ∧ a.lost = b.lost := by
  unfold Sup.flags at h
  cases h1 : a.lazy <;> cases h2 : b.lazy <;> cases h3 : a.lost <;> cases h4 : b.lost <;> simp [h1, h2, h3, h4] at h ⊢

theorem pad16_inj {a b : List Int} (hl : a.length = b.length) (h : pad16 a = pad16 b) : a = b := by
  unfold pad16 at h
  have h1 := List.append_inj_left h (by simp [hl])
  exact List.map_inj_right (f := Value.int .u8) (fun x y e => by simpa using e) |>.1 h1

set_option maxRecDepth 100000 in
theorem Sup.like_sector {a b : Sup} (ha : a.Ok) (hb : b.Ok) (fa : a.Fit) (fb : b.Fit) : a.like b = decide (ints a.bare.sector = ints b.bare.sector) := by
  rw [Bool.eq_iff_iff, decide_eq_true_eq]
  constructor
  · intro h
    have : a.bare = b.bare := by
      unfold Sup.like at h
      simp only [Bool.and_eq_true, beq_iff_eq] at h
      obtain ⟨⟨⟨⟨⟨⟨⟨⟨h1, h2⟩, h3⟩, ⟨h4, h5⟩, h6⟩, h7⟩, h8⟩, h9⟩, h10⟩, h11⟩ := h
      unfold Sup.bare
      rw [h1, h2, h3, h4, h5, h6, h7, h8, h9, h10, h11]
    rw [this]
  · intro h
    have h1 := unpacked_sup a.bare (Sup.bare_ok ha) (Sup.bare_fit fa)
    rw [h, unpacked_sup b.bare (Sup.bare_ok hb) (Sup.bare_fit fb)] at h1
    unfold Sup.conts at h1
    have l1 : (a.st.length : Int) = a.m := ha.2.1.2.2.2.2.2.2.2.2
    have l2 : (b.st.length : Int) = b.m := hb.2.1.2.2.2.2.2.2.2.2
    have g := List.append_inj' h1 (by simp)
    have g1 := List.append_inj g.1 (by simp)
    have g2 := g1.1
    simp only [List.cons.injEq, Value.int.injEq, true_and, and_true, Sup.raw, Sup.bare] at g2
    obtain ⟨e1, e2, e3, e4, e5, e6, e7, e8, e9⟩ := g2
    have hm : a.m = b.m := e4.symm
    have hst : a.st = b.st := pad16_inj (by omega) g1.2.symm
    have hfl := Sup.flags_inj (a := a) (b := b) (by
      have : (b.bare.flags : Int) = (a.bare.flags : Int) := e9
      have h2 : a.bare.flags = b.bare.flags := by omega
      exact h2)
    unfold Sup.like
    simp only [Bool.and_eq_true, beq_iff_eq]
    refine ⟨⟨⟨⟨⟨⟨⟨⟨?_, ?_⟩, ?_⟩, ⟨?_, ?_⟩, ?_⟩, ?_⟩, hfl.1⟩, hfl.2⟩, ?_⟩, hst⟩ <;> omega

set_option maxHeartbeats 4000000 in
set_option maxRecDepth 100000 in
theorem same_any (a b : Sup) (u v : Value) (w : World) (ha : a.Ok) (hb : b.Ok) (fa : a.Fit) (fb : b.Fit) (hu : Sl w u a.st) (hv : Sl w v b.st) (ga : a.st.length ≤ 140737488355328) (gb : b.st.length ≤ 140737488355328) :
    Calls Try.prog 34 #[a.val u, b.val v] w fun e w' => e = .returned (.bool (a.like b)) ∧ Hid (Chg [] w w') := by
  have oa := Sup.bare_ok ha
  have ob := Sup.bare_ok hb
  have EA := Lib.hid (fun W (c : Chg [] w W) => enc_any a.bare u W (Sup.bare_fit fa) (hu.chg c (by simp)) ga)
  have EB := Lib.hid (fun W (c : Chg [] w W) => enc_any b.bare v W (Sup.bare_fit fb) (hv.chg c (by simp)) gb)
  have ea : a.bare.enc = a.bare.sector := by unfold Sup.enc; rw [if_pos oa]
  have eb : b.bare.enc = b.bare.sector := by unfold Sup.enc; rw [if_pos ob]
  have la : a.bare.sector.length = 128 := Sup.sector_length (by have := oa.len; omega)
  have lb : b.bare.sector.length = 128 := Sup.sector_length (by have := ob.len; omega)
  have KE := Sup.like_sector ha hb fa fb
  have sa : By (ints a.bare.sector) := ints_by (Sup.sector_bs (Sup.bare_fit fa))
  have sb : By (ints b.bare.sector) := ints_by (Sup.sector_bs (Sup.bare_fit fb))
  rw [KE]
  have FIN : Hid (∀ x y w', Sl w' x (ints a.bare.sector) → Sl w' y (ints b.bare.sector) → Calls Try.prog 38 #[x, y] w' fun e w'' => e = .returned (.bool (decide (ints a.bare.sector = ints b.bare.sector))) ∧ Hid (Chg [] w' w'')) := fun x y w' h1 h2 =>
    equal_gen x y _ _ w' (fun e => by have := congrArg List.length e; rw [ints_length, la] at this; cases this) (fun e => by have := congrArg List.length e; rw [ints_length, lb] at this; cases this) sa sb h1 h2
  unfold Encs at EA EB
  rw [ea] at EA
  rw [eb] at EB
  clear ea eb la lb sa sb KE
  generalize ints a.bare.sector = XA at *
  generalize ints b.bare.sector = XB at *
  generalize a.bare.sector.length = NA at *
  generalize b.bare.sector.length = NB at *
  obtain ⟨uo, uc, rfl⟩ := hu.slice
  obtain ⟨vo, vc, rfl⟩ := hv.slice
  generalize hEa : a.bare.err = erA at *
  generalize hEb : b.bare.err = erB at *
  clear hEa hEb oa ob ha hb fa fb hu hv ga gb
  unfold Sup.val at *
  simp only [Sup.bare] at EA EB
  generalize a.st.length = na at *
  generalize b.st.length = nb at *
  generalize (a.id : Int) = p1 at *
  generalize (a.ev : Int) = p2 at *
  generalize (a.safe : Int) = p3 at *
  generalize a.role = p4 at *
  generalize a.m = p5 at *
  generalize a.c = p6 at *
  generalize a.t = p7 at *
  generalize a.ring = p8 at *
  generalize a.lazy = p9 at *
  generalize a.lost = pa at *
  generalize a.cur = pb at *
  generalize (b.id : Int) = q1 at *
  generalize (b.ev : Int) = q2 at *
  generalize (b.safe : Int) = q3 at *
  generalize b.role = q4 at *
  generalize b.m = q5 at *
  generalize b.c = q6 at *
  generalize b.t = q7 at *
  generalize b.ring = q8 at *
  generalize b.lazy = q9 at *
  generalize b.lost = qa at *
  generalize b.cur = qb at *
  clear a b
  go_enter Try.func34, Try.ntmps34
  go_wp2_with fail
  obtain ⟨W2, hW2⟩ : ∃ W2, W2 = (w.alloc (.cells #[.int .u64 p1, .int .u64 p2, .int .u64 p3, .int .i64 0, .int .i64 p5, .int .i64 p6, .int .i64 p7, .int .i64 p8, .bool p9, .bool pa, .slice uo na uc, .int .i64 pb] 29)).alloc (.cells #[.int .u64 q1, .int .u64 q2, .int .u64 q3, .int .i64 0, .int .i64 q5, .int .i64 q6, .int .i64 q7, .int .i64 q8, .bool q9, .bool qa, .slice vo nb vc, .int .i64 qb] 29) := ⟨_, rfl⟩
  obtain ⟨_, B2, C2⟩ := two_blocks w [.int .u64 p1, .int .u64 p2, .int .u64 p3, .int .i64 0, .int .i64 p5, .int .i64 p6, .int .i64 p7, .int .i64 p8, .bool p9, .bool pa, .slice uo na uc, .int .i64 pb] [.int .u64 q1, .int .u64 q2, .int .u64 q3, .int .i64 0, .int .i64 q5, .int .i64 q6, .int .i64 q7, .int .i64 q8, .bool q9, .bool qa, .slice vo nb vc, .int .i64 qb] 29 29 hW2
  rw [← hW2]
  clear hW2
  refine (EA.out W2 C2).mono ?_
  rintro e w3 ⟨x, rfl, OX, C3⟩
  have C3' := Lib.hid (C2.trans C3.out)
  replace B2 := Lib.hid (B2.chg C3.out (by simp))
  have SX : Hid (Sl w3 x XA) := Sl.owned OX.out
  have k0 := B2.out.cell (j := 0) rfl
  have k1 := B2.out.cell (j := 1) rfl
  have k2 := B2.out.cell (j := 2) rfl
  have k3 := B2.out.cell (j := 3) rfl
  have k4 := B2.out.cell (j := 4) rfl
  have k5 := B2.out.cell (j := 5) rfl
  have k6 := B2.out.cell (j := 6) rfl
  have k7 := B2.out.cell (j := 7) rfl
  have k8 := B2.out.cell (j := 8) rfl
  have k9 := B2.out.cell (j := 9) rfl
  have k10 := B2.out.cell (j := 10) rfl
  have k11 := B2.out.cell (j := 11) rfl
  clear EA C2 C3 OX
  go_wp2_with fail
  refine (EB.out w3 C3'.out).mono ?_
  rintro e w4 ⟨y, rfl, OY, C4⟩
  have C4' := Lib.hid (C3'.out.trans C4.out)
  have SY : Hid (Sl w4 y XB) := Sl.owned OY.out
  have SX2 : Hid (Sl w4 x XA) := SX.out.chg C4.out (by simp)
  have F := Lib.hid (FIN.out x y w4 SX2.out SY.out)
  obtain ⟨xo, xc, rfl⟩ := SX.out.slice
  obtain ⟨yo, yc, rfl⟩ := SY.out.slice
  clear EB C3' C4 OY SX SX2 SY FIN B2 k0 k1 k2 k3 k4 k5 k6 k7 k8 k9 k10 k11
  generalize XA.length = nx at *
  generalize XB.length = ny at *
  go_wp2_with fail
  refine F.out.mono ?_
  rintro e w5 ⟨rfl, C5⟩
  have C5' := Lib.hid (C4'.out.trans C5.out)
  clear F C4' C5
  go_wp2_with fail
  go_ret
  exact ⟨rfl, C5'⟩

end Go.Proofs.Ytffpjefecmkfmaa
