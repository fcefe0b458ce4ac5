/-
  The program's bay: New. By an AI agent.
-/
import Derived.Test.YtljhpdgjajhgbaaBySwap
import Derived.Test.YtljhpdgjajhgbaaGInMore
namespace Go.Proofs.Ytljhpdgjajhgbaa
open Go.RowKit Go.Maps

/-- A new bay, or none. -/
def BNewed (w : World) (sizes : List Int) (e : Ending) (w' : World) : Prop :=
  (Bay.newErr sizes ≠ 0 ∧ e = .returned (.tuple #[.pointer none, .int .u16 (Bay.newErr sizes : Nat)]) ∧ Hid (Chg [] w w')) ∨
  (Bay.newErr sizes = 0 ∧ ∃ b F, e = .returned (.tuple #[.pointer (some ⟨b, 0, none⟩), .int .u16 0]) ∧ Hid ((BayT b (Bay.new sizes) F).P w') ∧ Hid (∀ k ∈ F, w.heap.size ≤ k) ∧ Hid (Chg [] w w'))

namespace Bay

def emptySlot : Slot := ⟨none, none, none⟩

/-- The first j slots of a new bay. -/
def newPart (sizes : List Int) (j : Nat) : Bay := ⟨(sizes.take j).map slotOf ++ List.replicate (sizes.length - j) emptySlot, false, none, 0, 0, 0⟩

theorem newPart_len (sizes : List Int) {j : Nat} (h : j ≤ sizes.length) : (newPart sizes j).slots.length = sizes.length := by
  simp [newPart]
  omega

theorem newPart_zero (sizes : List Int) : newPart sizes 0 = ⟨List.replicate sizes.length emptySlot, false, none, 0, 0, 0⟩ := by simp [newPart]

theorem newPart_all (sizes : List Int) : newPart sizes sizes.length = Bay.new sizes := by simp [newPart, Bay.new]

theorem newPart_at (sizes : List Int) {j : Nat} (h : j < sizes.length) : (newPart sizes j).slots[j]? = some emptySlot := by
  have : ((sizes.take j).map slotOf).length = j := by simp; omega
  unfold newPart
  rw [List.getElem?_append_right (by omega), this, Nat.sub_self, List.getElem?_replicate]
  simp [show 0 < sizes.length - j by omega]

theorem newPart_next (sizes : List Int) {j : Nat} {n : Int} (h : sizes[j]? = some n) : newPart sizes (j + 1) = (newPart sizes j).turn j (fun _ => slotOf n) := by
  have hj := (List.getElem?_eq_some_iff.1 h).1
  have hl : ((sizes.take j).map slotOf).length = j := by simp; omega
  have e : (newPart sizes j).slots.modify j (fun _ => slotOf n) = (newPart sizes (j + 1)).slots := by
    have hl2 : ((sizes.take (j + 1)).map slotOf).length = j + 1 := by simp; omega
    apply List.ext_getElem?
    intro m
    rw [List.getElem?_modify]
    by_cases hm : j = m
    · subst hm
      rw [newPart_at sizes hj]
      unfold newPart
      rw [List.getElem?_append_left (by omega), List.getElem?_map, List.getElem?_take_of_lt (by omega), h]
      simp
    · simp only [hm, if_false]
      unfold newPart
      by_cases h1 : m < j
      · rw [List.getElem?_append_left (by omega), List.getElem?_append_left (by omega), List.getElem?_map, List.getElem?_map, List.getElem?_take_of_lt h1, List.getElem?_take_of_lt (by omega)]
        simp
      · rw [List.getElem?_append_right (by omega), List.getElem?_append_right (by omega), hl, hl2, List.getElem?_replicate, List.getElem?_replicate]
        by_cases h2 : m < sizes.length
        · rw [if_pos (by omega), if_pos (by omega)]
          simp
        · rw [if_neg (by omega), if_neg (by omega)]
          simp
  unfold turn
  rw [Int.toNat_natCast, e]
  rfl

theorem slotOf_zero : slotOf 0 = emptySlot := rfl

theorem newPart_skip (sizes : List Int) {j : Nat} (h : sizes[j]? = some 0) : newPart sizes (j + 1) = newPart sizes j := by
  rw [newPart_next sizes h, slotOf_zero]
  have := newPart_at sizes (List.getElem?_eq_some_iff.1 h).1
  unfold turn
  rw [Int.toNat_natCast]
  have e : (newPart sizes j).slots.modify j (fun _ => emptySlot) = (newPart sizes j).slots := by
    apply List.ext_getElem?
    intro m
    rw [List.getElem?_modify]
    by_cases hm : j = m
    · subst hm
      rw [this]
      simp
    · simp [hm]
  rw [e]

theorem newPart_lay (sizes : List Int) {j : Nat} {n : Int} (h : sizes[j]? = some n) (hn : n ≠ 0) : newPart sizes (j + 1) = (newPart sizes j).setIn j ⟨Dk.new n.toNat, none⟩ := by
  rw [newPart_next sizes h]
  unfold setIn
  rw [turn_const (fun x => { x with inn := some ⟨Dk.new n.toNat, none⟩ }) (newPart_at sizes (List.getElem?_eq_some_iff.1 h).1)]
  unfold slotOf
  rw [if_neg hn]
  rfl

theorem newErr_bad {sizes : List Int} (h1 : 1 ≤ sizes.length) (h2 : sizes.length ≤ 17) {n : Int} (hm : n ∈ sizes) (hn : n < 0 ∨ 8192 < n) : newErr sizes = 40 := by
  unfold newErr
  rw [if_neg (by omega), if_pos (List.any_eq_true.2 ⟨n, hm, decide_eq_true hn⟩)]

theorem newErr_good {sizes : List Int} (h1 : 1 ≤ sizes.length) (h2 : sizes.length ≤ 17) (h : ∀ n ∈ sizes, 0 ≤ n ∧ n ≤ 8192) : newErr sizes = 0 := by
  unfold newErr
  rw [if_neg (by omega), if_neg (fun hc => ?_)]
  obtain ⟨n, hm, hn⟩ := List.any_eq_true.1 hc
  have := of_decide_eq_true hn
  have := h n hm
  omega

theorem newErr_many {sizes : List Int} (h : sizes.length < 1 ∨ 17 < sizes.length) : newErr sizes = 1 := by
  unfold newErr
  rw [if_pos h]

theorem newPart_fit {sizes : List Int} (h1 : 1 ≤ sizes.length) (h2 : sizes.length ≤ 17) : (newPart sizes 0).Fit := by
  rw [newPart_zero]
  refine ⟨by simp; omega, fun x hx d hd => ?_, (fun n hn => by cases hn), fun x hx d hd => ?_⟩
  · rw [(List.mem_replicate.1 hx).2] at hd
    rcases hd with hd | hd | hd <;> cases hd
  · rw [(List.mem_replicate.1 hx).2] at hd
    rcases hd with hd | hd <;> cases hd

end Bay

theorem info_tray : (Try.prog.info? 74).map (fun i => (i.zero, i.size, i.bytes)) = some (some (.agg #[.pointer none, .pointer none, .pointer none]), 3, 24) := by kernel_rfl

theorem made_trays (n : Nat) : (madeCells (Value.agg #[.pointer none, .pointer none, .pointer none]).cells (n * 3)).toList = List.replicate (n * 3) (Value.pointer none) := by
  apply List.ext_getElem?
  intro j
  by_cases hj : j < n * 3
  · have hm : j % 3 < 3 := Nat.mod_lt _ (by decide)
    have : j % 3 = 0 ∨ j % 3 = 1 ∨ j % 3 = 2 := by omega
    rcases this with h | h | h <;> simp [madeCells, Value.cells, hj, h]
  · simp [madeCells, Value.cells, hj]

set_option maxHeartbeats 2000000 in
set_option maxRecDepth 100000 in
theorem bnew_any (v : Value) (sizes : List Int) (w : World) (hv : RdV w v (sizes.map (Value.int .i64))) (hi : Is sizes) (hl : sizes.length ≤ 140737488355328) : Calls Try.prog 11 #[v] w (BNewed w sizes) := by
  obtain ⟨vo, vc, rfl⟩ := hv.slice
  rw [List.length_map] at hv ⊢
  by_cases hlo : sizes.length < 1
  · have e := Lib.hid (Bay.newErr_many (.inl hlo))
    have h1 : (sizes.length : Int) < 1 := by omega
    have P : Hid (∀ e0, e0 = .returned (.tuple #[.pointer none, .int .u16 1]) → BNewed w sizes e0 w) := fun e0 he => .inl ⟨by rw [e.out]; decide, by rw [e.out]; exact he, Chg.refl _ _⟩
    clear hv hi e
    go_enter Try.func11, Try.ntmps11
    go_wp2_with fail
    go_ret2
    exact P.out _ rfl
  have h1 : ¬ (sizes.length : Int) < 1 := by omega
  by_cases hhi : 17 < sizes.length
  · have e := Lib.hid (Bay.newErr_many (.inr hhi))
    have h2 : (17 : Int) < sizes.length := by omega
    have P : Hid (∀ e0, e0 = .returned (.tuple #[.pointer none, .int .u16 1]) → BNewed w sizes e0 w) := fun e0 he => .inl ⟨by rw [e.out]; decide, by rw [e.out]; exact he, Chg.refl _ _⟩
    clear hv hi e
    go_enter Try.func11, Try.ntmps11
    go_wp2_with fail
    go_ret2
    exact P.out _ rfl
  have h2 : ¬ (17 : Int) < sizes.length := by omega
  obtain ⟨n, hn⟩ : ∃ n, n = sizes.length := ⟨_, rfl⟩
  have hn1 : 1 ≤ n := by omega
  have hn2 : n ≤ 17 := by omega
  have FIT := Lib.hid (Bay.newPart_fit (sizes := sizes) (by omega) (by omega))
  have BAD : Hid (∀ z ∈ sizes, (z < 0 ∨ 8192 < z) → Bay.newErr sizes = 40) := fun z hm hz => Bay.newErr_bad (by omega) (by omega) hm hz
  have GOOD : Hid ((∀ z ∈ sizes, 0 ≤ z ∧ z ≤ 8192) → Bay.newErr sizes = 0) := fun h => Bay.newErr_good (by omega) (by omega) h
  have HV := Lib.hid hv
  have HI := Lib.hid hi
  rw [← hn] at h1 h2 ⊢
  replace hn := Lib.hid hn
  obtain ⟨i0, ki, kz0, kz1, kz2⟩ := info_parts info_tray
  replace ki := Lib.hid ki
  replace kz0 := Lib.hid kz0
  replace kz1 := Lib.hid kz1
  replace kz2 := Lib.hid kz2
  clear hv hi hl hlo hhi
  go_enter Try.func11, Try.ntmps11
  go_wp2_with (with_reducible refine wpList_make_full _ rfl (.tmp 17) (.tmp 17) 67 rfl w.heap.size 74 i0 _ 3 Try.underlying67 ki.out kz0.out kz1.out .i64 .i64 (n : Int) (n : Int) n rfl rfl rfl rfl (by rw [kz2.out]; omega) (by unfold maxLen; omega) (Nat.le_refl _) ?_; intro w1 ow gr; obtain ⟨B0, hb0⟩ := Blk.ownedN ow; rw [made_trays] at B0; have C1 := Lib.hid ((Chg.refl [] w).grown gr (fun k hk => by cases hk)); replace B0 := Lib.hid B0; clear ow gr hb0)
  have BB := Blk.made w1 [.slice (some ⟨w.heap.size, 0, none⟩) n n, .bool false, .bool false, .int .i64 0, .int .i64 0, .int .i64 0, .int .i64 0] 71
  have CB : Hid (Chg [] w (w1.alloc (.cells #[.slice (some ⟨w.heap.size, 0, none⟩) n n, .bool false, .bool false, .int .i64 0, .int .i64 0, .int .i64 0, .int .i64 0] 71))) := C1.out.alloc _
  have hsz := C1.out.size
  have hlt0 := B0.out.lt
  obtain ⟨b, hb⟩ : ∃ b, b = w1.heap.size := ⟨_, rfl⟩
  have H0 : Hid ((BayT b (Bay.newPart sizes 0) [b, w.heap.size]).P (w1.alloc (.cells #[.slice (some ⟨w.heap.size, 0, none⟩) n n, .bool false, .bool false, .int .i64 0, .int .i64 0, .int .i64 0, .int .i64 0] 71))) := by
    have hln : (Bay.newPart sizes 0).slots.length = n := by rw [Bay.newPart_len sizes (Nat.zero_le _), hn.out]
    have hz : (w1.alloc (.cells #[.slice (some ⟨w.heap.size, 0, none⟩) n n, .bool false, .bool false, .int .i64 0, .int .i64 0, .int .i64 0, .int .i64 0] 71)).heap.size = w1.heap.size + 1 := by simp
    refine ⟨fun k hk => ?_, FIT.out, w.heap.size, List.replicate (n * 3) (.pointer none), fun _ _ => none, fun _ _ => [], ⟨?_, B0.out.alloc _, by rw [hln]; simp, fun i j hi hj => ?_, fun i j => .inl ⟨?_, rfl, rfl⟩, (fun _ _ _ _ _ k hk => by cases hk), (fun _ _ k hk => by cases hk), (by omega), (by simp), (by simp), (fun _ _ k hk => by cases hk)⟩⟩
    · rw [hz]
      rcases List.mem_cons.1 hk with rfl | hk
      · omega
      · rw [List.mem_singleton.1 hk]; omega
    · rw [hln, Bay.newPart_zero, hb]
      exact BB
    · rw [hln] at hi
      rw [List.getElem?_replicate, if_pos (by omega)]
      rfl
    · unfold Bay.place
      rw [Bay.newPart_zero]
      simp only [List.getElem?_replicate]
      split
      · match j with
        | 0 => rfl
        | 1 => rfl
        | 2 => rfl
        | _ + 3 => rfl
      · rfl
  have HF0 : Hid (∀ k ∈ [b, w.heap.size], w.heap.size ≤ k) := fun k hk => by
    rcases List.mem_cons.1 hk with rfl | hk
    · omega
    · rw [List.mem_singleton.1 hk]; exact Nat.le_refl _
  rw [← hb]
  clear BB hsz hlt0 B0 C1
  generalize w1.alloc (.cells #[.slice (some ⟨w.heap.size, 0, none⟩) n n, .bool false, .bool false, .int .i64 0, .int .i64 0, .int .i64 0, .int .i64 0] 71) = w2 at *
  clear hb
  go_wp2_with fail
  go_loopw [23] (fun i wr => ∃ (j : Nat) (F1 : List Nat), j ≤ n ∧ i = .int .i64 (j : Int) ∧ Hid ((BayT b (Bay.newPart sizes j) F1).P wr) ∧ Hid (∀ k ∈ F1, w.heap.size ≤ k) ∧ Hid (Chg [] w wr) ∧ Hid (∀ a z, a < j → sizes[a]? = some z → 0 ≤ z ∧ z ≤ 8192)) (fun i _ => n - (intOf i).toNat)
  case atStart => exact ⟨0, [b, w.heap.size], Nat.zero_le _, rfl, H0, HF0, CB, (fun a z h => absurd h (Nat.not_lt_zero a))⟩
  case round =>
    obtain ⟨j, F1, hj, rfl, T, HF, C, OKS⟩ := hrel
    clear H0 HF0 CB
    have hj0 : (0 : Int) ≤ j := Int.natCast_nonneg _
    by_cases hlt : j < n
    · have hj1 : (j : Int) < n := by omega
      have hjs : j < sizes.length := by have := hn.out; omega
      obtain ⟨z, hz⟩ : ∃ z, sizes[j]? = some z := ⟨_, List.getElem?_eq_getElem hjs⟩
      obtain ⟨vb, vf, rfl, cz⟩ := (HV.out.chgNil C.out).at (k := j) (u := .int .i64 z) (by rw [List.getElem?_map, hz]; rfl)
      have hzI : I64 z := HI.out z (List.mem_of_getElem? hz)
      have hz1 := hzI.1
      have hz2 := hzI.2
      by_cases hz0 : z = 0
      · subst hz0
        have T2 : Hid ((BayT b (Bay.newPart sizes (j + 1)) F1).P wr) := by rw [Bay.newPart_skip sizes hz]; exact T.out
        have OK2 : Hid (∀ a z, a < j + 1 → sizes[a]? = some z → 0 ≤ z ∧ z ≤ 8192) := fun a q ha hq => by
          by_cases h : a = j
          · subst h
            rw [hz] at hq
            obtain rfl : (0 : Int) = q := by simpa using hq
            decide
          · exact OKS.out a q (by omega) hq
        clear T OKS hz hzI hjs
        go_wp2_with fail
        exact ⟨⟨j + 1, F1, by omega, by go_num, T2, HF, C, OK2⟩, by simp [intOf]; omega⟩
      · have hz3 : ¬ z = 0 := hz0
        have TI : BayIn wr b F1 (Bay.newPart sizes j) := T.out
        obtain ⟨bt2, vs2, ps2, Fs2, r2⟩ := TI.rep
        have c0 : wr.cell? ⟨b, 0, none⟩ = some (.slice (some ⟨bt2, 0, none⟩) n n) := by
          have := r2.blk.cell (j := 0) rfl
          rw [Bay.newPart_len sizes (by omega), ← hn.out] at this
          exact this
        have hx := Bay.newPart_at sizes hjs
        have CA : Chg [] wr ((wr.drewN 1).alloc (.cells #[.int .i64 z] 3)) := ((Chg.refl _ _).drewN 1).alloc _
        have BC := Blk.made (wr.drewN 1) [.int .i64 z] 3
        have BL := Lib.hid (blank_any z (wr.drewN 1))
        have IN := Lib.hid (insert_any (w := (wr.drewN 1).alloc (.cells #[.int .i64 z] 3)) (fun k hk => Nat.lt_of_lt_of_le (TI.lt k hk) CA.size) TI.fit (r2.chg CA (fun _ _ => by simp)) hx 60 #[.pointer (some ⟨(wr.drewN 1).heap.size, 0, none⟩)] (1 ≤ z ∧ z ≤ 8192) (Dk.new z.toNat) enters_blank (fun w' c => blank1_any z hzI (wr.drewN 1).heap.size w' ((c.cell (p := ⟨(wr.drewN 1).heap.size, 0, none⟩) BC.lt (by simp)).trans (BC.cell (j := 0) rfl))))
        have NX := Lib.hid (Bay.newPart_lay sizes hz hz0)
        have E2 : Hid (∀ w', Turns ((wr.drewN 1).alloc (.cells #[.int .i64 z] 3)) F1 (BayT b ((Bay.newPart sizes j).setIn j ⟨Dk.new z.toNat, none⟩)) w' → ∃ F2, (BayT b (Bay.newPart sizes (j + 1)) F2).P w' ∧ (∀ k ∈ F2, w.heap.size ≤ k) ∧ Chg [] w w') := fun w' t => by
          rw [← NX.out] at t
          obtain ⟨F2, t1, t2, t3⟩ := t.later CA
          have hsz := C.out.size
          refine ⟨F2, t1, fun k hk => ?_, C.out.fresh t3 (fun k hk => .inr (HF.out k hk))⟩
          rcases t2 k hk with q | q
          · exact HF.out k q
          · omega
        have E1 : Hid (∀ w', Turns ((wr.drewN 1).alloc (.cells #[.int .i64 z] 3)) F1 (BayT b (Bay.newPart sizes j)) w' → Chg [] w w') := fun w' t => by
          obtain ⟨F2, t1, t2, t3⟩ := t.later CA
          exact C.out.fresh t3 (fun k hk => .inr (HF.out k hk))
        have K0 : Hid (∀ w', Chg [] wr w' → w'.cell? ⟨b, 0, none⟩ = some (.slice (some ⟨bt2, 0, none⟩) n n)) := fun w' c => (c.cell (p := ⟨b, 0, none⟩) r2.blk.lt (by simp)).trans c0
        have CAh := Lib.hid CA
        have hzm : Hid (z ∈ sizes) := List.mem_of_getElem? hz
        have OK2 : Hid ((1 ≤ z ∧ z ≤ 8192) → ∀ a q, a < j + 1 → sizes[a]? = some q → 0 ≤ q ∧ q ≤ 8192) := fun hzz a q ha hq => by
          by_cases h : a = j
          · subst h
            rw [hz] at hq
            obtain rfl : z = q := by simpa using hq
            omega
          · exact OKS.out a q (by omega) hq
        have hxf : Bay.emptySlot.full = false := rfl
        have hbA : b < ((wr.drewN 1).alloc (.cells #[.int .i64 z] 3)).heap.size ∧ b ∉ [bt2] := ⟨Nat.lt_of_lt_of_le r2.blk.lt CA.size, by simpa using r2.ne⟩
        clear CA BC hx TI r2 T OKS hz hjs NX
        by_cases hzz : 1 ≤ z ∧ z ≤ 8192
        · have IN2 : Hid (Calls Try.prog 40 #[.pointer (some ⟨bt2, j * 3, none⟩), blankV (wr.drewN 1).heap.size] ((wr.drewN 1).alloc (.cells #[.int .i64 z] 3)) fun e w' => e = .returned (.int .u16 0) ∧ Hid (∃ F2, (BayT b (Bay.newPart sizes (j + 1)) F2).P w' ∧ (∀ k ∈ F2, w.heap.size ≤ k) ∧ Chg [] w w') ∧ Hid (w'.cell? ⟨b, 0, none⟩ = some (.slice (some ⟨bt2, 0, none⟩) n n))) := by
            refine IN.out.mono ?_
            rintro e w' ⟨cc, (⟨h, _⟩ | ⟨_, h, _⟩ | ⟨_, _, rfl, t⟩)⟩
            · rw [hxf] at h; cases h
            · exact absurd hzz h
            · exact ⟨rfl, E2.out w' t.out, (cc.out.cell (p := ⟨b, 0, none⟩) hbA.1 hbA.2).trans (K0.out _ CAh.out)⟩
          have OK3 := Lib.hid (OK2.out hzz)
          clear IN E1 E2 OK2 hxf
          unfold blankV at IN2
          go_wp2_with fail
          go_region_held3 (fun w' : World => w'.cell? ⟨b, 0, none⟩ = some (.slice (some ⟨bt2, 0, none⟩) n n)) (first | exact c0 | exact K0.out _ ((Chg.refl _ _).drewN 1) | exact K0.out _ CBL.out | exact DN.out) (first
            | (go_at_call 41; refine BL.out.mono ?_; rintro e wb ⟨rfl, hwb⟩; have CBL : Hid (Chg [] wr wb) := (by rw [hwb]; exact CAh.out); rw [← hwb] at IN2; clear hwb BL)
            | (go_at_call 40; refine IN2.out.mono ?_; rintro e wc ⟨rfl, hE, DN⟩))
          obtain ⟨F2, t1, t2, t3⟩ := hE.out
          replace t1 := Lib.hid t1
          replace t2 := Lib.hid t2
          replace t3 := Lib.hid t3
          clear hE IN2 DN K0 CAh CBL HF C c0 hbA
          go_wp2_with fail
          exact ⟨⟨j + 1, F2, by omega, by go_num, t1, t2, t3, OK3⟩, by simp [intOf]; omega⟩
        · have IN2 : Hid (Calls Try.prog 40 #[.pointer (some ⟨bt2, j * 3, none⟩), blankV (wr.drewN 1).heap.size] ((wr.drewN 1).alloc (.cells #[.int .i64 z] 3)) fun e w' => e = .returned (.int .u16 40) ∧ Hid (Chg [] w w') ∧ Hid (w'.cell? ⟨b, 0, none⟩ = some (.slice (some ⟨bt2, 0, none⟩) n n))) := by
            refine IN.out.mono ?_
            rintro e w' ⟨cc, (⟨h, _⟩ | ⟨_, _, rfl, t⟩ | ⟨_, h, _⟩)⟩
            · rw [hxf] at h; cases h
            · exact ⟨rfl, E1.out w' t.out, (cc.out.cell (p := ⟨b, 0, none⟩) hbA.1 hbA.2).trans (K0.out _ CAh.out)⟩
            · exact absurd h hzz
          have e40 := Lib.hid (BAD.out z hzm.out (by omega))
          clear IN E1 E2 OK2 hxf hzz
          unfold blankV at IN2
          go_wp2_with fail
          go_region_held3 (fun w' : World => w'.cell? ⟨b, 0, none⟩ = some (.slice (some ⟨bt2, 0, none⟩) n n)) (first | exact c0 | exact K0.out _ ((Chg.refl _ _).drewN 1) | exact K0.out _ CBL.out | exact DN.out) (first
            | (go_at_call 41; refine BL.out.mono ?_; rintro e wb ⟨rfl, hwb⟩; have CBL : Hid (Chg [] wr wb) := (by rw [hwb]; exact CAh.out); rw [← hwb] at IN2; clear hwb BL)
            | (go_at_call 40; refine IN2.out.mono ?_; rintro e wc ⟨rfl, hE, DN⟩))
          have P : Hid (∀ e0, e0 = .returned (.tuple #[.pointer none, .int .u16 40]) → BNewed w sizes e0 wc) := fun e0 he => .inl ⟨by rw [e40.out]; decide, by rw [e40.out]; exact he, hE⟩
          clear hE IN2 DN K0 CAh CBL HF C c0 hbA e40 FIT BAD GOOD
          go_wp2_with fail
          go_ret2
          exact P.out _ rfl
    · obtain rfl : j = n := by omega
      have P : Hid (∀ e0, e0 = .returned (.tuple #[.pointer (some ⟨b, 0, none⟩), .int .u16 0]) → BNewed w sizes e0 wr) := fun e0 he => by
        have h0 : Bay.newErr sizes = 0 := GOOD.out (fun z hm => by
          obtain ⟨a, ha⟩ := List.mem_iff_getElem?.1 hm
          exact OKS.out a z (by rw [hn.out]; exact (List.getElem?_eq_some_iff.1 ha).1) ha)
        refine .inr ⟨h0, b, F1, he, ?_, HF, C⟩
        have h1 := T.out
        rw [hn.out, Bay.newPart_all] at h1
        exact h1
      clear T HF C OKS FIT BAD GOOD
      go_wp2_with fail
      go_ret2
      exact P.out _ rfl

end Go.Proofs.Ytljhpdgjajhgbaa
