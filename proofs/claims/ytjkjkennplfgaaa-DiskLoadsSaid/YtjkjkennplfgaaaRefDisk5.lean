/-
  The document's disk: a write becomes lasting. By an AI agent.
-/
import Derived.Test.YtjkjkennplfgaaaRefDisk4
import Derived.Test.YtjkjkennplfgaaaGStep
import Derived.Deep.RegionLaw
namespace Go.Proofs.Ytjkjkennplfgaaa
open Go.RowKit

theorem flat_set {l : List (List Nat)} (h : ∀ s ∈ l, s.length = 128) {k : Nat} (hk : k < l.length) (b : List Nat) : (l.set k b).flatten = l.flatten.take (128 * k) ++ b ++ l.flatten.drop (128 * k + 128) := by
  induction l generalizing k with
  | nil => cases hk
  | cons s r ih =>
    have hs := h s List.mem_cons_self
    cases k with
    | zero =>
      rw [List.set_cons_zero, List.flatten_cons, List.flatten_cons, Nat.mul_zero, List.take_zero, List.nil_append, Nat.zero_add, List.drop_append, List.drop_eq_nil_of_le (by omega), List.nil_append, show 128 - s.length = 0 by omega, List.drop_zero]
    | succ k =>
      rw [List.set_cons_succ, List.flatten_cons, List.flatten_cons, ih (fun x hx => h x (List.mem_cons_of_mem _ hx)) (by simpa using hk), List.take_append, List.drop_append, List.take_of_length_le (by omega : s.length ≤ 128 * (k + 1)), show 128 * (k + 1) - s.length = 128 * k by omega, List.drop_eq_nil_of_le (by omega : s.length ≤ 128 * (k + 1) + 128), show 128 * (k + 1) + 128 - s.length = 128 * k + 128 by omega]
      simp

theorem Dk.Fit.lay {d : Dk} (h : d.Fit) {k : Nat} {b : List Nat} (hb : b.length = 128 ∧ Bs b) : Dk.Fit { d with last := Dk.lay d.last (k, b) } := by
  refine ⟨by show 1 ≤ (d.last.set k b).length; rw [List.length_set]; exact h.lo, by show (d.last.set k b).length ≤ 8192; rw [List.length_set]; exact h.hi, fun s hs => ?_, fun x hx => ?_, h.off⟩
  · rcases List.mem_or_eq_of_mem_set hs with hs | rfl
    · exact h.sec s hs
    · exact hb
  · show x.1 < (d.last.set k b).length ∧ _
    rw [List.length_set]
    exact h.wr x hx

theorem Turns.trans {w w1 w2 : World} {F F1 : List Nat} {T : List Nat → Thing} (h1 : ∀ k ∈ F1, k ∈ F ∨ w.heap.size ≤ k) (c1 : Chg F w w1) (h2 : Turns w1 F1 T w2) : Turns w F T w2 := by
  obtain ⟨F2, p, q, c⟩ := h2
  have hz := c1.size
  refine ⟨F2, p, fun k hk => ?_, c1.fresh c h1⟩
  rcases q k hk with q | q
  · exact h1 k q
  · exact .inr (by omega)

/-- New lasting bytes. -/
theorem Rep.relast {w wn : World} {g : Nat} {F : List Nat} {d : Dk} {lv cv nv : Value} {us : List Value} {l2 : List (List Nat)} (r : Rep w g F d lv cv us) (hlt : ∀ j ∈ F, j < w.heap.size) (hg : g ∈ F) (c : Chg [] w wn)
    (o : wn.ownsRow w.heap.size 5 1 nv l2.flatten.length ((ints l2.flatten).map (Value.int .u8))) :
    Rep (wn.setCell ⟨g, 0, none⟩ nv) g (F ++ nv.ownBlock.toList) { d with last := l2 } nv cv us ∧ (∀ j ∈ F ++ nv.ownBlock.toList, j < wn.heap.size ∧ (j ∈ F ∨ w.heap.size ≤ j)) ∧ Chg F w (wn.setCell ⟨g, 0, none⟩ nv) := by
  have c3 : Chg [g] wn (wn.setCell ⟨g, 0, none⟩ nv) := (Chg.refl _ _).setCell (.inl (by simp)) _
  have cg : Chg [g] w (wn.setCell ⟨g, 0, none⟩ nv) := (c.mono (by simp)).trans c3
  have hgl := hlt g hg
  refine ⟨⟨(r.blk.chg c (by simp)).set 0 nv, owns_chg2 (ownsRow_base o (Nat.zero_le _)) c3 (fun j hj hm => ?_), owns_chg2 r.cac cg (fun j hj hm => (r.cof j hj).2 (by simpa using hm)), r.ulen, fun i u p hu hp => ?_, fun j hj => ?_, fun j hj => ⟨List.mem_append_left _ (r.cof j hj).1, (r.cof j hj).2⟩⟩, fun j hj => ?_, cg.mono (fun j hj => by rw [List.mem_singleton.1 hj]; exact hg)⟩
  · have := (o.lt j hj).1
    rw [List.mem_singleton.1 hm] at this
    omega
  · obtain ⟨q1, q2⟩ := r.dat i u p hu hp
    exact ⟨owns_chg2 q1 cg (fun j hj hm => (q2 j hj).2.1 (by simpa using hm)), fun j hj => ⟨List.mem_append_left _ (q2 j hj).1, (q2 j hj).2⟩⟩
  · have := (o.lt j hj).1
    refine ⟨List.mem_append_right _ (by simp [hj]), by omega, fun e => ?_⟩
    have := hlt j (r.cof j e).1
    omega
  · rcases List.mem_append.1 hj with hj | hj
    · exact ⟨Nat.lt_of_lt_of_le (hlt j hj) c.size, .inl hj⟩
    · have := o.lt j (by simpa using hj)
      exact ⟨this.2, .inr this.1⟩

set_option maxHeartbeats 4000000 in
set_option maxRecDepth 100000 in
theorem rlasts_any (g : Nat) (F : List Nat) (d : Dk) (k : Nat) (uo : Option Addr) (uc : Nat) (b : List Nat) (w : World) (h : (RefT g d F).P w) (hk : k < d.last.length) (hb : b.length = 128 ∧ Bs b) (hu : Sl w (.slice uo 128 uc) (ints b)) :
    Calls Try.prog 60 #[.pointer (some ⟨g, 0, none⟩), .agg #[.int .i64 (k : Int), .slice uo 128 uc]] w fun e w' => e = .returned (.tuple #[]) ∧ Hid (Turns w F (RefT g { d with last := Dk.lay d.last (k, b) }) w') := by
  have h' : RdIn w g F d := h
  obtain ⟨lv, cv, us, r⟩ := h'.rep
  have hl := h'.fit.flat
  have hhi := h'.fit.hi
  have hs := own_sl r.las
  have hcap : ∀ ao n c, lv = .slice ao n c → n ≤ c := fun ao n c e => by
    have := r.las
    rw [e] at this
    exact owned_cap this
  obtain ⟨lo, lc, rfl⟩ := owns_slice r.las
  have hcap := hcap _ _ _ rfl
  have R := Lib.hid r
  have HI := Lib.hid h'
  have U := Lib.hid hu
  have FS := Lib.hid (flat_set (fun s hs => (h'.fit.sec s hs).1) hk b)
  have FF := Lib.hid (h'.fit.lay (k := k) hb)
  obtain ⟨i0, hi, hz0, hz1, hz2⟩ := info_parts info_u8
  replace hi := Lib.hid hi
  replace hz0 := Lib.hid hz0
  replace hz1 := Lib.hid hz1
  replace hz2 := Lib.hid hz2
  rw [hl] at hcap
  obtain ⟨L, hL⟩ : ∃ L, L = d.last.flatten.length := ⟨_, rfl⟩
  have I0 : Sl w (.slice lo (ints d.last.flatten).length lc) (ints d.last.flatten) := by rw [ints_length]; exact hs
  have hq0 : L = 128 * d.last.length := by rw [hL, hl]
  obtain ⟨P, hP⟩ : ∃ P : Nat, 128 * (k : Int) = (P : Int) := ⟨128 * k, by omega⟩
  obtain ⟨P2, hP2⟩ : ∃ P2 : Nat, (P : Int) + 128 = (P2 : Int) := ⟨P + 128, by omega⟩
  have hq1 : P2 ≤ L := by omega
  have hq2 : L ≤ lc := by omega
  have S1 : Sl w (.slice lo P lc) (ints (d.last.flatten.take P)) := by
    have := I0.pre P (by rw [ints_length, ← hL]; omega)
    unfold ints at this ⊢
    rw [List.map_take]
    exact this
  obtain ⟨bx, hbx⟩ : ∃ bx, bx = w.heap.size := ⟨_, rfl⟩
  have BX := Blk.made w [.int .i64 (k : Int), .slice uo 128 uc] 112
  have CA : Chg [] w (w.alloc (.cells #[.int .i64 (k : Int), .slice uo 128 uc] 112)) := (Chg.refl _ _).alloc _
  rw [← hL] at R hs
  rw [ints_length, ← hL] at I0
  replace I0 := Lib.hid I0
  have hq3 : (P : Int) ≤ lc := by omega
  have hk0 : (0 : Int) ≤ k := Int.natCast_nonneg _
  have hP0 : (0 : Int) ≤ P := Int.natCast_nonneg _
  have hw1 : IntKind.i64.wrap (128 * (k : Int)) = (P : Int) := by rw [IntKind.wrap_i64]; omega
  have hw2 : wrap64 (128 * (k : Int)) = (P : Int) := by unfold wrap64; omega
  have hw3 : IntKind.i64.wrap ((P : Int) + 128) = (P2 : Int) := by rw [IntKind.wrap_i64]; omega
  have hw4 : wrap64 ((P : Int) + 128) = (P2 : Int) := by unfold wrap64; omega
  have hw5 : IntKind.i64.wrap (P : Int) = (P : Int) := by rw [IntKind.wrap_i64]; omega
  have hw6 : wrap64 (P : Int) = (P : Int) := by unfold wrap64; omega
  have hw7 : IntKind.i64.wrap (P2 : Int) = (P2 : Int) := by rw [IntKind.wrap_i64]; omega
  have hw8 : wrap64 (P2 : Int) = (P2 : Int) := by unfold wrap64; omega
  have hq5 : P ≤ lc := by omega
  clear h h' r hu hl hcap hs
  go_enter Try.func60, Try.ntmps60
  go_wp2_with fail
  rw [← hbx] at BX ⊢
  replace hbx := Lib.hid hbx
  generalize w.alloc (.cells #[.int .i64 (k : Int), .slice uo 128 uc] 112) = wA at *
  have c0 : wA.cell? ⟨g, 0, none⟩ = some (.slice lo L lc) := (R.out.blk.chg CA (by simp)).cell (j := 0) rfl
  have cx0 := BX.cell (j := 0) rfl
  have S1A := Lib.hid (S1.chgNil CA)
  replace CA := Lib.hid CA
  replace BX := Lib.hid BX
  have KK : Hid (∀ w', Chg [] wA w' → w'.cell? ⟨g, 0, none⟩ = some (.slice lo L lc) ∧ w'.cell? ⟨bx, 0, none⟩ = some (.int .i64 (k : Int))) := fun w' c => ⟨((R.out.blk.chg CA.out (by simp)).chg c (by simp)).cell (j := 0) rfl, (BX.out.chg c (by simp)).cell (j := 0) rfl⟩
  clear S1
  have hTl : (ints (d.last.flatten.take P)).length = P := by rw [ints_length, List.length_take]; omega
  have hP3 : P2 = P + 128 := by omega
  have hP4 : P = 128 * k := by omega
  replace hL := Lib.hid hL
  replace hq0 := Lib.hid hq0
  replace hP3 := Lib.hid hP3
  replace hP4 := Lib.hid hP4
  replace hTl := Lib.hid hTl
  go_region_held3 (fun w' : World => w'.cell? ⟨g, 0, none⟩ = some (.slice lo L lc) ∧ w'.cell? ⟨bx, 0, none⟩ = some (.int .i64 (k : Int)))
    (first | exact KK.out _ C1.out | exact KK.out _ (Chg.refl [] _) | exact KK.out _ ((Chg.refl [] _).drew) | go_keep)
    ((refine step_append_sl _ (by rfl) _ _ _ (by rfl) wA.heap.size 5 i0 (.int .u8 0) 1 Try.underlying22 hi.out hz0.out hz1.out hz2.out rfl (.slice none 0 0) 0 [] (by rfl) (World.ownsRow_nil _ _ _ _) lo P lc (ints (d.last.flatten.take P)) (by rfl) (S1A.out.chgNil ((Chg.refl [] _).drew)) (by rw [hTl.out]; unfold maxLen; omega) (by rw [hTl.out]; omega) (by simp) ?_; intro o1 k1 w1 ol gr nb; have C1 : Hid (Chg [] wA w1) := ((Chg.refl [] wA).drew).trans (grown_none gr.out rfl); have O1 := Lib.hid ol.out; clear ol gr nb))
  have O1' := O1.out
  rw [Nat.zero_add, List.nil_append, hTl.out] at O1'
  rw [hTl.out]
  replace O1' := Lib.hid O1'
  clear O1 S1A
  have cx1 : w1.cell? ⟨bx, 1, none⟩ = some (.slice uo 128 uc) := (BX.out.chg C1.out (by simp)).cell (j := 1) rfl
  have U1 := Lib.hid (U.out.chgNil (CA.out.trans C1.out))
  have hBl : (ints b).length = 128 := by rw [ints_length]; exact hb.1
  replace hBl := Lib.hid hBl
  have hP5 : P + 128 ≤ 1048576 := by have := hq0.out; have := hP3.out; omega
  replace hP5 := Lib.hid hP5
  clear c0 cx0
  go_wp2_with (at_builtin; refine wpList_append_sl _ rfl _ _ 22 rfl wA.heap.size 5 i0 (.int .u8 0) 1 Try.underlying22 hi.out hz0.out hz1.out hz2.out rfl (.slice o1 P k1) P ((ints (d.last.flatten.take P)).map (Value.int .u8)) rfl O1'.out uo 128 uc (ints b) rfl U1.out (by rw [hBl.out]; have := hP5.out; unfold maxLen; omega) (by rw [hBl.out]; have := hP5.out; omega) C1.out.size ?_; intro v2 w2 ol gr nb; have C2 : Hid (Chg [] wA w2) := C1.out.grown gr.out (fun j hj => .inr (O1'.out.lt j hj).1); have O2 := ol.out; rw [hBl.out] at O2; obtain ⟨o2, k2, rfl⟩ := owns_slice O2; replace O2 := Lib.hid O2; clear ol gr nb)
  have c0 : w2.cell? ⟨g, 0, none⟩ = some (.slice lo L lc) := (KK.out _ C2.out).1
  have cx0 : w2.cell? ⟨bx, 0, none⟩ = some (.int .i64 (k : Int)) := (KK.out _ C2.out).2
  have f0 : w2.frozen? ⟨g, 0, none⟩ = false := ((R.out.blk.chg CA.out (by simp)).chg C2.out (by simp)).free 0
  have CU := I0.out
  rw [show L = (ints d.last.flatten).length by rw [ints_length]; exact hL.out] at CU
  have CU := CU.cut P2 (L - P2) (by rw [ints_length, ← hL.out]; omega) (by rw [ints_length, ← hL.out]; exact hq2)
  rw [show ((ints d.last.flatten).drop P2).take (L - P2) = ints (d.last.flatten.drop P2) by
    rw [List.take_of_length_le (by rw [List.length_drop, ints_length, ← hL.out]; exact Nat.le_refl _)]
    unfold ints
    rw [List.map_drop]] at CU
  replace CU := Lib.hid CU
  have hq6 : (P2 : Int) ≤ L := by omega
  have hq7 : (0 : Int) ≤ P2 := by omega
  have hq8 : (L : Int) ≤ lc := by omega
  have hDl : (ints (d.last.flatten.drop P2)).length = L - P2 := by rw [ints_length, List.length_drop, ← hL.out]
  replace hDl := Lib.hid hDl
  have hL2 : L ≤ 1048576 := by have := hq0.out; omega
  have FIN : Hid (∀ (o3 : Option Addr) (k3 : Nat) (w3 : World), Hid (Chg [] wA w3) → Hid (w3.ownsRow wA.heap.size 5 1 (.slice o3 (P + 128 + (ints (d.last.flatten.drop P2)).length) k3) (P + 128 + (ints (d.last.flatten.drop P2)).length) ((ints (d.last.flatten.take P)).map (Value.int .u8) ++ (ints b).map (Value.int .u8) ++ (ints (d.last.flatten.drop P2)).map (Value.int .u8))) → Hid (Turns w F (RefT g { d with last := Dk.lay d.last (k, b) }) (w3.setCell ⟨g, 0, none⟩ (.slice o3 (P + 128 + (ints (d.last.flatten.drop P2)).length) k3)))) := by
    intro o3 k3 w3 C3 O3
    have hfl : (Dk.lay d.last (k, b)).flatten = d.last.flatten.take P ++ b ++ d.last.flatten.drop P2 := by
      have := FS.out
      rw [← hP4.out, ← hP3.out] at this
      exact this
    have hlen : (Dk.lay d.last (k, b)).flatten.length = P + 128 + (ints (d.last.flatten.drop P2)).length := by
      rw [hfl, List.length_append, List.length_append, List.length_take, hb.1, ints_length, ← hL.out]
      omega
    have o : w3.ownsRow w.heap.size 5 1 (.slice o3 (P + 128 + (ints (d.last.flatten.drop P2)).length) k3) (Dk.lay d.last (k, b)).flatten.length ((ints (Dk.lay d.last (k, b)).flatten).map (Value.int .u8)) := by
      rw [hlen, hfl]
      have := ownsRow_base O3.out CA.out.size
      unfold ints at this ⊢
      rw [List.map_append, List.map_append, List.map_append, List.map_append]
      exact this
    obtain ⟨m1, m2, m3⟩ := R.out.relast (l2 := Dk.lay d.last (k, b)) HI.out.lt HI.out.mem (CA.out.trans C3.out) o
    exact ⟨_, ⟨FF.out, fun j hj => by have := (m2 j hj).1; simpa [World.setCell] using this, List.mem_append_left _ HI.out.mem, _, _, _, m1⟩, fun j hj => (m2 j hj).2, m3⟩
  clear KK
  by_cases hck : lc = P2
  · obtain rfl : L = P2 := by omega
    subst hck
    rw [if_pos rfl, Nat.sub_self] at CU
    rw [Nat.sub_self] at hDl
    go_region_law (first | (refine step_append_sl _ (by rfl) _ _ _ (by rfl) wA.heap.size 5 i0 (.int .u8 0) 1 Try.underlying22 hi.out hz0.out hz1.out hz2.out rfl (.slice o2 (P + 128) k2) (P + 128) _ (by rfl) (owns_chg O2.out ((Chg.refl [] w2).drew) (by simp)) _ (0) _ (ints (d.last.flatten.drop lc)) (by rfl) (CU.out.chgNil (CA.out.trans (C2.out.drew))) (by rw [hDl.out]; have := hP3.out; unfold maxLen; omega) (by rw [hDl.out]; have := hP3.out; omega) (by simpa using C2.out.size) ?_; intro o3 k3 w3 ol gr nb; have C3 : Hid (Chg [] wA w3) := C2.out.drew.grown gr.out (fun j hj => .inr (O2.out.lt j hj).1); have O3 := Lib.hid ol.out; have g0 := ((R.out.blk.chg CA.out (by simp)).chg C3.out (by simp)).cell (j := 0) rfl; have h0 : w3.frozen? ⟨g, 0, none⟩ = false := ((R.out.blk.chg CA.out (by simp)).chg C3.out (by simp)).free 0; clear ol gr nb))
    all_goals (go_end0; exact ⟨rfl, FIN.out o3 k3 w3 C3 O3⟩)
  · rw [if_neg hck] at CU
    go_region_law (first | (refine step_append_sl _ (by rfl) _ _ _ (by rfl) wA.heap.size 5 i0 (.int .u8 0) 1 Try.underlying22 hi.out hz0.out hz1.out hz2.out rfl (.slice o2 (P + 128) k2) (P + 128) _ (by rfl) (owns_chg O2.out ((Chg.refl [] w2).drew) (by simp)) _ (L - P2) _ (ints (d.last.flatten.drop P2)) (by rfl) (CU.out.chgNil (CA.out.trans (C2.out.drew))) (by rw [hDl.out]; have := hP3.out; unfold maxLen; omega) (by rw [hDl.out]; have := hP3.out; omega) (by simpa using C2.out.size) ?_; intro o3 k3 w3 ol gr nb; have C3 : Hid (Chg [] wA w3) := C2.out.drew.grown gr.out (fun j hj => .inr (O2.out.lt j hj).1); have O3 := Lib.hid ol.out; have g0 := ((R.out.blk.chg CA.out (by simp)).chg C3.out (by simp)).cell (j := 0) rfl; have h0 : w3.frozen? ⟨g, 0, none⟩ = false := ((R.out.blk.chg CA.out (by simp)).chg C3.out (by simp)).free 0; clear ol gr nb))
    all_goals (go_end0; exact ⟨rfl, FIN.out o3 k3 w3 C3 O3⟩)

end Go.Proofs.Ytjkjkennplfgaaa
