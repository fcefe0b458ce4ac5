/-
  The program's bay: a slot by itself: taken, insert, cut. By an AI agent.
-/
import Derived.Test.YtljhpdgjajhgbaaByEasy
import Derived.Test.YtljhpdgjajhgbaaByMath
namespace Go.Proofs.Ytljhpdgjajhgbaa
open Go.RowKit Go.Maps

/-- Is there no room for another disk? -/
def Slot.full (x : Slot) : Bool := (match x.inn with | some d => !d.disk.bad | none => false) || x.coming.isSome

theorem Bay.taken_slot {y : Bay} {i : Nat} {x : Slot} (hx : y.slots[i]? = some x) : y.taken i = x.full := by
  have hi := (List.getElem?_eq_some_iff.1 hx).1
  unfold Bay.taken Bay.has Slot.full
  rw [Bay.dev_place hi, Bay.place_of hx, Int.toNat_natCast, hx]
  rfl

theorem ptrV_get {w : World} {bt : Nat} {vs : List Value} {i j : Nat} {p : Option Nat} (B : Blk w bt 74 vs) (h : vs[i * 3 + j]? = some (ptrV p)) : w.cell? ⟨bt, i * 3 + j, none⟩ = some (ptrV p) := B.cell h

set_option maxHeartbeats 1000000 in
set_option maxRecDepth 100000 in
theorem taken_any {w : World} {b : Nat} {F : List Nat} {y : Bay} {bt : Nat} {vs : List Value} {ps : Nat → Nat → Option Nat} {Fs : Nat → Nat → List Nat} (r : BRep w b F y bt vs ps Fs) {i : Nat} {x : Slot} (hx : y.slots[i]? = some x) :
    Calls Try.prog 55 #[.pointer (some ⟨bt, i * 3, none⟩)] w fun e w' => e = .returned (.bool x.full) ∧ ∃ q, w' = w.drewN q := by
  have hi := (List.getElem?_eq_some_iff.1 hx).1
  have c0 := r.tr.cell (r.ptr i 0 hi (by decide))
  have c2 := ptrV_get r.tr (r.ptr i 2 hi (by decide))
  have d0 := r.dev i 0
  have d2 := r.dev i 2
  rw [Bay.place_of hx] at d0 d2
  have c2x : Hid (∀ q, (w.drewN q).cell? ⟨bt, i * 3 + 2, none⟩ = some (ptrV (ps i 2))) := fun _ => c2
  have R : Hid (Calls Try.prog 53 #[.pointer (some ⟨bt, i * 3, none⟩)] w fun e w' => e = .returned (.bool (match x.inn with | some d => !d.disk.bad | none => false)) ∧ ∃ q, w' = w.drewN q) := by
    cases hin : x.inn with
    | none =>
      have h1 := (d0.isNone (show x.get 0 = none from hin)).1
      rw [h1] at c0
      exact running_none bt (i * 3) w c0
    | some d =>
      obtain ⟨k, hk, hk2⟩ := d0.isSome (show x.get 0 = some d from hin)
      rw [hk] at c0
      exact running_some bt (i * 3) k (Fs i 0) d w c0 hk2
  unfold Slot.full
  generalize (match x.inn with | some d => !d.disk.bad | none => false) = run at *
  cases hc : x.coming with
  | none =>
    have h1 := (d2.isNone (show x.get 2 = none from hc)).1
    rw [h1] at c2x
    replace c2x : Hid (∀ q, (w.drewN q).cell? ⟨bt, i * 3 + 2, none⟩ = some (.pointer none)) := c2x
    clear c0 c2 d0 d2 h1 hc hx r hi
    go_enter Try.func55, Try.ntmps55
    go_wp2_with fail
    refine R.out.mono ?_
    rintro e w1 ⟨rfl, q, hw⟩
    subst hw
    have c2 := c2x.out q
    clear R c2x
    cases run with
    | true =>
      go_wp2_with fail
      go_ret
      exact ⟨rfl, q, rfl⟩
    | false =>
      go_wp2_with fail
      go_ret
      exact ⟨rfl, q, rfl⟩
  | some c =>
    obtain ⟨k, h1, _⟩ := d2.isSome (show x.get 2 = some c from hc)
    rw [h1] at c2x
    replace c2x : Hid (∀ q, (w.drewN q).cell? ⟨bt, i * 3 + 2, none⟩ = some (.pointer (some ⟨k, 0, none⟩))) := c2x
    clear c0 c2 d0 d2 h1 hc hx r hi
    go_enter Try.func55, Try.ntmps55
    go_wp2_with fail
    refine R.out.mono ?_
    rintro e w1 ⟨rfl, q, hw⟩
    subst hw
    have c2 := c2x.out q
    clear R c2x
    cases run with
    | true =>
      go_wp2_with fail
      go_ret
      exact ⟨rfl, q, rfl⟩
    | false =>
      go_wp2_with fail
      go_ret
      exact ⟨rfl, q, rfl⟩

theorem triple {i a j c : Nat} (hj : j < 3) (hc : c < 3) (h : a ≠ i) : a * 3 + j ≠ i * 3 + c := by omega

/-- A new disk in a slot. -/
theorem BRep.lay {w w' : World} {b : Nat} {F : List Nat} {y : Bay} {bt : Nat} {vs : List Value} {ps : Nat → Nat → Option Nat} {Fs : Nat → Nat → List Nat} (hlt : ∀ k ∈ F, k < w.heap.size) (hf : y.Fit) (r : BRep w b F y bt vs ps Fs)
    {i k : Nat} {x : Slot} (hx : y.slots[i]? = some x) (e' : Dev) (he : e'.disk.Fit ∧ ∀ n, e'.wear = some n → n ≤ 9223372036854775807) (G : List Nat)
    (hd : DevIn w' k G e') (hg : ∀ j ∈ G, w.heap.size ≤ j) (hc : Chg [bt] w w') (hb : Blk w' bt 74 (vs.set (i * 3) (ptrV (some k)))) : Turns w F (BayT b (y.setIn i e')) w' := by
  have hs := hf.slot hx
  have hi : i < y.slots.length := (List.getElem?_eq_some_iff.1 hx).1
  have hln := r.len
  have e1 : y.setIn i e' = y.turn i (fun _ => { x with inn := some e' }) := Bay.turn_const (fun x => { x with inn := some e' }) hx
  rw [e1]
  refine r.slot hlt hf hx { x with inn := some e' } ⟨fun d hd => ?_, hs.clean⟩ (vs.set (i * 3) (ptrV (some k))) (fun j => if j = 0 then some k else ps i j) (fun j => if j = 0 then G else Fs i j) (hc.mono (by simp)) hb (by simp) (fun j hj => ?_) (fun a j ha hj => ?_) (fun j => ?_) (fun j q hq => ?_) (fun j j' hne q hq => ?_)
  · rcases hd with hd | hd | hd
    · obtain rfl : e' = d := by simpa using hd
      exact he
    · exact hs.devs d (.inr (.inl hd))
    · exact hs.devs d (.inr (.inr hd))
  · by_cases h0 : j = 0
    · subst h0
      rw [if_pos rfl, Nat.add_zero, List.getElem?_set_self (by omega)]
    · rw [if_neg h0, List.getElem?_set_ne (by omega)]
      exact r.ptr i j hi hj
  · rw [List.getElem?_set_ne (by have := triple (j := j) (c := 0) hj (by decide) ha; omega)]
  · by_cases h0 : j = 0
    · subst h0
      rw [if_pos rfl, if_pos rfl]
      exact PlaceIn.some hd
    · rw [if_neg h0, if_neg h0]
      have h1 := (r.dev i j).chg hc (fun q hq => by simpa using (r.offb i j q hq).2)
      rw [Bay.place_of hx] at h1
      match j, h0, h1 with
      | 0, h, _ => exact absurd rfl h
      | 1, _, h => exact h
      | 2, _, h => exact h
      | _ + 3, _, h => exact h
  · by_cases h0 : j = 0
    · rw [if_pos h0] at hq
      exact .inr (hg q hq)
    · rw [if_neg h0] at hq
      exact .inl ⟨j, hq⟩
  · have hnew : ∀ j, ∀ q ∈ G, q ∉ Fs i j := fun j q hq hm => by
      have h1 := hg q hq
      have := hlt q (r.inF.2.2 i j q hm)
      omega
    by_cases h0 : j = 0
    · rw [if_pos h0] at hq
      rw [if_neg (fun h => hne (h0.trans h.symm))]
      exact hnew j' q hq
    · rw [if_neg h0] at hq
      by_cases h1 : j' = 0
      · rw [if_pos h1]
        exact fun hm => hnew j q hm hq
      · rw [if_neg h1]
        exact r.off i j i j' (.inr hne) q hq

set_option maxHeartbeats 1000000 in
set_option maxRecDepth 100000 in
theorem insert_any {w : World} {b : Nat} {F : List Nat} {y : Bay} {bt : Nat} {vs : List Value} {ps : Nat → Nat → Option Nat} {Fs : Nat → Nat → List Nat} (hlt : ∀ k ∈ F, k < w.heap.size) (hf : y.Fit) (r : BRep w b F y bt vs ps Fs) {i : Nat} {x : Slot} (hx : y.slots[i]? = some x)
    (fn : Nat) (caps : Array Value) (ok : Prop) (d : Dk) (hen : ∀ (args : Array Value) (w : World), (callFunc fn args).run Try.prog w = .ok (.enter fn args) w)
    (hfn : ∀ w', Chg [] w w' → Calls Try.prog fn caps w' (DNewed w' ok d)) :
    Calls Try.prog 40 #[.pointer (some ⟨bt, i * 3, none⟩), .func (.func fn) #[] caps] w fun e w' => Hid (Chg [bt] w w') ∧ (
      (x.full = true ∧ e = .returned (.int .u16 52) ∧ Hid (Turns w F (BayT b y) w')) ∨ (x.full = false ∧ ¬ ok ∧ e = .returned (.int .u16 40) ∧ Hid (Turns w F (BayT b y) w')) ∨ (x.full = false ∧ ok ∧ e = .returned (.int .u16 0) ∧ Hid (Turns w F (BayT b (y.setIn i ⟨d, none⟩)) w'))) := by
  have TK := Lib.hid (taken_any r hx)
  have hi := (List.getElem?_eq_some_iff.1 hx).1
  have c0 : Hid (∀ q, w.cell? ⟨bt, i * 3, none⟩ = some (ptrV (ps i 0)) ∧ w.frozen? ⟨bt, i * 3, none⟩ = false ∧ (w.drewN q).heap.size = w.heap.size) := fun q => ⟨r.tr.cell (r.ptr i 0 hi (by decide)), r.tr.free _, rfl⟩
  have BT := Lib.hid r.tr
  have h0 : (BayT b y F).P w := ⟨hlt, hf, bt, vs, ps, Fs, r⟩
  have SAME : Hid (∀ w', Chg [] w w' → Turns w F (BayT b y) w') := fun w' c => ⟨F, (BayT b y F).stays _ _ [] h0 c (fun _ _ => by simp), fun k hk => .inl hk, c.mono (by simp)⟩
  have LAY : Hid (∀ (w2 : World) (g : Nat) (F2 : List Nat), Chg [] w w2 → (DiskT g d F2).P w2 → (∀ k ∈ F2, w.heap.size ≤ k) → Turns w F (BayT b (y.setIn i ⟨d, none⟩)) ((w2.setCell ⟨bt, i * 3, none⟩ (.pointer (some ⟨w2.heap.size, 0, none⟩))).alloc (.cells #[.pointer (some ⟨g, 0, none⟩), .bool false, .int .i64 0] 93))) := fun w2 g F2 c hd2 hn => by
    have hbt := r.tr.lt
    have hsz := c.size
    rw [← World.setCell_alloc_past _ bt (i * 3) _ (by omega)]
    have BD := Blk.made w2 [.pointer (some ⟨g, 0, none⟩), .bool false, .int .i64 0] 93
    have hd3 : DiskIn w2 g F2 d := hd2
    have C1 : Chg [bt] w2 ((w2.alloc (.cells #[.pointer (some ⟨g, 0, none⟩), .bool false, .int .i64 0] 93)).setCell ⟨bt, i * 3, none⟩ (.pointer (some ⟨w2.heap.size, 0, none⟩))) := ((Chg.refl _ _).alloc _).setCell (.inl (by simp)) _
    refine r.lay hlt hf hx (k := w2.heap.size) ⟨d, none⟩ ⟨hd3.fit, fun n h => by cases h⟩ (w2.heap.size :: F2) ⟨g, F2, rfl, fun hm => ?_, ?_, ?_⟩ (fun j hj => ?_) ((c.mono (by simp)).trans C1) ?_
    · have := hd3.lt _ hm
      omega
    · exact BD.other (fun e => by have : bt = w2.heap.size := e; omega) _
    · exact (DiskT g d F2).stays _ _ _ hd2 C1 (fun j hj hm => by
        have h1 := List.mem_singleton.1 hm
        have h2 := hn j hj
        omega)
    · rcases List.mem_cons.1 hj with rfl | hj
      · exact hsz
      · exact hn j hj
    · exact ((r.tr.chg c (by simp)).alloc _).set (i * 3) _
  have HF := Lib.hid hfn
  clear hlt hf r hx hi h0 hfn
  go_enter Try.func40, Try.ntmps40
  go_wp2_with fail
  refine TK.out.mono ?_
  rintro e w1 ⟨rfl, q, hw⟩
  subst hw
  have C1 : Hid (Chg [] w (w.drewN q)) := (Chg.refl [] w).drewN q
  clear TK
  cases hfl : x.full with
  | true =>
    have S1 := Lib.hid (SAME.out _ C1.out)
    clear SAME LAY HF hen
    go_wp2_with fail
    go_ret
    exact ⟨C1.out.mono (by simp), .inl ⟨hfl, rfl, S1⟩⟩
  | false =>
    have H1 := Lib.hid (HF.out _ C1.out)
    go_wp2_with fail
    refine H1.out.mono ?_
    rintro e w2 (⟨hno, rfl, C⟩ | ⟨hyes, g, F2, rfl, D, N, C⟩)
    · have S1 := Lib.hid (SAME.out _ (C1.out.trans C.out))
      have CB : Hid (Chg [bt] w w2) := (C1.out.trans C.out).mono (by simp)
      clear SAME LAY HF H1 hen
      go_wp2_with fail
      go_ret
      exact ⟨CB, .inr (.inl ⟨hfl, hno, rfl, S1⟩)⟩
    · have C2 : Hid (Chg [] w w2) := C1.out.trans C.out
      have S1 := Lib.hid (LAY.out w2 g F2 C2.out D.out (fun k hk => N.out k hk))
      have CB : Hid (Chg [bt] w ((w2.setCell ⟨bt, i * 3, none⟩ (.pointer (some ⟨w2.heap.size, 0, none⟩))).alloc (.cells #[.pointer (some ⟨g, 0, none⟩), .bool false, .int .i64 0] 93))) := ((C2.out.mono (by simp)).setCell (.inl (by simp)) _).alloc _
      have BT2 := (BT.out.chg C2.out (by simp)).alloc (.cells #[.pointer (some ⟨g, 0, none⟩), .bool false, .int .i64 0] 93)
      have c0 : w2.cell? ⟨bt, i * 3, none⟩ = some (ptrV (ps i 0)) := (C2.out.cell (p := ⟨bt, i * 3, none⟩) BT.out.lt (by simp)).trans (c0.out 0).1
      have f0 := (BT.out.chg C2.out (by simp)).free (i * 3)
      have hbt : bt < w2.heap.size := (BT.out.chg C2.out (by simp)).lt
      clear SAME LAY HF H1 hen BT BT2 D N C
      go_wp2_with fail
      go_ret
      exact ⟨CB, .inr (.inr ⟨hfl, hyes, rfl, S1⟩)⟩

end Go.Proofs.Ytljhpdgjajhgbaa
