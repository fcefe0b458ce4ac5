/-
  The program's queue of places: what it looks at. By an AI agent.
-/
import Derived.Test.YtihmegpcbpdipaaLfHeap
import Derived.Deep.RegionHeld3
import Derived.BigRegion
import Derived.Deep.CutBlock
import Derived.Deep.DeepCutAuto
namespace Go.Proofs.Ytihmegpcbpdipaa
open Go.Maps Go.RowKit

def plSlot (p : Pl) : List Value := [.int .i64 (p.1 : Int), .int .i64 (p.2 : Int)]

theorem pl_slots (A : List Pl) : Slots 2 (A.map plSlot) := fun x hx => by
  obtain ⟨p, _, rfl⟩ := List.mem_map.1 hx
  rfl

theorem outside_any (w : World) (a n : Int) (b : Bool) (hb : b = true ↔ a < 0 ∨ n ≤ a) : Calls Try.prog 27 #[.int .i64 a, .int .i64 n] w fun e w' => e = .returned (.bool b) ∧ w' = w := by
  by_cases h1 : a < 0
  · obtain rfl : b = true := hb.2 (.inl h1)
    clear hb
    go_enter Try.func27, Try.ntmps27
    go_wp2_with fail
    go_ret
    exact ⟨rfl, rfl⟩
  · by_cases h2 : n ≤ a
    · obtain rfl : b = true := hb.2 (.inr h2)
      clear hb
      go_enter Try.func27, Try.ntmps27
      go_wp2_with fail
      go_ret
      exact ⟨rfl, rfl⟩
    · obtain rfl : b = false := by
        cases b
        · rfl
        · exact absurd (hb.1 rfl) (by omega)
      clear hb
      go_enter Try.func27, Try.ntmps27
      go_wp2_with fail
      go_ret
      exact ⟨rfl, rfl⟩

theorem qlen_any (w : World) (ao : Option Addr) (n c : Nat) : Calls Try.prog 28 #[.slice ao n c] w fun e w' => e = .returned (.int .i64 (n : Int)) ∧ w' = w := by
  go_enter Try.func28, Try.ntmps28
  go_wp2_with fail
  go_ret
  exact ⟨rfl, rfl⟩

set_option maxHeartbeats 1000000 in
theorem before_any (w : World) (p q : Pl) : Calls Try.prog 77 #[plVal p, plVal q] w (Says w (.bool (decide (Hq.lt p q)))) := by
  obtain ⟨p1, p2⟩ := p
  obtain ⟨q1, q2⟩ := q
  have CH : Hid (Chg [] w ((w.alloc (.cells #[.int .i64 (p1 : Int), .int .i64 (p2 : Int)] 78)).alloc (.cells #[.int .i64 (q1 : Int), .int .i64 (q2 : Int)] 78))) := ((Chg.refl _ _).alloc _).alloc _
  unfold plVal
  dsimp only
  by_cases h1 : p1 = q1
  · have e1 : ((p1 : Int) != (q1 : Int)) = false := by simp [h1]
    have e2 : decide (Hq.lt (p1, p2) (q1, q2)) = decide (p2 < q2) := by
      unfold Hq.lt
      dsimp only
      congr 1
      exact propext ⟨fun h => by omega, fun h => by omega⟩
    rw [e2]
    clear e2 h1
    go_enter Try.func77, Try.ntmps77
    go_wp2_with fail
    go_ret
    exact ⟨rfl, CH⟩
  · have e1 : ((p1 : Int) != (q1 : Int)) = true := by simp; omega
    have e2 : decide (Hq.lt (p1, p2) (q1, q2)) = decide (p1 < q1) := by
      unfold Hq.lt
      dsimp only
      congr 1
      exact propext ⟨fun h => by omega, fun h => by omega⟩
    rw [e2]
    clear e2 h1
    go_enter Try.func77, Try.ntmps77
    go_wp2_with fail
    go_ret
    exact ⟨rfl, CH⟩


theorem row_queue (name : String) (f : FuncId) (p : Bool) (h : ((Try.prog.info? 87).bind fun i => i.methods.find? (·.name == name)).map (fun m => (m.path.toList.isEmpty, m.func)) = some (true, some (f, p))) :
    ∃ i m, Try.prog.info? 87 = some i ∧ i.methods.find? (·.name == name) = some m ∧ m.path = #[] ∧ m.func = some (f, p) := by
  cases hi : Try.prog.info? 87 with
  | none => rw [hi] at h; simp at h
  | some i =>
    rw [hi] at h
    simp only [Option.bind_some] at h
    cases hm : i.methods.find? (·.name == name) with
    | none => rw [hm] at h; simp at h
    | some m =>
      rw [hm] at h
      simp only [Option.map_some, Option.some.injEq, Prod.mk.injEq, List.isEmpty_iff] at h
      exact ⟨i, m, rfl, hm, Array.toList_eq_nil_iff.1 h.1, h.2⟩

theorem run_wrapnil (t : TypeId) (a : Addr) (s m : String) (w : World) : (Builtin.ssaWrapNilChk_ #[t] t #[.pointer (some a), strVal s, strVal m]).run Try.prog w = .ok (.pointer (some a)) w := rfl

theorem method_val (name : String) (f : FuncId) (h : ((Try.prog.info? 87).bind fun i => i.methods.find? (·.name == name)).map (fun m => (m.path.toList.isEmpty, m.func)) = some (true, some (f, false)))
    (n : Nat) (a : Addr) (ao : Option Addr) (k c : Nat) (w : World) (hc : w.cell? a = some (.slice ao k c)) : (method (n + 1) 87 (.pointer (some a)) name).run Try.prog w = .ok (f, .slice ao k c) w := by
  obtain ⟨i, m, h1, h2, h3, h4⟩ := row_queue name f false h
  simp [method, typeInfo, go_sem, h1, h2, h3, h4, follow, receiverAt, Place.get, run_wrapnil, loadVar, hc]

theorem method_ptr (name : String) (f : FuncId) (h : ((Try.prog.info? 87).bind fun i => i.methods.find? (·.name == name)).map (fun m => (m.path.toList.isEmpty, m.func)) = some (true, some (f, true)))
    (n : Nat) (p : Option Addr) (w : World) : (method (n + 1) 87 (.pointer p) name).run Try.prog w = .ok (f, .pointer p) w := by
  obtain ⟨i, m, h1, h2, h3, h4⟩ := row_queue name f true h
  simp [method, typeInfo, go_sem, h1, h2, h3, h4, follow, receiverAt, Place.get]

theorem method_len (n : Nat) (a : Addr) (ao : Option Addr) (k c : Nat) (w : World) (hc : w.cell? a = some (.slice ao k c)) : (method (n + 1) 87 (.pointer (some a)) "Len").run Try.prog w = .ok (28, .slice ao k c) w := method_val _ _ (by kernel_rfl) n a ao k c w hc
theorem method_less (n : Nat) (a : Addr) (ao : Option Addr) (k c : Nat) (w : World) (hc : w.cell? a = some (.slice ao k c)) : (method (n + 1) 87 (.pointer (some a)) "Less").run Try.prog w = .ok (75, .slice ao k c) w := method_val _ _ (by kernel_rfl) n a ao k c w hc
theorem method_swap (n : Nat) (a : Addr) (ao : Option Addr) (k c : Nat) (w : World) (hc : w.cell? a = some (.slice ao k c)) : (method (n + 1) 87 (.pointer (some a)) "Swap").run Try.prog w = .ok (76, .slice ao k c) w := method_val _ _ (by kernel_rfl) n a ao k c w hc
theorem method_push (n : Nat) (p : Option Addr) (w : World) : (method (n + 1) 87 (.pointer p) "Push").run Try.prog w = .ok (79, .pointer p) w := method_ptr _ _ (by kernel_rfl) n p w
theorem method_pop (n : Nat) (p : Option Addr) (w : World) : (method (n + 1) 87 (.pointer p) "Pop").run Try.prog w = .ok (78, .pointer p) w := method_ptr _ _ (by kernel_rfl) n p w

theorem pl_cells {w : World} {ao : Option Addr} {n c : Nat} {A : List Pl} (h : RdW 2 w (.slice ao n c) (A.map plSlot)) {i : Nat} (hi : i < A.length) : ∃ g, ao = some ⟨g, 0, none⟩ ∧ w.cell? ⟨g, i * 2, none⟩ = some (.int .i64 ((Hq.nth A i).1 : Int)) ∧ w.cell? ⟨g, i * 2 + 1, none⟩ = some (.int .i64 ((Hq.nth A i).2 : Int)) := by
  obtain ⟨g, e, hc⟩ := h.at (k := i) (x := plSlot (Hq.nth A i)) (by rw [List.getElem?_map, Hq.nth_get hi]; rfl)
  exact ⟨g, e, hc 0 _ rfl, hc 1 _ rfl⟩

set_option maxHeartbeats 2000000 in
set_option maxRecDepth 100000 in
theorem less_any (w : World) (ao : Option Addr) (c : Nat) (A : List Pl) (hr : RdW 2 w (.slice ao A.length c) (A.map plSlot)) (i j : Nat) (hi : i < A.length) (hj : j < A.length) :
    Calls Try.prog 75 #[.slice ao A.length c, .int .i64 (i : Int), .int .i64 (j : Int)] w (Says w (.bool (decide (Hq.lt (Hq.nth A i) (Hq.nth A j))))) := by
  obtain ⟨g, rfl, i0, i1⟩ := pl_cells hr hi
  obtain ⟨g', e, j0, j1⟩ := pl_cells hr hj
  obtain rfl : g = g' := by simpa using e
  have hg : g < w.heap.size := by
    rcases hr with ⟨h0, _⟩ | ⟨b, c', hv, hb, _⟩
    · have h1 : A = [] := by simpa using h0
      subst h1
      exact absurd hi (by simp)
    · obtain ⟨rfl, -, -⟩ : g = b ∧ A.length = (A.map plSlot).length ∧ c = c' := by simpa using hv
      exact hb
  have BF := Lib.hid (fun w' => before_any w' (Hq.nth A i) (Hq.nth A j))
  have K0 : Hid (∀ w', Chg [] w w' → (w'.cell? ⟨g, i * 2, none⟩ = some (.int .i64 ((Hq.nth A i).1 : Int)) ∧ w'.cell? ⟨g, i * 2 + 1, none⟩ = some (.int .i64 ((Hq.nth A i).2 : Int))) ∧ w'.cell? ⟨g, j * 2, none⟩ = some (.int .i64 ((Hq.nth A j).1 : Int)) ∧ w'.cell? ⟨g, j * 2 + 1, none⟩ = some (.int .i64 ((Hq.nth A j).2 : Int))) := fun w' ch =>
    ⟨⟨(ch.cell (p := ⟨g, _, none⟩) hg (by simp)).trans i0, (ch.cell (p := ⟨g, _, none⟩) hg (by simp)).trans i1⟩, (ch.cell (p := ⟨g, _, none⟩) hg (by simp)).trans j0, (ch.cell (p := ⟨g, _, none⟩) hg (by simp)).trans j1⟩
  have a0 : (0 : Int) ≤ (i : Int) := Int.natCast_nonneg _
  have a1 : (i : Int) < (A.length : Int) := by omega
  have b0 : (0 : Int) ≤ (j : Int) := Int.natCast_nonneg _
  have b1 : (j : Int) < (A.length : Int) := by omega
  clear e hr hi hj hg
  generalize Hq.nth A i = p at *
  generalize Hq.nth A j = q at *
  generalize decide (Hq.lt p q) = r at *
  generalize A.length = n at *
  unfold plVal at BF
  go_enter Try.func75, Try.ntmps75
  go_wp2_with fail
  have C1 : Hid (Chg [] w w.drew) := (Chg.refl _ _).drewN 1
  go_region_held3 (fun w' : World => (w'.cell? ⟨g, i * 2, none⟩ = some (.int .i64 (p.1 : Int)) ∧ w'.cell? ⟨g, i * 2 + 1, none⟩ = some (.int .i64 (p.2 : Int))) ∧ w'.cell? ⟨g, j * 2, none⟩ = some (.int .i64 (q.1 : Int)) ∧ w'.cell? ⟨g, j * 2 + 1, none⟩ = some (.int .i64 (q.2 : Int))) (first | exact ⟨⟨i0, i1⟩, j0, j1⟩ | exact K0.out _ C1.out) (first
    | (go_at_call 77; refine (BF.out _).mono ?_; rintro e2 w2 ⟨rfl, C⟩; replace C1 := Lib.hid (C1.out.trans C.out); clear C))
  all_goals go_wp2_with fail
  all_goals go_ret
  all_goals exact ⟨rfl, C1⟩


theorem swap_slots (A : List Pl) (i j : Nat) : ((A.map plSlot).set i (plSlot (Hq.nth A j))).set j (plSlot (Hq.nth A i)) = (Hq.swap A i j).map plSlot := by
  unfold Hq.swap
  rw [List.map_set, List.map_set]

set_option maxHeartbeats 2000000 in
set_option maxRecDepth 100000 in
theorem swap_any (w : World) (ao : Option Addr) (c : Nat) (A : List Pl) (ho : OwnW 2 w 0 78 (.slice ao A.length c) (A.map plSlot)) (i j : Nat) (hi : i < A.length) (hj : j < A.length) :
    Calls Try.prog 76 #[.slice ao A.length c, .int .i64 (i : Int), .int .i64 (j : Int)] w fun e w' => e = .returned (.tuple #[]) ∧ Hid (OwnW 2 w' 0 78 (.slice ao A.length c) ((Hq.swap A i j).map plSlot)) ∧ Hid (Chg (Value.slice ao A.length c).ownBlock.toList w w') := by
  obtain ⟨g, rfl, i0, i1⟩ := pl_cells ho.rd hi
  obtain ⟨g', e, j0, j1⟩ := pl_cells ho.rd hj
  obtain rfl : g = g' := by simpa using e
  obtain ⟨o1, f1, t1⟩ := ho.set (k := i) (by rw [List.length_map]; exact hi) (x := plSlot (Hq.nth A j)) rfl
  obtain ⟨o2, f2, t2⟩ := o1.set (k := j) (by rw [List.length_set, List.length_map]; exact hj) (x := plSlot (Hq.nth A i)) rfl
  rw [swap_slots] at o2
  replace o2 := Lib.hid o2
  have CH : Hid (Chg [g] w ((w.setCells g (i * 2) (plSlot (Hq.nth A j))).setCells g (j * 2) (plSlot (Hq.nth A i)))) := ((((Chg.refl [g] w).setCell (p := ⟨g, i * 2, none⟩) (.inl (by simp)) _).setCell (p := ⟨g, i * 2 + 1, none⟩) (.inl (by simp)) _).setCell (p := ⟨g, j * 2, none⟩) (.inl (by simp)) _).setCell (p := ⟨g, j * 2 + 1, none⟩) (.inl (by simp)) _
  have a0 : (0 : Int) ≤ (i : Int) := Int.natCast_nonneg _
  have a1 : (i : Int) < (A.length : Int) := by omega
  have b0 : (0 : Int) ≤ (j : Int) := Int.natCast_nonneg _
  have b1 : (j : Int) < (A.length : Int) := by omega
  have fr := f1 (i * 2)
  have fr1 := f1 (i * 2 + 1)
  have fs := f1 (j * 2)
  have fs1 := f1 (j * 2 + 1)
  clear e hi hj ho o1 t1 t2 f1 f2
  have o3 : Hid (OwnW 2 ((w.setCells g (i * 2) (plSlot (Hq.nth A j))).setCells g (j * 2) (plSlot (Hq.nth A i))).drew 0 78 (.slice (some ⟨g, 0, none⟩) A.length c) ((Hq.swap A i j).map plSlot)) := o2.out.chg ((Chg.refl [] _).drewN 1) (by simp)
  have C3 : Hid (Chg [g] w ((w.setCells g (i * 2) (plSlot (Hq.nth A j))).setCells g (j * 2) (plSlot (Hq.nth A i))).drew) := CH.out.drewN 1
  clear o2 CH
  generalize (Hq.swap A i j).map plSlot = B at *
  unfold plSlot at *
  by_cases hij : i = j
  · subst hij
    clear b0 b1 j0 j1 fs fs1
    generalize Hq.nth A i = p at *
    generalize A.length = n at *
    go_enter Try.func76, Try.ntmps76
    go_wp2_with fail
    go_region
    all_goals go_end0
    all_goals exact ⟨rfl, o3, C3⟩
  · generalize Hq.nth A i = p at *
    generalize Hq.nth A j = q at *
    generalize A.length = n at *
    go_enter Try.func76, Try.ntmps76
    go_wp2_with fail
    go_region
    all_goals go_end0
    all_goals exact ⟨rfl, o3, C3⟩


/-- A lift's own block, and a queue of places. -/
def lbT (P : Nat) (cs : List Value) : Thing := blkT P 76 cs
def plT (v : Value) (A : List Pl) : Thing := wideT 2 78 v (A.map plSlot)
def heapI (P k : Nat) : Value := .iface 87 (.pointer (some ⟨P, k, none⟩))

theorem plT_slice {w : World} {v : Value} {A : List Pl} (h : (plT v A).P w) : ∃ ao c, v = .slice ao A.length c := by
  have h2 : OwnW 2 w 0 78 v (A.map plSlot) := h
  obtain ⟨ao, c, e⟩ := h2.slice
  rw [List.length_map] at e
  exact ⟨ao, c, e⟩

theorem pswap {w0 w : World} {ts : List Thing} {P : Nat} {cs : List Value} {ao : Option Addr} {n c : Nat} {A : List Pl} (hn : A.length = n) (H : Side w0 w (lbT P cs :: plT (.slice ao n c) A :: ts)) (i j : Nat) (hi : i < n) (hj : j < n) :
    Calls Try.prog 76 #[.slice ao n c, .int .i64 (i : Int), .int .i64 (j : Int)] w fun e w' => e = .returned (.tuple #[]) ∧ Hid (Side w0 w' (lbT P cs :: plT (.slice ao n c) (Hq.swap A i j) :: ts)) := by
  subst hn
  refine (swap_any w ao c A (H.get 1 rfl) i j hi hj).mono ?_
  rintro e w' ⟨rfl, O, C⟩
  exact ⟨rfl, H.turnAt 1 rfl C.out (fun k hk => .inl hk) O.out (fun k hk => .inl hk)⟩

theorem pless {w0 w : World} {ts : List Thing} {P : Nat} {cs : List Value} {ao : Option Addr} {n c : Nat} {A : List Pl} (hn : A.length = n) (H : Side w0 w (lbT P cs :: plT (.slice ao n c) A :: ts)) (i j : Nat) (hi : i < n) (hj : j < n) (b : Bool) (hb : decide (Hq.lt (Hq.nth A i) (Hq.nth A j)) = b) :
    Calls Try.prog 75 #[.slice ao n c, .int .i64 (i : Int), .int .i64 (j : Int)] w (Says w (.bool b)) := by
  subst hn hb
  exact less_any w ao c A (H.get 1 rfl : OwnW _ _ _ _ _ _).rd i j hi hj

set_option maxHeartbeats 4000000 in
set_option maxRecDepth 100000 in
theorem up_any (w0 w : World) (ts : List Thing) (P k c : Nat) (ao : Option Addr) (cs : List Value) (A : List Pl) (H : Side w0 w (lbT P cs :: plT (.slice ao A.length c) A :: ts)) (hk : cs[k]? = some (.slice ao A.length c)) (j : Nat) (hj : j < A.length) (hL : A.length ≤ 200000) (hU : Hq.Up A A.length j) :
    Calls Try.prog 57 #[heapI P k, .int .i64 (j : Int)] w fun e w' => e = .returned (.tuple #[]) ∧ ∃ B, Hid (B.Perm A) ∧ Hid (Hq.Hp B B.length) ∧ Hid (Side w0 w' (lbT P cs :: plT (.slice ao A.length c) B :: ts)) := by
  have KC : Hid (∀ w' B, Side w0 w' (lbT P cs :: plT (.slice ao A.length c) B :: ts) → w'.cell? ⟨P, k, none⟩ = some (.slice ao A.length c)) := fun w' B h => (h.get 0 rfl : Blk _ _ _ _).cell hk
  replace H := Lib.hid H
  replace hU := Lib.hid hU
  replace hL := Lib.hid hL
  clear hk
  unfold heapI
  go_enter Try.func57, Try.ntmps57
  go_wp2_with fail
  go_loopw [1] (fun jj wr => ∃ (j : Nat) (B : List Pl), jj = .int .i64 j ∧ j < A.length ∧ Hid (B.Perm A) ∧ Hid (Hq.Up B A.length j) ∧ Hid (Side w0 wr (lbT P cs :: plT (.slice ao A.length c) B :: ts))) (fun jj _ => (intOf jj).toNat)
  case atStart => exact ⟨j, A, rfl, hj, List.Perm.refl _, hU, H⟩
  case round =>
    obtain ⟨j, B, rfl, hj, HP, HU, HS⟩ := hrel
    clear H hU
    have EL : Hid (B.length = A.length) := HP.out.length_eq
    by_cases h0 : j = 0
    · subst h0
      have HH : Hid (Hq.Hp B B.length) := by rw [EL.out]; exact HU.out.stop0
      clear hj
      go_wp2_with fail
      go_end0
      exact ⟨rfl, B, HP, HH, HS⟩
    · obtain ⟨p, hp⟩ : ∃ p, p = (j - 1) / 2 := ⟨_, rfl⟩
      have cc := KC.out _ _ HS.out
      have ML := fun n => method_less n ⟨P, k, none⟩ ao A.length c wr cc
      have MS := fun n w' hc => method_swap n ⟨P, k, none⟩ ao A.length c w' hc
      have hpj : p < j := by omega
      have hpl : p < A.length := by omega
      have z1 : (j : Int) - 1 = ((j - 1 : Nat) : Int) := by omega
      have z2 : Int.tdiv ((j - 1 : Nat) : Int) 2 = (p : Int) := by rw [hp]; rfl
      have z3 : ((p : Int) == (j : Int)) = false := by simp; omega
      have r1 : ((j - 1 : Nat) : Int) ≤ 1000000000 := by have := hL.out; omega
      have r2 : (p : Int) ≤ 1000000000 := by have := hL.out; omega
      have r3 : -1000000000 ≤ ((j - 1 : Nat) : Int) := by omega
      have r4 : -1000000000 ≤ (p : Int) := by omega
      have MC : Hid (p < j) := hpj
      have HJ := Lib.hid hj
      have HPL := Lib.hid hpl
      by_cases hlt : Hq.lt (Hq.nth B j) (Hq.nth B p)
      · have LS := Lib.hid (pless EL.out HS.out j p hj hpl true (decide_eq_true hlt))
        have HU2 : Hid (Hq.Up (Hq.swap B p j) A.length p) := by rw [hp]; exact HU.out.step (by omega) hj (by rw [EL.out]; exact Nat.le_refl _) (by rw [← hp]; exact hlt)
        have HP2 : Hid ((Hq.swap B p j).Perm A) := (Hq.swap_perm (by rw [EL.out]; exact hpl) (by rw [EL.out]; exact hj)).trans HP.out
        clear hlt hp h0 hpj hj hpl
        obtain ⟨q1, q2⟩ := wrap_in r3 r1
        obtain ⟨q3, q4⟩ := wrap_in r4 r2
        clear r1 r2 r3 r4
        go_wp2_with (first
          | (go_at_call 75; refine LS.out.mono ?_; rintro e1 w1 ⟨rfl, C1⟩; have H1 := Lib.hid (HS.out.quiet C1.out); have cc1 := KC.out _ _ H1.out; have MS1 := fun n => MS n w1 cc1)
          | (go_at_call 76; refine (pswap EL.out H1.out p j HPL.out HJ.out).mono ?_; rintro e2 w2 ⟨rfl, H2⟩))
        exact ⟨⟨p, Hq.swap B p j, rfl, HPL.out, HP2, HU2, H2⟩, by have := MC.out; simp [intOf]; omega⟩
      · have LS := Lib.hid (pless EL.out HS.out j p hj hpl false (decide_eq_false hlt))
        have HH : Hid (Hq.Hp B B.length) := by rw [EL.out]; exact HU.out.stop (by rw [← hp]; exact hlt)
        clear hlt hp h0 hpj hj hpl
        obtain ⟨q1, q2⟩ := wrap_in r3 r1
        obtain ⟨q3, q4⟩ := wrap_in r4 r2
        clear r1 r2 r3 r4
        go_wp2_with (first
          | (go_at_call 75; refine LS.out.mono ?_; rintro e1 w1 ⟨rfl, C1⟩; have H1 := Lib.hid (HS.out.quiet C1.out)))
        go_end0
        exact ⟨rfl, B, HP, HH, H1⟩


set_option maxHeartbeats 4000000 in
set_option maxRecDepth 100000 in
theorem down_any (w0 w : World) (ts : List Thing) (P k c n : Nat) (ao : Option Addr) (cs : List Value) (A : List Pl) (H : Side w0 w (lbT P cs :: plT (.slice ao A.length c) A :: ts)) (hk : cs[k]? = some (.slice ao A.length c)) (hn : A.length = n + 1) (hL : A.length ≤ 200000) (hD : Hq.Dn A n 0) :
    Calls Try.prog 54 #[heapI P k, .int .i64 0, .int .i64 (n : Int)] w fun e w' => ∃ b, e = .returned (.bool b) ∧ ∃ B, Hid (B.Perm A) ∧ Hid (Hq.Hp B n) ∧ Hid (Hq.nth B n = Hq.nth A n) ∧ Hid (Side w0 w' (lbT P cs :: plT (.slice ao A.length c) B :: ts)) := by
  have KC : Hid (∀ w' B, Side w0 w' (lbT P cs :: plT (.slice ao A.length c) B :: ts) → w'.cell? ⟨P, k, none⟩ = some (.slice ao A.length c)) := fun w' B h => (h.get 0 rfl : Blk _ _ _ _).cell hk
  replace H := Lib.hid H
  replace hD := Lib.hid hD
  replace hL := Lib.hid hL
  have HN := Lib.hid hn
  clear hk hn
  unfold heapI
  go_enter Try.func54, Try.ntmps54
  go_wp2_with fail
  go_loopw [7] (fun ii wr => ∃ (i : Nat) (B : List Pl), ii = .int .i64 i ∧ Hid (i ≤ n) ∧ Hid (B.Perm A) ∧ Hid (Hq.Dn B n i) ∧ Hid (Hq.nth B n = Hq.nth A n) ∧ Hid (Side w0 wr (lbT P cs :: plT (.slice ao A.length c) B :: ts))) (fun ii _ => n - (intOf ii).toNat)
  case atStart => exact ⟨0, A, rfl, Nat.zero_le _, List.Perm.refl _, hD, rfl, H⟩
  case round =>
    obtain ⟨i, B, rfl, HI, HP, HU, HL, HS⟩ := hrel
    clear H hD
    have EL : Hid (B.length = A.length) := HP.out.length_eq
    obtain ⟨x, hx⟩ : ∃ x, x = 2 * i := ⟨_, rfl⟩
    obtain ⟨y, hy⟩ : ∃ y, y = 2 * i + 1 := ⟨_, rfl⟩
    obtain ⟨z, hz⟩ : ∃ z, z = 2 * i + 2 := ⟨_, rfl⟩
    have e1 : (2 : Int) * (i : Int) = (x : Int) := by omega
    have e2 : (x : Int) + 1 = (y : Int) := by omega
    have e3 : (y : Int) + 1 = (z : Int) := by omega
    have r0 : (z : Int) ≤ 1000000000 := by have := hL.out; have := HI.out; have := HN.out; omega
    have r1 : (x : Int) ≤ 1000000000 := by omega
    have r2 : (y : Int) ≤ 1000000000 := by omega
    have r3 : -1000000000 ≤ (x : Int) := by omega
    have r4 : -1000000000 ≤ (y : Int) := by omega
    have r5 : -1000000000 ≤ (z : Int) := by omega
    have e4 : ¬ (y : Int) < 0 := by omega
    have MLF : Hid (∀ n (w' : World) (B : List Pl), Side w0 w' (lbT P cs :: plT (.slice ao A.length c) B :: ts) → (method (n + 1) 87 (.pointer (some ⟨P, k, none⟩)) "Less").run Try.prog w' = .ok (75, .slice ao A.length c) w') := fun n w' B h => method_less n ⟨P, k, none⟩ ao A.length c w' (KC.out _ _ h)
    have MSF : Hid (∀ n (w' : World) (B : List Pl), Side w0 w' (lbT P cs :: plT (.slice ao A.length c) B :: ts) → (method (n + 1) 87 (.pointer (some ⟨P, k, none⟩)) "Swap").run Try.prog w' = .ok (76, .slice ao A.length c) w') := fun n w' B h => method_swap n ⟨P, k, none⟩ ao A.length c w' (KC.out _ _ h)
    have M1 := fun n => MLF.out n wr B HS.out
    by_cases h1 : n ≤ y
    · have HH : Hid (Hq.Hp B n) := HU.out.stop1 (by omega)
      have h1' : (n : Int) ≤ (y : Int) := by omega
      clear hx hy hz e4 r0 r5 e3
      obtain ⟨q1, q2⟩ := wrap_in r3 r1
      obtain ⟨q3, q4⟩ := wrap_in r4 r2
      clear r1 r2 r3 r4 h1
      go_wp2_with fail
      go_ret
      exact ⟨_, rfl, B, HP, HH, HL, HS⟩
    · have h1' : ¬ (n : Int) ≤ (y : Int) := by omega
      have HYN : Hid (y < n) := by show _ < _; omega
      have hyl : y < A.length := by have := HN.out; have := HYN.out; omega
      have hil : i < A.length := by omega
      have HYL := Lib.hid hyl
      have HIL := Lib.hid hil
      have HIY : Hid (i < y) := by show _ < _; omega
      by_cases h2 : z < n
      · have h2' : (z : Int) < (n : Int) := by omega
        have HZL : Hid (z < A.length) := by have := HN.out; show _ < _; omega
        by_cases h4 : Hq.lt (Hq.nth B z) (Hq.nth B y)
        · have h4s := Lib.hid h4
          have LM : Hid (Hq.Least B n i z) := by show Hq.Least B n i z; rw [hz]; exact Hq.least_right (by omega) (by rw [← hz, ← hy]; exact h4)
          by_cases h3 : Hq.lt (Hq.nth B z) (Hq.nth B i)
          · have h3s := Lib.hid h3
            have JL : Hid (z < A.length) := by have := LM.out.1; have := HN.out; show _ < _; omega
            have HU2 : Hid (Hq.Dn (Hq.swap B i z) n z) := HU.out.step LM.out (by rw [EL.out, HN.out]; omega) h3
            have HP2 : Hid ((Hq.swap B i z).Perm A) := (Hq.swap_perm (by rw [EL.out]; exact HIL.out) (by rw [EL.out]; exact JL.out)).trans HP.out
            have HL2 : Hid (Hq.nth (Hq.swap B i z) n = Hq.nth A n) := by show _ = _; rw [Hq.nth_swap (by rw [EL.out]; exact HIL.out) (by rw [EL.out]; exact JL.out), if_neg (by have := LM.out.1; omega), if_neg (by have := HYN.out; have := HIY.out; omega)]; exact HL.out
            have MZ : Hid (n - z < n - i) := by show _ < _; have := LM.out.1; have := HIY.out; omega
            have JN : Hid (z ≤ n) := Nat.le_of_lt LM.out.1
            clear h3 hx hy hz hyl hil h1 h2 h4
            obtain ⟨q1, q2⟩ := wrap_in r3 r1
            obtain ⟨q3, q4⟩ := wrap_in r4 r2
            obtain ⟨q5, q6⟩ := wrap_in r5 r0
            clear r0 r1 r2 r3 r4 r5
            go_upto_region 8 with fail
            refine (pless EL.out HS.out z y HZL.out HYL.out _ (decide_eq_true h4s.out)).mono ?_
            rintro e1 w1 ⟨rfl, C1⟩
            have H1 := Lib.hid (HS.out.quiet C1.out)
            have M2 := fun n => MLF.out n w1 B H1.out
            go_wp2_with (first
              | (go_at_call 75; refine (pless EL.out H1.out z i JL.out HIL.out true (decide_eq_true h3s.out)).mono ?_; rintro e2 w2 ⟨rfl, C2⟩; have H2 := Lib.hid (H1.out.quiet C2.out); have M3 := fun n => MSF.out n w2 B H2.out)
              | (go_at_call 76; refine (pswap EL.out H2.out i z HIL.out JL.out).mono ?_; rintro e3 w3 ⟨rfl, H3⟩))
            exact ⟨⟨z, Hq.swap B i z, rfl, JN, HP2, HU2, HL2, H3⟩, by have := MZ.out; simp [intOf]; omega⟩
          · have h3s := Lib.hid h3
            have JL : Hid (z < A.length) := by have := LM.out.1; have := HN.out; show _ < _; omega
            have HH : Hid (Hq.Hp B n) := HU.out.stop2 LM.out h3
            clear h3 hx hy hz hyl hil h1 h2 h4
            obtain ⟨q1, q2⟩ := wrap_in r3 r1
            obtain ⟨q3, q4⟩ := wrap_in r4 r2
            obtain ⟨q5, q6⟩ := wrap_in r5 r0
            clear r0 r1 r2 r3 r4 r5
            go_upto_region 8 with fail
            refine (pless EL.out HS.out z y HZL.out HYL.out _ (decide_eq_true h4s.out)).mono ?_
            rintro e1 w1 ⟨rfl, C1⟩
            have H1 := Lib.hid (HS.out.quiet C1.out)
            have M2 := fun n => MLF.out n w1 B H1.out
            go_wp2_with (first
              | (go_at_call 75; refine (pless EL.out H1.out z i JL.out HIL.out false (decide_eq_false h3s.out)).mono ?_; rintro e2 w2 ⟨rfl, C2⟩; have H2 := Lib.hid (H1.out.quiet C2.out); have M3 := fun n => MSF.out n w2 B H2.out))
            go_ret
            exact ⟨_, rfl, B, HP, HH, HL, H2⟩
        · have h4s := Lib.hid h4
          have LM : Hid (Hq.Least B n i y) := by show Hq.Least B n i y; rw [hy]; exact Hq.least_left (by omega) (by rw [← hz, ← hy]; exact h4)
          by_cases h3 : Hq.lt (Hq.nth B y) (Hq.nth B i)
          · have h3s := Lib.hid h3
            have JL : Hid (y < A.length) := by have := LM.out.1; have := HN.out; show _ < _; omega
            have HU2 : Hid (Hq.Dn (Hq.swap B i y) n y) := HU.out.step LM.out (by rw [EL.out, HN.out]; omega) h3
            have HP2 : Hid ((Hq.swap B i y).Perm A) := (Hq.swap_perm (by rw [EL.out]; exact HIL.out) (by rw [EL.out]; exact JL.out)).trans HP.out
            have HL2 : Hid (Hq.nth (Hq.swap B i y) n = Hq.nth A n) := by show _ = _; rw [Hq.nth_swap (by rw [EL.out]; exact HIL.out) (by rw [EL.out]; exact JL.out), if_neg (by have := LM.out.1; omega), if_neg (by have := HYN.out; have := HIY.out; omega)]; exact HL.out
            have MZ : Hid (n - y < n - i) := by show _ < _; have := LM.out.1; have := HIY.out; omega
            have JN : Hid (y ≤ n) := Nat.le_of_lt LM.out.1
            clear h3 hx hy hz hyl hil h1 h2 h4
            obtain ⟨q1, q2⟩ := wrap_in r3 r1
            obtain ⟨q3, q4⟩ := wrap_in r4 r2
            obtain ⟨q5, q6⟩ := wrap_in r5 r0
            clear r0 r1 r2 r3 r4 r5
            go_upto_region 8 with fail
            refine (pless EL.out HS.out z y HZL.out HYL.out _ (decide_eq_false h4s.out)).mono ?_
            rintro e1 w1 ⟨rfl, C1⟩
            have H1 := Lib.hid (HS.out.quiet C1.out)
            have M2 := fun n => MLF.out n w1 B H1.out
            go_wp2_with (first
              | (go_at_call 75; refine (pless EL.out H1.out y i JL.out HIL.out true (decide_eq_true h3s.out)).mono ?_; rintro e2 w2 ⟨rfl, C2⟩; have H2 := Lib.hid (H1.out.quiet C2.out); have M3 := fun n => MSF.out n w2 B H2.out)
              | (go_at_call 76; refine (pswap EL.out H2.out i y HIL.out JL.out).mono ?_; rintro e3 w3 ⟨rfl, H3⟩))
            exact ⟨⟨y, Hq.swap B i y, rfl, JN, HP2, HU2, HL2, H3⟩, by have := MZ.out; simp [intOf]; omega⟩
          · have h3s := Lib.hid h3
            have JL : Hid (y < A.length) := by have := LM.out.1; have := HN.out; show _ < _; omega
            have HH : Hid (Hq.Hp B n) := HU.out.stop2 LM.out h3
            clear h3 hx hy hz hyl hil h1 h2 h4
            obtain ⟨q1, q2⟩ := wrap_in r3 r1
            obtain ⟨q3, q4⟩ := wrap_in r4 r2
            obtain ⟨q5, q6⟩ := wrap_in r5 r0
            clear r0 r1 r2 r3 r4 r5
            go_upto_region 8 with fail
            refine (pless EL.out HS.out z y HZL.out HYL.out _ (decide_eq_false h4s.out)).mono ?_
            rintro e1 w1 ⟨rfl, C1⟩
            have H1 := Lib.hid (HS.out.quiet C1.out)
            have M2 := fun n => MLF.out n w1 B H1.out
            go_wp2_with (first
              | (go_at_call 75; refine (pless EL.out H1.out y i JL.out HIL.out false (decide_eq_false h3s.out)).mono ?_; rintro e2 w2 ⟨rfl, C2⟩; have H2 := Lib.hid (H1.out.quiet C2.out); have M3 := fun n => MSF.out n w2 B H2.out))
            go_ret
            exact ⟨_, rfl, B, HP, HH, HL, H2⟩
      · have h2' : ¬ (z : Int) < (n : Int) := by omega
        have LM : Hid (Hq.Least B n i y) := by show Hq.Least B n i y; rw [hy]; exact Hq.least_one (by omega) (by omega)
        by_cases h3 : Hq.lt (Hq.nth B y) (Hq.nth B i)
        · have h3s := Lib.hid h3
          have JL : Hid (y < A.length) := by have := LM.out.1; have := HN.out; show _ < _; omega
          have HU2 : Hid (Hq.Dn (Hq.swap B i y) n y) := HU.out.step LM.out (by rw [EL.out, HN.out]; omega) h3
          have HP2 : Hid ((Hq.swap B i y).Perm A) := (Hq.swap_perm (by rw [EL.out]; exact HIL.out) (by rw [EL.out]; exact JL.out)).trans HP.out
          have HL2 : Hid (Hq.nth (Hq.swap B i y) n = Hq.nth A n) := by show _ = _; rw [Hq.nth_swap (by rw [EL.out]; exact HIL.out) (by rw [EL.out]; exact JL.out), if_neg (by have := LM.out.1; omega), if_neg (by have := HYN.out; have := HIY.out; omega)]; exact HL.out
          have MZ : Hid (n - y < n - i) := by show _ < _; have := LM.out.1; have := HIY.out; omega
          have JN : Hid (y ≤ n) := Nat.le_of_lt LM.out.1
          clear h3 hx hy hz hyl hil h1 h2
          obtain ⟨q1, q2⟩ := wrap_in r3 r1
          obtain ⟨q3, q4⟩ := wrap_in r4 r2
          obtain ⟨q5, q6⟩ := wrap_in r5 r0
          clear r0 r1 r2 r3 r4 r5
          go_upto_region 8 with fail
          go_wp2_with (first
            | (go_at_call 75; refine (pless EL.out HS.out y i JL.out HIL.out true (decide_eq_true h3s.out)).mono ?_; rintro e2 w2 ⟨rfl, C2⟩; have H2 := Lib.hid (HS.out.quiet C2.out); have M3 := fun n => MSF.out n w2 B H2.out)
            | (go_at_call 76; refine (pswap EL.out H2.out i y HIL.out JL.out).mono ?_; rintro e3 w3 ⟨rfl, H3⟩))
          exact ⟨⟨y, Hq.swap B i y, rfl, JN, HP2, HU2, HL2, H3⟩, by have := MZ.out; simp [intOf]; omega⟩
        · have h3s := Lib.hid h3
          have JL : Hid (y < A.length) := by have := LM.out.1; have := HN.out; show _ < _; omega
          have HH : Hid (Hq.Hp B n) := HU.out.stop2 LM.out h3
          clear h3 hx hy hz hyl hil h1 h2
          obtain ⟨q1, q2⟩ := wrap_in r3 r1
          obtain ⟨q3, q4⟩ := wrap_in r4 r2
          obtain ⟨q5, q6⟩ := wrap_in r5 r0
          clear r0 r1 r2 r3 r4 r5
          go_upto_region 8 with fail
          go_wp2_with (first
            | (go_at_call 75; refine (pless EL.out HS.out y i JL.out HIL.out false (decide_eq_false h3s.out)).mono ?_; rintro e2 w2 ⟨rfl, C2⟩; have H2 := Lib.hid (HS.out.quiet C2.out); have M3 := fun n => MSF.out n w2 B H2.out))
          go_ret
          exact ⟨_, rfl, B, HP, HH, HL, H2⟩

end Go.Proofs.Ytihmegpcbpdipaa
