/-
  The program's lift, as a thing; New, Len, Row. By an AI agent.
-/
import Derived.Test.YtihmegpcbpdipaaLfHeap
import Derived.Test.YtihmegpcbpdipaaLfPush
namespace Go.Proofs.Ytihmegpcbpdipaa
open Go.Maps Go.RowKit

def mapT (mb : Nat) (S : List Pd) : Thing where
  F := [mb]
  P := fun w => MapIn w mb S
  lt := fun w h k hk => by rw [List.mem_singleton.1 hk]; exact h.lt
  stays := fun w w' s h c hs => h.chg c (hs mb (by simp))

def lcells (row : Nat) (va vb : Value) (mb : Nat) : List Value := [.int .i64 (row : Int), va, vb, .map (some mb)]

def parts (P row : Nat) (va vb : Value) (mb : Nat) (S : List Pd) (A B : List Pl) : List Thing := [lbT P (lcells row va vb mb), plT va A, plT vb B, mapT mb S]

/-- What a lift is in memory. -/
def LRep (P : Nat) (S : List Pd) (row : Nat) (F : List Nat) (w : World) : Prop :=
  (∀ k ∈ F, k < w.heap.size) ∧ ∃ va vb mb A B, Inv row S A B ∧ (∀ t ∈ parts P row va vb mb S A B, t.P w) ∧ (parts P row va vb mb S A B).Pairwise Thing.off ∧ ∀ t ∈ parts P row va vb mb S A B, ∀ k ∈ t.F, k ∈ F

def LiftT (P : Nat) (S : List Pd) (row : Nat) (F : List Nat) : Thing where
  F := F
  P := fun w => LRep P S row F w
  lt := fun w h => h.1
  stays := fun w w' s h c hs => by
    obtain ⟨h1, va, vb, mb, A, B, h2, h3, h4, h5⟩ := h
    exact ⟨fun k hk => Nat.lt_of_lt_of_le (h1 k hk) c.size, va, vb, mb, A, B, h2, fun t ht => t.stays w w' s (h3 t ht) c (fun k hk => hs k (h5 t ht k hk)), h4, h5⟩

theorem Side.unpack {w0 w : World} {ts : List Thing} {P : Nat} {S : List Pd} {row : Nat} {F : List Nat} (h : Side w0 w (LiftT P S row F :: ts)) :
    ∃ va vb mb A B, Inv row S A B ∧ Side w0 w (lbT P (lcells row va vb mb) :: plT va A :: plT vb B :: mapT mb S :: ts) := by
  obtain ⟨h1, va, vb, mb, A, B, h2, h3, h4, h5⟩ := (h.get 0 rfl : LRep P S row F w)
  exact ⟨va, vb, mb, A, B, h2, Side.swap (olds := [LiftT P S row F]) (bs := parts P row va vb mb S A B) h (Chg.refl [] w) (fun k hk => by cases hk) h3 (fun b hb k hk => .inl ⟨_, List.mem_singleton.2 rfl, h5 b hb k hk⟩) h4⟩

theorem Side.pack {w0 w : World} {ts : List Thing} {P : Nat} {S : List Pd} {row : Nat} {va vb : Value} {mb : Nat} {A B : List Pl} (hi : Inv row S A B) (h : Side w0 w (lbT P (lcells row va vb mb) :: plT va A :: plT vb B :: mapT mb S :: ts)) :
    ∃ F, Side w0 w (LiftT P S row F :: ts) := by
  have h' : Side w0 w (parts P row va vb mb S A B ++ ts) := h
  obtain ⟨a1, _, _⟩ := List.pairwise_append.1 h'.apart
  have e : ∀ t ∈ parts P row va vb mb S A B, t.P w := fun t ht => h'.each t (List.mem_append_left _ ht)
  refine ⟨(parts P row va vb mb S A B).flatMap (fun t : Thing => t.F), Side.swap (olds := parts P row va vb mb S A B) (bs := [LiftT P S row ((parts P row va vb mb S A B).flatMap (fun t : Thing => t.F))]) h' (Chg.refl [] w) (fun k hk => by cases hk) (fun b hb => ?_) (fun b hb k hk => ?_) (List.pairwise_singleton _ _)⟩
  · rw [List.mem_singleton.1 hb]
    refine ⟨fun k hk => ?_, va, vb, mb, A, B, hi, e, a1, fun t ht k hk => List.mem_flatMap.2 ⟨t, ht, hk⟩⟩
    obtain ⟨t, ht, hkt⟩ := List.mem_flatMap.1 hk
    exact t.lt w (e t ht) k hkt
  · rw [List.mem_singleton.1 hb] at hk
    obtain ⟨t, ht, hkt⟩ := List.mem_flatMap.1 hk
    exact .inl ⟨t, ht, hkt⟩

/-- Everything else that was there. -/
def restT (w : World) (F : List Nat) : Thing where
  F := (List.range w.heap.size).filter fun k => decide (k ∉ F)
  P := fun w' => Chg F w w'
  lt := fun w' h k hk => by
    have := List.mem_range.1 (List.mem_filter.1 hk).1
    exact Nat.lt_of_lt_of_le this h.size
  stays := fun w' w'' s h c hs => h.fresh c (fun i hi => by
    by_cases c1 : i ∈ F
    · exact .inl c1
    · by_cases c2 : w.heap.size ≤ i
      · exact .inr c2
      · exact absurd hi (hs i (List.mem_filter.2 ⟨List.mem_range.2 (by omega), by simpa using c1⟩)))

def noHeap (w : World) : World := { w with heap := #[] }

theorem rest_side {w : World} {t : Thing} (h : t.P w) : Side (noHeap w) w [t, restT w t.F] := by
  refine ⟨fun b hb => ?_, List.pairwise_cons.2 ⟨fun b hb k hk hm => ?_, List.pairwise_singleton _ _⟩, fun b _ k _ => Nat.zero_le _, ⟨rfl, rfl, rfl, Nat.zero_le _, fun k hk => absurd hk (by simp [noHeap])⟩⟩
  · rcases List.mem_cons.1 hb with rfl | hb
    · exact h
    · rw [List.mem_singleton.1 hb]
      exact Chg.refl _ _
  · rw [List.mem_singleton.1 hb] at hm
    have := (List.mem_filter.1 hm).2
    exact absurd hk (by simpa using this)

theorem turns_of {w w' : World} {F : List Nat} {T : List Nat → Thing} (h : ∃ F', Side (noHeap w) w' [T F', restT w F]) : Turns w F T w' := by
  obtain ⟨F', h⟩ := h
  refine ⟨F', h.get 0 rfl, fun k hk => ?_, h.get 1 rfl⟩
  have hoff := (List.pairwise_cons.1 h.apart).1 (restT w F) (by simp) k hk
  by_cases c1 : k ∈ F
  · exact .inl c1
  · by_cases c2 : w.heap.size ≤ k
    · exact .inr c2
    · exact absurd (List.mem_filter.2 ⟨List.mem_range.2 (by omega), by simpa using c1⟩) hoff

set_option maxHeartbeats 4000000 in
set_option maxRecDepth 100000 in
theorem lnew_ok (row : Nat) (hr : row ≤ 4095) (w0 w : World) (ts : List Thing) (H : Side w0 w ts) : Calls Try.prog 8 #[.int .i64 (row : Int)] w fun e w' =>
    ∃ P F, e = .returned (.tuple #[.pointer (some ⟨P, 0, none⟩), .int .u16 0]) ∧ Hid (Side w0 w' (LiftT P [] row F :: ts)) := by
  have OA := Lib.hid (outside_any w (row : Int) 4096 false (by simp; omega))
  have hmm := @run_makeMap Try.prog
  have C1 : Chg [] w (w.alloc (.map #[] 0)) := (Chg.refl _ _).alloc _
  have H1 := H.add (b := mapT w.heap.size []) C1 (MapIn.made w) (fun k hk => by rw [List.mem_singleton.1 hk]; exact Nat.le_refl _)
  have H2 := H1.add (w' := w.alloc (.map #[] 0)) (b := plT (.slice none 0 0) []) (Chg.refl _ _) (OwnW.nil _ _ _ _) (fun k hk => by simp [plT, wideT, Value.ownBlock] at hk)
  have H3 := H2.add (w' := w.alloc (.map #[] 0)) (b := plT (.slice none 0 0) []) (Chg.refl _ _) (OwnW.nil _ _ _ _) (fun k hk => by simp [plT, wideT, Value.ownBlock] at hk)
  have H4 := H3.add (b := lbT (w.alloc (.map #[] 0)).heap.size (lcells row (.slice none 0 0) (.slice none 0 0) w.heap.size)) ((Chg.refl _ _).alloc _) (Blk.made _ _ _) (fun k hk => by rw [List.mem_singleton.1 hk]; exact Nat.le_refl _)
  obtain ⟨F, HF⟩ := Side.pack (Inv.new hr) H4
  rw [show (w.alloc (.map #[] 0)).heap.size = w.heap.size + 1 by simp] at HF
  have HF' := Lib.hid HF
  unfold lcells at HF'
  clear HF H1 H2 H3 H4 H C1
  go_enter Try.func8, Try.ntmps8
  go_wp2_with (first
    | (go_at_call 27; refine OA.out.mono ?_; rintro e w1 ⟨rfl, rfl⟩))
  go_ret2
  exact ⟨_, F, rfl, HF'⟩

theorem lnew_no (row : Int) (h : row < 0 ∨ 4095 < row) (w : World) : Calls Try.prog 8 #[.int .i64 row] w (Says w (.tuple #[.pointer none, .int .u16 3])) := by
  have OA := Lib.hid (outside_any w row 4096 true (by simp; omega))
  go_enter Try.func8, Try.ntmps8
  go_wp2_with (first
    | (go_at_call 27; refine OA.out.mono ?_; rintro e w1 ⟨rfl, rfl⟩))
  go_ret2
  exact ⟨rfl, Chg.refl _ _⟩

theorem LRep.cells {P : Nat} {S : List Pd} {row : Nat} {F : List Nat} {w : World} (h : LRep P S row F w) : ∃ va vb mb A B, Inv row S A B ∧ Blk w P 76 (lcells row va vb mb) ∧ MapIn w mb S := by
  obtain ⟨h1, va, vb, mb, A, B, h2, h3, h4, h5⟩ := h
  exact ⟨va, vb, mb, A, B, h2, h3 _ (List.mem_cons_self), h3 (mapT mb S) (by simp [parts])⟩

theorem lrow_any (w : World) (P row : Nat) (S : List Pd) (F : List Nat) (h : LRep P S row F w) : Calls Try.prog 23 #[.pointer (some ⟨P, 0, none⟩)] w fun e w' => e = .returned (.int .i64 (row : Int)) ∧ w' = w := by
  obtain ⟨va, vb, mb, A, B, _, hb, _⟩ := h.cells
  have c0 : w.cell? ⟨P, 0, none⟩ = some (.int .i64 (row : Int)) := hb.cell (j := 0) rfl
  clear h hb
  go_enter Try.func23, Try.ntmps23
  go_wp2_with fail
  go_ret
  exact ⟨rfl, rfl⟩

theorem llen_any (w : World) (P row : Nat) (S : List Pd) (F : List Nat) (h : LRep P S row F w) : Calls Try.prog 22 #[.pointer (some ⟨P, 0, none⟩)] w fun e w' => e = .returned (.int .i64 (S.length : Int)) ∧ w' = w := by
  obtain ⟨va, vb, mb, A, B, _, hb, hm⟩ := h.cells
  have c3 : w.cell? ⟨P, 3, none⟩ = some (.map (some mb)) := hb.cell (j := 3) rfl
  obtain ⟨D, hD, hM⟩ := hm
  have ln := fun ty => hD.len Try.underlying72 ty
  rw [hM.size] at ln
  clear h hb hD hM
  go_enter Try.func22, Try.ntmps22
  go_wp2_with fail
  go_ret
  exact ⟨rfl, rfl⟩


theorem bool_law : Keyed Try.prog 4 := bool_keyed Try.underlying4

def fnUp : Value := .func (.func 55) #[] #[]
def fnLow : Value := .func (.func 56) #[] #[]

theorem upper_any (w : World) (P : Nat) : Calls Try.prog 55 #[.pointer (some ⟨P, 0, none⟩)] w fun e w' => e = .returned (.pointer (some ⟨P, 1, none⟩)) ∧ w' = w := by
  go_enter Try.func55, Try.ntmps55
  go_wp2_with fail
  go_ret
  exact ⟨rfl, rfl⟩

theorem lower_any (w : World) (P : Nat) : Calls Try.prog 56 #[.pointer (some ⟨P, 0, none⟩)] w fun e w' => e = .returned (.pointer (some ⟨P, 2, none⟩)) ∧ w' = w := by
  go_enter Try.func56, Try.ntmps56
  go_wp2_with fail
  go_ret
  exact ⟨rfl, rfl⟩

/-- The table of the two. -/
def Table (w : World) (mb : Nat) : Prop := (Instr.lookup 104 (.map (some mb)) (.bool true) false).run Try.prog w = .ok fnUp w ∧ (Instr.lookup 104 (.map (some mb)) (.bool false) false).run Try.prog w = .ok fnLow w

theorem zero_fn (w : World) : ∃ z, (zeroValue 103).run Try.prog w = .ok z w := ⟨.nilFunc, by kernel_rfl⟩

set_option maxHeartbeats 2000000 in
set_option maxRecDepth 100000 in
theorem queues_any (w : World) : Calls Try.prog 51 #[] w fun e w' => ∃ mb, e = .returned (.map (some mb)) ∧ Hid (Table w' mb) ∧ Hid (Chg [] w w') := by
  have hmm := @run_makeMap Try.prog
  have o0 : (w.alloc (.map #[] 0)).ownsMap Try.prog 4 heldR w.heap.size 0 (.map []) := World.ownsMap_made _ _ _ _
  obtain ⟨w1, r1, o1, g1⟩ := o0.update bool_law Try.underlying104 (by decide) (key := .bool true) (val := fnUp) (keyOf_bool_mk Try.underlying4 true) rfl
  obtain ⟨w2, r2, o2, g2⟩ := o1.update bool_law Try.underlying104 (by decide) (key := .bool false) (val := fnLow) (keyOf_bool_mk Try.underlying4 false) rfl
  have C : Hid (Chg [] w w2) := (((Chg.refl [] w).alloc _).grown g1 (fun k hk => .inr (by cases hk; exact Nat.le_refl _))).grown g2 (fun k hk => .inr (by cases hk; exact Nat.le_refl _))
  have T : Hid (Table w2 w.heap.size) := by
    obtain ⟨z, hz⟩ := zero_fn w2
    obtain ⟨v1, ps1, hr1, hv1⟩ := o2.lookup bool_law Try.underlying104 hz rfl (keyOf_bool_mk Try.underlying4 true)
    obtain ⟨v2, ps2, hr2, hv2⟩ := o2.lookup bool_law Try.underlying104 hz rfl (keyOf_bool_mk Try.underlying4 false)
    rw [atKey_put_other (k := .bool false) (k' := .bool true) (by simp), atKey_put_same (k := .bool true) isMap_empty (by exact trivial)] at hv1
    rw [atKey_put_same (k := .bool false) ((isMap_empty).put _ _) (by exact trivial)] at hv2
    unfold heldR at hv1 hv2
    obtain ⟨rfl, _⟩ : v1 = fnUp ∧ ps1 = [] := by simpa using (Option.some.inj hv1)
    obtain ⟨rfl, _⟩ : v2 = fnLow ∧ ps2 = [] := by simpa using (Option.some.inj hv2)
    exact ⟨hr1, hr2⟩
  unfold fnUp at r1
  unfold fnLow at r2
  clear o0 o1 o2 g1 g2
  go_enter Try.func51, Try.ntmps51
  go_wp2_with fail
  go_ret
  exact ⟨_, rfl, T, C⟩

set_option maxHeartbeats 2000000 in
set_option maxRecDepth 100000 in
theorem of_any (w : World) (P row : Nat) (p : Pl) (hP : P < w.heap.size) (hc : w.cell? ⟨P, 0, none⟩ = some (.int .i64 (row : Int))) (k : Nat) (hk : k = if row ≤ p.1 then 1 else 2) :
    Calls Try.prog 34 #[.pointer (some ⟨P, 0, none⟩), plVal p] w (Says w (.pointer (some ⟨P, k, none⟩))) := by
  obtain ⟨X, hX⟩ : ∃ X, X = w.heap.size := ⟨_, rfl⟩
  have B0 := Blk.made w [.int .i64 (p.1 : Int), .int .i64 (p.2 : Int)] 78
  rw [← hX] at B0
  generalize hW : w.alloc (.cells #[.int .i64 (p.1 : Int), .int .i64 (p.2 : Int)] 78) = W
  have CW : Hid (Chg [] w W) := by show Chg _ _ _; rw [← hW]; exact (Chg.refl _ _).alloc _
  have BW : Blk W X 78 [.int .i64 (p.1 : Int), .int .i64 (p.2 : Int)] := by rw [← hW]; exact B0
  have cW : W.cell? ⟨P, 0, none⟩ = some (.int .i64 (row : Int)) := (CW.out.cell (p := ⟨P, 0, none⟩) hP (by simp)).trans hc
  have hPW : P < W.heap.size := Nat.lt_of_lt_of_le hP CW.out.size
  have K0 : Hid (∀ w', Chg [] W w' → w'.cell? ⟨X, 0, none⟩ = some (.int .i64 (p.1 : Int)) ∧ w'.cell? ⟨P, 0, none⟩ = some (.int .i64 (row : Int))) := fun w' ch => ⟨(BW.chg ch (by simp)).cell (j := 0) rfl, (ch.cell (p := ⟨P, 0, none⟩) hPW (by simp)).trans cW⟩
  obtain ⟨c0, c1⟩ := K0.out W (Chg.refl _ _)
  have C1 : Hid (Chg [] W W.drew) := (Chg.refl _ _).drewN 1
  replace hW := Lib.hid hW
  replace hX := Lib.hid hX
  clear B0 BW cW hPW hP hc
  unfold plVal
  by_cases hr : row ≤ p.1
  · rw [if_pos hr] at hk
    subst hk
    have hri : (row : Int) ≤ (p.1 : Int) := by omega
    generalize (row : Int) = r at *
    clear hr
    generalize (p.1 : Int) = a at *
    generalize (p.2 : Int) = b at *
    go_enter Try.func34, Try.ntmps34
    go_upto_region 1 with fail
    rw [hW.out, ← hX.out]
    go_region_held3 (fun w' : World => w'.cell? ⟨X, 0, none⟩ = some (.int .i64 a) ∧ w'.cell? ⟨P, 0, none⟩ = some (.int .i64 r)) (first | exact ⟨c0, c1⟩ | exact K0.out _ C1.out) (first
      | (go_at_call 51; refine (queues_any _).mono ?_; rintro e2 w2 ⟨mb, rfl, T2, C⟩; have T := T2.out.1; unfold fnUp at T; replace C1 := Lib.hid (C1.out.trans C.out); clear C)
      | (go_at_call 55; refine (upper_any _ P).mono ?_; rintro e3 w3 ⟨rfl, rfl⟩))
    all_goals go_wp2_with fail
    all_goals go_ret
    all_goals exact ⟨rfl, CW.out.trans C1.out⟩
  · rw [if_neg hr] at hk
    subst hk
    have hri : ¬ (row : Int) ≤ (p.1 : Int) := by omega
    generalize (row : Int) = r at *
    clear hr
    generalize (p.1 : Int) = a at *
    generalize (p.2 : Int) = b at *
    go_enter Try.func34, Try.ntmps34
    go_upto_region 1 with fail
    rw [hW.out, ← hX.out]
    go_region_held3 (fun w' : World => w'.cell? ⟨X, 0, none⟩ = some (.int .i64 a) ∧ w'.cell? ⟨P, 0, none⟩ = some (.int .i64 r)) (first | exact ⟨c0, c1⟩ | exact K0.out _ C1.out) (first
      | (go_at_call 51; refine (queues_any _).mono ?_; rintro e2 w2 ⟨mb, rfl, T2, C⟩; have T := T2.out.2; unfold fnLow at T; replace C1 := Lib.hid (C1.out.trans C.out); clear C)
      | (go_at_call 56; refine (lower_any _ P).mono ?_; rintro e3 w3 ⟨rfl, rfl⟩))
    all_goals go_wp2_with fail
    all_goals go_ret
    all_goals exact ⟨rfl, CW.out.trans C1.out⟩


theorem info_sector : (Try.prog.info? 85).map (fun i => (i.zero, i.size, i.bytes)) = some (some (.agg (List.replicate 128 (Value.int .u8 0)).toArray), 128, 128) := by kernel_rfl

theorem zero_sector (w : World) : (zeroValue 85).run Try.prog w = .ok (.agg (List.replicate 128 (Value.int .u8 0)).toArray) w := by
  obtain ⟨i, h1, h2, -, -⟩ := info_parts info_sector
  simp [zeroValue, typeInfo, h1, h2, Result.andThen]

theorem ub_one (bs : List Nat) : ∀ u ∈ ub bs, u.oneCell' = true := fun u hu => by
  obtain ⟨z, _, rfl⟩ := List.mem_map.1 hu
  rfl

/-- 'x, ok := m[p]'. -/
theorem look_ok {w : World} {mb : Nat} {S : List Pd} (h : MapIn w mb S) (ok : ∀ d ∈ S, PdOk d) {p : Pl} (hp : PlOk p) : ∃ (cs : List Value) (b : Bool), cs.length = 128 ∧ (∀ u ∈ cs, u.oneCell' = true) ∧ (b = true ↔ ∃ e ∈ S, pl e = p) ∧
    ∀ w', Chg [] w w' → (Instr.lookup 72 (.map (some mb)) (plVal p) true).run Try.prog w' = .ok (.tuple #[.agg cs.toArray, .bool b]) w' := by
  obtain ⟨D, hD, hM⟩ := h
  have run : ∀ w', Chg [] w w' → ∃ v ps, (Instr.lookup 72 (.map (some mb)) (plVal p) true).run Try.prog w' = .ok (.tuple #[v, .bool (has D (plKey p))]) w' ∧ heldR v = some (D.atKey (plKey p) (.held (.agg (List.replicate 128 (Value.int .u8 0)).toArray)), ps) := fun w' c =>
    (owned_chg hD c (by simp)).look_ok place_law Try.underlying72 (zero_sector w') rfl (key_of hp)
  rcases hM.say p hp with ⟨h1, h2⟩ | ⟨e, he, hpl, h1, h2⟩
  · refine ⟨List.replicate 128 (Value.int .u8 0), false, List.length_replicate .., fun u hu => by rw [List.eq_of_mem_replicate hu]; rfl, ⟨fun h => (by cases h), fun ⟨e, he, hpl⟩ => absurd hpl (h2 e he)⟩, fun w' c => ?_⟩
    obtain ⟨v, ps, hr, hv⟩ := run w' c
    rw [h1] at hr
    rw [atKey_of_not_has h1] at hv
    unfold heldR at hv
    have e : v = .agg (List.replicate 128 (Value.int .u8 0)).toArray := by
      have := (Prod.mk.inj (Option.some.inj hv)).1
      simpa using this
    rw [← e]
    exact hr
  · refine ⟨ub e.bs, true, by rw [ub_len]; exact (ok e he).len, ub_one _, ⟨fun _ => ⟨e, he, hpl⟩, fun _ => rfl⟩, fun w' c => ?_⟩
    obtain ⟨v, ps, hr, hv⟩ := run w' c
    rw [h1] at hr
    rw [h2] at hv
    unfold heldR at hv
    have e2 : v = sect e := by
      have := (Prod.mk.inj (Option.some.inj hv)).1
      simpa using this
    rw [e2] at hr
    exact hr

/-- 'm[p]', of one that is there. -/
theorem look_at {w : World} {mb : Nat} {S : List Pd} (h : MapIn w mb S) (ok : ∀ d ∈ S, PdOk d) (hS : Lf.Srt S) {d : Pd} (hd : d ∈ S) :
    ∀ w', Chg [] w w' → (Instr.lookup 72 (.map (some mb)) (plVal (pl d)) false).run Try.prog w' = .ok (.agg (ub d.bs).toArray) w' := by
  obtain ⟨D, hD, hM⟩ := h
  intro w' c
  have hp := (ok d hd).pl
  obtain ⟨v, ps, hr, hv⟩ := (owned_chg hD c (by simp)).lookup place_law Try.underlying72 (zero_sector w') (zd := .held (.agg (List.replicate 128 (Value.int .u8 0)).toArray)) rfl (key_of hp)
  rcases hM.say (pl d) hp with ⟨_, h2⟩ | ⟨e, he, hpl, _, h2⟩
  · exact absurd rfl (h2 d hd)
  · have e1 : e = d := hS.ne he hd (pl_same.2 hpl)
    subst e1
    rw [h2] at hv
    unfold heldR at hv
    have e2 : v = sect e := by
      have := (Prod.mk.inj (Option.some.inj hv)).1
      simpa using this
    rw [e2] at hr
    exact hr

end Go.Proofs.Ytihmegpcbpdipaa
