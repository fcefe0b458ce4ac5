/-
  BayAlone walked. By an AI agent.
-/
import Derived.Test.YtljhpdgjajhgbaaByDuo
import Derived.Test.YtljhpdgjajhgbaaByMove
import Derived.Test.YtljhpdgjajhgbaaByTrips
namespace Go.Proofs.Ytljhpdgjajhgbaa
open Go.RowKit

namespace Bay

def NoCome (y : Bay) : Prop := ∀ x ∈ y.slots, x.coming = none

theorem NoCome.same {y z : Bay} (h : NoCome y) (e : z.slots = y.slots) : NoCome z := fun x hx => h x (by rw [← e]; exact hx)

theorem NoCome.setIn {y : Bay} (h : NoCome y) (s : Int) (d : Dev) : NoCome (y.setIn s d) := by
  intro x hx
  obtain ⟨m, hm⟩ := List.mem_iff_getElem?.1 hx
  have e : (y.setIn s d).slots = y.slots.modify s.toNat (fun x => { x with inn := some d }) := rfl
  rw [e, List.getElem?_modify] at hm
  cases hl : y.slots[m]? with
  | none => rw [hl] at hm; cases hm
  | some z =>
    rw [hl] at hm
    have hz := h z (List.mem_of_getElem? hl)
    by_cases hi : s.toNat = m
    · obtain rfl : { z with inn := some d } = x := by simpa [hi] using hm
      exact hz
    · obtain rfl : z = x := by simpa [hi] using hm
      exact hz

theorem NoCome.start {y : Bay} (h : NoCome y) (s : Int) (what : Nat) : NoCome (y.start s what) := by
  unfold Bay.start
  split
  · exact h
  · split
    · exact h
    · split
      · exact h.same rfl
      · split
        · exact h.same rfl
        · exact (h.same (z := y.counted what) rfl).setIn s _

theorem NoCome.plain {y : Bay} (h : NoCome y) (k s n : Int) (x : List Nat) : NoCome (y.plain k s n x) := by
  unfold Bay.plain
  split
  · exact h.start s 1
  · split
    · unfold Bay.write
      split
      · exact (h.same (z := y.counted 2) rfl).setIn s _
      · exact h.start s 2
    · unfold Bay.flush
      split
      · exact (h.same (z := y.counted 3) rfl).setIn s _
      · exact h.start s 3

theorem NoCome.new (sizes : List Int) : NoCome (Bay.new sizes) := fun x hx => by
  obtain ⟨n, _, rfl⟩ := List.mem_map.1 hx
  rfl

end Bay

/-- A disk by itself: where it lies, and what it has. -/
abbrev ODk := Option (Nat × Dk) × List Nat

/-- Nothing. -/
def nilT : Thing where
  F := []
  P := fun _ => True
  lt := fun _ _ k hk => by cases hk
  stays := fun _ _ _ _ _ _ => True.intro

def odT (p : ODk) : Thing := match p.1 with
  | none => nilT
  | some q => DiskT q.1 q.2 p.2

/-- The disks by themselves are as those in the bay's slots. -/
structure Alike (y : Bay) (ds : List ODk) (ptrs : List (Option Nat)) : Prop where
  len : y.slots.length = ds.length
  plen : ptrs.length = ds.length
  calm : Bay.Calm y
  come : Bay.NoCome y
  ptr : ∀ (i : Nat) (p : ODk), ds[i]? = some p → ptrs[i]? = some (p.1.map (·.1))
  dev : ∀ (i : Nat) (p : ODk), ds[i]? = some p → y.dev (i : Int) = p.1.map (fun q => (⟨q.2, none⟩ : Dev))

theorem Alike.new {sizes : List Int} {ds : List ODk} {ptrs : List (Option Nat)} (hl : ds.length = sizes.length) (hp : ptrs.length = ds.length)
    (h : ∀ (i : Nat) (p : ODk), ds[i]? = some p → ptrs[i]? = some (p.1.map (·.1)) ∧ ∃ z : Int, sizes[i]? = some z ∧ p.1.map (·.2) = if z = 0 then none else some (Dk.new z.toNat)) : Alike (Bay.new sizes) ds ptrs := by
  refine ⟨by simp [Bay.new, hl], hp, Bay.new_calm sizes, Bay.NoCome.new sizes, fun i p hi => (h i p hi).1, fun i p hi => ?_⟩
  obtain ⟨_, z, hz, e⟩ := h i p hi
  obtain ⟨hl2, rfl⟩ := List.getElem?_eq_some_iff.1 hz
  rw [Bay.new_dev sizes i hl2]
  unfold Bay.slotOf
  simp only
  by_cases h0 : sizes[i] = 0
  · rw [if_pos h0] at e ⊢
    cases hp1 : p.1 with
    | none => rfl
    | some q => rw [hp1] at e; cases e
  · rw [if_neg h0] at e ⊢
    cases hp1 : p.1 with
    | none => rw [hp1] at e; cases e
    | some q =>
      rw [hp1] at e
      have e2 : q.2 = Dk.new sizes[i].toNat := by simpa using e
      rw [Option.map_some, e2]

/-- One of the three operations, of a bay and of the disk by itself. -/
theorem Alike.plain {y : Bay} {ds : List ODk} {ptrs : List (Option Nat)} (h : Alike y ds ptrs) {s g : Nat} {d : Dk} {F : List Nat} (hs : ds[s]? = some (some (g, d), F)) {k : Int} (hk : k = 1 ∨ k = 2 ∨ k = 3) (n : Int) (x : List Nat) (F' : List Nat) :
    Alike (y.plain k s n x) (ds.set s (some (g, ((Dev.mk d none).did k n x).disk), F')) ptrs ∧ y.plainErr k s n x = (Dev.mk d none).err k n x ∧ y.plainVal k s n = (Dev.mk d none).val k n := by
  have hd : y.dev (s : Int) = some ⟨d, none⟩ := h.dev s _ hs
  have hsl := (List.getElem?_eq_some_iff.1 hs).1
  have key : Bay.Calm (y.plain k s n x) ∧ (y.plain k s n x).dev s = some ⟨((Dev.mk d none).did k n x).disk, none⟩ ∧ y.plainErr k s n x = (Dev.mk d none).err k n x ∧ y.plainVal k s n = (Dev.mk d none).val k n := by
    rcases hk with rfl | rfl | rfl
    · obtain ⟨h1, h2, h3⟩ := h.calm.read hd
      refine ⟨h1, ?_, (h3 n).2, (h3 n).1⟩
      show (y.read s).dev s = some ⟨d, none⟩
      rw [h2, hd]
    · obtain ⟨h1, h2, h3⟩ := h.calm.write hd n x
      exact ⟨h1, h2, h3, rfl⟩
    · obtain ⟨h1, h2, h3⟩ := h.calm.flush hd
      exact ⟨h1, h2, h3, rfl⟩
  obtain ⟨k1, k2, k3, k4⟩ := key
  refine ⟨⟨by rw [Bay.plain_len, List.length_set]; exact h.len, by rw [List.length_set]; exact h.plen, k1, h.come.plain k s n x, fun i p hi => ?_, fun i p hi => ?_⟩, k3, k4⟩
  · by_cases e : s = i
    · subst e
      rw [List.getElem?_set_self hsl] at hi
      obtain rfl := Option.some.inj hi
      have h9 := h.ptr s _ hs
      exact h9
    · rw [List.getElem?_set_ne e] at hi
      exact h.ptr i p hi
  · by_cases e : s = i
    · subst e
      rw [List.getElem?_set_self hsl] at hi
      obtain rfl := Option.some.inj hi
      exact k2
    · rw [List.getElem?_set_ne e] at hi
      rw [Bay.plain_other (fun q => e (by omega))]
      exact h.dev i p hi

/-- Behind a cut. -/
theorem Alike.cut {y : Bay} {ds : List ODk} {ptrs : List (Option Nat)} (h : Alike y ds ptrs) (keeps : List (List Bool)) {i g : Nat} {d : Dk} {F : List Nat} (hi : ds[i]? = some (some (g, d), F)) :
    (y.cut keeps).dev (i : Int) = some ⟨d.crash (keeps.getD i []), none⟩ := by
  have hl : i < y.slots.length := by rw [h.len]; exact (List.getElem?_eq_some_iff.1 hi).1
  have hd : y.dev (i : Int) = some ⟨d, none⟩ := h.dev i _ hi
  have hx : y.slots[i]? = some y.slots[i] := List.getElem?_eq_getElem hl
  rw [Bay.dev_place hl, Bay.place_of hx] at hd
  rw [Bay.cut_dev keeps hl, Bay.cutSlot_eq]
  unfold Slot.cutTo
  rw [h.come _ (List.getElem_mem hl)]
  simp only
  rw [show y.slots[i].inn = some ⟨d, none⟩ from hd]
  rfl

theorem odT_some (g : Nat) (d : Dk) (F : List Nat) : odT (some (g, d), F) = DiskT g d F := rfl

theorem map_odT_at {ds : List ODk} {i : Nat} {p : ODk} (h : ds[i]? = some p) : (ds.map odT)[i]? = some (odT p) := by rw [List.getElem?_map, h]; rfl

theorem set_same {ds : List ODk} {i : Nat} {p : ODk} (h : ds[i]? = some p) : ds.set i p = ds := by
  obtain ⟨hl, rfl⟩ := List.getElem?_eq_some_iff.1 h
  exact List.set_getElem_self hl

theorem map_odT_set (ds : List ODk) (i : Nat) (p : ODk) : (ds.map odT).set i (odT p) = (ds.set i p).map odT := by rw [List.map_set]

/-- A row of their own grows. -/
theorem Side.grow {w0 W w2 : World} {ts : List Thing} {e : TypeId} {v v' : Value} {n : Nat} {xs ys : List Value} (h : Side w0 W (ownT e v xs :: ts)) (ol : w2.ownsRow 0 e 1 v' n ys) (gr : W.grownBy w2 v.ownBlock)
    (nb : v'.ownBlock = v.ownBlock ∨ v'.ownBlock = some W.heap.size) : Side w0 w2 (ownT e v' ys :: ts) := by
  have hn : ys.length = n := owns_len ol
  subst hn
  refine h.turn (s := v.ownBlock.toList) ((Chg.refl _ _).grown gr (fun k hk => .inl (by simp [hk]))) (fun k hk => .inl hk) ol (fun k hk => ?_)
  have hk2 : v'.ownBlock = some k := by simpa [ownT] using hk
  rcases nb with q | q
  · exact .inl (by rw [q] at hk2; simpa [ownT] using hk2)
  · rw [q] at hk2
    exact .inr (Nat.le_of_eq (Option.some.inj hk2))

theorem ownT_slice {w : World} {t : TypeId} {u : Value} {V : List Nat} (h : (ownT t u ((ints V).map (Value.int .u8))).P w) : ∃ ao c, u = .slice ao V.length c := by
  have o : w.ownsRow 0 t 1 u ((ints V).map (Value.int .u8)).length ((ints V).map (Value.int .u8)) := h
  rw [List.length_map, ints_length] at o
  exact owns_slice o

theorem Dev.two (d : Dk) (N : Int) (x : List Nat) : (Dev.mk d none).err 2 N x = d.writeErr N x ∧ ((Dev.mk d none).did 2 N x).disk = d.write N x ∧ (Dev.mk d none).val 2 N = [] := ⟨rfl, rfl, rfl⟩

theorem Dev.three (d : Dk) (N : Int) (x : List Nat) : (Dev.mk d none).err 3 N x = d.flushErr ∧ ((Dev.mk d none).did 3 N x).disk = d.flush ∧ (Dev.mk d none).val 3 N = [] := ⟨rfl, rfl, rfl⟩


theorem info_pdisk : (Try.prog.info? 36).map (fun i => (i.zero, i.size, i.bytes)) = some (some (.pointer none), 1, 8) := by kernel_rfl

set_option maxHeartbeats 20000000 in
set_option maxRecDepth 100000 in
theorem bayAlone_walk (sv v : Value) (sizes : List Int) (es : List BOpD) (kkv : Value) (kks : List BoolD) (w : World) (hs : RdV w sv (sizes.map (Value.int .i64))) (hi : Is sizes) (hsl : sizes.length ≤ 140737488355328) (hv : BOps w v es) (hk : BRs w kkv kks) :
    Calls Try.prog 3 #[sv, v, kkv] w fun e w' => e = .returned (.bool true) ∧ Chg [] w w' := by
  have HV := Lib.hid hv
  have HS := Lib.hid hs
  have HI := Lib.hid hi
  have HKK := Lib.hid hk
  have hlen := hv.len
  have hkl := hk.len
  obtain ⟨vo, vc, rfl⟩ := hv.slice
  obtain ⟨so, sc, rfl⟩ := hs.slice
  obtain ⟨kko, kkc, rfl⟩ := hk.slice
  rw [List.length_map] at HS ⊢
  obtain ⟨i0, ki, kz0, kz1, kz2⟩ := info_parts info_pdisk
  replace ki := Lib.hid ki
  replace kz0 := Lib.hid kz0
  replace kz1 := Lib.hid kz1
  replace kz2 := Lib.hid kz2
  clear hv hs hi hk
  have hsl0 : (0 : Int) ≤ sizes.length := Int.natCast_nonneg _
  have hkl0 : (0 : Int) ≤ kks.length := Int.natCast_nonneg _
  go_enter Try.func3, Try.ntmps3
  go_wp2_with fail
  refine (bmuch_any so sizes.length sc _ es w hsl HV.out).mono ?_
  rintro e w1 ⟨much, rfl, hmuch, q1, hw1⟩
  have C1 : Hid (Chg [] w w1) := by rw [hw1]; exact (Chg.refl [] w).drewN q1
  clear hw1
  cases much with
  | true =>
    go_wp2_with fail
    go_ret
    exact ⟨rfl, C1.out⟩
  | false =>
  have hel : es.length ≤ 100000 := by have := hmuch rfl; omega
  clear hmuch
  go_wp2_with fail
  refine (bmuch_any so sizes.length sc _ _ _ hsl (keeps_ops (HKK.out.chgNil C1.out))).mono ?_
  rintro e w1b ⟨much, rfl, _, q1, hw1⟩
  have C1b : Hid (Chg [] w w1b) := by rw [hw1]; exact (C1.out.alloc _).drewN q1
  clear hw1 C1
  cases much with
  | true =>
    go_wp2_with fail
    go_ret
    exact ⟨rfl, C1b.out⟩
  | false =>
  go_wp2_with fail
  have HE := Bay.newErr_cases sizes
  refine (bnew_any _ sizes w1b (HS.out.chgNil C1b.out) HI.out hsl).mono ?_
  rintro e w2 (⟨hno, rfl, C⟩ | ⟨hyes, b, F, rfl, D, N, C⟩)
  · obtain ⟨E, hE⟩ : ∃ E, E = Bay.newErr sizes := ⟨_, rfl⟩
    have hE2 : E = 1 ∨ E = 40 := by rw [hE]; rcases HE with h | h; exact absurd h.1 hno; exact h
    have C2 : Hid (Chg [] w w2) := C1b.out.trans C.out
    rw [← hE]
    clear C C1b HE hE hno
    go_wp2_with fail
    refine (bknown_any w2).mono ?_
    rintro e w4 ⟨rfl, C⟩
    have C4 : Hid (Chg [] w w4) := C2.out.trans C.out
    clear C C2
    rcases hE2 with rfl | rfl
    · go_wp2_with fail
      go_ret
      exact ⟨rfl, C4.out⟩
    · go_wp2_with fail
      go_ret
      exact ⟨rfl, C4.out⟩
  replace HE := Lib.hid (HE.resolve_right (by omega)).2
  have H : Hid (Side w w2 [BayT b (Bay.new sizes) F]) := (Side.nil C1b.out).add C.out D.out N.out
  clear C1b D N C hyes
  go_wp2_with fail
  refine (bknown_any w2).mono ?_
  rintro e w4 ⟨rfl, C⟩
  replace H : Hid (Side w w4 [ownT 36 (.slice none 0 0) (([] : List (Option Nat)).map ptrV), BayT b (Bay.new sizes) F]) := (H.out.quiet C.out).own (n := 0) (World.ownsRow_nil _ _ _ _) (Chg.refl _ _)
  clear C
  obtain ⟨n, hn⟩ : ∃ n, n = sizes.length := ⟨_, rfl⟩
  have hn17 : n ≤ 17 := by have := HE.out.2.1; omega
  have hn1 : 1 ≤ n := by have := HE.out.1; omega
  have hn0 : (0 : Int) ≤ n := Int.natCast_nonneg _
  rw [← hn]
  replace hn := Lib.hid hn
  clear hsl hsl0
  go_wp2_with fail
  go_loopw [9, 10] (fun l i wr => ∃ (j : Nat) (ds : List ODk) (ptrs : List (Option Nat)), j ≤ n ∧ i = .int .i64 (j : Int) ∧ Hid (ds.length = j ∧ ptrs.length = j) ∧
    Hid (∀ (i : Nat) (p : ODk), ds[i]? = some p → ptrs[i]? = some (p.1.map (·.1)) ∧ ∃ z : Int, sizes[i]? = some z ∧ p.1.map (·.2) = if z = 0 then none else some (Dk.new z.toNat)) ∧
    Hid (Side w wr (ownT 36 l (ptrs.map ptrV) :: BayT b (Bay.new sizes) F :: ds.map odT))) (fun _ i _ => n - (intOf i).toNat)
  case atStart => exact ⟨0, [], [], Nat.zero_le _, rfl, ⟨rfl, rfl⟩, (fun i p h => by cases h), H⟩
  case round =>
    obtain ⟨j, ds, ptrs, hj, rfl, LN, SP, HH⟩ := hrel
    clear H
    have H := HH
    clear HH
    have hj0 : (0 : Int) ≤ j := Int.natCast_nonneg _
    by_cases hlt : j < n
    · have hj1 : (j : Int) < n := by omega
      obtain ⟨z, hz⟩ : ∃ z, sizes[j]? = some z := ⟨_, List.getElem?_eq_getElem (by have := hn.out; omega)⟩
      have hz1 := HE.out.2.2 z (List.mem_of_getElem? hz)
      obtain ⟨zb, zo, rfl, cz⟩ := (HS.out.chgNil H.out.chg).at (k := j) (u := .int .i64 z) (by rw [List.getElem?_map, hz]; rfl)
      have DN := Lib.hid (dnew_any z wr (by omega))
      have NXT : Hid (∀ (p : ODk), (p.1.map (·.2) = if z = 0 then none else some (Dk.new z.toNat)) → (ds ++ [p]).length = j + 1 ∧ (ptrs ++ [p.1.map (·.1)]).length = j + 1 ∧
          ∀ (i : Nat) (q : ODk), (ds ++ [p])[i]? = some q → (ptrs ++ [p.1.map (·.1)])[i]? = some (q.1.map (·.1)) ∧ ∃ z : Int, sizes[i]? = some z ∧ q.1.map (·.2) = if z = 0 then none else some (Dk.new z.toNat)) := fun p hp => by
        obtain ⟨l1, l2⟩ := LN.out
        refine ⟨by simp [l1], by simp [l2], fun i q hq => ?_⟩
        by_cases hi : i < j
        · rw [List.getElem?_append_left (by omega)] at hq ⊢
          exact SP.out i q hq
        · by_cases hi2 : i = j
          · subst hi2
            rw [List.getElem?_append_right (by omega), l1, Nat.sub_self] at hq
            rw [List.getElem?_append_right (by omega), l2, Nat.sub_self]
            obtain rfl : p = q := by simpa using hq
            exact ⟨rfl, z, hz, hp⟩
          · rw [List.getElem?_eq_none (by simp; omega)] at hq
            cases hq
      have ML : Hid ((ptrs.map ptrV).length = j) := by show _ = _; rw [List.length_map]; exact LN.out.2
      obtain ⟨ps0, hps0⟩ : ∃ ps0, ps0 = ptrs.map ptrV := ⟨_, rfl⟩
      rw [← hps0] at H ML
      obtain ⟨lo, lc, rfl⟩ := owns_slice (H.out.get 0 rfl : World.ownsRow _ 0 _ _ _ _ _)
      rw [ML.out] at H
      rw [ML.out]
      replace hz := Lib.hid hz
      clear SP LN
      go_wp2_with fail
      refine DN.out.mono ?_
      rintro e w5 (⟨hno, rfl, C⟩ | ⟨hyes, g, F2, rfl, D, N, C⟩)
      · have P1 := Lib.hid (NXT.out (none, []) (by rw [if_pos (show z = 0 by omega)]; rfl))
        have H5 : Hid (Side w w5 (ownT 36 (.slice lo j lc) ps0 :: BayT b (Bay.new sizes) F :: (ds ++ [((none, []) : ODk)]).map odT)) := by
          have h9 := (H.out.quiet C.out).add (Chg.refl [] w5) (b := nilT) True.intro (fun k hk => by cases hk)
          refine h9.perm ?_
          rw [List.map_append]
          exact (List.perm_append_singleton nilT (ownT 36 (.slice lo j lc) ps0 :: BayT b (Bay.new sizes) F :: ds.map odT)).symm
        clear DN NXT H C hz1 cz
        have BP := Blk.made w5 [.pointer none] 36
        have H6 := Lib.hid (H5.out.quiet ((Chg.refl [] w5).alloc (.cells #[.pointer none] 36)))
        go_wp2_with ((with_reducible refine wpList_append_three _ rfl (.tmp 57) (.tmp 59) 35 rfl 0 36 i0 (.pointer none) 1 8 Try.underlying35 ki.out kz0.out kz1.out kz2.out rfl (by decide) _ ps0.length ps0 rfl (H6.out.get 0 rfl : World.ownsRow _ 0 _ _ _ _ _) ⟨w5.heap.size, 0, none⟩ 1 1 [.pointer none] rfl rfl (fun j u hu => by rw [Addr.add_lit, Nat.zero_add]; exact BP.cell hu) (by simp [Value.oneCell']) (by rw [ML.out]; unfold maxLen; omega) (by rw [ML.out]; omega) (Nat.zero_le _) ?_); intro v7 w7 ol gr nb; have H7 := Lib.hid (H6.out.grow ol.out gr.out (nb.out.imp id (fun q => q.1))); clear ol gr nb)
        rw [hps0, show (.pointer none : Value) = ptrV (none) from rfl, show ptrs.map ptrV ++ [ptrV (none)] = (ptrs ++ [none]).map ptrV from by simp] at H7
        clear BP H6 H5
        go_wp2_with fail
        exact ⟨⟨j + 1, _, _, by omega, by first | rfl | go_num, ⟨P1.out.1, P1.out.2.1⟩, P1.out.2.2, H7⟩, by simp [intOf]; omega⟩
      · have P1 := Lib.hid (NXT.out (some (g, Dk.new z.toNat), F2) (by rw [if_neg (show ¬ z = 0 by omega)]; rfl))
        have H5 : Hid (Side w w5 (ownT 36 (.slice lo j lc) ps0 :: BayT b (Bay.new sizes) F :: (ds ++ [((some (g, Dk.new z.toNat), F2) : ODk)]).map odT)) := by
          have h9 := H.out.add C.out D.out (fun k hk => N.out k hk)
          refine h9.perm ?_
          rw [List.map_append]
          exact (List.perm_append_singleton (DiskT g (Dk.new z.toNat) F2) (ownT 36 (.slice lo j lc) ps0 :: BayT b (Bay.new sizes) F :: ds.map odT)).symm
        clear DN NXT H C D N hyes hz1 cz
        have BP := Blk.made w5 [.pointer (some ⟨g, 0, none⟩)] 36
        have H6 := Lib.hid (H5.out.quiet ((Chg.refl [] w5).alloc (.cells #[.pointer (some ⟨g, 0, none⟩)] 36)))
        go_wp2_with ((with_reducible refine wpList_append_three _ rfl (.tmp 57) (.tmp 59) 35 rfl 0 36 i0 (.pointer none) 1 8 Try.underlying35 ki.out kz0.out kz1.out kz2.out rfl (by decide) _ ps0.length ps0 rfl (H6.out.get 0 rfl : World.ownsRow _ 0 _ _ _ _ _) ⟨w5.heap.size, 0, none⟩ 1 1 [.pointer (some ⟨g, 0, none⟩)] rfl rfl (fun j u hu => by rw [Addr.add_lit, Nat.zero_add]; exact BP.cell hu) (by simp [Value.oneCell']) (by rw [ML.out]; unfold maxLen; omega) (by rw [ML.out]; omega) (Nat.zero_le _) ?_); intro v7 w7 ol gr nb; have H7 := Lib.hid (H6.out.grow ol.out gr.out (nb.out.imp id (fun q => q.1))); clear ol gr nb)
        rw [hps0, show (.pointer (some ⟨g, 0, none⟩) : Value) = ptrV (some g) from rfl, show ptrs.map ptrV ++ [ptrV (some g)] = (ptrs ++ [some g]).map ptrV from by simp] at H7
        clear BP H6 H5
        go_wp2_with fail
        exact ⟨⟨j + 1, _, _, by omega, by first | rfl | go_num, ⟨P1.out.1, P1.out.2.1⟩, P1.out.2.2, H7⟩, by simp [intOf]; omega⟩
    · obtain rfl : n = j := by omega
      have AL : Hid (Alike (Bay.new sizes) ds ptrs) := Alike.new (by rw [LN.out.1, hn.out]) (by rw [LN.out.1, LN.out.2]) SP.out
      have PL : Hid (ptrs.length = n) := LN.out.2
      have ML : Hid ((ptrs.map ptrV).length = n) := by show _ = _; rw [List.length_map]; exact LN.out.2
      obtain ⟨lo, lc, rfl⟩ := owns_slice (H.out.get 0 rfl : World.ownsRow _ 0 _ _ _ _ _)
      obtain ⟨lg, rfl⟩ := owns_head (H.out.get 0 rfl : World.ownsRow _ 0 _ _ _ _ _) (by rw [ML.out]; omega)
      rw [ML.out] at H
      rw [ML.out]
      have RC : Hid (∀ (w' : World) (ts : List Thing), Side w w' (ownT 36 (.slice (some ⟨lg, 0, none⟩) n lc) (ptrs.map ptrV) :: ts) → ∀ (s : Nat) (p : Option Nat), ptrs[s]? = some p → w'.cell? ⟨lg, s, none⟩ = some (ptrV p)) := fun w' ts hS s p hp => by
        have o : w'.ownsRow 0 36 1 (.slice (some ⟨lg, 0, none⟩) n lc) (ptrs.map ptrV).length (ptrs.map ptrV) := hS.get 0 rfl
        have := o.cells (g := lg) rfl s (ptrV p) (by rw [List.getElem?_map, hp]; rfl)
        rw [Addr.add_lit, Nat.zero_add] at this
        exact this
      have LW : Hid (Bay.Low 0 (Bay.new sizes)) := Bay.new_low sizes
      clear hlt hj hj0 SP LN ML
      go_wp2_with fail
      go_loopw [13] (fun i wr => ∃ (j : Nat) (y : Bay) (ds : List ODk) (F : List Nat), j ≤ es.length ∧ i = .int .i64 (j : Int) ∧ Hid (Alike y ds ptrs) ∧ Hid (Bay.Low j y) ∧ Hid (Side w wr (ownT 36 (.slice (some ⟨lg, 0, none⟩) n lc) (ptrs.map ptrV) :: BayT b y F :: ds.map odT))) (fun i _ => es.length - (intOf i).toNat)
      case atStart => exact ⟨0, _, ds, F, Nat.zero_le _, rfl, AL, LW, H⟩
      case round =>
        obtain ⟨j, y, ds1, F1, hj, rfl, AL1, LL, HH⟩ := hrel
        clear H AL LW
        have H := HH
        clear HH
        have hj0 : (0 : Int) ≤ j := Int.natCast_nonneg _
        by_cases hlt : j < es.length
        · have hj1 : (j : Int) < es.length := by omega
          obtain ⟨a0, ha⟩ : ∃ a, es[j]? = some a := ⟨_, List.getElem?_eq_getElem hlt⟩
          obtain ⟨b2, o2, rfl, hb2, RI⟩ := HV.out.at ha
          have CC : Hid (∀ w', Chg [] w w' → BOpIn w' b2 (o2 + j * 5) a0) := fun w' c => RI.chg hb2 c
          have DO : Hid (a0.data ≠ [] → ∀ k, a0.dataV.ownBlock = some k → k < w.heap.size) := fun hx => RI.s3.old hx
          have KO : Hid (a0.keeps ≠ [] → ∀ k, a0.keepsV.ownBlock = some k → k < w.heap.size) := fun hx => RI.s4.old hx
          have KE : Hid (∀ d ∈ a0.keeps, d.bs ≠ [] → ∀ k, d.v.ownBlock = some k → k < w.heap.size) := RI.s4.olds
          have hK : Hid (I64 a0.kind) := RI.r0
          have hP : Hid (I64 a0.pos) := RI.r1
          have hN : Hid (I64 a0.num) := RI.r2
          have hg : Hid (a0.data.length ≤ 140737488355328) := RI.g3
          have hby := Lib.hid RI.y3
          have hcap : Hid (∀ ao n c, a0.dataV = .slice ao n c → n ≤ c) := RI.p3
          obtain ⟨K, P, N, dv, xs, kv, ks⟩ := a0
          obtain ⟨x3, y3, rfl⟩ : ∃ x3 y3, dv = .slice x3 xs.length y3 := RI.s3.slice
          obtain ⟨x4, y4, rfl⟩ : ∃ x4 y4, kv = .slice x4 ks.length y4 := RI.s4.slice
          have Q0 := CC.out _ H.out.chg
          have k0 := Q0.c0
          have k1 := Q0.c1
          have k2 := Q0.c2
          have k3 := Q0.c3
          have k4 := Q0.c4
          dsimp only at k0 k1 k2 k3 k4 DO KO KE hK hP hN hg hby hcap
          have DV : Hid (∀ w', Chg [] w w' → Sl w' (.slice x3 xs.length y3) xs) := fun w' c => (CC.out w' c).s3
          have KV : Hid (∀ w', Chg [] w w' → BRs w' (.slice x4 ks.length y4) ks) := fun w' c => (CC.out w' c).s4
          clear CC RI Q0 ha
          have BX := Blk.made wr [.int .i64 K, .int .i64 P, .int .i64 N, .slice x3 xs.length y3, .slice x4 ks.length y4] 28
          have HA : Hid (Side w (wr.alloc (.cells #[.int .i64 K, .int .i64 P, .int .i64 N, .slice x3 xs.length y3, .slice x4 ks.length y4] 28)) (blkT wr.heap.size 28 [.int .i64 K, .int .i64 P, .int .i64 N, .slice x3 xs.length y3, .slice x4 ks.length y4] :: ownT 36 (.slice (some ⟨lg, 0, none⟩) n lc) (ptrs.map ptrV) :: BayT b y F1 :: ds1.map odT)) := H.out.add ((Chg.refl _ _).alloc _) BX (fun k hk => by rw [List.mem_singleton.1 hk]; exact Nat.le_refl _)
          have c0 := BX.cell (j := 0) rfl
          have c1 := BX.cell (j := 1) rfl
          have c2 := BX.cell (j := 2) rfl
          have c3 := BX.cell (j := 3) rfl
          have c4 := BX.cell (j := 4) rfl
          clear BX H
          by_cases hs1 : K < 1
          · have hs1b := hs1
            clear hK hP hN hg hby hcap DO KO KE DV KV
            go_wp2_with fail
            exact ⟨⟨j + 1, y, ds1, F1, by omega, by first | rfl | go_num, AL1, (LL.out.mono (by omega) : Bay.Low (j + 1) _), HA.out.tail⟩, by simp [intOf]; omega⟩
          have hs1b : ¬ K < 1 := hs1
          by_cases hs2 : 3 < K
          · have hs2b := hs2
            clear hK hP hN hg hby hcap DO KO KE DV KV
            go_wp2_with fail
            exact ⟨⟨j + 1, y, ds1, F1, by omega, by first | rfl | go_num, AL1, (LL.out.mono (by omega) : Bay.Low (j + 1) _), HA.out.tail⟩, by simp [intOf]; omega⟩
          have hs2b : ¬ 3 < K := hs2
          by_cases hs3 : P < 0
          · have hs3b := hs3
            clear hK hP hN hg hby hcap DO KO KE DV KV
            go_wp2_with fail
            exact ⟨⟨j + 1, y, ds1, F1, by omega, by first | rfl | go_num, AL1, (LL.out.mono (by omega) : Bay.Low (j + 1) _), HA.out.tail⟩, by simp [intOf]; omega⟩
          have hs3b : ¬ P < 0 := hs3
          by_cases hs4 : (n : Int) ≤ P
          · have hs4b := hs4
            clear hK hP hN hg hby hcap DO KO KE DV KV
            go_wp2_with fail
            exact ⟨⟨j + 1, y, ds1, F1, by omega, by first | rfl | go_num, AL1, (LL.out.mono (by omega) : Bay.Low (j + 1) _), HA.out.tail⟩, by simp [intOf]; omega⟩
          have hs4b : ¬ (n : Int) ≤ P := hs4
          obtain ⟨s, rfl⟩ := Int.eq_ofNat_of_zero_le (show 0 ≤ P by omega)
          have hs5 : s < n := by omega
          have hs6 : (s : Int) < n := by omega
          have hs7 : (0 : Int) ≤ s := Int.natCast_nonneg _
          obtain ⟨p0, hpp⟩ : ∃ p0, ptrs[s]? = some p0 := ⟨_, List.getElem?_eq_getElem (by rw [PL.out]; exact hs5)⟩
          obtain ⟨q0, hq⟩ : ∃ q0, ds1[s]? = some q0 := ⟨_, List.getElem?_eq_getElem (by rw [← AL1.out.plen, PL.out]; exact hs5)⟩
          have hqp := AL1.out.ptr s q0 hq
          rw [hpp] at hqp
          have cl := RC.out _ _ HA.out.tail s p0 hpp
          replace hpp := Lib.hid hpp
          cases p0 with
          | none =>
            replace cl : (wr.alloc (.cells #[.int .i64 K, .int .i64 (s : Int), .int .i64 N, .slice x3 xs.length y3, .slice x4 ks.length y4] 28)).cell? ⟨lg, s, none⟩ = some (.pointer none) := cl
            clear hq hqp hs1 hs2 hs3 hs4
            clear hK hP hN hg hby hcap DO KO KE DV KV
            go_wp2_with fail
            exact ⟨⟨j + 1, y, ds1, F1, by omega, by first | rfl | go_num, AL1, (LL.out.mono (by omega) : Bay.Low (j + 1) _), HA.out.tail⟩, by simp [intOf]; omega⟩
          | some g =>
            replace cl : (wr.alloc (.cells #[.int .i64 K, .int .i64 (s : Int), .int .i64 N, .slice x3 xs.length y3, .slice x4 ks.length y4] 28)).cell? ⟨lg, s, none⟩ = some (.pointer (some ⟨g, 0, none⟩)) := cl
            obtain ⟨qq, F3⟩ := q0
            obtain ⟨d, rfl⟩ : ∃ d, qq = some (g, d) := by
              cases qq with
              | none => simp at hqp
              | some q =>
                obtain ⟨a, d⟩ := q
                obtain rfl : g = a := by simpa using hqp
                exact ⟨d, rfl⟩
            clear hqp
            have hKK : K = 1 ∨ K = 2 ∨ K = 3 := by omega
            clear hs1 hs2 hs3 hs4 hs1b hs2b
            rcases hKK with rfl | rfl | rfl
            · have AP := AL1.out.plain hq (.inl rfl) N (nats xs)
              have FT : Hid (d.Fit) := ((HA.out.get (s + 3) (map_odT_at hq : (ds1.map odT)[s]? = some (DiskT g d F3)) : DiskIn _ _ _ _).fit)
              have CL : Hid (d.cache.length ≤ 1000000000) := by
                have h1 := LL.out.caches s _ (AL1.out.dev s _ hq)
                have h2 : d.cache.length ≤ j := h1
                show d.cache.length ≤ 1000000000
                omega
              have LL2 : Hid (Bay.Low (j + 1) (y.plain 1 (s : Int) N (nats xs))) := LL.out.plain 1 s N (nats xs)
              have T1 := bplain_any b F1 y _ (HA.out.get 2 rfl) 1 (s : Int) N (.slice x3 xs.length y3) (.slice x4 ks.length y4) xs hP.out hN.out (DV.out _ HA.out.chg) hby.out hg.out (fun hx => HA.out.holdOld (j := 2) rfl (DO.out hx)) (LL.out.mono (by omega))
              obtain ⟨V, hV⟩ : ∃ V, V = (Dev.mk d none).val 1 N := ⟨_, rfl⟩
              obtain ⟨E, hE⟩ : ∃ E, E = (Dev.mk d none).err 1 N (nats xs) := ⟨_, rfl⟩
              rw [(AP F3).2.1, (AP F3).2.2, ← hV, ← hE] at T1
              have AP2 : Hid (∀ F', Alike (y.plain 1 (s : Int) N (nats xs)) (ds1.set s (some (g, ((Dev.mk d none).did 1 N (nats xs)).disk), F')) ptrs) := fun F' => (AP F').1
              obtain ⟨y2, hy2⟩ : ∃ y2, y2 = y.plain 1 (s : Int) N (nats xs) := ⟨_, rfl⟩
              rw [← hy2] at T1 AP2 LL2
              replace T1 := Lib.hid T1
              have HIX : Hid ((ds1.map odT)[s]? = some (DiskT g d F3)) := map_odT_at hq
              have FV : Hid (V.length ≤ 128) := by rw [hV]; exact Dev.val_len (e := Dev.mk d none) FT.out 1 N
              have RD : Hid (∀ w', (DiskT g d F3).P w' → Calls Try.prog 15 #[.pointer (some ⟨g, 0, none⟩), .int .i64 N] w' (GivesE w' V E)) := fun w' h => by rw [hV, hE]; exact dread_any g F3 d N w' h hN.out
              have AL2 : Hid (Alike y2 ds1 ptrs) := by
                have h9 := AP2.out F3
                rw [show ((Dev.mk d none).did 1 N (nats xs)).disk = d from rfl, set_same hq] at h9
                exact h9
              clear hV hE AP2
              replace hq := Lib.hid hq
              clear AP hy2 LL AL1
              go_wp2_with fail
              refine T1.out.mono ?_
              rintro _ w5 ⟨u5, rfl, T⟩
              obtain ⟨t5, F4, H1⟩ := HA.out.actOwn 2 rfl T.out
              clear HA T T1
              have H5 : Hid (Side w w5 (ownT t5 u5 ((ints V).map (Value.int .u8)) :: blkT wr.heap.size 28 [.int .i64 1, .int .i64 (s : Int), .int .i64 N, .slice x3 xs.length y3, .slice x4 ks.length y4] :: ownT 36 (.slice (some ⟨lg, 0, none⟩) n lc) (ptrs.map ptrV) :: BayT b y2 F4 :: ds1.map odT)) := H1
              clear H1
              obtain ⟨yo, yc, rfl⟩ := ownT_slice (H5.out.get 0 rfl)
              clear c0 c1 c2 c3 c4 cl
              have KC : Hid (∀ (w' : World) (ts us : List Thing), Side w w' (ts ++ (blkT wr.heap.size 28 [.int .i64 1, .int .i64 (s : Int), .int .i64 N, .slice x3 xs.length y3, .slice x4 ks.length y4] :: ownT 36 (.slice (some ⟨lg, 0, none⟩) n lc) (ptrs.map ptrV) :: us)) → w'.cell? ⟨lg, s, none⟩ = some (.pointer (some ⟨g, 0, none⟩)) ∧ w'.cell? ⟨wr.heap.size, 1, none⟩ = some (.int .i64 (s : Int)) ∧ w'.cell? ⟨wr.heap.size, 2, none⟩ = some (.int .i64 N) ∧ w'.cell? ⟨wr.heap.size, 3, none⟩ = some (.slice x3 xs.length y3)) := fun w' ts us hS => by
                have h2 := hS.sub (List.sublist_append_right ts _)
                have hB : Blk w' wr.heap.size 28 [.int .i64 1, .int .i64 (s : Int), .int .i64 N, .slice x3 xs.length y3, .slice x4 ks.length y4] := h2.get 0 rfl
                exact ⟨RC.out w' us h2.tail s (some g) hpp.out, hB.cell (j := 1) rfl, hB.cell (j := 2) rfl, hB.cell (j := 3) rfl⟩
              have c0 := (H5.out.get 1 rfl : Blk _ _ _ _).cell (j := 0) rfl
              obtain ⟨cl, c1, c2, c3⟩ := KC.out w5 [_] _ H5.out

              clear hK hP hN hg hby hcap DO KO KE DV KV CL FT
              go_wp2_with fail
              go_region_held3 (fun w' : World => w'.cell? ⟨lg, s, none⟩ = some (.pointer (some ⟨g, 0, none⟩)) ∧ w'.cell? ⟨wr.heap.size, 1, none⟩ = some (.int .i64 (s : Int)) ∧ w'.cell? ⟨wr.heap.size, 2, none⟩ = some (.int .i64 N)) (first | exact ⟨cl, c1, c2⟩ | exact ⟨(KC.out _ [_, _] _ H6.out).1, (KC.out _ [_, _] _ H6.out).2.1, (KC.out _ [_, _] _ H6.out).2.2.1⟩) (first
                | (go_at_call 15; refine (RD.out _ ((H5.out.quiet ((Chg.refl [] w5).drewN 1)).get (s + 4) HIX.out)).mono ?_; rintro e w6 ⟨t6, u6, rfl, O, C⟩; obtain ⟨zo, zc, rfl⟩ := owns_slice O.out; have H6 := Lib.hid ((H5.out.quiet ((Chg.refl [] w5).drewN 1)).own O.out C.out); clear O C))
              clear H5 cl c0 c1 c2 c3 RD
              replace H6 : Hid (Side w w6 (ownT t6 (.slice zo V.length zc) ((ints V).map (Value.int .u8)) :: ownT t5 (.slice yo V.length yc) ((ints V).map (Value.int .u8)) :: blkT wr.heap.size 28 [.int .i64 1, .int .i64 (s : Int), .int .i64 N, .slice x3 xs.length y3, .slice x4 ks.length y4] :: ownT 36 (.slice (some ⟨lg, 0, none⟩) n lc) (ptrs.map ptrV) :: BayT b y2 F4 :: ds1.map odT)) := H6
              have SM := Lib.hid (same_true (.slice yo V.length yc) (.slice zo V.length zc) (ints V) w6 (ownT_slB (H6.out.get 1 rfl)) (ownT_slB (H6.out.get 0 rfl)) (by have := FV.out; rw [ints_length]; omega))
              go_wp2_with fail
              refine SM.out.mono ?_
              rintro _ w8 ⟨rfl, qd, hw⟩
              have H8 := Lib.hid (H6.out.quiet (w' := w8) (by rw [hw]; exact (Chg.refl [] _).drewN _))
              clear hw H6 KC SM
              go_wp2_with fail
              exact ⟨⟨j + 1, y2, ds1, F4, by omega, by first | rfl | go_num, AL2, LL2, H8.out.tail.tail.tail⟩, by simp [intOf]; omega⟩
            · have AP := AL1.out.plain hq (.inr (.inl rfl)) N (nats xs)
              have FT : Hid (d.Fit) := ((HA.out.get (s + 3) (map_odT_at hq : (ds1.map odT)[s]? = some (DiskT g d F3)) : DiskIn _ _ _ _).fit)
              have CL : Hid (d.cache.length ≤ 1000000000) := by
                have h1 := LL.out.caches s _ (AL1.out.dev s _ hq)
                have h2 : d.cache.length ≤ j := h1
                show d.cache.length ≤ 1000000000
                omega
              have LL2 : Hid (Bay.Low (j + 1) (y.plain 2 (s : Int) N (nats xs))) := LL.out.plain 2 s N (nats xs)
              have T1 := bplain_any b F1 y _ (HA.out.get 2 rfl) 2 (s : Int) N (.slice x3 xs.length y3) (.slice x4 ks.length y4) xs hP.out hN.out (DV.out _ HA.out.chg) hby.out hg.out (fun hx => HA.out.holdOld (j := 2) rfl (DO.out hx)) (LL.out.mono (by omega))
              obtain ⟨V, hV⟩ : ∃ V, V = (Dev.mk d none).val 2 N := ⟨_, rfl⟩
              obtain ⟨E, hE⟩ : ∃ E, E = (Dev.mk d none).err 2 N (nats xs) := ⟨_, rfl⟩
              rw [(AP F3).2.1, (AP F3).2.2, ← hV, ← hE] at T1
              have AP2 : Hid (∀ F', Alike (y.plain 2 (s : Int) N (nats xs)) (ds1.set s (some (g, ((Dev.mk d none).did 2 N (nats xs)).disk), F')) ptrs) := fun F' => (AP F').1
              obtain ⟨y2, hy2⟩ : ∃ y2, y2 = y.plain 2 (s : Int) N (nats xs) := ⟨_, rfl⟩
              rw [← hy2] at T1 AP2 LL2
              replace T1 := Lib.hid T1
              have HIX : Hid ((ds1.map odT)[s]? = some (DiskT g d F3)) := map_odT_at hq
              have WR : Hid (∀ w', (DiskT g d F3).P w' → Sl w' (.slice x3 xs.length y3) xs → Calls Try.prog 16 #[.pointer (some ⟨g, 0, none⟩), .int .i64 N, .slice x3 xs.length y3] w' fun e w'' => e = .returned (.int .u16 (E : Int)) ∧ Hid (Turns w' F3 (DiskT g ((Dev.mk d none).did 2 N (nats xs)).disk) w'')) := fun w' h hv => by rw [hE, (Dev.two d N (nats xs)).1, (Dev.two d N (nats xs)).2.1]; exact dwrite_any g F3 d N (.slice x3 xs.length y3) xs w' h hN.out hv hby.out hg.out CL.out
              rw [(Dev.two d N (nats xs)).2.2] at hV
              subst hV
              clear hE
              obtain ⟨d2, hd2⟩ : ∃ d2, d2 = ((Dev.mk d none).did 2 N (nats xs)).disk := ⟨_, rfl⟩
              rw [← hd2] at WR AP2
              clear hd2
              replace hq := Lib.hid hq
              clear AP hy2 LL AL1
              go_wp2_with fail
              refine T1.out.mono ?_
              rintro _ w5 ⟨u5, rfl, T⟩
              obtain ⟨t5, F4, H1⟩ := HA.out.actOwn 2 rfl T.out
              clear HA T T1
              have H5 : Hid (Side w w5 (ownT t5 u5 ((ints []).map (Value.int .u8)) :: blkT wr.heap.size 28 [.int .i64 2, .int .i64 (s : Int), .int .i64 N, .slice x3 xs.length y3, .slice x4 ks.length y4] :: ownT 36 (.slice (some ⟨lg, 0, none⟩) n lc) (ptrs.map ptrV) :: BayT b y2 F4 :: ds1.map odT)) := H1
              clear H1
              obtain ⟨yo, yc, rfl⟩ := ownT_slice (H5.out.get 0 rfl)
              clear c0 c1 c2 c3 c4 cl
              have KC : Hid (∀ (w' : World) (ts us : List Thing), Side w w' (ts ++ (blkT wr.heap.size 28 [.int .i64 2, .int .i64 (s : Int), .int .i64 N, .slice x3 xs.length y3, .slice x4 ks.length y4] :: ownT 36 (.slice (some ⟨lg, 0, none⟩) n lc) (ptrs.map ptrV) :: us)) → w'.cell? ⟨lg, s, none⟩ = some (.pointer (some ⟨g, 0, none⟩)) ∧ w'.cell? ⟨wr.heap.size, 1, none⟩ = some (.int .i64 (s : Int)) ∧ w'.cell? ⟨wr.heap.size, 2, none⟩ = some (.int .i64 N) ∧ w'.cell? ⟨wr.heap.size, 3, none⟩ = some (.slice x3 xs.length y3)) := fun w' ts us hS => by
                have h2 := hS.sub (List.sublist_append_right ts _)
                have hB : Blk w' wr.heap.size 28 [.int .i64 2, .int .i64 (s : Int), .int .i64 N, .slice x3 xs.length y3, .slice x4 ks.length y4] := h2.get 0 rfl
                exact ⟨RC.out w' us h2.tail s (some g) hpp.out, hB.cell (j := 1) rfl, hB.cell (j := 2) rfl, hB.cell (j := 3) rfl⟩
              have c0 := (H5.out.get 1 rfl : Blk _ _ _ _).cell (j := 0) rfl
              obtain ⟨cl, c1, c2, c3⟩ := KC.out w5 [_] _ H5.out

              clear hK hP hN hg hby hcap DO KO KE KV CL FT
              go_wp2_with fail
              go_region_held3 (fun w' : World => w'.cell? ⟨lg, s, none⟩ = some (.pointer (some ⟨g, 0, none⟩)) ∧ w'.cell? ⟨wr.heap.size, 1, none⟩ = some (.int .i64 (s : Int)) ∧ w'.cell? ⟨wr.heap.size, 2, none⟩ = some (.int .i64 N) ∧ w'.cell? ⟨wr.heap.size, 3, none⟩ = some (.slice x3 xs.length y3)) (first | exact ⟨cl, c1, c2, c3⟩ | exact KC.out _ [_] _ H6.out) (first
                | (go_at_call 16; refine (WR.out _ ((H5.out.quiet ((Chg.refl [] w5).drewN 1)).get (s + 4) HIX.out) (DV.out _ (H5.out.chg.trans ((Chg.refl [] w5).drewN 1)))).mono ?_; rintro e w6 ⟨rfl, T⟩; obtain ⟨F5, H1⟩ := (H5.out.quiet ((Chg.refl [] w5).drewN 1)).act (s + 4) HIX.out T.out; have H6 : Hid (Side w w6 (ownT t5 (.slice yo ([] : List Nat).length yc) ((ints []).map (Value.int .u8)) :: blkT wr.heap.size 28 [.int .i64 2, .int .i64 (s : Int), .int .i64 N, .slice x3 xs.length y3, .slice x4 ks.length y4] :: ownT 36 (.slice (some ⟨lg, 0, none⟩) n lc) (ptrs.map ptrV) :: BayT b y2 F4 :: (ds1.set s (some (g, d2), F5)).map odT)) := (by rw [← map_odT_set]; exact H1); clear T H1))
              clear H5 cl c0 c1 c2 c3 WR DV
              have AL2 := Lib.hid (AP2.out F5)

              clear AP2
              have SM := Lib.hid (same_true (.slice yo ([] : List Nat).length yc) (.slice none 0 0) (ints []) w6 (ownT_slB (H6.out.get 0 rfl)) (.inl ⟨rfl, _, _, rfl⟩) (by decide))
              go_wp2_with fail
              refine SM.out.mono ?_
              rintro _ w8 ⟨rfl, qd, hw⟩
              have H8 := Lib.hid (H6.out.quiet (w' := w8) (by rw [hw]; exact (Chg.refl [] _).drewN _))
              clear hw H6 KC SM
              go_wp2_with fail
              exact ⟨⟨j + 1, y2, _, F4, by omega, by first | rfl | go_num, AL2, LL2, H8.out.tail.tail⟩, by simp [intOf]; omega⟩
            · have AP := AL1.out.plain hq (.inr (.inr rfl)) N (nats xs)
              have FT : Hid (d.Fit) := ((HA.out.get (s + 3) (map_odT_at hq : (ds1.map odT)[s]? = some (DiskT g d F3)) : DiskIn _ _ _ _).fit)
              have CL : Hid (d.cache.length ≤ 1000000000) := by
                have h1 := LL.out.caches s _ (AL1.out.dev s _ hq)
                have h2 : d.cache.length ≤ j := h1
                show d.cache.length ≤ 1000000000
                omega
              have LL2 : Hid (Bay.Low (j + 1) (y.plain 3 (s : Int) N (nats xs))) := LL.out.plain 3 s N (nats xs)
              have T1 := bplain_any b F1 y _ (HA.out.get 2 rfl) 3 (s : Int) N (.slice x3 xs.length y3) (.slice x4 ks.length y4) xs hP.out hN.out (DV.out _ HA.out.chg) hby.out hg.out (fun hx => HA.out.holdOld (j := 2) rfl (DO.out hx)) (LL.out.mono (by omega))
              obtain ⟨V, hV⟩ : ∃ V, V = (Dev.mk d none).val 3 N := ⟨_, rfl⟩
              obtain ⟨E, hE⟩ : ∃ E, E = (Dev.mk d none).err 3 N (nats xs) := ⟨_, rfl⟩
              rw [(AP F3).2.1, (AP F3).2.2, ← hV, ← hE] at T1
              have AP2 : Hid (∀ F', Alike (y.plain 3 (s : Int) N (nats xs)) (ds1.set s (some (g, ((Dev.mk d none).did 3 N (nats xs)).disk), F')) ptrs) := fun F' => (AP F').1
              obtain ⟨y2, hy2⟩ : ∃ y2, y2 = y.plain 3 (s : Int) N (nats xs) := ⟨_, rfl⟩
              rw [← hy2] at T1 AP2 LL2
              replace T1 := Lib.hid T1
              have HIX : Hid ((ds1.map odT)[s]? = some (DiskT g d F3)) := map_odT_at hq
              have FLU : Hid (∀ w', (DiskT g d F3).P w' → Calls Try.prog 17 #[.pointer (some ⟨g, 0, none⟩)] w' fun e w'' => e = .returned (.int .u16 (E : Int)) ∧ Hid (Turns w' F3 (DiskT g ((Dev.mk d none).did 3 N (nats xs)).disk) w'')) := fun w' h => by rw [hE, (Dev.three d N (nats xs)).1, (Dev.three d N (nats xs)).2.1]; exact dflush_any g F3 d w' h
              rw [(Dev.three d N (nats xs)).2.2] at hV
              subst hV
              clear hE
              obtain ⟨d2, hd2⟩ : ∃ d2, d2 = ((Dev.mk d none).did 3 N (nats xs)).disk := ⟨_, rfl⟩
              rw [← hd2] at FLU AP2
              clear hd2
              replace hq := Lib.hid hq
              clear AP hy2 LL AL1
              go_wp2_with fail
              refine T1.out.mono ?_
              rintro _ w5 ⟨u5, rfl, T⟩
              obtain ⟨t5, F4, H1⟩ := HA.out.actOwn 2 rfl T.out
              clear HA T T1
              have H5 : Hid (Side w w5 (ownT t5 u5 ((ints []).map (Value.int .u8)) :: blkT wr.heap.size 28 [.int .i64 3, .int .i64 (s : Int), .int .i64 N, .slice x3 xs.length y3, .slice x4 ks.length y4] :: ownT 36 (.slice (some ⟨lg, 0, none⟩) n lc) (ptrs.map ptrV) :: BayT b y2 F4 :: ds1.map odT)) := H1
              clear H1
              obtain ⟨yo, yc, rfl⟩ := ownT_slice (H5.out.get 0 rfl)
              clear c0 c1 c2 c3 c4 cl
              have KC : Hid (∀ (w' : World) (ts us : List Thing), Side w w' (ts ++ (blkT wr.heap.size 28 [.int .i64 3, .int .i64 (s : Int), .int .i64 N, .slice x3 xs.length y3, .slice x4 ks.length y4] :: ownT 36 (.slice (some ⟨lg, 0, none⟩) n lc) (ptrs.map ptrV) :: us)) → w'.cell? ⟨lg, s, none⟩ = some (.pointer (some ⟨g, 0, none⟩)) ∧ w'.cell? ⟨wr.heap.size, 1, none⟩ = some (.int .i64 (s : Int)) ∧ w'.cell? ⟨wr.heap.size, 2, none⟩ = some (.int .i64 N) ∧ w'.cell? ⟨wr.heap.size, 3, none⟩ = some (.slice x3 xs.length y3)) := fun w' ts us hS => by
                have h2 := hS.sub (List.sublist_append_right ts _)
                have hB : Blk w' wr.heap.size 28 [.int .i64 3, .int .i64 (s : Int), .int .i64 N, .slice x3 xs.length y3, .slice x4 ks.length y4] := h2.get 0 rfl
                exact ⟨RC.out w' us h2.tail s (some g) hpp.out, hB.cell (j := 1) rfl, hB.cell (j := 2) rfl, hB.cell (j := 3) rfl⟩
              have c0 := (H5.out.get 1 rfl : Blk _ _ _ _).cell (j := 0) rfl
              obtain ⟨cl, c1, c2, c3⟩ := KC.out w5 [_] _ H5.out

              clear hK hP hN hg hby hcap DO KO KE DV KV CL FT
              go_wp2_with fail
              refine (FLU.out _ (H5.out.get (s + 4) HIX.out)).mono ?_
              rintro e w6 ⟨rfl, T⟩
              obtain ⟨F5, H1⟩ := H5.out.act (s + 4) HIX.out T.out
              have H6 : Hid (Side w w6 (ownT t5 (.slice yo ([] : List Nat).length yc) ((ints []).map (Value.int .u8)) :: blkT wr.heap.size 28 [.int .i64 3, .int .i64 (s : Int), .int .i64 N, .slice x3 xs.length y3, .slice x4 ks.length y4] :: ownT 36 (.slice (some ⟨lg, 0, none⟩) n lc) (ptrs.map ptrV) :: BayT b y2 F4 :: (ds1.set s (some (g, d2), F5)).map odT)) := by rw [← map_odT_set]; exact H1
              clear T H1 H5 cl c0 c1 c2 c3 FLU
              have AL2 := Lib.hid (AP2.out F5)

              clear AP2
              have SM := Lib.hid (same_true (.slice yo ([] : List Nat).length yc) (.slice none 0 0) (ints []) w6 (ownT_slB (H6.out.get 0 rfl)) (.inl ⟨rfl, _, _, rfl⟩) (by decide))
              go_wp2_with fail
              refine SM.out.mono ?_
              rintro _ w8 ⟨rfl, qd, hw⟩
              have H8 := Lib.hid (H6.out.quiet (w' := w8) (by rw [hw]; exact (Chg.refl [] _).drewN _))
              clear hw H6 KC SM
              go_wp2_with fail
              exact ⟨⟨j + 1, y2, _, F4, by omega, by first | rfl | go_num, AL2, LL2, H8.out.tail.tail⟩, by simp [intOf]; omega⟩
        · obtain rfl : j = es.length := by omega
          clear hlt hj hj0
          have KO : Hid (kks ≠ [] → ∀ k, (Value.slice kko kks.length kkc).ownBlock = some k → k < w.heap.size) := HKK.out.old
          have KE : Hid (∀ d ∈ kks, d.bs ≠ [] → ∀ k, d.v.ownBlock = some k → k < w.heap.size) := HKK.out.olds
          have T0 := bcut_any b F1 y wr (H.out.get 1 rfl) (.slice kko kks.length kkc) kks (HKK.out.chgNil H.out.chg) (fun hx => H.out.holdOld (j := 1) rfl (KO.out hx)) (fun d hd hn => H.out.holdOld (j := 1) rfl (KE.out d hd hn))
          have FC : ∀ x ∈ y.slots, ∀ d, x.aside = some d ∨ x.coming = some d → d.disk.cache = [] := ((H.out.get 1 rfl : BayIn _ _ _ _).fit.clean)
          have LC : Hid (Bay.Low 1000000000 (y.cut (kks.map (·.bs)))) := (LL.out.cut FC _).mono (by omega)
          have CUTD : Hid (∀ (i g : Nat) (d : Dk) (F : List Nat), ds1[i]? = some (some (g, d), F) → (y.cut (kks.map (·.bs))).dev (i : Int) = some ⟨d.crash ((kks.map (·.bs)).getD i []), none⟩) := fun i g d F h => AL1.out.cut _ h
          have DL0 : Hid (ds1.length = n) := by show _ = _; rw [← AL1.out.plen]; exact PL.out
          have PTR : Hid (∀ (i : Nat) (p : ODk), ds1[i]? = some p → ptrs[i]? = some (p.1.map (·.1))) := AL1.out.ptr
          obtain ⟨yc, hyc⟩ : ∃ yc, yc = y.cut (kks.map (·.bs)) := ⟨_, rfl⟩
          rw [← hyc] at T0 LC CUTD
          clear hyc FC LL AL1
          go_wp2_with fail
          refine T0.mono ?_
          rintro e w5 ⟨rfl, T⟩
          obtain ⟨F2, H1⟩ := H.out.act 1 rfl T.out
          replace H : Hid (Side w w5 (ownT 36 (.slice (some ⟨lg, 0, none⟩) n lc) (ptrs.map ptrV) :: BayT b yc F2 :: ds1.map odT)) := H1
          clear T T0 H1 KO
          go_wp2_with fail
          go_loopw [19] (fun i wr => ∃ (j : Nat) (ds : List ODk), j ≤ n ∧ i = .int .i64 (j : Int) ∧ Hid (ds.length = n ∧ ∀ i, j ≤ i → ds[i]? = ds1[i]?) ∧ Hid (Side w wr (ownT 36 (.slice (some ⟨lg, 0, none⟩) n lc) (ptrs.map ptrV) :: BayT b yc F2 :: ds.map odT))) (fun i _ => n - (intOf i).toNat)
          case atStart => exact ⟨0, ds1, Nat.zero_le _, rfl, ⟨DL0.out, fun _ _ => rfl⟩, H⟩
          case round =>
            obtain ⟨j, ds2, hj, rfl, DL, HH⟩ := hrel
            clear H DL0
            have H := HH
            clear HH
            have hj0 : (0 : Int) ≤ j := Int.natCast_nonneg _
            by_cases hlt : j < n
            · have hj1 : (j : Int) < n := by omega
              have I64j : I64 (j : Int) := by unfold I64; omega
              obtain ⟨p0, hpp⟩ : ∃ p0, ptrs[j]? = some p0 := ⟨_, List.getElem?_eq_getElem (by rw [PL.out]; exact hlt)⟩
              have jl : Hid (j < ds2.length) := by rw [DL.out.1]; exact hlt
              obtain ⟨q0, hq2⟩ : ∃ q0, ds2[j]? = some q0 := ⟨_, List.getElem?_eq_getElem jl.out⟩
              have hq : ds1[j]? = some q0 := by rw [← DL.out.2 j (Nat.le_refl _)]; exact hq2
              have hqp := PTR.out j q0 hq
              rw [hpp] at hqp
              have cl := RC.out _ _ H.out j p0 hpp
              replace hpp := Lib.hid hpp
              cases p0 with
              | none =>
                replace cl : wr.cell? ⟨lg, j, none⟩ = some (.pointer none) := cl
                clear hq hq2 hqp jl
                go_wp2_with fail
                exact ⟨⟨j + 1, ds2, by omega, by first | rfl | go_num, ⟨DL.out.1, fun i hi => DL.out.2 i (by omega)⟩, H⟩, by simp [intOf]; omega⟩
              | some g =>
                replace cl : wr.cell? ⟨lg, j, none⟩ = some (.pointer (some ⟨g, 0, none⟩)) := cl
                obtain ⟨qq, F3⟩ := q0
                obtain ⟨d, rfl⟩ : ∃ d, qq = some (g, d) := by
                  cases qq with
                  | none => simp at hqp
                  | some q =>
                    obtain ⟨a, d⟩ := q
                    obtain rfl : g = a := by simpa using hqp
                    exact ⟨d, rfl⟩
                have CD := CUTD.out j g d F3 hq
                have HIX : Hid ((ds2.map odT)[j]? = some (DiskT g d F3)) := map_odT_at hq2
                have FT : Hid (d.Fit) := ((H.out.get (j + 2) HIX.out : DiskIn _ _ _ _).fit)
                obtain ⟨d2, hd2⟩ : ∃ d2, d2 = d.crash ((kks.map (·.bs)).getD j []) := ⟨_, rfl⟩
                rw [← hd2] at CD
                obtain ⟨Im, hIm⟩ : ∃ Im, Im = d2.image := ⟨_, rfl⟩
                have DIM : Hid (d2.image = Im) := hIm.symm
                have IM : Hid (yc.image (j : Int) = Im) := by
                  show _ = _
                  unfold Bay.image
                  rw [CD]
                  exact hIm.symm
                have TH : Hid (yc.there (j : Int) = 0) := Bay.there_ok CD
                have PE : Hid (yc.pending (j : Int) = []) := by
                  unfold Bay.pending
                  rw [CD]
                  show d2.cache.map (·.1) = []
                  rw [hd2, Dk.crash_clean FT.out]
                  rfl
                clear hqp hq hq2 CD hIm FT
                by_cases hk : j < kks.length
                · have hk1 : (j : Int) < kks.length := by omega
                  obtain ⟨dd, hdj⟩ : ∃ dd, kks[j]? = some dd := ⟨_, List.getElem?_eq_getElem hk⟩
                  obtain ⟨vb, vf, rfl, hvb, BI⟩ := HKK.out.at hdj
                  have KB : Hid (∀ w', Chg [] w w' → w'.cell? ⟨vb, vf + j, none⟩ = some dd.v ∧ RdV w' dd.v (dd.bs.map Value.bool)) := fun w' c => ⟨(c.cell (p := ⟨vb, vf + j, none⟩) hvb (by simp)).trans BI.c0, BI.rd.chgNil c⟩
                  have CR : Hid (∀ w', Side w w' (ownT 36 (.slice (some ⟨lg, 0, none⟩) n lc) (ptrs.map ptrV) :: BayT b yc F2 :: ds2.map odT) → Calls Try.prog 20 #[.pointer (some ⟨g, 0, none⟩), dd.v] w' fun e w'' => e = .returned (.tuple #[]) ∧ Hid (Turns w' F3 (DiskT g d2) w'')) := fun w' hS => by
                    have hkd : (kks.map (·.bs)).getD j [] = dd.bs := by simp [List.getD, hdj]
                    rw [hd2, hkd]
                    exact dcrash_any g F3 d dd.v dd.bs w' (hS.get (j + 2) HIX.out) (KB.out w' hS.chg).2 (fun hn => hS.holdOld (j := j + 2) HIX.out (KE.out dd (List.mem_of_getElem? hdj) hn))
                  have k0 := (KB.out wr H.out.chg).1
                  obtain ⟨dv, hdv⟩ : ∃ dv, dv = dd.v := ⟨_, rfl⟩
                  obtain ⟨do_, dc_, hds⟩ := BI.rd.slice
                  rw [List.length_map] at hds
                  rw [hds] at k0 CR
                  have KB2 : Hid (∀ w', Chg [] w w' → w'.cell? ⟨vb, vf + j, none⟩ = some (.slice do_ dd.bs.length dc_)) := fun w' c => by rw [← hds]; exact (KB.out w' c).1
                  replace hd2 := Lib.hid hd2
                  clear hdj BI KB hdv hds
                  go_wp2_with fail
                  go_region_held3 (fun w' : World => w'.cell? ⟨lg, j, none⟩ = some (.pointer (some ⟨g, 0, none⟩)) ∧ w'.cell? ⟨vb, vf + j, none⟩ = some (.slice do_ dd.bs.length dc_)) (first | exact ⟨cl, k0⟩ | exact ⟨RC.out _ _ H6.out j (some g) hpp.out, KB2.out _ H6.out.chg⟩) (first
                    | (go_at_call 20; refine (CR.out _ (H.out.quiet ((Chg.refl [] wr).drewN 1))).mono ?_; rintro e w6 ⟨rfl, T⟩; obtain ⟨F5, H1⟩ := (H.out.quiet ((Chg.refl [] wr).drewN 1)).act (j + 2) HIX.out T.out; have H6 : Hid (Side w w6 (ownT 36 (.slice (some ⟨lg, 0, none⟩) n lc) (ptrs.map ptrV) :: BayT b yc F2 :: (ds2.set j (some (g, d2), F5)).map odT)) := (by rw [← map_odT_set]; exact H1); clear T H1))
                  clear H cl k0 KB2 CR
                  have HIX2 : Hid (((ds2.set j (some (g, d2), F5)).map odT)[j]? = some (DiskT g d2 F5)) := map_odT_at (List.getElem?_set_self jl.out)
                  have DL2 : Hid ((ds2.set j (some (g, d2), F5)).length = n ∧ ∀ i, j + 1 ≤ i → (ds2.set j (some (g, d2), F5))[i]? = ds1[i]?) := ⟨by rw [List.length_set]; exact DL.out.1, fun i hi => by rw [List.getElem?_set_ne (by omega)]; exact DL.out.2 i (by omega)⟩
                  have IL : Hid (Im.length ≤ 1048576) := by rw [← IM.out]; exact bimage_len (H6.out.get 1 rfl) j
                  clear DL jl
                  go_wp2_with fail
                  have T0 := bimage_any b F2 yc w6 (H6.out.get 1 rfl) (j : Int) I64j
                  rw [IM.out, TH.out] at T0
                  refine T0.mono ?_
                  rintro e w7 ⟨t7, u7, rfl, O, C⟩
                  obtain ⟨o7, c7, rfl⟩ := owns_slice O.out
                  have H7 : Hid (Side w w7 (ownT t7 (.slice o7 Im.length c7) ((ints Im).map (Value.int .u8)) :: ownT 36 (.slice (some ⟨lg, 0, none⟩) n lc) (ptrs.map ptrV) :: BayT b yc F2 :: (ds2.set j (some (g, d2), F5)).map odT)) := H6.out.own O.out C.out
                  clear O C T0 H6
                  have cl := RC.out _ _ H7.out.tail j (some g) hpp.out
                  replace cl : w7.cell? ⟨lg, j, none⟩ = some (.pointer (some ⟨g, 0, none⟩)) := cl
                  have T0 := dimage_any g F5 d2 w7 (H7.out.get (j + 3) HIX2.out)
                  rw [DIM.out] at T0
                  replace T0 := Lib.hid T0
                  go_wp2_with fail
                  refine T0.out.mono ?_
                  rintro e w8 ⟨u8, rfl, O, C⟩
                  obtain ⟨o8, c8, rfl⟩ := owns_slice O.out
                  have H8 : Hid (Side w w8 (ownT 5 (.slice o8 Im.length c8) ((ints Im).map (Value.int .u8)) :: ownT t7 (.slice o7 Im.length c7) ((ints Im).map (Value.int .u8)) :: ownT 36 (.slice (some ⟨lg, 0, none⟩) n lc) (ptrs.map ptrV) :: BayT b yc F2 :: (ds2.set j (some (g, d2), F5)).map odT)) := H7.out.own O.out C.out
                  clear O C T0 H7 cl
                  have SM := Lib.hid (same_true (.slice o7 Im.length c7) (.slice o8 Im.length c8) (ints Im) w8 (ownT_slB (H8.out.get 1 rfl)) (ownT_slB (H8.out.get 0 rfl)) (by have := IL.out; rw [ints_length]; omega))
                  go_wp2_with fail
                  refine SM.out.mono ?_
                  rintro _ w9 ⟨rfl, qd, hw⟩
                  have H9 := Lib.hid ((H8.out.quiet (w' := w9) (by rw [hw]; exact (Chg.refl [] _).drewN _)).tail.tail)
                  clear hw H8 SM
                  go_wp2_with fail
                  have T0 := bpending_any b F2 yc w9 (H9.out.get 1 rfl) (j : Int) I64j LC.out
                  rw [PE.out] at T0
                  refine T0.mono ?_
                  rintro e w10 ⟨u10, rfl, O, C⟩
                  rw [show ([] : List Nat).length = 0 from rfl] at O
                  obtain ⟨oo, oc, rfl⟩ := owns_slice O.out
                  have H10 := Lib.hid (H9.out.quiet C.out)
                  clear O C T0 H9
                  go_wp2_with fail
                  exact ⟨⟨j + 1, _, by omega, by first | rfl | go_num, DL2, H10⟩, by simp [intOf]; omega⟩
                · have hk1 : ¬ (j : Int) < kks.length := by omega
                  have CR : Hid (∀ w', Side w w' (ownT 36 (.slice (some ⟨lg, 0, none⟩) n lc) (ptrs.map ptrV) :: BayT b yc F2 :: ds2.map odT) → Calls Try.prog 20 #[.pointer (some ⟨g, 0, none⟩), .slice none 0 0] w' fun e w'' => e = .returned (.tuple #[]) ∧ Hid (Turns w' F3 (DiskT g d2) w'')) := fun w' hS => by
                    have hkd : (kks.map (·.bs)).getD j [] = [] := by simp [List.getD, List.getElem?_eq_none (show kks.length ≤ j by omega)]
                    rw [hd2, hkd]
                    exact dcrash_any g F3 d (.slice none 0 0) [] w' (hS.get (j + 2) HIX.out) (.inl ⟨rfl, _, _, rfl⟩) (fun hn => absurd rfl hn)
                  replace hd2 := Lib.hid hd2
                  go_wp2_with fail
                  refine (CR.out _ H.out).mono ?_
                  rintro e w6 ⟨rfl, T⟩
                  obtain ⟨F5, H1⟩ := H.out.act (j + 2) HIX.out T.out
                  have H6 : Hid (Side w w6 (ownT 36 (.slice (some ⟨lg, 0, none⟩) n lc) (ptrs.map ptrV) :: BayT b yc F2 :: (ds2.set j (some (g, d2), F5)).map odT)) := by rw [← map_odT_set]; exact H1
                  clear T H1 H cl CR
                  have HIX2 : Hid (((ds2.set j (some (g, d2), F5)).map odT)[j]? = some (DiskT g d2 F5)) := map_odT_at (List.getElem?_set_self jl.out)
                  have DL2 : Hid ((ds2.set j (some (g, d2), F5)).length = n ∧ ∀ i, j + 1 ≤ i → (ds2.set j (some (g, d2), F5))[i]? = ds1[i]?) := ⟨by rw [List.length_set]; exact DL.out.1, fun i hi => by rw [List.getElem?_set_ne (by omega)]; exact DL.out.2 i (by omega)⟩
                  have IL : Hid (Im.length ≤ 1048576) := by rw [← IM.out]; exact bimage_len (H6.out.get 1 rfl) j
                  clear DL jl
                  go_wp2_with fail
                  have T0 := bimage_any b F2 yc w6 (H6.out.get 1 rfl) (j : Int) I64j
                  rw [IM.out, TH.out] at T0
                  refine T0.mono ?_
                  rintro e w7 ⟨t7, u7, rfl, O, C⟩
                  obtain ⟨o7, c7, rfl⟩ := owns_slice O.out
                  have H7 : Hid (Side w w7 (ownT t7 (.slice o7 Im.length c7) ((ints Im).map (Value.int .u8)) :: ownT 36 (.slice (some ⟨lg, 0, none⟩) n lc) (ptrs.map ptrV) :: BayT b yc F2 :: (ds2.set j (some (g, d2), F5)).map odT)) := H6.out.own O.out C.out
                  clear O C T0 H6
                  have cl := RC.out _ _ H7.out.tail j (some g) hpp.out
                  replace cl : w7.cell? ⟨lg, j, none⟩ = some (.pointer (some ⟨g, 0, none⟩)) := cl
                  have T0 := dimage_any g F5 d2 w7 (H7.out.get (j + 3) HIX2.out)
                  rw [DIM.out] at T0
                  replace T0 := Lib.hid T0
                  go_wp2_with fail
                  refine T0.out.mono ?_
                  rintro e w8 ⟨u8, rfl, O, C⟩
                  obtain ⟨o8, c8, rfl⟩ := owns_slice O.out
                  have H8 : Hid (Side w w8 (ownT 5 (.slice o8 Im.length c8) ((ints Im).map (Value.int .u8)) :: ownT t7 (.slice o7 Im.length c7) ((ints Im).map (Value.int .u8)) :: ownT 36 (.slice (some ⟨lg, 0, none⟩) n lc) (ptrs.map ptrV) :: BayT b yc F2 :: (ds2.set j (some (g, d2), F5)).map odT)) := H7.out.own O.out C.out
                  clear O C T0 H7 cl
                  have SM := Lib.hid (same_true (.slice o7 Im.length c7) (.slice o8 Im.length c8) (ints Im) w8 (ownT_slB (H8.out.get 1 rfl)) (ownT_slB (H8.out.get 0 rfl)) (by have := IL.out; rw [ints_length]; omega))
                  go_wp2_with fail
                  refine SM.out.mono ?_
                  rintro _ w9 ⟨rfl, qd, hw⟩
                  have H9 := Lib.hid ((H8.out.quiet (w' := w9) (by rw [hw]; exact (Chg.refl [] _).drewN _)).tail.tail)
                  clear hw H8 SM
                  go_wp2_with fail
                  have T0 := bpending_any b F2 yc w9 (H9.out.get 1 rfl) (j : Int) I64j LC.out
                  rw [PE.out] at T0
                  refine T0.mono ?_
                  rintro e w10 ⟨u10, rfl, O, C⟩
                  rw [show ([] : List Nat).length = 0 from rfl] at O
                  obtain ⟨oo, oc, rfl⟩ := owns_slice O.out
                  have H10 := Lib.hid (H9.out.quiet C.out)
                  clear O C T0 H9
                  go_wp2_with fail
                  exact ⟨⟨j + 1, _, by omega, by first | rfl | go_num, DL2, H10⟩, by simp [intOf]; omega⟩
            · obtain rfl : n = j := by omega
              have CW := Lib.hid H.out.chg
              clear H
              go_wp2_with fail
              go_ret
              exact ⟨rfl, CW.out⟩

end Go.Proofs.Ytljhpdgjajhgbaa
