/-
  The program's disk: what only reads it, and what empties its cache. By an AI agent.
-/
import Derived.Test.YtljhpdgjajhgbaaDkRep
namespace Go.Proofs.Ytljhpdgjajhgbaa
open Go.Maps Go.RowKit

set_option maxHeartbeats 1000000 in
set_option maxRecDepth 100000 in
theorem dsectors_any (g : Nat) (F : List Nat) (d : Dk) (w : World) (h : (DiskT g d F).P w) :
    Calls Try.prog 54 #[.pointer (some ⟨g, 0, none⟩)] w fun e w' => e = .returned (.int .i64 (d.last.length : Int)) ∧ ∃ q, w' = w.drewN q := by
  have h' : DiskIn w g F d := h
  obtain ⟨gd, mb, cv, r⟩ := h'.rep
  have c0 := r.blk.cell (j := 0) rfl
  generalize d.last.length = n at *
  clear h h' r
  go_enter Try.func54, Try.ntmps54
  go_wp2_with fail
  go_ret
  exact ⟨rfl, 0, rfl⟩

set_option maxHeartbeats 1000000 in
set_option maxRecDepth 100000 in
theorem dfailed_any (g : Nat) (F : List Nat) (d : Dk) (w : World) (h : (DiskT g d F).P w) :
    Calls Try.prog 62 #[.pointer (some ⟨g, 0, none⟩)] w fun e w' => e = .returned (.bool d.bad) ∧ ∃ q, w' = w.drewN q := by
  have h' : DiskIn w g F d := h
  obtain ⟨gd, mb, cv, r⟩ := h'.rep
  have c0 := r.blk.cell (j := 3) rfl
  generalize d.bad = n at *
  clear h h' r
  go_enter Try.func62, Try.ntmps62
  go_wp2_with fail
  go_ret
  exact ⟨rfl, 0, rfl⟩

theorem Dk.check_bad2 {d : Dk} (h : d.bad = true) (a : Int) : d.check a = 2 := by unfold Dk.check; rw [if_pos h]

theorem Dk.check_out3 {d : Dk} (h : d.bad = false) {a : Int} (ha : ¬ d.has a) : d.check a = 3 := by
  unfold Dk.check; rw [if_neg (by rw [h]; decide), if_neg ha]

set_option maxHeartbeats 1000000 in
set_option maxRecDepth 100000 in
theorem dcheck_any (g : Nat) (F : List Nat) (d : Dk) (at_ : Int) (w : World) (h : (DiskT g d F).P w) (ha : -9223372036854775808 ≤ at_ ∧ at_ ≤ 9223372036854775807) :
    Calls Try.prog 43 #[.pointer (some ⟨g, 0, none⟩), .int .i64 at_] w fun e w' => e = .returned (.int .u16 ((d.check at_ : Nat) : Int)) ∧ w' = w := by
  have h' : DiskIn w g F d := h
  obtain ⟨gd, mb, cv, r⟩ := h'.rep
  have c0 := r.blk.cell (j := 0) rfl
  have c3 := r.blk.cell (j := 3) rfl
  by_cases hbad : d.bad = true
  · rw [Dk.check_bad2 hbad at_]
    rw [hbad] at c3
    clear h h' r hbad
    go_enter Try.func43, Try.ntmps43
    go_wp2_with fail
    go_ret
    exact ⟨rfl, rfl⟩
  have hb0 : d.bad = false := by simpa using hbad
  rw [hb0] at c3
  by_cases hhas : d.has at_
  · obtain ⟨k, rfl⟩ := Int.eq_ofNat_of_zero_le hhas.1
    have hk : k < d.last.length := by have := hhas.2; omega
    rw [(Dk.read_ok hb0 hk).1]
    have hk0 : (0 : Int) ≤ k := Int.natCast_nonneg _
    have hkn : ¬ (k : Int) < 0 := by omega
    have hk1 : ¬ (d.last.length : Int) ≤ k := by omega
    clear h h' r hbad hb0 hhas
    go_enter Try.func43, Try.ntmps43
    go_wp2_with fail
    go_ret
    exact ⟨rfl, rfl⟩
  · rw [Dk.check_out3 hb0 hhas]
    have hcase : at_ < 0 ∨ (¬ at_ < 0 ∧ (d.last.length : Int) ≤ at_) := by
      unfold Dk.has at hhas
      omega
    clear h h' r hbad hb0 hhas
    rcases hcase with h1 | ⟨h1, h2⟩
    · go_enter Try.func43, Try.ntmps43
      go_wp2_with fail
      go_ret
      exact ⟨rfl, rfl⟩
    · go_enter Try.func43, Try.ntmps43
      go_wp2_with fail
      go_ret
      exact ⟨rfl, rfl⟩

/-- What emptying leaves. -/
def Emptied (w : World) (g : Nat) (x0 x3 : Value) (w' : World) : Prop :=
  ∃ mb, w.heap.size ≤ mb ∧ Blk w' g 82 [x0, .slice none 0 0, .map (some mb), x3] ∧ LatIn w' mb [] ∧ Chg [g] w w'

set_option maxHeartbeats 1000000 in
set_option maxRecDepth 100000 in
theorem dempty_any (g : Nat) (x0 x1 x2 x3 : Value) (w : World) (h : Blk w g 82 [x0, x1, x2, x3]) :
    Calls Try.prog 42 #[.pointer (some ⟨g, 0, none⟩)] w fun e w' => e = .returned (.tuple #[]) ∧ Hid (Emptied w g x0 x3 w') := by
  have hlt := h.lt
  have B1 := h.alloc (.map #[] 0)
  have c1 := B1.cell (j := 1) rfl
  have f1 := B1.free 1
  have B2 := B1.set 1 (.slice none 0 0)
  have c2 := B2.cell (j := 2) rfl
  have f2 := B2.free 2
  have hmm := @run_makeMap Try.prog
  have L := LatIn.made w
  have C : Chg [g] w (((w.alloc (.map #[] 0)).setCell ⟨g, 1, none⟩ (.slice none 0 0)).setCell ⟨g, 2, none⟩ (.map (some w.heap.size))) := (((Chg.refl _ _).alloc _).setCell (.inl (by simp)) _).setCell (.inl (by simp)) _
  have C2 : Chg [g] (w.alloc (.map #[] 0)) (((w.alloc (.map #[] 0)).setCell ⟨g, 1, none⟩ (.slice none 0 0)).setCell ⟨g, 2, none⟩ (.map (some w.heap.size))) := ((Chg.refl _ _).setCell (.inl (by simp)) _).setCell (.inl (by simp)) _
  have E : Hid (Emptied w g x0 x3 (((w.alloc (.map #[] 0)).setCell ⟨g, 1, none⟩ (.slice none 0 0)).setCell ⟨g, 2, none⟩ (.map (some w.heap.size)))) :=
    ⟨w.heap.size, Nat.le_refl _, B2.set 2 _, L.chg C2 (by intro hm; rw [List.mem_singleton] at hm; omega), C⟩
  clear h hlt B1 B2 L C C2
  go_enter Try.func42, Try.ntmps42
  go_wp2_with fail
  go_end0
  exact ⟨rfl, E⟩

theorem Emptied.turns {w w' : World} {g : Nat} {F : List Nat} {d : Dk} {gd mb : Nat} {cv : Value} {b : Bool} (hlt : ∀ k ∈ F, k < w.heap.size) (hf : d.Fit) (r : DRep w g F d gd mb cv)
    (h : Emptied w g (.slice (some ⟨gd, 0, none⟩) d.last.length d.last.length) (.bool b) w') : Turns w F (DiskT g { d with cache := [], bad := b }) w' := by
  obtain ⟨m2, h1, h2, h3, h4⟩ := h
  have hg := hlt g r.gF
  have hd := hlt gd r.dF.1
  refine ⟨F ++ [m2], ⟨fun k hk => ?_, ⟨hf.lo, hf.hi, hf.sec, (fun x hx => by cases hx), (fun _ => rfl)⟩, gd, m2, .slice none 0 0, ⟨h2, r.dur.chg h4 (by simp; exact r.dF.2), World.ownsRow_nil _ _ _ _, h3, List.mem_append_left _ r.gF, ⟨List.mem_append_left _ r.dF.1, r.dF.2⟩, ⟨by simp, by omega, by omega⟩, fun k hk => by simp [Value.ownBlock] at hk⟩⟩, fun k hk => ?_, h4.mono (fun k hk => by rw [List.mem_singleton.1 hk]; exact r.gF)⟩
  · rcases List.mem_append.1 hk with hk | hk
    · exact Nat.lt_of_lt_of_le (hlt k hk) h4.size
    · rw [List.mem_singleton.1 hk]; exact h3.lt
  · rcases List.mem_append.1 hk with hk | hk
    · exact .inl hk
    · rw [List.mem_singleton.1 hk]; exact .inr h1

set_option maxHeartbeats 1000000 in
set_option maxRecDepth 100000 in
theorem dfail_any (g : Nat) (F : List Nat) (d : Dk) (w : World) (h : (DiskT g d F).P w) :
    Calls Try.prog 57 #[.pointer (some ⟨g, 0, none⟩)] w fun e w' => e = .returned (.tuple #[]) ∧ Hid (Turns w F (DiskT g d.fail) w') := by
  have h' : DiskIn w g F d := h
  obtain ⟨gd, mb, cv, r⟩ := h'.rep
  have c3 := r.blk.cell (j := 3) rfl
  have f3 := r.blk.free 3
  have B := r.blk.set 3 (.bool true)
  have CE := dempty_any g _ _ _ _ _ B
  have C1 : Chg [g] w (w.setCell ⟨g, 3, none⟩ (.bool true)) := (Chg.refl _ _).setCell (.inl (by simp)) _
  have EE : Hid (∀ w', Emptied (w.setCell ⟨g, 3, none⟩ (.bool true)) g (.slice (some ⟨gd, 0, none⟩) d.last.length d.last.length) (.bool true) w' → Turns w F (DiskT g d.fail) w') := fun w' he => by
    obtain ⟨m2, h1, h2, h3, h4⟩ := he
    have hsz : (w.setCell ⟨g, 3, none⟩ (.bool true)).heap.size = w.heap.size := by simp [World.setCell]
    rw [hsz] at h1
    exact Emptied.turns h'.lt h'.fit r ⟨m2, h1, h2, h3, C1.trans h4⟩
  replace CE := Lib.hid CE
  clear h h' r B C1
  go_enter Try.func57, Try.ntmps57
  go_wp2_with fail
  refine CE.out.mono ?_
  rintro e w' ⟨rfl, hE⟩
  have T := EE.out _ hE
  replace T := Lib.hid T
  clear CE EE
  go_wp2_with fail
  go_end0
  exact ⟨rfl, T⟩


theorem info_sector : (Try.prog.info? 84).map (fun i => (i.zero, i.size, i.bytes)) = some (some (.agg (Array.replicate 128 (.int .u8 0))), 128, 128) := by kernel_rfl

theorem sector_size : (Try.prog.info? 84).map (·.size) = some 128 := by kernel_rfl

theorem made_noughts (n : Nat) : (madeCells (Value.agg (Array.replicate 128 (Value.int .u8 0))).cells (n * 128)).toList = bytesOf (List.replicate n (List.replicate 128 0)).flatten := by
  have e : (List.replicate n (List.replicate 128 0)).flatten = List.replicate (n * 128) 0 := by rw [List.flatten_replicate_replicate]
  rw [e]
  apply List.ext_getElem?
  intro j
  by_cases hj : j < n * 128
  · have hm : j % 128 < 128 := Nat.mod_lt _ (by decide)
    simp [madeCells, Value.cells, bytesOf, ints, hj, hm]
  · simp [madeCells, Value.cells, bytesOf, ints, hj]

/-- A made row of greater elements is known whole. -/
theorem Blk.ownedN {w : World} {base : Nat} {e : TypeId} {g n size : Nat} {xs : List Value} (h : w.ownsRow base e size (.slice (some ⟨g, 0, none⟩) n n) n xs) : Blk w g e xs ∧ base ≤ g := by
  rcases h.2 with ⟨h0, _⟩ | ⟨g', cap, cur, hv, hb, hg, _, _, hs, ht⟩
  · cases h0
  · obtain ⟨h1, h2⟩ : g = g' ∧ n = cap := by simpa using hv
    subst h1 h2
    refine ⟨?_, hb⟩
    unfold Blk
    rw [hg, ← ht, List.take_of_length_le (by simp [hs])]

theorem has_new (n : Nat) : (Dk.new n).last = List.replicate n (List.replicate 128 0) := rfl

set_option maxHeartbeats 1000000 in
set_option maxRecDepth 100000 in
theorem dnew_aux (n : Int) (w : World) (ok : Prop) (OK : Hid (ok ↔ 1 ≤ n ∧ n ≤ 8192)) : Calls Try.prog 13 #[.int .i64 n] w (DNewed w ok (Dk.new n.toNat)) := by
  by_cases hok : 1 ≤ n ∧ n ≤ 8192
  · have HO : Hid ok := OK.out.2 hok
    clear OK
    obtain ⟨k, rfl⟩ := Int.eq_ofNat_of_zero_le (show (0 : Int) ≤ n by omega)
    have hk1 : 1 ≤ k := by omega
    have hk2 : k ≤ 8192 := by omega
    have h1 : ¬ (k : Int) < 1 := by omega
    have h2 : ¬ (8192 : Int) < k := by omega
    rw [Int.toNat_natCast]
    have FN := Lib.hid (Dk.Fit.new hk1 hk2)
    obtain ⟨i0, hi, hz0, hz1, hz2⟩ := info_parts info_sector
    replace hi := Lib.hid hi
    replace hz0 := Lib.hid hz0
    replace hz1 := Lib.hid hz1
    replace hz2 := Lib.hid hz2
    clear hok
    go_enter Try.func13, Try.ntmps13
    go_wp2_with (with_reducible refine wpList_make_full _ rfl (.tmp 11) (.tmp 11) 78 rfl w.heap.size 84 i0 _ 128 Try.underlying78 hi.out hz0.out hz1.out .i64 .i64 (k : Int) (k : Int) k rfl rfl rfl rfl (by rw [hz2.out]; omega) (by unfold maxLen; omega) (Nat.le_refl _) ?_; intro w1 ow gr)
    obtain ⟨B0, hb0⟩ := Blk.ownedN ow
    have C1 : Chg [] w w1 := (Chg.refl _ _).grown gr (by simp)
    have hsz := C1.size
    have hw0 : w.heap.size < w1.heap.size := B0.lt
    have BG := Blk.made w1 [.slice (some ⟨w.heap.size, 0, none⟩) k k, .slice none 0 0, .map none, .bool false] 82
    have BD := B0.alloc (.cells #[.slice (some ⟨w.heap.size, 0, none⟩) k k, .slice none 0 0, .map none, .bool false] 82)
    have CE := dempty_any w1.heap.size _ _ _ _ _ BG
    refine CE.mono ?_
    rintro e w2 ⟨rfl, m2, h1, h2, h3, h4⟩
    have T : Hid (∃ g F, (g = w1.heap.size) ∧ Hid ((DiskT g (Dk.new k) F).P w2) ∧ Hid (∀ k ∈ F, w.heap.size ≤ k) ∧ Hid (Chg [] w w2)) := by
      have hs2 : (w1.alloc (.cells #[.slice (some ⟨w.heap.size, 0, none⟩) k k, .slice none 0 0, .map none, .bool false] 82)).heap.size = w1.heap.size + 1 := by simp
      have h1' : w1.heap.size + 1 ≤ m2 := by rw [← hs2]; exact h1
      have hs4 := h4.size
      have hl3 := h3.lt
      have hln : (Dk.new k).last.length = k := by simp [Dk.new]
      refine ⟨w1.heap.size, [w1.heap.size, w.heap.size, m2], rfl, ⟨fun j hj => ?_, FN.out, w.heap.size, m2, .slice none 0 0, ⟨by rw [hln]; exact h2, ?_, World.ownsRow_nil _ _ _ _, h3, by simp, ⟨by simp, by omega⟩, ⟨by simp, by omega, by omega⟩, fun j hj => by simp [Value.ownBlock] at hj⟩⟩, fun j hj => ?_, ?_⟩
      · rcases List.mem_cons.1 hj with rfl | hj
        · omega
        rcases List.mem_cons.1 hj with rfl | hj
        · omega
        rw [List.mem_singleton.1 hj]; exact hl3
      · rw [has_new, ← made_noughts]
        exact BD.chg h4 (by simp; omega)
      · rcases List.mem_cons.1 hj with rfl | hj
        · omega
        rcases List.mem_cons.1 hj with rfl | hj
        · omega
        rw [List.mem_singleton.1 hj]; omega
      · exact (C1.alloc _).fresh h4 (fun j hj => by rw [List.mem_singleton.1 hj]; exact .inr hsz)
    clear h1 h2 h3 h4 CE BD BG B0 C1 hsz hw0 ow gr hb0
    go_wp2_with fail
    go_ret2
    obtain ⟨g, F, rfl, t2, t3, t4⟩ := T.out
    exact .inr ⟨HO.out, _, F, rfl, t2, t3, t4⟩
  · have HO : Hid (¬ ok) := fun h => hok (OK.out.1 h)
    have hcase : n < 1 ∨ (¬ n < 1 ∧ 8192 < n) := by omega
    clear OK hok
    rcases hcase with h1 | ⟨h1, h2⟩
    · go_enter Try.func13, Try.ntmps13
      go_wp2_with fail
      go_ret2
      exact .inl ⟨HO.out, rfl, Chg.refl _ _⟩
    · go_enter Try.func13, Try.ntmps13
      go_wp2_with fail
      go_ret2
      exact .inl ⟨HO.out, rfl, Chg.refl _ _⟩

theorem dnew_any (n : Int) (w : World) (_hn : -9223372036854775808 ≤ n ∧ n ≤ 9223372036854775807) : Calls Try.prog 13 #[.int .i64 n] w (DNewed w (1 ≤ n ∧ n ≤ 8192) (Dk.new n.toNat)) := dnew_aux n w _ Iff.rfl

end Go.Proofs.Ytljhpdgjajhgbaa
