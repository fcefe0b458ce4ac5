/-
  The document's disk: how it lies in memory; what only reads it. By an AI agent.
-/
import Derived.Test.YtjkjkennplfgaaaDkSpec
import Derived.Test.YtjkjkennplfgaaaGSide
import Derived.Test.YtjkjkennplfgaaaGAppend
import Derived.Test.YtjkjkennplfgaaaXorSpec
namespace Go.Proofs.Ytjkjkennplfgaaa
open Go.RowKit

/-- The cells of a cache. -/
def cellsOf : List (Nat × List Nat) → List Value → List Value
  | p :: c, u :: us => .int .i64 (p.1 : Int) :: u :: cellsOf c us
  | _, _ => []

theorem cellsOf_length : ∀ (c : List (Nat × List Nat)) (us : List Value), us.length = c.length → (cellsOf c us).length = c.length * 2
  | [], us, h => by cases us <;> simp [cellsOf]
  | p :: c, [], h => by simp at h
  | p :: c, u :: us, h => by rw [cellsOf, List.length_cons, List.length_cons, cellsOf_length c us (by simpa using h), List.length_cons]; omega

theorem cellsOf_get : ∀ (c : List (Nat × List Nat)) (us : List Value) (i : Nat) (p : Nat × List Nat) (u : Value), c[i]? = some p → us[i]? = some u → (cellsOf c us)[i * 2]? = some (.int .i64 (p.1 : Int)) ∧ (cellsOf c us)[i * 2 + 1]? = some u
  | [], us, i, p, u, h, _ => by simp at h
  | q :: c, [], i, p, u, _, h => by simp at h
  | q :: c, v :: us, 0, p, u, h1, h2 => by
    obtain rfl : q = p := by simpa using h1
    obtain rfl : v = u := by simpa using h2
    exact ⟨rfl, rfl⟩
  | q :: c, v :: us, i + 1, p, u, h1, h2 => by
    have := cellsOf_get c us i p u (by simpa using h1) (by simpa using h2)
    rw [cellsOf, show (i + 1) * 2 = i * 2 + 1 + 1 by omega]
    exact this

theorem cellsOf_snoc : ∀ (c : List (Nat × List Nat)) (us : List Value) (p : Nat × List Nat) (u : Value), us.length = c.length → cellsOf (c ++ [p]) (us ++ [u]) = cellsOf c us ++ [.int .i64 (p.1 : Int), u]
  | [], us, p, u, h => by
    obtain rfl : us = [] := by simpa using h
    rfl
  | q :: c, [], p, u, h => by simp at h
  | q :: c, v :: us, p, u, h => by
    rw [List.cons_append, List.cons_append, cellsOf, cellsOf_snoc c us p u (by simpa using h), cellsOf]
    rfl

/-- How a disk of the document's lies: its lasting bytes, its cache, each write's bytes. -/
structure Rep (w : World) (g : Nat) (F : List Nat) (d : Dk) (lv cv : Value) (us : List Value) : Prop where
  blk : Blk w g 84 [lv, cv, .bool d.bad]
  las : w.ownsRow 0 5 1 lv d.last.flatten.length ((ints d.last.flatten).map (Value.int .u8))
  cac : w.ownsRow 0 112 2 cv d.cache.length (cellsOf d.cache us)
  ulen : us.length = d.cache.length
  dat : ∀ (i : Nat) (u : Value) (p : Nat × List Nat), us[i]? = some u → d.cache[i]? = some p → w.ownsRow 0 5 1 u p.2.length ((ints p.2).map (Value.int .u8)) ∧ ∀ k, u.ownBlock = some k → k ∈ F ∧ k ≠ g ∧ cv.ownBlock ≠ some k
  lof : ∀ k, lv.ownBlock = some k → k ∈ F ∧ k ≠ g ∧ cv.ownBlock ≠ some k
  cof : ∀ k, cv.ownBlock = some k → k ∈ F ∧ k ≠ g

theorem owns_chg2 {w w' : World} {s : List Nat} {e : TypeId} {size n : Nat} {v : Value} {xs : List Value} (h : w.ownsRow 0 e size v n xs) (c : Chg s w w') (hs : ∀ k, v.ownBlock = some k → k ∉ s) : w'.ownsRow 0 e size v n xs := by
  refine ⟨h.1, ?_⟩
  rcases h.2 with h | ⟨g, cap, cur, h1, h2, h3, h4⟩
  · exact .inl h
  · refine .inr ⟨g, cap, cur, h1, h2, ?_, h4⟩
    rw [c.block g (Array.getElem?_eq_some_iff.1 h3).1 (hs g (by rw [h1]; rfl))]
    exact h3

/-- A disk of the document's, at block g. -/
structure RdIn (w : World) (g : Nat) (F : List Nat) (d : Dk) : Prop where
  fit : d.Fit
  lt : ∀ k ∈ F, k < w.heap.size
  mem : g ∈ F
  rep : ∃ lv cv us, Rep w g F d lv cv us

theorem Rep.chg {w w' : World} {s : List Nat} {g : Nat} {F : List Nat} {d : Dk} {lv cv : Value} {us : List Value} (h : Rep w g F d lv cv us) (c : Chg s w w') (hg : g ∈ F) (hs : ∀ k ∈ F, k ∉ s) : Rep w' g F d lv cv us :=
  ⟨h.blk.chg c (hs g hg), owns_chg2 h.las c (fun k hk => hs k (h.lof k hk).1), owns_chg2 h.cac c (fun k hk => hs k (h.cof k hk).1), h.ulen, fun i u p hu hp => ⟨owns_chg2 (h.dat i u p hu hp).1 c (fun k hk => hs k ((h.dat i u p hu hp).2 k hk).1), (h.dat i u p hu hp).2⟩, h.lof, h.cof⟩

def RefT (g : Nat) (d : Dk) (F : List Nat) : Thing where
  F := F
  P := fun w => RdIn w g F d
  lt := fun _ h => h.lt
  stays := fun w w' s h c hs => by
    obtain ⟨lv, cv, us, r⟩ := h.rep
    exact ⟨h.fit, fun k hk => Nat.lt_of_lt_of_le (h.lt k hk) c.size, h.mem, lv, cv, us, r.chg c h.mem hs⟩

theorem Dk.Fit.flat {d : Dk} (h : d.Fit) : d.last.flatten.length = 128 * d.last.length := Dk.flat_len (fun s hs => (h.sec s hs).1)

theorem Dk.Fit.flat_bs {d : Dk} (h : d.Fit) : Bs d.last.flatten := fun b hb => by
  obtain ⟨s, hs, hb⟩ := List.mem_flatten.1 hb
  exact (h.sec s hs).2 b hb

theorem tdiv_128 (n : Nat) : Int.tdiv ((128 * n : Nat) : Int) 128 = (n : Int) := by
  rw [Int.tdiv_eq_ediv_of_nonneg (by omega)]
  omega

set_option maxHeartbeats 1000000 in
set_option maxRecDepth 100000 in
theorem rsectors_any (g : Nat) (F : List Nat) (d : Dk) (w : World) (h : (RefT g d F).P w) :
    Calls Try.prog 42 #[.pointer (some ⟨g, 0, none⟩)] w fun e w' => e = .returned (.int .i64 (d.last.length : Int)) ∧ ∃ q, w' = w.drewN q := by
  have h' : RdIn w g F d := h
  obtain ⟨lv, cv, us, r⟩ := h'.rep
  have hl := h'.fit.flat
  have hhi := h'.fit.hi
  obtain ⟨lo, lc, rfl⟩ := owns_slice r.las
  have c0 := r.blk.cell (j := 0) rfl
  rw [hl] at c0
  have ht := tdiv_128 d.last.length
  generalize d.last.length = n at *
  clear h h' r hl
  go_enter Try.func42, Try.ntmps42
  go_wp2_with fail
  go_ret
  exact ⟨rfl, 0, rfl⟩

/-- An append of bytes onto nothing: bytes of their own. -/
theorem grown_none {w w' : World} {v : Value} (h : w.grownBy w' v.ownBlock) (hv : v.ownBlock = none) : Chg [] w w' := (Chg.refl _ w).grown h (by rw [hv]; intro k hk; cases hk)

set_option maxHeartbeats 1000000 in
set_option maxRecDepth 100000 in
theorem rimage_any (g : Nat) (F : List Nat) (d : Dk) (w : World) (h : (RefT g d F).P w) :
    Calls Try.prog 40 #[.pointer (some ⟨g, 0, none⟩)] w (Gives1 w d.image) := by
  have h' : RdIn w g F d := h
  obtain ⟨lv, cv, us, r⟩ := h'.rep
  have hl := h'.fit.flat
  have hhi := h'.fit.hi
  have hs := own_sl r.las
  obtain ⟨lo, lc, rfl⟩ := owns_slice r.las
  have c0 := r.blk.cell (j := 0) rfl
  have c2 := r.blk.cell (j := 2) rfl
  obtain ⟨i0, hi, hz0, hz1, hz2⟩ := info_parts info_u8
  have S := Lib.hid hs
  cases hbad : d.bad with
  | true =>
    rw [hbad] at c2
    have E : Hid (d.image = []) := by show _ = _; unfold Dk.image; rw [if_pos hbad]
    clear h h' r hl hs
    go_enter Try.func40, Try.ntmps40
    go_wp2_with fail
    go_ret
    exact ⟨_, rfl, by rw [E.out]; exact World.ownsRow_nil _ _ _ _, Chg.refl _ _⟩
  | false =>
    rw [hbad] at c2
    have E : Hid (d.image = d.last.flatten) := Dk.image_ok hbad
    have hb1 : d.last.flatten.length ≤ 1048576 := by rw [hl]; omega
    generalize d.last.flatten = fl at *
    clear h h' r hl hs
    go_enter Try.func40, Try.ntmps40
    go_wp2_with (at_builtin; refine wpList_append_sl _ rfl _ _ 22 rfl w.heap.size 5 i0 (.int .u8 0) 1 Try.underlying22 hi hz0 hz1 hz2 rfl _ 0 [] rfl (World.ownsRow_nil _ _ _ _) lo fl.length lc (ints fl) rfl S.out (by rw [ints_length]; unfold maxLen; omega) (by rw [ints_length]; omega) (Nat.le_refl _) ?_; intro v' w1 ol gr nb)
    go_ret
    rw [ints_length, Nat.zero_add, List.nil_append] at ol
    exact ⟨_, rfl, by rw [E.out]; exact ol, grown_none gr.out rfl⟩

set_option maxHeartbeats 1000000 in
set_option maxRecDepth 100000 in
theorem rfail_any (g : Nat) (F : List Nat) (d : Dk) (w : World) (h : (RefT g d F).P w) :
    Calls Try.prog 41 #[.pointer (some ⟨g, 0, none⟩)] w fun e w' => e = .returned (.tuple #[]) ∧ Hid (Turns w F (RefT g d.fail) w') := by
  have h' : RdIn w g F d := h
  obtain ⟨lv, cv, us, r⟩ := h'.rep
  have c2 := r.blk.cell (j := 2) rfl
  have f2 := r.blk.free 2
  have c1 := r.blk.cell (j := 1) rfl
  have f1 := r.blk.free 1
  have C : Hid (Chg [g] w ((w.setCell ⟨g, 2, none⟩ (.bool true)).setCell ⟨g, 1, none⟩ (.slice none 0 0))) := ((Chg.refl _ _).setCell (.inl (by simp)) _).setCell (.inl (by simp)) _
  have T : Hid (Turns w F (RefT g d.fail) ((w.setCell ⟨g, 2, none⟩ (.bool true)).setCell ⟨g, 1, none⟩ (.slice none 0 0))) := by
    refine ⟨F, ⟨h'.fit.fail, fun k hk => Nat.lt_of_lt_of_le (h'.lt k hk) C.out.size, h'.mem, lv, .slice none 0 0, [], (r.blk.set 2 _).set 1 _, owns_chg2 r.las C.out (fun k hk hm => (r.lof k hk).2.1 (by simpa using hm)), World.ownsRow_nil _ _ _ _, rfl, fun i u p hu => by simp at hu, fun k hk => ⟨(r.lof k hk).1, (r.lof k hk).2.1, by simp [Value.ownBlock]⟩, fun k hk => by simp [Value.ownBlock] at hk⟩, fun k hk => .inl hk, C.out.mono (fun k hk => by rw [List.mem_singleton.1 hk]; exact h'.mem)⟩
  clear C h h' r
  go_enter Try.func41, Try.ntmps41
  go_wp2_with fail
  go_end0
  exact ⟨rfl, T⟩

/-- A write of the cache, as it lies. -/
theorem Rep.at {w : World} {g : Nat} {F : List Nat} {d : Dk} {lv cv : Value} {us : List Value} (r : Rep w g F d lv cv us) {i : Nat} (hi : i < d.cache.length) : ∃ (p : Nat × List Nat) (cb cc : Nat) (uo : Option Addr) (uc : Nat), d.cache[i]? = some p ∧ cv = .slice (some ⟨cb, 0, none⟩) d.cache.length cc ∧ w.cell? ⟨cb, i * 2, none⟩ = some (.int .i64 (p.1 : Int)) ∧ w.cell? ⟨cb, i * 2 + 1, none⟩ = some (.slice uo p.2.length uc) ∧ Sl w (.slice uo p.2.length uc) (ints p.2) := by
  have hp : d.cache[i]? = some d.cache[i] := List.getElem?_eq_getElem hi
  have hui : i < us.length := by rw [r.ulen]; exact hi
  have hu : us[i]? = some us[i] := List.getElem?_eq_getElem hui
  obtain ⟨q1, q2⟩ := cellsOf_get d.cache us i _ _ hp hu
  have ho := (r.dat i _ _ hu hp).1
  obtain ⟨uo, uc, e⟩ := owns_slice ho
  rw [e] at q2 ho
  rcases r.cac.2 with ⟨_, h0⟩ | ⟨cb, cap, cur, hv, _⟩
  · omega
  · have k1 := r.cac.cells (g := cb) (by rw [hv]; rfl) _ _ q1
    have k2 := r.cac.cells (g := cb) (by rw [hv]; rfl) _ _ q2
    rw [Addr.add_lit, Nat.zero_add] at k1 k2
    exact ⟨_, cb, cap, uo, uc, hp, hv, k1, k2, own_sl ho⟩

end Go.Proofs.Ytjkjkennplfgaaa
