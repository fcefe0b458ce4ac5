/-
  The program's ring: Live: a loop over its spans that collects them. By an AI agent.
-/
import Derived.Test.YtkkjhlihionlkaaRgOps
import Derived.Test.YtkkjhlihionlkaaGOwnMem
import Derived.Deep.RegionHeld3
namespace Go.Proofs.Ytkkjhlihionlkaa
open Go.RowKit Go.Shelf

attribute [local go_sem] Oper.semAt_some

/-- Spans, as cells. -/
def scells (l : List (Nat × Nat)) : List Value := l.flatMap fun p => [.int .i64 (p.1 : Int), .int .i64 (p.2 : Int)]

theorem scells_snoc (l : List (Nat × Nat)) (x : Nat × Nat) : scells (l ++ [x]) = scells l ++ [.int .i64 (x.1 : Int), .int .i64 (x.2 : Int)] := by simp [scells]

theorem scells_len (l : List (Nat × Nat)) : (scells l).length = l.length * 2 := by
  induction l with
  | nil => rfl
  | cons a l ih => simp [scells] at ih ⊢; omega

/-- A list of spans, in memory of its own. -/
def SpRow (w : World) (base : Nat) (v : Value) (l : List (Nat × Nat)) : Prop := w.ownsRow base 61 2 v l.length (scells l)

theorem info_span : (Try.prog.info? 61).map (fun i => (i.zero, i.size, i.bytes)) = some (some (.agg #[.int .i64 0, .int .i64 0]), 2, 16) := by kernel_rfl

theorem pair_new (w : World) (x y : Value) (t : TypeId) : ∀ j u, [x, y][j]? = some u → (w.alloc (.cells #[x, y] t)).cell? ((⟨w.heap.size, 0, none⟩ : Addr).add j) = some u := by
  intro j u hj
  have := (Blk.made w [x, y] t).cell hj
  rw [Addr.add_lit]
  simpa using this

/-- What holds between two rounds: the box holds a list of its own of what has come. -/
def Heap2 (w : World) (B n₀ : Nat) (t e : TypeId) (pre : List (Nat × Nat)) (W : World) : Prop :=
  (∃ v, Boxed W B t v ∧ W.ownsRow n₀ e 2 v pre.length (scells pre)) ∧ Chg [] w W

theorem heap2_own (w : World) (B n₀ : Nat) (t e : TypeId) (b : Nat) (hb : w.heap.size ≤ b) : OwnFrom b (Heap2 w B n₀ t e) := by
  rintro s X Y row ⟨⟨v, hv, hr⟩, hc⟩ hg hrow
  have h1 := holdsRow_own n₀ B t e 2 (fun s : List (Nat × Nat) => s.length) scells (fun _ _ => True) s X Y row ⟨v, hv, hr, trivial⟩ hg (fun r q => (hrow r q).2)
  obtain ⟨v', q1, q2, _⟩ := h1
  exact ⟨⟨v', q1, q2⟩, hc.grown hg (fun k q => .inr (Nat.le_trans hb (hrow k q).1))⟩

theorem boxes3_cells (w : World) (R : Nat) (f n : Int) : (boxes3 w R f n).cell? ⟨w.heap.size, 0, none⟩ = some (.pointer (some ⟨R, 0, none⟩)) ∧ (boxes3 w R f n).cell? ⟨w.heap.size + 1, 0, none⟩ = some (.int .i64 f) ∧ (boxes3 w R f n).cell? ⟨w.heap.size + 2, 0, none⟩ = some (.int .i64 n) := by
  have h1 := ((Blk.made w [.pointer (some ⟨R, 0, none⟩)] 23).alloc (.cells #[.int .i64 f] 3)).alloc (.cells #[.int .i64 n] 3)
  have h2 := (Blk.made (w.alloc (.cells #[.pointer (some ⟨R, 0, none⟩)] 23)) [.int .i64 f] 3).alloc (.cells #[.int .i64 n] 3)
  have h3 := Blk.made ((w.alloc (.cells #[.pointer (some ⟨R, 0, none⟩)] 23)).alloc (.cells #[.int .i64 f] 3)) [.int .i64 n] 3
  rw [World.size_alloc] at h2 h3
  rw [World.size_alloc] at h3
  exact ⟨h1.cell (j := 0) rfl, h2.cell (j := 0) rfl, h3.cell (j := 0) rfl⟩

theorem blk_kept {X Y : World} {g : Nat} {e : TypeId} {vs : List Value} {row : Option Nat} (h : Blk X g e vs) (hg : X.grownBy Y row) (hr : ∀ r, row = some r → ∃ o : Obj, X.heap[r]? = some o ∧ o.isCells = false) : Blk Y g e vs := by
  refine (hg.block g h.lt fun q => ?_).trans h
  obtain ⟨o, ho, hc⟩ := hr g q.symm
  rw [show X.heap[g]? = _ from h] at ho
  cases ho
  cases hc

theorem heap2_alloc {w W : World} {B n₀ : Nat} {t e : TypeId} {pre : List (Nat × Nat)} (h : Heap2 w B n₀ t e pre W) (o : Obj) : Heap2 w B n₀ t e pre (W.alloc o) := by
  obtain ⟨⟨v, hv, hr⟩, hc⟩ := h
  exact ⟨⟨v, hv.alloc o, hr.alloc o⟩, hc.alloc o⟩

theorem chg_lift {w W W' : World} (h : Chg [] w W) (b : Below w.heap.size W W') : Chg [] w W' :=
  ⟨b.os.trans h.os, b.tape.trans h.tape, b.output.trans h.output, Nat.le_trans h.size b.size, fun k hk hs => (b.block k hk).trans (h.block k hk hs)⟩

theorem boxed_drew {W : World} {B : Nat} {t : TypeId} {v : Value} (h : Boxed W B t v) : Boxed W.drew B t v := h

set_option maxRecDepth 100000 in
set_option maxHeartbeats 4000000 in
theorem live_any {S t u R : Nat} (h : Rg S t u) (w : World) (hb : RingB w R S t u) : Calls Try.prog 17 #[.pointer (some ⟨R, 0, none⟩)] w fun e w' =>
    ∃ v, e = .returned v ∧ Hid (SpRow w' w.heap.size v (spn S t u)) ∧ Hid (Chg [] w w') := by
  obtain ⟨i0, hi, hz0, hz1, hz2⟩ := info_parts info_span
  have hmx : Try.prog.follows .mixedOrders = true := by kernel_rfl
  have HR := Lib.hid h
  have RB : Hid (∀ w', Chg [] w w' → RingB w' R S t u) := fun w' c => hb.chg c (by simp)
  have c1 := (hb.alloc (.cells #[.slice none 0 0] 56)).cell (j := 1) rfl
  have c2 := (hb.alloc (.cells #[.slice none 0 0] 56)).cell (j := 2) rfl
  have K1 : Hid (∀ w', Chg [] w w' → w'.cell? ⟨R, 1, none⟩ = some (.int .i64 (t : Int)) ∧ w'.cell? ⟨R, 2, none⟩ = some (.int .i64 (u : Int))) := fun w' c => ⟨(RB.out w' c).cell (j := 1) rfl, (RB.out w' c).cell (j := 2) rfl⟩
  have hRl := hb.lt
  clear h hb
  refine (callsIn_wide (n := 9)).1 ?_
  refine callsIn_of_wp_marks Try.func17 rfl trivial ?_ rfl
  simp only [Try.ntmps17, List.size_toArray, List.length_cons, List.length_nil, Nat.reduceAdd, Nat.reduceSub, Array.replicate_succ, Array.replicate_zero, List.push_toArray, List.append_toArray, List.nil_append, List.cons_append]
  gi_wp2
  refine wpIn_wide.2 ?_
  go_region_held3 (fun w' : World => w'.cell? ⟨R, 1, none⟩ = some (.int .i64 (t : Int)) ∧ w'.cell? ⟨R, 2, none⟩ = some (.int .i64 (u : Int))) (first | exact ⟨c1, c2⟩ | exact K1.out _ ((((((Chg.refl _ _).alloc _).drew).alloc _).alloc _).alloc _)) (first
    | (go_at_call 45; refine (spans_any R _ _ _).mono ?_; rintro e w' ⟨rfl, rfl⟩))
  gi_wp2
  clear c1 c2 K1
  have bO := ((((boxed_drew (Boxed.new w 56 (.slice none 0 0))).alloc (.cells #[.pointer (some ⟨R, 0, none⟩)] 23)).alloc (.cells #[.int .i64 (t : Int)] 3)).alloc (.cells #[.int .i64 (u : Int)] 3))
  have C0 : Chg [] w (boxes3 (w.alloc (.cells #[.slice none 0 0] 56)).drew R (t : Int) (u : Int)) := ((((((Chg.refl _ _).alloc _).drew).alloc _).alloc _).alloc _)
  have b3 := boxes3_cells (w.alloc (.cells #[.slice none 0 0] 56)).drew R (t : Int) (u : Int)
  have hsz : (boxes3 (w.alloc (.cells #[.slice none 0 0] 56)).drew R (t : Int) (u : Int)).heap.size = w.heap.size + 4 := by simp [boxes3]
  rw [show (w.alloc (.cells #[.slice none 0 0] 56)).drew.heap.size = w.heap.size + 1 by simp] at b3
  have hbx : Boxed (boxes3 (w.alloc (.cells #[.slice none 0 0] 56)).drew R (t : Int) (u : Int)) w.heap.size 56 (.slice none 0 0) := bO
  clear bO
  obtain ⟨W0, hW0⟩ : ∃ W0, boxes3 (w.alloc (.cells #[.slice none 0 0] 56)).drew R (t : Int) (u : Int) = W0 := ⟨_, rfl⟩
  rw [hW0] at C0 b3 hsz hbx ⊢
  clear hW0
  obtain ⟨q1, q2, q3⟩ := b3
  refine wpIn_rangeFunc_ownH rfl (by decide) (gf := 49) (lb := #[.pointer (some ⟨w.heap.size + 1 + 2, 0, none⟩), .pointer (some ⟨w.heap.size + 1, 0, none⟩), .pointer (some ⟨w.heap.size + 1 + 1, 0, none⟩)]) rfl trivial (enters_of Try.func49 (by kernel_rfl) rfl)
    (iter_stops S t u _ _ _ R HR.out.tail HR.out.used HR.out.hi 8 W0 q3 q1 ((RB.out _ C0).cell (j := 0) rfl) q2 (by omega) (by omega) (RB.out _ C0).lt (by omega)) (fun _ _ => trivial) (fun _ _ _ _ _ _ _ _ => trivial) (Below.refl _ _) (fun _ => rfl)
    (Heap2 w w.heap.size w.heap.size 56 61)
    (fun _ _ _ => False)
    (heap2_own _ _ _ _ _ _ (by omega))
    (fun _ _ _ _ _ hs _ _ => hs)
    ⟨⟨_, hbx, World.ownsRow_nil _ _ _ _⟩, C0⟩
    (fun x a' W => ∃ Bx, w.heap.size < Bx ∧ Blk W Bx 61 [.int .i64 (x.1 : Int), .int .i64 (x.2 : Int)] ∧ a' = { tmps := #[.pointer (some ⟨R, 0, none⟩), undef, .slice none 0 0, .pointer (some ⟨w.heap.size, 0, none⟩), .pointer (some ⟨Bx, 0, none⟩), .pointer (some ⟨R, 0, none⟩), .pointer (some ⟨R, 0, none⟩), .pointer (some ⟨R, 0, none⟩), .pointer (some ⟨R, 1, none⟩), .int .i64 (t : Int), .pointer (some ⟨R, 0, none⟩), .pointer (some ⟨R, 0, none⟩), .pointer (some ⟨R, 2, none⟩), .int .i64 (u : Int), .func (.func 49) #[] #[.pointer (some ⟨w.heap.size + 1 + 2, 0, none⟩), .pointer (some ⟨w.heap.size + 1, 0, none⟩), .pointer (some ⟨w.heap.size + 1 + 1, 0, none⟩)], .agg #[.int .i64 (x.1 : Int), .int .i64 (x.2 : Int)], undef, undef, undef, undef, undef], defers := [] })
    (fun x a' _ X Y row hs hg hr => by obtain ⟨Bx, p1, p2, p3⟩ := hs; exact ⟨Bx, p1, blk_kept p2 hg (fun r q => (hr r q).2), p3⟩)
    ?assign ?body ?done ?stop
  case assign =>
    rintro l pre x W K hI hK
    have hI' := Lib.hid hI
    obtain ⟨⟨v, hv, hr⟩, hc⟩ := hI
    gi_wp2
    exact hK _ _ ((KeepsOthers.alloc _ _).from _) trivial (heap2_alloc hI'.out _) ⟨W.heap.size, hv.lt, Blk.made W [.int .i64 (x.1 : Int), .int .i64 (x.2 : Int)] _, rfl⟩
  case body =>
    rintro l pre x a' W hl _ ⟨⟨v, hv, hr⟩, hc⟩ ⟨Bx, hBx, bX, rfl⟩ hlen
    have k0 := bX.cell (j := 0) rfl
    have k1 := bX.cell (j := 1) rfl
    have kv := hv.cell
    have hsW := hc.size
    gi_wp2_with (gi_at_builtin; refine wpListIn_append_own _ rfl _ _ 56 rfl w.heap.size 61 i0 (.agg #[.int .i64 0, .int .i64 0]) 2 16 Try.underlying56 hi hz0 hz1 hz2 rfl (by decide) _ _ _ rfl (hr.alloc _) ⟨W.heap.size, 0, none⟩ 1 1 [.int .i64 (x.1 : Int), .int .i64 (x.2 : Int)] rfl rfl (pair_new _ _ _ _) (by simp [Value.oneCell']) (by unfold maxLen; omega) (by omega) (by simp; omega) ?_; intro v' w1 hown' hgrow _; obtain ⟨g', cap', rfl⟩ := ownsRow_succ hown'; obtain ⟨hv1, hv2, hr2, hk2, hb2⟩ := hv.appended (by decide) hr hsW (Nat.le_refl _) hown' hgrow; have hc1 := hv1.cell; have hf1 := hv1.frozen)
    exact ⟨hk2.from _, trivial, ⟨_, hv2, by rw [scells_snoc]; simpa using hr2⟩, chg_lift hc hb2⟩
  case done =>
    rintro D ys W hD rfl ⟨⟨v, hv, hr⟩, hc⟩ hK
    have kv := hv.cell
    gi_wp2
    refine ⟨by simp, .inl ⟨_, _, rfl, run_takeDeferred hK, ?_⟩⟩
    exact ⟨_, results_tmp rfl _ _ _, v, rfl, ownsRow_putObj hr _ hK rfl, hc.grown (grownBy_putObj' W D (.deferred none)) (fun k q => by cases q; exact .inr (by omega))⟩
  case stop =>
    rintro D c pre W _ _ q _
    exact q.elim

end Go.Proofs.Ytkkjhlihionlkaa
