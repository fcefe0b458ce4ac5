/-
  The program's ring: Live: a loop over its spans that collects them. By an AI agent.
-/
import Derived.Test.YtkafkdlgflkjgaaGreatBRgIter
import Derived.Test.YtkafkdlgflkjgaaGreatBGOwnMem
import Derived.Deep.RegionHeld3
namespace Go.Proofs.YtkafkdlgflkjgaaGreat
open Go.RowKit Go.Shelf

attribute [local go_sem] Oper.semAt_some

/-- Spans, as cells. -/
def scells (l : List (Nat × Nat)) : List Value := l.flatMap fun p => [.int .i64 (p.1 : Int), .int .i64 (p.2 : Int)]

theorem scells_snoc (l : List (Nat × Nat)) (x : Nat × Nat) : scells (l ++ [x]) = scells l ++ [.int .i64 (x.1 : Int), .int .i64 (x.2 : Int)] := by simp [scells]

/-- A list of spans, in memory of its own. -/
def SpRow (w : World) (base : Nat) (v : Value) (l : List (Nat × Nat)) : Prop := w.ownsRow base 230 2 v l.length (scells l)

theorem info_span : (Tryz.prog.info? 230).map (fun i => (i.zero, i.size, i.bytes)) = some (some (.agg #[.int .i64 0, .int .i64 0]), 2, 16) := by kernel_rfl

theorem pair_new (w : World) (x y : Value) (t : TypeId) : ∀ j u, [x, y][j]? = some u → (w.alloc (.cells #[x, y] t)).cell? ((⟨w.heap.size, 0, none⟩ : Addr).add j) = some u := by
 intro j u hj
 have := (Blk.made w [x, y] t).cell hj
 rw [Addr.add_lit]
 simpa using this

/-- What holds between two rounds: the box holds a list of its own of what has come. -/
def Heap2 (w : World) (B n₀ : Nat) (t e : TypeId) (pre : List (Nat × Nat)) (W : World) : Prop :=
 (∃ v, Boxed W B t v ∧ W.ownsRow n₀ e 2 v pre.length (scells pre)) ∧ Chg [] w W

theorem heap2_own (w : World) (B n₀ : Nat) (t e : TypeId) (b : Nat) (hb : w.heap.size ≤ b) : OwnFrom b (Heap2 w B n₀ t e) := by
 rintro s X Y row ⟨⟨v, hv, hr⟩, hc⟩ hg hrow
 have h1 := holdsRow_own n₀ B t e 2 (fun s : List (Nat × Nat) => s.length) scells (fun _ _ => True) s X Y row ⟨v, hv, hr, trivial⟩ hg (fun r q => (hrow r q).2)
 obtain ⟨v', q1, q2, _⟩ := h1
 exact ⟨⟨v', q1, q2⟩, hc.grown hg (fun k q => .inr (Nat.le_trans hb (hrow k q).1))⟩

theorem boxes3_cells (w : World) (R : Nat) (f n : Int) : (boxes3 w R f n).cell? ⟨w.heap.size, 0, none⟩ = some (.pointer (some ⟨R, 0, none⟩)) ∧ (boxes3 w R f n).cell? ⟨w.heap.size + 1, 0, none⟩ = some (.int .i64 f) ∧ (boxes3 w R f n).cell? ⟨w.heap.size + 2, 0, none⟩ = some (.int .i64 n) := by
 have h1 := ((Blk.made w [.pointer (some ⟨R, 0, none⟩)] 179).alloc (.cells #[.int .i64 f] 3)).alloc (.cells #[.int .i64 n] 3)
 have h2 := (Blk.made (w.alloc (.cells #[.pointer (some ⟨R, 0, none⟩)] 179)) [.int .i64 f] 3).alloc (.cells #[.int .i64 n] 3)
 have h3 := Blk.made ((w.alloc (.cells #[.pointer (some ⟨R, 0, none⟩)] 179)).alloc (.cells #[.int .i64 f] 3)) [.int .i64 n] 3
 rw [World.size_alloc] at h2 h3
 rw [World.size_alloc] at h3
 exact ⟨h1.cell (j := 0) rfl, h2.cell (j := 0) rfl, h3.cell (j := 0) rfl⟩

theorem blk_kept {X Y : World} {g : Nat} {e : TypeId} {vs : List Value} {row : Option Nat} (h : Blk X g e vs) (hg : X.grownBy Y row) (hr : ∀ r, row = some r → ∃ o : Obj, X.heap[r]? = some o ∧ o.isCells = false) : Blk Y g e vs := by
 refine (hg.block g h.lt fun q => ?_).trans h
 obtain ⟨o, ho, hc⟩ := hr g q.symm
 rw [show X.heap[g]? = _ from h] at ho
 cases ho
 cases hc

theorem heap2_alloc {w W : World} {B n₀ : Nat} {t e : TypeId} {pre : List (Nat × Nat)} (h : Heap2 w B n₀ t e pre W) (o : Obj) : Heap2 w B n₀ t e pre (W.alloc o) := by
 obtain ⟨⟨v, hv, hr⟩, hc⟩ := h
 exact ⟨⟨v, hv.alloc o, hr.alloc o⟩, hc.alloc o⟩

theorem chg_lift {w W W' : World} (h : Chg [] w W) (b : Below w.heap.size W W') : Chg [] w W' :=
 ⟨b.os.trans h.os, b.tape.trans h.tape, b.output.trans h.output, Nat.le_trans h.size b.size, fun k hk hs => (b.block k hk).trans (h.block k hk hs)⟩

end Go.Proofs.YtkafkdlgflkjgaaGreat

/-
  The program's ring: Take. By an AI agent.
-/
namespace Go.Proofs.YtkafkdlgflkjgaaGreat
open Go.RowKit Go.Shelf

attribute [local go_sem] Oper.semAt_some

theorem boxed_set {W : World} {B : Nat} {t : TypeId} {v : Value} (h : Boxed W B t v) {R : Nat} (hne : R ≠ B) (j : Nat) (u : Value) : Boxed (W.setCell ⟨R, j, none⟩ u) B t v := by
 unfold Boxed at h ⊢
 simp only [World.setCell, Array.getElem?_modify]
 rw [if_neg hne]
 exact h

theorem chg_one (W : World) (R j : Nat) (u : Value) : Chg [R] W (W.setCell ⟨R, j, none⟩ u) := (Chg.refl _ W).setCell (.inl (by simp)) u

theorem rgheap_setCell_of {W : World} {D : Nat} {o : Obj} (h : W.heap[D]? = some o) (ho : o.isCells = false) (a : Addr) (u : Value) : (W.setCell a u).heap[D]? = some o := (KeepsOthers.setCell W a u).same D _ h ho

theorem Rg.more {S t u n : Nat} (h : Rg S t u) (hn : n ≤ S - u) : Rg S t (u + n) := ⟨h.lo, h.hi, h.tail, by have := h.used; omega⟩

set_option maxRecDepth 100000 in
set_option maxHeartbeats 4000000 in
theorem take_ok {S t u R : Nat} (h : Rg S t u) (w : World) (hb : RingB w R S t u) (n : Nat) (hn : n ≤ S - u) : Calls Tryz.prog 111 #[.pointer (some ⟨R, 0, none⟩), .int .i64 (n : Int)] w fun e w' =>
 ∃ v, e = .returned (.tuple #[v, .int .u16 0]) ∧ Hid (SpRow w' w.heap.size v (spn S ((t + u) % S) n)) ∧ Hid (RingB w' R S t (u + n)) ∧ Hid (Chg [R] w w') := by
 obtain ⟨i0, hi, hz0, hz1, hz2⟩ := info_parts info_span
 have hmx : Tryz.prog.follows .mixedOrders = true := by kernel_rfl
 have HR := Lib.hid h
 have RB : Hid (∀ w', Chg [] w w' → RingB w' R S t u) := fun w' c => hb.chg c (by simp)
 have hRl := hb.lt
 have F := Lib.hid (free_any h w hb)
 have D : Hid (∀ w', Chg [] w w' → Calls Tryz.prog 168 #[.pointer (some ⟨R, 0, none⟩)] w' (Says w' (.int .i64 (((t + u) % S : Nat) : Int)))) := fun w' c => head_any HR.out w' (RB.out w' c)
 have hSl := h.hi
 have hul := h.used
 have hfl := h.head_lt u
 obtain ⟨f, hf⟩ : ∃ f, f = (t + u) % S := ⟨_, rfl⟩
 rw [← hf] at D hfl ⊢
 have h0 : ¬ (n : Int) < 0 := by omega
 have e1 : (u : Int) + (n : Int) = ((u + n : Nat) : Int) := by omega
 obtain ⟨m, hm⟩ : ∃ m, m = u + n := ⟨_, rfl⟩
 rw [← hm] at e1 ⊢
 have WR := Lib.hid (wrap_in (z := (m : Int)) (by omega) (by omega))
 have HN := Lib.hid hn
 have HM := Lib.hid hm
 have HF := Lib.hid hf
 obtain ⟨a, ha⟩ : ∃ a, a = S - u := ⟨_, rfl⟩
 rw [← ha] at F
 have h00 : ¬ a < n := by omega
 clear h hb hm hf hn hSl hul ha hfl
 refine (callsIn_wide (n := 9)).1 ?_
 refine callsIn_of_wp_marks Tryz.func111 rfl trivial ?_ rfl
 simp only [Tryz.ntmps111, List.size_toArray, List.length_cons, List.length_nil, Nat.reduceAdd, Nat.reduceSub, Array.replicate_succ, Array.replicate_zero, List.push_toArray, List.append_toArray, List.nil_append, List.cons_append]
 gi_wp2_with (first
  | (refine ⟨trivial, ?_⟩; gi_at_call 105; refine (callsIn_wide.2 F.out).mono ?_; rintro e w1 ⟨rfl, C1⟩)
  | (refine ⟨trivial, ?_⟩; gi_at_call 168; refine (callsIn_wide.2 (D.out _ (C1.out.alloc _))).mono ?_; rintro e w2 ⟨rfl, C2⟩)
  | (refine ⟨trivial, ?_⟩; gi_at_call 167; refine (callsIn_wide.2 (spans_any R _ _ _)).mono ?_; rintro e w' ⟨rfl, rfl⟩))
 clear h0 h00 e1 D F
 have bO : Boxed (w1.alloc (.cells #[.slice none 0 0] 185)) w1.heap.size 185 (.slice none 0 0) := Boxed.new _ _ _
 have bP : Boxed w2 w1.heap.size 185 (.slice none 0 0) := (C2.out.block _ bO.lt (by simp)).trans bO
 have hbx : Boxed (boxes3 w2 R (f : Int) (n : Int)) w1.heap.size 185 (.slice none 0 0) := ((bP.alloc (.cells #[.pointer (some ⟨R, 0, none⟩)] 179)).alloc (.cells #[.int .i64 (f : Int)] 3)).alloc (.cells #[.int .i64 (n : Int)] 3)
 have C0 : Chg [] w (boxes3 w2 R (f : Int) (n : Int)) := ((((C1.out.alloc _).trans C2.out).alloc _).alloc _).alloc _
 have b3 := boxes3_cells w2 R (f : Int) (n : Int)
 have hsz : (boxes3 w2 R (f : Int) (n : Int)).heap.size = w2.heap.size + 3 := by simp [boxes3]
 have hs1 := C1.out.size
 have hs2 : w1.heap.size < w2.heap.size := bP.lt
 clear bO bP C1 C2
 obtain ⟨W0, hW0⟩ : ∃ W0, boxes3 w2 R (f : Int) (n : Int) = W0 := ⟨_, rfl⟩
 rw [hW0] at C0 b3 hsz hbx ⊢
 clear hW0
 obtain ⟨q1, q2, q3⟩ := b3
 generalize w1.heap.size = B at *
 generalize w2.heap.size = N at *
 clear w1 w2
 refine wpIn_rangeFunc_ownH rfl (by decide) (gf := 226) (lb := #[.pointer (some ⟨N + 2, 0, none⟩), .pointer (some ⟨N, 0, none⟩), .pointer (some ⟨N + 1, 0, none⟩)]) rfl trivial (enters_of Tryz.func226 (by kernel_rfl) rfl)
  (iter_stops S f n _ _ _ R (by rw [HF.out]; exact HR.out.head_lt u) (by have := HN.out; omega) HR.out.hi 8 W0 q3 q1 ((RB.out _ C0).cell (j := 0) rfl) q2 (by omega) (by omega) (RB.out _ C0).lt (by omega)) (fun _ _ => trivial) (fun _ _ _ _ _ _ _ _ => trivial) (Below.refl _ _) (fun _ => rfl)
  (Heap2 w B w.heap.size 185 230)
  (fun _ _ _ => False)
  (heap2_own _ _ _ _ _ _ (by omega))
  (fun _ _ _ _ _ hs _ _ => hs)
  ⟨⟨_, hbx, World.ownsRow_nil _ _ _ _⟩, C0⟩
  (fun x a' W => ∃ Bx, B < Bx ∧ Blk W Bx 230 [.int .i64 (x.1 : Int), .int .i64 (x.2 : Int)] ∧ a' = { tmps := #[.pointer (some ⟨R, 0, none⟩), .int .i64 (n : Int), undef, undef, .slice none 0 0, .int .u16 0, .pointer (some ⟨B, 0, none⟩), .pointer (some ⟨Bx, 0, none⟩), .int .i64 (n : Int), .bool false, .int .i64 (n : Int), .pointer (some ⟨R, 0, none⟩), .int .i64 (a : Int), .bool false, .pointer (some ⟨R, 0, none⟩), .pointer (some ⟨R, 0, none⟩), .int .i64 (f : Int), .int .i64 (n : Int), .func (.func 226) #[] #[.pointer (some ⟨N + 2, 0, none⟩), .pointer (some ⟨N, 0, none⟩), .pointer (some ⟨N + 1, 0, none⟩)], .agg #[.int .i64 (x.1 : Int), .int .i64 (x.2 : Int)], undef, undef, undef, undef, undef, undef, undef, undef, undef, undef, undef, undef, undef], defers := [] })
  (fun x a' _ X Y row hs hg hr => by obtain ⟨Bx, p1, p2, p3⟩ := hs; exact ⟨Bx, p1, blk_kept p2 hg (fun r q => (hr r q).2), p3⟩)
  ?assign ?body ?done ?stop
 case assign =>
  rintro l pre x W K hI hK
  have hI' := Lib.hid hI
  obtain ⟨⟨v, hv, hr⟩, hc⟩ := hI
  gi_wp2
  exact hK _ _ ((KeepsOthers.alloc _ _).from _) trivial (heap2_alloc hI'.out _) ⟨W.heap.size, hv.lt, Blk.made W [.int .i64 (x.1 : Int), .int .i64 (x.2 : Int)] _, rfl⟩
 case body =>
  rintro l pre x a' W hl _ ⟨⟨v, hv, hr⟩, hc⟩ ⟨Bx, hBx, bX, rfl⟩ hlen
  have k0 := bX.cell (j := 0) rfl
  have k1 := bX.cell (j := 1) rfl
  have kv := hv.cell
  have hsW := hc.size
  gi_wp2_with (gi_at_builtin; refine wpListIn_append_own _ rfl _ _ 185 rfl w.heap.size 230 i0 (.agg #[.int .i64 0, .int .i64 0]) 2 16 Tryz.underlying185 hi hz0 hz1 hz2 rfl (by decide) _ _ _ rfl (hr.alloc _) ⟨W.heap.size, 0, none⟩ 1 1 [.int .i64 (x.1 : Int), .int .i64 (x.2 : Int)] rfl rfl (pair_new _ _ _ _) (by simp [Value.oneCell']) (by unfold maxLen; omega) (by omega) (by simp; omega) ?_; intro v' w1 hown' hgrow _; obtain ⟨g', cap', rfl⟩ := ownsRow_succ hown'; obtain ⟨hv1, hv2, hr2, hk2, hb2⟩ := hv.appended (by decide) hr hsW hs1 hown' hgrow; have hc1 := hv1.cell; have hf1 := hv1.frozen)
  exact ⟨hk2.from _, trivial, ⟨_, hv2, by rw [scells_snoc]; simpa using hr2⟩, chg_lift hc hb2⟩
 case done =>
  rintro D ys W hD rfl ⟨⟨v, hv, hr⟩, hc⟩ hK
  have kv := hv.cell
  have rb := RB.out _ hc
  have k2 := rb.cell (j := 2) rfl
  have kf := rb.free 2
  have e1 : (u : Int) + (n : Int) = (m : Int) := by have := HM.out; omega
  have hRB : R ≠ B := by omega
  have hv2 : Boxed (W.setCell ⟨R, 2, none⟩ (.int .i64 (m : Int))) B 185 v := boxed_set hv hRB _ _
  have kv2 := hv2.cell
  obtain ⟨wr1, wr2⟩ := WR.out
  have rb2 : Hid (RingB (W.setCell ⟨R, 2, none⟩ (.int .i64 (m : Int))) R S t m) := rb.set 2 _
  have hr2 : Hid ((W.setCell ⟨R, 2, none⟩ (.int .i64 (m : Int))).ownsRow w.heap.size 230 2 v (spn S f n).length (scells (spn S f n))) := owns_chg hr (chg_one W R 2 _) (fun k hk hm => by have := (hr.lt k hk).1; simp at hm; omega)
  have c2 : Hid (Chg [R] w (W.setCell ⟨R, 2, none⟩ (.int .i64 (m : Int)))) := (hc.mono (by simp)).setCell (.inl (by simp)) _
  clear hRB
  gi_wp2
  have hK2 := rgheap_setCell_of hK rfl ⟨R, 2, none⟩ (.int .i64 (m : Int))
  refine ⟨by simp, .inl ⟨_, _, rfl, run_takeDeferred hK2, ?_⟩⟩
  exact ⟨_, results_tmp2 rfl _ _ _, v, rfl, ownsRow_putObj hr2.out _ hK2 rfl, blk_kept rb2.out (grownBy_putObj' _ D _) (fun r q => by cases q; exact ⟨_, hK2, rfl⟩), c2.out.grown (grownBy_putObj' _ D _) (fun k q => by cases q; exact .inr (by omega))⟩
 case stop =>
  rintro D c pre W _ _ q _
  exact q.elim

end Go.Proofs.YtkafkdlgflkjgaaGreat

/-
  The program's ring: Give. By an AI agent.
-/
namespace Go.Proofs.YtkafkdlgflkjgaaGreat
open Go.RowKit Go.Shelf

attribute [local go_sem] Oper.semAt_some

theorem Rg.less {S t u n : Nat} (h : Rg S t u) : Rg S ((t + n) % S) (u - n) := ⟨h.lo, h.hi, h.head_lt n, by have := h.used; omega⟩

set_option maxRecDepth 100000 in
set_option maxHeartbeats 4000000 in
theorem give_ok {S t u R : Nat} (h : Rg S t u) (w : World) (hb : RingB w R S t u) (n : Nat) (hn : n ≤ u) : Calls Tryz.prog 170 #[.pointer (some ⟨R, 0, none⟩), .int .i64 (n : Int)] w fun e w' =>
 ∃ v, e = .returned (.tuple #[v, .int .u16 0]) ∧ Hid (SpRow w' w.heap.size v (spn S t n)) ∧ Hid (RingB w' R S ((t + n) % S) (u - n)) ∧ Hid (Chg [R] w w') := by
 obtain ⟨i0, hi, hz0, hz1, hz2⟩ := info_parts info_span
 have hmx : Tryz.prog.follows .mixedOrders = true := by kernel_rfl
 have HR := Lib.hid h
 have RB : Hid (∀ w', Chg [] w w' → RingB w' R S t u) := fun w' c => hb.chg c (by simp)
 have hRl := hb.lt
 have hul := h.used
 have hSl := h.hi
 have ht := h.tail
 have PL : Hid (∀ w', Chg [] w w' → Calls Tryz.prog 224 #[.pointer (some ⟨R, 0, none⟩), .int .i64 (n : Int)] w' (Says w' (.int .i64 (((t + n) % S : Nat) : Int)))) := fun w' c => place_any HR.out w' (RB.out w' c) n (by omega)
 have c1 := hb.cell (j := 1) rfl
 have c2 := hb.cell (j := 2) rfl
 have CA : Hid (∀ o, (w.alloc o).cell? ⟨R, 1, none⟩ = some (.int .i64 (t : Int))) := fun o => (hb.alloc o).cell (j := 1) rfl
 have cb := CA.out (.cells #[.slice none 0 0] 185)
 obtain ⟨T, hT⟩ : ∃ T, T = (t + n) % S := ⟨_, rfl⟩
 rw [← hT] at PL ⊢
 have h0 : ¬ (n : Int) < 0 := by omega
 have h00 : ¬ u < n := by omega
 have e1 : (u : Int) - (n : Int) = ((u - n : Nat) : Int) := by omega
 obtain ⟨m, hm⟩ : ∃ m, m = u - n := ⟨_, rfl⟩
 rw [← hm] at e1 ⊢
 have WR := Lib.hid (wrap_in (z := (m : Int)) (by omega) (by omega))
 have HN : Hid (n ≤ S) := by show n ≤ S; omega
 have HM := Lib.hid e1
 clear h hb hm hn hSl hul hT ht CA e1
 refine (callsIn_wide (n := 9)).1 ?_
 refine callsIn_of_wp_marks Tryz.func170 rfl trivial ?_ rfl
 simp only [Tryz.ntmps170, List.size_toArray, List.length_cons, List.length_nil, Nat.reduceAdd, Nat.reduceSub, Array.replicate_succ, Array.replicate_zero, List.push_toArray, List.append_toArray, List.nil_append, List.cons_append]
 gi_wp2_with (first
  | (refine ⟨trivial, ?_⟩; gi_at_call 167; refine (callsIn_wide.2 (spans_any R _ _ _)).mono ?_; rintro e w' ⟨rfl, rfl⟩))
 clear h0 h00 c1 c2 cb
 have bO : Boxed (w.alloc (.cells #[.slice none 0 0] 185)) w.heap.size 185 (.slice none 0 0) := Boxed.new _ _ _
 obtain ⟨w2, hw2⟩ : ∃ w2, w2 = w.alloc (.cells #[.slice none 0 0] 185) := ⟨_, rfl⟩
 have hs2 : w2.heap.size = w.heap.size + 1 := by rw [hw2]; simp
 have hc2 : Chg [] w w2 := by rw [hw2]; exact (Chg.refl _ _).alloc _
 rw [← hw2] at bO ⊢
 have hbx : Boxed (boxes3 w2 R (t : Int) (n : Int)) w.heap.size 185 (.slice none 0 0) := ((bO.alloc (.cells #[.pointer (some ⟨R, 0, none⟩)] 179)).alloc (.cells #[.int .i64 (t : Int)] 3)).alloc (.cells #[.int .i64 (n : Int)] 3)
 have C0 : Chg [] w (boxes3 w2 R (t : Int) (n : Int)) := ((hc2.alloc _).alloc _).alloc _
 have b3 := boxes3_cells w2 R (t : Int) (n : Int)
 have hsz : (boxes3 w2 R (t : Int) (n : Int)).heap.size = w2.heap.size + 3 := by simp [boxes3]
 rw [hs2] at b3 hsz
 clear bO hw2 hc2
 obtain ⟨W0, hW0⟩ : ∃ W0, boxes3 w2 R (t : Int) (n : Int) = W0 := ⟨_, rfl⟩
 rw [hW0] at C0 b3 hsz hbx ⊢
 clear hW0 hs2 w2
 obtain ⟨q1, q2, q3⟩ := b3
 refine wpIn_rangeFunc_ownH rfl (by decide) (gf := 226) (lb := #[.pointer (some ⟨w.heap.size + 1 + 2, 0, none⟩), .pointer (some ⟨w.heap.size + 1, 0, none⟩), .pointer (some ⟨w.heap.size + 1 + 1, 0, none⟩)]) rfl trivial (enters_of Tryz.func226 (by kernel_rfl) rfl)
  (iter_stops S t n _ _ _ R HR.out.tail HN.out HR.out.hi 8 W0 q3 q1 ((RB.out _ C0).cell (j := 0) rfl) q2 (by omega) (by omega) (RB.out _ C0).lt (by omega)) (fun _ _ => trivial) (fun _ _ _ _ _ _ _ _ => trivial) (Below.refl _ _) (fun _ => rfl)
  (Heap2 w w.heap.size w.heap.size 185 230)
  (fun _ _ _ => False)
  (heap2_own _ _ _ _ _ _ (by omega))
  (fun _ _ _ _ _ hs _ _ => hs)
  ⟨⟨_, hbx, World.ownsRow_nil _ _ _ _⟩, C0⟩
  (fun x a' W => ∃ Bx, w.heap.size < Bx ∧ Blk W Bx 230 [.int .i64 (x.1 : Int), .int .i64 (x.2 : Int)] ∧ a' = { tmps := #[.pointer (some ⟨R, 0, none⟩), .int .i64 (n : Int), undef, undef, .slice none 0 0, .int .u16 0, .pointer (some ⟨w.heap.size, 0, none⟩), .pointer (some ⟨Bx, 0, none⟩), .int .i64 (n : Int), .bool false, .int .i64 (n : Int), .pointer (some ⟨R, 0, none⟩), .pointer (some ⟨R, 0, none⟩), .pointer (some ⟨R, 2, none⟩), .int .i64 (u : Int), .bool false, .pointer (some ⟨R, 0, none⟩), .pointer (some ⟨R, 0, none⟩), .pointer (some ⟨R, 0, none⟩), .pointer (some ⟨R, 1, none⟩), .int .i64 (t : Int), .int .i64 (n : Int), .func (.func 226) #[] #[.pointer (some ⟨w.heap.size + 1 + 2, 0, none⟩), .pointer (some ⟨w.heap.size + 1, 0, none⟩), .pointer (some ⟨w.heap.size + 1 + 1, 0, none⟩)], .agg #[.int .i64 (x.1 : Int), .int .i64 (x.2 : Int)], undef, undef, undef, undef, undef, undef, undef, undef, undef, undef, undef, undef, undef, undef, undef, undef, undef, undef, undef], defers := [] })
  (fun x a' _ X Y row hs hg hr => by obtain ⟨Bx, p1, p2, p3⟩ := hs; exact ⟨Bx, p1, blk_kept p2 hg (fun r q => (hr r q).2), p3⟩)
  ?assign ?body ?done ?stop
 case assign =>
  rintro l pre x W K hI hK
  have hI' := Lib.hid hI
  obtain ⟨⟨v, hv, hr⟩, hc⟩ := hI
  gi_wp2
  exact hK _ _ ((KeepsOthers.alloc _ _).from _) trivial (heap2_alloc hI'.out _) ⟨W.heap.size, hv.lt, Blk.made W [.int .i64 (x.1 : Int), .int .i64 (x.2 : Int)] _, rfl⟩
 case body =>
  rintro l pre x a' W hl _ ⟨⟨v, hv, hr⟩, hc⟩ ⟨Bx, hBx, bX, rfl⟩ hlen
  have k0 := bX.cell (j := 0) rfl
  have k1 := bX.cell (j := 1) rfl
  have kv := hv.cell
  have hsW := hc.size
  gi_wp2_with (gi_at_builtin; refine wpListIn_append_own _ rfl _ _ 185 rfl w.heap.size 230 i0 (.agg #[.int .i64 0, .int .i64 0]) 2 16 Tryz.underlying185 hi hz0 hz1 hz2 rfl (by decide) _ _ _ rfl (hr.alloc _) ⟨W.heap.size, 0, none⟩ 1 1 [.int .i64 (x.1 : Int), .int .i64 (x.2 : Int)] rfl rfl (pair_new _ _ _ _) (by simp [Value.oneCell']) (by unfold maxLen; omega) (by omega) (by simp; omega) ?_; intro v' w1 hown' hgrow _; obtain ⟨g', cap', rfl⟩ := ownsRow_succ hown'; obtain ⟨hv1, hv2, hr2, hk2, hb2⟩ := hv.appended (by decide) hr hsW (Nat.le_refl _) hown' hgrow; have hc1 := hv1.cell; have hf1 := hv1.frozen)
  exact ⟨hk2.from _, trivial, ⟨_, hv2, by rw [scells_snoc]; simpa using hr2⟩, chg_lift hc hb2⟩
 case done =>
  rintro D ys W hD rfl ⟨⟨v, hv, hr⟩, hc⟩ hK
  have FX : Hid (∀ w3, Chg [] W w3 → w3.frozen? ⟨R, 1, none⟩ = false ∧ w3.cell? ⟨R, 1, none⟩ = some (.int .i64 (t : Int)) ∧ (w3.setCell ⟨R, 1, none⟩ (.int .i64 (T : Int))).frozen? ⟨R, 2, none⟩ = false ∧ (w3.setCell ⟨R, 1, none⟩ (.int .i64 (T : Int))).cell? ⟨R, 2, none⟩ = some (.int .i64 (u : Int)) ∧ ((w3.setCell ⟨R, 1, none⟩ (.int .i64 (T : Int))).setCell ⟨R, 2, none⟩ (.int .i64 (m : Int))).cell? ⟨w.heap.size, 0, none⟩ = some v ∧
   Hid (RingB ((w3.setCell ⟨R, 1, none⟩ (.int .i64 (T : Int))).setCell ⟨R, 2, none⟩ (.int .i64 (m : Int))) R S T m ∧ ((w3.setCell ⟨R, 1, none⟩ (.int .i64 (T : Int))).setCell ⟨R, 2, none⟩ (.int .i64 (m : Int))).ownsRow w.heap.size 230 2 v (spn S t n).length (scells (spn S t n)) ∧ Chg [R] w ((w3.setCell ⟨R, 1, none⟩ (.int .i64 (T : Int))).setCell ⟨R, 2, none⟩ (.int .i64 (m : Int))) ∧ ((w3.setCell ⟨R, 1, none⟩ (.int .i64 (T : Int))).setCell ⟨R, 2, none⟩ (.int .i64 (m : Int))).heap[D]? = some (.deferred (some [])))) := by
   intro w3 c3
   have rb := RB.out _ (hc.trans c3)
   have hb3 : Boxed w3 w.heap.size 185 v := (c3.block _ hv.lt (by simp)).trans hv
   have rb1 := rb.set 1 (.int .i64 (T : Int))
   have rb2 := rb1.set 2 (.int .i64 (m : Int))
   have hne : R ≠ w.heap.size := by omega
   refine ⟨rb.free 1, rb.cell (j := 1) rfl, rb1.free 2, rb1.cell (j := 2) rfl, (boxed_set (boxed_set hb3 hne 1 _) hne 2 _).cell, rb2, ?_, ?_, ?_⟩
   ·exact owns_chg (owns_chg hr c3 (by simp)) ((chg_one w3 R 1 _).setCell (.inl (by simp)) _) (fun k hk hm => by have := (hr.lt k hk).1; simp at hm; omega)
   ·exact (((hc.trans c3).mono (by simp)).setCell (.inl (by simp)) _).setCell (.inl (by simp)) _
   ·exact rgheap_setCell_of (rgheap_setCell_of ((c3.block _ (Array.getElem?_eq_some_iff.1 hK).1 (by simp)).trans hK) rfl _ _) rfl _ _
  have PW := Lib.hid (PL.out _ hc)
  have hDw : Hid (w.heap.size ≤ D) := by show w.heap.size ≤ D; omega
  clear hv hr hc hK RB PL hD
  gi_wp2_with (first
   | (refine ⟨trivial, ?_⟩; gi_at_call 224; refine (callsIn_wide.2 PW.out).mono ?_; rintro e w3 ⟨rfl, C3⟩; obtain ⟨x1, x2, x3, x4, x5, x6⟩ := FX.out _ C3.out; have e1 := HM.out; have wr1 := WR.out.1; have wr2 := WR.out.2))
  obtain ⟨x6, x7, x8, x9⟩ := x6.out
  refine ⟨by simp, .inl ⟨_, _, rfl, run_takeDeferred x9, ?_⟩⟩
  exact ⟨_, results_tmp2 rfl _ _ _, v, rfl, ownsRow_putObj x7 _ x9 rfl, blk_kept x6 (grownBy_putObj' _ D _) (fun r q => by cases q; exact ⟨_, x9, rfl⟩), x8.grown (grownBy_putObj' _ D _) (fun k q => by cases q; exact .inr hDw.out)⟩
 case stop =>
  rintro D c pre W _ _ q _
  exact q.elim

end Go.Proofs.YtkafkdlgflkjgaaGreat
