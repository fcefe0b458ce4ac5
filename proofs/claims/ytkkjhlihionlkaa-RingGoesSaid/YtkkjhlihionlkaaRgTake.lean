/-
  The program's ring: Take. By an AI agent.
-/
import Derived.Test.YtkkjhlihionlkaaRgLive
namespace Go.Proofs.Ytkkjhlihionlkaa
open Go.RowKit Go.Shelf

attribute [local go_sem] Oper.semAt_some

/-- A call that is refused: no list, an error, memory as it was. -/
def Refused (w : World) (er : Int) (e : Ending) (w' : World) : Prop := e = .returned (.tuple #[.slice none 0 0, .int .u16 er]) ∧ Hid (Chg [] w w')

set_option maxRecDepth 100000 in
set_option maxHeartbeats 1000000 in
theorem take_neg (R : Nat) (n : Int) (hn : n < 0) (w : World) : Calls Try.prog 20 #[.pointer (some ⟨R, 0, none⟩), .int .i64 n] w (Refused w 1) := by
  go_enter Try.func20, Try.ntmps20
  go_wp2_with fail
  go_ret2
  exact ⟨rfl, Chg.refl _ _⟩

set_option maxRecDepth 100000 in
set_option maxHeartbeats 1000000 in
theorem take_full {S t u R : Nat} (h : Rg S t u) (w : World) (hb : RingB w R S t u) (n : Int) (hn : ((S - u : Nat) : Int) < n) : Calls Try.prog 20 #[.pointer (some ⟨R, 0, none⟩), .int .i64 n] w (Refused w 90) := by
  have F := Lib.hid (free_any h w hb)
  have h0 : ¬ n < 0 := by omega
  clear h hb
  go_enter Try.func20, Try.ntmps20
  go_wp2_with (go_at_call 19; refine F.out.mono ?_; rintro e w' ⟨rfl, C⟩)
  go_ret2
  exact ⟨rfl, C⟩

theorem boxed_set {W : World} {B : Nat} {t : TypeId} {v : Value} (h : Boxed W B t v) {R : Nat} (hne : R ≠ B) (j : Nat) (u : Value) : Boxed (W.setCell ⟨R, j, none⟩ u) B t v := by
  unfold Boxed at h ⊢
  simp only [World.setCell, Array.getElem?_modify]
  rw [if_neg hne]
  exact h

theorem chg_one (W : World) (R j : Nat) (u : Value) : Chg [R] W (W.setCell ⟨R, j, none⟩ u) := (Chg.refl _ W).setCell (.inl (by simp)) u

theorem heap_setCell_of {W : World} {D : Nat} {o : Obj} (h : W.heap[D]? = some o) (ho : o.isCells = false) (a : Addr) (u : Value) : (W.setCell a u).heap[D]? = some o := (KeepsOthers.setCell W a u).same D _ h ho

theorem Rg.more {S t u n : Nat} (h : Rg S t u) (hn : n ≤ S - u) : Rg S t (u + n) := ⟨h.lo, h.hi, h.tail, by have := h.used; omega⟩

set_option maxRecDepth 100000 in
set_option maxHeartbeats 4000000 in
theorem take_ok {S t u R : Nat} (h : Rg S t u) (w : World) (hb : RingB w R S t u) (n : Nat) (hn : n ≤ S - u) : Calls Try.prog 20 #[.pointer (some ⟨R, 0, none⟩), .int .i64 (n : Int)] w fun e w' =>
    ∃ v, e = .returned (.tuple #[v, .int .u16 0]) ∧ Hid (SpRow w' w.heap.size v (spn S ((t + u) % S) n)) ∧ Hid (RingB w' R S t (u + n)) ∧ Hid (Chg [R] w w') := by
  obtain ⟨i0, hi, hz0, hz1, hz2⟩ := info_parts info_span
  have hmx : Try.prog.follows .mixedOrders = true := by kernel_rfl
  have HR := Lib.hid h
  have RB : Hid (∀ w', Chg [] w w' → RingB w' R S t u) := fun w' c => hb.chg c (by simp)
  have hRl := hb.lt
  have F := Lib.hid (free_any h w hb)
  have D : Hid (∀ w', Chg [] w w' → Calls Try.prog 14 #[.pointer (some ⟨R, 0, none⟩)] w' (Says w' (.int .i64 (((t + u) % S : Nat) : Int)))) := fun w' c => head_any HR.out w' (RB.out w' c)
  have hSl := h.hi
  have hul := h.used
  have hfl := h.head_lt u
  obtain ⟨f, hf⟩ : ∃ f, f = (t + u) % S := ⟨_, rfl⟩
  rw [← hf] at D hfl ⊢
  have h0 : ¬ (n : Int) < 0 := by omega
  have e1 : (u : Int) + (n : Int) = ((u + n : Nat) : Int) := by omega
  obtain ⟨m, hm⟩ : ∃ m, m = u + n := ⟨_, rfl⟩
  rw [← hm] at e1 ⊢
  have WR := Lib.hid (wrap_in (z := (m : Int)) (by omega) (by omega))
  have HN := Lib.hid hn
  have HM := Lib.hid hm
  have HF := Lib.hid hf
  obtain ⟨a, ha⟩ : ∃ a, a = S - u := ⟨_, rfl⟩
  rw [← ha] at F
  have h00 : ¬ a < n := by omega
  clear h hb hm hf hn hSl hul ha hfl
  refine (callsIn_wide (n := 9)).1 ?_
  refine callsIn_of_wp_marks Try.func20 rfl trivial ?_ rfl
  simp only [Try.ntmps20, List.size_toArray, List.length_cons, List.length_nil, Nat.reduceAdd, Nat.reduceSub, Array.replicate_succ, Array.replicate_zero, List.push_toArray, List.append_toArray, List.nil_append, List.cons_append]
  gi_wp2_with (first
    | (refine ⟨trivial, ?_⟩; gi_at_call 19; refine (callsIn_wide.2 F.out).mono ?_; rintro e w1 ⟨rfl, C1⟩)
    | (refine ⟨trivial, ?_⟩; gi_at_call 14; refine (callsIn_wide.2 (D.out _ (C1.out.alloc _))).mono ?_; rintro e w2 ⟨rfl, C2⟩)
    | (refine ⟨trivial, ?_⟩; gi_at_call 45; refine (callsIn_wide.2 (spans_any R _ _ _)).mono ?_; rintro e w' ⟨rfl, rfl⟩))
  clear h0 h00 e1 D F
  have bO : Boxed (w1.alloc (.cells #[.slice none 0 0] 56)) w1.heap.size 56 (.slice none 0 0) := Boxed.new _ _ _
  have bP : Boxed w2 w1.heap.size 56 (.slice none 0 0) := (C2.out.block _ bO.lt (by simp)).trans bO
  have hbx : Boxed (boxes3 w2 R (f : Int) (n : Int)) w1.heap.size 56 (.slice none 0 0) := ((bP.alloc (.cells #[.pointer (some ⟨R, 0, none⟩)] 23)).alloc (.cells #[.int .i64 (f : Int)] 3)).alloc (.cells #[.int .i64 (n : Int)] 3)
  have C0 : Chg [] w (boxes3 w2 R (f : Int) (n : Int)) := ((((C1.out.alloc _).trans C2.out).alloc _).alloc _).alloc _
  have b3 := boxes3_cells w2 R (f : Int) (n : Int)
  have hsz : (boxes3 w2 R (f : Int) (n : Int)).heap.size = w2.heap.size + 3 := by simp [boxes3]
  have hs1 := C1.out.size
  have hs2 : w1.heap.size < w2.heap.size := bP.lt
  clear bO bP C1 C2
  obtain ⟨W0, hW0⟩ : ∃ W0, boxes3 w2 R (f : Int) (n : Int) = W0 := ⟨_, rfl⟩
  rw [hW0] at C0 b3 hsz hbx ⊢
  clear hW0
  obtain ⟨q1, q2, q3⟩ := b3
  generalize w1.heap.size = B at *
  generalize w2.heap.size = N at *
  clear w1 w2
  refine wpIn_rangeFunc_ownH rfl (by decide) (gf := 49) (lb := #[.pointer (some ⟨N + 2, 0, none⟩), .pointer (some ⟨N, 0, none⟩), .pointer (some ⟨N + 1, 0, none⟩)]) rfl trivial (enters_of Try.func49 (by kernel_rfl) rfl)
    (iter_stops S f n _ _ _ R (by rw [HF.out]; exact HR.out.head_lt u) (by have := HN.out; omega) HR.out.hi 8 W0 q3 q1 ((RB.out _ C0).cell (j := 0) rfl) q2 (by omega) (by omega) (RB.out _ C0).lt (by omega)) (fun _ _ => trivial) (fun _ _ _ _ _ _ _ _ => trivial) (Below.refl _ _) (fun _ => rfl)
    (Heap2 w B w.heap.size 56 61)
    (fun _ _ _ => False)
    (heap2_own _ _ _ _ _ _ (by omega))
    (fun _ _ _ _ _ hs _ _ => hs)
    ⟨⟨_, hbx, World.ownsRow_nil _ _ _ _⟩, C0⟩
    (fun x a' W => ∃ Bx, B < Bx ∧ Blk W Bx 61 [.int .i64 (x.1 : Int), .int .i64 (x.2 : Int)] ∧ a' = { tmps := #[.pointer (some ⟨R, 0, none⟩), .int .i64 (n : Int), undef, undef, .slice none 0 0, .int .u16 0, .pointer (some ⟨B, 0, none⟩), .pointer (some ⟨Bx, 0, none⟩), .int .i64 (n : Int), .bool false, .int .i64 (n : Int), .pointer (some ⟨R, 0, none⟩), .int .i64 (a : Int), .bool false, .pointer (some ⟨R, 0, none⟩), .pointer (some ⟨R, 0, none⟩), .int .i64 (f : Int), .int .i64 (n : Int), .func (.func 49) #[] #[.pointer (some ⟨N + 2, 0, none⟩), .pointer (some ⟨N, 0, none⟩), .pointer (some ⟨N + 1, 0, none⟩)], .agg #[.int .i64 (x.1 : Int), .int .i64 (x.2 : Int)], undef, undef, undef, undef, undef, undef, undef, undef, undef, undef, undef, undef, undef], defers := [] })
    (fun x a' _ X Y row hs hg hr => by obtain ⟨Bx, p1, p2, p3⟩ := hs; exact ⟨Bx, p1, blk_kept p2 hg (fun r q => (hr r q).2), p3⟩)
    ?assign ?body ?done ?stop
  case assign =>
    rintro l pre x W K hI hK
    have hI' := Lib.hid hI
    obtain ⟨⟨v, hv, hr⟩, hc⟩ := hI
    gi_wp2
    exact hK _ _ ((KeepsOthers.alloc _ _).from _) trivial (heap2_alloc hI'.out _) ⟨W.heap.size, hv.lt, Blk.made W [.int .i64 (x.1 : Int), .int .i64 (x.2 : Int)] _, rfl⟩
  case body =>
    rintro l pre x a' W hl _ ⟨⟨v, hv, hr⟩, hc⟩ ⟨Bx, hBx, bX, rfl⟩ hlen
    have k0 := bX.cell (j := 0) rfl
    have k1 := bX.cell (j := 1) rfl
    have kv := hv.cell
    have hsW := hc.size
    gi_wp2_with (gi_at_builtin; refine wpListIn_append_own _ rfl _ _ 56 rfl w.heap.size 61 i0 (.agg #[.int .i64 0, .int .i64 0]) 2 16 Try.underlying56 hi hz0 hz1 hz2 rfl (by decide) _ _ _ rfl (hr.alloc _) ⟨W.heap.size, 0, none⟩ 1 1 [.int .i64 (x.1 : Int), .int .i64 (x.2 : Int)] rfl rfl (pair_new _ _ _ _) (by simp [Value.oneCell']) (by unfold maxLen; omega) (by omega) (by simp; omega) ?_; intro v' w1 hown' hgrow _; obtain ⟨g', cap', rfl⟩ := ownsRow_succ hown'; obtain ⟨hv1, hv2, hr2, hk2, hb2⟩ := hv.appended (by decide) hr hsW hs1 hown' hgrow; have hc1 := hv1.cell; have hf1 := hv1.frozen)
    exact ⟨hk2.from _, trivial, ⟨_, hv2, by rw [scells_snoc]; simpa using hr2⟩, chg_lift hc hb2⟩
  case done =>
    rintro D ys W hD rfl ⟨⟨v, hv, hr⟩, hc⟩ hK
    have kv := hv.cell
    have rb := RB.out _ hc
    have k2 := rb.cell (j := 2) rfl
    have kf := rb.free 2
    have e1 : (u : Int) + (n : Int) = (m : Int) := by have := HM.out; omega
    have hRB : R ≠ B := by omega
    have hv2 : Boxed (W.setCell ⟨R, 2, none⟩ (.int .i64 (m : Int))) B 56 v := boxed_set hv hRB _ _
    have kv2 := hv2.cell
    obtain ⟨wr1, wr2⟩ := WR.out
    have rb2 : Hid (RingB (W.setCell ⟨R, 2, none⟩ (.int .i64 (m : Int))) R S t m) := rb.set 2 _
    have hr2 : Hid ((W.setCell ⟨R, 2, none⟩ (.int .i64 (m : Int))).ownsRow w.heap.size 61 2 v (spn S f n).length (scells (spn S f n))) := owns_chg hr (chg_one W R 2 _) (fun k hk hm => by have := (hr.lt k hk).1; simp at hm; omega)
    have c2 : Hid (Chg [R] w (W.setCell ⟨R, 2, none⟩ (.int .i64 (m : Int)))) := (hc.mono (by simp)).setCell (.inl (by simp)) _
    clear hRB
    gi_wp2
    have hK2 := heap_setCell_of hK rfl ⟨R, 2, none⟩ (.int .i64 (m : Int))
    refine ⟨by simp, .inl ⟨_, _, rfl, run_takeDeferred hK2, ?_⟩⟩
    exact ⟨_, results_tmp2 rfl _ _ _, v, rfl, ownsRow_putObj hr2.out _ hK2 rfl, blk_kept rb2.out (grownBy_putObj' _ D _) (fun r q => by cases q; exact ⟨_, hK2, rfl⟩), c2.out.grown (grownBy_putObj' _ D _) (fun k q => by cases q; exact .inr (by omega))⟩
  case stop =>
    rintro D c pre W _ _ q _
    exact q.elim

end Go.Proofs.Ytkkjhlihionlkaa
