/-
  The law's own patches, and 'known' of the lift. By an AI agent.
-/
import Derived.Test.YtihmegpcbpdipaaLfCons
import Derived.Test.YtihmegpcbpdipaaGSamePts
namespace Go.Proofs.Ytihmegpcbpdipaa
open Go.RowKit

theorem size_patch1 : (Try.prog.info? 49).map (·.size) = some (Array.size #[Value.int .i64 0, Value.int .i64 0, Value.slice none 0 0]) := by kernel_rfl

/-- A sector full of a byte. -/
def full (n : Nat) : List Nat := List.replicate 128 n

theorem full_len (n : Nat) : (full n).length = 128 := List.length_replicate
theorem ub_full (n : Nat) : ub (full n) = List.replicate 128 (.int .u8 (n : Int)) := by simp [ub, ints, full]

def half (n : Int) (k : Nat) : List Value := List.replicate k (.int .u8 n) ++ List.replicate (128 - k) (.int .u8 0)

theorem half_len {n : Int} {k : Nat} (h : k ≤ 128) : (half n k).length = 128 := by simp [half]; omega

theorem half_set {n : Int} {k : Nat} (h : k < 128) : (half n k).set k (.int .u8 n) = half n (k + 1) := by
  unfold half
  rw [List.set_append_right _ _ (by simp), List.length_replicate, Nat.sub_self, show 128 - k = (128 - (k + 1)) + 1 by omega, List.replicate_succ, List.set_cons_zero, List.replicate_succ']
  simp

/-- A new patch: its bytes are in memory of their own. -/
def Patched (w : World) (m r n : Nat) (e : Ending) (w' : World) : Prop :=
  ∃ g, e = .returned (.agg #[.int .i64 (m : Int), .int .i64 (r : Int), .slice (some ⟨g, 0, none⟩) 128 128]) ∧ Hid (w'.ownsRow w.heap.size 5 1 (.slice (some ⟨g, 0, none⟩) 128 128) 128 (ub (full n))) ∧ Hid (Chg [] w w')

set_option maxHeartbeats 1000000 in
set_option maxRecDepth 100000 in
theorem patch_any (m r n : Nat) (w : World) : Calls Try.prog 25 #[.int .i64 (m : Int), .int .i64 (r : Int), .int .u8 (n : Int)] w (Patched w m r n) := by
  obtain ⟨i0, hi, hz0, hz1, hz2⟩ := info_parts info_u8
  replace hi := Lib.hid hi
  replace hz0 := Lib.hid hz0
  replace hz1 := Lib.hid hz1
  replace hz2 := Lib.hid hz2
  have B0 := Blk.made w [.int .i64 0, .int .i64 0, .slice none 0 0] 49
  have C0 : Chg [] w (w.alloc (.cells #[.int .i64 0, .int .i64 0, .slice none 0 0] 49)) := (Chg.refl _ _).alloc _
  go_enter Try.func25, Try.ntmps25
  go_wp2_with (at_make; refine wpList_make_full _ rfl _ _ 47 rfl (w.heap.size + 1) 5 i0 (.int .u8 0) 1 Try.underlying47 hi.out hz0.out hz1.out .i64 .i64 128 128 128 rfl rfl rfl rfl (by rw [hz2.out]; decide) (by decide) (by simp) ?_; intro w1 hown hgrow)
  rw [made_replicate _ _ rfl] at hown
  have C1 : Hid (Chg [] w w1) := C0.grown hgrow (fun k hk => by cases hk)
  have B1 : Hid (Blk w1 w.heap.size 49 [.int .i64 0, .int .i64 0, .slice none 0 0]) := B0.chg (chg_of_grown hgrow) (by simp)
  have O1 : Hid (w1.ownsRow (w.heap.size + 1) 5 1 (.slice (some ⟨w.heap.size + 1, 0, none⟩) 128 128) 128 (half (n : Int) 0)) := by
    show World.ownsRow _ _ _ _ _ _ _
    simpa [half] using hown
  obtain ⟨g, hg⟩ : ∃ g, g = w.heap.size + 1 := ⟨_, rfl⟩
  obtain ⟨h, hh⟩ : ∃ h, h = w.heap.size := ⟨_, rfl⟩
  rw [← hg] at O1 ⊢
  rw [← hh] at B1 hg ⊢
  have HG := Lib.hid hg
  have HH := Lib.hid hh
  clear hown hgrow B0 C0 hg hh
  go_wp2_with fail
  go_loopw [8] (fun i wr => ∃ k : Nat, k ≤ 128 ∧ i = .int .i64 k ∧ Hid (wr.ownsRow g 5 1 (.slice (some ⟨g, 0, none⟩) 128 128) 128 (half (n : Int) k)) ∧ Hid (Blk wr h 49 [.int .i64 0, .int .i64 0, .slice none 0 0]) ∧ Hid (Chg [] w wr)) (fun i _ => 128 - (intOf i).toNat)
  case atStart => exact ⟨0, by omega, rfl, O1, B1, C1⟩
  case round =>
    obtain ⟨k, hk, rfl, O, B, C⟩ := hrel
    clear O1 B1 C1
    have hk0 : (0 : Int) ≤ k := Int.natCast_nonneg _
    by_cases hlt : k < 128
    · have hk1 : (k : Int) < 128 := by omega
      obtain ⟨o2, f2, u, hu⟩ := owns_set O.out hlt (.int .u8 (n : Int))
      rw [half_set hlt] at o2
      replace o2 := Lib.hid o2
      have CS : Chg [g] wr (wr.setCell ⟨g, k, none⟩ (.int .u8 (n : Int))) := (Chg.refl _ _).setCell (.inl (by simp)) _
      have B2 : Hid (Blk (wr.setCell ⟨g, k, none⟩ (.int .u8 (n : Int))) h 49 [.int .i64 0, .int .i64 0, .slice none 0 0]) := B.out.chg CS (by have := HG.out; simp; omega)
      have C2 : Hid (Chg [] w (wr.setCell ⟨g, k, none⟩ (.int .u8 (n : Int)))) := C.out.setCell (.inr (by have := HG.out; have := HH.out; show w.heap.size ≤ g; omega)) _
      clear CS
      go_wp2_with fail
      exact ⟨⟨k + 1, by omega, by go_num, o2, B2, C2⟩, by simp [intOf]; omega⟩
    · obtain rfl : k = 128 := by omega
      have b0 := B.out.free 0
      have b1 := B.out.free 1
      have b2 := B.out.free 2
      have s0 := B.out.cell (j := 0) rfl
      have s1 := B.out.cell (j := 1) rfl
      have s2 := B.out.cell (j := 2) rfl
      have HB : Hid (Blk (((wr.setCell ⟨h, 0, none⟩ (.int .i64 (m : Int))).setCell ⟨h, 1, none⟩ (.int .i64 (r : Int))).setCell ⟨h, 2, none⟩ (.slice (some ⟨g, 0, none⟩) 128 128)) h 49 [.int .i64 (m : Int), .int .i64 (r : Int), .slice (some ⟨g, 0, none⟩) 128 128]) := ((B.out.set 0 _).set 1 _).set 2 _
      have CH : Hid (Chg [h] wr (((wr.setCell ⟨h, 0, none⟩ (.int .i64 (m : Int))).setCell ⟨h, 1, none⟩ (.int .i64 (r : Int))).setCell ⟨h, 2, none⟩ (.slice (some ⟨g, 0, none⟩) 128 128))) := (((Chg.refl [h] wr).setCell (p := ⟨h, 0, none⟩) (.inl (by simp)) _).setCell (p := ⟨h, 1, none⟩) (.inl (by simp)) _).setCell (p := ⟨h, 2, none⟩) (.inl (by simp)) _
      have OF : Hid (World.ownsRow (((wr.setCell ⟨h, 0, none⟩ (.int .i64 (m : Int))).setCell ⟨h, 1, none⟩ (.int .i64 (r : Int))).setCell ⟨h, 2, none⟩ (.slice (some ⟨g, 0, none⟩) 128 128)) w.heap.size 5 1 (.slice (some ⟨g, 0, none⟩) 128 128) 128 (ub (full n))) := by
        have o := owns_chg O.out CH.out (fun k hk hm => by
          have e1 : g = k := by simpa [Value.ownBlock] using hk
          have e2 : k = h := by simpa using hm
          have := HG.out
          omega)
        have e : half (n : Int) 128 = ub (full n) := by rw [ub_full]; simp [half]
        rw [e] at o
        exact ownsRow_base o (by have := HG.out; have := HH.out; omega)
      have CF : Hid (Chg [] w (((wr.setCell ⟨h, 0, none⟩ (.int .i64 (m : Int))).setCell ⟨h, 1, none⟩ (.int .i64 (r : Int))).setCell ⟨h, 2, none⟩ (.slice (some ⟨g, 0, none⟩) 128 128))) := C.out.fresh CH.out (fun k hk => .inr (by rw [List.mem_singleton.1 hk, HH.out]; exact Nat.le_refl _))
      clear B
      go_wp2_with fail
      refine bodyPost_ret (results_cell_row rfl _ _ h _ _ _ _ rfl HB.out Try.underlying49 rfl size_patch) rfl ?_
      exact ⟨g, rfl, OF, CF⟩

end Go.Proofs.Ytihmegpcbpdipaa
