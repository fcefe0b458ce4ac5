/-
  Superblocks that are the same, the sample. By an AI agent.
-/
import Derived.Test.YtbeejoooefgeaaaSpAkin
import Derived.Test.YtbeejoooefgeaaaGLentStates
import Derived.Test.YtbeejoooefgeaaaSpCon
namespace Go.Proofs.Ytbeejoooefgeaaa
open Go.RowKit

set_option maxHeartbeats 4000000 in
set_option maxRecDepth 100000 in
theorem same_super (s : Sup) (u v : Value) (w : World) (hu : Sl w u s.st) (hv : Sl w v s.st) (hg : s.st.length ≤ 140737488355328) :
    Calls Try.prog 25 #[s.val u, s.val v] w fun e w' => e = .returned (.bool true) ∧ Hid (Chg [] w w') := by
  have CC : Hid (Chg [] w ((w.alloc (.cells (s.cells u).toArray 27)).alloc (.cells (s.cells v).toArray 27))) := ((Chg.refl _ _).alloc _).alloc _
  have SS := Lib.hid (same_states u v s.st _ (hu.chg CC.out (by simp)) (hv.chg CC.out (by simp)) hg)
  have GE := fun W => geo_eq s.m s.c s.t s.m s.c s.t W
  simp only [beq_self_eq_true, Bool.and_self] at GE
  clear hu hv
  unfold Sup.val
  unfold Sup.cells at SS CC
  go_enter Try.func25, Try.ntmps25
  go_wp2_with fail
  refine SS.out.mono ?_
  rintro e w' ⟨rfl, q, rfl⟩
  go_wp2_with fail
  go_ret
  exact ⟨rfl, CC.out.drewN q⟩

def sampleS : Sup := ⟨7, 3, 2, 3, 3, 1, 2, 10, true, false, [1, 2, 3], 1⟩

theorem sample_ok : sampleS.Ok := by decide
theorem sample_fit : sampleS.Fit := ⟨by decide, by decide, by decide, by decide, by decide, by decide, by decide, by decide, by decide, by unfold By; decide⟩

theorem blk_row {w : World} {base g : Nat} {e : TypeId} {vs : List Value} (h : Blk w g e vs) (hb : base ≤ g) (hm : vs.length ≤ maxLen) : w.ownsRow base e 1 (.slice (some ⟨g, 0, none⟩) vs.length vs.length) vs.length vs :=
  ⟨by simp, .inr ⟨g, vs.length, vs.toArray, rfl, hb, h, Nat.le_refl _, hm, by simp, by simp⟩⟩

set_option maxHeartbeats 4000000 in
set_option maxRecDepth 100000 in
theorem sample_any (w : World) :
    Calls Try.prog 30 #[] w fun e w' => ∃ u, e = .returned (sampleS.val u) ∧ Hid (w'.ownsRow w.heap.size 61 1 u 3 ([1, 2, 3].map (Value.int .u8))) ∧ Hid (Chg [] w w') := by
  go_enter Try.func30, Try.ntmps30
  go_wp2_with fail
  obtain ⟨b1, b2, b3⟩ := two_blocks w (sampleS.cells (.slice (some ⟨w.heap.size + 1, 0, none⟩) 3 3)) [.int .u8 1, .int .u8 2, .int .u8 3] 27 61 rfl
  refine bodyPost_ret (results_cell_row rfl _ _ w.heap.size _ _ _ _ rfl b1 Try.underlying27 rfl size_super) rfl ?_
  exact ⟨.slice (some ⟨w.heap.size + 1, 0, none⟩) 3 3, rfl, blk_row b2 (by omega) (by unfold maxLen; simp), b3⟩

end Go.Proofs.Ytbeejoooefgeaaa
