/-
  Superblocks that are the same, the sample. By an AI agent.
-/
import Derived.Test.YtffpjefecmkfmaaBSpAkin
import Derived.Test.YtffpjefecmkfmaaBGNats
import Derived.Test.YtffpjefecmkfmaaBSpCon
namespace Go.Proofs.Ytffpjefecmkfmaa
open Go.RowKit

set_option maxHeartbeats 4000000 in
set_option maxRecDepth 100000 in
theorem same_super (s : Sup) (u v : Value) (w : World) (hu : Sl w u s.st) (hv : Sl w v s.st) (hg : s.st.length ≤ 140737488355328) :
    Calls Try.prog 19 #[s.val u, s.val v] w fun e w' => e = .returned (.bool true) ∧ Hid (Chg [] w w') := by
  have CC : Hid (Chg [] w ((w.alloc (.cells (s.cells u).toArray 29)).alloc (.cells (s.cells v).toArray 29))) := ((Chg.refl _ _).alloc _).alloc _
  have SS := Lib.hid (same_states u v s.st _ (hu.chg CC.out (by simp)) (hv.chg CC.out (by simp)) hg)
  have GE := fun W => geo_eq s.m s.c s.t s.m s.c s.t W
  simp only [beq_self_eq_true, Bool.and_self] at GE
  clear hu hv
  unfold Sup.val
  unfold Sup.cells at SS CC
  go_enter Try.func19, Try.ntmps19
  go_wp2_with fail
  refine SS.out.mono ?_
  rintro e w' ⟨rfl, q, rfl⟩
  go_wp2_with fail
  go_ret
  exact ⟨rfl, CC.out.drewN q⟩

def sampleS : Sup := ⟨7, 3, 2, 3, 3, 1, 2, 10, true, false, [1, 2, 3], 1⟩

theorem sample_ok : sampleS.Ok := by decide
theorem sample_fit : sampleS.Fit := ⟨by decide, by decide, by decide, by decide, by decide, by decide, by decide, by decide, by decide, by unfold By; decide⟩

theorem blk_row {w : World} {base g : Nat} {e : TypeId} {vs : List Value} (h : Blk w g e vs) (hb : base ≤ g) (hm : vs.length ≤ maxLen) : w.ownsRow base e 1 (.slice (some ⟨g, 0, none⟩) vs.length vs.length) vs.length vs :=
  ⟨by simp, .inr ⟨g, vs.length, vs.toArray, rfl, hb, h, Nat.le_refl _, hm, by simp, by simp⟩⟩

end Go.Proofs.Ytffpjefecmkfmaa
