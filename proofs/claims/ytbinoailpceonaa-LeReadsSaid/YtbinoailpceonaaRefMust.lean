/-
  The document's packer: its beginning, its bytes, and 'must'. By an AI agent.
-/
import Derived.Test.YtbinoailpceonaaRefRaw
import Derived.Test.YtbinoailpceonaaOpsFns
import Derived.StillTailTactics
namespace Go.Proofs.Ytbinoailpceonaa
open Go.RowKit

/-- A new packer of the document's, in memory of its own. -/
def New01 (w : World) (n : Nat) (e : Ending) (w' : World) : Prop := ∃ b, e = .returned (.pointer (some ⟨b, 0, none⟩)) ∧ Rp w' b (.slice none 0 0) ⟨n, [], 0⟩ ∧ Chg [] w w' ∧ w.heap.size ≤ b

set_option maxHeartbeats 400000 in
theorem refNew_ok (n : Nat) (w : World) (hn : n ≤ 4096) : Calls Try.prog 13 #[.int .i64 n] w (New01 w n) := by
  go_enter Try.func13, Try.ntmps13
  go_wp2_with fail
  go_ret
  refine ⟨w.heap.size, rfl, ⟨?_, World.ownsRow_nil _ _ _ _, Nat.zero_le _, hn, .inl rfl⟩, (Chg.refl _ _).alloc _, Nat.le_refl _⟩
  have := Blk.made w [.int .i64 n, .slice none 0 0, .int .u16 0] 93
  simpa using this

set_option maxHeartbeats 400000 in
theorem refNew_bad (n : Int) (w : World) (hn : n < 0 ∨ 4096 < n) : Calls Try.prog 13 #[.int .i64 n] w fun e w' => e = .returned (.pointer none) ∧ w = w' := by
  rcases hn with hn | hn
  · go_enter Try.func13, Try.ntmps13
    go_wp2_with fail
    go_ret
    exact ⟨rfl, rfl⟩
  · have h0 : ¬ n < 0 := by omega
    go_enter Try.func13, Try.ntmps13
    go_wp2_with fail
    go_ret
    exact ⟨rfl, rfl⟩

/-- What its Bytes tells. -/
def Tells01 (w : World) (s : RP) (e : Ending) (w' : World) : Prop :=
  (s.bad ≠ 0 ∧ e = .returned (.tuple #[.slice none 0 0, .int .u16 s.bad]) ∧ Chg [] w w') ∨
  (s.bad = 0 ∧ ∃ v, e = .returned (.tuple #[v, .int .u16 0]) ∧ Sl w' v s.ps.bs ∧ (∀ k, v.ownBlock = some k → w.heap.size ≤ k) ∧ Chg [] w w')

set_option maxHeartbeats 1000000 in
set_option maxRecDepth 100000 in
theorem refBytes_any (b : Nat) (hv : Value) (s : RP) (w : World) (h : Rp w b hv s) : Calls Try.prog 51 #[.pointer (some ⟨b, 0, none⟩)] w (Tells01 w s) := by
  obtain ⟨ho, hc, rfl⟩ := owns_slice h.own
  have h0 := h.c0
  have h1 := h.c1
  have h2 := h.c2
  have htop := h.top
  have hle := h.le
  have H := Lib.hid h
  by_cases hb : s.bad = 0
  · rw [hb] at h2
    have HB := Lib.hid hb
    obtain ⟨i0, hi, hz0, hz1, hz2⟩ := info_parts info_u8
    clear hb h
    go_enter Try.func51, Try.ntmps51
    go_wp2_with (at_make; refine wpList_make_full _ rfl _ _ 47 rfl w.heap.size 5 i0 (.int .u8 0) 1 Try.underlying47 hi hz0 hz1 .i64 .i64 _ _ s.size rfl rfl rfl rfl (by rw [hz2]; omega) (by unfold maxLen; omega) (Nat.le_refl _) ?_; intro w1 hown hgrow)
    have hblk := (Blk.owned hown).1
    rw [made_replicate _ _ rfl] at hblk
    have BK := Lib.hid hblk
    have hcg : Chg [] w w1 := (Chg.refl _ w).grown hgrow (by intro k hk; cases hk)
    have CG := Lib.hid hcg
    have hne : ∀ k, k < w.heap.size → k ≠ w.heap.size := fun k hk => by omega
    clear hown hgrow hblk hcg h0 h1 h2 hi hz0 hz1 hz2
    go_loopw [5] (fun i wr => ∃ k : Nat, k ≤ s.had.length ∧ i = .int .i64 k ∧ Hid (Blk wr w.heap.size 5 ((s.had.take k ++ List.replicate (s.size - k) 0).map (Value.int .u8))) ∧ Hid (Chg [w.heap.size] w1 wr)) (fun i _ => s.had.length - (intOf i).toNat)
    case atStart => exact ⟨0, Nat.zero_le _, rfl, by simpa using BK, Chg.refl _ _⟩
    case round =>
      obtain ⟨k, hk, rfl, HG, HC⟩ := hrel
      have hbl := H.out.pb.lt
      have hrp : Rp wr b (.slice ho s.had.length hc) s := (H.out.chg CG.out (by simp) (by simp)).chg HC.out (by simp; omega) (fun k hk => by have := (H.out.own.lt k hk).2; simp; omega)
      have h1 := hrp.c1
      have HR := Lib.hid hrp
      have f1 := HG.out.free k
      clear hrp
      by_cases hlt : k < s.had.length
      · obtain ⟨g, rfl, hcell⟩ := owns_at HR.out.own (k := k) (u := .int .u8 (s.had.getD k 0)) (by simp [List.getD, List.getElem?_eq_getElem hlt])
        have hlen : (s.had.take k ++ List.replicate (s.size - k) (0 : Int)).length = s.size := by simp; omega
        obtain ⟨u, hu⟩ : ∃ u, wr.cell? ⟨w.heap.size, k, none⟩ = some u := ⟨_, HG.out.cell (List.getElem?_eq_getElem (by rw [List.length_map, hlen]; omega))⟩
        have hset : (s.had.take k ++ List.replicate (s.size - k) (0 : Int)).set k (s.had.getD k 0) = s.had.take (k + 1) ++ List.replicate (s.size - (k + 1)) 0 := by
          have h3 : (s.had.take k).length = k := by simp; omega
          obtain ⟨m, hm⟩ : ∃ m, s.size - k = m + 1 := ⟨s.size - k - 1, by omega⟩
          have h4 : s.had.getD k 0 = s.had[k] := by simp [List.getD, List.getElem?_eq_getElem hlt]
          rw [h4, List.set_append_right _ _ (by omega), h3, Nat.sub_self, hm, List.replicate_succ, List.set_cons_zero, List.take_succ_eq_append_getElem hlt, show s.size - (k + 1) = m by omega, List.append_assoc]
          rfl
        have HS := Lib.hid hset
        clear hset hlen
        generalize s.had.getD k 0 = x at *
        have hk0 : (0 : Int) ≤ k := Int.natCast_nonneg _
        have hk1 : (k : Int) < s.had.length := by omega
        have hk2 : (k : Int) < s.size := by omega
        go_wp2_with fail
        refine ⟨⟨k + 1, by omega, by go_num, ?_, HC.out.setCell (.inl (by simp)) _⟩, by simp [intOf]; omega⟩
        have := HG.out.set k (.int .u8 x)
        rw [← HS.out, List.map_set]
        exact this
      · obtain rfl : k = s.had.length := by omega
        go_wp2_with fail
        go_ret2
        refine .inr ⟨HB.out, _, rfl, ?_, fun k hk => by simp [Value.ownBlock] at hk; omega, CG.out.fresh HC.out (by simp)⟩
        have e : s.had.take s.had.length ++ List.replicate (s.size - s.had.length) (0 : Int) = s.ps.bs := by simp [RP.ps]
        rw [e] at HG
        have hl := RP.ps_len hle
        exact .inr ⟨w.heap.size, 0, s.size, by rw [hl]; rfl, HG.out.lt, fun j hj => by rw [Nat.zero_add]; exact HG.out.cell (by simp [List.getD, List.getElem?_eq_getElem hj])⟩
  · have hbb : (s.bad != 0) = true := by simpa using hb
    have HB := Lib.hid hb
    clear hb h
    go_enter Try.func51, Try.ntmps51
    go_wp2_with fail
    go_quiet (fail)
    go_wp2_with fail
    go_ret2
    exact .inl ⟨HB.out, rfl, (Chg.refl _ _).drewN _⟩

theorem RpStep.after {w W w' : World} {b : Nat} {hv hv' : Value} {s : RP} (c : Chg [] w W) (h : RpStep W b hv s w' hv') : RpStep w b hv s w' hv' :=
  ⟨h.rp, (c.mono (by simp)).trans h.chg, by
    rcases h.blk with q | ⟨k, q, hk⟩
    · exact .inl q
    · exact .inr ⟨k, q, Nat.le_trans c.size hk⟩⟩

end Go.Proofs.Ytbinoailpceonaa
