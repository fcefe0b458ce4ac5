/-
  The program's disk: Flush, Crash. By an AI agent.
-/
import Derived.Test.YtljhpdgjajhgbaaDkSettle
import Derived.Test.YtljhpdgjajhgbaaGInMore
namespace Go.Proofs.Ytljhpdgjajhgbaa
open Go.RowKit Go.Maps

set_option maxHeartbeats 1000000 in
set_option maxRecDepth 100000 in
theorem keepAll_any (i : Nat) (w : World) : Calls Try.prog 45 (#[.int .i64 (i : Int)] ++ #[]) w (fun e w' => e = .returned (.bool true) ∧ w' = w) := by
  show Calls Try.prog 45 #[.int .i64 (i : Int)] w _
  go_enter Try.func45, Try.ntmps45
  go_wp2_with fail
  go_ret
  exact ⟨rfl, rfl⟩

set_option maxHeartbeats 1000000 in
set_option maxRecDepth 100000 in
theorem dflush_any (g : Nat) (F : List Nat) (d : Dk) (w : World) (h : (DiskT g d F).P w) :
    Calls Try.prog 17 #[.pointer (some ⟨g, 0, none⟩)] w fun e w' => e = .returned (.int .u16 ((d.flushErr : Nat) : Int)) ∧ Hid (Turns w F (DiskT g d.flush) w') := by
  have h' : DiskIn w g F d := h
  obtain ⟨gd, mb, cv, r⟩ := h'.rep
  have c3 := r.blk.cell (j := 3) rfl
  by_cases hbad : d.bad = true
  · have e1 : d.flushErr = 2 := by unfold Dk.flushErr; rw [if_pos hbad]
    have e2 : d.flush = d := by unfold Dk.flush; rw [if_pos hbad]
    have T0 : Turns w F (DiskT g d) w := ⟨F, h, fun k hk => .inl hk, Chg.refl _ _⟩
    rw [hbad] at c3
    rw [e1, e2]
    replace T0 := Lib.hid T0
    clear h h' r e1 e2
    go_enter Try.func17, Try.ntmps17
    go_wp2_with fail
    go_ret
    exact ⟨rfl, T0⟩
  have hb0 : d.bad = false := by simpa using hbad
  rw [hb0] at c3
  obtain ⟨e1, e2⟩ := Dk.flush_ok hb0
  rw [e1, e2]
  have S := dsettle_any g F d (List.replicate d.cache.length true) 45 #[] w h enters_flush (fun i w' hi _ => by
    have := keepAll_any i w'
    rw [show (List.replicate d.cache.length true).getD i false = true by simp [List.getD, hi]]
    exact this)
  rw [Dk.kept_all _ 0 d.cache (fun j _ hj => by
    have hj' : j < d.cache.length := by omega
    simp [List.getD, hj'])] at S
  replace S := Lib.hid S
  replace hb0 := Lib.hid hb0
  replace hbad := Lib.hid hbad
  clear h h' r e1 e2
  go_enter Try.func17, Try.ntmps17
  go_wp2_with fail
  refine S.out.mono ?_
  rintro e w2 ⟨rfl, hT⟩
  have T := Lib.hid hT
  clear S hT
  go_wp2_with fail
  go_ret
  exact ⟨rfl, T⟩

set_option maxHeartbeats 1000000 in
set_option maxRecDepth 100000 in
theorem keepSome_any (kb : Nat) (ko : Option Addr) (kc : Nat) (keep : List Bool) (i : Nat) (w : World) (hi : i < 9223372036854775807) (hk : w.cell? ⟨kb, 0, none⟩ = some (.slice ko keep.length kc)) (hv : RdV w (.slice ko keep.length kc) (keep.map Value.bool)) :
    Calls Try.prog 47 #[.int .i64 (i : Int), .pointer (some ⟨kb, 0, none⟩)] w (fun e w' => e = .returned (.bool (keep.getD i false)) ∧ w' = w) := by
  have hi0 : (0 : Int) ≤ i := Int.natCast_nonneg _
  by_cases hlt : i < keep.length
  · obtain ⟨b, hb⟩ : ∃ b, keep[i]? = some b := ⟨_, List.getElem?_eq_getElem hlt⟩
    have hkq : (keep.map Value.bool)[i]? = some (.bool b) := by rw [List.getElem?_map, hb]; rfl
    have hg : keep.getD i false = b := by rw [List.getD_eq_getElem?_getD, hb]; rfl
    obtain ⟨vb, vo, rfl, ck⟩ := hv.at hkq
    have h1 : (i : Int) < keep.length := by omega
    rw [hg]
    clear hv hkq hg hb
    go_enter Try.func47, Try.ntmps47
    go_wp2_with fail
    go_ret
    exact ⟨rfl, rfl⟩
  · have h1 : ¬ (i : Int) < keep.length := by omega
    have hg : keep.getD i false = false := by rw [List.getD_eq_getElem?_getD, List.getElem?_eq_none (by omega)]; rfl
    rw [hg]
    clear hv hg
    go_enter Try.func47, Try.ntmps47
    go_wp2_with fail
    go_ret
    exact ⟨rfl, rfl⟩

set_option maxHeartbeats 1000000 in
set_option maxRecDepth 100000 in
theorem dcrash_any (g : Nat) (F : List Nat) (d : Dk) (v : Value) (keep : List Bool) (w : World) (h : (DiskT g d F).P w) (hv : RdV w v (keep.map Value.bool)) (hold : keep ≠ [] → ∀ k, v.ownBlock = some k → k ∉ F ∧ k < w.heap.size) :
    Calls Try.prog 20 #[.pointer (some ⟨g, 0, none⟩), v] w fun e w' => e = .returned (.tuple #[]) ∧ Hid (Turns w F (DiskT g (d.crash keep)) w') := by
  have h' : DiskIn w g F d := h
  have e2 : d.crash keep = { d with last := (Dk.kept keep 0 d.cache).foldl Dk.lay d.last, cache := [] } := by
    by_cases hb : d.bad = true
    · have hn := h'.fit.off hb
      unfold Dk.crash
      rw [if_pos hb, hn]
      cases d
      simp only at hn
      subst hn
      rfl
    · exact Dk.crash_ok (by simpa using hb) keep
  rw [e2]
  obtain ⟨gd, mb, cv, r⟩ := h'.rep
  obtain ⟨co, cc, hcv, hcc1, hcc2⟩ := r.bound
  obtain ⟨ko, kc, rfl⟩ := hv.slice
  rw [List.length_map] at hv hold ⊢
  have CA : Chg [] w (w.alloc (.cells #[.slice ko keep.length kc] 47)) := (Chg.refl _ _).alloc _
  have BK := Blk.made w [.slice ko keep.length kc] 47
  have hA : (DiskT g d F).P (w.alloc (.cells #[.slice ko keep.length kc] 47)) := (DiskT g d F).stays _ _ [] h CA (fun _ _ => by simp)
  have hne : ∀ k ∈ F, k ≠ w.heap.size := fun k hk e => by have := h'.lt k hk; omega
  have S := dsettle_any g F d keep 47 #[.pointer (some ⟨w.heap.size, 0, none⟩)] _ hA enters_crash (fun i w' hi c => by
    refine keepSome_any w.heap.size ko kc keep i w' (by omega) ((BK.chg c (fun hm => hne _ hm rfl)).cell (j := 0) rfl) ?_
    by_cases hk : keep = []
    · subst hk
      exact .inl ⟨rfl, _, _, rfl⟩
    · exact (hv.chg CA (fun _ _ => by simp)).chg c (fun k hk2 => (hold hk k hk2).1))
  have ST : Hid (∀ w', Turns (w.alloc (.cells #[.slice ko keep.length kc] 47)) F (DiskT g { d with last := (Dk.kept keep 0 d.cache).foldl Dk.lay d.last, cache := [] }) w' → Turns w F (DiskT g { d with last := (Dk.kept keep 0 d.cache).foldl Dk.lay d.last, cache := [] }) w') := fun w' ht => by
    obtain ⟨F2, t1, t2, t3⟩ := ht
    refine ⟨F2, t1, fun k hk => ?_, (CA.mono (by simp)).trans t3⟩
    rcases t2 k hk with q | q
    · exact .inl q
    · exact .inr (by have := CA.size; omega)
  replace S := Lib.hid S
  have hmf : ∀ (fn : Fn) (first cap : Array Value) (w : World), (Instr.makeFunc fn first cap).run Try.prog w = .ok (.func fn first cap) w := fun _ _ _ _ => rfl
  clear h h' r e2 hv hold CA BK hA hne
  go_enter Try.func20, Try.ntmps20
  go_wp2_with fail
  refine S.out.mono ?_
  rintro e w2 ⟨rfl, hT⟩
  have T := Lib.hid (ST.out _ hT)
  clear S hT ST
  go_wp2_with fail
  go_end0
  exact ⟨rfl, T⟩

end Go.Proofs.Ytljhpdgjajhgbaa
