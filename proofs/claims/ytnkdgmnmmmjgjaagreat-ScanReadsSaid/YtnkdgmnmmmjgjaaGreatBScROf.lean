/-
  The document's Of. By an AI agent.
-/
import Derived.Test.YtnkdgmnmmmjgjaaGreatBScRBat
import Derived.Test.YtnkdgmnmmmjgjaaGreatBRcGet
namespace Go.Proofs.YtnkdgmnmmmjgjaaGreat
open Crc Go.RowKit

theorem Sc.pts_mod (ring : List Nat) (p k : Nat) : Sc.pts ring (p % (ring.length / 128)) k = Sc.pts ring p k := by
  unfold Sc.pts
  refine List.map_congr_left fun i _ => ?_
  rw [Sc.sec_mod, Nat.add_assoc, Sc.sec_mod, ← Nat.add_assoc]

def ROfGives (w : World) (bs : List Nat) (n ep sq tl : Nat) (e : Ending) (w' : World) : Prop := ∃ tv T u, Sc.Done bs ep tl sq (found T) u ∧ e = .returned (.tuple #[FoundV tv (sq + T.length) ((tl + u) % n) u, .int .i64 0]) ∧ Hid (Side w w' [wideT 2 25 tv (txSlots sq T), poolWT 3 72 (listsOf T), poolT (dataOf T)])

def ROfRef (w : World) (e : Ending) (w' : World) : Prop := e = .returned (.tuple #[FoundV (.slice none 0 0) 0 0 0, .int .i64 1]) ∧ Hid (Chg [] w w')

set_option maxHeartbeats 4000000 in
set_option maxRecDepth 100000 in
theorem rof_bad (len ep sq : Nat) (tl : Int) (hb : ¬ OfAsks len ep sq tl) (hl : len ≤ 1000000) (ao : Option Addr) (c : Nat) (w : World) :
    Calls Tryz.prog 19 #[.slice ao len c, .agg #[.int .u64 (ep : Int), .int .u64 (sq : Int), .int .i64 tl]] w (ROfRef w) := by
  obtain ⟨n, hn⟩ : ∃ n, n = len / 128 := ⟨_, rfl⟩
  obtain ⟨r, hr⟩ : ∃ r, r = len % 128 := ⟨_, rfl⟩
  have q1 : Int.tdiv (len : Int) 128 = (n : Int) := by rw [hn]; rfl
  have q2 : (len : Int) / 128 = (n : Int) := by omega
  have q3 : Int.tmod (len : Int) 128 = (r : Int) := by rw [hr]; rfl
  have q4 : (len : Int) % 128 = (r : Int) := by omega
  have bN : Hid (n ≤ 1000000 ∧ r ≤ 1000000) := ⟨by omega, by omega⟩
  have CK : Hid (∀ w, Calls Tryz.prog 51 #[.agg #[.int .u64 (ep : Int), .int .u64 (sq : Int), .int .i64 tl]] w fun e w' => (∃ v, e = .returned (.tuple #[v, .int .i64 (Ck.err ⟨ep, sq, tl⟩)])) ∧ Hid (Chg [] w w')) := fun w => by
    refine (rEncodeCheck_any ⟨ep, sq, tl⟩ w trivial).mono ?_
    rintro e w' ⟨v, rfl, _, c⟩
    exact ⟨⟨v, rfl⟩, c⟩
  have BX : Hid (Blk ((w.alloc (.cells #[.int .u64 (ep : Int), .int .u64 (sq : Int), .int .i64 tl] 57)).alloc (.cells #[.slice none 0 0, .int .u64 0, .int .i64 0, .int .i64 0] 61)) w.heap.size 57 [.int .u64 (ep : Int), .int .u64 (sq : Int), .int .i64 tl]) := (Blk.made w _ _).alloc _
  have BR : Hid (Blk ((w.alloc (.cells #[.int .u64 (ep : Int), .int .u64 (sq : Int), .int .i64 tl] 57)).alloc (.cells #[.slice none 0 0, .int .u64 0, .int .i64 0, .int .i64 0] 61)) (w.heap.size + 1) 61 [.slice none 0 0, .int .u64 0, .int .i64 0, .int .i64 0]) := by
    have h := Blk.made (w.alloc (.cells #[.int .u64 (ep : Int), .int .u64 (sq : Int), .int .i64 tl] 57)) [.slice none 0 0, .int .u64 0, .int .i64 0, .int .i64 0] 61
    rw [World.size_alloc] at h
    exact h
  have CX : Hid (Chg [] w ((w.alloc (.cells #[.int .u64 (ep : Int), .int .u64 (sq : Int), .int .i64 tl] 57)).alloc (.cells #[.slice none 0 0, .int .u64 0, .int .i64 0, .int .i64 0] 61))) := ((Chg.refl _ _).alloc _).alloc _
  have HB : Hid (¬ (r = 0 ∧ 5 ≤ n ∧ n ≤ 2048 ∧ Ck.Ok ⟨ep, sq, tl⟩ ∧ tl < (n : Int))) := by rw [hr, hn]; exact hb
  have FIN : Hid (∀ W, Blk W (w.heap.size + 1) 61 [.slice none 0 0, .int .u64 0, .int .i64 0, .int .i64 0] → Chg [] w W → Blk ((((W.setCell ⟨w.heap.size + 1, 0, none⟩ (.slice none 0 0)).setCell ⟨w.heap.size + 1, 1, none⟩ (.int .u64 0)).setCell ⟨w.heap.size + 1, 2, none⟩ (.int .i64 0)).setCell ⟨w.heap.size + 1, 3, none⟩ (.int .i64 0)) (w.heap.size + 1) 61 [.slice none 0 0, .int .u64 0, .int .i64 0, .int .i64 0] ∧ Hid (Chg [] w ((((W.setCell ⟨w.heap.size + 1, 0, none⟩ (.slice none 0 0)).setCell ⟨w.heap.size + 1, 1, none⟩ (.int .u64 0)).setCell ⟨w.heap.size + 1, 2, none⟩ (.int .i64 0)).setCell ⟨w.heap.size + 1, 3, none⟩ (.int .i64 0)))) := fun W b c =>
    ⟨(((b.set 0 _).set 1 _).set 2 _).set 3 _, (((c.setCell (p := ⟨w.heap.size + 1, 0, none⟩) (.inr (Nat.le_succ _)) _).setCell (p := ⟨w.heap.size + 1, 1, none⟩) (.inr (Nat.le_succ _)) _).setCell (p := ⟨w.heap.size + 1, 2, none⟩) (.inr (Nat.le_succ _)) _).setCell (p := ⟨w.heap.size + 1, 3, none⟩) (.inr (Nat.le_succ _)) _⟩
  have T4 : Hid (∀ (E : Int), E = Ck.err ⟨ep, sq, tl⟩ → (¬ Ck.Ok ⟨ep, sq, tl⟩ ∧ E = 80) ∨ (Ck.Ok ⟨ep, sq, tl⟩ ∧ E = 0)) := fun E e => by
    unfold Ck.err at e
    split at e
    · exact .inr ⟨by assumption, e⟩
    · exact .inl ⟨by assumption, e⟩
  obtain ⟨E, hE⟩ : ∃ E, E = Ck.err ⟨ep, sq, tl⟩ := ⟨_, rfl⟩
  rw [← hE] at CK
  have TE := Lib.hid (T4.out E hE)
  clear hn hr hb hl hE T4
  have v1 := wrap_nat bN.out.1
  have v2 := wrap_nat bN.out.2
  go_enter Tryz.func19, Tryz.ntmps19
  go_upto_region 3 with (first | (go_at_call 51; refine (CK.out _).mono ?_; rintro e w1 ⟨⟨vv, rfl⟩, C1⟩))
  have B1 := Lib.hid (BX.out.chg C1.out (by simp))
  have R1 := Lib.hid (BR.out.chg C1.out (by simp))
  have D1 := Lib.hid (CX.out.trans C1.out)
  have F := FIN.out _ R1.out D1.out
  have x2 := B1.out.cell (j := 2) rfl
  have c0 := R1.out.cell (j := 0) rfl
  have f0 := R1.out.free 0
  have c1 := R1.out.cell (j := 1) rfl
  have f1 := R1.out.free 1
  have c2 := R1.out.cell (j := 2) rfl
  have f2 := R1.out.free 2
  have c3 := R1.out.cell (j := 3) rfl
  have f3 := R1.out.free 3
  have F1 := Lib.hid F.1
  have F2 := F.2
  clear C1 BX BR CX CK F v1 v2 q1 q2
  by_cases h1 : r = 0
  case neg =>
    have t1 : ((r : Int) != 0) = true := by simpa using h1
    have v2 := wrap_nat bN.out.2
    go_wp2_with fail
    (try simp only [Exit.inBlock, Exit.then]); show bodyPost _ _ _ Exit.ret ⟨_, []⟩ _
    refine bodyPost_ret (rc_cell_and_tmp (ty := 61) rfl _ _ (w.heap.size + 1) _ _ _ _ rfl F1.out Tryz.underlying61 size_Fd) rfl ?_
    exact ⟨rfl, F2⟩
  have t1 : ((r : Int) != 0) = false := by simp [h1]
  by_cases h2 : n < 5
  · have t2 : (n : Int) < 5 := by omega
    have v2 := wrap_nat bN.out.2
    go_wp2_with fail
    (try simp only [Exit.inBlock, Exit.then]); show bodyPost _ _ _ Exit.ret ⟨_, []⟩ _
    refine bodyPost_ret (rc_cell_and_tmp (ty := 61) rfl _ _ (w.heap.size + 1) _ _ _ _ rfl F1.out Tryz.underlying61 size_Fd) rfl ?_
    exact ⟨rfl, F2⟩
  have t2 : ¬ (n : Int) < 5 := by omega
  by_cases h3 : 2048 < n
  · have t3 : (2048 : Int) < n := by omega
    have v2 := wrap_nat bN.out.2
    go_wp2_with fail
    (try simp only [Exit.inBlock, Exit.then]); show bodyPost _ _ _ Exit.ret ⟨_, []⟩ _
    refine bodyPost_ret (rc_cell_and_tmp (ty := 61) rfl _ _ (w.heap.size + 1) _ _ _ _ rfl F1.out Tryz.underlying61 size_Fd) rfl ?_
    exact ⟨rfl, F2⟩
  have t3 : ¬ (2048 : Int) < n := by omega
  rcases TE.out with ⟨no, rfl⟩ | ⟨yes, rfl⟩
  · clear no TE HB
    have v2 := wrap_nat bN.out.2
    go_wp2_with fail
    (try simp only [Exit.inBlock, Exit.then]); show bodyPost _ _ _ Exit.ret ⟨_, []⟩ _
    refine bodyPost_ret (rc_cell_and_tmp (ty := 61) rfl _ _ (w.heap.size + 1) _ _ _ _ rfl F1.out Tryz.underlying61 size_Fd) rfl ?_
    exact ⟨rfl, F2⟩
  have t4 : (n : Int) ≤ tl := Int.not_lt.1 fun k => HB.out ⟨h1, by omega, by omega, yes, k⟩
  clear yes TE HB
  have v2 := wrap_nat bN.out.2
  go_wp2_with fail
  (try simp only [Exit.inBlock, Exit.then]); show bodyPost _ _ _ Exit.ret ⟨_, []⟩ _
  refine bodyPost_ret (rc_cell_and_tmp (ty := 61) rfl _ _ (w.heap.size + 1) _ _ _ _ rfl F1.out Tryz.underlying61 size_Fd) rfl ?_
  exact ⟨rfl, F2⟩

end Go.Proofs.YtnkdgmnmmmjgjaaGreat
