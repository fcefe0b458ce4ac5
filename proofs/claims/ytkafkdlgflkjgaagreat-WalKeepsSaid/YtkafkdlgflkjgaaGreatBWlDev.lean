/-
  The journal's device: an operation, unless one has failed before. By an AI agent.
-/
import Derived.Test.YtkafkdlgflkjgaaGreatBWlSpec
import Derived.Test.YtkafkdlgflkjgaaGreatBByCalls
import Derived.Test.YtkafkdlgflkjgaaGreatBGOwnMem
import Derived.Test.YtkafkdlgflkjgaaGreatBGPv
namespace Go.Proofs.YtkafkdlgflkjgaaGreat
open Go.RowKit Go.Maps

def devV (b : Nat) (s : Int) (br : Nat) : List Value := [.pointer (some ⟨b, 0, none⟩), .int .i64 s, .int .u16 ((br : Nat) : Int)]

/-- A device at its block. -/
def devT (D b : Nat) (s : Int) (br : Nat) : Thing := blkT D 115 (devV b s br)

set_option maxHeartbeats 2000000 in
set_option maxRecDepth 100000 in
/-- 'do' of a closure. -/
theorem do_any (D b : Nat) (s : Int) (br : Nat) (w : World) (hD : Blk w D 115 (devV b s br)) (fn : Nat) (caps : Array Value)
 (hen : ∀ (args : Array Value) (w : World), (callFunc fn args).run Tryz.prog w = .ok (.enter fn args) w)
 (R : Int → World → Prop) (hR : ∀ n w', R n w' → w'.cell? ⟨D, 2, none⟩ = some (.int .u16 0) ∧ w'.frozen? ⟨D, 2, none⟩ = false)
 (hfn : br = 0 → Calls Tryz.prog fn (#[.int .i64 s] ++ caps) w (fun e w' => ∃ n, e = .returned (.int .u16 n) ∧ R n w')) :
 Calls Tryz.prog 126 #[.pointer (some ⟨D, 0, none⟩), .func (.func fn) #[] caps] w fun e w' =>
  e = .returned (.tuple #[]) ∧ ((br ≠ 0 ∧ w' = w) ∨ (br = 0 ∧ ∃ n w1, R n w1 ∧ w' = w1.setCell ⟨D, 2, none⟩ (.int .u16 n))) := by
 have c1 : w.cell? ⟨D, 1, none⟩ = some (.int .i64 s) := hD.cell (j := 1) rfl
 have c2 : w.cell? ⟨D, 2, none⟩ = some (.int .u16 ((br : Nat) : Int)) := hD.cell (j := 2) rfl
 have HR := Lib.hid hR
 by_cases h0 : br = 0
 ·subst h0
  have HF := Lib.hid (hfn rfl)
  clear hfn hR hD
  go_enter Tryz.func126, Tryz.ntmps126
  go_wp2_with fail
  refine HF.out.mono ?_
  rintro e w1 ⟨n, rfl, q⟩
  obtain ⟨d2, f2⟩ := HR.out n w1 q
  replace q := Lib.hid q
  clear HF HR c1 c2
  go_wp2_with fail
  go_end0
  exact ⟨rfl, .inr ⟨trivial, n, w1, q.out, rfl⟩⟩
 ·have h1 : ¬ ((br : Nat) : Int) = 0 := by omega
  have P : Hid (br ≠ 0) := h0
  clear hfn hR hD HR h0
  generalize ((br : Nat) : Int) = B at *
  go_enter Tryz.func126, Tryz.ntmps126
  go_wp2_with fail
  go_end0
  exact ⟨rfl, .inl ⟨P.out, rfl⟩⟩

theorem Side.brk {w0 w : World} {ts : List Thing} {D b : Nat} {s : Int} {br : Nat} (H : Side w0 w ts) (i : Nat) (hi : ts[i]? = some (devT D b s br)) (n : Nat) : Side w0 (w.setCell ⟨D, 2, none⟩ (.int .u16 ((n : Nat) : Int))) (ts.set i (devT D b s n)) := by
 have B : Blk w D 115 (devV b s br) := H.get i hi
 have B2 := B.set 2 (.int .u16 ((n : Nat) : Int))
 exact H.turnAt i hi (s := [D]) ((Chg.refl _ _).setCell (.inl (by simp)) _) (fun k hk => .inl hk) B2 (fun k hk => .inl hk)

/-- A bay and a device on it, side by side with others. -/
abbrev dts (b D : Nat) (s : Int) (io : Wl.Io) (F : List Nat) (ts : List Thing) : List Thing := BayT b io.1 F :: devT D b s io.2 :: ts

theorem enters_dvwrite (args : Array Value) (w : World) : (callFunc 127 args).run Tryz.prog w = .ok (.enter 127 args) w := by
 have h1 : (Tryz.f127.name == "runtime.NumGoroutine") = false := by kernel_rfl
 have h2 : Tryz.f127.body.isNone = false := by kernel_rfl
 have h3 : ¬ Tryz.f127.name = "runtime.NumGoroutine" := by simpa using h1
 have h4 : ¬ Tryz.f127.body = none := fun e => by rw [e] at h2; cases h2
 simp [callFunc, go_sem, Tryz.func127, h3, h4]

theorem enters_dvread (args : Array Value) (w : World) : (callFunc 171 args).run Tryz.prog w = .ok (.enter 171 args) w := by
 have h1 : (Tryz.f171.name == "runtime.NumGoroutine") = false := by kernel_rfl
 have h2 : Tryz.f171.body.isNone = false := by kernel_rfl
 have h3 : ¬ Tryz.f171.name = "runtime.NumGoroutine" := by simpa using h1
 have h4 : ¬ Tryz.f171.body = none := fun e => by rw [e] at h2; cases h2
 simp [callFunc, go_sem, Tryz.func171, h3, h4]

set_option maxHeartbeats 2000000 in
set_option maxRecDepth 100000 in
theorem dvwrite1_any {w0 w : World} {ts : List Thing} {b D : Nat} {y : Bay} {F : List Nat} {s : Int} {br : Nat} (H : Side w0 w (BayT b y F :: devT D b s br :: ts)) (hs : I64 s) (at_ : Int) (ha : I64 at_) (v : Value) (x : List Nat) (hv : Sl w v (ints x)) (hb : Bs x) (hx : x.length ≤ 100000)
 (hold : ∀ k, v.ownBlock = some k → k ∉ F ∧ k < w.heap.size) (hl : y.Low 1000000000) (p1 p2 p3 : Nat) (c1 : w.cell? ⟨p1, 0, none⟩ = some (.pointer (some ⟨D, 0, none⟩))) (c2 : w.cell? ⟨p2, 0, none⟩ = some (.int .i64 at_)) (c3 : w.cell? ⟨p3, 0, none⟩ = some v) :
 Calls Tryz.prog 127 #[.int .i64 s, .pointer (some ⟨p1, 0, none⟩), .pointer (some ⟨p2, 0, none⟩), .pointer (some ⟨p3, 0, none⟩)] w fun e w' => ∃ n : Int, e = .returned (.int .u16 n) ∧ n = (y.writeErr s at_ x : Nat) ∧ ∃ F', Side w0 w' (BayT b (y.write s at_ x) F' :: devT D b s br :: ts) := by
 have B : Blk w D 115 (devV b s br) := H.get 1 rfl
 have d0 : w.cell? ⟨D, 0, none⟩ = some (.pointer (some ⟨b, 0, none⟩)) := B.cell (j := 0) rfl
 have H1 := H.quiet ((Chg.refl [] w).drewN 1)
 have WR := Lib.hid (bwrite_any b F y (w.drewN 1) (H1.get 0 rfl) s at_ hs ha v (ints x) (hv.chg ((Chg.refl [] w).drewN 1) (fun _ _ => by simp)) (ints_by hb) (by rw [ints_length]; omega) (fun _ k hk => hold k hk) hl)
 rw [nats_ints] at WR
 obtain ⟨vo, vc, rfl⟩ := hv.slice
 have E : Hid (∀ w', Turns (w.drewN 1) F (BayT b (y.write s at_ x)) w' → ∃ F', Side w0 w' (BayT b (y.write s at_ x) F' :: devT D b s br :: ts)) := fun w' t => H1.act 0 rfl t
 obtain ⟨er, her⟩ : ∃ er, er = y.writeErr s at_ x := ⟨_, rfl⟩
 rw [← her] at WR ⊢
 clear H H1 hs ha hv hb hx hold hl her B
 go_enter Tryz.func127, Tryz.ntmps127
 go_wp2_with fail
 go_still_tail 7, (by kernel_rfl)
 change wpList _ _ _ _ _ (w.drewN 1)
 go_wp2_with fail
 refine WR.out.mono ?_
 rintro e w1 ⟨rfl, T⟩
 have T2 := Lib.hid (E.out _ T.out)
 clear WR E T
 go_wp2_with fail
 go_ret
 exact ⟨_, rfl, rfl, T2.out⟩

set_option maxHeartbeats 2000000 in
set_option maxRecDepth 100000 in
theorem dvwrite_any {w0 w : World} {ts : List Thing} {b D : Nat} {F : List Nat} {s : Int} {io : Wl.Io} (H : Side w0 w (dts b D s io F ts)) (hs : I64 s) (at_ : Int) (ha : I64 at_) (v : Value) (x : List Nat) (hv : Sl w v (ints x)) (hb : Bs x) (hx : x.length ≤ 100000)
 (hold : ∀ k, v.ownBlock = some k → k ∉ F ∧ k < w.heap.size) (hl : io.1.Low 1000000000) :
 Calls Tryz.prog 52 #[.pointer (some ⟨D, 0, none⟩), .int .i64 at_, v] w fun e w' => e = .returned (.tuple #[]) ∧ ∃ F', Hid (Side w0 w' (dts b D s (Wl.wr s io at_ x) F' ts)) := by
 obtain ⟨y, br⟩ := io
 obtain ⟨wB, hwB⟩ : ∃ wB, wB = ((w.alloc (.cells #[.pointer (some ⟨D, 0, none⟩)] 113)).alloc (.cells #[.int .i64 at_] 3)).alloc (.cells #[v] 65) := ⟨_, rfl⟩
 have CB : Chg [] w wB := by rw [hwB]; exact (((Chg.refl _ _).alloc _).alloc _).alloc _
 have A1 : wB.cell? ⟨w.heap.size, 0, none⟩ = some (.pointer (some ⟨D, 0, none⟩)) := by rw [hwB]; exact (((Blk.made w [.pointer (some ⟨D, 0, none⟩)] _).alloc _).alloc _).cell (j := 0) rfl
 have A2 : wB.cell? ⟨w.heap.size + 1, 0, none⟩ = some (.int .i64 at_) := by
  rw [hwB]
  have := ((Blk.made (w.alloc (.cells #[.pointer (some ⟨D, 0, none⟩)] 113)) [.int .i64 at_] 3).alloc (.cells #[v] 65)).cell (j := 0) rfl
  rw [show (w.alloc (.cells #[.pointer (some ⟨D, 0, none⟩)] 113)).heap.size = w.heap.size + 1 from by simp] at this
  exact this
 have A3 : wB.cell? ⟨w.heap.size + 2, 0, none⟩ = some v := by
  rw [hwB]
  have := (Blk.made ((w.alloc (.cells #[.pointer (some ⟨D, 0, none⟩)] 113)).alloc (.cells #[.int .i64 at_] 3)) [v] 65).cell (j := 0) rfl
  rw [show ((w.alloc (.cells #[.pointer (some ⟨D, 0, none⟩)] 113)).alloc (.cells #[.int .i64 at_] 3)).heap.size = w.heap.size + 2 from by simp] at this
  exact this
 have HB := H.quiet CB
 have DO := Lib.hid (do_any D b s br wB (HB.get 1 rfl) 127 #[.pointer (some ⟨w.heap.size, 0, none⟩), .pointer (some ⟨w.heap.size + 1, 0, none⟩), .pointer (some ⟨w.heap.size + 2, 0, none⟩)] enters_dvwrite
  (fun n w' => br = 0 ∧ n = (y.writeErr s at_ x : Nat) ∧ ∃ F', Side w0 w' (BayT b (y.write s at_ x) F' :: devT D b s br :: ts)) (fun n w' h => by
   obtain ⟨rfl, _, F', h⟩ := h
   have B : Blk w' D 115 (devV b s 0) := h.get 1 rfl
   exact ⟨B.cell (j := 2) rfl, B.free 2⟩) (fun h0 => by
   show Calls _ _ #[_, _, _, _] wB _
   refine (dvwrite1_any HB hs at_ ha v x (hv.chgNil CB) hb hx (fun k hk => ⟨(hold k hk).1, Nat.lt_of_lt_of_le (hold k hk).2 CB.size⟩) hl _ _ _ A1 A2 A3).mono ?_
   rintro e w' ⟨n, h1, h2, h3⟩
   exact ⟨n, h1, h0, h2, h3⟩))
 have E : Hid (∀ w', ((br ≠ 0 ∧ w' = wB) ∨ (br = 0 ∧ ∃ (n : Int) (w1 : World), (br = 0 ∧ n = (y.writeErr s at_ x : Nat) ∧ ∃ F', Side w0 w1 (BayT b (y.write s at_ x) F' :: devT D b s br :: ts)) ∧ w' = w1.setCell ⟨D, 2, none⟩ (.int .u16 n))) → ∃ F', Side w0 w' (dts b D s (Wl.wr s (y, br) at_ x) F' ts)) := fun w' h => by
  rcases h with ⟨h0, rfl⟩ | ⟨rfl, n, w1, ⟨_, rfl, F', h⟩, rfl⟩
  ·have e : Wl.wr s (y, br) at_ x = (y, br) := by unfold Wl.wr; rw [if_neg h0]
   rw [e]
   exact ⟨F, HB⟩
  ·have e : Wl.wr s (y, 0) at_ x = (y.write s at_ x, y.writeErr s at_ x) := by unfold Wl.wr; rw [if_pos rfl]
   rw [e]
   exact ⟨F', h.brk 1 rfl _⟩
 have hmf : ∀ (fn : Fn) (first cap : Array Value) (w : World), (Instr.makeFunc fn first cap).run Tryz.prog w = .ok (.func fn first cap) w := fun _ _ _ _ => rfl
 obtain ⟨vo, vc, rfl⟩ := hv.slice
 rw [hwB] at DO E
 clear H HB hs ha hv hb hx hold hl hwB CB A1 A2 A3
 go_enter Tryz.func52, Tryz.ntmps52
 go_wp2_with fail
 refine DO.out.mono ?_
 rintro e w1 ⟨rfl, q⟩
 obtain ⟨F', h⟩ := E.out _ q
 replace h := Lib.hid h
 clear DO E q
 go_wp2_with fail
 go_end0
 exact ⟨rfl, F', h⟩

set_option maxHeartbeats 2000000 in
set_option maxRecDepth 100000 in
theorem dvflush_any {w0 w : World} {ts : List Thing} {b D : Nat} {F : List Nat} {s : Int} {io : Wl.Io} (H : Side w0 w (dts b D s io F ts)) (hs : I64 s) (hl : io.1.Low 1000000000) :
 Calls Tryz.prog 107 #[.pointer (some ⟨D, 0, none⟩)] w fun e w' => e = .returned (.tuple #[]) ∧ ∃ F', Hid (Side w0 w' (dts b D s (Wl.fl s io) F' ts)) := by
 obtain ⟨y, br⟩ := io
 have B : Blk w D 115 (devV b s br) := H.get 1 rfl
 have c0 : w.cell? ⟨D, 0, none⟩ = some (.pointer (some ⟨b, 0, none⟩)) := B.cell (j := 0) rfl
 have c1 : w.cell? ⟨D, 1, none⟩ = some (.int .i64 s) := B.cell (j := 1) rfl
 have c2 : w.cell? ⟨D, 2, none⟩ = some (.int .u16 ((br : Nat) : Int)) := B.cell (j := 2) rfl
 have hmf : ∀ (fn : Fn) (first cap : Array Value) (w : World), (Instr.makeFunc fn first cap).run Tryz.prog w = .ok (.func fn first cap) w := fun _ _ _ _ => rfl
 by_cases h0 : br = 0
 ·subst h0
  have FL := Lib.hid (bflush_any b F y w (H.get 0 rfl) s hs hl)
  have DO : Hid (Calls Tryz.prog 126 #[.pointer (some ⟨D, 0, none⟩), .func (.func 165) #[.pointer (some ⟨b, 0, none⟩)] #[]] w fun e w' => e = .returned (.tuple #[]) ∧ ∃ F', Hid (Side w0 w' (dts b D s (y.flush s, y.flushErr s) F' ts))) := by
   have E : Hid (∀ w', Turns w F (BayT b (y.flush s)) w' → w'.cell? ⟨D, 2, none⟩ = some (.int .u16 0) ∧ w'.frozen? ⟨D, 2, none⟩ = false ∧ ∃ F', Side w0 (w'.setCell ⟨D, 2, none⟩ (.int .u16 ((y.flushErr s : Nat) : Int))) (dts b D s (y.flush s, y.flushErr s) F' ts)) := fun w' t => by
    obtain ⟨F', h⟩ := H.act 0 rfl t
    have B2 : Blk w' D 115 (devV b s 0) := h.get 1 rfl
    exact ⟨B2.cell (j := 2) rfl, B2.free 2, F', h.brk 1 rfl _⟩
   obtain ⟨er, her⟩ : ∃ er, er = y.flushErr s := ⟨_, rfl⟩
   rw [← her] at FL E ⊢
   clear H hs hl her B hmf
   show Calls _ _ _ _ _
   go_enter Tryz.func126, Tryz.ntmps126
   go_wp2_with (go_at_call 165; refine FL.out.mono ?_; rintro e w1 ⟨rfl, T⟩; obtain ⟨d2, f2, F', h⟩ := E.out _ T.out; replace h := Lib.hid h; clear FL E T c0 c1 c2)
   go_end0
   exact ⟨rfl, F', h⟩
  have e : Wl.fl s (y, 0) = (y.flush s, y.flushErr s) := by unfold Wl.fl; rw [if_pos rfl]
  rw [e]
  clear H hs hl e B FL c1 c2
  go_enter Tryz.func107, Tryz.ntmps107
  go_wp2_with (go_at_call 126; refine DO.out.mono ?_; rintro e w1 ⟨rfl, F', h⟩)
  go_end0
  exact ⟨rfl, F', h⟩
 ·have h1 : ¬ ((br : Nat) : Int) = 0 := by omega
  have e : Wl.fl s (y, br) = (y, br) := by unfold Wl.fl; rw [if_neg h0]
  rw [e]
  have HH : Hid (Side w0 w (dts b D s (y, br) F ts)) := H
  have DO : Hid (Calls Tryz.prog 126 #[.pointer (some ⟨D, 0, none⟩), .func (.func 165) #[.pointer (some ⟨b, 0, none⟩)] #[]] w fun e w' => e = .returned (.tuple #[]) ∧ w' = w) := by
   clear H HH hs hl e B hmf h0 c0 c1
   generalize ((br : Nat) : Int) = BR at *
   show Calls _ _ _ _ _
   go_enter Tryz.func126, Tryz.ntmps126
   go_wp2_with fail
   go_end0
   exact ⟨rfl, rfl⟩
  clear H hs hl e B h0 c1 c2 h1
  go_enter Tryz.func107, Tryz.ntmps107
  go_wp2_with (go_at_call 126; refine DO.out.mono ?_; rintro e w1 ⟨rfl, rfl⟩)
  go_end0
  exact ⟨rfl, F, HH⟩

set_option maxHeartbeats 2000000 in
set_option maxRecDepth 100000 in
theorem dvcheck_any {w0 w : World} {ts : List Thing} {b D : Nat} {F : List Nat} {s : Int} {io : Wl.Io} (H : Side w0 w (dts b D s io F ts)) (hs : I64 s) (v : Value) (x : List Nat) (hv : Sl w v (ints x)) (hb : Bs x) (hx : x.length ≤ 100000)
 (hold : ∀ k, v.ownBlock = some k → k ∉ F ∧ k < w.heap.size) (hl : io.1.Low 999999999) :
 Calls Tryz.prog 53 #[.pointer (some ⟨D, 0, none⟩), v] w fun e w' => e = .returned (.tuple #[]) ∧ ∃ F', Hid (Side w0 w' (dts b D s (Wl.fl s (Wl.wr s io 1 x)) F' ts)) := by
 have WR := Lib.hid (dvwrite_any H hs 1 ⟨by decide, by decide⟩ v x hv hb hx hold (hl.mono (by decide)))
 have FL : Hid (∀ w' F', Side w0 w' (dts b D s (Wl.wr s io 1 x) F' ts) → Calls Tryz.prog 107 #[.pointer (some ⟨D, 0, none⟩)] w' fun e w'' => e = .returned (.tuple #[]) ∧ ∃ F'', Hid (Side w0 w'' (dts b D s (Wl.fl s (Wl.wr s io 1 x)) F'' ts))) := fun w' F' h => dvflush_any h hs (Wl.wr_low hl 1 x)
 obtain ⟨vo, vc, rfl⟩ := hv.slice
 clear H hs hv hb hx hold hl
 go_enter Tryz.func53, Tryz.ntmps53
 go_wp2_with (first
  | (go_at_call 52; refine WR.out.mono ?_; rintro e w1 ⟨rfl, F', h⟩; have F2 := Lib.hid (FL.out _ _ h.out); clear WR FL h)
  | (go_at_call 107; refine F2.out.mono ?_; rintro e w1 ⟨rfl, F'', h⟩; clear F2))
 go_end0
 exact ⟨rfl, F'', h⟩

theorem Side.blkSet {w0 w : World} {ts : List Thing} (H : Side w0 w ts) (i : Nat) {g : Nat} {e : TypeId} {vs : List Value} (hi : ts[i]? = some (blkT g e vs)) (j : Nat) (u : Value) : Side w0 (w.setCell ⟨g, j, none⟩ u) (ts.set i (blkT g e (vs.set j u))) := by
 have B : Blk w g e vs := H.get i hi
 exact H.turnAt i hi (s := [g]) ((Chg.refl _ _).setCell (.inl (by simp)) _) (fun k hk => .inl hk) (B.set j u) (fun k hk => .inl hk)

set_option maxHeartbeats 4000000 in
set_option maxRecDepth 100000 in
theorem dvread1_any {w0 w : World} {ts : List Thing} {b D p1 p2 p3 : Nat} {y : Bay} {F : List Nat} {s at_ : Int} {br : Nat}
 (H : Side w0 w (BayT b y F :: devT D b s br :: blkT p3 65 [.slice none 0 0] :: blkT p1 113 [.pointer (some ⟨D, 0, none⟩)] :: blkT p2 3 [.int .i64 at_] :: ts)) (hs : I64 s) (ha : I64 at_) (hl : y.Low 1000000000) :
 Calls Tryz.prog 171 #[.int .i64 s, .pointer (some ⟨p1, 0, none⟩), .pointer (some ⟨p2, 0, none⟩), .pointer (some ⟨p3, 0, none⟩)] w fun e w' => ∃ n : Int, e = .returned (.int .u16 n) ∧ n = (y.readErr s at_ : Nat) ∧ ∃ u t F', Side w0 w' (ownT t u (ub (y.readVal s at_)) :: BayT b (y.read s) F' :: devT D b s br :: blkT p3 65 [u] :: ts) := by
 have H1 := H.quiet ((Chg.refl [] w).drewN 1)
 have RD := Lib.hid (bread_any b F y (w.drewN 1) (H1.get 0 rfl) s at_ hs ha hl)
 have CS : Hid (∀ w' ts', Side w0 w' (BayT b (y.read s) ts' :: devT D b s br :: blkT p3 65 [.slice none 0 0] :: blkT p1 113 [.pointer (some ⟨D, 0, none⟩)] :: blkT p2 3 [.int .i64 at_] :: ts) → True) := fun _ _ _ => trivial
 have q1 : w.cell? ⟨p1, 0, none⟩ = some (.pointer (some ⟨D, 0, none⟩)) := (H.get 3 rfl : Blk w p1 _ _).cell (j := 0) rfl
 have q2 : w.cell? ⟨p2, 0, none⟩ = some (.int .i64 at_) := (H.get 4 rfl : Blk w p2 _ _).cell (j := 0) rfl
 have q3 : w.cell? ⟨D, 0, none⟩ = some (.pointer (some ⟨b, 0, none⟩)) := (H.get 1 rfl : Blk w D _ (devV b s br)).cell (j := 0) rfl
 have FIN : Hid (∀ w1 u, TurnsGives (w.drewN 1) F (BayT b (y.read s)) u (y.readVal s at_) w1 →
  (w1.cell? ⟨p1, 0, none⟩ = some (.pointer (some ⟨D, 0, none⟩)) ∧ w1.cell? ⟨p2, 0, none⟩ = some (.int .i64 at_) ∧ w1.cell? ⟨D, 0, none⟩ = some (.pointer (some ⟨b, 0, none⟩))) ∧
  ((w1.setCell ⟨p3, 0, none⟩ u).cell? ⟨p1, 0, none⟩ = some (.pointer (some ⟨D, 0, none⟩)) ∧ (w1.setCell ⟨p3, 0, none⟩ u).cell? ⟨p2, 0, none⟩ = some (.int .i64 at_) ∧ (w1.setCell ⟨p3, 0, none⟩ u).cell? ⟨D, 0, none⟩ = some (.pointer (some ⟨b, 0, none⟩))) ∧
  w1.cell? ⟨p3, 0, none⟩ = some (.slice none 0 0) ∧ w1.frozen? ⟨p3, 0, none⟩ = false ∧ (∃ uo m uc, u = .slice uo m uc) ∧
  ∃ t F', Side w0 (w1.setCell ⟨p3, 0, none⟩ u) (ownT t u (ub (y.readVal s at_)) :: BayT b (y.read s) F' :: devT D b s br :: blkT p3 65 [u] :: ts)) := fun w1 u T => by
  obtain ⟨t, F', h⟩ := H1.actOwn 0 rfl T
  have h2 := h.blkSet 3 rfl 0 u
  refine ⟨⟨(h.get 4 rfl : Blk w1 p1 _ _).cell (j := 0) rfl, (h.get 5 rfl : Blk w1 p2 _ _).cell (j := 0) rfl, (h.get 2 rfl : Blk w1 D _ (devV b s br)).cell (j := 0) rfl⟩,
   ⟨(h2.get 4 rfl : Blk _ p1 _ _).cell (j := 0) rfl, (h2.get 5 rfl : Blk _ p2 _ _).cell (j := 0) rfl, (h2.get 2 rfl : Blk _ D _ (devV b s br)).cell (j := 0) rfl⟩,
   (h.get 3 rfl : Blk w1 p3 _ _).cell (j := 0) rfl, (h.get 3 rfl : Blk w1 p3 _ _).free 0, ?_, t, F', ?_⟩
  ·obtain ⟨_, _, _, _, _, o, _⟩ := T
   obtain ⟨uo, uc, e⟩ := owns_slice o
   exact ⟨uo, _, uc, e⟩
  exact h2.sub (.cons_cons _ (.cons_cons _ (.cons_cons _ (.cons_cons _ (.cons _ (.cons _ (List.Sublist.refl _)))))))
 have Q0 : Hid ((w.drewN 1).cell? ⟨p1, 0, none⟩ = some (.pointer (some ⟨D, 0, none⟩)) ∧ (w.drewN 1).cell? ⟨p2, 0, none⟩ = some (.int .i64 at_) ∧ (w.drewN 1).cell? ⟨D, 0, none⟩ = some (.pointer (some ⟨b, 0, none⟩))) := ⟨q1, q2, q3⟩
 obtain ⟨er, her⟩ : ∃ er, er = y.readErr s at_ := ⟨_, rfl⟩
 obtain ⟨rv, hrv⟩ : ∃ rv, rv = y.readVal s at_ := ⟨_, rfl⟩
 rw [← her, ← hrv] at RD ⊢
 rw [← hrv] at FIN
 clear H H1 hs ha hl her hrv CS
 go_enter Tryz.func171, Tryz.ntmps171
 go_wp2_with fail
 go_region_held3 (fun w' : World => w'.cell? ⟨p1, 0, none⟩ = some (.pointer (some ⟨D, 0, none⟩)) ∧ w'.cell? ⟨p2, 0, none⟩ = some (.int .i64 at_) ∧ w'.cell? ⟨D, 0, none⟩ = some (.pointer (some ⟨b, 0, none⟩))) (first | exact ⟨q1, q2, q3⟩ | exact Q0.out | exact K1.out | exact K2.out) (first
  | (go_at_call 172; refine RD.out.mono ?_; rintro e w1 ⟨u, rfl, T⟩; obtain ⟨k1, k2, c1, f1, ⟨uo, um, uc, rfl⟩, N1⟩ := FIN.out w1 u T.out; have K1 := Lib.hid k1; have K2 := Lib.hid k2; clear k1 k2; replace N1 := Lib.hid N1; clear T))
 all_goals (clear K1 K2 Q0 RD FIN c1 f1 q1 q2 q3; go_wp2_with fail; go_ret; exact ⟨_, rfl, rfl, _, N1.out⟩)

theorem Side.newBlk {w0 w : World} {ts : List Thing} (H : Side w0 w ts) (e : TypeId) (vs : List Value) : Side w0 (w.alloc (.cells vs.toArray e)) (blkT w.heap.size e vs :: ts) :=
 H.add ((Chg.refl _ _).alloc _) (Blk.made w vs e) (fun k hk => by rw [List.mem_singleton.1 hk]; exact Nat.le_refl _)

set_option maxHeartbeats 4000000 in
set_option maxRecDepth 100000 in
theorem dvread_any {w0 w : World} {ts : List Thing} {b D : Nat} {F : List Nat} {s : Int} {io : Wl.Io} (H : Side w0 w (dts b D s io F ts)) (hs : I64 s) (at_ : Int) (ha : I64 at_) (hl : io.1.Low 1000000000) :
 Calls Tryz.prog 115 #[.pointer (some ⟨D, 0, none⟩), .int .i64 at_] w fun e w' => ∃ u, e = .returned u ∧ ∃ t F', Hid (Side w0 w' (ownT t u (ub (Wl.rdV s io at_)) :: dts b D s (Wl.rd s io at_) F' ts)) := by
 obtain ⟨y, br⟩ := io
 obtain ⟨wB, hwB⟩ : ∃ wB, wB = ((w.alloc (.cells #[.pointer (some ⟨D, 0, none⟩)] 113)).alloc (.cells #[.int .i64 at_] 3)).alloc (.cells #[.slice none 0 0] 65) := ⟨_, rfl⟩
 have z1 : (w.alloc (.cells #[.pointer (some ⟨D, 0, none⟩)] 113)).heap.size = w.heap.size + 1 := by simp
 have z2 : ((w.alloc (.cells #[.pointer (some ⟨D, 0, none⟩)] 113)).alloc (.cells #[.int .i64 at_] 3)).heap.size = w.heap.size + 2 := by simp
 have HB : Side w0 wB (BayT b y F :: devT D b s br :: blkT (w.heap.size + 2) 65 [.slice none 0 0] :: blkT w.heap.size 113 [.pointer (some ⟨D, 0, none⟩)] :: blkT (w.heap.size + 1) 3 [.int .i64 at_] :: ts) := by
  have h1 := ((H.newBlk 113 [.pointer (some ⟨D, 0, none⟩)]).newBlk 3 [.int .i64 at_]).newBlk 65 [.slice none 0 0]
  rw [hwB]
  rw [z1, z2] at h1
  exact h1.perm ((((List.perm_append_comm (l₁ := [_, _, _]) (l₂ := [_, _]))).append_right ts).trans (by
   show ([_, _, _, _, _] ++ ts).Perm _
   exact List.Perm.cons _ (List.Perm.cons _ (List.Perm.cons _ (List.Perm.swap _ _ _)))))
 have DO := Lib.hid (do_any D b s br wB (HB.get 1 rfl) 171 #[.pointer (some ⟨w.heap.size, 0, none⟩), .pointer (some ⟨w.heap.size + 1, 0, none⟩), .pointer (some ⟨w.heap.size + 2, 0, none⟩)] enters_dvread
  (fun n w' => br = 0 ∧ n = (y.readErr s at_ : Nat) ∧ ∃ u t F', Side w0 w' (ownT t u (ub (y.readVal s at_)) :: BayT b (y.read s) F' :: devT D b s br :: blkT (w.heap.size + 2) 65 [u] :: ts)) (fun n w' h => by
   obtain ⟨rfl, _, u, t, F', h⟩ := h
   have B : Blk w' D 115 (devV b s 0) := h.get 2 rfl
   exact ⟨B.cell (j := 2) rfl, B.free 2⟩) (fun h0 => by
   show Calls _ _ #[_, _, _, _] wB _
   refine (dvread1_any HB hs ha hl).mono ?_
   rintro e w' ⟨n, h1, h2, h3⟩
   exact ⟨n, h1, h0, h2, h3⟩))
 have E : Hid (∀ w', ((br ≠ 0 ∧ w' = wB) ∨ (br = 0 ∧ ∃ (n : Int) (w1 : World), (br = 0 ∧ n = (y.readErr s at_ : Nat) ∧ ∃ u t F', Side w0 w1 (ownT t u (ub (y.readVal s at_)) :: BayT b (y.read s) F' :: devT D b s br :: blkT (w.heap.size + 2) 65 [u] :: ts)) ∧ w' = w1.setCell ⟨D, 2, none⟩ (.int .u16 n))) →
  ∃ u t F', w'.cell? ⟨w.heap.size + 2, 0, none⟩ = some u ∧ Side w0 w' (ownT t u (ub (Wl.rdV s (y, br) at_)) :: dts b D s (Wl.rd s (y, br) at_) F' ts)) := fun w' h => by
  rcases h with ⟨h0, rfl⟩ | ⟨rfl, n, w1, ⟨_, rfl, u, t, F', h⟩, rfl⟩
  ·have e : Wl.rd s (y, br) at_ = (y, br) := by unfold Wl.rd; rw [if_neg h0]
   have e2 : Wl.rdV s (y, br) at_ = [] := by unfold Wl.rdV; rw [if_neg h0]
   rw [e, e2]
   have h2 : Side w0 w' (dts b D s (y, br) F ts) := HB.sub (.cons_cons _ (.cons_cons _ (.cons _ (.cons _ (.cons _ (List.Sublist.refl _))))))
   exact ⟨.slice none 0 0, 5, F, (HB.get 2 rfl : Blk w' _ _ _).cell (j := 0) rfl, h2.own (World.ownsRow_nil _ _ _ _) (Chg.refl _ _)⟩
  ·have e : Wl.rd s (y, 0) at_ = (y.read s, y.readErr s at_) := by unfold Wl.rd; rw [if_pos rfl]
   have e2 : Wl.rdV s (y, 0) at_ = y.readVal s at_ := by unfold Wl.rdV; rw [if_pos rfl]
   rw [e, e2]
   have h2 := h.brk 2 rfl (y.readErr s at_)
   exact ⟨u, t, F', (h2.get 3 rfl : Blk _ _ _ _).cell (j := 0) rfl, h2.sub (.cons_cons _ (.cons_cons _ (.cons_cons _ (.cons _ (List.Sublist.refl _)))))⟩
 have hmf : ∀ (fn : Fn) (first cap : Array Value) (w : World), (Instr.makeFunc fn first cap).run Tryz.prog w = .ok (.func fn first cap) w := fun _ _ _ _ => rfl
 rw [hwB] at DO E
 clear H HB hs ha hl hwB z1 z2
 go_enter Tryz.func115, Tryz.ntmps115
 go_wp2_with fail
 refine DO.out.mono ?_
 rintro e w1 ⟨rfl, q⟩
 obtain ⟨u, t, F', c, h⟩ := E.out _ q
 replace h := Lib.hid h
 clear DO E q
 go_wp2_with fail
 go_ret
 exact ⟨_, rfl, t, F', h⟩

end Go.Proofs.YtkafkdlgflkjgaaGreat

/-
  The journal's device: what the operations so far were for, unless one has failed. By an AI agent.
-/
namespace Go.Proofs.YtkafkdlgflkjgaaGreat
open Go.RowKit Go.Maps

theorem enters_then (args : Array Value) (w : World) : (callFunc 166 args).run Tryz.prog w = .ok (.enter 166 args) w := by
 have h1 : (Tryz.f166.name == "runtime.NumGoroutine") = false := by kernel_rfl
 have h2 : Tryz.f166.body.isNone = false := by kernel_rfl
 have h3 : ¬ Tryz.f166.name = "runtime.NumGoroutine" := by simpa using h1
 have h4 : ¬ Tryz.f166.body = none := fun e => by rw [e] at h2; cases h2
 simp [callFunc, go_sem, Tryz.func166, h3, h4]

set_option maxHeartbeats 2000000 in
set_option maxRecDepth 100000 in
theorem then1_any (s : Int) (p : Nat) (w : World) (fn : Nat) (caps : Array Value) (hen : ∀ (args : Array Value) (w : World), (callFunc fn args).run Tryz.prog w = .ok (.enter fn args) w)
 (c : w.cell? ⟨p, 0, none⟩ = some (.func (.func fn) #[] caps)) (R : World → Prop) (hfn : Calls Tryz.prog fn caps w (fun e w' => e = .returned (.tuple #[]) ∧ R w')) :
 Calls Tryz.prog 166 #[.int .i64 s, .pointer (some ⟨p, 0, none⟩)] w fun e w' => ∃ n : Int, e = .returned (.int .u16 n) ∧ n = 0 ∧ R w' := by
 have HF := Lib.hid hfn
 clear hfn
 go_enter Tryz.func166, Tryz.ntmps166
 go_wp2_with fail
 refine HF.out.mono ?_
 rintro e w1 ⟨rfl, q⟩
 replace q := Lib.hid q
 clear HF c
 go_wp2_with fail
 go_ret
 exact ⟨_, rfl, rfl, q.out⟩

set_option maxHeartbeats 2000000 in
set_option maxRecDepth 100000 in
theorem then_any (D b : Nat) (s : Int) (br : Nat) (w : World) (hD : Blk w D 115 (devV b s br)) (fn : Nat) (caps : Array Value)
 (hen : ∀ (args : Array Value) (w : World), (callFunc fn args).run Tryz.prog w = .ok (.enter fn args) w)
 (R : World → Prop) (hR : ∀ w', R w' → Blk w' D 115 (devV b s 0))
 (hfn : br = 0 → ∀ w1, Chg [] w w1 → Calls Tryz.prog fn caps w1 (fun e w' => e = .returned (.tuple #[]) ∧ R w')) :
 Calls Tryz.prog 108 #[.pointer (some ⟨D, 0, none⟩), .func (.func fn) #[] caps] w fun e w' =>
  e = .returned (.int .u16 ((br : Nat) : Int)) ∧ ((br ≠ 0 ∧ Chg [] w w') ∨ (br = 0 ∧ ∃ w1, R w1 ∧ w' = w1.setCell ⟨D, 2, none⟩ (.int .u16 0))) := by
 obtain ⟨wB, hwB⟩ : ∃ wB, wB = w.alloc (.cells #[.func (.func fn) #[] caps] 1) := ⟨_, rfl⟩
 have CB : Chg [] w wB := by rw [hwB]; exact (Chg.refl _ _).alloc _
 have A1 : wB.cell? ⟨w.heap.size, 0, none⟩ = some (.func (.func fn) #[] caps) := by rw [hwB]; exact (Blk.made w [.func (.func fn) #[] caps] _).cell (j := 0) rfl
 have BD : Blk wB D 115 (devV b s br) := hD.chg CB (by simp)
 have DO := Lib.hid (do_any D b s br wB BD 166 #[.pointer (some ⟨w.heap.size, 0, none⟩)] enters_then (fun n w' => br = 0 ∧ n = 0 ∧ R w') (fun n w' h => by
  have B := hR w' h.2.2
  exact ⟨B.cell (j := 2) rfl, B.free 2⟩) (fun h0 => by
  show Calls _ _ #[_, _] wB _
  refine (then1_any s _ wB fn caps hen A1 R (hfn h0 wB CB)).mono ?_
  rintro e w' ⟨n, h1, h2, h3⟩
  exact ⟨n, h1, h0, h2, h3⟩))
 have E : Hid (∀ w', ((br ≠ 0 ∧ w' = wB) ∨ (br = 0 ∧ ∃ (n : Int) (w1 : World), (br = 0 ∧ n = 0 ∧ R w1) ∧ w' = w1.setCell ⟨D, 2, none⟩ (.int .u16 n))) →
  w'.cell? ⟨D, 2, none⟩ = some (.int .u16 ((br : Nat) : Int)) ∧ ((br ≠ 0 ∧ Chg [] w w') ∨ (br = 0 ∧ ∃ w1, R w1 ∧ w' = w1.setCell ⟨D, 2, none⟩ (.int .u16 0)))) := fun w' h => by
  rcases h with ⟨h0, rfl⟩ | ⟨rfl, n, w1, ⟨_, rfl, q⟩, rfl⟩
  ·exact ⟨BD.cell (j := 2) rfl, .inl ⟨h0, CB⟩⟩
  ·exact ⟨((hR w1 q).set 2 (.int .u16 0)).cell (j := 2) rfl, .inr ⟨rfl, w1, q, rfl⟩⟩
 have hmf : ∀ (fn : Fn) (first cap : Array Value) (w : World), (Instr.makeFunc fn first cap).run Tryz.prog w = .ok (.func fn first cap) w := fun _ _ _ _ => rfl
 rw [hwB] at DO E
 clear hD hR hfn hwB CB A1 BD hen
 go_enter Tryz.func108, Tryz.ntmps108
 go_wp2_with fail
 refine DO.out.mono ?_
 rintro e w1 ⟨rfl, q⟩
 obtain ⟨c, h⟩ := E.out _ q
 replace h := Lib.hid h
 clear DO E q
 go_wp2_with fail
 go_ret
 exact ⟨rfl, h.out⟩

end Go.Proofs.YtkafkdlgflkjgaaGreat
