/-
  The journal's calls: Seal, Reclaim, Renew. By an AI agent.
-/
import Derived.Test.YtkafkdlgflkjgaaGreatBWlClo
import Derived.Test.YtkafkdlgflkjgaaGreatBRcPk
namespace Go.Proofs.YtkafkdlgflkjgaaGreat
open Go.RowKit Go.Maps

theorem nil_eql (w : World) : (binOp .eql 65 (.slice none 0 0) (.slice none 0 0)).run Tryz.prog w = .ok (.bool true) w := Lib.run_eql_slice_nil w _ _ none 0 0 0 0 Tryz.underlying65
theorem not_nil (g : Addr) (n k : Nat) (w : World) : (binOp .eql 65 (.slice (some g) n k) (.slice none 0 0)).run Tryz.prog w = .ok (.bool false) w := Lib.run_eql_slice_nil w _ _ (some g) n k 0 0 Tryz.underlying65

set_option maxHeartbeats 4000000 in
set_option maxRecDepth 100000 in
theorem wseal_any {w0 w : World} {b W D R : Nat} {J : Wl.Jn} {cv : Value} {y : Bay} {F : List Nat} {ts : List Thing} (H : Side w0 w (jts b W D R J cv y F ts)) (hf : J.Fit) (hs : I64 J.slot) (hl : y.Low 1000000000) :
 Calls Tryz.prog 31 #[.pointer (some ⟨W, 0, none⟩)] w (Ans w0 b W D R cv ts (Wl.sealJ y J)) := by
 obtain ⟨wB, hwB⟩ : ∃ wB, wB = w.alloc (.cells #[.pointer (some ⟨W, 0, none⟩)] 32) := ⟨_, rfl⟩
 have HB : Side w0 wB (jts b W D R J cv y F (blkT w.heap.size 32 [.pointer (some ⟨W, 0, none⟩)] :: ts)) := by rw [hwB]; exact H.behind _ _
 have q0 : wB.cell? ⟨w.heap.size, 0, none⟩ = some (.pointer (some ⟨W, 0, none⟩)) := (HB.get 5 rfl : Blk _ _ _ _).cell (j := 0) rfl
 have BW : Blk wB W 181 (walV D R J cv) := HB.get 2 rfl
 have BD : Blk wB D 115 (devV b J.slot J.br) := HB.get 1 rfl
 have k0 : wB.cell? ⟨W, 0, none⟩ = some (.pointer (some ⟨D, 0, none⟩)) := BW.cell (j := 0) rfl
 have k5 : wB.cell? ⟨W, 5, none⟩ = some (comV cv J.commit) := BW.cell (j := 5) rfl
 have k6 : wB.cell? ⟨W, 6, none⟩ = some (.int .i64 (J.cost : Int)) := BW.cell (j := 6) rfl
 have d2 : wB.cell? ⟨D, 2, none⟩ = some (.int .u16 ((J.br : Nat) : Int)) := BD.cell (j := 2) rfl
 have E : Hid (∃ F', Side w0 wB (jts b W D R J cv y F' ts)) := ⟨F, HB.less⟩
 by_cases hb : J.br = 0
 case neg =>
  have e : Wl.sealJ y J = ⟨(J.br : Nat), y, J⟩ := by unfold Wl.sealJ; rw [if_pos hb]
  rw [e]
  have h1 : ¬ ((J.br : Nat) : Int) = 0 := by omega
  have E2 : Hid (∀ e2, e2 = .returned (.int .u16 ((J.br : Nat) : Int)) → ∀ w', w' = wB → Ans w0 b W D R cv ts ⟨(J.br : Nat), y, J⟩ e2 w') := fun e2 he w' hw => by rw [hw]; exact ⟨he, E.out⟩
  rw [hwB] at q0 k0 d2 E2
  clear H HB hs hl BW BD e hwB hb k5 k6 E hf
  generalize ((J.br : Nat) : Int) = BR at *
  go_enter Tryz.func31, Tryz.ntmps31
  go_wp2_with fail
  go_ret
  exact E2.out _ rfl _ rfl
 rw [hb] at d2
 cases hc : J.commit with
 | none =>
   have e : Wl.sealJ y J = ⟨1, y, J⟩ := by unfold Wl.sealJ; rw [if_neg (fun h => h hb), hc]
   rw [e]
   rw [hc] at k5
   unfold comV at k5
   rw [hwB] at q0 k0 d2 k5 E
   clear H HB hs hl BW BD e hwB hb k6 hf hc
   have nq := nil_eql
   go_enter Tryz.func31, Tryz.ntmps31
   go_wp2_with fail
   go_ret
   exact ⟨rfl, E.out⟩
 | some c =>
   obtain ⟨c1, c2, c3, c4⟩ := hf.com c hc
   have hhi := hf.hi
   obtain ⟨io, hio⟩ : ∃ io, io = Wl.wr J.slot (y, J.br) (J.place (J.cost - 1) : Nat) c := ⟨_, rfl⟩
   have e : Wl.sealJ y J = Wl.ends io J (Wl.sealed J) := by rw [hio]; unfold Wl.sealJ; rw [if_neg (fun h => h hb), hc]
   rw [e]
   have HD := HB.quiet ((Chg.refl [] wB).drewN 1)
   obtain ⟨r1, ⟨g, n, k, r2⟩, r3⟩ := com_row HD hc c1
   have LY : Hid (Calls Tryz.prog 106 #[.pointer (some ⟨W, 0, none⟩), .int .i64 ((J.cost - 1 : Nat) : Int), cv] wB.drew fun e w' => e = .returned (.tuple #[]) ∧ ∃ F', Hid (Side w0 w' (dts b D J.slot io F' (walT W D R J cv :: ringT R J.S J.t J.u :: comT cv J.commit :: blkT w.heap.size 32 [.pointer (some ⟨W, 0, none⟩)] :: ts)))) := by
    rw [hio]
    exact lay_any (io := (y, J.br)) HD hf.rg hs (J.cost - 1) (by omega) cv c r1 c2 (by omega) r3 hl
   have TH : Hid (∀ w1 F', Side w0 w1 (dts b D J.slot io F' (walT W D R J cv :: ringT R J.S J.t J.u :: comT cv J.commit :: blkT w.heap.size 32 [.pointer (some ⟨W, 0, none⟩)] :: ts)) →
    w1.cell? ⟨w.heap.size, 0, none⟩ = some (.pointer (some ⟨W, 0, none⟩)) ∧ w1.cell? ⟨W, 0, none⟩ = some (.pointer (some ⟨D, 0, none⟩)) ∧
    Calls Tryz.prog 108 #[.pointer (some ⟨D, 0, none⟩), .func (.func 110) #[] #[.pointer (some ⟨w.heap.size, 0, none⟩)]] w1 (Ans w0 b W D R cv ts (Wl.ends io J (Wl.sealed J)))) := fun w1 F' h => by
    have B1 : Blk w1 W 181 (walV D R J cv) := h.get 2 rfl
    have RB1 : RingB w1 R J.S J.t J.u := h.get 3 rfl
    have z0 : w1.cell? ⟨w.heap.size, 0, none⟩ = some (.pointer (some ⟨W, 0, none⟩)) := (h.get 5 rfl : Blk _ _ _ _).cell (j := 0) rfl
    have hRW : R ≠ W := fun e => (h.offAt 3 2 rfl rfl (by decide)) R (by simp [ringT]) (by simp [walT, blkT, e])
    have hqW : w.heap.size ≠ W := fun e => (h.offAt 5 2 rfl rfl (by decide)) w.heap.size (by simp [blkT]) (by simp [walT, blkT, e])
    have hqR : w.heap.size ≠ R := fun e => (h.offAt 5 3 rfl rfl (by decide)) w.heap.size (by simp [blkT]) (by simp [ringT, e])
    refine ⟨z0, B1.cell (j := 0) rfl, ?_⟩
    refine (then_gen (vs' := walV D R (Wl.sealed J) cv) (S' := J.S) (t' := J.t) (u' := J.u + J.cost) h 110 _ enters_seal1 (fun h0 w2 c' => ?_)).mono ?_
    ·refine (seal1_any W R _ J.S J.t J.u J.next J.cost _ _ _ _ w2 (B1.chg c' (by simp)) hf.rg (Blk.chg RB1 c' (by simp)) (by omega) hf.next (Ne.symm hRW) ((c'.cell (World.block_lt_of_cell? w1 _ z0) (by simp)).trans z0) hqW hqR).mono ?_
     rintro e w' ⟨h1, h2, h3, h4⟩
     exact ⟨h1, h2, h3, h4⟩
    ·rintro e w' ⟨h1, ⟨h0, h2⟩ | ⟨h0, h2⟩⟩
     ·unfold Wl.ends
      rw [if_neg h0]
      exact ⟨h1, F', h2.out.less⟩
     ·unfold Wl.ends
      rw [if_pos h0]
      rw [h0] at h1
      exact ⟨h1, F', h2.out.less.forget⟩
   have k5' : wB.cell? ⟨W, 5, none⟩ = some cv := by rw [hc] at k5; exact k5
   have hk : (J.cost : Int) - 1 = ((J.cost - 1 : Nat) : Int) := by omega
   obtain ⟨a1, a2⟩ := wrap_in (z := ((J.cost - 1 : Nat) : Int)) (by omega) (by omega)
   obtain ⟨K, hK⟩ : ∃ K, K = ((J.cost - 1 : Nat) : Int) := ⟨_, rfl⟩
   rw [← hK] at LY hk a1 a2
   rw [hwB] at q0 k0 k5' k6 d2 LY
   clear H HB HD hs hl BW BD e hwB hb k5 hf hc c1 c2 c3 c4 hio E r1 r3 hK hhi
   subst r2
   generalize (J.cost : Int) = CC at *
   have nq := not_nil g n k
   have hmf : ∀ (fn : Fn) (first cap : Array Value) (w : World), (Instr.makeFunc fn first cap).run Tryz.prog w = .ok (.func fn first cap) w := fun _ _ _ _ => rfl
   go_enter Tryz.func31, Tryz.ntmps31
   go_wp2_with fail
   generalize (w.alloc (.cells #[.pointer (some ⟨W, 0, none⟩)] 32)) = wC at *
   go_still_tail 10, (by kernel_rfl)
   change wpList _ _ _ _ _ (World.drew _)
   go_wp2_with (first
    | (go_at_call 106; refine LY.out.mono ?_; rintro e w1 ⟨rfl, F', h⟩; obtain ⟨z0, z1, TN⟩ := TH.out w1 F' h.out; replace TN := Lib.hid TN; clear LY TH h q0 k0 k5' k6 d2)
    | (go_at_call 108; refine TN.out.mono ?_; rintro e w2 ⟨rfl, A⟩; replace A := Lib.hid A; clear TN z0 z1))
   go_ret
   exact ⟨rfl, A.out⟩

set_option maxHeartbeats 4000000 in
set_option maxRecDepth 100000 in
theorem wpass_any {w0 w : World} {b W D R : Nat} {J : Wl.Jn} {cv : Value} {y : Bay} {F : List Nat} {ts : List Thing} (H : Side w0 w (jts b W D R J cv y F ts)) (hf : J.Fit) (hs : I64 J.slot) (hl : y.Low 999999999) (ep : Nat) (hep : ep < 18446744073709551616) :
 Calls Tryz.prog 113 #[.pointer (some ⟨W, 0, none⟩), .int .u64 (ep : Int)] w (Ans w0 b W D R cv ts (Wl.passJ y J ep)) := by
 obtain ⟨wB, hwB⟩ : ∃ wB, wB = (w.alloc (.cells #[.pointer (some ⟨W, 0, none⟩)] 32)).alloc (.cells #[.int .u64 (ep : Int)] 23) := ⟨_, rfl⟩
 have z1 : (w.alloc (.cells #[.pointer (some ⟨W, 0, none⟩)] 32)).heap.size = w.heap.size + 1 := by simp
 have HB : Side w0 wB (jts b W D R J cv y F (blkT (w.heap.size + 1) 23 [.int .u64 (ep : Int)] :: blkT w.heap.size 32 [.pointer (some ⟨W, 0, none⟩)] :: ts)) := by
  rw [hwB]
  have := (H.behind 32 [.pointer (some ⟨W, 0, none⟩)]).behind 23 [.int .u64 (ep : Int)]
  rw [z1] at this
  exact this
 have q0 : wB.cell? ⟨w.heap.size, 0, none⟩ = some (.pointer (some ⟨W, 0, none⟩)) := (HB.get 6 rfl : Blk _ _ _ _).cell (j := 0) rfl
 have q1 : wB.cell? ⟨w.heap.size + 1, 0, none⟩ = some (.int .u64 (ep : Int)) := (HB.get 5 rfl : Blk _ _ _ _).cell (j := 0) rfl
 have BW : Blk wB W 181 (walV D R J cv) := HB.get 2 rfl
 have BD : Blk wB D 115 (devV b J.slot J.br) := HB.get 1 rfl
 have RB : RingB wB R J.S J.t J.u := HB.get 3 rfl
 have k0 : wB.cell? ⟨W, 0, none⟩ = some (.pointer (some ⟨D, 0, none⟩)) := BW.cell (j := 0) rfl
 have k2 : wB.cell? ⟨W, 2, none⟩ = some (.pointer (some ⟨R, 0, none⟩)) := BW.cell (j := 2) rfl
 have k3 : wB.cell? ⟨W, 3, none⟩ = some (.int .u64 (J.next : Int)) := BW.cell (j := 3) rfl
 have k4 : wB.cell? ⟨W, 4, none⟩ = some (.bool J.sure) := BW.cell (j := 4) rfl
 have d2 : wB.cell? ⟨D, 2, none⟩ = some (.int .u16 ((J.br : Nat) : Int)) := BD.cell (j := 2) rfl
 have E : Hid (∃ F', Side w0 wB (jts b W D R J cv y F' ts)) := ⟨F, HB.less.less⟩
 by_cases hb : J.br = 0
 case neg =>
  have e : Wl.passJ y J ep = ⟨(J.br : Nat), y, J⟩ := by unfold Wl.passJ; rw [if_pos hb]
  rw [e]
  have h1 : ¬ ((J.br : Nat) : Int) = 0 := by omega
  have E2 : Hid (∀ e2, e2 = .returned (.int .u16 ((J.br : Nat) : Int)) → ∀ w', w' = wB → Ans w0 b W D R cv ts ⟨(J.br : Nat), y, J⟩ e2 w') := fun e2 he w' hw => by rw [hw]; exact ⟨he, E.out⟩
  rw [hwB] at q0 k0 d2 E2
  clear H HB hs hl BW BD e hwB hb k2 k3 k4 E hf hep RB q1 z1
  generalize ((J.br : Nat) : Int) = BR at *
  generalize (ep : Int) = EP at *
  go_enter Tryz.func113, Tryz.ntmps113
  go_wp2_with fail
  go_ret
  exact E2.out _ rfl _ rfl
 rw [hb] at d2
 cases hsu : J.sure with
 | false =>
   have e : Wl.passJ y J ep = ⟨1, y, J⟩ := by unfold Wl.passJ; rw [if_neg (fun h => h hb), if_pos hsu]
   rw [e]
   rw [hsu] at k4
   rw [hwB] at q0 k0 d2 k4 E
   clear H HB hs hl BW BD e hwB hb k2 k3 hf hsu hep RB q1 z1
   generalize (ep : Int) = EP at *
   go_enter Tryz.func113, Tryz.ntmps113
   go_wp2_with fail
   go_ret
   exact ⟨rfl, E.out⟩
 | true =>
   rw [hsu] at k4
   have hhi := hf.hi
   have hlo := hf.lo
   have hnx := hf.next
   obtain ⟨ck, hck⟩ : ∃ ck : Ck, ck = ⟨ep, J.next, (J.head : Nat)⟩ := ⟨_, rfl⟩
   have HDr : Hid (∀ n, Calls Tryz.prog 168 #[.pointer (some ⟨R, 0, none⟩)] (wB.drewN n) fun e w' => e = .returned (.int .i64 ((J.head : Nat) : Int)) ∧ ∃ q, w' = (wB.drewN n).drewN q) := fun n => head_still hf.rg _ (Blk.drewN RB n)
   have KB : Hid (∀ n, (wB.drewN n).cell? ⟨w.heap.size + 1, 0, none⟩ = some (.int .u64 (ep : Int)) ∧ (wB.drewN n).cell? ⟨w.heap.size, 0, none⟩ = some (.pointer (some ⟨W, 0, none⟩)) ∧ (wB.drewN n).cell? ⟨W, 3, none⟩ = some (.int .u64 (J.next : Int)) ∧ (wB.drewN n).cell? ⟨W, 2, none⟩ = some (.pointer (some ⟨R, 0, none⟩))) := fun n => ⟨q1, q0, k3, k2⟩
   have EN : Hid (∀ n, Calls Tryz.prog 50 #[.agg #[.int .u64 (ep : Int), .int .u64 (J.next : Int), .int .i64 ((J.head : Nat) : Int)]] (wB.drewN n) fun e w' => ∃ vo vn vc, e = .returned (.tuple #[.slice vo vn vc, .int .u16 ck.err]) ∧
    Hid (w'.cell? ⟨w.heap.size + 1, 0, none⟩ = some (.int .u64 (ep : Int)) ∧ w'.cell? ⟨w.heap.size, 0, none⟩ = some (.pointer (some ⟨W, 0, none⟩)) ∧ w'.cell? ⟨W, 3, none⟩ = some (.int .u64 (J.next : Int)) ∧ w'.cell? ⟨W, 2, none⟩ = some (.pointer (some ⟨R, 0, none⟩))) ∧
    w'.cell? ⟨w.heap.size, 0, none⟩ = some (.pointer (some ⟨W, 0, none⟩)) ∧ w'.cell? ⟨W, 0, none⟩ = some (.pointer (some ⟨D, 0, none⟩)) ∧
    Hid (Side w0 w' (ownT 5 (.slice vo vn vc) (ub ck.enc) :: jts b W D R J cv y F (blkT (w.heap.size + 1) 23 [.int .u64 (ep : Int)] :: blkT w.heap.size 32 [.pointer (some ⟨W, 0, none⟩)] :: ts)))) := fun n => by
    have := encCk_any ck (wB.drewN n) (by rw [hck]; exact hep) (by rw [hck]; show J.next < _; omega)
    rw [hck] at this ⊢
    refine this.mono ?_
    rintro e w' ⟨v, h1, h2, h3⟩
    obtain ⟨vo, vc, rfl⟩ := owns_slice h2.out
    have h4 := (HB.quiet ((Chg.refl [] wB).drewN n)).own h2.out h3.out
    have B1 : Blk w' W 181 (walV D R J cv) := h4.get 3 rfl
    have x0 : w'.cell? ⟨w.heap.size, 0, none⟩ = some (.pointer (some ⟨W, 0, none⟩)) := (h4.get 7 rfl : Blk _ _ _ _).cell (j := 0) rfl
    exact ⟨vo, _, vc, h1, ⟨(h4.get 6 rfl : Blk _ _ _ _).cell (j := 0) rfl, x0, B1.cell (j := 3) rfl, B1.cell (j := 2) rfl⟩, x0, B1.cell (j := 0) rfl, h4⟩
   by_cases hok : ck.err = 0
   case neg =>
    have e : Wl.passJ y J ep = ⟨ck.err, y, J⟩ := by
     unfold Wl.passJ
     rw [if_neg (fun h => h hb), if_neg (by rw [hsu]; decide), ← hck, if_pos hok]
    rw [e]
    have E3 : Hid (∀ w' v, Side w0 w' (ownT 5 v (ub ck.enc) :: jts b W D R J cv y F (blkT (w.heap.size + 1) 23 [.int .u64 (ep : Int)] :: blkT w.heap.size 32 [.pointer (some ⟨W, 0, none⟩)] :: ts)) → ∃ F', Hid (Side w0 w' (jts b W D R J cv y F' ts))) := fun w' v h => ⟨F, h.tail.less.less⟩
    have hne : (ck.err != 0) = true := by simpa using hok
    rw [hwB] at q0 q1 k0 k2 k3 k4 d2 HDr EN KB
    clear H HB hs hl BW BD e hwB hb hf hsu hep RB z1 E hhi hlo hnx
    generalize ck.err = ER at *
    generalize ck.enc = EC at *
    clear hck
    generalize (ep : Int) = EP at *
    generalize (J.next : Int) = NX at *
    generalize (J.head : Int) = HH at *
    go_enter Tryz.func113, Tryz.ntmps113
    go_wp2_with fail
    go_region_held3 (fun w' : World => w'.cell? ⟨w.heap.size + 1, 0, none⟩ = some (.int .u64 EP) ∧ w'.cell? ⟨w.heap.size, 0, none⟩ = some (.pointer (some ⟨W, 0, none⟩)) ∧ w'.cell? ⟨W, 3, none⟩ = some (.int .u64 NX) ∧ w'.cell? ⟨W, 2, none⟩ = some (.pointer (some ⟨R, 0, none⟩))) (first | exact ⟨q1, q0, k3, k2⟩ | exact KB.out _ | exact K1.out) (first
     | (go_at_call 168; refine (HDr.out _).mono ?_; rintro e w1 ⟨rfl, q, rfl⟩)
     | (go_at_call 50; refine (EN.out _).mono ?_; rintro e w1 ⟨vo, vn, vc, rfl, K1, x0, x1, h⟩))
    all_goals (clear EN HDr KB K1 q0 q1 k0 k2 k3 k4 d2; go_wp2_with fail)
    all_goals go_ret
    all_goals exact ⟨rfl, E3.out _ _ h.out⟩
   obtain ⟨io, hio⟩ : ∃ io, io = Wl.fl J.slot (Wl.wr J.slot (y, J.br) 1 ck.enc) := ⟨_, rfl⟩
   have e : Wl.passJ y J ep = Wl.ends io J (Wl.passed J ep) := by
    rw [hio]
    unfold Wl.passJ Wl.passIo
    rw [if_neg (fun h => h hb), if_neg (by rw [hsu]; decide), ← hck, if_neg (fun h => h hok)]
   rw [e]
   have hlen : ck.enc.length = 128 ∧ Bs ck.enc := by
    have hk : ck.Ok := by
     unfold Ck.err at hok
     by_cases q : ck.Ok
     ·exact q
     ·rw [if_neg q] at hok; cases hok
    unfold Ck.enc
    rw [if_pos hk]
    exact ⟨Rec.sector_length (by show (1 : Nat) ≤ 25; decide), Rec.sector_bs _⟩
   have CK : Hid (∀ w1 v, Side w0 w1 (ownT 5 v (ub ck.enc) :: jts b W D R J cv y F (blkT (w.heap.size + 1) 23 [.int .u64 (ep : Int)] :: blkT w.heap.size 32 [.pointer (some ⟨W, 0, none⟩)] :: ts)) →
    Calls Tryz.prog 53 #[.pointer (some ⟨D, 0, none⟩), v] w1 fun e w' => e = .returned (.tuple #[]) ∧ ∃ F', Hid (Side w0 w' (dts b D J.slot io F' (walT W D R J cv :: ringT R J.S J.t J.u :: comT cv J.commit :: ownT 5 v (ub ck.enc) :: blkT (w.heap.size + 1) 23 [.int .u64 (ep : Int)] :: blkT w.heap.size 32 [.pointer (some ⟨W, 0, none⟩)] :: ts)))) := fun w1 v h => by
    have o : w1.ownsRow 0 5 1 v (ub ck.enc).length (ub ck.enc) := h.get 0 rfl
    rw [hio]
    refine dvcheck_any (io := (y, J.br)) (h.perm ?_) hs v ck.enc (Sl.owned o) hlen.2 (by rw [hlen.1]; decide) (fun k hk => ⟨fun hm => (h.offAt 0 1 rfl rfl (by decide)) k (by simp [ownT, hk]) hm, (o.lt k hk).2⟩) hl
    show ([_] ++ ([_, _, _, _, _] ++ _)).Perm ([_, _, _, _, _] ++ ([_] ++ _))
    rw [← List.append_assoc, ← List.append_assoc]
    exact List.Perm.append_right _ List.perm_append_comm
   have TH : Hid (∀ w1 v F', Side w0 w1 (dts b D J.slot io F' (walT W D R J cv :: ringT R J.S J.t J.u :: comT cv J.commit :: ownT 5 v (ub ck.enc) :: blkT (w.heap.size + 1) 23 [.int .u64 (ep : Int)] :: blkT w.heap.size 32 [.pointer (some ⟨W, 0, none⟩)] :: ts)) →
    w1.cell? ⟨w.heap.size, 0, none⟩ = some (.pointer (some ⟨W, 0, none⟩)) ∧ w1.cell? ⟨W, 0, none⟩ = some (.pointer (some ⟨D, 0, none⟩)) ∧
    Calls Tryz.prog 108 #[.pointer (some ⟨D, 0, none⟩), .func (.func 169) #[] #[.pointer (some ⟨w.heap.size + 1, 0, none⟩), .pointer (some ⟨w.heap.size, 0, none⟩)]] w1 (Ans w0 b W D R cv ts (Wl.ends io J (Wl.passed J ep)))) := fun w1 v F' h => by
    have B1 : Blk w1 W 181 (walV D R J cv) := h.get 2 rfl
    have RB1 : RingB w1 R J.S J.t J.u := h.get 3 rfl
    have z0 : w1.cell? ⟨w.heap.size, 0, none⟩ = some (.pointer (some ⟨W, 0, none⟩)) := (h.get 7 rfl : Blk _ _ _ _).cell (j := 0) rfl
    have z1 : w1.cell? ⟨w.heap.size + 1, 0, none⟩ = some (.int .u64 (ep : Int)) := (h.get 6 rfl : Blk _ _ _ _).cell (j := 0) rfl
    have hRW : R ≠ W := fun e => (h.offAt 3 2 rfl rfl (by decide)) R (by simp [ringT]) (by simp [walT, blkT, e])
    have hqW : w.heap.size ≠ W := fun e => (h.offAt 7 2 rfl rfl (by decide)) w.heap.size (by simp [blkT]) (by simp [walT, blkT, e])
    have hqR : w.heap.size ≠ R := fun e => (h.offAt 7 3 rfl rfl (by decide)) w.heap.size (by simp [blkT]) (by simp [ringT, e])
    refine ⟨z0, B1.cell (j := 0) rfl, ?_⟩
    refine (then_gen (vs' := walV D R (Wl.passed J ep) cv) (S' := J.S) (t' := J.head) (u' := 0) h 169 _ enters_pass1 (fun h0 w2 c' => ?_)).mono ?_
    ·refine (pass1_any W R _ _ J.S J.t J.u (ep : Int) _ _ _ _ _ _ w2 (B1.chg c' (by simp)) hf.rg (Blk.chg RB1 c' (by simp)) (Ne.symm hRW) ((c'.cell (World.block_lt_of_cell? w1 _ z1) (by simp)).trans z1) ((c'.cell (World.block_lt_of_cell? w1 _ z0) (by simp)).trans z0) hqW hqR).mono ?_
     rintro e w' ⟨h1, h2, h3, h4⟩
     exact ⟨h1, h2, h3, h4⟩
    ·rintro e w' ⟨h1, ⟨h0, h2⟩ | ⟨h0, h2⟩⟩
     ·unfold Wl.ends
      rw [if_neg h0]
      exact ⟨h1, F', h2.out.less.less.less⟩
     ·unfold Wl.ends
      rw [if_pos h0]
      rw [h0] at h1
      exact ⟨h1, F', h2.out.less.less.less.forget⟩
   rw [hok] at EN
   rw [hwB] at q0 q1 k0 k2 k3 k4 d2 HDr EN KB
   clear H HB hs hl BW BD e hwB hb hf hsu hep RB z1 E hhi hlo hnx hlen hok hck hio
   generalize ck.enc = EC at *
   generalize Wl.ends io J (Wl.passed J ep) = OUT at *
   generalize (ep : Int) = EP at *
   generalize (J.next : Int) = NX at *
   generalize (J.head : Int) = HH at *
   have hmf : ∀ (fn : Fn) (first cap : Array Value) (w : World), (Instr.makeFunc fn first cap).run Tryz.prog w = .ok (.func fn first cap) w := fun _ _ _ _ => rfl
   go_enter Tryz.func113, Tryz.ntmps113
   go_wp2_with fail
   go_region_held3 (fun w' : World => w'.cell? ⟨w.heap.size + 1, 0, none⟩ = some (.int .u64 EP) ∧ w'.cell? ⟨w.heap.size, 0, none⟩ = some (.pointer (some ⟨W, 0, none⟩)) ∧ w'.cell? ⟨W, 3, none⟩ = some (.int .u64 NX) ∧ w'.cell? ⟨W, 2, none⟩ = some (.pointer (some ⟨R, 0, none⟩))) (first | exact ⟨q1, q0, k3, k2⟩ | exact KB.out _ | exact K1.out) (first
    | (go_at_call 168; refine (HDr.out _).mono ?_; rintro e w1 ⟨rfl, q, rfl⟩)
    | (go_at_call 50; refine (EN.out _).mono ?_; rintro e w1 ⟨vo, vn, vc, rfl, K1, x0, x1, h⟩))
   all_goals (have C1 := Lib.hid (CK.out _ _ h.out); clear EN HDr KB K1 q0 q1 k0 k2 k3 k4 d2 CK h; go_wp2_with (first
    | (go_at_call 53; refine C1.out.mono ?_; rintro e w2 ⟨rfl, F', h2⟩; obtain ⟨z0, z1, TN⟩ := TH.out w2 _ F' h2.out; replace TN := Lib.hid TN; clear C1 TH h2 x0 x1)
    | (go_at_call 108; refine TN.out.mono ?_; rintro e w3 ⟨rfl, A⟩; replace A := Lib.hid A; clear TN z0 z1)))
   all_goals go_ret
   all_goals exact ⟨rfl, A.out⟩

end Go.Proofs.YtkafkdlgflkjgaaGreat
