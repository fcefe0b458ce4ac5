/-
  The document's batch at a place of a ring. By an AI agent.
-/
import Derived.Test.YtnkdgmnmmmjgjaaGreatBScReg
import Derived.Test.YtnkdgmnmmmjgjaaGreatBRcDDecH
import Derived.Test.YtnkdgmnmmmjgjaaGreatBRcDUne
import Derived.Test.YtnkdgmnmmmjgjaaGreatBRefCrc
import Derived.Deep.CutBlock
import Derived.Deep.CutRange
namespace Go.Proofs.YtnkdgmnmmmjgjaaGreat
open Crc Go.RowKit

theorem wrap_nat {z : Nat} (h : z ≤ 1000000) : IntKind.i64.wrap (z : Int) = z ∧ wrap64 (z : Int) = z := sc_wrap (by omega) (by omega)

set_option maxHeartbeats 1000000 in
theorem rsector_any (rb ro cap n p i : Nat) (w : World) (hn0 : 0 < n) (hn : n ≤ 2048) (hcap : 128 * n ≤ cap) (hp : p ≤ 100000) (hi : i ≤ 100000) :
    Calls Tryz.prog 81 #[.slice (some ⟨rb, ro, none⟩) (128 * n) cap, .int .i64 (p : Int), .int .i64 (i : Int)] w fun e w' => e = .returned (secV rb ro cap n (p + i)) ∧ w = w' := by
  have q1 : Int.tdiv (((128 * n : Nat)) : Int) 128 = (n : Int) := by
    have : Int.tdiv (((128 * n : Nat)) : Int) 128 = (((128 * n) / 128 : Nat) : Int) := rfl
    rw [this]; omega
  have q2 : (((128 * n : Nat)) : Int) / 128 = (n : Int) := by omega
  obtain ⟨LN, hLN⟩ : ∃ LN, LN = 128 * n := ⟨_, rfl⟩
  rw [← hLN] at q1 q2 hcap ⊢
  obtain ⟨S, hS⟩ : ∃ S, S = p + i := ⟨_, rfl⟩
  obtain ⟨q, hq⟩ : ∃ q, q = S % n := ⟨_, rfl⟩
  obtain ⟨A, hA⟩ : ∃ A, A = 128 * q := ⟨_, rfl⟩
  obtain ⟨E, hE⟩ : ∃ E, E = A + 128 := ⟨_, rfl⟩
  have hqn : q < n := by rw [hq]; exact Nat.mod_lt _ hn0
  have hv : secV rb ro cap n (p + i) = .slice (some ⟨rb, ro + A, none⟩) 128 (cap - A) := by rw [secV, ← hS, ← hq, ← hA]
  rw [hv]
  have e1 : (p : Int) + (i : Int) = (S : Int) := by omega
  have e2 : Int.tmod (S : Int) (n : Int) = (q : Int) := by rw [hq]; rfl
  have e2' : (S : Int) % (n : Int) = (q : Int) := by rw [hq]; rfl
  have e3 : 128 * (q : Int) = (A : Int) := by omega
  have e4 : (A : Int) + 128 = (E : Int) := by omega
  have e5 : E - A = 128 := by omega
  have g1 : A ≤ E := by omega
  have g2 : E ≤ cap := by omega
  have g3 : ¬ cap = A := by omega
  have hn3 : ¬ n = 0 := by omega
  obtain ⟨b0, b1, b2, b3, b4⟩ : n ≤ 1000000 ∧ S ≤ 1000000 ∧ A ≤ 1000000 ∧ E ≤ 1000000 ∧ q ≤ 1000000 := by clear e1 e2 e2' e3 e4 q1 q2; omega
  clear hS hq hA hE hqn hv hLN hp hi hcap hn hn0
  have w0 := wrap_nat b0
  have w1 := wrap_nat b1
  have w2 := wrap_nat b2
  have w3 := wrap_nat b3
  have w4 := wrap_nat b4
  clear b0 b1 b2 b3 b4
  go_enter Tryz.func81, Tryz.ntmps81
  go_wp2_with fail
  go_ret
  exact ⟨rfl, rfl⟩

/-- One row of cells of its own has more. -/
theorem own_more2 {w0 w1 wn : World} {ts : List Thing} {n : Nat} {e : TypeId} {v vn : Value} {xs news : List Value} (h : Side w0 w1 ts) (i : Nat) (hi : ts[i]? = some (ownT e v xs)) (c : Chg v.ownBlock.toList w1 wn)
    (ol : wn.ownsRow 0 e 1 vn n (xs ++ news)) (nb : ∀ k, vn.ownBlock = some k → v.ownBlock = some k ∨ w1.heap.size ≤ k) : Side w0 wn (ts.set i (ownT e vn (xs ++ news))) := by
  have hn : (xs ++ news).length = n := owns_len ol
  subst hn
  refine h.turnAt i hi c (fun k hk => .inl hk) ol (fun k hk => ?_)
  have hk' : vn.ownBlock = some k := by simpa [ownT] using hk
  rcases nb k hk' with q | q
  · exact .inl (by show k ∈ v.ownBlock.toList; simp [q])
  · exact .inr q

theorem ub_app2 (a b : List Nat) : ub (a ++ b) = ub a ++ ub b := by unfold ub ints; rw [List.map_append, List.map_append]

/-- The batch that counts there, or none. -/
def RBat (w : World) (bs : List Nat) (p room ep sq : Nat) (e : Ending) (w' : World) : Prop :=
  (∃ (m : Nat) (A : List Pv) (pv : Value), Sc.Whole bs p room ep sq m ∧ e = .returned (.tuple #[.agg #[.int .u64 (sq : Int), pv], .int .i64 ((2 * m + 1 : Nat) : Int)]) ∧ dOf A = Sc.pts bs p m ∧ Hid (Side w w' [listT pv A, dataT A])) ∨
  ((∀ m, ¬ Sc.Whole bs p room ep sq m) ∧ e = .returned (.tuple #[.agg #[.int .u64 0, .slice none 0 0], .int .i64 0]) ∧ Hid (Chg [] w w'))

theorem Sc.Whole.eq {ring : List Nat} {p room ep sq n m : Nat} (h : Sc.Whole ring p room ep sq n) (hm : (Hd.of (Sc.sec ring p)).ct = (m : Int)) : n = m := by
  have := h.ct
  omega

theorem heads_len {ring : List Nat} (h : ∀ x, (Sc.sec ring x).length = 128) (p : Nat) : ∀ k, (Sc.heads ring p k).length = 128 * k
  | 0 => rfl
  | k + 1 => by rw [Sc.heads_succ, List.length_append, heads_len h p k, h]; omega

theorem size_Tx : (Tryz.prog.info? 25).map (·.size) = some 2 := by kernel_rfl

set_option maxHeartbeats 8000000 in
set_option maxRecDepth 100000 in
theorem rbatch_any (rb ro cap n p room ep sq : Nat) (bs : List Nat) (w : World) (hn0 : 0 < n) (hn : n ≤ 2048) (hcap : 128 * n ≤ cap) (hl : bs.length = 128 * n) (hbs : Bs bs) (hp : p ≤ 2048) (hroom : room ≤ 2048) (hep : ep < 18446744073709551616) (hsq : sq < 18446744073709551616)
    (hsl : Sl w (.slice (some ⟨rb, ro, none⟩) (128 * n) cap) (ints bs)) :
    Calls Tryz.prog 52 #[.slice (some ⟨rb, ro, none⟩) (128 * n) cap, .int .i64 (p : Int), .int .i64 (room : Int), .int .u64 (ep : Int), .int .u64 (sq : Int)] w (RBat w bs p room ep sq) := by
  have SEC : Hid (∀ (i : Nat) (W : World), i ≤ 100000 → Calls Tryz.prog 81 #[.slice (some ⟨rb, ro, none⟩) (128 * n) cap, .int .i64 (p : Int), .int .i64 (i : Int)] W fun e w' => e = .returned (secV rb ro cap n (p + i)) ∧ W = w') := fun i W hi => rsector_any rb ro cap n p i W hn0 hn hcap (by omega) hi
  have SLS : Hid (∀ x w', Chg [] w w' → Sl w' (secV rb ro cap n x) (ints (Sc.sec bs x))) := fun x w' c => sec_sl (hsl.chgNil c) hl rfl hn0 hcap
  have SLN : Hid (∀ x, (Sc.sec bs x).length = 128 ∧ Bs (Sc.sec bs x)) := fun x => ⟨Sc.sec_len (by omega) x, Sc.sec_bs hbs x⟩
  have SCP : Hid (∀ x ao m c, secV rb ro cap n x = .slice ao m c → m ≤ c) := fun x ao m c e => by
    have hq : x % n < n := Nat.mod_lt _ hn0
    simp only [secV, Value.slice.injEq] at e
    omega
  have DH : Hid (∀ x W, Chg [] w W → Calls Tryz.prog 80 #[secV rb ro cap n x] W fun e w' => e = .returned (.tuple #[(Hd.dval (Sc.sec bs x)).val, .int .i64 (Hd.derr (Sc.sec bs x))]) ∧ Hid (Chg [] W w')) := fun x W c => rdecHd_any _ _ W (SLS.out x W c) (SLN.out x).2 (by rw [(SLN.out x).1]; decide) (SCP.out x)
  have DC : Hid (∀ x W, Chg [] w W → Calls Tryz.prog 83 #[secV rb ro cap n x] W fun e w' => e = .returned (.tuple #[(Cm.dval (Sc.sec bs x)).val, .int .i64 (Cm.derr (Sc.sec bs x))]) ∧ Hid (Chg [] W w')) := fun x W c => rdecCm_any _ _ W (SLS.out x W c) (SLN.out x).2 (by rw [(SLN.out x).1]; decide) (SCP.out x)
  have UN : Hid (∀ x es W, Chg [] w W → Calls Tryz.prog 82 #[secV rb ro cap n x, .bool es] W (UneIs .i64 W (Sc.sec bs x) es)) := fun x es W c => runescape_any _ _ es W (SLS.out x W c) (SLN.out x).2 (SCP.out x)
  have SU : Hid (∀ x W, Chg [] w W → Calls Tryz.prog 29 #[secV rb ro cap n x] W fun e w' => e = .returned (.int .u32 (sum (Sc.sec bs x) : Nat)) ∧ W = w') := fun x W c => by
    have m := refSum_any _ (ints (Sc.sec bs x)) W (SLS.out x W c) (ints_by (SLN.out x).2) (by rw [ints_length, (SLN.out x).1]; decide)
    rw [nats_ints] at m
    exact m
  have hsv : ∀ x, ∃ a c, secV rb ro cap n x = .slice a 128 c := fun x => ⟨_, _, rfl⟩
  obtain ⟨VR, hVR⟩ : ∃ VR, VR = (Value.slice (some ⟨rb, ro, none⟩) (128 * n) cap) := ⟨_, rfl⟩
  rw [← hVR] at SEC ⊢
  obtain ⟨SV, hSV⟩ : ∃ SV : Nat → Value, SV = secV rb ro cap n := ⟨_, rfl⟩
  rw [← hSV] at SEC SLS SCP DH DC UN SU hsv
  replace hsv := Lib.hid hsv
  have BIG : Hid (∀ x W, Chg [] w W → Sl W (SV x) (ints (Sc.sec bs x))) := SLS
  clear hVR hSV hsl hcap hl
  have W2 : Hid (∀ W, W = (w.alloc (.cells #[.int .u64 0, .slice none 0 0] 25)).alloc (.cells #[.int .u64 0, .slice none 0 0] 25) → Side w W [blkT w.heap.size 25 [.int .u64 0, .slice none 0 0], blkT (w.heap.size + 1) 25 [.int .u64 0, .slice none 0 0]]) := fun W e => by
    subst e
    have h1 := (Side.nil (Chg.refl [] w)).box [.int .u64 0, .slice none 0 0] 25
    have h2 := h1.box [.int .u64 0, .slice none 0 0] 25
    rw [World.size_alloc] at h2
    exact h2.front 1
  have NO : Hid (∀ W, Blk W w.heap.size 25 [.int .u64 0, .slice none 0 0] → Chg [] w W → Blk ((W.setCell ⟨w.heap.size, 0, none⟩ (.int .u64 0)).setCell ⟨w.heap.size, 1, none⟩ (.slice none 0 0)) w.heap.size 25 [.int .u64 0, .slice none 0 0] ∧ Hid (Chg [] w ((W.setCell ⟨w.heap.size, 0, none⟩ (.int .u64 0)).setCell ⟨w.heap.size, 1, none⟩ (.slice none 0 0)))) := fun W b c =>
    ⟨(b.set 0 _).set 1 _, (c.setCell (p := ⟨w.heap.size, 0, none⟩) (.inr (Nat.le_refl _)) _).setCell (p := ⟨w.heap.size, 1, none⟩) (.inr (Nat.le_refl _)) _⟩
  go_enter Tryz.func52, Tryz.ntmps52
  go_upto_region 2 with fail
  obtain ⟨Wa, hWa⟩ : ∃ Wa, Wa = (w.alloc (.cells #[.int .u64 0, .slice none 0 0] 25)).alloc (.cells #[.int .u64 0, .slice none 0 0] 25) := ⟨_, rfl⟩
  have H0 := Lib.hid (W2.out Wa hWa)
  rw [← hWa]
  obtain ⟨g, hg⟩ : ∃ g, g = w.heap.size := ⟨_, rfl⟩
  rw [← hg] at H0 NO
  rw [← hg]
  have HG : Hid (w.heap.size ≤ g) := by show _ ≤ _; omega
  clear hWa hg W2
  have bG : Blk Wa g 25 _ := H0.out.get 0 rfl
  have bN : Blk Wa (g + 1) 25 _ := H0.out.get 1 rfl
  have k0 := bG.cell (j := 0) rfl
  have k1 := bG.cell (j := 1) rfl
  have f0 := bG.free 0
  have f1 := bG.free 1
  have n0 := bN.cell (j := 0) rfl
  have n1 := bN.cell (j := 1) rfl
  clear bG bN
  by_cases c1 : room < 3
  · have NONE : Hid (∀ m, ¬ Sc.Whole bs p room ep sq m) := fun m k => by have h1 := k.room; have h2 := k.pos; omega
    have t1 : (room : Int) < 3 := by omega
    go_wp2_with fail
    (try simp only [Exit.inBlock, Exit.then]); show bodyPost _ _ _ Exit.ret ⟨_, []⟩ _
    have F := NO.out _ (H0.out.get 0 rfl) H0.out.chg
    refine bodyPost_ret (rc_cell_and_tmp (ty := 25) rfl _ _ g _ _ _ _ rfl F.1 Tryz.underlying25 size_Tx) rfl ?_
    exact .inr ⟨NONE.out, rfl, F.2⟩
  have t1 : ¬ (room : Int) < 3 := by omega
  by_cases c2 : 4611686018427387904 < sq
  · have NONE : Hid (∀ m, ¬ Sc.Whole bs p room ep sq m) := fun m k => by have h1 := k.small; omega
    have t2 : (4611686018427387904 : Int) < sq := by omega
    go_wp2_with fail
    (try simp only [Exit.inBlock, Exit.then]); show bodyPost _ _ _ Exit.ret ⟨_, []⟩ _
    have F := NO.out _ (H0.out.get 0 rfl) H0.out.chg
    refine bodyPost_ret (rc_cell_and_tmp (ty := 25) rfl _ _ g _ _ _ _ rfl F.1 Tryz.underlying25 size_Tx) rfl ?_
    exact .inr ⟨NONE.out, rfl, F.2⟩
  have t2 : ¬ (4611686018427387904 : Int) < sq := by omega
  have SML : Hid (sq ≤ 4611686018427387904) := by show _ ≤ _; omega
  have S0 : Hid (∀ W, Calls Tryz.prog 81 #[VR, .int .i64 (p : Int), .int .i64 0] W fun e w' => e = .returned (SV p) ∧ W = w') := fun W => by
    have m := SEC.out 0 W (by decide)
    rw [Nat.add_zero] at m
    exact m
  clear c1 c2 k0 k1 f0 f1 n0 n1
  have D0 : Hid (Calls Tryz.prog 80 #[SV p] Wa fun e w' => e = .returned (.tuple #[(Hd.dval (Sc.sec bs p)).val, .int .i64 (Hd.derr (Sc.sec bs p))]) ∧ Hid (Chg [] Wa w')) := DH.out p Wa H0.out.chg
  by_cases h0 : Hd.derr (Sc.sec bs p) = 0
  case neg =>
    have NONE : Hid (∀ m, ¬ Sc.Whole bs p room ep sq m) := fun m k => h0 k.first.1
    have dv : (Hd.dval (Sc.sec bs p)).val = .agg #[.int .u64 0, .int .u64 0, .int .i64 0, .int .i64 0, .int .i64 0, .int .i64 0, .bool false, .int .u32 0] := by unfold Hd.dval; rw [if_neg h0]; rfl
    rw [dv] at D0
    obtain ⟨er, her⟩ : ∃ er, er = Hd.derr (Sc.sec bs p) := ⟨_, rfl⟩
    rw [← her] at D0 h0
    have hne : (er != 0) = true := by simpa using h0
    clear her dv h0
    go_wp2_with (first
      | (go_at_call 81; refine (S0.out _).mono ?_; rintro e w' ⟨rfl, rfl⟩)
      | (go_at_call 80; refine D0.out.mono ?_; rintro e w1 ⟨rfl, C1⟩; have H1 := Lib.hid ((H0.out.quiet C1.out).quiet ((Chg.refl [] _).alloc (.cells #[.int .u64 0, .int .u64 0, .int .i64 0, .int .i64 0, .int .i64 0, .int .i64 0, .bool false, .int .u32 0] 81))); have bG : Blk _ g 25 _ := H1.out.get 0 rfl; have bN : Blk _ (g + 1) 25 _ := H1.out.get 1 rfl; have k0 := bG.cell (j := 0) rfl; have k1 := bG.cell (j := 1) rfl; have f0 := bG.free 0; have f1 := bG.free 1; have n0 := bN.cell (j := 0) rfl; have n1 := bN.cell (j := 1) rfl; clear bG bN))
    (try simp only [Exit.inBlock, Exit.then]); show bodyPost _ _ _ Exit.ret ⟨_, []⟩ _
    have F := NO.out _ (H1.out.get 0 rfl) H1.out.chg
    refine bodyPost_ret (rc_cell_and_tmp (ty := 25) rfl _ _ g _ _ _ _ rfl F.1 Tryz.underlying25 size_Tx) rfl ?_
    exact .inr ⟨NONE.out, rfl, F.2⟩
  have OKH := (Sc.derr_hd h0).1
  have hc1 : 1 ≤ (Hd.of (Sc.sec bs p)).ct := OKH.2.1
  have hc2 : (Hd.of (Sc.sec bs p)).ct ≤ 1023 := OKH.2.2.1
  obtain ⟨m, hm⟩ : ∃ m : Nat, (Hd.of (Sc.sec bs p)).ct = (m : Int) := ⟨(Hd.of (Sc.sec bs p)).ct.toNat, by omega⟩
  have hm1 : 1 ≤ m := by omega
  have hm2 : m ≤ 1023 := by omega
  have EQ : Hid (∀ m', Sc.Whole bs p room ep sq m' → m' = m) := fun m' k => k.eq hm
  obtain ⟨x, hx⟩ : ∃ x, x = Hd.of (Sc.sec bs p) := ⟨_, rfl⟩
  have dv : (Hd.dval (Sc.sec bs p)).val = .agg #[.int .u64 (x.ep : Int), .int .u64 (x.sq : Int), .int .i64 x.ix, .int .i64 (m : Int), .int .i64 x.mb, .int .i64 x.rw', .bool x.esc, .int .u32 (x.sm : Int)] := by unfold Hd.dval; rw [if_pos h0, ← hm, hx]; rfl
  rw [dv, h0] at D0
  obtain ⟨x0, x1, x2, x3, x4, x5, x6, x7⟩ := x
  dsimp only at D0
  clear hx dv h0 hm hc1 hc2 OKH
  obtain ⟨M, hM⟩ : ∃ M, M = 2 * m := ⟨_, rfl⟩
  obtain ⟨M1, hM1⟩ : ∃ M1, M1 = M + 1 := ⟨_, rfl⟩
  have em : 2 * (m : Int) = (M : Int) := by omega
  have em1 : (M : Int) + 1 = (M1 : Int) := by omega
  have hMb : M ≤ 2046 := by omega
  have bM : Hid (M ≤ 1000000 ∧ M1 ≤ 1000000) := ⟨by omega, by omega⟩
  have SM := Lib.hid (fun W => SEC.out M W (by omega))
  have HMM : Hid (M = 2 * m ∧ M1 = 2 * m + 1) := ⟨hM, by omega⟩
  have RM : Hid (¬ room < M1 → 2 * m + 1 ≤ room) := fun h => by omega
  have RN : Hid (room < M1 → ∀ m', ¬ Sc.Whole bs p room ep sq m') := fun h m' k => by have e := EQ.out m' k; have := k.room; omega
  by_cases c3 : room < M1
  · have NONE := RN.out c3
    have t3 : (room : Int) < M1 := by omega
    replace NONE := Lib.hid NONE
    have v1 := wrap_nat bM.out.1
    have v2 := wrap_nat bM.out.2
    clear hM hM1 hMb RM RN
    go_wp2_with (first
      | (go_at_call 81; refine (S0.out _).mono ?_; rintro e w' ⟨rfl, rfl⟩)
      | (go_at_call 80; refine D0.out.mono ?_; rintro e w1 ⟨rfl, C1⟩; have H1 := Lib.hid ((H0.out.quiet C1.out).quiet ((Chg.refl [] _).alloc (.cells #[.int .u64 (x0 : Int), .int .u64 (x1 : Int), .int .i64 x2, .int .i64 (m : Int), .int .i64 x4, .int .i64 x5, .bool x6, .int .u32 (x7 : Int)] 81))); have bG : Blk _ g 25 _ := H1.out.get 0 rfl; have bN : Blk _ (g + 1) 25 _ := H1.out.get 1 rfl; have k0 := bG.cell (j := 0) rfl; have k1 := bG.cell (j := 1) rfl; have f0 := bG.free 0; have f1 := bG.free 1; have n0 := bN.cell (j := 0) rfl; have n1 := bN.cell (j := 1) rfl; clear bG bN; have d3 := (Blk.made w1 [.int .u64 (x0 : Int), .int .u64 (x1 : Int), .int .i64 x2, .int .i64 (m : Int), .int .i64 x4, .int .i64 x5, .bool x6, .int .u32 (x7 : Int)] 81).cell (j := 3) rfl))
    (try simp only [Exit.inBlock, Exit.then]); show bodyPost _ _ _ Exit.ret ⟨_, []⟩ _
    have F := NO.out _ (H1.out.get 0 rfl) H1.out.chg
    refine bodyPost_ret (rc_cell_and_tmp (ty := 25) rfl _ _ g _ _ _ _ rfl F.1 Tryz.underlying25 size_Tx) rfl ?_
    exact .inr ⟨NONE.out, rfl, F.2⟩
  have t3 : ¬ (room : Int) < M1 := by omega
  have ROOM : Hid (2 * m + 1 ≤ room) := RM.out c3
  have v1 := wrap_nat bM.out.1
  have v2 := wrap_nat bM.out.2
  clear hM hM1 hMb RM RN
  go_wp2_with (first
    | (go_at_call 81; refine (S0.out _).mono ?_; rintro e w' ⟨rfl, rfl⟩)
    | (go_at_call 80; refine D0.out.mono ?_; rintro e w1 ⟨rfl, C1⟩; have d3 := (Blk.made w1 [.int .u64 (x0 : Int), .int .u64 (x1 : Int), .int .i64 x2, .int .i64 (m : Int), .int .i64 x4, .int .i64 x5, .bool x6, .int .u32 (x7 : Int)] 81).cell (j := 3) rfl))
  obtain ⟨h, hh⟩ : ∃ h, h = w1.heap.size + 1 := ⟨_, rfl⟩
  obtain ⟨Wb, hWb⟩ : ∃ Wb, Wb = (w1.alloc (.cells #[.int .u64 (x0 : Int), .int .u64 (x1 : Int), .int .i64 x2, .int .i64 (m : Int), .int .i64 x4, .int .i64 x5, .bool x6, .int .u32 (x7 : Int)] 81)).alloc (.cells #[.int .u64 (sq : Int), .slice none 0 0] 25) := ⟨_, rfl⟩
  have HB : Hid (Side w Wb (ownT 5 (.slice none 0 0) (ub (Sc.heads bs p 0)) :: listT (.slice none 0 0) [] :: dataT [] :: [blkT h 25 [.int .u64 (sq : Int), .slice none 0 0], blkT g 25 [.int .u64 0, .slice none 0 0], blkT (g + 1) 25 [.int .u64 0, .slice none 0 0]])) := by
    have a1 := (H0.out.quiet C1.out).quiet ((Chg.refl [] w1).alloc (.cells #[.int .u64 (x0 : Int), .int .u64 (x1 : Int), .int .i64 x2, .int .i64 (m : Int), .int .i64 x4, .int .i64 x5, .bool x6, .int .u32 (x7 : Int)] 81))
    have a2 := a1.box [.int .u64 (sq : Int), .slice none 0 0] 25
    rw [World.size_alloc] at a2
    have a3 := a2.add (b := dataT []) (Chg.refl _ _) (Pool.nil _) (fun k hk => by cases hk)
    have a4 := a3.add (b := listT (.slice none 0 0) []) (Chg.refl _ _) (OwnW.nil _ _ _ _) (fun k hk => by cases hk)
    have a5 := a4.add (b := ownT 5 (.slice none 0 0) []) (Chg.refl _ _) (World.ownsRow_nil _ _ _ _) (fun k hk => by cases hk)
    rw [hWb, hh]
    exact a5
  rw [← hWb, ← hh]
  clear hWb hh d3 C1 H0 D0 S0 t1 t2 t3 v1 v2 c3
  obtain ⟨i0, hi, hz0, hz1, hz2⟩ := info_parts info_patch1
  replace hi := Lib.hid hi
  replace hz0 := Lib.hid hz0
  replace hz1 := Lib.hid hz1
  replace hz2 := Lib.hid hz2
  obtain ⟨b0, bi, bz0, bz1, bz2⟩ := info_parts info_u8
  replace bi := Lib.hid bi
  replace bz0 := Lib.hid bz0
  replace bz1 := Lib.hid bz1
  replace bz2 := Lib.hid bz2
  go_loopw [17, 18] (fun hv i wr => ∃ (j : Nat) (A : List Pv) (pv : Value), j ≤ m ∧ i = .int .i64 (j : Int) ∧ Hid (∀ i, i < j → Sc.Fits ep sq m i (Sc.sec bs (p + 2 * i)) (Sc.sec bs (p + 2 * i + 1))) ∧ Hid (dOf A = Sc.pts bs p j) ∧ Hid (Side w wr (ownT 5 hv (ub (Sc.heads bs p j)) :: listT pv A :: dataT A :: [blkT h 25 [.int .u64 (sq : Int), pv], blkT g 25 [.int .u64 0, .slice none 0 0], blkT (g + 1) 25 [.int .u64 0, .slice none 0 0]]))) (fun _ i _ => m - (intOf i).toNat)
  case atStart => exact ⟨0, [], .slice none 0 0, Nat.zero_le _, rfl, fun i hi => absurd hi (Nat.not_lt_zero _), rfl, HB⟩
  case round =>
    obtain ⟨j, A, pv, hj, rfl, FT, DA, H⟩ := hrel
    clear HB
    have LA : Hid (A.length = j) := by show _ = _; rw [← Sc.pts_len bs p j, ← DA.out]; simp [dOf]
    have OW := (show OwnW 3 wr 0 72 pv (A.map pvSlot) from H.out.get 1 rfl)
    obtain ⟨po, pc, hpv⟩ := OW.slice
    rw [List.length_map, LA.out] at hpv
    subst hpv
    have OH0 := (show wr.ownsRow 0 5 1 u17 (ub (Sc.heads bs p j)).length (ub (Sc.heads bs p j)) from H.out.get 0 rfl)
    have hhl : (Sc.heads bs p j).length = 128 * j := heads_len (fun x => (SLN.out x).1) p j
    rw [ub_len, hhl] at OH0
    obtain ⟨ho, hc, rfl⟩ := owns_slice OH0
    obtain ⟨J, hJ⟩ : ∃ J, J = 128 * j := ⟨_, rfl⟩
    rw [← hJ] at OH0 H ⊢
    rw [← hJ] at hhl
    have HHL := Lib.hid hhl
    have HJ := Lib.hid hJ
    have hJb : J ≤ 131000 := by omega
    clear OW hhl hJ OH0
    by_cases hlt : j < m
    case neg =>
      obtain rfl : j = m := by omega
      clear hlt hj
      obtain ⟨c, hc'⟩ : ∃ c, c = Sc.sec bs (p + M) := ⟨_, rfl⟩
      have D2 : Hid (Calls Tryz.prog 83 #[SV (p + M)] wr fun e w' => e = .returned (.tuple #[(Cm.dval c).val, .int .i64 (Cm.derr c)]) ∧ Hid (Chg [] wr w')) := by
        have k := DC.out (p + M) wr H.out.chg
        rw [← hc'] at k
        exact k
      obtain ⟨SH, hSH⟩ : ∃ SH, SH = sum (Sc.heads bs p j) := ⟨_, rfl⟩
      have SU2 : Hid (∀ W, W.ownsRow 0 5 1 (.slice ho J hc) J (ub (Sc.heads bs p j)) → Calls Tryz.prog 29 #[.slice ho J hc] W fun e w' => e = .returned (.int .u32 (SH : Int)) ∧ W = w') := fun W o => by
        have k := refSum_any _ (ints (Sc.heads bs p j)) W (Sl.owned (n := J) o) (ints_by (Sc.heads_bs (fun x hx => hbs x hx) p j)) (by rw [ints_length, HHL.out]; omega)
        rw [nats_ints, ← hSH] at k
        exact k
      have hc2 : c = Sc.sec bs (p + 2 * j) := by rw [hc', HMM.out.1]
      have NF : Hid (¬ Sc.Ends ep sq j (Sc.heads bs p j) c → ∀ m', ¬ Sc.Whole bs p room ep sq m') := fun nf m' k => by
        obtain rfl := EQ.out m' k
        rw [hc2] at nf
        exact nf k.ends
      have YF : Hid (Sc.Ends ep sq j (Sc.heads bs p j) c → Sc.Whole bs p room ep sq j) := fun f => ⟨ROOM.out, SML.out, hm1, FT.out, by rw [hc2] at f; exact f⟩
      have v1 := wrap_nat bM.out.1
      have v2 := wrap_nat bM.out.2
      by_cases h0 : Cm.derr c = 0
      case neg =>
        have NONE := Lib.hid (NF.out (fun f => h0 f.1))
        have dv : (Cm.dval c).val = .agg #[.int .u64 0, .int .u64 0, .int .i64 0, .int .u32 0] := by unfold Cm.dval; rw [if_neg h0]; rfl
        rw [dv] at D2
        obtain ⟨er, her⟩ : ∃ er, er = Cm.derr c := ⟨_, rfl⟩
        rw [← her] at D2 h0
        have hne : (er != 0) = true := by simpa using h0
        clear her dv h0 hc' hc2 hSH NF YF
        go_wp2_with (first
          | (go_at_call 81; refine (SM.out _).mono ?_; rintro e w' ⟨rfl, rfl⟩)
          | (go_at_call 83; refine D2.out.mono ?_; rintro e w1 ⟨rfl, C1⟩; have H1 := Lib.hid ((H.out.quiet C1.out).quiet ((Chg.refl [] _).alloc (.cells #[.int .u64 0, .int .u64 0, .int .i64 0, .int .u32 0] 85))); have bG : Blk _ g 25 _ := H1.out.get 4 rfl; have bN : Blk _ (g + 1) 25 _ := H1.out.get 5 rfl; have k0 := bG.cell (j := 0) rfl; have k1 := bG.cell (j := 1) rfl; have f0 := bG.free 0; have f1 := bG.free 1; have n0 := bN.cell (j := 0) rfl; have n1 := bN.cell (j := 1) rfl; clear bG bN)
          | (go_at_call 29; (refine (SU2.out _ (by have o := (show World.ownsRow _ 0 5 1 (.slice ho J hc) (ub (Sc.heads bs p j)).length (ub (Sc.heads bs p j)) from H1.out.get 0 rfl); rw [ub_len, HHL.out] at o; exact o)).mono ?_; rintro e w' ⟨rfl, rfl⟩)))
        (try simp only [Exit.inBlock, Exit.then]); show bodyPost _ _ _ Exit.ret ⟨_, []⟩ _
        have F := NO.out _ (H1.out.get 4 rfl) H1.out.chg
        refine bodyPost_ret (rc_cell_and_tmp (ty := 25) rfl _ _ g _ _ _ _ rfl F.1 Tryz.underlying25 size_Tx) rfl ?_
        exact .inr ⟨NONE.out, rfl, F.2⟩
      obtain ⟨y, hy⟩ : ∃ y, y = Cm.of c := ⟨_, rfl⟩
      have dv : (Cm.dval c).val = .agg #[.int .u64 (y.ep : Int), .int .u64 (y.sq : Int), .int .i64 y.ct, .int .u32 (y.sm : Int)] := by unfold Cm.dval; rw [if_pos h0, hy]; rfl
      rw [dv, h0] at D2
      have FK : Hid (Sc.Ends ep sq j (Sc.heads bs p j) c ↔ y.ep = ep ∧ y.sq = sq ∧ y.ct = (j : Int) ∧ y.sm = SH) := by
        show _ ↔ _
        unfold Sc.Ends
        rw [hy, hSH]
        exact ⟨fun f => f.2, fun f => ⟨h0, f⟩⟩
      obtain ⟨y0, y1, y2, y3⟩ := y
      dsimp only at D2 FK
      clear hy dv h0 hc' hc2 hSH
      go_upto_region 26 with (first
        | (go_at_call 81; refine (SM.out _).mono ?_; rintro e w' ⟨rfl, rfl⟩)
        | (go_at_call 83; refine D2.out.mono ?_; rintro e w1 ⟨rfl, C1⟩; have H1 := Lib.hid ((H.out.quiet C1.out).box [.int .u64 (y0 : Int), .int .u64 (y1 : Int), .int .i64 y2, .int .u32 (y3 : Int)] 85))
        | (go_at_call 29; (refine (SU2.out _ (by have o := (show World.ownsRow _ 0 5 1 (.slice ho J hc) (ub (Sc.heads bs p j)).length (ub (Sc.heads bs p j)) from H1.out.get 1 rfl); rw [ub_len, HHL.out] at o; exact o)).mono ?_; rintro e w' ⟨rfl, rfl⟩)))
      obtain ⟨W3, hW3⟩ : ∃ W3, W3 = w1.alloc (.cells #[.int .u64 (y0 : Int), .int .u64 (y1 : Int), .int .i64 y2, .int .u32 (y3 : Int)] 85) := ⟨_, rfl⟩
      obtain ⟨hh, hhh⟩ : ∃ hh, hh = w1.heap.size := ⟨_, rfl⟩
      have H3 : Hid (Side w W3 (blkT hh 85 [.int .u64 (y0 : Int), .int .u64 (y1 : Int), .int .i64 y2, .int .u32 (y3 : Int)] :: ownT 5 (.slice ho J hc) (ub (Sc.heads bs p j)) :: listT (.slice po j pc) A :: dataT A :: [blkT h 25 [.int .u64 (sq : Int), .slice po j pc], blkT g 25 [.int .u64 0, .slice none 0 0], blkT (g + 1) 25 [.int .u64 0, .slice none 0 0]])) := by rw [hW3, hhh]; exact H1.out
      rw [← hW3, ← hhh]
      clear hW3 hhh C1 H1 H D2 SU2
      have bH : Blk W3 hh 85 _ := H3.out.get 0 rfl
      have d0 := bH.cell (j := 0) rfl
      have d1 := bH.cell (j := 1) rfl
      have d2 := bH.cell (j := 2) rfl
      have d3 := bH.cell (j := 3) rfl
      clear bH
      have bG : Blk W3 g 25 _ := H3.out.get 5 rfl
      have bN : Blk W3 (g + 1) 25 _ := H3.out.get 6 rfl
      have k0 := bG.cell (j := 0) rfl
      have k1 := bG.cell (j := 1) rfl
      have f0 := bG.free 0
      have f1 := bG.free 1
      have n0 := bN.cell (j := 0) rfl
      have n1 := bN.cell (j := 1) rfl
      clear bG bN
      by_cases q0 : (y0 : Int) = (ep : Int)
      case neg =>
        have tq0 : ((y0 : Int) != (ep : Int)) = true := by simpa using q0
        have NONE := Lib.hid (NF.out (fun f => q0 (congrArg (fun z : Nat => (z : Int)) (FK.out.1 f).1)))
        clear q0
        go_wp2_with fail
        (try simp only [Exit.inBlock, Exit.then]); show bodyPost _ _ _ Exit.ret ⟨_, []⟩ _
        have F := NO.out _ (H3.out.get 5 rfl) H3.out.chg
        refine bodyPost_ret (rc_cell_and_tmp (ty := 25) rfl _ _ g _ _ _ _ rfl F.1 Tryz.underlying25 size_Tx) rfl ?_
        exact .inr ⟨NONE.out, rfl, F.2⟩
      have tq0 : ((y0 : Int) != (ep : Int)) = false := by simp [q0]
      replace q0 := Lib.hid q0
      by_cases q1 : (y1 : Int) = (sq : Int)
      case neg =>
        have tq1 : ((y1 : Int) != (sq : Int)) = true := by simpa using q1
        have NONE := Lib.hid (NF.out (fun f => q1 (congrArg (fun z : Nat => (z : Int)) (FK.out.1 f).2.1)))
        clear q1
        go_wp2_with fail
        (try simp only [Exit.inBlock, Exit.then]); show bodyPost _ _ _ Exit.ret ⟨_, []⟩ _
        have F := NO.out _ (H3.out.get 5 rfl) H3.out.chg
        refine bodyPost_ret (rc_cell_and_tmp (ty := 25) rfl _ _ g _ _ _ _ rfl F.1 Tryz.underlying25 size_Tx) rfl ?_
        exact .inr ⟨NONE.out, rfl, F.2⟩
      have tq1 : ((y1 : Int) != (sq : Int)) = false := by simp [q1]
      replace q1 := Lib.hid q1
      by_cases q2 : y2 = (j : Int)
      case neg =>
        have tq2 : (y2 != (j : Int)) = true := by simpa using q2
        have NONE := Lib.hid (NF.out (fun f => q2 ((FK.out.1 f).2.2.1)))
        clear q2
        go_wp2_with fail
        (try simp only [Exit.inBlock, Exit.then]); show bodyPost _ _ _ Exit.ret ⟨_, []⟩ _
        have F := NO.out _ (H3.out.get 5 rfl) H3.out.chg
        refine bodyPost_ret (rc_cell_and_tmp (ty := 25) rfl _ _ g _ _ _ _ rfl F.1 Tryz.underlying25 size_Tx) rfl ?_
        exact .inr ⟨NONE.out, rfl, F.2⟩
      have tq2 : (y2 != (j : Int)) = false := by simp [q2]
      replace q2 := Lib.hid q2
      by_cases q3 : (y3 : Int) = (SH : Int)
      case neg =>
        have tq3 : ((y3 : Int) != (SH : Int)) = true := by simpa using q3
        have NONE := Lib.hid (NF.out (fun f => q3 (congrArg (fun z : Nat => (z : Int)) (FK.out.1 f).2.2.2)))
        clear q3
        go_wp2_with fail
        (try simp only [Exit.inBlock, Exit.then]); show bodyPost _ _ _ Exit.ret ⟨_, []⟩ _
        have F := NO.out _ (H3.out.get 5 rfl) H3.out.chg
        refine bodyPost_ret (rc_cell_and_tmp (ty := 25) rfl _ _ g _ _ _ _ rfl F.1 Tryz.underlying25 size_Tx) rfl ?_
        exact .inr ⟨NONE.out, rfl, F.2⟩
      have tq3 : ((y3 : Int) != (SH : Int)) = false := by simp [q3]
      replace q3 := Lib.hid q3
      have WH := Lib.hid (YF.out (FK.out.2 ⟨Int.ofNat.inj q0.out, Int.ofNat.inj q1.out, q2.out, Int.ofNat.inj q3.out⟩))
      have bT : Blk W3 h 25 _ := H3.out.get 4 rfl
      have z0 := bT.cell (j := 0) rfl
      have z1 := bT.cell (j := 1) rfl
      clear bT n0 n1 NF YF FK
      go_wp2_with fail
      (try simp only [Exit.inBlock, Exit.then]); show bodyPost _ _ _ Exit.ret ⟨_, []⟩ _
      have HF : Side w ((W3.setCell ⟨g, 0, none⟩ (.int .u64 (sq : Int))).setCell ⟨g, 1, none⟩ (.slice po j pc)) (blkT g 25 [.int .u64 (sq : Int), .slice po j pc] :: listT (.slice po j pc) A :: [dataT A]) := by
        have a1 : Side w W3 [blkT g 25 [.int .u64 0, .slice none 0 0], listT (.slice po j pc) A, dataT A] := (H3.out.front 5).sub (.cons_cons _ (.cons _ (.cons _ (.cons_cons _ (.cons_cons _ (List.nil_sublist _))))))
        have bg : Blk W3 g 25 [.int .u64 0, .slice none 0 0] := a1.get 0 rfl
        exact a1.turnAt (b := blkT g 25 [.int .u64 (sq : Int), .slice po j pc]) 0 rfl (s := [g]) (((Chg.refl [g] W3).setCell (p := ⟨g, 0, none⟩) (.inl (by simp)) _).setCell (p := ⟨g, 1, none⟩) (.inl (by simp)) _) (fun k hk => .inl hk) ((bg.set 0 _).set 1 _) (fun k hk => .inl hk)
      refine bodyPost_ret (rc_cell_and_tmp (ty := 25) rfl _ _ g _ _ _ _ rfl (HF.get 0 rfl : Blk _ g 25 _) Tryz.underlying25 size_Tx) rfl ?_
      refine .inl ⟨j, A, .slice po j pc, WH.out, ?_, DA.out, HF.tail⟩
      rw [← HMM.out.2]
      rfl
    obtain ⟨K, hK⟩ : ∃ K, K = 2 * j := ⟨_, rfl⟩
    obtain ⟨K1, hK1⟩ : ∃ K1, K1 = K + 1 := ⟨_, rfl⟩
    have e1 : 2 * (j : Int) = (K : Int) := by omega
    have e2 : (K : Int) + 1 = (K1 : Int) := by omega
    have S1 := Lib.hid (fun W => SEC.out K W (by omega))
    have S2 := Lib.hid (fun W => SEC.out K1 W (by omega))
    have bK : Hid (K ≤ 1000000 ∧ K1 ≤ 1000000) := ⟨by omega, by omega⟩
    have hlt1 : (j : Int) < m := by omega
    obtain ⟨s, hs⟩ : ∃ s, s = Sc.sec bs (p + K) := ⟨_, rfl⟩
    obtain ⟨t, ht⟩ : ∃ t, t = Sc.sec bs (p + K1) := ⟨_, rfl⟩
    have hs2 : Hid (s = Sc.sec bs (p + 2 * j)) := by show _ = _; rw [hs, hK]
    have ht2 : Hid (t = Sc.sec bs (p + 2 * j + 1)) := by show _ = _; rw [ht, hK1, hK, Nat.add_assoc]
    have NF : Hid (¬ Sc.Fits ep sq m j s t → ∀ m', ¬ Sc.Whole bs p room ep sq m') := fun nf m' k => by
      obtain rfl := EQ.out m' k
      rw [hs2.out, ht2.out] at nf
      exact nf (k.each j hlt)
    have FS : Hid (Sc.Fits ep sq m j s t → ∀ i, i < j + 1 → Sc.Fits ep sq m i (Sc.sec bs (p + 2 * i)) (Sc.sec bs (p + 2 * i + 1))) := fun f i hi => by
      rcases Nat.lt_or_ge i j with c | c
      · exact FT.out i c
      · obtain rfl : i = j := by omega
        rw [← hs2.out, ← ht2.out]
        exact f
    have D1 := Lib.hid (DH.out (p + K) wr H.out.chg)
    have SL1 := Lib.hid (fun W c => SLS.out (p + K) W c)
    have SM1 := Lib.hid (fun W c => SU.out (p + K1) W c)
    have UN1 := Lib.hid (fun es W c => UN.out (p + K1) es W c)
    rw [← hs] at D1 SL1
    rw [← ht] at SM1 UN1
    have hs8 : Hid ((ints s).length = 128) := by show _ = _; rw [ints_length, hs]; exact (SLN.out _).1
    have HE1 : Hid (ub (Sc.heads bs p j) ++ (ints s).map (Value.int .u8) = ub (Sc.heads bs p (j + 1))) := by
      show _ = _
      rw [Sc.heads_succ, ← hs2.out, ub_app2]
      rfl
    obtain ⟨sa, sc, hv1⟩ := hsv.out (p + K)
    rw [hv1] at S1 D1 SL1
    have L1 : Hid (J + (ints s).length ≤ maxLen) := by show _ ≤ _; rw [hs8.out]; unfold maxLen; omega
    have L2 : Hid ((J + (ints s).length) * 1 ≤ 140737488355328) := by show _ ≤ _; rw [hs8.out]; omega
    have L3 : Hid (j + 1 ≤ maxLen) := by show _ ≤ _; unfold maxLen; omega
    have L4 : Hid ((j + 1) * 40 ≤ 140737488355328) := by show _ ≤ _; omega
    have hjm : Hid (j + 1 ≤ m) := hlt
    clear hK hK1 hv1 hs ht hj hlt hJb
    have v3 := wrap_nat bK.out.1
    have v4 := wrap_nat bK.out.2
    by_cases h0 : Hd.derr s = 0
    case neg =>
      have NONE := Lib.hid (NF.out (fun f => h0 f.1))
      have dv : (Hd.dval s).val = .agg #[.int .u64 0, .int .u64 0, .int .i64 0, .int .i64 0, .int .i64 0, .int .i64 0, .bool false, .int .u32 0] := by unfold Hd.dval; rw [if_neg h0]; rfl
      rw [dv] at D1
      obtain ⟨er, her⟩ : ∃ er, er = Hd.derr s := ⟨_, rfl⟩
      rw [← her] at D1 h0
      have hne : (er != 0) = true := by simpa using h0
      clear her dv h0 NF FS
      go_wp2_with (first
        | (go_at_call 81; refine (S1.out _).mono ?_; rintro e w' ⟨rfl, rfl⟩)
        | (go_at_call 80; refine D1.out.mono ?_; rintro e w1 ⟨rfl, C1⟩; have H1 := Lib.hid ((H.out.quiet C1.out).quiet ((Chg.refl [] _).alloc (.cells #[.int .u64 0, .int .u64 0, .int .i64 0, .int .i64 0, .int .i64 0, .int .i64 0, .bool false, .int .u32 0] 81))); have bG : Blk _ g 25 _ := H1.out.get 4 rfl; have bN : Blk _ (g + 1) 25 _ := H1.out.get 5 rfl; have k0 := bG.cell (j := 0) rfl; have k1 := bG.cell (j := 1) rfl; have f0 := bG.free 0; have f1 := bG.free 1; have n0 := bN.cell (j := 0) rfl; have n1 := bN.cell (j := 1) rfl; clear bG bN))
      (try simp only [Exit.inBlock, Exit.then]); show bodyPost _ _ _ Exit.ret ⟨_, []⟩ _
      have F := NO.out _ (H1.out.get 4 rfl) H1.out.chg
      refine bodyPost_ret (rc_cell_and_tmp (ty := 25) rfl _ _ g _ _ _ _ rfl F.1 Tryz.underlying25 size_Tx) rfl ?_
      exact .inr ⟨NONE.out, rfl, F.2⟩
    obtain ⟨x, hx⟩ : ∃ x, x = Hd.of s := ⟨_, rfl⟩
    have dv : (Hd.dval s).val = .agg #[.int .u64 (x.ep : Int), .int .u64 (x.sq : Int), .int .i64 x.ix, .int .i64 x.ct, .int .i64 x.mb, .int .i64 x.rw', .bool x.esc, .int .u32 (x.sm : Int)] := by unfold Hd.dval; rw [if_pos h0, hx]; rfl
    rw [dv, h0] at D1
    have FK : Hid (Sc.Fits ep sq m j s t ↔ x.ep = ep ∧ x.sq = sq ∧ x.ix = (j : Int) ∧ x.ct = (m : Int) ∧ sum t = x.sm ∧ uneE t x.esc = 0) := by
      show _ ↔ _
      unfold Sc.Fits
      rw [hx]
      exact ⟨fun f => f.2, fun f => ⟨h0, f⟩⟩
    have PT : Hid (Sc.ptOf s t = ⟨x.mb.toNat, x.rw'.toNat, uneV t x.esc⟩) := by show _ = _; rw [hx]; rfl
    have OKX := (Sc.derr_hd h0).1
    rw [← hx] at OKX
    have hx4 : 0 ≤ x.mb := OKX.2.2.2.2.2.1
    have hx5 : 0 ≤ x.rw' := OKX.2.2.2.2.2.2.2.1
    obtain ⟨x0, x1, x2, x3, x4, x5, x6, x7⟩ := x
    dsimp only at D1 FK PT hx4 hx5
    obtain ⟨mm, rfl⟩ := Int.eq_ofNat_of_zero_le hx4
    obtain ⟨rr, rfl⟩ := Int.eq_ofNat_of_zero_le hx5
    rw [Int.toNat_natCast, Int.toNat_natCast] at PT
    have UN2 := Lib.hid (fun W c => UN1.out x6 W c)
    clear hx dv h0 OKX hx4 hx5 UN1
    unfold UneIs at UN2
    generalize uneE t x6 = er at *
    generalize uneV t x6 = U at *
    generalize sum t = S at *
    go_upto_region 15 with (first
      | (go_at_call 81; refine (S1.out _).mono ?_; rintro e w' ⟨rfl, rfl⟩)
      | (go_at_call 80; refine D1.out.mono ?_; rintro e w3 ⟨rfl, C3⟩))
    obtain ⟨W3, hW3⟩ : ∃ W3, W3 = w3.alloc (.cells #[.int .u64 (x0 : Int), .int .u64 (x1 : Int), .int .i64 x2, .int .i64 x3, .int .i64 (mm : Int), .int .i64 (rr : Int), .bool x6, .int .u32 (x7 : Int)] 81) := ⟨_, rfl⟩
    obtain ⟨hh, hhh⟩ : ∃ hh, hh = w3.heap.size := ⟨_, rfl⟩
    have H3 : Hid (Side w W3 (blkT hh 81 [.int .u64 (x0 : Int), .int .u64 (x1 : Int), .int .i64 x2, .int .i64 x3, .int .i64 (mm : Int), .int .i64 (rr : Int), .bool x6, .int .u32 (x7 : Int)] :: ownT 5 (.slice ho J hc) (ub (Sc.heads bs p j)) :: listT (.slice po j pc) A :: dataT A :: [blkT h 25 [.int .u64 (sq : Int), .slice po j pc], blkT g 25 [.int .u64 0, .slice none 0 0], blkT (g + 1) 25 [.int .u64 0, .slice none 0 0]])) := by rw [hW3, hhh]; exact (H.out.quiet C3.out).box [.int .u64 (x0 : Int), .int .u64 (x1 : Int), .int .i64 x2, .int .i64 x3, .int .i64 (mm : Int), .int .i64 (rr : Int), .bool x6, .int .u32 (x7 : Int)] 81
    rw [← hW3, ← hhh]
    clear hW3 hhh C3 H D1
    have bH : Blk W3 hh 81 _ := H3.out.get 0 rfl
    have d0 := bH.cell (j := 0) rfl
    have d1 := bH.cell (j := 1) rfl
    have d2 := bH.cell (j := 2) rfl
    have d3 := bH.cell (j := 3) rfl
    clear bH
    have bG : Blk W3 g 25 _ := H3.out.get 5 rfl
    have bN : Blk W3 (g + 1) 25 _ := H3.out.get 6 rfl
    have k0 := bG.cell (j := 0) rfl
    have k1 := bG.cell (j := 1) rfl
    have f0 := bG.free 0
    have f1 := bG.free 1
    have n0 := bN.cell (j := 0) rfl
    have n1 := bN.cell (j := 1) rfl
    clear bG bN
    by_cases q0 : (x0 : Int) = (ep : Int)
    case neg =>
      have tq0 : ((x0 : Int) != (ep : Int)) = true := by simpa using q0
      have NONE := Lib.hid (NF.out (fun f => q0 (congrArg (fun z : Nat => (z : Int)) (FK.out.1 f).1)))
      clear q0
      go_wp2_with fail
      (try simp only [Exit.inBlock, Exit.then]); show bodyPost _ _ _ Exit.ret ⟨_, []⟩ _
      have F := NO.out _ (H3.out.get 5 rfl) H3.out.chg
      refine bodyPost_ret (rc_cell_and_tmp (ty := 25) rfl _ _ g _ _ _ _ rfl F.1 Tryz.underlying25 size_Tx) rfl ?_
      exact .inr ⟨NONE.out, rfl, F.2⟩
    have tq0 : ((x0 : Int) != (ep : Int)) = false := by simp [q0]
    replace q0 := Lib.hid q0
    by_cases q1 : (x1 : Int) = (sq : Int)
    case neg =>
      have tq1 : ((x1 : Int) != (sq : Int)) = true := by simpa using q1
      have NONE := Lib.hid (NF.out (fun f => q1 (congrArg (fun z : Nat => (z : Int)) (FK.out.1 f).2.1)))
      clear q1
      go_wp2_with fail
      (try simp only [Exit.inBlock, Exit.then]); show bodyPost _ _ _ Exit.ret ⟨_, []⟩ _
      have F := NO.out _ (H3.out.get 5 rfl) H3.out.chg
      refine bodyPost_ret (rc_cell_and_tmp (ty := 25) rfl _ _ g _ _ _ _ rfl F.1 Tryz.underlying25 size_Tx) rfl ?_
      exact .inr ⟨NONE.out, rfl, F.2⟩
    have tq1 : ((x1 : Int) != (sq : Int)) = false := by simp [q1]
    replace q1 := Lib.hid q1
    by_cases q2 : x2 = (j : Int)
    case neg =>
      have tq2 : (x2 != (j : Int)) = true := by simpa using q2
      have NONE := Lib.hid (NF.out (fun f => q2 ((FK.out.1 f).2.2.1)))
      clear q2
      go_wp2_with fail
      (try simp only [Exit.inBlock, Exit.then]); show bodyPost _ _ _ Exit.ret ⟨_, []⟩ _
      have F := NO.out _ (H3.out.get 5 rfl) H3.out.chg
      refine bodyPost_ret (rc_cell_and_tmp (ty := 25) rfl _ _ g _ _ _ _ rfl F.1 Tryz.underlying25 size_Tx) rfl ?_
      exact .inr ⟨NONE.out, rfl, F.2⟩
    have tq2 : (x2 != (j : Int)) = false := by simp [q2]
    replace q2 := Lib.hid q2
    by_cases q3 : x3 = (m : Int)
    case neg =>
      have tq3 : (x3 != (m : Int)) = true := by simpa using q3
      have NONE := Lib.hid (NF.out (fun f => q3 ((FK.out.1 f).2.2.2.1)))
      clear q3
      go_wp2_with fail
      (try simp only [Exit.inBlock, Exit.then]); show bodyPost _ _ _ Exit.ret ⟨_, []⟩ _
      have F := NO.out _ (H3.out.get 5 rfl) H3.out.chg
      refine bodyPost_ret (rc_cell_and_tmp (ty := 25) rfl _ _ g _ _ _ _ rfl F.1 Tryz.underlying25 size_Tx) rfl ?_
      exact .inr ⟨NONE.out, rfl, F.2⟩
    have tq3 : (x3 != (m : Int)) = false := by simp [q3]
    replace q3 := Lib.hid q3
    clear k0 k1 f0 f1 n0 n1
    have OHH : Hid (W3.ownsRow 0 5 1 (.slice ho J hc) J (ub (Sc.heads bs p j))) := by
      have o := (show W3.ownsRow 0 5 1 (.slice ho J hc) (ub (Sc.heads bs p j)).length (ub (Sc.heads bs p j)) from H3.out.get 1 rfl)
      rw [ub_len, HHL.out] at o
      exact o
    have SSL := Lib.hid (SL1.out W3 H3.out.chg)
    go_upto_region 21 with (first
      | (at_builtin; (refine wpList_append_sl _ rfl (.tmp 100) (.tmp 101) 55 rfl 0 5 b0 (.int .u8 0) 1 Tryz.underlying55 bi.out bz0.out bz1.out bz2.out rfl _ J _ rfl OHH.out sa 128 sc (ints s) rfl SSL.out L1.out L2.out (Nat.zero_le _) ?_); intro hv' w4 ol gr nb; have H4 : Hid (Side w w4 (blkT hh 81 [.int .u64 (x0 : Int), .int .u64 (x1 : Int), .int .i64 x2, .int .i64 x3, .int .i64 (mm : Int), .int .i64 (rr : Int), .bool x6, .int .u32 (x7 : Int)] :: ownT 5 hv' (ub (Sc.heads bs p (j + 1))) :: listT (.slice po j pc) A :: dataT A :: [blkT h 25 [.int .u64 (sq : Int), .slice po j pc], blkT g 25 [.int .u64 0, .slice none 0 0], blkT (g + 1) 25 [.int .u64 0, .slice none 0 0]])) := (by have h6 := own_more2 H3.out 1 rfl ((Chg.refl _ W3).grown gr.out (fun b2 hb2 => .inl (by have hb3 : (Value.slice ho J hc).ownBlock = some b2 := hb2; rw [hb3]; simp))) ol.out (nb_of nb.out (Nat.le_refl _)); rw [HE1.out] at h6; exact h6); have d6 := (H4.out.get 0 rfl : Blk w4 hh 81 _).cell (j := 6) rfl; clear ol gr nb H3)
      | (go_at_call 81; refine (S2.out _).mono ?_; rintro e w' ⟨rfl, rfl⟩)
      | (go_at_call 29; refine (SM1.out _ H4.out.chg).mono ?_; rintro e w' ⟨rfl, rfl⟩)
      | (go_at_call 82; refine (UN2.out _ H4.out.chg).mono ?_; rintro e w5 ⟨u, rfl, OU, C5⟩))
    have H5 := Lib.hid (H4.out.own OU.out C5.out)
    clear OU C5 H4 SM1 UN2 SL1 S1 S2 d0 d1 d2 d3 d6 OHH SSL
    have bH : Blk w5 hh 81 _ := H5.out.get 1 rfl
    have d7 := bH.cell (j := 7) rfl
    have d4 := bH.cell (j := 4) rfl
    have d5 := bH.cell (j := 5) rfl
    clear bH
    have bG : Blk w5 g 25 _ := H5.out.get 6 rfl
    have bN : Blk w5 (g + 1) 25 _ := H5.out.get 7 rfl
    have k0 := bG.cell (j := 0) rfl
    have k1 := bG.cell (j := 1) rfl
    have f0 := bG.free 0
    have f1 := bG.free 1
    have n0 := bN.cell (j := 0) rfl
    have n1 := bN.cell (j := 1) rfl
    clear bG bN
    by_cases q4 : (S : Int) = (x7 : Int)
    case neg =>
      have t4 : ((S : Int) != (x7 : Int)) = true := by simpa using q4
      have NONE := Lib.hid (NF.out (fun f => q4 (congrArg (fun z : Nat => (z : Int)) (FK.out.1 f).2.2.2.2.1)))
      clear q4
      go_wp2_with fail
      (try simp only [Exit.inBlock, Exit.then]); show bodyPost _ _ _ Exit.ret ⟨_, []⟩ _
      have F := NO.out _ (H5.out.get 6 rfl) H5.out.chg
      refine bodyPost_ret (rc_cell_and_tmp (ty := 25) rfl _ _ g _ _ _ _ rfl F.1 Tryz.underlying25 size_Tx) rfl ?_
      exact .inr ⟨NONE.out, rfl, F.2⟩
    have t4 : ((S : Int) != (x7 : Int)) = false := by simp [q4]
    replace q4 := Lib.hid q4
    by_cases q5 : er = 0
    case neg =>
      have t5 : (er != 0) = true := by simpa using q5
      have NONE := Lib.hid (NF.out (fun f => q5 (FK.out.1 f).2.2.2.2.2))
      clear q5
      go_wp2_with fail
      (try simp only [Exit.inBlock, Exit.then]); show bodyPost _ _ _ Exit.ret ⟨_, []⟩ _
      have F := NO.out _ (H5.out.get 6 rfl) H5.out.chg
      refine bodyPost_ret (rc_cell_and_tmp (ty := 25) rfl _ _ g _ _ _ _ rfl F.1 Tryz.underlying25 size_Tx) rfl ?_
      exact .inr ⟨NONE.out, rfl, F.2⟩
    subst q5
    have FIT := Lib.hid (FS.out (FK.out.2 ⟨Int.ofNat.inj q0.out, Int.ofNat.inj q1.out, q2.out, q3.out, Int.ofNat.inj q4.out, (by trivial)⟩))
    clear NF FS FK k0 k1 f0 f1 n0 n1
    obtain ⟨uo, uc, rfl⟩ : ∃ uo uc, u = .slice uo U.length uc := owns_slice (show w5.ownsRow 0 5 1 u U.length (ub U) by have h : w5.ownsRow 0 5 1 u (ub U).length (ub U) := H5.out.get 0 rfl; rw [ub_len] at h; exact h)
    have R5 : Hid (Side w w5 (ownT 5 (.slice uo U.length uc) (ub U) :: blkT h 25 [.int .u64 (sq : Int), .slice po j pc] :: listT (.slice po j pc) A :: dataT A :: blkT hh 81 [.int .u64 (x0 : Int), .int .u64 (x1 : Int), .int .i64 x2, .int .i64 x3, .int .i64 (mm : Int), .int .i64 (rr : Int), .bool x6, .int .u32 (x7 : Int)] :: ownT 5 hv' (ub (Sc.heads bs p (j + 1))) :: [blkT g 25 [.int .u64 0, .slice none 0 0], blkT (g + 1) 25 [.int .u64 0, .slice none 0 0]])) := (((H5.out.front 4).front 4).front 5).front 3
    clear H5
    have BT := Lib.hid (R5.out.get 1 rfl : Blk w5 h 25 _)
    have OR : Hid (w5.ownsRow 0 72 3 (.slice po j pc) j (A.map pvSlot).flatten) := by
      have o := (show OwnW 3 w5 0 72 (.slice po j pc) (A.map pvSlot) from R5.out.get 2 rfl).2
      rw [List.length_map, LA.out] at o
      exact o
    have OFFP : Hid ((Value.slice po j pc).ownBlock ≠ some h) := fun e => (List.pairwise_cons.1 R5.out.tail.apart).1 (listT (.slice po j pc) A) List.mem_cons_self h (by simp [blkT]) (by show h ∈ (Value.slice po j pc).ownBlock.toList; simp [e])
    have z1 := BT.out.cell (j := 1) rfl
    have hUL := Lib.hid (rfl : (ub U).length = (ub U).length)
    obtain ⟨UL, hUl⟩ : ∃ UL, UL = U.length := ⟨_, rfl⟩
    rw [← hUl] at R5 ⊢
    replace hUl := Lib.hid hUl
    go_wp2_with (first
      | (at_builtin; (refine wpList_append_three _ rfl (.tmp 128) (.tmp 135) 23 rfl 0 72 i0 (.agg #[.int .i64 0, .int .i64 0, .slice none 0 0]) 3 40 Tryz.underlying23 hi.out hz0.out hz1.out hz2.out rfl (by decide) _ j _ rfl (OR.out.alloc _) ⟨w5.heap.size, 0, none⟩ 1 1 [.int .i64 (mm : Int), .int .i64 (rr : Int), .slice uo UL uc] rfl rfl (three_new1 _ _ _ _ _) (by simp [Value.oneCell']) L3.out L4.out (Nat.zero_le _) ?_); intro vv wn ol gr nb; obtain ⟨no, nc, hnv⟩ := owns_slice ol.out; subst hnv; have CG : Hid (Chg (Value.slice po j pc).ownBlock.toList w5 wn) := (((Chg.refl [] w5).alloc _).mono (by simp)).grown gr.out (fun b2 hb2 => .inl (by have hb3 : (Value.slice po j pc).ownBlock = some b2 := hb2; rw [hb3]; simp)); have PN : Hid (Blk wn h 25 _) := BT.out.chg CG.out (fun hm => OFFP.out (by simpa using hm)); have z2 := PN.out.cell (j := 1) rfl; have zf := PN.out.free 1))
    have NB := Lib.hid (nb_of nb.out (H0 := w5.heap.size) (by simp))
    have SF := Lib.hid (take_end (j := 1) (d := ⟨mm, rr, U⟩) R5.out CG.out (by rw [LA.out]) ol.out NB.out)
    have H7 : Hid (Side w (wn.setCell ⟨h, 1, none⟩ (.slice no (j + 1) nc)) (ownT 5 hv' (ub (Sc.heads bs p (j + 1))) :: listT (.slice no (j + 1) nc) (A ++ [(⟨mm, rr, U⟩, .slice uo UL uc)]) :: dataT (A ++ [(⟨mm, rr, U⟩, .slice uo UL uc)]) :: [blkT h 25 [.int .u64 (sq : Int), .slice no (j + 1) nc], blkT g 25 [.int .u64 0, .slice none 0 0], blkT (g + 1) 25 [.int .u64 0, .slice none 0 0]])) := ((((SF.out.front 3).tail).front 2).front 2).front 3
    have DA2 : Hid (dOf (A ++ [((⟨mm, rr, U⟩ : Pd), (.slice uo UL uc : Value))]) = Sc.pts bs p (j + 1)) := by
      show _ = _
      rw [dOf_snoc, DA.out, Sc.pts_succ, ← hs2.out, ← ht2.out, PT.out]
    clear v3 v4 e1 e2
    have hjm2 := hjm.out
    go_roundw
    case rel => exact ⟨j + 1, _, _, hjm2, by go_num, FIT.out, DA2, H7⟩
    case measure => simp [intOf]; omega

end Go.Proofs.YtnkdgmnmmmjgjaaGreat
