/-
  'are' and 'does' of the journal's laws. By an AI agent.
-/
import Derived.Test.YtkafkdlgflkjgaaGreatBWlMuch
import Derived.Test.YtkafkdlgflkjgaaGreatBWlLawC
import Derived.Test.YtkafkdlgflkjgaaGreatBGSamePts
import Derived.Test.YtkafkdlgflkjgaaGreatBGAppend
import Derived.Deep.QuietTactic
namespace Go.Proofs.YtkafkdlgflkjgaaGreat
open Go.RowKit Go.Maps Crc

/-- A batch that was found, and the patches that it was made of. -/
structure AreAt (w : World) (lo ao : Option Addr) (sq k : Nat) : Prop where
 both : ∃ g xo xc g2 yo yc, ∃ ps bs : List PtD, lo = some ⟨g, 0, none⟩ ∧ ao = some ⟨g2, 0, none⟩ ∧ w.cell? ⟨g, k * 2, none⟩ = some (.int .u64 ((sq : Int) + k)) ∧ w.cell? ⟨g, k * 2 + 1, none⟩ = some (.slice xo ps.length xc) ∧
  w.cell? ⟨g2, k, none⟩ = some (.slice yo ps.length yc) ∧ Pts w (.slice xo ps.length xc) ps ∧ Pts w (.slice yo ps.length yc) bs ∧ ps.length = bs.length ∧ ∀ (i : Nat) (p q : PtD), ps[i]? = some p → bs[i]? = some q → p.alike q

set_option maxHeartbeats 4000000 in
set_option maxRecDepth 1000000 in
theorem are_gen (w : World) (lo ao : Option Addr) (lc ac N M sq : Nat) (K0 : Int) (hN : N ≤ 100000) (hNM : N ≤ M) (hK0 : K0 ≤ N) (hsq : sq ≤ 4611686018427387904) (h : ∀ k, k < N → AreAt w lo ao sq k) :
 Calls Tryz.prog 45 #[.slice lo N lc, .slice ao M ac, .int .i64 K0] w fun e w' => e = .returned (.bool true) ∧ ∃ q, w' = w.drewN q := by
 have H := Lib.hid h
 have hN0 : (0 : Int) ≤ N := Int.natCast_nonneg _
 have hx1 : ¬ (N : Int) < K0 := by omega
 have hx2 : ¬ (M : Int) < (N : Int) := by omega
 have hx3 : (N : Int) ≤ (M : Int) := by omega
 replace hN := Lib.hid hN
 replace hsq := Lib.hid hsq
 clear h hNM hK0
 go_enter Tryz.func45, Tryz.ntmps45
 go_wp2_with fail
 go_loopw [7] (fun i wr => ∃ k : Nat, k ≤ N ∧ i = .int .i64 k ∧ ∃ q, wr = w.drewN q) (fun i _ => N - (intOf i).toNat)
 case atStart => exact ⟨0, Nat.zero_le _, rfl, 0, rfl⟩
 case round =>
  obtain ⟨k, hk, rfl, q, rfl⟩ := hrel
  have hk0 : (0 : Int) ≤ k := Int.natCast_nonneg _
  by_cases hlt : k < N
  ·have hk1 : (k : Int) < N := by omega
   have hk9 : (k : Int) < (M : Int) := by omega
   have MEAS : Hid (N - (intOf (.int .i64 ((k : Int) + 1))).toNat < N - (intOf (.int .i64 (k : Int))).toNat) := meas_next hlt
   obtain ⟨wa, wb⟩ := sc_wrap (z := (k : Int) + 1) (by omega) (by have := hN.out; omega)
   obtain ⟨g, xo, xc, g2, yo, yc, ps, bs, rfl, rfl, c0, c1, c2, P1, P2, hl, hal⟩ := (H.out k hlt).both
   have SM : Hid (∀ n, Calls Tryz.prog 118 #[.slice xo ps.length xc, .slice yo ps.length yc] (w.drewN n) fun e w' => e = .returned (.bool true) ∧ ∃ q, w' = (w.drewN n).drewN q) := fun n => samePts_true _ _ _ _ _ (P1.chg ((Chg.refl _ _).drewN n)) (P2.chg ((Chg.refl _ _).drewN n)) hl hal
   obtain ⟨W, hW⟩ : ∃ W, W = w.drewN q := ⟨_, rfl⟩
   have SM2 : Hid (∀ n, Calls Tryz.prog 118 #[.slice xo ps.length xc, .slice yo ps.length yc] (W.drewN n) fun e w' => e = .returned (.bool true) ∧ ∃ q, w' = (W.drewN n).drewN q) := fun n => by rw [hW, World.drewN_drewN]; exact SM.out _
   have b0 : W.cell? ⟨g, k * 2, none⟩ = some (.int .u64 ((sq : Int) + k)) := by rw [hW]; exact c0
   have b1 : W.cell? ⟨g, k * 2 + 1, none⟩ = some (.slice xo ps.length xc) := by rw [hW]; exact c1
   have b2 : W.cell? ⟨g2, k, none⟩ = some (.slice yo ps.length yc) := by rw [hW]; exact c2
   have HD : Hid (∀ n, ∃ q, (W.drewN n) = w.drewN q) := fun n => ⟨_, by rw [hW, World.drewN_drewN]⟩
   by_cases hz : k = 0
   ·subst hz
    rw [← hW]
    replace hW := Lib.hid hW
    have b1' : W.cell? ⟨g, 1, none⟩ = some (.slice xo ps.length xc) := b1
    clear SM c0 c1 c2 P1 P2 hl hal H b0 b1
    go_wp2_with fail
    go_quiet (first | (go_at_call 118; exact Calls.quiet_of (SM2.out _)))
    go_wp2_with fail
    exact ⟨⟨1, hlt, by first | rfl | go_num, HD.out _⟩, MEAS.out⟩
   ·obtain ⟨j, rfl⟩ : ∃ j, k = j + 1 := ⟨k - 1, by omega⟩
    obtain ⟨g', _, _, g2', _, _, _, _, e1, e2, d0, _⟩ := (H.out j (by omega)).both
    obtain rfl : g = g' := by simpa using e1
    obtain rfl : g2 = g2' := by simpa using e2
    have hg : (0 : Int) < ((j + 1 : Nat) : Int) := by omega
    have d1 : W.cell? ⟨g, j * 2, none⟩ = some (.int .u64 ((sq : Int) + j)) := by rw [hW]; exact d0
    have ej : ((j + 1 : Nat) : Int) - 1 = (j : Int) := by omega
    obtain ⟨wc, wd⟩ := sc_wrap (z := ((j + 1 : Nat) : Int) - 1) (by omega) (by have := hN.out; omega)
    have es : (sq : Int) + (j : Int) + 1 = (sq : Int) + ((j + 1 : Nat) : Int) := by omega
    have eu : IntKind.u64.wrap ((sq : Int) + (j : Int) + 1) = (sq : Int) + ((j + 1 : Nat) : Int) := by rw [IntKind.wrap_u64]; have := hsq.out; have := hN.out; omega
    rw [← hW]
    replace hW := Lib.hid hW
    clear SM c0 c1 c2 d0 P1 P2 hl hal H hz
    obtain ⟨K, hK⟩ : ∃ K : Int, K = ((j + 1 : Nat) : Int) := ⟨_, rfl⟩
    have b0' : W.cell? ⟨g, K.toNat * 2, none⟩ = some (.int .u64 ((sq : Int) + K)) := by rw [hK]; exact b0
    have b1' : W.cell? ⟨g, K.toNat * 2 + 1, none⟩ = some (.slice xo ps.length xc) := by rw [hK]; exact b1
    have b2' : W.cell? ⟨g2, K.toNat, none⟩ = some (.slice yo ps.length yc) := by rw [hK]; exact b2
    have d1' : W.cell? ⟨g, (K - 1).toNat * 2, none⟩ = some (.int .u64 ((sq : Int) + (j : Int))) := by rw [hK, ej]; exact d1
    rw [← hK] at hk0 hk1 hk9 MEAS wa wb hg ej wc wd es eu ⊢
    obtain ⟨I, hI⟩ : ∃ I : Int, I = K - 1 := ⟨_, rfl⟩
    have k1' : (0 : Int) ≤ I := by omega
    have k2' : I < (N : Int) := by omega
    have k9' : I < (M : Int) := by omega
    rw [← hI] at d1'
    have wc' : IntKind.i64.wrap (K - 1) = I := by rw [wc, hI]
    have wd' : wrap64 (K - 1) = I := by rw [wd, hI]
    replace hI := Lib.hid hI
    replace hK := Lib.hid hK
    clear b0 b1 b2 d1 ej es wc wd
    go_wp2_with fail
    go_quiet (first | (go_at_call 118; exact Calls.quiet_of (SM2.out _)))
    go_wp2_with fail
    exact ⟨⟨j + 1 + 1, hlt, by first | rfl | (rw [hK.out]; rfl) | go_num, HD.out _⟩, MEAS.out⟩
  ·have hk1 : ¬ (k : Int) < N := by omega
   clear H
   go_wp2_with fail
   go_ret
   exact ⟨rfl, q, rfl⟩

theorem info_wpts : (Tryz.prog.info? 58).map (fun i => (i.zero, i.size, i.bytes)) = some (some (.slice none 0 0), 1, 24) := by kernel_rfl

theorem one_new1 (w : World) (x : Value) (t : TypeId) : ∀ j u, [x][j]? = some u → (w.alloc (.cells #[x] t)).cell? ((⟨w.heap.size, 0, none⟩ : Addr).add j) = some u := by
 intro j u hj
 have := (Blk.made w [x] t).cell hj
 rw [Addr.add_lit]
 simpa using this

/-- The struct in which it is kept what was done. -/
def lifeT (x : Nat) (sv : Value) (sr : Int) (lv : Value) : Thing := blkT x 81 [sv, .int .i64 sr, lv]

def lifeL (k : Int) (lv pv : Value) : Value := if k = 1 then pv else if k = 2 ∨ k = 4 ∨ k = 5 then .slice none 0 0 else lv
def lifeV (k : Int) (lv : Value) (vals : List Value) : List Value := if k = 2 then vals ++ [lv] else if k = 4 ∨ k = 5 then [] else vals

def lifeS (k : Int) (sr : Int) (vals : List Value) : Int := if k = 1 ∨ k = 3 then (vals.length : Int) else if k = 4 ∨ k = 5 then 0 else sr

/-- What 'does' leaves. -/
def Lived (w0 : World) (x : Nat) (sr : Int) (lv : Value) (vals : List Value) (ts : List Thing) (e : Ending) (w' : World) : Prop :=
 e = .returned (.tuple #[]) ∧ ∃ sv, Hid (Side w0 w' (lifeT x sv sr lv :: ownT 58 sv vals :: ts))

theorem life_end {w0 w1 wn : World} {ts : List Thing} {x : Nat} {sv lv svn : Value} {sr : Int} {vals : List Value} {G : Thing} (h : Side w0 w1 (G :: lifeT x sv sr lv :: ownT 58 sv vals :: ts))
 (c : Chg sv.ownBlock.toList w1 wn) (ol : wn.ownsRow 0 58 1 svn (vals.length + 1) (vals ++ [lv])) (nb : ∀ k, svn.ownBlock = some k → sv.ownBlock = some k ∨ w1.heap.size ≤ k) :
 Side w0 ((wn.setCell ⟨x, 0, none⟩ svn).setCell ⟨x, 2, none⟩ (.slice none 0 0)) (lifeT x svn sr (.slice none 0 0) :: ownT 58 svn (vals ++ [lv]) :: ts) := by
 have h1 : Side w0 w1 (ownT 58 sv vals :: lifeT x sv sr lv :: ts) := h.tail.front 1
 have h2 : Side w0 wn (ownT 58 svn (vals ++ [lv]) :: lifeT x sv sr lv :: ts) := by
  refine h1.turn c (fun k hk => .inl hk) (show wn.ownsRow 0 58 1 svn (vals ++ [lv]).length (vals ++ [lv]) by rw [List.length_append, List.length_singleton]; exact ol) (fun k hk => ?_)
  have hk' : svn.ownBlock = some k := by simpa [ownT] using hk
  rcases nb k hk' with q | q
  ·exact .inl (by show k ∈ sv.ownBlock.toList; simp [q])
  ·exact .inr q
 have h3 := h2.blkSet 1 rfl 0 svn
 have h4 := h3.blkSet 1 rfl 2 (.slice none 0 0)
 exact h4.front 1

set_option maxHeartbeats 4000000 in
set_option maxRecDepth 1000000 in
theorem does_any {w0 w : World} {x : Nat} {so : Option Addr} {sc : Nat} {sr : Int} {lv : Value} {vals : List Value} {ts : List Thing} (H : Side w0 w (lifeT x (.slice so vals.length sc) sr lv :: ownT 58 (.slice so vals.length sc) vals :: ts)) (hv : vals.length ≤ 100000) (k num : Int) (po : Option Addr) (pn pc : Nat) (ko : Option Addr) (kn kc : Nat) (hl : ∃ o n c, lv = .slice o n c) :
 Calls Tryz.prog 39 #[.pointer (some ⟨x, 0, none⟩), .agg #[.int .i64 k, .int .i64 num, .slice po pn pc, .slice ko kn kc]] w (Lived w0 x (lifeS k sr vals) (lifeL k lv (.slice po pn pc)) (lifeV k lv vals) ts) := by
 obtain ⟨l1, l2, l3, rfl⟩ := hl
 obtain ⟨wB, hwB⟩ : ∃ wB, wB = w.alloc (.cells #[.int .i64 k, .int .i64 num, .slice po pn pc, .slice ko kn kc] 61) := ⟨_, rfl⟩
 have HB : Side w0 wB (blkT w.heap.size 61 [.int .i64 k, .int .i64 num, .slice po pn pc, .slice ko kn kc] :: lifeT x (.slice so vals.length sc) sr (.slice l1 l2 l3) :: ownT 58 (.slice so vals.length sc) vals :: ts) := by rw [hwB]; exact H.newBlk _ [_, _, _, _]
 have k0 := (HB.get 0 rfl : Blk _ _ _ _).cell (j := 0) rfl
 have k2 := (HB.get 0 rfl : Blk _ _ _ _).cell (j := 2) rfl
 have BL := Lib.hid (show Blk wB x 81 [.slice so vals.length sc, .int .i64 sr, .slice l1 l2 l3] from HB.get 1 rfl)
 have x0 := BL.out.cell (j := 0) rfl
 have x1 := BL.out.cell (j := 1) rfl
 have x2 := BL.out.cell (j := 2) rfl
 have f0 := BL.out.free 0
 have f1 := BL.out.free 1
 have f2 := BL.out.free 2
 have HH := Lib.hid HB
 have END : Hid (∀ {w' : World} {sv : Value} {sr : Int} {lv : Value} {vals : List Value}, Side w0 w' (blkT w.heap.size 61 [.int .i64 k, .int .i64 num, .slice po pn pc, .slice ko kn kc] :: lifeT x sv sr lv :: ownT 58 sv vals :: ts) → Lived w0 x sr lv vals ts (.returned (.tuple #[])) w') := fun h => ⟨rfl, _, h.tail⟩
 obtain ⟨i0, hi, hz0, hz1, hz2⟩ := info_parts info_wpts
 replace hi := Lib.hid hi
 replace hz0 := Lib.hid hz0
 replace hz1 := Lib.hid hz1
 replace hz2 := Lib.hid hz2
 have OR : Hid (wB.ownsRow 0 58 1 (.slice so vals.length sc) vals.length vals) := HB.get 2 rfl
 have B1 : Hid (vals.length + 1 ≤ maxLen) := by show _ ≤ _; unfold maxLen; omega
 have B2 : Hid ((vals.length + 1) * 24 ≤ 140737488355328) := by show _ ≤ _; omega
 have OFFP : Hid ((Value.slice so vals.length sc).ownBlock ≠ some x) := fun e => (List.pairwise_cons.1 H.apart).1 (ownT 58 (.slice so vals.length sc) vals) List.mem_cons_self x (by simp [lifeT, blkT]) (by show x ∈ (Value.slice so vals.length sc).ownBlock.toList; simp [e])
 clear H HB hv
 subst hwB
 go_enter Tryz.func39, Tryz.ntmps39
 unfold lifeS lifeL lifeV
 by_cases q1 : k = 1
 ·subst q1
  rw [if_pos (.inl rfl), if_pos rfl, if_neg (by decide), if_neg (by decide)]
  have S1 := (HH.out.blkSet 1 rfl 1 (.int .i64 (vals.length : Int))).blkSet 1 rfl 2 (.slice po pn pc)
  replace S1 := Lib.hid S1
  clear OR OFFP HH
  go_wp2_with fail
  go_end0
  exact END.out (show Side _ _ (_ :: lifeT x (.slice so vals.length sc) (vals.length : Int) (.slice po pn pc) :: _) from S1.out)
 rw [if_neg q1]
 have b1 : (k == 1) = false := by simpa using q1
 by_cases q2 : k = 2
 ·subst q2
  rw [if_neg (by decide), if_neg (by decide), if_pos (.inl rfl), if_pos rfl]
  go_upto_region 6 with fail
  have pA : (((w.alloc (.cells #[.int .i64 2, .int .i64 num, .slice po pn pc, .slice ko kn kc] 61)).alloc (.cells #[.slice l1 l2 l3] 58))).cell? ⟨x, 0, none⟩ = some (.slice so vals.length sc) := (BL.out.alloc _).cell (j := 0) rfl
  obtain ⟨wB, hwB⟩ : ∃ wB, wB = w.alloc (.cells #[.int .i64 2, .int .i64 num, .slice po pn pc, .slice ko kn kc] 61) := ⟨_, rfl⟩
  rw [← hwB] at k0 k2 BL x0 x1 x2 f0 f1 f2 HH OR pA ⊢
  replace hwB := Lib.hid hwB
  go_region_law (first | (refine step_append_three _ (by rfl) _ _ _ (by rfl) 0 58 i0 (.slice none 0 0) 1 24 Tryz.underlying53 hi.out hz0.out hz1.out hz2.out rfl (by decide) _ vals.length _ (by rfl) (OR.out.alloc _) ⟨wB.heap.size, 0, none⟩ 1 1 [.slice l1 l2 l3] (by rfl) (by rfl) (one_new1 _ _ _) (by simp [Value.oneCell']) B1.out B2.out (Nat.zero_le _) ?_; intro vo vc wn ol2 gr2 nb2; have CG : Hid (Chg (Value.slice so vals.length sc).ownBlock.toList wB wn) := (by first | exact ((((Chg.refl [] wB).drewN _).alloc _).mono (by simp)).grown gr2.out (fun k hk => .inl (by rw [hk]; simp)) | exact (((Chg.refl [] wB).drew.alloc _).mono (by simp)).grown gr2.out (fun k hk => .inl (by rw [hk]; simp)) | exact (((Chg.refl [] wB).alloc _).mono (by simp)).grown gr2.out (fun k hk => .inl (by rw [hk]; simp))); have PN : Hid (Blk wn x 81 _) := BL.out.chg CG.out (fun hm => OFFP.out (by simpa using hm)); have z0 := PN.out.cell (j := 0) rfl; have zf := PN.out.free 0; have z2 := PN.out.cell (j := 2) rfl; have zg := PN.out.free 2))
  all_goals have NB := Lib.hid (nb_of nb2.out (H0 := wB.heap.size) (by simp))
  all_goals have SF := Lib.hid (life_end HH.out CG.out ol2.out NB.out)
  all_goals clear CG ol2 gr2 nb2 NB
  all_goals go_wp2_with fail
  all_goals go_end0
  all_goals exact ⟨rfl, _, SF⟩
 have b2 : (k == 2) = false := by simpa using q2
 rw [if_neg q2]
 by_cases q3 : k = 3
 ·subst q3
  rw [if_pos (.inr rfl), if_neg (by decide), if_neg (by decide)]
  have S1 := HH.out.blkSet 1 rfl 1 (.int .i64 (vals.length : Int))
  replace S1 := Lib.hid S1
  clear OR OFFP HH
  go_wp2_with fail
  go_end0
  exact END.out (show Side _ _ (_ :: lifeT x (.slice so vals.length sc) (vals.length : Int) (.slice l1 l2 l3) :: _) from S1.out)
 have b3 : (k == 3) = false := by simpa using q3
 have S4 : Hid (∀ w', w' = ((((w.alloc (.cells #[.int .i64 k, .int .i64 num, .slice po pn pc, .slice ko kn kc] 61)).setCell ⟨x, 0, none⟩ (.slice none 0 0)).setCell ⟨x, 1, none⟩ (.int .i64 0)).setCell ⟨x, 2, none⟩ (.slice none 0 0)) → Lived w0 x 0 (.slice none 0 0) [] ts (.returned (.tuple #[])) w') := fun w' e => by
  subst e
  have S1 := ((HH.out.blkSet 1 rfl 0 (.slice none 0 0)).blkSet 1 rfl 1 (.int .i64 0)).blkSet 1 rfl 2 (.slice none 0 0)
  have S1 : Side w0 _ (_ :: lifeT x (.slice none 0 0) 0 (.slice none 0 0) :: ownT 58 (.slice so vals.length sc) vals :: ts) := S1
  have S2 : Side w0 _ (_ :: lifeT x (.slice none 0 0) 0 (.slice none 0 0) :: ts) := S1.sub (.cons_cons _ (.cons_cons _ (.cons _ (List.Sublist.refl _))))
  have S3 := S2.add (b := ownT 58 (.slice none 0 0) []) (Chg.refl _ _) (World.ownsRow_nil _ _ _ _) (fun k hk => by cases hk)
  exact END.out (S3.perm (by
   show ([_] ++ ([_, _] ++ ts)).Perm ([_, _] ++ ([_] ++ ts))
   rw [← List.append_assoc, ← List.append_assoc]
   exact List.Perm.append_right _ List.perm_append_comm))
 by_cases q4 : k = 4
 ·subst q4
  rw [if_neg (by decide), if_pos (.inl rfl), if_pos (.inr (.inl rfl)), if_pos (.inl rfl)]
  clear OR OFFP HH
  go_wp2_with fail
  go_end0
  exact S4.out _ rfl
 have b4 : (k == 4) = false := by simpa using q4
 by_cases q5 : k = 5
 ·subst q5
  rw [if_neg (by decide), if_pos (.inr rfl), if_pos (.inr (.inr rfl)), if_pos (.inr rfl)]
  clear OR OFFP HH
  go_wp2_with fail
  go_end0
  exact S4.out _ rfl
 have b5 : (k == 5) = false := by simpa using q5
 rw [if_neg (by omega), if_neg (by omega), if_neg (by omega), if_neg (by omega)]
 clear OR OFFP S4
 go_wp2_with fail
 go_end0
 exact END.out HH.out

end Go.Proofs.YtkafkdlgflkjgaaGreat

/-
  'may': what may have been found. By an AI agent.
-/
namespace Go.Proofs.YtkafkdlgflkjgaaGreat
open Go.RowKit Go.Maps Crc

set_option maxHeartbeats 1000000 in
set_option maxRecDepth 100000 in
/-- Where the call in which the power went adds nothing that may be found. -/
theorem mayk_any (w : World) (x : Nat) (so lo : Option Addr) (sc lc M N : Nat) (sr : Int) (lv : Value) (k : Int) (B : Blk w x 81 [.slice so M sc, .int .i64 sr, lv]) (hk : k ≠ 2)
 (ARE : N = 0 ∧ (k = 4 ∨ k = 5) ∨ ∀ m, Calls Tryz.prog 45 #[.slice lo N lc, .slice so M sc, .int .i64 sr] (w.drewN m) fun e w' => e = .returned (.bool true) ∧ ∃ q, w' = (w.drewN m).drewN q) :
 Calls Tryz.prog 41 #[.pointer (some ⟨x, 0, none⟩), .slice lo N lc, .int .i64 k] w fun e w' => e = .returned (.bool true) ∧ ∃ q, w' = w.drewN q := by
 have c0 := B.cell (j := 0) rfl
 have c1 := B.cell (j := 1) rfl
 have hk2 : ¬ k = 2 := hk
 have hk3 : (k == 2) = false := by simpa using hk
 have N0 : (0 : Int) ≤ N := Int.natCast_nonneg _
 clear B
 rcases ARE with ⟨rfl, h45⟩ | ARE
 ·rcases h45 with rfl | rfl
  all_goals
   go_enter Tryz.func41, Tryz.ntmps41
   go_wp2_with fail
   go_ret
   first | exact ⟨rfl, 0, rfl⟩ | exact ⟨rfl, _, rfl⟩
 ·have AR := Lib.hid ARE
  clear ARE
  go_enter Tryz.func41, Tryz.ntmps41
  by_cases h4 : k = 4
  ·subst h4
   by_cases hN : N = 0
   ·subst hN
    go_wp2_with fail
    go_ret
    first | exact ⟨rfl, 0, rfl⟩ | exact ⟨rfl, _, rfl⟩
   ·go_wp2_with (go_at_call 45; refine (AR.out 0).mono ?_; rintro e w' ⟨rfl, q, rfl⟩)
    go_ret
    first | exact ⟨rfl, 0, rfl⟩ | exact ⟨rfl, _, rfl⟩
  by_cases h5 : k = 5
  ·subst h5
   by_cases hN : N = 0
   ·subst hN
    go_wp2_with fail
    go_ret
    first | exact ⟨rfl, 0, rfl⟩ | exact ⟨rfl, _, rfl⟩
   ·go_wp2_with (go_at_call 45; refine (AR.out 0).mono ?_; rintro e w' ⟨rfl, q, rfl⟩)
    go_ret
    first | exact ⟨rfl, 0, rfl⟩ | exact ⟨rfl, _, rfl⟩
  ·have h4b : (k == 4) = false := by simpa using h4
   have h5b : (k == 5) = false := by simpa using h5
   go_wp2_with (go_at_call 45; refine (AR.out 0).mono ?_; rintro e w' ⟨rfl, q, rfl⟩)
   go_ret
   first | exact ⟨rfl, 0, rfl⟩ | exact ⟨rfl, _, rfl⟩

set_option maxHeartbeats 4000000 in
set_option maxRecDepth 1000000 in
/-- In a Seal: the batch that is logged is set behind the sealed ones. -/
theorem may2_any (w : World) (x g : Nat) (lo la : Option Addr) (sc lc N l2 l3 : Nat) (sr : Int) (vals : List Value) (B : Blk w x 81 [.slice (some ⟨g, 0, none⟩) vals.length sc, .int .i64 sr, .slice la l2 l3]) (hla : la ≠ none)
 (OR : w.ownsRow 0 58 1 (.slice (some ⟨g, 0, none⟩) vals.length sc) vals.length vals) (hv : vals.length ≤ 100000) (h1 : ∀ u ∈ vals, u.oneCell' = true)
 (ARE : ∀ w' ao ac, Chg [] w w' → w'.ownsRow 0 58 1 (.slice ao (vals.length + 1) ac) (vals.length + 1) (vals ++ [.slice la l2 l3]) → Calls Tryz.prog 45 #[.slice lo N lc, .slice ao (vals.length + 1 : Nat) ac, .int .i64 sr] w' fun e w'' => e = .returned (.bool true) ∧ ∃ q, w'' = w'.drewN q) :
 Calls Tryz.prog 41 #[.pointer (some ⟨x, 0, none⟩), .slice lo N lc, .int .i64 2] w fun e w' => e = .returned (.bool true) ∧ Chg [] w w' := by
 obtain ⟨la, rfl⟩ : ∃ a, la = some a := by
  cases la with
  | none => exact absurd rfl hla
  | some a => exact ⟨a, rfl⟩
 have c0 := B.cell (j := 0) rfl
 have c2 := B.cell (j := 2) rfl
 have CELLS : Hid (∀ j u, vals[j]? = some u → w.cell? ((⟨g, 0, none⟩ : Addr).add j) = some u) := fun j u h => OR.cells (g := g) rfl j _ h
 obtain ⟨i0, hi, hz0, hz1, hz2⟩ := info_parts info_wpts
 replace hi := Lib.hid hi
 replace hz0 := Lib.hid hz0
 replace hz1 := Lib.hid hz1
 replace hz2 := Lib.hid hz2
 have H1 := Lib.hid h1
 have B1 : Hid (0 + vals.length ≤ maxLen) := by show _ ≤ _; unfold maxLen; omega
 have B2 : Hid ((0 + vals.length) * 24 ≤ 140737488355328) := by show _ ≤ _; omega
 have B3 : Hid (vals.length + 1 ≤ maxLen) := by show _ ≤ _; unfold maxLen; omega
 have B4 : Hid ((vals.length + 1) * 24 ≤ 140737488355328) := by show _ ≤ _; omega
 have BH := Lib.hid B
 have AH := Lib.hid ARE
 clear ARE B OR hv h1 hla
 go_enter Tryz.func41, Tryz.ntmps41
 go_wp2_with (first
  | (with_reducible refine wpList_append_three _ rfl (.tmp 23) (.tmp 24) 53 rfl 0 58 i0 (.slice none 0 0) 1 24 Tryz.underlying53 hi.out hz0.out hz1.out hz2.out rfl (by decide) _ 0 _ rfl (World.ownsRow_nil _ _ _ _) ⟨g, 0, none⟩ vals.length sc vals rfl (Nat.mul_one _).symm CELLS.out H1.out B1.out B2.out (Nat.zero_le _) ?_
     intro v1 w1 ol gr nb
     obtain ⟨ao, ac, rfl⟩ := owns_slice ol.out
     have C1 : Hid (Chg [] w w1) := (Chg.refl [] w).grown gr.out (fun k hk => by cases hk)
     have BX : Hid (Blk w1 x 81 _) := BH.out.chg C1.out (fun hm => by cases hm)
     have OL : Hid (w1.ownsRow 0 58 1 (.slice ao vals.length ac) vals.length vals) := by have h := ol.out; rw [Nat.zero_add] at h; exact h
     have NB : Hid (∀ k, (Value.slice ao (0 + vals.length) ac).ownBlock = some k → w.heap.size ≤ k) := fun k hk => by
      rcases nb.out with q | ⟨q, _⟩
      ·rw [q] at hk; cases hk
      ·rw [q] at hk; cases hk; exact Nat.le_refl _
     rw [Nat.zero_add] at NB ⊢
     clear ol gr nb c0 c2
     have c1 := BX.out.cell (j := 1) rfl
     have c2 := BX.out.cell (j := 2) rfl)
  | (with_reducible refine wpList_append_three _ rfl (.tmp 26) (.tmp 31) 53 rfl 0 58 i0 (.slice none 0 0) 1 24 Tryz.underlying53 hi.out hz0.out hz1.out hz2.out rfl (by decide) _ vals.length _ rfl (OL.out.alloc _) ⟨w1.heap.size, 0, none⟩ 1 1 [.slice (some la) l2 l3] rfl rfl (one_new1 _ _ _) (by simp [Value.oneCell']) B3.out B4.out (Nat.zero_le _) ?_
     intro v2 w2 ol2 gr2 nb2
     obtain ⟨ao2, ac2, rfl⟩ := owns_slice ol2.out
     have C2 : Hid (Chg [] w w2) := (C1.out.alloc _).grown gr2.out (fun k hk => .inr (NB.out k hk))
     have BX2 : Hid (Blk w2 x 81 _) := BH.out.chg C2.out (fun hm => by cases hm)
     have AR := Lib.hid (AH.out w2 ao2 ac2 C2.out ol2.out)
     clear ol2 gr2 nb2 c1 c2
     have c1 := BX2.out.cell (j := 1) rfl)
  | (go_at_call 45; refine AR.out.mono ?_; rintro e w3 ⟨rfl, q, rfl⟩))
 go_ret
 exact ⟨rfl, C2.out.drewN q⟩

set_option maxHeartbeats 4000000 in
set_option maxRecDepth 1000000 in
/-- The same, where nothing is sealed yet. -/
theorem may2n_any (w : World) (x : Nat) (lo la : Option Addr) (sc lc N l2 l3 : Nat) (sr : Int) (B : Blk w x 81 [.slice none 0 sc, .int .i64 sr, .slice la l2 l3]) (hla : la ≠ none)
 (ARE : ∀ w' ao ac, Chg [] w w' → w'.ownsRow 0 58 1 (.slice ao 1 ac) 1 [.slice la l2 l3] → Calls Tryz.prog 45 #[.slice lo N lc, .slice ao (1 : Nat) ac, .int .i64 sr] w' fun e w'' => e = .returned (.bool true) ∧ ∃ q, w'' = w'.drewN q) :
 Calls Tryz.prog 41 #[.pointer (some ⟨x, 0, none⟩), .slice lo N lc, .int .i64 2] w fun e w' => e = .returned (.bool true) ∧ Chg [] w w' := by
 obtain ⟨la, rfl⟩ : ∃ a, la = some a := by
  cases la with
  | none => exact absurd rfl hla
  | some a => exact ⟨a, rfl⟩
 have c0 := B.cell (j := 0) rfl
 have c1 := B.cell (j := 1) rfl
 have c2 := B.cell (j := 2) rfl
 obtain ⟨i0, hi, hz0, hz1, hz2⟩ := info_parts info_wpts
 replace hi := Lib.hid hi
 replace hz0 := Lib.hid hz0
 replace hz1 := Lib.hid hz1
 replace hz2 := Lib.hid hz2
 have BH := Lib.hid B
 have AH := Lib.hid ARE
 clear ARE B hla
 go_enter Tryz.func41, Tryz.ntmps41
 go_wp2_with (first
  | (with_reducible refine wpList_append_nothing _ rfl (.tmp 23) (.tmp 24) 53 rfl 0 58 i0 1 Tryz.underlying53 hi.out _ 0 _ rfl (World.ownsRow_nil _ _ _ _) sc rfl ?_)
  | (with_reducible refine wpList_append_three _ rfl (.tmp 26) (.tmp 31) 53 rfl 0 58 i0 (.slice none 0 0) 1 24 Tryz.underlying53 hi.out hz0.out hz1.out hz2.out rfl (by decide) _ 0 _ rfl (World.ownsRow_nil _ _ _ _) ⟨w.heap.size, 0, none⟩ 1 1 [.slice (some la) l2 l3] rfl rfl (one_new1 _ _ _) (by simp [Value.oneCell']) (by unfold maxLen; omega) (by omega) (Nat.zero_le _) ?_
     intro v2 w2 ol2 gr2 nb2
     obtain ⟨ao2, ac2, rfl⟩ := owns_slice ol2.out
     have C2 : Hid (Chg [] w w2) := ((Chg.refl [] w).alloc _).grown gr2.out (fun k hk => by cases hk)
     have BX2 : Hid (Blk w2 x 81 _) := BH.out.chg C2.out (fun hm => by cases hm)
     have AR := Lib.hid (AH.out w2 ao2 ac2 C2.out ol2.out)
     clear ol2 gr2 nb2 c1 c2
     have c1 := BX2.out.cell (j := 1) rfl)
  | (go_at_call 45; refine AR.out.mono ?_; rintro e w3 ⟨rfl, q, rfl⟩))
 go_ret
 exact ⟨rfl, C2.out.drewN q⟩

set_option maxHeartbeats 1000000 in
set_option maxRecDepth 100000 in
/-- In a Seal where nothing is logged. -/
theorem may20_any (w : World) (x : Nat) (so lo : Option Addr) (sc lc M N : Nat) (sr : Int) (l2 l3 : Nat) (B : Blk w x 81 [.slice so M sc, .int .i64 sr, .slice none l2 l3])
 (ARE : ∀ m, Calls Tryz.prog 45 #[.slice lo N lc, .slice so M sc, .int .i64 sr] (w.drewN m) fun e w' => e = .returned (.bool true) ∧ ∃ q, w' = (w.drewN m).drewN q) :
 Calls Tryz.prog 41 #[.pointer (some ⟨x, 0, none⟩), .slice lo N lc, .int .i64 2] w fun e w' => e = .returned (.bool true) ∧ ∃ q, w' = w.drewN q := by
 have c0 := B.cell (j := 0) rfl
 have c1 := B.cell (j := 1) rfl
 have c2 := B.cell (j := 2) rfl
 have AR := Lib.hid (ARE 0)
 clear ARE B
 go_enter Tryz.func41, Tryz.ntmps41
 go_wp2_with (go_at_call 45; refine AR.out.mono ?_; rintro e w' ⟨rfl, q, rfl⟩)
 go_ret
 exact ⟨rfl, _, rfl⟩

end Go.Proofs.YtkafkdlgflkjgaaGreat
