/-
  The journal: how it begins, and Format. By an AI agent.
-/
import Derived.Test.YtkafkdlgflkjgaaGreatBWlSeal
import Derived.Test.YtkafkdlgflkjgaaGreatBScChk
namespace Go.Proofs.YtkafkdlgflkjgaaGreat
open Go.RowKit Go.Maps Crc

/-- A new journal, as 'begin' makes it. -/
def Begun (w0 : World) (b D : Nat) (y : Bay) (F : List Nat) (J : Wl.Jn) (ts : List Thing) (e : Ending) (w' : World) : Prop := ∃ W R, e = .returned (.pointer (some ⟨W, 0, none⟩)) ∧ Hid (Side w0 w' (jts b W D R J (.slice none 0 0) y F ts))

set_option maxHeartbeats 4000000 in
set_option maxRecDepth 100000 in
theorem begin_j {w0 w : World} {b D : Nat} {y : Bay} {F : List Nat} {s : Int} {n : Nat} {c : Ck} {tv : Value} {hd : Int} {u next : Nat} {ts : List Thing} (H : Side w0 w (BayT b y F :: devT D b s 0 :: ts)) (ht : ∃ t : Nat, c.tl = t) (hr : Rg n c.tl.toNat u) (htv : ∃ fo tn tc, tv = .slice fo tn tc) :
 Calls Tryz.prog 54 #[.pointer (some ⟨D, 0, none⟩), .int .i64 (n : Int), c.val, .agg #[tv, .int .u64 (next : Int), .int .i64 hd, .int .i64 (u : Int)]] w (Begun w0 b D y F (Wl.begun s n c u next) ts) := by
 obtain ⟨ep, sq, tl⟩ := c
 obtain ⟨t, rfl⟩ := ht
 obtain ⟨fo, tn, tc, rfl⟩ := htv
 rw [Int.toNat_natCast] at hr
 obtain ⟨wB, hwB⟩ : ∃ wB, wB = (w.alloc (.cells #[.int .u64 (ep : Int), .int .u64 (sq : Int), .int .i64 (t : Int)] 110)).alloc (.cells #[.slice fo tn tc, .int .u64 (next : Int), .int .i64 hd, .int .i64 (u : Int)] 120) := ⟨_, rfl⟩
 have z1 : (w.alloc (.cells #[.int .u64 (ep : Int), .int .u64 (sq : Int), .int .i64 (t : Int)] 110)).heap.size = w.heap.size + 1 := by simp
 have HB : Side w0 wB (blkT (w.heap.size + 1) 120 [.slice fo tn tc, .int .u64 (next : Int), .int .i64 hd, .int .i64 (u : Int)] :: blkT w.heap.size 110 [.int .u64 (ep : Int), .int .u64 (sq : Int), .int .i64 (t : Int)] :: BayT b y F :: devT D b s 0 :: ts) := by
  have := (H.newBlk 110 [.int .u64 (ep : Int), .int .u64 (sq : Int), .int .i64 (t : Int)]).newBlk 120 [.slice fo tn tc, .int .u64 (next : Int), .int .i64 hd, .int .i64 (u : Int)]
  rw [z1] at this
  rw [hwB]
  exact this
 have BC : Blk wB w.heap.size 110 [.int .u64 (ep : Int), .int .u64 (sq : Int), .int .i64 (t : Int)] := HB.get 1 rfl
 have BF : Blk wB (w.heap.size + 1) 120 [.slice fo tn tc, .int .u64 (next : Int), .int .i64 hd, .int .i64 (u : Int)] := HB.get 0 rfl
 have a0 : wB.cell? ⟨w.heap.size, 0, none⟩ = some (.int .u64 (ep : Int)) := BC.cell (j := 0) rfl
 have a2 : wB.cell? ⟨w.heap.size, 2, none⟩ = some (.int .i64 (t : Int)) := BC.cell (j := 2) rfl
 have b1 : wB.cell? ⟨w.heap.size + 1, 1, none⟩ = some (.int .u64 (next : Int)) := BF.cell (j := 1) rfl
 have b3 : wB.cell? ⟨w.heap.size + 1, 3, none⟩ = some (.int .i64 (u : Int)) := BF.cell (j := 3) rfl
 have NW := Lib.hid (rgnew_ok hr wB)
 have E : Hid (∀ w1 R, Side w0 w1 (ringT R n t u :: blkT (w.heap.size + 1) 120 [.slice fo tn tc, .int .u64 (next : Int), .int .i64 hd, .int .i64 (u : Int)] :: blkT w.heap.size 110 [.int .u64 (ep : Int), .int .u64 (sq : Int), .int .i64 (t : Int)] :: BayT b y F :: devT D b s 0 :: ts) →
  (w1.cell? ⟨w.heap.size, 0, none⟩ = some (.int .u64 (ep : Int)) ∧ w1.cell? ⟨w.heap.size + 1, 1, none⟩ = some (.int .u64 (next : Int))) ∧
  ∃ W R', (w1.heap.size = W ∧ R = R') ∧ Hid (Side w0 (w1.alloc (.cells #[.pointer (some ⟨D, 0, none⟩), .int .u64 (ep : Int), .pointer (some ⟨R, 0, none⟩), .int .u64 (next : Int), .bool true, .slice none 0 0, .int .i64 0] 181)) (jts b W D R' (Wl.begun s n ⟨ep, sq, (t : Int)⟩ u next) (.slice none 0 0) y F ts))) := fun w1 R h => by
  refine ⟨⟨(h.get 2 rfl : Blk _ _ _ _).cell (j := 0) rfl, (h.get 1 rfl : Blk _ _ _ _).cell (j := 1) rfl⟩, w1.heap.size, R, ⟨rfl, rfl⟩, ?_⟩
  have h2 : Side w0 w1 (ringT R n t u :: BayT b y F :: devT D b s 0 :: ts) := h.sub (.cons_cons _ (.cons _ (.cons _ (List.Sublist.refl _))))
  have h3 := h2.newBlk 181 [.pointer (some ⟨D, 0, none⟩), .int .u64 (ep : Int), .pointer (some ⟨R, 0, none⟩), .int .u64 (next : Int), .bool true, .slice none 0 0, .int .i64 0]
  have h4 : Side w0 _ (comT (.slice none 0 0) none :: _) := h3.add (Chg.refl _ _) (show Pool _ [] from ⟨fun p hp => (by cases hp), List.Pairwise.nil⟩) (fun k hk => by cases hk)
  show Side w0 _ (BayT b y F :: devT D b s 0 :: walT w1.heap.size D R (Wl.begun s n ⟨ep, sq, (t : Int)⟩ u next) (.slice none 0 0) :: ringT R n t u :: comT (.slice none 0 0) none :: ts)
  refine h4.perm ?_
  show ([comT (.slice none 0 0) none, _, ringT R n t u] ++ ([BayT b y F, devT D b s 0] ++ ts)).Perm ([BayT b y F, devT D b s 0] ++ ([_, ringT R n t u, comT (.slice none 0 0) none] ++ ts))
  rw [← List.append_assoc, ← List.append_assoc]
  refine List.Perm.append_right _ (List.perm_append_comm.trans (List.Perm.append_left _ ?_))
  refine (List.Perm.swap _ _ _).trans (List.Perm.cons _ (List.Perm.swap _ _ _))
 have HBH := Lib.hid HB
 have NS : Hid (∀ w1, RingB w1 wB.heap.size n t u → Chg [] wB w1 → Side w0 w1 (ringT wB.heap.size n t u :: blkT (w.heap.size + 1) 120 [.slice fo tn tc, .int .u64 (next : Int), .int .i64 hd, .int .i64 (u : Int)] :: blkT w.heap.size 110 [.int .u64 (ep : Int), .int .u64 (sq : Int), .int .i64 (t : Int)] :: BayT b y F :: devT D b s 0 :: ts)) := fun w1 r c => HBH.out.ring r c
 clear HB HBH BC BF H
 rw [hwB] at a0 a2 b1 b3 NW NS
 clear hwB
 show Calls _ _ #[.pointer (some ⟨D, 0, none⟩), .int .i64 (n : Int), .agg #[.int .u64 (ep : Int), .int .u64 (sq : Int), .int .i64 (t : Int)], .agg #[.slice fo tn tc, .int .u64 (next : Int), .int .i64 hd, .int .i64 (u : Int)]] _ _
 go_enter Tryz.func54, Tryz.ntmps54
 go_wp2_with (go_at_call 129; refine NW.out.mono ?_; rintro e w1 ⟨rfl, rb, cg⟩; obtain ⟨⟨x0, x1⟩, W, R', ⟨hW, hR⟩, HS⟩ := E.out _ _ (NS.out w1 rb.out cg.out); clear NW E NS rb cg)
 subst hR
 subst hW
 go_ret
 exact ⟨_, _, rfl, HS⟩

/-- What Format comes to. -/
def Fmtd (w0 : World) (b : Nat) (y : Bay) (s : Int) (ring : Int) (ep : Nat) (ts : List Thing) (e : Ending) (w' : World) : Prop :=
 (¬ (ep ≤ 4611686018427387904 ∧ 5 ≤ ring ∧ ring ≤ 2048) ∧ e = .returned (.tuple #[.pointer none, .int .u16 1]) ∧ ∃ F', Hid (Side w0 w' (BayT b y F' :: ts))) ∨
 (ep ≤ 4611686018427387904 ∧ ∃ n : Nat, ring = n ∧ 5 ≤ n ∧ n ≤ 2048 ∧
  (((Wl.fmtIo y s n ep).2 ≠ 0 ∧ e = .returned (.tuple #[.pointer none, .int .u16 ((Wl.fmtIo y s n ep).2 : Nat)]) ∧ ∃ F', Hid (Side w0 w' (BayT b (Wl.fmtIo y s n ep).1 F' :: ts))) ∨
  ((Wl.fmtIo y s n ep).2 = 0 ∧ ∃ W D R F', e = .returned (.tuple #[.pointer (some ⟨W, 0, none⟩), .int .u16 0]) ∧ Hid (Side w0 w' (jts b W D R (Wl.begun s n ⟨ep, 1, 0⟩ 0 1) (.slice none 0 0) (Wl.fmtIo y s n ep).1 F' ts)))))

theorem ck_err_fmt (ep : Nat) : (Ck.err ⟨ep, 1, 0⟩ = 0 ↔ ep ≤ 4611686018427387904) ∧ (Ck.err ⟨ep, 1, 0⟩ ≠ 0 → Ck.err ⟨ep, 1, 0⟩ = 80) := by
 have hok : Ck.Ok ⟨ep, 1, 0⟩ ↔ ep ≤ 4611686018427387904 := ⟨fun q => q.1.1, fun h => ⟨⟨h, Nat.le_refl 1, by show (1 : Nat) ≤ 4611686018427387904; decide⟩, Int.le_refl 0, by show (0 : Int) ≤ 2047; decide⟩⟩
 unfold Ck.err
 split
 ·rename_i h
  exact ⟨⟨fun _ => hok.1 h, fun _ => rfl⟩, fun q => absurd rfl q⟩
 ·rename_i h
  exact ⟨⟨(fun q => by cases q), fun q => absurd (hok.2 q) h⟩, fun _ => rfl⟩

theorem zerosAt_succ (k : Nat) : Wl.zerosAt (k + 1) = Wl.zerosAt k ++ [(2 + k, Sc.zeros)] := by simp [Wl.zerosAt, List.range_succ]

theorem zeros_ub : ub Sc.zeros = List.replicate 128 (.int .u8 0) := by
 unfold ub Sc.zeros ints
 rw [List.map_map, List.map_replicate]
 rfl

theorem fmt_round {w0 wr wn : World} {b D k : Nat} {y : Bay} {F' : List Nat} {s : Int} {v : Value} {ts : List Thing} (HK : Side w0 wr (dts b D s (Wl.wrs s (y, 0) (Wl.zerosAt k)) F' ts)) (hs : I64 s) (hl : y.Low 999990000) (hk : k < 2048)
 (ow : wn.ownsRow wr.heap.size 5 1 v 128 (List.replicate 128 (.int .u8 0))) (c : Chg [] wr wn) :
 (∃ vo vc, v = .slice vo 128 vc) ∧ Hid (Calls Tryz.prog 52 #[.pointer (some ⟨D, 0, none⟩), .int .i64 ((2 + k : Nat) : Int), v] wn fun e w' => e = .returned (.tuple #[]) ∧ ∃ F'', Hid (Side w0 w' (dts b D s (Wl.wrs s (y, 0) (Wl.zerosAt (k + 1))) F'' ts))) := by
 have h0 : v.ownBlock = none ∨ ∃ g, v.ownBlock = some g := by cases v.ownBlock with
  | none => exact .inl rfl
  | some g => exact .inr ⟨g, rfl⟩
 refine ⟨by obtain ⟨vo, vc, e⟩ := owns_slice ow; exact ⟨vo, vc, e⟩, ?_⟩
 rw [← zeros_ub] at ow
 have H2 := HK.own ow c
 have sl : Sl wn v (ints Sc.zeros) := Sl.owned ow
 have H3 : Side w0 wn (dts b D s (Wl.wrs s (y, 0) (Wl.zerosAt k)) F' (ownT 5 v (ub Sc.zeros) :: ts)) := H2.perm (by
  show ([_] ++ ([_, _] ++ ts)).Perm ([_, _] ++ ([_] ++ ts))
  rw [← List.append_assoc, ← List.append_assoc]
  exact List.Perm.append_right _ List.perm_append_comm)
 have low : (Wl.wrs s (y, 0) (Wl.zerosAt k)).1.Low 1000000000 := (Wl.wrs_low _ hl).mono (by simp [Wl.zerosAt]; omega)
 show Calls _ _ _ _ _
 refine (dvwrite_any H3 hs _ ⟨by omega, by omega⟩ v Sc.zeros sl (fun x hx => by rw [(List.mem_replicate.1 hx).2]; decide) (by simp [Sc.zeros]) (fun j hj => ⟨fun hm => (H3.offAt 2 0 rfl rfl (by decide)) j (by simp [ownT, hj]) hm, (ow.lt j hj).2⟩) low).mono ?_
 rintro e w' ⟨h1, F'', h2⟩
 refine ⟨h1, F'', ?_⟩
 rw [zerosAt_succ, Wl.wrs_snoc]
 exact h2.out.sub (.cons_cons _ (.cons_cons _ (.cons _ (List.Sublist.refl _))))

set_option maxHeartbeats 4000000 in
set_option maxRecDepth 100000 in
theorem wformat_any {w0 w : World} {b : Nat} {y : Bay} {F : List Nat} {ts : List Thing} (H : Side w0 w (BayT b y F :: ts)) (s ring : Int) (hs : I64 s) (hr : I64 ring) (ep : Nat) (hep : ep < 18446744073709551616) (hl : y.Low 999990000) :
 Calls Tryz.prog 15 #[.pointer (some ⟨b, 0, none⟩), .int .i64 s, .int .i64 ring, .int .u64 (ep : Int)] w (Fmtd w0 b y s ring ep ts) := by
 obtain ⟨wB, hwB⟩ : ∃ wB, wB = w.alloc (.cells #[.int .u64 (ep : Int), .int .u64 1, .int .i64 0] 110) := ⟨_, rfl⟩
 have HB : Side w0 wB (blkT w.heap.size 110 [.int .u64 (ep : Int), .int .u64 1, .int .i64 0] :: BayT b y F :: ts) := by rw [hwB]; exact H.newBlk _ [.int .u64 (ep : Int), .int .u64 1, .int .i64 0]
 have BC : Blk wB w.heap.size 110 [.int .u64 (ep : Int), .int .u64 1, .int .i64 0] := HB.get 0 rfl
 have k0 : wB.cell? ⟨w.heap.size, 0, none⟩ = some (.int .u64 (ep : Int)) := BC.cell (j := 0) rfl
 have k1 : wB.cell? ⟨w.heap.size, 1, none⟩ = some (.int .u64 1) := BC.cell (j := 1) rfl
 have k2 : wB.cell? ⟨w.heap.size, 2, none⟩ = some (.int .i64 0) := BC.cell (j := 2) rfl
 obtain ⟨ck, hck⟩ : ∃ ck : Ck, ck = ⟨ep, 1, 0⟩ := ⟨_, rfl⟩
 obtain ⟨ce1, ce2⟩ := ck_err_fmt ep
 have EN : Hid (Calls Tryz.prog 50 #[.agg #[.int .u64 (ep : Int), .int .u64 1, .int .i64 0]] wB fun e w' => ∃ vo vn vc, e = .returned (.tuple #[.slice vo vn vc, .int .u16 (Ck.err ⟨ep, 1, 0⟩)]) ∧
  Hid (Side w0 w' (ownT 5 (.slice vo vn vc) (ub (Ck.enc ⟨ep, 1, 0⟩)) :: blkT w.heap.size 110 [.int .u64 (ep : Int), .int .u64 1, .int .i64 0] :: BayT b y F :: ts))) := by
  refine (encCk_any ⟨ep, 1, 0⟩ wB hep (by show (1 : Nat) < 18446744073709551616; decide)).mono ?_
  rintro e w' ⟨v, h1, h2, h3⟩
  obtain ⟨vo, vc, rfl⟩ := owns_slice h2.out
  exact ⟨vo, _, vc, h1, HB.own h2.out h3.out⟩
 have RV : Hid (∀ w', Calls Tryz.prog 51 #[.int .i64 ring] w' fun e w'' => e = .returned (.bool (decide (5 ≤ ring ∧ ring ≤ 2048))) ∧ w'' = w') := fun w' => ringValid_any ring w'
 by_cases hno : ep ≤ 4611686018427387904
 case neg =>
  have h80 := ce2 (fun q => hno (ce1.1 q))
  rw [h80] at EN
  have E : Hid (∀ w' v, Side w0 w' (ownT 5 v (ub (Ck.enc ⟨ep, 1, 0⟩)) :: blkT w.heap.size 110 [.int .u64 (ep : Int), .int .u64 1, .int .i64 0] :: BayT b y F :: ts) → Fmtd w0 b y s ring ep ts (.returned (.tuple #[.pointer none, .int .u16 1])) w') := fun w' v h => .inl ⟨fun q => hno q.1, rfl, F, h.tail.tail⟩
  rw [hwB] at k0 k1 k2 EN
  clear H HB BC hck ce1 ce2 hno h80 hwB hs hr hep hl RV
  go_enter Tryz.func15, Tryz.ntmps15
  go_wp2_with (go_at_call 50; refine EN.out.mono ?_; rintro e w1 ⟨vo, vn, vc, rfl, h⟩; clear EN k0 k1 k2)
  go_ret2
  exact E.out _ _ h.out
 have h00 := ce1.2 hno
 rw [h00] at EN
 by_cases hring : 5 ≤ ring ∧ ring ≤ 2048
 case neg =>
  have hd : decide (5 ≤ ring ∧ ring ≤ 2048) = false := decide_eq_false hring
  rw [hd] at RV
  have E : Hid (∀ w' v, Side w0 w' (ownT 5 v (ub (Ck.enc ⟨ep, 1, 0⟩)) :: blkT w.heap.size 110 [.int .u64 (ep : Int), .int .u64 1, .int .i64 0] :: BayT b y F :: ts) → Fmtd w0 b y s ring ep ts (.returned (.tuple #[.pointer none, .int .u16 1])) w') := fun w' v h => .inl ⟨fun q => hring q.2, rfl, F, h.tail.tail⟩
  rw [hwB] at k0 k1 k2 EN
  clear H HB BC hck ce1 ce2 hno h00 hwB hs hr hep hl hd hring
  go_enter Tryz.func15, Tryz.ntmps15
  go_wp2_with (first
   | (go_at_call 50; refine EN.out.mono ?_; rintro e w1 ⟨vo, vn, vc, rfl, h⟩; clear EN k0 k1 k2)
   | (go_at_call 51; refine (RV.out _).mono ?_; rintro e w2 ⟨rfl, hw2⟩; subst hw2))
  go_ret2
  exact E.out _ _ h.out
 obtain ⟨n, rfl⟩ : ∃ n : Nat, ring = n := ⟨ring.toNat, by omega⟩
 have n5 : 5 ≤ n := by omega
 have n2 : n ≤ 2048 := by omega
 have hd : decide (5 ≤ (n : Int) ∧ (n : Int) ≤ 2048) = true := decide_eq_true hring
 rw [hd] at RV
 obtain ⟨i0, hi, hz0, hz1, hz2⟩ := info_parts info_b8
 replace hi := Lib.hid hi
 replace hz0 := Lib.hid hz0
 replace hz1 := Lib.hid hz1
 replace hz2 := Lib.hid hz2
 obtain ⟨OUT, hOUT⟩ : ∃ OUT, OUT = Wl.fmtIo y s n ep := ⟨_, rfl⟩
 have hlen : (Ck.enc ⟨ep, 1, 0⟩).length = 128 ∧ Bs (Ck.enc ⟨ep, 1, 0⟩) := by
  have hk : Ck.Ok ⟨ep, 1, 0⟩ := ⟨⟨hno, Nat.le_refl 1, by show (1 : Nat) ≤ 4611686018427387904; decide⟩, Int.le_refl 0, by show (0 : Int) ≤ 2047; decide⟩
  unfold Ck.enc
  rw [if_pos hk]
  exact ⟨Rec.sector_length (by show (1 : Nat) ≤ 25; decide), Rec.sector_bs _⟩
 obtain ⟨EC, hEC⟩ : ∃ EC, EC = Ck.enc ⟨ep, 1, 0⟩ := ⟨_, rfl⟩
 rw [← hEC] at EN hlen
 -- the parts, each by itself
 have RND : Hid (∀ (k : Nat) (wr wn : World) (D : Nat) (F' : List Nat) (v : Value) (ts' : List Thing), k < n → Side w0 wr (dts b D s (Wl.wrs s (y, 0) (Wl.zerosAt k)) F' ts') → wn.ownsRow wr.heap.size 5 1 v 128 (List.replicate 128 (.int .u8 0)) → Chg [] wr wn →
  (∃ vo vc, v = .slice vo 128 vc) ∧ Hid (Calls Tryz.prog 52 #[.pointer (some ⟨D, 0, none⟩), .int .i64 ((2 + k : Nat) : Int), v] wn fun e w' => e = .returned (.tuple #[]) ∧ ∃ F'', Hid (Side w0 w' (dts b D s (Wl.wrs s (y, 0) (Wl.zerosAt (k + 1))) F'' ts')))) :=
  fun k wr wn D F' v ts' hk h o c => fmt_round h hs hl (by omega) o c
 have CHK : Hid (∀ (w1 : World) (D : Nat) (F' : List Nat) (v : Value), Side w0 w1 (dts b D s (Wl.wrs s (y, 0) (Wl.zerosAt n)) F' (ownT 5 v (ub EC) :: blkT w.heap.size 110 [.int .u64 (ep : Int), .int .u64 1, .int .i64 0] :: ts)) →
  Calls Tryz.prog 53 #[.pointer (some ⟨D, 0, none⟩), v] w1 fun e w' => e = .returned (.tuple #[]) ∧ w'.cell? ⟨D, 2, none⟩ = some (.int .u16 ((OUT.2 : Nat) : Int)) ∧ ∃ F'', Hid (Side w0 w' (dts b D s OUT F'' (ownT 5 v (ub EC) :: blkT w.heap.size 110 [.int .u64 (ep : Int), .int .u64 1, .int .i64 0] :: ts)))) := fun w1 D F' v h => by
  have o : w1.ownsRow 0 5 1 v (ub EC).length (ub EC) := h.get 2 rfl
  refine (dvcheck_any h hs v EC (Sl.owned o) hlen.2 (by rw [hlen.1]; decide) (fun k hk => ⟨fun hm => (h.offAt 2 0 rfl rfl (by decide)) k (by simp [ownT, hk]) hm, (o.lt k hk).2⟩) ((Wl.wrs_low _ hl).mono (by simp [Wl.zerosAt]; omega))).mono ?_
  rintro e w' ⟨h1, F'', h2⟩
  have e2 : Wl.fl s (Wl.wr s (Wl.wrs s (y, 0) (Wl.zerosAt n)) 1 EC) = OUT := by rw [hEC, hOUT]; rfl
  rw [e2] at h2
  exact ⟨h1, (h2.out.get 1 rfl : Blk _ _ _ (devV b s OUT.2)).cell (j := 2) rfl, F'', h2⟩
 have BEG : Hid (∀ (w1 : World) (D : Nat) (F' : List Nat) (v : Value), OUT.2 = 0 → Side w0 w1 (dts b D s OUT F' (ownT 5 v (ub EC) :: blkT w.heap.size 110 [.int .u64 (ep : Int), .int .u64 1, .int .i64 0] :: ts)) →
  w1.cell? ⟨w.heap.size, 0, none⟩ = some (.int .u64 (ep : Int)) ∧ w1.cell? ⟨w.heap.size, 1, none⟩ = some (.int .u64 1) ∧ w1.cell? ⟨w.heap.size, 2, none⟩ = some (.int .i64 0) ∧
  Hid (Calls Tryz.prog 54 #[.pointer (some ⟨D, 0, none⟩), .int .i64 (n : Int), .agg #[.int .u64 (ep : Int), .int .u64 1, .int .i64 0], .agg #[.slice none 0 0, .int .u64 1, .int .i64 0, .int .i64 0]] w1 fun e w' => ∃ W, e = .returned (.pointer (some ⟨W, 0, none⟩)) ∧ Hid (Fmtd w0 b y s n ep ts (.returned (.tuple #[.pointer (some ⟨W, 0, none⟩), .int .u16 0])) w'))) := fun w1 D F' v h0 h => by
  have B : Blk w1 w.heap.size 110 [.int .u64 (ep : Int), .int .u64 1, .int .i64 0] := h.get 3 rfl
  refine ⟨B.cell (j := 0) rfl, B.cell (j := 1) rfl, B.cell (j := 2) rfl, ?_⟩
  show Calls _ _ _ _ _
  have h1 : Side w0 w1 (BayT b OUT.1 F' :: devT D b s 0 :: ts) := by
   have := h.sub (us := BayT b OUT.1 F' :: devT D b s OUT.2 :: ts) (.cons_cons _ (.cons_cons _ (.cons _ (.cons _ (List.Sublist.refl _)))))
   rw [h0] at this
   exact this
  refine (begin_j (c := ⟨ep, 1, 0⟩) (u := 0) (next := 1) (hd := 0) (tv := .slice none 0 0) h1 ⟨0, rfl⟩ ⟨n5, n2, by show (0 : Nat) < n; omega, Nat.zero_le _⟩ ⟨_, _, _, rfl⟩).mono ?_
  rintro e w' ⟨W, R, h2, h3⟩
  refine ⟨W, h2, .inr ⟨hno, n, rfl, n5, n2, .inr ⟨by rw [← hOUT]; exact h0, W, D, R, F', rfl, ?_⟩⟩⟩
  rw [← hOUT]
  exact h3
 have BAD : Hid (∀ (w1 : World) (D : Nat) (F' : List Nat) (v : Value) (m : Nat), OUT.2 ≠ 0 → Side w0 w1 (dts b D s OUT F' (ownT 5 v (ub EC) :: blkT w.heap.size 110 [.int .u64 (ep : Int), .int .u64 1, .int .i64 0] :: ts)) →
  Fmtd w0 b y s n ep ts (.returned (.tuple #[.pointer none, .int .u16 ((OUT.2 : Nat) : Int)])) (w1.drewN m)) := fun w1 D F' v m h0 h => by
  refine .inr ⟨hno, n, rfl, n5, n2, .inl ⟨by rw [← hOUT]; exact h0, by rw [hOUT], F', ?_⟩⟩
  rw [← hOUT]
  exact (h.quiet ((Chg.refl [] w1).drewN m)).sub (.cons_cons _ (.cons _ (.cons _ (.cons _ (List.Sublist.refl _)))))
 have DEV : Hid (∀ w1 v, Side w0 w1 (ownT 5 v (ub EC) :: blkT w.heap.size 110 [.int .u64 (ep : Int), .int .u64 1, .int .i64 0] :: BayT b y F :: ts) → Side w0 (w1.alloc (.cells #[.pointer (some ⟨b, 0, none⟩), .int .i64 s, .int .u16 0] 115)) (dts b w1.heap.size s (Wl.wrs s (y, 0) (Wl.zerosAt 0)) F (ownT 5 v (ub EC) :: blkT w.heap.size 110 [.int .u64 (ep : Int), .int .u64 1, .int .i64 0] :: ts))) := fun w1 v h => by
  have h1 := h.newBlk 115 (devV b s 0)
  refine h1.perm ?_
  show ([devT w1.heap.size b s 0, _, _, BayT b y F] ++ ts).Perm ([BayT b y F, devT w1.heap.size b s 0, _, _] ++ ts)
  refine List.Perm.append_right _ ?_
  exact (List.perm_append_comm (l₁ := [devT w1.heap.size b s 0, _, _]) (l₂ := [BayT b y F]))
 have WRP : Hid (∀ k : Nat, k < n → (IntKind.i64.wrap (2 + (k : Int)) = ((2 + k : Nat) : Int) ∧ wrap64 (2 + (k : Int)) = ((2 + k : Nat) : Int)) ∧ IntKind.i64.wrap ((k : Int) + 1) = (k : Int) + 1 ∧ wrap64 ((k : Int) + 1) = (k : Int) + 1) := fun k hk => by
  obtain ⟨a, c⟩ := wrap_in (z := 2 + (k : Int)) (by omega) (by omega)
  obtain ⟨a', c'⟩ := wrap_in (z := (k : Int) + 1) (by omega) (by omega)
  exact ⟨⟨a.trans (by omega), c.trans (by omega)⟩, a', c'⟩
 have KM : Hid (∀ k : Nat, k < n → n - (intOf (.int .i64 ((k : Int) + 1))).toNat < n - (intOf (.int .i64 (k : Int))).toNat) := fun k hk => by simp [intOf]; omega
 have KE : Hid (∀ k : Nat, k ≤ n → ¬ k < n → k = n) := fun k h h' => by omega
 rw [hwB] at k0 k1 k2 EN
 clear H HB BC hck ce1 ce2 hno h00 hwB hs hr hep hl hring hOUT hlen hEC n5 n2
 go_enter Tryz.func15, Tryz.ntmps15
 go_wp2_with (first
  | (go_at_call 50; refine EN.out.mono ?_; rintro e w1 ⟨vo, vn, vc, rfl, h⟩; clear EN k0 k1 k2)
  | (go_at_call 51; refine (RV.out _).mono ?_; rintro e w2 ⟨rfl, hw2⟩; subst hw2; have hD := Lib.hid (DEV.out _ _ h.out); clear DEV h))
 generalize (w2.alloc (.cells #[.pointer (some ⟨b, 0, none⟩), .int .i64 s, .int .u16 0] 115)) = wD at *
 generalize w2.heap.size = D at *
 obtain ⟨QT, hQT⟩ : ∃ QT, QT = ownT 5 (.slice vo vn vc) (ub EC) :: blkT w.heap.size 110 [.int .u64 (ep : Int), .int .u64 1, .int .i64 0] :: ts := ⟨_, rfl⟩
 rw [← hQT] at hD
 have HQT := Lib.hid hQT
 clear hQT RV
 go_loopw [34] (fun i wr => ∃ k : Nat, k ≤ n ∧ i = .int .i64 k ∧ ∃ F', Hid (Side w0 wr (dts b D s (Wl.wrs s (y, 0) (Wl.zerosAt k)) F' QT))) (fun i _ => n - (intOf i).toNat)
 case atStart => exact ⟨0, Nat.zero_le _, rfl, F, hD⟩
 case round =>
  obtain ⟨k, hk, rfl, F', Hk⟩ := hrel
  clear hD
  have hk0 : (0 : Int) ≤ k := Int.natCast_nonneg _
  by_cases hlt : k < n
  ·have hk1 : (k : Int) < n := by omega
   obtain ⟨⟨pw1, pw2⟩, kw1, kw2⟩ := WRP.out k hlt
   have RN := Lib.hid (fun wn F0 v h o c => RND.out k wr wn D F0 v QT hlt h o c)
   obtain ⟨P2, hP2⟩ : ∃ P2, P2 = ((2 + k : Nat) : Int) := ⟨_, rfl⟩
   rw [← hP2] at pw1 pw2 RN
   clear hP2 RND CHK BEG BAD WRP
   go_wp2_with (first
    | ((with_reducible refine wpList_make_full _ rfl _ _ 65 rfl wr.heap.size 5 i0 _ 1 Tryz.underlying65 hi.out hz0.out hz1.out .i64 .i64 (128 : Int) (128 : Int) 128 rfl rfl rfl rfl (by rw [hz2.out]; decide) (by unfold maxLen; decide) (Nat.le_refl _) ?_); intro w3 ow gr; rw [made_replicate (.int .u8 0) 128 rfl] at ow; obtain ⟨-, RW⟩ := RN.out w3 F' _ Hk.out ow ((Chg.refl [] wr).grown gr (fun k hk => by cases hk)); clear RN ow gr Hk)
    | (go_at_call 52; refine RW.out.mono ?_; rintro e w' ⟨rfl, F'', h⟩; clear RW))
   exact ⟨⟨k + 1, hlt, by go_num, F'', h⟩, KM.out k hlt⟩
  ·have hkn : k = n := KE.out k hk hlt
   subst hkn
   rw [HQT.out] at Hk
   have CH := Lib.hid (CHK.out _ _ _ _ Hk.out)
   clear CHK RND WRP KM KE Hk HQT
   by_cases h0 : OUT.2 = 0
   ·have BG := Lib.hid (fun w1 F' v h => BEG.out w1 D F' v h0 h)
    have hz : ((OUT.2 : Nat) : Int) = 0 := by rw [h0]; rfl
    rw [hz] at CH
    clear BAD BEG hz h0
    go_wp2_with (first
     | (go_at_call 53; refine CH.out.mono ?_; rintro e w3 ⟨rfl, c2, F'', h⟩; obtain ⟨x0, x1, x2, GB⟩ := BG.out w3 F'' _ h.out; clear CH BG h)
     | (go_at_call 54; refine GB.out.mono ?_; rintro e w4 ⟨WW, rfl, A⟩; clear GB x0 x1 x2 c2))
    go_ret2
    exact A.out
   ·have BB := Lib.hid (fun w1 F' v m h => BAD.out w1 D F' v m h0 h)
    have hz : (((OUT.2 : Nat) : Int) != 0) = true := by simpa using h0
    clear BEG BAD h0
    generalize ((OUT.2 : Nat) : Int) = ER at *
    go_wp2_with (first
     | (go_at_call 53; refine CH.out.mono ?_; rintro e w3 ⟨rfl, c2, F'', h⟩; have B3 := Lib.hid (fun m => BB.out w3 F'' _ m h.out); clear CH BB h))
    go_quiet (fail)
    go_wp2_with fail
    go_ret2
    exact B3.out _

end Go.Proofs.YtkafkdlgflkjgaaGreat

/-
  The journal's calls: Reclaim, Renew, Log. By an AI agent.
-/
namespace Go.Proofs.YtkafkdlgflkjgaaGreat
open Go.RowKit Go.Maps Crc

theorem wreclaim_any {w0 w : World} {b W D R : Nat} {J : Wl.Jn} {cv : Value} {y : Bay} {F : List Nat} {ts : List Thing} (H : Side w0 w (jts b W D R J cv y F ts)) (hf : J.Fit) (hs : I64 J.slot) (hl : y.Low 999999999) :
 Calls Tryz.prog 33 #[.pointer (some ⟨W, 0, none⟩)] w (Ans w0 b W D R cv ts (Wl.passJ y J J.ep)) := by
 have he := hf.ep
 have P := Lib.hid (wpass_any H hf hs hl J.ep (by omega))
 have k1 : w.cell? ⟨W, 1, none⟩ = some (.int .u64 (J.ep : Int)) := (H.get 2 rfl : Blk _ _ _ _).cell (j := 1) rfl
 clear H hf hs hl he
 generalize Wl.passJ y J J.ep = OUT at *
 generalize (J.ep : Int) = EP at *
 go_enter Tryz.func33, Tryz.ntmps33
 go_wp2_with (go_at_call 113; refine P.out.mono ?_; rintro e w' ⟨rfl, A⟩; replace A := Lib.hid A; clear P k1)
 go_ret
 exact ⟨rfl, A.out⟩

theorem wrenew_any {w0 w : World} {b W D R : Nat} {J : Wl.Jn} {cv : Value} {y : Bay} {F : List Nat} {ts : List Thing} (H : Side w0 w (jts b W D R J cv y F ts)) (hf : J.Fit) (hs : I64 J.slot) (hl : y.Low 999999999) :
 Calls Tryz.prog 34 #[.pointer (some ⟨W, 0, none⟩)] w (Ans w0 b W D R cv ts (Wl.passJ y J (J.ep + 1))) := by
 have he := hf.ep
 have P := Lib.hid (wpass_any H hf hs hl (J.ep + 1) (by omega))
 have k1 : w.cell? ⟨W, 1, none⟩ = some (.int .u64 (J.ep : Int)) := (H.get 2 rfl : Blk _ _ _ _).cell (j := 1) rfl
 have wr : IntKind.u64.wrap ((J.ep : Int) + 1) = ((J.ep + 1 : Nat) : Int) := by rw [show (J.ep : Int) + 1 = ((J.ep + 1 : Nat) : Int) from by omega]; exact IntWalk.u64_in _ (by omega)
 obtain ⟨E1, hE1⟩ : ∃ E1, E1 = ((J.ep + 1 : Nat) : Int) := ⟨_, rfl⟩
 rw [← hE1] at P wr
 clear H hf hs hl he hE1
 generalize Wl.passJ y J (J.ep + 1) = OUT at *
 generalize (J.ep : Int) = EP at *
 go_enter Tryz.func34, Tryz.ntmps34
 go_wp2_with (go_at_call 113; refine P.out.mono ?_; rintro e w' ⟨rfl, A⟩; replace A := Lib.hid A; clear P k1)
 go_ret
 exact ⟨rfl, A.out⟩

/-- Log's answer. -/
def AnsL (w0 : World) (b W D R : Nat) (ts : List Thing) (o : Wl.Out) (e : Ending) (w' : World) : Prop := e = .returned (.int .u16 o.err) ∧ ∃ F' cv', Hid (Side w0 w' (jts b W D R o.jn cv' o.bay F' ts))

set_option maxHeartbeats 4000000 in
set_option maxRecDepth 100000 in
/-- What is refused ahead of any operation. -/
theorem wlog_no {w0 w : World} {b W D R : Nat} {J : Wl.Jn} {cv : Value} {y : Bay} {F : List Nat} {ts : List Thing} (H : Side w0 w (jts b W D R J cv y F ts)) (_hf : J.Fit) (_hs : I64 J.slot) (_hl : y.Low 999990000)
 (v : Value) (ds : List PtD) (hv : Pts w v ds) (hno : J.br ≠ 0 ∨ scErr J.ep J.next ds ≠ 0) :
 Calls Tryz.prog 30 #[.pointer (some ⟨W, 0, none⟩), v] w (AnsL w0 b W D R ts (Wl.logJ y J (scErr J.ep J.next ds) (ds.map pdOf))) := by
 obtain ⟨vo, vc, rfl⟩ := hv.slice
 obtain ⟨wB, hwB⟩ : ∃ wB, wB = w.alloc (.cells #[.pointer (some ⟨W, 0, none⟩)] 32) := ⟨_, rfl⟩
 have CB : Chg [] w wB := by rw [hwB]; exact (Chg.refl _ _).alloc _
 have HB : Side w0 wB (jts b W D R J cv y F (blkT w.heap.size 32 [.pointer (some ⟨W, 0, none⟩)] :: ts)) := by rw [hwB]; exact H.behind _ _
 have q0 : wB.cell? ⟨w.heap.size, 0, none⟩ = some (.pointer (some ⟨W, 0, none⟩)) := (HB.get 5 rfl : Blk _ _ _ _).cell (j := 0) rfl
 have BW : Blk wB W 181 (walV D R J cv) := HB.get 2 rfl
 have BD : Blk wB D 115 (devV b J.slot J.br) := HB.get 1 rfl
 have k0 : wB.cell? ⟨W, 0, none⟩ = some (.pointer (some ⟨D, 0, none⟩)) := BW.cell (j := 0) rfl
 have k1 : wB.cell? ⟨W, 1, none⟩ = some (.int .u64 (J.ep : Int)) := BW.cell (j := 1) rfl
 have k3 : wB.cell? ⟨W, 3, none⟩ = some (.int .u64 (J.next : Int)) := BW.cell (j := 3) rfl
 have d2 : wB.cell? ⟨D, 2, none⟩ = some (.int .u16 ((J.br : Nat) : Int)) := BD.cell (j := 2) rfl
 have E : Hid (∃ F' cv', Side w0 wB (jts b W D R J cv' y F' ts)) := ⟨F, cv, HB.less⟩
 by_cases hbr : J.br = 0
 case neg =>
  have e : Wl.logJ y J (scErr J.ep J.next ds) (ds.map pdOf) = ⟨(J.br : Nat), y, J⟩ := by
   have e1 : Wl.logErr J (scErr J.ep J.next ds) (ds.map pdOf).length = (J.br : Nat) := by unfold Wl.logErr; rw [if_pos hbr]
   unfold Wl.logJ
   rw [e1, if_pos (by omega)]
  rw [e]
  have h1 : ¬ ((J.br : Nat) : Int) = 0 := by omega
  have E2 : Hid (∀ e2, e2 = .returned (.int .u16 ((J.br : Nat) : Int)) → ∀ w', w' = wB → AnsL w0 b W D R ts ⟨(J.br : Nat), y, J⟩ e2 w') := fun e2 he w' hw => by rw [hw]; exact ⟨he, E.out⟩
  rw [hwB] at q0 k0 d2 E2
  clear H HB _hs _hl BW BD e hwB hbr k1 k3 E _hf CB hv hno
  generalize ((J.br : Nat) : Int) = BR at *
  go_enter Tryz.func30, Tryz.ntmps30
  go_wp2_with fail
  go_ret
  exact E2.out _ rfl _ rfl
 rw [hbr] at d2
 by_cases h0 : scErr J.ep J.next ds = 0
 case neg =>
  have e : Wl.logJ y J (scErr J.ep J.next ds) (ds.map pdOf) = ⟨scErr J.ep J.next ds, y, J⟩ := by
   have e1 : Wl.logErr J (scErr J.ep J.next ds) (ds.map pdOf).length = scErr J.ep J.next ds := by unfold Wl.logErr; rw [if_neg (fun h => h hbr), if_pos h0]
   unfold Wl.logJ
   rw [e1, if_pos h0]
  rw [e]
  have hne : (scErr J.ep J.next ds != 0) = true := by simpa using h0
  have SC : Hid (∀ X, Chg [] wB X → Calls Tryz.prog 103 #[.int .u64 (J.ep : Int), .agg #[.int .u64 (J.next : Int), .slice vo ds.length vc]] X fun e w' => e = .returned (.tuple #[.slice none 0 0, .int .u16 (scErr J.ep J.next ds)]) ∧ Hid (Side w0 w' (jts b W D R J cv y F (blkT w.heap.size 32 [.pointer (some ⟨W, 0, none⟩)] :: ts)))) := fun X C => by
   refine (sectors_no J.ep J.next _ ds X (hv.chg (CB.trans C)) h0).mono ?_
   rintro e w' ⟨h1, h2⟩
   exact ⟨h1, HB.quiet (C.trans h2.out)⟩
  have SC2 : Hid (∀ X, Chg [] wB X → ∀ p, Side w0 X (blkT p 43 [.slice none 0 0] :: jts b W D R J cv y F (blkT w.heap.size 32 [.pointer (some ⟨W, 0, none⟩)] :: ts)) → Calls Tryz.prog 103 #[.int .u64 (J.ep : Int), .agg #[.int .u64 (J.next : Int), .slice vo ds.length vc]] X fun e w' => e = .returned (.tuple #[.slice none 0 0, .int .u16 (scErr J.ep J.next ds)]) ∧ Hid (Side w0 w' (blkT p 43 [.slice none 0 0] :: jts b W D R J cv y F (blkT w.heap.size 32 [.pointer (some ⟨W, 0, none⟩)] :: ts)))) := fun X C p h => by
   refine (sectors_no J.ep J.next _ ds X (hv.chg (CB.trans C)) h0).mono ?_
   rintro e w' ⟨h1, h2⟩
   exact ⟨h1, h.quiet h2.out⟩
  have KS : Hid (∀ X, Side w0 X (jts b W D R J cv y F (blkT w.heap.size 32 [.pointer (some ⟨W, 0, none⟩)] :: ts)) → X.cell? ⟨w.heap.size, 0, none⟩ = some (.pointer (some ⟨W, 0, none⟩)) ∧ X.cell? ⟨W, 1, none⟩ = some (.int .u64 (J.ep : Int)) ∧ X.cell? ⟨W, 3, none⟩ = some (.int .u64 (J.next : Int))) := fun X h => by
   have B1 : Blk X W 181 (walV D R J cv) := h.get 2 rfl
   exact ⟨(h.get 5 rfl : Blk _ _ _ _).cell (j := 0) rfl, B1.cell (j := 1) rfl, B1.cell (j := 3) rfl⟩
  have FIN : Hid (∀ X, Side w0 X (jts b W D R J cv y F (blkT w.heap.size 32 [.pointer (some ⟨W, 0, none⟩)] :: ts)) → ∃ F' cv', Hid (Side w0 X (jts b W D R J cv' y F' ts))) := fun X h => ⟨F, cv, h.less⟩
  rw [hwB] at q0 k0 d2 k1 k3 SC SC2
  clear H _hs _hl BW BD e hbr E _hf CB hv hno h0
  generalize scErr J.ep J.next ds = ER at *
  generalize (ds.length : Nat) = LN at *
  generalize (J.ep : Int) = EP at *
  generalize (J.next : Int) = NX at *
  have HBB := Lib.hid HB
  clear HB
  rw [hwB] at HBB
  clear hwB
  go_enter Tryz.func30, Tryz.ntmps30
  go_wp2_with fail
  generalize (w.alloc (.cells #[.pointer (some ⟨W, 0, none⟩)] 32)) = wC at *
  have KB := Lib.hid (KS.out _ HBB.out)
  have HA := Lib.hid (HBB.out.newBlk 43 [.slice none 0 0])
  have KA := Lib.hid (KS.out _ HA.out.tail)
  have SCA := Lib.hid (SC2.out ((wC.alloc (.cells #[.slice none 0 0] 43)).drew) (((Chg.refl _ _).alloc _).drew) _ (HA.out.quiet ((Chg.refl _ _).drew)))
  have SCB := Lib.hid (SC.out wC.drew ((Chg.refl _ _).drew))
  clear SC SC2
  go_region_held3 (fun w' : World => w'.cell? ⟨w.heap.size, 0, none⟩ = some (.pointer (some ⟨W, 0, none⟩)) ∧ w'.cell? ⟨W, 1, none⟩ = some (.int .u64 EP) ∧ w'.cell? ⟨W, 3, none⟩ = some (.int .u64 NX)) (first | exact ⟨q0, k1, k3⟩ | exact KB.out | exact KA.out | exact K1.out | exact K2.out | exact K3.out) (first
   | (go_at_call 103; refine SCB.out.mono ?_; rintro e w1 ⟨rfl, h⟩; have K1 := Lib.hid (KS.out _ h.out); have K2 := Lib.hid (KS.out _ (h.out.newBlk 43 [.slice none 0 0]).tail); have hS := Lib.hid (h.out.newBlk 43 [.slice none 0 0]); have K3 := Lib.hid (KS.out _ hS.out.tail))
   | (go_at_call 103; refine SCA.out.mono ?_; rintro e w1 ⟨rfl, h⟩; have K1 := Lib.hid (KS.out _ h.out.tail); have c5 := (h.out.get 0 rfl : Blk _ _ _ _).cell (j := 0) rfl; have f5 := (h.out.get 0 rfl : Blk _ _ _ _).free 0; have hS := Lib.hid (h.out.blkSet 0 rfl 0 (.slice none 0 0)); have K3 := Lib.hid (KS.out _ hS.out.tail)))
  all_goals (replace hS := Lib.hid (FIN.out _ hS.out.tail); clear SCA SCB KS FIN KB KA K1 K3 HBB HA q0 k0 k1 k3 d2 h; go_wp2_with fail; go_ret; exact ⟨rfl, hS.out⟩)
 rcases hno with h | h
 ·exact absurd hbr h
 ·exact absurd h0 h

end Go.Proofs.YtkafkdlgflkjgaaGreat

/-
  The journal's calls: Log. By an AI agent.
-/
namespace Go.Proofs.YtkafkdlgflkjgaaGreat
open Go.RowKit Go.Maps Crc

theorem enters_log1 (args : Array Value) (w : World) : (callFunc 109 args).run Tryz.prog w = .ok (.enter 109 args) w := by
 have h1 : (Tryz.f109.name == "runtime.NumGoroutine") = false := by kernel_rfl
 have h2 : Tryz.f109.body.isNone = false := by kernel_rfl
 have h3 : ¬ Tryz.f109.name = "runtime.NumGoroutine" := by simpa using h1
 have h4 : ¬ Tryz.f109.body = none := fun e => by rw [e] at h2; cases h2
 simp [callFunc, go_sem, Tryz.func109, h3, h4]

theorem scErr_len {ep sq : Nat} {ds : List PtD} (h : scErr ep sq ds = 0) : 1 ≤ ds.length ∧ ds.length ≤ 1023 := by
 unfold scErr at h
 by_cases c : 1 ≤ ds.length ∧ ds.length ≤ 1023
 ·exact c
 ·rw [if_neg c] at h; cases h

/-- Things ahead of the journal's go behind it. -/
theorem Side.tuck {w0 w : World} {x a b c d e : Thing} {ts : List Thing} (H : Side w0 w (x :: a :: b :: c :: d :: e :: ts)) : Side w0 w (a :: b :: c :: d :: e :: x :: ts) := H.perm (by
 show ([x] ++ ([a, b, c, d, e] ++ ts)).Perm ([a, b, c, d, e] ++ ([x] ++ ts))
 rw [← List.append_assoc, ← List.append_assoc]
 exact List.Perm.append_right _ List.perm_append_comm)

/-- The list of a batch's sectors, and what it is. -/
theorem rows_cell {w0 w : World} {ts : List Thing} {lv : Value} {vs : List Rw} {i j : Nat} (H : Side w0 w ts) (hi : ts[i]? = some (wideT 1 65 lv (rwSlots vs))) {p : Rw} (hp : vs[j]? = some p) :
 ∃ g n c, lv = .slice (some ⟨g, 0, none⟩) n c ∧ n = vs.length ∧ n ≤ c ∧ w.cell? ⟨g, j, none⟩ = some p.1 := by
 have o := rows_own (w := w) (lv := lv) (vs := vs) (n := vs.length) (H.get i hi) rfl
 have hj := (List.getElem?_eq_some_iff.1 hp).1
 have hcap := owned_capd o
 rcases o.2 with ⟨h1, _⟩ | ⟨g, cap, cur, hv, hb, hg, _⟩
 ·omega
 ·refine ⟨g, _, _, hv, rfl, hcap _ _ _ hv, ?_⟩
  have c1 := World.ownsRow.cells o (g := g) (by rw [hv]; rfl) j p.1 (by rw [List.getElem?_map, hp]; rfl)
  rw [Addr.add_lit, Nat.zero_add] at c1
  exact c1

/-- The last of the batch's rows is kept. -/
theorem Side.keepRow {w0 w : World} {a b c d x1 x2 x3 x4 x5 : Thing} {cv cv' : Value} {o : Option (List Nat)} {cm : List Nat} {A : List Rw} {ts : List Thing} (H : Side w0 w (a :: b :: c :: d :: comT cv o :: x1 :: x2 :: x3 :: x4 :: poolT (A ++ [(cv', ub cm)]) :: x5 :: ts)) : Side w0 w (a :: b :: c :: d :: comT cv' (some cm) :: ts) := by
 have h1 : Side w0 w (poolT (A ++ [(cv', ub cm)]) :: a :: b :: c :: d :: ts) := (H.sub (us := [a, b, c, d] ++ poolT (A ++ [(cv', ub cm)]) :: ts) (.cons_cons _ (.cons_cons _ (.cons_cons _ (.cons_cons _ (.cons _ (.cons _ (.cons _ (.cons _ (.cons _ (.cons_cons _ (.cons _ (List.Sublist.refl _))))))))))))).perm (by
  show ([a, b, c, d] ++ ([poolT (A ++ [(cv', ub cm)])] ++ ts)).Perm ([poolT (A ++ [(cv', ub cm)])] ++ ([a, b, c, d] ++ ts))
  rw [← List.append_assoc, ← List.append_assoc]
  exact List.Perm.append_right _ List.perm_append_comm)
 have h2 : Side w0 w (comT cv' (some cm) :: a :: b :: c :: d :: ts) := h1.poolPart.tail
 exact h2.perm (by
  show ([comT cv' (some cm)] ++ ([a, b, c, d] ++ ts)).Perm ([a, b, c, d] ++ ([comT cv' (some cm)] ++ ts))
  rw [← List.append_assoc, ← List.append_assoc]
  exact List.Perm.append_right _ List.perm_append_comm)

/-- One round: a sector goes to its place. -/
theorem lay_round {w0 wr : World} {b D W R k g m c : Nat} {J : Wl.Jn} {cv : Value} {y : Bay} {F' : List Nat} {io : Wl.Io} {x8 x7 xp : Thing} {vs : List Rw} {S : List (List Nat)} {ts : List Thing}
 (HK : Side w0 wr (dts b D J.slot io F' (walT W D R J cv :: ringT R J.S J.t J.u :: comT cv J.commit :: x8 :: x7 :: xp :: wideT 1 65 (.slice (some ⟨g, 0, none⟩) m c) (rwSlots vs) :: poolT vs :: ts)))
 (hf : Rg J.S J.t J.u) (hs : I64 J.slot) (low : io.1.Low 1000000000) (hk : J.u + k < J.S) (hS : k < S.length) (hvs : vs.map (·.2) = S.map ub) (h8 : ∀ s ∈ S, s.length = 128 ∧ Bs s) (hio : io = Wl.wrs J.slot (y, J.br) (J.puts (S.take k))) :
 ∃ ro rn rc, wr.cell? ⟨g, k, none⟩ = some (.slice ro rn rc) ∧ Hid (Calls Tryz.prog 106 #[.pointer (some ⟨W, 0, none⟩), .int .i64 (k : Int), .slice ro rn rc] wr fun e w' => e = .returned (.tuple #[]) ∧
   ∃ F'', Hid (Side w0 w' (dts b D J.slot (Wl.wrs J.slot (y, J.br) (J.puts (S.take (k + 1)))) F'' (walT W D R J cv :: ringT R J.S J.t J.u :: comT cv J.commit :: x8 :: x7 :: xp :: wideT 1 65 (.slice (some ⟨g, 0, none⟩) m c) (rwSlots vs) :: poolT vs :: ts)))) := by
 obtain ⟨s, hs1⟩ : ∃ s, S[k]? = some s := ⟨_, List.getElem?_eq_getElem hS⟩
 have hvl : vs.length = S.length := by have := congrArg List.length hvs; rw [List.length_map, List.length_map] at this; exact this
 obtain ⟨r, hr⟩ : ∃ r, vs[k]? = some r := ⟨_, List.getElem?_eq_getElem (by omega)⟩
 have hrs : r.2 = ub s := by
  have h1 : (vs.map (·.2))[k]? = some r.2 := by rw [List.getElem?_map, hr]; rfl
  rw [hvs, List.getElem?_map, hs1] at h1
  exact (Option.some.inj h1).symm
 obtain ⟨s1, s2⟩ := h8 s (List.mem_of_getElem? hs1)
 obtain ⟨sl, cpd⟩ := row_sl HK 9 rfl hr hrs
 obtain ⟨g', m', c', eg, _, _, cg⟩ := rows_cell (j := k) HK (i := 8) rfl hr
 obtain rfl : g = g' := by
  have h1 := Value.slice.inj eg
  exact (Addr.mk.inj (Option.some.inj h1.1)).1
 obtain ⟨ro, rc, hrv⟩ := sl.slice
 have e : Wl.wrs J.slot (y, J.br) (J.puts (S.take (k + 1))) = Wl.wr J.slot io ((J.place k : Nat) : Int) s := by rw [Wl.Jn.puts_take J hs1, Wl.wrs_snoc, hio]
 rw [e]
 have hold : ∀ j, r.1.ownBlock = some j → j ∉ F' ∧ j < wr.heap.size := fun j hj => ⟨fun hm => (HK.offAt 9 0 rfl rfl (by decide)) j (rowsOf_mem (v := r.1) (xs := r.2) hr hj) hm, (poolT vs).lt wr (HK.get 9 rfl) j (rowsOf_mem (v := r.1) (xs := r.2) hr hj)⟩
 have LY := lay_any HK hf hs k hk r.1 s sl s2 (by omega) hold low
 rw [hrv] at cg LY
 exact ⟨ro, _, rc, cg, LY⟩

/-- Behind the last sector: the barrier, and what the batch was for. -/
theorem log_end {w0 wr : World} {b D W R g c p p7 p8 q M : Nat} {J : Wl.Jn} {cv : Value} {y : Bay} {F' : List Nat} {vs : List Rw} {S : List (List Nat)} {l : List Pd} {CI : Int} {ts : List Thing}
 (HK : Side w0 wr (dts b D J.slot (Wl.wrs J.slot (y, J.br) (J.puts (S.take M))) F' (walT W D R J cv :: ringT R J.S J.t J.u :: comT cv J.commit :: blkT p8 3 [.int .i64 (M : Int)] :: blkT p7 3 [.int .i64 CI] :: blkT p 43 [.slice (some ⟨g, 0, none⟩) (M + 1) c] :: wideT 1 65 (.slice (some ⟨g, 0, none⟩) (M + 1) c) (rwSlots vs) :: poolT vs :: blkT q 32 [.pointer (some ⟨W, 0, none⟩)] :: ts)))
 (hs : I64 J.slot) (low : (Wl.wrs J.slot (y, J.br) (J.puts (S.take M))).1.Low 1000000000) (hM : M = 2 * l.length) (hCI : CI = ((2 * l.length + 1 : Nat) : Int)) (hS : S = Sc.secs J.ep J.next l) (hvs : vs.map (·.2) = S.map ub) :
 Calls Tryz.prog 107 #[.pointer (some ⟨D, 0, none⟩)] wr fun e w1 => e = .returned (.tuple #[]) ∧ w1.cell? ⟨q, 0, none⟩ = some (.pointer (some ⟨W, 0, none⟩)) ∧ w1.cell? ⟨W, 0, none⟩ = some (.pointer (some ⟨D, 0, none⟩)) ∧
  Hid (Calls Tryz.prog 108 #[.pointer (some ⟨D, 0, none⟩), .func (.func 109) #[] #[.pointer (some ⟨q, 0, none⟩), .pointer (some ⟨p, 0, none⟩), .pointer (some ⟨p8, 0, none⟩), .pointer (some ⟨p7, 0, none⟩)]] w1 (AnsL w0 b W D R ts (Wl.ends (Wl.logIo y J l) J (Wl.logged J l)))) := by
 have hio : Wl.fl J.slot (Wl.wrs J.slot (y, J.br) (J.puts (S.take M))) = Wl.logIo y J l := by rw [hS, hM]; rfl
 have hvl : vs.length = M + 1 := by have := congrArg List.length hvs; rw [List.length_map, List.length_map, hS, Sc.secs_len] at this; omega
 have hcm : S[M]? = some (Wl.commitOf J l) := by rw [hS, hM]; exact Sc.secs_cm J.ep J.next l
 obtain ⟨r, hr⟩ : ∃ r, vs[M]? = some r := ⟨_, List.getElem?_eq_getElem (by omega)⟩
 have hrs : r.2 = ub (Wl.commitOf J l) := by
  have h1 : (vs.map (·.2))[M]? = some r.2 := by rw [List.getElem?_map, hr]; rfl
  rw [hvs, List.getElem?_map, hcm] at h1
  exact (Option.some.inj h1).symm
 obtain ⟨cv', r2⟩ := r
 simp only at hrs
 subst hrs
 have hA : vs = vs.take M ++ [(cv', ub (Wl.commitOf J l))] := by
  have hd : vs.drop M = [(cv', ub (Wl.commitOf J l))] := by
   rw [List.drop_eq_getElem_cons (by omega), List.drop_of_length_le (by omega)]
   have h1 := List.getElem?_eq_getElem (l := vs) (i := M) (by omega)
   rw [hr] at h1
   rw [← Option.some.inj h1]
  rw [← hd, List.take_append_drop]
 refine (dvflush_any HK hs low).mono ?_
 rintro e w1 ⟨h1, F1, h2⟩
 rw [hio] at h2
 have h := h2.out
 have B1 : Blk w1 W 181 (walV D R J cv) := h.get 2 rfl
 have RB1 : RingB w1 R J.S J.t J.u := h.get 3 rfl
 have z8 : w1.cell? ⟨p8, 0, none⟩ = some (.int .i64 (M : Int)) := (h.get 5 rfl : Blk _ _ _ _).cell (j := 0) rfl
 have z7 : w1.cell? ⟨p7, 0, none⟩ = some (.int .i64 CI) := (h.get 6 rfl : Blk _ _ _ _).cell (j := 0) rfl
 have zp : w1.cell? ⟨p, 0, none⟩ = some (.slice (some ⟨g, 0, none⟩) (M + 1) c) := (h.get 7 rfl : Blk _ _ _ _).cell (j := 0) rfl
 have zq : w1.cell? ⟨q, 0, none⟩ = some (.pointer (some ⟨W, 0, none⟩)) := (h.get 10 rfl : Blk _ _ _ _).cell (j := 0) rfl
 obtain ⟨g', m', c', eg, _, _, cg⟩ := rows_cell (j := M) h (i := 8) rfl hr
 obtain rfl : g = g' := by
  have h1 := Value.slice.inj eg
  exact (Addr.mk.inj (Option.some.inj h1.1)).1
 obtain ⟨sl, _⟩ := row_sl h 9 rfl hr rfl
 obtain ⟨ro, rc, hrv⟩ := sl.slice
 have hRW : R ≠ W := fun e => (h.offAt 3 2 rfl rfl (by decide)) R (by simp [ringT]) (by simp [walT, blkT, e])
 have n8 : p8 ≠ W := fun e => (h.offAt 5 2 rfl rfl (by decide)) p8 (by simp [blkT]) (by simp [walT, blkT, e])
 have n7 : p7 ≠ W := fun e => (h.offAt 6 2 rfl rfl (by decide)) p7 (by simp [blkT]) (by simp [walT, blkT, e])
 have np : p ≠ W := fun e => (h.offAt 7 2 rfl rfl (by decide)) p (by simp [blkT]) (by simp [walT, blkT, e])
 have nq : q ≠ W := fun e => (h.offAt 10 2 rfl rfl (by decide)) q (by simp [blkT]) (by simp [walT, blkT, e])
 have ng : g ≠ W := fun e => (h.offAt 8 2 rfl rfl (by decide)) g (by simp [wideT, Value.ownBlock]) (by simp [walT, blkT, e])
 refine ⟨h1, zq, B1.cell (j := 0) rfl, ?_⟩
 show Calls _ _ _ _ _
 have qq : ∀ {w2 : World} {a : Addr} {u : Value}, Chg [] w1 w2 → w1.cell? a = some u → w2.cell? a = some u := fun c' hc => (c'.cell (World.block_lt_of_cell? w1 _ hc) (by simp)).trans hc
 refine (then_gen (vs' := walV D R (Wl.logged J l) cv') (S' := J.S) (t' := J.t) (u' := J.u) h 109 _ enters_log1 (fun h0 w2 c' => ?_)).mono ?_
 ·refine (log1_any W q p p8 p7 g (M + 1) c M CI cv' _ _ _ _ _ _ _ ⟨_, _, _, hrv⟩ w2 (B1.chg c' (by simp)) (qq c' zq) (qq c' zp) (qq c' z8) (qq c' z7) (qq c' cg) (Nat.lt_succ_self M) nq np n8 n7 ng).mono ?_
  rintro e w' ⟨h1, h2, h3⟩
  rw [hCI] at h2
  exact ⟨h1, h2, (Blk.chg RB1 c' (by simp)).chg h3 (by simpa using hRW), h3.mono (by simp)⟩
 ·rintro e w' ⟨h1, ⟨h0, h2⟩ | ⟨h0, h2⟩⟩
  ·unfold Wl.ends
   rw [if_neg h0]
   exact ⟨h1, F1, cv, h2.out.less.less.less.less.less.less⟩
  ·unfold Wl.ends
   rw [if_pos h0]
   rw [h0] at h1
   have h3 := h2.out
   rw [hA] at h3
   exact ⟨h1, F1, cv', h3.keepRow⟩

set_option maxHeartbeats 4000000 in
set_option maxRecDepth 100000 in
theorem wlog_ok {w0 w : World} {b W D R : Nat} {J : Wl.Jn} {cv : Value} {y : Bay} {F : List Nat} {ts : List Thing} (H : Side w0 w (jts b W D R J cv y F ts)) (hf : J.Fit) (hs : I64 J.slot) (hl : y.Low 999990000)
 (v : Value) (ds : List PtD) (hv : Pts w v ds) (hb : ∀ d ∈ ds, By d.d ∧ Cap d.v) (hbr : J.br = 0) (h0 : scErr J.ep J.next ds = 0) :
 Calls Tryz.prog 30 #[.pointer (some ⟨W, 0, none⟩), v] w (AnsL w0 b W D R ts (Wl.logJ y J (scErr J.ep J.next ds) (ds.map pdOf))) := by
 obtain ⟨vo, vc, rfl⟩ := hv.slice
 obtain ⟨n1, n2⟩ := scErr_len h0
 obtain ⟨g1, g2, _⟩ := scErr_zero h0 (fun d hd => (hb d hd).1)
 obtain ⟨l, hl0⟩ : ∃ l, l = ds.map pdOf := ⟨_, rfl⟩
 have hln : l.length = ds.length := by rw [hl0, List.length_map]
 rw [← hl0] at g2
 obtain ⟨n, hn⟩ : ∃ n, n = ds.length := ⟨_, rfl⟩
 rw [← hn] at n1 n2 hln
 obtain ⟨wB, hwB⟩ : ∃ wB, wB = w.alloc (.cells #[.pointer (some ⟨W, 0, none⟩)] 32) := ⟨_, rfl⟩
 have CB : Chg [] w wB := by rw [hwB]; exact (Chg.refl _ _).alloc _
 have HB : Side w0 wB (jts b W D R J cv y F (blkT w.heap.size 32 [.pointer (some ⟨W, 0, none⟩)] :: ts)) := by rw [hwB]; exact H.behind _ _
 have q0 : wB.cell? ⟨w.heap.size, 0, none⟩ = some (.pointer (some ⟨W, 0, none⟩)) := (HB.get 5 rfl : Blk _ _ _ _).cell (j := 0) rfl
 have BW : Blk wB W 181 (walV D R J cv) := HB.get 2 rfl
 have BD : Blk wB D 115 (devV b J.slot J.br) := HB.get 1 rfl
 have k0 : wB.cell? ⟨W, 0, none⟩ = some (.pointer (some ⟨D, 0, none⟩)) := BW.cell (j := 0) rfl
 have k1 : wB.cell? ⟨W, 1, none⟩ = some (.int .u64 (J.ep : Int)) := BW.cell (j := 1) rfl
 have k3 : wB.cell? ⟨W, 3, none⟩ = some (.int .u64 (J.next : Int)) := BW.cell (j := 3) rfl
 have d2 : wB.cell? ⟨D, 2, none⟩ = some (.int .u16 ((J.br : Nat) : Int)) := BD.cell (j := 2) rfl
 rw [hbr] at d2
 obtain ⟨S, hS⟩ : ∃ S, S = Sc.secs J.ep J.next l := ⟨_, rfl⟩
 have hS1 : S.length = 2 * n + 1 := by rw [hS, Sc.secs_len, hln]
 have hS8 : Hid (∀ s ∈ S, s.length = 128 ∧ Bs s) := by rw [hS]; exact Sc.secs_ok g2
 -- what the call of Sectors gives, where the variable is made behind it, and where it is made ahead
 have SC : Hid (∀ X, Chg [] wB X → Calls Tryz.prog 103 #[.int .u64 (J.ep : Int), .agg #[.int .u64 (J.next : Int), .slice vo ds.length vc]] X fun e w' => ∃ lo lc vs, e = .returned (.tuple #[.slice lo (2 * n + 1) lc, .int .u16 0]) ∧
  Hid (vs.map (·.2) = S.map ub) ∧ Hid (Side w0 w' (jts b W D R J cv y F (wideT 1 65 (.slice lo (2 * n + 1) lc) (rwSlots vs) :: poolT vs :: blkT w.heap.size 32 [.pointer (some ⟨W, 0, none⟩)] :: ts)))) := fun X C => by
  refine (sectors_ok J.ep J.next _ ds X (hv.chg (CB.trans C)) hb h0).mono ?_
  rintro e w' ⟨lv, vs, h1, h2, h3⟩
  rw [← hl0, ← hS] at h2
  have hvl : vs.length = 2 * n + 1 := by have := congrArg List.length h2.out; rw [List.length_map, List.length_map] at this; omega
  obtain ⟨p, hp⟩ : ∃ p, vs[0]? = some p := ⟨_, List.getElem?_eq_getElem (by omega)⟩
  obtain ⟨g, m, c, rfl, hm, _, _⟩ := rows_cell (j := 0) (h3.out) (i := 0) rfl hp
  rw [hvl] at hm
  subst hm
  exact ⟨_, c, vs, h1, h2, ((HB.quiet C).stack h3.out).perm (by
   show ([_, _] ++ ([_, _, _, _, _] ++ _)).Perm ([_, _, _, _, _] ++ ([_, _] ++ _))
   rw [← List.append_assoc, ← List.append_assoc]
   exact List.Perm.append_right _ List.perm_append_comm)⟩
 have SC2 : Hid (∀ X, Chg [] wB X → ∀ p, Side w0 X (blkT p 43 [.slice none 0 0] :: jts b W D R J cv y F (blkT w.heap.size 32 [.pointer (some ⟨W, 0, none⟩)] :: ts)) → Calls Tryz.prog 103 #[.int .u64 (J.ep : Int), .agg #[.int .u64 (J.next : Int), .slice vo ds.length vc]] X fun e w' => ∃ lo lc vs, e = .returned (.tuple #[.slice lo (2 * n + 1) lc, .int .u16 0]) ∧
  Hid (vs.map (·.2) = S.map ub) ∧ Hid (Side w0 w' (blkT p 43 [.slice none 0 0] :: jts b W D R J cv y F (wideT 1 65 (.slice lo (2 * n + 1) lc) (rwSlots vs) :: poolT vs :: blkT w.heap.size 32 [.pointer (some ⟨W, 0, none⟩)] :: ts)))) := fun X C p hX => by
  refine (sectors_ok J.ep J.next _ ds X (hv.chg (CB.trans C)) hb h0).mono ?_
  rintro e w' ⟨lv, vs, h1, h2, h3⟩
  rw [← hl0, ← hS] at h2
  have hvl : vs.length = 2 * n + 1 := by have := congrArg List.length h2.out; rw [List.length_map, List.length_map] at this; omega
  obtain ⟨p, hp⟩ : ∃ p, vs[0]? = some p := ⟨_, List.getElem?_eq_getElem (by omega)⟩
  obtain ⟨g, m, c, rfl, hm, _, _⟩ := rows_cell (j := 0) (h3.out) (i := 0) rfl hp
  rw [hvl] at hm
  subst hm
  exact ⟨_, c, vs, h1, h2, (hX.stack h3.out).perm (by
   show ([_, _] ++ ([_, _, _, _, _, _] ++ _)).Perm ([_, _, _, _, _, _] ++ ([_, _] ++ _))
   rw [← List.append_assoc, ← List.append_assoc]
   exact List.Perm.append_right _ List.perm_append_comm)⟩
 have KS : Hid (∀ X ts', Side w0 X (jts b W D R J cv y F ts') → Blk X W 181 (walV D R J cv) ∧ RingB X R J.S J.t J.u) := fun X ts' h => ⟨h.get 2 rfl, h.get 3 rfl⟩
 have KT : Hid (∀ X, Blk X W 181 (walV D R J cv) → X.cell? ⟨W, 0, none⟩ = some (.pointer (some ⟨D, 0, none⟩)) ∧ X.cell? ⟨W, 1, none⟩ = some (.int .u64 (J.ep : Int)) ∧ X.cell? ⟨W, 3, none⟩ = some (.int .u64 (J.next : Int)) ∧ X.cell? ⟨W, 2, none⟩ = some (.pointer (some ⟨R, 0, none⟩))) := fun X h => ⟨h.cell (j := 0) rfl, h.cell (j := 1) rfl, h.cell (j := 3) rfl, h.cell (j := 2) rfl⟩
 have KA : Hid (∀ X ts', Side w0 X (jts b W D R J cv y F (ts' ++ blkT w.heap.size 32 [.pointer (some ⟨W, 0, none⟩)] :: ts)) → X.cell? ⟨w.heap.size, 0, none⟩ = some (.pointer (some ⟨W, 0, none⟩)) ∧ X.cell? ⟨W, 1, none⟩ = some (.int .u64 (J.ep : Int)) ∧ X.cell? ⟨W, 3, none⟩ = some (.int .u64 (J.next : Int))) := fun X ts' h => by
  have q := KT.out X (h.get 2 rfl)
  have hm : blkT w.heap.size 32 [.pointer (some ⟨W, 0, none⟩)] ∈ jts b W D R J cv y F (ts' ++ blkT w.heap.size 32 [.pointer (some ⟨W, 0, none⟩)] :: ts) := by simp
  exact ⟨(h.each _ hm : Blk _ _ _ _).cell (j := 0) rfl, q.2.1, q.2.2.1⟩
 have FIN : Hid (∀ X ts' m, Side w0 X (jts b W D R J cv y F (ts' ++ blkT w.heap.size 32 [.pointer (some ⟨W, 0, none⟩)] :: ts)) → ∃ F' cv', Hid (Side w0 (X.drewN m) (jts b W D R J cv' y F' ts))) := fun X ts' m h => by
  refine ⟨F, cv, (h.quiet ((Chg.refl [] X).drewN m)).sub ?_⟩
  exact .cons_cons _ (.cons_cons _ (.cons_cons _ (.cons_cons _ (.cons_cons _ ((List.sublist_cons_self _ _).trans (List.sublist_append_right _ _))))))
 have RG := Lib.hid hf.rg
 obtain ⟨CI, hCI⟩ : ∃ CI, CI = ((2 * n + 1 : Nat) : Int) := ⟨_, rfl⟩
 have CO : Hid (∀ X, Calls Tryz.prog 26 #[.int .i64 (ds.length : Int)] X fun e w' => e = .returned (.int .i64 CI) ∧ w' = X) := fun X => by rw [hCI, ← hn]; exact cost_ok n X n1 n2
 have HF := Lib.hid hf
 have HHL := Lib.hid hl
 have HHS := Lib.hid hs
 have HBR := Lib.hid hbr
 have HH0 := Lib.hid h0
 have HLN := Lib.hid hln
 have HL0 := Lib.hid hl0
 have HCI := Lib.hid hCI
 have HS1 := Lib.hid hS1
 have HSE := Lib.hid hS
 have HN := Lib.hid n1
 have HN2 := Lib.hid n2
 have OUTA : Hid (J.S < 2 * n + 1 → Wl.logJ y J (scErr J.ep J.next ds) (ds.map pdOf) = ⟨122, y, J⟩) := fun h => by
  have e1 : Wl.logErr J (scErr J.ep J.next ds) (ds.map pdOf).length = 122 := by unfold Wl.logErr; rw [if_neg (fun q => q hbr), if_neg (fun q => q h0), if_pos (by rw [List.length_map, ← hn]; exact h)]
  unfold Wl.logJ
  rw [e1, if_pos (by decide)]
 have OUTB : Hid (¬ J.S < 2 * n + 1 → J.S - J.u < 2 * n + 1 → Wl.logJ y J (scErr J.ep J.next ds) (ds.map pdOf) = ⟨121, y, J⟩) := fun h h' => by
  have e1 : Wl.logErr J (scErr J.ep J.next ds) (ds.map pdOf).length = 121 := by unfold Wl.logErr; rw [if_neg (fun q => q hbr), if_neg (fun q => q h0), if_neg (by rw [List.length_map, ← hn]; exact h), if_pos (by rw [List.length_map, ← hn]; exact h')]
  unfold Wl.logJ
  rw [e1, if_pos (by decide)]
 have OUTC : Hid (¬ J.S < 2 * n + 1 → ¬ J.S - J.u < 2 * n + 1 → Wl.logJ y J (scErr J.ep J.next ds) (ds.map pdOf) = Wl.ends (Wl.logIo y J l) J (Wl.logged J l)) := fun h h' => by
  have e1 : Wl.logErr J (scErr J.ep J.next ds) (ds.map pdOf).length = 0 := by unfold Wl.logErr; rw [if_neg (fun q => q hbr), if_neg (fun q => q h0), if_neg (by rw [List.length_map, ← hn]; exact h), if_neg (by rw [List.length_map, ← hn]; exact h')]
  unfold Wl.logJ
  rw [e1, if_neg (fun q => q rfl), hl0]
 obtain ⟨OUT, hOUT⟩ : ∃ OUT, OUT = Wl.logJ y J (scErr J.ep J.next ds) (ds.map pdOf) := ⟨_, rfl⟩
 rw [← hOUT] at OUTA OUTB OUTC ⊢
 have KB : Hid (wB.cell? ⟨w.heap.size, 0, none⟩ = some (.pointer (some ⟨W, 0, none⟩)) ∧ wB.cell? ⟨W, 1, none⟩ = some (.int .u64 (J.ep : Int)) ∧ wB.cell? ⟨W, 3, none⟩ = some (.int .u64 (J.next : Int))) := ⟨q0, k1, k3⟩
 have HA := Lib.hid (HB.newBlk 43 [.slice none 0 0])
 have SCA := Lib.hid (SC2.out ((wB.alloc (.cells #[.slice none 0 0] 43)).drew) (((Chg.refl _ _).alloc _).drew) _ (HA.out.quiet ((Chg.refl _ _).drew)))
 have SCB := Lib.hid (SC.out wB.drew ((Chg.refl _ _).drew))
 have KAA := Lib.hid (KA.out _ [] HA.out.tail)
 rw [hwB] at q0 k0 k1 k3 d2 SCA SCB KB KAA
 clear H HB HA hs hl BW BD hbr hf CB hv hb h0 hwB hln hl0 hCI hS1 hS hOUT SC SC2 n1 n2 hn g1 g2
 generalize (ds.length : Nat) = LN at *
 generalize (J.ep : Int) = EP at *
 generalize (J.next : Int) = NX at *
 go_enter Tryz.func30, Tryz.ntmps30
 go_wp2_with fail
 generalize (w.alloc (.cells #[.pointer (some ⟨W, 0, none⟩)] 32)) = wC at *
 go_region_held3 (fun w' : World => w'.cell? ⟨w.heap.size, 0, none⟩ = some (.pointer (some ⟨W, 0, none⟩)) ∧ w'.cell? ⟨W, 1, none⟩ = some (.int .u64 EP) ∧ w'.cell? ⟨W, 3, none⟩ = some (.int .u64 NX)) (first | exact ⟨q0, k1, k3⟩ | exact KB.out | exact KAA.out | exact K1.out | exact K2.out | exact K3.out) (first
  | (go_at_call 103; refine SCB.out.mono ?_; rintro e w1 ⟨lo, lc, vs, rfl, hvs, h⟩; have K1 := Lib.hid (KA.out _ [_, _] h.out); have K2 := Lib.hid (KA.out _ [_, _] (h.out.newBlk 43 [.slice none 0 0]).tail); have hX := Lib.hid ((h.out.newBlk 43 [.slice lo (2 * n + 1) lc]).tuck); have K3 := Lib.hid (KA.out _ [_, _, _] hX.out))
  | (go_at_call 103; refine SCA.out.mono ?_; rintro e w1 ⟨lo, lc, vs, rfl, hvs, h⟩; have K1 := Lib.hid (KA.out _ [_, _] h.out.tail); have c5 := (h.out.get 0 rfl : Blk _ _ _ _).cell (j := 0) rfl; have f5 := (h.out.get 0 rfl : Blk _ _ _ _).free 0; have hX := Lib.hid ((h.out.blkSet 0 rfl 0 (.slice lo (2 * n + 1) lc)).tuck); have K3 := Lib.hid (KA.out _ [_, _, _] hX.out)))
 all_goals (clear SCA SCB KB KAA K1 K3 q0 k0 k1 k3 d2 h)
 all_goals first
  | (have hX2 : Hid (Side w0 (w1.alloc (.cells #[.slice lo (2 * n + 1) lc] 43)) _) := hX
     clear hX2
     generalize (w1.alloc (.cells #[.slice lo (2 * n + 1) lc] 43)) = X at *
     generalize w1.heap.size = p at *)
  | (generalize (w1.setCell ⟨wC.heap.size, 0, none⟩ (.slice lo (2 * n + 1) lc)) = X at *
     generalize wC.heap.size = p at *)
 all_goals
  try clear K2
  try clear c5
  try clear f5
  replace hX : Hid (Side w0 X (jts b W D R J cv y F (blkT p 43 [.slice lo (2 * n + 1) lc] :: wideT 1 65 (.slice lo (2 * n + 1) lc) (rwSlots vs) :: poolT vs :: blkT w.heap.size 32 [.pointer (some ⟨W, 0, none⟩)] :: ts))) := hX
  obtain ⟨bX, rX⟩ := KS.out _ _ hX.out
  obtain ⟨x0, x1, x3, x2⟩ := KT.out _ bX
  have xq : X.cell? ⟨w.heap.size, 0, none⟩ = some (.pointer (some ⟨W, 0, none⟩)) := (hX.out.get 8 rfl : Blk _ _ _ _).cell (j := 0) rfl
  have hX7 := Lib.hid (hX.out.behind 3 [.int .i64 CI])
  go_wp2_with (go_at_call 26; refine (CO.out _).mono ?_; rintro e w2 ⟨rfl, hw2⟩; subst hw2)
  clear CO bX rX x0 x1 x3 x2 xq hX
  generalize (w2.alloc (.cells #[.int .i64 CI] 3)) = X7 at *
  generalize w2.heap.size = p7 at *
  obtain ⟨b7, r7⟩ := KS.out _ _ hX7.out
  obtain ⟨x0, x1, x3, x2⟩ := KT.out _ b7
  have xq : X7.cell? ⟨w.heap.size, 0, none⟩ = some (.pointer (some ⟨W, 0, none⟩)) := (hX7.out.get 9 rfl : Blk _ _ _ _).cell (j := 0) rfl
  have x7 : X7.cell? ⟨p7, 0, none⟩ = some (.int .i64 CI) := (hX7.out.get 5 rfl : Blk _ _ _ _).cell (j := 0) rfl
  have s1 : Hid (∀ m, Calls Tryz.prog 104 #[.pointer (some ⟨R, 0, none⟩)] (X7.drewN m) fun e w' => e = .returned (.int .i64 (J.S : Int)) ∧ ∃ q, w' = (X7.drewN m).drewN q) := fun m => size_still RG.out _ (Blk.drewN r7 m)
  have DA : Hid ((J.S : Int) < CI → OUT = ⟨122, y, J⟩) := fun h => OUTA.out (by rw [HCI.out] at h; omega)
  have DB : Hid (¬ (J.S : Int) < CI → ((J.S - J.u : Nat) : Int) < CI → OUT = ⟨121, y, J⟩) := fun h h' => OUTB.out (by rw [HCI.out] at h; omega) (by rw [HCI.out] at h'; omega)
  have DC : Hid (¬ (J.S : Int) < CI → ¬ ((J.S - J.u : Nat) : Int) < CI → OUT = Wl.ends (Wl.logIo y J l) J (Wl.logged J l) ∧ J.u + (2 * n + 1) ≤ J.S) := fun h h' => ⟨OUTC.out (by rw [HCI.out] at h; omega) (by rw [HCI.out] at h'; omega), by rw [HCI.out] at h'; have := HF.out.used; omega⟩
  have hFN := Lib.hid (fun m => FIN.out X7 [_, _, _, _] m hX7.out)
  have s2f : Hid (∀ Z, RingB Z R J.S J.t J.u → ∀ m, Calls Tryz.prog 105 #[.pointer (some ⟨R, 0, none⟩)] (Z.drewN m) fun e w' => e = .returned (.int .i64 ((J.S - J.u : Nat) : Int)) ∧ ∃ q, w' = (Z.drewN m).drewN q) := fun Z r m => free_still RG.out _ (Blk.drewN r m)
  have KSR : Hid (∀ X ts', Side w0 X (jts b W D R J cv y F ts') → RingB X R J.S J.t J.u) := fun X ts' h => h.get 3 rfl
  clear OUTA OUTB OUTC r7 b7
  generalize (J.S : Int) = SI at *
  generalize ((J.S - J.u : Nat) : Int) = FI at *
  go_quiet (first | (go_at_call 104; exact Calls.quiet_of (s1.out _)))
  clear s1
  by_cases hA : SI < CI
  ·have e := DA.out hA
   subst e
   clear DA DB DC s2f hX7 KSR
   go_wp2_with fail
   go_ret
   exact ⟨rfl, hFN.out _⟩
  go_wp2_with fail
  replace hX7 := Lib.hid (hX7.out.quiet ((Chg.refl [] X7).drewN nq))
  clear hFN x0 x1 x3 x2 xq x7
  generalize (X7.drewN nq) = X9 at *
  have s2 := Lib.hid (s2f.out X9 (KSR.out _ _ hX7.out))
  have b9 := (KS.out _ _ hX7.out).1
  obtain ⟨x0, x1, x3, x2⟩ := KT.out _ b9
  have xq : X9.cell? ⟨w.heap.size, 0, none⟩ = some (.pointer (some ⟨W, 0, none⟩)) := (hX7.out.get 9 rfl : Blk _ _ _ _).cell (j := 0) rfl
  have x7 : X9.cell? ⟨p7, 0, none⟩ = some (.int .i64 CI) := (hX7.out.get 5 rfl : Blk _ _ _ _).cell (j := 0) rfl
  have hFN := Lib.hid (fun m => FIN.out X9 [_, _, _, _] m hX7.out)
  clear s2f KSR b9
  go_quiet (first | (go_at_call 105; exact Calls.quiet_of (s2.out _)))
  clear s2
  by_cases hB : FI < CI
  ·have e := DB.out hA hB
   subst e
   clear DA DB DC hX7
   go_wp2_with fail
   go_ret
   exact ⟨rfl, hFN.out _⟩
  obtain ⟨eOUT, hfit⟩ := DC.out (by omega) (by omega)
  subst eOUT
  clear DA DB DC hFN
  replace hX7 := Lib.hid (hX7.out.quiet ((Chg.refl [] X9).drewN nq))
  clear x0 x1 x3 x2 xq x7
  generalize (X9.drewN nq) = X at *
  obtain ⟨M, hM⟩ : ∃ M, M = 2 * n := ⟨_, rfl⟩
  have hvl : vs.length = 2 * n + 1 := by have := congrArg List.length hvs.out; rw [List.length_map, List.length_map] at this; have := HS1.out; omega
  obtain ⟨r0, hr0⟩ : ∃ r, vs[0]? = some r := ⟨_, List.getElem?_eq_getElem (by omega)⟩
  obtain ⟨g, m0, c0, elv, hm0, hcap, _⟩ := rows_cell (j := 0) hX7.out (i := 7) rfl hr0
  injection elv with e1 e2 e3
  subst e1
  rw [← e3, hm0, hvl] at hcap
  clear e2 e3 hm0 c0 m0
  have hsub : CI - 1 = (M : Int) := by rw [HCI.out, hM]; push_cast; omega
  have HN2' := HN2.out
  obtain ⟨wr1, wr2⟩ := wrap_in (z := (M : Int)) (by omega) (by omega)
  have hMc : M ≤ lc := by omega
  have hMc' : (M : Int) ≤ (lc : Int) := by omega
  have hM0 : (0 : Int) ≤ (M : Int) := by omega
  have hX8 := Lib.hid (hX7.out.behind 3 [.int .i64 (M : Int)])
  have xp : (X.alloc (.cells #[.int .i64 (M : Int)] 3)).cell? ⟨p, 0, none⟩ = some (.slice (some ⟨g, 0, none⟩) (2 * n + 1) lc) := (hX8.out.get 7 rfl : Blk _ _ _ _).cell (j := 0) rfl
  have x8 : (X.alloc (.cells #[.int .i64 (M : Int)] 3)).cell? ⟨X.heap.size, 0, none⟩ = some (.int .i64 (M : Int)) := (hX8.out.get 5 rfl : Blk _ _ _ _).cell (j := 0) rfl
  have x7 : X.cell? ⟨p7, 0, none⟩ = some (.int .i64 CI) := (hX7.out.get 5 rfl : Blk _ _ _ _).cell (j := 0) rfl
  replace hM := Lib.hid hM
  replace hvl := Lib.hid hvl
  have HFT := Lib.hid hfit
  clear hX7 hr0 HN2' hcap hfit
  go_wp2_with fail
  have KW : Hid (∀ k : Nat, k < M → IntKind.i64.wrap ((k : Int) + 1) = (k : Int) + 1 ∧ wrap64 ((k : Int) + 1) = (k : Int) + 1) := fun k hk => wrap_in (by omega) (by have := hM.out; have := HN2.out; omega)
  have KM : Hid (∀ k : Nat, k < M → M - (intOf (.int .i64 ((k : Int) + 1))).toNat < M - (intOf (.int .i64 (k : Int))).toNat) := fun k hk => by simp [intOf]; omega
  have KE : Hid (∀ k : Nat, k ≤ M → ¬ k < M → k = M) := fun k h h' => by omega
  have HM1 : Hid (2 * n + 1 = M + 1) := by show 2 * n + 1 = M + 1; rw [hM.out]
  have HML : Hid (M = 2 * l.length) := by show M = _; rw [hM.out, HLN.out]
  have HCL : Hid (CI = ((2 * l.length + 1 : Nat) : Int)) := by show CI = _; rw [HCI.out, HLN.out]
  have hmf : ∀ (fn : Fn) (first cap : Array Value) (w : World), (Instr.makeFunc fn first cap).run Tryz.prog w = .ok (.func fn first cap) w := fun _ _ _ _ => rfl
  have Z0 : Hid (Wl.wrs J.slot (y, J.br) (J.puts (S.take 0)) = (y, J.br)) := rfl
  generalize (X.alloc (.cells #[.int .i64 (M : Int)] 3)) = X8 at *
  generalize X.heap.size = p8 at *
  obtain ⟨QT, hQT⟩ : ∃ QT, QT = blkT p8 3 [.int .i64 (M : Int)] :: blkT p7 3 [.int .i64 CI] :: blkT p 43 [.slice (some ⟨g, 0, none⟩) (2 * n + 1) lc] :: wideT 1 65 (.slice (some ⟨g, 0, none⟩) (2 * n + 1) lc) (rwSlots vs) :: poolT vs :: blkT w.heap.size 32 [.pointer (some ⟨W, 0, none⟩)] :: ts := ⟨_, rfl⟩
  rw [← hQT] at hX8
  have HQT := Lib.hid hQT
  clear hQT x8 xp x7 hA hB hMc hMc' hsub wr1 wr2 FIN KA KS KT
  go_loopw [66] (fun i wr => ∃ k : Nat, k ≤ M ∧ i = .int .i64 k ∧ ∃ F', Hid (Side w0 wr (dts b D J.slot (Wl.wrs J.slot (y, J.br) (J.puts (S.take k))) F' (walT W D R J cv :: ringT R J.S J.t J.u :: comT cv J.commit :: QT)))) (fun i _ => M - (intOf i).toNat)
  case atStart => exact ⟨0, Nat.zero_le _, rfl, F, by rw [Z0.out]; exact hX8⟩
  case round =>
   obtain ⟨k, hk, rfl, F', Hk⟩ := hrel
   clear hX8 Z0
   have hk0 : (0 : Int) ≤ k := Int.natCast_nonneg _
   obtain ⟨io, hio⟩ : ∃ io, io = Wl.wrs J.slot (y, J.br) (J.puts (S.take k)) := ⟨_, rfl⟩
   rw [← hio] at Hk
   have HK2 : Hid (Side w0 wr (dts b D J.slot io F' (walT W D R J cv :: ringT R J.S J.t J.u :: comT cv J.commit :: blkT p8 3 [.int .i64 (M : Int)] :: blkT p7 3 [.int .i64 CI] :: blkT p 43 [.slice (some ⟨g, 0, none⟩) (2 * n + 1) lc] :: wideT 1 65 (.slice (some ⟨g, 0, none⟩) (2 * n + 1) lc) (rwSlots vs) :: poolT vs :: blkT w.heap.size 32 [.pointer (some ⟨W, 0, none⟩)] :: ts))) := by
    have := Hk.out
    rw [HQT.out] at this
    exact this
   have xq : wr.cell? ⟨w.heap.size, 0, none⟩ = some (.pointer (some ⟨W, 0, none⟩)) := (HK2.out.get 10 rfl : Blk _ _ _ _).cell (j := 0) rfl
   have xw0 : wr.cell? ⟨W, 0, none⟩ = some (.pointer (some ⟨D, 0, none⟩)) := (HK2.out.get 2 rfl : Blk _ _ _ (walV D R J cv)).cell (j := 0) rfl
   have LOW : Hid (io.1.Low 1000000000) := by
    rw [hio]
    refine (Wl.wrs_low _ HHL.out).mono ?_
    have : (J.puts (S.take k)).length ≤ S.length := by unfold Wl.Jn.puts; rw [List.length_mapIdx, List.length_take]; omega
    have := HS1.out
    have := HN2.out
    omega
   by_cases hlt : k < M
   ·have hk1 : (k : Int) < M := by omega
    obtain ⟨kw1, kw2⟩ := KW.out k hlt
    have hkS : k < S.length := by have := HS1.out; have := hM.out; omega
    have hkn : (k : Int) < ((2 * n + 1 : Nat) : Int) := by have := hM.out; omega
    have hku : J.u + k < J.S := by have := HFT.out; have := hM.out; omega
    obtain ⟨ro, rn, rc, cg, LY⟩ := lay_round HK2.out RG.out HHS.out LOW.out hku hkS hvs.out hS8.out hio
    rw [← HQT.out] at LY
    clear Hk HK2 hio LOW hkS hku
    go_wp2_with (go_at_call 106; refine LY.out.mono ?_; rintro e w' ⟨rfl, F'', h⟩; clear LY)
    exact ⟨⟨k + 1, hlt, by go_num, F'', h⟩, KM.out k hlt⟩
   ·have hkM : k = M := KE.out k hk hlt
    subst hkM
    have EN := Lib.hid (log_end (l := l) (by rw [hio, HM1.out] at HK2; exact HK2.out) HHS.out (by rw [hio] at LOW; exact LOW.out) HML.out HCL.out HSE.out hvs.out)
    clear Hk HK2 hio LOW
    go_wp2_with (first
     | (go_at_call 107; refine EN.out.mono ?_; rintro e w1 ⟨rfl, z0, z1, TN⟩; clear EN xw0 xq)
     | (go_at_call 108; refine TN.out.mono ?_; rintro e w2 ⟨rfl, A⟩; replace A := Lib.hid A; clear TN z0 z1))
    go_ret
    exact ⟨rfl, A.out⟩

theorem wlog_any {w0 w : World} {b W D R : Nat} {J : Wl.Jn} {cv : Value} {y : Bay} {F : List Nat} {ts : List Thing} (H : Side w0 w (jts b W D R J cv y F ts)) (hf : J.Fit) (hs : I64 J.slot) (hl : y.Low 999990000)
 (v : Value) (ds : List PtD) (hv : Pts w v ds) (hb : ∀ d ∈ ds, By d.d ∧ Cap d.v) :
 Calls Tryz.prog 30 #[.pointer (some ⟨W, 0, none⟩), v] w (AnsL w0 b W D R ts (Wl.logJ y J (scErr J.ep J.next ds) (ds.map pdOf))) := by
 by_cases h1 : J.br = 0
 ·by_cases h2 : scErr J.ep J.next ds = 0
  ·exact wlog_ok H hf hs hl v ds hv hb h1 h2
  ·exact wlog_no H hf hs hl v ds hv (.inr h2)
 ·exact wlog_no H hf hs hl v ds hv (.inl h1)

end Go.Proofs.YtkafkdlgflkjgaaGreat
