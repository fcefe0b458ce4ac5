/-
  The document's Sectors. By an AI agent.
-/
import Derived.Test.YtnkdgmnmmmjgjaaGreatScChk
import Derived.Test.YtnkdgmnmmmjgjaaGreatRcEnc
import Derived.Test.YtnkdgmnmmmjgjaaGreatRcEsc
import Derived.Test.YtnkdgmnmmmjgjaaGreatRefCrc
import Derived.Deep.CutBlock
import Derived.Deep.CutRange
namespace Go.Proofs.YtnkdgmnmmmjgjaaGreat
open Crc Go.RowKit

theorem any_take' {f : PtD → Bool} {ds : List PtD} {k : Nat} {d : PtD} (hd : ds[k]? = some d) : (ds.take (k + 1)).any f = ((ds.take k).any f || f d) := by
  rw [take_snoc hd, List.any_append]
  simp

theorem hcat_len (ep sq : Nat) (l : List Pd) : ∀ k, (Sc.hcat ep sq l k).length = 128 * k
  | 0 => rfl
  | k + 1 => by rw [Sc.hcat_succ, List.length_append, hcat_len ep sq l k, Sc.hsec, (hdOf_rec_len _ _ _ _ _).1]; omega

/-- One row of cells of its own has more. -/
theorem own_more {w0 w1 wn : World} {ts : List Thing} {n : Nat} {e : TypeId} {v vn : Value} {xs news : List Value} (h : Side w0 w1 ts) (i : Nat) (hi : ts[i]? = some (ownT e v xs)) (c : Chg v.ownBlock.toList w1 wn)
    (ol : wn.ownsRow 0 e 1 vn n (xs ++ news)) (nb : ∀ k, vn.ownBlock = some k → v.ownBlock = some k ∨ w1.heap.size ≤ k) : Side w0 wn (ts.set i (ownT e vn (xs ++ news))) := by
  have hn : (xs ++ news).length = n := owns_len ol
  subst hn
  refine h.turnAt i hi c (fun k hk => .inl hk) ol (fun k hk => ?_)
  have hk' : vn.ownBlock = some k := by simpa [ownT] using hk
  rcases nb k hk' with q | q
  · exact .inl (by show k ∈ v.ownBlock.toList; simp [q])
  · exact .inr q

/-- Rows more, beside other things. -/
theorem rows_more {w0 w1 wn : World} {n : Nat} {lv lvn : Value} {vs us : List Rw} {ts : List Thing} (h : Side w0 w1 (poolT us :: wideT 1 55 lv (rwSlots vs) :: poolT vs :: ts)) (c : Chg lv.ownBlock.toList w1 wn) (hn : n = vs.length + us.length) (ol : wn.ownsRow 0 55 1 lvn n (vs.map (·.1) ++ us.map (·.1))) (nb : ∀ k, lvn.ownBlock = some k → lv.ownBlock = some k ∨ w1.heap.size ≤ k) :
    Side w0 wn (wideT 1 55 lvn (rwSlots (vs ++ us)) :: poolT (vs ++ us) :: ts) := by
  have h1 : Side w0 w1 (wideT 1 55 lv (rwSlots vs) :: poolT us :: poolT vs :: ts) := h.front 1
  have h2 := more_wides (X := rwSlots us) h1 (rwSlots_slots us) c (by simp [rwSlots]; exact hn) (by rw [rwSlots_flat, rwSlots_flat]; exact ol) nb
  have h3 : Side w0 wn (poolT us :: poolT vs :: wideT 1 55 lvn (rwSlots vs ++ rwSlots us) :: ts) := ((h2.front 1).front 2).front 1
  have h4 := h3.poolJoin
  have e : rwSlots (vs ++ us) = rwSlots vs ++ rwSlots us := by simp [rwSlots]
  rw [e]
  exact h4.front 1

theorem ub_app (a b : List Nat) : ub (a ++ b) = ub a ++ ub b := by unfold ub ints; rw [List.map_append, List.map_append]

def RSecGives (w : World) (ep sq : Nat) (l : List Pd) (e : Ending) (w' : World) : Prop := ∃ lv vs, e = .returned (.tuple #[lv, .int .i64 0]) ∧ Hid (vs.map (·.2) = (Sc.secs ep sq l).map ub) ∧ Hid (Side w w' (rowsTs lv vs))

def RSecAny (w : World) (ep sq : Nat) (ds : List PtD) (e : Ending) (w' : World) : Prop :=
  (scErr ep sq ds ≠ 0 ∧ e = .returned (.tuple #[.slice none 0 0, .int .i64 (scErr ep sq ds)]) ∧ Hid (Chg [] w w')) ∨ (scErr ep sq ds = 0 ∧ RSecGives w ep sq (ds.map pdOf) e w')

set_option maxHeartbeats 8000000 in
set_option maxRecDepth 100000 in
theorem refSectors_any (ep sq : Nat) (v : Value) (ds : List PtD) (w : World) (h : Pts w v ds) (hb : ∀ d ∈ ds, By d.d ∧ Cap d.v) : Calls Tryz.prog 10 #[.int .u64 (ep : Int), .agg #[.int .u64 (sq : Int), v]] w (RSecAny w ep sq ds) := by
  obtain ⟨ao, vc, rfl⟩ := h.slice
  have big := h.len
  have HP : Hid (∀ w', Chg [] w w' → Pts w' (.slice ao ds.length vc) ds) := fun w' c => h.chg c
  have HB := Lib.hid hb
  obtain ⟨N, hN⟩ : ∃ N, N = ds.length := ⟨_, rfl⟩
  rw [← hN] at big HP ⊢
  have HNN := Lib.hid hN
  clear h hb hN
  have W0 : Hid (∀ w', Chg [] (w.alloc (.cells #[.int .u64 (sq : Int), .slice ao N vc] 25)) w' → w'.cell? ⟨w.heap.size, 0, none⟩ = some (.int .u64 (sq : Int)) ∧ w'.cell? ⟨w.heap.size, 1, none⟩ = some (.slice ao N vc) ∧ Chg [] w w') := fun w' c =>
    ⟨((Blk.made w _ _).chg c (by simp)).cell (j := 0) rfl, ((Blk.made w _ _).chg c (by simp)).cell (j := 1) rfl, ((Chg.refl _ _).alloc _).trans c⟩
  obtain ⟨wb, hwb⟩ : ∃ wb, wb = (w.alloc (.cells #[.int .u64 (sq : Int), .slice ao N vc] 25)) := ⟨_, rfl⟩
  rw [← hwb] at W0
  have CB : Hid (Chg [] w wb) := by rw [hwb]; exact (Chg.refl _ _).alloc _
  obtain ⟨tb, htb⟩ : ∃ tb, tb = w.heap.size := ⟨_, rfl⟩
  rw [← htb] at W0
  obtain ⟨y0, y1, _⟩ := W0.out wb (Chg.refl _ _)
  go_enter Tryz.func10, Tryz.ntmps10
  by_cases hN : 1 ≤ N ∧ N ≤ 1023
  case neg =>
    have e1 : scErr ep sq ds = 1 := by unfold scErr; rw [if_neg (by rw [← HNN.out]; exact hN)]
    have FIN : Hid (RSecAny w ep sq ds (.returned (.tuple #[.slice none 0 0, .int .i64 1])) wb) := .inl ⟨by rw [e1]; decide, by rw [e1], CB⟩
    rw [hwb, htb] at y1
    rcases Nat.lt_or_ge N 1 with c | c
    · obtain rfl : N = 0 := by omega
      clear hN e1
      go_wp2_with fail
      go_ret2
      rw [← hwb]
      exact FIN.out
    · have c1 : ¬ (N : Int) < 1 := by omega
      have c2 : (1023 : Int) < N := by omega
      clear hN e1
      go_wp2_with fail
      go_ret2
      rw [← hwb]
      exact FIN.out
  obtain ⟨hN1, hN2⟩ := hN
  have c1 : ¬ (N : Int) < 1 := by omega
  have c2 : ¬ (1023 : Int) < N := by omega
  obtain ⟨F, hF⟩ : ∃ F, F = decide (farN ep sq) := ⟨_, rfl⟩
  have e2 : Hid (scErr ep sq ds = (if (F || ds.any farP) = true then 3 else if ds.any shortP = true then 4 else 0)) := by
    show _ = _
    unfold scErr
    rw [if_pos (by rw [← HNN.out]; exact ⟨hN1, hN2⟩), hF]
    by_cases c : farN ep sq
    · rw [if_pos (.inl c), decide_eq_true c, Bool.true_or, if_pos rfl]
    · rw [decide_eq_false c, Bool.false_or]
      by_cases d : ds.any farP = true
      · rw [if_pos (.inr d), if_pos d]
      · rw [if_neg (fun k => k.elim c d), if_neg d]
  rw [hwb, htb] at y1
  go_upto_region 4 with fail
  rw [← hwb, ← htb]
  rw [← hwb, ← htb] at y1
  replace hwb := Lib.hid hwb
  replace htb := Lib.hid htb
  clear c1 c2
  go_cut [7] from 33 to 44 (fun s7 wx => s7 = .bool F ∧ wb = wx)
  case first =>
    by_cases h1 : 4611686018427387904 < ep
    · have g1 : (4611686018427387904 : Int) < ep := by omega
      have hF2 : F = true := by rw [hF]; exact decide_eq_true (.inl h1)
      clear h1 hF
      go_wp2_with fail
      go_meet
      exact ⟨by rw [hF2], rfl⟩
    have g1 : ¬ (4611686018427387904 : Int) < ep := by omega
    by_cases h2 : sq < 1
    · have g2 : (sq : Int) < 1 := by omega
      have hF2 : F = true := by rw [hF]; exact decide_eq_true (.inr (.inl h2))
      clear h1 h2 hF
      go_wp2_with fail
      go_meet
      exact ⟨by rw [hF2], rfl⟩
    have g2 : ¬ (sq : Int) < 1 := by omega
    by_cases h3 : 4611686018427387904 < sq
    · have g3 : (4611686018427387904 : Int) < sq := by omega
      have hF2 : F = true := by rw [hF]; exact decide_eq_true (.inr (.inr h3))
      clear h1 h2 h3 hF
      go_wp2_with fail
      go_meet
      exact ⟨by rw [hF2], rfl⟩
    have g3 : ¬ (4611686018427387904 : Int) < sq := by omega
    have hF2 : F = false := by rw [hF]; exact decide_eq_false (fun k => by unfold farN at k; omega)
    clear h1 h2 h3 hF
    go_wp2_with fail
    go_meet
    exact ⟨by rw [hF2], rfl⟩
  case rest =>
    obtain ⟨rfl, rfl⟩ := hcut
    clear y0 y1
    go_wp2_with fail
    go_loopw [7, 8, 9] (fun fa sh i wr => ∃ k : Nat, k ≤ N ∧ i = .int .i64 k ∧ fa = .bool (F || (ds.take k).any farP) ∧ sh = .bool ((ds.take k).any shortP) ∧ Hid (Chg [] wb wr)) (fun _ _ i _ => N - (intOf i).toNat)
    case atStart => exact ⟨0, Nat.zero_le _, rfl, by simp, by simp, Chg.refl _ _⟩
    case round =>
      obtain ⟨k, hk, rfl, rfl, rfl, C⟩ := hrel
      obtain ⟨y0, y1, CW⟩ := W0.out wr C.out
      replace CW := Lib.hid CW
      obtain ⟨fb, hfb⟩ : ∃ fb, fb = (F || (ds.take k).any farP) := ⟨_, rfl⟩
      obtain ⟨sb, hsb⟩ : ∃ sb, sb = (ds.take k).any shortP := ⟨_, rfl⟩
      rw [← hfb, ← hsb]
      by_cases hlt : k < N
      · obtain ⟨x, hx⟩ : ∃ x, ds[k]? = some x := ⟨_, List.getElem?_eq_getElem (by rw [← HNN.out]; exact hlt)⟩
        obtain ⟨b, o, rfl, hbl, I⟩ := (HP.out _ CW.out).at hx
        have c0 := I.c0
        have c1 := I.c1
        have c2 := I.c2
        obtain ⟨xo, xc, hxv⟩ := I.sl.slice
        rw [hxv] at c2
        have F1 : Hid ((F || (ds.take (k + 1)).any farP) = (fb || farP x)) := by show _ = _; rw [any_take' hx, hfb, Bool.or_assoc]
        have F2 : Hid ((ds.take (k + 1)).any shortP = (sb || shortP x)) := by show _ = _; rw [any_take' hx, hsb]
        obtain ⟨xm, xr, xv, xd⟩ := x
        dsimp only at c0 c1 c2 hxv
        obtain ⟨L, hL⟩ : ∃ L, L = xd.length := ⟨_, rfl⟩
        rw [← hL] at c2
        have FP : Hid (farP ⟨xm, xr, xv, xd⟩ = decide (xm < 0 ∨ 15 < xm ∨ xr < 0 ∨ 4095 < xr)) := rfl
        have SP : Hid (shortP ⟨xm, xr, xv, xd⟩ = decide (L ≠ 128)) := by show decide (xd.length ≠ 128) = _; rw [← hL]
        clear hx hxv hL I hfb hsb
        have hi0 : (0 : Int) ≤ k := Int.natCast_nonneg _
        have hi1 : (k : Int) < N := by omega
        go_upto_region 10 with fail
        obtain ⟨wp, hwp⟩ : ∃ wp, wp = wr.alloc (.cells #[.int .i64 xm, .int .i64 xr, .slice xo L xc] 72) := ⟨_, rfl⟩
        have BP : Blk wp wr.heap.size 72 [.int .i64 xm, .int .i64 xr, .slice xo L xc] := by rw [hwp]; exact Blk.made wr _ _
        have CP : Hid (Chg [] wb wp) := by rw [hwp]; exact C.out.alloc _
        obtain ⟨pb, hpb⟩ : ∃ pb, pb = wr.heap.size := ⟨_, rfl⟩
        rw [← hpb] at BP
        rw [← hwp, ← hpb]
        have p0 := BP.cell (j := 0) rfl
        have p1 := BP.cell (j := 1) rfl
        have p2 := BP.cell (j := 2) rfl
        clear hwp hpb BP c0 c1 c2 y0 y1
        go_cut [7] from 45 to 82 (fun s7 wx => s7 = .bool (fb || farP ⟨xm, xr, xv, xd⟩) ∧ wp = wx)
        case first =>
          cases fb
          case true =>
            go_wp2_with fail
            go_meet
            exact ⟨by rw [Bool.true_or], rfl⟩
          by_cases h1 : xm < 0
          · have HQ : Hid ((false || farP ⟨xm, xr, xv, xd⟩) = true) := by show _ = _; rw [FP.out, decide_eq_true (.inl h1)]; rfl
            go_wp2_with fail
            go_meet
            exact ⟨by rw [HQ.out], rfl⟩
          by_cases h2 : 15 < xm
          · have HQ : Hid ((false || farP ⟨xm, xr, xv, xd⟩) = true) := by show _ = _; rw [FP.out, decide_eq_true (.inr (.inl h2))]; rfl
            go_wp2_with fail
            go_meet
            exact ⟨by rw [HQ.out], rfl⟩
          by_cases h3 : xr < 0
          · have HQ : Hid ((false || farP ⟨xm, xr, xv, xd⟩) = true) := by show _ = _; rw [FP.out, decide_eq_true (.inr (.inr (.inl h3)))]; rfl
            go_wp2_with fail
            go_meet
            exact ⟨by rw [HQ.out], rfl⟩
          by_cases h4 : 4095 < xr
          · have HQ : Hid ((false || farP ⟨xm, xr, xv, xd⟩) = true) := by show _ = _; rw [FP.out, decide_eq_true (.inr (.inr (.inr h4)))]; rfl
            go_wp2_with fail
            go_meet
            exact ⟨by rw [HQ.out], rfl⟩
          have HQ : Hid ((false || farP ⟨xm, xr, xv, xd⟩) = false) := by show _ = _; rw [FP.out, decide_eq_false (by omega)]; rfl
          go_wp2_with fail
          go_meet
          exact ⟨by rw [HQ.out], rfl⟩
        case rest =>
          obtain ⟨rfl, rfl⟩ := hcut
          clear p0 p1
          cases sb
          case true =>
            go_wp2_with fail
            exact ⟨⟨k + 1, by omega, by go_num, by rw [F1.out], by rw [F2.out]; rfl, CP⟩, by simp [intOf]; omega⟩
          by_cases h1 : L = 128
          · have hs : shortP ⟨xm, xr, xv, xd⟩ = false := by rw [SP.out]; simp [h1]
            subst h1
            go_wp2_with fail
            exact ⟨⟨k + 1, by omega, by go_num, by rw [F1.out], by rw [F2.out, hs]; rfl, CP⟩, by simp [intOf]; omega⟩
          · have hs : shortP ⟨xm, xr, xv, xd⟩ = true := by rw [SP.out]; simp [h1]
            have h2 : ((L : Int) != 128) = true := by simp; omega
            go_wp2_with fail
            exact ⟨⟨k + 1, by omega, by go_num, by rw [F1.out], by rw [F2.out, hs]; rfl, CP⟩, by simp [intOf]; omega⟩
      · obtain rfl : k = N := by omega
        have hta : ds.take k = ds := by rw [HNN.out]; exact List.take_length
        rw [hta] at hfb hsb
        rw [← hfb, ← hsb] at e2
        have HN1 : 1 ≤ k := hN1
        clear hlt hk hfb hsb hta
        cases fb
        case true =>
          have FIN : Hid (RSecAny w ep sq ds (.returned (.tuple #[.slice none 0 0, .int .i64 3])) wr) := .inl ⟨by rw [e2.out]; simp, by rw [e2.out]; rfl, CW⟩
          go_wp2_with fail
          go_ret2
          exact FIN.out
        cases sb
        case true =>
          have FIN : Hid (RSecAny w ep sq ds (.returned (.tuple #[.slice none 0 0, .int .i64 4])) wr) := .inl ⟨by rw [e2.out]; simp, by rw [e2.out]; rfl, CW⟩
          go_wp2_with fail
          go_ret2
          exact FIN.out
        have h0 : scErr ep sq ds = 0 := by rw [e2.out]; rfl
        obtain ⟨nums, good, is⟩ := scErr_zero h0 (fun d hd => (HB.out d hd).1)
        have HCAP : Hid (∀ d ∈ ds, Cap d.v) := fun d hd => (HB.out d hd).2
        obtain ⟨l, hl⟩ : ∃ l, l = ds.map pdOf := ⟨_, rfl⟩
        rw [← hl] at good
        have hll : l.length = k := by rw [hl, HNN.out]; exact List.length_map ..
        have IS : Hid (∀ i d, ds[i]? = some d → ∃ p, l[i]? = some p ∧ PdIs d p) := fun i d hd => ⟨pdOf d, by rw [hl, List.getElem?_map, hd]; rfl, is d (List.mem_of_getElem? hd)⟩
        have HLL := Lib.hid hll
        have NUMS := Lib.hid nums
        have FIN : Hid (∀ lv vs W, vs.map (·.2) = (Sc.secs ep sq l).map ub → Side w W (rowsTs lv vs) → RSecAny w ep sq ds (.returned (.tuple #[lv, .int .i64 0])) W) := fun lv vs W h1 h2 => .inr ⟨h0, lv, vs, rfl, by rw [← hl]; exact h1, h2⟩
        obtain ⟨i0, hi, hz0, hz1, hz2⟩ := info_parts info_rowsl
        replace hi := Lib.hid hi
        replace hz0 := Lib.hid hz0
        replace hz1 := Lib.hid hz1
        replace hz2 := Lib.hid hz2
        obtain ⟨b0, bi, bz0, bz1, bz2⟩ := info_parts info_u8
        replace bi := Lib.hid bi
        replace bz0 := Lib.hid bz0
        replace bz1 := Lib.hid bz1
        replace bz2 := Lib.hid bz2
        have EC : Hid (∀ W, Calls Tryz.prog 31 #[.agg #[.int .u64 (ep : Int), .int .u64 (sq : Int), .int .i64 (k : Int), .int .u32 (sum (Sc.hcat ep sq l k) : Nat)]] W (RcEncs W (Sc.cmOf ep sq k (Sc.hcat ep sq l k)).rec'.sector 0)) := fun W => by
          have ok : (Sc.cmOf ep sq k (Sc.hcat ep sq l k)).Ok := ⟨NUMS.out, by show (1 : Int) ≤ (k : Int); omega, by show (k : Int) ≤ 1023; omega⟩
          have m := rEncodeCommit_any (Sc.cmOf ep sq k (Sc.hcat ep sq l k)) W (sum_lt_of (hcat_bs ep sq l k))
          have e1 : (Sc.cmOf ep sq k (Sc.hcat ep sq l k)).enc = (Sc.cmOf ep sq k (Sc.hcat ep sq l k)).rec'.sector := by unfold Cm.enc; rw [if_pos ok]
          have e2 : (Sc.cmOf ep sq k (Sc.hcat ep sq l k)).err = 0 := by unfold Cm.err; rw [if_pos ok]
          rw [e1, e2] at m
          exact m
        have D0 : Hid (Side wb wr (ownT 5 (.slice none 0 0) (ub (Sc.hcat ep sq l 0)) :: rowsTs (.slice none 0 0) [])) := by
          have h1 := (Side.nil C.out).add (b := poolT []) (Chg.refl _ _) (Pool.nil _) (fun k hk => by cases hk)
          have h2 := h1.add (b := wideT 1 55 (.slice none 0 0) []) (Chg.refl _ _) (OwnW.nil _ _ _ _) (fun k hk => by cases hk)
          exact h2.add (b := ownT 5 (.slice none 0 0) []) (Chg.refl _ _) (World.ownsRow_nil _ _ _ _) (fun k hk => by cases hk)
        have hk23 : k ≤ 1023 := hN2
        clear nums good is hl hll h0 e2 y0 y1 HB
        go_wp2_with fail
        go_loopw [11, 12, 13] (fun a11 a12 i wr => ∃ (j : Nat) (vs : List Rw), j ≤ k ∧ i = .int .i64 j ∧ Hid (vs.map (·.2) = (Sc.twos (Sc.hsec ep sq l) (fun i => escV (Sc.at' l i).bs) j).map ub) ∧ Hid (Side wb wr (ownT 5 a12 (ub (Sc.hcat ep sq l j)) :: rowsTs a11 vs))) (fun _ _ i _ => k - (intOf i).toNat)
        case atStart => exact ⟨0, [], Nat.zero_le _, rfl, rfl, D0⟩
        case round =>
          obtain ⟨j, vs, hj, rfl, VS, H⟩ := hrel
          clear D0 C CW
          obtain ⟨y0, y1, CW⟩ := W0.out _ H.out.chg
          replace CW := Lib.hid CW
          have LV : Hid (vs.length = 2 * j) := by have h := congrArg List.length VS.out; rw [List.length_map, List.length_map, Sc.twos_len] at h; exact h
          have OL8 := (show OwnW 1 wr 0 55 u11 (rwSlots vs) from H.out.get 1 rfl)
          obtain ⟨lo, lc, hlv⟩ := OL8.slice
          have hlv2 : u11 = .slice lo (2 * j) lc := by rw [hlv]; simp [rwSlots, LV.out]
          clear hlv OL8
          subst hlv2
          have OH0 := (show wr.ownsRow 0 5 1 u12 (ub (Sc.hcat ep sq l j)).length (ub (Sc.hcat ep sq l j)) from H.out.get 0 rfl)
          rw [ub_len, hcat_len] at OH0
          obtain ⟨ho0, hc0, rfl⟩ := owns_slice OH0
          obtain ⟨J, hJ⟩ : ∃ J, J = 128 * j := ⟨_, rfl⟩
          rw [← hJ] at OH0 H ⊢
          have HJ := Lib.hid hJ
          have hJb : J ≤ 131000 := by omega
          by_cases hlt : j < k
          case neg =>
            obtain rfl : j = k := by omega
            have SLH : Hid (Sl wr (.slice ho0 J hc0) (ints (Sc.hcat ep sq l j))) := Sl.owned (n := J) OH0
            have SU2 : Hid (Calls Tryz.prog 29 #[.slice ho0 J hc0] wr fun e w' => e = .returned (.int .u32 (sum (Sc.hcat ep sq l j) : Nat)) ∧ wr = w') := by
              have m := refSum_any _ (ints (Sc.hcat ep sq l j)) wr SLH.out (ints_by (hcat_bs ep sq l j)) (by rw [ints_length, hcat_len]; omega)
              rw [nats_ints] at m
              exact m
            obtain ⟨s0, hs0⟩ : ∃ s0, s0 = sum (Sc.hcat ep sq l j) := ⟨_, rfl⟩
            rw [← hs0] at EC SU2
            obtain ⟨CS, hCS⟩ : ∃ CS, CS = (Sc.cmOf ep sq j (Sc.hcat ep sq l j)).rec'.sector := ⟨_, rfl⟩
            rw [← hCS] at EC
            have hcl : CS.length = 128 := by rw [hCS]; exact Rec.sector_length (by show (2 : Nat) ≤ 25; decide)
            replace hCS := Lib.hid hCS
            have HCL := Lib.hid hcl
            clear hs0 hcl OH0 SLH hJ
            go_wp2_with (first
              | (go_at_call 29; refine SU2.out.mono ?_; rintro e w' ⟨rfl, rfl⟩)
              | (go_at_call 31; refine (EC.out _).mono ?_; rintro e w6 ⟨cv, rfl, OC, C6⟩; have H6 := Lib.hid (H.out.own OC.out C6.out); have OR : Hid (w6.ownsRow 0 55 1 (.slice lo (2 * j) lc) (2 * j) (vs.map (·.1))) := (rows_own (H6.out.get 2 rfl) LV.out); obtain ⟨co, cc, hcv⟩ := owns_slice OC.out; subst hcv; clear EC)
              | (with_reducible refine wpList_append_three _ rfl (.tmp 140) (.tmp 142) 28 rfl 0 55 i0 (.slice none 0 0) 1 24 Tryz.underlying28 hi.out hz0.out hz1.out hz2.out rfl (by decide) _ (2 * j) _ rfl (OR.out.alloc _) ⟨w6.heap.size, 0, none⟩ 1 1 [.slice co CS.length cc] rfl rfl (new_cell _ _ _) (by simp [Value.oneCell']) (by unfold maxLen; omega) (by omega) (Nat.zero_le _) ?_; intro lv' wn ol gr nb))
            go_ret2
            have CG : Chg (Value.slice lo (2 * j) lc).ownBlock.toList w6 wn := (((Chg.refl [] w6).alloc _).mono (by simp)).grown gr.out (fun b2 hb2 => .inl (by have hb3 : (Value.slice lo (2 * j) lc).ownBlock = some b2 := hb2; rw [hb3]; simp))
            have P1 : Side wb w6 (poolT [(.slice co CS.length cc, ub CS)] :: rowsTs (.slice lo (2 * j) lc) vs) := by
              have h0 : Side wb w6 (ownT 5 (.slice co CS.length cc) (ub CS) :: rowsTs (.slice lo (2 * j) lc) vs) := (H6.out.front 1).tail
              have h1 := h0.add (b := poolT []) (Chg.refl _ _) (Pool.nil _) (fun k hk => by cases hk)
              exact (h1.front 1 : Side wb w6 (ownT 5 (.slice co CS.length cc) (ub CS) :: poolT [] :: rowsTs (.slice lo (2 * j) lc) vs)).pool
            have H7 := more_rows P1 CG (by rw [LV.out]; rfl) ol.out (nb_of nb.out (by simp))
            refine FIN.out lv' (vs ++ [(.slice co CS.length cc, ub CS)]) wn ?_ (Side.rebase' CB.out H7)
            rw [List.map_append, VS.out, Sc.secs, List.map_append, HLL.out, ← hCS.out]
            rfl
          obtain ⟨x, hx⟩ : ∃ x, ds[j]? = some x := ⟨_, List.getElem?_eq_getElem (by rw [← HNN.out]; exact hlt)⟩
          obtain ⟨p, hp, PI⟩ := IS.out j x hx
          obtain ⟨b, o, rfl, hbl, I⟩ := (HP.out _ CW.out).at hx
          have c0 := I.c0
          have c1 := I.c1
          have c2 := I.c2
          have hc := HCAP.out x (List.mem_of_getElem? hx)
          have sl := I.sl
          rw [PI.m] at c0
          rw [PI.r] at c1
          rw [PI.d] at sl
          have hpb : p.bs.length = 128 := PI.ok.2.2.1
          have hbs : Bs p.bs := PI.ok.2.2.2
          obtain ⟨xo, xc, hxv⟩ := sl.slice
          rw [ints_length, hpb] at hxv
          rw [hxv] at c2 sl hc
          have ESC : Hid (∀ W, Chg [] wr W → Calls Tryz.prog 28 #[.slice xo 128 xc] W (EscIs .i64 W p.bs)) := fun W c => rescape_any _ p.bs W (sl.chgNil c) hbs hc
          have AT : Hid (Sc.at' l j = p) := Sc.at'_eq hp
          have gl : (escV p.bs).length = 128 := esc_len hpb
          have gbs : Bs (escV p.bs) := esc_bs hpb hbs
          obtain ⟨g, hg⟩ : ∃ g, g = escV p.bs := ⟨_, rfl⟩
          obtain ⟨es, hes⟩ : ∃ es, es = escB p.bs := ⟨_, rfl⟩
          have hsg : Hid (Sc.hsec ep sq l j = (Sc.hdOf ep sq k j p).rec'.sector) := by show _ = _; unfold Sc.hsec; rw [AT.out, HLL.out]
          have HOK := Sc.hdOf_ok NUMS.out (show k ≤ 1023 by omega) hlt PI.ok
          have HSM : (Sc.hdOf ep sq k j p).sm < 4294967296 := Sc.hdOf_sum PI.ok
          have EH : Hid (∀ W, Calls Tryz.prog 30 #[.agg #[.int .u64 (ep : Int), .int .u64 (sq : Int), .int .i64 (j : Int), .int .i64 (k : Int), .int .i64 (p.m : Int), .int .i64 (p.r : Int), .bool es, .int .u32 (sum g : Nat)]] W (RcEncs W (Sc.hsec ep sq l j) 0)) := fun W => by
            have m := rEncodeHeader_any (Sc.hdOf ep sq k j p) W HSM
            have e1 : (Sc.hdOf ep sq k j p).enc = Sc.hsec ep sq l j := by unfold Hd.enc; rw [if_pos HOK, hsg.out]
            have e2 : (Sc.hdOf ep sq k j p).err = 0 := by unfold Hd.err; rw [if_pos HOK]
            rw [e1, e2] at m
            rw [hes, hg]
            exact m
          rw [← hg] at gl gbs
          have EV : Hid (g = escV p.bs) := hg
          have EB : Hid (es = escB p.bs) := hes
          clear I hx hp PI hpb hbs sl hc hxv hg hes HOK HSM hJ OH0
          have hi0 : (0 : Int) ≤ j := Int.natCast_nonneg _
          have hi1 : (j : Int) < k := by omega
          obtain ⟨pm, hpm⟩ : ∃ pm : Int, pm = (p.m : Int) := ⟨_, rfl⟩
          obtain ⟨pr, hpr⟩ : ∃ pr : Int, pr = (p.r : Int) := ⟨_, rfl⟩
          rw [← hpm] at c0 EH
          rw [← hpr] at c1 EH
          clear hpm hpr
          have BP := Blk.made wr [.int .i64 pm, .int .i64 pr, .slice xo 128 xc] 72
          have p2 := BP.cell (j := 2) rfl
          replace BP := Lib.hid BP
          go_wp2_with fail
          refine (ESC.out _ ((Chg.refl _ _).alloc _)).mono ?_
          rintro e w3 ⟨lg, rfl, OG, C3⟩
          have H3 := Lib.hid ((H.out.quiet ((Chg.refl _ _).alloc _)).own OG.out C3.out)
          have OG2 : w3.ownsRow 0 5 1 lg 128 (ub g) := by
            have h := OG.out
            unfold RcOwn at h
            rw [← EV.out, gl] at h
            exact ownsRow_base h (Nat.zero_le _)
          obtain ⟨go', gc, hlg⟩ := owns_slice OG2
          subst hlg
          have SU : Hid (Calls Tryz.prog 29 #[.slice go' 128 gc] w3 fun e w' => e = .returned (.int .u32 (sum g : Nat)) ∧ w3 = w') := by
            have m := refSum_any _ (ints g) w3 (Sl.owned (show w3.ownsRow 0 5 1 (.slice go' 128 gc) 128 ((ints g).map (Value.int .u8)) from OG2)) (ints_by gbs) (by rw [ints_length, gl]; decide)
            rw [nats_ints] at m
            exact m
          rw [← EV.out] at H3
          rw [← EB.out]
          have BP3 := BP.out.chg C3.out (by simp)
          have q0 := BP3.cell (j := 0) rfl
          have q1 := BP3.cell (j := 1) rfl
          obtain ⟨z0, _, _⟩ := W0.out w3 H3.out.chg
          clear OG OG2 ESC c0 c1 c2 C3 CW y0 y1 gl p2 BP BP3 H
          obtain ⟨er, her⟩ : ∃ er, er = escE p.bs := ⟨_, rfl⟩
          rw [← her]
          clear her
          obtain ⟨sg, hsgd⟩ : ∃ sg, sg = sum g := ⟨_, rfl⟩
          rw [← hsgd] at SU EH
          clear hsgd
          go_wp2_with (first
            | (go_at_call 29; refine SU.out.mono ?_; rintro e w' ⟨rfl, rfl⟩))
          refine (EH.out _).mono ?_
          rintro e w5 ⟨hv, rfl, OH, C5⟩
          have H5 := Lib.hid (H3.out.own OH.out C5.out)
          obtain ⟨hs, hhs⟩ : ∃ hs, hs = Sc.hsec ep sq l j := ⟨_, rfl⟩
          rw [← hhs] at H5 OH
          have HHS := Lib.hid hhs
          have hl8 : hs.length = 128 := by rw [hhs, hsg.out]; exact (hdOf_rec_len _ _ _ _ _).1
          have OH2 : w5.ownsRow 0 5 1 hv 128 (ub hs) := by
            have h := OH.out
            rw [hl8] at h
            exact ownsRow_base h (Nat.zero_le _)
          obtain ⟨ho, hc8, hhv⟩ := owns_slice OH2
          subst hhv
          have HSL : Hid (Sl w5 (.slice ho 128 hc8) (ints hs)) := Sl.owned (show w5.ownsRow 0 5 1 (.slice ho 128 hc8) 128 ((ints hs).map (Value.int .u8)) from OH2)
          have HI8 : Hid ((ints hs).length = 128) := by show _ = _; rw [ints_length]; exact hl8
          have OHH : Hid (w5.ownsRow 0 5 1 (.slice ho0 J hc0) J (ub (Sc.hcat ep sq l j))) := by
            have h := (show w5.ownsRow 0 5 1 (.slice ho0 J hc0) (ub (Sc.hcat ep sq l j)).length (ub (Sc.hcat ep sq l j)) from H5.out.get 2 rfl)
            rw [ub_len, hcat_len, ← HJ.out] at h
            exact h
          have HCA : Hid (ub (Sc.hcat ep sq l j) ++ (ints hs).map (Value.int .u8) = ub (Sc.hcat ep sq l (j + 1))) := by
            show _ = _
            rw [Sc.hcat_succ, ← hhs, ub_app]
            rfl
          have L1 : Hid (J + (ints hs).length ≤ maxLen) := by show _ ≤ _; rw [HI8.out]; unfold maxLen; omega
          have L2 : Hid ((J + (ints hs).length) * 1 ≤ 140737488355328) := by show _ ≤ _; rw [HI8.out]; omega
          have L3 : Hid (2 * j + 2 ≤ maxLen) := by show _ ≤ _; unfold maxLen; omega
          have L4 : Hid ((2 * j + 2) * 24 ≤ 140737488355328) := by show _ ≤ _; omega
          clear hhs hl8 OH OH2 H3 SU EH q0 q1 z0 gbs C5
          go_wp2_with (first
            | (at_builtin; (refine wpList_append_sl _ rfl (.tmp 120) (.tmp 121) 55 rfl 0 5 b0 (.int .u8 0) 1 Tryz.underlying55 bi.out bz0.out bz1.out bz2.out rfl _ J _ rfl OHH.out ho 128 hc8 (ints hs) rfl HSL.out L1.out L2.out (Nat.zero_le _) ?_); intro hv' w6 ol gr nb; have H6 : Hid (Side wb w6 (ownT 5 (.slice ho 128 hc8) (ub hs) :: ownT 5 (.slice go' 128 gc) (ub g) :: ownT 5 hv' (ub (Sc.hcat ep sq l (j + 1))) :: rowsTs (.slice lo (2 * j) lc) vs)) := (by have h6 := own_more H5.out 2 rfl ((Chg.refl _ w5).grown gr.out (fun b2 hb2 => .inl (by have hb3 : (Value.slice ho0 J hc0).ownBlock = some b2 := hb2; rw [hb3]; simp))) ol.out (nb_of nb.out (Nat.le_refl _)); rw [HCA.out] at h6; exact h6); have OR : Hid (w6.ownsRow 0 55 1 (.slice lo (2 * j) lc) (2 * j) (vs.map (·.1))) := (rows_own (H6.out.get 3 rfl) LV.out); clear ol gr nb H5 OHH HSL HCA)
            | (with_reducible refine wpList_append_three _ rfl (.tmp 123) (.tmp 126) 28 rfl 0 55 i0 (.slice none 0 0) 1 24 Tryz.underlying28 hi.out hz0.out hz1.out hz2.out rfl (by decide) _ (2 * j) _ rfl (OR.out.alloc _) ⟨w6.heap.size, 0, none⟩ 2 2 [.slice ho 128 hc8, .slice go' 128 gc] rfl rfl (pair_new2 _ _ _ _) (by simp [Value.oneCell']) L3.out L4.out (Nat.zero_le _) ?_; intro lv' wn ol gr nb))
          have CG : Hid (Chg (Value.slice lo (2 * j) lc).ownBlock.toList w6 wn) := (((Chg.refl [] w6).alloc _).mono (by simp)).grown gr.out (fun b2 hb2 => .inl (by have hb3 : (Value.slice lo (2 * j) lc).ownBlock = some b2 := hb2; rw [hb3]; simp))
          obtain ⟨no, nc, hnv⟩ := owns_slice ol.out
          subst hnv
          have H7 : Hid (Side wb wn (ownT 5 hv' (ub (Sc.hcat ep sq l (j + 1))) :: rowsTs (.slice no (2 * j + 2) nc) (vs ++ [(.slice ho 128 hc8, ub hs), (.slice go' 128 gc, ub g)]))) := by
            have h1 := H6.out.add (b := poolT []) (Chg.refl _ _) (Pool.nil _) (fun k hk => by cases hk)
            have h2 := (h1.front 1 : Side wb w6 (ownT 5 (.slice ho 128 hc8) (ub hs) :: poolT [] :: ownT 5 (.slice go' 128 gc) (ub g) :: ownT 5 hv' (ub (Sc.hcat ep sq l (j + 1))) :: rowsTs (.slice lo (2 * j) lc) vs)).pool
            have h3 := (h2.front 1 : Side wb w6 (ownT 5 (.slice go' 128 gc) (ub g) :: poolT [(.slice ho 128 hc8, ub hs)] :: ownT 5 hv' (ub (Sc.hcat ep sq l (j + 1))) :: rowsTs (.slice lo (2 * j) lc) vs)).pool
            have h4 : Side wb w6 (poolT [(.slice ho 128 hc8, ub hs), (.slice go' 128 gc, ub g)] :: wideT 1 55 (.slice lo (2 * j) lc) (rwSlots vs) :: poolT vs :: [ownT 5 hv' (ub (Sc.hcat ep sq l (j + 1)))]) := (((h3.front 2).front 3).front 1).front 2
            have h5 := rows_more h4 CG.out (by rw [LV.out]; rfl) ol.out (nb_of nb.out (by simp))
            exact h5.front 2
          have VS2 : Hid ((vs ++ [((.slice ho 128 hc8 : Value), ub hs), (.slice go' 128 gc, ub g)]).map (·.2) = (Sc.twos (Sc.hsec ep sq l) (fun i => escV (Sc.at' l i).bs) (j + 1)).map ub) := by
            show _ = _
            rw [List.map_append, VS.out, Sc.twos, List.map_append, HHS.out, AT.out, EV.out]
            rfl
          have e2 : 2 * j + 2 = 2 * (j + 1) := by omega
          rw [e2] at H7
          rw [e2]
          clear ol gr nb CG H6 OR VS e2
          go_wp2_with fail
          exact ⟨⟨j + 1, _, by omega, by go_num, VS2, H7⟩, by simp [intOf]; omega⟩

end Go.Proofs.YtnkdgmnmmmjgjaaGreat
