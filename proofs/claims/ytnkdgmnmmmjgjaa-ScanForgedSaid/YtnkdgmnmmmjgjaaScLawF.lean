/-
  ScanForged: its walk. By an AI agent.
-/
import Derived.Test.YtnkdgmnmmmjgjaaScRng
namespace Go.Proofs.Ytnkdgmnmmmjgjaa
open Go.RowKit Crc

/-- The first of the patches that the law lays around another batch's sectors. -/
def outerPv (S : List (List Nat)) (vs : List Rw) (k : Nat) : List Pv := (List.range k).map fun i => (⟨1, i, S.getD i []⟩, (vs.getD i (.slice none 0 0, [])).1)

theorem outerPv_len (S : List (List Nat)) (vs : List Rw) (k : Nat) : (outerPv S vs k).length = k := by simp [outerPv]

theorem outerPv_succ {S : List (List Nat)} {vs : List Rw} {k : Nat} {s : List Nat} {p : Rw} (hs : S[k]? = some s) (hp : vs[k]? = some p) : outerPv S vs (k + 1) = outerPv S vs k ++ [(⟨1, k, s⟩, p.1)] := by
  simp [outerPv, List.range_succ, List.getD_eq_getElem?_getD, hs, hp]

theorem outer_mem {S : List (List Nat)} {vs : List Rw} {K : Nat} {p : Pv} (h : p ∈ outerPv S vs K) (hS : S.length = K) (hv : vs.length = K) : ∃ i s r, i < K ∧ S[i]? = some s ∧ vs[i]? = some r ∧ p = (⟨1, i, s⟩, r.1) := by
  obtain ⟨i, hi, rfl⟩ := List.mem_map.1 h
  have hi := List.mem_range.1 hi
  refine ⟨i, S[i], vs[i], hi, List.getElem?_eq_getElem (by omega), List.getElem?_eq_getElem (by omega), ?_⟩
  rw [List.getD_eq_getElem?_getD, List.getD_eq_getElem?_getD, List.getElem?_eq_getElem (by omega), List.getElem?_eq_getElem (by omega)]
  rfl

theorem outer_err {S : List (List Nat)} {vs : List Rw} {K q : Nat} (hS : S.length = K) (hv : vs.length = K) (h8 : ∀ x ∈ S, x.length = 128 ∧ Bs x) (k1 : 1 ≤ K) (k2 : K ≤ 41) (q1 : 1 ≤ q) (q2 : q ≤ 65537) : scErr 9 q ((outerPv S vs K).map toPt) = 0 := by
  have hl : ((outerPv S vs K).map toPt).length = K := by rw [List.length_map, outerPv_len]
  have M : ∀ d ∈ (outerPv S vs K).map toPt, farP d = false ∧ shortP d = false := fun d hd => by
    obtain ⟨p, hp, rfl⟩ := List.mem_map.1 hd
    obtain ⟨i, s, r, hi, hs, _, rfl⟩ := outer_mem hp hS hv
    refine ⟨?_, ?_⟩
    · unfold farP toPt
      dsimp only
      apply decide_eq_false
      omega
    · unfold shortP toPt
      dsimp only
      rw [ints_length, (h8 s (List.mem_of_getElem? hs)).1]
      decide
  unfold scErr
  rw [hl, if_pos (by omega), if_neg, if_neg]
  · intro h
    obtain ⟨d, hd, hx⟩ := List.any_eq_true.1 h
    rw [(M d hd).2] at hx
    cases hx
  · rintro (h | h)
    · unfold farN at h
      omega
    · obtain ⟨d, hd, hx⟩ := List.any_eq_true.1 h
      rw [(M d hd).1] at hx
      cases hx

/-- Every second row. -/
def oddV (vs : List Rw) (j : Nat) : List (List Value) := (List.range j).map fun i => [(vs.getD (2 * i + 1) (.slice none 0 0, [])).1]

theorem oddV_len (vs : List Rw) (j : Nat) : (oddV vs j).length = j := by simp [oddV]

theorem oddV_succ {vs : List Rw} {j : Nat} {p : Rw} (hp : vs[2 * j + 1]? = some p) : oddV vs (j + 1) = oddV vs j ++ [[p.1]] := by
  simp [oddV, List.range_succ, List.getD_eq_getElem?_getD, hp]

theorem oddV_slots (vs : List Rw) (j : Nat) : Slots 1 (oddV vs j) := fun x hx => by
  obtain ⟨i, _, rfl⟩ := List.mem_map.1 hx
  rfl

def oddD (vs : List Rw) (S : List (List Nat)) (j : Nat) : List RowD := (List.range j).map fun i => ⟨(vs.getD (2 * i + 1) (.slice none 0 0, [])).1, ints (S.getD (2 * i + 1) [])⟩

theorem odd_rws {w0 w : World} {ts : List Thing} {dv : Value} {vs : List Rw} {S : List (List Nat)} {j : Nat} (h : Side w0 w (wideT 1 23 dv (oddV vs j) :: ts)) (i : Nat) (hi : ts[i]? = some (poolT vs)) (hv : vs.map (·.2) = S.map ub) (h8 : ∀ x ∈ S, x.length = 128 ∧ Bs x) (hS : 2 * j + 1 ≤ S.length) (hj : j ≤ 100000) :
    Rws w dv (oddD vs S j) := by
  have ow : OwnW 1 w 0 23 dv (oddV vs j) := h.get 0 rfl
  have R := ow.rd
  have hl : (oddD vs S j).length = j := by simp [oddD]
  obtain ⟨lo, lc, hlv⟩ := R.slice
  rw [oddV_len] at hlv
  subst hlv
  by_cases hz : j = 0
  · subst hz
    exact .inl ⟨rfl, _, _, rfl⟩
  have X : ∀ k, k < j → ∃ p s, vs[2 * k + 1]? = some p ∧ S[2 * k + 1]? = some s ∧ p.2 = ub s ∧ (oddV vs j)[k]? = some [p.1] ∧ (oddD vs S j)[k]? = some ⟨p.1, ints s⟩ := fun k hk => by
    have hs : S[2 * k + 1]? = some S[2 * k + 1] := List.getElem?_eq_getElem (by omega)
    obtain ⟨p, hp, hps⟩ := row_get hv hs
    refine ⟨p, _, hp, hs, hps, ?_, ?_⟩
    · simp [oddV, List.getElem?_map, List.getElem?_range hk, List.getD_eq_getElem?_getD, hp]
    · simp [oddD, List.getElem?_map, List.getElem?_range hk, List.getD_eq_getElem?_getD, hp, hs]
  obtain ⟨p0, _, _, _, _, e0, _⟩ := X 0 (by omega)
  obtain ⟨g, rfl, _⟩ := R.at e0
  refine .inr ⟨g, 0, lc, by rw [hl], ?_, by rw [hl]; omega, fun k d hd => ?_⟩
  · obtain ⟨g', hg, hlt⟩ : ∃ g', g' = g ∧ g' < w.heap.size := ⟨g, rfl, (ow.2.lt g (by simp [Value.ownBlock])).2⟩
    rw [← hg]; exact hlt
  · have hk : k < j := by rw [← hl]; exact (List.getElem?_eq_some_iff.1 hd).1
    obtain ⟨p, s, hp, hs, hps, e1, e2⟩ := X k hk
    obtain rfl : d = ⟨p.1, ints s⟩ := by rw [e2] at hd; exact (Option.some.inj hd).symm
    obtain ⟨g', hg', hc⟩ := R.at e1
    obtain rfl : g = g' := by injection hg' with h9; injection h9
    have hsl := (row_sl (ts := wideT 1 23 (.slice (some ⟨g, 0, none⟩) j lc) (oddV vs j) :: ts) h (i + 1) hi hp hps).1
    exact ⟨by have := hc 0 p.1 rfl; simpa using this, hsl, ints_by (h8 s (List.mem_of_getElem? hs)).2, by show (ints s).length ≤ _; rw [ints_length, (h8 s (List.mem_of_getElem? hs)).1]; decide⟩

set_option maxHeartbeats 4000000 in
set_option maxRecDepth 100000 in
theorem forged_any (sq : Nat) (v : Value) (ds : List PtD) (w : World) (hsq : sq ≤ 65535) (h : Pts w v ds) (hb : ∀ d ∈ ds, By d.d ∧ Cap d.v) :
    Calls Try.prog 4 #[.int .u16 (sq : Int), v] w fun e W' => e = .returned (.bool true) ∧ Chg [] w W' := by
  obtain ⟨ao, vc, rfl⟩ := h.slice
  have big := h.len
  have HP : Hid (∀ w', Chg [] w w' → Pts w' (.slice ao ds.length vc) ds) := fun w' c => h.chg c
  have HB := Lib.hid hb
  obtain ⟨N, hN⟩ : ∃ N, N = ds.length := ⟨_, rfl⟩
  rw [← hN] at big HP ⊢
  have HN := Lib.hid hN
  clear h hb hN
  have sq0 : (0 : Int) ≤ sq := Int.natCast_nonneg _
  have sq1 : (sq : Int) ≤ 65535 := by omega
  have sq2 : (sq : Int) + 2 = ((sq + 2 : Nat) : Int) := by omega
  obtain ⟨s, hs⟩ : ∃ s, s = sq + 2 := ⟨_, rfl⟩
  rw [← hs] at sq2
  have s1 : 2 ≤ s := by omega
  have s2 : s ≤ 65537 := by omega
  obtain ⟨s', hs'⟩ : ∃ s', s' = sq + 1 := ⟨_, rfl⟩
  have sq3 : (s : Int) - 1 = (s' : Int) := by omega
  have s3 : 1 ≤ s' := by omega
  have s4 : s' ≤ 65536 := by omega
  have s5 : s' + 1 = s := by omega
  clear hs hs'
  have MU : Hid (∀ w', Chg [] w w' → Calls Try.prog 9 #[.slice ao N vc] w' fun e w'' => TellsB e ∧ Hid (Chg [] w' w'')) := fun w' c => by
    have k := much_any _ ds w' (HP.out w' c)
    exact k
  go_enter Try.func4, Try.ntmps4
  go_wp2_with fail
  refine (known_any _).mono ?_
  rintro e w1 ⟨rfl, C1⟩
  by_cases hn : 1 ≤ N ∧ N ≤ 20
  case neg =>
    rcases Nat.lt_or_ge N 1 with q | q
    · obtain rfl : N = 0 := by omega
      go_wp2_with fail
      refine (known_any _).mono ?_
      rintro e w2 ⟨rfl, C2⟩
      go_wp2_with fail
      go_ret
      exact ⟨rfl, C1.out.trans C2.out⟩
    · have q2 : (20 : Int) < N := by omega
      have q3 : ¬ (N : Int) < 1 := by omega
      go_wp2_with fail
      refine (known_any _).mono ?_
      rintro e w2 ⟨rfl, C2⟩
      go_wp2_with fail
      go_ret
      exact ⟨rfl, C1.out.trans C2.out⟩
  obtain ⟨n1, n2⟩ := hn
  have q2 : ¬ (20 : Int) < N := by omega
  have q3 : ¬ (N : Int) < 1 := by omega
  go_wp2_with fail
  refine (MU.out _ C1.out).mono ?_
  rintro e w2 ⟨⟨b, rfl⟩, C2⟩
  have C3 : Hid (Chg [] w w2) := C1.out.trans C2.out
  clear C1 C2 MU
  cases b
  case true =>
    go_wp2_with fail
    refine (known_any _).mono ?_
    rintro e w3 ⟨rfl, C2⟩
    go_wp2_with fail
    go_ret
    exact ⟨rfl, C3.out.trans C2.out⟩
  go_wp2_with fail
  have PT := HP.out _ C3.out
  by_cases h0 : scErr 9 s ds = 0
  case neg =>
    have k := sectors_no 9 s _ ds w2 PT h0
    obtain ⟨E, hE⟩ : ∃ E, E = scErr 9 s ds := ⟨_, rfl⟩
    rw [← hE] at k h0
    have ht : (E != 0) = true := by simpa using h0
    refine Calls.mono (show Calls Try.prog 10 #[.int .u64 9, .agg #[.int .u64 (s : Int), .slice ao N vc]] w2 _ from k) ?_
    rintro e w3 ⟨rfl, C4⟩
    clear k hE PT h0
    go_wp2_with fail
    go_ret
    exact ⟨rfl, C3.out.trans C4.out⟩
  obtain ⟨L, hL⟩ : ∃ L, L = ds.map pdOf := ⟨_, rfl⟩
  have GL : Hid (Sc.Good L) := by rw [hL]; exact (scErr_zero h0 (fun d hd => (HB.out d hd).1)).2.1
  have LL : Hid (L.length = N) := by rw [hL, HN.out]; exact List.length_map ..
  have k := sectors_ok 9 s _ ds w2 PT HB.out h0
  rw [← hL] at k
  refine Calls.mono (show Calls Try.prog 10 #[.int .u64 9, .agg #[.int .u64 (s : Int), .slice ao N vc]] w2 _ from k) ?_
  rintro e w3 ⟨lv, vs, rfl, VS, H⟩
  replace H : Hid (Side w w3 (rowsTs lv vs)) := Side.rebase' C3.out H.out
  obtain ⟨S, hS⟩ : ∃ S, S = Sc.secs 9 s L := ⟨_, rfl⟩
  rw [← hS] at VS
  have HS := Lib.hid hS
  have SL : S.length = 2 * N + 1 := by rw [hS, Sc.secs_len, LL.out]
  have S8 : Hid (∀ x ∈ S, x.length = 128 ∧ Bs x) := by rw [hS]; exact Sc.secs_ok GL.out
  obtain ⟨K, hK⟩ : ∃ K, K = 2 * N + 1 := ⟨_, rfl⟩
  have LV : vs.length = K := by rw [rows_len VS.out, SL, hK]
  have K1 : K ≤ 41 := by omega
  have K3 : 3 ≤ K := by omega
  have HLV := Lib.hid LV
  have HSL : Hid (S.length = K) := by rw [hK]; exact SL
  obtain ⟨g, x, hlv⟩ : ∃ g x, lv = .slice (some ⟨g, 0, none⟩) K x := by
    obtain ⟨p1, hp1, _⟩ := row_get VS.out (i := 0) (s := S[0]'(by omega)) (List.getElem?_eq_getElem (by omega))
    obtain ⟨g, x, hlv, _⟩ := row_cell H.out 0 rfl hp1
    rw [LV] at hlv
    exact ⟨g, x, hlv⟩
  subst hlv
  replace hK := Lib.hid hK
  clear k hL PT h0 HP HB hS SL LV
  go_wp2_with fail
  obtain ⟨i0, hi, hz0, hz1, hz2⟩ := info_parts info_patch1
  replace hi := Lib.hid hi
  replace hz0 := Lib.hid hz0
  replace hz1 := Lib.hid hz1
  replace hz2 := Lib.hid hz2
  have H1 : Hid (Side w w3 (listT (.slice none 0 0) (outerPv S vs 0) :: rowsTs (.slice (some ⟨g, 0, none⟩) K x) vs)) := H.out.add (b := listT (.slice none 0 0) []) (Chg.refl _ _) (OwnW.nil _ _ _ _) (fun k hk => by cases hk)
  clear H
  go_loopw [8, 9] (fun pv i wr => ∃ k : Nat, k ≤ K ∧ i = .int .i64 k ∧ Hid (Side w wr (listT pv (outerPv S vs k) :: rowsTs (.slice (some ⟨g, 0, none⟩) K x) vs))) (fun _ i _ => K - (intOf i).toNat)
  case atStart => exact ⟨0, Nat.zero_le _, rfl, H1⟩
  case round =>
    obtain ⟨k, hk, rfl, H⟩ := hrel
    clear H1
    have hk0 : (0 : Int) ≤ k := Int.natCast_nonneg _
    have HO := Lib.hid (show OwnW 3 wr 0 49 u8 ((outerPv S vs k).map pvSlot) from H.out.get 0 rfl)
    obtain ⟨lo, lc, hlv⟩ := HO.out.slice
    rw [List.length_map, outerPv_len] at hlv
    subst hlv
    by_cases hlt : k < K
    · have hk1 : (k : Int) < K := by omega
      obtain ⟨sx, hs⟩ : ∃ sx, S[k]? = some sx := ⟨_, List.getElem?_eq_getElem (by rw [HSL.out]; exact hlt)⟩
      obtain ⟨p, hp, hps⟩ := row_get VS.out hs
      obtain ⟨g', x', hg', hcell⟩ := row_cell H.out 1 rfl hp
      obtain ⟨rfl, -, -⟩ : g = g' ∧ K = vs.length ∧ x = x' := by simpa using hg'
      have hsl := (row_sl H.out 2 rfl hp hps).1
      obtain ⟨xo, xc, hxv⟩ := hsl.slice
      rw [ints_length, (S8.out sx (List.mem_of_getElem? hs)).1] at hxv
      have hsucc := Lib.hid (outerPv_succ hs hp)
      rw [hxv] at hcell
      have HX : Hid (p.1 = .slice xo 128 xc) := hxv
      have OR : Hid (wr.ownsRow 0 49 3 (.slice lo k lc) k ((outerPv S vs k).map pvSlot).flatten) := by
        have h := HO.out.2
        rw [List.length_map, outerPv_len] at h
        exact h
      have B1 : k + 1 ≤ maxLen := by unfold maxLen; omega
      have B2 : (k + 1) * 40 ≤ 140737488355328 := by omega
      have HB1 := Lib.hid B1
      have HB2 := Lib.hid B2
      clear hs hp hps hg' hsl hxv HO B1 B2
      go_wp2_with (refine wpList_append_three _ rfl (.tmp 52) (.tmp 59) 31 rfl 0 49 i0 (.agg #[.int .i64 0, .int .i64 0, .slice none 0 0]) 3 40 Try.underlying31 hi.out hz0.out hz1.out hz2.out rfl (by decide) _ k _ rfl (OR.out.alloc _) ⟨wr.heap.size, 0, none⟩ 1 1 [.int .i64 1, .int .i64 (k : Int), .slice xo 128 xc] rfl rfl (three_new1 _ _ _ _ _) (by simp [Value.oneCell']) HB1.out HB2.out (Nat.zero_le _) ?_; intro lv' wn ol gr nb)
      have CG : Hid (Chg (Value.slice lo k lc).ownBlock.toList wr wn) := (((Chg.refl [] wr).alloc _).mono (by simp)).grown gr.out (fun j hj => .inl (by have hj2 : (Value.slice lo k lc).ownBlock = some j := hj; rw [hj2]; simp))
      have H2 : Hid (Side w wn (listT lv' (outerPv S vs (k + 1)) :: rowsTs (.slice (some ⟨g, 0, none⟩) K x) vs)) := by
        have h := more_list (d := ⟨1, k, sx⟩) (bv := .slice xo 128 xc) H.out CG.out (by rw [outerPv_len]) ol.out (nb_of nb.out (by simp))
        rw [hsucc.out, HX.out]
        exact h
      clear ol gr nb CG H OR hsucc HX HB1 HB2
      go_wp2_with fail
      exact ⟨⟨k + 1, by omega, by go_num, H2⟩, by simp [intOf]; omega⟩
    · obtain rfl : k = K := by omega
      clear hlt hk hk0
      go_wp2_with fail
      have POOL : Pool wr vs := H.out.get 2 rfl
      have PT2 : Pts wr (.slice lo k lc) ((outerPv S vs k).map toPt) := pts_of2 (H.out.get 0 rfl) (fun p hp => by
        obtain ⟨i, sx, r, hi, hsx, hr, rfl⟩ := outer_mem hp HSL.out HLV.out
        obtain ⟨r2, hr2, hr3⟩ := row_get VS.out hsx
        have h9 := POOL.row r (List.mem_of_getElem? hr)
        have e9 : r2 = r := by rw [hr] at hr2; exact (Option.some.inj hr2).symm
        rw [← e9, hr3] at h9
        rw [← e9]
        exact h9) (by rw [outerPv_len]; omega) (fun p hp => by
        obtain ⟨i, sx, r, hi, hsx, hr, rfl⟩ := outer_mem hp HSL.out HLV.out
        rw [(S8.out sx (List.mem_of_getElem? hsx)).1]; decide)
      have k2 := sectors_ok 9 s' _ _ wr PT2 (fun d hd => by
        obtain ⟨p, hp, rfl⟩ := List.mem_map.1 hd
        obtain ⟨i, sx, r, hi, hsx, hr, rfl⟩ := outer_mem hp HSL.out HLV.out
        obtain ⟨r2, hr2, hr3⟩ := row_get VS.out hsx
        have e9 : r2 = r := by rw [hr] at hr2; exact (Option.some.inj hr2).symm
        refine ⟨ints_by (S8.out sx (List.mem_of_getElem? hsx)).2, ?_⟩
        rw [← e9]
        exact (row_sl H.out 2 rfl hr2 hr3).2) (outer_err HSL.out HLV.out S8.out (by omega) (by omega) s3 (by omega))
      rw [outer_pd] at k2
      refine Calls.mono (show Calls Try.prog 10 #[.int .u64 9, .agg #[.int .u64 (s' : Int), .slice lo k lc]] wr _ from k2) ?_
      rintro e w4 ⟨lv2, vs2, rfl, VS2, H2⟩
      clear k2 PT2 POOL
      replace H2 : Hid (Side w w4 (rowsTs lv2 vs2)) := Side.rebase' H.out.chg H2.out
      obtain ⟨P, hP⟩ : ∃ P, P = dOf (outerPv S vs k) := ⟨_, rfl⟩
      rw [← hP] at VS2
      have PL : Hid (P.length = k) := by rw [hP]; unfold dOf; show _ = _; rw [List.length_map, outerPv_len]
      obtain ⟨S2, hS2⟩ : ∃ S2, S2 = Sc.secs 9 s' P := ⟨_, rfl⟩
      rw [← hS2] at VS2
      have GP : Hid (Sc.Good P) := by
        refine ⟨by rw [PL.out]; omega, by rw [PL.out]; omega, fun p hp => ?_⟩
        rw [hP] at hp
        obtain ⟨q, hq, rfl⟩ := List.mem_map.1 hp
        obtain ⟨i, sx, r, hi, hsx, hr, rfl⟩ := outer_mem hq HSL.out HLV.out
        exact ⟨by show 1 ≤ 15; decide, by show i ≤ 4095; omega, (S8.out sx (List.mem_of_getElem? hsx)).1, (S8.out sx (List.mem_of_getElem? hsx)).2⟩
      have S28 : Hid (∀ x ∈ S2, x.length = 128 ∧ Bs x) := by rw [hS2]; exact Sc.secs_ok GP.out
      have HP := Lib.hid hP
      have HS2 := Lib.hid hS2
      obtain ⟨R, hR⟩ : ∃ R, R = 2 * k + 1 := ⟨_, rfl⟩
      have SL2 : Hid (S2.length = R) := by rw [hS2, Sc.secs_len, PL.out, hR]; rfl
      have LV2 : Hid (vs2.length = R) := by show _ = _; rw [rows_len VS2.out, SL2.out]
      have R1 : R ≤ 83 := by omega
      have R2 : (R : Int) = 2 * k + 1 := by omega
      obtain ⟨g2, x2, hlv2⟩ : ∃ g x, lv2 = .slice (some ⟨g, 0, none⟩) R x := by
        obtain ⟨p1, hp1, _⟩ := row_get VS2.out (i := 0) (s := S2[0]'(by rw [SL2.out]; omega)) (List.getElem?_eq_getElem (by rw [SL2.out]; omega))
        obtain ⟨g, x, hlv, _⟩ := row_cell H2.out 0 rfl hp1
        rw [LV2.out] at hlv
        exact ⟨g, x, hlv⟩
      subst hlv2
      clear H hP hS2
      have HRK := Lib.hid hR
      have HR2 := Lib.hid R2
      clear hR R2
      obtain ⟨j0, ji, jz0, jz1, jz2⟩ := info_parts info_rowsl
      replace ji := Lib.hid ji
      replace jz0 := Lib.hid jz0
      replace jz1 := Lib.hid jz1
      replace jz2 := Lib.hid jz2
      have H3 : Hid (Side w w4 (wideT 1 23 (.slice none 0 0) (oddV vs2 0) :: rowsTs (.slice (some ⟨g2, 0, none⟩) R x2) vs2)) := H2.out.add (b := wideT 1 23 (.slice none 0 0) []) (Chg.refl _ _) (OwnW.nil _ _ _ _) (fun k hk => by cases hk)
      clear H2
      go_wp2_with fail
      go_loopw [12, 13] (fun dv i wr => ∃ j I : Nat, j ≤ k ∧ Hid (I = 2 * j + 1) ∧ i = .int .i64 I ∧ Hid (Side w wr (wideT 1 23 dv (oddV vs2 j) :: rowsTs (.slice (some ⟨g2, 0, none⟩) R x2) vs2))) (fun _ i _ => R - (intOf i).toNat)
      case atStart => exact ⟨0, 1, Nat.zero_le _, rfl, rfl, H3⟩
      case round =>
        obtain ⟨j, I, hj, HI, rfl, H⟩ := hrel
        clear H3
        have I0 : (0 : Int) ≤ I := Int.natCast_nonneg _
        have HO := Lib.hid (show OwnW 1 wr 0 23 u12 (oddV vs2 j) from H.out.get 0 rfl)
        obtain ⟨qo, qc, hlv⟩ := HO.out.slice
        rw [oddV_len] at hlv
        subst hlv
        by_cases hlt : j < k
        · have I1 : (I : Int) < R := by have := HI.out; have := HRK.out; omega
          obtain ⟨sx, hs⟩ : ∃ sx, S2[2 * j + 1]? = some sx := ⟨_, List.getElem?_eq_getElem (by rw [SL2.out]; have := HRK.out; omega)⟩
          obtain ⟨p, hp, hps⟩ := row_get VS2.out hs
          obtain ⟨g', x', hg', hcell⟩ := row_cell H.out 1 rfl hp
          obtain ⟨rfl, -, -⟩ : g2 = g' ∧ R = vs2.length ∧ x2 = x' := by simpa using hg'
          have hsl := (row_sl H.out 2 rfl hp hps).1
          obtain ⟨xo, xc, hxv⟩ := hsl.slice
          rw [ints_length, (S28.out sx (List.mem_of_getElem? hs)).1] at hxv
          have hsucc := Lib.hid (oddV_succ hp)
          rw [hxv, ← HI.out] at hcell
          have HX : Hid (p.1 = .slice xo 128 xc) := hxv
          have OR : Hid (wr.ownsRow 0 23 1 (.slice qo j qc) j (oddV vs2 j).flatten) := by
            have h := HO.out.2
            rw [oddV_len] at h
            exact h
          have HB1 : Hid (j + 1 ≤ maxLen) := by show j + 1 ≤ maxLen; unfold maxLen; omega
          have HB2 : Hid ((j + 1) * 24 ≤ 140737488355328) := by show _ ≤ _; omega
          clear hs hp hps hg' hsl hxv HO
          go_wp2_with (refine wpList_append_three _ rfl (.tmp 77) (.tmp 82) 27 rfl 0 23 j0 (.slice none 0 0) 1 24 Try.underlying27 ji.out jz0.out jz1.out jz2.out rfl (by decide) _ j _ rfl (OR.out.alloc _) ⟨wr.heap.size, 0, none⟩ 1 1 [.slice xo 128 xc] rfl rfl (new_cell _ _ _) (by simp [Value.oneCell']) HB1.out HB2.out (Nat.zero_le _) ?_; intro lv' wn ol gr nb)
          have CG : Hid (Chg (Value.slice qo j qc).ownBlock.toList wr wn) := (((Chg.refl [] wr).alloc _).mono (by simp)).grown gr.out (fun j2 hj => .inl (by have hj2 : (Value.slice qo j qc).ownBlock = some j2 := hj; rw [hj2]; simp))
          have H2 : Hid (Side w wn (wideT 1 23 lv' (oddV vs2 (j + 1)) :: rowsTs (.slice (some ⟨g2, 0, none⟩) R x2) vs2)) := by
            have h := more_wides (X := [[.slice xo 128 xc]]) H.out (fun y hy => by rw [List.mem_singleton.1 hy]; rfl) CG.out (by rw [oddV_len]; rfl) ol.out (nb_of nb.out (by simp))
            rw [hsucc.out, HX.out]
            exact h
          have e2 : (I : Int) + 2 = ((I + 2 : Nat) : Int) := by omega
          clear ol gr nb CG H OR hsucc HX HB1 HB2
          go_wp2_with fail
          exact ⟨⟨j + 1, I + 2, by omega, (by show _ = _; have := HI.out; omega), by go_num, H2⟩, by simp [intOf]; omega⟩
        · obtain rfl : j = k := by omega
          have I1 : ¬ (I : Int) < R := by have := HI.out; have := HRK.out; omega
          clear hlt
          obtain ⟨A, hA⟩ : ∃ A, A = j + 5 := ⟨_, rfl⟩
          have hA2 : (j : Int) + 5 = (A : Int) := by omega
          have A2 : A ≤ 46 := by omega
          have A3 : 5 ≤ A := by omega
          obtain ⟨B, hB⟩ : ∃ B, B = 128 * A := ⟨_, rfl⟩
          have hB2 : (A : Int) * 128 = (B : Int) := by omega
          have B2 : B ≤ 6000 := by omega
          have HBA := Lib.hid hB
          clear hA hB
          obtain ⟨b0, bi, bz0, bz1, bz2⟩ := info_parts info_b8
          replace bi := Lib.hid bi
          replace bz0 := Lib.hid bz0
          replace bz1 := Lib.hid bz1
          replace bz2 := Lib.hid bz2
          obtain ⟨wq, hwq⟩ : ∃ wq, wq = wr := ⟨_, rfl⟩
          have RW := odd_rws H.out 1 rfl VS2.out S28.out (by rw [SL2.out]; have := HRK.out; omega) (by omega)
          go_wp2_with (at_make; refine wpList_make_full _ rfl _ _ 23 rfl wr.heap.size 5 b0 (.int .u8 0) 1 Try.underlying23 bi.out bz0.out bz1.out .i64 .i64 _ _ B rfl rfl rfl rfl (by rw [bz2.out]; omega) (by unfold maxLen; omega) (Nat.le_refl _) ?_; intro wm hown hgrow)
          rw [made_replicate _ _ rfl, ← noughts_ub] at hown
          have CM : Chg [] wr wm := (Chg.refl _ _).grown hgrow (fun k hk => by cases hk)
          have CW : Hid (Chg [] w wm) := H.out.chg.trans CM
          obtain ⟨E, hE⟩ : ∃ E, E = (List.range j).map fun i => S2.getD (2 * i + 1) [] := ⟨_, rfl⟩
          have EL : E.length = j := by rw [hE]; simp
          have E8 : ∀ x ∈ E, x.length = 128 ∧ Bs x := fun x hx => by
            rw [hE] at hx
            obtain ⟨i, hi, rfl⟩ := List.mem_map.1 hx
            have hi := List.mem_range.1 hi
            have h9 : 2 * i + 1 < S2.length := by rw [SL2.out]; have := HRK.out; omega
            rw [List.getD_eq_getElem?_getD, List.getElem?_eq_getElem h9]
            exact S28.out _ (List.getElem_mem h9)
          have SR : SecRows (oddD vs2 S2 j) E := by rw [hE]; show _ = _; simp [oddD]
          have LA := laid_any (.slice (some ⟨wr.heap.size, 0, none⟩) B B) (.slice qo j qc) (Sc.noughts B) A 0 _ E wm (Sl.owned (n := B) hown) (by rw [Sc.noughts_len]; exact HBA.out) (by omega) (by omega) (by omega) (RW.chg CM) SR (fun x hx => (E8 x hx).1) (by omega)
          have E0 : ∃ b, b.length = 128 ∧ Sc.sec (Sc.layK (Sc.noughts B) 0 E E.length) 0 = escV b := by
            refine ⟨(Sc.at' P 0).bs, ?_, ?_⟩
            · have h9 : 0 < P.length := by rw [PL.out]; omega
              rw [Sc.at'_eq (List.getElem?_eq_getElem h9)]
              exact (GP.out.2.2 _ (List.getElem_mem h9)).2.2.1
            · have h9 : S2[1]? = some (escV (Sc.at' P 0).bs) := by rw [HS2.out]; exact Sc.secs_dt 9 s' (i := 0) (by rw [PL.out]; omega)
              have h8 : E[0]? = some (escV (Sc.at' P 0).bs) := by
                rw [hE, List.getElem?_map, List.getElem?_range (by omega)]
                simp [List.getD_eq_getElem?_getD, h9]
              exact Sc.sec_layK (by rw [Sc.noughts_len]; have := HBA.out; omega) (fun x hx => (E8 x hx).1) 0 (Nat.le_refl _) (by rw [Sc.noughts_len]; have := HBA.out; omega) (j := 0) (by omega) h8
          obtain ⟨b, hb8, hsec⟩ := E0
          have DN := Sc.forged_done (ep := 9) (sq := s) hb8 hsec
          have RL : (Sc.layK (Sc.noughts B) 0 E E.length).length = 128 * A := by
            rw [Sc.layK_len (by rw [Sc.noughts_len]; have := HBA.out; omega) (fun x hx => (E8 x hx).1) 0 (Nat.le_refl _), Sc.noughts_len]; exact HBA.out
          have RB : Bs (Sc.layK (Sc.noughts B) 0 E E.length) := Sc.layK_bs (Sc.noughts_bs _) (fun x hx => (E8 x hx).2) 0 _
          obtain ⟨rg, hrg⟩ : ∃ rg, rg = Sc.layK (Sc.noughts B) 0 E E.length := ⟨_, rfl⟩
          rw [← hrg] at LA DN RL RB
          have OK : OfOk A 9 s 0 rg := ⟨RL, by omega, by omega, ⟨⟨by show 9 ≤ _; decide, by show 1 ≤ s; omega, by show s ≤ _; omega⟩, by show (0 : Int) ≤ 0; decide, by show (0 : Int) ≤ 2047; decide⟩, by omega⟩
          have DNH := Lib.hid DN
          have OKH := Lib.hid OK
          have RBH := Lib.hid RB
          have RLH := Lib.hid RL
          refine Calls.mono (show Calls Try.prog 11 #[.slice (some ⟨wr.heap.size, 0, none⟩) B B, .int .i64 0, .slice qo j qc] wm _ from LA) ?_
          rintro e w6 ⟨rv, rfl, O6, C6⟩
          clear LA SR EL E8 RW CM hown hgrow H hsec hb8 hrg DN OK RB RL hE
          go_wp2_with fail
          obtain ⟨rb, rcap, hrv, _⟩ := own_some O6.out (by rw [RLH.out]; omega)
          rw [RLH.out] at hrv
          have O7 : w6.ownsRow wm.heap.size 5 1 rv rg.length (ub rg) := O6.out
          have SLV : Sl w6 rv (ints rg) := Sl.owned (n := rg.length) O7
          have CAP : Cap rv := owned_capd O7
          have LTB : rb < w6.heap.size := (O7.lt rb (by rw [hrv]; simp [Value.ownBlock])).2
          subst hrv
          have k9 := of_done DNH.out OKH.out RBH.out rb 0 rcap w6 (CAP _ _ _ rfl) LTB SLV
          refine Calls.mono (show Calls Try.prog 12 #[.slice (some ⟨rb, 0, none⟩) (128 * A) rcap, .agg #[.int .u64 9, .int .u64 (s : Int), .int .i64 0]] w6 _ from k9) ?_
          rintro e w7 ⟨ao7, c7, rfl, C7⟩
          obtain ⟨hd7, hhd7⟩ : ∃ hd7, hd7 = (0 + 0) % A := ⟨_, rfl⟩
          rw [← hhd7]
          have F7 := Blk.made w7 [.slice ao7 0 c7, .int .u64 (s : Int), .int .i64 (hd7 : Int), .int .i64 0] 41
          have y0 := F7.cell (j := 0) rfl
          have y1 := F7.cell (j := 1) rfl
          have CE : Hid (Chg [] w (w7.alloc (.cells #[.slice ao7 0 c7, .int .u64 (s : Int), .int .i64 (hd7 : Int), .int .i64 0] 41))) := ((CW.out.trans C6.out).trans C7.out).alloc _
          clear k9 hhd7 F7 O7 SLV CAP LTB C7 C6
          go_wp2_with fail
          go_ret
          exact ⟨rfl, CE.out⟩

end Go.Proofs.Ytnkdgmnmmmjgjaa
