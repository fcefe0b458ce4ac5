/-
  ScanBack: its walk. By an AI agent.
-/
import Derived.Test.YtnkdgmnmmmjgjaaScLawO
import Derived.Test.YtnkdgmnmmmjgjaaRefCrc
import Derived.Deep.CutBlock
import Derived.Deep.CutRange
namespace Go.Proofs.Ytnkdgmnmmmjgjaa
open Go.RowKit Crc

/-- The numbers of what a scan of a ring with batches comes to. -/
structure BackF (n at_ fi : Nat) (A : List PlD) (R : List Nat) : Prop where
  len : R.length = 128 * n
  bs : Bs R
  good : ∀ l ∈ A.map pdsOf, Sc.Good l
  secs : ∀ (j : Nat) (s : List Nat), (gchain fi A)[j]? = some s → Sc.sec R (at_ + j) = s
  fits : (gchain fi A).length ≤ n

theorem backF {n at_ fi : Nat} {A : List PlD} {R : List Nat} (hn : 1 ≤ n) (hl : R.length = 128 * n) (hb : Bs R) (hg : ∀ l ∈ A.map pdsOf, Sc.Good l) (hf : (gchain fi A).length ≤ n) : BackF n at_ fi A (Sc.layK R at_ (gchain fi A) (gchain fi A).length) := by
  have C8 : ∀ x ∈ gchain fi A, x.length = 128 ∧ Bs x := Sc.chain_ok hg
  refine ⟨?_, Sc.layK_bs hb (fun s hs => (C8 s hs).2) at_ _, hg, fun j s h => ?_, hf⟩
  · rw [Sc.layK_len (by omega) (fun s hs => (C8 s hs).1) at_ (Nat.le_refl _), hl]
  · exact Sc.sec_layK (by omega) (fun s hs => (C8 s hs).1) at_ (Nat.le_refl _) (by omega) (List.getElem?_eq_some_iff.1 h).1 h

theorem chain_few : ∀ (L : List (List Pd)) (ep s : Nat), L.length ≤ (Sc.chain ep s L).length
  | [], _, _ => Nat.zero_le _
  | a :: L, ep, s => by
    show L.length + 1 ≤ (Sc.secs ep s a ++ Sc.chain ep (s + 1) L).length
    rw [List.length_append, Sc.secs_len]
    have := chain_few L ep (s + 1)
    omega

theorem done_few {R : List Nat} {ep at_ sq u n : Nat} {L : List (List Pd)} (hb : Bs R) (hl : R.length = 128 * n) (hn : 1 ≤ n) (D : Sc.Done R ep at_ sq L u) : L.length ≤ n ∧ ∀ l ∈ L, Sc.Good l := by
  obtain ⟨e, g, _, _⟩ := D.1.own hb (by omega)
  have h1 := chain_few L ep sq
  have h2 := D.1.fits
  exact ⟨by omega, g⟩

/-- What lies in the ring is found, first of all. -/
theorem BackF.first {n at_ fi u : Nat} {A : List PlD} {R : List Nat} {L : List (List Pd)} (F : BackF n at_ fi A R) (h1 : 1 ≤ fi) (hf : fi ≤ 65536) (hA : A.length ≤ 100) (D : Sc.Done R 9 at_ fi L u) : A.length ≤ L.length ∧ L.take A.length = A.map pdsOf := by
  have hq : R.length / 128 = n := by have := F.len; omega
  have G : Sc.Got R 9 at_ fi (A.map pdsOf) (Sc.chain 9 fi (A.map pdsOf)).length := Sc.got_of F.bs (by decide) h1 (A.map pdsOf) F.secs F.good (by rw [hq]; exact F.fits) (by rw [List.length_map]; omega)
  have h := G.ahead D
  rw [List.length_map] at h
  exact ⟨h.2, h.1⟩

theorem BackF.other {n at_ fi : Nat} {A : List PlD} {R : List Nat} (F : BackF n at_ fi A R) (h1 : 1 ≤ fi) (hf : fi ≤ 65536) (hA : 1 ≤ A.length) : Sc.Done R 8 at_ fi [] 0 := by
  obtain ⟨d, hd⟩ : ∃ d, A[0]? = some d := ⟨_, List.getElem?_eq_getElem hA⟩
  have hl : (A.map pdsOf)[0]? = some (pdsOf d) := by rw [List.getElem?_map, hd]; rfl
  have ca := (Sc.chain_take_lt 9 fi hl).2
  have LD : Sc.Laid R at_ 9 fi (pdsOf d) := Sc.laid_of fun j s h => F.secs j s (by have := ca j s h; show (Sc.chain 9 fi (A.map pdsOf))[j]? = some s; simpa [Sc.chain] using this)
  exact Sc.epoch_done LD ⟨by decide, h1, by omega⟩ (F.good _ (List.mem_of_getElem? hl)) (by decide)

theorem gchain_at {fi : Nat} {A : List PlD} {w : Nat} {d : PlD} (h : A[w]? = some d) : (gchain fi (A.take (w + 1))).length = (gchain fi (A.take w)).length + (2 * (pdsOf d).length + 1) := by
  have hl : (A.take w).length = w := by rw [List.length_take]; have := (List.getElem?_eq_some_iff.1 h).1; omega
  rw [take_snoc h, gchain_snoc, List.length_append, Sc.secs_len]

theorem gchain_all {fi : Nat} {A : List PlD} : gchain fi (A.take A.length) = gchain fi A := by rw [List.take_length]

/-- One sector hurt. -/
theorem BackF.hurt {n at_ fi bad w : Nat} {A : List PlD} {R : List Nat} (F : BackF n at_ fi A R) (hn : 1 ≤ n) (h1 : 1 ≤ fi) (hf : fi ≤ 65536) (hA : A.length ≤ 100) (hw : w < A.length) (hb1 : (gchain fi (A.take w)).length ≤ bad) (hb2 : bad < (gchain fi (A.take (w + 1))).length) (hun : sum (Sc.sec R (at_ + bad)) ≠ sum Sc.zeros) :
    ∃ u, Sc.Done (Sc.lay R (at_ + bad) Sc.zeros) 9 at_ fi ((A.map pdsOf).take w) u := by
  obtain ⟨d, hd⟩ : ∃ d, A[w]? = some d := ⟨_, List.getElem?_eq_getElem hw⟩
  have hl : (A.map pdsOf)[w]? = some (pdsOf d) := by rw [List.getElem?_map, hd]; rfl
  have e := gchain_at (fi := fi) hd
  have e1 : (Sc.chain 9 fi ((A.map pdsOf).take w)).length = (gchain fi (A.take w)).length := by unfold gchain; rw [List.map_take]
  have hq : R.length / 128 = n := by have := F.len; omega
  have e2 : bad = (Sc.chain 9 fi ((A.map pdsOf).take w)).length + (bad - (gchain fi (A.take w)).length) := by omega
  rw [e2] at hun ⊢
  exact ⟨_, Sc.hurt_done F.bs (by have := F.len; omega) (by decide) h1 F.secs F.good (by rw [hq]; exact F.fits) (by rw [List.length_map]; omega) hl (by omega) hun⟩

/-- What Of tells of any ring. -/
def OfH (w : World) (bs : List Nat) (ep tl sq : Nat) (e : Ending) (w' : World) : Prop := ∃ (ao : Option Addr) (k c nx hd us : Nat) (T : List Tx), e = .returned (.tuple #[.agg #[.slice ao k c, .int .u64 (nx : Int), .int .i64 (hd : Int), .int .i64 (us : Int)], .int .u16 0]) ∧ Hid (k = T.length) ∧ Hid (∃ u, Sc.Done bs ep tl sq (found T) u) ∧
  k ≤ c ∧ Hid (Side w w' [wideT 2 33 (.slice ao k c) (txSlots sq T), poolWT 3 49 (listsOf T), poolT (dataOf T)])

theorem of_any9 {bs : List Nat} {n ep sq tl : Nat} (ok : OfOk n ep sq tl bs) (hb : Bs bs) (rb ro cap : Nat) (w : World) (hcap : 128 * n ≤ cap) (hrb : rb < w.heap.size) (hsl : Sl w (.slice (some ⟨rb, ro, none⟩) (128 * n) cap) (ints bs)) :
    Calls Try.prog 12 #[.slice (some ⟨rb, ro, none⟩) (128 * n) cap, .agg #[.int .u64 (ep : Int), .int .u64 (sq : Int), .int .i64 (tl : Int)]] w (OfH w bs ep tl sq) := by
  refine (of_ok ok hb rb ro cap w hcap hrb hsl).mono ?_
  rintro e w' ⟨tv, T, u, D, rfl, H⟩
  have ow : OwnW 2 w' 0 33 tv (txSlots sq T) := H.out.get 0 rfl
  obtain ⟨ao, c, hv⟩ := ow.slice
  rw [txSlots_len] at hv
  have hc : T.length ≤ c := by rw [hv] at ow; exact owned_cap ow.2
  subst hv
  exact ⟨ao, T.length, c, _, _, u, T, rfl, rfl, ⟨u, D⟩, hc, H⟩

/-- The first of what was found is what was gathered. -/
theorem back_same {w0 w : World} {ao bo : Option Addr} {k c m c2 n fi u ep tl : Nat} {R : List Nat} {T : List Tx} {A : List PlD} (h : Side w0 w [wideT 2 33 (.slice ao k c) (txSlots fi T), poolWT 3 49 (listsOf T), poolT (dataOf T)]) (hb : Bs R) (hl : R.length = 128 * n) (hn : 1 ≤ n) (hn2 : n ≤ 1000)
    (D : Sc.Done R ep tl fi (found T) u) (hm : m ≤ T.length) (hA : m ≤ A.length) (e : (found T).take m = (A.map pdsOf).take m) (hp : ∀ d ∈ A, ∀ p ∈ d.ps, PdIs p (pdOf p))
    (ow : OwnW 2 w 0 33 (.slice bo A.length c2) (txA fi A)) (hA2 : A.length ≤ 1000) (ht : ∀ d ∈ A, Pts w d.v d.ps) (x y : Nat) :
    Calls Try.prog 13 #[.slice ao m x, .slice bo m y] w fun e w' => e = .returned (.bool true) ∧ ∃ q', w' = w.drewN q' := by
  obtain ⟨few, good⟩ := done_few hb hl hn D
  have hfl : (found T).length = T.length := by simp [found]
  have t1 : Txs w (.slice ao k c) (txFs fi T) := txs_found h (by omega) (fun t ht => good _ (List.mem_map_of_mem ht))
  have t2 := txs_gath ow (by omega) ht
  have p1 := t1.pre (k := m) (by rw [txFs_len]; exact hm) x
  have p2 := t2.pre (k := m) (by rw [txDs_len]; exact hA) y
  refine sameTxns_true _ _ _ _ _ p1 p2 (by rw [List.length_take, List.length_take, txFs_len, txDs_len]; omega) (fun j p q hp1 hq1 => ?_)
  have hj : j < m := by have := (List.getElem?_eq_some_iff.1 hp1).1; rw [List.length_take] at this; omega
  rw [List.getElem?_take, if_pos hj] at hp1 hq1
  have ht1 := List.getElem?_eq_getElem (show j < T.length by omega)
  have hd1 := List.getElem?_eq_getElem (show j < A.length by omega)
  rw [txFs_at fi ht1] at hp1
  rw [txDs_at fi hd1] at hq1
  obtain rfl := Option.some.inj hp1
  obtain rfl := Option.some.inj hq1
  have e1 : ((found T).take m)[j]? = some (dOf T[j].2) := by rw [List.getElem?_take, if_pos hj]; unfold found; rw [List.getElem?_map, ht1]; rfl
  rw [e, List.getElem?_take, if_pos hj, List.getElem?_map, hd1] at e1
  exact tx_alike (Option.some.inj e1).symm (hp _ (List.getElem_mem _)) _ _

set_option maxHeartbeats 8000000 in
set_option maxRecDepth 100000 in
theorem back_any (z tl sq hu : Nat) (ob : Option Addr) (ol oc : Nat) (v : Value) (old : List Nat) (ds : List PlD) (w : World) (hz : z ≤ 255) (ht : tl ≤ 255) (hsq : sq ≤ 65535) (hhu : hu ≤ 65535) (ho : Sl w (.slice ob ol oc) (ints old)) (hob : Bs old) (h : Pls w v ds) :
    Calls Try.prog 3 #[.int .u8 (z : Int), .int .u8 (tl : Int), .int .u16 (sq : Int), .slice ob ol oc, v, .int .u16 (hu : Int)] w fun e W' => e = .returned (.bool true) ∧ Chg [] w W' := by
  obtain ⟨ao, vc, rfl⟩ := h.slice
  have big := h.len
  have HP : Hid (∀ w', Chg [] w w' → Pls w' (.slice ao ds.length vc) ds) := fun w' c => h.chg c
  have hol : ol = old.length := by
    obtain ⟨o2, c2, e2⟩ := ho.slice
    rw [ints_length] at e2
    injection e2
  have HO : Hid (∀ w', Chg [] w w' → Sl w' (.slice ob ol oc) (ints old)) := fun w' c => ho.chgNil c
  obtain ⟨N, hN⟩ : ∃ N, N = ds.length := ⟨_, rfl⟩
  rw [← hN] at big HP ⊢
  have HN := Lib.hid hN
  have HOL := Lib.hid hol
  have HOB := Lib.hid hob
  clear h hN ho hol hob
  obtain ⟨n, hn⟩ : ∃ n, n = z % 60 + 5 := ⟨_, rfl⟩
  obtain ⟨at_, hat⟩ : ∃ at_, at_ = tl % n := ⟨_, rfl⟩
  obtain ⟨fi, hfi⟩ : ∃ fi, fi = sq + 1 := ⟨_, rfl⟩
  have n1 : 5 ≤ n := by omega
  have n2 : n ≤ 64 := by omega
  have a1 : at_ < n := by rw [hat]; exact Nat.mod_lt _ (by omega)
  have z0 : (0 : Int) ≤ z := Int.natCast_nonneg _
  have z1 : (z : Int) ≤ 255 := by omega
  obtain ⟨z6, hz6⟩ : ∃ z6, z6 = z % 60 := ⟨_, rfl⟩
  have z2 : (z : Int) % 60 = (z6 : Int) := by rw [hz6]; push_cast; rfl
  have z3 : (z6 : Int) + 5 = (n : Int) := by omega
  have z4 : Int.tmod (z : Int) 60 = (z6 : Int) := (Int.tmod_eq_emod_of_nonneg z0).trans z2
  have t0 : (0 : Int) ≤ tl := Int.natCast_nonneg _
  have t1 : (tl : Int) ≤ 255 := by omega
  have t2 : (tl : Int) % n = (at_ : Int) := by rw [hat]; push_cast; rfl
  have t3 : Int.tmod (tl : Int) n = (at_ : Int) := (Int.tmod_eq_emod_of_nonneg t0).trans t2
  have s3 : fi ≤ 65536 := by omega
  have s4 : 1 ≤ fi := by omega
  have n0 : ¬ n = 0 := by omega
  have HFI := Lib.hid hfi
  clear hz ht hn hat hfi hz6
  go_enter Try.func3, Try.ntmps3
  go_wp2_with fail
  refine (known_any _).mono ?_
  rintro e w1 ⟨rfl, C1⟩
  clear z0 z1 z2 z3 z4 t0 t1 t2 t3
  by_cases hbig : 300000 < ol ∨ 60 < N
  case pos =>
    rcases Nat.lt_or_ge 300000 ol with c | c
    · have c1 : (300000 : Int) < ol := by omega
      clear hbig c
      go_wp2_with fail
      refine (known_any _).mono ?_
      rintro e w2 ⟨rfl, C2⟩
      go_wp2_with fail
      go_ret
      exact ⟨rfl, C1.out.trans C2.out⟩
    · have c1 : ¬ (300000 : Int) < ol := by omega
      have c2 : (60 : Int) < N := by omega
      clear hbig c
      go_wp2_with fail
      refine (known_any _).mono ?_
      rintro e w2 ⟨rfl, C2⟩
      go_wp2_with fail
      go_ret
      exact ⟨rfl, C1.out.trans C2.out⟩
  have b1 : ¬ (300000 : Int) < ol := by omega
  have b2 : ¬ (60 : Int) < N := by omega
  have N60 : N ≤ 60 := by omega
  have ol3 : ol ≤ 300000 := by omega
  obtain ⟨b0, bi, bz0, bz1, bz2⟩ := info_parts info_b8
  replace bi := Lib.hid bi
  replace bz0 := Lib.hid bz0
  replace bz1 := Lib.hid bz1
  replace bz2 := Lib.hid bz2
  obtain ⟨BL, hBL⟩ : ∃ BL, BL = 128 * n := ⟨_, rfl⟩
  have e1 : (n : Int) * 128 = (BL : Int) := by omega
  have e2 : BL ≤ 8192 := by omega
  have e3 : 640 ≤ BL := by omega
  have HBL := Lib.hid hBL
  clear hBL hbig
  go_upto_block 0 with (at_make; refine wpList_make_full _ rfl _ _ 23 rfl w1.heap.size 5 b0 (.int .u8 0) 1 Try.underlying23 bi.out bz0.out bz1.out .i64 .i64 _ _ BL rfl rfl rfl rfl (by rw [bz2.out]; omega) (by unfold maxLen; omega) (Nat.le_refl _) ?_; intro wm hown hgrow)
  rw [made_replicate _ _ rfl, ← noughts_ub] at hown
  have H0 : Hid (Side w wm [ownT 5 (.slice (some ⟨w1.heap.size, 0, none⟩) BL BL) (ub (laying (Sc.noughts BL) 0 old 0))]) := by
    rw [laying_zero]
    exact (Side.nil C1.out).own hown ((Chg.refl _ _).grown hgrow (fun k hk => by cases hk))
  clear hown hgrow C1 b1 b2 e1
  obtain ⟨g, hg⟩ : ∃ g, g = w1.heap.size := ⟨_, rfl⟩
  rw [← hg] at H0 ⊢
  clear hg
  go_cut [16] from 63 to 81 (fun s16 wx => ∃ R0 : List Nat, Hid (R0.length = 128 * n) ∧ Hid (Bs R0) ∧ Hid (Side w wx [ownT 5 (.slice (some ⟨g, 0, none⟩) BL BL) (ub R0)]))
  case first =>
    go_wp2_with fail
    go_loopw [16] (fun i wr => ∃ k : Nat, k ≤ BL ∧ k ≤ ol ∧ i = .int .i64 k ∧ Hid (Side w wr [ownT 5 (.slice (some ⟨g, 0, none⟩) BL BL) (ub (laying (Sc.noughts BL) 0 old k))])) (fun i _ => BL - (intOf i).toNat)
    case atStart => exact ⟨0, Nat.zero_le _, Nat.zero_le _, rfl, H0⟩
    case round =>
      obtain ⟨k, hk, hk2, rfl, H⟩ := hrel
      clear H0
      have hk0 : (0 : Int) ≤ k := Int.natCast_nonneg _
      by_cases hlt : k < BL ∧ k < ol
      · obtain ⟨q1, q2⟩ := hlt
        have q3 : (k : Int) < BL := by omega
        have q4 : (k : Int) < ol := by omega
        obtain ⟨y, hy⟩ : ∃ y, old[k]? = some y := ⟨_, List.getElem?_eq_getElem (by rw [← HOL.out]; exact q2)⟩
        obtain ⟨xb, xo, rfl, hb⟩ := sl_at (HO.out wr H.out.chg) (k := k) (by rw [ints_length, ← HOL.out]; exact q2)
        rw [ints_get, List.getD_eq_getElem?_getD, hy, Option.getD_some] at hb
        obtain ⟨H2, hf, u0, hu⟩ := H.out.set 0 rfl (k := k) (by rw [ub_len, laying_len (by rw [Sc.noughts_len]; omega) (by rw [← HOL.out]; omega), Sc.noughts_len]; omega) (.int .u8 (y : Int))
        have e4 : (ub (laying (Sc.noughts BL) 0 old k)).set k (.int .u8 (y : Int)) = ub (laying (Sc.noughts BL) 0 old (k + 1)) := by
          have h9 := laying_set (cur := Sc.noughts BL) (k := 0) (by rw [Sc.noughts_len]; omega) hy
          rw [← h9, Nat.zero_add]
          exact (ub_set _ _ _).symm
        rw [e4] at H2
        replace H2 := Lib.hid H2
        clear hy e4 H
        go_wp2_with fail
        exact ⟨⟨k + 1, by omega, by omega, by go_num, H2⟩, by simp [intOf]; omega⟩
      · obtain ⟨R0, hR0⟩ : ∃ R0, R0 = laying (Sc.noughts BL) 0 old k := ⟨_, rfl⟩
        have R0L : Hid (R0.length = 128 * n) := by
          show _ = _
          rw [hR0, laying_len (by rw [Sc.noughts_len]; omega) (by rw [← HOL.out]; omega), Sc.noughts_len, HBL.out]
        have R0B : Hid (Bs R0) := by
          show Bs _
          rw [hR0]
          unfold laying
          intro x hx
          rcases List.mem_append.1 hx with hx | hx
          · rcases List.mem_append.1 hx with hx | hx
            · exact Sc.noughts_bs _ x (List.mem_of_mem_take hx)
            · exact HOB.out x (List.mem_of_mem_take hx)
          · exact Sc.noughts_bs _ x (List.mem_of_mem_drop hx)
        rw [← hR0] at H
        clear hR0
        rcases Nat.lt_or_ge k BL with c | c
        · have q3 : (k : Int) < BL := by omega
          have q4 : ¬ (k : Int) < ol := by omega
          clear hlt c
          go_wp2_with fail
          go_meet
          exact ⟨R0, R0L, R0B, H⟩
        · have q3 : ¬ (k : Int) < BL := by omega
          clear hlt c
          go_wp2_with fail
          go_meet
          exact ⟨R0, R0L, R0B, H⟩
  case rest =>
    rename World => wb
    obtain ⟨R0, R0L, R0B, H0⟩ := hcut
    have CW : Hid (Chg [] w wb) := H0.out.chg
    have OR0 := (show wb.ownsRow 0 5 1 (.slice (some ⟨g, 0, none⟩) BL BL) (ub R0).length (ub R0) from H0.out.get 0 rfl)
    have SR : Hid (∀ W, Chg [] wb W → Sl W (.slice (some ⟨g, 0, none⟩) BL BL) (ints R0)) := fun W c => (Sl.owned (n := (ub R0).length) OR0).chgNil c
    clear H0 OR0
    replace HP : Hid (∀ w', Chg [] wb w' → Pls w' (.slice ao N vc) ds) := fun w' c => HP.out w' (CW.out.trans c)
    have s0 : (0 : Int) ≤ sq := Int.natCast_nonneg _
    have s1 : (sq : Int) ≤ 65535 := by omega
    have s2 : (sq : Int) + 1 = (fi : Int) := by have := HFI.out; omega
    obtain ⟨i0, hi, hz0, hz1, hz2⟩ := info_parts info_int1
    replace hi := Lib.hid hi
    replace hz0 := Lib.hid hz0
    replace hz1 := Lib.hid hz1
    replace hz2 := Lib.hid hz2
    obtain ⟨j0, ji, jz0, jz1, jz2⟩ := info_parts info_rowsl
    replace ji := Lib.hid ji
    replace jz0 := Lib.hid jz0
    replace jz1 := Lib.hid jz1
    replace jz2 := Lib.hid jz2
    obtain ⟨k0, ki, kz0, kz1, kz2⟩ := info_parts info_txn
    replace ki := Lib.hid ki
    replace kz0 := Lib.hid kz0
    replace kz1 := Lib.hid kz1
    replace kz2 := Lib.hid kz2
    have HG0 : Hid (Side wb wb (gathTs (.slice none 0 0) (.slice none 0 0) (.slice none 0 0) (fun x => x) fi [] [])) := by
      have h0 := (Side.nil (Chg.refl [] wb)).add (b := wideT 2 33 (.slice none 0 0) []) (Chg.refl _ _) (OwnW.nil _ _ _ _) (fun k hk => by cases hk)
      have h1 := h0.add (b := ownT 3 (.slice none 0 0) []) (Chg.refl _ _) (World.ownsRow_nil _ _ _ _) (fun k hk => by cases hk)
      have h2 := h1.add (b := poolT []) (Chg.refl _ _) (Pool.nil _) (fun k hk => by cases hk)
      exact h2.add (b := wideT 1 23 (.slice none 0 0) []) (Chg.refl _ _) (OwnW.nil _ _ _ _) (fun k hk => by cases hk)
    go_upto_block 2 with fail
    clear s0 s1 s2
    go_cut [18, 19, 20, 21, 22, 23, 24] from 85 to 133 (fun av bv tv _ _ _ _ wx => ∃ (A : List PlD) (vs : List Rw), Hid (GoodA n fi ds A vs) ∧ A.length ≤ 60 ∧ Hid (Side wb wx (gathTs av bv tv (fun x => x) fi A vs)))
    case first =>
      go_wp2_with fail
      go_loopw [18, 19, 20, 21] (fun av bv tv i wr => ∃ (k : Nat) (A : List PlD) (vs : List Rw), k ≤ N ∧ A.length ≤ k ∧ i = .int .i64 k ∧ Hid (GoodA n fi ds A vs) ∧ Hid (Side wb wr (gathTs av bv tv (fun x => x) fi A vs))) (fun _ _ _ i _ => N - (intOf i).toNat)
      case atStart => exact ⟨0, [], [], Nat.zero_le _, Nat.le_refl _, rfl, GoodA.nil _ _ _, HG0⟩
      case round =>
        obtain ⟨k, A, vs, hk, hA, rfl, GA, H⟩ := hrel
        clear HG0
        have hk0 : (0 : Int) ≤ k := Int.natCast_nonneg _
        obtain ⟨M, hM⟩ : ∃ M, M = vs.length := ⟨_, rfl⟩
        have hMn : M ≤ n := by rw [hM, GA.out.len]; exact GA.out.fits
        have HM := Lib.hid hM
        obtain ⟨m, hm⟩ : ∃ m, m = A.length := ⟨_, rfl⟩
        have HMA := Lib.hid hm
        rw [← hm] at hA
        have O1 := Lib.hid (show OwnW 1 wr 0 23 u18 (rwSlots vs) from H.out.get 0 rfl)
        have O2 := Lib.hid (show wr.ownsRow 0 3 1 u19 (intV (begs (fun x => x) fi A)).length (intV (begs (fun x => x) fi A)) from H.out.get 2 rfl)
        have O3 := Lib.hid (show OwnW 2 wr 0 33 u20 (txA fi A) from H.out.get 3 rfl)
        obtain ⟨ao1, ac1, e1⟩ := O1.out.slice
        obtain ⟨ao2, ac2, e2⟩ := owns_slice O2.out
        obtain ⟨ao3, ac3, e3⟩ := O3.out.slice
        rw [show (rwSlots vs).length = vs.length by simp [rwSlots], ← hM] at e1
        rw [intV_len, begs_len, ← hm] at e2
        rw [txA_len, ← hm] at e3
        subst e1 e2 e3
        clear hM hm O1 O2 O3
        by_cases hkN : k < N
        case neg =>
          have hk1 : ¬ (k : Int) < N := by omega
          clear hkN
          go_wp2_with fail
          go_meet
          exact ⟨A, vs, GA, by rw [← HMA.out]; omega, H⟩
        have hk1 : (k : Int) < N := by omega
        obtain ⟨d, hd⟩ : ∃ d, ds[k]? = some d := ⟨_, List.getElem?_eq_getElem (by rw [← HN.out]; exact hkN)⟩
        have hdm := Lib.hid (List.mem_of_getElem? hd)
        obtain ⟨pb, po, rfl, hpb, I⟩ := (HP.out wr H.out.chg).at hd
        have c0 := I.c0
        have PT : Hid (∀ W, Chg [] wb W → Pts W d.v d.ps) := fun W c => by
          obtain ⟨pb', po', h9, _, I'⟩ := (HP.out W c).at hd
          exact I'.pt
        have PU := Lib.hid I.pu
        obtain ⟨xo, xc, hxv⟩ := I.pt.slice
        obtain ⟨D, hD⟩ : ∃ D, D = d.ps.length := ⟨_, rfl⟩
        rw [← hD] at hxv
        rw [hxv] at c0 PT
        have HX := Lib.hid hxv
        have MU : Hid (∀ W, Chg [] wb W → Calls Try.prog 9 #[.slice xo D xc] W fun e w'' => TellsB e ∧ Hid (Chg [] W w'')) := fun W c => much_any _ d.ps W (PT.out W c)
        have CC : Hid (∀ W, Chg [] wr W → W.cell? ⟨pb, po + k, none⟩ = some (.slice xo D xc)) := fun W c => by
          have := (I.chg hpb c).c0
          rw [hxv] at this
          exact this
        clear hd I hxv hD hpb
        go_wp2_with fail
        refine (MU.out _ H.out.chg).mono ?_
        rintro e w2 ⟨⟨b, rfl⟩, C2⟩
        have H2 := Lib.hid (H.out.quiet C2.out)
        clear H MU
        cases b
        case true =>
          go_wp2_with fail
          go_ret
          exact ⟨rfl, CW.out.trans H2.out.chg⟩
        have c2 := CC.out w2 C2.out
        clear c0
        obtain ⟨q, hq⟩ : ∃ q, q = fi + m := ⟨_, rfl⟩
        have q1 : (fi : Int) + m = (q : Int) := by omega
        have q2 : q ≤ 65600 := by omega
        have q3 : 1 ≤ q := by omega
        have W1 : IntKind.u64.wrap (m : Int) = (m : Int) := IntWalk.u64_in _ (by omega)
        have W2 : IntKind.u64.wrap (q : Int) = (q : Int) := IntWalk.u64_in _ (by omega)
        have HQ := Lib.hid hq
        clear hq
        go_wp2_with fail
        clear W1 W2
        have H3 := Lib.hid (H2.out.box [.int .u64 (q : Int), .slice xo D xc] 33)
        obtain ⟨w3, hw3⟩ : ∃ w3, w3 = w2.alloc (.cells #[.int .u64 (q : Int), .slice xo D xc] 33) := ⟨_, rfl⟩
        rw [← hw3] at H3 ⊢
        obtain ⟨tb, htb⟩ : ∃ tb, tb = w2.heap.size := ⟨_, rfl⟩
        rw [← htb] at H3 ⊢
        clear hw3 htb c2 H2
        by_cases h0 : scErr 9 q d.ps = 0
        case neg =>
          have k9 := sectors_no 9 q _ d.ps w3 (PT.out w3 H3.out.chg) h0
          obtain ⟨E, hE⟩ : ∃ E, E = scErr 9 q d.ps := ⟨_, rfl⟩
          rw [← hE] at k9 h0
          have ht : (E == 0) = false := by simpa using h0
          refine Calls.mono (show Calls Try.prog 10 #[.int .u64 9, .agg #[.int .u64 (q : Int), .slice xo D xc]] w3 _ from k9) ?_
          rintro e w4 ⟨rfl, C4⟩
          have H4 := Lib.hid (H3.out.tail.quiet C4.out)
          clear k9 hE h0 H3
          go_wp2_with fail
          exact ⟨⟨k + 1, A, vs, by omega, by rw [← HMA.out]; omega, by go_num, GA, H4⟩, by simp [intOf]; omega⟩
        have k9 := sectors_ok 9 q _ d.ps w3 (PT.out w3 H3.out.chg) (fun p hp => ⟨(PU.out p hp).1, (PU.out p hp).2⟩) h0
        obtain ⟨_, GD, PD⟩ := scErr_zero h0 (fun p hp => (PU.out p hp).1)
        replace GD := Lib.hid GD
        replace PD := Lib.hid PD
        refine Calls.mono (show Calls Try.prog 10 #[.int .u64 9, .agg #[.int .u64 (q : Int), .slice xo D xc]] w3 _ from k9) ?_
        rintro e w4 ⟨lv, vs2, rfl, VS2, HS⟩
        have H4 := Lib.hid (H3.out.stack HS.out)
        have L2 := rows_len VS2.out
        rw [Sc.secs_len] at L2
        obtain ⟨g5, x5, hlv⟩ := rows_lv (show OwnW 1 w4 0 23 lv (rwSlots vs2) from H4.out.get 0 rfl) (by omega)
        obtain ⟨M2, hM2⟩ : ∃ M2, M2 = vs2.length := ⟨_, rfl⟩
        rw [← hM2] at hlv
        subst hlv
        have HM2 := Lib.hid hM2
        have b1 : M2 ≤ 2047 := by have := GD.out.2.1; omega
        obtain ⟨MM, hMM⟩ : ∃ MM, MM = M + M2 := ⟨_, rfl⟩
        have b2 : (M : Int) + M2 = (MM : Int) := by omega
        have HMM := Lib.hid hMM
        clear k9 h0 hM2 hMM L2 HS H3
        by_cases hfit : MM ≤ n
        case neg =>
          have b3 : ¬ (MM : Int) ≤ n := by omega
          have H5 : Hid (Side wb w4 (gathTs (.slice ao1 M ac1) (.slice ao2 m ac2) (.slice ao3 m ac3) (fun x => x) fi A vs)) := H4.out.tail.tail.tail
          clear H4
          go_wp2_with fail
          exact ⟨⟨k + 1, A, vs, by omega, by rw [← HMA.out]; omega, by go_num, GA, H5⟩, by simp [intOf]; omega⟩
        have b3 : (MM : Int) ≤ n := by omega
        have HB : Hid (M = (fun x => x) (gchain fi A).length) := by show M = _; rw [HM.out, GA.out.len]
        have OB : Hid (w4.ownsRow 0 3 1 (.slice ao2 m ac2) m (intV (begs (fun x => x) fi A))) := by
          have h := (show w4.ownsRow 0 3 1 (.slice ao2 m ac2) (intV (begs (fun x => x) fi A)).length (intV (begs (fun x => x) fi A)) from H4.out.get 5 rfl)
          rw [intV_len, begs_len, ← HMA.out] at h
          exact h
        have LN2 : Hid ((vs2.map (·.1)).length = M2 * 1) := by show _ = _; rw [List.length_map, ← HM2.out, Nat.mul_one]
        have L1 : Hid (m + 1 ≤ maxLen) := by show _ ≤ _; unfold maxLen; omega
        have L2 : Hid ((m + 1) * 8 ≤ 140737488355328) := by show _ ≤ _; omega
        have L3 : Hid (M + M2 ≤ maxLen) := by show _ ≤ _; unfold maxLen; omega
        have L4 : Hid ((M + M2) * 24 ≤ 140737488355328) := by show _ ≤ _; omega
        have L5 : Hid ((m + 1) * 32 ≤ 140737488355328) := by show _ ≤ _; omega
        have F1 : Hid (k + 1 ≤ N) := hkN
        have F3 : Hid ((A ++ [d]).length ≤ k + 1) := by show _ ≤ _; rw [List.length_append, List.length_singleton, ← HMA.out]; omega
        have F4 : Hid (N - (k + 1) < N - k) := by show _ < _; omega
        have F5 : Hid (GoodA n fi ds (A ++ [d]) (vs ++ vs2)) := GA.out.snoc hdm.out GD.out PD.out (by rw [← HMA.out, ← HQ.out]; exact VS2.out) (by rw [← GA.out.len, ← HM.out, ← HM2.out, ← HMM.out]; exact hfit)
        have HXV := HX
        clear hfit hkN hA GA GD PD
        go_wp2_with (first
          | ((with_reducible refine wpList_append_three _ rfl (.tmp 122) (.tmp 125) 28 rfl 0 3 i0 (.int .i64 0) 1 8 Try.underlying28 hi.out hz0.out hz1.out hz2.out rfl (by decide) _ m _ rfl (OB.out.alloc _) ⟨w4.heap.size, 0, none⟩ 1 1 [.int .i64 (M : Int)] rfl rfl (new_cell _ _ _) (by simp [Value.oneCell']) L1.out L2.out (Nat.zero_le _) ?_); intro bv' w5 ol gr nb; have H5 := gath_beg H4 ol gr nb; have OA : Hid (w5.ownsRow 0 23 1 (.slice ao1 M ac1) M (vs.map (·.1))) := (rows_own (H5.out.get 2 rfl) HM.out.symm); have CL : Hid (∀ j u, (vs2.map (·.1))[j]? = some u → w5.cell? ((⟨g5, 0, none⟩ : Addr).add j) = some u) := (rows_cells (H5.out.get 0 rfl) HM2.out); have ONE := Lib.hid (rows_slices H5.out 1 rfl); clear ol gr nb H4 OB)
          | ((at_builtin; refine wpList_append_three _ rfl (.tmp 127) (.tmp 128) 27 rfl 0 23 j0 (.slice none 0 0) 1 24 Try.underlying27 ji.out jz0.out jz1.out jz2.out rfl (by decide) _ M _ rfl OA.out ⟨g5, 0, none⟩ M2 x5 (vs2.map (·.1)) rfl LN2.out CL.out ONE.out L3.out L4.out (Nat.zero_le _) ?_); intro av' w6 ol gr nb; have H6 := gath_rows H5 (n := M + M2) (by rw [HM.out, HM2.out]) ol gr nb; have OT : Hid (w6.ownsRow 0 33 2 (.slice ao3 m ac3) m (txA fi A).flatten) := (by have h := (show OwnW 2 w6 0 33 (.slice ao3 m ac3) (txA fi A) from H6.out.get 4 rfl).2; rw [txA_len, ← HMA.out] at h; exact h); have u0 := (show Blk w6 tb 33 [.int .u64 (q : Int), .slice xo D xc] from H6.out.get 2 rfl).cell (j := 0) rfl; have u1 := (show Blk w6 tb 33 [.int .u64 (q : Int), .slice xo D xc] from H6.out.get 2 rfl).cell (j := 1) rfl; clear ol gr nb H5 OA CL ONE)
          | ((with_reducible refine wpList_append_three _ rfl (.tmp 130) (.tmp 132) 29 rfl 0 33 k0 (.agg #[.int .u64 0, .slice none 0 0]) 2 32 Try.underlying29 ki.out kz0.out kz1.out kz2.out rfl (by decide) _ m _ rfl (OT.out.alloc _) ⟨w6.heap.size, 0, none⟩ 1 1 [.int .u64 (q : Int), .slice xo D xc] rfl rfl (two_new _ _ _ _) (by simp [Value.oneCell']) L1.out L5.out (Nat.zero_le _) ?_); intro tv' w7 ol gr nb; have H7 := gath_txn (d := d) H6 HMA.out HQ.out HB.out (by rw [HX.out]; exact ol) gr nb; clear ol gr nb H6 OT u0 u1))
        exact ⟨⟨k + 1, A ++ [d], vs ++ vs2, F1.out, F3.out, by go_num, F5, H7⟩, by simp [intOf]; exact F4.out⟩
    case rest =>
      obtain ⟨A, vs, GA, hA60, H⟩ := hcut
      clear HG0 HO HOL HOB N60 ol3 hz2 hz1 hz0 hi jz2 jz1 jz0 ji kz2 kz1 kz0 ki bz2 bz1 bz0 bi
      obtain ⟨M, hM⟩ : ∃ M, M = vs.length := ⟨_, rfl⟩
      have hMS : M = (gchain fi A).length := by rw [hM, GA.out.len]
      have hMn : M ≤ n := by rw [hMS]; exact GA.out.fits
      obtain ⟨m, hm⟩ : ∃ m, m = A.length := ⟨_, rfl⟩
      have O1 := (show OwnW 1 wc 0 23 u18 (rwSlots vs) from H.out.get 0 rfl)
      have O2 := (show wc.ownsRow 0 3 1 u19 (intV (begs (fun x => x) fi A)).length (intV (begs (fun x => x) fi A)) from H.out.get 2 rfl)
      have O3 := (show OwnW 2 wc 0 33 u20 (txA fi A) from H.out.get 3 rfl)
      obtain ⟨ao1, ac1, e1⟩ := O1.slice
      obtain ⟨ao2, ac2, e5⟩ := owns_slice O2
      obtain ⟨ao3, ac3, e6⟩ := O3.slice
      rw [show (rwSlots vs).length = vs.length by simp [rwSlots], ← hM] at e1
      rw [intV_len, begs_len, ← hm] at e5
      rw [txA_len, ← hm] at e6
      subst e1 e5 e6
      have CAP3 : m ≤ ac3 := owned_cap O3.2
      have C8 : Hid (∀ x ∈ gchain fi A, x.length = 128 ∧ Bs x) := Sc.chain_ok GA.out.good
      obtain ⟨R1, hR1⟩ : ∃ R1, R1 = Sc.layK R0 at_ (gchain fi A) (gchain fi A).length := ⟨_, rfl⟩
      have BF : Hid (BackF n at_ fi A R1) := by rw [hR1]; exact backF (by omega) R0L.out R0B.out GA.out.good GA.out.fits
      have LD : Hid (Calls Try.prog 11 #[.slice (some ⟨g, 0, none⟩) BL BL, .int .i64 (at_ : Int), .slice ao1 M ac1] wc (Lays wc R1)) := by
        have RW : Rws wc (.slice ao1 M ac1) (rowDs vs (gchain fi A)) := rows_rws (H.out.get 0 rfl) (H.out.get 1 rfl) GA.out.rows C8.out (by omega)
        have k := laid_any _ _ R0 n at_ (rowDs vs (gchain fi A)) (gchain fi A) wc (SR.out wc H.out.chg) R0L.out (by omega) (by omega) (by omega) RW (rowDs_secs _ _) (fun x hx => (C8.out x hx).1) (by omega)
        rw [← hR1] at k
        exact k
      -- what stays of what was gathered
      have TX : Hid (∀ W, Chg [] wc W → OwnW 2 W 0 33 (.slice ao3 m ac3) (txA fi A)) := fun W c => (H.out.quiet c).get 3 rfl
      have BG : Hid (∀ W, Chg [] wc W → W.ownsRow 0 3 1 (.slice ao2 m ac2) m (intV (begs (fun x => x) fi A))) := fun W c => by
        have h := (show W.ownsRow 0 3 1 (.slice ao2 m ac2) (intV (begs (fun x => x) fi A)).length (intV (begs (fun x => x) fi A)) from (H.out.quiet c).get 2 rfl)
        rw [intV_len, begs_len, ← hm] at h
        exact h
      have PTS : Hid (∀ W, Chg [] wc W → ∀ d ∈ A, Pts W d.v d.ps) := fun W c d hd => by
        obtain ⟨k, hk⟩ := List.mem_iff_getElem?.1 (GA.out.mem d hd).1
        obtain ⟨_, _, _, _, I⟩ := (HP.out _ (H.out.chg.trans c)).at hk
        exact I.pt
      have PIS : Hid (∀ d ∈ A, ∀ p ∈ d.ps, PdIs p (pdOf p)) := fun d hd => (GA.out.mem d hd).2.2
      have CWC : Hid (Chg [] w wc) := CW.out.trans H.out.chg
      have HM := Lib.hid hm
      have HMS := Lib.hid hMS
      have hm60 : m ≤ 60 := by omega
      have HA60 := Lib.hid hA60
      clear O1 O2 O3 SR HP CW H GA hR1 hM hm hMS R0L R0B C8 hA60
      go_wp2_with fail
      refine LD.out.mono ?_
      rintro e w2 ⟨rv, rfl, O4, C4⟩
      have O5 : w2.ownsRow wc.heap.size 5 1 rv BL (ub R1) := by
        have h := O4.out
        rw [BF.out.len, ← HBL.out] at h
        exact h
      obtain ⟨rg, rc, rfl, _⟩ := own_some O5 (by omega)
      have CAP1 : BL ≤ rc := owned_cap O5
      have RS : Hid (∀ W, Chg [] w2 W → Sl W (.slice (some ⟨rg, 0, none⟩) BL rc) (ints R1) ∧ rg < W.heap.size) := fun W c =>
        ⟨(Sl.owned (n := BL) O5).chgNil c, Nat.lt_of_lt_of_le (O5.lt rg (by simp [Value.ownBlock])).2 c.size⟩
      have OF9 : Hid (∀ W (ep : Nat), ep ≤ 9 → Chg [] w2 W → Calls Try.prog 12 #[.slice (some ⟨rg, 0, none⟩) BL rc, .agg #[.int .u64 (ep : Int), .int .u64 (fi : Int), .int .i64 (at_ : Int)]] W (OfH W R1 ep at_ fi)) := fun W ep he c => by
        have k := of_any9 (n := n) (ep := ep) (sq := fi) (tl := at_) ⟨BF.out.len, by omega, by omega, ⟨⟨by show ep ≤ _; omega, by show 1 ≤ fi; omega, by show fi ≤ _; omega⟩, by show (0 : Int) ≤ (at_ : Int); omega, by show (at_ : Int) ≤ 2047; omega⟩, by omega⟩ BF.out.bs rg 0 rc W (by rw [← HBL.out]; exact CAP1) (RS.out W c).2 (by rw [← HBL.out]; exact (RS.out W c).1)
        rw [← HBL.out] at k
        exact k
      clear O4 O5 LD
      have BC := Blk.made w2 [.int .u64 9, .int .u64 (fi : Int), .int .i64 (at_ : Int)] 39
      have x0 := BC.cell (j := 0) rfl
      have x1 := BC.cell (j := 1) rfl
      have x2 := BC.cell (j := 2) rfl
      replace BC := Lib.hid BC
      go_wp2_with fail
      refine Calls.mono (show Calls Try.prog 12 #[.slice (some ⟨rg, 0, none⟩) BL rc, .agg #[.int .u64 9, .int .u64 (fi : Int), .int .i64 (at_ : Int)]] _ _ from OF9.out _ 9 (Nat.le_refl _) ((Chg.refl _ _).alloc _)) ?_
      rintro e w4 ⟨fo, F, fc, nx, hd, us, T, rfl, HF, D, hFc, H4⟩
      have C24 : Hid (Chg [] w2 w4) := ((Chg.refl [] w2).alloc _).trans H4.out.chg
      have BC4 : Hid (Blk w4 w2.heap.size 39 [.int .u64 9, .int .u64 (fi : Int), .int .i64 (at_ : Int)]) := BC.out.chg H4.out.chg (by simp)
      clear x0 x1 x2 BC
      obtain ⟨cb, hcb⟩ : ∃ cb, cb = w2.heap.size := ⟨_, rfl⟩
      rw [← hcb] at BC4 ⊢
      clear hcb
      obtain ⟨u1, D1⟩ := D.out
      obtain ⟨hmF, eF⟩ := BF.out.first s4 s3 (by have := HM.out; omega) D1
      rw [show (found T).length = F by rw [HF.out]; simp [found], ← HM.out] at hmF
      rw [← HM.out] at eF
      have q1 : ¬ (F : Int) < m := by omega
      have q2 : m ≤ fc := by omega
      have SM1 : Hid (∀ W, Chg [] w4 W → Calls Try.prog 13 #[.slice fo m fc, .slice ao3 m ac3] W fun e w' => e = .returned (.bool true) ∧ ∃ q', w' = W.drewN q') := fun W c => by
        have k := back_same (n := n) (H4.out.quiet c) BF.out.bs BF.out.len (by omega) (by omega) D1 (m := m) (by rw [← HF.out]; exact hmF) (by rw [← HM.out]; exact Nat.le_refl _) (by rw [eF]; rw [HM.out, List.take_of_length_le (by rw [List.length_map]; exact Nat.le_refl _)]) PIS.out (by rw [← HM.out]; exact TX.out W (C4.out.trans (C24.out.trans c))) (by rw [← HM.out]; omega) (PTS.out W (C4.out.trans (C24.out.trans c))) fc ac3
        exact k
      have FB := Blk.made w4 [.slice fo F fc, .int .u64 (nx : Int), .int .i64 (hd : Int), .int .i64 (us : Int)] 41
      have y0 := FB.cell (j := 0) rfl
      clear FB D eF
      go_wp2_with (go_at_call 13; refine (SM1.out _ ((Chg.refl _ _).alloc _)).mono ?_; rintro e w5 ⟨rfl, q, rfl⟩)
      obtain ⟨w6, hw6⟩ : ∃ w6, w6 = (w4.alloc (.cells #[.slice fo F fc, .int .u64 (nx : Int), .int .i64 (hd : Int), .int .i64 (us : Int)] 41)).drewN q := ⟨_, rfl⟩
      have C46 : Hid (Chg [] w4 w6) := by rw [hw6]; exact ((Chg.refl _ _).alloc _).drewN _
      rw [← hw6]
      clear hw6 y0 q1 q2 SM1 H4 hmF D1
      refine Calls.mono (show Calls Try.prog 12 #[.slice (some ⟨rg, 0, none⟩) BL rc, .agg #[.int .u64 8, .int .u64 (fi : Int), .int .i64 (at_ : Int)]] w6 _ from OF9.out w6 8 (by decide) (C24.out.trans C46.out)) ?_
      rintro e w7 ⟨go', G, gc, nx2, hd2, us2, T2, rfl, HG2, D2, hGc, H7⟩
      have C27 : Hid (Chg [] w2 w7) := C24.out.trans (C46.out.trans H7.out.chg)
      have BC7 : Hid (Blk w7 cb 39 [.int .u64 9, .int .u64 (fi : Int), .int .i64 (at_ : Int)]) := BC4.out.chg (C46.out.trans H7.out.chg) (by simp)
      have CW7 : Hid (Chg [] w w7) := CWC.out.trans (C4.out.trans C27.out)
      clear OF9 H7 BC4 C24 C46
      by_cases hm0 : m = 0
      case pos =>
        have hM0 : M = 0 := by
          rw [HMS.out]
          have hA0 : A = [] := List.eq_nil_of_length_eq_zero (by rw [← HM.out, hm0])
          rw [hA0]
          rfl
        subst hm0
        subst hM0
        go_wp2_with fail
        go_ret
        exact ⟨rfl, CW7.out.alloc _⟩
      have hm1 : 1 ≤ m := by omega
      have hG0 : G = 0 := by
        obtain ⟨u2, D2'⟩ := D2.out
        have e := (D2'.uniq (BF.out.other s4 s3 (by rw [← HM.out]; exact hm1))).1
        rw [HG2.out]
        have := congrArg List.length e
        unfold found at this
        rw [List.length_map] at this
        exact this
      subst hG0
      have hM1 : 1 ≤ M := by
        rw [HMS.out]
        have := gchain_few fi (A := A)
        rw [← HM.out] at this
        omega
      obtain ⟨bd, hbd⟩ : ∃ bd, bd = hu % M := ⟨_, rfl⟩
      have hbM : bd < M := by rw [hbd]; exact Nat.mod_lt _ (by omega)
      have k0 : (0 : Int) ≤ hu := Int.natCast_nonneg _
      have k1 : (hu : Int) ≤ 65535 := by omega
      have k2 : (hu : Int) % M = (bd : Int) := by rw [hbd]; push_cast; rfl
      have k3 : Int.tmod (hu : Int) M = (bd : Int) := (Int.tmod_eq_emod_of_nonneg k0).trans k2
      have k4 : ¬ (M : Int) = 0 := by omega
      have k5 : ((M : Int) == 0) = false := by simpa using k4
      have k6 : (0 : Int) < m := by omega
      have k7 : ¬ M = 0 := by omega
      have GB := Blk.made w7 [.slice go' 0 gc, .int .u64 (nx2 : Int), .int .i64 (hd2 : Int), .int .i64 (us2 : Int)] 41
      have y0 := GB.cell (j := 0) rfl
      clear GB hbd HG2 D2 hGc
      go_wp2_with fail
      obtain ⟨w8, hw8⟩ : ∃ w8, w8 = w7.alloc (.cells #[.slice go' 0 gc, .int .u64 (nx2 : Int), .int .i64 (hd2 : Int), .int .i64 (us2 : Int)] 41) := ⟨_, rfl⟩
      have C78 : Hid (Chg [] w7 w8) := by rw [hw8]; exact (Chg.refl _ _).alloc _
      rw [← hw8]
      clear hw8 y0 k0 k1 k2 k3 k4 k5 k6 k7
      have LD2 : Calls Try.prog 11 #[.slice (some ⟨rg, 0, none⟩) BL rc, .int .i64 (at_ : Int), .slice none 0 0] w8 (Lays w8 R1) :=
        laid_any _ (.slice none 0 0) R1 n at_ [] [] w8 (RS.out w8 (C27.out.trans C78.out)).1 BF.out.len (by omega) (by omega) (by omega) (.inl ⟨rfl, none, 0, rfl⟩) rfl (fun x hx => (by cases hx)) (Nat.zero_le _)
      refine LD2.mono ?_
      rintro e w9 ⟨wv, rfl, O9, C9⟩
      have O10 : w9.ownsRow w8.heap.size 5 1 wv BL (ub R1) := by
        have h := O9.out
        rw [BF.out.len, ← HBL.out] at h
        exact h
      obtain ⟨wg, wcap, rfl, _⟩ := own_some O10 (by omega)
      have CAP9 : BL ≤ wcap := owned_cap O10
      have H9 : Hid (Side w8 w9 [ownT 5 (.slice (some ⟨wg, 0, none⟩) BL wcap) (ub R1)]) := (Side.nil (Chg.refl _ w8)).own O10 C9.out
      have CW8 : Hid (Chg [] wc w8) := C4.out.trans (C27.out.trans C78.out)
      have CWF : Hid (Chg [] w w8) := CW7.out.trans C78.out
      have BC8 : Hid (∀ W, Chg [] w8 W → W.cell? ⟨cb, 0, none⟩ = some (.int .u64 9) ∧ W.cell? ⟨cb, 1, none⟩ = some (.int .u64 (fi : Int)) ∧ W.cell? ⟨cb, 2, none⟩ = some (.int .i64 (at_ : Int))) := fun W c => by
        have b := (BC7.out.chg C78.out (by simp)).chg c (by simp)
        exact ⟨b.cell (j := 0) rfl, b.cell (j := 1) rfl, b.cell (j := 2) rfl⟩
      clear LD2 O9 O10 C9 RS C27 C78 CW7 BC7
      obtain ⟨X, hX⟩ : ∃ X, X = at_ + bd := ⟨_, rfl⟩
      obtain ⟨P, hP⟩ : ∃ P, P = X % n := ⟨_, rfl⟩
      obtain ⟨KB, hKB⟩ : ∃ KB, KB = 128 * P := ⟨_, rfl⟩
      obtain ⟨E, hE⟩ : ∃ E, E = KB + 128 := ⟨_, rfl⟩
      have hPn : P < n := by rw [hP]; exact Nat.mod_lt _ (by omega)
      have hBL2 := HBL.out
      have p1 : (at_ : Int) + bd = (X : Int) := by omega
      have p2 : (X : Int) % n = (P : Int) := by rw [hP]; push_cast; rfl
      have p3 : Int.tmod (X : Int) n = (P : Int) := (Int.tmod_eq_emod_of_nonneg (by omega)).trans p2
      have p4 : (P : Int) * 128 = (KB : Int) := by omega
      have p5 : (KB : Int) + 128 = (E : Int) := by omega
      have p6 : E - KB = 128 := by omega
      have p7 : KB ≤ E := by omega
      have p8 : E ≤ wcap := by omega
      have p9 : ¬ wcap = KB := by omega
      have pa : E ≤ BL := by omega
      have pb : X ≤ 128 := by omega
      have SLW : Hid (∀ (W : World) (Rx : List Nat), Rx.length = 128 * n → Sl W (.slice (some ⟨wg, 0, none⟩) BL wcap) (ints Rx) → Sl W (.slice (some ⟨wg, KB, none⟩) 128 (wcap - KB)) (ints (Sc.sec Rx X))) := fun W Rx hl hs => by
        have k := sec_sl (x := X) hs (hl.trans hBL2.symm) hBL2 (by omega) CAP9
        unfold secV at k
        rw [← hP, ← hKB, Nat.zero_add] at k
        exact k
      have SB1 : Bs (Sc.sec R1 X) := Sc.sec_bs BF.out.bs X
      have SL8 : (Sc.sec R1 X).length = 128 := Sc.sec_len (by have := BF.out.len; omega) X
      obtain ⟨v1, hv1⟩ : ∃ v1, v1 = sum (Sc.sec R1 X) := ⟨_, rfl⟩
      have SU1 : Calls Try.prog 14 #[.slice (some ⟨wg, KB, none⟩) 128 (wcap - KB)] w9 fun e w' => e = .returned (.int .u32 (v1 : Int)) ∧ w9 = w' := by
        have k := refSum_any _ (ints (Sc.sec R1 X)) w9 (SLW.out w9 R1 BF.out.len (Sl.owned (n := (ub R1).length) (show w9.ownsRow 0 5 1 (.slice (some ⟨wg, 0, none⟩) BL wcap) (ub R1).length (ub R1) from H9.out.get 0 rfl))) (ints_by SB1) (by rw [ints_length, SL8]; decide)
        rw [nats_ints, ← hv1] at k
        exact k
      have HV1 := Lib.hid hv1
      have HX := Lib.hid hX
      have HPX : Hid (KB = 128 * (X % n)) := by show _ = _; rw [hKB, hP]
      clear hX hP hKB hE hBL2 SB1 SL8 hv1
      go_wp2_with (go_at_call 14; refine SU1.mono ?_; rintro e w' ⟨rfl, rfl⟩)
      clear SU1 p1 p2 p3 p4
      have HZ : Sc.zeros.length = 128 := by simp [Sc.zeros]
      have HZ0 : Hid (∀ j, j < 128 → Sc.zeros[j]? = some 0) := fun j hj => by unfold Sc.zeros; rw [List.getElem?_replicate, if_pos hj]
      have HZL := Lib.hid HZ
      have HL0 : Hid (Side w8 w9 [ownT 5 (.slice (some ⟨wg, 0, none⟩) BL wcap) (ub (laying R1 KB Sc.zeros 0))]) := by rw [laying_zero]; exact H9.out
      have HRL : Hid (R1.length = BL) := by rw [HBL.out]; exact BF.out.len
      clear H9 HZ
      go_loopw [34] (fun i wr => ∃ j : Nat, j ≤ 128 ∧ i = .int .i64 j ∧ Hid (Side w8 wr [ownT 5 (.slice (some ⟨wg, 0, none⟩) BL wcap) (ub (laying R1 KB Sc.zeros j))])) (fun i _ => 128 - (intOf i).toNat)
      case atStart => exact ⟨0, Nat.zero_le _, rfl, HL0⟩
      case round =>
        obtain ⟨j, hj, rfl, H⟩ := hrel
        clear HL0
        have hj0 : (0 : Int) ≤ j := Int.natCast_nonneg _
        by_cases hjl : j < 128
        · have hj1 : (j : Int) < 128 := by omega
          have hy := HZ0.out j hjl
          obtain ⟨Z, hZ⟩ : ∃ Z, Z = KB + j := ⟨_, rfl⟩
          obtain ⟨H2, hf, u0, hu0⟩ := H.out.set 0 rfl (k := Z) (by rw [ub_len, laying_len (by rw [HRL.out]; omega) (by rw [HZL.out]; omega), HRL.out]; omega) (.int .u8 0)
          have e3 : (ub (laying R1 KB Sc.zeros j)).set Z (.int .u8 0) = ub (laying R1 KB Sc.zeros (j + 1)) := by
            rw [hZ, ← laying_set (by rw [HRL.out]; omega) hy]
            exact (ub_set _ _ _).symm
          rw [e3] at H2
          replace H2 := Lib.hid H2
          have q4 : (KB : Int) + j = (Z : Int) := by omega
          have z0 : (0 : Int) ≤ Z := by omega
          have z1 : (Z : Int) < BL := by omega
          clear hy e3 hZ H
          go_wp2_with fail
          exact ⟨⟨j + 1, by omega, by go_num, H2⟩, by simp [intOf]; omega⟩
        · obtain rfl : j = 128 := by omega
          obtain ⟨R2, hR2⟩ : ∃ R2, R2 = Sc.lay R1 X Sc.zeros := ⟨_, rfl⟩
          have e9 : laying R1 KB Sc.zeros 128 = R2 := by
            rw [hR2, ← laying_all HZL.out, HPX.out]
            have : R1.length / 128 = n := by have := BF.out.len; omega
            rw [this]
          rw [e9] at H
          have R2L : Hid (R2.length = 128 * n) := by show _ = _; rw [hR2, Sc.lay_len (by have := BF.out.len; omega) HZL.out]; exact BF.out.len
          have R2B : Hid (Bs R2) := by show Bs _; rw [hR2]; exact Sc.lay_bs BF.out.bs (fun x hx => by rw [(List.mem_replicate.1 hx).2]; decide) X
          have R2S : Hid (Sc.sec R2 X = Sc.zeros) := by show _ = _; rw [hR2]; exact Sc.sec_lay (by have := BF.out.len; omega) HZL.out X
          have OW2 := (show wr.ownsRow 0 5 1 (.slice (some ⟨wg, 0, none⟩) BL wcap) (ub R2).length (ub R2) from H.out.get 0 rfl)
          have SW2 : Hid (∀ W, Chg [] wr W → Sl W (.slice (some ⟨wg, 0, none⟩) BL wcap) (ints R2) ∧ wg < W.heap.size) := fun W c =>
            ⟨(Sl.owned (n := (ub R2).length) OW2).chgNil c, Nat.lt_of_lt_of_le (OW2.lt wg (by simp [Value.ownBlock])).2 c.size⟩
          obtain ⟨v2, hv2⟩ : ∃ v2, v2 = sum Sc.zeros := ⟨_, rfl⟩
          have SU2 : Hid (Calls Try.prog 14 #[.slice (some ⟨wg, KB, none⟩) 128 (wcap - KB)] wr fun e w' => e = .returned (.int .u32 (v2 : Int)) ∧ wr = w') := by
            have k := refSum_any _ (ints (Sc.sec R2 X)) wr (SLW.out wr R2 R2L.out (SW2.out wr (Chg.refl _ _)).1) (ints_by (Sc.sec_bs R2B.out X)) (by rw [ints_length, R2S.out, HZL.out]; decide)
            rw [nats_ints, R2S.out, ← hv2] at k
            exact k
          have HV2 := Lib.hid hv2
          have CR := Lib.hid H.out.chg
          obtain ⟨lk, hlk⟩ : ∃ lk, lk = ((v1 : Int) == (v2 : Int)) := ⟨_, rfl⟩
          have HLK : Hid (lk = false → sum (Sc.sec R1 (at_ + bd)) ≠ sum Sc.zeros) := fun h e => by
            rw [hlk, HV1.out, HV2.out, HX.out, e] at h
            simp at h
          have hlk2 := hlk.symm
          have OF2 : Hid (∀ W, Chg [] wr W → Calls Try.prog 12 #[.slice (some ⟨wg, 0, none⟩) BL wcap, .agg #[.int .u64 9, .int .u64 (fi : Int), .int .i64 (at_ : Int)]] W (OfH W R2 9 at_ fi)) := fun W c => by
            have k := of_any9 (n := n) (ep := 9) (sq := fi) (tl := at_) ⟨R2L.out, by omega, by omega, ⟨⟨by show 9 ≤ _; decide, by show 1 ≤ fi; omega, by show fi ≤ _; omega⟩, by show (0 : Int) ≤ (at_ : Int); omega, by show (at_ : Int) ≤ 2047; omega⟩, by omega⟩ R2B.out wg 0 wcap W (by rw [← HBL.out]; exact CAP9) (SW2.out W c).2 (by rw [← HBL.out]; exact (SW2.out W c).1)
            rw [← HBL.out] at k
            exact k
          have HR2 := Lib.hid hR2
          obtain ⟨x0, x1, x2⟩ := BC8.out wr H.out.chg
          clear hjl hj hj0 e9 OW2 H hv2 hlk hR2
          go_wp2_with (go_at_call 14; refine SU2.out.mono ?_; rintro e w' ⟨rfl, rfl⟩)
          refine (OF2.out wr (Chg.refl _ _)).mono ?_
          rintro e w10 ⟨io, I, ic, nx3, hd3, us3, T3, rfl, HI, D3, hIc, H10⟩
          have C10 : Hid (Chg [] w8 w10) := CR.out.trans H10.out.chg
          have CE := Lib.hid ((H10.out.chg).alloc (.cells #[.slice io I ic, .int .u64 (nx3 : Int), .int .i64 (hd3 : Int), .int .i64 (us3 : Int)] 41))
          have FB := Lib.hid (Blk.made w10 [.slice io I ic, .int .u64 (nx3 : Int), .int .i64 (hd3 : Int), .int .i64 (us3 : Int)] 41)
          obtain ⟨bg, rfl⟩ := owns_head (BG.out wc (Chg.refl _ _)) (by omega)
          have BGC : Hid (∀ W, Chg [] wc W → ∀ i, i < m → W.cell? ⟨bg, i, none⟩ = some (.int .i64 ((gchain fi (A.take i)).length : Int))) := fun W c i hi => by
            refine ownsRow_cellAt (BG.out W c) ?_
            unfold intV
            rw [List.getElem?_map, begs_at _ _ _ (by rw [← HM.out]; exact hi)]
            rfl
          have hm60' : m ≤ 60 := hm60
          clear SU2 OF2 SW2 x0 x1 x2 SLW BG p5 p6 p7 p8 p9 pa
          go_upto_block 6 with fail
          obtain ⟨w11, hw11⟩ : ∃ w11, w11 = w10.alloc (.cells #[.slice io I ic, .int .u64 (nx3 : Int), .int .i64 (hd3 : Int), .int .i64 (us3 : Int)] 41) := ⟨_, rfl⟩
          rw [← hw11] at FB CE ⊢
          obtain ⟨ib, hib⟩ : ∃ ib, ib = w10.heap.size := ⟨_, rfl⟩
          rw [← hib] at FB ⊢
          have C1011 : Hid (Chg [] w10 w11) := by rw [hw11]; exact (Chg.refl _ _).alloc _
          clear hw11 hib
          go_cut [38] from 234 to 249 (fun s38 wx => ∃ wv : Nat, s38 = .int .i64 wv ∧ wv < m ∧ Hid ((gchain fi (A.take wv)).length ≤ bd) ∧ Hid (bd < (gchain fi (A.take (wv + 1))).length) ∧ Hid (Chg [] w11 wx))
          case first =>
            go_wp2_with fail
            go_loopw [38] (fun i wr => ∃ wv : Nat, wv < m ∧ i = .int .i64 wv ∧ Hid ((gchain fi (A.take wv)).length ≤ bd) ∧ Hid (Chg [] w11 wr)) (fun i _ => m - (intOf i).toNat)
            case atStart => exact ⟨0, by omega, rfl, (by show _ ≤ _; rw [List.take_zero]; exact Nat.zero_le _), Chg.refl _ _⟩
            case round =>
              obtain ⟨wv, hwv, rfl, LB, C⟩ := hrel
              obtain ⟨K, hK⟩ : ∃ K, K = wv + 1 := ⟨_, rfl⟩
              have wv0 : (0 : Int) ≤ wv := Int.natCast_nonneg _
              have q1 : (wv : Int) + 1 = (K : Int) := by omega
              have K60 : K ≤ 60 := by omega
              have MS : Hid (m - K < m - wv) := by show _ < _; omega
              have HK := Lib.hid hK
              clear hK
              by_cases hKm : K < m
              · have q2 : (K : Int) < m := by omega
                have q3 : (0 : Int) ≤ K := by omega
                have cc := BGC.out _ (CW8.out.trans (C10.out.trans (C1011.out.trans C.out))) K hKm
                obtain ⟨L, hL⟩ : ∃ L, L = (gchain fi (A.take K)).length := ⟨_, rfl⟩
                rw [← hL] at cc
                by_cases hLb : L ≤ bd
                · have q4 : (L : Int) ≤ bd := by omega
                  have LB2 : Hid ((gchain fi (A.take K)).length ≤ bd) := by show _ ≤ _; rw [← hL]; exact hLb
                  clear hL hLb
                  go_wp2_with fail
                  exact ⟨⟨K, hKm, by first | rfl | go_num, LB2, C⟩, by simp [intOf]; exact MS.out⟩
                · have q4 : ¬ (L : Int) ≤ bd := by omega
                  have LB2 : Hid (bd < (gchain fi (A.take (wv + 1))).length) := by show _ < _; rw [← HK.out, ← hL]; omega
                  clear hL hLb
                  go_wp2_with fail
                  go_meet
                  exact ⟨wv, rfl, hwv, LB, LB2, C⟩
              · have q2 : ¬ (K : Int) < m := by omega
                have LB2 : Hid (bd < (gchain fi (A.take (wv + 1))).length) := by
                  show _ < _
                  rw [← HK.out, show K = A.length by rw [← HM.out]; have := HK.out; omega, gchain_all, ← HMS.out]
                  exact hbM
                clear hKm
                go_wp2_with fail
                go_meet
                exact ⟨wv, rfl, hwv, LB, LB2, C⟩
          case rest =>
            rename World => wx
            obtain ⟨wv, rfl, hwv, LB, LB2, C⟩ := hcut
            have CX : Hid (Chg [] w wx) := CWF.out.trans (C10.out.trans (C1011.out.trans C.out))
            have y0 := (FB.out.chg C.out (by simp)).cell (j := 0) rfl
            have q1 : wv ≤ ac3 := by omega
            cases lk
            case true =>
              go_wp2_with fail
              go_ret
              exact ⟨rfl, CX.out⟩
            obtain ⟨u3, D4⟩ := D3.out
            obtain ⟨u4, DH⟩ := BF.out.hurt (by omega) s4 s3 (by rw [← HM.out]; omega) (w := wv) (bad := bd) (by rw [← HM.out]; exact hwv) LB.out LB2.out (HLK.out rfl)
            rw [← HX.out, ← HR2.out] at DH
            have eT := (D4.uniq DH).1
            have hI : I = wv := by
              rw [HI.out]
              have h := congrArg List.length eT
              unfold found at h
              rw [List.length_map, List.length_take, List.length_map, ← HM.out] at h
              omega
            subst hI
            have SM3 : Hid (∀ q, Calls Try.prog 13 #[.slice io I ic, .slice ao3 I ac3] (wx.drewN q) fun e w' => e = .returned (.bool true) ∧ ∃ q', w' = (wx.drewN q).drewN q') := fun q => by
              have cc : Chg [] w10 (wx.drewN q) := C1011.out.trans (C.out.drewN q)
              have k := back_same (n := n) (H10.out.quiet cc) R2B.out R2L.out (by omega) (by omega) D4 (m := I) (by rw [← HI.out]; exact Nat.le_refl _) (by rw [← HM.out]; omega) (by rw [eT]; rw [List.take_take, Nat.min_self]) PIS.out (by rw [← HM.out]; exact TX.out _ (CW8.out.trans (C10.out.trans cc))) (by rw [← HM.out]; omega) (PTS.out _ (CW8.out.trans (C10.out.trans cc))) ic ac3
              exact k
            clear D4 DH eT
            go_wp2_with fail
            go_quiet (first | (go_at_call 13; exact Calls.quiet_of (SM3.out _)))
            go_wp2_with fail
            go_ret
            exact ⟨by first | rfl | simp, CX.out.drewN _⟩

end Go.Proofs.Ytnkdgmnmmmjgjaa
