/-
  ScanReads: its walk. By an AI agent.
-/
import Derived.Test.YtnkdgmnmmmjgjaaGreatBScLawG
import Derived.Test.YtnkdgmnmmmjgjaaGreatBScTxs
import Derived.Test.YtnkdgmnmmmjgjaaGreatBScUse
import Derived.Test.YtnkdgmnmmmjgjaaGreatBGNats
namespace Go.Proofs.YtnkdgmnmmmjgjaaGreat
open Go.RowKit Crc

/-- What is found, of any ring and any checkpoint. -/
def FoundIs (bs : List Nat) (ep sq : Nat) (tl : Int) (L : List (List Pd)) (N nx hd u er : Nat) : Prop :=
  N = L.length ∧ ((OfAsks bs.length ep sq tl ∧ Sc.Done bs ep tl.toNat sq L u ∧ nx = sq + L.length ∧ hd = (tl.toNat + u) % (bs.length / 128) ∧ er = 0) ∨ (¬ OfAsks bs.length ep sq tl ∧ L = [] ∧ nx = 0 ∧ hd = 0 ∧ u = 0 ∧ er = 1))

def FGots (k : IntKind) (w : World) (sq : Nat) (L : List (List Pd)) (N nx hd u er : Nat) (e : Ending) (w' : World) : Prop :=
  ∃ ao c T, e = .returned (.tuple #[.agg #[.slice ao N c, .int .u64 (nx : Int), .int .i64 (hd : Int), .int .i64 (u : Int)], .int k (er : Int)]) ∧ Hid (found T = L) ∧ Hid (Side w w' [wideT 2 25 (.slice ao N c) (txSlots sq T), poolWT 3 72 (listsOf T), poolT (dataOf T)])

theorem gets_got {k : IntKind} {w w' : World} {sq N nx hd u er : Nat} {L : List (List Pd)} {e : Ending} (hN : N = L.length) (h : FGets k w sq L nx hd u er e w') : FGots k w sq L N nx hd u er e w' := by
  obtain ⟨tv, T, rfl, e1, H⟩ := h
  obtain ⟨ao, c, hv⟩ := (show OwnW 2 w' 0 25 tv (txSlots sq T) from H.out.get 0 rfl).slice
  rw [txSlots_len, ← found_len, e1, ← hN] at hv
  subst hv
  exact ⟨ao, c, T, rfl, e1, H⟩

theorem of_next {bs : List Nat} {ep sq : Nat} {tl : Int} {w w' : World} {e : Ending} {L : List (List Pd)} {N nx hd u er : Nat} (F : FoundIs bs ep sq tl L N nx hd u er) (h : OfAny w bs ep sq tl e w') : FGots .u16 w sq L N nx hd u er e w' := by
  obtain ⟨hN, F⟩ := F
  refine gets_got hN ?_
  rcases F with ⟨a, d, rfl, rfl, rfl⟩ | ⟨a, rfl, rfl, rfl, rfl, rfl⟩
  · rcases h with ⟨_, h⟩ | ⟨b, _⟩
    · exact ofGives_gets d h
    · exact absurd a b
  · rcases h with ⟨b, _⟩ | ⟨_, h⟩
    · exact absurd b a
    · exact ofRef_gets sq h

theorem of_first {bs : List Nat} {ep sq : Nat} {tl : Int} {w w' : World} {e : Ending} (h : OfAny w bs ep sq tl e w') : ∃ L N nx hd u er, Hid (FoundIs bs ep sq tl L N nx hd u er) ∧ FGots .u16 w sq L N nx hd u er e w' := by
  rcases h with ⟨a, h⟩ | ⟨a, h⟩
  · have h' := h
    obtain ⟨tv, T, u, D, _⟩ := h'
    have F : FoundIs bs ep sq tl (found T) _ _ _ u 0 := ⟨rfl, .inl ⟨a, D, rfl, rfl, rfl⟩⟩
    exact ⟨_, _, _, _, _, _, F, of_next F (.inl ⟨a, h⟩)⟩
  · have F : FoundIs bs ep sq tl [] _ _ _ _ _ := ⟨rfl, .inr ⟨a, rfl, rfl, rfl, rfl, rfl⟩⟩
    exact ⟨_, _, _, _, _, _, F, of_next F (.inr ⟨a, h⟩)⟩

/-- The document's, of any ring and any checkpoint. -/
theorem rof_any {L : List (List Pd)} {N nx hd u er : Nat} (ao : Option Addr) (len cap ep sq : Nat) (tl : Int) (bs : List Nat) (w : World) (F : FoundIs bs ep sq tl L N nx hd u er) (hs : Sl w (.slice ao len cap) (ints bs)) (hb : Bs bs) (hcap : len ≤ cap) (hl : bs.length ≤ 1000000) :
    Calls Tryz.prog 19 #[.slice ao len cap, .agg #[.int .u64 (ep : Int), .int .u64 (sq : Int), .int .i64 tl]] w (FGots .i64 w sq L N nx hd u er) := by
  obtain ⟨o2, c2, e2⟩ := hs.slice
  rw [ints_length] at e2
  injection e2 with _ hlen _
  obtain ⟨hN, F⟩ := F
  rcases F with ⟨a, d, rfl, rfl, rfl⟩ | ⟨a, rfl, rfl, rfl, rfl, rfl⟩
  · rw [← hlen] at a
    obtain ⟨h1, h2, h3, h4, h5⟩ := a
    obtain ⟨n, hn⟩ : ∃ n, n = len / 128 := ⟨_, rfl⟩
    obtain ⟨t, rfl⟩ : ∃ t : Nat, tl = (t : Int) := ⟨tl.toNat, by have h6 : (0 : Int) ≤ tl := h4.2.1; omega⟩
    obtain rfl : len = 128 * n := by omega
    obtain ⟨rb, ro, rfl⟩ : ∃ rb ro, ao = some ⟨rb, ro, none⟩ := by
      rcases hs with ⟨hv, hx⟩ | ⟨b, o, c, hv, hlt, _⟩
      · obtain ⟨a3, c3, h6⟩ := hx
        injection h6 with _ h7 _
        omega
      · injection hv with h6 _ _
        exact ⟨b, o, h6⟩
    have ok : OfOk n ep sq t bs := ⟨hlen.symm, by omega, by omega, h4, by omega⟩
    refine (rof_ok ok hb rb ro cap w hcap hs).mono fun e w' g => gets_got hN ?_
    have k := rofGives_gets d g
    rw [← hlen, ← hn]
    exact k
  · rw [← hlen] at a
    exact (rof_bad len ep sq tl a (by omega) ao cap w).mono fun e w' g => gets_got hN (rofRef_gets sq g)

/-- How much can be found. -/
theorem FoundIs.few {bs : List Nat} {ep sq : Nat} {tl : Int} {L : List (List Pd)} {N nx hd u er : Nat} (F : FoundIs bs ep sq tl L N nx hd u er) (hb : Bs bs) : N ≤ 2048 ∧ er ≤ 1 ∧ (∀ l ∈ L, Sc.Good l) ∧ (L.map List.length).sum ≤ 2048 := by
  obtain ⟨rfl, F⟩ := F
  rcases F with ⟨a, d, rfl, rfl, rfl⟩ | ⟨a, rfl, rfl, rfl, rfl, rfl⟩
  · obtain ⟨h1, h2, h3, h4, h5⟩ := a
    obtain ⟨_, g, _, _⟩ := d.1.own hb (by omega)
    have f := d.1.fits
    have e := d.1.used
    have k := d.1.len_le
    have s : ∀ L : List (List Pd), (L.map List.length).sum ≤ (L.map fun l => 2 * l.length + 1).sum := fun L => by
      induction L with
      | nil => exact Nat.le_refl _
      | cons x L ih => rw [List.map_cons, List.map_cons, List.sum_cons, List.sum_cons]; omega
    have := s L
    exact ⟨by omega, by omega, g, by omega⟩
  · exact ⟨by simp, Nat.le_refl _, (fun l hl => by cases hl), by simp⟩

theorem dataOf_len (T : List Tx) : (dataOf T).length = ((found T).map List.length).sum := by
  induction T with
  | nil => rfl
  | cons t T ih =>
    show (t.2.map pvRow ++ dataOf T).length = ((dOf t.2).length + ((found T).map List.length).sum)
    rw [List.length_append, List.length_map, ih]
    simp [dOf]

/-- The law's copy of the ring. -/
theorem lent_side {W : World} {ao : Option Addr} {len cap : Nat} {bs : List Nat} (hs : Sl W (.slice ao len cap) (ints bs)) (hl : len = bs.length) (hb : len ≤ 300000) (N2 : Nat) (hN2 : N2 = len + 2) :
    Calls Tryz.prog 15 #[.slice ao len cap] W fun e w' => ∃ g, e = .returned (.slice (some ⟨g, 0, none⟩) len N2) ∧ Hid (Side W w' [blkT g 5 ((ints bs ++ [91, 92]).map (Value.int .u8))]) := by
  refine (lent_any _ (ints bs) W hs (by rw [ints_length]; omega)).mono ?_
  rintro e w' ⟨g, rfl, B, C, hg⟩
  refine ⟨g, by rw [ints_length, ← hl, hN2], ⟨fun t ht => ?_, List.pairwise_singleton _ _, fun t ht k hk => ?_, C⟩⟩
  · rw [List.mem_singleton.1 ht]
    exact B
  · rw [List.mem_singleton.1 ht] at hk
    have : k = g := by simpa [blkT] using hk
    omega

set_option maxHeartbeats 4000000 in
set_option maxRecDepth 100000 in
theorem reads_far (ao : Option Addr) (len cap ep sq : Nat) (tl : Int) (w : World) (h : 300000 < len) :
    Calls Tryz.prog 4 #[.slice ao len cap, .agg #[.int .u64 (ep : Int), .int .u64 (sq : Int), .int .i64 tl]] w fun e w' => e = .returned (.bool true) ∧ Chg [] w w' := by
  have h1 : (300000 : Int) < len := by omega
  go_enter Tryz.func4, Tryz.ntmps4
  go_wp2_with fail
  go_ret
  exact ⟨rfl, (Chg.refl _ _).alloc _⟩

set_option maxHeartbeats 8000000 in
set_option maxRecDepth 100000 in
theorem reads_any (ao : Option Addr) (len cap ep sq : Nat) (tl : Int) (bs : List Nat) (w : World) (hs : Sl w (.slice ao len cap) (ints bs)) (hb : Bs bs) (hc : len ≤ cap) (hep : ep < 18446744073709551616) (hsq : sq < 18446744073709551616) (h : ¬ 300000 < len) :
    Calls Tryz.prog 4 #[.slice ao len cap, .agg #[.int .u64 (ep : Int), .int .u64 (sq : Int), .int .i64 tl]] w fun e w' => e = .returned (.bool true) ∧ Chg [] w w' := by
  have hlen : len = bs.length := by
    obtain ⟨o2, c2, e2⟩ := hs.slice
    rw [ints_length] at e2
    injection e2
  have h1 : ¬ (300000 : Int) < len := by omega
  obtain ⟨N2, hN2⟩ : ∃ N2, N2 = len + 2 := ⟨_, rfl⟩
  have W0 : Hid (∀ w', Chg [] (w.alloc (.cells #[.int .u64 (ep : Int), .int .u64 (sq : Int), .int .i64 tl] 57)) w' → w'.cell? ⟨w.heap.size, 0, none⟩ = some (.int .u64 (ep : Int)) ∧ w'.cell? ⟨w.heap.size, 1, none⟩ = some (.int .u64 (sq : Int)) ∧ w'.cell? ⟨w.heap.size, 2, none⟩ = some (.int .i64 tl) ∧ Chg [] w w') := fun w' c =>
    have b := (Blk.made w [.int .u64 (ep : Int), .int .u64 (sq : Int), .int .i64 tl] 57).chg c (by simp)
    ⟨b.cell (j := 0) rfl, b.cell (j := 1) rfl, b.cell (j := 2) rfl, ((Chg.refl _ _).alloc _).trans c⟩
  have LE : Hid (∀ W, Chg [] w W → Calls Tryz.prog 15 #[.slice ao len cap] W fun e w' => ∃ g, e = .returned (.slice (some ⟨g, 0, none⟩) len N2) ∧ Hid (Side W w' [blkT g 5 ((ints bs ++ [91, 92]).map (Value.int .u8))])) := fun W c => lent_side (hs.chgNil c) hlen (by omega) N2 hN2
  have OS : ∀ (W : World) (g : Nat), Blk W g 5 ((ints bs ++ [91, 92]).map (Value.int .u8)) → Sl W (.slice (some ⟨g, 0, none⟩) len N2) (ints bs) := fun W g B => by
    have k := Blk.sl (n := N2) B
    rw [ints_length, ← hlen] at k
    exact k
  have OF1 : Hid (∀ W g, Blk W g 5 ((ints bs ++ [91, 92]).map (Value.int .u8)) → Calls Tryz.prog 16 #[.slice (some ⟨g, 0, none⟩) len N2, .agg #[.int .u64 (ep : Int), .int .u64 (sq : Int), .int .i64 tl]] W fun e w' => ∃ L N nx hd u er, Hid (FoundIs bs ep sq tl L N nx hd u er) ∧ FGots .u16 W sq L N nx hd u er e w') := fun W g B =>
    (of_any _ len N2 ep sq tl bs W (OS W g B) hb (by omega) (by omega) hep hsq).mono fun e w' k => of_first k
  have OF2 : Hid (∀ L N nx hd u er, FoundIs bs ep sq tl L N nx hd u er → ∀ W g, Blk W g 5 ((ints bs ++ [91, 92]).map (Value.int .u8)) → Calls Tryz.prog 16 #[.slice (some ⟨g, 0, none⟩) len N2, .agg #[.int .u64 (ep : Int), .int .u64 (sq : Int), .int .i64 tl]] W (FGots .u16 W sq L N nx hd u er)) := fun L N nx hd u er F W g B =>
    (of_any _ len N2 ep sq tl bs W (OS W g B) hb (by omega) (by omega) hep hsq).mono fun e w' k => of_next F k
  have RF : Hid (∀ L N nx hd u er, FoundIs bs ep sq tl L N nx hd u er → ∀ W, Chg [] w W → Calls Tryz.prog 19 #[.slice ao len cap, .agg #[.int .u64 (ep : Int), .int .u64 (sq : Int), .int .i64 tl]] W (FGots .i64 W sq L N nx hd u er)) := fun L N nx hd u er F W c =>
    rof_any ao len cap ep sq tl bs W F (hs.chgNil c) hb hc (by omega)
  have WH : Hid (∀ W g, Blk W g 5 ((ints bs ++ [91, 92]).map (Value.int .u8)) → Chg [] w W → Calls Tryz.prog 17 #[.slice (some ⟨g, 0, none⟩) len N2, .slice ao len cap] W fun e w' => e = .returned (.bool true) ∧ Hid (Chg [] W w')) := fun W g B c => by
    have k := whole_any g (.slice ao len cap) (ints bs) W B (hs.chgNil c) (by rw [ints_length]; omega)
    rw [ints_length, ← hlen, ← hN2] at k
    exact k.mono fun e w' ⟨he, q, hq⟩ => ⟨he, by rw [hq]; exact (Chg.refl _ _).drewN q⟩
  have SP : Hid (∀ W g, Blk W g 5 ((ints bs ++ [91, 92]).map (Value.int .u8)) → Calls Tryz.prog 18 #[.slice (some ⟨g, 0, none⟩) len N2] W fun e w' => e = .returned (.tuple #[]) ∧ Hid (Chg [g] W w')) := fun W g B => by
    have k := spoil_any g len (ints bs ++ [91, 92]) W B (by rw [List.length_append, ints_length, ← hlen]; rfl) (by omega)
    rw [← hN2] at k
    exact k
  have FEW : Hid (∀ L N nx hd u er, FoundIs bs ep sq tl L N nx hd u er → N ≤ 2048 ∧ er ≤ 1 ∧ (∀ l ∈ L, Sc.Good l) ∧ (L.map List.length).sum ≤ 2048 ∧ N = L.length) := fun L N nx hd u er F => ⟨(F.few hb).1, (F.few hb).2.1, (F.few hb).2.2.1, (F.few hb).2.2.2, F.1⟩
  obtain ⟨y0, y1, y2, _⟩ := W0.out _ (Chg.refl _ _)
  clear hs hb hc hep hsq h hlen hN2 OS
  go_enter Tryz.func4, Tryz.ntmps4
  go_wp2_with fail
  obtain ⟨wb, hwb⟩ : ∃ wb, wb = (w.alloc (.cells #[.int .u64 (ep : Int), .int .u64 (sq : Int), .int .i64 tl] 57)) := ⟨_, rfl⟩
  obtain ⟨tb, htb⟩ : ∃ tb, tb = w.heap.size := ⟨_, rfl⟩
  rw [← hwb, ← htb] at W0
  rw [← hwb, ← htb]
  clear hwb htb y0 y1 y2
  refine Calls.mono (show Calls Tryz.prog 15 #[.slice ao len cap] wb _ from LE.out wb (W0.out wb (Chg.refl _ _)).2.2.2) ?_
  rintro e w1 ⟨g, rfl, H1⟩
  obtain ⟨z0, z1, z2, CZ⟩ := W0.out w1 H1.out.chg
  go_wp2_with fail
  refine (OF1.out w1 g (H1.out.get 0 rfl)).mono ?_
  rintro e w2 ⟨L, N, nx, hd, u, er, F, a1, c1, T1, rfl, L1, K1⟩
  have H2 : Hid (Side wb (w2.alloc (.cells #[.slice a1 N c1, .int .u64 (nx : Int), .int .i64 (hd : Int), .int .i64 (u : Int)] 61)) (blkT w2.heap.size 61 [.slice a1 N c1, .int .u64 (nx : Int), .int .i64 (hd : Int), .int .i64 (u : Int)] :: wideT 2 25 (.slice a1 N c1) (txSlots sq T1) :: poolWT 3 72 (listsOf T1) :: poolT (dataOf T1) :: [blkT g 5 ((ints bs ++ [91, 92]).map (Value.int .u8))])) := (H1.out.stack K1.out).box [.slice a1 N c1, .int .u64 (nx : Int), .int .i64 (hd : Int), .int .i64 (u : Int)] 61
  clear H1 K1 z0 z1 z2 CZ LE OF1
  obtain ⟨z0, z1, z2, CZ⟩ := W0.out _ H2.out.chg
  go_wp2_with fail
  obtain ⟨f1, hf1⟩ : ∃ f1, f1 = w2.heap.size := ⟨_, rfl⟩
  obtain ⟨w3, hw3⟩ : ∃ w3, w3 = (w2.alloc (.cells #[.slice a1 N c1, .int .u64 (nx : Int), .int .i64 (hd : Int), .int .i64 (u : Int)] 61)) := ⟨_, rfl⟩
  rw [← hf1, ← hw3] at H2
  rw [← hf1, ← hw3]
  clear hf1 hw3 z0 z1 z2 CZ
  refine Calls.mono (show Calls Tryz.prog 16 #[.slice (some ⟨g, 0, none⟩) len N2, .agg #[.int .u64 (ep : Int), .int .u64 (sq : Int), .int .i64 tl]] w3 _ from OF2.out L N nx hd u er F.out w3 g (H2.out.get 4 rfl)) ?_
  rintro e w4 ⟨a2, c2, T2, rfl, L2, K2⟩
  have H4 : Hid (Side wb (w4.alloc (.cells #[.slice a2 N c2, .int .u64 (nx : Int), .int .i64 (hd : Int), .int .i64 (u : Int)] 61)) (blkT w4.heap.size 61 [.slice a2 N c2, .int .u64 (nx : Int), .int .i64 (hd : Int), .int .i64 (u : Int)] :: wideT 2 25 (.slice a2 N c2) (txSlots sq T2) :: poolWT 3 72 (listsOf T2) :: poolT (dataOf T2) :: blkT f1 61 [.slice a1 N c1, .int .u64 (nx : Int), .int .i64 (hd : Int), .int .i64 (u : Int)] :: wideT 2 25 (.slice a1 N c1) (txSlots sq T1) :: poolWT 3 72 (listsOf T1) :: poolT (dataOf T1) :: [blkT g 5 ((ints bs ++ [91, 92]).map (Value.int .u8))])) := (H2.out.stack K2.out).box [.slice a2 N c2, .int .u64 (nx : Int), .int .i64 (hd : Int), .int .i64 (u : Int)] 61
  clear H2 K2 OF2
  go_wp2_with fail
  obtain ⟨f2, hf2⟩ : ∃ f2, f2 = w4.heap.size := ⟨_, rfl⟩
  obtain ⟨w5, hw5⟩ : ∃ w5, w5 = (w4.alloc (.cells #[.slice a2 N c2, .int .u64 (nx : Int), .int .i64 (hd : Int), .int .i64 (u : Int)] 61)) := ⟨_, rfl⟩
  rw [← hf2, ← hw5] at H4
  rw [← hf2, ← hw5]
  clear hf2 hw5
  refine Calls.mono (show Calls Tryz.prog 17 #[.slice (some ⟨g, 0, none⟩) len N2, .slice ao len cap] w5 _ from WH.out w5 g (H4.out.get 8 rfl) (W0.out _ H4.out.chg).2.2.2) ?_
  rintro e w6 ⟨rfl, C6⟩
  have H6 := Lib.hid (H4.out.quiet C6.out)
  clear H4 C6 WH
  go_wp2_with fail
  refine (SP.out w6 g (H6.out.get 8 rfl)).mono ?_
  rintro e w7 ⟨rfl, C7⟩
  have H7 : Hid (Side wb w7 (blkT f2 61 [.slice a2 N c2, .int .u64 (nx : Int), .int .i64 (hd : Int), .int .i64 (u : Int)] :: wideT 2 25 (.slice a2 N c2) (txSlots sq T2) :: poolWT 3 72 (listsOf T2) :: poolT (dataOf T2) :: blkT f1 61 [.slice a1 N c1, .int .u64 (nx : Int), .int .i64 (hd : Int), .int .i64 (u : Int)] :: [wideT 2 25 (.slice a1 N c1) (txSlots sq T1), poolWT 3 72 (listsOf T1), poolT (dataOf T1)])) := Side.gone (a := blkT g 5 ((ints bs ++ [91, 92]).map (Value.int .u8))) (H6.out.front 8) C7.out (fun k hk => hk)
  clear H6 C7 SP
  obtain ⟨z0, z1, z2, CZ⟩ := W0.out _ H7.out.chg
  go_wp2_with fail
  refine (RF.out L N nx hd u er F.out w7 CZ).mono ?_
  rintro e w8 ⟨a3, c3, T3, rfl, L3, K3⟩
  have H8 : Hid (Side wb (w8.alloc (.cells #[.slice a3 N c3, .int .u64 (nx : Int), .int .i64 (hd : Int), .int .i64 (u : Int)] 61)) (blkT w8.heap.size 61 [.slice a3 N c3, .int .u64 (nx : Int), .int .i64 (hd : Int), .int .i64 (u : Int)] :: wideT 2 25 (.slice a3 N c3) (txSlots sq T3) :: poolWT 3 72 (listsOf T3) :: poolT (dataOf T3) :: blkT f2 61 [.slice a2 N c2, .int .u64 (nx : Int), .int .i64 (hd : Int), .int .i64 (u : Int)] :: wideT 2 25 (.slice a2 N c2) (txSlots sq T2) :: poolWT 3 72 (listsOf T2) :: poolT (dataOf T2) :: blkT f1 61 [.slice a1 N c1, .int .u64 (nx : Int), .int .i64 (hd : Int), .int .i64 (u : Int)] :: [wideT 2 25 (.slice a1 N c1) (txSlots sq T1), poolWT 3 72 (listsOf T1), poolT (dataOf T1)])) := (H7.out.stack K3.out).box [.slice a3 N c3, .int .u64 (nx : Int), .int .i64 (hd : Int), .int .i64 (u : Int)] 61
  clear H7 K3 RF z0 z1 z2 CZ
  have FW := FEW.out L N nx hd u er F.out
  obtain ⟨b1, b2, b3, b4, b5⟩ := FW
  have E1 : Hid (found T1 = L ∧ found T2 = L ∧ found T3 = L) := ⟨L1.out, L2.out, L3.out⟩
  have GD := Lib.hid b3
  have D1 : Hid ((dataOf T1).length ≤ 2048 ∧ (dataOf T2).length ≤ 2048 ∧ T1.length ≤ 2048 ∧ T2.length ≤ 2048 ∧ T3.length ≤ 2048) := by
    refine ⟨?_, ?_, ?_, ?_, ?_⟩
    · rw [dataOf_len, E1.out.1]; exact b4
    · rw [dataOf_len, E1.out.2.1]; exact b4
    · rw [← found_len, E1.out.1, ← b5]; exact b1
    · rw [← found_len, E1.out.2.1, ← b5]; exact b1
    · rw [← found_len, E1.out.2.2, ← b5]; exact b1
  have hE : ((er : Int) = 0) ∨ ((er : Int) = 1) := by omega
  obtain ⟨E, hEE⟩ : ∃ E, E = (er : Int) := ⟨_, rfl⟩
  rw [← hEE] at hE
  rw [← hEE]
  clear b1 b2 b3 b4 b5 hEE FEW F L1 L2 L3
  have H9 : Hid (Side wb ((w8.alloc (.cells #[.slice a3 N c3, .int .u64 (nx : Int), .int .i64 (hd : Int), .int .i64 (u : Int)] 61)).alloc (.cells (ptBook (.slice none 0 0) (.slice none 0 0) (.slice none 0 0)).toArray 50)) (wideT 2 25 (.slice a1 N c1) (txSlots sq T1) :: poolWT 3 72 (listsOf T1) :: poolT (dataOf T1) :: bytesT (.slice none 0 0) [] :: ptsRackT (.slice none 0 0) [] :: txsRackT (.slice none 0 0) [] :: ptBookT (w8.heap.size + 1) (.slice none 0 0) (.slice none 0 0) (.slice none 0 0) :: blkT w8.heap.size 61 [.slice a3 N c3, .int .u64 (nx : Int), .int .i64 (hd : Int), .int .i64 (u : Int)] :: wideT 2 25 (.slice a3 N c3) (txSlots sq T3) :: poolWT 3 72 (listsOf T3) :: poolT (dataOf T3) :: blkT f2 61 [.slice a2 N c2, .int .u64 (nx : Int), .int .i64 (hd : Int), .int .i64 (u : Int)] :: wideT 2 25 (.slice a2 N c2) (txSlots sq T2) :: poolWT 3 72 (listsOf T2) :: poolT (dataOf T2) :: [blkT f1 61 [.slice a1 N c1, .int .u64 (nx : Int), .int .i64 (hd : Int), .int .i64 (u : Int)]])) := by
    have h1 := H8.out.box (ptBook (.slice none 0 0) (.slice none 0 0) (.slice none 0 0)) 50
    have h2 := h1.add (b := txsRackT (.slice none 0 0) []) (Chg.refl _ _) (RackW.nil 2 _ _ _) (fun k hk => by simp [txsRackT, rackWT, blocksOf, Value.ownBlock] at hk)
    have h3 := h2.add (b := ptsRackT (.slice none 0 0) []) (Chg.refl _ _) (RackW.nil 3 _ _ _) (fun k hk => by simp [ptsRackT, rackWT, blocksOf, Value.ownBlock] at hk)
    have h4 := h3.add (b := bytesT (.slice none 0 0) []) (Chg.refl _ _) (Rack.nil _ _ _) (fun k hk => by simp [bytesT, rackT, rowsOf, Value.ownBlock] at hk)
    rw [World.size_alloc] at h4
    exact ((h4.front 15).front 15).front 15
  have q8 : Blk (w8.alloc (.cells #[.slice a3 N c3, .int .u64 (nx : Int), .int .i64 (hd : Int), .int .i64 (u : Int)] 61)) f1 61 [.slice a1 N c1, .int .u64 (nx : Int), .int .i64 (hd : Int), .int .i64 (u : Int)] := H8.out.get 8 rfl
  have x1 : Blk ((w8.alloc (.cells #[.slice a3 N c3, .int .u64 (nx : Int), .int .i64 (hd : Int), .int .i64 (u : Int)] 61)).alloc (.cells #[.slice none 0 0, .slice none 0 0, .slice none 0 0, .slice none 0 0, .slice none 0 0, .slice none 0 0, .slice none 0 0, .slice none 0 0, .slice none 0 0, .slice none 0 0, .slice none 0 0, .slice none 0 0] 50)) f1 61 [.slice a1 N c1, .int .u64 (nx : Int), .int .i64 (hd : Int), .int .i64 (u : Int)] := q8.alloc _
  have p0 := x1.cell (j := 0) rfl
  have p1 := x1.cell (j := 1) rfl
  have p2 := x1.cell (j := 2) rfl
  have p3 := x1.cell (j := 3) rfl
  clear q8 x1 H8
  go_wp2_with fail
  obtain ⟨f3, hf3⟩ : ∃ f3, f3 = w8.heap.size := ⟨_, rfl⟩
  obtain ⟨bb, hbb⟩ : ∃ bb, bb = w8.heap.size + 1 := ⟨_, rfl⟩
  obtain ⟨wx, hwx⟩ : ∃ wx, wx = (w8.alloc (.cells #[.slice a3 N c3, .int .u64 (nx : Int), .int .i64 (hd : Int), .int .i64 (u : Int)] 61)).alloc (.cells (ptBook (.slice none 0 0) (.slice none 0 0) (.slice none 0 0)).toArray 50) := ⟨_, rfl⟩
  rw [← hbb, ← hwx, ← hf3] at H9
  rw [← hbb, ← hf3]
  have B1 := bookFnd_side (nx := nx) (hd := hd) (u := u) H9.out (by have := D1.out; simp; omega) (by have := D1.out; simp; omega) (by simp)
  refine Calls.mono (show Calls Tryz.prog 20 #[.pointer (some ⟨bb, 0, none⟩), .agg #[.slice a1 N c1, .int .u64 (nx : Int), .int .i64 (hd : Int), .int .i64 (u : Int)]] (World.alloc (World.alloc _ _) _) _ from by rw [hwx] at B1; exact B1) ?_
  rintro e w10 ⟨rfl, l0, l10, l11, H10⟩
  have HB2 : Hid (Side wb w10 (wideT 2 25 (.slice a2 N c2) (txSlots sq T2) :: poolWT 3 72 (listsOf T2) :: poolT (dataOf T2) :: bytesT l0 ([] ++ dataOf T1) :: ptsRackT l10 ([] ++ listsOf T1) :: txsRackT l11 ([] ++ [(.slice a1 N c1, txSlots sq T1)]) :: ptBookT bb l0 l10 l11 :: blkT f3 61 [.slice a3 N c3, .int .u64 (nx : Int), .int .i64 (hd : Int), .int .i64 (u : Int)] :: wideT 2 25 (.slice a3 N c3) (txSlots sq T3) :: poolWT 3 72 (listsOf T3) :: poolT (dataOf T3) :: blkT f2 61 [.slice a2 N c2, .int .u64 (nx : Int), .int .i64 (hd : Int), .int .i64 (u : Int)] :: [blkT f1 61 [.slice a1 N c1, .int .u64 (nx : Int), .int .i64 (hd : Int), .int .i64 (u : Int)]])) := ((H10.out.front 11).front 11).front 11
  have x2 : Blk w10 f2 61 [.slice a2 N c2, .int .u64 (nx : Int), .int .i64 (hd : Int), .int .i64 (u : Int)] := HB2.out.get 11 rfl
  clear H9 B1 H10 hwx hbb hf3 p0 p1 p2 p3
  have p0 := x2.cell (j := 0) rfl
  have p1 := x2.cell (j := 1) rfl
  have p2 := x2.cell (j := 2) rfl
  have p3 := x2.cell (j := 3) rfl
  clear x2
  go_wp2_with fail
  have B2 := bookFnd_side (nx := nx) (hd := hd) (u := u) HB2.out (by have := D1.out; simp; omega) (by have := D1.out; simp [listsOf]; omega) (by simp)
  refine B2.mono ?_
  rintro e w11 ⟨rfl, k0, k10, k11, H11⟩
  clear HB2 B2 p0 p1 p2 p3
  have PL : Hid (∀ W, Chg [] w11 W → ∀ p, p ∈ dataOf T1 ∨ p ∈ dataOf T2 → OwnR W 0 p.1 p.2.length p.2) := fun W c p hp => by
    have hr := (show Rack W 5 55 k0 (([] ++ dataOf T1) ++ dataOf T2) from (H11.out.quiet c).get 0 rfl)
    have hm : p ∈ ([] ++ dataOf T1) ++ dataOf T2 := by
      rw [List.nil_append]
      exact List.mem_append.2 hp
    obtain ⟨j, hj⟩ := List.mem_iff_getElem?.1 hm
    exact hr.row j p.1 p.2 hj
  have PW : Hid (∀ W, Chg [] w11 W → ∀ p, p ∈ listsOf T1 ∨ p ∈ listsOf T2 → OwnW 3 W 0 72 p.1 p.2) := fun W c p hp => by
    have hr := (show RackW 3 W 72 23 k10 (([] ++ listsOf T1) ++ listsOf T2) from (H11.out.quiet c).get 1 rfl)
    have hm : p ∈ ([] ++ listsOf T1) ++ listsOf T2 := by
      rw [List.nil_append]
      exact List.mem_append.2 hp
    obtain ⟨j, hj⟩ := List.mem_iff_getElem?.1 hm
    exact hr.row j p.1 p.2 hj
  have TG : Hid (∀ T, found T = L → ∀ t ∈ T, Sc.Good (dOf t.2)) := fun T hT t ht => GD.out _ (by rw [← hT]; exact List.mem_map_of_mem ht)
  have R1 : Hid (∀ W, Chg [] w11 W → Txs W (.slice a1 N c1) (txFs sq T1)) := fun W c => by
    have hr := (show RackW 2 W 25 59 k11 (([] ++ [(.slice a1 N c1, txSlots sq T1)]) ++ [(.slice a2 N c2, txSlots sq T2)]) from (H11.out.quiet c).get 2 rfl)
    exact txs_found' (hr.row 0 _ _ rfl) (fun p hp => PW.out W c p (.inl hp)) (fun p hp => PL.out W c p (.inl hp)) (by have := D1.out; omega) (TG.out T1 E1.out.1)
  have R2 : Hid (∀ W, Chg [] w11 W → Txs W (.slice a2 N c2) (txFs sq T2)) := fun W c => by
    have hr := (show RackW 2 W 25 59 k11 (([] ++ [(.slice a1 N c1, txSlots sq T1)]) ++ [(.slice a2 N c2, txSlots sq T2)]) from (H11.out.quiet c).get 2 rfl)
    exact txs_found' (hr.row 1 _ _ rfl) (fun p hp => PW.out W c p (.inr hp)) (fun p hp => PL.out W c p (.inr hp)) (by have := D1.out; omega) (TG.out T2 E1.out.2.1)
  have R3 : Hid (∀ W, Chg [] w11 W → Txs W (.slice a3 N c3) (txFs sq T3)) := fun W c =>
    txs_found' ((H11.out.quiet c).get 5 rfl) (show PoolW 3 W 72 (listsOf T3) from (H11.out.quiet c).get 6 rfl).row (show Pool W (dataOf T3) from (H11.out.quiet c).get 7 rfl).row (by have := D1.out; omega) (TG.out T3 E1.out.2.2)
  have LQ : Hid (∀ T T' : List Tx, found T = L → found T' = L → (txFs sq T).length = (txFs sq T').length) := fun T T' h h' => by rw [txFs_len, txFs_len, ← found_len, ← found_len, h, h']
  have SF1 : Hid (∀ W, Chg [] w11 W → Calls Tryz.prog 21 #[.agg #[.slice a1 N c1, .int .u64 (nx : Int), .int .i64 (hd : Int), .int .i64 (u : Int)], .agg #[.slice a3 N c3, .int .u64 (nx : Int), .int .i64 (hd : Int), .int .i64 (u : Int)]] W fun e w' => e = .returned (.bool true) ∧ Hid (Chg [] W w')) := fun W c => sameFound_true nx hd u _ _ _ _ W (R1.out W c) (R3.out W c) (LQ.out _ _ E1.out.1 E1.out.2.2) (fun i p q => txs_alike (E1.out.1.trans E1.out.2.2.symm) i p q)
  have SF2 : Hid (∀ W, Chg [] w11 W → Calls Tryz.prog 21 #[.agg #[.slice a2 N c2, .int .u64 (nx : Int), .int .i64 (hd : Int), .int .i64 (u : Int)], .agg #[.slice a3 N c3, .int .u64 (nx : Int), .int .i64 (hd : Int), .int .i64 (u : Int)]] W fun e w' => e = .returned (.bool true) ∧ Hid (Chg [] W w')) := fun W c => sameFound_true nx hd u _ _ _ _ W (R2.out W c) (R3.out W c) (LQ.out _ _ E1.out.2.1 E1.out.2.2) (fun i p q => txs_alike (E1.out.2.1.trans E1.out.2.2.symm) i p q)
  have CE : Hid (∀ W, Chg [] w11 W → (W.cell? ⟨f1, 0, none⟩ = some (.slice a1 N c1) ∧ W.cell? ⟨f1, 1, none⟩ = some (.int .u64 (nx : Int)) ∧ W.cell? ⟨f1, 2, none⟩ = some (.int .i64 (hd : Int)) ∧ W.cell? ⟨f1, 3, none⟩ = some (.int .i64 (u : Int))) ∧ (W.cell? ⟨f2, 0, none⟩ = some (.slice a2 N c2) ∧ W.cell? ⟨f2, 1, none⟩ = some (.int .u64 (nx : Int)) ∧ W.cell? ⟨f2, 2, none⟩ = some (.int .i64 (hd : Int)) ∧ W.cell? ⟨f2, 3, none⟩ = some (.int .i64 (u : Int))) ∧ (W.cell? ⟨f3, 0, none⟩ = some (.slice a3 N c3) ∧ W.cell? ⟨f3, 1, none⟩ = some (.int .u64 (nx : Int)) ∧ W.cell? ⟨f3, 2, none⟩ = some (.int .i64 (hd : Int)) ∧ W.cell? ⟨f3, 3, none⟩ = some (.int .i64 (u : Int)))) := fun W c => by
    have h := H11.out.quiet c
    have k1 : Blk W f1 61 [.slice a1 N c1, .int .u64 (nx : Int), .int .i64 (hd : Int), .int .i64 (u : Int)] := h.get 9 rfl
    have k2 : Blk W f2 61 [.slice a2 N c2, .int .u64 (nx : Int), .int .i64 (hd : Int), .int .i64 (u : Int)] := h.get 8 rfl
    have k3 : Blk W f3 61 [.slice a3 N c3, .int .u64 (nx : Int), .int .i64 (hd : Int), .int .i64 (u : Int)] := h.get 4 rfl
    exact ⟨⟨k1.cell (j := 0) rfl, k1.cell (j := 1) rfl, k1.cell (j := 2) rfl, k1.cell (j := 3) rfl⟩, ⟨k2.cell (j := 0) rfl, k2.cell (j := 1) rfl, k2.cell (j := 2) rfl, k2.cell (j := 3) rfl⟩, ⟨k3.cell (j := 0) rfl, k3.cell (j := 1) rfl, k3.cell (j := 2) rfl, k3.cell (j := 3) rfl⟩⟩
  have OWN : Hid (∀ W, Chg [] w11 W → Calls Tryz.prog 14 #[.pointer (some ⟨bb, 0, none⟩)] W fun e w' => e = .returned (.bool true) ∧ Hid (Chg [] wb w')) := fun W c => by
    have d := D1.out
    have z : ∀ T : List Tx, found T = L → ∀ t ∈ T, t.2.length ≤ 1023 ∧ ∀ p ∈ t.2, (ub p.1.bs).length = 128 := fun T hT t ht => by
      have g := TG.out T hT t ht
      refine ⟨by have := g.2.1; unfold dOf at this; rw [List.length_map] at this; exact this, fun p hp => ?_⟩
      rw [ub_len]
      exact (g.2.2 p.1 (List.mem_map_of_mem hp)).2.2.1
    have z1 : ∀ T : List Tx, found T = L → ∀ p ∈ dataOf T, p.2.length = 128 := fun T hT p hp => by
      obtain ⟨t, ht, hp⟩ := List.mem_flatMap.1 hp
      obtain ⟨q, hq, rfl⟩ := List.mem_map.1 hp
      exact (z T hT t ht).2 q hq
    have z2 : ∀ T : List Tx, found T = L → ∀ p ∈ listsOf T, p.2.length ≤ 1023 := fun T hT p hp => by
      obtain ⟨t, ht, rfl⟩ := List.mem_map.1 hp
      show (t.2.map pvSlot).length ≤ _
      rw [List.length_map]
      exact (z T hT t ht).1
    have y : ∀ T : List Tx, (listsOf T).length = T.length := fun T => by simp [listsOf]
    refine txBook_own (H11.out.quiet c |>.sub (List.Sublist.refl _)) (by simp; omega) (fun p hp => ?_) (by simp [y]; omega) (fun p hp => ?_) (by simp) (fun p hp => ?_)
    · rw [List.nil_append] at hp
      rcases List.mem_append.1 hp with hp | hp
      · rw [z1 T1 E1.out.1 p hp]; decide
      · rw [z1 T2 E1.out.2.1 p hp]; decide
    · rw [List.nil_append] at hp
      rcases List.mem_append.1 hp with hp | hp
      · exact Nat.le_trans (z2 T1 E1.out.1 p hp) (by decide)
      · exact Nat.le_trans (z2 T2 E1.out.2.1 p hp) (by decide)
    · simp only [List.nil_append, List.cons_append, List.mem_cons, List.not_mem_nil, or_false] at hp
      rcases hp with rfl | rfl
      · show (txSlots sq T1).length ≤ _; rw [txSlots_len]; omega
      · show (txSlots sq T2).length ≤ _; rw [txSlots_len]; omega
  clear H11 PL PW TG R1 R2 R3 LQ D1 E1 GD
  have hE0 : 0 ≤ E := by omega
  have hE1 : E ≤ 1 := by omega
  clear hE
  go_wp2_with (first
    | (go_at_call 12; refine (known_any _).mono ?_; rintro e w12 ⟨rfl, C12⟩; obtain ⟨⟨p0, p1, p2, p3⟩, -, ⟨r0, r1, r2, r3⟩⟩ := CE.out w12 C12.out)
    | (go_at_call 21; first | ((with_reducible refine (SF1.out w12 C12.out).mono ?_); rintro e w13 ⟨rfl, C13'⟩; have C13 : Hid (Chg [] w11 w13) := C12.out.trans C13'.out; clear C13' SF1 p0 p1 p2 p3 r0 r1 r2 r3; obtain ⟨-, ⟨p0, p1, p2, p3⟩, ⟨r0, r1, r2, r3⟩⟩ := CE.out w13 C13.out) | ((with_reducible refine (SF2.out w13 C13.out).mono ?_); rintro e w14 ⟨rfl, C14'⟩; have C14 : Hid (Chg [] w11 w14) := C13.out.trans C14'.out; clear C14' SF2 p0 p1 p2 p3 r0 r1 r2 r3))
    | (go_at_call 14; refine (OWN.out w14 C14.out).mono ?_; rintro e w15 ⟨rfl, CF⟩))
  go_ret
  exact ⟨by first | rfl | simp, (W0.out _ CF.out).2.2.2⟩

end Go.Proofs.YtnkdgmnmmmjgjaaGreat
