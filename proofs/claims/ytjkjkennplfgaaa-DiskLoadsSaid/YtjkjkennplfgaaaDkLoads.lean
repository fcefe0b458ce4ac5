/-
  DiskLoads walked. By an AI agent.
-/
import Derived.Test.YtjkjkennplfgaaaDkMuch
namespace Go.Proofs.Ytjkjkennplfgaaa
open Go.RowKit

theorem RdV.oldBlock {w : World} {v : Value} {xs : List Value} (h : RdV w v xs) (hn : xs ≠ []) : ∀ k, v.ownBlock = some k → k < w.heap.size := fun k hk => by
  rcases h with ⟨h0, _⟩ | ⟨b, o, cp, rfl, hb, _⟩
  · exact absurd h0 hn
  · obtain rfl : b = k := by simpa [Value.ownBlock] using hk
    exact hb

theorem does_any (g r b pb : Nat) (d : Dk) (F G : List Nat) (l0 l2 : Value) (vs us : List (Value × List Value)) (kd at_ : Int) (dv kv : Value) (xs : List Int) (ks : List Bool) (w0 w : World)
    (h : Side w0 w (pairThings g r b pb d F G l0 l2 vs us)) (hc : d.cache.length ≤ 1000000000) (hvl : vs.length ≤ 1000000) (hul : us.length ≤ 1000000) (hk : 0 ≤ kd ∧ kd ≤ 255) (ha : -9223372036854775808 ≤ at_ ∧ at_ ≤ 9223372036854775807)
    (DV : Hid (∀ w', Chg [] w0 w' → Sl w' dv xs)) (hby : By xs) (hxl : xs.length ≤ 140737488355328) (KV : Hid (∀ w', Chg [] w0 w' → RdV w' kv (ks.map Value.bool))) (hkl : ks.length ≤ 1000000000) :
    Calls Try.prog 18 #[.pointer (some ⟨pb, 0, none⟩), .agg #[.int .u8 kd, .int .i64 at_, dv, kv]] w (Did w0 g r b pb d vs us) := by
  obtain ⟨m, hm, hml⟩ := tmod_nat hk.1 9 (by decide)
  rw [show ((9 : Nat) : Int) = 9 from rfl] at hm
  have KO : Hid (ks ≠ [] → ∀ k, kv.ownBlock = some k → k < w0.heap.size) := fun hn => (KV.out w0 (Chg.refl _ _)).oldBlock (by simpa using hn)
  rcases (show m = 0 ∨ m = 1 ∨ m = 2 ∨ m = 3 ∨ m = 4 ∨ m = 5 ∨ m = 6 ∨ m = 7 ∨ m = 8 by omega) with rfl | rfl | rfl | rfl | rfl | rfl | rfl | rfl | rfl
  · exact does0 g r b pb d F G l0 l2 vs us kd at_ dv kv w0 w h hm ha hc hvl
  · exact does1 g r b pb d F G l0 l2 vs us kd at_ dv kv w0 w h hm ha hc hvl hul xs DV hby hxl
  · exact does2 g r b pb d F G l0 l2 vs us kd at_ dv kv w0 w h hm ha hc hvl hul xs DV hby hxl
  · exact does3 g r b pb d F G l0 l2 vs us kd at_ dv kv w0 w h hm ha hc hvl hul
  · exact does4 g r b pb d F G l0 l2 vs us kd at_ dv kv w0 w h hm ha hc hvl hul ks KV hkl KO
  · exact does5 g r b pb d F G l0 l2 vs us kd at_ dv kv w0 w h hm ha hc hvl hul
  · exact does6 g r b pb d F G l0 l2 vs us kd at_ dv kv w0 w h hm ha hc hvl hul
  · by_cases h77 : at_ = 77
    · subst h77
      exact does7_77 g r b pb d F G l0 l2 vs us kd dv kv w0 w h hm hc hvl hul
    · exact does7 g r b pb d F G l0 l2 vs us kd at_ dv kv w0 w h hm ha hc hvl hul h77
  · exact does8 g r b pb d F G l0 l2 vs us kd at_ dv kv w0 w h hm ha hc hvl hul

theorem Chg.two {w : World} (x y : Obj) : Chg [] w ((w.alloc x).alloc y) := ((Chg.refl _ _).alloc x).alloc y

theorem size_alloc (w : World) (x : Obj) : (w.alloc x).heap.size = w.heap.size + 1 := by rw [show (w.alloc x).heap = w.heap.push x from rfl, Array.size_push]

set_option maxHeartbeats 4000000 in
set_option maxRecDepth 100000 in
theorem diskLoads_walk (v vl : Value) (xs : List Int) (es : List ActD) (w : World) (hv : Sl w v xs) (hby : By xs) (hb : xs.length ≤ 140737488355328) (hl : Acts w vl es) :
    Calls Try.prog 3 #[v, vl] w fun e w' => e = .returned (.bool true) ∧ Chg [] w w' := by
  have HV := Lib.hid hv
  have HA := Lib.hid hl
  have hlen := hl.len
  obtain ⟨vo, vc, rfl⟩ := hv.slice
  obtain ⟨lo, lc, rfl⟩ := hl.slice
  clear hv hl
  by_cases hbig : 4000000 < xs.length
  · have hb1 : (4000000 : Int) < xs.length := by omega
    go_enter Try.func3, Try.ntmps3
    go_wp2_with fail
    go_ret
    exact ⟨rfl, Chg.refl _ _⟩
  have hb1 : ¬ (4000000 : Int) < xs.length := by omega
  go_enter Try.func3, Try.ntmps3
  go_wp2_with fail
  refine (lent_any _ xs w HV.out hb).mono ?_
  rintro e w1 ⟨lg, rfl, LB, LC, ln⟩
  have H : Hid (Side w w1 [blkT lg 5 ((xs ++ [91, 92]).map (Value.int .u8))]) := (Side.nil (Chg.refl _ _)).add LC LB (fun k hk => by rw [List.mem_singleton.1 hk]; exact ln)
  clear LB LC ln
  go_wp2_with fail
  refine (dload_any _ xs w1 (Blk.sl (H.out.get 0 rfl)) hby hb (fun ao n c e => by have h1 := congrArg (fun v => match v with | Value.slice _ n _ => n | _ => 0) e; have h2 := congrArg (fun v => match v with | Value.slice _ _ c => c | _ => 0) e; simp only at h1 h2; omega)).mono ?_
  rintro e w2 (⟨hno, rfl, C⟩ | ⟨hok, g, F, rfl, D, N, C⟩)
  · replace H : Hid (Side w w2 [blkT lg 5 ((xs ++ [91, 92]).map (Value.int .u8))]) := H.out.quiet C.out
    clear C
    go_wp2_with fail
    refine (rload_any _ xs w2 (HV.out.chgNil H.out.chg) hby hb).mono ?_
    rintro e w3 (⟨_, rfl, C⟩ | ⟨hok, _⟩)
    rotate_left
    · exact absurd hok hno
    replace H : Hid (Side w w3 [blkT lg 5 ((xs ++ [91, 92]).map (Value.int .u8))]) := H.out.quiet C.out
    clear C
    go_wp2_with fail
    refine (whole_any lg _ xs _ (H.out.get 0 rfl) (HV.out.chgNil H.out.chg) hb).mono ?_
    rintro e w4 ⟨rfl, qd, hw⟩
    replace H : Hid (Side w w4 [blkT lg 5 ((xs ++ [91, 92]).map (Value.int .u8))]) := H.out.quiet (by rw [hw]; exact (Chg.refl [] _).drewN _)
    clear hw
    go_wp2_with fail
    replace H : Hid (Side w w4 [blkT lg 5 ((xs ++ [91, 92]).map (Value.int .u8))]) := (H.out).front 0
    refine (spoil_any lg xs.length (xs ++ [91, 92]) _ (H.out.get 0 rfl) (by simp) hb).mono ?_
    rintro e w5 ⟨rfl, C⟩
    replace H : Hid (Side w w5 []) := H.out.spent C (fun k hk => hk)
    clear C
    go_wp2_with fail
    refine (dknown_any _).mono ?_
    rintro e w6 ⟨rfl, C⟩
    replace H : Hid (Side w w6 []) := H.out.quiet C.out
    clear C
    go_wp2_with fail
    go_ret
    exact ⟨rfl, H.out.chg⟩
  replace H : Hid (Side w w2 [DiskT g (Dk.load (nats xs)) F, blkT lg 5 ((xs ++ [91, 92]).map (Value.int .u8))]) := H.out.add C.out D.out N.out
  clear C D N
  go_wp2_with fail
  refine (rload_any _ xs w2 (HV.out.chgNil H.out.chg) hby hb).mono ?_
  rintro e w3 (⟨hno, _⟩ | ⟨_, r, G, rfl, D, N, C⟩)
  · exact absurd hok hno
  replace H : Hid (Side w w3 [RefT r (Dk.load (nats xs)) G, DiskT g (Dk.load (nats xs)) F, blkT lg 5 ((xs ++ [91, 92]).map (Value.int .u8))]) := H.out.add C.out D.out N.out
  clear C D N
  obtain ⟨n, hn, hn1, hn2⟩ := hok
  have him : (Dk.load (nats xs)).image = nats xs := Dk.load_flat (by rw [nats_length]; exact hn)
  have hca : (Dk.load (nats xs)).cache.length = 0 := rfl
  obtain ⟨d0, hd0⟩ : ∃ d, d = Dk.load (nats xs) := ⟨_, rfl⟩
  rw [← hd0] at H him hca
  clear hd0
  replace him := Lib.hid him
  replace hn := Lib.hid hn
  have hq1 : Int.tdiv (xs.length : Int) 128 = (n : Int) := by have h := hn.out; rw [Int.tdiv_eq_ediv_of_nonneg (Int.natCast_nonneg _)]; omega
  have hq2 : (xs.length : Int) / 128 = (n : Int) := by have h := hn.out; omega
  by_cases hL : 40 < es.length
  · have hL1 : (40 : Int) < es.length := by omega
    go_wp2_with fail
    refine (whole_any lg _ xs _ (H.out.get 2 rfl) (HV.out.chgNil H.out.chg) hb).mono ?_
    rintro e w4 ⟨rfl, qd, hw⟩
    replace H : Hid (Side w w4 [RefT r d0 G, DiskT g d0 F, blkT lg 5 ((xs ++ [91, 92]).map (Value.int .u8))]) := H.out.quiet (by rw [hw]; exact (Chg.refl [] _).drewN _)
    clear hw
    go_wp2_with fail
    replace H : Hid (Side w w4 [blkT lg 5 ((xs ++ [91, 92]).map (Value.int .u8)), RefT r d0 G, DiskT g d0 F]) := (((H.out).front 1).front 1).front 2
    refine (spoil_any lg xs.length (xs ++ [91, 92]) _ (H.out.get 0 rfl) (by simp) hb).mono ?_
    rintro e w5 ⟨rfl, C⟩
    replace H : Hid (Side w w5 [RefT r d0 G, DiskT g d0 F]) := H.out.spent C (fun k hk => hk)
    clear C
    go_wp2_with fail
    refine (dknown_any _).mono ?_
    rintro e w6 ⟨rfl, C⟩
    replace H : Hid (Side w w6 [RefT r d0 G, DiskT g d0 F]) := H.out.quiet C.out
    clear C
    go_wp2_with fail
    go_ret
    exact ⟨rfl, H.out.chg⟩
  have hL1 : ¬ (40 : Int) < es.length := by omega
  go_wp2_with fail
  refine (whole_any lg _ xs _ (H.out.get 2 rfl) (HV.out.chgNil H.out.chg) hb).mono ?_
  rintro e w4 ⟨rfl, qd, hw⟩
  replace H : Hid (Side w w4 [RefT r d0 G, DiskT g d0 F, blkT lg 5 ((xs ++ [91, 92]).map (Value.int .u8))]) := H.out.quiet (by rw [hw]; exact (Chg.refl [] _).drewN _)
  clear hw
  go_wp2_with fail
  replace H : Hid (Side w w4 [blkT lg 5 ((xs ++ [91, 92]).map (Value.int .u8)), RefT r d0 G, DiskT g d0 F]) := (((H.out).front 1).front 1).front 2
  refine (spoil_any lg xs.length (xs ++ [91, 92]) _ (H.out.get 0 rfl) (by simp) hb).mono ?_
  rintro e w5 ⟨rfl, C⟩
  replace H : Hid (Side w w5 [RefT r d0 G, DiskT g d0 F]) := H.out.spent C (fun k hk => hk)
  clear C
  go_wp2_with fail
  refine (dknown_any _).mono ?_
  rintro e w6 ⟨rfl, C⟩
  replace H : Hid (Side w w6 [RefT r d0 G, DiskT g d0 F]) := H.out.quiet C.out
  clear C
  go_wp2_with fail
  refine (much_any n _ es _ (by omega) (HA.out.chg H.out.chg)).mono ?_
  rintro e w7 ⟨bm, rfl, hmu, qd, hw⟩
  replace H : Hid (Side w w7 [RefT r d0 G, DiskT g d0 F]) := H.out.quiet (by rw [hw]; exact (Chg.refl [] _).drewN _)
  clear hw
  rcases bm with _ | _
  rotate_left
  · go_wp2_with fail
    go_ret
    exact ⟨rfl, H.out.chg⟩
  have HM := Lib.hid (hmu rfl)
  clear hmu
  go_wp2_with fail
  have T0 := dimage_any g F d0 w7 (H.out.get 1 rfl)
  rw [him.out] at T0
  refine (T0).mono ?_
  rintro e w8 ⟨u, rfl, O, C⟩
  replace H : Hid (Side w w8 [ownT 5 u ((ints (nats xs)).map (Value.int .u8)), RefT r d0 G, DiskT g d0 F]) := H.out.own O.out C.out
  clear O C
  clear T0
  go_wp2_with fail
  refine (same_true _ _ (ints (nats xs)) _ (ownT_sl (H.out.get 0 rfl)) (by rw [ints_nats hby]; exact HV.out.chgNil H.out.chg) (by rw [ints_length, nats_length]; exact hb)).mono ?_
  rintro e w9 ⟨rfl, qd, hw⟩
  replace H : Hid (Side w w9 [ownT 5 u ((ints (nats xs)).map (Value.int .u8)), RefT r d0 G, DiskT g d0 F]) := H.out.quiet (by rw [hw]; exact (Chg.refl [] _).drewN _)
  clear hw
  rw [ints_nats hby] at H
  go_wp2_with fail
  have H1 : Side w _ (blkT w9.heap.size 53 (bookCells (.slice none 0 0) (.slice none 0 0)) :: [ownT 5 u (xs.map (Value.int .u8)), RefT r d0 G, DiskT g d0 F]) := H.out.add ((Chg.refl _ _).alloc (.cells #[.slice none 0 0, .slice none 0 0, .slice none 0 0, .slice none 0 0, .slice none 0 0, .slice none 0 0, .slice none 0 0, .slice none 0 0, .slice none 0 0, .slice none 0 0, .slice none 0 0, .slice none 0 0] 53)) (Blk.made w9 [.slice none 0 0, .slice none 0 0, .slice none 0 0, .slice none 0 0, .slice none 0 0, .slice none 0 0, .slice none 0 0, .slice none 0 0, .slice none 0 0, .slice none 0 0, .slice none 0 0, .slice none 0 0] _) (fun k hk => by rw [List.mem_singleton.1 hk]; exact Nat.le_refl _)
  have H2 : Side w _ (blkT (w9.heap.size + 1) 55 (pairCells g r w9.heap.size) :: blkT w9.heap.size 53 (bookCells (.slice none 0 0) (.slice none 0 0)) :: [ownT 5 u (xs.map (Value.int .u8)), RefT r d0 G, DiskT g d0 F]) := H1.add ((Chg.refl _ _).alloc (.cells #[.pointer (some ⟨g, 0, none⟩), .pointer (some ⟨r, 0, none⟩), .pointer (some ⟨w9.heap.size, 0, none⟩)] 55)) (by rw [← size_alloc w9 (.cells #[.slice none 0 0, .slice none 0 0, .slice none 0 0, .slice none 0 0, .slice none 0 0, .slice none 0 0, .slice none 0 0, .slice none 0 0, .slice none 0 0, .slice none 0 0, .slice none 0 0, .slice none 0 0] 53)]; exact Blk.made _ [_, _, _] _) (fun k hk => by rw [List.mem_singleton.1 hk, size_alloc]; exact Nat.le_refl _)
  have H3 := (H2.add (Chg.refl _ _) (b := rackT 3 69 (.slice none 0 0) []) (Rack.nil _ _ _) (fun k hk => by simp [rackT, rowsOf, Value.ownBlock] at hk)).add (Chg.refl _ _) (b := rackT 5 22 (.slice none 0 0) []) (Rack.nil _ _ _) (fun k hk => by simp [rackT, rowsOf, Value.ownBlock] at hk)
  obtain ⟨wB, hwB⟩ : ∃ wB, wB = ((w9.alloc (.cells #[.slice none 0 0, .slice none 0 0, .slice none 0 0, .slice none 0 0, .slice none 0 0, .slice none 0 0, .slice none 0 0, .slice none 0 0, .slice none 0 0, .slice none 0 0, .slice none 0 0, .slice none 0 0] 53)).alloc (.cells #[.pointer (some ⟨g, 0, none⟩), .pointer (some ⟨r, 0, none⟩), .pointer (some ⟨w9.heap.size, 0, none⟩)] 55)) := ⟨_, rfl⟩
  rw [← hwB] at H3 ⊢
  obtain ⟨bb, hbb⟩ : ∃ bb, bb = w9.heap.size := ⟨_, rfl⟩
  rw [← hbb] at H3 ⊢
  clear H H1 H2 hwB hbb
  have H : Hid (Side w wB [rackT 5 22 (.slice none 0 0) [], rackT 3 69 (.slice none 0 0) [], blkT (bb + 1) 55 (pairCells g r bb), blkT bb 53 (bookCells (.slice none 0 0) (.slice none 0 0)), ownT 5 u (xs.map (Value.int .u8)), RefT r d0 G, DiskT g d0 F]) := H3
  clear H3
  replace H : Hid (Side w wB [ownT 5 u (xs.map (Value.int .u8)), rackT 5 22 (.slice none 0 0) [], blkT bb 53 (bookCells (.slice none 0 0) (.slice none 0 0)), DiskT g d0 F, RefT r d0 G, rackT 3 69 (.slice none 0 0) [], blkT (bb + 1) 55 (pairCells g r bb)]) := (((((((H.out).front 2).front 2).front 5).front 6).front 5).front 5).front 6
  refine (bookBytes_side H.out rfl (by simp)).mono ?_
  rintro e w10 ⟨rfl, l0, HB⟩
  clear H
  have H : Hid (Side w w10 [rackT 5 22 l0 [(u, xs.map (Value.int .u8))], blkT bb 53 (bookCells l0 (.slice none 0 0)), DiskT g d0 F, RefT r d0 G, rackT 3 69 (.slice none 0 0) [], blkT (bb + 1) 55 (pairCells g r bb)]) := HB
  clear HB
  replace H : Hid (Side w w10 [DiskT g d0 F, RefT r d0 G, rackT 5 22 l0 [(u, xs.map (Value.int .u8))], rackT 3 69 (.slice none 0 0) [], blkT bb 53 (bookCells l0 (.slice none 0 0)), blkT (bb + 1) 55 (pairCells g r bb)]) := ((((((H.out).front 5).front 2).front 5).front 3).front 5).front 5
  go_wp2_with fail
  go_loopw [13] (fun i wr => ∃ (j : Nat) (d : Dk) (F G : List Nat) (l0 l2 : Value) (vs us : List (Value × List Value)), j ≤ es.length ∧ i = .int .i64 (j : Int) ∧ Hid (d.cache.length ≤ j ∧ vs.length ≤ j + 1 ∧ us.length ≤ j ∧ (∀ p ∈ vs, p.2.length ≤ 4000000) ∧ (∀ p ∈ us, p.2.length ≤ 1000000)) ∧ Hid (Side w wr (pairThings g r bb (bb + 1) d F G l0 l2 vs us))) (fun i _ => es.length - (intOf i).toNat)
  case atStart => exact ⟨0, d0, F, G, l0, _, _, [], Nat.zero_le _, rfl, ⟨by omega, by simp, by simp, fun p hp => by rw [List.mem_singleton.1 hp, List.length_map]; omega, fun p hp => by cases hp⟩, H⟩
  case round =>
    obtain ⟨j, d, F1, G1, k0, k2, vs, us, hj, rfl, Q, HH⟩ := hrel
    clear H
    have H := HH
    clear HH
    have hj0 : (0 : Int) ≤ j := Int.natCast_nonneg _
    by_cases hlt : j < es.length
    · obtain ⟨a, ha⟩ : ∃ a, es[j]? = some a := ⟨_, List.getElem?_eq_getElem hlt⟩
      have hmem := List.mem_of_getElem? ha
      obtain ⟨b, o1, rfl, hb0, RI⟩ := (HA.out.chg H.out.chg).at ha
      obtain ⟨_, _, hlo, hb00, RI0⟩ := HA.out.at ha
      obtain ⟨rfl, rfl⟩ : b = _ ∧ o1 = _ := by simpa using hlo
      have c0 := RI.c0
      have c1 := RI.c1
      have c2 := RI.c2
      have c3 := RI.c3
      have hj1 : (j : Int) < es.length := by omega
      have hkl := HM.out a hmem
      have DV : Hid (∀ w', Chg [] w w' → Sl w' a.dataV a.data) := fun w' c => RI0.s2.chgNil c
      have KV : Hid (∀ w', Chg [] w w' → RdV w' a.keepV (a.keep.map Value.bool)) := fun w' c => RI0.s3.chgNil c
      obtain ⟨q1, q2, q3, q4, q5⟩ := Q.out
      have T0 := does_any g r bb (bb + 1) d F1 G1 k0 k2 vs us a.kind a.pos a.dataV a.keepV a.data a.keep w wr H.out (by omega) (by omega) (by omega) RI.r0 RI.r1 DV RI.y2 RI.g2 KV (by omega)
      clear RI RI0 DV KV q1 q2 q3 q4 q5 hkl hmem
      go_wp2_with fail
      refine T0.mono ?_
      rintro e w99 ⟨rfl, d', F', G', m0, m2, vs', us', H2, p1, p2, p3, p4, p5, p6⟩
      obtain ⟨q1, q2, q3, q4, q5⟩ := Q.out
      have Q2 : Hid (d'.cache.length ≤ j + 1 ∧ vs'.length ≤ j + 1 + 1 ∧ us'.length ≤ j + 1 ∧ (∀ p ∈ vs', p.2.length ≤ 4000000) ∧ (∀ p ∈ us', p.2.length ≤ 1000000)) := ⟨by omega, by omega, by omega, fun p hp => (p5 p hp).elim (q4 p) (fun h => Nat.le_trans h (by decide)), fun p hp => (p6 p hp).elim (q5 p) (fun h => Nat.le_trans h (by omega))⟩
      clear T0 H Q p1 p2 p3 p4 p5 p6 q1 q2 q3 q4 q5
      go_wp2_with fail
      exact ⟨⟨j + 1, d', F', G', m0, m2, vs', us', by omega, by go_num, Q2, H2⟩, by simp [intOf]; omega⟩
    · obtain rfl : j = es.length := by omega
      clear hlt
      have e2 : wr.cell? ⟨bb + 1, 2, none⟩ = some (.pointer (some ⟨bb, 0, none⟩)) := (H.out.get 5 rfl : Blk _ _ _ _).cell (j := 2) rfl
      go_wp2_with fail
      obtain ⟨q1, q2, q3, q4, q5⟩ := Q.out
      have H5 : Hid (Side w wr [rackT 5 22 k0 vs, rackT 3 69 k2 us, blkT bb 53 (bookCells k0 k2), DiskT g d F1, RefT r d G1, blkT (bb + 1) 55 (pairCells g r bb)]) := ((H.out.front 4).front 4).front 4
      refine (bookOwn_side H5.out (by omega) (by omega) (fun p hp => Nat.le_trans (q4 p hp) (by decide)) (fun p hp => Nat.le_trans (q5 p hp) (by decide))).mono ?_
      rintro e w98 ⟨rfl, C⟩
      clear H H5 Q q1 q2 q3 q4 q5 e2
      go_wp2_with fail
      go_ret
      exact ⟨rfl, C.out⟩

end Go.Proofs.Ytjkjkennplfgaaa
