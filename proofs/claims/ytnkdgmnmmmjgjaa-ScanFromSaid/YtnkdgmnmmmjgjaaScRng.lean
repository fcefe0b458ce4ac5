/-
  The law's laid: sectors that are laid into a copy of a ring. By an AI agent.
-/
import Derived.Test.YtnkdgmnmmmjgjaaScUse
import Derived.Test.YtnkdgmnmmmjgjaaGAppend
import Derived.Test.YtnkdgmnmmmjgjaaGRows
namespace Go.Proofs.Ytnkdgmnmmmjgjaa
open Crc Go.RowKit

/-- A list of rows as it reads: these rows are these sectors. -/
def SecRows (ds : List RowD) (S : List (List Nat)) : Prop := ds.map (·.bs) = S.map ints

theorem SecRows.at {ds : List RowD} {S : List (List Nat)} (h : SecRows ds S) {i : Nat} {s : List Nat} (hi : S[i]? = some s) : ∃ d, ds[i]? = some d ∧ d.bs = ints s := by
  have hr : (ds.map (·.bs))[i]? = some (ints s) := by rw [h, List.getElem?_map, hi]; rfl
  rw [List.getElem?_map] at hr
  exact Option.map_eq_some_iff.1 hr

theorem SecRows.len {ds : List RowD} {S : List (List Nat)} (h : SecRows ds S) : ds.length = S.length := by have := congrArg List.length h; simpa using this

theorem own_based {w0 w : World} {ts : List Thing} (h : Side w0 w ts) (i : Nat) {e : TypeId} {v : Value} {xs : List Value} (hi : ts[i]? = some (ownT e v xs)) : w.ownsRow w0.heap.size e 1 v xs.length xs := by
  have o : w.ownsRow 0 e 1 v xs.length xs := h.get i hi
  refine ⟨o.1, ?_⟩
  rcases o.2 with q | ⟨g, cap, cur, hv, hb, r⟩
  · exact .inl q
  · exact .inr ⟨g, cap, cur, hv, h.new _ (List.mem_of_getElem? hi) g (by simp [ownT, hv, Value.ownBlock]), r⟩

/-- What laid gives: a new list. -/
def Lays (w : World) (bs : List Nat) (e : Ending) (w' : World) : Prop := ∃ v, e = .returned v ∧ Hid (w'.ownsRow w.heap.size 5 1 v bs.length (ub bs)) ∧ Hid (Chg [] w w')

set_option maxHeartbeats 4000000 in
set_option maxRecDepth 100000 in
theorem laid_any (rv lv : Value) (bs : List Nat) (n at_ : Nat) (ds : List RowD) (S : List (List Nat)) (w : World) (hr : Sl w rv (ints bs)) (hn : bs.length = 128 * n) (n1 : 1 ≤ n) (n2 : n ≤ 100000) (ha : at_ ≤ 100000) (hl : Rws w lv ds) (hS : SecRows ds S) (hS8 : ∀ s ∈ S, s.length = 128) (hSl : S.length ≤ 100000) :
    Calls Try.prog 11 #[rv, .int .i64 (at_ : Int), lv] w (Lays w (Sc.layK bs at_ S S.length)) := by
  obtain ⟨i0, hi, hz0, hz1, hz2⟩ := info_parts info_b8
  replace hi := Lib.hid hi
  replace hz0 := Lib.hid hz0
  replace hz1 := Lib.hid hz1
  replace hz2 := Lib.hid hz2
  obtain ⟨ro, rc, rfl⟩ := hr.slice
  rw [ints_length, hn] at hr ⊢
  obtain ⟨lo, lc, rfl⟩ := hl.slice
  have hdl := hS.len
  rw [hdl] at hl ⊢
  obtain ⟨L, hL⟩ : ∃ L, L = 128 * n := ⟨_, rfl⟩
  rw [← hL] at hr ⊢
  obtain ⟨N, hN⟩ : ∃ N, N = S.length := ⟨_, rfl⟩
  rw [← hN] at hl ⊢
  have HN := Lib.hid hN
  have HRS := Lib.hid hS
  have H8 := Lib.hid hS8
  have HL : Hid (∀ W, Chg [] w W → Rws W (.slice lo N lc) ds) := fun W c => hl.chg c
  have HK : Hid (∀ k, k ≤ N → (Sc.layK bs at_ S k).length = 128 * n) := fun k hk => by
    rw [Sc.layK_len (by omega) hS8 at_ (by omega), hn]
  have HR := Lib.hid hr
  have HBL := Lib.hid hn
  have d1 : (L : Int) / 128 = (n : Int) := by omega
  have d2 : Int.tdiv (L : Int) 128 = (n : Int) := (Int.tdiv_eq_ediv_of_nonneg (by omega)).trans d1
  have NL : N ≤ 100000 := by omega
  have L1 : 128 ≤ L := by omega
  have L2 : L ≤ 12800000 := by omega
  have HLL := Lib.hid hL
  clear hr hl hS hS8 hN hL hdl hn hSl
  go_enter Try.func11, Try.ntmps11
  go_wp2_with (refine wpList_append_sl _ rfl (.tmp 15) (.tmp 16) 23 rfl w.heap.size 5 i0 (.int .u8 0) 1 Try.underlying23 hi.out hz0.out hz1.out hz2.out rfl (.slice none 0 0) 0 [] rfl (World.ownsRow_nil _ _ _ _) ro L rc (ints bs) rfl HR.out (by rw [ints_length, HBL.out]; unfold maxLen; omega) (by rw [ints_length, HBL.out]; omega) (Nat.le_refl _) ?_; intro ov wn ol gr nb)
  have OL : Hid (wn.ownsRow w.heap.size 5 1 ov L (ub bs)) := by
    have h := ol.out
    rw [ints_length, HBL.out, ← HLL.out, Nat.zero_add, List.nil_append] at h
    exact h
  have CN : Hid (Chg [] w wn) := (Chg.refl _ _).grown gr.out (by intro k hk; cases hk)
  obtain ⟨g, oc, rfl, hbase⟩ := own_some OL.out (by omega)
  have H0 : Hid (Side w wn [ownT 5 (.slice (some ⟨g, 0, none⟩) L oc) (ub (Sc.layK bs at_ S 0))]) := (Side.nil (Chg.refl _ w)).own OL.out CN.out
  clear ol gr nb OL CN HR hbase
  go_wp2_with fail
  go_loopw [9] (fun i wr => ∃ k : Nat, k ≤ N ∧ i = .int .i64 k ∧ Hid (Side w wr [ownT 5 (.slice (some ⟨g, 0, none⟩) L oc) (ub (Sc.layK bs at_ S k))])) (fun i _ => N - (intOf i).toNat)
  case atStart => exact ⟨0, Nat.zero_le _, rfl, H0⟩
  case round =>
    obtain ⟨k, hk, rfl, H⟩ := hrel
    clear H0
    have hk0 : (0 : Int) ≤ k := Int.natCast_nonneg _
    by_cases hlt : k < N
    · have hk1 : (k : Int) < N := by omega
      obtain ⟨s, hs⟩ : ∃ s, S[k]? = some s := ⟨_, List.getElem?_eq_getElem (by have := HN.out; omega)⟩
      obtain ⟨d, hd, hds⟩ := HRS.out.at hs
      have hs8 := H8.out s (List.mem_of_getElem? hs)
      have hsD : S.getD k [] = s := by rw [List.getD_eq_getElem?_getD, hs]; rfl
      obtain ⟨cur, hcur⟩ : ∃ cur, cur = Sc.layK bs at_ S k := ⟨_, rfl⟩
      have hcl : cur.length = 128 * n := by rw [hcur]; exact HK.out k hk
      have hq : cur.length / 128 = n := by omega
      have hnx : Hid (laying cur (128 * ((at_ + k) % n)) s 128 = Sc.layK bs at_ S (k + 1)) := by
        show _ = Sc.lay (Sc.layK bs at_ S k) (at_ + k) (S.getD k [])
        rw [← hcur, hsD, ← laying_all hs8, hq]
      rw [← hcur] at H
      obtain ⟨P, hP⟩ : ∃ P, P = (at_ + k) % n := ⟨_, rfl⟩
      have hPn : P < n := by rw [hP]; exact Nat.mod_lt _ (by omega)
      obtain ⟨M, hM⟩ : ∃ M, M = 128 * P := ⟨_, rfl⟩
      rw [← hP, ← hM] at hnx
      have q2 : ((at_ : Int) + (k : Int)) % n = (P : Int) := by rw [hP]; push_cast; rfl
      have q1 : Int.tmod ((at_ : Int) + (k : Int)) n = (P : Int) := (Int.tmod_eq_emod_of_nonneg (by omega)).trans q2
      have q3 : (P : Int) * 128 = (M : Int) := by omega
      have M2 : M + 128 ≤ L := by have := HLL.out; omega
      have H4 : Hid (Side w wr [ownT 5 (.slice (some ⟨g, 0, none⟩) L oc) (ub (laying cur M s 0))]) := by rw [laying_zero]; exact H
      have HD := Lib.hid hd
      have HDS := Lib.hid hds
      have HS8 := Lib.hid hs8
      have HCL : Hid (cur.length = L) := by rw [HLL.out]; exact hcl
      have n0 : ¬ n = 0 := by omega
      have at0 : (0 : Int) ≤ at_ := Int.natCast_nonneg _
      clear H hs hd hds hs8 hsD hcur hcl hq hP hM
      go_wp2_with fail
      go_loopw [11] (fun i wr => ∃ j : Nat, j ≤ 128 ∧ i = .int .i64 j ∧ Hid (Side w wr [ownT 5 (.slice (some ⟨g, 0, none⟩) L oc) (ub (laying cur M s j))])) (fun i _ => 128 - (intOf i).toNat)
      case atStart => exact ⟨0, by omega, rfl, H4⟩
      case round =>
        obtain ⟨j, hj, rfl, H⟩ := hrel
        clear H4
        have hj0 : (0 : Int) ≤ j := Int.natCast_nonneg _
        obtain ⟨b, o, rfl, hbl, I⟩ := (HL.out _ H.out.chg).at HD.out
        have c0 := I.c0
        have hsl := I.sl
        rw [HDS.out] at hsl
        obtain ⟨xo, xc, hxv⟩ := hsl.slice
        rw [ints_length, HS8.out] at hxv
        rw [hxv] at c0 hsl
        by_cases hjl : j < 128
        · have hj1 : (j : Int) < 128 := by omega
          obtain ⟨y, hy⟩ : ∃ y, s[j]? = some y := ⟨_, List.getElem?_eq_getElem (by rw [HS8.out]; exact hjl)⟩
          obtain ⟨b2, o2, rfl, hb⟩ := sl_at hsl (k := j) (by rw [ints_length, HS8.out]; exact hjl)
          rw [ints_get, List.getD_eq_getElem?_getD, hy, Option.getD_some] at hb
          obtain ⟨Z, hZ⟩ : ∃ Z, Z = M + j := ⟨_, rfl⟩
          obtain ⟨H2, hf, u0, hu⟩ := H.out.set 0 rfl (k := Z) (by rw [ub_len, laying_len (by rw [HCL.out]; omega) (by rw [HS8.out]; omega), HCL.out]; omega) (.int .u8 (y : Int))
          have e3 : (ub (laying cur M s j)).set Z (.int .u8 (y : Int)) = ub (laying cur M s (j + 1)) := by
            rw [hZ, ← laying_set (by rw [HCL.out]; omega) hy]
            exact (ub_set _ _ _).symm
          rw [e3] at H2
          replace H2 := Lib.hid H2
          have q4 : (M : Int) + j = (Z : Int) := by omega
          have z0 : (0 : Int) ≤ Z := by omega
          have z1 : (Z : Int) < L := by omega
          clear hsl hy e3 hZ I hxv hbl
          go_wp2_with fail
          exact ⟨⟨j + 1, by omega, by go_num, H2⟩, by simp [intOf]; omega⟩
        · obtain rfl : j = 128 := by omega
          rw [hnx.out] at H
          clear hjl hj hj0 hsl I hxv hbl
          go_wp2_with fail
          exact ⟨⟨k + 1, by omega, by go_num, H⟩, by simp [intOf]; omega⟩
    · obtain rfl : k = N := by omega
      have FIN : Hid (Lays w (Sc.layK bs at_ S k) (.returned (.slice (some ⟨g, 0, none⟩) L oc)) wr) := by
        have o1 := own_based H.out 0 rfl
        rw [ub_len] at o1
        exact ⟨_, rfl, o1, H.out.chg⟩
      clear H hlt hk hk0
      go_wp2_with fail
      go_ret
      exact FIN.out


/-- Some answer. -/
def TellsB (e : Ending) : Prop := ∃ b : Bool, e = .returned (.bool b)

set_option maxHeartbeats 4000000 in
set_option maxRecDepth 100000 in
theorem much_any (v : Value) (ds : List PtD) (w : World) (h : Pts w v ds) : Calls Try.prog 9 #[v] w fun e w' => TellsB e ∧ Hid (Chg [] w w') := by
  obtain ⟨ao, vc, rfl⟩ := h.slice
  have big := h.len
  have HP : Hid (∀ w', Chg [] w w' → Pts w' (.slice ao ds.length vc) ds) := fun w' c => h.chg c
  obtain ⟨N, hN⟩ : ∃ N, N = ds.length := ⟨_, rfl⟩
  rw [← hN] at big HP ⊢
  have HN := Lib.hid hN
  clear h hN
  go_enter Try.func9, Try.ntmps9
  go_wp2_with fail
  go_loopw [3, 4] (fun n i wr => ∃ k m : Nat, k ≤ N ∧ m ≤ 281474976710656 ∧ i = .int .i64 k ∧ n = .int .i64 m ∧ Hid (Chg [] w wr)) (fun _ i _ => N - (intOf i).toNat)
  case atStart => exact ⟨0, N, Nat.zero_le _, by omega, rfl, rfl, Chg.refl _ _⟩
  case round =>
    obtain ⟨k, m, hk, hm, rfl, rfl, C⟩ := hrel
    have hk0 : (0 : Int) ≤ k := Int.natCast_nonneg _
    have hm0 : (0 : Int) ≤ m := Int.natCast_nonneg _
    by_cases hlt : k < N
    · have hk1 : (k : Int) < N := by omega
      by_cases hms : m ≤ 300000
      · have hms1 : (m : Int) ≤ 300000 := by omega
        obtain ⟨x, hx⟩ : ∃ x, ds[k]? = some x := ⟨_, List.getElem?_eq_getElem (by have := HN.out; omega)⟩
        obtain ⟨b, o, rfl, hbl, I⟩ := (HP.out _ C.out).at hx
        have c2 := I.c2
        have hbig := I.big
        obtain ⟨xo, xc, hxv⟩ := I.sl.slice
        rw [hxv] at c2
        obtain ⟨q, hq⟩ : ∃ q, q = x.d.length := ⟨_, rfl⟩
        rw [← hq] at c2 hbig
        have hq0 : (m : Int) + q ≤ 281474976710656 := by omega
        clear I hxv hq hx
        go_wp2_with fail
        exact ⟨⟨k + 1, m + q, by omega, by omega, by go_num, by go_num, C⟩, by simp [intOf]; omega⟩
      · have hms1 : ¬ (m : Int) ≤ 300000 := by omega
        go_wp2_with fail
        go_ret
        exact ⟨⟨_, rfl⟩, C⟩
    · have hk1 : ¬ (k : Int) < N := by omega
      go_wp2_with fail
      go_ret
      exact ⟨⟨_, rfl⟩, C⟩

end Go.Proofs.Ytnkdgmnmmmjgjaa
