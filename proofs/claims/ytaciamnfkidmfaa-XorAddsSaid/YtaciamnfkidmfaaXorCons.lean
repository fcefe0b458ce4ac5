/-
  What the program answers: First, Missing. By an AI agent.
-/
import Derived.Test.YtaciamnfkidmfaaXorCalls
import Derived.StillTailTactics
namespace Go.Proofs.Ytaciamnfkidmfaa
open Go.RowKit

set_option maxHeartbeats 1000000 in
set_option maxRecDepth 100000 in
theorem first_any (v u : Value) (xs ys : List Int) (w : World) (hx : Sl w v xs) (hy : Sl w u ys) (hbx : By xs) (hby : By ys) (_hx1 : xs.length ≤ 140737488355328) (_hy1 : ys.length ≤ 140737488355328) :
    Calls Try.prog 28 #[v, u] w fun e w' => e = .returned (.int .i64 (first (nats xs) (nats ys))) ∧ Hid (Chg [] w w') := by
  obtain ⟨ao, c, rfl⟩ := hx.slice
  obtain ⟨bo, d, rfl⟩ := hy.slice
  have HX := Lib.hid hx
  have HY := Lib.hid hy
  have BX := Lib.hid hbx
  have BY := Lib.hid hby
  obtain ⟨m, hm⟩ : ∃ m, m = min xs.length ys.length := ⟨_, rfl⟩
  have hmm : min (xs.length : Int) (ys.length : Int) = (m : Int) := by omega
  have hm1 : m ≤ xs.length := by omega
  have hm2 : m ≤ ys.length := by omega
  have HM := Lib.hid hm
  clear hx hy hbx hby hm
  go_enter Try.func28, Try.ntmps28
  go_wp2_with fail
  go_loopw [13] (fun i wr => ∃ k : Nat, k ≤ m ∧ i = .int .i64 k ∧ Hid (∀ j, j < k → (nats xs).getD j 0 = (nats ys).getD j 0) ∧ ∃ q, wr = w.drewN q) (fun i _ => m - (intOf i).toNat)
  case atStart => exact ⟨0, Nat.zero_le _, rfl, fun j hj => by omega, 0, rfl⟩
  case round =>
    obtain ⟨k, hk1, rfl, S, q, rfl⟩ := hrel
    have hk0 : (0 : Int) ≤ k := Int.natCast_nonneg _
    by_cases hlt : k < m
    · have hlx : k < xs.length := by omega
      have hly : k < ys.length := by omega
      obtain ⟨g1, o1, rfl, hg1, c1⟩ := sl_cell HX.out hlx
      obtain ⟨g2, o2, rfl, hg2, c2⟩ := sl_cell HY.out hly
      obtain ⟨x, e1, l1, t1⟩ := nats_getD_any BX.out k
      obtain ⟨y, e2, l2, t2⟩ := nats_getD_any BY.out k
      rw [e1] at c1
      rw [e2] at c2
      have hk3 : (k : Int) < xs.length := by omega
      have hk4 : (k : Int) < ys.length := by omega
      have hk5 : (k : Int) < m := by omega
      by_cases hxy : x = y
      · subst hxy
        have S2 : Hid (∀ j, j < k + 1 → (nats xs).getD j 0 = (nats ys).getD j 0) := fun j hj => by
          by_cases hjk : j = k
          · rw [hjk, t1, t2]
          · exact S.out j (by omega)
        clear e1 e2 t1 t2
        go_wp2_with fail
        go_quiet (fail)
        go_wp2_with fail
        exact ⟨⟨k + 1, by omega, by go_num, S2, _, rfl⟩, by simp [intOf]; omega⟩
      · have F : Hid (first (nats xs) (nats ys) = k) := first_diff (by rw [nats_length]; exact hlx) (by rw [nats_length]; exact hly) S.out (by rw [t1, t2]; exact hxy)
        have hb1 : ((x : Int) == (y : Int)) = false := beq_false_of_ne (by omega)
        have hb2 : ((x : Int) != (y : Int)) = true := by simp; omega
        clear e1 e2 t1 t2
        go_wp2_with fail
        go_quiet (fail)
        go_wp2_with fail
        go_ret
        exact ⟨by rw [F.out]; rfl, ((Chg.refl [] w).drewN _).drewN _⟩
    · obtain rfl : k = m := by omega
      have hk5 : ¬ (k : Int) < k := by omega
      by_cases hl : xs.length = ys.length
      · have F : Hid (first (nats xs) (nats ys) = -1) := first_same (fun j hj => S.out j (by rw [nats_length] at hj; have := HM.out; omega)) (by rw [nats_length, nats_length]; exact hl)
        have hb1 : ((xs.length : Int) == (ys.length : Int)) = true := by simp; omega
        clear hl
        go_wp2_with fail
        go_ret
        exact ⟨by rw [F.out]; rfl, (Chg.refl [] w).drewN _⟩
      · have F : Hid (first (nats xs) (nats ys) = (k : Int)) := by
          have := first_short (a := nats xs) (b := nats ys) (fun j hj => S.out j (by rw [nats_length, nats_length] at hj; have := HM.out; omega)) (by rw [nats_length, nats_length]; exact hl)
          rw [nats_length, nats_length, ← HM.out] at this
          exact this
        have hb1 : ((xs.length : Int) == (ys.length : Int)) = false := beq_false_of_ne (by omega)
        go_wp2_with fail
        go_ret
        exact ⟨by rw [F.out]; rfl, (Chg.refl [] w).drewN _⟩

/-- A part of a slice of rows reads as that part. -/
theorem Rws.cut {w : World} {ao : Option Addr} {c : Nat} {ds : List RowD} (h : Rws w (.slice ao ds.length c) ds) (pos n : Nat) (hn : pos + n ≤ ds.length) (hc : ds.length ≤ c) :
    Rws w (.slice (if c = pos then ao else Option.map (fun x => x.add pos) ao) n (c - pos)) ((ds.drop pos).take n) := by
  by_cases h0 : n = 0
  · subst h0
    exact .inl ⟨by simp, _, _, rfl⟩
  · rw [if_neg (by omega)]
    have hl : ((ds.drop pos).take n).length = n := by simp; omega
    rcases h with ⟨rfl, _⟩ | ⟨b, o, cp, hv, hb, hbig, hcell⟩
    · simp at hn; omega
    · obtain ⟨rfl, rfl⟩ : ao = some ⟨b, o, none⟩ ∧ c = cp := by simpa using hv
      refine .inr ⟨b, o + pos, c - pos, by rw [hl, Option.map_some, Addr.add_lit], hb, by rw [hl]; omega, fun i d hd => ?_⟩
      have hi : i < n := by
        have := (List.getElem?_eq_some_iff.1 hd).1
        omega
      rw [List.getElem?_take, if_pos hi, List.getElem?_drop] at hd
      rw [Nat.add_assoc]
      exact hcell (pos + i) d hd

/-- The first rows. -/
theorem Rws.top {w : World} {ao : Option Addr} {c : Nat} {ds : List RowD} (h : Rws w (.slice ao ds.length c) ds) (n : Nat) (hn : n ≤ ds.length) : Rws w (.slice ao n c) (ds.take n) := by
  by_cases h0 : n = 0
  · subst h0
    exact .inl ⟨by simp, _, _, rfl⟩
  · have hl : (ds.take n).length = n := by simp; omega
    rcases h with ⟨rfl, _⟩ | ⟨b, o, cp, hv, hb, hbig, hcell⟩
    · simp at hn; omega
    · obtain ⟨rfl, rfl⟩ : ao = some ⟨b, o, none⟩ ∧ c = cp := by simpa using hv
      refine .inr ⟨b, o, c, by rw [hl], hb, by rw [hl]; omega, fun i d hd => ?_⟩
      have hi : i < n := by
        have := (List.getElem?_eq_some_iff.1 hd).1
        omega
      rw [List.getElem?_take, if_pos hi] at hd
      exact hcell i d hd

theorem erase_rows (ds : List RowD) (k : Nat) : (ds.take k) ++ (ds.drop (k + 1)) = ds.eraseIdx k := (List.eraseIdx_eq_take_drop_succ ds k).symm

/-- Two lists of rows, asked together. -/
theorem askTwo (s1 s2 : Value) (d1 d2 : List RowD) (w0 : World) (h1 : Rws w0 s1 d1) (h2 : Rws w0 s2 d2) (hl : d1.length + d2.length ≤ 1000000) (hs1 : ∀ d ∈ d1, d.bs.length ≤ 1000000) (hs2 : ∀ d ∈ d2, d.bs.length ≤ 1000000) (w' : World) (b : Nat) (e : TypeId) (C : Chg [] w0 w') (B : Blk w' b e [s1, s2]) :
    Calls Try.prog 41 #[.func (.func 36) #[] #[], .slice (some ⟨b, 0, none⟩) 2 2] w' (Gives w' (ofVal (rowsN (d1 ++ d2))) (ofErr (rowsN (d1 ++ d2)))) := by
  have L : Lls w' (.slice (some ⟨b, 0, none⟩) [(s1, d1), (s2, d2)].length 2) [(s1, d1), (s2, d2)] := by
    refine ⟨⟨b, 2, rfl, B.lt, fun i p hp => B.cell (by
      match i, hp with
      | 0, hp => simp at hp; subst hp; rfl
      | 1, hp => simp at hp; subst hp; rfl)⟩, fun p hp => ?_, by simp, fun p hp => ?_, fun p hp => ?_⟩
    · rcases List.mem_cons.1 hp with rfl | hp
      · exact h1.chg C
      · rw [List.mem_singleton.1 hp]; exact h2.chg C
    · rcases List.mem_cons.1 hp with rfl | hp
      · show d1.length ≤ _; omega
      · rw [List.mem_singleton.1 hp]; show d2.length ≤ _; omega
    · rcases List.mem_cons.1 hp with rfl | hp
      · exact hs1
      · rw [List.mem_singleton.1 hp]; exact hs2
  have e0 : flat2 [(s1, d1), (s2, d2)] = d1 ++ d2 := by simp [flat2]
  have := askV_any _ _ _ L (by rw [e0, List.length_append]; exact hl)
  rw [e0] at this
  exact this

set_option maxHeartbeats 4000000 in
set_option maxRecDepth 100000 in
theorem missing_any (v : Value) (ds : List RowD) (at_ : Int) (w : World) (h : Rws w v ds) (hds : ds.length ≤ 1000000) (hsm : ∀ d ∈ ds, d.bs.length ≤ 1000000) (ha : -9223372036854775808 ≤ at_ ∧ at_ ≤ 9223372036854775807) (hcap : ∀ ao n c, v = .slice ao n c → n ≤ c) :
    Calls Try.prog 25 #[v, .int .i64 at_] w (Gives w (missVal (rowsN ds) at_) (missErr (rowsN ds) at_)) := by
  obtain ⟨ao, c, rfl⟩ := h.slice
  have hc := hcap _ _ _ rfl
  clear hcap
  by_cases hbad : at_ < 0 ∨ (ds.length : Int) ≤ at_
  · have E : Hid (missErr (rowsN ds) at_ = 1) := by
      show _ = _
      unfold missErr
      rw [if_pos (by rw [rowsN_length]; rcases hbad with h | h; exact .inl h; exact .inr (.inl h))]
    have V : Hid (missVal (rowsN ds) at_ = []) := by
      show _ = _
      unfold missVal
      rw [if_pos (by rw [rowsN_length]; rcases hbad with h | h; exact .inl h; exact .inr (.inl h))]
    clear h
    by_cases h1 : at_ < 0
    · go_enter Try.func25, Try.ntmps25
      go_wp2_with fail
      go_ret2
      exact ⟨_, by rw [E.out]; rfl, by rw [V.out]; exact World.ownsRow_nil _ _ _ _, Chg.refl _ _⟩
    · have h2 : (ds.length : Int) ≤ at_ := by omega
      go_enter Try.func25, Try.ntmps25
      go_wp2_with fail
      go_ret2
      exact ⟨_, by rw [E.out]; rfl, by rw [V.out]; exact World.ownsRow_nil _ _ _ _, Chg.refl _ _⟩
  · obtain ⟨k, rfl⟩ := Int.eq_ofNat_of_zero_le (show 0 ≤ at_ by omega)
    have hk : k < ds.length := by omega
    have E : Hid (missErr (rowsN ds) k = ofErr (rowsN (ds.take k ++ ds.drop (k + 1))) ∧ missVal (rowsN ds) k = ofVal (rowsN (ds.take k ++ ds.drop (k + 1)))) := by
      show _ ∧ _
      rw [erase_rows, rowsN_erase]
      unfold missErr missVal
      by_cases h2 : ds.length < 2
      · have h1 : ds.length = 1 := by omega
        rw [if_pos (by rw [rowsN_length]; exact .inr (.inr h2)), if_pos (by rw [rowsN_length]; exact .inr (.inr h2))]
        have : (rowsN ds).eraseIdx k = [] := by
          apply List.eq_nil_of_length_eq_zero
          rw [List.length_eraseIdx, rowsN_length, if_pos hk]
          omega
        rw [this]
        exact ⟨rfl, rfl⟩
      · have hn : ¬ ((k : Int) < 0 ∨ ((rowsN ds).length : Int) ≤ (k : Int) ∨ (rowsN ds).length < 2) := by rw [rowsN_length]; omega
        rw [if_neg hn, if_neg hn]
        exact ⟨rfl, rfl⟩
    rw [E.out.1, E.out.2]
    have R1 := Lib.hid (h.top k (by omega))
    have R2 := Lib.hid (h.cut (k + 1) (ds.length - (k + 1)) (by omega) hc)
    rw [show (ds.drop (k + 1)).take (ds.length - (k + 1)) = ds.drop (k + 1) from List.take_of_length_le (by simp)] at R2
    have hfd := table_field0
    have hk0 : (0 : Int) ≤ k := Int.natCast_nonneg _
    have hk1 : (k : Int) < ds.length := by omega
    have hk2 : (k : Int) ≤ c := by omega
    have hk3 : (k : Int) + 1 ≤ ds.length := by omega
    have hk4 : (ds.length : Int) ≤ c := by omega
    have hk5 : (k : Int) + 1 ≤ c := by omega
    have hk6 : (0 : Int) ≤ (k : Int) + 1 := by omega
    have hw1 : IntKind.i64.wrap ((k : Int) + 1) = (k : Int) + 1 := by rw [IntKind.wrap_i64]; omega
    have hw2 : wrap64 ((k : Int) + 1) = (k : Int) + 1 := by unfold wrap64; omega
    have hn1 : k + 1 ≤ ds.length := by omega
    have hn2 : k + 1 ≤ c := by omega
    have hn3 : k ≤ c := by omega
    have hadd : (fun x : Addr => x.add (k + 1)) = fun x => { block := x.block, off := x.off + (k + 1) } := by funext x; simp [Addr.add]
    clear E h hbad ha
    by_cases hck : c = k + 1
    · subst hck
      rw [if_pos rfl, Nat.sub_self, show ds.length - (k + 1) = 0 by omega] at R2
      have HK := Lib.hid (askTwo _ _ _ _ w R1.out R2.out (by simp; omega) (fun d hd => hsm d (List.mem_of_mem_take hd)) (fun d hd => hsm d (List.mem_of_mem_drop hd)))
      clear R1 R2
      go_enter Try.func25, Try.ntmps25
      go_wp2_with fail
      go_region_with (first
        | (go_at_call 42; refine (queries_any _).mono ?_; rintro e w1 ⟨rfl, C1⟩; unfold tableV)
        | (go_at_call 41; refine (HK.out _ _ 22 (by first | exact (((Chg.refl [] w).drew.trans C1.out).alloc _) | exact (((Chg.refl [] w).drew.alloc _).trans C1.out) | exact (((Chg.refl [] w).alloc _).drew.trans C1.out)) (by first | exact Blk.made w1 [_, _] _ | exact (Blk.made _ [_, _] _).chg C1.out (by simp) | exact ((Blk.made _ [_, _] _).drew).chg C1.out (by simp))).mono ?_; rintro e w2 ⟨u, rfl, O, C2⟩))
      all_goals (go_wp2_with fail; go_ret2)
      all_goals (first
        | (have CC := Lib.hid ((((Chg.refl [] w).drew.trans C1.out).alloc _).trans C2.out); exact ⟨_, rfl, ownsRow_base O.out (by have := C1.out.size; simp at this ⊢; omega), CC⟩)
        | (have CC := Lib.hid ((((Chg.refl [] w).alloc _).drew.trans C1.out).trans C2.out); exact ⟨_, rfl, ownsRow_base O.out (by have := C1.out.size; simp at this ⊢; omega), CC⟩))
    · rw [if_neg hck, hadd] at R2
      clear hadd
      have HK := Lib.hid (askTwo _ _ _ _ w R1.out R2.out (by simp; omega) (fun d hd => hsm d (List.mem_of_mem_take hd)) (fun d hd => hsm d (List.mem_of_mem_drop hd)))
      clear R1 R2
      go_enter Try.func25, Try.ntmps25
      go_wp2_with fail
      go_region_with (first
        | (go_at_call 42; refine (queries_any _).mono ?_; rintro e w1 ⟨rfl, C1⟩; unfold tableV)
        | (go_at_call 41; refine (HK.out _ _ 22 (by first | exact (((Chg.refl [] w).drew.trans C1.out).alloc _) | exact (((Chg.refl [] w).drew.alloc _).trans C1.out) | exact (((Chg.refl [] w).alloc _).drew.trans C1.out)) (by first | exact Blk.made w1 [_, _] _ | exact (Blk.made _ [_, _] _).chg C1.out (by simp) | exact ((Blk.made _ [_, _] _).drew).chg C1.out (by simp))).mono ?_; rintro e w2 ⟨u, rfl, O, C2⟩))
      all_goals (go_wp2_with fail; go_ret2)
      all_goals (first
        | (have CC := Lib.hid ((((Chg.refl [] w).drew.trans C1.out).alloc _).trans C2.out); exact ⟨_, rfl, ownsRow_base O.out (by have := C1.out.size; simp at this ⊢; omega), CC⟩)
        | (have CC := Lib.hid ((((Chg.refl [] w).alloc _).drew.trans C1.out).trans C2.out); exact ⟨_, rfl, ownsRow_base O.out (by have := C1.out.size; simp at this ⊢; omega), CC⟩))

end Go.Proofs.Ytaciamnfkidmfaa
