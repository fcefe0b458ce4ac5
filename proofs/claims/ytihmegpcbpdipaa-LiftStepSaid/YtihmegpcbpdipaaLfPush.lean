/-
  Put on a heap and taken off. By an AI agent.
-/
import Derived.Test.YtihmegpcbpdipaaLfQueue
import Derived.Test.YtihmegpcbpdipaaRefLift3
namespace Go.Proofs.Ytihmegpcbpdipaa
open Go.Maps Go.RowKit

theorem info_place : (Try.prog.info? 78).map (fun i => (i.zero, i.size, i.bytes)) = some (some (.agg #[.int .i64 0, .int .i64 0]), 2, 16) := by kernel_rfl

theorem two_new (w : World) (x y : Value) (t : TypeId) : ∀ j u, [x, y][j]? = some u → (w.alloc (.cells #[x, y] t)).cell? ((⟨w.heap.size, 0, none⟩ : Addr).add j) = some u := by
  intro j u hj
  have := (Blk.made w [x, y] t).cell hj
  rw [Addr.add_lit]
  simpa using this

/-- A block has another list: the old one grown, or a new one. -/
theorem Side.regrow {w0 w wn : World} {ts : List Thing} {P k s : Nat} {T E : TypeId} {cs : List Value} {v vn : Value} {xs ys : List (List Value)} (h : Side w0 w (blkT P T cs :: wideT s E v xs :: ts)) (c : Chg v.ownBlock.toList w wn) (ol : OwnW s wn 0 E vn ys)
    (hb : ∀ b, vn.ownBlock = some b → v.ownBlock = some b ∨ w.heap.size ≤ b) : Side w0 (wn.setCell ⟨P, k, none⟩ vn) (blkT P T (cs.set k vn) :: wideT s E vn ys :: ts) := by
  have hP : Blk w P T cs := h.get 0 rfl
  have hoff : v.ownBlock ≠ some P := fun e => (List.pairwise_cons.1 h.apart).1 _ List.mem_cons_self P (by simp [blkT]) (by show P ∈ v.ownBlock.toList; simp [e])
  have hn : vn.ownBlock ≠ some P := fun e => by
    rcases hb P e with q | q
    · exact hoff q
    · have := hP.lt; omega
  have hP2 : Blk wn P T cs := hP.chg c (fun hm => hoff (by simpa using hm))
  have c2 : Chg [P] wn (wn.setCell ⟨P, k, none⟩ vn) := (Chg.refl [P] wn).setCell (p := ⟨P, k, none⟩) (.inl (by simp)) vn
  refine Side.swap (olds := [blkT P T cs, wideT s E v xs]) (bs := [blkT P T (cs.set k vn), wideT s E vn ys]) (s := P :: v.ownBlock.toList) h ((c.mono (fun k hk => List.mem_cons_of_mem _ hk)).trans (c2.mono (fun k hk => by rw [List.mem_singleton.1 hk]; exact List.mem_cons_self))) (fun b hk => ?_) (fun b hbm => ?_) (fun b hbm j hk => ?_) (List.pairwise_cons.2 ⟨fun b hbm j hk hm => ?_, List.pairwise_singleton _ _⟩)
  · rcases List.mem_cons.1 hk with rfl | hk
    · exact .inl ⟨blkT b T cs, List.mem_cons_self, by simp [blkT]⟩
    · exact .inl ⟨wideT s E v xs, by simp, hk⟩
  · rcases List.mem_cons.1 hbm with rfl | hbm
    · exact hP2.set k vn
    · rw [List.mem_singleton.1 hbm]
      exact ol.chg c2 (fun k hk hm => hn (by rw [hk]; congr 1; simpa using hm))
  · rcases List.mem_cons.1 hbm with rfl | hbm
    · exact .inl ⟨blkT P T cs, List.mem_cons_self, hk⟩
    · rw [List.mem_singleton.1 hbm] at hk
      rcases hb j (by simpa [wideT] using hk) with q | q
      · exact .inl ⟨wideT s E v xs, by simp, by show j ∈ v.ownBlock.toList; simp [q]⟩
      · exact .inr q
  · rw [List.mem_singleton.1 hbm] at hm
    have e : j = P := by simpa [blkT] using hk
    subst e
    exact hn (by simpa [wideT] using hm)

theorem OwnW.take {s : Nat} {w : World} {e : TypeId} {ao : Option Addr} {m n c : Nat} {xs : List (List Value)} (h : OwnW s w 0 e (.slice ao m c) xs) (hn : n ≤ m) (hm : m = xs.length) : OwnW s w 0 e (.slice ao n c) (xs.take n) := by
  obtain ⟨hs, h1, h2⟩ := h
  have hl : (xs.take n).length = n := by rw [List.length_take]; omega
  have hs2 : Slots s (xs.take n) := fun x hx => hs x (List.mem_of_mem_take hx)
  have hfl := flat_len hs2
  rw [hl] at hfl
  refine ⟨hs2, by rw [hl]; exact hfl, ?_⟩
  rcases h2 with ⟨h2, h0⟩ | ⟨g, cap, cur, hv, hb, hg, q1, q2, q3, q4⟩
  · left
    obtain ⟨rfl, rfl, rfl⟩ : ao = none ∧ m = 0 ∧ c = 0 := by simpa using h2
    obtain rfl : n = 0 := by omega
    exact ⟨rfl, by simp⟩
  · right
    obtain ⟨rfl, rfl, rfl⟩ : ao = some ⟨g, 0, none⟩ ∧ m = xs.length ∧ c = cap := by simpa using hv
    refine ⟨g, c, cur, by rw [hl], hb, hg, by rw [hl]; omega, q2, q3, ?_⟩
    have e1 : xs.flatten = (xs.take n).flatten ++ (xs.drop n).flatten := by rw [← List.flatten_append, List.take_append_drop]
    have e2 : (cur.toList.take (xs.length * s)).take (n * s) = cur.toList.take (n * s) := by
      rw [List.take_take, Nat.min_eq_left (Nat.mul_le_mul_right _ (by omega))]
    rw [hl, ← e2, q4, e1, List.take_append_of_le_length (by rw [hfl]; exact Nat.le_refl _), List.take_of_length_le (by rw [hfl]; exact Nat.le_refl _)]

theorem assert_place (x y : Value) (w : World) : (Instr.typeAssert (.iface 78 (.agg #[x, y])) 20 78 false).run Try.prog w = .ok (.agg #[x, y]) w := by kernel_rfl

theorem pl_app (A : List Pl) (p : Pl) : (A ++ [p]).map plSlot = A.map plSlot ++ [plSlot p] := by simp

set_option maxHeartbeats 4000000 in
set_option maxRecDepth 100000 in
theorem qpush_any (w0 w : World) (ts : List Thing) (P k : Nat) (v : Value) (cs : List Value) (A : List Pl) (p : Pl) (H : Side w0 w (lbT P cs :: plT v A :: ts)) (hk : cs[k]? = some v) (hL : A.length ≤ 200000) :
    Calls Try.prog 79 #[.pointer (some ⟨P, k, none⟩), .iface 78 (plVal p)] w fun e w' => e = .returned (.tuple #[]) ∧ ∃ ao c, Hid (Side w0 w' (lbT P (cs.set k (.slice ao (A.length + 1) c)) :: plT (.slice ao (A.length + 1) c) (A ++ [p]) :: ts)) := by
  obtain ⟨lo, lc, rfl⟩ := plT_slice (H.get 1 rfl : (plT v A).P w)
  obtain ⟨i0, hi, hz0, hz1, hz2⟩ := info_parts info_place
  replace hi := Lib.hid hi
  replace hz0 := Lib.hid hz0
  replace hz1 := Lib.hid hz1
  replace hz2 := Lib.hid hz2
  have PP : Hid (Blk w P 76 cs) := H.get 0 rfl
  have OW : OwnW 2 w 0 78 (.slice lo A.length lc) (A.map plSlot) := H.get 1 rfl
  have OR : Hid (w.ownsRow 0 78 2 (.slice lo A.length lc) A.length (A.map plSlot).flatten) := by have := OW.2; rw [List.length_map] at this; exact this
  have p0 : w.cell? ⟨P, k, none⟩ = some (.slice lo A.length lc) := PP.out.cell hk
  have pA : (w.alloc (.cells #[.int .i64 (p.1 : Int), .int .i64 (p.2 : Int)] 78)).cell? ⟨P, k, none⟩ = some (.slice lo A.length lc) := (PP.out.alloc _).cell hk
  have B1 : Hid (A.length + 1 ≤ maxLen) := by show _ ≤ _; unfold maxLen; omega
  have B2 : Hid ((A.length + 1) * 16 ≤ 140737488355328) := by show _ ≤ _; omega
  have OFFP : Hid ((Value.slice lo A.length lc).ownBlock ≠ some P) := fun e => (List.pairwise_cons.1 H.apart).1 (plT (.slice lo A.length lc) A) List.mem_cons_self P (by simp [lbT, blkT]) (by show P ∈ (Value.slice lo A.length lc).ownBlock.toList; simp [e])
  have HK := Lib.hid hk
  replace H := Lib.hid H
  have HLen : Hid (((A ++ [p]).map plSlot).length = A.length + 1) := by show _ = _; simp
  have HFl : Hid (((A ++ [p]).map plSlot).flatten = (A.map plSlot).flatten ++ [.int .i64 (p.1 : Int), .int .i64 (p.2 : Int)]) := by show _ = _; rw [pl_app, List.flatten_append]; rfl
  have TA := fun w => assert_place (.int .i64 (p.1 : Int)) (.int .i64 (p.2 : Int)) w
  clear hk hL OW
  unfold plVal
  go_enter Try.func79, Try.ntmps79
  go_wp2_with fail
  go_region_law (first | (refine step_append_three _ (by rfl) _ _ _ (by rfl) 0 78 i0 (.agg #[.int .i64 0, .int .i64 0]) 2 16 Try.underlying74 hi.out hz0.out hz1.out hz2.out rfl (by decide) _ A.length _ (by rfl) (OR.out.alloc _) ⟨w.heap.size, 0, none⟩ 1 1 [.int .i64 (p.1 : Int), .int .i64 (p.2 : Int)] (by rfl) (by rfl) (two_new _ _ _ _) (by simp [Value.oneCell']) B1.out B2.out (Nat.zero_le _) ?_; intro vo vc wn ol2 gr2 nb2; have CG : Hid (Chg (Value.slice lo A.length lc).ownBlock.toList w wn) := (by first | exact ((((Chg.refl [] w).drewN _).alloc _).mono (by simp)).grown gr2.out (fun k hk => .inl (by rw [hk]; simp)) | exact (((Chg.refl [] w).drew.alloc _).mono (by simp)).grown gr2.out (fun k hk => .inl (by rw [hk]; simp)) | exact (((Chg.refl [] w).alloc _).mono (by simp)).grown gr2.out (fun k hk => .inl (by rw [hk]; simp))); have PN : Hid (Blk wn P 76 cs) := PP.out.chg CG.out (fun hm => OFFP.out (by simpa using hm)); have z0 := PN.out.cell HK.out; have zf := PN.out.free k))
  all_goals have NB := Lib.hid (nb_of nb2.out (H0 := w.heap.size) (by simp))
  all_goals have SF := Lib.hid (Side.regrow (k := k) (ys := (A ++ [p]).map plSlot) H.out CG.out ⟨pl_slots _, by rw [HLen.out, HFl.out]; exact ol2.out⟩ NB.out)
  all_goals clear CG PN z0 zf ol2 gr2 nb2 NB
  all_goals go_wp2_with fail
  all_goals go_end0
  all_goals exact ⟨rfl, _, _, SF⟩


set_option maxHeartbeats 4000000 in
set_option maxRecDepth 100000 in
theorem qpop_any (w0 w : World) (ts : List Thing) (P k n c : Nat) (ao : Option Addr) (cs : List Value) (A : List Pl) (H : Side w0 w (lbT P cs :: plT (.slice ao (n + 1) c) A :: ts)) (hn : A.length = n + 1) (hk : cs[k]? = some (.slice ao (n + 1) c)) (hL : A.length ≤ 200000) :
    Calls Try.prog 78 #[.pointer (some ⟨P, k, none⟩)] w fun e w' => e = .returned (.iface 78 (plVal (Hq.nth A n))) ∧ Hid (Side w0 w' (lbT P (cs.set k (.slice ao n c)) :: plT (.slice ao n c) (A.take n) :: ts)) := by
  have PP : Hid (Blk w P 76 cs) := H.get 0 rfl
  have OW : Hid (OwnW 2 w 0 78 (.slice ao (n + 1) c) (A.map plSlot)) := H.get 1 rfl
  obtain ⟨g, rfl, i0, i1⟩ := pl_cells OW.out.rd (i := n) (by omega)
  have p0 : w.cell? ⟨P, k, none⟩ = some (.slice (some ⟨g, 0, none⟩) (n + 1) c) := PP.out.cell hk
  have hgP : Hid (P ≠ g) := fun e => (List.pairwise_cons.1 H.apart).1 (plT (.slice (some ⟨g, 0, none⟩) (n + 1) c) A) List.mem_cons_self P (by simp [lbT, blkT]) (by show P ∈ (Value.slice (some ⟨g, 0, none⟩) (n + 1) c).ownBlock.toList; simp [e, Value.ownBlock])
  have hc : n + 1 ≤ c := by have := OW.out.cap; exact this
  obtain ⟨m, hm⟩ : ∃ m, m = n + 1 := ⟨_, rfl⟩
  have e1 : (m : Int) - 1 = (n : Int) := by omega
  have a0 : (0 : Int) ≤ (n : Int) := Int.natCast_nonneg _
  have a1 : (n : Int) < (m : Int) := by omega
  have a2 : (n : Int) ≤ (c : Int) := by omega
  have b1 : -1000000000 ≤ (n : Int) := by omega
  have b2 : (n : Int) ≤ 1000000000 := by omega
  rw [← hm] at p0
  have PN : Hid (∀ x, Blk (w.alloc (.cells #[.int .i64 ((Hq.nth A n).1 : Int), .int .i64 ((Hq.nth A n).2 : Int)] x)) P 76 cs) := fun x => PP.out.alloc _
  have SF : Hid (∀ w', Chg [] w w' → Side w0 (w'.setCell ⟨P, k, none⟩ (.slice (some ⟨g, 0, none⟩) n c)) (lbT P (cs.set k (.slice (some ⟨g, 0, none⟩) n c)) :: plT (.slice (some ⟨g, 0, none⟩) n c) (A.take n) :: ts)) := fun w' ch => by
    refine Side.regrow (k := k) (ys := (A.take n).map plSlot) H (ch.mono (by simp)) ?_ (fun b hb => .inl hb)
    rw [List.map_take]
    exact (OwnW.take OW.out (by omega) (by rw [List.length_map]; exact hn.symm)).chg ch (by simp)
  have HB := Lib.hid (Blk.made w [.int .i64 ((Hq.nth A n).1 : Int), .int .i64 ((Hq.nth A n).2 : Int)] 78)
  have C1 : Hid (Chg [] w (w.alloc (.cells #[.int .i64 ((Hq.nth A n).1 : Int), .int .i64 ((Hq.nth A n).2 : Int)] 78))) := (Chg.refl _ _).alloc _
  have HK := Lib.hid hk
  have q0 : (w.alloc (.cells #[.int .i64 ((Hq.nth A n).1 : Int), .int .i64 ((Hq.nth A n).2 : Int)] 78)).cell? ⟨P, k, none⟩ = some (.slice (some ⟨g, 0, none⟩) m c) := by rw [hm]; exact (PN.out _).cell hk
  have qf := (PN.out 78).free k
  have HPW : Hid (P < w.heap.size) := PP.out.lt
  replace hm := Lib.hid hm
  clear H hn hk hL OW PP hc PN
  generalize Hq.nth A n = p at *
  unfold plVal
  obtain ⟨x1, x2⟩ := wrap_in b1 b2
  clear b1 b2
  go_enter Try.func78, Try.ntmps78
  have n0 : ((w.alloc (.cells #[.int .i64 (p.1 : Int), .int .i64 (p.2 : Int)] 78)).setCell ⟨P, k, none⟩ (.slice (some ⟨g, 0, none⟩) n c)).cell? ⟨w.heap.size, 0, none⟩ = some (.int .i64 (p.1 : Int)) := ((HB.out.chg ((Chg.refl [P] _).setCell (p := ⟨P, k, none⟩) (.inl (by simp)) _) (by have := HPW.out; simp; omega)).cell (j := 0) rfl)
  have n1 : ((w.alloc (.cells #[.int .i64 (p.1 : Int), .int .i64 (p.2 : Int)] 78)).setCell ⟨P, k, none⟩ (.slice (some ⟨g, 0, none⟩) n c)).cell? ⟨w.heap.size, 1, none⟩ = some (.int .i64 (p.2 : Int)) := ((HB.out.chg ((Chg.refl [P] _).setCell (p := ⟨P, k, none⟩) (.inl (by simp)) _) (by have := HPW.out; simp; omega)).cell (j := 1) rfl)
  have HF := Lib.hid (SF.out _ C1.out)
  go_wp2_with fail
  go_ret
  exact ⟨rfl, HF⟩

theorem cells_get {w0 w : World} {ts : List Thing} {P k : Nat} {cs : List Value} {v u : Value} {A : List Pl} (hk : cs[k]? = some u) (H : Side w0 w (lbT P cs :: plT v A :: ts)) : w.cell? ⟨P, k, none⟩ = some u := (H.get 0 rfl : Blk _ _ _ _).cell hk

set_option maxHeartbeats 4000000 in
set_option maxRecDepth 100000 in
theorem hpush_any (w0 w : World) (ts : List Thing) (P k : Nat) (v : Value) (cs : List Value) (A : List Pl) (p : Pl) (H : Side w0 w (lbT P cs :: plT v A :: ts)) (hk : cs[k]? = some v) (hL : A.length ≤ 100000) (hA : Hq.Hp A A.length) :
    Calls Try.prog 52 #[heapI P k, .iface 78 (plVal p)] w fun e w' => e = .returned (.tuple #[]) ∧ ∃ v' B, Hid (B.Perm (A ++ [p])) ∧ Hid (Hq.Hp B B.length) ∧ Hid (Side w0 w' (lbT P (cs.set k v') :: plT v' B :: ts)) := by
  have QP := Lib.hid (qpush_any w0 w ts P k v cs A p H hk (by omega))
  have MP := fun n w => method_push n (some ⟨P, k, none⟩) w
  obtain ⟨m, hm⟩ : ∃ m, m = A.length + 1 := ⟨_, rfl⟩
  have HLn : Hid ((A ++ [p]).length = m) := by show _ = _; rw [List.length_append, hm]; rfl
  have UP : Hid (Hq.Up (A ++ [p]) (A ++ [p]).length A.length) := by show Hq.Up _ _ _; rw [List.length_append]; exact hA.push p
  have e1 : (m : Int) - 1 = (A.length : Int) := by omega
  have b1 : -1000000000 ≤ (A.length : Int) := by omega
  have b2 : (A.length : Int) ≤ 1000000000 := by omega
  have HL2 : Hid ((A ++ [p]).length ≤ 200000) := by show _ ≤ _; rw [HLn.out, hm]; omega
  have HLt : Hid (A.length < (A ++ [p]).length) := by show _ < _; rw [HLn.out, hm]; omega
  have HKS : Hid (∀ u : Value, (cs.set k u)[k]? = some u) := fun u => by rw [List.getElem?_set_self (List.getElem?_eq_some_iff.1 hk).1]
  rw [← hm] at QP
  clear H hk hL hA hm
  generalize (A.length : Nat) = l at *
  generalize A ++ [p] = A2 at *
  unfold heapI
  unfold plVal at *
  obtain ⟨x1, x2⟩ := wrap_in b1 b2
  clear b1 b2
  go_enter Try.func52, Try.ntmps52
  go_wp2_with (first
    | (go_at_call 79; refine QP.out.mono ?_; rintro e w1 ⟨rfl, ao, c, H1⟩; have MN := fun n => method_len n ⟨P, k, none⟩ ao m c w1 (cells_get (HKS.out _) H1.out))
    | (go_at_call 28; refine (qlen_any w1 ao m c).mono ?_; rintro e w2 ⟨rfl, rfl⟩)
    | (go_at_call 57; refine (up_any w0 _ ts P k c ao (cs.set k (.slice ao m c)) A2 (by rw [HLn.out]; exact H1.out) (by rw [HLn.out]; exact HKS.out _) l HLt.out HL2.out UP.out).mono ?_; rintro e w3 ⟨rfl, B, HP, HH, H3⟩))
  go_end0
  rw [HLn.out] at H3
  exact ⟨rfl, _, B, HP, HH, H3⟩

set_option maxHeartbeats 4000000 in
set_option maxRecDepth 100000 in
theorem hpop_any (w0 w : World) (ts : List Thing) (P k : Nat) (v : Value) (cs : List Value) (A : List Pl) (H : Side w0 w (lbT P cs :: plT v A :: ts)) (hk : cs[k]? = some v) (h0 : A ≠ []) (hL : A.length ≤ 100000) (hA : Hq.Hp A A.length) :
    Calls Try.prog 50 #[heapI P k] w fun e w' => e = .returned (.iface 78 (plVal (Hq.nth A 0))) ∧ ∃ v' R, Hid (Hq.Left A R) ∧ Hid (Side w0 w' (lbT P (cs.set k v') :: plT v' R :: ts)) := by
  obtain ⟨ao, c, rfl⟩ := plT_slice (H.get 1 rfl : (plT v A).P w)
  obtain ⟨n, hn⟩ : ∃ n, A.length = n + 1 := ⟨A.length - 1, by have : 0 < A.length := List.length_pos_iff.2 h0; omega⟩
  have b1 : -1000000000 ≤ (n : Int) := by omega
  have b2 : (n : Int) ≤ 1000000000 := by omega
  have e1 : (A.length : Int) - 1 = (n : Int) := by omega
  have ML := fun k' => method_len k' ⟨P, k, none⟩ ao A.length c w (cells_get hk H)
  have MS := fun k' => method_swap k' ⟨P, k, none⟩ ao A.length c w (cells_get hk H)
  have MP := fun n w => method_pop n (some ⟨P, k, none⟩) w
  have HN := Lib.hid hn
  have HK := Lib.hid hk
  have HL2 : Hid (A.length ≤ 200000) := by show _ ≤ _; omega
  have D0 : Hid (Hq.Dn (Hq.swap A 0 n) n 0) := hA.pop hn
  have HSw : Hid ((Hq.swap A 0 n).length = A.length) := Hq.swap_len _ _ _
  have HPm : Hid ((Hq.swap A 0 n).Perm A) := Hq.swap_perm (by omega) (by omega)
  have HLast : Hid (Hq.nth (Hq.swap A 0 n) n = Hq.nth A 0) := by show _ = _; rw [Hq.nth_swap (by omega) (by omega), if_pos rfl]
  have SW := Lib.hid (pswap rfl H 0 n (by omega) (by omega))
  clear H hk h0 hL hA hn
  unfold heapI
  obtain ⟨x1, x2⟩ := wrap_in b1 b2
  clear b1 b2
  go_enter Try.func50, Try.ntmps50
  go_wp2_with (first
    | (go_at_call 28; refine (qlen_any _ ao _ c).mono ?_; rintro e w1 ⟨rfl, rfl⟩)
    | (go_at_call 76; refine SW.out.mono ?_; rintro e w2 ⟨rfl, H2⟩)
    | (go_at_call 54; refine (down_any w0 _ ts P k c n ao cs (Hq.swap A 0 n) (by rw [HSw.out]; exact H2.out) (by rw [HSw.out]; exact HK.out) (by rw [HSw.out]; exact HN.out) (by rw [HSw.out]; exact HL2.out) D0.out).mono ?_; rintro e w3 ⟨b, rfl, B, HP, HH, HLB, H3⟩)
    | (go_at_call 78; refine (qpop_any w0 _ ts P k n c ao cs B (by rw [← HN.out, ← HSw.out]; exact H3.out) (by rw [HP.out.length_eq, HSw.out, HN.out]) (by rw [← HN.out]; exact HK.out) (by rw [HP.out.length_eq, HSw.out]; exact HL2.out)).mono ?_; rintro e w4 ⟨rfl, H4⟩))
  go_ret
  refine ⟨?_, _, B.take n, ?_, H4⟩
  · rw [HLB.out, HLast.out]
    rfl
  · exact Hq.left_of HN.out (HP.out.trans HPm.out) HH.out (HLB.out.trans HLast.out)

set_option maxHeartbeats 4000000 in
set_option maxRecDepth 100000 in
theorem add_any (w0 w : World) (ts : List Thing) (P k : Nat) (v : Value) (cs : List Value) (A : List Pl) (p : Pl) (H : Side w0 w (lbT P cs :: plT v A :: ts)) (hk : cs[k]? = some v) (hL : A.length ≤ 100000) (hA : Hq.Hp A A.length) :
    Calls Try.prog 35 #[.pointer (some ⟨P, k, none⟩), plVal p] w fun e w' => e = .returned (.tuple #[]) ∧ ∃ v' B, Hid (B.Perm (A ++ [p])) ∧ Hid (Hq.Hp B B.length) ∧ Hid (Side w0 w' (lbT P (cs.set k v') :: plT v' B :: ts)) := by
  have QP := Lib.hid (fun w' h => hpush_any w0 w' ts P k v cs A p h hk hL hA)
  have C1 : Hid (Chg [] w (w.alloc (.cells #[.int .i64 (p.1 : Int), .int .i64 (p.2 : Int)] 78))) := (Chg.refl _ _).alloc _
  replace H := Lib.hid H
  clear hk hL hA
  unfold heapI at QP
  unfold plVal at *
  go_enter Try.func35, Try.ntmps35
  go_wp2_with (first
    | (go_at_call 52; refine (QP.out _ (H.out.quiet C1.out)).mono ?_; rintro e w1 ⟨rfl, v', B, HP, HH, H1⟩))
  go_end0
  exact ⟨rfl, v', B, HP, HH, H1⟩

theorem size_place : (Try.prog.info? 78).map (·.size) = some 2 := by kernel_rfl

set_option maxHeartbeats 4000000 in
set_option maxRecDepth 100000 in
theorem take_any (w0 w : World) (ts : List Thing) (P k : Nat) (v : Value) (cs : List Value) (A : List Pl) (H : Side w0 w (lbT P cs :: plT v A :: ts)) (hk : cs[k]? = some v) (h0 : A ≠ []) (hL : A.length ≤ 100000) (hA : Hq.Hp A A.length) :
    Calls Try.prog 29 #[.pointer (some ⟨P, k, none⟩)] w fun e w' => e = .returned (plVal (Hq.nth A 0)) ∧ ∃ v' R, Hid (Hq.Left A R) ∧ Hid (Side w0 w' (lbT P (cs.set k v') :: plT v' R :: ts)) := by
  have QP := Lib.hid (fun w' h => hpop_any w0 w' (blkT w.heap.size 78 [.int .i64 0, .int .i64 0] :: ts) P k v cs A h hk h0 hL hA)
  have C1 : Hid (Chg [] w (w.alloc (.cells #[.int .i64 0, .int .i64 0] 78))) := (Chg.refl _ _).alloc _
  have HB := Lib.hid (Blk.made w [.int .i64 0, .int .i64 0] 78)
  replace H := Lib.hid (((H.add (b := blkT w.heap.size 78 [.int .i64 0, .int .i64 0]) C1.out HB.out (fun k hk => by rw [List.mem_singleton.1 hk]; exact Nat.le_refl _)).front 2).front 2)
  have TA := fun w => assert_place (.int .i64 ((Hq.nth A 0).1 : Int)) (.int .i64 ((Hq.nth A 0).2 : Int)) w
  clear hk h0 hL hA C1 HB
  generalize Hq.nth A 0 = p at *
  obtain ⟨X, hX⟩ : ∃ X, X = w.heap.size := ⟨_, rfl⟩
  rw [← hX] at QP H
  replace hX := Lib.hid hX
  unfold heapI at QP
  unfold plVal at *
  go_enter Try.func29, Try.ntmps29
  go_upto_region 1 with fail
  rw [← hX.out]
  go_wp2_with (first
    | (go_at_call 50; refine (QP.out _ H.out).mono ?_; rintro e w1 ⟨rfl, v', R, HL, H1⟩; have X0 : Blk w1 X 78 [.int .i64 0, .int .i64 0] := H1.out.get 2 rfl; have s0 := X0.cell (j := 0) rfl; have s1 := X0.cell (j := 1) rfl; have f0 := X0.free 0; have f1 := X0.free 1; have X2 : Hid (Blk ((w1.setCell ⟨X, 0, none⟩ (.int .i64 (p.1 : Int))).setCell ⟨X, 1, none⟩ (.int .i64 (p.2 : Int))) X 78 [.int .i64 (p.1 : Int), .int .i64 (p.2 : Int)]) := (X0.set 0 _).set 1 _; have H2 := Lib.hid (H1.out.turnAt 2 rfl (b := blkT X 78 [.int .i64 (p.1 : Int), .int .i64 (p.2 : Int)]) (s := [X]) (((Chg.refl [X] w1).setCell (p := ⟨X, 0, none⟩) (.inl (by simp)) _).setCell (p := ⟨X, 1, none⟩) (.inl (by simp)) _) (fun k hk => .inl hk) X2.out (fun k hk => .inl hk))))
  refine bodyPost_ret (results_cell_row rfl _ _ X _ _ _ _ rfl X2.out Try.underlying78 rfl size_place) rfl ?_
  refine ⟨rfl, v', R, HL, ?_⟩
  exact H2.out.sub (List.Sublist.cons_cons _ (List.Sublist.cons_cons _ (List.sublist_cons_self _ _)))

end Go.Proofs.Ytihmegpcbpdipaa
