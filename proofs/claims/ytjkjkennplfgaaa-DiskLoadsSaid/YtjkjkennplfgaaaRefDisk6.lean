/-
  The document's disk: Flush, Crash, Load. By an AI agent.
-/
import Derived.Test.YtjkjkennplfgaaaRefDisk5
namespace Go.Proofs.Ytjkjkennplfgaaa
open Go.RowKit

theorem foldl_take {α β : Type} (f : β → α → β) (b : β) {l : List α} {i : Nat} {x : α} (h : l[i]? = some x) : (l.take (i + 1)).foldl f b = f ((l.take i).foldl f b) x := by
  rw [take_snoc h, List.foldl_append]
  rfl

/-- The cache is emptied. -/
theorem RdIn.empty {w : World} {g : Nat} {F : List Nat} {d : Dk} (h : RdIn w g F d) : RdIn (w.setCell ⟨g, 1, none⟩ (.slice none 0 0)) g F { d with cache := [] } ∧ w.frozen? ⟨g, 1, none⟩ = false ∧ (∃ x, w.cell? ⟨g, 1, none⟩ = some x) ∧ Chg F w (w.setCell ⟨g, 1, none⟩ (.slice none 0 0)) := by
  obtain ⟨lv, cv, us, r⟩ := h.rep
  have C : Chg [g] w (w.setCell ⟨g, 1, none⟩ (.slice none 0 0)) := (Chg.refl _ _).setCell (.inl (by simp)) _
  refine ⟨⟨⟨h.fit.lo, h.fit.hi, h.fit.sec, (fun x hx => by cases hx), (fun _ => rfl)⟩, fun k hk => Nat.lt_of_lt_of_le (h.lt k hk) C.size, h.mem, lv, .slice none 0 0, [], ⟨r.blk.set 1 _, owns_chg2 r.las C (fun k hk hm => (r.lof k hk).2.1 (by simpa using hm)), World.ownsRow_nil _ _ _ _, rfl, fun i u p hu => by simp at hu, fun k hk => ⟨(r.lof k hk).1, (r.lof k hk).2.1, by simp [Value.ownBlock]⟩, fun k hk => by simp [Value.ownBlock] at hk⟩⟩, r.blk.free 1, ⟨_, r.blk.cell (j := 1) rfl⟩, C.mono (fun k hk => by rw [List.mem_singleton.1 hk]; exact h.mem)⟩

set_option maxHeartbeats 2000000 in
set_option maxRecDepth 100000 in
theorem rflush_any (g : Nat) (F : List Nat) (d : Dk) (w : World) (h : (RefT g d F).P w) (hc : d.cache.length ≤ 1000000000) :
    Calls Try.prog 33 #[.pointer (some ⟨g, 0, none⟩)] w fun e w' => e = .returned (.int .i64 ((d.flushErr : Nat) : Int)) ∧ Hid (Turns w F (RefT g d.flush) w') := by
  have h' : RdIn w g F d := h
  obtain ⟨lv, cv, us, r⟩ := h'.rep
  have c2 := r.blk.cell (j := 2) rfl
  by_cases hbad : d.bad = true
  · have e1 : d.flushErr = 2 := by unfold Dk.flushErr; rw [if_pos hbad]
    have e2 : d.flush = d := by unfold Dk.flush; rw [if_pos hbad]
    have T0 : Turns w F (RefT g d) w := ⟨F, h, fun k hk => .inl hk, Chg.refl _ _⟩
    rw [hbad] at c2
    rw [e1, e2]
    replace T0 := Lib.hid T0
    clear h h' r e1 e2
    go_enter Try.func33, Try.ntmps33
    go_wp2_with fail
    go_ret
    exact ⟨rfl, T0⟩
  have hb0 : d.bad = false := by simpa using hbad
  rw [hb0] at c2
  obtain ⟨e1, e2⟩ := Dk.flush_ok hb0
  rw [e1, e2]
  have H0 : Hid (RdIn w g F { d with last := (d.cache.take 0).foldl Dk.lay d.last }) := h'
  replace hb0 := Lib.hid hb0
  replace hbad := Lib.hid hbad
  clear h h' r e1 e2
  go_enter Try.func33, Try.ntmps33
  go_wp2_with fail
  go_loopw [3] (fun i wr => ∃ (q : Nat) (F1 : List Nat), q ≤ d.cache.length ∧ i = .int .i64 q ∧ Hid (RdIn wr g F1 { d with last := (d.cache.take q).foldl Dk.lay d.last }) ∧ Hid (∀ k ∈ F1, k ∈ F ∨ w.heap.size ≤ k) ∧ Hid (Chg F w wr)) (fun i _ => d.cache.length - (intOf i).toNat)
  case atStart => exact ⟨0, F, Nat.zero_le _, rfl, H0, (fun k hk => .inl hk), Chg.refl _ _⟩
  case round =>
    obtain ⟨q, F1, hq, rfl, HR, HF, C⟩ := hrel
    clear H0
    have hq0 : (0 : Int) ≤ q := Int.natCast_nonneg _
    obtain ⟨lv1, cv1, us1, r1⟩ := HR.out.rep
    obtain ⟨co, cc, rfl⟩ := owns_slice_any r1.cac
    have c1 : wr.cell? ⟨g, 1, none⟩ = some (.slice co d.cache.length cc) := r1.blk.cell (j := 1) rfl
    by_cases hlt : q < d.cache.length
    · obtain ⟨p, cb, cc2, uo, uc, hp, hv, k1, k2, SU⟩ := r1.at hlt
      have hp2 : d.cache[q]? = some p := hp
      obtain ⟨rfl, rfl⟩ : co = some ⟨cb, 0, none⟩ ∧ cc = cc2 := by simpa using hv
      have hq1 : (q : Int) < d.cache.length := by omega
      have hpw := HR.out.fit.wr p (List.mem_of_getElem? hp)
      rw [hpw.2.1] at k2 SU
      have L := Lib.hid (rlasts_any g F1 _ p.1 uo uc p.2 wr HR.out hpw.1 hpw.2 SU)
      have FT := Lib.hid (foldl_take Dk.lay d.last hp2)
      clear hp hp2 hv r1 SU hpw
      go_wp2_with fail
      refine L.out.mono ?_
      rintro e w2 ⟨rfl, F2, R2, S2, C2⟩
      have hz := C.out.size
      have HF2 : Hid (∀ k ∈ F2, k ∈ F ∨ w.heap.size ≤ k) := fun k hk => by
        rcases S2 k hk with q | q
        · exact HF.out k q
        · exact .inr (by omega)
      have CC := Lib.hid (C.out.fresh C2 HF.out)
      have R3 : Hid (RdIn w2 g F2 { d with last := (d.cache.take (q + 1)).foldl Dk.lay d.last }) := by
        rw [FT.out]
        exact R2
      clear L FT R2 S2 C2 HR HF C k1 k2 c1
      go_wp2_with fail
      exact ⟨⟨q + 1, F2, by omega, by go_num, R3, HF2, CC⟩, by simp [intOf]; omega⟩
    · obtain rfl : q = d.cache.length := by omega
      rw [List.take_length] at HR
      obtain ⟨m1, m2, ⟨x, m3⟩, m4⟩ := HR.out.empty
      have T0 : Hid (Turns w F (RefT g { d with last := d.cache.foldl Dk.lay d.last, cache := [] }) (wr.setCell ⟨g, 1, none⟩ (.slice none 0 0))) := Turns.trans HF.out C.out ⟨F1, m1, fun k hk => .inl hk, m4⟩
      clear m1 m4 r1 m3
      go_wp2_with fail
      go_ret
      exact ⟨rfl, T0⟩

theorem kept_take {keep : List Bool} {l : List (Nat × List Nat)} {i : Nat} {p : Nat × List Nat} (h : l[i]? = some p) : Dk.kept keep 0 (l.take (i + 1)) = Dk.kept keep 0 (l.take i) ++ (if keep.getD i false = true then [p] else []) := by
  have hi : i < l.length := (List.getElem?_eq_some_iff.1 h).1
  rw [take_snoc h, Dk.kept_snoc, Nat.zero_add, List.length_take, Nat.min_eq_left (by omega)]

set_option maxHeartbeats 2000000 in
set_option maxRecDepth 100000 in
theorem rcrash_any (g : Nat) (F : List Nat) (d : Dk) (v : Value) (keep : List Bool) (w : World) (h : (RefT g d F).P w) (hc : d.cache.length ≤ 1000000000) (hv : RdV w v (keep.map Value.bool)) (hold : keep ≠ [] → ∀ k, v.ownBlock = some k → k ∉ F ∧ k < w.heap.size) :
    Calls Try.prog 35 #[.pointer (some ⟨g, 0, none⟩), v] w fun e w' => e = .returned (.tuple #[]) ∧ Hid (Turns w F (RefT g (d.crash keep)) w') := by
  have h' : RdIn w g F d := h
  have e2 : d.crash keep = { d with last := (Dk.kept keep 0 d.cache).foldl Dk.lay d.last, cache := [] } := by
    by_cases hb : d.bad = true
    · have hn := h'.fit.off hb
      unfold Dk.crash
      rw [if_pos hb, hn]
      cases d
      simp only at hn
      subst hn
      rfl
    · exact Dk.crash_ok (by simpa using hb) keep
  rw [e2]
  have H0 : Hid (RdIn w g F { d with last := (Dk.kept keep 0 (d.cache.take 0)).foldl Dk.lay d.last }) := h'
  obtain ⟨ko, kc, rfl⟩ := hv.slice
  rw [List.length_map] at hv hold ⊢
  have V := Lib.hid hv
  have HO := Lib.hid hold
  clear h h' e2 hv hold
  go_enter Try.func35, Try.ntmps35
  go_wp2_with fail
  go_loopw [4] (fun i wr => ∃ (q : Nat) (F1 : List Nat), q ≤ d.cache.length ∧ i = .int .i64 q ∧ Hid (RdIn wr g F1 { d with last := (Dk.kept keep 0 (d.cache.take q)).foldl Dk.lay d.last }) ∧ Hid (∀ k ∈ F1, k ∈ F ∨ w.heap.size ≤ k) ∧ Hid (Chg F w wr)) (fun i _ => d.cache.length - (intOf i).toNat)
  case atStart => exact ⟨0, F, Nat.zero_le _, rfl, H0, (fun k hk => .inl hk), Chg.refl _ _⟩
  case round =>
    obtain ⟨q, F1, hq, rfl, HR, HF, C⟩ := hrel
    clear H0
    have hq0 : (0 : Int) ≤ q := Int.natCast_nonneg _
    obtain ⟨lv1, cv1, us1, r1⟩ := HR.out.rep
    obtain ⟨co, cc, rfl⟩ := owns_slice_any r1.cac
    have c1 : wr.cell? ⟨g, 1, none⟩ = some (.slice co d.cache.length cc) := r1.blk.cell (j := 1) rfl
    by_cases hlt : q < d.cache.length
    · obtain ⟨p, cb, cc2, uo, uc, hp, hv, k1, k2, SU⟩ := r1.at hlt
      have hp2 : d.cache[q]? = some p := hp
      obtain ⟨rfl, rfl⟩ : co = some ⟨cb, 0, none⟩ ∧ cc = cc2 := by simpa using hv
      have hq1 : (q : Int) < d.cache.length := by omega
      have hpw := HR.out.fit.wr p (List.mem_of_getElem? hp)
      rw [hpw.2.1] at k2 SU
      have KT := kept_take (keep := keep) hp2
      by_cases hkeep : keep.getD q false = true
      · have hkl : q < keep.length := by
          rcases Nat.lt_or_ge q keep.length with h | h
          · exact h
          · rw [List.getD_eq_getElem?_getD, List.getElem?_eq_none h] at hkeep
            cases hkeep
        have hkq : (keep.map Value.bool)[q]? = some (.bool true) := by
          rw [List.getD_eq_getElem?_getD, List.getElem?_eq_getElem hkl] at hkeep
          rw [List.getElem?_map, List.getElem?_eq_getElem hkl]
          simpa using hkeep
        obtain ⟨kb, kof, rfl, ck⟩ := V.out.at hkq
        have ck1 : wr.cell? ⟨kb, kof + q, none⟩ = some (.bool true) := (C.out.cell (p := ⟨kb, kof + q, none⟩) (HO.out (fun e => by rw [e] at hkl; cases hkl) kb rfl).2 (HO.out (fun e => by rw [e] at hkl; cases hkl) kb rfl).1).trans ck
        have hk1 : (q : Int) < keep.length := by omega
        rw [if_pos hkeep] at KT
        have L := Lib.hid (rlasts_any g F1 _ p.1 uo uc p.2 wr HR.out hpw.1 hpw.2 SU)
        replace KT := Lib.hid KT
        clear hp hp2 hv r1 SU hpw ck hkeep hkq
        go_wp2_with fail
        refine L.out.mono ?_
        rintro e w2 ⟨rfl, F2, R2, S2, C2⟩
        have hz := C.out.size
        have HF2 : Hid (∀ k ∈ F2, k ∈ F ∨ w.heap.size ≤ k) := fun k hk => by
          rcases S2 k hk with q | q
          · exact HF.out k q
          · exact .inr (by omega)
        have CC := Lib.hid (C.out.fresh C2 HF.out)
        have R3 : Hid (RdIn w2 g F2 { d with last := (Dk.kept keep 0 (d.cache.take (q + 1))).foldl Dk.lay d.last }) := by
          rw [KT.out, List.foldl_append]
          exact R2
        clear L KT R2 S2 C2 HR HF C k1 k2 c1 ck1
        go_wp2_with fail
        exact ⟨⟨q + 1, F2, by omega, by go_num, R3, HF2, CC⟩, by simp [intOf]; omega⟩
      · rw [if_neg hkeep, List.append_nil] at KT
        have R3 : Hid (RdIn wr g F1 { d with last := (Dk.kept keep 0 (d.cache.take (q + 1))).foldl Dk.lay d.last }) := by
          rw [KT]
          exact HR
        clear hp hp2 hv r1 SU hpw KT HR
        by_cases hkl : q < keep.length
        · have hkq : (keep.map Value.bool)[q]? = some (.bool false) := by
            rw [List.getD_eq_getElem?_getD, List.getElem?_eq_getElem hkl] at hkeep
            rw [List.getElem?_map, List.getElem?_eq_getElem hkl]
            simpa using hkeep
          obtain ⟨kb, kof, rfl, ck⟩ := V.out.at hkq
          have ck1 : wr.cell? ⟨kb, kof + q, none⟩ = some (.bool false) := (C.out.cell (p := ⟨kb, kof + q, none⟩) (HO.out (fun e => by rw [e] at hkl; cases hkl) kb rfl).2 (HO.out (fun e => by rw [e] at hkl; cases hkl) kb rfl).1).trans ck
          have hk1 : (q : Int) < keep.length := by omega
          clear ck hkeep hkq
          go_wp2_with fail
          exact ⟨⟨q + 1, F1, by omega, by go_num, R3, HF, C⟩, by simp [intOf]; omega⟩
        · have hk1 : ¬ (q : Int) < keep.length := by omega
          clear hkeep
          go_wp2_with fail
          exact ⟨⟨q + 1, F1, by omega, by go_num, R3, HF, C⟩, by simp [intOf]; omega⟩
    · obtain rfl : q = d.cache.length := by omega
      rw [List.take_length] at HR
      obtain ⟨m1, m2, ⟨x, m3⟩, m4⟩ := HR.out.empty
      have T0 : Hid (Turns w F (RefT g { d with last := (Dk.kept keep 0 d.cache).foldl Dk.lay d.last, cache := [] }) (wr.setCell ⟨g, 1, none⟩ (.slice none 0 0))) := Turns.trans HF.out C.out ⟨F1, m1, fun k hk => .inl hk, m4⟩
      clear m1 m4 r1 m3
      go_wp2_with fail
      go_end0
      exact ⟨rfl, T0⟩

/-- A disk of the document's, or none. -/
def RLoaded (w : World) (ok : Prop) (d : Dk) (e : Ending) (w' : World) : Prop :=
  (¬ ok ∧ e = .returned (.tuple #[.pointer none, .int .i64 40]) ∧ Hid (Chg [] w w')) ∨
  (ok ∧ ∃ g F, e = .returned (.tuple #[.pointer (some ⟨g, 0, none⟩), .int .i64 0]) ∧ Hid ((RefT g d F).P w') ∧ Hid (∀ k ∈ F, w.heap.size ≤ k) ∧ Hid (Chg [] w w'))

set_option maxHeartbeats 2000000 in
set_option maxRecDepth 100000 in
theorem rload_any (v : Value) (xs : List Int) (w : World) (hv : Sl w v xs) (hby : By xs) (hb : xs.length ≤ 140737488355328) : Calls Try.prog 10 #[v] w (RLoaded w (∃ n, xs.length = 128 * n ∧ 1 ≤ n ∧ n ≤ 8192) (Dk.load (nats xs))) := by
  obtain ⟨vo, vc, rfl⟩ := hv.slice
  obtain ⟨i0, hi, hz0, hz1, hz2⟩ := info_parts info_u8
  by_cases hok : ∃ n, xs.length = 128 * n ∧ 1 ≤ n ∧ n ≤ 8192
  · obtain ⟨n, h1, h2, h3⟩ := hok
    have FL := Lib.hid (Dk.Fit.load (b := nats xs) (n := n) (by rw [nats_length]; exact h1) h2 h3 (nats_bs hby))
    have LF := Lib.hid (Dk.load_flat (b := nats xs) (n := n) (by rw [nats_length]; exact h1))
    have V := Lib.hid hv
    have E := Lib.hid (ints_nats hby)
    have ha : ((xs.length : Int) == 0) = false := beq_false_of_ne (by omega)
    have hm : Int.tmod (xs.length : Int) 128 = 0 := by
      rw [h1, show ((128 * n : Nat) : Int) = 128 * (n : Int) by omega, Int.mul_tmod_right]
    have hg : ¬ (1048576 : Int) < xs.length := by omega
    replace h1 := Lib.hid h1
    clear hv
    go_enter Try.func10, Try.ntmps10
    go_wp2_with (at_builtin; refine wpList_append_sl _ rfl _ _ 22 rfl w.heap.size 5 i0 (.int .u8 0) 1 Try.underlying22 hi hz0 hz1 hz2 rfl _ 0 [] rfl (World.ownsRow_nil _ _ _ _) vo xs.length vc xs rfl V.out (by unfold maxLen; omega) (by omega) (Nat.le_refl _) ?_; intro u w1 ol gr nb; have C1 : Hid (Chg [] w w1) := grown_none gr.out rfl; have O1 := ol.out; obtain ⟨uo, uc, rfl⟩ := owns_slice O1; rw [Nat.zero_add, List.nil_append] at O1; replace O1 := Lib.hid O1; clear ol gr nb)
    go_ret2
    have hz := C1.out.size
    have hlt : ∀ k, (Value.slice uo xs.length uc).ownBlock = some k → w.heap.size ≤ k ∧ k < w1.heap.size := fun k hk => O1.out.lt k hk
    have C2 : Chg [] w1 (w1.alloc (.cells #[.slice uo xs.length uc, .slice none 0 0, .bool false] 84)) := (Chg.refl _ _).alloc _
    refine .inr ⟨⟨n, h1.out, h2, h3⟩, w1.heap.size, w1.heap.size :: (Value.slice uo xs.length uc).ownBlock.toList, rfl, ⟨FL.out, fun k hk => ?_, List.mem_cons_self, .slice uo xs.length uc, .slice none 0 0, [], ⟨Blk.made w1 [_, _, .bool false] _, ?_, World.ownsRow_nil _ _ _ _, rfl, fun i u p hu => by simp at hu, fun k hk => ⟨List.mem_cons_of_mem _ (by simp [hk]), ?_, by simp [Value.ownBlock]⟩, fun k hk => by simp [Value.ownBlock] at hk⟩⟩, fun k hk => ?_, C1.out.trans C2⟩
    · have hs : (w1.alloc (.cells #[.slice uo xs.length uc, .slice none 0 0, .bool false] 84)).heap.size = w1.heap.size + 1 := by simp
      rcases List.mem_cons.1 hk with rfl | hk
      · show _ < _; rw [hs]; omega
      · have := (hlt k (by simpa using hk)).2
        show _ < _; rw [hs]; omega
    · rw [LF.out, nats_length, E.out]
      exact owns_chg2 (ownsRow_base O1.out (Nat.zero_le _)) C2 (fun _ _ => by simp)
    · have := (hlt k hk).2
      omega
    · rcases List.mem_cons.1 hk with rfl | hk
      · exact hz
      · exact (hlt k (by simpa using hk)).1
  · clear hv
    by_cases h0 : xs.length = 0
    · have ha : ((xs.length : Int) == 0) = true := by rw [h0]; decide
      go_enter Try.func10, Try.ntmps10
      go_wp2_with fail
      go_ret2
      exact .inl ⟨hok, rfl, Chg.refl _ _⟩
    have ha : ((xs.length : Int) == 0) = false := beq_false_of_ne (by omega)
    by_cases hm0 : xs.length % 128 = 0
    · have hm : Int.tmod (xs.length : Int) 128 = 0 := by
        obtain ⟨n, hn⟩ : ∃ n, xs.length = 128 * n := ⟨xs.length / 128, by omega⟩
        rw [hn, show ((128 * n : Nat) : Int) = 128 * (n : Int) by omega, Int.mul_tmod_right]
      have hg : (1048576 : Int) < xs.length := by
        have : ¬ (xs.length / 128 ≤ 8192) := fun h => hok ⟨xs.length / 128, by omega, by omega, h⟩
        omega
      go_enter Try.func10, Try.ntmps10
      go_wp2_with fail
      go_ret2
      exact .inl ⟨hok, rfl, Chg.refl _ _⟩
    · have hm : (Int.tmod (xs.length : Int) 128 != 0) = true := by
        have e : Int.tmod (xs.length : Int) 128 = ((xs.length % 128 : Nat) : Int) := by
          rw [show (128 : Int) = ((128 : Nat) : Int) from rfl, Int.ofNat_tmod]
        rw [e]
        exact bne_iff_ne.2 (by omega)
      go_enter Try.func10, Try.ntmps10
      go_wp2_with fail
      go_ret2
      exact .inl ⟨hok, rfl, Chg.refl _ _⟩

end Go.Proofs.Ytjkjkennplfgaaa
