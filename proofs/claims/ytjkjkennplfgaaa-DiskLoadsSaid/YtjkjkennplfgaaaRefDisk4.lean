/-
  The document's disk: Write. By an AI agent.
-/
import Derived.Test.YtjkjkennplfgaaaRefDisk3
import Derived.Test.YtjkjkennplfgaaaGLent
namespace Go.Proofs.Ytjkjkennplfgaaa
open Go.RowKit

theorem info_write : (Try.prog.info? 112).map (fun i => (i.zero, i.size, i.bytes)) = some (some (.agg #[.int .i64 0, .slice none 0 0]), 2, 32) := by kernel_rfl

theorem owns_slice_any {w : World} {base : Nat} {e : TypeId} {size n : Nat} {v : Value} {xs : List Value} (h : w.ownsRow base e size v n xs) : ∃ ao c, v = .slice ao n c := by
  rcases h.2 with ⟨rfl, h0⟩ | ⟨g, cap, cur, rfl, _⟩
  · exact ⟨none, 0, by rw [h0]⟩
  · exact ⟨_, _, rfl⟩

/-- One write more waits. -/
theorem Rep.more {w w1 wn : World} {g : Nat} {F : List Nat} {d : Dk} {lv cv cv' u : Value} {us : List Value} {k : Nat} {b : List Nat} {x : Obj} (r : Rep w g F d lv cv us) (hlt : ∀ j ∈ F, j < w.heap.size) (hg : g ∈ F)
    (hu : w1.ownsRow w.heap.size 5 1 u b.length ((ints b).map (Value.int .u8))) (c1 : Chg [] w w1)
    (ol : wn.ownsRow 0 112 2 cv' (d.cache.length + 1) (cellsOf d.cache us ++ [.int .i64 (k : Int), u])) (gr : (w1.alloc x).grownBy wn cv.ownBlock) (nb : cv'.ownBlock = cv.ownBlock ∨ (cv'.ownBlock = some (w1.heap.size + 1) ∧ (w1.alloc x).grownBy wn none)) :
    Rep (wn.setCell ⟨g, 1, none⟩ cv') g (F ++ u.ownBlock.toList ++ cv'.ownBlock.toList) { d with cache := d.cache ++ [(k, b)] } lv cv' (us ++ [u]) ∧ (∀ j ∈ F ++ u.ownBlock.toList ++ cv'.ownBlock.toList, j < wn.heap.size ∧ (j ∈ F ∨ w.heap.size ≤ j)) ∧ Chg F w (wn.setCell ⟨g, 1, none⟩ cv') ∧ Blk wn g 84 [lv, cv, .bool d.bad] := by
  have hz1 := c1.size
  have hz2 := gr.size
  have hz3 : w1.heap.size + 1 ≤ wn.heap.size := by simpa using hz2
  have cvn : ∀ j, cv'.ownBlock = some j → cv.ownBlock = some j ∨ w1.heap.size ≤ j := fun j hj => by
    rcases nb with q | ⟨q, _⟩
    · rw [q] at hj; exact .inl hj
    · rw [q] at hj; simp at hj; exact .inr (by omega)
  have un : ∀ j, u.ownBlock = some j → w.heap.size ≤ j ∧ j < w1.heap.size := fun j hj => hu.lt j hj
  have c2 : Chg cv.ownBlock.toList w1 wn := (((Chg.refl [] w1).alloc x).mono (by simp)).grown gr (fun j hj => .inl (by rw [hj]; simp))
  have c3 : Chg [g] wn (wn.setCell ⟨g, 1, none⟩ cv') := (Chg.refl _ _).setCell (.inl (by simp)) _
  have hgl := hlt g hg
  have cw : Chg F w wn := (c1.mono (by simp)).trans (c2.mono (fun j hj => (r.cof j (by simpa using hj)).1))
  have gcv : ∀ j, cv'.ownBlock = some j → j ≠ g := fun j hj => by
    rcases cvn j hj with q | q
    · exact (r.cof j q).2
    · omega
  have keep : ∀ (v : Value) (ys : List Value) (n : Nat), w.ownsRow 0 5 1 v n ys → (∀ j, v.ownBlock = some j → j ∈ F ∧ j ≠ g ∧ cv.ownBlock ≠ some j) → (wn.setCell ⟨g, 1, none⟩ cv').ownsRow 0 5 1 v n ys := fun v ys n h1 h2 =>
    owns_chg2 (owns_chg2 (owns_chg2 h1 c1 (fun j _ => by simp)) c2 (fun j hj hm => (h2 j hj).2.2 (by simpa using hm))) c3 (fun j hj hm => (h2 j hj).2.1 (by simpa using hm))
  have far : ∀ (v : Value), (∀ j, v.ownBlock = some j → j ∈ F ∧ j ≠ g ∧ cv.ownBlock ≠ some j) → ∀ j, v.ownBlock = some j → j ∈ F ++ u.ownBlock.toList ++ cv'.ownBlock.toList ∧ j ≠ g ∧ cv'.ownBlock ≠ some j := fun v h j hj => by
    obtain ⟨q1, q2, q3⟩ := h j hj
    refine ⟨List.mem_append_left _ (List.mem_append_left _ q1), q2, fun e => ?_⟩
    rcases cvn j e with q | q
    · exact q3 q
    · have := hlt j q1
      omega
  refine ⟨⟨?_, keep _ _ _ r.las r.lof, ?_, ?_, fun i v p hv hp => ?_, far lv r.lof, fun j hj => ⟨List.mem_append_right _ (by simp [hj]), gcv j hj⟩⟩, fun j hj => ?_, cw.trans (c3.mono (fun j hj => by rw [List.mem_singleton.1 hj]; exact hg)), (r.blk.chg c1 (by simp)).chg c2 (fun hm => (r.cof g (by simpa using hm)).2 rfl)⟩
  · exact (((r.blk.chg c1 (by simp)).chg c2 (fun hm => (r.cof g (by simpa using hm)).2 rfl)).set 1 cv')
  · rw [cellsOf_snoc _ _ _ _ r.ulen, List.length_append]
    exact owns_chg2 ol c3 (fun j hj hm => gcv j hj (by simpa using hm))
  · rw [List.length_append, List.length_append, r.ulen]
    rfl
  · by_cases hil : i < us.length
    · rw [List.getElem?_append_left hil] at hv
      have hp2 : d.cache[i]? = some p := by
        have := hp
        simp only at this
        rw [List.getElem?_append_left (by rw [← r.ulen]; exact hil)] at this
        exact this
      obtain ⟨q1, q2⟩ := r.dat i v p hv hp2
      exact ⟨keep _ _ _ q1 q2, far v q2⟩
    · have hi2 : i < (us ++ [u]).length := (List.getElem?_eq_some_iff.1 hv).1
      obtain rfl : i = us.length := by simp at hi2; omega
      rw [List.getElem?_append_right (Nat.le_refl _), Nat.sub_self] at hv
      obtain rfl : u = v := by simpa using hv
      have hp2 : p = (k, b) := by
        have := hp
        simp only at this
        rw [List.getElem?_append_right (by rw [r.ulen]; exact Nat.le_refl _), r.ulen, Nat.sub_self] at this
        simpa using this.symm
      subst hp2
      refine ⟨owns_chg2 (owns_chg2 (ownsRow_base hu (Nat.zero_le _)) c2 (fun j hj hm => ?_)) c3 (fun j hj hm => ?_), fun j hj => ⟨List.mem_append_left _ (List.mem_append_right _ (by simp [hj])), ?_, fun e => ?_⟩⟩
      · have h1 := (un j hj).1
        have h2 := hlt j (r.cof j (by simpa using hm)).1
        omega
      · have h1 := (un j hj).1
        rw [List.mem_singleton.1 hm] at h1
        omega
      · have := (un j hj).1
        omega
      · rcases cvn j e with q | q
        · have := hlt j (r.cof j q).1
          have := (un j hj).1
          omega
        · have := (un j hj).2
          omega
  · rcases List.mem_append.1 hj with hj | hj
    · rcases List.mem_append.1 hj with hj | hj
      · exact ⟨by have := hlt j hj; omega, .inl hj⟩
      · have := un j (by simpa using hj)
        exact ⟨by omega, .inr this.1⟩
    · have h1 := (ol.lt j (by simpa using hj)).2
      rcases cvn j (by simpa using hj) with q | q
      · exact ⟨h1, .inl (r.cof j q).1⟩
      · exact ⟨h1, .inr (by omega)⟩

set_option maxHeartbeats 4000000 in
set_option maxRecDepth 100000 in
theorem rwrite_any (g : Nat) (F : List Nat) (d : Dk) (at_ : Int) (v : Value) (xs : List Int) (w : World) (h : (RefT g d F).P w) (ha : -9223372036854775808 ≤ at_ ∧ at_ ≤ 9223372036854775807) (hv : Sl w v xs) (hby : By xs) (hb : xs.length ≤ 140737488355328) (hc : d.cache.length ≤ 1000000000) :
    Calls Try.prog 32 #[.pointer (some ⟨g, 0, none⟩), .int .i64 at_, v] w fun e w' => e = .returned (.int .i64 ((d.writeErr at_ (nats xs) : Nat) : Int)) ∧ Hid (Turns w F (RefT g (d.write at_ (nats xs))) w') := by
  have h' : RdIn w g F d := h
  have same : ∀ n, d.writeErr at_ (nats xs) = n → n ≠ 0 → d.write at_ (nats xs) = d := fun n h1 h2 => by
    unfold Dk.write
    rw [h1, if_neg h2]
  have T0 : Turns w F (RefT g d) w := ⟨F, h, fun k hk => .inl hk, Chg.refl _ _⟩
  obtain ⟨lv, cv, us, r⟩ := h'.rep
  have hl := h'.fit.flat
  have hhi := h'.fit.hi
  obtain ⟨lo, lc, rfl⟩ := owns_slice r.las
  obtain ⟨co, cc, rfl⟩ : ∃ co cc, cv = .slice co d.cache.length cc := by
    rcases r.cac.2 with ⟨rfl, h0⟩ | ⟨cb, cap, cur, rfl, _⟩
    · exact ⟨none, 0, by rw [h0]⟩
    · exact ⟨_, _, rfl⟩
  obtain ⟨vo, vc, rfl⟩ := hv.slice
  have c0 := r.blk.cell (j := 0) rfl
  have c1 := r.blk.cell (j := 1) rfl
  have c2 := r.blk.cell (j := 2) rfl
  rw [hl] at c0
  have R := Lib.hid r
  have V := Lib.hid hv
  have BY := Lib.hid hby
  have HI := Lib.hid h'
  have ht := tdiv_128 d.last.length
  obtain ⟨i0, hi, hz0, hz1, hz2⟩ := info_parts info_u8
  obtain ⟨j0, ki, kz0, kz1, kz2⟩ := info_parts info_write
  by_cases hbad : d.bad = true
  · have e1 : d.writeErr at_ (nats xs) = 2 := by
      unfold Dk.writeErr
      rw [(Dk.check_bad hbad at_).1]
      rfl
    rw [hbad] at c2
    rw [same 2 e1 (by decide), e1]
    replace T0 := Lib.hid T0
    clear h h' r hv hby same e1
    go_enter Try.func32, Try.ntmps32
    go_wp2_with fail
    go_ret
    exact ⟨rfl, T0⟩
  have hb0 : d.bad = false := by simpa using hbad
  rw [hb0] at c2
  by_cases hhas : d.has at_
  · obtain ⟨k, rfl⟩ := Int.eq_ofNat_of_zero_le hhas.1
    have hk : k < d.last.length := by have := hhas.2; omega
    have hk0 : (0 : Int) ≤ k := Int.natCast_nonneg _
    have hkn : ¬ (k : Int) < 0 := by omega
    have hk1 : ¬ (d.last.length : Int) ≤ k := by omega
    by_cases h128 : xs.length = 128
    · obtain ⟨e1, e2⟩ := Dk.write_ok (b := nats xs) hb0 hk (by rw [nats_length]; exact h128)
      rw [e2, e1]
      have FW := h'.fit.write (at_ := (k : Int)) (b := nats xs) (nats_bs hby)
      rw [e2] at FW
      replace FW := Lib.hid FW
      have hE := Lib.hid (ints_nats hby)
      have hNL : Hid ((nats xs).length = 128) := by show _ = _; rw [nats_length]; exact h128
      rw [h128] at V ⊢
      replace h128 := Lib.hid h128
      replace hb0 := Lib.hid hb0
      replace hbad := Lib.hid hbad
      clear h h' r hv hby same e1 e2 T0
      go_enter Try.func32, Try.ntmps32
      go_wp2_with (first
        | (at_builtin; refine wpList_append_sl _ rfl (.tmp 27) (.tmp 28) 22 rfl w.heap.size 5 i0 (.int .u8 0) 1 Try.underlying22 hi hz0 hz1 hz2 rfl _ 0 [] rfl (World.ownsRow_nil _ _ _ _) vo 128 vc xs rfl V.out (by rw [h128.out]; unfold maxLen; omega) (by rw [h128.out]; omega) (Nat.le_refl _) ?_; intro u w1 ol gr nb; have C1 : Hid (Chg [] w w1) := grown_none gr.out rfl; have RB := R.out.blk.chg C1.out (by simp); have d1 := RB.cell (j := 1) rfl; have ol' := ol.out; rw [Nat.zero_add, List.nil_append, h128.out] at ol'; obtain ⟨uo, uc, rfl⟩ := owns_slice ol'; have RC : Hid (w1.ownsRow 0 112 2 (.slice co d.cache.length cc) d.cache.length (cellsOf d.cache us)) := owns_chg2 R.out.cac C1.out (fun _ _ => by simp); replace ol' := Lib.hid ol'; clear nb gr ol RB)
        | (at_builtin; with_reducible refine wpList_append_three _ rfl (.tmp 34) (.tmp 38) 82 rfl 0 112 j0 (.agg #[.int .i64 0, .slice none 0 0]) 2 32 Try.underlying82 ki kz0 kz1 kz2 rfl (by decide) (.slice co d.cache.length cc) d.cache.length _ rfl (owns_chg2 RC.out ((Chg.refl [] _).alloc _) (fun _ _ => by simp)) ⟨w1.heap.size, 0, none⟩ 1 1 [.int .i64 (k : Int), .slice uo 128 uc] rfl rfl (two_cells _ _ _ _) (by simp [Value.oneCell']) (by unfold maxLen; omega) (by omega) (Nat.zero_le _) ?_; intro cv' wn ol gr nb; obtain ⟨m1, m2, m3, m4⟩ := R.out.more HI.out.lt HI.out.mem (b := nats xs) (k := k) (by rw [hE.out, hNL.out]; exact ol'.out) C1.out ol.out gr.out (by simpa using nb.out); obtain ⟨no, nc, rfl⟩ := owns_slice_any ol.out; have f1 := m4.free 1; have d2 := m4.cell (j := 1) rfl; replace m1 := Lib.hid m1; replace m2 := Lib.hid m2; replace m3 := Lib.hid m3; clear ol gr nb m4))
      go_ret
      refine ⟨rfl, _, ⟨FW.out, fun j hj => ?_, List.mem_append_left _ (List.mem_append_left _ HI.out.mem), _, _, _, m1.out⟩, fun j hj => (m2.out j hj).2, m3.out⟩
      have := (m2.out j hj).1
      simpa [World.setCell] using this
    · have e1 : d.writeErr (k : Int) (nats xs) = 4 := by
        unfold Dk.writeErr
        rw [(Dk.read_ok hb0 hk).1, if_pos rfl, if_neg (by rw [nats_length]; exact h128)]
      rw [same 4 e1 (by decide), e1]
      have hb2 : ((xs.length : Int) != 128) = true := by simp; omega
      replace T0 := Lib.hid T0
      clear h h' r hv hby same e1
      go_enter Try.func32, Try.ntmps32
      go_wp2_with fail
      go_ret
      exact ⟨rfl, T0⟩
  · have e1 : d.writeErr at_ (nats xs) = 3 := by
      unfold Dk.writeErr
      rw [(Dk.check_out hb0 hhas).1]
      rfl
    rw [same 3 e1 (by decide), e1]
    have hcase : at_ < 0 ∨ (¬ at_ < 0 ∧ (d.last.length : Int) ≤ at_) := by
      unfold Dk.has at hhas
      omega
    replace T0 := Lib.hid T0
    clear h h' r hv hby same e1
    rcases hcase with h1 | ⟨h1, h2⟩
    · go_enter Try.func32, Try.ntmps32
      go_wp2_with fail
      go_ret
      exact ⟨rfl, T0⟩
    · go_enter Try.func32, Try.ntmps32
      go_wp2_with fail
      go_ret
      exact ⟨rfl, T0⟩

end Go.Proofs.Ytjkjkennplfgaaa
