/-
  The rest of the document's reader. By an AI agent.
-/
import Derived.Test.YtbinoailpceonaaRefReader
import Derived.Test.YtbinoailpceonaaLent
namespace Go.Proofs.Ytbinoailpceonaa
open Go.RowKit

theorem RS.next_zero {s : RS} : s.next 0 = s ∨ (s.bad = 0 ∧ s.xs.length < s.pos) := by
  unfold RS.next
  by_cases h0 : s.bad = 0
  · rw [if_pos h0]
    by_cases h1 : s.pos + 0 ≤ s.xs.length
    · rw [if_pos h1]; exact .inl rfl
    · exact .inr ⟨h0, by omega⟩
  · rw [if_neg h0]; exact .inl rfl

theorem RS.zero {s : RS} (h : s.pos ≤ s.xs.length) : s.got 0 = [] ∧ s.next 0 = s ∧ s.skip 0 = s := by
  have h1 : s.got 0 = [] := List.eq_nil_of_length_eq_zero (by have := RS.got_len s 0; omega)
  have h2 : s.next 0 = s := by
    rcases RS.next_zero (s := s) with h2 | ⟨_, h2⟩
    · exact h2
    · omega
  refine ⟨h1, h2, ?_⟩
  unfold RS.skip
  rw [h1, h2]
  rfl

/-- The bytes that its Raw hands out. -/
def RawsR (w : World) (b : Nat) (v : Value) (s : RS) (n : Nat) (e : Ending) (w' : World) : Prop :=
  ∃ rv, e = .returned rv ∧ Sl w' rv (s.got n) ∧ (∀ k, rv.ownBlock = some k → w.heap.size ≤ k) ∧ Rr w' b v (s.next n) ∧ Chg [b] w w'

set_option maxHeartbeats 1000000 in
set_option maxRecDepth 100000 in
theorem refRawR_pos (b : Nat) (v : Value) (s : RS) (n : Nat) (w : World) (h : Rr w b v s) (hn0 : 0 < n) (hn : n ≤ 9223372036854775807) :
    Calls Try.prog 71 #[.pointer (some ⟨b, 0, none⟩), .int .i64 n] w (RawsR w b v s n) := by
  obtain ⟨i0, hi, hz0, hz1, hz2⟩ := info_parts info_u8
  replace hi := Lib.hid hi
  replace hz0 := Lib.hid hz0
  replace hz1 := Lib.hid hz1
  replace hz2 := Lib.hid hz2
  have hh := has_any b v s n w h hn
  obtain ⟨ao, c, rfl⟩ := h.sl.slice
  have hcap := h.cap _ _ _ rfl
  have htop := h.top
  have H := Lib.hid h
  have c0 := h.c0
  have c1 := h.c1
  have f1 := h.pb.free 1
  have hb := h.pb.lt
  clear h
  go_enter Try.func71, Try.ntmps71
  go_wp2_with fail
  refine hh.mono ?_
  clear hh
  rintro e w1 (⟨h0, h1, rfl, q, rfl⟩ | ⟨hno, rfl, hr, hc⟩)
  · have HF := Lib.hid (And.intro h0 h1)
    have hg := RS.got_fit h0 h1
    clear h0
    obtain ⟨g, o, rfl, -⟩ := H.out.byte (k := s.pos) (by omega)
    have HN : Hid (∀ j u, ((s.got n).map (Value.int .u8))[j]? = some u → w.cell? ((⟨g, o + s.pos, none⟩ : Addr).add j) = some u) := by
      intro j u hj
      have hjl : j < n := by
        have := (List.getElem?_eq_some_iff.1 hj).1
        rw [List.length_map, hg.2.1] at this
        exact this
      obtain ⟨g', o', he, hcell⟩ := H.out.byte (k := s.pos + j) (by omega)
      obtain ⟨rfl, rfl⟩ : g = g' ∧ o = o' := by simpa using he
      rw [Addr.add_lit, Nat.add_assoc, hcell, hg.2.2 j hjl]
      have e : ((s.got n).map (Value.int .u8))[j]? = some (Value.int .u8 ((s.got n).getD j 0)) := by simp [List.getD, List.getElem?_eq_getElem (show j < (s.got n).length by rw [hg.2.1]; exact hjl)]
      rw [e] at hj
      exact hj
    have HL := Lib.hid hg.2.1
    clear hg
    have hcp : ¬ c = s.pos := by omega
    have hp0 : (0 : Int) ≤ s.pos := Int.natCast_nonneg _
    have C1 := Lib.hid ((Chg.refl [] w).drewN q)
    replace HN : Hid (∀ j u, ((s.got n).map (Value.int .u8))[j]? = some u → (w.drewN q).cell? ((⟨g, o + s.pos, none⟩ : Addr).add j) = some u) := HN
    have R1 := Lib.hid (H.out.chg C1.out (by simp) (by simp))
    replace c0 := R1.out.c0
    replace c1 := R1.out.c1
    replace f1 := R1.out.pb.free 1
    generalize w.drewN q = w1 at *
    have hw : IntKind.i64.wrap ((s.pos : Int) + n) = ((s.pos + n : Nat) : Int) := by
      simp [IntKind.wrap, IntKind.bits, IntKind.signed]
      omega
    go_wp2_with fail
    go_still_tail 16, (by kernel_rfl)
    refine wpStill_step (fun K hK => ?_)
    go_simp
    rw [if_pos ⟨by omega, by omega⟩, if_pos (by omega), show ((s.pos : Int) + n).toNat = s.pos + n by omega]
    refine ⟨rfl, hK _ ?_⟩
    clear hK K
    refine wpStill_nil ?_
    rw [show s.pos + n - s.pos = n by omega]
    change wpList _ _ _ _ _ w1.drew
    have ON := Lib.hid (u8s_one (s.got n))
    clear hw hcp
    have hnb : n ≤ 140737488355328 := by have := HF.out.2; omega
    go_wp2_with (at_builtin; refine wpList_append_three _ rfl (.tmp 14) (.tmp 29) 47 rfl w.heap.size 5 i0 (.int .u8 0) 1 1 Try.underlying47 hi.out hz0.out hz1.out hz2.out rfl (by decide) _ 0 [] rfl (World.ownsRow_nil _ _ _ _) ⟨g, o + s.pos, none⟩ n (c - s.pos) ((s.got n).map (Value.int .u8)) rfl (by rw [List.length_map, HL.out, Nat.mul_one]) HN.out ON.out (by unfold maxLen; omega) (by omega) C1.out.size ?_)
    intro v' wn ol gr nb
    have C2 : Hid (Chg [] w wn) := C1.out.drew.grown gr.out (by intro k hk; cases hk)
    have C3 : Hid (Chg [] w1 wn) := (Chg.refl [] w1).drew.grown gr.out (by intro k hk; cases hk)
    have O := ol.out
    obtain ⟨vo, vc, hv⟩ := owns_slice O
    subst hv
    replace O := Lib.hid O
    have R2 := Lib.hid (R1.out.chg C3.out (by simp) (by simp))
    clear ol gr nb c0 c1 f1 HN
    have c1 := R2.out.c1
    have f1 := R2.out.pb.free 1
    go_wp2_with fail
    go_ret
    have hcc : Chg [b] wn (wn.setCell ⟨b, 1, none⟩ (.int .i64 ((s.pos : Int) + n))) := (Chg.refl _ _).setCell (.inl (by simp)) _
    refine ⟨_, rfl, ?_, fun k hk => (O.out.lt k hk).1, R2.out.over HF.out.1 HF.out.2, (C2.out.mono (by simp)).trans hcc⟩
    refine Sl.chg (Sl.owned O.out) hcc (fun k hk => ?_)
    have := (O.out.lt k hk).1
    simp
    omega
  · have HR := Lib.hid hr
    have HC := Lib.hid hc
    have HG := Lib.hid (RS.got_miss hno)
    clear hr hc hno
    go_wp2_with fail
    go_ret
    exact ⟨_, rfl, by rw [HG.out]; exact .inl ⟨rfl, _, _, rfl⟩, (fun k hk => by cases hk), HR.out, HC.out⟩

theorem refRawR_any (b : Nat) (v : Value) (s : RS) (n : Int) (w : World) (h : Rr w b v s) (hn : n ≤ 9223372036854775807) :
    Calls Try.prog 71 #[.pointer (some ⟨b, 0, none⟩), .int .i64 n] w (RawsR w b v s n.toNat) := by
  by_cases h0 : 0 < n
  · obtain ⟨m, rfl⟩ := Int.eq_ofNat_of_zero_le (show 0 ≤ n by omega)
    rw [Int.toNat_natCast]
    exact refRawR_pos b v s m w h (by omega) (by omega)
  · rw [show n.toNat = 0 by omega]
    have hz := RS.zero h.le
    have H : Hid (RawsR w b v s 0 (.returned (.slice none 0 0)) w) := ⟨_, rfl, by rw [hz.1]; exact .inl ⟨rfl, _, _, rfl⟩, (fun k hk => by cases hk), by rw [hz.2.1]; exact h, Chg.refl _ _⟩
    clear h hz
    go_enter Try.func71, Try.ntmps71
    go_wp2_with fail
    go_ret
    exact H.out

/-- What its Noughts does. -/
def SkipsR (w : World) (b : Nat) (v : Value) (s : RS) (n : Nat) (e : Ending) (w' : World) : Prop :=
  e = .returned (.tuple #[]) ∧ Rr w' b v (s.skip n) ∧ Chg [b] w w'

set_option maxHeartbeats 1000000 in
set_option maxRecDepth 100000 in
theorem refNoughts_pos (b : Nat) (v : Value) (s : RS) (n : Nat) (w : World) (h : Rr w b v s) (hn0 : 0 < n) (hn : n ≤ 9223372036854775807) :
    Calls Try.prog 72 #[.pointer (some ⟨b, 0, none⟩), .int .i64 n] w (SkipsR w b v s n) := by
  have hh := has_any b v s n w h hn
  obtain ⟨ao, c, rfl⟩ := h.sl.slice
  have hcap := h.cap _ _ _ rfl
  have htop := h.top
  have hby : By (s.got n) := RS.got_by h.byt n
  have H := Lib.hid h
  clear h
  go_enter Try.func72, Try.ntmps72
  go_wp2_with fail
  refine hh.mono ?_
  clear hh
  rintro e w1 (⟨h0, h1, rfl, q, rfl⟩ | ⟨hno, rfl, hr, hc⟩)
  · have HF := Lib.hid (And.intro h0 h1)
    have hg := RS.got_fit h0 h1
    clear h0
    have HL := Lib.hid hg.2.1
    have HC := Lib.hid hg.2.2
    have HB := Lib.hid hby
    clear hg hby
    go_wp2_with fail
    go_loopw [4] (fun i wr => ∃ k : Nat, k ≤ n ∧ i = .int .i64 k ∧ Hid (∀ j, j < k → (s.got n).getD j 0 = 0) ∧ Hid (Rr wr b (.slice ao s.xs.length c) s) ∧ Hid (Chg [b] w wr)) (fun i _ => n - (intOf i).toNat)
    case atStart => exact ⟨0, Nat.zero_le _, rfl, fun j hj => absurd hj (by omega), H.out.chg (t := []) ((Chg.refl _ _).drewN q) (by simp) (by simp), (Chg.refl _ _).drewN q⟩
    case round =>
      obtain ⟨k, hk, rfl, Z, R, D⟩ := hrel
      have c0 := R.out.c0
      have c1 := R.out.c1
      have f1 := R.out.pb.free 1
      have f2 := R.out.pb.free 2
      have f3 := R.out.pb.free 3
      have hk0 : (0 : Int) ≤ k := Int.natCast_nonneg _
      have hp0 : (0 : Int) ≤ s.pos := Int.natCast_nonneg _
      by_cases hlt : k < n
      · obtain ⟨g, o, rfl, hcell⟩ := R.out.byte (k := s.pos + k) (by omega)
        rw [HC.out k hlt] at hcell
        obtain ⟨x, hx⟩ : ∃ x, (s.got n).getD k 0 = x := ⟨_, rfl⟩
        rw [hx] at hcell
        have HX := Lib.hid hx
        clear hx
        by_cases hx0 : x = 0
        · subst hx0
          clear f1 f2 f3
          go_wp2_with fail
          go_quiet (fail)
          go_wp2_with fail
          refine ⟨⟨k + 1, by omega, by go_num, fun j hj => ?_, R.out.chg (t := []) ((Chg.refl _ _).drewN _) (by simp) (by simp), D.out.drewN _⟩, by simp [intOf]; omega⟩
          by_cases e : j = k
          · subst e; exact HX.out
          · exact Z.out j (by omega)
        · have hxb : (x != 0) = true := by simpa using hx0
          have HX0 := Lib.hid hx0
          have c2 := R.out.c2
          have c3 := R.out.c3
          clear hx0
          have F : Hid (∀ q, Rr (((wr.drewN q).setCell ⟨b, 2, none⟩ (.int .u16 12)).setCell ⟨b, 3, none⟩ (.int .i64 ((s.pos : Int) + k))) b (.slice (some ⟨g, o, none⟩) s.xs.length c) (s.skip n) ∧ Chg [b] w (((wr.drewN q).setCell ⟨b, 2, none⟩ (.int .u16 12)).setCell ⟨b, 3, none⟩ (.int .i64 ((s.pos : Int) + k)))) := by
            intro q
            have hc : Chg [b] wr (((wr.drewN q).setCell ⟨b, 2, none⟩ (.int .u16 12)).setCell ⟨b, 3, none⟩ (.int .i64 ((s.pos : Int) + k))) := (((Chg.refl _ _).drewN q).setCell (.inl (by simp)) _).setCell (.inl (by simp)) _
            have hfn : firstNZ (s.got n) = some k := firstNZ_some _ k (by rw [HL.out]; exact hlt) Z.out (by rw [HX.out]; exact HX0.out)
            unfold RS.skip
            rw [hfn]
            refine ⟨⟨?_, R.out.sl.chg hc (fun k hk => by simpa using R.out.ne k hk), R.out.ne, R.out.le, R.out.top, R.out.byt, R.out.cap, fun e => by cases e⟩, D.out.trans hc⟩
            have := ((R.out.pb.drewN q).set 2 (.int .u16 12)).set 3 (.int .i64 ((s.pos : Int) + k))
            simpa using this
          clear Z HX HX0
          go_wp2_with fail
          go_quiet (fail)
          go_wp2_with fail
          go_end0
          exact ⟨rfl, F.out _⟩
      · obtain rfl : k = n := by omega
        have F : Hid (Rr (wr.setCell ⟨b, 1, none⟩ (.int .i64 ((s.pos : Int) + k))) b (.slice ao s.xs.length c) (s.skip k)) := by
          have hfn : firstNZ (s.got k) = none := firstNZ_none _ (fun j hj => Z.out j (by rw [HL.out] at hj; exact hj))
          unfold RS.skip
          rw [hfn]
          exact R.out.over HF.out.1 HF.out.2
        clear Z hlt hk
        go_wp2_with fail
        go_end0
        exact ⟨rfl, F.out, D.out.setCell (.inl (by simp)) _⟩
  · have HR := Lib.hid hr
    have HC := Lib.hid hc
    have HG := Lib.hid (RS.got_miss hno)
    clear hr hc hno
    go_wp2_with fail
    go_end0
    refine ⟨rfl, ?_, HC.out⟩
    unfold RS.skip
    rw [HG.out]
    exact HR.out

theorem refNoughts_any (b : Nat) (v : Value) (s : RS) (n : Int) (w : World) (h : Rr w b v s) (hn : n ≤ 9223372036854775807) :
    Calls Try.prog 72 #[.pointer (some ⟨b, 0, none⟩), .int .i64 n] w (SkipsR w b v s n.toNat) := by
  by_cases h0 : 0 < n
  · obtain ⟨m, rfl⟩ := Int.eq_ofNat_of_zero_le (show 0 ≤ n by omega)
    rw [Int.toNat_natCast]
    exact refNoughts_pos b v s m w h (by omega) (by omega)
  · rw [show n.toNat = 0 by omega]
    have H : Hid (SkipsR w b v s 0 (.returned (.tuple #[])) w) := ⟨rfl, by rw [(RS.zero h.le).2.2]; exact h, Chg.refl _ _⟩
    clear h
    go_enter Try.func72, Try.ntmps72
    go_wp2_with fail
    go_end0
    exact H.out

set_option maxHeartbeats 400000 in
theorem refEnd_any (b : Nat) (v : Value) (s : RS) (w : World) (h : Rr w b v s) :
    Calls Try.prog 65 #[.pointer (some ⟨b, 0, none⟩)] w fun e w' => e = .returned (.tuple #[.int .u16 s.end_.1, .int .i64 s.end_.2]) ∧ ∃ q, w' = w.drewN q := by
  have hleft := leftRr_any b v s w h
  have hp := h.le
  have ht := h.top
  have h1 := h.c1
  have h2 := h.c2
  have h3 := h.c3
  have hf := h.fine
  clear h
  unfold RS.end_
  by_cases h0 : s.bad = 0
  · rw [if_pos h0]
    rw [h0] at h2
    rw [hf h0]
    clear hf h3
    by_cases hlt : s.pos < s.xs.length
    · rw [if_pos hlt]
      have H0 := Lib.hid h0
      clear h0
      have hd : decide ((0 : Int) < (s.xs.length : Int) - s.pos) = true := decide_eq_true (by omega)
      go_enter Try.func65, Try.ntmps65
      go_wp2_with (go_at_call 66; refine hleft.mono ?_; rintro e w' ⟨rfl, q, rfl⟩)
      go_quiet (fail)
      go_wp2
      go_ret2
      exact ⟨rfl, q + nq, by simp only [World.drewN, Nat.add_assoc]⟩
    · rw [if_neg hlt]
      have hd : decide ((0 : Int) < (s.xs.length : Int) - s.pos) = false := decide_eq_false (by omega)
      have H0 := Lib.hid h0
      clear h0
      go_enter Try.func65, Try.ntmps65
      go_wp2_with (go_at_call 66; refine hleft.mono ?_; rintro e w' ⟨rfl, q, rfl⟩)
      go_ret2
      exact ⟨rfl, _, rfl⟩
  · rw [if_neg h0]
    have hbb : (s.bad != 0) = true := by simpa using h0
    clear h0 hleft hf
    go_enter Try.func65, Try.ntmps65
    go_wp2_with fail
    go_quiet (fail)
    go_wp2
    go_ret2
    exact ⟨rfl, _, rfl⟩

end Go.Proofs.Ytbinoailpceonaa
