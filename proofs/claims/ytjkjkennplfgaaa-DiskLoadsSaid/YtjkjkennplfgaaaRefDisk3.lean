/-
  The document's disk: Read, Write. By an AI agent.
-/
import Derived.Test.YtjkjkennplfgaaaRefDisk2
namespace Go.Proofs.Ytjkjkennplfgaaa
open Go.RowKit

/-- What comes out of the document's: bytes in memory of their own, and an error's number. -/
def RGives (w : World) (xs : List Nat) (err : Nat) (e : Ending) (w' : World) : Prop :=
  ∃ u, e = .returned (.tuple #[u, .int .i64 (err : Int)]) ∧ Hid (w'.ownsRow w.heap.size 5 1 u xs.length ((ints xs).map (Value.int .u8))) ∧ Hid (Chg [] w w')

theorem Dk.check_bad {d : Dk} (h : d.bad = true) (a : Int) : d.check a = 2 ∧ d.readVal a = [] := by
  have hc : d.check a = 2 := by unfold Dk.check; rw [if_pos h]
  refine ⟨hc, ?_⟩
  unfold Dk.readVal
  rw [if_neg (by rw [hc]; decide)]

theorem Dk.check_out {d : Dk} (h : d.bad = false) {a : Int} (ha : ¬ d.has a) : d.check a = 3 ∧ d.readVal a = [] := by
  have hc : d.check a = 3 := by unfold Dk.check; rw [if_neg (by rw [h]; decide), if_neg ha]
  refine ⟨hc, ?_⟩
  unfold Dk.readVal
  rw [if_neg (by rw [hc]; decide)]

theorem over_take {d : Dk} {k i : Nat} {p : Nat × List Nat} {b : List Nat} (h : d.cache[i]? = some p) : Dk.over k b (d.cache.take (i + 1)) = if p.1 = k then p.2 else Dk.over k b (d.cache.take i) := by
  rw [take_snoc h, Dk.over_snoc]

set_option maxHeartbeats 4000000 in
set_option maxRecDepth 100000 in
theorem rread_any (g : Nat) (F : List Nat) (d : Dk) (at_ : Int) (w : World) (h : (RefT g d F).P w) (ha : -9223372036854775808 ≤ at_ ∧ at_ ≤ 9223372036854775807) (hc : d.cache.length ≤ 1000000000) :
    Calls Try.prog 31 #[.pointer (some ⟨g, 0, none⟩), .int .i64 at_] w (RGives w (d.readVal at_) (d.check at_)) := by
  have h' : RdIn w g F d := h
  obtain ⟨lv, cv, us, r⟩ := h'.rep
  have hl := h'.fit.flat
  have hhi := h'.fit.hi
  have hs := own_sl r.las
  have hcap : ∀ ao n c, lv = .slice ao n c → n ≤ c := fun ao n c e => by
    have := r.las
    rw [e] at this
    exact owned_cap this
  obtain ⟨lo, lc, rfl⟩ := owns_slice r.las
  have hcap := hcap _ _ _ rfl
  obtain ⟨co, cc, rfl⟩ : ∃ co cc, cv = .slice co d.cache.length cc := by
    rcases r.cac.2 with ⟨rfl, h0⟩ | ⟨cb, cap, cur, rfl, _⟩
    · exact ⟨none, 0, by rw [h0]⟩
    · exact ⟨_, _, rfl⟩
  have c0 := r.blk.cell (j := 0) rfl
  have c1 := r.blk.cell (j := 1) rfl
  have c2 := r.blk.cell (j := 2) rfl
  rw [hl] at c0 hcap
  have FIT := Lib.hid h'.fit
  have R := Lib.hid r
  have ht := tdiv_128 d.last.length
  obtain ⟨i0, hi, hz0, hz1, hz2⟩ := info_parts info_u8
  by_cases hbad : d.bad = true
  · obtain ⟨e1, e2⟩ := Dk.check_bad hbad at_
    rw [hbad] at c2
    rw [e1, e2]
    clear h h' r hs e1 e2
    go_enter Try.func31, Try.ntmps31
    go_wp2_with fail
    go_ret2
    exact ⟨_, rfl, World.ownsRow_nil _ _ _ _, Chg.refl _ _⟩
  have hb0 : d.bad = false := by simpa using hbad
  rw [hb0] at c2
  by_cases hhas : d.has at_
  · obtain ⟨k, rfl⟩ := Int.eq_ofNat_of_zero_le hhas.1
    have hk : k < d.last.length := by have := hhas.2; omega
    obtain ⟨e1, e2⟩ := Dk.read_ok hb0 hk
    rw [e1, e2]
    have hk0 : (0 : Int) ≤ k := Int.natCast_nonneg _
    have hkn : ¬ (k : Int) < 0 := by omega
    have hk1 : ¬ (d.last.length : Int) ≤ k := by omega
    obtain ⟨P, hP⟩ : ∃ P : Nat, 128 * (k : Int) = (P : Int) := ⟨128 * k, by omega⟩
    obtain ⟨P2, hP2⟩ : ∃ P2 : Nat, (P : Int) + 128 = (P2 : Int) := ⟨P + 128, by omega⟩
    have hq2 : P2 - P = 128 := by omega
    have hq3 : P = 128 * k := by omega
    have hq4 : P2 ≤ 128 * d.last.length := by omega
    have hq5 : P2 ≤ lc := by omega
    have hq6 : (P : Int) ≤ P2 := by omega
    have hq7 : (P2 : Int) ≤ lc := by omega
    have hq8 : ¬ lc = P := by omega
    have I0 : Sl w (.slice lo (ints d.last.flatten).length lc) (ints d.last.flatten) := by rw [ints_length]; exact hs
    have CU := I0.cut P (P2 - P) (by rw [ints_length, hl]; omega) (by rw [ints_length, hl]; exact hcap)
    rw [show ((ints d.last.flatten).drop P).take (P2 - P) = ints (d.last.getD k []) by
      rw [hq2, hq3, ← Dk.flat_cut (fun s hs => (FIT.out.sec s hs).1) hk]
      unfold ints
      rw [List.map_take, List.map_drop], if_neg hq8] at CU
    have hbl : (d.last.getD k []).length = 128 := by
      rw [List.getD_eq_getElem?_getD, List.getElem?_eq_getElem hk]
      exact (FIT.out.sec _ (List.getElem_mem hk)).1
    replace CU := Lib.hid CU
    have NE := Lib.hid (Dk.now_eq d k)
    have NL : Hid ((d.now k).length = 128) := (Dk.now_len FIT.out hk).1
    replace hq2 := Lib.hid hq2
    replace hq3 := Lib.hid hq3
    clear h h' r hs e1 e2 I0 hl
    go_enter Try.func31, Try.ntmps31
    go_wp2_with fail
    have S0 : Hid (Sl w (.slice (Option.map (fun x => x.add P) lo) 128 (lc - P)) (ints (Dk.over k (d.last.getD k []) (d.cache.take 0)))) := by
      have := CU.out
      rw [hq2.out] at this
      exact this
    clear CU
    go_loop [6, 7] (fun b i => ∃ (q : Nat) (bo : Option Addr) (bc : Nat), q ≤ d.cache.length ∧ i = .int .i64 q ∧ b = .slice bo 128 bc ∧ Hid (Sl w (.slice bo 128 bc) (ints (Dk.over k (d.last.getD k []) (d.cache.take q))))) (fun _ i => d.cache.length - (intOf i).toNat)
    case atStart => exact ⟨0, _, _, Nat.zero_le _, rfl, by rw [hq2.out], S0⟩
    case round =>
      obtain ⟨q, bo, bc, hq, rfl, rfl, S⟩ := hrel
      clear S0
      have hq0 : (0 : Int) ≤ q := Int.natCast_nonneg _
      by_cases hlt : q < d.cache.length
      · obtain ⟨p, cb, cc2, uo, uc, hp, hv, k1, k2, SU⟩ := R.out.at hlt
        obtain ⟨rfl, rfl⟩ : co = some ⟨cb, 0, none⟩ ∧ cc = cc2 := by simpa using hv
        have hql : (q : Int) < d.cache.length := by omega
        have OT := Lib.hid (over_take (k := k) (b := d.last.getD k []) hp)
        have hpl : p.2.length = 128 := (FIT.out.wr p (List.mem_of_getElem? hp)).2.1
        rw [hpl] at k2 SU
        replace SU := Lib.hid SU
        clear hp hv
        by_cases hpk : p.1 = k
        · have hb : ((p.1 : Int) == (k : Int)) = true := by simp; omega
          have S2 : Hid (Sl w (.slice uo 128 uc) (ints (Dk.over k (d.last.getD k []) (d.cache.take (q + 1))))) := by
            rw [OT.out, if_pos hpk]
            exact SU
          replace hpk := Lib.hid hpk
          replace hpl := Lib.hid hpl
          generalize p.1 = pa at *
          clear S OT
          go_wp2_with fail
          exact ⟨⟨q + 1, _, _, by omega, by go_num, rfl, S2⟩, by simp [intOf]; omega⟩
        · have hb : ((p.1 : Int) == (k : Int)) = false := beq_false_of_ne (by omega)
          have S2 : Hid (Sl w (.slice bo 128 bc) (ints (Dk.over k (d.last.getD k []) (d.cache.take (q + 1))))) := by
            rw [OT.out, if_neg hpk]
            exact S
          replace hpk := Lib.hid hpk
          replace hpl := Lib.hid hpl
          generalize p.1 = pa at *
          clear S OT
          go_wp2_with fail
          exact ⟨⟨q + 1, _, _, by omega, by go_num, rfl, S2⟩, by simp [intOf]; omega⟩
      · obtain rfl : q = d.cache.length := by omega
        rw [List.take_length, ← NE.out] at S
        have hil : (ints (d.now k)).length = 128 := by rw [ints_length]; exact NL.out
        replace hil := Lib.hid hil
        go_wp2_with (at_builtin; refine wpList_append_sl _ rfl _ _ 22 rfl w.heap.size 5 i0 (.int .u8 0) 1 Try.underlying22 hi hz0 hz1 hz2 rfl _ 0 [] rfl (World.ownsRow_nil _ _ _ _) bo 128 bc (ints (d.now k)) rfl S.out (by rw [hil.out]; unfold maxLen; omega) (by rw [hil.out]; omega) (Nat.le_refl _) ?_; intro v' w1 ol gr nb)
        go_ret2
        rw [ints_length, Nat.zero_add, List.nil_append] at ol
        exact ⟨_, rfl, ol, grown_none gr.out rfl⟩
  · obtain ⟨e1, e2⟩ := Dk.check_out hb0 hhas
    rw [e1, e2]
    have hcase : at_ < 0 ∨ (¬ at_ < 0 ∧ (d.last.length : Int) ≤ at_) := by
      unfold Dk.has at hhas
      omega
    clear h h' r hs e1 e2
    rcases hcase with h1 | ⟨h1, h2⟩
    · go_enter Try.func31, Try.ntmps31
      go_wp2_with fail
      go_ret2
      exact ⟨_, rfl, World.ownsRow_nil _ _ _ _, Chg.refl _ _⟩
    · go_enter Try.func31, Try.ntmps31
      go_wp2_with fail
      go_ret2
      exact ⟨_, rfl, World.ownsRow_nil _ _ _ _, Chg.refl _ _⟩

end Go.Proofs.Ytjkjkennplfgaaa
