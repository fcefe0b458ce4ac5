/-
  'back', whatever was put. By an AI agent.
-/
import Derived.Test.YtbinoailpceonaaLeBackFn
namespace Go.Proofs.Ytbinoailpceonaa
open Go.RowKit

set_option maxHeartbeats 1000000 in
set_option maxRecDepth 100000 in
theorem back_raw (b : Nat) (rv : Value) (s : RS) (d : OpD) (w : World) (h : Rd w b rv s) (hd : d.ok) (hk : d.k = 5) (hs : s.has d.bytes) (hv : Sl w d.bv d.bs) (hne : ∀ k, 0 < d.bs.length → d.bv.ownBlock = some k → k ≠ b) :
    Calls Try.prog 31 #[.pointer (some ⟨b, 0, none⟩), d.val] w (Back w b rv (s.next d.bytes.length)) := by
  obtain ⟨k, v, n, dv, bs⟩ := d
  obtain rfl : k = 5 := hk
  have hby : (OpD.mk 5 v n dv bs).bytes = bs := rfl
  rw [hby] at hs ⊢
  have hg := hs.got
  have hc : Chg [] w (w.alloc (.cells #[.int .i64 5, .int .u64 v, .int .i64 n, dv] 51)) := (Chg.refl _ _).alloc _
  have hbig : bs.length ≤ 140737488355328 := hd.big
  have hre := rawR_any b rv s bs.length _ (h.chg hc (by simp) (by simp)) (by omega)
  have hx : Blk (w.alloc (.cells #[.int .i64 5, .int .u64 v, .int .i64 n, dv] 51)) w.heap.size 51 [.int .i64 5, .int .u64 v, .int .i64 n, dv] := Blk.made _ _ _
  have hlt := h.pb.lt
  have HX := Lib.hid hx
  have C := Lib.hid hc
  have S := Lib.hid (hv.chg hc (by simp))
  have N := Lib.hid (fun (k : Nat) (h0 : 0 < bs.length) (h1 : dv.ownBlock = some k) => hne k h0 h1)
  have G := Lib.hid hg
  obtain ⟨bo, bc, rfl⟩ : ∃ bo bc, dv = .slice bo bs.length bc := hv.slice
  clear h hd hs hg hc hx hby hv hne
  unfold OpD.val
  simp only
  go_enter Try.func31, Try.ntmps31
  go_wp2_with fail
  refine hre.mono ?_
  clear hre
  rintro e w1 ⟨lv, rfl, ho, hr, hc⟩
  rw [Int.toNat_natCast, G.out] at ho
  rw [Int.toNat_natCast] at hr
  have L := Lib.hid (Sl.owned ho)
  have HB := Lib.hid (HX.out.chg hc (by simp; omega))
  have R := Lib.hid hr
  have D := Lib.hid hc
  have S1 : Hid (Sl w1 (.slice bo bs.length bc) bs) := by
    rcases Nat.eq_zero_or_pos bs.length with h0 | h0
    · exact .inl ⟨List.eq_nil_of_length_eq_zero h0, bo, bc, by rw [h0]⟩
    · exact S.out.chg D.out (fun k hk => by have := N.out k h0 hk; simpa using this)
  clear hr hc HX ho
  have c3 := HB.out.cell (j := 3) rfl
  go_wp2_with fail
  refine (same_true _ _ _ _ L.out S1.out hbig).mono ?_
  rintro e w2 ⟨rfl, q, rfl⟩
  go_wp2_with fail
  go_ret
  exact ⟨rfl, R.out.chg (t := []) ((Chg.refl _ _).drewN _) (by simp) (by simp), (((C.out.mono (by simp)).trans D.out).drewN _)⟩

set_option maxHeartbeats 1000000 in
set_option maxRecDepth 100000 in
theorem back_fill (b : Nat) (rv : Value) (s : RS) (d : OpD) (w : World) (h : Rd w b rv s) (hd : d.ok) (hk : d.k = 6) (hs : s.has d.bytes) :
    Calls Try.prog 31 #[.pointer (some ⟨b, 0, none⟩), d.val] w (Back w b rv (s.next d.bytes.length)) := by
  obtain ⟨k, v, n, dv, bs⟩ := d
  obtain rfl : k = 6 := hk
  have hby : (OpD.mk 6 v n dv bs).bytes = List.replicate n.toNat (v % 256) := rfl
  rw [hby] at hs ⊢
  have hg := hs.got
  rw [List.length_replicate] at hg ⊢
  have htop : n.toNat ≤ 140737488355328 := by
    have h1 := hs.fit
    have h2 := h.top
    rw [List.length_replicate] at h1
    omega
  have hv0 : 0 ≤ v := hd.v0.1
  have hv1 : v ≤ 18446744073709551615 := hd.v0.2
  have hn0 := hd.n0.1
  have hn1 := hd.n0.2
  simp only at hn0 hn1
  have hc : Chg [] w (w.alloc (.cells #[.int .i64 6, .int .u64 v, .int .i64 n, dv] 51)) := (Chg.refl _ _).alloc _
  have hre := rawR_any b rv s n _ (h.chg hc (by simp) (by simp)) hn1
  have hx : Blk (w.alloc (.cells #[.int .i64 6, .int .u64 v, .int .i64 n, dv] 51)) w.heap.size 51 [.int .i64 6, .int .u64 v, .int .i64 n, dv] := Blk.made _ _ _
  have hlt := h.pb.lt
  have HX := Lib.hid hx
  have C := Lib.hid hc
  have G := Lib.hid hg
  clear h hd hs hg hc hx hby
  unfold OpD.val
  simp only
  go_enter Try.func31, Try.ntmps31
  go_wp2_with fail
  refine hre.mono ?_
  clear hre
  rintro e w1 ⟨lv, rfl, ho, hr, hc⟩
  rw [G.out, List.length_replicate] at ho
  obtain ⟨lo, lc, rfl⟩ := owns_slice ho
  have L := Lib.hid ho
  have HB := Lib.hid (HX.out.chg hc (by simp; omega))
  have R := Lib.hid hr
  have D := Lib.hid hc
  clear hr hc HX ho
  have c1 := HB.out.cell (j := 1) rfl
  have c2 := HB.out.cell (j := 2) rfl
  go_wp2_with fail
  go_loopw [7] (fun i wr => ∃ k : Nat, k ≤ n.toNat ∧ i = .int .i64 k ∧ ∃ q, wr = w1.drewN q) (fun i _ => n.toNat - (intOf i).toNat)
  case atStart => exact ⟨0, Nat.zero_le _, rfl, 0, rfl⟩
  case round =>
    obtain ⟨k, hk, rfl, q, rfl⟩ := hrel
    by_cases hlt2 : k < n.toNat
    · obtain ⟨g, rfl, hcell⟩ := owns_at L.out (k := k) (u := .int .u8 (v % 256)) (by rw [List.getElem?_map, List.getElem?_replicate, if_pos hlt2]; rfl)
      have hi0 : (0 : Int) ≤ k := Int.natCast_nonneg _
      have hi1 : (k : Int) < n.toNat := by omega
      have hi2 : (k : Int) < max n 0 := by omega
      go_wp2_with fail
      go_quiet (fail)
      go_wp2_with fail
      exact ⟨⟨k + 1, by omega, by go_num, _, rfl⟩, by simp [intOf]; omega⟩
    · have hmx : max 0 n = (n.toNat : Int) := by omega
      have HM := Lib.hid hmx
      clear hmx
      go_wp2_with fail
      go_ret
      have hm : (max n 0 == max 0 n) = true := by rw [beq_iff_eq]; omega
      exact ⟨congrArg (fun x => Ending.returned (.bool x)) hm, R.out.chg (t := []) ((Chg.refl _ _).drewN _) (by simp) (by simp), (((C.out.mono (by simp)).trans D.out).drewN _)⟩

theorem next_zero {s : RS} (h : s.has []) : s.next 0 = s := by
  have hf : s.pos + 0 ≤ s.xs.length := h.fit
  unfold RS.next
  rw [if_pos h.bad, if_pos hf]
  rfl

set_option maxHeartbeats 1000000 in
theorem back_other (b : Nat) (rv : Value) (s : RS) (d : OpD) (w : World) (h : Rd w b rv s) (h1 : d.k ≠ 1) (h2 : d.k ≠ 2) (h3 : d.k ≠ 3) (h4 : d.k ≠ 4) (h5 : d.k ≠ 5) (h6 : d.k ≠ 6) (hs : s.has d.bytes) :
    Calls Try.prog 31 #[.pointer (some ⟨b, 0, none⟩), d.val] w (Back w b rv (s.next d.bytes.length)) := by
  obtain ⟨k, v, n, dv, bs⟩ := d
  have e : (OpD.mk k v n dv bs).bytes = [] := by
    unfold OpD.bytes
    rw [if_neg h1, if_neg h2, if_neg h3, if_neg h4, if_neg h5, if_neg h6]
  rw [e] at hs ⊢
  have hnx := next_zero hs
  rw [List.length_nil, hnx]
  have b1 : (k == 1) = false := by simpa using h1
  have b2 : (k == 2) = false := by simpa using h2
  have b3 : (k == 3) = false := by simpa using h3
  have b4 : (k == 4) = false := by simpa using h4
  have b5 : (k == 5) = false := by simpa using h5
  have b6 : (k == 6) = false := by simpa using h6
  have hc : Chg [] w (w.alloc (.cells #[.int .i64 k, .int .u64 v, .int .i64 n, dv] 51)) := (Chg.refl _ _).alloc _
  have C := Lib.hid hc
  have R := Lib.hid (h.chg hc (by simp) (by simp))
  clear h h1 h2 h3 h4 h5 h6 hs e hnx hc
  unfold OpD.val
  simp only
  go_enter Try.func31, Try.ntmps31
  go_wp2_with fail
  go_ret
  exact ⟨rfl, R.out, C.out.mono (by simp)⟩

theorem back_any (b : Nat) (rv : Value) (s : RS) (d : OpD) (w : World) (h : Rd w b rv s) (hd : d.ok) (hs : s.has d.bytes) (hv : Sl w d.bv d.bs) (hne : ∀ k, 0 < d.bs.length → d.bv.ownBlock = some k → k ≠ b) :
    Calls Try.prog 31 #[.pointer (some ⟨b, 0, none⟩), d.val] w (Back w b rv (s.next d.bytes.length)) := by
  by_cases h1 : d.k = 1
  · exact back_one b rv s d w h hd h1 hs
  by_cases h2 : d.k = 2
  · exact back_two b rv s d w h hd h2 hs
  by_cases h3 : d.k = 3
  · exact back_four b rv s d w h hd h3 hs
  by_cases h4 : d.k = 4
  · exact back_eight b rv s d w h hd h4 hs
  by_cases h5 : d.k = 5
  · exact back_raw b rv s d w h hd h5 hs hv hne
  by_cases h6 : d.k = 6
  · exact back_fill b rv s d w h hd h6 hs
  exact back_other b rv s d w h h1 h2 h3 h4 h5 h6 hs
end Go.Proofs.Ytbinoailpceonaa
