/-
  'known' of superblocks. By an AI agent. Printed by gen_spknown.py.
-/
import Derived.Test.YtbeejoooefgeaaaSpSame
import Derived.Test.YtbeejoooefgeaaaSpDec
import Derived.Test.YtbeejoooefgeaaaSpChk
namespace Go.Proofs.Ytbeejoooefgeaaa
open Go.RowKit Crc

theorem bytes_at {w : World} {base g n c : Nat} {xs : List Nat} {j x : Nat} (h : w.ownsRow base 5 1 (.slice (some ⟨g, 0, none⟩) n c) n ((ints xs).map (Value.int .u8))) (hj : xs[j]? = some x) : w.cell? ⟨g, j, none⟩ = some (.int .u8 (x : Int)) :=
  ownsRow_cellAt h (by simp [ints, hj])

set_option maxRecDepth 100000 in
theorem sample_bytes : sampleS.sector[0]? = some 83 ∧ sampleS.sector[33]? = some 3 ∧ sampleS.sector[44]? = some 1 := by
  have e : sampleS.sector = sampleS.body ++ low 4 (sum sampleS.body) := rfl
  have hl : sampleS.body.length = 124 := by decide
  rw [e, List.getElem?_append_left (by omega), List.getElem?_append_left (by omega), List.getElem?_append_left (by omega)]
  decide

set_option maxHeartbeats 8000000 in
set_option maxRecDepth 100000 in
theorem known_any (w : World) : Calls Try.prog 13 #[] w fun e w' => e = .returned (.bool true) ∧ Hid (Chg [] w w') := by
  have SA := Lib.hid (sample_any w)
  have hok := sample_ok
  have hf := sample_fit
  obtain ⟨y0, y33, y44⟩ := sample_bytes
  have hst : sampleS.st = [1, 2, 3] := rfl
  rw [← hst] at SA
  have h3 : sampleS.st.length = 3 := rfl
  generalize sampleS = s at *
  have HOK := Lib.hid hok
  have HF := Lib.hid hf
  have er : s.err = 0 := by unfold Sup.err; rw [if_pos hok]
  have en : s.enc = s.sector := by unfold Sup.enc; rw [if_pos hok]
  have L128 : Hid (s.sector.length = 128) := Sup.sector_length (by omega)
  have EC := Lib.hid (fun W u (h : Sl W u s.st) => enc_any s u W hf h (by omega))
  have CH := Lib.hid (fun W u (h : Sl W u s.st) => check_any s u W h (by omega))
  have DC := Lib.hid (fun W v (h : Sl W v (ints s.sector)) (hc : ∀ ao n c, v = .slice ao n c → n ≤ c) => dec_ok s v W hok hf h hc)
  have SM := Lib.hid (fun W u v (h : Sl W u s.st) (k : Sl W v s.st) => same_super s u v W h k (by omega))
  have AK := Lib.hid (fun W u v => akin_any s s u v W)
  rw [s.akin_self] at AK
  rw [er] at CH
  unfold Encs at EC
  unfold Decs at DC
  rw [er, en] at EC
  obtain ⟨i1, hj, hy0, hy1, hy2⟩ := info_parts info_super2
  replace hj := Lib.hid hj
  replace hy0 := Lib.hid hy0
  clear hy1 hy2 hok hf er en hst
  replace h3 := Lib.hid h3
  replace y0 := Lib.hid y0
  replace y33 := Lib.hid y33
  replace y44 := Lib.hid y44
  go_enter Try.func13, Try.ntmps13
  go_wp2_with fail
  refine SA.out.mono ?_
  rintro e w1 ⟨u, rfl, O, C⟩
  obtain ⟨ao, ac, rfl⟩ := owns_slice O.out
  have U1 : Hid (Sl w1 (.slice ao 3 ac) s.st) := Sl.owned O.out
  have C1 : Hid (Chg [] w w1) := C
  have ON : Hid (∀ v ∈ ([.int .u64 (s.id : Int), .int .u64 (s.ev : Int), .int .u64 (s.safe : Int), .int .i64 s.role, .int .i64 s.m, .int .i64 s.c, .int .i64 s.t, .int .i64 s.ring, .bool s.lazy, .bool s.lost, .slice ao 3 ac, .int .i64 s.cur] : List Value), v.oneCell' = true) := by
    have := one12u s ao ac
    rw [h3.out] at this
    exact this
  have LE : Hid (0 + ([.int .u64 (s.id : Int), .int .u64 (s.ev : Int), .int .u64 (s.safe : Int), .int .i64 s.role, .int .i64 s.m, .int .i64 s.c, .int .i64 s.t, .int .i64 s.ring, .bool s.lazy, .bool s.lost, .slice ao 3 ac, .int .i64 s.cur] : List Value).length ≤ zero12.length) := Nat.le_refl 12
  have SZ : Hid ((Try.prog.info? 27).map (·.size) = some ([.int .u64 (s.id : Int), .int .u64 (s.ev : Int), .int .u64 (s.safe : Int), .int .i64 s.role, .int .i64 s.m, .int .i64 s.c, .int .i64 s.t, .int .i64 s.ring, .bool s.lazy, .bool s.lost, .slice ao 3 ac, .int .i64 s.cur] : List Value).length) := size_super
  have EL : Hid (lay zero12 0 ([.int .u64 (s.id : Int), .int .u64 (s.ev : Int), .int .u64 (s.safe : Int), .int .i64 s.role, .int .i64 s.m, .int .i64 s.c, .int .i64 s.t, .int .i64 s.ring, .bool s.lazy, .bool s.lost, .slice ao 3 ac, .int .i64 s.cur] : List Value) = [.int .u64 (s.id : Int), .int .u64 (s.ev : Int), .int .u64 (s.safe : Int), .int .i64 s.role, .int .i64 s.m, .int .i64 s.c, .int .i64 s.t, .int .i64 s.ring, .bool s.lazy, .bool s.lost, .slice ao 3 ac, .int .i64 s.cur]) := lay_all _ _ rfl
  clear O C SA
  unfold Sup.val
  go_wp2_with (first
    | (with_reducible refine wpList_alloc_arr rfl 27 rfl i1 _ hj.out hy0.out ?_)
    | ((with_reducible refine wpList_store_blk rfl 27 (.tmp 1) (.tmp 6) rfl w1.heap.size 0 27 zero12 [.int .u64 (s.id : Int), .int .u64 (s.ev : Int), .int .u64 (s.safe : Int), .int .i64 s.role, .int .i64 s.m, .int .i64 s.c, .int .i64 s.t, .int .i64 s.ring, .bool s.lazy, .bool s.lost, .slice ao 3 ac, .int .i64 s.cur] rfl rfl (made_agg w1 zero12 27) LE.out SZ.out ON.out ?_); intro w2 B2 D2; rw [EL.out] at B2; have RG2 : Hid (w2.rangeAt w1.heap.size 0 [.int .u64 (s.id : Int), .int .u64 (s.ev : Int), .int .u64 (s.safe : Int), .int .i64 s.role, .int .i64 s.m, .int .i64 s.c, .int .i64 s.t, .int .i64 s.ring, .bool s.lazy, .bool s.lost, .slice ao 3 ac, .int .i64 s.cur]) := B2.out.rangeAll)
    | (with_reducible refine wpList_load_mid rfl 27 (.tmp 1) rfl w1.heap.size 0 rfl [.int .u64 (s.id : Int), .int .u64 (s.ev : Int), .int .u64 (s.safe : Int), .int .i64 s.role, .int .i64 s.m, .int .i64 s.c, .int .i64 s.t, .int .i64 s.ring, .bool s.lazy, .bool s.lost, .slice ao 3 ac, .int .i64 s.cur] _ RG2.out Try.underlying27 rfl SZ.out ?_))
  have D3 : Hid (Chg [] w1 w2) := ((Chg.refl [] w1).alloc (.cells (Value.agg zero12.toArray).cells 27)).fresh D2.out (fun j hj => .inr (by rw [List.mem_singleton.1 hj]; exact Nat.le_refl _))
  have C2 : Hid (Chg [] w w2) := C1.out.trans D3.out
  have U2 : Hid (Sl w2 (.slice ao 3 ac) s.st) := U1.out.chg D3.out (by simp)
  obtain ⟨b1, hb1⟩ : ∃ b, b = w1.heap.size := ⟨_, rfl⟩
  rw [← hb1] at B2 ⊢
  clear hb1 RG2 D2 D3 C1 U1 EL LE ON SZ
  have E2 := Lib.hid (EC.out w2 (.slice ao 3 ac) U2.out)
  unfold Sup.val at E2
  refine E2.out.mono ?_
  rintro e w3 ⟨v, rfl, OV, C⟩
  have C3 : Hid (Chg [] w w3) := C2.out.trans C.out
  have B3 := Lib.hid (B2.out.chg C.out (by simp))
  have U3 : Hid (Sl w3 (.slice ao 3 ac) s.st) := U2.out.chg C.out (by simp)
  obtain ⟨vo, vc, rfl⟩ := owns_slice OV.out
  have hcap : s.sector.length ≤ vc := owned_cap OV.out
  have V3 : Hid (Sl w3 (.slice vo s.sector.length vc) (ints s.sector)) := by
    have := Sl.owned OV.out
    exact this
  have DE := Lib.hid (DC.out w3 _ V3.out (fun a n c h => by
    obtain ⟨_, h1, h2⟩ : vo = a ∧ s.sector.length = n ∧ vc = c := by simpa using h
    omega))
  unfold Sup.val at DE
  rw [L128.out] at OV DE ⊢
  clear E2 C C2 B2 U2 V3 EC DC
  go_wp2_with fail
  refine DE.out.mono ?_
  rintro e w4 ⟨u2, rfl, OD, C⟩
  rw [h3.out] at OD
  have C4 : Hid (Chg [] w w4) := C3.out.trans C.out
  have B4 := Lib.hid (B3.out.chg C.out (by simp))
  have U4 : Hid (Sl w4 (.slice ao 3 ac) s.st) := U3.out.chg C.out (by simp)
  have OV4 := Lib.hid (owns_chg OV.out C.out (by simp))
  obtain ⟨do_, dc, rfl⟩ := owns_slice OD.out
  have P4 : Hid (Sl w4 (.slice do_ 3 dc) s.st) := Sl.owned OD.out
  have ON : Hid (∀ v ∈ ([.int .u64 (s.id : Int), .int .u64 (s.ev : Int), .int .u64 (s.safe : Int), .int .i64 s.role, .int .i64 s.m, .int .i64 s.c, .int .i64 s.t, .int .i64 s.ring, .bool s.lazy, .bool s.lost, .slice do_ 3 dc, .int .i64 s.cur] : List Value), v.oneCell' = true) := by
    have := one12u s do_ dc
    rw [h3.out] at this
    exact this
  have LE : Hid (0 + ([.int .u64 (s.id : Int), .int .u64 (s.ev : Int), .int .u64 (s.safe : Int), .int .i64 s.role, .int .i64 s.m, .int .i64 s.c, .int .i64 s.t, .int .i64 s.ring, .bool s.lazy, .bool s.lost, .slice do_ 3 dc, .int .i64 s.cur] : List Value).length ≤ zero12.length) := Nat.le_refl 12
  have SZ : Hid ((Try.prog.info? 27).map (·.size) = some ([.int .u64 (s.id : Int), .int .u64 (s.ev : Int), .int .u64 (s.safe : Int), .int .i64 s.role, .int .i64 s.m, .int .i64 s.c, .int .i64 s.t, .int .i64 s.ring, .bool s.lazy, .bool s.lost, .slice do_ 3 dc, .int .i64 s.cur] : List Value).length) := size_super
  have EL : Hid (lay zero12 0 ([.int .u64 (s.id : Int), .int .u64 (s.ev : Int), .int .u64 (s.safe : Int), .int .i64 s.role, .int .i64 s.m, .int .i64 s.c, .int .i64 s.t, .int .i64 s.ring, .bool s.lazy, .bool s.lost, .slice do_ 3 dc, .int .i64 s.cur] : List Value) = [.int .u64 (s.id : Int), .int .u64 (s.ev : Int), .int .u64 (s.safe : Int), .int .i64 s.role, .int .i64 s.m, .int .i64 s.c, .int .i64 s.t, .int .i64 s.ring, .bool s.lazy, .bool s.lost, .slice do_ 3 dc, .int .i64 s.cur]) := lay_all _ _ rfl
  clear DE C C3 B3 U3 OV OD
  go_upto_region 4 with (first
    | (with_reducible refine wpList_alloc_arr rfl 27 rfl i1 _ hj.out hy0.out ?_)
    | ((with_reducible refine wpList_store_blk rfl 27 (.tmp 4) (.tmp 15) rfl w4.heap.size 0 27 zero12 [.int .u64 (s.id : Int), .int .u64 (s.ev : Int), .int .u64 (s.safe : Int), .int .i64 s.role, .int .i64 s.m, .int .i64 s.c, .int .i64 s.t, .int .i64 s.ring, .bool s.lazy, .bool s.lost, .slice do_ 3 dc, .int .i64 s.cur] rfl rfl (made_agg w4 zero12 27) LE.out SZ.out ON.out ?_); intro w5 B5 D5; rw [EL.out] at B5))
  have D6 : Hid (Chg [] w4 w5) := ((Chg.refl [] w4).alloc (.cells (Value.agg zero12.toArray).cells 27)).fresh D5.out (fun j hj => .inr (by rw [List.mem_singleton.1 hj]; exact Nat.le_refl _))
  have C5 : Hid (Chg [] w w5) := C4.out.trans D6.out
  have A5 := Lib.hid (B4.out.chg D6.out (by simp))
  have U5 : Hid (Sl w5 (.slice ao 3 ac) s.st) := U4.out.chg D6.out (by simp)
  have P5 : Hid (Sl w5 (.slice do_ 3 dc) s.st) := P4.out.chg D6.out (by simp)
  have OV5 := Lib.hid (owns_chg OV4.out D6.out (by simp))
  obtain ⟨b4, hb4⟩ : ∃ b, b = w4.heap.size := ⟨_, rfl⟩
  rw [← hb4] at B5 ⊢
  clear hb4 D5 D6 C4 B4 U4 P4 OV4 EL LE ON SZ hj hy0
  have k0 := A5.out.cell (j := 0) rfl
  have k1 := A5.out.cell (j := 1) rfl
  have k2 := A5.out.cell (j := 2) rfl
  have k3 := A5.out.cell (j := 3) rfl
  have k4 := A5.out.cell (j := 4) rfl
  have k5 := A5.out.cell (j := 5) rfl
  have k6 := A5.out.cell (j := 6) rfl
  have k7 := A5.out.cell (j := 7) rfl
  have k8 := A5.out.cell (j := 8) rfl
  have k9 := A5.out.cell (j := 9) rfl
  have k10 := A5.out.cell (j := 10) rfl
  have k11 := A5.out.cell (j := 11) rfl
  go_wp2_with fail
  clear k0 k1 k2 k3 k4 k5 k6 k7 k8 k9 k10 k11
  have CK := Lib.hid (CH.out w5 (.slice ao 3 ac) U5.out)
  unfold Sup.val at CK
  refine CK.out.mono ?_
  rintro e w6 ⟨rfl, C⟩
  have C6 : Hid (Chg [] w w6) := C5.out.trans C.out
  have A6 := Lib.hid (A5.out.chg C.out (by simp))
  have B6 := Lib.hid (B5.out.chg C.out (by simp))
  have U6 : Hid (Sl w6 (.slice ao 3 ac) s.st) := U5.out.chg C.out (by simp)
  have P6 : Hid (Sl w6 (.slice do_ 3 dc) s.st) := P5.out.chg C.out (by simp)
  have OV6 := Lib.hid (owns_chg OV5.out C.out (by simp))
  clear CK C C5 A5 B5 U5 P5 OV5 CH
  obtain ⟨g, hg⟩ : ∃ g, vo = some ⟨g, 0, none⟩ := by
    rcases OV6.out.2 with ⟨_, h⟩ | ⟨g, cap, cur, h, _⟩
    · cases h
    · exact ⟨g, by simpa using (Value.slice.inj h).1⟩
  subst hg
  have x0 := bytes_at OV6.out y0.out
  have x33 := bytes_at OV6.out y33.out
  have x44 := bytes_at OV6.out y44.out
  have k0 := A6.out.cell (j := 0) rfl
  have k1 := A6.out.cell (j := 1) rfl
  have k2 := A6.out.cell (j := 2) rfl
  have k3 := A6.out.cell (j := 3) rfl
  have k4 := A6.out.cell (j := 4) rfl
  have k5 := A6.out.cell (j := 5) rfl
  have k6 := A6.out.cell (j := 6) rfl
  have k7 := A6.out.cell (j := 7) rfl
  have k8 := A6.out.cell (j := 8) rfl
  have k9 := A6.out.cell (j := 9) rfl
  have k10 := A6.out.cell (j := 10) rfl
  have k11 := A6.out.cell (j := 11) rfl
  have q0 := B6.out.cell (j := 0) rfl
  have q1 := B6.out.cell (j := 1) rfl
  have q2 := B6.out.cell (j := 2) rfl
  have q3 := B6.out.cell (j := 3) rfl
  have q4 := B6.out.cell (j := 4) rfl
  have q5 := B6.out.cell (j := 5) rfl
  have q6 := B6.out.cell (j := 6) rfl
  have q7 := B6.out.cell (j := 7) rfl
  have q8 := B6.out.cell (j := 8) rfl
  have q9 := B6.out.cell (j := 9) rfl
  have q10 := B6.out.cell (j := 10) rfl
  have q11 := B6.out.cell (j := 11) rfl
  go_wp2_with fail
  clear k0 k1 k2 k3 k4 k5 k6 k7 k8 k9 k10 k11 q0 q1 q2 q3 q4 q5 q6 q7 q8 q9 q10 q11
  clear x0 x33 x44
  have SK := Lib.hid (SM.out w6 (.slice ao 3 ac) (.slice do_ 3 dc) U6.out P6.out)
  unfold Sup.val at SK
  refine SK.out.mono ?_
  rintro e w7 ⟨rfl, C⟩
  have C7 : Hid (Chg [] w w7) := C6.out.trans C.out
  have A7 := Lib.hid (A6.out.chg C.out (by simp))
  have B7 := Lib.hid (B6.out.chg C.out (by simp))
  clear SK C C6 A6 B6 U6 P6 OV6 SM
  have k0 := A7.out.cell (j := 0) rfl
  have k1 := A7.out.cell (j := 1) rfl
  have k2 := A7.out.cell (j := 2) rfl
  have k3 := A7.out.cell (j := 3) rfl
  have k4 := A7.out.cell (j := 4) rfl
  have k5 := A7.out.cell (j := 5) rfl
  have k6 := A7.out.cell (j := 6) rfl
  have k7 := A7.out.cell (j := 7) rfl
  have k8 := A7.out.cell (j := 8) rfl
  have k9 := A7.out.cell (j := 9) rfl
  have k10 := A7.out.cell (j := 10) rfl
  have k11 := A7.out.cell (j := 11) rfl
  have q0 := B7.out.cell (j := 0) rfl
  have q1 := B7.out.cell (j := 1) rfl
  have q2 := B7.out.cell (j := 2) rfl
  have q3 := B7.out.cell (j := 3) rfl
  have q4 := B7.out.cell (j := 4) rfl
  have q5 := B7.out.cell (j := 5) rfl
  have q6 := B7.out.cell (j := 6) rfl
  have q7 := B7.out.cell (j := 7) rfl
  have q8 := B7.out.cell (j := 8) rfl
  have q9 := B7.out.cell (j := 9) rfl
  have q10 := B7.out.cell (j := 10) rfl
  have q11 := B7.out.cell (j := 11) rfl
  go_wp2_with fail
  clear k0 k1 k2 k3 k4 k5 k6 k7 k8 k9 k10 k11 q0 q1 q2 q3 q4 q5 q6 q7 q8 q9 q10 q11
  have AA := Lib.hid (AK.out w7 (.slice ao 3 ac) (.slice do_ 3 dc))
  unfold Sup.val at AA
  refine AA.out.mono ?_
  rintro e w8 ⟨rfl, C⟩
  have C8 : Hid (Chg [] w w8) := C7.out.trans C.out
  clear AA C C7 A7 B7 AK
  go_wp2_with fail
  go_ret
  exact ⟨rfl, C8⟩

end Go.Proofs.Ytbeejoooefgeaaa
