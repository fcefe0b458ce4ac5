/-
  The document's Encode of superblocks. By an AI agent. Printed by gen_rspenc.py.
-/
import Derived.Test.YtbeejoooefgeaaaRefSpChk
import Derived.Test.YtbeejoooefgeaaaRefSpPut
import Derived.Test.YtbeejoooefgeaaaRefCrc
import Derived.Test.YtbeejoooefgeaaaSpEnc
import Derived.Lib.AppendStr
import Derived.Deep.CutBlock
import Derived.Deep.DeepCutAuto
namespace Go.Proofs.Ytbeejoooefgeaaa
open Go.RowKit Crc

theorem four_cell (w : World) (x y z u : Value) (e : TypeId) : ∀ j v, [x, y, z, u][j]? = some v → (w.alloc (.cells #[x, y, z, u] e)).cell? ((⟨w.heap.size, 0, none⟩ : Addr).add j) = some v := by
  intro j v hj
  have := (Blk.made w [x, y, z, u] e).cell hj
  rw [Addr.add_lit, Nat.zero_add]
  exact this

def begunB : List Nat := [83, 80, 83, 66, 1, 0, 0, 0]

set_option maxRecDepth 100000 in
theorem begun_ext (w1 : World) (base : Nat) (hb : base ≤ w1.heap.size) : Ext base w1 (.slice none 0 0) begunB
    ((w1.alloc (Obj.cells (#[Value.int IntKind.u8 83, Value.int IntKind.u8 80, Value.int IntKind.u8 83, Value.int IntKind.u8 66, Value.int IntKind.u8 1, Value.int IntKind.u8 0, Value.int IntKind.u8 0, Value.int IntKind.u8 0] ++
      Builtin.zeroCells #[Value.int IntKind.u8 0] ((Question.appendCap 8 0 5).cut (w1.tape w1.drawn (Question.appendCap 8 0 5)) - 8)) 5)).drew)
    (Value.slice (some ⟨w1.heap.size, 0, none⟩) 8 ((Question.appendCap 8 0 5).cut (w1.tape w1.drawn (Question.appendCap 8 0 5)))) := by
  obtain ⟨i0, hi, hz0, hz1, hz2⟩ := info_parts info_byte
  let S : ByteArray := ⟨#[83, 80, 83, 66, 1, 0, 0, 0]⟩
  have h8 : S.size = 8 := rfl
  have h1 := run_append_nil_string (P := Try.prog) w1 32 9 32 5 i0 (.int .u8 0) Try.underlying32 Try.underlying9 hi hz0 S (by rw [h8]; decide) (by rw [h8]; decide) (by rw [h8, hz2]; decide)
  obtain ⟨v, w2, h2, own, gr, -⟩ := Lib.run_append_own_string (P := Try.prog) w1 base 32 9 32 5 i0 Try.underlying32 Try.underlying9 hi hz0 hz1 hz2 (.slice none 0 0) 0 [] (World.ownsRow_nil _ _ _ _) S (by rw [h8]; decide) (by rw [h8]; decide) hb
  have eA : S.data.map (fun b => Value.int .u8 (b.toNat : Int)) = #[Value.int IntKind.u8 83, Value.int IntKind.u8 80, Value.int IntKind.u8 83, Value.int IntKind.u8 66, Value.int IntKind.u8 1, Value.int IntKind.u8 0, Value.int IntKind.u8 0, Value.int IntKind.u8 0] := by kernel_rfl
  rw [eA, h8] at h1
  rw [h1] at h2
  have e1 : Lib.strCells S = (ints begunB).map (Value.int .u8) := by kernel_rfl
  rw [e1, List.nil_append, h8] at own
  injection h2 with hv hw
  rw [← hv, ← hw] at own
  rw [← hw] at gr
  have gc : grownCap w1 8 0 5 = (Question.appendCap 8 0 5).cut (w1.tape w1.drawn (Question.appendCap 8 0 5)) := rfl
  rw [gc] at own gr
  refine ⟨own, (Chg.refl _ w1).grown gr (fun k hk => .inl (by rw [hk]; simp)), .inr ⟨_, rfl, Nat.le_refl _⟩⟩

def lenV : Value → Nat
  | .slice _ n _ => n
  | _ => 0

/-- What the document's Encode hands out. -/
def REncs (w : World) (s : Sup) (e : Ending) (w' : World) : Prop :=
  ∃ v, e = .returned (.tuple #[v, .int .i64 s.err]) ∧ Hid (w'.ownsRow w.heap.size 5 1 v s.enc.length ((ints s.enc).map (Value.int .u8))) ∧ Hid (Chg [] w w')

set_option maxHeartbeats 16000000 in
set_option maxRecDepth 100000 in
theorem refEnc_any (s : Sup) (u : Value) (w : World) (hf : s.Fit) (hu : Sl w u s.st) (hg : s.st.length ≤ 140737488355328) :
    Calls Try.prog 11 #[s.val u] w (REncs w s) := by
  have CH := Lib.hid (fun W (c : Chg [] w W) => refCheck_any s u W (hu.chg c (by simp)) hf.st hg)
  obtain ⟨ao, cp, rfl⟩ := hu.slice
  have U := Lib.hid hu
  have HF := Lib.hid hf
  clear hu hf
  have C1 : Hid (Chg [] w (w.alloc (.cells (s.cells (.slice ao s.st.length cp)).toArray 27))) := (Chg.refl _ w).alloc _
  by_cases hok : s.Ok
  case neg =>
    have er : s.err = 70 := by unfold Sup.err; rw [if_neg hok]
    have en : s.enc = [] := by unfold Sup.enc; rw [if_neg hok]
    rw [er] at CH
    unfold REncs
    rw [er, en]
    clear hok er en
    unfold Sup.val at *
    go_enter Try.func11, Try.ntmps11
    go_wp2_with fail
    refine (CH.out _ C1.out).mono ?_
    rintro e w1 ⟨rfl, C⟩
    clear CH
    go_wp2_with fail
    go_ret2
    exact ⟨_, rfl, World.ownsRow_nil _ _ _ _, C1.out.trans C.out⟩
  have er : s.err = 0 := by unfold Sup.err; rw [if_pos hok]
  have en : s.enc = s.sector := by unfold Sup.enc; rw [if_pos hok]
  rw [er] at CH
  unfold REncs
  rw [er, en]
  clear er en
  have hl := hok.len
  obtain ⟨⟨a1, a2, a3, a4, a5, a6⟩, ⟨d1, d2, d3, d4, d5, d6, d7, d8, d9⟩, _, q1, q2, q3, q4⟩ := hok
  obtain ⟨r, hr⟩ := Int.eq_ofNat_of_zero_le d5
  obtain ⟨m, hm⟩ := Int.eq_ofNat_of_zero_le (show 0 ≤ s.m by omega)
  obtain ⟨c, hc⟩ := Int.eq_ofNat_of_zero_le (show 0 ≤ s.c by omega)
  obtain ⟨t, ht⟩ := Int.eq_ofNat_of_zero_le (show 0 ≤ s.t by omega)
  obtain ⟨g, hgg⟩ := Int.eq_ofNat_of_zero_le (show 0 ≤ s.ring by omega)
  obtain ⟨k, hk⟩ := Int.eq_ofNat_of_zero_le q2
  have br : r ≤ 16 := by omega
  have bm : m ≤ 16 := by omega
  have bc : c ≤ 16 := by omega
  have bt : t ≤ 256 := by omega
  have bg : g ≤ 2048 := by omega
  have bk : k ≤ 256 := by omega
  have fi := HF.out.id
  have fe := HF.out.ev
  have fs := HF.out.safe
  replace hr := Lib.hid hr
  replace hm := Lib.hid hm
  replace hc := Lib.hid hc
  replace ht := Lib.hid ht
  replace hgg := Lib.hid hgg
  replace hk := Lib.hid hk
  clear a1 a2 a3 a4 a5 a6 d1 d2 d3 d4 d5 d6 d7 d8 d9 q1 q2 q3 q4
  unfold Sup.val at *
  obtain ⟨i0, hi, hz0, hz1, hz2⟩ := info_parts info_byte
  have B1 : Hid (Blk (w.alloc (.cells (s.cells (.slice ao s.st.length cp)).toArray 27)) w.heap.size 27 (s.cells (.slice ao s.st.length cp))) := Blk.made w _ _
  have hsz : (w.alloc (.cells (s.cells (.slice ao s.st.length cp)).toArray 27)).heap.size = w.heap.size + 1 := by simp
  go_enter Try.func11, Try.ntmps11
  go_wp2_with fail
  refine (CH.out _ C1.out).mono ?_
  rintro e w1 ⟨rfl, C⟩
  have hb1 : w.heap.size + 1 ≤ w1.heap.size := by have := C.out.size; omega
  have C2 : Hid (Chg [] w w1) := C1.out.trans C.out
  have B2 := Lib.hid (B1.out.chg C.out (by simp))
  clear CH C C1 B1 hsz
  have hu9 := Try.underlying9
  obtain ⟨base, hbase⟩ : ∃ b, b = w.heap.size + 1 := ⟨_, rfl⟩
  rw [← hbase] at hb1
  replace hbase := Lib.hid hbase
  have L8 : Hid (∀ S : ByteArray, S.size = 8 → 0 + S.size ≤ maxLen ∧ 0 + S.size ≤ 140737488355328) := fun S h => by unfold maxLen; omega
  have c0 := B2.out.cell (j := 0) rfl
  go_upto_region 6 with fail
  have X0 := begun_ext w1 base hb1
  refine wp_named (fun W hW => ?_)
  rw [← hW] at X0
  have E := Lib.hid X0
  clear hW X0 c0 L8
  have c0 := (B2.out.chg (show Chg [] w1 W from E.out.chg) (by simp)).cell (j := 0) rfl
  go_wp2_with fail
  have hzW : base ≤ W.heap.size := Nat.le_trans hb1 E.out.chg.size
  refine (refPut_any base _ _ s.id 8 W hzW E.out.own (by decide) (by omega) (by simp [low_length, begunB])).mono ?_
  rintro e W1 ⟨v1, rfl, X⟩
  replace E := Lib.hid (E.out.trans X.out)
  clear X hzW
  clear c0
  have c1 := (B2.out.chg (show Chg [] w1 W1 from E.out.chg) (by simp)).cell (j := 1) rfl
  go_wp2_with fail
  have hzW1 : base ≤ W1.heap.size := Nat.le_trans hb1 E.out.chg.size
  refine (refPut_any base _ _ s.ev 8 W1 hzW1 E.out.own (by decide) (by omega) (by simp [low_length, begunB])).mono ?_
  rintro e W2 ⟨v2, rfl, X⟩
  replace E := Lib.hid (E.out.trans X.out)
  clear X hzW1
  clear c1
  have c2 := (B2.out.chg (show Chg [] w1 W2 from E.out.chg) (by simp)).cell (j := 2) rfl
  go_wp2_with fail
  have hzW2 : base ≤ W2.heap.size := Nat.le_trans hb1 E.out.chg.size
  refine (refPut_any base _ _ s.safe 8 W2 hzW2 E.out.own (by decide) (by omega) (by simp [low_length, begunB])).mono ?_
  rintro e W3 ⟨v3, rfl, X⟩
  replace E := Lib.hid (E.out.trans X.out)
  clear X hzW2
  clear c2
  have c8 := (B2.out.chg (show Chg [] w1 W3 from E.out.chg) (by simp)).cell (j := 8) rfl
  have c9 := (B2.out.chg (show Chg [] w1 W3 from E.out.chg) (by simp)).cell (j := 9) rfl
  have c3 := (B2.out.chg (show Chg [] w1 W3 from E.out.chg) (by simp)).cell (j := 3) rfl
  rw [hr.out] at c3
  have c4 := (B2.out.chg (show Chg [] w1 W3 from E.out.chg) (by simp)).cell (j := 4) rfl
  rw [hm.out] at c4
  have c5 := (B2.out.chg (show Chg [] w1 W3 from E.out.chg) (by simp)).cell (j := 5) rfl
  rw [hc.out] at c5
  have hz3 : base ≤ W3.heap.size := Nat.le_trans hb1 E.out.chg.size
  rcases hlz : s.lazy with _ | _ <;> rcases hls : s.lost with _ | _
  all_goals rw [hlz] at c8
  all_goals rw [hls] at c9
  case false.false =>
    have FL : s.flags = 0 := by simp [Sup.flags, hlz, hls]
    replace hlz := Lib.hid hlz
    replace hls := Lib.hid hls
    have L1 : Hid ((begunB ++ low 8 s.id ++ low 8 s.ev ++ low 8 s.safe).length + 4 ≤ maxLen) := by show _ ≤ _; simp [low_length, begunB]; decide
    have L2 : Hid (((begunB ++ low 8 s.id ++ low 8 s.ev ++ low 8 s.safe).length + 4) * 1 ≤ 140737488355328) := by show _ ≤ _; simp [low_length, begunB]
    have OA : Hid ((W3.alloc (.cells #[.int .u8 (r : Int), .int .u8 (m : Int), .int .u8 (c : Int), .int .u8 0] 5)).ownsRow base 5 1 v3 _ _) := owns_chg E.out.own ((Chg.refl [] W3).alloc _) (by simp)
    have hbw : base ≤ (W3.alloc (.cells #[.int .u8 (r : Int), .int .u8 (m : Int), .int .u8 (c : Int), .int .u8 0] 5)).heap.size := by simp; omega
    go_upto_region 15 with (at_builtin; refine wpList_append_three _ rfl _ _ 32 rfl base 5 i0 (.int .u8 0) 1 1 Try.underlying32 hi hz0 hz1 hz2 rfl (by decide) _ _ _ rfl OA.out ⟨W3.heap.size, 0, none⟩ 4 4 [.int .u8 (r : Int), .int .u8 (m : Int), .int .u8 (c : Int), .int .u8 0] rfl rfl (four_cell _ _ _ _ _ _) (by intro x hx; simp only [List.mem_cons, List.not_mem_nil, or_false] at hx; rcases hx with rfl | rfl | rfl | rfl <;> rfl) L1.out L2.out hbw ?_; intro v4 W4 own hg hb2)
    replace E := Lib.hid (E.out.trans (Ext.app (zs := [r, m, c, 0]) _ rfl own.out hg.out hb2.out))
    clear c8 c9 c3 c4 c5 OA hbw L1 L2 own hg hb2 hz3
    have c6 := (B2.out.chg (show Chg [] w1 W4 from E.out.chg) (by simp)).cell (j := 6) rfl
    rw [ht.out] at c6
    go_wp2_with fail
    have hzW4 : base ≤ W4.heap.size := Nat.le_trans hb1 E.out.chg.size
    refine (refPut_any base _ _ t 2 W4 hzW4 E.out.own (by decide) (by omega) (by simp [low_length, begunB])).mono ?_
    rintro e W5 ⟨v5, rfl, X⟩
    replace E := Lib.hid (E.out.trans X.out)
    clear X hzW4
    clear c6
    have c7 := (B2.out.chg (show Chg [] w1 W5 from E.out.chg) (by simp)).cell (j := 7) rfl
    rw [hgg.out] at c7
    go_wp2_with fail
    have hzW5 : base ≤ W5.heap.size := Nat.le_trans hb1 E.out.chg.size
    refine (refPut_any base _ _ g 2 W5 hzW5 E.out.own (by decide) (by omega) (by simp [low_length, begunB])).mono ?_
    rintro e W6 ⟨v6, rfl, X⟩
    replace E := Lib.hid (E.out.trans X.out)
    clear X hzW5
    clear c7
    have c11 := (B2.out.chg (show Chg [] w1 W6 from E.out.chg) (by simp)).cell (j := 11) rfl
    rw [hk.out] at c11
    go_wp2_with fail
    have hzW6 : base ≤ W6.heap.size := Nat.le_trans hb1 E.out.chg.size
    refine (refPut_any base _ _ k 4 W6 hzW6 E.out.own (by decide) (by omega) (by simp [low_length, begunB])).mono ?_
    rintro e W7 ⟨v7, rfl, X⟩
    replace E := Lib.hid (E.out.trans X.out)
    clear X hzW6
    clear c11
    have HH : Hid (begunB ++ low 8 s.id ++ low 8 s.ev ++ low 8 s.safe ++ [r, m, c, 0] ++ low 2 t ++ low 2 g ++ low 4 k = s.head) := by
      show _ = _
      unfold Sup.head
      rw [hr.out, hm.out, hc.out, ht.out, hgg.out, hk.out, FL]
      simp only [Int.toNat_natCast]
      rw [Nat.mod_eq_of_lt (show r < 256 by omega), Nat.mod_eq_of_lt (show m < 256 by omega), Nat.mod_eq_of_lt (show c < 256 by omega)]
      rfl
    have E7 : Hid (Ext base w1 (.slice none 0 0) (s.head ++ nats (s.st.take 0)) W7 v7) := by
      have h7 := E.out
      rw [HH.out] at h7
      show Ext _ _ _ _ _ _
      simpa [nats] using h7
    clear E HH
    go_wp2_with fail
    go_loopw [5, 7] (fun b i wr => ∃ (q : Nat) (u : Value), q ≤ s.st.length ∧ b = u ∧ i = .int .i64 q ∧ Hid (Ext base w1 (.slice none 0 0) (s.head ++ nats (s.st.take q)) wr u)) (fun _ i _ => s.st.length - (intOf i).toNat)
    case atStart => exact ⟨0, v7, Nat.zero_le _, rfl, rfl, E7⟩
    case round =>
      obtain ⟨q, u, hq, rfl, rfl, E⟩ := hrel
      clear E7
      have c10 := (B2.out.chg (show Chg [] w1 wr from E.out.chg) (by simp)).cell (j := 10) rfl
      by_cases hlt : q < s.st.length
      · have hq0 : (0 : Int) ≤ q := Int.natCast_nonneg _
        have hq1 : (q : Int) < s.st.length := by omega
        have SU := U.out.chg (C2.out.trans (show Chg [] w1 wr from E.out.chg)) (by simp)
        have L : ∃ gb o, ao = some ⟨gb, o, none⟩ ∧ wr.cell? ⟨gb, o + q, none⟩ = some (.int .u8 (s.st.getD q 0)) := by
          rcases SU with ⟨h0, _⟩ | ⟨gb, o, c', hv, hb, hc⟩
          · rw [h0] at hlt; simp at hlt
          · obtain ⟨rfl, rfl⟩ : ao = some ⟨gb, o, none⟩ ∧ cp = c' := by simpa using hv
            exact ⟨gb, o, rfl, hc q hlt⟩
        obtain ⟨gb, o, rfl, hcell⟩ := L
        have hxm : s.st.getD q 0 ∈ s.st := by rw [show s.st.getD q 0 = s.st[q] from by simp [List.getD, List.getElem?_eq_getElem hlt]]; exact List.getElem_mem hlt
        have hxb := HF.out.st _ hxm
        obtain ⟨x, hx⟩ := Int.eq_ofNat_of_zero_le hxb.1
        rw [hx] at hcell hxb
        have hxx : s.st[q]? = some (x : Int) := by rw [← hx]; simp [List.getD, List.getElem?_eq_getElem hlt]
        have NS : Hid (nats (s.st.take (q + 1)) = nats (s.st.take q) ++ [x]) := by
          show _ = _
          rw [take_snoc hxx]
          simp [nats]
        have hz := Nat.le_trans hb1 E.out.chg.size
        have hbw : base ≤ (wr.alloc (.cells #[.int .u8 (x : Int)] 5)).heap.size := by simp; omega
        have OA : Hid ((wr.alloc (.cells #[.int .u8 (x : Int)] 5)).ownsRow base 5 1 u5 _ _) := owns_chg E.out.own ((Chg.refl [] wr).alloc _) (by simp)
        have hlen : (s.head ++ nats (s.st.take q)).length = 44 + q := by rw [List.length_append, Sup.head_length, nats_length, List.length_take]; omega
        have L1 : Hid ((s.head ++ nats (s.st.take q)).length + 1 ≤ maxLen) := by show _ ≤ _; unfold maxLen; omega
        have L2 : Hid (((s.head ++ nats (s.st.take q)).length + 1) * 1 ≤ 140737488355328) := by show _ ≤ _; omega
        clear hxm hx hxx SU hlen hz
        go_wp2_with (at_builtin; refine wpList_append_three _ rfl _ _ 32 rfl base 5 i0 (.int .u8 0) 1 1 Try.underlying32 hi hz0 hz1 hz2 rfl (by decide) _ _ _ rfl OA.out ⟨wr.heap.size, 0, none⟩ 1 1 [.int .u8 (x : Int)] rfl rfl (one_cell _ _ _) (by intro y hy; rw [List.mem_singleton.1 hy]; rfl) L1.out L2.out hbw ?_; intro v8 w8 own hg hb2)
        refine ⟨⟨q + 1, v8, by omega, rfl, by go_num, ?_⟩, by simp [intOf]; omega⟩
        show Ext _ _ _ _ _ _
        rw [NS.out, ← List.append_assoc]
        exact E.out.trans (Ext.app (.cells #[.int .u8 (x : Int)] 5) rfl own.out hg.out hb2.out)
      · obtain rfl : q = s.st.length := by omega
        go_wp2_with fail
        have E8 : Hid (Ext base w1 (.slice none 0 0) (s.head ++ nats s.st ++ List.replicate 0 0) wr u5) := by
          have h7 := E.out
          rw [List.take_length] at h7
          show Ext _ _ _ _ _ _
          rw [List.replicate_zero, List.append_nil]
          exact h7
        clear E c10
        have hL8 : ∀ z, (s.head ++ nats s.st ++ List.replicate z 0).length = 44 + s.st.length + z := fun z => by rw [List.length_append, List.length_append, Sup.head_length, nats_length, List.length_replicate]
        replace hL8 := Lib.hid hL8
        obtain ⟨a8, c8, rfl⟩ := owns_slice E8.out.own
        have hs8 := hL8.out 0
        go_loopw [5] (fun b wr => ∃ (z n : Nat) (a9 : Option Addr) (c9 : Nat), n = 44 + s.st.length + z ∧ n ≤ 124 ∧ b = .slice a9 n c9 ∧ Hid (Ext base w1 (.slice none 0 0) (s.head ++ nats s.st ++ List.replicate z 0) wr (.slice a9 n c9))) (fun b _ => 124 - lenV b)
        case atStart => exact ⟨0, _, a8, c8, hs8, by omega, rfl, E8⟩
        case round =>
          obtain ⟨z, n, a9, c9, hn, hn2, rfl, E⟩ := hrel
          clear E8 hs8
          have hn0 : (0 : Int) ≤ n := Int.natCast_nonneg _
          by_cases hl2 : n < 124
          · have hz := Nat.le_trans hb1 E.out.chg.size
            have hbw : base ≤ (wr.alloc (.cells #[.int .u8 0] 5)).heap.size := by simp; omega
            have OA : Hid ((wr.alloc (.cells #[.int .u8 0] 5)).ownsRow base 5 1 (.slice a9 n c9) _ _) := owns_chg E.out.own ((Chg.refl [] wr).alloc _) (by simp)
            have hlen := hL8.out z
            have L1 : Hid ((s.head ++ nats s.st ++ List.replicate z 0).length + 1 ≤ maxLen) := by show _ ≤ _; unfold maxLen; omega
            have L2 : Hid (((s.head ++ nats s.st ++ List.replicate z 0).length + 1) * 1 ≤ 140737488355328) := by show _ ≤ _; omega
            clear hz
            replace hlen := Lib.hid hlen
            replace hn := Lib.hid hn
            have hl3 : (n : Int) < 124 := by omega
            go_wp2_with (at_builtin; refine wpList_append_three _ rfl _ _ 32 rfl base 5 i0 (.int .u8 0) 1 1 Try.underlying32 hi hz0 hz1 hz2 rfl (by decide) _ _ _ rfl OA.out ⟨wr.heap.size, 0, none⟩ 1 1 [.int .u8 0] rfl rfl (one_cell _ _ _) (by intro y hy; rw [List.mem_singleton.1 hy]; rfl) L1.out L2.out hbw ?_; intro v8 w8 own hg hb2)
            obtain ⟨a10, c10, rfl⟩ := owns_slice own.out
            have hlen2 := hlen.out
            have hn3 := hn.out
            refine ⟨⟨z + 1, _, a10, c10, by omega, by omega, rfl, ?_⟩, by simp only [lenV]; omega⟩
            show Ext _ _ _ _ _ _
            rw [List.replicate_succ', ← List.append_assoc]
            exact E.out.trans (Ext.app (zs := [0]) (.cells #[.int .u8 0] 5) rfl own.out hg.out hb2.out)
          · have hz8 : z = 80 - s.st.length := by omega
            have h124 : n = 124 := by omega
            subst h124
            have E9 : Hid (Ext base w1 (.slice none 0 0) s.body wr (.slice a9 124 c9)) := by
              have h7 := E.out
              rw [hz8] at h7
              exact h7
            clear E hn hn2 hl2 hz8 hn0 hL8
            have SM := Lib.hid (refSum_any (.slice a9 124 c9) (ints s.body) wr (Sl.owned E9.out.own) (ints_by (Sup.body_bs HF.out)) (by rw [ints_length, Sup.body_length (by omega)]; decide))
            rw [nats_ints] at SM
            have hsm : sum s.body < 4294967296 := more_lt (by decide) (Sup.body_bs HF.out)
            have hse : s.sector = s.body ++ low 4 (sum s.body) := rfl
            have hbl : s.body.length = 124 := Sup.body_length (by omega)
            replace hse := Lib.hid hse
            replace hbl := Lib.hid hbl
            obtain ⟨sm, hsme⟩ : ∃ x, x = sum s.body := ⟨_, rfl⟩
            rw [← hsme] at SM hsm hse
            replace hsme := Lib.hid hsme
            have hs0 : (0 : Int) ≤ sm := Int.natCast_nonneg _
            have hs1 : (sm : Int) < 4294967296 := by omega
            go_wp2_with fail
            refine SM.out.mono ?_
            rintro e w8 ⟨rfl, rfl⟩
            clear SM
            go_wp2_with fail
            have hzr : base ≤ wr.heap.size := Nat.le_trans hb1 E9.out.chg.size
            refine (refPut_any base _ _ sm 4 wr hzr E9.out.own (by decide) (by omega) (by rw [hbl.out]; decide)).mono ?_
            rintro e w9 ⟨v9, rfl, X⟩
            have Z := Lib.hid (E9.out.trans X.out)
            clear X E9
            go_wp2_with fail
            go_ret2
            refine ⟨v9, rfl, ?_, C2.out.trans (show Chg [] w1 w9 from Z.out.chg)⟩
            show World.ownsRow _ _ _ _ _ _ _
            rw [hse.out]
            exact ownsRow_base Z.out.own (by rw [hbase.out]; exact Nat.le_succ _)
  case false.true =>
    have FL : s.flags = 2 := by simp [Sup.flags, hlz, hls]
    replace hlz := Lib.hid hlz
    replace hls := Lib.hid hls
    have L1 : Hid ((begunB ++ low 8 s.id ++ low 8 s.ev ++ low 8 s.safe).length + 4 ≤ maxLen) := by show _ ≤ _; simp [low_length, begunB]; decide
    have L2 : Hid (((begunB ++ low 8 s.id ++ low 8 s.ev ++ low 8 s.safe).length + 4) * 1 ≤ 140737488355328) := by show _ ≤ _; simp [low_length, begunB]
    have OA : Hid ((W3.alloc (.cells #[.int .u8 (r : Int), .int .u8 (m : Int), .int .u8 (c : Int), .int .u8 2] 5)).ownsRow base 5 1 v3 _ _) := owns_chg E.out.own ((Chg.refl [] W3).alloc _) (by simp)
    have hbw : base ≤ (W3.alloc (.cells #[.int .u8 (r : Int), .int .u8 (m : Int), .int .u8 (c : Int), .int .u8 2] 5)).heap.size := by simp; omega
    go_upto_region 15 with (at_builtin; refine wpList_append_three _ rfl _ _ 32 rfl base 5 i0 (.int .u8 0) 1 1 Try.underlying32 hi hz0 hz1 hz2 rfl (by decide) _ _ _ rfl OA.out ⟨W3.heap.size, 0, none⟩ 4 4 [.int .u8 (r : Int), .int .u8 (m : Int), .int .u8 (c : Int), .int .u8 2] rfl rfl (four_cell _ _ _ _ _ _) (by intro x hx; simp only [List.mem_cons, List.not_mem_nil, or_false] at hx; rcases hx with rfl | rfl | rfl | rfl <;> rfl) L1.out L2.out hbw ?_; intro v4 W4 own hg hb2)
    replace E := Lib.hid (E.out.trans (Ext.app (zs := [r, m, c, 2]) _ rfl own.out hg.out hb2.out))
    clear c8 c9 c3 c4 c5 OA hbw L1 L2 own hg hb2 hz3
    have c6 := (B2.out.chg (show Chg [] w1 W4 from E.out.chg) (by simp)).cell (j := 6) rfl
    rw [ht.out] at c6
    go_wp2_with fail
    have hzW4 : base ≤ W4.heap.size := Nat.le_trans hb1 E.out.chg.size
    refine (refPut_any base _ _ t 2 W4 hzW4 E.out.own (by decide) (by omega) (by simp [low_length, begunB])).mono ?_
    rintro e W5 ⟨v5, rfl, X⟩
    replace E := Lib.hid (E.out.trans X.out)
    clear X hzW4
    clear c6
    have c7 := (B2.out.chg (show Chg [] w1 W5 from E.out.chg) (by simp)).cell (j := 7) rfl
    rw [hgg.out] at c7
    go_wp2_with fail
    have hzW5 : base ≤ W5.heap.size := Nat.le_trans hb1 E.out.chg.size
    refine (refPut_any base _ _ g 2 W5 hzW5 E.out.own (by decide) (by omega) (by simp [low_length, begunB])).mono ?_
    rintro e W6 ⟨v6, rfl, X⟩
    replace E := Lib.hid (E.out.trans X.out)
    clear X hzW5
    clear c7
    have c11 := (B2.out.chg (show Chg [] w1 W6 from E.out.chg) (by simp)).cell (j := 11) rfl
    rw [hk.out] at c11
    go_wp2_with fail
    have hzW6 : base ≤ W6.heap.size := Nat.le_trans hb1 E.out.chg.size
    refine (refPut_any base _ _ k 4 W6 hzW6 E.out.own (by decide) (by omega) (by simp [low_length, begunB])).mono ?_
    rintro e W7 ⟨v7, rfl, X⟩
    replace E := Lib.hid (E.out.trans X.out)
    clear X hzW6
    clear c11
    have HH : Hid (begunB ++ low 8 s.id ++ low 8 s.ev ++ low 8 s.safe ++ [r, m, c, 2] ++ low 2 t ++ low 2 g ++ low 4 k = s.head) := by
      show _ = _
      unfold Sup.head
      rw [hr.out, hm.out, hc.out, ht.out, hgg.out, hk.out, FL]
      simp only [Int.toNat_natCast]
      rw [Nat.mod_eq_of_lt (show r < 256 by omega), Nat.mod_eq_of_lt (show m < 256 by omega), Nat.mod_eq_of_lt (show c < 256 by omega)]
      rfl
    have E7 : Hid (Ext base w1 (.slice none 0 0) (s.head ++ nats (s.st.take 0)) W7 v7) := by
      have h7 := E.out
      rw [HH.out] at h7
      show Ext _ _ _ _ _ _
      simpa [nats] using h7
    clear E HH
    go_wp2_with fail
    go_loopw [5, 7] (fun b i wr => ∃ (q : Nat) (u : Value), q ≤ s.st.length ∧ b = u ∧ i = .int .i64 q ∧ Hid (Ext base w1 (.slice none 0 0) (s.head ++ nats (s.st.take q)) wr u)) (fun _ i _ => s.st.length - (intOf i).toNat)
    case atStart => exact ⟨0, v7, Nat.zero_le _, rfl, rfl, E7⟩
    case round =>
      obtain ⟨q, u, hq, rfl, rfl, E⟩ := hrel
      clear E7
      have c10 := (B2.out.chg (show Chg [] w1 wr from E.out.chg) (by simp)).cell (j := 10) rfl
      by_cases hlt : q < s.st.length
      · have hq0 : (0 : Int) ≤ q := Int.natCast_nonneg _
        have hq1 : (q : Int) < s.st.length := by omega
        have SU := U.out.chg (C2.out.trans (show Chg [] w1 wr from E.out.chg)) (by simp)
        have L : ∃ gb o, ao = some ⟨gb, o, none⟩ ∧ wr.cell? ⟨gb, o + q, none⟩ = some (.int .u8 (s.st.getD q 0)) := by
          rcases SU with ⟨h0, _⟩ | ⟨gb, o, c', hv, hb, hc⟩
          · rw [h0] at hlt; simp at hlt
          · obtain ⟨rfl, rfl⟩ : ao = some ⟨gb, o, none⟩ ∧ cp = c' := by simpa using hv
            exact ⟨gb, o, rfl, hc q hlt⟩
        obtain ⟨gb, o, rfl, hcell⟩ := L
        have hxm : s.st.getD q 0 ∈ s.st := by rw [show s.st.getD q 0 = s.st[q] from by simp [List.getD, List.getElem?_eq_getElem hlt]]; exact List.getElem_mem hlt
        have hxb := HF.out.st _ hxm
        obtain ⟨x, hx⟩ := Int.eq_ofNat_of_zero_le hxb.1
        rw [hx] at hcell hxb
        have hxx : s.st[q]? = some (x : Int) := by rw [← hx]; simp [List.getD, List.getElem?_eq_getElem hlt]
        have NS : Hid (nats (s.st.take (q + 1)) = nats (s.st.take q) ++ [x]) := by
          show _ = _
          rw [take_snoc hxx]
          simp [nats]
        have hz := Nat.le_trans hb1 E.out.chg.size
        have hbw : base ≤ (wr.alloc (.cells #[.int .u8 (x : Int)] 5)).heap.size := by simp; omega
        have OA : Hid ((wr.alloc (.cells #[.int .u8 (x : Int)] 5)).ownsRow base 5 1 u5 _ _) := owns_chg E.out.own ((Chg.refl [] wr).alloc _) (by simp)
        have hlen : (s.head ++ nats (s.st.take q)).length = 44 + q := by rw [List.length_append, Sup.head_length, nats_length, List.length_take]; omega
        have L1 : Hid ((s.head ++ nats (s.st.take q)).length + 1 ≤ maxLen) := by show _ ≤ _; unfold maxLen; omega
        have L2 : Hid (((s.head ++ nats (s.st.take q)).length + 1) * 1 ≤ 140737488355328) := by show _ ≤ _; omega
        clear hxm hx hxx SU hlen hz
        go_wp2_with (at_builtin; refine wpList_append_three _ rfl _ _ 32 rfl base 5 i0 (.int .u8 0) 1 1 Try.underlying32 hi hz0 hz1 hz2 rfl (by decide) _ _ _ rfl OA.out ⟨wr.heap.size, 0, none⟩ 1 1 [.int .u8 (x : Int)] rfl rfl (one_cell _ _ _) (by intro y hy; rw [List.mem_singleton.1 hy]; rfl) L1.out L2.out hbw ?_; intro v8 w8 own hg hb2)
        refine ⟨⟨q + 1, v8, by omega, rfl, by go_num, ?_⟩, by simp [intOf]; omega⟩
        show Ext _ _ _ _ _ _
        rw [NS.out, ← List.append_assoc]
        exact E.out.trans (Ext.app (.cells #[.int .u8 (x : Int)] 5) rfl own.out hg.out hb2.out)
      · obtain rfl : q = s.st.length := by omega
        go_wp2_with fail
        have E8 : Hid (Ext base w1 (.slice none 0 0) (s.head ++ nats s.st ++ List.replicate 0 0) wr u5) := by
          have h7 := E.out
          rw [List.take_length] at h7
          show Ext _ _ _ _ _ _
          rw [List.replicate_zero, List.append_nil]
          exact h7
        clear E c10
        have hL8 : ∀ z, (s.head ++ nats s.st ++ List.replicate z 0).length = 44 + s.st.length + z := fun z => by rw [List.length_append, List.length_append, Sup.head_length, nats_length, List.length_replicate]
        replace hL8 := Lib.hid hL8
        obtain ⟨a8, c8, rfl⟩ := owns_slice E8.out.own
        have hs8 := hL8.out 0
        go_loopw [5] (fun b wr => ∃ (z n : Nat) (a9 : Option Addr) (c9 : Nat), n = 44 + s.st.length + z ∧ n ≤ 124 ∧ b = .slice a9 n c9 ∧ Hid (Ext base w1 (.slice none 0 0) (s.head ++ nats s.st ++ List.replicate z 0) wr (.slice a9 n c9))) (fun b _ => 124 - lenV b)
        case atStart => exact ⟨0, _, a8, c8, hs8, by omega, rfl, E8⟩
        case round =>
          obtain ⟨z, n, a9, c9, hn, hn2, rfl, E⟩ := hrel
          clear E8 hs8
          have hn0 : (0 : Int) ≤ n := Int.natCast_nonneg _
          by_cases hl2 : n < 124
          · have hz := Nat.le_trans hb1 E.out.chg.size
            have hbw : base ≤ (wr.alloc (.cells #[.int .u8 0] 5)).heap.size := by simp; omega
            have OA : Hid ((wr.alloc (.cells #[.int .u8 0] 5)).ownsRow base 5 1 (.slice a9 n c9) _ _) := owns_chg E.out.own ((Chg.refl [] wr).alloc _) (by simp)
            have hlen := hL8.out z
            have L1 : Hid ((s.head ++ nats s.st ++ List.replicate z 0).length + 1 ≤ maxLen) := by show _ ≤ _; unfold maxLen; omega
            have L2 : Hid (((s.head ++ nats s.st ++ List.replicate z 0).length + 1) * 1 ≤ 140737488355328) := by show _ ≤ _; omega
            clear hz
            replace hlen := Lib.hid hlen
            replace hn := Lib.hid hn
            have hl3 : (n : Int) < 124 := by omega
            go_wp2_with (at_builtin; refine wpList_append_three _ rfl _ _ 32 rfl base 5 i0 (.int .u8 0) 1 1 Try.underlying32 hi hz0 hz1 hz2 rfl (by decide) _ _ _ rfl OA.out ⟨wr.heap.size, 0, none⟩ 1 1 [.int .u8 0] rfl rfl (one_cell _ _ _) (by intro y hy; rw [List.mem_singleton.1 hy]; rfl) L1.out L2.out hbw ?_; intro v8 w8 own hg hb2)
            obtain ⟨a10, c10, rfl⟩ := owns_slice own.out
            have hlen2 := hlen.out
            have hn3 := hn.out
            refine ⟨⟨z + 1, _, a10, c10, by omega, by omega, rfl, ?_⟩, by simp only [lenV]; omega⟩
            show Ext _ _ _ _ _ _
            rw [List.replicate_succ', ← List.append_assoc]
            exact E.out.trans (Ext.app (zs := [0]) (.cells #[.int .u8 0] 5) rfl own.out hg.out hb2.out)
          · have hz8 : z = 80 - s.st.length := by omega
            have h124 : n = 124 := by omega
            subst h124
            have E9 : Hid (Ext base w1 (.slice none 0 0) s.body wr (.slice a9 124 c9)) := by
              have h7 := E.out
              rw [hz8] at h7
              exact h7
            clear E hn hn2 hl2 hz8 hn0 hL8
            have SM := Lib.hid (refSum_any (.slice a9 124 c9) (ints s.body) wr (Sl.owned E9.out.own) (ints_by (Sup.body_bs HF.out)) (by rw [ints_length, Sup.body_length (by omega)]; decide))
            rw [nats_ints] at SM
            have hsm : sum s.body < 4294967296 := more_lt (by decide) (Sup.body_bs HF.out)
            have hse : s.sector = s.body ++ low 4 (sum s.body) := rfl
            have hbl : s.body.length = 124 := Sup.body_length (by omega)
            replace hse := Lib.hid hse
            replace hbl := Lib.hid hbl
            obtain ⟨sm, hsme⟩ : ∃ x, x = sum s.body := ⟨_, rfl⟩
            rw [← hsme] at SM hsm hse
            replace hsme := Lib.hid hsme
            have hs0 : (0 : Int) ≤ sm := Int.natCast_nonneg _
            have hs1 : (sm : Int) < 4294967296 := by omega
            go_wp2_with fail
            refine SM.out.mono ?_
            rintro e w8 ⟨rfl, rfl⟩
            clear SM
            go_wp2_with fail
            have hzr : base ≤ wr.heap.size := Nat.le_trans hb1 E9.out.chg.size
            refine (refPut_any base _ _ sm 4 wr hzr E9.out.own (by decide) (by omega) (by rw [hbl.out]; decide)).mono ?_
            rintro e w9 ⟨v9, rfl, X⟩
            have Z := Lib.hid (E9.out.trans X.out)
            clear X E9
            go_wp2_with fail
            go_ret2
            refine ⟨v9, rfl, ?_, C2.out.trans (show Chg [] w1 w9 from Z.out.chg)⟩
            show World.ownsRow _ _ _ _ _ _ _
            rw [hse.out]
            exact ownsRow_base Z.out.own (by rw [hbase.out]; exact Nat.le_succ _)
  case true.false =>
    have FL : s.flags = 1 := by simp [Sup.flags, hlz, hls]
    replace hlz := Lib.hid hlz
    replace hls := Lib.hid hls
    have L1 : Hid ((begunB ++ low 8 s.id ++ low 8 s.ev ++ low 8 s.safe).length + 4 ≤ maxLen) := by show _ ≤ _; simp [low_length, begunB]; decide
    have L2 : Hid (((begunB ++ low 8 s.id ++ low 8 s.ev ++ low 8 s.safe).length + 4) * 1 ≤ 140737488355328) := by show _ ≤ _; simp [low_length, begunB]
    have OA : Hid ((W3.alloc (.cells #[.int .u8 (r : Int), .int .u8 (m : Int), .int .u8 (c : Int), .int .u8 1] 5)).ownsRow base 5 1 v3 _ _) := owns_chg E.out.own ((Chg.refl [] W3).alloc _) (by simp)
    have hbw : base ≤ (W3.alloc (.cells #[.int .u8 (r : Int), .int .u8 (m : Int), .int .u8 (c : Int), .int .u8 1] 5)).heap.size := by simp; omega
    go_upto_region 15 with (at_builtin; refine wpList_append_three _ rfl _ _ 32 rfl base 5 i0 (.int .u8 0) 1 1 Try.underlying32 hi hz0 hz1 hz2 rfl (by decide) _ _ _ rfl OA.out ⟨W3.heap.size, 0, none⟩ 4 4 [.int .u8 (r : Int), .int .u8 (m : Int), .int .u8 (c : Int), .int .u8 1] rfl rfl (four_cell _ _ _ _ _ _) (by intro x hx; simp only [List.mem_cons, List.not_mem_nil, or_false] at hx; rcases hx with rfl | rfl | rfl | rfl <;> rfl) L1.out L2.out hbw ?_; intro v4 W4 own hg hb2)
    replace E := Lib.hid (E.out.trans (Ext.app (zs := [r, m, c, 1]) _ rfl own.out hg.out hb2.out))
    clear c8 c9 c3 c4 c5 OA hbw L1 L2 own hg hb2 hz3
    have c6 := (B2.out.chg (show Chg [] w1 W4 from E.out.chg) (by simp)).cell (j := 6) rfl
    rw [ht.out] at c6
    go_wp2_with fail
    have hzW4 : base ≤ W4.heap.size := Nat.le_trans hb1 E.out.chg.size
    refine (refPut_any base _ _ t 2 W4 hzW4 E.out.own (by decide) (by omega) (by simp [low_length, begunB])).mono ?_
    rintro e W5 ⟨v5, rfl, X⟩
    replace E := Lib.hid (E.out.trans X.out)
    clear X hzW4
    clear c6
    have c7 := (B2.out.chg (show Chg [] w1 W5 from E.out.chg) (by simp)).cell (j := 7) rfl
    rw [hgg.out] at c7
    go_wp2_with fail
    have hzW5 : base ≤ W5.heap.size := Nat.le_trans hb1 E.out.chg.size
    refine (refPut_any base _ _ g 2 W5 hzW5 E.out.own (by decide) (by omega) (by simp [low_length, begunB])).mono ?_
    rintro e W6 ⟨v6, rfl, X⟩
    replace E := Lib.hid (E.out.trans X.out)
    clear X hzW5
    clear c7
    have c11 := (B2.out.chg (show Chg [] w1 W6 from E.out.chg) (by simp)).cell (j := 11) rfl
    rw [hk.out] at c11
    go_wp2_with fail
    have hzW6 : base ≤ W6.heap.size := Nat.le_trans hb1 E.out.chg.size
    refine (refPut_any base _ _ k 4 W6 hzW6 E.out.own (by decide) (by omega) (by simp [low_length, begunB])).mono ?_
    rintro e W7 ⟨v7, rfl, X⟩
    replace E := Lib.hid (E.out.trans X.out)
    clear X hzW6
    clear c11
    have HH : Hid (begunB ++ low 8 s.id ++ low 8 s.ev ++ low 8 s.safe ++ [r, m, c, 1] ++ low 2 t ++ low 2 g ++ low 4 k = s.head) := by
      show _ = _
      unfold Sup.head
      rw [hr.out, hm.out, hc.out, ht.out, hgg.out, hk.out, FL]
      simp only [Int.toNat_natCast]
      rw [Nat.mod_eq_of_lt (show r < 256 by omega), Nat.mod_eq_of_lt (show m < 256 by omega), Nat.mod_eq_of_lt (show c < 256 by omega)]
      rfl
    have E7 : Hid (Ext base w1 (.slice none 0 0) (s.head ++ nats (s.st.take 0)) W7 v7) := by
      have h7 := E.out
      rw [HH.out] at h7
      show Ext _ _ _ _ _ _
      simpa [nats] using h7
    clear E HH
    go_wp2_with fail
    go_loopw [5, 7] (fun b i wr => ∃ (q : Nat) (u : Value), q ≤ s.st.length ∧ b = u ∧ i = .int .i64 q ∧ Hid (Ext base w1 (.slice none 0 0) (s.head ++ nats (s.st.take q)) wr u)) (fun _ i _ => s.st.length - (intOf i).toNat)
    case atStart => exact ⟨0, v7, Nat.zero_le _, rfl, rfl, E7⟩
    case round =>
      obtain ⟨q, u, hq, rfl, rfl, E⟩ := hrel
      clear E7
      have c10 := (B2.out.chg (show Chg [] w1 wr from E.out.chg) (by simp)).cell (j := 10) rfl
      by_cases hlt : q < s.st.length
      · have hq0 : (0 : Int) ≤ q := Int.natCast_nonneg _
        have hq1 : (q : Int) < s.st.length := by omega
        have SU := U.out.chg (C2.out.trans (show Chg [] w1 wr from E.out.chg)) (by simp)
        have L : ∃ gb o, ao = some ⟨gb, o, none⟩ ∧ wr.cell? ⟨gb, o + q, none⟩ = some (.int .u8 (s.st.getD q 0)) := by
          rcases SU with ⟨h0, _⟩ | ⟨gb, o, c', hv, hb, hc⟩
          · rw [h0] at hlt; simp at hlt
          · obtain ⟨rfl, rfl⟩ : ao = some ⟨gb, o, none⟩ ∧ cp = c' := by simpa using hv
            exact ⟨gb, o, rfl, hc q hlt⟩
        obtain ⟨gb, o, rfl, hcell⟩ := L
        have hxm : s.st.getD q 0 ∈ s.st := by rw [show s.st.getD q 0 = s.st[q] from by simp [List.getD, List.getElem?_eq_getElem hlt]]; exact List.getElem_mem hlt
        have hxb := HF.out.st _ hxm
        obtain ⟨x, hx⟩ := Int.eq_ofNat_of_zero_le hxb.1
        rw [hx] at hcell hxb
        have hxx : s.st[q]? = some (x : Int) := by rw [← hx]; simp [List.getD, List.getElem?_eq_getElem hlt]
        have NS : Hid (nats (s.st.take (q + 1)) = nats (s.st.take q) ++ [x]) := by
          show _ = _
          rw [take_snoc hxx]
          simp [nats]
        have hz := Nat.le_trans hb1 E.out.chg.size
        have hbw : base ≤ (wr.alloc (.cells #[.int .u8 (x : Int)] 5)).heap.size := by simp; omega
        have OA : Hid ((wr.alloc (.cells #[.int .u8 (x : Int)] 5)).ownsRow base 5 1 u5 _ _) := owns_chg E.out.own ((Chg.refl [] wr).alloc _) (by simp)
        have hlen : (s.head ++ nats (s.st.take q)).length = 44 + q := by rw [List.length_append, Sup.head_length, nats_length, List.length_take]; omega
        have L1 : Hid ((s.head ++ nats (s.st.take q)).length + 1 ≤ maxLen) := by show _ ≤ _; unfold maxLen; omega
        have L2 : Hid (((s.head ++ nats (s.st.take q)).length + 1) * 1 ≤ 140737488355328) := by show _ ≤ _; omega
        clear hxm hx hxx SU hlen hz
        go_wp2_with (at_builtin; refine wpList_append_three _ rfl _ _ 32 rfl base 5 i0 (.int .u8 0) 1 1 Try.underlying32 hi hz0 hz1 hz2 rfl (by decide) _ _ _ rfl OA.out ⟨wr.heap.size, 0, none⟩ 1 1 [.int .u8 (x : Int)] rfl rfl (one_cell _ _ _) (by intro y hy; rw [List.mem_singleton.1 hy]; rfl) L1.out L2.out hbw ?_; intro v8 w8 own hg hb2)
        refine ⟨⟨q + 1, v8, by omega, rfl, by go_num, ?_⟩, by simp [intOf]; omega⟩
        show Ext _ _ _ _ _ _
        rw [NS.out, ← List.append_assoc]
        exact E.out.trans (Ext.app (.cells #[.int .u8 (x : Int)] 5) rfl own.out hg.out hb2.out)
      · obtain rfl : q = s.st.length := by omega
        go_wp2_with fail
        have E8 : Hid (Ext base w1 (.slice none 0 0) (s.head ++ nats s.st ++ List.replicate 0 0) wr u5) := by
          have h7 := E.out
          rw [List.take_length] at h7
          show Ext _ _ _ _ _ _
          rw [List.replicate_zero, List.append_nil]
          exact h7
        clear E c10
        have hL8 : ∀ z, (s.head ++ nats s.st ++ List.replicate z 0).length = 44 + s.st.length + z := fun z => by rw [List.length_append, List.length_append, Sup.head_length, nats_length, List.length_replicate]
        replace hL8 := Lib.hid hL8
        obtain ⟨a8, c8, rfl⟩ := owns_slice E8.out.own
        have hs8 := hL8.out 0
        go_loopw [5] (fun b wr => ∃ (z n : Nat) (a9 : Option Addr) (c9 : Nat), n = 44 + s.st.length + z ∧ n ≤ 124 ∧ b = .slice a9 n c9 ∧ Hid (Ext base w1 (.slice none 0 0) (s.head ++ nats s.st ++ List.replicate z 0) wr (.slice a9 n c9))) (fun b _ => 124 - lenV b)
        case atStart => exact ⟨0, _, a8, c8, hs8, by omega, rfl, E8⟩
        case round =>
          obtain ⟨z, n, a9, c9, hn, hn2, rfl, E⟩ := hrel
          clear E8 hs8
          have hn0 : (0 : Int) ≤ n := Int.natCast_nonneg _
          by_cases hl2 : n < 124
          · have hz := Nat.le_trans hb1 E.out.chg.size
            have hbw : base ≤ (wr.alloc (.cells #[.int .u8 0] 5)).heap.size := by simp; omega
            have OA : Hid ((wr.alloc (.cells #[.int .u8 0] 5)).ownsRow base 5 1 (.slice a9 n c9) _ _) := owns_chg E.out.own ((Chg.refl [] wr).alloc _) (by simp)
            have hlen := hL8.out z
            have L1 : Hid ((s.head ++ nats s.st ++ List.replicate z 0).length + 1 ≤ maxLen) := by show _ ≤ _; unfold maxLen; omega
            have L2 : Hid (((s.head ++ nats s.st ++ List.replicate z 0).length + 1) * 1 ≤ 140737488355328) := by show _ ≤ _; omega
            clear hz
            replace hlen := Lib.hid hlen
            replace hn := Lib.hid hn
            have hl3 : (n : Int) < 124 := by omega
            go_wp2_with (at_builtin; refine wpList_append_three _ rfl _ _ 32 rfl base 5 i0 (.int .u8 0) 1 1 Try.underlying32 hi hz0 hz1 hz2 rfl (by decide) _ _ _ rfl OA.out ⟨wr.heap.size, 0, none⟩ 1 1 [.int .u8 0] rfl rfl (one_cell _ _ _) (by intro y hy; rw [List.mem_singleton.1 hy]; rfl) L1.out L2.out hbw ?_; intro v8 w8 own hg hb2)
            obtain ⟨a10, c10, rfl⟩ := owns_slice own.out
            have hlen2 := hlen.out
            have hn3 := hn.out
            refine ⟨⟨z + 1, _, a10, c10, by omega, by omega, rfl, ?_⟩, by simp only [lenV]; omega⟩
            show Ext _ _ _ _ _ _
            rw [List.replicate_succ', ← List.append_assoc]
            exact E.out.trans (Ext.app (zs := [0]) (.cells #[.int .u8 0] 5) rfl own.out hg.out hb2.out)
          · have hz8 : z = 80 - s.st.length := by omega
            have h124 : n = 124 := by omega
            subst h124
            have E9 : Hid (Ext base w1 (.slice none 0 0) s.body wr (.slice a9 124 c9)) := by
              have h7 := E.out
              rw [hz8] at h7
              exact h7
            clear E hn hn2 hl2 hz8 hn0 hL8
            have SM := Lib.hid (refSum_any (.slice a9 124 c9) (ints s.body) wr (Sl.owned E9.out.own) (ints_by (Sup.body_bs HF.out)) (by rw [ints_length, Sup.body_length (by omega)]; decide))
            rw [nats_ints] at SM
            have hsm : sum s.body < 4294967296 := more_lt (by decide) (Sup.body_bs HF.out)
            have hse : s.sector = s.body ++ low 4 (sum s.body) := rfl
            have hbl : s.body.length = 124 := Sup.body_length (by omega)
            replace hse := Lib.hid hse
            replace hbl := Lib.hid hbl
            obtain ⟨sm, hsme⟩ : ∃ x, x = sum s.body := ⟨_, rfl⟩
            rw [← hsme] at SM hsm hse
            replace hsme := Lib.hid hsme
            have hs0 : (0 : Int) ≤ sm := Int.natCast_nonneg _
            have hs1 : (sm : Int) < 4294967296 := by omega
            go_wp2_with fail
            refine SM.out.mono ?_
            rintro e w8 ⟨rfl, rfl⟩
            clear SM
            go_wp2_with fail
            have hzr : base ≤ wr.heap.size := Nat.le_trans hb1 E9.out.chg.size
            refine (refPut_any base _ _ sm 4 wr hzr E9.out.own (by decide) (by omega) (by rw [hbl.out]; decide)).mono ?_
            rintro e w9 ⟨v9, rfl, X⟩
            have Z := Lib.hid (E9.out.trans X.out)
            clear X E9
            go_wp2_with fail
            go_ret2
            refine ⟨v9, rfl, ?_, C2.out.trans (show Chg [] w1 w9 from Z.out.chg)⟩
            show World.ownsRow _ _ _ _ _ _ _
            rw [hse.out]
            exact ownsRow_base Z.out.own (by rw [hbase.out]; exact Nat.le_succ _)
  case true.true =>
    have FL : s.flags = 3 := by simp [Sup.flags, hlz, hls]
    replace hlz := Lib.hid hlz
    replace hls := Lib.hid hls
    have L1 : Hid ((begunB ++ low 8 s.id ++ low 8 s.ev ++ low 8 s.safe).length + 4 ≤ maxLen) := by show _ ≤ _; simp [low_length, begunB]; decide
    have L2 : Hid (((begunB ++ low 8 s.id ++ low 8 s.ev ++ low 8 s.safe).length + 4) * 1 ≤ 140737488355328) := by show _ ≤ _; simp [low_length, begunB]
    have OA : Hid ((W3.alloc (.cells #[.int .u8 (r : Int), .int .u8 (m : Int), .int .u8 (c : Int), .int .u8 3] 5)).ownsRow base 5 1 v3 _ _) := owns_chg E.out.own ((Chg.refl [] W3).alloc _) (by simp)
    have hbw : base ≤ (W3.alloc (.cells #[.int .u8 (r : Int), .int .u8 (m : Int), .int .u8 (c : Int), .int .u8 3] 5)).heap.size := by simp; omega
    go_upto_region 15 with (at_builtin; refine wpList_append_three _ rfl _ _ 32 rfl base 5 i0 (.int .u8 0) 1 1 Try.underlying32 hi hz0 hz1 hz2 rfl (by decide) _ _ _ rfl OA.out ⟨W3.heap.size, 0, none⟩ 4 4 [.int .u8 (r : Int), .int .u8 (m : Int), .int .u8 (c : Int), .int .u8 3] rfl rfl (four_cell _ _ _ _ _ _) (by intro x hx; simp only [List.mem_cons, List.not_mem_nil, or_false] at hx; rcases hx with rfl | rfl | rfl | rfl <;> rfl) L1.out L2.out hbw ?_; intro v4 W4 own hg hb2)
    replace E := Lib.hid (E.out.trans (Ext.app (zs := [r, m, c, 3]) _ rfl own.out hg.out hb2.out))
    clear c8 c9 c3 c4 c5 OA hbw L1 L2 own hg hb2 hz3
    have c6 := (B2.out.chg (show Chg [] w1 W4 from E.out.chg) (by simp)).cell (j := 6) rfl
    rw [ht.out] at c6
    go_wp2_with fail
    have hzW4 : base ≤ W4.heap.size := Nat.le_trans hb1 E.out.chg.size
    refine (refPut_any base _ _ t 2 W4 hzW4 E.out.own (by decide) (by omega) (by simp [low_length, begunB])).mono ?_
    rintro e W5 ⟨v5, rfl, X⟩
    replace E := Lib.hid (E.out.trans X.out)
    clear X hzW4
    clear c6
    have c7 := (B2.out.chg (show Chg [] w1 W5 from E.out.chg) (by simp)).cell (j := 7) rfl
    rw [hgg.out] at c7
    go_wp2_with fail
    have hzW5 : base ≤ W5.heap.size := Nat.le_trans hb1 E.out.chg.size
    refine (refPut_any base _ _ g 2 W5 hzW5 E.out.own (by decide) (by omega) (by simp [low_length, begunB])).mono ?_
    rintro e W6 ⟨v6, rfl, X⟩
    replace E := Lib.hid (E.out.trans X.out)
    clear X hzW5
    clear c7
    have c11 := (B2.out.chg (show Chg [] w1 W6 from E.out.chg) (by simp)).cell (j := 11) rfl
    rw [hk.out] at c11
    go_wp2_with fail
    have hzW6 : base ≤ W6.heap.size := Nat.le_trans hb1 E.out.chg.size
    refine (refPut_any base _ _ k 4 W6 hzW6 E.out.own (by decide) (by omega) (by simp [low_length, begunB])).mono ?_
    rintro e W7 ⟨v7, rfl, X⟩
    replace E := Lib.hid (E.out.trans X.out)
    clear X hzW6
    clear c11
    have HH : Hid (begunB ++ low 8 s.id ++ low 8 s.ev ++ low 8 s.safe ++ [r, m, c, 3] ++ low 2 t ++ low 2 g ++ low 4 k = s.head) := by
      show _ = _
      unfold Sup.head
      rw [hr.out, hm.out, hc.out, ht.out, hgg.out, hk.out, FL]
      simp only [Int.toNat_natCast]
      rw [Nat.mod_eq_of_lt (show r < 256 by omega), Nat.mod_eq_of_lt (show m < 256 by omega), Nat.mod_eq_of_lt (show c < 256 by omega)]
      rfl
    have E7 : Hid (Ext base w1 (.slice none 0 0) (s.head ++ nats (s.st.take 0)) W7 v7) := by
      have h7 := E.out
      rw [HH.out] at h7
      show Ext _ _ _ _ _ _
      simpa [nats] using h7
    clear E HH
    go_wp2_with fail
    go_loopw [5, 7] (fun b i wr => ∃ (q : Nat) (u : Value), q ≤ s.st.length ∧ b = u ∧ i = .int .i64 q ∧ Hid (Ext base w1 (.slice none 0 0) (s.head ++ nats (s.st.take q)) wr u)) (fun _ i _ => s.st.length - (intOf i).toNat)
    case atStart => exact ⟨0, v7, Nat.zero_le _, rfl, rfl, E7⟩
    case round =>
      obtain ⟨q, u, hq, rfl, rfl, E⟩ := hrel
      clear E7
      have c10 := (B2.out.chg (show Chg [] w1 wr from E.out.chg) (by simp)).cell (j := 10) rfl
      by_cases hlt : q < s.st.length
      · have hq0 : (0 : Int) ≤ q := Int.natCast_nonneg _
        have hq1 : (q : Int) < s.st.length := by omega
        have SU := U.out.chg (C2.out.trans (show Chg [] w1 wr from E.out.chg)) (by simp)
        have L : ∃ gb o, ao = some ⟨gb, o, none⟩ ∧ wr.cell? ⟨gb, o + q, none⟩ = some (.int .u8 (s.st.getD q 0)) := by
          rcases SU with ⟨h0, _⟩ | ⟨gb, o, c', hv, hb, hc⟩
          · rw [h0] at hlt; simp at hlt
          · obtain ⟨rfl, rfl⟩ : ao = some ⟨gb, o, none⟩ ∧ cp = c' := by simpa using hv
            exact ⟨gb, o, rfl, hc q hlt⟩
        obtain ⟨gb, o, rfl, hcell⟩ := L
        have hxm : s.st.getD q 0 ∈ s.st := by rw [show s.st.getD q 0 = s.st[q] from by simp [List.getD, List.getElem?_eq_getElem hlt]]; exact List.getElem_mem hlt
        have hxb := HF.out.st _ hxm
        obtain ⟨x, hx⟩ := Int.eq_ofNat_of_zero_le hxb.1
        rw [hx] at hcell hxb
        have hxx : s.st[q]? = some (x : Int) := by rw [← hx]; simp [List.getD, List.getElem?_eq_getElem hlt]
        have NS : Hid (nats (s.st.take (q + 1)) = nats (s.st.take q) ++ [x]) := by
          show _ = _
          rw [take_snoc hxx]
          simp [nats]
        have hz := Nat.le_trans hb1 E.out.chg.size
        have hbw : base ≤ (wr.alloc (.cells #[.int .u8 (x : Int)] 5)).heap.size := by simp; omega
        have OA : Hid ((wr.alloc (.cells #[.int .u8 (x : Int)] 5)).ownsRow base 5 1 u5 _ _) := owns_chg E.out.own ((Chg.refl [] wr).alloc _) (by simp)
        have hlen : (s.head ++ nats (s.st.take q)).length = 44 + q := by rw [List.length_append, Sup.head_length, nats_length, List.length_take]; omega
        have L1 : Hid ((s.head ++ nats (s.st.take q)).length + 1 ≤ maxLen) := by show _ ≤ _; unfold maxLen; omega
        have L2 : Hid (((s.head ++ nats (s.st.take q)).length + 1) * 1 ≤ 140737488355328) := by show _ ≤ _; omega
        clear hxm hx hxx SU hlen hz
        go_wp2_with (at_builtin; refine wpList_append_three _ rfl _ _ 32 rfl base 5 i0 (.int .u8 0) 1 1 Try.underlying32 hi hz0 hz1 hz2 rfl (by decide) _ _ _ rfl OA.out ⟨wr.heap.size, 0, none⟩ 1 1 [.int .u8 (x : Int)] rfl rfl (one_cell _ _ _) (by intro y hy; rw [List.mem_singleton.1 hy]; rfl) L1.out L2.out hbw ?_; intro v8 w8 own hg hb2)
        refine ⟨⟨q + 1, v8, by omega, rfl, by go_num, ?_⟩, by simp [intOf]; omega⟩
        show Ext _ _ _ _ _ _
        rw [NS.out, ← List.append_assoc]
        exact E.out.trans (Ext.app (.cells #[.int .u8 (x : Int)] 5) rfl own.out hg.out hb2.out)
      · obtain rfl : q = s.st.length := by omega
        go_wp2_with fail
        have E8 : Hid (Ext base w1 (.slice none 0 0) (s.head ++ nats s.st ++ List.replicate 0 0) wr u5) := by
          have h7 := E.out
          rw [List.take_length] at h7
          show Ext _ _ _ _ _ _
          rw [List.replicate_zero, List.append_nil]
          exact h7
        clear E c10
        have hL8 : ∀ z, (s.head ++ nats s.st ++ List.replicate z 0).length = 44 + s.st.length + z := fun z => by rw [List.length_append, List.length_append, Sup.head_length, nats_length, List.length_replicate]
        replace hL8 := Lib.hid hL8
        obtain ⟨a8, c8, rfl⟩ := owns_slice E8.out.own
        have hs8 := hL8.out 0
        go_loopw [5] (fun b wr => ∃ (z n : Nat) (a9 : Option Addr) (c9 : Nat), n = 44 + s.st.length + z ∧ n ≤ 124 ∧ b = .slice a9 n c9 ∧ Hid (Ext base w1 (.slice none 0 0) (s.head ++ nats s.st ++ List.replicate z 0) wr (.slice a9 n c9))) (fun b _ => 124 - lenV b)
        case atStart => exact ⟨0, _, a8, c8, hs8, by omega, rfl, E8⟩
        case round =>
          obtain ⟨z, n, a9, c9, hn, hn2, rfl, E⟩ := hrel
          clear E8 hs8
          have hn0 : (0 : Int) ≤ n := Int.natCast_nonneg _
          by_cases hl2 : n < 124
          · have hz := Nat.le_trans hb1 E.out.chg.size
            have hbw : base ≤ (wr.alloc (.cells #[.int .u8 0] 5)).heap.size := by simp; omega
            have OA : Hid ((wr.alloc (.cells #[.int .u8 0] 5)).ownsRow base 5 1 (.slice a9 n c9) _ _) := owns_chg E.out.own ((Chg.refl [] wr).alloc _) (by simp)
            have hlen := hL8.out z
            have L1 : Hid ((s.head ++ nats s.st ++ List.replicate z 0).length + 1 ≤ maxLen) := by show _ ≤ _; unfold maxLen; omega
            have L2 : Hid (((s.head ++ nats s.st ++ List.replicate z 0).length + 1) * 1 ≤ 140737488355328) := by show _ ≤ _; omega
            clear hz
            replace hlen := Lib.hid hlen
            replace hn := Lib.hid hn
            have hl3 : (n : Int) < 124 := by omega
            go_wp2_with (at_builtin; refine wpList_append_three _ rfl _ _ 32 rfl base 5 i0 (.int .u8 0) 1 1 Try.underlying32 hi hz0 hz1 hz2 rfl (by decide) _ _ _ rfl OA.out ⟨wr.heap.size, 0, none⟩ 1 1 [.int .u8 0] rfl rfl (one_cell _ _ _) (by intro y hy; rw [List.mem_singleton.1 hy]; rfl) L1.out L2.out hbw ?_; intro v8 w8 own hg hb2)
            obtain ⟨a10, c10, rfl⟩ := owns_slice own.out
            have hlen2 := hlen.out
            have hn3 := hn.out
            refine ⟨⟨z + 1, _, a10, c10, by omega, by omega, rfl, ?_⟩, by simp only [lenV]; omega⟩
            show Ext _ _ _ _ _ _
            rw [List.replicate_succ', ← List.append_assoc]
            exact E.out.trans (Ext.app (zs := [0]) (.cells #[.int .u8 0] 5) rfl own.out hg.out hb2.out)
          · have hz8 : z = 80 - s.st.length := by omega
            have h124 : n = 124 := by omega
            subst h124
            have E9 : Hid (Ext base w1 (.slice none 0 0) s.body wr (.slice a9 124 c9)) := by
              have h7 := E.out
              rw [hz8] at h7
              exact h7
            clear E hn hn2 hl2 hz8 hn0 hL8
            have SM := Lib.hid (refSum_any (.slice a9 124 c9) (ints s.body) wr (Sl.owned E9.out.own) (ints_by (Sup.body_bs HF.out)) (by rw [ints_length, Sup.body_length (by omega)]; decide))
            rw [nats_ints] at SM
            have hsm : sum s.body < 4294967296 := more_lt (by decide) (Sup.body_bs HF.out)
            have hse : s.sector = s.body ++ low 4 (sum s.body) := rfl
            have hbl : s.body.length = 124 := Sup.body_length (by omega)
            replace hse := Lib.hid hse
            replace hbl := Lib.hid hbl
            obtain ⟨sm, hsme⟩ : ∃ x, x = sum s.body := ⟨_, rfl⟩
            rw [← hsme] at SM hsm hse
            replace hsme := Lib.hid hsme
            have hs0 : (0 : Int) ≤ sm := Int.natCast_nonneg _
            have hs1 : (sm : Int) < 4294967296 := by omega
            go_wp2_with fail
            refine SM.out.mono ?_
            rintro e w8 ⟨rfl, rfl⟩
            clear SM
            go_wp2_with fail
            have hzr : base ≤ wr.heap.size := Nat.le_trans hb1 E9.out.chg.size
            refine (refPut_any base _ _ sm 4 wr hzr E9.out.own (by decide) (by omega) (by rw [hbl.out]; decide)).mono ?_
            rintro e w9 ⟨v9, rfl, X⟩
            have Z := Lib.hid (E9.out.trans X.out)
            clear X E9
            go_wp2_with fail
            go_ret2
            refine ⟨v9, rfl, ?_, C2.out.trans (show Chg [] w1 w9 from Z.out.chg)⟩
            show World.ownsRow _ _ _ _ _ _ _
            rw [hse.out]
            exact ownsRow_base Z.out.own (by rw [hbase.out]; exact Nat.le_succ _)


end Go.Proofs.Ytbeejoooefgeaaa
