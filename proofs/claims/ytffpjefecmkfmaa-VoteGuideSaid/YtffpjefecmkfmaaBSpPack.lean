/-
  A content as a sector. By an AI agent.
-/
import Derived.Test.YtffpjefecmkfmaaBSpTab
import Derived.Test.YtffpjefecmkfmaaBGArr
namespace Go.Proofs.Ytffpjefecmkfmaa
open Go.RowKit

/-- The bytes of a content. -/
def packed (cs : List Value) : List Int := (fieldsAll.map (FD.out cs)).flatten

theorem FD.out_len (cs : List Value) (d : FD) : (d.out cs).length = d.n := by
  unfold FD.out
  split
  · exact leBytes_length _ _
  · simp

theorem FD.out_by (cs : List Value) (d : FD) : By (d.out cs) := by
  unfold FD.out
  split
  · exact By.le _ _
  · exact By.replicate _ (by decide) (by decide)

/-- How many bytes the first k fields have. -/
def wide (k : Nat) : Nat := ((fieldsAll.take k).map FD.n).sum

theorem wide_all : wide 30 = 128 := by decide
theorem wide_le : ∀ k, k ≤ 30 → wide k ≤ 128 := by decide

def sofar (cs : List Value) (k : Nat) : List Int := ((fieldsAll.take k).map (FD.out cs)).flatten

theorem sofar_len (cs : List Value) (k : Nat) : (sofar cs k).length = wide k := by
  unfold sofar wide
  rw [List.length_flatten, List.map_map]
  congr 1
  exact List.map_congr_left fun d _ => FD.out_len cs d

theorem fields_len : fieldsAll.length = 30 := by decide

theorem sofar_succ (cs : List Value) {k : Nat} {d : FD} (h : fieldsAll[k]? = some d) : sofar cs (k + 1) = sofar cs k ++ d.out cs := by
  unfold sofar
  rw [take_snoc h, List.map_append, List.flatten_append]
  simp

theorem wide_succ {k : Nat} {d : FD} (h : fieldsAll[k]? = some d) : wide (k + 1) = wide k + d.n := by
  unfold wide
  rw [take_snoc h, List.map_append, List.sum_append]
  simp

theorem sofar_all (cs : List Value) : sofar cs 30 = packed cs := by
  unfold sofar packed
  rw [List.take_of_length_le (by rw [fields_len]; exact Nat.le_refl _)]

theorem packed_len (cs : List Value) : (packed cs).length = 128 := by rw [← sofar_all, sofar_len, wide_all]

theorem packed_by (cs : List Value) : By (packed cs) := by
  intro x hx
  obtain ⟨l, hl, hm⟩ := List.mem_flatten.1 hx
  obtain ⟨d, _, rfl⟩ := List.mem_map.1 hl
  exact FD.out_by cs d x hm

/-- The packer behind the first k fields. -/
def packAt (cs : List Value) (k : Nat) : PS := ⟨lay (List.replicate 128 0) 0 (sofar cs k), wide k, 0⟩

theorem packAt_zero (cs : List Value) : packAt cs 0 = ⟨List.replicate 128 0, 0, 0⟩ := by
  unfold packAt
  rw [show sofar cs 0 = [] from rfl, lay_nil]
  rfl

theorem packAt_succ (cs : List Value) {k : Nat} {d : FD} (h : fieldsAll[k]? = some d) : (packAt cs k).put (d.out cs) = packAt cs (k + 1) := by
  have hk := (List.getElem?_eq_some_iff.1 h).1
  rw [fields_len] at hk
  have hw := wide_le (k + 1) (by omega)
  rw [wide_succ h] at hw
  have hl := sofar_len cs k
  have ho := FD.out_len cs d
  have hll : (lay (List.replicate 128 (0 : Int)) 0 (sofar cs k)).length = 128 := by rw [lay_length (by simp; omega)]; simp
  unfold PS.put packAt
  simp only [if_true, hll, ho]
  rw [if_pos (by omega), wide_succ h, sofar_succ cs h]
  congr 1
  unfold lay
  simp only [List.take_zero, List.nil_append, Nat.zero_add, List.length_append]
  rw [← hl, List.take_left, List.append_assoc, List.drop_append, List.drop_eq_nil_of_le (by omega), List.nil_append, List.drop_drop]
  have e : (sofar cs k).length + (d.out cs).length - (sofar cs k).length = (d.out cs).length := by omega
  rw [e, List.append_assoc]

theorem packAt_bs (cs : List Value) : (packAt cs 30).bs = packed cs := by
  unfold packAt
  simp only [sofar_all]
  unfold lay
  rw [packed_len]
  simp

set_option maxHeartbeats 4000000 in
set_option maxRecDepth 100000 in
theorem pack_any (cs : List Value) (hf : ∀ d ∈ fieldsAll, d.fits cs) (w : World) :
    Calls Try.prog 43 #[.agg cs.toArray] w fun e w' => ∃ v, e = .returned v ∧ Hid (w'.ownsRow w.heap.size 5 1 v 128 ((packed cs).map (Value.int .u8))) ∧ Hid (Chg [] w w') := by
  have HF := Lib.hid hf
  clear hf
  have B0 : Hid (Blk (w.alloc (.cells cs.toArray 73)) w.heap.size 73 cs) := Blk.made w cs _
  have C0 : Hid (Chg [] w (w.alloc (.cells cs.toArray 73))) := (Chg.refl _ _).alloc _
  go_enter Try.func43, Try.ntmps43
  go_wp2_with fail
  refine (new_ok 128 _ (by decide)).mono ?_
  rintro e w2 ⟨b, g, rfl, PK, C2, hb, hg, hb2, hg2⟩
  replace PK := Lib.hid PK
  have C02 : Hid (Chg [] w w2) := C0.out.trans C2
  have B2 : Hid (Blk w2 w.heap.size 73 cs) := B0.out.chg C2 (by simp)
  have hcb : w.heap.size < b := by simp at hb; omega
  have hcg : w.heap.size < g := by simp at hg; omega
  clear B0 C0 C2 hb hg
  go_wp2_with fail
  refine (table_any30 w.heap.size w2 B2.out.lt).mono ?_
  rintro e w3 ⟨t, cp, fs, rfl, T, F, C3, ht, ht2⟩
  have PK3 : Hid (Pk w3 b g ⟨List.replicate 128 0, 0, 0⟩) := PK.out.chg C3.out (by simp) (by simp)
  have C03 : Hid (Chg [] w w3) := C02.out.trans C3.out
  have B3 : Hid (Blk w3 w.heap.size 73 cs) := B2.out.chg C3.out (by simp)
  clear PK C02 B2 C3
  go_wp2_with fail
  have FL := F.out.len
  rw [fields_len] at FL
  go_loopw [15] (fun i wr => ∃ k : Nat, k ≤ 30 ∧ i = .int .i64 k ∧ Hid (Pk wr b g (packAt cs k)) ∧ Hid (Chg [b, g] w3 wr)) (fun i _ => 30 - (intOf i).toNat)
  case atStart => exact ⟨0, by decide, rfl, by rw [packAt_zero]; exact PK3, Chg.refl _ _⟩
  case round =>
    obtain ⟨k, hk, rfl, P, C⟩ := hrel
    clear PK3
    by_cases hlt : k < 30
    · have hk0 : (0 : Int) ≤ k := Int.natCast_nonneg _
      have hk1 : (k : Int) < 30 := by omega
      obtain ⟨p, hp⟩ : ∃ p, fs[k]? = some p := ⟨_, List.getElem?_eq_getElem (by omega)⟩
      obtain ⟨d, hd⟩ : ∃ d, fieldsAll[k]? = some d := ⟨_, List.getElem?_eq_getElem (by rw [fields_len]; exact hlt)⟩
      have FO := F.out.each k p d hp hd
      obtain ⟨q1, d1, q2, d2, he, PO, RO⟩ := FO
      obtain rfl : p = (.func (.func q1) #[] d1, .func (.func q2) #[] d2) := by
        obtain ⟨x, y⟩ := p
        simpa using he
      have hen := PO.enters
      have TT : Hid (CellsAt wr t (fcells fs)) := T.out.chg C.out ht2 (by simp; omega)
      obtain ⟨g1, g2⟩ := fcells_get hp
      have z1 := TT.out _ _ g1
      have z2 := TT.out _ _ g2
      have B4 : Hid (Blk wr w.heap.size 73 cs) := B3.out.chg C.out (by simp; omega)
      have CX : Hid (Chg [b, g] w3 (wr.alloc (.cells #[.func (.func q1) #[] d1, .func (.func q2) #[] d2] 87))) := C.out.alloc _
      have PX : Hid (Pk (wr.alloc (.cells #[.func (.func q1) #[] d1, .func (.func q2) #[] d2] 87)) b g (packAt cs k)) := P.out.chg ((Chg.refl [] wr).alloc _) (by simp) (by simp)
      have PP := Lib.hid (PO.puts (wr.alloc (.cells #[.func (.func q1) #[] d1, .func (.func q2) #[] d2] 87)) [b, g] b g (packAt cs k) cs CX.out (by intro j hj; simp at hj; omega) PX.out (B4.out.alloc _) (HF.out d (List.mem_of_getElem? hd)))
      have ST := packAt_succ cs hd
      clear PO RO he hp hd B4
      go_wp2_with fail
      refine PP.out.mono ?_
      rintro e w4 ⟨rfl, k1, k2⟩
      rw [ST] at k1
      replace k1 := Lib.hid k1
      have C4 : Hid (Chg [b, g] w3 w4) := CX.out.trans k2
      clear PP k2 PX CX hen z1 z2 ST
      go_wp2_with fail
      exact ⟨⟨k + 1, by omega, by go_num, k1, C4⟩, by simp [intOf]; omega⟩
    · obtain rfl : k = 30 := by omega
      have BY := Lib.hid (bytes_any b g (packAt cs 30) wr P.out)
      go_wp2_with fail
      refine BY.out.mono ?_
      rintro e w5 (⟨h0, _⟩ | ⟨_, v, rfl, O, C5⟩)
      · exact absurd rfl h0
      · have O5 := Lib.hid O
        have C05 : Hid (Chg [] w w5) := (C03.out.fresh C.out (by intro j hj; simp at hj; exact .inr (by omega))).trans C5
        clear O C5 BY
        go_wp2_with fail
        go_ret
        refine ⟨v, rfl, ?_, C05⟩
        have hb := packAt_bs cs
        have := O5.out
        rw [hb, packed_len] at this
        exact ownsRow_base this (Nat.le_trans C03.out.size C.out.size)

end Go.Proofs.Ytffpjefecmkfmaa

/-
  The content of a sector. By an AI agent.
-/
namespace Go.Proofs.Ytffpjefecmkfmaa
open Go.RowKit

/-- A content of noughts. -/
def zeroC : List Value := [.int .u64 0, .int .u64 0, .int .u64 0, .int .i64 0, .int .i64 0, .int .i64 0, .int .i64 0, .int .i64 0, .bool false, .bool false, .slice none 0 0, .int .i64 0, .int .u64 0, .int .u8 0,
  .int .u8 0, .int .u8 0, .int .u8 0, .int .u8 0, .int .u8 0, .int .u8 0, .int .u8 0, .int .u8 0, .int .u8 0, .int .u8 0, .int .u8 0, .int .u8 0, .int .u8 0, .int .u8 0, .int .u8 0, .int .u8 0, .int .u32 0]

/-- What has been read by the first k fields. -/
def unpackAt (xs : List Int) (k : Nat) : List Value := (List.range k).foldl (fun cs i => match fieldsAll[i]? with
  | some d => d.into cs ((xs.drop (wide i)).take d.n)
  | none => cs) zeroC

def unpacked (xs : List Int) : List Value := unpackAt xs 30

theorem unpackAt_succ (xs : List Int) {k : Nat} {d : FD} (h : fieldsAll[k]? = some d) : unpackAt xs (k + 1) = d.into (unpackAt xs k) ((xs.drop (wide k)).take d.n) := by
  unfold unpackAt
  rw [List.range_succ, List.foldl_append]
  simp only [List.foldl_cons, List.foldl_nil, h]

theorem unpackAt_len (xs : List Int) : ∀ k, k ≤ 30 → (unpackAt xs k).length = 31
  | 0, _ => rfl
  | k + 1, hk => by
    obtain ⟨d, hd⟩ : ∃ d, fieldsAll[k]? = some d := ⟨_, List.getElem?_eq_getElem (by rw [fields_len]; omega)⟩
    rw [unpackAt_succ xs hd, FD.into_len, unpackAt_len xs k (by omega)]

theorem FD.into_one {cs : List Value} {d : FD} {xs : List Int} (h : ∀ v ∈ cs, v.oneCell' = true) : ∀ v ∈ d.into cs xs, v.oneCell' = true := by
  intro v hv
  unfold FD.into at hv
  split at hv
  · rcases List.mem_or_eq_of_mem_set hv with hv | rfl
    · exact h v hv
    · rfl
  · exact h v hv

theorem unpackAt_one (xs : List Int) : ∀ k, k ≤ 30 → ∀ v ∈ unpackAt xs k, v.oneCell' = true
  | 0, _ => by
    intro v hv
    have : ∀ v ∈ zeroC, v.oneCell' = true := by
      intro v hv
      simp only [zeroC, List.mem_cons, List.not_mem_nil, or_false] at hv
      rcases hv with rfl | rfl | rfl | rfl | rfl | rfl | rfl | rfl | rfl | rfl | rfl | rfl | rfl | rfl | rfl | rfl | rfl | rfl | rfl | rfl | rfl | rfl | rfl | rfl | rfl | rfl | rfl | rfl | rfl | rfl | rfl <;> rfl
    exact this v hv
  | k + 1, hk => by
    obtain ⟨d, hd⟩ : ∃ d, fieldsAll[k]? = some d := ⟨_, List.getElem?_eq_getElem (by rw [fields_len]; omega)⟩
    rw [unpackAt_succ xs hd]
    exact FD.into_one (unpackAt_one xs k (by omega))

theorem fields_room {k : Nat} {d : FD} (h : fieldsAll[k]? = some d) (cs : List Value) (hl : cs.length = 31) : d.room cs := by
  have hk := (List.getElem?_eq_some_iff.1 h).1
  have ha : ∀ d ∈ fieldsAll, ∀ o kd, d.at_ = some (o, kd) → o < 31 := by
    have : ∀ d ∈ fieldsAll, (match d.at_ with | some (o, _) => decide (o < 31) | none => true) = true := by decide
    intro d hd o kd he
    have h2 := this d hd
    rw [he] at h2
    simpa using h2
  unfold FD.room
  split
  · rename_i o kd he
    rw [hl]
    exact ha d (List.mem_of_getElem? h) o kd he
  · trivial

theorem size_content : (Try.prog.info? 73).map (·.size) = some 31 := by kernel_rfl

theorem readAt_next {xs : List Int} (hx : xs.length = 128) {k : Nat} {d : FD} (h : fieldsAll[k]? = some d) :
    RS.next ⟨xs, wide k, 0, 0⟩ d.n = ⟨xs, wide (k + 1), 0, 0⟩ ∧ RS.got ⟨xs, wide k, 0, 0⟩ d.n = (xs.drop (wide k)).take d.n ∧ wide k + d.n ≤ xs.length := by
  have hk := (List.getElem?_eq_some_iff.1 h).1
  rw [fields_len] at hk
  have hw := wide_le (k + 1) (by omega)
  have hs := wide_succ h
  rw [hs] at hw
  refine ⟨?_, ?_, by omega⟩
  · unfold RS.next
    simp only [if_true]
    rw [if_pos (by omega), hs]
  · unfold RS.got
    simp only [if_true]
    rw [if_pos (by omega)]

end Go.Proofs.Ytffpjefecmkfmaa
