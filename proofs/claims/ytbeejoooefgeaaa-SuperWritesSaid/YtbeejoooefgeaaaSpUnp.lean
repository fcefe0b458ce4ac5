/-
  The content of a sector. By an AI agent.
-/
import Derived.Test.YtbeejoooefgeaaaSpPack
namespace Go.Proofs.Ytbeejoooefgeaaa
open Go.RowKit

/-- A content of noughts. -/
def zeroC : List Value := [.int .u64 0, .int .u64 0, .int .u64 0, .int .i64 0, .int .i64 0, .int .i64 0, .int .i64 0, .int .i64 0, .bool false, .bool false, .slice none 0 0, .int .i64 0, .int .u64 0, .int .u8 0,
  .int .u8 0, .int .u8 0, .int .u8 0, .int .u8 0, .int .u8 0, .int .u8 0, .int .u8 0, .int .u8 0, .int .u8 0, .int .u8 0, .int .u8 0, .int .u8 0, .int .u8 0, .int .u8 0, .int .u8 0, .int .u8 0, .int .u32 0]

/-- What has been read by the first k fields. -/
def unpackAt (xs : List Int) (k : Nat) : List Value := (List.range k).foldl (fun cs i => match fieldsAll[i]? with
  | some d => d.into cs ((xs.drop (wide i)).take d.n)
  | none => cs) zeroC

def unpacked (xs : List Int) : List Value := unpackAt xs 30

theorem unpackAt_succ (xs : List Int) {k : Nat} {d : FD} (h : fieldsAll[k]? = some d) : unpackAt xs (k + 1) = d.into (unpackAt xs k) ((xs.drop (wide k)).take d.n) := by
  unfold unpackAt
  rw [List.range_succ, List.foldl_append]
  simp only [List.foldl_cons, List.foldl_nil, h]

theorem unpackAt_len (xs : List Int) : ∀ k, k ≤ 30 → (unpackAt xs k).length = 31
  | 0, _ => rfl
  | k + 1, hk => by
    obtain ⟨d, hd⟩ : ∃ d, fieldsAll[k]? = some d := ⟨_, List.getElem?_eq_getElem (by rw [fields_len]; omega)⟩
    rw [unpackAt_succ xs hd, FD.into_len, unpackAt_len xs k (by omega)]

theorem FD.into_one {cs : List Value} {d : FD} {xs : List Int} (h : ∀ v ∈ cs, v.oneCell' = true) : ∀ v ∈ d.into cs xs, v.oneCell' = true := by
  intro v hv
  unfold FD.into at hv
  split at hv
  · rcases List.mem_or_eq_of_mem_set hv with hv | rfl
    · exact h v hv
    · rfl
  · exact h v hv

theorem unpackAt_one (xs : List Int) : ∀ k, k ≤ 30 → ∀ v ∈ unpackAt xs k, v.oneCell' = true
  | 0, _ => by
    intro v hv
    have : ∀ v ∈ zeroC, v.oneCell' = true := by
      intro v hv
      simp only [zeroC, List.mem_cons, List.not_mem_nil, or_false] at hv
      rcases hv with rfl | rfl | rfl | rfl | rfl | rfl | rfl | rfl | rfl | rfl | rfl | rfl | rfl | rfl | rfl | rfl | rfl | rfl | rfl | rfl | rfl | rfl | rfl | rfl | rfl | rfl | rfl | rfl | rfl | rfl | rfl <;> rfl
    exact this v hv
  | k + 1, hk => by
    obtain ⟨d, hd⟩ : ∃ d, fieldsAll[k]? = some d := ⟨_, List.getElem?_eq_getElem (by rw [fields_len]; omega)⟩
    rw [unpackAt_succ xs hd]
    exact FD.into_one (unpackAt_one xs k (by omega))

theorem fields_room {k : Nat} {d : FD} (h : fieldsAll[k]? = some d) (cs : List Value) (hl : cs.length = 31) : d.room cs := by
  have hk := (List.getElem?_eq_some_iff.1 h).1
  have ha : ∀ d ∈ fieldsAll, ∀ o kd, d.at_ = some (o, kd) → o < 31 := by
    have : ∀ d ∈ fieldsAll, (match d.at_ with | some (o, _) => decide (o < 31) | none => true) = true := by decide
    intro d hd o kd he
    have h2 := this d hd
    rw [he] at h2
    simpa using h2
  unfold FD.room
  split
  · rename_i o kd he
    rw [hl]
    exact ha d (List.mem_of_getElem? h) o kd he
  · trivial

theorem size_content : (Try.prog.info? 65).map (·.size) = some 31 := by kernel_rfl

theorem readAt_next {xs : List Int} (hx : xs.length = 128) {k : Nat} {d : FD} (h : fieldsAll[k]? = some d) :
    RS.next ⟨xs, wide k, 0, 0⟩ d.n = ⟨xs, wide (k + 1), 0, 0⟩ ∧ RS.got ⟨xs, wide k, 0, 0⟩ d.n = (xs.drop (wide k)).take d.n ∧ wide k + d.n ≤ xs.length := by
  have hk := (List.getElem?_eq_some_iff.1 h).1
  rw [fields_len] at hk
  have hw := wide_le (k + 1) (by omega)
  have hs := wide_succ h
  rw [hs] at hw
  refine ⟨?_, ?_, by omega⟩
  · unfold RS.next
    simp only [if_true]
    rw [if_pos (by omega), hs]
  · unfold RS.got
    simp only [if_true]
    rw [if_pos (by omega)]

set_option maxHeartbeats 4000000 in
set_option maxRecDepth 100000 in
theorem unpack_any (v : Value) (xs : List Int) (w : World) (h : Sl w v xs) (hx : xs.length = 128) (hby : By xs) :
    Calls Try.prog 52 #[v] w fun e w' => e = .returned (.agg (unpacked xs).toArray) ∧ Hid (Chg [] w w') := by
  have HX := Lib.hid hx
  have e1 : (w.alloc (.cells zeroC.toArray 65)).heap.size = w.heap.size + 1 := by simp
  have R0 : Hid (Blk ((w.alloc (.cells zeroC.toArray 65)).alloc (.cells zeroC.toArray 65)) w.heap.size 65 zeroC) := (Blk.made w zeroC _).alloc _
  have B0 : Hid (Blk ((w.alloc (.cells zeroC.toArray 65)).alloc (.cells zeroC.toArray 65)) (w.heap.size + 1) 65 zeroC) := by
    have := Blk.made (w.alloc (.cells zeroC.toArray 65)) zeroC 65
    rw [e1] at this
    exact this
  have C0 : Hid (Chg [] w ((w.alloc (.cells zeroC.toArray 65)).alloc (.cells zeroC.toArray 65))) := ((Chg.refl _ _).alloc _).alloc _
  have RE := Lib.hid (read_any v xs _ (h.chg C0.out (by simp)) (by omega) hby)
  clear h hx e1
  go_enter Try.func52, Try.ntmps52
  go_wp2_with fail
  refine RE.out.mono ?_
  rintro e w2 ⟨b, v2, rfl, RD, C2, hb, hv⟩
  replace RD := Lib.hid RD
  have C02 : Hid (Chg [] w w2) := C0.out.trans C2
  have R2 : Hid (Blk w2 w.heap.size 65 zeroC) := R0.out.chg C2 (by simp)
  have B2 : Hid (Blk w2 (w.heap.size + 1) 65 zeroC) := B0.out.chg C2 (by simp)
  have hcb : w.heap.size + 1 < b := by simp at hb; omega
  have hvc : Hid (∀ k, v2.ownBlock = some k → w.heap.size + 1 < k ∧ k < w2.heap.size) := fun k hk => by
    have := hv k hk
    simp at this
    omega
  have hb2 : b < w2.heap.size := RD.out.pb.lt
  clear R0 B0 C0 RE C2 hb hv
  obtain ⟨c, hc⟩ : ∃ c, c = w.heap.size + 1 := ⟨_, rfl⟩
  obtain ⟨r, hr⟩ : ∃ r, r = w.heap.size := ⟨_, rfl⟩
  rw [← hc] at B2 hcb hvc ⊢
  rw [← hr] at R2 hc ⊢
  replace hr := Lib.hid hr
  replace hc := Lib.hid hc
  go_wp2_with fail
  refine (table_any30 c w2 B2.out.lt).mono ?_
  rintro e w3 ⟨t, cp, fs, rfl, T, F, C3, ht, ht2⟩
  have RD3 : Hid (Rd w3 b v2 ⟨xs, 0, 0, 0⟩) := RD.out.chg C3.out (by simp) (fun _ _ => by simp)
  have C03 : Hid (Chg [] w w3) := C02.out.trans C3.out
  have B3 : Hid (Blk w3 c 65 (unpackAt xs 0)) := B2.out.chg C3.out (by simp)
  have R3 : Hid (Blk w3 r 65 zeroC) := R2.out.chg C3.out (by simp)
  have hcl : c < w2.heap.size := B2.out.lt
  clear RD C02 B2 R2 C3
  have FL := F.out.len
  rw [fields_len] at FL
  go_wp2_with fail
  go_loopw [11] (fun i wr => ∃ k : Nat, k ≤ 30 ∧ i = .int .i64 k ∧ Hid (Rd wr b v2 ⟨xs, wide k, 0, 0⟩) ∧ Hid (Blk wr c 65 (unpackAt xs k)) ∧ Hid (Chg [b, c] w3 wr)) (fun i _ => 30 - (intOf i).toNat)
  case atStart => exact ⟨0, by decide, rfl, RD3, B3, Chg.refl _ _⟩
  case round =>
    obtain ⟨k, hk, rfl, P, B, C⟩ := hrel
    clear RD3 B3
    by_cases hlt : k < 30
    · have hk0 : (0 : Int) ≤ k := Int.natCast_nonneg _
      have hk1 : (k : Int) < 30 := by omega
      obtain ⟨p, hp⟩ : ∃ p, fs[k]? = some p := ⟨_, List.getElem?_eq_getElem (by omega)⟩
      obtain ⟨d, hd⟩ : ∃ d, fieldsAll[k]? = some d := ⟨_, List.getElem?_eq_getElem (by rw [fields_len]; exact hlt)⟩
      have FO := F.out.each k p d hp hd
      obtain ⟨q1, d1, q2, d2, he, PO, RO⟩ := FO
      obtain rfl : p = (.func (.func q1) #[] d1, .func (.func q2) #[] d2) := by
        obtain ⟨x, y⟩ := p
        simpa using he
      have hen := RO.enters
      have TT : Hid (CellsAt wr t (fcells fs)) := T.out.chg C.out ht2 (by simp; omega)
      obtain ⟨g1, g2⟩ := fcells_get hp
      have z1 := TT.out _ _ g1
      have z2 := TT.out _ _ g2
      have CX : Hid (Chg [b, c] w3 (wr.alloc (.cells #[.func (.func q1) #[] d1, .func (.func q2) #[] d2] 99))) := C.out.alloc _
      have PX : Hid (Rd (wr.alloc (.cells #[.func (.func q1) #[] d1, .func (.func q2) #[] d2] 99)) b v2 ⟨xs, wide k, 0, 0⟩) := P.out.chg ((Chg.refl [] wr).alloc _) (by simp) (fun _ _ => by simp)
      obtain ⟨s1, s2, s3⟩ := readAt_next HX.out hd
      have PP := Lib.hid (RO.reads (wr.alloc (.cells #[.func (.func q1) #[] d1, .func (.func q2) #[] d2] 99)) [b, c] b v2 ⟨xs, wide k, 0, 0⟩ (unpackAt xs k) CX.out (by intro j hj; simp at hj; omega) PX.out (B.out.alloc _) hb2 hcl (by omega) (fun j hj e => by have := hvc.out j hj; omega) rfl s3 (fields_room hd _ (unpackAt_len xs k hk)))
      rw [s1, s2, ← unpackAt_succ xs hd] at PP
      clear PO RO he hp hd B P PX s1 s2 s3
      go_wp2_with fail
      refine PP.out.mono ?_
      rintro e w4 ⟨rfl, k1, k2, k3⟩
      have C4 : Hid (Chg [b, c] w3 w4) := CX.out.trans k3.out
      clear PP k3 CX hen z1 z2
      go_wp2_with fail
      exact ⟨⟨k + 1, by omega, by go_num, k1, k2, C4⟩, by simp [intOf]; omega⟩
    · obtain rfl : k = 30 := by omega
      have hcw := hc.out
      have hrw := hr.out
      have RR : Hid (Blk wr r 65 zeroC) := R3.out.chg C.out (by simp; omega)
      have UL := unpackAt_len xs 30 (by decide)
      have SZ : Hid ((Try.prog.info? 65).map (·.size) = some (unpackAt xs 30).length) := by show _ = _; rw [UL]; exact size_content
      have RG : Hid (wr.rangeAt c 0 (unpackAt xs 30)) := B.out.rangeAll
      have ON := Lib.hid (unpackAt_one xs 30 (by decide))
      have LE : Hid (0 + (unpackAt xs 30).length ≤ zeroC.length) := by show _ ≤ _; rw [UL]; decide
      have C05 : Hid (Chg [] w wr) := C03.out.fresh C.out (by intro j hj; simp at hj; exact .inr (by omega))
      clear B P hcw hrw
      replace UL := Lib.hid UL
      go_wp2_with (first
        | (with_reducible refine wpList_load_mid rfl 65 (.tmp 3) rfl c 0 rfl (unpackAt xs 30) _ RG.out Try.underlying65 rfl SZ.out ?_)
        | ((with_reducible refine wpList_store_blk rfl 65 (.tmp 2) (.tmp 20) rfl r 0 65 _ (unpackAt xs 30) rfl rfl RR.out LE.out SZ.out ON.out ?_); intro w5 B5 C5))
      have e5 : lay zeroC 0 (unpackAt xs 30) = unpackAt xs 30 := lay_all _ _ (by rw [UL.out]; rfl)
      rw [e5] at B5
      have C06 : Hid (Chg [] w w5) := C05.out.fresh C5.out (by intro j hj; have := hr.out; rw [List.mem_singleton.1 hj]; exact .inr (by omega))
      refine bodyPost_ret (results_cell_row rfl _ _ r _ _ _ _ rfl B5.out Try.underlying65 rfl ?_) rfl ?_
      · rw [List.size_toArray]
        exact SZ.out
      · exact ⟨rfl, C06⟩

end Go.Proofs.Ytbeejoooefgeaaa
