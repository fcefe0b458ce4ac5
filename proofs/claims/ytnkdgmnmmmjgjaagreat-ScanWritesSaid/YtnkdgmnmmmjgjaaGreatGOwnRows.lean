/-
  The book's own walk over lists of rows. By an AI agent.
-/
import Derived.Test.YtnkdgmnmmmjgjaaGreatGRackW
import Derived.Test.YtnkdgmnmmmjgjaaGreatGSame
namespace Go.Proofs.YtnkdgmnmmmjgjaaGreat
open Go.RowKit

theorem info_rws : (Tryz.prog.info? 55).map (fun i => (i.zero, i.size, i.bytes)) = some (some (.slice none 0 0), 1, 24) := by kernel_rfl
theorem info_rwss : (Tryz.prog.info? 28).map (fun i => (i.zero, i.size, i.bytes)) = some (some (.slice none 0 0), 1, 24) := by kernel_rfl

/-- The bytes of the marks of ownRows. -/
def rA (i k : Nat) : List Int := [(i : Int), (i : Int) / 256, (k : Int) % 256, 5]
def rB (i k : Nat) : List Int := [(-1 - (i : Int)) % 256, (-1 - (i : Int)) / 256 % 256, (k : Int), 5]
def cell8 (xs : List Int) : List Value := xs.map (Value.int .u8)

def offR (vs : Wides) (i : Nat) : Nat := ((vs.take i).map fun p => p.2.length).sum

theorem offR_succ {vs : Wides} {i : Nat} {v : Value} {xs : List (List Value)} (h : vs[i]? = some (v, xs)) : offR vs (i + 1) = offR vs i + xs.length := by
  unfold offR
  rw [take_snoc h, List.map_append, List.sum_append]
  simp

/-- The marks of ownRows: each a new slice. -/
def fAR (H : Nat) (vs : Wides) (i k : Nat) : List Value := [.slice (some ⟨H + offR vs i + k, 0, none⟩) 4 4]

theorem fAR_len (H : Nat) (vs : Wides) (i k : Nat) : (fAR H vs i k).length = 1 := rfl

theorem sl_blk4 {w : World} {b c : Nat} {e : TypeId} {xs : List Int} (h : Blk w b e (cell8 xs)) (hl : xs.length = 4) : Sl w (.slice (some ⟨b, 0, none⟩) 4 c) xs := by
  refine .inr ⟨b, 0, c, by rw [hl], h.lt, fun j hj => ?_⟩
  rw [Nat.zero_add]
  refine h.cell ?_
  unfold cell8
  rw [List.getElem?_map, List.getElem?_eq_getElem hj, List.getD_eq_getElem?_getD, List.getElem?_eq_getElem hj]
  rfl

/-- A list of rows lies in no block of bytes. -/
theorem not_u8 {w : World} {base n : Nat} {e : TypeId} {v : Value} {xs : List Value} (he : e ≠ 5) (h : w.ownsRow base e 1 v n xs) {k : Nat} (hk : v.ownBlock = some k) (vs : List Value) : ¬ Blk w k 5 vs := fun b => by
  rcases h.2 with ⟨rfl, _⟩ | ⟨g, cap, cur, rfl, _, hg, _⟩
  · simp [Value.ownBlock] at hk
  · obtain rfl : g = k := by simpa [Value.ownBlock] using hk
    unfold Blk at b
    rw [hg] at b
    have := Option.some.inj b
    injection this with _ h2 _
    exact he h2

/-- The marks' blocks. -/
def MkA (w : World) (H : Nat) (vs : Wides) (i k : Nat) : Prop := ∀ (j l : Nat) (v : Value) (xs : List (List Value)), vs[j]? = some (v, xs) → (j < i ∧ l < xs.length ∨ j = i ∧ l < k) → Blk w (H + offR vs j + l) 5 (cell8 (rA j l))

theorem MkA.chg {w w' : World} {s : List Nat} {H : Nat} {vs : Wides} {i k : Nat} (h : MkA w H vs i k) (c : Chg s w w') (hs : ∀ b ∈ s, ∀ xs, ¬ Blk w b 5 xs) : MkA w' H vs i k := fun j l v xs hv q =>
  (h j l v xs hv q).chg c (fun hm => hs _ hm _ (h j l v xs hv q))

theorem MkA.next {w : World} {H : Nat} {vs : Wides} {i k : Nat} {v : Value} {xs : List (List Value)} (h : MkA w H vs i k) (hi : vs[i]? = some (v, xs)) (hk : k = xs.length) : MkA w H vs (i + 1) 0 := fun j l v' xs' hv q => by
  rcases q with ⟨q, q2⟩ | ⟨_, q⟩
  · by_cases c : j = i
    · subst c
      rw [hi] at hv
      obtain ⟨rfl, rfl⟩ : v = v' ∧ xs = xs' := by simpa using hv
      exact h j l v xs hi (.inr ⟨rfl, by omega⟩)
    · exact h j l v' xs' hv (.inl ⟨by omega, q2⟩)
  · omega

theorem MkA.add {w : World} {H : Nat} {vs : Wides} {i k : Nat} (h : MkA w H vs i k) (b : Blk w (H + offR vs i + k) 5 (cell8 (rA i k))) : MkA w H vs i (k + 1) := fun j l v xs hv q => by
  rcases q with q | ⟨rfl, q⟩
  · exact h j l v xs hv (.inl q)
  · by_cases c : l = k
    · subst c; exact b
    · exact h j l v xs hv (.inr ⟨rfl, by omega⟩)

theorem MarkW.chg {s : Nat} {f : Nat → Nat → List Value} {w w' : World} {base : Nat} {e : TypeId} {lb : Nat} {vs : Wides} {i k : Nat} (h : MarkW s f w base e lb vs i k) (c : Chg [] w w') (hlt : lb < w.heap.size) : MarkW s f w' base e lb vs i k :=
  ⟨fun j v xs hj => (c.cell (p := ⟨lb, j, none⟩) hlt (by simp)).trans (h.head j v xs hj), fun j v xs hj => (h.row j v xs hj).chg c (fun _ _ => by simp)⟩

/-- The marks behind: each in a block of its own. -/
def MkB (w : World) (f : Nat → Nat → List Value) (i k : Nat) : Prop := ∀ (j l : Nat), (j < i ∧ l < 16 ∨ j = i ∧ l < k) → ∃ b, f j l = [.slice (some ⟨b, 0, none⟩) 4 4] ∧ Blk w b 5 (cell8 (rB j l))

theorem MkB.chg {w w' : World} {s : List Nat} {f : Nat → Nat → List Value} {i k : Nat} (h : MkB w f i k) (c : Chg s w w') (hs : ∀ b ∈ s, ∀ xs, ¬ Blk w b 5 xs) : MkB w' f i k := fun j l q => by
  obtain ⟨b, e, hb⟩ := h j l q
  exact ⟨b, e, hb.chg c (fun hm => hs _ hm _ hb)⟩

theorem MkB.next {w : World} {f : Nat → Nat → List Value} {i : Nat} (h : MkB w f i 16) : MkB w f (i + 1) 0 := fun j l q => h j l (by omega)

/-- One mark more. -/
def setB (f : Nat → Nat → List Value) (i k : Nat) (x : Value) : Nat → Nat → List Value := fun j l => if j = i ∧ l = k then [x] else f j l

theorem setB_len {f : Nat → Nat → List Value} (h : ∀ j l, (f j l).length = 1) (i k : Nat) (x : Value) : ∀ j l, (setB f i k x j l).length = 1 := fun j l => by
  unfold setB
  split
  · rfl
  · exact h j l

theorem setB_at (f : Nat → Nat → List Value) (i k : Nat) (x : Value) : setB f i k x i k = [x] := by unfold setB; rw [if_pos ⟨rfl, rfl⟩]

theorem setB_marks (f : Nat → Nat → List Value) (i k : Nat) (x : Value) : marksW (setB f i k x) i k = marksW f i k := by
  unfold marksW
  refine List.map_congr_left fun l hl => ?_
  have := List.mem_range.1 hl
  unfold setB
  rw [if_neg (by omega)]

theorem setB_other (f : Nat → Nat → List Value) {i j : Nat} (k n : Nat) (x : Value) (h : j ≠ i) : marksW (setB f i k x) j n = marksW f j n := by
  unfold marksW
  refine List.map_congr_left fun l _ => ?_
  unfold setB
  rw [if_neg (fun e => h e.1)]

theorem MkB.add {w : World} {f : Nat → Nat → List Value} {i k : Nat} (h : MkB w f i k) {b : Nat} (hb : Blk w b 5 (cell8 (rB i k))) : MkB w (setB f i k (.slice (some ⟨b, 0, none⟩) 4 4)) i (k + 1) := fun j l q => by
  by_cases c : j = i ∧ l = k
  · obtain ⟨rfl, rfl⟩ := c
    exact ⟨b, setB_at _ _ _ _, hb⟩
  · obtain ⟨b', e, hb'⟩ := h j l (by omega)
    exact ⟨b', by unfold setB; rw [if_neg c]; exact e, hb'⟩

theorem GrowW.setB {s : Nat} {fA fB : Nat → Nat → List Value} {wi w : World} {base : Nat} {e : TypeId} {v : Value} {n i : Nat} {x : Value} {k : Nat} (h : GrowW s fA fB wi w base e v n i x k) (y : Value) : GrowW s fA (setB fB i k y) wi w base e v n i x k :=
  ⟨by rw [setB_marks]; exact h.row, h.rv, h.blk, h.chg⟩

theorem GrowW.quiet {s : Nat} {fA fB : Nat → Nat → List Value} {wi w w' : World} {base : Nat} {e : TypeId} {v : Value} {n i : Nat} {x : Value} {k : Nat} (h : GrowW s fA fB wi w base e v n i x k) (c : Chg [] w w') : GrowW s fA fB wi w' base e v n i x k :=
  ⟨h.row.chg c (fun _ _ => by simp), h.rv.chg c (fun _ _ => by simp), h.blk, h.chg.trans (c.mono (by simp))⟩

theorem LongW.setB {s : Nat} {fA fB : Nat → Nat → List Value} {w : World} {base : Nat} {e le : TypeId} {lb : Nat} {vs : Wides} {H0 : Nat} {lg : Value} {ys : List Value} {i : Nat} (h : LongW s fA fB w base e le lb vs H0 lg ys i) (k : Nat) (x : Value) : LongW s fA (setB fB i k x) w base e le lb vs H0 lg ys i :=
  ⟨h.head, h.row, h.long, fun j v xs y hj hy => by
    have hyl : ys.length = i := owns_len h.long
    have hji : j < i := by rw [← hyl]; exact (List.getElem?_eq_some_iff.1 hy).1
    obtain ⟨a, b, c⟩ := h.done j v xs y hj hy
    exact ⟨a, by rw [setB_other _ _ _ _ (by omega)]; exact b, c⟩, h.size⟩

theorem ownR_nil (ao : Option Addr) (c : Nat) (w : World) :
    Calls Tryz.prog 42 #[.slice ao 0 c] w fun e w' => e = .returned (.bool true) ∧ w = w' := by
  go_enter Tryz.func42, Tryz.ntmps42
  go_wp2
  refine wp_loop_rounds 1 ?_
  rw [rounds_succ]
  go_wp2
  refine wp_loop_rounds 1 ?_
  rw [rounds_succ]
  go_wp2
  refine wp_loop_rounds 1 ?_
  rw [rounds_succ]
  go_wp2
  go_ret
  exact ⟨rfl, rfl⟩

set_option maxHeartbeats 4000000 in
set_option maxRecDepth 100000 in
theorem ownR_any (base lb lc : Nat) (vs : Wides) (w : World) (h : OwnsW 1 w base 55 lb vs) (hn : vs.length ≤ 100) (hb : base ≤ w.heap.size)
    (hlen : ∀ (j : Nat) (v : Value) (xs : List (List Value)), vs[j]? = some (v, xs) → xs.length ≤ 1000000000) :
    Calls Tryz.prog 42 #[.slice (some ⟨lb, 0, none⟩) vs.length lc] w fun e w' => e = .returned (.bool true) ∧ Chg (blocksOf vs) w w' := by
  obtain ⟨i0, hi, hz0, hz1, hz2⟩ := info_parts info_rws
  obtain ⟨j0, ki, kz0, kz1, kz2⟩ := info_parts info_rwss
  replace hi := Lib.hid hi
  replace hz0 := Lib.hid hz0
  replace hz1 := Lib.hid hz1
  replace hz2 := Lib.hid hz2
  replace ki := Lib.hid ki
  replace kz0 := Lib.hid kz0
  replace kz1 := Lib.hid kz1
  replace kz2 := Lib.hid kz2
  have HO := Lib.hid h
  have HL := Lib.hid hlen
  obtain ⟨H, hH0⟩ : ∃ H, H = w.heap.size := ⟨_, rfl⟩
  have HH := Lib.hid hH0
  clear h hlen
  go_enter Tryz.func42, Tryz.ntmps42
  go_wp2_with fail
  go_loopw [3] (fun i wr => ∃ k : Nat, k ≤ vs.length ∧ i = .int .i64 k ∧ Hid (MarkW 1 (fAR H vs) wr base 55 lb vs k 0) ∧ Hid (MkA wr H vs k 0) ∧ Hid (wr.heap.size = H + offR vs k) ∧ Hid (Chg (blocksOf vs) w wr)) (fun i _ => vs.length - (intOf i).toNat)
  case atStart => exact ⟨0, Nat.zero_le _, rfl, HO.out.start, (fun j l v xs hv q => by omega), (by show _ = _; rw [hH0]; simp [offR]), Chg.refl _ _⟩
  case round =>
    obtain ⟨i, hil, rfl, OA, MA, SZ, BL⟩ := hrel
    by_cases hlt : i < vs.length
    · obtain ⟨⟨v, xs⟩, hv⟩ : ∃ d, vs[i]? = some d := ⟨_, List.getElem?_eq_getElem hlt⟩
      obtain ⟨ao, c, rfl⟩ := (HO.out.row i v xs hv).slice
      have hx := HL.out i _ xs hv
      have HV := Lib.hid hv
      clear hv hH0
      have hi0 : (0 : Int) ≤ i := Int.natCast_nonneg _
      have hi1 : (i : Int) < vs.length := by omega
      have hi2 : (i : Int) < 100 := by omega
      obtain ⟨wo, hwo⟩ : ∃ wo : World, wo = wr := ⟨_, rfl⟩
      subst hwo
      go_wp2_with fail
      go_loopw [4] (fun q wr => ∃ k : Nat, k ≤ xs.length ∧ q = .int .i64 k ∧ Hid (MarkW 1 (fAR H vs) wr base 55 lb vs i k) ∧ Hid (MkA wr H vs i k) ∧ Hid (wr.heap.size = H + offR vs i + k) ∧ Hid (Chg (blocksOf vs) w wr)) (fun q _ => xs.length - (intOf q).toNat)
      case atStart => exact ⟨0, Nat.zero_le _, rfl, OA, MA, SZ, BL⟩
      case round =>
        obtain ⟨k, hkl, rfl, OI, MI, SI, BI⟩ := hrel
        clear OA MA SZ BL
        have hh := OI.out.head i _ xs HV.out
        by_cases hk : k < xs.length
        · obtain ⟨g, rfl⟩ := (HO.out.row i _ xs HV.out).head (by omega)
          have hk0 : (0 : Int) ≤ k := Int.natCast_nonneg _
          have hk1 : (k : Int) < xs.length := by omega
          obtain ⟨wA, hwA⟩ : ∃ wA, wA = wr.alloc (.cells #[.int .u8 (i : Int), .int .u8 ((i : Int) / 256), .int .u8 ((k : Int) % 256), .int .u8 5] 5) := ⟨_, rfl⟩
          have CA : Chg [] wr wA := by rw [hwA]; exact (Chg.refl _ _).alloc _
          have BA : Blk wA wr.heap.size 5 (cell8 (rA i k)) := by rw [hwA]; exact Blk.made wr [.int .u8 (i : Int), .int .u8 ((i : Int) / 256), .int .u8 ((k : Int) % 256), .int .u8 5] _
          have lbl : lb < wr.heap.size := by have := HO.out.lt; have := BI.out.size; omega
          have hst := (OI.out.chg CA lbl).set (fAR_len H vs) HO.out HV.out hk (Nat.lt_of_lt_of_le lbl CA.size)
          rw [show fAR H vs i k = [.slice (some ⟨wr.heap.size, 0, none⟩) 4 4] from by unfold fAR; rw [SI.out], Nat.mul_one] at hst
          have hfr0 := hst.2.1 k
          obtain ⟨u, hu⟩ := hst.2.2 0 (by omega)
          rw [Nat.add_zero] at hu
          have HS : Hid (MarkW 1 (fAR H vs) (wA.setCell ⟨g, k, none⟩ (.slice (some ⟨wr.heap.size, 0, none⟩) 4 4)) base 55 lb vs i (k + 1)) := hst.1
          have hgb : g ∈ blocksOf vs := blocksOf_mem HV.out rfl
          have hgw : g < wr.heap.size := by
            have h1 := ((HO.out.row i _ xs HV.out).lt g rfl).2
            have := BI.out.size
            omega
          have CB : Hid (Chg (blocksOf vs) w (wA.setCell ⟨g, k, none⟩ (.slice (some ⟨wr.heap.size, 0, none⟩) 4 4))) := (BI.out.trans (CA.mono (by simp))).setCell (.inl hgb) _
          have SN : Hid ((wA.setCell ⟨g, k, none⟩ (.slice (some ⟨wr.heap.size, 0, none⟩) 4 4)).heap.size = H + offR vs i + (k + 1)) := by
            show _ = _
            rw [hwA]
            simp
            rw [SI.out]
            omega
          have hnu : ∀ ys, ¬ Blk wA g 5 ys := fun ys => not_u8 (by decide) ((OI.out.chg CA lbl).row i _ xs HV.out).2 rfl ys
          have MN : Hid (MkA (wA.setCell ⟨g, k, none⟩ (.slice (some ⟨wr.heap.size, 0, none⟩) 4 4)) H vs i (k + 1)) := by
            have m1 := (MI.out.chg CA (fun b hb => by cases hb)).add (by rw [← SI.out]; exact BA)
            exact m1.chg (s := [g]) ((Chg.refl _ _).setCell (.inl (by simp)) _) (fun b hb => by rw [List.mem_singleton.1 hb]; exact hnu)
          rw [hwA] at hfr0 hu HS CB SN MN
          clear hst hwA CA BA OI MI SI BI hnu hgb hgw lbl
          go_wp2_with fail
          exact ⟨⟨k + 1, by omega, by go_num, HS, MN, SN, CB⟩, by simp [intOf]; omega⟩
        · have hk2 : k = xs.length := by omega
          have OI2 := Lib.hid (OI.out.next HV.out hk2)
          have MI2 := Lib.hid (MI.out.next HV.out hk2)
          have SI2 : Hid (wr.heap.size = H + offR vs (i + 1)) := by show _ = _; rw [SI.out, offR_succ HV.out, hk2, Nat.add_assoc]
          clear hk2
          go_wp2_with fail
          exact ⟨⟨i + 1, by omega, by go_num, OI2, MI2, SI2, BI⟩, by simp [intOf]; omega⟩
    · obtain rfl : i = vs.length := by omega
      go_wp2_with fail
      have hH : w.heap.size ≤ wr.heap.size := BL.out.size
      have OB : Hid (LongW 1 (fAR H vs) (fun _ _ => [undef]) wr base 55 28 lb vs wr.heap.size (.slice none 0 0) [] 0) := OA.out.copy
      have MA2 := Lib.hid MA.out
      have MB0 : Hid (MkB wr (fun _ _ => [undef]) 0 0) := fun j l q => by omega
      obtain ⟨w2, hw2⟩ : ∃ w2 : World, w2 = wr := ⟨_, rfl⟩
      subst hw2
      clear OA hlt hil SZ MA hH0
      go_loopw [5, 6] (fun lg q wr => ∃ (i : Nat) (ys : List Value) (fB : Nat → Nat → List Value), i ≤ vs.length ∧ q = .int .i64 i ∧ Hid (∀ j l, (fB j l).length = 1) ∧ Hid (LongW 1 (fAR H vs) fB wr base 55 28 lb vs w2.heap.size lg ys i) ∧ Hid (MkA wr H vs vs.length 0) ∧ Hid (MkB wr fB i 0) ∧ Hid (Chg (blocksOf vs) w wr)) (fun _ q _ => vs.length - (intOf q).toNat)
      case atStart => exact ⟨0, [], fun _ _ => [undef], Nat.zero_le _, rfl, (fun _ _ => rfl), OB, MA2, MB0, BL⟩
      case round =>
        obtain ⟨i, ys, fB, hil, rfl, FL, OI, MA, MB, BI⟩ := hrel
        clear OB BL MA2 MB0
        by_cases hlt : i < vs.length
        · obtain ⟨⟨v, xs⟩, hv⟩ : ∃ d, vs[i]? = some d := ⟨_, List.getElem?_eq_getElem hlt⟩
          obtain ⟨ao, c, rfl⟩ := (HO.out.row i v xs hv).slice
          have hx := HL.out i _ xs hv
          have hh := OI.out.head i _ xs hv
          have HV := Lib.hid hv
          clear hv
          have hi0 : (0 : Int) ≤ i := Int.natCast_nonneg _
          have hi1 : (i : Int) < vs.length := by omega
          have hi2 : (i : Int) < 100 := by omega
          obtain ⟨wo, hwo⟩ : ∃ wo : World, wo = wr := ⟨_, rfl⟩
          subst hwo
          have hwo : w.heap.size ≤ wo.heap.size := BI.out.size
          obtain ⟨lg, hlg⟩ : ∃ lg, lg = u5 := ⟨_, rfl⟩
          subst hlg
          go_wp2_with fail
          go_loopw [7, 8] (fun x q wr => ∃ (k : Nat) (fB : Nat → Nat → List Value), k ≤ 16 ∧ q = .int .i64 k ∧ Hid (∀ j l, (fB j l).length = 1) ∧ Hid (LongW 1 (fAR H vs) fB wo base 55 28 lb vs w2.heap.size lg ys i) ∧ Hid (GrowW 1 (fAR H vs) fB wo wr base 55 (.slice ao xs.length c) xs.length i x k) ∧ Hid (MkA wr H vs vs.length 0) ∧ Hid (MkB wr fB i k) ∧ Hid (Chg (blocksOf vs) w wr)) (fun _ q _ => 16 - (intOf q).toNat)
          case atStart => exact ⟨0, fB, Nat.zero_le _, rfl, FL, OI, GrowW.start (OI.out.row i _ xs HV.out (Nat.le_refl _)), MA, MB, BI⟩
          case round =>
            clear FL OI MA MB
            obtain ⟨k, fC, hkl, rfl, FL, OI, J, MA, MB, BJ⟩ := hrel
            clear BI
            by_cases hk : k < 16
            · have hk0 : (0 : Int) ≤ k := Int.natCast_nonneg _
              have hk1 : (k : Int) < 16 := by omega
              clear hh
              obtain ⟨wA, hwA⟩ : ∃ wA, wA = wr.alloc (.cells #[.int .u8 ((-1 - (i : Int)) % 256), .int .u8 ((-1 - (i : Int)) / 256 % 256), .int .u8 (k : Int), .int .u8 5] 5) := ⟨_, rfl⟩
              have CA : Hid (Chg [] wr wA) := by rw [hwA]; exact (Chg.refl _ _).alloc _
              have BA : Hid (Blk wA wr.heap.size 5 (cell8 (rB i k))) := by rw [hwA]; exact Blk.made wr [.int .u8 ((-1 - (i : Int)) % 256), .int .u8 ((-1 - (i : Int)) / 256 % 256), .int .u8 (k : Int), .int .u8 5] _
              have SA : Hid (wA.heap.size = wr.heap.size + 1) := by rw [hwA]; show _ = _; simp
              obtain ⟨mv, hmv⟩ : ∃ mv : Value, mv = .slice (some ⟨wr.heap.size, 0, none⟩) 4 4 := ⟨_, rfl⟩
              have JA : Hid (GrowW 1 (fAR H vs) (setB fC i k mv) wo wA base 55 (.slice ao xs.length c) xs.length i u7 k) := (J.out.quiet CA.out).setB mv
              have FLA : Hid (∀ j l, (setB fC i k mv j l).length = 1) := setB_len FL.out i k mv
              have OIA : Hid (LongW 1 (fAR H vs) (setB fC i k mv) wo base 55 28 lb vs w2.heap.size lg ys i) := OI.out.setB k mv
              have MBA : Hid (MkB wA (setB fC i k mv) i (k + 1)) := by rw [hmv]; exact (MB.out.chg CA.out (fun b hb => by cases hb)).add BA.out
              have MAA : Hid (MkA wA H vs vs.length 0) := MA.out.chg CA.out (fun b hb => by cases hb)
              have BJA : Hid (Chg (blocksOf vs) w wA) := BJ.out.trans (CA.out.mono (by simp))
              have JL : Hid ((marksW (fAR H vs) i xs.length ++ marksW (setB fC i k mv) i k).length = xs.length + k) := by show _ = _; rw [List.length_append, marksW_len, marksW_len]
              have hbw : base ≤ wA.heap.size := by have := BJA.out.size; omega
              have JR : Hid (wA.ownsRow base 55 1 u7 (xs.length + k) (marksW (fAR H vs) i xs.length ++ marksW (setB fC i k mv) i k).flatten) := by have := JA.out.row.2; rw [JL.out] at this; exact this
              obtain ⟨xo, xc, hxx⟩ := owns_slice JR.out
              subst hxx
              have ST : Hid (∀ (o : Obj) (x' : Value) (wn : World), Hid (wn.ownsRow base 55 1 x' (xs.length + k + 1) ((marksW (fAR H vs) i xs.length ++ marksW (setB fC i k mv) i k).flatten ++ [mv])) → Hid ((wA.alloc o).grownBy wn (Value.slice xo (xs.length + k) xc).ownBlock) → Hid (x'.ownBlock = (Value.slice xo (xs.length + k) xc).ownBlock ∨ (x'.ownBlock = some (wA.alloc o).heap.size ∧ (wA.alloc o).grownBy wn none)) →
                  Hid (GrowW 1 (fAR H vs) (setB fC i k mv) wo wn base 55 (.slice ao xs.length c) xs.length i x' (k + 1)) ∧ Hid (MkA wn H vs vs.length 0) ∧ Hid (MkB wn (setB fC i k mv) i (k + 1)) ∧ Hid (Chg (blocksOf vs) w wn)) := fun o x' wn ol gr nb => by
                have CN : Chg (Value.slice xo (xs.length + k) xc).ownBlock.toList wA wn := (((Chg.refl [] wA).alloc o).mono (by simp)).grown gr.out (fun b hb => .inl (by rw [hb]; simp))
                have NU : ∀ b ∈ (Value.slice xo (xs.length + k) xc).ownBlock.toList, ∀ ys, ¬ Blk wA b 5 ys := fun b hb ys => not_u8 (by decide) JR.out (by simpa using hb) ys
                refine ⟨GrowW.step FLA.out (fAR_len H vs) (OIA.out.row i _ xs HV.out (Nat.le_refl _)) JA.out (by rw [setB_at]; exact ol.out) gr.out (by have := nb.out; rw [World.size_alloc] at this; exact this), MAA.out.chg CN NU, MBA.out.chg CN NU, (BJA.out.alloc _).grown gr.out (fun b hb => ?_)⟩
                rcases JA.out.blk with q | ⟨b', q, hge⟩
                · exact .inl (blocksOf_mem HV.out (by rw [← q]; exact hb))
                · rw [q] at hb
                  obtain rfl : b' = b := by simpa using hb
                  exact .inr (by omega)
              have NC : Hid (∀ (j : Nat) (u : Value), [mv][j]? = some u → (wA.alloc (.cells #[mv] 55)).cell? ((⟨wr.heap.size + 1, 0, none⟩ : Addr).add j) = some u) := by
                have h := new_cell wA mv 55
                rw [SA.out] at h
                exact h
              rw [hmv] at ST FLA OIA JR NC
              clear J MA MB BJ JA MBA MAA BJA JL BA CA FL OI
              rw [hwA] at ST JR hbw NC
              clear hwA SA hmv
              go_wp2_with (at_builtin; refine wpList_append_three _ rfl (.tmp 56) (.tmp 67) 28 rfl base 55 i0 (.slice none 0 0) 1 24 Tryz.underlying28 hi.out hz0.out hz1.out hz2.out rfl (by decide) _ (xs.length + k) _ rfl (JR.out.alloc _) ⟨wr.heap.size + 1, 0, none⟩ 1 1 [.slice (some ⟨wr.heap.size, 0, none⟩) 4 4] rfl rfl NC.out (by simp [Value.oneCell']) (by unfold maxLen; omega) (by omega) (by simp at hbw; simp; omega) ?_; intro x' wn ol gr nb; obtain ⟨J2, MA2, MB2, BN⟩ := ST.out _ x' wn ol gr nb; clear ol gr nb JR ST NC)
              exact ⟨⟨k + 1, _, by omega, by go_num, FLA, OIA, J2, MA2, MB2, BN⟩, by simp [intOf]; omega⟩
            · obtain rfl : k = 16 := by omega
              have JL : Hid ((marksW (fAR H vs) i xs.length ++ marksW fC i 16).length = xs.length + 16) := by show _ = _; rw [List.length_append, marksW_len, marksW_len]
              have hbw : base ≤ wr.heap.size := by have := BJ.out.size; omega
              have LG := Lib.hid (owns_chg OI.out.long J.out.chg (fun b hb hm => by
                have h1 := (OI.out.long.lt b hb).1
                have h2 := ((HO.out.row i _ xs HV.out).lt b (by simpa using hm)).2
                omega))
              obtain ⟨xo, xc, hx7⟩ := J.out.row.slice
              rw [JL.out] at hx7
              subst hx7
              have hsz : w2.heap.size ≤ wr.heap.size := by have h1 := OI.out.size; have h2 := J.out.chg.size; omega
              clear hh
              go_wp2_with (with_reducible refine wpList_append_three _ rfl (.tmp 69) (.tmp 71) 45 rfl w2.heap.size 28 j0 (.slice none 0 0) 1 24 Tryz.underlying45 ki.out kz0.out kz1.out kz2.out rfl (by decide) _ i _ rfl (LG.out.alloc _) ⟨wr.heap.size, 0, none⟩ 1 1 [.slice xo (xs.length + 16) xc] rfl rfl (new_cell _ _ _) (by simp [Value.oneCell']) (by unfold maxLen; omega) (by omega) (by simp; omega) ?_)
              intro lg' wn ol gr nb
              have O2 : Hid (LongW 1 (fAR H vs) fC wn base 55 28 lb vs w2.heap.size lg' (ys ++ [.slice xo (xs.length + 16) xc]) (i + 1)) := LongW.next HO.out hH OI.out HV.out J.out ol.out gr.out nb.out
              have CN : Chg lg.ownBlock.toList wr wn := (((Chg.refl [] wr).alloc _).mono (by simp)).grown gr.out (fun b hb => .inl (by rw [hb]; simp))
              have NU : ∀ b ∈ lg.ownBlock.toList, ∀ ys, ¬ Blk wr b 5 ys := fun b hb ys => not_u8 (by decide) LG.out (by simpa using hb) ys
              have MA2 : Hid (MkA wn H vs vs.length 0) := MA.out.chg CN NU
              have MB2 : Hid (MkB wn fC (i + 1) 0) := (MB.out.chg CN NU).next
              have BN : Hid (Chg (blocksOf vs) w wn) := ((BJ.out.alloc _).grown gr.out (fun b hb => .inr (by have := (OI.out.long.lt b hb).1; omega)))
              clear ol gr nb J BJ OI LG JL CN NU MA MB
              go_wp2_with fail
              exact ⟨⟨i + 1, _, fC, by omega, by go_num, FL, O2, MA2, MB2, BN⟩, by simp [intOf]; omega⟩
        · obtain rfl : i = vs.length := by omega
          have hyl := Lib.hid (owns_len OI.out.long)
          obtain ⟨lgo, lgc, hlg⟩ := owns_slice OI.out.long
          subst hlg
          clear hlt hil
          go_wp2_with fail
          obtain ⟨w3, hw3⟩ : ∃ w3 : World, w3 = wr := ⟨_, rfl⟩
          subst hw3
          go_loopw [9] (fun q wr => ∃ i : Nat, i ≤ vs.length ∧ q = .int .i64 i ∧ Hid (Chg [] w3 wr)) (fun q _ => vs.length - (intOf q).toNat)
          case atStart => exact ⟨0, Nat.zero_le _, rfl, Chg.refl _ _⟩
          case round =>
            obtain ⟨i, hil, rfl, C⟩ := hrel
            by_cases hlt : i < vs.length
            · obtain ⟨⟨v, xs⟩, hv⟩ : ∃ d, vs[i]? = some d := ⟨_, List.getElem?_eq_getElem hlt⟩
              obtain ⟨y, hy⟩ : ∃ y, ys[i]? = some y := ⟨_, List.getElem?_eq_getElem (by rw [hyl.out]; exact hlt)⟩
              have hd := OI.out.done i v xs y hv hy
              obtain ⟨yo, yc, hys⟩ := hd.ry.slice
              rw [List.length_append, marksW_len, marksW_len] at hys
              subst hys
              obtain ⟨ao, c, rfl⟩ := (HO.out.row i v xs hv).slice
              have hx := HL.out i _ xs hv
              have hh3 := OI.out.head i _ xs hv
              obtain ⟨g, rfl, hg3⟩ := owns_at OI.out.long hy
              have lbl : lb < w3.heap.size := by have := HO.out.lt; have := BI.out.size; omega
              have gl : g < w3.heap.size := (OI.out.long.lt g (by simp [Value.ownBlock])).2
              have KC : Hid (∀ W, Chg [] w3 W → W.cell? ⟨lb, i, none⟩ = some (.slice ao xs.length c) ∧ W.cell? ⟨g, i, none⟩ = some (.slice yo (xs.length + 16) yc)) := fun W c9 =>
                ⟨(c9.cell (p := ⟨lb, i, none⟩) lbl (by simp)).trans hh3, (c9.cell (p := ⟨g, i, none⟩) gl (by simp)).trans hg3⟩
              have HD := Lib.hid hd
              have HV := Lib.hid hv
              obtain ⟨hh, hg⟩ := KC.out wr C.out
              clear hd hv hy hh3 hg3 lbl gl
              have hi0 : (0 : Int) ≤ i := Int.natCast_nonneg _
              have hi1 : (i : Int) < vs.length := by omega
              have hi2 : (i : Int) < 100 := by omega
              have il : i < vs.length := hlt
              have IL := Lib.hid il
              clear il
              go_wp2_with fail
              go_loopw [11] (fun q wr => ∃ k : Nat, k ≤ xs.length ∧ q = .int .i64 k ∧ Hid (Chg [] w3 wr)) (fun q _ => xs.length - (intOf q).toNat)
              case atStart => exact ⟨0, Nat.zero_le _, rfl, C⟩
              case round =>
                obtain ⟨k, hkl, rfl, CI⟩ := hrel
                clear hh hg
                by_cases hk : k < xs.length
                · obtain ⟨b1, rfl, c1⟩ := HD.out.rv.at (k := k) (marksW_get (fAR H vs) i _ _ hk)
                  obtain ⟨b2, rfl, c2⟩ := HD.out.ry.at (k := k) (x := fAR H vs i k) (by rw [List.getElem?_append_left (by rw [marksW_len]; exact hk)]; exact marksW_get (fAR H vs) i _ _ hk)
                  obtain ⟨m, hm⟩ : ∃ m, m = H + offR vs i + k := ⟨_, rfl⟩
                  have d1 := c1 0 (.slice (some ⟨m, 0, none⟩) 4 4) (by rw [hm]; rfl)
                  have d2 := c2 0 (.slice (some ⟨m, 0, none⟩) 4 4) (by rw [hm]; rfl)
                  rw [Nat.mul_one, Nat.add_zero] at d1 d2
                  have BM : Hid (Blk w3 m 5 (cell8 (rA i k))) := by rw [hm]; exact MA.out i k _ xs HV.out (.inl ⟨IL.out, hk⟩)
                  have l1 : b1 < w3.heap.size := World.block_lt_of_cell? _ _ d1
                  have l2 : b2 < w3.heap.size := World.block_lt_of_cell? _ _ d2
                  have KD : Hid (∀ W, Chg [] w3 W → W.cell? ⟨b1, k, none⟩ = some (.slice (some ⟨m, 0, none⟩) 4 4) ∧ W.cell? ⟨b2, k, none⟩ = some (.slice (some ⟨m, 0, none⟩) 4 4)) := fun W c9 =>
                    ⟨(c9.cell (p := ⟨b1, k, none⟩) l1 (by simp)).trans d1, (c9.cell (p := ⟨b2, k, none⟩) l2 (by simp)).trans d2⟩
                  have SM : Hid (∀ (W : World) (b : Nat), Chg [] w3 W → Blk W b 5 (cell8 (rA i k)) → Calls Tryz.prog 33 #[.slice (some ⟨m, 0, none⟩) 4 4, .slice (some ⟨b, 0, none⟩) 4 4] W fun e w' => e = .returned (.bool true) ∧ ∃ q, w' = W.drewN q) := fun W b c9 hb =>
                    same_true _ _ (rA i k) W (sl_blk4 (BM.out.chg c9 (by simp)) rfl) (sl_blk4 hb rfl) (by show 4 ≤ _; decide)
                  clear c1 c2 d1 d2 l1 l2 hm
                  obtain ⟨hh, hg⟩ := KC.out wr CI.out
                  obtain ⟨d1, d2⟩ := KD.out wr CI.out
                  have hk0 : (0 : Int) ≤ k := Int.natCast_nonneg _
                  have hk1 : (k : Int) < xs.length := by omega
                  have S1 := Lib.hid (SM.out (wr.alloc (.cells #[.int .u8 (i : Int), .int .u8 ((i : Int) / 256), .int .u8 ((k : Int) % 256), .int .u8 5] 5)) wr.heap.size (CI.out.alloc _) (Blk.made wr [.int .u8 (i : Int), .int .u8 ((i : Int) / 256), .int .u8 ((k : Int) % 256), .int .u8 5] _))
                  have S2 : Hid (∀ W, Chg [] w3 W → Calls Tryz.prog 33 #[.slice (some ⟨m, 0, none⟩) 4 4, .slice (some ⟨W.heap.size, 0, none⟩) 4 4] (W.alloc (.cells #[.int .u8 (i : Int), .int .u8 ((i : Int) / 256), .int .u8 ((k : Int) % 256), .int .u8 5] 5)) fun e w' => e = .returned (.bool true) ∧ ∃ q, w' = (W.alloc (.cells #[.int .u8 (i : Int), .int .u8 ((i : Int) / 256), .int .u8 ((k : Int) % 256), .int .u8 5] 5)).drewN q) := fun W c9 => SM.out _ W.heap.size (c9.alloc _) (Blk.made W [.int .u8 (i : Int), .int .u8 ((i : Int) / 256), .int .u8 ((k : Int) % 256), .int .u8 5] _)
                  clear SM BM
                  go_wp2_with (go_at_call 33; first | ((with_reducible refine S1.out.mono ?_); rintro e w5 ⟨rfl, hq⟩; have C2 : Hid (Chg [] w3 w5) := (by obtain ⟨q, rfl⟩ := hq; exact (CI.out.alloc _).drewN q); clear hq hh hg d1 d2 S1; obtain ⟨hh, hg⟩ := KC.out _ C2.out; obtain ⟨d1, d2⟩ := KD.out _ C2.out) | ((with_reducible refine (S2.out w5 C2.out).mono ?_); rintro e w6 ⟨rfl, hq⟩; have C4 : Hid (Chg [] w3 w6) := (by obtain ⟨q, rfl⟩ := hq; exact (C2.out.alloc _).drewN q); clear hq hh hg d1 d2 S2))
                  exact ⟨⟨k + 1, by omega, by go_num, C4⟩, by simp [intOf]; omega⟩
                · obtain rfl : k = xs.length := by omega
                  obtain ⟨hh, hg⟩ := KC.out wr CI.out
                  go_wp2_with fail
                  go_loopw [12] (fun q wr => ∃ l : Nat, l ≤ 16 ∧ q = .int .i64 l ∧ Hid (Chg [] w3 wr)) (fun q _ => 16 - (intOf q).toNat)
                  case atStart => exact ⟨0, Nat.zero_le _, rfl, CI⟩
                  case round =>
                    obtain ⟨l, hll, rfl, CL⟩ := hrel
                    clear hh hg
                    by_cases hl : l < 16
                    · obtain ⟨b2, rfl, c2⟩ := HD.out.ry.at (k := xs.length + l) (x := fB i l) (by
                        rw [List.getElem?_append_right (by rw [marksW_len]; omega), marksW_len, Nat.add_sub_cancel_left]
                        exact marksW_get fB i _ _ hl)
                      obtain ⟨m, hm, BM0⟩ := MB.out i l (.inl ⟨IL.out, hl⟩)
                      have d2 := c2 0 (.slice (some ⟨m, 0, none⟩) 4 4) (by rw [hm]; rfl)
                      rw [Nat.mul_one, Nat.add_zero] at d2
                      have BM := Lib.hid BM0
                      have l2 : b2 < w3.heap.size := World.block_lt_of_cell? _ _ d2
                      have KD : Hid (∀ W, Chg [] w3 W → W.cell? ⟨b2, xs.length + l, none⟩ = some (.slice (some ⟨m, 0, none⟩) 4 4)) := fun W c9 =>
                        (c9.cell (p := ⟨b2, xs.length + l, none⟩) l2 (by simp)).trans d2
                      have S1 : Hid (Calls Tryz.prog 33 #[.slice (some ⟨m, 0, none⟩) 4 4, .slice (some ⟨wr.heap.size, 0, none⟩) 4 4] (wr.alloc (.cells #[.int .u8 ((-1 - (i : Int)) % 256), .int .u8 ((-1 - (i : Int)) / 256 % 256), .int .u8 (l : Int), .int .u8 5] 5)) fun e w' => e = .returned (.bool true) ∧ ∃ q, w' = (wr.alloc (.cells #[.int .u8 ((-1 - (i : Int)) % 256), .int .u8 ((-1 - (i : Int)) / 256 % 256), .int .u8 (l : Int), .int .u8 5] 5)).drewN q) :=
                        same_true _ _ (rB i l) _ (sl_blk4 (BM.out.chg (CL.out.alloc _) (by simp)) rfl) (sl_blk4 (Blk.made wr [.int .u8 ((-1 - (i : Int)) % 256), .int .u8 ((-1 - (i : Int)) / 256 % 256), .int .u8 (l : Int), .int .u8 5] _) rfl) (by show 4 ≤ _; decide)
                      clear c2 d2 l2 hm BM0 BM
                      obtain ⟨hh, hg⟩ := KC.out wr CL.out
                      have d2 := KD.out wr CL.out
                      have hl0 : (0 : Int) ≤ l := Int.natCast_nonneg _
                      have hl1 : (l : Int) < 16 := by omega
                      go_wp2_with (go_at_call 33; (with_reducible refine S1.out.mono ?_); rintro e w5 ⟨rfl, hq⟩; have C2 : Hid (Chg [] w3 w5) := (by obtain ⟨q, rfl⟩ := hq; exact (CL.out.alloc _).drewN q); clear hq hh hg d2 S1)
                      exact ⟨⟨l + 1, by omega, by go_num, C2⟩, by simp [intOf]; omega⟩
                    · go_wp2_with fail
                      exact ⟨⟨i + 1, by omega, by go_num, CL⟩, by simp [intOf]; omega⟩
            · go_wp2_with fail
              go_ret
              exact ⟨rfl, BI.out.trans (C.out.mono (by simp))⟩

end Go.Proofs.YtnkdgmnmmmjgjaaGreat
