/-
  The program's sums: New, Add, Value, Count, Nought; and First. By an AI agent.
-/
import Derived.Test.YtaciamnfkidmfaaRefXor4
import Derived.Test.YtaciamnfkidmfaaGClone
import Derived.Test.YtaciamnfkidmfaaGOwnMem
import Derived.Laws.BitsAllLaws
namespace Go.Proofs.Ytaciamnfkidmfaa
open Go.RowKit

/-- A sum of the program's: its pointer, its blocks, its bytes, how many. -/
structure SumIn (w : World) (base g : Nat) (S : List Nat) (bs : List Nat) (n : Nat) : Prop where
  here : ∃ u, Blk w g 96 [u, .int .i64 (n : Int)] ∧ w.ownsRow base 5 1 u bs.length ((ints bs).map (Value.int .u8)) ∧ u.ownBlock ≠ some g ∧ S = g :: u.ownBlock.toList
  bytes : Bs bs
  new : base ≤ g

theorem SumIn.chg {w w' : World} {s : List Nat} {base g : Nat} {S bs : List Nat} {n : Nat} (h : SumIn w base g S bs n) (c : Chg s w w') (hs : ∀ k ∈ S, k ∉ s) : SumIn w' base g S bs n := by
  obtain ⟨u, h1, h2, h3, h4⟩ := h.here
  refine ⟨⟨u, h1.chg c (hs g (by rw [h4]; simp)), owns_chg h2 c (fun k hk => hs k (by rw [h4, hk]; simp)), h3, h4⟩, h.bytes, h.new⟩

theorem SumIn.lt {w : World} {base g : Nat} {S bs : List Nat} {n : Nat} (h : SumIn w base g S bs n) : ∀ k ∈ S, base ≤ k ∧ k < w.heap.size := by
  obtain ⟨u, h1, h2, h3, h4⟩ := h.here
  intro k hk
  rw [h4] at hk
  rcases List.mem_cons.1 hk with rfl | hk
  · exact ⟨h.new, h1.lt⟩
  · exact h2.lt k (by simpa using hk)

/-- A new sum. -/
def SMade (w : World) (m : Nat) (e : Ending) (w' : World) : Prop :=
  ∃ g S, e = .returned (.pointer (some ⟨g, 0, none⟩)) ∧ Hid (SumIn w' w.heap.size g S (Xr.noughts m) 0) ∧ Hid (Chg [] w w')

set_option maxHeartbeats 1000000 in
set_option maxRecDepth 100000 in
theorem noughts_any (m : Nat) (w : World) (hm : m ≤ 1000000) : Calls Try.prog 58 #[.int .i64 m] w (SMade w m) := by
  obtain ⟨i0, hi, hz0, hz1, hz2⟩ := info_parts info_u8
  go_enter Try.func58, Try.ntmps58
  go_wp2_with (at_make; refine wpList_make_full _ rfl _ _ 25 rfl w.heap.size 5 i0 (.int .u8 0) 1 Try.underlying25 hi hz0 hz1 .i64 .i64 _ _ m rfl rfl rfl rfl (by rw [hz2]; omega) (by unfold maxLen; omega) (Nat.le_refl _) ?_; intro w1 hown hgrow)
  go_ret
  rw [made_replicate _ _ rfl] at hown
  have hz := hgrow.size
  have O : w1.ownsRow w.heap.size 5 1 (.slice (some ⟨w.heap.size, 0, none⟩) m m) m ((ints (Xr.noughts m)).map (Value.int .u8)) := by
    rw [show (ints (Xr.noughts m)).map (Value.int .u8) = List.replicate m (Value.int .u8 0) by simp [ints, Xr.noughts]]
    exact hown
  have hlt := (hown.lt w.heap.size rfl).2
  refine ⟨w1.heap.size, _, rfl, ⟨⟨_, Blk.made w1 [_, .int .i64 0] _, ?_, ?_, rfl⟩, ?_, by omega⟩, ((Chg.refl _ w).grown hgrow (by intro k hk; cases hk)).alloc _⟩
  · rw [show (Xr.noughts m).length = m by simp [Xr.noughts]]
    exact O.alloc _
  · simp [Value.ownBlock]
    omega
  · intro b hb
    rw [(List.mem_replicate.1 hb).2]
    decide

/-- A new sum, or none. -/
def SNewed (w : World) (n : Int) (e : Ending) (w' : World) : Prop :=
  ((n < 0 ∨ 4096 < n) ∧ e = .returned (.tuple #[.pointer none, .int .u16 1]) ∧ Hid (Chg [] w w')) ∨
  ((0 ≤ n ∧ n ≤ 4096) ∧ ∃ g S, e = .returned (.tuple #[.pointer (some ⟨g, 0, none⟩), .int .u16 0]) ∧ Hid (SumIn w' w.heap.size g S (Xr.noughts n.toNat) 0) ∧ Hid (Chg [] w w'))

set_option maxHeartbeats 1000000 in
set_option maxRecDepth 100000 in
theorem new_any (n : Int) (w : World) (hn : -9223372036854775808 ≤ n ∧ n ≤ 9223372036854775807) : Calls Try.prog 31 #[.int .i64 n] w (SNewed w n) := by
  by_cases hbad : n < 0 ∨ 4096 < n
  · by_cases h1 : n < 0
    · go_enter Try.func31, Try.ntmps31
      go_wp2_with fail
      go_ret2
      exact .inl ⟨hbad, rfl, Chg.refl _ _⟩
    · have h2 : 4096 < n := by omega
      go_enter Try.func31, Try.ntmps31
      go_wp2_with fail
      go_ret2
      exact .inl ⟨hbad, rfl, Chg.refl _ _⟩
  · obtain ⟨m, rfl⟩ := Int.eq_ofNat_of_zero_le (show 0 ≤ n by omega)
    have hm : m ≤ 4096 := by omega
    have h1 : ¬ (m : Int) < 0 := by omega
    have h2 : ¬ (4096 : Int) < m := by omega
    clear hbad
    go_enter Try.func31, Try.ntmps31
    go_wp2_with fail
    refine (noughts_any m _ (by omega)).mono ?_
    rintro e w' ⟨g, S, rfl, H, C⟩
    go_wp2_with fail
    go_ret2
    exact .inr ⟨⟨by omega, by omega⟩, g, S, rfl, by simpa using H, C⟩

/-- Behind an Add. -/
def SAdded (w : World) (base g : Nat) (S : List Nat) (bs : List Nat) (n : Nat) (xs : List Int) (e : Ending) (w' : World) : Prop :=
  e = .returned (.int .u16 ((addErr bs xs : Nat) : Int)) ∧ ∃ S', Hid (SumIn w' base g S' (addVal bs xs) (addMany bs n xs)) ∧ Hid (Chg S w w') ∧ ∀ k ∈ S', k ∈ S ∨ w.heap.size ≤ k

/-- The same, its blocks as before. -/
def SPut (w : World) (base g : Nat) (S : List Nat) (bs : List Nat) (n : Nat) (xs : List Int) (e : Ending) (w' : World) : Prop :=
  e = .returned (.int .u16 ((addErr bs xs : Nat) : Int)) ∧ Hid (SumIn w' base g S (addVal bs xs) (addMany bs n xs)) ∧ Hid (Chg S w w')

/-- bs, with the first k bytes of ys laid over it. -/
def over (bs ys : List Nat) (k : Nat) : List Nat := (List.range bs.length).map fun j => if j < k then bs.getD j 0 ^^^ ys.getD j 0 else bs.getD j 0

theorem over_length (bs ys : List Nat) (k : Nat) : (over bs ys k).length = bs.length := by simp [over]

theorem over_getD (bs ys : List Nat) (k : Nat) {j : Nat} (hj : j < bs.length) : (over bs ys k).getD j 0 = if j < k then bs.getD j 0 ^^^ ys.getD j 0 else bs.getD j 0 := by
  simp [over, List.getD, hj]

theorem over_zero (bs ys : List Nat) : over bs ys 0 = bs := by
  refine Xr.list_ext (over_length _ _ _) rfl fun k hk => ?_
  rw [over_getD _ _ _ hk, if_neg (by omega)]

theorem over_step (bs ys : List Nat) {k : Nat} (hk : k < bs.length) : (over bs ys k).set k (bs.getD k 0 ^^^ ys.getD k 0) = over bs ys (k + 1) := by
  refine Xr.list_ext (n := bs.length) (by simp [over_length]) (over_length _ _ _) fun j hj => ?_
  rw [over_getD _ _ _ hj]
  by_cases e : k = j
  · subst e
    rw [if_pos (by omega)]
    simp [List.getD, over_length, hk]
  · have h1 : ((over bs ys k).set k (bs.getD k 0 ^^^ ys.getD k 0)).getD j 0 = (over bs ys k).getD j 0 := by
      simp [List.getD, List.getElem?_set_ne e]
    rw [h1, over_getD _ _ _ hj]
    by_cases h : j < k
    · rw [if_pos h, if_pos (by omega)]
    · rw [if_neg h, if_neg (by omega)]

theorem over_full (bs ys : List Nat) : over bs ys bs.length = Xr.ors bs.length [bs, ys] := by
  refine Xr.list_ext (over_length _ _ _) (Xr.ors_length _ _) fun k hk => ?_
  rw [over_getD _ _ _ hk, if_pos hk, Xr.ors_get _ hk]
  simp [Xr.at_, Xr.fold]

theorem over_bs {bs ys : List Nat} (h : Bs bs) (hy : Bs ys) (k : Nat) : Bs (over bs ys k) := by
  intro b hb
  obtain ⟨j, hj, rfl⟩ := List.mem_map.1 hb
  have lt : ∀ (l : List Nat), Bs l → l.getD j 0 < 256 := fun l hl => by
    rw [List.getD_eq_getElem?_getD]
    by_cases h : j < l.length
    · rw [List.getElem?_eq_getElem h]
      exact hl _ (List.getElem_mem h)
    · rw [List.getElem?_eq_none (by omega)]
      decide
  show (if j < k then _ else _) < 256
  split
  · exact Nat.xor_lt_two_pow (n := 8) (lt _ h) (lt _ hy)
  · exact lt _ h

set_option maxHeartbeats 2000000 in
set_option maxRecDepth 100000 in
theorem put_any (base g : Nat) (S bs : List Nat) (n : Nat) (v : Value) (xs : List Int) (w : World) (h : SumIn w base g S bs n) (hv : Sl w v xs) (ho : 0 < xs.length → ∀ k, v.ownBlock = some k → k ∉ S) (hby : By xs) (hb1 : bs.length ≤ 1000000) (hn : n ≤ 1000000) :
    Calls Try.prog 33 #[.pointer (some ⟨g, 0, none⟩), v] w (SPut w base g S bs n xs) := by
  obtain ⟨u, hblk, hown, hne, hS⟩ := h.here
  obtain ⟨uo, uc, rfl⟩ := owns_slice hown
  obtain ⟨vo, vc, rfl⟩ := hv.slice
  have c0 := hblk.cell (j := 0) rfl
  by_cases hl : xs.length = bs.length
  · have E : Hid (addErr bs xs = 0) := by show _ = _; unfold addErr; rw [if_pos hl]
    have EV : Hid (addVal bs xs = over bs (nats xs) bs.length) := by show _ = _; unfold addVal; rw [if_pos hl, over_full]
    have EM : Hid (addMany bs n xs = n + 1) := by show _ = _; unfold addMany; rw [if_pos hl]
    have hb2 : ((xs.length : Int) != (bs.length : Int)) = false := by simp; omega
    have HBL := Lib.hid hblk
    have HOW := Lib.hid hown
    have HNE := Lib.hid hne
    have HSS := Lib.hid hS
    have HV := Lib.hid hv
    have HO := Lib.hid ho
    have HY := Lib.hid hby
    have HBB := Lib.hid h.bytes
    have HNW := Lib.hid h.new
    have HL := Lib.hid hl
    have hn1 : xs.length ≤ 9223372036854775807 := by omega
    have hln : (bs.length : Int) = (xs.length : Int) := by omega
    clear h hblk hown hne hS hv ho hby hl
    go_enter Try.func33, Try.ntmps33
    go_wp2_with fail
    clear c0
    go_loopw [17] (fun i wr => ∃ k : Nat, k ≤ xs.length ∧ i = .int .i64 k ∧ Hid (Blk wr g 96 [.slice uo bs.length uc, .int .i64 (n : Int)]) ∧ Hid (wr.ownsRow base 5 1 (.slice uo bs.length uc) bs.length ((ints (over bs (nats xs) k)).map (Value.int .u8))) ∧ Hid (Chg S w wr)) (fun i _ => xs.length - (intOf i).toNat)
    case atStart => exact ⟨0, Nat.zero_le _, rfl, HBL, by rw [over_zero]; exact HOW, Chg.refl _ _⟩
    case round =>
      obtain ⟨k, hk, rfl, B, O, C⟩ := hrel
      by_cases hlt : k < xs.length
      · have hlt2 : k < bs.length := by have := HL.out; omega
        obtain ⟨gx, rfl⟩ := owns_head O.out (by omega)
        have V2 : Sl wr (.slice vo xs.length vc) xs := HV.out.chg C.out (HO.out (by omega))
        obtain ⟨vb, vof, rfl, _, cv⟩ := sl_cell V2 hlt
        have hset := fun u => (owns_set O.out hlt2 u).1
        have hfr := (owns_set O.out hlt2 (.int .u8 0)).2.1
        have cu : wr.cell? ⟨gx, k, none⟩ = some (.int .u8 ((bs.getD k 0 : Nat) : Int)) := by
          have := ownsRow_cellAt O.out (j := k) (u := .int .u8 ((bs.getD k 0 : Nat) : Int)) (by
            rw [List.getElem?_map]
            have h1 := ints_get (over bs (nats xs) k) k
            rw [over_getD _ _ _ hlt2, if_neg (by omega)] at h1
            rw [List.getD_eq_getElem?_getD, List.getElem?_eq_getElem (by rw [ints_length, over_length]; exact hlt2)] at h1
            rw [List.getElem?_eq_getElem (by rw [ints_length, over_length]; exact hlt2)]
            simp at h1
            simp [h1])
          exact this
        obtain ⟨y, hy, hyl, hy2⟩ := nats_getD_any HY.out k
        have hbl : bs.getD k 0 < 256 := by
          rw [List.getD_eq_getElem?_getD, List.getElem?_eq_getElem hlt2]
          exact HBB.out _ (List.getElem_mem hlt2)
        have hx := u8_xor_nat (bs.getD k 0) y hbl hyl
        rw [hy] at cv
        have hst := over_step bs (nats xs) hlt2
        rw [hy2] at hst
        have cg := B.out.cell (j := 0) rfl
        have hgx : gx ≠ g := by
          intro e
          subst e
          exact HNE.out rfl
        have hset2 := Lib.hid (hset (.int .u8 ((bs.getD k 0 ^^^ y : Nat) : Int)))
        have hgS : gx ∈ S := by rw [HSS.out]; simp [Value.ownBlock]
        have HST := Lib.hid hst
        have hk0 : (0 : Int) ≤ k := Int.natCast_nonneg _
        have hk1 : (k : Int) < xs.length := by omega
        have hk2 : (k : Int) < bs.length := by omega
        generalize bs.getD k 0 = z at *
        clear hset hst hy hy2 V2 HV
        have hgS := Lib.hid hgS
        go_wp2_with fail
        exact ⟨⟨k + 1, by omega, by go_num, B.out.other (by simpa using hgx) _, by rw [← HST.out, ints_set]; exact hset2.out, C.out.setCell (.inl hgS.out) _⟩, by simp [intOf]; omega⟩
      · have hkn : k = bs.length := by have := HL.out; omega
        subst hkn
        have cg := B.out.cell (j := 1) rfl
        have cf := B.out.free 1
        have hl2 := HL.out
        rw [← HL.out] at hlt
        go_wp2_with fail
        go_ret
        refine ⟨by rw [E.out]; rfl, ?_, C.out.setCell (.inl (by rw [HSS.out]; simp)) _⟩
        rw [EV.out, EM.out]
        refine ⟨⟨.slice uo bs.length uc, by simpa using B.out.set 1 (.int .i64 ((n : Int) + 1)), ?_, HNE.out, HSS.out⟩, over_bs HBB.out (nats_bs HY.out) _, HNW.out⟩
        rw [over_length]
        exact owns_chg O.out ((Chg.refl [g] _).setCell (.inl (by simp)) _) (fun k hk hm => HNE.out (by rw [hk]; simpa using hm))
  · have E : Hid (addErr bs xs = 4) := by show _ = _; unfold addErr; rw [if_neg hl]
    have EV : Hid (addVal bs xs = bs) := by show _ = _; unfold addVal; rw [if_neg hl]
    have EM : Hid (addMany bs n xs = n) := by show _ = _; unfold addMany; rw [if_neg hl]
    have hb : ((xs.length : Int) == (bs.length : Int)) = false := beq_false_of_ne (by omega)
    have hb2 : ((xs.length : Int) != (bs.length : Int)) = true := by simp; omega
    have H := Lib.hid h
    clear h hblk hown hne hS hv ho hby
    go_enter Try.func33, Try.ntmps33
    go_wp2_with fail
    go_ret
    exact ⟨by rw [E.out]; rfl, by rw [EV.out, EM.out]; exact H, Chg.refl _ _⟩

theorem add_any (base g : Nat) (S bs : List Nat) (n : Nat) (v : Value) (xs : List Int) (w : World) (h : SumIn w base g S bs n) (hv : Sl w v xs) (ho : 0 < xs.length → ∀ k, v.ownBlock = some k → k ∉ S) (hby : By xs) (hb1 : bs.length ≤ 1000000) (_hx1 : xs.length ≤ 1000000) (hn : n ≤ 1000000) (_hbase : base ≤ w.heap.size) :
    Calls Try.prog 33 #[.pointer (some ⟨g, 0, none⟩), v] w (SAdded w base g S bs n xs) :=
  (put_any base g S bs n v xs w h hv ho hby hb1 hn).mono fun _ _ ⟨he, h1, h2⟩ => ⟨he, S, h1, h2, fun _ hk => .inl hk⟩

set_option maxHeartbeats 1000000 in
set_option maxRecDepth 100000 in
theorem value_any (base g : Nat) (S bs : List Nat) (n : Nat) (w : World) (h : SumIn w base g S bs n) (hb1 : bs.length ≤ 1000000) :
    Calls Try.prog 36 #[.pointer (some ⟨g, 0, none⟩)] w (Gives1 w bs) := by
  obtain ⟨u, hblk, hown, hne, hS⟩ := h.here
  have hsl := own_sl hown
  obtain ⟨uo, uc, rfl⟩ := owns_slice hown
  have c0 := hblk.cell (j := 0) rfl
  have hc := clone_any _ _ w hsl (by rw [ints_length]; omega)
  clear h hblk hown hne hS hsl
  go_enter Try.func36, Try.ntmps36
  go_wp2_with fail
  refine hc.mono ?_
  rintro e w' ⟨v', rfl, O, C⟩
  rw [ints_length] at O
  have O' := Lib.hid O
  have C' := Lib.hid C
  clear O C hc
  go_wp2_with fail
  go_ret
  exact ⟨_, rfl, O', C'⟩

set_option maxHeartbeats 1000000 in
set_option maxRecDepth 100000 in
theorem count_any (base g : Nat) (S bs : List Nat) (n : Nat) (w : World) (h : SumIn w base g S bs n) :
    Calls Try.prog 37 #[.pointer (some ⟨g, 0, none⟩)] w fun e w' => e = .returned (.int .i64 (n : Int)) ∧ ∃ q, w' = w.drewN q := by
  obtain ⟨u, hblk, -⟩ := h.here
  have c1 := hblk.cell (j := 1) rfl
  clear h hblk
  go_enter Try.func37, Try.ntmps37
  go_wp2_with fail
  go_ret
  exact ⟨rfl, 0, rfl⟩

theorem all_false {bs : List Nat} {k : Nat} (hk : k < bs.length) (h : bs.getD k 0 ≠ 0) : bs.all (· == 0) = false := by
  rw [List.all_eq_false]
  refine ⟨bs[k], List.getElem_mem hk, ?_⟩
  rw [List.getD_eq_getElem?_getD, List.getElem?_eq_getElem hk] at h
  simpa using h

theorem all_true {bs : List Nat} (h : ∀ k, k < bs.length → bs.getD k 0 = 0) : bs.all (· == 0) = true := by
  rw [List.all_eq_true]
  intro b hb
  obtain ⟨k, hk, rfl⟩ := List.mem_iff_getElem.1 hb
  have := h k hk
  rw [List.getD_eq_getElem?_getD, List.getElem?_eq_getElem hk] at this
  simpa using this

set_option maxHeartbeats 1000000 in
set_option maxRecDepth 100000 in
theorem nought_any (base g : Nat) (S bs : List Nat) (n : Nat) (w : World) (h : SumIn w base g S bs n) (hb1 : bs.length ≤ 1000000) :
    Calls Try.prog 38 #[.pointer (some ⟨g, 0, none⟩)] w fun e w' => e = .returned (.bool (bs.all (· == 0))) ∧ ∃ q, w' = w.drewN q := by
  obtain ⟨u, hblk, hown, -, -⟩ := h.here
  have hsl := own_sl hown
  obtain ⟨uo, uc, rfl⟩ := owns_slice hown
  have c0 := hblk.cell (j := 0) rfl
  have HS := Lib.hid hsl
  clear h hblk hown hsl
  go_enter Try.func38, Try.ntmps38
  go_wp2_with fail
  go_loopw [10] (fun i wr => ∃ k : Nat, k ≤ bs.length ∧ i = .int .i64 k ∧ Hid (∀ j, j < k → bs.getD j 0 = 0) ∧ ∃ q, wr = w.drewN q) (fun i _ => bs.length - (intOf i).toNat)
  case atStart => exact ⟨0, Nat.zero_le _, rfl, fun j hj => by omega, 0, rfl⟩
  case round =>
    obtain ⟨k, hk, rfl, Z, q, rfl⟩ := hrel
    by_cases hlt : k < bs.length
    · obtain ⟨gx, o, rfl, _, cv⟩ := sl_cell HS.out hlt
      rw [ints_get] at cv
      have hk0 : (0 : Int) ≤ k := Int.natCast_nonneg _
      have hk1 : (k : Int) < bs.length := by omega
      by_cases hz : bs.getD k 0 = 0
      · have Z2 : Hid (∀ j, j < k + 1 → bs.getD j 0 = 0) := fun j hj => by
          by_cases e : j = k
          · rw [e]; exact hz
          · exact Z.out j (by omega)
        rw [hz] at cv
        rw [show ((0 : Nat) : Int) = 0 from rfl] at cv
        clear hz
        go_wp2_with fail
        exact ⟨⟨k + 1, by omega, by go_num, Z2, q, rfl⟩, by simp [intOf]; omega⟩
      · have F := Lib.hid (all_false hlt hz)
        have hne : (((bs.getD k 0 : Nat) : Int) != 0) = true := bne_iff_ne.2 (by omega)
        generalize bs.getD k 0 = z at *
        clear Z hz
        go_wp2_with fail
        go_ret
        exact ⟨by rw [F.out]; rfl, q, rfl⟩
    · obtain rfl : k = bs.length := by omega
      have F := Lib.hid (all_true Z.out)
      go_wp2_with fail
      go_ret
      exact ⟨by rw [F.out]; rfl, q, rfl⟩

end Go.Proofs.Ytaciamnfkidmfaa
