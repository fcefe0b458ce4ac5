/-
  What the program asks of rows: lists of rows, added up one by one through a method value. By an AI agent.
-/
import Derived.Test.YtaciamnfkidmfaaXorSum
namespace Go.Proofs.Ytaciamnfkidmfaa
open Go.RowKit

/-- Lists of rows, in a list of them. -/
structure Lls (w : World) (v : Value) (ps : List (Value × List RowD)) : Prop where
  head : ∃ b c, v = .slice (some ⟨b, 0, none⟩) ps.length c ∧ b < w.heap.size ∧ ∀ i p, ps[i]? = some p → w.cell? ⟨b, i, none⟩ = some p.1
  rows : ∀ p ∈ ps, Rws w p.1 p.2
  few : ps.length ≤ 1000
  many : ∀ p ∈ ps, p.2.length ≤ 1000000
  small : ∀ p ∈ ps, ∀ d ∈ p.2, d.bs.length ≤ 1000000

theorem Lls.chg {w w' : World} {v : Value} {ps : List (Value × List RowD)} (h : Lls w v ps) (c : Chg [] w w') : Lls w' v ps := by
  obtain ⟨b, cp, hv, hb, hc⟩ := h.head
  exact ⟨⟨b, cp, hv, Nat.lt_of_lt_of_le hb c.size, fun i p hp => (c.cell (p := ⟨b, i, none⟩) hb (by simp)).trans (hc i p hp)⟩, fun p hp => (h.rows p hp).chg c, h.few, h.many, h.small⟩

/-- All rows of all lists. -/
def flat2 (ps : List (Value × List RowD)) : List RowD := ps.flatMap (·.2)

theorem flat2_snoc (ps : List (Value × List RowD)) (p : Value × List RowD) : flat2 (ps ++ [p]) = flat2 ps ++ p.2 := by simp [flat2]

theorem flat2_take {ps : List (Value × List RowD)} {k : Nat} {p : Value × List RowD} (h : ps[k]? = some p) : flat2 (ps.take (k + 1)) = flat2 (ps.take k) ++ p.2 := by
  rw [take_snoc h, flat2_snoc]

theorem flat2_at {ps : List (Value × List RowD)} {k : Nat} {p : Value × List RowD} (h : ps[k]? = some p) : flat2 ps = flat2 (ps.take k) ++ (p.2 ++ flat2 (ps.drop (k + 1))) := by
  obtain ⟨hk, rfl⟩ := List.getElem?_eq_some_iff.1 h
  have e : ps = ps.take k ++ (ps[k] :: ps.drop (k + 1)) := by rw [← List.drop_eq_getElem_cons hk, List.take_append_drop]
  exact (congrArg flat2 e).trans (by unfold flat2; rw [List.flatMap_append, List.flatMap_cons])

set_option maxHeartbeats 2000000 in
set_option maxRecDepth 100000 in
theorem firstLength_any (v : Value) (ps : List (Value × List RowD)) (w : World) (h : Lls w v ps) :
    Calls Try.prog 60 #[v] w fun e w' => e = .returned (.int .i64 ((((rowsN (flat2 ps)).headD []).length : Nat) : Int)) ∧ ∃ q, w' = w.drewN q := by
  obtain ⟨b, c, rfl, hb, -⟩ := h.head
  have H := Lib.hid h
  have hfew := h.few
  clear h
  go_enter Try.func60, Try.ntmps60
  go_wp2_with fail
  go_loopw [7] (fun i wr => ∃ k : Nat, k ≤ ps.length ∧ i = .int .i64 k ∧ Hid (flat2 (ps.take k) = []) ∧ ∃ q, wr = w.drewN q) (fun i _ => ps.length - (intOf i).toNat)
  case atStart => exact ⟨0, Nat.zero_le _, rfl, rfl, 0, rfl⟩
  case round =>
    obtain ⟨k, hk, rfl, Z, q, rfl⟩ := hrel
    have hk0 : (0 : Int) ≤ k := Int.natCast_nonneg _
    by_cases hlt : k < ps.length
    · obtain ⟨p, hp⟩ : ∃ p, ps[k]? = some p := ⟨_, List.getElem?_eq_getElem hlt⟩
      have c0 : w.cell? ⟨b, k, none⟩ = some p.1 := by
        obtain ⟨b2, c2, hv, _, hc⟩ := H.out.head
        obtain ⟨rfl, -⟩ : b = b2 ∧ c = c2 := by simpa using hv
        exact hc k p hp
      have R := H.out.rows p (List.mem_of_getElem? hp)
      obtain ⟨po, pc, hpv⟩ := R.slice
      rw [hpv] at c0 R
      have hk1 : (k : Int) < ps.length := by omega
      have hf := flat2_at hp
      rw [Z.out, List.nil_append] at hf
      have hf2 := flat2_take hp
      rw [Z.out, List.nil_append] at hf2
      cases hds : p.2 with
      | nil =>
        rw [hds] at hf2 c0
        rw [show (([] : List RowD).length) = 0 from rfl] at c0
        have Z2 := Lib.hid hf2
        clear R hf hf2 hp hds hpv
        go_wp2_with fail
        exact ⟨⟨k + 1, by omega, by go_num, Z2, q, rfl⟩, by simp [intOf]; omega⟩
      | cons d r =>
        rw [hds] at c0 R hf
        obtain ⟨rb, ro, rfl, hrb, RI⟩ := R.at (i := 0) (d := d) rfl
        obtain ⟨dao, dc, hdv⟩ := RI.sl.slice
        have c1 := RI.c0
        rw [hdv, Nat.add_zero] at c1
        have F : Hid (((rowsN (flat2 ps)).headD []).length = d.bs.length) := by
          show _ = _
          rw [hf]
          simp [rowsN, nats_length]
        have hpos : (0 : Int) < ((d :: r).length : Nat) := by simp only [List.length_cons]; omega
        have hpos2 : ((d :: r).length : Int) ≤ 9223372036854775807 := by
          have := R.len
          omega
        generalize (d :: r).length = m at *
        clear R hf hf2 hp hds hpv RI hdv
        go_wp2_with fail
        go_ret
        exact ⟨by rw [F.out]; rfl, q, rfl⟩
    · obtain rfl : k = ps.length := by omega
      have F : Hid (((rowsN (flat2 ps)).headD []).length = 0) := by
        show _ = _
        have := Z.out
        rw [List.take_length] at this
        rw [this]
        rfl
      go_wp2_with fail
      go_ret
      exact ⟨by rw [F.out]; rfl, q, rfl⟩

/-- Behind each: all rows are added, or one is unlike. -/
def Eached (w : World) (base g : Nat) (S bs : List Nat) (n : Nat) (ds : List RowD) (e : Ending) (w' : World) : Prop :=
  (Xr.Len bs.length (rowsN ds) ∧ e = .returned (.int .u16 0) ∧ Hid (SumIn w' base g S (Xr.ors bs.length (bs :: rowsN ds)) (n + ds.length)) ∧ Hid (Chg S w w')) ∨
  (¬ Xr.Len bs.length (rowsN ds) ∧ e = .returned (.int .u16 4) ∧ Hid (Chg S w w'))

theorem len_snoc {N : Nat} {ds : List RowD} {d : RowD} (h : Xr.Len N (rowsN ds)) (hd : d.bs.length = N) : Xr.Len N (rowsN (ds ++ [d])) := by
  intro r hr
  simp only [rowsN, List.map_append, List.mem_append, List.map_cons, List.map_nil, List.mem_singleton] at hr
  rcases hr with hr | rfl
  · exact h r hr
  · rw [nats_length]; exact hd

theorem ors_snoc {N : Nat} (bs : List Nat) (rs : List (List Nat)) (r : List Nat) : Xr.ors N [Xr.ors N (bs :: rs), r] = Xr.ors N (bs :: (rs ++ [r])) := by
  have := Xr.ors_put (n := N) [] (bs :: rs) [r]
  simpa using this

/-- The sum while rows are added. -/
structure Adding (w0 w : World) (base g : Nat) (S bs : List Nat) (n : Nat) (done : List RowD) : Prop where
  len : Xr.Len bs.length (rowsN done)
  sum : SumIn w base g S (Xr.ors bs.length (bs :: rowsN done)) (n + done.length)
  chg : Chg S w0 w

theorem Adding.more {w0 w w' : World} {base g : Nat} {S bs : List Nat} {n : Nat} {done : List RowD} {d : RowD} (h : Adding w0 w base g S bs n done) (hd : d.bs.length = bs.length)
    (s : SumIn w' base g S (addVal (Xr.ors bs.length (bs :: rowsN done)) d.bs) (addMany (Xr.ors bs.length (bs :: rowsN done)) (n + done.length) d.bs)) (c : Chg S w w') : Adding w0 w' base g S bs n (done ++ [d]) := by
  have hl : d.bs.length = (Xr.ors bs.length (bs :: rowsN done)).length := by rw [Xr.ors_length]; exact hd
  unfold addVal addMany at s
  rw [if_pos hl, if_pos hl, Xr.ors_length, ors_snoc] at s
  refine ⟨len_snoc h.len hd, ?_, h.chg.trans c⟩
  have e1 : rowsN (done ++ [d]) = rowsN done ++ [nats d.bs] := by simp [rowsN]
  rw [e1, List.length_append]
  exact s

theorem rws_sl {w : World} {v : Value} {ds : List RowD} (h : Rws w v ds) {d : RowD} (hd : d ∈ ds) : Sl w d.v d.bs ∧ By d.bs := by
  rcases h with ⟨rfl, _⟩ | ⟨b, o, cp, rfl, _, _, h⟩
  · cases hd
  · obtain ⟨i, hi⟩ := List.mem_iff_getElem?.1 hd
    have := h i d hi
    exact ⟨this.sl, this.by_⟩

theorem sl_block {w : World} {v : Value} {xs : List Int} (h : Sl w v xs) (h0 : 0 < xs.length) : ∀ k, v.ownBlock = some k → k < w.heap.size := by
  rcases h with ⟨rfl, _⟩ | ⟨b, o, c, rfl, hb, _⟩
  · simp at h0
  · intro k hk
    obtain rfl : b = k := by simpa [Value.ownBlock] using hk
    exact hb

theorem len_sub {N : Nat} {a b : List RowD} (h : Xr.Len N (rowsN (a ++ b))) : Xr.Len N (rowsN b) := fun r hr => h r (by simp only [rowsN, List.map_append, List.mem_append]; exact .inr hr)

set_option maxHeartbeats 4000000 in
set_option maxRecDepth 100000 in
theorem each_any (g : Nat) (S bs : List Nat) (n : Nat) (v : Value) (ps : List (Value × List RowD)) (w0 w : World) (h : Lls w0 v ps) (c0 : Chg [] w0 w) (hs : SumIn w w0.heap.size g S bs n) (hb1 : bs.length ≤ 1000000) (hn : n + (flat2 ps).length ≤ 1000000) :
    Calls Try.prog 61 #[v, .func (.func 33) #[.pointer (some ⟨g, 0, none⟩)] #[]] w (Eached w w0.heap.size g S bs n (flat2 ps)) := by
  obtain ⟨b, c, rfl, hb, -⟩ := h.head
  have hfew := h.few
  have A0 : Hid (Adding w w w0.heap.size g S bs n (flat2 (ps.take 0))) := ⟨(fun r hr => by cases hr), by
    have : rowsN (flat2 (ps.take 0)) = [] := rfl
    rw [this, Xr.ors_one rfl]
    exact hs, Chg.refl _ _⟩
  have HS : Hid (∀ k ∈ S, w0.heap.size ≤ k) := fun k hk => (hs.lt k hk).1
  have H := Lib.hid h
  have C0 := Lib.hid c0
  have HN := Lib.hid hn
  clear h hs c0 hn
  go_enter Try.func61, Try.ntmps61
  go_wp2_with fail
  go_loopw [12] (fun i wr => ∃ k : Nat, k ≤ ps.length ∧ i = .int .i64 k ∧ Hid (Adding w wr w0.heap.size g S bs n (flat2 (ps.take k)))) (fun i _ => ps.length - (intOf i).toNat)
  case atStart => exact ⟨0, Nat.zero_le _, rfl, A0⟩
  case round =>
    obtain ⟨k, hk, rfl, Z⟩ := hrel
    have hk0 : (0 : Int) ≤ k := Int.natCast_nonneg _
    by_cases hlt : k < ps.length
    · obtain ⟨p, hp⟩ : ∃ p, ps[k]? = some p := ⟨_, List.getElem?_eq_getElem hlt⟩
      have D0 : Hid (Chg [] w0 wr) := C0.out.fresh Z.out.chg (fun k hk => .inr (HS.out k hk))
      have L := H.out.chg D0.out
      have c1 : wr.cell? ⟨b, k, none⟩ = some p.1 := by
        obtain ⟨b2, c2, hv, _, hc⟩ := L.head
        obtain ⟨rfl, -⟩ : b = b2 ∧ c = c2 := by simpa using hv
        exact hc k p hp
      have R0 := H.out.rows p (List.mem_of_getElem? hp)
      have hsmall := Lib.hid (H.out.small p (List.mem_of_getElem? hp))
      have hmany := H.out.many p (List.mem_of_getElem? hp)
      obtain ⟨po, pc, hpv⟩ := R0.slice
      rw [hpv] at c1 R0
      have hk1 : (k : Int) < ps.length := by omega
      have hf := Lib.hid (flat2_take hp)
      have hfa := Lib.hid (flat2_at hp)
      generalize p.2 = ds at *
      replace R0 := Lib.hid R0
      clear L hp hpv
      go_wp2_with fail
      go_loopw [18] (fun i wr2 => ∃ j : Nat, j ≤ ds.length ∧ i = .int .i64 j ∧ Hid (Adding w wr2 w0.heap.size g S bs n (flat2 (ps.take k) ++ ds.take j))) (fun i _ => ds.length - (intOf i).toNat)
      case atStart => exact ⟨0, Nat.zero_le _, rfl, by rw [List.take_zero, List.append_nil]; exact Z⟩
      case round =>
        obtain ⟨j, hj, rfl, Y⟩ := hrel
        have hj0 : (0 : Int) ≤ j := Int.natCast_nonneg _
        by_cases hlj : j < ds.length
        · obtain ⟨d, hd⟩ : ∃ d, ds[j]? = some d := ⟨_, List.getElem?_eq_getElem hlj⟩
          have D2 : Hid (Chg [] w0 wr) := C0.out.fresh Y.out.chg (fun k hk => .inr (HS.out k hk))
          have R := R0.out.chg D2.out
          obtain ⟨rb, ro, rfl, hrb, RI⟩ := R.at hd
          obtain ⟨hsl0, -⟩ := rws_sl R0.out (List.mem_of_getElem? hd)
          have cr := RI.c0
          have hj1 : (j : Int) < ds.length := by omega
          have hdn : (flat2 (ps.take k) ++ ds.take j).length + 1 ≤ (flat2 ps).length := by
            have := congrArg List.length hfa.out
            simp only [List.length_append, List.length_take] at this ⊢
            omega
          have hput := Lib.hid (put_any w0.heap.size g S (Xr.ors bs.length (bs :: rowsN (flat2 (ps.take k) ++ ds.take j))) (n + (flat2 (ps.take k) ++ ds.take j).length) d.v d.bs wr Y.out.sum RI.sl (fun h0 k2 hk2 hm => by
            have h1 := sl_block hsl0 h0 k2 hk2
            have h2 := HS.out k2 hm
            omega) RI.by_ (by rw [Xr.ors_length]; exact hb1) (by have := HN.out; omega))
          have hdt := Lib.hid (take_snoc hd)
          have hdd := Lib.hid hd
          obtain ⟨dv, hdv⟩ : ∃ dv, dv = d.v := ⟨_, rfl⟩
          rw [← hdv] at cr hput
          obtain ⟨dao, dc, hdv2⟩ := RI.sl.slice
          rw [← hdv] at hdv2
          subst hdv2
          clear R RI hsl0 hd hdv hrb
          go_wp2_with fail
          refine hput.out.mono ?_
          rintro e w2 ⟨rfl, SI, C2⟩
          by_cases hdl : d.bs.length = bs.length
          · have EE : Hid (addErr (Xr.ors bs.length (bs :: rowsN (flat2 (ps.take k) ++ ds.take j))) d.bs = 0) := by show _ = _; unfold addErr; rw [if_pos (by rw [Xr.ors_length]; exact hdl)]
            have M := Lib.hid (Y.out.more hdl SI.out C2.out)
            rw [EE.out]
            clear SI C2 hput hdl EE
            go_wp2_with fail
            refine ⟨⟨j + 1, by omega, by go_num, ?_⟩, by simp [intOf]; omega⟩
            rw [hdt.out, ← List.append_assoc]
            exact M
          · have EE : Hid (addErr (Xr.ors bs.length (bs :: rowsN (flat2 (ps.take k) ++ ds.take j))) d.bs = 4) := by show _ = _; unfold addErr; rw [if_neg (by rw [Xr.ors_length]; exact hdl)]
            have BAD : Hid (¬ Xr.Len bs.length (rowsN (flat2 ps))) := fun hL => hdl (by
              have h1 := hL (nats d.bs) (by
                rw [hfa.out]
                simp only [rowsN, List.map_append, List.mem_append]
                exact .inr (.inl (List.mem_map.2 ⟨d, List.mem_of_getElem? hdd.out, rfl⟩)))
              rw [nats_length] at h1
              exact h1)
            have CC := Lib.hid (Y.out.chg.trans C2.out)
            rw [EE.out]
            rw [show ((4 : Nat) : Int) = 4 from rfl]
            clear SI C2 hput hdl EE
            go_wp2_with fail
            go_ret
            exact .inr ⟨BAD.out, rfl, CC⟩
        · obtain rfl : j = ds.length := by omega
          go_wp2_with fail
          refine ⟨⟨k + 1, by omega, by go_num, ?_⟩, by simp [intOf]; omega⟩
          rw [hf.out]
          rw [List.take_length] at Y
          exact Y
    · obtain rfl : k = ps.length := by omega
      rw [List.take_length] at Z
      go_wp2_with fail
      go_ret
      exact .inl ⟨Z.out.len, rfl, Z.out.sum, Z.out.chg⟩

end Go.Proofs.Ytaciamnfkidmfaa
