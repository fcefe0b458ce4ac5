/-
  ScanWrites: what its walk leans on. By an AI agent.
-/
import Derived.Test.YtnkdgmnmmmjgjaaGreatScUse
import Derived.Test.YtnkdgmnmmmjgjaaGreatScRSec
import Derived.Test.YtnkdgmnmmmjgjaaGreatGLRow
import Derived.Test.YtnkdgmnmmmjgjaaGreatGBookRws
import Derived.Deep.QuietTactic
import Derived.BigQuiet
namespace Go.Proofs.YtnkdgmnmmmjgjaaGreat
open Go.RowKit Crc

/-- It says so, and if not, there is not much. -/
def MuchSays (ds : List PtD) (e : Ending) : Prop := ∃ b : Bool, e = .returned (.bool b) ∧ (b = false → ds.length ≤ 300000 ∧ ∀ d ∈ ds, d.d.length ≤ 300000)

set_option maxHeartbeats 4000000 in
set_option maxRecDepth 100000 in
/-- Whether there is more than is looked at. -/
theorem much_says (v : Value) (ds : List PtD) (w : World) (h : Pts w v ds) : Calls Tryz.prog 5 #[v] w fun e w' => MuchSays ds e ∧ Hid (Chg [] w w') := by
  obtain ⟨ao, vc, rfl⟩ := h.slice
  have big := h.len
  have HP : Hid (∀ w', Chg [] w w' → Pts w' (.slice ao ds.length vc) ds) := fun w' c => h.chg c
  obtain ⟨N, hN⟩ : ∃ N, N = ds.length := ⟨_, rfl⟩
  rw [← hN] at big HP ⊢
  have HN := Lib.hid hN
  clear h hN
  go_enter Tryz.func5, Tryz.ntmps5
  go_wp2_with fail
  go_loopw [3, 4] (fun n i wr => ∃ k m : Nat, k ≤ N ∧ m ≤ 281474976710656 ∧ N ≤ m ∧ i = .int .i64 k ∧ n = .int .i64 m ∧ Hid (∀ d ∈ ds.take k, d.d.length ≤ m) ∧ Hid (Chg [] w wr)) (fun _ i _ => N - (intOf i).toNat)
  case atStart => exact ⟨0, N, Nat.zero_le _, by omega, Nat.le_refl _, rfl, rfl, (fun d hd => by rw [List.take_zero] at hd; cases hd), Chg.refl _ _⟩
  case round =>
    obtain ⟨k, m, hk, hm, hNm, rfl, rfl, LE, C⟩ := hrel
    have hk0 : (0 : Int) ≤ k := Int.natCast_nonneg _
    have hm0 : (0 : Int) ≤ m := Int.natCast_nonneg _
    by_cases hlt : k < N
    · have hk1 : (k : Int) < N := by omega
      by_cases hms : m ≤ 300000
      · have hms1 : (m : Int) ≤ 300000 := by omega
        obtain ⟨x, hx⟩ : ∃ x, ds[k]? = some x := ⟨_, List.getElem?_eq_getElem (by have := HN.out; omega)⟩
        obtain ⟨b, o, rfl, hbl, I⟩ := (HP.out _ C.out).at hx
        have c2 := I.c2
        have hbig := I.big
        obtain ⟨xo, xc, hxv⟩ := I.sl.slice
        rw [hxv] at c2
        obtain ⟨q, hq⟩ : ∃ q, q = x.d.length := ⟨_, rfl⟩
        rw [← hq] at c2 hbig
        have hq0 : (m : Int) + q ≤ 281474976710656 := by omega
        have LE2 : Hid (∀ d ∈ ds.take (k + 1), d.d.length ≤ m + q) := fun d hd => by
          rw [take_snoc hx] at hd
          rcases List.mem_append.1 hd with hd | hd
          · have := LE.out d hd; omega
          · rw [List.mem_singleton.1 hd, ← hq]; omega
        clear I hxv hq hx
        go_wp2_with fail
        exact ⟨⟨k + 1, m + q, by omega, by omega, by omega, by go_num, by go_num, LE2, C⟩, by simp [intOf]; omega⟩
      · have hms1 : ¬ (m : Int) ≤ 300000 := by omega
        have hms2 : (300000 : Int) < m := by omega
        go_wp2_with fail
        go_ret
        exact ⟨⟨true, rfl, fun e => by cases e⟩, C⟩
    · have hk1 : ¬ (k : Int) < N := by omega
      have LA : Hid (∀ d ∈ ds, d.d.length ≤ m) := fun d hd => LE.out d (by rw [List.take_of_length_le (by rw [← HN.out]; omega)]; exact hd)
      by_cases hms : m ≤ 300000
      · have hms1 : ¬ (300000 : Int) < m := by omega
        go_wp2_with fail
        go_ret
        exact ⟨⟨false, rfl, fun _ => ⟨by rw [← HN.out]; omega, fun d hd => by have := LA.out d hd; omega⟩⟩, C⟩
      · have hms1 : (300000 : Int) < m := by omega
        go_wp2_with fail
        go_ret
        exact ⟨⟨true, rfl, fun e => by cases e⟩, C⟩

set_option maxHeartbeats 1000000 in
set_option maxRecDepth 100000 in
theorem sameRws_true (va vb : Value) (as_ bs : List RowD) (w : World) (ha : Rws w va as_) (hb : Rws w vb bs) (e : as_.map (·.bs) = bs.map (·.bs)) :
    Calls Tryz.prog 13 #[va, vb] w fun e w' => e = .returned (.bool true) ∧ ∃ q, w' = w.drewN q := by
  have hbig := ha.len
  have hl : as_.length = bs.length := by have := congrArg List.length e; simpa using this
  obtain ⟨ao, ac, rfl⟩ := ha.slice
  obtain ⟨bo, bc, rfl⟩ := hb.slice
  rw [← hl]
  have HA := Lib.hid ha
  have HB := Lib.hid hb
  have HL := Lib.hid hl
  have HE := Lib.hid e
  clear ha hb hl e
  go_enter Tryz.func13, Tryz.ntmps13
  go_wp2_with fail
  go_loopw [5] (fun i wr => ∃ k : Nat, k ≤ as_.length ∧ i = .int .i64 k ∧ ∃ q, wr = w.drewN q) (fun i _ => as_.length - (intOf i).toNat)
  case atStart => exact ⟨0, Nat.zero_le _, rfl, 0, rfl⟩
  case round =>
    obtain ⟨k, hk, rfl, q, rfl⟩ := hrel
    by_cases hlt : k < as_.length
    · obtain ⟨x, hx⟩ : ∃ x, as_[k]? = some x := ⟨_, List.getElem?_eq_getElem hlt⟩
      obtain ⟨y, hy⟩ : ∃ y, bs[k]? = some y := ⟨_, List.getElem?_eq_getElem (by rw [← HL.out]; exact hlt)⟩
      have e1 : x.bs = y.bs := by
        have h1 : (as_.map (·.bs))[k]? = some x.bs := by rw [List.getElem?_map, hx]; rfl
        rw [HE.out, List.getElem?_map, hy] at h1
        exact (Option.some.inj h1).symm
      obtain ⟨g, o, rfl, hg, I⟩ := HA.out.at hx
      obtain ⟨g2, o2, rfl, hg2, J⟩ := HB.out.at hy
      obtain ⟨W, hW⟩ : ∃ W, W = w.drewN q := ⟨_, rfl⟩
      have c0 : W.cell? ⟨g, o + k, none⟩ = some x.v := by rw [hW]; exact I.c0
      have d0 : W.cell? ⟨g2, o2 + k, none⟩ = some y.v := by rw [hW]; exact J.c0
      have SM : Hid (∀ n, Calls Tryz.prog 33 #[x.v, y.v] (W.drewN n) fun e w' => e = .returned (.bool true) ∧ ∃ q, w' = (W.drewN n).drewN q) := fun n => by
        have s1 := I.sl
        have s2 := J.sl
        rw [← e1] at s2
        exact same_true _ _ _ _ (s1.chgNil (by rw [hW]; exact ((Chg.refl _ _).drewN q).drewN n)) (s2.chgNil (by rw [hW]; exact ((Chg.refl _ _).drewN q).drewN n)) I.big
      obtain ⟨xo, xc, hxv⟩ := I.sl.slice
      obtain ⟨yo, yc, hyv⟩ := J.sl.slice
      rw [hxv] at c0 SM
      rw [hyv] at d0 SM
      obtain ⟨n1, hn1⟩ : ∃ n1, n1 = x.bs.length := ⟨_, rfl⟩
      obtain ⟨n2, hn2⟩ : ∃ n2, n2 = y.bs.length := ⟨_, rfl⟩
      rw [← hn1] at c0 SM
      rw [← hn2] at d0 SM
      rw [← hW]
      replace hW := Lib.hid hW
      clear I J hx hy e1 hn1 hn2 hxv hyv
      have hi0 : (0 : Int) ≤ k := Int.natCast_nonneg _
      have hi1 : (k : Int) < as_.length := by omega
      go_wp2_with fail
      go_quiet (first | (go_at_call 33; exact Calls.quiet_of (SM.out _)))
      go_wp2_with fail
      exact ⟨⟨k + 1, by omega, by go_num, _, by rw [hW.out, World.drewN_drewN]⟩, by simp [intOf]; omega⟩
    · go_wp2_with fail
      go_ret
      exact ⟨rfl, _, rfl⟩

theorem lentPs_map {α : Type} {f : PtD → α} (hf : ∀ g p, f (lentP g p) = f p) : ∀ {ps : List PtD} {gs : List Nat}, gs.length = ps.length → (lentPs gs ps).map f = ps.map f
  | [], gs, h => by cases gs <;> simp [lentPs]
  | p :: ps, [], h => by cases h
  | p :: ps, g :: gs, h => by
    have ih := lentPs_map hf (ps := ps) (gs := gs) (by simpa using h)
    unfold lentPs at ih ⊢
    rw [List.zipWith_cons_cons, List.map_cons, List.map_cons, ih, hf]

theorem lentPs_any {f : PtD → Bool} (hf : ∀ g p, f (lentP g p) = f p) {ps : List PtD} {gs : List Nat} (h : gs.length = ps.length) : (lentPs gs ps).any f = ps.any f := by
  have e := lentPs_map hf h
  rw [show (lentPs gs ps).any f = ((lentPs gs ps).map f).any id by simp, e]
  simp

theorem lent_err {ep sq : Nat} {ps : List PtD} {gs : List Nat} (h : gs.length = ps.length) : scErr ep sq (lentPs gs ps) = scErr ep sq ps := by
  unfold scErr
  rw [lentPs_length h, lentPs_any (f := farP) (fun _ _ => rfl) h, lentPs_any (f := shortP) (fun _ _ => rfl) h]

theorem lent_pd {ps : List PtD} {gs : List Nat} (h : gs.length = ps.length) : (lentPs gs ps).map pdOf = ps.map pdOf := lentPs_map (fun _ _ => rfl) h

/-- What Sectors should give. -/
def secsU (ep sq : Nat) (ds : List PtD) : List (List Nat) := if scErr ep sq ds = 0 then Sc.secs ep sq (ds.map pdOf) else []

theorem secsU_ok {ep sq : Nat} {ds : List PtD} (hb : ∀ d ∈ ds, By d.d) : (∀ x ∈ secsU ep sq ds, x.length = 128 ∧ Bs x) ∧ (secsU ep sq ds).length ≤ 2047 := by
  unfold secsU
  split
  · rename_i h
    obtain ⟨_, g, _⟩ := scErr_zero h hb
    refine ⟨Sc.secs_ok g, ?_⟩
    rw [Sc.secs_len]
    have := g.2.1
    omega
  · exact ⟨(fun x hx => by cases hx), Nat.zero_le _⟩

def SecU (k : IntKind) (w : World) (ep sq : Nat) (ds : List PtD) (e : Ending) (w' : World) : Prop := ∃ lv vs, e = .returned (.tuple #[lv, .int k (scErr ep sq ds)]) ∧ Hid (vs.map (·.2) = (secsU ep sq ds).map ub) ∧ Hid (Side w w' (rowsTs lv vs))

theorem rowsTs_nil {w w' : World} (c : Chg [] w w') : Side w w' (rowsTs (.slice none 0 0) []) := by
  have h1 := (Side.nil c).add (b := poolT []) (Chg.refl _ _) (Pool.nil _) (fun k hk => by cases hk)
  exact h1.add (b := wideT 1 55 (.slice none 0 0) []) (Chg.refl _ _) (OwnW.nil _ _ _ _) (fun k hk => by cases hk)

theorem secs_u (ep sq : Nat) (v : Value) (ds : List PtD) (w : World) (h : Pts w v ds) (hb : ∀ d ∈ ds, By d.d ∧ Cap d.v) : Calls Tryz.prog 7 #[.int .u64 (ep : Int), .agg #[.int .u64 (sq : Int), v]] w (SecU .u16 w ep sq ds) := by
  by_cases h0 : scErr ep sq ds = 0
  · refine (sectors_ok ep sq v ds w h hb h0).mono ?_
    rintro e w' ⟨lv, vs, rfl, VS, H⟩
    exact ⟨lv, vs, by rw [h0], by show _ = _; unfold secsU; rw [if_pos h0]; exact VS.out, H⟩
  · refine (sectors_no ep sq v ds w h h0).mono ?_
    rintro e w' ⟨rfl, C⟩
    exact ⟨_, [], rfl, by show _ = _; unfold secsU; rw [if_neg h0]; rfl, rowsTs_nil C.out⟩

theorem rsecs_u (ep sq : Nat) (v : Value) (ds : List PtD) (w : World) (h : Pts w v ds) (hb : ∀ d ∈ ds, By d.d ∧ Cap d.v) : Calls Tryz.prog 10 #[.int .u64 (ep : Int), .agg #[.int .u64 (sq : Int), v]] w (SecU .i64 w ep sq ds) := by
  refine (refSectors_any ep sq v ds w h hb).mono ?_
  rintro e w' (⟨h0, rfl, C⟩ | ⟨h0, lv, vs, rfl, VS, H⟩)
  · exact ⟨_, [], rfl, by show _ = _; unfold secsU; rw [if_neg h0]; rfl, rowsTs_nil C.out⟩
  · exact ⟨lv, vs, by rw [h0], by show _ = _; unfold secsU; rw [if_pos h0]; exact VS.out, H⟩

end Go.Proofs.YtnkdgmnmmmjgjaaGreat
