/-
  Rows that are lent: LentRows. By an AI agent.
-/
import Derived.Test.YtaciamnfkidmfaaGLent
import Derived.Test.YtaciamnfkidmfaaGRows
import Derived.Test.YtaciamnfkidmfaaGOwnBytes
namespace Go.Proofs.Ytaciamnfkidmfaa
open Go.RowKit

/-- One row that is lent: its block, and what it was. -/
def lentD (g : Nat) (d : RowD) : RowD := ⟨.slice (some ⟨g, 0, none⟩) d.bs.length (d.bs.length + 2), d.bs⟩
def lentDs (gs : List Nat) (ds : List RowD) : List RowD := List.zipWith lentD gs ds

theorem lentDs_snoc {gs : List Nat} {ds : List RowD} (h : gs.length = ds.length) (g : Nat) (d : RowD) : lentDs (gs ++ [g]) (ds ++ [d]) = lentDs gs ds ++ [lentD g d] := by
  unfold lentDs
  rw [List.zipWith_append h]
  rfl

theorem lentDs_length {gs : List Nat} {ds : List RowD} (h : gs.length = ds.length) : (lentDs gs ds).length = ds.length := by simp [lentDs, h]

theorem lentDs_bs {gs : List Nat} {ds : List RowD} (h : gs.length = ds.length) : (lentDs gs ds).map (·.bs) = ds.map (·.bs) := by
  induction ds generalizing gs with
  | nil => cases gs <;> simp [lentDs]
  | cons d r ih =>
    cases gs with
    | nil => simp at h
    | cons g gs =>
      have := ih (gs := gs) (by simpa using h)
      simp only [lentDs] at this ⊢
      simp [lentD, this]

theorem lentDs_get {gs : List Nat} {ds : List RowD} {i : Nat} {e : RowD} (h : (lentDs gs ds)[i]? = some e) : ∃ g d, gs[i]? = some g ∧ ds[i]? = some d ∧ e = lentD g d := by
  unfold lentDs at h
  rw [List.getElem?_zipWith] at h
  cases hg : gs[i]? with
  | none => rw [hg] at h; simp at h
  | some g =>
    cases hd : ds[i]? with
    | none => rw [hg, hd] at h; simp at h
    | some d =>
      rw [hg, hd] at h
      exact ⟨g, d, rfl, rfl, by simpa using h.symm⟩

/-- The rows that have been lent, each in a block of its own. -/
structure LRow (w0 w : World) (G : Nat) (gs : List Nat) (ds : List RowD) : Prop where
  len : gs.length = ds.length
  row : ∀ (i g : Nat) (d : RowD), gs[i]? = some g → ds[i]? = some d → Blk w g 5 ((d.bs ++ [91, 92]).map (Value.int .u8))
  nodup : gs.Nodup
  off : G ∉ gs
  new : ∀ g ∈ gs, w0.heap.size ≤ g

theorem LRow.lt {w0 w : World} {G : Nat} {gs : List Nat} {ds : List RowD} (h : LRow w0 w G gs ds) : ∀ g ∈ gs, g < w.heap.size := by
  intro g hg
  obtain ⟨i, hi⟩ := List.mem_iff_getElem?.1 hg
  have hil : i < gs.length := (List.getElem?_eq_some_iff.1 hi).1
  obtain ⟨d, hd⟩ : ∃ d, ds[i]? = some d := ⟨_, List.getElem?_eq_getElem (by rw [← h.len]; exact hil)⟩
  exact (h.row i g d hi hd).lt

theorem LRow.chg {w0 w w' : World} {s : List Nat} {G : Nat} {gs : List Nat} {ds : List RowD} (h : LRow w0 w G gs ds) (c : Chg s w w') (hs : ∀ g ∈ gs, g ∉ s) : LRow w0 w' G gs ds :=
  ⟨h.len, fun i g d hi hd => (h.row i g d hi hd).chg c (hs g (List.mem_of_getElem? hi)), h.nodup, h.off, h.new⟩

theorem LRow.snoc {w0 w w' : World} {G g : Nat} {gs : List Nat} {ds : List RowD} {d : RowD} (h : LRow w0 w G gs ds) (b : Blk w' g 5 ((d.bs ++ [91, 92]).map (Value.int .u8))) (c : Chg [] w w') (hg : w.heap.size ≤ g) (hG : G < w.heap.size) (h0 : w0.heap.size ≤ w.heap.size) :
    LRow w0 w' G (gs ++ [g]) (ds ++ [d]) := by
  refine ⟨by simp [h.len], fun i g' d' hi hd => ?_, ?_, ?_, ?_⟩
  · by_cases hil : i < gs.length
    · rw [List.getElem?_append_left hil] at hi
      rw [List.getElem?_append_left (by rw [← h.len]; exact hil)] at hd
      exact (h.row i g' d' hi hd).chg c (by simp)
    · have h1 : i < (gs ++ [g]).length := (List.getElem?_eq_some_iff.1 hi).1
      obtain rfl : i = gs.length := by simp at h1; omega
      rw [List.getElem?_append_right (Nat.le_refl _), Nat.sub_self] at hi
      rw [List.getElem?_append_right (by rw [h.len]; exact Nat.le_refl _), h.len, Nat.sub_self] at hd
      obtain rfl : g = g' := by simpa using hi
      obtain rfl : d = d' := by simpa using hd
      exact b
  · refine List.nodup_append.2 ⟨h.nodup, by simp, fun a ha b hb => ?_⟩
    have := h.lt a ha
    have hb' : b = g := by simpa using hb
    omega
  · intro hm
    rcases List.mem_append.1 hm with hm | hm
    · exact h.off hm
    · have : G = g := by simpa using hm
      omega
  · intro x hx
    rcases List.mem_append.1 hx with hx | hx
    · exact h.new x hx
    · have : x = g := by simpa using hx
      omega

/-- What has been lent: the list of the rows too lies in a block of its own, with two marks behind. -/
structure Lend (w0 w : World) (G m1 m2 : Nat) (gs : List Nat) (ds : List RowD) : Prop where
  rows : LRow w0 w G gs ds
  blk : Blk w G 25 ((lentDs gs ds).map (·.v) ++ [.slice (some ⟨m1, 0, none⟩) 2 2, .slice (some ⟨m2, 0, none⟩) 2 2])
  mark1 : Blk w m1 5 ([77, 78].map (Value.int .u8))
  mark2 : Blk w m2 5 ([77, 78].map (Value.int .u8))
  newG : w0.heap.size ≤ G
  new1 : w0.heap.size ≤ m1
  new2 : w0.heap.size ≤ m2

theorem Lend.chg {w0 w w' : World} {s : List Nat} {G m1 m2 : Nat} {gs : List Nat} {ds : List RowD} (h : Lend w0 w G m1 m2 gs ds) (c : Chg s w w') (hs : ∀ g, g ∈ s → g < w0.heap.size ∨ w.heap.size ≤ g) : Lend w0 w' G m1 m2 gs ds := by
  have no : ∀ g, w0.heap.size ≤ g → g < w.heap.size → g ∉ s := fun g h1 h2 hm => by
    rcases hs g hm with h3 | h3 <;> omega
  exact ⟨h.rows.chg c (fun g hg => no g (h.rows.new g hg) (h.rows.lt g hg)), h.blk.chg c (no G h.newG h.blk.lt), h.mark1.chg c (no m1 h.new1 h.mark1.lt), h.mark2.chg c (no m2 h.new2 h.mark2.lt), h.newG, h.new1, h.new2⟩

/-- What has been lent, as rows. -/
theorem Lend.rws {w0 w : World} {G m1 m2 : Nat} {gs : List Nat} {ds : List RowD} (h : Lend w0 w G m1 m2 gs ds) (hs : ∀ d ∈ ds, By d.bs ∧ d.bs.length ≤ 140737488355328) (hl : ds.length ≤ 140737488355328) :
    Rws w (.slice (some ⟨G, 0, none⟩) ds.length (ds.length + 2)) (lentDs gs ds) := by
  have hlen := lentDs_length h.rows.len
  refine .inr ⟨G, 0, ds.length + 2, by rw [hlen], h.blk.lt, by rw [hlen]; exact hl, fun i e he => ?_⟩
  have hil : i < (lentDs gs ds).length := (List.getElem?_eq_some_iff.1 he).1
  obtain ⟨g, d, hg, hd, rfl⟩ := lentDs_get he
  obtain ⟨s1, s2⟩ := hs d (List.mem_of_getElem? hd)
  refine ⟨?_, Blk.sl (h.rows.row i g d hg hd), s1, s2⟩
  rw [Nat.zero_add]
  refine h.blk.cell ?_
  rw [List.getElem?_append_left (by simpa using hil), List.getElem?_map, he]
  rfl

def LentOf (w : World) (ds : List RowD) (e : Ending) (w' : World) : Prop :=
  ∃ G m1 m2 gs, e = .returned (.slice (some ⟨G, 0, none⟩) ds.length (ds.length + 2)) ∧ Hid (Lend w w' G m1 m2 gs ds) ∧ Hid (Chg [] w w')

theorem rows_one (ds : List RowD) (h : ∀ d ∈ ds, ∃ a n c, d.v = .slice a n c) : ∀ u ∈ ds.map (·.v), u.oneCell' = true := by
  intro u hu
  obtain ⟨d, hd, rfl⟩ := List.mem_map.1 hu
  obtain ⟨a, n, c, e⟩ := h d hd
  rw [e]
  rfl

set_option maxHeartbeats 1000000 in
set_option maxRecDepth 100000 in
theorem lentRows_any (v : Value) (ds : List RowD) (w : World) (h : Rws w v ds) (hds : ds.length ≤ 1000000) :
    Calls Try.prog 13 #[v] w (LentOf w ds) := by
  obtain ⟨j0, ki, kz0, kz1, kz2⟩ := info_parts info_bytes
  replace ki := Lib.hid ki
  replace kz0 := Lib.hid kz0
  replace kz1 := Lib.hid kz1
  replace kz2 := Lib.hid kz2
  obtain ⟨ao, c, rfl⟩ := h.slice
  have HR := Lib.hid h
  clear h
  have hn0 : (0 : Int) ≤ ds.length := Int.natCast_nonneg _
  go_enter Try.func13, Try.ntmps13
  go_wp2_with (at_make; refine wpList_make_own _ rfl _ _ 22 rfl w.heap.size 25 j0 (.slice none 0 0) 1 Try.underlying22 ki.out kz0.out kz1.out .i64 .i64 _ (ds.length + 2) rfl rfl (by omega) (by rw [kz2.out]; omega) (by unfold maxLen; omega) (Nat.le_refl _) ?_; intro w1 hown hgrow; have C1 : Hid (Chg [] w w1) := (Chg.refl _ w).grown hgrow (by intro k hk; cases hk); have O1 := Lib.hid hown; clear hown hgrow)
  generalize hG : w.heap.size = G at *
  go_loopw [3, 4] (fun x q wr => ∃ (i : Nat) (gs : List Nat), i ≤ ds.length ∧ q = .int .i64 i ∧ x = .slice (some ⟨G, 0, none⟩) i (ds.length + 2) ∧ Hid (wr.ownsRow G 25 1 (.slice (some ⟨G, 0, none⟩) i (ds.length + 2)) i ((lentDs gs (ds.take i)).map (·.v))) ∧ Hid (LRow w wr G gs (ds.take i)) ∧ Hid (Chg [] w wr)) (fun _ q _ => ds.length - (intOf q).toNat)
  case atStart =>
    refine ⟨0, [], Nat.zero_le _, rfl, rfl, ?_, ⟨rfl, fun i g d hi => by simp at hi, List.nodup_nil, by simp, fun g hg => by cases hg⟩, C1⟩
    show World.ownsRow _ _ _ _ _ _ _
    simpa [lentDs] using O1.out
  case round =>
    obtain ⟨i, gs, hil, rfl, rfl, O, L, D⟩ := hrel
    clear C1 O1
    have hGw : G < wr.heap.size := (O.out.lt G rfl).2
    by_cases hlt : i < ds.length
    · obtain ⟨d, hd⟩ : ∃ d, ds[i]? = some d := ⟨_, List.getElem?_eq_getElem hlt⟩
      obtain ⟨b, o, rfl, hb, R⟩ := (HR.out.chg D.out).at hd
      have HT := Lib.hid (take_snoc hd)
      have hlent := lent_any d.v d.bs wr R.sl R.big
      have c0 := R.c0
      obtain ⟨eo, ec, hv⟩ := R.sl.slice
      rw [hv] at c0 hlent
      have hi0 : (0 : Int) ≤ i := Int.natCast_nonneg _
      have hi1 : (i : Int) < ds.length := by omega
      clear R hd hv
      go_wp2_with fail
      refine hlent.mono ?_
      clear hlent c0
      rintro e w2 ⟨g, rfl, B, Dn, hge⟩
      have L2 : Hid (LRow w w2 G (gs ++ [g]) (ds.take i ++ [d])) := L.out.snoc B Dn hge hGw (by rw [hG]; omega)
      have O2 := Lib.hid (owns_chg O.out Dn (by simp))
      have D2 := Lib.hid (D.out.trans Dn)
      have hsn : Hid (lentDs (gs ++ [g]) (ds.take i ++ [d]) = lentDs gs (ds.take i) ++ [lentD g d]) := lentDs_snoc L.out.len g d
      clear B Dn hge O L D
      go_wp2_with (first
        | (at_builtin; refine wpList_append_fits _ rfl (.tmp 16) (.tmp 22) 22 rfl G 25 j0 1 Try.underlying22 ki.out kz1.out _ _ _ _ rfl (O2.out.alloc _) ⟨w2.heap.size, 0, none⟩ 1 1 [.slice (some ⟨g, 0, none⟩) d.bs.length (d.bs.length + 2)] rfl rfl (new_cell _ _ _) (by simp [Value.oneCell']) (by omega) ?_; intro w3 hown hgrow; have CG : Hid (Chg [G] w2 w3) := ((Chg.refl _ w2).alloc _).grown hgrow (by intro k hk; simp at hk; simp; omega); have D3 : Hid (Chg [] w w3) := (D2.out.alloc _).grown hgrow (by intro k hk; simp at hk; omega); have O3 := Lib.hid hown; clear hown hgrow))
      have L3 : Hid (LRow w w3 G (gs ++ [g]) (ds.take i ++ [d])) := by
        refine L2.out.chg CG.out (fun x hx hm => L2.out.off ?_)
        have e : x = G := by simpa using hm
        rw [← e]
        exact hx
      refine ⟨⟨i + 1, gs ++ [g], by omega, by go_num, rfl, ?_, ?_, D3⟩, by simp [intOf]; omega⟩
      · show World.ownsRow _ _ _ _ _ _ _
        rw [HT.out, hsn.out, List.map_append]
        exact O3.out
      · rw [HT.out]
        exact L3
    · obtain rfl : i = ds.length := by omega
      rw [List.take_length] at O L
      go_wp2_with (first
        | (at_builtin; refine wpList_append_fits _ rfl (.tmp 24) (.tmp 27) 22 rfl G 25 j0 1 Try.underlying22 ki.out kz1.out _ _ _ _ rfl (((O.out.alloc _).alloc _).alloc _) ⟨wr.heap.size + 2, 0, none⟩ 2 2 [.slice (some ⟨wr.heap.size, 0, none⟩) 2 2, .slice (some ⟨wr.heap.size + 1, 0, none⟩) 2 2] rfl rfl (by have := two_cells ((wr.alloc (.cells #[.int .u8 77, .int .u8 78] 5)).alloc (.cells #[.int .u8 77, .int .u8 78] 5)) (.slice (some ⟨wr.heap.size, 0, none⟩) 2 2) (.slice (some ⟨wr.heap.size + 1, 0, none⟩) 2 2) 25; simpa using this) (by simp [Value.oneCell']) (by omega) ?_; intro w3 hown hgrow; have O3 := Lib.hid hown; have Q3 := Lib.hid hgrow; clear hown hgrow))
      go_ret
      have CG : Chg [G] wr w3 := ((((Chg.refl _ wr).alloc _).alloc _).alloc _).grown Q3.out (by intro k hk; simp at hk; simp; omega)
      have nG : ∀ k, wr.heap.size ≤ k → k ∉ (Value.slice (some ⟨G, 0, none⟩) ds.length (ds.length + 2)).ownBlock.toList := fun k hk hm => by
        have e : k = G := by simpa [Value.ownBlock] using hm
        omega
      refine ⟨G, wr.heap.size, wr.heap.size + 1, gs, rfl, ⟨L.out.chg CG ?_, ?_, ?_, ?_, by rw [hG]; exact Nat.le_refl _, by omega, by omega⟩, (((D.out.alloc _).alloc _).alloc _).grown Q3.out (by intro k hk; simp at hk; omega)⟩
      · intro x hx hm
        have e : x = G := by simpa using hm
        exact L.out.off (by rw [← e]; exact hx)
      · exact (Blk.owned O3.out).1
      · exact Blk.chg (Blk.alloc (Blk.alloc (Blk.made wr [.int .u8 77, .int .u8 78] 5) _) _) (chg_of_grown Q3.out) (nG _ (Nat.le_refl _))
      · have := Blk.alloc (Blk.made (wr.alloc (.cells #[.int .u8 77, .int .u8 78] 5)) [.int .u8 77, .int .u8 78] 5) (.cells #[.slice (some ⟨wr.heap.size, 0, none⟩) 2 2, .slice (some ⟨wr.heap.size + 1, 0, none⟩) 2 2] 25)
        have h2 := Blk.chg this (chg_of_grown Q3.out) (nG _ (by simp))
        simpa using h2

end Go.Proofs.Ytaciamnfkidmfaa
