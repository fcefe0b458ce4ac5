/-
  Rows that are lent, each in a block of its own. By an AI agent.
-/
import Derived.Test.YtnkdgmnmmmjgjaaGreatBGNats
import Derived.Test.YtnkdgmnmmmjgjaaGreatBGIn
import Derived.Deep.RegionHeld3
namespace Go.Proofs.YtnkdgmnmmmjgjaaGreat
open Go.RowKit

/-- One row that is lent: its block, and what it was. -/
def lentD (g : Nat) (d : RowD) : RowD := ⟨.slice (some ⟨g, 0, none⟩) d.bs.length (d.bs.length + 2), d.bs⟩
def lentDs (gs : List Nat) (ds : List RowD) : List RowD := List.zipWith lentD gs ds

theorem lentDs_snoc {gs : List Nat} {ds : List RowD} (h : gs.length = ds.length) (g : Nat) (d : RowD) : lentDs (gs ++ [g]) (ds ++ [d]) = lentDs gs ds ++ [lentD g d] := by
  unfold lentDs
  rw [List.zipWith_append h]
  rfl

theorem lentDs_length {gs : List Nat} {ds : List RowD} (h : gs.length = ds.length) : (lentDs gs ds).length = ds.length := by simp [lentDs, h]

theorem lentDs_bs {gs : List Nat} {ds : List RowD} (h : gs.length = ds.length) : (lentDs gs ds).map (·.bs) = ds.map (·.bs) := by
  induction ds generalizing gs with
  | nil => cases gs <;> simp [lentDs]
  | cons d r ih =>
    cases gs with
    | nil => simp at h
    | cons g gs =>
      have := ih (gs := gs) (by simpa using h)
      simp only [lentDs] at this ⊢
      simp [lentD, this]

theorem lentDs_get {gs : List Nat} {ds : List RowD} {i : Nat} {e : RowD} (h : (lentDs gs ds)[i]? = some e) : ∃ g d, gs[i]? = some g ∧ ds[i]? = some d ∧ e = lentD g d := by
  unfold lentDs at h
  rw [List.getElem?_zipWith] at h
  cases hg : gs[i]? with
  | none => rw [hg] at h; simp at h
  | some g =>
    cases hd : ds[i]? with
    | none => rw [hg, hd] at h; simp at h
    | some d =>
      rw [hg, hd] at h
      exact ⟨g, d, rfl, rfl, by simpa using h.symm⟩

/-- The rows that have been lent, each in a block of its own. -/
structure LRow (w0 w : World) (G : Nat) (gs : List Nat) (ds : List RowD) : Prop where
  len : gs.length = ds.length
  row : ∀ (i g : Nat) (d : RowD), gs[i]? = some g → ds[i]? = some d → Blk w g 5 ((d.bs ++ [91, 92]).map (Value.int .u8))
  nodup : gs.Nodup
  off : G ∉ gs
  new : ∀ g ∈ gs, w0.heap.size ≤ g

theorem LRow.lt {w0 w : World} {G : Nat} {gs : List Nat} {ds : List RowD} (h : LRow w0 w G gs ds) : ∀ g ∈ gs, g < w.heap.size := by
  intro g hg
  obtain ⟨i, hi⟩ := List.mem_iff_getElem?.1 hg
  have hil : i < gs.length := (List.getElem?_eq_some_iff.1 hi).1
  obtain ⟨d, hd⟩ : ∃ d, ds[i]? = some d := ⟨_, List.getElem?_eq_getElem (by rw [← h.len]; exact hil)⟩
  exact (h.row i g d hi hd).lt

theorem LRow.chg {w0 w w' : World} {s : List Nat} {G : Nat} {gs : List Nat} {ds : List RowD} (h : LRow w0 w G gs ds) (c : Chg s w w') (hs : ∀ g ∈ gs, g ∉ s) : LRow w0 w' G gs ds :=
  ⟨h.len, fun i g d hi hd => (h.row i g d hi hd).chg c (hs g (List.mem_of_getElem? hi)), h.nodup, h.off, h.new⟩

theorem LRow.snoc {w0 w w' : World} {G g : Nat} {gs : List Nat} {ds : List RowD} {d : RowD} (h : LRow w0 w G gs ds) (b : Blk w' g 5 ((d.bs ++ [91, 92]).map (Value.int .u8))) (c : Chg [] w w') (hg : w.heap.size ≤ g) (hG : G < w.heap.size) (h0 : w0.heap.size ≤ w.heap.size) :
    LRow w0 w' G (gs ++ [g]) (ds ++ [d]) := by
  refine ⟨by simp [h.len], fun i g' d' hi hd => ?_, ?_, ?_, ?_⟩
  · by_cases hil : i < gs.length
    · rw [List.getElem?_append_left hil] at hi
      rw [List.getElem?_append_left (by rw [← h.len]; exact hil)] at hd
      exact (h.row i g' d' hi hd).chg c (by simp)
    · have h1 : i < (gs ++ [g]).length := (List.getElem?_eq_some_iff.1 hi).1
      obtain rfl : i = gs.length := by simp at h1; omega
      rw [List.getElem?_append_right (Nat.le_refl _), Nat.sub_self] at hi
      rw [List.getElem?_append_right (by rw [h.len]; exact Nat.le_refl _), h.len, Nat.sub_self] at hd
      obtain rfl : g = g' := by simpa using hi
      obtain rfl : d = d' := by simpa using hd
      exact b
  · refine List.nodup_append.2 ⟨h.nodup, by simp, fun a ha b hb => ?_⟩
    have := h.lt a ha
    have hb' : b = g := by simpa using hb
    omega
  · intro hm
    rcases List.mem_append.1 hm with hm | hm
    · exact h.off hm
    · have : G = g := by simpa using hm
      omega
  · intro x hx
    rcases List.mem_append.1 hx with hx | hx
    · exact h.new x hx
    · have : x = g := by simpa using hx
      omega

end Go.Proofs.YtnkdgmnmmmjgjaaGreat
namespace Go.Proofs.YtnkdgmnmmmjgjaaGreat
open Go.RowKit

theorem step_append_fits {P : Program} (w : World) {ops : Array Oper} {o : Oper} {a : Act} {K : Act → World → Prop} {Q : Exit → Act → World → Prop} {E : Prop} (hgd : o.guard = none) (s x : Operand) (t : TypeId)
    (ho : o.op = .call { callee := .builtin .append, args := #[s, x], argTypes := #[t, t] })
    (base : Nat) (e : TypeId) (i : TypeInfo) (size : Nat) (h1 : P.underlying t = some (.slice e)) (h2 : P.info? e = some i) (h4 : i.size = size)
    (g k cap : Nat) (xs : List Value) (hs : a.eval s = .slice (some ⟨g, 0, none⟩) k cap) (hown : w.ownsRow base e size (.slice (some ⟨g, 0, none⟩) k cap) k xs) (ad : Addr) (m c : Nat) (news : List Value) (hx : a.eval x = .slice (some ad) m c) (hn : news.length = m * size)
    (hc : ∀ j u, news[j]? = some u → w.cell? (ad.add j) = some u) (h1c : ∀ u ∈ news, u.oneCell' = true) (b1 : k + m ≤ cap)
    (h : ∀ w', Hid (w'.ownsRow base e size (.slice (some ⟨g, 0, none⟩) (k + m) cap) (k + m) (xs ++ news)) → Hid (w.grownBy w' (some g)) → K (a.put o.dst (.slice (some ⟨g, 0, none⟩) (k + m) cap)) w') :
    if Region.wanted o (yielded ops a.tmps) = true then Oper.wp P o a w K Q else E := by
  have hw : Region.wanted o (yielded ops a.tmps) = true := by simp [Region.wanted, hgd]
  rw [if_pos hw]
  obtain ⟨w', hrun, r1, r2⟩ := run_append_fits (P := P) w base t o.type e i size h1 h2 h4 g k cap xs hown ad m c news hn hc h1c b1
  unfold Oper.wp
  simp [execOp, ho, resolve, invoke, builtin, hs, hx, hrun, Result.andThen]
  exact h w' r1 r2

theorem info_patch : (Tryz.prog.info? 72).map (fun i => (i.zero, i.size, i.bytes)) = some (some (.agg #[.int .i64 0, .int .i64 0, .slice none 0 0]), 3, 40) := by kernel_rfl

/-- A patch's cells. -/
def PtD.cells (p : PtD) : List Value := [.int .i64 p.m, .int .i64 p.r, p.v]

def ptCells (ps : List PtD) : List Value := ps.flatMap PtD.cells

theorem ptCells_snoc (ps : List PtD) (p : PtD) : ptCells (ps ++ [p]) = ptCells ps ++ p.cells := by simp [ptCells]

theorem ptCells_len (ps : List PtD) : (ptCells ps).length = ps.length * 3 := by
  induction ps with
  | nil => rfl
  | cons a l ih => simp [ptCells, PtD.cells] at ih ⊢; omega

theorem ptCells_at : ∀ (ps : List PtD) (j r : Nat) (p : PtD) (u : Value), ps[j]? = some p → p.cells[r]? = some u → (ptCells ps)[j * 3 + r]? = some u
  | [], j, r, p, u, h, _ => by simp at h
  | a :: l, 0, r, p, u, h, hr => by
    obtain rfl : a = p := by simpa using h
    have hl : r < 3 := (List.getElem?_eq_some_iff.1 hr).1
    rw [Nat.zero_mul, Nat.zero_add, show ptCells (a :: l) = a.cells ++ ptCells l from rfl, List.getElem?_append_left hl]
    exact hr
  | a :: l, j + 1, r, p, u, h, hr => by
    rw [show ptCells (a :: l) = a.cells ++ ptCells l from rfl, List.getElem?_append_right (by show 3 ≤ _; omega), show (j + 1) * 3 + r - a.cells.length = j * 3 + r by show _ - 3 = _; omega]
    exact ptCells_at l j r p u (by simpa using h) hr

theorem three_new (w : World) (x y z : Value) (t : TypeId) : ∀ j u, [x, y, z][j]? = some u → (w.alloc (.cells #[x, y, z] t)).cell? ((⟨w.heap.size, 0, none⟩ : Addr).add j) = some u := by
  intro j u hj
  have := (Blk.made w [x, y, z] t).cell hj
  rw [Addr.add_lit]
  simpa using this

theorem six_new (w : World) (a b c d e f : Value) (t : TypeId) : ∀ j u, [a, b, c, d, e, f][j]? = some u → (w.alloc (.cells #[a, b, c, d, e, f] t)).cell? ((⟨w.heap.size, 0, none⟩ : Addr).add j) = some u := by
  intro j u hj
  have := (Blk.made w [a, b, c, d, e, f] t).cell hj
  rw [Addr.add_lit]
  simpa using this

/-- A row that fills its block, as a block. -/
theorem BlkW.owned {w : World} {base g n s : Nat} {e : TypeId} {xs : List Value} (h : w.ownsRow base e s (.slice (some ⟨g, 0, none⟩) n n) n xs) : Blk w g e xs := by
  rcases h.2 with ⟨h1, _⟩ | ⟨g', cap, cur, hv, _, hg, h1, _, h3, h4⟩
  · cases h1
  · obtain ⟨rfl, rfl⟩ : g = g' ∧ n = cap := by simpa using hv
    have : cur = xs.toArray := by
      apply Array.ext'
      rw [← h4, ← h3, ← Array.length_toList, List.take_length]
    rw [this] at hg
    exact hg

/-- One patch that is lent. -/
def lentP (g : Nat) (p : PtD) : PtD := ⟨p.m, p.r, .slice (some ⟨g, 0, none⟩) p.d.length (p.d.length + 2), p.d⟩
def lentPs (gs : List Nat) (ps : List PtD) : List PtD := List.zipWith lentP gs ps

/-- Their rows of bytes. -/
def rowsP (ps : List PtD) : List RowD := ps.map fun p => ⟨p.v, p.d⟩

theorem lentPs_snoc {gs : List Nat} {ps : List PtD} (h : gs.length = ps.length) (g : Nat) (p : PtD) : lentPs (gs ++ [g]) (ps ++ [p]) = lentPs gs ps ++ [lentP g p] := by
  unfold lentPs
  rw [List.zipWith_append h]
  rfl

theorem lentPs_length {gs : List Nat} {ps : List PtD} (h : gs.length = ps.length) : (lentPs gs ps).length = ps.length := by simp [lentPs, h]

theorem lentPs_get {gs : List Nat} {ps : List PtD} {i : Nat} {e : PtD} (h : (lentPs gs ps)[i]? = some e) : ∃ g p, gs[i]? = some g ∧ ps[i]? = some p ∧ e = lentP g p := by
  unfold lentPs at h
  rw [List.getElem?_zipWith] at h
  cases hg : gs[i]? with
  | none => rw [hg] at h; simp at h
  | some g =>
    cases hd : ps[i]? with
    | none => rw [hg, hd] at h; simp at h
    | some d =>
      rw [hg, hd] at h
      exact ⟨g, d, rfl, rfl, by simpa using h.symm⟩

def markCells : List Value := [.int .i64 (-77), .int .i64 0, .slice none 0 0, .int .i64 (-77), .int .i64 0, .slice none 0 0]

/-- What has been lent: the list of the patches too lies in a block of its own, with two marks behind. -/
structure LendP (w0 w : World) (G : Nat) (gs : List Nat) (ps : List PtD) : Prop where
  rows : LRow w0 w G gs (rowsP ps)
  blk : Blk w G 72 (ptCells (lentPs gs ps) ++ markCells)
  newG : w0.heap.size ≤ G

theorem LendP.len {w0 w : World} {G : Nat} {gs : List Nat} {ps : List PtD} (h : LendP w0 w G gs ps) : gs.length = ps.length := by
  have := h.rows.len
  rw [rowsP, List.length_map] at this
  exact this

theorem LendP.chg {w0 w w' : World} {s : List Nat} {G : Nat} {gs : List Nat} {ps : List PtD} (h : LendP w0 w G gs ps) (c : Chg s w w') (hs : ∀ g, g ∈ s → g < w0.heap.size ∨ w.heap.size ≤ g) : LendP w0 w' G gs ps := by
  have no : ∀ g, w0.heap.size ≤ g → g < w.heap.size → g ∉ s := fun g h1 h2 hm => by
    rcases hs g hm with h3 | h3 <;> omega
  exact ⟨h.rows.chg c (fun g hg => no g (h.rows.new g hg) (h.rows.lt g hg)), h.blk.chg c (no G h.newG h.blk.lt), h.newG⟩

/-- What has been lent, as patches. -/
theorem LendP.pts {w0 w : World} {G : Nat} {gs : List Nat} {ps : List PtD} (h : LendP w0 w G gs ps) (hs : ∀ p ∈ ps, p.d.length ≤ 140737488355328) (hl : ps.length ≤ 140737488355328) :
    Pts w (.slice (some ⟨G, 0, none⟩) ps.length (ps.length + 2)) (lentPs gs ps) := by
  have hlen := lentPs_length h.len
  refine .inr ⟨G, 0, ps.length + 2, by rw [hlen], h.blk.lt, by rw [hlen]; exact hl, fun i e he => ?_⟩
  have hil : i < (lentPs gs ps).length := (List.getElem?_eq_some_iff.1 he).1
  have hc : ∀ r u, e.cells[r]? = some u → w.cell? ⟨G, 0 + i * 3 + r, none⟩ = some u := fun r u hr => by
    rw [Nat.zero_add]
    refine h.blk.cell ?_
    have hr3 : r < 3 := (List.getElem?_eq_some_iff.1 hr).1
    rw [List.getElem?_append_left (by rw [ptCells_len]; omega)]
    exact ptCells_at _ _ _ _ _ he hr
  obtain ⟨g, p, hg, hp, rfl⟩ := lentPs_get he
  have s2 := hs p (List.mem_of_getElem? hp)
  exact ⟨hc 0 _ rfl, hc 1 _ rfl, hc 2 _ rfl, Blk.sl (h.rows.row i g ⟨p.v, p.d⟩ hg (by rw [rowsP, List.getElem?_map, hp]; rfl)), s2⟩

def LentPOf (w : World) (ps : List PtD) (e : Ending) (w' : World) : Prop :=
  ∃ G gs, e = .returned (.slice (some ⟨G, 0, none⟩) ps.length (ps.length + 2)) ∧ Hid (LendP w w' G gs ps) ∧ Hid (Chg [] w w')

set_option maxHeartbeats 2000000 in
set_option maxRecDepth 100000 in
theorem lentPts_any (v : Value) (ps : List PtD) (w : World) (h : Pts w v ps) (hps : ps.length ≤ 1000000) :
    Calls Tryz.prog 6 #[v] w (LentPOf w ps) := by
  obtain ⟨j0, ki, kz0, kz1, kz2⟩ := info_parts info_patch
  replace ki := Lib.hid ki
  replace kz0 := Lib.hid kz0
  replace kz1 := Lib.hid kz1
  replace kz2 := Lib.hid kz2
  obtain ⟨ao, c, rfl⟩ := h.slice
  have HR := Lib.hid h
  clear h
  have hn0 : (0 : Int) ≤ ps.length := Int.natCast_nonneg _
  go_enter Tryz.func6, Tryz.ntmps6
  go_wp2_with (at_make; refine wpList_make_own _ rfl _ _ 23 rfl w.heap.size 72 j0 (.agg #[.int .i64 0, .int .i64 0, .slice none 0 0]) 3 Tryz.underlying23 ki.out kz0.out kz1.out .i64 .i64 _ (ps.length + 2) rfl rfl (by omega) (by rw [kz2.out]; omega) (by unfold maxLen; omega) (Nat.le_refl _) ?_; intro w1 hown hgrow; have C1 : Hid (Chg [] w w1) := (Chg.refl _ w).grown hgrow (by intro k hk; cases hk); have O1 := Lib.hid hown; clear hown hgrow)
  generalize hG : w.heap.size = G at *
  go_loopw [3, 4] (fun x q wr => ∃ (i : Nat) (gs : List Nat), i ≤ ps.length ∧ q = .int .i64 i ∧ x = .slice (some ⟨G, 0, none⟩) i (ps.length + 2) ∧ Hid (wr.ownsRow G 72 3 (.slice (some ⟨G, 0, none⟩) i (ps.length + 2)) i (ptCells (lentPs gs (ps.take i)))) ∧ Hid (LRow w wr G gs (rowsP (ps.take i))) ∧ Hid (Chg [] w wr)) (fun _ q _ => ps.length - (intOf q).toNat)
  case atStart =>
    refine ⟨0, [], Nat.zero_le _, rfl, rfl, ?_, ⟨rfl, fun i g d hi => by simp at hi, List.nodup_nil, by simp, fun g hg => by cases hg⟩, C1⟩
    show World.ownsRow _ _ _ _ _ _ _
    simpa [lentPs, ptCells] using O1.out
  case round =>
    obtain ⟨i, gs, hil, rfl, rfl, O, L, D⟩ := hrel
    clear C1 O1
    have hGw : G < wr.heap.size := (O.out.lt G rfl).2
    by_cases hlt : i < ps.length
    · obtain ⟨p, hp⟩ : ∃ d, ps[i]? = some d := ⟨_, List.getElem?_eq_getElem hlt⟩
      obtain ⟨b, o, rfl, hb, R⟩ := HR.out.at hp
      have HT := Lib.hid (take_snoc hp)
      have KC : Hid (∀ w', Chg [] w w' → w'.cell? ⟨b, o + i * 3, none⟩ = some (.int .i64 p.m) ∧ w'.cell? ⟨b, o + i * 3 + 1, none⟩ = some (.int .i64 p.r) ∧ w'.cell? ⟨b, o + i * 3 + 2, none⟩ = some p.v) := fun w' c => by
        have k := R.chg hb c (by simp) (by simp)
        exact ⟨k.c0, k.c1, k.c2⟩
      have LE : Hid (∀ w', Chg [] w w' → Calls Tryz.prog 15 #[p.v] w' (LentBy w' p.d)) := fun w' c => lent_any p.v p.d w' (R.sl.chgNil c) R.big
      have HSL := Lib.hid R.sl
      obtain ⟨pm, pr, pv, pd⟩ := p
      dsimp only at KC LE HSL HT
      obtain ⟨eo, ec, rfl⟩ := HSL.out.slice
      obtain ⟨c0, c1, c2⟩ := KC.out _ D.out
      have hi0 : (0 : Int) ≤ i := Int.natCast_nonneg _
      have hi1 : (i : Int) < ps.length := by omega
      have HP := Lib.hid hp
      have hlen : Hid (gs.length = (ps.take i).length) := by have := L.out.len; rw [rowsP, List.length_map] at this; exact this
      clear R hp
      go_wp2_with fail
      have CZ : Hid (Chg [] w wr) := D
      go_region_held3 (fun w' : World => w'.cell? ⟨b, o + i * 3, none⟩ = some (.int .i64 pm) ∧ w'.cell? ⟨b, o + i * 3 + 1, none⟩ = some (.int .i64 pr) ∧ w'.cell? ⟨b, o + i * 3 + 2, none⟩ = some (.slice eo pd.length ec))
        (first | exact ⟨c0, c1, c2⟩ | exact KC.out _ CZ.out | exact KC.out _ (CZ.out.drewN 1) | exact KC.out _ (CZ.out.alloc _))
        (first
          | (go_at_call 15; refine (LE.out _ (CZ.out.drewN 1)).mono ?_; rintro e w2 ⟨g, rfl, B, Dn, hge⟩; have CY : Hid (Chg [] w w2) := (CZ.out.drewN 1).trans Dn; have CZ := CY; have O2 : Hid (w2.ownsRow G 72 3 (.slice (some ⟨G, 0, none⟩) i (ps.length + 2)) i (ptCells (lentPs gs (ps.take i)))) := owns_chg (owns_chg O.out ((Chg.refl [] _).drewN 1) (by simp)) Dn (by simp); have B2 := Lib.hid B; have L2 : Hid (LRow w w2 G (gs ++ [g]) (rowsP (ps.take i) ++ [⟨.slice eo pd.length ec, pd⟩])) := (L.out.chg ((Chg.refl [] _).drewN 1) (by simp)).snoc B Dn hge hGw (by rw [hG]; exact Nat.le_of_lt hGw))
          | (refine step_append_fits _ (by rfl) _ _ _ (by rfl) G 72 j0 3 Tryz.underlying23 ki.out kz1.out G i (ps.length + 2) _ (by rfl) (O2.out.alloc _) ⟨w2.heap.size, 0, none⟩ 1 1 [.int .i64 pm, .int .i64 pr, .slice (some ⟨g, 0, none⟩) pd.length (pd.length + 2)] (by rfl) (by rfl) (three_new _ _ _ _ _) (by simp [Value.oneCell']) (by omega) ?_; intro w9 own9 grow9; have CG : Hid (Chg [G] w2 w9) := ((Chg.refl _ w2).alloc _).grown grow9.out (by intro k hk; simp at hk; simp; omega); have CY : Hid (Chg [] w w9) := (CZ.out.alloc _).grown grow9.out (by intro k hk; simp at hk; omega); have CZ := CY))
      have hsn : Hid (lentPs (gs ++ [g]) (ps.take i ++ [⟨pm, pr, .slice eo pd.length ec, pd⟩]) = lentPs gs (ps.take i) ++ [lentP g ⟨pm, pr, .slice eo pd.length ec, pd⟩]) := lentPs_snoc hlen.out g _
      have L3 : Hid (LRow w w9 G (gs ++ [g]) (rowsP (ps.take i) ++ [⟨.slice eo pd.length ec, pd⟩])) := by
        refine L2.out.chg CG.out (fun x hx hm => L2.out.off ?_)
        have e : x = G := by simpa using hm
        rw [← e]
        exact hx
      go_wp2_with fail
      refine ⟨⟨i + 1, gs ++ [g], by omega, by go_num, rfl, ?_, ?_, CY⟩, by simp [intOf]; omega⟩
      · show World.ownsRow _ _ _ _ _ _ _
        rw [HT.out, hsn.out, ptCells_snoc]
        exact own9.out
      · rw [HT.out]
        show LRow _ _ _ _ _
        unfold rowsP at L3 ⊢
        rw [List.map_append]
        exact L3.out
    · obtain rfl : i = ps.length := by omega
      rw [List.take_length] at O L
      go_wp2_with (at_builtin; refine wpList_append_fits _ rfl (.tmp 36) (.tmp 39) 23 rfl G 72 j0 3 Tryz.underlying23 ki.out kz1.out _ _ _ _ rfl (O.out.alloc _) ⟨wr.heap.size, 0, none⟩ 2 2 markCells rfl rfl (six_new _ _ _ _ _ _ _ _) (by simp [Value.oneCell', markCells]) (by omega) ?_; intro w3 hown hgrow; have O3 := Lib.hid hown; have Q3 := Lib.hid hgrow; clear hown hgrow)
      go_ret
      have CG : Chg [G] wr w3 := ((Chg.refl _ wr).alloc _).grown Q3.out (by intro k hk; simp at hk; simp; omega)
      refine ⟨G, gs, rfl, ⟨L.out.chg CG ?_, ?_, by rw [hG]; exact Nat.le_refl _⟩, (D.out.alloc _).grown Q3.out (by intro k hk; simp at hk; omega)⟩
      · intro x hx hm
        have e : x = G := by simpa using hm
        exact L.out.off (by rw [← e]; exact hx)
      · have o3 := O3.out
        refine (BlkW.owned o3)

end Go.Proofs.YtnkdgmnmmmjgjaaGreat
namespace Go.Proofs.YtnkdgmnmmmjgjaaGreat
open Go.RowKit

theorem LendP.mark {w0 w : World} {G : Nat} {gs : List Nat} {ps : List PtD} (h : LendP w0 w G gs ps) {j : Nat} (hj : j < 2) :
    w.cell? ⟨G, (ps.length + j) * 3, none⟩ = some (.int .i64 (-77)) ∧ w.cell? ⟨G, (ps.length + j) * 3 + 1, none⟩ = some (.int .i64 0) ∧ w.cell? ⟨G, (ps.length + j) * 3 + 2, none⟩ = some (.slice none 0 0) := by
  have hl : (ptCells (lentPs gs ps)).length = ps.length * 3 := by rw [ptCells_len, lentPs_length h.len]
  have hc : ∀ r u, markCells[j * 3 + r]? = some u → w.cell? ⟨G, (ps.length + j) * 3 + r, none⟩ = some u := fun r u hr => by
    refine h.blk.cell ?_
    rw [List.getElem?_append_right (by rw [hl, Nat.add_mul]; omega), hl, show (ps.length + j) * 3 + r - ps.length * 3 = j * 3 + r by rw [Nat.add_mul]; omega]
    exact hr
  match j, hj with
  | 0, _ => exact ⟨hc 0 _ rfl, hc 1 _ rfl, hc 2 _ rfl⟩
  | 1, _ => exact ⟨hc 0 _ rfl, hc 1 _ rfl, hc 2 _ rfl⟩

theorem LendP.head {w0 w : World} {G : Nat} {gs : List Nat} {ps : List PtD} (h : LendP w0 w G gs ps) {i : Nat} {p : PtD} (hp : ps[i]? = some p) :
    ∃ g, gs[i]? = some g ∧ w.cell? ⟨G, i * 3, none⟩ = some (.int .i64 p.m) ∧ w.cell? ⟨G, i * 3 + 1, none⟩ = some (.int .i64 p.r) ∧ w.cell? ⟨G, i * 3 + 2, none⟩ = some (.slice (some ⟨g, 0, none⟩) p.d.length (p.d.length + 2)) ∧ Blk w g 5 ((p.d ++ [91, 92]).map (Value.int .u8)) := by
  have hil : i < ps.length := (List.getElem?_eq_some_iff.1 hp).1
  obtain ⟨g, hg⟩ : ∃ g, gs[i]? = some g := ⟨_, List.getElem?_eq_getElem (by rw [h.len]; exact hil)⟩
  have hl : (ptCells (lentPs gs ps)).length = ps.length * 3 := by rw [ptCells_len, lentPs_length h.len]
  have he : (lentPs gs ps)[i]? = some (lentP g p) := by unfold lentPs; rw [List.getElem?_zipWith, hg, hp]
  have hc : ∀ r u, (lentP g p).cells[r]? = some u → w.cell? ⟨G, i * 3 + r, none⟩ = some u := fun r u hr => by
    refine h.blk.cell ?_
    have hr3 : r < 3 := (List.getElem?_eq_some_iff.1 hr).1
    rw [List.getElem?_append_left (by rw [hl]; omega)]
    exact ptCells_at _ _ _ _ _ he hr
  exact ⟨g, hg, hc 0 _ rfl, hc 1 _ rfl, hc 2 _ rfl, h.rows.row i g ⟨p.v, p.d⟩ hg (by rw [rowsP, List.getElem?_map, hp]; rfl)⟩

set_option maxHeartbeats 2000000 in
set_option maxRecDepth 100000 in
theorem wholePts_any (w0 : World) (G : Nat) (gs : List Nat) (ps : List PtD) (v : Value) (w : World) (h : LendP w0 w G gs ps) (hv : Pts w v ps) (hps : ps.length ≤ 1000000) :
    Calls Tryz.prog 8 #[.slice (some ⟨G, 0, none⟩) ps.length (ps.length + 2), v] w fun e w' => e = .returned (.bool true) ∧ Hid (Chg [] w w') := by
  obtain ⟨ao, c, rfl⟩ := hv.slice
  have HL := Lib.hid h
  have HR := Lib.hid hv
  clear h hv
  have hn0 : (0 : Int) ≤ ps.length := Int.natCast_nonneg _
  go_enter Tryz.func8, Tryz.ntmps8
  go_wp2_with fail
  go_loopw [6] (fun i wr => ∃ k : Nat, k ≤ 2 ∧ i = .int .i64 ((ps.length + k : Nat) : Int) ∧ Hid (Chg [] w wr)) (fun i _ => ps.length + 2 - (intOf i).toNat)
  case atStart => exact ⟨0, Nat.zero_le _, rfl, Chg.refl _ _⟩
  case round =>
    obtain ⟨k, hk, rfl, D⟩ := hrel
    obtain ⟨z, hz⟩ : ∃ z, z = ps.length + k := ⟨_, rfl⟩
    have hz0 : (0 : Int) ≤ (z : Int) := Int.natCast_nonneg _
    by_cases hlt : k < 2
    · obtain ⟨c0, c1, c2⟩ := (HL.out.chg D.out (by simp)).mark hlt
      rw [← hz] at c0 c1 c2 ⊢
      have hz1 : (z : Int) < ps.length + 2 := by omega
      have HZ := Lib.hid hz
      have HK := Lib.hid hlt
      clear hz hlt hk
      go_wp2_with fail
      exact ⟨⟨k + 1, by have := HK.out; omega, by have := HZ.out; simp; omega, D⟩, by have := HZ.out; have := HK.out; simp [intOf]; omega⟩
    · obtain rfl : k = 2 := by omega
      rw [← hz]
      have hz1 : ¬ (z : Int) < ps.length + 2 := by omega
      clear hz hlt hk
      go_wp2_with fail
      go_loopw [7] (fun i wr => ∃ j : Nat, j ≤ ps.length ∧ i = .int .i64 j ∧ Hid (Chg [] w wr)) (fun i _ => ps.length - (intOf i).toNat)
      case atStart => exact ⟨0, Nat.zero_le _, rfl, D⟩
      case round =>
        obtain ⟨j, hj, rfl, D2⟩ := hrel
        have hj0 : (0 : Int) ≤ j := Int.natCast_nonneg _
        by_cases hlt2 : j < ps.length
        · obtain ⟨p, hp⟩ : ∃ p, ps[j]? = some p := ⟨_, List.getElem?_eq_getElem hlt2⟩
          obtain ⟨g, hg, c0, c1, c2, B⟩ := (HL.out.chg D2.out (by simp)).head hp
          obtain ⟨b, o, rfl, hb, R⟩ := (HR.out.chg D2.out).at hp
          have d0 := R.c0
          have d1 := R.c1
          have d2 := R.c2
          have SL := Lib.hid R.sl
          have big := Lib.hid R.big
          obtain ⟨pm, pr, pv, pd⟩ := p
          dsimp only at c0 c1 c2 B d0 d1 d2 SL big
          obtain ⟨eo, ec, rfl⟩ := SL.out.slice
          have B2 := Lib.hid B
          have hj1 : (j : Int) < ps.length := by omega
          clear B R hp hg
          go_wp2_with fail
          go_quiet (first | (go_at_call 17; exact Calls.quiet_of (whole_any g _ pd _ (B2.out.drewN _) (SL.out.chgNil ((Chg.refl _ _).drewN _)) big.out)))
          go_wp2_with fail
          exact ⟨⟨j + 1, by omega, by go_num, D2.out.drewN _⟩, by simp [intOf]; omega⟩
        · obtain rfl : j = ps.length := by omega
          go_wp2_with fail
          go_ret
          exact ⟨rfl, D2⟩

set_option maxHeartbeats 2000000 in
set_option maxRecDepth 100000 in
theorem spoilPts_any (w0 : World) (G : Nat) (gs : List Nat) (ps : List PtD) (w : World) (h : LendP w0 w G gs ps) (hps : ps.length ≤ 1000000) (hsm : ∀ p ∈ ps, p.d.length ≤ 1000000) :
    Calls Tryz.prog 9 #[.slice (some ⟨G, 0, none⟩) ps.length (ps.length + 2)] w fun e w' => e = .returned (.tuple #[]) ∧ Hid (Chg (G :: gs) w w') := by
  have HL := Lib.hid h
  have HS := Lib.hid hsm
  clear h hsm
  have hn0 : (0 : Int) ≤ ps.length := Int.natCast_nonneg _
  go_enter Tryz.func9, Tryz.ntmps9
  go_wp2_with fail
  go_loopw [2] (fun i wr => ∃ k : Nat, k ≤ ps.length ∧ i = .int .i64 k ∧ Hid (Chg (gs.take k) w wr)) (fun i _ => ps.length - (intOf i).toNat)
  case atStart => exact ⟨0, Nat.zero_le _, rfl, Chg.refl _ _⟩
  case round =>
    obtain ⟨k, hk, rfl, D⟩ := hrel
    have offG : Hid (G ∉ gs.take k) := fun hm => HL.out.rows.off (List.mem_of_mem_take hm)
    by_cases hlt : k < ps.length
    · obtain ⟨p, hp⟩ : ∃ p, ps[k]? = some p := ⟨_, List.getElem?_eq_getElem hlt⟩
      obtain ⟨g, hg, _, _, c2, B⟩ := HL.out.head hp
      have hsd := HS.out p (List.mem_of_getElem? hp)
      have gn : g ∉ gs.take k := fun hm => by
        obtain ⟨i, hi⟩ := List.mem_iff_getElem?.1 hm
        have hik : i < k := by
          have := (List.getElem?_eq_some_iff.1 hi).1
          simp at this
          omega
        rw [List.getElem?_take, if_pos hik] at hi
        have := (List.getElem?_inj (by have := (List.getElem?_eq_some_iff.1 hi).1; exact this) HL.out.rows.nodup).1 (hi.trans hg.symm)
        omega
      have hb := HL.out.blk.lt
      have c1 : wr.cell? ⟨G, k * 3 + 2, none⟩ = some (.slice (some ⟨g, 0, none⟩) p.d.length (p.d.length + 2)) := (D.out.cell (p := ⟨G, k * 3 + 2, none⟩) hb offG.out).trans c2
      have hsp := spoil_any g p.d.length (p.d ++ [91, 92]) wr (B.chg D.out gn) (by simp) (by omega)
      have HT : Hid (gs.take (k + 1) = gs.take k ++ [g]) := take_snoc hg
      have hk0 : (0 : Int) ≤ k := Int.natCast_nonneg _
      have hk1 : (k : Int) < ps.length := by omega
      clear hp hg c2 B gn
      go_wp2_with fail
      refine hsp.mono ?_
      clear hsp c1
      rintro e w2 ⟨rfl, Dn⟩
      replace Dn := Lib.hid Dn
      have D2 : Hid (Chg (gs.take (k + 1)) w w2) := by
        show Chg _ _ _
        rw [HT.out]
        exact (D.out.mono (fun x hx => List.mem_append_left _ hx)).trans (Dn.out.mono (fun x hx => List.mem_append_right _ hx))
      clear D Dn
      go_wp2_with fail
      exact ⟨⟨k + 1, by omega, by go_num, D2⟩, by simp [intOf]; omega⟩
    · obtain rfl : k = ps.length := by omega
      have DG : Hid (Chg (G :: gs) w wr) := D.out.mono (fun x hx => List.mem_cons_of_mem _ (List.mem_of_mem_take hx))
      have BG : Hid (∃ vs : List Value, vs.length = (ps.length + 2) * 3 ∧ Blk wr G 72 vs) :=
        ⟨_, by rw [List.length_append, ptCells_len, lentPs_length HL.out.len]; simp [markCells]; omega, HL.out.blk.chg D.out offG.out⟩
      clear D offG
      go_wp2_with fail
      go_loopw [4] (fun i wr => ∃ j : Nat, j ≤ ps.length + 2 ∧ i = .int .i64 j ∧ Hid (∃ vs : List Value, vs.length = (ps.length + 2) * 3 ∧ Blk wr G 72 vs) ∧ Hid (Chg (G :: gs) w wr)) (fun i _ => ps.length + 2 - (intOf i).toNat)
      case atStart => exact ⟨0, Nat.zero_le _, rfl, BG, DG⟩
      case round =>
        obtain ⟨j, hj, rfl, B, D⟩ := hrel
        clear BG DG
        by_cases hlt2 : j < ps.length + 2
        · obtain ⟨vs, hvl, hb⟩ := B.out
          have f0 := hb.free (j * 3)
          have f1 := hb.free (j * 3 + 1)
          have f2 := hb.free (j * 3 + 2)
          obtain ⟨u0, hu0⟩ : ∃ u, wr.cell? ⟨G, j * 3, none⟩ = some u := ⟨_, hb.cell (List.getElem?_eq_getElem (by omega))⟩
          obtain ⟨u1, hu1⟩ : ∃ u, wr.cell? ⟨G, j * 3 + 1, none⟩ = some u := ⟨_, hb.cell (List.getElem?_eq_getElem (by omega))⟩
          obtain ⟨u2, hu2⟩ : ∃ u, wr.cell? ⟨G, j * 3 + 2, none⟩ = some u := ⟨_, hb.cell (List.getElem?_eq_getElem (by omega))⟩
          have S : Hid (∀ a b c, ∃ vs : List Value, vs.length = (ps.length + 2) * 3 ∧ Blk (((wr.setCell ⟨G, j * 3, none⟩ a).setCell ⟨G, j * 3 + 1, none⟩ b).setCell ⟨G, j * 3 + 2, none⟩ c) G 72 vs) := fun a b c => ⟨_, by rw [List.length_set, List.length_set, List.length_set]; exact hvl, ((hb.set (j * 3) a).set (j * 3 + 1) b).set (j * 3 + 2) c⟩
          have hj0 : (0 : Int) ≤ j := Int.natCast_nonneg _
          have hj1 : (j : Int) < ps.length + 2 := by omega
          clear hb hvl
          go_wp2_with fail
          exact ⟨⟨j + 1, by omega, by go_num, S.out _ _ _, ((D.out.setCell (.inl (by simp)) _).setCell (.inl (by simp)) _).setCell (.inl (by simp)) _⟩, by simp [intOf]; omega⟩
        · obtain rfl : j = ps.length + 2 := by omega
          go_wp2_with fail
          go_end0
          exact ⟨rfl, D⟩

end Go.Proofs.YtnkdgmnmmmjgjaaGreat
