/-
  Ballots that a law makes itself. By an AI agent.
-/
import Derived.Test.YtffpjefecmkfmaaBVtCho
namespace Go.Proofs.Ytffpjefecmkfmaa
open Go.RowKit

def BalD.cells (d : BalD) : List Value := [.bool d.has, .int .u64 (d.s.id : Int), .int .u64 (d.s.ev : Int), .int .u64 (d.s.safe : Int), .int .i64 d.s.role, .int .i64 d.s.m, .int .i64 d.s.c, .int .i64 d.s.t, .int .i64 d.s.ring, .bool d.s.lazy, .bool d.s.lost, d.u, .int .i64 d.s.cur]

theorem BalD.cells_len (d : BalD) : d.cells.length = 13 := rfl

def flat13 (ds : List BalD) : List Value := ds.flatMap BalD.cells

theorem flat13_len : ∀ ds : List BalD, (flat13 ds).length = ds.length * 13
  | [] => rfl
  | d :: ds => by
    have := flat13_len ds
    unfold flat13 at this ⊢
    rw [List.flatMap_cons, List.length_append, this, BalD.cells_len, List.length_cons]
    omega

theorem flat13_get : ∀ {ds : List BalD} {i j : Nat} {d : BalD}, ds[i]? = some d → j < 13 → (flat13 ds)[i * 13 + j]? = d.cells[j]?
  | [], i, j, d, h, _ => by simp at h
  | x :: ds, 0, j, d, h, hj => by
    obtain rfl : x = d := by simpa using h
    unfold flat13
    rw [List.flatMap_cons, List.getElem?_append_left (by rw [BalD.cells_len]; omega)]
    congr 1
    omega
  | x :: ds, i + 1, j, d, h, hj => by
    have h' : ds[i]? = some d := by simpa using h
    have := flat13_get h' hj
    unfold flat13 at this ⊢
    rw [List.flatMap_cons, List.getElem?_append_right (by rw [BalD.cells_len]; omega), ← this, BalD.cells_len]
    congr 1
    omega

theorem flat13_set : ∀ {ds : List BalD} {i j : Nat} {d d' : BalD} {v : Value}, ds[i]? = some d → j < 13 → d'.cells = d.cells.set j v → (flat13 ds).set (i * 13 + j) v = flat13 (ds.set i d')
  | [], i, j, d, d', v, h, _, _ => by simp at h
  | x :: ds, 0, j, d, d', v, h, hj, k => by
    obtain rfl : x = d := by simpa using h
    unfold flat13
    rw [List.flatMap_cons, List.set_append_left _ _ (by rw [BalD.cells_len]; omega), List.set_cons_zero, List.flatMap_cons, k]
    congr 2
    omega
  | x :: ds, i + 1, j, d, d', v, h, hj, k => by
    have h' : ds[i]? = some d := by simpa using h
    have := flat13_set h' hj k
    unfold flat13 at this ⊢
    rw [List.flatMap_cons, List.set_append_right _ _ (by rw [BalD.cells_len]; omega), List.set_cons_succ, List.flatMap_cons, ← this, BalD.cells_len]
    congr 2
    omega

theorem flat13_app (ds : List BalD) (d : BalD) : flat13 (ds ++ [d]) = flat13 ds ++ d.cells := by simp [flat13]

/-- What holds of a ballot's states, beside a row v. -/
def BSt (w : World) (v : Value) (d : BalD) : Prop := (Sl w d.u d.s.st ∧ ∀ k, d.u.ownBlock = some k → k < w.heap.size ∧ v.ownBlock ≠ some k) ∧ d.s.st.length ≤ 140737488355328 ∧ d.s.Fit

/-- Ballots in a row of one's own. -/
structure BRow (w0 w : World) (v : Value) (ds : List BalD) : Prop where
  row : w.ownsRow w0.heap.size 39 13 v ds.length (flat13 ds)
  ch : Chg [] w0 w
  st : ∀ d ∈ ds, BSt w v d

theorem BRow.nil {w0 w : World} (c : Chg [] w0 w) : BRow w0 w (.slice none 0 0) [] := ⟨World.ownsRow_nil _ _ _ _, c, by simp⟩

theorem BSt.chg {w w' : World} {v : Value} {d : BalD} {s : List Nat} (h : BSt w v d) (c : Chg s w w') (hs : ∀ k, d.u.ownBlock = some k → k ∉ s) : BSt w' v d :=
  ⟨⟨h.1.1.chg c hs, fun k hk => ⟨Nat.lt_of_lt_of_le (h.1.2 k hk).1 c.size, (h.1.2 k hk).2⟩⟩, h.2⟩

theorem BRow.chg {w0 w w' : World} {v : Value} {ds : List BalD} (h : BRow w0 w v ds) (c : Chg [] w w') : BRow w0 w' v ds :=
  ⟨owns_chg h.row c (by simp), h.ch.trans c, fun d hd => (h.st d hd).chg c (by simp)⟩

theorem BRow.app {w0 w w' : World} {v v' : Value} {ds : List BalD} {d : BalD} (h : BRow w0 w v ds) (hd : BSt w v d) (o : w'.ownsRow w0.heap.size 39 13 v' (ds.length + 1) (flat13 ds ++ d.cells)) (g : w.grownBy w' v.ownBlock) (hv : v'.ownBlock = v.ownBlock ∨ (v'.ownBlock = some w.heap.size ∧ w.grownBy w' none)) : BRow w0 w' v' (ds ++ [d]) := by
  have c1 : Chg v.ownBlock.toList w w' := (Chg.refl _ w).grown g (fun k hk => .inl (by rw [hk]; simp))
  have key : ∀ x, BSt w v x → BSt w' v' x := fun x hx => by
    refine ⟨⟨hx.1.1.chg c1 (fun k hk hm => ?_), fun k hk => ⟨Nat.lt_of_lt_of_le (hx.1.2 k hk).1 c1.size, ?_⟩⟩, hx.2⟩
    · have := (hx.1.2 k hk).2
      cases hvb : v.ownBlock with
      | none => rw [hvb] at hm; simp at hm
      | some b => rw [hvb] at hm this; simp at hm; subst hm; exact this rfl
    · rcases hv with e | ⟨e, _⟩
      · rw [e]; exact (hx.1.2 k hk).2
      · rw [e]
        intro q
        have := (hx.1.2 k hk).1
        have := Option.some.inj q
        omega
  refine ⟨?_, h.ch.grown g (fun k hk => .inr (h.row.lt k hk).1), fun x hx => ?_⟩
  · rw [flat13_app, List.length_append]
    exact o
  · rcases List.mem_append.1 hx with hx | hx
    · exact key x (h.st x hx)
    · rw [List.mem_singleton.1 hx]; exact key d hd

/-- One cell of a row whose parts have a size is written. -/
theorem owns_setW {w : World} {base : Nat} {e : TypeId} {g n c size : Nat} {xs : List Value} (h : w.ownsRow base e size (.slice (some ⟨g, 0, none⟩) n c) n xs) {k : Nat} (hk : k < n * size) (u : Value) :
    (w.setCell ⟨g, k, none⟩ u).ownsRow base e size (.slice (some ⟨g, 0, none⟩) n c) n (xs.set k u) ∧ w.frozen? ⟨g, k, none⟩ = false ∧ ∃ x, w.cell? ⟨g, k, none⟩ = some x := by
  rcases h.2 with ⟨h1, _⟩ | ⟨g', cap, cur, hv, hb, hg, h1, h2, h3, h4⟩
  · cases h1
  · obtain ⟨rfl, rfl⟩ : g = g' ∧ c = cap := by simpa using hv
    have hk2 : k < cur.size := by rw [h3]; exact Nat.lt_of_lt_of_le hk (Nat.mul_le_mul_right _ h1)
    refine ⟨⟨by simpa using h.1, .inr ⟨g, c, cur.setIfInBounds k u, rfl, hb, ?_, h1, h2, by simpa using h3, ?_⟩⟩, ?_, ?_⟩
    · simp [World.setCell, Array.getElem?_modify, hg]
    · rw [← h4, Array.toList_setIfInBounds, List.take_set]
    · simp [World.frozen?, hg]
    · exact ⟨cur[k], by simp [World.cell?, hg, hk2]⟩

theorem BRow.cell {w0 w : World} {G n c : Nat} {ds : List BalD} (h : BRow w0 w (.slice (some ⟨G, 0, none⟩) n c) ds) {i j : Nat} {d : BalD} {u : Value} (hi : ds[i]? = some d) (hj : j < 13) (hu : d.cells[j]? = some u) : w.cell? ⟨G, i * 13 + j, none⟩ = some u := by
  have hx : (flat13 ds)[i * 13 + j]? = some u := by rw [flat13_get hi hj]; exact hu
  rcases h.row.2 with ⟨h1, _⟩ | ⟨g', cap, cur, hv, hb, hg, h1, h2, h3, h4⟩
  · cases h1
  · obtain ⟨rfl, -, rfl⟩ : G = g' ∧ n = ds.length ∧ c = cap := by simpa using hv
    rw [← h4, List.getElem?_take] at hx
    split at hx
    · rw [Array.getElem?_toList] at hx
      have : w.cell? ⟨G, i * 13 + j, none⟩ = cur[i * 13 + j]? := by simp [World.cell?, hg]
      rw [this, hx]
    · cases hx

theorem BRow.at {w0 w : World} {G n c : Nat} {ds : List BalD} (h : BRow w0 w (.slice (some ⟨G, 0, none⟩) n c) ds) {i : Nat} {d : BalD} (hi : ds[i]? = some d) : BalIn w G (i * 13) d :=
  have q := h.st d (List.mem_of_getElem? hi)
  ⟨h.cell (j := 0) hi (by decide) rfl, h.cell (j := 1) hi (by decide) rfl, h.cell (j := 2) hi (by decide) rfl, h.cell (j := 3) hi (by decide) rfl, h.cell (j := 4) hi (by decide) rfl, h.cell (j := 5) hi (by decide) rfl, h.cell (j := 6) hi (by decide) rfl, h.cell (j := 7) hi (by decide) rfl, h.cell (j := 8) hi (by decide) rfl, h.cell (j := 9) hi (by decide) rfl, h.cell (j := 10) hi (by decide) rfl, h.cell (j := 11) hi (by decide) rfl, h.cell (j := 12) hi (by decide) rfl, q.1.1, q.2.1, q.2.2⟩

theorem BRow.slice {w0 w : World} {v : Value} {ds : List BalD} (h : BRow w0 w v ds) : ∃ ao c, v = .slice ao ds.length c := owns_slice h.row

theorem BRow.head {w0 w : World} {v : Value} {ds : List BalD} (h : BRow w0 w v ds) (h0 : 0 < ds.length) : ∃ G c, v = .slice (some ⟨G, 0, none⟩) ds.length c ∧ ds.length ≤ c ∧ w0.heap.size ≤ G ∧ G < w.heap.size := by
  rcases h.row.2 with ⟨h1, h2⟩ | ⟨g', cap, cur, hv, hb, hg, h1, h2, h3, h4⟩
  · omega
  · exact ⟨g', cap, hv, h1, hb, (Array.getElem?_eq_some_iff.1 hg).1⟩

theorem BRow.bals {w0 w : World} {v : Value} {ds : List BalD} (h : BRow w0 w v ds) (hl : ds.length ≤ 140737488355328) : Bals w v ds := by
  by_cases h0 : 0 < ds.length
  · obtain ⟨G, c, rfl, hc, _, hG⟩ := h.head h0
    refine .inr ⟨G, 0, c, rfl, hG, hl, hc, fun i d hi => ?_⟩
    rw [Nat.zero_add]
    exact h.at hi
  · obtain rfl : ds = [] := List.length_eq_zero_iff.1 (by omega)
    obtain ⟨ao, c, rfl⟩ := h.slice
    exact .inl ⟨rfl, ao, c, rfl⟩

/-- A field of one of them is written. -/
theorem BRow.set {w0 w : World} {G n c : Nat} {ds : List BalD} (h : BRow w0 w (.slice (some ⟨G, 0, none⟩) n c) ds) {i j : Nat} {d d' : BalD} {u : Value} (hi : ds[i]? = some d) (hj : j < 13) (hu : d'.cells = d.cells.set j u) (hd : BSt w (.slice (some ⟨G, 0, none⟩) n c) d') :
    BRow w0 (w.setCell ⟨G, i * 13 + j, none⟩ u) (.slice (some ⟨G, 0, none⟩) n c) (ds.set i d') ∧ w.frozen? ⟨G, i * 13 + j, none⟩ = false := by
  obtain ⟨ao, c', e⟩ := h.slice
  obtain ⟨rfl, rfl, rfl⟩ : some ⟨G, 0, none⟩ = ao ∧ n = ds.length ∧ c = c' := by simpa using e
  have hl : i < ds.length := (List.getElem?_eq_some_iff.1 hi).1
  obtain ⟨o1, o2, _⟩ := owns_setW h.row (k := i * 13 + j) (by omega) u
  have c1 : Chg [G] w (w.setCell ⟨G, i * 13 + j, none⟩ u) := (Chg.refl _ _).setCell (.inl (by simp)) _
  have key : ∀ x, BSt w (.slice (some ⟨G, 0, none⟩) ds.length c) x → BSt (w.setCell ⟨G, i * 13 + j, none⟩ u) (.slice (some ⟨G, 0, none⟩) ds.length c) x := fun x hx => hx.chg c1 (fun k hk hm => by
    rw [List.mem_singleton.1 hm] at hk
    exact (hx.1.2 G hk).2 rfl)
  refine ⟨⟨?_, h.ch.setCell (.inr (h.row.lt G rfl).1) _, fun x hx => ?_⟩, o2⟩
  · rw [flat13_set hi hj hu] at o1
    rw [List.length_set]
    exact o1
  · rcases List.mem_or_eq_of_mem_set hx with hx | rfl
    · exact key x (h.st x hx)
    · exact key _ hd

/-- The law's i-th ballot. -/
def baseS (ev : Nat) (i : Nat) : Sup := ⟨1, ev, 1, (i : Int), 3, 1, 2, 10, false, false, [1, 1, 1], 0⟩

theorem info_bal : (Try.prog.info? 39).map (fun i => (i.zero, i.size, i.bytes)) = some (some (.agg (#[.bool false, .int .u64 0, .int .u64 0, .int .u64 0, .int .i64 0, .int .i64 0, .int .i64 0, .int .i64 0, .int .i64 0, .bool false, .bool false, .slice none 0 0, .int .i64 0] : Array Value)), 13, 112) := by kernel_rfl

end Go.Proofs.Ytffpjefecmkfmaa
