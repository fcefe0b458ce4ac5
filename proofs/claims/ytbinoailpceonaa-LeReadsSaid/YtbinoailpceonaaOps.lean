/-
  A script of calls, as it lies in memory. By an AI agent.
-/
import Derived.Test.YtbinoailpceonaaLeReadRest
import Derived.Test.YtbinoailpceonaaLaw
import Derived.Deep.Slices
import Derived.Deep.Fields
import Derived.ChangeSame
namespace Go.Proofs.Ytbinoailpceonaa
open Go.RowKit

section
open Go.ChangeShapes Go.WideShapes Go.Deep
variable {H : Type} {enc : TypeId × Value → H} {P : Program} {w : World} {base : Nat} {spare : Nat → Bool} {held : Bool}
theorem open_slice_fields {t e : TypeId} {fs : Array Field} {fuel : Nat} {cs : List Value} {x : DataW H × List MemPlace} (ht : P.underlying t = some (.slice e)) (he : P.underlying e = some (.struct fs))
    (hone : oneCellFields P fs = true) (hC : P.cellsOf e = fs.size) (h : DataW.trod enc P w base spare held fuel t cs = some x) :
    (cs = [.slice none 0 0] ∧ x = (.nil, [])) ∨
    ∃ (a : Addr) (len cap m : Nat) (D : Nat → DataW H) (Pl : Nat → List MemPlace), cs = [.slice (some a) len cap] ∧ base ≤ a.block ∧ len ≤ cap ∧ cap ≤ maxLen ∧ m = (if spare a.block then cap else len) ∧
      x = (.slice ((List.range len).map D) ((List.range (m - len)).map fun j => D (len + j)), MemPlace.row a (m * fs.size) ++ (List.range m).flatMap Pl) ∧
      ∀ i, i < m → ∃ (ys : List (DataW H × List MemPlace)) (n : Nat), D i = .agg (ys.map (·.1)) ∧ Pl i = ys.flatMap (·.2) ∧ ys.length = fs.size ∧
        ∀ (j : Nat) (f : Field), fs[j]? = some f → ∃ (v : Value) (y : DataW H × List MemPlace), w.cell? (a.add (i * fs.size + j)) = some v ∧ ys[j]? = some y ∧ DataW.trod enc P w base spare held n f.type [v] = some y := by
  rcases open_slice ht h with h0 | ⟨a, len, cap, m, n, D, Pl, hcs, hb, hl, hm, hmm, hx, hi⟩
  · exact .inl h0
  · refine .inr ⟨a, len, cap, m, D, Pl, hcs, hb, hl, hm, hmm, by rw [hC] at hx; exact hx, fun i him => ?_⟩
    obtain ⟨cs', hc, ht'⟩ := hi i him
    rw [hC] at hc
    obtain ⟨ys, n', hn', hy, hlen, hyl, hf⟩ := DataW.trod_struct he ht'
    obtain ⟨_, hcl, hat⟩ := World.cells?_some hc
    simp only [Prod.mk.injEq] at hy
    refine ⟨ys, n', hy.1, hy.2, hyl, fun j f hj => ?_⟩
    obtain ⟨ho, hk⟩ := hone_of hone j f hj
    have hjl : j < fs.size := (Array.getElem?_eq_some_iff.1 hj).1
    have hcell := hat j hjl
    have hv : cs'[j]? = some (cs'[j]'(by omega)) := List.getElem?_eq_getElem (by omega)
    have h1 := hf j f hj
    rw [ho, hk] at h1
    have hone' : (cs'.drop j).take 1 = [cs'[j]'(by omega)] := by
      rw [List.drop_eq_getElem_cons (by omega)]
      rfl
    rw [hone'] at h1
    have hys : ys[j]? = some (ys[j]'(by omega)) := List.getElem?_eq_getElem (by omega)
    refine ⟨_, _, ?_, hys, h1.trans hys⟩
    rw [← Go.Deep.add_add, hcell, hv]
end

/-- One call of a script: its kind, a number, a count, bytes. -/
structure OpD where
  k : Int
  v : Int
  n : Int
  bv : Value
  bs : List Int

/-- It lies at b, o. -/
structure OpIn (w : World) (b o : Nat) (d : OpD) : Prop where
  c0 : w.cell? ⟨b, o, none⟩ = some (.int .i64 d.k)
  c1 : w.cell? ⟨b, o + 1, none⟩ = some (.int .u64 d.v)
  c2 : w.cell? ⟨b, o + 2, none⟩ = some (.int .i64 d.n)
  c3 : w.cell? ⟨b, o + 3, none⟩ = some d.bv
  sl : Sl w d.bv d.bs
  k0 : -9223372036854775808 ≤ d.k ∧ d.k ≤ 9223372036854775807
  v0 : 0 ≤ d.v ∧ d.v ≤ 18446744073709551615
  n0 : -9223372036854775808 ≤ d.n ∧ d.n ≤ 9223372036854775807
  by_ : By d.bs
  big : d.bs.length ≤ 140737488355328

/-- The slice v reads as this script. -/
def Ops (w : World) (v : Value) (ds : List OpD) : Prop :=
  (ds = [] ∧ ∃ ao c, v = .slice ao 0 c) ∨ ∃ b o c, v = .slice (some ⟨b, o, none⟩) ds.length c ∧ b < w.heap.size ∧ ds.length ≤ 140737488355328 ∧ ∀ i d, ds[i]? = some d → OpIn w b (o + i * 4) d

theorem Ops.slice {w : World} {v : Value} {ds : List OpD} (h : Ops w v ds) : ∃ ao c, v = .slice ao ds.length c := by
  rcases h with ⟨rfl, ao, c, rfl⟩ | ⟨b, o, cp, rfl, _⟩
  · exact ⟨ao, c, rfl⟩
  · exact ⟨_, _, rfl⟩

theorem Ops.len {w : World} {v : Value} {ds : List OpD} (h : Ops w v ds) : ds.length ≤ 140737488355328 := by
  rcases h with ⟨rfl, _⟩ | ⟨b, o, cp, rfl, _, h, _⟩
  · simp
  · exact h

theorem Sl.below {W w : World} {v : Value} {xs : List Int} (h : Sl W v xs) (hb : Below W.heap.size W w) : Sl w v xs := by
  rcases h with h | ⟨b, o, c, rfl, h1, h2⟩
  · exact .inl h
  · exact .inr ⟨b, o, c, rfl, Nat.lt_of_lt_of_le h1 hb.size, fun j hj => (hb.cell (p := ⟨b, o + j, none⟩) h1).trans (h2 j hj)⟩

/-- It reads the same while nothing that was there is turned. -/
theorem Ops.below {W w : World} {v : Value} {ds : List OpD} (h : Ops W v ds) (hb : Below W.heap.size W w) : Ops w v ds := by
  rcases h with h | ⟨b, o, c, rfl, h1, hl, h2⟩
  · exact .inl h
  · refine .inr ⟨b, o, c, rfl, Nat.lt_of_lt_of_le h1 hb.size, hl, fun i d hd => ?_⟩
    have h := h2 i d hd
    exact ⟨(hb.cell (p := ⟨b, _, none⟩) h1).trans h.c0, (hb.cell (p := ⟨b, _, none⟩) h1).trans h.c1, (hb.cell (p := ⟨b, _, none⟩) h1).trans h.c2, (hb.cell (p := ⟨b, _, none⟩) h1).trans h.c3, h.sl.below hb, h.k0, h.v0, h.n0, h.by_, h.big⟩

section
open Go.ChangeShapes Go.WideShapes Go.Deep Go.ChangeAt
variable {H : Type} {enc : TypeId × Value → H} {W : World}

/-- What is read takes no more memory than a row lets in. -/
def Fits (t : TypeId) (d : DataW H) : Prop := ∀ n ∈ d.weights Try.prog t, n ≤ reachBytes

theorem Fits.arg {ts : List TypeId} {ds : List (DataW H)} (h : (DataW.weightsEach Try.prog ts ds).all (· ≤ reachBytes) = true) {j : Nat} {t : TypeId} {d : DataW H} (ht : ts[j]? = some t) (hd : ds[j]? = some d) : Fits t d :=
  fun n hn => by simpa using List.all_eq_true.1 h n (DataW.weights_mem_each ht hd n hn)

theorem weights_mem_all {P : Program} {e : TypeId} : ∀ {ds : List (DataW H)} {d : DataW H}, d ∈ ds → ∀ n ∈ d.weights P e, n ∈ DataW.weightsAll P e ds
  | [], _, h, _, _ => by cases h
  | d0 :: ds, d, h, n, hn => by
    simp only [DataW.weightsAll, List.mem_append]
    rcases List.mem_cons.1 h with rfl | h
    · exact .inl hn
    · exact .inr (weights_mem_all h n hn)

theorem Fits.len {t e : TypeId} {elems spare : List (DataW H)} (h : Fits t (.slice elems spare)) (hu : Try.prog.underlying t = some (.slice e)) : (elems.length + spare.length) * Try.prog.bytesOf e ≤ reachBytes :=
  h _ (by simp [DataW.weights, hu])

theorem Fits.elem {t e : TypeId} {elems spare : List (DataW H)} (h : Fits t (.slice elems spare)) (hu : Try.prog.underlying t = some (.slice e)) {d : DataW H} (hd : d ∈ elems) : Fits e d := fun n hn => by
  refine h n ?_
  simp only [DataW.weights, hu, List.mem_cons, List.mem_append]
  exact .inr (.inl (weights_mem_all hd n hn))

theorem Fits.field {t t' : TypeId} {fs : Array Field} {parts : List (DataW H)} (h : Fits t (.agg parts)) (hu : Try.prog.underlying t = some (.struct fs)) {j : Nat} {d : DataW H} (ht : (fs.toList.map (·.type))[j]? = some t') (hd : parts[j]? = some d) : Fits t' d := fun n hn => by
  refine h n ?_
  simp only [DataW.weights, hu]
  exact DataW.weights_mem_each ht hd n hn

theorem bytes_u8 : Try.prog.bytesOf 5 = 1 := by kernel_rfl
theorem cells_u8 : Try.prog.cellsOf 5 = 1 := by kernel_rfl

/-- Bytes that came in, by their fit. -/
theorem open_bytes_fit {fuel : Nat} {v : Value} {x : DataW H × List MemPlace} (h : DataW.trod enc Try.prog W 0 (fun _ => true) true fuel 47 [v] = some x) (hf : Fits 47 x.1) :
    ∃ xs, Sl W v xs ∧ By xs ∧ xs.length ≤ 140737488355328 := by
  rcases open_ints Try.underlying47 Try.underlying5 cells_u8 h with ⟨hcs, hx⟩ | ⟨a, len, cap, zs, hcs, _, hl, hm, hz, hx, hcell, hwz⟩
  · obtain rfl : v = .slice none 0 0 := by simpa using hcs
    exact ⟨[], .inl ⟨rfl, _, _, rfl⟩, By.nil, by simp⟩
  · obtain rfl : v = .slice (some a) len cap := by simpa using hcs
    simp only [if_true] at hz
    have hby : By (zs.take len) := fun y hy => bounds_u8 (hwz y (List.mem_of_mem_take hy))
    have hlen : (zs.take len).length = len := by simp; omega
    have hbig : len ≤ 140737488355328 := by
      subst hx
      have := Fits.len hf Try.underlying47
      rw [bytes_u8] at this
      simp only [lits, List.length_map, List.length_take, List.length_drop, reachBytes] at this
      omega
    by_cases h0 : len = 0
    · subst h0
      exact ⟨[], .inl ⟨rfl, _, _, rfl⟩, By.nil, by simp⟩
    · obtain ⟨b, off, spot⟩ := a
      obtain rfl : spot = none := by simpa [Addr.add] using World.cell?_spot (hcell 0 (by omega))
      refine ⟨zs.take len, .inr ⟨b, off, cap, by rw [hlen], ?_, fun j hj => ?_⟩, hby, by omega⟩
      · have := hcell 0 (by omega)
        exact World.block_lt_of_cell? W _ this
      · have := hcell j (by omega)
        rw [Addr.add_lit] at this
        rw [this]
        congr 2
        simp [List.getD, show j < len by omega]

theorem cells_op : Try.prog.cellsOf 51 = 4 := by kernel_rfl
theorem bytes_op : 1 ≤ Try.prog.bytesOf 51 := of_decide_eq_true (by kernel_rfl)

/-- A script that came in. -/
theorem open_ops {fuel : Nat} {v : Value} {x : DataW H × List MemPlace} (h : DataW.trod enc Try.prog W 0 (fun _ => true) true fuel 22 [v] = some x) (hf : Fits 22 x.1) : ∃ ds, Ops W v ds := by
  rcases open_slice_fields Try.underlying22 Try.underlying51 (by kernel_rfl) cells_op h with ⟨hcs, hx⟩ | ⟨a, len, cap, m, D, Pl, hcs, _, hl, hm, hmm, hx, hi⟩
  · obtain rfl : v = .slice none 0 0 := by simpa using hcs
    exact ⟨[], .inl ⟨rfl, _, _, rfl⟩⟩
  · obtain rfl : v = .slice (some a) len cap := by simpa using hcs
    simp only [if_true] at hmm
    subst hx
    have hbig : len ≤ 140737488355328 := by
      have h1 := Fits.len hf Try.underlying22
      have h2 := bytes_op
      simp only [List.length_map, List.length_range, reachBytes] at h1
      have h3 : len ≤ (len + (m - len)) * Try.prog.bytesOf 51 := Nat.le_trans (Nat.le_add_right _ _) (Nat.le_mul_of_pos_right _ h2)
      omega
    by_cases h0 : len = 0
    · subst h0
      exact ⟨[], .inl ⟨rfl, _, _, rfl⟩⟩
    · have hsp : a.spot = none ∧ a.block < W.heap.size := by
        obtain ⟨ys, n, hD, _, _, hfl⟩ := hi 0 (by omega)
        obtain ⟨u, y, hc, _⟩ := hfl 0 _ rfl
        have h1 : W.cell? a = some u := by simpa [Addr.add] using hc
        exact ⟨by simpa using World.cell?_spot h1, World.block_lt_of_cell? W _ h1⟩
      obtain ⟨b, off, spot⟩ := a
      obtain ⟨rfl, hb⟩ : spot = none ∧ b < W.heap.size := hsp
      have hex : ∀ i, i < len → ∃ d, OpIn W b (off + i * 4) d := by
        intro i hil
        obtain ⟨ys, n, hD, _, hyl, hfl⟩ := hi i (by omega)
        obtain ⟨u0, y0, c0, g0, t0⟩ := hfl 0 _ rfl
        obtain ⟨u1, y1, c1, g1, t1⟩ := hfl 1 _ rfl
        obtain ⟨u2, y2, c2, g2, t2⟩ := hfl 2 _ rfl
        obtain ⟨u3, y3, c3, g3, t3⟩ := hfl 3 _ rfl
        obtain ⟨k, e0, _, w0⟩ := DataW.trod_int Try.underlying3 t0
        obtain ⟨vv, e1, _, w1⟩ := DataW.trod_int Try.underlying49 t1
        obtain ⟨nn, e2, _, w2⟩ := DataW.trod_int Try.underlying3 t2
        obtain rfl : u0 = .int .i64 k := by simpa using e0
        obtain rfl : u1 = .int .u64 vv := by simpa using e1
        obtain rfl : u2 = .int .i64 nn := by simpa using e2
        have hfit : Fits 47 y3.1 := by
          have hel : Fits 51 (D i) := Fits.elem hf Try.underlying22 (List.mem_map.2 ⟨i, List.mem_range.2 hil, rfl⟩)
          rw [hD] at hel
          exact Fits.field hel Try.underlying51 (j := 3) rfl (by rw [List.getElem?_map, g3]; rfl)
        obtain ⟨xs, hs, hby, hbg⟩ := open_bytes_fit t3 hfit
        rw [Addr.add_lit] at c0 c1 c2 c3
        exact ⟨⟨k, vv, nn, u3, xs⟩, c0, c1, c2, c3, hs, bounds_i64 w0, bounds_u64 w1, bounds_i64 w2, hby, hbg⟩
      have : Inhabited OpD := ⟨⟨0, 0, 0, undef, []⟩⟩
      obtain ⟨f, hfn⟩ := Go.Deep.choose_lt hex
      refine ⟨(List.range len).map f, .inr ⟨b, off, cap, by simp, hb, by simpa using hbig, fun i d hd => ?_⟩⟩
      rw [List.getElem?_map] at hd
      obtain ⟨i', hi', rfl⟩ := Option.map_eq_some_iff.1 hd
      obtain ⟨h1, h2⟩ := List.getElem?_eq_some_iff.1 hi'
      rw [List.getElem_range] at h2
      subst h2
      exact hfn i (by simpa using h1)
end
end Go.Proofs.Ytbinoailpceonaa
