/-
  Bytes that came in. By an AI agent.
-/
import Derived.Test.YtffpjefecmkfmaaBLaw
import Derived.Deep.Slices
import Derived.Deep.Fields
import Derived.ChangeSame
import Derived.Test.YtffpjefecmkfmaaBG
namespace Go.Proofs.Ytffpjefecmkfmaa
open Go.RowKit

open Go.ChangeShapes Go.WideShapes Go.Deep Go.ChangeAt
variable {H : Type} {enc : TypeId × Value → H} {W : World}

theorem Sl.below {W w : World} {v : Value} {xs : List Int} (h : Sl W v xs) (hb : Below W.heap.size W w) : Sl w v xs := by
  rcases h with h | ⟨b, o, c, rfl, h1, h2⟩
  · exact .inl h
  · exact .inr ⟨b, o, c, rfl, Nat.lt_of_lt_of_le h1 hb.size, fun j hj => (hb.cell (p := ⟨b, o + j, none⟩) h1).trans (h2 j hj)⟩

/-- What is read takes no more memory than a row lets in. -/
def Fits (t : TypeId) (d : DataW H) : Prop := ∀ n ∈ d.weights Try.prog t, n ≤ reachBytes

theorem Fits.arg {ts : List TypeId} {ds : List (DataW H)} (h : (DataW.weightsEach Try.prog ts ds).all (· ≤ reachBytes) = true) {j : Nat} {t : TypeId} {d : DataW H} (ht : ts[j]? = some t) (hd : ds[j]? = some d) : Fits t d :=
  fun n hn => by simpa using List.all_eq_true.1 h n (DataW.weights_mem_each ht hd n hn)

theorem weights_mem_all {P : Program} {e : TypeId} : ∀ {ds : List (DataW H)} {d : DataW H}, d ∈ ds → ∀ n ∈ d.weights P e, n ∈ DataW.weightsAll P e ds
  | [], _, h, _, _ => by cases h
  | d0 :: ds, d, h, n, hn => by
    simp only [DataW.weightsAll, List.mem_append]
    rcases List.mem_cons.1 h with rfl | h
    · exact .inl hn
    · exact .inr (weights_mem_all h n hn)

theorem Fits.len {t e : TypeId} {elems spare : List (DataW H)} (h : Fits t (.slice elems spare)) (hu : Try.prog.underlying t = some (.slice e)) : (elems.length + spare.length) * Try.prog.bytesOf e ≤ reachBytes :=
  h _ (by simp [DataW.weights, hu])

theorem Fits.elem {t e : TypeId} {elems spare : List (DataW H)} (h : Fits t (.slice elems spare)) (hu : Try.prog.underlying t = some (.slice e)) {d : DataW H} (hd : d ∈ elems) : Fits e d := fun n hn => by
  refine h n ?_
  simp only [DataW.weights, hu, List.mem_cons, List.mem_append]
  exact .inr (.inl (weights_mem_all hd n hn))

theorem Fits.field {t t' : TypeId} {fs : Array Field} {parts : List (DataW H)} (h : Fits t (.agg parts)) (hu : Try.prog.underlying t = some (.struct fs)) {j : Nat} {d : DataW H} (ht : (fs.toList.map (·.type))[j]? = some t') (hd : parts[j]? = some d) : Fits t' d := fun n hn => by
  refine h n ?_
  simp only [DataW.weights, hu]
  exact DataW.weights_mem_each ht hd n hn

theorem bytes_u8 : Try.prog.bytesOf 5 = 1 := by kernel_rfl

theorem cells_u8 : Try.prog.cellsOf 5 = 1 := by kernel_rfl

/-- Bytes that came in, by their fit. -/
theorem open_bytes_fit {fuel : Nat} {v : Value} {x : DataW H × List MemPlace} (h : DataW.trod enc Try.prog W 0 (fun _ => true) true fuel 65 [v] = some x) (hf : Fits 65 x.1) :
    ∃ xs, Sl W v xs ∧ By xs ∧ xs.length ≤ 140737488355328 := by
  rcases open_ints Try.underlying65 Try.underlying5 cells_u8 h with ⟨hcs, hx⟩ | ⟨a, len, cap, zs, hcs, _, hl, hm, hz, hx, hcell, hwz⟩
  · obtain rfl : v = .slice none 0 0 := by simpa using hcs
    exact ⟨[], .inl ⟨rfl, _, _, rfl⟩, By.nil, by simp⟩
  · obtain rfl : v = .slice (some a) len cap := by simpa using hcs
    simp only [if_true] at hz
    have hby : By (zs.take len) := fun y hy => bounds_u8 (hwz y (List.mem_of_mem_take hy))
    have hlen : (zs.take len).length = len := by simp; omega
    have hbig : len ≤ 140737488355328 := by
      subst hx
      have := Fits.len hf Try.underlying65
      rw [bytes_u8] at this
      simp only [lits, List.length_map, List.length_take, List.length_drop, reachBytes] at this
      omega
    by_cases h0 : len = 0
    · subst h0
      exact ⟨[], .inl ⟨rfl, _, _, rfl⟩, By.nil, by simp⟩
    · obtain ⟨b, off, spot⟩ := a
      obtain rfl : spot = none := by simpa [Addr.add] using World.cell?_spot (hcell 0 (by omega))
      refine ⟨zs.take len, .inr ⟨b, off, cap, by rw [hlen], ?_, fun j hj => ?_⟩, hby, by omega⟩
      · have := hcell 0 (by omega)
        exact World.block_lt_of_cell? W _ this
      · have := hcell j (by omega)
        rw [Addr.add_lit] at this
        rw [this]
        congr 2
        simp [List.getD, show j < len by omega]

/-- A slice that came in has no more elements than room. -/
theorem open_bytes_cap {fuel : Nat} {v : Value} {x : DataW H × List MemPlace} (h : DataW.trod enc Try.prog W 0 (fun _ => true) true fuel 65 [v] = some x) : ∀ ao n c, v = .slice ao n c → n ≤ c := by
  intro ao n c e
  rcases open_ints Try.underlying65 Try.underlying5 cells_u8 h with ⟨hcs, hx⟩ | ⟨a, len, cap, zs, hcs, _, hl, _⟩
  · obtain rfl : v = .slice none 0 0 := by simpa using hcs
    simp at e
    omega
  · obtain rfl : v = .slice (some a) len cap := by simpa using hcs
    simp at e
    omega

end Go.Proofs.Ytffpjefecmkfmaa
