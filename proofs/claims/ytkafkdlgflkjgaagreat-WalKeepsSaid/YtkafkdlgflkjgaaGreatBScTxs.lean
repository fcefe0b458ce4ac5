/-
  Batches that were found, as they read. By an AI agent.
-/
import Derived.Test.YtkafkdlgflkjgaaGreatBScChk
import Derived.Test.YtkafkdlgflkjgaaGreatBGSamePts
namespace Go.Proofs.YtkafkdlgflkjgaaGreat
open Go.RowKit Crc

theorem txs_of_wide {w : World} {tv : Value} {xs : List (List Value)} {ds : List TxD} (ow : OwnW 2 w 0 92 tv xs) (hl : xs.length = ds.length) (hb : ds.length ≤ 100000) (h : ∀ (i : Nat) (d : TxD), ds[i]? = some d → xs[i]? = some [.int .u64 d.sq, d.v] ∧ Pts w d.v d.ps) : Txs w tv ds := by
 have R := ow.rd
 obtain ⟨lo, lc, hlv⟩ := R.slice
 rw [hl] at hlv
 subst hlv
 by_cases hz : ds.length = 0
 ·refine .inl ⟨List.eq_nil_of_length_eq_zero hz, lo, lc, ?_⟩
  rw [hz]
 obtain ⟨g, rfl, _⟩ := R.at (h 0 ds[0] (List.getElem?_eq_getElem (by omega))).1
 refine .inr ⟨g, 0, lc, rfl, (ow.2.lt g (by simp [Value.ownBlock])).2, by omega, fun i d hd => ?_⟩
 obtain ⟨h1, h2⟩ := h i d hd
 obtain ⟨g', hg', hc⟩ := R.at h1
 obtain rfl : g = g' := by injection hg' with h9; injection h9
 rw [Nat.zero_add]
 exact ⟨by have := hc 0 _ rfl; rw [Nat.add_zero] at this; exact this, hc 1 _ rfl, h2⟩

def txFs (sq : Nat) (T : List Tx) : List TxD := T.mapIdx fun i t => ⟨((sq + i : Nat) : Int), t.1, t.2.map toPt⟩

theorem txFs_len (sq : Nat) (T : List Tx) : (txFs sq T).length = T.length := by simp [txFs]

theorem txFs_at (sq : Nat) {T : List Tx} {i : Nat} {t : Tx} (h : T[i]? = some t) : (txFs sq T)[i]? = some ⟨((sq + i : Nat) : Int), t.1, t.2.map toPt⟩ := by
 unfold txFs
 rw [List.getElem?_mapIdx, h]
 rfl

/-- What was found and booked, as it reads. -/
theorem txs_found' {w : World} {tv : Value} {sq : Nat} {T : List Tx} (ow : OwnW 2 w 0 92 tv (txSlots sq T)) (pw : ∀ p ∈ listsOf T, OwnW 3 w 0 105 p.1 p.2) (pd : ∀ p ∈ dataOf T, OwnR w 0 p.1 p.2.length p.2) (hT : T.length ≤ 100000) (hg : ∀ t ∈ T, Sc.Good (dOf t.2)) : Txs w tv (txFs sq T) := by
 refine txs_of_wide ow (by rw [txSlots_len, txFs_len]) (by rw [txFs_len]; exact hT) fun i d hd => ?_
 have hi : i < T.length := by rw [← txFs_len sq T]; exact (List.getElem?_eq_some_iff.1 hd).1
 have ha := List.getElem?_eq_getElem hi
 rw [txFs_at sq ha] at hd
 obtain rfl := Option.some.inj hd
 have hg := hg _ (List.getElem_mem hi)
 generalize T[i] = t at *
 have o2 := pw (t.1, t.2.map pvSlot) (List.mem_of_getElem? (i := i) (by unfold listsOf; rw [List.getElem?_map, ha]; rfl))
 have M : ∀ p ∈ t.2, Sc.PtOk p.1 := fun p hp => hg.2.2 p.1 (List.mem_map_of_mem hp)
 have hl : t.2.length ≤ 1023 := by have := hg.2.1; unfold dOf at this; rw [List.length_map] at this; exact this
 exact ⟨by unfold txSlots; rw [List.getElem?_mapIdx, ha]; rfl, pts_of2 o2 (fun p hp => pd (pvRow p) (List.mem_flatMap.2 ⟨t, List.mem_of_getElem? ha, List.mem_map_of_mem hp⟩)) (by omega) (fun p hp => by rw [(M p hp).2.2.1]; decide)⟩

/-- What was found, as it reads. -/
theorem txs_found {w0 w : World} {ts : List Thing} {tv : Value} {sq : Nat} {T : List Tx} (h : Side w0 w (wideT 2 92 tv (txSlots sq T) :: poolWT 3 105 (listsOf T) :: poolT (dataOf T) :: ts)) (hT : T.length ≤ 100000) (hg : ∀ t ∈ T, Sc.Good (dOf t.2)) : Txs w tv (txFs sq T) :=
 txs_found' (h.get 0 rfl) (show PoolW 3 w 105 (listsOf T) from h.get 1 rfl).row (show Pool w (dataOf T) from h.get 2 rfl).row hT hg

/-- Two that were found are alike. -/
theorem txs_alike {sq : Nat} {T T' : List Tx} (h : found T = found T') (i : Nat) (p q : TxD) (hp : (txFs sq T)[i]? = some p) (hq : (txFs sq T')[i]? = some q) : p.alike q := by
 have hi : i < T.length := by rw [← txFs_len sq T]; exact (List.getElem?_eq_some_iff.1 hp).1
 have hj : i < T'.length := by rw [← txFs_len sq T']; exact (List.getElem?_eq_some_iff.1 hq).1
 rw [txFs_at sq (List.getElem?_eq_getElem hi)] at hp
 rw [txFs_at sq (List.getElem?_eq_getElem hj)] at hq
 obtain rfl := Option.some.inj hp
 obtain rfl := Option.some.inj hq
 have e : dOf T[i].2 = dOf T'[i].2 := by
  have h1 : (found T)[i]? = some (dOf T[i].2) := by unfold found; rw [List.getElem?_map, List.getElem?_eq_getElem hi]; rfl
  have h2 : (found T')[i]? = some (dOf T'[i].2) := by unfold found; rw [List.getElem?_map, List.getElem?_eq_getElem hj]; rfl
  rw [h, h2] at h1
  exact (Option.some.inj h1).symm
 have hl : T[i].2.length = T'[i].2.length := by
  have := congrArg List.length e
  simpa [dOf] using this
 refine ⟨rfl, by rw [List.length_map, List.length_map]; exact hl, fun k x y hx hy => ?_⟩
 dsimp only at hx hy
 rw [List.getElem?_map] at hx hy
 obtain ⟨a, ha, rfl⟩ := Option.map_eq_some_iff.1 hx
 obtain ⟨b, hb, rfl⟩ := Option.map_eq_some_iff.1 hy
 have e1 : (dOf T[i].2)[k]? = some a.1 := by unfold dOf; rw [List.getElem?_map, ha]; rfl
 have e2 : (dOf T'[i].2)[k]? = some b.1 := by unfold dOf; rw [List.getElem?_map, hb]; rfl
 rw [e, e2] at e1
 have e3 := Option.some.inj e1
 exact ⟨by simp [toPt, e3], by simp [toPt, e3], by simp [toPt, e3]⟩

end Go.Proofs.YtkafkdlgflkjgaaGreat
