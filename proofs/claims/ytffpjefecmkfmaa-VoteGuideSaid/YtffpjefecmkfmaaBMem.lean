/-
  Memory, block by block: a block that is known whole, and a world that is another but for some blocks. No function of the program is named here. By an AI agent.
-/
import Derived.WalkKit
import Derived.WalkSpells
import Derived.WalkLawsBesides
import Derived.Laws.CopyOwn
namespace Go.Proofs.Ytffpjefecmkfmaa
open Go.RowKit

/-- Block g is a row of cells, none of them shut, and these are its cells. -/
def Blk (w : World) (g : Nat) (e : TypeId) (vs : List Value) : Prop := w.heap[g]? = some (.cells vs.toArray e (0, 0))

/-- w' is w but for the blocks in s, and but for new blocks and draws. -/
structure Chg (s : List Nat) (w w' : World) : Prop where
  os : w'.os = w.os
  tape : w'.tape = w.tape
  output : w'.output = w.output
  size : w.heap.size ≤ w'.heap.size
  block : ∀ k, k < w.heap.size → k ∉ s → w'.heap[k]? = w.heap[k]?

theorem Blk.lt {w : World} {g : Nat} {e : TypeId} {vs : List Value} (h : Blk w g e vs) : g < w.heap.size := (Array.getElem?_eq_some_iff.1 h).1

theorem Blk.cell {w : World} {g : Nat} {e : TypeId} {vs : List Value} (h : Blk w g e vs) {j : Nat} {u : Value} (hj : vs[j]? = some u) : w.cell? ⟨g, j, none⟩ = some u := by
  unfold Blk at h
  simp [World.cell?, h, hj]

theorem Blk.free {w : World} {g : Nat} {e : TypeId} {vs : List Value} (h : Blk w g e vs) (j : Nat) : w.frozen? ⟨g, j, none⟩ = false := by
  unfold Blk at h
  simp [World.frozen?, h]

theorem Blk.set {w : World} {g : Nat} {e : TypeId} {vs : List Value} (h : Blk w g e vs) (j : Nat) (u : Value) : Blk (w.setCell ⟨g, j, none⟩ u) g e (vs.set j u) := by
  unfold Blk at h ⊢
  simp [World.setCell, Array.getElem?_modify, h]

theorem Blk.other {w : World} {g : Nat} {e : TypeId} {vs : List Value} (h : Blk w g e vs) {a : Addr} (ha : a.block ≠ g) (u : Value) : Blk (w.setCell a u) g e vs := by
  unfold Blk at h ⊢
  simp only [World.setCell, Array.getElem?_modify]
  rw [if_neg ha]
  exact h

theorem Blk.drewN {w : World} {g : Nat} {e : TypeId} {vs : List Value} (h : Blk w g e vs) (n : Nat) : Blk (w.drewN n) g e vs := h
theorem Blk.drew {w : World} {g : Nat} {e : TypeId} {vs : List Value} (h : Blk w g e vs) : Blk w.drew g e vs := h

theorem Blk.made (w : World) (vs : List Value) (e : TypeId) : Blk (w.alloc (.cells vs.toArray e)) w.heap.size e vs := heap_alloc_new w _

theorem Blk.alloc {w : World} {g : Nat} {e : TypeId} {vs : List Value} (h : Blk w g e vs) (o : Obj) : Blk (w.alloc o) g e vs := by
  have hl := h.lt
  unfold Blk at h ⊢
  rw [Go.RowKit.Below.heap_alloc w o g hl]
  exact h

theorem Blk.chg {w w' : World} {s : List Nat} {g : Nat} {e : TypeId} {vs : List Value} (h : Blk w g e vs) (c : Chg s w w') (hs : g ∉ s) : Blk w' g e vs := by
  have hl := h.lt
  unfold Blk at h ⊢
  rw [c.block g hl hs]
  exact h

theorem Chg.refl (s : List Nat) (w : World) : Chg s w w := ⟨rfl, rfl, rfl, Nat.le_refl _, fun _ _ _ => rfl⟩

theorem Chg.trans {s : List Nat} {a b c : World} (h : Chg s a b) (k : Chg s b c) : Chg s a c :=
  ⟨k.os.trans h.os, k.tape.trans h.tape, k.output.trans h.output, Nat.le_trans h.size k.size, fun i hi hs => (k.block i (Nat.lt_of_lt_of_le hi h.size) hs).trans (h.block i hi hs)⟩

theorem Chg.mono {s t : List Nat} {a b : World} (h : Chg s a b) (hst : ∀ k, k ∈ s → k ∈ t) : Chg t a b :=
  ⟨h.os, h.tape, h.output, h.size, fun i hi hs => h.block i hi (fun hm => hs (hst i hm))⟩

/-- What is changed among blocks that are new need not be named. -/
theorem Chg.fresh {s t : List Nat} {a b c : World} (h : Chg s a b) (k : Chg t b c) (hst : ∀ i, i ∈ t → i ∈ s ∨ a.heap.size ≤ i) : Chg s a c :=
  ⟨k.os.trans h.os, k.tape.trans h.tape, k.output.trans h.output, Nat.le_trans h.size k.size, fun i hi hs =>
    (k.block i (Nat.lt_of_lt_of_le hi h.size) (fun hm => by rcases hst i hm with h1 | h1; exact hs h1; omega)).trans (h.block i hi hs)⟩

theorem Chg.setCell {s : List Nat} {a w : World} (h : Chg s a w) {p : Addr} (hp : p.block ∈ s ∨ a.heap.size ≤ p.block) (u : Value) : Chg s a (w.setCell p u) :=
  ⟨h.os, h.tape, h.output, by simpa [World.setCell] using h.size, fun i hi hs => by
    have hne : p.block ≠ i := by
      rintro rfl
      rcases hp with hp | hp
      · exact hs hp
      · omega
    simp only [World.setCell, Array.getElem?_modify]
    rw [if_neg hne]
    exact h.block i hi hs⟩

theorem Chg.alloc {s : List Nat} {a w : World} (h : Chg s a w) (o : Obj) : Chg s a (w.alloc o) :=
  ⟨h.os, h.tape, h.output, by have := h.size; simp; omega, fun i hi hs => by
    rw [Go.RowKit.Below.heap_alloc w o i (Nat.lt_of_lt_of_le hi h.size)]
    exact h.block i hi hs⟩

theorem Chg.drewN {s : List Nat} {a w : World} (h : Chg s a w) (n : Nat) : Chg s a (w.drewN n) := ⟨h.os, h.tape, h.output, h.size, h.block⟩
theorem Chg.drew {s : List Nat} {a w : World} (h : Chg s a w) : Chg s a w.drew := ⟨h.os, h.tape, h.output, h.size, h.block⟩

theorem Chg.grown {s : List Nat} {a w w' : World} {row : Option Nat} (h : Chg s a w) (g : w.grownBy w' row) (hr : ∀ k, row = some k → k ∈ s ∨ a.heap.size ≤ k) : Chg s a w' :=
  ⟨g.os.trans h.os, g.tape.trans h.tape, g.output.trans h.output, Nat.le_trans h.size g.size, fun i hi hs =>
    (g.block i (Nat.lt_of_lt_of_le hi h.size) (fun e => by rcases hr i e.symm with h1 | h1; exact hs h1; omega)).trans (h.block i hi hs)⟩

theorem Chg.cell {s : List Nat} {w w' : World} (h : Chg s w w') {p : Addr} (hp : p.block < w.heap.size) (hs : p.block ∉ s) : w'.cell? p = w.cell? p :=
  World.cell?_of_block (w := w) (h.block p.block hp hs)

theorem Chg.frozen {s : List Nat} {w w' : World} (h : Chg s w w') {p : Addr} (hp : p.block < w.heap.size) (hs : p.block ∉ s) : w'.frozen? p = w.frozen? p :=
  World.frozen?_of_block (w := w) (h.block p.block hp hs)

/-- Into blocks from B on, 'below B nothing turns'. -/
theorem Chg.below {s : List Nat} {a w w' : World} {B : Nat} (c : Chg s w w') (h : Below B a w) (hB : B ≤ w.heap.size) (hs : ∀ k, k ∈ s → B ≤ k) : Below B a w' :=
  h.trans ⟨c.os, c.tape, c.output, c.size, fun k hk => c.block k (by omega) (fun hm => by have := hs k hm; omega)⟩

theorem chg_of_below {w w' : World} (h : Below w.heap.size w w') : Chg [] w w' := ⟨h.os, h.tape, h.output, h.size, fun k hk _ => h.block k hk⟩

/-- A slice that the call owns lies in a block of known cells. -/
theorem ownsRow_cellAt {w : World} {base : Nat} {e : TypeId} {g n c : Nat} {xs : List Value} (h : w.ownsRow base e 1 (.slice (some ⟨g, 0, none⟩) n c) n xs) {j : Nat} {u : Value} (hj : xs[j]? = some u) : w.cell? ⟨g, j, none⟩ = some u := by
  have := h.cells (g := g) rfl j u hj
  rw [Addr.add_lit, Nat.zero_add] at this
  exact this

/-- A made row is known whole. -/
theorem Blk.owned {w : World} {base : Nat} {e : TypeId} {g n : Nat} {xs : List Value} (h : w.ownsRow base e 1 (.slice (some ⟨g, 0, none⟩) n n) n xs) : Blk w g e xs ∧ base ≤ g := by
  rcases h.2 with ⟨h0, _⟩ | ⟨g', cap, cur, hv, hb, hg, _, _, hs, ht⟩
  · cases h0
  · obtain ⟨h1, h2⟩ : g = g' ∧ n = cap := by simpa using hv
    subst h1 h2
    refine ⟨?_, hb⟩
    unfold Blk
    rw [hg, ← ht, List.take_of_length_le (by simp [hs])]

theorem made_replicate (z : Value) (n : Nat) (hz : z.cells = #[z]) : (madeCells z.cells (n * 1)).toList = List.replicate n z := by
  rw [hz, Nat.mul_one]
  exact toList_madeCells_one z n

theorem owned_cap {w : World} {base : Nat} {e : TypeId} {size n m c : Nat} {a : Option Addr} {xs : List Value} (h : w.ownsRow base e size (.slice a n c) m xs) : n ≤ c := by
  rcases h.2 with ⟨h1, _⟩ | ⟨g, cap, cur, h1, _, _, h2, _⟩
  · simp at h1; omega
  · simp at h1; omega

theorem drewN_store (w : World) (q n : Nat) (a : Addr) (u : Value) : ((w.drewN q).setCell a u).drewN n = (w.setCell a u).drewN (q + n) := by
  simp only [World.drewN, World.setCell, Nat.add_assoc]

/-- APPEND, AND WHERE ITS RESULT LIES: in the row that was owned, or in the newest block. -/
theorem run_append_two {P : Program} (w : World) (base : Nat) (t ty e : TypeId) (i : TypeInfo) (z : Value) (size bytes : Nat) (ht : P.underlying t = some (.slice e)) (hi : P.info? e = some i) (hz : i.zero = some z)
    (hsize : i.size = size) (hby : i.bytes = bytes) (hzs : z.cells.size = size) (hsz : 0 < size)
    (v : Value) (n : Nat) (xs : List Value) (hown : w.ownsRow base e size v n xs)
    (a : Addr) (m c : Nat) (news : List Value) (hl : news.length = m * size) (hnews : ∀ j u, news[j]? = some u → w.cell? (a.add j) = some u) (h1 : ∀ u ∈ news, u.oneCell' = true)
    (h63 : n + m ≤ maxLen) (hbytes : (n + m) * bytes ≤ 140737488355328) (hbase : base ≤ w.heap.size) :
    ∃ v' w', (Builtin.append_ #[t, t] ty #[v, .slice (some a) m c]).run P w = .ok v' w' ∧ w'.ownsRow base e size v' (n + m) (xs ++ news) ∧ w.grownBy w' v.ownBlock ∧
      (v'.ownBlock = v.ownBlock ∨ v'.ownBlock = some w.heap.size) := by
  obtain ⟨v', w', hr, h2, h3, h4⟩ := run_append_own (P := P) w base t ty e i z size bytes ht hi hz hsize hby hzs hsz v n xs hown a m c news hl hnews h1 h63 hbytes hbase
  refine ⟨v', w', hr, h2, h3, ?_⟩
  subst hsize hby
  have hsm : n + m ≤ 9223372036854775807 := by simp only [maxLen] at h63; omega
  rcases hown.2 with ⟨rfl, rfl⟩ | ⟨g, cap, cur, rfl, hbg, hg, hnc, hcm, hcs, htake⟩
  · by_cases hm : m = 0
    · obtain rfl := h4.2 ⟨rfl, hm⟩
      exact .inl rfl
    · have hr2 := run_append_nil (P := P) w t ty e i z ht hi hz a m c news hl hnews (by omega) (by omega) (by have hb := hbytes; simp only [Nat.zero_add] at hb; omega)
      rw [hr] at hr2
      obtain ⟨rfl, _⟩ : v' = _ ∧ w' = _ := by simpa using hr2
      exact .inr rfl
  · by_cases hroom : n + m ≤ cap
    · have hfit : n * i.size + news.length ≤ cur.size := by rw [hl, hcs, ← Nat.add_mul]; exact Nat.mul_le_mul_right _ hroom
      have hr2 := run_append_room (P := P) w t ty e i ht hi g n cap cur hg a m c news hl hnews h1 hroom hfit
      rw [hr] at hr2
      obtain ⟨rfl, _⟩ : v' = _ ∧ w' = _ := by simpa using hr2
      exact .inl rfl
    · have hr2 := run_append_grow (P := P) w t ty e i z ht hi hz ⟨g, 0, none⟩ n cap xs hown.1 (hown.cells (g := g) rfl) a m c news hl hnews (by omega) (by omega) (growslice_fits (by omega) hbytes)
      rw [hr] at hr2
      obtain ⟨rfl, _⟩ : v' = _ ∧ w' = _ := by simpa using hr2
      exact .inr rfl

theorem wpList_append_two {P : Program} (w : World) {ops : Array Oper} {rest : List Oper} {o : Oper} {a : Act} {Q : Exit → Act → World → Prop} (hgd : o.guard = none) (s x : Operand) (t : TypeId)
    (ho : o.op = .call { callee := .builtin .append, args := #[s, x], argTypes := #[t, t] })
    (base : Nat) (e : TypeId) (i : TypeInfo) (z : Value) (size bytes : Nat) (ht : P.underlying t = some (.slice e)) (hi : P.info? e = some i) (hz : i.zero = some z)
    (hsize : i.size = size) (hby : i.bytes = bytes) (hzs : z.cells.size = size) (hsz : 0 < size)
    (v : Value) (n : Nat) (xs : List Value) (hs : a.eval s = v) (hown : w.ownsRow base e size v n xs)
    (ad : Addr) (m c : Nat) (news : List Value) (hx : a.eval x = .slice (some ad) m c) (hl : news.length = m * size) (hnews : ∀ j u, news[j]? = some u → w.cell? (ad.add j) = some u) (h1 : ∀ u ∈ news, u.oneCell' = true)
    (h63 : n + m ≤ maxLen) (hbytes : (n + m) * bytes ≤ 140737488355328) (hbase : base ≤ w.heap.size)
    (h : ∀ v' w', Hid (w'.ownsRow base e size v' (n + m) (xs ++ news)) → Hid (w.grownBy w' v.ownBlock) → Hid (v'.ownBlock = v.ownBlock ∨ v'.ownBlock = some w.heap.size) → wpList P ops Q rest (a.put o.dst v') w') : wpList P ops Q (o :: rest) a w := by
  refine wpList_plain hgd fun K hK => ?_
  obtain ⟨v', w', hr, h2, h3, h4⟩ := run_append_two (P := P) w base t o.type e i z size bytes ht hi hz hsize hby hzs hsz v n xs hown ad m c news hl hnews h1 h63 hbytes hbase
  unfold Oper.wp
  simp [execOp, ho, resolve, invoke, builtin, hs, hx, hr, Result.andThen]
  exact hK _ _ (h v' w' h2 h3 h4)

/-- The slice v of bytes reads xs. -/
def Sl (w : World) (v : Value) (xs : List Int) : Prop :=
  (xs = [] ∧ ∃ ao c, v = .slice ao 0 c) ∨ ∃ b o c, v = .slice (some ⟨b, o, none⟩) xs.length c ∧ b < w.heap.size ∧ ∀ j, j < xs.length → w.cell? ⟨b, o + j, none⟩ = some (.int .u8 (xs.getD j 0))

theorem Sl.chg {w w' : World} {s : List Nat} {v : Value} {xs : List Int} (h : Sl w v xs) (c : Chg s w w') (hv : ∀ b, v.ownBlock = some b → b ∉ s) : Sl w' v xs := by
  rcases h with h | ⟨b, o, cp, rfl, hb, hc⟩
  · exact .inl h
  · exact .inr ⟨b, o, cp, rfl, Nat.lt_of_lt_of_le hb c.size, fun j hj => (c.cell (p := ⟨b, o + j, none⟩) hb (hv b rfl)).trans (hc j hj)⟩

theorem Sl.slice {w : World} {v : Value} {xs : List Int} (h : Sl w v xs) : ∃ ao c, v = .slice ao xs.length c := by
  rcases h with ⟨rfl, ao, c, rfl⟩ | ⟨b, o, cp, rfl, _⟩
  · exact ⟨ao, c, rfl⟩
  · exact ⟨_, _, rfl⟩

/-- What the call owns reads as its cells. -/
theorem Sl.owned {w : World} {base : Nat} {e : TypeId} {v : Value} {n : Nat} {xs : List Int} (h : w.ownsRow base e 1 v n (xs.map (Value.int .u8))) : Sl w v xs := by
  have hn : xs.length = n := by simpa using h.1
  subst hn
  rcases h.2 with ⟨rfl, h0⟩ | ⟨g, cap, cur, rfl, hb, hg, _⟩
  · exact .inl ⟨List.eq_nil_of_length_eq_zero h0, _, _, rfl⟩
  · refine .inr ⟨g, 0, cap, rfl, (Array.getElem?_eq_some_iff.1 hg).1, fun j hj => ?_⟩
    have := h.cells (g := g) rfl j (.int .u8 (xs.getD j 0)) (by simp [List.getD, List.getElem?_eq_getElem hj])
    rw [Addr.add_lit] at this
    exact this

/-- A part of a slice reads as that part. -/
theorem Sl.cut {w : World} {ao : Option Addr} {c : Nat} {xs : List Int} (h : Sl w (.slice ao xs.length c) xs) (pos n : Nat) (hn : pos + n ≤ xs.length) (hc : xs.length ≤ c) :
    Sl w (.slice (if c = pos then ao else Option.map (fun x => x.add pos) ao) n (c - pos)) ((xs.drop pos).take n) := by
  by_cases h0 : n = 0
  · subst h0
    exact .inl ⟨by simp, _, _, rfl⟩
  · rw [if_neg (by omega)]
    have hl : ((xs.drop pos).take n).length = n := by simp; omega
    rcases h with ⟨rfl, _⟩ | ⟨b, o, cp, hv, hb, hcell⟩
    · simp at hn; omega
    · obtain ⟨rfl, rfl⟩ : ao = some ⟨b, o, none⟩ ∧ c = cp := by simpa using hv
      refine .inr ⟨b, o + pos, c - pos, by rw [hl, Option.map_some, Addr.add_lit], hb, fun j hj => ?_⟩
      rw [hl] at hj
      rw [Nat.add_assoc, hcell (pos + j) (by omega)]
      simp [List.getD, hj]

theorem cut_own {ao : Option Addr} {c pos n m : Nat} {k : Nat} (h : (Value.slice (if c = pos then ao else Option.map (fun x => x.add pos) ao) n (c - pos)).ownBlock = some k) : (Value.slice ao m c).ownBlock = some k := by
  cases ao with
  | none => simp [Value.ownBlock] at h
  | some a =>
    by_cases hc : c = pos
    · rw [if_pos hc] at h; exact h
    · rw [if_neg hc] at h
      have : (a.add pos).block = a.block := by unfold Addr.add; split <;> rfl
      simp only [Option.map_some, Value.ownBlock, this] at h
      exact h

/-- The bytes of a number, the lowest first. -/
def leBytes : Nat → Int → List Int
  | 0, _ => []
  | n + 1, v => v % 256 :: leBytes n (v / 256)

theorem leBytes_length : ∀ (n : Nat) (v : Int), (leBytes n v).length = n
  | 0, _ => rfl
  | n + 1, v => by simp [leBytes, leBytes_length n]

theorem leBytes_snoc : ∀ (n : Nat) (v : Int), leBytes (n + 1) v = leBytes n v ++ [v / 2 ^ (8 * n) % 256]
  | 0, v => by simp [leBytes]
  | n + 1, v => by
    rw [leBytes, leBytes_snoc n (v / 256), leBytes, List.cons_append, Int.ediv_ediv_of_nonneg (by omega), show (256 : Int) * 2 ^ (8 * n) = 2 ^ (8 * (n + 1)) from by rw [Nat.mul_add, Int.pow_add, Int.mul_comm]; rfl]

theorem leBytes_range : ∀ (n : Nat) (v : Int), ∀ x ∈ leBytes n v, 0 ≤ x ∧ x ≤ 255
  | 0, _ => by simp [leBytes]
  | n + 1, v => by
    intro x hx
    rcases List.mem_cons.1 hx with rfl | hx
    · omega
    · exact leBytes_range n _ x hx

/-- Bytes, as numbers. -/
def By (xs : List Int) : Prop := ∀ x ∈ xs, 0 ≤ x ∧ x ≤ 255

theorem By.nil : By [] := fun _ h => by cases h
theorem By.cons {x : Int} {xs : List Int} (h0 : 0 ≤ x) (h1 : x ≤ 255) (h : By xs) : By (x :: xs) := fun y hy => by
  rcases List.mem_cons.1 hy with rfl | hy
  · exact ⟨h0, h1⟩
  · exact h y hy
theorem By.append {xs ys : List Int} (h : By xs) (k : By ys) : By (xs ++ ys) := fun y hy => by
  rcases List.mem_append.1 hy with hy | hy
  · exact h y hy
  · exact k y hy
theorem By.take {xs : List Int} (h : By xs) (n : Nat) : By (xs.take n) := fun y hy => h y (List.mem_of_mem_take hy)
theorem By.drop {xs : List Int} (h : By xs) (n : Nat) : By (xs.drop n) := fun y hy => h y (List.mem_of_mem_drop hy)
theorem By.replicate (n : Nat) {x : Int} (h0 : 0 ≤ x) (h1 : x ≤ 255) : By (List.replicate n x) := fun y hy => by
  obtain rfl := (List.mem_replicate.1 hy).2
  exact ⟨h0, h1⟩
theorem By.le (n : Nat) (v : Int) : By (leBytes n v) := leBytes_range n v
theorem By.get {xs : List Int} (h : By xs) (i : Nat) : 0 ≤ xs.getD i 0 ∧ xs.getD i 0 ≤ 255 := by
  by_cases hi : i < xs.length
  · rw [List.getD_eq_getElem?_getD, List.getElem?_eq_getElem hi]
    exact h _ (List.getElem_mem hi)
  · rw [List.getD_eq_getElem?_getD, List.getElem?_eq_none (by omega)]
    exact ⟨Int.le_refl _, by decide⟩

/-- xs laid over bs from at on. -/
def lay {α : Type} (bs : List α) (at_ : Nat) (xs : List α) : List α := bs.take at_ ++ xs ++ bs.drop (at_ + xs.length)

theorem lay_length {α : Type} {bs : List α} {at_ : Nat} {xs : List α} (h : at_ + xs.length ≤ bs.length) : (lay bs at_ xs).length = bs.length := by
  simp [lay]; omega

theorem lay_nil {α : Type} (bs : List α) (at_ : Nat) : lay bs at_ [] = bs := by simp [lay]

theorem By.lay {bs xs : List Int} (h : By bs) (k : By xs) (n : Nat) : By (lay bs n xs) := ((h.take n).append k).append (h.drop _)

theorem map_lay {α β : Type} (f : α → β) (bs : List α) (n : Nat) (xs : List α) : (lay bs n xs).map f = lay (bs.map f) n (xs.map f) := by
  simp [lay, List.map_take, List.map_drop]

/-- One more byte. -/
theorem lay_snoc {α : Type} {bs : List α} {at_ : Nat} {xs : List α} {x : α} (h : at_ + xs.length < bs.length) : (lay bs at_ xs).set (at_ + xs.length) x = lay bs at_ (xs ++ [x]) := by
  have h1 : (bs.take at_).length = at_ := by simp; omega
  have h2 : (bs.take at_ ++ xs).length = at_ + xs.length := by simp; omega
  unfold Go.Proofs.Ytffpjefecmkfmaa.lay
  rw [List.set_append_right _ _ (by omega), h2, Nat.sub_self, List.drop_eq_getElem_cons (by omega)]
  simp [List.set_cons_zero, Nat.add_assoc]

theorem splice_lay {α : Type} (bs : List α) (n : Nat) (xs : List α) : splice bs n xs = lay bs n xs := by simp [splice, lay]

/-- The built-in copy into a block that is known whole. -/
theorem wpList_copy_blk {P : Program} {w : World} {ops : Array Oper} {rest : List Oper} {o : Oper} {a : Act} {Q : Exit → Act → World → Prop} (hgd : o.guard = none) (d s : Operand) (dT sT : TypeId)
    (ho : o.op = .call { callee := .builtin .copy, args := #[d, s], argTypes := #[dT, sT] }) (elem : TypeId) (hu : P.underlying dT = some (.slice elem)) (hsz : (P.info? elem).map (·.size) = some 1)
    (dp sp : Option Addr) (dLen dCap sLen sCap : Nat) (hd : a.eval d = .slice dp dLen dCap) (hs : a.eval s = .slice sp sLen sCap)
    (g off : Nat) (cur : List Value) (t : TypeId) (hg : Blk w g t cur) (cs : List Value) (hn : cs.length = Nat.min sLen dLen)
    (hpos : 0 < cs.length → dp = some ⟨g, off, none⟩ ∧ ∃ ad, sp = some ad ∧ ∀ j v, cs[j]? = some v → w.cell? (ad.add j) = some v)
    (hfit : off + cs.length ≤ cur.length) (h1 : ∀ v ∈ cs, v.oneCell' = true)
    (h : ∀ w', Hid (Blk w' g t (lay cur off cs)) → Hid (Chg [g] w w') → wpList P ops Q rest (a.put o.dst (goInt cs.length)) w') :
    wpList P ops Q (o :: rest) a w := by
  by_cases h0 : cs.length = 0
  · obtain rfl : cs = [] := List.eq_nil_of_length_eq_zero h0
    refine wpList_copy_nothing hgd d s dT sT ho elem hu hsz dp sp dLen dCap sLen sCap hd hs (by simpa using hn.symm) ?_
    exact h w (show Blk _ _ _ _ by rw [lay_nil]; exact hg) (Chg.refl _ _)
  · obtain ⟨rfl, ad, rfl, hsrc⟩ := hpos (by omega)
    refine wpList_copy_own hgd d s dT sT ho elem hu hsz g off dLen dCap ad sLen sCap hd hs cur.toArray t hg cs hn hsrc (by simpa using hfit) h1 ?_
    refine h _ (show Blk _ _ _ _ from ?_) (show Chg _ _ _ from ⟨rfl, rfl, rfl, by simp [World.setRow], fun k _ hk => setRow_other w g k _ (by simpa using hk)⟩)
    have := setRow_heap w g cur.toArray (cur.take off ++ (cs ++ cur.drop (off + cs.length))).toArray t (0, 0) hg
    unfold Blk lay
    rw [List.append_assoc]
    exact this

end Go.Proofs.Ytffpjefecmkfmaa
