/-
  Memory, the rest of what no package needs for itself. By an AI agent.
-/
import Derived.Test.YtaggfbgbmiifaaaGreatRows
import Derived.Test.YtaggfbgbmiifaaaGreatBMem
import Derived.WalkKit
import Derived.WalkSpells
import Derived.WalkLawsBesides
import Derived.Deep.QuietTactic
import Derived.BigQuiet
import Derived.Lib.Hide
import Derived.Lib.Walk
import Derived.Lib.SliceRun
import Derived.StillTailTactics
namespace Go.Proofs.YtaggfbgbmiifaaaGreat
open Go.RowKit

theorem take_snoc {α : Type} {l : List α} {k : Nat} {d : α} (h : l[k]? = some d) : l.take (k + 1) = l.take k ++ [d] := by
  obtain ⟨hk, rfl⟩ := List.getElem?_eq_some_iff.1 h
  exact List.take_succ_eq_append_getElem hk

theorem Sl.lt {w : World} {v : Value} {xs : List Int} (h : Sl w v xs) (hx : 0 < xs.length) : ∀ k, v.ownBlock = some k → k < w.heap.size := by
  intro k hk
  rcases h with ⟨rfl, _⟩ | ⟨g, o, c', hv, hb, hc⟩
  · simp at hx
  · rw [hv] at hk
    simp [Value.ownBlock] at hk
    omega

/-- The beginning of a slice. -/
theorem Sl.pre {w : World} {ao : Option Addr} {n c : Nat} {xs : List Int} (h : Sl w (.slice ao n c) xs) (pos : Nat) (hp : pos ≤ n) : Sl w (.slice ao pos c) (xs.take pos) := by
  rcases h with ⟨rfl, a2, c2, hv⟩ | ⟨b, o, c2, hv, hb, hc⟩
  · obtain ⟨_, rfl, _⟩ : ao = a2 ∧ n = 0 ∧ c = c2 := by simpa using hv
    obtain rfl : pos = 0 := by omega
    exact .inl ⟨by simp, _, _, rfl⟩
  · obtain ⟨rfl, rfl, rfl⟩ : ao = some ⟨b, o, none⟩ ∧ n = xs.length ∧ c = c2 := by simpa using hv
    have hl : (xs.take pos).length = pos := by simp; omega
    refine .inr ⟨b, o, c, by rw [hl], hb, fun j hj => ?_⟩
    rw [hl] at hj
    rw [hc j (by omega)]
    simp [List.getD, hj]

/-- What the call owns is its own while other blocks turn. -/
theorem owns_chg {w w' : World} {s : List Nat} {base : Nat} {e : TypeId} {size : Nat} {v : Value} {n : Nat} {xs : List Value} (h : w.ownsRow base e size v n xs) (c : Chg s w w') (hs : ∀ k, v.ownBlock = some k → k ∉ s) : w'.ownsRow base e size v n xs := by
  refine ⟨h.1, ?_⟩
  rcases h.2 with hn | ⟨g, cap, cur, rfl, hb, hgg, rest⟩
  · exact .inl hn
  · refine .inr ⟨g, cap, cur, rfl, hb, ?_, rest⟩
    rw [c.block g (Array.getElem?_eq_some_iff.1 hgg).1 (hs g rfl)]
    exact hgg

theorem chg_of_grown {w w' : World} {row : Option Nat} (h : w.grownBy w' row) : Chg row.toList w w' :=
  ⟨h.os, h.tape, h.output, h.size, fun k hk hs => h.block k hk (fun e => hs (by rw [← e]; simp))⟩

theorem owns_slice {w : World} {base : Nat} {e : TypeId} {size : Nat} {v : Value} {n : Nat} {xs : List Value} (h : w.ownsRow base e size v n xs) : ∃ ao c, v = .slice ao n c := by
  rcases h.2 with ⟨rfl, rfl⟩ | ⟨g, cap, cur, rfl, _⟩
  · exact ⟨_, _, rfl⟩
  · exact ⟨_, _, rfl⟩

/-- One number appended. -/
theorem new_cell (w : World) (u : Value) (e : TypeId) : ∀ (j : Nat) (v : Value), [u][j]? = some v → (w.alloc (.cells #[u] e)).cell? ((⟨w.heap.size, 0, none⟩ : Addr).add j) = some v := by
  intro j v hj
  match j, hj with
  | 0, hj =>
    obtain rfl : u = v := by simpa using hj
    exact (Blk.made w [u] e).cell rfl

theorem grown_drew_alloc (w : World) (o : Obj) : w.grownBy (w.drew.alloc o) none :=
  have q := World.grownBy_alloc w.drew o none
  ⟨q.os, q.tape, q.output, q.size, q.block⟩

/-- APPEND, AND WHERE ITS RESULT LIES: in the row that was owned, or in the newest block. -/
theorem run_append_three {P : Program} (w : World) (base : Nat) (t ty e : TypeId) (i : TypeInfo) (z : Value) (size bytes : Nat) (ht : P.underlying t = some (.slice e)) (hi : P.info? e = some i) (hz : i.zero = some z)
    (hsize : i.size = size) (hby : i.bytes = bytes) (hzs : z.cells.size = size) (hsz : 0 < size)
    (v : Value) (n : Nat) (xs : List Value) (hown : w.ownsRow base e size v n xs)
    (a : Addr) (m c : Nat) (news : List Value) (hl : news.length = m * size) (hnews : ∀ j u, news[j]? = some u → w.cell? (a.add j) = some u) (h1 : ∀ u ∈ news, u.oneCell' = true)
    (h63 : n + m ≤ maxLen) (hbytes : (n + m) * bytes ≤ 140737488355328) (hbase : base ≤ w.heap.size) :
    ∃ v' w', (Builtin.append_ #[t, t] ty #[v, .slice (some a) m c]).run P w = .ok v' w' ∧ w'.ownsRow base e size v' (n + m) (xs ++ news) ∧ w.grownBy w' v.ownBlock ∧
      (v'.ownBlock = v.ownBlock ∨ (v'.ownBlock = some w.heap.size ∧ w.grownBy w' none)) := by
  obtain ⟨v', w', hr, h2, h3, h4⟩ := run_append_own (P := P) w base t ty e i z size bytes ht hi hz hsize hby hzs hsz v n xs hown a m c news hl hnews h1 h63 hbytes hbase
  refine ⟨v', w', hr, h2, h3, ?_⟩
  subst hsize hby
  have hsm : n + m ≤ 9223372036854775807 := by simp only [maxLen] at h63; omega
  rcases hown.2 with ⟨rfl, rfl⟩ | ⟨g, cap, cur, rfl, hbg, hg, hnc, hcm, hcs, htake⟩
  · by_cases hm : m = 0
    · obtain rfl := h4.2 ⟨rfl, hm⟩
      exact .inl rfl
    · have hr2 := run_append_nil (P := P) w t ty e i z ht hi hz a m c news hl hnews (by omega) (by omega) (by have hb := hbytes; simp only [Nat.zero_add] at hb; omega)
      rw [hr] at hr2
      obtain ⟨rfl, rfl⟩ : v' = _ ∧ w' = _ := by simpa using hr2
      exact .inr ⟨rfl, grown_drew_alloc _ _⟩
  · by_cases hroom : n + m ≤ cap
    · have hfit : n * i.size + news.length ≤ cur.size := by rw [hl, hcs, ← Nat.add_mul]; exact Nat.mul_le_mul_right _ hroom
      have hr2 := run_append_room (P := P) w t ty e i ht hi g n cap cur hg a m c news hl hnews h1 hroom hfit
      rw [hr] at hr2
      obtain ⟨rfl, _⟩ : v' = _ ∧ w' = _ := by simpa using hr2
      exact .inl rfl
    · have hr2 := run_append_grow (P := P) w t ty e i z ht hi hz ⟨g, 0, none⟩ n cap xs hown.1 (hown.cells (g := g) rfl) a m c news hl hnews (by omega) (by omega) (growslice_fits (by omega) hbytes)
      rw [hr] at hr2
      obtain ⟨rfl, rfl⟩ : v' = _ ∧ w' = _ := by simpa using hr2
      exact .inr ⟨rfl, grown_drew_alloc _ _⟩

theorem wpList_append_three {P : Program} (w : World) {ops : Array Oper} {rest : List Oper} {o : Oper} {a : Act} {Q : Exit → Act → World → Prop} (hgd : o.guard = none) (s x : Operand) (t : TypeId)
    (ho : o.op = .call { callee := .builtin .append, args := #[s, x], argTypes := #[t, t] })
    (base : Nat) (e : TypeId) (i : TypeInfo) (z : Value) (size bytes : Nat) (ht : P.underlying t = some (.slice e)) (hi : P.info? e = some i) (hz : i.zero = some z)
    (hsize : i.size = size) (hby : i.bytes = bytes) (hzs : z.cells.size = size) (hsz : 0 < size)
    (v : Value) (n : Nat) (xs : List Value) (hs : a.eval s = v) (hown : w.ownsRow base e size v n xs)
    (ad : Addr) (m c : Nat) (news : List Value) (hx : a.eval x = .slice (some ad) m c) (hl : news.length = m * size) (hnews : ∀ j u, news[j]? = some u → w.cell? (ad.add j) = some u) (h1 : ∀ u ∈ news, u.oneCell' = true)
    (h63 : n + m ≤ maxLen) (hbytes : (n + m) * bytes ≤ 140737488355328) (hbase : base ≤ w.heap.size)
    (h : ∀ v' w', Hid (w'.ownsRow base e size v' (n + m) (xs ++ news)) → Hid (w.grownBy w' v.ownBlock) → Hid (v'.ownBlock = v.ownBlock ∨ (v'.ownBlock = some w.heap.size ∧ w.grownBy w' none)) → wpList P ops Q rest (a.put o.dst v') w') : wpList P ops Q (o :: rest) a w := by
  refine wpList_plain hgd fun K hK => ?_
  obtain ⟨v', w', hr, h2, h3, h4⟩ := run_append_three (P := P) w base t o.type e i z size bytes ht hi hz hsize hby hzs hsz v n xs hown ad m c news hl hnews h1 h63 hbytes hbase
  unfold Oper.wp
  simp [execOp, ho, resolve, invoke, builtin, hs, hx, hr, Result.andThen]
  exact hK _ _ (h v' w' h2 h3 h4)

/-- A row that is owned, whatever its length: its block is no older than the base. -/
theorem owns_len {w : World} {base : Nat} {e : TypeId} {v : Value} {n : Nat} {xs : List Value} (h : w.ownsRow base e 1 v n xs) : xs.length = n := by simpa using h.1

theorem run_append_nothing {P : Program} (w : World) (base : Nat) (t ty e : TypeId) (i : TypeInfo) (size : Nat) (ht : P.underlying t = some (.slice e)) (hi : P.info? e = some i)
    (v : Value) (n : Nat) (xs : List Value) (hown : w.ownsRow base e size v n xs) (c : Nat) :
    (Builtin.append_ #[t, t] ty #[v, .slice none 0 c]).run P w = .ok v w := by
  rcases hown.2 with ⟨rfl, rfl⟩ | ⟨g, cap, cur, rfl, _, _, hnc, _⟩
  · simp [Builtin.append_, run_underlying ht, sizeOf, typeInfo, hi, Builtin.lenOf, Builtin.firstCells]
  · simp [Builtin.append_, run_underlying ht, sizeOf, typeInfo, hi, Builtin.lenOf, Builtin.firstCells, hnc, storeCells]

theorem ownsRow_base {w : World} {B B' : Nat} {e : TypeId} {size : Nat} {v : Value} {n : Nat} {xs : List Value} (h : w.ownsRow B e size v n xs) (hb : B' ≤ B) : w.ownsRow B' e size v n xs := by
  refine ⟨h.1, ?_⟩
  rcases h.2 with h | ⟨g, cap, cur, h1, h2, h3⟩
  · exact .inl h
  · exact .inr ⟨g, cap, cur, h1, by omega, h3⟩

theorem info_u8 : (Tryz.prog.info? 5).map (fun i => (i.zero, i.size, i.bytes)) = some (some (.int .u8 0), 1, 1) := by kernel_rfl

end Go.Proofs.YtaggfbgbmiifaaaGreat

/-
  Bytes as numbers, and numbers as bytes. No function of the program is named here. By an AI agent.
-/
namespace Go.Proofs.YtaggfbgbmiifaaaGreat
open Go.RowKit

/-- Numbers as bytes. -/
def nats (xs : List Int) : List Nat := xs.map Int.toNat

theorem nats_get {xs : List Int} (h : By xs) {k : Nat} (hk : k < xs.length) : ∃ y : Nat, xs.getD k 0 = (y : Int) ∧ y < 256 ∧ (nats xs).take (k + 1) = (nats xs).take k ++ [y] := by
  have hx := h.get k
  obtain ⟨y, hy⟩ := Int.eq_ofNat_of_zero_le hx.1
  refine ⟨y, hy, by omega, ?_⟩
  have hl : k < (nats xs).length := by simpa [nats] using hk
  rw [List.take_succ_eq_append_getElem hl]
  congr 2
  have : xs[k] = (y : Int) := by rw [← hy]; simp [List.getD, List.getElem?_eq_getElem hk]
  simp [nats, this]

/-- Bytes, each below 256. -/
def Bs (bs : List Nat) : Prop := ∀ b ∈ bs, b < 256

theorem nats_bs {xs : List Int} (h : By xs) : Bs (nats xs) := by
  intro b hb
  obtain ⟨x, hx, rfl⟩ := List.mem_map.1 hb
  have := h x hx
  omega

theorem nats_length (xs : List Int) : (nats xs).length = xs.length := by simp [nats]

/-- Numbers, as the cells have them. -/
def ints (bs : List Nat) : List Int := bs.map fun b : Nat => (b : Int)

theorem ints_length (bs : List Nat) : (ints bs).length = bs.length := by simp [ints]

theorem nats_ints (bs : List Nat) : nats (ints bs) = bs := by simp [nats, ints, Function.comp_def]

theorem ints_nats {xs : List Int} (h : By xs) : ints (nats xs) = xs := by
  unfold ints nats
  rw [List.map_map]
  have : ∀ x ∈ xs, ((fun b : Nat => (b : Int)) ∘ Int.toNat) x = id x := fun x hx => Int.toNat_of_nonneg (h x hx).1
  rw [List.map_congr_left this, List.map_id]

theorem ints_by {bs : List Nat} (h : Bs bs) : By (ints bs) := by
  intro x hx
  obtain ⟨b, hb, rfl⟩ := List.mem_map.1 hx
  have := h b hb
  omega

theorem ints_get (bs : List Nat) (j : Nat) : (ints bs).getD j 0 = ((bs.getD j 0 : Nat) : Int) := by
  unfold ints
  simp only [List.getD, List.getElem?_map]
  cases bs[j]? <;> rfl

end Go.Proofs.YtaggfbgbmiifaaaGreat

/-
  What a disk with a cache does, in the document's words. No function of the program is named here. By an AI agent.
-/
namespace Go.Proofs.YtaggfbgbmiifaaaGreat
open Go.RowKit

/-- What a disk has: each sector's lasting bytes, the writes that wait, and whether it has failed. -/
structure Dk where
  last : List (List Nat)
  cache : List (Nat × List Nat)
  bad : Bool

namespace Dk

def new (n : Nat) : Dk := ⟨List.replicate n (List.replicate 128 0), [], false⟩

def size (d : Dk) : Nat := d.last.length

/-- Is there such a sector? -/
def has (d : Dk) (at_ : Int) : Prop := 0 ≤ at_ ∧ at_ < d.last.length

instance (d : Dk) (at_ : Int) : Decidable (d.has at_) := by unfold has; infer_instance

/-- What was written last, or lasts. -/
def now (d : Dk) (k : Nat) : List Nat := d.cache.foldl (fun b w => if w.1 = k then w.2 else b) (d.last.getD k [])

def check (d : Dk) (at_ : Int) : Nat := if d.bad = true then 2 else if d.has at_ then 0 else 3

def readVal (d : Dk) (at_ : Int) : List Nat := if d.check at_ = 0 then d.now at_.toNat else []

def writeErr (d : Dk) (at_ : Int) (b : List Nat) : Nat := if d.check at_ = 0 then (if b.length = 128 then 0 else 4) else d.check at_

def write (d : Dk) (at_ : Int) (b : List Nat) : Dk := if d.writeErr at_ b = 0 then { d with cache := d.cache ++ [(at_.toNat, b)] } else d

def lay (l : List (List Nat)) (w : Nat × List Nat) : List (List Nat) := l.set w.1 w.2

def flushErr (d : Dk) : Nat := if d.bad = true then 2 else 0

def flush (d : Dk) : Dk := if d.bad = true then d else { d with last := d.cache.foldl lay d.last, cache := [] }

def fail (d : Dk) : Dk := { d with cache := [], bad := true }

/-- The writes from the i-th on that are kept. -/
def kept (keep : List Bool) : Nat → List (Nat × List Nat) → List (Nat × List Nat)
  | _, [] => []
  | i, w :: r => if keep.getD i false = true then w :: kept keep (i + 1) r else kept keep (i + 1) r

def crash (d : Dk) (keep : List Bool) : Dk := if d.bad = true then d else { d with last := (kept keep 0 d.cache).foldl lay d.last, cache := [] }

def image (d : Dk) : List Nat := if d.bad = true then [] else d.last.flatten

/-- A disk as it can be. -/
structure Fit (d : Dk) : Prop where
  lo : 1 ≤ d.last.length
  hi : d.last.length ≤ 8192
  sec : ∀ s ∈ d.last, s.length = 128 ∧ Bs s
  wr : ∀ w ∈ d.cache, w.1 < d.last.length ∧ w.2.length = 128 ∧ Bs w.2
  off : d.bad = true → d.cache = []

theorem kept_sub (keep : List Bool) : ∀ (i : Nat) (l : List (Nat × List Nat)), ∀ w ∈ kept keep i l, w ∈ l
  | _, [], w, h => by cases h
  | i, x :: r, w, h => by
    unfold kept at h
    split at h
    · rcases List.mem_cons.1 h with rfl | h
      · exact List.mem_cons_self
      · exact List.mem_cons_of_mem _ (kept_sub keep (i + 1) r w h)
    · exact List.mem_cons_of_mem _ (kept_sub keep (i + 1) r w h)

/-- All of them are kept. -/
theorem kept_all (keep : List Bool) : ∀ (i : Nat) (l : List (Nat × List Nat)), (∀ j, i ≤ j → j < i + l.length → keep.getD j false = true) → kept keep i l = l
  | _, [], _ => rfl
  | i, x :: r, h => by
    unfold kept
    rw [if_pos (h i (Nat.le_refl _) (by simp)), kept_all keep (i + 1) r (fun j h1 h2 => h j (by omega) (by simp; omega))]

theorem kept_snoc (keep : List Bool) : ∀ (i : Nat) (l : List (Nat × List Nat)) (w : Nat × List Nat), kept keep i (l ++ [w]) = kept keep i l ++ (if keep.getD (i + l.length) false = true then [w] else [])
  | i, [], w => by
    show kept keep i [w] = _
    unfold kept
    rw [show i + ([] : List (Nat × List Nat)).length = i from rfl]
    split
    · rfl
    · rfl
  | i, x :: r, w => by
    rw [List.cons_append, kept, kept, kept_snoc keep (i + 1) r w, show i + 1 + r.length = i + (x :: r).length by simp; omega]
    split
    · rfl
    · rfl

theorem lays_length : ∀ (ws : List (Nat × List Nat)) (l : List (List Nat)), (ws.foldl lay l).length = l.length
  | [], _ => rfl
  | w :: r, l => by
    rw [List.foldl_cons, lays_length r, lay, List.length_set]

theorem lays_mem : ∀ (ws : List (Nat × List Nat)) (l : List (List Nat)) (s : List Nat), s ∈ ws.foldl lay l → s ∈ l ∨ ∃ w ∈ ws, s = w.2
  | [], _, s, h => .inl h
  | w :: r, l, s, h => by
    rw [List.foldl_cons] at h
    rcases lays_mem r _ s h with h | ⟨x, hx, e⟩
    · rcases List.mem_or_eq_of_mem_set h with h | h
      · exact .inl h
      · exact .inr ⟨w, List.mem_cons_self, h⟩
    · exact .inr ⟨x, List.mem_cons_of_mem _ hx, e⟩

theorem Fit.new {n : Nat} (h1 : 1 ≤ n) (h2 : n ≤ 8192) : (Dk.new n).Fit := by
  refine ⟨by simp [Dk.new, h1], by simp [Dk.new, h2], fun s hs => ?_, (fun w hw => by cases hw), (fun h => by cases h)⟩
  rw [(List.mem_replicate.1 hs).2]
  exact ⟨by simp, fun b hb => by rw [(List.mem_replicate.1 hb).2]; decide⟩

theorem Fit.write {d : Dk} (h : d.Fit) {at_ : Int} {b : List Nat} (hb : Bs b) : (d.write at_ b).Fit := by
  unfold Dk.write
  split
  · rename_i he
    have hc : d.check at_ = 0 := by
      unfold writeErr at he
      by_cases hc : d.check at_ = 0
      · exact hc
      · rw [if_neg hc] at he
        exact absurd he hc
    have hlen : b.length = 128 := by
      unfold writeErr at he
      rw [if_pos hc] at he
      by_cases hl : b.length = 128
      · exact hl
      · rw [if_neg hl] at he
        cases he
    have hbad : ¬ d.bad = true := fun e => by
      unfold check at hc
      rw [if_pos e] at hc
      cases hc
    have hhas : d.has at_ := by
      unfold check at hc
      rw [if_neg hbad] at hc
      by_cases hh : d.has at_
      · exact hh
      · rw [if_neg hh] at hc
        cases hc
    refine ⟨h.lo, h.hi, h.sec, fun w hw => ?_, fun e => absurd e hbad⟩
    rcases List.mem_append.1 hw with hw | hw
    · exact h.wr w hw
    · rw [List.mem_singleton.1 hw]
      have := hhas.1
      have := hhas.2
      exact ⟨by show at_.toNat < d.last.length; omega, hlen, hb⟩
  · exact h

theorem Fit.lays {d : Dk} (h : d.Fit) (ws : List (Nat × List Nat)) (hs : ∀ w ∈ ws, w ∈ d.cache) : Fit { d with last := ws.foldl lay d.last, cache := [] } := by
  refine ⟨?_, ?_, fun s hs2 => ?_, (fun w hw => by cases hw), (fun _ => rfl)⟩
  · show 1 ≤ (ws.foldl lay d.last).length
    rw [lays_length]; exact h.lo
  · show (ws.foldl lay d.last).length ≤ 8192
    rw [lays_length]; exact h.hi
  · rcases lays_mem ws d.last s hs2 with hs2 | ⟨w, hw, rfl⟩
    · exact h.sec s hs2
    · exact (h.wr w (hs w hw)).2

theorem Fit.flush {d : Dk} (h : d.Fit) : d.flush.Fit := by
  unfold Dk.flush
  split
  · exact h
  · exact h.lays d.cache (fun w hw => hw)

theorem Fit.crash {d : Dk} (h : d.Fit) (keep : List Bool) : (d.crash keep).Fit := by
  unfold Dk.crash
  split
  · exact h
  · exact h.lays _ (fun w hw => kept_sub keep 0 d.cache w hw)

theorem Fit.fail {d : Dk} (h : d.Fit) : d.fail.Fit := ⟨h.lo, h.hi, h.sec, (fun w hw => by cases hw), (fun _ => rfl)⟩

theorem now_len {d : Dk} (h : d.Fit) {k : Nat} (hk : k < d.last.length) : (d.now k).length = 128 ∧ Bs (d.now k) := by
  unfold now
  have h0 : (d.last.getD k []).length = 128 ∧ Bs (d.last.getD k []) := by
    rw [List.getD_eq_getElem?_getD, List.getElem?_eq_getElem hk]
    exact h.sec _ (List.getElem_mem hk)
  have : ∀ (c : List (Nat × List Nat)) (b : List Nat), (∀ w ∈ c, w.2.length = 128 ∧ Bs w.2) → b.length = 128 ∧ Bs b → (c.foldl (fun b w => if w.1 = k then w.2 else b) b).length = 128 ∧ Bs (c.foldl (fun b w => if w.1 = k then w.2 else b) b) := by
    intro c
    induction c with
    | nil => intro b _ hb; exact hb
    | cons w r ih =>
      intro b hc hb
      rw [List.foldl_cons]
      refine ih _ (fun x hx => hc x (List.mem_cons_of_mem _ hx)) ?_
      split
      · exact hc w List.mem_cons_self
      · exact hb
  exact this _ _ (fun w hw => (h.wr w hw).2) h0

theorem flat_len {l : List (List Nat)} (h : ∀ s ∈ l, s.length = 128) : l.flatten.length = 128 * l.length := by
  induction l with
  | nil => rfl
  | cons s r ih =>
    rw [List.flatten_cons, List.length_append, h s List.mem_cons_self, ih (fun x hx => h x (List.mem_cons_of_mem _ hx)), List.length_cons]
    omega

/-- The k-th sector of an image. -/
theorem flat_cut {l : List (List Nat)} (h : ∀ s ∈ l, s.length = 128) {k : Nat} (hk : k < l.length) : (l.flatten.drop (128 * k)).take 128 = l.getD k [] := by
  induction l generalizing k with
  | nil => cases hk
  | cons s r ih =>
    have hs := h s List.mem_cons_self
    cases k with
    | zero =>
      rw [List.flatten_cons, Nat.mul_zero, List.drop_zero, List.take_append_of_le_length (by omega), ← hs, List.take_length]
      rfl
    | succ k =>
      rw [List.flatten_cons, List.drop_append, show 128 * (k + 1) - s.length = 128 * k by omega, List.drop_eq_nil_of_le (by omega), List.nil_append, ih (fun x hx => h x (List.mem_cons_of_mem _ hx)) (by simpa using hk)]
      rfl

end Dk
namespace Dk

/-- What some writes leave in a sector. -/
def over (k : Nat) (b : List Nat) (ws : List (Nat × List Nat)) : List Nat := ws.foldl (fun b w => if w.1 = k then w.2 else b) b

theorem now_eq (d : Dk) (k : Nat) : d.now k = over k (d.last.getD k []) d.cache := rfl

theorem lays_getD : ∀ (ws : List (Nat × List Nat)) (l : List (List Nat)) (k : Nat), k < l.length → (ws.foldl lay l).getD k [] = over k (l.getD k []) ws
  | [], _, _, _ => rfl
  | w :: r, l, k, h => by
    rw [List.foldl_cons, lays_getD r _ k (by rw [lay, List.length_set]; exact h)]
    unfold over
    rw [List.foldl_cons]
    congr 1
    unfold lay
    by_cases e : w.1 = k
    · rw [if_pos e, e]
      simp [List.getD, h]
    · rw [if_neg e]
      simp [List.getD, List.getElem?_set_ne e]

theorem over_snoc (k : Nat) (b : List Nat) (ws : List (Nat × List Nat)) (w : Nat × List Nat) : over k b (ws ++ [w]) = if w.1 = k then w.2 else over k b ws := by
  unfold over
  rw [List.foldl_append]
  rfl

/-- A write that is taken. -/
theorem write_ok {d : Dk} {k : Nat} {b : List Nat} (hb : d.bad = false) (hk : k < d.last.length) (hl : b.length = 128) : d.writeErr k b = 0 ∧ d.write k b = { d with cache := d.cache ++ [(k, b)] } := by
  have hc : d.check (k : Int) = 0 := by
    unfold check
    rw [if_neg (by rw [hb]; decide), if_pos ⟨by omega, by omega⟩]
  have he : d.writeErr (k : Int) b = 0 := by
    unfold writeErr
    rw [if_pos hc, if_pos hl]
  refine ⟨he, ?_⟩
  unfold write
  rw [if_pos he]
  simp

theorem read_ok {d : Dk} {k : Nat} (hb : d.bad = false) (hk : k < d.last.length) : d.check (k : Int) = 0 ∧ d.readVal k = d.now k := by
  have hc : d.check (k : Int) = 0 := by
    unfold check
    rw [if_neg (by rw [hb]; decide), if_pos ⟨by omega, by omega⟩]
  refine ⟨hc, ?_⟩
  unfold readVal
  rw [if_pos hc]
  simp

theorem flush_ok {d : Dk} (hb : d.bad = false) : d.flushErr = 0 ∧ d.flush = { d with last := d.cache.foldl lay d.last, cache := [] } := by
  have h : ¬ d.bad = true := by rw [hb]; decide
  unfold flushErr flush
  rw [if_neg h, if_neg h]
  exact ⟨rfl, rfl⟩

theorem crash_ok {d : Dk} (hb : d.bad = false) (keep : List Bool) : d.crash keep = { d with last := (kept keep 0 d.cache).foldl lay d.last, cache := [] } := by
  have h : ¬ d.bad = true := by rw [hb]; decide
  unfold crash
  rw [if_neg h]

theorem image_ok {d : Dk} (hb : d.bad = false) : d.image = d.last.flatten := by
  have h : ¬ d.bad = true := by rw [hb]; decide
  unfold image
  rw [if_neg h]

end Dk

/-- Bytes in sectors. -/
def secs : Nat → List Nat → List (List Nat)
  | 0, _ => []
  | n + 1, b => b.take 128 :: secs n (b.drop 128)

theorem secs_length : ∀ (n : Nat) (b : List Nat), (secs n b).length = n
  | 0, _ => rfl
  | n + 1, b => by rw [secs, List.length_cons, secs_length]

theorem secs_sec : ∀ (n : Nat) (b : List Nat), b.length = 128 * n → Bs b → ∀ s ∈ secs n b, s.length = 128 ∧ Bs s
  | 0, _, _, _, s, hs => by cases hs
  | n + 1, b, h, hb, s, hs => by
    rw [secs] at hs
    rcases List.mem_cons.1 hs with rfl | hs
    · exact ⟨by rw [List.length_take]; omega, fun x hx => hb x (List.mem_of_mem_take hx)⟩
    · exact secs_sec n _ (by rw [List.length_drop]; omega) (fun x hx => hb x (List.mem_of_mem_drop hx)) s hs

/-- A disk out of an image. -/
def Dk.load (b : List Nat) : Dk := ⟨secs (b.length / 128) b, [], false⟩

theorem Dk.Fit.load {b : List Nat} {n : Nat} (h : b.length = 128 * n) (h1 : 1 ≤ n) (h2 : n ≤ 8192) (hb : Bs b) : (Dk.load b).Fit := by
  have e : b.length / 128 = n := by omega
  unfold Dk.load
  rw [e]
  exact ⟨by show 1 ≤ (secs n b).length; rw [secs_length]; exact h1, by show (secs n b).length ≤ 8192; rw [secs_length]; exact h2, secs_sec n b h hb, (fun w hw => by cases hw), (fun h => by cases h)⟩

end Go.Proofs.YtaggfbgbmiifaaaGreat

/-
  What a bay of disks with one power supply does, in the document's words. No function of the program is named here. By an AI agent.
-/
namespace Go.Proofs.YtaggfbgbmiifaaaGreat
open Go.RowKit

/-- A disk with its wear: how many operations more, if it is worn. -/
structure Dev where
  disk : Dk
  wear : Option Nat

structure Slot where
  inn : Option Dev
  aside : Option Dev
  coming : Option Dev

structure Bay where
  slots : List Slot
  dark : Bool
  trip : Option Nat
  reads : Nat
  writes : Nat
  flushes : Nat

/-- An operation of a worn disk. -/
def Dev.step (d : Dev) : Dev := match d.wear with
  | some 0 => ⟨d.disk.fail, none⟩
  | some (n + 1) => ⟨d.disk, some n⟩
  | none => d

def Dev.lay (d : Dev) (k : Dk) : Dev := { d with disk := k }

namespace Bay

def slotOf (n : Int) : Slot := ⟨if n = 0 then none else some ⟨Dk.new n.toNat, none⟩, none, none⟩

def new (sizes : List Int) : Bay := ⟨sizes.map slotOf, false, none, 0, 0, 0⟩

def newErr (sizes : List Int) : Nat := if sizes.length < 1 ∨ 17 < sizes.length then 1 else if sizes.any (fun n => decide (n < 0 ∨ 8192 < n)) then 40 else 0

/-- Is there such a slot? -/
def is (b : Bay) (s : Int) : Bool := decide (0 ≤ s ∧ s < b.slots.length)

def dev (b : Bay) (s : Int) : Option Dev := if b.is s then (b.slots[s.toNat]?).bind (·.inn) else none

/-- A slot becomes another. -/
def turn (b : Bay) (s : Int) (f : Slot → Slot) : Bay := { b with slots := b.slots.modify s.toNat f }

def setIn (b : Bay) (s : Int) (d : Dev) : Bay := b.turn s (fun x => { x with inn := some d })

/-- An operation is counted. -/
def counted (b : Bay) (what : Nat) : Bay := { b with trip := b.trip.map (· - 1), reads := b.reads + (if what = 1 then 1 else 0), writes := b.writes + (if what = 2 then 1 else 0), flushes := b.flushes + (if what = 3 then 1 else 0) }

/-- How an operation begins: an error, or the disk of that slot is asked. -/
def startErr (b : Bay) (s : Int) : Nat :=
  if b.is s = false then 1 else if b.dark = true then 50 else if b.trip = some 0 then 50 else if (b.dev s).isNone then 51 else 0

def start (b : Bay) (s : Int) (what : Nat) : Bay :=
  if b.is s = false then b else if b.dark = true then b else if b.trip = some 0 then { b with dark := true, trip := none } else
  match b.dev s with
  | none => b.counted what
  | some d => (b.counted what).setIn s d.step

/-- The disk that is asked then. -/
def asked (b : Bay) (s : Int) : Dev := match b.dev s with
  | some d => d.step
  | none => ⟨Dk.new 1, none⟩

def readVal (b : Bay) (s at_ : Int) : List Nat := if b.startErr s = 0 then (b.asked s).disk.readVal at_ else []
def readErr (b : Bay) (s at_ : Int) : Nat := if b.startErr s = 0 then (b.asked s).disk.check at_ else b.startErr s
def read (b : Bay) (s : Int) : Bay := b.start s 1

def writeErr (b : Bay) (s at_ : Int) (x : List Nat) : Nat := if b.startErr s = 0 then (b.asked s).disk.writeErr at_ x else b.startErr s
def write (b : Bay) (s at_ : Int) (x : List Nat) : Bay := if b.startErr s = 0 then (b.counted 2).setIn s ((b.asked s).lay ((b.asked s).disk.write at_ x)) else b.start s 2

def flushErr (b : Bay) (s : Int) : Nat := if b.startErr s = 0 then (b.asked s).disk.flushErr else b.startErr s
def flush (b : Bay) (s : Int) : Bay := if b.startErr s = 0 then (b.counted 3).setIn s ((b.asked s).lay ((b.asked s).disk.flush)) else b.start s 3

/-- Is a disk in a slot that there is? -/
def there (b : Bay) (s : Int) : Nat := if b.is s = false then 1 else if (b.dev s).isNone then 51 else 0

def fail (b : Bay) (s : Int) : Bay := match b.dev s with
  | some d => b.setIn s (d.lay d.disk.fail)
  | none => b

def wear (b : Bay) (s n : Int) : Bay := if n < 0 then b else match b.dev s with
  | some d => b.setIn s { d with wear := some n.toNat }
  | none => b

/-- A disk that has not failed is in the slot. -/
def has (b : Bay) (s : Int) : Bool := match b.dev s with
  | some d => !d.disk.bad
  | none => false

def taken (b : Bay) (s : Int) : Bool := b.has s || ((b.slots[s.toNat]?).bind (·.coming)).isSome

def swapErr (b : Bay) (s n : Int) : Nat := if b.is s = false ∨ n < 0 then 1 else if b.taken s = true then 52 else if 1 ≤ n ∧ n ≤ 8192 then 0 else 40
def swap (b : Bay) (s n : Int) : Bay := if b.swapErr s n = 0 then b.setIn s ⟨Dk.new n.toNat, none⟩ else b

/-- Is it an image? -/
def fits (x : List Nat) : Prop := ∃ n, x.length = 128 * n ∧ 1 ≤ n ∧ n ≤ 8192
instance (x : List Nat) : Decidable (fits x) := decidable_of_iff (x.length % 128 = 0 ∧ 128 ≤ x.length ∧ x.length ≤ 1048576) ⟨fun h => ⟨x.length / 128, by omega, by omega, by omega⟩, fun ⟨n, h⟩ => by omega⟩

def loadErr (b : Bay) (s : Int) (x : List Nat) : Nat := if b.is s = false then 1 else if b.taken s = true then 52 else if fits x then 0 else 40
def load (b : Bay) (s : Int) (x : List Nat) : Bay := if b.loadErr s x = 0 then b.setIn s ⟨Dk.load x, none⟩ else b

/-- A slot behind a cut. -/
def cutSlot (keeps : List (List Bool)) (i : Nat) (s : Slot) : Slot := match s.coming with
  | some c => { s with inn := some c, coming := none }
  | none => { s with inn := s.inn.map (fun d => d.lay (d.disk.crash (keeps.getD i []))) }

def cut (b : Bay) (keeps : List (List Bool)) : Bay := { b with slots := b.slots.mapIdx (cutSlot keeps), dark := false, trip := none }

def image (b : Bay) (s : Int) : List Nat := match b.dev s with
  | some d => d.disk.image
  | none => []

/-! ### what is as it was -/

theorem is_nat (b : Bay) {s : Nat} (h : s < b.slots.length) : b.is s = true := by
  unfold is
  exact decide_eq_true ⟨Int.natCast_nonneg _, by omega⟩

theorem is_some {b : Bay} {s : Int} (h : b.is s = true) : ∃ k : Nat, s = k ∧ k < b.slots.length := by
  have h1 := of_decide_eq_true h
  exact ⟨s.toNat, by omega, by omega⟩

theorem turn_len (b : Bay) (s : Int) (f : Slot → Slot) : (b.turn s f).slots.length = b.slots.length := by simp [turn]

theorem turn_is (b : Bay) (s r : Int) (f : Slot → Slot) : (b.turn s f).is r = b.is r := by unfold is; rw [turn_len]

theorem turn_other {b : Bay} {s r : Int} {f : Slot → Slot} (hs : b.is s = true) (h : s ≠ r) : (b.turn s f).dev r = b.dev r := by
  unfold dev
  rw [turn_is]
  split
  · rename_i hr
    obtain ⟨i, rfl, hi⟩ := is_some hs
    obtain ⟨j, rfl, hj⟩ := is_some hr
    have hne : i ≠ j := fun e => h (by rw [e])
    simp [turn, hne]
  · rfl

theorem turn_same {b : Bay} {s : Int} {f : Slot → Slot} (hs : b.is s = true) : ∃ x, b.slots[s.toNat]? = some x ∧ (b.turn s f).dev s = (f x).inn ∧ (b.turn s f).slots[s.toNat]? = some (f x) := by
  obtain ⟨i, rfl, hi⟩ := is_some hs
  have h1 : b.slots[i]? = some b.slots[i] := List.getElem?_eq_getElem hi
  refine ⟨b.slots[i], by rw [Int.toNat_natCast]; exact h1, ?_, ?_⟩
  · unfold dev
    rw [turn_is, is_nat b hi, if_pos rfl]
    simp [turn, h1]
  · simp [turn, h1]

theorem setIn_same {b : Bay} {s : Int} {d : Dev} (hs : b.is s = true) : (b.setIn s d).dev s = some d := by
  obtain ⟨x, _, h, _⟩ := turn_same (f := fun x => { x with inn := some d }) hs
  exact h

theorem setIn_other {b : Bay} {s r : Int} {d : Dev} (hs : b.is s = true) (h : s ≠ r) : (b.setIn s d).dev r = b.dev r := turn_other hs h

theorem dev_is {b : Bay} {s : Int} {d : Dev} (h : b.dev s = some d) : b.is s = true := by
  unfold dev at h
  split at h
  · assumption
  · cases h

/-- No disk has more in its cache than k, and no more than k operations have been counted. -/
structure Low (k : Nat) (b : Bay) : Prop where
  caches : ∀ s d, b.dev s = some d → d.disk.cache.length ≤ k
  reads : b.reads ≤ k
  writes : b.writes ≤ k
  flushes : b.flushes ≤ k

theorem step_cache (d : Dev) : d.step.disk.cache.length ≤ d.disk.cache.length := by
  unfold Dev.step
  split
  · simp [Dk.fail]
  · exact Nat.le_refl _
  · exact Nat.le_refl _

theorem write_cache (d : Dk) (at_ : Int) (x : List Nat) : (d.write at_ x).cache.length ≤ d.cache.length + 1 := by
  unfold Dk.write
  split
  · simp
  · omega

theorem flush_cache (d : Dk) : d.flush.cache.length ≤ d.cache.length := by
  unfold Dk.flush
  split
  · exact Nat.le_refl _
  · simp

theorem crash_cache (d : Dk) (keep : List Bool) : (d.crash keep).cache.length ≤ d.cache.length := by
  unfold Dk.crash
  split
  · exact Nat.le_refl _
  · simp

theorem Low.mono {k m : Nat} {b : Bay} (h : Low k b) (hm : k ≤ m) : Low m b :=
  ⟨fun s d hd => Nat.le_trans (h.caches s d hd) hm, Nat.le_trans h.reads hm, Nat.le_trans h.writes hm, Nat.le_trans h.flushes hm⟩

theorem Low.setIn {k : Nat} {b : Bay} {s : Int} {d : Dev} (h : Low k b) (hs : b.is s = true) (hd : d.disk.cache.length ≤ k) : Low k (b.setIn s d) := by
  refine ⟨fun r e he => ?_, h.reads, h.writes, h.flushes⟩
  by_cases hr : s = r
  · subst hr
    rw [setIn_same hs] at he
    obtain rfl : d = e := by simpa using he
    exact hd
  · rw [setIn_other hs hr] at he
    exact h.caches r e he

theorem Low.counted {k : Nat} {b : Bay} (h : Low k b) (what : Nat) : Low (k + 1) (b.counted what) := by
  refine ⟨fun s d hd => Nat.le_trans (h.caches s d hd) (Nat.le_succ _), ?_, ?_, ?_⟩
  · have := h.reads; show b.reads + (if what = 1 then 1 else 0) ≤ k + 1; split <;> omega
  · have := h.writes; show b.writes + (if what = 2 then 1 else 0) ≤ k + 1; split <;> omega
  · have := h.flushes; show b.flushes + (if what = 3 then 1 else 0) ≤ k + 1; split <;> omega

theorem Low.start {k : Nat} {b : Bay} (h : Low k b) (s : Int) (what : Nat) : Low (k + 1) (b.start s what) := by
  unfold Bay.start
  split
  · exact h.mono (Nat.le_succ _)
  · split
    · exact h.mono (Nat.le_succ _)
    · split
      · exact ⟨fun r d hd => Nat.le_trans (h.caches r d hd) (Nat.le_succ _), Nat.le_trans h.reads (Nat.le_succ _), Nat.le_trans h.writes (Nat.le_succ _), Nat.le_trans h.flushes (Nat.le_succ _)⟩
      · split
        · exact h.counted what
        · rename_i d hd
          exact (h.counted what).setIn (dev_is hd) (Nat.le_trans (step_cache d) (Nat.le_trans (h.caches _ _ hd) (Nat.le_succ _)))

theorem startErr_ok {b : Bay} {s : Int} (h : b.startErr s = 0) : b.is s = true ∧ b.dark = false ∧ b.trip ≠ some 0 ∧ ∃ d, b.dev s = some d ∧ b.asked s = d.step := by
  unfold startErr at h
  split at h
  · cases h
  · split at h
    · cases h
    · split at h
      · cases h
      · split at h
        · cases h
        · rename_i h1 h2 h3 h4
          obtain ⟨d, hd⟩ : ∃ d, b.dev s = some d := Option.ne_none_iff_exists'.1 (fun e => h4 (by rw [e]; rfl))
          exact ⟨by simpa using h1, by simpa using h2, h3, d, hd, by unfold asked; rw [hd]⟩

theorem Low.write {k : Nat} {b : Bay} (h : Low k b) (s at_ : Int) (x : List Nat) : Low (k + 1) (b.write s at_ x) := by
  unfold Bay.write
  split
  · rename_i h0
    obtain ⟨h1, _, _, d, hd, ha⟩ := startErr_ok h0
    refine (h.counted 2).setIn h1 ?_
    have := write_cache (b.asked s).disk at_ x
    have h3 := step_cache d
    have h4 := h.caches _ _ hd
    rw [ha] at this ⊢
    show (d.step.disk.write at_ x).cache.length ≤ k + 1
    omega
  · exact h.start s 2

theorem Low.flush {k : Nat} {b : Bay} (h : Low k b) (s : Int) : Low (k + 1) (b.flush s) := by
  unfold Bay.flush
  split
  · rename_i h0
    obtain ⟨h1, _, _, d, hd, ha⟩ := startErr_ok h0
    refine (h.counted 3).setIn h1 ?_
    have := flush_cache (b.asked s).disk
    have h3 := step_cache d
    have h4 := h.caches _ _ hd
    rw [ha] at this ⊢
    show d.step.disk.flush.cache.length ≤ k + 1
    omega
  · exact h.start s 3

end Bay
end Go.Proofs.YtaggfbgbmiifaaaGreat

/-
  Bays: what is as it was, and bays without trip and wear. No function of the program is named here. By an AI agent.
-/
namespace Go.Proofs.YtaggfbgbmiifaaaGreat
open Go.RowKit
namespace Bay

/-! ### other slots -/

theorem swapErr_is {b : Bay} {s n : Int} (h : b.swapErr s n = 0) : b.is s = true := by
  unfold swapErr at h
  split at h
  · cases h
  · rename_i h1
    cases hb : b.is s with
    | true => rfl
    | false => exact absurd (.inl hb) h1

theorem loadErr_is {b : Bay} {s : Int} {x : List Nat} (h : b.loadErr s x = 0) : b.is s = true := by
  unfold loadErr at h
  split at h
  · cases h
  · rename_i h1
    simpa using h1

/-! ### caches and counts -/

theorem Low.same {k : Nat} {b c : Bay} (h : Low k b) (hd : ∀ s d, c.dev s = some d → ∃ e, b.dev s = some e ∧ d.disk.cache.length ≤ e.disk.cache.length) (h1 : c.reads = b.reads) (h2 : c.writes = b.writes) (h3 : c.flushes = b.flushes) : Low k c :=
  ⟨fun s d hs => by
    obtain ⟨e, he, hl⟩ := hd s d hs
    exact Nat.le_trans hl (h.caches s e he), by rw [h1]; exact h.reads, by rw [h2]; exact h.writes, by rw [h3]; exact h.flushes⟩

theorem Low.fail {k : Nat} {b : Bay} (h : Low k b) (s : Int) : Low k (b.fail s) := by
  unfold Bay.fail
  split
  · rename_i d hd
    exact h.setIn (dev_is hd) (by simp [Dev.lay, Dk.fail])
  · exact h

theorem Low.wear {k : Nat} {b : Bay} (h : Low k b) (s n : Int) : Low k (b.wear s n) := by
  unfold Bay.wear
  split
  · exact h
  · split
    · rename_i d hd
      exact h.setIn (dev_is hd) (show d.disk.cache.length ≤ k from h.caches _ _ hd)
    · exact h

theorem Low.turn {k : Nat} {b : Bay} {s : Int} {f : Slot → Slot} (h : Low k b) (hs : b.is s = true) (hf : ∀ x, b.slots[s.toNat]? = some x → ∀ d, (f x).inn = some d → d.disk.cache.length ≤ k) : Low k (b.turn s f) := by
  refine ⟨fun r d hd => ?_, h.reads, h.writes, h.flushes⟩
  by_cases hr : s = r
  · subst hr
    obtain ⟨x, hx, e, _⟩ := turn_same (f := f) hs
    rw [e] at hd
    exact hf x hx d hd
  · rw [turn_other hs hr] at hd
    exact h.caches r d hd

theorem slot_dev {b : Bay} {s : Int} {x : Slot} (hs : b.is s = true) (h : b.slots[s.toNat]? = some x) : b.dev s = x.inn := by
  unfold dev
  rw [if_pos hs, h]
  rfl

theorem Low.swap {k : Nat} {b : Bay} (h : Low k b) (s n : Int) : Low k (b.swap s n) := by
  unfold Bay.swap
  split
  · rename_i h0
    exact h.setIn (swapErr_is h0) (by simp [Dk.new])
  · exact h

theorem Low.load {k : Nat} {b : Bay} (h : Low k b) (s : Int) (x : List Nat) : Low k (b.load s x) := by
  unfold Bay.load
  split
  · rename_i h0
    exact h.setIn (loadErr_is h0) (by simp [Dk.load])
  · exact h

theorem cut_len (b : Bay) (keeps : List (List Bool)) : (b.cut keeps).slots.length = b.slots.length := by simp [cut]

theorem cut_is (b : Bay) (keeps : List (List Bool)) (s : Int) : (b.cut keeps).is s = b.is s := by unfold is; rw [cut_len]

theorem cut_dev {b : Bay} (keeps : List (List Bool)) {s : Nat} (hs : s < b.slots.length) : (b.cut keeps).dev s = (cutSlot keeps s b.slots[s]).inn := by
  unfold dev
  rw [cut_is, is_nat b hs, if_pos rfl]
  simp [cut, hs]

/-- Disks that come have nothing in their caches. -/
def Clean (b : Bay) : Prop := ∀ x ∈ b.slots, ∀ d, x.aside = some d ∨ x.coming = some d → d.disk.cache = []

theorem Low.cut {k : Nat} {b : Bay} (h : Low k b) (hc : Clean b) (keeps : List (List Bool)) : Low k (b.cut keeps) := by
  refine ⟨fun r d hd => ?_, h.reads, h.writes, h.flushes⟩
  have hr := dev_is hd
  rw [cut_is] at hr
  obtain ⟨i, rfl, hi⟩ := is_some hr
  rw [cut_dev keeps hi] at hd
  unfold cutSlot at hd
  split at hd
  · rename_i c hcom
    obtain rfl : c = d := by simpa using hd
    rw [hc _ (List.getElem_mem hi) c (.inr hcom)]
    simp
  · rename_i hcom
    simp only at hd
    cases hin : b.slots[i].inn with
    | none => rw [hin] at hd; cases hd
    | some e =>
      rw [hin] at hd
      obtain rfl : e.lay (e.disk.crash (keeps.getD i [])) = d := by simpa using hd
      have h1 : b.dev i = some e := by
        rw [slot_dev (x := b.slots[i]) hr (by rw [Int.toNat_natCast]; exact List.getElem?_eq_getElem hi), hin]
      exact Nat.le_trans (crash_cache _ _) (h.caches _ _ h1)

/-! ### bays without trip and wear -/

structure Calm (b : Bay) : Prop where
  lit : b.dark = false
  trip : b.trip = none
  wear : ∀ s d, b.dev s = some d → d.wear = none

theorem Calm.err {b : Bay} (h : Calm b) (s : Int) : b.startErr s = b.there s := by
  unfold startErr there
  rw [h.lit, h.trip]
  simp

theorem Calm.step {b : Bay} (h : Calm b) {s : Int} {d : Dev} (hd : b.dev s = some d) : d.step = d := by
  unfold Dev.step
  rw [h.wear s d hd]

theorem Calm.asked {b : Bay} (h : Calm b) {s : Int} {d : Dev} (hd : b.dev s = some d) : b.asked s = d := by
  unfold Bay.asked
  rw [hd]
  exact h.step hd

theorem there_ok {b : Bay} {s : Int} {d : Dev} (hd : b.dev s = some d) : b.there s = 0 := by
  unfold there
  rw [dev_is hd, hd]
  simp

theorem Calm.setIn {b : Bay} (h : Calm b) {s : Int} (hs : b.is s = true) {d : Dev} (hd : d.wear = none) (what : Nat) : Calm ((b.counted what).setIn s d) := by
  refine ⟨h.lit, ?_, fun r e he => ?_⟩
  · show b.trip.map (· - 1) = none
    rw [h.trip]
    rfl
  · by_cases hr : s = r
    · subst hr
      rw [setIn_same (b := b.counted what) hs] at he
      obtain rfl : d = e := by simpa using he
      exact hd
    · rw [setIn_other (b := b.counted what) hs hr] at he
      exact h.wear r e he

theorem Calm.read {b : Bay} (h : Calm b) {s : Int} {d : Dev} (hd : b.dev s = some d) : Calm (b.read s) ∧ (∀ r, (b.read s).dev r = b.dev r) ∧ (∀ at_, b.readVal s at_ = d.disk.readVal at_ ∧ b.readErr s at_ = d.disk.check at_) := by
  have e0 : b.startErr s = 0 := by rw [h.err, there_ok hd]
  have e1 : b.read s = (b.counted 1).setIn s d := by
    unfold Bay.read Bay.start
    rw [dev_is hd, h.lit, h.trip, hd]
    simp [h.step hd]
  refine ⟨by rw [e1]; exact h.setIn (dev_is hd) (h.wear s d hd) 1, fun r => ?_, fun at_ => ⟨by unfold readVal; rw [if_pos e0, h.asked hd], by unfold readErr; rw [if_pos e0, h.asked hd]⟩⟩
  rw [e1]
  by_cases hr : s = r
  · subst hr
    rw [setIn_same (b := b.counted 1) (dev_is hd), hd]
  · rw [setIn_other (b := b.counted 1) (dev_is hd) hr]
    rfl

theorem Calm.write {b : Bay} (h : Calm b) {s : Int} {d : Dev} (hd : b.dev s = some d) (at_ : Int) (x : List Nat) : Calm (b.write s at_ x) ∧ (b.write s at_ x).dev s = some (d.lay (d.disk.write at_ x)) ∧ b.writeErr s at_ x = d.disk.writeErr at_ x := by
  have e0 : b.startErr s = 0 := by rw [h.err, there_ok hd]
  have e1 : b.write s at_ x = (b.counted 2).setIn s (d.lay (d.disk.write at_ x)) := by
    unfold Bay.write
    rw [if_pos e0, h.asked hd]
  refine ⟨by rw [e1]; exact h.setIn (d := d.lay (d.disk.write at_ x)) (dev_is hd) (h.wear s d hd) 2, by rw [e1]; exact setIn_same (b := b.counted 2) (dev_is hd), by unfold writeErr; rw [if_pos e0, h.asked hd]⟩

theorem Calm.flush {b : Bay} (h : Calm b) {s : Int} {d : Dev} (hd : b.dev s = some d) : Calm (b.flush s) ∧ (b.flush s).dev s = some (d.lay d.disk.flush) ∧ b.flushErr s = d.disk.flushErr := by
  have e0 : b.startErr s = 0 := by rw [h.err, there_ok hd]
  have e1 : b.flush s = (b.counted 3).setIn s (d.lay d.disk.flush) := by
    unfold Bay.flush
    rw [if_pos e0, h.asked hd]
  refine ⟨by rw [e1]; exact h.setIn (d := d.lay d.disk.flush) (dev_is hd) (h.wear s d hd) 3, by rw [e1]; exact setIn_same (b := b.counted 3) (dev_is hd), by unfold flushErr; rw [if_pos e0, h.asked hd]⟩

theorem new_dev (sizes : List Int) (s : Nat) (h : s < sizes.length) : (Bay.new sizes).dev s = (slotOf sizes[s]).inn := by
  unfold dev
  rw [is_nat _ (by simp [Bay.new]; exact h), if_pos rfl]
  simp [Bay.new, h]

theorem new_low (sizes : List Int) : Low 0 (Bay.new sizes) := by
  refine ⟨fun s d hd => ?_, Nat.le_refl _, Nat.le_refl _, Nat.le_refl _⟩
  obtain ⟨i, rfl, hi⟩ := is_some (dev_is hd)
  have hi2 : i < sizes.length := by simpa [Bay.new] using hi
  rw [new_dev sizes i hi2] at hd
  unfold slotOf at hd
  simp only at hd
  split at hd
  · cases hd
  · obtain rfl : _ = d := by simpa using hd
    simp [Dk.new]

end Bay
end Go.Proofs.YtaggfbgbmiifaaaGreat

/-
  Two lists of bytes that are the same: SameBytes says so. By an AI agent.
-/
namespace Go.Proofs.YtaggfbgbmiifaaaGreat
open Go.RowKit

set_option maxHeartbeats 400000 in
theorem same_true (va vb : Value) (xs : List Int) (w : World) (ha : Sl w va xs) (hb : Sl w vb xs) (hbig : xs.length ≤ 140737488355328) :
    Calls Tryz.prog 47 #[va, vb] w fun e w' => e = .returned (.bool true) ∧ ∃ q, w' = w.drewN q := by
  obtain ⟨ao, ac, rfl⟩ := ha.slice
  obtain ⟨bo, bc, rfl⟩ := hb.slice
  have HA := Lib.hid ha
  have HB := Lib.hid hb
  clear ha hb
  go_enter Tryz.func47, Tryz.ntmps47
  go_wp2
  go_loopw [5] (fun i wr => ∃ k : Nat, k ≤ xs.length ∧ i = .int .i64 k ∧ ∃ q, wr = w.drewN q) (fun i _ => xs.length - (intOf i).toNat)
  case atStart => exact ⟨0, Nat.zero_le _, rfl, 0, rfl⟩
  case round =>
    obtain ⟨k, hk, rfl, q, rfl⟩ := hrel
    by_cases hlt : k < xs.length
    · have LA : ∃ g o, ao = some ⟨g, o, none⟩ ∧ w.cell? ⟨g, o + k, none⟩ = some (.int .u8 (xs.getD k 0)) := by
        rcases HA.out with ⟨rfl, _⟩ | ⟨g, o, c', hv, hb, hc⟩
        · simp at hlt
        · obtain ⟨rfl, rfl⟩ : ao = some ⟨g, o, none⟩ ∧ ac = c' := by simpa using hv
          exact ⟨g, o, rfl, hc k hlt⟩
      have LB : ∃ g o, bo = some ⟨g, o, none⟩ ∧ w.cell? ⟨g, o + k, none⟩ = some (.int .u8 (xs.getD k 0)) := by
        rcases HB.out with ⟨rfl, _⟩ | ⟨g, o, c', hv, hb, hc⟩
        · simp at hlt
        · obtain ⟨rfl, rfl⟩ : bo = some ⟨g, o, none⟩ ∧ bc = c' := by simpa using hv
          exact ⟨g, o, rfl, hc k hlt⟩
      obtain ⟨g, o, rfl, c1⟩ := LA
      obtain ⟨g2, o2, rfl, c2⟩ := LB
      generalize xs.getD k 0 = x at *
      have hi0 : (0 : Int) ≤ k := Int.natCast_nonneg _
      have hi1 : (k : Int) < xs.length := by omega
      go_wp2_with fail
      go_quiet (fail)
      go_wp2
      exact ⟨⟨k + 1, by omega, by go_num, _, rfl⟩, by simp [intOf]; omega⟩
    · go_wp2
      go_ret
      exact ⟨rfl, _, rfl⟩

end Go.Proofs.YtaggfbgbmiifaaaGreat
