/-
  Memory, the rest of what no package needs for itself. By an AI agent.
-/
import Derived.Test.YtkafkdlgflkjgaaGreatRows
import Derived.Test.YtkafkdlgflkjgaaGreatBMem
import Derived.WalkKit
import Derived.WalkSpells
import Derived.WalkLawsBesides
import Derived.Deep.QuietTactic
import Derived.BigQuiet
import Derived.Lib.Hide
import Derived.Lib.Walk
import Derived.Lib.SliceRun
import Derived.StillTailTactics
import Derived.Laws.BitsAllLaws
namespace Go.Proofs.YtkafkdlgflkjgaaGreat
open Go.RowKit

theorem take_snoc {α : Type} {l : List α} {k : Nat} {d : α} (h : l[k]? = some d) : l.take (k + 1) = l.take k ++ [d] := by
 obtain ⟨hk, rfl⟩ := List.getElem?_eq_some_iff.1 h
 exact List.take_succ_eq_append_getElem hk

theorem Sl.lt {w : World} {v : Value} {xs : List Int} (h : Sl w v xs) (hx : 0 < xs.length) : ∀ k, v.ownBlock = some k → k < w.heap.size := by
 intro k hk
 rcases h with ⟨rfl, _⟩ | ⟨g, o, c', hv, hb, hc⟩
 ·simp at hx
 ·rw [hv] at hk
  simp [Value.ownBlock] at hk
  omega

/-- The beginning of a slice. -/
theorem Sl.pre {w : World} {ao : Option Addr} {n c : Nat} {xs : List Int} (h : Sl w (.slice ao n c) xs) (pos : Nat) (hp : pos ≤ n) : Sl w (.slice ao pos c) (xs.take pos) := by
 rcases h with ⟨rfl, a2, c2, hv⟩ | ⟨b, o, c2, hv, hb, hc⟩
 ·obtain ⟨_, rfl, _⟩ : ao = a2 ∧ n = 0 ∧ c = c2 := by simpa using hv
  obtain rfl : pos = 0 := by omega
  exact .inl ⟨by simp, _, _, rfl⟩
 ·obtain ⟨rfl, rfl, rfl⟩ : ao = some ⟨b, o, none⟩ ∧ n = xs.length ∧ c = c2 := by simpa using hv
  have hl : (xs.take pos).length = pos := by simp; omega
  refine .inr ⟨b, o, c, by rw [hl], hb, fun j hj => ?_⟩
  rw [hl] at hj
  rw [hc j (by omega)]
  simp [List.getD, hj]

/-- What the call owns is its own while other blocks turn. -/
theorem owns_chg {w w' : World} {s : List Nat} {base : Nat} {e : TypeId} {size : Nat} {v : Value} {n : Nat} {xs : List Value} (h : w.ownsRow base e size v n xs) (c : Chg s w w') (hs : ∀ k, v.ownBlock = some k → k ∉ s) : w'.ownsRow base e size v n xs := by
 refine ⟨h.1, ?_⟩
 rcases h.2 with hn | ⟨g, cap, cur, rfl, hb, hgg, rest⟩
 ·exact .inl hn
 ·refine .inr ⟨g, cap, cur, rfl, hb, ?_, rest⟩
  rw [c.block g (Array.getElem?_eq_some_iff.1 hgg).1 (hs g rfl)]
  exact hgg

theorem chg_of_grown {w w' : World} {row : Option Nat} (h : w.grownBy w' row) : Chg row.toList w w' :=
 ⟨h.os, h.tape, h.output, h.size, fun k hk hs => h.block k hk (fun e => hs (by rw [← e]; simp))⟩

theorem owns_slice {w : World} {base : Nat} {e : TypeId} {size : Nat} {v : Value} {n : Nat} {xs : List Value} (h : w.ownsRow base e size v n xs) : ∃ ao c, v = .slice ao n c := by
 rcases h.2 with ⟨rfl, rfl⟩ | ⟨g, cap, cur, rfl, _⟩
 ·exact ⟨_, _, rfl⟩
 ·exact ⟨_, _, rfl⟩

/-- One number appended. -/
theorem new_cell (w : World) (u : Value) (e : TypeId) : ∀ (j : Nat) (v : Value), [u][j]? = some v → (w.alloc (.cells #[u] e)).cell? ((⟨w.heap.size, 0, none⟩ : Addr).add j) = some v := by
 intro j v hj
 match j, hj with
 | 0, hj =>
   obtain rfl : u = v := by simpa using hj
   exact (Blk.made w [u] e).cell rfl

theorem grown_drew_alloc (w : World) (o : Obj) : w.grownBy (w.drew.alloc o) none :=
 have q := World.grownBy_alloc w.drew o none
 ⟨q.os, q.tape, q.output, q.size, q.block⟩

/-- APPEND, AND WHERE ITS RESULT LIES: in the row that was owned, or in the newest block. -/
theorem run_append_three {P : Program} (w : World) (base : Nat) (t ty e : TypeId) (i : TypeInfo) (z : Value) (size bytes : Nat) (ht : P.underlying t = some (.slice e)) (hi : P.info? e = some i) (hz : i.zero = some z)
 (hsize : i.size = size) (hby : i.bytes = bytes) (hzs : z.cells.size = size) (hsz : 0 < size)
 (v : Value) (n : Nat) (xs : List Value) (hown : w.ownsRow base e size v n xs)
 (a : Addr) (m c : Nat) (news : List Value) (hl : news.length = m * size) (hnews : ∀ j u, news[j]? = some u → w.cell? (a.add j) = some u) (h1 : ∀ u ∈ news, u.oneCell' = true)
 (h63 : n + m ≤ maxLen) (hbytes : (n + m) * bytes ≤ 140737488355328) (hbase : base ≤ w.heap.size) :
 ∃ v' w', (Builtin.append_ #[t, t] ty #[v, .slice (some a) m c]).run P w = .ok v' w' ∧ w'.ownsRow base e size v' (n + m) (xs ++ news) ∧ w.grownBy w' v.ownBlock ∧
   (v'.ownBlock = v.ownBlock ∨ (v'.ownBlock = some w.heap.size ∧ w.grownBy w' none)) := by
 obtain ⟨v', w', hr, h2, h3, h4⟩ := run_append_own (P := P) w base t ty e i z size bytes ht hi hz hsize hby hzs hsz v n xs hown a m c news hl hnews h1 h63 hbytes hbase
 refine ⟨v', w', hr, h2, h3, ?_⟩
 subst hsize hby
 have hsm : n + m ≤ 9223372036854775807 := by simp only [maxLen] at h63; omega
 rcases hown.2 with ⟨rfl, rfl⟩ | ⟨g, cap, cur, rfl, hbg, hg, hnc, hcm, hcs, htake⟩
 ·by_cases hm : m = 0
  ·obtain rfl := h4.2 ⟨rfl, hm⟩
   exact .inl rfl
  ·have hr2 := run_append_nil (P := P) w t ty e i z ht hi hz a m c news hl hnews (by omega) (by omega) (by have hb := hbytes; simp only [Nat.zero_add] at hb; omega)
   rw [hr] at hr2
   obtain ⟨rfl, rfl⟩ : v' = _ ∧ w' = _ := by simpa using hr2
   exact .inr ⟨rfl, grown_drew_alloc _ _⟩
 ·by_cases hroom : n + m ≤ cap
  ·have hfit : n * i.size + news.length ≤ cur.size := by rw [hl, hcs, ← Nat.add_mul]; exact Nat.mul_le_mul_right _ hroom
   have hr2 := run_append_room (P := P) w t ty e i ht hi g n cap cur hg a m c news hl hnews h1 hroom hfit
   rw [hr] at hr2
   obtain ⟨rfl, _⟩ : v' = _ ∧ w' = _ := by simpa using hr2
   exact .inl rfl
  ·have hr2 := run_append_grow (P := P) w t ty e i z ht hi hz ⟨g, 0, none⟩ n cap xs hown.1 (hown.cells (g := g) rfl) a m c news hl hnews (by omega) (by omega) (growslice_fits (by omega) hbytes)
   rw [hr] at hr2
   obtain ⟨rfl, rfl⟩ : v' = _ ∧ w' = _ := by simpa using hr2
   exact .inr ⟨rfl, grown_drew_alloc _ _⟩

theorem wpList_append_three {P : Program} (w : World) {ops : Array Oper} {rest : List Oper} {o : Oper} {a : Act} {Q : Exit → Act → World → Prop} (hgd : o.guard = none) (s x : Operand) (t : TypeId)
 (ho : o.op = .call { callee := .builtin .append, args := #[s, x], argTypes := #[t, t] })
 (base : Nat) (e : TypeId) (i : TypeInfo) (z : Value) (size bytes : Nat) (ht : P.underlying t = some (.slice e)) (hi : P.info? e = some i) (hz : i.zero = some z)
 (hsize : i.size = size) (hby : i.bytes = bytes) (hzs : z.cells.size = size) (hsz : 0 < size)
 (v : Value) (n : Nat) (xs : List Value) (hs : a.eval s = v) (hown : w.ownsRow base e size v n xs)
 (ad : Addr) (m c : Nat) (news : List Value) (hx : a.eval x = .slice (some ad) m c) (hl : news.length = m * size) (hnews : ∀ j u, news[j]? = some u → w.cell? (ad.add j) = some u) (h1 : ∀ u ∈ news, u.oneCell' = true)
 (h63 : n + m ≤ maxLen) (hbytes : (n + m) * bytes ≤ 140737488355328) (hbase : base ≤ w.heap.size)
 (h : ∀ v' w', Hid (w'.ownsRow base e size v' (n + m) (xs ++ news)) → Hid (w.grownBy w' v.ownBlock) → Hid (v'.ownBlock = v.ownBlock ∨ (v'.ownBlock = some w.heap.size ∧ w.grownBy w' none)) → wpList P ops Q rest (a.put o.dst v') w') : wpList P ops Q (o :: rest) a w := by
 refine wpList_plain hgd fun K hK => ?_
 obtain ⟨v', w', hr, h2, h3, h4⟩ := run_append_three (P := P) w base t o.type e i z size bytes ht hi hz hsize hby hzs hsz v n xs hown ad m c news hl hnews h1 h63 hbytes hbase
 unfold Oper.wp
 simp [execOp, ho, resolve, invoke, builtin, hs, hx, hr, Result.andThen]
 exact hK _ _ (h v' w' h2 h3 h4)

/-- A row that is owned, whatever its length: its block is no older than the base. -/
theorem owns_len {w : World} {base : Nat} {e : TypeId} {v : Value} {n : Nat} {xs : List Value} (h : w.ownsRow base e 1 v n xs) : xs.length = n := by simpa using h.1

theorem run_append_nothing {P : Program} (w : World) (base : Nat) (t ty e : TypeId) (i : TypeInfo) (size : Nat) (ht : P.underlying t = some (.slice e)) (hi : P.info? e = some i)
 (v : Value) (n : Nat) (xs : List Value) (hown : w.ownsRow base e size v n xs) (c : Nat) :
 (Builtin.append_ #[t, t] ty #[v, .slice none 0 c]).run P w = .ok v w := by
 rcases hown.2 with ⟨rfl, rfl⟩ | ⟨g, cap, cur, rfl, _, _, hnc, _⟩
 ·simp [Builtin.append_, run_underlying ht, sizeOf, typeInfo, hi, Builtin.lenOf, Builtin.firstCells]
 ·simp [Builtin.append_, run_underlying ht, sizeOf, typeInfo, hi, Builtin.lenOf, Builtin.firstCells, hnc, storeCells]

theorem wpList_append_nothing {P : Program} (w : World) {ops : Array Oper} {rest : List Oper} {o : Oper} {a : Act} {Q : Exit → Act → World → Prop} (hgd : o.guard = none) (s x : Operand) (t : TypeId)
 (ho : o.op = .call { callee := .builtin .append, args := #[s, x], argTypes := #[t, t] })
 (base : Nat) (e : TypeId) (i : TypeInfo) (size : Nat) (ht : P.underlying t = some (.slice e)) (hi : P.info? e = some i)
 (v : Value) (n : Nat) (xs : List Value) (hs : a.eval s = v) (hown : w.ownsRow base e size v n xs) (c : Nat) (hx : a.eval x = .slice none 0 c)
 (h : wpList P ops Q rest (a.put o.dst v) w) : wpList P ops Q (o :: rest) a w := by
 refine wpList_plain hgd fun K hK => ?_
 have hr := run_append_nothing (P := P) w base t o.type e i size ht hi v n xs hown c
 unfold Oper.wp
 simp [execOp, ho, resolve, invoke, builtin, hs, hx, hr, Result.andThen]
 exact hK _ _ h

theorem ownsRow_base {w : World} {B B' : Nat} {e : TypeId} {size : Nat} {v : Value} {n : Nat} {xs : List Value} (h : w.ownsRow B e size v n xs) (hb : B' ≤ B) : w.ownsRow B' e size v n xs := by
 refine ⟨h.1, ?_⟩
 rcases h.2 with h | ⟨g, cap, cur, h1, h2, h3⟩
 ·exact .inl h
 ·exact .inr ⟨g, cap, cur, h1, by omega, h3⟩

theorem info_u8 : (Tryz.prog.info? 5).map (fun i => (i.zero, i.size, i.bytes)) = some (some (.int .u8 0), 1, 1) := by kernel_rfl

end Go.Proofs.YtkafkdlgflkjgaaGreat

/-
  Bytes as numbers, and numbers as bytes. No function of the program is named here. By an AI agent.
-/
namespace Go.Proofs.YtkafkdlgflkjgaaGreat
open Go.RowKit

/-- Numbers as bytes. -/
def nats (xs : List Int) : List Nat := xs.map Int.toNat

theorem nats_get {xs : List Int} (h : By xs) {k : Nat} (hk : k < xs.length) : ∃ y : Nat, xs.getD k 0 = (y : Int) ∧ y < 256 ∧ (nats xs).take (k + 1) = (nats xs).take k ++ [y] := by
 have hx := h.get k
 obtain ⟨y, hy⟩ := Int.eq_ofNat_of_zero_le hx.1
 refine ⟨y, hy, by omega, ?_⟩
 have hl : k < (nats xs).length := by simpa [nats] using hk
 rw [List.take_succ_eq_append_getElem hl]
 congr 2
 have : xs[k] = (y : Int) := by rw [← hy]; simp [List.getD, List.getElem?_eq_getElem hk]
 simp [nats, this]

/-- Bytes, each below 256. -/
def Bs (bs : List Nat) : Prop := ∀ b ∈ bs, b < 256

theorem nats_bs {xs : List Int} (h : By xs) : Bs (nats xs) := by
 intro b hb
 obtain ⟨x, hx, rfl⟩ := List.mem_map.1 hb
 have := h x hx
 omega

theorem nats_length (xs : List Int) : (nats xs).length = xs.length := by simp [nats]

/-- Numbers, as the cells have them. -/
def ints (bs : List Nat) : List Int := bs.map fun b : Nat => (b : Int)

theorem ints_length (bs : List Nat) : (ints bs).length = bs.length := by simp [ints]

theorem nats_ints (bs : List Nat) : nats (ints bs) = bs := by simp [nats, ints, Function.comp_def]

theorem ints_nats {xs : List Int} (h : By xs) : ints (nats xs) = xs := by
 unfold ints nats
 rw [List.map_map]
 have : ∀ x ∈ xs, ((fun b : Nat => (b : Int)) ∘ Int.toNat) x = id x := fun x hx => Int.toNat_of_nonneg (h x hx).1
 rw [List.map_congr_left this, List.map_id]

theorem ints_by {bs : List Nat} (h : Bs bs) : By (ints bs) := by
 intro x hx
 obtain ⟨b, hb, rfl⟩ := List.mem_map.1 hx
 have := h b hb
 omega

theorem ints_get (bs : List Nat) (j : Nat) : (ints bs).getD j 0 = ((bs.getD j 0 : Nat) : Int) := by
 unfold ints
 simp only [List.getD, List.getElem?_map]
 cases bs[j]? <;> rfl

end Go.Proofs.YtkafkdlgflkjgaaGreat

/-
  What a disk with a cache does, in the document's words. No function of the program is named here. By an AI agent.
-/
namespace Go.Proofs.YtkafkdlgflkjgaaGreat
open Go.RowKit

/-- What a disk has: each sector's lasting bytes, the writes that wait, and whether it has failed. -/
structure Dk where
 last : List (List Nat)
 cache : List (Nat × List Nat)
 bad : Bool

namespace Dk

def new (n : Nat) : Dk := ⟨List.replicate n (List.replicate 128 0), [], false⟩

def size (d : Dk) : Nat := d.last.length

/-- Is there such a sector? -/
def has (d : Dk) (at_ : Int) : Prop := 0 ≤ at_ ∧ at_ < d.last.length

instance (d : Dk) (at_ : Int) : Decidable (d.has at_) := by unfold has; infer_instance

/-- What was written last, or lasts. -/
def now (d : Dk) (k : Nat) : List Nat := d.cache.foldl (fun b w => if w.1 = k then w.2 else b) (d.last.getD k [])

def check (d : Dk) (at_ : Int) : Nat := if d.bad = true then 2 else if d.has at_ then 0 else 3

def readVal (d : Dk) (at_ : Int) : List Nat := if d.check at_ = 0 then d.now at_.toNat else []

def writeErr (d : Dk) (at_ : Int) (b : List Nat) : Nat := if d.check at_ = 0 then (if b.length = 128 then 0 else 4) else d.check at_

def write (d : Dk) (at_ : Int) (b : List Nat) : Dk := if d.writeErr at_ b = 0 then { d with cache := d.cache ++ [(at_.toNat, b)] } else d

def lay (l : List (List Nat)) (w : Nat × List Nat) : List (List Nat) := l.set w.1 w.2

def flushErr (d : Dk) : Nat := if d.bad = true then 2 else 0

def flush (d : Dk) : Dk := if d.bad = true then d else { d with last := d.cache.foldl lay d.last, cache := [] }

def fail (d : Dk) : Dk := { d with cache := [], bad := true }

/-- The writes from the i-th on that are kept. -/
def kept (keep : List Bool) : Nat → List (Nat × List Nat) → List (Nat × List Nat)
 | _, [] => []
 | i, w :: r => if keep.getD i false = true then w :: kept keep (i + 1) r else kept keep (i + 1) r

def crash (d : Dk) (keep : List Bool) : Dk := if d.bad = true then d else { d with last := (kept keep 0 d.cache).foldl lay d.last, cache := [] }

/-- A disk as it can be. -/
structure Fit (d : Dk) : Prop where
 lo : 1 ≤ d.last.length
 hi : d.last.length ≤ 8192
 sec : ∀ s ∈ d.last, s.length = 128 ∧ Bs s
 wr : ∀ w ∈ d.cache, w.1 < d.last.length ∧ w.2.length = 128 ∧ Bs w.2
 off : d.bad = true → d.cache = []

theorem kept_sub (keep : List Bool) : ∀ (i : Nat) (l : List (Nat × List Nat)), ∀ w ∈ kept keep i l, w ∈ l
 | _, [], w, h => by cases h
 | i, x :: r, w, h => by
   unfold kept at h
   split at h
   ·rcases List.mem_cons.1 h with rfl | h
    ·exact List.mem_cons_self
    ·exact List.mem_cons_of_mem _ (kept_sub keep (i + 1) r w h)
   ·exact List.mem_cons_of_mem _ (kept_sub keep (i + 1) r w h)

/-- All of them are kept. -/
theorem kept_all (keep : List Bool) : ∀ (i : Nat) (l : List (Nat × List Nat)), (∀ j, i ≤ j → j < i + l.length → keep.getD j false = true) → kept keep i l = l
 | _, [], _ => rfl
 | i, x :: r, h => by
   unfold kept
   rw [if_pos (h i (Nat.le_refl _) (by simp)), kept_all keep (i + 1) r (fun j h1 h2 => h j (by omega) (by simp; omega))]

theorem kept_snoc (keep : List Bool) : ∀ (i : Nat) (l : List (Nat × List Nat)) (w : Nat × List Nat), kept keep i (l ++ [w]) = kept keep i l ++ (if keep.getD (i + l.length) false = true then [w] else [])
 | i, [], w => by
   show kept keep i [w] = _
   unfold kept
   rw [show i + ([] : List (Nat × List Nat)).length = i from rfl]
   split
   ·rfl
   ·rfl
 | i, x :: r, w => by
   rw [List.cons_append, kept, kept, kept_snoc keep (i + 1) r w, show i + 1 + r.length = i + (x :: r).length by simp; omega]
   split
   ·rfl
   ·rfl

theorem lays_length : ∀ (ws : List (Nat × List Nat)) (l : List (List Nat)), (ws.foldl lay l).length = l.length
 | [], _ => rfl
 | w :: r, l => by
   rw [List.foldl_cons, lays_length r, lay, List.length_set]

theorem lays_mem : ∀ (ws : List (Nat × List Nat)) (l : List (List Nat)) (s : List Nat), s ∈ ws.foldl lay l → s ∈ l ∨ ∃ w ∈ ws, s = w.2
 | [], _, s, h => .inl h
 | w :: r, l, s, h => by
   rw [List.foldl_cons] at h
   rcases lays_mem r _ s h with h | ⟨x, hx, e⟩
   ·rcases List.mem_or_eq_of_mem_set h with h | h
    ·exact .inl h
    ·exact .inr ⟨w, List.mem_cons_self, h⟩
   ·exact .inr ⟨x, List.mem_cons_of_mem _ hx, e⟩

theorem Fit.new {n : Nat} (h1 : 1 ≤ n) (h2 : n ≤ 8192) : (Dk.new n).Fit := by
 refine ⟨by simp [Dk.new, h1], by simp [Dk.new, h2], fun s hs => ?_, (fun w hw => by cases hw), (fun h => by cases h)⟩
 rw [(List.mem_replicate.1 hs).2]
 exact ⟨by simp, fun b hb => by rw [(List.mem_replicate.1 hb).2]; decide⟩

theorem Fit.write {d : Dk} (h : d.Fit) {at_ : Int} {b : List Nat} (hb : Bs b) : (d.write at_ b).Fit := by
 unfold Dk.write
 split
 ·rename_i he
  have hc : d.check at_ = 0 := by
   unfold writeErr at he
   by_cases hc : d.check at_ = 0
   ·exact hc
   ·rw [if_neg hc] at he
    exact absurd he hc
  have hlen : b.length = 128 := by
   unfold writeErr at he
   rw [if_pos hc] at he
   by_cases hl : b.length = 128
   ·exact hl
   ·rw [if_neg hl] at he
    cases he
  have hbad : ¬ d.bad = true := fun e => by
   unfold check at hc
   rw [if_pos e] at hc
   cases hc
  have hhas : d.has at_ := by
   unfold check at hc
   rw [if_neg hbad] at hc
   by_cases hh : d.has at_
   ·exact hh
   ·rw [if_neg hh] at hc
    cases hc
  refine ⟨h.lo, h.hi, h.sec, fun w hw => ?_, fun e => absurd e hbad⟩
  rcases List.mem_append.1 hw with hw | hw
  ·exact h.wr w hw
  ·rw [List.mem_singleton.1 hw]
   have := hhas.1
   have := hhas.2
   exact ⟨by show at_.toNat < d.last.length; omega, hlen, hb⟩
 ·exact h

theorem Fit.lays {d : Dk} (h : d.Fit) (ws : List (Nat × List Nat)) (hs : ∀ w ∈ ws, w ∈ d.cache) : Fit { d with last := ws.foldl lay d.last, cache := [] } := by
 refine ⟨?_, ?_, fun s hs2 => ?_, (fun w hw => by cases hw), (fun _ => rfl)⟩
 ·show 1 ≤ (ws.foldl lay d.last).length
  rw [lays_length]; exact h.lo
 ·show (ws.foldl lay d.last).length ≤ 8192
  rw [lays_length]; exact h.hi
 ·rcases lays_mem ws d.last s hs2 with hs2 | ⟨w, hw, rfl⟩
  ·exact h.sec s hs2
  ·exact (h.wr w (hs w hw)).2

theorem Fit.flush {d : Dk} (h : d.Fit) : d.flush.Fit := by
 unfold Dk.flush
 split
 ·exact h
 ·exact h.lays d.cache (fun w hw => hw)

theorem Fit.crash {d : Dk} (h : d.Fit) (keep : List Bool) : (d.crash keep).Fit := by
 unfold Dk.crash
 split
 ·exact h
 ·exact h.lays _ (fun w hw => kept_sub keep 0 d.cache w hw)

theorem Fit.fail {d : Dk} (h : d.Fit) : d.fail.Fit := ⟨h.lo, h.hi, h.sec, (fun w hw => by cases hw), (fun _ => rfl)⟩

theorem now_len {d : Dk} (h : d.Fit) {k : Nat} (hk : k < d.last.length) : (d.now k).length = 128 ∧ Bs (d.now k) := by
 unfold now
 have h0 : (d.last.getD k []).length = 128 ∧ Bs (d.last.getD k []) := by
  rw [List.getD_eq_getElem?_getD, List.getElem?_eq_getElem hk]
  exact h.sec _ (List.getElem_mem hk)
 have : ∀ (c : List (Nat × List Nat)) (b : List Nat), (∀ w ∈ c, w.2.length = 128 ∧ Bs w.2) → b.length = 128 ∧ Bs b → (c.foldl (fun b w => if w.1 = k then w.2 else b) b).length = 128 ∧ Bs (c.foldl (fun b w => if w.1 = k then w.2 else b) b) := by
  intro c
  induction c with
  | nil => intro b _ hb; exact hb
  | cons w r ih =>
    intro b hc hb
    rw [List.foldl_cons]
    refine ih _ (fun x hx => hc x (List.mem_cons_of_mem _ hx)) ?_
    split
    ·exact hc w List.mem_cons_self
    ·exact hb
 exact this _ _ (fun w hw => (h.wr w hw).2) h0

theorem flat_len {l : List (List Nat)} (h : ∀ s ∈ l, s.length = 128) : l.flatten.length = 128 * l.length := by
 induction l with
 | nil => rfl
 | cons s r ih =>
   rw [List.flatten_cons, List.length_append, h s List.mem_cons_self, ih (fun x hx => h x (List.mem_cons_of_mem _ hx)), List.length_cons]
   omega

/-- The k-th sector of an image. -/
theorem flat_cut {l : List (List Nat)} (h : ∀ s ∈ l, s.length = 128) {k : Nat} (hk : k < l.length) : (l.flatten.drop (128 * k)).take 128 = l.getD k [] := by
 induction l generalizing k with
 | nil => cases hk
 | cons s r ih =>
   have hs := h s List.mem_cons_self
   cases k with
   | zero =>
     rw [List.flatten_cons, Nat.mul_zero, List.drop_zero, List.take_append_of_le_length (by omega), ← hs, List.take_length]
     rfl
   | succ k =>
     rw [List.flatten_cons, List.drop_append, show 128 * (k + 1) - s.length = 128 * k by omega, List.drop_eq_nil_of_le (by omega), List.nil_append, ih (fun x hx => h x (List.mem_cons_of_mem _ hx)) (by simpa using hk)]
     rfl

end Dk
namespace Dk

/-- What some writes leave in a sector. -/
def over (k : Nat) (b : List Nat) (ws : List (Nat × List Nat)) : List Nat := ws.foldl (fun b w => if w.1 = k then w.2 else b) b

theorem now_eq (d : Dk) (k : Nat) : d.now k = over k (d.last.getD k []) d.cache := rfl

theorem lays_getD : ∀ (ws : List (Nat × List Nat)) (l : List (List Nat)) (k : Nat), k < l.length → (ws.foldl lay l).getD k [] = over k (l.getD k []) ws
 | [], _, _, _ => rfl
 | w :: r, l, k, h => by
   rw [List.foldl_cons, lays_getD r _ k (by rw [lay, List.length_set]; exact h)]
   unfold over
   rw [List.foldl_cons]
   congr 1
   unfold lay
   by_cases e : w.1 = k
   ·rw [if_pos e, e]
    simp [List.getD, h]
   ·rw [if_neg e]
    simp [List.getD, List.getElem?_set_ne e]

theorem over_snoc (k : Nat) (b : List Nat) (ws : List (Nat × List Nat)) (w : Nat × List Nat) : over k b (ws ++ [w]) = if w.1 = k then w.2 else over k b ws := by
 unfold over
 rw [List.foldl_append]
 rfl

/-- A write that is taken. -/
theorem write_ok {d : Dk} {k : Nat} {b : List Nat} (hb : d.bad = false) (hk : k < d.last.length) (hl : b.length = 128) : d.writeErr k b = 0 ∧ d.write k b = { d with cache := d.cache ++ [(k, b)] } := by
 have hc : d.check (k : Int) = 0 := by
  unfold check
  rw [if_neg (by rw [hb]; decide), if_pos ⟨by omega, by omega⟩]
 have he : d.writeErr (k : Int) b = 0 := by
  unfold writeErr
  rw [if_pos hc, if_pos hl]
 refine ⟨he, ?_⟩
 unfold write
 rw [if_pos he]
 simp

theorem read_ok {d : Dk} {k : Nat} (hb : d.bad = false) (hk : k < d.last.length) : d.check (k : Int) = 0 ∧ d.readVal k = d.now k := by
 have hc : d.check (k : Int) = 0 := by
  unfold check
  rw [if_neg (by rw [hb]; decide), if_pos ⟨by omega, by omega⟩]
 refine ⟨hc, ?_⟩
 unfold readVal
 rw [if_pos hc]
 simp

theorem flush_ok {d : Dk} (hb : d.bad = false) : d.flushErr = 0 ∧ d.flush = { d with last := d.cache.foldl lay d.last, cache := [] } := by
 have h : ¬ d.bad = true := by rw [hb]; decide
 unfold flushErr flush
 rw [if_neg h, if_neg h]
 exact ⟨rfl, rfl⟩

theorem crash_ok {d : Dk} (hb : d.bad = false) (keep : List Bool) : d.crash keep = { d with last := (kept keep 0 d.cache).foldl lay d.last, cache := [] } := by
 have h : ¬ d.bad = true := by rw [hb]; decide
 unfold crash
 rw [if_neg h]

end Dk

/-- Bytes in sectors. -/
def secs : Nat → List Nat → List (List Nat)
 | 0, _ => []
 | n + 1, b => b.take 128 :: secs n (b.drop 128)

theorem secs_length : ∀ (n : Nat) (b : List Nat), (secs n b).length = n
 | 0, _ => rfl
 | n + 1, b => by rw [secs, List.length_cons, secs_length]

theorem secs_sec : ∀ (n : Nat) (b : List Nat), b.length = 128 * n → Bs b → ∀ s ∈ secs n b, s.length = 128 ∧ Bs s
 | 0, _, _, _, s, hs => by cases hs
 | n + 1, b, h, hb, s, hs => by
   rw [secs] at hs
   rcases List.mem_cons.1 hs with rfl | hs
   ·exact ⟨by rw [List.length_take]; omega, fun x hx => hb x (List.mem_of_mem_take hx)⟩
   ·exact secs_sec n _ (by rw [List.length_drop]; omega) (fun x hx => hb x (List.mem_of_mem_drop hx)) s hs

/-- A disk out of an image. -/
def Dk.load (b : List Nat) : Dk := ⟨secs (b.length / 128) b, [], false⟩

theorem Dk.Fit.load {b : List Nat} {n : Nat} (h : b.length = 128 * n) (h1 : 1 ≤ n) (h2 : n ≤ 8192) (hb : Bs b) : (Dk.load b).Fit := by
 have e : b.length / 128 = n := by omega
 unfold Dk.load
 rw [e]
 exact ⟨by show 1 ≤ (secs n b).length; rw [secs_length]; exact h1, by show (secs n b).length ≤ 8192; rw [secs_length]; exact h2, secs_sec n b h hb, (fun w hw => by cases hw), (fun h => by cases h)⟩

end Go.Proofs.YtkafkdlgflkjgaaGreat

/-
  What a bay of disks with one power supply does, in the document's words. No function of the program is named here. By an AI agent.
-/
namespace Go.Proofs.YtkafkdlgflkjgaaGreat
open Go.RowKit

/-- A disk with its wear: how many operations more, if it is worn. -/
structure Dev where
 disk : Dk
 wear : Option Nat

structure Slot where
 inn : Option Dev
 aside : Option Dev
 coming : Option Dev

structure Bay where
 slots : List Slot
 dark : Bool
 trip : Option Nat
 reads : Nat
 writes : Nat
 flushes : Nat

/-- An operation of a worn disk. -/
def Dev.step (d : Dev) : Dev := match d.wear with
 | some 0 => ⟨d.disk.fail, none⟩
 | some (n + 1) => ⟨d.disk, some n⟩
 | none => d

def Dev.lay (d : Dev) (k : Dk) : Dev := { d with disk := k }

namespace Bay

def slotOf (n : Int) : Slot := ⟨if n = 0 then none else some ⟨Dk.new n.toNat, none⟩, none, none⟩

def new (sizes : List Int) : Bay := ⟨sizes.map slotOf, false, none, 0, 0, 0⟩

def newErr (sizes : List Int) : Nat := if sizes.length < 1 ∨ 17 < sizes.length then 1 else if sizes.any (fun n => decide (n < 0 ∨ 8192 < n)) then 40 else 0

/-- Is there such a slot? -/
def is (b : Bay) (s : Int) : Bool := decide (0 ≤ s ∧ s < b.slots.length)

def dev (b : Bay) (s : Int) : Option Dev := if b.is s then (b.slots[s.toNat]?).bind (·.inn) else none

/-- A slot becomes another. -/
def turn (b : Bay) (s : Int) (f : Slot → Slot) : Bay := { b with slots := b.slots.modify s.toNat f }

def setIn (b : Bay) (s : Int) (d : Dev) : Bay := b.turn s (fun x => { x with inn := some d })

/-- An operation is counted. -/
def counted (b : Bay) (what : Nat) : Bay := { b with trip := b.trip.map (· - 1), reads := b.reads + (if what = 1 then 1 else 0), writes := b.writes + (if what = 2 then 1 else 0), flushes := b.flushes + (if what = 3 then 1 else 0) }

/-- How an operation begins: an error, or the disk of that slot is asked. -/
def startErr (b : Bay) (s : Int) : Nat :=
 if b.is s = false then 1 else if b.dark = true then 50 else if b.trip = some 0 then 50 else if (b.dev s).isNone then 51 else 0

def start (b : Bay) (s : Int) (what : Nat) : Bay :=
 if b.is s = false then b else if b.dark = true then b else if b.trip = some 0 then { b with dark := true, trip := none } else
 match b.dev s with
 | none => b.counted what
 | some d => (b.counted what).setIn s d.step

/-- The disk that is asked then. -/
def asked (b : Bay) (s : Int) : Dev := match b.dev s with
 | some d => d.step
 | none => ⟨Dk.new 1, none⟩

def readVal (b : Bay) (s at_ : Int) : List Nat := if b.startErr s = 0 then (b.asked s).disk.readVal at_ else []
def readErr (b : Bay) (s at_ : Int) : Nat := if b.startErr s = 0 then (b.asked s).disk.check at_ else b.startErr s
def read (b : Bay) (s : Int) : Bay := b.start s 1

def writeErr (b : Bay) (s at_ : Int) (x : List Nat) : Nat := if b.startErr s = 0 then (b.asked s).disk.writeErr at_ x else b.startErr s
def write (b : Bay) (s at_ : Int) (x : List Nat) : Bay := if b.startErr s = 0 then (b.counted 2).setIn s ((b.asked s).lay ((b.asked s).disk.write at_ x)) else b.start s 2

def flushErr (b : Bay) (s : Int) : Nat := if b.startErr s = 0 then (b.asked s).disk.flushErr else b.startErr s
def flush (b : Bay) (s : Int) : Bay := if b.startErr s = 0 then (b.counted 3).setIn s ((b.asked s).lay ((b.asked s).disk.flush)) else b.start s 3

/-- Is a disk in a slot that there is? -/
def there (b : Bay) (s : Int) : Nat := if b.is s = false then 1 else if (b.dev s).isNone then 51 else 0

def fail (b : Bay) (s : Int) : Bay := match b.dev s with
 | some d => b.setIn s (d.lay d.disk.fail)
 | none => b

def wear (b : Bay) (s n : Int) : Bay := if n < 0 then b else match b.dev s with
 | some d => b.setIn s { d with wear := some n.toNat }
 | none => b

/-- A disk that has not failed is in the slot. -/
def has (b : Bay) (s : Int) : Bool := match b.dev s with
 | some d => !d.disk.bad
 | none => false

def taken (b : Bay) (s : Int) : Bool := b.has s || ((b.slots[s.toNat]?).bind (·.coming)).isSome

def pushErr (b : Bay) (s : Int) : Nat :=
 if b.is s = false then 1 else if ((b.slots[s.toNat]?).bind (·.aside)).isNone then 51 else if b.taken s = true then 52 else 0
def push (b : Bay) (s : Int) : Bay := if b.pushErr s = 0 then b.turn s (fun x => { x with aside := none, coming := x.aside }) else b

def swapErr (b : Bay) (s n : Int) : Nat := if b.is s = false ∨ n < 0 then 1 else if b.taken s = true then 52 else if 1 ≤ n ∧ n ≤ 8192 then 0 else 40
def swap (b : Bay) (s n : Int) : Bay := if b.swapErr s n = 0 then b.setIn s ⟨Dk.new n.toNat, none⟩ else b

/-- Is it an image? -/
def fits (x : List Nat) : Prop := ∃ n, x.length = 128 * n ∧ 1 ≤ n ∧ n ≤ 8192
instance (x : List Nat) : Decidable (fits x) := decidable_of_iff (x.length % 128 = 0 ∧ 128 ≤ x.length ∧ x.length ≤ 1048576) ⟨fun h => ⟨x.length / 128, by omega, by omega, by omega⟩, fun ⟨n, h⟩ => by omega⟩

def loadErr (b : Bay) (s : Int) (x : List Nat) : Nat := if b.is s = false then 1 else if b.taken s = true then 52 else if fits x then 0 else 40
def load (b : Bay) (s : Int) (x : List Nat) : Bay := if b.loadErr s x = 0 then b.setIn s ⟨Dk.load x, none⟩ else b

def tripErr (b : Bay) (n : Int) : Nat := if n < 0 then 1 else if b.dark = true then 50 else 0
def tripped (b : Bay) (n : Int) : Bay := if b.tripErr n = 0 then { b with trip := some n.toNat } else b

/-- A slot behind a cut. -/
def cutSlot (keeps : List (List Bool)) (i : Nat) (s : Slot) : Slot := match s.coming with
 | some c => { s with inn := some c, coming := none }
 | none => { s with inn := s.inn.map (fun d => d.lay (d.disk.crash (keeps.getD i []))) }

def cut (b : Bay) (keeps : List (List Bool)) : Bay := { b with slots := b.slots.mapIdx (cutSlot keeps), dark := false, trip := none }

/-! ### what is as it was -/

theorem is_nat (b : Bay) {s : Nat} (h : s < b.slots.length) : b.is s = true := by
 unfold is
 exact decide_eq_true ⟨Int.natCast_nonneg _, by omega⟩

theorem is_some {b : Bay} {s : Int} (h : b.is s = true) : ∃ k : Nat, s = k ∧ k < b.slots.length := by
 have h1 := of_decide_eq_true h
 exact ⟨s.toNat, by omega, by omega⟩

theorem turn_len (b : Bay) (s : Int) (f : Slot → Slot) : (b.turn s f).slots.length = b.slots.length := by simp [turn]

theorem turn_is (b : Bay) (s r : Int) (f : Slot → Slot) : (b.turn s f).is r = b.is r := by unfold is; rw [turn_len]

theorem turn_other {b : Bay} {s r : Int} {f : Slot → Slot} (hs : b.is s = true) (h : s ≠ r) : (b.turn s f).dev r = b.dev r := by
 unfold dev
 rw [turn_is]
 split
 ·rename_i hr
  obtain ⟨i, rfl, hi⟩ := is_some hs
  obtain ⟨j, rfl, hj⟩ := is_some hr
  have hne : i ≠ j := fun e => h (by rw [e])
  simp [turn, hne]
 ·rfl

theorem turn_same {b : Bay} {s : Int} {f : Slot → Slot} (hs : b.is s = true) : ∃ x, b.slots[s.toNat]? = some x ∧ (b.turn s f).dev s = (f x).inn ∧ (b.turn s f).slots[s.toNat]? = some (f x) := by
 obtain ⟨i, rfl, hi⟩ := is_some hs
 have h1 : b.slots[i]? = some b.slots[i] := List.getElem?_eq_getElem hi
 refine ⟨b.slots[i], by rw [Int.toNat_natCast]; exact h1, ?_, ?_⟩
 ·unfold dev
  rw [turn_is, is_nat b hi, if_pos rfl]
  simp [turn, h1]
 ·simp [turn, h1]

theorem setIn_same {b : Bay} {s : Int} {d : Dev} (hs : b.is s = true) : (b.setIn s d).dev s = some d := by
 obtain ⟨x, _, h, _⟩ := turn_same (f := fun x => { x with inn := some d }) hs
 exact h

theorem setIn_other {b : Bay} {s r : Int} {d : Dev} (hs : b.is s = true) (h : s ≠ r) : (b.setIn s d).dev r = b.dev r := turn_other hs h

theorem dev_is {b : Bay} {s : Int} {d : Dev} (h : b.dev s = some d) : b.is s = true := by
 unfold dev at h
 split at h
 ·assumption
 ·cases h

/-- No disk has more in its cache than k, and no more than k operations have been counted. -/
structure Low (k : Nat) (b : Bay) : Prop where
 caches : ∀ s d, b.dev s = some d → d.disk.cache.length ≤ k
 reads : b.reads ≤ k
 writes : b.writes ≤ k
 flushes : b.flushes ≤ k

theorem step_cache (d : Dev) : d.step.disk.cache.length ≤ d.disk.cache.length := by
 unfold Dev.step
 split
 ·simp [Dk.fail]
 ·exact Nat.le_refl _
 ·exact Nat.le_refl _

theorem write_cache (d : Dk) (at_ : Int) (x : List Nat) : (d.write at_ x).cache.length ≤ d.cache.length + 1 := by
 unfold Dk.write
 split
 ·simp
 ·omega

theorem flush_cache (d : Dk) : d.flush.cache.length ≤ d.cache.length := by
 unfold Dk.flush
 split
 ·exact Nat.le_refl _
 ·simp

theorem crash_cache (d : Dk) (keep : List Bool) : (d.crash keep).cache.length ≤ d.cache.length := by
 unfold Dk.crash
 split
 ·exact Nat.le_refl _
 ·simp

theorem Low.mono {k m : Nat} {b : Bay} (h : Low k b) (hm : k ≤ m) : Low m b :=
 ⟨fun s d hd => Nat.le_trans (h.caches s d hd) hm, Nat.le_trans h.reads hm, Nat.le_trans h.writes hm, Nat.le_trans h.flushes hm⟩

theorem Low.setIn {k : Nat} {b : Bay} {s : Int} {d : Dev} (h : Low k b) (hs : b.is s = true) (hd : d.disk.cache.length ≤ k) : Low k (b.setIn s d) := by
 refine ⟨fun r e he => ?_, h.reads, h.writes, h.flushes⟩
 by_cases hr : s = r
 ·subst hr
  rw [setIn_same hs] at he
  obtain rfl : d = e := by simpa using he
  exact hd
 ·rw [setIn_other hs hr] at he
  exact h.caches r e he

theorem Low.counted {k : Nat} {b : Bay} (h : Low k b) (what : Nat) : Low (k + 1) (b.counted what) := by
 refine ⟨fun s d hd => Nat.le_trans (h.caches s d hd) (Nat.le_succ _), ?_, ?_, ?_⟩
 ·have := h.reads; show b.reads + (if what = 1 then 1 else 0) ≤ k + 1; split <;> omega
 ·have := h.writes; show b.writes + (if what = 2 then 1 else 0) ≤ k + 1; split <;> omega
 ·have := h.flushes; show b.flushes + (if what = 3 then 1 else 0) ≤ k + 1; split <;> omega

theorem Low.start {k : Nat} {b : Bay} (h : Low k b) (s : Int) (what : Nat) : Low (k + 1) (b.start s what) := by
 unfold Bay.start
 split
 ·exact h.mono (Nat.le_succ _)
 ·split
  ·exact h.mono (Nat.le_succ _)
  ·split
   ·exact ⟨fun r d hd => Nat.le_trans (h.caches r d hd) (Nat.le_succ _), Nat.le_trans h.reads (Nat.le_succ _), Nat.le_trans h.writes (Nat.le_succ _), Nat.le_trans h.flushes (Nat.le_succ _)⟩
   ·split
    ·exact h.counted what
    ·rename_i d hd
     exact (h.counted what).setIn (dev_is hd) (Nat.le_trans (step_cache d) (Nat.le_trans (h.caches _ _ hd) (Nat.le_succ _)))

theorem startErr_ok {b : Bay} {s : Int} (h : b.startErr s = 0) : b.is s = true ∧ b.dark = false ∧ b.trip ≠ some 0 ∧ ∃ d, b.dev s = some d ∧ b.asked s = d.step := by
 unfold startErr at h
 split at h
 ·cases h
 ·split at h
  ·cases h
  ·split at h
   ·cases h
   ·split at h
    ·cases h
    ·rename_i h1 h2 h3 h4
     obtain ⟨d, hd⟩ : ∃ d, b.dev s = some d := Option.ne_none_iff_exists'.1 (fun e => h4 (by rw [e]; rfl))
     exact ⟨by simpa using h1, by simpa using h2, h3, d, hd, by unfold asked; rw [hd]⟩

theorem Low.write {k : Nat} {b : Bay} (h : Low k b) (s at_ : Int) (x : List Nat) : Low (k + 1) (b.write s at_ x) := by
 unfold Bay.write
 split
 ·rename_i h0
  obtain ⟨h1, _, _, d, hd, ha⟩ := startErr_ok h0
  refine (h.counted 2).setIn h1 ?_
  have := write_cache (b.asked s).disk at_ x
  have h3 := step_cache d
  have h4 := h.caches _ _ hd
  rw [ha] at this ⊢
  show (d.step.disk.write at_ x).cache.length ≤ k + 1
  omega
 ·exact h.start s 2

theorem Low.flush {k : Nat} {b : Bay} (h : Low k b) (s : Int) : Low (k + 1) (b.flush s) := by
 unfold Bay.flush
 split
 ·rename_i h0
  obtain ⟨h1, _, _, d, hd, ha⟩ := startErr_ok h0
  refine (h.counted 3).setIn h1 ?_
  have := flush_cache (b.asked s).disk
  have h3 := step_cache d
  have h4 := h.caches _ _ hd
  rw [ha] at this ⊢
  show d.step.disk.flush.cache.length ≤ k + 1
  omega
 ·exact h.start s 3

end Bay
end Go.Proofs.YtkafkdlgflkjgaaGreat

/-
  Checksums, as numbers: shifts with a polynomial, their sums, their squares, and bursts. No function of the program is named here. By an AI agent.
-/
namespace Go.Proofs.YtkafkdlgflkjgaaGreat.Crc

def poly : Nat := 0x82f63b78
def ones : Nat := 0xffffffff

theorem xor4 (a b c d : Nat) : (a ^^^ b) ^^^ (c ^^^ d) = (a ^^^ c) ^^^ (b ^^^ d) := by
 rw [Nat.xor_assoc, Nat.xor_assoc, ← Nat.xor_assoc b c d, Nat.xor_comm b c, Nat.xor_assoc c b d]

theorem xor_back (a b : Nat) : a ^^^ b ^^^ b = a := by rw [Nat.xor_assoc, Nat.xor_self, Nat.xor_zero]

/-- One bit is shifted out. -/
def sh (n : Nat) : Nat := if n % 2 = 1 then (n / 2) ^^^ poly else n / 2

theorem div_xor (a b : Nat) : (a ^^^ b) / 2 = a / 2 ^^^ b / 2 := by
 have h := Nat.shiftRight_xor_distrib (a := a) (b := b) (i := 1)
 simpa [Nat.shiftRight_eq_div_pow] using h

theorem mod_xor (a b : Nat) : (a ^^^ b) % 2 = (a % 2 + b % 2) % 2 := by
 have h := Nat.xor_mod_two_pow (a := a) (b := b) (n := 1)
 rw [Nat.pow_one] at h
 rw [h]
 rcases Nat.mod_two_eq_zero_or_one a with ha | ha <;> rcases Nat.mod_two_eq_zero_or_one b with hb | hb <;> rw [ha, hb] <;> rfl

theorem sh_xor (a b : Nat) : sh (a ^^^ b) = sh a ^^^ sh b := by
 unfold sh
 rw [div_xor, mod_xor]
 rcases Nat.mod_two_eq_zero_or_one a with ha | ha <;> rcases Nat.mod_two_eq_zero_or_one b with hb | hb <;> simp only [ha, hb] <;> simp
 ·rw [Nat.xor_assoc]
 ·rw [Nat.xor_assoc, Nat.xor_assoc, Nat.xor_comm poly]
 ·rw [xor4, Nat.xor_self, Nat.xor_zero]

theorem sh_lt {n : Nat} (h : n < 4294967296) : sh n < 4294967296 := by
 unfold sh
 split
 ·have h1 : n / 2 < 2 ^ 32 := by omega
  have h2 : poly < 2 ^ 32 := by decide
  exact Nat.xor_lt_two_pow h1 h2
 ·omega

/-- So many bits are shifted out. -/
def thr : Nat → Nat → Nat
 | 0, n => n
 | k + 1, n => thr k (sh n)

theorem thr_xor : ∀ (k a b : Nat), thr k (a ^^^ b) = thr k a ^^^ thr k b
 | 0, _, _ => rfl
 | k + 1, a, b => by rw [thr, thr, thr, sh_xor, thr_xor k]

theorem thr_lt : ∀ (k : Nat) {n : Nat}, n < 4294967296 → thr k n < 4294967296
 | 0, _, h => h
 | k + 1, _, h => thr_lt k (sh_lt h)

theorem thr_add : ∀ (j k n : Nat), thr (j + k) n = thr k (thr j n)
 | 0, k, n => by rw [Nat.zero_add]; rfl
 | j + 1, k, n => by rw [show j + 1 + k = j + k + 1 by omega, thr, thr, thr_add j k]

theorem thr_succ (k n : Nat) : thr (k + 1) n = sh (thr k n) := by rw [thr_add k 1]; rfl

/-- The register behind bytes. -/
def reg (s : Nat) (bs : List Nat) : Nat := bs.foldl (fun n b => thr 8 (n ^^^ b)) s

theorem reg_nil (s : Nat) : reg s [] = s := rfl
theorem reg_cons (s b : Nat) (bs : List Nat) : reg s (b :: bs) = reg (thr 8 (s ^^^ b)) bs := rfl
theorem reg_append (s : Nat) (a b : List Nat) : reg s (a ++ b) = reg (reg s a) b := by simp [reg]
theorem reg_snoc (s : Nat) (a : List Nat) (x : Nat) : reg s (a ++ [x]) = thr 8 (reg s a ^^^ x) := by simp [reg]

theorem byte_lt {b : Nat} (h : b < 256) : b < 2 ^ 32 := Nat.lt_trans h (by decide)

theorem reg_lt : ∀ {bs : List Nat} {s : Nat}, s < 4294967296 → Bs bs → reg s bs < 4294967296
 | [], _, h, _ => h
 | b :: r, _, h, hb => reg_lt (bs := r) (thr_lt 8 (Nat.xor_lt_two_pow (n := 32) h (byte_lt (hb b List.mem_cons_self)))) (fun x hx => hb x (List.mem_cons_of_mem _ hx))

/-- The checksum of what had the checksum s, and of bytes. -/
def more (s : Nat) (bs : List Nat) : Nat := reg (s ^^^ ones) bs ^^^ ones
def sum (bs : List Nat) : Nat := more 0 bs

theorem more_lt {s : Nat} {bs : List Nat} (hs : s < 4294967296) (hb : Bs bs) : more s bs < 4294967296 :=
 Nat.xor_lt_two_pow (n := 32) (reg_lt (Nat.xor_lt_two_pow (n := 32) hs (by decide)) hb) (by decide)

theorem more_more (s : Nat) (a b : List Nat) : more (more s a) b = more s (a ++ b) := by
 unfold more
 rw [xor_back, reg_append]

theorem more_nil (s : Nat) : more s [] = s := by unfold more; rw [reg_nil, xor_back]

/-- Two pieces, put together. -/
def join (a b n : Nat) : Nat := thr (8 * n) a ^^^ b

/-- The matrix m is the function f, which is a sum of what it makes of the bits. -/
structure Rep (m : List Nat) (f : Nat → Nat) : Prop where
 len : m.length = 32
 col : ∀ i, i < 32 → m.getD i 0 = f (2 ^ i)
 add : ∀ a b, f (a ^^^ b) = f a ^^^ f b
 lt : ∀ n, n < 4294967296 → f n < 4294967296

theorem Rep.zero {m : List Nat} {f : Nat → Nat} (h : Rep m f) : f 0 = 0 := by
 have := h.add 0 0
 rw [Nat.xor_self] at this
 rw [this, Nat.xor_self]

/-- So many bits by halves: one round of the squares. -/
theorem halves (k n x : Nat) : thr (k * n) x = thr (2 * k * (n / 2)) (if n % 2 = 1 then thr k x else x) := by
 split
 ·rw [← thr_add]
  congr 1
  have := Nat.div_add_mod n 2
  generalize n / 2 = q at *
  obtain rfl : n = 2 * q + 1 := by omega
  rw [Nat.mul_add, Nat.mul_one, Nat.add_comm, ← Nat.mul_assoc, Nat.mul_comm k 2]
 ·congr 1
  have := Nat.div_add_mod n 2
  generalize n / 2 = q at *
  obtain rfl : n = 2 * q := by omega
  rw [← Nat.mul_assoc, Nat.mul_comm k 2]

/-- The bits of a change that lie in a text, as far as the first i. -/
def within (change room : Nat) : Nat → Nat
 | 0 => 0
 | i + 1 => within change room i ^^^ (if change.testBit i = true ∧ i < room then 2 ^ i else 0)

end Go.Proofs.YtkafkdlgflkjgaaGreat.Crc
namespace Go.Proofs.YtkafkdlgflkjgaaGreat
open Crc

/-- A superblock. -/
structure Sup where
 id : Nat
 ev : Nat
 safe : Nat
 role : Int
 m : Int
 c : Int
 t : Int
 ring : Int
 lazy : Bool
 lost : Bool
 st : List Int
 cur : Int

namespace Sup

/-- What its fields hold, whatever it is. -/
structure Fit (s : Sup) : Prop where
 id : s.id < 18446744073709551616
 ev : s.ev < 18446744073709551616
 safe : s.safe < 18446744073709551616
 role : -9223372036854775808 ≤ s.role ∧ s.role ≤ 9223372036854775807
 m : -9223372036854775808 ≤ s.m ∧ s.m ≤ 9223372036854775807
 c : -9223372036854775808 ≤ s.c ∧ s.c ≤ 9223372036854775807
 t : -9223372036854775808 ≤ s.t ∧ s.t ≤ 9223372036854775807
 ring : -9223372036854775808 ≤ s.ring ∧ s.ring ≤ 9223372036854775807
 cur : -9223372036854775808 ≤ s.cur ∧ s.cur ≤ 9223372036854775807
 st : By s.st

/-- How many are being rebuilt. -/
def many (st : List Int) : Nat := st.countP (· == 3)

def numbers (s : Sup) : Prop := 3 ≤ s.m ∧ s.m ≤ 16 ∧ 1 ≤ s.c ∧ s.c ≤ 16 ∧ 1 ≤ s.t ∧ s.t ≤ 256

def counts (s : Sup) : Prop := 1 ≤ s.ev ∧ s.ev ≤ 4611686018427387904 ∧ 1 ≤ s.safe ∧ s.safe ≤ s.ev ∧ 0 ≤ s.role ∧ s.role ≤ s.m ∧ 5 ≤ s.ring ∧ s.ring ≤ 2048 ∧ (s.st.length : Int) = s.m

def states (s : Sup) : Prop := ∀ x ∈ s.st, 1 ≤ x ∧ x ≤ 3

def done (s : Sup) : Prop := many s.st ≤ 1 ∧ 0 ≤ s.cur ∧ s.cur < s.t ∧ (many s.st = 0 → s.cur = 0)

/-- It is valid. -/
def Ok (s : Sup) : Prop := s.numbers ∧ s.counts ∧ s.states ∧ s.done

instance (s : Sup) : Decidable s.Ok := by unfold Ok numbers counts states done; infer_instance

end Sup

/-- The n lowest bytes of a number, the lowest first. -/
def low : Nat → Nat → List Nat
 | 0, _ => []
 | n + 1, v => v % 256 :: low n (v / 256)

theorem low_length : ∀ n v, (low n v).length = n
 | 0, _ => rfl
 | n + 1, v => by simp [low, low_length n]

theorem low_bs : ∀ n v, Bs (low n v)
 | 0, _ => by intro b hb; cases hb
 | n + 1, v => by
   intro b hb
   rcases List.mem_cons.1 hb with rfl | hb
   ·exact Nat.mod_lt _ (by decide)
   ·exact low_bs n _ b hb

namespace Sup

def flags (s : Sup) : Nat := (if s.lazy then 1 else 0) + (if s.lost then 2 else 0)

/-- The bytes ahead of the states. -/
def head (s : Sup) : List Nat :=
 [83, 80, 83, 66, 1, 0, 0, 0] ++ low 8 s.id ++ low 8 s.ev ++ low 8 s.safe ++ [s.role.toNat % 256, s.m.toNat % 256, s.c.toNat % 256, s.flags] ++ low 2 s.t.toNat ++ low 2 s.ring.toNat ++ low 4 s.cur.toNat

/-- The bytes that the checksum is of. -/
def body (s : Sup) : List Nat := s.head ++ nats s.st ++ List.replicate (80 - s.st.length) 0

/-- The sector. -/
def sector (s : Sup) : List Nat := s.body ++ low 4 (sum s.body)

theorem head_length (s : Sup) : s.head.length = 44 := by simp [head, low_length]

theorem body_length {s : Sup} (h : s.st.length ≤ 80) : s.body.length = 124 := by
 simp [body, head_length, nats_length]
 omega

theorem sector_length {s : Sup} (h : s.st.length ≤ 80) : s.sector.length = 128 := by
 rw [sector, List.length_append, body_length h, low_length]

end Sup
end Go.Proofs.YtkafkdlgflkjgaaGreat
namespace Go.Proofs.YtkafkdlgflkjgaaGreat
open Crc

/-- A number of bytes, the lowest first. -/
def val : List Nat → Nat
 | [] => 0
 | b :: bs => b + 256 * val bs

theorem val_low : ∀ n v, val (low n v) = v % 256 ^ n
 | 0, v => by simp [low, val, Nat.mod_one]
 | n + 1, v => by
   rw [low, val, val_low n, Nat.pow_succ, Nat.mul_comm (256 ^ n) 256, Nat.mod_mul]

theorem val_low_of {n v : Nat} (h : v < 256 ^ n) : val (low n v) = v := by rw [val_low, Nat.mod_eq_of_lt h]

theorem val_lt : ∀ {bs : List Nat}, Bs bs → val bs < 256 ^ bs.length
 | [], _ => by simp [val]
 | b :: bs, h => by
   have h1 := val_lt (bs := bs) (fun x hx => h x (List.mem_cons_of_mem _ hx))
   have h2 : b < 256 := h b (List.mem_cons_self ..)
   rw [val, List.length_cons, Nat.pow_succ]
   omega

theorem low_val : ∀ {bs : List Nat}, Bs bs → low bs.length (val bs) = bs
 | [], _ => rfl
 | b :: bs, h => by
   have h1 := low_val (bs := bs) (fun x hx => h x (List.mem_cons_of_mem _ hx))
   have h2 : b < 256 := h b (List.mem_cons_self ..)
   rw [List.length_cons, low, val, show (b + 256 * val bs) % 256 = b by omega, show (b + 256 * val bs) / 256 = val bs by omega, h1]

/-- A number within bytes. -/
def rd (b : List Nat) (at_ n : Nat) : Nat := val ((b.drop at_).take n)

theorem rd_lt {b : List Nat} (h : Bs b) (at_ n : Nat) : rd b at_ n < 256 ^ n := by
 have h1 : Bs ((b.drop at_).take n) := fun x hx => h x (List.mem_of_mem_drop (List.mem_of_mem_take hx))
 refine Nat.lt_of_lt_of_le (val_lt h1) (Nat.pow_le_pow_right (by decide) ?_)
 rw [List.length_take]
 exact Nat.min_le_left _ _

theorem rd_mid {a m z : List Nat} : rd (a ++ m ++ z) a.length m.length = val m := by
 unfold rd
 rw [List.append_assoc, List.drop_left, List.take_left]

theorem rd_at {a z : List Nat} {at_ n v : Nat} (ha : a.length = at_) (hv : v < 256 ^ n) : rd (a ++ low n v ++ z) at_ n = v := by
 have h := rd_mid (a := a) (m := low n v) (z := z)
 rw [low_length, ha] at h
 rw [h, val_low_of hv]

namespace Crc

/-- Bits that are noughts go out alone. -/
theorem thr_shift : ∀ k n, thr k (2 ^ k * n) = n
 | 0, n => by simp [thr]
 | k + 1, n => by
   rw [Nat.add_comm k 1, thr_add 1 k]
   have e : thr 1 (2 ^ (1 + k) * n) = 2 ^ k * n := by
    show sh _ = _
    unfold sh
    rw [Nat.pow_add, if_neg (by rw [Nat.mul_assoc]; omega), Nat.mul_assoc]
    omega
   rw [e, thr_shift k n]

theorem split_low (v : Nat) : v = (v % 256) ^^^ (256 * (v / 256)) := by
 apply Nat.eq_of_testBit_eq
 intro i
 rw [Nat.testBit_xor, show (256 : Nat) = 2 ^ 8 from rfl, Nat.testBit_mod_two_pow, Nat.testBit_two_pow_mul, Nat.testBit_div_two_pow]
 by_cases h : i < 8
 ·have h1 : ¬ 8 ≤ i := by omega
  simp [h, h1]
 ·have h1 : 8 ≤ i := by omega
  simp [h, h1, Nat.sub_add_cancel h1]

theorem reg_low : ∀ (n s v : Nat), reg s (low n v) = thr (8 * n) (s ^^^ v % 256 ^ n)
 | 0, s, v => by simp [low, reg_nil, Nat.mod_one, thr]
 | n + 1, s, v => by
   rw [low, reg_cons, reg_low n, show 8 * (n + 1) = 8 + 8 * n by omega, thr_add 8 (8 * n)]
   congr 1
   have e : v % 256 ^ (n + 1) = (v % 256) ^^^ (256 * (v / 256 % 256 ^ n)) := by
    have h := split_low (v % 256 ^ (n + 1))
    rw [Nat.pow_succ, Nat.mul_comm (256 ^ n) 256, Nat.mod_mul_right_mod, Nat.mod_mul_right_div_self] at h
    rw [Nat.pow_succ, Nat.mul_comm (256 ^ n) 256]
    exact h
   rw [e, ← Nat.xor_assoc, thr_xor 8 (s ^^^ v % 256)]
   congr 1
   exact (thr_shift 8 _).symm

/-- Behind a text and its sum the register is always the same. -/
theorem reg_sealed {bs : List Nat} (h : Bs bs) : reg ones (bs ++ low 4 (sum bs)) = thr 32 ones := by
 have hs : sum bs < 256 ^ 4 := more_lt (by decide) h
 rw [reg_append, reg_low, Nat.mod_eq_of_lt hs]
 unfold sum more
 rw [Nat.zero_xor, ← Nat.xor_assoc, Nat.xor_self, Nat.zero_xor]

end Crc

/-- A record: its kind, epoch, number, and the fields of its kind. -/
structure Rec where
 kind : Nat
 ep : Nat
 sq : Nat
 fs : List Nat

namespace Rec

def tail (fs : List Nat) : List Nat := fs.flatMap (low 4)

theorem tail_length (fs : List Nat) : (tail fs).length = 4 * fs.length := by
 induction fs with
 | nil => rfl
 | cons f fs ih =>
   show (low 4 f ++ tail fs).length = _
   rw [List.length_append, low_length, ih, List.length_cons]
   omega

def begun (r : Rec) : List Nat := [83, 80, 74, 76] ++ low 4 r.kind ++ low 8 r.ep ++ low 8 r.sq

theorem begun_length (r : Rec) : r.begun.length = 24 := by simp [begun, low_length]

/-- The bytes that the checksum is of. -/
def body (r : Rec) : List Nat := r.begun ++ tail r.fs ++ List.replicate (100 - 4 * r.fs.length) 0

/-- The sector. -/
def sector (r : Rec) : List Nat := r.body ++ low 4 (sum r.body)

theorem body_length {r : Rec} (h : r.fs.length ≤ 25) : r.body.length = 124 := by
 rw [body, List.length_append, List.length_append, begun_length, tail_length, List.length_replicate]
 omega

theorem sector_length {r : Rec} (h : r.fs.length ≤ 25) : r.sector.length = 128 := by
 rw [sector, List.length_append, body_length h, low_length]

theorem tail_bs (fs : List Nat) : Bs (tail fs) := fun x hx => by
 obtain ⟨f, _, hf⟩ := List.mem_flatMap.1 hx
 exact low_bs 4 f x hf

theorem body_bs (r : Rec) : Bs r.body := fun x hx => by
 unfold body begun at hx
 simp only [List.mem_append] at hx
 rcases hx with ((((hx | hx) | hx) | hx) | hx) | hx
 ·simp only [List.mem_cons, List.not_mem_nil, or_false] at hx; omega
 ·exact low_bs 4 _ x hx
 ·exact low_bs 8 _ x hx
 ·exact low_bs 8 _ x hx
 ·exact tail_bs _ x hx
 ·rw [(List.mem_replicate.1 hx).2]; decide

theorem sector_bs (r : Rec) : Bs r.sector := fun x hx => by
 rcases List.mem_append.1 hx with hx | hx
 ·exact r.body_bs x hx
 ·exact low_bs 4 _ x hx

theorem sector_sealed (r : Rec) : reg ones r.sector = thr 32 ones := reg_sealed r.body_bs

theorem sum_lt (r : Rec) : sum r.body < 4294967296 := more_lt (by decide) r.body_bs

theorem rd_ep {r : Rec} (h : r.ep < 18446744073709551616) : rd r.sector 8 8 = r.ep := by
 have e : r.sector = ([83, 80, 74, 76] ++ low 4 r.kind) ++ low 8 r.ep ++ (low 8 r.sq ++ tail r.fs ++ List.replicate (100 - 4 * r.fs.length) 0 ++ low 4 (sum r.body)) := by
  unfold sector
  generalize sum r.body = z
  simp [body, begun]
 rw [e]
 exact rd_at (by simp [low_length]) h

theorem rd_sq {r : Rec} (h : r.sq < 18446744073709551616) : rd r.sector 16 8 = r.sq := by
 have e : r.sector = ([83, 80, 74, 76] ++ low 4 r.kind ++ low 8 r.ep) ++ low 8 r.sq ++ (tail r.fs ++ List.replicate (100 - 4 * r.fs.length) 0 ++ low 4 (sum r.body)) := by
  unfold sector
  generalize sum r.body = z
  simp [body, begun]
 rw [e]
 exact rd_at (by simp [low_length]) h

theorem tail_split (fs : List Nat) (i : Nat) (f : Nat) (h : fs[i]? = some f) : tail fs = tail (fs.take i) ++ low 4 f ++ tail (fs.drop (i + 1)) := by
 have hi : i < fs.length := (List.getElem?_eq_some_iff.1 h).1
 have e : fs = fs.take i ++ f :: fs.drop (i + 1) := by
  have h2 : fs[i] = f := (List.getElem?_eq_some_iff.1 h).2
  rw [← h2, List.getElem_cons_drop, List.take_append_drop]
 have e2 : tail fs = tail (fs.take i ++ f :: fs.drop (i + 1)) := by rw [← e]
 rw [e2]
 simp [tail]

theorem rd_field {r : Rec} {i f : Nat} (hi : r.fs[i]? = some f) (hf : f < 4294967296) : rd r.sector (24 + 4 * i) 4 = f := by
 have hl : i < r.fs.length := (List.getElem?_eq_some_iff.1 hi).1
 have e : r.sector = (r.begun ++ tail (r.fs.take i)) ++ low 4 f ++ (tail (r.fs.drop (i + 1)) ++ List.replicate (100 - 4 * r.fs.length) 0 ++ low 4 (sum r.body)) := by
  unfold sector
  generalize sum r.body = z
  unfold body
  rw [tail_split _ _ _ hi]
  simp
 rw [e]
 refine rd_at ?_ hf
 rw [List.length_append, begun_length, tail_length, List.length_take]
 omega

theorem rd_sum {r : Rec} (h : r.fs.length ≤ 25) : rd r.sector 124 4 = sum r.body := by
 have e : r.sector = r.body ++ low 4 (sum r.body) ++ [] := by rw [List.append_nil]; rfl
 rw [e]
 exact rd_at (body_length h) r.sum_lt

end Rec
end Go.Proofs.YtkafkdlgflkjgaaGreat
namespace Go.Proofs.YtkafkdlgflkjgaaGreat
open Crc

def magicB : List Nat := [83, 80, 74, 76]

def numsOk (ep sq : Nat) : Prop := ep ≤ 4611686018427387904 ∧ 1 ≤ sq ∧ sq ≤ 4611686018427387904
instance (ep sq : Nat) : Decidable (numsOk ep sq) := by unfold numsOk; infer_instance

/-- A header. -/
structure Hd where
 ep : Nat
 sq : Nat
 ix : Int
 ct : Int
 mb : Int
 rw' : Int
 esc : Bool
 sm : Nat

/-- A commit. -/
structure Cm where
 ep : Nat
 sq : Nat
 ct : Int
 sm : Nat

/-- A checkpoint. -/
structure Ck where
 ep : Nat
 sq : Nat
 tl : Int

namespace Hd
def Ok (h : Hd) : Prop := numsOk h.ep h.sq ∧ 1 ≤ h.ct ∧ h.ct ≤ 1023 ∧ 0 ≤ h.ix ∧ h.ix < h.ct ∧ 0 ≤ h.mb ∧ h.mb ≤ 15 ∧ 0 ≤ h.rw' ∧ h.rw' ≤ 4095
instance (h : Hd) : Decidable h.Ok := by unfold Ok; infer_instance
def val (h : Hd) : Value := .agg #[.int .u64 (h.ep : Int), .int .u64 (h.sq : Int), .int .i64 h.ix, .int .i64 h.ct, .int .i64 h.mb, .int .i64 h.rw', .bool h.esc, .int .u32 (h.sm : Int)]
def rec' (h : Hd) : Rec := ⟨1, h.ep, h.sq, [h.ix.toNat, h.ct.toNat, h.mb.toNat, h.rw'.toNat, if h.esc then 1 else 0, h.sm]⟩
def enc (h : Hd) : List Nat := if h.Ok then h.rec'.sector else []
def err (h : Hd) : Int := if h.Ok then 0 else 80
end Hd

namespace Cm
def Ok (h : Cm) : Prop := numsOk h.ep h.sq ∧ 1 ≤ h.ct ∧ h.ct ≤ 1023
instance (h : Cm) : Decidable h.Ok := by unfold Ok; infer_instance
def val (h : Cm) : Value := .agg #[.int .u64 (h.ep : Int), .int .u64 (h.sq : Int), .int .i64 h.ct, .int .u32 (h.sm : Int)]
def rec' (h : Cm) : Rec := ⟨2, h.ep, h.sq, [h.ct.toNat, h.sm]⟩
def enc (h : Cm) : List Nat := if h.Ok then h.rec'.sector else []
def err (h : Cm) : Int := if h.Ok then 0 else 80
end Cm

namespace Ck
def Ok (h : Ck) : Prop := numsOk h.ep h.sq ∧ 0 ≤ h.tl ∧ h.tl ≤ 2047
instance (h : Ck) : Decidable h.Ok := by unfold Ok; infer_instance
def val (h : Ck) : Value := .agg #[.int .u64 (h.ep : Int), .int .u64 (h.sq : Int), .int .i64 h.tl]
def rec' (h : Ck) : Rec := ⟨3, h.ep, h.sq, [h.tl.toNat]⟩
def enc (h : Ck) : List Nat := if h.Ok then h.rec'.sector else []
def err (h : Ck) : Int := if h.Ok then 0 else 80
end Ck

/-- What a sector looks like. -/
def kindOf (b : List Nat) : Nat := if b.length = 128 ∧ b.take 4 = magicB ∧ 1 ≤ b.getD 4 0 ∧ b.getD 4 0 ≤ 3 then b.getD 4 0 else 0

/-- The errors that all three have. -/
def lookOf (k : Nat) (b : List Nat) : Int := if b.length ≠ 128 then 4 else if kindOf b ≠ k then 80 else if rd b 124 4 ≠ sum (b.take 124) then 81 else 0

theorem kindOf_le (b : List Nat) : kindOf b ≤ 3 := by
 unfold kindOf
 split
 next h => exact h.2.2.2
 next => decide

/-- Do bytes begin with these four? -/
def begOf (b m : List Nat) : Bool := decide (b.take 4 = m)

theorem kindOf_eq {b : List Nat} (hl : b.length = 128) : kindOf b = if begOf b magicB = true ∧ 1 ≤ b.getD 4 0 ∧ b.getD 4 0 ≤ 3 then b.getD 4 0 else 0 := by
 unfold kindOf begOf
 simp only [hl, true_and, decide_eq_true_eq]

/-- A sector as it is logged, whether it is escaped, the error. -/
def escV (b : List Nat) : List Nat := if b.length = 128 then (if begOf b magicB = true then List.replicate 4 0 ++ b.drop 4 else b) else []
def escB (b : List Nat) : Bool := decide (b.length = 128) && begOf b magicB
def escE (b : List Nat) : Int := if b.length = 128 then 0 else 4

/-- The sector that was logged so, the error. -/
def uneV (b : List Nat) (es : Bool) : List Nat := if b.length = 128 then (if es = true then (if begOf b (List.replicate 4 0) = true then magicB ++ b.drop 4 else []) else (if begOf b magicB = true then [] else b)) else []
def uneE (b : List Nat) (es : Bool) : Int := if b.length = 128 then (if es = true then (if begOf b (List.replicate 4 0) = true then 0 else 80) else (if begOf b magicB = true then 80 else 0)) else 4

/-- A part of bytes. -/
def cut (b : List Nat) (at_ n : Nat) : List Nat := (b.drop at_).take n

theorem cut_len {b : List Nat} {at_ n : Nat} (h : at_ + n ≤ b.length) : (cut b at_ n).length = n := by
 unfold cut
 rw [List.length_take, List.length_drop]
 omega

theorem cut_bs {b : List Nat} (h : Bs b) (at_ n : Nat) : Bs (cut b at_ n) := fun x hx => h x (List.mem_of_mem_drop (List.mem_of_mem_take hx))

theorem low_rd {b : List Nat} {at_ n : Nat} (hb : Bs b) (h : at_ + n ≤ b.length) : low n (rd b at_ n) = cut b at_ n := by
 have k := low_val (cut_bs hb at_ n)
 rw [cut_len h] at k
 exact k

theorem cut_add (b : List Nat) (at_ n m : Nat) : cut b at_ (n + m) = cut b at_ n ++ cut b (at_ + n) m := by
 unfold cut
 rw [List.take_add, List.drop_drop]

theorem cut_all {b : List Nat} {n : Nat} (h : b.length = n) : cut b 0 n = b := by
 unfold cut
 rw [List.drop_zero, ← h, List.take_length]

theorem cut_zero (b : List Nat) (n : Nat) : cut b 0 n = b.take n := by simp [cut]

theorem cut_one {b : List Nat} {i : Nat} (h : i < b.length) : cut b i 1 = [b.getD i 0] := by
 unfold cut
 rw [List.drop_eq_getElem_cons h, List.take_succ_cons, List.take_zero]
 simp [List.getD, List.getElem?_eq_getElem h]

def noughts (n : Nat) : List Nat := List.replicate n 0

/-- The parts of a sector. -/
theorem parts {b : List Nat} (hl : b.length = 128) (n : Nat) (hn : n ≤ 100) : b.take 124 = b.take 4 ++ cut b 4 4 ++ cut b 8 8 ++ cut b 16 8 ++ cut b 24 n ++ cut b (24 + n) (100 - n) ∧ b = b.take 124 ++ cut b 124 4 := by
 have e : b.take 124 = cut b 0 124 := (cut_zero b 124).symm
 constructor
 ·rw [e, show (124 : Nat) = 4 + (4 + (8 + (8 + (n + (100 - n))))) by omega, cut_add, cut_add, cut_add, cut_add, cut_add, cut_zero]
  simp [List.append_assoc]
 ·conv => lhs; rw [← cut_all hl, show (128 : Nat) = 124 + 4 from rfl, cut_add]
  rw [e]

/-- When a record's sector is what it was read of. -/
theorem sector_iff {r : Rec} {b : List Nat} (hl : b.length = 128) (hb : Bs b) (hm : b.take 4 = magicB) (he : r.ep = rd b 8 8) (hs : r.sq = rd b 16 8) (hf : r.fs.length ≤ 25) (hsum : rd b 124 4 = sum (b.take 124)) :
 r.sector = b ↔ low 4 r.kind = cut b 4 4 ∧ Rec.tail r.fs = cut b 24 (4 * r.fs.length) ∧ noughts (100 - 4 * r.fs.length) = cut b (24 + 4 * r.fs.length) (100 - 4 * r.fs.length) := by
 obtain ⟨p1, p2⟩ := parts hl (4 * r.fs.length) (by omega)
 have E : r.body = magicB ++ low 4 r.kind ++ cut b 8 8 ++ cut b 16 8 ++ Rec.tail r.fs ++ noughts (100 - 4 * r.fs.length) := by
  unfold Rec.body Rec.begun noughts
  rw [he, hs, low_rd hb (by omega), low_rd hb (by omega)]
  rfl
 have S : low 4 (sum (b.take 124)) = cut b 124 4 := by rw [← hsum]; exact low_rd hb (by omega)
 have B : r.sector = b ↔ r.body = b.take 124 := by
  constructor
  ·intro h
   have h1 := congrArg (List.take 124) h
   unfold Rec.sector at h1
   rw [List.take_left' (Rec.body_length hf)] at h1
   exact h1
  ·intro h
   unfold Rec.sector
   rw [h, S]
   exact p2.symm
 rw [B, E, p1, hm]
 constructor
 ·intro h
  have h1 := List.append_inj' h (by rw [cut_len (by omega)]; simp [noughts])
  have h2 := List.append_inj' h1.1 (by rw [cut_len (by omega), Rec.tail_length])
  have h3 := List.append_inj' h2.1 rfl
  have h4 := List.append_inj' h3.1 rfl
  have h5 := List.append_inj' h4.1 (by rw [cut_len (by omega), low_length])
  exact ⟨h5.2, h2.2, h1.2⟩
 ·rintro ⟨h1, h2, h3⟩
  rw [h1, h2, h3]

theorem kind_cut {b : List Nat} {k : Nat} (hl : b.length = 128) (hk : b.getD 4 0 = k) (h3 : k ≤ 3) : low 4 k = cut b 4 4 ↔ cut b 5 3 = noughts 3 := by
 rw [show (4 : Nat) = 1 + 3 from rfl, cut_add, show 1 + 3 = 4 from rfl, cut_one (by omega), hk, show 4 + 1 = 5 from rfl]
 have e : low 4 k = [k] ++ noughts 3 := by
  obtain rfl | rfl | rfl | rfl : k = 0 ∨ k = 1 ∨ k = 2 ∨ k = 3 := by omega
  all_goals rfl
 rw [e]
 constructor
 ·intro h; exact (List.append_cancel_left h).symm
 ·intro h; rw [h]

theorem kindOf_parts {b : List Nat} {k : Nat} (h : kindOf b = k) (hk : 1 ≤ k) : b.length = 128 ∧ b.take 4 = magicB ∧ b.getD 4 0 = k := by
 unfold kindOf at h
 split at h
 next g => exact ⟨g.1, g.2.1, h⟩
 next => omega

def Hd.of (b : List Nat) : Hd := ⟨rd b 8 8, rd b 16 8, rd b 24 4, rd b 28 4, rd b 32 4, rd b 36 4, decide (b.getD 40 0 = 1), rd b 44 4⟩
def Cm.of (b : List Nat) : Cm := ⟨rd b 8 8, rd b 16 8, rd b 24 4, rd b 28 4⟩
def Ck.of (b : List Nat) : Ck := ⟨rd b 8 8, rd b 16 8, rd b 24 4⟩

theorem lookOf_zero {b : List Nat} {k : Nat} (h : lookOf k b = 0) : b.length = 128 ∧ kindOf b = k ∧ rd b 124 4 = sum (b.take 124) := by
 unfold lookOf at h
 split at h
 next => omega
 next h1 =>
  split at h
  next => omega
  next h2 =>
   split at h
   next => omega
   next h3 => exact ⟨by omega, by omega, by omega⟩

theorem Ck.of_iff {b : List Nat} (hb : Bs b) (h : lookOf 3 b = 0) : (Ck.of b).rec'.sector = b ↔ cut b 5 3 = noughts 3 ∧ cut b 28 96 = noughts 96 := by
 obtain ⟨_, hk, hs⟩ := lookOf_zero h
 obtain ⟨hl, hm, h4⟩ := kindOf_parts hk (by decide)
 rw [sector_iff (r := (Ck.of b).rec') hl hb hm rfl rfl (show 1 ≤ 25 by decide) hs]
 show low 4 3 = cut b 4 4 ∧ Rec.tail [((rd b 24 4 : Nat) : Int).toNat] = cut b 24 4 ∧ noughts 96 = cut b 28 96 ↔ _
 rw [kind_cut hl h4 (by decide), Int.toNat_natCast]
 have e : Rec.tail [rd b 24 4] = cut b 24 4 := by
  show low 4 (rd b 24 4) ++ [] = _
  rw [List.append_nil, low_rd hb (by omega)]
 simp only [e, true_and, eq_comm (a := noughts 96)]

theorem Cm.of_iff {b : List Nat} (hb : Bs b) (h : lookOf 2 b = 0) : (Cm.of b).rec'.sector = b ↔ cut b 5 3 = noughts 3 ∧ cut b 32 92 = noughts 92 := by
 obtain ⟨_, hk, hs⟩ := lookOf_zero h
 obtain ⟨hl, hm, h4⟩ := kindOf_parts hk (by decide)
 rw [sector_iff (r := (Cm.of b).rec') hl hb hm rfl rfl (show 2 ≤ 25 by decide) hs]
 show low 4 2 = cut b 4 4 ∧ Rec.tail [((rd b 24 4 : Nat) : Int).toNat, rd b 28 4] = cut b 24 8 ∧ noughts 92 = cut b 32 92 ↔ _
 rw [kind_cut hl h4 (by decide), Int.toNat_natCast]
 have e : Rec.tail [rd b 24 4, rd b 28 4] = cut b 24 8 := by
  show low 4 (rd b 24 4) ++ (low 4 (rd b 28 4) ++ []) = _
  rw [List.append_nil, low_rd hb (by omega), low_rd hb (by omega), show (8 : Nat) = 4 + 4 from rfl, cut_add]
 simp only [e, true_and, eq_comm (a := noughts 92)]

theorem flag_cut {b : List Nat} (hl : b.length = 128) : low 4 (if decide (b.getD 40 0 = 1) = true then 1 else 0) = cut b 40 4 ↔ b.getD 40 0 ≤ 1 ∧ cut b 41 3 = noughts 3 := by
 rw [show (4 : Nat) = 1 + 3 from rfl, cut_add, show 1 + 3 = 4 from rfl, cut_one (by omega), show 40 + 1 = 41 from rfl]
 generalize b.getD 40 0 = x
 constructor
 ·intro h
  by_cases hx : x = 1
  ·subst hx
   exact ⟨by decide, (List.append_cancel_left (show [1] ++ noughts 3 = [1] ++ cut b 41 3 from h)).symm⟩
  ·simp only [hx, decide_false, Bool.false_eq_true, if_false] at h
   have h1 : (0 : Nat) :: noughts 3 = x :: cut b 41 3 := h
   have h2 := (List.cons.inj h1)
   exact ⟨by omega, h2.2.symm⟩
 ·rintro ⟨h1, h2⟩
  rw [h2]
  obtain rfl | rfl : x = 0 ∨ x = 1 := by omega
  all_goals rfl

theorem Hd.of_iff {b : List Nat} (hb : Bs b) (h : lookOf 1 b = 0) : (Hd.of b).rec'.sector = b ↔ cut b 5 3 = noughts 3 ∧ b.getD 40 0 ≤ 1 ∧ cut b 41 3 = noughts 3 ∧ cut b 48 76 = noughts 76 := by
 obtain ⟨_, hk, hs⟩ := lookOf_zero h
 obtain ⟨hl, hm, h4⟩ := kindOf_parts hk (by decide)
 rw [sector_iff (r := (Hd.of b).rec') hl hb hm rfl rfl (show 6 ≤ 25 by decide) hs]
 show low 4 1 = cut b 4 4 ∧ Rec.tail [((rd b 24 4 : Nat) : Int).toNat, ((rd b 28 4 : Nat) : Int).toNat, ((rd b 32 4 : Nat) : Int).toNat, ((rd b 36 4 : Nat) : Int).toNat, if decide (b.getD 40 0 = 1) = true then 1 else 0, rd b 44 4] = cut b 24 24 ∧ noughts 76 = cut b 48 76 ↔ _
 rw [kind_cut hl h4 (by decide), Int.toNat_natCast, Int.toNat_natCast, Int.toNat_natCast, Int.toNat_natCast, ← and_assoc (a := b.getD 40 0 ≤ 1), ← flag_cut hl]
 generalize (if decide (b.getD 40 0 = 1) = true then 1 else 0) = z
 have e : Rec.tail [rd b 24 4, rd b 28 4, rd b 32 4, rd b 36 4, z, rd b 44 4] = cut b 24 24 ↔ low 4 z = cut b 40 4 := by
  show low 4 (rd b 24 4) ++ (low 4 (rd b 28 4) ++ (low 4 (rd b 32 4) ++ (low 4 (rd b 36 4) ++ (low 4 z ++ (low 4 (rd b 44 4) ++ []))))) = _ ↔ _
  rw [List.append_nil, low_rd hb (by omega), low_rd hb (by omega), low_rd hb (by omega), low_rd hb (by omega), low_rd hb (by omega), show (24 : Nat) = 4 + (4 + (4 + (4 + (4 + 4)))) from rfl, cut_add, cut_add, cut_add, cut_add, cut_add]
  constructor
  ·intro h
   exact List.append_cancel_right (List.append_cancel_left (List.append_cancel_left (List.append_cancel_left (List.append_cancel_left h))))
  ·intro h
   rw [h]
 rw [e, eq_comm (a := noughts 76)]

theorem cut_take {b : List Nat} {m p n : Nat} (h : p + n ≤ m) : cut (b.take m) p n = cut b p n := by
 unfold cut
 rw [List.drop_take, List.take_take, Nat.min_eq_left (by omega)]

theorem rd_take {b : List Nat} {m p n : Nat} (h : p + n ≤ m) : rd (b.take m) p n = rd b p n := by
 have := cut_take (b := b) h
 unfold cut at this
 unfold rd
 rw [this]

/-- The program's error of a decoding. -/
def decErr (k : Nat) (b : List Nat) (p : Nat) (z ok : Bool) : Int :=
 if lookOf k b ≠ 0 then lookOf k b else if ((decide (cut (b.take 124) 5 3 = noughts 3) && z) && decide (cut (b.take 124) p (124 - p) = noughts (124 - p))) && ok then 0 else 80

def Hd.zero : Hd := ⟨0, 0, 0, 0, 0, 0, false, 0⟩
def Cm.zero : Cm := ⟨0, 0, 0, 0⟩
def Ck.zero : Ck := ⟨0, 0, 0⟩

def Hd.derr (b : List Nat) : Int := if lookOf 1 b ≠ 0 then lookOf 1 b else if (Hd.of b).Ok ∧ (Hd.of b).rec'.sector = b then 0 else 80
def Cm.derr (b : List Nat) : Int := if lookOf 2 b ≠ 0 then lookOf 2 b else if (Cm.of b).Ok ∧ (Cm.of b).rec'.sector = b then 0 else 80
def Ck.derr (b : List Nat) : Int := if lookOf 3 b ≠ 0 then lookOf 3 b else if (Ck.of b).Ok ∧ (Ck.of b).rec'.sector = b then 0 else 80

def Hd.dval (b : List Nat) : Hd := if Hd.derr b = 0 then Hd.of b else Hd.zero
def Cm.dval (b : List Nat) : Cm := if Cm.derr b = 0 then Cm.of b else Cm.zero
def Ck.dval (b : List Nat) : Ck := if Ck.derr b = 0 then Ck.of b else Ck.zero

theorem getD_take {b : List Nat} {m i : Nat} (h : i < m) : (b.take m).getD i 0 = b.getD i 0 := by
 simp [List.getD, h]

theorem Hd.of_take (b : List Nat) : Hd.of (b.take 124) = Hd.of b := by
 unfold Hd.of
 rw [rd_take (by decide), rd_take (by decide), rd_take (by decide), rd_take (by decide), rd_take (by decide), rd_take (by decide), rd_take (by decide), getD_take (by decide)]

theorem Cm.of_take (b : List Nat) : Cm.of (b.take 124) = Cm.of b := by
 unfold Cm.of
 rw [rd_take (by decide), rd_take (by decide), rd_take (by decide), rd_take (by decide)]

theorem Ck.of_take (b : List Nat) : Ck.of (b.take 124) = Ck.of b := by
 unfold Ck.of
 rw [rd_take (by decide), rd_take (by decide), rd_take (by decide)]

theorem ite_iff {p q : Prop} [Decidable p] [Decidable q] (h : p ↔ q) (x y : Int) : (if p then x else y) = if q then x else y := by
 by_cases hp : p
 ·rw [if_pos hp, if_pos (h.1 hp)]
 ·rw [if_neg hp, if_neg (fun k => hp (h.2 k))]

theorem Hd.derr_eq {b : List Nat} (hb : Bs b) : decErr 1 b 48 (decide (cut (b.take 124) 41 3 = noughts 3)) (decide (Hd.of (b.take 124)).Ok && decide ((b.take 124).getD 40 0 ≤ 1)) = Hd.derr b := by
 unfold decErr Hd.derr
 by_cases h : lookOf 1 b = 0
 ·rw [if_neg (show ¬ lookOf 1 b ≠ 0 from fun k => k h), if_neg (show ¬ lookOf 1 b ≠ 0 from fun k => k h)]
  refine ite_iff ?_ _ _
  rw [Hd.of_iff hb h, Hd.of_take, getD_take (by decide), cut_take (by decide), cut_take (by decide), cut_take (by decide)]
  simp only [Bool.and_eq_true, decide_eq_true_eq]
  constructor
  ·rintro ⟨⟨⟨a, b⟩, c⟩, d, e⟩; exact ⟨d, a, e, b, c⟩
  ·rintro ⟨d, a, e, b, c⟩; exact ⟨⟨⟨a, b⟩, c⟩, d, e⟩
 ·rw [if_pos (show lookOf 1 b ≠ 0 from h), if_pos (show lookOf 1 b ≠ 0 from h)]

theorem Cm.derr_eq {b : List Nat} (hb : Bs b) : decErr 2 b 32 true (decide (Cm.of (b.take 124)).Ok) = Cm.derr b := by
 unfold decErr Cm.derr
 by_cases h : lookOf 2 b = 0
 ·rw [if_neg (show ¬ lookOf 2 b ≠ 0 from fun k => k h), if_neg (show ¬ lookOf 2 b ≠ 0 from fun k => k h)]
  refine ite_iff ?_ _ _
  rw [Cm.of_iff hb h, Cm.of_take, cut_take (by decide), cut_take (by decide)]
  simp only [Bool.and_eq_true, decide_eq_true_eq]
  constructor
  ·rintro ⟨⟨⟨a, _⟩, c⟩, d⟩; exact ⟨d, a, c⟩
  ·rintro ⟨d, a, c⟩; exact ⟨⟨⟨a, trivial⟩, c⟩, d⟩
 ·rw [if_pos (show lookOf 2 b ≠ 0 from h), if_pos (show lookOf 2 b ≠ 0 from h)]

theorem Ck.derr_eq {b : List Nat} (hb : Bs b) : decErr 3 b 28 true (decide (Ck.of (b.take 124)).Ok) = Ck.derr b := by
 unfold decErr Ck.derr
 by_cases h : lookOf 3 b = 0
 ·rw [if_neg (show ¬ lookOf 3 b ≠ 0 from fun k => k h), if_neg (show ¬ lookOf 3 b ≠ 0 from fun k => k h)]
  refine ite_iff ?_ _ _
  rw [Ck.of_iff hb h, Ck.of_take, cut_take (by decide), cut_take (by decide)]
  simp only [Bool.and_eq_true, decide_eq_true_eq]
  constructor
  ·rintro ⟨⟨⟨a, _⟩, c⟩, d⟩; exact ⟨d, a, c⟩
  ·rintro ⟨d, a, c⟩; exact ⟨⟨⟨a, trivial⟩, c⟩, d⟩
 ·rw [if_pos (show lookOf 3 b ≠ 0 from h), if_pos (show lookOf 3 b ≠ 0 from h)]

theorem lookOf_in (k : Nat) (b : List Nat) : lookOf k b = 0 ∨ lookOf k b = 4 ∨ lookOf k b = 80 ∨ lookOf k b = 81 := by
 unfold lookOf
 repeat' split
 all_goals simp

theorem Hd.derr_in (b : List Nat) : 0 ≤ Hd.derr b ∧ Hd.derr b ≤ 81 := by
 have := lookOf_in 1 b
 unfold Hd.derr
 repeat' split
 all_goals omega

theorem Cm.derr_in (b : List Nat) : 0 ≤ Cm.derr b ∧ Cm.derr b ≤ 81 := by
 have := lookOf_in 2 b
 unfold Cm.derr
 repeat' split
 all_goals omega

theorem Ck.derr_in (b : List Nat) : 0 ≤ Ck.derr b ∧ Ck.derr b ≤ 81 := by
 have := lookOf_in 3 b
 unfold Ck.derr
 repeat' split
 all_goals omega


theorem sector_take (r : Rec) : r.sector.take 4 = magicB := by
 have e : r.sector = magicB ++ (low 4 r.kind ++ low 8 r.ep ++ low 8 r.sq ++ Rec.tail r.fs ++ List.replicate (100 - 4 * r.fs.length) 0 ++ low 4 (sum r.body)) := by
  unfold Rec.sector
  generalize sum r.body = z
  simp [Rec.body, Rec.begun, magicB]
 rw [e]
 exact List.take_left' rfl

theorem sector_four {r : Rec} (hk : r.kind < 256) : r.sector.getD 4 0 = r.kind := by
 have e : r.sector = magicB ++ (low 4 r.kind ++ low 8 r.ep ++ low 8 r.sq ++ Rec.tail r.fs ++ List.replicate (100 - 4 * r.fs.length) 0 ++ low 4 (sum r.body)) := by
  unfold Rec.sector
  generalize sum r.body = z
  simp [Rec.body, Rec.begun, magicB]
 rw [e, low]
 simp [magicB, List.getD]
 omega

theorem kindOf_sector {r : Rec} (hf : r.fs.length ≤ 25) (h1 : 1 ≤ r.kind) (h3 : r.kind ≤ 3) : kindOf r.sector = r.kind := by
 unfold kindOf
 rw [Rec.sector_length hf, sector_take, sector_four (by omega), if_pos ⟨rfl, rfl, h1, h3⟩]

theorem sector_body {r : Rec} (hf : r.fs.length ≤ 25) : r.sector.take 124 = r.body := by
 unfold Rec.sector
 exact List.take_left' (Rec.body_length hf)

theorem lookOf_sector (k : Nat) {r : Rec} (hf : r.fs.length ≤ 25) (h1 : 1 ≤ r.kind) (h3 : r.kind ≤ 3) : lookOf k r.sector = if r.kind = k then 0 else 80 := by
 unfold lookOf
 rw [if_neg (by rw [Rec.sector_length hf]; simp), kindOf_sector hf h1 h3, Rec.rd_sum hf, sector_body hf]
 by_cases hk : r.kind = k
 ·rw [if_neg (by simp [hk]), if_neg (by simp), if_pos hk]
 ·rw [if_pos hk, if_neg hk]

theorem Hd.of_sector (h : Hd) (ok : h.Ok) (hsm : h.sm < 4294967296) : Hd.of h.rec'.sector = h := by
 obtain ⟨⟨a1, a2, a3⟩, b1, b2, b3, b4, b5, b6, b7, b8⟩ := ok
 have e1 : rd h.rec'.sector 8 8 = h.ep := Rec.rd_ep (show h.ep < _ by omega)
 have e2 : rd h.rec'.sector 16 8 = h.sq := Rec.rd_sq (show h.sq < _ by omega)
 have f0 : rd h.rec'.sector 24 4 = h.ix.toNat := Rec.rd_field (i := 0) rfl (by omega)
 have f1 : rd h.rec'.sector 28 4 = h.ct.toNat := Rec.rd_field (i := 1) rfl (by omega)
 have f2 : rd h.rec'.sector 32 4 = h.mb.toNat := Rec.rd_field (i := 2) rfl (by omega)
 have f3 : rd h.rec'.sector 36 4 = h.rw'.toNat := Rec.rd_field (i := 3) rfl (by omega)
 have f4 : rd h.rec'.sector 40 4 = (if h.esc = true then 1 else 0) := Rec.rd_field (i := 4) rfl (by split <;> decide)
 have f5 : rd h.rec'.sector 44 4 = h.sm := Rec.rd_field (i := 5) rfl hsm
 have hl : h.rec'.sector.length = 128 := Rec.sector_length (show 6 ≤ 25 by decide)
 have hb := Rec.sector_bs h.rec'
 have e40 : decide (h.rec'.sector.getD 40 0 = 1) = h.esc := by
  have k := low_rd (at_ := 40) (n := 4) hb (by omega)
  rw [f4, show (4 : Nat) = 1 + 3 from rfl, cut_add, cut_one (by omega)] at k
  generalize h.rec'.sector.getD 40 0 = x at *
  have k2 : low 4 (if h.esc = true then 1 else 0) = x :: cut h.rec'.sector 41 3 := k
  rcases hes : h.esc with _ | _
  ·rw [hes] at k2
   have := (List.cons.inj (show (0 : Nat) :: [0, 0, 0] = x :: cut h.rec'.sector 41 3 from k2)).1
   subst this
   rfl
  ·rw [hes] at k2
   have := (List.cons.inj (show (1 : Nat) :: [0, 0, 0] = x :: cut h.rec'.sector 41 3 from k2)).1
   subst this
   rfl
 unfold Hd.of
 rw [e1, e2, f0, f1, f2, f3, f5, e40]
 obtain ⟨ep, sq, ix, ct, mb, rw1, es, sm⟩ := h
 simp only at *
 rw [Int.toNat_of_nonneg b3, Int.toNat_of_nonneg (show 0 ≤ ct by omega), Int.toNat_of_nonneg b5, Int.toNat_of_nonneg b7]

theorem Cm.of_sector (h : Cm) (ok : h.Ok) (hsm : h.sm < 4294967296) : Cm.of h.rec'.sector = h := by
 obtain ⟨⟨a1, a2, a3⟩, b1, b2⟩ := ok
 have e1 : rd h.rec'.sector 8 8 = h.ep := Rec.rd_ep (show h.ep < _ by omega)
 have e2 : rd h.rec'.sector 16 8 = h.sq := Rec.rd_sq (show h.sq < _ by omega)
 have f0 : rd h.rec'.sector 24 4 = h.ct.toNat := Rec.rd_field (i := 0) rfl (by omega)
 have f1 : rd h.rec'.sector 28 4 = h.sm := Rec.rd_field (i := 1) rfl hsm
 unfold Cm.of
 rw [e1, e2, f0, f1]
 obtain ⟨ep, sq, ct, sm⟩ := h
 simp only at *
 rw [Int.toNat_of_nonneg (show 0 ≤ ct by omega)]

theorem Ck.of_sector (h : Ck) (ok : h.Ok) : Ck.of h.rec'.sector = h := by
 obtain ⟨⟨a1, a2, a3⟩, b1, b2⟩ := ok
 have e1 : rd h.rec'.sector 8 8 = h.ep := Rec.rd_ep (show h.ep < _ by omega)
 have e2 : rd h.rec'.sector 16 8 = h.sq := Rec.rd_sq (show h.sq < _ by omega)
 have f0 : rd h.rec'.sector 24 4 = h.tl.toNat := Rec.rd_field (i := 0) rfl (by omega)
 unfold Ck.of
 rw [e1, e2, f0]
 obtain ⟨ep, sq, tl⟩ := h
 simp only at *
 rw [Int.toNat_of_nonneg b1]

theorem Hd.back (h : Hd) (ok : h.Ok) (hsm : h.sm < 4294967296) : Hd.derr h.rec'.sector = 0 ∧ Hd.dval h.rec'.sector = h := by
 have e : Hd.derr h.rec'.sector = 0 := by
  unfold Hd.derr
  rw [lookOf_sector 1 (r := h.rec') (show 6 ≤ 25 by decide) (show 1 ≤ 1 by decide) (show 1 ≤ 3 by decide), if_pos (show h.rec'.kind = 1 from rfl), if_neg (by decide), Hd.of_sector h ok hsm, if_pos ⟨ok, rfl⟩]
 exact ⟨e, by unfold Hd.dval; rw [if_pos e, Hd.of_sector h ok hsm]⟩

theorem Cm.back (h : Cm) (ok : h.Ok) (hsm : h.sm < 4294967296) : Cm.derr h.rec'.sector = 0 ∧ Cm.dval h.rec'.sector = h := by
 have e : Cm.derr h.rec'.sector = 0 := by
  unfold Cm.derr
  rw [lookOf_sector 2 (r := h.rec') (show 2 ≤ 25 by decide) (show 1 ≤ 2 by decide) (show 2 ≤ 3 by decide), if_pos (show h.rec'.kind = 2 from rfl), if_neg (by decide), Cm.of_sector h ok hsm, if_pos ⟨ok, rfl⟩]
 exact ⟨e, by unfold Cm.dval; rw [if_pos e, Cm.of_sector h ok hsm]⟩

theorem Ck.back (h : Ck) (ok : h.Ok) : Ck.derr h.rec'.sector = 0 ∧ Ck.dval h.rec'.sector = h := by
 have e : Ck.derr h.rec'.sector = 0 := by
  unfold Ck.derr
  rw [lookOf_sector 3 (r := h.rec') (show 1 ≤ 25 by decide) (show 1 ≤ 3 by decide) (show 3 ≤ 3 by decide), if_pos (show h.rec'.kind = 3 from rfl), if_neg (by decide), Ck.of_sector h ok, if_pos ⟨ok, rfl⟩]
 exact ⟨e, by unfold Ck.dval; rw [if_pos e, Ck.of_sector h ok]⟩

/-- Of another kind it is refused. -/
theorem other_kind {r : Rec} (hf : r.fs.length ≤ 25) (h1 : 1 ≤ r.kind) (h3 : r.kind ≤ 3) : (r.kind ≠ 1 → Hd.derr r.sector = 80) ∧ (r.kind ≠ 2 → Cm.derr r.sector = 80) ∧ (r.kind ≠ 3 → Ck.derr r.sector = 80) := by
 refine ⟨fun h => ?_, fun h => ?_, fun h => ?_⟩
 ·unfold Hd.derr
  rw [lookOf_sector 1 hf h1 h3, if_neg h, if_pos (by decide)]
 ·unfold Cm.derr
  rw [lookOf_sector 2 hf h1 h3, if_neg h, if_pos (by decide)]
 ·unfold Ck.derr
  rw [lookOf_sector 3 hf h1 h3, if_neg h, if_pos (by decide)]

/-- What is read well is sealed. -/
theorem sealed_of {b : List Nat} (r : Rec) (h : r.sector = b) : reg ones b = thr 32 ones := by rw [← h]; exact r.sector_sealed

theorem Hd.good {b : List Nat} (h : Hd.derr b = 0) : reg ones b = thr 32 ones := by
 unfold Hd.derr at h
 split at h
 next k => exact absurd h k
 next k =>
  split at h
  next g => exact sealed_of _ g.2
  next => cases h

theorem Cm.good {b : List Nat} (h : Cm.derr b = 0) : reg ones b = thr 32 ones := by
 unfold Cm.derr at h
 split at h
 next k => exact absurd h k
 next k =>
  split at h
  next g => exact sealed_of _ g.2
  next => cases h

theorem Ck.good {b : List Nat} (h : Ck.derr b = 0) : reg ones b = thr 32 ones := by
 unfold Ck.derr at h
 split at h
 next k => exact absurd h k
 next k =>
  split at h
  next g => exact sealed_of _ g.2
  next => cases h

end Go.Proofs.YtkafkdlgflkjgaaGreat

/-
  Bits of numbers of 32 and 64 bits, and bytes as numbers: no function of the program is named here. By an AI agent.
-/
namespace Go.Proofs.YtkafkdlgflkjgaaGreat
open Go.RowKit
open Crc

theorem and_one (x : Nat) (h : x < 4294967296) : bits .and .u32 (x : Int) 1 = ((x % 2 : Nat) : Int) := by
 have := u32_and_nat x 1 h (by decide)
 rw [Nat.and_one_is_mod] at this
 exact this

theorem xor_poly (x : Nat) (h : x < 4294967296) : bits .xor .u32 (x : Int) 2197175160 = ((x ^^^ poly : Nat) : Int) := u32_xor_nat x poly h (by decide)

theorem not_u32 (x : Nat) (h : x < 4294967296) : bits .xor .u32 IntKind.u32.max (x : Int) = ((x ^^^ ones : Nat) : Int) := by
 have := u32_xor_nat ones x (by decide) h
 rw [Nat.xor_comm x]
 exact this

theorem u32_unsigned : IntKind.u32.signed = false := rfl

end Go.Proofs.YtkafkdlgflkjgaaGreat
namespace Go.Proofs.YtkafkdlgflkjgaaGreat
open Go.RowKit
open Crc

theorem and_15 (x : Nat) (h : x < 4294967296) : bits .and .u32 (x : Int) 15 = ((x % 16 : Nat) : Int) := by
 have := u32_and_nat x 15 h (by decide)
 rw [show (15 : Nat) = 2 ^ 4 - 1 from rfl, Nat.and_two_pow_sub_one_eq_mod] at this
 exact this

theorem sh_double (y : Nat) : sh (2 * y) = y := by
 unfold sh
 rw [if_neg (by omega)]
 omega

/-- Half a byte is shifted out: the rest, and what it adds to it. -/
theorem thr_half (x : Nat) : thr 4 x = x / 16 ^^^ thr 4 (x % 16) := by
 have e : x = (2 * (2 * (2 * (2 * (x / 16))))) ^^^ x % 16 := by
  have h := Nat.two_pow_add_eq_or_of_lt (i := 4) (b := x % 16) (by omega) (x / 16)
  have e2 : 2 ^ 4 * (x / 16) + x % 16 = x := by omega
  rw [e2] at h
  apply Nat.eq_of_testBit_eq
  intro j
  have hj := congrArg (Nat.testBit · j) h
  simp only [Nat.testBit_or] at hj
  rw [hj, Nat.testBit_xor, show 2 * (2 * (2 * (2 * (x / 16)))) = 2 ^ 4 * (x / 16) by omega]
  rw [Nat.testBit_two_pow_mul]
  by_cases h4 : 4 ≤ j
  ·rw [Nat.testBit_lt_two_pow (x := x % 16) (i := j) (Nat.lt_of_lt_of_le (show x % 16 < 2 ^ 4 by omega) (Nat.pow_le_pow_right (by decide) h4))]
   simp
  ·simp [h4]
 have k := congrArg (thr 4) e
 rw [thr_xor] at k
 rw [k]
 congr 1
 show thr 3 (sh _) = _
 rw [sh_double]
 show thr 2 (sh _) = _
 rw [sh_double]
 show thr 1 (sh _) = _
 rw [sh_double]
 show thr 0 (sh _) = _
 rw [sh_double]
 rfl

theorem thr_byte (x : Nat) : thr 8 x = thr 4 (thr 4 x) := thr_add 4 4 x

set_option maxHeartbeats 400000 in
theorem shift_any (n k : Nat) (w : World) (hn : n < 4294967296) (hk : k ≤ 1000000) :
 Calls Tryz.prog 252 #[.int .u32 n, .int .i64 k] w fun e w' => e = .returned (.int .u32 (thr k n)) ∧ w = w' := by
 go_enter Tryz.func252, Tryz.ntmps252
 go_wp2_with fail
 go_loop [0, 7] (fun v i => ∃ j : Nat, j ≤ k ∧ i = .int .i64 j ∧ v = .int .u32 (thr j n)) (fun _ i => k - (intOf i).toNat)
 case atStart => exact ⟨0, Nat.zero_le _, rfl, rfl⟩
 case round =>
  obtain ⟨j, hj, rfl, rfl⟩ := hrel
  by_cases hlt : j < k
  ·have hx := thr_lt j hn
   have hs := Lib.hid (thr_succ j n)
   generalize thr j n = x at *
   have h1 := and_one x hx
   have h2 := xor_poly (x / 2) (by omega)
   rw [Int.natCast_ediv, show ((2 : Nat) : Int) = 2 from rfl] at h2
   by_cases ho : x % 2 = 1
   ·rw [ho] at h1
    have hv : Hid (sh x = x / 2 ^^^ poly) := by show _ = _; unfold sh; rw [if_pos ho]
    go_wp2_with fail
    exact ⟨⟨j + 1, by omega, by go_num, by rw [hs.out, hv.out]⟩, by simp [intOf]; omega⟩
   ·rw [show x % 2 = 0 by omega] at h1
    have hv : Hid (sh x = x / 2) := by show _ = _; unfold sh; rw [if_neg ho]
    go_wp2_with fail
    exact ⟨⟨j + 1, by omega, by go_num, by rw [hs.out, hv.out]; rfl⟩, by simp [intOf]; omega⟩
  ·obtain rfl : j = k := by omega
   go_wp2_with fail
   go_ret
   exact ⟨rfl, rfl⟩

/-- The table of half bytes lies in block g. -/
structure Tab (w : World) (g : Nat) : Prop where
 lt : g < w.heap.size
 cell : ∀ i, i < 16 → w.cell? ⟨g, i, none⟩ = some (.int .u32 ((thr 4 i : Nat) : Int))

theorem Tab.chg {w w' : World} {g : Nat} {s : List Nat} (h : Tab w g) (c : Chg s w w') (hs : g ∉ s) : Tab w' g :=
 ⟨Nat.lt_of_lt_of_le h.lt c.size, fun i hi => (c.cell (p := ⟨g, i, none⟩) h.lt hs).trans (h.cell i hi)⟩

set_option maxHeartbeats 400000 in
theorem take_any (g x b : Nat) (w : World) (h : Tab w g) (hx : x < 4294967296) (hb : b < 256) :
 Calls Tryz.prog 221 #[.pointer (some ⟨g, 0, none⟩), .int .u32 x, .int .u8 b] w fun e w' => e = .returned (.int .u32 (thr 8 (x ^^^ b))) ∧ w = w' := by
 have hxb := u32_xor_nat x b hx (by omega)
 have hyl : x ^^^ b < 4294967296 := Nat.xor_lt_two_pow (n := 32) hx (byte_lt hb)
 have HT := Lib.hid (thr_byte (x ^^^ b))
 have hb0 : (0 : Int) ≤ b := Int.natCast_nonneg _
 have hb1 : (b : Int) < 256 := by omega
 generalize x ^^^ b = y at *
 have h1 := and_15 y hyl
 have c1 := h.cell (y % 16) (by omega)
 have hm0 : (0 : Int) ≤ ((y % 16 : Nat) : Int) := Int.natCast_nonneg _
 have hm1 : ((y % 16 : Nat) : Int) < 16 := by omega
 have HZ := Lib.hid (thr_half y)
 have ht1 := thr_lt 4 (n := y % 16) (by omega)
 have hx1 := u32_xor_nat (y / 16) (thr 4 (y % 16)) (by omega) ht1
 rw [← HZ.out, Int.natCast_ediv, show ((16 : Nat) : Int) = 16 from rfl] at hx1
 have hzl := thr_lt 4 hyl
 generalize thr 4 (y % 16) = p at *
 generalize thr 4 y = z at *
 have h2 := and_15 z hzl
 have c2 := h.cell (z % 16) (by omega)
 have hn0 : (0 : Int) ≤ ((z % 16 : Nat) : Int) := Int.natCast_nonneg _
 have hn1 : ((z % 16 : Nat) : Int) < 16 := by omega
 have HY := Lib.hid (thr_half z)
 have ht2 := thr_lt 4 (n := z % 16) (by omega)
 have hx2 := u32_xor_nat (z / 16) (thr 4 (z % 16)) (by omega) ht2
 rw [← HY.out, Int.natCast_ediv, show ((16 : Nat) : Int) = 16 from rfl] at hx2
 clear HZ h
 generalize thr 4 (z % 16) = q at *
 generalize y % 16 = ym at *
 generalize z % 16 = zm at *
 go_enter Tryz.func221, Tryz.ntmps221
 go_wp2_with fail
 go_ret
 exact ⟨by rw [HT.out]; rfl, rfl⟩


/-- A new table, in a block of its own. -/
def Tabled (w : World) (e : Ending) (w' : World) : Prop := ∃ g, e = .returned (.pointer (some ⟨g, 0, none⟩)) ∧ Hid (Tab w' g) ∧ Hid (Chg [] w w') ∧ w.heap.size ≤ g

/-- The columns as far as the k-th are there, the others lie open. -/
structure Upto (w : World) (g n : Nat) (e : TypeId) (f : Nat → Nat) (k : Nat) : Prop where
 blk : ∃ vs : List Value, vs.length = n ∧ Blk w g e vs ∧ ∀ i, i < k → vs[i]? = some (.int .u32 ((f i : Nat) : Int))

theorem Upto.cell {w : World} {g n k : Nat} {e : TypeId} {f : Nat → Nat} (h : Upto w g n e f k) {i : Nat} (hi : i < k) : w.cell? ⟨g, i, none⟩ = some (.int .u32 ((f i : Nat) : Int)) := by
 obtain ⟨vs, _, hb, hv⟩ := h.blk
 exact hb.cell (hv i hi)

theorem Upto.lt {w : World} {g n k : Nat} {e : TypeId} {f : Nat → Nat} (h : Upto w g n e f k) : g < w.heap.size := by
 obtain ⟨vs, _, hb, _⟩ := h.blk
 exact hb.lt

theorem Upto.free {w : World} {g n k : Nat} {e : TypeId} {f : Nat → Nat} (h : Upto w g n e f k) (i : Nat) : w.frozen? ⟨g, i, none⟩ = false := by
 obtain ⟨vs, _, hb, _⟩ := h.blk
 exact hb.free i

theorem Upto.open {w : World} {g n k : Nat} {e : TypeId} {f : Nat → Nat} (h : Upto w g n e f k) {i : Nat} (hi : i < n) : ∃ u, w.cell? ⟨g, i, none⟩ = some u := by
 obtain ⟨vs, hl, hb, _⟩ := h.blk
 exact ⟨_, hb.cell (List.getElem?_eq_getElem (by omega))⟩

theorem Upto.step {w : World} {g n k : Nat} {e : TypeId} {f : Nat → Nat} (h : Upto w g n e f k) (hk : k < n) : Upto (w.setCell ⟨g, k, none⟩ (.int .u32 ((f k : Nat) : Int))) g n e f (k + 1) := by
 obtain ⟨vs, hl, hb, hv⟩ := h.blk
 refine ⟨_, by rw [List.length_set]; exact hl, hb.set k _, fun i hi => ?_⟩
 by_cases hik : i = k
 ·subst hik
  rw [List.getElem?_set_self (by omega)]
 ·rw [List.getElem?_set_ne (by omega)]
  exact hv i (by omega)

theorem Upto.chg {w w' : World} {g n k : Nat} {e : TypeId} {f : Nat → Nat} {s : List Nat} (h : Upto w g n e f k) (c : Chg s w w') (hs : g ∉ s) : Upto w' g n e f k := by
 obtain ⟨vs, hl, hb, hv⟩ := h.blk
 exact ⟨vs, hl, hb.chg c hs, hv⟩

set_option maxHeartbeats 400000 in
set_option maxRecDepth 100000 in
theorem table_any (w : World) : Calls Tryz.prog 220 #[] w (Tabled w) := by
 go_enter Tryz.func220, Tryz.ntmps220
 go_wp2_with fail
 go_loopw [3] (fun i wr => ∃ k : Nat, k ≤ 16 ∧ i = .int .i64 k ∧ Hid (Upto wr w.heap.size 16 333 (thr 4) k) ∧ Hid (Chg [] w wr)) (fun i _ => 16 - (intOf i).toNat)
 case atStart => exact ⟨0, Nat.zero_le _, rfl, ⟨⟨List.replicate 16 (.int .u32 0), rfl, Blk.made w _ _, fun i hi => by omega⟩⟩, (Chg.refl _ _).alloc _⟩
 case round =>
  obtain ⟨k, hk, rfl, U, D⟩ := hrel
  by_cases hlt : k < 16
  ·have f1 := U.out.free k
   obtain ⟨u, hu⟩ := U.out.open hlt
   have hk0 : (0 : Int) ≤ k := Int.natCast_nonneg _
   have hk1 : (k : Int) < 16 := by omega
   have ht := shift_any k 4 wr (by omega) (by decide)
   go_wp2_with fail
   refine ht.mono ?_
   rintro e w' ⟨rfl, rfl⟩
   go_wp2_with fail
   exact ⟨⟨k + 1, by omega, by go_num, U.out.step hlt, D.out.setCell (.inr (Nat.le_refl _)) _⟩, by simp [intOf]; omega⟩
  ·obtain rfl : k = 16 := by omega
   go_wp2_with fail
   go_ret
   exact ⟨w.heap.size, rfl, ⟨U.out.lt, fun i hi => U.out.cell hi⟩, D, Nat.le_refl _⟩

end Go.Proofs.YtkafkdlgflkjgaaGreat
namespace Go.Proofs.YtkafkdlgflkjgaaGreat
open Go.RowKit
open Crc

set_option maxHeartbeats 1000000 in
set_option maxRecDepth 100000 in
theorem more_any (s : Nat) (v : Value) (xs : List Int) (w : World) (hs : s < 4294967296) (h : Sl w v xs) (hby : By xs) (hbig : xs.length ≤ 140737488355328) :
 Calls Tryz.prog 162 #[.int .u32 s, v] w fun e w' => e = .returned (.int .u32 (more s (nats xs))) ∧ Hid (Chg [] w w') := by
 have H0 := Lib.hid h
 have HB := Lib.hid hby
 clear h hby
 have hsg := u32_unsigned
 have hm := not_u32 s hs
 go_enter Tryz.func162, Tryz.ntmps162
 go_wp2_with fail
 refine (table_any w).mono ?_
 rintro e w1 ⟨t, rfl, T, D, -⟩
 have H : Hid (Sl w1 v xs) := H0.out.chg D.out (fun b _ => by simp)
 obtain ⟨ao, c, rfl⟩ := H.out.slice
 clear H0
 go_wp2_with fail
 clear hm
 go_loop [6, 14] (fun v i => ∃ k : Nat, k ≤ xs.length ∧ i = .int .i64 k ∧ v = .int .u32 (reg (s ^^^ ones) ((nats xs).take k))) (fun _ i => xs.length - (intOf i).toNat)
 case atStart => exact ⟨0, Nat.zero_le _, rfl, rfl⟩
 case round =>
  obtain ⟨k, hk, rfl, rfl⟩ := hrel
  have hr : reg (s ^^^ ones) ((nats xs).take k) < 4294967296 := reg_lt (Nat.xor_lt_two_pow (n := 32) hs (by decide)) (fun b hb => nats_bs HB.out b (List.mem_of_mem_take hb))
  by_cases hlt : k < xs.length
  ·have L : ∃ g o, ao = some ⟨g, o, none⟩ ∧ w1.cell? ⟨g, o + k, none⟩ = some (.int .u8 (xs.getD k 0)) := by
    rcases H.out with ⟨rfl, _⟩ | ⟨g, o, c', hv, hb, hc⟩
    ·simp at hlt
    ·obtain ⟨rfl, rfl⟩ : ao = some ⟨g, o, none⟩ ∧ c = c' := by simpa using hv
     exact ⟨g, o, rfl, hc k hlt⟩
   obtain ⟨g, o, rfl, hcell⟩ := L
   obtain ⟨y, hy, hyl, hyt⟩ := nats_get HB.out hlt
   rw [hy] at hcell
   have HS := Lib.hid (show reg (s ^^^ ones) ((nats xs).take (k + 1)) = thr 8 (reg (s ^^^ ones) ((nats xs).take k) ^^^ y) by rw [hyt, reg_snoc])
   clear hy hyt
   generalize reg (s ^^^ ones) ((nats xs).take k) = x at *
   have ht := take_any t x y w1 T.out hr hyl
   have hk0 : (0 : Int) ≤ k := Int.natCast_nonneg _
   have hk1 : (k : Int) < xs.length := by omega
   go_wp2_with fail
   refine ht.mono ?_
   rintro e w' ⟨rfl, rfl⟩
   go_wp2_with fail
   exact ⟨⟨k + 1, by omega, by go_num, by rw [HS.out]⟩, by simp [intOf]; omega⟩
  ·obtain rfl : k = xs.length := by omega
   have hl : (nats xs).length = xs.length := by simp [nats]
   rw [← hl, List.take_length] at hr ⊢
   have HM := Lib.hid (show more s (nats xs) = reg (s ^^^ ones) (nats xs) ^^^ ones from rfl)
   generalize reg (s ^^^ ones) (nats xs) = x at *
   have hm := not_u32 x hr
   rw [hl]
   go_wp2_with fail
   go_ret
   exact ⟨by rw [HM.out]; rfl, D⟩

theorem sum_any (v : Value) (xs : List Int) (w : World) (h : Sl w v xs) (hby : By xs) (hbig : xs.length ≤ 140737488355328) :
 Calls Tryz.prog 161 #[v] w fun e w' => e = .returned (.int .u32 (sum (nats xs))) ∧ Hid (Chg [] w w') := by
 have hm := more_any 0 v xs w (by decide) h hby hbig
 clear h hby hbig
 go_enter Tryz.func161, Tryz.ntmps161
 go_wp2_with fail
 refine hm.mono ?_
 rintro e w' ⟨rfl, C⟩
 go_wp2_with fail
 go_ret
 exact ⟨rfl, C⟩

end Go.Proofs.YtkafkdlgflkjgaaGreat

/-
  Bays: what is as it was, and bays without trip and wear. No function of the program is named here. By an AI agent.
-/
namespace Go.Proofs.YtkafkdlgflkjgaaGreat
open Go.RowKit
namespace Bay

/-! ### other slots -/

theorem pushErr_is {b : Bay} {s : Int} (h : b.pushErr s = 0) : b.is s = true := by
 unfold pushErr at h
 split at h
 ·cases h
 ·rename_i h1
  simpa using h1

theorem swapErr_is {b : Bay} {s n : Int} (h : b.swapErr s n = 0) : b.is s = true := by
 unfold swapErr at h
 split at h
 ·cases h
 ·rename_i h1
  cases hb : b.is s with
  | true => rfl
  | false => exact absurd (.inl hb) h1

theorem loadErr_is {b : Bay} {s : Int} {x : List Nat} (h : b.loadErr s x = 0) : b.is s = true := by
 unfold loadErr at h
 split at h
 ·cases h
 ·rename_i h1
  simpa using h1

/-! ### caches and counts -/

theorem Low.same {k : Nat} {b c : Bay} (h : Low k b) (hd : ∀ s d, c.dev s = some d → ∃ e, b.dev s = some e ∧ d.disk.cache.length ≤ e.disk.cache.length) (h1 : c.reads = b.reads) (h2 : c.writes = b.writes) (h3 : c.flushes = b.flushes) : Low k c :=
 ⟨fun s d hs => by
  obtain ⟨e, he, hl⟩ := hd s d hs
  exact Nat.le_trans hl (h.caches s e he), by rw [h1]; exact h.reads, by rw [h2]; exact h.writes, by rw [h3]; exact h.flushes⟩

theorem Low.fail {k : Nat} {b : Bay} (h : Low k b) (s : Int) : Low k (b.fail s) := by
 unfold Bay.fail
 split
 ·rename_i d hd
  exact h.setIn (dev_is hd) (by simp [Dev.lay, Dk.fail])
 ·exact h

theorem Low.wear {k : Nat} {b : Bay} (h : Low k b) (s n : Int) : Low k (b.wear s n) := by
 unfold Bay.wear
 split
 ·exact h
 ·split
  ·rename_i d hd
   exact h.setIn (dev_is hd) (show d.disk.cache.length ≤ k from h.caches _ _ hd)
  ·exact h

theorem Low.turn {k : Nat} {b : Bay} {s : Int} {f : Slot → Slot} (h : Low k b) (hs : b.is s = true) (hf : ∀ x, b.slots[s.toNat]? = some x → ∀ d, (f x).inn = some d → d.disk.cache.length ≤ k) : Low k (b.turn s f) := by
 refine ⟨fun r d hd => ?_, h.reads, h.writes, h.flushes⟩
 by_cases hr : s = r
 ·subst hr
  obtain ⟨x, hx, e, _⟩ := turn_same (f := f) hs
  rw [e] at hd
  exact hf x hx d hd
 ·rw [turn_other hs hr] at hd
  exact h.caches r d hd

theorem slot_dev {b : Bay} {s : Int} {x : Slot} (hs : b.is s = true) (h : b.slots[s.toNat]? = some x) : b.dev s = x.inn := by
 unfold dev
 rw [if_pos hs, h]
 rfl

theorem Low.push {k : Nat} {b : Bay} (h : Low k b) (s : Int) : Low k (b.push s) := by
 unfold Bay.push
 split
 ·rename_i h0
  exact h.turn (pushErr_is h0) (fun x hx d hd => h.caches s d (by rw [slot_dev (pushErr_is h0) hx]; exact hd))
 ·exact h

theorem Low.swap {k : Nat} {b : Bay} (h : Low k b) (s n : Int) : Low k (b.swap s n) := by
 unfold Bay.swap
 split
 ·rename_i h0
  exact h.setIn (swapErr_is h0) (by simp [Dk.new])
 ·exact h

theorem Low.load {k : Nat} {b : Bay} (h : Low k b) (s : Int) (x : List Nat) : Low k (b.load s x) := by
 unfold Bay.load
 split
 ·rename_i h0
  exact h.setIn (loadErr_is h0) (by simp [Dk.load])
 ·exact h

theorem Low.tripped {k : Nat} {b : Bay} (h : Low k b) (n : Int) : Low k (b.tripped n) := by
 unfold Bay.tripped
 split
 ·exact ⟨h.caches, h.reads, h.writes, h.flushes⟩
 ·exact h

theorem cut_len (b : Bay) (keeps : List (List Bool)) : (b.cut keeps).slots.length = b.slots.length := by simp [cut]

theorem cut_is (b : Bay) (keeps : List (List Bool)) (s : Int) : (b.cut keeps).is s = b.is s := by unfold is; rw [cut_len]

theorem cut_dev {b : Bay} (keeps : List (List Bool)) {s : Nat} (hs : s < b.slots.length) : (b.cut keeps).dev s = (cutSlot keeps s b.slots[s]).inn := by
 unfold dev
 rw [cut_is, is_nat b hs, if_pos rfl]
 simp [cut, hs]

/-- Disks that come have nothing in their caches. -/
def Clean (b : Bay) : Prop := ∀ x ∈ b.slots, ∀ d, x.aside = some d ∨ x.coming = some d → d.disk.cache = []

theorem Low.cut {k : Nat} {b : Bay} (h : Low k b) (hc : Clean b) (keeps : List (List Bool)) : Low k (b.cut keeps) := by
 refine ⟨fun r d hd => ?_, h.reads, h.writes, h.flushes⟩
 have hr := dev_is hd
 rw [cut_is] at hr
 obtain ⟨i, rfl, hi⟩ := is_some hr
 rw [cut_dev keeps hi] at hd
 unfold cutSlot at hd
 split at hd
 ·rename_i c hcom
  obtain rfl : c = d := by simpa using hd
  rw [hc _ (List.getElem_mem hi) c (.inr hcom)]
  simp
 ·rename_i hcom
  simp only at hd
  cases hin : b.slots[i].inn with
  | none => rw [hin] at hd; cases hd
  | some e =>
    rw [hin] at hd
    obtain rfl : e.lay (e.disk.crash (keeps.getD i [])) = d := by simpa using hd
    have h1 : b.dev i = some e := by
     rw [slot_dev (x := b.slots[i]) hr (by rw [Int.toNat_natCast]; exact List.getElem?_eq_getElem hi), hin]
    exact Nat.le_trans (crash_cache _ _) (h.caches _ _ h1)

/-! ### bays without trip and wear -/

structure Calm (b : Bay) : Prop where
 lit : b.dark = false
 trip : b.trip = none
 wear : ∀ s d, b.dev s = some d → d.wear = none

theorem Calm.err {b : Bay} (h : Calm b) (s : Int) : b.startErr s = b.there s := by
 unfold startErr there
 rw [h.lit, h.trip]
 simp

theorem Calm.step {b : Bay} (h : Calm b) {s : Int} {d : Dev} (hd : b.dev s = some d) : d.step = d := by
 unfold Dev.step
 rw [h.wear s d hd]

theorem Calm.asked {b : Bay} (h : Calm b) {s : Int} {d : Dev} (hd : b.dev s = some d) : b.asked s = d := by
 unfold Bay.asked
 rw [hd]
 exact h.step hd

theorem there_ok {b : Bay} {s : Int} {d : Dev} (hd : b.dev s = some d) : b.there s = 0 := by
 unfold there
 rw [dev_is hd, hd]
 simp

theorem Calm.setIn {b : Bay} (h : Calm b) {s : Int} (hs : b.is s = true) {d : Dev} (hd : d.wear = none) (what : Nat) : Calm ((b.counted what).setIn s d) := by
 refine ⟨h.lit, ?_, fun r e he => ?_⟩
 ·show b.trip.map (· - 1) = none
  rw [h.trip]
  rfl
 ·by_cases hr : s = r
  ·subst hr
   rw [setIn_same (b := b.counted what) hs] at he
   obtain rfl : d = e := by simpa using he
   exact hd
  ·rw [setIn_other (b := b.counted what) hs hr] at he
   exact h.wear r e he

theorem Calm.read {b : Bay} (h : Calm b) {s : Int} {d : Dev} (hd : b.dev s = some d) : Calm (b.read s) ∧ (∀ r, (b.read s).dev r = b.dev r) ∧ (∀ at_, b.readVal s at_ = d.disk.readVal at_ ∧ b.readErr s at_ = d.disk.check at_) := by
 have e0 : b.startErr s = 0 := by rw [h.err, there_ok hd]
 have e1 : b.read s = (b.counted 1).setIn s d := by
  unfold Bay.read Bay.start
  rw [dev_is hd, h.lit, h.trip, hd]
  simp [h.step hd]
 refine ⟨by rw [e1]; exact h.setIn (dev_is hd) (h.wear s d hd) 1, fun r => ?_, fun at_ => ⟨by unfold readVal; rw [if_pos e0, h.asked hd], by unfold readErr; rw [if_pos e0, h.asked hd]⟩⟩
 rw [e1]
 by_cases hr : s = r
 ·subst hr
  rw [setIn_same (b := b.counted 1) (dev_is hd), hd]
 ·rw [setIn_other (b := b.counted 1) (dev_is hd) hr]
  rfl

theorem Calm.write {b : Bay} (h : Calm b) {s : Int} {d : Dev} (hd : b.dev s = some d) (at_ : Int) (x : List Nat) : Calm (b.write s at_ x) ∧ (b.write s at_ x).dev s = some (d.lay (d.disk.write at_ x)) ∧ b.writeErr s at_ x = d.disk.writeErr at_ x := by
 have e0 : b.startErr s = 0 := by rw [h.err, there_ok hd]
 have e1 : b.write s at_ x = (b.counted 2).setIn s (d.lay (d.disk.write at_ x)) := by
  unfold Bay.write
  rw [if_pos e0, h.asked hd]
 refine ⟨by rw [e1]; exact h.setIn (d := d.lay (d.disk.write at_ x)) (dev_is hd) (h.wear s d hd) 2, by rw [e1]; exact setIn_same (b := b.counted 2) (dev_is hd), by unfold writeErr; rw [if_pos e0, h.asked hd]⟩

theorem Calm.flush {b : Bay} (h : Calm b) {s : Int} {d : Dev} (hd : b.dev s = some d) : Calm (b.flush s) ∧ (b.flush s).dev s = some (d.lay d.disk.flush) ∧ b.flushErr s = d.disk.flushErr := by
 have e0 : b.startErr s = 0 := by rw [h.err, there_ok hd]
 have e1 : b.flush s = (b.counted 3).setIn s (d.lay d.disk.flush) := by
  unfold Bay.flush
  rw [if_pos e0, h.asked hd]
 refine ⟨by rw [e1]; exact h.setIn (d := d.lay d.disk.flush) (dev_is hd) (h.wear s d hd) 3, by rw [e1]; exact setIn_same (b := b.counted 3) (dev_is hd), by unfold flushErr; rw [if_pos e0, h.asked hd]⟩

theorem new_dev (sizes : List Int) (s : Nat) (h : s < sizes.length) : (Bay.new sizes).dev s = (slotOf sizes[s]).inn := by
 unfold dev
 rw [is_nat _ (by simp [Bay.new]; exact h), if_pos rfl]
 simp [Bay.new, h]

theorem new_low (sizes : List Int) : Low 0 (Bay.new sizes) := by
 refine ⟨fun s d hd => ?_, Nat.le_refl _, Nat.le_refl _, Nat.le_refl _⟩
 obtain ⟨i, rfl, hi⟩ := is_some (dev_is hd)
 have hi2 : i < sizes.length := by simpa [Bay.new] using hi
 rw [new_dev sizes i hi2] at hd
 unfold slotOf at hd
 simp only at hd
 split at hd
 ·cases hd
 ·obtain rfl : _ = d := by simpa using hd
  simp [Dk.new]

end Bay
end Go.Proofs.YtkafkdlgflkjgaaGreat

/-
  Two lists of bytes that are the same: SameBytes says so. By an AI agent.
-/
namespace Go.Proofs.YtkafkdlgflkjgaaGreat
open Go.RowKit

set_option maxHeartbeats 400000 in
theorem same_true (va vb : Value) (xs : List Int) (w : World) (ha : Sl w va xs) (hb : Sl w vb xs) (hbig : xs.length ≤ 140737488355328) :
 Calls Tryz.prog 47 #[va, vb] w fun e w' => e = .returned (.bool true) ∧ ∃ q, w' = w.drewN q := by
 obtain ⟨ao, ac, rfl⟩ := ha.slice
 obtain ⟨bo, bc, rfl⟩ := hb.slice
 have HA := Lib.hid ha
 have HB := Lib.hid hb
 clear ha hb
 go_enter Tryz.func47, Tryz.ntmps47
 go_wp2
 go_loopw [5] (fun i wr => ∃ k : Nat, k ≤ xs.length ∧ i = .int .i64 k ∧ ∃ q, wr = w.drewN q) (fun i _ => xs.length - (intOf i).toNat)
 case atStart => exact ⟨0, Nat.zero_le _, rfl, 0, rfl⟩
 case round =>
  obtain ⟨k, hk, rfl, q, rfl⟩ := hrel
  by_cases hlt : k < xs.length
  ·have LA : ∃ g o, ao = some ⟨g, o, none⟩ ∧ w.cell? ⟨g, o + k, none⟩ = some (.int .u8 (xs.getD k 0)) := by
    rcases HA.out with ⟨rfl, _⟩ | ⟨g, o, c', hv, hb, hc⟩
    ·simp at hlt
    ·obtain ⟨rfl, rfl⟩ : ao = some ⟨g, o, none⟩ ∧ ac = c' := by simpa using hv
     exact ⟨g, o, rfl, hc k hlt⟩
   have LB : ∃ g o, bo = some ⟨g, o, none⟩ ∧ w.cell? ⟨g, o + k, none⟩ = some (.int .u8 (xs.getD k 0)) := by
    rcases HB.out with ⟨rfl, _⟩ | ⟨g, o, c', hv, hb, hc⟩
    ·simp at hlt
    ·obtain ⟨rfl, rfl⟩ : bo = some ⟨g, o, none⟩ ∧ bc = c' := by simpa using hv
     exact ⟨g, o, rfl, hc k hlt⟩
   obtain ⟨g, o, rfl, c1⟩ := LA
   obtain ⟨g2, o2, rfl, c2⟩ := LB
   generalize xs.getD k 0 = x at *
   have hi0 : (0 : Int) ≤ k := Int.natCast_nonneg _
   have hi1 : (k : Int) < xs.length := by omega
   go_wp2_with fail
   go_quiet (fail)
   go_wp2
   exact ⟨⟨k + 1, by omega, by go_num, _, rfl⟩, by simp [intOf]; omega⟩
  ·go_wp2
   go_ret
   exact ⟨rfl, _, rfl⟩

end Go.Proofs.YtkafkdlgflkjgaaGreat
