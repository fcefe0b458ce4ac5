/-
  A script's calls, one behind the other, on a packer and on a reader. No function of the program is named here. By an AI agent.
-/
import Derived.Test.YtbinoailpceonaaOpsReads
namespace Go.Proofs.Ytbinoailpceonaa
open Go.RowKit

def PS.run (s : PS) (ds : List OpD) : PS := ds.foldl (fun s d => s.put d.bytes) s

theorem PS.run_snoc (s : PS) (ds : List OpD) (d : OpD) : s.run (ds ++ [d]) = (s.run ds).put d.bytes := by simp [PS.run]
theorem PS.run_append (s : PS) (ds es : List OpD) : s.run (ds ++ es) = (s.run ds).run es := by simp [PS.run]

theorem take_snoc {α : Type} {l : List α} {k : Nat} {d : α} (h : l[k]? = some d) : l.take (k + 1) = l.take k ++ [d] := by
  obtain ⟨hk, rfl⟩ := List.getElem?_eq_some_iff.1 h
  exact List.take_succ_eq_append_getElem hk

theorem PS.put_bad {s : PS} (h : s.bad ≠ 0) (xs : List Int) : s.put xs = s := by
  unfold PS.put
  rw [if_neg h]

theorem PS.run_bad : ∀ (ds : List OpD) {s : PS}, s.bad ≠ 0 → s.run ds = s
  | [], _, _ => rfl
  | d :: r, s, h => by
    show (s.put d.bytes).run r = s
    rw [PS.put_bad h]
    exact PS.run_bad r h

/-- What has been put stays. -/
structure PS.on (s t : PS) : Prop where
  len : t.bs.length = s.bs.length
  pos : s.pos ≤ t.pos
  le : t.pos ≤ t.bs.length
  pre : t.bs.take s.pos = s.bs.take s.pos

theorem PS.on_refl {s : PS} (h : s.pos ≤ s.bs.length) : s.on s := ⟨rfl, Nat.le_refl _, h, rfl⟩

theorem PS.on_trans {s t u : PS} (h : s.on t) (k : t.on u) : s.on u :=
  ⟨k.len.trans h.len, Nat.le_trans h.pos k.pos, k.le, by
    have := congrArg (List.take s.pos) k.pre
    rw [List.take_take, List.take_take, Nat.min_eq_left h.pos] at this
    rw [this, h.pre]⟩

theorem PS.on_put {s : PS} (h : s.pos ≤ s.bs.length) (xs : List Int) : s.on (s.put xs) := by
  unfold PS.put
  by_cases h0 : s.bad = 0
  · rw [if_pos h0]
    by_cases h1 : s.pos + xs.length ≤ s.bs.length
    · rw [if_pos h1]
      have hl := lay_length h1
      refine ⟨hl, Nat.le_add_right _ _, by simp only [hl]; exact h1, ?_⟩
      simp only [lay, List.append_assoc]
      rw [List.take_append_of_le_length (by simp; omega), List.take_take, Nat.min_self]
    · rw [if_neg h1]
      exact ⟨rfl, Nat.le_refl _, h, rfl⟩
  · rw [if_neg h0]
    exact PS.on_refl h

theorem PS.on_run : ∀ (ds : List OpD) {s : PS}, s.pos ≤ s.bs.length → s.on (s.run ds)
  | [], _, h => PS.on_refl h
  | d :: r, s, h => by
    have h1 := PS.on_put h d.bytes
    exact PS.on_trans h1 (PS.on_run r h1.le)

theorem Sl.lt {w : World} {v : Value} {xs : List Int} (h : Sl w v xs) (hx : 0 < xs.length) : ∀ k, v.ownBlock = some k → k < w.heap.size := by
  intro k hk
  rcases h with ⟨rfl, _⟩ | ⟨g, o, c', hv, hb, hc⟩
  · simp at hx
  · rw [hv] at hk
    simp [Value.ownBlock] at hk
    omega

/-- The beginning of a slice. -/
theorem Sl.pre {w : World} {ao : Option Addr} {n c : Nat} {xs : List Int} (h : Sl w (.slice ao n c) xs) (pos : Nat) (hp : pos ≤ n) : Sl w (.slice ao pos c) (xs.take pos) := by
  rcases h with ⟨rfl, a2, c2, hv⟩ | ⟨b, o, c2, hv, hb, hc⟩
  · obtain ⟨_, rfl, _⟩ : ao = a2 ∧ n = 0 ∧ c = c2 := by simpa using hv
    obtain rfl : pos = 0 := by omega
    exact .inl ⟨by simp, _, _, rfl⟩
  · obtain ⟨rfl, rfl, rfl⟩ : ao = some ⟨b, o, none⟩ ∧ n = xs.length ∧ c = c2 := by simpa using hv
    have hl : (xs.take pos).length = pos := by simp; omega
    refine .inr ⟨b, o, c, by rw [hl], hb, fun j hj => ?_⟩
    rw [hl] at hj
    rw [hc j (by omega)]
    simp [List.getD, hj]

/-- A call of a script, in a world of later. -/
theorem OpIn.chg {w wr : World} {b o : Nat} {d : OpD} (h : OpIn w b o d) (hb : b < w.heap.size) (c : Chg [] w wr) : OpIn wr b o d :=
  ⟨(c.cell (p := ⟨b, _, none⟩) hb (by simp)).trans h.c0, (c.cell (p := ⟨b, _, none⟩) hb (by simp)).trans h.c1, (c.cell (p := ⟨b, _, none⟩) hb (by simp)).trans h.c2, (c.cell (p := ⟨b, _, none⟩) hb (by simp)).trans h.c3,
    h.sl.chg c (by simp), h.k0, h.v0, h.n0, h.by_, h.big⟩

/-- Where a script's calls lie. -/
theorem Ops.at {w : World} {ao : Option Addr} {c : Nat} {ds : List OpD} (h : Ops w (.slice ao ds.length c) ds) {k : Nat} {d : OpD} (hd : ds[k]? = some d) :
    ∃ b o, ao = some ⟨b, o, none⟩ ∧ b < w.heap.size ∧ OpIn w b (o + k * 4) d := by
  rcases h with ⟨rfl, _⟩ | ⟨b, o, c', hv, hb, _, hc⟩
  · simp at hd
  · obtain ⟨rfl, rfl⟩ : ao = some ⟨b, o, none⟩ ∧ c = c' := by simpa using hv
    exact ⟨b, o, rfl, hb, hc k d hd⟩

/-- Putting a script's call, its bytes as they lie in the script. -/
theorem puts_in (b g : Nat) (s : PS) (d : OpD) (w wr : World) {bb oo : Nat} (Q : Pk wr b g s) (hin : OpIn w bb oo d) (D : Chg [] w wr) (hb : w.heap.size ≤ b) :
    Calls Try.prog 15 #[.pointer (some ⟨b, 0, none⟩), .agg #[.int .i64 d.k, .int .u64 d.v, .int .i64 d.n, d.bv], d.bv] wr.drew fun e w' => e = .returned (.tuple #[]) ∧ Pk w' b g (s.put d.bytes) ∧ Chg [b, g] wr w' := by
  have hd : Chg [] wr wr.drew := (Chg.refl _ _).drew
  refine (puts_any b g s d d.bv wr.drew (Q.chg hd (by simp) (by simp)) hin.ok ((hin.sl.chg D (by simp)).chg hd (by simp)) (fun k h0 hk => ?_)).mono fun e w' h => ⟨h.1, h.2.1, (hd.mono (by simp)).trans h.2.2⟩
  have := hin.sl.lt h0 k hk
  omega

/-- What the call owns is its own while other blocks turn. -/
theorem owns_chg {w w' : World} {s : List Nat} {base : Nat} {e : TypeId} {size : Nat} {v : Value} {n : Nat} {xs : List Value} (h : w.ownsRow base e size v n xs) (c : Chg s w w') (hs : ∀ k, v.ownBlock = some k → k ∉ s) : w'.ownsRow base e size v n xs := by
  refine ⟨h.1, ?_⟩
  rcases h.2 with hn | ⟨g, cap, cur, rfl, hb, hgg, rest⟩
  · exact .inl hn
  · refine .inr ⟨g, cap, cur, rfl, hb, ?_, rest⟩
    rw [c.block g (Array.getElem?_eq_some_iff.1 hgg).1 (hs g rfl)]
    exact hgg

theorem chg_of_grown {w w' : World} {row : Option Nat} (h : w.grownBy w' row) : Chg row.toList w w' :=
  ⟨h.os, h.tape, h.output, h.size, fun k hk hs => h.block k hk (fun e => hs (by rw [← e]; simp))⟩

theorem owns_slice {w : World} {base : Nat} {e : TypeId} {size : Nat} {v : Value} {n : Nat} {xs : List Value} (h : w.ownsRow base e size v n xs) : ∃ ao c, v = .slice ao n c := by
  rcases h.2 with ⟨rfl, rfl⟩ | ⟨g, cap, cur, rfl, _⟩
  · exact ⟨_, _, rfl⟩
  · exact ⟨_, _, rfl⟩

theorem owns_at {w : World} {base : Nat} {e : TypeId} {ao : Option Addr} {n m c : Nat} {xs : List Value} (h : w.ownsRow base e 1 (.slice ao n c) m xs) {k : Nat} {u : Value} (hu : xs[k]? = some u) : ∃ g, ao = some ⟨g, 0, none⟩ ∧ w.cell? ⟨g, k, none⟩ = some u := by
  rcases h.2 with ⟨hv, hm⟩ | ⟨g, cap, cur, hv, _⟩
  · subst hm
    have h1 := h.1
    rw [Nat.zero_mul] at h1
    rw [List.eq_nil_of_length_eq_zero h1] at hu
    simp at hu
  · obtain ⟨rfl, rfl, rfl⟩ : ao = some ⟨g, 0, none⟩ ∧ n = m ∧ c = cap := by simpa using hv
    exact ⟨g, rfl, ownsRow_cellAt h hu⟩

/-- One number appended. -/
theorem new_cell (w : World) (u : Value) (e : TypeId) : ∀ (j : Nat) (v : Value), [u][j]? = some v → (w.alloc (.cells #[u] e)).cell? ((⟨w.heap.size, 0, none⟩ : Addr).add j) = some v := by
  intro j v hj
  match j, hj with
  | 0, hj =>
    obtain rfl : u = v := by simpa using hj
    exact (Blk.made w [u] e).cell rfl

/-- A reader behind a script. -/
def RS.run (s : RS) (ds : List OpD) : RS := ds.foldl (fun s d => d.step s) s

theorem RS.run_snoc (s : RS) (ds : List OpD) (d : OpD) : s.run (ds ++ [d]) = d.step (s.run ds) := by simp [RS.run]

/-- The numbers that a script reads. -/
def RS.nums : RS → List OpD → List Int
  | _, [] => []
  | s, d :: r => d.num s :: RS.nums (d.step s) r

theorem RS.nums_snoc : ∀ (s : RS) (ds : List OpD) (d : OpD), s.nums (ds ++ [d]) = s.nums ds ++ [d.num (s.run ds)]
  | _, [], _ => rfl
  | s, e :: r, d => by
    show e.num s :: (e.step s).nums (r ++ [d]) = e.num s :: ((e.step s).nums r ++ [d.num ((e.step s).run r)])
    rw [RS.nums_snoc]

theorem RS.nums_len : ∀ (s : RS) (ds : List OpD), (s.nums ds).length = ds.length
  | _, [] => rfl
  | s, e :: r => by simp [RS.nums, RS.nums_len]

theorem RS.nums_get : ∀ (s : RS) (ds : List OpD) (k : Nat) (d : OpD), ds[k]? = some d → (s.nums ds)[k]? = some (d.num (s.run (ds.take k)))
  | _, [], _, _, h => by simp at h
  | s, e :: r, 0, d, h => by
    obtain rfl : e = d := by simpa using h
    rfl
  | s, e :: r, k + 1, d, h => by
    have := RS.nums_get (e.step s) r k d (by simpa using h)
    simpa [RS.nums, RS.run] using this

theorem RS.got_stuck {s : RS} (h : s.bad ≠ 0) (n : Nat) : s.got n = [] := by unfold RS.got; rw [if_neg h]
theorem RS.next_stuck {s : RS} (h : s.bad ≠ 0) (n : Nat) : s.next n = s := by unfold RS.next; rw [if_neg h]
theorem RS.skip_stuck {s : RS} (h : s.bad ≠ 0) (n : Nat) : s.skip n = s := by
  unfold RS.skip
  rw [RS.got_stuck h]
  exact RS.next_stuck h n

/-- Behind an error a reader tells nothing, and stays. -/
theorem OpD.stuck {s : RS} (h : s.bad ≠ 0) (d : OpD) : d.num s = 0 ∧ d.list s = [] ∧ d.step s = s := by
  unfold OpD.num OpD.list OpD.step
  simp only [RS.got_stuck h, RS.next_stuck h, RS.skip_stuck h, leNum, ite_self, and_self]

end Go.Proofs.Ytbinoailpceonaa
