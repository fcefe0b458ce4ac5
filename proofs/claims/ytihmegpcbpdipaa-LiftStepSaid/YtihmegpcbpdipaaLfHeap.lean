/-
  A heap of places, in numbers. No function of the program is named here. By an AI agent.
-/
import Derived.Test.YtihmegpcbpdipaaRows
import Derived.Test.YtihmegpcbpdipaaRefLift
import Derived.Maps.OwnSet
import Derived.DeepKeys4
import Derived.Test.YtihmegpcbpdipaaLfThings
namespace Go.Proofs.Ytihmegpcbpdipaa
open Go.Maps Go.RowKit
/-- A place: its row, its member. -/
abbrev Pl := Nat × Nat

namespace Hq

def lt (p q : Pl) : Prop := p.1 < q.1 ∨ (p.1 = q.1 ∧ p.2 < q.2)

instance (p q : Pl) : Decidable (lt p q) := by unfold lt; infer_instance

/-- The i-th of them. -/
def nth (A : List Pl) (i : Nat) : Pl := A.getD i (0, 0)

theorem nth_get {A : List Pl} {i : Nat} (h : i < A.length) : A[i]? = some (nth A i) := by
  unfold nth
  rw [List.getD_eq_getElem?_getD, List.getElem?_eq_getElem h]
  rfl

theorem nth_mem {A : List Pl} {i : Nat} (h : i < A.length) : nth A i ∈ A := List.mem_of_getElem? (nth_get h)

def swap (A : List Pl) (i j : Nat) : List Pl := (A.set i (nth A j)).set j (nth A i)

theorem swap_len (A : List Pl) (i j : Nat) : (swap A i j).length = A.length := by simp [swap]

theorem nth_swap {A : List Pl} {i j : Nat} (hi : i < A.length) (hj : j < A.length) (k : Nat) : nth (swap A i j) k = if k = j then nth A i else if k = i then nth A j else nth A k := by
  unfold swap
  by_cases c : k = j
  · subst c
    rw [if_pos rfl]
    conv => lhs; unfold nth
    rw [List.getD_eq_getElem?_getD, List.getElem?_set_self (by rw [List.length_set]; exact hj)]
    rfl
  · rw [if_neg c]
    by_cases d : k = i
    · subst d
      rw [if_pos rfl]
      conv => lhs; unfold nth
      rw [List.getD_eq_getElem?_getD, List.getElem?_set_ne (fun e => c e.symm), List.getElem?_set_self hi]
      rfl
    · rw [if_neg d]
      unfold nth
      rw [List.getD_eq_getElem?_getD, List.getElem?_set_ne (fun e => c e.symm), List.getElem?_set_ne (fun e => d e.symm), List.getD_eq_getElem?_getD]

theorem nth_eq {A : List Pl} {i : Nat} (h : i < A.length) : nth A i = A[i] := by
  have := nth_get h
  rw [List.getElem?_eq_getElem h] at this
  exact (Option.some.inj this).symm

theorem swap_perm {A : List Pl} {i j : Nat} (hi : i < A.length) (hj : j < A.length) : (swap A i j).Perm A := by
  unfold swap
  rw [nth_eq hi, nth_eq hj]
  exact List.set_set_perm hi hj

/-- The first n of them are a heap. -/
def Hp (A : List Pl) (n : Nat) : Prop := ∀ i, 0 < i → i < n → ¬ lt (nth A i) (nth A ((i - 1) / 2))

/-- .. but for the j-th, which may be too small. -/
structure Up (A : List Pl) (n j : Nat) : Prop where
  oth : ∀ i, 0 < i → i < n → i ≠ j → ¬ lt (nth A i) (nth A ((i - 1) / 2))
  kid : 0 < j → ∀ i, 0 < i → i < n → (i - 1) / 2 = j → ¬ lt (nth A i) (nth A ((j - 1) / 2))

theorem Up.stop0 {A : List Pl} {n : Nat} (h : Up A n 0) : Hp A n := fun i h0 hn => h.oth i h0 hn (by omega)

theorem Up.stop {A : List Pl} {n j : Nat} (h : Up A n j) (hl : ¬ lt (nth A j) (nth A ((j - 1) / 2))) : Hp A n := fun i h0 hn => by
  by_cases c : i = j
  · subst c; exact hl
  · exact h.oth i h0 hn c

theorem Up.step {A : List Pl} {n j : Nat} (h : Up A n j) (h0 : 0 < j) (hj : j < n) (hn : n ≤ A.length) (hl : lt (nth A j) (nth A ((j - 1) / 2))) : Up (swap A ((j - 1) / 2) j) n ((j - 1) / 2) := by
  have hp : (j - 1) / 2 < A.length := by omega
  have hjl : j < A.length := by omega
  refine ⟨fun i i0 hi hne => ?_, fun p0 i i0 hi hpar => ?_⟩
  · rw [nth_swap hp hjl, nth_swap hp hjl]
    by_cases c1 : i = j
    · subst c1
      rw [if_pos rfl, if_neg (by omega), if_pos rfl]
      unfold lt at *; omega
    · rw [if_neg c1, if_neg hne]
      have ho := h.oth i i0 hi c1
      by_cases c2 : (i - 1) / 2 = j
      · rw [if_pos c2]
        exact h.kid h0 i i0 hi c2
      · rw [if_neg c2]
        by_cases c3 : (i - 1) / 2 = (j - 1) / 2
        · rw [if_pos c3]
          rw [c3] at ho
          unfold lt at *; omega
        · rw [if_neg c3]
          exact ho
  · have hq : (j - 1) / 2 ≠ j := by omega
    have hop := h.oth ((j - 1) / 2) p0 (by omega) hq
    rw [nth_swap hp hjl, nth_swap hp hjl, if_neg (show ((j - 1) / 2 - 1) / 2 ≠ j by omega), if_neg (show ((j - 1) / 2 - 1) / 2 ≠ (j - 1) / 2 by omega)]
    by_cases c1 : i = j
    · rw [if_pos c1]
      exact hop
    · rw [if_neg c1, if_neg (by omega)]
      have ho := h.oth i i0 hi c1
      rw [hpar] at ho
      unfold lt at *; omega

/-- .. but for the i-th, which may be too great. -/
structure Dn (A : List Pl) (n i : Nat) : Prop where
  oth : ∀ k, 0 < k → k < n → (k - 1) / 2 ≠ i → ¬ lt (nth A k) (nth A ((k - 1) / 2))
  kid : 0 < i → ∀ k, 0 < k → k < n → (k - 1) / 2 = i → ¬ lt (nth A k) (nth A ((i - 1) / 2))

theorem Dn.stop1 {A : List Pl} {n i : Nat} (h : Dn A n i) (hn : n ≤ 2 * i + 1) : Hp A n := fun k h0 hk => h.oth k h0 hk (by omega)

/-- The least of the i-th's children. -/
def Least (A : List Pl) (n i j : Nat) : Prop := j < n ∧ 0 < j ∧ (j - 1) / 2 = i ∧ ∀ k, 0 < k → k < n → (k - 1) / 2 = i → ¬ lt (nth A k) (nth A j)

theorem least_one {A : List Pl} {n i : Nat} (h1 : 2 * i + 1 < n) (h2 : n ≤ 2 * i + 2) : Least A n i (2 * i + 1) := ⟨h1, by omega, by omega, fun k k0 hk hp => by
  have e : k = 2 * i + 1 := by omega
  subst e
  unfold lt; omega⟩

theorem least_left {A : List Pl} {n i : Nat} (h2 : 2 * i + 2 < n) (hl : ¬ lt (nth A (2 * i + 2)) (nth A (2 * i + 1))) : Least A n i (2 * i + 1) := ⟨by omega, by omega, by omega, fun k k0 hk hp => by
  rcases (show k = 2 * i + 1 ∨ k = 2 * i + 2 by omega) with e | e
  · subst e; unfold lt; omega
  · subst e; exact hl⟩

theorem least_right {A : List Pl} {n i : Nat} (h2 : 2 * i + 2 < n) (hl : lt (nth A (2 * i + 2)) (nth A (2 * i + 1))) : Least A n i (2 * i + 2) := ⟨by omega, by omega, by omega, fun k k0 hk hp => by
  rcases (show k = 2 * i + 1 ∨ k = 2 * i + 2 by omega) with e | e
  · subst e; unfold lt at *; omega
  · subst e; unfold lt; omega⟩

theorem Dn.stop2 {A : List Pl} {n i j : Nat} (h : Dn A n i) (hm : Least A n i j) (hl : ¬ lt (nth A j) (nth A i)) : Hp A n := fun k h0 hk => by
  by_cases c : (k - 1) / 2 = i
  · have := hm.2.2.2 k h0 hk c
    rw [c]
    unfold lt at *; omega
  · exact h.oth k h0 hk c

theorem Dn.step {A : List Pl} {n i j : Nat} (h : Dn A n i) (hm : Least A n i j) (hn : n ≤ A.length) (hl : lt (nth A j) (nth A i)) : Dn (swap A i j) n j := by
  obtain ⟨hj, j0, hp, hleast⟩ := hm
  have hil : i < A.length := by omega
  have hjl : j < A.length := by omega
  refine ⟨fun k k0 hk hne => ?_, fun _ k k0 hk hpar => ?_⟩
  · rw [nth_swap hil hjl, nth_swap hil hjl, if_neg hne]
    by_cases c1 : k = j
    · subst c1
      rw [if_pos rfl, if_pos hp]
      unfold lt at *; omega
    · rw [if_neg c1]
      by_cases c2 : k = i
      · subst c2
        rw [if_pos rfl, if_neg (by omega)]
        exact h.kid k0 j j0 hj hp
      · rw [if_neg c2]
        by_cases c3 : (k - 1) / 2 = i
        · rw [if_pos c3]
          exact hleast k k0 hk c3
        · rw [if_neg c3]
          exact h.oth k k0 hk c3
  · rw [nth_swap hil hjl, nth_swap hil hjl, if_neg (show k ≠ j by omega), if_neg (show k ≠ i by omega), if_neg (show (j - 1) / 2 ≠ j by omega), if_pos hp]
    have := h.oth k k0 hk (by omega)
    rw [hpar] at this
    exact this

theorem Hp.least {A : List Pl} {n : Nat} (h : Hp A n) : ∀ i, i < n → ¬ lt (nth A i) (nth A 0) := by
  intro i
  induction i using Nat.strongRecOn with
  | _ i ih =>
    intro hi
    by_cases c : i = 0
    · subst c; unfold lt; omega
    · have h1 := h i (by omega) hi
      have h2 := ih ((i - 1) / 2) (by omega) (by omega)
      unfold lt at *; omega

theorem nth_app {A : List Pl} {x : Pl} {i : Nat} (h : i < A.length) : nth (A ++ [x]) i = nth A i := by
  unfold nth
  rw [List.getD_eq_getElem?_getD, List.getElem?_append_left h, List.getD_eq_getElem?_getD]

theorem nth_take {A : List Pl} {n i : Nat} (h : i < n) : nth (A.take n) i = nth A i := by
  unfold nth
  rw [List.getD_eq_getElem?_getD, List.getElem?_take_of_lt h, List.getD_eq_getElem?_getD]

/-- One put at the end. -/
theorem Hp.push {A : List Pl} (h : Hp A A.length) (x : Pl) : Up (A ++ [x]) (A.length + 1) A.length := by
  refine ⟨fun i i0 hi hne => ?_, fun p0 i i0 hi hpar => ?_⟩
  · rw [nth_app (by omega), nth_app (by omega)]
    exact h i i0 (by omega)
  · omega

/-- The last one put in the first one's place. -/
theorem Hp.pop {A : List Pl} {n : Nat} (h : Hp A A.length) (hn : A.length = n + 1) : Dn (swap A 0 n) n 0 := by
  refine ⟨fun k k0 hk hne => ?_, fun p0 => absurd p0 (by omega)⟩
  rw [nth_swap (by omega) (by omega), nth_swap (by omega) (by omega), if_neg (by omega), if_neg (by omega), if_neg (by omega), if_neg hne]
  exact h k k0 (by omega)

theorem Hp.nil : Hp [] 0 := fun i _ h => absurd h (by omega)

theorem Hp.take {A : List Pl} {n : Nat} (h : Hp A n) (hn : n ≤ A.length) : Hp (A.take n) (A.take n).length := fun i i0 hi => by
  rw [List.length_take, Nat.min_eq_left hn] at hi
  rw [nth_take hi, nth_take (by omega)]
  exact h i i0 hi

/-- What is left when the first one has been taken: of A, turned into B, whose last one is the first of A. -/
structure Left (A R : List Pl) : Prop where
  hp : Hp R R.length
  len : R.length + 1 = A.length
  perm : (nth A 0 :: R).Perm A

theorem left_of {A B : List Pl} {n : Nat} (hn : A.length = n + 1) (hb : B.Perm A) (hh : Hp B n) (hl : nth B n = nth A 0) : Left A (B.take n) := by
  have hbl : B.length = n + 1 := by rw [hb.length_eq, hn]
  refine ⟨hh.take (by omega), by rw [List.length_take]; omega, ?_⟩
  have e : B = B.take n ++ [nth B n] := by
    rw [nth_eq (show n < B.length by omega)]
    conv => lhs; rw [← List.take_append_drop n B]
    congr 1
    rw [List.drop_eq_getElem_cons (show n < B.length by omega), List.drop_eq_nil_of_le (by omega)]
  rw [← hl]
  refine (List.Perm.trans ?_ hb)
  conv => rhs; rw [e]
  exact (List.perm_append_comm (l₁ := [nth B n]) (l₂ := B.take n))

end Hq

theorem laid_out : laidOutB Try.prog = true := by kernel_rfl
theorem place_law : Keyed Try.prog 78 := Keyed.of_law (deep_law_laid laid_out (m := 2) (by omega) (of_decide_eq_true (by kernel_rfl)) (by kernel_rfl) (by rw [Try.underlying78]))

/-- A place, as a value. -/
def plVal (p : Pl) : Value := .agg #[.int .i64 (p.1 : Int), .int .i64 (p.2 : Int)]

theorem place_key : Try.prog.keyType 78 = true := by kernel_rfl
theorem place_cells : Try.prog.cellsOf 78 = 2 := by kernel_rfl

def PlOk (p : Pl) : Prop := p.1 ≤ 4095 ∧ p.2 ≤ 15

theorem key_is (p : Pl) (h : PlOk p) : ∃ l, keyOf Try.prog 78 (plVal p) = some l := by
  have h1 : (Lit.int .i64 (p.1 : Int)).wf = true := by
    have := h.1
    simp [Lit.wf, IntKind.min, IntKind.max, IntKind.signed, IntKind.bits]; omega
  have h2 : (Lit.int .i64 (p.2 : Int)).wf = true := by
    have := h.2
    simp [Lit.wf, IntKind.min, IntKind.max, IntKind.signed, IntKind.bits]; omega
  have hs : ∃ f, Try.prog.types.size = f + 1 := ⟨Try.prog.types.size - 1, by kernel_rfl⟩
  obtain ⟨f, hf⟩ := hs
  have hfo : (plVal p).formed Try.prog 78 = true := by simp [plVal, Value.formed, Try.underlying78, place_cells]
  have e3 : Try.prog.cellsOf 3 = 1 := by kernel_rfl
  unfold keyOf
  rw [Try.underlying78]
  simp only [place_key, hfo, Bool.and_self, if_true]
  have hk : ∃ ls, Try.prog.keyLits (Try.prog.types.size + 1) 78 (plVal p).cells.toList = some ls := by
    rw [hf]
    simp [Program.keyLits, Try.underlying78, Try.underlying3, plVal, Value.cells, place_cells, e3, h1, h2]
  obtain ⟨ls, hls⟩ := hk
  rw [hls]
  exact ⟨_, rfl⟩

/-- What a place reads as. -/
noncomputable def plKey (p : Pl) : Lit := @Classical.epsilon Lit ⟨.bool true⟩ fun l => keyOf Try.prog 78 (plVal p) = some l

theorem key_of {p : Pl} (h : PlOk p) : keyOf Try.prog 78 (plVal p) = some (plKey p) := Classical.epsilon_spec (key_is p h)

theorem key_inj {p q : Pl} (h : PlOk p) (k : PlOk q) (e : plKey p = plKey q) : p = q := by
  have h1 : plVal p = plVal q := place_law.inj (a := plVal p) (b := plVal q) (l := plKey p) (key_of h) ((key_of k).trans (congrArg some e.symm))
  unfold plVal at h1
  obtain ⟨p1, p2⟩ := p
  obtain ⟨q1, q2⟩ := q
  simp only [Value.agg.injEq, Array.mk.injEq, List.cons.injEq, Value.int.injEq, true_and, and_true] at h1
  exact Prod.ext (by omega) (by omega)

theorem key_lit {p : Pl} (h : PlOk p) : WideAt.IsKeyLit (plKey p) := place_law.key (v := plVal p) (l := plKey p) (key_of h)

/-- Whatever value, as it stands. -/
def heldR : Value → Option (DataW Value × List MemPlace) := fun v => some (.held v, [])

def pl (d : Pd) : Pl := (d.r, d.m)

theorem pl_same {d e : Pd} : Lf.same d e ↔ pl d = pl e := by
  unfold Lf.same pl
  constructor
  · rintro ⟨h1, h2⟩; rw [h1, h2]
  · intro h
    simp only [Prod.mk.injEq] at h
    exact ⟨h.2, h.1⟩

theorem pl_lt {d e : Pd} : Lf.lt d e ↔ Hq.lt (pl d) (pl e) := by
  unfold Lf.lt Hq.lt pl
  exact Iff.rfl

/-- A sector, as a value. -/
def sect (d : Pd) : Value := .agg (ub d.bs).toArray

/-- A patch of a lift. -/
structure PdOk (d : Pd) : Prop where
  m : d.m ≤ 15
  r : d.r ≤ 4095
  len : d.bs.length = 128
  by_ : By (ints d.bs)

theorem PdOk.pl {d : Pd} (h : PdOk d) : PlOk (Go.Proofs.Ytihmegpcbpdipaa.pl d) := ⟨h.r, h.m⟩

/-- What a map says of a lift's patches. -/
structure MapD (D : DataW Value) (S : List Pd) : Prop where
  size : Maps.size D = S.length
  say : ∀ p, PlOk p → (has D (plKey p) = false ∧ ∀ d ∈ S, pl d ≠ p) ∨ ∃ d ∈ S, pl d = p ∧ has D (plKey p) = true ∧ ∀ z, D.atKey (plKey p) z = .held (sect d)

theorem MapD.nil : MapD (.map []) [] := ⟨rfl, fun p _ => .inl ⟨rfl, fun d hd => by cases hd⟩⟩

theorem ins_len {d : Pd} : ∀ {S : List Pd}, Lf.Srt S → (Lf.ins d S).length = if (∃ e ∈ S, Lf.same e d) then S.length else S.length + 1
  | [], _ => by simp [Lf.ins]
  | q :: S, h => by
    obtain ⟨h1, h2⟩ := List.pairwise_cons.1 h
    unfold Lf.ins
    by_cases c1 : Lf.lt d q
    · rw [if_pos c1, if_neg]
      · rfl
      · rintro ⟨e, he, hs⟩
        rcases List.mem_cons.1 he with rfl | he
        · exact Lf.not_same_of_lt c1 (Lf.same_symm hs)
        · exact Lf.not_same_of_lt (Lf.lt_trans c1 (h1 e he)) (Lf.same_symm hs)
    · rw [if_neg c1]
      by_cases c2 : Lf.lt q d
      · rw [if_pos c2, List.length_cons, ins_len h2, List.length_cons]
        by_cases c3 : ∃ e ∈ S, Lf.same e d
        · rw [if_pos c3, if_pos (by obtain ⟨e, he, hs⟩ := c3; exact ⟨e, List.mem_cons_of_mem _ he, hs⟩)]
        · rw [if_neg c3, if_neg]
          rintro ⟨e, he, hs⟩
          rcases List.mem_cons.1 he with rfl | he
          · exact Lf.not_same_of_lt c2 hs
          · exact c3 ⟨e, he, hs⟩
      · rw [if_neg c2, if_pos]
        · rfl
        · exact ⟨q, List.mem_cons_self, by rcases Lf.tri q d with c | c | c; exact absurd c c2; exact c; exact absurd c c1⟩

theorem out_len {d : Pd} : ∀ {S : List Pd}, Lf.Srt S → d ∈ S → (Lf.out d S).length + 1 = S.length
  | [], _, h => by cases h
  | q :: S, h, hd => by
    obtain ⟨h1, h2⟩ := List.pairwise_cons.1 h
    by_cases c : Lf.same q d
    · have e : q = d := h.ne List.mem_cons_self hd c
      subst e
      have : Lf.out q (q :: S) = S := by
        unfold Lf.out
        rw [List.filter_cons_of_neg (by simp [Lf.same_refl])]
        exact List.filter_eq_self.2 fun x hx => by simpa using fun k => Lf.not_same_of_lt (h1 x hx) (Lf.same_symm k)
      rw [this]
      rfl
    · have hm : d ∈ S := by
        rcases List.mem_cons.1 hd with e | hm
        · exact absurd (by rw [e]; exact Lf.same_refl _) c
        · exact hm
      have : Lf.out d (q :: S) = q :: Lf.out d S := by
        unfold Lf.out
        rw [List.filter_cons_of_pos (by simpa using c)]
      rw [this, List.length_cons, List.length_cons, out_len h2 hm]

theorem MapD.put {D : DataW Value} {S : List Pd} (h : MapD D S) (ht : Tidy D) (hS : Lf.Srt S) {d : Pd} (hd : PdOk d) : MapD (D.put (plKey (pl d)) (.held (sect d))) (Lf.ins d S) := by
  refine ⟨?_, fun p hp => ?_⟩
  · rw [size_put ht, ins_len hS, h.size]
    rcases h.say (pl d) hd.pl with ⟨h1, h2⟩ | ⟨e, he, hpl, h1, _⟩
    · rw [h1, if_neg (by simp), if_neg]
      rintro ⟨e, he, hs⟩
      exact h2 e he (pl_same.1 hs)
    · rw [h1, if_pos rfl, if_pos ⟨e, he, pl_same.2 hpl⟩]
  · by_cases c : p = pl d
    · subst c
      exact .inr ⟨d, (Lf.mem_ins hS).2 (.inl rfl), rfl, has_put_same ht.isMap (key_lit hp) _, fun z => atKey_put_same ht.isMap (key_lit hp) _ _⟩
    · have hne : plKey p ≠ plKey (pl d) := fun e => c (key_inj hp hd.pl e)
      rcases h.say p hp with ⟨h1, h2⟩ | ⟨e, he, hpl, h1, h2⟩
      · refine .inl ⟨by rw [has_put_other hne]; exact h1, fun e he => ?_⟩
        rcases (Lf.mem_ins hS).1 he with rfl | ⟨he, _⟩
        · exact fun k => c k.symm
        · exact h2 e he
      · refine .inr ⟨e, (Lf.mem_ins hS).2 (.inr ⟨he, fun k => c ?_⟩), hpl, by rw [has_put_other hne]; exact h1, fun z => by rw [atKey_put_other hne]; exact h2 z⟩
        rw [← hpl, pl_same.1 k]

theorem MapD.del {D : DataW Value} {S : List Pd} (h : MapD D S) (ht : Tidy D) (hS : Lf.Srt S) (ok : ∀ e ∈ S, PdOk e) {d : Pd} (hd : d ∈ S) : MapD (D.del (plKey (pl d))) (Lf.out d S) := by
  have hok := (ok d hd).pl
  refine ⟨?_, fun p hp => ?_⟩
  · have h1 := size_del (k := plKey (pl d)) ht
    have h2 := out_len hS hd
    rcases h.say (pl d) hok with ⟨_, q⟩ | ⟨e, he, hpl, q, _⟩
    · exact absurd rfl (q d hd)
    · rw [q, if_pos rfl, h.size] at h1
      omega
  · by_cases c : p = pl d
    · subst c
      exact .inl ⟨has_del_same, fun e he => fun k => (Lf.mem_out.1 he).2 (pl_same.2 k)⟩
    · have hne : plKey p ≠ plKey (pl d) := fun e => c (key_inj hp hok e)
      rcases h.say p hp with ⟨h1, h2⟩ | ⟨e, he, hpl, h1, h2⟩
      · exact .inl ⟨by rw [has_del_other hne]; exact h1, fun e he => h2 e (Lf.mem_out.1 he).1⟩
      · exact .inr ⟨e, Lf.mem_out.2 ⟨he, fun k => c (by rw [← hpl, pl_same.1 k])⟩, hpl, by rw [has_del_other hne]; exact h1, fun z => by rw [atKey_del_other hne]; exact h2 z⟩

/-- Block mb is such a map. -/
def MapIn (w : World) (mb : Nat) (S : List Pd) : Prop := ∃ D : DataW Value, w.ownsMap Try.prog 78 heldR mb S.length D ∧ MapD D S

theorem MapIn.lt {w : World} {mb : Nat} {S : List Pd} (h : MapIn w mb S) : mb < w.heap.size := by
  obtain ⟨D, h, _⟩ := h
  exact h.lt

theorem owned_chg {w w' : World} {mb n : Nat} {D : DataW Value} {s : List Nat} (h : w.ownsMap Try.prog 78 heldR mb n D) (k : Chg s w w') (hs : mb ∉ s) : w'.ownsMap Try.prog 78 heldR mb n D := by
  obtain ⟨es, clock, hb, r⟩ := h
  exact ⟨es, clock, by rw [k.block mb (Array.getElem?_eq_some_iff.1 hb).1 hs]; exact hb, r⟩

theorem MapIn.chg {w w' : World} {mb : Nat} {S : List Pd} {s : List Nat} (h : MapIn w mb S) (k : Chg s w w') (hs : mb ∉ s) : MapIn w' mb S := by
  obtain ⟨D, h, h2⟩ := h
  exact ⟨D, owned_chg h k hs, h2⟩

theorem MapIn.made (w : World) : MapIn (w.alloc (.map #[] 0)) w.heap.size [] := ⟨.map [], World.ownsMap_made _ _ _ _, MapD.nil⟩

theorem owned_size {w : World} {mb n : Nat} {D : DataW Value} (h : w.ownsMap Try.prog 78 heldR mb n D) : w.ownsMap Try.prog 78 heldR mb (Maps.size D) D := by
  obtain ⟨es, clock, hb, F, _, rfl⟩ := h
  exact ⟨es, clock, hb, F, by simp [Maps.size, length_sorted], rfl⟩

theorem MapIn.of {w : World} {mb n : Nat} {D : DataW Value} {S : List Pd} (h : w.ownsMap Try.prog 78 heldR mb n D) (hD : MapD D S) : MapIn w mb S := ⟨D, by rw [← hD.size]; exact owned_size h, hD⟩

theorem grown_chg {w w' : World} {mb : Nat} (h : w.grownBy w' (some mb)) : Chg [mb] w w' := chg_of_grown h

/-- Places from a row on, and below it. -/
def ups (row : Nat) (Q : List Pl) : List Pl := Q.filter fun x => decide (row ≤ x.1)
def lows (row : Nat) (Q : List Pl) : List Pl := Q.filter fun x => decide (x.1 < row)

structure Inv (row : Nat) (S : List Pd) (A B : List Pl) : Prop where
  srt : Lf.Srt S
  ok : ∀ d ∈ S, PdOk d
  hr : row ≤ 4095
  ha : Hq.Hp A A.length
  hb : Hq.Hp B B.length
  pa : A.Perm (ups row (S.map pl))
  pb : B.Perm (lows row (S.map pl))

theorem Inv.new {row : Nat} (h : row ≤ 4095) : Inv row [] [] [] := ⟨List.Pairwise.nil, (fun d hd => by cases hd), h, Hq.Hp.nil, Hq.Hp.nil, List.Perm.refl _, List.Perm.refl _⟩

theorem Inv.lenA {row : Nat} {S : List Pd} {A B : List Pl} (h : Inv row S A B) : A.length ≤ S.length := by
  rw [h.pa.length_eq]
  have := List.length_filter_le (fun x : Pl => decide (row ≤ x.1)) (S.map pl)
  rw [List.length_map] at this
  exact this

theorem Inv.lenB {row : Nat} {S : List Pd} {A B : List Pl} (h : Inv row S A B) : B.length ≤ S.length := by
  rw [h.pb.length_eq]
  have := List.length_filter_le (fun x : Pl => decide (x.1 < row)) (S.map pl)
  rw [List.length_map] at this
  exact this

theorem pl_ne {S : List Pd} (h : Lf.Srt S) : (S.map pl).Nodup := by
  rw [List.nodup_iff_pairwise_ne, List.pairwise_map]
  exact h.imp fun {a b} hab e => Lf.not_same_of_lt hab (pl_same.2 e)

/-- One of a place that is there. -/
theorem ins_old {d : Pd} : ∀ {S : List Pd}, Lf.Srt S → (∃ e ∈ S, pl e = pl d) → (Lf.ins d S).map pl = S.map pl
  | [], _, h => by obtain ⟨e, he, _⟩ := h; cases he
  | q :: S, h, hx => by
    obtain ⟨h1, h2⟩ := List.pairwise_cons.1 h
    obtain ⟨e, he, hs⟩ := hx
    unfold Lf.ins
    by_cases c1 : Lf.lt d q
    · exfalso
      rcases List.mem_cons.1 he with rfl | he
      · exact Lf.not_same_of_lt c1 (pl_same.2 hs.symm)
      · exact Lf.not_same_of_lt (Lf.lt_trans c1 (h1 e he)) (pl_same.2 hs.symm)
    · rw [if_neg c1]
      by_cases c2 : Lf.lt q d
      · rw [if_pos c2]
        have he2 : e ∈ S := by
          rcases List.mem_cons.1 he with rfl | he
          · exact absurd (pl_same.2 hs) (Lf.not_same_of_lt c2)
          · exact he
        rw [List.map_cons, List.map_cons, ins_old h2 ⟨e, he2, hs⟩]
      · rw [if_neg c2]
        have hq : Lf.same q d := by rcases Lf.tri q d with c | c | c; exact absurd c c2; exact c; exact absurd c c1
        rw [List.map_cons, List.map_cons, pl_same.1 hq]

/-- One of a new place. -/
theorem ins_new {d : Pd} {S : List Pd} (hS : Lf.Srt S) (hn : ∀ e ∈ S, pl e ≠ pl d) : ((Lf.ins d S).map pl).Perm (pl d :: S.map pl) := by
  refine (List.perm_ext_iff_of_nodup (pl_ne (Lf.srt_ins hS)) (List.nodup_cons.2 ⟨fun hm => ?_, pl_ne hS⟩)).2 fun x => ?_
  · obtain ⟨e, he, hp⟩ := List.mem_map.1 hm
    exact hn e he hp
  · rw [List.mem_cons, List.mem_map, List.mem_map]
    constructor
    · rintro ⟨e, he, rfl⟩
      rcases (Lf.mem_ins hS).1 he with rfl | ⟨he, _⟩
      · exact .inl rfl
      · exact .inr ⟨e, he, rfl⟩
    · rintro (rfl | ⟨e, he, rfl⟩)
      · exact ⟨d, (Lf.mem_ins hS).2 (.inl rfl), rfl⟩
      · exact ⟨e, (Lf.mem_ins hS).2 (.inr ⟨he, fun k => hn e he (pl_same.1 k)⟩), rfl⟩

theorem out_perm {d : Pd} {S : List Pd} (hS : Lf.Srt S) (hd : d ∈ S) : (S.map pl).Perm (pl d :: (Lf.out d S).map pl) := by
  refine (List.perm_ext_iff_of_nodup (pl_ne hS) (List.nodup_cons.2 ⟨fun hm => ?_, pl_ne (Lf.srt_out hS)⟩)).2 fun x => ?_
  · obtain ⟨e, he, hp⟩ := List.mem_map.1 hm
    exact (Lf.mem_out.1 he).2 (pl_same.2 hp)
  · rw [List.mem_cons, List.mem_map, List.mem_map]
    constructor
    · rintro ⟨e, he, rfl⟩
      by_cases c : Lf.same e d
      · exact .inl (pl_same.1 c)
      · exact .inr ⟨e, Lf.mem_out.2 ⟨he, c⟩, rfl⟩
    · rintro (rfl | ⟨e, he, rfl⟩)
      · exact ⟨d, hd, rfl⟩
      · exact ⟨e, (Lf.mem_out.1 he).1, rfl⟩

theorem ok_ins {d : Pd} {S : List Pd} (hS : Lf.Srt S) (h : ∀ e ∈ S, PdOk e) (hd : PdOk d) : ∀ e ∈ Lf.ins d S, PdOk e := fun e he => by
  rcases (Lf.mem_ins hS).1 he with rfl | ⟨he, _⟩
  · exact hd
  · exact h e he

theorem Inv.old {row : Nat} {S : List Pd} {A B : List Pl} (h : Inv row S A B) {d : Pd} (hd : PdOk d) (hx : ∃ e ∈ S, pl e = pl d) : Inv row (Lf.ins d S) A B :=
  ⟨Lf.srt_ins h.srt, ok_ins h.srt h.ok hd, h.hr, h.ha, h.hb, by rw [ins_old h.srt hx]; exact h.pa, by rw [ins_old h.srt hx]; exact h.pb⟩

theorem Inv.up {row : Nat} {S : List Pd} {A B A' : List Pl} (h : Inv row S A B) {d : Pd} (hd : PdOk d) (hn : ∀ e ∈ S, pl e ≠ pl d) (hr : row ≤ d.r) (hp : A'.Perm (A ++ [pl d])) (hh : Hq.Hp A' A'.length) : Inv row (Lf.ins d S) A' B := by
  refine ⟨Lf.srt_ins h.srt, ok_ins h.srt h.ok hd, h.hr, hh, h.hb, ?_, ?_⟩
  · refine hp.trans ((List.perm_append_singleton _ _).trans ((List.Perm.cons _ h.pa).trans ?_))
    have := (ins_new h.srt hn).filter (fun x => decide (row ≤ x.1))
    rw [List.filter_cons_of_pos (p := fun x : Pl => decide (row ≤ x.1)) (decide_eq_true hr)] at this
    exact this.symm
  · refine h.pb.trans ?_
    have := (ins_new h.srt hn).filter (fun x => decide (x.1 < row))
    rw [List.filter_cons_of_neg (p := fun x : Pl => decide (x.1 < row)) (fun e => by have h2 : d.r < row := of_decide_eq_true e; omega)] at this
    exact this.symm

theorem Inv.low {row : Nat} {S : List Pd} {A B B' : List Pl} (h : Inv row S A B) {d : Pd} (hd : PdOk d) (hn : ∀ e ∈ S, pl e ≠ pl d) (hr : d.r < row) (hp : B'.Perm (B ++ [pl d])) (hh : Hq.Hp B' B'.length) : Inv row (Lf.ins d S) A B' := by
  refine ⟨Lf.srt_ins h.srt, ok_ins h.srt h.ok hd, h.hr, h.ha, hh, ?_, ?_⟩
  · refine h.pa.trans ?_
    have := (ins_new h.srt hn).filter (fun x => decide (row ≤ x.1))
    rw [List.filter_cons_of_neg (p := fun x : Pl => decide (row ≤ x.1)) (fun e => by have h2 : row ≤ d.r := of_decide_eq_true e; omega)] at this
    exact this.symm
  · refine hp.trans ((List.perm_append_singleton _ _).trans ((List.Perm.cons _ h.pb).trans ?_))
    have := (ins_new h.srt hn).filter (fun x => decide (x.1 < row))
    rw [List.filter_cons_of_pos (p := fun x : Pl => decide (x.1 < row)) (decide_eq_true hr)] at this
    exact this.symm

theorem Inv.nilA {row : Nat} {S : List Pd} {B : List Pl} (h : Inv row S [] B) : ∀ y ∈ S.map pl, y.1 < row := fun y hy => by
  have e : ups row (S.map pl) = [] := h.pa.nil_eq.symm
  by_cases c : row ≤ y.1
  · have : y ∈ ups row (S.map pl) := List.mem_filter.2 ⟨hy, by simpa using c⟩
    rw [e] at this
    cases this
  · omega

theorem Inv.allB {row : Nat} {S : List Pd} {B : List Pl} (h : Inv row S [] B) : B.Perm (S.map pl) := by
  have e : lows row (S.map pl) = S.map pl := List.filter_eq_self.2 fun y hy => by simpa using h.nilA y hy
  have := h.pb
  rw [e] at this
  exact this

theorem Inv.someB {row : Nat} {S : List Pd} {B : List Pl} (h : Inv row S [] B) (hS : S ≠ []) : B ≠ [] := fun e => by
  subst e
  have := h.allB.length_eq
  rw [List.length_map] at this
  exact hS (List.eq_nil_of_length_eq_zero this.symm)

theorem not_lt_row {x y : Pl} (h : ¬ Hq.lt y x) : x.1 ≤ y.1 := by unfold Hq.lt at h; omega

theorem filter_same {Q : List Pl} {f g : Pl → Bool} (h : ∀ x ∈ Q, f x = g x) : Q.filter f = Q.filter g := List.filter_congr h

/-- What comes next, and what is left: one of those ahead. -/
theorem Inv.next1 {row : Nat} {S : List Pd} {A B R : List Pl} (h : Inv row S A B) (h0 : A ≠ []) (hl : Hq.Left A R) :
    ∃ d ∈ S, pl d = Hq.nth A 0 ∧ Lf.way row S = d :: Lf.way d.r (Lf.out d S) ∧ Inv d.r (Lf.out d S) R B := by
  have hpos : 0 < A.length := List.length_pos_iff.2 h0
  have hm : Hq.nth A 0 ∈ ups row (S.map pl) := h.pa.mem_iff.1 (Hq.nth_mem hpos)
  obtain ⟨hm1, hm2⟩ := List.mem_filter.1 hm
  obtain ⟨d, hd, hpd⟩ := List.mem_map.1 hm1
  have hrd : row ≤ d.r := by rw [← hpd] at hm2; exact of_decide_eq_true hm2
  have hmin : ∀ y ∈ S.map pl, row ≤ y.1 → ¬ Hq.lt y (pl d) := fun y hy hr => by
    have : y ∈ A := h.pa.mem_iff.2 (List.mem_filter.2 ⟨hy, by simpa using hr⟩)
    obtain ⟨i, hi, e⟩ := List.getElem_of_mem this
    rw [hpd, ← e, ← Hq.nth_eq hi]
    exact h.ha.least i hi
  have hq := out_perm h.srt hd
  have hin : ∀ y ∈ (Lf.out d S).map pl, y ∈ S.map pl := fun y hy => hq.mem_iff.2 (List.mem_cons_of_mem _ hy)
  refine ⟨d, hd, hpd, way_of h.srt hd fun q hqS => ⟨fun _ => hrd, fun hi hl2 => ?_⟩, Lf.srt_out h.srt, fun e he => h.ok e (Lf.mem_out.1 he).1, (h.ok d hd).r, hl.hp, h.hb, ?_, ?_⟩
  · exact hmin (pl q) (List.mem_map_of_mem hqS) (hi.2 hrd) (pl_lt.1 hl2)
  · have e1 : (pl d :: R).Perm (pl d :: ups row ((Lf.out d S).map pl)) := by
      rw [hpd]
      refine (hl.perm.trans h.pa).trans ?_
      have := hq.filter (fun x => decide (row ≤ x.1))
      rw [List.filter_cons_of_pos (p := fun x : Pl => decide (row ≤ x.1)) (decide_eq_true hrd), hpd] at this
      exact this
    refine e1.cons_inv.trans (List.Perm.of_eq (filter_same fun y hy => ?_))
    have hy2 := hin y hy
    by_cases c : row ≤ y.1
    · have := not_lt_row (hmin y hy2 c)
      simp only [pl] at this
      simp [c, this]
    · have : ¬ d.r ≤ y.1 := by omega
      simp [c, this]
  · refine h.pb.trans ?_
    have := hq.filter (fun x => decide (x.1 < row))
    rw [List.filter_cons_of_neg (p := fun x : Pl => decide (x.1 < row)) (fun e => by have h2 : d.r < row := of_decide_eq_true e; omega)] at this
    refine this.trans (List.Perm.of_eq (filter_same fun y hy => ?_))
    have hy2 := hin y hy
    by_cases c : row ≤ y.1
    · have h1 := not_lt_row (hmin y hy2 c)
      simp only [pl] at h1
      have c1 : ¬ y.1 < row := by omega
      have c2 : ¬ y.1 < d.r := by omega
      simp [c1, c2]
    · have c1 : y.1 < row := by omega
      have c2 : y.1 < d.r := by omega
      simp [c1, c2]

/-- .. and where there is none ahead: one of all. -/
theorem Inv.next2 {row : Nat} {S : List Pd} {B R : List Pl} (h : Inv row S [] B) (hS : S ≠ []) (hl : Hq.Left B R) :
    ∃ d ∈ S, pl d = Hq.nth B 0 ∧ Lf.way row S = d :: Lf.way d.r (Lf.out d S) ∧ Inv d.r (Lf.out d S) R [] := by
  have h0 := h.someB hS
  have hpos : 0 < B.length := List.length_pos_iff.2 h0
  have hB := h.allB
  obtain ⟨d, hd, hpd⟩ := List.mem_map.1 (hB.mem_iff.1 (Hq.nth_mem hpos))
  have hlow := h.nilA
  have hmin : ∀ y ∈ S.map pl, ¬ Hq.lt y (pl d) := fun y hy => by
    obtain ⟨i, hi, e⟩ := List.getElem_of_mem (hB.mem_iff.2 hy)
    rw [hpd, ← e, ← Hq.nth_eq hi]
    exact h.hb.least i hi
  have hq := out_perm h.srt hd
  have hin : ∀ y ∈ (Lf.out d S).map pl, y ∈ S.map pl := fun y hy => hq.mem_iff.2 (List.mem_cons_of_mem _ hy)
  have hge : ∀ y ∈ (Lf.out d S).map pl, d.r ≤ y.1 := fun y hy => by
    have := not_lt_row (hmin y (hin y hy))
    simpa [pl] using this
  refine ⟨d, hd, hpd, way_of h.srt hd fun q hqS => ⟨fun hr => ?_, fun _ hl2 => ?_⟩, Lf.srt_out h.srt, fun e he => h.ok e (Lf.mem_out.1 he).1, (h.ok d hd).r, hl.hp, Hq.Hp.nil, ?_, ?_⟩
  · have := hlow (pl q) (List.mem_map_of_mem hqS)
    simp only [pl] at this
    omega
  · exact hmin (pl q) (List.mem_map_of_mem hqS) (pl_lt.1 hl2)
  · have e1 : (pl d :: R).Perm (pl d :: (Lf.out d S).map pl) := by
      rw [hpd]
      refine (hl.perm.trans hB).trans ?_
      rw [hpd] at hq
      exact hq
    refine e1.cons_inv.trans (List.Perm.of_eq ?_)
    exact (List.filter_eq_self.2 fun y hy => by simpa using hge y hy).symm
  · refine List.Perm.of_eq ?_
    exact (List.filter_eq_nil_iff.2 fun y hy => by have := hge y hy; simp; omega).symm

end Go.Proofs.Ytihmegpcbpdipaa
