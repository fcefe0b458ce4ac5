/-
  The document's lift, as things side by side. By an AI agent.
-/
import Derived.Test.YtihmegpcbpdipaaRefLift2
namespace Go.Proofs.Ytihmegpcbpdipaa
open Go.RowKit

def dOf (L : List Pv) : List Pd := L.map (·.1)

def lfT (P : Nat) (lv : Value) (row : Nat) : Thing := blkT P 64 [lv, .int .i64 (row : Int)]
def listT (lv : Value) (L : List Pv) : Thing := wideT 3 49 lv (L.map pvSlot)
def dataT (L : List Pv) : Thing := poolT (L.map pvRow)

/-- What a list holds, sorted. -/
structure Rep (L : List Pv) (S : List Pd) : Prop where
  srt : Lf.Srt S
  mem : ∀ x, x ∈ S ↔ x ∈ dOf L
  apart : (dOf L).Pairwise fun p q => ¬ Lf.same p q

theorem Rep.nil : Rep [] [] := ⟨List.Pairwise.nil, fun x => by simp [dOf], List.Pairwise.nil⟩

theorem Rep.empty {S : List Pd} (h : Rep [] S) : S = [] := by
  cases S with
  | nil => rfl
  | cons a S => have := (h.mem a).1 List.mem_cons_self; simp [dOf] at this

/-- Two of one place are one. -/
theorem Rep.one {L : List Pv} {S : List Pd} (h : Rep L S) {i j : Nat} {p q : Pv} (hi : L[i]? = some p) (hj : L[j]? = some q) (hs : Lf.same p.1 q.1) : i = j := by
  have hi' : (dOf L)[i]? = some p.1 := by unfold dOf; rw [List.getElem?_map, hi]; rfl
  have hj' : (dOf L)[j]? = some q.1 := by unfold dOf; rw [List.getElem?_map, hj]; rfl
  obtain ⟨h1, e1⟩ := List.getElem?_eq_some_iff.1 hi'
  obtain ⟨h2, e2⟩ := List.getElem?_eq_some_iff.1 hj'
  have hp := List.pairwise_iff_getElem.1 h.apart
  rcases Nat.lt_trichotomy i j with hlt | he | hgt
  · exact absurd (by rw [e1, e2]; exact hs) (hp i j h1 h2 hlt)
  · exact he
  · exact absurd (by rw [e1, e2]; exact Lf.same_symm hs) (hp j i h2 h1 hgt)

theorem mem_erase {L : List Pv} {S : List Pd} (h : Rep L S) {i : Nat} {p : Pv} (hi : L[i]? = some p) (x : Pd) : x ∈ dOf (L.eraseIdx i) ↔ x ∈ dOf L ∧ ¬ Lf.same x p.1 := by
  have hil := (List.getElem?_eq_some_iff.1 hi).1
  constructor
  · intro hx
    obtain ⟨q, hq, rfl⟩ := List.mem_map.1 hx
    obtain ⟨j, hj⟩ := List.mem_iff_getElem?.1 hq
    rw [List.getElem?_eraseIdx] at hj
    refine ⟨List.mem_map.2 ⟨q, List.mem_of_mem_eraseIdx hq, rfl⟩, fun hs => ?_⟩
    by_cases c : j < i
    · rw [if_pos c] at hj
      have := h.one hj hi hs
      omega
    · rw [if_neg c] at hj
      have := h.one hj hi hs
      omega
  · rintro ⟨hx, hn⟩
    obtain ⟨q, hq, rfl⟩ := List.mem_map.1 hx
    obtain ⟨j, hj⟩ := List.mem_iff_getElem?.1 hq
    have hne : j ≠ i := fun e => by
      subst e
      rw [hi] at hj
      obtain rfl : p = q := by simpa using hj
      exact hn (Lf.same_refl _)
    refine List.mem_map.2 ⟨q, List.mem_iff_getElem?.2 ?_, rfl⟩
    by_cases c : j < i
    · exact ⟨j, by rw [List.getElem?_eraseIdx, if_pos c]; exact hj⟩
    · exact ⟨j - 1, by rw [List.getElem?_eraseIdx, if_neg (by omega), show j - 1 + 1 = j by omega]; exact hj⟩

theorem Rep.erase {L : List Pv} {S : List Pd} (h : Rep L S) {i : Nat} {p : Pv} (hi : L[i]? = some p) : Rep (L.eraseIdx i) (Lf.out p.1 S) :=
  ⟨Lf.srt_out h.srt, fun x => by rw [Lf.mem_out, mem_erase h hi, h.mem], h.apart.sublist ((List.eraseIdx_sublist L i).map _)⟩

/-- One that comes next begins the way. -/
theorem way_of {row : Nat} {S : List Pd} (h : Lf.Srt S) {p : Pd} (hp : p ∈ S) (hl : ∀ q ∈ S, (row ≤ q.r → row ≤ p.r) ∧ ((row ≤ q.r ↔ row ≤ p.r) → ¬ Lf.lt q p)) : Lf.way row S = p :: Lf.way p.r (Lf.out p S) := by
  cases hw : Lf.way row S with
  | nil => rw [Lf.way_nil hw] at hp; cases hp
  | cons a T =>
    obtain ⟨ha, hal⟩ := Lf.way_head h hw
    have e1 : row ≤ a.r ↔ row ≤ p.r := ⟨(hl a ha).1, (hal p hp).1⟩
    have e : a = p := by
      rcases Lf.tri a p with c | c | c
      · exact absurd c ((hl a ha).2 e1)
      · exact h.ne ha hp c
      · exact absurd c ((hal p hp).2 e1.symm)
    subst e
    rw [Lf.way_next h hw]

theorem Rep.ups {L : List Pv} {S : List Pd} (h : Rep L S) {row i : Nat} {p : Pv} (hi : L[i]? = some p) (hf : row ≤ p.1.r) (hl : ∀ (j : Nat) (q : Pv), j < L.length → L[j]? = some q → row ≤ q.1.r → ¬ Lf.lt q.1 p.1) : Lf.way row S = p.1 :: Lf.way p.1.r (Lf.out p.1 S) := by
  refine way_of h.srt ((h.mem _).2 (List.mem_map.2 ⟨p, List.mem_of_getElem? hi, rfl⟩)) fun q hq => ?_
  obtain ⟨x, hx, rfl⟩ := List.mem_map.1 ((h.mem q).1 hq)
  obtain ⟨j, hj⟩ := List.mem_iff_getElem?.1 hx
  exact ⟨fun _ => hf, fun hi2 => hl j x (List.getElem?_eq_some_iff.1 hj).1 hj (hi2.2 hf)⟩

theorem Rep.downs {L : List Pv} {S : List Pd} (h : Rep L S) {row i : Nat} {p : Pv} (hi : L[i]? = some p) (hno : ∀ (j : Nat) (q : Pv), j < L.length → L[j]? = some q → q.1.r < row) (hl : ∀ (j : Nat) (q : Pv), j < L.length → L[j]? = some q → 0 ≤ q.1.r → ¬ Lf.lt q.1 p.1) : Lf.way row S = p.1 :: Lf.way p.1.r (Lf.out p.1 S) := by
  refine way_of h.srt ((h.mem _).2 (List.mem_map.2 ⟨p, List.mem_of_getElem? hi, rfl⟩)) fun q hq => ?_
  obtain ⟨x, hx, rfl⟩ := List.mem_map.1 ((h.mem q).1 hq)
  obtain ⟨j, hj⟩ := List.mem_iff_getElem?.1 hx
  have hjl := (List.getElem?_eq_some_iff.1 hj).1
  exact ⟨fun hr => absurd hr (by have := hno j x hjl hj; omega), fun _ => hl j x hjl hj (Nat.zero_le _)⟩

theorem Rep.more {L L' : List Pv} {S : List Pd} (h : Rep L S) (p : Pv) (hL : dOf L' = (dOf L).filter (fun q => decide (¬ Lf.same q p.1)) ++ [p.1]) : Rep L' (Lf.ins p.1 S) := by
  refine ⟨Lf.srt_ins h.srt, fun x => ?_, ?_⟩
  · rw [Lf.mem_ins h.srt, hL, List.mem_append, List.mem_filter, List.mem_singleton, h.mem]
    simp only [decide_eq_true_eq]
    constructor
    · rintro (e | e)
      · exact .inr e
      · exact .inl e
    · rintro (e | e)
      · exact .inr e
      · exact .inl e
  · rw [hL]
    refine List.pairwise_append.2 ⟨h.apart.sublist List.filter_sublist, List.pairwise_singleton _ _, fun a ha b hb => ?_⟩
    rw [List.mem_singleton.1 hb]
    simpa using (List.mem_filter.1 ha).2

theorem rowsOf_perm {vs us : List (Value × List Value)} (h : vs.Perm us) {k : Nat} (hk : k ∈ rowsOf vs) : k ∈ rowsOf us := (h.filterMap _).mem_iff.1 hk

theorem Side.poolPerm {w0 w : World} {ts : List Thing} {vs us : List (Value × List Value)} (h : Side w0 w (poolT vs :: ts)) (p : vs.Perm us) : Side w0 w (poolT us :: ts) := by
  have hp : Pool w vs := h.get 0 rfl
  refine h.turn (Chg.refl [] w) (fun k hk => by cases hk) (⟨fun q hq => hp.row q (p.mem_iff.2 hq), ?_⟩ : Pool w us) (fun k hk => .inl (rowsOf_perm p.symm hk))
  refine (List.Perm.pairwise_iff (fun {a b} (q : ∀ g, a.1.ownBlock = some g → b.1.ownBlock ≠ some g) => ?_) p).1 hp.apart
  exact fun g h1 h2 => q g h2 h1

theorem perm_erase {α : Type} : ∀ (l : List α) (i : Nat) (p : α), l[i]? = some p → l.Perm (p :: l.eraseIdx i)
  | [], i, p, h => by simp at h
  | a :: l, 0, p, h => by obtain rfl : a = p := by simpa using h
                          exact List.Perm.refl _
  | a :: l, i + 1, p, h => (List.Perm.cons a (perm_erase l i p (by simpa using h))).trans (List.Perm.swap p a _)

/-- The bytes of the i-th of them by themselves. -/
theorem Side.drawAt {w0 w : World} {ts : List Thing} {L : List Pv} {i : Nat} {p : Pv} (h : Side w0 w (dataT L :: ts)) (hi : L[i]? = some p) : ∃ e, Side w0 w (ownT e p.2 (ub p.1.bs) :: dataT (L.eraseIdx i) :: ts) := by
  have h2 := h.poolPerm ((perm_erase L i p hi).map pvRow)
  exact h2.draw

theorem Pool.sub {w : World} {vs us : List (Value × List Value)} (h : Pool w vs) (s : us.Sublist vs) : Pool w us := ⟨fun p hp => h.row p (s.subset hp), h.apart.sublist s⟩

theorem rowsOf_sub {vs us : List (Value × List Value)} (s : us.Sublist vs) {k : Nat} (hk : k ∈ rowsOf us) : k ∈ rowsOf vs := (s.filterMap _).subset hk

theorem Side.poolSub {w0 w : World} {ts : List Thing} {vs us : List (Value × List Value)} (h : Side w0 w (poolT vs :: ts)) (s : us.Sublist vs) : Side w0 w (poolT us :: ts) :=
  h.turn (b := poolT us) (Chg.refl [] w) (fun k hk => by cases hk) (Pool.sub (h.get 0 rfl) s) (fun _ hk => .inl (rowsOf_sub s hk))

theorem data_erase {w0 w : World} {ts : List Thing} {L : List Pv} (i : Nat) (h : Side w0 w (dataT L :: ts)) : Side w0 w (dataT (L.eraseIdx i) :: ts) := h.poolSub ((List.eraseIdx_sublist L i).map _)

/-- A lift has another list: the old one grown, or a new one. -/
theorem Side.relist {w0 w wn : World} {ts : List Thing} {P row : Nat} {lv lvn : Value} {L L2 : List Pv} (h : Side w0 w (lfT P lv row :: listT lv L :: ts)) (c : Chg lv.ownBlock.toList w wn) (ol : OwnW 3 wn 0 49 lvn (L2.map pvSlot))
    (hb : ∀ k, lvn.ownBlock = some k → lv.ownBlock = some k ∨ w.heap.size ≤ k) : Side w0 (wn.setCell ⟨P, 0, none⟩ lvn) (lfT P lvn row :: listT lvn L2 :: ts) := by
  have hP : Blk w P 64 [lv, .int .i64 (row : Int)] := h.get 0 rfl
  have hoff : lv.ownBlock ≠ some P := fun e => (List.pairwise_cons.1 h.apart).1 _ List.mem_cons_self P (by simp [lfT, blkT]) (by show P ∈ lv.ownBlock.toList; simp [e])
  have hn : lvn.ownBlock ≠ some P := fun e => by
    rcases hb P e with q | q
    · exact hoff q
    · have := hP.lt; omega
  have hP2 : Blk wn P 64 [lv, .int .i64 (row : Int)] := hP.chg c (fun hm => hoff (by simpa using hm))
  have c2 : Chg [P] wn (wn.setCell ⟨P, 0, none⟩ lvn) := (Chg.refl [P] wn).setCell (p := ⟨P, 0, none⟩) (.inl (by simp)) lvn
  refine Side.swap (olds := [lfT P lv row, listT lv L]) (bs := [lfT P lvn row, listT lvn L2]) (s := P :: lv.ownBlock.toList) h ((c.mono (fun k hk => List.mem_cons_of_mem _ hk)).trans (c2.mono (fun k hk => by rw [List.mem_singleton.1 hk]; exact List.mem_cons_self))) (fun k hk => ?_) (fun b hbm => ?_) (fun b hbm k hk => ?_) (List.pairwise_cons.2 ⟨fun b hbm k hk hm => ?_, List.pairwise_singleton _ _⟩)
  · rcases List.mem_cons.1 hk with rfl | hk
    · exact .inl ⟨lfT k lv row, List.mem_cons_self, by simp [lfT, blkT]⟩
    · exact .inl ⟨listT lv L, by simp, hk⟩
  · rcases List.mem_cons.1 hbm with rfl | hbm
    · exact hP2.set 0 lvn
    · rw [List.mem_singleton.1 hbm]
      exact ol.chg c2 (fun k hk hm => hn (by rw [hk]; congr 1; simpa using hm))
  · rcases List.mem_cons.1 hbm with rfl | hbm
    · exact .inl ⟨lfT P lv row, List.mem_cons_self, hk⟩
    · rw [List.mem_singleton.1 hbm] at hk
      rcases hb k (by simpa [listT, wideT] using hk) with q | q
      · exact .inl ⟨listT lv L, by simp, by show k ∈ lv.ownBlock.toList; simp [q]⟩
      · exact .inr q
  · rw [List.mem_singleton.1 hbm] at hm
    have e : k = P := by simpa [lfT, blkT] using hk
    subst e
    exact hn (by simpa [listT, wideT] using hm)

theorem OwnW.cap {s : Nat} {w : World} {base : Nat} {e : TypeId} {ao : Option Addr} {n c : Nat} {xs : List (List Value)} (h : OwnW s w base e (.slice ao n c) xs) : n ≤ c := by
  rcases h.2.2 with ⟨hv, h0⟩ | ⟨g, cap, cur, hv, _, _, h1, _⟩
  · have : n = 0 := by simp at hv; exact hv.2.1
    omega
  · obtain ⟨-, rfl, rfl⟩ : ao = some ⟨g, 0, none⟩ ∧ n = xs.length ∧ c = cap := by simpa using hv
    exact h1

theorem erase_none {L : List Pv} {S : List Pd} (h : Rep L S) {k : Nat} {x : Pv} {d : Pd} (hx : L[k]? = some x) (hs : Lf.same x.1 d) : ∀ (j : Nat) (p : Pv), (L.eraseIdx k)[j]? = some p → ¬ Lf.same p.1 d := fun j p hp k2 => by
  have h1 := (mem_erase h hx p.1).1 (List.mem_map.2 ⟨p, List.mem_of_getElem? hp, rfl⟩)
  exact h1.2 (Lf.same_trans k2 (Lf.same_symm hs))

/-- The lift's three things, whose list and data turned. -/
theorem Side.cut {w0 w wn : World} {ts : List Thing} {B : Thing} {P row : Nat} {lv lvn : Value} {L : List Pv} {i : Nat} (h : Side w0 w (B :: lfT P lv row :: listT lv L :: dataT L :: ts)) (c : Chg [] w wn) (ol : OwnW 3 wn w.heap.size 49 lvn ((L.eraseIdx i).map pvSlot)) :
    Side w0 (wn.setCell ⟨P, 0, none⟩ lvn) (B :: lfT P lvn row :: listT lvn (L.eraseIdx i) :: dataT (L.eraseIdx i) :: ts) := by
  have h1 : Side w0 w (lfT P lv row :: listT lv L :: B :: dataT L :: ts) := (h.front 2).front 2
  have h2 := h1.relist (c.mono (by simp)) (ol.lower (Nat.zero_le _)) (fun k hk => .inr (ol.lt k hk).1)
  have h3 : Side w0 _ (dataT L :: lfT P lvn row :: listT lvn (L.eraseIdx i) :: B :: ts) := h2.front 3
  have h4 := data_erase i h3
  exact ((h4.front 2).front 2).front 3

theorem nb_of {lvn lv : Value} {H H0 : Nat} {A : Prop} (h : lvn.ownBlock = lv.ownBlock ∨ (lvn.ownBlock = some H ∧ A)) (hH : H0 ≤ H) : ∀ k, lvn.ownBlock = some k → lv.ownBlock = some k ∨ H0 ≤ k := fun k hk => by
  rcases h with q | ⟨q, _⟩
  · exact .inl (by rw [← q]; exact hk)
  · rw [q] at hk
    obtain rfl : H = k := by simpa using hk
    exact .inr hH

theorem put_end {w0 w1 wn : World} {ts : List Thing} {B : Thing} {P row n : Nat} {lv bv lvn : Value} {L : List Pv} {d : Pd} (h : Side w0 w1 (ownT 5 bv (ub d.bs) :: B :: lfT P lv row :: listT lv L :: dataT L :: ts))
    (c : Chg lv.ownBlock.toList w1 wn) (hn : n = L.length + 1) (ol : wn.ownsRow 0 49 3 lvn n ((L.map pvSlot).flatten ++ [.int .i64 (d.m : Int), .int .i64 (d.r : Int), bv])) (nb : ∀ k, lvn.ownBlock = some k → lv.ownBlock = some k ∨ w1.heap.size ≤ k) :
    Side w0 (wn.setCell ⟨P, 0, none⟩ lvn) (lfT P lvn row :: listT lvn (L ++ [(d, bv)]) :: dataT (L ++ [(d, bv)]) :: ts) := by
  have h1 : Side w0 w1 (lfT P lv row :: listT lv L :: ownT 5 bv (ub d.bs) :: B :: dataT L :: ts) := (h.front 3).front 3
  have h2 := h1.relist (L2 := L ++ [(d, bv)]) c (⟨pv_slots _, by
    have e : ((L ++ [(d, bv)]).map pvSlot).flatten = (L.map pvSlot).flatten ++ [.int .i64 (d.m : Int), .int .i64 (d.r : Int), bv] := by
      rw [flat_append3]
      rfl
    rw [e, List.length_map, List.length_append, List.length_singleton, ← hn]
    exact ol⟩) nb
  have h3 : Side w0 (wn.setCell ⟨P, 0, none⟩ lvn) (ownT 5 bv (ub d.bs) :: dataT L :: lfT P lvn row :: listT lvn (L ++ [(d, bv)]) :: B :: ts) := (h2.front 4).front 3
  have h4 := h3.pool
  have h5 : Side w0 (wn.setCell ⟨P, 0, none⟩ lvn) (dataT (L ++ [(d, bv)]) :: lfT P lvn row :: listT lvn (L ++ [(d, bv)]) :: B :: ts) := by
    unfold dataT
    rw [List.map_append]
    exact h4
  have h6 : Side w0 (wn.setCell ⟨P, 0, none⟩ lvn) (B :: dataT (L ++ [(d, bv)]) :: lfT P lvn row :: listT lvn (L ++ [(d, bv)]) :: ts) := h5.front 3
  exact (h6.tail.front 2).front 2

end Go.Proofs.Ytihmegpcbpdipaa
