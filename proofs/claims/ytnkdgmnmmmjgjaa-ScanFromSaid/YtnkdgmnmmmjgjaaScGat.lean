/-
  Batches that a law gathers: those that may be written and fit. By an AI agent.
-/
import Derived.Test.YtnkdgmnmmmjgjaaScRng
import Derived.Test.YtnkdgmnmmmjgjaaGTxn
import Derived.Test.YtnkdgmnmmmjgjaaGInPls
namespace Go.Proofs.Ytnkdgmnmmmjgjaa
open Go.RowKit Crc

def pdsOf (d : PlD) : List Pd := d.ps.map pdOf

/-- The sectors of what was gathered. -/
def gchain (first : Nat) (A : List PlD) : List (List Nat) := Sc.chain 9 first (A.map pdsOf)

theorem gchain_snoc (first : Nat) (A : List PlD) (d : PlD) : gchain first (A ++ [d]) = gchain first A ++ Sc.secs 9 (first + A.length) (pdsOf d) := by
  unfold gchain
  rw [List.map_append, List.map_singleton, Sc.chain_snoc, List.length_map]

/-- Where each of them begins. -/
def begs (g : Nat → Nat) (first : Nat) (A : List PlD) : List Nat := (List.range A.length).map fun i => g (gchain first (A.take i)).length

theorem begs_len (g : Nat → Nat) (first : Nat) (A : List PlD) : (begs g first A).length = A.length := by simp [begs]

theorem begs_snoc (g : Nat → Nat) (first : Nat) (A : List PlD) (d : PlD) : begs g first (A ++ [d]) = begs g first A ++ [g (gchain first A).length] := by
  unfold begs
  rw [List.length_append, List.length_singleton, List.range_succ, List.map_append, List.map_singleton, List.take_left]
  congr 1
  refine List.map_congr_left fun i hi => ?_
  rw [List.take_append_of_le_length (Nat.le_of_lt (List.mem_range.1 hi))]

theorem begs_at (g : Nat → Nat) (first : Nat) (A : List PlD) {i : Nat} (hi : i < A.length) : (begs g first A)[i]? = some (g (gchain first (A.take i)).length) := by
  unfold begs
  rw [List.getElem?_map, List.getElem?_range hi]
  rfl

def intV (l : List Nat) : List Value := l.map fun x : Nat => .int .i64 (x : Int)

theorem intV_snoc (l : List Nat) (x : Nat) : intV (l ++ [x]) = intV l ++ [.int .i64 (x : Int)] := by simp [intV]

theorem intV_len (l : List Nat) : (intV l).length = l.length := by simp [intV]

/-- The cells of what was gathered. -/
def txA (first : Nat) (A : List PlD) : List (List Value) := A.mapIdx fun i d => [.int .u64 ((first + i : Nat) : Int), d.v]

theorem txA_len (first : Nat) (A : List PlD) : (txA first A).length = A.length := by simp [txA]

theorem txA_snoc (first : Nat) (A : List PlD) (d : PlD) : txA first (A ++ [d]) = txA first A ++ [[.int .u64 ((first + A.length : Nat) : Int), d.v]] := by simp [txA, List.mapIdx_append]

theorem txA_at (first : Nat) {A : List PlD} {i : Nat} {d : PlD} (h : A[i]? = some d) : (txA first A)[i]? = some [.int .u64 ((first + i : Nat) : Int), d.v] := by
  unfold txA
  rw [List.getElem?_mapIdx, h]
  rfl

/-- What was gathered. -/
def gathTs (av bv tv : Value) (g : Nat → Nat) (first : Nat) (A : List PlD) (vs : List Rw) : List Thing :=
  [wideT 1 23 av (rwSlots vs), poolT vs, ownT 3 bv (intV (begs g first A)), wideT 2 33 tv (txA first A)]

structure GoodA (n first : Nat) (ds A : List PlD) (vs : List Rw) : Prop where
  mem : ∀ d ∈ A, d ∈ ds ∧ Sc.Good (pdsOf d) ∧ ∀ p ∈ d.ps, PdIs p (pdOf p)
  rows : vs.map (·.2) = (gchain first A).map ub
  fits : (gchain first A).length ≤ n
  
theorem GoodA.nil (n first : Nat) (ds : List PlD) : GoodA n first ds [] [] := ⟨fun d h => (by cases h), rfl, Nat.zero_le _⟩

theorem GoodA.len {n first : Nat} {ds A : List PlD} {vs : List Rw} (h : GoodA n first ds A vs) : vs.length = (gchain first A).length := by have := congrArg List.length h.rows; simpa using this

theorem gchain_few (first : Nat) {A : List PlD} : A.length ≤ (gchain first A).length := by
  unfold gchain
  have : ∀ (L : List (List Pd)) (s : Nat), L.length ≤ (Sc.chain 9 s L).length := fun L => by
    induction L with
    | nil => intro s; exact Nat.zero_le _
    | cons a L ih => intro s; show L.length + 1 ≤ (Sc.secs 9 s a ++ Sc.chain 9 (s + 1) L).length; rw [List.length_append, Sc.secs_len]; have := ih (s + 1); omega
  have h := this (A.map pdsOf) first
  rw [List.length_map] at h
  exact h

theorem GoodA.snoc {n first : Nat} {ds A : List PlD} {vs vs2 : List Rw} {d : PlD} (h : GoodA n first ds A vs) (hd : d ∈ ds) (hg : Sc.Good (pdsOf d)) (hp : ∀ p ∈ d.ps, PdIs p (pdOf p)) (hv : vs2.map (·.2) = (Sc.secs 9 (first + A.length) (pdsOf d)).map ub) (hf : (gchain first A).length + vs2.length ≤ n) : GoodA n first ds (A ++ [d]) (vs ++ vs2) := by
  have hl : vs2.length = (Sc.secs 9 (first + A.length) (pdsOf d)).length := by have := congrArg List.length hv; simpa using this
  refine ⟨fun x hx => ?_, ?_, ?_⟩
  · rcases List.mem_append.1 hx with hx | hx
    · exact h.mem x hx
    · rw [List.mem_singleton.1 hx]
      exact ⟨hd, hg, hp⟩
  · rw [List.map_append, h.rows, hv, gchain_snoc, List.map_append]
  · rw [gchain_snoc, List.length_append, ← hl]
    exact hf

theorem GoodA.good {n first : Nat} {ds A : List PlD} {vs : List Rw} (h : GoodA n first ds A vs) : ∀ l ∈ A.map pdsOf, Sc.Good l := fun l hl => by
  obtain ⟨d, hd, rfl⟩ := List.mem_map.1 hl
  exact (h.mem d hd).2.1

/-- One row of cells of its own has more. -/
theorem more_own {w0 w1 wn : World} {ts : List Thing} {n : Nat} {e : TypeId} {v vn : Value} {xs news : List Value} (h : Side w0 w1 ts) (i : Nat) (hi : ts[i]? = some (ownT e v xs)) (c : Chg v.ownBlock.toList w1 wn)
    (ol : wn.ownsRow 0 e 1 vn n (xs ++ news)) (nb : ∀ k, vn.ownBlock = some k → v.ownBlock = some k ∨ w1.heap.size ≤ k) : Side w0 wn (ts.set i (ownT e vn (xs ++ news))) := by
  have hn : (xs ++ news).length = n := owns_len ol
  subst hn
  refine h.turnAt i hi c (fun k hk => .inl hk) ol (fun k hk => ?_)
  have hk' : vn.ownBlock = some k := by simpa [ownT] using hk
  rcases nb k hk' with q | q
  · exact .inl (by show k ∈ v.ownBlock.toList; simp [q])
  · exact .inr q

theorem more_wideAt {w0 w1 wn : World} {ts : List Thing} {s n : Nat} {e : TypeId} {v vn : Value} {A X : List (List Value)} (h : Side w0 w1 ts) (i : Nat) (hi : ts[i]? = some (wideT s e v A)) (hX : Slots s X) (c : Chg v.ownBlock.toList w1 wn)
    (hn : n = A.length + X.length) (ol : wn.ownsRow 0 e s vn n (A.flatten ++ X.flatten)) (nb : ∀ k, vn.ownBlock = some k → v.ownBlock = some k ∨ w1.heap.size ≤ k) : Side w0 wn (ts.set i (wideT s e vn (A ++ X))) := by
  have h0 : OwnW s w1 0 e v A := h.get i hi
  refine h.turnAt i hi c (fun k hk => .inl hk) (⟨h0.1.app hX, ?_⟩ : OwnW s wn 0 e vn (A ++ X)) (fun k hk => ?_)
  · rw [List.length_append, ← hn, List.flatten_append]
    exact ol
  · have hk' : vn.ownBlock = some k := by simpa [wideT] using hk
    rcases nb k hk' with q | q
    · exact .inl (by show k ∈ v.ownBlock.toList; simp [q])
    · exact .inr q

/-- Rows more, beside other things. -/
theorem more_rows' {w0 w1 wn : World} {n : Nat} {lv lvn : Value} {vs us : List Rw} {ts : List Thing} (h : Side w0 w1 (poolT us :: wideT 1 23 lv (rwSlots vs) :: poolT vs :: ts)) (c : Chg lv.ownBlock.toList w1 wn) (hn : n = vs.length + us.length) (ol : wn.ownsRow 0 23 1 lvn n (vs.map (·.1) ++ us.map (·.1))) (nb : ∀ k, lvn.ownBlock = some k → lv.ownBlock = some k ∨ w1.heap.size ≤ k) :
    Side w0 wn (wideT 1 23 lvn (rwSlots (vs ++ us)) :: poolT (vs ++ us) :: ts) := by
  have h1 : Side w0 w1 (wideT 1 23 lv (rwSlots vs) :: poolT us :: poolT vs :: ts) := h.front 1
  have h2 := more_wides (X := rwSlots us) h1 (rwSlots_slots us) c (by simp [rwSlots]; exact hn) (by rw [rwSlots_flat, rwSlots_flat]; exact ol) nb
  have h3 : Side w0 wn (poolT us :: poolT vs :: wideT 1 23 lvn (rwSlots vs ++ rwSlots us) :: ts) := ((h2.front 1).front 2).front 1
  have h4 := h3.poolJoin
  have e : rwSlots (vs ++ us) = rwSlots vs ++ rwSlots us := by simp [rwSlots]
  rw [e]
  exact h4.front 1

def rowDs (vs : List Rw) (S : List (List Nat)) : List RowD := (List.range S.length).map fun i => ⟨(vs.getD i (.slice none 0 0, [])).1, ints (S.getD i [])⟩

theorem rowDs_secs (vs : List Rw) (S : List (List Nat)) : SecRows (rowDs vs S) S := by
  unfold SecRows rowDs
  rw [List.map_map]
  refine List.ext_getElem (by simp) (fun i h1 h2 => ?_)
  have hi : i < S.length := by simpa using h1
  simp [List.getElem?_eq_getElem hi]

/-- Rows that came out, as they read. -/
theorem rows_rws {w : World} {lv : Value} {vs : List Rw} {S : List (List Nat)} (ow : OwnW 1 w 0 23 lv (rwSlots vs)) (pl : Pool w vs) (hv : vs.map (·.2) = S.map ub) (h8 : ∀ x ∈ S, x.length = 128 ∧ Bs x) (hS : S.length ≤ 100000) : Rws w lv (rowDs vs S) := by
  have R := ow.rd
  have hl : (rowDs vs S).length = S.length := by simp [rowDs]
  have hvl := rows_len hv
  obtain ⟨lo, lc, hlv⟩ := R.slice
  rw [show (rwSlots vs).length = S.length by simp [rwSlots, hvl]] at hlv
  subst hlv
  by_cases hz : S.length = 0
  · refine .inl ⟨List.eq_nil_of_length_eq_zero (by rw [hl, hz]), lo, lc, ?_⟩
    rw [hz]
  have X : ∀ k, k < S.length → ∃ p s, vs[k]? = some p ∧ S[k]? = some s ∧ p.2 = ub s ∧ (rwSlots vs)[k]? = some [p.1] ∧ (rowDs vs S)[k]? = some ⟨p.1, ints s⟩ := fun k hk => by
    have hs : S[k]? = some S[k] := List.getElem?_eq_getElem hk
    obtain ⟨p, hp, hps⟩ := row_get hv hs
    refine ⟨p, _, hp, hs, hps, ?_, ?_⟩
    · unfold rwSlots; rw [List.getElem?_map, hp]; rfl
    · simp [rowDs, List.getElem?_map, List.getElem?_range hk, List.getD_eq_getElem?_getD, hp, hs]
  obtain ⟨p0, _, _, _, _, e0, _⟩ := X 0 (by omega)
  obtain ⟨g, rfl, _⟩ := R.at e0
  refine .inr ⟨g, 0, lc, by rw [hl], (ow.2.lt g (by simp [Value.ownBlock])).2, by rw [hl]; omega, fun k d hd => ?_⟩
  have hk : k < S.length := by rw [← hl]; exact (List.getElem?_eq_some_iff.1 hd).1
  obtain ⟨p, s, hp, hs, hps, e1, e2⟩ := X k hk
  obtain rfl : d = ⟨p.1, ints s⟩ := by rw [e2] at hd; exact (Option.some.inj hd).symm
  obtain ⟨g', hg', hc⟩ := R.at e1
  obtain rfl : g = g' := by injection hg' with h9; injection h9
  obtain ⟨e3, ho⟩ := pl.row p (List.mem_of_getElem? hp)
  rw [hps] at ho
  have hsl : Sl w p.1 (ints s) := Sl.owned (show w.ownsRow 0 e3 1 p.1 (ub s).length ((ints s).map (Value.int .u8)) from ho)
  exact ⟨by have := hc 0 p.1 rfl; simpa using this, hsl, ints_by (h8 s (List.mem_of_getElem? hs)).2, by show (ints s).length ≤ _; rw [ints_length, (h8 s (List.mem_of_getElem? hs)).1]; decide⟩

/-- What was gathered, as it reads. -/
def txDs (first : Nat) (A : List PlD) : List TxD := A.mapIdx fun i d => ⟨((first + i : Nat) : Int), d.v, d.ps⟩

theorem txDs_len (first : Nat) (A : List PlD) : (txDs first A).length = A.length := by simp [txDs]

theorem txDs_at (first : Nat) {A : List PlD} {i : Nat} {d : PlD} (h : A[i]? = some d) : (txDs first A)[i]? = some ⟨((first + i : Nat) : Int), d.v, d.ps⟩ := by
  unfold txDs
  rw [List.getElem?_mapIdx, h]
  rfl

theorem txs_of_wide {w : World} {tv : Value} {xs : List (List Value)} {ds : List TxD} (ow : OwnW 2 w 0 33 tv xs) (hl : xs.length = ds.length) (hb : ds.length ≤ 100000) (h : ∀ (i : Nat) (d : TxD), ds[i]? = some d → xs[i]? = some [.int .u64 d.sq, d.v] ∧ Pts w d.v d.ps) : Txs w tv ds := by
  have R := ow.rd
  obtain ⟨lo, lc, hlv⟩ := R.slice
  rw [hl] at hlv
  subst hlv
  by_cases hz : ds.length = 0
  · refine .inl ⟨List.eq_nil_of_length_eq_zero hz, lo, lc, ?_⟩
    rw [hz]
  obtain ⟨g, rfl, _⟩ := R.at (h 0 ds[0] (List.getElem?_eq_getElem (by omega))).1
  refine .inr ⟨g, 0, lc, rfl, (ow.2.lt g (by simp [Value.ownBlock])).2, by omega, fun i d hd => ?_⟩
  obtain ⟨h1, h2⟩ := h i d hd
  obtain ⟨g', hg', hc⟩ := R.at h1
  obtain rfl : g = g' := by injection hg' with h9; injection h9
  rw [Nat.zero_add]
  exact ⟨by have := hc 0 _ rfl; rw [Nat.add_zero] at this; exact this, hc 1 _ rfl, h2⟩

theorem txs_gath {w : World} {tv : Value} {first : Nat} {A : List PlD} (ow : OwnW 2 w 0 33 tv (txA first A)) (hb : A.length ≤ 100000) (h : ∀ d ∈ A, Pts w d.v d.ps) : Txs w tv (txDs first A) := by
  refine txs_of_wide ow (by rw [txA_len, txDs_len]) (by rw [txDs_len]; exact hb) fun i d hd => ?_
  have hi : i < A.length := by rw [← txDs_len first A]; exact (List.getElem?_eq_some_iff.1 hd).1
  have ha := List.getElem?_eq_getElem hi
  rw [txDs_at first ha] at hd
  obtain rfl := Option.some.inj hd
  exact ⟨txA_at first ha, h _ (List.getElem_mem hi)⟩

def txFs (sq : Nat) (T : List Tx) : List TxD := T.mapIdx fun i t => ⟨((sq + i : Nat) : Int), t.1, t.2.map toPt⟩

theorem txFs_len (sq : Nat) (T : List Tx) : (txFs sq T).length = T.length := by simp [txFs]

theorem txFs_at (sq : Nat) {T : List Tx} {i : Nat} {t : Tx} (h : T[i]? = some t) : (txFs sq T)[i]? = some ⟨((sq + i : Nat) : Int), t.1, t.2.map toPt⟩ := by
  unfold txFs
  rw [List.getElem?_mapIdx, h]
  rfl

/-- What was found, as it reads. -/
theorem txs_found {w0 w : World} {ts : List Thing} {tv : Value} {sq : Nat} {T : List Tx} (h : Side w0 w (wideT 2 33 tv (txSlots sq T) :: poolWT 3 49 (listsOf T) :: poolT (dataOf T) :: ts)) (hT : T.length ≤ 100000) (hg : ∀ t ∈ T, Sc.Good (dOf t.2)) : Txs w tv (txFs sq T) := by
  have ow : OwnW 2 w 0 33 tv (txSlots sq T) := h.get 0 rfl
  have pw : PoolW 3 w 49 (listsOf T) := h.get 1 rfl
  have pd : Pool w (dataOf T) := h.get 2 rfl
  refine txs_of_wide ow (by rw [txSlots_len, txFs_len]) (by rw [txFs_len]; exact hT) fun i d hd => ?_
  have hi : i < T.length := by rw [← txFs_len sq T]; exact (List.getElem?_eq_some_iff.1 hd).1
  have ha := List.getElem?_eq_getElem hi
  rw [txFs_at sq ha] at hd
  obtain rfl := Option.some.inj hd
  have hg := hg _ (List.getElem_mem hi)
  generalize T[i] = t at *
  have o2 := pw.row (t.1, t.2.map pvSlot) (List.mem_of_getElem? (i := i) (by unfold listsOf; rw [List.getElem?_map, ha]; rfl))
  have M : ∀ p ∈ t.2, Sc.PtOk p.1 := fun p hp => hg.2.2 p.1 (List.mem_map_of_mem hp)
  have hl : t.2.length ≤ 1023 := by have := hg.2.1; unfold dOf at this; rw [List.length_map] at this; exact this
  exact ⟨by unfold txSlots; rw [List.getElem?_mapIdx, ha]; rfl, pts_of2 o2 (fun p hp => pd.row (pvRow p) (List.mem_flatMap.2 ⟨t, List.mem_of_getElem? ha, List.mem_map_of_mem hp⟩)) (by omega) (fun p hp => by rw [(M p hp).2.2.1]; decide)⟩

/-- What is found as it was gathered. -/
theorem tx_alike {d : PlD} {A : List Pv} (h : dOf A = pdsOf d) (hp : ∀ p ∈ d.ps, PdIs p (pdOf p)) (sq : Int) (v : Value) : TxD.alike ⟨sq, v, A.map toPt⟩ ⟨sq, d.v, d.ps⟩ := by
  have hl : A.length = d.ps.length := by
    have := congrArg List.length h
    unfold dOf pdsOf at this
    rw [List.length_map, List.length_map] at this
    exact this
  refine ⟨rfl, by rw [List.length_map]; exact hl, fun i x y hx hy => ?_⟩
  dsimp only at hx hy
  rw [List.getElem?_map] at hx
  obtain ⟨p, hpi, rfl⟩ := Option.map_eq_some_iff.1 hx
  have e1 : (dOf A)[i]? = some p.1 := by unfold dOf; rw [List.getElem?_map, hpi]; rfl
  have e2 : (pdsOf d)[i]? = some (pdOf y) := by unfold pdsOf; rw [List.getElem?_map, hy]; rfl
  rw [h, e2] at e1
  have e := Option.some.inj e1
  have P := hp y (List.mem_of_getElem? hy)
  rw [e] at P
  exact ⟨P.m.symm, P.r.symm, P.d.symm⟩

theorem chg_app {v : Value} {w w1 : World} {o : Obj} (gr : (w.alloc o).grownBy w1 v.ownBlock) : Chg v.ownBlock.toList w w1 :=
  (((Chg.refl [] w).alloc o).mono (by simp)).grown gr (fun j hj => .inl (by rw [hj]; simp))

/-- Where the next one begins. -/
theorem gath_beg {w0 w4 w5 : World} {lv av bv bv' tv : Value} {vs2 vs : List Rw} {tb m B : Nat} {cs : List Value} {G : Nat → Nat} {fi : Nat} {A : List PlD} {o : Obj}
    (h : Hid (Side w0 w4 (rowsTs lv vs2 ++ (blkT tb 33 cs :: gathTs av bv tv G fi A vs))))
    (ol : Hid (w5.ownsRow 0 3 1 bv' (m + 1) (intV (begs G fi A) ++ [.int .i64 (B : Int)]))) (gr : Hid ((w4.alloc o).grownBy w5 bv.ownBlock)) (nb : Hid (bv'.ownBlock = bv.ownBlock ∨ (bv'.ownBlock = some (w4.alloc o).heap.size ∧ (w4.alloc o).grownBy w5 none))) :
    Hid (Side w0 w5 [wideT 1 23 lv (rwSlots vs2), poolT vs2, wideT 1 23 av (rwSlots vs), poolT vs, blkT tb 33 cs, ownT 3 bv' (intV (begs G fi A ++ [B])), wideT 2 33 tv (txA fi A)]) := by
  have h0 : Side w0 w4 [wideT 1 23 lv (rwSlots vs2), poolT vs2, blkT tb 33 cs, wideT 1 23 av (rwSlots vs), poolT vs, ownT 3 bv (intV (begs G fi A)), wideT 2 33 tv (txA fi A)] := h.out
  have h1 := more_own h0 5 rfl (chg_app gr.out) ol.out (nb_of nb.out (by simp))
  rw [← intV_snoc] at h1
  exact (((h1.front 4).front 4).front 3).front 3

/-- Its sectors. -/
theorem gath_rows {w0 w5 w6 : World} {lv av av' bv tv : Value} {vs2 vs : List Rw} {tb n : Nat} {cs xs : List Value} {x : List (List Value)}
    (h : Hid (Side w0 w5 [wideT 1 23 lv (rwSlots vs2), poolT vs2, wideT 1 23 av (rwSlots vs), poolT vs, blkT tb 33 cs, ownT 3 bv xs, wideT 2 33 tv x])) (hn : n = vs.length + vs2.length)
    (ol : Hid (w6.ownsRow 0 23 1 av' n (vs.map (·.1) ++ vs2.map (·.1)))) (gr : Hid (w5.grownBy w6 av.ownBlock)) (nb : Hid (av'.ownBlock = av.ownBlock ∨ (av'.ownBlock = some w5.heap.size ∧ w5.grownBy w6 none))) :
    Hid (Side w0 w6 [wideT 1 23 av' (rwSlots (vs ++ vs2)), poolT (vs ++ vs2), blkT tb 33 cs, ownT 3 bv xs, wideT 2 33 tv x]) :=
  more_rows' h.out.tail (((Chg.refl _ w5)).grown gr.out (fun j hj => .inl (by rw [hj]; simp))) hn ol.out (nb_of nb.out (Nat.le_refl _))

/-- The batch itself. -/
theorem gath_txn {w0 w6 w7 : World} {av bv tv tv' : Value} {vs : List Rw} {tb m q B : Nat} {cs : List Value} {G : Nat → Nat} {fi : Nat} {A : List PlD} {d : PlD} {o : Obj}
    (h : Hid (Side w0 w6 [wideT 1 23 av (rwSlots vs), poolT vs, blkT tb 33 cs, ownT 3 bv (intV (begs G fi A ++ [B])), wideT 2 33 tv (txA fi A)])) (hm : m = A.length) (hq : q = fi + m) (hB : B = G (gchain fi A).length)
    (ol : Hid (w7.ownsRow 0 33 2 tv' (m + 1) ((txA fi A).flatten ++ [.int .u64 (q : Int), d.v]))) (gr : Hid ((w6.alloc o).grownBy w7 tv.ownBlock)) (nb : Hid (tv'.ownBlock = tv.ownBlock ∨ (tv'.ownBlock = some (w6.alloc o).heap.size ∧ (w6.alloc o).grownBy w7 none))) :
    Hid (Side w0 w7 (gathTs av bv tv' G fi (A ++ [d]) vs)) := by
  have h1 := more_wideAt (X := [[.int .u64 (q : Int), d.v]]) h.out 4 rfl (fun y hy => by rw [List.mem_singleton.1 hy]; rfl) (chg_app gr.out) (by rw [txA_len, hm]; rfl) ol.out (nb_of nb.out (by simp))
  have h2 : Side w0 w7 [wideT 1 23 av (rwSlots vs), poolT vs, ownT 3 bv (intV (begs G fi A ++ [B])), wideT 2 33 tv' (txA fi A ++ [[.int .u64 (q : Int), d.v]])] := (h1.front 2).tail
  show Side _ _ _
  unfold gathTs
  rw [begs_snoc, txA_snoc, ← hB, ← hm, ← hq]
  exact h2

theorem rows_slices {w0 w : World} {ts : List Thing} {vs : List Rw} (h : Side w0 w ts) (j : Nat) (hj : ts[j]? = some (poolT vs)) : ∀ u ∈ vs.map (·.1), u.oneCell' = true := fun u hu => by
  obtain ⟨p, hp, rfl⟩ := List.mem_map.1 hu
  have pl : Pool w vs := h.get j hj
  obtain ⟨e1, ho⟩ := pl.row p hp
  obtain ⟨ao, c, e⟩ := owns_slice ho
  rw [e]
  rfl

theorem rows_cells {w : World} {g x n : Nat} {vs : List Rw} (h : OwnW 1 w 0 23 (.slice (some ⟨g, 0, none⟩) n x) (rwSlots vs)) (hn : n = vs.length) : ∀ j u, (vs.map (·.1))[j]? = some u → w.cell? ((⟨g, 0, none⟩ : Addr).add j) = some u := fun j u hj => by
  have k := rows_own h hn.symm
  rw [Addr.add_lit, Nat.zero_add]
  exact ownsRow_cellAt k hj

theorem rows_lv {w : World} {lv : Value} {vs : List Rw} (h : OwnW 1 w 0 23 lv (rwSlots vs)) (hp : 1 ≤ vs.length) : ∃ g x, lv = .slice (some ⟨g, 0, none⟩) vs.length x := by
  obtain ⟨ao, c, e⟩ := h.slice
  have hl : (rwSlots vs).length = vs.length := by simp [rwSlots]
  rw [hl] at e
  subst e
  obtain ⟨g, rfl⟩ := h.head (by rw [hl]; exact hp)
  exact ⟨g, c, rfl⟩

/-- What Of tells, and what it is. -/
def OfF (w : World) (sq : Nat) (L : List (List Pd)) (k nx hd us : Nat) (e : Ending) (w' : World) : Prop := ∃ ao c T, e = .returned (.tuple #[.agg #[.slice ao k c, .int .u64 (nx : Int), .int .i64 (hd : Int), .int .i64 (us : Int)], .int .u16 0]) ∧ Hid (found T = L) ∧
  Hid (Side w w' [wideT 2 33 (.slice ao k c) (txSlots sq T), poolWT 3 49 (listsOf T), poolT (dataOf T)])

theorem of_found {bs : List Nat} {n ep sq tl u : Nat} {L : List (List Pd)} (hd : Sc.Done bs ep tl sq L u) (ok : OfOk n ep sq tl bs) (hb : Bs bs) (rb ro cap : Nat) (w : World) (hcap : 128 * n ≤ cap) (hrb : rb < w.heap.size) (hsl : Sl w (.slice (some ⟨rb, ro, none⟩) (128 * n) cap) (ints bs)) :
    Calls Try.prog 12 #[.slice (some ⟨rb, ro, none⟩) (128 * n) cap, .agg #[.int .u64 (ep : Int), .int .u64 (sq : Int), .int .i64 (tl : Int)]] w (OfF w sq L L.length (sq + L.length) ((tl + u) % n) u) := by
  refine (of_ok ok hb rb ro cap w hcap hrb hsl).mono ?_
  rintro e w' ⟨tv, T, u', D, rfl, H⟩
  obtain ⟨e1, rfl⟩ := D.uniq hd
  have hl : T.length = L.length := by rw [← e1]; simp [found]
  have ow : OwnW 2 w' 0 33 tv (txSlots sq T) := H.out.get 0 rfl
  obtain ⟨ao, c, hv⟩ := ow.slice
  rw [txSlots_len, hl] at hv
  refine ⟨ao, c, T, ?_, e1, ?_⟩
  · rw [hv, hl]
    rfl
  · rw [← hv]
    exact H

end Go.Proofs.Ytnkdgmnmmmjgjaa
