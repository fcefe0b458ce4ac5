/-
  Two lists of patches that are alike: SamePatches says so. By an AI agent.
-/
import Derived.Test.YtkafkdlgflkjgaaGreatBG
import Derived.Test.YtkafkdlgflkjgaaGreatBGIn
namespace Go.Proofs.YtkafkdlgflkjgaaGreat
open Go.RowKit

set_option maxHeartbeats 1000000 in
set_option maxRecDepth 100000 in
theorem samePts_true (va vb : Value) (as_ bs : List PtD) (w : World) (ha : Pts w va as_) (hb : Pts w vb bs) (hl : as_.length = bs.length) (hal : ∀ (i : Nat) (p q : PtD), as_[i]? = some p → bs[i]? = some q → p.alike q) :
 Calls Tryz.prog 118 #[va, vb] w fun e w' => e = .returned (.bool true) ∧ ∃ q, w' = w.drewN q := by
 have hbig := ha.len
 obtain ⟨ao, ac, rfl⟩ := ha.slice
 obtain ⟨bo, bc, rfl⟩ := hb.slice
 rw [← hl]
 have HA := Lib.hid ha
 have HB := Lib.hid hb
 have HL := Lib.hid hl
 have AL := Lib.hid hal
 clear ha hb hl hal
 go_enter Tryz.func118, Tryz.ntmps118
 go_wp2_with fail
 go_loopw [5] (fun i wr => ∃ k : Nat, k ≤ as_.length ∧ i = .int .i64 k ∧ ∃ q, wr = w.drewN q) (fun i _ => as_.length - (intOf i).toNat)
 case atStart => exact ⟨0, Nat.zero_le _, rfl, 0, rfl⟩
 case round =>
  obtain ⟨k, hk, rfl, q, rfl⟩ := hrel
  by_cases hlt : k < as_.length
  ·obtain ⟨x, hx⟩ : ∃ x, as_[k]? = some x := ⟨_, List.getElem?_eq_getElem hlt⟩
   obtain ⟨y, hy⟩ : ∃ y, bs[k]? = some y := ⟨_, List.getElem?_eq_getElem (by rw [← HL.out]; exact hlt)⟩
   obtain ⟨e1, e2, e3⟩ := AL.out k x y hx hy
   obtain ⟨g, o, rfl, hg, I⟩ := HA.out.at hx
   obtain ⟨g2, o2, rfl, hg2, J⟩ := HB.out.at hy
   have c0 := I.c0
   have c1 := I.c1
   have c2 := I.c2
   have d0 := J.c0
   have d1 := J.c1
   have d2 := J.c2
   have SA := I.sl
   have SB := J.sl
   rw [← e3] at SB
   rw [← e1] at d0
   rw [← e2] at d1
   have big := Lib.hid I.big
   obtain ⟨xm, xr, xv, xd⟩ := x
   obtain ⟨ym, yr, yv, yd⟩ := y
   dsimp only at c0 c1 c2 d0 d1 d2 SA SB big
   obtain ⟨xo, xc, rfl⟩ := SA.slice
   obtain ⟨yo, yc, rfl⟩ := SB.slice
   replace SA := Lib.hid (SA.chgNil ((Chg.refl _ _).drewN q))
   replace SB := Lib.hid (SB.chgNil ((Chg.refl _ _).drewN q))
   obtain ⟨W, hW⟩ : ∃ W, W = w.drewN q := ⟨_, rfl⟩
   have b0 : W.cell? ⟨g, o + k * 3, none⟩ = some (.int .i64 xm) := by rw [hW]; exact c0
   have b1 : W.cell? ⟨g, o + k * 3 + 1, none⟩ = some (.int .i64 xr) := by rw [hW]; exact c1
   have b2 : W.cell? ⟨g, o + k * 3 + 2, none⟩ = some (.slice xo xd.length xc) := by rw [hW]; exact c2
   have b3 : W.cell? ⟨g2, o2 + k * 3, none⟩ = some (.int .i64 xm) := by rw [hW]; exact d0
   have b4 : W.cell? ⟨g2, o2 + k * 3 + 1, none⟩ = some (.int .i64 xr) := by rw [hW]; exact d1
   have b5 : W.cell? ⟨g2, o2 + k * 3 + 2, none⟩ = some (.slice yo xd.length yc) := by rw [hW]; exact d2
   rw [← hW] at SA SB ⊢
   replace hW := Lib.hid hW
   clear I J hx hy e1 e2 e3 c0 c1 c2 d0 d1 d2
   have hi0 : (0 : Int) ≤ k := Int.natCast_nonneg _
   have hi1 : (k : Int) < as_.length := by omega
   go_wp2_with fail
   go_quiet (first | (go_at_call 47; exact Calls.quiet_of (same_true _ _ _ _ (SA.out.chgNil ((Chg.refl _ _).drewN _)) (SB.out.chgNil ((Chg.refl _ _).drewN _)) big.out)))
   go_wp2_with fail
   exact ⟨⟨k + 1, by omega, by go_num, _, by rw [hW.out, World.drewN_drewN]⟩, by simp [intOf]; omega⟩
  ·go_wp2_with fail
   go_ret
   exact ⟨rfl, _, rfl⟩

end Go.Proofs.YtkafkdlgflkjgaaGreat

/-
  Lists of batches, as they read, and lists of lists of patches. By an AI agent.
-/
namespace Go.Proofs.YtkafkdlgflkjgaaGreat
open Go.RowKit

/-- A batch: its number, its patches and their slice. -/
structure TxD where
 sq : Int
 v : Value
 ps : List PtD

structure TxIn (w : World) (b o : Nat) (t : TxD) : Prop where
 c0 : w.cell? ⟨b, o, none⟩ = some (.int .u64 t.sq)
 c1 : w.cell? ⟨b, o + 1, none⟩ = some t.v
 pt : Pts w t.v t.ps

/-- The slice v reads as these. -/
def Txs (w : World) (v : Value) (ts : List TxD) : Prop :=
 (ts = [] ∧ ∃ ao c, v = .slice ao 0 c) ∨ ∃ b o c, v = .slice (some ⟨b, o, none⟩) ts.length c ∧ b < w.heap.size ∧ ts.length ≤ 140737488355328 ∧ ∀ i d, ts[i]? = some d → TxIn w b (o + i * 2) d

theorem Txs.slice {w : World} {v : Value} {ds : List TxD} (h : Txs w v ds) : ∃ ao c, v = .slice ao ds.length c := by
 rcases h with ⟨rfl, ao, c, rfl⟩ | ⟨b, o, cp, rfl, _⟩
 ·exact ⟨ao, c, rfl⟩
 ·exact ⟨_, _, rfl⟩

theorem Txs.len {w : World} {v : Value} {ds : List TxD} (h : Txs w v ds) : ds.length ≤ 140737488355328 := by
 rcases h with ⟨rfl, _⟩ | ⟨b, o, cp, rfl, _, h, _⟩
 ·simp
 ·exact h

theorem Txs.at {w : World} {ao : Option Addr} {n c : Nat} {ds : List TxD} (h : Txs w (.slice ao n c) ds) {i : Nat} {d : TxD} (hi : ds[i]? = some d) : ∃ b o, ao = some ⟨b, o, none⟩ ∧ b < w.heap.size ∧ TxIn w b (o + i * 2) d := by
 rcases h with ⟨rfl, _⟩ | ⟨b, o, cp, hv, hb, _, h⟩
 ·simp at hi
 ·obtain ⟨rfl, -, -⟩ : ao = some ⟨b, o, none⟩ ∧ n = ds.length ∧ c = cp := by simpa using hv
  exact ⟨b, o, rfl, hb, h i d hi⟩

theorem TxIn.chg {w w' : World} {b o : Nat} {d : TxD} (k : TxIn w b o d) (hb : b < w.heap.size) (c : Chg [] w w') : TxIn w' b o d :=
 ⟨(c.cell (p := ⟨b, _, none⟩) hb (by simp)).trans k.c0, (c.cell (p := ⟨b, _, none⟩) hb (by simp)).trans k.c1, k.pt.chg c⟩

theorem Txs.chg {w w' : World} {v : Value} {ds : List TxD} (h : Txs w v ds) (c : Chg [] w w') : Txs w' v ds := by
 rcases h with h | ⟨b, o, cp, rfl, hb, hl, h⟩
 ·exact .inl h
 ·exact .inr ⟨b, o, cp, rfl, Nat.lt_of_lt_of_le hb c.size, hl, fun i d hd => (h i d hd).chg hb c⟩

/-- The first so many of them. -/
theorem Txs.pre {w : World} {ao : Option Addr} {n c : Nat} {ds : List TxD} (h : Txs w (.slice ao n c) ds) {k : Nat} (hk : k ≤ ds.length) (c' : Nat) : Txs w (.slice ao k c') (ds.take k) := by
 rcases h with ⟨rfl, _⟩ | ⟨b, o, cp, hv, hb, hl, h⟩
 ·obtain rfl : k = 0 := by simpa using hk
  exact .inl ⟨rfl, _, _, rfl⟩
 ·obtain ⟨rfl, -, -⟩ : ao = some ⟨b, o, none⟩ ∧ n = ds.length ∧ c = cp := by simpa using hv
  refine .inr ⟨b, o, c', by rw [List.length_take, Nat.min_eq_left hk], hb, by rw [List.length_take]; omega, fun i d hd => h i d ?_⟩
  have h1 := (List.getElem?_eq_some_iff.1 hd).1
  rw [List.length_take] at h1
  rw [List.getElem?_take, if_pos (by omega)] at hd
  exact hd

/-- What two lists of batches have in common, all of it. -/
def TxD.alike (p q : TxD) : Prop := p.sq = q.sq ∧ p.ps.length = q.ps.length ∧ ∀ (i : Nat) (x y : PtD), p.ps[i]? = some x → q.ps[i]? = some y → x.alike y

set_option maxHeartbeats 1000000 in
set_option maxRecDepth 100000 in
theorem sameTxns_true (va vb : Value) (as_ bs : List TxD) (w : World) (ha : Txs w va as_) (hb : Txs w vb bs) (hl : as_.length = bs.length) (hal : ∀ (i : Nat) (p q : TxD), as_[i]? = some p → bs[i]? = some q → p.alike q) :
 Calls Tryz.prog 42 #[va, vb] w fun e w' => e = .returned (.bool true) ∧ ∃ q, w' = w.drewN q := by
 have hbig := ha.len
 obtain ⟨ao, ac, rfl⟩ := ha.slice
 obtain ⟨bo, bc, rfl⟩ := hb.slice
 rw [← hl]
 have HA := Lib.hid ha
 have HB := Lib.hid hb
 have HL := Lib.hid hl
 have AL := Lib.hid hal
 clear ha hb hl hal
 go_enter Tryz.func42, Tryz.ntmps42
 go_wp2_with fail
 go_loopw [5] (fun i wr => ∃ k : Nat, k ≤ as_.length ∧ i = .int .i64 k ∧ ∃ q, wr = w.drewN q) (fun i _ => as_.length - (intOf i).toNat)
 case atStart => exact ⟨0, Nat.zero_le _, rfl, 0, rfl⟩
 case round =>
  obtain ⟨k, hk, rfl, q, rfl⟩ := hrel
  by_cases hlt : k < as_.length
  ·obtain ⟨x, hx⟩ : ∃ x, as_[k]? = some x := ⟨_, List.getElem?_eq_getElem hlt⟩
   obtain ⟨y, hy⟩ : ∃ y, bs[k]? = some y := ⟨_, List.getElem?_eq_getElem (by rw [← HL.out]; exact hlt)⟩
   obtain ⟨e1, e2, e3⟩ := AL.out k x y hx hy
   obtain ⟨g, o, rfl, hg, I⟩ := HA.out.at hx
   obtain ⟨g2, o2, rfl, hg2, J⟩ := HB.out.at hy
   have c0 := I.c0
   have c1 := I.c1
   have d0 := J.c0
   have d1 := J.c1
   rw [← e1] at d0
   have SM : Hid (∀ n, Calls Tryz.prog 118 #[x.v, y.v] (w.drewN n) fun e w' => e = .returned (.bool true) ∧ ∃ q, w' = (w.drewN n).drewN q) := fun n => samePts_true _ _ _ _ _ (I.pt.chg ((Chg.refl _ _).drewN n)) (J.pt.chg ((Chg.refl _ _).drewN n)) e2 e3
   obtain ⟨xo, xc, hxv⟩ := I.pt.slice
   obtain ⟨yo, yc, hyv⟩ := J.pt.slice
   rw [hxv] at c1 SM
   rw [hyv] at d1 SM
   rw [← e2] at d1 SM
   obtain ⟨z, hz⟩ : ∃ z, z = x.sq := ⟨_, rfl⟩
   obtain ⟨nl, hnl⟩ : ∃ nl, nl = x.ps.length := ⟨_, rfl⟩
   rw [← hz] at c0 d0
   rw [← hnl] at c1 d1 SM
   obtain ⟨W, hW⟩ : ∃ W, W = w.drewN q := ⟨_, rfl⟩
   have b0 : W.cell? ⟨g, o + k * 2, none⟩ = some (.int .u64 z) := by rw [hW]; exact c0
   have b1 : W.cell? ⟨g, o + k * 2 + 1, none⟩ = some (.slice xo nl xc) := by rw [hW]; exact c1
   have b3 : W.cell? ⟨g2, o2 + k * 2, none⟩ = some (.int .u64 z) := by rw [hW]; exact d0
   have b4 : W.cell? ⟨g2, o2 + k * 2 + 1, none⟩ = some (.slice yo nl yc) := by rw [hW]; exact d1
   have SM2 : Hid (∀ n, Calls Tryz.prog 118 #[.slice xo nl xc, .slice yo nl yc] (W.drewN n) fun e w' => e = .returned (.bool true) ∧ ∃ q, w' = (W.drewN n).drewN q) := fun n => by rw [hW, World.drewN_drewN]; exact SM.out _
   rw [← hW]
   replace hW := Lib.hid hW
   clear SM I J hx hy e1 e2 e3 c0 c1 d0 d1 hz hnl hxv hyv
   have hi0 : (0 : Int) ≤ k := Int.natCast_nonneg _
   have hi1 : (k : Int) < as_.length := by omega
   go_wp2_with fail
   go_quiet (first | (go_at_call 118; exact Calls.quiet_of (SM2.out _)))
   go_wp2_with fail
   exact ⟨⟨k + 1, by omega, by go_num, _, by rw [hW.out, World.drewN_drewN]⟩, by simp [intOf]; omega⟩
  ·go_wp2_with fail
   go_ret
   exact ⟨rfl, _, rfl⟩

end Go.Proofs.YtkafkdlgflkjgaaGreat
