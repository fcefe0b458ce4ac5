/-
  Places of spans, marked: the law's own walk over them. By an AI agent.
-/
import Derived.Test.YtkkjhlihionlkaaRgMath
namespace Go.Proofs.Ytkkjhlihionlkaa
open Go.RowKit

/-- The marks' row. -/
def MkRow (w : World) (g S c : Nat) (gb : Nat → Bool) : Prop := w.ownsRow 0 4 1 (.slice (some ⟨g, 0, none⟩) S c) S (bl S gb)

theorem MkRow.chg {w w' : World} {g S c : Nat} {gb : Nat → Bool} {s : List Nat} (h : MkRow w g S c gb) (ch : Chg s w w') (hg : g ∉ s) : MkRow w' g S c gb :=
  owns_chg h ch (fun k hk => by obtain rfl : g = k := by simpa [Value.ownBlock] using hk
                                exact hg)

theorem MkRow.cell {w : World} {g S c : Nat} {gb : Nat → Bool} (h : MkRow w g S c gb) {p : Nat} (hp : p < S) : w.cell? ⟨g, p, none⟩ = some (.bool (gb p)) := ownsRow_cellAt h (bl_at hp)

theorem MkRow.mark {w : World} {g S c f k : Nat} {gb : Nat → Bool} (h : MkRow w g S c (upto S f gb k)) (hf : f < S) (hk : k < S) :
    MkRow (w.setCell ⟨g, (f + k) % S, none⟩ (.bool true)) g S c (upto S f gb (k + 1)) ∧ w.frozen? ⟨g, (f + k) % S, none⟩ = false := by
  obtain ⟨h1, h2, _⟩ := owns_set h (Nat.mod_lt (f + k) (by omega)) (.bool true)
  rw [upto_set hf hk] at h1
  exact ⟨h1, h2⟩

set_option maxHeartbeats 4000000 in
set_option maxRecDepth 100000 in
theorem marks_any {S f n : Nat} (hf : f < S) (hn : n ≤ S) (hS : S ≤ 2048) (gb : Nat → Bool) (hfree : ∀ k, k < n → gb ((f + k) % S) = false) (v : Value) (g c : Nat) (w : World)
    (hv : SpRow w 0 v (spn S f n)) (hg : MkRow w g S c gb) (hne : v.ownBlock ≠ some g) :
    Calls Try.prog 16 #[v, .int .i64 (f : Int), .slice (some ⟨g, 0, none⟩) S c] w fun e w' =>
      e = .returned (.tuple #[.int .i64 (n : Int), .bool true]) ∧ Hid (Chg [g] w w') ∧ Hid (MkRow w' g S c (upto S f gb n)) := by
  have SA := Lib.hid (fun (i a b : Nat) (h : (spn S f n)[i]? = some (a, b)) => spn_at hf hn h)
  have hal := spn_all hf hn
  have hz : cnt (spn S f n) 0 = 0 := by simp [cnt]
  have hll := spn_len S f n
  have AV : Hid (∀ w', Chg [g] w w' → SpRow w' 0 v (spn S f n)) := fun w' ch => owns_chg hv ch (fun k hk hm => by
    rw [List.mem_singleton] at hm
    subst hm
    exact hne hk)
  obtain ⟨ao, vc, rfl⟩ := hv.slice
  obtain ⟨l, hl⟩ : ∃ l, l = spn S f n := ⟨_, rfl⟩
  rw [← hl] at SA hal hz hll AV ⊢
  have FR := Lib.hid hfree
  have MG : Hid (MkRow w g S c (upto S f gb 0)) := by rw [upto_zero]; exact hg
  have HF := Lib.hid hf
  have HS := Lib.hid hS
  have HN := Lib.hid hn
  have HA := Lib.hid hal
  have HLL := Lib.hid hll
  have f0 : f = (f + cnt l 0) % S := by rw [hz, Nat.add_zero, Nat.mod_eq_of_lt hf]
  have MG0 : Hid (MkRow w g S c (upto S f gb (cnt l 0))) := by rw [hz]; exact MG.out
  clear hv hg hne hfree hl hf hn hS hal MG hll
  go_enter Try.func16, Try.ntmps16
  go_wp2_with fail
  go_loopw [8, 9, 10] (fun nn at_ i wr => ∃ k : Nat, k ≤ l.length ∧ i = .int .i64 k ∧ nn = .int .i64 ((cnt l k : Nat) : Int) ∧ at_ = .int .i64 (((f + cnt l k) % S : Nat) : Int) ∧ Hid (MkRow wr g S c (upto S f gb (cnt l k))) ∧ Hid (Chg [g] w wr)) (fun _ _ i _ => l.length - (intOf i).toNat)
  case atStart => exact ⟨0, Nat.zero_le _, rfl, by rw [hz]; rfl, by rw [← f0], MG0, Chg.refl _ _⟩
  case round =>
    obtain ⟨k, hk, rfl, rfl, rfl, RW, CH⟩ := hrel
    clear MG0 f0 hz
    by_cases hlt : k < l.length
    · obtain ⟨⟨a, b⟩, hx⟩ : ∃ p, l[k]? = some p := ⟨_, List.getElem?_eq_getElem hlt⟩
      obtain ⟨ha, hb, hab, hcb, hnx⟩ := SA.out _ _ _ hx
      obtain ⟨gg, rfl, c1, c2⟩ := (AV.out _ CH.out).at hx
      dsimp only at c1 c2
      rw [← ha]
      have hk0 : (0 : Int) ≤ k := Int.natCast_nonneg _
      have hk1 : (k : Int) < l.length := by omega
      have hb1 : ¬ (b : Int) < 1 := by omega
      have HX := Lib.hid hx
      have HAA := Lib.hid ha
      have HAB := Lib.hid hab
      have HCB := Lib.hid hcb
      have HNX := Lib.hid hnx
      clear hx ha hab hcb hnx
      obtain ⟨C, hC⟩ : ∃ C, C = cnt l k := ⟨_, rfl⟩
      rw [← hC] at RW HAA HCB HNX ⊢
      go_wp2_with fail
      go_loopw [8, 9, 11] (fun nn at_ q wr => ∃ j : Nat, j ≤ b ∧ q = .int .i64 j ∧ nn = .int .i64 ((C + j : Nat) : Int) ∧ at_ = .int .i64 ((a + j : Nat) : Int) ∧ Hid (MkRow wr g S c (upto S f gb (C + j))) ∧ Hid (Chg [g] w wr)) (fun _ _ q _ => b - (intOf q).toNat)
      case atStart => exact ⟨0, Nat.zero_le _, rfl, by rw [hC]; rfl, rfl, RW, CH⟩
      case round =>
        obtain ⟨j, hj, rfl, rfl, rfl, RI, CI⟩ := hrel
        clear RW c1 c2
        obtain ⟨g2, hg2, d1, d2⟩ := (AV.out _ CI.out).at HX.out
        obtain rfl : gg = g2 := by simpa using hg2
        dsimp only at d1 d2
        clear hg2
        by_cases hjb : j < b
        · have hS2 := HS.out
          have hab := HAB.out
          have hcb := HCB.out
          have hn2 := HN.out
          have hz1 : (f + (C + j)) % S = a + j := by
            rw [← Nat.add_assoc, Nat.add_mod, ← HAA.out, Nat.mod_eq_of_lt (show j < S by omega), Nat.mod_eq_of_lt (show a + j < S by omega)]
          have hfree : upto S f gb (C + j) (a + j) = false := by
            rw [← hz1]
            exact upto_free HF.out (by omega) (FR.out _ (by omega))
          obtain ⟨R2, fz⟩ := RI.out.mark HF.out (k := C + j) (by omega)
          rw [hz1] at R2 fz
          have cm := RI.out.cell (p := a + j) (by omega)
          rw [hfree] at cm
          replace R2 := Lib.hid R2
          obtain ⟨z, hzz⟩ : ∃ z, z = a + j := ⟨_, rfl⟩
          obtain ⟨y, hyy⟩ : ∃ y, y = C + j := ⟨_, rfl⟩
          have z0 : (0 : Int) ≤ z := Int.natCast_nonneg _
          have z1 : (z : Int) < S := by omega
          have z2 : ¬ (S : Int) ≤ z := by omega
          have j1 : (j : Int) < b := by omega
          have wz := Lib.hid (wrap_in (z := (z : Int) + 1) (by omega) (by omega))
          have wy := Lib.hid (wrap_in (z := (y : Int) + 1) (by omega) (by omega))
          have wj := Lib.hid (wrap_in (z := (j : Int) + 1) (by omega) (by omega))
          rw [← hzz] at R2 fz cm ⊢
          rw [← hyy] at R2 ⊢
          have HZ := Lib.hid hzz
          have HY := Lib.hid hyy
          clear hzz hyy hz1 hfree hS2 hab hcb hn2
          obtain ⟨wz1, wz2⟩ := wz.out
          obtain ⟨wy1, wy2⟩ := wy.out
          obtain ⟨wj1, wj2⟩ := wj.out
          go_wp2_with fail
          clear wz1 wz2 wy1 wy2 wj1 wj2
          exact ⟨⟨j + 1, by omega, rfl, by rw [HY.out]; rfl, by rw [HZ.out]; rfl, by rw [← Nat.add_assoc, ← HY.out]; exact R2.out, CI.out.setCell (.inl (by simp)) _⟩, by simp [intOf]; omega⟩
        · obtain rfl : j = b := by omega
          have hS2 := HS.out
          have hab := HAB.out
          obtain ⟨z, hzz⟩ : ∃ z, z = a + j := ⟨_, rfl⟩
          have e2 : Int.tmod (z : Int) (S : Int) = ((z % S : Nat) : Int) := rfl
          have e3 : ¬ (S : Int) = 0 := by omega
          have em : (f + cnt l (k + 1)) % S = z % S := by rw [HNX.out, ← Nat.add_assoc, ← Nat.mod_add_mod, ← HAA.out, hzz]
          have hzl : z % S ≤ 2048 := Nat.le_trans (Nat.le_of_lt (Nat.mod_lt _ (by omega))) hS2
          obtain ⟨m, hm⟩ : ∃ m, m = z % S := ⟨_, rfl⟩
          rw [← hm] at e2 em hzl
          rw [← hzz]
          have wm := Lib.hid (wrap_in (z := (m : Int)) (by omega) (by omega))
          have wk := Lib.hid (wrap_in (z := (k : Int) + 1) (by have := HLL.out; omega) (by have := HLL.out; omega))
          clear hS2 hab hzz hm hzl
          obtain ⟨wm1, wm2⟩ := wm.out
          obtain ⟨wk1, wk2⟩ := wk.out
          go_wp2_with fail
          clear wm1 wm2 wk1 wk2
          exact ⟨⟨k + 1, by omega, rfl, by rw [HNX.out], by rw [em], by rw [HNX.out]; exact RI, CI⟩, by simp [intOf]; omega⟩
    · obtain rfl : k = l.length := by omega
      rw [HA.out] at RW ⊢
      go_wp2_with fail
      go_ret2
      exact ⟨rfl, CH, RW⟩

end Go.Proofs.Ytkkjhlihionlkaa
