/-
  Three records boxed; what is read of an encoding. By an AI agent. Printed by gen_rclaww.py.
-/
import Derived.Test.YtnjemjkjbeingaaRcKnown
import Derived.Test.YtnjemjkjbeingaaRcSame
import Derived.Test.YtnjemjkjbeingaaRcIn
namespace Go.Proofs.Ytnjemjkjbeingaa
open Go.RowKit Crc

theorem rc_three_blocks (w : World) (xs ys zs : List Value) (t1 t2 t3 : TypeId) {W : World} (h : W = ((w.alloc (.cells xs.toArray t1)).alloc (.cells ys.toArray t2)).alloc (.cells zs.toArray t3)) :
    Blk W w.heap.size t1 xs ∧ Blk W (w.heap.size + 1) t2 ys ∧ Blk W (w.heap.size + 1 + 1) t3 zs ∧ Chg [] w W := by
  subst h
  have e1 : (w.alloc (.cells xs.toArray t1)).heap.size = w.heap.size + 1 := by simp
  have e2 : ((w.alloc (.cells xs.toArray t1)).alloc (.cells ys.toArray t2)).heap.size = w.heap.size + 1 + 1 := by simp
  refine ⟨((Blk.made w xs t1).alloc _).alloc _, ?_, ?_, (((Chg.refl [] w).alloc _).alloc _).alloc _⟩
  · rw [← e1]
    exact (Blk.made _ ys t2).alloc _
  · rw [← e2]
    exact Blk.made _ zs t3

theorem Hd.err_in (h : Hd) : (h.err = 0 ∧ h.enc = h.rec'.sector ∧ h.Ok) ∨ (h.err = 80 ∧ h.enc = [] ∧ ¬ h.Ok) := by
  unfold Hd.err Hd.enc
  by_cases k : h.Ok
  · rw [if_pos k, if_pos k]; exact .inl ⟨rfl, rfl, k⟩
  · rw [if_neg k, if_neg k]; exact .inr ⟨rfl, rfl, k⟩
theorem Cm.err_in (h : Cm) : (h.err = 0 ∧ h.enc = h.rec'.sector ∧ h.Ok) ∨ (h.err = 80 ∧ h.enc = [] ∧ ¬ h.Ok) := by
  unfold Cm.err Cm.enc
  by_cases k : h.Ok
  · rw [if_pos k, if_pos k]; exact .inl ⟨rfl, rfl, k⟩
  · rw [if_neg k, if_neg k]; exact .inr ⟨rfl, rfl, k⟩
theorem Ck.err_in (h : Ck) : (h.err = 0 ∧ h.enc = h.rec'.sector ∧ h.Ok) ∨ (h.err = 80 ∧ h.enc = [] ∧ ¬ h.Ok) := by
  unfold Ck.err Ck.enc
  by_cases k : h.Ok
  · rw [if_pos k, if_pos k]; exact .inl ⟨rfl, rfl, k⟩
  · rw [if_neg k, if_neg k]; exact .inr ⟨rfl, rfl, k⟩

theorem Hd.sec_len (h : Hd) : h.rec'.sector.length = 128 := Rec.sector_length (show 6 ≤ 25 by decide)
theorem Cm.sec_len (h : Cm) : h.rec'.sector.length = 128 := Rec.sector_length (show 2 ≤ 25 by decide)
theorem Ck.sec_len (h : Ck) : h.rec'.sector.length = 128 := Rec.sector_length (show 1 ≤ 25 by decide)

theorem Hd.enc_len (h : Hd) : h.enc.length ≤ 128 := by
  rcases h.err_in with ⟨_, e, _⟩ | ⟨_, e, _⟩
  · rw [e, h.sec_len]; exact Nat.le_refl _
  · rw [e]; decide
theorem Cm.enc_len (h : Cm) : h.enc.length ≤ 128 := by
  rcases h.err_in with ⟨_, e, _⟩ | ⟨_, e, _⟩
  · rw [e, h.sec_len]; exact Nat.le_refl _
  · rw [e]; decide
theorem Ck.enc_len (h : Ck) : h.enc.length ≤ 128 := by
  rcases h.err_in with ⟨_, e, _⟩ | ⟨_, e, _⟩
  · rw [e, h.sec_len]; exact Nat.le_refl _
  · rw [e]; decide

theorem Hd.enc_bs (h : Hd) : Bs h.enc := by
  rcases h.err_in with ⟨_, e, _⟩ | ⟨_, e, _⟩
  · rw [e]; exact Rec.sector_bs _
  · rw [e]; intro x hx; cases hx
theorem Cm.enc_bs (h : Cm) : Bs h.enc := by
  rcases h.err_in with ⟨_, e, _⟩ | ⟨_, e, _⟩
  · rw [e]; exact Rec.sector_bs _
  · rw [e]; intro x hx; cases hx
theorem Ck.enc_bs (h : Ck) : Bs h.enc := by
  rcases h.err_in with ⟨_, e, _⟩ | ⟨_, e, _⟩
  · rw [e]; exact Rec.sector_bs _
  · rw [e]; intro x hx; cases hx

theorem own_caps2 {w : World} {base : Nat} {v : Value} {n : Nat} {xs : List Value} (h : w.ownsRow base 5 1 v n xs) : ∀ ao m c, v = .slice ao m c → m ≤ c := fun ao m c he => by
  subst he
  exact owned_cap h

/-- What is read of a valid one's encoding. -/
theorem Hd.reads (h : Hd) (f : h.Fit) (e : h.err = 0) (v : Value) (W : World) (k : Sl W v (ints h.enc)) (hc : ∀ ao n c, v = .slice ao n c → n ≤ c) : Calls Try.prog 18 #[v] W fun e w' => e = .returned (.tuple #[h.val, .int .u16 0]) ∧ Hid (Chg [] W w') := by
  have d := decHd_any v h.enc W k h.enc_bs hc
  rcases h.err_in with ⟨_, e2, ok⟩ | ⟨e1, _⟩
  · obtain ⟨b1, b2⟩ := Hd.back h ok f.sm
    rw [← e2] at b1 b2
    rw [b1, b2] at d
    exact d
  · rw [e1] at e; cases e
theorem Cm.reads (h : Cm) (f : h.Fit) (e : h.err = 0) (v : Value) (W : World) (k : Sl W v (ints h.enc)) (hc : ∀ ao n c, v = .slice ao n c → n ≤ c) : Calls Try.prog 19 #[v] W fun e w' => e = .returned (.tuple #[h.val, .int .u16 0]) ∧ Hid (Chg [] W w') := by
  have d := decCm_any v h.enc W k h.enc_bs hc
  rcases h.err_in with ⟨_, e2, ok⟩ | ⟨e1, _⟩
  · obtain ⟨b1, b2⟩ := Cm.back h ok f.sm
    rw [← e2] at b1 b2
    rw [b1, b2] at d
    exact d
  · rw [e1] at e; cases e
theorem Ck.reads (h : Ck) (e : h.err = 0) (v : Value) (W : World) (k : Sl W v (ints h.enc)) (hc : ∀ ao n c, v = .slice ao n c → n ≤ c) : Calls Try.prog 20 #[v] W fun e w' => e = .returned (.tuple #[h.val, .int .u16 0]) ∧ Hid (Chg [] W w') := by
  have d := decCk_any v h.enc W k h.enc_bs hc
  rcases h.err_in with ⟨_, e2, ok⟩ | ⟨e1, _⟩
  · obtain ⟨b1, b2⟩ := Ck.back h ok
    rw [← e2] at b1 b2
    rw [b1, b2] at d
    exact d
  · rw [e1] at e; cases e

end Go.Proofs.Ytnjemjkjbeingaa
