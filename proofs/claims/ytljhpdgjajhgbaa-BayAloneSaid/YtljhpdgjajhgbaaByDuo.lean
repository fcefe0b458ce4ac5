/-
  Bays of two slots with a disk in each. No function of the program is named here. By an AI agent.
-/
import Derived.Test.YtljhpdgjajhgbaaBySolo
import Derived.Test.YtljhpdgjajhgbaaByPlain
namespace Go.Proofs.Ytljhpdgjajhgbaa
open Go.RowKit

/-- What one of the three operations does with a disk. -/
def Dev.did (e : Dev) (k n : Int) (x : List Nat) : Dev := if k = 1 then e else if k = 2 then e.lay (e.disk.write n x) else e.lay e.disk.flush
def Dev.err (e : Dev) (k n : Int) (x : List Nat) : Nat := if k = 1 then e.disk.check n else if k = 2 then e.disk.writeErr n x else e.disk.flushErr
def Dev.val (e : Dev) (k n : Int) : List Nat := if k = 1 then e.disk.readVal n else []

theorem Dev.did_wear (e : Dev) (k n : Int) (x : List Nat) : (e.did k n x).wear = e.wear := by
  unfold Dev.did
  split
  · rfl
  · split <;> rfl

theorem Dk.flush_bad (d : Dk) : d.flush.bad = d.bad := by
  unfold Dk.flush
  split <;> rfl

theorem Dev.did_bad (e : Dev) (k n : Int) (x : List Nat) : (e.did k n x).disk.bad = e.disk.bad := by
  unfold Dev.did
  split
  · rfl
  · split
    · exact Dk.w_bad _ _ _
    · exact Dk.flush_bad _

theorem Dev.bad_err {e : Dev} (h : e.disk.bad = true) (k n : Int) (x : List Nat) : e.err k n x = 2 ∧ e.val k n = [] := by
  obtain ⟨h1, h2, h3, _⟩ := Dk.bad_all h
  refine ⟨?_, ?_⟩
  · unfold Dev.err
    split
    · exact (h1 n).2
    · split
      · exact (h2 n x).1
      · exact h3
  · unfold Dev.val
    split
    · exact (h1 n).1
    · rfl

theorem Dev.did_lay (d : Dk) (v : Option Nat) (k n : Int) (x : List Nat) : (Dev.did ⟨d, v⟩ k n x) = ⟨(Dev.did ⟨d, none⟩ k n x).disk, v⟩ := by
  unfold Dev.did
  split
  · rfl
  · split <;> rfl

namespace Bay

def duo (e0 e1 : Dev) (r w f : Nat) : Bay := ⟨[⟨some e0, none, none⟩, ⟨some e1, none, none⟩], false, none, r, w, f⟩

theorem duo_zero (e0 e1 : Dev) (r w f : Nat) : (duo e0 e1 r w f).is 0 = true ∧ (duo e0 e1 r w f).dev 0 = some e0 ∧ (duo e0 e1 r w f).startErr 0 = 0 ∧ (duo e0 e1 r w f).asked 0 = e0.step := by
  refine ⟨rfl, rfl, rfl, rfl⟩

theorem duo_one (e0 e1 : Dev) (r w f : Nat) : (duo e0 e1 r w f).is 1 = true ∧ (duo e0 e1 r w f).dev 1 = some e1 ∧ (duo e0 e1 r w f).startErr 1 = 0 ∧ (duo e0 e1 r w f).asked 1 = e1.step := by
  refine ⟨rfl, rfl, rfl, rfl⟩

def up (k m : Int) (n : Nat) : Nat := n + if k = m then 1 else 0

theorem duo_plain0 (e0 e1 : Dev) (r w f : Nat) {k : Int} (hk : k = 1 ∨ k = 2 ∨ k = 3) (n : Int) (x : List Nat) :
    (duo e0 e1 r w f).plain k 0 n x = duo (e0.step.did k n x) e1 (up k 1 r) (up k 2 w) (up k 3 f) ∧ (duo e0 e1 r w f).plainErr k 0 n x = e0.step.err k n x ∧ (duo e0 e1 r w f).plainVal k 0 n = e0.step.val k n := by
  rcases hk with rfl | rfl | rfl
  · refine ⟨rfl, rfl, rfl⟩
  · refine ⟨rfl, rfl, rfl⟩
  · refine ⟨rfl, rfl, rfl⟩

theorem duo_plain1 (e0 e1 : Dev) (r w f : Nat) {k : Int} (hk : k = 1 ∨ k = 2 ∨ k = 3) (n : Int) (x : List Nat) :
    (duo e0 e1 r w f).plain k 1 n x = duo e0 (e1.step.did k n x) (up k 1 r) (up k 2 w) (up k 3 f) ∧ (duo e0 e1 r w f).plainErr k 1 n x = e1.step.err k n x ∧ (duo e0 e1 r w f).plainVal k 1 n = e1.step.val k n := by
  rcases hk with rfl | rfl | rfl
  · refine ⟨rfl, rfl, rfl⟩
  · refine ⟨rfl, rfl, rfl⟩
  · refine ⟨rfl, rfl, rfl⟩

theorem new_duo {s t : Int} (hs : 1 ≤ s) (ht : 1 ≤ t) : Bay.new [s, t] = duo ⟨Dk.new s.toNat, none⟩ ⟨Dk.new t.toNat, none⟩ 0 0 0 := by
  have : ∀ n : Int, 1 ≤ n → slotOf n = ⟨some ⟨Dk.new n.toNat, none⟩, none, none⟩ := fun n hn => by unfold slotOf; rw [if_neg (by omega)]
  unfold Bay.new duo
  simp [this s hs, this t ht]

theorem duo_wear (e0 e1 : Dev) (r w f : Nat) {n : Int} (hn : 0 ≤ n) : (duo e0 e1 r w f).wear 0 n = duo { e0 with wear := some n.toNat } e1 r w f ∧ (duo e0 e1 r w f).wearErr 0 n = 0 := by
  have h : ¬ n < 0 := by omega
  unfold wear wearErr
  rw [if_neg h, if_neg h]
  exact ⟨rfl, rfl⟩

theorem duo_has (e0 e1 : Dev) (r w f : Nat) : (duo e0 e1 r w f).has 0 = !e0.disk.bad ∧ (duo e0 e1 r w f).has 1 = !e1.disk.bad := ⟨rfl, rfl⟩

/-- A disk in slot 0 that was worn by n, behind m operations; d: the disk that was not. -/
def Worn (n m : Nat) (d : Dk) (e : Dev) : Prop := (m ≤ n ∧ e = ⟨d, some (n - m)⟩) ∨ (n < m ∧ e.disk.bad = true ∧ e.wear = none)

theorem Worn.step {n m : Nat} {d : Dk} {e : Dev} (h : Worn n m d e) (k a : Int) (x : List Nat) :
    Worn n (m + 1) (Dev.did ⟨d, none⟩ k a x).disk (e.step.did k a x) ∧ (m + 1 ≤ n → e.step.err k a x = (Dev.mk d none).err k a x ∧ e.step.val k a = (Dev.mk d none).val k a ∧ (e.step.did k a x).disk.bad = d.bad) ∧ (n < m + 1 → e.step.err k a x = 2 ∧ e.step.val k a = [] ∧ (e.step.did k a x).disk.bad = true) := by
  rcases h with ⟨h1, rfl⟩ | ⟨h1, h2, h3⟩
  · by_cases h4 : m + 1 ≤ n
    · have e1 : (Dev.mk d (some (n - m))).step = ⟨d, some (n - (m + 1))⟩ := by
        obtain ⟨q, hq⟩ : ∃ q, n - m = q + 1 := ⟨n - m - 1, by omega⟩
        rw [hq, show n - (m + 1) = q by omega]
        rfl
      rw [e1]
      refine ⟨.inl ⟨h4, Dev.did_lay _ _ _ _ _⟩, fun _ => ⟨rfl, rfl, by rw [Dev.did_bad]⟩, fun h => by omega⟩
    · have e1 : (Dev.mk d (some (n - m))).step = ⟨d.fail, none⟩ := by
        rw [show n - m = 0 by omega]
        rfl
      rw [e1]
      have hb : (Dev.mk d.fail none).disk.bad = true := rfl
      have h5 := Dev.bad_err hb k a x
      have h6 : ((Dev.mk d.fail none).did k a x).disk.bad = true := by rw [Dev.did_bad]; exact hb
      exact ⟨.inr ⟨by omega, h6, by rw [Dev.did_wear]⟩, fun h => absurd h h4, fun _ => ⟨h5.1, h5.2, h6⟩⟩
  · have e1 : e.step = e := by unfold Dev.step; rw [h3]
    rw [e1]
    have h5 := Dev.bad_err h2 k a x
    have h6 : (e.did k a x).disk.bad = true := by rw [Dev.did_bad]; exact h2
    exact ⟨.inr ⟨by omega, h6, by rw [Dev.did_wear]; exact h3⟩, fun h => by omega, fun _ => ⟨h5.1, h5.2, h6⟩⟩

theorem Worn.step_old {n m : Nat} {d : Dk} {e : Dev} (h : Worn n m d e) (hm : m ≤ n) : e.disk.bad = d.bad := by
  rcases h with ⟨_, rfl⟩ | ⟨h1, _⟩
  · rfl
  · omega

end Bay
end Go.Proofs.Ytljhpdgjajhgbaa
