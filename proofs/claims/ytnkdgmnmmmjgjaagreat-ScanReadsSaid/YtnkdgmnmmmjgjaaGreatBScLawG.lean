/-
  ScanReads: what the two Ofs give, in one form. By an AI agent.
-/
import Derived.Test.YtnkdgmnmmmjgjaaGreatBScROk
import Derived.Test.YtnkdgmnmmmjgjaaGreatBGSamePts
import Derived.Test.YtnkdgmnmmmjgjaaGreatBGBookTxn
namespace Go.Proofs.YtnkdgmnmmmjgjaaGreat
open Crc Go.RowKit

/-- What was found, and whether it was refused. -/
def FGets (k : IntKind) (w : World) (sq : Nat) (L : List (List Pd)) (nx hd u er : Nat) (e : Ending) (w' : World) : Prop :=
  ∃ tv T, e = .returned (.tuple #[FoundV tv nx hd u, .int k (er : Int)]) ∧ found T = L ∧ Hid (Side w w' [wideT 2 25 tv (txSlots sq T), poolWT 3 72 (listsOf T), poolT (dataOf T)])

theorem none_side {w w' : World} (sq : Nat) (c : Chg [] w w') : Side w w' [wideT 2 25 (.slice none 0 0) (txSlots sq []), poolWT 3 72 (listsOf []), poolT (dataOf [])] := by
  have a2 := (Side.nil c).add (b := poolT []) (Chg.refl _ _) (Pool.nil _) (fun k hk => by cases hk)
  have a3 := a2.add (b := poolWT 3 72 []) (Chg.refl _ _) (PoolW.nil _ _ _) (fun k hk => by cases hk)
  exact a3.add (b := wideT 2 25 (.slice none 0 0) []) (Chg.refl _ _) (OwnW.nil _ _ _ _) (fun k hk => by cases hk)

theorem ofRef_gets {w w' : World} {e : Ending} (sq : Nat) (h : OfRef w e w') : FGets .u16 w sq [] 0 0 0 1 e w' :=
  ⟨.slice none 0 0, [], h.1, rfl, none_side sq h.2.out⟩

theorem rofRef_gets {w w' : World} {e : Ending} (sq : Nat) (h : ROfRef w e w') : FGets .i64 w sq [] 0 0 0 1 e w' :=
  ⟨.slice none 0 0, [], h.1, rfl, none_side sq h.2.out⟩

theorem ofGives_gets {w w' : World} {e : Ending} {bs : List Nat} {n ep sq tl u : Nat} {L : List (List Pd)} (hd : Sc.Done bs ep tl sq L u) (h : OfGives w bs n ep sq tl e w') : FGets .u16 w sq L (sq + L.length) ((tl + u) % n) u 0 e w' := by
  obtain ⟨tv, T, u', D, rfl, H⟩ := h
  obtain ⟨e1, rfl⟩ := D.uniq hd
  exact ⟨tv, T, by rw [← e1, found_len]; rfl, e1, H⟩

theorem rofGives_gets {w w' : World} {e : Ending} {bs : List Nat} {n ep sq tl u : Nat} {L : List (List Pd)} (hd : Sc.Done bs ep tl sq L u) (h : ROfGives w bs n ep sq tl e w') : FGets .i64 w sq L (sq + L.length) ((tl + u) % n) u 0 e w' := by
  obtain ⟨tv, T, u', D, rfl, H⟩ := h
  obtain ⟨e1, rfl⟩ := D.uniq hd
  exact ⟨tv, T, by rw [← e1, found_len]; rfl, e1, H⟩

end Go.Proofs.YtnkdgmnmmmjgjaaGreat
