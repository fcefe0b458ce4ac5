/-
  What the program's lift does, call by call: what the laws' walks lean on. By an AI agent.
-/
import Derived.Test.YtihmegpcbpdipaaRefLift5
namespace Go.Proofs.Ytihmegpcbpdipaa
open Go.RowKit

/-- How many patches are spoken of. -/
def Few (S : List Pd) : Prop := S.length ≤ 100000

/-- A lift that holds these, at this row, in these blocks; and what each call comes to. -/
structure LiftCons where
  T : Nat → List Pd → Nat → List Nat → Thing
  new_ok : ∀ (row : Nat), row ≤ 4095 → ∀ (w0 w : World) (ts : List Thing), Side w0 w ts → Calls Try.prog 8 #[.int .i64 (row : Int)] w fun e w' =>
    ∃ P F, e = .returned (.tuple #[.pointer (some ⟨P, 0, none⟩), .int .u16 0]) ∧ Hid (Side w0 w' (T P [] row F :: ts))
  new_no : ∀ (row : Int), (row < 0 ∨ 4095 < row) → ∀ (w : World), Calls Try.prog 8 #[.int .i64 row] w (Says w (.tuple #[.pointer none, .int .u16 3]))
  put_ok : ∀ (w0 w : World) (ts : List Thing) (P row : Nat) (S : List Pd) (F : List Nat) (d : Pd) (dv : Value), d.m ≤ 15 → d.r ≤ 4095 → d.bs.length = 128 → Sl w dv (ints d.bs) → By (ints d.bs) → (∀ g, dv.ownBlock = some g → g ∉ (T P S row F).F) → Lf.Srt S → Few S → Side w0 w (T P S row F :: ts) →
    Calls Try.prog 18 #[.pointer (some ⟨P, 0, none⟩), .agg #[.int .i64 (d.m : Int), .int .i64 (d.r : Int), dv]] w fun e w' => e = .returned (.int .u16 0) ∧ ∃ F', Hid (Side w0 w' (T P (Lf.ins d S) row F' :: ts))
  put_no : ∀ (w0 w : World) (ts : List Thing) (P row : Nat) (S : List Pd) (F : List Nat) (m r : Int) (ao : Option Addr) (n c : Nat) (er : Int), Refuses m r n er → Side w0 w (T P S row F :: ts) →
    Calls Try.prog 18 #[.pointer (some ⟨P, 0, none⟩), .agg #[.int .i64 m, .int .i64 r, .slice ao n c]] w (Says w (.int .u16 er))
  next : ∀ (w0 w : World) (ts : List Thing) (P row : Nat) (S : List Pd) (F : List Nat), Lf.Srt S → Few S → Side w0 w (T P S row F :: ts) →
    Calls Try.prog 10 #[.pointer (some ⟨P, 0, none⟩)] w fun e w' =>
      (S = [] ∧ e = .returned (.tuple #[.agg #[.int .i64 0, .int .i64 0, .slice none 0 0], .bool false]) ∧ ∃ F', Hid (Side w0 w' (T P [] row F' :: ts))) ∨
      ∃ (d : Pd) (v : Value) (e8 : TypeId) (F' : List Nat), Lf.way row S = d :: Lf.way d.r (Lf.out d S) ∧ d ∈ S ∧ e = .returned (.tuple #[.agg #[.int .i64 (d.m : Int), .int .i64 (d.r : Int), v], .bool true]) ∧ Hid (Side w0 w' (ownT e8 v (ub d.bs) :: T P (Lf.out d S) d.r F' :: ts))
  all : ∀ (w0 w : World) (ts : List Thing) (P row : Nat) (S : List Pd) (F : List Nat), Lf.Srt S → Few S → Side w0 w (T P S row F :: ts) →
    Calls Try.prog 14 #[.pointer (some ⟨P, 0, none⟩)] w fun e w' =>
      ∃ v A F', e = .returned v ∧ Hid (dOf A = Lf.way row S) ∧ Hid (Side w0 w' (T P [] (Lf.stop row (Lf.way row S)) F' :: listT v A :: dataT A :: ts))
  len : ∀ (w : World) (P row : Nat) (S : List Pd) (F : List Nat), (T P S row F).P w → Few S → Calls Try.prog 22 #[.pointer (some ⟨P, 0, none⟩)] w fun e w' => e = .returned (.int .i64 (S.length : Int)) ∧ ∃ q, w' = w.drewN q
  row : ∀ (w : World) (P row : Nat) (S : List Pd) (F : List Nat), (T P S row F).P w → Calls Try.prog 23 #[.pointer (some ⟨P, 0, none⟩)] w fun e w' => e = .returned (.int .i64 (row : Int)) ∧ ∃ q, w' = w.drewN q

theorem few_ins {d : Pd} {S : List Pd} : (Lf.ins d S).length ≤ S.length + 1 := by
  induction S with
  | nil => simp [Lf.ins]
  | cons a S ih =>
    unfold Lf.ins
    split
    · simp
    · split
      · simp; exact ih
      · simp

theorem few_out {d : Pd} {S : List Pd} : (Lf.out d S).length ≤ S.length := by
  unfold Lf.out
  exact List.length_filter_le _ _

/-- What Put comes to, whatever is asked: a patch, or an error. -/
theorem puts (m r : Int) (bs : List Int) (hby : By bs) : (∃ er, Refuses m r bs.length er ∧ 0 ≤ er ∧ er ≤ 4) ∨ ∃ d : Pd, m = d.m ∧ r = d.r ∧ bs = ints d.bs ∧ d.m ≤ 15 ∧ d.r ≤ 4095 ∧ d.bs.length = 128 := by
  by_cases h1 : m < 0 ∨ 15 < m ∨ r < 0 ∨ 4095 < r
  · exact .inl ⟨3, .inl ⟨h1, rfl⟩, by omega, by omega⟩
  · by_cases h2 : bs.length = 128
    · refine .inr ⟨⟨m.toNat, r.toNat, nats bs⟩, ?_, ?_, (ints_nats hby).symm, ?_, ?_, ?_⟩
      · show m = ((m.toNat : Nat) : Int); omega
      · show r = ((r.toNat : Nat) : Int); omega
      · show m.toNat ≤ 15; omega
      · show r.toNat ≤ 4095; omega
      · show (nats bs).length = 128
        rw [← ints_length, ints_nats hby]
        exact h2
    · exact .inl ⟨4, .inr ⟨by omega, by omega, by omega, by omega, h2, rfl⟩, by omega, by omega⟩

end Go.Proofs.Ytihmegpcbpdipaa
