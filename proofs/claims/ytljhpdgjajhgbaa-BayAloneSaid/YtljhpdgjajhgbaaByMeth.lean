/-
  The method expression (*drive).Flush: which function it is, and of which disk. By an AI agent.
-/
import Derived.Test.YtljhpdgjajhgbaaByOper
namespace Go.Proofs.Ytljhpdgjajhgbaa
open Go.RowKit Go.Maps

theorem drive_flush : ((Try.prog.info? 72).bind fun i => i.methods.find? (·.name == "Flush")).map (fun m => (m.path.toList.map (fun s => (s.struct, s.index, s.deref)), m.func)) = some ([(93, 0, true)], some (17, true)) := by kernel_rfl

theorem method_flush (n k g : Nat) (w : World) (hc : w.cell? ⟨k, 0, none⟩ = some (.pointer (some ⟨g, 0, none⟩))) :
    (method (n + 1) 72 (.pointer (some ⟨k, 0, none⟩)) "Flush").run Try.prog w = .ok (17, .pointer (some ⟨g, 0, none⟩)) w := by
  have h := drive_flush
  cases hi : Try.prog.info? 72 with
  | none => rw [hi] at h; simp at h
  | some i =>
    rw [hi] at h
    simp only [Option.bind_some] at h
    cases hm : i.methods.find? (·.name == "Flush") with
    | none => rw [hm] at h; simp at h
    | some m =>
      rw [hm] at h
      simp only [Option.map_some, Option.some.injEq, Prod.mk.injEq] at h
      obtain ⟨h1, h2⟩ := h
      obtain ⟨s, hp, hs⟩ : ∃ s : FieldStep, m.path.toList = [s] ∧ (s.struct, s.index, s.deref) = (93, 0, true) := by
        cases hl : m.path.toList with
        | nil => rw [hl] at h1; simp at h1
        | cons s r =>
          cases r with
          | nil => rw [hl] at h1; exact ⟨s, rfl, by simpa using h1⟩
          | cons a b => rw [hl] at h1; simp at h1
      obtain ⟨s1, s2, s3⟩ := s
      obtain ⟨rfl, rfl, rfl⟩ : s1 = 93 ∧ s2 = 0 ∧ s3 = true := by simpa using hs
      simp [method, typeInfo, go_sem, hi, hm, hp, h2, follow, Try.underlying93, Try.underlying36, receiverAt, Place.get, fieldPlace, hc]

end Go.Proofs.Ytljhpdgjajhgbaa
