/-
  The content of a sector. By an AI agent.
-/
import Derived.Test.YtffpjefecmkfmaaBSpPack
namespace Go.Proofs.Ytffpjefecmkfmaa
open Go.RowKit

/-- A content of noughts. -/
def zeroC : List Value := [.int .u64 0, .int .u64 0, .int .u64 0, .int .i64 0, .int .i64 0, .int .i64 0, .int .i64 0, .int .i64 0, .bool false, .bool false, .slice none 0 0, .int .i64 0, .int .u64 0, .int .u8 0,
  .int .u8 0, .int .u8 0, .int .u8 0, .int .u8 0, .int .u8 0, .int .u8 0, .int .u8 0, .int .u8 0, .int .u8 0, .int .u8 0, .int .u8 0, .int .u8 0, .int .u8 0, .int .u8 0, .int .u8 0, .int .u8 0, .int .u32 0]

/-- What has been read by the first k fields. -/
def unpackAt (xs : List Int) (k : Nat) : List Value := (List.range k).foldl (fun cs i => match fieldsAll[i]? with
  | some d => d.into cs ((xs.drop (wide i)).take d.n)
  | none => cs) zeroC

def unpacked (xs : List Int) : List Value := unpackAt xs 30

theorem unpackAt_succ (xs : List Int) {k : Nat} {d : FD} (h : fieldsAll[k]? = some d) : unpackAt xs (k + 1) = d.into (unpackAt xs k) ((xs.drop (wide k)).take d.n) := by
  unfold unpackAt
  rw [List.range_succ, List.foldl_append]
  simp only [List.foldl_cons, List.foldl_nil, h]

theorem unpackAt_len (xs : List Int) : ∀ k, k ≤ 30 → (unpackAt xs k).length = 31
  | 0, _ => rfl
  | k + 1, hk => by
    obtain ⟨d, hd⟩ : ∃ d, fieldsAll[k]? = some d := ⟨_, List.getElem?_eq_getElem (by rw [fields_len]; omega)⟩
    rw [unpackAt_succ xs hd, FD.into_len, unpackAt_len xs k (by omega)]

theorem FD.into_one {cs : List Value} {d : FD} {xs : List Int} (h : ∀ v ∈ cs, v.oneCell' = true) : ∀ v ∈ d.into cs xs, v.oneCell' = true := by
  intro v hv
  unfold FD.into at hv
  split at hv
  · rcases List.mem_or_eq_of_mem_set hv with hv | rfl
    · exact h v hv
    · rfl
  · exact h v hv

theorem unpackAt_one (xs : List Int) : ∀ k, k ≤ 30 → ∀ v ∈ unpackAt xs k, v.oneCell' = true
  | 0, _ => by
    intro v hv
    have : ∀ v ∈ zeroC, v.oneCell' = true := by
      intro v hv
      simp only [zeroC, List.mem_cons, List.not_mem_nil, or_false] at hv
      rcases hv with rfl | rfl | rfl | rfl | rfl | rfl | rfl | rfl | rfl | rfl | rfl | rfl | rfl | rfl | rfl | rfl | rfl | rfl | rfl | rfl | rfl | rfl | rfl | rfl | rfl | rfl | rfl | rfl | rfl | rfl | rfl <;> rfl
    exact this v hv
  | k + 1, hk => by
    obtain ⟨d, hd⟩ : ∃ d, fieldsAll[k]? = some d := ⟨_, List.getElem?_eq_getElem (by rw [fields_len]; omega)⟩
    rw [unpackAt_succ xs hd]
    exact FD.into_one (unpackAt_one xs k (by omega))

theorem fields_room {k : Nat} {d : FD} (h : fieldsAll[k]? = some d) (cs : List Value) (hl : cs.length = 31) : d.room cs := by
  have hk := (List.getElem?_eq_some_iff.1 h).1
  have ha : ∀ d ∈ fieldsAll, ∀ o kd, d.at_ = some (o, kd) → o < 31 := by
    have : ∀ d ∈ fieldsAll, (match d.at_ with | some (o, _) => decide (o < 31) | none => true) = true := by decide
    intro d hd o kd he
    have h2 := this d hd
    rw [he] at h2
    simpa using h2
  unfold FD.room
  split
  · rename_i o kd he
    rw [hl]
    exact ha d (List.mem_of_getElem? h) o kd he
  · trivial

theorem size_content : (Try.prog.info? 73).map (·.size) = some 31 := by kernel_rfl

theorem readAt_next {xs : List Int} (hx : xs.length = 128) {k : Nat} {d : FD} (h : fieldsAll[k]? = some d) :
    RS.next ⟨xs, wide k, 0, 0⟩ d.n = ⟨xs, wide (k + 1), 0, 0⟩ ∧ RS.got ⟨xs, wide k, 0, 0⟩ d.n = (xs.drop (wide k)).take d.n ∧ wide k + d.n ≤ xs.length := by
  have hk := (List.getElem?_eq_some_iff.1 h).1
  rw [fields_len] at hk
  have hw := wide_le (k + 1) (by omega)
  have hs := wide_succ h
  rw [hs] at hw
  refine ⟨?_, ?_, by omega⟩
  · unfold RS.next
    simp only [if_true]
    rw [if_pos (by omega), hs]
  · unfold RS.got
    simp only [if_true]
    rw [if_pos (by omega)]

end Go.Proofs.Ytffpjefecmkfmaa
