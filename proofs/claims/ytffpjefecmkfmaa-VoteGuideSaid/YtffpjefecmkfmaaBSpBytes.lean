/-
  The bytes of a superblock's content. No function of the program is walked here. By an AI agent.
-/
import Derived.Test.YtffpjefecmkfmaaBSpCon
namespace Go.Proofs.Ytffpjefecmkfmaa
open Go.RowKit Crc

theorem leBytes_low : ∀ (n v : Nat), leBytes n (v : Int) = ints (low n v)
  | 0, _ => rfl
  | n + 1, v => by
    have e1 : (v : Int) % 256 = ((v % 256 : Nat) : Int) := by omega
    have e2 : (v : Int) / 256 = ((v / 256 : Nat) : Int) := by omega
    rw [leBytes, e1, e2, leBytes_low n]
    rfl

theorem list16 {α : Type} {l : List α} (h : l.length = 16) : ∃ p0 p1 p2 p3 p4 p5 p6 p7 p8 p9 pa pb pc pd pe pf, l = [p0, p1, p2, p3, p4, p5, p6, p7, p8, p9, pa, pb, pc, pd, pe, pf] := by
  match l, h with
  | [p0, p1, p2, p3, p4, p5, p6, p7, p8, p9, pa, pb, pc, pd, pe, pf], _ => exact ⟨_, _, _, _, _, _, _, _, _, _, _, _, _, _, _, _, rfl⟩

set_option maxRecDepth 100000 in
theorem packed_conts (s : Sup) (u : Value) (fl sm : Int) (p : List Int) (hp : p.length = 16) :
    packed (s.conts u fl (p.map (Value.int .u8)) sm) = leBytes 8 5407723603 ++ leBytes 8 (s.id : Int) ++ leBytes 8 (s.ev : Int) ++ leBytes 8 (s.safe : Int) ++ leBytes 1 s.role ++ leBytes 1 s.m ++ leBytes 1 s.c ++ leBytes 1 fl ++ leBytes 2 s.t ++ leBytes 2 s.ring ++ leBytes 2 s.cur ++ List.replicate 2 0 ++ p.flatMap (leBytes 1) ++ List.replicate 64 0 ++ leBytes 4 sm := by
  obtain ⟨p0, p1, p2, p3, p4, p5, p6, p7, p8, p9, pa, pb, pc, pd, pe, pf, rfl⟩ := list16 hp
  kernel_rfl

/-- The states as numbers, noughts behind them. -/
def padI (st : List Int) : List Int := st ++ List.replicate (16 - st.length) 0

theorem pad16_eq (st : List Int) : pad16 st = (padI st).map (Value.int .u8) := by simp [pad16, padI]
theorem padI_len {st : List Int} (h : st.length ≤ 16) : (padI st).length = 16 := by simp [padI]; omega
theorem padI_by {st : List Int} (h : By st) : By (padI st) := h.append (By.replicate _ (by decide) (by decide))

theorem leBytes_one {x : Int} (h : 0 ≤ x ∧ x ≤ 255) : leBytes 1 x = [x] := by
  show [x % 256] = [x]
  congr 1
  omega

theorem flat_one : ∀ {p : List Int}, By p → p.flatMap (leBytes 1) = p
  | [], _ => rfl
  | x :: r, h => by
    rw [List.flatMap_cons, leBytes_one (h x List.mem_cons_self), flat_one (fun y hy => h y (List.mem_cons_of_mem _ hy))]
    rfl

theorem ints_app (a b : List Nat) : ints (a ++ b) = ints a ++ ints b := by simp [ints]

theorem low_two_four (v : Nat) (h : v < 65536) : low 4 v = low 2 v ++ [0, 0] := by
  have e1 : v / 256 / 256 = 0 := by omega
  simp [low, e1]

theorem Sup.flags_lt (s : Sup) : s.flags < 256 := by
  unfold Sup.flags
  split <;> split <;> decide

/-- What is packed of a superblock that is valid. -/
theorem packed_sup (s : Sup) (h : s.Ok) (hf : s.Fit) (u : Value) (sm : Nat) : packed (s.conts u s.flags (pad16 s.st) (sm : Int)) = ints (s.body ++ low 4 sm) := by
  obtain ⟨⟨a1, a2, a3, a4, a5, a6⟩, ⟨b1, b2, b3, b4, b5, b6, b7, b8, b9⟩, _, d1, d2, d3, d4⟩ := h
  have hl : s.st.length ≤ 16 := by omega
  obtain ⟨r, hr⟩ := Int.eq_ofNat_of_zero_le b5
  obtain ⟨m, hm⟩ := Int.eq_ofNat_of_zero_le (show 0 ≤ s.m by omega)
  obtain ⟨c, hc⟩ := Int.eq_ofNat_of_zero_le (show 0 ≤ s.c by omega)
  obtain ⟨t, ht⟩ := Int.eq_ofNat_of_zero_le (show 0 ≤ s.t by omega)
  obtain ⟨g, hg⟩ := Int.eq_ofNat_of_zero_le (show 0 ≤ s.ring by omega)
  obtain ⟨k, hk⟩ := Int.eq_ofNat_of_zero_le d2
  have e1 : leBytes 8 5407723603 = ints [83, 80, 83, 66, 1, 0, 0, 0] := by decide
  rw [pad16_eq, packed_conts s u _ _ _ (padI_len hl), flat_one (padI_by hf.st), e1]
  rw [hr, hm, hc, ht, hg, hk]
  simp only [leBytes_low]
  unfold Sup.body Sup.head padI
  rw [hr, hm, hc, ht, hg, hk]
  simp only [Int.toNat_natCast]
  rw [low_two_four k (by omega)]
  simp only [ints_app, ints_nats hf.st]
  have z2 : (List.replicate 2 0 : List Int) = ints [0, 0] := rfl
  have z3 : ints (List.replicate (80 - s.st.length) 0) = List.replicate (16 - s.st.length) 0 ++ List.replicate 64 0 := by
    rw [show 80 - s.st.length = (16 - s.st.length) + 64 by omega]
    unfold ints
    rw [List.map_replicate]
    exact List.replicate_append_replicate.symm
  rw [z2, z3]
  have o : ∀ n : Nat, low 1 n = [n % 256] := fun n => rfl
  simp only [o]
  have hfl : s.flags % 256 = s.flags := Nat.mod_eq_of_lt s.flags_lt
  rw [hfl]
  simp [ints, List.append_assoc]

theorem fits_sup (s : Sup) (h : s.Ok) (hf : s.Fit) (u : Value) (sm : Nat) (hs : sm < 4294967296) : ∀ d ∈ fieldsAll, d.fits (s.conts u s.flags (pad16 s.st) (sm : Int)) := by
  obtain ⟨⟨a1, a2, a3, a4, a5, a6⟩, ⟨b1, b2, b3, b4, b5, b6, b7, b8, b9⟩, _, d1, d2, d3, d4⟩ := h
  have hl : s.st.length ≤ 16 := by omega
  have f1 := hf.id
  have f2 := hf.ev
  have f3 := hf.safe
  have f4 := s.flags_lt
  have p8 : (2 : Int) ^ (8 * 8) = 18446744073709551616 := by decide
  have p4 : (2 : Int) ^ (8 * 4) = 4294967296 := by decide
  have p2 : (2 : Int) ^ (8 * 2) = 65536 := by decide
  have p1 : (2 : Int) ^ (8 * 1) = 256 := by decide
  intro d hd
  rcases List.mem_append.1 hd with hd | hd
  · rcases List.mem_append.1 hd with hd | hd
    · simp only [fieldsA, List.mem_cons, List.not_mem_nil, or_false] at hd
      rcases hd with rfl | rfl | rfl | rfl | rfl | rfl | rfl | rfl | rfl | rfl | rfl | rfl
      · exact ⟨5407723603, rfl, by decide, by decide⟩
      · exact ⟨(s.id : Int), rfl, by omega, by rw [p8]; omega⟩
      · exact ⟨(s.ev : Int), rfl, by omega, by rw [p8]; omega⟩
      · exact ⟨(s.safe : Int), rfl, by omega, by rw [p8]; omega⟩
      · exact ⟨s.role, rfl, by omega, by rw [p1]; omega⟩
      · exact ⟨s.m, rfl, by omega, by rw [p1]; omega⟩
      · exact ⟨s.c, rfl, by omega, by rw [p1]; omega⟩
      · exact ⟨(s.flags : Int), rfl, by omega, by rw [p1]; omega⟩
      · exact ⟨s.t, rfl, by omega, by rw [p2]; omega⟩
      · exact ⟨s.ring, rfl, by omega, by rw [p2]; omega⟩
      · exact ⟨s.cur, rfl, by omega, by rw [p2]; omega⟩
      · trivial
    · obtain ⟨i, hi, rfl⟩ := List.mem_map.1 hd
      have hi16 : i < 16 := by simpa using hi
      rw [pad16_eq]
      have hp := padI_len hl
      obtain ⟨x, hx⟩ : ∃ x, (padI s.st)[i]? = some x := ⟨_, List.getElem?_eq_getElem (by omega)⟩
      have hb := padI_by hf.st x (List.mem_of_getElem? hx)
      refine ⟨x, ?_, hb.1, by show x < 2 ^ (8 * 1); rw [p1]; omega⟩
      unfold Sup.conts
      rw [List.append_assoc, List.getElem?_append_right (by simp), List.getElem?_append_left (by simp [hp]; omega)]
      simp [hx]
  · simp only [fieldsC, List.mem_cons, List.not_mem_nil, or_false] at hd
    rcases hd with rfl | rfl
    · trivial
    · refine ⟨(sm : Int), ?_, by omega, by show (sm : Int) < 2 ^ (8 * 4); rw [p4]; omega⟩
      unfold Sup.conts
      rw [List.getElem?_append_right (by simp [pad16_len hl]), List.length_append, pad16_len hl]
      rfl

end Go.Proofs.Ytffpjefecmkfmaa
