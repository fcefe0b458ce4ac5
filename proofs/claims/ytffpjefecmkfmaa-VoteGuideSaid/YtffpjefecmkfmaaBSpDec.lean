/-
  Decode of a sector that was encoded. By an AI agent.
-/
import Derived.Test.YtffpjefecmkfmaaBSpEnc
import Derived.Test.YtffpjefecmkfmaaBSpSup
import Derived.Laws.BytesArg
import Derived.Laws.ResultCell
import Derived.Deep.RegionHeld3
namespace Go.Proofs.Ytffpjefecmkfmaa
open Go.RowKit Crc

set_option maxHeartbeats 400000 in
set_option maxRecDepth 100000 in
theorem equal_true (va vb : Value) (xs : List Int) (w : World) (hx : xs ≠ []) (ha : Sl w va xs) (hb : Sl w vb xs) :
    Calls Try.prog 38 #[va, vb] w fun e w' => e = .returned (.bool true) ∧ Hid (Chg [] w w') := by
  rcases ha with ⟨h0, _⟩ | ⟨b1, o1, c1, rfl, l1, k1⟩
  · exact absurd h0 hx
  rcases hb with ⟨h0, _⟩ | ⟨b2, o2, c2, rfl, l2, k2⟩
  · exact absurd h0 hx
  have q1 : (convert 65 9 (.slice (some ⟨b1, o1, none⟩) xs.length c1)).run Try.prog w = .ok (.string (strOfNums xs)) w := run_convert_bytes_arg w 65 5 Try.underlying65 Try.underlying5 b1 o1 xs.length c1 xs rfl k1 9 Try.underlying9
  have q2 : (convert 65 9 (.slice (some ⟨b2, o2, none⟩) xs.length c2)).run Try.prog w = .ok (.string (strOfNums xs)) w := run_convert_bytes_arg w 65 5 Try.underlying65 Try.underlying5 b2 o2 xs.length c2 xs rfl k2 9 Try.underlying9
  generalize strOfNums xs = S at *
  clear k1 k2 hx
  go_enter Try.func38, Try.ntmps38
  go_wp2_with fail
  go_ret
  exact ⟨rfl, Chg.refl _ _⟩

set_option maxRecDepth 100000 in
theorem unpacked_packed (id ev safe role m c fl t ring cur sm : Int) (p : List Int) (hp : p.length = 16) :
    unpacked (leBytes 8 5407723603 ++ leBytes 8 id ++ leBytes 8 ev ++ leBytes 8 safe ++ leBytes 1 role ++ leBytes 1 m ++ leBytes 1 c ++ leBytes 1 fl ++ leBytes 2 t ++ leBytes 2 ring ++ leBytes 2 cur ++ List.replicate 2 0 ++ p.flatMap (leBytes 1) ++ List.replicate 64 0 ++ leBytes 4 sm) =
    [.int .u64 (leNum (leBytes 8 id)), .int .u64 (leNum (leBytes 8 ev)), .int .u64 (leNum (leBytes 8 safe)), .int .i64 (leNum (leBytes 1 role)), .int .i64 (leNum (leBytes 1 m)), .int .i64 (leNum (leBytes 1 c)), .int .i64 (leNum (leBytes 2 t)), .int .i64 (leNum (leBytes 2 ring)), .bool false, .bool false, .slice none 0 0, .int .i64 (leNum (leBytes 2 cur)), .int .u64 (leNum (leBytes 8 5407723603)), .int .u8 (leNum (leBytes 1 fl))] ++ p.map (fun x => .int .u8 (leNum (leBytes 1 x))) ++ [.int .u32 (leNum (leBytes 4 sm))] := by
  obtain ⟨p0, p1, p2, p3, p4, p5, p6, p7, p8, p9, pa, pb, pc, pd, pe, pf, rfl⟩ := list16 hp
  kernel_rfl

theorem leNum_in {n : Nat} {v : Int} (h : 0 ≤ v) (h1 : v < 2 ^ (8 * n)) : leNum (leBytes n v) = v := by
  rw [leNum_leBytes, Int.emod_eq_of_lt h h1]

/-- What is read of a valid superblock's sector. -/
theorem unpacked_sup (s : Sup) (h : s.Ok) (hf : s.Fit) : unpacked (ints s.sector) = s.raw.conts (.slice none 0 0) s.flags (pad16 s.st) (sum s.body : Nat) := by
  have hsm : sum s.body < 4294967296 := more_lt (by decide) (Sup.body_bs hf)
  have e : ints s.sector = packed (s.conts (.slice none 0 0) s.flags (pad16 s.st) (sum s.body : Nat)) := (packed_sup s h hf _ _).symm
  obtain ⟨⟨a1, a2, a3, a4, a5, a6⟩, ⟨b1, b2, b3, b4, b5, b6, b7, b8, b9⟩, _, d1, d2, d3, d4⟩ := h
  have hl : s.st.length ≤ 16 := by omega
  have f1 := hf.id
  have f2 := hf.ev
  have f3 := hf.safe
  have f4 := s.flags_lt
  have p8 : (2 : Int) ^ (8 * 8) = 18446744073709551616 := by decide
  have p4 : (2 : Int) ^ (8 * 4) = 4294967296 := by decide
  have p2 : (2 : Int) ^ (8 * 2) = 65536 := by decide
  have p1 : (2 : Int) ^ (8 * 1) = 256 := by decide
  rw [e, pad16_eq, packed_conts s _ _ _ _ (padI_len hl), unpacked_packed _ _ _ _ _ _ _ _ _ _ _ _ (padI_len hl)]
  rw [leNum_in (n := 8) (v := s.id) (by omega) (by rw [p8]; omega), leNum_in (n := 8) (v := s.ev) (by omega) (by rw [p8]; omega), leNum_in (n := 8) (v := s.safe) (by omega) (by rw [p8]; omega), leNum_in (n := 1) (v := s.role) (by omega) (by rw [p1]; omega), leNum_in (n := 1) (v := s.m) (by omega) (by rw [p1]; omega), leNum_in (n := 1) (v := s.c) (by omega) (by rw [p1]; omega), leNum_in (n := 2) (v := s.t) (by omega) (by rw [p2]; omega), leNum_in (n := 2) (v := s.ring) (by omega) (by rw [p2]; omega), leNum_in (n := 2) (v := s.cur) (by omega) (by rw [p2]; omega), leNum_in (n := 8) (v := 5407723603) (by decide) (by decide), leNum_in (n := 1) (v := s.flags) (by omega) (by rw [p1]; omega), leNum_in (n := 4) (v := (sum s.body : Nat)) (by omega) (by rw [p4]; omega)]
  have em : (padI s.st).map (fun x => Value.int .u8 (leNum (leBytes 1 x))) = (padI s.st).map (Value.int .u8) := by
    refine List.map_congr_left fun x hx => ?_
    have hb := padI_by hf.st x hx
    rw [leNum_in hb.1 (by rw [p1]; omega)]
  rw [em]
  rfl

/-- A result that is a struct's cell, and another one. -/
theorem cell_and_tmp {fn : Func} {p u : Tmp} {ty : TypeId} {P : Program} (h : fn.results = #[.cell p ty, .tmp u]) (tmps : Array Value) (w : World) (g : Nat) (t : TypeId) (cs : Array Value) (fr : Nat × Nat) (fs)
    (hp : tmps.getD p undef = .pointer (some ⟨g, 0, none⟩)) (hg : w.heap[g]? = some (.cells cs t fr))
    (hu : P.underlying ty = some (.struct fs)) (hi : (P.info? ty).map (·.size) = some cs.size) :
    (results fn tmps).run P w = .ok (.tuple #[.agg cs, tmps.getD u undef]) w := by
  rw [results_cell_tmp h, hp]
  have e1 : (asAddr (.pointer (some ⟨g, 0, none⟩))).run P w = .ok ⟨g, 0, none⟩ w := rfl
  rw [e1]
  have e2 := run_loadVar_row w g t ty cs fr _ hg hu rfl hi
  simp only [Result.andThen]
  rw [e2]

/-- What Decode hands out of a valid superblock's sector. -/
def Decs (w : World) (s : Sup) (e : Ending) (w' : World) : Prop :=
  ∃ u, e = .returned (.tuple #[s.val u, .int .u16 0]) ∧ Hid (w'.ownsRow w.heap.size 37 1 u s.st.length (s.st.map (Value.int .u8))) ∧ Hid (Chg [] w w')

end Go.Proofs.Ytffpjefecmkfmaa
