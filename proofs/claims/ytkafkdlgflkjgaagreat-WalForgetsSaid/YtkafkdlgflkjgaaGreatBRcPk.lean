/-
  A packer of a record's sector: what has been put into it. By an AI agent.
-/
import Derived.Test.YtkafkdlgflkjgaaGreatBPkNew
import Derived.Test.YtkafkdlgflkjgaaGreatBG
import Derived.Test.YtkafkdlgflkjgaaGreatBRcGen
import Derived.Lib.SlBytesConst
namespace Go.Proofs.YtkafkdlgflkjgaaGreat
open Crc Go.RowKit

/-- A packer of 128 bytes into which l has been put. -/
def PkAt (W : World) (b g : Nat) (l : List Nat) : Prop := Pk W b g ⟨ints (l ++ noughts (128 - l.length)), l.length, 0⟩ ∧ l.length ≤ 128

theorem PkAt.chg {w w' : World} {t : List Nat} {b g : Nat} {l : List Nat} (h : PkAt w b g l) (c : Chg t w w') (hb : b ∉ t) (hg : g ∉ t) : PkAt w' b g l := ⟨h.1.chg c hb hg, h.2⟩

theorem leBytes_low : ∀ (n v : Nat), leBytes n (v : Int) = ints (low n v)
  | 0, _ => rfl
  | n + 1, v => by
    rw [leBytes, low, show ((v : Int) / 256) = ((v / 256 : Nat) : Int) from (Int.natCast_ediv v 256).symm, leBytes_low n (v / 256)]
    rfl

/-- What a call that puts leaves. -/
def PutAt (w : World) (b g : Nat) (l xs : List Nat) (e : Ending) (w' : World) : Prop := e = .returned (.tuple #[]) ∧ Hid (PkAt w' b g (l ++ xs)) ∧ Hid (Chg [b, g] w w')

theorem put_at {w : World} {b g : Nat} {l xs : List Nat} (hl : l.length + xs.length ≤ 128) {e : Ending} {w' : World} (h : Puts w b g ⟨ints (l ++ noughts (128 - l.length)), l.length, 0⟩ (ints xs) e w') : PutAt w b g l xs e w' := by
  obtain ⟨rfl, p, c⟩ := h
  refine ⟨rfl, ⟨?_, by rw [List.length_append]; exact hl⟩, c⟩
  unfold PS.put at p
  rw [if_pos rfl, if_pos (by rw [ints_length, ints_length, List.length_append, noughts, List.length_replicate]; show l.length + _ ≤ _; omega)] at p
  have e : lay (ints (l ++ noughts (128 - l.length))) l.length (ints xs) = ints ((l ++ xs) ++ noughts (128 - (l ++ xs).length)) := by
    unfold lay ints
    rw [← List.map_take, ← List.map_drop, ← List.map_append, ← List.map_append, List.length_map, List.take_left, List.length_append]
    congr 2
    rw [← List.drop_drop, List.drop_left]
    unfold noughts
    rw [List.drop_replicate]
    congr 1
    omega
  simp only at p
  rw [e, ints_length, ← List.length_append] at p
  exact p

theorem u8_put (b g : Nat) (l : List Nat) (v : Nat) (w : World) (h : PkAt w b g l) (hv : v < 256) (hl : l.length + 1 ≤ 128) :
    Calls Tryz.prog 184 #[.pointer (some ⟨b, 0, none⟩), .int .u8 v] w (PutAt w b g l [v]) := by
  refine (u8_any b g _ v w h.1 (by omega) (by omega)).mono (fun e w' k => put_at hl ?_)
  rw [leBytes_low 1 v, show low 1 v = [v] by simp [low]; omega] at k
  exact k

theorem u32_put (b g : Nat) (l : List Nat) (v : Nat) (w : World) (h : PkAt w b g l) (hv : v < 4294967296) (hl : l.length + 4 ≤ 128) :
    Calls Tryz.prog 125 #[.pointer (some ⟨b, 0, none⟩), .int .u32 v] w (PutAt w b g l (low 4 v)) := by
  refine (u32_any b g _ v w h.1 (by omega) (by omega)).mono (fun e w' k => put_at (by rw [low_length]; exact hl) ?_)
  rw [leBytes_low 4 v] at k
  exact k

theorem u64_put (b g : Nat) (l : List Nat) (v : Nat) (w : World) (h : PkAt w b g l) (hv : v < 18446744073709551616) (hl : l.length + 8 ≤ 128) :
    Calls Tryz.prog 186 #[.pointer (some ⟨b, 0, none⟩), .int .u64 v] w (PutAt w b g l (low 8 v)) := by
  refine (u64_any b g _ v w h.1 (by omega) (by omega)).mono (fun e w' k => put_at (by rw [low_length]; exact hl) ?_)
  rw [leBytes_low 8 v] at k
  exact k

theorem fill_put (b g : Nat) (l : List Nat) (n : Nat) (w : World) (h : PkAt w b g l) (hl : l.length + n ≤ 128) :
    Calls Tryz.prog 185 #[.pointer (some ⟨b, 0, none⟩), .int .i64 n, .int .u8 0] w (PutAt w b g l (noughts n)) := by
  refine (fill_any b g _ n 0 w h.1 (by omega) (by decide) (by decide)).mono (fun e w' k => put_at (by simpa [noughts] using hl) ?_)
  rw [Int.toNat_natCast, show List.replicate n (0 : Int) = ints (noughts n) by simp [ints, noughts]] at k
  exact k

theorem raw_put (b g : Nat) (l : List Nat) (v : Value) (xs : List Nat) (w : World) (h : PkAt w b g l) (hv : Sl w v (ints xs)) (hne : ∀ k, v.ownBlock = some k → k ≠ b) (hx : Bs xs) (hl : l.length + xs.length ≤ 128) :
    Calls Tryz.prog 183 #[.pointer (some ⟨b, 0, none⟩), v] w (PutAt w b g l xs) := by
  exact (raw_any b g _ v (ints xs) w h.1 hv (fun k _ hk => hne k hk) (ints_by hx) (by rw [ints_length]; omega)).mono (fun e w' k => put_at hl k)

theorem at_put (b g : Nat) (l : List Nat) (w : World) (h : PkAt w b g l) :
    Calls Tryz.prog 187 #[.pointer (some ⟨b, 0, none⟩)] w fun e w' => e = .returned (.int .i64 (l.length : Nat)) ∧ w = w' := atP_any b g _ w h.1

theorem bytes_put (b g : Nat) (l : List Nat) (w : World) (h : PkAt w b g l) :
    Calls Tryz.prog 188 #[.pointer (some ⟨b, 0, none⟩)] w fun e w' => ∃ v, e = .returned (.tuple #[v, .int .u16 0]) ∧ Hid (w'.ownsRow w.heap.size 5 1 v 128 ((ints (l ++ noughts (128 - l.length))).map (Value.int .u8))) ∧ Hid (Chg [] w w') := by
  refine (bytes_any b g _ w h.1).mono ?_
  intro e w' k
  rcases k with ⟨k, _⟩ | ⟨_, v, rfl, o, c⟩
  · exact absurd rfl k
  · refine ⟨v, rfl, ?_, c⟩
    have hl := h.2
    have e : (ints (l ++ noughts (128 - l.length))).length = 128 := by rw [ints_length, List.length_append, noughts, List.length_replicate]; omega
    simp only [e] at o
    exact o

theorem new_put (w : World) : Calls Tryz.prog 182 #[.int .i64 128] w fun e w' => ∃ b g, e = .returned (.tuple #[.pointer (some ⟨b, 0, none⟩), .int .u16 0]) ∧ Hid (PkAt w' b g []) ∧ Hid (Chg [] w w') ∧ w.heap.size ≤ b ∧ w.heap.size ≤ g ∧ b < w'.heap.size ∧ g < w'.heap.size := by
  refine (new_ok 128 w (by decide)).mono ?_
  rintro e w' ⟨b, g, rfl, p, c, h⟩
  refine ⟨b, g, rfl, ⟨?_, Nat.zero_le _⟩, c, h⟩
  have e : ints ([] ++ noughts (128 - ([] : List Nat).length)) = List.replicate 128 0 := by simp [ints, noughts]
  rw [e]
  exact p


/-- What a closure that puts a record's fields does. -/
def PutsFields (w : World) (fn : Nat) (caps : Array Value) (fs : List Nat) : Prop :=
  (∀ (args : Array Value) (w : World), (callFunc fn args).run Tryz.prog w = .ok (.enter fn args) w) ∧
  ∀ (W : World) (b g : Nat) (l : List Nat), Chg [] w W → w.heap.size ≤ b → w.heap.size ≤ g → PkAt W b g l → l.length = 24 → Calls Tryz.prog fn (#[.pointer (some ⟨b, 0, none⟩)] ++ caps) W (PutAt W b g l (Rec.tail fs))

set_option maxHeartbeats 4000000 in
set_option maxRecDepth 100000 in
theorem encode_any (k ep sq : Nat) (fs : List Nat) (fn : Nat) (caps : Array Value) (w : World) (hk : k ≤ 3) (he : ep < 18446744073709551616) (hs : sq < 18446744073709551616) (hf : fs.length ≤ 25) (hfn : PutsFields w fn caps fs) :
    Calls Tryz.prog 123 #[.int .u8 k, .int .u64 ep, .int .u64 sq, .func (.func fn) #[] caps] w fun e w' => ∃ v, e = .returned v ∧ Hid (w'.ownsRow w.heap.size 5 1 v 128 ((ints (Rec.sector ⟨k, ep, sq, fs⟩)).map (Value.int .u8))) ∧ Hid (Chg [] w w') := by
  obtain ⟨hen, hcl⟩ := hfn
  replace hcl := Lib.hid hcl
  obtain ⟨r, hr⟩ : ∃ r : Rec, r = ⟨k, ep, sq, fs⟩ := ⟨_, rfl⟩
  have TL : (Rec.tail fs).length = 4 * fs.length := Rec.tail_length fs
  have HR : Hid (magicB ++ [k] ++ noughts 3 ++ low 8 ep ++ low 8 sq ++ Rec.tail fs ++ noughts (100 - 4 * fs.length) = r.body) := by
    show _ = _
    rw [hr]
    unfold Rec.body Rec.begun noughts
    have e : low 4 k = [k] ++ List.replicate 3 0 := by
      obtain rfl | rfl | rfl | rfl : k = 0 ∨ k = 1 ∨ k = 2 ∨ k = 3 := by omega
      all_goals rfl
    rw [e]
    simp [magicB]
  have BL : r.body.length = 124 := by rw [Rec.body_length (by rw [hr]; exact hf)]
  have BB : Bs r.body := r.body_bs
  have SB : Hid (r.sector = r.body ++ low 4 (sum r.body)) := rfl
  have hsm : sum r.body < 4294967296 := r.sum_lt
  rw [← hr]
  replace hr := Lib.hid hr
  obtain ⟨sm, hsme⟩ : ∃ x, x = sum r.body := ⟨_, rfl⟩
  rw [← hsme] at hsm SB
  replace hsme := Lib.hid hsme
  have hk0 : k < 256 := by omega
  go_enter Tryz.func123, Tryz.ntmps123
  go_wp2_with fail
  refine (new_put w).mono ?_
  rintro e w1 ⟨b, g, rfl, P, C, hb, hg, hb2, hg2⟩
  have K : Hid (∀ (W W' : World), Chg [] w W → Chg [b, g] W W' → Chg [] w W') := fun W W' c d => c.fresh d (fun j hj => .inr (by
    rcases List.mem_cons.1 hj with rfl | hj
    · exact hb
    · rw [List.mem_singleton.1 hj]; exact hg))
  clear hg2
  have kc := fun (w : World) (C : Array Value) (n c : Nat) => Lib.run_convert_bytes_const (P := Tryz.prog) w 65 5 C n c Tryz.underlying65 Tryz.underlying5
  go_wp2_with fail
  clear kc
  refine (raw_put b g [] _ magicB _ (P.out.chg ((Chg.refl [] w1).alloc _) (by simp) (by simp)) (.inr ⟨w1.heap.size, 0, 4, rfl, by simp, fun j hj => ?_⟩) (fun q hq => ?_) (by unfold Bs magicB; decide) (by decide)).mono ?_
  · have hj4 : j < 4 := hj
    obtain rfl | rfl | rfl | rfl : j = 0 ∨ j = 1 ∨ j = 2 ∨ j = 3 := by omega
    all_goals exact World.cell?_alloc_mark w1 #[.int .u8 83, .int .u8 80, .int .u8 74, .int .u8 76] _ _ _
  · have h1 : w1.heap.size = q := by simpa [Value.ownBlock] using hq
    omega
  rintro e w2 ⟨rfl, P2, C2⟩
  have D : Hid (Chg [] w w2) := K.out _ _ (C.out.alloc _) C2.out
  clear P C C2
  go_wp2_with fail
  refine (u8_put b g _ k w2 P2.out hk0 (by decide)).mono ?_
  rintro e w3 ⟨rfl, P, C⟩
  replace D : Hid (Chg [] w w3) := K.out _ _ D.out C.out
  clear P2 C
  go_wp2_with fail
  refine (fill_put b g _ 3 w3 P.out (show 8 ≤ 128 by decide)).mono ?_
  rintro e w4 ⟨rfl, P2, C⟩
  replace D : Hid (Chg [] w w4) := K.out _ _ D.out C.out
  clear P C
  go_wp2_with fail
  refine (u64_put b g _ ep w4 P2.out he (show 16 ≤ 128 by decide)).mono ?_
  rintro e w5 ⟨rfl, P, C⟩
  replace D : Hid (Chg [] w w5) := K.out _ _ D.out C.out
  clear P2 C
  go_wp2_with fail
  refine (u64_put b g _ sq w5 P.out hs (by simp [low_length, noughts, magicB])).mono ?_
  rintro e w6 ⟨rfl, P2, C⟩
  replace D : Hid (Chg [] w w6) := K.out _ _ D.out C.out
  clear P C
  go_wp2_with fail
  refine (hcl.out w6 b g _ D.out hb hg P2.out (by simp [low_length, noughts, magicB])).mono ?_
  rintro e w7 ⟨rfl, P, C⟩
  replace D : Hid (Chg [] w w7) := K.out _ _ D.out C.out
  clear P2 C hcl
  have LL : ([] ++ magicB ++ [k] ++ noughts 3 ++ low 8 ep ++ low 8 sq ++ Rec.tail fs).length = 24 + 4 * fs.length := by simp [low_length, noughts, magicB, TL]; omega
  have AT := at_put b g _ w7 P.out
  rw [LL] at AT
  have FI := Lib.hid (fill_put b g _ (100 - 4 * fs.length) w7 P.out (by rw [LL]; omega))
  rw [show [] ++ magicB ++ [k] ++ noughts 3 ++ low 8 ep ++ low 8 sq ++ Rec.tail fs = magicB ++ [k] ++ noughts 3 ++ low 8 ep ++ low 8 sq ++ Rec.tail fs from rfl] at FI
  obtain ⟨n, hn⟩ : ∃ n : Nat, n = 100 - 4 * fs.length := ⟨_, rfl⟩
  obtain ⟨m, hm⟩ : ∃ m : Nat, m = 24 + 4 * fs.length := ⟨_, rfl⟩
  rw [← hm] at AT
  rw [← hn] at FI HR
  have hnm : (124 : Int) - m = n := by omega
  have hm0 : (m : Int) ≤ 124 := by omega
  clear LL hn hm TL P
  have hm1 : (0 : Int) ≤ m := Int.natCast_nonneg _
  go_wp2_with fail
  refine AT.mono ?_
  rintro e w8 ⟨rfl, rfl⟩
  clear AT
  go_wp2_with fail
  refine FI.out.mono ?_
  rintro e w8 ⟨rfl, P, C⟩
  replace D : Hid (Chg [] w w8) := K.out _ _ D.out C.out
  rw [HR.out] at P
  clear FI C
  go_wp2_with fail
  refine (bytes_put b g _ w8 P.out).mono ?_
  rintro e w9 ⟨v, rfl, O, C⟩
  replace D : Hid (Chg [] w w9) := D.out.trans C.out
  have P9 := Lib.hid (P.out.chg C.out (by simp) (by simp))
  rw [BL] at O
  obtain ⟨vo, vc, rfl⟩ := owns_slice O.out
  have hvc : (128 : Int) ≤ vc := by have := owned_cap O.out; omega
  have OS := Lib.hid (Sl.owned O.out)
  have S4 : Hid (Sl w9 (.slice vo 124 vc) (ints r.body)) := by
    have h1 := Sl.pre (n := 128) (c := vc) OS.out 124 (by decide)
    rw [show (ints (r.body ++ noughts (128 - 124))).take 124 = ints r.body by rw [ints_app, List.take_left' (by rw [ints_length, BL])]] at h1
    exact h1
  have SM := Lib.hid (sum_any (.slice vo 124 vc) (ints r.body) w9 S4.out (ints_by BB) (by rw [ints_length, BL]; decide))
  rw [nats_ints, ← hsme.out] at SM
  have hs0 : (0 : Int) ≤ sm := Int.natCast_nonneg _
  have hs1 : (sm : Int) < 4294967296 := by omega
  clear P O OS S4
  go_wp2_with fail
  refine SM.out.mono ?_
  rintro e w10 ⟨rfl, C'⟩
  replace D : Hid (Chg [] w w10) := D.out.trans C'.out
  have P10 := Lib.hid (P9.out.chg C'.out (by simp) (by simp))
  clear C' P9 SM C
  go_wp2_with fail
  refine (u32_put b g _ sm w10 P10.out hsm (by rw [BL]; decide)).mono ?_
  rintro e w11 ⟨rfl, P, C⟩
  replace D : Hid (Chg [] w w11) := K.out _ _ D.out C.out
  rw [← SB.out] at P
  clear P10 C
  go_wp2_with fail
  refine (bytes_put b g _ w11 P.out).mono ?_
  rintro e w12 ⟨v, rfl, O, C⟩
  have D2 : Hid (Chg [] w w12) := D.out.trans C.out
  have hz := D.out.size
  clear C
  go_wp2_with fail
  go_ret
  refine ⟨_, rfl, ?_, D2.out⟩
  have o := O.out
  have SL : r.sector.length = 128 := by rw [SB.out, List.length_append, BL, low_length]
  rw [SL, show noughts (128 - 128) = [] from rfl, List.append_nil] at o
  exact ownsRow_base o hz

end Go.Proofs.YtkafkdlgflkjgaaGreat
