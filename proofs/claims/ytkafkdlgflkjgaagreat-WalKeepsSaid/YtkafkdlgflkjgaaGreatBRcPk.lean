/-
  A packer of a record's sector: what has been put into it. By an AI agent.
-/
import Derived.Test.YtkafkdlgflkjgaaGreatBPkNew
import Derived.Test.YtkafkdlgflkjgaaGreatBG
import Derived.Test.YtkafkdlgflkjgaaGreatBRcGen
import Derived.Lib.SlBytesConst
namespace Go.Proofs.YtkafkdlgflkjgaaGreat
open Crc Go.RowKit

/-- A packer of 128 bytes into which l has been put. -/
def PkAt (W : World) (b g : Nat) (l : List Nat) : Prop := Pk W b g ⟨ints (l ++ noughts (128 - l.length)), l.length, 0⟩ ∧ l.length ≤ 128

theorem PkAt.chg {w w' : World} {t : List Nat} {b g : Nat} {l : List Nat} (h : PkAt w b g l) (c : Chg t w w') (hb : b ∉ t) (hg : g ∉ t) : PkAt w' b g l := ⟨h.1.chg c hb hg, h.2⟩

theorem leBytes_low : ∀ (n v : Nat), leBytes n (v : Int) = ints (low n v)
 | 0, _ => rfl
 | n + 1, v => by
   rw [leBytes, low, show ((v : Int) / 256) = ((v / 256 : Nat) : Int) from (Int.natCast_ediv v 256).symm, leBytes_low n (v / 256)]
   rfl

/-- What a call that puts leaves. -/
def PutAt (w : World) (b g : Nat) (l xs : List Nat) (e : Ending) (w' : World) : Prop := e = .returned (.tuple #[]) ∧ Hid (PkAt w' b g (l ++ xs)) ∧ Hid (Chg [b, g] w w')

theorem put_at {w : World} {b g : Nat} {l xs : List Nat} (hl : l.length + xs.length ≤ 128) {e : Ending} {w' : World} (h : Puts w b g ⟨ints (l ++ noughts (128 - l.length)), l.length, 0⟩ (ints xs) e w') : PutAt w b g l xs e w' := by
 obtain ⟨rfl, p, c⟩ := h
 refine ⟨rfl, ⟨?_, by rw [List.length_append]; exact hl⟩, c⟩
 unfold PS.put at p
 rw [if_pos rfl, if_pos (by rw [ints_length, ints_length, List.length_append, noughts, List.length_replicate]; show l.length + _ ≤ _; omega)] at p
 have e : lay (ints (l ++ noughts (128 - l.length))) l.length (ints xs) = ints ((l ++ xs) ++ noughts (128 - (l ++ xs).length)) := by
  unfold lay ints
  rw [← List.map_take, ← List.map_drop, ← List.map_append, ← List.map_append, List.length_map, List.take_left, List.length_append]
  congr 2
  rw [← List.drop_drop, List.drop_left]
  unfold noughts
  rw [List.drop_replicate]
  congr 1
  omega
 simp only at p
 rw [e, ints_length, ← List.length_append] at p
 exact p

theorem u8_put (b g : Nat) (l : List Nat) (v : Nat) (w : World) (h : PkAt w b g l) (hv : v < 256) (hl : l.length + 1 ≤ 128) :
 Calls Tryz.prog 184 #[.pointer (some ⟨b, 0, none⟩), .int .u8 v] w (PutAt w b g l [v]) := by
 refine (u8_any b g _ v w h.1 (by omega) (by omega)).mono (fun e w' k => put_at hl ?_)
 rw [leBytes_low 1 v, show low 1 v = [v] by simp [low]; omega] at k
 exact k

theorem u32_put (b g : Nat) (l : List Nat) (v : Nat) (w : World) (h : PkAt w b g l) (hv : v < 4294967296) (hl : l.length + 4 ≤ 128) :
 Calls Tryz.prog 125 #[.pointer (some ⟨b, 0, none⟩), .int .u32 v] w (PutAt w b g l (low 4 v)) := by
 refine (u32_any b g _ v w h.1 (by omega) (by omega)).mono (fun e w' k => put_at (by rw [low_length]; exact hl) ?_)
 rw [leBytes_low 4 v] at k
 exact k

theorem u64_put (b g : Nat) (l : List Nat) (v : Nat) (w : World) (h : PkAt w b g l) (hv : v < 18446744073709551616) (hl : l.length + 8 ≤ 128) :
 Calls Tryz.prog 186 #[.pointer (some ⟨b, 0, none⟩), .int .u64 v] w (PutAt w b g l (low 8 v)) := by
 refine (u64_any b g _ v w h.1 (by omega) (by omega)).mono (fun e w' k => put_at (by rw [low_length]; exact hl) ?_)
 rw [leBytes_low 8 v] at k
 exact k

theorem fill_put (b g : Nat) (l : List Nat) (n : Nat) (w : World) (h : PkAt w b g l) (hl : l.length + n ≤ 128) :
 Calls Tryz.prog 185 #[.pointer (some ⟨b, 0, none⟩), .int .i64 n, .int .u8 0] w (PutAt w b g l (noughts n)) := by
 refine (fill_any b g _ n 0 w h.1 (by omega) (by decide) (by decide)).mono (fun e w' k => put_at (by simpa [noughts] using hl) ?_)
 rw [Int.toNat_natCast, show List.replicate n (0 : Int) = ints (noughts n) by simp [ints, noughts]] at k
 exact k

theorem raw_put (b g : Nat) (l : List Nat) (v : Value) (xs : List Nat) (w : World) (h : PkAt w b g l) (hv : Sl w v (ints xs)) (hne : ∀ k, v.ownBlock = some k → k ≠ b) (hx : Bs xs) (hl : l.length + xs.length ≤ 128) :
 Calls Tryz.prog 183 #[.pointer (some ⟨b, 0, none⟩), v] w (PutAt w b g l xs) := by
 exact (raw_any b g _ v (ints xs) w h.1 hv (fun k _ hk => hne k hk) (ints_by hx) (by rw [ints_length]; omega)).mono (fun e w' k => put_at hl k)

theorem at_put (b g : Nat) (l : List Nat) (w : World) (h : PkAt w b g l) :
 Calls Tryz.prog 187 #[.pointer (some ⟨b, 0, none⟩)] w fun e w' => e = .returned (.int .i64 (l.length : Nat)) ∧ w = w' := atP_any b g _ w h.1

theorem bytes_put (b g : Nat) (l : List Nat) (w : World) (h : PkAt w b g l) :
 Calls Tryz.prog 188 #[.pointer (some ⟨b, 0, none⟩)] w fun e w' => ∃ v, e = .returned (.tuple #[v, .int .u16 0]) ∧ Hid (w'.ownsRow w.heap.size 5 1 v 128 ((ints (l ++ noughts (128 - l.length))).map (Value.int .u8))) ∧ Hid (Chg [] w w') := by
 refine (bytes_any b g _ w h.1).mono ?_
 intro e w' k
 rcases k with ⟨k, _⟩ | ⟨_, v, rfl, o, c⟩
 ·exact absurd rfl k
 ·refine ⟨v, rfl, ?_, c⟩
  have hl := h.2
  have e : (ints (l ++ noughts (128 - l.length))).length = 128 := by rw [ints_length, List.length_append, noughts, List.length_replicate]; omega
  simp only [e] at o
  exact o

theorem new_put (w : World) : Calls Tryz.prog 182 #[.int .i64 128] w fun e w' => ∃ b g, e = .returned (.tuple #[.pointer (some ⟨b, 0, none⟩), .int .u16 0]) ∧ Hid (PkAt w' b g []) ∧ Hid (Chg [] w w') ∧ w.heap.size ≤ b ∧ w.heap.size ≤ g ∧ b < w'.heap.size ∧ g < w'.heap.size := by
 refine (new_ok 128 w (by decide)).mono ?_
 rintro e w' ⟨b, g, rfl, p, c, h⟩
 refine ⟨b, g, rfl, ⟨?_, Nat.zero_le _⟩, c, h⟩
 have e : ints ([] ++ noughts (128 - ([] : List Nat).length)) = List.replicate 128 0 := by simp [ints, noughts]
 rw [e]
 exact p


/-- What a closure that puts a record's fields does. -/
def PutsFields (w : World) (fn : Nat) (caps : Array Value) (fs : List Nat) : Prop :=
 (∀ (args : Array Value) (w : World), (callFunc fn args).run Tryz.prog w = .ok (.enter fn args) w) ∧
 ∀ (W : World) (b g : Nat) (l : List Nat), Chg [] w W → w.heap.size ≤ b → w.heap.size ≤ g → PkAt W b g l → l.length = 24 → Calls Tryz.prog fn (#[.pointer (some ⟨b, 0, none⟩)] ++ caps) W (PutAt W b g l (Rec.tail fs))

set_option maxHeartbeats 4000000 in
set_option maxRecDepth 100000 in
theorem encode_any (k ep sq : Nat) (fs : List Nat) (fn : Nat) (caps : Array Value) (w : World) (hk : k ≤ 3) (he : ep < 18446744073709551616) (hs : sq < 18446744073709551616) (hf : fs.length ≤ 25) (hfn : PutsFields w fn caps fs) :
 Calls Tryz.prog 123 #[.int .u8 k, .int .u64 ep, .int .u64 sq, .func (.func fn) #[] caps] w fun e w' => ∃ v, e = .returned v ∧ Hid (w'.ownsRow w.heap.size 5 1 v 128 ((ints (Rec.sector ⟨k, ep, sq, fs⟩)).map (Value.int .u8))) ∧ Hid (Chg [] w w') := by
 obtain ⟨hen, hcl⟩ := hfn
 replace hcl := Lib.hid hcl
 obtain ⟨r, hr⟩ : ∃ r : Rec, r = ⟨k, ep, sq, fs⟩ := ⟨_, rfl⟩
 have TL : (Rec.tail fs).length = 4 * fs.length := Rec.tail_length fs
 have HR : Hid (magicB ++ [k] ++ noughts 3 ++ low 8 ep ++ low 8 sq ++ Rec.tail fs ++ noughts (100 - 4 * fs.length) = r.body) := by
  show _ = _
  rw [hr]
  unfold Rec.body Rec.begun noughts
  have e : low 4 k = [k] ++ List.replicate 3 0 := by
   obtain rfl | rfl | rfl | rfl : k = 0 ∨ k = 1 ∨ k = 2 ∨ k = 3 := by omega
   all_goals rfl
  rw [e]
  simp [magicB]
 have BL : r.body.length = 124 := by rw [Rec.body_length (by rw [hr]; exact hf)]
 have BB : Bs r.body := r.body_bs
 have SB : Hid (r.sector = r.body ++ low 4 (sum r.body)) := rfl
 have hsm : sum r.body < 4294967296 := r.sum_lt
 rw [← hr]
 replace hr := Lib.hid hr
 obtain ⟨sm, hsme⟩ : ∃ x, x = sum r.body := ⟨_, rfl⟩
 rw [← hsme] at hsm SB
 replace hsme := Lib.hid hsme
 have hk0 : k < 256 := by omega
 go_enter Tryz.func123, Tryz.ntmps123
 go_wp2_with fail
 refine (new_put w).mono ?_
 rintro e w1 ⟨b, g, rfl, P, C, hb, hg, hb2, hg2⟩
 have K : Hid (∀ (W W' : World), Chg [] w W → Chg [b, g] W W' → Chg [] w W') := fun W W' c d => c.fresh d (fun j hj => .inr (by
  rcases List.mem_cons.1 hj with rfl | hj
  ·exact hb
  ·rw [List.mem_singleton.1 hj]; exact hg))
 clear hg2
 have kc := fun (w : World) (C : Array Value) (n c : Nat) => Lib.run_convert_bytes_const (P := Tryz.prog) w 65 5 C n c Tryz.underlying65 Tryz.underlying5
 go_wp2_with fail
 clear kc
 refine (raw_put b g [] _ magicB _ (P.out.chg ((Chg.refl [] w1).alloc _) (by simp) (by simp)) (.inr ⟨w1.heap.size, 0, 4, rfl, by simp, fun j hj => ?_⟩) (fun q hq => ?_) (by unfold Bs magicB; decide) (by decide)).mono ?_
 ·have hj4 : j < 4 := hj
  obtain rfl | rfl | rfl | rfl : j = 0 ∨ j = 1 ∨ j = 2 ∨ j = 3 := by omega
  all_goals exact World.cell?_alloc_mark w1 #[.int .u8 83, .int .u8 80, .int .u8 74, .int .u8 76] _ _ _
 ·have h1 : w1.heap.size = q := by simpa [Value.ownBlock] using hq
  omega
 rintro e w2 ⟨rfl, P2, C2⟩
 have D : Hid (Chg [] w w2) := K.out _ _ (C.out.alloc _) C2.out
 clear P C C2
 go_wp2_with fail
 refine (u8_put b g _ k w2 P2.out hk0 (by decide)).mono ?_
 rintro e w3 ⟨rfl, P, C⟩
 replace D : Hid (Chg [] w w3) := K.out _ _ D.out C.out
 clear P2 C
 go_wp2_with fail
 refine (fill_put b g _ 3 w3 P.out (show 8 ≤ 128 by decide)).mono ?_
 rintro e w4 ⟨rfl, P2, C⟩
 replace D : Hid (Chg [] w w4) := K.out _ _ D.out C.out
 clear P C
 go_wp2_with fail
 refine (u64_put b g _ ep w4 P2.out he (show 16 ≤ 128 by decide)).mono ?_
 rintro e w5 ⟨rfl, P, C⟩
 replace D : Hid (Chg [] w w5) := K.out _ _ D.out C.out
 clear P2 C
 go_wp2_with fail
 refine (u64_put b g _ sq w5 P.out hs (by simp [low_length, noughts, magicB])).mono ?_
 rintro e w6 ⟨rfl, P2, C⟩
 replace D : Hid (Chg [] w w6) := K.out _ _ D.out C.out
 clear P C
 go_wp2_with fail
 refine (hcl.out w6 b g _ D.out hb hg P2.out (by simp [low_length, noughts, magicB])).mono ?_
 rintro e w7 ⟨rfl, P, C⟩
 replace D : Hid (Chg [] w w7) := K.out _ _ D.out C.out
 clear P2 C hcl
 have LL : ([] ++ magicB ++ [k] ++ noughts 3 ++ low 8 ep ++ low 8 sq ++ Rec.tail fs).length = 24 + 4 * fs.length := by simp [low_length, noughts, magicB, TL]; omega
 have AT := at_put b g _ w7 P.out
 rw [LL] at AT
 have FI := Lib.hid (fill_put b g _ (100 - 4 * fs.length) w7 P.out (by rw [LL]; omega))
 rw [show [] ++ magicB ++ [k] ++ noughts 3 ++ low 8 ep ++ low 8 sq ++ Rec.tail fs = magicB ++ [k] ++ noughts 3 ++ low 8 ep ++ low 8 sq ++ Rec.tail fs from rfl] at FI
 obtain ⟨n, hn⟩ : ∃ n : Nat, n = 100 - 4 * fs.length := ⟨_, rfl⟩
 obtain ⟨m, hm⟩ : ∃ m : Nat, m = 24 + 4 * fs.length := ⟨_, rfl⟩
 rw [← hm] at AT
 rw [← hn] at FI HR
 have hnm : (124 : Int) - m = n := by omega
 have hm0 : (m : Int) ≤ 124 := by omega
 clear LL hn hm TL P
 have hm1 : (0 : Int) ≤ m := Int.natCast_nonneg _
 go_wp2_with fail
 refine AT.mono ?_
 rintro e w8 ⟨rfl, rfl⟩
 clear AT
 go_wp2_with fail
 refine FI.out.mono ?_
 rintro e w8 ⟨rfl, P, C⟩
 replace D : Hid (Chg [] w w8) := K.out _ _ D.out C.out
 rw [HR.out] at P
 clear FI C
 go_wp2_with fail
 refine (bytes_put b g _ w8 P.out).mono ?_
 rintro e w9 ⟨v, rfl, O, C⟩
 replace D : Hid (Chg [] w w9) := D.out.trans C.out
 have P9 := Lib.hid (P.out.chg C.out (by simp) (by simp))
 rw [BL] at O
 obtain ⟨vo, vc, rfl⟩ := owns_slice O.out
 have hvc : (128 : Int) ≤ vc := by have := owned_cap O.out; omega
 have OS := Lib.hid (Sl.owned O.out)
 have S4 : Hid (Sl w9 (.slice vo 124 vc) (ints r.body)) := by
  have h1 := Sl.pre (n := 128) (c := vc) OS.out 124 (by decide)
  rw [show (ints (r.body ++ noughts (128 - 124))).take 124 = ints r.body by rw [ints_app, List.take_left' (by rw [ints_length, BL])]] at h1
  exact h1
 have SM := Lib.hid (sum_any (.slice vo 124 vc) (ints r.body) w9 S4.out (ints_by BB) (by rw [ints_length, BL]; decide))
 rw [nats_ints, ← hsme.out] at SM
 have hs0 : (0 : Int) ≤ sm := Int.natCast_nonneg _
 have hs1 : (sm : Int) < 4294967296 := by omega
 clear P O OS S4
 go_wp2_with fail
 refine SM.out.mono ?_
 rintro e w10 ⟨rfl, C'⟩
 replace D : Hid (Chg [] w w10) := D.out.trans C'.out
 have P10 := Lib.hid (P9.out.chg C'.out (by simp) (by simp))
 clear C' P9 SM C
 go_wp2_with fail
 refine (u32_put b g _ sm w10 P10.out hsm (by rw [BL]; decide)).mono ?_
 rintro e w11 ⟨rfl, P, C⟩
 replace D : Hid (Chg [] w w11) := K.out _ _ D.out C.out
 rw [← SB.out] at P
 clear P10 C
 go_wp2_with fail
 refine (bytes_put b g _ w11 P.out).mono ?_
 rintro e w12 ⟨v, rfl, O, C⟩
 have D2 : Hid (Chg [] w w12) := D.out.trans C.out
 have hz := D.out.size
 clear C
 go_wp2_with fail
 go_ret
 refine ⟨_, rfl, ?_, D2.out⟩
 have o := O.out
 have SL : r.sector.length = 128 := by rw [SB.out, List.length_append, BL, low_length]
 rw [SL, show noughts (128 - 128) = [] from rfl, List.append_nil] at o
 exact ownsRow_base o hz

end Go.Proofs.YtkafkdlgflkjgaaGreat

/-
  The closures that put a record's fields, and the program's three Encodes. By an AI agent. Printed by gen_rcpf.py.
-/
namespace Go.Proofs.YtkafkdlgflkjgaaGreat
open Go.RowKit Crc

theorem tail_cons (f : Nat) (fs : List Nat) : Rec.tail (f :: fs) = low 4 f ++ Rec.tail fs := rfl
theorem tail_nil : Rec.tail [] = [] := rfl

/-- What the program's Encodes hand out. -/
def PcEncs (w : World) (enc : List Nat) (err : Int) (e : Ending) (w' : World) : Prop :=
 ∃ v, e = .returned (.tuple #[v, .int .u16 err]) ∧ Hid (w'.ownsRow w.heap.size 5 1 v enc.length ((ints enc).map (Value.int .u8))) ∧ Hid (Chg [] w w')

theorem enters_EncodeHeader (args : Array Value) (w : World) : (callFunc 218 args).run Tryz.prog w = .ok (.enter 218 args) w := by
 have h1 : (Tryz.f218.name == "runtime.NumGoroutine") = false := by kernel_rfl
 have h2 : Tryz.f218.body.isNone = false := by kernel_rfl
 have h3 : ¬ Tryz.f218.name = "runtime.NumGoroutine" := by simpa using h1
 have h4 : ¬ Tryz.f218.body = none := fun e => by rw [e] at h2; cases h2
 simp [callFunc, go_sem, Tryz.func218, h3, h4]

set_option maxHeartbeats 4000000 in
set_option maxRecDepth 100000 in
theorem fields_Hd (h : Hd) (hok : h.Ok) (hsm : h.sm < 4294967296) (hb : Nat) (w : World) (B : Blk w hb 256 [.int .u64 (h.ep : Int), .int .u64 (h.sq : Int), .int .i64 h.ix, .int .i64 h.ct, .int .i64 h.mb, .int .i64 h.rw', .bool h.esc, .int .u32 (h.sm : Int)]) : PutsFields w 218 #[.pointer (some ⟨hb, 0, none⟩)] h.rec'.fs := by
 refine ⟨enters_EncodeHeader, fun W b g l c hbb hgg P hl => ?_⟩
 obtain ⟨_, a1, a2, a3, a4, a5, a6, a7, a8⟩ := hok
 obtain ⟨i, hi⟩ := Int.eq_ofNat_of_zero_le a3
 obtain ⟨c', hc⟩ := Int.eq_ofNat_of_zero_le (show 0 ≤ h.ct by omega)
 obtain ⟨m, hm⟩ := Int.eq_ofNat_of_zero_le a5
 obtain ⟨r, hr⟩ := Int.eq_ofNat_of_zero_le a7
 obtain ⟨fl, hfl⟩ : ∃ fl : Nat, fl = if h.esc = true then 1 else 0 := ⟨_, rfl⟩
 have bfl : fl ≤ 1 := by rw [hfl]; split <;> decide
 have hfs : Hid (h.rec'.fs = [i, c', m, r, fl, h.sm]) := by show _ = _; unfold Hd.rec'; rw [hi, hc, hm, hr, hfl]; rfl
 have FL0 := Lib.hid (fun W => flagsOf_any h W)
 rw [← hfl] at FL0
 clear hfl
 have bi : i < 1023 := by omega
 have bc : c' ≤ 1023 := by omega
 have bm : m ≤ 15 := by omega
 have br : r ≤ 4095 := by omega
 replace hi := Lib.hid hi
 replace hc := Lib.hid hc
 replace hm := Lib.hid hm
 replace hr := Lib.hid hr
 clear a1 a2 a3 a4 a5 a6 a7 a8
 rw [hfs.out]
 have hlt := B.lt
 have hnb : ¬ hb = b := by omega
 have hng : ¬ hb = g := by omega
 have K : Hid (∀ W', Chg [b, g] W W' → Blk W' hb 256 [.int .u64 (h.ep : Int), .int .u64 (h.sq : Int), .int .i64 h.ix, .int .i64 h.ct, .int .i64 h.mb, .int .i64 h.rw', .bool h.esc, .int .u32 (h.sm : Int)]) := fun W' d => (B.chg c (by simp)).chg d (by simp; exact ⟨hnb, hng⟩)
 have D : Hid (Chg [b, g] W W) := Chg.refl _ _
 replace P := Lib.hid P
 clear c hbb hgg hlt B
 go_enter Tryz.func218, Tryz.ntmps218
 have k0 := (K.out _ D.out).cell (j := 2) rfl
 rw [hi.out] at k0
 go_wp2_with fail
 refine (u32_put b g _ i W P.out (by omega) (by simp [hl])).mono ?_
 rintro e w1 ⟨rfl, P', C⟩
 replace D : Hid (Chg [b, g] W w1) := D.out.trans C.out
 clear P C k0
 have P := P'
 clear P'
 have k1 := (K.out _ D.out).cell (j := 3) rfl
 rw [hc.out] at k1
 go_wp2_with fail
 refine (u32_put b g _ c' w1 P.out (by omega) (by simp [low_length, hl])).mono ?_
 rintro e w2 ⟨rfl, P', C⟩
 replace D : Hid (Chg [b, g] W w2) := D.out.trans C.out
 clear P C k1
 have P := P'
 clear P'
 have k2 := (K.out _ D.out).cell (j := 4) rfl
 rw [hm.out] at k2
 go_wp2_with fail
 refine (u32_put b g _ m w2 P.out (by omega) (by simp [low_length, hl])).mono ?_
 rintro e w3 ⟨rfl, P', C⟩
 replace D : Hid (Chg [b, g] W w3) := D.out.trans C.out
 clear P C k2
 have P := P'
 clear P'
 have k3 := (K.out _ D.out).cell (j := 5) rfl
 rw [hr.out] at k3
 go_wp2_with fail
 refine (u32_put b g _ r w3 P.out (by omega) (by simp [low_length, hl])).mono ?_
 rintro e w4 ⟨rfl, P', C⟩
 replace D : Hid (Chg [b, g] W w4) := D.out.trans C.out
 clear P C k3
 have P := P'
 clear P'
 have k4_0 := (K.out _ D.out).cell (j := 0) rfl
 have k4_1 := (K.out _ D.out).cell (j := 1) rfl
 have k4_2 := (K.out _ D.out).cell (j := 2) rfl
 have k4_3 := (K.out _ D.out).cell (j := 3) rfl
 have k4_4 := (K.out _ D.out).cell (j := 4) rfl
 have k4_5 := (K.out _ D.out).cell (j := 5) rfl
 have k4_6 := (K.out _ D.out).cell (j := 6) rfl
 have k4_7 := (K.out _ D.out).cell (j := 7) rfl
 have FL := Lib.hid (FL0.out w4)
 unfold Hd.val at FL
 go_wp2_with fail
 refine FL.out.mono ?_
 rintro e w5' ⟨rfl, C⟩
 replace D : Hid (Chg [b, g] W w5') := D.out.trans (C.out.mono (by simp))
 replace P := Lib.hid (P.out.chg C.out (by simp) (by simp))
 clear C FL FL0 k4_0 k4_1 k4_2 k4_3 k4_4 k4_5 k4_6 k4_7
 go_wp2_with fail
 refine (u8_put b g _ fl w5' P.out (by omega) (by simp [low_length, hl])).mono ?_
 rintro e w5 ⟨rfl, P', C⟩
 replace D : Hid (Chg [b, g] W w5) := D.out.trans C.out
 clear P C
 have P := P'
 clear P'
 go_wp2_with fail
 refine (fill_put b g _ 3 w5 P.out (by simp [low_length, hl])).mono ?_
 rintro e w6 ⟨rfl, P', C⟩
 replace D : Hid (Chg [b, g] W w6) := D.out.trans C.out
 clear P C
 have P := P'
 clear P'
 have k6 := (K.out _ D.out).cell (j := 7) rfl
 go_wp2_with fail
 refine (u32_put b g _ h.sm w6 P.out hsm (by simp [low_length, noughts, hl])).mono ?_
 rintro e w7 ⟨rfl, P', C⟩
 replace D : Hid (Chg [b, g] W w7) := D.out.trans C.out
 clear P C k6
 have P := P'
 clear P'
 go_wp2_with fail
 go_end0
 refine ⟨rfl, ?_, D.out⟩
 have p := P.out
 have e : low 4 fl = [fl] ++ noughts 3 := by
  obtain rfl | rfl : fl = 0 ∨ fl = 1 := by omega
  all_goals rfl
 simp only [tail_cons, tail_nil, e, List.append_assoc, List.append_nil] at p ⊢
 exact p

set_option maxHeartbeats 4000000 in
set_option maxRecDepth 100000 in
theorem encHd_any (h : Hd) (w : World) (hep : h.ep < 18446744073709551616) (hsq : h.sq < 18446744073709551616) (hsm : h.sm < 4294967296) : Calls Tryz.prog 160 #[h.val] w (PcEncs w h.enc h.err) := by
 unfold PcEncs
 have C1 : Hid (Chg [] w (w.alloc (.cells #[.int .u64 (h.ep : Int), .int .u64 (h.sq : Int), .int .i64 h.ix, .int .i64 h.ct, .int .i64 h.mb, .int .i64 h.rw', .bool h.esc, .int .u32 (h.sm : Int)] 256))) := (Chg.refl _ w).alloc _
 have B1 : Hid (Blk (w.alloc (.cells #[.int .u64 (h.ep : Int), .int .u64 (h.sq : Int), .int .i64 h.ix, .int .i64 h.ct, .int .i64 h.mb, .int .i64 h.rw', .bool h.esc, .int .u32 (h.sm : Int)] 256)) w.heap.size 256 [.int .u64 (h.ep : Int), .int .u64 (h.sq : Int), .int .i64 h.ix, .int .i64 h.ct, .int .i64 h.mb, .int .i64 h.rw', .bool h.esc, .int .u32 (h.sm : Int)]) := Blk.made w _ _
 have s1 : (w.alloc (.cells #[.int .u64 (h.ep : Int), .int .u64 (h.sq : Int), .int .i64 h.ix, .int .i64 h.ct, .int .i64 h.mb, .int .i64 h.rw', .bool h.esc, .int .u32 (h.sm : Int)] 256)).heap.size = w.heap.size + 1 := by simp
 have VA := Lib.hid (fun W => headerValid_any h W)
 unfold Hd.val at VA ⊢
 by_cases hok : h.Ok
 case neg =>
  rw [decide_eq_false hok] at VA
  have er : h.err = 80 := by unfold Hd.err; rw [if_neg hok]
  have en : h.enc = [] := by unfold Hd.enc; rw [if_neg hok]
  rw [er, en]
  clear er en hok
  go_enter Tryz.func160, Tryz.ntmps160
  go_wp2_with fail
  refine (VA.out _).mono ?_
  rintro e w1 ⟨rfl, C⟩
  have C2 := Lib.hid (C1.out.trans C.out)
  clear C
  go_wp2_with fail
  go_ret2
  exact ⟨_, rfl, World.ownsRow_nil _ _ _ _, C2.out⟩
 rw [decide_eq_true hok] at VA
 have er : h.err = 0 := by unfold Hd.err; rw [if_pos hok]
 have en : h.enc = h.rec'.sector := by unfold Hd.enc; rw [if_pos hok]
 have SL : h.rec'.sector.length = 128 := Rec.sector_length (show 6 ≤ 25 by decide)
 rw [er, en, SL]
 clear er en SL
 have FI := Lib.hid (fun W (B : Blk W w.heap.size 256 [.int .u64 (h.ep : Int), .int .u64 (h.sq : Int), .int .i64 h.ix, .int .i64 h.ct, .int .i64 h.mb, .int .i64 h.rw', .bool h.esc, .int .u32 (h.sm : Int)]) => fields_Hd h hok hsm w.heap.size W B)
 have EN := Lib.hid (fun W k => encode_any 1 h.ep h.sq h.rec'.fs 218 #[.pointer (some ⟨w.heap.size, 0, none⟩)] W (by decide) hep hsq (show 6 ≤ 25 by decide) k)
 clear hok hep hsq hsm
 go_enter Tryz.func160, Tryz.ntmps160
 go_wp2_with fail
 refine (VA.out _).mono ?_
 rintro e w1 ⟨rfl, C⟩
 have C2 := Lib.hid (C1.out.trans C.out)
 have B2 := Lib.hid (B1.out.chg C.out (by simp))
 have hz := C.out.size
 rw [s1] at hz
 clear C C1 B1 s1 VA
 have k0 := B2.out.cell (j := 0) rfl
 have k1 := B2.out.cell (j := 1) rfl
 have EN1 := Lib.hid (EN.out w1 (FI.out w1 B2.out))
 clear FI EN B2
 go_wp2_with fail
 refine EN1.out.mono ?_
 rintro e w2 ⟨v, rfl, O, C⟩
 have C3 := Lib.hid (C2.out.trans C.out)
 clear C C2 k0 k1 EN1
 go_wp2_with fail
 go_ret2
 exact ⟨v, rfl, ownsRow_base O.out (by omega), C3.out⟩

theorem enters_EncodeCommit (args : Array Value) (w : World) : (callFunc 223 args).run Tryz.prog w = .ok (.enter 223 args) w := by
 have h1 : (Tryz.f223.name == "runtime.NumGoroutine") = false := by kernel_rfl
 have h2 : Tryz.f223.body.isNone = false := by kernel_rfl
 have h3 : ¬ Tryz.f223.name = "runtime.NumGoroutine" := by simpa using h1
 have h4 : ¬ Tryz.f223.body = none := fun e => by rw [e] at h2; cases h2
 simp [callFunc, go_sem, Tryz.func223, h3, h4]

set_option maxHeartbeats 4000000 in
set_option maxRecDepth 100000 in
theorem fields_Cm (h : Cm) (hok : h.Ok) (hsm : h.sm < 4294967296) (hb : Nat) (w : World) (B : Blk w hb 260 [.int .u64 (h.ep : Int), .int .u64 (h.sq : Int), .int .i64 h.ct, .int .u32 (h.sm : Int)]) : PutsFields w 223 #[.pointer (some ⟨hb, 0, none⟩)] h.rec'.fs := by
 refine ⟨enters_EncodeCommit, fun W b g l c hbb hgg P hl => ?_⟩
 obtain ⟨_, a1, a2⟩ := hok
 obtain ⟨c', hc⟩ := Int.eq_ofNat_of_zero_le (show 0 ≤ h.ct by omega)
 have hfs : Hid (h.rec'.fs = [c', h.sm]) := by show _ = _; unfold Cm.rec'; rw [hc]; rfl
 have bc : c' ≤ 1023 := by omega
 replace hc := Lib.hid hc
 clear a1 a2
 rw [hfs.out]
 have hlt := B.lt
 have hnb : ¬ hb = b := by omega
 have hng : ¬ hb = g := by omega
 have K : Hid (∀ W', Chg [b, g] W W' → Blk W' hb 260 [.int .u64 (h.ep : Int), .int .u64 (h.sq : Int), .int .i64 h.ct, .int .u32 (h.sm : Int)]) := fun W' d => (B.chg c (by simp)).chg d (by simp; exact ⟨hnb, hng⟩)
 have D : Hid (Chg [b, g] W W) := Chg.refl _ _
 replace P := Lib.hid P
 clear c hbb hgg hlt B
 go_enter Tryz.func223, Tryz.ntmps223
 have k0 := (K.out _ D.out).cell (j := 2) rfl
 rw [hc.out] at k0
 go_wp2_with fail
 refine (u32_put b g _ c' W P.out (by omega) (by simp [hl])).mono ?_
 rintro e w1 ⟨rfl, P', C⟩
 replace D : Hid (Chg [b, g] W w1) := D.out.trans C.out
 clear P C k0
 have P := P'
 clear P'
 have k1 := (K.out _ D.out).cell (j := 3) rfl
 go_wp2_with fail
 refine (u32_put b g _ h.sm w1 P.out hsm (by simp [low_length, hl])).mono ?_
 rintro e w2 ⟨rfl, P', C⟩
 replace D : Hid (Chg [b, g] W w2) := D.out.trans C.out
 clear P C k1
 have P := P'
 clear P'
 go_wp2_with fail
 go_end0
 refine ⟨rfl, ?_, D.out⟩
 have p := P.out
 simp only [tail_cons, tail_nil, List.append_assoc, List.append_nil] at p ⊢
 exact p

set_option maxHeartbeats 4000000 in
set_option maxRecDepth 100000 in
theorem encCm_any (h : Cm) (w : World) (hep : h.ep < 18446744073709551616) (hsq : h.sq < 18446744073709551616) (hsm : h.sm < 4294967296) : Calls Tryz.prog 163 #[h.val] w (PcEncs w h.enc h.err) := by
 unfold PcEncs
 have C1 : Hid (Chg [] w (w.alloc (.cells #[.int .u64 (h.ep : Int), .int .u64 (h.sq : Int), .int .i64 h.ct, .int .u32 (h.sm : Int)] 260))) := (Chg.refl _ w).alloc _
 have B1 : Hid (Blk (w.alloc (.cells #[.int .u64 (h.ep : Int), .int .u64 (h.sq : Int), .int .i64 h.ct, .int .u32 (h.sm : Int)] 260)) w.heap.size 260 [.int .u64 (h.ep : Int), .int .u64 (h.sq : Int), .int .i64 h.ct, .int .u32 (h.sm : Int)]) := Blk.made w _ _
 have s1 : (w.alloc (.cells #[.int .u64 (h.ep : Int), .int .u64 (h.sq : Int), .int .i64 h.ct, .int .u32 (h.sm : Int)] 260)).heap.size = w.heap.size + 1 := by simp
 have VA := Lib.hid (fun W => commitValid_any h W)
 unfold Cm.val at VA ⊢
 by_cases hok : h.Ok
 case neg =>
  rw [decide_eq_false hok] at VA
  have er : h.err = 80 := by unfold Cm.err; rw [if_neg hok]
  have en : h.enc = [] := by unfold Cm.enc; rw [if_neg hok]
  rw [er, en]
  clear er en hok
  go_enter Tryz.func163, Tryz.ntmps163
  go_wp2_with fail
  refine (VA.out _).mono ?_
  rintro e w1 ⟨rfl, C⟩
  have C2 := Lib.hid (C1.out.trans C.out)
  clear C
  go_wp2_with fail
  go_ret2
  exact ⟨_, rfl, World.ownsRow_nil _ _ _ _, C2.out⟩
 rw [decide_eq_true hok] at VA
 have er : h.err = 0 := by unfold Cm.err; rw [if_pos hok]
 have en : h.enc = h.rec'.sector := by unfold Cm.enc; rw [if_pos hok]
 have SL : h.rec'.sector.length = 128 := Rec.sector_length (show 2 ≤ 25 by decide)
 rw [er, en, SL]
 clear er en SL
 have FI := Lib.hid (fun W (B : Blk W w.heap.size 260 [.int .u64 (h.ep : Int), .int .u64 (h.sq : Int), .int .i64 h.ct, .int .u32 (h.sm : Int)]) => fields_Cm h hok hsm w.heap.size W B)
 have EN := Lib.hid (fun W k => encode_any 2 h.ep h.sq h.rec'.fs 223 #[.pointer (some ⟨w.heap.size, 0, none⟩)] W (by decide) hep hsq (show 2 ≤ 25 by decide) k)
 clear hok hep hsq hsm
 go_enter Tryz.func163, Tryz.ntmps163
 go_wp2_with fail
 refine (VA.out _).mono ?_
 rintro e w1 ⟨rfl, C⟩
 have C2 := Lib.hid (C1.out.trans C.out)
 have B2 := Lib.hid (B1.out.chg C.out (by simp))
 have hz := C.out.size
 rw [s1] at hz
 clear C C1 B1 s1 VA
 have k0 := B2.out.cell (j := 0) rfl
 have k1 := B2.out.cell (j := 1) rfl
 have EN1 := Lib.hid (EN.out w1 (FI.out w1 B2.out))
 clear FI EN B2
 go_wp2_with fail
 refine EN1.out.mono ?_
 rintro e w2 ⟨v, rfl, O, C⟩
 have C3 := Lib.hid (C2.out.trans C.out)
 clear C C2 k0 k1 EN1
 go_wp2_with fail
 go_ret2
 exact ⟨v, rfl, ownsRow_base O.out (by omega), C3.out⟩

theorem enters_EncodeCheck (args : Array Value) (w : World) : (callFunc 124 args).run Tryz.prog w = .ok (.enter 124 args) w := by
 have h1 : (Tryz.f124.name == "runtime.NumGoroutine") = false := by kernel_rfl
 have h2 : Tryz.f124.body.isNone = false := by kernel_rfl
 have h3 : ¬ Tryz.f124.name = "runtime.NumGoroutine" := by simpa using h1
 have h4 : ¬ Tryz.f124.body = none := fun e => by rw [e] at h2; cases h2
 simp [callFunc, go_sem, Tryz.func124, h3, h4]

set_option maxHeartbeats 4000000 in
set_option maxRecDepth 100000 in
theorem fields_Ck (h : Ck) (hok : h.Ok) (hb : Nat) (w : World) (B : Blk w hb 110 [.int .u64 (h.ep : Int), .int .u64 (h.sq : Int), .int .i64 h.tl]) : PutsFields w 124 #[.pointer (some ⟨hb, 0, none⟩)] h.rec'.fs := by
 refine ⟨enters_EncodeCheck, fun W b g l c hbb hgg P hl => ?_⟩
 obtain ⟨_, a1, a2⟩ := hok
 obtain ⟨i, hi⟩ := Int.eq_ofNat_of_zero_le a1
 have hfs : Hid (h.rec'.fs = [i]) := by show _ = _; unfold Ck.rec'; rw [hi]; rfl
 have bi : i ≤ 2047 := by omega
 replace hi := Lib.hid hi
 clear a1 a2
 rw [hfs.out]
 have hlt := B.lt
 have hnb : ¬ hb = b := by omega
 have hng : ¬ hb = g := by omega
 have K : Hid (∀ W', Chg [b, g] W W' → Blk W' hb 110 [.int .u64 (h.ep : Int), .int .u64 (h.sq : Int), .int .i64 h.tl]) := fun W' d => (B.chg c (by simp)).chg d (by simp; exact ⟨hnb, hng⟩)
 have D : Hid (Chg [b, g] W W) := Chg.refl _ _
 replace P := Lib.hid P
 clear c hbb hgg hlt B
 go_enter Tryz.func124, Tryz.ntmps124
 have k0 := (K.out _ D.out).cell (j := 2) rfl
 rw [hi.out] at k0
 go_wp2_with fail
 refine (u32_put b g _ i W P.out (by omega) (by simp [hl])).mono ?_
 rintro e w1 ⟨rfl, P', C⟩
 replace D : Hid (Chg [b, g] W w1) := D.out.trans C.out
 clear P C k0
 have P := P'
 clear P'
 go_wp2_with fail
 go_end0
 refine ⟨rfl, ?_, D.out⟩
 have p := P.out
 simp only [tail_cons, tail_nil, List.append_nil] at p ⊢
 exact p

set_option maxHeartbeats 4000000 in
set_option maxRecDepth 100000 in
theorem encCk_any (h : Ck) (w : World) (hep : h.ep < 18446744073709551616) (hsq : h.sq < 18446744073709551616) : Calls Tryz.prog 50 #[h.val] w (PcEncs w h.enc h.err) := by
 unfold PcEncs
 have C1 : Hid (Chg [] w (w.alloc (.cells #[.int .u64 (h.ep : Int), .int .u64 (h.sq : Int), .int .i64 h.tl] 110))) := (Chg.refl _ w).alloc _
 have B1 : Hid (Blk (w.alloc (.cells #[.int .u64 (h.ep : Int), .int .u64 (h.sq : Int), .int .i64 h.tl] 110)) w.heap.size 110 [.int .u64 (h.ep : Int), .int .u64 (h.sq : Int), .int .i64 h.tl]) := Blk.made w _ _
 have s1 : (w.alloc (.cells #[.int .u64 (h.ep : Int), .int .u64 (h.sq : Int), .int .i64 h.tl] 110)).heap.size = w.heap.size + 1 := by simp
 have VA := Lib.hid (fun W => checkValid_any h W)
 unfold Ck.val at VA ⊢
 by_cases hok : h.Ok
 case neg =>
  rw [decide_eq_false hok] at VA
  have er : h.err = 80 := by unfold Ck.err; rw [if_neg hok]
  have en : h.enc = [] := by unfold Ck.enc; rw [if_neg hok]
  rw [er, en]
  clear er en hok
  go_enter Tryz.func50, Tryz.ntmps50
  go_wp2_with fail
  refine (VA.out _).mono ?_
  rintro e w1 ⟨rfl, C⟩
  have C2 := Lib.hid (C1.out.trans C.out)
  clear C
  go_wp2_with fail
  go_ret2
  exact ⟨_, rfl, World.ownsRow_nil _ _ _ _, C2.out⟩
 rw [decide_eq_true hok] at VA
 have er : h.err = 0 := by unfold Ck.err; rw [if_pos hok]
 have en : h.enc = h.rec'.sector := by unfold Ck.enc; rw [if_pos hok]
 have SL : h.rec'.sector.length = 128 := Rec.sector_length (show 1 ≤ 25 by decide)
 rw [er, en, SL]
 clear er en SL
 have FI := Lib.hid (fun W (B : Blk W w.heap.size 110 [.int .u64 (h.ep : Int), .int .u64 (h.sq : Int), .int .i64 h.tl]) => fields_Ck h hok w.heap.size W B)
 have EN := Lib.hid (fun W k => encode_any 3 h.ep h.sq h.rec'.fs 124 #[.pointer (some ⟨w.heap.size, 0, none⟩)] W (by decide) hep hsq (show 1 ≤ 25 by decide) k)
 clear hok hep hsq
 go_enter Tryz.func50, Tryz.ntmps50
 go_wp2_with fail
 refine (VA.out _).mono ?_
 rintro e w1 ⟨rfl, C⟩
 have C2 := Lib.hid (C1.out.trans C.out)
 have B2 := Lib.hid (B1.out.chg C.out (by simp))
 have hz := C.out.size
 rw [s1] at hz
 clear C C1 B1 s1 VA
 have k0 := B2.out.cell (j := 0) rfl
 have k1 := B2.out.cell (j := 1) rfl
 have EN1 := Lib.hid (EN.out w1 (FI.out w1 B2.out))
 clear FI EN B2
 go_wp2_with fail
 refine EN1.out.mono ?_
 rintro e w2 ⟨v, rfl, O, C⟩
 have C3 := Lib.hid (C2.out.trans C.out)
 clear C C2 k0 k1 EN1
 go_wp2_with fail
 go_ret2
 exact ⟨v, rfl, ownsRow_base O.out (by omega), C3.out⟩

end Go.Proofs.YtkafkdlgflkjgaaGreat