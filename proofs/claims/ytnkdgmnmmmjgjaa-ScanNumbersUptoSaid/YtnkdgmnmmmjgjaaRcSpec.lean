/-
  A record's sector, in numbers. No function of the program is named here. By an AI agent.
-/
import Derived.Test.YtnkdgmnmmmjgjaaSpSpec
namespace Go.Proofs.Ytnkdgmnmmmjgjaa
open Crc

/-- A number of bytes, the lowest first. -/
def val : List Nat → Nat
  | [] => 0
  | b :: bs => b + 256 * val bs

theorem val_low : ∀ n v, val (low n v) = v % 256 ^ n
  | 0, v => by simp [low, val, Nat.mod_one]
  | n + 1, v => by
    rw [low, val, val_low n, Nat.pow_succ, Nat.mul_comm (256 ^ n) 256, Nat.mod_mul]

theorem val_low_of {n v : Nat} (h : v < 256 ^ n) : val (low n v) = v := by rw [val_low, Nat.mod_eq_of_lt h]

theorem val_lt : ∀ {bs : List Nat}, Bs bs → val bs < 256 ^ bs.length
  | [], _ => by simp [val]
  | b :: bs, h => by
    have h1 := val_lt (bs := bs) (fun x hx => h x (List.mem_cons_of_mem _ hx))
    have h2 : b < 256 := h b (List.mem_cons_self ..)
    rw [val, List.length_cons, Nat.pow_succ]
    omega

theorem low_val : ∀ {bs : List Nat}, Bs bs → low bs.length (val bs) = bs
  | [], _ => rfl
  | b :: bs, h => by
    have h1 := low_val (bs := bs) (fun x hx => h x (List.mem_cons_of_mem _ hx))
    have h2 : b < 256 := h b (List.mem_cons_self ..)
    rw [List.length_cons, low, val, show (b + 256 * val bs) % 256 = b by omega, show (b + 256 * val bs) / 256 = val bs by omega, h1]

/-- A number within bytes. -/
def rd (b : List Nat) (at_ n : Nat) : Nat := val ((b.drop at_).take n)

theorem rd_lt {b : List Nat} (h : Bs b) (at_ n : Nat) : rd b at_ n < 256 ^ n := by
  have h1 : Bs ((b.drop at_).take n) := fun x hx => h x (List.mem_of_mem_drop (List.mem_of_mem_take hx))
  refine Nat.lt_of_lt_of_le (val_lt h1) (Nat.pow_le_pow_right (by decide) ?_)
  rw [List.length_take]
  exact Nat.min_le_left _ _

theorem rd_mid {a m z : List Nat} : rd (a ++ m ++ z) a.length m.length = val m := by
  unfold rd
  rw [List.append_assoc, List.drop_left, List.take_left]

theorem rd_at {a z : List Nat} {at_ n v : Nat} (ha : a.length = at_) (hv : v < 256 ^ n) : rd (a ++ low n v ++ z) at_ n = v := by
  have h := rd_mid (a := a) (m := low n v) (z := z)
  rw [low_length, ha] at h
  rw [h, val_low_of hv]

namespace Crc

/-- Bits that are noughts go out alone. -/
theorem thr_shift : ∀ k n, thr k (2 ^ k * n) = n
  | 0, n => by simp [thr]
  | k + 1, n => by
    rw [Nat.add_comm k 1, thr_add 1 k]
    have e : thr 1 (2 ^ (1 + k) * n) = 2 ^ k * n := by
      show sh _ = _
      unfold sh
      rw [Nat.pow_add, if_neg (by rw [Nat.mul_assoc]; omega), Nat.mul_assoc]
      omega
    rw [e, thr_shift k n]

theorem split_low (v : Nat) : v = (v % 256) ^^^ (256 * (v / 256)) := by
  apply Nat.eq_of_testBit_eq
  intro i
  rw [Nat.testBit_xor, show (256 : Nat) = 2 ^ 8 from rfl, Nat.testBit_mod_two_pow, Nat.testBit_two_pow_mul, Nat.testBit_div_two_pow]
  by_cases h : i < 8
  · have h1 : ¬ 8 ≤ i := by omega
    simp [h, h1]
  · have h1 : 8 ≤ i := by omega
    simp [h, h1, Nat.sub_add_cancel h1]

theorem reg_low : ∀ (n s v : Nat), reg s (low n v) = thr (8 * n) (s ^^^ v % 256 ^ n)
  | 0, s, v => by simp [low, reg_nil, Nat.mod_one, thr]
  | n + 1, s, v => by
    rw [low, reg_cons, reg_low n, show 8 * (n + 1) = 8 + 8 * n by omega, thr_add 8 (8 * n)]
    congr 1
    have e : v % 256 ^ (n + 1) = (v % 256) ^^^ (256 * (v / 256 % 256 ^ n)) := by
      have h := split_low (v % 256 ^ (n + 1))
      rw [Nat.pow_succ, Nat.mul_comm (256 ^ n) 256, Nat.mod_mul_right_mod, Nat.mod_mul_right_div_self] at h
      rw [Nat.pow_succ, Nat.mul_comm (256 ^ n) 256]
      exact h
    rw [e, ← Nat.xor_assoc, thr_xor 8 (s ^^^ v % 256)]
    congr 1
    exact (thr_shift 8 _).symm

/-- Behind a text and its sum the register is always the same. -/
theorem reg_sealed {bs : List Nat} (h : Bs bs) : reg ones (bs ++ low 4 (sum bs)) = thr 32 ones := by
  have hs : sum bs < 256 ^ 4 := more_lt (by decide) h
  rw [reg_append, reg_low, Nat.mod_eq_of_lt hs]
  unfold sum more
  rw [Nat.zero_xor, ← Nat.xor_assoc, Nat.xor_self, Nat.zero_xor]

/-- Of two that are sealed, one is no burst of the other. -/
theorem sealed_same {bs xs : List Nat} {f ch : Nat} (hb : reg ones bs = thr 32 ones) (hx : reg ones xs = thr 32 ones) (h : reg ones xs = reg ones bs ^^^ thr (8 * bs.length - f) (within ch (8 * bs.length - f) 32)) : within ch (8 * bs.length - f) 32 = 0 := by
  rw [hb, hx] at h
  have h1 : thr (8 * bs.length - f) (within ch (8 * bs.length - f) 32) = 0 := by
    have h2 := congrArg (fun x => thr 32 ones ^^^ x) h
    simp only [Nat.xor_self, ← Nat.xor_assoc, Nat.zero_xor] at h2
    exact h2.symm
  by_cases h0 : within ch (8 * bs.length - f) 32 = 0
  · exact h0
  · exact absurd h1 (thr_ne _ (within_lt _ _ 32) h0)

end Crc

/-- A record: its kind, epoch, number, and the fields of its kind. -/
structure Rec where
  kind : Nat
  ep : Nat
  sq : Nat
  fs : List Nat

namespace Rec

def tail (fs : List Nat) : List Nat := fs.flatMap (low 4)

theorem tail_length (fs : List Nat) : (tail fs).length = 4 * fs.length := by
  induction fs with
  | nil => rfl
  | cons f fs ih =>
    show (low 4 f ++ tail fs).length = _
    rw [List.length_append, low_length, ih, List.length_cons]
    omega

def begun (r : Rec) : List Nat := [83, 80, 74, 76] ++ low 4 r.kind ++ low 8 r.ep ++ low 8 r.sq

theorem begun_length (r : Rec) : r.begun.length = 24 := by simp [begun, low_length]

/-- The bytes that the checksum is of. -/
def body (r : Rec) : List Nat := r.begun ++ tail r.fs ++ List.replicate (100 - 4 * r.fs.length) 0

/-- The sector. -/
def sector (r : Rec) : List Nat := r.body ++ low 4 (sum r.body)

theorem body_length {r : Rec} (h : r.fs.length ≤ 25) : r.body.length = 124 := by
  rw [body, List.length_append, List.length_append, begun_length, tail_length, List.length_replicate]
  omega

theorem sector_length {r : Rec} (h : r.fs.length ≤ 25) : r.sector.length = 128 := by
  rw [sector, List.length_append, body_length h, low_length]

theorem tail_bs (fs : List Nat) : Bs (tail fs) := fun x hx => by
  obtain ⟨f, _, hf⟩ := List.mem_flatMap.1 hx
  exact low_bs 4 f x hf

theorem body_bs (r : Rec) : Bs r.body := fun x hx => by
  unfold body begun at hx
  simp only [List.mem_append] at hx
  rcases hx with ((((hx | hx) | hx) | hx) | hx) | hx
  · simp only [List.mem_cons, List.not_mem_nil, or_false] at hx; omega
  · exact low_bs 4 _ x hx
  · exact low_bs 8 _ x hx
  · exact low_bs 8 _ x hx
  · exact tail_bs _ x hx
  · rw [(List.mem_replicate.1 hx).2]; decide

theorem sector_bs (r : Rec) : Bs r.sector := fun x hx => by
  rcases List.mem_append.1 hx with hx | hx
  · exact r.body_bs x hx
  · exact low_bs 4 _ x hx

theorem sector_sealed (r : Rec) : reg ones r.sector = thr 32 ones := reg_sealed r.body_bs

theorem sum_lt (r : Rec) : sum r.body < 4294967296 := more_lt (by decide) r.body_bs

theorem rd_ep {r : Rec} (h : r.ep < 18446744073709551616) : rd r.sector 8 8 = r.ep := by
  have e : r.sector = ([83, 80, 74, 76] ++ low 4 r.kind) ++ low 8 r.ep ++ (low 8 r.sq ++ tail r.fs ++ List.replicate (100 - 4 * r.fs.length) 0 ++ low 4 (sum r.body)) := by
    unfold sector
    generalize sum r.body = z
    simp [body, begun]
  rw [e]
  exact rd_at (by simp [low_length]) h

theorem rd_sq {r : Rec} (h : r.sq < 18446744073709551616) : rd r.sector 16 8 = r.sq := by
  have e : r.sector = ([83, 80, 74, 76] ++ low 4 r.kind ++ low 8 r.ep) ++ low 8 r.sq ++ (tail r.fs ++ List.replicate (100 - 4 * r.fs.length) 0 ++ low 4 (sum r.body)) := by
    unfold sector
    generalize sum r.body = z
    simp [body, begun]
  rw [e]
  exact rd_at (by simp [low_length]) h

theorem tail_split (fs : List Nat) (i : Nat) (f : Nat) (h : fs[i]? = some f) : tail fs = tail (fs.take i) ++ low 4 f ++ tail (fs.drop (i + 1)) := by
  have hi : i < fs.length := (List.getElem?_eq_some_iff.1 h).1
  have e : fs = fs.take i ++ f :: fs.drop (i + 1) := by
    have h2 : fs[i] = f := (List.getElem?_eq_some_iff.1 h).2
    rw [← h2, List.getElem_cons_drop, List.take_append_drop]
  have e2 : tail fs = tail (fs.take i ++ f :: fs.drop (i + 1)) := by rw [← e]
  rw [e2]
  simp [tail]

theorem rd_field {r : Rec} {i f : Nat} (hi : r.fs[i]? = some f) (hf : f < 4294967296) : rd r.sector (24 + 4 * i) 4 = f := by
  have hl : i < r.fs.length := (List.getElem?_eq_some_iff.1 hi).1
  have e : r.sector = (r.begun ++ tail (r.fs.take i)) ++ low 4 f ++ (tail (r.fs.drop (i + 1)) ++ List.replicate (100 - 4 * r.fs.length) 0 ++ low 4 (sum r.body)) := by
    unfold sector
    generalize sum r.body = z
    unfold body
    rw [tail_split _ _ _ hi]
    simp
  rw [e]
  refine rd_at ?_ hf
  rw [List.length_append, begun_length, tail_length, List.length_take]
  omega

theorem rd_sum {r : Rec} (h : r.fs.length ≤ 25) : rd r.sector 124 4 = sum r.body := by
  have e : r.sector = r.body ++ low 4 (sum r.body) ++ [] := by rw [List.append_nil]; rfl
  rw [e]
  exact rd_at (body_length h) r.sum_lt

/-- Two of one sector are the same. -/
theorem sector_inj {a b : Rec} (h : a.sector = b.sector) (hk : a.kind < 4294967296 ∧ b.kind < 4294967296) (he : a.ep < 18446744073709551616 ∧ b.ep < 18446744073709551616) (hs : a.sq < 18446744073709551616 ∧ b.sq < 18446744073709551616)
    (hl : a.fs.length = b.fs.length) (ha : ∀ f ∈ a.fs, f < 4294967296) (hb : ∀ f ∈ b.fs, f < 4294967296) : a = b := by
  have e1 : a.ep = b.ep := by rw [← rd_ep he.1, h, rd_ep he.2]
  have e2 : a.sq = b.sq := by rw [← rd_sq hs.1, h, rd_sq hs.2]
  have e4 : a.fs = b.fs := by
    refine List.ext_getElem hl (fun i h1 h2 => ?_)
    have k1 := rd_field (r := a) (i := i) (List.getElem?_eq_getElem h1) (ha _ (List.getElem_mem h1))
    have k2 := rd_field (r := b) (i := i) (List.getElem?_eq_getElem h2) (hb _ (List.getElem_mem h2))
    rw [h] at k1
    exact k1.symm.trans k2
  have rk : ∀ r : Rec, r.kind < 4294967296 → rd r.sector 4 4 = r.kind := fun r hr => by
    have e : r.sector = [83, 80, 74, 76] ++ low 4 r.kind ++ (low 8 r.ep ++ low 8 r.sq ++ tail r.fs ++ List.replicate (100 - 4 * r.fs.length) 0 ++ low 4 (sum r.body)) := by
      unfold sector
      generalize sum r.body = z
      simp [body, begun]
    rw [e]
    exact rd_at rfl hr
  have e3 : a.kind = b.kind := by rw [← rk a hk.1, h, rk b hk.2]
  cases a; cases b
  simp only at e1 e2 e3 e4
  subst e1 e2 e3 e4
  rfl

end Rec
end Go.Proofs.Ytnkdgmnmmmjgjaa
