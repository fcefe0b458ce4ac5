/-
  Checksums, as numbers: shifts with a polynomial, their sums, their squares, and bursts. No function of the program is named here. By an AI agent.
-/
import Derived.Test.YtffpjefecmkfmaaBGNats
namespace Go.Proofs.Ytffpjefecmkfmaa.Crc

def poly : Nat := 0x82f63b78
def ones : Nat := 0xffffffff

theorem xor4 (a b c d : Nat) : (a ^^^ b) ^^^ (c ^^^ d) = (a ^^^ c) ^^^ (b ^^^ d) := by
  rw [Nat.xor_assoc, Nat.xor_assoc, ← Nat.xor_assoc b c d, Nat.xor_comm b c, Nat.xor_assoc c b d]

theorem xor_back (a b : Nat) : a ^^^ b ^^^ b = a := by rw [Nat.xor_assoc, Nat.xor_self, Nat.xor_zero]

theorem xor_zero_iff {a b : Nat} (h : a ^^^ b = 0) : a = b := by
  have := congrArg (· ^^^ b) h
  simpa [xor_back] using this

/-- One bit is shifted out. -/
def sh (n : Nat) : Nat := if n % 2 = 1 then (n / 2) ^^^ poly else n / 2

theorem sh_zero : sh 0 = 0 := rfl

theorem div_xor (a b : Nat) : (a ^^^ b) / 2 = a / 2 ^^^ b / 2 := by
  have h := Nat.shiftRight_xor_distrib (a := a) (b := b) (i := 1)
  simpa [Nat.shiftRight_eq_div_pow] using h

theorem mod_xor (a b : Nat) : (a ^^^ b) % 2 = (a % 2 + b % 2) % 2 := by
  have h := Nat.xor_mod_two_pow (a := a) (b := b) (n := 1)
  rw [Nat.pow_one] at h
  rw [h]
  rcases Nat.mod_two_eq_zero_or_one a with ha | ha <;> rcases Nat.mod_two_eq_zero_or_one b with hb | hb <;> rw [ha, hb] <;> rfl

theorem sh_xor (a b : Nat) : sh (a ^^^ b) = sh a ^^^ sh b := by
  unfold sh
  rw [div_xor, mod_xor]
  rcases Nat.mod_two_eq_zero_or_one a with ha | ha <;> rcases Nat.mod_two_eq_zero_or_one b with hb | hb <;> simp only [ha, hb] <;> simp
  · rw [Nat.xor_assoc]
  · rw [Nat.xor_assoc, Nat.xor_assoc, Nat.xor_comm poly]
  · rw [xor4, Nat.xor_self, Nat.xor_zero]

theorem sh_lt {n : Nat} (h : n < 4294967296) : sh n < 4294967296 := by
  unfold sh
  split
  · have h1 : n / 2 < 2 ^ 32 := by omega
    have h2 : poly < 2 ^ 32 := by decide
    exact Nat.xor_lt_two_pow h1 h2
  · omega

theorem sh_ne {n : Nat} (h : n < 4294967296) (h0 : n ≠ 0) : sh n ≠ 0 := by
  unfold sh
  split
  · intro e
    have h1 := xor_zero_iff e
    have h2 : poly = 2197175160 := rfl
    omega
  · omega

/-- So many bits are shifted out. -/
def thr : Nat → Nat → Nat
  | 0, n => n
  | k + 1, n => thr k (sh n)

theorem thr_zero : ∀ k, thr k 0 = 0
  | 0 => rfl
  | k + 1 => by rw [thr, sh_zero, thr_zero k]

theorem thr_xor : ∀ (k a b : Nat), thr k (a ^^^ b) = thr k a ^^^ thr k b
  | 0, _, _ => rfl
  | k + 1, a, b => by rw [thr, thr, thr, sh_xor, thr_xor k]

theorem thr_lt : ∀ (k : Nat) {n : Nat}, n < 4294967296 → thr k n < 4294967296
  | 0, _, h => h
  | k + 1, _, h => thr_lt k (sh_lt h)

theorem thr_ne : ∀ (k : Nat) {n : Nat}, n < 4294967296 → n ≠ 0 → thr k n ≠ 0
  | 0, _, _, h0 => h0
  | k + 1, _, h, h0 => thr_ne k (sh_lt h) (sh_ne h h0)

theorem thr_add : ∀ (j k n : Nat), thr (j + k) n = thr k (thr j n)
  | 0, k, n => by rw [Nat.zero_add]; rfl
  | j + 1, k, n => by rw [show j + 1 + k = j + k + 1 by omega, thr, thr, thr_add j k]

theorem thr_succ (k n : Nat) : thr (k + 1) n = sh (thr k n) := by rw [thr_add k 1]; rfl

/-- A power of two, shifted to one. -/
theorem thr_pow : ∀ (i k : Nat), thr (i + k) (2 ^ i) = thr k 1
  | 0, k => by rw [Nat.zero_add]
  | i + 1, k => by
    rw [show i + 1 + k = i + k + 1 by omega, thr]
    have : sh (2 ^ (i + 1)) = 2 ^ i := by
      unfold sh
      rw [Nat.pow_succ, if_neg (by omega), Nat.mul_div_cancel _ (by decide)]
    rw [this, thr_pow i k]

/-- The register behind bytes. -/
def reg (s : Nat) (bs : List Nat) : Nat := bs.foldl (fun n b => thr 8 (n ^^^ b)) s

theorem reg_nil (s : Nat) : reg s [] = s := rfl
theorem reg_cons (s b : Nat) (bs : List Nat) : reg s (b :: bs) = reg (thr 8 (s ^^^ b)) bs := rfl
theorem reg_append (s : Nat) (a b : List Nat) : reg s (a ++ b) = reg (reg s a) b := by simp [reg]
theorem reg_snoc (s : Nat) (a : List Nat) (x : Nat) : reg s (a ++ [x]) = thr 8 (reg s a ^^^ x) := by simp [reg]

theorem byte_lt {b : Nat} (h : b < 256) : b < 2 ^ 32 := Nat.lt_trans h (by decide)

theorem reg_lt : ∀ {bs : List Nat} {s : Nat}, s < 4294967296 → Bs bs → reg s bs < 4294967296
  | [], _, h, _ => h
  | b :: r, _, h, hb => reg_lt (bs := r) (thr_lt 8 (Nat.xor_lt_two_pow (n := 32) h (byte_lt (hb b List.mem_cons_self)))) (fun x hx => hb x (List.mem_cons_of_mem _ hx))

theorem reg_xor : ∀ {a b : List Nat} {s t : Nat}, a.length = b.length → reg (s ^^^ t) (List.zipWith (· ^^^ ·) a b) = reg s a ^^^ reg t b
  | [], [], _, _, _ => rfl
  | [], _ :: _, _, _, h => by simp at h
  | _ :: _, [], _, _, h => by simp at h
  | x :: a, y :: b, s, t, h => by
    rw [List.zipWith_cons_cons, reg_cons, reg_cons, reg_cons, xor4, thr_xor]
    exact reg_xor (by simpa using h)

/-- Noughts alone. -/
theorem reg_noughts : ∀ (n s : Nat), reg s (List.replicate n 0) = thr (8 * n) s
  | 0, _ => rfl
  | n + 1, s => by rw [List.replicate_succ, reg_cons, reg_noughts n, Nat.xor_zero, Nat.mul_succ, Nat.add_comm, thr_add]

/-- The register is a sum of what it was and of what the bytes make of nothing. -/
theorem reg_split (s : Nat) (bs : List Nat) : reg s bs = thr (8 * bs.length) s ^^^ reg 0 bs := by
  have h := reg_xor (a := List.replicate bs.length 0) (b := bs) (s := s) (t := 0) (by simp)
  rw [Nat.xor_zero, reg_noughts] at h
  rw [← h]
  congr 1
  clear h
  induction bs with
  | nil => rfl
  | cons x r ih => rw [List.length_cons, List.replicate_succ, List.zipWith_cons_cons, Nat.zero_xor, ← ih]

/-- The checksum of what had the checksum s, and of bytes. -/
def more (s : Nat) (bs : List Nat) : Nat := reg (s ^^^ ones) bs ^^^ ones
def sum (bs : List Nat) : Nat := more 0 bs

theorem more_lt {s : Nat} {bs : List Nat} (hs : s < 4294967296) (hb : Bs bs) : more s bs < 4294967296 :=
  Nat.xor_lt_two_pow (n := 32) (reg_lt (Nat.xor_lt_two_pow (n := 32) hs (by decide)) hb) (by decide)

theorem more_more (s : Nat) (a b : List Nat) : more (more s a) b = more s (a ++ b) := by
  unfold more
  rw [xor_back, reg_append]

theorem more_nil (s : Nat) : more s [] = s := by unfold more; rw [reg_nil, xor_back]

/-- Two pieces, put together. -/
def join (a b n : Nat) : Nat := thr (8 * n) a ^^^ b

theorem join_sum (s : Nat) (a b : List Nat) : join (more s a) (sum b) b.length = more s (a ++ b) := by
  rw [← more_more]
  unfold join sum
  generalize more s a = x
  unfold more
  rw [Nat.zero_xor, reg_split (x ^^^ ones) b, reg_split ones b, thr_xor]
  simp only [Nat.xor_assoc]

theorem join_zero (a b : Nat) : join a b 0 = a ^^^ b := rfl

theorem join_lt {a b : Nat} (n : Nat) (ha : a < 4294967296) (hb : b < 4294967296) : join a b n < 4294967296 := Nat.xor_lt_two_pow (n := 32) (thr_lt _ ha) hb

theorem join_join (a b c m n : Nat) : join (join a b m) c n = join a (join b c n) (m + n) := by
  unfold join
  rw [thr_xor, Nat.mul_add, thr_add, Nat.xor_assoc]

/-- Two texts of one length, their exclusive or, and noughts. -/
theorem linear (a b : List Nat) (h : a.length = b.length) : sum a ^^^ sum b ^^^ sum (List.zipWith (· ^^^ ·) a b) ^^^ sum (List.replicate a.length 0) = 0 := by
  unfold sum more
  rw [reg_split (0 ^^^ ones) a, reg_split (0 ^^^ ones) b, reg_split (0 ^^^ ones) (List.zipWith (· ^^^ ·) a b), reg_split (0 ^^^ ones) (List.replicate a.length 0)]
  have hz : (List.zipWith (· ^^^ ·) a b).length = a.length := by simp [h]
  have hx := reg_xor (s := 0) (t := 0) h
  rw [Nat.xor_zero] at hx
  rw [hz, ← h, hx, List.length_replicate, reg_noughts a.length 0, thr_zero, Nat.xor_zero]
  generalize thr (8 * a.length) (0 ^^^ ones) = p
  generalize reg 0 a = q
  generalize reg 0 b = r
  generalize ones = o
  apply Nat.eq_of_testBit_eq
  intro i
  simp only [Nat.testBit_xor, Nat.zero_testBit]
  cases p.testBit i <;> cases q.testBit i <;> cases r.testBit i <;> cases o.testBit i <;> rfl

/-- A matrix times a number, as far as its first i columns. -/
def times (m : List Nat) (n : Nat) : Nat → Nat
  | 0 => 0
  | i + 1 => times m n i ^^^ (if n.testBit i then m.getD i 0 else 0)

/-- The matrix m is the function f, which is a sum of what it makes of the bits. -/
structure Rep (m : List Nat) (f : Nat → Nat) : Prop where
  len : m.length = 32
  col : ∀ i, i < 32 → m.getD i 0 = f (2 ^ i)
  add : ∀ a b, f (a ^^^ b) = f a ^^^ f b
  lt : ∀ n, n < 4294967296 → f n < 4294967296

theorem Rep.zero {m : List Nat} {f : Nat → Nat} (h : Rep m f) : f 0 = 0 := by
  have := h.add 0 0
  rw [Nat.xor_self] at this
  rw [this, Nat.xor_self]

/-- A number's low bits, one more. -/
theorem low_succ (n i : Nat) : n % 2 ^ (i + 1) = n % 2 ^ i ^^^ (if n.testBit i then 2 ^ i else 0) := by
  apply Nat.eq_of_testBit_eq
  intro j
  rw [Nat.testBit_xor, Nat.testBit_mod_two_pow, Nat.testBit_mod_two_pow]
  by_cases hb : n.testBit i
  · rw [if_pos hb, Nat.testBit_two_pow]
    by_cases hj : j = i
    · subst hj; simp [hb]
    · by_cases hl : j < i
      · have h1 : j < i + 1 := by omega
        have h2 : ¬ i = j := by omega
        simp [hl, h1, h2]
      · have h1 : ¬ j < i + 1 := by omega
        have h2 : ¬ i = j := by omega
        simp [hl, h1, h2]
  · rw [if_neg hb, Nat.zero_testBit]
    by_cases hj : j = i
    · subst hj; simp [hb]
    · by_cases hl : j < i
      · have h1 : j < i + 1 := by omega
        simp [hl, h1]
      · have h1 : ¬ j < i + 1 := by omega
        simp [hl, h1]

theorem times_low {m : List Nat} {f : Nat → Nat} (h : Rep m f) (n : Nat) : ∀ i, i ≤ 32 → times m n i = f (n % 2 ^ i)
  | 0, _ => by rw [times, Nat.pow_zero, Nat.mod_one, h.zero]
  | i + 1, hi => by
    rw [times, times_low h n i (by omega), low_succ, h.add]
    congr 1
    split
    · exact h.col i (by omega)
    · exact h.zero.symm

theorem times_all {m : List Nat} {f : Nat → Nat} (h : Rep m f) {n : Nat} (hn : n < 4294967296) : times m n 32 = f n := by
  rw [times_low h n 32 (Nat.le_refl _), Nat.mod_eq_of_lt hn]

theorem pow_lt32 {i : Nat} (h : i < 32) : 2 ^ i < 4294967296 := Nat.pow_lt_pow_right (by decide) h

/-- A square. -/
theorem Rep.square {m m2 : List Nat} {f : Nat → Nat} (h : Rep m f) (hl : m2.length = 32) (hc : ∀ i, i < 32 → m2.getD i 0 = times m (m.getD i 0) 32) : Rep m2 (fun n => f (f n)) :=
  ⟨hl, fun i hi => by
    have hp := h.lt _ (pow_lt32 hi)
    rw [hc i hi, h.col i hi, times_all h hp], fun a b => by rw [h.add, h.add], fun n hn => h.lt _ (h.lt _ hn)⟩

theorem rep_thr {m : List Nat} (k : Nat) (hl : m.length = 32) (hc : ∀ i, i < 32 → m.getD i 0 = thr k (2 ^ i)) : Rep m (thr k) :=
  ⟨hl, hc, fun a b => thr_xor k a b, fun _ hn => thr_lt k hn⟩

theorem thr_twice (k n : Nat) : thr k (thr k n) = thr (2 * k) n := by rw [Nat.two_mul, thr_add]

theorem Rep.twice {m m2 : List Nat} {k : Nat} (h : Rep m (thr k)) (hl : m2.length = 32) (hc : ∀ i, i < 32 → m2.getD i 0 = times m (m.getD i 0) 32) : Rep m2 (thr (2 * k)) := by
  have := h.square hl hc
  simp only [thr_twice] at this
  exact this

/-- So many bits by halves: one round of the squares. -/
theorem halves (k n x : Nat) : thr (k * n) x = thr (2 * k * (n / 2)) (if n % 2 = 1 then thr k x else x) := by
  split
  · rw [← thr_add]
    congr 1
    have := Nat.div_add_mod n 2
    generalize n / 2 = q at *
    obtain rfl : n = 2 * q + 1 := by omega
    rw [Nat.mul_add, Nat.mul_one, Nat.add_comm, ← Nat.mul_assoc, Nat.mul_comm k 2]
  · congr 1
    have := Nat.div_add_mod n 2
    generalize n / 2 = q at *
    obtain rfl : n = 2 * q := by omega
    rw [← Nat.mul_assoc, Nat.mul_comm k 2]

/-- One bit of a text turned. -/
def flip (bs : List Nat) (p : Nat) : List Nat := bs.set (p / 8) (bs.getD (p / 8) 0 ^^^ 2 ^ (p % 8))

theorem flip_length (bs : List Nat) (p : Nat) : (flip bs p).length = bs.length := by simp [flip]

theorem flip_bs {bs : List Nat} (h : Bs bs) (p : Nat) : Bs (flip bs p) := by
  intro x hx
  unfold flip at hx
  rcases List.mem_or_eq_of_mem_set hx with hx | rfl
  · exact h x hx
  · have h1 : bs.getD (p / 8) 0 < 2 ^ 8 := by
      by_cases hl : p / 8 < bs.length
      · rw [List.getD_eq_getElem?_getD, List.getElem?_eq_getElem hl]
        exact h _ (List.getElem_mem hl)
      · rw [List.getD_eq_getElem?_getD, List.getElem?_eq_none (by omega)]
        decide
    exact Nat.xor_lt_two_pow (n := 8) h1 (Nat.pow_lt_pow_right (by decide) (Nat.mod_lt _ (by decide)))

theorem reg_flip : ∀ (bs : List Nat) (s p : Nat), p < 8 * bs.length → reg s (flip bs p) = reg s bs ^^^ thr (8 * bs.length - p) 1
  | [], _, _, h => by simp at h
  | x :: r, s, p, h => by
    by_cases hp : p < 8
    · have h0 : p / 8 = 0 := by omega
      have hm : p % 8 = p := by omega
      unfold flip
      rw [h0, hm, List.getD_cons_zero, List.set_cons_zero, reg_cons, reg_cons, ← Nat.xor_assoc, thr_xor]
      have e : thr 8 (2 ^ p) = thr (8 - p) 1 := by
        have := thr_pow p (8 - p)
        rw [show p + (8 - p) = 8 by omega] at this
        exact this
      rw [e, reg_split (thr 8 (s ^^^ x) ^^^ thr (8 - p) 1) r, reg_split (thr 8 (s ^^^ x)) r, thr_xor, ← thr_add (8 - p) (8 * r.length) 1, show 8 - p + 8 * r.length = 8 * (x :: r).length - p by simp only [List.length_cons]; omega]
      simp only [Nat.xor_assoc]
      congr 1
      exact Nat.xor_comm _ _
    · obtain ⟨q, rfl⟩ : ∃ q, p = q + 8 := ⟨p - 8, by omega⟩
      have e : flip (x :: r) (q + 8) = x :: flip r q := by
        unfold flip
        rw [show (q + 8) / 8 = q / 8 + 1 by omega, show (q + 8) % 8 = q % 8 by omega, List.getD_cons_succ, List.set_cons_succ]
      rw [e, reg_cons, reg_cons, reg_flip r _ q (by simp only [List.length_cons] at h; omega)]
      congr 2
      simp only [List.length_cons]
      omega

/-- The bits of a change that lie in a text, as far as the first i. -/
def within (change room : Nat) : Nat → Nat
  | 0 => 0
  | i + 1 => within change room i ^^^ (if change.testBit i = true ∧ i < room then 2 ^ i else 0)

theorem within_lt (change room : Nat) : ∀ i, within change room i < 2 ^ i
  | 0 => Nat.zero_lt_one
  | i + 1 => by
    have h := within_lt change room i
    rw [within]
    refine Nat.xor_lt_two_pow (Nat.lt_of_lt_of_le h (Nat.pow_le_pow_right (by decide) (by omega))) ?_
    split
    · exact Nat.pow_lt_pow_right (by decide) (by omega)
    · exact Nat.two_pow_pos _

/-- One bit more that has turned: it is there. -/
theorem within_turned {change room i : Nat} (h : change.testBit i = true ∧ i < room) : within change room (i + 1) ≠ 0 := by
  rw [within, if_pos h]
  intro e
  have h1 := xor_zero_iff e
  have h2 := within_lt change room i
  omega

theorem within_same {change room i : Nat} (h : ¬ (change.testBit i = true ∧ i < room)) : within change room (i + 1) = within change room i := by
  rw [within, if_neg h, Nat.xor_zero]

/-- A turned bit's share, by the number of the bits that have turned. -/
theorem thr_share {room i : Nat} (h : i < room) : thr room (2 ^ i) = thr (room - i) 1 := by
  have := thr_pow i (room - i)
  rw [show i + (room - i) = room by omega] at this
  exact this

/-- The text with one bit more turned. -/
theorem burst_step {bs xs : List Nat} {s from_ change i : Nat} (hl : xs.length = bs.length) (hf : from_ < 8 * bs.length) (h : reg s xs = reg s bs ^^^ thr (8 * bs.length - from_) (within change (8 * bs.length - from_) i))
    (hb : change.testBit i = true ∧ i < 8 * bs.length - from_) : reg s (flip xs (from_ + i)) = reg s bs ^^^ thr (8 * bs.length - from_) (within change (8 * bs.length - from_) (i + 1)) := by
  rw [reg_flip _ _ _ (by rw [hl]; omega), h, within, if_pos hb, thr_xor, thr_share hb.2, hl, Nat.xor_assoc, show 8 * bs.length - (from_ + i) = 8 * bs.length - from_ - i by omega]

/-- What has turned is told. -/
theorem burst_told {bs xs : List Nat} {s from_ change : Nat} (h : reg s xs = reg s bs ^^^ thr (8 * bs.length - from_) (within change (8 * bs.length - from_) 32)) :
    (reg s xs ^^^ ones ≠ reg s bs ^^^ ones) ↔ within change (8 * bs.length - from_) 32 ≠ 0 := by
  have hlt : within change (8 * bs.length - from_) 32 < 4294967296 := within_lt _ _ 32
  generalize within change (8 * bs.length - from_) 32 = v at *
  constructor
  · rintro hne rfl
    rw [thr_zero, Nat.xor_zero] at h
    exact hne (by rw [h])
  · intro hv e
    have e2 : reg s xs = reg s bs := by
      have := congrArg (· ^^^ ones) e
      simpa [xor_back] using this
    rw [e2] at h
    have h3 := congrArg (reg s bs ^^^ ·) h
    simp only [← Nat.xor_assoc, Nat.xor_self, Nat.zero_xor] at h3
    exact thr_ne _ hlt hv h3.symm

end Go.Proofs.Ytffpjefecmkfmaa.Crc
namespace Go.Proofs.Ytffpjefecmkfmaa
open Crc

/-- A superblock. -/
structure Sup where
  id : Nat
  ev : Nat
  safe : Nat
  role : Int
  m : Int
  c : Int
  t : Int
  ring : Int
  lazy : Bool
  lost : Bool
  st : List Int
  cur : Int

namespace Sup

/-- What its fields hold, whatever it is. -/
structure Fit (s : Sup) : Prop where
  id : s.id < 18446744073709551616
  ev : s.ev < 18446744073709551616
  safe : s.safe < 18446744073709551616
  role : -9223372036854775808 ≤ s.role ∧ s.role ≤ 9223372036854775807
  m : -9223372036854775808 ≤ s.m ∧ s.m ≤ 9223372036854775807
  c : -9223372036854775808 ≤ s.c ∧ s.c ≤ 9223372036854775807
  t : -9223372036854775808 ≤ s.t ∧ s.t ≤ 9223372036854775807
  ring : -9223372036854775808 ≤ s.ring ∧ s.ring ≤ 9223372036854775807
  cur : -9223372036854775808 ≤ s.cur ∧ s.cur ≤ 9223372036854775807
  st : By s.st

/-- How many are being rebuilt. -/
def many (st : List Int) : Nat := st.countP (· == 3)

def numbers (s : Sup) : Prop := 3 ≤ s.m ∧ s.m ≤ 16 ∧ 1 ≤ s.c ∧ s.c ≤ 16 ∧ 1 ≤ s.t ∧ s.t ≤ 256

def counts (s : Sup) : Prop := 1 ≤ s.ev ∧ s.ev ≤ 4611686018427387904 ∧ 1 ≤ s.safe ∧ s.safe ≤ s.ev ∧ 0 ≤ s.role ∧ s.role ≤ s.m ∧ 5 ≤ s.ring ∧ s.ring ≤ 2048 ∧ (s.st.length : Int) = s.m

def states (s : Sup) : Prop := ∀ x ∈ s.st, 1 ≤ x ∧ x ≤ 3

def done (s : Sup) : Prop := many s.st ≤ 1 ∧ 0 ≤ s.cur ∧ s.cur < s.t ∧ (many s.st = 0 → s.cur = 0)

/-- It is valid. -/
def Ok (s : Sup) : Prop := s.numbers ∧ s.counts ∧ s.states ∧ s.done

instance (s : Sup) : Decidable s.Ok := by unfold Ok numbers counts states done; infer_instance

/-- Two are of one array. -/
def akin (a b : Sup) : Bool := a.id == b.id && (a.m == b.m && a.c == b.c && a.t == b.t) && a.ring == b.ring && a.lazy == b.lazy

theorem akin_self (a : Sup) : a.akin a = true := by simp [akin]
theorem akin_comm (a b : Sup) : a.akin b = b.akin a := by
  unfold akin
  rw [Bool.eq_iff_iff]
  simp only [Bool.and_eq_true, beq_iff_eq]
  constructor <;> (rintro ⟨⟨⟨h1, ⟨h2, h3⟩, h4⟩, h5⟩, h6⟩; exact ⟨⟨⟨h1.symm, ⟨h2.symm, h3.symm⟩, h4.symm⟩, h5.symm⟩, h6.symm⟩)
theorem akin_trans {a b c : Sup} (h1 : a.akin b = true) : b.akin c = a.akin c := by
  unfold akin at *
  simp only [Bool.and_eq_true, beq_iff_eq] at h1
  obtain ⟨⟨⟨h1, ⟨h2, h3⟩, h4⟩, h5⟩, h6⟩ := h1
  rw [h1, h2, h3, h4, h5, h6]

end Sup

/-- The n lowest bytes of a number, the lowest first. -/
def low : Nat → Nat → List Nat
  | 0, _ => []
  | n + 1, v => v % 256 :: low n (v / 256)

theorem low_length : ∀ n v, (low n v).length = n
  | 0, _ => rfl
  | n + 1, v => by simp [low, low_length n]

theorem low_bs : ∀ n v, Bs (low n v)
  | 0, _ => by intro b hb; cases hb
  | n + 1, v => by
    intro b hb
    rcases List.mem_cons.1 hb with rfl | hb
    · exact Nat.mod_lt _ (by decide)
    · exact low_bs n _ b hb

theorem low_snoc : ∀ n v, low (n + 1) v = low n v ++ [v / 256 ^ n % 256]
  | 0, v => by simp [low]
  | n + 1, v => by
    rw [low, low_snoc n (v / 256), low]
    simp only [List.cons_append, List.cons.injEq, true_and]
    congr 2
    rw [Nat.div_div_eq_div_mul, Nat.pow_succ, Nat.mul_comm]

namespace Sup

def flags (s : Sup) : Nat := (if s.lazy then 1 else 0) + (if s.lost then 2 else 0)

/-- The bytes ahead of the states. -/
def head (s : Sup) : List Nat :=
  [83, 80, 83, 66, 1, 0, 0, 0] ++ low 8 s.id ++ low 8 s.ev ++ low 8 s.safe ++ [s.role.toNat % 256, s.m.toNat % 256, s.c.toNat % 256, s.flags] ++ low 2 s.t.toNat ++ low 2 s.ring.toNat ++ low 4 s.cur.toNat

/-- The bytes that the checksum is of. -/
def body (s : Sup) : List Nat := s.head ++ nats s.st ++ List.replicate (80 - s.st.length) 0

/-- The sector. -/
def sector (s : Sup) : List Nat := s.body ++ low 4 (sum s.body)

theorem head_length (s : Sup) : s.head.length = 44 := by simp [head, low_length]

theorem body_length {s : Sup} (h : s.st.length ≤ 80) : s.body.length = 124 := by
  simp [body, head_length, nats_length]
  omega

theorem sector_length {s : Sup} (h : s.st.length ≤ 80) : s.sector.length = 128 := by
  rw [sector, List.length_append, body_length h, low_length]

end Sup
end Go.Proofs.Ytffpjefecmkfmaa
namespace Go.Proofs.Ytffpjefecmkfmaa
open Crc

/-- A number of bytes, the lowest first. -/
def val : List Nat → Nat
  | [] => 0
  | b :: bs => b + 256 * val bs

theorem val_low : ∀ n v, val (low n v) = v % 256 ^ n
  | 0, v => by simp [low, val, Nat.mod_one]
  | n + 1, v => by
    rw [low, val, val_low n, Nat.pow_succ, Nat.mul_comm (256 ^ n) 256, Nat.mod_mul]

theorem val_low_of {n v : Nat} (h : v < 256 ^ n) : val (low n v) = v := by rw [val_low, Nat.mod_eq_of_lt h]

theorem val_lt : ∀ {bs : List Nat}, Bs bs → val bs < 256 ^ bs.length
  | [], _ => by simp [val]
  | b :: bs, h => by
    have h1 := val_lt (bs := bs) (fun x hx => h x (List.mem_cons_of_mem _ hx))
    have h2 : b < 256 := h b (List.mem_cons_self ..)
    rw [val, List.length_cons, Nat.pow_succ]
    omega

theorem low_val : ∀ {bs : List Nat}, Bs bs → low bs.length (val bs) = bs
  | [], _ => rfl
  | b :: bs, h => by
    have h1 := low_val (bs := bs) (fun x hx => h x (List.mem_cons_of_mem _ hx))
    have h2 : b < 256 := h b (List.mem_cons_self ..)
    rw [List.length_cons, low, val, show (b + 256 * val bs) % 256 = b by omega, show (b + 256 * val bs) / 256 = val bs by omega, h1]

/-- A number within bytes. -/
def rd (b : List Nat) (at_ n : Nat) : Nat := val ((b.drop at_).take n)

theorem rd_lt {b : List Nat} (h : Bs b) (at_ n : Nat) : rd b at_ n < 256 ^ n := by
  have h1 : Bs ((b.drop at_).take n) := fun x hx => h x (List.mem_of_mem_drop (List.mem_of_mem_take hx))
  refine Nat.lt_of_lt_of_le (val_lt h1) (Nat.pow_le_pow_right (by decide) ?_)
  rw [List.length_take]
  exact Nat.min_le_left _ _

theorem rd_mid {a m z : List Nat} : rd (a ++ m ++ z) a.length m.length = val m := by
  unfold rd
  rw [List.append_assoc, List.drop_left, List.take_left]

theorem rd_at {a z : List Nat} {at_ n v : Nat} (ha : a.length = at_) (hv : v < 256 ^ n) : rd (a ++ low n v ++ z) at_ n = v := by
  have h := rd_mid (a := a) (m := low n v) (z := z)
  rw [low_length, ha] at h
  rw [h, val_low_of hv]

namespace Crc

/-- Bits that are noughts go out alone. -/
theorem thr_shift : ∀ k n, thr k (2 ^ k * n) = n
  | 0, n => by simp [thr]
  | k + 1, n => by
    rw [Nat.add_comm k 1, thr_add 1 k]
    have e : thr 1 (2 ^ (1 + k) * n) = 2 ^ k * n := by
      show sh _ = _
      unfold sh
      rw [Nat.pow_add, if_neg (by rw [Nat.mul_assoc]; omega), Nat.mul_assoc]
      omega
    rw [e, thr_shift k n]

theorem split_low (v : Nat) : v = (v % 256) ^^^ (256 * (v / 256)) := by
  apply Nat.eq_of_testBit_eq
  intro i
  rw [Nat.testBit_xor, show (256 : Nat) = 2 ^ 8 from rfl, Nat.testBit_mod_two_pow, Nat.testBit_two_pow_mul, Nat.testBit_div_two_pow]
  by_cases h : i < 8
  · have h1 : ¬ 8 ≤ i := by omega
    simp [h, h1]
  · have h1 : 8 ≤ i := by omega
    simp [h, h1, Nat.sub_add_cancel h1]

theorem reg_low : ∀ (n s v : Nat), reg s (low n v) = thr (8 * n) (s ^^^ v % 256 ^ n)
  | 0, s, v => by simp [low, reg_nil, Nat.mod_one, thr]
  | n + 1, s, v => by
    rw [low, reg_cons, reg_low n, show 8 * (n + 1) = 8 + 8 * n by omega, thr_add 8 (8 * n)]
    congr 1
    have e : v % 256 ^ (n + 1) = (v % 256) ^^^ (256 * (v / 256 % 256 ^ n)) := by
      have h := split_low (v % 256 ^ (n + 1))
      rw [Nat.pow_succ, Nat.mul_comm (256 ^ n) 256, Nat.mod_mul_right_mod, Nat.mod_mul_right_div_self] at h
      rw [Nat.pow_succ, Nat.mul_comm (256 ^ n) 256]
      exact h
    rw [e, ← Nat.xor_assoc, thr_xor 8 (s ^^^ v % 256)]
    congr 1
    exact (thr_shift 8 _).symm

/-- Behind a text and its sum the register is always the same. -/
theorem reg_sealed {bs : List Nat} (h : Bs bs) : reg ones (bs ++ low 4 (sum bs)) = thr 32 ones := by
  have hs : sum bs < 256 ^ 4 := more_lt (by decide) h
  rw [reg_append, reg_low, Nat.mod_eq_of_lt hs]
  unfold sum more
  rw [Nat.zero_xor, ← Nat.xor_assoc, Nat.xor_self, Nat.zero_xor]

/-- Of two that are sealed, one is no burst of the other. -/
theorem sealed_same {bs xs : List Nat} {f ch : Nat} (hb : reg ones bs = thr 32 ones) (hx : reg ones xs = thr 32 ones) (h : reg ones xs = reg ones bs ^^^ thr (8 * bs.length - f) (within ch (8 * bs.length - f) 32)) : within ch (8 * bs.length - f) 32 = 0 := by
  rw [hb, hx] at h
  have h1 : thr (8 * bs.length - f) (within ch (8 * bs.length - f) 32) = 0 := by
    have h2 := congrArg (fun x => thr 32 ones ^^^ x) h
    simp only [Nat.xor_self, ← Nat.xor_assoc, Nat.zero_xor] at h2
    exact h2.symm
  by_cases h0 : within ch (8 * bs.length - f) 32 = 0
  · exact h0
  · exact absurd h1 (thr_ne _ (within_lt _ _ 32) h0)

end Crc

/-- A record: its kind, epoch, number, and the fields of its kind. -/
structure Rec where
  kind : Nat
  ep : Nat
  sq : Nat
  fs : List Nat

namespace Rec

def tail (fs : List Nat) : List Nat := fs.flatMap (low 4)

theorem tail_length (fs : List Nat) : (tail fs).length = 4 * fs.length := by
  induction fs with
  | nil => rfl
  | cons f fs ih =>
    show (low 4 f ++ tail fs).length = _
    rw [List.length_append, low_length, ih, List.length_cons]
    omega

def begun (r : Rec) : List Nat := [83, 80, 74, 76] ++ low 4 r.kind ++ low 8 r.ep ++ low 8 r.sq

theorem begun_length (r : Rec) : r.begun.length = 24 := by simp [begun, low_length]

/-- The bytes that the checksum is of. -/
def body (r : Rec) : List Nat := r.begun ++ tail r.fs ++ List.replicate (100 - 4 * r.fs.length) 0

/-- The sector. -/
def sector (r : Rec) : List Nat := r.body ++ low 4 (sum r.body)

theorem body_length {r : Rec} (h : r.fs.length ≤ 25) : r.body.length = 124 := by
  rw [body, List.length_append, List.length_append, begun_length, tail_length, List.length_replicate]
  omega

theorem sector_length {r : Rec} (h : r.fs.length ≤ 25) : r.sector.length = 128 := by
  rw [sector, List.length_append, body_length h, low_length]

theorem tail_bs (fs : List Nat) : Bs (tail fs) := fun x hx => by
  obtain ⟨f, _, hf⟩ := List.mem_flatMap.1 hx
  exact low_bs 4 f x hf

theorem body_bs (r : Rec) : Bs r.body := fun x hx => by
  unfold body begun at hx
  simp only [List.mem_append] at hx
  rcases hx with ((((hx | hx) | hx) | hx) | hx) | hx
  · simp only [List.mem_cons, List.not_mem_nil, or_false] at hx; omega
  · exact low_bs 4 _ x hx
  · exact low_bs 8 _ x hx
  · exact low_bs 8 _ x hx
  · exact tail_bs _ x hx
  · rw [(List.mem_replicate.1 hx).2]; decide

theorem sector_bs (r : Rec) : Bs r.sector := fun x hx => by
  rcases List.mem_append.1 hx with hx | hx
  · exact r.body_bs x hx
  · exact low_bs 4 _ x hx

theorem sector_sealed (r : Rec) : reg ones r.sector = thr 32 ones := reg_sealed r.body_bs

theorem sum_lt (r : Rec) : sum r.body < 4294967296 := more_lt (by decide) r.body_bs

theorem rd_ep {r : Rec} (h : r.ep < 18446744073709551616) : rd r.sector 8 8 = r.ep := by
  have e : r.sector = ([83, 80, 74, 76] ++ low 4 r.kind) ++ low 8 r.ep ++ (low 8 r.sq ++ tail r.fs ++ List.replicate (100 - 4 * r.fs.length) 0 ++ low 4 (sum r.body)) := by
    unfold sector
    generalize sum r.body = z
    simp [body, begun]
  rw [e]
  exact rd_at (by simp [low_length]) h

theorem rd_sq {r : Rec} (h : r.sq < 18446744073709551616) : rd r.sector 16 8 = r.sq := by
  have e : r.sector = ([83, 80, 74, 76] ++ low 4 r.kind ++ low 8 r.ep) ++ low 8 r.sq ++ (tail r.fs ++ List.replicate (100 - 4 * r.fs.length) 0 ++ low 4 (sum r.body)) := by
    unfold sector
    generalize sum r.body = z
    simp [body, begun]
  rw [e]
  exact rd_at (by simp [low_length]) h

theorem tail_split (fs : List Nat) (i : Nat) (f : Nat) (h : fs[i]? = some f) : tail fs = tail (fs.take i) ++ low 4 f ++ tail (fs.drop (i + 1)) := by
  have hi : i < fs.length := (List.getElem?_eq_some_iff.1 h).1
  have e : fs = fs.take i ++ f :: fs.drop (i + 1) := by
    have h2 : fs[i] = f := (List.getElem?_eq_some_iff.1 h).2
    rw [← h2, List.getElem_cons_drop, List.take_append_drop]
  have e2 : tail fs = tail (fs.take i ++ f :: fs.drop (i + 1)) := by rw [← e]
  rw [e2]
  simp [tail]

theorem rd_field {r : Rec} {i f : Nat} (hi : r.fs[i]? = some f) (hf : f < 4294967296) : rd r.sector (24 + 4 * i) 4 = f := by
  have hl : i < r.fs.length := (List.getElem?_eq_some_iff.1 hi).1
  have e : r.sector = (r.begun ++ tail (r.fs.take i)) ++ low 4 f ++ (tail (r.fs.drop (i + 1)) ++ List.replicate (100 - 4 * r.fs.length) 0 ++ low 4 (sum r.body)) := by
    unfold sector
    generalize sum r.body = z
    unfold body
    rw [tail_split _ _ _ hi]
    simp
  rw [e]
  refine rd_at ?_ hf
  rw [List.length_append, begun_length, tail_length, List.length_take]
  omega

theorem rd_sum {r : Rec} (h : r.fs.length ≤ 25) : rd r.sector 124 4 = sum r.body := by
  have e : r.sector = r.body ++ low 4 (sum r.body) ++ [] := by rw [List.append_nil]; rfl
  rw [e]
  exact rd_at (body_length h) r.sum_lt

/-- Two of one sector are the same. -/
theorem sector_inj {a b : Rec} (h : a.sector = b.sector) (hk : a.kind < 4294967296 ∧ b.kind < 4294967296) (he : a.ep < 18446744073709551616 ∧ b.ep < 18446744073709551616) (hs : a.sq < 18446744073709551616 ∧ b.sq < 18446744073709551616)
    (hl : a.fs.length = b.fs.length) (ha : ∀ f ∈ a.fs, f < 4294967296) (hb : ∀ f ∈ b.fs, f < 4294967296) : a = b := by
  have e1 : a.ep = b.ep := by rw [← rd_ep he.1, h, rd_ep he.2]
  have e2 : a.sq = b.sq := by rw [← rd_sq hs.1, h, rd_sq hs.2]
  have e4 : a.fs = b.fs := by
    refine List.ext_getElem hl (fun i h1 h2 => ?_)
    have k1 := rd_field (r := a) (i := i) (List.getElem?_eq_getElem h1) (ha _ (List.getElem_mem h1))
    have k2 := rd_field (r := b) (i := i) (List.getElem?_eq_getElem h2) (hb _ (List.getElem_mem h2))
    rw [h] at k1
    exact k1.symm.trans k2
  have rk : ∀ r : Rec, r.kind < 4294967296 → rd r.sector 4 4 = r.kind := fun r hr => by
    have e : r.sector = [83, 80, 74, 76] ++ low 4 r.kind ++ (low 8 r.ep ++ low 8 r.sq ++ tail r.fs ++ List.replicate (100 - 4 * r.fs.length) 0 ++ low 4 (sum r.body)) := by
      unfold sector
      generalize sum r.body = z
      simp [body, begun]
    rw [e]
    exact rd_at rfl hr
  have e3 : a.kind = b.kind := by rw [← rk a hk.1, h, rk b hk.2]
  cases a; cases b
  simp only at e1 e2 e3 e4
  subst e1 e2 e3 e4
  rfl

end Rec
end Go.Proofs.Ytffpjefecmkfmaa
namespace Go.Proofs.Ytffpjefecmkfmaa
open Crc

def magicB : List Nat := [83, 80, 74, 76]

def numsOk (ep sq : Nat) : Prop := ep ≤ 4611686018427387904 ∧ 1 ≤ sq ∧ sq ≤ 4611686018427387904
instance (ep sq : Nat) : Decidable (numsOk ep sq) := by unfold numsOk; infer_instance

/-- A header. -/
structure Hd where
  ep : Nat
  sq : Nat
  ix : Int
  ct : Int
  mb : Int
  rw' : Int
  esc : Bool
  sm : Nat

/-- A commit. -/
structure Cm where
  ep : Nat
  sq : Nat
  ct : Int
  sm : Nat

/-- A checkpoint. -/
structure Ck where
  ep : Nat
  sq : Nat
  tl : Int

namespace Hd
def Ok (h : Hd) : Prop := numsOk h.ep h.sq ∧ 1 ≤ h.ct ∧ h.ct ≤ 1023 ∧ 0 ≤ h.ix ∧ h.ix < h.ct ∧ 0 ≤ h.mb ∧ h.mb ≤ 15 ∧ 0 ≤ h.rw' ∧ h.rw' ≤ 4095
instance (h : Hd) : Decidable h.Ok := by unfold Ok; infer_instance
def val (h : Hd) : Value := .agg #[.int .u64 (h.ep : Int), .int .u64 (h.sq : Int), .int .i64 h.ix, .int .i64 h.ct, .int .i64 h.mb, .int .i64 h.rw', .bool h.esc, .int .u32 (h.sm : Int)]
def rec' (h : Hd) : Rec := ⟨1, h.ep, h.sq, [h.ix.toNat, h.ct.toNat, h.mb.toNat, h.rw'.toNat, if h.esc then 1 else 0, h.sm]⟩
def enc (h : Hd) : List Nat := if h.Ok then h.rec'.sector else []
def err (h : Hd) : Int := if h.Ok then 0 else 80
end Hd

namespace Cm
def Ok (h : Cm) : Prop := numsOk h.ep h.sq ∧ 1 ≤ h.ct ∧ h.ct ≤ 1023
instance (h : Cm) : Decidable h.Ok := by unfold Ok; infer_instance
def val (h : Cm) : Value := .agg #[.int .u64 (h.ep : Int), .int .u64 (h.sq : Int), .int .i64 h.ct, .int .u32 (h.sm : Int)]
def rec' (h : Cm) : Rec := ⟨2, h.ep, h.sq, [h.ct.toNat, h.sm]⟩
def enc (h : Cm) : List Nat := if h.Ok then h.rec'.sector else []
def err (h : Cm) : Int := if h.Ok then 0 else 80
end Cm

namespace Ck
def Ok (h : Ck) : Prop := numsOk h.ep h.sq ∧ 0 ≤ h.tl ∧ h.tl ≤ 2047
instance (h : Ck) : Decidable h.Ok := by unfold Ok; infer_instance
def val (h : Ck) : Value := .agg #[.int .u64 (h.ep : Int), .int .u64 (h.sq : Int), .int .i64 h.tl]
def rec' (h : Ck) : Rec := ⟨3, h.ep, h.sq, [h.tl.toNat]⟩
def enc (h : Ck) : List Nat := if h.Ok then h.rec'.sector else []
def err (h : Ck) : Int := if h.Ok then 0 else 80
end Ck

/-- What a sector looks like. -/
def kindOf (b : List Nat) : Nat := if b.length = 128 ∧ b.take 4 = magicB ∧ 1 ≤ b.getD 4 0 ∧ b.getD 4 0 ≤ 3 then b.getD 4 0 else 0

/-- The errors that all three have. -/
def lookOf (k : Nat) (b : List Nat) : Int := if b.length ≠ 128 then 4 else if kindOf b ≠ k then 80 else if rd b 124 4 ≠ sum (b.take 124) then 81 else 0

theorem kindOf_le (b : List Nat) : kindOf b ≤ 3 := by
  unfold kindOf
  split
  next h => exact h.2.2.2
  next => decide

/-- Do bytes begin with these four? -/
def begOf (b m : List Nat) : Bool := decide (b.take 4 = m)

theorem kindOf_eq {b : List Nat} (hl : b.length = 128) : kindOf b = if begOf b magicB = true ∧ 1 ≤ b.getD 4 0 ∧ b.getD 4 0 ≤ 3 then b.getD 4 0 else 0 := by
  unfold kindOf begOf
  simp only [hl, true_and, decide_eq_true_eq]

/-- A sector as it is logged, whether it is escaped, the error. -/
def escV (b : List Nat) : List Nat := if b.length = 128 then (if begOf b magicB = true then List.replicate 4 0 ++ b.drop 4 else b) else []
def escB (b : List Nat) : Bool := decide (b.length = 128) && begOf b magicB
def escE (b : List Nat) : Int := if b.length = 128 then 0 else 4

/-- The sector that was logged so, the error. -/
def uneV (b : List Nat) (es : Bool) : List Nat := if b.length = 128 then (if es = true then (if begOf b (List.replicate 4 0) = true then magicB ++ b.drop 4 else []) else (if begOf b magicB = true then [] else b)) else []
def uneE (b : List Nat) (es : Bool) : Int := if b.length = 128 then (if es = true then (if begOf b (List.replicate 4 0) = true then 0 else 80) else (if begOf b magicB = true then 80 else 0)) else 4

/-- A part of bytes. -/
def cut (b : List Nat) (at_ n : Nat) : List Nat := (b.drop at_).take n

theorem cut_len {b : List Nat} {at_ n : Nat} (h : at_ + n ≤ b.length) : (cut b at_ n).length = n := by
  unfold cut
  rw [List.length_take, List.length_drop]
  omega

theorem cut_bs {b : List Nat} (h : Bs b) (at_ n : Nat) : Bs (cut b at_ n) := fun x hx => h x (List.mem_of_mem_drop (List.mem_of_mem_take hx))

theorem low_rd {b : List Nat} {at_ n : Nat} (hb : Bs b) (h : at_ + n ≤ b.length) : low n (rd b at_ n) = cut b at_ n := by
  have k := low_val (cut_bs hb at_ n)
  rw [cut_len h] at k
  exact k

theorem cut_add (b : List Nat) (at_ n m : Nat) : cut b at_ (n + m) = cut b at_ n ++ cut b (at_ + n) m := by
  unfold cut
  rw [List.take_add, List.drop_drop]

theorem cut_all {b : List Nat} {n : Nat} (h : b.length = n) : cut b 0 n = b := by
  unfold cut
  rw [List.drop_zero, ← h, List.take_length]

theorem cut_zero (b : List Nat) (n : Nat) : cut b 0 n = b.take n := by simp [cut]

theorem cut_one {b : List Nat} {i : Nat} (h : i < b.length) : cut b i 1 = [b.getD i 0] := by
  unfold cut
  rw [List.drop_eq_getElem_cons h, List.take_succ_cons, List.take_zero]
  simp [List.getD, List.getElem?_eq_getElem h]

def noughts (n : Nat) : List Nat := List.replicate n 0

/-- The parts of a sector. -/
theorem parts {b : List Nat} (hl : b.length = 128) (n : Nat) (hn : n ≤ 100) : b.take 124 = b.take 4 ++ cut b 4 4 ++ cut b 8 8 ++ cut b 16 8 ++ cut b 24 n ++ cut b (24 + n) (100 - n) ∧ b = b.take 124 ++ cut b 124 4 := by
  have e : b.take 124 = cut b 0 124 := (cut_zero b 124).symm
  constructor
  · rw [e, show (124 : Nat) = 4 + (4 + (8 + (8 + (n + (100 - n))))) by omega, cut_add, cut_add, cut_add, cut_add, cut_add, cut_zero]
    simp [List.append_assoc]
  · conv => lhs; rw [← cut_all hl, show (128 : Nat) = 124 + 4 from rfl, cut_add]
    rw [e]

/-- When a record's sector is what it was read of. -/
theorem sector_iff {r : Rec} {b : List Nat} (hl : b.length = 128) (hb : Bs b) (hm : b.take 4 = magicB) (he : r.ep = rd b 8 8) (hs : r.sq = rd b 16 8) (hf : r.fs.length ≤ 25) (hsum : rd b 124 4 = sum (b.take 124)) :
    r.sector = b ↔ low 4 r.kind = cut b 4 4 ∧ Rec.tail r.fs = cut b 24 (4 * r.fs.length) ∧ noughts (100 - 4 * r.fs.length) = cut b (24 + 4 * r.fs.length) (100 - 4 * r.fs.length) := by
  obtain ⟨p1, p2⟩ := parts hl (4 * r.fs.length) (by omega)
  have E : r.body = magicB ++ low 4 r.kind ++ cut b 8 8 ++ cut b 16 8 ++ Rec.tail r.fs ++ noughts (100 - 4 * r.fs.length) := by
    unfold Rec.body Rec.begun noughts
    rw [he, hs, low_rd hb (by omega), low_rd hb (by omega)]
    rfl
  have S : low 4 (sum (b.take 124)) = cut b 124 4 := by rw [← hsum]; exact low_rd hb (by omega)
  have B : r.sector = b ↔ r.body = b.take 124 := by
    constructor
    · intro h
      have h1 := congrArg (List.take 124) h
      unfold Rec.sector at h1
      rw [List.take_left' (Rec.body_length hf)] at h1
      exact h1
    · intro h
      unfold Rec.sector
      rw [h, S]
      exact p2.symm
  rw [B, E, p1, hm]
  constructor
  · intro h
    have h1 := List.append_inj' h (by rw [cut_len (by omega)]; simp [noughts])
    have h2 := List.append_inj' h1.1 (by rw [cut_len (by omega), Rec.tail_length])
    have h3 := List.append_inj' h2.1 rfl
    have h4 := List.append_inj' h3.1 rfl
    have h5 := List.append_inj' h4.1 (by rw [cut_len (by omega), low_length])
    exact ⟨h5.2, h2.2, h1.2⟩
  · rintro ⟨h1, h2, h3⟩
    rw [h1, h2, h3]

theorem kind_cut {b : List Nat} {k : Nat} (hl : b.length = 128) (hk : b.getD 4 0 = k) (h3 : k ≤ 3) : low 4 k = cut b 4 4 ↔ cut b 5 3 = noughts 3 := by
  rw [show (4 : Nat) = 1 + 3 from rfl, cut_add, show 1 + 3 = 4 from rfl, cut_one (by omega), hk, show 4 + 1 = 5 from rfl]
  have e : low 4 k = [k] ++ noughts 3 := by
    obtain rfl | rfl | rfl | rfl : k = 0 ∨ k = 1 ∨ k = 2 ∨ k = 3 := by omega
    all_goals rfl
  rw [e]
  constructor
  · intro h; exact (List.append_cancel_left h).symm
  · intro h; rw [h]

theorem kindOf_parts {b : List Nat} {k : Nat} (h : kindOf b = k) (hk : 1 ≤ k) : b.length = 128 ∧ b.take 4 = magicB ∧ b.getD 4 0 = k := by
  unfold kindOf at h
  split at h
  next g => exact ⟨g.1, g.2.1, h⟩
  next => omega

def Hd.of (b : List Nat) : Hd := ⟨rd b 8 8, rd b 16 8, rd b 24 4, rd b 28 4, rd b 32 4, rd b 36 4, decide (b.getD 40 0 = 1), rd b 44 4⟩
def Cm.of (b : List Nat) : Cm := ⟨rd b 8 8, rd b 16 8, rd b 24 4, rd b 28 4⟩
def Ck.of (b : List Nat) : Ck := ⟨rd b 8 8, rd b 16 8, rd b 24 4⟩

theorem lookOf_zero {b : List Nat} {k : Nat} (h : lookOf k b = 0) : b.length = 128 ∧ kindOf b = k ∧ rd b 124 4 = sum (b.take 124) := by
  unfold lookOf at h
  split at h
  next => omega
  next h1 =>
    split at h
    next => omega
    next h2 =>
      split at h
      next => omega
      next h3 => exact ⟨by omega, by omega, by omega⟩

theorem Ck.of_iff {b : List Nat} (hb : Bs b) (h : lookOf 3 b = 0) : (Ck.of b).rec'.sector = b ↔ cut b 5 3 = noughts 3 ∧ cut b 28 96 = noughts 96 := by
  obtain ⟨_, hk, hs⟩ := lookOf_zero h
  obtain ⟨hl, hm, h4⟩ := kindOf_parts hk (by decide)
  rw [sector_iff (r := (Ck.of b).rec') hl hb hm rfl rfl (show 1 ≤ 25 by decide) hs]
  show low 4 3 = cut b 4 4 ∧ Rec.tail [((rd b 24 4 : Nat) : Int).toNat] = cut b 24 4 ∧ noughts 96 = cut b 28 96 ↔ _
  rw [kind_cut hl h4 (by decide), Int.toNat_natCast]
  have e : Rec.tail [rd b 24 4] = cut b 24 4 := by
    show low 4 (rd b 24 4) ++ [] = _
    rw [List.append_nil, low_rd hb (by omega)]
  simp only [e, true_and, eq_comm (a := noughts 96)]

theorem Cm.of_iff {b : List Nat} (hb : Bs b) (h : lookOf 2 b = 0) : (Cm.of b).rec'.sector = b ↔ cut b 5 3 = noughts 3 ∧ cut b 32 92 = noughts 92 := by
  obtain ⟨_, hk, hs⟩ := lookOf_zero h
  obtain ⟨hl, hm, h4⟩ := kindOf_parts hk (by decide)
  rw [sector_iff (r := (Cm.of b).rec') hl hb hm rfl rfl (show 2 ≤ 25 by decide) hs]
  show low 4 2 = cut b 4 4 ∧ Rec.tail [((rd b 24 4 : Nat) : Int).toNat, rd b 28 4] = cut b 24 8 ∧ noughts 92 = cut b 32 92 ↔ _
  rw [kind_cut hl h4 (by decide), Int.toNat_natCast]
  have e : Rec.tail [rd b 24 4, rd b 28 4] = cut b 24 8 := by
    show low 4 (rd b 24 4) ++ (low 4 (rd b 28 4) ++ []) = _
    rw [List.append_nil, low_rd hb (by omega), low_rd hb (by omega), show (8 : Nat) = 4 + 4 from rfl, cut_add]
  simp only [e, true_and, eq_comm (a := noughts 92)]

theorem flag_cut {b : List Nat} (hl : b.length = 128) : low 4 (if decide (b.getD 40 0 = 1) = true then 1 else 0) = cut b 40 4 ↔ b.getD 40 0 ≤ 1 ∧ cut b 41 3 = noughts 3 := by
  rw [show (4 : Nat) = 1 + 3 from rfl, cut_add, show 1 + 3 = 4 from rfl, cut_one (by omega), show 40 + 1 = 41 from rfl]
  generalize b.getD 40 0 = x
  constructor
  · intro h
    by_cases hx : x = 1
    · subst hx
      exact ⟨by decide, (List.append_cancel_left (show [1] ++ noughts 3 = [1] ++ cut b 41 3 from h)).symm⟩
    · simp only [hx, decide_false, Bool.false_eq_true, if_false] at h
      have h1 : (0 : Nat) :: noughts 3 = x :: cut b 41 3 := h
      have h2 := (List.cons.inj h1)
      exact ⟨by omega, h2.2.symm⟩
  · rintro ⟨h1, h2⟩
    rw [h2]
    obtain rfl | rfl : x = 0 ∨ x = 1 := by omega
    all_goals rfl

theorem Hd.of_iff {b : List Nat} (hb : Bs b) (h : lookOf 1 b = 0) : (Hd.of b).rec'.sector = b ↔ cut b 5 3 = noughts 3 ∧ b.getD 40 0 ≤ 1 ∧ cut b 41 3 = noughts 3 ∧ cut b 48 76 = noughts 76 := by
  obtain ⟨_, hk, hs⟩ := lookOf_zero h
  obtain ⟨hl, hm, h4⟩ := kindOf_parts hk (by decide)
  rw [sector_iff (r := (Hd.of b).rec') hl hb hm rfl rfl (show 6 ≤ 25 by decide) hs]
  show low 4 1 = cut b 4 4 ∧ Rec.tail [((rd b 24 4 : Nat) : Int).toNat, ((rd b 28 4 : Nat) : Int).toNat, ((rd b 32 4 : Nat) : Int).toNat, ((rd b 36 4 : Nat) : Int).toNat, if decide (b.getD 40 0 = 1) = true then 1 else 0, rd b 44 4] = cut b 24 24 ∧ noughts 76 = cut b 48 76 ↔ _
  rw [kind_cut hl h4 (by decide), Int.toNat_natCast, Int.toNat_natCast, Int.toNat_natCast, Int.toNat_natCast, ← and_assoc (a := b.getD 40 0 ≤ 1), ← flag_cut hl]
  generalize (if decide (b.getD 40 0 = 1) = true then 1 else 0) = z
  have e : Rec.tail [rd b 24 4, rd b 28 4, rd b 32 4, rd b 36 4, z, rd b 44 4] = cut b 24 24 ↔ low 4 z = cut b 40 4 := by
    show low 4 (rd b 24 4) ++ (low 4 (rd b 28 4) ++ (low 4 (rd b 32 4) ++ (low 4 (rd b 36 4) ++ (low 4 z ++ (low 4 (rd b 44 4) ++ []))))) = _ ↔ _
    rw [List.append_nil, low_rd hb (by omega), low_rd hb (by omega), low_rd hb (by omega), low_rd hb (by omega), low_rd hb (by omega), show (24 : Nat) = 4 + (4 + (4 + (4 + (4 + 4)))) from rfl, cut_add, cut_add, cut_add, cut_add, cut_add]
    constructor
    · intro h
      exact List.append_cancel_right (List.append_cancel_left (List.append_cancel_left (List.append_cancel_left (List.append_cancel_left h))))
    · intro h
      rw [h]
  rw [e, eq_comm (a := noughts 76)]

theorem cut_take {b : List Nat} {m p n : Nat} (h : p + n ≤ m) : cut (b.take m) p n = cut b p n := by
  unfold cut
  rw [List.drop_take, List.take_take, Nat.min_eq_left (by omega)]

theorem rd_take {b : List Nat} {m p n : Nat} (h : p + n ≤ m) : rd (b.take m) p n = rd b p n := by
  have := cut_take (b := b) h
  unfold cut at this
  unfold rd
  rw [this]

/-- The program's error of a decoding. -/
def decErr (k : Nat) (b : List Nat) (p : Nat) (z ok : Bool) : Int :=
  if lookOf k b ≠ 0 then lookOf k b else if ((decide (cut (b.take 124) 5 3 = noughts 3) && z) && decide (cut (b.take 124) p (124 - p) = noughts (124 - p))) && ok then 0 else 80

def Hd.zero : Hd := ⟨0, 0, 0, 0, 0, 0, false, 0⟩
def Cm.zero : Cm := ⟨0, 0, 0, 0⟩
def Ck.zero : Ck := ⟨0, 0, 0⟩

def Hd.derr (b : List Nat) : Int := if lookOf 1 b ≠ 0 then lookOf 1 b else if (Hd.of b).Ok ∧ (Hd.of b).rec'.sector = b then 0 else 80
def Cm.derr (b : List Nat) : Int := if lookOf 2 b ≠ 0 then lookOf 2 b else if (Cm.of b).Ok ∧ (Cm.of b).rec'.sector = b then 0 else 80
def Ck.derr (b : List Nat) : Int := if lookOf 3 b ≠ 0 then lookOf 3 b else if (Ck.of b).Ok ∧ (Ck.of b).rec'.sector = b then 0 else 80

def Hd.dval (b : List Nat) : Hd := if Hd.derr b = 0 then Hd.of b else Hd.zero
def Cm.dval (b : List Nat) : Cm := if Cm.derr b = 0 then Cm.of b else Cm.zero
def Ck.dval (b : List Nat) : Ck := if Ck.derr b = 0 then Ck.of b else Ck.zero

theorem getD_take {b : List Nat} {m i : Nat} (h : i < m) : (b.take m).getD i 0 = b.getD i 0 := by
  simp [List.getD, h]

theorem Hd.of_take (b : List Nat) : Hd.of (b.take 124) = Hd.of b := by
  unfold Hd.of
  rw [rd_take (by decide), rd_take (by decide), rd_take (by decide), rd_take (by decide), rd_take (by decide), rd_take (by decide), rd_take (by decide), getD_take (by decide)]

theorem Cm.of_take (b : List Nat) : Cm.of (b.take 124) = Cm.of b := by
  unfold Cm.of
  rw [rd_take (by decide), rd_take (by decide), rd_take (by decide), rd_take (by decide)]

theorem Ck.of_take (b : List Nat) : Ck.of (b.take 124) = Ck.of b := by
  unfold Ck.of
  rw [rd_take (by decide), rd_take (by decide), rd_take (by decide)]

theorem ite_iff {p q : Prop} [Decidable p] [Decidable q] (h : p ↔ q) (x y : Int) : (if p then x else y) = if q then x else y := by
  by_cases hp : p
  · rw [if_pos hp, if_pos (h.1 hp)]
  · rw [if_neg hp, if_neg (fun k => hp (h.2 k))]

theorem Hd.derr_eq {b : List Nat} (hb : Bs b) : decErr 1 b 48 (decide (cut (b.take 124) 41 3 = noughts 3)) (decide (Hd.of (b.take 124)).Ok && decide ((b.take 124).getD 40 0 ≤ 1)) = Hd.derr b := by
  unfold decErr Hd.derr
  by_cases h : lookOf 1 b = 0
  · rw [if_neg (show ¬ lookOf 1 b ≠ 0 from fun k => k h), if_neg (show ¬ lookOf 1 b ≠ 0 from fun k => k h)]
    refine ite_iff ?_ _ _
    rw [Hd.of_iff hb h, Hd.of_take, getD_take (by decide), cut_take (by decide), cut_take (by decide), cut_take (by decide)]
    simp only [Bool.and_eq_true, decide_eq_true_eq]
    constructor
    · rintro ⟨⟨⟨a, b⟩, c⟩, d, e⟩; exact ⟨d, a, e, b, c⟩
    · rintro ⟨d, a, e, b, c⟩; exact ⟨⟨⟨a, b⟩, c⟩, d, e⟩
  · rw [if_pos (show lookOf 1 b ≠ 0 from h), if_pos (show lookOf 1 b ≠ 0 from h)]

theorem Cm.derr_eq {b : List Nat} (hb : Bs b) : decErr 2 b 32 true (decide (Cm.of (b.take 124)).Ok) = Cm.derr b := by
  unfold decErr Cm.derr
  by_cases h : lookOf 2 b = 0
  · rw [if_neg (show ¬ lookOf 2 b ≠ 0 from fun k => k h), if_neg (show ¬ lookOf 2 b ≠ 0 from fun k => k h)]
    refine ite_iff ?_ _ _
    rw [Cm.of_iff hb h, Cm.of_take, cut_take (by decide), cut_take (by decide)]
    simp only [Bool.and_eq_true, decide_eq_true_eq]
    constructor
    · rintro ⟨⟨⟨a, _⟩, c⟩, d⟩; exact ⟨d, a, c⟩
    · rintro ⟨d, a, c⟩; exact ⟨⟨⟨a, trivial⟩, c⟩, d⟩
  · rw [if_pos (show lookOf 2 b ≠ 0 from h), if_pos (show lookOf 2 b ≠ 0 from h)]

theorem Ck.derr_eq {b : List Nat} (hb : Bs b) : decErr 3 b 28 true (decide (Ck.of (b.take 124)).Ok) = Ck.derr b := by
  unfold decErr Ck.derr
  by_cases h : lookOf 3 b = 0
  · rw [if_neg (show ¬ lookOf 3 b ≠ 0 from fun k => k h), if_neg (show ¬ lookOf 3 b ≠ 0 from fun k => k h)]
    refine ite_iff ?_ _ _
    rw [Ck.of_iff hb h, Ck.of_take, cut_take (by decide), cut_take (by decide)]
    simp only [Bool.and_eq_true, decide_eq_true_eq]
    constructor
    · rintro ⟨⟨⟨a, _⟩, c⟩, d⟩; exact ⟨d, a, c⟩
    · rintro ⟨d, a, c⟩; exact ⟨⟨⟨a, trivial⟩, c⟩, d⟩
  · rw [if_pos (show lookOf 3 b ≠ 0 from h), if_pos (show lookOf 3 b ≠ 0 from h)]

theorem lookOf_in (k : Nat) (b : List Nat) : lookOf k b = 0 ∨ lookOf k b = 4 ∨ lookOf k b = 80 ∨ lookOf k b = 81 := by
  unfold lookOf
  repeat' split
  all_goals simp

theorem Hd.derr_in (b : List Nat) : 0 ≤ Hd.derr b ∧ Hd.derr b ≤ 81 := by
  have := lookOf_in 1 b
  unfold Hd.derr
  repeat' split
  all_goals omega

theorem Cm.derr_in (b : List Nat) : 0 ≤ Cm.derr b ∧ Cm.derr b ≤ 81 := by
  have := lookOf_in 2 b
  unfold Cm.derr
  repeat' split
  all_goals omega

theorem Ck.derr_in (b : List Nat) : 0 ≤ Ck.derr b ∧ Ck.derr b ≤ 81 := by
  have := lookOf_in 3 b
  unfold Ck.derr
  repeat' split
  all_goals omega


theorem sector_take (r : Rec) : r.sector.take 4 = magicB := by
  have e : r.sector = magicB ++ (low 4 r.kind ++ low 8 r.ep ++ low 8 r.sq ++ Rec.tail r.fs ++ List.replicate (100 - 4 * r.fs.length) 0 ++ low 4 (sum r.body)) := by
    unfold Rec.sector
    generalize sum r.body = z
    simp [Rec.body, Rec.begun, magicB]
  rw [e]
  exact List.take_left' rfl

theorem sector_four {r : Rec} (hk : r.kind < 256) : r.sector.getD 4 0 = r.kind := by
  have e : r.sector = magicB ++ (low 4 r.kind ++ low 8 r.ep ++ low 8 r.sq ++ Rec.tail r.fs ++ List.replicate (100 - 4 * r.fs.length) 0 ++ low 4 (sum r.body)) := by
    unfold Rec.sector
    generalize sum r.body = z
    simp [Rec.body, Rec.begun, magicB]
  rw [e, low]
  simp [magicB, List.getD]
  omega

theorem sector_eight {r : Rec} (hk : r.kind < 256) : r.sector.take 8 = magicB ++ [r.kind, 0, 0, 0] := by
  have e : r.sector = (magicB ++ low 4 r.kind) ++ (low 8 r.ep ++ low 8 r.sq ++ Rec.tail r.fs ++ List.replicate (100 - 4 * r.fs.length) 0 ++ low 4 (sum r.body)) := by
    unfold Rec.sector
    generalize sum r.body = z
    simp [Rec.body, Rec.begun, magicB]
  rw [e, List.take_left' (by rw [List.length_append, low_length]; rfl)]
  congr 1
  simp [low]
  omega

theorem kindOf_sector {r : Rec} (hf : r.fs.length ≤ 25) (h1 : 1 ≤ r.kind) (h3 : r.kind ≤ 3) : kindOf r.sector = r.kind := by
  unfold kindOf
  rw [Rec.sector_length hf, sector_take, sector_four (by omega), if_pos ⟨rfl, rfl, h1, h3⟩]

theorem sector_body {r : Rec} (hf : r.fs.length ≤ 25) : r.sector.take 124 = r.body := by
  unfold Rec.sector
  exact List.take_left' (Rec.body_length hf)

theorem lookOf_sector (k : Nat) {r : Rec} (hf : r.fs.length ≤ 25) (h1 : 1 ≤ r.kind) (h3 : r.kind ≤ 3) : lookOf k r.sector = if r.kind = k then 0 else 80 := by
  unfold lookOf
  rw [if_neg (by rw [Rec.sector_length hf]; simp), kindOf_sector hf h1 h3, Rec.rd_sum hf, sector_body hf]
  by_cases hk : r.kind = k
  · rw [if_neg (by simp [hk]), if_neg (by simp), if_pos hk]
  · rw [if_pos hk, if_neg hk]

theorem Hd.of_sector (h : Hd) (ok : h.Ok) (hsm : h.sm < 4294967296) : Hd.of h.rec'.sector = h := by
  obtain ⟨⟨a1, a2, a3⟩, b1, b2, b3, b4, b5, b6, b7, b8⟩ := ok
  have e1 : rd h.rec'.sector 8 8 = h.ep := Rec.rd_ep (show h.ep < _ by omega)
  have e2 : rd h.rec'.sector 16 8 = h.sq := Rec.rd_sq (show h.sq < _ by omega)
  have f0 : rd h.rec'.sector 24 4 = h.ix.toNat := Rec.rd_field (i := 0) rfl (by omega)
  have f1 : rd h.rec'.sector 28 4 = h.ct.toNat := Rec.rd_field (i := 1) rfl (by omega)
  have f2 : rd h.rec'.sector 32 4 = h.mb.toNat := Rec.rd_field (i := 2) rfl (by omega)
  have f3 : rd h.rec'.sector 36 4 = h.rw'.toNat := Rec.rd_field (i := 3) rfl (by omega)
  have f4 : rd h.rec'.sector 40 4 = (if h.esc = true then 1 else 0) := Rec.rd_field (i := 4) rfl (by split <;> decide)
  have f5 : rd h.rec'.sector 44 4 = h.sm := Rec.rd_field (i := 5) rfl hsm
  have hl : h.rec'.sector.length = 128 := Rec.sector_length (show 6 ≤ 25 by decide)
  have hb := Rec.sector_bs h.rec'
  have e40 : decide (h.rec'.sector.getD 40 0 = 1) = h.esc := by
    have k := low_rd (at_ := 40) (n := 4) hb (by omega)
    rw [f4, show (4 : Nat) = 1 + 3 from rfl, cut_add, cut_one (by omega)] at k
    generalize h.rec'.sector.getD 40 0 = x at *
    have k2 : low 4 (if h.esc = true then 1 else 0) = x :: cut h.rec'.sector 41 3 := k
    rcases hes : h.esc with _ | _
    · rw [hes] at k2
      have := (List.cons.inj (show (0 : Nat) :: [0, 0, 0] = x :: cut h.rec'.sector 41 3 from k2)).1
      subst this
      rfl
    · rw [hes] at k2
      have := (List.cons.inj (show (1 : Nat) :: [0, 0, 0] = x :: cut h.rec'.sector 41 3 from k2)).1
      subst this
      rfl
  unfold Hd.of
  rw [e1, e2, f0, f1, f2, f3, f5, e40]
  obtain ⟨ep, sq, ix, ct, mb, rw1, es, sm⟩ := h
  simp only at *
  rw [Int.toNat_of_nonneg b3, Int.toNat_of_nonneg (show 0 ≤ ct by omega), Int.toNat_of_nonneg b5, Int.toNat_of_nonneg b7]

theorem Cm.of_sector (h : Cm) (ok : h.Ok) (hsm : h.sm < 4294967296) : Cm.of h.rec'.sector = h := by
  obtain ⟨⟨a1, a2, a3⟩, b1, b2⟩ := ok
  have e1 : rd h.rec'.sector 8 8 = h.ep := Rec.rd_ep (show h.ep < _ by omega)
  have e2 : rd h.rec'.sector 16 8 = h.sq := Rec.rd_sq (show h.sq < _ by omega)
  have f0 : rd h.rec'.sector 24 4 = h.ct.toNat := Rec.rd_field (i := 0) rfl (by omega)
  have f1 : rd h.rec'.sector 28 4 = h.sm := Rec.rd_field (i := 1) rfl hsm
  unfold Cm.of
  rw [e1, e2, f0, f1]
  obtain ⟨ep, sq, ct, sm⟩ := h
  simp only at *
  rw [Int.toNat_of_nonneg (show 0 ≤ ct by omega)]

theorem Ck.of_sector (h : Ck) (ok : h.Ok) : Ck.of h.rec'.sector = h := by
  obtain ⟨⟨a1, a2, a3⟩, b1, b2⟩ := ok
  have e1 : rd h.rec'.sector 8 8 = h.ep := Rec.rd_ep (show h.ep < _ by omega)
  have e2 : rd h.rec'.sector 16 8 = h.sq := Rec.rd_sq (show h.sq < _ by omega)
  have f0 : rd h.rec'.sector 24 4 = h.tl.toNat := Rec.rd_field (i := 0) rfl (by omega)
  unfold Ck.of
  rw [e1, e2, f0]
  obtain ⟨ep, sq, tl⟩ := h
  simp only at *
  rw [Int.toNat_of_nonneg b1]

theorem Hd.back (h : Hd) (ok : h.Ok) (hsm : h.sm < 4294967296) : Hd.derr h.rec'.sector = 0 ∧ Hd.dval h.rec'.sector = h := by
  have e : Hd.derr h.rec'.sector = 0 := by
    unfold Hd.derr
    rw [lookOf_sector 1 (r := h.rec') (show 6 ≤ 25 by decide) (show 1 ≤ 1 by decide) (show 1 ≤ 3 by decide), if_pos (show h.rec'.kind = 1 from rfl), if_neg (by decide), Hd.of_sector h ok hsm, if_pos ⟨ok, rfl⟩]
  exact ⟨e, by unfold Hd.dval; rw [if_pos e, Hd.of_sector h ok hsm]⟩

theorem Cm.back (h : Cm) (ok : h.Ok) (hsm : h.sm < 4294967296) : Cm.derr h.rec'.sector = 0 ∧ Cm.dval h.rec'.sector = h := by
  have e : Cm.derr h.rec'.sector = 0 := by
    unfold Cm.derr
    rw [lookOf_sector 2 (r := h.rec') (show 2 ≤ 25 by decide) (show 1 ≤ 2 by decide) (show 2 ≤ 3 by decide), if_pos (show h.rec'.kind = 2 from rfl), if_neg (by decide), Cm.of_sector h ok hsm, if_pos ⟨ok, rfl⟩]
  exact ⟨e, by unfold Cm.dval; rw [if_pos e, Cm.of_sector h ok hsm]⟩

theorem Ck.back (h : Ck) (ok : h.Ok) : Ck.derr h.rec'.sector = 0 ∧ Ck.dval h.rec'.sector = h := by
  have e : Ck.derr h.rec'.sector = 0 := by
    unfold Ck.derr
    rw [lookOf_sector 3 (r := h.rec') (show 1 ≤ 25 by decide) (show 1 ≤ 3 by decide) (show 3 ≤ 3 by decide), if_pos (show h.rec'.kind = 3 from rfl), if_neg (by decide), Ck.of_sector h ok, if_pos ⟨ok, rfl⟩]
  exact ⟨e, by unfold Ck.dval; rw [if_pos e, Ck.of_sector h ok]⟩

/-- Of another kind it is refused. -/
theorem other_kind {r : Rec} (hf : r.fs.length ≤ 25) (h1 : 1 ≤ r.kind) (h3 : r.kind ≤ 3) : (r.kind ≠ 1 → Hd.derr r.sector = 80) ∧ (r.kind ≠ 2 → Cm.derr r.sector = 80) ∧ (r.kind ≠ 3 → Ck.derr r.sector = 80) := by
  refine ⟨fun h => ?_, fun h => ?_, fun h => ?_⟩
  · unfold Hd.derr
    rw [lookOf_sector 1 hf h1 h3, if_neg h, if_pos (by decide)]
  · unfold Cm.derr
    rw [lookOf_sector 2 hf h1 h3, if_neg h, if_pos (by decide)]
  · unfold Ck.derr
    rw [lookOf_sector 3 hf h1 h3, if_neg h, if_pos (by decide)]

/-- What is read well is sealed. -/
theorem sealed_of {b : List Nat} (r : Rec) (h : r.sector = b) : reg ones b = thr 32 ones := by rw [← h]; exact r.sector_sealed

theorem Hd.good {b : List Nat} (h : Hd.derr b = 0) : reg ones b = thr 32 ones := by
  unfold Hd.derr at h
  split at h
  next k => exact absurd h k
  next k =>
    split at h
    next g => exact sealed_of _ g.2
    next => cases h

theorem Cm.good {b : List Nat} (h : Cm.derr b = 0) : reg ones b = thr 32 ones := by
  unfold Cm.derr at h
  split at h
  next k => exact absurd h k
  next k =>
    split at h
    next g => exact sealed_of _ g.2
    next => cases h

theorem Ck.good {b : List Nat} (h : Ck.derr b = 0) : reg ones b = thr 32 ones := by
  unfold Ck.derr at h
  split at h
  next k => exact absurd h k
  next k =>
    split at h
    next g => exact sealed_of _ g.2
    next => cases h

end Go.Proofs.Ytffpjefecmkfmaa
