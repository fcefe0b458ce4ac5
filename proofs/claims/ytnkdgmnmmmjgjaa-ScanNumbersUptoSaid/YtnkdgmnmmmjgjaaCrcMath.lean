/-
  Checksums, as numbers: shifts with a polynomial, their sums, their squares, and bursts. No function of the program is named here. By an AI agent.
-/
import Derived.Test.YtnkdgmnmmmjgjaaGNats
namespace Go.Proofs.Ytnkdgmnmmmjgjaa.Crc

def poly : Nat := 0x82f63b78
def ones : Nat := 0xffffffff

theorem xor4 (a b c d : Nat) : (a ^^^ b) ^^^ (c ^^^ d) = (a ^^^ c) ^^^ (b ^^^ d) := by
  rw [Nat.xor_assoc, Nat.xor_assoc, ← Nat.xor_assoc b c d, Nat.xor_comm b c, Nat.xor_assoc c b d]

theorem xor_back (a b : Nat) : a ^^^ b ^^^ b = a := by rw [Nat.xor_assoc, Nat.xor_self, Nat.xor_zero]

theorem xor_zero_iff {a b : Nat} (h : a ^^^ b = 0) : a = b := by
  have := congrArg (· ^^^ b) h
  simpa [xor_back] using this

/-- One bit is shifted out. -/
def sh (n : Nat) : Nat := if n % 2 = 1 then (n / 2) ^^^ poly else n / 2

theorem sh_zero : sh 0 = 0 := rfl

theorem div_xor (a b : Nat) : (a ^^^ b) / 2 = a / 2 ^^^ b / 2 := by
  have h := Nat.shiftRight_xor_distrib (a := a) (b := b) (i := 1)
  simpa [Nat.shiftRight_eq_div_pow] using h

theorem mod_xor (a b : Nat) : (a ^^^ b) % 2 = (a % 2 + b % 2) % 2 := by
  have h := Nat.xor_mod_two_pow (a := a) (b := b) (n := 1)
  rw [Nat.pow_one] at h
  rw [h]
  rcases Nat.mod_two_eq_zero_or_one a with ha | ha <;> rcases Nat.mod_two_eq_zero_or_one b with hb | hb <;> rw [ha, hb] <;> rfl

theorem sh_xor (a b : Nat) : sh (a ^^^ b) = sh a ^^^ sh b := by
  unfold sh
  rw [div_xor, mod_xor]
  rcases Nat.mod_two_eq_zero_or_one a with ha | ha <;> rcases Nat.mod_two_eq_zero_or_one b with hb | hb <;> simp only [ha, hb] <;> simp
  · rw [Nat.xor_assoc]
  · rw [Nat.xor_assoc, Nat.xor_assoc, Nat.xor_comm poly]
  · rw [xor4, Nat.xor_self, Nat.xor_zero]

theorem sh_lt {n : Nat} (h : n < 4294967296) : sh n < 4294967296 := by
  unfold sh
  split
  · have h1 : n / 2 < 2 ^ 32 := by omega
    have h2 : poly < 2 ^ 32 := by decide
    exact Nat.xor_lt_two_pow h1 h2
  · omega

theorem sh_ne {n : Nat} (h : n < 4294967296) (h0 : n ≠ 0) : sh n ≠ 0 := by
  unfold sh
  split
  · intro e
    have h1 := xor_zero_iff e
    have h2 : poly = 2197175160 := rfl
    omega
  · omega

/-- So many bits are shifted out. -/
def thr : Nat → Nat → Nat
  | 0, n => n
  | k + 1, n => thr k (sh n)

theorem thr_zero : ∀ k, thr k 0 = 0
  | 0 => rfl
  | k + 1 => by rw [thr, sh_zero, thr_zero k]

theorem thr_xor : ∀ (k a b : Nat), thr k (a ^^^ b) = thr k a ^^^ thr k b
  | 0, _, _ => rfl
  | k + 1, a, b => by rw [thr, thr, thr, sh_xor, thr_xor k]

theorem thr_lt : ∀ (k : Nat) {n : Nat}, n < 4294967296 → thr k n < 4294967296
  | 0, _, h => h
  | k + 1, _, h => thr_lt k (sh_lt h)

theorem thr_ne : ∀ (k : Nat) {n : Nat}, n < 4294967296 → n ≠ 0 → thr k n ≠ 0
  | 0, _, _, h0 => h0
  | k + 1, _, h, h0 => thr_ne k (sh_lt h) (sh_ne h h0)

theorem thr_add : ∀ (j k n : Nat), thr (j + k) n = thr k (thr j n)
  | 0, k, n => by rw [Nat.zero_add]; rfl
  | j + 1, k, n => by rw [show j + 1 + k = j + k + 1 by omega, thr, thr, thr_add j k]

theorem thr_succ (k n : Nat) : thr (k + 1) n = sh (thr k n) := by rw [thr_add k 1]; rfl

/-- A power of two, shifted to one. -/
theorem thr_pow : ∀ (i k : Nat), thr (i + k) (2 ^ i) = thr k 1
  | 0, k => by rw [Nat.zero_add]
  | i + 1, k => by
    rw [show i + 1 + k = i + k + 1 by omega, thr]
    have : sh (2 ^ (i + 1)) = 2 ^ i := by
      unfold sh
      rw [Nat.pow_succ, if_neg (by omega), Nat.mul_div_cancel _ (by decide)]
    rw [this, thr_pow i k]

/-- The register behind bytes. -/
def reg (s : Nat) (bs : List Nat) : Nat := bs.foldl (fun n b => thr 8 (n ^^^ b)) s

theorem reg_nil (s : Nat) : reg s [] = s := rfl
theorem reg_cons (s b : Nat) (bs : List Nat) : reg s (b :: bs) = reg (thr 8 (s ^^^ b)) bs := rfl
theorem reg_append (s : Nat) (a b : List Nat) : reg s (a ++ b) = reg (reg s a) b := by simp [reg]
theorem reg_snoc (s : Nat) (a : List Nat) (x : Nat) : reg s (a ++ [x]) = thr 8 (reg s a ^^^ x) := by simp [reg]

theorem byte_lt {b : Nat} (h : b < 256) : b < 2 ^ 32 := Nat.lt_trans h (by decide)

theorem reg_lt : ∀ {bs : List Nat} {s : Nat}, s < 4294967296 → Bs bs → reg s bs < 4294967296
  | [], _, h, _ => h
  | b :: r, _, h, hb => reg_lt (bs := r) (thr_lt 8 (Nat.xor_lt_two_pow (n := 32) h (byte_lt (hb b List.mem_cons_self)))) (fun x hx => hb x (List.mem_cons_of_mem _ hx))

theorem reg_xor : ∀ {a b : List Nat} {s t : Nat}, a.length = b.length → reg (s ^^^ t) (List.zipWith (· ^^^ ·) a b) = reg s a ^^^ reg t b
  | [], [], _, _, _ => rfl
  | [], _ :: _, _, _, h => by simp at h
  | _ :: _, [], _, _, h => by simp at h
  | x :: a, y :: b, s, t, h => by
    rw [List.zipWith_cons_cons, reg_cons, reg_cons, reg_cons, xor4, thr_xor]
    exact reg_xor (by simpa using h)

/-- Noughts alone. -/
theorem reg_noughts : ∀ (n s : Nat), reg s (List.replicate n 0) = thr (8 * n) s
  | 0, _ => rfl
  | n + 1, s => by rw [List.replicate_succ, reg_cons, reg_noughts n, Nat.xor_zero, Nat.mul_succ, Nat.add_comm, thr_add]

/-- The register is a sum of what it was and of what the bytes make of nothing. -/
theorem reg_split (s : Nat) (bs : List Nat) : reg s bs = thr (8 * bs.length) s ^^^ reg 0 bs := by
  have h := reg_xor (a := List.replicate bs.length 0) (b := bs) (s := s) (t := 0) (by simp)
  rw [Nat.xor_zero, reg_noughts] at h
  rw [← h]
  congr 1
  clear h
  induction bs with
  | nil => rfl
  | cons x r ih => rw [List.length_cons, List.replicate_succ, List.zipWith_cons_cons, Nat.zero_xor, ← ih]

/-- The checksum of what had the checksum s, and of bytes. -/
def more (s : Nat) (bs : List Nat) : Nat := reg (s ^^^ ones) bs ^^^ ones
def sum (bs : List Nat) : Nat := more 0 bs

theorem more_lt {s : Nat} {bs : List Nat} (hs : s < 4294967296) (hb : Bs bs) : more s bs < 4294967296 :=
  Nat.xor_lt_two_pow (n := 32) (reg_lt (Nat.xor_lt_two_pow (n := 32) hs (by decide)) hb) (by decide)

theorem more_more (s : Nat) (a b : List Nat) : more (more s a) b = more s (a ++ b) := by
  unfold more
  rw [xor_back, reg_append]

theorem more_nil (s : Nat) : more s [] = s := by unfold more; rw [reg_nil, xor_back]

/-- Two pieces, put together. -/
def join (a b n : Nat) : Nat := thr (8 * n) a ^^^ b

theorem join_sum (s : Nat) (a b : List Nat) : join (more s a) (sum b) b.length = more s (a ++ b) := by
  rw [← more_more]
  unfold join sum
  generalize more s a = x
  unfold more
  rw [Nat.zero_xor, reg_split (x ^^^ ones) b, reg_split ones b, thr_xor]
  simp only [Nat.xor_assoc]

theorem join_zero (a b : Nat) : join a b 0 = a ^^^ b := rfl

theorem join_lt {a b : Nat} (n : Nat) (ha : a < 4294967296) (hb : b < 4294967296) : join a b n < 4294967296 := Nat.xor_lt_two_pow (n := 32) (thr_lt _ ha) hb

theorem join_join (a b c m n : Nat) : join (join a b m) c n = join a (join b c n) (m + n) := by
  unfold join
  rw [thr_xor, Nat.mul_add, thr_add, Nat.xor_assoc]

/-- Two texts of one length, their exclusive or, and noughts. -/
theorem linear (a b : List Nat) (h : a.length = b.length) : sum a ^^^ sum b ^^^ sum (List.zipWith (· ^^^ ·) a b) ^^^ sum (List.replicate a.length 0) = 0 := by
  unfold sum more
  rw [reg_split (0 ^^^ ones) a, reg_split (0 ^^^ ones) b, reg_split (0 ^^^ ones) (List.zipWith (· ^^^ ·) a b), reg_split (0 ^^^ ones) (List.replicate a.length 0)]
  have hz : (List.zipWith (· ^^^ ·) a b).length = a.length := by simp [h]
  have hx := reg_xor (s := 0) (t := 0) h
  rw [Nat.xor_zero] at hx
  rw [hz, ← h, hx, List.length_replicate, reg_noughts a.length 0, thr_zero, Nat.xor_zero]
  generalize thr (8 * a.length) (0 ^^^ ones) = p
  generalize reg 0 a = q
  generalize reg 0 b = r
  generalize ones = o
  apply Nat.eq_of_testBit_eq
  intro i
  simp only [Nat.testBit_xor, Nat.zero_testBit]
  cases p.testBit i <;> cases q.testBit i <;> cases r.testBit i <;> cases o.testBit i <;> rfl

/-- A matrix times a number, as far as its first i columns. -/
def times (m : List Nat) (n : Nat) : Nat → Nat
  | 0 => 0
  | i + 1 => times m n i ^^^ (if n.testBit i then m.getD i 0 else 0)

/-- The matrix m is the function f, which is a sum of what it makes of the bits. -/
structure Rep (m : List Nat) (f : Nat → Nat) : Prop where
  len : m.length = 32
  col : ∀ i, i < 32 → m.getD i 0 = f (2 ^ i)
  add : ∀ a b, f (a ^^^ b) = f a ^^^ f b
  lt : ∀ n, n < 4294967296 → f n < 4294967296

theorem Rep.zero {m : List Nat} {f : Nat → Nat} (h : Rep m f) : f 0 = 0 := by
  have := h.add 0 0
  rw [Nat.xor_self] at this
  rw [this, Nat.xor_self]

/-- A number's low bits, one more. -/
theorem low_succ (n i : Nat) : n % 2 ^ (i + 1) = n % 2 ^ i ^^^ (if n.testBit i then 2 ^ i else 0) := by
  apply Nat.eq_of_testBit_eq
  intro j
  rw [Nat.testBit_xor, Nat.testBit_mod_two_pow, Nat.testBit_mod_two_pow]
  by_cases hb : n.testBit i
  · rw [if_pos hb, Nat.testBit_two_pow]
    by_cases hj : j = i
    · subst hj; simp [hb]
    · by_cases hl : j < i
      · have h1 : j < i + 1 := by omega
        have h2 : ¬ i = j := by omega
        simp [hl, h1, h2]
      · have h1 : ¬ j < i + 1 := by omega
        have h2 : ¬ i = j := by omega
        simp [hl, h1, h2]
  · rw [if_neg hb, Nat.zero_testBit]
    by_cases hj : j = i
    · subst hj; simp [hb]
    · by_cases hl : j < i
      · have h1 : j < i + 1 := by omega
        simp [hl, h1]
      · have h1 : ¬ j < i + 1 := by omega
        simp [hl, h1]

theorem times_low {m : List Nat} {f : Nat → Nat} (h : Rep m f) (n : Nat) : ∀ i, i ≤ 32 → times m n i = f (n % 2 ^ i)
  | 0, _ => by rw [times, Nat.pow_zero, Nat.mod_one, h.zero]
  | i + 1, hi => by
    rw [times, times_low h n i (by omega), low_succ, h.add]
    congr 1
    split
    · exact h.col i (by omega)
    · exact h.zero.symm

theorem times_all {m : List Nat} {f : Nat → Nat} (h : Rep m f) {n : Nat} (hn : n < 4294967296) : times m n 32 = f n := by
  rw [times_low h n 32 (Nat.le_refl _), Nat.mod_eq_of_lt hn]

theorem pow_lt32 {i : Nat} (h : i < 32) : 2 ^ i < 4294967296 := Nat.pow_lt_pow_right (by decide) h

/-- A square. -/
theorem Rep.square {m m2 : List Nat} {f : Nat → Nat} (h : Rep m f) (hl : m2.length = 32) (hc : ∀ i, i < 32 → m2.getD i 0 = times m (m.getD i 0) 32) : Rep m2 (fun n => f (f n)) :=
  ⟨hl, fun i hi => by
    have hp := h.lt _ (pow_lt32 hi)
    rw [hc i hi, h.col i hi, times_all h hp], fun a b => by rw [h.add, h.add], fun n hn => h.lt _ (h.lt _ hn)⟩

theorem rep_thr {m : List Nat} (k : Nat) (hl : m.length = 32) (hc : ∀ i, i < 32 → m.getD i 0 = thr k (2 ^ i)) : Rep m (thr k) :=
  ⟨hl, hc, fun a b => thr_xor k a b, fun _ hn => thr_lt k hn⟩

theorem thr_twice (k n : Nat) : thr k (thr k n) = thr (2 * k) n := by rw [Nat.two_mul, thr_add]

theorem Rep.twice {m m2 : List Nat} {k : Nat} (h : Rep m (thr k)) (hl : m2.length = 32) (hc : ∀ i, i < 32 → m2.getD i 0 = times m (m.getD i 0) 32) : Rep m2 (thr (2 * k)) := by
  have := h.square hl hc
  simp only [thr_twice] at this
  exact this

/-- So many bits by halves: one round of the squares. -/
theorem halves (k n x : Nat) : thr (k * n) x = thr (2 * k * (n / 2)) (if n % 2 = 1 then thr k x else x) := by
  split
  · rw [← thr_add]
    congr 1
    have := Nat.div_add_mod n 2
    generalize n / 2 = q at *
    obtain rfl : n = 2 * q + 1 := by omega
    rw [Nat.mul_add, Nat.mul_one, Nat.add_comm, ← Nat.mul_assoc, Nat.mul_comm k 2]
  · congr 1
    have := Nat.div_add_mod n 2
    generalize n / 2 = q at *
    obtain rfl : n = 2 * q := by omega
    rw [← Nat.mul_assoc, Nat.mul_comm k 2]

/-- One bit of a text turned. -/
def flip (bs : List Nat) (p : Nat) : List Nat := bs.set (p / 8) (bs.getD (p / 8) 0 ^^^ 2 ^ (p % 8))

theorem flip_length (bs : List Nat) (p : Nat) : (flip bs p).length = bs.length := by simp [flip]

theorem flip_bs {bs : List Nat} (h : Bs bs) (p : Nat) : Bs (flip bs p) := by
  intro x hx
  unfold flip at hx
  rcases List.mem_or_eq_of_mem_set hx with hx | rfl
  · exact h x hx
  · have h1 : bs.getD (p / 8) 0 < 2 ^ 8 := by
      by_cases hl : p / 8 < bs.length
      · rw [List.getD_eq_getElem?_getD, List.getElem?_eq_getElem hl]
        exact h _ (List.getElem_mem hl)
      · rw [List.getD_eq_getElem?_getD, List.getElem?_eq_none (by omega)]
        decide
    exact Nat.xor_lt_two_pow (n := 8) h1 (Nat.pow_lt_pow_right (by decide) (Nat.mod_lt _ (by decide)))

theorem reg_flip : ∀ (bs : List Nat) (s p : Nat), p < 8 * bs.length → reg s (flip bs p) = reg s bs ^^^ thr (8 * bs.length - p) 1
  | [], _, _, h => by simp at h
  | x :: r, s, p, h => by
    by_cases hp : p < 8
    · have h0 : p / 8 = 0 := by omega
      have hm : p % 8 = p := by omega
      unfold flip
      rw [h0, hm, List.getD_cons_zero, List.set_cons_zero, reg_cons, reg_cons, ← Nat.xor_assoc, thr_xor]
      have e : thr 8 (2 ^ p) = thr (8 - p) 1 := by
        have := thr_pow p (8 - p)
        rw [show p + (8 - p) = 8 by omega] at this
        exact this
      rw [e, reg_split (thr 8 (s ^^^ x) ^^^ thr (8 - p) 1) r, reg_split (thr 8 (s ^^^ x)) r, thr_xor, ← thr_add (8 - p) (8 * r.length) 1, show 8 - p + 8 * r.length = 8 * (x :: r).length - p by simp only [List.length_cons]; omega]
      simp only [Nat.xor_assoc]
      congr 1
      exact Nat.xor_comm _ _
    · obtain ⟨q, rfl⟩ : ∃ q, p = q + 8 := ⟨p - 8, by omega⟩
      have e : flip (x :: r) (q + 8) = x :: flip r q := by
        unfold flip
        rw [show (q + 8) / 8 = q / 8 + 1 by omega, show (q + 8) % 8 = q % 8 by omega, List.getD_cons_succ, List.set_cons_succ]
      rw [e, reg_cons, reg_cons, reg_flip r _ q (by simp only [List.length_cons] at h; omega)]
      congr 2
      simp only [List.length_cons]
      omega

/-- The bits of a change that lie in a text, as far as the first i. -/
def within (change room : Nat) : Nat → Nat
  | 0 => 0
  | i + 1 => within change room i ^^^ (if change.testBit i = true ∧ i < room then 2 ^ i else 0)

theorem within_lt (change room : Nat) : ∀ i, within change room i < 2 ^ i
  | 0 => Nat.zero_lt_one
  | i + 1 => by
    have h := within_lt change room i
    rw [within]
    refine Nat.xor_lt_two_pow (Nat.lt_of_lt_of_le h (Nat.pow_le_pow_right (by decide) (by omega))) ?_
    split
    · exact Nat.pow_lt_pow_right (by decide) (by omega)
    · exact Nat.two_pow_pos _

/-- One bit more that has turned: it is there. -/
theorem within_turned {change room i : Nat} (h : change.testBit i = true ∧ i < room) : within change room (i + 1) ≠ 0 := by
  rw [within, if_pos h]
  intro e
  have h1 := xor_zero_iff e
  have h2 := within_lt change room i
  omega

theorem within_same {change room i : Nat} (h : ¬ (change.testBit i = true ∧ i < room)) : within change room (i + 1) = within change room i := by
  rw [within, if_neg h, Nat.xor_zero]

/-- A turned bit's share, by the number of the bits that have turned. -/
theorem thr_share {room i : Nat} (h : i < room) : thr room (2 ^ i) = thr (room - i) 1 := by
  have := thr_pow i (room - i)
  rw [show i + (room - i) = room by omega] at this
  exact this

/-- The text with one bit more turned. -/
theorem burst_step {bs xs : List Nat} {s from_ change i : Nat} (hl : xs.length = bs.length) (hf : from_ < 8 * bs.length) (h : reg s xs = reg s bs ^^^ thr (8 * bs.length - from_) (within change (8 * bs.length - from_) i))
    (hb : change.testBit i = true ∧ i < 8 * bs.length - from_) : reg s (flip xs (from_ + i)) = reg s bs ^^^ thr (8 * bs.length - from_) (within change (8 * bs.length - from_) (i + 1)) := by
  rw [reg_flip _ _ _ (by rw [hl]; omega), h, within, if_pos hb, thr_xor, thr_share hb.2, hl, Nat.xor_assoc, show 8 * bs.length - (from_ + i) = 8 * bs.length - from_ - i by omega]

/-- What has turned is told. -/
theorem burst_told {bs xs : List Nat} {s from_ change : Nat} (h : reg s xs = reg s bs ^^^ thr (8 * bs.length - from_) (within change (8 * bs.length - from_) 32)) :
    (reg s xs ^^^ ones ≠ reg s bs ^^^ ones) ↔ within change (8 * bs.length - from_) 32 ≠ 0 := by
  have hlt : within change (8 * bs.length - from_) 32 < 4294967296 := within_lt _ _ 32
  generalize within change (8 * bs.length - from_) 32 = v at *
  constructor
  · rintro hne rfl
    rw [thr_zero, Nat.xor_zero] at h
    exact hne (by rw [h])
  · intro hv e
    have e2 : reg s xs = reg s bs := by
      have := congrArg (· ^^^ ones) e
      simpa [xor_back] using this
    rw [e2] at h
    have h3 := congrArg (reg s bs ^^^ ·) h
    simp only [← Nat.xor_assoc, Nat.xor_self, Nat.zero_xor] at h3
    exact thr_ne _ hlt hv h3.symm

end Go.Proofs.Ytnkdgmnmmmjgjaa.Crc
