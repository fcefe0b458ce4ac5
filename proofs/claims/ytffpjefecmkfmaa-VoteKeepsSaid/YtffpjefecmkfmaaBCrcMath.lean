/-
  Checksums, as numbers: shifts with a polynomial, their sums, their squares, and bursts. No function of the program is named here. By an AI agent.
-/
import Derived.Test.YtffpjefecmkfmaaBGNats
namespace Go.Proofs.Ytffpjefecmkfmaa.Crc

def poly : Nat := 0x82f63b78
def ones : Nat := 0xffffffff

theorem xor4 (a b c d : Nat) : (a ^^^ b) ^^^ (c ^^^ d) = (a ^^^ c) ^^^ (b ^^^ d) := by
  rw [Nat.xor_assoc, Nat.xor_assoc, ← Nat.xor_assoc b c d, Nat.xor_comm b c, Nat.xor_assoc c b d]

/-- One bit is shifted out. -/
def sh (n : Nat) : Nat := if n % 2 = 1 then (n / 2) ^^^ poly else n / 2

theorem div_xor (a b : Nat) : (a ^^^ b) / 2 = a / 2 ^^^ b / 2 := by
  have h := Nat.shiftRight_xor_distrib (a := a) (b := b) (i := 1)
  simpa [Nat.shiftRight_eq_div_pow] using h

theorem mod_xor (a b : Nat) : (a ^^^ b) % 2 = (a % 2 + b % 2) % 2 := by
  have h := Nat.xor_mod_two_pow (a := a) (b := b) (n := 1)
  rw [Nat.pow_one] at h
  rw [h]
  rcases Nat.mod_two_eq_zero_or_one a with ha | ha <;> rcases Nat.mod_two_eq_zero_or_one b with hb | hb <;> rw [ha, hb] <;> rfl

theorem sh_xor (a b : Nat) : sh (a ^^^ b) = sh a ^^^ sh b := by
  unfold sh
  rw [div_xor, mod_xor]
  rcases Nat.mod_two_eq_zero_or_one a with ha | ha <;> rcases Nat.mod_two_eq_zero_or_one b with hb | hb <;> simp only [ha, hb] <;> simp
  · rw [Nat.xor_assoc]
  · rw [Nat.xor_assoc, Nat.xor_assoc, Nat.xor_comm poly]
  · rw [xor4, Nat.xor_self, Nat.xor_zero]

theorem sh_lt {n : Nat} (h : n < 4294967296) : sh n < 4294967296 := by
  unfold sh
  split
  · have h1 : n / 2 < 2 ^ 32 := by omega
    have h2 : poly < 2 ^ 32 := by decide
    exact Nat.xor_lt_two_pow h1 h2
  · omega

/-- So many bits are shifted out. -/
def thr : Nat → Nat → Nat
  | 0, n => n
  | k + 1, n => thr k (sh n)

theorem thr_xor : ∀ (k a b : Nat), thr k (a ^^^ b) = thr k a ^^^ thr k b
  | 0, _, _ => rfl
  | k + 1, a, b => by rw [thr, thr, thr, sh_xor, thr_xor k]

theorem thr_lt : ∀ (k : Nat) {n : Nat}, n < 4294967296 → thr k n < 4294967296
  | 0, _, h => h
  | k + 1, _, h => thr_lt k (sh_lt h)

theorem thr_add : ∀ (j k n : Nat), thr (j + k) n = thr k (thr j n)
  | 0, k, n => by rw [Nat.zero_add]; rfl
  | j + 1, k, n => by rw [show j + 1 + k = j + k + 1 by omega, thr, thr, thr_add j k]

theorem thr_succ (k n : Nat) : thr (k + 1) n = sh (thr k n) := by rw [thr_add k 1]; rfl

/-- The register behind bytes. -/
def reg (s : Nat) (bs : List Nat) : Nat := bs.foldl (fun n b => thr 8 (n ^^^ b)) s

theorem reg_snoc (s : Nat) (a : List Nat) (x : Nat) : reg s (a ++ [x]) = thr 8 (reg s a ^^^ x) := by simp [reg]

theorem byte_lt {b : Nat} (h : b < 256) : b < 2 ^ 32 := Nat.lt_trans h (by decide)

theorem reg_lt : ∀ {bs : List Nat} {s : Nat}, s < 4294967296 → Bs bs → reg s bs < 4294967296
  | [], _, h, _ => h
  | b :: r, _, h, hb => reg_lt (bs := r) (thr_lt 8 (Nat.xor_lt_two_pow (n := 32) h (byte_lt (hb b List.mem_cons_self)))) (fun x hx => hb x (List.mem_cons_of_mem _ hx))

/-- The checksum of what had the checksum s, and of bytes. -/
def more (s : Nat) (bs : List Nat) : Nat := reg (s ^^^ ones) bs ^^^ ones
def sum (bs : List Nat) : Nat := more 0 bs

theorem more_lt {s : Nat} {bs : List Nat} (hs : s < 4294967296) (hb : Bs bs) : more s bs < 4294967296 :=
  Nat.xor_lt_two_pow (n := 32) (reg_lt (Nat.xor_lt_two_pow (n := 32) hs (by decide)) hb) (by decide)

/-- Two pieces, put together. -/
def join (a b n : Nat) : Nat := thr (8 * n) a ^^^ b

/-- The matrix m is the function f, which is a sum of what it makes of the bits. -/
structure Rep (m : List Nat) (f : Nat → Nat) : Prop where
  len : m.length = 32
  col : ∀ i, i < 32 → m.getD i 0 = f (2 ^ i)
  add : ∀ a b, f (a ^^^ b) = f a ^^^ f b
  lt : ∀ n, n < 4294967296 → f n < 4294967296

theorem Rep.zero {m : List Nat} {f : Nat → Nat} (h : Rep m f) : f 0 = 0 := by
  have := h.add 0 0
  rw [Nat.xor_self] at this
  rw [this, Nat.xor_self]

/-- So many bits by halves: one round of the squares. -/
theorem halves (k n x : Nat) : thr (k * n) x = thr (2 * k * (n / 2)) (if n % 2 = 1 then thr k x else x) := by
  split
  · rw [← thr_add]
    congr 1
    have := Nat.div_add_mod n 2
    generalize n / 2 = q at *
    obtain rfl : n = 2 * q + 1 := by omega
    rw [Nat.mul_add, Nat.mul_one, Nat.add_comm, ← Nat.mul_assoc, Nat.mul_comm k 2]
  · congr 1
    have := Nat.div_add_mod n 2
    generalize n / 2 = q at *
    obtain rfl : n = 2 * q := by omega
    rw [← Nat.mul_assoc, Nat.mul_comm k 2]

/-- The bits of a change that lie in a text, as far as the first i. -/
def within (change room : Nat) : Nat → Nat
  | 0 => 0
  | i + 1 => within change room i ^^^ (if change.testBit i = true ∧ i < room then 2 ^ i else 0)

end Go.Proofs.Ytffpjefecmkfmaa.Crc
namespace Go.Proofs.Ytffpjefecmkfmaa
open Crc

/-- A superblock. -/
structure Sup where
  id : Nat
  ev : Nat
  safe : Nat
  role : Int
  m : Int
  c : Int
  t : Int
  ring : Int
  lazy : Bool
  lost : Bool
  st : List Int
  cur : Int

namespace Sup

/-- What its fields hold, whatever it is. -/
structure Fit (s : Sup) : Prop where
  id : s.id < 18446744073709551616
  ev : s.ev < 18446744073709551616
  safe : s.safe < 18446744073709551616
  role : -9223372036854775808 ≤ s.role ∧ s.role ≤ 9223372036854775807
  m : -9223372036854775808 ≤ s.m ∧ s.m ≤ 9223372036854775807
  c : -9223372036854775808 ≤ s.c ∧ s.c ≤ 9223372036854775807
  t : -9223372036854775808 ≤ s.t ∧ s.t ≤ 9223372036854775807
  ring : -9223372036854775808 ≤ s.ring ∧ s.ring ≤ 9223372036854775807
  cur : -9223372036854775808 ≤ s.cur ∧ s.cur ≤ 9223372036854775807
  st : By s.st

/-- How many are being rebuilt. -/
def many (st : List Int) : Nat := st.countP (· == 3)

def numbers (s : Sup) : Prop := 3 ≤ s.m ∧ s.m ≤ 16 ∧ 1 ≤ s.c ∧ s.c ≤ 16 ∧ 1 ≤ s.t ∧ s.t ≤ 256

def counts (s : Sup) : Prop := 1 ≤ s.ev ∧ s.ev ≤ 4611686018427387904 ∧ 1 ≤ s.safe ∧ s.safe ≤ s.ev ∧ 0 ≤ s.role ∧ s.role ≤ s.m ∧ 5 ≤ s.ring ∧ s.ring ≤ 2048 ∧ (s.st.length : Int) = s.m

def states (s : Sup) : Prop := ∀ x ∈ s.st, 1 ≤ x ∧ x ≤ 3

def done (s : Sup) : Prop := many s.st ≤ 1 ∧ 0 ≤ s.cur ∧ s.cur < s.t ∧ (many s.st = 0 → s.cur = 0)

/-- It is valid. -/
def Ok (s : Sup) : Prop := s.numbers ∧ s.counts ∧ s.states ∧ s.done

instance (s : Sup) : Decidable s.Ok := by unfold Ok numbers counts states done; infer_instance

/-- Two are of one array. -/
def akin (a b : Sup) : Bool := a.id == b.id && (a.m == b.m && a.c == b.c && a.t == b.t) && a.ring == b.ring && a.lazy == b.lazy

theorem akin_self (a : Sup) : a.akin a = true := by simp [akin]
theorem akin_comm (a b : Sup) : a.akin b = b.akin a := by
  unfold akin
  rw [Bool.eq_iff_iff]
  simp only [Bool.and_eq_true, beq_iff_eq]
  constructor <;> (rintro ⟨⟨⟨h1, ⟨h2, h3⟩, h4⟩, h5⟩, h6⟩; exact ⟨⟨⟨h1.symm, ⟨h2.symm, h3.symm⟩, h4.symm⟩, h5.symm⟩, h6.symm⟩)
end Sup

/-- The n lowest bytes of a number, the lowest first. -/
def low : Nat → Nat → List Nat
  | 0, _ => []
  | n + 1, v => v % 256 :: low n (v / 256)

theorem low_length : ∀ n v, (low n v).length = n
  | 0, _ => rfl
  | n + 1, v => by simp [low, low_length n]

theorem low_bs : ∀ n v, Bs (low n v)
  | 0, _ => by intro b hb; cases hb
  | n + 1, v => by
    intro b hb
    rcases List.mem_cons.1 hb with rfl | hb
    · exact Nat.mod_lt _ (by decide)
    · exact low_bs n _ b hb

namespace Sup

def flags (s : Sup) : Nat := (if s.lazy then 1 else 0) + (if s.lost then 2 else 0)

/-- The bytes ahead of the states. -/
def head (s : Sup) : List Nat :=
  [83, 80, 83, 66, 1, 0, 0, 0] ++ low 8 s.id ++ low 8 s.ev ++ low 8 s.safe ++ [s.role.toNat % 256, s.m.toNat % 256, s.c.toNat % 256, s.flags] ++ low 2 s.t.toNat ++ low 2 s.ring.toNat ++ low 4 s.cur.toNat

/-- The bytes that the checksum is of. -/
def body (s : Sup) : List Nat := s.head ++ nats s.st ++ List.replicate (80 - s.st.length) 0

/-- The sector. -/
def sector (s : Sup) : List Nat := s.body ++ low 4 (sum s.body)

theorem head_length (s : Sup) : s.head.length = 44 := by simp [head, low_length]

theorem body_length {s : Sup} (h : s.st.length ≤ 80) : s.body.length = 124 := by
  simp [body, head_length, nats_length]
  omega

theorem sector_length {s : Sup} (h : s.st.length ≤ 80) : s.sector.length = 128 := by
  rw [sector, List.length_append, body_length h, low_length]

end Sup
end Go.Proofs.Ytffpjefecmkfmaa
namespace Go.Proofs.Ytffpjefecmkfmaa
open Crc

/-- A number of bytes, the lowest first. -/
def val : List Nat → Nat
  | [] => 0
  | b :: bs => b + 256 * val bs

/-- A number within bytes. -/
def rd (b : List Nat) (at_ n : Nat) : Nat := val ((b.drop at_).take n)

namespace Crc

end Crc

/-- A record: its kind, epoch, number, and the fields of its kind. -/
structure Rec where
  kind : Nat
  ep : Nat
  sq : Nat
  fs : List Nat

namespace Rec

def tail (fs : List Nat) : List Nat := fs.flatMap (low 4)

theorem tail_length (fs : List Nat) : (tail fs).length = 4 * fs.length := by
  induction fs with
  | nil => rfl
  | cons f fs ih =>
    show (low 4 f ++ tail fs).length = _
    rw [List.length_append, low_length, ih, List.length_cons]
    omega

def begun (r : Rec) : List Nat := [83, 80, 74, 76] ++ low 4 r.kind ++ low 8 r.ep ++ low 8 r.sq

theorem begun_length (r : Rec) : r.begun.length = 24 := by simp [begun, low_length]

/-- The bytes that the checksum is of. -/
def body (r : Rec) : List Nat := r.begun ++ tail r.fs ++ List.replicate (100 - 4 * r.fs.length) 0

/-- The sector. -/
def sector (r : Rec) : List Nat := r.body ++ low 4 (sum r.body)

theorem body_length {r : Rec} (h : r.fs.length ≤ 25) : r.body.length = 124 := by
  rw [body, List.length_append, List.length_append, begun_length, tail_length, List.length_replicate]
  omega

theorem sector_length {r : Rec} (h : r.fs.length ≤ 25) : r.sector.length = 128 := by
  rw [sector, List.length_append, body_length h, low_length]

theorem tail_bs (fs : List Nat) : Bs (tail fs) := fun x hx => by
  obtain ⟨f, _, hf⟩ := List.mem_flatMap.1 hx
  exact low_bs 4 f x hf

theorem body_bs (r : Rec) : Bs r.body := fun x hx => by
  unfold body begun at hx
  simp only [List.mem_append] at hx
  rcases hx with ((((hx | hx) | hx) | hx) | hx) | hx
  · simp only [List.mem_cons, List.not_mem_nil, or_false] at hx; omega
  · exact low_bs 4 _ x hx
  · exact low_bs 8 _ x hx
  · exact low_bs 8 _ x hx
  · exact tail_bs _ x hx
  · rw [(List.mem_replicate.1 hx).2]; decide

theorem sector_bs (r : Rec) : Bs r.sector := fun x hx => by
  rcases List.mem_append.1 hx with hx | hx
  · exact r.body_bs x hx
  · exact low_bs 4 _ x hx

end Rec
end Go.Proofs.Ytffpjefecmkfmaa
namespace Go.Proofs.Ytffpjefecmkfmaa
open Crc

def numsOk (ep sq : Nat) : Prop := ep ≤ 4611686018427387904 ∧ 1 ≤ sq ∧ sq ≤ 4611686018427387904
instance (ep sq : Nat) : Decidable (numsOk ep sq) := by unfold numsOk; infer_instance

/-- A header. -/
structure Hd where
  ep : Nat
  sq : Nat
  ix : Int
  ct : Int
  mb : Int
  rw' : Int
  esc : Bool
  sm : Nat

/-- A commit. -/
structure Cm where
  ep : Nat
  sq : Nat
  ct : Int
  sm : Nat

/-- A checkpoint. -/
structure Ck where
  ep : Nat
  sq : Nat
  tl : Int

namespace Hd
def Ok (h : Hd) : Prop := numsOk h.ep h.sq ∧ 1 ≤ h.ct ∧ h.ct ≤ 1023 ∧ 0 ≤ h.ix ∧ h.ix < h.ct ∧ 0 ≤ h.mb ∧ h.mb ≤ 15 ∧ 0 ≤ h.rw' ∧ h.rw' ≤ 4095
instance (h : Hd) : Decidable h.Ok := by unfold Ok; infer_instance
def val (h : Hd) : Value := .agg #[.int .u64 (h.ep : Int), .int .u64 (h.sq : Int), .int .i64 h.ix, .int .i64 h.ct, .int .i64 h.mb, .int .i64 h.rw', .bool h.esc, .int .u32 (h.sm : Int)]
def rec' (h : Hd) : Rec := ⟨1, h.ep, h.sq, [h.ix.toNat, h.ct.toNat, h.mb.toNat, h.rw'.toNat, if h.esc then 1 else 0, h.sm]⟩
def enc (h : Hd) : List Nat := if h.Ok then h.rec'.sector else []
def err (h : Hd) : Int := if h.Ok then 0 else 80
end Hd

namespace Cm
def Ok (h : Cm) : Prop := numsOk h.ep h.sq ∧ 1 ≤ h.ct ∧ h.ct ≤ 1023
instance (h : Cm) : Decidable h.Ok := by unfold Ok; infer_instance
def val (h : Cm) : Value := .agg #[.int .u64 (h.ep : Int), .int .u64 (h.sq : Int), .int .i64 h.ct, .int .u32 (h.sm : Int)]
def rec' (h : Cm) : Rec := ⟨2, h.ep, h.sq, [h.ct.toNat, h.sm]⟩
def enc (h : Cm) : List Nat := if h.Ok then h.rec'.sector else []
def err (h : Cm) : Int := if h.Ok then 0 else 80
end Cm

namespace Ck
def Ok (h : Ck) : Prop := numsOk h.ep h.sq ∧ 0 ≤ h.tl ∧ h.tl ≤ 2047
instance (h : Ck) : Decidable h.Ok := by unfold Ok; infer_instance
def val (h : Ck) : Value := .agg #[.int .u64 (h.ep : Int), .int .u64 (h.sq : Int), .int .i64 h.tl]
def rec' (h : Ck) : Rec := ⟨3, h.ep, h.sq, [h.tl.toNat]⟩
def enc (h : Ck) : List Nat := if h.Ok then h.rec'.sector else []
def err (h : Ck) : Int := if h.Ok then 0 else 80
end Ck

/-- A part of bytes. -/
def cut (b : List Nat) (at_ n : Nat) : List Nat := (b.drop at_).take n

theorem cut_add (b : List Nat) (at_ n m : Nat) : cut b at_ (n + m) = cut b at_ n ++ cut b (at_ + n) m := by
  unfold cut
  rw [List.take_add, List.drop_drop]

theorem cut_all {b : List Nat} {n : Nat} (h : b.length = n) : cut b 0 n = b := by
  unfold cut
  rw [List.drop_zero, ← h, List.take_length]

theorem cut_zero (b : List Nat) (n : Nat) : cut b 0 n = b.take n := by simp [cut]

/-- The parts of a sector. -/
theorem parts {b : List Nat} (hl : b.length = 128) (n : Nat) (hn : n ≤ 100) : b.take 124 = b.take 4 ++ cut b 4 4 ++ cut b 8 8 ++ cut b 16 8 ++ cut b 24 n ++ cut b (24 + n) (100 - n) ∧ b = b.take 124 ++ cut b 124 4 := by
  have e : b.take 124 = cut b 0 124 := (cut_zero b 124).symm
  constructor
  · rw [e, show (124 : Nat) = 4 + (4 + (8 + (8 + (n + (100 - n))))) by omega, cut_add, cut_add, cut_add, cut_add, cut_add, cut_zero]
    simp [List.append_assoc]
  · conv => lhs; rw [← cut_all hl, show (128 : Nat) = 124 + 4 from rfl, cut_add]
    rw [e]

def Hd.zero : Hd := ⟨0, 0, 0, 0, 0, 0, false, 0⟩
def Cm.zero : Cm := ⟨0, 0, 0, 0⟩
def Ck.zero : Ck := ⟨0, 0, 0⟩

end Go.Proofs.Ytffpjefecmkfmaa
