/-
  The journal: Open. By an AI agent.
-/
import Derived.Test.YtkafkdlgflkjgaaGreatBWlFmt
import Derived.Test.YtkafkdlgflkjgaaGreatBRcPDecs
namespace Go.Proofs.YtkafkdlgflkjgaaGreat
open Go.RowKit Go.Maps Crc

theorem Bay.read_len {y : Bay} (hf : y.Fit) {s at_ : Int} (h : y.readErr s at_ = 0) : (y.readVal s at_).length = 128 ∧ Bs (y.readVal s at_) := by
 unfold readErr at h
 split at h
 ·rename_i h0
  obtain ⟨h1, _, _, d, hd, ha⟩ := startErr_ok h0
  have hfd : d.disk.Fit ∧ ∀ n, d.wear = some n → n ≤ 9223372036854775807 := by
   unfold dev at hd
   rw [if_pos h1] at hd
   cases hx : y.slots[s.toNat]? with
   | none => rw [hx] at hd; cases hd
   | some x =>
     rw [hx] at hd
     exact (hf.slot hx).devs d (.inl hd)
  have hfs := (Dev.step_fit hfd).1
  unfold readVal
  rw [if_pos h0]
  rw [ha] at h ⊢
  have hhas : d.step.disk.has at_ := by
   unfold Dk.check at h
   split at h
   ·cases h
   ·split at h
    ·assumption
    ·cases h
  unfold Dk.readVal
  rw [if_pos h]
  exact Dk.now_len hfs (by have := hhas.1; have := hhas.2; omega)
 ·rename_i h0
  exact absurd h h0

theorem rdV_len {y : Bay} (hf : y.Fit) {s at_ : Int} {br : Nat} (h : (Wl.rd s (y, br) at_).2 = 0) : (Wl.rdV s (y, br) at_).length = 128 ∧ Bs (Wl.rdV s (y, br) at_) := by
 by_cases h0 : br = 0
 ·subst h0
  unfold Wl.rd at h
  unfold Wl.rdV
  rw [if_pos rfl] at h ⊢
  exact Bay.read_len hf h
 ·unfold Wl.rd at h
  rw [if_neg h0] at h
  exact absurd h h0

theorem rdV_le {y : Bay} (hf : y.Fit) (s at_ : Int) (br : Nat) : (Wl.rdV s (y, br) at_).length ≤ 128 ∧ Bs (Wl.rdV s (y, br) at_) := by
 by_cases h : (Wl.rd s (y, br) at_).2 = 0
 ·obtain ⟨h1, h2⟩ := rdV_len hf h
  exact ⟨by omega, h2⟩
 ·have e : Wl.rdV s (y, br) at_ = [] := by
   unfold Wl.rd at h
   unfold Wl.rdV
   by_cases h0 : br = 0
   ·rw [if_pos h0] at h ⊢
    have h' : y.readErr s at_ ≠ 0 := h
    unfold Bay.readErr at h'
    unfold Bay.readVal
    by_cases q : y.startErr s = 0
    ·rw [if_pos q] at h' ⊢
     unfold Dk.readVal
     rw [if_neg h']
    ·rw [if_neg q]
   ·rw [if_neg h0]
  rw [e]
  exact ⟨Nat.zero_le _, fun x hx => by cases hx⟩

/-- The row that is read so far. -/
def Rdn (s : Int) (io : Wl.Io) (k : Nat) : Prop := ((Wl.rds s io k).2.length ≤ 128 * k ∧ Bs (Wl.rds s io k).2) ∧ ((Wl.rds s io k).1.2 = 0 → (Wl.rds s io k).2.length = 128 * k)

theorem Rdn.zero (s : Int) (io : Wl.Io) : Rdn s io 0 := ⟨⟨Nat.le_refl _, fun x hx => by cases hx⟩, fun _ => rfl⟩

theorem Rdn.next {s : Int} {io : Wl.Io} {k : Nat} (h : Rdn s io k) (hf : (Wl.rds s io k).1.1.Fit) : Rdn s io (k + 1) := by
 obtain ⟨⟨a1, a2⟩, a3⟩ := h
 obtain ⟨c1, c2⟩ : (Wl.rdV s (Wl.rds s io k).1 ((2 + k : Nat) : Int)).length ≤ 128 ∧ Bs (Wl.rdV s (Wl.rds s io k).1 ((2 + k : Nat) : Int)) := rdV_le hf s _ (Wl.rds s io k).1.2
 refine ⟨⟨?_, fun x hx => ?_⟩, fun h0 => ?_⟩
 ·show ((Wl.rds s io k).2 ++ Wl.rdV s (Wl.rds s io k).1 ((2 + k : Nat) : Int)).length ≤ _
  rw [List.length_append]
  omega
 ·rcases List.mem_append.1 (show x ∈ (Wl.rds s io k).2 ++ Wl.rdV s (Wl.rds s io k).1 ((2 + k : Nat) : Int) from hx) with q | q
  ·exact a2 x q
  ·exact c2 x q
 ·have h1 : (Wl.rd s (Wl.rds s io k).1 ((2 + k : Nat) : Int)).2 = 0 := h0
  have h2 : (Wl.rds s io k).1.2 = 0 := by
   by_cases q : (Wl.rds s io k).1.2 = 0
   ·exact q
   ·unfold Wl.rd at h1
    rw [if_neg q] at h1
    exact h1
  have b1 : (Wl.rdV s (Wl.rds s io k).1 ((2 + k : Nat) : Int)).length = 128 := (rdV_len (br := (Wl.rds s io k).1.2) hf h1).1
  show ((Wl.rds s io k).2 ++ Wl.rdV s (Wl.rds s io k).1 ((2 + k : Nat) : Int)).length = _
  rw [List.length_append, a3 h2, b1]
  omega

/-- A row of bytes is grown by another's. -/
theorem Side.growRow {w0 w1 wn : World} {t : TypeId} {v vn u : Value} {ys zs : List Nat} {ts : List Thing} (H : Side w0 w1 (ownT 5 v (ub ys) :: ownT t u (ub zs) :: ts))
 (own : wn.ownsRow 0 5 1 vn (ys.length + (ints zs).length) ((ints ys).map (Value.int .u8) ++ (ints zs).map (Value.int .u8))) (hg : w1.grownBy wn v.ownBlock) (hb : vn.ownBlock = v.ownBlock ∨ (vn.ownBlock = some w1.heap.size ∧ w1.grownBy wn none)) :
 Side w0 wn (ownT 5 vn (ub (ys ++ zs)) :: ts) := by
 have x := ext_of_sl own hg hb
 have h1 : Side w0 w1 (ownT 5 v (ub ys) :: ts) := H.sub (.cons_cons _ (.cons _ (List.Sublist.refl _)))
 refine h1.turn x.chg (fun k hk => .inl hk) (show wn.ownsRow 0 5 1 vn (ub (ys ++ zs)).length (ub (ys ++ zs)) from by
  have hl : (ub (ys ++ zs)).length = (ys ++ zs).length := by unfold ub; rw [List.length_map, ints_length]
  rw [hl]
  exact x.own) (fun k hk => ?_)
 have hk2 : vn.ownBlock = some k := by simpa [ownT] using hk
 rcases x.blk with e | ⟨q, e, hq⟩
 ·left
  rw [e] at hk2
  simp [ownT, hk2]
 ·right
  rw [e] at hk2
  obtain rfl : q = k := Option.some.inj hk2
  exact hq

/-- What Open comes to. -/
def Opnd (w0 : World) (b : Nat) (y : Bay) (s : Int) (ring : Int) (ts : List Thing) (e : Ending) (w' : World) : Prop :=
 (¬ (5 ≤ ring ∧ ring ≤ 2048) ∧ e = .returned (.tuple #[.pointer none, .slice none 0 0, .int .u16 1]) ∧ ∃ F', Hid (Side w0 w' (BayT b y F' :: ts))) ∨
 ∃ n : Nat, ring = n ∧ 5 ≤ n ∧ n ≤ 2048 ∧
   (((Wl.rd s (y, 0) 1).2 ≠ 0 ∧ e = .returned (.tuple #[.pointer none, .slice none 0 0, .int .u16 ((Wl.rd s (y, 0) 1).2 : Nat)]) ∧ ∃ F', Hid (Side w0 w' (BayT b (Wl.rd s (y, 0) 1).1 F' :: ts))) ∨
   ((Wl.rd s (y, 0) 1).2 = 0 ∧ (Ck.derr (Wl.rdV s (y, 0) 1) ≠ 0 ∨ (n : Int) ≤ (Ck.dval (Wl.rdV s (y, 0) 1)).tl) ∧ e = .returned (.tuple #[.pointer none, .slice none 0 0, .int .u16 120]) ∧ ∃ F', Hid (Side w0 w' (BayT b (Wl.rd s (y, 0) 1).1 F' :: ts))) ∨
   ((Wl.rd s (y, 0) 1).2 = 0 ∧ Ck.derr (Wl.rdV s (y, 0) 1) = 0 ∧ (Ck.dval (Wl.rdV s (y, 0) 1)).tl < n ∧
     (((Wl.rds s (Wl.rd s (y, 0) 1) n).1.2 ≠ 0 ∧ e = .returned (.tuple #[.pointer none, .slice none 0 0, .int .u16 ((Wl.rds s (Wl.rd s (y, 0) 1) n).1.2 : Nat)]) ∧ ∃ F', Hid (Side w0 w' (BayT b (Wl.rds s (Wl.rd s (y, 0) 1) n).1.1 F' :: ts))) ∨
     ((Wl.rds s (Wl.rd s (y, 0) 1) n).1.2 = 0 ∧ ∃ W D R tv T u F', Sc.Done (Wl.rds s (Wl.rd s (y, 0) 1) n).2 (Ck.dval (Wl.rdV s (y, 0) 1)).ep (Ck.dval (Wl.rdV s (y, 0) 1)).tl.toNat (Ck.dval (Wl.rdV s (y, 0) 1)).sq (found T) u ∧
       e = .returned (.tuple #[.pointer (some ⟨W, 0, none⟩), tv, .int .u16 0]) ∧
       Hid (Side w0 w' (jts b W D R (Wl.begun s n (Ck.dval (Wl.rdV s (y, 0) 1)) u ((Ck.dval (Wl.rdV s (y, 0) 1)).sq + T.length)) (.slice none 0 0) (Wl.rds s (Wl.rd s (y, 0) 1) n).1.1 F' (wideT 2 92 tv (txSlots (Ck.dval (Wl.rdV s (y, 0) 1)).sq T) :: poolWT 3 105 (listsOf T) :: poolT (dataOf T) :: ts)))))))

theorem ub_length (bs : List Nat) : (ub bs).length = bs.length := by unfold ub; rw [List.length_map, ints_length]

/-- One place of the ring is read. -/
theorem open_round {w0 wr : World} {b D k : Nat} {F' : List Nat} {s : Int} {io : Wl.Io} {pv : Value} {QT : List Thing} (h : Side w0 wr (ownT 5 pv (ub (Wl.rds s io k).2) :: dts b D s (Wl.rds s io k).1 F' QT)) (hs : I64 s) (low : io.1.Low 999990001) (hk : k < 2048) (hd : Rdn s io k) :
 Calls Tryz.prog 115 #[.pointer (some ⟨D, 0, none⟩), .int .i64 ((2 + k : Nat) : Int)] wr fun e w' => ∃ uo uc zs, zs = Wl.rdV s (Wl.rds s io k).1 ((2 + k : Nat) : Int) ∧ e = .returned (.slice uo zs.length uc) ∧ Hid (Rdn s io (k + 1)) ∧ Hid (zs.length ≤ 128) ∧
  Hid (w'.ownsRow 0 5 1 pv (Wl.rds s io k).2.length (ub (Wl.rds s io k).2)) ∧ Hid (Sl w' (.slice uo zs.length uc) (ints zs)) ∧ ∃ t F'', Hid (Side w0 w' (ownT 5 pv (ub (Wl.rds s io k).2) :: ownT t (.slice uo zs.length uc) (ub zs) :: dts b D s (Wl.rds s io (k + 1)).1 F'' QT)) := by
 have hf : (Wl.rds s io k).1.1.Fit := (h.get 1 rfl : BayIn wr b F' _).fit
 have h1 : Side w0 wr (dts b D s (Wl.rds s io k).1 F' (ownT 5 pv (ub (Wl.rds s io k).2) :: QT)) := h.perm (by
  show ([_] ++ ([_, _] ++ QT)).Perm ([_, _] ++ ([_] ++ QT))
  rw [← List.append_assoc, ← List.append_assoc]
  exact List.Perm.append_right _ List.perm_append_comm)
 have hz := (rdV_le hf s ((2 + k : Nat) : Int) (Wl.rds s io k).1.2).1
 refine (dvread_any h1 hs _ ⟨by omega, by omega⟩ ((Wl.rds_low low k).mono (by omega))).mono ?_
 rintro e w' ⟨u, h2, t, F'', h3⟩
 have o : w'.ownsRow 0 t 1 u (ub (Wl.rdV s (Wl.rds s io k).1 ((2 + k : Nat) : Int))).length (ub (Wl.rdV s (Wl.rds s io k).1 ((2 + k : Nat) : Int))) := h3.out.get 0 rfl
 have sl : Sl w' u (ints (Wl.rdV s (Wl.rds s io k).1 ((2 + k : Nat) : Int))) := Sl.owned o
 obtain ⟨uo, uc, rfl⟩ := owns_slice o
 rw [ub_length] at h2 h3 sl
 have op : w'.ownsRow 0 5 1 pv (ub (Wl.rds s io k).2).length (ub (Wl.rds s io k).2) := h3.out.get 3 rfl
 rw [ub_length] at op
 refine ⟨uo, uc, _, rfl, h2, hd.next hf, hz, op, sl, t, F'', h3.out.perm ?_⟩
 show ([_] ++ ([_, _] ++ ([_] ++ QT))).Perm ([_] ++ ([_] ++ ([_, _] ++ QT)))
 refine (List.perm_append_comm_assoc _ _ _).trans ?_
 refine (List.Perm.append_left _ (List.perm_append_comm_assoc _ _ _)).trans ?_
 refine (List.perm_append_comm_assoc _ _ _).trans ?_
 exact List.Perm.append_left _ (List.perm_append_comm_assoc _ _ _)

/-- What stands behind the scan: the device, what was found, what was read, the checkpoint. -/
abbrev ots (b D : Nat) (s : Int) (io : Wl.Io) (F : List Nat) (pf pc : Nat) (ck : Ck) (tv pv : Value) (nx us : Nat) (hd : Int) (T : List Tx) (bs : List Nat) (x : Thing) (ts : List Thing) : List Thing :=
 BayT b io.1 F :: devT D b s io.2 :: blkT pf 120 [tv, .int .u64 (nx : Int), .int .i64 hd, .int .i64 (us : Int)] :: wideT 2 92 tv (txSlots ck.sq T) :: poolWT 3 105 (listsOf T) :: poolT (dataOf T) :: ownT 5 pv (ub bs) :: blkT pc 110 [.int .u64 (ck.ep : Int), .int .u64 (ck.sq : Int), .int .i64 ck.tl] :: x :: ts

theorem ck_ok_of {b : List Nat} (h : Ck.derr b = 0) : (Ck.dval b).Ok := by
 unfold Ck.dval
 rw [if_pos h]
 unfold Ck.derr at h
 by_cases q : lookOf 3 b = 0
 ·rw [if_neg (fun k => k q)] at h
  by_cases q2 : (Ck.of b).Ok ∧ (Ck.of b).rec'.sector = b
  ·exact q2.1
  ·rw [if_neg q2] at h; cases h
 ·rw [if_pos q] at h; exact absurd h q

theorem open_of {w0 wr : World} {b D n t pc : Nat} {F1 : List Nat} {s : Int} {io : Wl.Io} {ck : Ck} {pv : Value} {bs : List Nat} {x : Thing} {ts : List Thing}
 (H : Side w0 wr (ownT 5 pv (ub bs) :: dts b D s io F1 (blkT pc 110 [.int .u64 (ck.ep : Int), .int .u64 (ck.sq : Int), .int .i64 ck.tl] :: x :: ts))) (hbs : Bs bs) (hlen : bs.length = 128 * n) (n5 : 5 ≤ n) (n2 : n ≤ 2048) (hok : ck.Ok) (ht : ck.tl = t) (htn : t < n) :
 (∃ g cap, pv = .slice (some ⟨g, 0, none⟩) (128 * n) cap) ∧ Hid (Calls Tryz.prog 117 #[pv, .agg #[.int .u64 (ck.ep : Int), .int .u64 (ck.sq : Int), .int .i64 ck.tl]] wr fun e w' => ∃ tO tN tC T u hd, Sc.Done bs ck.ep ck.tl.toNat ck.sq (found T) u ∧ u ≤ n ∧
  e = .returned (.tuple #[.agg #[.slice tO tN tC, .int .u64 ((ck.sq + T.length : Nat) : Int), .int .i64 hd, .int .i64 (u : Int)], .int .u16 0]) ∧
  Hid (Side w0 (w'.alloc (.cells #[.slice tO tN tC, .int .u64 ((ck.sq + T.length : Nat) : Int), .int .i64 hd, .int .i64 (u : Int)] 120)) (ots b D s io F1 w'.heap.size pc ck (.slice tO tN tC) pv (ck.sq + T.length) u hd T bs x ts))) := by
 have o : wr.ownsRow 0 5 1 pv (ub bs).length (ub bs) := H.get 0 rfl
 have hul : (ub bs).length = 128 * n := by rw [ub_length, hlen]
 rw [hul] at o
 obtain ⟨g, cap, rfl, _⟩ := own_some o (by omega)
 refine ⟨⟨g, cap, rfl⟩, ?_⟩
 have sl : Sl wr (.slice (some ⟨g, 0, none⟩) (128 * n) cap) (ints bs) := Sl.owned o
 obtain ⟨ep, sq, tl⟩ := ck
 obtain rfl : tl = (t : Int) := ht
 have ok : OfOk n ep sq t bs := ⟨hlen, n5, n2, hok, htn⟩
 show Calls _ _ _ _ _
 refine (of_ok ok hbs g 0 cap wr (owned_capd o _ _ _ rfl) (o.lt g rfl).2 sl).mono ?_
 rintro e w' ⟨tv, T, u, hD, h1, h2⟩
 have o2 : OwnW 2 w' 0 92 tv (txSlots sq T) := h2.out.get 0 rfl
 obtain ⟨tO, tC, rfl⟩ := o2.slice
 have hu : u ≤ n := by have := hD.1.fits; rw [hlen] at this; omega
 refine ⟨tO, _, tC, T, u, ((t + u) % n : Nat), by rw [Int.toNat_natCast]; exact hD, hu, h1, ?_⟩
 have h3 := ((H.stack h2.out).newBlk 120 [.slice tO (txSlots sq T).length tC, .int .u64 ((sq + T.length : Nat) : Int), .int .i64 (((t + u) % n : Nat) : Int), .int .i64 (u : Int)])
 refine h3.perm ?_
 show ([_, _, _, _, _] ++ ([_, _] ++ ([_, _] ++ ts))).Perm ([_, _] ++ ([_, _, _, _, _] ++ ([_, _] ++ ts)))
 exact List.perm_append_comm_assoc _ _ _

/-- The cells of the checkpoint and of what was found. -/
def OcS (w' : World) (pf pc : Nat) (ck : Ck) (tv : Value) (nx hd us : Int) : Prop :=
 (w'.cell? ⟨pc, 0, none⟩ = some (.int .u64 (ck.ep : Int)) ∧ w'.cell? ⟨pc, 1, none⟩ = some (.int .u64 (ck.sq : Int)) ∧ w'.cell? ⟨pc, 2, none⟩ = some (.int .i64 ck.tl)) ∧
 w'.cell? ⟨pf, 0, none⟩ = some tv ∧ w'.cell? ⟨pf, 1, none⟩ = some (.int .u64 nx) ∧ w'.cell? ⟨pf, 2, none⟩ = some (.int .i64 hd) ∧ w'.cell? ⟨pf, 3, none⟩ = some (.int .i64 us)

theorem ots_cells {w0 w' : World} {b D pf pc nx us : Nat} {s hd : Int} {io : Wl.Io} {F : List Nat} {ck : Ck} {tv pv : Value} {T : List Tx} {bs : List Nat} {x : Thing} {ts : List Thing} (h : Side w0 w' (ots b D s io F pf pc ck tv pv nx us hd T bs x ts)) : OcS w' pf pc ck tv (nx : Int) hd (us : Int) := by
 have B : Blk w' pc 110 [.int .u64 (ck.ep : Int), .int .u64 (ck.sq : Int), .int .i64 ck.tl] := h.get 7 rfl
 have C : Blk w' pf 120 [tv, .int .u64 (nx : Int), .int .i64 hd, .int .i64 (us : Int)] := h.get 2 rfl
 exact ⟨⟨B.cell (j := 0) rfl, B.cell (j := 1) rfl, B.cell (j := 2) rfl⟩, C.cell (j := 0) rfl, C.cell (j := 1) rfl, C.cell (j := 2) rfl, C.cell (j := 3) rfl⟩

theorem open_begin {w0 w6 : World} {b D pf pc n u : Nat} {s hd : Int} {io : Wl.Io} {F : List Nat} {ck : Ck} {tv pv : Value} {T : List Tx} {bs : List Nat} {x : Thing} {ts : List Thing} (h : Side w0 w6 (ots b D s io F pf pc ck tv pv (ck.sq + T.length) u hd T bs x ts)) (h0 : io.2 = 0) (htv : ∃ to' tn tc, tv = .slice to' tn tc)
 (n5 : 5 ≤ n) (n2 : n ≤ 2048) (ht : ∃ t : Nat, ck.tl = t) (htn : ck.tl < n) (hu : u ≤ n) :
 Calls Tryz.prog 54 #[.pointer (some ⟨D, 0, none⟩), .int .i64 (n : Int), .agg #[.int .u64 (ck.ep : Int), .int .u64 (ck.sq : Int), .int .i64 ck.tl], .agg #[tv, .int .u64 ((ck.sq + T.length : Nat) : Int), .int .i64 hd, .int .i64 (u : Int)]] w6 fun e w' => ∃ W, e = .returned (.pointer (some ⟨W, 0, none⟩)) ∧ Hid (OcS w' pf pc ck tv ((ck.sq + T.length : Nat) : Int) hd (u : Int)) ∧
  ∃ R, Hid (Side w0 w' (jts b W D R (Wl.begun s n ck u (ck.sq + T.length)) (.slice none 0 0) io.1 F (wideT 2 92 tv (txSlots ck.sq T) :: poolWT 3 105 (listsOf T) :: poolT (dataOf T) :: ts))) := by
 have h1 : Side w0 w6 (BayT b io.1 F :: devT D b s 0 :: blkT pf 120 [tv, .int .u64 ((ck.sq + T.length : Nat) : Int), .int .i64 hd, .int .i64 (u : Int)] :: wideT 2 92 tv (txSlots ck.sq T) :: poolWT 3 105 (listsOf T) :: poolT (dataOf T) :: ownT 5 pv (ub bs) :: blkT pc 110 [.int .u64 (ck.ep : Int), .int .u64 (ck.sq : Int), .int .i64 ck.tl] :: x :: ts) := by
  have := h
  unfold ots at this
  rw [h0] at this
  exact this
 obtain ⟨ep, sq, tl⟩ := ck
 obtain ⟨t, htt⟩ := ht
 have htl : tl = (t : Int) := htt
 subst htl
 refine (begin_j (c := ⟨ep, sq, (t : Int)⟩) h1 ⟨t, rfl⟩ ⟨n5, n2, by show (t : Int).toNat < n; have : (t : Int) < n := htn; omega, hu⟩ htv).mono ?_
 rintro e w' ⟨W, R, h2, h3⟩
 have B : Blk w' pc 110 [.int .u64 (ep : Int), .int .u64 (sq : Int), .int .i64 (t : Int)] := h3.out.get 10 rfl
 have C : Blk w' pf 120 [tv, .int .u64 ((sq + T.length : Nat) : Int), .int .i64 hd, .int .i64 (u : Int)] := h3.out.get 5 rfl
 refine ⟨W, h2, ⟨⟨B.cell (j := 0) rfl, B.cell (j := 1) rfl, B.cell (j := 2) rfl⟩, C.cell (j := 0) rfl, C.cell (j := 1) rfl, C.cell (j := 2) rfl, C.cell (j := 3) rfl⟩, R, ?_⟩
 exact h3.out.sub (.cons_cons _ (.cons_cons _ (.cons_cons _ (.cons_cons _ (.cons_cons _ (.cons _ (.cons_cons _ (.cons_cons _ (.cons_cons _ (.cons _ (.cons _ (.cons _ (List.Sublist.refl _)))))))))))))

set_option maxHeartbeats 4000000 in
set_option maxRecDepth 100000 in
theorem wopen_any {w0 w : World} {b : Nat} {y : Bay} {F : List Nat} {ts : List Thing} (H : Side w0 w (BayT b y F :: ts)) (s ring : Int) (hs : I64 s) (hr : I64 ring) (hl : y.Low 999990000) :
 Calls Tryz.prog 40 #[.pointer (some ⟨b, 0, none⟩), .int .i64 s, .int .i64 ring] w (Opnd w0 b y s ring ts) := by
 have RV : Hid (∀ w', Calls Tryz.prog 51 #[.int .i64 ring] w' fun e w'' => e = .returned (.bool (decide (5 ≤ ring ∧ ring ≤ 2048))) ∧ w'' = w') := fun w' => ringValid_any ring w'
 by_cases hring : 5 ≤ ring ∧ ring ≤ 2048
 case neg =>
  have hd : decide (5 ≤ ring ∧ ring ≤ 2048) = false := decide_eq_false hring
  rw [hd] at RV
  have E : Hid (Fmtd w0 b y s ring 0 ts (.returned (.tuple #[.pointer none, .int .u16 1])) w → True) := fun _ => trivial
  have E2 : Hid (Opnd w0 b y s ring ts (.returned (.tuple #[.pointer none, .slice none 0 0, .int .u16 1])) w) := .inl ⟨hring, rfl, F, H⟩
  clear H hs hr hl hring hd E
  go_enter Tryz.func40, Tryz.ntmps40
  go_wp2_with (go_at_call 51; refine (RV.out _).mono ?_; rintro e w2 ⟨rfl, hw2⟩; subst hw2)
  go_ret3
  exact E2.out
 obtain ⟨n, rfl⟩ : ∃ n : Nat, ring = n := ⟨ring.toNat, by omega⟩
 have n5 : 5 ≤ n := by omega
 have n2 : n ≤ 2048 := by omega
 have hdd : decide (5 ≤ (n : Int) ∧ (n : Int) ≤ 2048) = true := decide_eq_true hring
 rw [hdd] at RV
 obtain ⟨i0, hi, hz0, hz1, hz2⟩ := info_parts info_b8
 replace hi := Lib.hid hi
 replace hz0 := Lib.hid hz0
 replace hz1 := Lib.hid hz1
 replace hz2 := Lib.hid hz2
 have hf : y.Fit := (H.get 0 rfl : BayIn w b F y).fit
 obtain ⟨io, hio⟩ : ∃ io, io = Wl.rd s (y, 0) 1 := ⟨_, rfl⟩
 obtain ⟨v1, hv1⟩ : ∃ v1, v1 = Wl.rdV s (y, 0) 1 := ⟨_, rfl⟩
 have hv8 : v1.length ≤ 128 ∧ Bs v1 := by rw [hv1]; exact rdV_le hf s 1 0
 obtain ⟨ck, hck⟩ : ∃ ck, ck = Ck.dval v1 := ⟨_, rfl⟩
 have low1 : io.1.Low 999990001 := by rw [hio]; exact Wl.rd_low hl 1
 -- the parts, each by itself
 have DEV : Hid (Side w0 (w.alloc (.cells #[.pointer (some ⟨b, 0, none⟩), .int .i64 s, .int .u16 0] 115)) (dts b w.heap.size s (y, 0) F ts)) := (H.newBlk 115 (devV b s 0)).perm (List.Perm.swap _ _ _)
 have READ : Hid (∀ w1 D, Side w0 w1 (dts b D s (y, 0) F ts) → Calls Tryz.prog 115 #[.pointer (some ⟨D, 0, none⟩), .int .i64 1] w1 fun e w' => ∃ uo un uc, e = .returned (.slice uo un uc) ∧ w'.cell? ⟨D, 2, none⟩ = some (.int .u16 ((io.2 : Nat) : Int)) ∧ ∃ t F', Hid (Side w0 w' (dts b D s io F' (ownT t (.slice uo un uc) (ub v1) :: ts)))) := fun w1 D h => by
  refine (dvread_any h hs 1 ⟨by decide, by decide⟩ (hl.mono (by decide))).mono ?_
  rintro e w' ⟨u, h1, t, F', h2⟩
  rw [← hio, ← hv1] at h2
  obtain ⟨uo, uc, rfl⟩ := owns_slice (h2.out.get 0 rfl : w'.ownsRow 0 t 1 u _ _)
  refine ⟨uo, _, uc, h1, (h2.out.get 2 rfl : Blk _ _ _ (devV b s io.2)).cell (j := 2) rfl, t, F', h2.out.perm ?_⟩
  show ([_] ++ ([_, _] ++ ts)).Perm ([_, _] ++ ([_] ++ ts))
  rw [← List.append_assoc, ← List.append_assoc]
  exact List.Perm.append_right _ List.perm_append_comm
 have BAD1 : Hid (∀ w1 D F' x m, io.2 ≠ 0 → Side w0 w1 (dts b D s io F' (x :: ts)) → Opnd w0 b y s n ts (.returned (.tuple #[.pointer none, .slice none 0 0, .int .u16 ((io.2 : Nat) : Int)])) (w1.drewN m)) := fun w1 D F' x m h0 h => by
  refine .inr ⟨n, rfl, n5, n2, .inl ⟨by rw [← hio]; exact h0, by rw [hio], F', ?_⟩⟩
  rw [← hio]
  exact (h.quiet ((Chg.refl [] w1).drewN m)).sub (.cons_cons _ (.cons _ (.cons _ (List.Sublist.refl _))))
 have DEC : Hid (∀ w1 t vv ts', (ownT t vv (ub v1)).P w1 → Side w0 w1 ts' → Calls Tryz.prog 116 #[vv] w1 fun e w' => e = .returned (.tuple #[.agg #[.int .u64 (ck.ep : Int), .int .u64 (ck.sq : Int), .int .i64 ck.tl], .int .u16 (Ck.derr v1)]) ∧ Hid (Side w0 w' ts')) := fun w1 t vv ts' o h => by
  have o' : w1.ownsRow 0 t 1 vv (ub v1).length (ub v1) := o
  refine (decCk_any vv v1 w1 (Sl.owned o') hv8.2 (owned_capd o')).mono ?_
  rintro e w' ⟨h1, c⟩
  rw [← hck] at h1
  exact ⟨h1, h.quiet c.out⟩
 have BAD2 : Hid (∀ w1 w2 D F' x, io.2 = 0 → (Ck.derr v1 ≠ 0 ∨ (n : Int) ≤ ck.tl) → Side w0 w1 (dts b D s io F' (x :: ts)) → Chg [] w1 w2 → Opnd w0 b y s n ts (.returned (.tuple #[.pointer none, .slice none 0 0, .int .u16 120])) w2) := fun w1 w2 D F' x h0 hc h c => by
  refine .inr ⟨n, rfl, n5, n2, .inr (.inl ⟨by rw [← hio]; exact h0, by rw [← hv1, ← hck]; exact hc, rfl, F', ?_⟩)⟩
  rw [← hio]
  exact (h.quiet c).sub (.cons_cons _ (.cons _ (.cons _ (List.Sublist.refl _))))
 have RST : Hid (∀ w1 pv D F' QT, io.2 = 0 → Side w0 w1 (dts b D s io F' QT) → pv = .slice none 0 0 → Rdn s io 0 ∧ Side w0 w1 (ownT 5 pv (ub (Wl.rds s io 0).2) :: dts b D s (Wl.rds s io 0).1 F' QT)) := fun w1 pv D F' QT h0 h hp => by
  rw [hp]
  exact ⟨Rdn.zero s io, h.own (World.ownsRow_nil _ _ _ _) (Chg.refl _ _)⟩
 have RND : Hid (∀ (k : Nat) wr D F' pv QT, k < n → Rdn s io k → Side w0 wr (ownT 5 pv (ub (Wl.rds s io k).2) :: dts b D s (Wl.rds s io k).1 F' QT) → Calls Tryz.prog 115 #[.pointer (some ⟨D, 0, none⟩), .int .i64 ((2 + k : Nat) : Int)] wr fun e w' => ∃ uo uc zs, zs = Wl.rdV s (Wl.rds s io k).1 ((2 + k : Nat) : Int) ∧ e = .returned (.slice uo zs.length uc) ∧ Hid (Rdn s io (k + 1)) ∧ Hid (zs.length ≤ 128) ∧
  Hid (w'.ownsRow 0 5 1 pv (Wl.rds s io k).2.length (ub (Wl.rds s io k).2)) ∧ Hid (Sl w' (.slice uo zs.length uc) (ints zs)) ∧ ∃ t F'', Hid (Side w0 w' (ownT 5 pv (ub (Wl.rds s io k).2) :: ownT t (.slice uo zs.length uc) (ub zs) :: dts b D s (Wl.rds s io (k + 1)).1 F'' QT))) := fun k wr D F' pv QT hk hd h => open_round h hs low1 (by omega) hd
 have WRP : Hid (∀ k : Nat, k < n → (IntKind.i64.wrap (2 + (k : Int)) = ((2 + k : Nat) : Int) ∧ wrap64 (2 + (k : Int)) = ((2 + k : Nat) : Int)) ∧ IntKind.i64.wrap ((k : Int) + 1) = (k : Int) + 1 ∧ wrap64 ((k : Int) + 1) = (k : Int) + 1) := fun k hk => by
  obtain ⟨a, c⟩ := wrap_in (z := 2 + (k : Int)) (by omega) (by omega)
  obtain ⟨a', c'⟩ := wrap_in (z := (k : Int) + 1) (by omega) (by omega)
  exact ⟨⟨a.trans (by omega), c.trans (by omega)⟩, a', c'⟩
 have KM : Hid (∀ k : Nat, k < n → n - (intOf (.int .i64 ((k : Int) + 1))).toNat < n - (intOf (.int .i64 (k : Int))).toNat) := fun k hk => by simp [intOf]; omega
 have KE : Hid (∀ k : Nat, k ≤ n → ¬ k < n → k = n) := fun k h h' => by omega
 have SZ : Hid (∀ k m : Nat, k < n → Rdn s io k → m ≤ 128 → (Wl.rds s io k).2.length + m ≤ maxLen ∧ ((Wl.rds s io k).2.length + m) * 1 ≤ 140737488355328) := fun k m hk hd hm => by
  have := hd.1.1
  unfold maxLen
  omega
 obtain ⟨r, hr1⟩ : ∃ r, r = Wl.rds s io n := ⟨_, rfl⟩
 have CKN : Hid (∃ t : Nat, Ck.derr v1 = 0 → ck.tl = t) := ⟨ck.tl.toNat, fun h => by
  have : ck.Ok := by
   rw [hck]
   unfold Ck.dval
   rw [if_pos h]
   unfold Ck.derr at h
   by_cases q : lookOf 3 v1 = 0
   ·rw [if_neg (fun k => k q)] at h
    by_cases q2 : (Ck.of v1).Ok ∧ (Ck.of v1).rec'.sector = v1
    ·exact q2.1
    ·rw [if_neg q2] at h; cases h
   ·rw [if_pos q] at h; exact absurd h q
  have h3 := this.2.1
  omega⟩
 have OUTC : Hid (∀ w1 D F' QT pv, io.2 = 0 → Ck.derr v1 = 0 → ck.tl < n → r.1.2 ≠ 0 → ∀ m x, QT = x → Side w0 w1 (ownT 5 pv (ub r.2) :: dts b D s r.1 F' (QT ++ ts)) → Opnd w0 b y s n ts (.returned (.tuple #[.pointer none, .slice none 0 0, .int .u16 ((r.1.2 : Nat) : Int)])) (w1.drewN m)) := fun w1 D F' QT pv h0 h1 h2 h3 m x _ h => by
  refine .inr ⟨n, rfl, n5, n2, .inr (.inr ⟨by rw [← hio]; exact h0, by rw [← hv1]; exact h1, by rw [← hv1, ← hck]; exact h2, .inl ⟨by rw [← hio, ← hr1]; exact h3, by rw [← hio, ← hr1], F', ?_⟩⟩)⟩
  rw [← hio, ← hr1]
  exact (h.quiet ((Chg.refl [] w1).drewN m)).sub (.cons _ (.cons_cons _ (.cons _ (List.sublist_append_right _ _))))
 clear hr hring hl hf hdd
 by_cases h0 : io.2 = 0
 case neg =>
  have BB := Lib.hid (fun w1 D F' x m h => BAD1.out w1 D F' x m h0 h)
  have hz : (((io.2 : Nat) : Int) != 0) = true := by simpa using h0
  clear BAD1 DEC BAD2 RST RND WRP KM KE SZ CKN OUTC h0 hv8 low1 H
  have RDD := Lib.hid (READ.out _ _ DEV.out)
  clear READ DEV hio hr1
  generalize ((io.2 : Nat) : Int) = ER at *
  go_enter Tryz.func40, Tryz.ntmps40
  go_wp2_with (first
   | (go_at_call 51; refine (RV.out _).mono ?_; rintro e w2 ⟨rfl, hw2⟩; subst hw2)
   | (go_at_call 115; refine RDD.out.mono ?_; rintro e w3 ⟨uo, un, uc, rfl, c2, t, F', h⟩; have B3 := Lib.hid (fun m => BB.out w3 _ F' _ m h.out); clear RDD BB h))
  go_quiet (fail)
  go_wp2_with fail
  go_ret3
  exact B3.out _
 have hz : ((io.2 : Nat) : Int) = 0 := by rw [h0]; rfl
 have RDD := Lib.hid (READ.out _ _ DEV.out)
 rw [hz] at RDD
 have B2 := Lib.hid (fun w1 w2 D F' x hc h c => BAD2.out w1 w2 D F' x h0 hc h c)
 clear READ DEV BAD1 BAD2 hz
 by_cases hde : Ck.derr v1 = 0
 case neg =>
  have hne : (Ck.derr v1 != 0) = true := by simpa using hde
  have BB := Lib.hid (fun w1 w2 D F' x h c => B2.out w1 w2 D F' x (.inl hde) h c)
  clear RST RND WRP KM KE SZ CKN OUTC h0 hv8 low1 H B2 hde hio hr1 hv1 hck
  generalize Ck.derr v1 = ER at *
  generalize (ck.ep : Int) = EP at *
  generalize (ck.sq : Int) = SQ at *
  generalize ck.tl = TL at *
  go_enter Tryz.func40, Tryz.ntmps40
  go_wp2_with (first
   | (go_at_call 51; refine (RV.out _).mono ?_; rintro e w2 ⟨rfl, hw2⟩; subst hw2)
   | (go_at_call 115; refine RDD.out.mono ?_; rintro e w3 ⟨uo, un, uc, rfl, c2, t, F', h⟩; have DD := Lib.hid (DEC.out w3 t _ _ (h.out.get 2 rfl) h.out); clear RDD DEC)
   | (go_at_call 116; refine DD.out.mono ?_; rintro e w4 ⟨rfl, h4⟩; have B3 := Lib.hid (fun w5 c => BB.out w4 w5 _ F' _ h4.out c); clear DD BB h4 h))
  go_ret3
  exact B3.out _ ((Chg.refl _ _).alloc _)
 rw [hde] at DEC
 obtain ⟨t0, ht0⟩ := CKN.out
 replace ht0 := ht0 hde
 by_cases htl : (n : Int) ≤ ck.tl
 ·have BB := Lib.hid (fun w1 w2 D F' x h c => B2.out w1 w2 D F' x (.inr htl) h c)
  clear RST RND WRP KM KE SZ CKN OUTC h0 hv8 low1 H B2 hde hio hr1 hv1 hck ht0
  generalize (ck.ep : Int) = EP at *
  generalize (ck.sq : Int) = SQ at *
  generalize ck.tl = TL at *
  go_enter Tryz.func40, Tryz.ntmps40
  go_wp2_with (first
   | (go_at_call 51; refine (RV.out _).mono ?_; rintro e w2 ⟨rfl, hw2⟩; subst hw2)
   | (go_at_call 115; refine RDD.out.mono ?_; rintro e w3 ⟨uo, un, uc, rfl, c2, t, F', h⟩; have DD := Lib.hid (DEC.out w3 t _ _ (h.out.get 2 rfl) h.out); clear RDD DEC)
   | (go_at_call 116; refine DD.out.mono ?_; rintro e w4 ⟨rfl, h4⟩; have B3 := Lib.hid (fun w5 c => BB.out w4 w5 _ F' _ h4.out c); clear DD BB h4 h))
  go_ret3
  exact B3.out _ ((Chg.refl _ _).alloc _)
 have htn : ck.tl < n := by omega
 have OC := Lib.hid (fun w1 D F' QT pv h3 m h => OUTC.out w1 D F' QT pv h0 hde htn h3 m _ rfl h)
 have ST := Lib.hid (fun w1 D F' x h => RST.out w1 (.slice none 0 0) D F' x h0 h rfl)
 replace hck := Lib.hid hck
 replace hv1 := Lib.hid hv1
 replace hio := Lib.hid hio
 replace hr1 := Lib.hid hr1
 replace ht0 := Lib.hid ht0
 replace hde := Lib.hid hde
 replace h0 := Lib.hid h0
 replace n5 := Lib.hid n5
 replace n2 := Lib.hid n2
 clear RST OUTC B2 CKN H hv8 low1
 go_enter Tryz.func40, Tryz.ntmps40
 go_wp2_with (first
  | (go_at_call 51; refine (RV.out _).mono ?_; rintro e w2 ⟨rfl, hw2⟩; subst hw2)
  | (go_at_call 115; refine RDD.out.mono ?_; rintro e w3 ⟨uo, un, uc, rfl, c2, t, F', h⟩; have DD := Lib.hid (DEC.out w3 t _ _ (h.out.get 2 rfl) h.out); clear RDD DEC)
  | (go_at_call 116; refine DD.out.mono ?_; rintro e w4 ⟨rfl, h4⟩; clear DD h c2))
 have hC : Hid (Side w0 (w4.alloc (.cells #[.int .u64 (ck.ep : Int), .int .u64 (ck.sq : Int), .int .i64 ck.tl] 110)) (dts b w2.heap.size s io F' (blkT w4.heap.size 110 [.int .u64 (ck.ep : Int), .int .u64 (ck.sq : Int), .int .i64 ck.tl] :: ownT t (.slice uo un uc) (ub v1) :: ts))) := (h4.out.newBlk 110 [.int .u64 (ck.ep : Int), .int .u64 (ck.sq : Int), .int .i64 ck.tl]).perm (by
  show ([_] ++ ([_, _] ++ _)).Perm ([_, _] ++ ([_] ++ _))
  rw [← List.append_assoc, ← List.append_assoc]
  exact List.Perm.append_right _ List.perm_append_comm)
 clear h4
 generalize (w4.alloc (.cells #[.int .u64 (ck.ep : Int), .int .u64 (ck.sq : Int), .int .i64 ck.tl] 110)) = wD at *
 generalize w4.heap.size = pc at *
 generalize w2.heap.size = D at *
 obtain ⟨rd0, hS0⟩ := ST.out _ D F' _ hC.out
 replace rd0 := Lib.hid rd0
 replace hS0 := Lib.hid hS0
 obtain ⟨QT, hQT⟩ : ∃ QT, QT = [blkT pc 110 [.int .u64 (ck.ep : Int), .int .u64 (ck.sq : Int), .int .i64 ck.tl], ownT t (.slice uo un uc) (ub v1)] := ⟨_, rfl⟩
 replace hS0 : Hid (Side w0 wD (ownT 5 (.slice none 0 0) (ub (Wl.rds s io 0).2) :: dts b D s (Wl.rds s io 0).1 F' (QT ++ ts))) := by rw [hQT]; exact hS0
 have HQT := Lib.hid hQT
 clear hQT hC ST RV
 go_loopw [13, 49] (fun pv i wr => ∃ k : Nat, k ≤ n ∧ i = .int .i64 k ∧ ∃ F', Hid (Rdn s io k) ∧ Hid (Side w0 wr (ownT 5 pv (ub (Wl.rds s io k).2) :: dts b D s (Wl.rds s io k).1 F' (QT ++ ts)))) (fun _ i _ => n - (intOf i).toNat)
 case atStart => exact ⟨0, Nat.zero_le _, rfl, F', rd0, hS0⟩
 case round =>
  obtain ⟨k, hk, rfl, F1, Rk, Hk⟩ := hrel
  clear hS0 rd0
  have hk0 : (0 : Int) ≤ k := Int.natCast_nonneg _
  by_cases hlt : k < n
  ·have hk1 : (k : Int) < n := by omega
   obtain ⟨⟨pw1, pw2⟩, kw1, kw2⟩ := WRP.out k hlt
   have RN := Lib.hid (RND.out k wr D F1 _ _ hlt Rk.out Hk.out)
   have SZK := Lib.hid (fun m hm => SZ.out k m hlt Rk.out hm)
   obtain ⟨P2, hP2⟩ : ∃ P2, P2 = ((2 + k : Nat) : Int) := ⟨_, rfl⟩
   obtain ⟨ys, hys⟩ : ∃ ys, ys = (Wl.rds s io k).2 := ⟨_, rfl⟩
   have hys2 : Hid (∀ zs, zs = Wl.rdV s (Wl.rds s io k).1 ((2 + k : Nat) : Int) → ys ++ zs = (Wl.rds s io (k + 1)).2) := fun zs hz => by rw [hys, hz]; rfl
   rw [← hys] at RN SZK
   have hP3 := Lib.hid hP2
   clear hP2 RND OC WRP SZ hys Hk
   rw [← hP3.out] at pw1 pw2
   rw [← hP3.out] at RN
   rw [← hP3.out] at hys2
   clear hP3
   go_wp2_with (first
    | (go_at_call 115; refine RN.out.mono ?_; rintro e w5 ⟨ao, ac, zs, hzs, rfl, Rk1, hz8, OW, SL, t5, F5, h5⟩; have hq := Lib.hid (hys2.out zs hzs); clear RN hys2 hzs)
    | (at_builtin; (refine wpList_append_sl _ rfl (.tmp 52) (.tmp 56) 65 rfl 0 5 i0 (.int .u8 0) 1 Tryz.underlying65 hi.out hz0.out hz1.out hz2.out rfl _ ys.length _ rfl OW.out ao zs.length ac (ints zs) rfl SL.out (by rw [ints_length]; exact (SZK.out _ hz8.out).1) (by rw [ints_length]; exact (SZK.out _ hz8.out).2) (Nat.zero_le _) ?_); intro ov wn ol gr nb; have HG := Lib.hid (h5.out.growRow ol.out gr.out nb.out); rw [hq.out] at HG; clear OW SL h5 ol gr nb hz8 SZK hq))
   exact ⟨⟨k + 1, hlt, by go_num, F5, Rk1, HG⟩, KM.out k hlt⟩
  ·have hkn : k = n := KE.out k hk hlt
   subst hkn
   rw [← hr1.out] at Hk
   have c2 : wr.cell? ⟨D, 2, none⟩ = some (.int .u16 ((r.1.2 : Nat) : Int)) := (Hk.out.get 2 rfl : Blk _ _ _ (devV b s r.1.2)).cell (j := 2) rfl
   have Rk2 : Hid (Bs r.2 ∧ (r.1.2 = 0 → r.2.length = 128 * k)) := by
    have := Rk.out
    unfold Rdn at this
    rw [← hr1.out] at this
    exact ⟨this.1.2, this.2⟩
   clear RND WRP KM KE SZ Rk
   by_cases h3 : r.1.2 = 0
   case neg =>
    have OB := Lib.hid (fun m => OC.out wr D F1 QT _ h3 m Hk.out)
    have hz : (((r.1.2 : Nat) : Int) != 0) = true := by simpa using h3
    clear OC Hk Rk2 h3 hr1
    generalize ((r.1.2 : Nat) : Int) = ER at *
    go_wp2_with fail
    go_quiet (fail)
    go_wp2_with fail
    go_ret3
    exact OB.out _
   have hz : ((r.1.2 : Nat) : Int) = 0 := by rw [h3]; rfl
   rw [hz] at c2
   rw [HQT.out] at Hk
   obtain ⟨⟨g, cap, hpv⟩, OFC⟩ := open_of (Hk.out) Rk2.out.1 (Rk2.out.2 h3) n5.out n2.out (by rw [hck.out]; exact ck_ok_of hde.out) ht0.out (by have := ht0.out; omega)
   subst hpv
   have XB : Blk wr pc 110 [.int .u64 (ck.ep : Int), .int .u64 (ck.sq : Int), .int .i64 ck.tl] := Hk.out.get 3 rfl
   have x0 : wr.cell? ⟨pc, 0, none⟩ = some (.int .u64 (ck.ep : Int)) := XB.cell (j := 0) rfl
   have x1 : wr.cell? ⟨pc, 1, none⟩ = some (.int .u64 (ck.sq : Int)) := XB.cell (j := 1) rfl
   have x2 : wr.cell? ⟨pc, 2, none⟩ = some (.int .i64 ck.tl) := XB.cell (j := 2) rfl
   have OKF : Hid (∀ W tv T u F' w' R, Sc.Done r.2 ck.ep ck.tl.toNat ck.sq (found T) u → Side w0 w' (jts b W D R (Wl.begun s k ck u (ck.sq + T.length)) (.slice none 0 0) r.1.1 F' (wideT 2 92 tv (txSlots ck.sq T) :: poolWT 3 105 (listsOf T) :: poolT (dataOf T) :: ts)) → Opnd w0 b y s k ts (.returned (.tuple #[.pointer (some ⟨W, 0, none⟩), tv, .int .u16 0])) w') := fun W tv T u F' w' R hD h => by
    have e1 := hio.out
    have e2 := hv1.out
    have e3 := hck.out
    have e4 := hr1.out
    refine .inr ⟨k, rfl, n5.out, n2.out, .inr (.inr ⟨by rw [← e1]; exact h0.out, by rw [← e2]; exact hde.out, by rw [← e2, ← e3]; exact htn, .inr ⟨by rw [← e1, ← e4]; exact h3, W, D, R, tv, T, u, F', ?_, rfl, ?_⟩⟩)⟩
    ·rw [← e2, ← e3, ← e1, ← e4]
     exact hD
    ·rw [← e2, ← e3, ← e1, ← e4]
     exact h
   have BGN : Hid (∀ w6 pf T u hd tO tN tC, u ≤ k → Sc.Done r.2 ck.ep ck.tl.toNat ck.sq (found T) u → Side w0 w6 (ots b D s r.1 F1 pf pc ck (.slice tO tN tC) (.slice (some ⟨g, 0, none⟩) (128 * k) cap) (ck.sq + T.length) u hd T r.2 (ownT t (.slice uo un uc) (ub v1)) ts) →
    Hid (OcS w6 pf pc ck (.slice tO tN tC) ((ck.sq + T.length : Nat) : Int) hd (u : Int)) ∧ Hid (∀ m, Calls Tryz.prog 54 #[.pointer (some ⟨D, 0, none⟩), .int .i64 (k : Int), .agg #[.int .u64 (ck.ep : Int), .int .u64 (ck.sq : Int), .int .i64 ck.tl], .agg #[.slice tO tN tC, .int .u64 ((ck.sq + T.length : Nat) : Int), .int .i64 hd, .int .i64 (u : Int)]] (w6.drewN m) fun e w' => ∃ W, e = .returned (.pointer (some ⟨W, 0, none⟩)) ∧ Hid (OcS w' pf pc ck (.slice tO tN tC) ((ck.sq + T.length : Nat) : Int) hd (u : Int)) ∧
     Hid (Opnd w0 b y s k ts (.returned (.tuple #[.pointer (some ⟨W, 0, none⟩), .slice tO tN tC, .int .u16 0])) w'))) := fun w6 pf T u hd tO tN tC hu hD h => by
    refine ⟨ots_cells h, fun m => ?_⟩
    refine (open_begin (h.quiet ((Chg.refl [] w6).drewN m)) h3 ⟨_, _, _, rfl⟩ n5.out n2.out ⟨t0, ht0.out⟩ htn hu).mono ?_
    rintro e w' ⟨W, h5, h6, R, h7⟩
    exact ⟨W, h5, h6, OKF.out W _ T u F1 w' R hD h7.out⟩
   have OF2 : Hid (Calls Tryz.prog 117 #[.slice (some ⟨g, 0, none⟩) (128 * k) cap, .agg #[.int .u64 (ck.ep : Int), .int .u64 (ck.sq : Int), .int .i64 ck.tl]] wr fun e w' => ∃ (tO : Option Addr) (tN tC : Nat) (hd NX UU : Int), e = .returned (.tuple #[.agg #[.slice tO tN tC, .int .u64 NX, .int .i64 hd, .int .i64 UU], .int .u16 0]) ∧
    Hid (OcS (w'.alloc (.cells #[.slice tO tN tC, .int .u64 NX, .int .i64 hd, .int .i64 UU] 120)) w'.heap.size pc ck (.slice tO tN tC) NX hd UU) ∧
    Hid (∀ m, Calls Tryz.prog 54 #[.pointer (some ⟨D, 0, none⟩), .int .i64 (k : Int), .agg #[.int .u64 (ck.ep : Int), .int .u64 (ck.sq : Int), .int .i64 ck.tl], .agg #[.slice tO tN tC, .int .u64 NX, .int .i64 hd, .int .i64 UU]] ((w'.alloc (.cells #[.slice tO tN tC, .int .u64 NX, .int .i64 hd, .int .i64 UU] 120)).drewN m) fun e w2 => ∃ W, e = .returned (.pointer (some ⟨W, 0, none⟩)) ∧ Hid (OcS w2 w'.heap.size pc ck (.slice tO tN tC) NX hd UU) ∧
     Hid (Opnd w0 b y s k ts (.returned (.tuple #[.pointer (some ⟨W, 0, none⟩), .slice tO tN tC, .int .u16 0])) w2))) := by
    refine OFC.out.mono ?_
    rintro e w5 ⟨tO, tN, tC, T, u, hd, hD, hu, h4, h5⟩
    obtain ⟨z1, z2⟩ := BGN.out _ _ T u hd tO tN tC hu hD h5.out
    exact ⟨tO, tN, tC, hd, _, _, h4, z1, z2⟩
   clear OFC BGN OKF OC Rk2 Hk XB h3 hz hio hv1 hr1 h0 hde hck ht0
   unfold OcS at OF2
   generalize (ck.ep : Int) = EP at *
   generalize (ck.sq : Int) = SQ at *
   generalize ck.tl = TL at *
   go_wp2_with (go_at_call 117; refine OF2.out.mono ?_; rintro e w5 ⟨tO, tN, tC, hd, NX, UU, rfl, KB, BC⟩; clear OF2 x0 x1 x2 c2)
   generalize (w5.alloc (.cells #[.slice tO tN tC, .int .u64 NX, .int .i64 hd, .int .i64 UU] 120)) = w6 at *
   generalize w5.heap.size = pf at *
   obtain ⟨⟨a0, a1, a2⟩, b0, b1, b2, b3⟩ := KB.out
   go_region_held3 (fun w' : World => (w'.cell? ⟨pc, 0, none⟩ = some (.int .u64 EP) ∧ w'.cell? ⟨pc, 1, none⟩ = some (.int .u64 SQ) ∧ w'.cell? ⟨pc, 2, none⟩ = some (.int .i64 TL)) ∧ w'.cell? ⟨pf, 0, none⟩ = some (.slice tO tN tC) ∧ w'.cell? ⟨pf, 1, none⟩ = some (.int .u64 NX) ∧ w'.cell? ⟨pf, 2, none⟩ = some (.int .i64 hd) ∧ w'.cell? ⟨pf, 3, none⟩ = some (.int .i64 UU)) (first | exact KB.out | exact K1.out) (first
    | (go_at_call 54; refine (BC.out _).mono ?_; rintro e w7 ⟨WW, rfl, K1, A⟩))
   all_goals (clear KB BC K1 a0 a1 a2 b0 b1 b2 b3; go_wp2_with fail; go_ret3; exact A.out)

end Go.Proofs.YtkafkdlgflkjgaaGreat
