/-
  A row of the table of fields: how it is put and how it is read. By an AI agent. Printed by gen_spfld.py.
-/
import Derived.Test.YtffpjefecmkfmaaBRdNext
import Derived.Test.YtffpjefecmkfmaaBPkPut
import Derived.Test.YtffpjefecmkfmaaBRdU16
import Derived.Test.YtffpjefecmkfmaaBG
import Derived.Deep.RegionHeld3
import Derived.Laws.EntriesVeiled
namespace Go.Proofs.Ytffpjefecmkfmaa
open Go.RowKit

/-- What a field is: where its number lies in the content and of which kind it is (none: bytes that nobody has), and how many bytes it takes. -/
structure FD where
  at_ : Option (Nat × IntKind)
  n : Nat

/-- The bytes that it puts. -/
def FD.out (cs : List Value) (d : FD) : List Int := match d.at_ with
  | some (o, _) => leBytes d.n (intOf (cs.getD o (.int .u8 0)))
  | none => List.replicate d.n 0

/-- Its number lies in the content, and fits. -/
def FD.fits (cs : List Value) (d : FD) : Prop := match d.at_ with
  | some (o, k) => ∃ v : Int, cs[o]? = some (.int k v) ∧ 0 ≤ v ∧ v < 2 ^ (8 * d.n)
  | none => True

/-- There is room for its number. -/
def FD.room (cs : List Value) (d : FD) : Prop := match d.at_ with
  | some (o, _) => o < cs.length
  | none => True

/-- What reading it makes of the content. -/
def FD.into (cs : List Value) (d : FD) (xs : List Int) : List Value := match d.at_ with
  | some (o, k) => cs.set o (.int k (leNum xs))
  | none => cs

theorem FD.into_len (cs : List Value) (d : FD) (xs : List Int) : (d.into cs xs).length = cs.length := by
  unfold FD.into
  split
  · simp
  · rfl

/-- A function value that puts a field. -/
structure PutOk (w : World) (B c : Nat) (fn : Nat) (caps : Array Value) (d : FD) : Prop where
  enters : ∀ (args : Array Value) (w' : World), (callFunc fn args).run Try.prog w' = .ok (.enter fn args) w'
  puts : ∀ (w' : World) (t : List Nat) (b g : Nat) (s : PS) (cs : List Value), Chg t w w' → (∀ k ∈ t, k < B) → Pk w' b g s → Blk w' c 73 cs → d.fits cs →
    Calls Try.prog fn (#[.pointer (some ⟨b, 0, none⟩)] ++ caps) w' (Puts w' b g s (d.out cs))

/-- A function value that reads a field. -/
structure ReadOk (w : World) (B c : Nat) (fn : Nat) (caps : Array Value) (d : FD) : Prop where
  enters : ∀ (args : Array Value) (w' : World), (callFunc fn args).run Try.prog w' = .ok (.enter fn args) w'
  reads : ∀ (w' : World) (t : List Nat) (b : Nat) (v : Value) (s : RS) (cs : List Value), Chg t w w' → (∀ k ∈ t, k < B) → Rd w' b v s → Blk w' c 73 cs → b < B → c < B → c ≠ b → (∀ k, v.ownBlock = some k → k ≠ c) → s.bad = 0 → s.pos + d.n ≤ s.xs.length → d.room cs →
    Calls Try.prog fn (#[.pointer (some ⟨b, 0, none⟩)] ++ caps) w' fun e w'' => e = .returned (.tuple #[]) ∧ Hid (Rd w'' b v (s.next d.n)) ∧ Hid (Blk w'' c 73 (d.into cs (s.got d.n))) ∧ Hid (Chg [b, c] w' w'')

/-- A row of the table. -/
def FieldOk (w : World) (B c : Nat) (v : Value) (d : FD) : Prop := ∃ f1 c1 f2 c2, v = .agg #[.func (.func f1) #[] c1, .func (.func f2) #[] c2] ∧ PutOk w B c f1 c1 d ∧ ReadOk w B c f2 c2 d

theorem FieldOk.later {w w' : World} {B B' c : Nat} {v : Value} {d : FD} (h : FieldOk w B c v d) (ch : Chg [] w w') (hB : B' ≤ B) : FieldOk w' B' c v d := by
  obtain ⟨f1, c1, f2, c2, rfl, p, r⟩ := h
  refine ⟨f1, c1, f2, c2, rfl, ⟨p.enters, fun w2 t b g s cs h1 h2 => p.puts w2 t b g s cs ((ch.mono (by simp)).trans h1) (fun k hk => Nat.lt_of_lt_of_le (h2 k hk) hB)⟩, ⟨r.enters, fun w2 t b v s cs h1 h2 h3 h4 h5 h6 => r.reads w2 t b v s cs ((ch.mono (by simp)).trans h1) (fun k hk => Nat.lt_of_lt_of_le (h2 k hk) hB) h3 h4 (Nat.lt_of_lt_of_le h5 hB) (Nat.lt_of_lt_of_le h6 hB)⟩⟩

theorem four_blocks (w : World) (x y z f1 f2 : Value) (t1 t2 t3 t4 : TypeId) :
    let W := ((((w.alloc (.cells #[x] t1)).alloc (.cells #[y] t2)).alloc (.cells #[z] t3)).alloc (.cells #[f1, f2] t4))
    Blk W w.heap.size t1 [x] ∧ Blk W (w.heap.size + 1) t2 [y] ∧ Blk W (w.heap.size + 1 + 1) t3 [z] ∧ Blk W (w.heap.size + 1 + 1 + 1) t4 [f1, f2] ∧ Chg [] w W := by
  have e1 : (w.alloc (.cells #[x] t1)).heap.size = w.heap.size + 1 := by simp
  have e2 : ((w.alloc (.cells #[x] t1)).alloc (.cells #[y] t2)).heap.size = w.heap.size + 1 + 1 := by simp
  have e3 : (((w.alloc (.cells #[x] t1)).alloc (.cells #[y] t2)).alloc (.cells #[z] t3)).heap.size = w.heap.size + 1 + 1 + 1 := by simp
  refine ⟨(((Blk.made w [x] t1).alloc _).alloc _).alloc _, ?_, ?_, ?_, ((((Chg.refl [] w).alloc _).alloc _).alloc _).alloc _⟩
  · rw [← e1]
    exact ((Blk.made _ [y] t2).alloc _).alloc _
  · rw [← e2]
    exact (Blk.made _ [z] t3).alloc _
  · rw [← e3]
    exact Blk.made _ [f1, f2] t4

theorem info_field : (Try.prog.info? 87).map (·.size) = some 2 := by kernel_rfl

theorem RS.got_range {s : RS} (hb : By s.xs) (n : Nat) : 0 ≤ leNum (s.got n) ∧ leNum (s.got n) < 2 ^ (8 * n) := by
  have hr := leNum_range _ (RS.got_by hb n)
  have hl := RS.got_len s n
  have hp : (2 : Int) ^ (8 * (s.got n).length) ≤ 2 ^ (8 * n) := pow2_le (by omega)
  exact ⟨hr.1, by omega⟩

theorem enters_put_uu (args : Array Value) (w : World) : (callFunc 69 args).run Try.prog w = .ok (.enter 69 args) w := by
  have h1 : (Try.f69.name == "runtime.NumGoroutine") = false := by kernel_rfl
  have h2 : Try.f69.body.isNone = false := by kernel_rfl
  have h3 : ¬ Try.f69.name = "runtime.NumGoroutine" := by simpa using h1
  have h4 : ¬ Try.f69.body = none := fun e => by rw [e] at h2; cases h2
  simp [callFunc, go_sem, Try.func69, h3, h4]

theorem enters_read_uu (args : Array Value) (w : World) : (callFunc 70 args).run Try.prog w = .ok (.enter 70 args) w := by
  have h1 : (Try.f70.name == "runtime.NumGoroutine") = false := by kernel_rfl
  have h2 : Try.f70.body.isNone = false := by kernel_rfl
  have h3 : ¬ Try.f70.name = "runtime.NumGoroutine" := by simpa using h1
  have h4 : ¬ Try.f70.body = none := fun e => by rw [e] at h2; cases h2
  simp [callFunc, go_sem, Try.func70, h3, h4]

set_option maxHeartbeats 400000 in
set_option maxRecDepth 100000 in
theorem put_uu (p a c o b g : Nat) (s : PS) (v : Int) (w : World) (hp : w.cell? ⟨p, 0, none⟩ = some (.func (.func 52) #[] #[])) (ha : w.cell? ⟨a, 0, none⟩ = some (.pointer (some ⟨c, o, none⟩))) (hc : w.cell? ⟨c, o, none⟩ = some (.int .u64 v)) (h0 : 0 ≤ v) (h1 : v ≤ 18446744073709551615) (h : Pk w b g s) :
    Calls Try.prog 69 #[.pointer (some ⟨b, 0, none⟩), .pointer (some ⟨p, 0, none⟩), .pointer (some ⟨a, 0, none⟩)] w (Puts w b g s (leBytes 8 v)) := by
  have hn := u64_any b g s v w.drew (h.drewN 1) h0 h1
  clear h
  go_enter Try.func69, Try.ntmps69
  go_wp2_with fail
  go_still_tail 5, (by kernel_rfl)
  change wpList _ _ _ _ _ w.drew
  go_wp2_with fail
  refine hn.mono ?_
  rintro e w' ⟨rfl, k1, k2⟩
  replace k1 := Lib.hid k1
  replace k2 := Lib.hid k2
  clear hn
  go_wp2_with fail
  go_end0
  exact ⟨rfl, k1.out, ((Chg.refl _ w).drewN 1).trans k2.out⟩

set_option maxHeartbeats 1000000 in
set_option maxRecDepth 100000 in
theorem read_uu (r a c o b : Nat) (v : Value) (s : RS) (cs : List Value) (w : World) (hr : w.cell? ⟨r, 0, none⟩ = some (.func (.func 53) #[] #[])) (ha : w.cell? ⟨a, 0, none⟩ = some (.pointer (some ⟨c, o, none⟩))) (h : Rd w b v s) (hB : Blk w c 73 cs) (ho : o < cs.length)
    (hcb : c ≠ b) (hvc : ∀ k, v.ownBlock = some k → k ≠ c) (hrb : r ≠ b) (hab : a ≠ b) (hrc : r ≠ c) (hac : a ≠ c) :
    Calls Try.prog 70 #[.pointer (some ⟨b, 0, none⟩), .pointer (some ⟨r, 0, none⟩), .pointer (some ⟨a, 0, none⟩)] w fun e w' => e = .returned (.tuple #[]) ∧ Hid (Rd w' b v (s.next 8)) ∧ Hid (Blk w' c 73 (cs.set o (.int .u64 (leNum (s.got 8))))) ∧ Hid (Chg [b, c] w w') := by
  have RD := Lib.hid (u64R_any b v s (w.drewN 1) (h.chg ((Chg.refl [] w).drewN 1) (by simp) (fun _ _ => by simp)))
  obtain ⟨x0, x1⟩ := RS.got_range h.byt 8
  obtain ⟨x, hx⟩ : ∃ x, x = leNum (s.got 8) := ⟨_, rfl⟩
  rw [← hx] at RD x0 x1 ⊢
  obtain ⟨old, hold⟩ : ∃ u, cs[o]? = some u := ⟨_, List.getElem?_eq_getElem ho⟩
  have cc := hB.cell hold
  have hcl := hB.lt
  have fc := hB.free o
  have hrl := World.block_lt_of_cell? w _ hr
  have hal := World.block_lt_of_cell? w _ ha
  have K0 : Hid (∀ w', Chg [b] (w.drewN 1) w' → w'.cell? ⟨c, o, none⟩ = some old ∧ w'.frozen? ⟨c, o, none⟩ = false) := fun w' C => ⟨(C.cell (p := ⟨c, o, none⟩) hcl (by simpa using hcb)).trans cc, (C.frozen (p := ⟨c, o, none⟩) hcl (by simpa using hcb)).trans fc⟩
  have KK : Hid (∀ w', Chg [b] (w.drewN 1) w' → w'.cell? ⟨r, 0, none⟩ = some (.func (.func 53) #[] #[]) ∧ w'.cell? ⟨a, 0, none⟩ = some (.pointer (some ⟨c, o, none⟩))) := fun w' C => ⟨(C.cell (p := ⟨r, 0, none⟩) hrl (by simpa using hrb)).trans hr, (C.cell (p := ⟨a, 0, none⟩) hal (by simpa using hab)).trans ha⟩
  have KK2 : Hid (∀ w' u, Chg [b] (w.drewN 1) w' → (w'.setCell ⟨c, o, none⟩ u).cell? ⟨r, 0, none⟩ = some (.func (.func 53) #[] #[]) ∧ (w'.setCell ⟨c, o, none⟩ u).cell? ⟨a, 0, none⟩ = some (.pointer (some ⟨c, o, none⟩))) := fun w' u C => by
    obtain ⟨h1, h2⟩ := KK.out w' C
    exact ⟨(World.cell?_setCell_other w' ⟨c, o, none⟩ ⟨r, 0, none⟩ u (fun e => hrc (Addr.mk.inj e).1.symm)).trans h1, (World.cell?_setCell_other w' ⟨c, o, none⟩ ⟨a, 0, none⟩ u (fun e => hac (Addr.mk.inj e).1.symm)).trans h2⟩
  have FIN : Hid (∀ w1 u, Chg [b] (w.drewN 1) w1 → Rd w1 b v (s.next 8) → Hid (Rd (w1.setCell ⟨c, o, none⟩ u) b v (s.next 8)) ∧ Hid (Blk (w1.setCell ⟨c, o, none⟩ u) c 73 (cs.set o u)) ∧ Hid (Chg [b, c] w (w1.setCell ⟨c, o, none⟩ u))) := fun w1 u C R => by
    have C2 : Chg [c] w1 (w1.setCell ⟨c, o, none⟩ u) := (Chg.refl _ _).setCell (.inl (by simp)) _
    exact ⟨R.chg C2 (by simpa using hcb.symm) (fun k hk => by simpa using hvc k hk), ((hB.chg ((Chg.refl [b] w).drewN 1) (by simpa using hcb)).chg C (by simpa using hcb)).set o u, ((Chg.refl _ w).drewN 1).trans ((C.mono (by simp)).trans (C2.mono (by simp)))⟩
  clear h hB hvc hx hold ho
  go_enter Try.func70, Try.ntmps70
  go_wp2_with fail
  go_region_held3 (fun w' : World => w'.cell? ⟨r, 0, none⟩ = some (.func (.func 53) #[] #[]) ∧ w'.cell? ⟨a, 0, none⟩ = some (.pointer (some ⟨c, o, none⟩))) (first | exact ⟨hr, ha⟩ | exact KK.out _ C1.out | exact KK2.out _ _ C1.out) (first
    | (go_at_call 53; refine RD.out.mono ?_; rintro e w1 ⟨rfl, R1, C⟩; have C1 : Hid (Chg [b] (w.drewN 1) w1) := C; obtain ⟨c1, f1⟩ := K0.out _ C; have N1 := Lib.hid (FIN.out w1 (.int .u64 x) C R1); clear C R1))
  all_goals (obtain ⟨n1, n2, n3⟩ := N1.out; clear N1 KK KK2 K0 RD FIN C1 c1 f1; go_wp2_with fail; go_end0; exact ⟨rfl, n1, n2, n3⟩)

theorem field_uu {w : World} {B p r a c o : Nat} (hp : w.cell? ⟨p, 0, none⟩ = some (.func (.func 52) #[] #[])) (hr : w.cell? ⟨r, 0, none⟩ = some (.func (.func 53) #[] #[])) (ha : w.cell? ⟨a, 0, none⟩ = some (.pointer (some ⟨c, o, none⟩))) (bp : B ≤ p) (br : B ≤ r) (ba : B ≤ a) :
    FieldOk w B c (.agg #[.func (.func 69) #[] #[.pointer (some ⟨p, 0, none⟩), .pointer (some ⟨a, 0, none⟩)], .func (.func 70) #[] #[.pointer (some ⟨r, 0, none⟩), .pointer (some ⟨a, 0, none⟩)]]) ⟨some (o, .u64), 8⟩ := by
  have hpl := World.block_lt_of_cell? w _ hp
  have hrl := World.block_lt_of_cell? w _ hr
  have hal := World.block_lt_of_cell? w _ ha
  refine ⟨_, _, _, _, rfl, ⟨enters_put_uu, ?_⟩, ⟨enters_read_uu, ?_⟩⟩
  · rintro w' t b g s cs ch ht pk bl ⟨v, hv, h0, h1⟩
    have e : FD.out cs ⟨some (o, .u64), 8⟩ = leBytes 8 v := by
      simp only [FD.out, List.getD_eq_getElem?_getD, hv]
      rfl
    rw [e]
    have h2 : v ≤ 18446744073709551615 := by
      have e2 : (2 : Int) ^ (8 * 8) = 18446744073709551615 + 1 := by decide
      simp only at h1
      omega
    exact put_uu p a c o b g s v w' ((ch.cell (p := ⟨p, 0, none⟩) hpl (fun hm => by have := ht p hm; omega)).trans hp) ((ch.cell (p := ⟨a, 0, none⟩) hal (fun hm => by have := ht a hm; omega)).trans ha) (bl.cell hv) h0 h2 pk
  · intro w' t b v s cs ch ht rd bl hb hc hcb hvc h0 hroom ho
    exact read_uu r a c o b v s cs w' ((ch.cell (p := ⟨r, 0, none⟩) hrl (fun hm => by have := ht r hm; omega)).trans hr) ((ch.cell (p := ⟨a, 0, none⟩) hal (fun hm => by have := ht a hm; omega)).trans ha) rd bl ho hcb hvc (by omega) (by omega) (by omega) (by omega)

set_option maxHeartbeats 400000 in
set_option maxRecDepth 100000 in
theorem number_uu (c o : Nat) (w : World) :
    Calls Try.prog 51 #[.func (.func 52) #[] #[], .func (.func 53) #[] #[], .pointer (some ⟨c, o, none⟩)] w fun e w' => ∃ v, e = .returned v ∧ Hid (FieldOk w' w.heap.size c v ⟨some (o, .u64), 8⟩) ∧ Hid (Chg [] w w') := by
  go_enter Try.func51, Try.ntmps51
  go_wp2_with fail
  obtain ⟨b1, b2, b3, b4, b5⟩ := four_blocks w (.func (.func 52) #[] #[]) (.func (.func 53) #[] #[]) (.pointer (some ⟨c, o, none⟩)) (.func (.func 69) #[] #[.pointer (some ⟨w.heap.size, 0, none⟩), .pointer (some ⟨w.heap.size + 1 + 1, 0, none⟩)]) (.func (.func 70) #[] #[.pointer (some ⟨w.heap.size + 1, 0, none⟩), .pointer (some ⟨w.heap.size + 1 + 1, 0, none⟩)]) 96 98 100 87
  refine bodyPost_ret (results_cell_row rfl _ _ (w.heap.size + 1 + 1 + 1) _ _ _ _ rfl b4 Try.underlying87 rfl info_field) rfl ?_
  exact ⟨_, rfl, field_uu (b1.cell rfl) (b2.cell rfl) (b3.cell rfl) (Nat.le_refl _) (by omega) (by omega), b5⟩

theorem enters_put_ib (args : Array Value) (w : World) : (callFunc 73 args).run Try.prog w = .ok (.enter 73 args) w := by
  have h1 : (Try.f73.name == "runtime.NumGoroutine") = false := by kernel_rfl
  have h2 : Try.f73.body.isNone = false := by kernel_rfl
  have h3 : ¬ Try.f73.name = "runtime.NumGoroutine" := by simpa using h1
  have h4 : ¬ Try.f73.body = none := fun e => by rw [e] at h2; cases h2
  simp [callFunc, go_sem, Try.func73, h3, h4]

theorem enters_read_ib (args : Array Value) (w : World) : (callFunc 74 args).run Try.prog w = .ok (.enter 74 args) w := by
  have h1 : (Try.f74.name == "runtime.NumGoroutine") = false := by kernel_rfl
  have h2 : Try.f74.body.isNone = false := by kernel_rfl
  have h3 : ¬ Try.f74.name = "runtime.NumGoroutine" := by simpa using h1
  have h4 : ¬ Try.f74.body = none := fun e => by rw [e] at h2; cases h2
  simp [callFunc, go_sem, Try.func74, h3, h4]

set_option maxHeartbeats 400000 in
set_option maxRecDepth 100000 in
theorem put_ib (p a c o b g : Nat) (s : PS) (v : Int) (w : World) (hp : w.cell? ⟨p, 0, none⟩ = some (.func (.func 55) #[] #[])) (ha : w.cell? ⟨a, 0, none⟩ = some (.pointer (some ⟨c, o, none⟩))) (hc : w.cell? ⟨c, o, none⟩ = some (.int .i64 v)) (h0 : 0 ≤ v) (h1 : v ≤ 255) (h : Pk w b g s) :
    Calls Try.prog 73 #[.pointer (some ⟨b, 0, none⟩), .pointer (some ⟨p, 0, none⟩), .pointer (some ⟨a, 0, none⟩)] w (Puts w b g s (leBytes 1 v)) := by
  have hn := u8_any b g s v w.drew (h.drewN 1) h0 h1
  clear h
  go_enter Try.func73, Try.ntmps73
  go_wp2_with fail
  go_still_tail 6, (by kernel_rfl)
  change wpList _ _ _ _ _ w.drew
  have hw : IntKind.u8.wrap v = v := by simp [IntKind.wrap, IntKind.bits, IntKind.signed]; omega
  rw [hw]
  go_wp2_with fail
  refine hn.mono ?_
  rintro e w' ⟨rfl, k1, k2⟩
  replace k1 := Lib.hid k1
  replace k2 := Lib.hid k2
  clear hn
  go_wp2_with fail
  go_end0
  exact ⟨rfl, k1.out, ((Chg.refl _ w).drewN 1).trans k2.out⟩

set_option maxHeartbeats 1000000 in
set_option maxRecDepth 100000 in
theorem read_ib (r a c o b : Nat) (v : Value) (s : RS) (cs : List Value) (w : World) (hr : w.cell? ⟨r, 0, none⟩ = some (.func (.func 56) #[] #[])) (ha : w.cell? ⟨a, 0, none⟩ = some (.pointer (some ⟨c, o, none⟩))) (h : Rd w b v s) (hB : Blk w c 73 cs) (ho : o < cs.length)
    (hcb : c ≠ b) (hvc : ∀ k, v.ownBlock = some k → k ≠ c) (hrb : r ≠ b) (hab : a ≠ b) (hrc : r ≠ c) (hac : a ≠ c) :
    Calls Try.prog 74 #[.pointer (some ⟨b, 0, none⟩), .pointer (some ⟨r, 0, none⟩), .pointer (some ⟨a, 0, none⟩)] w fun e w' => e = .returned (.tuple #[]) ∧ Hid (Rd w' b v (s.next 1)) ∧ Hid (Blk w' c 73 (cs.set o (.int .i64 (leNum (s.got 1))))) ∧ Hid (Chg [b, c] w w') := by
  have RD := Lib.hid (u8R_any b v s (w.drewN 1) (h.chg ((Chg.refl [] w).drewN 1) (by simp) (fun _ _ => by simp)))
  obtain ⟨x0, x1⟩ := RS.got_range h.byt 1
  obtain ⟨x, hx⟩ : ∃ x, x = leNum (s.got 1) := ⟨_, rfl⟩
  rw [← hx] at RD x0 x1 ⊢
  obtain ⟨old, hold⟩ : ∃ u, cs[o]? = some u := ⟨_, List.getElem?_eq_getElem ho⟩
  have cc := hB.cell hold
  have hcl := hB.lt
  have fc := hB.free o
  have hrl := World.block_lt_of_cell? w _ hr
  have hal := World.block_lt_of_cell? w _ ha
  have K0 : Hid (∀ w', Chg [b] (w.drewN 1) w' → w'.cell? ⟨c, o, none⟩ = some old ∧ w'.frozen? ⟨c, o, none⟩ = false) := fun w' C => ⟨(C.cell (p := ⟨c, o, none⟩) hcl (by simpa using hcb)).trans cc, (C.frozen (p := ⟨c, o, none⟩) hcl (by simpa using hcb)).trans fc⟩
  have KK : Hid (∀ w', Chg [b] (w.drewN 1) w' → w'.cell? ⟨r, 0, none⟩ = some (.func (.func 56) #[] #[]) ∧ w'.cell? ⟨a, 0, none⟩ = some (.pointer (some ⟨c, o, none⟩))) := fun w' C => ⟨(C.cell (p := ⟨r, 0, none⟩) hrl (by simpa using hrb)).trans hr, (C.cell (p := ⟨a, 0, none⟩) hal (by simpa using hab)).trans ha⟩
  have KK2 : Hid (∀ w' u, Chg [b] (w.drewN 1) w' → (w'.setCell ⟨c, o, none⟩ u).cell? ⟨r, 0, none⟩ = some (.func (.func 56) #[] #[]) ∧ (w'.setCell ⟨c, o, none⟩ u).cell? ⟨a, 0, none⟩ = some (.pointer (some ⟨c, o, none⟩))) := fun w' u C => by
    obtain ⟨h1, h2⟩ := KK.out w' C
    exact ⟨(World.cell?_setCell_other w' ⟨c, o, none⟩ ⟨r, 0, none⟩ u (fun e => hrc (Addr.mk.inj e).1.symm)).trans h1, (World.cell?_setCell_other w' ⟨c, o, none⟩ ⟨a, 0, none⟩ u (fun e => hac (Addr.mk.inj e).1.symm)).trans h2⟩
  have FIN : Hid (∀ w1 u, Chg [b] (w.drewN 1) w1 → Rd w1 b v (s.next 1) → Hid (Rd (w1.setCell ⟨c, o, none⟩ u) b v (s.next 1)) ∧ Hid (Blk (w1.setCell ⟨c, o, none⟩ u) c 73 (cs.set o u)) ∧ Hid (Chg [b, c] w (w1.setCell ⟨c, o, none⟩ u))) := fun w1 u C R => by
    have C2 : Chg [c] w1 (w1.setCell ⟨c, o, none⟩ u) := (Chg.refl _ _).setCell (.inl (by simp)) _
    exact ⟨R.chg C2 (by simpa using hcb.symm) (fun k hk => by simpa using hvc k hk), ((hB.chg ((Chg.refl [b] w).drewN 1) (by simpa using hcb)).chg C (by simpa using hcb)).set o u, ((Chg.refl _ w).drewN 1).trans ((C.mono (by simp)).trans (C2.mono (by simp)))⟩
  have WR : Hid (IntKind.i64.wrap x = x) := by
    show _ = _
    have e2 : (2 : Int) ^ (8 * 1) = 255 + 1 := by decide
    simp [IntKind.wrap, IntKind.bits, IntKind.signed]; omega
  clear h hB hvc hx hold ho
  go_enter Try.func74, Try.ntmps74
  go_wp2_with fail
  go_region_held3 (fun w' : World => w'.cell? ⟨r, 0, none⟩ = some (.func (.func 56) #[] #[]) ∧ w'.cell? ⟨a, 0, none⟩ = some (.pointer (some ⟨c, o, none⟩))) (first | exact ⟨hr, ha⟩ | exact KK.out _ C1.out | exact KK2.out _ _ C1.out) (first
    | (go_at_call 56; refine RD.out.mono ?_; rintro e w1 ⟨rfl, R1, C⟩; have C1 : Hid (Chg [b] (w.drewN 1) w1) := C; obtain ⟨c1, f1⟩ := K0.out _ C; have N1 := Lib.hid (FIN.out w1 (.int .i64 x) C R1); clear C R1))
  all_goals (obtain ⟨n1, n2, n3⟩ := N1.out; clear N1 KK KK2 K0 RD FIN C1 c1 f1; go_wp2_with fail; go_end0; rw [show IntKind.i64.wrap x = x from WR.out]; exact ⟨rfl, n1, n2, n3⟩)

theorem field_ib {w : World} {B p r a c o : Nat} (hp : w.cell? ⟨p, 0, none⟩ = some (.func (.func 55) #[] #[])) (hr : w.cell? ⟨r, 0, none⟩ = some (.func (.func 56) #[] #[])) (ha : w.cell? ⟨a, 0, none⟩ = some (.pointer (some ⟨c, o, none⟩))) (bp : B ≤ p) (br : B ≤ r) (ba : B ≤ a) :
    FieldOk w B c (.agg #[.func (.func 73) #[] #[.pointer (some ⟨p, 0, none⟩), .pointer (some ⟨a, 0, none⟩)], .func (.func 74) #[] #[.pointer (some ⟨r, 0, none⟩), .pointer (some ⟨a, 0, none⟩)]]) ⟨some (o, .i64), 1⟩ := by
  have hpl := World.block_lt_of_cell? w _ hp
  have hrl := World.block_lt_of_cell? w _ hr
  have hal := World.block_lt_of_cell? w _ ha
  refine ⟨_, _, _, _, rfl, ⟨enters_put_ib, ?_⟩, ⟨enters_read_ib, ?_⟩⟩
  · rintro w' t b g s cs ch ht pk bl ⟨v, hv, h0, h1⟩
    have e : FD.out cs ⟨some (o, .i64), 1⟩ = leBytes 1 v := by
      simp only [FD.out, List.getD_eq_getElem?_getD, hv]
      rfl
    rw [e]
    have h2 : v ≤ 255 := by
      have e2 : (2 : Int) ^ (8 * 1) = 255 + 1 := by decide
      simp only at h1
      omega
    exact put_ib p a c o b g s v w' ((ch.cell (p := ⟨p, 0, none⟩) hpl (fun hm => by have := ht p hm; omega)).trans hp) ((ch.cell (p := ⟨a, 0, none⟩) hal (fun hm => by have := ht a hm; omega)).trans ha) (bl.cell hv) h0 h2 pk
  · intro w' t b v s cs ch ht rd bl hb hc hcb hvc h0 hroom ho
    exact read_ib r a c o b v s cs w' ((ch.cell (p := ⟨r, 0, none⟩) hrl (fun hm => by have := ht r hm; omega)).trans hr) ((ch.cell (p := ⟨a, 0, none⟩) hal (fun hm => by have := ht a hm; omega)).trans ha) rd bl ho hcb hvc (by omega) (by omega) (by omega) (by omega)

set_option maxHeartbeats 400000 in
set_option maxRecDepth 100000 in
theorem number_ib (c o : Nat) (w : World) :
    Calls Try.prog 54 #[.func (.func 55) #[] #[], .func (.func 56) #[] #[], .pointer (some ⟨c, o, none⟩)] w fun e w' => ∃ v, e = .returned v ∧ Hid (FieldOk w' w.heap.size c v ⟨some (o, .i64), 1⟩) ∧ Hid (Chg [] w w') := by
  go_enter Try.func54, Try.ntmps54
  go_wp2_with fail
  obtain ⟨b1, b2, b3, b4, b5⟩ := four_blocks w (.func (.func 55) #[] #[]) (.func (.func 56) #[] #[]) (.pointer (some ⟨c, o, none⟩)) (.func (.func 73) #[] #[.pointer (some ⟨w.heap.size, 0, none⟩), .pointer (some ⟨w.heap.size + 1 + 1, 0, none⟩)]) (.func (.func 74) #[] #[.pointer (some ⟨w.heap.size + 1, 0, none⟩), .pointer (some ⟨w.heap.size + 1 + 1, 0, none⟩)]) 102 104 106 87
  refine bodyPost_ret (results_cell_row rfl _ _ (w.heap.size + 1 + 1 + 1) _ _ _ _ rfl b4 Try.underlying87 rfl info_field) rfl ?_
  exact ⟨_, rfl, field_ib (b1.cell rfl) (b2.cell rfl) (b3.cell rfl) (Nat.le_refl _) (by omega) (by omega), b5⟩

theorem enters_put_bb (args : Array Value) (w : World) : (callFunc 75 args).run Try.prog w = .ok (.enter 75 args) w := by
  have h1 : (Try.f75.name == "runtime.NumGoroutine") = false := by kernel_rfl
  have h2 : Try.f75.body.isNone = false := by kernel_rfl
  have h3 : ¬ Try.f75.name = "runtime.NumGoroutine" := by simpa using h1
  have h4 : ¬ Try.f75.body = none := fun e => by rw [e] at h2; cases h2
  simp [callFunc, go_sem, Try.func75, h3, h4]

theorem enters_read_bb (args : Array Value) (w : World) : (callFunc 76 args).run Try.prog w = .ok (.enter 76 args) w := by
  have h1 : (Try.f76.name == "runtime.NumGoroutine") = false := by kernel_rfl
  have h2 : Try.f76.body.isNone = false := by kernel_rfl
  have h3 : ¬ Try.f76.name = "runtime.NumGoroutine" := by simpa using h1
  have h4 : ¬ Try.f76.body = none := fun e => by rw [e] at h2; cases h2
  simp [callFunc, go_sem, Try.func76, h3, h4]

set_option maxHeartbeats 400000 in
set_option maxRecDepth 100000 in
theorem put_bb (p a c o b g : Nat) (s : PS) (v : Int) (w : World) (hp : w.cell? ⟨p, 0, none⟩ = some (.func (.func 55) #[] #[])) (ha : w.cell? ⟨a, 0, none⟩ = some (.pointer (some ⟨c, o, none⟩))) (hc : w.cell? ⟨c, o, none⟩ = some (.int .u8 v)) (h0 : 0 ≤ v) (h1 : v ≤ 255) (h : Pk w b g s) :
    Calls Try.prog 75 #[.pointer (some ⟨b, 0, none⟩), .pointer (some ⟨p, 0, none⟩), .pointer (some ⟨a, 0, none⟩)] w (Puts w b g s (leBytes 1 v)) := by
  have hn := u8_any b g s v w.drew (h.drewN 1) h0 h1
  clear h
  go_enter Try.func75, Try.ntmps75
  go_wp2_with fail
  go_still_tail 5, (by kernel_rfl)
  change wpList _ _ _ _ _ w.drew
  go_wp2_with fail
  refine hn.mono ?_
  rintro e w' ⟨rfl, k1, k2⟩
  replace k1 := Lib.hid k1
  replace k2 := Lib.hid k2
  clear hn
  go_wp2_with fail
  go_end0
  exact ⟨rfl, k1.out, ((Chg.refl _ w).drewN 1).trans k2.out⟩

set_option maxHeartbeats 1000000 in
set_option maxRecDepth 100000 in
theorem read_bb (r a c o b : Nat) (v : Value) (s : RS) (cs : List Value) (w : World) (hr : w.cell? ⟨r, 0, none⟩ = some (.func (.func 56) #[] #[])) (ha : w.cell? ⟨a, 0, none⟩ = some (.pointer (some ⟨c, o, none⟩))) (h : Rd w b v s) (hB : Blk w c 73 cs) (ho : o < cs.length)
    (hcb : c ≠ b) (hvc : ∀ k, v.ownBlock = some k → k ≠ c) (hrb : r ≠ b) (hab : a ≠ b) (hrc : r ≠ c) (hac : a ≠ c) :
    Calls Try.prog 76 #[.pointer (some ⟨b, 0, none⟩), .pointer (some ⟨r, 0, none⟩), .pointer (some ⟨a, 0, none⟩)] w fun e w' => e = .returned (.tuple #[]) ∧ Hid (Rd w' b v (s.next 1)) ∧ Hid (Blk w' c 73 (cs.set o (.int .u8 (leNum (s.got 1))))) ∧ Hid (Chg [b, c] w w') := by
  have RD := Lib.hid (u8R_any b v s (w.drewN 1) (h.chg ((Chg.refl [] w).drewN 1) (by simp) (fun _ _ => by simp)))
  obtain ⟨x0, x1⟩ := RS.got_range h.byt 1
  obtain ⟨x, hx⟩ : ∃ x, x = leNum (s.got 1) := ⟨_, rfl⟩
  rw [← hx] at RD x0 x1 ⊢
  obtain ⟨old, hold⟩ : ∃ u, cs[o]? = some u := ⟨_, List.getElem?_eq_getElem ho⟩
  have cc := hB.cell hold
  have hcl := hB.lt
  have fc := hB.free o
  have hrl := World.block_lt_of_cell? w _ hr
  have hal := World.block_lt_of_cell? w _ ha
  have K0 : Hid (∀ w', Chg [b] (w.drewN 1) w' → w'.cell? ⟨c, o, none⟩ = some old ∧ w'.frozen? ⟨c, o, none⟩ = false) := fun w' C => ⟨(C.cell (p := ⟨c, o, none⟩) hcl (by simpa using hcb)).trans cc, (C.frozen (p := ⟨c, o, none⟩) hcl (by simpa using hcb)).trans fc⟩
  have KK : Hid (∀ w', Chg [b] (w.drewN 1) w' → w'.cell? ⟨r, 0, none⟩ = some (.func (.func 56) #[] #[]) ∧ w'.cell? ⟨a, 0, none⟩ = some (.pointer (some ⟨c, o, none⟩))) := fun w' C => ⟨(C.cell (p := ⟨r, 0, none⟩) hrl (by simpa using hrb)).trans hr, (C.cell (p := ⟨a, 0, none⟩) hal (by simpa using hab)).trans ha⟩
  have KK2 : Hid (∀ w' u, Chg [b] (w.drewN 1) w' → (w'.setCell ⟨c, o, none⟩ u).cell? ⟨r, 0, none⟩ = some (.func (.func 56) #[] #[]) ∧ (w'.setCell ⟨c, o, none⟩ u).cell? ⟨a, 0, none⟩ = some (.pointer (some ⟨c, o, none⟩))) := fun w' u C => by
    obtain ⟨h1, h2⟩ := KK.out w' C
    exact ⟨(World.cell?_setCell_other w' ⟨c, o, none⟩ ⟨r, 0, none⟩ u (fun e => hrc (Addr.mk.inj e).1.symm)).trans h1, (World.cell?_setCell_other w' ⟨c, o, none⟩ ⟨a, 0, none⟩ u (fun e => hac (Addr.mk.inj e).1.symm)).trans h2⟩
  have FIN : Hid (∀ w1 u, Chg [b] (w.drewN 1) w1 → Rd w1 b v (s.next 1) → Hid (Rd (w1.setCell ⟨c, o, none⟩ u) b v (s.next 1)) ∧ Hid (Blk (w1.setCell ⟨c, o, none⟩ u) c 73 (cs.set o u)) ∧ Hid (Chg [b, c] w (w1.setCell ⟨c, o, none⟩ u))) := fun w1 u C R => by
    have C2 : Chg [c] w1 (w1.setCell ⟨c, o, none⟩ u) := (Chg.refl _ _).setCell (.inl (by simp)) _
    exact ⟨R.chg C2 (by simpa using hcb.symm) (fun k hk => by simpa using hvc k hk), ((hB.chg ((Chg.refl [b] w).drewN 1) (by simpa using hcb)).chg C (by simpa using hcb)).set o u, ((Chg.refl _ w).drewN 1).trans ((C.mono (by simp)).trans (C2.mono (by simp)))⟩
  clear h hB hvc hx hold ho
  go_enter Try.func76, Try.ntmps76
  go_wp2_with fail
  go_region_held3 (fun w' : World => w'.cell? ⟨r, 0, none⟩ = some (.func (.func 56) #[] #[]) ∧ w'.cell? ⟨a, 0, none⟩ = some (.pointer (some ⟨c, o, none⟩))) (first | exact ⟨hr, ha⟩ | exact KK.out _ C1.out | exact KK2.out _ _ C1.out) (first
    | (go_at_call 56; refine RD.out.mono ?_; rintro e w1 ⟨rfl, R1, C⟩; have C1 : Hid (Chg [b] (w.drewN 1) w1) := C; obtain ⟨c1, f1⟩ := K0.out _ C; have N1 := Lib.hid (FIN.out w1 (.int .u8 x) C R1); clear C R1))
  all_goals (obtain ⟨n1, n2, n3⟩ := N1.out; clear N1 KK KK2 K0 RD FIN C1 c1 f1; go_wp2_with fail; go_end0; exact ⟨rfl, n1, n2, n3⟩)

theorem field_bb {w : World} {B p r a c o : Nat} (hp : w.cell? ⟨p, 0, none⟩ = some (.func (.func 55) #[] #[])) (hr : w.cell? ⟨r, 0, none⟩ = some (.func (.func 56) #[] #[])) (ha : w.cell? ⟨a, 0, none⟩ = some (.pointer (some ⟨c, o, none⟩))) (bp : B ≤ p) (br : B ≤ r) (ba : B ≤ a) :
    FieldOk w B c (.agg #[.func (.func 75) #[] #[.pointer (some ⟨p, 0, none⟩), .pointer (some ⟨a, 0, none⟩)], .func (.func 76) #[] #[.pointer (some ⟨r, 0, none⟩), .pointer (some ⟨a, 0, none⟩)]]) ⟨some (o, .u8), 1⟩ := by
  have hpl := World.block_lt_of_cell? w _ hp
  have hrl := World.block_lt_of_cell? w _ hr
  have hal := World.block_lt_of_cell? w _ ha
  refine ⟨_, _, _, _, rfl, ⟨enters_put_bb, ?_⟩, ⟨enters_read_bb, ?_⟩⟩
  · rintro w' t b g s cs ch ht pk bl ⟨v, hv, h0, h1⟩
    have e : FD.out cs ⟨some (o, .u8), 1⟩ = leBytes 1 v := by
      simp only [FD.out, List.getD_eq_getElem?_getD, hv]
      rfl
    rw [e]
    have h2 : v ≤ 255 := by
      have e2 : (2 : Int) ^ (8 * 1) = 255 + 1 := by decide
      simp only at h1
      omega
    exact put_bb p a c o b g s v w' ((ch.cell (p := ⟨p, 0, none⟩) hpl (fun hm => by have := ht p hm; omega)).trans hp) ((ch.cell (p := ⟨a, 0, none⟩) hal (fun hm => by have := ht a hm; omega)).trans ha) (bl.cell hv) h0 h2 pk
  · intro w' t b v s cs ch ht rd bl hb hc hcb hvc h0 hroom ho
    exact read_bb r a c o b v s cs w' ((ch.cell (p := ⟨r, 0, none⟩) hrl (fun hm => by have := ht r hm; omega)).trans hr) ((ch.cell (p := ⟨a, 0, none⟩) hal (fun hm => by have := ht a hm; omega)).trans ha) rd bl ho hcb hvc (by omega) (by omega) (by omega) (by omega)

set_option maxHeartbeats 400000 in
set_option maxRecDepth 100000 in
theorem number_bb (c o : Nat) (w : World) :
    Calls Try.prog 57 #[.func (.func 55) #[] #[], .func (.func 56) #[] #[], .pointer (some ⟨c, o, none⟩)] w fun e w' => ∃ v, e = .returned v ∧ Hid (FieldOk w' w.heap.size c v ⟨some (o, .u8), 1⟩) ∧ Hid (Chg [] w w') := by
  go_enter Try.func57, Try.ntmps57
  go_wp2_with fail
  obtain ⟨b1, b2, b3, b4, b5⟩ := four_blocks w (.func (.func 55) #[] #[]) (.func (.func 56) #[] #[]) (.pointer (some ⟨c, o, none⟩)) (.func (.func 75) #[] #[.pointer (some ⟨w.heap.size, 0, none⟩), .pointer (some ⟨w.heap.size + 1 + 1, 0, none⟩)]) (.func (.func 76) #[] #[.pointer (some ⟨w.heap.size + 1, 0, none⟩), .pointer (some ⟨w.heap.size + 1 + 1, 0, none⟩)]) 102 104 108 87
  refine bodyPost_ret (results_cell_row rfl _ _ (w.heap.size + 1 + 1 + 1) _ _ _ _ rfl b4 Try.underlying87 rfl info_field) rfl ?_
  exact ⟨_, rfl, field_bb (b1.cell rfl) (b2.cell rfl) (b3.cell rfl) (Nat.le_refl _) (by omega) (by omega), b5⟩

theorem enters_put_ih (args : Array Value) (w : World) : (callFunc 77 args).run Try.prog w = .ok (.enter 77 args) w := by
  have h1 : (Try.f77.name == "runtime.NumGoroutine") = false := by kernel_rfl
  have h2 : Try.f77.body.isNone = false := by kernel_rfl
  have h3 : ¬ Try.f77.name = "runtime.NumGoroutine" := by simpa using h1
  have h4 : ¬ Try.f77.body = none := fun e => by rw [e] at h2; cases h2
  simp [callFunc, go_sem, Try.func77, h3, h4]

theorem enters_read_ih (args : Array Value) (w : World) : (callFunc 78 args).run Try.prog w = .ok (.enter 78 args) w := by
  have h1 : (Try.f78.name == "runtime.NumGoroutine") = false := by kernel_rfl
  have h2 : Try.f78.body.isNone = false := by kernel_rfl
  have h3 : ¬ Try.f78.name = "runtime.NumGoroutine" := by simpa using h1
  have h4 : ¬ Try.f78.body = none := fun e => by rw [e] at h2; cases h2
  simp [callFunc, go_sem, Try.func78, h3, h4]

set_option maxHeartbeats 400000 in
set_option maxRecDepth 100000 in
theorem put_ih (p a c o b g : Nat) (s : PS) (v : Int) (w : World) (hp : w.cell? ⟨p, 0, none⟩ = some (.func (.func 59) #[] #[])) (ha : w.cell? ⟨a, 0, none⟩ = some (.pointer (some ⟨c, o, none⟩))) (hc : w.cell? ⟨c, o, none⟩ = some (.int .i64 v)) (h0 : 0 ≤ v) (h1 : v ≤ 65535) (h : Pk w b g s) :
    Calls Try.prog 77 #[.pointer (some ⟨b, 0, none⟩), .pointer (some ⟨p, 0, none⟩), .pointer (some ⟨a, 0, none⟩)] w (Puts w b g s (leBytes 2 v)) := by
  have hn := u16_any b g s v w.drew (h.drewN 1) h0 h1
  clear h
  go_enter Try.func77, Try.ntmps77
  go_wp2_with fail
  go_still_tail 6, (by kernel_rfl)
  change wpList _ _ _ _ _ w.drew
  have hw : IntKind.u16.wrap v = v := by simp [IntKind.wrap, IntKind.bits, IntKind.signed]; omega
  rw [hw]
  go_wp2_with fail
  refine hn.mono ?_
  rintro e w' ⟨rfl, k1, k2⟩
  replace k1 := Lib.hid k1
  replace k2 := Lib.hid k2
  clear hn
  go_wp2_with fail
  go_end0
  exact ⟨rfl, k1.out, ((Chg.refl _ w).drewN 1).trans k2.out⟩

set_option maxHeartbeats 1000000 in
set_option maxRecDepth 100000 in
theorem read_ih (r a c o b : Nat) (v : Value) (s : RS) (cs : List Value) (w : World) (hr : w.cell? ⟨r, 0, none⟩ = some (.func (.func 60) #[] #[])) (ha : w.cell? ⟨a, 0, none⟩ = some (.pointer (some ⟨c, o, none⟩))) (h : Rd w b v s) (hB : Blk w c 73 cs) (ho : o < cs.length)
    (hcb : c ≠ b) (hvc : ∀ k, v.ownBlock = some k → k ≠ c) (hrb : r ≠ b) (hab : a ≠ b) (hrc : r ≠ c) (hac : a ≠ c) :
    Calls Try.prog 78 #[.pointer (some ⟨b, 0, none⟩), .pointer (some ⟨r, 0, none⟩), .pointer (some ⟨a, 0, none⟩)] w fun e w' => e = .returned (.tuple #[]) ∧ Hid (Rd w' b v (s.next 2)) ∧ Hid (Blk w' c 73 (cs.set o (.int .i64 (leNum (s.got 2))))) ∧ Hid (Chg [b, c] w w') := by
  have RD := Lib.hid (u16R_any b v s (w.drewN 1) (h.chg ((Chg.refl [] w).drewN 1) (by simp) (fun _ _ => by simp)))
  obtain ⟨x0, x1⟩ := RS.got_range h.byt 2
  obtain ⟨x, hx⟩ : ∃ x, x = leNum (s.got 2) := ⟨_, rfl⟩
  rw [← hx] at RD x0 x1 ⊢
  obtain ⟨old, hold⟩ : ∃ u, cs[o]? = some u := ⟨_, List.getElem?_eq_getElem ho⟩
  have cc := hB.cell hold
  have hcl := hB.lt
  have fc := hB.free o
  have hrl := World.block_lt_of_cell? w _ hr
  have hal := World.block_lt_of_cell? w _ ha
  have K0 : Hid (∀ w', Chg [b] (w.drewN 1) w' → w'.cell? ⟨c, o, none⟩ = some old ∧ w'.frozen? ⟨c, o, none⟩ = false) := fun w' C => ⟨(C.cell (p := ⟨c, o, none⟩) hcl (by simpa using hcb)).trans cc, (C.frozen (p := ⟨c, o, none⟩) hcl (by simpa using hcb)).trans fc⟩
  have KK : Hid (∀ w', Chg [b] (w.drewN 1) w' → w'.cell? ⟨r, 0, none⟩ = some (.func (.func 60) #[] #[]) ∧ w'.cell? ⟨a, 0, none⟩ = some (.pointer (some ⟨c, o, none⟩))) := fun w' C => ⟨(C.cell (p := ⟨r, 0, none⟩) hrl (by simpa using hrb)).trans hr, (C.cell (p := ⟨a, 0, none⟩) hal (by simpa using hab)).trans ha⟩
  have KK2 : Hid (∀ w' u, Chg [b] (w.drewN 1) w' → (w'.setCell ⟨c, o, none⟩ u).cell? ⟨r, 0, none⟩ = some (.func (.func 60) #[] #[]) ∧ (w'.setCell ⟨c, o, none⟩ u).cell? ⟨a, 0, none⟩ = some (.pointer (some ⟨c, o, none⟩))) := fun w' u C => by
    obtain ⟨h1, h2⟩ := KK.out w' C
    exact ⟨(World.cell?_setCell_other w' ⟨c, o, none⟩ ⟨r, 0, none⟩ u (fun e => hrc (Addr.mk.inj e).1.symm)).trans h1, (World.cell?_setCell_other w' ⟨c, o, none⟩ ⟨a, 0, none⟩ u (fun e => hac (Addr.mk.inj e).1.symm)).trans h2⟩
  have FIN : Hid (∀ w1 u, Chg [b] (w.drewN 1) w1 → Rd w1 b v (s.next 2) → Hid (Rd (w1.setCell ⟨c, o, none⟩ u) b v (s.next 2)) ∧ Hid (Blk (w1.setCell ⟨c, o, none⟩ u) c 73 (cs.set o u)) ∧ Hid (Chg [b, c] w (w1.setCell ⟨c, o, none⟩ u))) := fun w1 u C R => by
    have C2 : Chg [c] w1 (w1.setCell ⟨c, o, none⟩ u) := (Chg.refl _ _).setCell (.inl (by simp)) _
    exact ⟨R.chg C2 (by simpa using hcb.symm) (fun k hk => by simpa using hvc k hk), ((hB.chg ((Chg.refl [b] w).drewN 1) (by simpa using hcb)).chg C (by simpa using hcb)).set o u, ((Chg.refl _ w).drewN 1).trans ((C.mono (by simp)).trans (C2.mono (by simp)))⟩
  have WR : Hid (IntKind.i64.wrap x = x) := by
    show _ = _
    have e2 : (2 : Int) ^ (8 * 2) = 65535 + 1 := by decide
    simp [IntKind.wrap, IntKind.bits, IntKind.signed]; omega
  clear h hB hvc hx hold ho
  go_enter Try.func78, Try.ntmps78
  go_wp2_with fail
  go_region_held3 (fun w' : World => w'.cell? ⟨r, 0, none⟩ = some (.func (.func 60) #[] #[]) ∧ w'.cell? ⟨a, 0, none⟩ = some (.pointer (some ⟨c, o, none⟩))) (first | exact ⟨hr, ha⟩ | exact KK.out _ C1.out | exact KK2.out _ _ C1.out) (first
    | (go_at_call 60; refine RD.out.mono ?_; rintro e w1 ⟨rfl, R1, C⟩; have C1 : Hid (Chg [b] (w.drewN 1) w1) := C; obtain ⟨c1, f1⟩ := K0.out _ C; have N1 := Lib.hid (FIN.out w1 (.int .i64 x) C R1); clear C R1))
  all_goals (obtain ⟨n1, n2, n3⟩ := N1.out; clear N1 KK KK2 K0 RD FIN C1 c1 f1; go_wp2_with fail; go_end0; rw [show IntKind.i64.wrap x = x from WR.out]; exact ⟨rfl, n1, n2, n3⟩)

theorem field_ih {w : World} {B p r a c o : Nat} (hp : w.cell? ⟨p, 0, none⟩ = some (.func (.func 59) #[] #[])) (hr : w.cell? ⟨r, 0, none⟩ = some (.func (.func 60) #[] #[])) (ha : w.cell? ⟨a, 0, none⟩ = some (.pointer (some ⟨c, o, none⟩))) (bp : B ≤ p) (br : B ≤ r) (ba : B ≤ a) :
    FieldOk w B c (.agg #[.func (.func 77) #[] #[.pointer (some ⟨p, 0, none⟩), .pointer (some ⟨a, 0, none⟩)], .func (.func 78) #[] #[.pointer (some ⟨r, 0, none⟩), .pointer (some ⟨a, 0, none⟩)]]) ⟨some (o, .i64), 2⟩ := by
  have hpl := World.block_lt_of_cell? w _ hp
  have hrl := World.block_lt_of_cell? w _ hr
  have hal := World.block_lt_of_cell? w _ ha
  refine ⟨_, _, _, _, rfl, ⟨enters_put_ih, ?_⟩, ⟨enters_read_ih, ?_⟩⟩
  · rintro w' t b g s cs ch ht pk bl ⟨v, hv, h0, h1⟩
    have e : FD.out cs ⟨some (o, .i64), 2⟩ = leBytes 2 v := by
      simp only [FD.out, List.getD_eq_getElem?_getD, hv]
      rfl
    rw [e]
    have h2 : v ≤ 65535 := by
      have e2 : (2 : Int) ^ (8 * 2) = 65535 + 1 := by decide
      simp only at h1
      omega
    exact put_ih p a c o b g s v w' ((ch.cell (p := ⟨p, 0, none⟩) hpl (fun hm => by have := ht p hm; omega)).trans hp) ((ch.cell (p := ⟨a, 0, none⟩) hal (fun hm => by have := ht a hm; omega)).trans ha) (bl.cell hv) h0 h2 pk
  · intro w' t b v s cs ch ht rd bl hb hc hcb hvc h0 hroom ho
    exact read_ih r a c o b v s cs w' ((ch.cell (p := ⟨r, 0, none⟩) hrl (fun hm => by have := ht r hm; omega)).trans hr) ((ch.cell (p := ⟨a, 0, none⟩) hal (fun hm => by have := ht a hm; omega)).trans ha) rd bl ho hcb hvc (by omega) (by omega) (by omega) (by omega)

set_option maxHeartbeats 400000 in
set_option maxRecDepth 100000 in
theorem number_ih (c o : Nat) (w : World) :
    Calls Try.prog 58 #[.func (.func 59) #[] #[], .func (.func 60) #[] #[], .pointer (some ⟨c, o, none⟩)] w fun e w' => ∃ v, e = .returned v ∧ Hid (FieldOk w' w.heap.size c v ⟨some (o, .i64), 2⟩) ∧ Hid (Chg [] w w') := by
  go_enter Try.func58, Try.ntmps58
  go_wp2_with fail
  obtain ⟨b1, b2, b3, b4, b5⟩ := four_blocks w (.func (.func 59) #[] #[]) (.func (.func 60) #[] #[]) (.pointer (some ⟨c, o, none⟩)) (.func (.func 77) #[] #[.pointer (some ⟨w.heap.size, 0, none⟩), .pointer (some ⟨w.heap.size + 1 + 1, 0, none⟩)]) (.func (.func 78) #[] #[.pointer (some ⟨w.heap.size + 1, 0, none⟩), .pointer (some ⟨w.heap.size + 1 + 1, 0, none⟩)]) 110 112 106 87
  refine bodyPost_ret (results_cell_row rfl _ _ (w.heap.size + 1 + 1 + 1) _ _ _ _ rfl b4 Try.underlying87 rfl info_field) rfl ?_
  exact ⟨_, rfl, field_ih (b1.cell rfl) (b2.cell rfl) (b3.cell rfl) (Nat.le_refl _) (by omega) (by omega), b5⟩

theorem enters_put_sb (args : Array Value) (w : World) : (callFunc 88 args).run Try.prog w = .ok (.enter 88 args) w := by
  have h1 : (Try.f88.name == "runtime.NumGoroutine") = false := by kernel_rfl
  have h2 : Try.f88.body.isNone = false := by kernel_rfl
  have h3 : ¬ Try.f88.name = "runtime.NumGoroutine" := by simpa using h1
  have h4 : ¬ Try.f88.body = none := fun e => by rw [e] at h2; cases h2
  simp [callFunc, go_sem, Try.func88, h3, h4]

theorem enters_read_sb (args : Array Value) (w : World) : (callFunc 89 args).run Try.prog w = .ok (.enter 89 args) w := by
  have h1 : (Try.f89.name == "runtime.NumGoroutine") = false := by kernel_rfl
  have h2 : Try.f89.body.isNone = false := by kernel_rfl
  have h3 : ¬ Try.f89.name = "runtime.NumGoroutine" := by simpa using h1
  have h4 : ¬ Try.f89.body = none := fun e => by rw [e] at h2; cases h2
  simp [callFunc, go_sem, Try.func89, h3, h4]

set_option maxHeartbeats 400000 in
set_option maxRecDepth 100000 in
theorem put_sb (p a c o b g : Nat) (s : PS) (v : Int) (w : World) (hp : w.cell? ⟨p, 0, none⟩ = some (.func (.func 55) #[] #[])) (ha : w.cell? ⟨a, 0, none⟩ = some (.pointer (some ⟨c, o, none⟩))) (hc : w.cell? ⟨c, o, none⟩ = some (.int .u8 v)) (h0 : 0 ≤ v) (h1 : v ≤ 255) (h : Pk w b g s) :
    Calls Try.prog 88 #[.pointer (some ⟨b, 0, none⟩), .pointer (some ⟨p, 0, none⟩), .pointer (some ⟨a, 0, none⟩)] w (Puts w b g s (leBytes 1 v)) := by
  have hn := u8_any b g s v w.drew (h.drewN 1) h0 h1
  clear h
  go_enter Try.func88, Try.ntmps88
  go_wp2_with fail
  go_still_tail 5, (by kernel_rfl)
  change wpList _ _ _ _ _ w.drew
  go_wp2_with fail
  refine hn.mono ?_
  rintro e w' ⟨rfl, k1, k2⟩
  replace k1 := Lib.hid k1
  replace k2 := Lib.hid k2
  clear hn
  go_wp2_with fail
  go_end0
  exact ⟨rfl, k1.out, ((Chg.refl _ w).drewN 1).trans k2.out⟩

set_option maxHeartbeats 1000000 in
set_option maxRecDepth 100000 in
theorem read_sb (r a c o b : Nat) (v : Value) (s : RS) (cs : List Value) (w : World) (hr : w.cell? ⟨r, 0, none⟩ = some (.func (.func 56) #[] #[])) (ha : w.cell? ⟨a, 0, none⟩ = some (.pointer (some ⟨c, o, none⟩))) (h : Rd w b v s) (hB : Blk w c 73 cs) (ho : o < cs.length)
    (hcb : c ≠ b) (hvc : ∀ k, v.ownBlock = some k → k ≠ c) (hrb : r ≠ b) (hab : a ≠ b) (hrc : r ≠ c) (hac : a ≠ c) :
    Calls Try.prog 89 #[.pointer (some ⟨b, 0, none⟩), .pointer (some ⟨r, 0, none⟩), .pointer (some ⟨a, 0, none⟩)] w fun e w' => e = .returned (.tuple #[]) ∧ Hid (Rd w' b v (s.next 1)) ∧ Hid (Blk w' c 73 (cs.set o (.int .u8 (leNum (s.got 1))))) ∧ Hid (Chg [b, c] w w') := by
  have RD := Lib.hid (u8R_any b v s (w.drewN 1) (h.chg ((Chg.refl [] w).drewN 1) (by simp) (fun _ _ => by simp)))
  obtain ⟨x0, x1⟩ := RS.got_range h.byt 1
  obtain ⟨x, hx⟩ : ∃ x, x = leNum (s.got 1) := ⟨_, rfl⟩
  rw [← hx] at RD x0 x1 ⊢
  obtain ⟨old, hold⟩ : ∃ u, cs[o]? = some u := ⟨_, List.getElem?_eq_getElem ho⟩
  have cc := hB.cell hold
  have hcl := hB.lt
  have fc := hB.free o
  have hrl := World.block_lt_of_cell? w _ hr
  have hal := World.block_lt_of_cell? w _ ha
  have K0 : Hid (∀ w', Chg [b] (w.drewN 1) w' → w'.cell? ⟨c, o, none⟩ = some old ∧ w'.frozen? ⟨c, o, none⟩ = false) := fun w' C => ⟨(C.cell (p := ⟨c, o, none⟩) hcl (by simpa using hcb)).trans cc, (C.frozen (p := ⟨c, o, none⟩) hcl (by simpa using hcb)).trans fc⟩
  have KK : Hid (∀ w', Chg [b] (w.drewN 1) w' → w'.cell? ⟨r, 0, none⟩ = some (.func (.func 56) #[] #[]) ∧ w'.cell? ⟨a, 0, none⟩ = some (.pointer (some ⟨c, o, none⟩))) := fun w' C => ⟨(C.cell (p := ⟨r, 0, none⟩) hrl (by simpa using hrb)).trans hr, (C.cell (p := ⟨a, 0, none⟩) hal (by simpa using hab)).trans ha⟩
  have KK2 : Hid (∀ w' u, Chg [b] (w.drewN 1) w' → (w'.setCell ⟨c, o, none⟩ u).cell? ⟨r, 0, none⟩ = some (.func (.func 56) #[] #[]) ∧ (w'.setCell ⟨c, o, none⟩ u).cell? ⟨a, 0, none⟩ = some (.pointer (some ⟨c, o, none⟩))) := fun w' u C => by
    obtain ⟨h1, h2⟩ := KK.out w' C
    exact ⟨(World.cell?_setCell_other w' ⟨c, o, none⟩ ⟨r, 0, none⟩ u (fun e => hrc (Addr.mk.inj e).1.symm)).trans h1, (World.cell?_setCell_other w' ⟨c, o, none⟩ ⟨a, 0, none⟩ u (fun e => hac (Addr.mk.inj e).1.symm)).trans h2⟩
  have FIN : Hid (∀ w1 u, Chg [b] (w.drewN 1) w1 → Rd w1 b v (s.next 1) → Hid (Rd (w1.setCell ⟨c, o, none⟩ u) b v (s.next 1)) ∧ Hid (Blk (w1.setCell ⟨c, o, none⟩ u) c 73 (cs.set o u)) ∧ Hid (Chg [b, c] w (w1.setCell ⟨c, o, none⟩ u))) := fun w1 u C R => by
    have C2 : Chg [c] w1 (w1.setCell ⟨c, o, none⟩ u) := (Chg.refl _ _).setCell (.inl (by simp)) _
    exact ⟨R.chg C2 (by simpa using hcb.symm) (fun k hk => by simpa using hvc k hk), ((hB.chg ((Chg.refl [b] w).drewN 1) (by simpa using hcb)).chg C (by simpa using hcb)).set o u, ((Chg.refl _ w).drewN 1).trans ((C.mono (by simp)).trans (C2.mono (by simp)))⟩
  clear h hB hvc hx hold ho
  go_enter Try.func89, Try.ntmps89
  go_wp2_with fail
  go_region_held3 (fun w' : World => w'.cell? ⟨r, 0, none⟩ = some (.func (.func 56) #[] #[]) ∧ w'.cell? ⟨a, 0, none⟩ = some (.pointer (some ⟨c, o, none⟩))) (first | exact ⟨hr, ha⟩ | exact KK.out _ C1.out | exact KK2.out _ _ C1.out) (first
    | (go_at_call 56; refine RD.out.mono ?_; rintro e w1 ⟨rfl, R1, C⟩; have C1 : Hid (Chg [b] (w.drewN 1) w1) := C; obtain ⟨c1, f1⟩ := K0.out _ C; have N1 := Lib.hid (FIN.out w1 (.int .u8 x) C R1); clear C R1))
  all_goals (obtain ⟨n1, n2, n3⟩ := N1.out; clear N1 KK KK2 K0 RD FIN C1 c1 f1; go_wp2_with fail; go_end0; exact ⟨rfl, n1, n2, n3⟩)

theorem field_sb {w : World} {B p r a c o : Nat} (hp : w.cell? ⟨p, 0, none⟩ = some (.func (.func 55) #[] #[])) (hr : w.cell? ⟨r, 0, none⟩ = some (.func (.func 56) #[] #[])) (ha : w.cell? ⟨a, 0, none⟩ = some (.pointer (some ⟨c, o, none⟩))) (bp : B ≤ p) (br : B ≤ r) (ba : B ≤ a) :
    FieldOk w B c (.agg #[.func (.func 88) #[] #[.pointer (some ⟨p, 0, none⟩), .pointer (some ⟨a, 0, none⟩)], .func (.func 89) #[] #[.pointer (some ⟨r, 0, none⟩), .pointer (some ⟨a, 0, none⟩)]]) ⟨some (o, .u8), 1⟩ := by
  have hpl := World.block_lt_of_cell? w _ hp
  have hrl := World.block_lt_of_cell? w _ hr
  have hal := World.block_lt_of_cell? w _ ha
  refine ⟨_, _, _, _, rfl, ⟨enters_put_sb, ?_⟩, ⟨enters_read_sb, ?_⟩⟩
  · rintro w' t b g s cs ch ht pk bl ⟨v, hv, h0, h1⟩
    have e : FD.out cs ⟨some (o, .u8), 1⟩ = leBytes 1 v := by
      simp only [FD.out, List.getD_eq_getElem?_getD, hv]
      rfl
    rw [e]
    have h2 : v ≤ 255 := by
      have e2 : (2 : Int) ^ (8 * 1) = 255 + 1 := by decide
      simp only at h1
      omega
    exact put_sb p a c o b g s v w' ((ch.cell (p := ⟨p, 0, none⟩) hpl (fun hm => by have := ht p hm; omega)).trans hp) ((ch.cell (p := ⟨a, 0, none⟩) hal (fun hm => by have := ht a hm; omega)).trans ha) (bl.cell hv) h0 h2 pk
  · intro w' t b v s cs ch ht rd bl hb hc hcb hvc h0 hroom ho
    exact read_sb r a c o b v s cs w' ((ch.cell (p := ⟨r, 0, none⟩) hrl (fun hm => by have := ht r hm; omega)).trans hr) ((ch.cell (p := ⟨a, 0, none⟩) hal (fun hm => by have := ht a hm; omega)).trans ha) rd bl ho hcb hvc (by omega) (by omega) (by omega) (by omega)

set_option maxHeartbeats 400000 in
set_option maxRecDepth 100000 in
theorem number_sb (c o : Nat) (w : World) :
    Calls Try.prog 83 #[.func (.func 55) #[] #[], .func (.func 56) #[] #[], .pointer (some ⟨c, o, none⟩)] w fun e w' => ∃ v, e = .returned v ∧ Hid (FieldOk w' w.heap.size c v ⟨some (o, .u8), 1⟩) ∧ Hid (Chg [] w w') := by
  go_enter Try.func83, Try.ntmps83
  go_wp2_with fail
  obtain ⟨b1, b2, b3, b4, b5⟩ := four_blocks w (.func (.func 55) #[] #[]) (.func (.func 56) #[] #[]) (.pointer (some ⟨c, o, none⟩)) (.func (.func 88) #[] #[.pointer (some ⟨w.heap.size, 0, none⟩), .pointer (some ⟨w.heap.size + 1 + 1, 0, none⟩)]) (.func (.func 89) #[] #[.pointer (some ⟨w.heap.size + 1, 0, none⟩), .pointer (some ⟨w.heap.size + 1 + 1, 0, none⟩)]) 102 104 134 87
  refine bodyPost_ret (results_cell_row rfl _ _ (w.heap.size + 1 + 1 + 1) _ _ _ _ rfl b4 Try.underlying87 rfl info_field) rfl ?_
  exact ⟨_, rfl, field_sb (b1.cell rfl) (b2.cell rfl) (b3.cell rfl) (Nat.le_refl _) (by omega) (by omega), b5⟩

theorem enters_put_ww (args : Array Value) (w : World) : (callFunc 84 args).run Try.prog w = .ok (.enter 84 args) w := by
  have h1 : (Try.f84.name == "runtime.NumGoroutine") = false := by kernel_rfl
  have h2 : Try.f84.body.isNone = false := by kernel_rfl
  have h3 : ¬ Try.f84.name = "runtime.NumGoroutine" := by simpa using h1
  have h4 : ¬ Try.f84.body = none := fun e => by rw [e] at h2; cases h2
  simp [callFunc, go_sem, Try.func84, h3, h4]

theorem enters_read_ww (args : Array Value) (w : World) : (callFunc 85 args).run Try.prog w = .ok (.enter 85 args) w := by
  have h1 : (Try.f85.name == "runtime.NumGoroutine") = false := by kernel_rfl
  have h2 : Try.f85.body.isNone = false := by kernel_rfl
  have h3 : ¬ Try.f85.name = "runtime.NumGoroutine" := by simpa using h1
  have h4 : ¬ Try.f85.body = none := fun e => by rw [e] at h2; cases h2
  simp [callFunc, go_sem, Try.func85, h3, h4]

set_option maxHeartbeats 400000 in
set_option maxRecDepth 100000 in
theorem put_ww (p a c o b g : Nat) (s : PS) (v : Int) (w : World) (hp : w.cell? ⟨p, 0, none⟩ = some (.func (.func 64) #[] #[])) (ha : w.cell? ⟨a, 0, none⟩ = some (.pointer (some ⟨c, o, none⟩))) (hc : w.cell? ⟨c, o, none⟩ = some (.int .u32 v)) (h0 : 0 ≤ v) (h1 : v ≤ 4294967295) (h : Pk w b g s) :
    Calls Try.prog 84 #[.pointer (some ⟨b, 0, none⟩), .pointer (some ⟨p, 0, none⟩), .pointer (some ⟨a, 0, none⟩)] w (Puts w b g s (leBytes 4 v)) := by
  have hn := u32_any b g s v w.drew (h.drewN 1) h0 h1
  clear h
  go_enter Try.func84, Try.ntmps84
  go_wp2_with fail
  go_still_tail 5, (by kernel_rfl)
  change wpList _ _ _ _ _ w.drew
  go_wp2_with fail
  refine hn.mono ?_
  rintro e w' ⟨rfl, k1, k2⟩
  replace k1 := Lib.hid k1
  replace k2 := Lib.hid k2
  clear hn
  go_wp2_with fail
  go_end0
  exact ⟨rfl, k1.out, ((Chg.refl _ w).drewN 1).trans k2.out⟩

set_option maxHeartbeats 1000000 in
set_option maxRecDepth 100000 in
theorem read_ww (r a c o b : Nat) (v : Value) (s : RS) (cs : List Value) (w : World) (hr : w.cell? ⟨r, 0, none⟩ = some (.func (.func 65) #[] #[])) (ha : w.cell? ⟨a, 0, none⟩ = some (.pointer (some ⟨c, o, none⟩))) (h : Rd w b v s) (hB : Blk w c 73 cs) (ho : o < cs.length)
    (hcb : c ≠ b) (hvc : ∀ k, v.ownBlock = some k → k ≠ c) (hrb : r ≠ b) (hab : a ≠ b) (hrc : r ≠ c) (hac : a ≠ c) :
    Calls Try.prog 85 #[.pointer (some ⟨b, 0, none⟩), .pointer (some ⟨r, 0, none⟩), .pointer (some ⟨a, 0, none⟩)] w fun e w' => e = .returned (.tuple #[]) ∧ Hid (Rd w' b v (s.next 4)) ∧ Hid (Blk w' c 73 (cs.set o (.int .u32 (leNum (s.got 4))))) ∧ Hid (Chg [b, c] w w') := by
  have RD := Lib.hid (u32R_any b v s (w.drewN 1) (h.chg ((Chg.refl [] w).drewN 1) (by simp) (fun _ _ => by simp)))
  obtain ⟨x0, x1⟩ := RS.got_range h.byt 4
  obtain ⟨x, hx⟩ : ∃ x, x = leNum (s.got 4) := ⟨_, rfl⟩
  rw [← hx] at RD x0 x1 ⊢
  obtain ⟨old, hold⟩ : ∃ u, cs[o]? = some u := ⟨_, List.getElem?_eq_getElem ho⟩
  have cc := hB.cell hold
  have hcl := hB.lt
  have fc := hB.free o
  have hrl := World.block_lt_of_cell? w _ hr
  have hal := World.block_lt_of_cell? w _ ha
  have K0 : Hid (∀ w', Chg [b] (w.drewN 1) w' → w'.cell? ⟨c, o, none⟩ = some old ∧ w'.frozen? ⟨c, o, none⟩ = false) := fun w' C => ⟨(C.cell (p := ⟨c, o, none⟩) hcl (by simpa using hcb)).trans cc, (C.frozen (p := ⟨c, o, none⟩) hcl (by simpa using hcb)).trans fc⟩
  have KK : Hid (∀ w', Chg [b] (w.drewN 1) w' → w'.cell? ⟨r, 0, none⟩ = some (.func (.func 65) #[] #[]) ∧ w'.cell? ⟨a, 0, none⟩ = some (.pointer (some ⟨c, o, none⟩))) := fun w' C => ⟨(C.cell (p := ⟨r, 0, none⟩) hrl (by simpa using hrb)).trans hr, (C.cell (p := ⟨a, 0, none⟩) hal (by simpa using hab)).trans ha⟩
  have KK2 : Hid (∀ w' u, Chg [b] (w.drewN 1) w' → (w'.setCell ⟨c, o, none⟩ u).cell? ⟨r, 0, none⟩ = some (.func (.func 65) #[] #[]) ∧ (w'.setCell ⟨c, o, none⟩ u).cell? ⟨a, 0, none⟩ = some (.pointer (some ⟨c, o, none⟩))) := fun w' u C => by
    obtain ⟨h1, h2⟩ := KK.out w' C
    exact ⟨(World.cell?_setCell_other w' ⟨c, o, none⟩ ⟨r, 0, none⟩ u (fun e => hrc (Addr.mk.inj e).1.symm)).trans h1, (World.cell?_setCell_other w' ⟨c, o, none⟩ ⟨a, 0, none⟩ u (fun e => hac (Addr.mk.inj e).1.symm)).trans h2⟩
  have FIN : Hid (∀ w1 u, Chg [b] (w.drewN 1) w1 → Rd w1 b v (s.next 4) → Hid (Rd (w1.setCell ⟨c, o, none⟩ u) b v (s.next 4)) ∧ Hid (Blk (w1.setCell ⟨c, o, none⟩ u) c 73 (cs.set o u)) ∧ Hid (Chg [b, c] w (w1.setCell ⟨c, o, none⟩ u))) := fun w1 u C R => by
    have C2 : Chg [c] w1 (w1.setCell ⟨c, o, none⟩ u) := (Chg.refl _ _).setCell (.inl (by simp)) _
    exact ⟨R.chg C2 (by simpa using hcb.symm) (fun k hk => by simpa using hvc k hk), ((hB.chg ((Chg.refl [b] w).drewN 1) (by simpa using hcb)).chg C (by simpa using hcb)).set o u, ((Chg.refl _ w).drewN 1).trans ((C.mono (by simp)).trans (C2.mono (by simp)))⟩
  clear h hB hvc hx hold ho
  go_enter Try.func85, Try.ntmps85
  go_wp2_with fail
  go_region_held3 (fun w' : World => w'.cell? ⟨r, 0, none⟩ = some (.func (.func 65) #[] #[]) ∧ w'.cell? ⟨a, 0, none⟩ = some (.pointer (some ⟨c, o, none⟩))) (first | exact ⟨hr, ha⟩ | exact KK.out _ C1.out | exact KK2.out _ _ C1.out) (first
    | (go_at_call 65; refine RD.out.mono ?_; rintro e w1 ⟨rfl, R1, C⟩; have C1 : Hid (Chg [b] (w.drewN 1) w1) := C; obtain ⟨c1, f1⟩ := K0.out _ C; have N1 := Lib.hid (FIN.out w1 (.int .u32 x) C R1); clear C R1))
  all_goals (obtain ⟨n1, n2, n3⟩ := N1.out; clear N1 KK KK2 K0 RD FIN C1 c1 f1; go_wp2_with fail; go_end0; exact ⟨rfl, n1, n2, n3⟩)

theorem field_ww {w : World} {B p r a c o : Nat} (hp : w.cell? ⟨p, 0, none⟩ = some (.func (.func 64) #[] #[])) (hr : w.cell? ⟨r, 0, none⟩ = some (.func (.func 65) #[] #[])) (ha : w.cell? ⟨a, 0, none⟩ = some (.pointer (some ⟨c, o, none⟩))) (bp : B ≤ p) (br : B ≤ r) (ba : B ≤ a) :
    FieldOk w B c (.agg #[.func (.func 84) #[] #[.pointer (some ⟨p, 0, none⟩), .pointer (some ⟨a, 0, none⟩)], .func (.func 85) #[] #[.pointer (some ⟨r, 0, none⟩), .pointer (some ⟨a, 0, none⟩)]]) ⟨some (o, .u32), 4⟩ := by
  have hpl := World.block_lt_of_cell? w _ hp
  have hrl := World.block_lt_of_cell? w _ hr
  have hal := World.block_lt_of_cell? w _ ha
  refine ⟨_, _, _, _, rfl, ⟨enters_put_ww, ?_⟩, ⟨enters_read_ww, ?_⟩⟩
  · rintro w' t b g s cs ch ht pk bl ⟨v, hv, h0, h1⟩
    have e : FD.out cs ⟨some (o, .u32), 4⟩ = leBytes 4 v := by
      simp only [FD.out, List.getD_eq_getElem?_getD, hv]
      rfl
    rw [e]
    have h2 : v ≤ 4294967295 := by
      have e2 : (2 : Int) ^ (8 * 4) = 4294967295 + 1 := by decide
      simp only at h1
      omega
    exact put_ww p a c o b g s v w' ((ch.cell (p := ⟨p, 0, none⟩) hpl (fun hm => by have := ht p hm; omega)).trans hp) ((ch.cell (p := ⟨a, 0, none⟩) hal (fun hm => by have := ht a hm; omega)).trans ha) (bl.cell hv) h0 h2 pk
  · intro w' t b v s cs ch ht rd bl hb hc hcb hvc h0 hroom ho
    exact read_ww r a c o b v s cs w' ((ch.cell (p := ⟨r, 0, none⟩) hrl (fun hm => by have := ht r hm; omega)).trans hr) ((ch.cell (p := ⟨a, 0, none⟩) hal (fun hm => by have := ht a hm; omega)).trans ha) rd bl ho hcb hvc (by omega) (by omega) (by omega) (by omega)

set_option maxHeartbeats 400000 in
set_option maxRecDepth 100000 in
theorem number_ww (c o : Nat) (w : World) :
    Calls Try.prog 63 #[.func (.func 64) #[] #[], .func (.func 65) #[] #[], .pointer (some ⟨c, o, none⟩)] w fun e w' => ∃ v, e = .returned v ∧ Hid (FieldOk w' w.heap.size c v ⟨some (o, .u32), 4⟩) ∧ Hid (Chg [] w w') := by
  go_enter Try.func63, Try.ntmps63
  go_wp2_with fail
  obtain ⟨b1, b2, b3, b4, b5⟩ := four_blocks w (.func (.func 64) #[] #[]) (.func (.func 65) #[] #[]) (.pointer (some ⟨c, o, none⟩)) (.func (.func 84) #[] #[.pointer (some ⟨w.heap.size, 0, none⟩), .pointer (some ⟨w.heap.size + 1 + 1, 0, none⟩)]) (.func (.func 85) #[] #[.pointer (some ⟨w.heap.size + 1, 0, none⟩), .pointer (some ⟨w.heap.size + 1 + 1, 0, none⟩)]) 117 119 121 87
  refine bodyPost_ret (results_cell_row rfl _ _ (w.heap.size + 1 + 1 + 1) _ _ _ _ rfl b4 Try.underlying87 rfl info_field) rfl ?_
  exact ⟨_, rfl, field_ww (b1.cell rfl) (b2.cell rfl) (b3.cell rfl) (Nat.le_refl _) (by omega) (by omega), b5⟩

end Go.Proofs.Ytffpjefecmkfmaa
