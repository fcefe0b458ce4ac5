/-
  The program's bay: Swap, Load. By an AI agent.
-/
import Derived.Test.YtljhpdgjajhgbaaBySlot
namespace Go.Proofs.Ytljhpdgjajhgbaa
open Go.RowKit Go.Maps

theorem Turns.later {w wA w' : World} {F : List Nat} {T : List Nat → Thing} (h : Turns wA F T w') (c : Chg [] w wA) : Turns w F T w' := by
  obtain ⟨F', h1, h2, h3⟩ := h
  have hz := c.size
  exact ⟨F', h1, fun k hk => (h2 k hk).imp id (fun q => Nat.le_trans hz q), (c.mono (by simp)).trans h3⟩

theorem enters_blank (args : Array Value) (w : World) : (callFunc 60 args).run Try.prog w = .ok (.enter 60 args) w := by
  have h1 : (Try.f60.name == "runtime.NumGoroutine") = false := by kernel_rfl
  have h2 : Try.f60.body.isNone = false := by kernel_rfl
  have h3 : ¬ Try.f60.name = "runtime.NumGoroutine" := by simpa using h1
  have h4 : ¬ Try.f60.body = none := fun e => by rw [e] at h2; cases h2
  simp [callFunc, go_sem, Try.func60, h3, h4]

theorem enters_load (args : Array Value) (w : World) : (callFunc 58 args).run Try.prog w = .ok (.enter 58 args) w := by
  have h1 : (Try.f58.name == "runtime.NumGoroutine") = false := by kernel_rfl
  have h2 : Try.f58.body.isNone = false := by kernel_rfl
  have h3 : ¬ Try.f58.name = "runtime.NumGoroutine" := by simpa using h1
  have h4 : ¬ Try.f58.body = none := fun e => by rw [e] at h2; cases h2
  simp [callFunc, go_sem, Try.func58, h3, h4]

/-- The function that makes a disk of noughts. -/
def blankV (c : Nat) : Value := .func (.func 60) #[] #[.pointer (some ⟨c, 0, none⟩)]

set_option maxHeartbeats 1000000 in
set_option maxRecDepth 100000 in
theorem blank_any (n : Int) (w : World) : Calls Try.prog 41 #[.int .i64 n] w fun e w' => e = .returned (blankV w.heap.size) ∧ w' = w.alloc (.cells #[.int .i64 n] 3) := by
  have hmf : ∀ (fn : Fn) (first cap : Array Value) (w : World), (Instr.makeFunc fn first cap).run Try.prog w = .ok (.func fn first cap) w := fun _ _ _ _ => rfl
  go_enter Try.func41, Try.ntmps41
  go_wp2_with fail
  go_ret
  exact ⟨rfl, rfl⟩

set_option maxHeartbeats 1000000 in
set_option maxRecDepth 100000 in
theorem blank1_any (n : Int) (hn : I64 n) (c : Nat) (w : World) (hc : w.cell? ⟨c, 0, none⟩ = some (.int .i64 n)) : Calls Try.prog 60 #[.pointer (some ⟨c, 0, none⟩)] w (DNewed w (1 ≤ n ∧ n ≤ 8192) (Dk.new n.toNat)) := by
  have D := Lib.hid (dnew_any n w hn)
  obtain ⟨d0, hd0⟩ : ∃ d, d = Dk.new n.toNat := ⟨_, rfl⟩
  obtain ⟨ok, hok⟩ : ∃ ok, ok = (1 ≤ n ∧ n ≤ 8192) := ⟨_, rfl⟩
  rw [← hd0, ← hok] at D ⊢
  clear hd0 hok
  go_enter Try.func60, Try.ntmps60
  go_wp2_with fail
  refine D.out.mono ?_
  rintro e w1 (⟨hno, rfl, C⟩ | ⟨hyes, g, F, rfl, T, N, C⟩)
  · clear D
    go_wp2_with fail
    go_ret2
    exact .inl ⟨hno, rfl, C⟩
  · clear D
    go_wp2_with fail
    go_ret2
    exact .inr ⟨hyes, g, F, rfl, T, N, C⟩

set_option maxHeartbeats 1000000 in
set_option maxRecDepth 100000 in
theorem load1_any (v : Value) (xs : List Int) (c : Nat) (w : World) (hc : w.cell? ⟨c, 0, none⟩ = some v) (hv : Sl w v xs) (hby : By xs) (hg : xs.length ≤ 140737488355328) (hcap : ∀ ao n c, v = .slice ao n c → n ≤ c) (ok : Prop) (OK : Hid (ok ↔ ∃ n, xs.length = 128 * n ∧ 1 ≤ n ∧ n ≤ 8192)) :
    Calls Try.prog 58 #[.pointer (some ⟨c, 0, none⟩)] w (DNewed w ok (Dk.load (nats xs))) := by
  have D := Lib.hid (dload_aux v xs w hv hby hg hcap ok OK)
  obtain ⟨d0, hd0⟩ : ∃ d, d = Dk.load (nats xs) := ⟨_, rfl⟩
  obtain ⟨vo, vc, rfl⟩ := hv.slice
  rw [← hd0] at D ⊢
  clear hd0 hv hcap OK
  go_enter Try.func58, Try.ntmps58
  go_wp2_with fail
  refine D.out.mono ?_
  rintro e w1 (⟨hno, rfl, C⟩ | ⟨hyes, g, F, rfl, T, N, C⟩)
  · clear D
    go_wp2_with fail
    go_ret2
    exact .inl ⟨hno, rfl, C⟩
  · clear D
    go_wp2_with fail
    go_ret2
    exact .inr ⟨hyes, g, F, rfl, T, N, C⟩

section
variable (b : Nat) (F : List Nat) (y : Bay) (w : World) (h : (BayT b y F).P w)
include h

set_option maxHeartbeats 2000000 in
set_option maxRecDepth 100000 in
theorem bswap_any (s n : Int) (hs : I64 s) (hn : I64 n) : Calls Try.prog 37 #[.pointer (some ⟨b, 0, none⟩), .int .i64 s, .int .i64 n] w fun e w' => e = .returned (.int .u16 (y.swapErr s n : Nat)) ∧ Hid (Turns w F (BayT b (y.swap s n)) w') := by
  have h' : BayIn w b F y := h
  have T0 : Hid (Turns w F (BayT b y) w) := Turns.same (T := BayT b y) h rfl
  obtain ⟨bt, vs, ps, Fs, r⟩ := h'.rep
  have hn1 := hn.1
  have hn2 := hn.2
  cases his : y.is s with
  | false =>
    have e1 : y.swapErr s n = 1 := by unfold Bay.swapErr; rw [if_pos (.inl his)]
    have e2 : y.swap s n = y := by unfold Bay.swap; rw [if_neg (by rw [e1]; decide)]
    have TR := Lib.hid (tray_out b bt _ w (r.blk.cell (j := 0) rfl) s hs (Bay.out_of his))
    rw [e1, e2]
    clear h h' r e1 e2 his hs hn
    go_enter Try.func37, Try.ntmps37
    go_wp2_with fail
    refine TR.out.mono ?_
    rintro e w1 ⟨rfl, hw⟩
    subst hw
    clear TR
    go_wp2_with fail
    go_ret
    exact ⟨rfl, T0⟩
  | true =>
    obtain ⟨i, rfl, hi⟩ := Bay.is_some his
    have TR := Lib.hid (tray_in b bt _ w (r.blk.cell (j := 0) rfl) i hi)
    by_cases hneg : n < 0
    · have e1 : y.swapErr i n = 1 := by unfold Bay.swapErr; rw [if_pos (.inr hneg)]
      have e2 : y.swap i n = y := by unfold Bay.swap; rw [if_neg (by rw [e1]; decide)]
      rw [e1, e2]
      clear h h' r e1 e2 his hs hn hi
      go_enter Try.func37, Try.ntmps37
      go_wp2_with fail
      refine TR.out.mono ?_
      rintro e w1 ⟨rfl, hw⟩
      subst hw
      clear TR
      go_wp2_with fail
      go_ret
      exact ⟨rfl, T0⟩
    have hneg2 : ¬ n < 0 := hneg
    have hx : y.slots[i]? = some y.slots[i] := List.getElem?_eq_getElem hi
    obtain ⟨x, hxe⟩ : ∃ x, x = y.slots[i] := ⟨_, rfl⟩
    rw [← hxe] at hx
    clear hxe
    have hta := Bay.taken_slot hx
    have BL := Lib.hid (blank_any n w)
    have CA : Chg [] w (w.alloc (.cells #[.int .i64 n] 3)) := (Chg.refl _ _).alloc _
    have BC := Blk.made w [.int .i64 n] 3
    have IN := Lib.hid (insert_any (w := w.alloc (.cells #[.int .i64 n] 3)) (fun k hk => Nat.lt_of_lt_of_le (h'.lt k hk) CA.size) h'.fit (r.chg CA (fun _ _ => by simp)) hx 60 #[.pointer (some ⟨w.heap.size, 0, none⟩)] (1 ≤ n ∧ n ≤ 8192) (Dk.new n.toNat) enters_blank (fun w' c => blank1_any n hn w.heap.size w' ((c.cell (p := ⟨w.heap.size, 0, none⟩) BC.lt (by simp)).trans (BC.cell (j := 0) rfl))))
    have E : Hid (∀ w', Turns (w.alloc (.cells #[.int .i64 n] 3)) F (BayT b y) w' → Turns w F (BayT b y) w') := fun w' t => t.later CA
    have E2 : Hid (∀ w', Turns (w.alloc (.cells #[.int .i64 n] 3)) F (BayT b (y.setIn i ⟨Dk.new n.toNat, none⟩)) w' → Turns w F (BayT b (y.setIn i ⟨Dk.new n.toNat, none⟩)) w') := fun w' t => t.later CA
    have FULL : Hid (x.full = true → y.swapErr i n = 52 ∧ y.swap i n = y) := fun hf => by
      have e1 : y.swapErr i n = 52 := by unfold Bay.swapErr; rw [if_neg (by rw [his]; simp; omega), hta, hf, if_pos rfl]
      exact ⟨e1, by unfold Bay.swap; rw [if_neg (by rw [e1]; decide)]⟩
    have BAD : Hid (x.full = false → ¬ (1 ≤ n ∧ n ≤ 8192) → y.swapErr i n = 40 ∧ y.swap i n = y) := fun hf hno => by
      have e1 : y.swapErr i n = 40 := by unfold Bay.swapErr; rw [if_neg (by rw [his]; simp; omega), hta, hf, if_neg (by simp), if_neg hno]
      exact ⟨e1, by unfold Bay.swap; rw [if_neg (by rw [e1]; decide)]⟩
    have GOOD : Hid (x.full = false → (1 ≤ n ∧ n ≤ 8192) → y.swapErr i n = 0 ∧ y.swap i n = y.setIn i ⟨Dk.new n.toNat, none⟩) := fun hf hyes => by
      have e1 : y.swapErr i n = 0 := by unfold Bay.swapErr; rw [if_neg (by rw [his]; simp; omega), hta, hf, if_neg (by simp), if_pos hyes]
      exact ⟨e1, by unfold Bay.swap; rw [if_pos e1]⟩
    clear h h' r his hs hn hi hx hta CA BC T0
    generalize y.setIn i ⟨Dk.new n.toNat, none⟩ = y2 at *
    generalize y.swapErr i n = er at *
    generalize y.swap i n = y3 at *
    go_enter Try.func37, Try.ntmps37
    go_wp2_with fail
    refine TR.out.mono ?_
    rintro e w1 ⟨rfl, hw⟩
    subst hw
    clear TR
    go_wp2_with fail
    refine BL.out.mono ?_
    rintro e w2 ⟨rfl, hw⟩
    rw [← hw] at IN E E2
    clear BL hw
    unfold blankV
    go_wp2_with fail
    refine IN.out.mono ?_
    rintro e w3 ⟨_, (⟨hf, rfl, T⟩ | ⟨hf, hno, rfl, T⟩ | ⟨hf, hyes, rfl, T⟩)⟩
    · obtain ⟨rfl, rfl⟩ := FULL.out hf
      have T2 := Lib.hid (E.out _ T.out)
      clear IN E E2 FULL BAD GOOD T
      go_wp2_with fail
      go_ret
      exact ⟨rfl, T2⟩
    · obtain ⟨rfl, rfl⟩ := BAD.out hf hno
      have T2 := Lib.hid (E.out _ T.out)
      clear IN E E2 FULL BAD GOOD T
      go_wp2_with fail
      go_ret
      exact ⟨rfl, T2⟩
    · obtain ⟨rfl, rfl⟩ := GOOD.out hf hyes
      have T2 := Lib.hid (E2.out _ T.out)
      clear IN E E2 FULL BAD GOOD T hyes
      go_wp2_with fail
      go_ret
      exact ⟨rfl, T2⟩

set_option maxHeartbeats 2000000 in
set_option maxRecDepth 100000 in
theorem bload_any (s : Int) (hs : I64 s) (v : Value) (xs : List Int) (hv : Sl w v xs) (hby : By xs) (hg : xs.length ≤ 140737488355328) (hcap : ∀ ao n c, v = .slice ao n c → n ≤ c) :
    Calls Try.prog 38 #[.pointer (some ⟨b, 0, none⟩), .int .i64 s, v] w fun e w' => e = .returned (.int .u16 (y.loadErr s (nats xs) : Nat)) ∧ Hid (Turns w F (BayT b (y.load s (nats xs))) w') := by
  have h' : BayIn w b F y := h
  obtain ⟨bt, vs, ps, Fs, r⟩ := h'.rep
  obtain ⟨vo, vc, rfl⟩ := hv.slice
  have CA : Chg [] w (w.alloc (.cells #[.slice vo xs.length vc] 26)) := (Chg.refl _ _).alloc _
  have BC := Blk.made w [.slice vo xs.length vc] 26
  have rA := r.chg CA (fun _ _ => by simp)
  have T0 : Hid (Turns w F (BayT b y) (w.alloc (.cells #[.slice vo xs.length vc] 26))) := ⟨F, (BayT b y F).stays _ _ [] h CA (fun _ _ => by simp), fun k hk => .inl hk, CA.mono (by simp)⟩
  have hmf : ∀ (fn : Fn) (first cap : Array Value) (w : World), (Instr.makeFunc fn first cap).run Try.prog w = .ok (.func fn first cap) w := fun _ _ _ _ => rfl
  cases his : y.is s with
  | false =>
    have e1 : y.loadErr s (nats xs) = 1 := by unfold Bay.loadErr; rw [if_pos his]
    have e2 : y.load s (nats xs) = y := by unfold Bay.load; rw [if_neg (by rw [e1]; decide)]
    have TR := Lib.hid (tray_out b bt _ _ (rA.blk.cell (j := 0) rfl) s hs (Bay.out_of his))
    rw [e1, e2]
    clear h h' r e1 e2 his hs hv hby hcap CA BC rA
    go_enter Try.func38, Try.ntmps38
    go_wp2_with fail
    refine TR.out.mono ?_
    rintro e w1 ⟨rfl, hw⟩
    rw [← hw] at T0
    clear TR hw
    go_wp2_with fail
    go_ret
    exact ⟨rfl, T0⟩
  | true =>
    obtain ⟨i, rfl, hi⟩ := Bay.is_some his
    have TR := Lib.hid (tray_in b bt _ _ (rA.blk.cell (j := 0) rfl) i hi)
    have hx : y.slots[i]? = some y.slots[i] := List.getElem?_eq_getElem hi
    obtain ⟨x, hxe⟩ : ∃ x, x = y.slots[i] := ⟨_, rfl⟩
    rw [← hxe] at hx
    clear hxe
    have hta := Bay.taken_slot hx
    have OK : Hid (Bay.fits (nats xs) ↔ ∃ n, xs.length = 128 * n ∧ 1 ≤ n ∧ n ≤ 8192) := by unfold Bay.fits; rw [nats_length]; exact Iff.rfl
    have IN := Lib.hid (insert_any (fun k hk => Nat.lt_of_lt_of_le (h'.lt k hk) CA.size) h'.fit rA hx 58 #[.pointer (some ⟨w.heap.size, 0, none⟩)] (Bay.fits (nats xs)) (Dk.load (nats xs)) enters_load (fun w' c => load1_any (.slice vo xs.length vc) xs w.heap.size w' ((c.cell (p := ⟨w.heap.size, 0, none⟩) BC.lt (by simp)).trans (BC.cell (j := 0) rfl)) ((hv.chg CA (fun _ _ => by simp)).chg c (fun _ _ => by simp)) hby hg hcap _ OK))
    have E : Hid (∀ w', Turns (w.alloc (.cells #[.slice vo xs.length vc] 26)) F (BayT b y) w' → Turns w F (BayT b y) w') := fun w' t => t.later CA
    have E2 : Hid (∀ w', Turns (w.alloc (.cells #[.slice vo xs.length vc] 26)) F (BayT b (y.setIn i ⟨Dk.load (nats xs), none⟩)) w' → Turns w F (BayT b (y.setIn i ⟨Dk.load (nats xs), none⟩)) w') := fun w' t => t.later CA
    have hnis : ¬ y.is i = false := by rw [his]; simp
    have FULL : Hid (x.full = true → y.loadErr i (nats xs) = 52 ∧ y.load i (nats xs) = y) := fun hf => by
      have e1 : y.loadErr i (nats xs) = 52 := by unfold Bay.loadErr; rw [if_neg hnis, hta, hf, if_pos rfl]
      exact ⟨e1, by unfold Bay.load; rw [if_neg (by rw [e1]; decide)]⟩
    have BAD : Hid (x.full = false → ¬ Bay.fits (nats xs) → y.loadErr i (nats xs) = 40 ∧ y.load i (nats xs) = y) := fun hf hno => by
      have e1 : y.loadErr i (nats xs) = 40 := by unfold Bay.loadErr; rw [if_neg hnis, hta, hf, if_neg (by simp), if_neg hno]
      exact ⟨e1, by unfold Bay.load; rw [if_neg (by rw [e1]; decide)]⟩
    have GOOD : Hid (x.full = false → Bay.fits (nats xs) → y.loadErr i (nats xs) = 0 ∧ y.load i (nats xs) = y.setIn i ⟨Dk.load (nats xs), none⟩) := fun hf hyes => by
      have e1 : y.loadErr i (nats xs) = 0 := by unfold Bay.loadErr; rw [if_neg hnis, hta, hf, if_neg (by simp), if_pos hyes]
      exact ⟨e1, by unfold Bay.load; rw [if_pos e1]⟩
    clear h h' r his hs hi hx hta CA BC T0 hv hby hcap rA OK hnis
    generalize y.setIn i ⟨Dk.load (nats xs), none⟩ = y2 at *
    generalize y.loadErr i (nats xs) = er at *
    generalize y.load i (nats xs) = y3 at *
    generalize Bay.fits (nats xs) = ok at *
    go_enter Try.func38, Try.ntmps38
    go_wp2_with fail
    refine TR.out.mono ?_
    rintro e w1 ⟨rfl, hw⟩
    rw [← hw] at IN E E2
    clear TR hw
    go_wp2_with fail
    refine IN.out.mono ?_
    rintro e w3 ⟨_, (⟨hf, rfl, T⟩ | ⟨hf, hno, rfl, T⟩ | ⟨hf, hyes, rfl, T⟩)⟩
    · obtain ⟨rfl, rfl⟩ := FULL.out hf
      have T2 := Lib.hid (E.out _ T.out)
      clear IN E E2 FULL BAD GOOD T
      go_wp2_with fail
      go_ret
      exact ⟨rfl, T2⟩
    · obtain ⟨rfl, rfl⟩ := BAD.out hf hno
      have T2 := Lib.hid (E.out _ T.out)
      clear IN E E2 FULL BAD GOOD T
      go_wp2_with fail
      go_ret
      exact ⟨rfl, T2⟩
    · obtain ⟨rfl, rfl⟩ := GOOD.out hf hyes
      have T2 := Lib.hid (E2.out _ T.out)
      clear IN E E2 FULL BAD GOOD T hyes
      go_wp2_with fail
      go_ret
      exact ⟨rfl, T2⟩

end
end Go.Proofs.Ytljhpdgjajhgbaa
