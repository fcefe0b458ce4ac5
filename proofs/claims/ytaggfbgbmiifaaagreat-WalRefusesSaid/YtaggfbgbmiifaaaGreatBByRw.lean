/-
  The program's bay: Read, Write, Flush. By an AI agent.
-/
import Derived.Test.YtaggfbgbmiifaaaGreatBByCalls
import Derived.Test.YtaggfbgbmiifaaaGreatBByMove
namespace Go.Proofs.YtaggfbgbmiifaaaGreat
open Go.RowKit Go.Maps

theorem Bay.setIn_setIn (y : Bay) (s : Int) (d e : Dev) : (y.setIn s d).setIn s e = y.setIn s e := by
  unfold Bay.setIn Bay.turn
  simp only
  congr 1
  apply List.ext_getElem?
  intro m
  simp only [List.getElem?_modify]
  cases y.slots[m]? with
  | none => simp
  | some x => by_cases h : s.toNat = m <;> simp [h]

/-- What a closure does with the disk that it is handed. -/
theorem Handed.disk {w : World} {F : List Nat} {b : Nat} {y : Bay} {s : Int} {what k : Nat} {wA : World} (h : Handed w F b y s what k wA) :
    ∃ (g : Nat) (Fd : List Nat), wA.cell? ⟨k, 0, none⟩ = some (.pointer (some ⟨g, 0, none⟩)) ∧ (DiskT g (y.asked s).disk Fd).P wA ∧ Chg F w wA ∧
      (∀ wB dk, Turns wA Fd (DiskT g dk) wB → Turns w F (BayT b ((y.counted what).setIn s ((y.asked s).lay dk))) wB) ∧
      ∃ F1, (BayT b ((y.counted what).setIn s (y.asked s)) F1).P wA ∧ ∀ j ∈ F1, j ∈ F ∨ w.heap.size ≤ j := by
  obtain ⟨i, F1, bt, vs, ps, Fs, rfl, hlt, hf, r, hp, hdev, hi, hF, hC⟩ := h.it
  obtain ⟨y1, hy1⟩ : ∃ y1, y1 = (y.counted what).setIn i (y.asked i) := ⟨_, rfl⟩
  have e2 : ∀ e, (y.counted what).setIn i e = y1.setIn i e := fun e => by rw [hy1, Bay.setIn_setIn]
  rw [← hy1] at hf r hdev hi
  have hx : y1.slots[i]? = some y1.slots[i] := List.getElem?_eq_getElem hi
  have hd := r.dev i 0
  rw [← Bay.dev_place hi, hdev] at hd
  obtain ⟨k', hk', hk⟩ := hd.isSome rfl
  obtain rfl : k = k' := by rw [hp] at hk'; exact Option.some.inj hk'
  have hin : y1.slots[i].inn = some (y.asked i) := by
    rw [← hdev, Bay.dev_place hi, Bay.place_of hx]
    rfl
  have hf0 := (hf.slot hx).devs _ (.inl hin)
  obtain ⟨g, Fd, hFd, hkd, hb, hdk⟩ := hk.rep
  refine ⟨g, Fd, hb.cell (j := 0) rfl, hdk, hC, fun wB dk ⟨F2, h1, h2, h3⟩ => ?_, F1, by rw [← hy1]; exact ⟨hlt, hf, bt, vs, ps, Fs, r⟩, hF⟩
  have h1' : DiskIn wB g F2 dk := h1
  rw [e2]
  refine Turns.chain hF hC (r.inn hlt hf hx hp ((y.asked i).lay dk) ⟨h1'.fit, hf0.2⟩ (k :: F2) ⟨g, F2, rfl, fun hm => ?_, hb.chg h3 hkd, h1⟩ (fun j hj => ?_) (h3.mono (by rw [hFd]; intro q hq; exact List.mem_cons_of_mem _ hq)))
  · rcases h2 k hm with q | q
    · exact hkd q
    · have := hb.lt; omega
  · rw [hFd]
    rcases List.mem_cons.1 hj with rfl | hj
    · exact .inl List.mem_cons_self
    · exact (h2 j hj).imp (List.mem_cons_of_mem _) id

theorem Bay.asked_low {y : Bay} {s : Int} (h0 : y.startErr s = 0) (hl : y.Low 1000000000) : (y.asked s).disk.cache.length ≤ 1000000000 := by
  obtain ⟨_, _, _, d, hd, ha⟩ := Bay.startErr_ok h0
  rw [ha]
  exact Nat.le_trans (Bay.step_cache d) (hl.caches _ _ hd)

theorem Bay.start_ok {y : Bay} {s : Int} (h0 : y.startErr s = 0) (what : Nat) : y.start s what = (y.counted what).setIn s (y.asked s) := by
  obtain ⟨h1, h2, h3, d, hd, ha⟩ := Bay.startErr_ok h0
  rw [ha]
  exact (Bay.start_some h1 h2 h3 hd what).2.1

theorem enters_bread (args : Array Value) (w : World) : (callFunc 227 args).run Tryz.prog w = .ok (.enter 227 args) w := by
  have h1 : (Tryz.f227.name == "runtime.NumGoroutine") = false := by kernel_rfl
  have h2 : Tryz.f227.body.isNone = false := by kernel_rfl
  have h3 : ¬ Tryz.f227.name = "runtime.NumGoroutine" := by simpa using h1
  have h4 : ¬ Tryz.f227.body = none := fun e => by rw [e] at h2; cases h2
  simp [callFunc, go_sem, Tryz.func227, h3, h4]

theorem enters_bwrite (args : Array Value) (w : World) : (callFunc 191 args).run Tryz.prog w = .ok (.enter 191 args) w := by
  have h1 : (Tryz.f191.name == "runtime.NumGoroutine") = false := by kernel_rfl
  have h2 : Tryz.f191.body.isNone = false := by kernel_rfl
  have h3 : ¬ Tryz.f191.name = "runtime.NumGoroutine" := by simpa using h1
  have h4 : ¬ Tryz.f191.body = none := fun e => by rw [e] at h2; cases h2
  simp [callFunc, go_sem, Tryz.func191, h3, h4]

set_option maxHeartbeats 2000000 in
set_option maxRecDepth 100000 in
theorem bwrite1_any (k g a c : Nat) (Fd : List Nat) (d : Dk) (at_ : Int) (v : Value) (xs : List Int) (w : World) (ck : w.cell? ⟨k, 0, none⟩ = some (.pointer (some ⟨g, 0, none⟩))) (ca : w.cell? ⟨a, 0, none⟩ = some (.int .i64 at_)) (cc : w.cell? ⟨c, 0, none⟩ = some v)
    (h : (DiskT g d Fd).P w) (ha : I64 at_) (hv : Sl w v xs) (hby : By xs) (hg : xs.length ≤ 140737488355328) (hc : d.cache.length ≤ 1000000000) :
    Calls Tryz.prog 191 #[.pointer (some ⟨k, 0, none⟩), .pointer (some ⟨a, 0, none⟩), .pointer (some ⟨c, 0, none⟩)] w fun e w' => e = .returned (.int .u16 ((d.writeErr at_ (nats xs) : Nat) : Int)) ∧ Hid (Turns w Fd (DiskT g (d.write at_ (nats xs))) w') := by
  have WR := Lib.hid (dwrite_any g Fd d at_ v xs (w.drewN 1) ((DiskT g d Fd).stays _ _ [] h ((Chg.refl _ _).drewN 1) (fun _ _ => by simp)) ha (hv.chg ((Chg.refl [] w).drewN 1) (fun _ _ => by simp)) hby hg hc)
  obtain ⟨vo, vc, rfl⟩ := hv.slice
  have E : Hid (∀ w', Turns (w.drewN 1) Fd (DiskT g (d.write at_ (nats xs))) w' → Turns w Fd (DiskT g (d.write at_ (nats xs))) w') := fun w' t => Turns.later t ((Chg.refl _ _).drewN 1)
  obtain ⟨er, her⟩ : ∃ er, er = d.writeErr at_ (nats xs) := ⟨_, rfl⟩
  rw [← her] at WR ⊢
  clear h ha hv hby hg hc her
  go_enter Tryz.func191, Tryz.ntmps191
  go_wp2_with fail
  go_still_tail 6, (by kernel_rfl)
  change wpList _ _ _ _ _ (w.drewN 1)
  go_wp2_with fail
  refine WR.out.mono ?_
  rintro e w1 ⟨rfl, T⟩
  have T2 := Lib.hid (E.out _ T.out)
  clear WR E T
  go_wp2_with fail
  go_ret
  exact ⟨rfl, T2⟩

set_option maxHeartbeats 2000000 in
set_option maxRecDepth 100000 in
theorem bread1_any (k g a c : Nat) (Fd : List Nat) (d : Dk) (at_ : Int) (w : World) (ck : w.cell? ⟨k, 0, none⟩ = some (.pointer (some ⟨g, 0, none⟩))) (ca : w.cell? ⟨a, 0, none⟩ = some (.int .i64 at_)) (cc : w.cell? ⟨c, 0, none⟩ = some (.slice none 0 0)) (fc : w.frozen? ⟨c, 0, none⟩ = false)
    (h : (DiskT g d Fd).P w) (ha : I64 at_) (hkc : k ≠ c) (hac : a ≠ c) :
    Calls Tryz.prog 227 #[.pointer (some ⟨k, 0, none⟩), .pointer (some ⟨a, 0, none⟩), .pointer (some ⟨c, 0, none⟩)] w fun e w' => e = .returned (.int .u16 ((d.check at_ : Nat) : Int)) ∧
      ∃ u t, Hid (w'.cell? ⟨c, 0, none⟩ = some u) ∧ Hid (w'.ownsRow w.heap.size t 1 u (d.readVal at_).length ((ints (d.readVal at_)).map (Value.int .u8))) ∧ Hid (Chg [c] w w') := by
  have hcl := World.block_lt_of_cell? w _ cc
  have RD := Lib.hid (dread_any g Fd d at_ (w.drewN 1) ((DiskT g d Fd).stays _ _ [] h ((Chg.refl _ _).drewN 1) (fun _ _ => by simp)) ha)
  obtain ⟨er, her⟩ : ∃ er, er = d.check at_ := ⟨_, rfl⟩
  obtain ⟨rv, hrv⟩ : ∃ rv, rv = d.readVal at_ := ⟨_, rfl⟩
  rw [← her, ← hrv] at RD ⊢
  have K0 : Hid (∀ w', Chg [] (w.drewN 1) w' → w'.cell? ⟨c, 0, none⟩ = some (.slice none 0 0) ∧ w'.frozen? ⟨c, 0, none⟩ = false) := fun w' C => ⟨(C.cell (p := ⟨c, 0, none⟩) hcl (by simp)).trans cc, (C.frozen (p := ⟨c, 0, none⟩) hcl (by simp)).trans fc⟩
  have FIN : Hid (∀ w1 t u, Chg [] (w.drewN 1) w1 → w1.ownsRow (w.drewN 1).heap.size t 1 u rv.length ((ints rv).map (Value.int .u8)) → (w1.setCell ⟨c, 0, none⟩ u).cell? ⟨c, 0, none⟩ = some u ∧ (w1.setCell ⟨c, 0, none⟩ u).ownsRow w.heap.size t 1 u rv.length ((ints rv).map (Value.int .u8)) ∧ Chg [c] w (w1.setCell ⟨c, 0, none⟩ u)) := fun w1 t u C O => by
    have C2 : Chg [c] w1 (w1.setCell ⟨c, 0, none⟩ u) := (Chg.refl _ _).setCell (.inl (by simp)) _
    have hz := C.size
    refine ⟨?_, owns_chg O C2 (fun q hq hm => ?_), (((Chg.refl [c] w).drewN 1).trans (C.mono (by simp))).trans C2⟩
    · have h1 := (K0.out _ C).1
      exact World.cell?_setCell_same _ _ _ h1
    · have h1 := (O.lt q hq).1
      rw [List.mem_singleton.1 hm] at h1
      exact Nat.lt_irrefl _ (Nat.lt_of_lt_of_le hcl h1)
  have hkl := World.block_lt_of_cell? w _ ck
  have hal := World.block_lt_of_cell? w _ ca
  have KK : Hid (∀ w', Chg [] (w.drewN 1) w' → w'.cell? ⟨k, 0, none⟩ = some (.pointer (some ⟨g, 0, none⟩)) ∧ w'.cell? ⟨a, 0, none⟩ = some (.int .i64 at_)) := fun w' C => ⟨(C.cell (p := ⟨k, 0, none⟩) hkl (by simp)).trans ck, (C.cell (p := ⟨a, 0, none⟩) hal (by simp)).trans ca⟩
  have KK2 : Hid (∀ w' u, Chg [] (w.drewN 1) w' → (w'.setCell ⟨c, 0, none⟩ u).cell? ⟨k, 0, none⟩ = some (.pointer (some ⟨g, 0, none⟩)) ∧ (w'.setCell ⟨c, 0, none⟩ u).cell? ⟨a, 0, none⟩ = some (.int .i64 at_)) := fun w' u C => by
    obtain ⟨h1, h2⟩ := KK.out w' C
    exact ⟨(World.cell?_setCell_other w' ⟨c, 0, none⟩ ⟨k, 0, none⟩ u (fun e => hkc (Addr.mk.inj e).1.symm)).trans h1, (World.cell?_setCell_other w' ⟨c, 0, none⟩ ⟨a, 0, none⟩ u (fun e => hac (Addr.mk.inj e).1.symm)).trans h2⟩
  clear h ha her hrv
  go_enter Tryz.func227, Tryz.ntmps227
  go_wp2_with fail
  go_region_held3 (fun w' : World => w'.cell? ⟨k, 0, none⟩ = some (.pointer (some ⟨g, 0, none⟩)) ∧ w'.cell? ⟨a, 0, none⟩ = some (.int .i64 at_)) (first | exact ⟨ck, ca⟩ | exact KK.out _ C1.out | exact KK2.out _ _ C1.out) (first
    | (go_at_call 228; refine RD.out.mono ?_; rintro e w1 ⟨t, u, rfl, O, C⟩; have C1 : Hid (Chg [] (w.drewN 1) w1) := C; obtain ⟨uo, uc, rfl⟩ := owns_slice O.out; obtain ⟨c1, f1⟩ := K0.out _ C.out; have N1 := Lib.hid (FIN.out w1 t _ C.out O.out); clear O C))
  all_goals (obtain ⟨n1, n2, n3⟩ := N1.out; replace n1 := Lib.hid n1; replace n2 := Lib.hid n2; replace n3 := Lib.hid n3; clear N1 KK KK2 K0 RD FIN C1 c1 f1; go_wp2_with fail; go_ret; exact ⟨rfl, _, t, n1, n2, n3⟩)

theorem Sl.chgOff {w w' : World} {s : List Nat} {v : Value} {xs : List Int} (h : Sl w v xs) (c : Chg s w w') (hv : xs ≠ [] → ∀ b, v.ownBlock = some b → b ∉ s) : Sl w' v xs := by
  by_cases hx : xs = []
  · subst hx
    obtain ⟨ao, cp, rfl⟩ := h.slice
    exact .inl ⟨rfl, _, _, rfl⟩
  · exact h.chg c (hv hx)

section
variable (b : Nat) (F : List Nat) (y : Bay) (w : World) (h : (BayT b y F).P w)
include h

set_option maxHeartbeats 2000000 in
set_option maxRecDepth 100000 in
theorem bflush_any (s : Int) (hs : I64 s) (hl : y.Low 1000000000) : Calls Tryz.prog 165 #[.pointer (some ⟨b, 0, none⟩), .int .i64 s] w fun e w' => e = .returned (.int .u16 (y.flushErr s : Nat)) ∧ Hid (Turns w F (BayT b (y.flush s)) w') := by
  have OP := Lib.hid (operateF_any b F y w h s hs 3 (by decide) hl (fun n w' => n = ((y.flushErr s : Nat) : Int) ∧ Hid (Turns w F (BayT b (y.flush s)) w')) (fun k g wA h0 hA hc => by
    obtain ⟨g', Fd, hc', hdk, hC, hT, _⟩ := hA.disk
    obtain rfl : g = g' := by
      rw [hc] at hc'
      simpa using hc'
    refine (dflush_any g Fd _ wA hdk).mono ?_
    rintro e w' ⟨rfl, T⟩
    refine ⟨_, rfl, ?_, ?_⟩
    · unfold Bay.flushErr
      rw [if_pos h0]
    · unfold Bay.flush
      rw [if_pos h0]
      exact hT w' _ T.out))
  have E : Hid (y.startErr s ≠ 0 → y.flushErr s = y.startErr s ∧ y.flush s = y.start s 3) := fun h0 => by
    unfold Bay.flushErr Bay.flush
    rw [if_neg h0, if_neg h0]
    exact ⟨rfl, rfl⟩
  have hmf : ∀ (fn : Fn) (first cap : Array Value) (w : World), (Instr.makeFunc fn first cap).run Tryz.prog w = .ok (.func fn first cap) w := fun _ _ _ _ => rfl
  obtain ⟨fe, hfe⟩ : ∃ fe, fe = y.flushErr s := ⟨_, rfl⟩
  rw [← hfe] at OP E ⊢
  unfold flushV at OP
  clear h hs hl hfe
  go_enter Tryz.func165, Tryz.ntmps165
  go_wp2_with fail
  refine OP.out.mono ?_
  rintro e w1 (⟨h0, rfl, T⟩ | ⟨h0, n, rfl, rfl, T⟩)
  · obtain ⟨e1, e2⟩ := E.out h0
    rw [← e1]
    rw [← e2] at T
    clear OP E h0 e1 e2
    go_wp2_with fail
    go_ret
    exact ⟨rfl, T⟩
  · clear OP E h0
    go_wp2_with fail
    go_ret
    exact ⟨rfl, T⟩


set_option maxHeartbeats 2000000 in
set_option maxRecDepth 100000 in
theorem bwrite_any (s at_ : Int) (hs : I64 s) (ha : I64 at_) (v : Value) (xs : List Int) (hv : Sl w v xs) (hby : By xs) (hg : xs.length ≤ 140737488355328) (hold : xs ≠ [] → ∀ k, v.ownBlock = some k → k ∉ F ∧ k < w.heap.size) (hl : y.Low 1000000000) :
    Calls Tryz.prog 128 #[.pointer (some ⟨b, 0, none⟩), .int .i64 s, .int .i64 at_, v] w fun e w' => e = .returned (.int .u16 (y.writeErr s at_ (nats xs) : Nat)) ∧ Hid (Turns w F (BayT b (y.write s at_ (nats xs))) w') := by
  have h' : BayIn w b F y := h
  obtain ⟨vo, vc, rfl⟩ := hv.slice
  obtain ⟨wB, hwB⟩ : ∃ wB, wB = (w.alloc (.cells #[.int .i64 at_] 3)).alloc (.cells #[.slice vo xs.length vc] 65) := ⟨_, rfl⟩
  have CB : Chg [] w wB := by rw [hwB]; exact ((Chg.refl _ _).alloc _).alloc _
  have BA : Blk wB w.heap.size 3 [.int .i64 at_] := by rw [hwB]; exact (Blk.made w [.int .i64 at_] _).alloc _
  have BC : Blk wB (w.heap.size + 1) 65 [.slice vo xs.length vc] := by
    rw [hwB]
    have := Blk.made (w.alloc (.cells #[.int .i64 at_] 3)) [.slice vo xs.length vc] 65
    rw [show (w.alloc (.cells #[.int .i64 at_] 3)).heap.size = w.heap.size + 1 from by simp] at this
    exact this
  have hB : (BayT b y F).P wB := (BayT b y F).stays _ _ [] h CB (fun _ _ => by simp)
  have hnA : w.heap.size ∉ F := fun hm => Nat.lt_irrefl _ (h'.lt _ hm)
  have hnC : w.heap.size + 1 ∉ F := fun hm => by have := h'.lt _ hm; omega
  have OP := Lib.hid (operate_any b F y wB hB s hs 2 (by decide) hl 191 #[.pointer (some ⟨w.heap.size, 0, none⟩), .pointer (some ⟨w.heap.size + 1, 0, none⟩)] enters_bwrite (fun n w' => n = ((y.writeErr s at_ (nats xs) : Nat) : Int) ∧ Hid (Turns w F (BayT b (y.write s at_ (nats xs))) w')) (fun k wA h0 hA => by
    obtain ⟨g, Fd, hc, hdk, hC, hT, _⟩ := hA.disk
    show Calls _ _ #[_, _, _] wA _
    refine (bwrite1_any k g _ _ Fd _ at_ (.slice vo xs.length vc) xs wA hc ((BA.chg hC hnA).cell (j := 0) rfl) ((BC.chg hC hnC).cell (j := 0) rfl) hdk ha ((hv.chgNil CB).chgOff hC (fun hx k hk => (hold hx k hk).1)) hby hg (Bay.asked_low h0 hl)).mono ?_
    rintro e w' ⟨rfl, T⟩
    refine ⟨_, rfl, ?_, ?_⟩
    · unfold Bay.writeErr
      rw [if_pos h0]
    · unfold Bay.write
      rw [if_pos h0]
      exact Turns.later (hT w' _ T.out) CB))
  have E : Hid (∀ w', y.startErr s ≠ 0 → Turns wB F (BayT b (y.start s 2)) w' → y.startErr s = y.writeErr s at_ (nats xs) ∧ Turns w F (BayT b (y.write s at_ (nats xs))) w') := fun w' h0 t => by
    unfold Bay.writeErr Bay.write
    rw [if_neg h0, if_neg h0]
    exact ⟨rfl, Turns.later t CB⟩
  have hmf : ∀ (fn : Fn) (first cap : Array Value) (w : World), (Instr.makeFunc fn first cap).run Tryz.prog w = .ok (.func fn first cap) w := fun _ _ _ _ => rfl
  obtain ⟨fe, hfe⟩ : ∃ fe, fe = y.writeErr s at_ (nats xs) := ⟨_, rfl⟩
  rw [← hfe] at OP E ⊢
  rw [hwB] at OP E
  clear h h' hs hl hfe hwB CB BA BC hB hnA hnC hv hby hold
  go_enter Tryz.func128, Tryz.ntmps128
  go_wp2_with fail
  refine OP.out.mono ?_
  rintro e w1 (⟨h0, rfl, T⟩ | ⟨h0, n, rfl, rfl, T⟩)
  · obtain ⟨e1, e2⟩ := E.out _ h0 T.out
    rw [e1]
    replace e2 := Lib.hid e2
    clear OP E h0 e1 T
    go_wp2_with fail
    go_ret
    exact ⟨rfl, e2⟩
  · clear OP E h0
    go_wp2_with fail
    go_ret
    exact ⟨rfl, T⟩

set_option maxHeartbeats 2000000 in
set_option maxRecDepth 100000 in
theorem bread_any (s at_ : Int) (hs : I64 s) (ha : I64 at_) (hl : y.Low 1000000000) : Calls Tryz.prog 172 #[.pointer (some ⟨b, 0, none⟩), .int .i64 s, .int .i64 at_] w fun e w' => ∃ u, e = .returned (.tuple #[u, .int .u16 (y.readErr s at_ : Nat)]) ∧ Hid (TurnsGives w F (BayT b (y.read s)) u (y.readVal s at_) w') := by
  have h' : BayIn w b F y := h
  obtain ⟨wB, hwB⟩ : ∃ wB, wB = (w.alloc (.cells #[.int .i64 at_] 3)).alloc (.cells #[.slice none 0 0] 65) := ⟨_, rfl⟩
  have CB : Chg [] w wB := by rw [hwB]; exact ((Chg.refl _ _).alloc _).alloc _
  have BA : Blk wB w.heap.size 3 [.int .i64 at_] := by rw [hwB]; exact (Blk.made w [.int .i64 at_] _).alloc _
  have BC : Blk wB (w.heap.size + 1) 65 [.slice none 0 0] := by
    rw [hwB]
    have := Blk.made (w.alloc (.cells #[.int .i64 at_] 3)) [.slice none 0 0] 65
    rw [show (w.alloc (.cells #[.int .i64 at_] 3)).heap.size = w.heap.size + 1 from by simp] at this
    exact this
  have hB : (BayT b y F).P wB := (BayT b y F).stays _ _ [] h CB (fun _ _ => by simp)
  have hnA : w.heap.size ∉ F := fun hm => Nat.lt_irrefl _ (h'.lt _ hm)
  have hnC : w.heap.size + 1 ∉ F := fun hm => by have := h'.lt _ hm; omega
  have hzB := CB.size
  have hzC := BC.lt
  have OP := Lib.hid (operate_any b F y wB hB s hs 1 (by decide) hl 227 #[.pointer (some ⟨w.heap.size, 0, none⟩), .pointer (some ⟨w.heap.size + 1, 0, none⟩)] enters_bread (fun n w' => n = ((y.readErr s at_ : Nat) : Int) ∧ ∃ uo m uc, m = (y.readVal s at_).length ∧ Hid (w'.cell? ⟨w.heap.size + 1, 0, none⟩ = some (.slice uo m uc)) ∧ Hid (TurnsGives w F (BayT b (y.read s)) (.slice uo m uc) (y.readVal s at_) w')) (fun k wA h0 hA => by
    obtain ⟨g, Fd, hc, hdk, hC, _, F1, hF1, hF2⟩ := hA.disk
    have hF1' : BayIn wA b F1 _ := hF1
    have hkF : k ≠ w.heap.size + 1 := fun e => by
      obtain ⟨i, F1, bt, vs, ps, Fs, _, hlt, _, r, hp, hdev, hi, hF, hC⟩ := hA.it
      have hk : k ∈ F1 := by
        have hd := r.dev i 0
        rw [← Bay.dev_place hi] at hd
        have hdev2 := hdev
        rw [show s = (i : Int) from by assumption] at hd hdev2
        rw [hdev2] at hd
        obtain ⟨k', hk', hk2⟩ := hd.isSome rfl
        obtain rfl : k = k' := by rw [hp] at hk'; exact Option.some.inj hk'
        obtain ⟨_, Fd, hFd, _⟩ := hk2.rep
        exact r.inF.2.2 i 0 k (by rw [hFd]; exact List.mem_cons_self)
      rcases hF k hk with q | q
      · have := h'.lt k q; omega
      · omega
    show Calls _ _ #[_, _, _] wA _
    refine (bread1_any k g _ _ Fd _ at_ wA hc ((BA.chg hC hnA).cell (j := 0) rfl) ((BC.chg hC hnC).cell (j := 0) rfl) ((BC.chg hC hnC).free 0) hdk ha hkF (by omega)).mono ?_
    rintro e w' ⟨rfl, u, t, n1, n2, n3⟩
    have e1 : y.readVal s at_ = (y.asked s).disk.readVal at_ := by unfold Bay.readVal; rw [if_pos h0]
    have e2 : y.readErr s at_ = (y.asked s).disk.check at_ := by unfold Bay.readErr; rw [if_pos h0]
    have e3 : y.read s = (y.counted 1).setIn s (y.asked s) := Bay.start_ok h0 1
    obtain ⟨uo, uc, rfl⟩ := owns_slice n2.out
    have hcF1 : w.heap.size + 1 ∉ F1 := fun hm => by
      rcases hF2 _ hm with q | q
      · exact hnC q
      · omega
    have hzA := hC.size
    refine ⟨_, rfl, by rw [e2], uo, _, uc, by rw [e1], n1, t, F1, ?_, fun k hk => ?_, ?_, ?_, fun k hk hm => ?_⟩
    · rw [e3]
      exact (BayT b _ F1).stays _ _ _ hF1 n3.out (fun j hj hm => hcF1 (by rw [← List.mem_singleton.1 hm]; exact hj))
    · rcases hF2 k hk with q | q
      · exact .inl q
      · exact .inr (by omega)
    · exact ((CB.mono (by simp)).trans hC).fresh n3.out (fun k hk => .inr (by rw [List.mem_singleton.1 hk]; omega))
    · rw [e1]
      exact ownsRow_base n2.out (by omega)
    · have h1 := (n2.out.lt k hk).1
      have h2 := hF1'.lt k hm
      omega))
  have E : Hid (∀ w', y.startErr s ≠ 0 → Turns wB F (BayT b (y.start s 1)) w' → y.startErr s = y.readErr s at_ ∧ w'.cell? ⟨w.heap.size + 1, 0, none⟩ = some (.slice none 0 0) ∧ TurnsGives w F (BayT b (y.read s)) (.slice none 0 0) (y.readVal s at_) w') := fun w' h0 t => by
    have e1 : y.readVal s at_ = [] := by unfold Bay.readVal; rw [if_neg h0]
    unfold Bay.readErr
    rw [if_neg h0, e1]
    have t2 := Turns.later t CB
    obtain ⟨F', h1, h2, h3⟩ := t
    refine ⟨rfl, (h3.cell (p := ⟨w.heap.size + 1, 0, none⟩) hzC hnC).trans (BC.cell (j := 0) rfl), ?_⟩
    obtain ⟨F', h1, h2, h3⟩ := t2
    exact ⟨0, F', h1, h2, h3, World.ownsRow_nil _ _ _ _, fun k hk => by cases hk⟩
  have hmf : ∀ (fn : Fn) (first cap : Array Value) (w : World), (Instr.makeFunc fn first cap).run Tryz.prog w = .ok (.func fn first cap) w := fun _ _ _ _ => rfl
  obtain ⟨fe, hfe⟩ : ∃ fe, fe = y.readErr s at_ := ⟨_, rfl⟩
  obtain ⟨rv, hrv⟩ : ∃ rv, rv = y.readVal s at_ := ⟨_, rfl⟩
  rw [← hfe, ← hrv] at OP E ⊢
  rw [hwB] at OP E
  clear h h' hs hl hfe hwB CB BA BC hB hnA hnC hrv hzB hzC
  go_enter Tryz.func172, Tryz.ntmps172
  go_wp2_with fail
  refine OP.out.mono ?_
  rintro e w1 (⟨h0, rfl, T⟩ | ⟨h0, n, rfl, rfl, uo, m, uc, hm, c1, T⟩)
  · obtain ⟨e1, c1, e2⟩ := E.out _ h0 T.out
    rw [e1]
    replace e2 := Lib.hid e2
    clear OP E h0 e1 T
    go_wp2_with fail
    go_ret2
    exact ⟨_, rfl, e2⟩
  · have c2 := c1.out
    clear OP E h0 c1 hm
    go_wp2_with fail
    go_ret2
    exact ⟨_, rfl, T⟩

end
end Go.Proofs.YtaggfbgbmiifaaaGreat
