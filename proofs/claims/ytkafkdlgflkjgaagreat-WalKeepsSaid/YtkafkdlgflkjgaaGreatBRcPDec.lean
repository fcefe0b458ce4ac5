/-
  The program's one decoder of records. By an AI agent.
-/
import Derived.Test.YtkafkdlgflkjgaaGreatBRcRd
import Derived.Test.YtkafkdlgflkjgaaGreatBRcGen
import Derived.Test.YtkafkdlgflkjgaaGreatBG
namespace Go.Proofs.YtkafkdlgflkjgaaGreat
open Go.RowKit Crc

/-- What a closure that reads a record's fields does: it stands at p behind them; z: what must be noughts there is; ok: they are valid; cs: what it lays into its own block. -/
def ReadsFields (w : World) (fn : Nat) (caps : Array Value) (hb : Nat) (a : List Nat) (p : Nat) (z ok : Bool) (ty : TypeId) (cs : List Value) : Prop :=
 (∀ (args : Array Value) (w : World), (callFunc fn args).run Tryz.prog w = .ok (.enter fn args) w) ∧
 ∀ (W : World) (rb : Nat) (v : Value) (x y : Nat) (t : Bool), Chg [] w W → w.heap.size ≤ rb → (∀ k, v.ownBlock = some k → w.heap.size ≤ k) → RdAt W rb v a 24 t → (t = true → x = rd a 8 8 ∧ y = rd a 16 8) → x < 18446744073709551616 → y < 18446744073709551616 →
   Calls Tryz.prog fn (#[.int .u64 x, .int .u64 y, .pointer (some ⟨rb, 0, none⟩)] ++ caps) W fun e W' => ∃ r : Bool, e = .returned (.bool r) ∧ Hid (RdAt W' rb v a p (t && z)) ∧ Hid (Chg [hb, rb] W W') ∧ ((t && z) = true → r = ok ∧ Hid (Blk W' hb ty cs))

theorem read_at (v : Value) (a : List Nat) (w : World) (h : Sl w v (ints a)) (ha : Bs a) (hl : a.length ≤ 1000) :
 Calls Tryz.prog 230 #[v] w fun e w' => ∃ rb u, e = .returned (.pointer (some ⟨rb, 0, none⟩)) ∧ Hid (RdAt w' rb u a 0 true) ∧ Hid (Chg [] w w') ∧ w.heap.size ≤ rb ∧ (∀ k, u.ownBlock = some k → w.heap.size ≤ k ∧ k < w'.heap.size) := by
 refine (read_any v (ints a) w h (by rw [ints_length]; omega) (ints_by ha)).mono ?_
 rintro e w' ⟨rb, u, rfl, r, c, hz, ho⟩
 exact ⟨rb, u, rfl, ⟨_, r, rfl, fun _ => ⟨rfl, rfl⟩, (fun h => by cases h)⟩, c, hz, ho⟩

set_option maxHeartbeats 1000000 in
set_option maxRecDepth 100000 in
theorem decode_short (k : Nat) (v : Value) (b : List Nat) (fn : Nat) (caps : Array Value) (w : World) (h : Sl w v (ints b)) (hl : ¬ b.length = 128) :
 Calls Tryz.prog 173 #[v, .int .u8 k, .func (.func fn) #[] caps] w fun e w' => e = .returned (.int .u16 4) ∧ Hid (Chg [] w w') := by
 obtain ⟨ao, c, rfl⟩ := h.slice
 rw [ints_length]
 have d2 : ¬ (b.length : Int) = 128 := by omega
 have d3 : ((b.length : Int) != 128) = true := by simpa using d2
 clear h
 go_enter Tryz.func173, Tryz.ntmps173
 go_wp2_with fail
 go_ret
 exact ⟨by first | rfl | simp, Chg.refl _ _⟩

set_option maxHeartbeats 4000000 in
set_option maxRecDepth 100000 in
theorem decode_any (k : Nat) (v : Value) (b : List Nat) (fn : Nat) (caps : Array Value) (hb p : Nat) (z ok : Bool) (ty : TypeId) (cs : List Value) (w : World) (_hk : k ≤ 3) (h : Sl w v (ints b)) (hbs : Bs b) (hcap : ∀ ao n c, v = .slice ao n c → n ≤ c) (hp : p ≤ 124) (hlt : hb < w.heap.size)
 (hfn : ReadsFields w fn caps hb (b.take 124) p z ok ty cs) :
 Calls Tryz.prog 173 #[v, .int .u8 k, .func (.func fn) #[] caps] w fun e w' => e = .returned (.int .u16 (decErr k b p z ok)) ∧ Hid (Chg [hb] w w') ∧ (decErr k b p z ok = 0 → Hid (Blk w' hb ty cs)) := by
 obtain ⟨hen, hcl⟩ := hfn
 replace hcl := Lib.hid hcl
 have KI := Lib.hid (kind_any v b w h hbs hcap)
 have hkk := kindOf_le b
 by_cases hl : b.length = 128
 case neg =>
  have d : lookOf k b = 4 := by unfold lookOf; rw [if_pos hl]
  have d' : decErr k b p z ok = 4 := by unfold decErr; rw [if_pos (by omega), d]
  rw [d']
  clear d d' KI hcl
  obtain ⟨ao, c, rfl⟩ := h.slice
  rw [ints_length]
  have d2 : ¬ (b.length : Int) = 128 := by omega
  have d3 : ((b.length : Int) != 128) = true := by simpa using d2
  clear h
  go_enter Tryz.func173, Tryz.ntmps173
  go_wp2_with fail
  go_ret
  exact ⟨by first | rfl | simp, Chg.refl _ _, fun h => absurd h (by decide)⟩
 rcases h with ⟨h0, _⟩ | ⟨g, o, c, rfl, lb, hc⟩
 ·have := congrArg List.length h0; rw [ints_length, hl] at this; cases this
 have hcp := hcap _ _ _ rfl
 rw [ints_length, hl] at hcp KI ⊢
 have LK : lookOf k b = if kindOf b ≠ k then 80 else if rd b 124 4 ≠ sum (b.take 124) then 81 else 0 := by unfold lookOf; rw [if_neg (by omega)]
 by_cases c1 : kindOf b = k
 case neg =>
  rw [if_pos c1] at LK
  have d' : decErr k b p z ok = 80 := by unfold decErr; rw [if_pos (by omega), LK]
  rw [d']
  have d : ((kindOf b : Int) != (k : Int)) = true := by simpa using show ¬ (kindOf b : Int) = k by omega
  generalize kindOf b = kd at *
  clear c1 LK d' hcl hc
  go_enter Tryz.func173, Tryz.ntmps173
  go_wp2_with fail
  refine KI.out.mono ?_
  rintro e w1 ⟨rfl, rfl⟩
  go_wp2_with fail
  go_ret
  exact ⟨by first | rfl | simp, Chg.refl _ _, fun h => absurd h (by decide)⟩
 rw [if_neg (by omega)] at LK
 rw [c1] at KI
 have hb4 : Bs (b.take 124) := fun x hx => hbs x (List.mem_of_mem_take hx)
 have hb5 : Bs (b.drop 124) := fun x hx => hbs x (List.mem_of_mem_drop hx)
 have S0 : Sl w (.slice (some ⟨g, o, none⟩) 128 c) (ints b) := .inr ⟨g, o, c, by rw [ints_length, hl], lb, hc⟩
 have S1 : Hid (Sl w (.slice (some ⟨g, o, none⟩) 124 c) (ints (b.take 124))) := by
  have h1 := Sl.pre (n := 128) (c := c) S0 124 (by decide)
  rw [show (ints b).take 124 = ints (b.take 124) from by simp [ints]] at h1
  exact h1
 have S2 : Hid (Sl w (.slice (some ⟨g, o + 124, none⟩) 4 (c - 124)) (ints (b.drop 124))) := by
  refine .inr ⟨g, o + 124, c - 124, by rw [ints_length, List.length_drop, hl], lb, fun j hj => ?_⟩
  rw [ints_length, List.length_drop, hl] at hj
  rw [Nat.add_assoc, hc (124 + j) (by rw [ints_length]; omega), ints_get, ints_get]
  simp [List.getD]
 have L4 : (b.take 124).length = 124 := by rw [List.length_take]; omega
 have L5 : (b.drop 124).length = 4 := by rw [List.length_drop, hl]
 have RD := Lib.hid (fun W (C : Chg [] w W) => read_at (.slice (some ⟨g, o + 124, none⟩) 4 (c - 124)) (b.drop 124) W (S2.out.chg C (by simp)) hb5 (by omega))
 have RD2 := Lib.hid (fun W (C : Chg [] w W) => read_at (.slice (some ⟨g, o, none⟩) 124 c) (b.take 124) W (S1.out.chg C (by simp)) hb4 (by omega))
 have SM := Lib.hid (fun W (C : Chg [] w W) => sum_any (.slice (some ⟨g, o, none⟩) 124 c) (ints (b.take 124)) W (S1.out.chg C (by simp)) (ints_by hb4) (by rw [ints_length]; omega))
 rw [nats_ints] at SM
 have U4 := Lib.hid (fun rb u W (r : RdAt W rb u (b.drop 124) 0 true) => u32_at rb u (b.drop 124) 0 true W r hb5 (by omega))
 have RE : Hid (rd (b.drop 124) 0 4 = rd b 124 4) := by show _ = _; unfold rd; rw [List.drop_drop]
 have hsm : sum (b.take 124) < 4294967296 := more_lt (by decide) hb4
 have hDE : decErr k b p z ok = if rd b 124 4 = sum (b.take 124) then (if ((decide (cut (b.take 124) 5 3 = noughts 3) && z) && decide (cut (b.take 124) p (124 - p) = noughts (124 - p))) && ok then 0 else 80) else 81 := by
  unfold decErr
  rw [LK]
  by_cases c2 : rd b 124 4 = sum (b.take 124)
  ·rw [if_pos c2, if_neg (show ¬ rd b 124 4 ≠ sum (b.take 124) from fun h => h c2), if_neg (fun h => h rfl)]
  ·rw [if_neg c2, if_pos c2, if_pos (show (81 : Int) ≠ 0 by decide)]
 rw [hDE]
 clear hDE LK c1 S0 S1 S2 hc hkk
 generalize sum (b.take 124) = sm at *
 generalize rd b 124 4 = gt at *
 generalize b.take 124 = a at *
 generalize b.drop 124 = a2 at *
 have hcp4 : (124 : Int) ≤ c := by omega
 have hcn : ¬ c = 124 := by omega
 have s0 : (0 : Int) ≤ sm := Int.natCast_nonneg _
 have s1 : (sm : Int) < 4294967296 := by omega
 by_cases c2 : gt = sm
 case neg =>
  rw [if_neg c2]
  have d3 : ((gt : Int) != (sm : Int)) = true := by simpa using show ¬ (gt : Int) = sm by omega
  clear c2 RD2 hcl hsm s0 s1
  go_enter Tryz.func173, Tryz.ntmps173
  go_wp2_with fail
  refine KI.out.mono ?_
  rintro e w1 ⟨rfl, rfl⟩
  go_wp2_with fail
  go_region_with (first
   | (go_at_call 230; refine (RD.out _ (by first | exact (Chg.refl [] w).drew | exact DS.out)).mono ?_; rintro e w1 ⟨rb, u, rfl, R, C, hz, ho⟩; have hrb : w.heap.size ≤ rb := (by first | exact hz | exact Nat.le_trans DS.out.size hz); have DR : Hid (Chg [] w w1) := (by first | exact (Chg.refl [] w).drew.trans C.out | exact DS.out.trans C.out); clear C hz ho)
   | (go_at_call 161; refine (SM.out _ (by first | exact (Chg.refl [] w).drew | exact DR.out | exact DU.out)).mono ?_; rintro e w2 ⟨rfl, CS⟩; have DS : Hid (Chg [] w w2) := (by first | exact (Chg.refl [] w).drew.trans CS.out | exact DR.out.trans CS.out | exact DU.out.trans CS.out))
   | (go_at_call 175; refine (U4.out rb u _ (by first | exact R.out | exact R.out.chg CS.out (by simp) (by simp))).mono ?_; rintro e w3 ⟨x, rfl, hxl, hxe, R2, C3⟩; obtain rfl : x = gt := (hxe rfl).trans RE.out; have DU : Hid (Chg [] w w3) := (by first | exact DR.out.fresh C3.out (fun j hj => .inr (by rw [List.mem_singleton.1 hj]; exact hrb)) | exact DS.out.fresh C3.out (fun j hj => .inr (by rw [List.mem_singleton.1 hj]; exact hrb))); clear hxe C3 hxl))
  all_goals (go_wp2_with fail; go_ret)
  all_goals exact ⟨by first | rfl | simp, (by first | exact DS.out.mono (by simp) | exact DU.out.mono (by simp)), fun h => absurd h (by decide)⟩
 subst c2
 rw [if_pos rfl]
 have d3 : ((gt : Int) != (gt : Int)) = false := by simp
 obtain ⟨z1, hz1⟩ : ∃ z1, z1 = decide (cut a 5 3 = noughts 3) := ⟨_, rfl⟩
 rw [← hz1]
 obtain ⟨z2, hz2⟩ : ∃ z2, z2 = decide (cut a p (124 - p) = noughts (124 - p)) := ⟨_, rfl⟩
 rw [← hz2]
 obtain ⟨er, her⟩ : ∃ er : Int, er = if (((z1 && z) && z2) && ok) = true then 0 else 80 := ⟨_, rfl⟩
 rw [← her]
 replace her := Lib.hid her
 have NO := Lib.hid (fun qb qv W (Q : RdAt W qb qv a 5 true) => noughts_at qb qv a 5 3 true W Q (by omega) (by omega))
 rw [← hz1] at NO
 have NO2 := Lib.hid (fun qb qv W (Q : RdAt W qb qv a p true) => noughts_at qb qv a p (124 - p) true W Q (by omega) (by omega))
 rw [← hz2] at NO2
 clear hz1 hz2 hsm s0 s1
 go_enter Tryz.func173, Tryz.ntmps173
 go_wp2_with fail
 refine KI.out.mono ?_
 rintro e w1 ⟨rfl, rfl⟩
 go_wp2_with fail
 go_region_with (first
  | (go_at_call 230; refine (RD.out _ (by first | exact (Chg.refl [] w).drew | exact DS.out)).mono ?_; rintro e w1 ⟨rb, u, rfl, R, C, hz, ho⟩; have hrb : w.heap.size ≤ rb := (by first | exact hz | exact Nat.le_trans DS.out.size hz); have DR : Hid (Chg [] w w1) := (by first | exact (Chg.refl [] w).drew.trans C.out | exact DS.out.trans C.out); clear C hz ho)
  | (go_at_call 161; refine (SM.out _ (by first | exact (Chg.refl [] w).drew | exact DR.out | exact DU.out)).mono ?_; rintro e w2 ⟨rfl, CS⟩; have DS : Hid (Chg [] w w2) := (by first | exact (Chg.refl [] w).drew.trans CS.out | exact DR.out.trans CS.out | exact DU.out.trans CS.out))
  | (go_at_call 175; refine (U4.out rb u _ (by first | exact R.out | exact R.out.chg CS.out (by simp) (by simp))).mono ?_; rintro e w3 ⟨x, rfl, hxl, hxe, R2, C3⟩; obtain rfl : x = gt := (hxe rfl).trans RE.out; have DU : Hid (Chg [] w w3) := (by first | exact DR.out.fresh C3.out (fun j hj => .inr (by rw [List.mem_singleton.1 hj]; exact hrb)) | exact DS.out.fresh C3.out (fun j hj => .inr (by rw [List.mem_singleton.1 hj]; exact hrb))); clear hxe C3 hxl))
 all_goals (
  go_wp2_with fail
  refine (RD2.out _ (by first | exact DS.out | exact DU.out)).mono ?_
  rintro e w4 ⟨qb, qv, rfl, Q, C, hqz, hqo⟩
  have D : Hid (Chg [] w w4) := (by first | exact DS.out.trans C.out | exact DU.out.trans C.out)
  have hqb : w.heap.size ≤ qb := (by first | exact Nat.le_trans DS.out.size hqz | exact Nat.le_trans DU.out.size hqz)
  have hqv : Hid (∀ k, qv.ownBlock = some k → w.heap.size ≤ k) := (by first | exact fun k hk => Nat.le_trans DS.out.size (hqo k hk).1 | exact fun k hk => Nat.le_trans DU.out.size (hqo k hk).1)
  have K : Hid (∀ (W W' : World), Chg [] w W → Chg [qb] W W' → Chg [] w W') := fun W W' c d => c.fresh d (fun j hj => .inr (by rw [List.mem_singleton.1 hj]; exact hqb))
  have hne : ¬ hb = qb := by omega
  clear C hqz hqo DS DR RD RD2 SM U4 R R2 CS
  go_wp2_with fail
  refine (raw_at qb qv a 0 5 true w4 Q.out (by omega) (by omega)).mono ?_
  rintro e w5 ⟨u', rfl, Q1, C⟩
  replace D : Hid (Chg [] w w5) := K.out _ _ D.out C.out
  clear Q C
  go_wp2_with fail
  refine (NO.out qb qv w5 Q1.out).mono ?_
  rintro e w6 ⟨rfl, Q, C⟩
  replace D : Hid (Chg [] w w6) := K.out _ _ D.out C.out
  rw [Bool.true_and] at Q
  clear Q1 C NO
  go_wp2_with fail
  refine (u64_at qb qv a 8 z1 w6 Q.out hb4 (by omega)).mono ?_
  rintro e w7 ⟨x, rfl, hxl, hxe, Q1, C⟩
  replace D : Hid (Chg [] w w7) := K.out _ _ D.out C.out
  replace hxl := Lib.hid hxl
  clear Q C
  go_wp2_with fail
  refine (u64_at qb qv a 16 z1 w7 Q1.out hb4 (by omega)).mono ?_
  rintro e w8 ⟨y, rfl, hyl, hye, Q, C⟩
  replace D : Hid (Chg [] w w8) := K.out _ _ D.out C.out
  replace hyl := Lib.hid hyl
  clear Q1 C
  go_wp2_with fail
  refine (hcl.out w8 qb qv x y z1 D.out hqb hqv.out Q.out (fun h => ⟨hxe h, hye h⟩) hxl.out hyl.out).mono ?_
  rintro e w9 ⟨r, rfl, Q1, C, hr⟩
  have D9 : Hid (Chg [hb] w w9) := (D.out.mono (t := [hb]) (by simp)).fresh C.out (fun j hj => by
   rcases List.mem_cons.1 hj with rfl | hj
   ·exact .inl (by simp)
   ·exact .inr (by rw [List.mem_singleton.1 hj]; exact hqb))
  clear Q C D K hxl hxe hyl hye hcl
  have K : Hid (∀ (W W' : World), Chg [hb] w W → Chg [qb] W W' → Chg [hb] w W') := fun W W' c d => c.fresh d (fun j hj => .inr (by rw [List.mem_singleton.1 hj]; exact hqb))
  obtain ⟨q, hq⟩ : ∃ q, q = (z1 && z) := ⟨_, rfl⟩
  rw [← hq] at Q1 hr her
  clear hq
  rcases q with _ | _
  ·have er0 : er = 80 := her.out
   clear hr her NO2
   go_wp2_with fail
   refine (left_at qb qv a p false w9 Q1.out).mono ?_
   rintro e w10 ⟨n, rfl, hn, _, nq, rfl⟩
   have Q2 : Hid (RdAt (w9.drewN nq) qb qv a p false) := Q1.out.chg ((Chg.refl [] w9).drewN nq) (by simp) (by simp)
   have D10 : Hid (Chg [hb] w (w9.drewN nq)) := D9.out.drewN nq
   clear Q1 D9
   go_wp2_with fail
   refine (noughts_fail qb qv a p n _ Q2.out (by omega)).mono ?_
   rintro e w11 ⟨rfl, Q1, C⟩
   replace D10 : Hid (Chg [hb] w w11) := K.out _ _ D10.out C.out
   clear Q2 C
   go_wp2_with fail
   refine (end_fail qb qv a p w11 Q1.out).mono ?_
   rintro e w12 ⟨x1, y1, rfl, hx1, nq2, rfl⟩
   have hxx : (x1 != 0) = true := by simpa using hx1
   go_wp2_with fail
   go_ret
   exact ⟨by rw [er0]; rfl, D10.out.drewN nq2, fun h => absurd (er0.symm.trans h) (by decide)⟩
  ·obtain ⟨hrk, B⟩ := hr rfl
   subst hrk
   have er0 : er = if (z2 && r) = true then 0 else 80 := her.out
   clear hr her
   go_wp2_with fail
   refine (left_at qb qv a p true w9 Q1.out).mono ?_
   rintro e w10 ⟨n, rfl, hn, hnn, nq, rfl⟩
   obtain rfl : n = 124 - p := by rw [hnn rfl, L4]
   have Q2 : Hid (RdAt (w9.drewN nq) qb qv a p true) := Q1.out.chg ((Chg.refl [] w9).drewN nq) (by simp) (by simp)
   have D10 : Hid (Chg [hb] w (w9.drewN nq)) := D9.out.drewN nq
   have B2 : Hid (Blk (w9.drewN nq) hb ty cs) := B.out.drewN nq
   clear Q1 D9 B hnn hn
   go_wp2_with fail
   refine (NO2.out qb qv _ Q2.out).mono ?_
   rintro e w11 ⟨rfl, Q1, C⟩
   replace D10 : Hid (Chg [hb] w w11) := K.out _ _ D10.out C.out
   have B3 : Hid (Blk w11 hb ty cs) := B2.out.chg C.out (by simpa using hne)
   rw [Bool.true_and, show p + (124 - p) = a.length by omega] at Q1
   clear Q2 C B2 NO2
   go_wp2_with fail
   refine (end_at qb qv a z2 w11 Q1.out).mono ?_
   rintro e w12 ⟨x1, y1, rfl, hx1, nq2, rfl⟩
   rcases z2 with _ | _
   ·have hxx : (x1 != 0) = true := by
     have h : ¬ x1 = 0 := fun h => by have := hx1.1 h; cases this
     simpa using h
    have er1 : er = 80 := er0
    clear hx1 er0
    go_wp2_with fail
    go_ret
    exact ⟨by rw [er1]; rfl, D10.out.drewN nq2, fun h => absurd (er1.symm.trans h) (by decide)⟩
   ·obtain rfl : x1 = 0 := hx1.2 rfl
    clear hx1
    rcases r with _ | _
    ·have er1 : er = 80 := er0
     clear er0
     go_wp2_with fail
     go_ret
     exact ⟨by rw [er1]; rfl, D10.out.drewN nq2, fun h => absurd (er1.symm.trans h) (by decide)⟩
    ·have er1 : er = 0 := er0
     clear er0
     go_wp2_with fail
     go_ret
     exact ⟨by rw [er1]; rfl, D10.out.drewN nq2, fun _ => B3.out.drewN nq2⟩)

end Go.Proofs.YtkafkdlgflkjgaaGreat
namespace Go.Proofs.YtkafkdlgflkjgaaGreat
open Go.RowKit Crc

/-- A struct's cells. -/
def cellsOf : Value → List Value
 | .agg xs => xs.toList
 | _ => []

theorem enters_DecodeHeader (args : Array Value) (w : World) : (callFunc 263 args).run Tryz.prog w = .ok (.enter 263 args) w := by
 have h1 : (Tryz.f263.name == "runtime.NumGoroutine") = false := by kernel_rfl
 have h2 : Tryz.f263.body.isNone = false := by kernel_rfl
 have h3 : ¬ Tryz.f263.name = "runtime.NumGoroutine" := by simpa using h1
 have h4 : ¬ Tryz.f263.body = none := fun e => by rw [e] at h2; cases h2
 simp [callFunc, go_sem, Tryz.func263, h3, h4]

set_option maxHeartbeats 8000000 in
set_option maxRecDepth 100000 in
theorem reads_Hd (a : List Nat) (ha : Bs a) (hl : a.length = 124) (hb : Nat) (w : World) (B : Blk w hb 256 [.int .u64 0, .int .u64 0, .int .i64 0, .int .i64 0, .int .i64 0, .int .i64 0, .bool false, .int .u32 0]) : ReadsFields w 263 #[.pointer (some ⟨hb, 0, none⟩)] hb a 48 (decide (cut a 41 3 = noughts 3)) (decide (Hd.of a).Ok && decide (a.getD 40 0 ≤ 1)) 256 (cellsOf (Hd.of a).val) := by
 refine ⟨enters_DecodeHeader, fun W rb v x y t c hrb hv R hxy hx hy => ?_⟩
 have hlt := B.lt
 have hnb : ¬ hb = rb := by omega
 have hnr : ¬ rb = hb := by omega
 have hnv : Hid (∀ k, v.ownBlock = some k → k ∉ [hb]) := fun k hk => by have := hv k hk; simp; omega
 have B0 : Hid (Blk W hb 256 [.int .u64 0, .int .u64 0, .int .i64 0, .int .i64 0, .int .i64 0, .int .i64 0, .bool false, .int .u32 0]) := B.chg c (by simp)
 replace R := Lib.hid R
 replace hxy := Lib.hid hxy
 replace ha := Lib.hid ha
 obtain ⟨z, hz⟩ : ∃ z, z = decide (cut a 41 3 = noughts 3) := ⟨_, rfl⟩
 have NO := Lib.hid (fun W (Q : RdAt W rb v a 41 t) => noughts_at rb v a 41 3 t W Q (by omega) (by omega))
 rw [← hz] at NO ⊢
 clear hz
 have f0 := B0.out.free 0
 have f1 := B0.out.free 1
 have c0 := B0.out.cell (j := 0) rfl
 have c1 := B0.out.cell (j := 1) rfl
 clear c B hv hlt
 go_enter Tryz.func263, Tryz.ntmps263
 go_wp2_with fail
 have B1 := Lib.hid ((B0.out.set 0 (.int .u64 (x : Int))).set 1 (.int .u64 (y : Int)))
 have D : Hid (Chg [hb, rb] W _) := ((Chg.refl [hb, rb] W).setCell (p := ⟨hb, 0, none⟩) (.inl (by simp)) (.int .u64 (x : Int))).setCell (p := ⟨hb, 1, none⟩) (.inl (by simp)) (.int .u64 (y : Int))
 replace R := Lib.hid (R.out.chg (((Chg.refl [hb] W).setCell (p := ⟨hb, 0, none⟩) (.inl (by simp)) (.int .u64 (x : Int))).setCell (p := ⟨hb, 1, none⟩) (.inl (by simp)) (.int .u64 (y : Int))) (by simpa using hnr) hnv.out)
 clear B0 f0 f1 c0 c1
 refine (u32_at rb v a 24 t _ R.out ha.out (by omega)).mono ?_
 rintro e w1 ⟨n0, rfl, hl0, he0, R', C⟩
 replace hl0 : n0 < 4294967296 := hl0
 replace he0 := Lib.hid he0
 have B2 := Lib.hid (B1.out.chg C.out (by simpa using hnb))
 have D' : Hid (Chg [hb, rb] W w1) := D.out.trans (C.out.mono (by simp))
 clear B1 C R D
 have R := R'
 have B1 := B2
 have D := D'
 clear R' B2 D'
 have fj := B1.out.free 2
 have cj := B1.out.cell (j := 2) rfl
 have B2 := Lib.hid (B1.out.set 2 (.int .i64 (n0 : Int)))
 have D' := Lib.hid (D.out.setCell (p := ⟨hb, 2, none⟩) (.inl (by simp)) (.int .i64 (n0 : Int)))
 have R' := Lib.hid (R.out.chg ((Chg.refl [hb] w1).setCell (p := ⟨hb, 2, none⟩) (.inl (by simp)) (.int .i64 (n0 : Int))) (by simpa using hnr) hnv.out)
 clear R D B1
 have R := R'
 have B1 := B2
 have D := D'
 clear R' B2 D'
 go_wp2_with fail
 refine (u32_at rb v a 28 t _ R.out ha.out (by omega)).mono ?_
 rintro e w2 ⟨n1, rfl, hl1, he1, R', C⟩
 replace hl1 : n1 < 4294967296 := hl1
 replace he1 := Lib.hid he1
 have B2 := Lib.hid (B1.out.chg C.out (by simpa using hnb))
 have D' : Hid (Chg [hb, rb] W w2) := D.out.trans (C.out.mono (by simp))
 clear B1 C R D
 have R := R'
 have B1 := B2
 have D := D'
 clear R' B2 D'
 have fj := B1.out.free 3
 have cj := B1.out.cell (j := 3) rfl
 have B2 := Lib.hid (B1.out.set 3 (.int .i64 (n1 : Int)))
 have D' := Lib.hid (D.out.setCell (p := ⟨hb, 3, none⟩) (.inl (by simp)) (.int .i64 (n1 : Int)))
 have R' := Lib.hid (R.out.chg ((Chg.refl [hb] w2).setCell (p := ⟨hb, 3, none⟩) (.inl (by simp)) (.int .i64 (n1 : Int))) (by simpa using hnr) hnv.out)
 clear R D B1
 have R := R'
 have B1 := B2
 have D := D'
 clear R' B2 D'
 go_wp2_with fail
 refine (u32_at rb v a 32 t _ R.out ha.out (by omega)).mono ?_
 rintro e w3 ⟨n2, rfl, hl2, he2, R', C⟩
 replace hl2 : n2 < 4294967296 := hl2
 replace he2 := Lib.hid he2
 have B2 := Lib.hid (B1.out.chg C.out (by simpa using hnb))
 have D' : Hid (Chg [hb, rb] W w3) := D.out.trans (C.out.mono (by simp))
 clear B1 C R D
 have R := R'
 have B1 := B2
 have D := D'
 clear R' B2 D'
 have fj := B1.out.free 4
 have cj := B1.out.cell (j := 4) rfl
 have B2 := Lib.hid (B1.out.set 4 (.int .i64 (n2 : Int)))
 have D' := Lib.hid (D.out.setCell (p := ⟨hb, 4, none⟩) (.inl (by simp)) (.int .i64 (n2 : Int)))
 have R' := Lib.hid (R.out.chg ((Chg.refl [hb] w3).setCell (p := ⟨hb, 4, none⟩) (.inl (by simp)) (.int .i64 (n2 : Int))) (by simpa using hnr) hnv.out)
 clear R D B1
 have R := R'
 have B1 := B2
 have D := D'
 clear R' B2 D'
 go_wp2_with fail
 refine (u32_at rb v a 36 t _ R.out ha.out (by omega)).mono ?_
 rintro e w4 ⟨n3, rfl, hl3, he3, R', C⟩
 replace hl3 : n3 < 4294967296 := hl3
 replace he3 := Lib.hid he3
 have B2 := Lib.hid (B1.out.chg C.out (by simpa using hnb))
 have D' : Hid (Chg [hb, rb] W w4) := D.out.trans (C.out.mono (by simp))
 clear B1 C R D
 have R := R'
 have B1 := B2
 have D := D'
 clear R' B2 D'
 have fj := B1.out.free 5
 have cj := B1.out.cell (j := 5) rfl
 have B2 := Lib.hid (B1.out.set 5 (.int .i64 (n3 : Int)))
 have D' := Lib.hid (D.out.setCell (p := ⟨hb, 5, none⟩) (.inl (by simp)) (.int .i64 (n3 : Int)))
 have R' := Lib.hid (R.out.chg ((Chg.refl [hb] w4).setCell (p := ⟨hb, 5, none⟩) (.inl (by simp)) (.int .i64 (n3 : Int))) (by simpa using hnr) hnv.out)
 clear R D B1
 have R := R'
 have B1 := B2
 have D := D'
 clear R' B2 D'
 go_wp2_with fail
 refine (u8_at rb v a 40 t _ R.out ha.out (by omega)).mono ?_
 rintro e w5 ⟨n4, rfl, hl4, he4, R', C⟩
 replace hl4 : n4 < 256 := hl4
 replace he4 := Lib.hid he4
 have B2 := Lib.hid (B1.out.chg C.out (by simpa using hnb))
 have D' : Hid (Chg [hb, rb] W w5) := D.out.trans (C.out.mono (by simp))
 clear B1 C R D
 have R := R'
 have B1 := B2
 have D := D'
 clear R' B2 D'
 obtain ⟨es, hes⟩ : ∃ es, es = decide (n4 = 1) := ⟨_, rfl⟩
 have hes2 : ((n4 : Int) == 1) = es := by rw [hes, Bool.eq_iff_iff]; simp; omega
 replace hes := Lib.hid hes
 obtain ⟨le1, hle⟩ : ∃ le1, le1 = decide (n4 ≤ 1) := ⟨_, rfl⟩
 have hle2 : decide ((n4 : Int) ≤ 1) = le1 := by rw [hle]; exact decide_eq_decide.2 (by omega)
 replace hle := Lib.hid hle
 have fj := B1.out.free 6
 have cj := B1.out.cell (j := 6) rfl
 have B2 := Lib.hid (B1.out.set 6 (.bool es))
 have D' := Lib.hid (D.out.setCell (p := ⟨hb, 6, none⟩) (.inl (by simp)) (.bool es))
 have R' := Lib.hid (R.out.chg ((Chg.refl [hb] w5).setCell (p := ⟨hb, 6, none⟩) (.inl (by simp)) (.bool es)) (by simpa using hnr) hnv.out)
 clear R D B1
 have R := R'
 have B1 := B2
 have D := D'
 clear R' B2 D'
 go_wp2_with fail
 refine (NO.out _ R.out).mono ?_
 rintro e w6 ⟨rfl, R', C⟩
 have B2 := Lib.hid (B1.out.chg C.out (by simpa using hnb))
 have D' : Hid (Chg [hb, rb] W w6) := D.out.trans (C.out.mono (by simp))
 clear B1 C R D
 have R := R'
 have B1 := B2
 have D := D'
 clear R' B2 D'
 go_wp2_with fail
 refine (u32_at rb v a 44 (t && z) _ R.out ha.out (by omega)).mono ?_
 rintro e w7 ⟨n6, rfl, hl6, he6, R', C⟩
 replace hl6 : n6 < 4294967296 := hl6
 replace he6 := Lib.hid he6
 have B2 := Lib.hid (B1.out.chg C.out (by simpa using hnb))
 have D' : Hid (Chg [hb, rb] W w7) := D.out.trans (C.out.mono (by simp))
 clear B1 C R D
 have R := R'
 have B1 := B2
 have D := D'
 clear R' B2 D'
 have fj := B1.out.free 7
 have cj := B1.out.cell (j := 7) rfl
 have B2 := Lib.hid (B1.out.set 7 (.int .u32 (n6 : Int)))
 have D' := Lib.hid (D.out.setCell (p := ⟨hb, 7, none⟩) (.inl (by simp)) (.int .u32 (n6 : Int)))
 have R' := Lib.hid (R.out.chg ((Chg.refl [hb] w7).setCell (p := ⟨hb, 7, none⟩) (.inl (by simp)) (.int .u32 (n6 : Int))) (by simpa using hnr) hnv.out)
 clear R D B1
 have R := R'
 have B1 := B2
 have D := D'
 clear R' B2 D'
 have k0 := B1.out.cell (j := 0) rfl
 have k1 := B1.out.cell (j := 1) rfl
 have k2 := B1.out.cell (j := 2) rfl
 have k3 := B1.out.cell (j := 3) rfl
 have k4 := B1.out.cell (j := 4) rfl
 have k5 := B1.out.cell (j := 5) rfl
 have k6 := B1.out.cell (j := 6) rfl
 have k7 := B1.out.cell (j := 7) rfl
 have VA := Lib.hid (fun W => headerValid_any (⟨x, y, n0, n1, n2, n3, es, n6⟩ : Hd) W)
 simp only [Hd.val] at VA
 obtain ⟨r, hr⟩ : ∃ r, r = decide (⟨x, y, n0, n1, n2, n3, es, n6⟩ : Hd).Ok := ⟨_, rfl⟩
 rw [← hr] at VA
 replace hr := Lib.hid hr
 rcases r with _ | _
 case false =>
  go_wp2_with fail
  refine (VA.out _).mono ?_
  rintro e wz ⟨rfl, C⟩
  have D2 := Lib.hid (D.out.trans (C.out.mono (by simp)))
  have B2 := Lib.hid (B1.out.chg C.out (by simp))
  have R2 := Lib.hid (R.out.chg C.out (by simp) (by simp))
  clear k0 k1 k2 k3 k4 k5 k6 k7 D B1 R C VA
  go_wp2_with fail
  go_ret
  refine ⟨false, rfl, R2, D2, fun ht => ?_⟩
  have ht1 : t = true := by rw [Bool.and_eq_true] at ht; exact ht.1
  obtain ⟨e1, e2⟩ := hxy.out ht1
  have e40 : n4 = a.getD 40 0 := by
   have h1 := he4.out ht1
   have h2 := cut_one (b := a) (i := 40) (by omega)
   unfold cut at h2
   unfold rd at h1
   rw [h2] at h1
   simpa [val] using h1
  have e : (⟨x, y, n0, n1, n2, n3, es, n6⟩ : Hd) = Hd.of a := by
   rw [e1, e2, he0.out ht1, he1.out ht1, he2.out ht1, he3.out ht1, he6.out ht, hes.out, e40]
   rfl
  refine ⟨?_, ?_⟩
  ·rw [← e, ← e40, ← hr.out, ← hle.out]; rfl
  ·rw [← e]
   exact B2
 case true =>
  go_wp2_with fail
  refine (VA.out _).mono ?_
  rintro e wz ⟨rfl, C⟩
  have D2 := Lib.hid (D.out.trans (C.out.mono (by simp)))
  have B2 := Lib.hid (B1.out.chg C.out (by simp))
  have R2 := Lib.hid (R.out.chg C.out (by simp) (by simp))
  clear k0 k1 k2 k3 k4 k5 k6 k7 D B1 R C VA
  go_wp2_with fail
  go_ret
  refine ⟨le1, rfl, R2, D2, fun ht => ?_⟩
  have ht1 : t = true := by rw [Bool.and_eq_true] at ht; exact ht.1
  obtain ⟨e1, e2⟩ := hxy.out ht1
  have e40 : n4 = a.getD 40 0 := by
   have h1 := he4.out ht1
   have h2 := cut_one (b := a) (i := 40) (by omega)
   unfold cut at h2
   unfold rd at h1
   rw [h2] at h1
   simpa [val] using h1
  have e : (⟨x, y, n0, n1, n2, n3, es, n6⟩ : Hd) = Hd.of a := by
   rw [e1, e2, he0.out ht1, he1.out ht1, he2.out ht1, he3.out ht1, he6.out ht, hes.out, e40]
   rfl
  refine ⟨?_, ?_⟩
  ·rw [← e, ← e40, ← hr.out, ← hle.out]; rfl
  ·rw [← e]
   exact B2

theorem enters_DecodeCommit (args : Array Value) (w : World) : (callFunc 262 args).run Tryz.prog w = .ok (.enter 262 args) w := by
 have h1 : (Tryz.f262.name == "runtime.NumGoroutine") = false := by kernel_rfl
 have h2 : Tryz.f262.body.isNone = false := by kernel_rfl
 have h3 : ¬ Tryz.f262.name = "runtime.NumGoroutine" := by simpa using h1
 have h4 : ¬ Tryz.f262.body = none := fun e => by rw [e] at h2; cases h2
 simp [callFunc, go_sem, Tryz.func262, h3, h4]

set_option maxHeartbeats 8000000 in
set_option maxRecDepth 100000 in
theorem reads_Cm (a : List Nat) (ha : Bs a) (hl : a.length = 124) (hb : Nat) (w : World) (B : Blk w hb 260 [.int .u64 0, .int .u64 0, .int .i64 0, .int .u32 0]) : ReadsFields w 262 #[.pointer (some ⟨hb, 0, none⟩)] hb a 32 (true) (decide (Cm.of a).Ok) 260 (cellsOf (Cm.of a).val) := by
 refine ⟨enters_DecodeCommit, fun W rb v x y t c hrb hv R hxy hx hy => ?_⟩
 have hlt := B.lt
 have hnb : ¬ hb = rb := by omega
 have hnr : ¬ rb = hb := by omega
 have hnv : Hid (∀ k, v.ownBlock = some k → k ∉ [hb]) := fun k hk => by have := hv k hk; simp; omega
 have B0 : Hid (Blk W hb 260 [.int .u64 0, .int .u64 0, .int .i64 0, .int .u32 0]) := B.chg c (by simp)
 replace R := Lib.hid R
 replace hxy := Lib.hid hxy
 replace ha := Lib.hid ha
 have f0 := B0.out.free 0
 have f1 := B0.out.free 1
 have c0 := B0.out.cell (j := 0) rfl
 have c1 := B0.out.cell (j := 1) rfl
 clear c B hv hlt
 go_enter Tryz.func262, Tryz.ntmps262
 go_wp2_with fail
 have B1 := Lib.hid ((B0.out.set 0 (.int .u64 (x : Int))).set 1 (.int .u64 (y : Int)))
 have D : Hid (Chg [hb, rb] W _) := ((Chg.refl [hb, rb] W).setCell (p := ⟨hb, 0, none⟩) (.inl (by simp)) (.int .u64 (x : Int))).setCell (p := ⟨hb, 1, none⟩) (.inl (by simp)) (.int .u64 (y : Int))
 replace R := Lib.hid (R.out.chg (((Chg.refl [hb] W).setCell (p := ⟨hb, 0, none⟩) (.inl (by simp)) (.int .u64 (x : Int))).setCell (p := ⟨hb, 1, none⟩) (.inl (by simp)) (.int .u64 (y : Int))) (by simpa using hnr) hnv.out)
 clear B0 f0 f1 c0 c1
 refine (u32_at rb v a 24 t _ R.out ha.out (by omega)).mono ?_
 rintro e w1 ⟨n0, rfl, hl0, he0, R', C⟩
 replace hl0 : n0 < 4294967296 := hl0
 replace he0 := Lib.hid he0
 have B2 := Lib.hid (B1.out.chg C.out (by simpa using hnb))
 have D' : Hid (Chg [hb, rb] W w1) := D.out.trans (C.out.mono (by simp))
 clear B1 C R D
 have R := R'
 have B1 := B2
 have D := D'
 clear R' B2 D'
 have fj := B1.out.free 2
 have cj := B1.out.cell (j := 2) rfl
 have B2 := Lib.hid (B1.out.set 2 (.int .i64 (n0 : Int)))
 have D' := Lib.hid (D.out.setCell (p := ⟨hb, 2, none⟩) (.inl (by simp)) (.int .i64 (n0 : Int)))
 have R' := Lib.hid (R.out.chg ((Chg.refl [hb] w1).setCell (p := ⟨hb, 2, none⟩) (.inl (by simp)) (.int .i64 (n0 : Int))) (by simpa using hnr) hnv.out)
 clear R D B1
 have R := R'
 have B1 := B2
 have D := D'
 clear R' B2 D'
 go_wp2_with fail
 refine (u32_at rb v a 28 t _ R.out ha.out (by omega)).mono ?_
 rintro e w2 ⟨n1, rfl, hl1, he1, R', C⟩
 replace hl1 : n1 < 4294967296 := hl1
 replace he1 := Lib.hid he1
 have B2 := Lib.hid (B1.out.chg C.out (by simpa using hnb))
 have D' : Hid (Chg [hb, rb] W w2) := D.out.trans (C.out.mono (by simp))
 clear B1 C R D
 have R := R'
 have B1 := B2
 have D := D'
 clear R' B2 D'
 have fj := B1.out.free 3
 have cj := B1.out.cell (j := 3) rfl
 have B2 := Lib.hid (B1.out.set 3 (.int .u32 (n1 : Int)))
 have D' := Lib.hid (D.out.setCell (p := ⟨hb, 3, none⟩) (.inl (by simp)) (.int .u32 (n1 : Int)))
 have R' := Lib.hid (R.out.chg ((Chg.refl [hb] w2).setCell (p := ⟨hb, 3, none⟩) (.inl (by simp)) (.int .u32 (n1 : Int))) (by simpa using hnr) hnv.out)
 clear R D B1
 have R := R'
 have B1 := B2
 have D := D'
 clear R' B2 D'
 have k0 := B1.out.cell (j := 0) rfl
 have k1 := B1.out.cell (j := 1) rfl
 have k2 := B1.out.cell (j := 2) rfl
 have k3 := B1.out.cell (j := 3) rfl
 have VA := Lib.hid (fun W => commitValid_any (⟨x, y, n0, n1⟩ : Cm) W)
 simp only [Cm.val] at VA
 obtain ⟨r, hr⟩ : ∃ r, r = decide (⟨x, y, n0, n1⟩ : Cm).Ok := ⟨_, rfl⟩
 rw [← hr] at VA
 replace hr := Lib.hid hr
 go_wp2_with fail
 refine (VA.out _).mono ?_
 rintro e wz ⟨rfl, C⟩
 have D2 := Lib.hid (D.out.trans (C.out.mono (by simp)))
 have B2 := Lib.hid (B1.out.chg C.out (by simp))
 have R2 := Lib.hid (R.out.chg C.out (by simp) (by simp))
 clear k0 k1 k2 k3 D B1 R C VA
 go_wp2_with fail
 go_ret
 refine ⟨r, rfl, by rw [Bool.and_true]; exact R2, D2, fun ht => ?_⟩
 rw [Bool.and_true] at ht
 obtain ⟨e1, e2⟩ := hxy.out ht
 have e : (⟨x, y, n0, n1⟩ : Cm) = Cm.of a := by rw [e1, e2, he0.out ht, he1.out ht]; rfl
 refine ⟨by rw [hr.out, e], ?_⟩
 rw [← e]
 exact B2

end Go.Proofs.YtkafkdlgflkjgaaGreat