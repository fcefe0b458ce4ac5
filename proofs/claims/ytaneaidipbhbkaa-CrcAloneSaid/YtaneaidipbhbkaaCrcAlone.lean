/-
  CrcAlone walked. By an AI agent.
-/
import Derived.Test.YtaneaidipbhbkaaCrcPieces
namespace Go.Proofs.Ytaneaidipbhbkaa
open Go.RowKit
open Crc

/-- What lies in memory: two digests and two rows that the call owns, side by side. -/
structure ASit (w0 w : World) (ga gb : Nat) (vx vy : Value) (Da Db Lx Ly : List Int) : Prop where
  da : Dig w ga (sum (nats Da)) Da.length
  db : Dig w gb (sum (nats Db)) Db.length
  ox : w.ownsRow w0.heap.size 5 1 vx Lx.length (Lx.map (Value.int .u8))
  oy : w.ownsRow w0.heap.size 5 1 vy Ly.length (Ly.map (Value.int .u8))
  ab : ga ≠ gb
  xa : vx.ownBlock ≠ some ga
  xb : vx.ownBlock ≠ some gb
  ya : vy.ownBlock ≠ some ga
  yb : vy.ownBlock ≠ some gb
  xy : ∀ k, vx.ownBlock = some k → vy.ownBlock ≠ some k
  na : w0.heap.size ≤ ga
  nb : w0.heap.size ≤ gb
  chg : Chg [] w0 w

theorem ASit.quiet {w0 w w' : World} {ga gb : Nat} {vx vy : Value} {Da Db Lx Ly : List Int} (h : ASit w0 w ga gb vx vy Da Db Lx Ly) (c : Chg [] w w') : ASit w0 w' ga gb vx vy Da Db Lx Ly :=
  ⟨Blk.chg h.da c (by simp), Blk.chg h.db c (by simp), owns_chg h.ox c (fun _ _ => by simp), owns_chg h.oy c (fun _ _ => by simp), h.ab, h.xa, h.xb, h.ya, h.yb, h.xy, h.na, h.nb, h.chg.trans c⟩

/-- The two, the other way round. -/
theorem ASit.swap {w0 w : World} {ga gb : Nat} {vx vy : Value} {Da Db Lx Ly : List Int} (h : ASit w0 w ga gb vx vy Da Db Lx Ly) : ASit w0 w gb ga vy vx Db Da Ly Lx :=
  ⟨h.db, h.da, h.oy, h.ox, fun e => h.ab e.symm, h.yb, h.ya, h.xb, h.xa, fun k e1 e2 => h.xy k e2 e1, h.nb, h.na, h.chg⟩

theorem not_row {v : Value} {g : Nat} (h : v.ownBlock ≠ some g) : g ∉ v.ownBlock.toList := by
  cases hb : v.ownBlock with
  | none => simp
  | some k => rw [hb] at h; simp at h ⊢; omega

theorem ASit.grow {w0 w w' : World} {ga gb : Nat} {vx vy v' : Value} {Da Db Lx Ly ys : List Int} (h : ASit w0 w ga gb vx vy Da Db Lx Ly)
    (o : w'.ownsRow w0.heap.size 5 1 v' (Lx.length + ys.length) (Lx.map (Value.int .u8) ++ ys.map (Value.int .u8))) (g : w.grownBy w' vx.ownBlock)
    (hv : v'.ownBlock = vx.ownBlock ∨ (v'.ownBlock = some w.heap.size ∧ w.grownBy w' none)) : ASit w0 w' ga gb v' vy Da Db (Lx ++ ys) Ly := by
  have h1 := Blk.lt h.da
  have h2 := Blk.lt h.db
  have c := chg_of_grown g
  have ne : ∀ j, j < w.heap.size → vx.ownBlock ≠ some j → v'.ownBlock ≠ some j := by
    intro j hj hn
    rcases hv with e | ⟨e, _⟩
    · rw [e]; exact hn
    · rw [e]
      intro e2
      have : w.heap.size = j := by simpa using e2
      omega
  refine ⟨Blk.chg h.da c (not_row h.xa), Blk.chg h.db c (not_row h.xb), by rw [List.length_append, List.map_append]; exact o, owns_chg h.oy c (fun k hk => not_row (fun e => h.xy k e hk)), h.ab, ne _ h1 h.xa, ne _ h2 h.xb, h.ya, h.yb, ?_, h.na, h.nb,
    h.chg.grown g (fun k hk => .inr (h.ox.lt k hk).1)⟩
  intro k hk hy
  have hky := (h.oy.lt k hy).2
  exact ne k hky (fun e => h.xy k e hy) hk

theorem ASit.add {w0 w w' : World} {ga gb : Nat} {vx vy : Value} {Da Db Lx Ly ys : List Int} (h : ASit w0 w ga gb vx vy Da Db Lx Ly) (d : Dig w' ga (more (sum (nats Da)) (nats ys)) (Da.length + ys.length)) (c : Chg [ga] w w') :
    ASit w0 w' ga gb vx vy (Da ++ ys) Db Lx Ly := by
  have hn := h.na
  have hab := h.ab
  refine ⟨?_, Blk.chg h.db c (by simp; omega), owns_chg h.ox c (fun k hk e => h.xa (by rw [hk]; congr 1; simpa using e)), owns_chg h.oy c (fun k hk e => h.ya (by rw [hk]; congr 1; simpa using e)), h.ab, h.xa, h.xb, h.ya, h.yb, h.xy, h.na, h.nb,
    h.chg.fresh c (fun i hi => .inr (by simp at hi; omega))⟩
  unfold sum at d ⊢
  rw [more_more, ← nats_append] at d
  rw [List.length_append]
  exact d

theorem flat_past {ds : List RowD} {k : Nat} (h : ds.length ≤ k) : flat (ds.take (k + 1)) = flat (ds.take k) := by
  rw [List.take_of_length_le h, List.take_of_length_le (by omega)]

set_option maxHeartbeats 2000000 in
set_option maxRecDepth 100000 in
theorem alone_walk (v u : Value) (ds es : List RowD) (w : World) (h : Rws w v ds) (hu : Rws w u es) :
    Calls Try.prog 8 #[v, u] w fun e w' => e = .returned (.bool true) ∧ Chg [] w w' := by
  obtain ⟨i0, hi, hz0, hz1, hz2⟩ := info_parts info_u8
  replace hi := Lib.hid hi
  replace hz0 := Lib.hid hz0
  replace hz1 := Lib.hid hz1
  replace hz2 := Lib.hid hz2
  obtain ⟨ao, c, rfl⟩ := h.slice
  obtain ⟨bo, c2, rfl⟩ := hu.slice
  have hlen := h.len
  have hlen2 := hu.len
  have HR := Lib.hid h
  have HU := Lib.hid hu
  clear h hu
  go_enter Try.func8, Try.ntmps8
  go_wp2_with fail
  go_loop [5, 6] (fun n i => ∃ k : Nat, k ≤ ds.length ∧ i = .int .i64 k ∧ n = .int .i64 ((ds.length + es.length + (flat (ds.take k)).length : Nat) : Int)) (fun _ i => ds.length - (intOf i).toNat)
  case atStart => exact ⟨0, Nat.zero_le _, rfl, by simp [flat]⟩
  case round =>
    obtain ⟨k, hk, rfl, rfl⟩ := hrel
    by_cases hle : ds.length + es.length + (flat (ds.take k)).length ≤ 100000
    · by_cases hlt : k < ds.length
      · obtain ⟨d, hd⟩ : ∃ d, ds[k]? = some d := ⟨_, List.getElem?_eq_getElem hlt⟩
        obtain ⟨b, o, rfl, hb, R⟩ := HR.out.at hd
        have c0 := R.c0
        have hbig := R.big
        obtain ⟨eo, ec, hv⟩ := R.sl.slice
        rw [hv] at c0
        have HF := Lib.hid (flat_next hd)
        have hk0 : (0 : Int) ≤ k := Int.natCast_nonneg _
        have hk1 : (k : Int) < ds.length := by omega
        have e1 : ((ds.length + es.length + (flat (ds.take k)).length : Nat) : Int) ≤ 100000 := by omega
        have HE : Hid (((ds.length + es.length + (flat (ds.take (k + 1))).length : Nat) : Int) = ((ds.length + es.length + (flat (ds.take k)).length : Nat) : Int) + (d.bs.length : Int)) := by
          show _ = _
          rw [HF.out, List.length_append]
          omega
        have e0 : (0 : Int) ≤ ((ds.length + es.length + (flat (ds.take k)).length : Nat) : Int) := Int.natCast_nonneg _
        generalize ((ds.length + es.length + (flat (ds.take k)).length : Nat) : Int) = N at *
        clear R hd hv
        go_wp2_with fail
        exact ⟨⟨k + 1, by omega, by go_num, by rw [HE.out]⟩, by simp [intOf]; omega⟩
      · have hke : k = ds.length := by omega
        subst hke
        rw [List.take_length] at hle ⊢
        have e1 : ((ds.length + es.length + (flat ds).length : Nat) : Int) ≤ 100000 := by omega
        have e0 : (0 : Int) ≤ ((ds.length + es.length + (flat ds).length : Nat) : Int) := Int.natCast_nonneg _
        clear hlt hk
        generalize hM : ds.length + es.length + (flat ds).length = M at *
        go_wp2_with fail
        go_loop [5, 7] (fun n i => ∃ j : Nat, j ≤ es.length ∧ i = .int .i64 j ∧ n = .int .i64 ((M + (flat (es.take j)).length : Nat) : Int)) (fun _ i => es.length - (intOf i).toNat)
        case atStart => exact ⟨0, Nat.zero_le _, rfl, by simp [flat]⟩
        case round =>
          obtain ⟨j, hj, rfl, rfl⟩ := hrel
          clear e1 e0
          by_cases hle2 : M + (flat (es.take j)).length ≤ 100000
          · by_cases hlt2 : j < es.length
            · obtain ⟨d, hd⟩ : ∃ d, es[j]? = some d := ⟨_, List.getElem?_eq_getElem hlt2⟩
              obtain ⟨b, o, rfl, hb, R⟩ := HU.out.at hd
              have c0 := R.c0
              have hbig := R.big
              obtain ⟨eo, ec, hv⟩ := R.sl.slice
              rw [hv] at c0
              have HF := Lib.hid (flat_next hd)
              have hk0 : (0 : Int) ≤ j := Int.natCast_nonneg _
              have hk1 : (j : Int) < es.length := by omega
              have e1 : ((M + (flat (es.take j)).length : Nat) : Int) ≤ 100000 := by omega
              have HE : Hid (((M + (flat (es.take (j + 1))).length : Nat) : Int) = ((M + (flat (es.take j)).length : Nat) : Int) + (d.bs.length : Int)) := by
                show _ = _
                rw [HF.out, List.length_append]
                omega
              have e0 : (0 : Int) ≤ ((M + (flat (es.take j)).length : Nat) : Int) := Int.natCast_nonneg _
              generalize ((M + (flat (es.take j)).length : Nat) : Int) = N at *
              clear R hd hv
              go_wp2_with fail
              exact ⟨⟨j + 1, by omega, by go_num, by rw [HE.out]⟩, by simp [intOf]; omega⟩
            · have hje : j = es.length := by omega
              subst hje
              rw [List.take_length] at hle2 ⊢
              have e1 : ((M + (flat es).length : Nat) : Int) ≤ 100000 := by omega
              have hfl : (flat ds).length ≤ 100000 := by omega
              have hfe : (flat es).length ≤ 100000 := by omega
              have hdl : ds.length ≤ 100000 := by omega
              have hel : es.length ≤ 100000 := by omega
              generalize ((M + (flat es).length : Nat) : Int) = N at *
              clear hM hlt2 hj hle hle2 hlen hlen2
              go_wp2_with fail
              refine (new_any w).mono ?_
              rintro e w1 ⟨ga, rfl, G1, D1, hga⟩
              go_wp2_with fail
              refine (new_any w1).mono ?_
              rintro e w2 ⟨gb, rfl, G2, D2, hgb⟩
              go_wp2_with fail
              refine (known_any w2).mono ?_
              rintro e w3 ⟨rfl, D3⟩
              have S0 : Hid (ASit w w3 ga gb (.slice none 0 0) (.slice none 0 0) [] [] [] []) := by
                have hl := Blk.lt G1.out
                exact ASit.quiet ⟨Blk.chg G1.out D2.out (by simp), G2.out, World.ownsRow_nil _ _ _ _, World.ownsRow_nil _ _ _ _, by omega, by simp [Value.ownBlock], by simp [Value.ownBlock], by simp [Value.ownBlock], by simp [Value.ownBlock], fun _ e => by simp [Value.ownBlock] at e, hga, by have := D1.out.size; omega, D1.out.trans D2.out⟩ D3.out
              clear G1 G2 D1 D2 D3 hga hgb e1
              go_wp2_with fail
              go_loopw [10, 11, 12] (fun x y i wr => ∃ k : Nat, (k ≤ ds.length ∨ k ≤ es.length) ∧ i = .int .i64 k ∧ Hid (ASit w wr ga gb x y (flat (ds.take k)) (flat (es.take k)) (flat (ds.take k)) (flat (es.take k)))) (fun _ _ i _ => ds.length + es.length - (intOf i).toNat)
              case atStart => exact ⟨0, .inl (Nat.zero_le _), rfl, S0⟩
              case round =>
                obtain ⟨k, hk, rfl, S⟩ := hrel
                clear S0
                have HBL := Lib.hid (flat_by HR.out.by_ k)
                have HBM := Lib.hid (flat_by HU.out.by_ k)
                have l1 := Lib.hid (sum_lt HBL.out)
                have m1 := Lib.hid (sum_lt HBM.out)
                have hk0 : (0 : Int) ≤ k := Int.natCast_nonneg _
                by_cases hA : k < ds.length
                · have hk1 : (k : Int) < ds.length := by omega
                  by_cases hB : k < es.length
                  · have hk2 : (k : Int) < es.length := by omega
                    obtain ⟨d, hd⟩ : ∃ d, ds[k]? = some d := ⟨_, List.getElem?_eq_getElem hA⟩
                    obtain ⟨b1, o1, rfl, hb1, R⟩ := HR.out.at hd
                    have HFA := Lib.hid (flat_next hd)
                    have hklA := flat_len_le ds (k + 1)
                    have hbyA := Lib.hid R.by_
                    have hbigA := R.big
                    have QRA : Hid (∀ w', Chg [] w w' → RowIn w' b1 (o1 + k) d) := fun w' c => R.chg hb1 c
                    clear hd
                    obtain ⟨dv, bsA⟩ := d
                    obtain ⟨eo1, ec1, hv⟩ : ∃ eo ec, dv = .slice eo bsA.length ec := R.sl.slice
                    subst hv
                    clear R
                    change bsA.length ≤ _ at hbigA
                    replace hbyA : Hid (By bsA) := hbyA
                    have hLA : (flat (ds.take k)).length + bsA.length ≤ 100000 := by
                      have := HFA.out
                      rw [this, List.length_append] at hklA
                      change _ + bsA.length ≤ _ at hklA
                      omega
                    replace HFA : Hid (flat (ds.take (k + 1)) = flat (ds.take k) ++ bsA) := HFA
                    obtain ⟨d, hd⟩ : ∃ d, es[k]? = some d := ⟨_, List.getElem?_eq_getElem hB⟩
                    obtain ⟨b2, o2, rfl, hb2, R⟩ := HU.out.at hd
                    have HFB := Lib.hid (flat_next hd)
                    have hklB := flat_len_le es (k + 1)
                    have hbyB := Lib.hid R.by_
                    have hbigB := R.big
                    have QRB : Hid (∀ w', Chg [] w w' → RowIn w' b2 (o2 + k) d) := fun w' c => R.chg hb2 c
                    clear hd
                    obtain ⟨dv, bsB⟩ := d
                    obtain ⟨eo2, ec2, hv⟩ : ∃ eo ec, dv = .slice eo bsB.length ec := R.sl.slice
                    subst hv
                    clear R
                    change bsB.length ≤ _ at hbigB
                    replace hbyB : Hid (By bsB) := hbyB
                    have hLB : (flat (es.take k)).length + bsB.length ≤ 100000 := by
                      have := HFB.out
                      rw [this, List.length_append] at hklB
                      change _ + bsB.length ≤ _ at hklB
                      omega
                    replace HFB : Hid (flat (es.take (k + 1)) = flat (es.take k) ++ bsB) := HFB
                    have c0 : wr.cell? ⟨b1, o1 + k, none⟩ = some (.slice eo1 bsA.length ec1) := (QRA.out wr S.out.chg).c0
                    go_wp2_with fail
                    refine (digAdd_any ga (sum (nats (flat (ds.take k)))) (flat (ds.take k)).length _ bsA wr (ASit.da S.out) l1.out (QRA.out wr S.out.chg).sl hbyA.out hbigA (by omega)).mono ?_
                    rintro e w4 ⟨rfl, G3, D3⟩
                    have S1 := Lib.hid (ASit.add S.out G3.out D3.out)
                    clear G3 D3
                    have c0 : w4.cell? ⟨b1, o1 + k, none⟩ = some (.slice eo1 bsA.length ec1) := (QRA.out w4 S1.out.chg).c0
                    go_wp2_with (first
                      | (at_builtin; refine wpList_append_sl _ rfl (.tmp 90) (.tmp 94) 23 rfl w.heap.size 5 i0 (.int .u8 0) 1 Try.underlying23 hi.out hz0.out hz1.out hz2.out rfl u10 (flat (ds.take k)).length ((flat (ds.take k)).map (Value.int .u8)) rfl (ASit.ox S1.out) eo1 bsA.length ec1 bsA rfl (QRA.out w4 S1.out.chg).sl (by unfold maxLen; omega) (by omega) S1.out.chg.size ?_; intro v2 w5 ol gr nb; have S2 := Lib.hid (ASit.grow S1.out ol.out gr.out nb.out); clear ol gr nb; clear S1 c0; have c0 : w5.cell? ⟨b2, o2 + k, none⟩ = some (.slice eo2 bsB.length ec2) := (QRB.out w5 S2.out.chg).c0))
                    refine (digAdd_any gb (sum (nats (flat (es.take k)))) (flat (es.take k)).length _ bsB w5 (ASit.db S2.out) m1.out (QRB.out w5 S2.out.chg).sl hbyB.out hbigB (by omega)).mono ?_
                    rintro e w6 ⟨rfl, G3, D3⟩
                    have S3 := Lib.hid ((ASit.add S2.out.swap G3.out D3.out).swap)
                    clear G3 D3
                    have c0 : w6.cell? ⟨b2, o2 + k, none⟩ = some (.slice eo2 bsB.length ec2) := (QRB.out w6 S3.out.chg).c0
                    go_wp2_with (first
                      | (at_builtin; refine wpList_append_sl _ rfl (.tmp 106) (.tmp 110) 23 rfl w.heap.size 5 i0 (.int .u8 0) 1 Try.underlying23 hi.out hz0.out hz1.out hz2.out rfl u11 (flat (es.take k)).length ((flat (es.take k)).map (Value.int .u8)) rfl (ASit.oy S3.out) eo2 bsB.length ec2 bsB rfl (QRB.out w6 S3.out.chg).sl (by unfold maxLen; omega) (by omega) S3.out.chg.size ?_; intro v3 w7 ol gr nb; have S4 := Lib.hid ((ASit.grow S3.out.swap ol.out gr.out nb.out).swap); clear ol gr nb; clear S3))
                    rw [← HFA.out, ← HFB.out] at S4
                    have hNL := Lib.hid (flat_by HR.out.by_ (k + 1))
                    have hNM := Lib.hid (flat_by HU.out.by_ (k + 1))
                    have hNA : (flat (ds.take (k + 1))).length ≤ 100000 := Nat.le_trans (flat_len_le ds (k + 1)) hfl
                    have hNB : (flat (es.take (k + 1))).length ≤ 100000 := Nat.le_trans (flat_len_le es (k + 1)) hfe
                    refine (digSum_any ga _ _ w7 S4.out.da).mono ?_
                    rintro e w' ⟨rfl, rfl⟩
                    go_wp2_with fail
                    refine (digSum_any gb _ _ w7 S4.out.db).mono ?_
                    rintro e w' ⟨rfl, rfl⟩
                    obtain ⟨ao2, c3, rfl⟩ := owns_slice S4.out.ox
                    obtain ⟨ao3, c4, rfl⟩ := owns_slice S4.out.oy
                    go_wp2_with fail
                    refine (sum_any _ _ w7 (Sl.owned S4.out.ox) hNL.out (by omega)).mono ?_
                    rintro e wy ⟨rfl, D9⟩
                    have sy := Lib.hid (S4.out.quiet D9.out)
                    clear D9 S4
                    go_wp2_with fail
                    refine (sum_any _ _ wy (Sl.owned sy.out.oy) hNM.out (by omega)).mono ?_
                    rintro e wx ⟨rfl, D9⟩
                    have sx := Lib.hid (sy.out.quiet D9.out)
                    clear D9 sy
                    go_wp2_with fail
                    exact ⟨⟨k + 1, .inl (by omega), by go_num, sx⟩, by simp [intOf]; omega⟩
                  · have hk2 : ¬ (k : Int) < es.length := by omega
                    have HFB : Hid (flat (es.take (k + 1)) = flat (es.take k)) := flat_past (by omega)
                    obtain ⟨d, hd⟩ : ∃ d, ds[k]? = some d := ⟨_, List.getElem?_eq_getElem hA⟩
                    obtain ⟨b1, o1, rfl, hb1, R⟩ := HR.out.at hd
                    have HFA := Lib.hid (flat_next hd)
                    have hklA := flat_len_le ds (k + 1)
                    have hbyA := Lib.hid R.by_
                    have hbigA := R.big
                    have QRA : Hid (∀ w', Chg [] w w' → RowIn w' b1 (o1 + k) d) := fun w' c => R.chg hb1 c
                    clear hd
                    obtain ⟨dv, bsA⟩ := d
                    obtain ⟨eo1, ec1, hv⟩ : ∃ eo ec, dv = .slice eo bsA.length ec := R.sl.slice
                    subst hv
                    clear R
                    change bsA.length ≤ _ at hbigA
                    replace hbyA : Hid (By bsA) := hbyA
                    have hLA : (flat (ds.take k)).length + bsA.length ≤ 100000 := by
                      have := HFA.out
                      rw [this, List.length_append] at hklA
                      change _ + bsA.length ≤ _ at hklA
                      omega
                    replace HFA : Hid (flat (ds.take (k + 1)) = flat (ds.take k) ++ bsA) := HFA
                    have c0 : wr.cell? ⟨b1, o1 + k, none⟩ = some (.slice eo1 bsA.length ec1) := (QRA.out wr S.out.chg).c0
                    go_wp2_with fail
                    refine (digAdd_any ga (sum (nats (flat (ds.take k)))) (flat (ds.take k)).length _ bsA wr (ASit.da S.out) l1.out (QRA.out wr S.out.chg).sl hbyA.out hbigA (by omega)).mono ?_
                    rintro e w4 ⟨rfl, G3, D3⟩
                    have S1 := Lib.hid (ASit.add S.out G3.out D3.out)
                    clear G3 D3
                    have c0 : w4.cell? ⟨b1, o1 + k, none⟩ = some (.slice eo1 bsA.length ec1) := (QRA.out w4 S1.out.chg).c0
                    go_wp2_with (first
                      | (at_builtin; refine wpList_append_sl _ rfl (.tmp 90) (.tmp 94) 23 rfl w.heap.size 5 i0 (.int .u8 0) 1 Try.underlying23 hi.out hz0.out hz1.out hz2.out rfl u10 (flat (ds.take k)).length ((flat (ds.take k)).map (Value.int .u8)) rfl (ASit.ox S1.out) eo1 bsA.length ec1 bsA rfl (QRA.out w4 S1.out.chg).sl (by unfold maxLen; omega) (by omega) S1.out.chg.size ?_; intro v2 w5 ol gr nb; have S2 := Lib.hid (ASit.grow S1.out ol.out gr.out nb.out); clear ol gr nb; clear S1))
                    rw [← HFA.out, ← HFB.out] at S2
                    have hNL := Lib.hid (flat_by HR.out.by_ (k + 1))
                    have hNM := Lib.hid (flat_by HU.out.by_ (k + 1))
                    have hNA : (flat (ds.take (k + 1))).length ≤ 100000 := Nat.le_trans (flat_len_le ds (k + 1)) hfl
                    have hNB : (flat (es.take (k + 1))).length ≤ 100000 := Nat.le_trans (flat_len_le es (k + 1)) hfe
                    refine (digSum_any ga _ _ w5 S2.out.da).mono ?_
                    rintro e w' ⟨rfl, rfl⟩
                    go_wp2_with fail
                    refine (digSum_any gb _ _ w5 S2.out.db).mono ?_
                    rintro e w' ⟨rfl, rfl⟩
                    obtain ⟨ao2, c3, rfl⟩ := owns_slice S2.out.ox
                    obtain ⟨ao3, c4, rfl⟩ := owns_slice S2.out.oy
                    go_wp2_with fail
                    refine (sum_any _ _ w5 (Sl.owned S2.out.ox) hNL.out (by omega)).mono ?_
                    rintro e wy ⟨rfl, D9⟩
                    have sy := Lib.hid (S2.out.quiet D9.out)
                    clear D9 S2
                    go_wp2_with fail
                    refine (sum_any _ _ wy (Sl.owned sy.out.oy) hNM.out (by omega)).mono ?_
                    rintro e wx ⟨rfl, D9⟩
                    have sx := Lib.hid (sy.out.quiet D9.out)
                    clear D9 sy
                    go_wp2_with fail
                    exact ⟨⟨k + 1, .inl (by omega), by go_num, sx⟩, by simp [intOf]; omega⟩
                · have hk1 : ¬ (k : Int) < ds.length := by omega
                  by_cases hB : k < es.length
                  · have hk2 : (k : Int) < es.length := by omega
                    have HFA : Hid (flat (ds.take (k + 1)) = flat (ds.take k)) := flat_past (by omega)
                    obtain ⟨d, hd⟩ : ∃ d, es[k]? = some d := ⟨_, List.getElem?_eq_getElem hB⟩
                    obtain ⟨b2, o2, rfl, hb2, R⟩ := HU.out.at hd
                    have HFB := Lib.hid (flat_next hd)
                    have hklB := flat_len_le es (k + 1)
                    have hbyB := Lib.hid R.by_
                    have hbigB := R.big
                    have QRB : Hid (∀ w', Chg [] w w' → RowIn w' b2 (o2 + k) d) := fun w' c => R.chg hb2 c
                    clear hd
                    obtain ⟨dv, bsB⟩ := d
                    obtain ⟨eo2, ec2, hv⟩ : ∃ eo ec, dv = .slice eo bsB.length ec := R.sl.slice
                    subst hv
                    clear R
                    change bsB.length ≤ _ at hbigB
                    replace hbyB : Hid (By bsB) := hbyB
                    have hLB : (flat (es.take k)).length + bsB.length ≤ 100000 := by
                      have := HFB.out
                      rw [this, List.length_append] at hklB
                      change _ + bsB.length ≤ _ at hklB
                      omega
                    replace HFB : Hid (flat (es.take (k + 1)) = flat (es.take k) ++ bsB) := HFB
                    have c0 : wr.cell? ⟨b2, o2 + k, none⟩ = some (.slice eo2 bsB.length ec2) := (QRB.out wr S.out.chg).c0
                    go_wp2_with fail
                    refine (digAdd_any gb (sum (nats (flat (es.take k)))) (flat (es.take k)).length _ bsB wr (ASit.db S.out) m1.out (QRB.out wr S.out.chg).sl hbyB.out hbigB (by omega)).mono ?_
                    rintro e w4 ⟨rfl, G3, D3⟩
                    have S1 := Lib.hid ((ASit.add S.out.swap G3.out D3.out).swap)
                    clear G3 D3
                    have c0 : w4.cell? ⟨b2, o2 + k, none⟩ = some (.slice eo2 bsB.length ec2) := (QRB.out w4 S1.out.chg).c0
                    go_wp2_with (first
                      | (at_builtin; refine wpList_append_sl _ rfl (.tmp 106) (.tmp 110) 23 rfl w.heap.size 5 i0 (.int .u8 0) 1 Try.underlying23 hi.out hz0.out hz1.out hz2.out rfl u11 (flat (es.take k)).length ((flat (es.take k)).map (Value.int .u8)) rfl (ASit.oy S1.out) eo2 bsB.length ec2 bsB rfl (QRB.out w4 S1.out.chg).sl (by unfold maxLen; omega) (by omega) S1.out.chg.size ?_; intro v2 w5 ol gr nb; have S2 := Lib.hid ((ASit.grow S1.out.swap ol.out gr.out nb.out).swap); clear ol gr nb; clear S1))
                    rw [← HFA.out, ← HFB.out] at S2
                    have hNL := Lib.hid (flat_by HR.out.by_ (k + 1))
                    have hNM := Lib.hid (flat_by HU.out.by_ (k + 1))
                    have hNA : (flat (ds.take (k + 1))).length ≤ 100000 := Nat.le_trans (flat_len_le ds (k + 1)) hfl
                    have hNB : (flat (es.take (k + 1))).length ≤ 100000 := Nat.le_trans (flat_len_le es (k + 1)) hfe
                    refine (digSum_any ga _ _ w5 S2.out.da).mono ?_
                    rintro e w' ⟨rfl, rfl⟩
                    go_wp2_with fail
                    refine (digSum_any gb _ _ w5 S2.out.db).mono ?_
                    rintro e w' ⟨rfl, rfl⟩
                    obtain ⟨ao2, c3, rfl⟩ := owns_slice S2.out.ox
                    obtain ⟨ao3, c4, rfl⟩ := owns_slice S2.out.oy
                    go_wp2_with fail
                    refine (sum_any _ _ w5 (Sl.owned S2.out.ox) hNL.out (by omega)).mono ?_
                    rintro e wy ⟨rfl, D9⟩
                    have sy := Lib.hid (S2.out.quiet D9.out)
                    clear D9 S2
                    go_wp2_with fail
                    refine (sum_any _ _ wy (Sl.owned sy.out.oy) hNM.out (by omega)).mono ?_
                    rintro e wx ⟨rfl, D9⟩
                    have sx := Lib.hid (sy.out.quiet D9.out)
                    clear D9 sy
                    go_wp2_with fail
                    exact ⟨⟨k + 1, .inr (by omega), by go_num, sx⟩, by simp [intOf]; omega⟩
                  · have hk2 : ¬ (k : Int) < es.length := by omega
                    go_wp2_with fail
                    go_ret
                    exact ⟨rfl, S.out.chg⟩
          · have e1 : ¬ ((M + (flat (es.take j)).length : Nat) : Int) ≤ 100000 := by omega
            generalize ((M + (flat (es.take j)).length : Nat) : Int) = N at *
            by_cases hlt2 : j < es.length
            · have hk1 : (j : Int) < es.length := by omega
              go_wp2_with fail
              go_ret
              exact ⟨rfl, Chg.refl _ _⟩
            · obtain rfl : j = es.length := by omega
              go_wp2_with fail
              go_ret
              exact ⟨rfl, Chg.refl _ _⟩
    · have e1 : ¬ ((ds.length + es.length + (flat (ds.take k)).length : Nat) : Int) ≤ 100000 := by omega
      generalize ((ds.length + es.length + (flat (ds.take k)).length : Nat) : Int) = N at *
      by_cases hlt : k < ds.length
      · have hk1 : (k : Int) < ds.length := by omega
        go_wp2_with fail
        go_loop [5, 7] (fun n i => n = .int .i64 N ∧ i = .int .i64 0) (fun _ _ => 0)
        case atStart => exact ⟨rfl, rfl⟩
        case round =>
          obtain ⟨rfl, rfl⟩ := hrel
          by_cases h0 : 0 < es.length
          · have h1 : (0 : Int) < es.length := by omega
            go_wp2_with fail
            go_ret
            exact ⟨rfl, Chg.refl _ _⟩
          · have h1 : ¬ (0 : Int) < es.length := by omega
            go_wp2_with fail
            go_ret
            exact ⟨rfl, Chg.refl _ _⟩
      · obtain rfl : k = ds.length := by omega
        go_wp2_with fail
        go_loop [5, 7] (fun n i => n = .int .i64 N ∧ i = .int .i64 0) (fun _ _ => 0)
        case atStart => exact ⟨rfl, rfl⟩
        case round =>
          obtain ⟨rfl, rfl⟩ := hrel
          by_cases h0 : 0 < es.length
          · have h1 : (0 : Int) < es.length := by omega
            go_wp2_with fail
            go_ret
            exact ⟨rfl, Chg.refl _ _⟩
          · have h1 : ¬ (0 : Int) < es.length := by omega
            go_wp2_with fail
            go_ret
            exact ⟨rfl, Chg.refl _ _⟩

end Go.Proofs.Ytaneaidipbhbkaa
