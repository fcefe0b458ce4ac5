/-
  LeBack: the walk. By an AI agent.
-/
import Derived.Test.YtbinoailpceonaaLeBackAny
import Derived.Test.YtbinoailpceonaaKnown
import Derived.Deep.CutBlock
import Derived.Deep.DeepCutAuto
namespace Go.Proofs.Ytbinoailpceonaa
open Go.RowKit

/-- All the bytes of a script. -/
def cat (ds : List OpD) : List Int := (ds.map OpD.bytes).flatten

theorem cat_snoc (ds : List OpD) (d : OpD) : cat (ds ++ [d]) = cat ds ++ d.bytes := by simp [cat]

/-- A record of n bytes that begins with xs. -/
def recd (n : Nat) (xs : List Int) : PS := ⟨xs ++ List.replicate (n - xs.length) 0, xs.length, 0⟩

theorem recd_len {n : Nat} {xs : List Int} (h : xs.length ≤ n) : (recd n xs).bs.length = n := by simp [recd]; omega

theorem recd_put {n : Nat} {xs ys : List Int} (h : xs.length + ys.length ≤ n) : (recd n xs).put ys = recd n (xs ++ ys) := by
  have hl := recd_len (n := n) (xs := xs) (by omega)
  unfold PS.put
  rw [if_pos (show (recd n xs).bad = 0 from rfl), if_pos (show (recd n xs).pos + ys.length ≤ (recd n xs).bs.length by rw [hl]; exact h)]
  simp only [recd, lay, List.length_append, PS.mk.injEq, and_true]
  rw [List.take_left, List.drop_append, List.drop_eq_nil_of_le (by omega), List.nil_append, List.drop_replicate]
  congr 2
  omega

theorem cat_split {ds : List OpD} {i k : Nat} {d : OpD} (hd : ds[i]? = some d) (hi : i < k) : ∃ rest, cat (ds.take k) = cat (ds.take i) ++ (d.bytes ++ rest) := by
  refine ⟨cat ((ds.take k).drop (i + 1)), ?_⟩
  have h1 : (ds.take k)[i]? = some d := by rw [List.getElem?_take, if_pos hi]; exact hd
  have h2 : ds.take k = (ds.take k).take (i + 1) ++ (ds.take k).drop (i + 1) := (List.take_append_drop _ _).symm
  rw [take_snoc h1, List.take_take, Nat.min_eq_left (by omega)] at h2
  have h3 := congrArg cat h2
  rw [h3]
  simp [cat]

theorem has_at {n i k : Nat} {ds : List OpD} {d : OpD} (hd : ds[i]? = some d) (hi : i < k) (hn : (cat (ds.take k)).length ≤ n) :
    (RS.mk (recd n (cat (ds.take k))).bs (cat (ds.take i)).length 0 0).has d.bytes := by
  obtain ⟨rest, hr⟩ := cat_split hd hi
  have hl := recd_len hn
  refine ⟨rfl, ?_, ?_⟩
  · simp only [hl]
    rw [hr] at hn
    simp at hn
    omega
  · simp only [recd, hr]
    rw [List.append_assoc, List.drop_left, List.append_assoc, List.take_left]

theorem next_at {n i k : Nat} {ds : List OpD} {d : OpD} (hd : ds[i]? = some d) (hi : i < k) (hn : (cat (ds.take k)).length ≤ n) :
    (RS.mk (recd n (cat (ds.take k))).bs (cat (ds.take i)).length 0 0).next d.bytes.length = RS.mk (recd n (cat (ds.take k))).bs (cat (ds.take (i + 1))).length 0 0 := by
  have h := has_at hd hi hn
  unfold RS.next
  rw [if_pos h.bad, if_pos h.fit, take_snoc hd, cat_snoc, List.length_append]

theorem end_at {n : Nat} {xs : List Int} (hn : xs.length ≤ n) : ((RS.mk (recd n xs).bs xs.length 0 0).skip (n - xs.length)).end_ = (0, 0) := by
  have hl := recd_len hn
  have hg : (RS.mk (recd n xs).bs xs.length 0 0).got (n - xs.length) = List.replicate (n - xs.length) 0 := by
    unfold RS.got
    rw [if_pos (show (RS.mk (recd n xs).bs xs.length 0 0).bad = 0 from rfl), if_pos (show (RS.mk (recd n xs).bs xs.length 0 0).pos + (n - xs.length) ≤ (recd n xs).bs.length by rw [hl]; show xs.length + _ ≤ n; omega)]
    simp only [recd, List.drop_left]
    rw [List.take_of_length_le (by simp)]
  have hz := firstNZ_none (List.replicate (n - xs.length) 0) (fun j hj => by rw [List.length_replicate] at hj; simp [List.getD, hj])
  unfold RS.skip
  rw [hg, hz]
  unfold RS.next RS.end_
  rw [if_pos (show (RS.mk (recd n xs).bs xs.length 0 0).bad = 0 from rfl), if_pos (show (RS.mk (recd n xs).bs xs.length 0 0).pos + (n - xs.length) ≤ (recd n xs).bs.length by rw [hl]; show xs.length + _ ≤ n; omega)]
  rw [if_pos rfl, if_neg (by simp only [hl]; omega)]

set_option maxHeartbeats 4000000 in
set_option maxRecDepth 100000 in
theorem back_ok (n : Nat) (hn : n ≤ 4096) (sv : Value) (ds : List OpD) (w : World) (ho : Ops w sv ds) :
    Calls Try.prog 5 #[.int .i64 n, sv] w fun e w' => e = .returned (.bool true) ∧ Chg [] w w' := by
  have hmuch := much_any sv ds w ho
  obtain ⟨ao, c, rfl⟩ := ho.slice
  have hl := ho.len
  have HO := Lib.hid ho
  clear ho
  go_enter Try.func5, Try.ntmps5
  go_wp2_with fail
  refine hmuch.mono ?_
  rintro e w' ⟨m, rfl, rfl, hm⟩
  clear hmuch
  cases m
  · clear hm
    go_wp2_with fail
    refine (new_ok n w hn).mono ?_
    rintro e w1 ⟨b1, g1, rfl, hp1, hc1, hb1, hg1, ub1, ug1⟩
    have P := Lib.hid hp1
    have C := Lib.hid hc1
    have z1 := hc1.size
    clear hp1 hc1
    go_wp2_with fail
    refine (known_any w1).mono ?_
    rintro e w2 ⟨rfl, hc⟩
    have z2 := hc.size
    replace C := Lib.hid (C.out.trans hc)
    replace P := Lib.hid (P.out.chg hc (by simp) (by simp))
    clear hc
    have P0 : Hid (Pk w2 b1 g1 (recd n (cat (ds.take 0)))) := by
      have : recd n (cat (ds.take 0)) = ⟨List.replicate n 0, 0, 0⟩ := by simp [recd, cat]
      rw [this]
      exact P
    clear P
    go_upto_block 0 with fail
    go_cut [7] (fun n7 wx => ∃ k : Nat, k ≤ ds.length ∧ n7 = .int .i64 k ∧ Hid (Pk wx b1 g1 (recd n (cat (ds.take k)))) ∧ (cat (ds.take k)).length ≤ n ∧ Hid (Chg [] w wx))
    case first =>
      go_wp2_with fail
      go_loopw [7] (fun n7 wx => ∃ k : Nat, k ≤ ds.length ∧ n7 = .int .i64 k ∧ Hid (Pk wx b1 g1 (recd n (cat (ds.take k)))) ∧ (cat (ds.take k)).length ≤ n ∧ Hid (Chg [] w wx)) (fun i _ => ds.length - (intOf i).toNat)
      case atStart => exact ⟨0, Nat.zero_le _, rfl, P0, by simp [cat], C⟩
      case round =>
        obtain ⟨k, hk, rfl, Q, hcl, D⟩ := hrel
        clear P0 C
        by_cases hlt : k < ds.length
        · obtain ⟨d, hd⟩ : ∃ d, ds[k]? = some d := ⟨_, List.getElem?_eq_getElem hlt⟩
          obtain ⟨bb, oo, rfl, hbb1, hin⟩ := HO.out.at hd
          have HIN := Lib.hid hin
          have HDD := Lib.hid hd
          clear hin hd
          have i1 := (HIN.out.chg hbb1 D.out).c0
          have i2 := (HIN.out.chg hbb1 D.out).c1
          have i3 := (HIN.out.chg hbb1 D.out).c2
          have i4 := (HIN.out.chg hbb1 D.out).c3
          have hk0 : (0 : Int) ≤ k := Int.natCast_nonneg _
          have hk1 : (k : Int) < ds.length := by omega
          obtain ⟨bo, bc, hbv⟩ := HIN.out.sl.slice
          rw [hbv] at i4
          have HBV := Lib.hid hbv
          have hk3 := HIN.out.k0
          have hn3 := HIN.out.n0
          have hbig := HIN.out.big
          clear hbv
          have hx := Blk.made wr [.int .i64 d.k, .int .u64 d.v, .int .i64 d.n, .slice bo d.bs.length bc] 51
          have x0 := hx.cell (j := 0) rfl
          have x2 := hx.cell (j := 2) rfl
          have x3 := hx.cell (j := 3) rfl
          have HX := Lib.hid hx
          clear hx
          go_upto_block 2 with fail
          go_cut [9] (fun s9 wx => s9 = .int .i64 (d.bytes.length : Nat) ∧ Chg [] (wr.alloc (.cells #[.int .i64 d.k, .int .u64 d.v, .int .i64 d.n, .slice bo d.bs.length bc] 51)) wx)
          case first =>
            clear i1 i2 i3 i4
            have xt := (HX.out.alloc (.cells #[.int .i64 1, .int .i64 2, .int .i64 4, .int .i64 8] 3)).cell (j := 0) rfl
            by_cases k1 : d.k = 1
            · have hb : d.bytes.length = 1 := by unfold OpD.bytes; rw [if_pos k1, leBytes_length]
              have HB := Lib.hid hb
              clear hb
              go_wp2_with fail
              go_meet
              exact ⟨by rw [HB.out]; rfl, by rw [k1]; exact (Chg.refl _ _).alloc _⟩
            have kb1 : (d.k == 1) = false := by simpa using k1
            by_cases k2 : d.k = 2
            · have hb : d.bytes.length = 2 := by unfold OpD.bytes; rw [if_neg k1, if_pos k2, leBytes_length]
              have HB := Lib.hid hb
              clear hb
              go_wp2_with fail
              go_meet
              exact ⟨by rw [HB.out]; rfl, by rw [k2]; exact (Chg.refl _ _).alloc _⟩
            have kb2 : (d.k == 2) = false := by simpa using k2
            by_cases k3 : d.k = 3
            · have hb : d.bytes.length = 4 := by unfold OpD.bytes; rw [if_neg k1, if_neg k2, if_pos k3, leBytes_length]
              have HB := Lib.hid hb
              clear hb
              go_wp2_with fail
              go_meet
              exact ⟨by rw [HB.out]; rfl, by rw [k3]; exact (Chg.refl _ _).alloc _⟩
            have kb3 : (d.k == 3) = false := by simpa using k3
            by_cases k4 : d.k = 4
            · have hb : d.bytes.length = 8 := by unfold OpD.bytes; rw [if_neg k1, if_neg k2, if_neg k3, if_pos k4, leBytes_length]
              have HB := Lib.hid hb
              clear hb
              go_wp2_with fail
              go_meet
              exact ⟨by rw [HB.out]; rfl, by rw [k4]; exact (Chg.refl _ _).alloc _⟩
            have kb4 : (d.k == 4) = false := by simpa using k4
            by_cases k5 : d.k = 5
            · have hb : d.bytes.length = d.bs.length := by unfold OpD.bytes; rw [if_neg k1, if_neg k2, if_neg k3, if_neg k4, if_pos k5]
              have HB := Lib.hid hb
              clear hb k1 k2 k3 k4
              go_wp2_with fail
              go_meet
              exact ⟨by rw [HB.out], by rw [k5]; exact Chg.refl _ _⟩
            have kb5 : (d.k == 5) = false := by simpa using k5
            by_cases k6 : d.k = 6
            · have hb : d.bytes.length = d.n.toNat := by unfold OpD.bytes; rw [if_neg k1, if_neg k2, if_neg k3, if_neg k4, if_neg k5, if_pos k6, List.length_replicate]
              have HB := Lib.hid hb
              clear hb k1 k2 k3 k4 k5
              go_wp2_with fail
              go_meet
              exact ⟨by rw [HB.out]; exact congrArg (Value.int .i64) (by omega), by rw [k6]; exact Chg.refl _ _⟩
            have kb6 : (d.k == 6) = false := by simpa using k6
            have hb : d.bytes.length = 0 := by unfold OpD.bytes; rw [if_neg k1, if_neg k2, if_neg k3, if_neg k4, if_neg k5, if_neg k6]; rfl
            have HB := Lib.hid hb
            clear hb k1 k2 k3 k4 k5 k6
            go_wp2_with fail
            go_meet
            exact ⟨by rw [HB.out]; rfl, Chg.refl _ _⟩
          case rest =>
            obtain ⟨rfl, hc⟩ := hcut
            have E := Lib.hid hc
            clear hc i1 i2 i3 i4 x0 x2 x3
            obtain ⟨ws, hws⟩ : ∃ ws : World, ws = wc := ⟨_, rfl⟩
            subst hws
            have F : Hid (Chg [] wr ws) := ((Chg.refl _ _).alloc _).trans E.out
            replace Q := Lib.hid (Q.out.chg F.out (by simp) (by simp))
            replace D := Lib.hid (D.out.trans F.out)
            replace HX := Lib.hid (HX.out.chg E.out (by simp))
            have x0 := HX.out.cell (j := 0) rfl
            have x1 := HX.out.cell (j := 1) rfl
            have x2 := HX.out.cell (j := 2) rfl
            have x3 := HX.out.cell (j := 3) rfl
            have hleft := leftP_any b1 g1 _ ws Q.out
            rw [recd_len hcl, show (recd n (cat (ds.take k))).pos = (cat (ds.take k)).length from rfl] at hleft
            have hpp := fun q => puts_any b1 g1 _ d d.bv (ws.drewN q) (Q.out.drewN q) HIN.out.ok ((HIN.out.sl.chg D.out (by simp)).chg (s := []) ((Chg.refl _ _).drewN q) (by simp)) (fun k h0 hk => by have := HIN.out.sl.lt h0 k hk; omega)
            unfold OpD.val at hpp
            rw [HBV.out] at hpp
            have PP := Lib.hid hpp
            clear hpp
            by_cases hfit : (cat (ds.take k)).length + d.bytes.length ≤ n
            · have hput := Lib.hid (recd_put hfit)
              have hcat := Lib.hid (show cat (ds.take (k + 1)) = cat (ds.take k) ++ d.bytes by rw [take_snoc HDD.out, cat_snoc])
              generalize hcl2 : (cat (ds.take k)).length = cl at *
              have HCL := Lib.hid hcl2
              clear hcl2
              go_wp2_with (first
                | (go_at_call 29; refine hleft.mono ?_; rintro e w' ⟨rfl, q, rfl⟩)
                | (go_at_call 15; refine (PP.out q).mono ?_; rintro e w' ⟨rfl, hp, hc⟩; have Q2 := Lib.hid hp; have E2 := Lib.hid hc; clear hp hc))
              refine ⟨⟨k + 1, by omega, by go_num, ?_, ?_, ?_⟩, by simp [intOf]; omega⟩
              · rw [hcat.out, ← hput.out]
                exact Q2
              · rw [hcat.out, List.length_append, HCL.out]
                exact hfit
              · exact ((D.out.drewN q).fresh E2.out (by simp; omega))
            · generalize hcl2 : (cat (ds.take k)).length = cl at *
              have HCL := Lib.hid hcl2
              clear hcl2
              go_wp2_with (go_at_call 29; refine hleft.mono ?_; rintro e w' ⟨rfl, q, rfl⟩)
              go_meet
              exact ⟨k, by omega, rfl, Q.out.drewN q, by rw [HCL.out]; exact hcl, D.out.drewN q⟩
        · obtain rfl : k = ds.length := by omega
          go_wp2_with fail
          go_meet
          exact ⟨ds.length, Nat.le_refl _, rfl, Q, hcl, D⟩
    case rest =>
      obtain ⟨k, hk, rfl, Q, hcl, D⟩ := hcut
      clear P0 C
      have R0 := Lib.hid (recd_len hcl)
      have hbad : (recd n (cat (ds.take k))).bad = 0 := rfl
      have HBAD := Lib.hid hbad
      clear hbad
      go_wp2_with fail
      refine (bytes_any b1 g1 _ wc Q.out).mono ?_
      rintro e wa (⟨h, _⟩ | ⟨-, va, rfl, hv, hc⟩)
      · exact absurd HBAD.out h
      have VA := Lib.hid (Sl.owned hv)
      replace Q := Lib.hid (Q.out.chg hc (by simp) (by simp))
      replace D := Lib.hid (D.out.trans hc)
      have hsl := VA.out.slice
      rw [R0.out] at hsl
      obtain ⟨aa, ac, rfl⟩ := hsl
      have hbyt := Lib.hid Q.out.byt
      clear hv hc
      go_wp2_with fail
      refine (read_any _ _ wa VA.out (by rw [R0.out]; omega) hbyt.out).mono ?_
      rintro e wb ⟨br, vr, rfl, hr, hc, l1, l2⟩
      have HR := Lib.hid hr
      have u1 := hr.pb.lt
      have LR := Lib.hid l2
      have za := D.out.size
      have qb := Q.out.pb.lt
      have qg := Q.out.pg.lt
      replace Q := Lib.hid (Q.out.chg hc (by simp) (by simp))
      replace D := Lib.hid (D.out.trans hc)
      clear hr l2 hc VA hbyt
      go_wp2_with fail
      go_loopw [13] (fun i wr => ∃ j : Nat, j ≤ k ∧ i = .int .i64 j ∧ Hid (Rd wr br vr (RS.mk (recd n (cat (ds.take k))).bs (cat (ds.take j)).length 0 0)) ∧ Hid (Chg [br] wb wr)) (fun i _ => k - (intOf i).toNat)
      case atStart => exact ⟨0, Nat.zero_le _, rfl, (by simpa [cat] using HR), Chg.refl _ _⟩
      case round =>
        obtain ⟨j, hj, rfl, T, E⟩ := hrel
        clear HR
        by_cases hlt : j < k
        · obtain ⟨d, hd⟩ : ∃ d, ds[j]? = some d := ⟨_, List.getElem?_eq_getElem (by omega)⟩
          obtain ⟨bb, oo, rfl, hbb1, hin⟩ := HO.out.at hd
          have HIN := Lib.hid hin
          have HDD := Lib.hid hd
          clear hin hd
          have D2 := Lib.hid (D.out.fresh E.out (by simp; omega))
          have i1 := (HIN.out.chg hbb1 D2.out).c0
          have i2 := (HIN.out.chg hbb1 D2.out).c1
          have i3 := (HIN.out.chg hbb1 D2.out).c2
          have i4 := (HIN.out.chg hbb1 D2.out).c3
          have hk0 : (0 : Int) ≤ j := Int.natCast_nonneg _
          have hk1 : (j : Int) < ds.length := by omega
          have hba := back_any br vr _ d wr T.out HIN.out.ok (has_at HDD.out hlt hcl) (HIN.out.sl.chg D2.out (by simp)) (fun k h0 hk => by have := HIN.out.sl.lt h0 k hk; omega)
          rw [next_at HDD.out hlt hcl] at hba
          unfold OpD.val at hba
          go_wp2_with fail
          refine hba.mono ?_
          clear hba
          rintro e we ⟨rfl, hr, hc⟩
          replace T := Lib.hid hr
          replace E := Lib.hid (E.out.trans hc)
          clear hr hc i1 i2 i3 i4 D2
          go_wp2_with fail
          exact ⟨⟨j + 1, by omega, by go_num, T, E⟩, by simp [intOf]; omega⟩
        · obtain rfl : j = k := by omega
          replace Q := Lib.hid (Q.out.chg E.out (by simp; omega) (by simp; omega))
          replace D := Lib.hid (D.out.fresh E.out (by simp; omega))
          have hend := Lib.hid (end_at hcl)
          clear E
          obtain ⟨cl, hcl2⟩ : ∃ cl, (cat (ds.take j)).length = cl := ⟨_, rfl⟩
          have hpos : (recd n (cat (ds.take j))).pos = cl := hcl2
          rw [hcl2] at T hend hcl
          have HPOS := Lib.hid hpos
          clear hcl2 hpos
          go_wp2_with fail
          refine (atR_any br vr _ wr T.out).mono ?_
          rintro e w' ⟨rfl, rfl⟩
          go_wp2_with fail
          have hat := at_any b1 g1 _ wr Q.out
          rw [HPOS.out] at hat
          refine hat.mono ?_
          clear hat
          rintro e w' ⟨rfl, rfl⟩
          go_wp2_with fail
          have hle := leftR_any br vr _ wr T.out
          simp only [R0.out] at hle
          refine hle.mono ?_
          clear hle
          rintro e w' ⟨rfl, q, rfl⟩
          replace T := Lib.hid (T.out.chg (t := []) ((Chg.refl _ _).drewN q) (by simp) (by simp))
          replace D := Lib.hid (D.out.drewN q)
          generalize wr.drewN q = wq at *
          go_wp2_with fail
          have hno := noughts_any br vr _ ((n : Int) - cl) wq T.out (by omega)
          rw [show ((n : Int) - cl).toNat = n - cl by omega] at hno
          refine hno.mono ?_
          clear hno
          rintro e w' ⟨rfl, hr, hc⟩
          replace T := Lib.hid hr
          replace D := Lib.hid (D.out.fresh hc (by simp; omega))
          clear hr hc
          go_wp2_with fail
          have hen := endR_any br vr _ w' T.out
          rw [hend.out] at hen
          refine hen.mono ?_
          clear hen
          rintro e we ⟨rfl, q2, rfl⟩
          replace D := Lib.hid (D.out.drewN q2)
          go_wp2_with fail
          go_ret
          exact ⟨rfl, D.out⟩
  · go_wp2_with fail
    go_ret
    exact ⟨rfl, Chg.refl _ _⟩

set_option maxHeartbeats 1000000 in
theorem backs_walk (size : Int) (sv : Value) (ds : List OpD) (w : World) (ho : Ops w sv ds) :
    Calls Try.prog 5 #[.int .i64 size, sv] w fun e w' => e = .returned (.bool true) ∧ Chg [] w w' := by
  by_cases hsz : 0 ≤ size ∧ size ≤ 4096
  · obtain ⟨n, rfl⟩ := Int.eq_ofNat_of_zero_le hsz.1
    exact back_ok n (by omega) sv ds w ho
  · have hbad : size < 0 ∨ 4096 < size := by omega
    have hmuch := much_any sv ds w ho
    obtain ⟨ao, c, rfl⟩ := ho.slice
    have hnew := fun w => new_bad size w hbad
    clear hsz ho
    rcases hbad with hbad | hbad
    · go_enter Try.func5, Try.ntmps5
      go_wp2_with fail
      refine hmuch.mono ?_
      rintro e w' ⟨m, rfl, rfl, hm⟩
      clear hmuch hm
      cases m
      · go_wp2_with (first
          | (go_at_call 12; refine (hnew _).mono ?_; rintro e w' ⟨rfl, rfl⟩)
          | (go_at_call 11; refine (known_any _).mono ?_; rintro e w1 ⟨rfl, hc⟩; have C := Lib.hid hc; clear hc))
        go_ret
        exact ⟨rfl, C.out⟩
      · go_wp2_with fail
        go_ret
        exact ⟨rfl, Chg.refl _ _⟩
    · have h0 : ¬ size < 0 := by omega
      go_enter Try.func5, Try.ntmps5
      go_wp2_with fail
      refine hmuch.mono ?_
      rintro e w' ⟨m, rfl, rfl, hm⟩
      clear hmuch hm
      cases m
      · go_wp2_with (first
          | (go_at_call 12; refine (hnew _).mono ?_; rintro e w' ⟨rfl, rfl⟩)
          | (go_at_call 11; refine (known_any _).mono ?_; rintro e w1 ⟨rfl, hc⟩; have C := Lib.hid hc; clear hc))
        go_ret
        exact ⟨rfl, C.out⟩
      · go_wp2_with fail
        go_ret
        exact ⟨rfl, Chg.refl _ _⟩
end Go.Proofs.Ytbinoailpceonaa
