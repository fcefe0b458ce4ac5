/-
  LeReads: the walk. By an AI agent.
-/
import Derived.Test.YtbinoailpceonaaSitR
import Derived.Test.YtbinoailpceonaaRun
import Derived.Test.YtbinoailpceonaaKnown
namespace Go.Proofs.Ytbinoailpceonaa
open Go.RowKit

/-- The end: the book is its owner's. -/
theorem readsEnd {W w : World} {b b3 b4 : Nat} {v v3 lv : Value} {s s3 : RS} {vs : List (Value × List Value)} (h : SitR W w b v b3 v3 b4 s s3 lv vs) (hl : vs.length ≤ 1000000) :
    Calls Try.prog 21 #[.pointer (some ⟨b4, 0, none⟩)] w fun e w' => e = .returned (.bool true) ∧ Chg [] W w' := by
  refine (book_own b4 lv vs w h.bk hl h.len).mono fun e w' ⟨he, hb⟩ => ⟨he, chg_of_below ?_⟩
  have d := h.dd
  exact (h.chg.below (Below.refl _ _) (Nat.le_refl _) (by simp)).trans (hb.mono (by omega))

set_option maxHeartbeats 4000000 in
set_option maxRecDepth 100000 in
theorem lereads_walk (bv sv : Value) (xs : List Int) (ds : List OpD) (w : World) (hbs : Sl w bv xs) (ho : Ops w sv ds) (hby : By xs) (hbig : xs.length ≤ 140737488355328) :
    Calls Try.prog 4 #[bv, sv] w fun e w' => e = .returned (.bool true) ∧ Chg [] w w' := by
  have hmuch := much_any sv ds w ho
  obtain ⟨ao, c, rfl⟩ := ho.slice
  obtain ⟨ba, bc, rfl⟩ := hbs.slice
  have hl := ho.len
  have HO := Lib.hid ho
  have HB := Lib.hid hbs
  have HY := Lib.hid hby
  clear ho hbs hby
  by_cases hxl : xs.length ≤ 100000
  · have d1 : decide ((100000 : Int) < (xs.length : Int)) = false := decide_eq_false (by omega)
    go_enter Try.func4, Try.ntmps4
    go_wp2_with fail
    refine hmuch.mono ?_
    rintro e w' ⟨m, rfl, rfl, hm⟩
    clear hmuch
    cases m
    · have hbulk : ds.length ≤ 100000 := by have := hm rfl; unfold bulk at this; omega
      clear hm
      go_wp2_with fail
      refine (lent_any _ xs w HB.out hbig).mono ?_
      rintro e w1 ⟨g, rfl, hgb, hgc, hge⟩
      have GB := Lib.hid hgb
      have C := Lib.hid hgc
      have z1 := hgc.size
      have ug := hgb.lt
      replace HB := Lib.hid (HB.out.chg hgc (by simp))
      clear hgb hgc
      go_wp2_with fail
      refine (read_any _ xs w1 (Blk.sl (n := xs.length + 2) GB.out) hbig HY.out).mono ?_
      rintro e w2 ⟨b1, v1, rfl, hr, hc, hb1, hv1⟩
      have R1 := Lib.hid hr
      have V1 := Lib.hid hv1
      have z2 := hc.size
      have u1 := hr.pb.lt
      replace C := Lib.hid (C.out.trans hc)
      replace GB := Lib.hid (GB.out.chg hc (by simp))
      replace HB := Lib.hid (HB.out.chg hc (by simp))
      clear hr hc hv1
      go_wp2_with fail
      refine (refRead_any _ xs w2 HB.out hbig HY.out).mono ?_
      rintro e w3 ⟨b3, v3, rfl, hr, hc, hb3, hv3⟩
      have R3 := Lib.hid hr
      have V3 := Lib.hid hv3
      have z3 := hc.size
      have u3 := hr.pb.lt
      replace C := Lib.hid (C.out.trans hc)
      replace GB := Lib.hid (GB.out.chg hc (by simp))
      replace HB := Lib.hid (HB.out.chg hc (by simp))
      replace R1 := Lib.hid (R1.out.chg hc (by simp) (by simp))
      clear hr hc hv3
      go_wp2_with fail
      refine (whole_any g _ xs w3 GB.out HB.out hbig).mono ?_
      rintro e w' ⟨rfl, q, rfl⟩
      have hc := (Chg.refl [] w3).drewN q
      replace C := Lib.hid (C.out.trans hc)
      replace GB := Lib.hid (GB.out.chg hc (by simp))
      replace R1 := Lib.hid (R1.out.chg hc (by simp) (by simp))
      replace R3 := Lib.hid (R3.out.chg hc (by simp) (by simp))
      have z4 := hc.size
      clear hc HB
      generalize w3.drewN q = w4 at *
      go_wp2_with fail
      refine (spoil_any g xs.length (xs ++ [91, 92]) w4 GB.out (by simp) hbig).mono ?_
      rintro e w5 ⟨rfl, hc⟩
      replace C := Lib.hid (C.out.fresh hc (by simp; omega))
      replace R1 := Lib.hid (R1.out.chg hc (by simp; omega) (fun k hk => by have := V1.out k hk; simp; omega))
      replace R3 := Lib.hid (R3.out.chg hc (by simp; omega) (fun k hk => by have := V3.out k hk; simp; omega))
      have z5 := hc.size
      clear hc GB
      go_wp2_with fail
      refine (known_any w5).mono ?_
      rintro e w6 ⟨rfl, hc⟩
      replace C := Lib.hid (C.out.trans hc)
      replace R1 := Lib.hid (R1.out.chg hc (by simp) (by simp))
      replace R3 := Lib.hid (R3.out.chg hc (by simp) (by simp))
      have z6 := hc.size
      clear hc
      go_wp2_with fail
      refine (alike_any b1 b3 v1 v3 _ w6 R1.out R3.out).mono ?_
      rintro e w7 ⟨rfl, hc⟩
      replace C := Lib.hid (C.out.trans hc)
      replace R1 := Lib.hid (R1.out.chg hc (by simp) (by simp))
      replace R3 := Lib.hid (R3.out.chg hc (by simp) (by simp))
      have z7 := hc.size
      clear hc
      have S0 : Hid (SitR w (w7.alloc (.cells #[.slice none 0 0, .slice none 0 0, .slice none 0 0, .slice none 0 0, .slice none 0 0, .slice none 0 0, .slice none 0 0, .slice none 0 0, .slice none 0 0, .slice none 0 0, .slice none 0 0, .slice none 0 0] 46)) b1 v1 b3 v3 w7.heap.size ⟨xs, 0, 0, 0⟩ ⟨xs, 0, 0, 0⟩ (.slice none 0 0) []) := by
        have ca : Chg [] w7 (w7.alloc (.cells #[.slice none 0 0, .slice none 0 0, .slice none 0 0, .slice none 0 0, .slice none 0 0, .slice none 0 0, .slice none 0 0, .slice none 0 0, .slice none 0 0, .slice none 0 0, .slice none 0 0, .slice none 0 0] 46)) := (Chg.refl _ _).alloc _
        have nn : ∀ k, k < w7.heap.size → Bk.not w7.heap.size (.slice none 0 0) [] k := fun k hk => ⟨by omega, (fun h => by cases h), (fun j v xs hj => by simp at hj)⟩
        have za := ca.size
        exact ⟨R1.out.chg ca (by simp) (by simp), R3.out.chg ca (by simp) (by simp),
          ⟨Blk.made w7 [.slice none 0 0, .slice none 0 0, .slice none 0 0, .slice none 0 0, .slice none 0 0, .slice none 0 0, .slice none 0 0, .slice none 0 0, .slice none 0 0, .slice none 0 0, .slice none 0 0, .slice none 0 0] 46, World.ownsRow_nil _ _ _ _, (fun j v xs hj => by simp at hj), (fun i j v xs v' xs' g hij hi => by simp at hi), (fun j v xs g hj => by simp at hj)⟩,
          nn _ (by omega), (fun k hk => nn _ (by have := V1.out k hk; omega)), nn _ (by omega), (fun k hk => nn _ (by have := V3.out k hk; omega)), ⟨by omega, by omega, by omega, by omega⟩,
          (fun k hk => by have := V1.out k hk; omega), (fun k hk => by have := V3.out k hk; omega), (fun j v xs hj => by simp at hj), C.out.trans ca⟩
      have hsx : Hid ((RS.mk xs 0 0 0).xs.length ≤ 100000) := hxl
      clear R1 R3 C V1 V3 z1 z2 z3 z4 z5 z6 z7 ug u1 u3 hb1 hb3 hge
      go_wp2_with fail
      generalize hb4 : w7.heap.size = b4 at *
      go_loopw [10] (fun i wr => ∃ k : Nat, k ≤ ds.length ∧ i = .int .i64 k ∧ ∃ s lv vs, Hid (SitR w wr b1 v1 b3 v3 b4 s s lv vs) ∧ Hid (s.xs.length ≤ 100000) ∧ vs.length ≤ k) (fun i _ => ds.length - (intOf i).toNat)
      case atStart => exact ⟨0, Nat.zero_le _, rfl, _, _, [], S0, hsx, by simp⟩
      case round =>
        obtain ⟨k, hk, rfl, s, lv, vs, Q, hx, hvl⟩ := hrel
        clear S0 hsx d1
        by_cases hlt : k < ds.length
        · obtain ⟨d, hd⟩ : ∃ d, ds[k]? = some d := ⟨_, List.getElem?_eq_getElem hlt⟩
          obtain ⟨bb, oo, rfl, hbb, hin⟩ := HO.out.at hd
          have HIN := Lib.hid hin
          clear hin hd
          have i1 := (HIN.out.chg hbb Q.out.chg).c0
          have i2 := (HIN.out.chg hbb Q.out.chg).c1
          have i3 := (HIN.out.chg hbb Q.out.chg).c2
          have i4 := (HIN.out.chg hbb Q.out.chg).c3
          have hk0 : (0 : Int) ≤ k := Int.natCast_nonneg _
          have hk1 : (k : Int) < ds.length := by omega
          have U := Lib.hid (And.intro Q.out.rd.pb.lt (And.intro Q.out.rr.pb.lt (And.intro (fun k hk => (Q.out.dv k hk).2) (fun k hk => (Q.out.dv3 k hk).2))))
          have B0 := Lib.hid Q.out.bk
          go_wp2_with fail
          refine (reads_any b1 v1 s d wr Q.out.rd HIN.out.ok).mono ?_
          rintro e wa ⟨l1, rfl, hown, hr, hc⟩
          have O := Lib.hid hown
          have O0 : Hid (∀ k, l1.ownBlock = some k → wr.heap.size ≤ k) := fun k hk => (hown.lt k hk).1
          have L1 : Hid (∀ k, l1.ownBlock = some k → k ≠ b3) := fun k hk => by have := (hown.lt k hk).1; have := Q.out.rr.pb.lt; omega
          have za := hc.size
          replace Q := Lib.hid (Q.out.one hr hc)
          clear hown hr hc i1 i2 i3 i4
          have i1 := (HIN.out.chg hbb Q.out.chg).c0
          have i2 := (HIN.out.chg hbb Q.out.chg).c1
          have i3 := (HIN.out.chg hbb Q.out.chg).c2
          have i4 := (HIN.out.chg hbb Q.out.chg).c3
          obtain ⟨x, hxx⟩ : ∃ x, d.num s = x := ⟨_, rfl⟩
          rw [hxx]
          have HXX := Lib.hid hxx
          clear hxx
          go_wp2_with fail
          refine (wants_any b3 v3 s d wa Q.out.rr HIN.out.ok).mono ?_
          rintro e wb ⟨l2, rfl, hsl, hfr, hr, hc⟩
          have S2 := Lib.hid hsl
          have F2 := Lib.hid hfr
          replace O := Lib.hid (owns_chg O.out hc (fun k hk => by have := L1.out k hk; simp; omega))
          have B1 := Lib.hid Q.out.bk
          replace Q := Lib.hid (Q.out.ref hr hc)
          have zb := hc.size
          rw [HXX.out]
          clear hsl hfr hr hc i1 i2 i3 i4 L1
          have hll := Lib.hid (OpD.list_le d s)
          have hsx := Lib.hid (show (d.step s).xs.length ≤ 100000 by rw [OpD.step_xs]; exact hx.out)
          have hlb : (d.list s).length ≤ 100000 := Nat.le_trans hll.out hx.out
          generalize hls : d.list s = l at *
          generalize d.step s = s' at *
          clear hls hll hx HXX
          have hb4l := Q.out.bk.pb.lt
          have h4r := B0.out.pb.lt
          go_wp2_with fail
          refine (book_bytes b4 lv vs l1 (l.map (Value.int .u8)) wb Q.out.bk (by rw [List.length_map]; exact ownsRow_base O.out (by omega)) (fun k hk => B0.out.fresh (O0.out k hk)) (by omega)).mono ?_
          rintro e wc ⟨lv', rfl, hbs⟩
          have S1 : Hid (Sl wc l1 l) := by
            have h := hbs.bk.row vs.length l1 (l.map (Value.int .u8)) (by simp)
            exact Sl.owned h
          have S3 : Hid (Sl wc l2 l) := S2.out.chg hbs.chg (fun k hk hm => by
            have h := B1.out.fresh (F2.out k hk)
            rcases List.mem_cons.1 hm with q | q
            · exact h.1 q
            · exact h.2.1 (by simpa using q))
          have Q2 : Hid (SitR w wc b1 v1 b3 v3 b4 s' s' lv' (vs ++ [(l1, l.map (Value.int .u8))])) := Q.out.book hbs (by rw [List.length_map]; omega) U.out (by omega) O0.out
          clear hbs S2 Q O O0 B0 B1 F2 U
          go_wp2_with fail
          refine (same_true _ _ _ _ S1.out S3.out (by omega)).mono ?_
          rintro e w' ⟨rfl, q, rfl⟩
          replace Q2 := Lib.hid (Q2.out.free ((Chg.refl [] wc).drewN q))
          generalize wc.drewN q = wd at *
          clear S1 S3
          go_wp2_with fail
          refine (alike_any b1 b3 v1 v3 s' wd Q2.out.rd Q2.out.rr).mono ?_
          rintro e we ⟨rfl, hc⟩
          replace Q2 := Lib.hid (Q2.out.free hc)
          clear hc
          go_wp2_with fail
          exact ⟨⟨k + 1, by omega, by go_num, s', lv', _, Q2, hsx, by simp; omega⟩, by simp [intOf]; omega⟩
        · obtain rfl : k = ds.length := by omega
          clear hlt hk
          go_wp2_with fail
          refine (readsEnd Q.out (by omega)).mono ?_
          rintro e wl ⟨rfl, hc⟩
          have E := Lib.hid hc
          clear hc
          go_wp2_with fail
          go_ret
          exact ⟨rfl, E.out⟩
    · go_wp2_with fail
      go_ret
      exact ⟨rfl, Chg.refl _ _⟩
  · have d1 : decide ((100000 : Int) < (xs.length : Int)) = true := decide_eq_true (by omega)
    go_enter Try.func4, Try.ntmps4
    go_wp2_with fail
    refine hmuch.mono ?_
    rintro e w' ⟨m, rfl, rfl, hm⟩
    clear hmuch hm
    cases m
    all_goals go_wp2_with fail
    all_goals go_ret
    all_goals exact ⟨rfl, Chg.refl _ _⟩
end Go.Proofs.Ytbinoailpceonaa
