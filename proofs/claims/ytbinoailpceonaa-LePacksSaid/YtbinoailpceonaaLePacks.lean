/-
  LePacks: the walk. By an AI agent.
-/
import Derived.Test.YtbinoailpceonaaSit
import Derived.Test.YtbinoailpceonaaRun
import Derived.Test.YtbinoailpceonaaKnown
import Derived.StillTailTactics
namespace Go.Proofs.Ytbinoailpceonaa
open Go.RowKit

/-- The end: three times told, and the book is its owner's. -/
theorem packs_end {W w : World} {b1 g1 b2 g2 b3 b4 : Nat} {s1 s2 : PS} {hv : Value} {r : RP} {lv : Value} {vs : List (Value × List Value)} (h : Sit W w b1 g1 b2 g2 b3 b4 s1 s2 hv r lv vs) (hl : vs.length ≤ 1000000) :
    Calls Try.prog 21 #[.pointer (some ⟨b4, 0, none⟩)] w fun e w' => e = .returned (.bool true) ∧ Chg [] W w' := by
  refine (book_own b4 lv vs w h.bk hl h.len).mono fun e w' ⟨he, hb⟩ => ⟨he, chg_of_below ?_⟩
  have d := h.dd
  exact (h.chg.below (Below.refl _ _) (Nat.le_refl _) (by simp)).trans (hb.mono (by omega))

set_option maxHeartbeats 4000000 in
set_option maxRecDepth 100000 in
theorem packs_walk (size : Int) (sv : Value) (ds : List OpD) (w : World) (ho : Ops w sv ds) :
    Calls Try.prog 3 #[.int .i64 size, sv] w fun e w' => e = .returned (.bool true) ∧ Chg [] w w' := by
  have hmuch := much_any sv ds w ho
  obtain ⟨ao, c, rfl⟩ := ho.slice
  have hl := ho.len
  have HO := Lib.hid ho
  clear ho
  by_cases hsz : 0 ≤ size ∧ size ≤ 4096
  · obtain ⟨n, rfl⟩ := Int.eq_ofNat_of_zero_le hsz.1
    have hn : n ≤ 4096 := by omega
    clear hsz
    go_enter Try.func3, Try.ntmps3
    go_wp2_with fail
    refine hmuch.mono ?_
    rintro e w' ⟨m, rfl, rfl, hm⟩
    clear hmuch
    cases m
    · have hbulk : ds.length ≤ 100000 := by have := hm rfl; unfold bulk at this; omega
      clear hm
      go_wp2_with fail
      refine (known_any w).mono ?_
      rintro e w0 ⟨rfl, hc0⟩
      have C := Lib.hid hc0
      have z0 := hc0.size
      clear hc0
      go_wp2_with fail
      refine (new_ok n w0 hn).mono ?_
      rintro e w1 ⟨b1, g1, rfl, hp1, hc1, hb1, hg1, ub1, ug1⟩
      have P1 := Lib.hid hp1
      replace C := Lib.hid (C.out.trans hc1)
      have z1 := hc1.size
      clear hp1 hc1
      go_wp2_with fail
      refine (new_ok n w1 hn).mono ?_
      rintro e w2 ⟨b2, g2, rfl, hp2, hc2, hb2, hg2, ub2, ug2⟩
      replace P1 := Lib.hid (P1.out.chg hc2 (by simp) (by simp))
      have P2 := Lib.hid hp2
      replace C := Lib.hid (C.out.trans hc2)
      have z2 := hc2.size
      clear hp2 hc2
      go_wp2_with fail
      refine (refNew_ok n w2 hn).mono ?_
      rintro e w3 ⟨b3, rfl, hr, hc5, hb3⟩
      replace P1 := Lib.hid (P1.out.chg hc5 (by simp) (by simp))
      replace P2 := Lib.hid (P2.out.chg hc5 (by simp) (by simp))
      replace C := Lib.hid (C.out.trans hc5)
      have z3 := hc5.size
      have ub3 := hr.pb.lt
      have S0 : Hid (Sit w (w3.alloc (.cells #[.slice none 0 0, .slice none 0 0, .slice none 0 0, .slice none 0 0, .slice none 0 0, .slice none 0 0, .slice none 0 0, .slice none 0 0, .slice none 0 0, .slice none 0 0, .slice none 0 0, .slice none 0 0] 46)) b1 g1 b2 g2 b3 w3.heap.size (RP.mk n [] 0).ps (RP.mk n [] 0).ps (.slice none 0 0) (RP.mk n [] 0) (.slice none 0 0) []) := by
        have ca : Chg [] w3 (w3.alloc (.cells #[.slice none 0 0, .slice none 0 0, .slice none 0 0, .slice none 0 0, .slice none 0 0, .slice none 0 0, .slice none 0 0, .slice none 0 0, .slice none 0 0, .slice none 0 0, .slice none 0 0, .slice none 0 0] 46)) := (Chg.refl _ _).alloc _
        have ps : (RP.mk n [] 0).ps = PS.mk (List.replicate n 0) 0 0 := by simp [RP.ps]
        have nn : ∀ k, k < w3.heap.size → Bk.not w3.heap.size (.slice none 0 0) [] k := fun k hk => ⟨by omega, (fun h => by cases h), (fun j v xs hj => by simp at hj)⟩
        rw [ps]
        exact ⟨P1.out.chg ca (by simp) (by simp), P2.out.chg ca (by simp) (by simp), hr.chg ca (by simp) (by simp),
          ⟨Blk.made w3 [.slice none 0 0, .slice none 0 0, .slice none 0 0, .slice none 0 0, .slice none 0 0, .slice none 0 0, .slice none 0 0, .slice none 0 0, .slice none 0 0, .slice none 0 0, .slice none 0 0, .slice none 0 0] 46, World.ownsRow_nil _ _ _ _, (fun j v xs hj => by simp at hj), (fun i j v xs v' xs' g hij hi => by simp at hi), (fun j v xs g hj => by simp at hj)⟩,
          nn _ (by omega), nn _ (by omega), nn _ (by omega), nn _ (by omega), nn _ (by omega), (fun k hk => by cases hk), by omega, (fun j v xs hj => by simp at hj), C.out.trans ca⟩
      clear hr hc5 P1 P2 C
      go_wp2_with fail
      generalize hb4 : w3.heap.size = b4 at *
      go_loopw [11] (fun i wr => ∃ k : Nat, k ≤ ds.length ∧ i = .int .i64 k ∧ ∃ hv r lv vs, Hid (Sit w wr b1 g1 b2 g2 b3 b4 r.ps r.ps hv r lv vs) ∧ vs.length ≤ 2 * k) (fun i _ => ds.length - (intOf i).toNat)
      case atStart => exact ⟨0, Nat.zero_le _, rfl, _, _, _, [], S0, by simp⟩
      case round =>
        obtain ⟨k, hk, rfl, hv, r, lv, vs, Q, hvl⟩ := hrel
        clear S0
        by_cases hlt : k < ds.length
        · obtain ⟨d, hd⟩ : ∃ d, ds[k]? = some d := ⟨_, List.getElem?_eq_getElem hlt⟩
          obtain ⟨bb, oo, rfl, hbb, hin⟩ := HO.out.at hd
          have HIN := Lib.hid hin
          have hdk := hin.k0
          have hbig := hin.big
          clear hin hd
          have i4 := (HIN.out.chg hbb Q.out.chg).c3
          have hk0 : (0 : Int) ≤ k := Int.natCast_nonneg _
          have hk1 : (k : Int) < ds.length := by omega
          go_wp2_with fail
          refine (lent_any d.bv d.bs wr (HIN.out.chg hbb Q.out.chg).sl hbig).mono ?_
          rintro e wa ⟨g, rfl, hgb, hgc, hge⟩
          have N := Lib.hid (Q.out.new hge)
          have GB := Lib.hid hgb
          replace Q := Lib.hid (Q.out.free hgc)
          clear hgb hgc hge i4
          have i1 := (HIN.out.chg hbb Q.out.chg).c0
          have i2 := (HIN.out.chg hbb Q.out.chg).c1
          have i3 := (HIN.out.chg hbb Q.out.chg).c2
          have i4 := (HIN.out.chg hbb Q.out.chg).c3
          go_wp2_with fail
          refine (puts_any b1 g1 r.ps d (.slice (some ⟨g, 0, none⟩) d.bs.length (d.bs.length + 2)) wa Q.out.p1 HIN.out.ok (Blk.sl (n := d.bs.length + 2) GB.out) (fun k _ hk => by have := N.out.q1; simp [Value.ownBlock] at hk; omega)).mono ?_
          rintro e wb ⟨rfl, hp, hc⟩
          replace GB := Lib.hid (GB.out.chg hc (by have := N.out.q1; have := N.out.q2; simp; omega))
          replace Q := Lib.hid (Q.out.one hp hc)
          clear hp hc i1 i2 i3 i4
          have i4 := (HIN.out.chg hbb Q.out.chg).c3
          go_wp2_with fail
          refine (whole_any g d.bv d.bs wb GB.out (HIN.out.chg hbb Q.out.chg).sl hbig).mono ?_
          rintro e w' ⟨rfl, q, rfl⟩
          replace Q := Lib.hid (Q.out.free ((Chg.refl [] wb).drewN q))
          replace GB := Lib.hid (GB.out.chg (s := []) ((Chg.refl [] wb).drewN q) (by simp))
          clear i4
          generalize wb.drewN q = wc at *
          go_wp2_with fail
          refine (spoil_any g d.bs.length (d.bs ++ [91, 92]) wc GB.out (by simp) hbig).mono ?_
          rintro e wd ⟨rfl, hc⟩
          replace Q := Lib.hid (Q.out.spoil N.out hc)
          clear hc GB N
          have i1 := (HIN.out.chg hbb Q.out.chg).c0
          have i2 := (HIN.out.chg hbb Q.out.chg).c1
          have i3 := (HIN.out.chg hbb Q.out.chg).c2
          have i4 := (HIN.out.chg hbb Q.out.chg).c3
          go_wp2_with fail
          refine (must_any b3 hv r d wd Q.out.rp HIN.out.ok (HIN.out.chg hbb Q.out.chg).sl).mono ?_
          rintro e we ⟨hv', rfl, hst⟩
          have hle := Lib.hid Q.out.rp.le
          replace Q := Lib.hid (Q.out.ref hst)
          clear hst i1 i2 i3 i4
          have i1 := (HIN.out.chg hbb Q.out.chg).c0
          have i2 := (HIN.out.chg hbb Q.out.chg).c1
          have i3 := (HIN.out.chg hbb Q.out.chg).c2
          have i4 := (HIN.out.chg hbb Q.out.chg).c3
          go_wp2_with fail
          go_still_tail 10, (by kernel_rfl)
          change wpList _ _ _ _ _ we.drew
          go_wp2_with fail
          refine (puts_in b2 g2 r.ps d w we Q.out.p2 HIN.out Q.out.chg (by have := Q.out.dd; omega)).mono ?_
          rintro e wf ⟨rfl, hp, hc⟩
          have Q2 : Hid (Sit w wf b1 g1 b2 g2 b3 b4 (r.put d.bytes).ps (r.put d.bytes).ps hv' (r.put d.bytes) lv vs) := by
            have := Q.out.two hp hc
            rw [RP.ps_put hle.out]
            exact this
          clear hp hc i1 i2 i3 i4 Q
          generalize r.put d.bytes = r' at *
          have i1 := (HIN.out.chg hbb Q2.out.chg).c0
          go_wp2_with fail
          refine (stands_any b1 g1 b3 hv' r' wf Q2.out.p1 Q2.out.rp).mono ?_
          rintro e w' ⟨rfl, q1, rfl⟩
          replace Q2 := Lib.hid (Q2.out.free ((Chg.refl [] wf).drewN q1))
          clear i1
          generalize wf.drewN q1 = wg at *
          go_wp2_with fail
          refine (stands_any b2 g2 b3 hv' r' wg Q2.out.p2 Q2.out.rp).mono ?_
          rintro e w' ⟨rfl, q2, rfl⟩
          replace Q2 := Lib.hid (Q2.out.free ((Chg.refl [] wg).drewN q2))
          generalize wg.drewN q2 = wh at *
          have i1 := (HIN.out.chg hbb Q2.out.chg).c0
          by_cases hk7 : d.k = 7
          · rw [hk7] at i1
            go_wp2_with fail
            refine (told_any b1 g1 b3 b4 hv' lv r' vs wh Q2.out.p1 Q2.out.rp Q2.out.bk (by omega)).mono ?_
            rintro e wi ht
            obtain ⟨rfl, lv1, vs1, hv1, hs1⟩ := Q2.out.told ht
            have Q3 := Lib.hid hs1
            clear hs1 ht Q2 i1
            go_wp2_with fail
            refine (told_any b2 g2 b3 b4 hv' lv1 r' vs1 wi Q3.out.p2 Q3.out.rp Q3.out.bk (by omega)).mono ?_
            rintro e wj ht
            obtain ⟨rfl, lv2, vs2, hv2, hs2⟩ := Q3.out.told ht
            have Q4 := Lib.hid hs2
            clear hs2 ht Q3
            go_wp2_with fail
            exact ⟨⟨k + 1, by omega, by go_num, hv', r', lv2, vs2, Q4, by omega⟩, by simp [intOf]; omega⟩
          · have hkb : (d.k == 7) = false := by simpa using hk7
            go_wp2_with fail
            exact ⟨⟨k + 1, by omega, by go_num, hv', r', lv, vs, Q2, by omega⟩, by simp [intOf]; omega⟩
        · obtain rfl : k = ds.length := by omega
          clear hlt hk
          go_wp2_with fail
          refine (told_any b1 g1 b3 b4 hv lv r vs wr Q.out.p1 Q.out.rp Q.out.bk (by omega)).mono ?_
          rintro e wi ht
          obtain ⟨rfl, lv1, vs1, hv1, hs1⟩ := Q.out.told ht
          have Q3 := Lib.hid hs1
          clear hs1 ht Q
          go_wp2_with fail
          refine (told_any b2 g2 b3 b4 hv lv1 r vs1 wi Q3.out.p2 Q3.out.rp Q3.out.bk (by omega)).mono ?_
          rintro e wj ht
          obtain ⟨rfl, lv2, vs2, hv2, hs2⟩ := Q3.out.told ht
          have Q4 := Lib.hid hs2
          clear hs2 ht Q3
          go_wp2_with fail
          refine (told_any b1 g1 b3 b4 hv lv2 r vs2 wj Q4.out.p1 Q4.out.rp Q4.out.bk (by omega)).mono ?_
          rintro e wk ht
          obtain ⟨rfl, lv3, vs3, hv3, hs3⟩ := Q4.out.told ht
          have Q5 := Lib.hid hs3
          clear hs3 ht Q4
          go_wp2_with fail
          refine (packs_end Q5.out (by omega)).mono ?_
          rintro e wl ⟨rfl, hc⟩
          have E := Lib.hid hc
          clear hc
          go_wp2_with fail
          go_ret
          exact ⟨rfl, E.out⟩
    · go_wp2_with fail
      go_ret
      exact ⟨rfl, Chg.refl _ _⟩
  · have hbad : size < 0 ∨ 4096 < size := by omega
    clear hsz
    have hnew := fun w => new_bad size w hbad
    have hrnew := fun w => refNew_bad size w hbad
    clear hbad
    go_enter Try.func3, Try.ntmps3
    go_wp2_with fail
    refine hmuch.mono ?_
    rintro e w' ⟨m, rfl, rfl, hm⟩
    clear hmuch hm
    cases m
    · go_wp2_with (first
        | (go_at_call 12; refine (hnew _).mono ?_; rintro e w' ⟨rfl, rfl⟩)
        | (go_at_call 13; refine (hrnew _).mono ?_; rintro e w' ⟨rfl, rfl⟩)
        | (go_at_call 11; refine (known_any _).mono ?_; rintro e w1 ⟨rfl, hc⟩; have C := Lib.hid hc; clear hc))
      go_ret
      exact ⟨rfl, C.out⟩
    · go_wp2_with fail
      go_ret
      exact ⟨rfl, Chg.refl _ _⟩
end Go.Proofs.Ytbinoailpceonaa
