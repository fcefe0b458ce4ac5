/-
  XorSolves walked to its end. By an AI agent.
-/
import Derived.Test.YtaciamnfkidmfaaXorAll
import Derived.Deep.RegionHeld3
import Derived.Deep.AppendLies
namespace Go.Proofs.Ytaciamnfkidmfaa
open Go.RowKit

theorem new_cells (w : World) (l : List Value) (e : TypeId) : ∀ (j : Nat) (v : Value), l[j]? = some v → (w.alloc (.cells l.toArray e)).cell? ((⟨w.heap.size, 0, none⟩ : Addr).add j) = some v := by
  intro j v hj
  rw [Addr.add_lit, Nat.zero_add]
  exact (Blk.made w l e).cell hj

theorem owns_some {w : World} {base : Nat} {e : TypeId} {v : Value} {n : Nat} {xs : List Value} (h : w.ownsRow base e 1 v n xs) (h0 : 0 < n) : ∃ g c, v = .slice (some ⟨g, 0, none⟩) n c := by
  rcases h.2 with ⟨rfl, h1⟩ | ⟨g, cap, cur, rfl, _⟩
  · omega
  · exact ⟨g, cap, rfl⟩

theorem turned_val {N : Nat} {ds : List RowD} {d : RowD} (hl : ∀ d ∈ ds, d.bs.length = N) (hd : d ∈ ds) : ofVal (rowsN (ds.reverse ++ [d, d])) = Xr.ors N (rowsN ds) ∧ ofErr (rowsN (ds.reverse ++ [d, d])) = 0 := by
  have hne : rowsN (ds.reverse ++ [d, d]) ≠ [] := by simp [rowsN]
  have hlen : Xr.Len N (rowsN (ds.reverse ++ [d, d])) := oks_len (fun x hx => by
    rcases List.mem_append.1 hx with hx | hx
    · exact hl x (List.mem_reverse.1 hx)
    · have : x = d := by simpa using hx
      rw [this]; exact hl d hd)
  refine ⟨?_, ofErr_ok hne hlen⟩
  rw [ofVal_ok hne hlen, rowsN_append, show rowsN ds.reverse = (rowsN ds).reverse from List.map_reverse, show rowsN [d, d] = [nats d.bs, nats d.bs] from rfl]
  have := Xr.ors_twice (n := N) (rowsN ds).reverse [] [] (nats d.bs)
  rw [List.append_nil, List.append_nil, List.append_nil, List.append_nil, List.append_assoc, List.singleton_append, Xr.ors_reverse] at this
  exact this

theorem drop_rev {ds : List RowD} {i : Nat} {d : RowD} (h : ds[i]? = some d) : (ds.drop i).reverse = (ds.drop (i + 1)).reverse ++ [d] := by
  obtain ⟨hi, rfl⟩ := List.getElem?_eq_some_iff.1 h
  rw [List.drop_eq_getElem_cons hi, List.reverse_cons]

set_option maxHeartbeats 8000000 in
set_option maxRecDepth 100000 in
theorem solves_main (b o c k N uc : Nat) (uo : Option Addr) (r which : Int) (ys : List Int) (ds : List RowD) (w : World)
    (h : Rws w (.slice (some ⟨b, o, none⟩) ds.length c) ds) (hmb : muchB ds = false) (hl : ds.length ≤ 100) (h0 : ds.length ≠ 0)
    (hN : ∀ d ∈ ds, d.bs.length = N) (hu : Sl w (.slice uo ys.length uc) ys) (hby : By ys)
    (hr : Int.tmod which (ds.length : Int) = r) (hk : (if r < 0 then r + (ds.length : Int) else r) = (k : Int)) (hkl : k < ds.length) :
    Calls Try.prog 8 #[.slice (some ⟨b, o, none⟩) ds.length c, .int .i64 which, .slice uo ys.length uc] w fun e w' => e = .returned (.bool true) ∧ Chg [] w w' := by
  obtain ⟨j0, ki, kz0, kz1, kz2⟩ := info_parts info_bytes
  replace ki := Lib.hid ki
  replace kz0 := Lib.hid kz0
  replace kz1 := Lib.hid kz1
  replace kz2 := Lib.hid kz2
  have hm := much_any _ _ _ h
  rw [hmb] at hm
  obtain ⟨hn, hsm0⟩ := not_much hmb
  obtain ⟨dk, hdk⟩ : ∃ d, ds[k]? = some d := ⟨_, List.getElem?_eq_getElem hkl⟩
  have hdm := List.mem_of_getElem? hdk
  have hN1 : N ≤ 100000 := by rw [← hN dk hdm]; exact hsm0 dk hdm
  have HOK : Hid (Oks w ds) := fun d hd => by
    obtain ⟨q1, q2, q3⟩ := h.each d hd
    exact ⟨q1, q2, by have := hsm0 d hd; omega⟩
  have hne : rowsN ds ≠ [] := fun e => h0 (rowsN_nil.1 e)
  have s1 := of_any _ _ w h (by omega) (fun d hd => by have := hsm0 d hd; omega)
  rw [ofErr_ok hne (oks_len hN), ofVal_ok hne (oks_len hN)] at s1
  have HBS := Lib.hid (Xr.ors_bs (oks_bss HOK.out) N)
  have E1 : Hid (∀ u, Evn N (ds ++ [⟨u, ints (Xr.ors N (rowsN ds))⟩])) := fun u => evn_first hN
  have E2 : Hid (ys.length = N → ∀ u v, Evn N (ds.set k ⟨v, ys⟩ ++ [⟨u, ints (Xr.ors N [Xr.ors N (rowsN ds), nats dk.bs, nats ys])⟩])) := fun hy u v => evn_set hN (show ds[k]? = some ⟨dk.v, dk.bs⟩ from hdk) hy
  have hT := turned_val hN hdm
  have HT1 := Lib.hid hT.1
  have HT2 := Lib.hid hT.2
  have hPl : (Xr.ors N (rowsN ds)).length = N := Xr.ors_length _ _
  clear hT hne
  generalize Xr.ors N (rowsN ds) = P at *
  have HPL := Lib.hid hPl
  have HR := Lib.hid h
  have HU := Lib.hid hu
  have HBY := Lib.hid hby
  have HN := Lib.hid hN
  have HDK := Lib.hid hdk
  have HDM := Lib.hid hdm
  obtain ⟨ko, kc, hkv⟩ := (HOK.out dk hdm).1.slice
  have HKV := Lib.hid hkv
  have hkN := hN dk hdm
  have HKN := Lib.hid hkN
  have hk1 : (k : Int) < ds.length := by omega
  have hk0 : (0 : Int) ≤ k := Int.natCast_nonneg _
  have d2 : ¬ (100 : Int) < ds.length := by omega
  have d3 : (ds.length : Int) ≠ 0 := by omega
  clear h hu hby hN hmb hsm0 hPl hdk hdm hkv hkN
  go_enter Try.func8, Try.ntmps8
  go_wp2_with fail
  refine hm.mono ?_
  clear hm
  rintro e w' ⟨rfl, rfl⟩
  go_wp2_with fail
  refine s1.mono ?_
  clear s1
  rintro e w1 ⟨a, rfl, O, D⟩
  obtain ⟨p1, p2, ha⟩ : ∃ p1 p2, a = .slice p1 N p2 := by
    have o := O.out
    rw [HPL.out] at o
    exact owns_slice o
  subst ha
  have PO : Hid (Ok w1 ⟨.slice p1 N p2, ints P⟩) := Ok.own O.out HBS.out (by rw [HPL.out]; omega)
  clear O
  go_wp2_with fail
  refine (known_any w1).mono ?_
  rintro e w2 ⟨rfl, C⟩
  replace PO := Lib.hid (PO.out.chg C.out)
  replace D := Lib.hid (D.out.trans C.out)
  clear C
  have B0 : Hid (w.heap.size ≤ w2.heap.size) := D.out.size
  have c1 : Hid (∀ j u, (ds.map (·.v))[j]? = some u → w2.cell? ((⟨b, o, none⟩ : Addr).add j) = some u) := fun j u hj => by
    rw [Addr.add_lit]
    exact rws_cells (HR.out.chg D.out) j u hj
  have o1 : Hid (∀ u ∈ ds.map (·.v), u.oneCell' = true) := rws_one HR.out
  have l1 : Hid ((ds.map (·.v)).length = ds.length * 1) := by show _ = _; simp
  go_wp2_with (first
    | (at_builtin; refine wpList_append_three _ rfl (.tmp 54) (.tmp 55) 22 rfl w2.heap.size 25 j0 (.slice none 0 0) 1 24 Try.underlying22 ki.out kz0.out kz1.out kz2.out rfl (by decide) _ 0 [] rfl (World.ownsRow_nil _ _ _ _) ⟨b, o, none⟩ ds.length c (ds.map (·.v)) rfl l1.out c1.out o1.out (by unfold maxLen; omega) (by omega) (Nat.le_refl _) ?_; intro v1 w3 ol gr nb; have C3 : Hid (Chg [] w2 w3) := (Chg.refl _ _).grown gr.out (fun b hb => by cases hb); have O3 := Lib.hid ol.out; clear ol gr nb)
    | (at_builtin; refine wpList_append_three _ rfl (.tmp 57) (.tmp 59) 22 rfl w2.heap.size 25 j0 (.slice none 0 0) 1 24 Try.underlying22 ki.out kz0.out kz1.out kz2.out rfl (by decide) v1 (0 + ds.length) _ rfl (O3.out.alloc _) ⟨w3.heap.size, 0, none⟩ 1 1 [.slice p1 N p2] rfl rfl (new_cell _ _ _) (by simp [Value.oneCell']) (by unfold maxLen; omega) (by omega) (by have := C3.out.size; simp; omega) ?_; intro v2 w4 ol gr nb; have C4 : Hid (Chg [] w2 w4) := (C3.out.alloc _).grown gr.out (fun b hb => .inr (O3.out.lt b hb).1); have O4 := Lib.hid ol.out; clear ol gr nb))
  obtain ⟨M, hM⟩ : ∃ M, M = 0 + ds.length + 1 := ⟨_, rfl⟩
  rw [← hM] at O4
  have hM1 : ds.length < M := by omega
  have hM2 : M ≤ ds.length + 1 := by omega
  clear hM
  obtain ⟨g, c2, hv2⟩ : ∃ g c, v2 = .slice (some ⟨g, 0, none⟩) M c := owns_some O4.out (by omega)
  subst hv2
  have hg : w2.heap.size ≤ g := (O4.out.lt g rfl).1
  have HG := Lib.hid hg
  have L : Hid (Lst w2 w4 (.slice (some ⟨g, 0, none⟩) M c2) M (ds ++ [⟨.slice p1 N p2, ints P⟩])) := by
    refine ⟨?_, ?_, ?_, C4.out⟩
    · have o4 := O4.out
      rw [List.nil_append] at o4
      rw [List.map_append]
      exact o4
    · intro d hd
      rcases List.mem_append.1 hd with hd | hd
      · exact (HOK.out d hd).chg (D.out.trans C4.out)
      · rw [List.mem_singleton.1 hd]
        exact PO.out.chg C4.out
    · intro d hd hp g2 hg2 hg3
      obtain rfl : g = g2 := by simpa [Value.ownBlock] using hg2
      rcases List.mem_append.1 hd with hd | hd
      · have := ((HOK.out d hd).chg D.out).1.lt hp g hg3
        have := HG.out
        omega
      · rw [List.mem_singleton.1 hd] at hg3 hp
        have := PO.out.1.lt hp g hg3
        have := HG.out
        omega
  have E : Hid (Evn N (ds ++ [⟨.slice p1 N p2, ints P⟩])) := E1.out _
  obtain ⟨es, hes⟩ : ∃ es, es = ds ++ [⟨.slice p1 N p2, ints P⟩] := ⟨_, rfl⟩
  rw [← hes] at L E
  have HES := Lib.hid hes
  clear hes E1 C4 O4 O3 C3 c1 o1 l1 hg
  refine (L.out.even_any E.out (by omega) (by omega)).mono ?_
  rintro e w5 ⟨rfl, C⟩
  replace L := Lib.hid (L.out.quiet C.out)
  clear C
  go_wp2_with fail
  go_loopw [12] (fun i wr => ∃ j : Nat, j ≤ M ∧ i = .int .i64 j ∧ Hid (Lst w2 wr (.slice (some ⟨g, 0, none⟩) M c2) M es)) (fun i _ => M - (intOf i).toNat)
  case atStart => exact ⟨0, Nat.zero_le _, rfl, L⟩
  case round =>
    obtain ⟨j, hj, rfl, L2⟩ := hrel
    clear L
    by_cases hlt : j < M
    · obtain ⟨d, hd⟩ : ∃ d, es[j]? = some d := ⟨_, List.getElem?_eq_getElem (by rw [L2.out.len]; exact hlt)⟩
      have mm := L2.out.miss_any E.out hd (by omega) (by omega)
      obtain ⟨eo, ec, hv⟩ := (L2.out.oks d (List.mem_of_getElem? hd)).1.slice
      have HV := Lib.hid hv
      have HD := Lib.hid hd
      have i0 : (0 : Int) ≤ j := Int.natCast_nonneg _
      have i1 : (j : Int) < M := by omega
      clear hv hd
      go_wp2_with fail
      refine mm.mono ?_
      clear mm
      rintro e w6 ⟨ao, cc, rfl, S, C⟩
      have L3 := Lib.hid (L2.out.quiet C.out)
      have c0 := L3.out.cell HD.out
      rw [HV.out] at c0
      have S2 : Hid (Sl w6 (.slice eo d.bs.length ec) d.bs) := by rw [← HV.out]; exact (L3.out.oks d (List.mem_of_getElem? HD.out)).1
      have hbig : d.bs.length ≤ 140737488355328 := by have := (L3.out.oks d (List.mem_of_getElem? HD.out)).2.2; omega
      clear C L2
      go_wp2_with fail
      refine (same_true _ _ d.bs w6 S.out S2.out hbig).mono ?_
      rintro e w7 ⟨rfl, q, hw⟩
      have C : Hid (Chg [] w6 w7) := by rw [hw]; exact (Chg.refl [] _).drewN _
      clear hw
      have L4 : Hid (Lst w2 w7 (.slice (some ⟨g, 0, none⟩) M c2) M es) := L3.out.quiet C.out
      clear C c0
      go_wp2_with fail
      exact ⟨⟨j + 1, by omega, by go_num, L4⟩, by simp [intOf]; omega⟩
    · obtain rfl : M = j := by omega
      have W0 : Hid (Chg [] w wr) := D.out.trans L2.out.chg
      have ck : wr.cell? ⟨b, o + k, none⟩ = some (.slice ko dk.bs.length kc) := by
        obtain ⟨b', o', he, _, R⟩ := (HR.out.chg W0.out).at HDK.out
        obtain ⟨rfl, rfl⟩ : b = b' ∧ o = o' := by simpa using he
        rw [← HKV.out]
        exact R.c0
      by_cases hyl : ys.length = N
      · have hyb : ((ys.length : Int) == (N : Int)) = true := by rw [hyl]; simp
        have PT := patch_told ⟨.slice p1 N p2, ints P⟩ ⟨.slice ko dk.bs.length kc, dk.bs⟩ ⟨.slice uo ys.length uc, ys⟩ N wr
          (all3 (PO.out.chg L2.out.chg) (by have := (HOK.out dk HDM.out).chg W0.out; exact ⟨by have h1 := this.1; rw [HKV.out] at h1; exact h1, this.2⟩) ⟨(HU.out).chgNil W0.out, HBY.out, by show ys.length ≤ _; omega⟩)
          (fun d hd => by
            rcases List.mem_cons.1 hd with rfl | hd
            · show (ints P).length = _
              rw [ints_length]; exact HPL.out
            · rcases List.mem_cons.1 hd with rfl | hd
              · exact HKN.out
              · rw [List.mem_singleton.1 hd]; exact hyl) (by omega)
        rw [show nats (⟨.slice p1 N p2, ints P⟩ : RowD).bs = P from nats_ints P] at PT
        replace PT := Lib.hid PT
        have HYL := Lib.hid hyl
        clear hyl
        by_cases hneg : r < 0
        · rw [if_pos hneg] at hk
          go_wp2_with fail
          refine PT.out.mono ?_
          clear PT
          rintro e w6 ⟨qo, qc, rfl, QO, QB, C⟩
          have L3 := Lib.hid (L2.out.quiet C.out)
          have Y6 : Hid (Ok w6 ⟨.slice uo ys.length uc, ys⟩) := ⟨(HU.out).chgNil (W0.out.trans C.out), HBY.out, by have := HYL.out; show ys.length ≤ _; omega⟩
          obtain ⟨L5, f1, x1, hx1⟩ := L3.out.set (k := k) (by omega) ⟨.slice uo ys.length uc, ys⟩ Y6.out (fun hp e => by
            have := HU.out.lt hp g e
            have := B0.out
            have := HG.out
            omega)
          have QN : Hid ((Value.slice qo N qc).ownBlock ≠ some g) := fun e => by
            have := QB.out g e
            have := (L2.out.own.lt g rfl).2
            omega
          have Q6 : Hid (Ok (w6.setCell ⟨g, k, none⟩ (.slice uo ys.length uc)) ⟨.slice qo N qc, ints (Xr.ors N [P, nats dk.bs, nats ys])⟩) := ok_turn QO.out (s := [g]) ((Chg.refl _ _).setCell (.inl (by simp)) _) (fun _ k2 hk2 hm => by
            rw [List.mem_singleton.1 hm] at hk2
            exact QN.out hk2)
          obtain ⟨L6, f2, x2, hx2⟩ := L5.set (k := ds.length) (by omega) ⟨.slice qo N qc, ints (Xr.ors N [P, nats dk.bs, nats ys])⟩ Q6.out (fun _ => QN.out)
          have E6 : Hid (Evn N ((es.set k ⟨.slice uo ys.length uc, ys⟩).set ds.length ⟨.slice qo N qc, ints (Xr.ors N [P, nats dk.bs, nats ys])⟩)) := by
            have e := E2.out HYL.out (.slice qo N qc) (.slice uo ys.length uc)
            rw [HES.out, List.set_append_left _ _ hkl, List.set_append_right _ _ (by simp), List.length_set, Nat.sub_self, List.set_cons_zero]
            exact e
          replace L6 := Lib.hid L6
          have g0 : (0 : Int) ≤ ds.length := Int.natCast_nonneg _
          have g1 : (ds.length : Int) < M := by omega
          have g2 : (k : Int) < M := by omega
          have ev := L6.out.even_any E6.out (by omega) (by omega)
          replace ev := Lib.hid ev
          clear L5 L3 L2 Q6 QN Y6 QO QB C E6 E2 ck
          go_wp2_with fail
          refine ev.out.mono ?_
          clear ev
          rintro e w7 ⟨rfl, C⟩
          have DT : Hid (Chg [] w2 w7) := L6.out.chg.trans C.out
          clear C L6 f1 f2 x1 x2 hx1 hx2
          go_wp2_with fail
          go_loopw [18, 19] (fun t i wx => ∃ (j : Nat) (z : Int), j ≤ ds.length ∧ z = (j : Int) - 1 ∧ i = .int .i64 z ∧ Hid (wx.ownsRow w2.heap.size 25 1 t (ds.length - j) (((ds.drop j).reverse).map (·.v))) ∧ Hid (Chg [] w2 wx)) (fun _ i _ => (intOf i + 1).toNat)
          case atStart => exact ⟨ds.length, _, Nat.le_refl _, rfl, by go_num, (show World.ownsRow _ _ _ _ _ _ _ from by simp; exact World.ownsRow_nil _ _ _ _), DT⟩
          case round =>
            obtain ⟨j2, z, hj2, hz, rfl, O, D2⟩ := hrel
            clear DT
            by_cases hj0 : 0 < j2
            · obtain ⟨i, rfl⟩ : ∃ i, j2 = i + 1 := ⟨j2 - 1, by omega⟩
              obtain rfl : z = (i : Int) := by omega
              clear hz
              obtain ⟨d, hd⟩ : ∃ d, ds[i]? = some d := ⟨_, List.getElem?_eq_getElem (by omega)⟩
              obtain ⟨b', o', he, hbl, R⟩ := (HR.out.chg (D.out.trans D2.out)).at hd
              obtain ⟨rfl, rfl⟩ : b = b' ∧ o = o' := by simpa using he
              obtain ⟨eo, ec, hv⟩ := R.sl.slice
              have c0 := R.c0
              rw [hv] at c0
              have HV := Lib.hid hv
              have HD := Lib.hid hd
              have i0 : (0 : Int) ≤ i := Int.natCast_nonneg _
              have i1 : (i : Int) < ds.length := by omega
              clear hv hd R he
              go_wp2_with (first
                | (at_builtin; refine wpList_append_three _ rfl (.tmp 151) (.tmp 156) 22 rfl w2.heap.size 25 j0 (.slice none 0 0) 1 24 Try.underlying22 ki.out kz0.out kz1.out kz2.out rfl (by decide) u18 (ds.length - (i + 1)) _ rfl (O.out.alloc _) ⟨wr.heap.size, 0, none⟩ 1 1 [.slice eo d.bs.length ec] rfl rfl (new_cell _ _ _) (by simp [Value.oneCell']) (by unfold maxLen; omega) (by omega) (by have := D2.out.size; simp; omega) ?_; intro v5 wn ol gr nb; have D3 : Hid (Chg [] w2 wn) := (D2.out.alloc _).grown gr.out (fun b hb => .inr (O.out.lt b hb).1); have O2 := Lib.hid ol.out; clear ol gr nb))
              refine ⟨⟨i, _, by omega, rfl, by go_num, ?_, D3⟩, by simp [intOf]⟩
              show World.ownsRow _ _ _ _ _ _ _
              have o2 := O2.out
              rw [← HV.out] at o2
              rw [drop_rev HD.out, List.map_append, List.map_singleton, show ds.length - i = ds.length - (i + 1) + 1 by omega]
              exact o2
            · obtain rfl : j2 = 0 := by omega
              obtain rfl : z = -1 := by omega
              have ck2 : wr.cell? ⟨b, o + k, none⟩ = some (.slice ko dk.bs.length kc) := by
                obtain ⟨b', o', he, _, R⟩ := (HR.out.chg (D.out.trans D2.out)).at HDK.out
                obtain ⟨rfl, rfl⟩ : b = b' ∧ o = o' := by simpa using he
                rw [← HKV.out]
                exact R.c0
              clear hz hj0
              go_wp2_with fail
              have lb := World.block_lt_of_cell? wr _ ck2
              have CK : Hid (∀ w', Chg [] w2 w' → w'.cell? ⟨b, o + k, none⟩ = some (.slice ko dk.bs.length kc)) := fun w' D' => by
                obtain ⟨b', o', he, _, R⟩ := (HR.out.chg (D.out.trans D')).at HDK.out
                obtain ⟨rfl, rfl⟩ : b = b' ∧ o = o' := by simpa using he
                rw [← HKV.out]
                exact R.c0
              have D4 : Hid (∀ ob, Chg [] w2 ((wr.alloc ob).drew)) := fun ob => (D2.out.alloc _).drew
              have O4 : Hid (∀ ob, ((wr.alloc ob).drew).ownsRow w2.heap.size 25 1 u18 ds.length ((ds.reverse).map (·.v))) := fun ob => owns_chg O.out ((Chg.refl [] wr).alloc _).drew (by simp)
              have Z4 : Hid (w2.heap.size ≤ wr.heap.size) := D2.out.size
              clear O D2
              go_region_held3 (fun w' : World => w'.cell? ⟨b, o + k, none⟩ = some (.slice ko dk.bs.length kc))
                (first | go_keep | exact CK.out _ D5.out)
                ((refine step_append_lies _ (by rfl) _ _ _ (by rfl) w2.heap.size 25 j0 _ 1 24 Try.underlying22 ki.out kz0.out kz1.out kz2.out rfl (by decide) u18 ds.length _ (by rfl) (O4.out _) ⟨wr.heap.size, 0, none⟩ 2 2 [.slice ko dk.bs.length kc, .slice ko dk.bs.length kc] (by rfl) (by rfl) (new_cells wr [.slice ko dk.bs.length kc, .slice ko dk.bs.length kc] _) (by simp [Value.oneCell']) (by decide) (by unfold maxLen; omega) (by omega) (by have := Z4.out; simp; omega) _ rfl ?_; intro g5 cap5 w9 own9 grow9 hat hlt; have D5 : Hid (Chg [] w2 w9) := (D4.out _).grown grow9 (fun x hx => .inr ((O4.out (.cells #[] 0)).lt x hx).1); have O5 := Lib.hid own9; clear own9 grow9 hat hlt))
              have RW : Rws w9 (.slice (some ⟨g5, 0, none⟩) (ds.length + 2) cap5) (ds.reverse ++ [dk, dk]) := by
                have o5 := O5.out
                rw [← HKV.out] at o5
                refine rws_owned (base := w2.heap.size) (by rw [List.map_append, show (ds.reverse ++ [dk, dk]).length = ds.length + 2 by simp]; exact o5) (fun d hd => ?_) (by simp; omega)
                have hd2 : d ∈ ds := by
                  rcases List.mem_append.1 hd with hd | hd
                  · exact List.mem_reverse.1 hd
                  · have : d = dk := by simpa using hd
                    rw [this]; exact HDM.out
                have := (HOK.out d hd2).chg (D.out.trans D5.out)
                exact ⟨this.1, this.2.1, by have := this.2.2; omega⟩
              have s2 := of_any _ _ w9 RW (by simp; omega) (fun d hd => by
                rcases List.mem_append.1 hd with hd | hd
                · exact (HOK.out d (List.mem_reverse.1 hd)).2.2
                · have : d = dk := by simpa using hd
                  rw [this]; exact (HOK.out dk HDM.out).2.2)
              rw [HT1.out, HT2.out] at s2
              clear RW O5 O4 D4 CK
              go_wp2_with fail
              refine s2.mono ?_
              clear s2
              rintro e w10 ⟨a2, rfl, O, C⟩
              obtain ⟨q1, q2, ha2⟩ : ∃ q1 q2, a2 = .slice q1 N q2 := by
                have o := O.out
                rw [HPL.out] at o
                exact owns_slice o
              subst ha2
              have S1 : Hid (Sl w10 (.slice q1 N q2) (ints P)) := Sl.owned O.out
              have S0 : Hid (Sl w10 (.slice p1 N p2) (ints P)) := PO.out.1.chgNil (D5.out.trans C.out)
              have D6 : Hid (Chg [] w w10) := D.out.trans (D5.out.trans C.out)
              have hxi : (ints P).length ≤ 140737488355328 := by rw [ints_length, HPL.out]; omega
              clear O C D5
              go_wp2_with fail
              refine (same_true _ _ (ints P) w10 S0.out S1.out hxi).mono ?_
              rintro e w11 ⟨rfl, q, hw⟩
              have C : Hid (Chg [] w10 w11) := by rw [hw]; exact (Chg.refl [] _).drewN _
              clear hw
              go_wp2_with fail
              go_ret
              exact ⟨rfl, D6.out.trans C.out⟩
        · rw [if_neg hneg] at hk
          subst hk
          go_wp2_with fail
          refine PT.out.mono ?_
          clear PT
          rintro e w6 ⟨qo, qc, rfl, QO, QB, C⟩
          have L3 := Lib.hid (L2.out.quiet C.out)
          have Y6 : Hid (Ok w6 ⟨.slice uo ys.length uc, ys⟩) := ⟨(HU.out).chgNil (W0.out.trans C.out), HBY.out, by have := HYL.out; show ys.length ≤ _; omega⟩
          obtain ⟨L5, f1, x1, hx1⟩ := L3.out.set (k := k) (by omega) ⟨.slice uo ys.length uc, ys⟩ Y6.out (fun hp e => by
            have := HU.out.lt hp g e
            have := B0.out
            have := HG.out
            omega)
          have QN : Hid ((Value.slice qo N qc).ownBlock ≠ some g) := fun e => by
            have := QB.out g e
            have := (L2.out.own.lt g rfl).2
            omega
          have Q6 : Hid (Ok (w6.setCell ⟨g, k, none⟩ (.slice uo ys.length uc)) ⟨.slice qo N qc, ints (Xr.ors N [P, nats dk.bs, nats ys])⟩) := ok_turn QO.out (s := [g]) ((Chg.refl _ _).setCell (.inl (by simp)) _) (fun _ k2 hk2 hm => by
            rw [List.mem_singleton.1 hm] at hk2
            exact QN.out hk2)
          obtain ⟨L6, f2, x2, hx2⟩ := L5.set (k := ds.length) (by omega) ⟨.slice qo N qc, ints (Xr.ors N [P, nats dk.bs, nats ys])⟩ Q6.out (fun _ => QN.out)
          have E6 : Hid (Evn N ((es.set k ⟨.slice uo ys.length uc, ys⟩).set ds.length ⟨.slice qo N qc, ints (Xr.ors N [P, nats dk.bs, nats ys])⟩)) := by
            have e := E2.out HYL.out (.slice qo N qc) (.slice uo ys.length uc)
            rw [HES.out, List.set_append_left _ _ hkl, List.set_append_right _ _ (by simp), List.length_set, Nat.sub_self, List.set_cons_zero]
            exact e
          replace L6 := Lib.hid L6
          have g0 : (0 : Int) ≤ ds.length := Int.natCast_nonneg _
          have g1 : (ds.length : Int) < M := by omega
          have g2 : (k : Int) < M := by omega
          have ev := L6.out.even_any E6.out (by omega) (by omega)
          replace ev := Lib.hid ev
          clear L5 L3 L2 Q6 QN Y6 QO QB C E6 E2 ck
          go_wp2_with fail
          refine ev.out.mono ?_
          clear ev
          rintro e w7 ⟨rfl, C⟩
          have DT : Hid (Chg [] w2 w7) := L6.out.chg.trans C.out
          clear C L6 f1 f2 x1 x2 hx1 hx2
          go_wp2_with fail
          go_loopw [18, 19] (fun t i wx => ∃ (j : Nat) (z : Int), j ≤ ds.length ∧ z = (j : Int) - 1 ∧ i = .int .i64 z ∧ Hid (wx.ownsRow w2.heap.size 25 1 t (ds.length - j) (((ds.drop j).reverse).map (·.v))) ∧ Hid (Chg [] w2 wx)) (fun _ i _ => (intOf i + 1).toNat)
          case atStart => exact ⟨ds.length, _, Nat.le_refl _, rfl, by go_num, (show World.ownsRow _ _ _ _ _ _ _ from by simp; exact World.ownsRow_nil _ _ _ _), DT⟩
          case round =>
            obtain ⟨j2, z, hj2, hz, rfl, O, D2⟩ := hrel
            clear DT
            by_cases hj0 : 0 < j2
            · obtain ⟨i, rfl⟩ : ∃ i, j2 = i + 1 := ⟨j2 - 1, by omega⟩
              obtain rfl : z = (i : Int) := by omega
              clear hz
              obtain ⟨d, hd⟩ : ∃ d, ds[i]? = some d := ⟨_, List.getElem?_eq_getElem (by omega)⟩
              obtain ⟨b', o', he, hbl, R⟩ := (HR.out.chg (D.out.trans D2.out)).at hd
              obtain ⟨rfl, rfl⟩ : b = b' ∧ o = o' := by simpa using he
              obtain ⟨eo, ec, hv⟩ := R.sl.slice
              have c0 := R.c0
              rw [hv] at c0
              have HV := Lib.hid hv
              have HD := Lib.hid hd
              have i0 : (0 : Int) ≤ i := Int.natCast_nonneg _
              have i1 : (i : Int) < ds.length := by omega
              clear hv hd R he
              go_wp2_with (first
                | (at_builtin; refine wpList_append_three _ rfl (.tmp 151) (.tmp 156) 22 rfl w2.heap.size 25 j0 (.slice none 0 0) 1 24 Try.underlying22 ki.out kz0.out kz1.out kz2.out rfl (by decide) u18 (ds.length - (i + 1)) _ rfl (O.out.alloc _) ⟨wr.heap.size, 0, none⟩ 1 1 [.slice eo d.bs.length ec] rfl rfl (new_cell _ _ _) (by simp [Value.oneCell']) (by unfold maxLen; omega) (by omega) (by have := D2.out.size; simp; omega) ?_; intro v5 wn ol gr nb; have D3 : Hid (Chg [] w2 wn) := (D2.out.alloc _).grown gr.out (fun b hb => .inr (O.out.lt b hb).1); have O2 := Lib.hid ol.out; clear ol gr nb))
              refine ⟨⟨i, _, by omega, rfl, by go_num, ?_, D3⟩, by simp [intOf]⟩
              show World.ownsRow _ _ _ _ _ _ _
              have o2 := O2.out
              rw [← HV.out] at o2
              rw [drop_rev HD.out, List.map_append, List.map_singleton, show ds.length - i = ds.length - (i + 1) + 1 by omega]
              exact o2
            · obtain rfl : j2 = 0 := by omega
              obtain rfl : z = -1 := by omega
              have ck2 : wr.cell? ⟨b, o + k, none⟩ = some (.slice ko dk.bs.length kc) := by
                obtain ⟨b', o', he, _, R⟩ := (HR.out.chg (D.out.trans D2.out)).at HDK.out
                obtain ⟨rfl, rfl⟩ : b = b' ∧ o = o' := by simpa using he
                rw [← HKV.out]
                exact R.c0
              clear hz hj0
              go_wp2_with fail
              have lb := World.block_lt_of_cell? wr _ ck2
              have CK : Hid (∀ w', Chg [] w2 w' → w'.cell? ⟨b, o + k, none⟩ = some (.slice ko dk.bs.length kc)) := fun w' D' => by
                obtain ⟨b', o', he, _, R⟩ := (HR.out.chg (D.out.trans D')).at HDK.out
                obtain ⟨rfl, rfl⟩ : b = b' ∧ o = o' := by simpa using he
                rw [← HKV.out]
                exact R.c0
              have D4 : Hid (∀ ob, Chg [] w2 ((wr.alloc ob).drew)) := fun ob => (D2.out.alloc _).drew
              have O4 : Hid (∀ ob, ((wr.alloc ob).drew).ownsRow w2.heap.size 25 1 u18 ds.length ((ds.reverse).map (·.v))) := fun ob => owns_chg O.out ((Chg.refl [] wr).alloc _).drew (by simp)
              have Z4 : Hid (w2.heap.size ≤ wr.heap.size) := D2.out.size
              clear O D2
              go_region_held3 (fun w' : World => w'.cell? ⟨b, o + k, none⟩ = some (.slice ko dk.bs.length kc))
                (first | go_keep | exact CK.out _ D5.out)
                ((refine step_append_lies _ (by rfl) _ _ _ (by rfl) w2.heap.size 25 j0 _ 1 24 Try.underlying22 ki.out kz0.out kz1.out kz2.out rfl (by decide) u18 ds.length _ (by rfl) (O4.out _) ⟨wr.heap.size, 0, none⟩ 2 2 [.slice ko dk.bs.length kc, .slice ko dk.bs.length kc] (by rfl) (by rfl) (new_cells wr [.slice ko dk.bs.length kc, .slice ko dk.bs.length kc] _) (by simp [Value.oneCell']) (by decide) (by unfold maxLen; omega) (by omega) (by have := Z4.out; simp; omega) _ rfl ?_; intro g5 cap5 w9 own9 grow9 hat hlt; have D5 : Hid (Chg [] w2 w9) := (D4.out _).grown grow9 (fun x hx => .inr ((O4.out (.cells #[] 0)).lt x hx).1); have O5 := Lib.hid own9; clear own9 grow9 hat hlt))
              have RW : Rws w9 (.slice (some ⟨g5, 0, none⟩) (ds.length + 2) cap5) (ds.reverse ++ [dk, dk]) := by
                have o5 := O5.out
                rw [← HKV.out] at o5
                refine rws_owned (base := w2.heap.size) (by rw [List.map_append, show (ds.reverse ++ [dk, dk]).length = ds.length + 2 by simp]; exact o5) (fun d hd => ?_) (by simp; omega)
                have hd2 : d ∈ ds := by
                  rcases List.mem_append.1 hd with hd | hd
                  · exact List.mem_reverse.1 hd
                  · have : d = dk := by simpa using hd
                    rw [this]; exact HDM.out
                have := (HOK.out d hd2).chg (D.out.trans D5.out)
                exact ⟨this.1, this.2.1, by have := this.2.2; omega⟩
              have s2 := of_any _ _ w9 RW (by simp; omega) (fun d hd => by
                rcases List.mem_append.1 hd with hd | hd
                · exact (HOK.out d (List.mem_reverse.1 hd)).2.2
                · have : d = dk := by simpa using hd
                  rw [this]; exact (HOK.out dk HDM.out).2.2)
              rw [HT1.out, HT2.out] at s2
              clear RW O5 O4 D4 CK
              go_wp2_with fail
              refine s2.mono ?_
              clear s2
              rintro e w10 ⟨a2, rfl, O, C⟩
              obtain ⟨q1, q2, ha2⟩ : ∃ q1 q2, a2 = .slice q1 N q2 := by
                have o := O.out
                rw [HPL.out] at o
                exact owns_slice o
              subst ha2
              have S1 : Hid (Sl w10 (.slice q1 N q2) (ints P)) := Sl.owned O.out
              have S0 : Hid (Sl w10 (.slice p1 N p2) (ints P)) := PO.out.1.chgNil (D5.out.trans C.out)
              have D6 : Hid (Chg [] w w10) := D.out.trans (D5.out.trans C.out)
              have hxi : (ints P).length ≤ 140737488355328 := by rw [ints_length, HPL.out]; omega
              clear O C D5
              go_wp2_with fail
              refine (same_true _ _ (ints P) w10 S0.out S1.out hxi).mono ?_
              rintro e w11 ⟨rfl, q, hw⟩
              have C : Hid (Chg [] w10 w11) := by rw [hw]; exact (Chg.refl [] _).drewN _
              clear hw
              go_wp2_with fail
              go_ret
              exact ⟨rfl, D6.out.trans C.out⟩
      · have hyb : ((ys.length : Int) == (N : Int)) = false := beq_false_of_ne (by omega)
        have DT : Hid (Chg [] w2 wr) := L2.out.chg
        clear L2 hyl ck
        by_cases hneg : r < 0
        · rw [if_pos hneg] at hk
          go_wp2_with fail
          go_loopw [18, 19] (fun t i wx => ∃ (j : Nat) (z : Int), j ≤ ds.length ∧ z = (j : Int) - 1 ∧ i = .int .i64 z ∧ Hid (wx.ownsRow w2.heap.size 25 1 t (ds.length - j) (((ds.drop j).reverse).map (·.v))) ∧ Hid (Chg [] w2 wx)) (fun _ i _ => (intOf i + 1).toNat)
          case atStart => exact ⟨ds.length, _, Nat.le_refl _, rfl, by go_num, (show World.ownsRow _ _ _ _ _ _ _ from by simp; exact World.ownsRow_nil _ _ _ _), DT⟩
          case round =>
            obtain ⟨j2, z, hj2, hz, rfl, O, D2⟩ := hrel
            clear DT
            by_cases hj0 : 0 < j2
            · obtain ⟨i, rfl⟩ : ∃ i, j2 = i + 1 := ⟨j2 - 1, by omega⟩
              obtain rfl : z = (i : Int) := by omega
              clear hz
              obtain ⟨d, hd⟩ : ∃ d, ds[i]? = some d := ⟨_, List.getElem?_eq_getElem (by omega)⟩
              obtain ⟨b', o', he, hbl, R⟩ := (HR.out.chg (D.out.trans D2.out)).at hd
              obtain ⟨rfl, rfl⟩ : b = b' ∧ o = o' := by simpa using he
              obtain ⟨eo, ec, hv⟩ := R.sl.slice
              have c0 := R.c0
              rw [hv] at c0
              have HV := Lib.hid hv
              have HD := Lib.hid hd
              have i0 : (0 : Int) ≤ i := Int.natCast_nonneg _
              have i1 : (i : Int) < ds.length := by omega
              clear hv hd R he
              go_wp2_with (first
                | (at_builtin; refine wpList_append_three _ rfl (.tmp 151) (.tmp 156) 22 rfl w2.heap.size 25 j0 (.slice none 0 0) 1 24 Try.underlying22 ki.out kz0.out kz1.out kz2.out rfl (by decide) u18 (ds.length - (i + 1)) _ rfl (O.out.alloc _) ⟨wr.heap.size, 0, none⟩ 1 1 [.slice eo d.bs.length ec] rfl rfl (new_cell _ _ _) (by simp [Value.oneCell']) (by unfold maxLen; omega) (by omega) (by have := D2.out.size; simp; omega) ?_; intro v5 wn ol gr nb; have D3 : Hid (Chg [] w2 wn) := (D2.out.alloc _).grown gr.out (fun b hb => .inr (O.out.lt b hb).1); have O2 := Lib.hid ol.out; clear ol gr nb))
              refine ⟨⟨i, _, by omega, rfl, by go_num, ?_, D3⟩, by simp [intOf]⟩
              show World.ownsRow _ _ _ _ _ _ _
              have o2 := O2.out
              rw [← HV.out] at o2
              rw [drop_rev HD.out, List.map_append, List.map_singleton, show ds.length - i = ds.length - (i + 1) + 1 by omega]
              exact o2
            · obtain rfl : j2 = 0 := by omega
              obtain rfl : z = -1 := by omega
              have ck2 : wr.cell? ⟨b, o + k, none⟩ = some (.slice ko dk.bs.length kc) := by
                obtain ⟨b', o', he, _, R⟩ := (HR.out.chg (D.out.trans D2.out)).at HDK.out
                obtain ⟨rfl, rfl⟩ : b = b' ∧ o = o' := by simpa using he
                rw [← HKV.out]
                exact R.c0
              clear hz hj0
              go_wp2_with fail
              have lb := World.block_lt_of_cell? wr _ ck2
              have CK : Hid (∀ w', Chg [] w2 w' → w'.cell? ⟨b, o + k, none⟩ = some (.slice ko dk.bs.length kc)) := fun w' D' => by
                obtain ⟨b', o', he, _, R⟩ := (HR.out.chg (D.out.trans D')).at HDK.out
                obtain ⟨rfl, rfl⟩ : b = b' ∧ o = o' := by simpa using he
                rw [← HKV.out]
                exact R.c0
              have D4 : Hid (∀ ob, Chg [] w2 ((wr.alloc ob).drew)) := fun ob => (D2.out.alloc _).drew
              have O4 : Hid (∀ ob, ((wr.alloc ob).drew).ownsRow w2.heap.size 25 1 u18 ds.length ((ds.reverse).map (·.v))) := fun ob => owns_chg O.out ((Chg.refl [] wr).alloc _).drew (by simp)
              have Z4 : Hid (w2.heap.size ≤ wr.heap.size) := D2.out.size
              clear O D2
              go_region_held3 (fun w' : World => w'.cell? ⟨b, o + k, none⟩ = some (.slice ko dk.bs.length kc))
                (first | go_keep | exact CK.out _ D5.out)
                ((refine step_append_lies _ (by rfl) _ _ _ (by rfl) w2.heap.size 25 j0 _ 1 24 Try.underlying22 ki.out kz0.out kz1.out kz2.out rfl (by decide) u18 ds.length _ (by rfl) (O4.out _) ⟨wr.heap.size, 0, none⟩ 2 2 [.slice ko dk.bs.length kc, .slice ko dk.bs.length kc] (by rfl) (by rfl) (new_cells wr [.slice ko dk.bs.length kc, .slice ko dk.bs.length kc] _) (by simp [Value.oneCell']) (by decide) (by unfold maxLen; omega) (by omega) (by have := Z4.out; simp; omega) _ rfl ?_; intro g5 cap5 w9 own9 grow9 hat hlt; have D5 : Hid (Chg [] w2 w9) := (D4.out _).grown grow9 (fun x hx => .inr ((O4.out (.cells #[] 0)).lt x hx).1); have O5 := Lib.hid own9; clear own9 grow9 hat hlt))
              have RW : Rws w9 (.slice (some ⟨g5, 0, none⟩) (ds.length + 2) cap5) (ds.reverse ++ [dk, dk]) := by
                have o5 := O5.out
                rw [← HKV.out] at o5
                refine rws_owned (base := w2.heap.size) (by rw [List.map_append, show (ds.reverse ++ [dk, dk]).length = ds.length + 2 by simp]; exact o5) (fun d hd => ?_) (by simp; omega)
                have hd2 : d ∈ ds := by
                  rcases List.mem_append.1 hd with hd | hd
                  · exact List.mem_reverse.1 hd
                  · have : d = dk := by simpa using hd
                    rw [this]; exact HDM.out
                have := (HOK.out d hd2).chg (D.out.trans D5.out)
                exact ⟨this.1, this.2.1, by have := this.2.2; omega⟩
              have s2 := of_any _ _ w9 RW (by simp; omega) (fun d hd => by
                rcases List.mem_append.1 hd with hd | hd
                · exact (HOK.out d (List.mem_reverse.1 hd)).2.2
                · have : d = dk := by simpa using hd
                  rw [this]; exact (HOK.out dk HDM.out).2.2)
              rw [HT1.out, HT2.out] at s2
              clear RW O5 O4 D4 CK
              go_wp2_with fail
              refine s2.mono ?_
              clear s2
              rintro e w10 ⟨a2, rfl, O, C⟩
              obtain ⟨q1, q2, ha2⟩ : ∃ q1 q2, a2 = .slice q1 N q2 := by
                have o := O.out
                rw [HPL.out] at o
                exact owns_slice o
              subst ha2
              have S1 : Hid (Sl w10 (.slice q1 N q2) (ints P)) := Sl.owned O.out
              have S0 : Hid (Sl w10 (.slice p1 N p2) (ints P)) := PO.out.1.chgNil (D5.out.trans C.out)
              have D6 : Hid (Chg [] w w10) := D.out.trans (D5.out.trans C.out)
              have hxi : (ints P).length ≤ 140737488355328 := by rw [ints_length, HPL.out]; omega
              clear O C D5
              go_wp2_with fail
              refine (same_true _ _ (ints P) w10 S0.out S1.out hxi).mono ?_
              rintro e w11 ⟨rfl, q, hw⟩
              have C : Hid (Chg [] w10 w11) := by rw [hw]; exact (Chg.refl [] _).drewN _
              clear hw
              go_wp2_with fail
              go_ret
              exact ⟨rfl, D6.out.trans C.out⟩
        · rw [if_neg hneg] at hk
          subst hk
          go_wp2_with fail
          go_loopw [18, 19] (fun t i wx => ∃ (j : Nat) (z : Int), j ≤ ds.length ∧ z = (j : Int) - 1 ∧ i = .int .i64 z ∧ Hid (wx.ownsRow w2.heap.size 25 1 t (ds.length - j) (((ds.drop j).reverse).map (·.v))) ∧ Hid (Chg [] w2 wx)) (fun _ i _ => (intOf i + 1).toNat)
          case atStart => exact ⟨ds.length, _, Nat.le_refl _, rfl, by go_num, (show World.ownsRow _ _ _ _ _ _ _ from by simp; exact World.ownsRow_nil _ _ _ _), DT⟩
          case round =>
            obtain ⟨j2, z, hj2, hz, rfl, O, D2⟩ := hrel
            clear DT
            by_cases hj0 : 0 < j2
            · obtain ⟨i, rfl⟩ : ∃ i, j2 = i + 1 := ⟨j2 - 1, by omega⟩
              obtain rfl : z = (i : Int) := by omega
              clear hz
              obtain ⟨d, hd⟩ : ∃ d, ds[i]? = some d := ⟨_, List.getElem?_eq_getElem (by omega)⟩
              obtain ⟨b', o', he, hbl, R⟩ := (HR.out.chg (D.out.trans D2.out)).at hd
              obtain ⟨rfl, rfl⟩ : b = b' ∧ o = o' := by simpa using he
              obtain ⟨eo, ec, hv⟩ := R.sl.slice
              have c0 := R.c0
              rw [hv] at c0
              have HV := Lib.hid hv
              have HD := Lib.hid hd
              have i0 : (0 : Int) ≤ i := Int.natCast_nonneg _
              have i1 : (i : Int) < ds.length := by omega
              clear hv hd R he
              go_wp2_with (first
                | (at_builtin; refine wpList_append_three _ rfl (.tmp 151) (.tmp 156) 22 rfl w2.heap.size 25 j0 (.slice none 0 0) 1 24 Try.underlying22 ki.out kz0.out kz1.out kz2.out rfl (by decide) u18 (ds.length - (i + 1)) _ rfl (O.out.alloc _) ⟨wr.heap.size, 0, none⟩ 1 1 [.slice eo d.bs.length ec] rfl rfl (new_cell _ _ _) (by simp [Value.oneCell']) (by unfold maxLen; omega) (by omega) (by have := D2.out.size; simp; omega) ?_; intro v5 wn ol gr nb; have D3 : Hid (Chg [] w2 wn) := (D2.out.alloc _).grown gr.out (fun b hb => .inr (O.out.lt b hb).1); have O2 := Lib.hid ol.out; clear ol gr nb))
              refine ⟨⟨i, _, by omega, rfl, by go_num, ?_, D3⟩, by simp [intOf]⟩
              show World.ownsRow _ _ _ _ _ _ _
              have o2 := O2.out
              rw [← HV.out] at o2
              rw [drop_rev HD.out, List.map_append, List.map_singleton, show ds.length - i = ds.length - (i + 1) + 1 by omega]
              exact o2
            · obtain rfl : j2 = 0 := by omega
              obtain rfl : z = -1 := by omega
              have ck2 : wr.cell? ⟨b, o + k, none⟩ = some (.slice ko dk.bs.length kc) := by
                obtain ⟨b', o', he, _, R⟩ := (HR.out.chg (D.out.trans D2.out)).at HDK.out
                obtain ⟨rfl, rfl⟩ : b = b' ∧ o = o' := by simpa using he
                rw [← HKV.out]
                exact R.c0
              clear hz hj0
              go_wp2_with fail
              have lb := World.block_lt_of_cell? wr _ ck2
              have CK : Hid (∀ w', Chg [] w2 w' → w'.cell? ⟨b, o + k, none⟩ = some (.slice ko dk.bs.length kc)) := fun w' D' => by
                obtain ⟨b', o', he, _, R⟩ := (HR.out.chg (D.out.trans D')).at HDK.out
                obtain ⟨rfl, rfl⟩ : b = b' ∧ o = o' := by simpa using he
                rw [← HKV.out]
                exact R.c0
              have D4 : Hid (∀ ob, Chg [] w2 ((wr.alloc ob).drew)) := fun ob => (D2.out.alloc _).drew
              have O4 : Hid (∀ ob, ((wr.alloc ob).drew).ownsRow w2.heap.size 25 1 u18 ds.length ((ds.reverse).map (·.v))) := fun ob => owns_chg O.out ((Chg.refl [] wr).alloc _).drew (by simp)
              have Z4 : Hid (w2.heap.size ≤ wr.heap.size) := D2.out.size
              clear O D2
              go_region_held3 (fun w' : World => w'.cell? ⟨b, o + k, none⟩ = some (.slice ko dk.bs.length kc))
                (first | go_keep | exact CK.out _ D5.out)
                ((refine step_append_lies _ (by rfl) _ _ _ (by rfl) w2.heap.size 25 j0 _ 1 24 Try.underlying22 ki.out kz0.out kz1.out kz2.out rfl (by decide) u18 ds.length _ (by rfl) (O4.out _) ⟨wr.heap.size, 0, none⟩ 2 2 [.slice ko dk.bs.length kc, .slice ko dk.bs.length kc] (by rfl) (by rfl) (new_cells wr [.slice ko dk.bs.length kc, .slice ko dk.bs.length kc] _) (by simp [Value.oneCell']) (by decide) (by unfold maxLen; omega) (by omega) (by have := Z4.out; simp; omega) _ rfl ?_; intro g5 cap5 w9 own9 grow9 hat hlt; have D5 : Hid (Chg [] w2 w9) := (D4.out _).grown grow9 (fun x hx => .inr ((O4.out (.cells #[] 0)).lt x hx).1); have O5 := Lib.hid own9; clear own9 grow9 hat hlt))
              have RW : Rws w9 (.slice (some ⟨g5, 0, none⟩) (ds.length + 2) cap5) (ds.reverse ++ [dk, dk]) := by
                have o5 := O5.out
                rw [← HKV.out] at o5
                refine rws_owned (base := w2.heap.size) (by rw [List.map_append, show (ds.reverse ++ [dk, dk]).length = ds.length + 2 by simp]; exact o5) (fun d hd => ?_) (by simp; omega)
                have hd2 : d ∈ ds := by
                  rcases List.mem_append.1 hd with hd | hd
                  · exact List.mem_reverse.1 hd
                  · have : d = dk := by simpa using hd
                    rw [this]; exact HDM.out
                have := (HOK.out d hd2).chg (D.out.trans D5.out)
                exact ⟨this.1, this.2.1, by have := this.2.2; omega⟩
              have s2 := of_any _ _ w9 RW (by simp; omega) (fun d hd => by
                rcases List.mem_append.1 hd with hd | hd
                · exact (HOK.out d (List.mem_reverse.1 hd)).2.2
                · have : d = dk := by simpa using hd
                  rw [this]; exact (HOK.out dk HDM.out).2.2)
              rw [HT1.out, HT2.out] at s2
              clear RW O5 O4 D4 CK
              go_wp2_with fail
              refine s2.mono ?_
              clear s2
              rintro e w10 ⟨a2, rfl, O, C⟩
              obtain ⟨q1, q2, ha2⟩ : ∃ q1 q2, a2 = .slice q1 N q2 := by
                have o := O.out
                rw [HPL.out] at o
                exact owns_slice o
              subst ha2
              have S1 : Hid (Sl w10 (.slice q1 N q2) (ints P)) := Sl.owned O.out
              have S0 : Hid (Sl w10 (.slice p1 N p2) (ints P)) := PO.out.1.chgNil (D5.out.trans C.out)
              have D6 : Hid (Chg [] w w10) := D.out.trans (D5.out.trans C.out)
              have hxi : (ints P).length ≤ 140737488355328 := by rw [ints_length, HPL.out]; omega
              clear O C D5
              go_wp2_with fail
              refine (same_true _ _ (ints P) w10 S0.out S1.out hxi).mono ?_
              rintro e w11 ⟨rfl, q, hw⟩
              have C : Hid (Chg [] w10 w11) := by rw [hw]; exact (Chg.refl [] _).drewN _
              clear hw
              go_wp2_with fail
              go_ret
              exact ⟨rfl, D6.out.trans C.out⟩

theorem solves_walk (v u : Value) (which : Int) (ys : List Int) (ds : List RowD) (w : World) (h : Rws w v ds) (hu : Sl w u ys) (hby : By ys) :
    Calls Try.prog 8 #[v, .int .i64 which, u] w fun e w' => e = .returned (.bool true) ∧ Chg [] w w' := by
  by_cases hc : muchB ds = true ∨ 100 < ds.length
  · exact solves_early v u which ds w h hc
  · have hmb : muchB ds = false := by
      cases hm : muchB ds with
      | true => exact absurd (.inl hm) hc
      | false => rfl
    have hl : ds.length ≤ 100 := by
      by_cases h1 : 100 < ds.length
      · exact absurd (.inr h1) hc
      · omega
    by_cases hE : ofErr (rowsN ds) = 0
    · obtain ⟨hne, N, hN⟩ := err_zero hE
      have h0 : ds.length ≠ 0 := fun e => hne (rowsN_nil.2 e)
      rcases h with ⟨rfl, _⟩ | ⟨b, o, c, rfl, hb, hle, hcl⟩
      · exact absurd rfl h0
      · obtain ⟨uo, uc, rfl⟩ := hu.slice
        have hlo := Int.lt_tmod_of_pos which (show (0 : Int) < (ds.length : Int) by omega)
        have hhi := Int.tmod_lt_of_pos which (show (0 : Int) < (ds.length : Int) by omega)
        obtain ⟨r, hr⟩ : ∃ r, Int.tmod which (ds.length : Int) = r := ⟨_, rfl⟩
        rw [hr] at hlo hhi
        obtain ⟨k, hk⟩ := Int.eq_ofNat_of_zero_le (show 0 ≤ (if r < 0 then r + (ds.length : Int) else r) by split <;> omega)
        have hkl : k < ds.length := by split at hk <;> omega
        exact solves_main b o c k N uc uo r which ys ds w (.inr ⟨b, o, c, rfl, hb, hle, hcl⟩) hmb hl h0 (fun d hd => by
          have := hN (nats d.bs) (List.mem_map.2 ⟨d, hd, rfl⟩)
          rw [nats_length] at this
          exact this) hu hby hr hk hkl
    · exact solves_refused v u which ds w h hmb hl hE

end Go.Proofs.Ytaciamnfkidmfaa
