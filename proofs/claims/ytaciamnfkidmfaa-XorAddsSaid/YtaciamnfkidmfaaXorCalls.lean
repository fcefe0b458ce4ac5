/-
  What the program answers: Of, Even, Patch, Missing, First. By an AI agent.
-/
import Derived.Test.YtaciamnfkidmfaaXorAsk
import Derived.Laws.EntriesVeiled
namespace Go.Proofs.Ytaciamnfkidmfaa
open Go.RowKit

theorem info_table : (Try.prog.info? 79).map (·.size) = some 3 := by kernel_rfl

/-- The table of queries. -/
def tableV : Value := .agg #[.func (.func 36) #[] #[], .func (.func 37) #[] #[], .func (.func 38) #[] #[]]

theorem table_field0 : ∀ w : World, (Instr.field 79 (.agg #[.func (.func 36) #[] #[], .func (.func 37) #[] #[], .func (.func 38) #[] #[]]) 0).run Try.prog w = .ok (.func (.func 36) #[] #[]) w := fun _ => by kernel_rfl
theorem table_field1 : ∀ w : World, (Instr.field 79 (.agg #[.func (.func 36) #[] #[], .func (.func 37) #[] #[], .func (.func 38) #[] #[]]) 1).run Try.prog w = .ok (.func (.func 37) #[] #[]) w := fun _ => by kernel_rfl
theorem table_field2 : ∀ w : World, (Instr.field 79 (.agg #[.func (.func 36) #[] #[], .func (.func 37) #[] #[], .func (.func 38) #[] #[]]) 2).run Try.prog w = .ok (.func (.func 38) #[] #[]) w := fun _ => by kernel_rfl

set_option maxHeartbeats 1000000 in
set_option maxRecDepth 100000 in
theorem queries_any (w : World) :
    Calls Try.prog 42 #[] w fun e w' => e = .returned tableV ∧ Hid (Chg [] w w') := by
  go_enter Try.func42, Try.ntmps42
  go_wp2_with fail
  refine bodyPost_ret (results_cell_row rfl _ _ w.heap.size _ _ _ _ rfl (Blk.made w [.func (.func 36) #[] #[], .func (.func 37) #[] #[], .func (.func 38) #[] #[]] _) Try.underlying79 rfl info_table) rfl ?_
  exact ⟨rfl, (Chg.refl _ w).alloc _⟩

theorem rowsN_nil2 {ds : List RowD} : rowsN ds = [] ↔ ds = [] := by simp [rowsN]

theorem ors_noughts (N : Nat) (rs : List (List Nat)) : Xr.ors N (Xr.noughts N :: rs) = Xr.ors N rs := by
  refine Xr.list_ext (Xr.ors_length _ _) (Xr.ors_length _ _) fun k hk => ?_
  rw [Xr.ors_get _ hk, Xr.ors_get _ hk]
  show Xr.fold ((Xr.noughts N).getD k 0 :: Xr.at_ rs k) = _
  rw [Xr.fold, show (Xr.noughts N).getD k 0 = 0 by simp [Xr.noughts, List.getD, hk], Nat.zero_xor]

theorem head_small {ps : List (Value × List RowD)} {w : World} {v : Value} (h : Lls w v ps) : ((rowsN (flat2 ps)).headD []).length ≤ 1000000 := by
  cases hf : flat2 ps with
  | nil => exact Nat.zero_le _
  | cons d r =>
    have hd : d ∈ flat2 ps := by rw [hf]; exact List.mem_cons_self
    obtain ⟨p, hp, hd2⟩ := List.mem_flatMap.1 hd
    have := h.small p hp d hd2
    show (nats d.bs).length ≤ _
    rw [nats_length]
    exact this

set_option maxHeartbeats 4000000 in
set_option maxRecDepth 100000 in
theorem askV_any (v : Value) (ps : List (Value × List RowD)) (w : World) (h : Lls w v ps) (hn : (flat2 ps).length ≤ 1000000) :
    Calls Try.prog 41 #[.func (.func 36) #[] #[], v] w (Gives w (ofVal (rowsN (flat2 ps))) (ofErr (rowsN (flat2 ps)))) := by
  obtain ⟨b, c, rfl, hb, -⟩ := h.head
  have hsm := head_small h
  have hfl := firstLength_any _ ps w h
  have H := Lib.hid h
  have HN := Lib.hid hn
  have E0 : Hid (flat2 ps = [] → ofErr (rowsN (flat2 ps)) = 1) := fun h => by rw [h]; rfl
  have E1 : Hid (flat2 ps ≠ [] → Xr.Len ((rowsN (flat2 ps)).headD []).length (rowsN (flat2 ps)) → ofErr (rowsN (flat2 ps)) = 0 ∧ ofVal (rowsN (flat2 ps)) = Xr.ors ((rowsN (flat2 ps)).headD []).length (rowsN (flat2 ps))) := fun h h2 => ⟨ofErr_ok (fun e => h (rowsN_nil2.1 e)) h2, ofVal_ok (fun e => h (rowsN_nil2.1 e)) h2⟩
  have E2 : Hid (¬ Xr.Len ((rowsN (flat2 ps)).headD []).length (rowsN (flat2 ps)) → ofErr (rowsN (flat2 ps)) = 4) := fun h => by
    unfold ofErr
    rw [if_neg (fun e => h (by rw [e]; intro r hr; cases hr)), if_neg (fun e => h (sameLen_iff.1 e))]
  have EV : Hid (ofErr (rowsN (flat2 ps)) ≠ 0 → ofVal (rowsN (flat2 ps)) = []) := fun h => ofVal_bad h
  generalize hN0 : ((rowsN (flat2 ps)).headD []).length = N0 at *
  clear hN0 h hn
  generalize ofErr (rowsN (flat2 ps)) = er at *
  generalize ofVal (rowsN (flat2 ps)) = vl at *
  have hfd := table_field1
  go_enter Try.func41, Try.ntmps41
  go_wp2_with fail
  refine hfl.mono ?_
  clear hfl
  rintro e w1 ⟨rfl, q, hw1⟩
  have C1 : Hid (Chg [] w w1) := by rw [hw1]; exact (Chg.refl _ w).drewN q
  have hz1 : w1.heap.size = w.heap.size := by rw [hw1]; rfl
  clear hw1
  go_wp2_with fail
  refine (noughts_any N0 w1 hsm).mono ?_
  rintro e w2 ⟨g, S, rfl, SI, C2⟩
  have L1 := Lib.hid (H.out.chg C1.out)
  have hea := each_any g S (Xr.noughts N0) 0 _ ps w1 w2 L1.out C2.out SI.out (by simp [Xr.noughts]; omega) (by have := HN.out; omega)
  have HEA := Lib.hid hea
  have C02 := Lib.hid (C1.out.trans C2.out)
  have HGE : Hid (∀ k ∈ S, w.heap.size ≤ k) := fun k hk => by
    have := (SI.out.lt k hk).1
    omega
  clear hea SI C1 C2 hz1
  go_wp2_with fail
  refine HEA.out.mono ?_
  clear HEA
  have hbl : (Xr.noughts N0).length = N0 := by simp [Xr.noughts]
  rintro e w3 (⟨hL, rfl, SI, C3⟩ | ⟨hL, rfl, C3⟩)
  · rw [hbl] at hL SI
    rw [ors_noughts, Nat.zero_add] at SI
    have C03 : Hid (Chg [] w w3) := C02.out.fresh C3.out (fun k hk => .inr (HGE.out k hk))
    clear C3 C02
    have hB : w1.heap.size ≤ w3.heap.size := by
      have := (SI.out.lt g (by obtain ⟨u, _, _, _, h4⟩ := SI.out.here; rw [h4]; simp))
      omega
    go_wp2_with fail
    refine (queries_any w3).mono ?_
    rintro e w4 ⟨rfl, C4⟩
    unfold tableV
    have SI4 := Lib.hid (SI.out.chg C4.out (by simp))
    have C04 := Lib.hid (C03.out.trans C4.out)
    clear SI C4 C03
    go_wp2_with fail
    refine (count_any _ g S _ _ w4 SI4.out).mono ?_
    rintro e w5 ⟨rfl, q2, hw5⟩
    have C5 : Hid (Chg [] w4 w5) := by rw [hw5]; exact (Chg.refl _ _).drewN q2
    have SI5 := Lib.hid (SI4.out.chg C5.out (by simp))
    have C05 := Lib.hid (C04.out.trans C5.out)
    clear hw5 SI4 C5 C04
    by_cases hf : flat2 ps = []
    · have he := E0.out hf
      have hv := EV.out (by omega)
      subst he hv
      rw [hf]
      rw [show (([] : List RowD).length : Int) = 0 from rfl]
      clear SI5 E0 E1 E2 EV hL
      go_wp2_with fail
      go_ret2
      exact ⟨_, rfl, World.ownsRow_nil _ _ _ _, C05⟩
    · obtain ⟨rfl, rfl⟩ := E1.out hf hL
      have hne : (((flat2 ps).length : Int) == 0) = false := beq_false_of_ne (by
        have := List.length_pos_iff.2 hf
        omega)
      have hV := value_any _ g S _ _ w5 SI5.out (by rw [Xr.ors_length]; exact hsm)
      replace hV := Lib.hid hV
      have HP : Hid ((flat2 ps).length ≤ 1000000) := HN
      generalize (flat2 ps).length = M at *
      clear E0 E1 E2 EV hL SI5 hf HN
      go_wp2_with fail
      refine hV.out.mono ?_
      rintro e w6 ⟨u, rfl, O, C6⟩
      have O2 : Hid (w6.ownsRow w.heap.size 5 1 u (Xr.ors N0 (rowsN (flat2 ps))).length ((ints (Xr.ors N0 (rowsN (flat2 ps)))).map (Value.int .u8))) := ownsRow_base O.out (C05.out.size)
      have C06 := Lib.hid (C05.out.trans C6.out)
      clear O C6
      go_wp2_with fail
      go_ret2
      exact ⟨_, rfl, O2, C06⟩
  · rw [hbl] at hL
    have he := E2.out hL
    have hv := EV.out (by omega)
    subst he hv
    have C03 : Hid (Chg [] w w3) := C02.out.fresh C3.out (fun k hk => .inr (HGE.out k hk))
    clear C3 C02 E0 E1 E2 EV hL
    go_wp2_with fail
    go_ret2
    exact ⟨_, rfl, World.ownsRow_nil _ _ _ _, C03⟩

set_option maxHeartbeats 4000000 in
set_option maxRecDepth 100000 in
theorem askB_any (v : Value) (ps : List (Value × List RowD)) (w : World) (h : Lls w v ps) (hn : (flat2 ps).length ≤ 1000000) :
    Calls Try.prog 43 #[.func (.func 38) #[] #[], v] w fun e w' => e = .returned (.tuple #[.bool (evenVal (rowsN (flat2 ps))), .int .u16 ((ofErr (rowsN (flat2 ps)) : Nat) : Int)]) ∧ Hid (Chg [] w w') := by
  obtain ⟨b, c, rfl, hb, -⟩ := h.head
  have hsm := head_small h
  have hfl := firstLength_any _ ps w h
  have H := Lib.hid h
  have HN := Lib.hid hn
  have E0 : Hid (flat2 ps = [] → ofErr (rowsN (flat2 ps)) = 1) := fun h => by rw [h]; rfl
  have E1 : Hid (flat2 ps ≠ [] → Xr.Len ((rowsN (flat2 ps)).headD []).length (rowsN (flat2 ps)) → ofErr (rowsN (flat2 ps)) = 0 ∧ ofVal (rowsN (flat2 ps)) = Xr.ors ((rowsN (flat2 ps)).headD []).length (rowsN (flat2 ps))) := fun h h2 => ⟨ofErr_ok (fun e => h (rowsN_nil2.1 e)) h2, ofVal_ok (fun e => h (rowsN_nil2.1 e)) h2⟩
  have E2 : Hid (¬ Xr.Len ((rowsN (flat2 ps)).headD []).length (rowsN (flat2 ps)) → ofErr (rowsN (flat2 ps)) = 4) := fun h => by
    unfold ofErr
    rw [if_neg (fun e => h (by rw [e]; intro r hr; cases hr)), if_neg (fun e => h (sameLen_iff.1 e))]
  have EV : Hid (ofErr (rowsN (flat2 ps)) ≠ 0 → ofVal (rowsN (flat2 ps)) = []) := fun h => ofVal_bad h
  generalize hN0 : ((rowsN (flat2 ps)).headD []).length = N0 at *
  clear hN0 h hn
  have EE : Hid (evenVal (rowsN (flat2 ps)) = (ofErr (rowsN (flat2 ps)) == 0 && (ofVal (rowsN (flat2 ps))).all (· == 0))) := rfl
  generalize evenVal (rowsN (flat2 ps)) = ev at *
  generalize ofErr (rowsN (flat2 ps)) = er at *
  generalize ofVal (rowsN (flat2 ps)) = vl at *
  have hfd := table_field1
  go_enter Try.func43, Try.ntmps43
  go_wp2_with fail
  refine hfl.mono ?_
  clear hfl
  rintro e w1 ⟨rfl, q, hw1⟩
  have C1 : Hid (Chg [] w w1) := by rw [hw1]; exact (Chg.refl _ w).drewN q
  have hz1 : w1.heap.size = w.heap.size := by rw [hw1]; rfl
  clear hw1
  go_wp2_with fail
  refine (noughts_any N0 w1 hsm).mono ?_
  rintro e w2 ⟨g, S, rfl, SI, C2⟩
  have L1 := Lib.hid (H.out.chg C1.out)
  have hea := each_any g S (Xr.noughts N0) 0 _ ps w1 w2 L1.out C2.out SI.out (by simp [Xr.noughts]; omega) (by have := HN.out; omega)
  have HEA := Lib.hid hea
  have C02 := Lib.hid (C1.out.trans C2.out)
  have HGE : Hid (∀ k ∈ S, w.heap.size ≤ k) := fun k hk => by
    have := (SI.out.lt k hk).1
    omega
  clear hea SI C1 C2 hz1
  go_wp2_with fail
  refine HEA.out.mono ?_
  clear HEA
  have hbl : (Xr.noughts N0).length = N0 := by simp [Xr.noughts]
  rintro e w3 (⟨hL, rfl, SI, C3⟩ | ⟨hL, rfl, C3⟩)
  · rw [hbl] at hL SI
    rw [ors_noughts, Nat.zero_add] at SI
    have C03 : Hid (Chg [] w w3) := C02.out.fresh C3.out (fun k hk => .inr (HGE.out k hk))
    clear C3 C02
    have hB : w1.heap.size ≤ w3.heap.size := by
      have := (SI.out.lt g (by obtain ⟨u, _, _, _, h4⟩ := SI.out.here; rw [h4]; simp))
      omega
    go_wp2_with fail
    refine (queries_any w3).mono ?_
    rintro e w4 ⟨rfl, C4⟩
    unfold tableV
    have SI4 := Lib.hid (SI.out.chg C4.out (by simp))
    have C04 := Lib.hid (C03.out.trans C4.out)
    clear SI C4 C03
    go_wp2_with fail
    refine (count_any _ g S _ _ w4 SI4.out).mono ?_
    rintro e w5 ⟨rfl, q2, hw5⟩
    have C5 : Hid (Chg [] w4 w5) := by rw [hw5]; exact (Chg.refl _ _).drewN q2
    have SI5 := Lib.hid (SI4.out.chg C5.out (by simp))
    have C05 := Lib.hid (C04.out.trans C5.out)
    clear hw5 SI4 C5 C04
    by_cases hf : flat2 ps = []
    · have he := E0.out hf
      have hv := EV.out (by omega)
      subst he hv
      rw [hf]
      rw [show (([] : List RowD).length : Int) = 0 from rfl]
      clear SI5 E0 E1 E2 EV hL
      go_wp2_with fail
      go_ret2
      exact ⟨by rw [EE.out]; rfl, C05⟩
    · obtain ⟨rfl, rfl⟩ := E1.out hf hL
      have hne : (((flat2 ps).length : Int) == 0) = false := beq_false_of_ne (by
        have := List.length_pos_iff.2 hf
        omega)
      have hV := nought_any _ g S _ _ w5 SI5.out (by rw [Xr.ors_length]; exact hsm)
      replace hV := Lib.hid hV
      have HP : Hid ((flat2 ps).length ≤ 1000000) := HN
      generalize (flat2 ps).length = M at *
      clear E0 E1 E2 EV hL SI5 hf HN
      go_wp2_with fail
      refine hV.out.mono ?_
      rintro e w6 ⟨rfl, q3, hw6⟩
      have C06 : Hid (Chg [] w w6) := by rw [hw6]; exact C05.out.drewN q3
      clear hw6
      go_wp2_with fail
      go_ret2
      exact ⟨by rw [EE.out]; rfl, C06⟩
  · rw [hbl] at hL
    have he := E2.out hL
    have hv := EV.out (by omega)
    subst he hv
    have C03 : Hid (Chg [] w w3) := C02.out.fresh C3.out (fun k hk => .inr (HGE.out k hk))
    clear C3 C02 E0 E1 E2 EV hL
    go_wp2_with fail
    go_ret2
    exact ⟨by rw [EE.out]; rfl, C03⟩

theorem lls_made {w : World} {ps : List (Value × List RowD)} (b c : Nat) (hb : b = w.heap.size) (h : ∀ p ∈ ps, Rws w p.1 p.2) (h1 : ps.length ≤ 1000) (h2 : ∀ p ∈ ps, p.2.length ≤ 1000000) (h3 : ∀ p ∈ ps, ∀ d ∈ p.2, d.bs.length ≤ 1000000) (e : TypeId) :
    Lls (w.alloc (.cells (ps.map (·.1)).toArray e)) (.slice (some ⟨b, 0, none⟩) ps.length c) ps := by
  subst hb
  refine ⟨⟨w.heap.size, c, rfl, by simp, fun i p hp => ?_⟩, fun p hp => (h p hp).chg ((Chg.refl _ _).alloc _), h1, h2, h3⟩
  exact (Blk.made w (ps.map (·.1)) e).cell (by rw [List.getElem?_map, hp]; rfl)

set_option maxHeartbeats 1000000 in
set_option maxRecDepth 100000 in
theorem of_any (v : Value) (ds : List RowD) (w : World) (h : Rws w v ds) (hds : ds.length ≤ 1000000) (hsm : ∀ d ∈ ds, d.bs.length ≤ 1000000) :
    Calls Try.prog 14 #[v] w (Gives w (ofVal (rowsN ds)) (ofErr (rowsN ds))) := by
  have hfd := table_field0
  have H := Lib.hid h
  obtain ⟨ao, c, rfl⟩ := h.slice
  have S := Lib.hid hsm
  clear h hsm
  go_enter Try.func14, Try.ntmps14
  go_wp2_with fail
  refine (queries_any w).mono ?_
  rintro e w1 ⟨rfl, C1⟩
  unfold tableV
  go_wp2_with fail
  have L := Lib.hid (lls_made (w := w1) (ps := [(.slice ao ds.length c, ds)]) w1.heap.size 1 rfl (fun p hp => by rw [List.mem_singleton.1 hp]; exact H.out.chg C1.out) (by simp) (fun p hp => by rw [List.mem_singleton.1 hp]; exact hds) (fun p hp => by rw [List.mem_singleton.1 hp]; exact S.out) 22)
  have K := askV_any _ _ _ L.out (by simpa [flat2] using hds)
  rw [show flat2 [((Value.slice ao ds.length c), ds)] = ds by simp [flat2]] at K
  refine K.mono ?_
  rintro e w2 ⟨u, rfl, O, C2⟩
  have CC := Lib.hid ((C1.out.alloc (.cells #[.slice ao ds.length c] 22)).trans C2.out)
  have O2 := Lib.hid (ownsRow_base (B' := w.heap.size) O.out (by have := C1.out.size; simp; omega))
  clear O C2 K L
  go_wp2_with fail
  go_ret2
  exact ⟨_, rfl, O2, CC⟩

set_option maxHeartbeats 1000000 in
set_option maxRecDepth 100000 in
theorem even_any (v : Value) (ds : List RowD) (w : World) (h : Rws w v ds) (hds : ds.length ≤ 1000000) (hsm : ∀ d ∈ ds, d.bs.length ≤ 1000000) :
    Calls Try.prog 15 #[v] w fun e w' => e = .returned (.tuple #[.bool (evenVal (rowsN ds)), .int .u16 ((ofErr (rowsN ds) : Nat) : Int)]) ∧ Hid (Chg [] w w') := by
  have hfd := table_field2
  have H := Lib.hid h
  obtain ⟨ao, c, rfl⟩ := h.slice
  have S := Lib.hid hsm
  clear h hsm
  go_enter Try.func15, Try.ntmps15
  go_wp2_with fail
  refine (queries_any w).mono ?_
  rintro e w1 ⟨rfl, C1⟩
  unfold tableV
  go_wp2_with fail
  have L := Lib.hid (lls_made (w := w1) (ps := [(.slice ao ds.length c, ds)]) w1.heap.size 1 rfl (fun p hp => by rw [List.mem_singleton.1 hp]; exact H.out.chg C1.out) (by simp) (fun p hp => by rw [List.mem_singleton.1 hp]; exact hds) (fun p hp => by rw [List.mem_singleton.1 hp]; exact S.out) 22)
  have K := askB_any _ _ _ L.out (by simpa [flat2] using hds)
  rw [show flat2 [((Value.slice ao ds.length c), ds)] = ds by simp [flat2]] at K
  refine K.mono ?_
  rintro e w2 ⟨rfl, C2⟩
  have CC := Lib.hid ((C1.out.alloc (.cells #[.slice ao ds.length c] 22)).trans C2.out)
  clear C2 K L
  go_wp2_with fail
  go_ret2
  exact ⟨rfl, CC⟩

set_option maxHeartbeats 1000000 in
set_option maxRecDepth 100000 in
theorem patch_any (a b c : RowD) (w : World) (h : ∀ d ∈ [a, b, c], Sl w d.v d.bs ∧ By d.bs ∧ d.bs.length ≤ 1000000) :
    Calls Try.prog 24 #[a.v, b.v, c.v] w (Gives w (ofVal (rowsN [a, b, c])) (ofErr (rowsN [a, b, c]))) := by
  have R := rws_made (c := 3) (fun d hd => ⟨(h d hd).1, (h d hd).2.1, by have := (h d hd).2.2; omega⟩) (by simp)
  have K := of_any _ _ _ R (by simp) (fun d hd => (h d hd).2.2)
  obtain ⟨a0, c0, e0⟩ := (h a (by simp)).1.slice
  obtain ⟨a1, c1, e1⟩ := (h b (by simp)).1.slice
  obtain ⟨a2, c2, e2⟩ := (h c (by simp)).1.slice
  rw [show ([a, b, c] : List RowD).map (·.v) = [a.v, b.v, c.v] from rfl, show ([a, b, c] : List RowD).length = 3 from rfl, e0, e1, e2] at K
  rw [e0, e1, e2]
  clear h R e0 e1 e2
  generalize ofVal (rowsN [a, b, c]) = X at *
  generalize ofErr (rowsN [a, b, c]) = E at *
  go_enter Try.func24, Try.ntmps24
  go_wp2_with fail
  refine K.mono ?_
  rintro e w2 ⟨u, rfl, O, C2⟩
  have CC := Lib.hid (((Chg.refl [] w).alloc _).trans C2.out)
  have O2 := Lib.hid (ownsRow_base (B' := w.heap.size) O.out (by simp))
  clear O C2 K
  go_wp2_with fail
  go_ret2
  exact ⟨_, rfl, O2, CC⟩

end Go.Proofs.Ytaciamnfkidmfaa
