/-
  The program's disk: Write. By an AI agent.
-/
import Derived.Test.YtkafkdlgflkjgaaGreatBDkPend
import Derived.Test.YtkafkdlgflkjgaaGreatBGOwnMem
import Derived.Deep.RegionHeld3
import Derived.StillTailTactics
namespace Go.Proofs.YtkafkdlgflkjgaaGreat
open Go.RowKit Go.Maps

theorem write_places : (match Tryz.prog.underlying 295 with | some (.struct fields) => fields.toList.mapM (fun f => (Tryz.prog.info? f.type).map fun i => (f.offset, i.size)) | _ => none) = some [(0, 1), (1, 128)] := by kernel_rfl

set_option maxRecDepth 100000 in
theorem built_write (k : Int) {b : List Nat} (h : b.length = 128) : Tryz.prog.built 295 [(0, .int .i64 k), (1, .agg (bytesOf b).toArray)] = some (Value.int .i64 k :: bytesOf b).toArray := by
 obtain ⟨j0, ki, kz0, kz1, kz2⟩ := info_parts info_dwrite
 have hp := write_places
 rw [Tryz.underlying295] at hp
 have hl : (bytesOf b).length = 128 := by rw [bytesOf_length, h]
 unfold Program.built
 simp only [ki, Tryz.underlying295, kz0]
 simp only at hp
 rw [hp]
 refine fill_two _ _ _ _ _ rfl ?_ rfl rfl ?_
 ·rw [hl]; rfl
 ·rw [hl]; rfl

/-- One write more waits. -/
theorem DRep.more {w wm wn : World} {g : Nat} {F : List Nat} {d : Dk} {gd mb : Nat} {cv cv' : Value} {p : Nat × List Nat} {x : Obj} (r : DRep w g F d gd mb cv) (hlt : ∀ j ∈ F, j < w.heap.size)
 (hL : LatIn wm mb (d.cache ++ [p])) (cm : Chg [mb] w wm) (ol : wn.ownsRow 0 295 129 cv' (d.cache.length + 1) (wcells d.cache ++ wcell p)) (gr : (wm.alloc x).grownBy wn cv.ownBlock)
 (nb : cv'.ownBlock = cv.ownBlock ∨ (cv'.ownBlock = some (wm.heap.size + 1) ∧ (wm.alloc x).grownBy wn none)) :
 DRep (wn.setCell ⟨g, 1, none⟩ cv') g (F ++ cv'.ownBlock.toList) { d with cache := d.cache ++ [p] } gd mb cv' ∧ (∀ j ∈ F ++ cv'.ownBlock.toList, j < wn.heap.size ∧ (j ∈ F ∨ w.heap.size ≤ j)) ∧ Chg F w (wn.setCell ⟨g, 1, none⟩ cv') := by
 have hz1 := cm.size
 have hz2 := gr.size
 have hz3 : wm.heap.size + 1 ≤ wn.heap.size := by simpa using hz2
 have cvn : ∀ j, cv'.ownBlock = some j → cv.ownBlock = some j ∨ wm.heap.size ≤ j := fun j hj => by
  rcases nb with q | ⟨q, _⟩
  ·rw [q] at hj; exact .inl hj
  ·rw [q] at hj; simp at hj; exact .inr (by omega)
 have c2 : Chg cv.ownBlock.toList wm wn := (((Chg.refl [] wm).alloc x).mono (by simp)).grown gr (fun j hj => .inl (by rw [hj]; simp))
 have c3 : Chg [g] wn (wn.setCell ⟨g, 1, none⟩ cv') := (Chg.refl _ _).setCell (.inl (by simp)) _
 have hgl := hlt g r.gF
 have hdl := hlt gd r.dF.1
 have hml := hlt mb r.mF.1
 have nog : g ∉ cv.ownBlock.toList := fun hm => (r.cof g (by simpa using hm)).2.1 rfl
 have nod : gd ∉ cv.ownBlock.toList := fun hm => (r.cof gd (by simpa using hm)).2.2.1 rfl
 have nom : mb ∉ cv.ownBlock.toList := fun hm => (r.cof mb (by simpa using hm)).2.2.2 rfl
 have far : ∀ j, cv'.ownBlock = some j → j ≠ g ∧ j ≠ gd ∧ j ≠ mb := fun j hj => by
  rcases cvn j hj with q | q
  ·exact (r.cof j q).2
  ·exact ⟨by omega, by omega, by omega⟩
 refine ⟨⟨?_, ?_, ?_, ?_, List.mem_append_left _ r.gF, ⟨List.mem_append_left _ r.dF.1, r.dF.2⟩, ⟨List.mem_append_left _ r.mF.1, r.mF.2⟩, fun j hj => ⟨List.mem_append_right _ (by simp [hj]), far j hj⟩⟩, fun j hj => ?_, ?_⟩
 ·exact ((r.blk.chg cm (by simp; exact fun e => r.mF.2.1 e.symm)).chg c2 nog).set 1 cv'
 ·exact ((r.dur.chg cm (by simp; exact fun e => r.mF.2.2 e.symm)).chg c2 nod).chg c3 (by simp; exact r.dF.2)
 ·rw [List.length_append, wcells_snoc]
  exact owns_chgN ol c3 (fun j hj hm => (far j hj).1 (by simpa using hm))
 ·exact (hL.chg c2 nom).chg c3 (by simp; exact r.mF.2.1)
 ·rcases List.mem_append.1 hj with hj | hj
  ·exact ⟨by have := hlt j hj; omega, .inl hj⟩
  ·have h1 := (ol.lt j (by simpa using hj)).2
   rcases cvn j (by simpa using hj) with q | q
   ·exact ⟨h1, .inl (r.cof j q).1⟩
   ·exact ⟨h1, .inr (by omega)⟩
 ·exact ((cm.mono (fun j hj => by rw [List.mem_singleton.1 hj]; exact r.mF.1)).trans (c2.mono (fun j hj => (r.cof j (by simpa using hj)).1))).trans (c3.mono (fun j hj => by rw [List.mem_singleton.1 hj]; exact r.gF))

theorem dwrite_same {d : Dk} {a : Int} {b : List Nat} {n : Nat} (h1 : d.writeErr a b = n) (h2 : n ≠ 0) : d.write a b = d := by
 unfold Dk.write
 rw [h1, if_neg h2]

set_option maxHeartbeats 1000000 in
set_option maxRecDepth 100000 in
theorem dwrite_any (g : Nat) (F : List Nat) (d : Dk) (at_ : Int) (v : Value) (xs : List Int) (w : World) (h : (DiskT g d F).P w) (ha : -9223372036854775808 ≤ at_ ∧ at_ ≤ 9223372036854775807) (hv : Sl w v xs) (hby : By xs) (_hb : xs.length ≤ 140737488355328) (hc : d.cache.length ≤ 1000000000) :
 Calls Tryz.prog 192 #[.pointer (some ⟨g, 0, none⟩), .int .i64 at_, v] w fun e w' => e = .returned (.int .u16 ((d.writeErr at_ (nats xs) : Nat) : Int)) ∧ Hid (Turns w F (DiskT g (d.write at_ (nats xs))) w') := by
 have h' : DiskIn w g F d := h
 have CC := Lib.hid (dcheck_any g F d at_ w h ha)
 have T0 : Turns w F (DiskT g d) w := ⟨F, h, fun k hk => .inl hk, Chg.refl _ _⟩
 by_cases hck : d.check at_ = 0
 ·obtain ⟨hb0, hhas⟩ := Dk.check_ok hck
  obtain ⟨k, rfl⟩ := Int.eq_ofNat_of_zero_le hhas.1
  have hk : k < d.last.length := by have := hhas.2; omega
  by_cases h128 : xs.length = 128
  ·obtain ⟨e1, e2⟩ := Dk.write_ok (b := nats xs) hb0 hk (by rw [nats_length]; exact h128)
   rw [e2, e1]
   have FW := h'.fit.write (at_ := (k : Int)) (b := nats xs) (nats_bs hby)
   rw [e2] at FW
   have hE := ints_nats hby
   have hNL : (nats xs).length = 128 := by rw [nats_length]; exact h128
   obtain ⟨vb, vo, vc, rfl, hvb, hvc⟩ : ∃ vb vo vc, v = .slice (some ⟨vb, vo, none⟩) 128 vc ∧ vb < w.heap.size ∧ w.rangeAt vb vo (bytesOf (nats xs)) := by
    rcases hv with ⟨h0, _⟩ | ⟨b, o, c, q1, q2, q3⟩
    ·rw [h0] at h128; cases h128
    ·rw [h128] at q1
     refine ⟨b, o, c, q1, q2, fun j u hj => ?_⟩
     unfold bytesOf at hj
     rw [hE] at hj
     have hjl := (List.getElem?_eq_some_iff.1 hj).1
     rw [List.length_map] at hjl
     have := q3 j hjl
     rw [this]
     rw [List.getElem?_map, List.getElem?_eq_getElem hjl] at hj
     rw [← hj]
     simp [List.getD, List.getElem?_eq_getElem hjl]
   obtain ⟨gd, mb, cv, r⟩ := h'.rep
   obtain ⟨co, cc, hcv, hcc1, hcc2⟩ := r.bound
   subst hcv
   obtain ⟨D, hD, hL⟩ := r.lat
   have hk0 : (0 : Int) ≤ k := Int.natCast_nonneg _
   have hhi := h'.fit.hi
   have KEY : Hid (keyOf Tryz.prog 3 (.int .i64 (k : Int)) = some (.int .i64 (k : Int))) := keyOf_int_mk Tryz.underlying3 (WalkArith.wf_i64 (by omega))
   have LW := Lib.hid (plainElem_int (H := Unit) Tryz.underlying3 (WalkArith.wf_i64 (show -9223372036854775808 ≤ (d.cache.length : Int) ∧ (d.cache.length : Int) ≤ 9223372036854775807 by omega)))
   have HD := Lib.hid hD
   have HL := Lib.hid (hL.put k (nats xs))
   have R := Lib.hid r
   have HLT := Lib.hid h'.lt
   have c1 := r.blk.cell (j := 1) rfl
   have c2 := r.blk.cell (j := 2) rfl
   have SRC := Lib.hid hvc
   replace FW := Lib.hid FW
   replace hNL := Lib.hid hNL
   obtain ⟨j0, ki, kz0, kz1, kz2⟩ := info_parts info_dwrite
   replace ki := Lib.hid ki
   replace kz0 := Lib.hid kz0
   replace kz1 := Lib.hid kz1
   replace kz2 := Lib.hid kz2
   have hb128 : (xs.length : Int) = 128 := by omega
   rw [hck] at CC
   generalize nats xs = bs at *
   replace h128 := Lib.hid h128
   replace hb128 := Lib.hid hb128
   clear h h' r hv hby hE e1 e2 T0 hhas hb0 hD hL hvc hck
   go_enter Tryz.func192, Tryz.ntmps192
   go_wp2_with fail
   refine CC.out.mono ?_
   rintro e w2 ⟨rfl, hw⟩
   subst hw
   clear CC
   go_wp2_with fail
   go_still_tail 10, (by kernel_rfl)
   change wpList _ _ _ _ _ w2.drew
   go_wp2_with (at_mapUpdate; refine wpList_mapUpdate_own _ rfl _ _ _ 240 rfl 3 3 int_law Tryz.underlying240 _ mb d.cache.length D rfl HD.out.drew (by unfold maxLen; omega) _ _ _ rfl rfl KEY.out _ [] LW.out ?_; intro wm ow gr)
   -- REGION
   have CM : Hid (Chg [mb] w2 wm.drew) := (((Chg.refl [mb] w2).drew).grown gr (fun j hj => .inl (by simp; exact (Option.some.inj hj).symm))).drew
   have LM : Hid (LatIn wm.drew mb (d.cache ++ [(k, bs)])) := ⟨_, by rw [List.length_append]; exact ow.drew, HL.out⟩
   clear ow gr HD HL LW
   have hvm : vb ≠ mb := fun e => by
    subst e
    obtain ⟨D2, ⟨es, clock, hb, _⟩, _⟩ := R.out.lat
    obtain ⟨u, hu⟩ : ∃ u, (bytesOf bs)[0]? = some u := ⟨_, List.getElem?_eq_getElem (by rw [bytesOf_length, hNL.out]; decide)⟩
    have := SRC.out 0 u hu
    simp [World.cell?, hb] at this
   have d1 : wm.drew.cell? ⟨g, 1, none⟩ = some (.slice co d.cache.length cc) := (CM.out.cell (p := ⟨g, 1, none⟩) R.out.blk.lt (by simp; exact fun e => R.out.mF.2.1 e.symm)).trans c1
   have SC : Hid (wm.drew.rangeAt vb vo (bytesOf bs)) := fun j u hj => (CM.out.cell (p := ⟨vb, vo + j, none⟩) hvb (by simp; exact hvm)).trans (SRC.out j u hj)
   have OW : Hid ((wm.drew.alloc (.cells (wcell (k, bs)).toArray 295)).ownsRow 0 295 129 (.slice co d.cache.length cc) d.cache.length (wcells d.cache)) :=
    owns_chgN (owns_chgN R.out.cac CM.out (fun j hj hm => (R.out.cof j hj).2.2.2 (by simpa using hm))) ((Chg.refl [] _).alloc _) (fun _ _ => by simp)
   have MORE : Hid (∀ (v' : Value) (wn : World), Hid (wn.ownsRow 0 295 129 v' (d.cache.length + 1) (wcells d.cache ++ wcell (k, bs))) → Hid ((wm.drew.alloc (.cells (wcell (k, bs)).toArray 295)).grownBy wn (Value.slice co d.cache.length cc).ownBlock) →
    Hid (v'.ownBlock = (Value.slice co d.cache.length cc).ownBlock ∨ (v'.ownBlock = some (wm.drew.alloc (.cells (wcell (k, bs)).toArray 295)).heap.size ∧ (wm.drew.alloc (.cells (wcell (k, bs)).toArray 295)).grownBy wn none)) →
    (∃ no nc, v' = .slice no (d.cache.length + 1) nc) ∧ wn.cell? ⟨g, 1, none⟩ = some (.slice co d.cache.length cc) ∧ wn.frozen? ⟨g, 1, none⟩ = false ∧ Turns w2 F (DiskT g { d with cache := d.cache ++ [(k, bs)] }) (wn.setCell ⟨g, 1, none⟩ v')) := fun v' wn ol gr nb => by
    obtain ⟨m1, m2, m3⟩ := R.out.more HLT.out LM.out CM.out ol.out gr.out (by simpa using nb.out)
    have BG : Blk wn g 242 _ := ((R.out.blk.chg CM.out (by simp; exact fun e => R.out.mF.2.1 e.symm)).alloc _).chg (chg_of_grown gr.out) (fun hm => (R.out.cof g (by simpa using hm)).2.1 rfl)
    exact ⟨owns_slice ol.out, BG.cell (j := 1) rfl, BG.free 1, _, ⟨fun j hj => by have := (m2 j hj).1; simpa [World.setCell] using this, FW.out, gd, mb, v', m1⟩, fun j hj => (m2 j hj).2, m3⟩
   have SZ := Lib.hid (size_of hNL.out)
   have WL := Lib.hid (wcell_len (p := (k, bs)) hNL.out)
   have WO := Lib.hid (wcell_one (k, bs))
   have d1a : (wm.drew.alloc (.cells (wcell (k, bs)).toArray 295)).cell? ⟨g, 1, none⟩ = some (.slice co d.cache.length cc) := (((Chg.refl [] wm.drew).alloc _).cell (p := ⟨g, 1, none⟩) (World.block_lt_of_cell? _ _ d1) (by simp)).trans d1
   have BW := built_write (k : Int) hNL.out
   rw [show (Value.int .i64 (k : Int) :: bytesOf bs) = wcell (k, bs) from rfl] at BW
   replace BW := Lib.hid BW
   generalize wcell (k, bs) = wc at *
   generalize bytesOf bs = sc at *
   clear c1 c2 LM CM KEY R HLT SRC FW hvm hvb
   refine wp_region_any (by kernel_rfl) ?_
   change wpAny _ _ _ _ _ _ _ (World.drew _)
   generalize wm.drew = w9 at *
   refine wpAny_take (i := 0) (v := ?_) rfl (by kernel_rfl) (by kernel_rfl) (by kernel_rfl) (fun _ _ _ h => h) (Or.inl ⟨by rfl, ?_⟩) ?_
   rotate_left
   ·intro w'; go_simp; try with_reducible rfl
   try simp [Act.put]
   refine wpAny_take (i := 1) (v := ?_) rfl (by kernel_rfl) (by kernel_rfl) (by kernel_rfl) (fun _ _ _ h => h) (Or.inl ⟨by rfl, ?_⟩) ?_
   rotate_left
   ·intro w'; go_simp; try with_reducible rfl
   try simp [Act.put]
   refine wpAny_take (i := 2) (v := ?_) rfl (by kernel_rfl) (by kernel_rfl) (by kernel_rfl) (fun _ _ _ h => h) (Or.inl ⟨by rfl, ?_⟩) ?_
   rotate_left
   ·intro w'; go_simp; try with_reducible rfl
   try simp [Act.put]
   refine wpAny_take (i := 3) (v := ?_) rfl (by kernel_rfl) (by kernel_rfl) (by kernel_rfl) (fun _ _ _ h => h) (Or.inl ⟨by rfl, ?_⟩) ?_
   rotate_left
   ·intro w'; go_simp; try with_reducible rfl
   try simp [Act.put]
   refine wpAny_take (i := 5) (v := ?_) rfl (by kernel_rfl) (by kernel_rfl) (by kernel_rfl) (fun _ _ _ h => h) (Or.inl ⟨by rfl, ?_⟩) ?_
   rotate_left
   ·intro w'; go_simp; try with_reducible rfl
   try simp [Act.put]
   refine wpAny_take (i := 6) (v := ?_) rfl (by kernel_rfl) (by kernel_rfl) (by kernel_rfl) (fun _ _ _ h => h) (Or.inl ⟨by rfl, ?_⟩) ?_
   rotate_left
   ·intro w'; go_simp; try with_reducible rfl
   try simp [Act.put]
   refine wpAny_take (i := 7) (v := ?_) rfl (by kernel_rfl) (by kernel_rfl) (by kernel_rfl) (fun _ _ _ h => h) (Or.inl ⟨by rfl, ?_⟩) ?_
   rotate_left
   ·intro w'; refine arr_run (ad := some ⟨vb, vo, none⟩) (len := 128) (c := vc) _ _ _ (.tmp 33) ?_ ?_ Tryz.underlying244 ?_; rfl; rfl; decide
   try simp [Act.put]
   refine wpAny_ready (rs := [4, 8]) (by kernel_rfl) (by simp) ?_
   refine AllReady.cons rfl (fun K hK => ?_) ?_
   ·skip
    go_simp
    refine hK _ _ ?_
    clear hK K
    try simp [Act.put]
    refine wpAny_ready (rs := [8]) (by kernel_rfl) (by simp) ?_
    refine AllReady.cons rfl (fun K hK => ?_) AllReady.nil
    rw [if_pos (by rfl)]; refine wp_load_mid 244 (.tmp 34) rfl vb vo rfl sc _ SC.out Tryz.underlying244 rfl SZ.out ?_
    refine hK _ _ ?_
    clear hK K
    try simp [Act.put]
    refine wpAny_take (i := 9) (v := ?_) rfl (by kernel_rfl) (by kernel_rfl) (by kernel_rfl) (fun _ _ _ h => h) (Or.inl ⟨by rfl, ?_⟩) ?_
    rotate_left
    ·intro w'; refine bld_run (u0 := .int .i64 (k : Int)) (u1 := .agg sc.toArray) _ _ _ (.tmp 32) (.tmp 35) ?_ ?_ ?_ BW.out <;> rfl
    try simp [Act.put]
    refine wpAny_ready (rs := [10]) (by kernel_rfl) (by simp) ?_
    refine AllReady.cons rfl (fun K hK => ?_) AllReady.nil
    rw [if_pos (by rfl)]; refine wp_buildSlice_one 239 295 (.tmp 36) rfl j0 _ wc rfl Tryz.underlying239 ki.out kz0.out (by rw [kz1.out, WL.out]) (by rw [WL.out]; rfl) (by rw [WL.out]; decide) (by rw [WL.out]; decide) ?_
    refine hK _ _ ?_
    clear hK K
    try simp [Act.put]
    refine wpAny_ready (rs := [11]) (by kernel_rfl) (by simp) ?_
    refine AllReady.cons rfl (fun K hK => ?_) AllReady.nil
    rw [if_pos (by rfl)]; refine wp_append_three _ (.tmp 31) (.tmp 37) 239 rfl 0 295 j0 _ 129 136 Tryz.underlying239 ki.out kz0.out kz1.out kz2.out rfl (by decide) (.slice co d.cache.length cc) d.cache.length _ rfl OW.out ⟨w9.heap.size, 0, none⟩ 1 1 wc rfl (by rw [WL.out]) (fun j u hu => by rw [Addr.add_lit, Nat.zero_add]; exact (Blk.made w9 wc _).cell hu) WO.out (by unfold maxLen; omega) (by omega) (Nat.zero_le _) ?_; intro v' wn ol gr nb; obtain ⟨⟨no, nc, hv'⟩, d1, f1, TT⟩ := MORE.out v' wn ol gr nb; subst hv'; replace TT := Lib.hid TT; clear ol gr nb
    refine hK _ _ ?_
    clear hK K
    try simp [Act.put]
    refine wpAny_take (i := 12) (v := ?_) rfl (by kernel_rfl) (by kernel_rfl) (by kernel_rfl) (fun _ _ _ h => h) (Or.inl ⟨by rfl, ?_⟩) ?_
    rotate_left
    ·intro w'; go_simp; try with_reducible rfl
    try simp [Act.put]
    refine wpAny_take (i := 13) (v := ?_) rfl (by kernel_rfl) (by kernel_rfl) (by kernel_rfl) (fun _ _ _ h => h) (Or.inl ⟨by rfl, ?_⟩) ?_
    rotate_left
    ·intro w'; go_simp; try with_reducible rfl
    try simp [Act.put]
    refine wpAny_ready (rs := [14]) (by kernel_rfl) (by simp) ?_
    refine AllReady.cons rfl (fun K hK => ?_) AllReady.nil
    go_simp
    refine hK _ _ ?_
    clear hK K
    try simp [Act.put]
    refine wpAny_done (by kernel_rfl) ?_ _
    go_wp2_with fail
    go_ret
    exact ⟨rfl, TT⟩
   refine AllReady.cons rfl (fun K hK => ?_) AllReady.nil
   rw [if_pos (by rfl)]; refine wp_load_mid 244 (.tmp 34) rfl vb vo rfl sc _ SC.out Tryz.underlying244 rfl SZ.out ?_
   refine hK _ _ ?_
   clear hK K
   try simp [Act.put]
   refine wpAny_take (i := 9) (v := ?_) rfl (by kernel_rfl) (by kernel_rfl) (by kernel_rfl) (fun _ _ _ h => h) (Or.inl ⟨by rfl, ?_⟩) ?_
   rotate_left
   ·intro w'; refine bld_run (u0 := .int .i64 (k : Int)) (u1 := .agg sc.toArray) _ _ _ (.tmp 32) (.tmp 35) ?_ ?_ ?_ BW.out <;> rfl
   try simp [Act.put]
   refine wpAny_ready (rs := [4, 10]) (by kernel_rfl) (by simp) ?_
   refine AllReady.cons rfl (fun K hK => ?_) ?_
   ·skip
    go_simp
    refine hK _ _ ?_
    clear hK K
    try simp [Act.put]
    refine wpAny_ready (rs := [10]) (by kernel_rfl) (by simp) ?_
    refine AllReady.cons rfl (fun K hK => ?_) AllReady.nil
    rw [if_pos (by rfl)]; refine wp_buildSlice_one 239 295 (.tmp 36) rfl j0 _ wc rfl Tryz.underlying239 ki.out kz0.out (by rw [kz1.out, WL.out]) (by rw [WL.out]; rfl) (by rw [WL.out]; decide) (by rw [WL.out]; decide) ?_
    refine hK _ _ ?_
    clear hK K
    try simp [Act.put]
    refine wpAny_ready (rs := [11]) (by kernel_rfl) (by simp) ?_
    refine AllReady.cons rfl (fun K hK => ?_) AllReady.nil
    rw [if_pos (by rfl)]; refine wp_append_three _ (.tmp 31) (.tmp 37) 239 rfl 0 295 j0 _ 129 136 Tryz.underlying239 ki.out kz0.out kz1.out kz2.out rfl (by decide) (.slice co d.cache.length cc) d.cache.length _ rfl OW.out ⟨w9.heap.size, 0, none⟩ 1 1 wc rfl (by rw [WL.out]) (fun j u hu => by rw [Addr.add_lit, Nat.zero_add]; exact (Blk.made w9 wc _).cell hu) WO.out (by unfold maxLen; omega) (by omega) (Nat.zero_le _) ?_; intro v' wn ol gr nb; obtain ⟨⟨no, nc, hv'⟩, d1, f1, TT⟩ := MORE.out v' wn ol gr nb; subst hv'; replace TT := Lib.hid TT; clear ol gr nb
    refine hK _ _ ?_
    clear hK K
    try simp [Act.put]
    refine wpAny_take (i := 12) (v := ?_) rfl (by kernel_rfl) (by kernel_rfl) (by kernel_rfl) (fun _ _ _ h => h) (Or.inl ⟨by rfl, ?_⟩) ?_
    rotate_left
    ·intro w'; go_simp; try with_reducible rfl
    try simp [Act.put]
    refine wpAny_take (i := 13) (v := ?_) rfl (by kernel_rfl) (by kernel_rfl) (by kernel_rfl) (fun _ _ _ h => h) (Or.inl ⟨by rfl, ?_⟩) ?_
    rotate_left
    ·intro w'; go_simp; try with_reducible rfl
    try simp [Act.put]
    refine wpAny_ready (rs := [14]) (by kernel_rfl) (by simp) ?_
    refine AllReady.cons rfl (fun K hK => ?_) AllReady.nil
    go_simp
    refine hK _ _ ?_
    clear hK K
    try simp [Act.put]
    refine wpAny_done (by kernel_rfl) ?_ _
    go_wp2_with fail
    go_ret
    exact ⟨rfl, TT⟩
   refine AllReady.cons rfl (fun K hK => ?_) AllReady.nil
   rw [if_pos (by rfl)]; refine wp_buildSlice_one 239 295 (.tmp 36) rfl j0 _ wc rfl Tryz.underlying239 ki.out kz0.out (by rw [kz1.out, WL.out]) (by rw [WL.out]; rfl) (by rw [WL.out]; decide) (by rw [WL.out]; decide) ?_
   refine hK _ _ ?_
   clear hK K
   try simp [Act.put]
   refine wpAny_ready (rs := [4]) (by kernel_rfl) (by simp) ?_
   refine AllReady.cons rfl (fun K hK => ?_) AllReady.nil
   go_simp
   refine hK _ _ ?_
   clear hK K
   try simp [Act.put]
   refine wpAny_ready (rs := [11]) (by kernel_rfl) (by simp) ?_
   refine AllReady.cons rfl (fun K hK => ?_) AllReady.nil
   rw [if_pos (by rfl)]; refine wp_append_three _ (.tmp 31) (.tmp 37) 239 rfl 0 295 j0 _ 129 136 Tryz.underlying239 ki.out kz0.out kz1.out kz2.out rfl (by decide) (.slice co d.cache.length cc) d.cache.length _ rfl OW.out ⟨w9.heap.size, 0, none⟩ 1 1 wc rfl (by rw [WL.out]) (fun j u hu => by rw [Addr.add_lit, Nat.zero_add]; exact (Blk.made w9 wc _).cell hu) WO.out (by unfold maxLen; omega) (by omega) (Nat.zero_le _) ?_; intro v' wn ol gr nb; obtain ⟨⟨no, nc, hv'⟩, d1, f1, TT⟩ := MORE.out v' wn ol gr nb; subst hv'; replace TT := Lib.hid TT; clear ol gr nb
   refine hK _ _ ?_
   clear hK K
   try simp [Act.put]
   refine wpAny_take (i := 12) (v := ?_) rfl (by kernel_rfl) (by kernel_rfl) (by kernel_rfl) (fun _ _ _ h => h) (Or.inl ⟨by rfl, ?_⟩) ?_
   rotate_left
   ·intro w'; go_simp; try with_reducible rfl
   try simp [Act.put]
   refine wpAny_take (i := 13) (v := ?_) rfl (by kernel_rfl) (by kernel_rfl) (by kernel_rfl) (fun _ _ _ h => h) (Or.inl ⟨by rfl, ?_⟩) ?_
   rotate_left
   ·intro w'; go_simp; try with_reducible rfl
   try simp [Act.put]
   refine wpAny_ready (rs := [14]) (by kernel_rfl) (by simp) ?_
   refine AllReady.cons rfl (fun K hK => ?_) AllReady.nil
   go_simp
   refine hK _ _ ?_
   clear hK K
   try simp [Act.put]
   refine wpAny_done (by kernel_rfl) ?_ _
   go_wp2_with fail
   go_ret
   exact ⟨rfl, TT⟩
  ·have e1 : d.writeErr (k : Int) (nats xs) = 4 := by
    unfold Dk.writeErr
    rw [hck, if_pos rfl, if_neg (by rw [nats_length]; exact h128)]
   rw [dwrite_same e1 (by decide), e1]
   have hb2 : ((xs.length : Int) != 128) = true := by simp; omega
   obtain ⟨vo, vc, rfl⟩ := hv.slice
   replace T0 := Lib.hid T0
   rw [hck] at CC
   clear h h' hv hby e1 hck hhas hb0
   go_enter Tryz.func192, Tryz.ntmps192
   go_wp2_with fail
   refine CC.out.mono ?_
   rintro e w2 ⟨rfl, hw⟩
   subst hw
   clear CC
   go_wp2_with fail
   go_ret
   exact ⟨rfl, T0⟩
 ·obtain ⟨n, hn, hn0⟩ : ∃ n : Nat, d.check at_ = n ∧ n ≠ 0 := ⟨_, rfl, hck⟩
  have hb : (((n : Nat) : Int) != 0) = true := by simp; omega
  have e1 : d.writeErr at_ (nats xs) = n := by unfold Dk.writeErr; rw [if_neg hck]; exact hn
  rw [dwrite_same e1 hn0, e1]
  rw [hn] at CC
  replace T0 := Lib.hid T0
  obtain ⟨vo, vc, rfl⟩ := hv.slice
  clear h h' hv hby e1 hck hn
  go_enter Tryz.func192, Tryz.ntmps192
  go_wp2_with fail
  refine CC.out.mono ?_
  rintro e w2 ⟨rfl, hw⟩
  subst hw
  clear CC
  go_wp2_with fail
  go_ret
  exact ⟨rfl, T0⟩

end Go.Proofs.YtkafkdlgflkjgaaGreat
