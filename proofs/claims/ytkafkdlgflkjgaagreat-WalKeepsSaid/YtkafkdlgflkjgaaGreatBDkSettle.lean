/-
  The program's disk: settle, Flush, Crash. By an AI agent.
-/
import Derived.Test.YtkafkdlgflkjgaaGreatBDkPend
import Derived.Deep.RegionHeld3
import Derived.Test.YtkafkdlgflkjgaaGreatBGInMore
import Derived.StillTailTactics
namespace Go.Proofs.YtkafkdlgflkjgaaGreat
open Go.RowKit Go.Maps

theorem set_flat {l : List (List Nat)} (h : ∀ s ∈ l, s.length = 128) {k : Nat} (hk : k < l.length) (b : List Nat) : (l.set k b).flatten = l.flatten.take (128 * k) ++ b ++ l.flatten.drop (128 * k + 128) := by
 induction l generalizing k with
 | nil => cases hk
 | cons s r ih =>
   have hs := h s List.mem_cons_self
   cases k with
   | zero =>
     rw [List.set_cons_zero, List.flatten_cons, List.flatten_cons, Nat.mul_zero, List.take_zero, List.nil_append, Nat.zero_add, List.drop_append, List.drop_eq_nil_of_le (by omega), List.nil_append, show 128 - s.length = 0 by omega, List.drop_zero]
   | succ k =>
     rw [List.set_cons_succ, List.flatten_cons, List.flatten_cons, ih (fun x hx => h x (List.mem_cons_of_mem _ hx)) (by simpa using hk), List.take_append, List.drop_append, List.take_of_length_le (by omega : s.length ≤ 128 * (k + 1)), show 128 * (k + 1) - s.length = 128 * k by omega, List.drop_eq_nil_of_le (by omega : s.length ≤ 128 * (k + 1) + 128), show 128 * (k + 1) + 128 - s.length = 128 * k + 128 by omega]
     simp

theorem lay_flat {l : List (List Nat)} (h : ∀ s ∈ l, s.length = 128) {k : Nat} (hk : k < l.length) {b : List Nat} (hb : b.length = 128) : lay (bytesOf l.flatten) (k * 128) (bytesOf b) = bytesOf (l.set k b).flatten := by
 rw [set_flat h hk b]
 unfold lay bytesOf ints
 simp only [List.map_append, List.map_take, List.map_drop, List.length_map, hb, Nat.mul_comm]

theorem fit_lay {d : Dk} (h : d.Fit) {k : Nat} {b : List Nat} (hb : b.length = 128 ∧ Bs b) : Dk.Fit { d with last := Dk.lay d.last (k, b) } := by
 refine ⟨by show 1 ≤ (d.last.set k b).length; rw [List.length_set]; exact h.lo, by show (d.last.set k b).length ≤ 8192; rw [List.length_set]; exact h.hi, fun s hs => ?_, fun x hx => ?_, h.off⟩
 ·rcases List.mem_or_eq_of_mem_set hs with hs | rfl
  ·exact h.sec s hs
  ·exact hb
 ·show x.1 < (d.last.set k b).length ∧ _
  rw [List.length_set]
  exact h.wr x hx

theorem keep_take {keep : List Bool} {l : List (Nat × List Nat)} {i : Nat} {p : Nat × List Nat} (h : l[i]? = some p) : Dk.kept keep 0 (l.take (i + 1)) = Dk.kept keep 0 (l.take i) ++ (if keep.getD i false = true then [p] else []) := by
 have hi : i < l.length := (List.getElem?_eq_some_iff.1 h).1
 rw [take_snoc h, Dk.kept_snoc, Nat.zero_add, List.length_take, Nat.min_eq_left (by omega)]

/-- What the first q writes leave. -/
def partly (d : Dk) (keep : List Bool) (q : Nat) : Dk := { d with last := (Dk.kept keep 0 (d.cache.take q)).foldl Dk.lay d.last }

theorem partly_len (d : Dk) (keep : List Bool) (q : Nat) : (partly d keep q).last.length = d.last.length := Dk.lays_length _ _

theorem partly_skip {d : Dk} {keep : List Bool} {q : Nat} {p : Nat × List Nat} (h : d.cache[q]? = some p) (hk : ¬ keep.getD q false = true) : partly d keep (q + 1) = partly d keep q := by
 unfold partly
 rw [keep_take h, if_neg hk, List.append_nil]

theorem partly_lay {d : Dk} {keep : List Bool} {q : Nat} {p : Nat × List Nat} (h : d.cache[q]? = some p) (hk : keep.getD q false = true) : partly d keep (q + 1) = { partly d keep q with last := Dk.lay (partly d keep q).last p } := by
 unfold partly
 rw [keep_take h, if_pos hk, List.foldl_append]
 rfl

/-- One lasting sector is written. -/
theorem DRep.put {w w' : World} {g : Nat} {F : List Nat} {d : Dk} {gd mb : Nat} {cv : Value} (r : DRep w g F d gd mb cv) (hf : d.Fit) {k : Nat} {b : List Nat} (hk : k < d.last.length) (hb : b.length = 128)
 (hB : Blk w' gd 244 (lay (bytesOf d.last.flatten) (k * 128) (bytesOf b))) (c : Chg [gd] w w') : DRep w' g F { d with last := Dk.lay d.last (k, b) } gd mb cv := by
 refine ⟨?_, ?_, owns_chgN r.cac c (fun j hj hm => (r.cof j hj).2.2.1 (by simpa using hm)), r.lat.chg c (by simp; exact r.mF.2.2), r.gF, r.dF, r.mF, r.cof⟩
 ·have := r.blk.chg c (by simp; exact fun e => r.dF.2 e.symm)
  show Blk w' g _ [.slice (some ⟨gd, 0, none⟩) (d.last.set k b).length (d.last.set k b).length, _, _, _]
  rw [List.length_set]
  exact this
 ·show Blk w' gd _ (bytesOf (d.last.set k b).flatten)
  rw [← lay_flat (last128 hf) hk hb]
  exact hB

theorem enters_flush (args : Array Value) (w : World) : (callFunc 253 args).run Tryz.prog w = .ok (.enter 253 args) w := by
 have h1 : (Tryz.f253.name == "runtime.NumGoroutine") = false := by kernel_rfl
 have h2 : Tryz.f253.body.isNone = false := by kernel_rfl
 have h3 : ¬ Tryz.f253.name = "runtime.NumGoroutine" := by simpa using h1
 have h4 : ¬ Tryz.f253.body = none := fun e => by rw [e] at h2; cases h2
 simp [callFunc, go_sem, Tryz.func253, h3, h4]

theorem enters_crash (args : Array Value) (w : World) : (callFunc 207 args).run Tryz.prog w = .ok (.enter 207 args) w := by
 have h1 : (Tryz.f207.name == "runtime.NumGoroutine") = false := by kernel_rfl
 have h2 : Tryz.f207.body.isNone = false := by kernel_rfl
 have h3 : ¬ Tryz.f207.name = "runtime.NumGoroutine" := by simpa using h1
 have h4 : ¬ Tryz.f207.body = none := fun e => by rw [e] at h2; cases h2
 simp [callFunc, go_sem, Tryz.func207, h3, h4]

set_option maxHeartbeats 4000000 in
set_option maxRecDepth 100000 in
theorem dsettle_any (g : Nat) (F : List Nat) (d : Dk) (keep : List Bool) (fn : Nat) (caps : Array Value) (w : World) (h : (DiskT g d F).P w)
 (hen : ∀ (args : Array Value) (w : World), (callFunc fn args).run Tryz.prog w = .ok (.enter fn args) w)
 (hfn : ∀ (i : Nat) (w' : World), i < d.cache.length → Chg F w w' → Calls Tryz.prog fn (#[.int .i64 (i : Int)] ++ caps) w' (fun e w'' => e = .returned (.bool (keep.getD i false)) ∧ w'' = w')) :
 Calls Tryz.prog 206 #[.pointer (some ⟨g, 0, none⟩), .func (.func fn) #[] caps] w fun e w' => e = .returned (.tuple #[]) ∧ Hid (Turns w F (DiskT g { d with last := (Dk.kept keep 0 d.cache).foldl Dk.lay d.last, cache := [] }) w') := by
 have h' : DiskIn w g F d := h
 obtain ⟨gd, mb, cv, r⟩ := h'.rep
 obtain ⟨co, cc, hcv, hcc1, hcc2⟩ := r.bound
 subst hcv
 obtain ⟨j0, ki, kz0, kz1, kz2⟩ := info_parts info_dwrite
 replace ki := Lib.hid ki
 replace kz0 := Lib.hid kz0
 clear kz1 kz2
 obtain ⟨du, hdu, hdr⟩ := dwrite_under
 replace hdu := Lib.hid hdu
 replace hdr := Lib.hid hdr
 have c1 := r.blk.cell (j := 1) rfl
 have HLT := Lib.hid h'.lt
 have HFN := Lib.hid hfn
 have GF := Lib.hid r.gF
 have DF := Lib.hid r.dF
 obtain ⟨n, hn⟩ : ∃ n, n = d.last.length := ⟨_, rfl⟩
 have R0 : Hid (DRep w g F (partly d keep 0) gd mb (.slice co d.cache.length cc) ∧ (partly d keep 0).Fit) := ⟨r, h'.fit⟩
 replace hn := Lib.hid hn
 clear h h' r hfn
 go_enter Tryz.func206, Tryz.ntmps206
 go_wp2_with fail
 go_loopw [11] (fun i wr => ∃ q : Nat, q ≤ d.cache.length ∧ i = .int .i64 q ∧ Hid (DRep wr g F (partly d keep q) gd mb (.slice co d.cache.length cc) ∧ (partly d keep q).Fit) ∧ Hid (Chg [gd] w wr)) (fun i _ => d.cache.length - (intOf i).toNat)
 case atStart => exact ⟨0, Nat.zero_le _, rfl, R0, Chg.refl _ _⟩
 case round =>
  obtain ⟨q, hq, rfl, R, C⟩ := hrel
  clear R0
  have hq0 : (0 : Int) ≤ q := Int.natCast_nonneg _
  by_cases hlt : q < d.cache.length
  ·obtain ⟨p, hp⟩ : ∃ p, d.cache[q]? = some p := ⟨_, List.getElem?_eq_getElem hlt⟩
   have hq1 : (q : Int) < d.cache.length := by omega
   obtain ⟨cb, cc2, hv, RG⟩ := R.out.1.at R.out.2 (i := q) (p := p) hp
   obtain ⟨rfl, rfl⟩ : co = some ⟨cb, 0, none⟩ ∧ cc = cc2 := by simpa [partly] using hv
   have hpw := R.out.2.wr p (List.mem_of_getElem? hp)
   rw [partly_len, ← hn.out] at hpw
   obtain ⟨hp1, hp2, hp3⟩ := hpw
   have SZ := Lib.hid (size_w hp2)
   have SZ2 := Lib.hid (size_of hp2)
   have WL := Lib.hid (wcell_len hp2)
   have WO := Lib.hid (wcell_one p)
   have RG2 : Hid (wr.rangeAt cb (q * 129) (wcell p)) := RG
   have PB : Hid (∀ w', Hid (Blk w' wr.heap.size 295 (wcell p)) → w'.cell? ⟨wr.heap.size, 0, none⟩ = some (.int .i64 (p.1 : Int)) ∧ w'.rangeAt wr.heap.size 1 (bytesOf p.2)) := fun w' B => by
    have := rangeAt_tail (B.out.rangeAll)
    exact ⟨this.1, this.2⟩
   by_cases hkeep : keep.getD q false = true
   ·have PL := Lib.hid (partly_lay hp hkeep)
    replace hkeep := Lib.hid hkeep
    obtain ⟨pa, ps⟩ := p
    generalize wcell (pa, ps) = wc at *
    simp only at hp1 hp2 hp3 SZ2 PB
    clear hv RG
    replace hp := Lib.hid hp
    replace hp2 := Lib.hid hp2
    replace hp3 := Lib.hid hp3
    have hpa0 : (0 : Int) ≤ pa := Int.natCast_nonneg _
    have hpa1 : (pa : Int) < n := by omega
    go_wp2_with (first
     | (with_reducible refine wpList_load_mid rfl 295 (.tmp 14) rfl cb (q * 129) rfl wc du RG2.out hdu.out hdr.out SZ.out ?_)
     | (with_reducible refine wpList_alloc_arr rfl 295 rfl j0 _ ki.out kz0.out ?_)
     | ((with_reducible refine wpList_store_blk rfl 295 (.tmp 5) (.tmp 15) rfl wr.heap.size 0 295 _ wc rfl rfl (blk_write0 _ _) (by rw [WL.out]; simp) SZ.out WO.out ?_); intro w3 B3 C3; rw [lay_all _ wc (by rw [WL.out]; simp)] at B3; have C03 : Hid (Chg [] wr w3) := ((Chg.refl [] wr).alloc _).fresh C3.out (fun j hj => .inr (by have := List.mem_singleton.1 hj; omega)); clear C3))
    have CF : Chg F w w3 := (C.out.mono (fun j hj => by rw [List.mem_singleton.1 hj]; exact DF.out.1)).trans (C03.out.mono (by simp))
    have CW : Hid (Chg [gd] w w3) := C.out.trans (C03.out.mono (by simp))
    have CL := Lib.hid (HFN.out q w3 hlt CF)
    have R3 : Hid (DRep w3 g F (partly d keep q) gd mb (.slice (some ⟨cb, 0, none⟩) d.cache.length cc) ∧ (partly d keep q).Fit) := ⟨R.out.1.chg C03.out (fun _ _ => by simp), R.out.2⟩
    have c0 : w3.cell? ⟨g, 0, none⟩ = some (.slice (some ⟨gd, 0, none⟩) n n) := by
     have := R3.out.1.blk.cell (j := 0) rfl
     rw [partly_len, ← hn.out] at this
     exact this
    have hpl : (partly d keep q).last.length = n := by rw [partly_len, ← hn.out]
    have TH : w3.there gd (pa * 128) 128 := R3.out.1.dur.there _ _ (by rw [bytesOf_length, R3.out.2.flatLen, hpl]; omega)
    have PP := PB.out _ B3
    have cx0 := PP.1
    have rx := PP.2
    have hbl : (bytesOf ps).length = 128 := by rw [bytesOf_length]; exact hp2.out
    have hone := bytesOf_one ps
    have hu := Tryz.underlying244
    have hsz := SZ2.out
    have hxl : wr.heap.size < w3.heap.size := B3.out.lt
    have hgw : gd < wr.heap.size := R.out.1.dur.lt
    have hgl := R3.out.1.blk.lt
    have KK : Hid (∀ w' : World, Chg [gd] w3 w' → w'.cell? ⟨g, 0, none⟩ = some (.slice (some ⟨gd, 0, none⟩) n n) ∧ w'.cell? ⟨wr.heap.size, 0, none⟩ = some (.int .i64 (pa : Int)) ∧ w'.rangeAt wr.heap.size 1 (bytesOf ps)) := fun w' c =>
     ⟨(c.cell (p := ⟨g, 0, none⟩) hgl (by simp; exact fun e => DF.out.2 e.symm)).trans c0, (c.cell (p := ⟨wr.heap.size, 0, none⟩) hxl (by simp; omega)).trans cx0, fun j v hj => (c.cell (p := ⟨wr.heap.size, 1 + j, none⟩) hxl (by simp; omega)).trans (rx j v hj)⟩
    replace hpl := Lib.hid hpl
    clear PP PB CF R RG2 SZ WL WO C03 B3 cx0 rx c0
    refine CL.out.mono ?_
    rintro e w4 ⟨rfl, hw⟩
    subst hw
    rw [hkeep.out]
    clear CL HFN hen
    go_wp2_with fail
    go_region_held3 (fun w' : World => w'.cell? ⟨g, 0, none⟩ = some (.slice (some ⟨gd, 0, none⟩) n n) ∧ w'.cell? ⟨wr.heap.size, 0, none⟩ = some (.int .i64 (pa : Int)) ∧ w'.rangeAt wr.heap.size 1 (bytesOf ps))
     (first | exact KK.out _ (Chg.refl _ _) | exact KK.out _ (Chg.refl _ _).drew | exact KK.out _ (chg_setCells _ _ _ (Chg.refl _ _).drew (.inl (by simp))))
     (fail)
    have R5 : Hid (DRep (w4.drew.setCells gd (pa * 128) (bytesOf ps)) g F (partly d keep (q + 1)) gd mb (.slice (some ⟨cb, 0, none⟩) d.cache.length cc) ∧ (partly d keep (q + 1)).Fit) := by
     rw [PL.out]
     refine ⟨R3.out.1.put R3.out.2 (by rw [hpl.out]; omega) hp2.out ?_ (chg_setCells _ _ _ (Chg.refl _ _).drew (.inl (by simp))), fit_lay R3.out.2 ⟨hp2.out, hp3.out⟩⟩
     exact Blk.setCells (bytesOf ps) _ (pa * 128) w4.drew R3.out.1.dur.drew (by rw [bytesOf_length, bytesOf_length, R3.out.2.flatLen, hpl.out, hp2.out]; omega)
    have C5 : Hid (Chg [gd] w (w4.drew.setCells gd (pa * 128) (bytesOf ps))) := CW.out.trans (chg_setCells _ _ _ (Chg.refl _ _).drew (.inl (by simp)))
    generalize w4.drew.setCells gd (pa * 128) (bytesOf ps) = w5 at *
    clear R3 CW KK TH C
    go_wp2_with fail
    exact ⟨⟨q + 1, by omega, by go_num, R5, C5⟩, by simp [intOf]; omega⟩
   ·have PL := Lib.hid (partly_skip (keep := keep) hp hkeep)
    have hkf : keep.getD q false = false := by simpa using hkeep
    replace hkf := Lib.hid hkf
    replace hkeep := Lib.hid hkeep
    generalize wcell p = wc at *
    clear hv RG
    replace hp := Lib.hid hp
    clear hp1 hp2 hp3 PB SZ2
    go_wp2_with (first
     | (with_reducible refine wpList_load_mid rfl 295 (.tmp 14) rfl cb (q * 129) rfl wc du RG2.out hdu.out hdr.out SZ.out ?_)
     | (with_reducible refine wpList_alloc_arr rfl 295 rfl j0 _ ki.out kz0.out ?_)
     | ((with_reducible refine wpList_store_blk rfl 295 (.tmp 5) (.tmp 15) rfl wr.heap.size 0 295 _ wc rfl rfl (blk_write0 _ _) (by rw [WL.out]; simp) SZ.out WO.out ?_); intro w3 B3 C3; rw [lay_all _ wc (by rw [WL.out]; simp)] at B3; have C03 : Hid (Chg [] wr w3) := ((Chg.refl [] wr).alloc _).fresh C3.out (fun j hj => .inr (by have := List.mem_singleton.1 hj; omega)); clear C3))
    have CF : Chg F w w3 := (C.out.mono (fun j hj => by rw [List.mem_singleton.1 hj]; exact DF.out.1)).trans (C03.out.mono (by simp))
    have CW : Hid (Chg [gd] w w3) := C.out.trans (C03.out.mono (by simp))
    have CL := Lib.hid (HFN.out q w3 hlt CF)
    have R3 : Hid (DRep w3 g F (partly d keep (q + 1)) gd mb (.slice (some ⟨cb, 0, none⟩) d.cache.length cc) ∧ (partly d keep (q + 1)).Fit) := by
     rw [PL.out]
     exact ⟨R.out.1.chg C03.out (fun _ _ => by simp), R.out.2⟩
    clear CF R RG2 SZ WL WO C03 B3 C
    refine CL.out.mono ?_
    rintro e w4 ⟨rfl, hw⟩
    subst hw
    rw [hkf.out]
    clear CL HFN hen
    go_wp2_with fail
    exact ⟨⟨q + 1, by omega, by go_num, R3, CW⟩, by simp [intOf]; omega⟩
  ·obtain rfl : q = d.cache.length := by omega
   have hlw : ∀ j ∈ F, j < wr.heap.size := fun j hj => Nat.lt_of_lt_of_le (HLT.out j hj) C.out.size
   have CE := Lib.hid (dempty_any g _ _ _ _ wr R.out.1.blk)
   have ET : Hid (∀ w', Emptied wr g (.slice (some ⟨gd, 0, none⟩) (partly d keep d.cache.length).last.length (partly d keep d.cache.length).last.length) (.bool d.bad) w' → Turns w F (DiskT g { d with last := (Dk.kept keep 0 d.cache).foldl Dk.lay d.last, cache := [] }) w') := fun w' he => by
    obtain ⟨F2, t1, t2, t3⟩ := Emptied.turns (b := d.bad) hlw R.out.2 R.out.1 he
    have hz := C.out.size
    refine ⟨F2, ?_, fun j hj => ?_, (C.out.mono (fun j hj => by rw [List.mem_singleton.1 hj]; exact DF.out.1)).trans t3⟩
    ·unfold partly at t1
     rw [List.take_length] at t1
     exact t1
    ·rcases t2 j hj with q | q
     ·exact .inl q
     ·exact .inr (by omega)
   clear R C HFN hen
   go_wp2_with fail
   refine CE.out.mono ?_
   rintro e w2 ⟨rfl, hE⟩
   have T := ET.out _ hE
   replace T := Lib.hid T
   clear CE ET
   go_wp2_with fail
   go_end0
   exact ⟨rfl, T⟩

end Go.Proofs.YtkafkdlgflkjgaaGreat

/-
  The program's disk: Flush, Crash. By an AI agent.
-/
namespace Go.Proofs.YtkafkdlgflkjgaaGreat
open Go.RowKit Go.Maps

set_option maxHeartbeats 1000000 in
set_option maxRecDepth 100000 in
theorem keepAll_any (i : Nat) (w : World) : Calls Tryz.prog 253 (#[.int .i64 (i : Int)] ++ #[]) w (fun e w' => e = .returned (.bool true) ∧ w' = w) := by
 show Calls Tryz.prog 253 #[.int .i64 (i : Int)] w _
 go_enter Tryz.func253, Tryz.ntmps253
 go_wp2_with fail
 go_ret
 exact ⟨rfl, rfl⟩

set_option maxHeartbeats 1000000 in
set_option maxRecDepth 100000 in
theorem dflush_any (g : Nat) (F : List Nat) (d : Dk) (w : World) (h : (DiskT g d F).P w) :
 Calls Tryz.prog 225 #[.pointer (some ⟨g, 0, none⟩)] w fun e w' => e = .returned (.int .u16 ((d.flushErr : Nat) : Int)) ∧ Hid (Turns w F (DiskT g d.flush) w') := by
 have h' : DiskIn w g F d := h
 obtain ⟨gd, mb, cv, r⟩ := h'.rep
 have c3 := r.blk.cell (j := 3) rfl
 by_cases hbad : d.bad = true
 ·have e1 : d.flushErr = 2 := by unfold Dk.flushErr; rw [if_pos hbad]
  have e2 : d.flush = d := by unfold Dk.flush; rw [if_pos hbad]
  have T0 : Turns w F (DiskT g d) w := ⟨F, h, fun k hk => .inl hk, Chg.refl _ _⟩
  rw [hbad] at c3
  rw [e1, e2]
  replace T0 := Lib.hid T0
  clear h h' r e1 e2
  go_enter Tryz.func225, Tryz.ntmps225
  go_wp2_with fail
  go_ret
  exact ⟨rfl, T0⟩
 have hb0 : d.bad = false := by simpa using hbad
 rw [hb0] at c3
 obtain ⟨e1, e2⟩ := Dk.flush_ok hb0
 rw [e1, e2]
 have S := dsettle_any g F d (List.replicate d.cache.length true) 253 #[] w h enters_flush (fun i w' hi _ => by
  have := keepAll_any i w'
  rw [show (List.replicate d.cache.length true).getD i false = true by simp [List.getD, hi]]
  exact this)
 rw [Dk.kept_all _ 0 d.cache (fun j _ hj => by
  have hj' : j < d.cache.length := by omega
  simp [List.getD, hj'])] at S
 replace S := Lib.hid S
 replace hb0 := Lib.hid hb0
 replace hbad := Lib.hid hbad
 clear h h' r e1 e2
 go_enter Tryz.func225, Tryz.ntmps225
 go_wp2_with fail
 refine S.out.mono ?_
 rintro e w2 ⟨rfl, hT⟩
 have T := Lib.hid hT
 clear S hT
 go_wp2_with fail
 go_ret
 exact ⟨rfl, T⟩

set_option maxHeartbeats 1000000 in
set_option maxRecDepth 100000 in
theorem keepSome_any (kb : Nat) (ko : Option Addr) (kc : Nat) (keep : List Bool) (i : Nat) (w : World) (_hi : i < 9223372036854775807) (hk : w.cell? ⟨kb, 0, none⟩ = some (.slice ko keep.length kc)) (hv : RdV w (.slice ko keep.length kc) (keep.map Value.bool)) :
 Calls Tryz.prog 207 #[.int .i64 (i : Int), .pointer (some ⟨kb, 0, none⟩)] w (fun e w' => e = .returned (.bool (keep.getD i false)) ∧ w' = w) := by
 have hi0 : (0 : Int) ≤ i := Int.natCast_nonneg _
 by_cases hlt : i < keep.length
 ·obtain ⟨b, hb⟩ : ∃ b, keep[i]? = some b := ⟨_, List.getElem?_eq_getElem hlt⟩
  have hkq : (keep.map Value.bool)[i]? = some (.bool b) := by rw [List.getElem?_map, hb]; rfl
  have hg : keep.getD i false = b := by rw [List.getD_eq_getElem?_getD, hb]; rfl
  obtain ⟨vb, vo, rfl, ck⟩ := hv.at hkq
  have h1 : (i : Int) < keep.length := by omega
  rw [hg]
  clear hv hkq hg hb
  go_enter Tryz.func207, Tryz.ntmps207
  go_wp2_with fail
  go_ret
  exact ⟨rfl, rfl⟩
 ·have h1 : ¬ (i : Int) < keep.length := by omega
  have hg : keep.getD i false = false := by rw [List.getD_eq_getElem?_getD, List.getElem?_eq_none (by omega)]; rfl
  rw [hg]
  clear hv hg
  go_enter Tryz.func207, Tryz.ntmps207
  go_wp2_with fail
  go_ret
  exact ⟨rfl, rfl⟩

set_option maxHeartbeats 1000000 in
set_option maxRecDepth 100000 in
theorem dcrash_any (g : Nat) (F : List Nat) (d : Dk) (v : Value) (keep : List Bool) (w : World) (h : (DiskT g d F).P w) (hv : RdV w v (keep.map Value.bool)) (hold : keep ≠ [] → ∀ k, v.ownBlock = some k → k ∉ F ∧ k < w.heap.size) :
 Calls Tryz.prog 146 #[.pointer (some ⟨g, 0, none⟩), v] w fun e w' => e = .returned (.tuple #[]) ∧ Hid (Turns w F (DiskT g (d.crash keep)) w') := by
 have h' : DiskIn w g F d := h
 have e2 : d.crash keep = { d with last := (Dk.kept keep 0 d.cache).foldl Dk.lay d.last, cache := [] } := by
  by_cases hb : d.bad = true
  ·have hn := h'.fit.off hb
   unfold Dk.crash
   rw [if_pos hb, hn]
   cases d
   simp only at hn
   subst hn
   rfl
  ·exact Dk.crash_ok (by simpa using hb) keep
 rw [e2]
 obtain ⟨gd, mb, cv, r⟩ := h'.rep
 obtain ⟨co, cc, hcv, hcc1, hcc2⟩ := r.bound
 obtain ⟨ko, kc, rfl⟩ := hv.slice
 rw [List.length_map] at hv hold ⊢
 have CA : Chg [] w (w.alloc (.cells #[.slice ko keep.length kc] 59)) := (Chg.refl _ _).alloc _
 have BK := Blk.made w [.slice ko keep.length kc] 59
 have hA : (DiskT g d F).P (w.alloc (.cells #[.slice ko keep.length kc] 59)) := (DiskT g d F).stays _ _ [] h CA (fun _ _ => by simp)
 have hne : ∀ k ∈ F, k ≠ w.heap.size := fun k hk e => by have := h'.lt k hk; omega
 have S := dsettle_any g F d keep 207 #[.pointer (some ⟨w.heap.size, 0, none⟩)] _ hA enters_crash (fun i w' hi c => by
  refine keepSome_any w.heap.size ko kc keep i w' (by omega) ((BK.chg c (fun hm => hne _ hm rfl)).cell (j := 0) rfl) ?_
  by_cases hk : keep = []
  ·subst hk
   exact .inl ⟨rfl, _, _, rfl⟩
  ·exact (hv.chg CA (fun _ _ => by simp)).chg c (fun k hk2 => (hold hk k hk2).1))
 have ST : Hid (∀ w', Turns (w.alloc (.cells #[.slice ko keep.length kc] 59)) F (DiskT g { d with last := (Dk.kept keep 0 d.cache).foldl Dk.lay d.last, cache := [] }) w' → Turns w F (DiskT g { d with last := (Dk.kept keep 0 d.cache).foldl Dk.lay d.last, cache := [] }) w') := fun w' ht => by
  obtain ⟨F2, t1, t2, t3⟩ := ht
  refine ⟨F2, t1, fun k hk => ?_, (CA.mono (by simp)).trans t3⟩
  rcases t2 k hk with q | q
  ·exact .inl q
  ·exact .inr (by have := CA.size; omega)
 replace S := Lib.hid S
 have hmf : ∀ (fn : Fn) (first cap : Array Value) (w : World), (Instr.makeFunc fn first cap).run Tryz.prog w = .ok (.func fn first cap) w := fun _ _ _ _ => rfl
 clear h h' r e2 hv hold CA BK hA hne
 go_enter Tryz.func146, Tryz.ntmps146
 go_wp2_with fail
 refine S.out.mono ?_
 rintro e w2 ⟨rfl, hT⟩
 have T := Lib.hid (ST.out _ hT)
 clear S hT ST
 go_wp2_with fail
 go_end0
 exact ⟨rfl, T⟩

end Go.Proofs.YtkafkdlgflkjgaaGreat

/-
  The program's disk: Load. By an AI agent.
-/
namespace Go.Proofs.YtkafkdlgflkjgaaGreat
open Go.RowKit Go.Maps

/-- A disk into which the first k sectors have been laid. -/
def laid (n : Nat) (b : List Nat) (k : Nat) : Dk := ⟨(secs n b).take k ++ List.replicate (n - k) (List.replicate 128 0), [], false⟩

end Go.Proofs.YtkafkdlgflkjgaaGreat
