/-
  The program's scan: what the laws use. By an AI agent.
-/
import Derived.Test.YtnkdgmnmmmjgjaaGreatBScChk
import Derived.Test.YtnkdgmnmmmjgjaaGreatBScReg
import Derived.Test.YtnkdgmnmmmjgjaaGreatBScSpec
import Derived.Test.YtnkdgmnmmmjgjaaGreatBRcEsc
import Derived.Test.YtnkdgmnmmmjgjaaGreatBGIn
import Derived.Test.YtnkdgmnmmmjgjaaGreatBGOwnMem
namespace Go.Proofs.YtnkdgmnmmmjgjaaGreat
open Crc Go.RowKit

set_option maxHeartbeats 4000000 in
set_option maxRecDepth 100000 in
theorem sectors_no (ep sq : Nat) (v : Value) (ds : List PtD) (w : World) (h : Pts w v ds) (h0 : scErr ep sq ds ≠ 0) : Calls Tryz.prog 7 #[.int .u64 (ep : Int), .agg #[.int .u64 (sq : Int), v]] w fun e w' => e = .returned (.tuple #[.slice none 0 0, .int .u16 (scErr ep sq ds)]) ∧ Hid (Chg [] w w') := by
  have CKC : Hid (∀ w', Chg [] w w' → Calls Tryz.prog 22 #[.int .u64 (ep : Int), .agg #[.int .u64 (sq : Int), v]] w' fun e w'' => e = .returned (.int .u16 (scErr ep sq ds)) ∧ Hid (Chg [] w' w'')) := fun w' c => check_any ep sq v ds w' (h.chg c)
  obtain ⟨ao, vc, rfl⟩ := h.slice
  obtain ⟨E, hE⟩ : ∃ E, E = scErr ep sq ds := ⟨_, rfl⟩
  rw [← hE] at CKC h0 ⊢
  have ht : (E != 0) = true := by simpa using h0
  clear hE h h0
  have W0 : Hid (∀ w', Chg [] (w.alloc (.cells #[.int .u64 (sq : Int), .slice ao ds.length vc] 25)) w' → w'.cell? ⟨w.heap.size, 0, none⟩ = some (.int .u64 (sq : Int)) ∧ w'.cell? ⟨w.heap.size, 1, none⟩ = some (.slice ao ds.length vc) ∧ Chg [] w w') := fun w' c =>
    ⟨((Blk.made w _ _).chg c (by simp)).cell (j := 0) rfl, ((Blk.made w _ _).chg c (by simp)).cell (j := 1) rfl, ((Chg.refl _ _).alloc _).trans c⟩
  obtain ⟨wb, hwb⟩ : ∃ wb, wb = (w.alloc (.cells #[.int .u64 (sq : Int), .slice ao ds.length vc] 25)) := ⟨_, rfl⟩
  rw [← hwb] at W0
  have CB : Hid (Chg [] w wb) := by rw [hwb]; exact (Chg.refl _ _).alloc _
  go_enter Tryz.func7, Tryz.ntmps7
  go_wp2_with fail
  rw [← hwb]
  refine (CKC.out _ CB.out).mono ?_
  rintro e w1 ⟨rfl, C1⟩
  go_wp2_with fail
  go_ret2
  exact ⟨rfl, CB.out.trans C1.out⟩

/-- What Of answers. -/
def OfAny (w : World) (bs : List Nat) (ep sq : Nat) (tl : Int) (e : Ending) (w' : World) : Prop :=
  (OfAsks bs.length ep sq tl ∧ OfGives w bs (bs.length / 128) ep sq tl.toNat e w') ∨ (¬ OfAsks bs.length ep sq tl ∧ OfRef w e w')

theorem of_any (ao : Option Addr) (len cap ep sq : Nat) (tl : Int) (bs : List Nat) (w : World) (hs : Sl w (.slice ao len cap) (ints bs)) (hb : Bs bs) (hcap : len ≤ cap) (hl : bs.length ≤ 1000000) (hep : ep < 18446744073709551616) (hsq : sq < 18446744073709551616) :
    Calls Tryz.prog 16 #[.slice ao len cap, .agg #[.int .u64 (ep : Int), .int .u64 (sq : Int), .int .i64 tl]] w (OfAny w bs ep sq tl) := by
  obtain ⟨o2, c2, e2⟩ := hs.slice
  rw [ints_length] at e2
  injection e2 with _ hlen _
  by_cases h : OfAsks len ep sq tl
  case neg =>
    refine (of_bad len ep sq tl h (by omega) hep hsq ao cap w).mono ?_
    intro e w' r
    exact .inr ⟨by rw [← hlen]; exact h, r⟩
  obtain ⟨h1, h2, h3, h4, h5⟩ := h
  obtain ⟨n, hn⟩ : ∃ n, n = len / 128 := ⟨_, rfl⟩
  obtain ⟨t, rfl⟩ : ∃ t : Nat, tl = (t : Int) := ⟨tl.toNat, by have h6 : (0 : Int) ≤ tl := h4.2.1; omega⟩
  obtain rfl : len = 128 * n := by omega
  obtain ⟨rb, ro, rfl, hlt⟩ : ∃ rb ro, ao = some ⟨rb, ro, none⟩ ∧ rb < w.heap.size := by
    rcases hs with ⟨hv, hx⟩ | ⟨b, o, c, hv, hlt, _⟩
    · obtain ⟨a3, c3, h6⟩ := hx
      injection h6 with _ h7 _
      omega
    · injection hv with h6 _ _
      exact ⟨b, o, h6, hlt⟩
  have ok : OfOk n ep sq t bs := ⟨hlen.symm, by omega, by omega, h4, by omega⟩
  refine (of_ok ok hb rb ro cap w hcap hlt hs).mono ?_
  intro e w' g
  refine .inl ⟨by rw [← hlen]; exact ⟨h1, h2, h3, h4, h5⟩, ?_⟩
  rw [← hlen, ← hn]
  exact g

theorem sl_at {w : World} {ao : Option Addr} {n c : Nat} {xs : List Int} (h : Sl w (.slice ao n c) xs) {k : Nat} (hk : k < xs.length) : ∃ g o, ao = some ⟨g, o, none⟩ ∧ w.cell? ⟨g, o + k, none⟩ = some (.int .u8 (xs.getD k 0)) := by
  rcases h with ⟨rfl, _⟩ | ⟨b, o, cp, hv, hb, h⟩
  · simp at hk
  · obtain ⟨rfl, -, -⟩ : ao = some ⟨b, o, none⟩ ∧ n = xs.length ∧ c = cp := by simpa using hv
    exact ⟨b, o, rfl, h k hk⟩

/-- A row that came out. -/
theorem row_get {vs : List Rw} {S : List (List Nat)} (hv : vs.map (·.2) = S.map ub) {i : Nat} {s : List Nat} (hi : S[i]? = some s) : ∃ p, vs[i]? = some p ∧ p.2 = ub s := by
  have hr : (vs.map (·.2))[i]? = some (ub s) := by rw [hv, List.getElem?_map, hi]; rfl
  rw [List.getElem?_map] at hr
  exact Option.map_eq_some_iff.1 hr

theorem rows_len {vs : List Rw} {S : List (List Nat)} (hv : vs.map (·.2) = S.map ub) : vs.length = S.length := by have := congrArg List.length hv; simpa using this

theorem row_cell {w0 w : World} {ts : List Thing} {lv : Value} {vs : List Rw} (h : Side w0 w ts) (j : Nat) (hj : ts[j]? = some (wideT 1 55 lv (rwSlots vs))) {i : Nat} {p : Rw} (hp : vs[i]? = some p) :
    ∃ g x, lv = .slice (some ⟨g, 0, none⟩) vs.length x ∧ w.cell? ⟨g, i, none⟩ = some p.1 := by
  have ol : OwnW 1 w 0 55 lv (rwSlots vs) := h.get j hj
  have R := ol.rd
  obtain ⟨lo, lc, hlv⟩ := R.slice
  rw [show (rwSlots vs).length = vs.length by simp [rwSlots]] at hlv
  subst hlv
  obtain ⟨g, rfl, hc2⟩ := R.at (k := i) (x := [p.1]) (by unfold rwSlots; rw [List.getElem?_map, hp]; rfl)
  exact ⟨g, lc, rfl, by have := hc2 0 p.1 rfl; simpa using this⟩

theorem row_sl {w0 w : World} {ts : List Thing} {vs : List Rw} (h : Side w0 w ts) (j : Nat) (hj : ts[j]? = some (poolT vs)) {i : Nat} {p : Rw} (hp : vs[i]? = some p) {s : List Nat} (hs : p.2 = ub s) : Sl w p.1 (ints s) ∧ Cap p.1 := by
  have pl : Pool w vs := h.get j hj
  obtain ⟨e1, ho⟩ := pl.row p (List.mem_of_getElem? hp)
  rw [hs] at ho
  exact ⟨Sl.owned (show w.ownsRow 0 e1 1 p.1 (ub s).length ((ints s).map (Value.int .u8)) from ho), owned_capd ho⟩


theorem own_some {w : World} {base n : Nat} {e : TypeId} {v : Value} {xs : List Value} (h : w.ownsRow base e 1 v n xs) (hn : 0 < n) : ∃ g c, v = .slice (some ⟨g, 0, none⟩) n c ∧ base ≤ g := by
  rcases h.2 with ⟨_, h2⟩ | ⟨g, cap, cur, hv, hb, _⟩
  · omega
  · exact ⟨g, cap, hv, hb⟩

theorem wrap_sc {z : Int} (h1 : -1000000000 ≤ z) (h2 : z ≤ 1000000000) : IntKind.i64.wrap z = z ∧ wrap64 z = z := by
  refine ⟨?_, ?_⟩
  · rw [IntKind.wrap_i64]; omega
  · unfold wrap64; omega

/-- The first j bytes of a sector are laid. -/
def laying (cur : List Nat) (k : Nat) (s : List Nat) (j : Nat) : List Nat := cur.take k ++ s.take j ++ cur.drop (k + j)

theorem laying_zero (cur : List Nat) (k : Nat) (s : List Nat) : laying cur k s 0 = cur := by simp [laying]

theorem laying_len {cur s : List Nat} {k j : Nat} (h : k + j ≤ cur.length) (hj : j ≤ s.length) : (laying cur k s j).length = cur.length := by
  simp only [laying, List.length_append, List.length_take, List.length_drop]
  omega

theorem laying_set {cur s : List Nat} {k j x : Nat} (h : k + j < cur.length) (hj : s[j]? = some x) : (laying cur k s j).set (k + j) x = laying cur k s (j + 1) := by
  obtain ⟨hl, rfl⟩ := List.getElem?_eq_some_iff.1 hj
  unfold laying
  have e1 : cur.drop (k + j) = cur[k + j] :: cur.drop (k + (j + 1)) := by rw [List.drop_eq_getElem_cons h]; rfl
  have e2 : (cur.take k ++ s.take j).length = k + j := by simp only [List.length_append, List.length_take]; omega
  rw [e1, List.set_append_right (k + j) _ (by omega), e2, Nat.sub_self, List.set_cons_zero, List.take_succ_eq_append_getElem hl]
  simp only [List.append_assoc, List.cons_append, List.nil_append]

theorem laying_all {cur s : List Nat} {p : Nat} (hs : s.length = 128) : laying cur (128 * (p % (cur.length / 128))) s 128 = Sc.lay cur p s := by
  unfold laying Sc.lay
  rw [List.take_of_length_le (l := s) (by omega)]

theorem info_byte2 : (Tryz.prog.info? 5).map (fun i => (i.zero, i.size, i.bytes)) = some (some (.int .u8 0), 1, 1) := by kernel_rfl


end Go.Proofs.YtnkdgmnmmmjgjaaGreat
namespace Go.Proofs.YtnkdgmnmmmjgjaaGreat.Sc
open Go.RowKit Crc

theorem secs_ok {ep sq : Nat} {l : List Pd} (hg : Good l) : ∀ s ∈ secs ep sq l, s.length = 128 ∧ Bs s := fun s hs => by
  obtain ⟨j, hj⟩ := List.getElem?_of_mem hs
  have hl : j < 2 * l.length + 1 := by rw [← secs_len ep sq l]; exact (List.getElem?_eq_some_iff.1 hj).1
  have A : ∀ i, i < l.length → PtOk (at' l i) := fun i hi => by rw [at'_eq (List.getElem?_eq_getElem hi)]; exact hg.2.2 _ (List.getElem_mem hi)
  by_cases c : j = 2 * l.length
  · subst c
    rw [secs_cm] at hj
    cases hj
    exact ⟨Rec.sector_length (by show (2 : Nat) ≤ 25; decide), Rec.sector_bs _⟩
  · obtain ⟨i, rfl | rfl⟩ : ∃ i, j = 2 * i ∨ j = 2 * i + 1 := ⟨j / 2, by omega⟩
    · rw [secs_hd ep sq (by omega)] at hj
      cases hj
      exact ⟨Rec.sector_length (by show (6 : Nat) ≤ 25; decide), Rec.sector_bs _⟩
    · rw [secs_dt ep sq (by omega)] at hj
      cases hj
      have h := A i (by omega)
      exact ⟨esc_len h.2.2.1, esc_bs h.2.2.1 h.2.2.2⟩

theorem chain_ok {ep : Nat} : ∀ {L : List (List Pd)} {sq : Nat}, (∀ l ∈ L, Good l) → ∀ s ∈ chain ep sq L, s.length = 128 ∧ Bs s
  | [], _, _, s, hs => by cases hs
  | l :: L, sq, h, s, hs => by
    rcases List.mem_append.1 hs with k | k
    · exact secs_ok (h l (List.mem_cons_self ..)) s k
    · exact chain_ok (fun x hx => h x (List.mem_cons_of_mem _ hx)) s k

def noughts (n : Nat) : List Nat := List.replicate n 0

theorem noughts_len (n : Nat) : (noughts n).length = n := List.length_replicate ..

theorem noughts_bs (n : Nat) : Bs (noughts n) := fun x hx => by rw [(List.mem_replicate.1 hx).2]; decide

theorem sec_noughts {n : Nat} (hn : 1 ≤ n) (q : Nat) : sec (noughts (128 * n)) q = zeros := by
  have hl : (noughts (128 * n)).length = 128 * n := noughts_len _
  have h1 := place_lt (ring := noughts (128 * n)) (by omega) q
  unfold sec cut
  rw [hl] at h1 ⊢
  unfold noughts zeros
  rw [List.drop_replicate, List.take_replicate]
  congr 1
  omega

/-- A ring of noughts with batches. -/
def ringed (n at_ sq : Nat) (L : List (List Pd)) : List Nat := layK (noughts (128 * n)) at_ (chain 9 sq L) (chain 9 sq L).length

def p0 : Pd := ⟨0, 0, zeros⟩

theorem good0 : Good [p0] := ⟨by decide, by decide, fun p hp => by
  rw [List.mem_singleton.1 hp]
  exact ⟨Nat.zero_le _, Nat.zero_le _, by simp [p0, zeros], fun x hx => by rw [(List.mem_replicate.1 hx).2]; decide⟩⟩

def knownRing : List Nat := layK (noughts 640) 3 (secs 1 1 [p0]) 3

theorem known_sec : ∀ (j : Nat) (s : List Nat), (secs 1 1 [p0])[j]? = some s → sec knownRing (3 + j) = s := fun j s h => by
  have hj : j < 3 := by rw [show 3 = (secs 1 1 [p0]).length by rw [secs_len]; rfl]; exact (List.getElem?_eq_some_iff.1 h).1
  exact sec_layK (by rw [noughts_len]; decide) (fun s hs => (secs_ok good0 s hs).1) 3 (by rw [secs_len]; decide) (by rw [noughts_len]; decide) hj h

theorem known_len : knownRing.length = 640 := by
  unfold knownRing
  rw [layK_len (by rw [noughts_len]; decide) (fun s hs => (secs_ok good0 s hs).1) 3 (by rw [secs_len]; decide), noughts_len]

theorem known_bs : Bs knownRing := layK_bs (noughts_bs _) (fun s hs => (secs_ok good0 s hs).2) 3 3

theorem known_done : Done knownRing 1 3 1 [[p0]] 3 := by
  have hc : chain 1 1 [[p0]] = secs 1 1 [p0] := by simp [chain]
  have hl : (chain 1 1 [[p0]]).length = 3 := by rw [hc, secs_len]; rfl
  have h := from_done (ring := knownRing) (ep := 1) (at_ := 3) (sq := 1) known_bs (by decide) (by decide) (L := [[p0]]) (by rw [hc]; exact known_sec) (fun q hq => by
    unfold knownRing
    rw [sec_layK_other (by rw [noughts_len]; decide) (fun s hs => (secs_ok good0 s hs).1) 3 (by rw [secs_len]; decide) (fun j hj => by
      have := hq j (by rw [hl]; exact hj)
      rw [known_len] at this
      rw [noughts_len]; exact this)]
    exact sec_noughts (n := 5) (by decide) q) (fun l hl => by rw [List.mem_singleton.1 hl]; exact good0) (by rw [hl, known_len]; decide) (by decide) (i := 0) (by decide)
  rw [known_len] at h
  simp only [List.take_zero, List.drop_zero, Nat.add_zero] at h
  rw [hl] at h
  exact h

theorem known_none : Done knownRing 2 3 1 [] 0 := epoch_done (laid_of known_sec) ⟨by decide, by decide, by decide⟩ good0 (by decide)


end Go.Proofs.YtnkdgmnmmmjgjaaGreat.Sc
namespace Go.Proofs.YtnkdgmnmmmjgjaaGreat
open Go.RowKit Crc

def ptK (v : Value) : PtD := ⟨0, 0, v, ints Sc.zeros⟩

theorem zerosK_bs : Bs Sc.zeros := fun x hx => by rw [(List.mem_replicate.1 hx).2]; decide

theorem zerosK_len : (ints Sc.zeros).length = 128 := by rw [ints_length]; exact List.length_replicate ..

theorem scErr_known (v : Value) : scErr 1 1 [ptK v] = 0 := by
  have h1 : farP (ptK v) = false := by unfold farP ptK; simp
  have h2 : shortP (ptK v) = false := by unfold shortP ptK; dsimp only; rw [zerosK_len]; decide
  unfold scErr
  rw [if_pos (by rw [List.length_singleton]; decide), if_neg, if_neg]
  · rw [List.any_cons, h2]; simp
  · rw [List.any_cons, h1]
    unfold farN
    simp

theorem pd_known (v : Value) : [ptK v].map pdOf = [Sc.p0] := by
  rw [List.map_singleton]
  unfold pdOf ptK Sc.p0
  dsimp only
  rw [nats_ints]
  rfl

theorem secK (v : Value) (W : World) (c : Value) (hc : Cap c) (h : Pts W v [ptK c]) : Calls Tryz.prog 7 #[.int .u64 ((1 : Nat) : Int), .agg #[.int .u64 ((1 : Nat) : Int), v]] W (SecGives W 1 1 [Sc.p0]) := by
  have k := sectors_ok 1 1 v [ptK c] W h (fun d hd => by
    rw [List.mem_singleton.1 hd]
    exact ⟨ints_by zerosK_bs, hc⟩) (scErr_known _)
  rw [pd_known] at k
  exact k

/-- What Of tells of the ring of 'known'. -/
def OfK (w : World) (k nx hd us : Nat) (e : Ending) (w' : World) : Prop := ∃ ao c, e = .returned (.tuple #[.agg #[.slice ao k c, .int .u64 (nx : Int), .int .i64 (hd : Int), .int .i64 (us : Int)], .int .u16 0]) ∧ Hid (Chg [] w w')

theorem of_done {bs : List Nat} {n ep sq tl u : Nat} {L : List (List Pd)} (hd : Sc.Done bs ep tl sq L u) (ok : OfOk n ep sq tl bs) (hb : Bs bs) (rb ro cap : Nat) (w : World) (hcap : 128 * n ≤ cap) (hrb : rb < w.heap.size) (hsl : Sl w (.slice (some ⟨rb, ro, none⟩) (128 * n) cap) (ints bs)) :
    Calls Tryz.prog 16 #[.slice (some ⟨rb, ro, none⟩) (128 * n) cap, .agg #[.int .u64 (ep : Int), .int .u64 (sq : Int), .int .i64 (tl : Int)]] w (OfK w L.length (sq + L.length) ((tl + u) % n) u) := by
  refine (of_ok ok hb rb ro cap w hcap hrb hsl).mono ?_
  rintro e w' ⟨tv, T, u', D, rfl, H⟩
  obtain ⟨e1, rfl⟩ := D.uniq hd
  have hl : T.length = L.length := by rw [← e1]; simp [found]
  have ow : OwnW 2 w' 0 25 tv (txSlots sq T) := H.out.get 0 rfl
  obtain ⟨ao, c, hv⟩ := ow.slice
  rw [txSlots_len, hl] at hv
  refine ⟨ao, c, ?_, H.out.chg⟩
  rw [hv, hl]
  rfl

theorem known_ub : ub Sc.zeros = List.replicate 128 (.int .u8 0) := by
  unfold ub ints Sc.zeros
  rw [List.map_replicate, List.map_replicate]
  rfl

theorem noughts_ub (n : Nat) : ub (Sc.noughts n) = List.replicate n (.int .u8 0) := by
  unfold ub ints Sc.noughts
  rw [List.map_replicate, List.map_replicate]
  rfl

theorem ub_set (l : List Nat) (i y : Nat) : ub (l.set i y) = (ub l).set i (.int .u8 (y : Int)) := by
  unfold ub ints
  rw [List.map_set, List.map_set]

theorem info_b8 : (Tryz.prog.info? 5).map (fun i => (i.zero, i.size, i.bytes)) = some (some (.int .u8 0), 1, 1) := by kernel_rfl

set_option maxHeartbeats 4000000 in
set_option maxRecDepth 100000 in
theorem known_any (w : World) : Calls Tryz.prog 12 #[] w fun e w' => e = .returned (.bool true) ∧ Hid (Chg [] w w') := by
  obtain ⟨i0, hi, hz0, hz1, hz2⟩ := info_parts info_b8
  replace hi := Lib.hid hi
  replace hz0 := Lib.hid hz0
  replace hz1 := Lib.hid hz1
  replace hz2 := Lib.hid hz2
  have SE : Hid (∀ v W, Pts W v [ptK (.slice (some ⟨w.heap.size, 0, none⟩) 128 128)] → Calls Tryz.prog 7 #[.int .u64 1, .agg #[.int .u64 1, v]] W (SecGives W 1 1 [Sc.p0])) := fun v W h =>
    secK v W _ (fun ao n c he => by cases he; exact Nat.le_refl _) h
  obtain ⟨S, hS⟩ : ∃ S, S = Sc.secs 1 1 [Sc.p0] := ⟨_, rfl⟩
  have hS3 : S.length = 3 := by rw [hS, Sc.secs_len]; rfl
  have HSO : Hid (∀ s ∈ S, s.length = 128 ∧ Bs s) := by rw [hS]; exact Sc.secs_ok Sc.good0
  have HR : Hid (Sc.layK (Sc.noughts 640) 3 S 3 = Sc.knownRing) := by rw [hS]; rfl
  have HL : Hid (∀ k, k ≤ 3 → (Sc.layK (Sc.noughts 640) 3 S k).length = 640) := fun k hk => by
    rw [Sc.layK_len (by rw [Sc.noughts_len]; decide) (fun s hs => (HSO.out s hs).1) 3 (by omega), Sc.noughts_len]
  have OF : Hid (∀ rb W, rb < W.heap.size → Sl W (.slice (some ⟨rb, 0, none⟩) 640 640) (ints Sc.knownRing) → Calls Tryz.prog 16 #[.slice (some ⟨rb, 0, none⟩) 640 640, .agg #[.int .u64 1, .int .u64 1, .int .i64 3]] W (OfK W 1 2 1 3) ∧ Calls Tryz.prog 16 #[.slice (some ⟨rb, 0, none⟩) 640 640, .agg #[.int .u64 2, .int .u64 1, .int .i64 3]] W (OfK W 0 1 3 0)) := fun rb W h1 h2 =>
    ⟨of_done Sc.known_done (n := 5) ⟨Sc.known_len, by decide, by decide, ⟨⟨by decide, by decide, by decide⟩, by decide, by decide⟩, by decide⟩ Sc.known_bs rb 0 640 W (Nat.le_refl _) h1 h2,
     of_done Sc.known_none (n := 5) ⟨Sc.known_len, by decide, by decide, ⟨⟨by decide, by decide, by decide⟩, by decide, by decide⟩, by decide⟩ Sc.known_bs rb 0 640 W (Nat.le_refl _) h1 h2⟩
  go_enter Tryz.func12, Tryz.ntmps12
  go_wp2_with (at_make; refine wpList_make_full _ rfl _ _ 55 rfl w.heap.size 5 i0 (.int .u8 0) 1 Tryz.underlying55 hi.out hz0.out hz1.out .i64 .i64 128 128 128 rfl rfl rfl rfl (by rw [hz2.out]; decide) (by decide) (by simp) ?_; intro w1 hown hgrow)
  rw [made_replicate _ _ rfl, ← known_ub] at hown
  have SL1 : Sl w1 (.slice (some ⟨w.heap.size, 0, none⟩) 128 128) (ints Sc.zeros) := Sl.owned (n := 128) hown
  have P1 := (Pts.one w1 (ptK (.slice (some ⟨w.heap.size, 0, none⟩) 128 128)) 72 SL1 (by show (ints Sc.zeros).length ≤ _; rw [zerosK_len]; decide)).chg ((Chg.refl [] _).alloc (.cells #[.int .u64 1, .slice (some ⟨w1.heap.size, 0, none⟩) 1 1] 25))
  have C1 : Chg [] w w1 := (Chg.refl _ _).grown hgrow (fun k hk => by cases hk)
  have C2 := (C1.alloc (.cells #[.int .i64 0, .int .i64 0, .slice (some ⟨w.heap.size, 0, none⟩) 128 128] 72)).alloc (.cells #[.int .u64 1, .slice (some ⟨w1.heap.size, 0, none⟩) 1 1] 25)
  refine (SE.out _ _ P1).mono ?_
  rintro e w2 ⟨lv, vs, rfl, VS, H2⟩
  have H : Hid (Side w w2 (rowsTs lv vs)) := Side.rebase' C2 H2.out
  rw [← hS] at VS
  have LV : vs.length = 3 := by rw [rows_len VS.out, hS3]
  obtain ⟨p1, hp1, _⟩ := row_get VS.out (i := 0) (s := S[0]'(by omega)) (List.getElem?_eq_getElem (by omega))
  obtain ⟨g, x, hlv, _⟩ := row_cell H.out 0 rfl hp1
  rw [LV] at hlv
  subst hlv
  clear SE SL1 P1 C1 C2 hown hgrow H2 hp1 hS
  go_wp2_with (at_make; refine wpList_make_full _ rfl _ _ 55 rfl w2.heap.size 5 i0 (.int .u8 0) 1 Tryz.underlying55 hi.out hz0.out hz1.out .i64 .i64 640 640 640 rfl rfl rfl rfl (by rw [hz2.out]; decide) (by decide) (by simp) ?_; intro w3 hown hgrow)
  rw [made_replicate _ _ rfl, ← noughts_ub] at hown
  have H3 : Hid (Side w w3 (ownT 5 (.slice (some ⟨w2.heap.size, 0, none⟩) 640 640) (ub (Sc.noughts 640)) :: rowsTs (.slice (some ⟨g, 0, none⟩) 3 x) vs)) := H.out.own hown ((Chg.refl _ _).grown hgrow (by intro k hk; cases hk))
  clear hown hgrow H
  generalize w2.heap.size = G at *
  go_loopw [5] (fun i wr => ∃ k : Nat, k ≤ 3 ∧ i = .int .i64 k ∧ Hid (Side w wr (ownT 5 (.slice (some ⟨G, 0, none⟩) 640 640) (ub (Sc.layK (Sc.noughts 640) 3 S k)) :: rowsTs (.slice (some ⟨g, 0, none⟩) 3 x) vs))) (fun i _ => 3 - (intOf i).toNat)
  case atStart => exact ⟨0, by omega, rfl, H3⟩
  case round =>
    obtain ⟨k, hk, rfl, H⟩ := hrel
    clear H3
    have hk0 : (0 : Int) ≤ k := Int.natCast_nonneg _
    by_cases hlt : k < 3
    · have hk1 : (k : Int) < 3 := by omega
      obtain ⟨s, hs⟩ : ∃ s, S[k]? = some s := ⟨_, List.getElem?_eq_getElem (by omega)⟩
      obtain ⟨p, hp, hps⟩ := row_get VS.out hs
      have hs8 := (HSO.out s (List.mem_of_getElem? hs)).1
      obtain ⟨g', x', hg', hcell⟩ := row_cell H.out 1 rfl hp
      obtain ⟨rfl, -, -⟩ : g = g' ∧ 3 = vs.length ∧ x = x' := by simpa using hg'
      obtain ⟨hsl, hcap⟩ := row_sl H.out 2 rfl hp hps
      obtain ⟨ao, cc, hv⟩ := hsl.slice
      rw [ints_length, hs8] at hv
      have hsD : S.getD k [] = s := by rw [List.getD_eq_getElem?_getD, hs]; rfl
      obtain ⟨cur, hcur⟩ : ∃ cur, cur = Sc.layK (Sc.noughts 640) 3 S k := ⟨_, rfl⟩
      have hcl : cur.length = 640 := by rw [hcur]; exact HL.out k (by omega)
      have hnx : Hid (laying cur (128 * ((3 + k) % 5)) s 128 = Sc.layK (Sc.noughts 640) 3 S (k + 1)) := by
        have h1 : (3 + k) % 5 = (3 + k) % (cur.length / 128) := by rw [hcl]
        show _ = Sc.lay (Sc.layK (Sc.noughts 640) 3 S k) (3 + k) (S.getD k [])
        rw [← hcur, hsD, h1]
        exact laying_all hs8
      rw [← hcur] at H
      obtain ⟨M, hM⟩ : ∃ M, M = 128 * ((3 + k) % 5) := ⟨_, rfl⟩
      have hM2 : M + 128 ≤ 640 := by omega
      obtain ⟨P, hP⟩ : ∃ P, P = (3 + k) % 5 := ⟨_, rfl⟩
      have q2 : (3 + (k : Int)) % 5 = (P : Int) := by omega
      have q1 : Int.tmod (3 + (k : Int)) 5 = (P : Int) := (Int.tmod_eq_emod_of_nonneg (by omega)).trans q2
      have q3 : (P : Int) * 128 = (M : Int) := by omega
      rw [← hM] at hnx
      have H4 : Hid (Side w wr (ownT 5 (.slice (some ⟨G, 0, none⟩) 640 640) (ub (laying cur M s 0)) :: rowsTs (.slice (some ⟨g, 0, none⟩) 3 x) vs)) := by rw [laying_zero]; exact H
      have HPV : Hid (p.1 = .slice ao 128 cc) := hv
      have HP := Lib.hid hp
      have HPS := Lib.hid hps
      have HS8 := Lib.hid hs8
      have HCL := Lib.hid hcl
      have hM3 := Lib.hid hM2
      rw [hv] at hcell
      clear H hg' hsl hcap hv hs hp hps hs8 hsD hcur hcl hM hM2 hP
      go_wp2_with fail
      go_loopw [6] (fun i wr => ∃ j : Nat, j ≤ 128 ∧ i = .int .i64 j ∧ Hid (Side w wr (ownT 5 (.slice (some ⟨G, 0, none⟩) 640 640) (ub (laying cur M s j)) :: rowsTs (.slice (some ⟨g, 0, none⟩) 3 x) vs))) (fun i _ => 128 - (intOf i).toNat)
      case atStart => exact ⟨0, by omega, rfl, H4⟩
      case round =>
        obtain ⟨j, hj, rfl, H⟩ := hrel
        clear H4 hcell
        have hj0 : (0 : Int) ≤ j := Int.natCast_nonneg _
        by_cases hjl : j < 128
        · have hj1 : (j : Int) < 128 := by omega
          obtain ⟨g', x', hg', hcell⟩ := row_cell H.out 1 rfl HP.out
          obtain ⟨rfl, -, -⟩ : g = g' ∧ 3 = vs.length ∧ x = x' := by simpa using hg'
          have hsl := (row_sl H.out 2 rfl HP.out HPS.out).1
          rw [HPV.out] at hsl hcell
          obtain ⟨y, hy⟩ : ∃ y, s[j]? = some y := ⟨_, List.getElem?_eq_getElem (by rw [HS8.out]; exact hjl)⟩
          obtain ⟨b, o, rfl, hb⟩ := sl_at hsl (k := j) (by rw [ints_length, HS8.out]; exact hjl)
          rw [ints_get, List.getD_eq_getElem?_getD, hy, Option.getD_some] at hb
          obtain ⟨Z, hZ⟩ : ∃ Z, Z = M + j := ⟨_, rfl⟩
          obtain ⟨H2, hf, u0, hu⟩ := H.out.set 0 rfl (k := Z) (by rw [ub_len, laying_len (by have := hM3.out; rw [HCL.out]; omega) (by rw [HS8.out]; omega), HCL.out]; have := hM3.out; omega) (.int .u8 (y : Int))
          have e3 : (ub (laying cur M s j)).set Z (.int .u8 (y : Int)) = ub (laying cur M s (j + 1)) := by
            rw [hZ, ← laying_set (by have := hM3.out; rw [HCL.out]; omega) hy]
            exact (ub_set _ _ _).symm
          rw [e3] at H2
          replace H2 := Lib.hid H2
          have q4 : (M : Int) + j = (Z : Int) := by omega
          have z0 : (0 : Int) ≤ Z := by omega
          have z1 : (Z : Int) < 640 := by have := hM3.out; omega
          clear hg' hsl hy e3 hZ
          go_wp2_with fail
          exact ⟨⟨j + 1, by omega, by go_num, H2⟩, by simp [intOf]; omega⟩
        · obtain rfl : j = 128 := by omega
          rw [hnx.out] at H
          clear hjl hj hj0
          go_wp2_with fail
          exact ⟨⟨k + 1, by omega, by go_num, H⟩, by simp [intOf]; omega⟩
    · obtain rfl : k = 3 := by omega
      rw [HR.out] at H
      clear hlt hk hk0
      have SLR : Hid (∀ W, Chg [] wr W → Sl W (.slice (some ⟨G, 0, none⟩) 640 640) (ints Sc.knownRing) ∧ G < W.heap.size) := fun W c => by
        have h1 := (H.out.sl 0 rfl).chgNil c
        refine ⟨h1, ?_⟩
        rcases h1 with ⟨h2, _⟩ | ⟨b, o, cp, hv, hb, _⟩
        · have := congrArg List.length h2
          rw [ints_length, Sc.known_len] at this
          cases this
        · injection hv with h3 _ _
          injection h3 with h3
          injection h3 with h4 _ _
          rw [h4]; exact hb
      have CW := Lib.hid H.out.chg
      clear H LV VS HSO HR HL
      go_wp2_with fail
      obtain ⟨s1, s2⟩ := SLR.out wr (Chg.refl _ _)
      refine (OF.out G wr s2 s1).1.mono ?_
      rintro e w4 ⟨ao, c, rfl, C4⟩
      go_wp2_with fail
      have FB := Blk.made w4 [.slice ao 1 c, .int .u64 2, .int .i64 1, .int .i64 3] 61
      have C5 : Chg [] wr (w4.alloc (.cells #[.slice ao 1 c, .int .u64 2, .int .i64 1, .int .i64 3] 61)) := C4.out.alloc _
      obtain ⟨s1, s2⟩ := SLR.out _ C5
      refine (OF.out G _ s2 s1).2.mono ?_
      rintro e w5 ⟨ao2, c2, rfl, C6⟩
      have F6 := (FB.chg C6.out (by simp)).alloc (.cells #[.slice ao2 0 c2, .int .u64 1, .int .i64 3, .int .i64 0] 61)
      have E6 := Blk.made w5 [.slice ao2 0 c2, .int .u64 1, .int .i64 3, .int .i64 0] 61
      have x0 := F6.cell (j := 0) rfl
      have x1 := F6.cell (j := 1) rfl
      have x2 := F6.cell (j := 2) rfl
      have x3 := F6.cell (j := 3) rfl
      have y0 := E6.cell (j := 0) rfl
      have y1 := E6.cell (j := 1) rfl
      have y2 := E6.cell (j := 2) rfl
      have y3 := E6.cell (j := 3) rfl
      have CE : Hid (Chg [] w (w5.alloc (.cells #[.slice ao2 0 c2, .int .u64 1, .int .i64 3, .int .i64 0] 61))) := CW.out.trans ((C5.trans C6.out).alloc _)
      clear FB C5 s1 s2 C6 F6 E6 C4 CW SLR OF
      go_wp2_with fail
      go_ret
      exact ⟨rfl, CE.out⟩

theorem pdOf_toPt (p : Pv) : pdOf (toPt p) = p.1 := by
  obtain ⟨⟨m, r, bs⟩, v⟩ := p
  unfold pdOf toPt
  dsimp only
  rw [nats_ints]
  rfl

theorem outer_pd (A : List Pv) : (A.map toPt).map pdOf = dOf A := by
  unfold dOf
  rw [List.map_map]
  exact List.map_congr_left fun p _ => pdOf_toPt p

def rowDs (vs : List Rw) (S : List (List Nat)) : List RowD := (List.range S.length).map fun i => ⟨(vs.getD i (.slice none 0 0, [])).1, ints (S.getD i [])⟩

/-- Rows that came out, as they read. -/
theorem rows_rws' {w : World} {lv : Value} {vs : List Rw} {S : List (List Nat)} (ow : OwnW 1 w 0 55 lv (rwSlots vs)) (pl : ∀ p ∈ vs, OwnR w 0 p.1 p.2.length p.2) (hv : vs.map (·.2) = S.map ub) (h8 : ∀ x ∈ S, x.length = 128 ∧ Bs x) (hS : S.length ≤ 100000) : Rws w lv (rowDs vs S) := by
  have R := ow.rd
  have hl : (rowDs vs S).length = S.length := by simp [rowDs]
  have hvl := rows_len hv
  obtain ⟨lo, lc, hlv⟩ := R.slice
  rw [show (rwSlots vs).length = S.length by simp [rwSlots, hvl]] at hlv
  subst hlv
  by_cases hz : S.length = 0
  · refine .inl ⟨List.eq_nil_of_length_eq_zero (by rw [hl, hz]), lo, lc, ?_⟩
    rw [hz]
  have X : ∀ k, k < S.length → ∃ p s, vs[k]? = some p ∧ S[k]? = some s ∧ p.2 = ub s ∧ (rwSlots vs)[k]? = some [p.1] ∧ (rowDs vs S)[k]? = some ⟨p.1, ints s⟩ := fun k hk => by
    have hs : S[k]? = some S[k] := List.getElem?_eq_getElem hk
    obtain ⟨p, hp, hps⟩ := row_get hv hs
    refine ⟨p, _, hp, hs, hps, ?_, ?_⟩
    · unfold rwSlots; rw [List.getElem?_map, hp]; rfl
    · simp [rowDs, List.getElem?_map, List.getElem?_range hk, List.getD_eq_getElem?_getD, hp, hs]
  obtain ⟨p0, _, _, _, _, e0, _⟩ := X 0 (by omega)
  obtain ⟨g, rfl, _⟩ := R.at e0
  refine .inr ⟨g, 0, lc, by rw [hl], (ow.2.lt g (by simp [Value.ownBlock])).2, by rw [hl]; omega, fun k d hd => ?_⟩
  have hk : k < S.length := by rw [← hl]; exact (List.getElem?_eq_some_iff.1 hd).1
  obtain ⟨p, s, hp, hs, hps, e1, e2⟩ := X k hk
  obtain rfl : d = ⟨p.1, ints s⟩ := by rw [e2] at hd; exact (Option.some.inj hd).symm
  obtain ⟨g', hg', hc⟩ := R.at e1
  obtain rfl : g = g' := by injection hg' with h9; injection h9
  obtain ⟨e3, ho⟩ := pl p (List.mem_of_getElem? hp)
  rw [hps] at ho
  have hsl : Sl w p.1 (ints s) := Sl.owned (show w.ownsRow 0 e3 1 p.1 (ub s).length ((ints s).map (Value.int .u8)) from ho)
  exact ⟨by have := hc 0 p.1 rfl; simpa using this, hsl, ints_by (h8 s (List.mem_of_getElem? hs)).2, by show (ints s).length ≤ _; rw [ints_length, (h8 s (List.mem_of_getElem? hs)).1]; decide⟩

theorem rows_rws {w : World} {lv : Value} {vs : List Rw} {S : List (List Nat)} (ow : OwnW 1 w 0 55 lv (rwSlots vs)) (pl : Pool w vs) (hv : vs.map (·.2) = S.map ub) (h8 : ∀ x ∈ S, x.length = 128 ∧ Bs x) (hS : S.length ≤ 100000) : Rws w lv (rowDs vs S) :=
  rows_rws' ow pl.row hv h8 hS

theorem rowDs_bs (vs : List Rw) (S : List (List Nat)) : (rowDs vs S).map (·.bs) = S.map ints := by
  unfold rowDs
  rw [List.map_map]
  refine List.ext_getElem (by simp) (fun i h1 h2 => ?_)
  have hi : i < S.length := by simpa using h1
  simp [List.getElem?_eq_getElem hi]

end Go.Proofs.YtnkdgmnmmmjgjaaGreat
