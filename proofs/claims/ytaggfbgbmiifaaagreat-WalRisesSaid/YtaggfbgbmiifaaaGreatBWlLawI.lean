/-
  WalRises' walk: what is found again. By an AI agent.
-/
import Derived.Test.YtaggfbgbmiifaaaGreatBWlLawC
import Derived.Test.YtaggfbgbmiifaaaGreatBWlOpen
import Derived.Test.YtaggfbgbmiifaaaGreatBWlKnR
import Derived.Test.YtaggfbgbmiifaaaGreatBWlMuch
import Derived.Test.YtaggfbgbmiifaaaGreatBScReg
import Derived.Deep.QuietTactic
import Derived.BigQuiet
namespace Go.Proofs.YtaggfbgbmiifaaaGreat
open Go.RowKit Go.Maps Crc

namespace Wl

theorem Keeps.read {y : Bay} {s : Int} {d : Dk} {J : Jn} {L : List (List Pd)} {G : Option (List Pd)} (u : y.Up s d) (h : Keeps d J L G) (hlast : 2 + J.S ≤ d.last.length) :
    (rd s (y, 0) 1).2 = 0 ∧ rdV s (y, 0) 1 = Ck.enc ⟨J.ep, J.next - L.length, (J.t : Nat)⟩ ∧ (rds s (rd s (y, 0) 1) J.S).1.2 = 0 ∧ (rds s (rd s (y, 0) 1) J.S).2 = ringB J.S (fun p => d.now (2 + p)) ∧ y.Went (rds s (rd s (y, 0) 1) J.S).1.1 s d (1 + J.S) 0 0 := by
  obtain ⟨x1, x2, x3⟩ := rd_up u (p := 1) (by omega)
  rw [show ((1 : Nat) : Int) = 1 from rfl] at x1 x2 x3
  obtain ⟨y1, y2, y3⟩ := rds_up x2.up J.S hlast
  have hr : rd s (y, 0) 1 = ((rd s (y, 0) 1).1, 0) := Prod.ext rfl x1
  rw [← hr] at y1 y2 y3
  exact ⟨x1, by rw [x3]; exact h.ck, y1, y3, by simpa using x2.trans y2⟩

end Wl

/-- What Open gives of a journal's disk. -/
def Again (w0 : World) (b : Nat) (y : Bay) (s : Int) (d : Dk) (J : Wl.Jn) (L : List (List Pd)) (ts : List Thing) (e : Ending) (w' : World) : Prop :=
  ∃ W D R tv T F' y', found T = L ∧ y.Went y' s d (1 + J.S) 0 0 ∧ e = .returned (.tuple #[.pointer (some ⟨W, 0, none⟩), tv, .int .u16 0]) ∧
    Hid (Side w0 w' (jts b W D R (Wl.begun s J.S ⟨J.ep, J.next - L.length, (J.t : Nat)⟩ J.u J.next) (.slice none 0 0) y' F' (wideT 2 92 tv (txSlots (J.next - L.length) T) :: poolWT 3 105 (listsOf T) :: poolT (dataOf T) :: ts)))

theorem opnd_keeps {w0 w' : World} {b : Nat} {y : Bay} {s : Int} {d : Dk} {J : Wl.Jn} {L : List (List Pd)} {G : Option (List Pd)} {ts : List Thing} {e : Ending} (hO : Opnd w0 b y s (J.S : Int) ts e w') (u : y.Up s d) (h : Wl.Keeps d J L G) (n5 : 5 ≤ J.S) (n2 : J.S ≤ 2048) (ht : J.t < J.S) (hlast : 2 + J.S ≤ d.last.length) (hu : J.u ≤ J.S) (hn : numsOk J.ep J.next) : Again w0 b y s d J L ts e w' := by
  obtain ⟨r1, r2, r3, r4, r5⟩ := h.read u hlast
  have hck : Ck.derr (Ck.enc ⟨J.ep, J.next - L.length, (J.t : Nat)⟩) = 0 ∧ Ck.dval (Ck.enc ⟨J.ep, J.next - L.length, (J.t : Nat)⟩) = ⟨J.ep, J.next - L.length, (J.t : Nat)⟩ := by
    unfold Ck.enc
    rw [if_pos h.cok]
    exact Ck.back _ h.cok
  rcases hO with ⟨hno, _⟩ | ⟨n, hn', _, _, ⟨c1, _⟩ | ⟨_, c2, _⟩ | ⟨_, c3, c4, ⟨c5, _⟩ | ⟨_, W, D, R, tv, T, u', F', hD, he, hS⟩⟩⟩
  · exact absurd ⟨by omega, by omega⟩ hno
  · exact absurd r1 c1
  · rw [r2, hck.1, hck.2] at c2
    rcases c2 with q | q
    · exact absurd rfl q
    · have q : (n : Int) ≤ (J.t : Nat) := q
      omega
  · obtain rfl : J.S = n := by omega
    exact absurd r3 c5
  · obtain rfl : J.S = n := by omega
    rw [r2, hck.2, r4] at hD
    rw [r2, hck.2] at hS
    have hD : Sc.Done (Wl.ringB J.S fun p => d.now (2 + p)) J.ep J.t (J.next - L.length) (found T) u' := hD
    obtain ⟨q1, q2⟩ := (h.done n5 hu hn).uniq hD
    subst q2
    have hT : T.length = L.length := by rw [q1, found_len]
    refine ⟨W, D, R, tv, T, F', _, q1.symm, r5, he, ?_⟩
    have e2 : J.next - L.length + T.length = J.next := by have := h.nx; omega
    have hS : Hid (Side w0 w' (jts b W D R (Wl.begun s J.S ⟨J.ep, J.next - L.length, (J.t : Nat)⟩ J.u (J.next - L.length + T.length)) (.slice none 0 0) (Wl.rds s (Wl.rd s (y, 0) 1) J.S).1.1 F' (wideT 2 92 tv (txSlots (J.next - L.length) T) :: poolWT 3 105 (listsOf T) :: poolT (dataOf T) :: ts))) := hS
    rw [e2] at hS
    exact hS

/-- How a new journal stands behind so many ops. -/
def RSt (es : List WOpD) (n j : Nat) (y : Bay) (J : Wl.Jn) : Prop := ∃ d B Lw L G, CSt es n j y J d B Lw ∧ Wl.Keeps d J L G

theorem RSt.begin {es : List WOpD} {n : Nat} (n5 : 5 ≤ n) (n2 : n ≤ 2048) : RSt es n 0 (Wl.bgBay n) (Wl.bgJn n) := by
  obtain ⟨d, ok, k⟩ := Wl.bg_keeps n5 n2
  exact ⟨d, 3, 2050, [], none, ⟨ok, Nat.le_refl _, (Wl.fmtIo_low (Bay.new_low _) 0 n 1).mono (by omega), by omega, rfl, rfl⟩, k⟩

section
variable {es : List WOpD} {n j : Nat} {y : Bay} {J : Wl.Jn} {a : WOpD}

theorem RSt.call (h : RSt es n j y J) (hj : j ≤ 100000) (ha : es[j]? = some a) (hb : ∀ p ∈ a.pts, By p.d) : RSt es n (j + 1) (Wl.callJ y J a).bay (Wl.callJ y J a).jn ∧ (Wl.callJ y J a).jn.next = J.next + (if a.kind = 2 ∧ (Wl.callJ y J a).err = 0 then 1 else 0) := by
  obtain ⟨d, B, Lw, L, G, s, k⟩ := h
  obtain ⟨d', B', L', s'⟩ := s.call ha hb
  obtain ⟨x, u, k', hn, hs⟩ := k.call (a := a) s.ok (by have := s.b; omega) hb
  have u' := s'.ok.up
  rw [hs] at u'
  have e : d' = x := by have := u'.dev.symm.trans u.dev; simpa using this
  subst e
  exact ⟨⟨d', B', L', _, _, s', k'⟩, hn⟩

theorem RSt.low (h : RSt es n j y J) (hw : wopW es es.length ≤ 5000) : y.Low 20000 := by
  obtain ⟨d, B, Lw, L, G, s, k⟩ := h
  exact s.low.mono (s.bound hw)

theorem RSt.fit (h : RSt es n j y J) (hj : j ≤ 100000) : J.Fit ∧ J.slot = 0 ∧ J.S = n ∧ J.next ≤ 200000 := by
  obtain ⟨d, B, Lw, L, G, s, k⟩ := h
  exact ⟨s.fit hj, s.slot, s.size, by have := s.ok.next; have := s.b; omega⟩

/-- Opened again. -/
theorem RSt.open {w0 w' : World} {b : Nat} {ts : List Thing} {e : Ending} (h : RSt es n j y J) (hj : j ≤ 100000) (hO : Opnd w0 b y 0 (n : Int) ts e w') : ∃ d L, Again w0 b y 0 d J L ts e w' ∧ J.next - L.length + L.length = J.next ∧ J.next ≤ 200000 := by
  obtain ⟨d, B, Lw, L, G, s, k⟩ := h
  have hz := s.size
  rw [← hz] at hO
  have hu := s.ok.up
  rw [s.slot] at hu
  have h1 := s.ok.next
  have h2 := s.ok.ep
  have h3 := s.b
  have h4 := k.nx
  exact ⟨d, L, opnd_keeps hO hu k s.ok.lo s.ok.hi s.ok.tail s.ok.size s.ok.used ⟨by omega, by omega, by omega⟩, by omega, by omega⟩

end

set_option maxHeartbeats 4000000 in
set_option maxRecDepth 1000000 in
theorem wrises_any (w : World) (ring : Int) (hr : I64 ring) (v : Value) (es : List WOpD) (hv : WOps w v es) : Calls Tryz.prog 7 #[.int .i64 ring, v] w fun e w' => e = .returned (.bool true) ∧ Chg [] w w' := by
  have MU := Lib.hid (wmuch_any v es w hv)
  have HVS : Hid (∀ w', Chg [] w w' → WOps w' v es) := fun w' c => hv.chg c
  have KN : Hid (∀ w', Calls Tryz.prog 14 #[] w' fun e w'' => e = .returned (.bool true) ∧ Hid (Chg [] w' w'')) := wknown_any
  obtain ⟨vo, vc, rfl⟩ := hv.slice
  clear hv
  go_enter Tryz.func7, Tryz.ntmps7
  go_wp2_with fail
  refine MU.out.mono ?_
  rintro e w1 ⟨mb, rfl, hsm, q, rfl⟩
  replace hsm := Lib.hid hsm
  clear MU
  cases mb with
  | true =>
    go_wp2_with fail
    go_ret
    exact ⟨rfl, (Chg.refl [] w).drewN q⟩
  | false =>
  have HW : Hid (wopW es es.length ≤ 5000) := hsm.out rfl
  clear hsm
  obtain ⟨w2, hw2⟩ : ∃ w2, w2 = w.drewN q := ⟨_, rfl⟩
  have CW : Hid (Chg [] w w2) := by rw [hw2]; exact (Chg.refl [] w).drewN q
  rw [← hw2]
  clear hw2
  by_cases hin : 5 ≤ ring ∧ ring ≤ 2048
  case neg =>
    have BN := Lib.hid (begun_no ring hin w2)
    have K1 := Lib.hid (KN.out w2)
    clear KN HVS HW
    by_cases h1 : ring < 5
    · clear hin
      go_wp2_with (first
        | (go_at_call 44; refine BN.out.mono ?_; rintro e w3 ⟨rfl, rfl⟩; clear BN)
        | (go_at_call 14; refine K1.out.mono ?_; rintro e w3 ⟨rfl, C3⟩; clear K1))
      go_ret
      exact ⟨rfl, CW.out.trans C3.out⟩
    · have h2 : 2048 < ring := by omega
      clear hin
      go_wp2_with (first
        | (go_at_call 44; refine BN.out.mono ?_; rintro e w3 ⟨rfl, rfl⟩; clear BN)
        | (go_at_call 14; refine K1.out.mono ?_; rintro e w3 ⟨rfl, C3⟩; clear K1))
      go_ret
      exact ⟨rfl, CW.out.trans C3.out⟩
  case pos =>
  obtain ⟨n, rfl⟩ : ∃ n : Nat, ring = n := ⟨ring.toNat, by omega⟩
  have n5 : 5 ≤ n := by omega
  have n2 : n ≤ 2048 := by omega
  have BG := Lib.hid (begun_ok (Side.nil (Chg.refl [] w2)) n5 n2)
  have S0 := Lib.hid (RSt.begin (es := es) n5 n2)
  clear hin hr
  go_wp2_with (first
    | (go_at_call 44; refine BG.out.mono ?_; rintro e w3 ⟨b, W, D, R, F, rfl, H3⟩; clear BG; have K1 := Lib.hid (KN.out w3); clear KN)
    | (go_at_call 14; refine K1.out.mono ?_; rintro e w4 ⟨rfl, C4⟩; clear K1; have H4 := Lib.hid (H3.out.quiet C4.out); clear H3 C4))
  obtain ⟨N, hN⟩ : ∃ N, N = es.length := ⟨_, rfl⟩
  have HN := Lib.hid hN
  have HVN : Hid (∀ w', Chg [] w w' → WOps w' (.slice vo N vc) es) := fun w' c => by rw [hN]; exact HVS.out w' c
  have HNW : Hid (N ≤ 5000) := by rw [hN]; exact (wopW_le HW.out).1
  rw [← hN]
  clear HVS hN
  have hl0 : (0 : Int) ≤ N := Int.natCast_nonneg _
  have H0 : Hid (∃ y J cv F, RSt es n 0 y J ∧ Side w2 w4 (jts b W D R J cv y F [])) := ⟨_, _, _, _, S0.out, H4.out⟩
  clear S0 H4
  go_wp2_with fail
  go_loopw [7] (fun i wr => ∃ j : Nat, j ≤ N ∧ i = .int .i64 j ∧ Hid (∃ y J cv F, RSt es n j y J ∧ Side w2 wr (jts b W D R J cv y F []))) (fun i _ => N - (intOf i).toNat)
  case atStart => exact ⟨0, Nat.zero_le _, rfl, H0⟩
  case round =>
    obtain ⟨j, hj, rfl, Hj⟩ := hrel
    clear H0
    have hj0 : (0 : Int) ≤ j := Int.natCast_nonneg _
    obtain ⟨y, J, cv, F, ST, H⟩ := Hj.out
    replace ST := Lib.hid ST
    replace H := Lib.hid H
    clear Hj
    by_cases hlt : j < N
    · have hj1 : (j : Int) < N := by omega
      obtain ⟨a, ha⟩ : ∃ a, es[j]? = some a := ⟨_, List.getElem?_eq_getElem (by have := HN.out; omega)⟩
      obtain ⟨bl, o, rfl, hbl, RI⟩ := (HVN.out _ (CW.out.trans H.out.chg)).at ha
      have RIF : Hid (∀ w', Chg [] w w' → WOpIn w' bl (o + j * 4) a) := fun w' c => by
        obtain ⟨bl2, o2, e2, _, r⟩ := (HVN.out _ c).at ha
        obtain ⟨rfl, rfl⟩ : bl = bl2 ∧ o = o2 := by simpa using e2
        exact r
      obtain ⟨x2, y2, e2⟩ := RI.s2.slice
      obtain ⟨x3, y3, e3⟩ := RI.s3.slice
      rw [List.length_map] at e3
      have HPB : Hid (∀ p ∈ a.pts, By p.d ∧ Cap p.v) := fun p hp => ⟨(RI.y2 p hp).1, (RI.y2 p hp).2⟩
      have FIT := Lib.hid (ST.out.fit (by have := HNW.out; omega))
      have LOW := Lib.hid (ST.out.low HW.out)
      have STP := Lib.hid (ST.out.call (by have := HNW.out; omega) ha (fun p hp => (HPB.out p hp).1))
      obtain ⟨OUT, hOUT⟩ : ∃ OUT, OUT = Wl.callJ y J a := ⟨_, rfl⟩
      rw [← hOUT] at STP
      obtain ⟨x, hx⟩ : ∃ x : Int, x = (J.next : Int) := ⟨_, rfl⟩
      obtain ⟨x', hx'⟩ : ∃ x : Int, x = (OUT.jn.next : Int) := ⟨_, rfl⟩
      have hxb : 0 ≤ x ∧ x ≤ 200000 := by have := FIT.out.2.2.2; omega
      have NX : Hid (Calls Tryz.prog 43 #[.pointer (some ⟨W, 0, none⟩)] wr (Still wr (.int .u64 x))) := by rw [hx]; exact wnext_any (H.out.get 2 rfl)
      have NXF : Hid (∀ w' cv' F', Side w2 w' (jts b W D R OUT.jn cv' OUT.bay F' []) → Calls Tryz.prog 43 #[.pointer (some ⟨W, 0, none⟩)] w' (Still w' (.int .u64 x'))) := fun w' cv' F' h => by rw [hx']; exact wnext_any (h.get 2 rfl)
      have CCF : Hid (∀ w', Side w2 w' (jts b W D R J cv y F []) → Calls Tryz.prog 38 #[.pointer (some ⟨W, 0, none⟩), .agg #[.int .i64 a.kind, .int .i64 a.num, .slice x2 a.pts.length y2, .slice x3 a.keep.length y3]] w' (AnsL w2 b W D R [] OUT)) := fun w' h => by
        rw [hOUT, ← e2, ← e3]
        exact calls_any h FIT.out.1 (by rw [FIT.out.2.1]; exact ⟨by decide, by decide⟩) (LOW.out.mono (by decide)) a (RIF.out _ (CW.out.trans h.chg)).s2 HPB.out ⟨_, _, _, e3⟩
      have CELLS : Hid (∀ w', Chg [] w w' → w'.cell? ⟨bl, o + j * 4, none⟩ = some (.int .i64 a.kind) ∧ w'.cell? ⟨bl, o + j * 4 + 1, none⟩ = some (.int .i64 a.num) ∧ w'.cell? ⟨bl, o + j * 4 + 2, none⟩ = some (.slice x2 a.pts.length y2) ∧ w'.cell? ⟨bl, o + j * 4 + 3, none⟩ = some (.slice x3 a.keep.length y3)) := fun w' c => by
        have r := RIF.out w' c
        exact ⟨r.c0, r.c1, by rw [← e2]; exact r.c2, by rw [← e3]; exact r.c3⟩
      have hdx : Hid (x' = x + (if a.kind = 2 ∧ OUT.err = 0 then 1 else 0)) := by
        have t : x' = x + (if a.kind = 2 ∧ OUT.err = 0 then 1 else 0) := by
          have := STP.out.2
          rw [hx, hx', this]
          split <;> simp
        exact t
      have END : Hid (∀ w' cv' F', Side w2 w' (jts b W D R OUT.jn cv' OUT.bay F' []) → ∃ y J cv F, RSt es n (j + 1) y J ∧ Side w2 w' (jts b W D R J cv y F [])) := fun w' cv' F' h => ⟨_, _, _, _, STP.out.1, h⟩
      have MEAS : Hid (N - (intOf (.int .i64 ((j : Int) + 1))).toNat < N - (intOf (.int .i64 (j : Int))).toNat) := meas_next hlt
      obtain ⟨wa, wb⟩ := sc_wrap (z := (j : Int) + 1) (by omega) (by have := HNW.out; omega)
      clear RI RIF e2 e3 hOUT hx hx' FIT LOW STP HPB HVN
      generalize a.kind = K at *
      by_cases k2 : K = 2
      · subst k2
        by_cases he : OUT.err = 0
        · obtain rfl : x' = x + 1 := by have := hdx.out; rw [if_pos ⟨rfl, he⟩] at this; exact this
          have uw : IntKind.u64.wrap (x + 1) = x + 1 := by rw [IntKind.wrap_u64]; omega
          clear hdx
          go_wp2_with (first
          | (go_at_call 43; refine NX.out.mono ?_; rintro e w6 ⟨rfl, q6, rfl⟩; clear NX; have H6 := Lib.hid (H.out.quiet ((Chg.refl [] _).drewN q6)); have CC := Lib.hid (CCF.out _ H6.out); obtain ⟨c0, c1, c2, c3⟩ := CELLS.out _ (CW.out.trans H6.out.chg); clear CCF)
          | (go_at_call 38; refine CC.out.mono ?_; rintro e w7 ⟨rfl, F7, cv7, H7⟩; have NX2 := Lib.hid (NXF.out _ _ _ H7.out); clear CC NXF c0 c1 c2 c3)
          | (go_at_call 43; refine NX2.out.mono ?_; rintro e w8 ⟨rfl, q8, rfl⟩; clear NX2; have H8 := Lib.hid (H7.out.quiet ((Chg.refl [] _).drewN q8)); obtain ⟨c0, -, -, -⟩ := CELLS.out _ (CW.out.trans H8.out.chg)))
          exact ⟨⟨j + 1, hlt, by first | rfl | (rw [Int.natCast_add]; rfl) | go_num, END.out _ _ _ H8.out⟩, MEAS.out⟩
        · obtain rfl : x' = x := by have := hdx.out; rw [if_neg (fun q => he q.2)] at this; omega
          clear hdx
          go_wp2_with (first
          | (go_at_call 43; refine NX.out.mono ?_; rintro e w6 ⟨rfl, q6, rfl⟩; clear NX; have H6 := Lib.hid (H.out.quiet ((Chg.refl [] _).drewN q6)); have CC := Lib.hid (CCF.out _ H6.out); obtain ⟨c0, c1, c2, c3⟩ := CELLS.out _ (CW.out.trans H6.out.chg); clear CCF)
          | (go_at_call 38; refine CC.out.mono ?_; rintro e w7 ⟨rfl, F7, cv7, H7⟩; have NX2 := Lib.hid (NXF.out _ _ _ H7.out); clear CC NXF c0 c1 c2 c3)
          | (go_at_call 43; refine NX2.out.mono ?_; rintro e w8 ⟨rfl, q8, rfl⟩; clear NX2; have H8 := Lib.hid (H7.out.quiet ((Chg.refl [] _).drewN q8)); obtain ⟨c0, -, -, -⟩ := CELLS.out _ (CW.out.trans H8.out.chg)))
          exact ⟨⟨j + 1, hlt, by first | rfl | (rw [Int.natCast_add]; rfl) | go_num, END.out _ _ _ H8.out⟩, MEAS.out⟩
      · obtain rfl : x' = x := by have := hdx.out; rw [if_neg (fun q => k2 q.1)] at this; omega
        have kb2 : (K == 2) = false := by simpa using k2
        clear hdx
        go_wp2_with (first
          | (go_at_call 43; refine NX.out.mono ?_; rintro e w6 ⟨rfl, q6, rfl⟩; clear NX; have H6 := Lib.hid (H.out.quiet ((Chg.refl [] _).drewN q6)); have CC := Lib.hid (CCF.out _ H6.out); obtain ⟨c0, c1, c2, c3⟩ := CELLS.out _ (CW.out.trans H6.out.chg); clear CCF)
          | (go_at_call 38; refine CC.out.mono ?_; rintro e w7 ⟨rfl, F7, cv7, H7⟩; have NX2 := Lib.hid (NXF.out _ _ _ H7.out); clear CC NXF c0 c1 c2 c3)
          | (go_at_call 43; refine NX2.out.mono ?_; rintro e w8 ⟨rfl, q8, rfl⟩; clear NX2; have H8 := Lib.hid (H7.out.quiet ((Chg.refl [] _).drewN q8)); obtain ⟨c0, -, -, -⟩ := CELLS.out _ (CW.out.trans H8.out.chg)))
        exact ⟨⟨j + 1, hlt, by first | rfl | (rw [Int.natCast_add]; rfl) | go_num, END.out _ _ _ H8.out⟩, MEAS.out⟩
    · have hj1 : ¬ (j : Int) < N := by omega
      have FIT := Lib.hid (ST.out.fit (by have := HNW.out; omega))
      have OP := Lib.hid (wopen_any H.out 0 (n : Int) ⟨by decide, by decide⟩ ⟨by omega, by omega⟩ ((ST.out.low HW.out).mono (by decide)))
      have AGF : Hid (∀ e w', Opnd w2 b y 0 (n : Int) (devT D b J.slot J.br :: walT W D R J cv :: ringT R J.S J.t J.u :: comT cv J.commit :: []) e w' → ∃ d L, Again w2 b y 0 d J L (devT D b J.slot J.br :: walT W D R J cv :: ringT R J.S J.t J.u :: comT cv J.commit :: []) e w' ∧ J.next - L.length + L.length = J.next ∧ J.next ≤ 200000) := fun e w' hO => ST.out.open (by have := HNW.out; omega) hO
      clear HVN HN H ST
      go_wp2_with fail
      refine OP.out.mono ?_
      intro e w6 hO
      obtain ⟨d, L, ⟨W', D', R', tv, T, F', y', hf, hwent, rfl, H6⟩, hsum, hsm⟩ := AGF.out _ _ hO
      clear OP AGF hO hwent
      have hT : L.length = T.length := by rw [← hf, found_len]
      rw [hT] at hsum
      obtain ⟨sq, hsq⟩ : ∃ sq, sq = J.next - T.length := ⟨_, rfl⟩
      rw [← hsq] at hsum
      obtain ⟨JV, hJV⟩ : ∃ JV : Wl.Jn, JV = Wl.begun 0 J.S ⟨J.ep, J.next - L.length, (J.t : Nat)⟩ J.u J.next := ⟨_, rfl⟩
      have jv : Hid (JV.next = J.next ∧ JV.u = J.u ∧ Rg JV.S JV.t JV.u) := by
        rw [hJV]
        refine ⟨rfl, rfl, ?_⟩
        show Rg J.S ((J.t : Nat) : Int).toNat J.u
        rw [Int.toNat_natCast]
        exact FIT.out.1.rg
      rw [← hJV, hT, ← hsq] at H6
      obtain ⟨lo, lc, htv⟩ : ∃ lo lc, tv = .slice lo T.length lc := by
        have ow : OwnW 2 w6 0 92 tv (txSlots sq T) := H6.out.get 5 rfl
        obtain ⟨lo, lc, h⟩ := ow.rd.slice
        rw [txSlots_len] at h
        exact ⟨lo, lc, h⟩
      subst htv
      obtain ⟨x, hx⟩ : ∃ x : Int, x = (J.next : Int) := ⟨_, rfl⟩
      obtain ⟨u, hu⟩ : ∃ u : Int, u = (J.u : Int) := ⟨_, rfl⟩
      obtain ⟨TS, hTS⟩ : ∃ TS, TS = jts b W' D' R' JV (.slice none 0 0) y' F' (wideT 2 92 (.slice lo T.length lc) (txSlots sq T) :: poolWT 3 105 (listsOf T) :: poolT (dataOf T) :: devT D b J.slot J.br :: walT W D R J cv :: ringT R J.S J.t J.u :: comT cv J.commit :: []) := ⟨_, rfl⟩
      have NVF : Hid (∀ w', Side w2 w' TS → Calls Tryz.prog 43 #[.pointer (some ⟨W', 0, none⟩)] w' (Still w' (.int .u64 x))) := fun w' h => by rw [hTS] at h; rw [hx, ← jv.out.1]; exact wnext_any (h.get 2 rfl)
      have NWF : Hid (∀ w', Side w2 w' TS → Calls Tryz.prog 43 #[.pointer (some ⟨W, 0, none⟩)] w' (Still w' (.int .u64 x))) := fun w' h => by rw [hTS] at h; rw [hx]; exact wnext_any (h.get 9 rfl)
      have UVF : Hid (∀ w', Side w2 w' TS → Calls Tryz.prog 35 #[.pointer (some ⟨W', 0, none⟩)] w' (Still w' (.int .i64 u))) := fun w' h => by rw [hTS] at h; rw [hu, ← jv.out.2.1]; exact wused_any (h.get 2 rfl) (h.get 3 rfl) jv.out.2.2
      have UWF : Hid (∀ w', Side w2 w' TS → Calls Tryz.prog 35 #[.pointer (some ⟨W, 0, none⟩)] w' (Still w' (.int .i64 u))) := fun w' h => by rw [hTS] at h; rw [hu]; exact wused_any (h.get 9 rfl) (h.get 10 rfl) FIT.out.1.rg
      rw [← hTS] at H6
      have CELL : Hid (∀ w', Side w2 w' TS → ∀ k : Nat, k < T.length → ∃ g, lo = some ⟨g, 0, none⟩ ∧ w'.cell? ⟨g, k * 2, none⟩ = some (.int .u64 ((sq : Int) + k))) := fun w' h k hk => by
        rw [hTS] at h
        obtain ⟨t, ht⟩ : ∃ t, T[k]? = some t := ⟨_, List.getElem?_eq_getElem hk⟩
        have h2 := h.sub (.cons _ (.cons _ (.cons _ (.cons _ (.cons _ (List.Sublist.refl _))))))
        obtain ⟨g, c, ao, c2, e1, _, e3, _⟩ := found_at h2 ht
        have e1 : lo = some ⟨g, 0, none⟩ := by simpa using (Value.slice.inj e1).1
        exact ⟨g, e1, e3⟩
      obtain ⟨M, hM⟩ : ∃ M, M = T.length := ⟨_, rfl⟩
      rw [← hM] at hsum CELL ⊢
      have hxs : Hid (x = (sq : Int) + M ∧ x ≤ 200000) := ⟨by rw [hx]; omega, by omega⟩
      have hM0 : (0 : Int) ≤ M := Int.natCast_nonneg _
      clear hTS hJV jv hx hu hsq hM hf hT hsum hsm FIT
      have H6D : Hid (∀ m, Side w2 (w6.drewN m) TS) := fun m => H6.out.quiet ((Chg.refl [] _).drewN m)
      go_wp2_with (first
        | (go_at_call 43; (first | refine (NVF.out _ (by first | exact H6.out | exact H6D.out _)).mono ?_ | refine (NWF.out _ (by first | exact H6.out | exact H6D.out _)).mono ?_); rintro e w7 ⟨rfl, q7, rfl⟩)
        | (go_at_call 35; (first | refine (UVF.out _ (by first | exact H6.out | exact H6D.out _)).mono ?_ | refine (UWF.out _ (by first | exact H6.out | exact H6D.out _)).mono ?_); rintro e w9 ⟨rfl, q9, rfl⟩))
      clear UVF UWF NWF
      go_loopw [14] (fun i wr => ∃ k : Nat, k ≤ M ∧ i = .int .i64 k ∧ Hid (Side w2 wr TS)) (fun i _ => M - (intOf i).toNat)
      case atStart => exact ⟨0, Nat.zero_le _, rfl, H6D.out _⟩
      case round =>
        obtain ⟨k, hk, rfl, HK⟩ := hrel
        clear H6 H6D
        have hk0 : (0 : Int) ≤ k := Int.natCast_nonneg _
        by_cases hkl : k < M
        · have hk1 : (k : Int) < M := by omega
          obtain ⟨g, rfl, ck⟩ := CELL.out _ HK.out k hkl
          have NVD : Hid (∀ m, Calls Tryz.prog 43 #[.pointer (some ⟨W', 0, none⟩)] (wr.drewN m) fun e w' => e = .returned (.int .u64 x) ∧ ∃ q, w' = (wr.drewN m).drewN q) := fun m => NVF.out _ (HK.out.quiet ((Chg.refl [] _).drewN m))
          have HKD : Hid (∀ m, Side w2 (wr.drewN m) TS) := fun m => HK.out.quiet ((Chg.refl [] _).drewN m)
          have hkm : k < 200000 := by have := hxs.out; omega
          have u1 : IntKind.u64.wrap ((M : Int) - k) = (M : Int) - k := by rw [IntKind.wrap_u64]; have := hxs.out; omega
          have u2 : IntKind.u64.wrap (x - ((M : Int) - k)) = (sq : Int) + k := by rw [IntKind.wrap_u64]; have := hxs.out; omega
          obtain ⟨wa, wb⟩ := sc_wrap (z := (M : Int) - k) (by have := hxs.out; omega) (by have := hxs.out; omega)
          obtain ⟨wc, wd⟩ := sc_wrap (z := (k : Int) + 1) (by omega) (by omega)
          have MEAS : Hid (M - (intOf (.int .i64 ((k : Int) + 1))).toNat < M - (intOf (.int .i64 (k : Int))).toNat) := meas_next hkl
          clear CELL NVF
          go_wp2_with fail
          go_quiet (first | (go_at_call 43; exact Calls.quiet_of (NVD.out _)))
          go_wp2_with fail
          exact ⟨⟨k + 1, hkl, by first | rfl | (rw [Int.natCast_add]; rfl) | go_num, HKD.out _⟩, MEAS.out⟩
        · have hk1 : ¬ (k : Int) < M := by omega
          have CE : Hid (Chg [] w wr) := CW.out.trans HK.out.chg
          clear HK CELL NVF
          go_wp2_with fail
          go_ret
          exact ⟨rfl, CE.out⟩

end Go.Proofs.YtaggfbgbmiifaaaGreat
