/-
  CrcPieces walked. By an AI agent.
-/
import Derived.Test.YtaneaidipbhbkaaCrcKnown
import Derived.Test.YtaneaidipbhbkaaCrcDigest
import Derived.Test.YtaneaidipbhbkaaGLent
import Derived.Test.YtaneaidipbhbkaaGRows
import Derived.Test.YtaneaidipbhbkaaGAppend
namespace Go.Proofs.Ytaneaidipbhbkaa
open Go.RowKit
open Crc

/-- All the bytes of some rows, in order. -/
def flat (ds : List RowD) : List Int := (ds.map (·.bs)).flatten

theorem flat_snoc (ds : List RowD) (d : RowD) : flat (ds ++ [d]) = flat ds ++ d.bs := by simp [flat]

theorem flat_next {ds : List RowD} {k : Nat} {d : RowD} (h : ds[k]? = some d) : flat (ds.take (k + 1)) = flat (ds.take k) ++ d.bs := by rw [take_snoc h, flat_snoc]

theorem flat_len_le (ds : List RowD) (k : Nat) : (flat (ds.take k)).length ≤ (flat ds).length := by
  have : flat ds = flat (ds.take k) ++ flat (ds.drop k) := by
    unfold flat
    rw [← List.flatten_append, ← List.map_append, List.take_append_drop]
  rw [this, List.length_append]
  omega

theorem nats_append (a b : List Int) : nats (a ++ b) = nats a ++ nats b := by simp [nats]

theorem flat_by {ds : List RowD} (h : ∀ (i : Nat) (d : RowD), ds[i]? = some d → By d.bs) (k : Nat) : By (flat (ds.take k)) := by
  intro x hx
  unfold flat at hx
  obtain ⟨l, hl, hx⟩ := List.mem_flatten.1 hx
  obtain ⟨d, hd, rfl⟩ := List.mem_map.1 hl
  obtain ⟨i, hi⟩ := List.mem_iff_getElem?.1 (List.mem_of_mem_take hd)
  exact h i d hi x hx

theorem Rws.by_ {w : World} {v : Value} {ds : List RowD} (h : Rws w v ds) : ∀ (i : Nat) (d : RowD), ds[i]? = some d → By d.bs := by
  intro i d hd
  obtain ⟨ao, c, rfl⟩ := h.slice
  obtain ⟨b, o, _, _, R⟩ := h.at hd
  exact R.by_

theorem RowIn.chg {w w' : World} {b o : Nat} {d : RowD} (h : RowIn w b o d) (hb : b < w.heap.size) (c : Chg [] w w') : RowIn w' b o d :=
  ⟨(c.cell (p := ⟨b, o, none⟩) hb (by simp)).trans h.c0, h.sl.chgNil c, h.by_, h.big⟩

theorem join_next (L bs : List Int) : join (sum (nats L)) (sum (nats bs)) bs.length = sum (nats (L ++ bs)) := by
  have := join_sum 0 (nats L) (nats bs)
  rw [nats_length, ← nats_append] at this
  exact this

theorem more_next (L bs : List Int) : more (sum (nats L)) (nats bs) = sum (nats (L ++ bs)) := by
  unfold sum
  rw [more_more, nats_append]

theorem sum_lt {L : List Int} (h : By L) : sum (nats L) < 4294967296 := more_lt (by decide) (nats_bs h)

/-- What lies in memory: a digest of the bytes D, and a row of the bytes L that the call owns. -/
structure PSit (w0 w : World) (gd : Nat) (v : Value) (D L : List Int) : Prop where
  dig : Dig w gd (sum (nats D)) D.length
  own : w.ownsRow w0.heap.size 5 1 v L.length (L.map (Value.int .u8))
  apart : v.ownBlock ≠ some gd
  new : w0.heap.size ≤ gd
  chg : Chg [] w0 w

theorem PSit.gd_lt {w0 w : World} {gd : Nat} {v : Value} {D L : List Int} (h : PSit w0 w gd v D L) : gd < w.heap.size := Blk.lt h.dig

theorem PSit.quiet {w0 w w' : World} {gd : Nat} {v : Value} {D L : List Int} (h : PSit w0 w gd v D L) (c : Chg [] w w') : PSit w0 w' gd v D L :=
  ⟨Blk.chg h.dig c (by simp), owns_chg h.own c (fun _ _ => by simp), h.apart, h.new, h.chg.trans c⟩

/-- More bytes behind the row. -/
theorem PSit.grow {w0 w w' : World} {gd : Nat} {v v' : Value} {D L ys : List Int} (h : PSit w0 w gd v D L) (o : w'.ownsRow w0.heap.size 5 1 v' (L.length + ys.length) (L.map (Value.int .u8) ++ ys.map (Value.int .u8))) (g : w.grownBy w' v.ownBlock)
    (hv : v'.ownBlock = v.ownBlock ∨ (v'.ownBlock = some w.heap.size ∧ w.grownBy w' none)) : PSit w0 w' gd v' D (L ++ ys) := by
  have hl := h.gd_lt
  refine ⟨?_, by rw [List.length_append, List.map_append]; exact o, ?_, h.new, ?_⟩
  · refine Blk.chg h.dig (chg_of_grown g) ?_
    have := h.apart
    cases hb : v.ownBlock with
    | none => simp
    | some k => rw [hb] at this; simp at this ⊢; omega
  · rcases hv with e | ⟨e, _⟩
    · rw [e]; exact h.apart
    · rw [e]
      intro e2
      have : w.heap.size = gd := by simpa using e2
      omega
  · refine h.chg.grown g (fun k hk => .inr (h.own.lt k hk).1)

/-- More bytes into the digest. -/
theorem PSit.add {w0 w w' : World} {gd : Nat} {v : Value} {D L ys : List Int} (h : PSit w0 w gd v D L) (d : Dig w' gd (more (sum (nats D)) (nats ys)) (D.length + ys.length)) (c : Chg [gd] w w') : PSit w0 w' gd v (D ++ ys) L := by
  have hn := h.new
  refine ⟨?_, owns_chg h.own c (fun k hk e => h.apart (by rw [hk]; congr 1; simpa using e)), h.apart, h.new, h.chg.fresh c (fun i hi => .inr (by simp at hi; omega))⟩
  unfold sum at d ⊢
  rw [more_more, ← nats_append] at d
  rw [List.length_append]
  exact d

/-- Another block of the call's turns. -/
theorem PSit.spoilt {w0 w w' : World} {gd gl : Nat} {v : Value} {D L : List Int} (h : PSit w0 w gd v D L) (c : Chg [gl] w w') (h1 : gl ≠ gd) (h2 : v.ownBlock ≠ some gl) (h3 : w0.heap.size ≤ gl) : PSit w0 w' gd v D L :=
  ⟨Blk.chg h.dig c (by simp; omega), owns_chg h.own c (fun k hk e => h2 (by rw [hk]; congr 1; simpa using e)), h.apart, h.new, h.chg.fresh c (fun i hi => .inr (by simp at hi; omega))⟩

theorem PSit.sl {w0 w : World} {gd : Nat} {v : Value} {D L : List Int} (h : PSit w0 w gd v D L) : Sl w v L := Sl.owned h.own

/-- A lent piece beside it. -/
structure Piece (w0 w : World) (gd gl : Nat) (v : Value) (ys : List Int) : Prop where
  blk : Blk w gl 5 ((ys ++ [91, 92]).map (Value.int .u8))
  far : gl ≠ gd
  off : v.ownBlock ≠ some gl
  new : w0.heap.size ≤ gl

theorem Piece.chg {w0 w w' : World} {gd gl : Nat} {v : Value} {ys : List Int} (h : Piece w0 w gd gl v ys) {s : List Nat} (c : Chg s w w') (hs : gl ∉ s) : Piece w0 w' gd gl v ys := ⟨h.blk.chg c hs, h.far, h.off, h.new⟩

theorem Piece.lent {w0 w w' : World} {gd gl : Nat} {v : Value} {D L ys : List Int} (h : PSit w0 w gd v D L) (b : Blk w' gl 5 ((ys ++ [91, 92]).map (Value.int .u8))) (hl : w.heap.size ≤ gl) : Piece w0 w' gd gl v ys := by
  have h1 := h.gd_lt
  have h2 := h.new
  refine ⟨b, by omega, fun e => ?_, by omega⟩
  have := (h.own.lt gl e).2
  omega

theorem Piece.grow {w0 w w' : World} {gd gl : Nat} {v v' : Value} {ys : List Int} (h : Piece w0 w gd gl v ys) (g : w.grownBy w' v.ownBlock) (hv : v'.ownBlock = v.ownBlock ∨ (v'.ownBlock = some w.heap.size ∧ w.grownBy w' none)) : Piece w0 w' gd gl v' ys := by
  have hl := h.blk.lt
  refine ⟨h.blk.chg (chg_of_grown g) ?_, h.far, ?_, h.new⟩
  · have := h.off
    cases hb : v.ownBlock with
    | none => simp
    | some k => rw [hb] at this; simp at this ⊢; omega
  · rcases hv with e | ⟨e, _⟩
    · rw [e]; exact h.off
    · rw [e]
      intro e2
      have : w.heap.size = gl := by simpa using e2
      omega

theorem Piece.sl {w0 w : World} {gd gl : Nat} {v : Value} {ys : List Int} (h : Piece w0 w gd gl v ys) : Sl w (.slice (some ⟨gl, 0, none⟩) ys.length (ys.length + 2)) ys := Blk.sl h.blk

set_option maxHeartbeats 1000000 in
set_option maxRecDepth 100000 in
theorem pieces_walk (v : Value) (ds : List RowD) (w : World) (h : Rws w v ds) :
    Calls Try.prog 5 #[v] w fun e w' => e = .returned (.bool true) ∧ Chg [] w w' := by
  obtain ⟨i0, hi, hz0, hz1, hz2⟩ := info_parts info_u8
  replace hi := Lib.hid hi
  replace hz0 := Lib.hid hz0
  replace hz1 := Lib.hid hz1
  replace hz2 := Lib.hid hz2
  obtain ⟨ao, c, rfl⟩ := h.slice
  have hlen := h.len
  have HR := Lib.hid h
  clear h
  go_enter Try.func5, Try.ntmps5
  go_wp2_with fail
  go_loop [3, 4] (fun n i => ∃ k : Nat, k ≤ ds.length ∧ i = .int .i64 k ∧ n = .int .i64 ((ds.length + (flat (ds.take k)).length : Nat) : Int)) (fun _ i => ds.length - (intOf i).toNat)
  case atStart => exact ⟨0, Nat.zero_le _, rfl, by simp [flat]⟩
  case round =>
    obtain ⟨k, hk, rfl, rfl⟩ := hrel
    by_cases hgo : k < ds.length ∧ ds.length + (flat (ds.take k)).length ≤ 100000
    · obtain ⟨hlt, hle⟩ := hgo
      obtain ⟨d, hd⟩ : ∃ d, ds[k]? = some d := ⟨_, List.getElem?_eq_getElem hlt⟩
      obtain ⟨b, o, rfl, hb, R⟩ := HR.out.at hd
      have c0 := R.c0
      have hbig := R.big
      obtain ⟨eo, ec, hv⟩ := R.sl.slice
      rw [hv] at c0
      have HF := Lib.hid (flat_next hd)
      have hk0 : (0 : Int) ≤ k := Int.natCast_nonneg _
      have hk1 : (k : Int) < ds.length := by omega
      have e1 : ((ds.length + (flat (ds.take k)).length : Nat) : Int) ≤ 100000 := by omega
      have HE : Hid (((ds.length + (flat (ds.take (k + 1))).length : Nat) : Int) = ((ds.length + (flat (ds.take k)).length : Nat) : Int) + (d.bs.length : Int)) := by
        show _ = _
        rw [HF.out, List.length_append]
        omega
      have e0 : (0 : Int) ≤ ((ds.length + (flat (ds.take k)).length : Nat) : Int) := Int.natCast_nonneg _
      generalize ((ds.length + (flat (ds.take k)).length : Nat) : Int) = N at *
      clear R hd hv
      go_wp2_with fail
      exact ⟨⟨k + 1, by omega, by go_num, by rw [HE.out]⟩, by simp [intOf]; omega⟩
    · by_cases hle : ds.length + (flat (ds.take k)).length ≤ 100000
      · have hke : k = ds.length := by omega
        subst hke
        have hfl : (flat ds).length ≤ 100000 := by rw [List.take_length] at hle; omega
        have hdl : ds.length ≤ 100000 := by omega
        have e1 : ((ds.length + (flat (ds.take ds.length)).length : Nat) : Int) ≤ 100000 := by omega
        generalize ((ds.length + (flat (ds.take ds.length)).length : Nat) : Int) = N at *
        clear hgo hle hk hlen
        go_wp2_with fail
        refine (new_any w).mono ?_
        rintro e w1 ⟨gd, rfl, G1, D1, hgd⟩
        go_wp2_with fail
        refine (known_any w1).mono ?_
        rintro e w2 ⟨rfl, D2⟩
        go_wp2_with fail
        have k4 : ((sum (nats []) : Nat) : Int) = 0 := by decide +kernel
        have s5 := fun w => sum_any (.slice none 0 0) [] w (.inl ⟨rfl, _, _, rfl⟩) (by_dec rfl) (by decide)
        rw [k4] at s5
        refine (s5 w2).mono ?_
        rintro e w3 ⟨rfl, D3⟩
        go_wp2_with fail
        refine (s5 w3).mono ?_
        rintro e w4 ⟨rfl, D4⟩
        have S0 : Hid (PSit w w4 gd (.slice none 0 0) [] []) :=
          (PSit.quiet ⟨G1.out, World.ownsRow_nil _ _ _ _, by simp [Value.ownBlock], hgd, D1.out⟩ ((D2.out.trans D3.out).trans D4.out))
        clear G1 D1 D2 D3 D4 hgd s5 e1
        go_wp2_with fail
        go_loopw [6, 7, 8, 9] (fun x m j i wr => ∃ k : Nat, k ≤ ds.length ∧ i = .int .i64 k ∧ m = .int .u32 ((sum (nats (flat (ds.take k))) : Nat) : Int) ∧ j = .int .u32 ((sum (nats (flat (ds.take k))) : Nat) : Int) ∧ Hid (PSit w wr gd x (flat (ds.take k)) (flat (ds.take k)))) (fun _ _ _ i _ => ds.length - (intOf i).toNat)
        case atStart => exact ⟨0, Nat.zero_le _, rfl, by rw [show sum (nats (flat (ds.take 0))) = 0 by have := k4; simpa [flat, nats] using this]; rfl, by rw [show sum (nats (flat (ds.take 0))) = 0 by have := k4; simpa [flat, nats] using this]; rfl, S0⟩
        case round =>
          obtain ⟨k, hk, rfl, rfl, rfl, S⟩ := hrel
          clear S0 k4
          by_cases hlt : k < ds.length
          · obtain ⟨d, hd⟩ : ∃ d, ds[k]? = some d := ⟨_, List.getElem?_eq_getElem hlt⟩
            obtain ⟨b, o, rfl, hb, R⟩ := HR.out.at hd
            have HF := Lib.hid (flat_next hd)
            have hkl := flat_len_le ds (k + 1)
            have HBL := Lib.hid (flat_by HR.out.by_ k)
            have hby := Lib.hid R.by_
            have hbig := R.big
            have QR : Hid (∀ w', Chg [] w w' → RowIn w' b (o + k) d) := fun w' c => R.chg hb c
            clear hd
            obtain ⟨dv, bs⟩ := d
            obtain ⟨eo, ec, hv⟩ : ∃ eo ec, dv = .slice eo bs.length ec := R.sl.slice
            subst hv
            clear R
            change bs.length ≤ _ at hbig
            replace hby : Hid (By bs) := hby
            have hL : (flat (ds.take k)).length + bs.length ≤ 100000 := by
              have := HF.out
              rw [this, List.length_append] at hkl
              change _ + bs.length ≤ _ at hkl
              omega
            replace HF : Hid (flat (ds.take (k + 1)) = flat (ds.take k) ++ bs) := HF
            have HJ := Lib.hid (join_next (flat (ds.take k)) bs)
            have HM := Lib.hid (more_next (flat (ds.take k)) bs)
            have l1 := Lib.hid (sum_lt HBL.out)
            have l2 := Lib.hid (sum_lt hby.out)
            have hBA : Hid (By (flat (ds.take k) ++ bs)) := HBL.out.append hby.out
            generalize flat (ds.take k) = L at *
            have hk0 : (0 : Int) ≤ k := Int.natCast_nonneg _
            have hk1 : (k : Int) < ds.length := by omega
            have c0 : wr.cell? ⟨b, o + k, none⟩ = some (.slice eo bs.length ec) := (QR.out wr S.out.chg).c0
            go_wp2_with fail
            refine (lent_any _ bs wr (QR.out wr S.out.chg).sl hbig).mono ?_
            rintro e w1 ⟨gl, rfl, B1, D1, hgl⟩
            have S1 := Lib.hid (S.out.quiet D1)
            have P1 := Lib.hid (Piece.lent S.out B1 hgl)
            clear B1 D1 hgl c0 S
            have c0 : w1.cell? ⟨b, o + k, none⟩ = some (.slice eo bs.length ec) := (QR.out w1 S1.out.chg).c0
            go_wp2_with (first
              | (at_builtin; refine wpList_append_sl _ rfl (.tmp 58) (.tmp 62) 23 rfl w.heap.size 5 i0 (.int .u8 0) 1 Try.underlying23 hi.out hz0.out hz1.out hz2.out rfl u6 L.length (L.map (Value.int .u8)) rfl S1.out.own eo bs.length ec bs rfl (QR.out w1 S1.out.chg).sl (by unfold maxLen; omega) (by omega) S1.out.chg.size ?_; intro v2 w2 ol gr nb; have S2 := Lib.hid (S1.out.grow ol.out gr.out nb.out); have P2 := Lib.hid (P1.out.grow gr.out nb.out); clear ol gr nb S1 P1 c0))
            refine (digAdd_any gd (sum (nats L)) L.length _ bs w2 S2.out.dig l1.out P2.out.sl hby.out hbig (by omega)).mono ?_
            rintro e w3 ⟨rfl, G3, D3⟩
            have S3 := Lib.hid (S2.out.add G3.out D3.out)
            have P3 := Lib.hid (P2.out.chg D3.out (by have := P2.out.far; simp; omega))
            clear G3 D3 S2 P2
            have HLN : Hid (((L.length + bs.length : Nat) : Int) = ((L ++ bs).length : Int)) := by show _ = _; rw [List.length_append]
            rw [HLN.out]
            go_wp2_with fail
            refine (more_any (sum (nats L)) _ bs w3 l1.out P3.out.sl hby.out hbig).mono ?_
            rintro e w4 ⟨rfl, D4⟩
            rw [HM.out]
            have S4 := Lib.hid (S3.out.quiet D4.out)
            have P4 := Lib.hid (P3.out.chg D4.out (by simp))
            clear D4 S3 P3
            go_wp2_with fail
            refine (sum_any _ bs w4 P4.out.sl hby.out hbig).mono ?_
            rintro e w5 ⟨rfl, D5⟩
            have S5 := Lib.hid (S4.out.quiet D5.out)
            have P5 := Lib.hid (P4.out.chg D5.out (by simp))
            clear D5 S4 P4
            go_wp2_with fail
            refine (join_any (sum (nats L)) (sum (nats bs)) bs.length w5 l1.out l2.out (by omega)).mono ?_
            rintro e w6 ⟨rfl, D6⟩
            rw [HJ.out]
            have S6 := Lib.hid (S5.out.quiet D6.out)
            have P6 := Lib.hid (P5.out.chg D6.out (by simp))
            clear D6 S5 P5
            have c0 : w6.cell? ⟨b, o + k, none⟩ = some (.slice eo bs.length ec) := (QR.out w6 S6.out.chg).c0
            go_wp2_with fail
            refine (whole_any gl _ bs w6 P6.out.blk (QR.out w6 S6.out.chg).sl hbig).mono ?_
            rintro e w' ⟨rfl, q, rfl⟩
            have S7 := Lib.hid (S6.out.quiet ((Chg.refl [] w6).drewN q))
            have P7 := Lib.hid (P6.out.chg ((Chg.refl [] w6).drewN q) (by simp))
            clear S6 P6 c0
            generalize w6.drewN q = w7 at *
            go_wp2_with fail
            refine (spoil_any gl bs.length (bs ++ [91, 92]) w7 P7.out.blk (by simp) hbig).mono ?_
            rintro e w8 ⟨rfl, D8⟩
            have S8 := Lib.hid (S7.out.spoilt D8 P7.out.far P7.out.off P7.out.new)
            clear D8 S7 P7
            go_wp2_with fail
            refine (digSum_any gd _ _ w8 S8.out.dig).mono ?_
            rintro e w' ⟨rfl, rfl⟩
            go_wp2_with fail
            refine (sum_any _ (L ++ bs) w8 S8.out.sl hBA.out (by rw [List.length_append]; omega)).mono ?_
            rintro e w9 ⟨rfl, D9⟩
            have S9 := Lib.hid (S8.out.quiet D9.out)
            clear D9 S8
            obtain ⟨ao2, c2, rfl⟩ := owns_slice S9.out.own
            go_wp2_with fail
            exact ⟨⟨k + 1, by omega, by go_num, by rw [HF.out], by rw [HF.out], by rw [HF.out, ← List.length_append]; exact S9⟩, by simp [intOf]; omega⟩
          · obtain rfl : k = ds.length := by omega
            go_wp2_with fail
            go_ret
            exact ⟨rfl, S.out.chg⟩
      · have e1 : ¬ ((ds.length + (flat (ds.take k)).length : Nat) : Int) ≤ 100000 := by omega
        generalize ((ds.length + (flat (ds.take k)).length : Nat) : Int) = N at *
        by_cases hlt : k < ds.length
        · have hk1 : (k : Int) < ds.length := by omega
          go_wp2_with fail
          go_ret
          exact ⟨rfl, Chg.refl _ _⟩
        · obtain rfl : k = ds.length := by omega
          go_wp2_with fail
          go_ret
          exact ⟨rfl, Chg.refl _ _⟩

end Go.Proofs.Ytaneaidipbhbkaa
