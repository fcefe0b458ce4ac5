/-
  'told'. By an AI agent.
-/
import Derived.Test.YtbinoailpceonaaStands
namespace Go.Proofs.Ytbinoailpceonaa
open Go.RowKit

/-- What a packer's Bytes tells. -/
def PS.tell (s : PS) : List Int := if s.bad = 0 then s.bs else []

theorem bytes_all (b g : Nat) (s : PS) (w : World) (h : Pk w b g s) :
    Calls Try.prog 30 #[.pointer (some ⟨b, 0, none⟩)] w fun e w' => ∃ v, e = .returned (.tuple #[v, .int .u16 s.bad]) ∧ w'.ownsRow w.heap.size 5 1 v s.tell.length (s.tell.map (Value.int .u8)) ∧ Chg [] w w' := by
  refine (bytes_any b g s w h).mono fun e w' ht => ?_
  unfold PS.tell
  rcases ht with ⟨h0, rfl, hc⟩ | ⟨h0, v, rfl, ho, hc⟩
  · rw [if_neg h0]
    exact ⟨_, rfl, World.ownsRow_nil _ _ _ _, hc⟩
  · rw [if_pos h0, h0]
    exact ⟨v, rfl, ho, hc⟩

theorem refBytes_all (b : Nat) (hv : Value) (s : RP) (w : World) (h : Rp w b hv s) :
    Calls Try.prog 51 #[.pointer (some ⟨b, 0, none⟩)] w fun e w' => ∃ v, e = .returned (.tuple #[v, .int .u16 s.bad]) ∧ Sl w' v s.ps.tell ∧ (∀ k, v.ownBlock = some k → w.heap.size ≤ k) ∧ Chg [] w w' := by
  refine (refBytes_any b hv s w h).mono fun e w' ht => ?_
  unfold PS.tell
  rw [show s.ps.bad = s.bad from rfl]
  rcases ht with ⟨h0, rfl, hc⟩ | ⟨h0, v, rfl, ho, hf, hc⟩
  · rw [if_neg h0]
    exact ⟨_, rfl, .inl ⟨rfl, _, _, rfl⟩, (fun k hk => by cases hk), hc⟩
  · rw [if_pos h0, h0]
    exact ⟨v, rfl, ho, hf, hc⟩

theorem Bk.fresh {w : World} {b : Nat} {lv : Value} {vs : List (Value × List Value)} (h : Bk w b lv vs) {k : Nat} (hk : w.heap.size ≤ k) : Bk.not b lv vs k :=
  ⟨by have := h.pb.lt; omega, fun hl => by have := (h.own.lt k hl).2; omega, fun j v xs hj hv => by have := ((h.row j v xs hj).lt k hv).2; omega⟩

/-- One list more is in the book, and nothing else turns. -/
def Told (w : World) (b : Nat) (lv : Value) (vs : List (Value × List Value)) (e : Ending) (w' : World) : Prop :=
  e = .returned (.bool true) ∧ ∃ lv' v xs, Bk w' b lv' (vs ++ [(v, xs)]) ∧ xs.length ≤ 4096 ∧ Chg (b :: lv.ownBlock.toList) w w' ∧ ∀ k, k < w.heap.size → Bk.not b lv vs k → Bk.not b lv' (vs ++ [(v, xs)]) k

theorem told_of {w w1 w2 w3 : World} {b : Nat} {lv lv' v : Value} {vs : List (Value × List Value)} {xs : List Value} {q : Nat} (_hk : Bk w b lv vs) (c1 : Chg [] w w1) (hv : ∀ k, v.ownBlock = some k → w.heap.size ≤ k) (c2 : Chg [] w1 w2)
    (hs : BkStep w2 b lv (vs ++ [(v, xs)]) w3 lv') (hx : xs.length ≤ 4096) : Told w b lv vs (.returned (.bool true)) (w3.drewN q) := by
  have c3 : Chg [] w3 (w3.drewN q) := (Chg.refl _ _).drewN q
  have z1 := c1.size
  have z2 := c2.size
  refine ⟨rfl, lv', v, xs, hs.bk.chg c3 (by simp), hx, (((c1.trans c2).mono (by simp)).trans hs.chg).drewN q, fun k hk1 hn => ⟨hn.1, fun hl => ?_, fun j v' xs' hj hb => ?_⟩⟩
  · rcases hs.blk with h | ⟨k', h, h2⟩
    · rw [h] at hl; exact hn.2.1 hl
    · rw [h] at hl
      obtain rfl : k' = k := by simpa using hl
      omega
  · by_cases hjl : j < vs.length
    · rw [List.getElem?_append_left hjl] at hj
      exact hn.2.2 j v' xs' hj hb
    · have hj2 : j < (vs ++ [(v, xs)]).length := (List.getElem?_eq_some_iff.1 hj).1
      obtain rfl : j = vs.length := by simp at hj2; omega
      rw [List.getElem?_append_right (Nat.le_refl _), Nat.sub_self] at hj
      have := Option.some.inj hj
      simp only [Prod.mk.injEq] at this
      rw [← this.1] at hb
      have := hv k hb
      omega

set_option maxHeartbeats 1000000 in
set_option maxRecDepth 100000 in
theorem told_any (b g b3 b4 : Nat) (hv lv : Value) (r : RP) (vs : List (Value × List Value)) (w : World) (hp : Pk w b g r.ps) (hr : Rp w b3 hv r) (hk : Bk w b4 lv vs) (hl : vs.length ≤ 1000000) :
    Calls Try.prog 20 #[.pointer (some ⟨b, 0, none⟩), .pointer (some ⟨b3, 0, none⟩), .pointer (some ⟨b4, 0, none⟩)] w (Told w b4 lv vs) := by
  have htl : r.ps.tell.length ≤ 4096 := by
    unfold PS.tell
    split
    · rw [RP.ps_len hr.le]; exact hr.top
    · simp
  have hb1 := bytes_all b g _ w hp
  rw [show r.ps.bad = r.bad from rfl] at hb1
  have R := Lib.hid hr
  have K := Lib.hid hk
  have hb4 := hk.pb.lt
  clear hp hr hk
  go_enter Try.func20, Try.ntmps20
  go_wp2_with fail
  refine hb1.mono ?_
  rintro e w1 ⟨v, rfl, ho, hc1⟩
  clear hb1
  have O := Lib.hid ho
  have C1 := Lib.hid hc1
  clear ho hc1
  go_wp2_with fail
  refine (refBytes_all b3 hv r w1 (R.out.chg C1.out (by simp) (by simp))).mono ?_
  rintro e w2 ⟨v2, rfl, hs2, hf2, hc2⟩
  have S2 := Lib.hid hs2
  have F2 := Lib.hid hf2
  have C2 := Lib.hid hc2
  clear hs2 hf2 hc2
  have z1 := C1.out.size
  have K2 := Lib.hid ((K.out.chg C1.out (by simp)).chg C2.out (by simp))
  go_wp2_with fail
  refine (book_bytes b4 lv vs v (r.ps.tell.map (Value.int .u8)) w2 K2.out (by rw [List.length_map]; exact ownsRow_base (owns_chg O.out C2.out (by simp)) (by omega)) (fun k hk => K.out.fresh (O.out.lt k hk).1) hl).mono ?_
  rintro e w3 ⟨lv', rfl, hbs⟩
  have BS := Lib.hid hbs
  have S1 : Hid (Sl w3 v r.ps.tell) := by
    have h := hbs.bk.row vs.length v (r.ps.tell.map (Value.int .u8)) (by simp)
    exact Sl.owned h
  have S3 : Hid (Sl w3 v2 r.ps.tell) := S2.out.chg hbs.chg (fun k hk hm => by
    have h := (K.out.chg C1.out (by simp)).fresh (F2.out k hk)
    rcases List.mem_cons.1 hm with q | q
    · exact h.1 q
    · exact h.2.1 (by simpa using q))
  clear hbs
  have T := Lib.hid (fun q => told_of (q := q) K.out C1.out (fun k hk => (O.out.lt k hk).1) C2.out BS.out (by rw [List.length_map]; exact htl))
  go_wp2_with fail
  refine (same_true _ _ _ _ S1.out S3.out (by omega)).mono ?_
  rintro e w4 ⟨rfl, q, rfl⟩
  go_wp2_with fail
  go_ret
  exact T.out q

end Go.Proofs.Ytbinoailpceonaa
