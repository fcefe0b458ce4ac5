/-
  A book of lists that came out: its racks stand beside its own block. By an AI agent.
-/
import Derived.Test.YtnkdgmnmmmjgjaaGreatBGPool
import Derived.Test.YtnkdgmnmmmjgjaaGreatBGArr
import Derived.Test.YtnkdgmnmmmjgjaaGreatBGOwnBytes
import Derived.Test.YtnkdgmnmmmjgjaaGreatBGNats
namespace Go.Proofs.YtnkdgmnmmmjgjaaGreat
open Go.RowKit

set_option maxHeartbeats 1000000 in
set_option maxRecDepth 100000 in
theorem bookBytes_side {w0 w : World} {ts : List Thing} {e0 : TypeId} {b : Nat} {cs : List Value} {lv v : Value} {vs : List (Value × List Value)} {xs : List Value} (h : Side w0 w (ownT e0 v xs :: rackT 5 55 lv vs :: blkT b 50 cs :: ts)) (hc : cs[0]? = some lv) (hl : vs.length ≤ 1000000) :
    Calls Tryz.prog 32 #[.pointer (some ⟨b, 0, none⟩), v] w fun e w' => e = .returned (.tuple #[]) ∧ ∃ lv', Hid (Side w0 w' (rackT 5 55 lv' (vs ++ [(v, xs)]) :: blkT b 50 (cs.set 0 lv') :: ts)) := by
  obtain ⟨j0, ki, kz0, kz1, kz2⟩ := info_parts info_bytes
  replace ki := Lib.hid ki
  replace kz0 := Lib.hid kz0
  replace kz1 := Lib.hid kz1
  replace kz2 := Lib.hid kz2
  have hv : w.ownsRow 0 e0 1 v xs.length xs := h.get 0 rfl
  have hr : Rack w 5 55 lv vs := h.get 1 rfl
  have hb : Blk w b 50 cs := h.get 2 rfl
  obtain ⟨vo, vc, rfl⟩ := owns_slice hv
  obtain ⟨lo, lc, rfl⟩ := owns_slice hr.own
  have c0 := hb.cell hc
  have RO := Lib.hid hr.own
  have H := Lib.hid h
  have HC := Lib.hid hc
  have hci : 0 < cs.length := (List.getElem?_eq_some_iff.1 hc).1
  clear hv hr hb h hc
  go_enter Tryz.func32, Tryz.ntmps32
  go_wp2_with (with_reducible refine wpList_append_three _ rfl (.tmp 8) (.tmp 10) 28 rfl 0 55 j0 (.slice none 0 0) 1 24 Tryz.underlying28 ki.out kz0.out kz1.out kz2.out rfl (by decide) _ vs.length _ rfl (RO.out.alloc _) ⟨w.heap.size, 0, none⟩ 1 1 [.slice vo xs.length vc] rfl rfl (new_cell _ _ _) (by simp [Value.oneCell']) (by unfold maxLen; omega) (by omega) (Nat.zero_le _) ?_)
  intro lv' wn ol gr nb
  have H2 := Lib.hid (H.out.shelve ol.out gr.out nb.out)
  have hb2 : Blk wn b 50 cs := H2.out.get 1 rfl
  have c1 : wn.cell? ⟨b, 0, none⟩ = some (.slice lo vs.length lc) := hb2.cell HC.out
  have f1 := hb2.free 0
  obtain ⟨no, nc, rfl⟩ := owns_slice ol.out
  have H3 : Hid (Side w0 (wn.setCell ⟨b, 0, none⟩ (.slice no (vs.length + 1) nc)) (rackT 5 55 (.slice no (vs.length + 1) nc) (vs ++ [(.slice vo xs.length vc, xs)]) :: blkT b 50 (cs.set 0 (.slice no (vs.length + 1) nc)) :: ts)) :=
    H2.out.turnAt 1 rfl (s := [b]) ((Chg.refl _ _).setCell (.inl (by simp)) _) (fun k hk => .inl hk) (hb2.set 0 _) (fun k hk => .inl hk)
  clear ol gr nb hb2 H2 H RO c0
  go_wp2_with fail
  go_end0
  exact ⟨rfl, _, H3⟩

theorem ownBytes_rack {w : World} {lv : Value} {vs : List (Value × List Value)} (h : Rack w 5 55 lv vs) (hl : vs.length ≤ 1000000) (hlen : ∀ p ∈ vs, p.2.length ≤ 140737488355000) :
    Calls Tryz.prog 34 #[lv] w fun e w' => e = .returned (.bool true) ∧ Chg (rowsOf vs) w w' := by
  obtain ⟨lo, lc, rfl⟩ := owns_slice h.own
  rcases h.own.2 with ⟨hv, h0⟩ | ⟨g, cap, cur, hv, _, hg, _⟩
  · obtain ⟨rfl, h1, rfl⟩ : lo = none ∧ vs.length = 0 ∧ lc = 0 := by simpa using hv
    rw [h1]
    exact (own8_nil none 0 w).mono fun e w' ⟨he, hw⟩ => ⟨he, by rw [← hw]; exact Chg.refl _ _⟩
  · obtain ⟨rfl, rfl⟩ : lo = some ⟨g, 0, none⟩ ∧ lc = cap := by simpa using hv
    exact own8_any 0 g 0 lc vs w (h.owns (Array.getElem?_eq_some_iff.1 hg).1) hl (Nat.zero_le _) (fun j v xs hj => hlen _ (List.mem_of_getElem? hj))

end Go.Proofs.YtnkdgmnmmmjgjaaGreat
