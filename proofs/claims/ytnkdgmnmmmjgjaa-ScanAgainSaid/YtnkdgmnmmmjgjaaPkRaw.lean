/-
  Bytes put by the slice, and how many are put. By an AI agent.
-/
import Derived.Test.YtnkdgmnmmmjgjaaPkFill
namespace Go.Proofs.Ytnkdgmnmmmjgjaa
open Go.RowKit

set_option maxHeartbeats 400000 in
set_option maxRecDepth 100000 in
theorem raw_any (b g : Nat) (s : PS) (v : Value) (xs : List Int) (w : World) (h : Pk w b g s) (hv : Sl w v xs) (hne : ∀ k, 0 < xs.length → v.ownBlock = some k → k ≠ b) (hx : By xs) (hbig : xs.length ≤ 140737488355328) :
    Calls Try.prog 53 #[.pointer (some ⟨b, 0, none⟩), v] w (Puts w b g s xs) := by
  obtain ⟨ao, c, rfl⟩ := hv.slice
  have HV := Lib.hid hv
  have HN := Lib.hid hne
  have HX := Lib.hid hx
  have HS := Lib.hid h
  clear hv hne hx
  by_cases h0 : s.bad = 0
  · by_cases hr : s.pos + xs.length ≤ s.bs.length
    · have hroom := room_ok b g s.pos s.bs.length xs.length w h.top hr h.c0 h.c1 (by rw [h.c2, h0]) (h.pb.free 1)
      obtain ⟨dp, hdp⟩ : ∃ dp, (if s.bs.length = s.pos then some ⟨g, 0, none⟩ else some ⟨g, s.pos, none⟩ : Option Addr) = dp := ⟨_, rfl⟩
      rw [hdp] at hroom
      have HD : Hid (0 < xs.length → dp = some ⟨g, s.pos, none⟩) := fun hp => by rw [← hdp, if_neg (by omega)]
      have H0 := Lib.hid h0
      have HR := Lib.hid hr
      clear h h0 hr hdp
      go_enter Try.func53, Try.ntmps53
      go_wp2_with (first
        | (go_at_call 58; refine hroom.mono ?_; rintro e w' ⟨rfl, q, rfl⟩)
        | (with_reducible refine wpList_copy_blk rfl (.tmp 7) (.tmp 8) 23 23 rfl 5 Try.underlying23 size_u8 dp ao xs.length (s.bs.length - s.pos) xs.length c rfl rfl g s.pos (s.bs.map (Value.int .u8)) 5 ?k1 (xs.map (Value.int .u8)) ?k2 ?k3 ?k4 ?k5 ?_))
      case k1 => exact (HS.out.pg.other HS.out.ne _).drewN q
      case k2 => simp
      case k3 =>
        intro hp
        have hp' : 0 < xs.length := by simpa using hp
        refine ⟨HD.out hp', ?_⟩
        rcases HV.out with ⟨rfl, _⟩ | ⟨b', o', c', hv', hb', hc'⟩
        · simp at hp'
        · obtain ⟨rfl, rfl⟩ : ao = some ⟨b', o', none⟩ ∧ c = c' := by simpa using hv'
          refine ⟨_, rfl, fun j u hj => ?_⟩
          have hjn : j < xs.length := by simpa using (List.getElem?_eq_some_iff.1 hj).1
          have e : (xs.map (Value.int .u8))[j]? = some (Value.int .u8 (xs.getD j 0)) := by simp [List.getD, List.getElem?_eq_getElem hjn]
          rw [Addr.add_lit, World.cell?_drewN, ← hj, e, ← hc' j hjn]
          exact ((Chg.refl [b] w).setCell (.inl (by simp)) _).cell (p := ⟨b', o' + j, none⟩) hb' (by simpa using HN.out b' hp' rfl)
      case k4 => simpa using HR.out
      case k5 => intro u hu; obtain ⟨x, _, rfl⟩ := List.mem_map.1 hu; rfl
      intro w2 hg hc
      go_wp2
      go_end0
      refine puts_fit HS.out H0.out HR.out HX.out ?_ (by rw [map_lay]; exact hg.out) ?_
      · have := (HS.out.pb.set 1 (.int .i64 ((s.pos : Int) + xs.length))).drewN q
        rw [H0.out] at this
        exact this.chg hc.out (by simpa using HS.out.ne)
      · exact (((Chg.refl [b, g] w).setCell (.inl (by simp)) _).drewN q).trans (hc.out.mono (by simp))
    · have hroom := room_full b g s.pos s.bs.length xs.length w h.top h.le (by omega) (by omega) h.c0 h.c1 (by rw [h.c2, h0]) (h.pb.free 2)
      have H := Lib.hid (fun q => puts_full (xs := xs) q h h0 hr)
      clear h h0 hr
      go_enter Try.func53, Try.ntmps53
      go_wp2_with (first
        | (go_at_call 58; refine hroom.mono ?_; rintro e w' ⟨rfl, q, rfl⟩)
        | (with_reducible refine wpList_copy_nothing rfl (.tmp 7) (.tmp 8) 23 23 rfl 5 Try.underlying23 size_u8 none ao 0 0 xs.length c rfl rfl (by simp) ?_))
      go_end0
      exact H.out q
  · have hroom := room_bad b s.bad xs.length w (by simpa using h0) h.c2
    have H := Lib.hid (puts_bad (xs := xs) h h0)
    clear h h0
    go_enter Try.func53, Try.ntmps53
    go_wp2_with (first
      | (go_at_call 58; refine hroom.mono ?_; rintro e w' ⟨rfl, rfl⟩)
      | (with_reducible refine wpList_copy_nothing rfl (.tmp 7) (.tmp 8) 23 23 rfl 5 Try.underlying23 size_u8 none ao 0 0 xs.length c rfl rfl (by simp) ?_))
    go_end0
    exact H.out

set_option maxHeartbeats 400000 in
theorem atP_any (b g : Nat) (s : PS) (w : World) (h : Pk w b g s) :
    Calls Try.prog 55 #[.pointer (some ⟨b, 0, none⟩)] w fun e w' => e = .returned (.int .i64 s.pos) ∧ w = w' := by
  have h1 := h.c1
  clear h
  go_enter Try.func55, Try.ntmps55
  go_wp2
  go_ret
  exact ⟨rfl, rfl⟩

end Go.Proofs.Ytnkdgmnmmmjgjaa
