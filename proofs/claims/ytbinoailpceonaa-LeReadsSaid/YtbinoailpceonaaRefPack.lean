/-
  The document's packer, call by call. By an AI agent.
-/
import Derived.Test.YtbinoailpceonaaOwnMem
import Derived.Test.YtbinoailpceonaaLeNew
import Derived.Test.YtbinoailpceonaaLeArith
namespace Go.Proofs.Ytbinoailpceonaa
open Go.RowKit

structure RP where
  size : Nat
  had : List Int
  bad : Int

def RP.put (s : RP) (xs : List Int) : RP :=
  if s.bad = 0 then (if s.had.length + xs.length ≤ s.size then { s with had := s.had ++ xs } else { s with bad := 10 }) else s

/-- The same, as the packer has it. -/
def RP.ps (s : RP) : PS := ⟨s.had ++ List.replicate (s.size - s.had.length) 0, s.had.length, s.bad⟩

theorem RP.ps_len {s : RP} (h : s.had.length ≤ s.size) : s.ps.bs.length = s.size := by simp [RP.ps]; omega

theorem RP.ps_put {s : RP} (h : s.had.length ≤ s.size) (xs : List Int) : (s.put xs).ps = s.ps.put xs := by
  have hl := RP.ps_len h
  unfold RP.put PS.put
  by_cases h0 : s.bad = 0
  · rw [if_pos h0, if_pos (show s.ps.bad = 0 from h0)]
    by_cases h1 : s.had.length + xs.length ≤ s.size
    · rw [if_pos h1, if_pos (show s.ps.pos + xs.length ≤ s.ps.bs.length by rw [hl]; exact h1)]
      simp only [RP.ps, lay, List.length_append, PS.mk.injEq, h0, and_true]
      rw [List.take_left, List.drop_append, List.drop_eq_nil_of_le (by omega), List.nil_append, List.drop_replicate]
      congr 2
      omega
    · rw [if_neg h1, if_neg (show ¬ s.ps.pos + xs.length ≤ s.ps.bs.length by rw [hl]; exact h1)]
      rfl
  · rw [if_neg h0, if_neg (show ¬ s.ps.bad = 0 from h0)]

/-- The document's packer at block b; what it had lies in a row of its own behind it. -/
structure Rp (w : World) (b : Nat) (hv : Value) (s : RP) : Prop where
  pb : Blk w b 93 [.int .i64 s.size, hv, .int .u16 s.bad]
  own : w.ownsRow (b + 1) 5 1 hv s.had.length (s.had.map (Value.int .u8))
  le : s.had.length ≤ s.size
  top : s.size ≤ 4096
  bad : s.bad = 0 ∨ s.bad = 10

theorem Rp.chg {w w' : World} {t : List Nat} {b : Nat} {hv : Value} {s : RP} (h : Rp w b hv s) (c : Chg t w w') (hb : b ∉ t) (hh : ∀ k, hv.ownBlock = some k → k ∉ t) : Rp w' b hv s :=
  ⟨h.pb.chg c hb, owns_chg h.own c hh, h.le, h.top, h.bad⟩

theorem Rp.c0 {w : World} {b : Nat} {hv : Value} {s : RP} (h : Rp w b hv s) : w.cell? ⟨b, 0, none⟩ = some (.int .i64 s.size) := h.pb.cell rfl
theorem Rp.c1 {w : World} {b : Nat} {hv : Value} {s : RP} (h : Rp w b hv s) : w.cell? ⟨b, 1, none⟩ = some hv := h.pb.cell rfl
theorem Rp.c2 {w : World} {b : Nat} {hv : Value} {s : RP} (h : Rp w b hv s) : w.cell? ⟨b, 2, none⟩ = some (.int .u16 s.bad) := h.pb.cell rfl

/-- What a call of it turns: itself, its row, and new memory. -/
structure RpStep (w : World) (b : Nat) (hv : Value) (s' : RP) (w' : World) (hv' : Value) : Prop where
  rp : Rp w' b hv' s'
  chg : Chg (b :: hv.ownBlock.toList) w w'
  blk : hv'.ownBlock = hv.ownBlock ∨ ∃ k, hv'.ownBlock = some k ∧ w.heap.size ≤ k

set_option maxHeartbeats 400000 in
theorem refLeft_cells (b size n c : Nat) (ao : Option Addr) (w : World) (hs : size ≤ 4096) (hn : n ≤ size)
    (h0 : w.cell? ⟨b, 0, none⟩ = some (.int .i64 size)) (h1 : w.cell? ⟨b, 1, none⟩ = some (.slice ao n c)) :
    Calls Try.prog 50 #[.pointer (some ⟨b, 0, none⟩)] w fun e w' => e = .returned (.int .i64 ((size : Int) - n)) ∧ ∃ q, w' = w.drewN q := by
  go_enter Try.func50, Try.ntmps50
  go_wp2
  go_quiet (fail)
  go_wp2
  go_ret
  exact ⟨rfl, _, rfl⟩

theorem refLeft_any (b : Nat) (hv : Value) (s : RP) (w : World) (h : Rp w b hv s) :
    Calls Try.prog 50 #[.pointer (some ⟨b, 0, none⟩)] w fun e w' => e = .returned (.int .i64 ((s.size : Int) - s.had.length)) ∧ ∃ q, w' = w.drewN q := by
  obtain ⟨ao, c, rfl⟩ := owns_slice h.own
  exact refLeft_cells b _ _ c ao w h.top h.le h.c0 h.c1

/-- fits: yes, and nothing turns; or no. -/
def Fits01 (w : World) (b : Nat) (hv : Value) (s : RP) (n : Nat) (e : Ending) (w' : World) : Prop :=
  (s.bad = 0 ∧ s.had.length + n ≤ s.size ∧ e = .returned (.bool true) ∧ ∃ q, w' = w.drewN q) ∨
  (¬ (s.bad = 0 ∧ s.had.length + n ≤ s.size) ∧ e = .returned (.bool false) ∧ ∀ xs : List Int, xs.length = n → RpStep w b hv (s.put xs) w' hv)

set_option maxHeartbeats 400000 in
theorem fits_any (b : Nat) (hv : Value) (s : RP) (n : Nat) (w : World) (h : Rp w b hv s) (_hn : n ≤ 9223372036854775807) :
    Calls Try.prog 78 #[.pointer (some ⟨b, 0, none⟩), .int .i64 n] w (Fits01 w b hv s n) := by
  have hleft := refLeft_any b hv s w h
  have h2 := h.c2
  have f2 := h.pb.free 2
  have hle := h.le
  have htop := h.top
  by_cases h0 : s.bad = 0
  · rw [h0] at h2
    by_cases h1 : s.had.length + n ≤ s.size
    · have H0 := Lib.hid h0
      clear h0 h
      go_enter Try.func78, Try.ntmps78
      go_wp2_with (go_at_call 50; refine hleft.mono ?_; rintro e w' ⟨rfl, q, rfl⟩)
      go_ret
      exact .inl ⟨H0.out, h1, rfl, q, rfl⟩
    · have H : Hid (∀ q, ∀ xs : List Int, xs.length = n → RpStep w b hv (s.put xs) ((w.drewN q).setCell ⟨b, 2, none⟩ (.int .u16 10)) hv) := by
        intro q xs hx
        have hc : Chg [b] w ((w.drewN q).setCell ⟨b, 2, none⟩ (.int .u16 10)) := ((Chg.refl _ _).drewN q).setCell (.inl (by simp)) _
        unfold RP.put
        rw [if_pos h0, if_neg (by rw [hx]; exact h1)]
        refine ⟨⟨(h.pb.drewN q).set 2 _, owns_chg h.own hc (fun k hk => ?_), h.le, h.top, .inr rfl⟩, hc.mono (by simp), .inl rfl⟩
        have := (h.own.lt k hk).1
        simp
        omega
      have H0 := Lib.hid h0
      clear h0 h
      go_enter Try.func78, Try.ntmps78
      go_wp2_with (go_at_call 50; refine hleft.mono ?_; rintro e w' ⟨rfl, q, rfl⟩)
      go_ret
      exact .inr ⟨fun hh => h1 hh.2, rfl, H.out q⟩
  · have hbb : (s.bad != 0) = true := by simpa using h0
    have H : Hid (∀ xs : List Int, xs.length = n → RpStep w b hv (s.put xs) w hv) := by
      intro xs hx
      unfold RP.put
      rw [if_neg h0]
      exact ⟨h, Chg.refl _ _, .inl rfl⟩
    have H0 := Lib.hid h0
    clear h0 h hleft
    go_enter Try.func78, Try.ntmps78
    go_wp2_with fail
    go_ret
    exact .inr ⟨fun hh => H0.out hh.1, rfl, H.out⟩

/-- One append more, and its result stored. -/
theorem RpStep.grow {w0 w wn : World} {b : Nat} {hv hv1 hv' : Value} {s : RP} {ys news : List Int} {u : List Value} (hu : u = news.map (Value.int .u8)) (h : RpStep w0 b hv { s with had := ys } w hv1) (hl : ys.length + news.length ≤ s.size)
    {wm : World} (hm : Chg [] w wm) (ho : wn.ownsRow (b + 1) 5 1 hv' (ys.length + news.length) (ys.map (Value.int .u8) ++ u)) (hg : wm.grownBy wn hv1.ownBlock)
    (hb : hv'.ownBlock = hv1.ownBlock ∨ ∃ K, hv'.ownBlock = some K ∧ w.heap.size ≤ K) :
    RpStep w0 b hv { s with had := ys ++ news } (wn.setCell ⟨b, 1, none⟩ hv') hv' := by
  have hz0 := h.chg.size
  have hz1 := hm.size
  have c1 : Chg hv1.ownBlock.toList w wn := (hm.mono (by simp)).grown hg (fun k hk => .inl (by rw [hk]; simp))
  have hbn : b ∉ hv1.ownBlock.toList := fun hk => by have := (h.rp.own.lt b (by simpa using hk)).1; omega
  have hp := h.rp.pb.chg c1 hbn
  have c2 : Chg [b] wn (wn.setCell ⟨b, 1, none⟩ hv') := (Chg.refl _ _).setCell (.inl (by simp)) _
  refine ⟨⟨hp.set 1 hv', ?_, by simpa using hl, h.rp.top, h.rp.bad⟩, ?_, ?_⟩
  · have := owns_chg ho c2 (fun k hk => by have := (ho.lt k hk).1; simp; omega)
    simpa [hu] using this
  · refine (h.chg.fresh (c1.mono (t := b :: hv1.ownBlock.toList) (by intro k hk; exact List.mem_cons_of_mem _ hk)) (fun k hk => ?_)).trans (c2.mono (by simp))
    rcases List.mem_cons.1 hk with rfl | hk
    · exact .inl (by simp)
    · have hk' : hv1.ownBlock = some k := by simpa using hk
      rcases h.blk with q | ⟨k', q, hge⟩
      · rw [q] at hk'; exact .inl (by simp [hk'])
      · rw [q] at hk'
        obtain rfl : k' = k := by simpa using hk'
        exact .inr hge
  · rcases hb with hb | ⟨K, hb, hK⟩
    · rw [hb]; exact h.blk
    · exact .inr ⟨K, hb, by omega⟩

/-- A call that puts, done. -/
def RpDone (w : World) (b : Nat) (hv : Value) (s' : RP) (e : Ending) (w' : World) : Prop := ∃ hv', e = .returned (.tuple #[]) ∧ RpStep w b hv s' w' hv'

theorem RpStep.refl {w : World} {b : Nat} {hv : Value} {s : RP} (h : Rp w b hv s) : RpStep w b hv s w hv := ⟨h, Chg.refl _ _, .inl rfl⟩

theorem RpStep.drewN {w w' : World} {b : Nat} {hv hv' : Value} {s : RP} (h : RpStep w b hv s w' hv') (q : Nat) : RpStep w b hv s (w'.drewN q) hv' :=
  ⟨h.rp.chg (t := []) ((Chg.refl _ _).drewN q) (by simp) (by simp), h.chg.drewN q, h.blk⟩

theorem RP.put_fit {s : RP} {xs : List Int} (h0 : s.bad = 0) (h1 : s.had.length + xs.length ≤ s.size) : s.put xs = { s with had := s.had ++ xs } := by
  unfold RP.put
  rw [if_pos h0, if_pos h1]

/-- One byte more: the append, and the store of its result, as the walk meets them. -/
theorem pow_next (v : Int) (k : Nat) : v / 2 ^ (8 * k) / 256 = v / 2 ^ (8 * (k + 1)) := by
  rw [Int.ediv_ediv_of_nonneg (Int.le_of_lt (Int.pow_pos (by decide))), Nat.mul_add, Int.pow_add]
  rfl

set_option maxHeartbeats 1000000 in
set_option maxRecDepth 100000 in
theorem refNumber_any (b : Nat) (hv : Value) (s : RP) (n : Nat) (v : Int) (w : World) (h : Rp w b hv s) (_hn : 0 < n) (hn8 : n ≤ 8) (hv0 : 0 ≤ v) (hv1 : v ≤ 18446744073709551615) :
    Calls Try.prog 47 #[.pointer (some ⟨b, 0, none⟩), .int .u64 v, .int .i64 n] w (RpDone w b hv (s.put (leBytes n v))) := by
  have hf := fits_any b hv s n w h (by omega)
  obtain ⟨i0, hi, hz0, hz1, hz2⟩ := info_parts info_u8
  replace hi := Lib.hid hi
  replace hz0 := Lib.hid hz0
  replace hz1 := Lib.hid hz1
  replace hz2 := Lib.hid hz2
  have htop := h.top
  have H := Lib.hid h
  clear h
  go_enter Try.func47, Try.ntmps47
  go_wp2_with fail
  refine hf.mono ?_
  clear hf
  rintro e w1 (⟨h0, h1, rfl, q, rfl⟩ | ⟨-, rfl, hst⟩)
  · have h0' := Lib.hid h0
    clear h0
    go_wp2_with fail
    go_loopw [1, 6] (fun x i wr => ∃ k : Nat, k ≤ n ∧ i = .int .i64 k ∧ x = .int .u64 (v / 2 ^ (8 * k)) ∧ ∃ hk, Hid (RpStep w b hv { s with had := s.had ++ leBytes k v } wr hk)) (fun _ i _ => n - (intOf i).toNat)
    case atStart => exact ⟨0, Nat.zero_le _, rfl, by simp, hv, by rw [leBytes, List.append_nil]; exact (RpStep.refl H.out).drewN q⟩
    case round =>
      obtain ⟨k, hk, rfl, rfl, hk', J⟩ := hrel
      by_cases hlt : k < n
      · have hp : (0 : Int) < 2 ^ (8 * k) := Int.pow_pos (by decide)
        have x0 : 0 ≤ v / 2 ^ (8 * k) := Int.ediv_nonneg hv0 (Int.le_of_lt hp)
        have x1 : v / 2 ^ (8 * k) ≤ 18446744073709551615 := Int.le_trans (Int.ediv_le_self _ hv0) hv1
        have hs := Lib.hid (leBytes_snoc k v)
        have hnx := Lib.hid (pow_next v k)
        generalize v / 2 ^ (8 * k) = x at *
        clear hp
        obtain ⟨ys, hys⟩ : ∃ ys, s.had ++ leBytes k v = ys := ⟨_, rfl⟩
        have hyl : ys.length = s.had.length + k := by rw [← hys, List.length_append, leBytes_length]
        have hy1 : ys.length + 1 ≤ s.size := by omega
        rw [hys] at J
        have HYS := Lib.hid hys
        clear hys hyl
        have c1 := J.out.rp.c1
        have f1 := J.out.rp.pb.free 1
        have hbl := J.out.rp.pb.lt
        go_wp2_with (with_reducible refine wpList_append_three _ rfl (.tmp 19) (.tmp 23) 47 rfl (b + 1) 5 i0 (.int .u8 0) 1 1 Try.underlying47 hi.out hz0.out hz1.out hz2.out rfl (by decide) _ _ _ rfl (J.out.rp.own.alloc _) ⟨wr.heap.size, 0, none⟩ 1 1 [.int .u8 (x % 256)] rfl rfl (new_cell _ _ _) (by simp [Value.oneCell']) (by unfold maxLen; simp only; omega) (by simp only; omega) (by simp; omega) ?_)
        intro hv2 wn ol gr nb
        have G : Hid (RpStep w b hv { s with had := ys ++ [x % 256] } (wn.setCell ⟨b, 1, none⟩ hv2) hv2) :=
          RpStep.grow (news := [x % 256]) rfl J.out hy1 (wm := wr.alloc (.cells #[.int .u8 (x % 256)] 5)) ((Chg.refl _ _).alloc _) ol.out gr.out (by
            rcases nb.out with q | ⟨q, _⟩
            · exact .inl q
            · exact .inr ⟨_, q, by omega⟩)
        have hpb := (J.out.rp.pb.alloc (.cells #[.int .u8 (x % 256)] 5)).chg (chg_of_grown gr.out) (fun hm => by have := (J.out.rp.own.lt b (by simpa using hm)).1; omega)
        have f2 := hpb.free 1
        obtain ⟨u, hu⟩ : ∃ u, wn.cell? ⟨b, 1, none⟩ = some u := ⟨_, hpb.cell (j := 1) rfl⟩
        obtain ⟨no, nn, nc, hnv⟩ : ∃ no nn nc, hv2 = .slice no nn nc := by obtain ⟨a, c, h⟩ := owns_slice ol.out; exact ⟨_, _, _, h⟩
        subst hnv
        rw [← HYS.out, List.append_assoc] at G
        clear ol gr nb J hpb c1 f1
        go_wp2_with fail
        refine ⟨⟨k + 1, by omega, by go_num, by rw [hnx.out], .slice no nn nc, ?_⟩, by simp [intOf]; omega⟩
        rw [hs.out]
        exact G
      · obtain rfl : k = n := by omega
        have hfin := Lib.hid (RP.put_fit (xs := leBytes k v) h0'.out (by rw [leBytes_length]; exact h1))
        go_wp2_with fail
        go_end0
        exact ⟨_, rfl, by rw [hfin.out]; exact J.out⟩
  · go_wp2_with fail
    go_end0
    exact ⟨_, rfl, hst _ (leBytes_length _ _)⟩

end Go.Proofs.Ytbinoailpceonaa
