/-
  XorGroup walked. By an AI agent.
-/
import Derived.Test.YtaciamnfkidmfaaXorSums
namespace Go.Proofs.Ytaciamnfkidmfaa
open Go.RowKit

/-- Rows that are there, each as a call may take it. -/
def Oks (w : World) (l : List RowD) : Prop := ∀ d ∈ l, Ok w d

theorem Oks.chg {w w' : World} {l : List RowD} (h : Oks w l) (c : Chg [] w w') : Oks w' l := fun d hd => (h d hd).chg c

theorem Oks.more {w w' : World} {l : List RowD} {d : RowD} (h : Oks w l) (c : Chg [] w w') (o : Ok w' d) : Oks w' (l ++ [d]) := fun x hx => by
  rcases List.mem_append.1 hx with hx | hx
  · exact (h x hx).chg c
  · rw [List.mem_singleton.1 hx]; exact o

/-- What comes of rows of one length, in memory of its own. -/
def Told (w : World) (n : Nat) (rs : List (List Nat)) (e : Ending) (w' : World) : Prop :=
  ∃ ao c, e = .returned (.tuple #[.slice ao n c, .int .u16 0]) ∧ Hid (Ok w' ⟨.slice ao n c, ints (Xr.ors n rs)⟩) ∧ Hid (Chg [] w w')

theorem told_of {w w1 w' : World} {n : Nat} {ds : List RowD} {e : Ending} (h0 : ds ≠ []) (hl : Xr.Len n (rowsN ds)) (hb : Xr.Bss (rowsN ds)) (hn : n ≤ 1000000) (c0 : Chg [] w w1) (h : Gives w1 (ofVal (rowsN ds)) (ofErr (rowsN ds)) e w') : Told w n (rowsN ds) e w' := by
  have hne : rowsN ds ≠ [] := fun e => h0 (by simpa [rowsN] using e)
  rw [ofErr_ok hne hl, ofVal_ok hne hl] at h
  obtain ⟨u, he, O, C⟩ := h
  have o := O.out
  rw [Xr.ors_length] at o
  obtain ⟨ao, c, hu⟩ := owns_slice o
  subst hu
  exact ⟨ao, c, he, Ok.own O.out (Xr.ors_bs hb n) (by rw [Xr.ors_length]; exact hn), c0.trans C.out⟩

theorem oks_bss {w : World} {ds : List RowD} (h : ∀ d ∈ ds, Ok w d) : Xr.Bss (rowsN ds) := by
  intro r hr
  obtain ⟨d, hd, rfl⟩ := List.mem_map.1 hr
  exact nats_bs (h d hd).2.1

theorem oks_len {n : Nat} {ds : List RowD} (h : ∀ d ∈ ds, d.bs.length = n) : Xr.Len n (rowsN ds) := by
  intro r hr
  obtain ⟨d, hd, rfl⟩ := List.mem_map.1 hr
  rw [nats_length]
  exact h d hd

/-- Of, at rows that have just been put into a list. -/
theorem of_made (w : World) (b n : Nat) (ds : List RowD) (hb : b = w.heap.size) (h : ∀ d ∈ ds, Ok w d) (hl : ∀ d ∈ ds, d.bs.length = n) (h0 : ds ≠ []) (hn : n ≤ 1000000) (hds : ds.length ≤ 1000000) :
    Calls Try.prog 14 #[.slice (some ⟨b, 0, none⟩) ds.length ds.length] (w.alloc (.cells (ds.map (·.v)).toArray 25)) (Told w n (rowsN ds)) :=
  (of_any _ ds _ (rws_ok b h hds hb) hds (fun d hd => (h d hd).2.2)).mono fun _ _ hg => told_of h0 (oks_len hl) (oks_bss h) hn ((Chg.refl _ _).alloc _) hg

theorem even_made (w : World) (b n : Nat) (ds : List RowD) (hb : b = w.heap.size) (h : ∀ d ∈ ds, Ok w d) (hl : ∀ d ∈ ds, d.bs.length = n) (h0 : ds ≠ []) (hds : ds.length ≤ 1000000) :
    Calls Try.prog 15 #[.slice (some ⟨b, 0, none⟩) ds.length ds.length] (w.alloc (.cells (ds.map (·.v)).toArray 25)) fun e w' => e = .returned (.tuple #[.bool ((Xr.ors n (rowsN ds)).all (· == 0)), .int .u16 0]) ∧ Hid (Chg [] w w') := by
  refine (even_any _ ds _ (rws_ok b h hds hb) hds (fun d hd => (h d hd).2.2)).mono ?_
  rintro e w' ⟨he, C⟩
  have hne : rowsN ds ≠ [] := fun e => h0 (by simpa [rowsN] using e)
  have E : evenVal (rowsN ds) = (Xr.ors n (rowsN ds)).all (· == 0) := by
    unfold evenVal
    rw [ofErr_ok hne (oks_len hl), ofVal_ok hne (oks_len hl)]
    simp
  rw [E, ofErr_ok hne (oks_len hl)] at he
  exact ⟨he, ((Chg.refl _ _).alloc _).trans C.out⟩

theorem all_noughts (n : Nat) : (Xr.noughts n).all (· == 0) = true := by
  unfold Xr.noughts
  rw [List.all_eq_true]
  intro x hx
  rw [(List.mem_replicate.1 hx).2]
  rfl

/-- A row cut short. -/
theorem ok_cut {w : World} {ao : Option Addr} {m c n : Nat} {xs : List Int} (h : Sl w (.slice ao m c) xs) (hm : m = xs.length) (hby : By xs) (hn : n ≤ m) (hl : n ≤ 1000000) : Ok w ⟨.slice ao n c, xs.take n⟩ :=
  ⟨h.pre n hn, hby.take n, by show (xs.take n).length ≤ _; simp; omega⟩

set_option maxHeartbeats 8000000 in
set_option maxRecDepth 100000 in
theorem group_walk (d0 d1 d2 : RowD) (w9 : World) (hs : ∀ d ∈ [d0, d1, d2], Sl w9 d.v d.bs ∧ By d.bs ∧ d.bs.length ≤ 140737488355328) (hc : ∀ d ∈ [d0, d1, d2], ∀ ao n c, d.v = .slice ao n c → n ≤ c) :
    Calls Try.prog 9 #[d0.v, d1.v, d2.v] w9 fun e w' => e = .returned (.bool true) ∧ Chg [] w9 w' := by
  have hr := rws_made (c := 3) hs (by simp)
  obtain ⟨a0, c0, e0⟩ := (hs d0 (by simp)).1.slice
  obtain ⟨a1, c1, e1⟩ := (hs d1 (by simp)).1.slice
  obtain ⟨a2, c2, e2⟩ := (hs d2 (by simp)).1.slice
  have q0 := hc d0 (by simp) _ _ _ e0
  have q1 := hc d1 (by simp) _ _ _ e1
  have q2 := hc d2 (by simp) _ _ _ e2
  have h3 : ([d0, d1, d2] : List RowD).length = 3 := rfl
  rw [show ([d0, d1, d2] : List RowD).map (·.v) = [d0.v, d1.v, d2.v] from rfl, h3] at hr
  have S0 := Lib.hid (hs d0 (by simp))
  have S1 := Lib.hid (hs d1 (by simp))
  have S2 := Lib.hid (hs d2 (by simp))
  rw [e0] at S0
  rw [e1] at S1
  rw [e2] at S2
  rw [e0, e1, e2] at hr ⊢
  clear e0 e1 e2 hc hs h3
  have DW : Hid (Chg [] w9 (w9.alloc (.cells #[.slice a0 d0.bs.length c0, .slice a1 d1.bs.length c1, .slice a2 d2.bs.length c2] 25))) := (Chg.refl _ _).alloc _
  have hm := much_any _ _ _ hr
  cases hmb : muchB [d0, d1, d2] with
  | true =>
    rw [hmb] at hm
    go_enter Try.func9, Try.ntmps9
    go_wp2_with fail
    refine hm.mono ?_
    rintro e w' ⟨rfl, rfl⟩
    go_wp2_with fail
    go_ret
    exact ⟨rfl, DW.out⟩
  | false =>
    rw [hmb] at hm
    obtain ⟨-, hsm⟩ := not_much hmb
    have l0 := hsm d0 (by simp)
    have l1 := hsm d1 (by simp)
    have l2 := hsm d2 (by simp)
    obtain ⟨n, hn⟩ : ∃ n : Nat, min (d0.bs.length : Int) (min (d1.bs.length : Int) (d2.bs.length : Int)) = (n : Int) := ⟨min d0.bs.length (min d1.bs.length d2.bs.length), by omega⟩
    have hcut := fun w => cut_any a0 a1 a2 n _ _ _ c0 c1 c2 w hn q0 q1 q2 (by omega)
    have n0 : n ≤ d0.bs.length := by omega
    have n1 : n ≤ d1.bs.length := by omega
    have n2 : n ≤ d2.bs.length := by omega
    have OK : Hid (Oks w9 [⟨.slice a0 n c0, d0.bs.take n⟩, ⟨.slice a1 n c1, d1.bs.take n⟩, ⟨.slice a2 n c2, d2.bs.take n⟩]) := all3 (ok_cut S0.out.1 rfl S0.out.2.1 n0 (by omega)) (ok_cut S1.out.1 rfl S1.out.2.1 n1 (by omega)) (ok_cut S2.out.1 rfl S2.out.2.1 n2 (by omega))
    have t0 : Hid ((d0.bs.take n).length = n) := by show _ = _; simp; omega
    have t1 : Hid ((d1.bs.take n).length = n) := by show _ = _; simp; omega
    have t2 : Hid ((d2.bs.take n).length = n) := by show _ = _; simp; omega
    have hn6 : n ≤ 1000000 := by omega
    generalize d0.bs.take n = x at *
    generalize d1.bs.take n = y at *
    generalize d2.bs.take n = z at *
    clear S0 S1 S2 hn n0 n1 n2 q0 q1 q2 hsm hmb hr
    have iN : ∀ rs, (ints (Xr.ors n rs)).length = n := fun rs => by rw [ints_length, Xr.ors_length]
    replace iN := Lib.hid iN
    go_enter Try.func9, Try.ntmps9
    go_wp2_with fail
    refine hm.mono ?_
    clear hm
    rintro e w1 ⟨rfl, hw⟩
    rw [hw] at DW
    clear hw l0 l1 l2
    replace OK := Lib.hid (OK.out.chg DW.out)
    go_wp2_with fail
    refine (hcut w1).mono ?_
    clear hcut
    rintro e w2 ⟨rfl, q, hw⟩
    have C : Hid (Chg [] w1 w2) := by rw [hw]; exact (Chg.refl [] _).drewN _
    clear hw
    replace OK := Lib.hid (OK.out.chg C.out)
    have D := Lib.hid (DW.out.trans C.out)
    clear C DW
    have s := of_made w2 w2.heap.size n [⟨.slice a0 n c0, x⟩, ⟨.slice a1 n c1, y⟩] rfl (fun d hd => OK.out d (by
          have : d = ⟨.slice a0 n c0, x⟩ ∨ d = ⟨.slice a1 n c1, y⟩ := by simpa using hd
          rcases this with rfl | rfl <;> simp)) (fun d hd => by
          have : d = ⟨.slice a0 n c0, x⟩ ∨ d = ⟨.slice a1 n c1, y⟩ := by simpa using hd
          rcases this with rfl | rfl <;> first | exact t0.out | exact t1.out | exact t2.out | exact iN.out _) (by simp) hn6 (by simp)
    go_wp2_with fail
    refine s.mono ?_
    clear s
    rintro e w3 ⟨aop, cop, rfl, O, C⟩
    replace OK := Lib.hid (OK.out.more C.out O.out)
    replace D := Lib.hid (D.out.trans C.out)
    clear O C
    have s := of_made w3 w3.heap.size n [⟨.slice a1 n c1, y⟩, ⟨.slice a2 n c2, z⟩] rfl (fun d hd => OK.out d (by
          have : d = ⟨.slice a1 n c1, y⟩ ∨ d = ⟨.slice a2 n c2, z⟩ := by simpa using hd
          rcases this with rfl | rfl <;> simp)) (fun d hd => by
          have : d = ⟨.slice a1 n c1, y⟩ ∨ d = ⟨.slice a2 n c2, z⟩ := by simpa using hd
          rcases this with rfl | rfl <;> first | exact t0.out | exact t1.out | exact t2.out | exact iN.out _) (by simp) hn6 (by simp)
    go_wp2_with fail
    refine s.mono ?_
    clear s
    rintro e w4 ⟨aoq, coq, rfl, O, C⟩
    replace OK := Lib.hid (OK.out.more C.out O.out)
    replace D := Lib.hid (D.out.trans C.out)
    clear O C
    go_wp2_with fail
    refine (known_any w4).mono ?_
    rintro e w5 ⟨rfl, C⟩
    replace OK := Lib.hid (OK.out.chg C.out)
    replace D := Lib.hid (D.out.trans C.out)
    clear C
    have s := of_made w5 w5.heap.size n [⟨.slice aop n cop, ints (Xr.ors n (rowsN [⟨.slice a0 n c0, x⟩, ⟨.slice a1 n c1, y⟩]))⟩, ⟨.slice a2 n c2, z⟩] rfl (fun d hd => OK.out d (by
          have : d = ⟨.slice aop n cop, ints (Xr.ors n (rowsN [⟨.slice a0 n c0, x⟩, ⟨.slice a1 n c1, y⟩]))⟩ ∨ d = ⟨.slice a2 n c2, z⟩ := by simpa using hd
          rcases this with rfl | rfl <;> simp)) (fun d hd => by
          have : d = ⟨.slice aop n cop, ints (Xr.ors n (rowsN [⟨.slice a0 n c0, x⟩, ⟨.slice a1 n c1, y⟩]))⟩ ∨ d = ⟨.slice a2 n c2, z⟩ := by simpa using hd
          rcases this with rfl | rfl <;> first | exact t0.out | exact t1.out | exact t2.out | exact iN.out _) (by simp) hn6 (by simp)
    go_wp2_with fail
    refine s.mono ?_
    clear s
    rintro e w6 ⟨aol, col, rfl, O, C⟩
    replace OK := Lib.hid (OK.out.more C.out O.out)
    replace D := Lib.hid (D.out.trans C.out)
    clear O C
    have s := of_made w6 w6.heap.size n [⟨.slice a0 n c0, x⟩, ⟨.slice aoq n coq, ints (Xr.ors n (rowsN [⟨.slice a1 n c1, y⟩, ⟨.slice a2 n c2, z⟩]))⟩] rfl (fun d hd => OK.out d (by
          have : d = ⟨.slice a0 n c0, x⟩ ∨ d = ⟨.slice aoq n coq, ints (Xr.ors n (rowsN [⟨.slice a1 n c1, y⟩, ⟨.slice a2 n c2, z⟩]))⟩ := by simpa using hd
          rcases this with rfl | rfl <;> simp)) (fun d hd => by
          have : d = ⟨.slice a0 n c0, x⟩ ∨ d = ⟨.slice aoq n coq, ints (Xr.ors n (rowsN [⟨.slice a1 n c1, y⟩, ⟨.slice a2 n c2, z⟩]))⟩ := by simpa using hd
          rcases this with rfl | rfl <;> first | exact t0.out | exact t1.out | exact t2.out | exact iN.out _) (by simp) hn6 (by simp)
    go_wp2_with fail
    refine s.mono ?_
    clear s
    rintro e w7 ⟨aor, cor, rfl, O, C⟩
    replace OK := Lib.hid (OK.out.more C.out O.out)
    replace D := Lib.hid (D.out.trans C.out)
    clear O C
    have s := of_made w7 w7.heap.size n [⟨.slice a0 n c0, x⟩, ⟨.slice a0 n c0, x⟩] rfl (fun d hd => OK.out d (by
          have : d = ⟨.slice a0 n c0, x⟩ ∨ d = ⟨.slice a0 n c0, x⟩ := by simpa using hd
          rcases this with rfl | rfl <;> simp)) (fun d hd => by
          have : d = ⟨.slice a0 n c0, x⟩ ∨ d = ⟨.slice a0 n c0, x⟩ := by simpa using hd
          rcases this with rfl | rfl <;> first | exact t0.out | exact t1.out | exact t2.out | exact iN.out _) (by simp) hn6 (by simp)
    go_wp2_with fail
    refine s.mono ?_
    clear s
    rintro e w8 ⟨aon, con, rfl, O, C⟩
    replace OK := Lib.hid (OK.out.more C.out O.out)
    replace D := Lib.hid (D.out.trans C.out)
    clear O C
    have s := of_made w8 w8.heap.size n [⟨.slice a0 n c0, x⟩, ⟨.slice aon n con, ints (Xr.ors n (rowsN [⟨.slice a0 n c0, x⟩, ⟨.slice a0 n c0, x⟩]))⟩] rfl (fun d hd => OK.out d (by
          have : d = ⟨.slice a0 n c0, x⟩ ∨ d = ⟨.slice aon n con, ints (Xr.ors n (rowsN [⟨.slice a0 n c0, x⟩, ⟨.slice a0 n c0, x⟩]))⟩ := by simpa using hd
          rcases this with rfl | rfl <;> simp)) (fun d hd => by
          have : d = ⟨.slice a0 n c0, x⟩ ∨ d = ⟨.slice aon n con, ints (Xr.ors n (rowsN [⟨.slice a0 n c0, x⟩, ⟨.slice a0 n c0, x⟩]))⟩ := by simpa using hd
          rcases this with rfl | rfl <;> first | exact t0.out | exact t1.out | exact t2.out | exact iN.out _) (by simp) hn6 (by simp)
    go_wp2_with fail
    refine s.mono ?_
    clear s
    rintro e w9 ⟨aos, cos, rfl, O, C⟩
    replace OK := Lib.hid (OK.out.more C.out O.out)
    replace D := Lib.hid (D.out.trans C.out)
    clear O C
    have s := of_made w9 w9.heap.size n [⟨.slice a0 n c0, x⟩, ⟨.slice a1 n c1, y⟩, ⟨.slice a2 n c2, z⟩] rfl (fun d hd => OK.out d (by
          have : d = ⟨.slice a0 n c0, x⟩ ∨ d = ⟨.slice a1 n c1, y⟩ ∨ d = ⟨.slice a2 n c2, z⟩ := by simpa using hd
          rcases this with rfl | rfl | rfl <;> simp)) (fun d hd => by
          have : d = ⟨.slice a0 n c0, x⟩ ∨ d = ⟨.slice a1 n c1, y⟩ ∨ d = ⟨.slice a2 n c2, z⟩ := by simpa using hd
          rcases this with rfl | rfl | rfl <;> first | exact t0.out | exact t1.out | exact t2.out | exact iN.out _) (by simp) hn6 (by simp)
    go_wp2_with fail
    refine s.mono ?_
    clear s
    rintro e w10 ⟨aoa, coa, rfl, O, C⟩
    replace OK := Lib.hid (OK.out.more C.out O.out)
    replace D := Lib.hid (D.out.trans C.out)
    clear O C
    have eL : Hid (Xr.ors n (rowsN [⟨.slice aop n cop, ints (Xr.ors n (rowsN [⟨.slice a0 n c0, x⟩, ⟨.slice a1 n c1, y⟩]))⟩, ⟨.slice a2 n c2, z⟩]) = Xr.ors n [nats x, nats y, nats z]) := by
      show _ = _
      rw [show rowsN [⟨.slice aop n cop, ints (Xr.ors n (rowsN [⟨.slice a0 n c0, x⟩, ⟨.slice a1 n c1, y⟩]))⟩, ⟨.slice a2 n c2, z⟩] = [Xr.ors n [nats x, nats y], nats z] by simp [rowsN, nats_ints]]
      exact Xr.ors_put [] [nats x, nats y] [nats z]
    have eR : Hid (Xr.ors n (rowsN [⟨.slice a0 n c0, x⟩, ⟨.slice aoq n coq, ints (Xr.ors n (rowsN [⟨.slice a1 n c1, y⟩, ⟨.slice a2 n c2, z⟩]))⟩]) = Xr.ors n [nats x, nats y, nats z]) := by
      show _ = _
      rw [show rowsN [⟨.slice a0 n c0, x⟩, ⟨.slice aoq n coq, ints (Xr.ors n (rowsN [⟨.slice a1 n c1, y⟩, ⟨.slice a2 n c2, z⟩]))⟩] = [nats x, Xr.ors n [nats y, nats z]] by simp [rowsN, nats_ints]]
      exact Xr.ors_put [nats x] [nats y, nats z] []
    have eA : Hid (Xr.ors n (rowsN [⟨.slice a0 n c0, x⟩, ⟨.slice a1 n c1, y⟩, ⟨.slice a2 n c2, z⟩]) = Xr.ors n [nats x, nats y, nats z]) := rfl
    have hxl : (nats x).length = n := by rw [nats_length]; exact t0.out
    have eS : Hid (Xr.ors n (rowsN [⟨.slice a0 n c0, x⟩, ⟨.slice aon n con, ints (Xr.ors n (rowsN [⟨.slice a0 n c0, x⟩, ⟨.slice a0 n c0, x⟩]))⟩]) = nats x) := by
      show _ = _
      rw [show rowsN [⟨.slice a0 n c0, x⟩, ⟨.slice aon n con, ints (Xr.ors n (rowsN [⟨.slice a0 n c0, x⟩, ⟨.slice a0 n c0, x⟩]))⟩] = [nats x, Xr.ors n [nats x, nats x]] by simp [rowsN, nats_ints]]
      have h1 := Xr.ors_put (n := n) [nats x] [nats x, nats x] []
      have h2 := Xr.ors_twice (n := n) [nats x] [] [] (nats x)
      exact (h1.trans h2).trans (Xr.ors_one hxl)
    have eE : Hid (Xr.ors n (rowsN [⟨.slice aon n con, ints (Xr.ors n (rowsN [⟨.slice a0 n c0, x⟩, ⟨.slice a0 n c0, x⟩]))⟩]) = Xr.noughts n) := by
      show _ = _
      rw [show rowsN [⟨.slice aon n con, ints (Xr.ors n (rowsN [⟨.slice a0 n c0, x⟩, ⟨.slice a0 n c0, x⟩]))⟩] = [Xr.ors n [nats x, nats x]] by simp [rowsN, nats_ints], Xr.ors_one (Xr.ors_length _ _)]
      have h2 := Xr.ors_twice (n := n) [] [] [] (nats x)
      exact h2.trans (Xr.ors_nil n)
    clear hxl
    have s := even_made w10 w10.heap.size n [⟨.slice aon n con, ints (Xr.ors n (rowsN [⟨.slice a0 n c0, x⟩, ⟨.slice a0 n c0, x⟩]))⟩] rfl (fun d hd => OK.out d (by rw [List.mem_singleton.1 hd]; simp)) (fun d hd => by
      rw [List.mem_singleton.1 hd]
      exact iN.out _) (by simp) (by simp)
    rw [eE.out, all_noughts] at s
    go_wp2_with fail
    refine s.mono ?_
    clear s
    rintro e w11 ⟨rfl, C⟩
    replace OK := Lib.hid (OK.out.chg C.out)
    replace D := Lib.hid (D.out.trans C.out)
    clear C
    have hA : Hid ((ints (Xr.ors n [nats x, nats y, nats z])).length ≤ 140737488355328) := by show _ ≤ _; rw [iN.out]; omega
    have okl : ∀ w', Oks w' [⟨.slice a0 n c0, x⟩, ⟨.slice a1 n c1, y⟩, ⟨.slice a2 n c2, z⟩, ⟨.slice aop n cop, ints (Xr.ors n (rowsN [⟨.slice a0 n c0, x⟩, ⟨.slice a1 n c1, y⟩]))⟩, ⟨.slice aoq n coq, ints (Xr.ors n (rowsN [⟨.slice a1 n c1, y⟩, ⟨.slice a2 n c2, z⟩]))⟩, ⟨.slice aol n col, ints (Xr.ors n (rowsN [⟨.slice aop n cop, ints (Xr.ors n (rowsN [⟨.slice a0 n c0, x⟩, ⟨.slice a1 n c1, y⟩]))⟩, ⟨.slice a2 n c2, z⟩]))⟩, ⟨.slice aor n cor, ints (Xr.ors n (rowsN [⟨.slice a0 n c0, x⟩, ⟨.slice aoq n coq, ints (Xr.ors n (rowsN [⟨.slice a1 n c1, y⟩, ⟨.slice a2 n c2, z⟩]))⟩]))⟩, ⟨.slice aon n con, ints (Xr.ors n (rowsN [⟨.slice a0 n c0, x⟩, ⟨.slice a0 n c0, x⟩]))⟩, ⟨.slice aos n cos, ints (Xr.ors n (rowsN [⟨.slice a0 n c0, x⟩, ⟨.slice aon n con, ints (Xr.ors n (rowsN [⟨.slice a0 n c0, x⟩, ⟨.slice a0 n c0, x⟩]))⟩]))⟩, ⟨.slice aoa n coa, ints (Xr.ors n (rowsN [⟨.slice a0 n c0, x⟩, ⟨.slice a1 n c1, y⟩, ⟨.slice a2 n c2, z⟩]))⟩] →
        Sl w' (.slice aol n col) (ints (Xr.ors n [nats x, nats y, nats z])) ∧ Sl w' (.slice aor n cor) (ints (Xr.ors n [nats x, nats y, nats z])) ∧ Sl w' (.slice aoa n coa) (ints (Xr.ors n [nats x, nats y, nats z])) ∧ Sl w' (.slice aos n cos) x ∧ Sl w' (.slice a0 n c0) x := fun w' h => by
      have r1 := (h _ (show (⟨.slice aol n col, ints (Xr.ors n (rowsN [⟨.slice aop n cop, ints (Xr.ors n (rowsN [⟨.slice a0 n c0, x⟩, ⟨.slice a1 n c1, y⟩]))⟩, ⟨.slice a2 n c2, z⟩]))⟩ : RowD) ∈ _ by simp)).1
      have r2 := (h _ (show (⟨.slice aor n cor, ints (Xr.ors n (rowsN [⟨.slice a0 n c0, x⟩, ⟨.slice aoq n coq, ints (Xr.ors n (rowsN [⟨.slice a1 n c1, y⟩, ⟨.slice a2 n c2, z⟩]))⟩]))⟩ : RowD) ∈ _ by simp)).1
      have r3 := (h _ (show (⟨.slice aoa n coa, ints (Xr.ors n (rowsN [⟨.slice a0 n c0, x⟩, ⟨.slice a1 n c1, y⟩, ⟨.slice a2 n c2, z⟩]))⟩ : RowD) ∈ _ by simp)).1
      have r4 := (h _ (show (⟨.slice aos n cos, ints (Xr.ors n (rowsN [⟨.slice a0 n c0, x⟩, ⟨.slice aon n con, ints (Xr.ors n (rowsN [⟨.slice a0 n c0, x⟩, ⟨.slice a0 n c0, x⟩]))⟩]))⟩ : RowD) ∈ _ by simp)).1
      have r5 := h ⟨.slice a0 n c0, x⟩ (by simp)
      rw [eL.out] at r1
      rw [eR.out] at r2
      rw [eA.out] at r3
      rw [eS.out, ints_nats r5.2.1] at r4
      exact ⟨r1, r2, r3, r4, r5.1⟩
    have OL := Lib.hid okl
    clear okl
    go_wp2_with fail
    refine (same_true _ _ _ w11 (OL.out w11 OK.out).1 (OL.out w11 OK.out).2.1 hA.out).mono ?_
    rintro e w12 ⟨rfl, q, hw⟩
    have C : Hid (Chg [] w11 w12) := by rw [hw]; exact (Chg.refl [] _).drewN _
    clear hw
    replace OK := Lib.hid (OK.out.chg C.out)
    replace D := Lib.hid (D.out.trans C.out)
    clear C
    go_wp2_with fail
    refine (same_true _ _ _ w12 (OL.out w12 OK.out).1 (OL.out w12 OK.out).2.2.1 hA.out).mono ?_
    rintro e w13 ⟨rfl, q, hw⟩
    have C : Hid (Chg [] w12 w13) := by rw [hw]; exact (Chg.refl [] _).drewN _
    clear hw
    replace OK := Lib.hid (OK.out.chg C.out)
    replace D := Lib.hid (D.out.trans C.out)
    clear C
    have hxn : x.length ≤ 140737488355328 := by rw [t0.out]; omega
    have s := same_true _ _ x w13 (OL.out w13 OK.out).2.2.2.1 (OL.out w13 OK.out).2.2.2.2 hxn
    clear hxn
    go_wp2_with fail
    refine s.mono ?_
    rintro e w14 ⟨rfl, q, hw⟩
    have C : Hid (Chg [] w13 w14) := by rw [hw]; exact (Chg.refl [] _).drewN _
    clear hw
    go_wp2_with fail
    go_ret
    exact ⟨rfl, D.out.trans C.out⟩

end Go.Proofs.Ytaciamnfkidmfaa
